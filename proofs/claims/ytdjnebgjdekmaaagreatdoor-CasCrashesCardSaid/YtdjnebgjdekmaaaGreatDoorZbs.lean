/- The ends of CasCrashes' pure states; the store, the document's store and the script in memory, side by side. -/
import Derived.Test.YtdjnebgjdekmaaaGreatDoorZbr
import Derived.Test.YtdjnebgjdekmaaaGreatDoorZbj
import Derived.Test.YtdjnebgjdekmaaaGreatDoorZbp
set_option linter.unusedVariables false
set_option maxRecDepth 100000
namespace Go.Proofs.YtdjnebgjdekmaaaGreatDoor
section
open Go.RowKit Go.Maps Go.Shelf
theorem ZsAt.of_row {w : World} {A : Option Addr} {n c : Nat} {zs : List Int} (h : IsRow .i64 w A n c zs) : ZsAt w A n (zs.take n) ∧ ∀ z ∈ zs.take n, z ≤ 9223372036854775807 := by
 rcases h with ⟨rfl, rfl, rfl, rfl⟩ | ⟨x, rfl, hl, hm, hz, hcell, hwz⟩
 · exact ⟨⟨rfl, fun h0 => absurd h0 (Nat.lt_irrefl 0)⟩, fun z hz => by simp at hz⟩
 · refine ⟨⟨by rw [List.length_take]; omega, fun h0 => ?_⟩, fun z hzm => ?_⟩
   · have c0 := hcell 0 (by omega)
     have hsp : x.spot = none := World.cell?_spot (by simpa [Addr.add] using c0)
     obtain ⟨b, off, sp⟩ := x
     obtain rfl : sp = none := hsp
     refine ⟨b, off, rfl, ?_, fun j z hj => ?_⟩
     · have e : (⟨b, off, none⟩ : Addr).add 0 = ⟨b, off + 0, none⟩ := rfl
       rw [e] at c0
       exact World.block_lt_of_cell? w _ c0
     · have hj1 := (List.getElem?_eq_some_iff.1 hj).1
       rw [List.length_take] at hj1
       have cj := hcell j (by omega)
       have e : (⟨b, off, none⟩ : Addr).add j = ⟨b, off + j, none⟩ := by unfold Addr.add; split <;> simp_all
       rw [e] at cj
       rw [cj]
       rw [List.getElem?_take_of_lt (by omega)] at hj
       rw [List.getD_eq_getElem?_getD, hj]
       rfl
   · exact (bounds_i64 (hwz z (List.mem_of_mem_take hzm))).2
theorem recL_none (dn : Nat) : ∀ (l : List (ByteArray × List Nat)) (r : RD), (∀ q ∈ l, badQ dn q = false) → recL dn l false r = (0, r)
 | [], r, _ => rfl
 | (x, b) :: t, r, h => by
  rw [recL_go (fun hh => by
   have h1 := badQ_iff.2 (show namedB (x, b).1 = true ∧ soundN (x, b).1 (x, b).2 dn = none from hh)
   rw [h (x, b) (List.mem_cons_self ..)] at h1
   cases h1)]
  exact recL_none dn t r (fun q hq => h q (List.mem_cons_of_mem _ hq))
theorem recL_size (dn : Nat) : ∀ (l : List (ByteArray × List Nat)) (sm : Bool) (r : RD), Rises ltS r.sure → (∀ c ∈ r.chs, c.length ≤ 2) → (recL dn l sm r).2.size ≤ r.size + 4 * (l.length + 1)
 | [], sm, r, h1, h2 => by
  show (if sm = true then r.syncDir else (0, r)).2.size ≤ _
  have hp := r.powered_size
  have hc := r.powered_calls
  split
  · unfold RD.syncDir
    split
    · have h := (layAll_len r.chs r.sure h1 h2).2
      unfold RD.size at *
      show r.powered.calls + r.powered.files.length + r.now.length + 2 * 0 ≤ _
      rw [r.powered_files]
      unfold RD.now
      omega
    · show r.powered.size ≤ _; omega
  · show r.size ≤ _; omega
 | (x, b) :: t, sm, r, h1, h2 => by
  have hz := size_remove (r := r) x
  have hle : 4 * ((t.length + 1 : Nat) + 1) = 4 * (t.length + 1) + 4 := by omega
  rw [List.length_cons, hle]
  by_cases hb : namedB x = true ∧ soundN x b dn = none
  · rw [recL_rem hb]
    split
    · have ih := recL_size dn t true (r.remove x).2 (by
       unfold RD.remove
       split
       · show Rises ltS r.powered.sure; rw [r.powered_sure]; exact h1
       · show Rises ltS r.powered.sure; rw [r.powered_sure]; exact h1) (by
       unfold RD.remove
       split
       · intro c hc
         rcases List.mem_append.1 hc with q | q
         · exact h2 c q
         · rw [List.mem_singleton] at q; rw [q]; simp
       · show ∀ c ∈ r.powered.chs, c.length ≤ 2; rw [r.powered_chs]; exact h2)
      omega
    · omega
  · rw [recL_go hb]
    have ih := recL_size dn t sm r h1 h2
    omega
section
variable {puts : List (List Nat × List Nat)} {fs : List RF} {m : Nat} {r r3 r4 : RD}
theorem rec_size (F : Fct r3) (h : recR r3 1 = (0, r4)) : r4.size ≤ r3.size + 4 * (r3.now.length + 1) := by
 have h1 := recL_size 1 (filesR r3) false r3 F.rs F.two
 have h2 : (filesR r3).length = r3.now.length := by unfold filesR; rw [List.length_map, List.length_map]
 rw [h2] at h1
 have h3 : recL 1 (filesR r3) false r3 = (0, r4) := h
 rw [h3] at h1
 exact h1
theorem rec_names (hB : RecB 1 r3 r4) (F3 : Fct r3) (F4 : Fct r4) (h : ∀ p ∈ r3.now, nameOk p.1 = true) : ∀ p ∈ r4.now, p.1.size ≤ 1000 := by
 intro p hp
 obtain ⟨x, v⟩ := p
 have hh : hasP ltS r4.now x = true := by
  unfold hasP
  rw [(look_some orders_S F4.rn).2 hp]
  rfl
 rw [hB.has x, Bool.and_eq_true] at hh
 have h3 := hh.2
 unfold hasP at h3
 obtain ⟨u, hu⟩ := Option.isSome_iff_exists.1 h3
 have h1 := h _ ((look_some orders_S F3.rn).1 hu)
 unfold nameOk at h1
 rw [Bool.and_eq_true, decide_eq_true_eq] at h1
 show x.size ≤ 1000
 have h5 : x.size ≤ 80 := h1.2
 omega
theorem rec_again (hB : RecB 1 r3 r4) (F4 : Fct r4) : recR r4 1 = (0, r4) := by
 refine recL_none 1 _ r4 (fun q hq => ?_)
 unfold filesR at hq
 rw [List.map_map] at hq
 obtain ⟨p, hp, rfl⟩ := List.mem_map.1 hq
 obtain ⟨x, v⟩ := p
 have hh : hasP ltS r4.now x = true := by
  unfold hasP
  rw [(look_some orders_S F4.rn).2 hp]
  rfl
 rw [hB.has x, Bool.and_eq_true] at hh
 show badQ 1 (x, natsV (r4.get x).data) = false
 rw [hB.get x hh.1]
 have hk := hh.1
 unfold keepX at hk
 cases e : badQ 1 (x, natsV (r3.get x).data) with
 | false => rfl
 | true => rw [e] at hk; cases hk
theorem CrS.lostNames (C : CrS puts fs m r) (hL : LeftA puts fs r r3) (F3 : Fct r3) : ∀ p ∈ r3.now, nameOk p.1 = true := by
 intro p hp
 obtain ⟨x, v⟩ := p
 have hh : hasP ltS r3.now x = true := by
  unfold hasP
  rw [(look_some orders_S F3.rn).2 hp]
  rfl
 have hb : holdR r3 x = some (natsV (r3.get x).data) := by unfold holdR; rw [if_pos hh]
 have hS : ∀ b, sureH r x = some b → nameOk x = true := fun b h => by
  obtain ⟨k, a, s, hs, rfl, _⟩ := C.good x b h
  exact fileB_ok k 1 s (by omega) hs
 show nameOk x = true
 rcases hL with h | ⟨k, s, b, hs, h⟩ | ⟨k, a, s, hs, hka, hno, hns, h⟩ | ⟨y, hy, h⟩
 · rw [h] at hb
   exact hS _ hb
 · rw [h] at hb
   split at hb
   · rename_i e; rw [e]; exact spareF_ok k 1 s (by omega) hs
   · exact hS _ hb
 · rw [h] at hb
   split at hb
   · rename_i e; rw [e]; exact fileB_ok k 1 s (by omega) hs
   · exact hS _ hb
 · rw [h] at hb
   split at hb
   · cases hb
   · exact hS _ hb
theorem CrS.lostSmall (C : CrS puts fs m r) (dir : Int) (zs : List Int) : SmallD (r.crash dir zs) := by
 refine small_of (fun f hf => ?_)
 obtain ⟨i, _, rfl⟩ := List.mem_map.1 (show f ∈ (r.keep dir).map fun i => RD.cutF zs i (r.file i) from hf)
 show ((r.file i).data.take _).length ≤ 90000
 rw [List.length_take]
 have : (r.file i).data.length ≤ 416 := by
  unfold RD.file
  rw [List.getD_eq_getElem?_getD]
  cases e : r.files[i]? with
  | none => exact Nat.zero_le _
  | some f => exact C.small f (List.mem_of_getElem? e)
 omega
theorem CrS.lostSize (C : CrS puts fs m r) (F : Fct r) (dir : Int) (zs : List Int) : (r.crash dir zs).size ≤ 8 * m + 4 ∧ (r.crash dir zs).now.length ≤ 2 * m + 4 := by
 have h1 : (r.keep dir).length ≤ r.files.length := by unfold RD.keep; exact Nat.le_trans (List.length_filter_le _ _) (by simp)
 have h2 : (r.left dir).length ≤ r.sure.length + 2 * r.chs.length := by unfold RD.left; exact lay_len r F.rs F.two dir.toNat
 have h3 := C.nfiles
 have h4 := C.nsure
 have h5 := C.nchs
 have h6 := C.ncalls
 have e1 : (r.crash dir zs).files.length = (r.keep dir).length := by show ((r.keep dir).map _).length = _; rw [List.length_map]
 have e2 : (r.crash dir zs).sure.length = (r.left dir).length := by show ((r.left dir).map _).length = _; rw [List.length_map]
 have e3 : (r.crash dir zs).now = (r.crash dir zs).sure := rfl
 refine ⟨?_, by rw [e3, e2]; omega⟩
 show (r.crash dir zs).calls + (r.crash dir zs).files.length + (r.crash dir zs).sure.length + 2 * 0 ≤ _
 rw [e1, e2]
 show r.calls + _ + _ + 2 * 0 ≤ _
 omega
theorem CrF.was (H : CrF puts fs r4) (hP : PutsOk puts) {l art : List Nat} {s : Nat} (h : findR r4 l 1 = some (s, art)) : (l, art) ∈ puts := by
 obtain ⟨hs, hh⟩ := findR_lt h
 unfold hitR at hh
 cases e : (holdR r4 (fileB l 1 s)).bind splitE with
 | none => rw [e] at hh; cases hh
 | some p =>
  obtain ⟨k', a'⟩ := p
  rw [e] at hh
  simp only at hh
  split at hh
  · rename_i hk
    cases hh
    obtain ⟨b, e1, e2⟩ := Option.bind_eq_some_iff.1 e
    obtain ⟨k, a, s', hs', _, rfl, hka⟩ := H.good _ _ e1
    obtain ⟨q1, q2⟩ := hP _ hka
    rw [split_entry k a (by simp only at q1; omega) (by simp only at q2; omega)] at e2
    cases e2
    rw [← hk]
    exact hka
  · cases hh
theorem CrF.sees (H : CrF puts fs r4) {l want : List Nat} {s : Nat} (h : rget fs l 1 = some (s, want)) : ∃ t, findR r4 l 1 = some (t, want) := by
 obtain ⟨hs, hh⟩ := rhit_lt h
 have hb : (holdR r4 (fileB l 1 s)).bind splitE = some (l, want) := by
  unfold rhit at hh
  rw [rfile_find] at hh
  cases e : fs.find? (isAt (fileB l 1 s)) with
  | none => rw [e] at hh; cases hh
  | some o =>
   rw [e] at hh
   have hd : fsH fs (fileB l 1 s) = some o.data := by unfold fsH; rw [e]; rfl
   rw [H.doc _ _ hd]
   show splitE o.data = some (l, want)
   have hh2 : (match splitE o.data with | some (k, a) => if k = l then some a else none | none => none) = some want := hh
   cases e2 : splitE o.data with
   | none => rw [e2] at hh2; cases hh2
   | some p =>
    obtain ⟨k, a⟩ := p
    rw [e2] at hh2
    simp only at hh2
    split at hh2
    · rename_i e3; cases hh2; rw [e3]
    · cases hh2
 have hit : hitR r4 l 1 s = some want := by
  unfold hitR
  rw [hb]
  exact if_pos rfl
 cases hf : findR r4 l 1 with
 | none =>
  unfold findR at hf
  rw [List.findSome?_eq_none_iff] at hf
  have h3 := hf s (List.mem_range.2 hs)
  rw [hit] at h3
  cases h3
 | some p =>
  obtain ⟨t, a⟩ := p
  obtain ⟨ht, hta⟩ := findR_lt hf
  have hb2 : (holdR r4 (fileB l 1 t)).bind splitE = some (l, a) := by
   unfold hitR at hta
   cases e : (holdR r4 (fileB l 1 t)).bind splitE with
   | none => rw [e] at hta; cases hta
   | some p =>
    obtain ⟨k, a'⟩ := p
    rw [e] at hta
    simp only at hta
    split at hta
    · rename_i e3; cases hta; rw [e3]
    · cases hta
  have hst := H.uniq l a want t s ht hs hb2 hb
  subst hst
  rw [hb] at hb2
  cases hb2
  exact ⟨t, rfl⟩
end
def keyN (o : KvR) : List Nat := (o.kz.take o.kn).map Int.toNat
def artN (o : KvR) : List Nat := (o.az.take o.an).map Int.toNat
def putsOf (L : List KvR) : List (List Nat × List Nat) := (L.filter fun o => decide (¬ o.kind % 5 = 3)).map fun o => (keyN o, artN o)
theorem KvR.In.keyRow {w : World} {o : KvR} (h : o.In w) : Held w o.kA o.kn o.kc (keyN o) ∧ o.kc ≤ 9223372036854775807 := by
 have hI := h.key
 refine ⟨⟨(RowZ.of_isRow hI).toN, ?_, ?_⟩, ?_⟩
 · intro hA
   rcases hI with ⟨_, _, h, _⟩ | ⟨x, e, _⟩
   · exact h
   · rw [hA] at e; cases e
 · rcases hI with ⟨_, h1, h2, _⟩ | ⟨x, _, hl, _⟩
   · omega
   · exact hl
 · rcases hI with ⟨_, h1, h2, _⟩ | ⟨x, _, hl, hm, _⟩
   · omega
   · unfold maxLen at hm; omega
theorem KvR.In.artRow {w : World} {o : KvR} (h : o.In w) : RowN w o.aA o.an (artN o) := (RowZ.of_isRow h.art).toN
theorem asZ_nat {zs : List Int} (h : ∀ z ∈ zs, 0 ≤ z ∧ z ≤ 255) : asZ (zs.map Int.toNat) = zs := by
 unfold asZ
 rw [List.map_map]
 conv => rhs; rw [← List.map_id zs]
 refine List.map_congr_left fun z hz => ?_
 have := h z hz
 show ((z.toNat : Nat) : Int) = z
 omega
theorem was6_yes {w : World} {L : List KvR} (hin : ∀ o ∈ L, o.In w) {k art : List Nat} (h : (k, art) ∈ putsOf L) : was6 L (strOfNums (asZ k)) (strOfNums (asZ art)) = true := by
 unfold putsOf at h
 obtain ⟨o, ho, e⟩ := List.mem_map.1 h
 obtain ⟨ho1, ho2⟩ := List.mem_filter.1 ho
 cases e
 unfold was6
 rw [List.any_eq_true]
 refine ⟨o, ho1, ?_⟩
 have h1 := (RowZ.of_isRow (hin o ho1).key).2.1
 have h2 := (RowZ.of_isRow (hin o ho1).art).2.1
 unfold hits6 keyN artN keyS artS
 rw [asZ_nat h1, asZ_nat h2]
 exact decide_eq_true ⟨rfl, rfl, of_decide_eq_true ho2⟩
theorem putsOf_ok {w : World} {L : List KvR} (hin : ∀ o ∈ L, o.In w) (hs : ∀ o ∈ L, o.kn ≤ 200 ∧ o.an ≤ 200) : PutsOk (putsOf L) := by
 intro p hp
 unfold putsOf at hp
 obtain ⟨o, ho, rfl⟩ := List.mem_map.1 hp
 have ho1 := (List.mem_filter.1 ho).1
 have h1 := (hin o ho1).keyRow.1.1.length
 have h2 := (hin o ho1).artRow.length
 have h3 := hs o ho1
 show (keyN o).length ≤ 200 ∧ (artN o).length ≤ 200
 omega
theorem mem_puts {L : List KvR} {o : KvR} (ho : o ∈ L) (hk : ¬ o.kind % 5 = 3) : (keyN o, artN o) ∈ putsOf L := by
 unfold putsOf
 exact List.mem_map.2 ⟨o, List.mem_filter.2 ⟨ho, decide_eq_true hk⟩, rfl⟩
structure CcS (W w0 : World) (K : List Nat) (w : World) (d s : Nat) (own : Nat → Nat) (A : Option Addr) (c : Nat) (fs : List RF) (r : RD) : Prop where
 on : Below W.heap.size W w
 zero : ∀ i, i < W.heap.size → own i = 0
 disk : IsD w d own r
 doc : RStX W.heap.size w own s 1 A c fs
 size : w0.heap.size ≤ w.heap.size
 kept : ∀ k ∈ K, k < w0.heap.size ∧ own k = 0 ∧ k ≠ s ∧ k ∉ blk A ∧ w.heap[k]? = w0.heap[k]?
section
variable {W w0 w w' : World} {K : List Nat} {d s : Nat} {own own' : Nat → Nat} {A : Option Addr} {c : Nat} {fs : List RF} {r r' : RD}
theorem CcS.only (h : CcS W w0 K w d s own A c fs r) (hO : Only own w own' w') (hD : IsD w' d own' r') : CcS W w0 K w' d s own' A c fs r' := by
 have hz := h.on.size
 refine ⟨h.on.trans (hO.toBelow h.zero hz), fun i hi => (hO.2.1 i (by omega)).trans (h.zero i hi), hD, h.doc.only hO, Nat.le_trans h.size hO.1.size, fun k hk => ?_⟩
 obtain ⟨q1, q2, q3, q4, q5⟩ := h.kept k hk
 have hs := h.size
 exact ⟨q1, (hO.2.1 k (by omega)).trans q2, q3, q4, (hO.2.2 k (by omega) q2).trans q5⟩
theorem CcS.below (h : CcS W w0 K w d s own A c fs r) (hb : Below w.heap.size w w') : CcS W w0 K w' d s own A c fs r := h.only (Only.of_below own hb) (h.disk.below hb)
theorem CcS.turn (h : CcS W w0 K w d s own A c fs r) {A' : Option Addr} {c' : Nat} {fs' : List RF} {L : List Nat} (hc : Chg L w w') (hL : ∀ k ∈ L, k = s ∨ k ∈ blk A) (hst : RSt w' s 1 A' c' fs') (hA : ∀ k ∈ blk A', k ∈ blk A ∨ w.heap.size ≤ k) (hD : ∀ o ∈ fs', ∀ k ∈ blk o.dA, W.heap.size ≤ k ∧ own k = 0 ∧ k < w'.heap.size ∧ k ≠ s ∧ k ∉ blk A') (hcap : ∀ o ∈ fs', o.data.length ≤ 90000 ∧ o.dc ≤ 9223372036854775807) : CcS W w0 K w' d s own A' c' fs' r := by
 have hz := h.on.size
 have hs0 := h.size
 have hlo : ∀ k ∈ L, W.heap.size ≤ k ∧ own k = 0 := fun k hk => by
  rcases hL k hk with rfl | q
  · exact h.doc.os
  · exact h.doc.oA k q
 refine ⟨h.on.trans (hc.toBelow (fun k hk => (hlo k hk).1) hz), h.zero, h.disk.chg hc (fun k hk => (hlo k hk).2), ⟨hst, h.doc.os, fun k hk => ?_, hD, hcap⟩, by have := hc.size; omega, fun k hk => ?_⟩
 · rcases hA k hk with q | q
   · exact h.doc.oA k q
   · exact ⟨by omega, h.disk.1 k q⟩
 · obtain ⟨q1, q2, q3, q4, q5⟩ := h.kept k hk
   refine ⟨q1, q2, q3, fun hm => ?_, (hc.same k (by omega) (fun hm => ?_)).trans q5⟩
   · rcases hA k hm with q | q
     · exact q4 q
     · omega
   · rcases hL k hm with e | e
     · exact q3 e
     · exact q4 e
end
end
section
open Go.RowKit Go.Shelf Go.Maps
theorem rootsC_laid {W : World} (hL : laidMetH Tryz.prog Rows.casCrashesRow.laid W) : RootsOk W := by
 rw [MakeChecks.laidMetH_plain _ _ _ (by kernel_rfl)] at hL
 have h : laidMet Tryz.prog [("brazier/digest.roots", Rows.laid_brazier_digest_roots)] W := hL.tail.tail.tail
 exact roots_of_laid (by rw [MakeChecks.laidMetH_plain _ _ _ (by kernel_rfl)]; exact h)
theorem get_form {r : RD} {l : List Nat} {B : Nat} {e : Ending} {W : World} (h : GetAns r l 1 B e W) : ∃ (art : List Nat) (okb : Bool) (A : Option Addr) (c : Nat), e = .returned (.tuple #[.slice A art.length c, .bool okb]) ∧ RowN W A art.length art ∧ (okb = true → ∃ t, findR r l 1 = some (t, art)) ∧ ∀ t a, findR r l 1 = some (t, a) → okb = true ∧ art = a := by
 unfold GetAns at h
 cases hf : findR r l 1 with
 | none =>
  rw [hf] at h
  exact ⟨[], false, none, 0, h, nilRowQ _, (fun e => by cases e), fun t a e => by cases e⟩
 | some p =>
  obtain ⟨s, a⟩ := p
  rw [hf] at h
  obtain ⟨A, c, rfl, hl, _⟩ := h
  exact ⟨a, true, A, c, rfl, hl.row, fun _ => ⟨s, rfl⟩, fun t b e => by cases e; exact ⟨rfl, rfl⟩⟩
set_option maxHeartbeats 12800000 in
theorem casCrashes_walk (a0 : Option Addr) (len0 cap0 : Nat) (os : List KvR) (a1 : Int) (dr : Int) (ak : Option Addr) (lk ck : Nat) (zk : List Int) (W : World) (w0 : KvRs W a0 len0 os) (c0 : len0 ≤ cap0) (c1 : cap0 ≤ maxLen) (w1 : (Lit.int .i64 a1).wf = true) (wd : (Lit.int .i64 dr).wf = true) (wk : IsRow .i64 W ak lk ck zk) (hL : laidMetH Tryz.prog Rows.casCrashesRow.laid W) :
 Calls Tryz.prog 3 #[.slice a0 len0 cap0, .int .i64 a1, .agg #[.int .i64 dr, .slice ak lk ck]] W fun e w' => e = .returned (.bool true) ∧ Below W.heap.size W w' := by
 have hR := rootsC_laid hL
 have hd64 := bounds_i64 wd
 have ha64 := bounds_i64 w1
 obtain ⟨W2, hW2⟩ : ∃ W2, W.alloc (.cells #[.int .i64 dr, .slice ak lk ck] 25) = W2 := ⟨_, rfl⟩
 have hb2 : Below W.heap.size W W2 := by rw [← hW2]; exact (Below.refl _ W).alloc (Nat.le_refl _) _
 have hx : W2.heap[W.heap.size]? = some (.cells #[.int .i64 dr, .slice ak lk ck] 25 (0, 0)) := by rw [← hW2]; exact heap_alloc_new W _
 obtain ⟨lb, hlb⟩ : ∃ lb, W.heap.size = lb := ⟨_, rfl⟩
 rw [hlb] at hx
 have y0 : W2.cell? ⟨lb, 0, none⟩ = some (.int .i64 dr) := by rw [cell_of_row _ lb 0 _ _ (0, 0) hx]; rfl
 have y1 : W2.cell? ⟨lb, 1, none⟩ = some (.slice ak lk ck) := by rw [cell_of_row _ lb 1 _ _ (0, 0) hx]; rfl
 have hlk0 : (0 : Int) ≤ (lk : Int) := by omega
 have HB2 := Lib.hid hb2
 have HR := Lib.hid hR
 by_cases h300 : 300 < lk
 · have h300' : (300 : Int) < (lk : Int) := by omega
   have HLV := Lib.hid (casLives W2 (hR.below hb2))
   clear hb2 hx hR w0 c0 c1 w1 wd wk hL
   go_enter Tryz.func3, Tryz.ntmps3
   go_wp2_with fail
   refine HLV.out.mono ?_
   rintro e w3 ⟨rfl, hb3⟩
   have HE := Lib.hid (HB2.out.trans (hb3.mono HB2.out.size))
   clear hb3 HLV
   go_wp2
   go_ret
   exact ⟨rfl, HE.out⟩
 · have h300' : ¬ (300 : Int) < (lk : Int) := by omega
   obtain ⟨hkz, hkb⟩ := ZsAt.of_row wk
   have HKZ := Lib.hid (And.intro hkz hkb)
   have HCUT := Lib.hid (cut6_any W2 a0 len0 cap0 os (w0.below hb2) c0 c1)
   have HIN : Hid (∀ o ∈ cut6 os, o.In W ∧ o.kn ≤ 200 ∧ o.an ≤ 200) := Lib.hid (fun o ho => ⟨w0.2.1 o (cut6_small ho).1, (cut6_small ho).2⟩)
   have HLN := Lib.hid (cut6_len os)
   have HX := Lib.hid hx
   have HLB := Lib.hid hlb
   clear hb2 hx hR w0 c0 c1 w1 wd wk hL hkz hkb
   generalize cut6 os = L at *
   obtain ⟨n, hn⟩ : ∃ n, L.length = n := ⟨_, rfl⟩
   rw [hn] at HCUT HLN
   have hn40 : (n : Int) ≤ 40 := by have := HLN.out; omega
   have HNE := Lib.hid hn
   clear hn
   go_enter Tryz.func3, Tryz.ntmps3
   go_wp2_with fail
   refine HCUT.out.mono ?_
   rintro e w3 ⟨⟨LA, lc, rfl, hsl, hnew⟩, hb3⟩
   have HSL := Lib.hid (And.intro hsl (And.intro hnew hb3))
   have HN := Lib.hid (IsD.new 1048576 (by omega) w3)
   obtain ⟨d, hd⟩ : ∃ d, w3.heap.size = d := ⟨_, rfl⟩
   rw [hd] at HN
   have HD := Lib.hid hd
   clear hsl hnew hb3 HCUT y0 y1 hd
   go_wp2_with fail
   refine HN.out.mono ?_
   rintro e w4 ⟨rfl, own0, hz0, hD0, hb4⟩
   have hbW4 : Below W.heap.size W w4 := by
    have h3 := HB2.out.trans (HSL.out.2.2.mono HB2.out.size)
    rw [← HD.out] at hb4
    exact h3.trans (hb4.mono h3.size)
   have hro : own0 1 = 0 := hz0 _ (by have h1 := HR.out.1; have h2 := HB2.out.size; have h3 := HSL.out.2.2.size; have h4 := HD.out; omega)
   have HO := Lib.hid (open_ok w4 d 1 own0 (RD.fresh 1048576) (RD.fresh 1048576) hD0 (fun x h => by cases h) (by omega) (HR.out.below hbW4) hro (fun p hp => by cases hp) (by decide) rfl rfl)
   have H4 := Lib.hid (And.intro hz0 (And.intro hb4 hbW4))
   clear hz0 hD0 hb4 hbW4 hro HN
   go_wp2_with fail
   refine HO.out.mono ?_
   rintro e w5 ⟨st, own1, rfl, hst, hSB, hso, hO1, hD1⟩
   have HST := Lib.hid (fun (k : Int) (hk : k ≤ 9223372036854775807) => hD1.stop k hk)
   have H5 := Lib.hid (And.intro hst (And.intro hSB (And.intro hso hO1)))
   clear hst hSB hso hO1 hD1 HO
   have HS0 := Lib.hid (HST.out (max a1 0) (by omega))
   clear HST
   go_wp2_with fail
   refine HS0.out.mono ?_
   rintro e wc ⟨⟨v, rfl⟩, own2, hO2, hD2⟩
   obtain ⟨k0, hk0⟩ : ∃ k0, max a1 0 = k0 := ⟨_, rfl⟩
   rw [hk0] at hD2 ⊢
   · skip
     obtain ⟨w0, hw0⟩ : ∃ w0, wc.alloc (.cells #[.int .i64 1, .slice none 0 0] 38) = w0 := ⟨_, rfl⟩
     obtain ⟨sb, hsb⟩ : ∃ sb, wc.heap.size = sb := ⟨_, rfl⟩
     have HC0 : Hid (CcS W w0 (st :: lb :: blk LA) w0 d sb own2 none 0 [] ((RD.fresh 1048576).stopAt k0)) := Lib.hid (by
      obtain ⟨p1, p2, p3⟩ := HSL.out
      obtain ⟨q1, q2, q3⟩ := H4.out
      obtain ⟨u1, u2, u3, u4⟩ := H5.out
      have e1 := HD.out
      have e2 := HLB.out
      have z2 := HB2.out.size
      have z3 := p3.size
      have z4 := q2.size
      have z5 := u4.1.size
      have zc := hO2.1.size
      have hlt := lt_of_block HX.out
      have hz : w0.heap.size = wc.heap.size + 1 := by rw [← hw0]; simp
      have hbx : w0.heap[sb]? = some (.cells #[.int .i64 1, .slice none 0 0] 38 (0, 0)) := by rw [← hw0, ← hsb]; exact heap_alloc_new wc _
      have hbc : Below wc.heap.size wc w0 := by rw [← hw0]; exact (Below.refl _ wc).alloc (Nat.le_refl _) _
      have h1z : ∀ i, i < d → own1 i = 0 := fun i hi => (u4.2.1 i (by omega)).trans (q1 i hi)
      have h2z : ∀ i, i < d → own2 i = 0 := fun i hi => (hO2.2.1 i (by omega)).trans (h1z i hi)
      have hb5 : Below W.heap.size W w5 := q3.trans (u4.toBelow (fun i hi => q1 i (by omega)) q3.size)
      have hbc2 : Below W.heap.size W wc := hb5.trans (hO2.toBelow (fun i hi => h1z i (by omega)) hb5.size)
      have hb0 : Below W.heap.size W w0 := hbc2.trans (hbc.mono hbc2.size)
      refine ⟨hb0, fun i hi => h2z i (by omega), hD2.below hbc, ⟨⟨hbx, SLine.nil 2 _, (fun k hk => by cases hk), fun o ho => by cases ho⟩, ⟨by omega, hD2.1 sb (by omega)⟩, (fun k hk => by cases hk), (fun o ho => by cases ho), fun o ho => by cases ho⟩, Nat.le_refl _, fun k hk => ?_⟩
      have hk2 : k < wc.heap.size ∧ own2 k = 0 := by
       rcases List.mem_cons.1 hk with q | hk
       · rw [q]
         have := u2.lt
         exact ⟨by omega, (hO2.2.1 st this).trans u3⟩
       · rcases List.mem_cons.1 hk with q | hk
         · rw [q]
           exact ⟨by omega, h2z lb (by omega)⟩
         · have := p1.lt k hk
           exact ⟨by omega, h2z k (by omega)⟩
      exact ⟨by omega, hk2.2, by omega, (fun hm => by cases hm), rfl⟩)
     have HK0 : Hid (SBox w0 st d 1 ∧ w0.heap[lb]? = some (.cells #[.int .i64 dr, .slice ak lk ck] 25 (0, 0)) ∧ KvRs w0 LA n L) := Lib.hid (by
      obtain ⟨p1, p2, p3⟩ := HSL.out
      obtain ⟨q1, q2, q3⟩ := H4.out
      obtain ⟨u1, u2, u3, u4⟩ := H5.out
      have e1 := HD.out
      have e2 := HLB.out
      have z3 := p3.size
      have z4 := q2.size
      have z5 := u4.1.size
      have zc := hO2.1.size
      have hlt := lt_of_block HX.out
      have hbc : Below wc.heap.size wc w0 := by rw [← hw0]; exact (Below.refl _ wc).alloc (Nat.le_refl _) _
      have h1z : ∀ i, i < d → own1 i = 0 := fun i hi => (u4.2.1 i (by omega)).trans (q1 i hi)
      have h30 : ∀ i, i < d → w0.heap[i]? = w3.heap[i]? := fun i hi => (hbc.block i (by omega)).trans ((hO2.2.2 i (by omega) (h1z i hi)).trans ((u4.2.2 i (by omega) (q1 i hi)).trans (q2.block i hi)))
      refine ⟨(hbc.block st (by have := u2.lt; omega)).trans ((hO2.2.2 st u2.lt u3).trans u2), (h30 lb (by omega)).trans ((p3.block lb (by omega)).trans HX.out), ?_⟩
      have hl0 : SLine 3 w0 LA L.length lc (L.flatMap KvR.cells) := by
       rw [HNE.out]
       exact p1.same (by have := hbc.size; omega) (fun k hk => h30 k (by have := p1.lt k hk; omega))
      rw [← HNE.out]
      exact hl0.kvs (fun o ho => ((HIN.out o ho).1.below (HC0.out.on)))
      )
     obtain ⟨KL, hKL⟩ : ∃ KL, st :: lb :: blk LA = KL := ⟨_, rfl⟩
     rw [hKL] at HC0
     have HKM : Hid (st ∈ KL ∧ lb ∈ KL ∧ ∀ k ∈ blk LA, k ∈ KL) := Lib.hid (by
      rw [← hKL]
      exact ⟨List.mem_cons_self .., List.mem_cons_of_mem _ (List.mem_cons_self ..), fun k hk => List.mem_cons_of_mem _ (List.mem_cons_of_mem _ hk)⟩)
     have HPO : Hid (PutsOk (putsOf L)) := Lib.hid (putsOf_ok (fun o ho => (HIN.out o ho).1) (fun o ho => (HIN.out o ho).2))
     have HR0 : Hid (CrS (putsOf L) [] 0 ((RD.fresh 1048576).stopAt k0)) := Lib.hid (CrS.fresh _ rfl _)
     have HRW := Lib.hid (fun (V : World) (h : Below W.heap.size W V) => HR.out.below h)
     clear hKL hO2 hD2 HSL H4 H5 HS0 HB2 HD HR HX hW2
     go_wp2_with fail
     go_loopw [48] (fun i wr => ∃ (k : Nat) (own : Nat → Nat) (A : Option Addr) (c : Nat) (fs : List RF) (r : RD), k ≤ n ∧ i = .int .i64 (k : Int) ∧ Hid (CcS W w0 KL wr d sb own A c fs r ∧ CrS (putsOf L) fs k r ∧ fs.length ≤ k)) (fun i _ => n - (intOf i).toNat)
     case atStart => exact ⟨0, own2, none, 0, [], _, by omega, rfl, Lib.hid ⟨HC0.out, HR0.out, Nat.le_refl _⟩⟩
     case round =>
      obtain ⟨k, own, A, c, fs, r, hk, rfl, HI⟩ := hrel
      have hk0 : (0 : Int) ≤ (k : Int) := by omega
      clear HC0 HR0
      rcases Nat.lt_or_ge k n with hkn | hkn
      · obtain ⟨o, ho⟩ : ∃ o, L[k]? = some o := ⟨_, List.getElem?_eq_getElem (by rw [HNE.out]; exact hkn)⟩
        have hmem := List.mem_of_getElem? ho
        obtain ⟨g, off, rfl, hg, hc⟩ := HK0.out.2.2.2.2 (by omega)
        have hcs := hc k o ho
        obtain ⟨hin, hk200, ha200⟩ := HIN.out o hmem
        have hgs : wr.heap[g]? = w0.heap[g]? := (HI.out.1.kept g (HKM.out.2.2 g (mem_blk.2 ⟨_, rfl, rfl⟩))).2.2.2.2
        have hkey := hin.keyRow
        have hart := hin.artRow
        have hpm : ¬ o.kind % 5 = 3 → (keyN o, artN o) ∈ putsOf L := mem_puts hmem
        have hcell : ∀ j v, o.cells[j]? = some v → wr.cell? ⟨g, off + k * 3 + j, none⟩ = some v := fun j v hv => (World.cell?_of_block (w := w0) (a := ⟨g, off + k * 3 + j, none⟩) hgs).trans (hcs j v hv)
        obtain ⟨kind, kA, kn, kc, kz, aA, an, ac, az⟩ := o
        have d0 := hcell 0 _ rfl
        have d1 := hcell 1 _ rfl
        have d2 := hcell 2 _ rfl
        rw [Nat.add_zero] at d0
        simp only at d0 d1 d2 hk200 ha200 hpm hkey hart
        obtain ⟨kl, hkl⟩ : ∃ kl, keyN ⟨kind, kA, kn, kc, kz, aA, an, ac, az⟩ = kl := ⟨_, rfl⟩
        obtain ⟨al, hal⟩ : ∃ al, artN ⟨kind, kA, kn, kc, kz, aA, an, ac, az⟩ = al := ⟨_, rfl⟩
        rw [hkl, hal] at hpm
        rw [hkl] at hkey
        rw [hal] at hart
        obtain ⟨Wa, hWa⟩ : ∃ Wa, wr.alloc (.cells #[.int .u64 (kind : Int), .slice kA kn kc, .slice aA an ac] 42) = Wa := ⟨_, rfl⟩
        have hBa : Below wr.heap.size wr Wa := by rw [← hWa]; exact (Below.refl _ wr).alloc (Nat.le_refl _) _
        have hva : Wa.heap[wr.heap.size]? = some (.cells #[.int .u64 (kind : Int), .slice kA kn kc, .slice aA an ac] 42 (0, 0)) := by rw [← hWa]; exact heap_alloc_new wr _
        obtain ⟨va, hvae⟩ : ∃ va, wr.heap.size = va := ⟨_, rfl⟩
        rw [hvae] at hva
        have f0 : Wa.cell? ⟨va, 0, none⟩ = some (.int .u64 (kind : Int)) := by rw [cell_of_row _ va 0 _ _ (0, 0) hva]; rfl
        have f1 : Wa.cell? ⟨va, 1, none⟩ = some (.slice kA kn kc) := by rw [cell_of_row _ va 1 _ _ (0, 0) hva]; rfl
        have f2 : Wa.cell? ⟨va, 2, none⟩ = some (.slice aA an ac) := by rw [cell_of_row _ va 2 _ _ (0, 0) hva]; rfl
        have hkn' : (k : Int) < (n : Int) := by omega
        have HVA := Lib.hid hva
        have HVE := Lib.hid hvae
        have HKY := Lib.hid (And.intro hkey hart)
        have HPM := Lib.hid hpm
        have HBA := Lib.hid hBa
        have HKL := Lib.hid (And.intro hk200 ha200)
        have hCa : CcS W w0 KL Wa d sb own A c fs r := HI.out.1.below hBa
        have hSBa : SBox Wa st d 1 := ((hCa.kept st HKM.out.1).2.2.2.2).trans HK0.out.1
        have hos : own st = 0 := (hCa.kept st HKM.out.1).2.1
        have hov : own va = 0 := by rw [← hvae]; exact HI.out.1.disk.1 _ (Nat.le_refl _)
        have hvs : va ≠ sb ∧ va ∉ blk A := by
         have h1 := lt_of_block HI.out.1.doc.st.box
         refine ⟨by omega, fun hm => ?_⟩
         have := HI.out.1.doc.st.line.lt va hm
         omega
        have hF := HI.out.1.disk.fct.1
        have hsz := HI.out.2.1.size
        have hsm := HI.out.2.1.smallD
        have hm100 : k ≤ 100 := by omega
        have hKA : KeyAt Wa kA kn kc kl := ⟨hkey.1.below hCa.on, hkey.2, by omega⟩
        have hRA := HRW.out Wa hCa.on
        have HCA := Lib.hid hCa
        have HOV := Lib.hid (And.intro hov hvs)
        have hst5 := Lib.hid hSBa
        have hsz40 : r.size + 40 ≤ 80000 := by omega
        obtain ⟨km, hkm2⟩ : ∃ km : Nat, (kind : Int) % 5 = (km : Int) ∧ kind % 5 = km := ⟨kind % 5, by omega, rfl⟩
        have hkm3 := hkm2.1
        have hkl5 : km < 5 := by omega
        rw [hkm2.2] at hpm HPM
        have hknd : (kind : Int) ≤ 18446744073709551615 := by have := hin.kind; simp only at this; omega
        have hknd0 : (0 : Int) ≤ (kind : Int) := by omega
        have HU := Lib.hid hF
        clear hg hc hcs hmem ho hgs hcell hkm2 hCa hF hin hkl hal hov hvs hva hBa
        by_cases h3 : km = 3
        · have h3b : ((km : Int) == 3) = true := by simp [h3]
          obtain ⟨out, hout⟩ : ∃ out, dropR r kl 1 = out := ⟨_, rfl⟩
          have HDR := cdrop_any Wa st d 1 own r kA kn kc kl hSBa hos HCA.out.disk hsm (by omega) hKA hRA hsz40
          rw [hout] at HDR
          have HDC := Lib.hid (HI.out.2.1.drop HU.out hm100 kl hout)
          obtain ⟨q1, q2⟩ := out
          have HDR := Lib.hid HDR
          subst h3
          clear hout hSBa hos hsm hKA hRA hsz hkey hart hpm
          go_wp2_with fail
          refine HDR.out.mono ?_
          rintro e w6 ⟨rfl, own6, hO6, hD6⟩
          have hC6 : CcS W w0 KL w6 d sb own6 A c fs q2 := HCA.out.only hO6 hD6
          have hvb : w6.heap[va]? = some (.cells #[.int .u64 (kind : Int), .slice kA kn kc, .slice aA an ac] 42 (0, 0)) := (hO6.2.2 va (lt_of_block HVA.out) HOV.out.1).trans HVA.out
          have g1 : w6.cell? ⟨va, 1, none⟩ = some (.slice kA kn kc) := by rw [cell_of_row _ va 1 _ _ (0, 0) hvb]; rfl
          have HC6 := Lib.hid hC6
          have HDG := Lib.hid (dropG_sub HI.out.2.1 kl)
          clear hO6 hD6 hvb f0 f1 f2 d0 d1 d2 HDR hC6
          rcases HDC.out with ⟨hq, hcr⟩ | ⟨hq, hcr⟩
          · cases hg : rget fs kl 1 with
            | none =>
             have HG := Lib.hid (rdrop_none w6 sb 1 A c fs HC6.out.doc.st (by have := HI.out.2.2; omega) HC6.out.doc.caps (by omega) kA kn kc kl (HKY.out.1.1.below HC6.out.on) (by have := HKL.out.1; omega) hg)
             have hdg : dropG fs kl = fs := by unfold dropG; rw [hg]
             rw [hdg] at hcr
             have HCR := Lib.hid hcr
             have hq' : q1 = 0 ∨ q1 = 5 := hq
             clear hg hcr hdg hq HDC HDG
             rcases hq' with rfl | rfl
             · go_wp2_with fail
               refine HG.out.mono ?_
               rintro e w7 ⟨rfl, hb7⟩
               have HN := Lib.hid (And.intro (HC6.out.below hb7) (And.intro HCR.out (Nat.le_succ_of_le HI.out.2.2)))
               clear hb7 HG g1
               go_wp2
               go_roundw
               case rel => exact ⟨k + 1, own6, A, c, fs, q2, by omega, by go_num, HN⟩
               case measure => simp [intOf] <;> omega
             · go_wp2_with fail
               refine HG.out.mono ?_
               rintro e w7 ⟨rfl, hb7⟩
               have HN := Lib.hid (And.intro (HC6.out.below hb7) (And.intro HCR.out (Nat.le_succ_of_le HI.out.2.2)))
               clear hb7 HG g1
               go_wp2
               go_roundw
               case rel => exact ⟨k + 1, own6, A, c, fs, q2, by omega, by go_num, HN⟩
               case measure => simp [intOf] <;> omega
            | some p =>
             obtain ⟨sl, x⟩ := p
             have HG := Lib.hid (rdrop_some w6 sb 1 A c fs HC6.out.doc.st (by have := HI.out.2.2; omega) HC6.out.doc.caps (by omega) kA kn kc kl (HKY.out.1.1.below HC6.out.on) (by have := HKL.out.1; omega) (fun o ho k hk => (HC6.out.doc.oD o ho k hk).2.2.2.1) sl x hg)
             have hdg : dropG fs kl = dropF fs (fileB kl 1 sl) := by unfold dropG; rw [hg]
             rw [hdg] at hcr
             have HCR := Lib.hid hcr
             have hq' : q1 = 0 ∨ q1 = 5 := hq
             have HNXT : Hid (∀ w7 A' c', RSt w7 sb 1 A' c' (dropF fs (fileB kl 1 sl)) → Chg [sb] w6 w7 → (∀ k ∈ blk A', w6.heap.size ≤ k) → CcS W w0 KL w7 d sb own6 A' c' (dropF fs (fileB kl 1 sl)) q2 ∧ CrS (putsOf L) (dropF fs (fileB kl 1 sl)) (k + 1) q2 ∧ (dropF fs (fileB kl 1 sl)).length ≤ k + 1) := Lib.hid (fun w7 A' c' h1 h2 h3 => by
              have hsub := dropF_sub (fileB kl 1 sl) fs
              refine ⟨HC6.out.turn h2 (fun k hk => by rw [List.mem_singleton] at hk; exact .inl hk) h1 (fun k hk => .inr (h3 k hk)) (fun o ho k hk => ?_) (fun o ho => HC6.out.doc.caps o (hsub.subset ho)), HCR.out, Nat.le_trans hsub.length_le (Nat.le_succ_of_le HI.out.2.2)⟩
              obtain ⟨v1, v2, v3, v4, v5⟩ := HC6.out.doc.oD o (hsub.subset ho) k hk
              exact ⟨v1, v2, by have := h2.size; omega, v4, fun hm => by have := h3 k hm; omega⟩)
             clear hg hcr hdg hq HDC HDG
             rcases hq' with rfl | rfl
             · go_wp2_with fail
               refine HG.out.mono ?_
               rintro e w7 ⟨rfl, A', c', h1, h2, h3⟩
               have HN := Lib.hid (HNXT.out w7 A' c' h1 h2 h3)
               clear h1 h2 h3 HG g1
               go_wp2
               go_roundw
               case rel => exact ⟨k + 1, own6, A', c', _, q2, by omega, by go_num, HN⟩
               case measure => simp [intOf] <;> omega
             · go_wp2_with fail
               refine HG.out.mono ?_
               rintro e w7 ⟨rfl, A', c', h1, h2, h3⟩
               have HN := Lib.hid (HNXT.out w7 A' c' h1 h2 h3)
               clear h1 h2 h3 HG g1
               go_wp2
               go_roundw
               case rel => exact ⟨k + 1, own6, A', c', _, q2, by omega, by go_num, HN⟩
               case measure => simp [intOf] <;> omega
          · try simp only at hq
            subst hq
            have HN := Lib.hid (And.intro HC6.out (And.intro hcr (Nat.le_succ_of_le HI.out.2.2)))
            clear hcr HDC HDG
            go_wp2
            go_roundw
            case rel => exact ⟨k + 1, own6, A, c, fs, q2, by omega, by go_num, HN⟩
            case measure => simp [intOf] <;> omega
        · have h3b : ((km : Int) == 3) = false := by simp; omega
          have h3c : ¬ (km : Int) = 3 := by omega
          obtain ⟨out, hout⟩ : ∃ out, putR r kl al 1 = out := ⟨_, rfl⟩
          have HPT := cput_any Wa st d 1 own r kA aA kn kc an ac kl al hSBa HCA.out.disk hsm (by omega) hKA hRA (HKY.out.2.below HCA.out.on) (by omega) (by omega) (by omega) hsz40
          rw [hout] at HPT
          have HPC := Lib.hid (HI.out.2.1.put HU.out HPO.out hm100 (HPM.out h3) hout)
          obtain ⟨q1, q2⟩ := out
          have HPT := Lib.hid HPT
          clear hout hSBa hos hsm hKA hRA hsz hkey hart hpm h3
          go_wp2_with fail
          refine HPT.out.mono ?_
          rintro e w6 ⟨rfl, own6, hO6, hD6⟩
          have hC6 : CcS W w0 KL w6 d sb own6 A c fs q2 := HCA.out.only hO6 hD6
          have hvb : w6.heap[va]? = some (.cells #[.int .u64 (kind : Int), .slice kA kn kc, .slice aA an ac] 42 (0, 0)) := (hO6.2.2 va (lt_of_block HVA.out) HOV.out.1).trans HVA.out
          have g1 : w6.cell? ⟨va, 1, none⟩ = some (.slice kA kn kc) := by rw [cell_of_row _ va 1 _ _ (0, 0) hvb]; rfl
          have g2 : w6.cell? ⟨va, 2, none⟩ = some (.slice aA an ac) := by rw [cell_of_row _ va 2 _ _ (0, 0) hvb]; rfl
          have HC6 := Lib.hid hC6
          clear hO6 hD6 hvb f0 f1 f2 d0 d1 d2 HPT hC6
          rcases HPC.out with ⟨hq, hcr, p, hg⟩ | ⟨hq, hg, t, ht8, hfirst, hfree, hcr⟩ | ⟨hq, hcr⟩
          · try simp only at hq
            subst hq
            have HG := Lib.hid (rput_same w6 sb 1 A c fs HC6.out.doc.st (by have := HI.out.2.2; omega) HC6.out.doc.caps (by omega) kA kn kc kl (HKY.out.1.1.below HC6.out.on) (by have := HKL.out.1; omega) aA an ac p hg)
            have HCR := Lib.hid hcr
            clear hg hcr HPC
            go_wp2_with fail
            refine HG.out.mono ?_
            rintro e w7 ⟨rfl, hb7⟩
            have HN := Lib.hid (And.intro (HC6.out.below hb7) (And.intro HCR.out (Nat.le_succ_of_le HI.out.2.2)))
            clear hb7 HG g1 g2
            go_wp2
            go_roundw
            case rel => exact ⟨k + 1, own6, A, c, fs, q2, by omega, by go_num, HN⟩
            case measure => simp [intOf] <;> omega
          · try simp only at hq
            subst hq
            have hsA : sb ∉ blk A := fun hm => HC6.out.doc.st.apart sb hm rfl
            have HG := Lib.hid (rput_new w6 sb 1 A c fs HC6.out.doc.st (by have := HI.out.2.2; omega) HC6.out.doc.caps (by omega) kA kn kc kl (HKY.out.1.1.below HC6.out.on) (by have := HKL.out.1; omega) aA an ac al (HKY.out.2.below HC6.out.on) (by have := HKL.out.2; omega) hsA (fun o ho k hk => ⟨(HC6.out.doc.oD o ho k hk).2.2.2.1, (HC6.out.doc.oD o ho k hk).2.2.2.2⟩) hg t ht8 hfirst hfree)
            have HCR := Lib.hid hcr
            have HAL : Hid (kl.length + al.length + 16 ≤ 90000) := Lib.hid (by have h1 := HKY.out.1.1.1.length; have h2 := HKY.out.2.length; have h3 := HKL.out; omega)
            clear hg hcr hfirst hfree HPC hsA
            go_wp2_with fail
            refine HG.out.mono ?_
            rintro e w7 ⟨rfl, A', c', o, ho1, ho2, h1, h2, h3, h4, h5, h6⟩
            have HN : Hid (CcS W w0 KL w7 d sb own6 A' c' (fs ++ [o]) q2 ∧ CrS (putsOf L) (fs ++ [o]) (k + 1) q2 ∧ (fs ++ [o]).length ≤ k + 1) := Lib.hid (by
             refine ⟨HC6.out.turn h2 (fun k hk => by rcases List.mem_cons.1 hk with q | q; exact .inl q; exact .inr q) h1 h3 (fun o' ho' k hk => ?_) (fun o' ho' => ?_), HCR.out o ho1 ho2, by rw [List.length_append]; exact Nat.succ_le_succ HI.out.2.2⟩
             · rcases List.mem_append.1 ho' with q | q
               · obtain ⟨v1, v2, v3, v4, v5⟩ := HC6.out.doc.oD o' q k hk
                 refine ⟨v1, v2, by have := h2.size; omega, v4, fun hm => ?_⟩
                 rcases h3 k hm with e | e
                 · exact v5 e
                 · omega
               · rw [List.mem_singleton] at q
                 rw [q] at hk
                 obtain ⟨v1, v2, v3⟩ := h4 k hk
                 have hon := HC6.out.on.size
                 have hlt := lt_of_block HC6.out.doc.st.box
                 exact ⟨by omega, HC6.out.disk.1 k v1, v2, by omega, v3⟩
             · rcases List.mem_append.1 ho' with q | q
               · exact HC6.out.doc.caps o' q
               · rw [List.mem_singleton] at q
                 rw [q]
                 refine ⟨?_, h5⟩
                 rw [ho2, entryN_length]
                 exact HAL.out)
            clear ho1 ho2 h1 h2 h3 h4 h5 h6 HG g1 g2
            go_wp2
            go_roundw
            case rel => exact ⟨k + 1, own6, A', c', _, q2, by omega, by go_num, HN⟩
            case measure => simp [intOf] <;> omega
          · try simp only at hq
            have hq2 : (q1 == 0) = false := by simp [hq]
            have HN := Lib.hid (And.intro HC6.out (And.intro hcr (Nat.le_succ_of_le HI.out.2.2)))
            clear hcr HPC g1 g2
            go_wp2
            go_roundw
            case rel => exact ⟨k + 1, own6, A, c, fs, q2, by omega, by go_num, HN⟩
            case measure => simp [intOf] <;> omega
      · obtain rfl : k = n := by omega
        have hdr := hd64
        have hF := HI.out.1.disk.fct.1
        have hPu := HI.out.1.disk.puts
        have hzs := HKZ.out.1.below (HI.out.1.on)
        have hll : wr.heap[lb]? = some (.cells #[.int .i64 dr, .slice ak lk ck] 25 (0, 0)) := ((HI.out.1.kept lb HKM.out.2.1).2.2.2.2).trans HK0.out.2.1
        have y0 : wr.cell? ⟨lb, 0, none⟩ = some (.int .i64 dr) := by rw [cell_of_row _ lb 0 _ _ (0, 0) hll]; rfl
        have y1 : wr.cell? ⟨lb, 1, none⟩ = some (.slice ak lk ck) := by rw [cell_of_row _ lb 1 _ _ (0, 0) hll]; rfl
        have HCRA := HI.out.1.disk.crash dr hdr ak lk ck (zk.take lk) hzs (by omega) (fun h0 j hj => by
         obtain ⟨g, off, e, hg, _⟩ := HKZ.out.1.2 h0
         obtain ⟨ad, e1, e2⟩ := mem_blk.1 hj
         rw [e] at e1
         cases e1
         exact HI.out.1.zero j (by rw [← e2]; exact hg)) HKZ.out.2
        have hleft := HI.out.2.1.left hF hPu dr (zk.take lk)
        have hsmall := HI.out.2.1.lostSmall dr (zk.take lk)
        have hsize := HI.out.2.1.lostSize hF dr (zk.take lk)
        have ho3 : (r.crash dr (zk.take lk)).off = false := rfl
        have hs3 : (r.crash dr (zk.take lk)).stop = -1 := rfl
        generalize r.crash dr (zk.take lk) = r3 at *
        have HCRA := Lib.hid HCRA
        have H3 := Lib.hid (And.intro hleft (And.intro hsmall (And.intro hsize (And.intro ho3 hs3))))
        clear hF hPu hzs hll hleft hsmall hsize ho3 hs3
        go_wp2_with fail
        refine HCRA.out.mono ?_
        rintro e w6 ⟨⟨v, rfl⟩, own6, hO6, hD6⟩
        have hC6 : CcS W w0 KL w6 d sb own6 A c fs r3 := HI.out.1.only hO6 hD6
        have hF3 := hD6.fct.1
        obtain ⟨hleft, hsmall, hsize, ho3, hs3⟩ := H3.out
        have hnames := HI.out.2.1.lostNames hleft hF3
        obtain ⟨r4, erec, hB⟩ := recR_ok 1 ho3 hs3 hF3 hnames
        have hfin := HI.out.2.1.fin HPO.out hleft hB
        have HOP := Lib.hid (open_ok w6 d 1 own6 r3 r4 hD6 hsmall (by omega) (HRW.out w6 hC6.on) (hC6.zero _ (HRW.out W (Below.refl _ _)).1) (fun p hp => by
         have h1 := hnames p hp
         unfold nameOk at h1
         rw [Bool.and_eq_true, decide_eq_true_eq] at h1
         omega) (by omega) ho3 erec)
        have HF4 := Lib.hid (And.intro hfin (And.intro hB (hB.smallD hsmall)))
        have HF3 := Lib.hid (And.intro hF3 (And.intro hnames (And.intro (rec_size hF3 erec) hsize)))
        have HC6 := Lib.hid hC6
        clear hO6 hD6 hC6 hF3 hleft hsmall hsize ho3 hs3 hnames erec hB hfin HCRA H3 y0 y1
        go_wp2_with fail
        refine HOP.out.mono ?_
        rintro e w7 ⟨tt, own7, rfl, _, hTB, _, hO7, hD7⟩
        have HC7 := Lib.hid (HC6.out.only hO7 hD7)
        have HT7 := Lib.hid hTB
        have HFL := Lib.hid HI.out.2.2
        have HNM4 := Lib.hid (rec_names HF4.out.2.1 HF3.out.1 HC7.out.disk.fct.1 HF3.out.2.1)
        have HSZ4 : Hid (r4.size + 4 * r4.now.length + 40 ≤ 80000) := Lib.hid (by
         have h1 := HF3.out.2.2.1
         have h2 := HF3.out.2.2.2
         have h3 := HC7.out.disk.fct.1.len (by omega)
         have h4 : r4.now.length ≤ r4.size := by
          have F4 := HC7.out.disk.fct.1
          have h5 := (layAll_len r4.chs r4.sure F4.rs F4.two).2
          unfold RD.size RD.now
          omega
         omega)
        have HAG := Lib.hid (rec_again HF4.out.2.1 HC7.out.disk.fct.1)
        have ho4 := HF4.out.2.1.off
        have HO4 := Lib.hid ho4
        clear ho4 hO7 hD7 hTB HOP HC6 HI HF3
        go_wp2_with fail
        go_loopw [96] (fun i wr => ∃ i2 : Nat, i2 ≤ k ∧ i = .int .i64 (i2 : Int) ∧ Hid (Below w7.heap.size w7 wr)) (fun i _ => k - (intOf i).toNat)
        case atStart => exact ⟨0, by omega, rfl, Lib.hid (Below.refl _ _)⟩
        case round =>
         clear hkn
         obtain ⟨i2, hi2, rfl, HB⟩ := hrel
         have hi0 : (0 : Int) ≤ (i2 : Int) := by omega
         rcases Nat.lt_or_ge i2 k with hkn | hkn
         · obtain ⟨o, ho⟩ : ∃ o, L[i2]? = some o := ⟨_, List.getElem?_eq_getElem (by rw [HNE.out]; exact hkn)⟩
           have hmem := List.mem_of_getElem? ho
           obtain ⟨g, off, rfl, hg, hc⟩ := HK0.out.2.2.2.2 (by omega)
           have hcs := hc i2 o ho
           obtain ⟨hin, hk200, ha200⟩ := HIN.out o hmem
           have hgs : wr.heap[g]? = w0.heap[g]? := ((HC7.out.below HB.out).kept g (HKM.out.2.2 g (mem_blk.2 ⟨_, rfl, rfl⟩))).2.2.2.2
           have hkey := hin.keyRow
           have hart := hin.artRow
           have hpm : ¬ o.kind % 5 = 3 → (keyN o, artN o) ∈ putsOf L := mem_puts hmem
           have hcell : ∀ j v, o.cells[j]? = some v → wr.cell? ⟨g, off + i2 * 3 + j, none⟩ = some v := fun j v hv => (World.cell?_of_block (w := w0) (a := ⟨g, off + i2 * 3 + j, none⟩) hgs).trans (hcs j v hv)
           obtain ⟨kind, kA, kn, kc, kz, aA, an, ac, az⟩ := o
           have d0 := hcell 0 _ rfl
           have d1 := hcell 1 _ rfl
           have d2 := hcell 2 _ rfl
           rw [Nat.add_zero] at d0
           simp only at d0 d1 d2 hk200 ha200 hpm hkey hart
           obtain ⟨kl, hkl⟩ : ∃ kl, keyN ⟨kind, kA, kn, kc, kz, aA, an, ac, az⟩ = kl := ⟨_, rfl⟩
           obtain ⟨al, hal⟩ : ∃ al, artN ⟨kind, kA, kn, kc, kz, aA, an, ac, az⟩ = al := ⟨_, rfl⟩
           rw [hkl, hal] at hpm
           rw [hkl] at hkey
           rw [hal] at hart
           obtain ⟨Wa, hWa⟩ : ∃ Wa, wr.alloc (.cells #[.int .u64 (kind : Int), .slice kA kn kc, .slice aA an ac] 42) = Wa := ⟨_, rfl⟩
           have hBa : Below wr.heap.size wr Wa := by rw [← hWa]; exact (Below.refl _ wr).alloc (Nat.le_refl _) _
           have hva : Wa.heap[wr.heap.size]? = some (.cells #[.int .u64 (kind : Int), .slice kA kn kc, .slice aA an ac] 42 (0, 0)) := by rw [← hWa]; exact heap_alloc_new wr _
           obtain ⟨va, hvae⟩ : ∃ va, wr.heap.size = va := ⟨_, rfl⟩
           rw [hvae] at hva
           have f0 : Wa.cell? ⟨va, 0, none⟩ = some (.int .u64 (kind : Int)) := by rw [cell_of_row _ va 0 _ _ (0, 0) hva]; rfl
           have f1 : Wa.cell? ⟨va, 1, none⟩ = some (.slice kA kn kc) := by rw [cell_of_row _ va 1 _ _ (0, 0) hva]; rfl
           have f2 : Wa.cell? ⟨va, 2, none⟩ = some (.slice aA an ac) := by rw [cell_of_row _ va 2 _ _ (0, 0) hva]; rfl
           have hkn' : (i2 : Int) < (k : Int) := by omega
           have HVA := Lib.hid hva
           have HVE := Lib.hid hvae
           have HKY := Lib.hid (And.intro hkey hart)
           have HPM := Lib.hid hpm
           have HBA := Lib.hid hBa
           have HKL := Lib.hid (And.intro hk200 ha200)
           have hCb := (HC7.out.below HB.out).below hBa
           have HCB := Lib.hid hCb
           have HG := Lib.hid (cget_any Wa tt d 1 own7 r4 kA kn kc kl (HT7.out.below (HB.out.trans (hBa.mono HB.out.size))) hCb.disk HF4.out.2.2 (by omega) ⟨hkey.1.below hCb.on, hkey.2, by omega⟩ (HRW.out Wa hCb.on))
           have HBW := Lib.hid (HB.out.trans (hBa.mono HB.out.size))
           have HIK : Hid (∀ V, Below Wa.heap.size Wa V → KvRs V (some ⟨g, off, none⟩) k L) := Lib.hid (fun V h => by
            have hh := (hCb.below h)
            refine ⟨HNE.out, fun o ho => (HIN.out o ho).1.below hh.on, fun h0 => ?_⟩
            obtain ⟨g', off', e, hg', hc'⟩ := HK0.out.2.2.2.2 h0
            cases e
            have hgs2 : V.heap[g]? = w0.heap[g]? := (hh.kept g (HKM.out.2.2 g (mem_blk.2 ⟨_, rfl, rfl⟩))).2.2.2.2
            exact ⟨g, off, rfl, by have := hh.size; omega, fun i o ho j v hv => (World.cell?_of_block (w := w0) (a := ⟨g, off + i * 3 + j, none⟩) hgs2).trans (hc' i o ho j v hv)⟩)
           clear hg hc hcs hmem ho hgs hcell hin hkl hal hva hBa hCb hkey hart hpm
           go_wp2_with fail
           refine HG.out.mono ?_
           rintro e w8 ⟨hans, hb8⟩
           obtain ⟨art, okb, A5, c5, rfl, hr5, hyes, hsees⟩ := get_form hans
           have hv8 : w8.heap[va]? = some (.cells #[.int .u64 (kind : Int), .slice kA kn kc, .slice aA an ac] 42 (0, 0)) := (hb8.block va (lt_of_block HVA.out)).trans HVA.out
           have g1 : w8.cell? ⟨va, 1, none⟩ = some (.slice kA kn kc) := by rw [cell_of_row _ va 1 _ _ (0, 0) hv8]; rfl
           have HR5 := Lib.hid hr5
           have HG8 := Lib.hid hv8
           have HWAS := was6_any w8 (some ⟨g, off, none⟩) k lc L (HIK.out w8 hb8) (by omega) kA A5 kn kc art.length c5 (asZ kl) (asZ art) (HKY.out.1.1.1.below (HCB.out.on.trans (hb8.mono HCB.out.on.size))) hr5
           have hws : okb = true → was6 L (strOfNums (asZ kl)) (strOfNums (asZ art)) = true := fun h => by
            obtain ⟨t, ht⟩ := hyes h
            exact was6_yes (fun o ho => (HIN.out o ho).1) (HF4.out.1.was HPO.out ht)
           have HSEE : Hid (∀ s want, rget fs kl 1 = some (s, want) → okb = true ∧ art = want) := Lib.hid (fun s want h => by
            obtain ⟨t, ht⟩ := HF4.out.1.sees h
            exact hsees t want ht)
           generalize was6 L (strOfNums (asZ kl)) (strOfNums (asZ art)) = wb at *
           obtain ⟨al5, hal5⟩ : ∃ al5, art.length = al5 := ⟨_, rfl⟩
           rw [hal5] at HR5 HWAS ⊢
           have HAL5 := Lib.hid hal5
           have HB8 := Lib.hid (HBW.out.trans (hb8.mono HBW.out.size))
           have HV8 := Lib.hid (And.intro (HCB.out.below hb8) (HKY.out.1.1.below (HCB.out.on.trans (hb8.mono HCB.out.on.size))))
           clear hans hb8 hr5 hyes hsees hal5 hv8 HG f0 f1 f2 d0 d1 d2
           cases okb with
           | false =>
            have HGT := Lib.hid (rget_any w8 sb 1 A c fs HV8.out.1.doc.st (by have := HFL.out; omega) HV8.out.1.doc.caps (by omega) kA kn kc kl HV8.out.2 (by have := HKL.out.1; omega))
            cases hg : rget fs kl 1 with
            | some p => exact absurd (HSEE.out p.1 p.2 (by rw [hg])).1 (by decide)
            | none =>
             have HG9 := Lib.hid hg
             clear hg HWAS hws
             go_wp2_with fail
             refine HGT.out.mono ?_
             rintro e w9 ⟨hans, hb9⟩
             unfold RGetAns at hans
             rw [HG9.out] at hans
             simp only at hans
             subst hans
             have HN := Lib.hid (HB8.out.trans (hb9.mono HB8.out.size))
             clear hb9 HGT
             go_wp2
             go_roundw
             case rel => exact ⟨i2 + 1, by omega, by go_num, HN⟩
             case measure => simp [intOf] <;> omega
           | true =>
            have hwt := hws rfl
            subst hwt
            have HWAS := Lib.hid HWAS
            clear hws
            go_wp2_with fail
            refine HWAS.out.mono ?_
            rintro e w9 ⟨rfl, hb9⟩
            have hv9 := (hb9.block va (lt_of_block HG8.out)).trans HG8.out
            have g2 : w9.cell? ⟨va, 1, none⟩ = some (.slice kA kn kc) := by rw [cell_of_row _ va 1 _ _ (0, 0) hv9]; rfl
            have hC9 := HV8.out.1.below hb9
            have HGT := Lib.hid (rget_any w9 sb 1 A c fs hC9.doc.st (by have := HFL.out; omega) hC9.doc.caps (by omega) kA kn kc kl (HV8.out.2.below hb9) (by have := HKL.out.1; omega))
            have HB9 := Lib.hid (HB8.out.trans (hb9.mono HB8.out.size))
            have HR9 := Lib.hid (HR5.out.below hb9)
            clear hv9 hC9 hb9 HWAS g1
            cases hg : rget fs kl 1 with
            | none =>
             have HG9 := Lib.hid hg
             clear hg
             go_wp2_with fail
             refine HGT.out.mono ?_
             rintro e w10 ⟨hans, hb10⟩
             unfold RGetAns at hans
             rw [HG9.out] at hans
             simp only at hans
             subst hans
             have HN := Lib.hid (HB9.out.trans (hb10.mono HB9.out.size))
             clear hb10 HGT
             go_wp2
             go_roundw
             case rel => exact ⟨i2 + 1, by omega, by go_num, HN⟩
             case measure => simp [intOf] <;> omega
            | some p =>
             obtain ⟨sl, want⟩ := p
             have hw := (HSEE.out sl want hg).2
             subst hw
             have HG9 := Lib.hid hg
             have hsl : (0 : Int) ≤ (sl : Int) := by omega
             clear hg
             go_wp2_with fail
             refine HGT.out.mono ?_
             rintro e w10 ⟨hans, hb10⟩
             unfold RGetAns at hans
             rw [HG9.out] at hans
             obtain ⟨A6, c6, rfl, hr6⟩ := hans
             rw [HAL5.out] at hr6 ⊢
             have v1 := conv_row (HR9.out.below hb10) c5
             have v2 := conv_row hr6 c6
             generalize strOfNums (asZ art) = u at *
             have HN := Lib.hid (HB9.out.trans (hb10.mono HB9.out.size))
             clear hb10 hr6 HGT
             go_wp2
             go_roundw
             case rel => exact ⟨i2 + 1, by omega, by go_num, HN⟩
             case measure => simp [intOf] <;> omega
         · obtain rfl : i2 = k := by omega
           have HC9 := Lib.hid (HC7.out.below HB.out)
           have HCL := Lib.hid HC9.out.disk.clone
           clear HC7 hkn
           go_wp2_with fail
           refine HCL.out.mono ?_
           rintro e w8 ⟨cp, own8, rfl, h0, hCp, hb8⟩
           have HOP := Lib.hid (open_ok w8 d 1 own7 r4 r4 (HC9.out.disk.below hb8) HF4.out.2.2 (by omega) (HRW.out w8 (HC9.out.below hb8).on) (HC9.out.zero _ (HRW.out W (Below.refl _ _)).1) HNM4.out HSZ4.out HO4.out HAG.out)
           have HCP := Lib.hid (And.intro h0 (And.intro hCp hb8))
           clear h0 hCp hb8 HCL
           go_wp2_with fail
           refine HOP.out.mono ?_
           rintro e w9 ⟨t3, own9, rfl, _, _, _, hO9, hD9⟩
           have hcp9 := IsD.aside (d := d) HC9.out.disk.1 HCP.out.1 HCP.out.2.1 hO9
           have HSM := Lib.hid (hD9.same hcp9 rfl (fun x _ => rfl))
           have HE9 := Lib.hid (((HC9.out.below HCP.out.2.2).only hO9 hD9).on)
           clear hO9 hD9 hcp9 HOP HCP
           go_wp2_with fail
           refine HSM.out.mono ?_
           rintro e w10 ⟨rfl, hb10⟩
           have hE10 := HE9.out.trans (hb10.mono HE9.out.size)
           have HLV := Lib.hid (casLives w10 (HRW.out w10 hE10))
           have HE10 := Lib.hid hE10
           clear hb10 hE10 HSM
           go_wp2_with fail
           refine HLV.out.mono ?_
           rintro e w11 ⟨rfl, hb11⟩
           have HE11 := Lib.hid (HE10.out.trans (hb11.mono HE10.out.size))
           clear hb11 HLV
           go_wp2
           go_ret
           exact ⟨rfl, HE11.out⟩
end
end Go.Proofs.YtdjnebgjdekmaaaGreatDoor
