/- The law's cut: of at most 40 things to do those that aren't long. -/
import Derived.Test.YtdjnebgjdekmaaaGreatDoorZan
import Derived.Test.YtdjnebgjdekmaaaGreatDoorZbg
import Derived.Test.YtdjnebgjdekmaaaGreatDoorZag
set_option linter.unusedVariables false
set_option maxRecDepth 100000
namespace Go.Proofs.YtdjnebgjdekmaaaGreatDoor
open Go.RowKit Go.Maps
def KvR.small (o : KvR) : Bool := decide (o.kn ≤ 200 ∧ o.an ≤ 200)
def cut6 (os : List KvR) : List KvR := (os.take 40).filter KvR.small
theorem cut6_len (os : List KvR) : (cut6 os).length ≤ 40 := by
 unfold cut6
 refine Nat.le_trans (List.length_filter_le _ _) ?_
 rw [List.length_take]
 omega
theorem cut6_small {os : List KvR} {o : KvR} (h : o ∈ cut6 os) : o ∈ os ∧ o.kn ≤ 200 ∧ o.an ≤ 200 := by
 unfold cut6 at h
 obtain ⟨h1, h2⟩ := List.mem_filter.1 h
 exact ⟨List.mem_of_mem_take h1, (of_decide_eq_true h2).1, (of_decide_eq_true h2).2⟩
theorem cut6_step {os : List KvR} {k : Nat} {o : KvR} (h : os[k]? = some o) : cut6 (os.take (k + 1)) = if k < 40 ∧ o.small = true then cut6 (os.take k) ++ [o] else cut6 (os.take k) := by
 obtain ⟨hk, rfl⟩ := List.getElem?_eq_some_iff.1 h
 unfold cut6
 by_cases h40 : k < 40
 · rw [List.take_take, List.take_take, Nat.min_eq_right (by omega), Nat.min_eq_right (by omega), List.take_succ_eq_append_getElem hk, List.filter_append]
   by_cases hs : os[k].small = true
   · rw [if_pos ⟨h40, hs⟩, List.filter_cons_of_pos hs]
     rfl
   · rw [if_neg (fun h => hs h.2), List.filter_cons_of_neg hs]
     simp
 · rw [if_neg (fun h => h40 h.1), List.take_take, List.take_take, Nat.min_eq_left (by omega), Nat.min_eq_left (by omega)]
theorem flat3 : ∀ (L : List KvR) (i : Nat) (o : KvR) (j : Nat) (v : Value), L[i]? = some o → o.cells[j]? = some v → (L.flatMap KvR.cells)[i * 3 + j]? = some v
 | [], i, o, j, v, h, _ => by simp at h
 | x :: r, 0, o, j, v, h, hv => by
  simp at h
  subst h
  have hj : j < x.cells.length := (List.getElem?_eq_some_iff.1 hv).1
  rw [List.flatMap_cons, Nat.zero_mul, Nat.zero_add, List.getElem?_append_left hj]
  exact hv
 | x :: r, i + 1, o, j, v, h, hv => by
  have hl : x.cells.length = 3 := rfl
  rw [List.flatMap_cons, List.getElem?_append_right (by rw [hl]; omega), hl, show (i + 1) * 3 + j - 3 = i * 3 + j by omega]
  exact flat3 r i o j v (by simpa using h) hv
theorem infoKv : (Tryz.prog.info? 42).map (fun i => (i.zero, i.size, i.bytes)) = some (some (.agg #[.int .u64 0, .slice none 0 0, .slice none 0 0]), 3, 56) := by kernel_rfl
set_option maxHeartbeats 3200000 in
theorem cut6_any (w : World) (A : Option Addr) (n c : Nat) (os : List KvR) (h : KvRs w A n os) (hnc : n ≤ c) (hcm : c ≤ maxLen) :
 Calls Tryz.prog 6 #[.slice A n c] w fun e w' => (∃ A' c', e = .returned (.slice A' (cut6 os).length c') ∧ SLine 3 w' A' (cut6 os).length c' ((cut6 os).flatMap KvR.cells) ∧ ∀ j ∈ blk A', w.heap.size ≤ j) ∧ Below w.heap.size w w' := by
 have HL := Lib.hid h
 have hlen := h.1
 have hn63 : (n : Int) ≤ 9223372036854775807 := by unfold maxLen at hcm; omega
 clear h hcm hnc
 go_enter Tryz.func6, Tryz.ntmps6
 go_wp2
 go_loopw [3, 8] (fun v i wr => ∃ (k : Nat) (A' : Option Addr) (c' : Nat), k ≤ n ∧ i = .int .i64 k ∧ v = .slice A' (cut6 (os.take k)).length c' ∧ Hid (SLine 3 wr A' (cut6 (os.take k)).length c' ((cut6 (os.take k)).flatMap KvR.cells) ∧ ∀ j ∈ blk A', w.heap.size ≤ j) ∧ Hid (Below w.heap.size w wr)) (fun _ i _ => n - (intOf i).toNat)
 case atStart => exact ⟨0, none, 0, by omega, rfl, rfl, Lib.hid ⟨SLine.nil 3 _, fun j hj => by cases hj⟩, Lib.hid (Below.refl _ _)⟩
 case round =>
  obtain ⟨k, A', c', hk, rfl, rfl, HI, HB⟩ := hrel
  rcases Nat.lt_or_ge k n with hkm | hkm
  · obtain ⟨o, ho⟩ : ∃ o, os[k]? = some o := ⟨_, List.getElem?_eq_getElem (by omega)⟩
    have hstep := cut6_step ho
    obtain ⟨g, off, rfl, hg, hc⟩ := (HL.out.below HB.out).2.2 (by omega)
    have hcs := hc k o ho
    have hl40 := cut6_len (os.take k)
    obtain ⟨kind, kA, kn, kc, kz, aA, an, ac, az⟩ := o
    have d0 := hcs 0 _ rfl
    have d1 := hcs 1 _ rfl
    have d2 := hcs 2 _ rfl
    rw [Nat.add_zero] at d0
    obtain ⟨Wa, hWa⟩ : ∃ Wa, wr.alloc (.cells #[.int .u64 (kind : Int), .slice kA kn kc, .slice aA an ac] 42) = Wa := ⟨_, rfl⟩
    have hBa : Below wr.heap.size wr Wa := by rw [← hWa]; exact (Below.refl _ wr).alloc (Nat.le_refl _) _
    have hva : Wa.heap[wr.heap.size]? = some (.cells #[.int .u64 (kind : Int), .slice kA kn kc, .slice aA an ac] 42 (0, 0)) := by rw [← hWa]; exact heap_alloc_new wr _
    obtain ⟨va, hvae⟩ : ∃ va, wr.heap.size = va := ⟨_, rfl⟩
    rw [hvae] at hva
    have e0 : Wa.cell? ⟨va, 0, none⟩ = some (.int .u64 (kind : Int)) := by rw [cell_of_row _ va 0 _ _ (0, 0) hva]; rfl
    have e1 : Wa.cell? ⟨va, 1, none⟩ = some (.slice kA kn kc) := by rw [cell_of_row _ va 1 _ _ (0, 0) hva]; rfl
    have e2 : Wa.cell? ⟨va, 2, none⟩ = some (.slice aA an ac) := by rw [cell_of_row _ va 2 _ _ (0, 0) hva]; rfl
    have hbW : Below w.heap.size w Wa := HB.out.trans (hBa.mono HB.out.size)
    have hsl := HI.out.1.below hBa
    obtain ⟨A3, c3, W3, hrun, hl3, hch, hfr, hne⟩ := push_s 3 Wa 22 42 22 _ 56 Tryz.underlying22 infoKv rfl (by decide) A' _ c' _ hsl (by omega) [.int .u64 (kind : Int), .slice kA kn kc, .slice aA an ac] rfl (fun u hu => by
     simp only [List.mem_cons, List.not_mem_nil, or_false] at hu
     rcases hu with rfl | rfl | rfl <;> rfl)
    have hb3 : Below w.heap.size w W3 := hbW.trans (hch.toBelow (fun i hi => HI.out.2 i hi) hbW.size)
    have hf3 : ∀ i ∈ blk A3, w.heap.size ≤ i := fun i hi => by
     rcases hfr i hi with q | q
     · exact HI.out.2 i q
     · have := hbW.size; omega
    have HRUN := Lib.hid hrun
    have HYES : Hid (k < 40 → kn ≤ 200 → an ≤ 200 → cut6 (os.take (k + 1)) = cut6 (os.take k) ++ [⟨kind, kA, kn, kc, kz, aA, an, ac, az⟩]) := Lib.hid (fun h1 h2 h3 => by rw [hstep, if_pos ⟨h1, decide_eq_true ⟨h2, h3⟩⟩])
    have HNO : Hid (¬ (k < 40 ∧ kn ≤ 200 ∧ an ≤ 200) → cut6 (os.take (k + 1)) = cut6 (os.take k)) := Lib.hid (fun h1 => by rw [hstep, if_neg (fun h2 => h1 ⟨h2.1, of_decide_eq_true h2.2⟩)])
    have HX := Lib.hid (And.intro hl3 (And.intro hf3 hb3))
    have HN := Lib.hid (And.intro hsl (And.intro HI.out.2 hbW))
    have hkm' : (k : Int) < (n : Int) := by omega
    have hk0 : (0 : Int) ≤ (k : Int) := by omega
    clear hstep hg hc hcs ho hBa hva hsl hrun hl3 hch hfr hne hb3 hf3 hbW HI HB
    by_cases h1 : k < 40
    · have h1' : (k : Int) < 40 := by omega
      by_cases h2 : kn ≤ 200
      · have h2' : (kn : Int) ≤ 200 := by omega
        by_cases h3 : an ≤ 200
        · have h3' : (an : Int) ≤ 200 := by omega
          have hL := HYES.out h1 h2 h3
          have HEQ := Lib.hid hL
          clear HYES HNO HN h1 h2 h3 hL
          go_wp2_with (at_builtin; refine Lib.wpList_append_run _ rfl _ _ _ _ rfl _ _ rfl rfl _ _ HRUN.out ?_)
          go_roundw
          case rel => exact ⟨k + 1, A3, c3, by omega, by go_num, by rw [HEQ.out, List.length_append]; rfl, Lib.hid ⟨by rw [HEQ.out, List.length_append, List.flatMap_append]; exact HX.out.1, HX.out.2.1⟩, Lib.hid HX.out.2.2⟩
          case measure => simp [intOf] <;> omega
        · have h3' : ¬ (an : Int) ≤ 200 := by omega
          have hL := HNO.out (fun h => h3 h.2.2)
          have HEQ := Lib.hid hL
          clear HYES HNO HX HRUN hL
          go_wp2
          go_roundw
          case rel => exact ⟨k + 1, A', c', by omega, by go_num, by rw [HEQ.out], Lib.hid ⟨by rw [HEQ.out]; exact HN.out.1, HN.out.2.1⟩, Lib.hid HN.out.2.2⟩
          case measure => simp [intOf] <;> omega
      · have h2' : ¬ (kn : Int) ≤ 200 := by omega
        have hL := HNO.out (fun h => h2 h.2.1)
        have HEQ := Lib.hid hL
        clear HYES HNO HX HRUN hL
        go_wp2
        go_roundw
        case rel => exact ⟨k + 1, A', c', by omega, by go_num, by rw [HEQ.out], Lib.hid ⟨by rw [HEQ.out]; exact HN.out.1, HN.out.2.1⟩, Lib.hid HN.out.2.2⟩
        case measure => simp [intOf] <;> omega
    · have h1' : ¬ (k : Int) < 40 := by omega
      have hL := HNO.out (fun h => h1 h.1)
      have HEQ := Lib.hid hL
      clear HYES HNO HX HRUN hL
      go_wp2
      go_roundw
      case rel => exact ⟨k + 1, A', c', by omega, by go_num, by rw [HEQ.out], Lib.hid ⟨by rw [HEQ.out]; exact HN.out.1, HN.out.2.1⟩, Lib.hid HN.out.2.2⟩
      case measure => simp [intOf] <;> omega
  · obtain rfl : k = n := by omega
    have hL : cut6 (os.take k) = cut6 os := by rw [List.take_of_length_le (by omega)]
    rw [hL] at HI ⊢
    clear hL
    go_wp2
    go_ret
    exact ⟨⟨A', c', rfl, HI.out⟩, HB.out⟩
structure RF where
 name : ByteArray
 dA : Option Addr
 dc : Nat
 data : List Nat
def RF.cells (o : RF) : List Value := [.string o.name, .slice o.dA o.data.length o.dc]
theorem flat2 : ∀ (L : List RF) (i : Nat) (o : RF) (j : Nat) (v : Value), L[i]? = some o → o.cells[j]? = some v → (L.flatMap RF.cells)[i * 2 + j]? = some v
 | [], i, o, j, v, h, _ => by simp at h
 | x :: r, 0, o, j, v, h, hv => by
  simp at h
  subst h
  have hj : j < x.cells.length := (List.getElem?_eq_some_iff.1 hv).1
  rw [List.flatMap_cons, Nat.zero_mul, Nat.zero_add, List.getElem?_append_left hj]
  exact hv
 | x :: r, i + 1, o, j, v, h, hv => by
  have hl : x.cells.length = 2 := rfl
  rw [List.flatMap_cons, List.getElem?_append_right (by rw [hl]; omega), hl, show (i + 1) * 2 + j - 2 = i * 2 + j by omega]
  exact flat2 r i o j v (by simpa using h) hv
structure RSt (w : World) (s dn : Nat) (A : Option Addr) (c : Nat) (fs : List RF) : Prop where
 box : w.heap[s]? = some (.cells #[.int .i64 (dn : Int), .slice A fs.length c] 38 (0, 0))
 line : SLine 2 w A fs.length c (fs.flatMap RF.cells)
 apart : ∀ k ∈ blk A, k ≠ s
 rows : ∀ o ∈ fs, RowN w o.dA o.data.length o.data ∧ o.data.length ≤ o.dc
theorem RSt.below {w w' : World} {s dn : Nat} {A : Option Addr} {c : Nat} {fs : List RF} (h : RSt w s dn A c fs) (hb : Below w.heap.size w w') : RSt w' s dn A c fs :=
 ⟨(hb.block s (lt_of_block h.box)).trans h.box, h.line.below hb, h.apart, fun o ho => ⟨(h.rows o ho).1.below hb, (h.rows o ho).2⟩⟩
theorem RSt.at {w : World} {s dn : Nat} {A : Option Addr} {c : Nat} {fs : List RF} (h : RSt w s dn A c fs) {i : Nat} {o : RF} (ho : fs[i]? = some o) : ∃ g off, A = some ⟨g, off, none⟩ ∧ g < w.heap.size ∧ w.cell? ⟨g, off + i * 2, none⟩ = some (.string o.name) ∧ w.cell? ⟨g, off + i * 2 + 1, none⟩ = some (.slice o.dA o.data.length o.dc) := by
 have hi := (List.getElem?_eq_some_iff.1 ho).1
 obtain ⟨g, off, e, hg, hc, _⟩ := h.line.at (by omega)
 have h0 := hc (i * 2 + 0) (by omega)
 have h1 := hc (i * 2 + 1) (by omega)
 rw [flat2 fs i o 0 _ ho rfl] at h0
 rw [flat2 fs i o 1 _ ho rfl] at h1
 exact ⟨g, off, e, hg, by simpa using h0, by rw [Nat.add_assoc]; exact h1⟩
def isAt (x : ByteArray) (o : RF) : Bool := decide (o.name.toList = x.toList)
def atF (fs : List RF) (x : ByteArray) : Int := match fs.findIdx? (isAt x) with
 | some i => (i : Int)
 | none => -1
theorem findIdx_first {fs : List RF} {p : RF → Bool} {k : Nat} {o : RF} (ho : fs[k]? = some o) (hp : p o = true) (h : ∀ j o, j < k → fs[j]? = some o → p o = false) : fs.findIdx? p = some k := by
 obtain ⟨hk, rfl⟩ := List.getElem?_eq_some_iff.1 ho
 rw [List.findIdx?_eq_some_iff_getElem]
 exact ⟨hk, hp, fun j hj => by rw [h j _ hj (List.getElem?_eq_getElem (by omega))]; simp⟩
theorem findIdx_none {fs : List RF} {p : RF → Bool} (h : ∀ j o, j < fs.length → fs[j]? = some o → p o = false) : fs.findIdx? p = none := by
 rw [List.findIdx?_eq_none_iff]
 intro o ho
 obtain ⟨j, hj⟩ := List.getElem?_of_mem ho
 exact h j o (List.getElem?_eq_some_iff.1 hj).1 hj
set_option maxHeartbeats 3200000 in
theorem rat6_any (w : World) (s dn : Nat) (A : Option Addr) (c : Nat) (fs : List RF) (h : RSt w s dn A c fs) (hn : fs.length ≤ 100000) (x : ByteArray) :
 Calls Tryz.prog 32 #[.pointer (some ⟨s, 0, none⟩), .string x] w fun e w' => e = .returned (.int .i64 (atF fs x)) ∧ Below w.heap.size w w' := by
 have HL := Lib.hid h
 obtain ⟨n, hne⟩ : ∃ n, fs.length = n := ⟨_, rfl⟩
 have y1 : w.cell? ⟨s, 1, none⟩ = some (.slice A n c) := by rw [cell_of_row _ s 1 _ _ (0, 0) h.box, ← hne]; rfl
 have HNE := Lib.hid hne
 have hn63 : (n : Int) ≤ 100000 := by omega
 clear h hne hn
 go_enter Tryz.func32, Tryz.ntmps32
 go_wp2
 go_loopw [12] (fun i wr => ∃ k : Nat, k ≤ n ∧ i = .int .i64 k ∧ Hid (∀ j o, j < k → fs[j]? = some o → isAt x o = false) ∧ Hid (Below w.heap.size w wr)) (fun i _ => n - (intOf i).toNat)
 case atStart => exact ⟨0, by omega, rfl, Lib.hid (fun j o hj => by omega), Lib.hid (Below.refl _ _)⟩
 case round =>
  obtain ⟨k, hk, rfl, HI, HB⟩ := hrel
  rcases Nat.lt_or_ge k n with hkm | hkm
  · obtain ⟨o, ho⟩ : ∃ o, fs[k]? = some o := ⟨_, List.getElem?_eq_getElem (by rw [HNE.out]; exact hkm)⟩
    obtain ⟨g, off, rfl, hg, d0, d1⟩ := (HL.out.below HB.out).at ho
    obtain ⟨nm, dA, dc, data⟩ := o
    simp only at d0 d1
    obtain ⟨q, hq⟩ : ∃ q, data.length = q := ⟨_, rfl⟩
    rw [hq] at d1
    obtain ⟨Wa, hWa⟩ : ∃ Wa, wr.alloc (.cells #[.string nm, .slice dA q dc] 56) = Wa := ⟨_, rfl⟩
    have hBa : Below wr.heap.size wr Wa := by rw [← hWa]; exact (Below.refl _ wr).alloc (Nat.le_refl _) _
    have hva : Wa.heap[wr.heap.size]? = some (.cells #[.string nm, .slice dA q dc] 56 (0, 0)) := by rw [← hWa]; exact heap_alloc_new wr _
    obtain ⟨va, hvae⟩ : ∃ va, wr.heap.size = va := ⟨_, rfl⟩
    rw [hvae] at hva
    have e0 : Wa.cell? ⟨va, 0, none⟩ = some (.string nm) := by rw [cell_of_row _ va 0 _ _ (0, 0) hva]; rfl
    have HBA := Lib.hid (HB.out.trans (hBa.mono HB.out.size))
    have HO := Lib.hid ho
    have hkm' : (k : Int) < (n : Int) := by omega
    have hk0 : (0 : Int) ≤ (k : Int) := by omega
    clear hg ho hBa hva
    by_cases h1 : nm.toList = x.toList
    · have h1b : (nm.toList == x.toList) = true := by simp [h1]
      have HE : Hid (atF fs x = (k : Int)) := Lib.hid (by
       unfold atF
       rw [findIdx_first HO.out (decide_eq_true h1) HI.out])
      clear HI HO
      go_wp2
      go_ret
      rw [HE.out]
      exact ⟨rfl, HBA.out⟩
    · have h1b : (nm.toList == x.toList) = false := by simp [h1]
      have HST : Hid (∀ j o', j < k + 1 → fs[j]? = some o' → isAt x o' = false) := Lib.hid (fun j o' hj hjo => by
       rcases Nat.lt_or_ge j k with q | q
       · exact HI.out j o' q hjo
       · obtain rfl : j = k := by omega
         rw [HO.out] at hjo
         cases hjo
         exact decide_eq_false h1)
      clear HI HO
      go_wp2
      go_roundw
      case rel => exact ⟨k + 1, by omega, by go_num, HST, HBA⟩
      case measure => simp [intOf] <;> omega
  · obtain rfl : k = n := by omega
    have HE : Hid (atF fs x = -1) := Lib.hid (by
     unfold atF
     rw [findIdx_none (fun j o hj hjo => HI.out j o (by have := HNE.out; omega) hjo)])
    clear HI
    go_wp2
    go_ret
    rw [HE.out]
    exact ⟨rfl, HB.out⟩
theorem SLine.kvs {w : World} {A : Option Addr} {c : Nat} {L : List KvR} (h : SLine 3 w A L.length c (L.flatMap KvR.cells)) (hi : ∀ o ∈ L, o.In w) : KvRs w A L.length L := by
 refine ⟨rfl, hi, fun h0 => ?_⟩
 obtain ⟨g, off, e, hg, hc, _⟩ := h.at h0
 refine ⟨g, off, e, hg, fun i o ho j v hv => ?_⟩
 have hi' := (List.getElem?_eq_some_iff.1 ho).1
 have hj := (List.getElem?_eq_some_iff.1 hv).1
 have hl : o.cells.length = 3 := rfl
 have h1 := hc (i * 3 + j) (by omega)
 rw [flat3 L i o j v ho hv] at h1
 rw [Nat.add_assoc]
 exact h1
def keyS (o : KvR) : ByteArray := strOfNums (o.kz.take o.kn)
def artS (o : KvR) : ByteArray := strOfNums (o.az.take o.an)
def hits6 (x y : ByteArray) (o : KvR) : Bool := decide ((keyS o).toList = x.toList ∧ (artS o).toList = y.toList ∧ ¬ o.kind % 5 = 3)
def was6 (os : List KvR) (x y : ByteArray) : Bool := os.any (hits6 x y)
set_option maxHeartbeats 3200000 in
theorem was6_any (w : World) (A : Option Addr) (n c : Nat) (os : List KvR) (h : KvRs w A n os) (hn : n ≤ 100000) (KA AA : Option Addr) (kn kc an ac : Nat) (ks bs : List Int) (hk : RowZ w KA kn ks) (ha : RowZ w AA an bs) :
 Calls Tryz.prog 16 #[.slice A n c, .slice KA kn kc, .slice AA an ac] w fun e w' => e = .returned (.bool (was6 os (strOfNums ks) (strOfNums bs))) ∧ Below w.heap.size w w' := by
 have HL := Lib.hid h
 have HKA := Lib.hid (And.intro hk ha)
 have hlen := h.1
 have hn63 : (n : Int) ≤ 100000 := by omega
 obtain ⟨x, hx⟩ : ∃ x, strOfNums ks = x := ⟨_, rfl⟩
 obtain ⟨y, hy⟩ : ∃ y, strOfNums bs = y := ⟨_, rfl⟩
 have CV : Hid (∀ W, Below w.heap.size w W → (convert 40 9 (.slice KA kn kc)).run Tryz.prog W = .ok (.string x) W ∧ (convert 40 9 (.slice AA an ac)).run Tryz.prog W = .ok (.string y) W) := Lib.hid (fun W hb => by
  rw [← hx, ← hy]
  exact ⟨conv_row (hk.below hb) kc, conv_row (ha.below hb) ac⟩)
 rw [hx, hy]
 clear h hk ha hx hy
 go_enter Tryz.func16, Tryz.ntmps16
 go_wp2
 go_loopw [11] (fun i wr => ∃ k : Nat, k ≤ n ∧ i = .int .i64 k ∧ Hid (∀ j o, j < k → os[j]? = some o → hits6 x y o = false) ∧ Hid (Below w.heap.size w wr)) (fun i _ => n - (intOf i).toNat)
 case atStart => exact ⟨0, by omega, rfl, Lib.hid (fun j o hj => by omega), Lib.hid (Below.refl _ _)⟩
 case round =>
  obtain ⟨k, hk, rfl, HI, HB⟩ := hrel
  rcases Nat.lt_or_ge k n with hkm | hkm
  · obtain ⟨o, ho⟩ : ∃ o, os[k]? = some o := ⟨_, List.getElem?_eq_getElem (by omega)⟩
    obtain ⟨g, off, rfl, hg, hc⟩ := (HL.out.below HB.out).2.2 (by omega)
    have hcs := hc k o ho
    have hin := HL.out.2.1 o (List.mem_of_getElem? ho)
    have d0 := hcs 0 _ rfl
    have d1 := hcs 1 _ rfl
    have d2 := hcs 2 _ rfl
    rw [Nat.add_zero] at d0
    obtain ⟨Wa, hWa⟩ : ∃ Wa, wr.alloc (.cells #[.int .u64 (o.kind : Int), .slice o.kA o.kn o.kc, .slice o.aA o.an o.ac] 42) = Wa := ⟨_, rfl⟩
    have hBa : Below wr.heap.size wr Wa := by rw [← hWa]; exact (Below.refl _ wr).alloc (Nat.le_refl _) _
    have hva : Wa.heap[wr.heap.size]? = some (.cells #[.int .u64 (o.kind : Int), .slice o.kA o.kn o.kc, .slice o.aA o.an o.ac] 42 (0, 0)) := by rw [← hWa]; exact heap_alloc_new wr _
    obtain ⟨va, hvae⟩ : ∃ va, wr.heap.size = va := ⟨_, rfl⟩
    rw [hvae] at hva
    have e0 : Wa.cell? ⟨va, 0, none⟩ = some (.int .u64 (o.kind : Int)) := by rw [cell_of_row _ va 0 _ _ (0, 0) hva]; rfl
    have e1 : Wa.cell? ⟨va, 1, none⟩ = some (.slice o.kA o.kn o.kc) := by rw [cell_of_row _ va 1 _ _ (0, 0) hva]; rfl
    have e2 : Wa.cell? ⟨va, 2, none⟩ = some (.slice o.aA o.an o.ac) := by rw [cell_of_row _ va 2 _ _ (0, 0) hva]; rfl
    have hbW : Below w.heap.size w Wa := HB.out.trans (hBa.mono HB.out.size)
    have v1 : (convert 40 9 (.slice o.kA o.kn o.kc)).run Tryz.prog Wa = .ok (.string (keyS o)) Wa := conv_row ((RowZ.of_isRow hin.key).below hbW) o.kc
    have v2 : (convert 40 9 (.slice o.aA o.an o.ac)).run Tryz.prog Wa = .ok (.string (artS o)) Wa := conv_row ((RowZ.of_isRow hin.art).below hbW) o.ac
    obtain ⟨v3, v4⟩ := CV.out Wa hbW
    have hkind := hin.kind
    have HBA := Lib.hid hbW
    have HH : Hid (hits6 x y o = decide ((keyS o).toList = x.toList ∧ (artS o).toList = y.toList ∧ ¬ o.kind % 5 = 3)) := Lib.hid rfl
    have HO := Lib.hid ho
    have hkm' : (k : Int) < (n : Int) := by omega
    have hk0 : (0 : Int) ≤ (k : Int) := by omega
    clear hg hc hcs ho hBa hva hbW hin
    generalize hh : hits6 x y o = hit at *
    have HHE := Lib.hid hh
    clear hh
    generalize keyS o = ko at *
    generalize artS o = ao at *
    obtain ⟨km, hkm2⟩ : ∃ km : Nat, (o.kind : Int) % 5 = (km : Int) ∧ o.kind % 5 = km := ⟨o.kind % 5, by omega, rfl⟩
    rw [hkm2.2] at HH
    have hkm3 := hkm2.1
    have hkl : km < 5 := by omega
    generalize o.kind = kd at *
    generalize o.kA = q1 at *
    generalize o.kn = q2 at *
    generalize o.kc = q3 at *
    generalize o.aA = q4 at *
    generalize o.an = q5 at *
    generalize o.ac = q6 at *
    clear hkm2
    have hstay : hit = false → ∀ j o', j < k + 1 → os[j]? = some o' → hits6 x y o' = false := fun h0 j o' hj hjo => by
     rcases Nat.lt_or_ge j k with q | q
     · exact HI.out j o' q hjo
     · obtain rfl : j = k := by omega
       rw [HO.out] at hjo
       cases hjo
       rw [HHE.out, h0]
    have HST := Lib.hid hstay
    clear hstay
    by_cases h1 : ko.toList = x.toList
    · have h1b : (ko.toList == x.toList) = true := by simp [h1]
      by_cases h2 : ao.toList = y.toList
      · have h2b : (ao.toList == y.toList) = true := by simp [h2]
        by_cases h3 : km = 3
        · have hf : hit = false := by rw [HH.out]; exact decide_eq_false (fun h => h.2.2 h3)
          subst hf
          subst h3
          have HST2 := Lib.hid (HST.out rfl)
          clear HST HH HO HHE HI
          go_wp2
          go_roundw
          case rel => exact ⟨k + 1, by omega, by go_num, HST2, HBA⟩
          case measure => simp [intOf] <;> omega
        · have ht : hit = true := by rw [HH.out]; exact decide_eq_true ⟨h1, h2, h3⟩
          have hE : was6 os x y = true := by
           unfold was6
           exact List.any_eq_true.2 ⟨o, List.mem_of_getElem? HO.out, by rw [HHE.out, ht]⟩
          have HE := Lib.hid hE
          have h3' : ¬ (km : Int) = 3 := by omega
          have h3b : ((km : Int) == 3) = false := by simp; omega
          clear HST HH HO HHE HI ht hE
          go_wp2
          go_ret
          rw [HE.out]
          exact ⟨rfl, HBA.out⟩
      · have hf : hit = false := by rw [HH.out]; exact decide_eq_false (fun h => h2 h.2.1)
        subst hf
        have HST2 := Lib.hid (HST.out rfl)
        have h2b : (ao.toList == y.toList) = false := by simp [h2]
        clear HST HH HO HHE HI
        go_wp2
        go_roundw
        case rel => exact ⟨k + 1, by omega, by go_num, HST2, HBA⟩
        case measure => simp [intOf] <;> omega
    · have hf : hit = false := by rw [HH.out]; exact decide_eq_false (fun h => h1 h.1)
      subst hf
      have HST2 := Lib.hid (HST.out rfl)
      have h1b : (ko.toList == x.toList) = false := by simp [h1]
      clear HST HH HO HHE HI
      go_wp2
      go_roundw
      case rel => exact ⟨k + 1, by omega, by go_num, HST2, HBA⟩
      case measure => simp [intOf] <;> omega
  · obtain rfl : k = n := by omega
    have hE : was6 os x y = false := by
     unfold was6
     rw [List.any_eq_false]
     intro o ho
     obtain ⟨j, hj⟩ := List.getElem?_of_mem ho
     rw [HI.out j o (by have := (List.getElem?_eq_some_iff.1 hj).1; omega) hj]
     simp
    have HE := Lib.hid hE
    clear hE
    go_wp2
    go_ret
    rw [HE.out]
    exact ⟨rfl, HB.out⟩
end Go.Proofs.YtdjnebgjdekmaaaGreatDoor
