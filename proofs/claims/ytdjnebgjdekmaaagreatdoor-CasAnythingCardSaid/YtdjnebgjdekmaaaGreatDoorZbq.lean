/-
  Reading for layer 6's laws: a disk's Read and the document's Parse in one form; two disks, of which one was cloned; slices of keys that came in.
  The walk of the law CasAnything: it answers true and writes nothing that was there.
-/
import Derived.Test.YtdjnebgjdekmaaaGreatDoorZbo
import Derived.Test.YtdjnebgjdekmaaaGreatDoorZbi
import Derived.Test.YtdjnebgjdekmaaaGreatDoorZan
import Derived.Test.YtdjnebgjdekmaaaGreatDoorZbl
import Derived.Test.YtdjnebgjdekmaaaGreatDoorZbk
import Derived.Test.YtdjnebgjdekmaaaGreatDoorZbp
namespace Go.Proofs.YtdjnebgjdekmaaaGreatDoor
open Go.RowKit Go.Maps
set_option linter.unusedVariables false
set_option maxRecDepth 100000

/-- What bytes are as an entry. -/
def qE (l : List Nat) : List Nat × List Nat × Bool := match splitE l with
  | none => ([], [], false)
  | some (k, a) => (k, a, true)
theorem nilRowQ (w : World) : RowN w none 0 [] := ⟨rfl, fun z hz => by simp [asZ] at hz, fun h => absurd h (by omega)⟩
theorem RSplit.qe {w' : World} {l : List Nat} {e : Ending} (h : RSplit l e w') : ∃ A1 c1 A2 c2, e = .returned (.tuple #[.slice A1 (qE l).1.length c1, .slice A2 (qE l).2.1.length c2, .bool (qE l).2.2]) ∧ RowN w' A1 (qE l).1.length (qE l).1 ∧ RowN w' A2 (qE l).2.1.length (qE l).2.1 := by
  unfold RSplit at h
  unfold qE
  cases hs : splitE l with
  | none =>
    rw [hs] at h
    exact ⟨none, 0, none, 0, h, nilRowQ _, nilRowQ _⟩
  | some p =>
    obtain ⟨k, a⟩ := p
    rw [hs] at h
    obtain ⟨A1, c1, A2, c2, rfl, h1, h2⟩ := h
    exact ⟨A1, c1, A2, c2, rfl, h1, h2⟩
/-- What Read hands back. -/
def bytesH (r : RD) (x : ByteArray) : List Nat := (holdR r x).getD []
def errH (r : RD) (x : ByteArray) : Int := if hasP ltS r.now x = true then 0 else 3
theorem read_hold {w : World} {d : Nat} {own : Nat → Nat} {r : RD} (hD : IsD w d own r) (x : ByteArray) :
    Calls Tryz.prog 23 #[.pointer (some ⟨d, 0, none⟩), .string x] w fun e w' => (∃ A c, e = .returned (.tuple #[.slice A (bytesH r x).length c, .int .i64 (errH r x)]) ∧ RowN w' A (bytesH r x).length (bytesH r x) ∧ (bytesH r x).length ≤ c ∧ c ≤ 9223372036854775807) ∧ Below w.heap.size w w' := by
  cases hh : hasP ltS r.now x with
  | false =>
    have e1 : bytesH r x = [] := by unfold bytesH holdR; rw [hh]; rfl
    have e2 : errH r x = 3 := by unfold errH; rw [hh]; rfl
    rw [e1, e2]
    refine (hD.read_no x hh).mono ?_
    rintro e w' ⟨rfl, hb⟩
    exact ⟨⟨none, 0, rfl, nilRowQ _, Nat.le_refl _, by decide⟩, hb⟩
  | true =>
    obtain ⟨g1, g2, g3⟩ := hD.bytes x hh
    obtain ⟨e1, e2⟩ := cells_natsV _ g1
    have e3 : bytesH r x = natsV (r.get x).data := by unfold bytesH holdR; rw [hh]; rfl
    have e4 : errH r x = 0 := by unfold errH; rw [hh]; rfl
    rw [e3, e4]
    have hl : (natsV (r.get x).data).length = (r.get x).data.length := by unfold natsV; rw [List.length_map]
    obtain ⟨b, hb⟩ : ∃ b, natsV (r.get x).data = b := ⟨_, rfl⟩
    rw [hb] at e1 e2 hl ⊢
    refine (hD.read_yes x hh).mono ?_
    rintro e w' ⟨⟨A, c, rfl, hsl, _⟩, hb⟩
    rw [← hl, ← e1] at hsl
    rw [← hl]
    have hB : BLine w' A b.length c b := ⟨e2, hsl⟩
    exact ⟨⟨A, c, rfl, hB.row, hsl.2.1, hsl.2.2.1⟩, hb⟩
theorem bytesH_hold {r : RD} {x : ByteArray} (h : hasP ltS r.now x = true) : bytesH r x = natsV (r.get x).data := by unfold bytesH holdR; rw [h]; rfl
theorem bytesH_len {r : RD} (h : SmallD r) (x : ByteArray) : (bytesH r x).length ≤ 90000 := by
  unfold bytesH holdR
  split
  · rename_i hh
    show (natsV _).length ≤ _
    unfold natsV
    rw [List.length_map]
    exact h x hh
  · exact Nat.zero_le _
/-- Is it one of a key's eight names? -/
def anyF (k : List Nat) (dn n : Nat) (x : ByteArray) : Bool := (List.range n).any fun s => decide (fileB k dn s = x)
theorem anyF_zero (k : List Nat) (dn : Nat) (x : ByteArray) : anyF k dn 0 x = false := rfl
theorem anyF_succ (k : List Nat) (dn n : Nat) (x : ByteArray) : anyF k dn (n + 1) x = (anyF k dn n x || decide (fileB k dn n = x)) := by
  unfold anyF
  rw [List.range_succ, List.any_append]
  simp
theorem bytes_beq (a b : ByteArray) : (a.toList == b.toList) = decide (b = a) := by
  by_cases h : b = a
  · rw [h]; simp
  · rw [decide_eq_false h, beq_eq_false_iff_ne]
    exact fun e => h (bytes_inj e.symm)
theorem keep_no {r : RD} {dn : Nat} {x : ByteArray} (h : namedB x = false) : keepX r dn x = true := by
  unfold keepX badQ
  rw [h]
  rfl
theorem keep_yes {r : RD} {dn : Nat} {x : ByteArray} (h : namedB x = true) (hh : hasP ltS r.now x = true) : keepX r dn x = ((qE (bytesH r x)).2.2 && anyF (qE (bytesH r x)).1 dn 8 x) := by
  unfold keepX badQ
  rw [h, bytesH_hold hh, Bool.true_and]
  show (!(soundN x (natsV (r.get x).data) dn).isNone) = _
  unfold soundN qE
  rw [h, if_pos rfl]
  cases splitE (natsV (r.get x).data) with
  | none => rfl
  | some p =>
    obtain ⟨k, a⟩ := p
    show (!(if anyF k dn 8 x = true then some k else none).isNone) = (true && anyF k dn 8 x)
    cases anyF k dn 8 x <;> rfl
theorem named_raw (x : ByteArray) : (decide (2 ≤ x.size) && ((x.extract 0 2).toList == (⟨#[99, 45]⟩ : ByteArray).toList)) = namedB x := Lib.hasPrefix_raw x ⟨#[99, 45]⟩
/-- A disk that was recovered, the clone of what it was, and a store. -/
structure AnyS (W w : World) (d c s : Nat) (own own2 : Nat → Nat) (r r2 : RD) : Prop where
  on : Below W.heap.size W w
  dd : IsD w d own r2
  cc : IsD w c own2 r
  ss : SBox w s d 3
  roots : RootsOk w
theorem AnyS.below {W w w' : World} {d c s : Nat} {own own2 : Nat → Nat} {r r2 : RD} (h : AnyS W w d c s own own2 r r2) (hb : Below w.heap.size w w') : AnyS W w' d c s own own2 r r2 :=
  ⟨h.on.trans (hb.mono h.on.size), h.dd.below hb, h.cc.below hb, h.ss.below hb, h.roots.below hb⟩
/-- The clone stays as it is while the disk goes on. -/
theorem IsD.aside {w w1 w2 : World} {d c : Nat} {own own2 own3 : Nat → Nat} {r : RD} (hF : ∀ i, w.heap.size ≤ i → own i = 0) (h0 : ∀ i, i < w.heap.size → own2 i = 0) (hc : IsD w1 c own2 r) (hO : Only own w1 own3 w2) : IsD w2 c own2 r :=
  hc.carry hO.1.size (fun _ _ => rfl) (fun k hk h => hO.2.2 k hk (hF k (by
    rcases Nat.lt_or_ge k w.heap.size with q | q
    · exact absurd (h0 k q) h
    · exact q))) (fun i hi => hc.1 i (by have := hO.1.size; omega))
theorem held_isRow {w : World} {A : Option Addr} {len cap : Nat} {zs : List Int} (h : IsRow .u8 w A len cap zs) : ∃ l, Held w A len cap l ∧ cap ≤ 9223372036854775807 := by
  refine ⟨_, ⟨(RowZ.of_isRow h).toN, ?_, ?_⟩, ?_⟩
  · intro hA
    rcases h with ⟨_, _, h, _⟩ | ⟨x, rfl, _⟩
    · exact h
    · cases hA
  · rcases h with ⟨_, h1, h2, _⟩ | ⟨x, _, hl, _⟩
    · omega
    · exact hl
  · rcases h with ⟨_, h1, h2, _⟩ | ⟨x, _, hl, hm, _⟩
    · omega
    · unfold maxLen at hm; omega
/-- What a walk is told of a slice of keys that came in. -/
def IsRows (w : World) (a : Option Addr) (len cap : Nat) : Prop :=
  (a = none ∧ len = 0 ∧ cap = 0) ∨ (len ≤ cap ∧ cap ≤ maxLen ∧ ∀ r, r < len → ∃ b off, a = some ⟨b, off, none⟩ ∧ b < w.heap.size ∧ ∃ A n c l, w.cell? ⟨b, off + r, none⟩ = some (.slice A n c) ∧ Held w A n c l ∧ c ≤ 9223372036854775807)
theorem IsRows.below {w w' : World} {a : Option Addr} {len cap : Nat} (h : IsRows w a len cap) (hb : Below w.heap.size w w') : IsRows w' a len cap := by
  rcases h with h | ⟨h1, h2, h3⟩
  · exact .inl h
  · refine .inr ⟨h1, h2, fun r hr => ?_⟩
    obtain ⟨b, off, e, hlt, A, n, c, l, h4, h5, h6⟩ := h3 r hr
    exact ⟨b, off, e, Nat.lt_of_lt_of_le hlt hb.size, A, n, c, l, (hb.cell (p := ⟨b, off + r, none⟩) hlt).trans h4, h5.below hb, h6⟩
theorem isRows_of (x : Addr) (l c : Nat) (A : Nat → Option Addr) (L C : Nat → Nat) (Z : Nat → List Int) (W : World) (hl : l ≤ c) (hm : c ≤ maxLen)
    (hrow : ∀ r, r < c → W.cell? (x.add r) = some (.slice (A r) (L r) (C r)) ∧ L r ≤ C r ∧ C r ≤ maxLen ∧ (Z r).length = C r ∧ (∀ n ∈ Z r, (Lit.int .u8 n).wf = true) ∧ (A r = none → C r = 0) ∧
        ∀ a', A r = some a' → 0 ≤ a'.block ∧ ∀ d, d < C r → W.cell? (a'.add d) = some (.int .u8 ((Z r).getD d 0))) : IsRows W (some x) l c := by
  · refine .inr ⟨hl, hm, fun r hr => ?_⟩
    have h0 := (hrow r (by omega)).1
    have hsp : x.spot = none := World.cell?_spot (by simpa [Addr.add] using (hrow 0 (by omega)).1)
    obtain ⟨b, off, sp⟩ := x
    obtain rfl : sp = none := hsp
    have hadd : ∀ i, (⟨b, off, none⟩ : Addr).add i = ⟨b, off + i, none⟩ := fun i => by unfold Addr.add; split <;> simp_all
    refine ⟨b, off, rfl, (by rw [hadd] at h0; exact block_lt_of_cell h0), ?_⟩
    obtain ⟨h1, h2, h3, h4, h5, h6, h7⟩ := hrow r (by omega)
    rw [hadd] at h1
    have hI : IsRow .u8 W (A r) (L r) (C r) (Z r) := by
      cases hA : A r with
      | none =>
        have hC := h6 hA
        refine .inl ⟨rfl, by omega, hC, List.eq_nil_of_length_eq_zero (by omega)⟩
      | some a' =>
        refine .inr ⟨a', rfl, h2, h3, h4, fun i hi => (h7 a' hA).2 i (by omega), h5⟩
    obtain ⟨lr, hh, hcc⟩ := held_isRow hI
    exact ⟨A r, L r, C r, lr, h1, hh, hcc⟩
/-- What an entry of a slot tells. -/
theorem hit_of {r : RD} {l : List Nat} {dn s : Nat} {a : List Nat} (h : hitR r l dn s = some a) : errH r (fileB l dn s) = 0 ∧ qE (bytesH r (fileB l dn s)) = (l, a, true) := by
  unfold hitR at h
  unfold errH bytesH qE
  cases hh : holdR r (fileB l dn s) with
  | none => rw [hh] at h; cases h
  | some b =>
    rw [hh] at h
    have hp : hasP ltS r.now (fileB l dn s) = true := by
      unfold holdR at hh
      split at hh
      · assumption
      · cases hh
    rw [hp, Option.getD_some]
    simp only [Option.bind_some] at h
    cases hs : splitE b with
    | none => rw [hs] at h; cases h
    | some p =>
      obtain ⟨k, a'⟩ := p
      rw [hs] at h
      simp only at h
      split at h
      · rename_i e
        cases h
        rw [e]
        exact ⟨rfl, rfl⟩
      · cases h
end Go.Proofs.YtdjnebgjdekmaaaGreatDoor
namespace Go.Proofs.YtdjnebgjdekmaaaGreatDoor
open Go.RowKit Go.Shelf Go.Maps
set_option linter.unusedVariables false
set_option maxRecDepth 100000

theorem rootsA_laid {W : World} (hL : laidMetH Tryz.prog Rows.casAnythingRow.laid W) : RootsOk W := by
  rw [MakeChecks.laidMetH_plain _ _ _ (by kernel_rfl)] at hL
  have h : laidMet Tryz.prog [("brazier/digest.roots", Rows.laid_brazier_digest_roots)] W := hL.tail.tail.tail
  exact roots_of_laid (by rw [MakeChecks.laidMetH_plain _ _ _ (by kernel_rfl)]; exact h)
theorem nameOk_size {x : ByteArray} (h : nameOk x = true) : x.size ≤ 80 := by
  unfold nameOk at h
  rw [Bool.and_eq_true, decide_eq_true_eq] at h
  exact h.2
theorem named_raw2 (x : ByteArray) : (decide (2 ≤ x.size) && ((x.extract 0 2).toList == [99, 45])) = namedB x := by
  have h := named_raw x
  rw [show (⟨#[99, 45]⟩ : ByteArray).toList = [99, 45] from Lib.toList_data _] at h
  exact h
theorem qE_len {b : List Nat} (h : bytesN b) : (qE b).1.length ≤ b.length := by
  unfold qE
  cases hs : splitE b with
  | none => exact Nat.zero_le _
  | some p =>
    obtain ⟨k, a⟩ := p
    have h1 := (split_some h hs).1
    show k.length ≤ b.length
    rw [h1, entryN_length]
    omega
/-- What Get hands back, in one form. -/
theorem get_one {r : RD} {l : List Nat} {B : Nat} {e : Ending} {W : World} (h : GetAns r l 3 B e W) : ∃ (art : List Nat) (okb : Bool) (A : Option Addr) (c : Nat), e = .returned (.tuple #[.slice A art.length c, .bool okb]) ∧ RowN W A art.length art ∧ (okb = true → ∃ t, t < 8 ∧ hitR r l 3 t = some art) := by
  unfold GetAns at h
  cases hf : findR r l 3 with
  | none =>
    rw [hf] at h
    exact ⟨[], false, none, 0, h, nilRowQ _, fun e => by cases e⟩
  | some p =>
    obtain ⟨s, a⟩ := p
    rw [hf] at h
    obtain ⟨A, c, rfl, hl, _⟩ := h
    exact ⟨a, true, A, c, rfl, hl.row, fun _ => ⟨s, findR_lt hf⟩⟩
set_option maxHeartbeats 12800000 in
theorem casAnything_walk (a0 : Option Addr) (len0 cap0 : Nat) (os : List FlR) (a1 : Option Addr) (len1 cap1 : Nat) (W : World) (w0 : FlRs W a0 len0 os) (c0 : len0 ≤ cap0) (c1 : cap0 ≤ maxLen) (w1 : IsRows W a1 len1 cap1) (hL : laidMetH Tryz.prog Rows.casAnythingRow.laid W) :
    Calls Tryz.prog 4 #[.slice a0 len0 cap0, .slice a1 len1 cap1] W fun e w' => e = .returned (.bool true) ∧ Below W.heap.size W w' := by
  have hR := rootsA_laid hL
  have hl63 : (len0 : Int) ≤ 9223372036854775807 := by unfold maxLen at c1; omega
  have hk63 : (len1 : Int) ≤ 9223372036854775807 := by
    rcases w1 with ⟨_, h, _⟩ | ⟨h1, h2, _⟩
    · omega
    · unfold maxLen at h2; omega
  have HF := Lib.hid w0
  have HK := Lib.hid w1
  have HR := Lib.hid hR
  have HLEN := Lib.hid w0.1
  have HN := Lib.hid (IsD.new 1048576 (by omega) W)
  clear w0 w1 hL hR c0 c1
  go_enter Tryz.func4, Tryz.ntmps4
  go_wp2_with fail
  refine HN.out.mono ?_
  rintro e w1 ⟨rfl, own0, hz0, hD0, hb0⟩
  have HD0 : Hid (DF W w1 W.heap.size own0 (RD.fresh 1048576)) := Lib.hid ⟨hz0, hb0, hD0⟩
  clear hz0 hb0 hD0 HN
  go_upto_block 0 with fail
  go_cut [6, 7] from 36 to 63 (fun _ _ wx => Hid (∃ k own r, k ≤ 30 ∧ AnyR k r ∧ DF W wx W.heap.size own r))
  case first =>
    go_wp2_with fail
    go_loopw [36] (fun i wr => ∃ (k : Nat) (own : Nat → Nat) (r : RD), k ≤ len0 ∧ k ≤ 30 ∧ i = .int .i64 (k : Int) ∧ Hid (AnyR k r ∧ DF W wr W.heap.size own r)) (fun i _ => len0 - (intOf i).toNat)
    case atStart => exact ⟨0, own0, _, by omega, by omega, rfl, Lib.hid ⟨AnyR.fresh, HD0.out⟩⟩
    case round =>
      obtain ⟨k, own, r, hk, hk30, rfl, HI⟩ := hrel
      have hk0 : (0 : Int) ≤ (k : Int) := by omega
      clear HD0
      rcases Nat.lt_or_ge k len0 with hkn | hkn
      · obtain ⟨o, ho⟩ : ∃ o, os[k]? = some o := ⟨_, List.getElem?_eq_getElem (by rw [HLEN.out]; exact hkn)⟩
        obtain ⟨g, off, rfl, hg, hc⟩ := HF.out.2.2 (by omega)
        have hin := HF.out.2.1 o (List.mem_of_getElem? ho)
        obtain ⟨nm, dA, dn, dc, dz⟩ := o
        have hBW := HI.out.2.2.1
        have d0 := (hBW.cell (p := ⟨g, off + k * 2 + 0, none⟩) hg).trans (hc k _ ho 0 _ rfl)
        have d1 := (hBW.cell (p := ⟨g, off + k * 2 + 1, none⟩) hg).trans (hc k _ ho 1 _ rfl)
        rw [Nat.add_zero] at d0
        have hnm : nm.size ≤ 9223372036854775807 := by have h1 := hin.name; unfold maxLen at h1; exact h1
        obtain ⟨zs, hzr⟩ : ∃ zs, RowZ W dA dn zs := ⟨_, RowZ.of_isRow hin.data⟩
        have HX := Lib.hid (And.intro hzr hnm)
        have hkn' : (k : Int) < (len0 : Int) := by omega
        obtain ⟨Wa, hWa⟩ : ∃ Wa, wr.alloc (.cells #[.string nm, .slice dA dn dc] 56) = Wa := ⟨_, rfl⟩
        have hBa : Below wr.heap.size wr Wa := by rw [← hWa]; exact (Below.refl _ wr).alloc (Nat.le_refl _) _
        have hva : Wa.heap[wr.heap.size]? = some (.cells #[.string nm, .slice dA dn dc] 56 (0, 0)) := by rw [← hWa]; exact heap_alloc_new wr _
        obtain ⟨va, hvae⟩ : ∃ va, wr.heap.size = va := ⟨_, rfl⟩
        rw [hvae] at hva
        have HO0 : Hid (own va = 0) := Lib.hid (by rw [← hvae]; exact HI.out.2.2.2.1 _ (Nat.le_refl _))
        have e0 : Wa.cell? ⟨va, 0, none⟩ = some (.string nm) := by rw [cell_of_row _ va 0 _ _ (0, 0) hva]; rfl
        have e1 : Wa.cell? ⟨va, 1, none⟩ = some (.slice dA dn dc) := by rw [cell_of_row _ va 1 _ _ (0, 0) hva]; rfl
        have HVA := Lib.hid hva
        have HDA : Hid (DF W Wa W.heap.size own r) := Lib.hid (HI.out.2.below hBa)
        have hdn0 : (0 : Int) ≤ (dn : Int) := by omega
        clear hg hc hin ho hBW hzr hnm hBa hva
        by_cases h30 : k < 30
        · have h30a : ¬ (30 : Int) ≤ (k : Int) := by omega
          have h30b : (k : Int) < 30 := by omega
          by_cases h4 : dn ≤ 400
          · have h4a : ¬ (400 : Int) < (dn : Int) := by omega
            have h4b : (dn : Int) ≤ 400 := by omega
            cases hok : nameOk nm with
            | false =>
              obtain ⟨q1, q2⟩ := HI.out.1.create_no hok
              have hbe : r.begE [nm] ≠ 0 := by
                unfold RD.begE
                rw [on_of HI.out.1.off HI.out.1.stop]
                simp [hok]
              have HC := HDA.out.2.2.create_noL (by have := HI.out.1.size; omega) nm HX.out.2 hbe
              rw [q1] at HC
              have HC := Lib.hid HC
              have HQ := Lib.hid q2
              clear q1 q2 hbe hok
              go_wp2_with fail
              refine HC.out.mono ?_
              rintro e w2 ⟨rfl, hN⟩
              obtain ⟨own2, _, hD2⟩ := HDA.out.next hN
              have HI2 := Lib.hid (And.intro HQ.out hD2)
              clear hN hD2 HC e0 e1 d0 d1
              go_wp2
              go_roundw
              case rel => exact ⟨k + 1, own2, _, by omega, by omega, by go_num, HI2⟩
              case measure => simp [intOf] <;> omega
            | true =>
              have hzl : (cellsZ zs).length ≤ 400 := by rw [cellsZ_length, HX.out.1.1]; exact h4
              obtain ⟨r1, r2, q1, q2, q3⟩ := HI.out.1.create_yes HDA.out.2.2.fct.1 (by omega) hok hzl
              have hns := nameOk_size hok
              have hs0 := HI.out.1.size
              have hs1 : r1.size ≤ r.size + 4 := by have h := size_create (r := r) nm; rw [q1] at h; exact h
              have HC := Lib.hid (HDA.out.create q1 (by omega) (by omega))
              have HA := Lib.hid (fun (V : World) (own' : Nat → Nat) (h : DF W V W.heap.size own' r1) => h.append0 (c := dc) HX.out.1 q2 (by omega) (by omega) (by omega))
              have HQ := Lib.hid q3
              clear q1 q2 q3 hns hs0 hs1 hzl hok
              go_wp2_with fail
              refine HC.out.mono ?_
              rintro e w2 ⟨rfl, own2, hO2, hD2⟩
              have hvb : w2.heap[va]? = some (.cells #[.string nm, .slice dA dn dc] 56 (0, 0)) := (hO2.2.2 va (lt_of_block HVA.out) HO0.out).trans HVA.out
              have f0 : w2.cell? ⟨va, 0, none⟩ = some (.string nm) := by rw [cell_of_row _ va 0 _ _ (0, 0) hvb]; rfl
              have f1 : w2.cell? ⟨va, 1, none⟩ = some (.slice dA dn dc) := by rw [cell_of_row _ va 1 _ _ (0, 0) hvb]; rfl
              have HAP := Lib.hid (HA.out w2 own2 hD2)
              clear hO2 hD2 hvb HC HA e0 e1 d0 d1
              go_wp2_with fail
              refine HAP.out.mono ?_
              rintro e w3 ⟨rfl, own3, _, hD3⟩
              have HI2 := Lib.hid (And.intro HQ.out hD3)
              clear hD3 HAP f0 f1
              go_wp2
              go_roundw
              case rel => exact ⟨k + 1, own3, _, by omega, by omega, by go_num, HI2⟩
              case measure => simp [intOf] <;> omega
          · have h4a : (400 : Int) < (dn : Int) := by omega
            have HFIN : Hid (∃ k own r, k ≤ 30 ∧ AnyR k r ∧ DF W Wa W.heap.size own r) := Lib.hid ⟨k, own, r, hk30, HI.out.1, HDA.out⟩
            go_wp2_with fail
            go_meet
            exact HFIN
        · have h30a : (30 : Int) ≤ (k : Int) := by omega
          have HFIN : Hid (∃ k own r, k ≤ 30 ∧ AnyR k r ∧ DF W Wa W.heap.size own r) := Lib.hid ⟨k, own, r, hk30, HI.out.1, HDA.out⟩
          go_wp2_with fail
          go_meet
          exact HFIN
      · obtain rfl : k = len0 := by omega
        have HFIN : Hid (∃ k own r, k ≤ 30 ∧ AnyR k r ∧ DF W wr W.heap.size own r) := Lib.hid ⟨k, own, r, hk30, HI.out.1, HI.out.2⟩
        go_wp2_with fail
        go_meet
        exact HFIN
  case rest =>
    obtain ⟨k, own, r, hk30, hA, hD⟩ := hcut.out
    have hF := hD.2.2.fct.1
    obtain ⟨r2, erec, hB⟩ := recR_ok 3 hA.off hA.stop hF hA.names
    have hlen := hA.len hF
    have hsz := hA.size
    have HPR := Lib.hid (And.intro hA (And.intro hB hF))
    have HDD := Lib.hid hD
    have HCL := Lib.hid (hD.2.2.clone)
    have HOP : Hid (∀ V, Below wc.heap.size wc V → Calls Tryz.prog 8 #[.pointer (some ⟨W.heap.size, 0, none⟩), .int .i64 3] V (OpenOk V W.heap.size 3 own r2)) := Lib.hid (fun V hV => open_ok V W.heap.size 3 own r r2 (hD.2.2.below hV) hA.smallD (by omega) (HR.out.below (hD.2.1.trans (hV.mono hD.2.1.size))) (hD.1 _ HR.out.1) (fun p hp => by have := nameOk_size (hA.names p hp); omega) (by omega) hA.off erec)
    clear hcut hA hD hF erec hB hlen hsz HD0 HF HLEN
    go_wp2_with fail
    refine HCL.out.mono ?_
    rintro e w2 ⟨c, own2, rfl, h0, hC, hb2⟩
    have HO2 := Lib.hid (HOP.out w2 hb2)
    have H2 := Lib.hid (And.intro h0 (And.intro hC hb2))
    clear h0 hC hb2 HCL HOP
    go_wp2_with fail
    refine HO2.out.mono ?_
    rintro e w3 ⟨s, own3, rfl, hs, hSB, hs0, hO3, hD3⟩
    have hS3 : AnyS W w3 W.heap.size c s own3 own2 r r2 := by
      obtain ⟨h0, hC, hb2⟩ := H2.out
      have hbw : Below W.heap.size W w2 := HDD.out.2.1.trans (hb2.mono HDD.out.2.1.size)
      have hbw3 : Below W.heap.size W w3 := hbw.trans (hO3.toBelow HDD.out.1 hbw.size)
      exact ⟨hbw3, hD3, IsD.aside (d := 0) HDD.out.2.2.1 h0 hC hO3, hSB, HR.out.below hbw3⟩
    have HLI := Lib.hid hS3.cc.list
    have HS3 := Lib.hid hS3
    clear hs hSB hs0 hO3 hD3 hS3 HO2 H2 HDD
    go_wp2_with fail
    refine HLI.out.mono ?_
    rintro e w4 ⟨⟨LA, lc, rfl, hsl, _⟩, hb4⟩
    obtain ⟨nn, hnn⟩ : ∃ nn, r.now.length = nn := ⟨_, rfl⟩
    rw [hnn] at hsl ⊢
    have HS := Lib.hid (HS3.out.below hb4)
    have HSL := Lib.hid hsl
    have hn60 : (nn : Int) ≤ 60 := by have h1 := HPR.out.1.len HPR.out.2.2; omega
    have HNN := Lib.hid hnn
    clear hsl hb4 HLI HS3 hnn
    go_wp2_with fail
    go_loopw [76] (fun i wr => ∃ k : Nat, k ≤ nn ∧ i = .int .i64 (k : Int) ∧ Hid (Below w4.heap.size w4 wr)) (fun i _ => nn - (intOf i).toNat)
    case atStart => exact ⟨0, by omega, rfl, Lib.hid (Below.refl _ _)⟩
    case round =>
      obtain ⟨k, hk, rfl, HB⟩ := hrel
      have hk0 : (0 : Int) ≤ (k : Int) := by omega
      rcases Nat.lt_or_ge k nn with hkn | hkn
      · obtain ⟨p, hp⟩ : ∃ p, r.now[k]? = some p := ⟨_, List.getElem?_eq_getElem (by rw [HNN.out]; exact hkn)⟩
        obtain ⟨x, v⟩ := p
        obtain ⟨g, off, rfl, hg, hc, _⟩ := (HSL.out.below HB.out).at (by omega)
        have d0 : wr.cell? ⟨g, off + k, none⟩ = some (.string x) := (hc k (by omega)).trans (by unfold namesV; rw [List.getElem?_map, hp]; rfl)
        have hhas : hasP ltS r.now x = true := by
          unfold hasP
          rw [(look_some orders_S HPR.out.2.2.rn).2 (List.mem_of_getElem? hp)]
          rfl
        have HH := Lib.hid hhas
        have hkn' : (k : Int) < (nn : Int) := by omega
        have HRD := read_hold (HS.out.below HB.out).cc x
        have he : errH r x = 0 := by unfold errH; rw [hhas]; rfl
        rw [he] at HRD
        have HRD := Lib.hid HRD
        clear hc hp hg hhas he
        go_wp2_with fail
        refine HRD.out.mono ?_
        rintro e w5 ⟨⟨A1, c1, rfl, hr1, hc1, hcm1⟩, hb5⟩
        have HB5 := Lib.hid (HB.out.trans (hb5.mono HB.out.size))
        obtain ⟨bs, hbs⟩ : ∃ bs, bytesH r x = bs := ⟨_, rfl⟩
        rw [hbs] at hr1 hc1 ⊢
        have hb400 : bs.length ≤ 400 := by
          rw [← hbs, bytesH_hold HH.out]
          unfold natsV
          rw [List.length_map]
          exact HPR.out.1.get x
        have HBS := Lib.hid hbs
        have HR1 := Lib.hid hr1
        obtain ⟨bl, hbl⟩ : ∃ bl, bs.length = bl := ⟨_, rfl⟩
        rw [hbl] at hr1 hc1 hb400 HR1 ⊢
        have HBL := Lib.hid hbl
        have HC1 := Lib.hid (And.intro hc1 (And.intro hcm1 hb400))
        obtain ⟨nb, hnb⟩ : ∃ nb, namedB x = nb := ⟨_, rfl⟩
        have hraw := named_raw2 x
        rw [hnb] at hraw
        have hns : (x.size : Int) ≥ 0 := by omega
        have HNB := Lib.hid hnb
        obtain ⟨kb, hkb⟩ : ∃ kb, keepX r 3 x = kb := ⟨_, rfl⟩
        have HKB := Lib.hid hkb
        have hh2 : hasP ltS r2.now x = kb := by rw [HPR.out.2.1.has, HH.out, hkb, Bool.and_true]
        have hb2 : kb = true → bytesH r2 x = bs := fun h => by
          rw [bytesH_hold (by rw [hh2]; exact h), ← hbs, bytesH_hold HH.out, HPR.out.2.1.get x (by rw [hkb]; exact h)]
        have hb2n : kb = false → bytesH r2 x = [] := fun h => by
          unfold bytesH holdR
          rw [hh2, h]
          rfl
        have he2 : errH r2 x = if kb = true then 0 else 3 := by unfold errH; rw [hh2]
        have HX2 := Lib.hid (And.intro hb2 (And.intro hb2n he2))
        clear hr1 hc1 hcm1 hb400 hbs hbl hnb hkb hh2 hb2 hb2n he2 hb5 HRD d0 HB
        go_upto_region 18 with fail
        go_cut [93] from 86 to 93 (fun v wx => v = .bool nb ∧ Hid (w5 = wx))
        case first =>
          by_cases hn2 : 2 ≤ x.size
          · have hn2' : (2 : Int) ≤ (x.size : Int) := by omega
            rw [decide_eq_true hn2, Bool.true_and] at hraw
            clear hns
            go_wp2_with fail
            go_meet
            exact ⟨rfl, Lib.hid rfl⟩
          · have hn2' : ¬ (2 : Int) ≤ (x.size : Int) := by omega
            rw [decide_eq_false hn2, Bool.false_and] at hraw
            subst hraw
            go_wp2_with fail
            go_meet
            exact ⟨rfl, Lib.hid rfl⟩
        case rest =>
          obtain ⟨rfl, HW⟩ := hcut
          obtain rfl := HW.out
          cases nb with
          | false =>
            have hkt : kb = true := by rw [← HKB.out]; exact keep_no HNB.out
            subst hkt
            have HRE := read_hold (HS.out.below (HB5.out)).dd x
            have hxe := HX2.out.2.2
            rw [if_pos rfl] at hxe
            rw [hxe, HX2.out.1 rfl] at HRE
            have HRE := Lib.hid HRE
            have hbl := HBL.out
            clear hxe
            rw [hbl] at HRE
            clear hbl
            go_wp2_with fail
            refine HRE.out.mono ?_
            rintro e w8 ⟨⟨A8, c8, rfl, hr8, _, _⟩, hb8⟩
            have HB8 := Lib.hid ((HB5.out).trans (hb8.mono (HB5.out).size))
            have v1 := conv_row hr8 c8
            have v2 := conv_row (HR1.out.below hb8) c1
            generalize strOfNums (asZ bs) = u at *
            clear hr8 hb8 HRE
            go_wp2
            go_roundw
            case rel => exact ⟨k + 1, by omega, by go_num, HB8⟩
            case measure => simp [intOf] <;> omega
          | true =>
            have HPA := Lib.hid (rsplit_any w5 A1 bl c1 bs (by have := HC1.out.2.2; omega) HC1.out.1 HC1.out.2.1 HR1.out)
            have hql := qE_len (HR1.out.bytes)
            have hkb2 : kb = ((qE bs).2.2 && anyF (qE bs).1 3 8 x) := by rw [← HKB.out, keep_yes HNB.out HH.out, HBS.out]
            go_wp2_with fail
            refine HPA.out.mono ?_
            rintro e w6 ⟨hans, hb6⟩
            obtain ⟨A2, c2, A3, c3, rfl, hk2, _⟩ := hans.qe
            obtain ⟨q, hq⟩ : ∃ q, qE bs = q := ⟨_, rfl⟩
            rw [hq] at hk2 hql hkb2 ⊢
            obtain ⟨K, a, ok⟩ := q
            simp only at hk2 hql hkb2 ⊢
            have HKB2 := Lib.hid hkb2
            have hkl : K.length ≤ 400 := by have h1 := HC1.out.2.2; have h2 := HBL.out; omega
            obtain ⟨kl, hkle⟩ : ∃ kl, K.length = kl := ⟨_, rfl⟩
            rw [hkle] at hk2 hkl ⊢
            obtain ⟨al, hal⟩ : ∃ al, a.length = al := ⟨_, rfl⟩
            rw [hal]
            have HK2 := Lib.hid hk2
            have HB6 := Lib.hid (HB5.out.trans (hb6.mono HB5.out.size))
            have HR6 := Lib.hid (HR1.out.below hb6)
            have HKL := Lib.hid hkl
            clear hans hb6 hk2 hql hkb2 hkle hal hq HPA hkl
            go_upto_block 4 with fail
            go_cut [15, 19] from 100 to 114 (fun v _ wx => v = .bool kb ∧ Hid (Below w6.heap.size w6 wx))
            case first =>
              go_wp2_with fail
              go_loopw [15, 100] (fun v i wr => ∃ (j : Nat) (b : Bool), j ≤ 8 ∧ i = .int .i64 (j : Int) ∧ v = .bool b ∧ Hid (b = (ok && anyF K 3 j x)) ∧ Hid (Below w6.heap.size w6 wr)) (fun _ i _ => 8 - (intOf i).toNat)
              case atStart => exact ⟨0, false, by omega, rfl, rfl, Lib.hid (by rw [anyF_zero, Bool.and_false]), Lib.hid (Below.refl _ _)⟩
              case round =>
                obtain ⟨j, b, hj, rfl, rfl, HJ, HBJ⟩ := hrel
                have hj0 : (0 : Int) ≤ (j : Int) := by omega
                rcases Nat.lt_or_ge j 8 with hj8 | hj8
                · have hj8' : (j : Int) < 8 := by omega
                  have HNX := Lib.hid (anyF_succ K 3 j x)
                  cases b with
                  | true =>
                    have HV : Hid (true = (ok && anyF K 3 (j + 1) x)) := Lib.hid (by
                      rw [HNX.out]
                      have h := HJ.out
                      cases ok
                      · rw [Bool.false_and] at h; exact h
                      · rw [Bool.true_and] at h; rw [← h]; rfl)
                    go_wp2
                    go_roundw
                    case rel => exact ⟨j + 1, true, by omega, by go_num, rfl, HV, HBJ⟩
                    case measure => simp [intOf] <;> omega
                  | false =>
                    cases ok with
                    | false =>
                      go_wp2
                      go_roundw
                      case rel => exact ⟨j + 1, false, by omega, by go_num, rfl, Lib.hid (by rw [Bool.false_and]), HBJ⟩
                      case measure => simp [intOf] <;> omega
                    | true =>
                      have HFO := Lib.hid (rfileOf_any A2 kl c2 K 3 j (by have := HKL.out; omega) (by omega) hj8 wr (HK2.out.below HBJ.out))
                      have hcmp := bytes_beq x (fileB K 3 j)
                      obtain ⟨t, ht⟩ : ∃ t, decide (fileB K 3 j = x) = t := ⟨_, rfl⟩
                      rw [ht] at hcmp HNX
                      have HV : Hid (t = (true && anyF K 3 (j + 1) x)) := Lib.hid (by
                        rw [HNX.out]
                        have h := HJ.out
                        rw [Bool.true_and] at h
                        rw [← h]
                        rfl)
                      clear ht
                      generalize fileB K 3 j = fb at *
                      go_wp2_with fail
                      refine HFO.out.mono ?_
                      rintro e w7 ⟨rfl, hb7⟩
                      have HB7 := Lib.hid (HBJ.out.trans (hb7.mono HBJ.out.size))
                      clear hb7 HFO
                      go_wp2
                      go_roundw
                      case rel => exact ⟨j + 1, t, by omega, by go_num, rfl, HV, HB7⟩
                      case measure => simp [intOf] <;> omega
                · obtain rfl : j = 8 := by omega
                  have hbk : b = kb := by rw [HJ.out, ← HKB2.out]
                  subst hbk
                  go_wp2_with fail
                  go_meet
                  exact ⟨rfl, HBJ⟩
            case rest =>
              obtain ⟨rfl, HB7⟩ := hcut
              cases kb with
              | true =>
                have HRE := read_hold (HS.out.below (HB6.out.trans (HB7.out.mono HB6.out.size))).dd x
                have hxe := HX2.out.2.2
                rw [if_pos rfl] at hxe
                rw [hxe, HX2.out.1 rfl] at HRE
                have HRE := Lib.hid HRE
                have hbl := HBL.out
                clear hxe
                rw [hbl] at HRE
                clear hbl
                go_wp2_with fail
                refine HRE.out.mono ?_
                rintro e w8 ⟨⟨A8, c8, rfl, hr8, _, _⟩, hb8⟩
                have HB8 := Lib.hid ((HB6.out.trans (HB7.out.mono HB6.out.size)).trans (hb8.mono (HB6.out.trans (HB7.out.mono HB6.out.size)).size))
                have v1 := conv_row hr8 c8
                have v2 := conv_row ((HR6.out.below HB7.out).below hb8) c1
                generalize strOfNums (asZ bs) = u at *
                clear hr8 hb8 HRE
                go_wp2
                go_roundw
                case rel => exact ⟨k + 1, by omega, by go_num, HB8⟩
                case measure => simp [intOf] <;> omega
              | false =>
                have HRE := read_hold (HS.out.below (HB6.out.trans (HB7.out.mono HB6.out.size))).dd x
                have hxe := HX2.out.2.2
                rw [if_neg (by decide)] at hxe
                rw [hxe, HX2.out.2.1 rfl] at HRE
                have HRE := Lib.hid HRE
                have hbl := HBL.out
                clear hxe
                clear hbl
                go_wp2_with fail
                refine HRE.out.mono ?_
                rintro e w8 ⟨⟨A8, c8, rfl, hr8, _, _⟩, hb8⟩
                have HB8 := Lib.hid ((HB6.out.trans (HB7.out.mono HB6.out.size)).trans (hb8.mono (HB6.out.trans (HB7.out.mono HB6.out.size)).size))
                clear hr8 hb8 HRE
                go_wp2
                go_roundw
                case rel => exact ⟨k + 1, by omega, by go_num, HB8⟩
                case measure => simp [intOf] <;> omega
      · obtain rfl : k = nn := by omega
        go_wp2_with fail
        go_loopw [138] (fun i wr => ∃ k : Nat, k ≤ len1 ∧ i = .int .i64 (k : Int) ∧ Hid (Below w4.heap.size w4 wr)) (fun i _ => len1 - (intOf i).toNat)
        case atStart => exact ⟨0, by omega, rfl, HB⟩
        case round =>
          clear HB
          obtain ⟨k, hk, rfl, HB⟩ := hrel
          have hk0 : (0 : Int) ≤ (k : Int) := by omega
          have HLV := Lib.hid (casLives wr (HS.out.below HB.out).roots)
          have HON := Lib.hid (HS.out.below HB.out).on
          rcases Nat.lt_or_ge k len1 with hkn | hkn
          · obtain ⟨g, off, rfl, hg, A, n, cc, l, hc, hH, hcm⟩ : ∃ b off, a1 = some ⟨b, off, none⟩ ∧ b < wr.heap.size ∧ ∃ A n c l, wr.cell? ⟨b, off + k, none⟩ = some (.slice A n c) ∧ Held wr A n c l ∧ c ≤ 9223372036854775807 := by
              rcases (HK.out.below HON.out) with ⟨_, h0, _⟩ | ⟨_, _, h3⟩
              · omega
              · exact h3 k hkn
            have hkn' : (k : Int) < (len1 : Int) := by omega
            have hn0 : (0 : Int) ≤ (n : Int) := by omega
            have HHD := Lib.hid (And.intro hH hcm)
            clear hg hH hcm
            by_cases h30 : k < 30
            · have h30a : ¬ (30 : Int) ≤ (k : Int) := by omega
              have h30b : (k : Int) < 30 := by omega
              by_cases h4 : n ≤ 400
              · have h4a : ¬ (400 : Int) < (n : Int) := by omega
                have h4b : (n : Int) ≤ 400 := by omega
                have HG := Lib.hid (cget_any wr s W.heap.size 3 own3 r2 A n cc l (HS.out.below HB.out).ss (HS.out.below HB.out).dd (HPR.out.2.1.smallD HPR.out.1.smallD) (by omega) ⟨HHD.out.1, HHD.out.2, by omega⟩ (HS.out.below HB.out).roots)
                clear HLV
                go_wp2_with fail
                refine HG.out.mono ?_
                rintro e w5 ⟨hans, hb5⟩
                obtain ⟨art, okb, A5, c5, rfl, hr5, hhit⟩ := get_one hans
                obtain ⟨al, hal⟩ : ∃ al, art.length = al := ⟨_, rfl⟩
                rw [hal] at hr5 ⊢
                have HR5 := Lib.hid hr5
                have HHIT := Lib.hid hhit
                have HB5 := Lib.hid (HB.out.trans (hb5.mono HB.out.size))
                have HKR := Lib.hid (HHD.out.1.1.below hb5)
                clear hans hb5 hr5 hhit HG hal hc
                go_upto_block 8 with fail
                go_cut [26, 27, 28, 29, 30, 31, 32] from 156 to 195 (fun v _ _ _ _ _ _ wx => ∃ b : Bool, v = .bool b ∧ Hid (okb = true → b = true) ∧ Hid (Below w5.heap.size w5 wx))
                case first =>
                  go_wp2_with fail
                  go_loopw [26, 156] (fun v i wr => ∃ (j : Nat) (b : Bool), j ≤ 8 ∧ i = .int .i64 (j : Int) ∧ v = .bool b ∧ Hid (∀ t, t < j → hitR r2 l 3 t = some art → b = true) ∧ Hid (Below w5.heap.size w5 wr)) (fun _ i _ => 8 - (intOf i).toNat)
                  case atStart => exact ⟨0, false, by omega, rfl, rfl, Lib.hid (fun t ht => by omega), Lib.hid (Below.refl _ _)⟩
                  case round =>
                    obtain ⟨j, b, hj, rfl, rfl, HJ, HBJ⟩ := hrel
                    have hj0 : (0 : Int) ≤ (j : Int) := by omega
                    rcases Nat.lt_or_ge j 8 with hj8 | hj8
                    · have hj8' : (j : Int) < 8 := by omega
                      have HFO := Lib.hid (rfileOf_any A n cc l 3 j (by omega) (by omega) hj8 wr (HKR.out.below HBJ.out))
                      have HHT := Lib.hid (fun (h : hitR r2 l 3 j = some art) => hit_of h)
                      have HBLN := Lib.hid (bytesH_len (HPR.out.2.1.smallD HPR.out.1.smallD) (fileB l 3 j))
                      generalize fileB l 3 j = x at *
                      go_wp2_with fail
                      refine HFO.out.mono ?_
                      rintro e w6 ⟨rfl, hb6⟩
                      have HB6 := Lib.hid (HBJ.out.trans (hb6.mono HBJ.out.size))
                      have HRD := Lib.hid (read_hold (HS.out.below (HB5.out.trans (HB6.out.mono HB5.out.size))).dd x)
                      clear hb6 HFO
                      go_wp2_with fail
                      refine HRD.out.mono ?_
                      rintro e w7 ⟨⟨A7, c7, rfl, hr7, hc7, hcm7⟩, hb7⟩
                      have HB7 := Lib.hid (HB6.out.trans (hb7.mono HB6.out.size))
                      have HPA := Lib.hid (rsplit_any w7 A7 _ c7 _ HBLN.out hc7 hcm7 hr7)
                      generalize (bytesH r2 x).length = n7 at *
                      clear hr7 hc7 hcm7 hb7 HRD HBLN
                      go_wp2_with fail
                      refine HPA.out.mono ?_
                      rintro e w8 ⟨hans, hb8⟩
                      obtain ⟨A8, c8, A9, c9, rfl, hr8, hr9⟩ := hans.qe
                      have HB8 := Lib.hid (HB7.out.trans (hb8.mono HB7.out.size))
                      have hr1 := HKR.out.below HB8.out
                      have hr2 := HR5.out.below HB8.out
                      have v1 := conv_row hr8 c8
                      have v2 := conv_row hr9 c9
                      have v3 := conv_row hr1 cc
                      have v4 := conv_row hr2 c5
                      have q1 := txt_beq hr8.bytes hr1.bytes
                      have q2 := txt_beq hr9.bytes hr2.bytes
                      unfold txt at q1 q2
                      obtain ⟨t1, ht1⟩ : ∃ t1, decide ((qE (bytesH r2 x)).1 = l) = t1 := ⟨_, rfl⟩
                      obtain ⟨t2, ht2⟩ : ∃ t2, decide ((qE (bytesH r2 x)).2.1 = art) = t2 := ⟨_, rfl⟩
                      obtain ⟨is, his⟩ : ∃ is, (qE (bytesH r2 x)).2.2 = is := ⟨_, rfl⟩
                      obtain ⟨f, hf⟩ : ∃ f, errH r2 x = f := ⟨_, rfl⟩
                      obtain ⟨t0, ht0⟩ : ∃ t0, (f == 0) = t0 := ⟨_, rfl⟩
                      rw [ht1] at q1
                      rw [ht2] at q2
                      have HLF : Hid (∀ v : Bool, (b || (t0 && is && t1 && t2)) = v → ∀ t, t < j + 1 → hitR r2 l 3 t = some art → v = true) := Lib.hid (fun v hv t ht hh => by
                        rcases Nat.lt_or_ge t j with h1 | h1
                        · rw [← hv, HJ.out t h1 hh]; rfl
                        · obtain rfl : t = j := by omega
                          obtain ⟨g1, g2⟩ := HHT.out hh
                          rw [hf] at g1
                          subst g1
                          rw [g2] at ht1 ht2 his
                          have e1 : t1 = true := by rw [← ht1]; exact decide_eq_true rfl
                          have e2 : t2 = true := by rw [← ht2]; exact decide_eq_true rfl
                          have e3 : is = true := by rw [← his]
                          rw [← hv, ← ht0, e1, e2, e3]
                          cases b <;> rfl)
                      rw [hf, his]
                      clear hans hb8 hr8 hr9 hr1 hr2 ht1 ht2 his hf HPA HHT HB7 HB6
                      generalize strOfNums (asZ (qE (bytesH r2 x)).1) = s1 at *
                      generalize strOfNums (asZ (qE (bytesH r2 x)).2.1) = s2 at *
                      generalize strOfNums (asZ l) = s3 at *
                      generalize strOfNums (asZ art) = s4 at *
                      generalize (qE (bytesH r2 x)).1.length = n8 at *
                      generalize (qE (bytesH r2 x)).2.1.length = n9 at *
                      cases b with
                      | true =>
                        clear HLF
                        go_wp2
                        go_roundw
                        case rel => exact ⟨j + 1, true, by omega, by go_num, rfl, Lib.hid (fun _ _ _ => rfl), HB8⟩
                        case measure => simp [intOf] <;> omega
                      | false =>
                        cases t0 with
                        | false =>
                          have HL := Lib.hid (HLF.out false rfl)
                          go_wp2
                          go_roundw
                          case rel => exact ⟨j + 1, false, by omega, by go_num, rfl, HL, HB8⟩
                          case measure => simp [intOf] <;> omega
                        | true =>
                          cases is with
                          | false =>
                            have HL := Lib.hid (HLF.out false rfl)
                            go_wp2
                            go_roundw
                            case rel => exact ⟨j + 1, false, by omega, by go_num, rfl, HL, HB8⟩
                            case measure => simp [intOf] <;> omega
                          | true =>
                            cases t1 with
                            | false =>
                              have HL := Lib.hid (HLF.out false rfl)
                              go_wp2
                              go_roundw
                              case rel => exact ⟨j + 1, false, by omega, by go_num, rfl, HL, HB8⟩
                              case measure => simp [intOf] <;> omega
                            | true =>
                              have HL := Lib.hid (HLF.out t2 (by cases t2 <;> rfl))
                              go_wp2
                              go_roundw
                              case rel => exact ⟨j + 1, t2, by omega, by go_num, rfl, HL, HB8⟩
                              case measure => simp [intOf] <;> omega
                    · obtain rfl : j = 8 := by omega
                      have HV : Hid (okb = true → b = true) := Lib.hid (fun h => by
                        obtain ⟨t, ht, hh⟩ := HHIT.out h
                        exact HJ.out t ht hh)
                      go_wp2_with fail
                      go_meet
                      exact ⟨b, rfl, HV, HBJ⟩
                case rest =>
                  obtain ⟨b, rfl, HV, HB9⟩ := hcut
                  have HBE := Lib.hid (HB5.out.trans (HB9.out.mono HB5.out.size))
                  cases okb with
                  | false =>
                    go_wp2
                    go_roundw
                    case rel => exact ⟨k + 1, by omega, by go_num, HBE⟩
                    case measure => simp [intOf] <;> omega
                  | true =>
                    have hb := HV.out rfl
                    subst hb
                    go_wp2
                    go_roundw
                    case rel => exact ⟨k + 1, by omega, by go_num, HBE⟩
                    case measure => simp [intOf] <;> omega
              · have h4a : (400 : Int) < (n : Int) := by omega
                go_wp2_with fail
                refine HLV.out.mono ?_
                rintro e w5 ⟨rfl, hb5⟩
                have HE := Lib.hid (HON.out.trans (hb5.mono HON.out.size))
                clear hb5 HLV
                go_wp2
                go_ret
                exact ⟨rfl, HE.out⟩
            · have h30a : (30 : Int) ≤ (k : Int) := by omega
              go_wp2_with fail
              refine HLV.out.mono ?_
              rintro e w5 ⟨rfl, hb5⟩
              have HE := Lib.hid (HON.out.trans (hb5.mono HON.out.size))
              clear hb5 HLV
              go_wp2
              go_ret
              exact ⟨rfl, HE.out⟩
          · obtain rfl : k = len1 := by omega
            go_wp2_with fail
            refine HLV.out.mono ?_
            rintro e w5 ⟨rfl, hb5⟩
            have HE := Lib.hid (HON.out.trans (hb5.mono HON.out.size))
            clear hb5 HLV
            go_wp2
            go_ret
            exact ⟨rfl, HE.out⟩
end Go.Proofs.YtdjnebgjdekmaaaGreatDoor
