/-
  Programs as blocks: where a global and a function of a name are.
  Programs as blocks: which instructions may be.
  Programs as blocks: mayIns, kind by kind.
  Programs as blocks: mayIns, where there is no such kind.
  Programs as blocks: mayIns, kind 1.
  Programs as blocks: mayIns, kind 2.
  Programs as blocks: mayIns, kind 3.
  Programs as blocks: mayIns, kind 4.
  Programs as blocks: mayIns, kind 5.
  Programs as blocks: mayIns, kind 6.
  Programs as blocks: mayIns, kind 7.
  Programs as blocks: mayIns, kind 8.
  Programs as blocks: mayIns, kind 9.
  Programs as blocks: which instructions may be: all kinds.
  Programs as blocks: the law's Light: not greater than is looked at.
  Results: are two rows of words the same?
  The law's cut: so many words, so many steps.
  Results: did two runs end the same?
  The runner's words: so many zeros.
  The runner: what was reckoned, if it could be.
  The runner in memory; the next word of the input.
  A call that goes on in memory; going on to a block.
  What blocks do, as mathematics: calls within one another, a step, a run of so many steps.
-/
import Derived.Test.YtcanjkjpdnbcnaaZam
import Derived.Test.YtcanjkjpdnbcnaaZaq
import Derived.Test.YtcanjkjpdnbcnaaZal
namespace Go.Proofs.Ytcanjkjpdnbcnaa
open Go.RowKit
set_option linter.unusedVariables false
set_option linter.unusedSimpArgs false
set_option maxRecDepth 100000

/-- The first of a name, from a number on; -1: there is none. -/
def atN {α : Type} (nm : α → ByteArray) (x : ByteArray) : List α → Nat → Int
  | [], _ => -1
  | o :: os, k => if (nm o).toList = x.toList then (k : Int) else atN nm x os (k + 1)
theorem atN_hit {α : Type} (nm : α → ByteArray) (x : ByteArray) : ∀ (l : List α) (i k : Nat) (o : α), (∀ j p, j < k → l[j]? = some p → (nm p).toList ≠ x.toList) → l[k]? = some o → (nm o).toList = x.toList → atN nm x l i = ((i + k : Nat) : Int)
  | [], i, k, o, _, h, _ => by simp at h
  | a :: l, i, 0, o, _, h, hx => by
    simp only [List.getElem?_cons_zero, Option.some.injEq] at h
    subst h
    unfold atN
    rw [if_pos hx, Nat.add_zero]
  | a :: l, i, k + 1, o, hn, h, hx => by
    unfold atN
    rw [if_neg (hn 0 a (by omega) rfl), atN_hit nm x l (i + 1) k o (fun j p hj hp => hn (j + 1) p (by omega) hp) h hx]
    congr 1
    omega
theorem atN_no {α : Type} (nm : α → ByteArray) (x : ByteArray) : ∀ (l : List α) (i : Nat), (∀ p ∈ l, (nm p).toList ≠ x.toList) → atN nm x l i = -1
  | [], i, _ => rfl
  | a :: l, i, hn => by
    unfold atN
    rw [if_neg (hn a (List.mem_cons_self ..)), atN_no nm x l (i + 1) (fun p hp => hn p (List.mem_cons_of_mem _ hp))]
theorem atN_range {α : Type} (nm : α → ByteArray) (x : ByteArray) : ∀ (l : List α) (i : Nat), atN nm x l i = -1 ∨ ((i : Int) ≤ atN nm x l i ∧ atN nm x l i < ((i + l.length : Nat) : Int))
  | [], i => .inl rfl
  | a :: l, i => by
    unfold atN
    split
    · exact .inr ⟨Int.le_refl _, by simp only [List.length_cons]; omega⟩
    · rcases atN_range nm x l (i + 1) with h | h
      · exact .inl h
      · exact .inr ⟨by omega, by simp only [List.length_cons]; omega⟩
def gAt (gs : List MGl) (x : ByteArray) : Int := atN MGl.name x gs 0
def fAt (fs : List MFn) (x : ByteArray) : Int := atN MFn.name x fs 0

set_option maxHeartbeats 1600000 in
theorem gAt_any (w : World) (GA FA : Option Addr) (gn gc fn fc : Nat) (os : List MGl) (h : MGls w GA gn os) (hn : gn ≤ 100000) (x : ByteArray) :
    Calls Try.prog 23 #[.agg #[.slice GA gn gc, .slice FA fn fc], .string x] w fun e w' => e = .returned (.int .i64 (gAt os x)) ∧ Below w.heap.size w w' := by
  have HL := Lib.hid h
  have hlen := h.1
  have hn63 : (gn : Int) ≤ 100000 := by omega
  obtain ⟨W0, hW0⟩ : ∃ W0, w.alloc (.cells #[.slice GA gn gc, .slice FA fn fc] 25) = W0 := ⟨_, rfl⟩
  have hB0 : Below w.heap.size w W0 := by rw [← hW0]; exact (Below.refl _ w).alloc (Nat.le_refl _) _
  have hv0 : W0.heap[w.heap.size]? = some (.cells #[.slice GA gn gc, .slice FA fn fc] 25 (0, 0)) := by rw [← hW0]; exact heap_alloc_new w _
  have y0 : W0.cell? ⟨w.heap.size, 0, none⟩ = some (.slice GA gn gc) := by rw [cell_of_row _ _ 0 _ _ (0, 0) hv0]; rfl
  obtain ⟨v0, hv0e⟩ : ∃ v0, w.heap.size = v0 := ⟨_, rfl⟩
  rw [hv0e] at y0
  have HV0 := Lib.hid hv0e
  have HB0 := Lib.hid hB0
  clear h hv0 hB0
  go_enter Try.func23, Try.ntmps23
  go_wp2
  go_loopw [10] (fun i wr => ∃ k : Nat, k ≤ gn ∧ i = .int .i64 k ∧ Hid (∀ j o, j < k → os[j]? = some o → o.name.toList ≠ x.toList) ∧ Hid (Below w.heap.size w wr)) (fun i _ => gn - (intOf i).toNat)
  case atStart => exact ⟨0, by omega, rfl, Lib.hid (fun j o hj _ => by omega), HB0⟩
  case round =>
    obtain ⟨k, hk, rfl, HI, HB⟩ := hrel
    rcases Nat.lt_or_ge k gn with hkm | hkm
    · obtain ⟨o, ho⟩ : ∃ o, os[k]? = some o := ⟨_, List.getElem?_eq_getElem (by omega)⟩
      obtain ⟨g, off, rfl, hg, hc⟩ := (HL.out.below HB.out).2.2 (by omega)
      have hcs := hc k o ho
      have d0 := hcs 0 _ rfl
      have d1 := hcs 1 _ rfl
      rw [Nat.add_zero] at d0
      obtain ⟨Wa, hWa⟩ : ∃ Wa, wr.alloc (.cells #[.string o.name, .int .i64 o.size] 63) = Wa := ⟨_, rfl⟩
      have hBa : Below wr.heap.size wr Wa := by rw [← hWa]; exact (Below.refl _ wr).alloc (Nat.le_refl _) _
      have hva : Wa.heap[wr.heap.size]? = some (.cells #[.string o.name, .int .i64 o.size] 63 (0, 0)) := by rw [← hWa]; exact heap_alloc_new wr _
      obtain ⟨va, hvae⟩ : ∃ va, wr.heap.size = va := ⟨_, rfl⟩
      rw [hvae] at hva
      have e0 : Wa.cell? ⟨va, 0, none⟩ = some (.string o.name) := by rw [cell_of_row _ va 0 _ _ (0, 0) hva]; rfl
      have hbW : Below w.heap.size w Wa := HB.out.trans (hBa.mono HB.out.size)
      have HBA := Lib.hid hbW
      have HO := Lib.hid ho
      have hkm' : (k : Int) < (gn : Int) := by omega
      have hk0 : (0 : Int) ≤ (k : Int) := by omega
      clear hg hc hcs ho hBa hva hbW
      by_cases h1 : o.name.toList = x.toList
      · have h1b : (o.name.toList == x.toList) = true := by simp [h1]
        have HE : Hid (gAt os x = (k : Int)) := Lib.hid (by
          have := atN_hit MGl.name x os 0 k o HI.out HO.out h1
          rw [Nat.zero_add] at this
          exact this)
        go_wp2
        go_ret
        rw [HE.out]
        exact ⟨rfl, HBA.out⟩
      · have h1b : (o.name.toList == x.toList) = false := by simp [h1]
        have hst : ∀ j o', j < k + 1 → os[j]? = some o' → o'.name.toList ≠ x.toList := fun j o' hj hjo => by
          rcases Nat.lt_or_ge j k with q | q
          · exact HI.out j o' q hjo
          · obtain rfl : j = k := by omega
            rw [HO.out] at hjo
            cases hjo
            exact h1
        have HST := Lib.hid hst
        clear hst
        go_wp2
        go_roundw
        case rel => exact ⟨k + 1, by omega, by go_num, HST, HBA⟩
        case measure => simp [intOf] <;> omega
    · obtain rfl : k = gn := by omega
      have HE : Hid (gAt os x = -1) := Lib.hid (atN_no _ _ _ _ (fun p hp => by
        obtain ⟨j, hj⟩ := List.getElem?_of_mem hp
        exact HI.out j p (by have := (List.getElem?_eq_some_iff.1 hj).1; omega) hj))
      go_wp2
      go_ret
      rw [HE.out]
      exact ⟨rfl, HB.out⟩

set_option maxHeartbeats 1600000 in
theorem fAt_any (w : World) (GA FA : Option Addr) (gn gc fn fc : Nat) (os : List MFn) (h : MFns w FA fn os) (hn : fn ≤ 100000) (x : ByteArray) :
    Calls Try.prog 24 #[.agg #[.slice GA gn gc, .slice FA fn fc], .string x] w fun e w' => e = .returned (.int .i64 (fAt os x)) ∧ Below w.heap.size w w' := by
  have HL := Lib.hid h
  have hlen := h.1
  have hn63 : (fn : Int) ≤ 100000 := by omega
  obtain ⟨W0, hW0⟩ : ∃ W0, w.alloc (.cells #[.slice GA gn gc, .slice FA fn fc] 25) = W0 := ⟨_, rfl⟩
  have hB0 : Below w.heap.size w W0 := by rw [← hW0]; exact (Below.refl _ w).alloc (Nat.le_refl _) _
  have hv0 : W0.heap[w.heap.size]? = some (.cells #[.slice GA gn gc, .slice FA fn fc] 25 (0, 0)) := by rw [← hW0]; exact heap_alloc_new w _
  have y0 : W0.cell? ⟨w.heap.size, 1, none⟩ = some (.slice FA fn fc) := by rw [cell_of_row _ _ 1 _ _ (0, 0) hv0]; rfl
  obtain ⟨v0, hv0e⟩ : ∃ v0, w.heap.size = v0 := ⟨_, rfl⟩
  rw [hv0e] at y0
  have HV0 := Lib.hid hv0e
  have HB0 := Lib.hid hB0
  clear h hv0 hB0
  go_enter Try.func24, Try.ntmps24
  go_wp2
  go_loopw [10] (fun i wr => ∃ k : Nat, k ≤ fn ∧ i = .int .i64 k ∧ Hid (∀ j o, j < k → os[j]? = some o → o.name.toList ≠ x.toList) ∧ Hid (Below w.heap.size w wr)) (fun i _ => fn - (intOf i).toNat)
  case atStart => exact ⟨0, by omega, rfl, Lib.hid (fun j o hj _ => by omega), HB0⟩
  case round =>
    obtain ⟨k, hk, rfl, HI, HB⟩ := hrel
    rcases Nat.lt_or_ge k fn with hkm | hkm
    · obtain ⟨o, ho⟩ : ∃ o, os[k]? = some o := ⟨_, List.getElem?_eq_getElem (by omega)⟩
      obtain ⟨g, off, rfl, hg, hc⟩ := (HL.out.below HB.out).2.2 (by omega)
      have hcs := hc k o ho
      have d0 := hcs 0 _ rfl
      have d1 := hcs 1 _ rfl
      have d2 := hcs 2 _ rfl
      have d3 := hcs 3 _ rfl
      rw [Nat.add_zero] at d0
      obtain ⟨Wa, hWa⟩ : ∃ Wa, wr.alloc (.cells #[.string o.name, .int .i64 o.params, .int .i64 o.regs, .slice o.blocksA o.blocksn o.blocksc] 47) = Wa := ⟨_, rfl⟩
      have hBa : Below wr.heap.size wr Wa := by rw [← hWa]; exact (Below.refl _ wr).alloc (Nat.le_refl _) _
      have hva : Wa.heap[wr.heap.size]? = some (.cells #[.string o.name, .int .i64 o.params, .int .i64 o.regs, .slice o.blocksA o.blocksn o.blocksc] 47 (0, 0)) := by rw [← hWa]; exact heap_alloc_new wr _
      obtain ⟨va, hvae⟩ : ∃ va, wr.heap.size = va := ⟨_, rfl⟩
      rw [hvae] at hva
      have e0 : Wa.cell? ⟨va, 0, none⟩ = some (.string o.name) := by rw [cell_of_row _ va 0 _ _ (0, 0) hva]; rfl
      have hbW : Below w.heap.size w Wa := HB.out.trans (hBa.mono HB.out.size)
      have HBA := Lib.hid hbW
      have HO := Lib.hid ho
      have hkm' : (k : Int) < (fn : Int) := by omega
      have hk0 : (0 : Int) ≤ (k : Int) := by omega
      clear hg hc hcs ho hBa hva hbW
      by_cases h1 : o.name.toList = x.toList
      · have h1b : (o.name.toList == x.toList) = true := by simp [h1]
        have HE : Hid (fAt os x = (k : Int)) := Lib.hid (by
          have := atN_hit MFn.name x os 0 k o HI.out HO.out h1
          rw [Nat.zero_add] at this
          exact this)
        go_wp2
        go_ret
        rw [HE.out]
        exact ⟨rfl, HBA.out⟩
      · have h1b : (o.name.toList == x.toList) = false := by simp [h1]
        have hst : ∀ j o', j < k + 1 → os[j]? = some o' → o'.name.toList ≠ x.toList := fun j o' hj hjo => by
          rcases Nat.lt_or_ge j k with q | q
          · exact HI.out j o' q hjo
          · obtain rfl : j = k := by omega
            rw [HO.out] at hjo
            cases hjo
            exact h1
        have HST := Lib.hid hst
        clear hst
        go_wp2
        go_roundw
        case rel => exact ⟨k + 1, by omega, by go_num, HST, HBA⟩
        case measure => simp [intOf] <;> omega
    · obtain rfl : k = fn := by omega
      have HE : Hid (fAt os x = -1) := Lib.hid (atN_no _ _ _ _ (fun p hp => by
        obtain ⟨j, hj⟩ := List.getElem?_of_mem hp
        exact HI.out j p (by have := (List.getElem?_eq_some_iff.1 hj).1; omega) hj))
      go_wp2
      go_ret
      rw [HE.out]
      exact ⟨rfl, HB.out⟩
end Go.Proofs.Ytcanjkjpdnbcnaa
namespace Go.Proofs.Ytcanjkjpdnbcnaa
open Go.RowKit
set_option linter.unusedVariables false
set_option linter.unusedSimpArgs false
set_option maxRecDepth 100000

/-- Is a register one of so many, or none, where it may be? -/
def regB (r n : Int) (b : Bool) : Bool := (decide (0 ≤ r) && decide (r < n)) || (b && decide (r = -1))
theorem reg_any (r n : Int) (b : Bool) (w : World) : Calls Try.prog 35 #[.int .i64 r, .int .i64 n, .bool b] w fun e w' => e = .returned (.bool (regB r n b)) ∧ w = w' := by
  by_cases h1 : 0 ≤ r
  · by_cases h2 : r < n
    · have hE : regB r n b = true := by simp [regB, h1, h2]
      rw [hE]
      go_enter Try.func35, Try.ntmps35
      go_wp2
      go_ret
      exact ⟨rfl, rfl⟩
    · have h3 : ¬ r = -1 := by omega
      have h3b : (r == -1) = false := by simp [h3]
      have hE : regB r n b = false := by simp [regB, h2, h3]
      rw [hE]
      cases b <;>
      · go_enter Try.func35, Try.ntmps35
        go_wp2
        go_ret
        exact ⟨rfl, rfl⟩
  · by_cases h3 : r = -1
    · subst h3
      cases b <;>
      · go_enter Try.func35, Try.ntmps35
        go_wp2
        go_ret
        exact ⟨rfl, rfl⟩
    · have h3b : (r == -1) = false := by simp [h3]
      have hE : regB r n b = false := by simp [regB, h1, h3]
      rw [hE]
      cases b <;>
      · go_enter Try.func35, Try.ntmps35
        go_wp2
        go_ret
        exact ⟨rfl, rfl⟩

/-- Its arguments' registers. -/
def MIn.argL (x : MIn) : List Int := x.args.take x.argsn
/-- May it be one? -/
def mayI (x : MIn) (n : Int) : Bool :=
  decide (1 ≤ x.kind ∧ x.kind ≤ 9)
  && (if x.kind = 6 ∨ x.kind = 9 then decide (x.d = -1) else regB x.d n (decide (x.kind = 7)))
  && (if x.kind = 2 ∨ x.kind = 3 ∨ x.kind = 4 ∨ x.kind = 9 then regB x.a n false else if x.kind = 5 ∨ x.kind = 6 then regB x.a n true else decide (x.a = -1))
  && (if x.kind = 4 ∨ x.kind = 6 then regB x.b n false else decide (x.b = -1))
  && (if x.kind = 5 ∨ x.kind = 6 ∨ x.kind = 7 then nameB x.name.data.toList else decide (x.name.toList = []))
  && decide (x.kind = 1 ∨ x.num = 0)
  && (if x.kind = 3 then decide (19 ≤ x.op ∧ x.op ≤ 21) else if x.kind = 4 then decide (1 ≤ x.op ∧ x.op ≤ 16) else decide (x.op = 0))
  && decide (x.argL.length ≤ 8) && decide (x.kind = 7 ∨ x.argL.length = 0)
  && x.argL.all (fun r => regB r n false)
end Go.Proofs.Ytcanjkjpdnbcnaa
namespace Go.Proofs.Ytcanjkjpdnbcnaa
open Go.RowKit
set_option linter.unusedVariables false
set_option linter.unusedSimpArgs false
set_option maxRecDepth 100000

/-- The slice at A of n elements holds the numbers zs. -/
def RowK (k : IntKind) (w : World) (A : Option Addr) (n : Nat) (zs : List Int) : Prop :=
  zs.length = n ∧ (0 < n → ∃ b off, A = some ⟨b, off, none⟩ ∧ b < w.heap.size ∧ ∀ i, i < n → w.cell? ⟨b, off + i, none⟩ = some (.int k (zs.getD i 0)))
theorem RowK.below {k : IntKind} {w w' : World} {A : Option Addr} {n : Nat} {zs : List Int} (h : RowK k w A n zs) (hb : Below w.heap.size w w') : RowK k w' A n zs := by
  refine ⟨h.1, fun hn => ?_⟩
  obtain ⟨b, off, e, hlt, hc⟩ := h.2 hn
  exact ⟨b, off, e, Nat.lt_of_lt_of_le hlt hb.size, fun i hi => (hb.cell (p := ⟨b, off + i, none⟩) hlt).trans (hc i hi)⟩
theorem RowK.of_isRow {k : IntKind} {w : World} {A : Option Addr} {len cap : Nat} {zs : List Int} (h : IsRow k w A len cap zs) : RowK k w A len (zs.take len) := by
  rcases h with ⟨rfl, rfl, rfl, rfl⟩ | ⟨x, rfl, hl, hm, hz, hc, hw⟩
  · exact ⟨rfl, fun hn => absurd hn (by omega)⟩
  · refine ⟨by rw [List.length_take, hz]; omega, fun hn => ?_⟩
    have h0 := hc 0 (by omega)
    have hsp : x.spot = none := World.cell?_spot (by simpa [Addr.add] using h0)
    obtain ⟨b, off, sp⟩ := x
    obtain rfl : sp = none := hsp
    have hadd : ∀ i, (⟨b, off, none⟩ : Addr).add i = ⟨b, off + i, none⟩ := fun i => by unfold Addr.add; split <;> simp_all
    rw [hadd] at h0
    refine ⟨b, off, rfl, World.block_lt_of_cell? w _ h0, fun i hi => ?_⟩
    have h1 := hc i (by omega)
    rw [hadd] at h1
    rw [h1]
    congr 2
    simp [hi]
theorem IsRow.len {k : IntKind} {w : World} {A : Option Addr} {len cap : Nat} {zs : List Int} (h : IsRow k w A len cap zs) : len ≤ 9223372036854775807 := by
  rcases h with ⟨_, rfl, _, _⟩ | ⟨x, _, hl, hm, _⟩
  · omega
  · unfold maxLen at hm
    omega
theorem IsRow.take_len {k : IntKind} {w : World} {A : Option Addr} {len cap : Nat} {zs : List Int} (h : IsRow k w A len cap zs) : (zs.take len).length = len := (RowK.of_isRow h).1
end Go.Proofs.Ytcanjkjpdnbcnaa
namespace Go.Proofs.Ytcanjkjpdnbcnaa
open Go.RowKit
set_option linter.unusedVariables false
set_option linter.unusedSimpArgs false
set_option maxRecDepth 100000

set_option maxHeartbeats 6400000 in
theorem mayIns_0 (kind op d a b num : Int) (name : ByteArray) (A : Option Addr) (an ac : Nat) (zs : List Int) (n : Int) (w : World) (x : MIn) (hx : x = ⟨kind, op, d, a, b, num, name, A, an, ac, zs⟩) (hk : kind < 1 ∨ 9 < kind) :
    Calls Try.prog 34 #[.agg #[.int .i64 kind, .int .i64 op, .int .i64 d, .int .i64 a, .int .i64 b, .int .i32 num, .string name, .slice A an ac], .int .i64 n] w fun e w' => e = .returned (.bool (mayI x n)) ∧ Below w.heap.size w w' := by
  have hE : mayI x n = false := by
    have h1 : ¬ (1 ≤ kind ∧ kind ≤ 9) := by omega
    rw [hx, mayI, decide_eq_false h1]
    simp
  rw [hE]
  clear hE hx
  obtain ⟨W0, hW0⟩ : ∃ W0, w.alloc (.cells #[.int .i64 kind, .int .i64 op, .int .i64 d, .int .i64 a, .int .i64 b, .int .i32 num, .string name, .slice A an ac] 44) = W0 := ⟨_, rfl⟩
  have hB0 : Below w.heap.size w W0 := by rw [← hW0]; exact (Below.refl _ w).alloc (Nat.le_refl _) _
  have hv0 : W0.heap[w.heap.size]? = some (.cells #[.int .i64 kind, .int .i64 op, .int .i64 d, .int .i64 a, .int .i64 b, .int .i32 num, .string name, .slice A an ac] 44 (0, 0)) := by rw [← hW0]; exact heap_alloc_new w _
  have y0 : W0.cell? ⟨w.heap.size, 0, none⟩ = some (.int .i64 kind) := by rw [cell_of_row _ _ 0 _ _ (0, 0) hv0]; rfl
  have y2 : W0.cell? ⟨w.heap.size, 2, none⟩ = some (.int .i64 d) := by rw [cell_of_row _ _ 2 _ _ (0, 0) hv0]; rfl
  have HB := Lib.hid hB0
  obtain ⟨v0, hv0e⟩ : ∃ v0, w.heap.size = v0 := ⟨_, rfl⟩
  rw [hv0e] at y0 y2
  clear hv0 hB0
  have q2 : (kind == 2) = false := by simp; omega
  have r2 : (kind != 2) = true := by simp; omega
  have q3 : (kind == 3) = false := by simp; omega
  have r3 : (kind != 3) = true := by simp; omega
  have q4 : (kind == 4) = false := by simp; omega
  have r4 : (kind != 4) = true := by simp; omega
  have q5 : (kind == 5) = false := by simp; omega
  have r5 : (kind != 5) = true := by simp; omega
  have q6 : (kind == 6) = false := by simp; omega
  have r6 : (kind != 6) = true := by simp; omega
  have q7 : (kind == 7) = false := by simp; omega
  have r7 : (kind != 7) = true := by simp; omega
  have q9 : (kind == 9) = false := by simp; omega
  have r9 : (kind != 9) = true := by simp; omega
  rcases hk with hk | hk
  · have hk1 : ¬ 9 < kind := by omega
    go_enter Try.func34, Try.ntmps34
    go_wp2_with fail
    go_ret
    exact ⟨rfl, by first | exact HB.out | (rw [← hv0e]; exact HB.out)⟩
  · have hk1 : ¬ kind < 1 := by omega
    go_enter Try.func34, Try.ntmps34
    go_wp2_with fail
    go_ret
    exact ⟨rfl, by first | exact HB.out | (rw [← hv0e]; exact HB.out)⟩
end Go.Proofs.Ytcanjkjpdnbcnaa
namespace Go.Proofs.Ytcanjkjpdnbcnaa
open Go.RowKit
set_option linter.unusedVariables false
set_option linter.unusedSimpArgs false
set_option maxRecDepth 100000

set_option maxHeartbeats 6400000 in
theorem mayIns_1 (op d a b num : Int) (name : ByteArray) (A : Option Addr) (an ac : Nat) (zs : List Int) (n : Int) (w : World) (hz : IsRow .i64 w A an ac zs) (hs : name.size ≤ 4000000000) (x : MIn) (hx : x = ⟨1, op, d, a, b, num, name, A, an, ac, zs⟩) :
    Calls Try.prog 34 #[.agg #[.int .i64 1, .int .i64 op, .int .i64 d, .int .i64 a, .int .i64 b, .int .i32 num, .string name, .slice A an ac], .int .i64 n] w fun e w' => e = .returned (.bool (mayI x n)) ∧ Below w.heap.size w w' := by
  have HX := Lib.hid hx
  have hlen := hz.len
  obtain ⟨W0, hW0⟩ : ∃ W0, w.alloc (.cells #[.int .i64 1, .int .i64 op, .int .i64 d, .int .i64 a, .int .i64 b, .int .i32 num, .string name, .slice A an ac] 44) = W0 := ⟨_, rfl⟩
  have hB0 : Below w.heap.size w W0 := by rw [← hW0]; exact (Below.refl _ w).alloc (Nat.le_refl _) _
  have hv0 : W0.heap[w.heap.size]? = some (.cells #[.int .i64 1, .int .i64 op, .int .i64 d, .int .i64 a, .int .i64 b, .int .i32 num, .string name, .slice A an ac] 44 (0, 0)) := by rw [← hW0]; exact heap_alloc_new w _
  have y0 : W0.cell? ⟨w.heap.size, 0, none⟩ = some (.int .i64 1) := by rw [cell_of_row _ _ 0 _ _ (0, 0) hv0]; rfl
  have y1 : W0.cell? ⟨w.heap.size, 1, none⟩ = some (.int .i64 op) := by rw [cell_of_row _ _ 1 _ _ (0, 0) hv0]; rfl
  have y2 : W0.cell? ⟨w.heap.size, 2, none⟩ = some (.int .i64 d) := by rw [cell_of_row _ _ 2 _ _ (0, 0) hv0]; rfl
  have y3 : W0.cell? ⟨w.heap.size, 3, none⟩ = some (.int .i64 a) := by rw [cell_of_row _ _ 3 _ _ (0, 0) hv0]; rfl
  have y4 : W0.cell? ⟨w.heap.size, 4, none⟩ = some (.int .i64 b) := by rw [cell_of_row _ _ 4 _ _ (0, 0) hv0]; rfl
  have y5 : W0.cell? ⟨w.heap.size, 5, none⟩ = some (.int .i32 num) := by rw [cell_of_row _ _ 5 _ _ (0, 0) hv0]; rfl
  have y6 : W0.cell? ⟨w.heap.size, 6, none⟩ = some (.string name) := by rw [cell_of_row _ _ 6 _ _ (0, 0) hv0]; rfl
  have y7 : W0.cell? ⟨w.heap.size, 7, none⟩ = some (.slice A an ac) := by rw [cell_of_row _ _ 7 _ _ (0, 0) hv0]; rfl
  have HB := Lib.hid hB0
  have HZ := Lib.hid ((RowK.of_isRow hz).below hB0)
  have HAL : Hid (x.argL = zs.take an ∧ (zs.take an).length = an) := Lib.hid (by rw [hx]; exact ⟨rfl, hz.take_len⟩)
  obtain ⟨v0, hv0e⟩ : ∃ v0, w.heap.size = v0 := ⟨_, rfl⟩
  rw [hv0e] at y0 y1 y2 y3 y4 y5 y6 y7
  clear hx hz hv0 hB0
  go_enter Try.func34, Try.ntmps34
  go_wp2_with fail
  refine (reg_any _ _ _ _).mono ?_
  rintro e w' ⟨rfl, rfl⟩
  generalize hqd : regB d n false = qd
  cases qd
  · clear y7
    go_wp2_with fail
    go_ret
    refine ⟨?_, by first | exact HB.out | (rw [← hv0e]; exact HB.out)⟩
    rw [HX.out]
    simp [mayI, hqd]
  by_cases hea : a = -1
  case neg =>
    have heab : (a == -1) = false := by simp [hea]
    have heac : (a != -1) = true := by simp [hea]
    go_wp2_with fail
    go_ret
    refine ⟨?_, by first | exact HB.out | (rw [← hv0e]; exact HB.out)⟩
    rw [HX.out]
    simp [mayI, hqd, hea]
  have heab : (a == -1) = true := by simp [hea]
  have heac : (a != -1) = false := by simp [hea]
  by_cases heb : b = -1
  case neg =>
    have hebb : (b == -1) = false := by simp [heb]
    have hebc : (b != -1) = true := by simp [heb]
    go_wp2_with fail
    go_ret
    refine ⟨?_, by first | exact HB.out | (rw [← hv0e]; exact HB.out)⟩
    rw [HX.out]
    simp [mayI, hqd, hea, heb]
  have hebb : (b == -1) = true := by simp [heb]
  have hebc : (b != -1) = false := by simp [heb]
  by_cases hen : name.toList = []
  case neg =>
    go_wp2_with fail
    go_ret
    refine ⟨?_, by first | exact HB.out | (rw [← hv0e]; exact HB.out)⟩
    rw [HX.out]
    simp [mayI, hqd, hea, heb, hen]
  by_cases heo : op = 0
  case neg =>
    have heoc : (op != 0) = true := by simp [heo]
    go_wp2_with fail
    go_ret
    refine ⟨?_, by first | exact HB.out | (rw [← hv0e]; exact HB.out)⟩
    rw [HX.out]
    simp [mayI, hqd, hea, heb, hen, heo]
  have heoc : (op != 0) = false := by simp [heo]
  by_cases hel : an = 0
  case neg =>
    have hel1 : (0 : Int) < (an : Int) := by omega
    have HLF : Hid (mayI x n = false) := Lib.hid (by
      have h1 : ¬ x.argL.length = 0 := by rw [HAL.out.1, HAL.out.2]; exact hel
      have h2 : x.kind = 1 := by rw [HX.out]
      simp [mayI, h1, h2])
    by_cases hel8 : an ≤ 8
    · skip
      go_wp2_with fail
      go_ret
      rw [HLF.out]
      exact ⟨rfl, by first | exact HB.out | (rw [← hv0e]; exact HB.out)⟩
    · skip
      go_wp2_with fail
      go_ret
      rw [HLF.out]
      exact ⟨rfl, by first | exact HB.out | (rw [← hv0e]; exact HB.out)⟩
  subst hel
  have HTR : Hid (mayI x n = true) := Lib.hid (by
    have h1 : x.argL = [] := by rw [HAL.out.1]; exact List.take_zero ..
    have h2 : mayI ⟨1, op, d, a, b, num, name, A, 0, ac, zs⟩ n = true := by simp [mayI, MIn.argL, hqd, hea, heb, hen, heo]
    rw [HX.out]; exact h2)
  go_wp2_with fail
  go_loopw [225] (fun i wr => i = .int .i64 0 ∧ wr = W0) (fun i _ => 0)
  case atStart => exact ⟨rfl, rfl⟩
  case round =>
    obtain ⟨rfl, rfl⟩ := hrel
    go_wp2_with fail
    go_ret
    rw [HTR.out]
    exact ⟨rfl, by first | exact HB.out | (rw [← hv0e]; exact HB.out)⟩
end Go.Proofs.Ytcanjkjpdnbcnaa
namespace Go.Proofs.Ytcanjkjpdnbcnaa
open Go.RowKit
set_option linter.unusedVariables false
set_option linter.unusedSimpArgs false
set_option maxRecDepth 100000

set_option maxHeartbeats 6400000 in
theorem mayIns_2 (op d a b num : Int) (name : ByteArray) (A : Option Addr) (an ac : Nat) (zs : List Int) (n : Int) (w : World) (hz : IsRow .i64 w A an ac zs) (hs : name.size ≤ 4000000000) (x : MIn) (hx : x = ⟨2, op, d, a, b, num, name, A, an, ac, zs⟩) :
    Calls Try.prog 34 #[.agg #[.int .i64 2, .int .i64 op, .int .i64 d, .int .i64 a, .int .i64 b, .int .i32 num, .string name, .slice A an ac], .int .i64 n] w fun e w' => e = .returned (.bool (mayI x n)) ∧ Below w.heap.size w w' := by
  have HX := Lib.hid hx
  have hlen := hz.len
  obtain ⟨W0, hW0⟩ : ∃ W0, w.alloc (.cells #[.int .i64 2, .int .i64 op, .int .i64 d, .int .i64 a, .int .i64 b, .int .i32 num, .string name, .slice A an ac] 44) = W0 := ⟨_, rfl⟩
  have hB0 : Below w.heap.size w W0 := by rw [← hW0]; exact (Below.refl _ w).alloc (Nat.le_refl _) _
  have hv0 : W0.heap[w.heap.size]? = some (.cells #[.int .i64 2, .int .i64 op, .int .i64 d, .int .i64 a, .int .i64 b, .int .i32 num, .string name, .slice A an ac] 44 (0, 0)) := by rw [← hW0]; exact heap_alloc_new w _
  have y0 : W0.cell? ⟨w.heap.size, 0, none⟩ = some (.int .i64 2) := by rw [cell_of_row _ _ 0 _ _ (0, 0) hv0]; rfl
  have y1 : W0.cell? ⟨w.heap.size, 1, none⟩ = some (.int .i64 op) := by rw [cell_of_row _ _ 1 _ _ (0, 0) hv0]; rfl
  have y2 : W0.cell? ⟨w.heap.size, 2, none⟩ = some (.int .i64 d) := by rw [cell_of_row _ _ 2 _ _ (0, 0) hv0]; rfl
  have y3 : W0.cell? ⟨w.heap.size, 3, none⟩ = some (.int .i64 a) := by rw [cell_of_row _ _ 3 _ _ (0, 0) hv0]; rfl
  have y4 : W0.cell? ⟨w.heap.size, 4, none⟩ = some (.int .i64 b) := by rw [cell_of_row _ _ 4 _ _ (0, 0) hv0]; rfl
  have y5 : W0.cell? ⟨w.heap.size, 5, none⟩ = some (.int .i32 num) := by rw [cell_of_row _ _ 5 _ _ (0, 0) hv0]; rfl
  have y6 : W0.cell? ⟨w.heap.size, 6, none⟩ = some (.string name) := by rw [cell_of_row _ _ 6 _ _ (0, 0) hv0]; rfl
  have y7 : W0.cell? ⟨w.heap.size, 7, none⟩ = some (.slice A an ac) := by rw [cell_of_row _ _ 7 _ _ (0, 0) hv0]; rfl
  have HB := Lib.hid hB0
  have HZ := Lib.hid ((RowK.of_isRow hz).below hB0)
  have HAL : Hid (x.argL = zs.take an ∧ (zs.take an).length = an) := Lib.hid (by rw [hx]; exact ⟨rfl, hz.take_len⟩)
  obtain ⟨v0, hv0e⟩ : ∃ v0, w.heap.size = v0 := ⟨_, rfl⟩
  rw [hv0e] at y0 y1 y2 y3 y4 y5 y6 y7
  clear hx hz hv0 hB0
  go_enter Try.func34, Try.ntmps34
  go_wp2_with fail
  refine (reg_any _ _ _ _).mono ?_
  rintro e w' ⟨rfl, rfl⟩
  generalize hqd : regB d n false = qd
  cases qd
  · clear y7
    go_wp2_with fail
    go_ret
    refine ⟨?_, by first | exact HB.out | (rw [← hv0e]; exact HB.out)⟩
    rw [HX.out]
    simp [mayI, hqd]
  go_wp2_with fail
  refine (reg_any _ _ _ _).mono ?_
  rintro e w' ⟨rfl, rfl⟩
  generalize hqa : regB a n false = qa
  cases qa
  · clear y7
    go_wp2_with fail
    go_ret
    refine ⟨?_, by first | exact HB.out | (rw [← hv0e]; exact HB.out)⟩
    rw [HX.out]
    simp [mayI, hqd, hqa]
  by_cases heb : b = -1
  case neg =>
    have hebb : (b == -1) = false := by simp [heb]
    have hebc : (b != -1) = true := by simp [heb]
    go_wp2_with fail
    go_ret
    refine ⟨?_, by first | exact HB.out | (rw [← hv0e]; exact HB.out)⟩
    rw [HX.out]
    simp [mayI, hqd, hqa, heb]
  have hebb : (b == -1) = true := by simp [heb]
  have hebc : (b != -1) = false := by simp [heb]
  by_cases hen : name.toList = []
  case neg =>
    go_wp2_with fail
    go_ret
    refine ⟨?_, by first | exact HB.out | (rw [← hv0e]; exact HB.out)⟩
    rw [HX.out]
    simp [mayI, hqd, hqa, heb, hen]
  by_cases hem : num = 0
  case neg =>
    have hemc : (num != 0) = true := by simp [hem]
    go_wp2_with fail
    go_ret
    refine ⟨?_, by first | exact HB.out | (rw [← hv0e]; exact HB.out)⟩
    rw [HX.out]
    simp [mayI, hqd, hqa, heb, hen, hem]
  have hemc : (num != 0) = false := by simp [hem]
  by_cases heo : op = 0
  case neg =>
    have heoc : (op != 0) = true := by simp [heo]
    go_wp2_with fail
    go_ret
    refine ⟨?_, by first | exact HB.out | (rw [← hv0e]; exact HB.out)⟩
    rw [HX.out]
    simp [mayI, hqd, hqa, heb, hen, hem, heo]
  have heoc : (op != 0) = false := by simp [heo]
  by_cases hel : an = 0
  case neg =>
    have hel1 : (0 : Int) < (an : Int) := by omega
    have HLF : Hid (mayI x n = false) := Lib.hid (by
      have h1 : ¬ x.argL.length = 0 := by rw [HAL.out.1, HAL.out.2]; exact hel
      have h2 : x.kind = 2 := by rw [HX.out]
      simp [mayI, h1, h2])
    by_cases hel8 : an ≤ 8
    · skip
      go_wp2_with fail
      go_ret
      rw [HLF.out]
      exact ⟨rfl, by first | exact HB.out | (rw [← hv0e]; exact HB.out)⟩
    · skip
      go_wp2_with fail
      go_ret
      rw [HLF.out]
      exact ⟨rfl, by first | exact HB.out | (rw [← hv0e]; exact HB.out)⟩
  subst hel
  have HTR : Hid (mayI x n = true) := Lib.hid (by
    have h1 : x.argL = [] := by rw [HAL.out.1]; exact List.take_zero ..
    have h2 : mayI ⟨2, op, d, a, b, num, name, A, 0, ac, zs⟩ n = true := by simp [mayI, MIn.argL, hqd, hqa, heb, hen, hem, heo]
    rw [HX.out]; exact h2)
  go_wp2_with fail
  go_loopw [225] (fun i wr => i = .int .i64 0 ∧ wr = W0) (fun i _ => 0)
  case atStart => exact ⟨rfl, rfl⟩
  case round =>
    obtain ⟨rfl, rfl⟩ := hrel
    go_wp2_with fail
    go_ret
    rw [HTR.out]
    exact ⟨rfl, by first | exact HB.out | (rw [← hv0e]; exact HB.out)⟩
end Go.Proofs.Ytcanjkjpdnbcnaa
namespace Go.Proofs.Ytcanjkjpdnbcnaa
open Go.RowKit
set_option linter.unusedVariables false
set_option linter.unusedSimpArgs false
set_option maxRecDepth 100000

set_option maxHeartbeats 6400000 in
theorem mayIns_3 (op d a b num : Int) (name : ByteArray) (A : Option Addr) (an ac : Nat) (zs : List Int) (n : Int) (w : World) (hz : IsRow .i64 w A an ac zs) (hs : name.size ≤ 4000000000) (x : MIn) (hx : x = ⟨3, op, d, a, b, num, name, A, an, ac, zs⟩) :
    Calls Try.prog 34 #[.agg #[.int .i64 3, .int .i64 op, .int .i64 d, .int .i64 a, .int .i64 b, .int .i32 num, .string name, .slice A an ac], .int .i64 n] w fun e w' => e = .returned (.bool (mayI x n)) ∧ Below w.heap.size w w' := by
  have HX := Lib.hid hx
  have hlen := hz.len
  obtain ⟨W0, hW0⟩ : ∃ W0, w.alloc (.cells #[.int .i64 3, .int .i64 op, .int .i64 d, .int .i64 a, .int .i64 b, .int .i32 num, .string name, .slice A an ac] 44) = W0 := ⟨_, rfl⟩
  have hB0 : Below w.heap.size w W0 := by rw [← hW0]; exact (Below.refl _ w).alloc (Nat.le_refl _) _
  have hv0 : W0.heap[w.heap.size]? = some (.cells #[.int .i64 3, .int .i64 op, .int .i64 d, .int .i64 a, .int .i64 b, .int .i32 num, .string name, .slice A an ac] 44 (0, 0)) := by rw [← hW0]; exact heap_alloc_new w _
  have y0 : W0.cell? ⟨w.heap.size, 0, none⟩ = some (.int .i64 3) := by rw [cell_of_row _ _ 0 _ _ (0, 0) hv0]; rfl
  have y1 : W0.cell? ⟨w.heap.size, 1, none⟩ = some (.int .i64 op) := by rw [cell_of_row _ _ 1 _ _ (0, 0) hv0]; rfl
  have y2 : W0.cell? ⟨w.heap.size, 2, none⟩ = some (.int .i64 d) := by rw [cell_of_row _ _ 2 _ _ (0, 0) hv0]; rfl
  have y3 : W0.cell? ⟨w.heap.size, 3, none⟩ = some (.int .i64 a) := by rw [cell_of_row _ _ 3 _ _ (0, 0) hv0]; rfl
  have y4 : W0.cell? ⟨w.heap.size, 4, none⟩ = some (.int .i64 b) := by rw [cell_of_row _ _ 4 _ _ (0, 0) hv0]; rfl
  have y5 : W0.cell? ⟨w.heap.size, 5, none⟩ = some (.int .i32 num) := by rw [cell_of_row _ _ 5 _ _ (0, 0) hv0]; rfl
  have y6 : W0.cell? ⟨w.heap.size, 6, none⟩ = some (.string name) := by rw [cell_of_row _ _ 6 _ _ (0, 0) hv0]; rfl
  have y7 : W0.cell? ⟨w.heap.size, 7, none⟩ = some (.slice A an ac) := by rw [cell_of_row _ _ 7 _ _ (0, 0) hv0]; rfl
  have HB := Lib.hid hB0
  have HZ := Lib.hid ((RowK.of_isRow hz).below hB0)
  have HAL : Hid (x.argL = zs.take an ∧ (zs.take an).length = an) := Lib.hid (by rw [hx]; exact ⟨rfl, hz.take_len⟩)
  obtain ⟨v0, hv0e⟩ : ∃ v0, w.heap.size = v0 := ⟨_, rfl⟩
  rw [hv0e] at y0 y1 y2 y3 y4 y5 y6 y7
  clear hx hz hv0 hB0
  go_enter Try.func34, Try.ntmps34
  go_wp2_with fail
  refine (reg_any _ _ _ _).mono ?_
  rintro e w' ⟨rfl, rfl⟩
  generalize hqd : regB d n false = qd
  cases qd
  · clear y7
    go_wp2_with fail
    go_ret
    refine ⟨?_, by first | exact HB.out | (rw [← hv0e]; exact HB.out)⟩
    rw [HX.out]
    simp [mayI, hqd]
  go_wp2_with fail
  refine (reg_any _ _ _ _).mono ?_
  rintro e w' ⟨rfl, rfl⟩
  generalize hqa : regB a n false = qa
  cases qa
  · clear y7
    go_wp2_with fail
    go_ret
    refine ⟨?_, by first | exact HB.out | (rw [← hv0e]; exact HB.out)⟩
    rw [HX.out]
    simp [mayI, hqd, hqa]
  by_cases heb : b = -1
  case neg =>
    have hebb : (b == -1) = false := by simp [heb]
    have hebc : (b != -1) = true := by simp [heb]
    go_wp2_with fail
    go_ret
    refine ⟨?_, by first | exact HB.out | (rw [← hv0e]; exact HB.out)⟩
    rw [HX.out]
    simp [mayI, hqd, hqa, heb]
  have hebb : (b == -1) = true := by simp [heb]
  have hebc : (b != -1) = false := by simp [heb]
  by_cases hen : name.toList = []
  case neg =>
    go_wp2_with fail
    go_ret
    refine ⟨?_, by first | exact HB.out | (rw [← hv0e]; exact HB.out)⟩
    rw [HX.out]
    simp [mayI, hqd, hqa, heb, hen]
  by_cases hem : num = 0
  case neg =>
    have hemc : (num != 0) = true := by simp [hem]
    go_wp2_with fail
    go_ret
    refine ⟨?_, by first | exact HB.out | (rw [← hv0e]; exact HB.out)⟩
    rw [HX.out]
    simp [mayI, hqd, hqa, heb, hen, hem]
  have hemc : (num != 0) = false := by simp [hem]
  by_cases hol : 19 ≤ op
  case neg =>
    go_wp2_with fail
    go_ret
    refine ⟨?_, by first | exact HB.out | (rw [← hv0e]; exact HB.out)⟩
    rw [HX.out]
    simp [mayI, hqd, hqa, heb, hen, hem, hol]
    intros
    omega
  by_cases hoh : op ≤ 21
  case neg =>
    go_wp2_with fail
    go_ret
    refine ⟨?_, by first | exact HB.out | (rw [← hv0e]; exact HB.out)⟩
    rw [HX.out]
    simp [mayI, hqd, hqa, heb, hen, hem, hol, hoh]
    intros
    omega
  by_cases hel : an = 0
  case neg =>
    have hel1 : (0 : Int) < (an : Int) := by omega
    have HLF : Hid (mayI x n = false) := Lib.hid (by
      have h1 : ¬ x.argL.length = 0 := by rw [HAL.out.1, HAL.out.2]; exact hel
      have h2 : x.kind = 3 := by rw [HX.out]
      simp [mayI, h1, h2])
    by_cases hel8 : an ≤ 8
    · skip
      go_wp2_with fail
      go_ret
      rw [HLF.out]
      exact ⟨rfl, by first | exact HB.out | (rw [← hv0e]; exact HB.out)⟩
    · skip
      go_wp2_with fail
      go_ret
      rw [HLF.out]
      exact ⟨rfl, by first | exact HB.out | (rw [← hv0e]; exact HB.out)⟩
  subst hel
  have HTR : Hid (mayI x n = true) := Lib.hid (by
    have h1 : x.argL = [] := by rw [HAL.out.1]; exact List.take_zero ..
    have h2 : mayI ⟨3, op, d, a, b, num, name, A, 0, ac, zs⟩ n = true := by simp [mayI, MIn.argL, hqd, hqa, heb, hen, hem, hol, hoh]
    rw [HX.out]; exact h2)
  go_wp2_with fail
  go_loopw [225] (fun i wr => i = .int .i64 0 ∧ wr = W0) (fun i _ => 0)
  case atStart => exact ⟨rfl, rfl⟩
  case round =>
    obtain ⟨rfl, rfl⟩ := hrel
    go_wp2_with fail
    go_ret
    rw [HTR.out]
    exact ⟨rfl, by first | exact HB.out | (rw [← hv0e]; exact HB.out)⟩
end Go.Proofs.Ytcanjkjpdnbcnaa
namespace Go.Proofs.Ytcanjkjpdnbcnaa
open Go.RowKit
set_option linter.unusedVariables false
set_option linter.unusedSimpArgs false
set_option maxRecDepth 100000

set_option maxHeartbeats 6400000 in
theorem mayIns_4 (op d a b num : Int) (name : ByteArray) (A : Option Addr) (an ac : Nat) (zs : List Int) (n : Int) (w : World) (hz : IsRow .i64 w A an ac zs) (hs : name.size ≤ 4000000000) (x : MIn) (hx : x = ⟨4, op, d, a, b, num, name, A, an, ac, zs⟩) :
    Calls Try.prog 34 #[.agg #[.int .i64 4, .int .i64 op, .int .i64 d, .int .i64 a, .int .i64 b, .int .i32 num, .string name, .slice A an ac], .int .i64 n] w fun e w' => e = .returned (.bool (mayI x n)) ∧ Below w.heap.size w w' := by
  have HX := Lib.hid hx
  have hlen := hz.len
  obtain ⟨W0, hW0⟩ : ∃ W0, w.alloc (.cells #[.int .i64 4, .int .i64 op, .int .i64 d, .int .i64 a, .int .i64 b, .int .i32 num, .string name, .slice A an ac] 44) = W0 := ⟨_, rfl⟩
  have hB0 : Below w.heap.size w W0 := by rw [← hW0]; exact (Below.refl _ w).alloc (Nat.le_refl _) _
  have hv0 : W0.heap[w.heap.size]? = some (.cells #[.int .i64 4, .int .i64 op, .int .i64 d, .int .i64 a, .int .i64 b, .int .i32 num, .string name, .slice A an ac] 44 (0, 0)) := by rw [← hW0]; exact heap_alloc_new w _
  have y0 : W0.cell? ⟨w.heap.size, 0, none⟩ = some (.int .i64 4) := by rw [cell_of_row _ _ 0 _ _ (0, 0) hv0]; rfl
  have y1 : W0.cell? ⟨w.heap.size, 1, none⟩ = some (.int .i64 op) := by rw [cell_of_row _ _ 1 _ _ (0, 0) hv0]; rfl
  have y2 : W0.cell? ⟨w.heap.size, 2, none⟩ = some (.int .i64 d) := by rw [cell_of_row _ _ 2 _ _ (0, 0) hv0]; rfl
  have y3 : W0.cell? ⟨w.heap.size, 3, none⟩ = some (.int .i64 a) := by rw [cell_of_row _ _ 3 _ _ (0, 0) hv0]; rfl
  have y4 : W0.cell? ⟨w.heap.size, 4, none⟩ = some (.int .i64 b) := by rw [cell_of_row _ _ 4 _ _ (0, 0) hv0]; rfl
  have y5 : W0.cell? ⟨w.heap.size, 5, none⟩ = some (.int .i32 num) := by rw [cell_of_row _ _ 5 _ _ (0, 0) hv0]; rfl
  have y6 : W0.cell? ⟨w.heap.size, 6, none⟩ = some (.string name) := by rw [cell_of_row _ _ 6 _ _ (0, 0) hv0]; rfl
  have y7 : W0.cell? ⟨w.heap.size, 7, none⟩ = some (.slice A an ac) := by rw [cell_of_row _ _ 7 _ _ (0, 0) hv0]; rfl
  have HB := Lib.hid hB0
  have HZ := Lib.hid ((RowK.of_isRow hz).below hB0)
  have HAL : Hid (x.argL = zs.take an ∧ (zs.take an).length = an) := Lib.hid (by rw [hx]; exact ⟨rfl, hz.take_len⟩)
  obtain ⟨v0, hv0e⟩ : ∃ v0, w.heap.size = v0 := ⟨_, rfl⟩
  rw [hv0e] at y0 y1 y2 y3 y4 y5 y6 y7
  clear hx hz hv0 hB0
  go_enter Try.func34, Try.ntmps34
  go_wp2_with fail
  refine (reg_any _ _ _ _).mono ?_
  rintro e w' ⟨rfl, rfl⟩
  generalize hqd : regB d n false = qd
  cases qd
  · clear y7
    go_wp2_with fail
    go_ret
    refine ⟨?_, by first | exact HB.out | (rw [← hv0e]; exact HB.out)⟩
    rw [HX.out]
    simp [mayI, hqd]
  go_wp2_with fail
  refine (reg_any _ _ _ _).mono ?_
  rintro e w' ⟨rfl, rfl⟩
  generalize hqa : regB a n false = qa
  cases qa
  · clear y7
    go_wp2_with fail
    go_ret
    refine ⟨?_, by first | exact HB.out | (rw [← hv0e]; exact HB.out)⟩
    rw [HX.out]
    simp [mayI, hqd, hqa]
  go_wp2_with fail
  refine (reg_any _ _ _ _).mono ?_
  rintro e w' ⟨rfl, rfl⟩
  generalize hqb : regB b n false = qb
  cases qb
  · clear y7
    go_wp2_with fail
    go_ret
    refine ⟨?_, by first | exact HB.out | (rw [← hv0e]; exact HB.out)⟩
    rw [HX.out]
    simp [mayI, hqd, hqa, hqb]
  by_cases hen : name.toList = []
  case neg =>
    go_wp2_with fail
    go_ret
    refine ⟨?_, by first | exact HB.out | (rw [← hv0e]; exact HB.out)⟩
    rw [HX.out]
    simp [mayI, hqd, hqa, hqb, hen]
  by_cases hem : num = 0
  case neg =>
    have hemc : (num != 0) = true := by simp [hem]
    go_wp2_with fail
    go_ret
    refine ⟨?_, by first | exact HB.out | (rw [← hv0e]; exact HB.out)⟩
    rw [HX.out]
    simp [mayI, hqd, hqa, hqb, hen, hem]
  have hemc : (num != 0) = false := by simp [hem]
  by_cases hol : 1 ≤ op
  case neg =>
    go_wp2_with fail
    go_ret
    refine ⟨?_, by first | exact HB.out | (rw [← hv0e]; exact HB.out)⟩
    rw [HX.out]
    simp [mayI, hqd, hqa, hqb, hen, hem, hol]
    intros
    omega
  by_cases hoh : op ≤ 16
  case neg =>
    go_wp2_with fail
    go_ret
    refine ⟨?_, by first | exact HB.out | (rw [← hv0e]; exact HB.out)⟩
    rw [HX.out]
    simp [mayI, hqd, hqa, hqb, hen, hem, hol, hoh]
    intros
    omega
  by_cases hel : an = 0
  case neg =>
    have hel1 : (0 : Int) < (an : Int) := by omega
    have HLF : Hid (mayI x n = false) := Lib.hid (by
      have h1 : ¬ x.argL.length = 0 := by rw [HAL.out.1, HAL.out.2]; exact hel
      have h2 : x.kind = 4 := by rw [HX.out]
      simp [mayI, h1, h2])
    by_cases hel8 : an ≤ 8
    · skip
      go_wp2_with fail
      go_ret
      rw [HLF.out]
      exact ⟨rfl, by first | exact HB.out | (rw [← hv0e]; exact HB.out)⟩
    · skip
      go_wp2_with fail
      go_ret
      rw [HLF.out]
      exact ⟨rfl, by first | exact HB.out | (rw [← hv0e]; exact HB.out)⟩
  subst hel
  have HTR : Hid (mayI x n = true) := Lib.hid (by
    have h1 : x.argL = [] := by rw [HAL.out.1]; exact List.take_zero ..
    have h2 : mayI ⟨4, op, d, a, b, num, name, A, 0, ac, zs⟩ n = true := by simp [mayI, MIn.argL, hqd, hqa, hqb, hen, hem, hol, hoh]
    rw [HX.out]; exact h2)
  go_wp2_with fail
  go_loopw [225] (fun i wr => i = .int .i64 0 ∧ wr = W0) (fun i _ => 0)
  case atStart => exact ⟨rfl, rfl⟩
  case round =>
    obtain ⟨rfl, rfl⟩ := hrel
    go_wp2_with fail
    go_ret
    rw [HTR.out]
    exact ⟨rfl, by first | exact HB.out | (rw [← hv0e]; exact HB.out)⟩
end Go.Proofs.Ytcanjkjpdnbcnaa
namespace Go.Proofs.Ytcanjkjpdnbcnaa
open Go.RowKit
set_option linter.unusedVariables false
set_option linter.unusedSimpArgs false
set_option maxRecDepth 100000

set_option maxHeartbeats 6400000 in
theorem mayIns_5 (op d a b num : Int) (name : ByteArray) (A : Option Addr) (an ac : Nat) (zs : List Int) (n : Int) (w : World) (hz : IsRow .i64 w A an ac zs) (hs : name.size ≤ 4000000000) (x : MIn) (hx : x = ⟨5, op, d, a, b, num, name, A, an, ac, zs⟩) :
    Calls Try.prog 34 #[.agg #[.int .i64 5, .int .i64 op, .int .i64 d, .int .i64 a, .int .i64 b, .int .i32 num, .string name, .slice A an ac], .int .i64 n] w fun e w' => e = .returned (.bool (mayI x n)) ∧ Below w.heap.size w w' := by
  have HX := Lib.hid hx
  have hlen := hz.len
  obtain ⟨W0, hW0⟩ : ∃ W0, w.alloc (.cells #[.int .i64 5, .int .i64 op, .int .i64 d, .int .i64 a, .int .i64 b, .int .i32 num, .string name, .slice A an ac] 44) = W0 := ⟨_, rfl⟩
  have hB0 : Below w.heap.size w W0 := by rw [← hW0]; exact (Below.refl _ w).alloc (Nat.le_refl _) _
  have hv0 : W0.heap[w.heap.size]? = some (.cells #[.int .i64 5, .int .i64 op, .int .i64 d, .int .i64 a, .int .i64 b, .int .i32 num, .string name, .slice A an ac] 44 (0, 0)) := by rw [← hW0]; exact heap_alloc_new w _
  have y0 : W0.cell? ⟨w.heap.size, 0, none⟩ = some (.int .i64 5) := by rw [cell_of_row _ _ 0 _ _ (0, 0) hv0]; rfl
  have y1 : W0.cell? ⟨w.heap.size, 1, none⟩ = some (.int .i64 op) := by rw [cell_of_row _ _ 1 _ _ (0, 0) hv0]; rfl
  have y2 : W0.cell? ⟨w.heap.size, 2, none⟩ = some (.int .i64 d) := by rw [cell_of_row _ _ 2 _ _ (0, 0) hv0]; rfl
  have y3 : W0.cell? ⟨w.heap.size, 3, none⟩ = some (.int .i64 a) := by rw [cell_of_row _ _ 3 _ _ (0, 0) hv0]; rfl
  have y4 : W0.cell? ⟨w.heap.size, 4, none⟩ = some (.int .i64 b) := by rw [cell_of_row _ _ 4 _ _ (0, 0) hv0]; rfl
  have y5 : W0.cell? ⟨w.heap.size, 5, none⟩ = some (.int .i32 num) := by rw [cell_of_row _ _ 5 _ _ (0, 0) hv0]; rfl
  have y6 : W0.cell? ⟨w.heap.size, 6, none⟩ = some (.string name) := by rw [cell_of_row _ _ 6 _ _ (0, 0) hv0]; rfl
  have y7 : W0.cell? ⟨w.heap.size, 7, none⟩ = some (.slice A an ac) := by rw [cell_of_row _ _ 7 _ _ (0, 0) hv0]; rfl
  have HB := Lib.hid hB0
  have HZ := Lib.hid ((RowK.of_isRow hz).below hB0)
  have HAL : Hid (x.argL = zs.take an ∧ (zs.take an).length = an) := Lib.hid (by rw [hx]; exact ⟨rfl, hz.take_len⟩)
  obtain ⟨v0, hv0e⟩ : ∃ v0, w.heap.size = v0 := ⟨_, rfl⟩
  rw [hv0e] at y0 y1 y2 y3 y4 y5 y6 y7
  clear hx hz hv0 hB0
  go_enter Try.func34, Try.ntmps34
  go_wp2_with fail
  refine (reg_any _ _ _ _).mono ?_
  rintro e w' ⟨rfl, rfl⟩
  generalize hqd : regB d n false = qd
  cases qd
  · clear y7
    go_wp2_with fail
    go_ret
    refine ⟨?_, by first | exact HB.out | (rw [← hv0e]; exact HB.out)⟩
    rw [HX.out]
    simp [mayI, hqd]
  go_wp2_with fail
  refine (reg_any _ _ _ _).mono ?_
  rintro e w' ⟨rfl, rfl⟩
  generalize hqa : regB a n true = qa
  cases qa
  · clear y7
    go_wp2_with fail
    go_ret
    refine ⟨?_, by first | exact HB.out | (rw [← hv0e]; exact HB.out)⟩
    rw [HX.out]
    simp [mayI, hqd, hqa]
  by_cases heb : b = -1
  case neg =>
    have hebb : (b == -1) = false := by simp [heb]
    have hebc : (b != -1) = true := by simp [heb]
    go_wp2_with fail
    go_ret
    refine ⟨?_, by first | exact HB.out | (rw [← hv0e]; exact HB.out)⟩
    rw [HX.out]
    simp [mayI, hqd, hqa, heb]
  have hebb : (b == -1) = true := by simp [heb]
  have hebc : (b != -1) = false := by simp [heb]
  have hlt := World.block_lt_of_cell? W0 _ y0
  go_wp2_with fail
  refine (risName_any name hs _).mono ?_
  rintro e W1 ⟨rfl, hb1⟩
  have y0 := (hb1.cell (p := ⟨v0, 0, none⟩) hlt).trans y0
  have y1 := (hb1.cell (p := ⟨v0, 1, none⟩) hlt).trans y1
  have y2 := (hb1.cell (p := ⟨v0, 2, none⟩) hlt).trans y2
  have y3 := (hb1.cell (p := ⟨v0, 3, none⟩) hlt).trans y3
  have y4 := (hb1.cell (p := ⟨v0, 4, none⟩) hlt).trans y4
  have y5 := (hb1.cell (p := ⟨v0, 5, none⟩) hlt).trans y5
  have y6 := (hb1.cell (p := ⟨v0, 6, none⟩) hlt).trans y6
  have y7 := (hb1.cell (p := ⟨v0, 7, none⟩) hlt).trans y7
  have HZ := Lib.hid (HZ.out.below hb1)
  have HB := Lib.hid (HB.out.trans (hb1.mono HB.out.size))
  clear hb1 hlt
  generalize hqn : nameB name.data.toList = qn
  cases qn
  · clear y7
    go_wp2_with fail
    go_ret
    refine ⟨?_, by first | exact HB.out | (rw [← hv0e]; exact HB.out)⟩
    rw [HX.out]
    simp [mayI, hqd, hqa, heb, hqn]
  by_cases hem : num = 0
  case neg =>
    have hemc : (num != 0) = true := by simp [hem]
    go_wp2_with fail
    go_ret
    refine ⟨?_, by first | exact HB.out | (rw [← hv0e]; exact HB.out)⟩
    rw [HX.out]
    simp [mayI, hqd, hqa, heb, hqn, hem]
  have hemc : (num != 0) = false := by simp [hem]
  by_cases heo : op = 0
  case neg =>
    have heoc : (op != 0) = true := by simp [heo]
    go_wp2_with fail
    go_ret
    refine ⟨?_, by first | exact HB.out | (rw [← hv0e]; exact HB.out)⟩
    rw [HX.out]
    simp [mayI, hqd, hqa, heb, hqn, hem, heo]
  have heoc : (op != 0) = false := by simp [heo]
  by_cases hel : an = 0
  case neg =>
    have hel1 : (0 : Int) < (an : Int) := by omega
    have HLF : Hid (mayI x n = false) := Lib.hid (by
      have h1 : ¬ x.argL.length = 0 := by rw [HAL.out.1, HAL.out.2]; exact hel
      have h2 : x.kind = 5 := by rw [HX.out]
      simp [mayI, h1, h2])
    by_cases hel8 : an ≤ 8
    · skip
      go_wp2_with fail
      go_ret
      rw [HLF.out]
      exact ⟨rfl, by first | exact HB.out | (rw [← hv0e]; exact HB.out)⟩
    · skip
      go_wp2_with fail
      go_ret
      rw [HLF.out]
      exact ⟨rfl, by first | exact HB.out | (rw [← hv0e]; exact HB.out)⟩
  subst hel
  have HTR : Hid (mayI x n = true) := Lib.hid (by
    have h1 : x.argL = [] := by rw [HAL.out.1]; exact List.take_zero ..
    have h2 : mayI ⟨5, op, d, a, b, num, name, A, 0, ac, zs⟩ n = true := by simp [mayI, MIn.argL, hqd, hqa, heb, hqn, hem, heo]
    rw [HX.out]; exact h2)
  go_wp2_with fail
  go_loopw [225] (fun i wr => i = .int .i64 0 ∧ wr = W1) (fun i _ => 0)
  case atStart => exact ⟨rfl, rfl⟩
  case round =>
    obtain ⟨rfl, rfl⟩ := hrel
    go_wp2_with fail
    go_ret
    rw [HTR.out]
    exact ⟨rfl, by first | exact HB.out | (rw [← hv0e]; exact HB.out)⟩
end Go.Proofs.Ytcanjkjpdnbcnaa
namespace Go.Proofs.Ytcanjkjpdnbcnaa
open Go.RowKit
set_option linter.unusedVariables false
set_option linter.unusedSimpArgs false
set_option maxRecDepth 100000

set_option maxHeartbeats 6400000 in
theorem mayIns_6 (op d a b num : Int) (name : ByteArray) (A : Option Addr) (an ac : Nat) (zs : List Int) (n : Int) (w : World) (hz : IsRow .i64 w A an ac zs) (hs : name.size ≤ 4000000000) (x : MIn) (hx : x = ⟨6, op, d, a, b, num, name, A, an, ac, zs⟩) :
    Calls Try.prog 34 #[.agg #[.int .i64 6, .int .i64 op, .int .i64 d, .int .i64 a, .int .i64 b, .int .i32 num, .string name, .slice A an ac], .int .i64 n] w fun e w' => e = .returned (.bool (mayI x n)) ∧ Below w.heap.size w w' := by
  have HX := Lib.hid hx
  have hlen := hz.len
  obtain ⟨W0, hW0⟩ : ∃ W0, w.alloc (.cells #[.int .i64 6, .int .i64 op, .int .i64 d, .int .i64 a, .int .i64 b, .int .i32 num, .string name, .slice A an ac] 44) = W0 := ⟨_, rfl⟩
  have hB0 : Below w.heap.size w W0 := by rw [← hW0]; exact (Below.refl _ w).alloc (Nat.le_refl _) _
  have hv0 : W0.heap[w.heap.size]? = some (.cells #[.int .i64 6, .int .i64 op, .int .i64 d, .int .i64 a, .int .i64 b, .int .i32 num, .string name, .slice A an ac] 44 (0, 0)) := by rw [← hW0]; exact heap_alloc_new w _
  have y0 : W0.cell? ⟨w.heap.size, 0, none⟩ = some (.int .i64 6) := by rw [cell_of_row _ _ 0 _ _ (0, 0) hv0]; rfl
  have y1 : W0.cell? ⟨w.heap.size, 1, none⟩ = some (.int .i64 op) := by rw [cell_of_row _ _ 1 _ _ (0, 0) hv0]; rfl
  have y2 : W0.cell? ⟨w.heap.size, 2, none⟩ = some (.int .i64 d) := by rw [cell_of_row _ _ 2 _ _ (0, 0) hv0]; rfl
  have y3 : W0.cell? ⟨w.heap.size, 3, none⟩ = some (.int .i64 a) := by rw [cell_of_row _ _ 3 _ _ (0, 0) hv0]; rfl
  have y4 : W0.cell? ⟨w.heap.size, 4, none⟩ = some (.int .i64 b) := by rw [cell_of_row _ _ 4 _ _ (0, 0) hv0]; rfl
  have y5 : W0.cell? ⟨w.heap.size, 5, none⟩ = some (.int .i32 num) := by rw [cell_of_row _ _ 5 _ _ (0, 0) hv0]; rfl
  have y6 : W0.cell? ⟨w.heap.size, 6, none⟩ = some (.string name) := by rw [cell_of_row _ _ 6 _ _ (0, 0) hv0]; rfl
  have y7 : W0.cell? ⟨w.heap.size, 7, none⟩ = some (.slice A an ac) := by rw [cell_of_row _ _ 7 _ _ (0, 0) hv0]; rfl
  have HB := Lib.hid hB0
  have HZ := Lib.hid ((RowK.of_isRow hz).below hB0)
  have HAL : Hid (x.argL = zs.take an ∧ (zs.take an).length = an) := Lib.hid (by rw [hx]; exact ⟨rfl, hz.take_len⟩)
  obtain ⟨v0, hv0e⟩ : ∃ v0, w.heap.size = v0 := ⟨_, rfl⟩
  rw [hv0e] at y0 y1 y2 y3 y4 y5 y6 y7
  clear hx hz hv0 hB0
  go_enter Try.func34, Try.ntmps34
  by_cases hed : d = -1
  case neg =>
    have hedb : (d == -1) = false := by simp [hed]
    have hedc : (d != -1) = true := by simp [hed]
    go_wp2_with fail
    go_ret
    refine ⟨?_, by first | exact HB.out | (rw [← hv0e]; exact HB.out)⟩
    rw [HX.out]
    simp [mayI, hed]
  subst hed
  go_wp2_with fail
  refine (reg_any _ _ _ _).mono ?_
  rintro e w' ⟨rfl, rfl⟩
  generalize hqa : regB a n true = qa
  cases qa
  · clear y7
    go_wp2_with fail
    go_ret
    refine ⟨?_, by first | exact HB.out | (rw [← hv0e]; exact HB.out)⟩
    rw [HX.out]
    simp [mayI, hqa]
  go_wp2_with fail
  refine (reg_any _ _ _ _).mono ?_
  rintro e w' ⟨rfl, rfl⟩
  generalize hqb : regB b n false = qb
  cases qb
  · clear y7
    go_wp2_with fail
    go_ret
    refine ⟨?_, by first | exact HB.out | (rw [← hv0e]; exact HB.out)⟩
    rw [HX.out]
    simp [mayI, hqa, hqb]
  have hlt := World.block_lt_of_cell? W0 _ y0
  go_wp2_with fail
  refine (risName_any name hs _).mono ?_
  rintro e W1 ⟨rfl, hb1⟩
  have y0 := (hb1.cell (p := ⟨v0, 0, none⟩) hlt).trans y0
  have y1 := (hb1.cell (p := ⟨v0, 1, none⟩) hlt).trans y1
  have y2 := (hb1.cell (p := ⟨v0, 2, none⟩) hlt).trans y2
  have y3 := (hb1.cell (p := ⟨v0, 3, none⟩) hlt).trans y3
  have y4 := (hb1.cell (p := ⟨v0, 4, none⟩) hlt).trans y4
  have y5 := (hb1.cell (p := ⟨v0, 5, none⟩) hlt).trans y5
  have y6 := (hb1.cell (p := ⟨v0, 6, none⟩) hlt).trans y6
  have y7 := (hb1.cell (p := ⟨v0, 7, none⟩) hlt).trans y7
  have HZ := Lib.hid (HZ.out.below hb1)
  have HB := Lib.hid (HB.out.trans (hb1.mono HB.out.size))
  clear hb1 hlt
  generalize hqn : nameB name.data.toList = qn
  cases qn
  · clear y7
    go_wp2_with fail
    go_ret
    refine ⟨?_, by first | exact HB.out | (rw [← hv0e]; exact HB.out)⟩
    rw [HX.out]
    simp [mayI, hqa, hqb, hqn]
  by_cases hem : num = 0
  case neg =>
    have hemc : (num != 0) = true := by simp [hem]
    go_wp2_with fail
    go_ret
    refine ⟨?_, by first | exact HB.out | (rw [← hv0e]; exact HB.out)⟩
    rw [HX.out]
    simp [mayI, hqa, hqb, hqn, hem]
  have hemc : (num != 0) = false := by simp [hem]
  by_cases heo : op = 0
  case neg =>
    have heoc : (op != 0) = true := by simp [heo]
    go_wp2_with fail
    go_ret
    refine ⟨?_, by first | exact HB.out | (rw [← hv0e]; exact HB.out)⟩
    rw [HX.out]
    simp [mayI, hqa, hqb, hqn, hem, heo]
  have heoc : (op != 0) = false := by simp [heo]
  by_cases hel : an = 0
  case neg =>
    have hel1 : (0 : Int) < (an : Int) := by omega
    have HLF : Hid (mayI x n = false) := Lib.hid (by
      have h1 : ¬ x.argL.length = 0 := by rw [HAL.out.1, HAL.out.2]; exact hel
      have h2 : x.kind = 6 := by rw [HX.out]
      simp [mayI, h1, h2])
    by_cases hel8 : an ≤ 8
    · skip
      go_wp2_with fail
      go_ret
      rw [HLF.out]
      exact ⟨rfl, by first | exact HB.out | (rw [← hv0e]; exact HB.out)⟩
    · skip
      go_wp2_with fail
      go_ret
      rw [HLF.out]
      exact ⟨rfl, by first | exact HB.out | (rw [← hv0e]; exact HB.out)⟩
  subst hel
  have HTR : Hid (mayI x n = true) := Lib.hid (by
    have h1 : x.argL = [] := by rw [HAL.out.1]; exact List.take_zero ..
    have h2 : mayI ⟨6, op, (-1), a, b, num, name, A, 0, ac, zs⟩ n = true := by simp [mayI, MIn.argL, hqa, hqb, hqn, hem, heo]
    rw [HX.out]; exact h2)
  go_wp2_with fail
  go_loopw [225] (fun i wr => i = .int .i64 0 ∧ wr = W1) (fun i _ => 0)
  case atStart => exact ⟨rfl, rfl⟩
  case round =>
    obtain ⟨rfl, rfl⟩ := hrel
    go_wp2_with fail
    go_ret
    rw [HTR.out]
    exact ⟨rfl, by first | exact HB.out | (rw [← hv0e]; exact HB.out)⟩
end Go.Proofs.Ytcanjkjpdnbcnaa
namespace Go.Proofs.Ytcanjkjpdnbcnaa
open Go.RowKit
set_option linter.unusedVariables false
set_option linter.unusedSimpArgs false
set_option maxRecDepth 100000

set_option maxHeartbeats 6400000 in
theorem mayIns_7 (op d a b num : Int) (name : ByteArray) (A : Option Addr) (an ac : Nat) (zs : List Int) (n : Int) (w : World) (hz : IsRow .i64 w A an ac zs) (hs : name.size ≤ 4000000000) (x : MIn) (hx : x = ⟨7, op, d, a, b, num, name, A, an, ac, zs⟩) :
    Calls Try.prog 34 #[.agg #[.int .i64 7, .int .i64 op, .int .i64 d, .int .i64 a, .int .i64 b, .int .i32 num, .string name, .slice A an ac], .int .i64 n] w fun e w' => e = .returned (.bool (mayI x n)) ∧ Below w.heap.size w w' := by
  have HX := Lib.hid hx
  have hlen := hz.len
  obtain ⟨W0, hW0⟩ : ∃ W0, w.alloc (.cells #[.int .i64 7, .int .i64 op, .int .i64 d, .int .i64 a, .int .i64 b, .int .i32 num, .string name, .slice A an ac] 44) = W0 := ⟨_, rfl⟩
  have hB0 : Below w.heap.size w W0 := by rw [← hW0]; exact (Below.refl _ w).alloc (Nat.le_refl _) _
  have hv0 : W0.heap[w.heap.size]? = some (.cells #[.int .i64 7, .int .i64 op, .int .i64 d, .int .i64 a, .int .i64 b, .int .i32 num, .string name, .slice A an ac] 44 (0, 0)) := by rw [← hW0]; exact heap_alloc_new w _
  have y0 : W0.cell? ⟨w.heap.size, 0, none⟩ = some (.int .i64 7) := by rw [cell_of_row _ _ 0 _ _ (0, 0) hv0]; rfl
  have y1 : W0.cell? ⟨w.heap.size, 1, none⟩ = some (.int .i64 op) := by rw [cell_of_row _ _ 1 _ _ (0, 0) hv0]; rfl
  have y2 : W0.cell? ⟨w.heap.size, 2, none⟩ = some (.int .i64 d) := by rw [cell_of_row _ _ 2 _ _ (0, 0) hv0]; rfl
  have y3 : W0.cell? ⟨w.heap.size, 3, none⟩ = some (.int .i64 a) := by rw [cell_of_row _ _ 3 _ _ (0, 0) hv0]; rfl
  have y4 : W0.cell? ⟨w.heap.size, 4, none⟩ = some (.int .i64 b) := by rw [cell_of_row _ _ 4 _ _ (0, 0) hv0]; rfl
  have y5 : W0.cell? ⟨w.heap.size, 5, none⟩ = some (.int .i32 num) := by rw [cell_of_row _ _ 5 _ _ (0, 0) hv0]; rfl
  have y6 : W0.cell? ⟨w.heap.size, 6, none⟩ = some (.string name) := by rw [cell_of_row _ _ 6 _ _ (0, 0) hv0]; rfl
  have y7 : W0.cell? ⟨w.heap.size, 7, none⟩ = some (.slice A an ac) := by rw [cell_of_row _ _ 7 _ _ (0, 0) hv0]; rfl
  have HB := Lib.hid hB0
  have HZ := Lib.hid ((RowK.of_isRow hz).below hB0)
  have HAL : Hid (x.argL = zs.take an ∧ (zs.take an).length = an) := Lib.hid (by rw [hx]; exact ⟨rfl, hz.take_len⟩)
  obtain ⟨v0, hv0e⟩ : ∃ v0, w.heap.size = v0 := ⟨_, rfl⟩
  rw [hv0e] at y0 y1 y2 y3 y4 y5 y6 y7
  clear hx hz hv0 hB0
  go_enter Try.func34, Try.ntmps34
  go_wp2_with fail
  refine (reg_any _ _ _ _).mono ?_
  rintro e w' ⟨rfl, rfl⟩
  generalize hqd : regB d n true = qd
  cases qd
  · clear y7
    go_wp2_with fail
    go_ret
    refine ⟨?_, by first | exact HB.out | (rw [← hv0e]; exact HB.out)⟩
    rw [HX.out]
    simp [mayI, hqd]
  by_cases hea : a = -1
  case neg =>
    have heab : (a == -1) = false := by simp [hea]
    have heac : (a != -1) = true := by simp [hea]
    go_wp2_with fail
    go_ret
    refine ⟨?_, by first | exact HB.out | (rw [← hv0e]; exact HB.out)⟩
    rw [HX.out]
    simp [mayI, hqd, hea]
  have heab : (a == -1) = true := by simp [hea]
  have heac : (a != -1) = false := by simp [hea]
  by_cases heb : b = -1
  case neg =>
    have hebb : (b == -1) = false := by simp [heb]
    have hebc : (b != -1) = true := by simp [heb]
    go_wp2_with fail
    go_ret
    refine ⟨?_, by first | exact HB.out | (rw [← hv0e]; exact HB.out)⟩
    rw [HX.out]
    simp [mayI, hqd, hea, heb]
  have hebb : (b == -1) = true := by simp [heb]
  have hebc : (b != -1) = false := by simp [heb]
  have hlt := World.block_lt_of_cell? W0 _ y0
  go_wp2_with fail
  refine (risName_any name hs _).mono ?_
  rintro e W1 ⟨rfl, hb1⟩
  have y0 := (hb1.cell (p := ⟨v0, 0, none⟩) hlt).trans y0
  have y1 := (hb1.cell (p := ⟨v0, 1, none⟩) hlt).trans y1
  have y2 := (hb1.cell (p := ⟨v0, 2, none⟩) hlt).trans y2
  have y3 := (hb1.cell (p := ⟨v0, 3, none⟩) hlt).trans y3
  have y4 := (hb1.cell (p := ⟨v0, 4, none⟩) hlt).trans y4
  have y5 := (hb1.cell (p := ⟨v0, 5, none⟩) hlt).trans y5
  have y6 := (hb1.cell (p := ⟨v0, 6, none⟩) hlt).trans y6
  have y7 := (hb1.cell (p := ⟨v0, 7, none⟩) hlt).trans y7
  have HZ := Lib.hid (HZ.out.below hb1)
  have HB := Lib.hid (HB.out.trans (hb1.mono HB.out.size))
  clear hb1 hlt
  generalize hqn : nameB name.data.toList = qn
  cases qn
  · clear y7
    go_wp2_with fail
    go_ret
    refine ⟨?_, by first | exact HB.out | (rw [← hv0e]; exact HB.out)⟩
    rw [HX.out]
    simp [mayI, hqd, hea, heb, hqn]
  by_cases hem : num = 0
  case neg =>
    have hemc : (num != 0) = true := by simp [hem]
    go_wp2_with fail
    go_ret
    refine ⟨?_, by first | exact HB.out | (rw [← hv0e]; exact HB.out)⟩
    rw [HX.out]
    simp [mayI, hqd, hea, heb, hqn, hem]
  have hemc : (num != 0) = false := by simp [hem]
  by_cases heo : op = 0
  case neg =>
    have heoc : (op != 0) = true := by simp [heo]
    go_wp2_with fail
    go_ret
    refine ⟨?_, by first | exact HB.out | (rw [← hv0e]; exact HB.out)⟩
    rw [HX.out]
    simp [mayI, hqd, hea, heb, hqn, hem, heo]
  have heoc : (op != 0) = false := by simp [heo]
  by_cases hel8 : an ≤ 8
  case neg =>
    have hel9 : (8 : Int) < (an : Int) := by omega
    have HLF : Hid (mayI x n = false) := Lib.hid (by
      have h1 : ¬ x.argL.length ≤ 8 := by rw [HAL.out.1, HAL.out.2]; exact hel8
      simp [mayI, h1])
    go_wp2_with fail
    go_ret
    rw [HLF.out]
    exact ⟨rfl, by first | exact HB.out | (rw [← hv0e]; exact HB.out)⟩
  have HTR : Hid (mayI x n = x.argL.all (fun r => regB r n false)) := Lib.hid (by
    have h1 : x.argL.length ≤ 8 := by rw [HAL.out.1, HAL.out.2]; exact hel8
    have h2 : (7 : Int) = 7 := rfl
    have e : x.kind = 7 ∧ x.d = d ∧ x.a = a ∧ x.b = b ∧ x.name = name ∧ x.num = num ∧ x.op = op := by rw [HX.out]; exact ⟨rfl, rfl, rfl, rfl, rfl, rfl, rfl⟩
    obtain ⟨e1, e2, e3, e4, e5, e6, e7⟩ := e
    simp [mayI, h1, e1, e2, e3, e4, e5, e6, e7, hqd, hea, heb, hqn, hem, heo])
  go_wp2_with fail
  go_loopw [225] (fun i wr => ∃ k : Nat, k ≤ an ∧ i = .int .i64 k ∧ Hid (∀ j, j < k → regB ((zs.take an).getD j 0) n false = true) ∧ wr = W1) (fun i _ => an - (intOf i).toNat)
  case atStart => exact ⟨0, by omega, rfl, Lib.hid (fun j hj => by omega), rfl⟩
  case round =>
    obtain ⟨k, hk, rfl, HI, rfl⟩ := hrel
    rcases Nat.lt_or_ge k an with hkm | hkm
    · skip
      obtain ⟨g, off, rfl, hg, hc⟩ := HZ.out.2 (by omega)
      have e0 := hc k hkm
      clear hg hc
      obtain ⟨z, hze⟩ : ∃ z, (zs.take an).getD k 0 = z := ⟨_, rfl⟩
      rw [hze] at e0
      have HZE := Lib.hid hze
      clear hze
      have hkm' : (k : Int) < (an : Int) := by omega
      have hk0 : (0 : Int) ≤ (k : Int) := by omega
      go_wp2_with fail
      refine (reg_any _ _ _ _).mono ?_
      rintro e w' ⟨rfl, rfl⟩
      generalize hq : regB z n false = q
      cases q
      · skip
        have HLF : Hid (mayI x n = false) := Lib.hid (by
          rw [HTR.out, HAL.out.1]
          refine List.all_eq_false.2 ⟨z, ?_, by rw [hq]; exact Bool.false_ne_true⟩
          have h5 : k < (zs.take an).length := by rw [HAL.out.2]; exact hkm
          rw [← HZE.out, List.getD_eq_getElem?_getD, List.getElem?_eq_getElem h5]
          exact List.getElem_mem h5)
        go_wp2_with fail
        go_ret
        rw [HLF.out]
        exact ⟨rfl, by first | exact HB.out | (rw [← hv0e]; exact HB.out)⟩
      have HST : Hid (∀ j, j < k + 1 → regB ((zs.take an).getD j 0) n false = true) := Lib.hid (fun j hj => by
        rcases Nat.lt_or_ge j k with h5 | h5
        · exact HI.out j h5
        · obtain rfl : j = k := by omega
          rw [HZE.out]; exact hq)
      go_wp2_with fail
      go_roundw
      case rel => exact ⟨k + 1, by omega, by go_num, HST, by trivial⟩
      case measure => simp [intOf] <;> omega
    · obtain rfl : k = an := by omega
      have HT2 : Hid (mayI x n = true) := Lib.hid (by
        rw [HTR.out, HAL.out.1]
        refine List.all_eq_true.2 fun r hr => ?_
        obtain ⟨j, hj, rfl⟩ := List.getElem_of_mem hr
        have := HI.out j (by rw [HAL.out.2] at hj; exact hj)
        rw [List.getD_eq_getElem?_getD, List.getElem?_eq_getElem hj] at this
        exact this)
      go_wp2_with fail
      go_ret
      rw [HT2.out]
      exact ⟨rfl, by first | exact HB.out | (rw [← hv0e]; exact HB.out)⟩
end Go.Proofs.Ytcanjkjpdnbcnaa
namespace Go.Proofs.Ytcanjkjpdnbcnaa
open Go.RowKit
set_option linter.unusedVariables false
set_option linter.unusedSimpArgs false
set_option maxRecDepth 100000

set_option maxHeartbeats 6400000 in
theorem mayIns_8 (op d a b num : Int) (name : ByteArray) (A : Option Addr) (an ac : Nat) (zs : List Int) (n : Int) (w : World) (hz : IsRow .i64 w A an ac zs) (hs : name.size ≤ 4000000000) (x : MIn) (hx : x = ⟨8, op, d, a, b, num, name, A, an, ac, zs⟩) :
    Calls Try.prog 34 #[.agg #[.int .i64 8, .int .i64 op, .int .i64 d, .int .i64 a, .int .i64 b, .int .i32 num, .string name, .slice A an ac], .int .i64 n] w fun e w' => e = .returned (.bool (mayI x n)) ∧ Below w.heap.size w w' := by
  have HX := Lib.hid hx
  have hlen := hz.len
  obtain ⟨W0, hW0⟩ : ∃ W0, w.alloc (.cells #[.int .i64 8, .int .i64 op, .int .i64 d, .int .i64 a, .int .i64 b, .int .i32 num, .string name, .slice A an ac] 44) = W0 := ⟨_, rfl⟩
  have hB0 : Below w.heap.size w W0 := by rw [← hW0]; exact (Below.refl _ w).alloc (Nat.le_refl _) _
  have hv0 : W0.heap[w.heap.size]? = some (.cells #[.int .i64 8, .int .i64 op, .int .i64 d, .int .i64 a, .int .i64 b, .int .i32 num, .string name, .slice A an ac] 44 (0, 0)) := by rw [← hW0]; exact heap_alloc_new w _
  have y0 : W0.cell? ⟨w.heap.size, 0, none⟩ = some (.int .i64 8) := by rw [cell_of_row _ _ 0 _ _ (0, 0) hv0]; rfl
  have y1 : W0.cell? ⟨w.heap.size, 1, none⟩ = some (.int .i64 op) := by rw [cell_of_row _ _ 1 _ _ (0, 0) hv0]; rfl
  have y2 : W0.cell? ⟨w.heap.size, 2, none⟩ = some (.int .i64 d) := by rw [cell_of_row _ _ 2 _ _ (0, 0) hv0]; rfl
  have y3 : W0.cell? ⟨w.heap.size, 3, none⟩ = some (.int .i64 a) := by rw [cell_of_row _ _ 3 _ _ (0, 0) hv0]; rfl
  have y4 : W0.cell? ⟨w.heap.size, 4, none⟩ = some (.int .i64 b) := by rw [cell_of_row _ _ 4 _ _ (0, 0) hv0]; rfl
  have y5 : W0.cell? ⟨w.heap.size, 5, none⟩ = some (.int .i32 num) := by rw [cell_of_row _ _ 5 _ _ (0, 0) hv0]; rfl
  have y6 : W0.cell? ⟨w.heap.size, 6, none⟩ = some (.string name) := by rw [cell_of_row _ _ 6 _ _ (0, 0) hv0]; rfl
  have y7 : W0.cell? ⟨w.heap.size, 7, none⟩ = some (.slice A an ac) := by rw [cell_of_row _ _ 7 _ _ (0, 0) hv0]; rfl
  have HB := Lib.hid hB0
  have HZ := Lib.hid ((RowK.of_isRow hz).below hB0)
  have HAL : Hid (x.argL = zs.take an ∧ (zs.take an).length = an) := Lib.hid (by rw [hx]; exact ⟨rfl, hz.take_len⟩)
  obtain ⟨v0, hv0e⟩ : ∃ v0, w.heap.size = v0 := ⟨_, rfl⟩
  rw [hv0e] at y0 y1 y2 y3 y4 y5 y6 y7
  clear hx hz hv0 hB0
  go_enter Try.func34, Try.ntmps34
  go_wp2_with fail
  refine (reg_any _ _ _ _).mono ?_
  rintro e w' ⟨rfl, rfl⟩
  generalize hqd : regB d n false = qd
  cases qd
  · clear y7
    go_wp2_with fail
    go_ret
    refine ⟨?_, by first | exact HB.out | (rw [← hv0e]; exact HB.out)⟩
    rw [HX.out]
    simp [mayI, hqd]
  by_cases hea : a = -1
  case neg =>
    have heab : (a == -1) = false := by simp [hea]
    have heac : (a != -1) = true := by simp [hea]
    go_wp2_with fail
    go_ret
    refine ⟨?_, by first | exact HB.out | (rw [← hv0e]; exact HB.out)⟩
    rw [HX.out]
    simp [mayI, hqd, hea]
  have heab : (a == -1) = true := by simp [hea]
  have heac : (a != -1) = false := by simp [hea]
  by_cases heb : b = -1
  case neg =>
    have hebb : (b == -1) = false := by simp [heb]
    have hebc : (b != -1) = true := by simp [heb]
    go_wp2_with fail
    go_ret
    refine ⟨?_, by first | exact HB.out | (rw [← hv0e]; exact HB.out)⟩
    rw [HX.out]
    simp [mayI, hqd, hea, heb]
  have hebb : (b == -1) = true := by simp [heb]
  have hebc : (b != -1) = false := by simp [heb]
  by_cases hen : name.toList = []
  case neg =>
    go_wp2_with fail
    go_ret
    refine ⟨?_, by first | exact HB.out | (rw [← hv0e]; exact HB.out)⟩
    rw [HX.out]
    simp [mayI, hqd, hea, heb, hen]
  by_cases hem : num = 0
  case neg =>
    have hemc : (num != 0) = true := by simp [hem]
    go_wp2_with fail
    go_ret
    refine ⟨?_, by first | exact HB.out | (rw [← hv0e]; exact HB.out)⟩
    rw [HX.out]
    simp [mayI, hqd, hea, heb, hen, hem]
  have hemc : (num != 0) = false := by simp [hem]
  by_cases heo : op = 0
  case neg =>
    have heoc : (op != 0) = true := by simp [heo]
    go_wp2_with fail
    go_ret
    refine ⟨?_, by first | exact HB.out | (rw [← hv0e]; exact HB.out)⟩
    rw [HX.out]
    simp [mayI, hqd, hea, heb, hen, hem, heo]
  have heoc : (op != 0) = false := by simp [heo]
  by_cases hel : an = 0
  case neg =>
    have hel1 : (0 : Int) < (an : Int) := by omega
    have HLF : Hid (mayI x n = false) := Lib.hid (by
      have h1 : ¬ x.argL.length = 0 := by rw [HAL.out.1, HAL.out.2]; exact hel
      have h2 : x.kind = 8 := by rw [HX.out]
      simp [mayI, h1, h2])
    by_cases hel8 : an ≤ 8
    · skip
      go_wp2_with fail
      go_ret
      rw [HLF.out]
      exact ⟨rfl, by first | exact HB.out | (rw [← hv0e]; exact HB.out)⟩
    · skip
      go_wp2_with fail
      go_ret
      rw [HLF.out]
      exact ⟨rfl, by first | exact HB.out | (rw [← hv0e]; exact HB.out)⟩
  subst hel
  have HTR : Hid (mayI x n = true) := Lib.hid (by
    have h1 : x.argL = [] := by rw [HAL.out.1]; exact List.take_zero ..
    have h2 : mayI ⟨8, op, d, a, b, num, name, A, 0, ac, zs⟩ n = true := by simp [mayI, MIn.argL, hqd, hea, heb, hen, hem, heo]
    rw [HX.out]; exact h2)
  go_wp2_with fail
  go_loopw [225] (fun i wr => i = .int .i64 0 ∧ wr = W0) (fun i _ => 0)
  case atStart => exact ⟨rfl, rfl⟩
  case round =>
    obtain ⟨rfl, rfl⟩ := hrel
    go_wp2_with fail
    go_ret
    rw [HTR.out]
    exact ⟨rfl, by first | exact HB.out | (rw [← hv0e]; exact HB.out)⟩
end Go.Proofs.Ytcanjkjpdnbcnaa
namespace Go.Proofs.Ytcanjkjpdnbcnaa
open Go.RowKit
set_option linter.unusedVariables false
set_option linter.unusedSimpArgs false
set_option maxRecDepth 100000

set_option maxHeartbeats 6400000 in
theorem mayIns_9 (op d a b num : Int) (name : ByteArray) (A : Option Addr) (an ac : Nat) (zs : List Int) (n : Int) (w : World) (hz : IsRow .i64 w A an ac zs) (hs : name.size ≤ 4000000000) (x : MIn) (hx : x = ⟨9, op, d, a, b, num, name, A, an, ac, zs⟩) :
    Calls Try.prog 34 #[.agg #[.int .i64 9, .int .i64 op, .int .i64 d, .int .i64 a, .int .i64 b, .int .i32 num, .string name, .slice A an ac], .int .i64 n] w fun e w' => e = .returned (.bool (mayI x n)) ∧ Below w.heap.size w w' := by
  have HX := Lib.hid hx
  have hlen := hz.len
  obtain ⟨W0, hW0⟩ : ∃ W0, w.alloc (.cells #[.int .i64 9, .int .i64 op, .int .i64 d, .int .i64 a, .int .i64 b, .int .i32 num, .string name, .slice A an ac] 44) = W0 := ⟨_, rfl⟩
  have hB0 : Below w.heap.size w W0 := by rw [← hW0]; exact (Below.refl _ w).alloc (Nat.le_refl _) _
  have hv0 : W0.heap[w.heap.size]? = some (.cells #[.int .i64 9, .int .i64 op, .int .i64 d, .int .i64 a, .int .i64 b, .int .i32 num, .string name, .slice A an ac] 44 (0, 0)) := by rw [← hW0]; exact heap_alloc_new w _
  have y0 : W0.cell? ⟨w.heap.size, 0, none⟩ = some (.int .i64 9) := by rw [cell_of_row _ _ 0 _ _ (0, 0) hv0]; rfl
  have y1 : W0.cell? ⟨w.heap.size, 1, none⟩ = some (.int .i64 op) := by rw [cell_of_row _ _ 1 _ _ (0, 0) hv0]; rfl
  have y2 : W0.cell? ⟨w.heap.size, 2, none⟩ = some (.int .i64 d) := by rw [cell_of_row _ _ 2 _ _ (0, 0) hv0]; rfl
  have y3 : W0.cell? ⟨w.heap.size, 3, none⟩ = some (.int .i64 a) := by rw [cell_of_row _ _ 3 _ _ (0, 0) hv0]; rfl
  have y4 : W0.cell? ⟨w.heap.size, 4, none⟩ = some (.int .i64 b) := by rw [cell_of_row _ _ 4 _ _ (0, 0) hv0]; rfl
  have y5 : W0.cell? ⟨w.heap.size, 5, none⟩ = some (.int .i32 num) := by rw [cell_of_row _ _ 5 _ _ (0, 0) hv0]; rfl
  have y6 : W0.cell? ⟨w.heap.size, 6, none⟩ = some (.string name) := by rw [cell_of_row _ _ 6 _ _ (0, 0) hv0]; rfl
  have y7 : W0.cell? ⟨w.heap.size, 7, none⟩ = some (.slice A an ac) := by rw [cell_of_row _ _ 7 _ _ (0, 0) hv0]; rfl
  have HB := Lib.hid hB0
  have HZ := Lib.hid ((RowK.of_isRow hz).below hB0)
  have HAL : Hid (x.argL = zs.take an ∧ (zs.take an).length = an) := Lib.hid (by rw [hx]; exact ⟨rfl, hz.take_len⟩)
  obtain ⟨v0, hv0e⟩ : ∃ v0, w.heap.size = v0 := ⟨_, rfl⟩
  rw [hv0e] at y0 y1 y2 y3 y4 y5 y6 y7
  clear hx hz hv0 hB0
  go_enter Try.func34, Try.ntmps34
  by_cases hed : d = -1
  case neg =>
    have hedb : (d == -1) = false := by simp [hed]
    have hedc : (d != -1) = true := by simp [hed]
    go_wp2_with fail
    go_ret
    refine ⟨?_, by first | exact HB.out | (rw [← hv0e]; exact HB.out)⟩
    rw [HX.out]
    simp [mayI, hed]
  subst hed
  go_wp2_with fail
  refine (reg_any _ _ _ _).mono ?_
  rintro e w' ⟨rfl, rfl⟩
  generalize hqa : regB a n false = qa
  cases qa
  · clear y7
    go_wp2_with fail
    go_ret
    refine ⟨?_, by first | exact HB.out | (rw [← hv0e]; exact HB.out)⟩
    rw [HX.out]
    simp [mayI, hqa]
  by_cases heb : b = -1
  case neg =>
    have hebb : (b == -1) = false := by simp [heb]
    have hebc : (b != -1) = true := by simp [heb]
    go_wp2_with fail
    go_ret
    refine ⟨?_, by first | exact HB.out | (rw [← hv0e]; exact HB.out)⟩
    rw [HX.out]
    simp [mayI, hqa, heb]
  have hebb : (b == -1) = true := by simp [heb]
  have hebc : (b != -1) = false := by simp [heb]
  by_cases hen : name.toList = []
  case neg =>
    go_wp2_with fail
    go_ret
    refine ⟨?_, by first | exact HB.out | (rw [← hv0e]; exact HB.out)⟩
    rw [HX.out]
    simp [mayI, hqa, heb, hen]
  by_cases hem : num = 0
  case neg =>
    have hemc : (num != 0) = true := by simp [hem]
    go_wp2_with fail
    go_ret
    refine ⟨?_, by first | exact HB.out | (rw [← hv0e]; exact HB.out)⟩
    rw [HX.out]
    simp [mayI, hqa, heb, hen, hem]
  have hemc : (num != 0) = false := by simp [hem]
  by_cases heo : op = 0
  case neg =>
    have heoc : (op != 0) = true := by simp [heo]
    go_wp2_with fail
    go_ret
    refine ⟨?_, by first | exact HB.out | (rw [← hv0e]; exact HB.out)⟩
    rw [HX.out]
    simp [mayI, hqa, heb, hen, hem, heo]
  have heoc : (op != 0) = false := by simp [heo]
  by_cases hel : an = 0
  case neg =>
    have hel1 : (0 : Int) < (an : Int) := by omega
    have HLF : Hid (mayI x n = false) := Lib.hid (by
      have h1 : ¬ x.argL.length = 0 := by rw [HAL.out.1, HAL.out.2]; exact hel
      have h2 : x.kind = 9 := by rw [HX.out]
      simp [mayI, h1, h2])
    by_cases hel8 : an ≤ 8
    · skip
      go_wp2_with fail
      go_ret
      rw [HLF.out]
      exact ⟨rfl, by first | exact HB.out | (rw [← hv0e]; exact HB.out)⟩
    · skip
      go_wp2_with fail
      go_ret
      rw [HLF.out]
      exact ⟨rfl, by first | exact HB.out | (rw [← hv0e]; exact HB.out)⟩
  subst hel
  have HTR : Hid (mayI x n = true) := Lib.hid (by
    have h1 : x.argL = [] := by rw [HAL.out.1]; exact List.take_zero ..
    have h2 : mayI ⟨9, op, (-1), a, b, num, name, A, 0, ac, zs⟩ n = true := by simp [mayI, MIn.argL, hqa, heb, hen, hem, heo]
    rw [HX.out]; exact h2)
  go_wp2_with fail
  go_loopw [225] (fun i wr => i = .int .i64 0 ∧ wr = W0) (fun i _ => 0)
  case atStart => exact ⟨rfl, rfl⟩
  case round =>
    obtain ⟨rfl, rfl⟩ := hrel
    go_wp2_with fail
    go_ret
    rw [HTR.out]
    exact ⟨rfl, by first | exact HB.out | (rw [← hv0e]; exact HB.out)⟩
end Go.Proofs.Ytcanjkjpdnbcnaa
namespace Go.Proofs.Ytcanjkjpdnbcnaa
open Go.RowKit
set_option linter.unusedVariables false
set_option linter.unusedSimpArgs false
set_option maxRecDepth 100000

theorem mayIns_any (x : MIn) (n : Int) (w : World) (hi : x.In w) (hs : x.name.size ≤ 4000000000) :
    Calls Try.prog 34 #[.agg x.cells.toArray, .int .i64 n] w fun e w' => e = .returned (.bool (mayI x n)) ∧ Below w.heap.size w w' := by
  have hz := hi.args
  clear hi
  obtain ⟨kind, op, d, a, b, num, name, A, an, ac, zs⟩ := x
  by_cases hk : kind < 1 ∨ 9 < kind
  · exact mayIns_0 kind op d a b num name A an ac zs n w _ rfl hk
  · rcases (by omega : kind = 1 ∨ kind = 2 ∨ kind = 3 ∨ kind = 4 ∨ kind = 5 ∨ kind = 6 ∨ kind = 7 ∨ kind = 8 ∨ kind = 9) with rfl | rfl | rfl | rfl | rfl | rfl | rfl | rfl | rfl
    · exact mayIns_1 op d a b num name A an ac zs n w hz hs _ rfl
    · exact mayIns_2 op d a b num name A an ac zs n w hz hs _ rfl
    · exact mayIns_3 op d a b num name A an ac zs n w hz hs _ rfl
    · exact mayIns_4 op d a b num name A an ac zs n w hz hs _ rfl
    · exact mayIns_5 op d a b num name A an ac zs n w hz hs _ rfl
    · exact mayIns_6 op d a b num name A an ac zs n w hz hs _ rfl
    · exact mayIns_7 op d a b num name A an ac zs n w hz hs _ rfl
    · exact mayIns_8 op d a b num name A an ac zs n w hz hs _ rfl
    · exact mayIns_9 op d a b num name A an ac zs n w hz hs _ rfl
end Go.Proofs.Ytcanjkjpdnbcnaa
namespace Go.Proofs.Ytcanjkjpdnbcnaa
open Go.RowKit
set_option linter.unusedVariables false
set_option linter.unusedSimpArgs false
set_option maxRecDepth 100000

def LightI (x : MIn) : Prop := x.name.size ≤ 100 ∧ x.argsn ≤ 20
def LightB (b : MBl) : Prop := b.insn ≤ 100 ∧ ∀ x ∈ b.ins, LightI x
def LightF (f : MFn) : Prop := f.name.size ≤ 100 ∧ f.blocksn ≤ 80 ∧ ∀ b ∈ f.blocks, LightB b
/-- Not greater than is looked at. -/
structure LightP (gs : List MGl) (fs : List MFn) : Prop where
  gn : gs.length ≤ 70
  fn : fs.length ≤ 8
  gl : ∀ g ∈ gs, g.name.size ≤ 100
  fl : ∀ f ∈ fs, LightF f
theorem all_of_lt {α : Type} {P : α → Prop} {l : List α} {n : Nat} (hl : l.length = n) (h : ∀ j o, j < n → l[j]? = some o → P o) : ∀ o ∈ l, P o := fun o ho => by
  obtain ⟨j, hj⟩ := List.getElem?_of_mem ho
  exact h j o (by have := (List.getElem?_eq_some_iff.1 hj).1; omega) hj
theorem lt_succ_of {α : Type} {P : α → Prop} {l : List α} {k : Nat} {o : α} (h : ∀ j p, j < k → l[j]? = some p → P p) (ho : l[k]? = some o) (hp : P o) : ∀ j p, j < k + 1 → l[j]? = some p → P p := fun j p hj hjp => by
  rcases Nat.lt_or_ge j k with q | q
  · exact h j p q hjp
  · obtain rfl : j = k := by omega
    rw [ho] at hjp
    cases hjp
    exact hp
/-- What a function that answers yes or no comes to: if yes, then P. -/
def YesIf (P : Prop) (e : Ending) : Prop := ∃ b, e = .returned (.bool b) ∧ (b = true → P)
theorem YesIf.no {P : Prop} : YesIf P (.returned (.bool false)) := ⟨_, rfl, fun h => by cases h⟩
theorem YesIf.yes {P : Prop} (h : P) : YesIf P (.returned (.bool true)) := ⟨_, rfl, fun _ => h⟩

set_option maxHeartbeats 6400000 in
theorem light_any (w : World) (GA FA : Option Addr) (gn gc fn fc : Nat) (gs : List MGl) (fs : List MFn) (hg : MGls w GA gn gs) (hf : MFns w FA fn fs) (hgn : gn ≤ 9223372036854775807) (hfn : fn ≤ 9223372036854775807) :
    Calls Try.prog 16 #[.agg #[.slice GA gn gc, .slice FA fn fc]] w fun e w' => YesIf (LightP gs fs) e ∧ Below w.heap.size w w' := by
  have HG := Lib.hid hg
  have HF := Lib.hid hf
  obtain ⟨W0, hW0⟩ : ∃ W0, w.alloc (.cells #[.slice GA gn gc, .slice FA fn fc] 25) = W0 := ⟨_, rfl⟩
  have hB0 : Below w.heap.size w W0 := by rw [← hW0]; exact (Below.refl _ w).alloc (Nat.le_refl _) _
  have hv0 : W0.heap[w.heap.size]? = some (.cells #[.slice GA gn gc, .slice FA fn fc] 25 (0, 0)) := by rw [← hW0]; exact heap_alloc_new w _
  have y0 : W0.cell? ⟨w.heap.size, 0, none⟩ = some (.slice GA gn gc) := by rw [cell_of_row _ _ 0 _ _ (0, 0) hv0]; rfl
  have y1 : W0.cell? ⟨w.heap.size, 1, none⟩ = some (.slice FA fn fc) := by rw [cell_of_row _ _ 1 _ _ (0, 0) hv0]; rfl
  have hlt : w.heap.size < W0.heap.size := World.block_lt_of_cell? W0 _ y0
  obtain ⟨v0, hv0e⟩ : ∃ v0, w.heap.size = v0 := ⟨_, rfl⟩
  rw [hv0e] at y0 y1 hlt
  have HY := Lib.hid (And.intro y1 hlt)
  have HB := Lib.hid hB0
  clear hg hf hv0 hB0 hlt
  go_enter Try.func16, Try.ntmps16
  by_cases h8 : (8 : Int) < (fn : Int)
  · go_wp2_with fail
    go_ret
    exact ⟨YesIf.no, by first | exact HB.out | (rw [← hv0e]; exact HB.out)⟩
  by_cases h70 : (70 : Int) < (gn : Int)
  · go_wp2_with fail
    go_ret
    exact ⟨YesIf.no, by first | exact HB.out | (rw [← hv0e]; exact HB.out)⟩
  go_wp2_with fail
  go_loopw [25] (fun i wr => ∃ k : Nat, k ≤ gn ∧ i = .int .i64 k ∧ Hid (∀ j o, j < k → gs[j]? = some o → o.name.size ≤ 100) ∧ Hid (Below w.heap.size w wr ∧ Below W0.heap.size W0 wr)) (fun i _ => gn - (intOf i).toNat)
  case atStart => exact ⟨0, by omega, rfl, Lib.hid (fun j o hj _ => by omega), Lib.hid ⟨HB.out, Below.refl _ _⟩⟩
  case round =>
    obtain ⟨k, hk, rfl, HI, HBB⟩ := hrel
    rcases Nat.lt_or_ge k gn with hkm | hkm
    · obtain ⟨o, ho⟩ : ∃ o, gs[k]? = some o := ⟨_, List.getElem?_eq_getElem (by have := HG.out.1; omega)⟩
      obtain ⟨g, off, rfl, hg, hc⟩ := (HG.out.below HBB.out.1).2.2 (by omega)
      have hcs := hc k o ho
      have d0 := hcs 0 _ rfl
      have d1 := hcs 1 _ rfl
      rw [Nat.add_zero] at d0
      obtain ⟨Wa, hWa⟩ : ∃ Wa, wr.alloc (.cells #[.string o.name, .int .i64 o.size] 63) = Wa := ⟨_, rfl⟩
      have hBa : Below wr.heap.size wr Wa := by rw [← hWa]; exact (Below.refl _ wr).alloc (Nat.le_refl _) _
      have hva : Wa.heap[wr.heap.size]? = some (.cells #[.string o.name, .int .i64 o.size] 63 (0, 0)) := by rw [← hWa]; exact heap_alloc_new wr _
      obtain ⟨va, hvae⟩ : ∃ va, wr.heap.size = va := ⟨_, rfl⟩
      rw [hvae] at hva
      have e0 : Wa.cell? ⟨va, 0, none⟩ = some (.string o.name) := by rw [cell_of_row _ va 0 _ _ (0, 0) hva]; rfl
      have HBC : Hid (Below w.heap.size w Wa ∧ Below W0.heap.size W0 Wa) := Lib.hid ⟨HBB.out.1.trans (hBa.mono HBB.out.1.size), HBB.out.2.trans (hBa.mono HBB.out.2.size)⟩
      have HO := Lib.hid ho
      have hkm' : (k : Int) < (gn : Int) := by omega
      have hk0 : (0 : Int) ≤ (k : Int) := by omega
      clear hg hc hcs ho hBa hva
      by_cases h1 : (100 : Int) < (o.name.size : Int)
      · go_wp2_with fail
        go_ret
        exact ⟨YesIf.no, by first | exact HBC.out.1 | (rw [← hv0e]; exact HBC.out.1)⟩
      have HST := Lib.hid (lt_succ_of (P := fun o : MGl => o.name.size ≤ 100) HI.out HO.out (by omega))
      go_wp2_with fail
      go_roundw
      case rel => exact ⟨k + 1, by omega, by go_num, HST, HBC⟩
      case measure => simp [intOf] <;> omega
    · obtain rfl : k = gn := by omega
      have HGL := Lib.hid (all_of_lt (P := fun o : MGl => o.name.size ≤ 100) HG.out.1 HI.out)
      have z1 : wr.cell? ⟨v0, 1, none⟩ = some (.slice FA fn fc) := (HBB.out.2.cell (p := ⟨v0, 1, none⟩) HY.out.2).trans HY.out.1
      have HB1 := Lib.hid HBB.out.1
      clear HI HBB y0 y1 HY
      go_wp2_with fail
      go_loopw [5, 37] (fun v i wr => ∃ (k a : Nat), k ≤ fn ∧ a ≤ 400 ∧ v = .int .i64 a ∧ i = .int .i64 k ∧ Hid (∀ j o, j < k → fs[j]? = some o → LightF o) ∧ Hid (Below w.heap.size w wr)) (fun _ i _ => fn - (intOf i).toNat)
      case atStart => exact ⟨0, 0, by omega, by omega, rfl, rfl, Lib.hid (fun j o hj _ => by omega), HB1⟩
      case round =>
        clear HB1 z1 HB
        obtain ⟨kf, af, hkf, haf, rfl, rfl, HIF, HBF⟩ := hrel
        rcases Nat.lt_or_ge kf fn with hkmf | hkmf
        · skip
          obtain ⟨f, hf⟩ : ∃ f, fs[kf]? = some f := ⟨_, List.getElem?_eq_getElem (by have := HF.out.1; omega)⟩
          obtain ⟨gf, offf, rfl, hgf, hcf⟩ := (HF.out.below HBF.out).2.2 (by omega)
          have hcsf := hcf kf f hf
          have df0 := hcsf 0 _ rfl
          have df1 := hcsf 1 _ rfl
          have df2 := hcsf 2 _ rfl
          have df3 := hcsf 3 _ rfl
          rw [Nat.add_zero] at df0
          obtain ⟨Wf, hWf⟩ : ∃ Wf, wr.alloc (.cells #[.string f.name, .int .i64 f.params, .int .i64 f.regs, .slice f.blocksA f.blocksn f.blocksc] 47) = Wf := ⟨_, rfl⟩
          have hBf : Below wr.heap.size wr Wf := by rw [← hWf]; exact (Below.refl _ wr).alloc (Nat.le_refl _) _
          have hvf : Wf.heap[wr.heap.size]? = some (.cells #[.string f.name, .int .i64 f.params, .int .i64 f.regs, .slice f.blocksA f.blocksn f.blocksc] 47 (0, 0)) := by rw [← hWf]; exact heap_alloc_new wr _
          obtain ⟨vf, hvef⟩ : ∃ vf, wr.heap.size = vf := ⟨_, rfl⟩
          rw [hvef] at hvf
          have ef0 : Wf.cell? ⟨vf, 0, none⟩ = some (.string f.name) := by rw [cell_of_row _ vf 0 _ _ (0, 0) hvf]; rfl
          have ef3 : Wf.cell? ⟨vf, 3, none⟩ = some (.slice f.blocksA f.blocksn f.blocksc) := by rw [cell_of_row _ vf 3 _ _ (0, 0) hvf]; rfl
          have HBf : Hid (Below w.heap.size w Wf) := Lib.hid (HBF.out.trans (hBf.mono HBF.out.size))
          have HOf := Lib.hid hf
          have hinf := HF.out.2.1 f (List.mem_of_getElem? hf)
          have HINf := Lib.hid hinf
          have hkmf : (kf : Int) < (fn : Int) := by omega
          have hk0f : (0 : Int) ≤ (kf : Int) := by omega
          clear hgf hcf hcsf hf hBf hvf hinf
          by_cases h1 : (100 : Int) < (f.name.size : Int)
          · skip
            go_wp2_with fail
            go_ret
            exact ⟨YesIf.no, by first | exact HBf.out | (rw [← hv0e]; exact HBf.out)⟩
          by_cases h2 : (80 : Int) < (f.blocksn : Int)
          · skip
            go_wp2_with fail
            go_ret
            exact ⟨YesIf.no, by first | exact HBf.out | (rw [← hv0e]; exact HBf.out)⟩
          have HBL : Hid (MBls w f.blocksA f.blocksn f.blocks) := Lib.hid HINf.out.blocks
          clear HINf
          generalize f.blocksA = bA at *
          go_wp2_with fail
          go_loopw [5, 54] (fun v i wr => ∃ (k a : Nat), k ≤ f.blocksn ∧ a ≤ 400 ∧ v = .int .i64 a ∧ i = .int .i64 k ∧ Hid (∀ j o, j < k → f.blocks[j]? = some o → LightB o) ∧ Hid (Below w.heap.size w wr)) (fun _ i _ => f.blocksn - (intOf i).toNat)
          case atStart => exact ⟨0, af, by omega, by omega, rfl, rfl, Lib.hid (fun j o hj _ => by omega), by first | exact HBf | (rw [hWf]; exact HBf)⟩
          case round =>
            obtain ⟨kb, ab, hkb, hab, rfl, rfl, HIB, HBB⟩ := hrel
            rcases Nat.lt_or_ge kb f.blocksn with hkmb | hkmb
            · skip
              obtain ⟨b, hb⟩ : ∃ b, f.blocks[kb]? = some b := ⟨_, List.getElem?_eq_getElem (by have := HBL.out.1; omega)⟩
              obtain ⟨gb, offb, rfl, hgb, hcb⟩ := (HBL.out.below HBB.out).2.2 (by omega)
              have hcsb := hcb kb b hb
              have db0 := hcsb 0 _ rfl
              have db1 := hcsb 1 _ rfl
              have db2 := hcsb 2 _ rfl
              have db3 := hcsb 3 _ rfl
              have db4 := hcsb 4 _ rfl
              rw [Nat.add_zero] at db0
              obtain ⟨Wb, hWb⟩ : ∃ Wb, wr.alloc (.cells #[.slice b.insA b.insn b.insc, .int .i64 b.kind, .int .i64 b.a, .int .i64 b.go, .int .i64 b.els] 41) = Wb := ⟨_, rfl⟩
              have hBb : Below wr.heap.size wr Wb := by rw [← hWb]; exact (Below.refl _ wr).alloc (Nat.le_refl _) _
              have hvb : Wb.heap[wr.heap.size]? = some (.cells #[.slice b.insA b.insn b.insc, .int .i64 b.kind, .int .i64 b.a, .int .i64 b.go, .int .i64 b.els] 41 (0, 0)) := by rw [← hWb]; exact heap_alloc_new wr _
              obtain ⟨vb, hveb⟩ : ∃ vb, wr.heap.size = vb := ⟨_, rfl⟩
              rw [hveb] at hvb
              have eb0 : Wb.cell? ⟨vb, 0, none⟩ = some (.slice b.insA b.insn b.insc) := by rw [cell_of_row _ vb 0 _ _ (0, 0) hvb]; rfl
              have HBb : Hid (Below w.heap.size w Wb) := Lib.hid (HBB.out.trans (hBb.mono HBB.out.size))
              have HOb := Lib.hid hb
              have hinb := HBL.out.2.1 b (List.mem_of_getElem? hb)
              have HINb := Lib.hid hinb
              have hkmb : (kb : Int) < (f.blocksn : Int) := by omega
              have hk0b : (0 : Int) ≤ (kb : Int) := by omega
              clear hgb hcb hcsb hb hBb hvb hinb
              by_cases h3 : (100 : Int) < (b.insn : Int)
              · skip
                go_wp2_with fail
                go_ret
                exact ⟨YesIf.no, by first | exact HBb.out | (rw [← hv0e]; exact HBb.out)⟩
              have hab1 : (ab : Int) ≤ 400 := by omega
              have hab0 : (0 : Int) ≤ (ab : Int) := by omega
              have hin0 : (0 : Int) ≤ (b.insn : Int) := by omega
              generalize hbn : b.insn = bn at *
              by_cases h4 : (400 : Int) < (ab : Int) + (bn : Int)
              · skip
                go_wp2_with fail
                go_ret
                exact ⟨YesIf.no, by first | exact HBb.out | (rw [← hv0e]; exact HBb.out)⟩
              have HIL : Hid (MIns w b.insA bn b.ins) := Lib.hid (hbn ▸ HINb.out.ins)
              clear HINb
              generalize b.insA = iA at *
              go_wp2_with fail
              go_loopw [74] (fun i wr => ∃ k : Nat, k ≤ bn ∧ i = .int .i64 k ∧ Hid (∀ j o, j < k → b.ins[j]? = some o → LightI o) ∧ Hid (Below w.heap.size w wr)) (fun i _ => bn - (intOf i).toNat)
              case atStart => exact ⟨0, by omega, rfl, Lib.hid (fun j o hj _ => by omega), by first | exact HBb | (rw [hWb]; exact HBb)⟩
              case round =>
                obtain ⟨ki, hki, rfl, HII, HBI⟩ := hrel
                rcases Nat.lt_or_ge ki bn with hkmi | hkmi
                · skip
                  obtain ⟨x, hx⟩ : ∃ x, b.ins[ki]? = some x := ⟨_, List.getElem?_eq_getElem (by have := HIL.out.1; omega)⟩
                  obtain ⟨gi, offi, rfl, hgi, hci⟩ := (HIL.out.below HBI.out).2.2 (by omega)
                  have hcsi := hci ki x hx
                  have di0 := hcsi 0 _ rfl
                  have di1 := hcsi 1 _ rfl
                  have di2 := hcsi 2 _ rfl
                  have di3 := hcsi 3 _ rfl
                  have di4 := hcsi 4 _ rfl
                  have di5 := hcsi 5 _ rfl
                  have di6 := hcsi 6 _ rfl
                  have di7 := hcsi 7 _ rfl
                  rw [Nat.add_zero] at di0
                  obtain ⟨Wi, hWi⟩ : ∃ Wi, wr.alloc (.cells #[.int .i64 x.kind, .int .i64 x.op, .int .i64 x.d, .int .i64 x.a, .int .i64 x.b, .int .i32 x.num, .string x.name, .slice x.argsA x.argsn x.argsc] 44) = Wi := ⟨_, rfl⟩
                  have hBi : Below wr.heap.size wr Wi := by rw [← hWi]; exact (Below.refl _ wr).alloc (Nat.le_refl _) _
                  have hvi : Wi.heap[wr.heap.size]? = some (.cells #[.int .i64 x.kind, .int .i64 x.op, .int .i64 x.d, .int .i64 x.a, .int .i64 x.b, .int .i32 x.num, .string x.name, .slice x.argsA x.argsn x.argsc] 44 (0, 0)) := by rw [← hWi]; exact heap_alloc_new wr _
                  obtain ⟨vi, hvei⟩ : ∃ vi, wr.heap.size = vi := ⟨_, rfl⟩
                  rw [hvei] at hvi
                  have ei6 : Wi.cell? ⟨vi, 6, none⟩ = some (.string x.name) := by rw [cell_of_row _ vi 6 _ _ (0, 0) hvi]; rfl
                  have ei7 : Wi.cell? ⟨vi, 7, none⟩ = some (.slice x.argsA x.argsn x.argsc) := by rw [cell_of_row _ vi 7 _ _ (0, 0) hvi]; rfl
                  have HBi : Hid (Below w.heap.size w Wi) := Lib.hid (HBI.out.trans (hBi.mono HBI.out.size))
                  have HOi := Lib.hid hx
                  have hkmi : (ki : Int) < (bn : Int) := by omega
                  have hk0i : (0 : Int) ≤ (ki : Int) := by omega
                  clear hgi hci hcsi hx hBi hvi
                  by_cases h5 : (100 : Int) < (x.name.size : Int)
                  · skip
                    go_wp2_with fail
                    go_ret
                    exact ⟨YesIf.no, by first | exact HBi.out | (rw [← hv0e]; exact HBi.out)⟩
                  by_cases h6 : (20 : Int) < (x.argsn : Int)
                  · skip
                    go_wp2_with fail
                    go_ret
                    exact ⟨YesIf.no, by first | exact HBi.out | (rw [← hv0e]; exact HBi.out)⟩
                  have HST := Lib.hid (lt_succ_of (P := LightI) HII.out HOi.out ⟨by omega, by omega⟩)
                  go_wp2_with fail
                  go_roundw
                  case rel => exact ⟨ki + 1, by omega, by go_num, HST, by first | exact HBi | (rw [hWi]; exact HBi)⟩
                  case measure => simp [intOf] <;> omega
                · obtain rfl : ki = bn := by omega
                  have hlb : LightB b := ⟨by omega, all_of_lt (P := LightI) HIL.out.1 HII.out⟩
                  have HST := Lib.hid (lt_succ_of (P := LightB) HIB.out HOb.out hlb)
                  clear hlb
                  go_wp2_with fail
                  go_roundw
                  case rel => exact ⟨kb + 1, ab + ki, by omega, by omega, by go_num, by go_num, HST, HBI⟩
                  case measure => simp [intOf] <;> omega
            · obtain rfl : kb = f.blocksn := by omega
              have hlf : LightF f := ⟨by omega, by omega, all_of_lt (P := LightB) HBL.out.1 HIB.out⟩
              have HST := Lib.hid (lt_succ_of (P := LightF) HIF.out HOf.out hlf)
              clear hlf
              go_wp2_with fail
              go_roundw
              case rel => exact ⟨kf + 1, ab, by omega, by omega, by first | rfl | go_num, by go_num, HST, HBB⟩
              case measure => simp [intOf] <;> omega
        · obtain rfl : kf = fn := by omega
          have HL : Hid (LightP gs fs) := Lib.hid ⟨by have := HG.out.1; omega, by have := HF.out.1; omega, HGL.out, all_of_lt (P := LightF) HF.out.1 HIF.out⟩
          go_wp2_with fail
          go_ret
          exact ⟨YesIf.yes HL.out, by first | exact HBF.out | (rw [← hv0e]; exact HBF.out)⟩
end Go.Proofs.Ytcanjkjpdnbcnaa
namespace Go.Proofs.Ytcanjkjpdnbcnaa
open Go.RowKit
set_option linter.unusedVariables false
set_option linter.unusedSimpArgs false
set_option maxRecDepth 100000

theorem sameWords_any (w : World) (A B : Option Addr) (n c m e : Nat) (xs ys : List Int) (hA : RowK .i32 w A n xs) (hB : RowK .i32 w B m ys) (hn : n ≤ 1000000) (hm : m ≤ 1000000) :
    Calls Try.prog 14 #[.slice A n c, .slice B m e] w fun e w' => e = .returned (.bool (decide (xs = ys))) ∧ Below w.heap.size w w' := by
  have HA := Lib.hid hA
  have HB := Lib.hid hB
  have hn63 : (n : Int) ≤ 1000000 := by omega
  have hm63 : (m : Int) ≤ 1000000 := by omega
  clear hA hB
  go_enter Try.func14, Try.ntmps14
  by_cases hnm : n = m
  case neg =>
    have h1 : ((n : Int) != (m : Int)) = true := by simp; omega
    have hE : Hid (decide (xs = ys) = false) := Lib.hid (decide_eq_false (fun h => hnm (by rw [← HA.out.1, h, HB.out.1])))
    go_wp2_with fail
    go_ret
    rw [hE.out]
    exact ⟨rfl, Below.refl _ _⟩
  subst hnm
  go_wp2_with fail
  go_loopw [13] (fun i wr => ∃ k : Nat, k ≤ n ∧ i = .int .i64 k ∧ Hid (∀ j, j < k → xs.getD j 0 = ys.getD j 0) ∧ Hid (Below w.heap.size w wr)) (fun i _ => n - (intOf i).toNat)
  case atStart => exact ⟨0, by omega, rfl, Lib.hid (fun j hj => by omega), Lib.hid (Below.refl _ _)⟩
  case round =>
    obtain ⟨k, hk, rfl, HI, HBB⟩ := hrel
    rcases Nat.lt_or_ge k n with hkm | hkm
    · obtain ⟨g, off, rfl, hg, hc⟩ := (HA.out.below HBB.out).2 (by omega)
      obtain ⟨g2, off2, rfl, hg2, hc2⟩ := (HB.out.below HBB.out).2 (by omega)
      have e0 := hc k hkm
      have e1 := hc2 k hkm
      clear hg hc hg2 hc2
      obtain ⟨x, hx⟩ : ∃ x, xs.getD k 0 = x := ⟨_, rfl⟩
      obtain ⟨y, hy⟩ : ∃ y, ys.getD k 0 = y := ⟨_, rfl⟩
      rw [hx] at e0
      rw [hy] at e1
      have HX := Lib.hid hx
      have HY := Lib.hid hy
      clear hx hy
      have HBD : Hid (Below w.heap.size w wr.drew) := Lib.hid HBB.out.drew
      have hkm' : (k : Int) < (n : Int) := by omega
      have hk0 : (0 : Int) ≤ (k : Int) := by omega
      by_cases hxy : x = y
      · subst hxy
        have HST : Hid (∀ j, j < k + 1 → xs.getD j 0 = ys.getD j 0) := Lib.hid (fun j hj => by
          rcases Nat.lt_or_ge j k with q | q
          · exact HI.out j q
          · obtain rfl : j = k := by omega
            rw [HX.out, HY.out])
        go_wp2_with fail
        go_region
        go_wp2_with fail
        go_roundw
        case rel => exact ⟨k + 1, by omega, by go_num, HST, HBD⟩
        case measure => simp [intOf] <;> omega
      · have hxyb : (x != y) = true := by simp [hxy]
        have hE : Hid (decide (xs = ys) = false) := Lib.hid (decide_eq_false (fun h => hxy (by rw [← HX.out, ← HY.out, h])))
        go_wp2_with fail
        go_region
        go_wp2_with fail
        go_ret
        rw [hE.out]
        exact ⟨rfl, HBD.out⟩
    · obtain rfl : k = n := by omega
      have hE : Hid (decide (xs = ys) = true) := Lib.hid (decide_eq_true (List.ext_getElem (by rw [HA.out.1, HB.out.1]) (fun j h1 h2 => by
        have := HI.out j (by rw [HA.out.1] at h1; exact h1)
        rw [List.getD_eq_getElem?_getD, List.getD_eq_getElem?_getD, List.getElem?_eq_getElem h1, List.getElem?_eq_getElem h2] at this
        exact this)))
      go_wp2_with fail
      go_ret
      rw [hE.out]
      exact ⟨rfl, HBB.out⟩
end Go.Proofs.Ytcanjkjpdnbcnaa
namespace Go.Proofs.Ytcanjkjpdnbcnaa
open Go.RowKit
set_option linter.unusedVariables false
set_option linter.unusedSimpArgs false
set_option maxRecDepth 100000

theorem cut12_any (w : World) (A : Option Addr) (n c : Nat) (f : Int) (hA : A = none → c = 0) (hn : n ≤ c) (hc : c ≤ 9223372036854775807) :
    Calls Try.prog 9 #[.slice A n c, .int .i64 f] w fun e w' => e = .returned (.tuple #[.slice A (min n 30) c, .int .i64 (max 0 (min f 400))]) ∧ Below w.heap.size w w' := by
  have hc63 : (c : Int) ≤ 9223372036854775807 := by omega
  have hn63 : (n : Int) ≤ (c : Int) := by omega
  obtain ⟨m, hm⟩ : ∃ m, min n 30 = m := ⟨_, rfl⟩
  obtain ⟨q, hq⟩ : ∃ q, max 0 (min f 400) = q := ⟨_, rfl⟩
  have h1 : min (n : Int) 30 = (m : Int) := by omega
  have h2 : (m : Int) ≤ (c : Int) := by omega
  have h0 : (0 : Int) ≤ (m : Int) := by omega
  rw [hm, hq]
  cases A with
  | none =>
    obtain rfl := hA rfl
    obtain rfl : n = 0 := by omega
    obtain rfl : m = 0 := by omega
    go_enter Try.func9, Try.ntmps9
    go_wp2_with fail
    go_ret2
    exact ⟨rfl, Below.refl _ _⟩
  | some a =>
    go_enter Try.func9, Try.ntmps9
    go_wp2_with fail
    go_ret2
    exact ⟨rfl, Below.refl _ _⟩

/-- How a run ended, and where its trace lies. -/
structure Rs where
  fin : Int
  value : Int
  tA : Option Addr
  tn : Nat
  tc : Nat
  tr : List Int
  steps : Int
  reads : Int
def Rs.val (r : Rs) : Value := .agg #[.int .i64 r.fin, .int .i32 r.value, .slice r.tA r.tn r.tc, .int .i64 r.steps, .int .i64 r.reads]
structure Rs.In (w : World) (r : Rs) : Prop where
  tr : RowK .i32 w r.tA r.tn r.tr
  small : r.tn ≤ 1000000
end Go.Proofs.Ytcanjkjpdnbcnaa
namespace Go.Proofs.Ytcanjkjpdnbcnaa
open Go.RowKit
set_option linter.unusedVariables false
set_option linter.unusedSimpArgs false
set_option maxRecDepth 100000

/-- The same end, value, words and trace. -/
def sameR (a b : Rs) : Bool := decide (a.fin = b.fin) && decide (a.value = b.value) && decide (a.reads = b.reads) && decide (a.tr = b.tr)
set_option maxHeartbeats 3200000 in
theorem sameR_any (w : World) (a b : Rs) (ha : a.In w) (hb : b.In w) :
    Calls Try.prog 12 #[a.val, b.val] w fun e w' => e = .returned (.bool (sameR a b)) ∧ Below w.heap.size w w' := by
  obtain ⟨f1, v1, A1, n1, c1, t1, s1, r1⟩ := a
  obtain ⟨f2, v2, A2, n2, c2, t2, s2, r2⟩ := b
  unfold Rs.val
  obtain ⟨W1, hW1⟩ : ∃ W1, w.alloc (.cells #[.int .i64 f1, .int .i32 v1, .slice A1 n1 c1, .int .i64 s1, .int .i64 r1] 32) = W1 := ⟨_, rfl⟩
  obtain ⟨W2, hW2⟩ : ∃ W2, W1.alloc (.cells #[.int .i64 f2, .int .i32 v2, .slice A2 n2 c2, .int .i64 s2, .int .i64 r2] 32) = W2 := ⟨_, rfl⟩
  have hB1 : Below w.heap.size w W1 := by rw [← hW1]; exact (Below.refl _ w).alloc (Nat.le_refl _) _
  have hB2 : Below W1.heap.size W1 W2 := by rw [← hW2]; exact (Below.refl _ W1).alloc (Nat.le_refl _) _
  have hz : W1.heap.size = w.heap.size + 1 := by rw [← hW1]; simp
  have hx1 : W1.heap[w.heap.size]? = some (.cells #[.int .i64 f1, .int .i32 v1, .slice A1 n1 c1, .int .i64 s1, .int .i64 r1] 32 (0, 0)) := by rw [← hW1]; exact heap_alloc_new w _
  have hx2 : W2.heap[w.heap.size + 1]? = some (.cells #[.int .i64 f2, .int .i32 v2, .slice A2 n2 c2, .int .i64 s2, .int .i64 r2] 32 (0, 0)) := by rw [← hz, ← hW2]; exact heap_alloc_new W1 _
  have hx3 : W2.heap[w.heap.size]? = some (.cells #[.int .i64 f1, .int .i32 v1, .slice A1 n1 c1, .int .i64 s1, .int .i64 r1] 32 (0, 0)) := (hB2.block _ (by omega)).trans hx1
  have y0 : W2.cell? ⟨w.heap.size, 0, none⟩ = some (.int .i64 f1) := by rw [cell_of_row _ _ 0 _ _ (0, 0) hx3]; rfl
  have y1 : W2.cell? ⟨w.heap.size, 1, none⟩ = some (.int .i32 v1) := by rw [cell_of_row _ _ 1 _ _ (0, 0) hx3]; rfl
  have y2 : W2.cell? ⟨w.heap.size, 2, none⟩ = some (.slice A1 n1 c1) := by rw [cell_of_row _ _ 2 _ _ (0, 0) hx3]; rfl
  have y4 : W2.cell? ⟨w.heap.size, 4, none⟩ = some (.int .i64 r1) := by rw [cell_of_row _ _ 4 _ _ (0, 0) hx3]; rfl
  have z0 : W2.cell? ⟨w.heap.size + 1, 0, none⟩ = some (.int .i64 f2) := by rw [cell_of_row _ _ 0 _ _ (0, 0) hx2]; rfl
  have z1 : W2.cell? ⟨w.heap.size + 1, 1, none⟩ = some (.int .i32 v2) := by rw [cell_of_row _ _ 1 _ _ (0, 0) hx2]; rfl
  have z2 : W2.cell? ⟨w.heap.size + 1, 2, none⟩ = some (.slice A2 n2 c2) := by rw [cell_of_row _ _ 2 _ _ (0, 0) hx2]; rfl
  have z4 : W2.cell? ⟨w.heap.size + 1, 4, none⟩ = some (.int .i64 r2) := by rw [cell_of_row _ _ 4 _ _ (0, 0) hx2]; rfl
  have HB : Hid (Below w.heap.size w W2) := Lib.hid (hB1.trans (hB2.mono (by omega)))
  have HT := Lib.hid (And.intro (And.intro (ha.tr.below HB.out) ha.small) (And.intro (hb.tr.below HB.out) hb.small))
  obtain ⟨p, hp⟩ : ∃ p, w.heap.size = p := ⟨_, rfl⟩
  obtain ⟨p1, hp1⟩ : ∃ p1, W1.heap.size = p1 := ⟨_, rfl⟩
  have hp2 : p + 1 = p1 := by omega
  rw [hp] at y0 y1 y2 y4
  rw [hp, hp2] at z0 z1 z2 z4
  clear ha hb hB1 hB2 hz hx1 hx2 hx3 hp2
  go_enter Try.func12, Try.ntmps12
  by_cases hf1 : f1 = f2
  case neg =>
    have hf1b : (f1 == f2) = false := by simp [hf1]
    go_wp2_with fail
    go_ret
    refine ⟨?_, by first | exact HB.out | (rw [← hp]; exact HB.out)⟩
    simp [sameR, hf1]
  subst hf1
  by_cases hv1 : v1 = v2
  case neg =>
    have hv1b : (v1 == v2) = false := by simp [hv1]
    go_wp2_with fail
    go_ret
    refine ⟨?_, by first | exact HB.out | (rw [← hp]; exact HB.out)⟩
    simp [sameR, hv1]
  subst hv1
  by_cases hr1 : r1 = r2
  case neg =>
    have hr1b : (r1 == r2) = false := by simp [hr1]
    go_wp2_with fail
    go_ret
    refine ⟨?_, by first | exact HB.out | (rw [← hp]; exact HB.out)⟩
    simp [sameR, hr1]
  subst hr1
  go_wp2_with fail
  refine (sameWords_any _ _ _ _ _ _ _ _ _ HT.out.1.1 HT.out.2.1 HT.out.1.2 HT.out.2.2).mono ?_
  rintro e w3 ⟨rfl, hb3⟩
  have HB3 : Hid (Below w.heap.size w w3) := Lib.hid (HB.out.trans (hb3.mono HB.out.size))
  clear hb3
  generalize hq : decide (t1 = t2) = q
  have hE : Hid (sameR ⟨f1, v1, A1, n1, c1, t1, s1, r1⟩ ⟨f1, v1, A2, n2, c2, t2, s2, r1⟩ = q) := Lib.hid (by simp [sameR, hq])
  cases q <;>
  · go_wp2_with fail
    go_ret
    rw [hE.out]
    exact ⟨rfl, by first | exact HB3.out | (rw [← hp]; exact HB3.out)⟩
end Go.Proofs.Ytcanjkjpdnbcnaa
namespace Go.Proofs.Ytcanjkjpdnbcnaa
open Go.RowKit
set_option linter.unusedVariables false
set_option linter.unusedSimpArgs false
set_option maxRecDepth 100000

def cellsN (zs : List Int) : List Value := zs.map fun z => .int .i32 z
theorem info_i32 : (Try.prog.info? 21).map (fun i => (i.zero, i.size, i.bytes)) = some (some (.int .i32 0), 1, 4) := by kernel_rfl
theorem make_words (n c : Nat) (hnc : n ≤ c) (hc : c ≤ 100000) (W : World) :
    (Instr.makeSlice 26 (.int .i64 (n : Int)) (.int .i64 (c : Int))).run Try.prog W = .ok (.slice (some ⟨W.heap.size, 0, none⟩) n c) (W.alloc (.cells (cellsN (List.replicate c 0)).toArray 21)) := by
  obtain ⟨i0, hi, hz0, hz1, hz2⟩ := info_parts info_i32
  have h := run_make (P := Try.prog) W 26 21 i0 (.int .i32 0) Try.underlying26 hi hz0 .i64 .i64 n c (by omega) (by omega) (by rw [hz2]; omega) (by omega)
  rw [h]
  congr 3
  rw [hz1, Int.toNat_natCast, Nat.mul_one]
  apply Array.toList_inj.1
  show (madeCells #[.int .i32 0] c).toList = _
  rw [toList_madeCells_one]
  simp [cellsN]
theorem zeros_any (n m : Nat) (h : n ≤ m) (hm : m ≤ 100000) (w : World) :
    Calls Try.prog 26 #[.int .i64 (n : Int), .int .i64 (m : Int)] w fun e w' => e = .returned (.slice (some ⟨w.heap.size, 0, none⟩) n n) ∧ w' = w.alloc (.cells (cellsN (List.replicate n 0)).toArray 21) := by
  have hmk := make_words n n (Nat.le_refl _) (by omega) w
  have h1 : ¬ (m : Int) < (n : Int) := by omega
  go_enter Try.func26, Try.ntmps26
  go_wp2_with fail
  go_ret
  exact ⟨rfl, rfl⟩
end Go.Proofs.Ytcanjkjpdnbcnaa
namespace Go.Proofs.Ytcanjkjpdnbcnaa
open Go.RowKit
set_option linter.unusedVariables false
set_option linter.unusedSimpArgs false
set_option maxRecDepth 100000

/-- How a run ends: the runner's panic. -/
def Ends (k : Int) (e : Ending) : Prop := e = .panicked [{ v := .iface 55 (.int .i64 k), recovered := false }]
theorem divided_yes (n : Int) (w : World) : Calls Try.prog 38 #[.int .i32 n, .bool true] w fun e w' => e = .returned (.int .i32 n) ∧ w = w' := by
  go_enter Try.func38, Try.ntmps38
  go_wp2_with fail
  go_ret
  exact ⟨rfl, rfl⟩
theorem divided_no (n : Int) (w : World) : Calls Try.prog 38 #[.int .i32 n, .bool false] w fun e w' => Ends 2 e ∧ w = w' := by
  go_enter Try.func38, Try.ntmps38
  go_wp2_with fail
  exact ⟨rfl, rfl, rfl⟩
end Go.Proofs.Ytcanjkjpdnbcnaa
namespace Go.Proofs.Ytcanjkjpdnbcnaa
open Go.RowKit
set_option linter.unusedVariables false
set_option linter.unusedSimpArgs false
set_option maxRecDepth 100000

/-- What a runner's block holds. -/
structure Rn where
  fns : Option Nat
  words : Option Nat
  iA : Option Addr
  inn : Nat
  ic : Nat
  fuel : Int
  kA : Option Addr
  kn : Nat
  kc : Nat
  fin : Int
  value : Int
  tA : Option Addr
  tn : Nat
  tc : Nat
  steps : Int
  reads : Nat
def Rn.cells (r : Rn) : Array Value := #[.map r.fns, .map r.words, .slice r.iA r.inn r.ic, .int .i64 r.fuel, .slice r.kA r.kn r.kc, .int .i64 r.fin, .int .i32 r.value, .slice r.tA r.tn r.tc, .int .i64 r.steps, .int .i64 (r.reads : Int)]
def RnAt (w : World) (p : Nat) (r : Rn) : Prop := w.heap[p]? = some (.cells r.cells 54 (0, 0))
theorem RnAt.set {w : World} {p : Nat} {r : Rn} (h : RnAt w p r) (i : Nat) (v : Value) (r' : Rn) (hr : r.cells.setIfInBounds i v = r'.cells) : RnAt (w.setCell ⟨p, i, none⟩ v) p r' := by
  unfold RnAt
  rw [heap_setCell_same w p i _ _ v h, hr]
theorem read_end (w : World) (p : Nat) (r : Rn) (h : RnAt w p r) (he : r.reads = r.inn) :
    Calls Try.prog 43 #[.pointer (some ⟨p, 0, none⟩)] w fun e w' => e = .returned (.int .i32 0) ∧ w = w' := by
  unfold RnAt at h
  have y2 : w.cell? ⟨p, 2, none⟩ = some (.slice r.iA r.inn r.ic) := by rw [cell_of_row _ _ 2 _ _ (0, 0) h]; rfl
  have y9 : w.cell? ⟨p, 9, none⟩ = some (.int .i64 (r.inn : Int)) := by rw [cell_of_row _ _ 9 _ _ (0, 0) h, ← he]; rfl
  clear h he
  go_enter Try.func43, Try.ntmps43
  go_wp2_with fail
  go_ret
  exact ⟨rfl, rfl⟩
theorem read_next (w : World) (p : Nat) (r : Rn) (h : RnAt w p r) (xs : List Int) (hI : RowK .i32 w r.iA r.inn xs) (hlt : r.reads < r.inn) (hn : r.inn ≤ 100000) (hA : ∀ b off, r.iA = some ⟨b, off, none⟩ → b ≠ p) :
    Calls Try.prog 43 #[.pointer (some ⟨p, 0, none⟩)] w fun e w' => e = .returned (.int .i32 (xs.getD r.reads 0)) ∧ w' = w.setCell ⟨p, 9, none⟩ (.int .i64 ((r.reads : Int) + 1)) := by
  unfold RnAt at h
  obtain ⟨b, off, hb, hlb, hc⟩ := hI.2 (by omega)
  have hne := hA b off hb
  have e0 := hc r.reads hlt
  have y2 : w.cell? ⟨p, 2, none⟩ = some (.slice (some ⟨b, off, none⟩) r.inn r.ic) := by rw [cell_of_row _ _ 2 _ _ (0, 0) h, ← hb]; rfl
  have y9 : w.cell? ⟨p, 9, none⟩ = some (.int .i64 (r.reads : Int)) := by rw [cell_of_row _ _ 9 _ _ (0, 0) h]; rfl
  have f9 : w.frozen? ⟨p, 9, none⟩ = false := by simp [World.frozen?, h]
  obtain ⟨W1, hW1⟩ : ∃ W1, w.setCell ⟨p, 9, none⟩ (.int .i64 ((r.reads : Int) + 1)) = W1 := ⟨_, rfl⟩
  have z2 : W1.cell? ⟨p, 2, none⟩ = some (.slice (some ⟨b, off, none⟩) r.inn r.ic) := by
    have h2 : W1.heap[p]? = some (.cells (r.cells.setIfInBounds 9 (.int .i64 ((r.reads : Int) + 1))) 54 (0, 0)) := by rw [← hW1]; exact heap_setCell_same w p 9 _ _ _ h
    rw [cell_of_row _ _ 2 _ _ (0, 0) h2, ← hb]; rfl
  have e1 : W1.cell? ⟨b, off + r.reads, none⟩ = some (.int .i32 (xs.getD r.reads 0)) := by
    have hcg : Chg [p] w W1 := by rw [← hW1]; exact (Chg.refl _ w).setCell p 9 _ (.inl (List.mem_cons_self ..))
    have hs := hcg.same b hlb (by rw [List.mem_singleton]; exact hne)
    rw [← e0]
    unfold World.cell?
    rw [hs]
  clear hI hc e0 h hA hb
  generalize r.reads = k at *
  generalize r.inn = n at *
  generalize xs.getD k 0 = z at *
  have hk0 : (0 : Int) ≤ (k : Int) := by omega
  have hkn : (k : Int) < (n : Int) := by omega
  have hkb : ((k : Int) == (n : Int)) = false := by simp; omega
  have hn2 : (n : Int) ≤ 100000 := by omega
  rw [hW1]
  go_enter Try.func43, Try.ntmps43
  go_wp2_with fail
  go_ret
  exact ⟨rfl, rfl⟩
end Go.Proofs.Ytcanjkjpdnbcnaa
namespace Go.Proofs.Ytcanjkjpdnbcnaa
open Go.RowKit
set_option linter.unusedVariables false
set_option linter.unusedSimpArgs false
set_option maxRecDepth 100000

/-- What a call's block holds. -/
structure Cl where
  fn : Option Addr
  rA : Option Addr
  rn : Nat
  rc : Nat
  block : Int
  done : Int
  d : Int
def Cl.cells (c : Cl) : Array Value := #[.pointer c.fn, .slice c.rA c.rn c.rc, .int .i64 c.block, .int .i64 c.done, .int .i64 c.d]
def ClAt (w : World) (p : Nat) (c : Cl) : Prop := w.heap[p]? = some (.cells c.cells 72 (0, 0))
theorem ClAt.set {w : World} {p : Nat} {c : Cl} (h : ClAt w p c) (i : Nat) (v : Value) (c' : Cl) (hr : c.cells.setIfInBounds i v = c'.cells) : ClAt (w.setCell ⟨p, i, none⟩ v) p c' := by
  unfold ClAt
  rw [heap_setCell_same w p i _ _ v h, hr]
theorem goOn_any (w : World) (p : Nat) (c : Cl) (h : ClAt w p c) (b : Int) :
    Calls Try.prog 36 #[.pointer (some ⟨p, 0, none⟩), .int .i64 b] w fun e w' => e = .returned (.tuple #[]) ∧ ClAt w' p { c with block := b, done := 0 } ∧ Chg [p] w w' := by
  have hA : ClAt ((w.setCell ⟨p, 2, none⟩ (.int .i64 b)).setCell ⟨p, 3, none⟩ (.int .i64 0)) p { c with block := b, done := 0 } := (h.set 2 (.int .i64 b) { c with block := b } rfl).set 3 (.int .i64 0) { c with block := b, done := 0 } rfl
  have hC : Chg [p] w ((w.setCell ⟨p, 2, none⟩ (.int .i64 b)).setCell ⟨p, 3, none⟩ (.int .i64 0)) := ((Chg.refl _ w).setCell p 2 _ (.inl (List.mem_cons_self ..))).setCell p 3 _ (.inl (List.mem_cons_self ..))
  have HA := Lib.hid (And.intro hA hC)
  have h1 := h.set 2 (.int .i64 b) { c with block := b } rfl
  unfold ClAt at h h1
  have f2 : w.frozen? ⟨p, 2, none⟩ = false := by simp [World.frozen?, h]
  have y2 : w.cell? ⟨p, 2, none⟩ = some (.int .i64 c.block) := by rw [cell_of_row _ _ 2 _ _ (0, 0) h]; rfl
  have f3 : (w.setCell ⟨p, 2, none⟩ (.int .i64 b)).frozen? ⟨p, 3, none⟩ = false := by simp [World.frozen?, h1]
  have y3 : (w.setCell ⟨p, 2, none⟩ (.int .i64 b)).cell? ⟨p, 3, none⟩ = some (.int .i64 c.done) := by rw [cell_of_row _ _ 3 _ _ (0, 0) h1]; rfl
  clear h h1 hA hC
  go_enter Try.func36, Try.ntmps36
  go_wp2_with fail
  exact bodyPost_end (results_none rfl _ _ _) rfl ⟨rfl, HA.out.1, HA.out.2⟩
end Go.Proofs.Ytcanjkjpdnbcnaa
namespace Go.Proofs.Ytcanjkjpdnbcnaa
open Go.RowKit
set_option linter.unusedVariables false
set_option linter.unusedSimpArgs false
set_option maxRecDepth 100000

/-- A call that goes on: its function, registers, block, how many instructions were begun, the register that is to have what it returns. -/
structure PC where
  f : MFn
  regs : List Int
  block : Int
  done : Nat
  d : Int
/-- What a run has come to; the innermost call first. -/
structure PS where
  words : ByteArray → List Int
  calls : List PC
  tr : List Int
  steps : Nat
  reads : Nat
/-- It goes on, or it ends. -/
inductive PO where
  | go (s : PS)
  | fin (k v : Int) (s : PS)
def PC.get (c : PC) (r : Int) : Int := c.regs.getD r.toNat 0
def PC.set (c : PC) (r v : Int) : PC := { c with regs := c.regs.set r.toNat v }
def PC.idx (c : PC) (x : MIn) : Int := if 0 ≤ x.a then c.get x.a else 0
def PS.top (s : PS) (c : PC) (cs : List PC) : PS := { s with calls := c :: cs }
/-- What the operators of one word answer. -/
def unV (op a : Int) : Int := if op = 19 then wrap32 (-a) else if op = 20 then truthI (a == 0) else bits .xor .i32 (-1) a
def setWd (f : ByteArray → List Int) (x : ByteArray) (l : List Int) : ByteArray → List Int := fun y => if y.data.toList = x.data.toList then l else f y
/-- A call is begun. -/
def enterP (F : ByteArray → Option MFn) (s : PS) (x : ByteArray) (d : Int) (args : List Int) : PO :=
  if s.calls.length = 32 then .fin 4 0 s else
  match F x with
  | none => .fin 0 0 s
  | some f => .go { s with calls := ⟨f, args ++ List.replicate (f.regs.toNat - args.length) 0, 0, 0, d⟩ :: s.calls }
/-- An instruction of the innermost call c, which is among s's calls. -/
def insP (F : ByteArray → Option MFn) (inp : List Int) (s : PS) (c : PC) (cs : List PC) (x : MIn) : PO :=
  if x.kind = 1 then .go (s.top (c.set x.d x.num) cs)
  else if x.kind = 2 then .go (s.top (c.set x.d (c.get x.a)) cs)
  else if x.kind = 3 then .go (s.top (c.set x.d (unV x.op (c.get x.a))) cs)
  else if x.kind = 4 then (if (WordBins.binV x.op (c.get x.a) (c.get x.b)).2 = true then .go (s.top (c.set x.d (WordBins.binV x.op (c.get x.a) (c.get x.b)).1) cs) else .fin 2 0 s)
  else if x.kind = 5 then (if c.idx x < 0 ∨ ((s.words x.name).length : Int) ≤ c.idx x then .fin 3 0 s else .go (s.top (c.set x.d ((s.words x.name).getD (c.idx x).toNat 0)) cs))
  else if x.kind = 6 then (if c.idx x < 0 ∨ ((s.words x.name).length : Int) ≤ c.idx x then .fin 3 0 s else .go { s with words := setWd s.words x.name ((s.words x.name).set (c.idx x).toNat (c.get x.b)) })
  else if x.kind = 7 then enterP F s x.name x.d (x.argL.map c.get)
  else if x.kind = 8 then (if s.reads < inp.length then .go { s.top (c.set x.d (inp.getD s.reads 0)) cs with reads := s.reads + 1 } else .go (s.top (c.set x.d 0) cs))
  else .go { s with tr := s.tr ++ [c.get x.a] }
/-- The innermost call c returns v. -/
def leaveP (s : PS) (c : PC) (cs : List PC) (v : Int) : PO :=
  match cs with
  | [] => .fin 1 v { s with calls := [] }
  | c2 :: cs2 => if 0 ≤ c.d then .go (s.top (c2.set c.d v) cs2) else .go { s with calls := c2 :: cs2 }
/-- The end of the block of the innermost call c. -/
def endP (s : PS) (c : PC) (cs : List PC) (b : MBl) : PO :=
  if b.kind = 1 then .go (s.top { c with block := b.go, done := 0 } cs)
  else if b.kind = 2 then (if c.get b.a ≠ 0 then .go (s.top { c with block := b.go, done := 0 } cs) else .go (s.top { c with block := b.els, done := 0 } cs))
  else leaveP s c cs (c.get b.a)
/-- A step, whatever steps there are left. -/
def stepP (F : ByteArray → Option MFn) (inp : List Int) (s : PS) : PO :=
  match s.calls with
  | [] => .fin 0 0 s
  | c :: cs =>
    let s1 : PS := { s with steps := s.steps + 1 }
    match c.f.blocks[c.block.toNat]? with
    | none => .fin 0 0 s
    | some b =>
      match b.ins[c.done]? with
      | none => endP s1 c cs b
      | some x => insP F inp (s1.top { c with done := c.done + 1 } cs) { c with done := c.done + 1 } cs x
/-- So many steps. -/
def runP (F : ByteArray → Option MFn) (inp : List Int) : Nat → PS → PO
  | 0, s => .go s
  | n + 1, s =>
    match stepP F inp s with
    | .go s' => runP F inp n s'
    | .fin k v s' => .fin k v s'
/-- What is told of a run: how it ended, the value, the trace, steps, words that were read. -/
structure PR where
  fin : Int
  value : Int
  tr : List Int
  steps : Nat
  reads : Nat
def PO.res : PO → PR
  | .go s => ⟨5, 0, s.tr, s.steps, s.reads⟩
  | .fin k v s => ⟨k, v, s.tr, s.steps, s.reads⟩
/-- The run of a program: main is called. -/
def mainP (F : ByteArray → Option MFn) (W : ByteArray → List Int) (main : ByteArray) : PS :=
  match F main with
  | none => ⟨W, [], [], 0, 0⟩
  | some f => ⟨W, [⟨f, List.replicate f.regs.toNat 0, 0, 0, -1⟩], [], 0, 0⟩
theorem runP_more (F : ByteArray → Option MFn) (inp : List Int) : ∀ (n m : Nat) (s : PS), runP F inp (n + m) s = match runP F inp n s with | .go s' => runP F inp m s' | .fin k v s' => .fin k v s'
  | 0, m, s => by rw [Nat.zero_add]; rfl
  | n + 1, m, s => by
    rw [Nat.add_right_comm]
    have e : ∀ k, runP F inp (k + 1) s = match stepP F inp s with | .go s' => runP F inp k s' | .fin k v s' => .fin k v s' := fun k => rfl
    rw [e, e]
    cases hs : stepP F inp s with
    | go s' => exact (runP_more F inp n m s')
    | fin k v s' => rfl
end Go.Proofs.Ytcanjkjpdnbcnaa
