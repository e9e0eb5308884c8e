/-
  Results of layer 18: the same words, the law's cut, the same results.
  An instruction, in two parts; words of 32 bits.
  The document's machine in memory; which word an address is.
  What the document's machine does with an instruction.
-/
import Derived.Test.YtmedhibjkbahpaaZaq
import Derived.OpenShut
import Derived.Test.YtmedhibjkbahpaaZaj
import Derived.Test.YtmedhibjkbahpaaZaa
namespace Go.Proofs.Ytmedhibjkbahpaa
open Go.RowKit
set_option linter.unusedVariables false
set_option linter.unusedSimpArgs false
set_option maxRecDepth 100000
namespace Rv

theorem sameWords_any (w : World) (A B : Option Addr) (n c m e : Nat) (xs ys : List Int) (hA : RowK .i32 w A n xs) (hB : RowK .i32 w B m ys) (hn : n ≤ 1000000) (hm : m ≤ 1000000) :
    Calls Try.prog 45 #[.slice A n c, .slice B m e] w fun e w' => e = .returned (.bool (decide (xs = ys))) ∧ Below w.heap.size w w' := by
  have HA := Lib.hid hA
  have HB := Lib.hid hB
  have hn63 : (n : Int) ≤ 1000000 := by omega
  have hm63 : (m : Int) ≤ 1000000 := by omega
  clear hA hB
  go_enter Try.func45, Try.ntmps45
  by_cases hnm : n = m
  case neg =>
    have h1 : ((n : Int) != (m : Int)) = true := by simp; omega
    have hE : Hid (decide (xs = ys) = false) := Lib.hid (decide_eq_false (fun h => hnm (by rw [← HA.out.1, h, HB.out.1])))
    go_wp2_with fail
    go_ret
    rw [hE.out]
    exact ⟨rfl, Below.refl _ _⟩
  subst hnm
  go_wp2_with fail
  go_loopw [13] (fun i wr => ∃ k : Nat, k ≤ n ∧ i = .int .i64 k ∧ Hid (∀ j, j < k → xs.getD j 0 = ys.getD j 0) ∧ Hid (Below w.heap.size w wr)) (fun i _ => n - (intOf i).toNat)
  case atStart => exact ⟨0, by omega, rfl, Lib.hid (fun j hj => by omega), Lib.hid (Below.refl _ _)⟩
  case round =>
    obtain ⟨k, hk, rfl, HI, HBB⟩ := hrel
    rcases Nat.lt_or_ge k n with hkm | hkm
    · obtain ⟨g, off, rfl, hg, hc⟩ := (HA.out.below HBB.out).2 (by omega)
      obtain ⟨g2, off2, rfl, hg2, hc2⟩ := (HB.out.below HBB.out).2 (by omega)
      have e0 := hc k hkm
      have e1 := hc2 k hkm
      clear hg hc hg2 hc2
      obtain ⟨x, hx⟩ : ∃ x, xs.getD k 0 = x := ⟨_, rfl⟩
      obtain ⟨y, hy⟩ : ∃ y, ys.getD k 0 = y := ⟨_, rfl⟩
      rw [hx] at e0
      rw [hy] at e1
      have HX := Lib.hid hx
      have HY := Lib.hid hy
      clear hx hy
      have HBD : Hid (Below w.heap.size w wr.drew) := Lib.hid HBB.out.drew
      have hkm' : (k : Int) < (n : Int) := by omega
      have hk0 : (0 : Int) ≤ (k : Int) := by omega
      by_cases hxy : x = y
      · subst hxy
        have HST : Hid (∀ j, j < k + 1 → xs.getD j 0 = ys.getD j 0) := Lib.hid (fun j hj => by
          rcases Nat.lt_or_ge j k with q | q
          · exact HI.out j q
          · obtain rfl : j = k := by omega
            rw [HX.out, HY.out])
        go_wp2_with fail
        go_region
        go_wp2_with fail
        go_roundw
        case rel => exact ⟨k + 1, by omega, by go_num, HST, HBD⟩
        case measure => simp [intOf] <;> omega
      · have hxyb : (x != y) = true := by simp [hxy]
        have hE : Hid (decide (xs = ys) = false) := Lib.hid (decide_eq_false (fun h => hxy (by rw [← HX.out, ← HY.out, h])))
        go_wp2_with fail
        go_region
        go_wp2_with fail
        go_ret
        rw [hE.out]
        exact ⟨rfl, HBD.out⟩
    · obtain rfl : k = n := by omega
      have hE : Hid (decide (xs = ys) = true) := Lib.hid (decide_eq_true (List.ext_getElem (by rw [HA.out.1, HB.out.1]) (fun j h1 h2 => by
        have := HI.out j (by rw [HA.out.1] at h1; exact h1)
        rw [List.getD_eq_getElem?_getD, List.getD_eq_getElem?_getD, List.getElem?_eq_getElem h1, List.getElem?_eq_getElem h2] at this
        exact this)))
      go_wp2_with fail
      go_ret
      rw [hE.out]
      exact ⟨rfl, HBB.out⟩

theorem cut12_any (w : World) (A : Option Addr) (n c : Nat) (f : Int) (hA : A = none → c = 0) (hn : n ≤ c) (hc : c ≤ 9223372036854775807) :
    Calls Try.prog 18 #[.slice A n c, .int .i64 f] w fun e w' => e = .returned (.tuple #[.slice A (min n 30) c, .int .i64 (max 0 (min f 400))]) ∧ Below w.heap.size w w' := by
  have hc63 : (c : Int) ≤ 9223372036854775807 := by omega
  have hn63 : (n : Int) ≤ (c : Int) := by omega
  obtain ⟨m, hm⟩ : ∃ m, min n 30 = m := ⟨_, rfl⟩
  obtain ⟨q, hq⟩ : ∃ q, max 0 (min f 400) = q := ⟨_, rfl⟩
  have h1 : min (n : Int) 30 = (m : Int) := by omega
  have h2 : (m : Int) ≤ (c : Int) := by omega
  have h0 : (0 : Int) ≤ (m : Int) := by omega
  rw [hm, hq]
  have hmn : (n < 30 ∧ m = n) ∨ (30 ≤ n ∧ m = 30) := by omega
  have hqf : (f < 0 ∧ q = 0) ∨ (0 ≤ f ∧ f ≤ 400 ∧ q = f) ∨ (400 < f ∧ q = 400) := by omega
  have HN : Hid (m = min n 30 ∧ q = max 0 (min f 400)) := Lib.hid (by omega)
  clear hm hq h1
  cases A with
  | none =>
    obtain rfl := hA rfl
    obtain rfl : n = 0 := by omega
    clear hA hmn hqf
    go_enter Try.func18, Try.ntmps18
    go_wp2_with fail
    all_goals
      go_ret2
      obtain ⟨g1, g2⟩ := HN.out
      exact ⟨by simp <;> omega, Below.refl _ _⟩
  | some a =>
    have h9 : (30 : Int) ≤ (n : Int) → (30 : Int) ≤ (c : Int) := fun h => by omega
    by_cases h30 : (n : Int) ≤ 30
    · have h31 : (n : Int) < 30 ∨ (n : Int) = 30 := by omega
      clear hA hmn hqf
      go_enter Try.func18, Try.ntmps18
      go_wp2_with fail
      all_goals
        go_ret2
        obtain ⟨g1, g2⟩ := HN.out
        exact ⟨by simp <;> omega, Below.refl _ _⟩
    · have h31 : ¬ (n : Int) < 30 := by omega
      have h32 := h9 (by omega)
      clear hA hmn hqf
      go_enter Try.func18, Try.ntmps18
      go_wp2_with fail
      all_goals
        go_ret2
        obtain ⟨g1, g2⟩ := HN.out
        exact ⟨by simp <;> omega, Below.refl _ _⟩
/-- How a run ended, and where its trace lies. -/
structure Rs where
  fin : Int
  value : Int
  tA : Option Addr
  tn : Nat
  tc : Nat
  tr : List Int
  steps : Int
  reads : Int
def Rs.val (r : Rs) : Value := .agg #[.int .i64 r.fin, .int .i32 r.value, .slice r.tA r.tn r.tc, .int .i64 r.steps, .int .i64 r.reads]
structure Rs.In (w : World) (r : Rs) : Prop where
  tr : RowK .i32 w r.tA r.tn r.tr
  small : r.tn ≤ 1000000

/-- The same end, value, words and trace. -/
def sameR (a b : Rs) : Bool := decide (a.fin = b.fin) && decide (a.value = b.value) && decide (a.reads = b.reads) && decide (a.tr = b.tr)
set_option maxHeartbeats 3200000 in
theorem sameR_any (w : World) (a b : Rs) (ha : a.In w) (hb : b.In w) :
    Calls Try.prog 21 #[a.val, b.val] w fun e w' => e = .returned (.bool (sameR a b)) ∧ Below w.heap.size w w' := by
  obtain ⟨f1, v1, A1, n1, c1, t1, s1, r1⟩ := a
  obtain ⟨f2, v2, A2, n2, c2, t2, s2, r2⟩ := b
  unfold Rs.val
  obtain ⟨W1, hW1⟩ : ∃ W1, w.alloc (.cells #[.int .i64 f1, .int .i32 v1, .slice A1 n1 c1, .int .i64 s1, .int .i64 r1] 57) = W1 := ⟨_, rfl⟩
  obtain ⟨W2, hW2⟩ : ∃ W2, W1.alloc (.cells #[.int .i64 f2, .int .i32 v2, .slice A2 n2 c2, .int .i64 s2, .int .i64 r2] 57) = W2 := ⟨_, rfl⟩
  have hB1 : Below w.heap.size w W1 := by rw [← hW1]; exact (Below.refl _ w).alloc (Nat.le_refl _) _
  have hB2 : Below W1.heap.size W1 W2 := by rw [← hW2]; exact (Below.refl _ W1).alloc (Nat.le_refl _) _
  have hz : W1.heap.size = w.heap.size + 1 := by rw [← hW1]; simp
  have hx1 : W1.heap[w.heap.size]? = some (.cells #[.int .i64 f1, .int .i32 v1, .slice A1 n1 c1, .int .i64 s1, .int .i64 r1] 57 (0, 0)) := by rw [← hW1]; exact heap_alloc_new w _
  have hx2 : W2.heap[w.heap.size + 1]? = some (.cells #[.int .i64 f2, .int .i32 v2, .slice A2 n2 c2, .int .i64 s2, .int .i64 r2] 57 (0, 0)) := by rw [← hz, ← hW2]; exact heap_alloc_new W1 _
  have hx3 : W2.heap[w.heap.size]? = some (.cells #[.int .i64 f1, .int .i32 v1, .slice A1 n1 c1, .int .i64 s1, .int .i64 r1] 57 (0, 0)) := (hB2.block _ (by omega)).trans hx1
  have y0 : W2.cell? ⟨w.heap.size, 0, none⟩ = some (.int .i64 f1) := by rw [cell_of_row _ _ 0 _ _ (0, 0) hx3]; rfl
  have y1 : W2.cell? ⟨w.heap.size, 1, none⟩ = some (.int .i32 v1) := by rw [cell_of_row _ _ 1 _ _ (0, 0) hx3]; rfl
  have y2 : W2.cell? ⟨w.heap.size, 2, none⟩ = some (.slice A1 n1 c1) := by rw [cell_of_row _ _ 2 _ _ (0, 0) hx3]; rfl
  have y4 : W2.cell? ⟨w.heap.size, 4, none⟩ = some (.int .i64 r1) := by rw [cell_of_row _ _ 4 _ _ (0, 0) hx3]; rfl
  have z0 : W2.cell? ⟨w.heap.size + 1, 0, none⟩ = some (.int .i64 f2) := by rw [cell_of_row _ _ 0 _ _ (0, 0) hx2]; rfl
  have z1 : W2.cell? ⟨w.heap.size + 1, 1, none⟩ = some (.int .i32 v2) := by rw [cell_of_row _ _ 1 _ _ (0, 0) hx2]; rfl
  have z2 : W2.cell? ⟨w.heap.size + 1, 2, none⟩ = some (.slice A2 n2 c2) := by rw [cell_of_row _ _ 2 _ _ (0, 0) hx2]; rfl
  have z4 : W2.cell? ⟨w.heap.size + 1, 4, none⟩ = some (.int .i64 r2) := by rw [cell_of_row _ _ 4 _ _ (0, 0) hx2]; rfl
  have HB : Hid (Below w.heap.size w W2) := Lib.hid (hB1.trans (hB2.mono (by omega)))
  have HT := Lib.hid (And.intro (And.intro (ha.tr.below HB.out) ha.small) (And.intro (hb.tr.below HB.out) hb.small))
  obtain ⟨p, hp⟩ : ∃ p, w.heap.size = p := ⟨_, rfl⟩
  obtain ⟨p1, hp1⟩ : ∃ p1, W1.heap.size = p1 := ⟨_, rfl⟩
  have hp2 : p + 1 = p1 := by omega
  rw [hp] at y0 y1 y2 y4
  rw [hp, hp2] at z0 z1 z2 z4
  clear ha hb hB1 hB2 hz hx1 hx2 hx3 hp2
  go_enter Try.func21, Try.ntmps21
  by_cases hf1 : f1 = f2
  case neg =>
    have hf1b : (f1 == f2) = false := by simp [hf1]
    go_wp2_with fail
    go_ret
    refine ⟨?_, by first | exact HB.out | (rw [← hp]; exact HB.out)⟩
    simp [sameR, hf1]
  subst hf1
  by_cases hv1 : v1 = v2
  case neg =>
    have hv1b : (v1 == v2) = false := by simp [hv1]
    go_wp2_with fail
    go_ret
    refine ⟨?_, by first | exact HB.out | (rw [← hp]; exact HB.out)⟩
    simp [sameR, hv1]
  subst hv1
  by_cases hr1 : r1 = r2
  case neg =>
    have hr1b : (r1 == r2) = false := by simp [hr1]
    go_wp2_with fail
    go_ret
    refine ⟨?_, by first | exact HB.out | (rw [← hp]; exact HB.out)⟩
    simp [sameR, hr1]
  subst hr1
  go_wp2_with fail
  refine (sameWords_any _ _ _ _ _ _ _ _ _ HT.out.1.1 HT.out.2.1 HT.out.1.2 HT.out.2.2).mono ?_
  rintro e w3 ⟨rfl, hb3⟩
  have HB3 : Hid (Below w.heap.size w w3) := Lib.hid (HB.out.trans (hb3.mono HB.out.size))
  clear hb3
  generalize hq : decide (t1 = t2) = q
  have hE : Hid (sameR ⟨f1, v1, A1, n1, c1, t1, s1, r1⟩ ⟨f1, v1, A2, n2, c2, t2, s2, r1⟩ = q) := Lib.hid (by simp [sameR, hq])
  cases q <;>
  · go_wp2_with fail
    go_ret
    rw [hE.out]
    exact ⟨rfl, by first | exact HB3.out | (rw [← hp]; exact HB3.out)⟩
end Rv
end Go.Proofs.Ytmedhibjkbahpaa
namespace Go.Proofs.Ytmedhibjkbahpaa
open Go.RowKit
set_option linter.unusedVariables false
set_option linter.unusedSimpArgs false
set_option maxRecDepth 100000
namespace Rv
/-- What an instruction does, but for where it goes on; d: what it makes. -/
def setM (l : Ln) (v : Int) (s : MS) : MS := { s with regs := if l.d = 0 then s.regs else s.regs.set l.d.toNat v }
def doM (inp : List Int) (l : Ln) (d : Int) (s : MS) : MO :=
  if l.op = 24 then
    match wordM s.mem.length (wrap32 (s.regs.getD l.a.toNat 0 + l.n)) with
    | none => .fin 6 s
    | some k => .go (setM l (s.mem.getD k 0) s)
  else if l.op = 25 then
    match wordM s.mem.length (wrap32 (s.regs.getD l.a.toNat 0 + l.n)) with
    | none => .fin 6 s
    | some k => .go { s with mem := s.mem.set k (s.regs.getD l.b.toNat 0) }
  else if l.op = 30 then callM inp s
  else .go (setM l d s)
def MO.at (z : Int) : MO → MO
  | .go s => .go { s with pc := z }
  | .fin k s => .fin k s
theorem insM_do {inp : List Int} {l : Ln} (h : l.Ok) (s : MS) :
    insM inp l s = (doM inp l (stepI l.op l.n (s.regs.getD l.a.toNat 0) (s.regs.getD l.b.toNat 0) s.pc).1 s).at (stepI l.op l.n (s.regs.getD l.a.toNat 0) (s.regs.getD l.b.toNat 0) s.pc).2 := by
  unfold insM doM
  by_cases h24 : l.op = 24
  · rw [if_pos h24, if_pos h24]
    cases wordM s.mem.length (wrap32 (s.regs.getD l.a.toNat 0 + l.n)) <;> rfl
  · rw [if_neg h24, if_neg h24]
    by_cases h25 : l.op = 25
    · rw [if_pos h25, if_pos h25]
      have hd := h.sys (.inl h25)
      cases wordM s.mem.length (wrap32 (s.regs.getD l.a.toNat 0 + l.n)) with
      | none => rfl
      | some k => simp only [nextM, hd, if_true, MO.at]
    · rw [if_neg h25, if_neg h25]
      by_cases h30 : l.op = 30
      · rw [if_pos h30, if_pos h30]
        have hd := h.sys (.inr h30)
        cases callM inp s with
        | fin k s' => rfl
        | go s' => simp only [nextM, hd, if_true, MO.at]
      · rw [if_neg h30, if_neg h30]
        rfl
/-- Words of 32 bits. -/
def R32 (x : Int) : Prop := -2147483648 ≤ x ∧ x ≤ 2147483647
theorem div_rng (a : Int) (ha : R32 a) (p : Int) (hp : 1 ≤ p) : R32 (a / p) := by
  obtain ⟨h1, h2⟩ := ha
  exact ⟨Int.le_ediv_of_mul_le (by omega) (by omega), by have := Int.ediv_lt_of_lt_mul (a := a) (b := 2147483648) (c := p) (by omega) (by omega); omega⟩
theorem pow_one (k : Nat) : (1 : Int) ≤ 2 ^ k := by
  induction k with
  | zero => decide
  | succ k ih => rw [Int.pow_succ]; omega
theorem mod_rng (a b : Int) (ha : R32 a) : R32 (a.tmod b) := by
  obtain ⟨h1, h2⟩ := ha
  have h := Int.natAbs_tmod a b
  have h3 : a.natAbs % b.natAbs ≤ a.natAbs := Nat.mod_le _ _
  have h4 : 0 ≤ a → 0 ≤ a.tmod b := fun h => Int.tmod_nonneg b h
  unfold R32
  rcases Int.le_total 0 a with q | q
  · have := h4 q
    omega
  · have h5 : 0 ≤ (-a).tmod b := Int.tmod_nonneg b (by omega)
    rw [Int.neg_tmod] at h5
    omega
theorem bits_rng (op : BinOp) (a b : Int) : R32 (bits op .i32 a b) := bounds_i32' (wf_bits op .i32 a b)
theorem truth_rng (b : Bool) : R32 (truthI b) := by cases b <;> (constructor <;> decide)
theorem wrapR (x : Int) : R32 (wrap32 x) := wrap_rng x
theorem zero_rng : R32 0 := ⟨by decide, by decide⟩
theorem ite_fst {c : Prop} [Decidable c] {a b : Int × Bool} (ha : R32 a.1) (hb : R32 b.1) : R32 (if c then a else b).1 := by
  by_cases h : c
  · rw [if_pos h]; exact ha
  · rw [if_neg h]; exact hb
theorem ite_int {c : Prop} [Decidable c] {a b : Int} (ha : R32 a) (hb : R32 b) : R32 (if c then a else b) := by
  by_cases h : c
  · rw [if_pos h]; exact ha
  · rw [if_neg h]; exact hb
theorem ite_fst2 {c : Prop} [Decidable c] {a b : Int × Int} (ha : R32 a.1) (hb : R32 b.1) : R32 (if c then a else b).1 := by
  by_cases h : c
  · rw [if_pos h]; exact ha
  · rw [if_neg h]; exact hb
theorem binV_rng (op a b : Int) (ha : R32 a) (hb : R32 b) : R32 (WordBins.binV op a b).1 := by
  unfold WordBins.binV
  repeat' apply ite_fst
  all_goals first
    | with_reducible exact wrapR _
    | with_reducible exact zero_rng
    | with_reducible exact mod_rng _ _ ha
    | with_reducible exact div_rng _ ha _ (pow_one _)
    | with_reducible exact bits_rng _ _ _
    | with_reducible exact truth_rng _
theorem reckI_rng (op a b : Int) (ha : R32 a) (hb : R32 b) : R32 (reckI op a b) := by
  unfold reckI
  exact ite_int (truth_rng _) (ite_int (wrapR _) (ite_int ⟨by decide, by decide⟩ (ite_int ha (binV_rng _ _ _ ha hb))))
theorem stepI_rng1 (op n a b pc : Int) (hn : R32 n) (ha : R32 a) (hb : R32 b) : R32 (stepI op n a b pc).1 := by
  unfold stepI
  exact ite_fst2 (wrapR _) (ite_fst2 zero_rng (ite_fst2 zero_rng (ite_fst2 (wrapR _) (ite_fst2 (wrapR _) (ite_fst2 (reckI_rng _ _ _ ha hn) (reckI_rng _ _ _ ha hb))))))
/-- A state of words. -/
def W32 (s : MS) : Prop := (∀ x ∈ s.regs, R32 x) ∧ ∀ x ∈ s.mem, R32 x
theorem getD_rng {l : List Int} (h : ∀ x ∈ l, R32 x) (k : Nat) : R32 (l.getD k 0) := by
  rw [List.getD_eq_getElem?_getD]
  cases e : l[k]? with
  | none => exact zero_rng
  | some x => exact h x (List.mem_of_getElem? e)
theorem set_rng {l : List Int} (h : ∀ x ∈ l, R32 x) (k : Nat) (v : Int) (hv : R32 v) : ∀ x ∈ l.set k v, R32 x := fun x hx => by
  rcases List.mem_or_eq_of_mem_set hx with q | q
  · exact h x q
  · rw [q]; exact hv
theorem W32.call {inp : List Int} (hi : ∀ x ∈ inp, R32 x) {s s' : MS} (h : W32 s) (hc : callM inp s = .go s') : W32 s' := by
  unfold callM at hc
  split at hc
  · cases hc; exact h
  · split at hc
    · cases hc
      unfold readM
      split
      · exact ⟨set_rng h.1 _ _ zero_rng, h.2⟩
      · exact ⟨set_rng h.1 _ _ (getD_rng hi _), h.2⟩
    · split at hc <;> cases hc
theorem W32.next {l : Ln} {to v : Int} {s : MS} (h : W32 s) (hv : R32 v) : W32 (nextM l to v s) := by
  unfold nextM
  refine ⟨?_, h.2⟩
  dsimp only
  split
  · exact h.1
  · exact set_rng h.1 _ _ hv
theorem W32.ins {inp : List Int} (hi : ∀ x ∈ inp, R32 x) {l : Ln} (hl : l.Ok) {s s' : MS} (h : W32 s) (hc : insM inp l s = .go s') : W32 s' := by
  unfold insM at hc
  split at hc
  · split at hc
    · cases hc
    · cases hc; exact h.next (getD_rng h.2 _)
  · split at hc
    · split at hc
      · cases hc
      · cases hc
        exact W32.next (s := { s with mem := _ }) ⟨h.1, set_rng h.2 _ _ (getD_rng h.1 _)⟩ zero_rng
    · split at hc
      · split at hc
        · cases hc
        · next s2 h2 => cases hc; exact (h.call hi h2).next zero_rng
      · cases hc
        exact h.next (stepI_rng1 _ _ _ _ _ hl.n (getD_rng h.1 _) (getD_rng h.1 _))
theorem W32.step {ls : List Ln} {inp : List Int} (hi : ∀ x ∈ inp, R32 x) (hl : ∀ l ∈ ls, l.Ok) {fuel : Int} {s s' : MS} (h : W32 s) (hc : stepM ls inp fuel s = .go s') : W32 s' := by
  unfold stepM at hc
  split at hc
  · cases hc
  · split at hc
    · cases hc
    · split at hc
      · cases hc
      · next l hk => exact W32.ins (s := { s with steps := s.steps + 1 }) hi (hl l (List.mem_of_getElem? hk)) h hc
theorem newS_rng (n : Nat) (pc : Int) : W32 (newS n pc) := ⟨fun x hx => by rw [List.eq_of_mem_replicate hx]; exact zero_rng, fun x hx => by rw [List.eq_of_mem_replicate hx]; exact zero_rng⟩
end Rv
end Go.Proofs.Ytmedhibjkbahpaa
namespace Go.Proofs.Ytmedhibjkbahpaa
open Go.RowKit
set_option linter.unusedVariables false
set_option linter.unusedSimpArgs false
set_option maxRecDepth 100000
namespace Rv
/-- What a run of the document's machine is over. -/
structure REnv where
  w0 : World
  p : Nat
  rb : Nat
  mb : Nat
  mn : Nat
  iA : Option Addr
  im : Nat
  ic : Nat
  inp : List Int
structure RMAt (e : REnv) (w : World) (q : Int) (s : MS) : Prop where
  below : Below e.w0.heap.size e.w0 w
  pge : e.w0.heap.size ≤ e.p ∧ e.w0.heap.size ≤ e.rb ∧ e.w0.heap.size ≤ e.mb
  apart : e.p ≠ e.rb ∧ e.p ≠ e.mb ∧ e.rb ≠ e.mb
  regs : RegAt w e.rb s.regs
  rlen : s.regs.length = 32
  mem : RegAt w e.mb s.mem
  mlen : s.mem.length = e.mn
  inp : RowK .i32 e.w0 e.iA e.im e.inp
  box : ∃ tA tc, w.heap[e.p]? = some (.cells #[.slice (some ⟨e.rb, 0, none⟩) 32 32, .slice (some ⟨e.mb, 0, none⟩) e.mn e.mn, .slice e.iA e.im e.ic, .int .i64 q, .int .i32 s.v, .slice tA s.tr.length tc, .int .i64 (s.steps : Int), .int .i64 (s.reads : Int)] 91 (0, 0)) ∧
    SLine 1 w tA s.tr.length tc (cellsW s.tr) ∧ ∀ k ∈ blk tA, e.w0.heap.size ≤ k ∧ k ≠ e.p ∧ k ≠ e.rb ∧ k ≠ e.mb
/-- Its eight cells. -/
theorem RMAt.cells {e : REnv} {w : World} {q : Int} {s : MS} (h : RMAt e w q s) :
    w.cell? ⟨e.p, 0, none⟩ = some (.slice (some ⟨e.rb, 0, none⟩) 32 32) ∧ w.cell? ⟨e.p, 1, none⟩ = some (.slice (some ⟨e.mb, 0, none⟩) e.mn e.mn) ∧ w.cell? ⟨e.p, 2, none⟩ = some (.slice e.iA e.im e.ic) ∧ w.cell? ⟨e.p, 3, none⟩ = some (.int .i64 q) ∧
    w.cell? ⟨e.p, 4, none⟩ = some (.int .i32 s.v) ∧ w.cell? ⟨e.p, 6, none⟩ = some (.int .i64 (s.steps : Int)) ∧ w.cell? ⟨e.p, 7, none⟩ = some (.int .i64 (s.reads : Int)) ∧ (∀ j, w.frozen? ⟨e.p, j, none⟩ = false) ∧ e.p < w.heap.size := by
  obtain ⟨tA, tc, hc, -, -⟩ := h.box
  refine ⟨?_, ?_, ?_, ?_, ?_, ?_, ?_, fun j => frozen_of_row _ e.p j _ _ hc, (Array.getElem?_eq_some_iff.1 hc).1⟩ <;> (rw [cell_of_row _ e.p _ _ _ (0, 0) hc]; rfl)
theorem RMAt.drewN {e : REnv} {w : World} {q : Int} {s : MS} (h : RMAt e w q s) (n : Nat) : RMAt e (w.drewN n) q s := by
  obtain ⟨tA, tc, hc, hl, hn⟩ := h.box
  exact ⟨⟨h.below.os, h.below.tape, h.below.output, h.below.size, h.below.block⟩, h.pge, h.apart, h.regs, h.rlen, h.mem, h.mlen, h.inp, tA, tc, hc, hl.same (Nat.le_refl _) (fun _ _ => rfl), hn⟩
theorem RMAt.drew {e : REnv} {w : World} {q : Int} {s : MS} (h : RMAt e w q s) : RMAt e w.drew q s := by
  obtain ⟨tA, tc, hc, hl, hn⟩ := h.box
  exact ⟨h.below.drew, h.pge, h.apart, h.regs, h.rlen, h.mem, h.mlen, h.inp, tA, tc, hc, hl.drew, hn⟩
theorem RMAt.grow {e : REnv} {w w' : World} {q : Int} {s : MS} (h : RMAt e w q s) (hb : Below w.heap.size w w') : RMAt e w' q s := by
  obtain ⟨tA, tc, hc, hl, hn⟩ := h.box
  exact ⟨h.below.trans (hb.mono h.below.size), h.pge, h.apart, h.regs.same (hb.block _ h.regs.lt), h.rlen, h.mem.same (hb.block _ h.mem.lt), h.mlen, h.inp, tA, tc, (hb.block _ (Array.getElem?_eq_some_iff.1 hc).1).trans hc, hl.below hb, hn⟩
theorem RMAt.pin {e : REnv} {w : World} {q : Int} {s s' : MS} (h : RMAt e w q s) (h1 : s'.regs = s.regs) (h2 : s'.mem = s.mem) (h3 : s'.tr = s.tr) (h4 : s'.v = s.v) (h5 : s'.steps = s.steps) (h6 : s'.reads = s.reads) : RMAt e w q s' := by
  obtain ⟨r, m, pc, v, t, st, rd⟩ := s
  obtain ⟨r', m', pc', v', t', st', rd'⟩ := s'
  dsimp only at h1 h2 h3 h4 h5 h6
  subst h1 h2 h3 h4 h5 h6
  exact ⟨h.below, h.pge, h.apart, h.regs, h.rlen, h.mem, h.mlen, h.inp, h.box⟩
/-- A cell of the box is another. -/
theorem RMAt.put {e : REnv} {w : World} {q : Int} {s : MS} (h : RMAt e w q s) (j : Nat) (v : Value) (q' : Int) (s' : MS) (h1 : s'.regs = s.regs) (h2 : s'.mem = s.mem) (h3 : s'.tr = s.tr)
    (hg : ∀ tA tc, (#[.slice (some ⟨e.rb, 0, none⟩) 32 32, .slice (some ⟨e.mb, 0, none⟩) e.mn e.mn, .slice e.iA e.im e.ic, .int .i64 q, .int .i32 s.v, .slice tA s.tr.length tc, .int .i64 (s.steps : Int), .int .i64 (s.reads : Int)] : Array Value).setIfInBounds j v = #[.slice (some ⟨e.rb, 0, none⟩) 32 32, .slice (some ⟨e.mb, 0, none⟩) e.mn e.mn, .slice e.iA e.im e.ic, .int .i64 q', .int .i32 s'.v, .slice tA s'.tr.length tc, .int .i64 (s'.steps : Int), .int .i64 (s'.reads : Int)]) :
    RMAt e (w.setCell ⟨e.p, j, none⟩ v) q' s' := by
  obtain ⟨tA, tc, hc, hl, hn⟩ := h.box
  have hB : Chg [e.p] w (w.setCell ⟨e.p, j, none⟩ v) := (Chg.refl _ w).setCell e.p j v (.inl (by simp))
  have hp := h.pge
  have ha := h.apart
  refine ⟨h.below.trans (hB.toBelow (fun k hk => by rw [List.mem_singleton] at hk; omega) h.below.size), h.pge, h.apart, by rw [h1]; exact h.regs.same (setCell_off _ _ _ _ _ ha.1.symm), by rw [h1]; exact h.rlen,
    by rw [h2]; exact h.mem.same (setCell_off _ _ _ _ _ ha.2.1.symm), by rw [h2]; exact h.mlen, h.inp, tA, tc, ?_, by rw [h3]; exact hl.chg hB (fun k hk => by rw [List.mem_singleton]; exact (hn k hk).2.1), hn⟩
  rw [heap_setCell_same w e.p j _ _ v hc, hg]
theorem RMAt.fin {e : REnv} {w : World} {q : Int} {s : MS} (h : RMAt e w q s) (k : Int) : RMAt e (w.setCell ⟨e.p, 3, none⟩ (.int .i64 k)) k s := h.put 3 _ k s rfl rfl rfl (fun _ _ => rfl)
theorem RMAt.step {e : REnv} {w : World} {q : Int} {s : MS} (h : RMAt e w q s) : RMAt e (w.setCell ⟨e.p, 6, none⟩ (.int .i64 ((s.steps + 1 : Nat) : Int))) q { s with steps := s.steps + 1 } := h.put 6 _ q _ rfl rfl rfl (fun _ _ => rfl)
theorem RMAt.took {e : REnv} {w : World} {q : Int} {s : MS} (h : RMAt e w q s) : RMAt e (w.setCell ⟨e.p, 7, none⟩ (.int .i64 ((s.reads + 1 : Nat) : Int))) q { s with reads := s.reads + 1 } := h.put 7 _ q _ rfl rfl rfl (fun _ _ => rfl)
theorem RMAt.val {e : REnv} {w : World} {q : Int} {s : MS} (h : RMAt e w q s) (v : Int) : RMAt e (w.setCell ⟨e.p, 4, none⟩ (.int .i32 v)) q { s with v := v } := h.put 4 _ q _ rfl rfl rfl (fun _ _ => rfl)
/-- A register is another. -/
theorem RMAt.give {e : REnv} {w : World} {q : Int} {s : MS} (h : RMAt e w q s) (k : Nat) (v : Int) : RMAt e (w.setCell ⟨e.rb, k, none⟩ (.int .i32 v)) q { s with regs := s.regs.set k v } := by
  obtain ⟨tA, tc, hc, hl, hn⟩ := h.box
  have hB : Chg [e.rb] w (w.setCell ⟨e.rb, k, none⟩ (.int .i32 v)) := (Chg.refl _ w).setCell e.rb k _ (.inl (by simp))
  have hp := h.pge
  have ha := h.apart
  exact ⟨h.below.trans (hB.toBelow (fun k hk => by rw [List.mem_singleton] at hk; omega) h.below.size), h.pge, h.apart, h.regs.put k v, by rw [← h.rlen]; simp, h.mem.same (setCell_off _ _ _ _ _ ha.2.2.symm), h.mlen, h.inp,
    tA, tc, (setCell_off _ _ _ _ _ ha.1).trans hc, hl.chg hB (fun k hk => by rw [List.mem_singleton]; exact (hn k hk).2.2.1), hn⟩
/-- A word of memory is another. -/
theorem RMAt.store {e : REnv} {w : World} {q : Int} {s : MS} (h : RMAt e w q s) (k : Nat) (v : Int) : RMAt e (w.setCell ⟨e.mb, k, none⟩ (.int .i32 v)) q { s with mem := s.mem.set k v } := by
  obtain ⟨tA, tc, hc, hl, hn⟩ := h.box
  have hB : Chg [e.mb] w (w.setCell ⟨e.mb, k, none⟩ (.int .i32 v)) := (Chg.refl _ w).setCell e.mb k _ (.inl (by simp))
  have hp := h.pge
  have ha := h.apart
  exact ⟨h.below.trans (hB.toBelow (fun k hk => by rw [List.mem_singleton] at hk; omega) h.below.size), h.pge, h.apart, h.regs.same (setCell_off _ _ _ _ _ ha.2.2), h.rlen, h.mem.put k v, by rw [← h.mlen]; simp, h.inp,
    tA, tc, (setCell_off _ _ _ _ _ ha.2.1).trans hc, hl.chg hB (fun k hk => by rw [List.mem_singleton]; exact (hn k hk).2.2.2), hn⟩
theorem rword_yes {e : REnv} {w : World} {q : Int} {s : MS} (h : RMAt e w q s) (z : Int) (hz : -2147483648 ≤ z ∧ z ≤ 2147483647) (hn : e.mn ≤ 1000000) (k : Nat) (hk : wordM s.mem.length z = some k) :
    Calls Try.prog 64 #[.pointer (some ⟨e.p, 0, none⟩), .int .i32 z] w fun e' w' => e' = .returned (.int .i64 (k : Int)) ∧ w' = w := by
  obtain ⟨z1, z2⟩ := hz
  have hl := h.mlen
  unfold wordM at hk
  split at hk
  · cases hk
  · next hc =>
    simp only [not_or, Int.not_lt, Int.not_le, Decidable.not_not] at hc
    obtain ⟨c1, c2, c3⟩ := hc
    injection hk with hk
    have x1 := h.cells.2.1
    have e1 : (z - 65536).tdiv 4 = (k : Int) := by rw [Int.tdiv_eq_ediv_of_nonneg (by omega)]; omega
    have e2 : (z - 65536).tmod 4 = 0 := by rw [Int.tmod_eq_emod_of_nonneg (by omega)]; omega
    have hkn : (k : Int) < (e.mn : Int) := by omega
    have hk0 : (0 : Int) ≤ (k : Int) := by omega
    have hm2 : (e.mn : Int) ≤ 1000000 := by omega
    clear h hk hl c3 c2
    go_enter Try.func64, Try.ntmps64
    go_wp2_with fail
    go_ret
    exact ⟨by simp, rfl⟩
theorem rword_no {e : REnv} {w : World} {q : Int} {s : MS} (h : RMAt e w q s) (z : Int) (hz : -2147483648 ≤ z ∧ z ≤ 2147483647) (hn : e.mn ≤ 1000000) (hk : wordM s.mem.length z = none) :
    Calls Try.prog 64 #[.pointer (some ⟨e.p, 0, none⟩), .int .i32 z] w fun e' w' => e' = .returned (.int .i64 (-1)) ∧ RMAt e w' 6 s := by
  obtain ⟨z1, z2⟩ := hz
  have hl := h.mlen
  obtain ⟨x0, x1, x2, x3, -, -, -, f3, -⟩ := h.cells
  have f3 := f3 3
  have hm2 : (e.mn : Int) ≤ 1000000 := by omega
  have HF := Lib.hid (h.fin 6)
  obtain ⟨y, hy⟩ : ∃ y, z - 65536 = y := ⟨_, rfl⟩
  unfold wordM at hk
  split at hk
  · next hc =>
    by_cases c1 : z < 65536
    · have c1' : y < 0 := by omega
      clear hc hl h
      go_enter Try.func64, Try.ntmps64
      go_wp2_with fail
      go_ret
      exact ⟨rfl, HF.out⟩
    · have c1' : ¬ y < 0 := by omega
      by_cases c2 : z % 4 = 0
      · have c3 : (e.mn : Int) ≤ (z - 65536) / 4 := by omega
        have e1 : y.tdiv 4 = (z - 65536) / 4 := by rw [hy]; exact Int.tdiv_eq_ediv_of_nonneg (by omega)
        have e2 : y.tmod 4 = 0 := by rw [Int.tmod_eq_emod_of_nonneg (by omega)]; omega
        obtain ⟨t, ht⟩ : ∃ t, (z - 65536) / 4 = t := ⟨_, rfl⟩
        rw [ht] at c3 e1
        have t1 : 0 ≤ t := by omega
        have t2 : t ≤ 2147483647 := by omega
        clear hc hl h ht
        go_enter Try.func64, Try.ntmps64
        go_wp2_with fail
        go_ret
        exact ⟨rfl, HF.out⟩
      · have e2 : ¬ y.tmod 4 = 0 := by rw [Int.tmod_eq_emod_of_nonneg (by omega)]; omega
        clear hc hl h
        go_enter Try.func64, Try.ntmps64
        go_wp2_with fail
        go_ret
        exact ⟨rfl, HF.out⟩
  · cases hk
end Rv
end Go.Proofs.Ytmedhibjkbahpaa
namespace Go.Proofs.Ytmedhibjkbahpaa
open Go.RowKit
set_option linter.unusedVariables false
set_option linter.unusedSimpArgs false
set_option maxRecDepth 100000
namespace Rv
def RDo (e : REnv) : MO → Ending → World → Prop
  | .go s, en, w => en = .returned (.tuple #[]) ∧ RMAt e w 0 s
  | .fin k s, en, w => en = .returned (.tuple #[]) ∧ RMAt e w k s
theorem wordM_lt {n k : Nat} {z : Int} (h : wordM n z = some k) : k < n := by
  unfold wordM at h
  split at h
  · cases h
  · next hc => injection h with h; simp only [not_or, Int.not_lt, Int.not_le] at hc; omega
set_option maxHeartbeats 3200000 in
theorem rdo_load {e : REnv} {w : World} {s : MS} (h : RMAt e w 0 s) (hW : W32 s) (hmn : e.mn ≤ 1000000) (lo d lnn : Int) (dn an bn : Nat) (lsym : ByteArray) (hdn : dn < 32) (han : an < 32) (hbn : bn < 32) (hnn : R32 lnn) (hop : lo = 24) :
    Calls Try.prog 44 #[.pointer (some ⟨e.p, 0, none⟩), .agg #[.int .i64 2, .int .i64 lo, .int .i64 (dn : Int), .int .i64 (an : Int), .int .i64 (bn : Int), .int .i32 lnn, .string lsym], .int .i32 d] w (RDo e (doM e.inp ⟨2, lo, (dn : Int), (an : Int), (bn : Int), lnn, lsym⟩ d s)) := by
  cases hw : wordM s.mem.length (wrap32 (s.regs.getD an 0 + lnn)) with
  | none =>
    have HO : Hid (doM e.inp ⟨2, lo, (dn : Int), (an : Int), (bn : Int), lnn, lsym⟩ d s = .fin 6 s) := Lib.hid (by unfold doM; rw [if_pos (show lo = 24 from hop)]; dsimp only; rw [Int.toNat_natCast, hw])
    have HWW := Lib.hid hw
    clear hw
    have HOP := Lib.hid hop
    clear hop
    obtain ⟨bx, hbx⟩ : ∃ bx, w.heap.size = bx := ⟨_, rfl⟩
    obtain ⟨W1, hW1⟩ : ∃ W1, w.alloc (.cells #[.int .i64 2, .int .i64 lo, .int .i64 (dn : Int), .int .i64 (an : Int), .int .i64 (bn : Int), .int .i32 lnn, .string lsym] 39) = W1 := ⟨_, rfl⟩
    have hb1 : Below w.heap.size w W1 := by rw [← hW1]; exact (Below.refl _ _).alloc (Nat.le_refl _) _
    have hn1 : W1.heap[bx]? = some (.cells #[.int .i64 2, .int .i64 lo, .int .i64 (dn : Int), .int .i64 (an : Int), .int .i64 (bn : Int), .int .i32 lnn, .string lsym] 39 (0, 0)) := by rw [← hW1, ← hbx]; exact heap_alloc_new w _
    have hM1 := h.grow hb1
    obtain ⟨x0, -, -, -, -, -, -, -, -⟩ := hM1.cells
    have u3 : W1.cell? ⟨bx, 3, none⟩ = some (.int .i64 (an : Int)) := by rw [cell_of_row _ _ 3 _ _ (0, 0) hn1]; rfl
    have u4 : W1.cell? ⟨bx, 4, none⟩ = some (.int .i64 (bn : Int)) := by rw [cell_of_row _ _ 4 _ _ (0, 0) hn1]; rfl
    have xa := hM1.regs.cell an (by rw [hM1.rlen]; exact han)
    have xb := hM1.regs.cell bn (by rw [hM1.rlen]; exact hbn)
    have hra := getD_rng hW.1 an
    have HM1 := Lib.hid hM1
    have HN1 := Lib.hid hn1
    have HDN := Lib.hid hdn
    have a3 : (0 : Int) ≤ (an : Int) := by omega
    have a4 : (an : Int) < 32 := by omega
    have b3 : (0 : Int) ≤ (bn : Int) := by omega
    have b4 : (bn : Int) < 32 := by omega
    obtain ⟨n1, n2⟩ := hnn
    generalize hraE : s.regs.getD an 0 = ra at *
    generalize hrbE : s.regs.getD bn 0 = rb at *
    obtain ⟨r1, r2⟩ := hra
    have HRA := Lib.hid (And.intro hraE hrbE)
    clear h hW hb1 hn1 hM1 hdn han hbn hraE hrbE
    go_enter Try.func44, Try.ntmps44
    go_wp2_with fail
    go_quiet (fail)
    go_upto_region 2 with fail
    refine name_wpR (fun W2 hW2 => ?_)
    have hM2 : RMAt e W2 0 s := by rw [hW2]; first | exact HM1.out.drewN _ | exact (HM1.out.drewN _).drewN _ | exact HM1.out.drew
    have hn2 : W2.heap[bx]? = some (.cells #[.int .i64 2, .int .i64 lo, .int .i64 (dn : Int), .int .i64 (an : Int), .int .i64 (bn : Int), .int .i32 lnn, .string lsym] 39 (0, 0)) := by rw [hW2]; exact HN1.out
    clear hW2 x0 u3 u4 xa xb hW1 HM1 HN1
    have HM2 := Lib.hid hM2
    obtain ⟨x0, x1, x2, x3, x4, x6, x7, fz, hpl⟩ := hM2.cells
    have u1 : W2.cell? ⟨bx, 1, none⟩ = some (.int .i64 lo) := by rw [cell_of_row _ _ 1 _ _ (0, 0) hn2]; rfl
    have u2 : W2.cell? ⟨bx, 2, none⟩ = some (.int .i64 (dn : Int)) := by rw [cell_of_row _ _ 2 _ _ (0, 0) hn2]; rfl
    have u5 : W2.cell? ⟨bx, 5, none⟩ = some (.int .i32 lnn) := by rw [cell_of_row _ _ 5 _ _ (0, 0) hn2]; rfl
    have f3 := fz 3
    have f4 := fz 4
    have f7 := fz 7
    clear hn2 fz
    have hop := HOP.out
    have HW := Lib.hid (rword_no HM2.out (wrap32 (ra + lnn)) (wrap_rng _) hmn HWW.out)
    subst hop
    go_wp2_with (first | (go_at_call 39; refine (round_any _ _).mono ?_; rintro e' w' ⟨rfl, rfl⟩) | (go_at_call 64; (with_reducible refine HW.out.mono ?_); rintro e' w4 ⟨rfl, hM4⟩; have HM4 := Lib.hid hM4; clear hM4))
    refine bodyPost_end (results_none rfl _ _ _) rfl ?_
    show RDo e (doM e.inp ⟨2, 24, (dn : Int), (an : Int), (bn : Int), lnn, lsym⟩ d s) _ _
    rw [HO.out]
    exact ⟨rfl, HM4.out⟩
  | some k =>
    have HO : Hid (doM e.inp ⟨2, lo, (dn : Int), (an : Int), (bn : Int), lnn, lsym⟩ d s = .go (setM ⟨2, lo, (dn : Int), (an : Int), (bn : Int), lnn, lsym⟩ (s.mem.getD k 0) s)) := Lib.hid (by unfold doM; rw [if_pos (show lo = 24 from hop)]; dsimp only; rw [Int.toNat_natCast, hw])
    have HWW := Lib.hid hw
    have hkm := wordM_lt hw
    clear hw
    have HOP := Lib.hid hop
    clear hop
    obtain ⟨bx, hbx⟩ : ∃ bx, w.heap.size = bx := ⟨_, rfl⟩
    obtain ⟨W1, hW1⟩ : ∃ W1, w.alloc (.cells #[.int .i64 2, .int .i64 lo, .int .i64 (dn : Int), .int .i64 (an : Int), .int .i64 (bn : Int), .int .i32 lnn, .string lsym] 39) = W1 := ⟨_, rfl⟩
    have hb1 : Below w.heap.size w W1 := by rw [← hW1]; exact (Below.refl _ _).alloc (Nat.le_refl _) _
    have hn1 : W1.heap[bx]? = some (.cells #[.int .i64 2, .int .i64 lo, .int .i64 (dn : Int), .int .i64 (an : Int), .int .i64 (bn : Int), .int .i32 lnn, .string lsym] 39 (0, 0)) := by rw [← hW1, ← hbx]; exact heap_alloc_new w _
    have hM1 := h.grow hb1
    obtain ⟨x0, -, -, -, -, -, -, -, -⟩ := hM1.cells
    have u3 : W1.cell? ⟨bx, 3, none⟩ = some (.int .i64 (an : Int)) := by rw [cell_of_row _ _ 3 _ _ (0, 0) hn1]; rfl
    have u4 : W1.cell? ⟨bx, 4, none⟩ = some (.int .i64 (bn : Int)) := by rw [cell_of_row _ _ 4 _ _ (0, 0) hn1]; rfl
    have xa := hM1.regs.cell an (by rw [hM1.rlen]; exact han)
    have xb := hM1.regs.cell bn (by rw [hM1.rlen]; exact hbn)
    have hra := getD_rng hW.1 an
    have HM1 := Lib.hid hM1
    have HN1 := Lib.hid hn1
    have HDN := Lib.hid hdn
    have a3 : (0 : Int) ≤ (an : Int) := by omega
    have a4 : (an : Int) < 32 := by omega
    have b3 : (0 : Int) ≤ (bn : Int) := by omega
    have b4 : (bn : Int) < 32 := by omega
    obtain ⟨n1, n2⟩ := hnn
    generalize hraE : s.regs.getD an 0 = ra at *
    generalize hrbE : s.regs.getD bn 0 = rb at *
    obtain ⟨r1, r2⟩ := hra
    have HRA := Lib.hid (And.intro hraE hrbE)
    clear h hW hb1 hn1 hM1 hdn han hbn hraE hrbE
    go_enter Try.func44, Try.ntmps44
    go_wp2_with fail
    go_quiet (fail)
    go_upto_region 2 with fail
    refine name_wpR (fun W2 hW2 => ?_)
    have hM2 : RMAt e W2 0 s := by rw [hW2]; first | exact HM1.out.drewN _ | exact (HM1.out.drewN _).drewN _ | exact HM1.out.drew
    have hn2 : W2.heap[bx]? = some (.cells #[.int .i64 2, .int .i64 lo, .int .i64 (dn : Int), .int .i64 (an : Int), .int .i64 (bn : Int), .int .i32 lnn, .string lsym] 39 (0, 0)) := by rw [hW2]; exact HN1.out
    clear hW2 x0 u3 u4 xa xb hW1 HM1 HN1
    have HM2 := Lib.hid hM2
    obtain ⟨x0, x1, x2, x3, x4, x6, x7, fz, hpl⟩ := hM2.cells
    have u1 : W2.cell? ⟨bx, 1, none⟩ = some (.int .i64 lo) := by rw [cell_of_row _ _ 1 _ _ (0, 0) hn2]; rfl
    have u2 : W2.cell? ⟨bx, 2, none⟩ = some (.int .i64 (dn : Int)) := by rw [cell_of_row _ _ 2 _ _ (0, 0) hn2]; rfl
    have u5 : W2.cell? ⟨bx, 5, none⟩ = some (.int .i32 lnn) := by rw [cell_of_row _ _ 5 _ _ (0, 0) hn2]; rfl
    have f3 := fz 3
    have f4 := fz 4
    have f7 := fz 7
    clear hn2 fz
    have hop := HOP.out
    have HW := Lib.hid (rword_yes HM2.out (wrap32 (ra + lnn)) (wrap_rng _) hmn k HWW.out)
    have xm := HM2.out.mem.cell k hkm
    have hk1 : (k : Int) < (e.mn : Int) := by rw [← HM2.out.mlen]; omega
    have hk0 : (0 : Int) ≤ (k : Int) := by omega
    have b24 : (lo == 24) = true := by simp [hop]
    generalize s.mem.getD k 0 = vm at *
    clear hkm hop
    by_cases hd9 : dn = 0
    · subst hd9
      have HX : Hid (setM ⟨2, lo, ((0 : Nat) : Int), (an : Int), (bn : Int), lnn, lsym⟩ vm s = s) := Lib.hid (by unfold setM; rw [if_pos (by rfl)])
      have hd8 : (((0 : Nat) : Int) != 0) = false := by simp
      go_wp2_with (first | (go_at_call 39; refine (round_any _ _).mono ?_; rintro e' w' ⟨rfl, rfl⟩) | (go_at_call 64; (with_reducible refine HW.out.mono ?_); rintro e' w4 ⟨rfl, rfl⟩))
      refine bodyPost_end (results_none rfl _ _ _) rfl ?_
      show RDo e (doM e.inp ⟨2, lo, ((0 : Nat) : Int), (an : Int), (bn : Int), lnn, lsym⟩ d s) _ _
      rw [HO.out]
      refine ⟨rfl, ?_⟩
      rw [HX.out]
      exact HM2.out
    · have hd8 : ((dn : Int) != 0) = true := by simp; omega
      have hd7 : (dn : Int) < 32 := by have := HDN.out; omega
      have hd6 : (0 : Int) ≤ (dn : Int) := by omega
      have HX : Hid (setM ⟨2, lo, (dn : Int), (an : Int), (bn : Int), lnn, lsym⟩ vm s = { s with regs := s.regs.set dn vm }) := Lib.hid (by unfold setM; rw [if_neg (by show ¬ (dn : Int) = 0; omega)]; rfl)
      have zr := HM2.out.regs.cell dn (by rw [HM2.out.rlen]; exact HDN.out)
      have zf := HM2.out.regs.free dn
      have HG := Lib.hid (HM2.out.give dn vm)
      generalize List.getD _ dn 0 = vr at zr
      go_wp2_with (first | (go_at_call 39; refine (round_any _ _).mono ?_; rintro e' w' ⟨rfl, rfl⟩) | (go_at_call 64; (with_reducible refine HW.out.mono ?_); rintro e' w4 ⟨rfl, rfl⟩))
      refine bodyPost_end (results_none rfl _ _ _) rfl ?_
      show RDo e (doM e.inp ⟨2, lo, (dn : Int), (an : Int), (bn : Int), lnn, lsym⟩ d s) _ _
      rw [HO.out]
      refine ⟨rfl, ?_⟩
      rw [HX.out]
      exact HG.out
set_option maxHeartbeats 3200000 in
theorem rdo_store {e : REnv} {w : World} {s : MS} (h : RMAt e w 0 s) (hW : W32 s) (hmn : e.mn ≤ 1000000) (lo d lnn : Int) (dn an bn : Nat) (lsym : ByteArray) (hdn : dn < 32) (han : an < 32) (hbn : bn < 32) (hnn : R32 lnn) (hop : lo = 25) :
    Calls Try.prog 44 #[.pointer (some ⟨e.p, 0, none⟩), .agg #[.int .i64 2, .int .i64 lo, .int .i64 (dn : Int), .int .i64 (an : Int), .int .i64 (bn : Int), .int .i32 lnn, .string lsym], .int .i32 d] w (RDo e (doM e.inp ⟨2, lo, (dn : Int), (an : Int), (bn : Int), lnn, lsym⟩ d s)) := by
  cases hw : wordM s.mem.length (wrap32 (s.regs.getD an 0 + lnn)) with
  | none =>
    have HO : Hid (doM e.inp ⟨2, lo, (dn : Int), (an : Int), (bn : Int), lnn, lsym⟩ d s = .fin 6 s) := Lib.hid (by unfold doM; rw [if_neg (show ¬ lo = 24 by omega), if_pos (show lo = 25 from hop)]; dsimp only; rw [Int.toNat_natCast, hw])
    have HWW := Lib.hid hw
    clear hw
    have HOP := Lib.hid hop
    clear hop
    obtain ⟨bx, hbx⟩ : ∃ bx, w.heap.size = bx := ⟨_, rfl⟩
    obtain ⟨W1, hW1⟩ : ∃ W1, w.alloc (.cells #[.int .i64 2, .int .i64 lo, .int .i64 (dn : Int), .int .i64 (an : Int), .int .i64 (bn : Int), .int .i32 lnn, .string lsym] 39) = W1 := ⟨_, rfl⟩
    have hb1 : Below w.heap.size w W1 := by rw [← hW1]; exact (Below.refl _ _).alloc (Nat.le_refl _) _
    have hn1 : W1.heap[bx]? = some (.cells #[.int .i64 2, .int .i64 lo, .int .i64 (dn : Int), .int .i64 (an : Int), .int .i64 (bn : Int), .int .i32 lnn, .string lsym] 39 (0, 0)) := by rw [← hW1, ← hbx]; exact heap_alloc_new w _
    have hM1 := h.grow hb1
    obtain ⟨x0, -, -, -, -, -, -, -, -⟩ := hM1.cells
    have u3 : W1.cell? ⟨bx, 3, none⟩ = some (.int .i64 (an : Int)) := by rw [cell_of_row _ _ 3 _ _ (0, 0) hn1]; rfl
    have u4 : W1.cell? ⟨bx, 4, none⟩ = some (.int .i64 (bn : Int)) := by rw [cell_of_row _ _ 4 _ _ (0, 0) hn1]; rfl
    have xa := hM1.regs.cell an (by rw [hM1.rlen]; exact han)
    have xb := hM1.regs.cell bn (by rw [hM1.rlen]; exact hbn)
    have hra := getD_rng hW.1 an
    have HM1 := Lib.hid hM1
    have HN1 := Lib.hid hn1
    have HDN := Lib.hid hdn
    have a3 : (0 : Int) ≤ (an : Int) := by omega
    have a4 : (an : Int) < 32 := by omega
    have b3 : (0 : Int) ≤ (bn : Int) := by omega
    have b4 : (bn : Int) < 32 := by omega
    obtain ⟨n1, n2⟩ := hnn
    generalize hraE : s.regs.getD an 0 = ra at *
    generalize hrbE : s.regs.getD bn 0 = rb at *
    obtain ⟨r1, r2⟩ := hra
    have HRA := Lib.hid (And.intro hraE hrbE)
    clear h hW hb1 hn1 hM1 hdn han hbn hraE hrbE
    go_enter Try.func44, Try.ntmps44
    go_wp2_with fail
    go_quiet (fail)
    go_upto_region 2 with fail
    refine name_wpR (fun W2 hW2 => ?_)
    have hM2 : RMAt e W2 0 s := by rw [hW2]; first | exact HM1.out.drewN _ | exact (HM1.out.drewN _).drewN _ | exact HM1.out.drew
    have hn2 : W2.heap[bx]? = some (.cells #[.int .i64 2, .int .i64 lo, .int .i64 (dn : Int), .int .i64 (an : Int), .int .i64 (bn : Int), .int .i32 lnn, .string lsym] 39 (0, 0)) := by rw [hW2]; exact HN1.out
    clear hW2 x0 u3 u4 xa xb hW1 HM1 HN1
    have HM2 := Lib.hid hM2
    obtain ⟨x0, x1, x2, x3, x4, x6, x7, fz, hpl⟩ := hM2.cells
    have u1 : W2.cell? ⟨bx, 1, none⟩ = some (.int .i64 lo) := by rw [cell_of_row _ _ 1 _ _ (0, 0) hn2]; rfl
    have u2 : W2.cell? ⟨bx, 2, none⟩ = some (.int .i64 (dn : Int)) := by rw [cell_of_row _ _ 2 _ _ (0, 0) hn2]; rfl
    have u5 : W2.cell? ⟨bx, 5, none⟩ = some (.int .i32 lnn) := by rw [cell_of_row _ _ 5 _ _ (0, 0) hn2]; rfl
    have f3 := fz 3
    have f4 := fz 4
    have f7 := fz 7
    clear hn2 fz
    have hop := HOP.out
    have HW := Lib.hid (rword_no HM2.out (wrap32 (ra + lnn)) (wrap_rng _) hmn HWW.out)
    subst hop
    go_wp2_with (first | (go_at_call 39; refine (round_any _ _).mono ?_; rintro e' w' ⟨rfl, rfl⟩) | (go_at_call 64; (with_reducible refine HW.out.mono ?_); rintro e' w4 ⟨rfl, hM4⟩; have HM4 := Lib.hid hM4; clear hM4))
    refine bodyPost_end (results_none rfl _ _ _) rfl ?_
    show RDo e (doM e.inp ⟨2, 25, (dn : Int), (an : Int), (bn : Int), lnn, lsym⟩ d s) _ _
    rw [HO.out]
    exact ⟨rfl, HM4.out⟩
  | some k =>
    have HO : Hid (doM e.inp ⟨2, lo, (dn : Int), (an : Int), (bn : Int), lnn, lsym⟩ d s = .go { s with mem := s.mem.set k (s.regs.getD bn 0) }) := Lib.hid (by unfold doM; rw [if_neg (show ¬ lo = 24 by omega), if_pos (show lo = 25 from hop)]; dsimp only; rw [Int.toNat_natCast, Int.toNat_natCast, hw])
    have HWW := Lib.hid hw
    have hkm := wordM_lt hw
    clear hw
    have HOP := Lib.hid hop
    clear hop
    obtain ⟨bx, hbx⟩ : ∃ bx, w.heap.size = bx := ⟨_, rfl⟩
    obtain ⟨W1, hW1⟩ : ∃ W1, w.alloc (.cells #[.int .i64 2, .int .i64 lo, .int .i64 (dn : Int), .int .i64 (an : Int), .int .i64 (bn : Int), .int .i32 lnn, .string lsym] 39) = W1 := ⟨_, rfl⟩
    have hb1 : Below w.heap.size w W1 := by rw [← hW1]; exact (Below.refl _ _).alloc (Nat.le_refl _) _
    have hn1 : W1.heap[bx]? = some (.cells #[.int .i64 2, .int .i64 lo, .int .i64 (dn : Int), .int .i64 (an : Int), .int .i64 (bn : Int), .int .i32 lnn, .string lsym] 39 (0, 0)) := by rw [← hW1, ← hbx]; exact heap_alloc_new w _
    have hM1 := h.grow hb1
    obtain ⟨x0, -, -, -, -, -, -, -, -⟩ := hM1.cells
    have u3 : W1.cell? ⟨bx, 3, none⟩ = some (.int .i64 (an : Int)) := by rw [cell_of_row _ _ 3 _ _ (0, 0) hn1]; rfl
    have u4 : W1.cell? ⟨bx, 4, none⟩ = some (.int .i64 (bn : Int)) := by rw [cell_of_row _ _ 4 _ _ (0, 0) hn1]; rfl
    have xa := hM1.regs.cell an (by rw [hM1.rlen]; exact han)
    have xb := hM1.regs.cell bn (by rw [hM1.rlen]; exact hbn)
    have hra := getD_rng hW.1 an
    have HM1 := Lib.hid hM1
    have HN1 := Lib.hid hn1
    have HDN := Lib.hid hdn
    have a3 : (0 : Int) ≤ (an : Int) := by omega
    have a4 : (an : Int) < 32 := by omega
    have b3 : (0 : Int) ≤ (bn : Int) := by omega
    have b4 : (bn : Int) < 32 := by omega
    obtain ⟨n1, n2⟩ := hnn
    generalize hraE : s.regs.getD an 0 = ra at *
    generalize hrbE : s.regs.getD bn 0 = rb at *
    obtain ⟨r1, r2⟩ := hra
    have HRA := Lib.hid (And.intro hraE hrbE)
    clear h hW hb1 hn1 hM1 hdn han hbn hraE hrbE
    go_enter Try.func44, Try.ntmps44
    go_wp2_with fail
    go_quiet (fail)
    go_upto_region 2 with fail
    refine name_wpR (fun W2 hW2 => ?_)
    have hM2 : RMAt e W2 0 s := by rw [hW2]; first | exact HM1.out.drewN _ | exact (HM1.out.drewN _).drewN _ | exact HM1.out.drew
    have hn2 : W2.heap[bx]? = some (.cells #[.int .i64 2, .int .i64 lo, .int .i64 (dn : Int), .int .i64 (an : Int), .int .i64 (bn : Int), .int .i32 lnn, .string lsym] 39 (0, 0)) := by rw [hW2]; exact HN1.out
    clear hW2 x0 u3 u4 xa xb hW1 HM1 HN1
    have HM2 := Lib.hid hM2
    obtain ⟨x0, x1, x2, x3, x4, x6, x7, fz, hpl⟩ := hM2.cells
    have u1 : W2.cell? ⟨bx, 1, none⟩ = some (.int .i64 lo) := by rw [cell_of_row _ _ 1 _ _ (0, 0) hn2]; rfl
    have u2 : W2.cell? ⟨bx, 2, none⟩ = some (.int .i64 (dn : Int)) := by rw [cell_of_row _ _ 2 _ _ (0, 0) hn2]; rfl
    have u5 : W2.cell? ⟨bx, 5, none⟩ = some (.int .i32 lnn) := by rw [cell_of_row _ _ 5 _ _ (0, 0) hn2]; rfl
    have f3 := fz 3
    have f4 := fz 4
    have f7 := fz 7
    clear hn2 fz
    have hop := HOP.out
    have HW := Lib.hid (rword_yes HM2.out (wrap32 (ra + lnn)) (wrap_rng _) hmn k HWW.out)
    have xm := HM2.out.mem.cell k hkm
    have fm := HM2.out.mem.free k
    have hk1 : (k : Int) < (e.mn : Int) := by rw [← HM2.out.mlen]; omega
    have hk0 : (0 : Int) ≤ (k : Int) := by omega
    have HG := Lib.hid (HM2.out.store k rb)
    subst hop
    generalize s.mem.getD k 0 = vm at *
    clear hkm
    go_wp2_with (first | (go_at_call 39; refine (round_any _ _).mono ?_; rintro e' w' ⟨rfl, rfl⟩) | (go_at_call 64; (with_reducible refine HW.out.mono ?_); rintro e' w4 ⟨rfl, rfl⟩))
    refine bodyPost_end (results_none rfl _ _ _) rfl ?_
    show RDo e (doM e.inp ⟨2, 25, (dn : Int), (an : Int), (bn : Int), lnn, lsym⟩ d s) _ _
    rw [HO.out]
    exact ⟨rfl, HG.out⟩
set_option maxHeartbeats 3200000 in
theorem rdo_other {e : REnv} {w : World} {s : MS} (h : RMAt e w 0 s) (hW : W32 s) (hmn : e.mn ≤ 1000000) (lo d lnn : Int) (dn an bn : Nat) (lsym : ByteArray) (hdn : dn < 32) (han : an < 32) (hbn : bn < 32) (hnn : R32 lnn) (h24 : ¬ lo = 24) (h25 : ¬ lo = 25) (h30 : ¬ lo = 30) :
    Calls Try.prog 44 #[.pointer (some ⟨e.p, 0, none⟩), .agg #[.int .i64 2, .int .i64 lo, .int .i64 (dn : Int), .int .i64 (an : Int), .int .i64 (bn : Int), .int .i32 lnn, .string lsym], .int .i32 d] w (RDo e (doM e.inp ⟨2, lo, (dn : Int), (an : Int), (bn : Int), lnn, lsym⟩ d s)) := by
  have HO : Hid (doM e.inp ⟨2, lo, (dn : Int), (an : Int), (bn : Int), lnn, lsym⟩ d s = .go (setM ⟨2, lo, (dn : Int), (an : Int), (bn : Int), lnn, lsym⟩ d s)) := Lib.hid (by unfold doM; rw [if_neg h24, if_neg h25, if_neg h30])
  obtain ⟨bx, hbx⟩ : ∃ bx, w.heap.size = bx := ⟨_, rfl⟩
  obtain ⟨W1, hW1⟩ : ∃ W1, w.alloc (.cells #[.int .i64 2, .int .i64 lo, .int .i64 (dn : Int), .int .i64 (an : Int), .int .i64 (bn : Int), .int .i32 lnn, .string lsym] 39) = W1 := ⟨_, rfl⟩
  have hb1 : Below w.heap.size w W1 := by rw [← hW1]; exact (Below.refl _ _).alloc (Nat.le_refl _) _
  have hn1 : W1.heap[bx]? = some (.cells #[.int .i64 2, .int .i64 lo, .int .i64 (dn : Int), .int .i64 (an : Int), .int .i64 (bn : Int), .int .i32 lnn, .string lsym] 39 (0, 0)) := by rw [← hW1, ← hbx]; exact heap_alloc_new w _
  have hM1 := h.grow hb1
  obtain ⟨x0, -, -, -, -, -, -, -, -⟩ := hM1.cells
  have u3 : W1.cell? ⟨bx, 3, none⟩ = some (.int .i64 (an : Int)) := by rw [cell_of_row _ _ 3 _ _ (0, 0) hn1]; rfl
  have u4 : W1.cell? ⟨bx, 4, none⟩ = some (.int .i64 (bn : Int)) := by rw [cell_of_row _ _ 4 _ _ (0, 0) hn1]; rfl
  have xa := hM1.regs.cell an (by rw [hM1.rlen]; exact han)
  have xb := hM1.regs.cell bn (by rw [hM1.rlen]; exact hbn)
  have hra := getD_rng hW.1 an
  have HM1 := Lib.hid hM1
  have HN1 := Lib.hid hn1
  have HDN := Lib.hid hdn
  have a3 : (0 : Int) ≤ (an : Int) := by omega
  have a4 : (an : Int) < 32 := by omega
  have b3 : (0 : Int) ≤ (bn : Int) := by omega
  have b4 : (bn : Int) < 32 := by omega
  obtain ⟨n1, n2⟩ := hnn
  generalize hraE : s.regs.getD an 0 = ra at *
  generalize hrbE : s.regs.getD bn 0 = rb at *
  obtain ⟨r1, r2⟩ := hra
  have HRA := Lib.hid (And.intro hraE hrbE)
  clear h hW hb1 hn1 hM1 hdn han hbn hraE hrbE
  go_enter Try.func44, Try.ntmps44
  go_wp2_with fail
  go_quiet (fail)
  go_upto_region 2 with fail
  refine name_wpR (fun W2 hW2 => ?_)
  have hM2 : RMAt e W2 0 s := by rw [hW2]; first | exact HM1.out.drewN _ | exact (HM1.out.drewN _).drewN _ | exact HM1.out.drew
  have hn2 : W2.heap[bx]? = some (.cells #[.int .i64 2, .int .i64 lo, .int .i64 (dn : Int), .int .i64 (an : Int), .int .i64 (bn : Int), .int .i32 lnn, .string lsym] 39 (0, 0)) := by rw [hW2]; exact HN1.out
  clear hW2 x0 u3 u4 xa xb hW1 HM1 HN1
  have HM2 := Lib.hid hM2
  obtain ⟨x0, x1, x2, x3, x4, x6, x7, fz, hpl⟩ := hM2.cells
  have u1 : W2.cell? ⟨bx, 1, none⟩ = some (.int .i64 lo) := by rw [cell_of_row _ _ 1 _ _ (0, 0) hn2]; rfl
  have u2 : W2.cell? ⟨bx, 2, none⟩ = some (.int .i64 (dn : Int)) := by rw [cell_of_row _ _ 2 _ _ (0, 0) hn2]; rfl
  have u5 : W2.cell? ⟨bx, 5, none⟩ = some (.int .i32 lnn) := by rw [cell_of_row _ _ 5 _ _ (0, 0) hn2]; rfl
  have f3 := fz 3
  have f4 := fz 4
  have f7 := fz 7
  clear hn2 fz
  have b24 : (lo == 24) = false := by simp [h24]
  have b25 : (lo == 25) = false := by simp [h25]
  have b30 : (lo == 30) = false := by simp [h30]
  clear h24 h25 h30
  by_cases hd9 : dn = 0
  · subst hd9
    have HX : Hid (setM ⟨2, lo, ((0 : Nat) : Int), (an : Int), (bn : Int), lnn, lsym⟩ d s = s) := Lib.hid (by unfold setM; rw [if_pos (by rfl)])
    have hd8 : (((0 : Nat) : Int) != 0) = false := by simp
    go_wp2_with ((go_at_call 39; refine (round_any _ _).mono ?_; rintro e' w' ⟨rfl, rfl⟩))
    refine bodyPost_end (results_none rfl _ _ _) rfl ?_
    show RDo e (doM e.inp ⟨2, lo, ((0 : Nat) : Int), (an : Int), (bn : Int), lnn, lsym⟩ d s) _ _
    rw [HO.out]
    refine ⟨rfl, ?_⟩
    rw [HX.out]
    exact HM2.out
  · have hd8 : ((dn : Int) != 0) = true := by simp; omega
    have hd7 : (dn : Int) < 32 := by have := HDN.out; omega
    have hd6 : (0 : Int) ≤ (dn : Int) := by omega
    have HX : Hid (setM ⟨2, lo, (dn : Int), (an : Int), (bn : Int), lnn, lsym⟩ d s = { s with regs := s.regs.set dn d }) := Lib.hid (by unfold setM; rw [if_neg (by show ¬ (dn : Int) = 0; omega)]; rfl)
    have zr := HM2.out.regs.cell dn (by rw [HM2.out.rlen]; exact HDN.out)
    have zf := HM2.out.regs.free dn
    have HG := Lib.hid (HM2.out.give dn d)
    generalize List.getD _ dn 0 = vr at zr
    go_wp2_with ((go_at_call 39; refine (round_any _ _).mono ?_; rintro e' w' ⟨rfl, rfl⟩))
    refine bodyPost_end (results_none rfl _ _ _) rfl ?_
    show RDo e (doM e.inp ⟨2, lo, (dn : Int), (an : Int), (bn : Int), lnn, lsym⟩ d s) _ _
    rw [HO.out]
    refine ⟨rfl, ?_⟩
    rw [HX.out]
    exact HG.out
set_option maxHeartbeats 6400000 in
theorem rdo_end {e : REnv} {w : World} {s : MS} (h : RMAt e w 0 s) (hW : W32 s) (hmn : e.mn ≤ 1000000) (lo d lnn : Int) (dn an bn : Nat) (lsym : ByteArray) (hdn : dn < 32) (han : an < 32) (hbn : bn < 32) (hnn : R32 lnn) (hop : lo = 30) (h17 : s.regs.getD 17 0 = 3) :
    Calls Try.prog 44 #[.pointer (some ⟨e.p, 0, none⟩), .agg #[.int .i64 2, .int .i64 lo, .int .i64 (dn : Int), .int .i64 (an : Int), .int .i64 (bn : Int), .int .i32 lnn, .string lsym], .int .i32 d] w (RDo e (doM e.inp ⟨2, lo, (dn : Int), (an : Int), (bn : Int), lnn, lsym⟩ d s)) := by
  have HO : Hid (doM e.inp ⟨2, lo, (dn : Int), (an : Int), (bn : Int), lnn, lsym⟩ d s = .fin 1 { s with v := s.regs.getD 10 0 }) := Lib.hid (by unfold doM; rw [if_neg (show ¬ lo = 24 by omega), if_neg (show ¬ lo = 25 by omega), if_pos (show lo = 30 from hop)]; unfold callM; rw [if_neg (by omega), if_neg (by omega), if_pos h17])
  have HOP := Lib.hid hop
  clear hop
  obtain ⟨bx, hbx⟩ : ∃ bx, w.heap.size = bx := ⟨_, rfl⟩
  obtain ⟨W1, hW1⟩ : ∃ W1, w.alloc (.cells #[.int .i64 2, .int .i64 lo, .int .i64 (dn : Int), .int .i64 (an : Int), .int .i64 (bn : Int), .int .i32 lnn, .string lsym] 39) = W1 := ⟨_, rfl⟩
  have hb1 : Below w.heap.size w W1 := by rw [← hW1]; exact (Below.refl _ _).alloc (Nat.le_refl _) _
  have hn1 : W1.heap[bx]? = some (.cells #[.int .i64 2, .int .i64 lo, .int .i64 (dn : Int), .int .i64 (an : Int), .int .i64 (bn : Int), .int .i32 lnn, .string lsym] 39 (0, 0)) := by rw [← hW1, ← hbx]; exact heap_alloc_new w _
  have hM1 := h.grow hb1
  obtain ⟨x0, -, -, -, -, -, -, -, -⟩ := hM1.cells
  have u3 : W1.cell? ⟨bx, 3, none⟩ = some (.int .i64 (an : Int)) := by rw [cell_of_row _ _ 3 _ _ (0, 0) hn1]; rfl
  have u4 : W1.cell? ⟨bx, 4, none⟩ = some (.int .i64 (bn : Int)) := by rw [cell_of_row _ _ 4 _ _ (0, 0) hn1]; rfl
  have xa := hM1.regs.cell an (by rw [hM1.rlen]; exact han)
  have xb := hM1.regs.cell bn (by rw [hM1.rlen]; exact hbn)
  have hra := getD_rng hW.1 an
  have HM1 := Lib.hid hM1
  have HN1 := Lib.hid hn1
  have HDN := Lib.hid hdn
  have a3 : (0 : Int) ≤ (an : Int) := by omega
  have a4 : (an : Int) < 32 := by omega
  have b3 : (0 : Int) ≤ (bn : Int) := by omega
  have b4 : (bn : Int) < 32 := by omega
  obtain ⟨n1, n2⟩ := hnn
  generalize hraE : s.regs.getD an 0 = ra at *
  generalize hrbE : s.regs.getD bn 0 = rb at *
  obtain ⟨r1, r2⟩ := hra
  have HRA := Lib.hid (And.intro hraE hrbE)
  clear h hW hb1 hn1 hM1 hdn han hbn hraE hrbE
  go_enter Try.func44, Try.ntmps44
  go_wp2_with fail
  go_quiet (fail)
  go_upto_region 2 with fail
  refine name_wpR (fun W2 hW2 => ?_)
  have hM2 : RMAt e W2 0 s := by rw [hW2]; first | exact HM1.out.drewN _ | exact (HM1.out.drewN _).drewN _ | exact HM1.out.drew
  have hn2 : W2.heap[bx]? = some (.cells #[.int .i64 2, .int .i64 lo, .int .i64 (dn : Int), .int .i64 (an : Int), .int .i64 (bn : Int), .int .i32 lnn, .string lsym] 39 (0, 0)) := by rw [hW2]; exact HN1.out
  clear hW2 x0 u3 u4 xa xb hW1 HM1 HN1
  have HM2 := Lib.hid hM2
  obtain ⟨x0, x1, x2, x3, x4, x6, x7, fz, hpl⟩ := hM2.cells
  have u1 : W2.cell? ⟨bx, 1, none⟩ = some (.int .i64 lo) := by rw [cell_of_row _ _ 1 _ _ (0, 0) hn2]; rfl
  have u2 : W2.cell? ⟨bx, 2, none⟩ = some (.int .i64 (dn : Int)) := by rw [cell_of_row _ _ 2 _ _ (0, 0) hn2]; rfl
  have u5 : W2.cell? ⟨bx, 5, none⟩ = some (.int .i32 lnn) := by rw [cell_of_row _ _ 5 _ _ (0, 0) hn2]; rfl
  have f3 := fz 3
  have f4 := fz 4
  have f7 := fz 7
  clear hn2 fz
  have hop := HOP.out
  have x17 := HM2.out.regs.cell 17 (by rw [HM2.out.rlen]; omega)
  have x10 := HM2.out.regs.cell 10 (by rw [HM2.out.rlen]; omega)
  have f10 := HM2.out.regs.free 10
  subst hop
  rw [h17] at x17
  have HG := Lib.hid ((HM2.out.fin 1).val (s.regs.getD 10 0))
  obtain ⟨W3, hW3⟩ : ∃ W3, W2.setCell ⟨e.p, 3, none⟩ (.int .i64 1) = W3 := ⟨_, rfl⟩
  have hM3 : RMAt e W3 1 s := by rw [← hW3]; exact HM2.out.fin 1
  rw [hW3] at HG
  have y0 := hM3.cells.1
  have y4 := hM3.cells.2.2.2.2.1
  have g4 := hM3.cells.2.2.2.2.2.2.2.1 4
  have y10 := hM3.regs.cell 10 (by rw [hM3.rlen]; omega)
  generalize s.regs.getD 10 0 = z9 at *
  clear hM3
  go_wp2_with (go_at_call 39; refine (round_any _ _).mono ?_; rintro e' w' ⟨rfl, rfl⟩)
  refine bodyPost_end (results_none rfl _ _ _) rfl ?_
  show RDo e (doM e.inp ⟨2, 30, (dn : Int), (an : Int), (bn : Int), lnn, lsym⟩ d s) _ _
  rw [HO.out]
  exact ⟨rfl, HG.out⟩
set_option maxHeartbeats 6400000 in
theorem rdo_no {e : REnv} {w : World} {s : MS} (h : RMAt e w 0 s) (hW : W32 s) (hmn : e.mn ≤ 1000000) (lo d lnn : Int) (dn an bn : Nat) (lsym : ByteArray) (hdn : dn < 32) (han : an < 32) (hbn : bn < 32) (hnn : R32 lnn) (hop : lo = 30) (h1 : ¬ s.regs.getD 17 0 = 1) (h2 : ¬ s.regs.getD 17 0 = 2) (h3 : ¬ s.regs.getD 17 0 = 3) :
    Calls Try.prog 44 #[.pointer (some ⟨e.p, 0, none⟩), .agg #[.int .i64 2, .int .i64 lo, .int .i64 (dn : Int), .int .i64 (an : Int), .int .i64 (bn : Int), .int .i32 lnn, .string lsym], .int .i32 d] w (RDo e (doM e.inp ⟨2, lo, (dn : Int), (an : Int), (bn : Int), lnn, lsym⟩ d s)) := by
  have HO : Hid (doM e.inp ⟨2, lo, (dn : Int), (an : Int), (bn : Int), lnn, lsym⟩ d s = .fin 6 s) := Lib.hid (by unfold doM; rw [if_neg (show ¬ lo = 24 by omega), if_neg (show ¬ lo = 25 by omega), if_pos (show lo = 30 from hop)]; unfold callM; rw [if_neg h1, if_neg h2, if_neg h3])
  have HOP := Lib.hid hop
  clear hop
  obtain ⟨bx, hbx⟩ : ∃ bx, w.heap.size = bx := ⟨_, rfl⟩
  obtain ⟨W1, hW1⟩ : ∃ W1, w.alloc (.cells #[.int .i64 2, .int .i64 lo, .int .i64 (dn : Int), .int .i64 (an : Int), .int .i64 (bn : Int), .int .i32 lnn, .string lsym] 39) = W1 := ⟨_, rfl⟩
  have hb1 : Below w.heap.size w W1 := by rw [← hW1]; exact (Below.refl _ _).alloc (Nat.le_refl _) _
  have hn1 : W1.heap[bx]? = some (.cells #[.int .i64 2, .int .i64 lo, .int .i64 (dn : Int), .int .i64 (an : Int), .int .i64 (bn : Int), .int .i32 lnn, .string lsym] 39 (0, 0)) := by rw [← hW1, ← hbx]; exact heap_alloc_new w _
  have hM1 := h.grow hb1
  obtain ⟨x0, -, -, -, -, -, -, -, -⟩ := hM1.cells
  have u3 : W1.cell? ⟨bx, 3, none⟩ = some (.int .i64 (an : Int)) := by rw [cell_of_row _ _ 3 _ _ (0, 0) hn1]; rfl
  have u4 : W1.cell? ⟨bx, 4, none⟩ = some (.int .i64 (bn : Int)) := by rw [cell_of_row _ _ 4 _ _ (0, 0) hn1]; rfl
  have xa := hM1.regs.cell an (by rw [hM1.rlen]; exact han)
  have xb := hM1.regs.cell bn (by rw [hM1.rlen]; exact hbn)
  have hra := getD_rng hW.1 an
  have HM1 := Lib.hid hM1
  have HN1 := Lib.hid hn1
  have HDN := Lib.hid hdn
  have a3 : (0 : Int) ≤ (an : Int) := by omega
  have a4 : (an : Int) < 32 := by omega
  have b3 : (0 : Int) ≤ (bn : Int) := by omega
  have b4 : (bn : Int) < 32 := by omega
  obtain ⟨n1, n2⟩ := hnn
  generalize hraE : s.regs.getD an 0 = ra at *
  generalize hrbE : s.regs.getD bn 0 = rb at *
  obtain ⟨r1, r2⟩ := hra
  have HRA := Lib.hid (And.intro hraE hrbE)
  clear h hW hb1 hn1 hM1 hdn han hbn hraE hrbE
  go_enter Try.func44, Try.ntmps44
  go_wp2_with fail
  go_quiet (fail)
  go_upto_region 2 with fail
  refine name_wpR (fun W2 hW2 => ?_)
  have hM2 : RMAt e W2 0 s := by rw [hW2]; first | exact HM1.out.drewN _ | exact (HM1.out.drewN _).drewN _ | exact HM1.out.drew
  have hn2 : W2.heap[bx]? = some (.cells #[.int .i64 2, .int .i64 lo, .int .i64 (dn : Int), .int .i64 (an : Int), .int .i64 (bn : Int), .int .i32 lnn, .string lsym] 39 (0, 0)) := by rw [hW2]; exact HN1.out
  clear hW2 x0 u3 u4 xa xb hW1 HM1 HN1
  have HM2 := Lib.hid hM2
  obtain ⟨x0, x1, x2, x3, x4, x6, x7, fz, hpl⟩ := hM2.cells
  have u1 : W2.cell? ⟨bx, 1, none⟩ = some (.int .i64 lo) := by rw [cell_of_row _ _ 1 _ _ (0, 0) hn2]; rfl
  have u2 : W2.cell? ⟨bx, 2, none⟩ = some (.int .i64 (dn : Int)) := by rw [cell_of_row _ _ 2 _ _ (0, 0) hn2]; rfl
  have u5 : W2.cell? ⟨bx, 5, none⟩ = some (.int .i32 lnn) := by rw [cell_of_row _ _ 5 _ _ (0, 0) hn2]; rfl
  have f3 := fz 3
  have f4 := fz 4
  have f7 := fz 7
  clear hn2 fz
  have hop := HOP.out
  have x17 := HM2.out.regs.cell 17 (by rw [HM2.out.rlen]; omega)
  have x10 := HM2.out.regs.cell 10 (by rw [HM2.out.rlen]; omega)
  have f10 := HM2.out.regs.free 10
  subst hop
  have HG := Lib.hid (HM2.out.fin 6)
  generalize s.regs.getD 17 0 = z17 at *
  have b1 : (z17 == 1) = false := by simp [h1]
  have b2 : (z17 == 2) = false := by simp [h2]
  have b3 : (z17 == 3) = false := by simp [h3]
  clear h1 h2 h3
  go_wp2_with (go_at_call 39; refine (round_any _ _).mono ?_; rintro e' w' ⟨rfl, rfl⟩)
  refine bodyPost_end (results_none rfl _ _ _) rfl ?_
  show RDo e (doM e.inp ⟨2, 30, (dn : Int), (an : Int), (bn : Int), lnn, lsym⟩ d s) _ _
  rw [HO.out]
  exact ⟨rfl, HG.out⟩
set_option maxHeartbeats 6400000 in
theorem rdo_read0 {e : REnv} {w : World} {s : MS} (h : RMAt e w 0 s) (hW : W32 s) (hmn : e.mn ≤ 1000000) (lo d lnn : Int) (dn an bn : Nat) (lsym : ByteArray) (hdn : dn < 32) (han : an < 32) (hbn : bn < 32) (hnn : R32 lnn) (hop : lo = 30) (h17 : s.regs.getD 17 0 = 2) (hr : s.reads = e.inp.length) (hi : e.inp.length ≤ 90000) :
    Calls Try.prog 44 #[.pointer (some ⟨e.p, 0, none⟩), .agg #[.int .i64 2, .int .i64 lo, .int .i64 (dn : Int), .int .i64 (an : Int), .int .i64 (bn : Int), .int .i32 lnn, .string lsym], .int .i32 d] w (RDo e (doM e.inp ⟨2, lo, (dn : Int), (an : Int), (bn : Int), lnn, lsym⟩ d s)) := by
  have HO : Hid (doM e.inp ⟨2, lo, (dn : Int), (an : Int), (bn : Int), lnn, lsym⟩ d s = .go { s with regs := s.regs.set 10 0 }) := Lib.hid (by unfold doM; rw [if_neg (show ¬ lo = 24 by omega), if_neg (show ¬ lo = 25 by omega), if_pos (show lo = 30 from hop)]; unfold callM readM; rw [if_neg (by omega), if_pos h17, if_pos hr])
  have HOP := Lib.hid hop
  clear hop
  obtain ⟨bx, hbx⟩ : ∃ bx, w.heap.size = bx := ⟨_, rfl⟩
  obtain ⟨W1, hW1⟩ : ∃ W1, w.alloc (.cells #[.int .i64 2, .int .i64 lo, .int .i64 (dn : Int), .int .i64 (an : Int), .int .i64 (bn : Int), .int .i32 lnn, .string lsym] 39) = W1 := ⟨_, rfl⟩
  have hb1 : Below w.heap.size w W1 := by rw [← hW1]; exact (Below.refl _ _).alloc (Nat.le_refl _) _
  have hn1 : W1.heap[bx]? = some (.cells #[.int .i64 2, .int .i64 lo, .int .i64 (dn : Int), .int .i64 (an : Int), .int .i64 (bn : Int), .int .i32 lnn, .string lsym] 39 (0, 0)) := by rw [← hW1, ← hbx]; exact heap_alloc_new w _
  have hM1 := h.grow hb1
  obtain ⟨x0, -, -, -, -, -, -, -, -⟩ := hM1.cells
  have u3 : W1.cell? ⟨bx, 3, none⟩ = some (.int .i64 (an : Int)) := by rw [cell_of_row _ _ 3 _ _ (0, 0) hn1]; rfl
  have u4 : W1.cell? ⟨bx, 4, none⟩ = some (.int .i64 (bn : Int)) := by rw [cell_of_row _ _ 4 _ _ (0, 0) hn1]; rfl
  have xa := hM1.regs.cell an (by rw [hM1.rlen]; exact han)
  have xb := hM1.regs.cell bn (by rw [hM1.rlen]; exact hbn)
  have hra := getD_rng hW.1 an
  have HM1 := Lib.hid hM1
  have HN1 := Lib.hid hn1
  have HDN := Lib.hid hdn
  have a3 : (0 : Int) ≤ (an : Int) := by omega
  have a4 : (an : Int) < 32 := by omega
  have b3 : (0 : Int) ≤ (bn : Int) := by omega
  have b4 : (bn : Int) < 32 := by omega
  obtain ⟨n1, n2⟩ := hnn
  generalize hraE : s.regs.getD an 0 = ra at *
  generalize hrbE : s.regs.getD bn 0 = rb at *
  obtain ⟨r1, r2⟩ := hra
  have HRA := Lib.hid (And.intro hraE hrbE)
  clear h hW hb1 hn1 hM1 hdn han hbn hraE hrbE
  go_enter Try.func44, Try.ntmps44
  go_wp2_with fail
  go_quiet (fail)
  go_upto_region 2 with fail
  refine name_wpR (fun W2 hW2 => ?_)
  have hM2 : RMAt e W2 0 s := by rw [hW2]; first | exact HM1.out.drewN _ | exact (HM1.out.drewN _).drewN _ | exact HM1.out.drew
  have hn2 : W2.heap[bx]? = some (.cells #[.int .i64 2, .int .i64 lo, .int .i64 (dn : Int), .int .i64 (an : Int), .int .i64 (bn : Int), .int .i32 lnn, .string lsym] 39 (0, 0)) := by rw [hW2]; exact HN1.out
  clear hW2 x0 u3 u4 xa xb hW1 HM1 HN1
  have HM2 := Lib.hid hM2
  obtain ⟨x0, x1, x2, x3, x4, x6, x7, fz, hpl⟩ := hM2.cells
  have u1 : W2.cell? ⟨bx, 1, none⟩ = some (.int .i64 lo) := by rw [cell_of_row _ _ 1 _ _ (0, 0) hn2]; rfl
  have u2 : W2.cell? ⟨bx, 2, none⟩ = some (.int .i64 (dn : Int)) := by rw [cell_of_row _ _ 2 _ _ (0, 0) hn2]; rfl
  have u5 : W2.cell? ⟨bx, 5, none⟩ = some (.int .i32 lnn) := by rw [cell_of_row _ _ 5 _ _ (0, 0) hn2]; rfl
  have f3 := fz 3
  have f4 := fz 4
  have f7 := fz 7
  clear hn2 fz
  have hop := HOP.out
  have x17 := HM2.out.regs.cell 17 (by rw [HM2.out.rlen]; omega)
  have x10 := HM2.out.regs.cell 10 (by rw [HM2.out.rlen]; omega)
  have f10 := HM2.out.regs.free 10
  subst hop
  rw [h17] at x17
  obtain ⟨W3, hW3⟩ : ∃ W3, W2.setCell ⟨e.rb, 10, none⟩ (.int .i32 0) = W3 := ⟨_, rfl⟩
  have hM3 : RMAt e W3 0 { s with regs := s.regs.set 10 0 } := by rw [← hW3]; exact HM2.out.give 10 0
  have him := HM2.out.inp.1
  obtain ⟨y0, -, y2, -, -, -, y7, fy, -⟩ := hM3.cells
  have g7 := fy 7
  have HM3 := Lib.hid hM3
  have hi3 : (e.im : Int) ≤ 90000 := by omega
  have hi0 : (0 : Int) ≤ (s.reads : Int) := by omega
  have hrb : decide ((s.reads : Int) < (e.im : Int)) = false := by simp; omega
  generalize (s.reads : Int) = rd at *
  generalize s.regs.getD 10 0 = z9 at *
  clear hM3 h17 fy hr him
  go_upto_region 21 with (go_at_call 39; refine (round_any _ _).mono ?_; rintro e' w' ⟨rfl, rfl⟩)
  go_quiet (fail)
  go_wp2_with fail
  refine bodyPost_end (results_none rfl _ _ _) rfl ?_
  show RDo e (doM e.inp ⟨2, 30, (dn : Int), (an : Int), (bn : Int), lnn, lsym⟩ d s) _ _
  rw [HO.out]
  refine ⟨rfl, ?_⟩
  first | exact HM3.out | exact HM3.out.drew | exact HM3.out.drewN _
set_option maxHeartbeats 6400000 in
theorem rdo_read1 {e : REnv} {w : World} {s : MS} (h : RMAt e w 0 s) (hW : W32 s) (hmn : e.mn ≤ 1000000) (lo d lnn : Int) (dn an bn : Nat) (lsym : ByteArray) (hdn : dn < 32) (han : an < 32) (hbn : bn < 32) (hnn : R32 lnn) (hop : lo = 30) (h17 : s.regs.getD 17 0 = 2) (hr : s.reads < e.inp.length) (hi : e.inp.length ≤ 90000) :
    Calls Try.prog 44 #[.pointer (some ⟨e.p, 0, none⟩), .agg #[.int .i64 2, .int .i64 lo, .int .i64 (dn : Int), .int .i64 (an : Int), .int .i64 (bn : Int), .int .i32 lnn, .string lsym], .int .i32 d] w (RDo e (doM e.inp ⟨2, lo, (dn : Int), (an : Int), (bn : Int), lnn, lsym⟩ d s)) := by
  have HO : Hid (doM e.inp ⟨2, lo, (dn : Int), (an : Int), (bn : Int), lnn, lsym⟩ d s = .go { s with regs := s.regs.set 10 (e.inp.getD s.reads 0), reads := s.reads + 1 }) := Lib.hid (by unfold doM; rw [if_neg (show ¬ lo = 24 by omega), if_neg (show ¬ lo = 25 by omega), if_pos (show lo = 30 from hop)]; unfold callM readM; rw [if_neg (by omega), if_pos h17, if_neg (by omega)])
  have HOP := Lib.hid hop
  clear hop
  obtain ⟨bx, hbx⟩ : ∃ bx, w.heap.size = bx := ⟨_, rfl⟩
  obtain ⟨W1, hW1⟩ : ∃ W1, w.alloc (.cells #[.int .i64 2, .int .i64 lo, .int .i64 (dn : Int), .int .i64 (an : Int), .int .i64 (bn : Int), .int .i32 lnn, .string lsym] 39) = W1 := ⟨_, rfl⟩
  have hb1 : Below w.heap.size w W1 := by rw [← hW1]; exact (Below.refl _ _).alloc (Nat.le_refl _) _
  have hn1 : W1.heap[bx]? = some (.cells #[.int .i64 2, .int .i64 lo, .int .i64 (dn : Int), .int .i64 (an : Int), .int .i64 (bn : Int), .int .i32 lnn, .string lsym] 39 (0, 0)) := by rw [← hW1, ← hbx]; exact heap_alloc_new w _
  have hM1 := h.grow hb1
  obtain ⟨x0, -, -, -, -, -, -, -, -⟩ := hM1.cells
  have u3 : W1.cell? ⟨bx, 3, none⟩ = some (.int .i64 (an : Int)) := by rw [cell_of_row _ _ 3 _ _ (0, 0) hn1]; rfl
  have u4 : W1.cell? ⟨bx, 4, none⟩ = some (.int .i64 (bn : Int)) := by rw [cell_of_row _ _ 4 _ _ (0, 0) hn1]; rfl
  have xa := hM1.regs.cell an (by rw [hM1.rlen]; exact han)
  have xb := hM1.regs.cell bn (by rw [hM1.rlen]; exact hbn)
  have hra := getD_rng hW.1 an
  have HM1 := Lib.hid hM1
  have HN1 := Lib.hid hn1
  have HDN := Lib.hid hdn
  have a3 : (0 : Int) ≤ (an : Int) := by omega
  have a4 : (an : Int) < 32 := by omega
  have b3 : (0 : Int) ≤ (bn : Int) := by omega
  have b4 : (bn : Int) < 32 := by omega
  obtain ⟨n1, n2⟩ := hnn
  generalize hraE : s.regs.getD an 0 = ra at *
  generalize hrbE : s.regs.getD bn 0 = rb at *
  obtain ⟨r1, r2⟩ := hra
  have HRA := Lib.hid (And.intro hraE hrbE)
  clear h hW hb1 hn1 hM1 hdn han hbn hraE hrbE
  go_enter Try.func44, Try.ntmps44
  go_wp2_with fail
  go_quiet (fail)
  go_upto_region 2 with fail
  refine name_wpR (fun W2 hW2 => ?_)
  have hM2 : RMAt e W2 0 s := by rw [hW2]; first | exact HM1.out.drewN _ | exact (HM1.out.drewN _).drewN _ | exact HM1.out.drew
  have hn2 : W2.heap[bx]? = some (.cells #[.int .i64 2, .int .i64 lo, .int .i64 (dn : Int), .int .i64 (an : Int), .int .i64 (bn : Int), .int .i32 lnn, .string lsym] 39 (0, 0)) := by rw [hW2]; exact HN1.out
  clear hW2 x0 u3 u4 xa xb hW1 HM1 HN1
  have HM2 := Lib.hid hM2
  obtain ⟨x0, x1, x2, x3, x4, x6, x7, fz, hpl⟩ := hM2.cells
  have u1 : W2.cell? ⟨bx, 1, none⟩ = some (.int .i64 lo) := by rw [cell_of_row _ _ 1 _ _ (0, 0) hn2]; rfl
  have u2 : W2.cell? ⟨bx, 2, none⟩ = some (.int .i64 (dn : Int)) := by rw [cell_of_row _ _ 2 _ _ (0, 0) hn2]; rfl
  have u5 : W2.cell? ⟨bx, 5, none⟩ = some (.int .i32 lnn) := by rw [cell_of_row _ _ 5 _ _ (0, 0) hn2]; rfl
  have f3 := fz 3
  have f4 := fz 4
  have f7 := fz 7
  clear hn2 fz
  have hop := HOP.out
  have x17 := HM2.out.regs.cell 17 (by rw [HM2.out.rlen]; omega)
  have x10 := HM2.out.regs.cell 10 (by rw [HM2.out.rlen]; omega)
  have f10 := HM2.out.regs.free 10
  subst hop
  rw [h17] at x17
  obtain ⟨W3, hW3⟩ : ∃ W3, W2.setCell ⟨e.rb, 10, none⟩ (.int .i32 0) = W3 := ⟨_, rfl⟩
  have hM3 : RMAt e W3 0 { s with regs := s.regs.set 10 0 } := by rw [← hW3]; exact HM2.out.give 10 0
  have him := HM2.out.inp.1
  obtain ⟨y0, -, y2, -, -, -, y7, fy, -⟩ := hM3.cells
  have g7 := fy 7
  have HM3 := Lib.hid hM3
  have hi3 : (e.im : Int) ≤ 90000 := by omega
  have hi0 : (0 : Int) ≤ (s.reads : Int) := by omega
  have hrb : (s.reads : Int) < (e.im : Int) := by omega
  obtain ⟨g, off, eA, hg, hcell⟩ := hM3.inp.2 (by omega)
  have yi : W3.cell? ⟨g, off + s.reads, none⟩ = some (.int .i32 (e.inp.getD s.reads 0)) := (hM3.below.cell (p := ⟨g, off + s.reads, none⟩) hg).trans (hcell s.reads (by omega))
  rw [eA] at y2
  have y10 := hM3.regs.cell 10 (by rw [hM3.rlen]; omega)
  have q10 := hM3.regs.free 10
  obtain ⟨W4, hW4⟩ : ∃ W4, W3.setCell ⟨e.rb, 10, none⟩ (.int .i32 (e.inp.getD s.reads 0)) = W4 := ⟨_, rfl⟩
  have hM4 : RMAt e W4 0 { s with regs := s.regs.set 10 (e.inp.getD s.reads 0) } := by
    have := hM3.give 10 (e.inp.getD s.reads 0)
    dsimp only at this
    rw [List.set_set] at this
    rw [← hW4]
    exact this
  have k7 := hM4.cells.2.2.2.2.2.2.1
  have kf := hM4.cells.2.2.2.2.2.2.2.1 7
  have HG : Hid (∀ n, RMAt e (((W3.drewN n).setCell ⟨e.rb, 10, none⟩ (.int .i32 (e.inp.getD s.reads 0))).setCell ⟨e.p, 7, none⟩ (.int .i64 ((s.reads : Int) + 1))) 0 { s with regs := s.regs.set 10 (e.inp.getD s.reads 0), reads := s.reads + 1 }) := Lib.hid (fun n => by
    have := (hM3.drewN n).give 10 (e.inp.getD s.reads 0)
    dsimp only at this
    rw [List.set_set] at this
    exact this.took)
  have hi4 : (s.reads : Int) ≤ 90000 := by omega
  generalize e.inp.getD s.reads 0 = zi at *
  generalize List.getD _ 10 0 = z10 at y10
  generalize s.regs.getD 10 0 = z9 at *
  clear hM3 hM4 h17 fy hr him hg hcell eA
  go_upto_region 21 with (go_at_call 39; refine (round_any _ _).mono ?_; rintro e' w' ⟨rfl, rfl⟩)
  go_quiet (fail)
  go_upto_region 22 with fail
  go_region
  all_goals
    go_wp2_with fail
    refine bodyPost_end (results_none rfl _ _ _) rfl ?_
    show RDo e (doM e.inp ⟨2, 30, (dn : Int), (an : Int), (bn : Int), lnn, lsym⟩ d s) _ _
    rw [HO.out]
    refine ⟨rfl, ?_⟩
    first | exact HG.out 0 | exact HG.out 1 | exact HG.out 2 | exact HG.out _
set_option maxHeartbeats 6400000 in
theorem rdo_print {e : REnv} {w : World} {s : MS} (h : RMAt e w 0 s) (hW : W32 s) (hmn : e.mn ≤ 1000000) (lo d lnn : Int) (dn an bn : Nat) (lsym : ByteArray) (hdn : dn < 32) (han : an < 32) (hbn : bn < 32) (hnn : R32 lnn) (hop : lo = 30) (h17 : s.regs.getD 17 0 = 1) (ht : s.tr.length ≤ 100000) :
    Calls Try.prog 44 #[.pointer (some ⟨e.p, 0, none⟩), .agg #[.int .i64 2, .int .i64 lo, .int .i64 (dn : Int), .int .i64 (an : Int), .int .i64 (bn : Int), .int .i32 lnn, .string lsym], .int .i32 d] w (RDo e (doM e.inp ⟨2, lo, (dn : Int), (an : Int), (bn : Int), lnn, lsym⟩ d s)) := by
  have HO : Hid (doM e.inp ⟨2, lo, (dn : Int), (an : Int), (bn : Int), lnn, lsym⟩ d s = .go { s with tr := s.tr ++ [s.regs.getD 10 0] }) := Lib.hid (by unfold doM; rw [if_neg (show ¬ lo = 24 by omega), if_neg (show ¬ lo = 25 by omega), if_pos (show lo = 30 from hop)]; unfold callM; rw [if_pos h17])
  have HOP := Lib.hid hop
  clear hop
  obtain ⟨bx, hbx⟩ : ∃ bx, w.heap.size = bx := ⟨_, rfl⟩
  obtain ⟨W1, hW1⟩ : ∃ W1, w.alloc (.cells #[.int .i64 2, .int .i64 lo, .int .i64 (dn : Int), .int .i64 (an : Int), .int .i64 (bn : Int), .int .i32 lnn, .string lsym] 39) = W1 := ⟨_, rfl⟩
  have hb1 : Below w.heap.size w W1 := by rw [← hW1]; exact (Below.refl _ _).alloc (Nat.le_refl _) _
  have hn1 : W1.heap[bx]? = some (.cells #[.int .i64 2, .int .i64 lo, .int .i64 (dn : Int), .int .i64 (an : Int), .int .i64 (bn : Int), .int .i32 lnn, .string lsym] 39 (0, 0)) := by rw [← hW1, ← hbx]; exact heap_alloc_new w _
  have hM1 := h.grow hb1
  obtain ⟨x0, -, -, -, -, -, -, -, -⟩ := hM1.cells
  have u3 : W1.cell? ⟨bx, 3, none⟩ = some (.int .i64 (an : Int)) := by rw [cell_of_row _ _ 3 _ _ (0, 0) hn1]; rfl
  have u4 : W1.cell? ⟨bx, 4, none⟩ = some (.int .i64 (bn : Int)) := by rw [cell_of_row _ _ 4 _ _ (0, 0) hn1]; rfl
  have xa := hM1.regs.cell an (by rw [hM1.rlen]; exact han)
  have xb := hM1.regs.cell bn (by rw [hM1.rlen]; exact hbn)
  have hra := getD_rng hW.1 an
  have HM1 := Lib.hid hM1
  have HN1 := Lib.hid hn1
  have HDN := Lib.hid hdn
  have a3 : (0 : Int) ≤ (an : Int) := by omega
  have a4 : (an : Int) < 32 := by omega
  have b3 : (0 : Int) ≤ (bn : Int) := by omega
  have b4 : (bn : Int) < 32 := by omega
  obtain ⟨n1, n2⟩ := hnn
  generalize hraE : s.regs.getD an 0 = ra at *
  generalize hrbE : s.regs.getD bn 0 = rb at *
  obtain ⟨r1, r2⟩ := hra
  have HRA := Lib.hid (And.intro hraE hrbE)
  clear h hW hb1 hn1 hM1 hdn han hbn hraE hrbE
  go_enter Try.func44, Try.ntmps44
  go_wp2_with fail
  go_quiet (fail)
  go_upto_region 2 with fail
  refine name_wpR (fun W2 hW2 => ?_)
  have hM2 : RMAt e W2 0 s := by rw [hW2]; first | exact HM1.out.drewN _ | exact (HM1.out.drewN _).drewN _ | exact HM1.out.drew
  have hn2 : W2.heap[bx]? = some (.cells #[.int .i64 2, .int .i64 lo, .int .i64 (dn : Int), .int .i64 (an : Int), .int .i64 (bn : Int), .int .i32 lnn, .string lsym] 39 (0, 0)) := by rw [hW2]; exact HN1.out
  clear hW2 x0 u3 u4 xa xb hW1 HM1 HN1
  have HM2 := Lib.hid hM2
  obtain ⟨x0, x1, x2, x3, x4, x6, x7, fz, hpl⟩ := hM2.cells
  have u1 : W2.cell? ⟨bx, 1, none⟩ = some (.int .i64 lo) := by rw [cell_of_row _ _ 1 _ _ (0, 0) hn2]; rfl
  have u2 : W2.cell? ⟨bx, 2, none⟩ = some (.int .i64 (dn : Int)) := by rw [cell_of_row _ _ 2 _ _ (0, 0) hn2]; rfl
  have u5 : W2.cell? ⟨bx, 5, none⟩ = some (.int .i32 lnn) := by rw [cell_of_row _ _ 5 _ _ (0, 0) hn2]; rfl
  have f3 := fz 3
  have f4 := fz 4
  have f7 := fz 7
  clear hn2 fz
  have hop := HOP.out
  have x17 := HM2.out.regs.cell 17 (by rw [HM2.out.rlen]; omega)
  have x10 := HM2.out.regs.cell 10 (by rw [HM2.out.rlen]; omega)
  have f10 := HM2.out.regs.free 10
  subst hop
  rw [h17] at x17
  obtain ⟨tA, tc, hc, hsl, hbl⟩ := HM2.out.box
  have p5 : W2.cell? ⟨e.p, 5, none⟩ = some (.slice tA s.tr.length tc) := by rw [cell_of_row _ e.p 5 _ _ (0, 0) hc]; rfl
  have hpt : e.p ∉ blk tA := fun hk => (hbl _ hk).2.1 rfl
  have hrt : e.rb ∉ blk tA := fun hk => (hbl _ hk).2.2.1 rfl
  have hmt : e.mb ∉ blk tA := fun hk => (hbl _ hk).2.2.2 rfl
  generalize hz9 : s.regs.getD 10 0 = z9 at *
  obtain ⟨A', c', w2, hr2, hl2, hc2, hf2⟩ := word_push W2.drew tA s.tr.length tc s.tr hsl.drew ht z9
  have hc2w : Chg (blk tA) W2 w2 := ((Chg.refl (blk tA) W2).drew).trans hc2
  have hcp : w2.heap[e.p]? = W2.heap[e.p]? := hc2w.same e.p hpl hpt
  obtain ⟨w3, hw3⟩ : ∃ w3, w2.setCell ⟨e.p, 5, none⟩ (.slice A' (s.tr.length + 1) c') = w3 := ⟨_, rfl⟩
  have hM3 : RMAt e w3 0 { s with tr := s.tr ++ [z9] } := by
    have hlen : (s.tr ++ [z9]).length = s.tr.length + 1 := by simp
    have hp := HM2.out.pge
    have ha := HM2.out.apart
    have hB3 : Chg (e.p :: blk tA) W2 w3 := by rw [← hw3]; exact (hc2w.weaken (fun k hk => .inl (List.mem_cons_of_mem _ hk))).setCell e.p 5 _ (.inl (by simp))
    have o3 : ∀ b, b < W2.heap.size → b ≠ e.p → b ∉ blk tA → w3.heap[b]? = W2.heap[b]? := fun b hb h1 h2 => hB3.same b hb (by simp [h1, h2])
    refine ⟨HM2.out.below.trans (hB3.toBelow (fun k hk => by rcases List.mem_cons.1 hk with rfl | hk; exact hp.1; exact (hbl k hk).1) HM2.out.below.size), hp, ha,
      HM2.out.regs.same (o3 _ HM2.out.regs.lt ha.1.symm hrt), HM2.out.rlen, HM2.out.mem.same (o3 _ HM2.out.mem.lt ha.2.1.symm hmt), HM2.out.mlen, HM2.out.inp, A', c', ?_, ?_, ?_⟩
    · rw [← hw3]
      dsimp only
      rw [hlen, heap_setCell_same w2 e.p 5 _ _ _ (hcp.trans hc)]
      rfl
    · show SLine 1 w3 A' (s.tr ++ [z9]).length c' (cellsW (s.tr ++ [z9]))
      rw [hlen, ← hw3]
      exact hl2.chg ((Chg.refl [e.p] w2).setCell e.p 5 _ (.inl (by simp))) (fun k hk => by
        rw [List.mem_singleton]
        rcases hf2 k hk with h1 | h1
        · exact (hbl k h1).2.1
        · have : W2.drew.heap.size = W2.heap.size := rfl
          omega)
    · intro k hk
      have := HM2.out.below.size
      have e0 : W2.drew.heap.size = W2.heap.size := rfl
      rcases hf2 k hk with h1 | h1
      · exact hbl k h1
      · have l2 := HM2.out.mem.lt
        have l3 := HM2.out.regs.lt
        omega
  have HRUN := Lib.hid hr2
  have q5 : w2.cell? ⟨e.p, 5, none⟩ = some (.slice tA s.tr.length tc) := Chg.readR hc2w e.p 5 hpt p5
  have g5 : w2.frozen? ⟨e.p, 5, none⟩ = false := frozen_of_row _ e.p 5 _ _ (hcp.trans hc)
  have k5 : ((W2.alloc (.cells #[.int .i32 z9] 21)).drew).cell? ⟨e.p, 5, none⟩ = some (.slice tA s.tr.length tc) := Chg.readR ((Chg.refl [] W2).alloc _) e.p 5 (by simp) p5
  have HX10 : Hid (W2.cell? ⟨e.p, 0, none⟩ = some (.slice (some ⟨e.rb, 0, none⟩) 32 32) ∧ W2.cell? ⟨e.rb, 10, none⟩ = some (.int .i32 z9)) := Lib.hid ⟨x0, x10⟩
  have HCA : Hid ((W2.alloc (.cells #[.int .i32 z9] 21)).drew.cell? ⟨e.p, 0, none⟩ = some (.slice (some ⟨e.rb, 0, none⟩) 32 32) ∧ (W2.alloc (.cells #[.int .i32 z9] 21)).drew.cell? ⟨e.rb, 10, none⟩ = some (.int .i32 z9)) := Lib.hid ⟨Chg.readR ((Chg.refl [] W2).alloc _) e.p 0 (by simp) x0, Chg.readR ((Chg.refl [] W2).alloc _) e.rb 10 (by simp) x10⟩
  have HC2 : Hid (w2.cell? ⟨e.p, 0, none⟩ = some (.slice (some ⟨e.rb, 0, none⟩) 32 32) ∧ w2.cell? ⟨e.rb, 10, none⟩ = some (.int .i32 z9)) := Lib.hid ⟨Chg.readR hc2w e.p 0 hpt x0, Chg.readR hc2w e.rb 10 hrt x10⟩
  have HC3 : Hid (w3.cell? ⟨e.p, 0, none⟩ = some (.slice (some ⟨e.rb, 0, none⟩) 32 32) ∧ w3.cell? ⟨e.rb, 10, none⟩ = some (.int .i32 z9)) := Lib.hid ⟨hM3.cells.1, by have := hM3.regs.cell 10 (by rw [hM3.rlen]; omega); dsimp only at this; rw [hz9] at this; exact this⟩
  have HFIN := Lib.hid hM3
  clear hc hsl hbl hpt hrt hmt hr2 hl2 hc2 hf2 hc2w hcp hM3 hz9 h17 ht f10
  go_upto_region 18 with (go_at_call 39; refine (round_any _ _).mono ?_; rintro e' w' ⟨rfl, rfl⟩)
  refine wp_region_held_drew (S := fun V => V.cell? ⟨e.p, 0, none⟩ = some (.slice (some ⟨e.rb, 0, none⟩) 32 32) ∧ V.cell? ⟨e.rb, 10, none⟩ = some (.int .i32 z9)) (by kernel_rfl) HX10.out (fun _ => ?_)
  refine takeH 0 78 (v := (.pointer (some ⟨e.p, 0, none⟩))) rfl rfl (by kernel_rfl) (by kernel_rfl) (by kernel_rfl) (fun _ _ _ h => h) (by rfl) ?_ (by assumption) ?_
  · intro w hSw
    obtain ⟨c0, c10⟩ := hSw
    go_simp
  try simp only [Act.put, List.setIfInBounds_toArray, List.set_cons_zero, List.set_cons_succ]
  refine takeH 1 79 (v := (.pointer (some ⟨e.p, 0, none⟩))) rfl rfl (by kernel_rfl) (by kernel_rfl) (by kernel_rfl) (fun _ _ _ h => h) (by rfl) ?_ (by assumption) ?_
  · intro w hSw
    obtain ⟨c0, c10⟩ := hSw
    go_simp
  try simp only [Act.put, List.setIfInBounds_toArray, List.set_cons_zero, List.set_cons_succ]
  refine takeH 2 80 (v := (.pointer (some ⟨e.p, 0, none⟩))) rfl rfl (by kernel_rfl) (by kernel_rfl) (by kernel_rfl) (fun _ _ _ h => h) (by rfl) ?_ (by assumption) ?_
  · intro w hSw
    obtain ⟨c0, c10⟩ := hSw
    go_simp
  try simp only [Act.put, List.setIfInBounds_toArray, List.set_cons_zero, List.set_cons_succ]
  refine takeH 3 81 (v := (.pointer (some ⟨e.p, 3, none⟩))) rfl rfl (by kernel_rfl) (by kernel_rfl) (by kernel_rfl) (fun _ _ _ h => h) (by rfl) ?_ (by assumption) ?_
  · intro w hSw
    obtain ⟨c0, c10⟩ := hSw
    go_simp
  try simp only [Act.put, List.setIfInBounds_toArray, List.set_cons_zero, List.set_cons_succ]
  refine takeH 4 82 (v := (.pointer (some ⟨e.p, 5, none⟩))) rfl rfl (by kernel_rfl) (by kernel_rfl) (by kernel_rfl) (fun _ _ _ h => h) (by rfl) ?_ (by assumption) ?_
  · intro w hSw
    obtain ⟨c0, c10⟩ := hSw
    go_simp
  try simp only [Act.put, List.setIfInBounds_toArray, List.set_cons_zero, List.set_cons_succ]
  refine takeH 6 84 (v := (.pointer (some ⟨e.p, 0, none⟩))) rfl rfl (by kernel_rfl) (by kernel_rfl) (by kernel_rfl) (fun _ _ _ h => h) (by rfl) ?_ (by assumption) ?_
  · intro w hSw
    obtain ⟨c0, c10⟩ := hSw
    go_simp
  try simp only [Act.put, List.setIfInBounds_toArray, List.set_cons_zero, List.set_cons_succ]
  refine takeH 7 85 (v := (.pointer (some ⟨e.p, 0, none⟩))) rfl rfl (by kernel_rfl) (by kernel_rfl) (by kernel_rfl) (fun _ _ _ h => h) (by rfl) ?_ (by assumption) ?_
  · intro w hSw
    obtain ⟨c0, c10⟩ := hSw
    go_simp
  try simp only [Act.put, List.setIfInBounds_toArray, List.set_cons_zero, List.set_cons_succ]
  refine takeH 8 86 (v := (.pointer (some ⟨e.p, 0, none⟩))) rfl rfl (by kernel_rfl) (by kernel_rfl) (by kernel_rfl) (fun _ _ _ h => h) (by rfl) ?_ (by assumption) ?_
  · intro w hSw
    obtain ⟨c0, c10⟩ := hSw
    go_simp
  try simp only [Act.put, List.setIfInBounds_toArray, List.set_cons_zero, List.set_cons_succ]
  refine takeH 9 87 (v := (.slice (some ⟨e.rb, 0, none⟩) 32 32)) rfl rfl (by kernel_rfl) (by kernel_rfl) (by kernel_rfl) (fun _ _ _ h => h) (by rfl) ?_ (by assumption) ?_
  · intro w hSw
    obtain ⟨c0, c10⟩ := hSw
    go_simp
  try simp only [Act.put, List.setIfInBounds_toArray, List.set_cons_zero, List.set_cons_succ]
  refine takeH 10 88 (v := (.pointer (some ⟨e.rb, 10, none⟩))) rfl rfl (by kernel_rfl) (by kernel_rfl) (by kernel_rfl) (fun _ _ _ h => h) (by rfl) ?_ (by assumption) ?_
  · intro w hSw
    obtain ⟨c0, c10⟩ := hSw
    go_simp
  try simp only [Act.put, List.setIfInBounds_toArray, List.set_cons_zero, List.set_cons_succ]
  refine takeH 11 89 (v := (.int .i32 z9)) rfl rfl (by kernel_rfl) (by kernel_rfl) (by kernel_rfl) (fun _ _ _ h => h) (by rfl) ?_ (by assumption) ?_
  · intro w hSw
    obtain ⟨c0, c10⟩ := hSw
    go_simp
  try simp only [Act.put, List.setIfInBounds_toArray, List.set_cons_zero, List.set_cons_succ]
  refine wpAnyH_ready (rs := [5, 12]) (by kernel_rfl) (by simp) ?_
  refine AllReadyH.cons rfl (fun K hK => ?_) (AllReadyH.cons rfl (fun K hK => ?_) AllReadyH.nil)
  · go_simp
    refine hK.out _ _ (by assumption) (fun _ => ?_)
    clear hK K
    try simp only [Act.put, List.setIfInBounds_toArray, List.set_cons_zero, List.set_cons_succ]
    refine wpAnyH_ready (rs := [12]) (by kernel_rfl) (by simp) ?_
    refine AllReadyH.cons rfl (fun K hK => ?_) AllReadyH.nil
    go_simp
    refine hK.out _ _ HCA.out (fun _ => ?_)
    clear hK K
    try simp only [Act.put, List.setIfInBounds_toArray, List.set_cons_zero, List.set_cons_succ]
    refine wpAnyH_ready (rs := [13]) (by kernel_rfl) (by simp) ?_
    refine appendT_ready rfl (by kernel_rfl) _ _ _ _ rfl _ _ rfl rfl _ _ HRUN.out HC2.out ?_
    try simp only [Act.put, List.setIfInBounds_toArray, List.set_cons_zero, List.set_cons_succ]
    refine takeH 14 92 (v := (.pointer (some ⟨e.p, 0, none⟩))) rfl rfl (by kernel_rfl) (by kernel_rfl) (by kernel_rfl) (fun _ _ _ h => h) (by rfl) ?_ HC2.out ?_
    · intro w hSw
      obtain ⟨c0, c10⟩ := hSw
      go_simp
    try simp only [Act.put, List.setIfInBounds_toArray, List.set_cons_zero, List.set_cons_succ]
    refine takeH 15 93 (v := (.pointer (some ⟨e.p, 3, none⟩))) rfl rfl (by kernel_rfl) (by kernel_rfl) (by kernel_rfl) (fun _ _ _ h => h) (by rfl) ?_ HC2.out ?_
    · intro w hSw
      obtain ⟨c0, c10⟩ := hSw
      go_simp
    try simp only [Act.put, List.setIfInBounds_toArray, List.set_cons_zero, List.set_cons_succ]
    refine takeH 16 94 (v := (.pointer (some ⟨e.p, 5, none⟩))) rfl rfl (by kernel_rfl) (by kernel_rfl) (by kernel_rfl) (fun _ _ _ h => h) (by rfl) ?_ HC2.out ?_
    · intro w hSw
      obtain ⟨c0, c10⟩ := hSw
      go_simp
    try simp only [Act.put, List.setIfInBounds_toArray, List.set_cons_zero, List.set_cons_succ]
    refine wpAnyH_ready (rs := [17]) (by kernel_rfl) (by simp) ?_
    refine AllReadyH.cons rfl (fun K hK => ?_) AllReadyH.nil
    go_simp
    refine hK.out _ _ HC3.out (fun _ => ?_)
    clear hK K
    try simp only [Act.put, List.setIfInBounds_toArray, List.set_cons_zero, List.set_cons_succ]
    refine wpAnyH_done (by kernel_rfl) ?_ _
    go_wp2_with fail
    refine bodyPost_end (results_none rfl _ _ _) rfl ?_
    show RDo e (doM e.inp ⟨2, 30, (dn : Int), (an : Int), (bn : Int), lnn, lsym⟩ d s) _ _
    rw [HO.out]
    exact ⟨rfl, HFIN.out⟩
  · go_simp
    refine hK.out _ _ HCA.out (fun _ => ?_)
    clear hK K
    try simp only [Act.put, List.setIfInBounds_toArray, List.set_cons_zero, List.set_cons_succ]
    refine wpAnyH_ready (rs := [5]) (by kernel_rfl) (by simp) ?_
    refine AllReadyH.cons rfl (fun K hK => ?_) AllReadyH.nil
    go_simp
    refine hK.out _ _ HCA.out (fun _ => ?_)
    clear hK K
    try simp only [Act.put, List.setIfInBounds_toArray, List.set_cons_zero, List.set_cons_succ]
    refine wpAnyH_ready (rs := [13]) (by kernel_rfl) (by simp) ?_
    refine appendT_ready rfl (by kernel_rfl) _ _ _ _ rfl _ _ rfl rfl _ _ HRUN.out HC2.out ?_
    try simp only [Act.put, List.setIfInBounds_toArray, List.set_cons_zero, List.set_cons_succ]
    refine takeH 14 92 (v := (.pointer (some ⟨e.p, 0, none⟩))) rfl rfl (by kernel_rfl) (by kernel_rfl) (by kernel_rfl) (fun _ _ _ h => h) (by rfl) ?_ HC2.out ?_
    · intro w hSw
      obtain ⟨c0, c10⟩ := hSw
      go_simp
    try simp only [Act.put, List.setIfInBounds_toArray, List.set_cons_zero, List.set_cons_succ]
    refine takeH 15 93 (v := (.pointer (some ⟨e.p, 3, none⟩))) rfl rfl (by kernel_rfl) (by kernel_rfl) (by kernel_rfl) (fun _ _ _ h => h) (by rfl) ?_ HC2.out ?_
    · intro w hSw
      obtain ⟨c0, c10⟩ := hSw
      go_simp
    try simp only [Act.put, List.setIfInBounds_toArray, List.set_cons_zero, List.set_cons_succ]
    refine takeH 16 94 (v := (.pointer (some ⟨e.p, 5, none⟩))) rfl rfl (by kernel_rfl) (by kernel_rfl) (by kernel_rfl) (fun _ _ _ h => h) (by rfl) ?_ HC2.out ?_
    · intro w hSw
      obtain ⟨c0, c10⟩ := hSw
      go_simp
    try simp only [Act.put, List.setIfInBounds_toArray, List.set_cons_zero, List.set_cons_succ]
    refine wpAnyH_ready (rs := [17]) (by kernel_rfl) (by simp) ?_
    refine AllReadyH.cons rfl (fun K hK => ?_) AllReadyH.nil
    go_simp
    refine hK.out _ _ HC3.out (fun _ => ?_)
    clear hK K
    try simp only [Act.put, List.setIfInBounds_toArray, List.set_cons_zero, List.set_cons_succ]
    refine wpAnyH_done (by kernel_rfl) ?_ _
    go_wp2_with fail
    refine bodyPost_end (results_none rfl _ _ _) rfl ?_
    show RDo e (doM e.inp ⟨2, 30, (dn : Int), (an : Int), (bn : Int), lnn, lsym⟩ d s) _ _
    rw [HO.out]
    exact ⟨rfl, HFIN.out⟩
/-- What the document's machine does with an instruction. -/
theorem rdo_any {e : REnv} {w : World} {s : MS} (h : RMAt e w 0 s) (hW : W32 s) (hmn : e.mn ≤ 1000000) (l : Ln) (hl : l.Ok) (d : Int) (ht : s.tr.length ≤ 100000) (hr : s.reads ≤ e.inp.length) (hi : e.inp.length ≤ 90000) :
    Calls Try.prog 44 #[.pointer (some ⟨e.p, 0, none⟩), l.val, .int .i32 d] w (RDo e (doM e.inp l d s)) := by
  obtain ⟨a1, a2⟩ := hl.a
  obtain ⟨b1, b2⟩ := hl.b
  obtain ⟨d1, d2⟩ := hl.d
  have hn := hl.n
  have hk := hl.k
  obtain ⟨lk, lo, ld, la, lb, lnn, lsym⟩ := l
  dsimp only at a1 a2 b1 b2 d1 d2 hn hk
  subst hk
  obtain ⟨an, rfl⟩ : ∃ an : Nat, la = (an : Int) := ⟨la.toNat, by omega⟩
  obtain ⟨bn, rfl⟩ : ∃ bn : Nat, lb = (bn : Int) := ⟨lb.toNat, by omega⟩
  obtain ⟨dn, rfl⟩ : ∃ dn : Nat, ld = (dn : Int) := ⟨ld.toNat, by omega⟩
  unfold Ln.val
  dsimp only
  by_cases h24 : lo = 24
  · exact rdo_load h hW hmn lo d lnn dn an bn lsym (by omega) (by omega) (by omega) hn h24
  · by_cases h25 : lo = 25
    · exact rdo_store h hW hmn lo d lnn dn an bn lsym (by omega) (by omega) (by omega) hn h25
    · by_cases h30 : lo = 30
      · by_cases h1 : s.regs.getD 17 0 = 1
        · exact rdo_print h hW hmn lo d lnn dn an bn lsym (by omega) (by omega) (by omega) hn h30 h1 ht
        · by_cases h2 : s.regs.getD 17 0 = 2
          · by_cases hq : s.reads = e.inp.length
            · exact rdo_read0 h hW hmn lo d lnn dn an bn lsym (by omega) (by omega) (by omega) hn h30 h2 hq hi
            · exact rdo_read1 h hW hmn lo d lnn dn an bn lsym (by omega) (by omega) (by omega) hn h30 h2 (by omega) hi
          · by_cases h3 : s.regs.getD 17 0 = 3
            · exact rdo_end h hW hmn lo d lnn dn an bn lsym (by omega) (by omega) (by omega) hn h30 h3
            · exact rdo_no h hW hmn lo d lnn dn an bn lsym (by omega) (by omega) (by omega) hn h30 h1 h2 h3
      · exact rdo_other h hW hmn lo d lnn dn an bn lsym (by omega) (by omega) (by omega) hn h24 h25 h30
end Rv
end Go.Proofs.Ytmedhibjkbahpaa
