/-
  A set's numbers in their order: plain mathematics.
-/
import Derived.Test.YtjkcomoadpileaaDoorBn
import Derived.Lib.TrailingZeros
namespace Go.Proofs.YtjkcomoadpileaaDoor
open Go.RowKit
set_option linter.unusedVariables false

/-- The lowest bit that is 1. -/
theorem low_bit (y : Nat) (h0 : y ≠ 0) (hy : y < 18446744073709551616) : Lib.ctz 64 y < 64 ∧ y.testBit (Lib.ctz 64 y) = true ∧ ∀ i, i < Lib.ctz 64 y → y.testBit i = false := by
  obtain ⟨m, hm, hk⟩ := Lib.ctzFrom_spec 64 y (by omega) hy
  have e : Lib.ctz 64 y = Lib.ctzFrom 64 y := by simp [Lib.ctz, h0]
  rw [e]
  generalize Lib.ctzFrom 64 y = t at *
  have hbit : ∀ i, y.testBit i = (decide (t ≤ i) && (2 * m + 1).testBit (i - t)) := fun i => by
    rw [hm, Nat.mul_comm, Nat.testBit_mul_two_pow]
  refine ⟨hk, ?_, fun i hi => ?_⟩
  · rw [hbit, decide_eq_true (Nat.le_refl _), Nat.sub_self]
    simp [Nat.testBit_zero]
  · rw [hbit, decide_eq_false (by omega)]
    rfl
/-- Without its lowest bit. -/
theorem less_low (y : Nat) (h0 : y ≠ 0) (hy : y < 18446744073709551616) (i : Nat) : (y &&& (y - 1)).testBit i = (y.testBit i && !decide (i = Lib.ctz 64 y)) := by
  obtain ⟨m, hm, hk⟩ := Lib.ctzFrom_spec 64 y (by omega) hy
  have e : Lib.ctz 64 y = Lib.ctzFrom 64 y := by simp [Lib.ctz, h0]
  rw [e]
  generalize Lib.ctzFrom 64 y = t at *
  have hbit : y.testBit i = (decide (t ≤ i) && (2 * m + 1).testBit (i - t)) := by
    rw [hm, Nat.mul_comm, Nat.testBit_mul_two_pow]
  have hp : 0 < 2 ^ t := Nat.two_pow_pos t
  have hm1 : y - 1 = 2 ^ t * (2 * m) + (2 ^ t - 1) := by
    have h2 : 2 ^ t * (2 * m + 1) = 2 ^ t * (2 * m) + 2 ^ t := by rw [Nat.mul_add, Nat.mul_one]
    omega
  rw [Nat.testBit_and, hbit]
  by_cases h1 : t ≤ i
  · rw [decide_eq_true h1, Bool.true_and, hm1, Nat.testBit_two_pow_mul_add _ (by omega), if_neg (by omega)]
    by_cases h2 : i = t
    · subst h2
      rw [Nat.sub_self]
      simp [Nat.testBit_zero]
    · obtain ⟨j, hj⟩ : ∃ j, i - t = j + 1 := ⟨i - t - 1, by omega⟩
      rw [hj, Nat.testBit_succ, Nat.testBit_succ, show (2 * m + 1) / 2 = m from by omega, show 2 * m / 2 = m from by omega]
      simp [h2]
  · rw [decide_eq_false h1, Bool.false_and, Bool.false_and, Bool.false_and]

/-- Its numbers below N. -/
def upto (ws : List Nat) (N : Nat) : List Nat := (List.range N).filter (mem ws)
def elems (ws : List Nat) : List Nat := upto ws (64 * ws.length)
theorem upto_succ (ws : List Nat) (N : Nat) : upto ws (N + 1) = if mem ws N = true then upto ws N ++ [N] else upto ws N := by
  unfold upto
  rw [List.range_succ, List.filter_append]
  by_cases h : mem ws N = true
  · rw [if_pos h, List.filter_cons_of_pos h]; rfl
  · rw [if_neg h, List.filter_cons_of_neg h]; simp
theorem upto_gap (ws : List Nat) (a : Nat) : ∀ d, (∀ i, i < d → mem ws (a + i) = false) → upto ws (a + d) = upto ws a
  | 0, _ => rfl
  | d + 1, h => by
    rw [show a + (d + 1) = (a + d) + 1 from rfl, upto_succ, if_neg (by rw [h d (by omega)]; simp)]
    exact upto_gap ws a d (fun i hi => h i (by omega))
theorem mem_upto (ws : List Nat) (N n : Nat) : n ∈ upto ws N ↔ n < N ∧ mem ws n = true := by
  unfold upto
  rw [List.mem_filter, List.mem_range]
theorem mem_elems (ws : List Nat) (n : Nat) : n ∈ elems ws ↔ mem ws n = true := by
  unfold elems
  rw [mem_upto]
  constructor
  · exact fun h => h.2
  · intro h
    refine ⟨?_, h⟩
    rcases Nat.lt_or_ge n (64 * ws.length) with h1 | h1
    · exact h1
    · rw [mem_ge ws n h1] at h; cases h
theorem upto_prefix (ws : List Nat) (a : Nat) : ∀ d, upto ws a <+: upto ws (a + d)
  | 0 => List.prefix_refl _
  | d + 1 => by
    rw [show a + (d + 1) = (a + d) + 1 from rfl, upto_succ]
    split
    · exact (upto_prefix ws a d).trans (List.prefix_append _ _)
    · exact upto_prefix ws a d
theorem upto_le (ws : List Nat) {a b : Nat} (h : a ≤ b) : upto ws a <+: upto ws b := by
  obtain ⟨d, rfl⟩ : ∃ d, b = a + d := ⟨b - a, by omega⟩
  exact upto_prefix ws a d
/-- Where the loop over a word stands: what is left of word k, the bits below j gone. -/
def LeftOf (ws : List Nat) (k j y : Nat) : Prop := y < 18446744073709551616 ∧ j ≤ 64 ∧ ∀ i, i < 64 → y.testBit i = (decide (j ≤ i) && (wd ws k).testBit i)
theorem left_start (ws : List Nat) (hw : Small ws) (k : Nat) : LeftOf ws k 0 (wd ws k) := ⟨wd_lt hw k, by omega, fun i _ => by simp⟩
theorem mem_at (ws : List Nat) (k i : Nat) (hi : i < 64) : mem ws (64 * k + i) = (wd ws k).testBit i := by
  unfold mem
  rw [(place k i hi).1, (place k i hi).2]
theorem left_end (ws : List Nat) (k j y : Nat) (h : LeftOf ws k j y) (h0 : y = 0) : upto ws (64 * k + j) = upto ws (64 * (k + 1)) := by
  obtain ⟨h1, h2, h3⟩ := h
  have := upto_gap ws (64 * k + j) (64 - j) (fun i hi => by
    rw [show 64 * k + j + i = 64 * k + (j + i) from by omega, mem_at ws k (j + i) (by omega)]
    have h4 := h3 (j + i) (by omega)
    rw [h0, Nat.zero_testBit, decide_eq_true (by omega), Bool.true_and] at h4
    exact h4.symm)
  rw [← this]
  congr 1
  omega
theorem left_next (ws : List Nat) (k j y : Nat) (h : LeftOf ws k j y) (h0 : y ≠ 0) : LeftOf ws k (Lib.ctz 64 y + 1) (y &&& (y - 1)) ∧ upto ws (64 * k + (Lib.ctz 64 y + 1)) = upto ws (64 * k + j) ++ [64 * k + Lib.ctz 64 y] ∧ j ≤ Lib.ctz 64 y ∧ Lib.ctz 64 y < 64 := by
  obtain ⟨h1, h2, h3⟩ := h
  obtain ⟨l1, l2, l3⟩ := low_bit y h0 h1
  have ll := less_low y h0 h1
  generalize Lib.ctz 64 y = t at *
  have hj : j ≤ t := by
    have h4 := h3 t l1
    rw [l2] at h4
    rcases Nat.lt_or_ge t j with h5 | h5
    · rw [decide_eq_false (by omega)] at h4; cases h4
    · exact h5
  have hbit : (wd ws k).testBit t = true := by
    have h4 := h3 t l1
    rw [l2, decide_eq_true hj, Bool.true_and] at h4
    exact h4.symm
  refine ⟨⟨Nat.lt_of_le_of_lt Nat.and_le_left h1, by omega, fun i hi => ?_⟩, ?_, hj, l1⟩
  · rw [ll i, h3 i hi]
    rcases Nat.lt_trichotomy i t with h5 | h5 | h5
    · have h6 := l3 i h5
      rw [h3 i hi] at h6
      rw [h6, decide_eq_false (p := t + 1 ≤ i) (by omega)]
      simp
    · subst h5
      rw [decide_eq_false (p := i + 1 ≤ i) (by omega)]
      simp
    · rw [decide_eq_true (p := j ≤ i) (by omega), decide_eq_true (p := t + 1 ≤ i) (by omega), decide_eq_false (p := i = t) (by omega)]
      simp
  · have hg := upto_gap ws (64 * k + j) (t - j) (fun i hi => by
      rw [show 64 * k + j + i = 64 * k + (j + i) from by omega, mem_at ws k (j + i) (by omega)]
      have h4 := h3 (j + i) (by omega)
      rw [l3 (j + i) (by omega), decide_eq_true (by omega), Bool.true_and] at h4
      exact h4.symm)
    rw [show 64 * k + j + (t - j) = 64 * k + t from by omega] at hg
    rw [show 64 * k + (t + 1) = (64 * k + t) + 1 from rfl, upto_succ, mem_at ws k t l1, if_pos hbit, hg]
theorem upto_rises (ws : List Nat) (N : Nat) : (upto ws N).Pairwise (· < ·) := List.Pairwise.filter _ List.pairwise_lt_range
theorem elems_length (ws : List Nat) : (elems ws).length ≤ 64 * ws.length := by
  have h := List.length_filter_le (mem ws) (List.range (64 * ws.length))
  unfold elems upto
  rwa [List.length_range] at h
theorem upto_count (ws : List Nat) (k : Nat) : (upto ws (64 * k + 64)).length = (upto ws (64 * k)).length + cnt (wd ws k) 64 := by
  unfold upto cnt
  rw [List.range_add, List.filter_append, List.length_append, ← List.countP_eq_length_filter (l := List.map _ _), List.countP_map]
  congr 1
  apply List.countP_congr
  intro j hj
  have h : mem ws (64 * k + j) = (wd ws k).testBit j := mem_at ws k j (List.mem_range.1 hj)
  simp only [Function.comp_apply]
  rw [h]
end Go.Proofs.YtjkcomoadpileaaDoor
