/-
  Sets joined, taken from one another, compared: plain mathematics.
-/
import Derived.Test.YthijggnpkomdcaaPop
namespace Go.Proofs.Ythijggnpkomdcaa
open Go.RowKit
set_option linter.unusedVariables false
set_option maxRecDepth 100000

def NOT64 (x : Nat) : Nat := 18446744073709551615 - x
/-- The first k words taken with those of us by f. -/
def zipK (f : Nat → Nat → Nat) (ws us : List Nat) : Nat → List Nat
  | 0 => ws
  | k + 1 => (zipK f ws us k).set k (f (wd ws k) (wd us k))
def orF (x y : Nat) : Nat := x ||| y
def lessF (x y : Nat) : Nat := x &&& (18446744073709551615 - y)
/-- Did one of the first k words turn? -/
def anyK (f : Nat → Nat → Nat) (ws us : List Nat) (k : Nat) : Bool := (List.range k).any fun j => f (wd ws j) (wd us j) != 0
def newF (x y : Nat) : Nat := y &&& (18446744073709551615 - x)
def bothF (x y : Nat) : Nat := x &&& y

theorem zipK_length (f : Nat → Nat → Nat) (ws us : List Nat) : ∀ k, (zipK f ws us k).length = ws.length
  | 0 => rfl
  | k + 1 => by rw [zipK, List.length_set]; exact zipK_length f ws us k
theorem zipK_wd (f : Nat → Nat → Nat) (ws us : List Nat) : ∀ k, k ≤ ws.length → ∀ j, wd (zipK f ws us k) j = if j < k then f (wd ws j) (wd us j) else wd ws j
  | 0, _, j => by simp [zipK]
  | k + 1, hk, j => by
    rw [zipK, wd_set _ _ _ _ (by rw [zipK_length]; omega), zipK_wd f ws us k (by omega) j]
    by_cases e : j = k
    · subst e
      rw [if_pos rfl, if_pos (by omega)]
    · rw [if_neg e]
      by_cases h : j < k
      · rw [if_pos h, if_pos (by omega)]
      · rw [if_neg h, if_neg (by omega)]
theorem zipK_small (f : Nat → Nat → Nat) (ws us : List Nat) (hw : Small ws) (hf : ∀ j, f (wd ws j) (wd us j) < 18446744073709551616) : ∀ k, Small (zipK f ws us k)
  | 0 => hw
  | k + 1 => set_small (zipK_small f ws us hw hf k) _ _ (hf k)
theorem anyK_succ (f : Nat → Nat → Nat) (ws us : List Nat) (k : Nat) : anyK f ws us (k + 1) = (anyK f ws us k || f (wd ws k) (wd us k) != 0) := by
  unfold anyK
  rw [List.range_succ, List.any_append]
  simp
theorem orF_lt {ws us : List Nat} (hw : Small ws) (hu : Small us) (j : Nat) : orF (wd ws j) (wd us j) < 18446744073709551616 := or_lt (wd_lt hw j) (wd_lt hu j)
theorem lessF_lt {ws : List Nat} (us : List Nat) (hw : Small ws) (j : Nat) : lessF (wd ws j) (wd us j) < 18446744073709551616 := and_lt _ (wd_lt hw j)
theorem testBit_not64 (y j : Nat) (hy : y < 18446744073709551616) (hj : j < 64) : (18446744073709551615 - y).testBit j = !y.testBit j := by
  have hy2 : y < 2 ^ 64 := by
    have : (2 : Nat) ^ 64 = 18446744073709551616 := by decide
    omega
  have h : (2 ^ 64 - (y + 1)).testBit j = (decide (j < 64) && !y.testBit j) := Nat.testBit_two_pow_sub_succ hy2 j
  have e : 2 ^ 64 - (y + 1) = 18446744073709551615 - y := by
    have : (2 : Nat) ^ 64 = 18446744073709551616 := by decide
    omega
  rw [e] at h
  rw [h]
  simp [hj]
/-- All of both. -/
def joinW (ws us : List Nat) : List Nat := zipK orF (grown ws us.length) us us.length
def joinT (ws us : List Nat) : Bool := anyK newF (grown ws us.length) us us.length
def minusW (ws us : List Nat) : List Nat := zipK lessF ws us (min ws.length us.length)
def minusT (ws us : List Nat) : Bool := anyK bothF ws us (min ws.length us.length)
theorem mem_joinW (ws us : List Nat) (n : Nat) : mem (joinW ws us) n = (mem ws n || mem us n) := by
  unfold mem joinW
  rw [zipK_wd _ _ _ _ (by rw [grown_length]; omega), wd_grown]
  split
  · unfold orF
    rw [Nat.testBit_or]
  · rw [wd_ge us (n / 64) (by omega)]
    simp
theorem mem_minusW (ws us : List Nat) (hu : Small us) (n : Nat) : mem (minusW ws us) n = (mem ws n && !mem us n) := by
  unfold mem minusW
  rw [zipK_wd _ _ _ _ (by omega)]
  split
  · unfold lessF
    rw [Nat.testBit_and, testBit_not64 _ _ (wd_lt hu _) (Nat.mod_lt _ (by decide))]
  · rename_i h
    rcases Nat.lt_or_ge (n / 64) us.length with h2 | h2
    · rw [wd_ge ws (n / 64) (by omega)]
      simp
    · rw [wd_ge us (n / 64) h2]
      simp
theorem bit_exists (x : Nat) (hx : x < 18446744073709551616) : (x != 0) = true ↔ ∃ j, j < 64 ∧ x.testBit j = true := by
  constructor
  · intro h
    have h0 : x ≠ 0 := by simpa using h
    obtain ⟨j, hj⟩ := Nat.exists_testBit_of_ne_zero h0
    refine ⟨j, ?_, hj⟩
    rcases Nat.lt_or_ge j 64 with h1 | h1
    · exact h1
    · have h3 : x < 2 ^ j := Nat.lt_of_lt_of_le (show x < 2 ^ 64 from hx) (Nat.pow_le_pow_right (by decide) h1)
      rw [Nat.testBit_lt_two_pow h3] at hj
      cases hj
  · rintro ⟨j, _, hj⟩
    have h0 : x ≠ 0 := fun e => by rw [e, Nat.zero_testBit] at hj; cases hj
    simpa using h0
theorem anyK_iff (f : Nat → Nat → Nat) (ws us : List Nat) (k : Nat) : anyK f ws us k = true ↔ ∃ j, j < k ∧ (f (wd ws j) (wd us j) != 0) = true := by
  unfold anyK
  rw [List.any_eq_true]
  constructor
  · rintro ⟨j, hj, h⟩
    exact ⟨j, List.mem_range.1 hj, h⟩
  · rintro ⟨j, hj, h⟩
    exact ⟨j, List.mem_range.2 hj, h⟩
theorem place (k j : Nat) (hj : j < 64) : (64 * k + j) / 64 = k ∧ (64 * k + j) % 64 = j := by omega
theorem joinT_iff (ws us : List Nat) (hw : Small ws) (hu : Small us) : joinT ws us = true ↔ ∃ n, mem us n = true ∧ mem ws n = false := by
  unfold joinT
  rw [anyK_iff]
  constructor
  · rintro ⟨k, hk, h⟩
    rw [wd_grown] at h
    obtain ⟨j, hj, hb⟩ := (bit_exists _ (and_lt _ (wd_lt hu k))).1 h
    rw [Nat.testBit_and, testBit_not64 _ _ (wd_lt hw _) hj, Bool.and_eq_true] at hb
    refine ⟨64 * k + j, ?_, ?_⟩
    · unfold mem
      rw [(place k j hj).1, (place k j hj).2]
      exact hb.1
    · unfold mem
      rw [(place k j hj).1, (place k j hj).2]
      simpa using hb.2
  · rintro ⟨n, h1, h2⟩
    have hn : n / 64 < us.length := by
      rcases Nat.lt_or_ge (n / 64) us.length with h | h
      · exact h
      · rw [mem_ge us n (by omega)] at h1; cases h1
    refine ⟨n / 64, hn, ?_⟩
    rw [wd_grown]
    refine (bit_exists _ (and_lt _ (wd_lt hu _))).2 ⟨n % 64, Nat.mod_lt _ (by decide), ?_⟩
    rw [Nat.testBit_and, testBit_not64 _ _ (wd_lt hw _) (Nat.mod_lt _ (by decide))]
    unfold mem at h1 h2
    rw [h1, h2]
    rfl
theorem minusT_iff (ws us : List Nat) (hw : Small ws) : minusT ws us = true ↔ ∃ n, mem ws n = true ∧ mem us n = true := by
  unfold minusT
  rw [anyK_iff]
  constructor
  · rintro ⟨k, hk, h⟩
    obtain ⟨j, hj, hb⟩ := (bit_exists _ (and_lt _ (wd_lt hw k))).1 h
    rw [Nat.testBit_and, Bool.and_eq_true] at hb
    refine ⟨64 * k + j, ?_, ?_⟩
    · unfold mem
      rw [(place k j hj).1, (place k j hj).2]
      exact hb.1
    · unfold mem
      rw [(place k j hj).1, (place k j hj).2]
      exact hb.2
  · rintro ⟨n, h1, h2⟩
    have hn : n / 64 < us.length := by
      rcases Nat.lt_or_ge (n / 64) us.length with h | h
      · exact h
      · rw [mem_ge us n (by omega)] at h2; cases h2
    have hn2 : n / 64 < ws.length := by
      rcases Nat.lt_or_ge (n / 64) ws.length with h | h
      · exact h
      · rw [mem_ge ws n (by omega)] at h1; cases h1
    refine ⟨n / 64, by omega, ?_⟩
    refine (bit_exists _ (and_lt _ (wd_lt hw _))).2 ⟨n % 64, Nat.mod_lt _ (by decide), ?_⟩
    rw [Nat.testBit_and]
    unfold mem at h1 h2
    rw [h1, h2]
    rfl
/-- Of what is the same. -/
theorem sameW_iff (ws us : List Nat) (hw : Small ws) (hu : Small us) : (∀ n, mem ws n = mem us n) ↔ ∀ k, wd ws k = wd us k := by
  constructor
  · intro h k
    apply Nat.eq_of_testBit_eq
    intro j
    rcases Nat.lt_or_ge j 64 with hj | hj
    · have := h (64 * k + j)
      unfold mem at this
      rwa [(place k j hj).1, (place k j hj).2] at this
    · have p : (2 : Nat) ^ 64 ≤ 2 ^ j := Nat.pow_le_pow_right (by decide) hj
      rw [Nat.testBit_lt_two_pow (Nat.lt_of_lt_of_le (show _ < 2 ^ 64 from wd_lt hw k) p), Nat.testBit_lt_two_pow (Nat.lt_of_lt_of_le (show _ < 2 ^ 64 from wd_lt hu k) p)]
  · intro h n
    unfold mem
    rw [h]
end Go.Proofs.Ythijggnpkomdcaa
