/-
  Words of 64 bits as a set of numbers: plain mathematics. No program in sight.
-/
import Derived.RowKit
import Derived.WalkKit
import Derived.Laws.BitsAllLaws
namespace Go.Proofs.Ytadgemcpahfkoaa
open Go.RowKit
set_option linter.unusedVariables false

def W64 : Nat := 18446744073709551616
theorem W64_pow : W64 = 2 ^ 64 := rfl
/-- The word at k. -/
def wd (ws : List Nat) (k : Nat) : Nat := ws.getD k 0
/-- Is n in it? -/
def mem (ws : List Nat) (n : Nat) : Bool := (wd ws (n / 64)).testBit (n % 64)
/-- So many words at least. -/
def grown (ws : List Nat) (k : Nat) : List Nat := ws ++ List.replicate (k - ws.length) 0
/-- n put in. -/
def putW (ws : List Nat) (n : Nat) : List Nat := (grown ws (n / 64 + 1)).set (n / 64) (wd ws (n / 64) ||| 2 ^ (n % 64))
/-- n taken out. -/
def dropW (ws : List Nat) (n : Nat) : List Nat := ws.set (n / 64) (wd ws (n / 64) &&& (18446744073709551615 - 2 ^ (n % 64)))
def Small (ws : List Nat) : Prop := ∀ x ∈ ws, x < 18446744073709551616

theorem wd_ge (ws : List Nat) (k : Nat) (h : ws.length ≤ k) : wd ws k = 0 := by
  unfold wd
  rw [List.getD_eq_getElem?_getD, List.getElem?_eq_none h]
  rfl
theorem wd_lt {ws : List Nat} (h : Small ws) (k : Nat) : wd ws k < 18446744073709551616 := by
  rcases Nat.lt_or_ge k ws.length with hk | hk
  · have e : wd ws k = ws[k] := by simp [wd, List.getD, hk]
    rw [e]
    exact h _ (List.getElem_mem hk)
  · rw [wd_ge ws k hk]; omega
theorem wd_append_left (a b : List Nat) (k : Nat) (h : k < a.length) : wd (a ++ b) k = wd a k := by
  simp [wd, List.getD, List.getElem?_append_left h]
theorem wd_grown (ws : List Nat) (m k : Nat) : wd (grown ws m) k = wd ws k := by
  unfold grown
  rcases Nat.lt_or_ge k ws.length with hk | hk
  · exact wd_append_left _ _ _ hk
  · rw [wd_ge ws k hk]
    unfold wd
    rw [List.getD_eq_getElem?_getD, List.getElem?_append_right hk]
    rcases Nat.lt_or_ge (k - ws.length) (m - ws.length) with h2 | h2
    · rw [List.getElem?_replicate_of_lt h2]; rfl
    · rw [List.getElem?_eq_none (by simpa using h2)]; rfl
theorem grown_length (ws : List Nat) (m : Nat) : (grown ws m).length = max ws.length m := by
  unfold grown
  rw [List.length_append, List.length_replicate]
  omega
theorem grown_of_le (ws : List Nat) (m : Nat) (h : m ≤ ws.length) : grown ws m = ws := by
  unfold grown
  rw [Nat.sub_eq_zero_of_le h]
  simp
theorem grown_small {ws : List Nat} (h : Small ws) (m : Nat) : Small (grown ws m) := by
  intro x hx
  rcases List.mem_append.1 hx with h1 | h1
  · exact h x h1
  · have := List.eq_of_mem_replicate h1; omega
theorem wd_set (ws : List Nat) (k v j : Nat) (hk : k < ws.length) : wd (ws.set k v) j = if j = k then v else wd ws j := by
  unfold wd
  rw [List.getD_eq_getElem?_getD, List.getD_eq_getElem?_getD, List.getElem?_set]
  by_cases e : k = j
  · subst e; simp [hk]
  · rw [if_neg e, if_neg (fun h => e h.symm)]
theorem set_small {ws : List Nat} (h : Small ws) (k v : Nat) (hv : v < 18446744073709551616) : Small (ws.set k v) := by
  intro x hx
  rcases List.mem_or_eq_of_mem_set hx with h1 | h1
  · exact h x h1
  · omega
theorem pow_lt (n : Nat) : 2 ^ (n % 64) < 18446744073709551616 := by
  have h : n % 64 < 64 := Nat.mod_lt _ (by decide)
  calc 2 ^ (n % 64) < 2 ^ 64 := Nat.pow_lt_pow_right (by decide) h
    _ = 18446744073709551616 := by decide
theorem or_ltB {a b : Nat} (ha : a < 18446744073709551616) (hb : b < 18446744073709551616) : a ||| b < 18446744073709551616 := Nat.or_lt_two_pow (n := 64) ha hb
theorem and_lt {a : Nat} (b : Nat) (ha : a < 18446744073709551616) : a &&& b < 18446744073709551616 := Nat.lt_of_le_of_lt Nat.and_le_left ha
theorem mem_ge (ws : List Nat) (n : Nat) (h : 64 * ws.length ≤ n) : mem ws n = false := by
  unfold mem
  rw [wd_ge ws _ (by omega)]
  exact Nat.zero_testBit _
theorem putW_length (ws : List Nat) (n : Nat) : (putW ws n).length = max ws.length (n / 64 + 1) := by
  unfold putW
  rw [List.length_set, grown_length]
theorem putW_small {ws : List Nat} (h : Small ws) (n : Nat) : Small (putW ws n) := set_small (grown_small h _) _ _ (or_ltB (wd_lt h _) (pow_lt n))
theorem dropW_small {ws : List Nat} (h : Small ws) (n : Nat) : Small (dropW ws n) := set_small h _ _ (and_lt _ (wd_lt h _))
theorem same_place (n m : Nat) (h1 : m / 64 = n / 64) (h2 : m % 64 = n % 64) : m = n := by omega
theorem mem_putW (ws : List Nat) (n m : Nat) : mem (putW ws n) m = (mem ws m || decide (m = n)) := by
  unfold mem putW
  rw [wd_set _ _ _ _ (by rw [grown_length]; omega), wd_grown]
  by_cases h : m / 64 = n / 64
  · rw [if_pos h, Nat.testBit_or, Nat.testBit_two_pow, h]
    congr 1
    by_cases h2 : n % 64 = m % 64
    · have := same_place n m h h2.symm; simp [h2, this]
    · have : ¬ m = n := fun e => h2 (by rw [e])
      simp [h2, this]
  · rw [if_neg h]
    have : ¬ m = n := fun e => h (by rw [e])
    simp [this]
theorem testBit_notpow (i j : Nat) (hi : i < 64) (hj : j < 64) : (18446744073709551615 - 2 ^ i).testBit j = !decide (j = i) := by
  have h : (2 ^ 64 - (2 ^ i + 1)).testBit j = (decide (j < 64) && !(2 ^ i).testBit j) := Nat.testBit_two_pow_sub_succ (Nat.pow_lt_pow_right (by decide) hi) j
  have e : 2 ^ 64 - (2 ^ i + 1) = 18446744073709551615 - 2 ^ i := by
    have : (2 : Nat) ^ 64 = 18446744073709551616 := by decide
    omega
  rw [e] at h
  rw [h, Nat.testBit_two_pow]
  by_cases e2 : i = j
  · simp [e2, hj]
  · have : ¬ j = i := fun h => e2 h.symm
    simp [e2, this, hj]
theorem mem_dropW (ws : List Nat) (n m : Nat) : mem (dropW ws n) m = (mem ws m && !decide (m = n)) := by
  rcases Nat.lt_or_ge (n / 64) ws.length with hn | hn
  · unfold mem dropW
    rw [wd_set _ _ _ _ hn]
    by_cases h : m / 64 = n / 64
    · rw [if_pos h, Nat.testBit_and, testBit_notpow _ _ (Nat.mod_lt _ (by decide)) (Nat.mod_lt _ (by decide)), h]
      congr 2
      by_cases h2 : m % 64 = n % 64
      · have := same_place n m h h2; simp [this]
      · have : ¬ m = n := fun e => h2 (by rw [e])
        simp [h2, this]
    · rw [if_neg h]
      have : ¬ m = n := fun e => h (by rw [e])
      simp [this]
  · have e : dropW ws n = ws := by
      unfold dropW
      exact List.set_eq_of_length_le hn
    rw [e]
    by_cases e2 : m = n
    · subst e2
      rw [mem_ge ws m (by omega)]
      rfl
    · simp [e2]
end Go.Proofs.Ytadgemcpahfkoaa
