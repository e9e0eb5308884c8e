/-
  Bytes with bits turned, one by one; that the CRC tells them. No program in sight.
-/
import Derived.Test.YtjcknjadapbooaaTurnMath
namespace Go.Proofs.Ytjcknjadapbooaa
open Go.RowKit
set_option linter.unusedVariables false

def pbit (p i : Nat) : Nat := p / 2 ^ i % 2
def turnB (l : List Nat) (q : Nat) : List Nat := l.set (q / 8) (l.getD (q / 8) 0 ^^^ 2 ^ (q % 8))
def turnL (l : List Nat) (s p : Nat) : Nat → List Nat
  | 0 => l
  | i + 1 => if pbit p i = 1 then turnB (turnL l s p i) (s + i) else turnL l s p i
def turned (p : Nat) : Nat → Bool
  | 0 => false
  | i + 1 => if pbit p i = 1 then true else turned p i
theorem turnB_length (l : List Nat) (q : Nat) : (turnB l q).length = l.length := List.length_set ..
theorem turnL_length (l : List Nat) (s p : Nat) : ∀ i, (turnL l s p i).length = l.length
  | 0 => rfl
  | i + 1 => by
    rw [turnL]
    split
    · rw [turnB_length, turnL_length l s p i]
    · exact turnL_length l s p i
theorem turn_byte_lt (x q : Nat) (h : x < 256) : x ^^^ 2 ^ (q % 8) < 256 := by
  refine Nat.xor_lt_two_pow (n := 8) h ?_
  have h1 : 2 ^ (q % 8) ≤ 2 ^ 7 := Nat.pow_le_pow_right (by decide) (by omega)
  omega
theorem turnB_lt (l : List Nat) (q : Nat) (h : ∀ x ∈ l, x < 256) : ∀ x ∈ turnB l q, x < 256 := by
  intro x hx
  rcases List.mem_or_eq_of_mem_set hx with hx | rfl
  · exact h x hx
  · refine turn_byte_lt _ _ ?_
    by_cases hi : q / 8 < l.length
    · have e : l.getD (q / 8) 0 = l[q / 8] := by simp [List.getD, hi]
      rw [e]
      exact h _ (List.getElem_mem hi)
    · have e : l.getD (q / 8) 0 = 0 := by simp [List.getD, hi]
      omega
theorem turnL_lt (l : List Nat) (s p : Nat) (h : ∀ x ∈ l, x < 256) : ∀ i, ∀ x ∈ turnL l s p i, x < 256
  | 0, x, hx => h x hx
  | i + 1, x, hx => by
    rw [turnL] at hx
    split at hx
    · exact turnB_lt _ _ (turnL_lt l s p h i) x hx
    · exact turnL_lt l s p h i x hx
theorem bit_is (x i : Nat) : x / 2 ^ i % 2 = if x.testBit i then 1 else 0 := by
  rw [Nat.testBit_eq_decide_div_mod_eq]
  have : x / 2 ^ i % 2 = 0 ∨ x / 2 ^ i % 2 = 1 := by omega
  rcases this with h | h <;> simp [h]
theorem bitAt_turnB (l : List Nat) (q k : Nat) (hq : q / 8 < l.length) : bitAt (turnB l q) k = if k = q then 1 - bitAt l k else bitAt l k := by
  unfold bitAt turnB
  by_cases h8 : k / 8 = q / 8
  · have e : (l.set (q / 8) (l.getD (q / 8) 0 ^^^ 2 ^ (q % 8))).getD (k / 8) 0 = l.getD (q / 8) 0 ^^^ 2 ^ (q % 8) := by
      rw [h8, List.getD_eq_getElem?_getD, List.getElem?_set_self hq]
      rfl
    rw [e, h8, bit_is, bit_is, Nat.testBit_xor, Nat.testBit_two_pow]
    by_cases hk : k = q
    · subst hk
      rw [if_pos rfl]
      simp only [decide_true, Bool.xor_true]
      cases (l.getD (k / 8) 0).testBit (k % 8) <;> rfl
    · have hne : ¬ q % 8 = k % 8 := by omega
      rw [if_neg hk]
      simp [hne]
  · have e : (l.set (q / 8) (l.getD (q / 8) 0 ^^^ 2 ^ (q % 8))).getD (k / 8) 0 = l.getD (k / 8) 0 := by
      rw [List.getD_eq_getElem?_getD, List.getElem?_set_ne (fun e => h8 e.symm), List.getD_eq_getElem?_getD]
    have hk : ¬ k = q := fun e => h8 (by rw [e])
    rw [e, if_neg hk]
theorem turnL_bits (l : List Nat) (s p k : Nat) : ∀ i, s + i ≤ 8 * l.length → bitAt (turnL l s p i) k = if s ≤ k ∧ k < s + i ∧ pbit p (k - s) = 1 then 1 - bitAt l k else bitAt l k
  | 0, _ => by
    rw [turnL, if_neg (by omega)]
  | i + 1, h => by
    have ih := turnL_bits l s p k i (by omega)
    rw [turnL]
    split
    · rename_i hp
      rw [bitAt_turnB _ _ _ (by rw [turnL_length]; omega), ih]
      by_cases hk : k = s + i
      · subst hk
        rw [if_pos rfl, if_neg (by omega), if_pos ⟨by omega, by omega, by rw [show s + i - s = i from by omega]; exact hp⟩]
      · rw [if_neg hk]
        have e : (s ≤ k ∧ k < s + (i + 1) ∧ pbit p (k - s) = 1) = (s ≤ k ∧ k < s + i ∧ pbit p (k - s) = 1) := by
          apply propext
          constructor
          · rintro ⟨a, b, c⟩; exact ⟨a, by omega, c⟩
          · rintro ⟨a, b, c⟩; exact ⟨a, by omega, c⟩
        simp only [e]
    · rename_i hp
      rw [ih]
      have e : (s ≤ k ∧ k < s + (i + 1) ∧ pbit p (k - s) = 1) = (s ≤ k ∧ k < s + i ∧ pbit p (k - s) = 1) := by
        apply propext
        constructor
        · rintro ⟨a, b, c⟩
          refine ⟨a, ?_, c⟩
          rcases Nat.lt_or_ge k (s + i) with h1 | h1
          · exact h1
          · exfalso
            apply hp
            rw [show i = k - s from by omega]
            exact c
        · rintro ⟨a, b, c⟩; exact ⟨a, by omega, c⟩
      simp only [e]
theorem turned_no (l : List Nat) (s p : Nat) : ∀ i, turned p i = false → turnL l s p i = l
  | 0, _ => rfl
  | i + 1, h => by
    rw [turned] at h
    split at h
    · cases h
    · rename_i hp
      rw [turnL, if_neg hp]
      exact turned_no l s p i h
theorem turned_yes (p : Nat) : ∀ i, turned p i = true → ∃ j, j < i ∧ pbit p j = 1
  | 0, h => by cases h
  | i + 1, h => by
    rw [turned] at h
    split at h
    · rename_i hp
      exact ⟨i, by omega, hp⟩
    · obtain ⟨j, hj, hp⟩ := turned_yes p i h
      exact ⟨j, by omega, hp⟩
theorem crc_bits (l : List Nat) : crcMore 0 l = notN (feedF (notN 0) (bitAt l) (8 * l.length)) := by
  unfold crcMore
  rw [← crcFold_bits (notN 0) l l.length (Nat.le_refl _), List.take_of_length_le (Nat.le_refl _)]
theorem notN_inj (a b : Nat) (ha : a < 4294967296) (hb : b < 4294967296) (h : notN a = notN b) : a = b := by
  rw [← notN_notN a ha, h, notN_notN b hb]
/-- **Turned bits change the CRC.** -/
theorem crc_turned (l : List Nat) (s p i : Nat) (hi : i ≤ 32) (hs : s + i ≤ 8 * l.length) (ht : turned p i = true) : crcMore 0 (turnL l s p i) ≠ crcMore 0 l := by
  intro h
  obtain ⟨j, hj, hp⟩ := turned_yes p i ht
  rw [crc_bits, crc_bits, turnL_length] at h
  have h1 := notN_inj _ _ (feedF_lt _ _ (notN_lt 0) (bitAt_lt _) _) (feedF_lt _ _ (notN_lt 0) (bitAt_lt _) _) h
  obtain ⟨k, hk⟩ : ∃ k, 8 * l.length = s + i + k := ⟨8 * l.length - (s + i), by omega⟩
  rw [hk] at h1
  have h2 := turned_differs (notN 0) (bitAt (turnL l s p i)) (bitAt l) (notN_lt 0) (bitAt_lt _) (bitAt_lt _) s i k hi (fun q _ hq => by
    rw [turnL_bits l s p q i hs, if_neg (by omega)]) h1 (s + j) (by omega)
  rw [turnL_bits l s p (s + j) i hs, if_pos ⟨by omega, by omega, by rw [show s + j - s = j from by omega]; exact hp⟩] at h2
  have := bitAt_lt l (s + j)
  omega
end Go.Proofs.Ytjcknjadapbooaa
