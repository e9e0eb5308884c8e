/-
  Bits that are turned within 32 bits change the CRC: the register goes on injectively; a window of bits is laid over the register. No program in sight.
-/
import Derived.Test.YtjcknjadapbooaaCrcMath
namespace Go.Proofs.Ytjcknjadapbooaa
open Go.RowKit
set_option linter.unusedVariables false

theorem crcStep_is (r : Nat) : crcStep r = (r / 2) ^^^ (r % 2 * 3988292384) := by
  unfold crcStep
  have h : r % 2 = 0 ∨ r % 2 = 1 := by omega
  rcases h with h | h
  · rw [if_neg (by omega), h, Nat.zero_mul, Nat.xor_zero]
  · rw [if_pos h, h, Nat.one_mul]
theorem xor4 (a b c d : Nat) : (a ^^^ b) ^^^ (c ^^^ d) = (a ^^^ c) ^^^ (b ^^^ d) := by
  rw [Nat.xor_assoc, Nat.xor_assoc, ← Nat.xor_assoc b c d, Nat.xor_comm b c, Nat.xor_assoc c b d]
theorem crcStep_xor (x y : Nat) : crcStep (x ^^^ y) = crcStep x ^^^ crcStep y := by
  rw [crcStep_is, crcStep_is, crcStep_is, xor4, Nat.xor_div_two]
  congr 1
  have hx : x % 2 = 0 ∨ x % 2 = 1 := by omega
  have hy : y % 2 = 0 ∨ y % 2 = 1 := by omega
  have h := Nat.xor_mod_two_eq_one (a := x) (b := y)
  rcases hx with hx | hx <;> rcases hy with hy | hy
  · rw [hx, hy, show (x ^^^ y) % 2 = 0 from by omega]; decide
  · rw [hx, hy, show (x ^^^ y) % 2 = 1 from by omega]; decide
  · rw [hx, hy, show (x ^^^ y) % 2 = 1 from by omega]; decide
  · rw [hx, hy, show (x ^^^ y) % 2 = 0 from by omega]; decide
theorem xor_cancel {a b c : Nat} (h : a ^^^ c = b ^^^ c) : a = b := by
  have := congrArg (· ^^^ c) h
  simpa [Nat.xor_assoc] using this
theorem xor_cancel_left {a b c : Nat} (h : c ^^^ a = c ^^^ b) : a = b := by
  rw [Nat.xor_comm c a, Nat.xor_comm c b] at h
  exact xor_cancel h
theorem crcStep_inj (a b : Nat) (ha : a < 4294967296) (hb : b < 4294967296) (h : crcStep a = crcStep b) : a = b := by
  have top : ∀ r, r < 4294967296 → (crcStep r).testBit 31 = decide (r % 2 = 1) := by
    intro r hr
    unfold crcStep
    have h0 : (r / 2).testBit 31 = false := Nat.testBit_lt_two_pow (by omega)
    split
    · rename_i h1
      rw [Nat.testBit_xor, h0, show Nat.testBit 3988292384 31 = true from by decide]
      simp [h1]
    · rename_i h1
      rw [h0]
      simp [h1]
  have ta := top a ha
  have tb := top b hb
  rw [h, tb] at ta
  have hp : a % 2 = b % 2 := by
    have := decide_eq_decide.1 ta
    omega
  unfold crcStep at h
  by_cases h1 : a % 2 = 1
  · rw [if_pos h1, if_pos (by omega)] at h
    have h2 : a / 2 = b / 2 := xor_cancel h
    omega
  · rw [if_neg h1, if_neg (by omega)] at h
    omega
theorem crcBit_inj (a b t : Nat) (ha : a < 4294967296) (hb : b < 4294967296) (ht : t < 2) (h : crcBit a t = crcBit b t) : a = b :=
  xor_cancel (crcStep_inj _ _ (Nat.xor_lt_two_pow (n := 32) ha (by omega)) (Nat.xor_lt_two_pow (n := 32) hb (by omega)) h)
/-- The first k bits of f taken in. -/
def feedF (r : Nat) (f : Nat → Nat) : Nat → Nat
  | 0 => r
  | k + 1 => crcBit (feedF r f k) (f k)
theorem feedF_lt (r : Nat) (f : Nat → Nat) (hr : r < 4294967296) (hf : ∀ k, f k < 2) : ∀ k, feedF r f k < 4294967296
  | 0 => hr
  | k + 1 => crcBit_lt _ _ (feedF_lt r f hr hf k) (hf k)
theorem feedF_same (r : Nat) (f g : Nat → Nat) : ∀ k, (∀ i, i < k → f i = g i) → feedF r f k = feedF r g k
  | 0, _ => rfl
  | k + 1, h => by rw [feedF, feedF, feedF_same r f g k (fun i hi => h i (by omega)), h k (by omega)]
/-- Behind a place from which on the bits are the same, unlike registers stay unlike. -/
theorem feedF_back (r : Nat) (f g : Nat → Nat) (hr : r < 4294967296) (hf : ∀ k, f k < 2) (hg : ∀ k, g k < 2) (a : Nat) : ∀ m, (∀ i, a ≤ i → i < a + m → f i = g i) → feedF r f (a + m) = feedF r g (a + m) → feedF r f a = feedF r g a
  | 0, _, h => h
  | m + 1, hs, h => by
    refine feedF_back r f g hr hf hg a m (fun i h1 h2 => hs i h1 (by omega)) ?_
    rw [← Nat.add_assoc, feedF, feedF, hs (a + m) (by omega) (by omega)] at h
    exact crcBit_inj _ _ _ (feedF_lt r f hr hf _) (feedF_lt r g hr hg _) (hg _) h
def iter (x : Nat) : Nat → Nat
  | 0 => x
  | m + 1 => crcStep (iter x m)
theorem iter_lt (x : Nat) (h : x < 4294967296) : ∀ m, iter x m < 4294967296
  | 0 => h
  | m + 1 => crcStep_lt _ (iter_lt x h m)
theorem iter_xor (x y : Nat) : ∀ m, iter (x ^^^ y) m = iter x m ^^^ iter y m
  | 0 => rfl
  | m + 1 => by rw [iter, iter, iter, iter_xor x y m, crcStep_xor]
theorem iter_inj (x y : Nat) (hx : x < 4294967296) (hy : y < 4294967296) : ∀ m, iter x m = iter y m → x = y
  | 0, h => h
  | m + 1, h => iter_inj x y hx hy m (crcStep_inj _ _ (iter_lt x hx m) (iter_lt y hy m) h)
theorem iter_shift (t : Nat) : ∀ m k, iter (t * 2 ^ (m + k)) m = t * 2 ^ k
  | 0, k => by rw [iter, Nat.zero_add]
  | m + 1, k => by
    rw [iter, show m + 1 + k = m + (k + 1) from by omega, iter_shift t m (k + 1), Nat.pow_succ, ← Nat.mul_assoc, crcStep, if_neg (by omega)]
    omega
/-- The bits from s on, m of them, as a number. -/
def wnd (f : Nat → Nat) (s : Nat) : Nat → Nat
  | 0 => 0
  | m + 1 => wnd f s m ^^^ (f (s + m) * 2 ^ m)
theorem feedF_wnd (r : Nat) (f : Nat → Nat) (s : Nat) : ∀ m, feedF r f (s + m) = iter (feedF r f s ^^^ wnd f s m) m
  | 0 => by rw [wnd, Nat.xor_zero]; rfl
  | m + 1 => by
    have h := iter_shift (f (s + m)) m 0
    rw [Nat.pow_zero, Nat.mul_one, Nat.add_zero] at h
    rw [← Nat.add_assoc, feedF, feedF_wnd r f s m, wnd, iter, ← Nat.xor_assoc, iter_xor (feedF r f s ^^^ wnd f s m), h]
    rfl
theorem wnd_bit (f : Nat → Nat) (s : Nat) (hf : ∀ k, f k < 2) : ∀ m i, (wnd f s m).testBit i = (decide (i < m) && decide (f (s + i) = 1))
  | 0, i => by simp [wnd]
  | m + 1, i => by
    rw [wnd, Nat.testBit_xor, wnd_bit f s hf m i]
    have h : f (s + m) = 0 ∨ f (s + m) = 1 := by have := hf (s + m); omega
    rcases h with h | h
    · rw [h, Nat.zero_mul, Nat.zero_testBit, Bool.xor_false]
      by_cases hi : i = m
      · subst hi; simp [h]
      · have e : (i < m + 1) = (i < m) := by apply propext; omega
        simp [e]
    · rw [h, Nat.one_mul, Nat.testBit_two_pow]
      by_cases hi : i = m
      · subst hi; simp [h]
      · have e : (i < m + 1) = (i < m) := by apply propext; omega
        have e2 : ¬ m = i := fun e => hi e.symm
        simp [e, e2]
theorem wnd_lt (f : Nat → Nat) (s : Nat) (hf : ∀ k, f k < 2) : ∀ m, m ≤ 32 → wnd f s m < 4294967296
  | 0, _ => by simp [wnd]
  | m + 1, hm => by
    refine Nat.xor_lt_two_pow (n := 32) (wnd_lt f s hf m (by omega)) ?_
    have h1 : f (s + m) ≤ 1 := by have := hf (s + m); omega
    have h2 : 2 ^ m ≤ 2 ^ 31 := Nat.pow_le_pow_right (by decide) (by omega)
    have h3 : f (s + m) * 2 ^ m ≤ 1 * 2 ^ m := Nat.mul_le_mul_right _ h1
    omega
/-- **Bits that differ only within 32 bits make the register differ.** -/
theorem turned_differs (r : Nat) (f g : Nat → Nat) (hr : r < 4294967296) (hf : ∀ k, f k < 2) (hg : ∀ k, g k < 2) (s m k : Nat) (hm : m ≤ 32)
    (hout : ∀ i, i < s + m + k → (i < s ∨ s + m ≤ i) → f i = g i) (h : feedF r f (s + m + k) = feedF r g (s + m + k)) : ∀ i, i < s + m + k → f i = g i := by
  have h1 := feedF_back r f g hr hf hg (s + m) k (fun i h1 h2 => hout i h2 (.inr h1)) h
  rw [feedF_wnd, feedF_wnd, feedF_same r f g s (fun i hi => hout i (by omega) (.inl hi))] at h1
  have hs := feedF_lt r g hr hg s
  have h2 := iter_inj _ _ (Nat.xor_lt_two_pow (n := 32) hs (wnd_lt f s hf m hm)) (Nat.xor_lt_two_pow (n := 32) hs (wnd_lt g s hg m hm)) m h1
  have h3 := xor_cancel_left h2
  intro i hi
  by_cases hw : i < s ∨ s + m ≤ i
  · exact hout i hi hw
  · have hb := congrArg (fun x => x.testBit (i - s)) h3
    simp only [wnd_bit f s hf, wnd_bit g s hg] at hb
    rw [show s + (i - s) = i from by omega, show decide (i - s < m) = true from by simp; omega, Bool.true_and, Bool.true_and] at hb
    have := decide_eq_decide.1 hb
    have := hf i
    have := hg i
    omega

/-- Bit k of bytes, each byte's lowest first. -/
def bitAt (l : List Nat) (k : Nat) : Nat := l.getD (k / 8) 0 / 2 ^ (k % 8) % 2
theorem bitAt_lt (l : List Nat) (k : Nat) : bitAt l k < 2 := Nat.mod_lt _ (by decide)
theorem crcFold_bits (r : Nat) (l : List Nat) : ∀ k, k ≤ l.length → crcFold r (l.take k) = feedF r (bitAt l) (8 * k)
  | 0, _ => rfl
  | k + 1, hk => by
    have e : l.take (k + 1) = l.take k ++ [l.getD k 0] := by
      rw [List.take_add_one]
      have : k < l.length := by omega
      simp [this]
    have hb : ∀ j, j < 8 → bitAt l (8 * k + j) = l.getD k 0 / 2 ^ j % 2 := fun j hj => by
      unfold bitAt
      rw [show (8 * k + j) / 8 = k from by omega, show (8 * k + j) % 8 = j from by omega]
    rw [e, crcFold_snoc, crcFold_bits r l k (by omega), show 8 * (k + 1) = 8 * k + 7 + 1 from by omega]
    show crcBits _ _ 8 = _
    simp only [crcBits, feedF]
    rw [hb 7 (by omega), hb 6 (by omega), hb 5 (by omega), hb 4 (by omega), hb 3 (by omega), hb 2 (by omega), hb 1 (by omega), show bitAt l (8 * k) = l.getD k 0 / 2 ^ 0 % 2 from hb 0 (by omega)]
end Go.Proofs.Ytjcknjadapbooaa
