/-
  CRC-32 on plain numbers: the register bit by bit. No program in sight.
  Bits that are turned within 32 bits change the CRC: the register goes on injectively; a window of bits is laid over the register. No program in sight.
  Bytes with bits turned, one by one; that the CRC tells them. No program in sight.
  Frames of records, on plain lists of bytes: the frame, the first frame of bytes, all frames at the front; cut, and with bits turned. No program in sight.
  Words of 64 bits as a set of numbers: plain mathematics. No program in sight.
  Plain lemmas on words of 32 bits: reckoning that goes round modulo 2^32. No program in sight.
  More plain lemmas on words: powers of two, the floor of a quotient, bits one by one. No program in sight.
-/
import Derived.RowKit
import Derived.WalkKit
import Derived.Laws.BitsAllLaws
namespace Go.Proofs.YtkjdjglknbgeaaaGreatDoor
open Go.RowKit
set_option linter.unusedVariables false

def crcStep (r : Nat) : Nat := if r % 2 = 1 then (r / 2) ^^^ 3988292384 else r / 2
/-- One bit taken in: laid over the lowest one, then shifted. -/
def crcBit (r b : Nat) : Nat := crcStep (r ^^^ b)
/-- The first k bits of a byte, the lowest first. -/
def crcBits (r x : Nat) : Nat → Nat
  | 0 => r
  | k + 1 => crcBit (crcBits r x k) (x / 2 ^ k % 2)
def crcByte (r x : Nat) : Nat := crcBits r x 8
def crcFold (r : Nat) (l : List Nat) : Nat := l.foldl crcByte r
def notN (r : Nat) : Nat := 4294967295 - r
def crcMore (s : Nat) (l : List Nat) : Nat := notN (crcFold (notN s) l)

theorem crcStep_lt (r : Nat) (h : r < 4294967296) : crcStep r < 4294967296 := by
  unfold crcStep
  split
  · exact Nat.xor_lt_two_pow (n := 32) (by omega) (by omega)
  · omega
theorem crcBit_lt (r b : Nat) (h : r < 4294967296) (hb : b < 2) : crcBit r b < 4294967296 :=
  crcStep_lt _ (Nat.xor_lt_two_pow (n := 32) h (by omega))
theorem crcBits_lt (r x : Nat) (h : r < 4294967296) : ∀ k, crcBits r x k < 4294967296
  | 0 => h
  | k + 1 => crcBit_lt _ _ (crcBits_lt r x h k) (by omega)
theorem crcByte_lt (r x : Nat) (h : r < 4294967296) : crcByte r x < 4294967296 := crcBits_lt r x h 8
theorem crcFold_lt : ∀ (l : List Nat) (r : Nat), r < 4294967296 → crcFold r l < 4294967296
  | [], r, h => h
  | x :: l, _, h => crcFold_lt l _ (crcByte_lt _ x h)
theorem crcFold_append (r : Nat) (a b : List Nat) : crcFold r (a ++ b) = crcFold (crcFold r a) b := List.foldl_append ..
theorem crcFold_snoc (r : Nat) (a : List Nat) (x : Nat) : crcFold r (a ++ [x]) = crcByte (crcFold r a) x := by rw [crcFold_append]; rfl
theorem notN_lt (r : Nat) : notN r < 4294967296 := by unfold notN; omega
theorem notN_notN (r : Nat) (h : r < 4294967296) : notN (notN r) = r := by unfold notN; omega
theorem crcMore_lt (s : Nat) (l : List Nat) : crcMore s l < 4294967296 := notN_lt _
theorem crcMore_append (s : Nat) (a b : List Nat) : crcMore (crcMore s a) b = crcMore s (a ++ b) := by
  unfold crcMore
  rw [notN_notN _ (crcFold_lt _ _ (notN_lt _)), crcFold_append]
theorem crcMore_nil (s : Nat) (h : s < 4294967296) : crcMore s [] = s := notN_notN s h
theorem xor_bit_div (r b : Nat) (hb : b < 2) : (r ^^^ b) / 2 = r / 2 := by
  have h := Nat.xor_div_two (a := r) (b := b)
  rw [h, show b / 2 = 0 from by omega, Nat.xor_zero]
theorem xor_bit_mod (r b : Nat) (hb : b < 2) : (r ^^^ b) % 2 = 1 ↔ r % 2 ≠ b := by
  have h := Nat.xor_mod_two_eq_one (a := r) (b := b)
  omega
theorem crcBit_yes (r b : Nat) (hb : b < 2) (h : r % 2 ≠ b) : crcBit r b = (r / 2) ^^^ 3988292384 := by
  unfold crcBit crcStep
  rw [if_pos ((xor_bit_mod r b hb).2 h), xor_bit_div r b hb]
theorem crcBit_no (r b : Nat) (hb : b < 2) (h : r % 2 = b) : crcBit r b = r / 2 := by
  unfold crcBit crcStep
  rw [if_neg (fun e => (xor_bit_mod r b hb).1 e h), xor_bit_div r b hb]
end Go.Proofs.YtkjdjglknbgeaaaGreatDoor
namespace Go.Proofs.YtkjdjglknbgeaaaGreatDoor
open Go.RowKit
set_option linter.unusedVariables false

theorem crcStep_is (r : Nat) : crcStep r = (r / 2) ^^^ (r % 2 * 3988292384) := by
  unfold crcStep
  have h : r % 2 = 0 ∨ r % 2 = 1 := by omega
  rcases h with h | h
  · rw [if_neg (by omega), h, Nat.zero_mul, Nat.xor_zero]
  · rw [if_pos h, h, Nat.one_mul]
theorem xor4 (a b c d : Nat) : (a ^^^ b) ^^^ (c ^^^ d) = (a ^^^ c) ^^^ (b ^^^ d) := by
  rw [Nat.xor_assoc, Nat.xor_assoc, ← Nat.xor_assoc b c d, Nat.xor_comm b c, Nat.xor_assoc c b d]
theorem crcStep_xor (x y : Nat) : crcStep (x ^^^ y) = crcStep x ^^^ crcStep y := by
  rw [crcStep_is, crcStep_is, crcStep_is, xor4, Nat.xor_div_two]
  congr 1
  have hx : x % 2 = 0 ∨ x % 2 = 1 := by omega
  have hy : y % 2 = 0 ∨ y % 2 = 1 := by omega
  have h := Nat.xor_mod_two_eq_one (a := x) (b := y)
  rcases hx with hx | hx <;> rcases hy with hy | hy
  · rw [hx, hy, show (x ^^^ y) % 2 = 0 from by omega]; decide
  · rw [hx, hy, show (x ^^^ y) % 2 = 1 from by omega]; decide
  · rw [hx, hy, show (x ^^^ y) % 2 = 1 from by omega]; decide
  · rw [hx, hy, show (x ^^^ y) % 2 = 0 from by omega]; decide
theorem xor_cancel {a b c : Nat} (h : a ^^^ c = b ^^^ c) : a = b := by
  have := congrArg (· ^^^ c) h
  simpa [Nat.xor_assoc] using this
theorem xor_cancel_left {a b c : Nat} (h : c ^^^ a = c ^^^ b) : a = b := by
  rw [Nat.xor_comm c a, Nat.xor_comm c b] at h
  exact xor_cancel h
theorem crcStep_inj (a b : Nat) (ha : a < 4294967296) (hb : b < 4294967296) (h : crcStep a = crcStep b) : a = b := by
  have top : ∀ r, r < 4294967296 → (crcStep r).testBit 31 = decide (r % 2 = 1) := by
    intro r hr
    unfold crcStep
    have h0 : (r / 2).testBit 31 = false := Nat.testBit_lt_two_pow (by omega)
    split
    · rename_i h1
      rw [Nat.testBit_xor, h0, show Nat.testBit 3988292384 31 = true from by decide]
      simp [h1]
    · rename_i h1
      rw [h0]
      simp [h1]
  have ta := top a ha
  have tb := top b hb
  rw [h, tb] at ta
  have hp : a % 2 = b % 2 := by
    have := decide_eq_decide.1 ta
    omega
  unfold crcStep at h
  by_cases h1 : a % 2 = 1
  · rw [if_pos h1, if_pos (by omega)] at h
    have h2 : a / 2 = b / 2 := xor_cancel h
    omega
  · rw [if_neg h1, if_neg (by omega)] at h
    omega
theorem crcBit_inj (a b t : Nat) (ha : a < 4294967296) (hb : b < 4294967296) (ht : t < 2) (h : crcBit a t = crcBit b t) : a = b :=
  xor_cancel (crcStep_inj _ _ (Nat.xor_lt_two_pow (n := 32) ha (by omega)) (Nat.xor_lt_two_pow (n := 32) hb (by omega)) h)
/-- The first k bits of f taken in. -/
def feedF (r : Nat) (f : Nat → Nat) : Nat → Nat
  | 0 => r
  | k + 1 => crcBit (feedF r f k) (f k)
theorem feedF_lt (r : Nat) (f : Nat → Nat) (hr : r < 4294967296) (hf : ∀ k, f k < 2) : ∀ k, feedF r f k < 4294967296
  | 0 => hr
  | k + 1 => crcBit_lt _ _ (feedF_lt r f hr hf k) (hf k)
theorem feedF_same (r : Nat) (f g : Nat → Nat) : ∀ k, (∀ i, i < k → f i = g i) → feedF r f k = feedF r g k
  | 0, _ => rfl
  | k + 1, h => by rw [feedF, feedF, feedF_same r f g k (fun i hi => h i (by omega)), h k (by omega)]
/-- Behind a place from which on the bits are the same, unlike registers stay unlike. -/
theorem feedF_back (r : Nat) (f g : Nat → Nat) (hr : r < 4294967296) (hf : ∀ k, f k < 2) (hg : ∀ k, g k < 2) (a : Nat) : ∀ m, (∀ i, a ≤ i → i < a + m → f i = g i) → feedF r f (a + m) = feedF r g (a + m) → feedF r f a = feedF r g a
  | 0, _, h => h
  | m + 1, hs, h => by
    refine feedF_back r f g hr hf hg a m (fun i h1 h2 => hs i h1 (by omega)) ?_
    rw [← Nat.add_assoc, feedF, feedF, hs (a + m) (by omega) (by omega)] at h
    exact crcBit_inj _ _ _ (feedF_lt r f hr hf _) (feedF_lt r g hr hg _) (hg _) h
def iter (x : Nat) : Nat → Nat
  | 0 => x
  | m + 1 => crcStep (iter x m)
theorem iter_lt (x : Nat) (h : x < 4294967296) : ∀ m, iter x m < 4294967296
  | 0 => h
  | m + 1 => crcStep_lt _ (iter_lt x h m)
theorem iter_xor (x y : Nat) : ∀ m, iter (x ^^^ y) m = iter x m ^^^ iter y m
  | 0 => rfl
  | m + 1 => by rw [iter, iter, iter, iter_xor x y m, crcStep_xor]
theorem iter_inj (x y : Nat) (hx : x < 4294967296) (hy : y < 4294967296) : ∀ m, iter x m = iter y m → x = y
  | 0, h => h
  | m + 1, h => iter_inj x y hx hy m (crcStep_inj _ _ (iter_lt x hx m) (iter_lt y hy m) h)
theorem iter_shift (t : Nat) : ∀ m k, iter (t * 2 ^ (m + k)) m = t * 2 ^ k
  | 0, k => by rw [iter, Nat.zero_add]
  | m + 1, k => by
    rw [iter, show m + 1 + k = m + (k + 1) from by omega, iter_shift t m (k + 1), Nat.pow_succ, ← Nat.mul_assoc, crcStep, if_neg (by omega)]
    omega
/-- The bits from s on, m of them, as a number. -/
def wnd (f : Nat → Nat) (s : Nat) : Nat → Nat
  | 0 => 0
  | m + 1 => wnd f s m ^^^ (f (s + m) * 2 ^ m)
theorem feedF_wnd (r : Nat) (f : Nat → Nat) (s : Nat) : ∀ m, feedF r f (s + m) = iter (feedF r f s ^^^ wnd f s m) m
  | 0 => by rw [wnd, Nat.xor_zero]; rfl
  | m + 1 => by
    have h := iter_shift (f (s + m)) m 0
    rw [Nat.pow_zero, Nat.mul_one, Nat.add_zero] at h
    rw [← Nat.add_assoc, feedF, feedF_wnd r f s m, wnd, iter, ← Nat.xor_assoc, iter_xor (feedF r f s ^^^ wnd f s m), h]
    rfl
theorem wnd_bit (f : Nat → Nat) (s : Nat) (hf : ∀ k, f k < 2) : ∀ m i, (wnd f s m).testBit i = (decide (i < m) && decide (f (s + i) = 1))
  | 0, i => by simp [wnd]
  | m + 1, i => by
    rw [wnd, Nat.testBit_xor, wnd_bit f s hf m i]
    have h : f (s + m) = 0 ∨ f (s + m) = 1 := by have := hf (s + m); omega
    rcases h with h | h
    · rw [h, Nat.zero_mul, Nat.zero_testBit, Bool.xor_false]
      by_cases hi : i = m
      · subst hi; simp [h]
      · have e : (i < m + 1) = (i < m) := by apply propext; omega
        simp [e]
    · rw [h, Nat.one_mul, Nat.testBit_two_pow]
      by_cases hi : i = m
      · subst hi; simp [h]
      · have e : (i < m + 1) = (i < m) := by apply propext; omega
        have e2 : ¬ m = i := fun e => hi e.symm
        simp [e, e2]
theorem wnd_lt (f : Nat → Nat) (s : Nat) (hf : ∀ k, f k < 2) : ∀ m, m ≤ 32 → wnd f s m < 4294967296
  | 0, _ => by simp [wnd]
  | m + 1, hm => by
    refine Nat.xor_lt_two_pow (n := 32) (wnd_lt f s hf m (by omega)) ?_
    have h1 : f (s + m) ≤ 1 := by have := hf (s + m); omega
    have h2 : 2 ^ m ≤ 2 ^ 31 := Nat.pow_le_pow_right (by decide) (by omega)
    have h3 : f (s + m) * 2 ^ m ≤ 1 * 2 ^ m := Nat.mul_le_mul_right _ h1
    omega
/-- **Bits that differ only within 32 bits make the register differ.** -/
theorem turned_differs (r : Nat) (f g : Nat → Nat) (hr : r < 4294967296) (hf : ∀ k, f k < 2) (hg : ∀ k, g k < 2) (s m k : Nat) (hm : m ≤ 32)
    (hout : ∀ i, i < s + m + k → (i < s ∨ s + m ≤ i) → f i = g i) (h : feedF r f (s + m + k) = feedF r g (s + m + k)) : ∀ i, i < s + m + k → f i = g i := by
  have h1 := feedF_back r f g hr hf hg (s + m) k (fun i h1 h2 => hout i h2 (.inr h1)) h
  rw [feedF_wnd, feedF_wnd, feedF_same r f g s (fun i hi => hout i (by omega) (.inl hi))] at h1
  have hs := feedF_lt r g hr hg s
  have h2 := iter_inj _ _ (Nat.xor_lt_two_pow (n := 32) hs (wnd_lt f s hf m hm)) (Nat.xor_lt_two_pow (n := 32) hs (wnd_lt g s hg m hm)) m h1
  have h3 := xor_cancel_left h2
  intro i hi
  by_cases hw : i < s ∨ s + m ≤ i
  · exact hout i hi hw
  · have hb := congrArg (fun x => x.testBit (i - s)) h3
    simp only [wnd_bit f s hf, wnd_bit g s hg] at hb
    rw [show s + (i - s) = i from by omega, show decide (i - s < m) = true from by simp; omega, Bool.true_and, Bool.true_and] at hb
    have := decide_eq_decide.1 hb
    have := hf i
    have := hg i
    omega

/-- Bit k of bytes, each byte's lowest first. -/
def bitAt (l : List Nat) (k : Nat) : Nat := l.getD (k / 8) 0 / 2 ^ (k % 8) % 2
theorem bitAt_lt (l : List Nat) (k : Nat) : bitAt l k < 2 := Nat.mod_lt _ (by decide)
theorem crcFold_bits (r : Nat) (l : List Nat) : ∀ k, k ≤ l.length → crcFold r (l.take k) = feedF r (bitAt l) (8 * k)
  | 0, _ => rfl
  | k + 1, hk => by
    have e : l.take (k + 1) = l.take k ++ [l.getD k 0] := by
      rw [List.take_add_one]
      have : k < l.length := by omega
      simp [this]
    have hb : ∀ j, j < 8 → bitAt l (8 * k + j) = l.getD k 0 / 2 ^ j % 2 := fun j hj => by
      unfold bitAt
      rw [show (8 * k + j) / 8 = k from by omega, show (8 * k + j) % 8 = j from by omega]
    rw [e, crcFold_snoc, crcFold_bits r l k (by omega), show 8 * (k + 1) = 8 * k + 7 + 1 from by omega]
    show crcBits _ _ 8 = _
    simp only [crcBits, feedF]
    rw [hb 7 (by omega), hb 6 (by omega), hb 5 (by omega), hb 4 (by omega), hb 3 (by omega), hb 2 (by omega), hb 1 (by omega), show bitAt l (8 * k) = l.getD k 0 / 2 ^ 0 % 2 from hb 0 (by omega)]
end Go.Proofs.YtkjdjglknbgeaaaGreatDoor
namespace Go.Proofs.YtkjdjglknbgeaaaGreatDoor
open Go.RowKit
set_option linter.unusedVariables false

def pbit (p i : Nat) : Nat := p / 2 ^ i % 2
def turnB (l : List Nat) (q : Nat) : List Nat := l.set (q / 8) (l.getD (q / 8) 0 ^^^ 2 ^ (q % 8))
def turnL (l : List Nat) (s p : Nat) : Nat → List Nat
  | 0 => l
  | i + 1 => if pbit p i = 1 then turnB (turnL l s p i) (s + i) else turnL l s p i
def turned (p : Nat) : Nat → Bool
  | 0 => false
  | i + 1 => if pbit p i = 1 then true else turned p i
theorem turnB_length (l : List Nat) (q : Nat) : (turnB l q).length = l.length := List.length_set ..
theorem turnL_length (l : List Nat) (s p : Nat) : ∀ i, (turnL l s p i).length = l.length
  | 0 => rfl
  | i + 1 => by
    rw [turnL]
    split
    · rw [turnB_length, turnL_length l s p i]
    · exact turnL_length l s p i
theorem turn_byte_lt (x q : Nat) (h : x < 256) : x ^^^ 2 ^ (q % 8) < 256 := by
  refine Nat.xor_lt_two_pow (n := 8) h ?_
  have h1 : 2 ^ (q % 8) ≤ 2 ^ 7 := Nat.pow_le_pow_right (by decide) (by omega)
  omega
theorem turnB_lt (l : List Nat) (q : Nat) (h : ∀ x ∈ l, x < 256) : ∀ x ∈ turnB l q, x < 256 := by
  intro x hx
  rcases List.mem_or_eq_of_mem_set hx with hx | rfl
  · exact h x hx
  · refine turn_byte_lt _ _ ?_
    by_cases hi : q / 8 < l.length
    · have e : l.getD (q / 8) 0 = l[q / 8] := by simp [List.getD, hi]
      rw [e]
      exact h _ (List.getElem_mem hi)
    · have e : l.getD (q / 8) 0 = 0 := by simp [List.getD, hi]
      omega
theorem turnL_lt (l : List Nat) (s p : Nat) (h : ∀ x ∈ l, x < 256) : ∀ i, ∀ x ∈ turnL l s p i, x < 256
  | 0, x, hx => h x hx
  | i + 1, x, hx => by
    rw [turnL] at hx
    split at hx
    · exact turnB_lt _ _ (turnL_lt l s p h i) x hx
    · exact turnL_lt l s p h i x hx
theorem bit_is (x i : Nat) : x / 2 ^ i % 2 = if x.testBit i then 1 else 0 := by
  rw [Nat.testBit_eq_decide_div_mod_eq]
  have : x / 2 ^ i % 2 = 0 ∨ x / 2 ^ i % 2 = 1 := by omega
  rcases this with h | h <;> simp [h]
theorem bitAt_turnB (l : List Nat) (q k : Nat) (hq : q / 8 < l.length) : bitAt (turnB l q) k = if k = q then 1 - bitAt l k else bitAt l k := by
  unfold bitAt turnB
  by_cases h8 : k / 8 = q / 8
  · have e : (l.set (q / 8) (l.getD (q / 8) 0 ^^^ 2 ^ (q % 8))).getD (k / 8) 0 = l.getD (q / 8) 0 ^^^ 2 ^ (q % 8) := by
      rw [h8, List.getD_eq_getElem?_getD, List.getElem?_set_self hq]
      rfl
    rw [e, h8, bit_is, bit_is, Nat.testBit_xor, Nat.testBit_two_pow]
    by_cases hk : k = q
    · subst hk
      rw [if_pos rfl]
      simp only [decide_true, Bool.xor_true]
      cases (l.getD (k / 8) 0).testBit (k % 8) <;> rfl
    · have hne : ¬ q % 8 = k % 8 := by omega
      rw [if_neg hk]
      simp [hne]
  · have e : (l.set (q / 8) (l.getD (q / 8) 0 ^^^ 2 ^ (q % 8))).getD (k / 8) 0 = l.getD (k / 8) 0 := by
      rw [List.getD_eq_getElem?_getD, List.getElem?_set_ne (fun e => h8 e.symm), List.getD_eq_getElem?_getD]
    have hk : ¬ k = q := fun e => h8 (by rw [e])
    rw [e, if_neg hk]
theorem turnL_bits (l : List Nat) (s p k : Nat) : ∀ i, s + i ≤ 8 * l.length → bitAt (turnL l s p i) k = if s ≤ k ∧ k < s + i ∧ pbit p (k - s) = 1 then 1 - bitAt l k else bitAt l k
  | 0, _ => by
    rw [turnL, if_neg (by omega)]
  | i + 1, h => by
    have ih := turnL_bits l s p k i (by omega)
    rw [turnL]
    split
    · rename_i hp
      rw [bitAt_turnB _ _ _ (by rw [turnL_length]; omega), ih]
      by_cases hk : k = s + i
      · subst hk
        rw [if_pos rfl, if_neg (by omega), if_pos ⟨by omega, by omega, by rw [show s + i - s = i from by omega]; exact hp⟩]
      · rw [if_neg hk]
        have e : (s ≤ k ∧ k < s + (i + 1) ∧ pbit p (k - s) = 1) = (s ≤ k ∧ k < s + i ∧ pbit p (k - s) = 1) := by
          apply propext
          constructor
          · rintro ⟨a, b, c⟩; exact ⟨a, by omega, c⟩
          · rintro ⟨a, b, c⟩; exact ⟨a, by omega, c⟩
        simp only [e]
    · rename_i hp
      rw [ih]
      have e : (s ≤ k ∧ k < s + (i + 1) ∧ pbit p (k - s) = 1) = (s ≤ k ∧ k < s + i ∧ pbit p (k - s) = 1) := by
        apply propext
        constructor
        · rintro ⟨a, b, c⟩
          refine ⟨a, ?_, c⟩
          rcases Nat.lt_or_ge k (s + i) with h1 | h1
          · exact h1
          · exfalso
            apply hp
            rw [show i = k - s from by omega]
            exact c
        · rintro ⟨a, b, c⟩; exact ⟨a, by omega, c⟩
      simp only [e]
theorem turned_no (l : List Nat) (s p : Nat) : ∀ i, turned p i = false → turnL l s p i = l
  | 0, _ => rfl
  | i + 1, h => by
    rw [turned] at h
    split at h
    · cases h
    · rename_i hp
      rw [turnL, if_neg hp]
      exact turned_no l s p i h
theorem turned_yes (p : Nat) : ∀ i, turned p i = true → ∃ j, j < i ∧ pbit p j = 1
  | 0, h => by cases h
  | i + 1, h => by
    rw [turned] at h
    split at h
    · rename_i hp
      exact ⟨i, by omega, hp⟩
    · obtain ⟨j, hj, hp⟩ := turned_yes p i h
      exact ⟨j, by omega, hp⟩
theorem crc_bits (l : List Nat) : crcMore 0 l = notN (feedF (notN 0) (bitAt l) (8 * l.length)) := by
  unfold crcMore
  rw [← crcFold_bits (notN 0) l l.length (Nat.le_refl _), List.take_of_length_le (Nat.le_refl _)]
theorem notN_inj (a b : Nat) (ha : a < 4294967296) (hb : b < 4294967296) (h : notN a = notN b) : a = b := by
  rw [← notN_notN a ha, h, notN_notN b hb]
/-- **Turned bits change the CRC.** -/
theorem crc_turned (l : List Nat) (s p i : Nat) (hi : i ≤ 32) (hs : s + i ≤ 8 * l.length) (ht : turned p i = true) : crcMore 0 (turnL l s p i) ≠ crcMore 0 l := by
  intro h
  obtain ⟨j, hj, hp⟩ := turned_yes p i ht
  rw [crc_bits, crc_bits, turnL_length] at h
  have h1 := notN_inj _ _ (feedF_lt _ _ (notN_lt 0) (bitAt_lt _) _) (feedF_lt _ _ (notN_lt 0) (bitAt_lt _) _) h
  obtain ⟨k, hk⟩ : ∃ k, 8 * l.length = s + i + k := ⟨8 * l.length - (s + i), by omega⟩
  rw [hk] at h1
  have h2 := turned_differs (notN 0) (bitAt (turnL l s p i)) (bitAt l) (notN_lt 0) (bitAt_lt _) (bitAt_lt _) s i k hi (fun q _ hq => by
    rw [turnL_bits l s p q i hs, if_neg (by omega)]) h1 (s + j) (by omega)
  rw [turnL_bits l s p (s + j) i hs, if_pos ⟨by omega, by omega, by rw [show s + j - s = j from by omega]; exact hp⟩] at h2
  have := bitAt_lt l (s + j)
  omega
end Go.Proofs.YtkjdjglknbgeaaaGreatDoor
namespace Go.Proofs.YtkjdjglknbgeaaaGreatDoor
open Go.RowKit
set_option linter.unusedVariables false

def le4 (n : Nat) : List Nat := [n % 256, n / 256 % 256, n / 65536 % 256, n / 16777216 % 256]
def getN (l : List Nat) (j : Nat) : Nat := l.getD j 0 + l.getD (j + 1) 0 * 256 + l.getD (j + 2) 0 * 65536 + l.getD (j + 3) 0 * 16777216
def bytesN (l : List Nat) : Prop := ∀ x ∈ l, x < 256
theorem le4_length (n : Nat) : (le4 n).length = 4 := rfl
theorem le4_lt (n : Nat) : bytesN (le4 n) := by
  intro x hx
  simp only [le4, List.mem_cons, List.not_mem_nil, or_false] at hx
  omega
theorem bytesN_append {a b : List Nat} (ha : bytesN a) (hb : bytesN b) : bytesN (a ++ b) := fun x hx => by
  rcases List.mem_append.1 hx with h | h
  · exact ha x h
  · exact hb x h
theorem bytesN_take {a : List Nat} (ha : bytesN a) (k : Nat) : bytesN (a.take k) := fun x hx => ha x (List.mem_of_mem_take hx)
theorem bytesN_drop {a : List Nat} (ha : bytesN a) (k : Nat) : bytesN (a.drop k) := fun x hx => ha x (List.mem_of_mem_drop hx)
theorem bytesN_nil : bytesN [] := fun x hx => by cases hx
theorem getN_front (a b c d : Nat) (t : List Nat) : getN (a :: b :: c :: d :: t) 0 = a + b * 256 + c * 65536 + d * 16777216 := rfl
theorem getN_le4 (n : Nat) (h : n < 4294967296) (t : List Nat) : getN (le4 n ++ t) 0 = n := by
  show getN (_ :: _ :: _ :: _ :: t) 0 = n
  rw [getN_front]
  omega
theorem getN_drop (l : List Nat) (j : Nat) : getN l j = getN (l.drop j) 0 := by
  unfold getN
  simp [List.getD, List.getElem?_drop]
theorem four_of {l : List Nat} (h : 4 ≤ l.length) : ∃ a b c d t, l = a :: b :: c :: d :: t := by
  match l, h with
  | a :: b :: c :: d :: t, _ => exact ⟨a, b, c, d, t, rfl⟩
theorem le4_getN0 {l : List Nat} (hb : bytesN l) (h : 4 ≤ l.length) : le4 (getN l 0) = l.take 4 := by
  obtain ⟨a, b, c, d, t, rfl⟩ := four_of h
  have h1 := hb a (by simp)
  have h2 := hb b (by simp)
  have h3 := hb c (by simp)
  have h4 := hb d (by simp)
  rw [getN_front]
  simp only [le4, List.take_succ_cons, List.take_zero, List.cons.injEq, and_true]
  omega
theorem le4_getN {l : List Nat} (hb : bytesN l) (j : Nat) (h : j + 4 ≤ l.length) : le4 (getN l j) = (l.drop j).take 4 := by
  rw [getN_drop]
  exact le4_getN0 (bytesN_drop hb j) (by rw [List.length_drop]; omega)
theorem getN_lt {l : List Nat} (hb : bytesN l) (j : Nat) : getN l j < 4294967296 := by
  have h : ∀ i, l.getD i 0 < 256 := fun i => by
    by_cases hi : i < l.length
    · have e : l.getD i 0 = l[i] := by simp [List.getD, hi]
      rw [e]
      exact hb _ (List.getElem_mem hi)
    · have e : l.getD i 0 = 0 := by simp [List.getD, hi]
      omega
  have h1 := h j
  have h2 := h (j + 1)
  have h3 := h (j + 2)
  have h4 := h (j + 3)
  unfold getN
  omega
/-- The frame of a record. -/
def headN (r : List Nat) : List Nat := le4 r.length ++ r
def frameN (r : List Nat) : List Nat := headN r ++ le4 (crcMore 0 (headN r))
theorem headN_length (r : List Nat) : (headN r).length = r.length + 4 := by unfold headN; rw [List.length_append, le4_length]; omega
theorem frameN_length (r : List Nat) : (frameN r).length = r.length + 8 := by unfold frameN; rw [List.length_append, headN_length, le4_length]
theorem headN_lt {r : List Nat} (h : bytesN r) : bytesN (headN r) := bytesN_append (le4_lt _) h
theorem frameN_lt {r : List Nat} (h : bytesN r) : bytesN (frameN r) := bytesN_append (headN_lt h) (le4_lt _)
/-- The record of the frame that b begins with. -/
def firstN (b : List Nat) : Option (List Nat) :=
  if b.length < 4 then none
  else if 65536 < getN b 0 then none
  else if b.length < getN b 0 + 8 then none
  else if getN b (4 + getN b 0) = crcMore 0 (b.take (4 + getN b 0)) then some ((b.drop 4).take (getN b 0)) else none
theorem first_len {b r : List Nat} (h : firstN b = some r) : r.length = getN b 0 ∧ r.length + 8 ≤ b.length ∧ r.length ≤ 65536 ∧ r = (b.drop 4).take (getN b 0) ∧ getN b (4 + getN b 0) = crcMore 0 (b.take (4 + getN b 0)) := by
  unfold firstN at h
  split at h
  · cases h
  split at h
  · cases h
  split at h
  · cases h
  split at h
  · rename_i h1 h2 h3 h4
    cases h
    have : ((b.drop 4).take (getN b 0)).length = getN b 0 := by rw [List.length_take, List.length_drop]; omega
    exact ⟨this, by omega, by omega, rfl, h4⟩
  · cases h
theorem first_some {b r : List Nat} (hb : bytesN b) (h : firstN b = some r) : r.length ≤ 65536 ∧ frameN r <+: b := by
  obtain ⟨h1, h2, h3, h4, h5⟩ := first_len h
  refine ⟨h3, ?_⟩
  have e1 : b.take 4 = le4 r.length := by rw [h1, le4_getN0 hb (by omega)]
  have e2 : b.take (4 + r.length) = headN r := by
    rw [List.take_add, e1]
    unfold headN
    rw [h1, ← h4]
  have e3 : le4 (crcMore 0 (headN r)) = (b.drop (4 + r.length)).take 4 := by
    rw [← e2, h1, ← h5, le4_getN hb _ (by omega)]
  unfold frameN
  rw [e3, ← e2, ← List.take_add]
  exact List.take_prefix _ _
theorem headN_front (r t : List Nat) (h : r.length ≤ 65536) : getN (headN r ++ t) 0 = r.length := by
  unfold headN
  rw [List.append_assoc]
  exact getN_le4 _ (by omega) _
theorem first_frame (r t : List Nat) (hl : r.length ≤ 65536) : firstN (frameN r ++ t) = some r := by
  have e0 : frameN r ++ t = headN r ++ (le4 (crcMore 0 (headN r)) ++ t) := by unfold frameN; rw [List.append_assoc]
  have hlen : (frameN r ++ t).length = r.length + 8 + t.length := by rw [List.length_append, frameN_length]
  have g0 : getN (frameN r ++ t) 0 = r.length := by rw [e0, headN_front r _ hl]
  have g1 : getN (frameN r ++ t) (4 + r.length) = crcMore 0 (headN r) := by
    rw [getN_drop, e0, List.drop_left' (by rw [headN_length]; omega)]
    exact getN_le4 _ (crcMore_lt _ _) _
  have g2 : (frameN r ++ t).take (4 + r.length) = headN r := by rw [e0, List.take_left' (by rw [headN_length]; omega)]
  have g3 : ((frameN r ++ t).drop 4).take r.length = r := by
    rw [e0]
    unfold headN
    rw [List.append_assoc, List.drop_left' (le4_length _), List.take_left' rfl]
  unfold firstN
  rw [g0, g1, g2, g3, hlen, if_neg (by omega), if_neg (by omega), if_neg (by omega), if_pos rfl]
theorem frame_inj {r r' : List Nat} {b : List Nat} (h : r.length ≤ 65536) (h' : r'.length ≤ 65536) (hp : frameN r <+: b) (hp' : frameN r' <+: b) : r = r' := by
  obtain ⟨t, rfl⟩ := hp
  obtain ⟨t', e⟩ := hp'
  have h1 := first_frame r t h
  rw [← e, first_frame r' t' h'] at h1
  injection h1 with h1
  exact h1.symm
/-- The records of the frames at the front of b. -/
def parseN (b : List Nat) : List (List Nat) :=
  match h : firstN b with
  | none => []
  | some r => r :: parseN (b.drop (r.length + 8))
termination_by b.length
decreasing_by
  have := first_len h
  rw [List.length_drop]
  omega
theorem parse_none {b : List Nat} (h : firstN b = none) : parseN b = [] := by
  rw [parseN]
  split
  · rfl
  · rename_i r h2
    rw [h] at h2
    cases h2
theorem parse_some {b r : List Nat} (h : firstN b = some r) : parseN b = r :: parseN (b.drop (r.length + 8)) := by
  rw [parseN]
  split
  · rename_i h2
    rw [h] at h2
    cases h2
  · rename_i r' h2
    rw [h] at h2
    injection h2 with h2
    rw [h2]
def allN : List (List Nat) → List Nat
  | [] => []
  | r :: rs => frameN r ++ allN rs
theorem allN_append (a b : List (List Nat)) : allN (a ++ b) = allN a ++ allN b := by
  induction a with
  | nil => rfl
  | cons r a ih => show frameN r ++ allN (a ++ b) = frameN r ++ allN a ++ allN b; rw [ih, List.append_assoc]
theorem allN_snoc (a : List (List Nat)) (r : List Nat) : allN (a ++ [r]) = allN a ++ frameN r := by rw [allN_append]; show _ ++ (frameN r ++ []) = _; rw [List.append_nil]
theorem allN_lt {rs : List (List Nat)} (h : ∀ r ∈ rs, bytesN r) : bytesN (allN rs) := by
  induction rs with
  | nil => exact bytesN_nil
  | cons r rs ih => exact bytesN_append (frameN_lt (h r (by simp))) (ih fun x hx => h x (by simp [hx]))
def shortN (rs : List (List Nat)) : Prop := ∀ r ∈ rs, r.length ≤ 65536
theorem parse_all (rs : List (List Nat)) (h : shortN rs) (t : List Nat) : parseN (allN rs ++ t) = rs ++ parseN t := by
  induction rs with
  | nil => rfl
  | cons r rs ih =>
    show parseN (frameN r ++ allN rs ++ t) = r :: (rs ++ parseN t)
    rw [List.append_assoc, parse_some (first_frame r _ (h r (by simp))), List.drop_left' (frameN_length r), ih fun x hx => h x (by simp [hx])]
theorem first_small {t : List Nat} (h : t.length < 8) : firstN t = none := by
  cases e : firstN t with
  | none => rfl
  | some r => have := first_len e; omega
theorem parse_small {t : List Nat} (h : t.length < 8) : parseN t = [] := parse_none (first_small h)
theorem all_parse : ∀ (n : Nat) (b : List Nat), b.length ≤ n → bytesN b → allN (parseN b) <+: b ∧ shortN (parseN b) := by
  intro n
  induction n with
  | zero =>
    intro b hn hb
    rw [parse_small (by omega)]
    exact ⟨List.nil_prefix, fun r hr => by cases hr⟩
  | succ n ih =>
    intro b hn hb
    cases e : firstN b with
    | none =>
      rw [parse_none e]
      exact ⟨List.nil_prefix, fun r hr => by cases hr⟩
    | some r =>
      obtain ⟨h1, h2⟩ := first_some hb e
      have h3 := (first_len e).2.1
      obtain ⟨h4, h5⟩ := ih (b.drop (r.length + 8)) (by rw [List.length_drop]; omega) (bytesN_drop hb _)
      rw [parse_some e]
      refine ⟨?_, fun x hx => ?_⟩
      · obtain ⟨t, ht⟩ := h2
        show frameN r ++ allN (parseN (b.drop (r.length + 8))) <+: b
        rw [← ht, List.drop_left' (frameN_length r)] at h4 ⊢
        exact List.prefix_append_right_inj (frameN r) |>.2 h4
      · rcases List.mem_cons.1 hx with rfl | hx
        · exact h1
        · exact h5 x hx
theorem parse_lt {b : List Nat} (hb : bytesN b) : ∀ r ∈ parseN b, bytesN r := by
  have : ∀ (n : Nat) (b : List Nat), b.length ≤ n → bytesN b → ∀ r ∈ parseN b, bytesN r := by
    intro n
    induction n with
    | zero =>
      intro b hn hb r hr
      rw [parse_small (by omega)] at hr
      cases hr
    | succ n ih =>
      intro b hn hb r hr
      cases e : firstN b with
      | none => rw [parse_none e] at hr; cases hr
      | some x =>
        have h := first_len e
        rw [parse_some e] at hr
        rcases List.mem_cons.1 hr with rfl | hr
        · rw [h.2.2.2.1]
          exact bytesN_take (bytesN_drop hb _) _
        · exact ih _ (by rw [List.length_drop]; omega) (bytesN_drop hb _) r hr
  exact this _ b (Nat.le_refl _) hb
/-- Frames cut anywhere are a beginning of these. -/
theorem parse_cut : ∀ (l : List (List Nat)), shortN l → (∀ r ∈ l, bytesN r) → ∀ k, k < (allN l).length → parseN ((allN l).take k) <+: l ∧ (parseN ((allN l).take k)).length < l.length
  | [], _, _, k, hk => absurd hk (by simp [allN])
  | r :: l, hs, hb, k, hk => by
    cases e : firstN ((allN (r :: l)).take k) with
    | none =>
      rw [parse_none e]
      exact ⟨List.nil_prefix, by simp⟩
    | some r' =>
      have hbb : bytesN (allN (r :: l)) := allN_lt hb
      obtain ⟨h1, h2⟩ := first_some (bytesN_take hbb k) e
      have hr : r' = r := frame_inj (b := allN (r :: l)) h1 (hs r (by simp)) (h2.trans (List.take_prefix _ _)) (List.prefix_append _ _)
      subst hr
      have h3 := (first_len e).2.1
      rw [List.length_take] at h3
      have e2 : ((allN (r' :: l)).take k).drop (r'.length + 8) = (allN l).take (k - (r'.length + 8)) := by
        rw [List.drop_take]
        show ((frameN r' ++ allN l).drop (r'.length + 8)).take _ = _
        rw [List.drop_left' (frameN_length r')]
      have hk2 : k < r'.length + 8 + (allN l).length := by
        have : (allN (r' :: l)).length = r'.length + 8 + (allN l).length := by show (frameN r' ++ allN l).length = _; rw [List.length_append, frameN_length]
        omega
      rw [parse_some e, e2]
      obtain ⟨i1, i2⟩ := parse_cut l (fun x hx => hs x (by simp [hx])) (fun x hx => hb x (by simp [hx])) (k - (r'.length + 8)) (by omega)
      exact ⟨List.cons_prefix_cons.2 ⟨rfl, i1⟩, by simpa using i2⟩
/-- The CRC of bytes with their CRC behind them is always the same. -/
theorem bit_le4 (s i : Nat) (h : i < 32) : (bitAt (le4 s) i = 1) ↔ s.testBit i = true := by
  unfold bitAt
  rw [bit_is]
  have hd : ∀ j t, t < 8 → (s / 2 ^ (8 * j) % 256).testBit t = s.testBit (8 * j + t) := fun j t ht => by
    rw [show (256 : Nat) = 2 ^ 8 from rfl, Nat.testBit_mod_two_pow, Nat.testBit_div_two_pow]
    simp [ht, Nat.add_comm]
  have hc : i / 8 = 0 ∨ i / 8 = 1 ∨ i / 8 = 2 ∨ i / 8 = 3 := by omega
  have ht : i % 8 < 8 := by omega
  have key : ((le4 s).getD (i / 8) 0).testBit (i % 8) = s.testBit i := by
    rcases hc with h0 | h0 | h0 | h0 <;> rw [h0]
    · have := hd 0 (i % 8) ht
      rw [show 8 * 0 + i % 8 = i from by omega] at this
      rw [← this]
      simp [le4]
    · have := hd 1 (i % 8) ht
      rw [show 8 * 1 + i % 8 = i from by omega] at this
      rw [← this]
      simp [le4]
    · have := hd 2 (i % 8) ht
      rw [show 8 * 2 + i % 8 = i from by omega] at this
      rw [← this]
      simp [le4]
    · have := hd 3 (i % 8) ht
      rw [show 8 * 3 + i % 8 = i from by omega] at this
      rw [← this]
      simp [le4]
  rw [key]
  cases s.testBit i <;> simp
theorem wnd_le4 (s : Nat) (hs : s < 4294967296) : wnd (bitAt (le4 s)) 0 32 = s := by
  apply Nat.eq_of_testBit_eq
  intro i
  rw [wnd_bit _ _ (bitAt_lt _), Nat.zero_add]
  by_cases h : i < 32
  · have := bit_le4 s i h
    cases e : s.testBit i with
    | true => simp [h, this.2 e]
    | false =>
      have : ¬ bitAt (le4 s) i = 1 := fun e2 => by rw [this.1 e2] at e; cases e
      simp [this]
  · have h2 : s < 2 ^ i := Nat.lt_of_lt_of_le hs (show (4294967296 : Nat) ≤ 2 ^ i from Nat.pow_le_pow_right (n := 2) (by decide) (show 32 ≤ i by omega))
    rw [Nat.testBit_lt_two_pow h2]
    simp [h]
theorem notN_xor (s : Nat) (hs : s < 4294967296) : notN s ^^^ s = 4294967295 := by
  apply Nat.eq_of_testBit_eq
  intro i
  have e : notN s = 2 ^ 32 - (s + 1) := by unfold notN; omega
  rw [Nat.testBit_xor, e, Nat.testBit_two_pow_sub_succ hs, show (4294967295 : Nat) = 2 ^ 32 - (0 + 1) from rfl, Nat.testBit_two_pow_sub_succ (by decide)]
  by_cases h : i < 32
  · simp [h]
  · have h2 : s < 2 ^ i := Nat.lt_of_lt_of_le hs (show (4294967296 : Nat) ≤ 2 ^ i from Nat.pow_le_pow_right (n := 2) (by decide) (show 32 ≤ i by omega))
    rw [Nat.testBit_lt_two_pow h2]
    simp [h]
theorem crc_whole (m : List Nat) : crcMore 0 (m ++ le4 (crcMore 0 m)) = notN (iter 4294967295 32) := by
  have hs := crcMore_lt 0 m
  rw [← crcMore_append]
  generalize crcMore 0 m = s at *
  unfold crcMore
  have h := crcFold_bits (notN s) (le4 s) 4 (Nat.le_refl _)
  rw [show (le4 s).take 4 = le4 s from rfl] at h
  rw [h, show 8 * 4 = 0 + 32 from rfl, feedF_wnd, wnd_le4 s hs]
  show notN (iter (notN s ^^^ s) 32) = _
  rw [notN_xor s hs]
theorem turnL_front (l : List Nat) (s p : Nat) (hs : 32 ≤ s) : ∀ i, (turnL l s p i).take 4 = l.take 4
  | 0 => rfl
  | i + 1 => by
    rw [turnL]
    split
    · unfold turnB
      rw [List.take_set_of_le (by omega), turnL_front l s p hs i]
    · exact turnL_front l s p hs i
theorem first_turned (r t : List Nat) (hr : bytesN r) (ht : bytesN t) (hl : r.length ≤ 65536) (q p i : Nat) (hi : i ≤ 32) (hq : 32 + q + i ≤ 8 * (r.length + 8)) (hp : turned p i = true) : firstN (turnL (frameN r) (32 + q) p i ++ t) = none := by
  obtain ⟨F, hF⟩ : ∃ F, turnL (frameN r) (32 + q) p i = F := ⟨_, rfl⟩
  have hFl : F.length = r.length + 8 := by rw [← hF, turnL_length, frameN_length]
  have hFb : bytesN F := by rw [← hF]; exact turnL_lt _ _ _ (frameN_lt hr) i
  have hF4 : F.take 4 = le4 r.length := by
    rw [← hF, turnL_front _ _ _ (by omega)]
    unfold frameN headN
    rw [List.append_assoc, List.take_left' (le4_length _)]
  rw [hF]
  cases e : firstN (F ++ t) with
  | none => rfl
  | some r' =>
    exfalso
    obtain ⟨h1, h2⟩ := first_some (bytesN_append hFb ht) e
    have h3 := (first_len e).1
    have h4 : getN (F ++ t) 0 = r.length := by
      have : F = le4 r.length ++ F.drop 4 := by rw [← hF4, List.take_append_drop]
      rw [this, List.append_assoc]
      exact getN_le4 _ (by omega) _
    have h5 : frameN r' = F := by
      obtain ⟨u, hu⟩ := h2
      have hlen : (frameN r').length = F.length := by rw [frameN_length, hFl]; omega
      exact (List.append_inj hu hlen).1
    have k1 : crcMore 0 F = notN (iter 4294967295 32) := by rw [← h5]; exact crc_whole _
    have k2 : crcMore 0 (frameN r) = notN (iter 4294967295 32) := crc_whole _
    have := crc_turned (frameN r) (32 + q) p i hi (by rw [frameN_length]; omega) hp
    rw [hF] at this
    exact this (k1.trans k2.symm)
end Go.Proofs.YtkjdjglknbgeaaaGreatDoor
namespace Go.Proofs.YtkjdjglknbgeaaaGreatDoor
open Go.RowKit
set_option linter.unusedVariables false

def W64 : Nat := 18446744073709551616
theorem W64_pow : W64 = 2 ^ 64 := rfl
/-- The word at k. -/
def wd (ws : List Nat) (k : Nat) : Nat := ws.getD k 0
/-- Is n in it? -/
def mem (ws : List Nat) (n : Nat) : Bool := (wd ws (n / 64)).testBit (n % 64)
/-- So many words at least. -/
def grown (ws : List Nat) (k : Nat) : List Nat := ws ++ List.replicate (k - ws.length) 0
/-- n put in. -/
def putW (ws : List Nat) (n : Nat) : List Nat := (grown ws (n / 64 + 1)).set (n / 64) (wd ws (n / 64) ||| 2 ^ (n % 64))
/-- n taken out. -/
def dropW (ws : List Nat) (n : Nat) : List Nat := ws.set (n / 64) (wd ws (n / 64) &&& (18446744073709551615 - 2 ^ (n % 64)))
def Small (ws : List Nat) : Prop := ∀ x ∈ ws, x < 18446744073709551616

theorem wd_ge (ws : List Nat) (k : Nat) (h : ws.length ≤ k) : wd ws k = 0 := by
  unfold wd
  rw [List.getD_eq_getElem?_getD, List.getElem?_eq_none h]
  rfl
theorem wd_lt {ws : List Nat} (h : Small ws) (k : Nat) : wd ws k < 18446744073709551616 := by
  rcases Nat.lt_or_ge k ws.length with hk | hk
  · have e : wd ws k = ws[k] := by simp [wd, List.getD, hk]
    rw [e]
    exact h _ (List.getElem_mem hk)
  · rw [wd_ge ws k hk]; omega
theorem wd_append_left (a b : List Nat) (k : Nat) (h : k < a.length) : wd (a ++ b) k = wd a k := by
  simp [wd, List.getD, List.getElem?_append_left h]
theorem wd_grown (ws : List Nat) (m k : Nat) : wd (grown ws m) k = wd ws k := by
  unfold grown
  rcases Nat.lt_or_ge k ws.length with hk | hk
  · exact wd_append_left _ _ _ hk
  · rw [wd_ge ws k hk]
    unfold wd
    rw [List.getD_eq_getElem?_getD, List.getElem?_append_right hk]
    rcases Nat.lt_or_ge (k - ws.length) (m - ws.length) with h2 | h2
    · rw [List.getElem?_replicate_of_lt h2]; rfl
    · rw [List.getElem?_eq_none (by simpa using h2)]; rfl
theorem grown_length (ws : List Nat) (m : Nat) : (grown ws m).length = max ws.length m := by
  unfold grown
  rw [List.length_append, List.length_replicate]
  omega
theorem grown_of_le (ws : List Nat) (m : Nat) (h : m ≤ ws.length) : grown ws m = ws := by
  unfold grown
  rw [Nat.sub_eq_zero_of_le h]
  simp
theorem grown_small {ws : List Nat} (h : Small ws) (m : Nat) : Small (grown ws m) := by
  intro x hx
  rcases List.mem_append.1 hx with h1 | h1
  · exact h x h1
  · have := List.eq_of_mem_replicate h1; omega
theorem wd_set (ws : List Nat) (k v j : Nat) (hk : k < ws.length) : wd (ws.set k v) j = if j = k then v else wd ws j := by
  unfold wd
  rw [List.getD_eq_getElem?_getD, List.getD_eq_getElem?_getD, List.getElem?_set]
  by_cases e : k = j
  · subst e; simp [hk]
  · rw [if_neg e, if_neg (fun h => e h.symm)]
theorem set_small {ws : List Nat} (h : Small ws) (k v : Nat) (hv : v < 18446744073709551616) : Small (ws.set k v) := by
  intro x hx
  rcases List.mem_or_eq_of_mem_set hx with h1 | h1
  · exact h x h1
  · omega
theorem pow_lt (n : Nat) : 2 ^ (n % 64) < 18446744073709551616 := by
  have h : n % 64 < 64 := Nat.mod_lt _ (by decide)
  calc 2 ^ (n % 64) < 2 ^ 64 := Nat.pow_lt_pow_right (by decide) h
    _ = 18446744073709551616 := by decide
theorem or_lt {a b : Nat} (ha : a < 18446744073709551616) (hb : b < 18446744073709551616) : a ||| b < 18446744073709551616 := Nat.or_lt_two_pow (n := 64) ha hb
theorem and_lt {a : Nat} (b : Nat) (ha : a < 18446744073709551616) : a &&& b < 18446744073709551616 := Nat.lt_of_le_of_lt Nat.and_le_left ha
theorem mem_ge (ws : List Nat) (n : Nat) (h : 64 * ws.length ≤ n) : mem ws n = false := by
  unfold mem
  rw [wd_ge ws _ (by omega)]
  exact Nat.zero_testBit _
theorem putW_length (ws : List Nat) (n : Nat) : (putW ws n).length = max ws.length (n / 64 + 1) := by
  unfold putW
  rw [List.length_set, grown_length]
theorem putW_small {ws : List Nat} (h : Small ws) (n : Nat) : Small (putW ws n) := set_small (grown_small h _) _ _ (or_lt (wd_lt h _) (pow_lt n))
theorem dropW_small {ws : List Nat} (h : Small ws) (n : Nat) : Small (dropW ws n) := set_small h _ _ (and_lt _ (wd_lt h _))
theorem same_place (n m : Nat) (h1 : m / 64 = n / 64) (h2 : m % 64 = n % 64) : m = n := by omega
theorem mem_putW (ws : List Nat) (n m : Nat) : mem (putW ws n) m = (mem ws m || decide (m = n)) := by
  unfold mem putW
  rw [wd_set _ _ _ _ (by rw [grown_length]; omega), wd_grown]
  by_cases h : m / 64 = n / 64
  · rw [if_pos h, Nat.testBit_or, Nat.testBit_two_pow, h]
    congr 1
    by_cases h2 : n % 64 = m % 64
    · have := same_place n m h h2.symm; simp [h2, this]
    · have : ¬ m = n := fun e => h2 (by rw [e])
      simp [h2, this]
  · rw [if_neg h]
    have : ¬ m = n := fun e => h (by rw [e])
    simp [this]
theorem testBit_notpow (i j : Nat) (hi : i < 64) (hj : j < 64) : (18446744073709551615 - 2 ^ i).testBit j = !decide (j = i) := by
  have h : (2 ^ 64 - (2 ^ i + 1)).testBit j = (decide (j < 64) && !(2 ^ i).testBit j) := Nat.testBit_two_pow_sub_succ (Nat.pow_lt_pow_right (by decide) hi) j
  have e : 2 ^ 64 - (2 ^ i + 1) = 18446744073709551615 - 2 ^ i := by
    have : (2 : Nat) ^ 64 = 18446744073709551616 := by decide
    omega
  rw [e] at h
  rw [h, Nat.testBit_two_pow]
  by_cases e2 : i = j
  · simp [e2, hj]
  · have : ¬ j = i := fun h => e2 h.symm
    simp [e2, this, hj]
theorem mem_dropW (ws : List Nat) (n m : Nat) : mem (dropW ws n) m = (mem ws m && !decide (m = n)) := by
  rcases Nat.lt_or_ge (n / 64) ws.length with hn | hn
  · unfold mem dropW
    rw [wd_set _ _ _ _ hn]
    by_cases h : m / 64 = n / 64
    · rw [if_pos h, Nat.testBit_and, testBit_notpow _ _ (Nat.mod_lt _ (by decide)) (Nat.mod_lt _ (by decide)), h]
      congr 2
      by_cases h2 : m % 64 = n % 64
      · have := same_place n m h h2; simp [this]
      · have : ¬ m = n := fun e => h2 (by rw [e])
        simp [h2, this]
    · rw [if_neg h]
      have : ¬ m = n := fun e => h (by rw [e])
      simp [this]
  · have e : dropW ws n = ws := by
      unfold dropW
      exact List.set_eq_of_length_le hn
    rw [e]
    by_cases e2 : m = n
    · subst e2
      rw [mem_ge ws m (by omega)]
      rfl
    · simp [e2]
end Go.Proofs.YtkjdjglknbgeaaaGreatDoor
namespace Go.Proofs.YtkjdjglknbgeaaaGreatDoor
open Go.RowKit

theorem wrap32_ex (x : Int) : ∃ k : Int, wrap32 x = x + 4294967296 * k := by
  refine ⟨-((x + 2147483648) / 4294967296), ?_⟩
  unfold wrap32
  have := Int.emod_add_mul_ediv (x + 2147483648) 4294967296
  omega
theorem wrap32_bd (x : Int) : -2147483648 ≤ wrap32 x ∧ wrap32 x ≤ 2147483647 := by
  unfold wrap32; omega
theorem wrap32_shift (x k : Int) : wrap32 (x + 4294967296 * k) = wrap32 x := by
  unfold wrap32; omega
theorem wrap32_add_l (x y : Int) : wrap32 (wrap32 x + y) = wrap32 (x + y) := by
  unfold wrap32; omega
theorem wrap32_add_r (x y : Int) : wrap32 (x + wrap32 y) = wrap32 (x + y) := by
  unfold wrap32; omega
theorem wrap32_sub_l (x y : Int) : wrap32 (wrap32 x - y) = wrap32 (x - y) := by
  unfold wrap32; omega
theorem wrap32_sub_r (x y : Int) : wrap32 (x - wrap32 y) = wrap32 (x - y) := by
  unfold wrap32; omega
theorem wrap32_mul_l (x y : Int) : wrap32 (wrap32 x * y) = wrap32 (x * y) := by
  obtain ⟨k, hk⟩ := wrap32_ex x
  rw [hk, Int.add_mul, Int.mul_assoc, wrap32_shift]
theorem wrap32_mul_r (x y : Int) : wrap32 (x * wrap32 y) = wrap32 (x * y) := by
  rw [Int.mul_comm, wrap32_mul_l, Int.mul_comm]
theorem wrap32_self (x : Int) (h : -2147483648 ≤ x ∧ x ≤ 2147483647) : wrap32 x = x := by
  unfold wrap32; omega

theorem quot_back (a b : Int) (h : -2147483648 ≤ a ∧ a ≤ 2147483647) : wrap32 (wrap32 (wrap32 (a.tdiv b) * b) + a.tmod b) = a := by
  rw [wrap32_mul_l, wrap32_add_l]
  have := Int.mul_tdiv_add_tmod a b
  rw [Int.mul_comm] at this
  rw [this, wrap32_self a h]
theorem tmod_near (a b : Int) (hb : b ≠ 0) : (0 ≤ a.tmod b → a.tmod b < max b (-b)) ∧ (a.tmod b ≤ 0 → -(a.tmod b) < max b (-b)) := by
  have h1 : (a.tmod b).natAbs = a.natAbs % b.natAbs := Int.natAbs_tmod a b
  have h2 : a.natAbs % b.natAbs < b.natAbs := Nat.mod_lt _ (by omega)
  omega
theorem tmod_side (a b : Int) : (0 ≤ a → 0 ≤ a.tmod b) ∧ (a ≤ 0 → a.tmod b ≤ 0) := by
  refine ⟨fun h => Int.tmod_nonneg b h, fun h => ?_⟩
  have := Int.tmod_nonneg b (a := -a) (by omega)
  rw [Int.neg_tmod] at this
  omega
theorem tmod_bd (a b : Int) (h : -2147483648 ≤ a ∧ a ≤ 2147483647) : -2147483648 ≤ a.tmod b ∧ a.tmod b ≤ 2147483647 := by
  have h1 : (a.tmod b).natAbs = a.natAbs % b.natAbs := Int.natAbs_tmod a b
  have h2 : a.natAbs % b.natAbs ≤ a.natAbs := Nat.mod_le _ _
  have h3 := tmod_side a b
  omega

theorem split_lo (n : Int) : -2048 ≤ wrap32 (n * 1048576) / 1048576 ∧ wrap32 (n * 1048576) / 1048576 ≤ 2047 := by
  unfold wrap32; omega
theorem split_hi (x : Int) : 0 ≤ wrap32 x % 4294967296 / 4096 ∧ wrap32 x % 4294967296 / 4096 < 1048576 := by
  unfold wrap32; omega
theorem split_back (n : Int) : wrap32 (wrap32 (n - wrap32 (n * 1048576) / 1048576) % 4294967296 / 4096 * 4096 + wrap32 (n * 1048576) / 1048576) = wrap32 n := by
  unfold wrap32; omega

theorem bv_wrap (x : Int) : BitVec.ofInt 32 (wrap32 x) = BitVec.ofInt 32 x := by
  apply BitVec.eq_of_toNat_eq
  rw [BitVec.toNat_ofInt, BitVec.toNat_ofInt]
  unfold wrap32
  omega
theorem bv_back (z : BitVec 32) : BitVec.ofInt 32 (wrap32 (z.toNat : Int)) = z := by
  rw [bv_wrap, BitVec.ofInt_natCast, BitVec.ofNat_toNat, BitVec.setWidth_eq]
theorem and_is (a b : Int) : bits .and .i32 a b = wrap32 ((BitVec.ofInt 32 a &&& BitVec.ofInt 32 b).toNat : Int) := IntWalk.i32_left _
theorem or_is (a b : Int) : bits .or .i32 a b = wrap32 ((BitVec.ofInt 32 a ||| BitVec.ofInt 32 b).toNat : Int) := IntWalk.i32_left _
theorem xor_is (a b : Int) : bits .xor .i32 a b = wrap32 ((BitVec.ofInt 32 a ^^^ BitVec.ofInt 32 b).toNat : Int) := IntWalk.i32_left _

/-- What the five operators of the ring law answer. -/
def ringV (op a b : Int) : Int :=
  if op = 1 then wrap32 (a + b) else if op = 3 then wrap32 (a * b) else if op = 8 then bits .and .i32 a b else if op = 9 then bits .or .i32 a b else bits .xor .i32 a b
theorem ringV_comm (op a b : Int) : ringV op a b = ringV op b a := by
  unfold ringV
  rw [Int.add_comm a b, Int.mul_comm a b, and_is, and_is, or_is, or_is, xor_is, xor_is, BitVec.and_comm, BitVec.or_comm, BitVec.xor_comm]
theorem ringV_assoc (op a b c : Int) : ringV op (ringV op a b) c = ringV op a (ringV op b c) := by
  unfold ringV
  split
  · rw [wrap32_add_l, wrap32_add_r, Int.add_assoc]
  split
  · rw [wrap32_mul_l, wrap32_mul_r, Int.mul_assoc]
  split
  · simp only [and_is, bv_back, BitVec.and_assoc]
  split
  · simp only [or_is, bv_back, BitVec.or_assoc]
  · simp only [xor_is, bv_back, BitVec.xor_assoc]
theorem ring_dist (a b c : Int) : wrap32 (a * wrap32 (b + c)) = wrap32 (wrap32 (a * b) + wrap32 (a * c)) := by
  rw [wrap32_mul_r, wrap32_add_l, wrap32_add_r, Int.mul_add]
theorem ring_back (a b : Int) (h : -2147483648 ≤ a ∧ a ≤ 2147483647) : wrap32 (wrap32 (a - b) + b) = a := by
  rw [wrap32_add_l, show a - b + b = a from by omega, wrap32_self a h]
theorem inv_is (a : Int) (h : -2147483648 ≤ a ∧ a ≤ 2147483647) : bits .xor .i32 (-1) a = -1 - a := by
  rw [xor_is, show BitVec.ofInt 32 (-1) = BitVec.allOnes 32 from by decide, BitVec.allOnes_xor, BitVec.toNat_not, BitVec.toNat_ofInt]
  unfold wrap32
  omega
end Go.Proofs.YtkjdjglknbgeaaaGreatDoor
namespace Go.Proofs.YtkjdjglknbgeaaaGreatDoor
open Go.RowKit

/-- 2 to the power k, closed to the walk. -/
def tw (k : Nat) : Int := 2 ^ k
theorem tw_bd (k : Nat) (h : k ≤ 31) : 1 ≤ tw k ∧ tw k ≤ 2147483648 := by
  have h1 : (2 : Nat) ^ k ≤ 2 ^ 31 := Nat.pow_le_pow_right (by omega) h
  have h2 : 0 < (2 : Nat) ^ k := Nat.pow_pos (by omega)
  have h3 : tw k = ((2 ^ k : Nat) : Int) := by unfold tw; simp
  omega
theorem tw_succ (k : Nat) : tw (k + 1) = tw k * 2 := by unfold tw; rw [Int.pow_succ]

theorem floor_eq (a k q : Int) (hk : 0 < k) (h1 : q * k ≤ a) (h2 : a < q * k + k) : q = a / k := by
  have e := Int.emod_add_mul_ediv a k
  have b1 := Int.emod_nonneg a (b := k) (by omega)
  have b2 := Int.emod_lt_of_pos a hk
  rw [Int.mul_comm] at e
  rcases Int.lt_trichotomy q (a / k) with h | h | h
  · have := Int.mul_le_mul_of_nonneg_right (show q + 1 ≤ a / k from h) (Int.le_of_lt hk)
    rw [Int.add_mul] at this
    omega
  · exact h
  · have := Int.mul_le_mul_of_nonneg_right (show a / k + 1 ≤ q from h) (Int.le_of_lt hk)
    rw [Int.add_mul] at this
    omega
theorem tdiv_mul (a k : Int) (hk : 0 < k) : a.tdiv k * k = a - a.tmod k ∧ -k < a.tmod k ∧ a.tmod k < k ∧ (0 ≤ a → 0 ≤ a.tmod k) ∧ (a ≤ 0 → a.tmod k ≤ 0) := by
  have e := Int.mul_tdiv_add_tmod a k
  have h1 : (a.tmod k).natAbs = a.natAbs % k.natAbs := Int.natAbs_tmod a k
  have h2 : a.natAbs % k.natAbs < k.natAbs := Nat.mod_lt _ (by omega)
  have h3 := tmod_side a k
  rw [Int.mul_comm] at e
  exact ⟨by omega, by omega, by omega, h3.1, h3.2⟩
theorem tdiv_floor (a k : Int) (hk : 0 < k) : (a < a.tdiv k * k → a.tdiv k - 1 = a / k) ∧ (a.tdiv k * k ≤ a → a.tdiv k = a / k) := by
  obtain ⟨h1, h2, h3, h4, h5⟩ := tdiv_mul a k hk
  refine ⟨fun h => floor_eq a k _ hk ?_ ?_, fun h => floor_eq a k _ hk ?_ ?_⟩
  · rw [Int.sub_mul]; omega
  · rw [Int.sub_mul]; omega
  · omega
  · omega
theorem tdiv_mul_bd (a k : Int) (ha : -2147483648 ≤ a ∧ a ≤ 2147483647) (hk : 0 < k) : -2147483648 ≤ a.tdiv k * k ∧ a.tdiv k * k ≤ 2147483647 := by
  obtain ⟨h1, h2, h3, h4, h5⟩ := tdiv_mul a k hk
  have e1 := tmod_bd a k ha
  have h6 : (a.tmod k).natAbs = a.natAbs % k.natAbs := Int.natAbs_tmod a k
  have h7 : a.natAbs % k.natAbs ≤ a.natAbs := Nat.mod_le _ _
  omega
theorem wrap32_64 (x : Int) : wrap32 (wrap64 x) = wrap32 x := by
  unfold wrap32 wrap64; omega
theorem mul_bd (a b : Int) (ha : -2147483648 ≤ a ∧ a ≤ 2147483647) (hb : -2147483648 ≤ b ∧ b ≤ 2147483647) : -4611686018427387904 ≤ a * b ∧ a * b ≤ 4611686018427387904 := by
  have h : (a * b).natAbs = a.natAbs * b.natAbs := Int.natAbs_mul a b
  have h2 : a.natAbs * b.natAbs ≤ 2147483648 * 2147483648 := Nat.mul_le_mul (by omega) (by omega)
  omega
theorem mul_ne (a b : Int) : (a * b != 0) = (a != 0 && b != 0) := by
  rw [Bool.eq_iff_iff]
  simp [Int.mul_eq_zero, not_or]

/-- One place more: the bits of a number below 2^(i+1). -/
theorem mod_step (X : Nat) (i : Nat) : X % 2 ^ (i + 1) = X % 2 ^ i + (X / 2 ^ i % 2) * 2 ^ i := by
  rw [Nat.pow_succ, Nat.mod_mul, Nat.mul_comm (2 ^ i)]
theorem and_bit (X Y i : Nat) : (X &&& Y) / 2 ^ i % 2 = (X / 2 ^ i % 2) * (Y / 2 ^ i % 2) := by
  have h : ((X &&& Y).testBit i).toNat = (X.testBit i && Y.testBit i).toNat := by rw [Nat.testBit_and]
  rw [Nat.toNat_testBit] at h
  rw [h, ← Nat.toNat_testBit, ← Nat.toNat_testBit]
  cases X.testBit i <;> cases Y.testBit i <;> rfl
theorem or_bit (X Y i : Nat) : (X ||| Y) / 2 ^ i % 2 + (X / 2 ^ i % 2) * (Y / 2 ^ i % 2) = X / 2 ^ i % 2 + Y / 2 ^ i % 2 := by
  have h : ((X ||| Y).testBit i).toNat = (X.testBit i || Y.testBit i).toNat := by rw [Nat.testBit_or]
  rw [Nat.toNat_testBit] at h
  rw [h, ← Nat.toNat_testBit, ← Nat.toNat_testBit]
  cases X.testBit i <;> cases Y.testBit i <;> rfl
theorem xor_bit (X Y i : Nat) : (X ^^^ Y) / 2 ^ i % 2 + (X &&& Y) / 2 ^ i % 2 = (X ||| Y) / 2 ^ i % 2 := by
  have h1 : ((X ^^^ Y).testBit i).toNat = (X.testBit i ^^ Y.testBit i).toNat := by rw [Nat.testBit_xor]
  have h2 : ((X &&& Y).testBit i).toNat = (X.testBit i && Y.testBit i).toNat := by rw [Nat.testBit_and]
  have h3 : ((X ||| Y).testBit i).toNat = (X.testBit i || Y.testBit i).toNat := by rw [Nat.testBit_or]
  rw [Nat.toNat_testBit] at h1 h2 h3
  rw [h1, h2, h3]
  cases X.testBit i <;> cases Y.testBit i <;> rfl
theorem xor_low (X Y i : Nat) : (X ^^^ Y) % 2 ^ i + (X &&& Y) % 2 ^ i = (X ||| Y) % 2 ^ i := by
  induction i with
  | zero => simp [Nat.mod_one]
  | succ i ih =>
    rw [mod_step, mod_step, mod_step, ← ih, ← xor_bit X Y i, Nat.add_mul]
    omega
theorem div_bd (a t : Int) (ha : -2147483648 ≤ a ∧ a ≤ 2147483647) (ht : 1 ≤ t) : -2147483648 ≤ a / t ∧ a / t ≤ 2147483647 := by
  have e := Int.emod_add_mul_ediv a t
  have b1 := Int.emod_nonneg a (b := t) (by omega)
  have b2 := Int.emod_lt_of_pos a (b := t) (by omega)
  constructor
  · by_cases h : a / t < -2147483648
    · have h1 := Int.mul_le_mul_of_nonneg_left (show a / t ≤ -2147483649 from by omega) (show 0 ≤ t from by omega)
      omega
    · omega
  · by_cases h : 2147483647 < a / t
    · have h1 := Int.mul_le_mul_of_nonneg_left (show 2147483648 ≤ a / t from by omega) (show 0 ≤ t from by omega)
      omega
    · omega
theorem bv_nat (a : Int) : (BitVec.ofInt 32 a).toNat = (a % 4294967296).toNat := by
  rw [BitVec.toNat_ofInt]
  rfl
end Go.Proofs.YtkjdjglknbgeaaaGreatDoor
