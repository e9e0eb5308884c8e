/-
  More plain lemmas on words: powers of two, the floor of a quotient, bits one by one. No program in sight.
-/
import Derived.Test.YtadgemcpahfkoaaWordMath
namespace Go.Proofs.Ytadgemcpahfkoaa
open Go.RowKit

/-- 2 to the power k, closed to the walk. -/
def tw (k : Nat) : Int := 2 ^ k
theorem tw_bd (k : Nat) (h : k ≤ 31) : 1 ≤ tw k ∧ tw k ≤ 2147483648 := by
  have h1 : (2 : Nat) ^ k ≤ 2 ^ 31 := Nat.pow_le_pow_right (by omega) h
  have h2 : 0 < (2 : Nat) ^ k := Nat.pow_pos (by omega)
  have h3 : tw k = ((2 ^ k : Nat) : Int) := by unfold tw; simp
  omega
theorem tw_succ (k : Nat) : tw (k + 1) = tw k * 2 := by unfold tw; rw [Int.pow_succ]

theorem floor_eq (a k q : Int) (hk : 0 < k) (h1 : q * k ≤ a) (h2 : a < q * k + k) : q = a / k := by
  have e := Int.emod_add_mul_ediv a k
  have b1 := Int.emod_nonneg a (b := k) (by omega)
  have b2 := Int.emod_lt_of_pos a hk
  rw [Int.mul_comm] at e
  rcases Int.lt_trichotomy q (a / k) with h | h | h
  · have := Int.mul_le_mul_of_nonneg_right (show q + 1 ≤ a / k from h) (Int.le_of_lt hk)
    rw [Int.add_mul] at this
    omega
  · exact h
  · have := Int.mul_le_mul_of_nonneg_right (show a / k + 1 ≤ q from h) (Int.le_of_lt hk)
    rw [Int.add_mul] at this
    omega
theorem tdiv_mul (a k : Int) (hk : 0 < k) : a.tdiv k * k = a - a.tmod k ∧ -k < a.tmod k ∧ a.tmod k < k ∧ (0 ≤ a → 0 ≤ a.tmod k) ∧ (a ≤ 0 → a.tmod k ≤ 0) := by
  have e := Int.mul_tdiv_add_tmod a k
  have h1 : (a.tmod k).natAbs = a.natAbs % k.natAbs := Int.natAbs_tmod a k
  have h2 : a.natAbs % k.natAbs < k.natAbs := Nat.mod_lt _ (by omega)
  have h3 := tmod_side a k
  rw [Int.mul_comm] at e
  exact ⟨by omega, by omega, by omega, h3.1, h3.2⟩
theorem tdiv_floor (a k : Int) (hk : 0 < k) : (a < a.tdiv k * k → a.tdiv k - 1 = a / k) ∧ (a.tdiv k * k ≤ a → a.tdiv k = a / k) := by
  obtain ⟨h1, h2, h3, h4, h5⟩ := tdiv_mul a k hk
  refine ⟨fun h => floor_eq a k _ hk ?_ ?_, fun h => floor_eq a k _ hk ?_ ?_⟩
  · rw [Int.sub_mul]; omega
  · rw [Int.sub_mul]; omega
  · omega
  · omega
theorem tdiv_mul_bd (a k : Int) (ha : -2147483648 ≤ a ∧ a ≤ 2147483647) (hk : 0 < k) : -2147483648 ≤ a.tdiv k * k ∧ a.tdiv k * k ≤ 2147483647 := by
  obtain ⟨h1, h2, h3, h4, h5⟩ := tdiv_mul a k hk
  have e1 := tmod_bd a k ha
  have h6 : (a.tmod k).natAbs = a.natAbs % k.natAbs := Int.natAbs_tmod a k
  have h7 : a.natAbs % k.natAbs ≤ a.natAbs := Nat.mod_le _ _
  omega
theorem wrap32_64 (x : Int) : wrap32 (wrap64 x) = wrap32 x := by
  unfold wrap32 wrap64; omega
theorem mul_bd (a b : Int) (ha : -2147483648 ≤ a ∧ a ≤ 2147483647) (hb : -2147483648 ≤ b ∧ b ≤ 2147483647) : -4611686018427387904 ≤ a * b ∧ a * b ≤ 4611686018427387904 := by
  have h : (a * b).natAbs = a.natAbs * b.natAbs := Int.natAbs_mul a b
  have h2 : a.natAbs * b.natAbs ≤ 2147483648 * 2147483648 := Nat.mul_le_mul (by omega) (by omega)
  omega
theorem mul_ne (a b : Int) : (a * b != 0) = (a != 0 && b != 0) := by
  rw [Bool.eq_iff_iff]
  simp [Int.mul_eq_zero, not_or]

/-- One place more: the bits of a number below 2^(i+1). -/
theorem mod_step (X : Nat) (i : Nat) : X % 2 ^ (i + 1) = X % 2 ^ i + (X / 2 ^ i % 2) * 2 ^ i := by
  rw [Nat.pow_succ, Nat.mod_mul, Nat.mul_comm (2 ^ i)]
theorem and_bit (X Y i : Nat) : (X &&& Y) / 2 ^ i % 2 = (X / 2 ^ i % 2) * (Y / 2 ^ i % 2) := by
  have h : ((X &&& Y).testBit i).toNat = (X.testBit i && Y.testBit i).toNat := by rw [Nat.testBit_and]
  rw [Nat.toNat_testBit] at h
  rw [h, ← Nat.toNat_testBit, ← Nat.toNat_testBit]
  cases X.testBit i <;> cases Y.testBit i <;> rfl
theorem or_bit (X Y i : Nat) : (X ||| Y) / 2 ^ i % 2 + (X / 2 ^ i % 2) * (Y / 2 ^ i % 2) = X / 2 ^ i % 2 + Y / 2 ^ i % 2 := by
  have h : ((X ||| Y).testBit i).toNat = (X.testBit i || Y.testBit i).toNat := by rw [Nat.testBit_or]
  rw [Nat.toNat_testBit] at h
  rw [h, ← Nat.toNat_testBit, ← Nat.toNat_testBit]
  cases X.testBit i <;> cases Y.testBit i <;> rfl
theorem xor_bit (X Y i : Nat) : (X ^^^ Y) / 2 ^ i % 2 + (X &&& Y) / 2 ^ i % 2 = (X ||| Y) / 2 ^ i % 2 := by
  have h1 : ((X ^^^ Y).testBit i).toNat = (X.testBit i ^^ Y.testBit i).toNat := by rw [Nat.testBit_xor]
  have h2 : ((X &&& Y).testBit i).toNat = (X.testBit i && Y.testBit i).toNat := by rw [Nat.testBit_and]
  have h3 : ((X ||| Y).testBit i).toNat = (X.testBit i || Y.testBit i).toNat := by rw [Nat.testBit_or]
  rw [Nat.toNat_testBit] at h1 h2 h3
  rw [h1, h2, h3]
  cases X.testBit i <;> cases Y.testBit i <;> rfl
theorem xor_low (X Y i : Nat) : (X ^^^ Y) % 2 ^ i + (X &&& Y) % 2 ^ i = (X ||| Y) % 2 ^ i := by
  induction i with
  | zero => simp [Nat.mod_one]
  | succ i ih =>
    rw [mod_step, mod_step, mod_step, ← ih, ← xor_bit X Y i, Nat.add_mul]
    omega
theorem div_bd (a t : Int) (ha : -2147483648 ≤ a ∧ a ≤ 2147483647) (ht : 1 ≤ t) : -2147483648 ≤ a / t ∧ a / t ≤ 2147483647 := by
  have e := Int.emod_add_mul_ediv a t
  have b1 := Int.emod_nonneg a (b := t) (by omega)
  have b2 := Int.emod_lt_of_pos a (b := t) (by omega)
  constructor
  · by_cases h : a / t < -2147483648
    · have h1 := Int.mul_le_mul_of_nonneg_left (show a / t ≤ -2147483649 from by omega) (show 0 ≤ t from by omega)
      omega
    · omega
  · by_cases h : 2147483647 < a / t
    · have h1 := Int.mul_le_mul_of_nonneg_left (show 2147483648 ≤ a / t from by omega) (show 0 ≤ t from by omega)
      omega
    · omega
theorem bv_nat (a : Int) : (BitVec.ofInt 32 a).toNat = (a % 4294967296).toNat := by
  rw [BitVec.toNat_ofInt]
  rfl
end Go.Proofs.Ytadgemcpahfkoaa
