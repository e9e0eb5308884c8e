/-
  Plain lemmas on words of 32 bits: reckoning that goes round modulo 2^32. No program in sight.
-/
import Derived.RowKit
import Derived.WalkKit
namespace Go.Proofs.Ytadgemcpahfkoaa
open Go.RowKit

theorem wrap32_ex (x : Int) : ∃ k : Int, wrap32 x = x + 4294967296 * k := by
  refine ⟨-((x + 2147483648) / 4294967296), ?_⟩
  unfold wrap32
  have := Int.emod_add_mul_ediv (x + 2147483648) 4294967296
  omega
theorem wrap32_bd (x : Int) : -2147483648 ≤ wrap32 x ∧ wrap32 x ≤ 2147483647 := by
  unfold wrap32; omega
theorem wrap32_shift (x k : Int) : wrap32 (x + 4294967296 * k) = wrap32 x := by
  unfold wrap32; omega
theorem wrap32_add_l (x y : Int) : wrap32 (wrap32 x + y) = wrap32 (x + y) := by
  unfold wrap32; omega
theorem wrap32_add_r (x y : Int) : wrap32 (x + wrap32 y) = wrap32 (x + y) := by
  unfold wrap32; omega
theorem wrap32_sub_l (x y : Int) : wrap32 (wrap32 x - y) = wrap32 (x - y) := by
  unfold wrap32; omega
theorem wrap32_sub_r (x y : Int) : wrap32 (x - wrap32 y) = wrap32 (x - y) := by
  unfold wrap32; omega
theorem wrap32_mul_l (x y : Int) : wrap32 (wrap32 x * y) = wrap32 (x * y) := by
  obtain ⟨k, hk⟩ := wrap32_ex x
  rw [hk, Int.add_mul, Int.mul_assoc, wrap32_shift]
theorem wrap32_mul_r (x y : Int) : wrap32 (x * wrap32 y) = wrap32 (x * y) := by
  rw [Int.mul_comm, wrap32_mul_l, Int.mul_comm]
theorem wrap32_self (x : Int) (h : -2147483648 ≤ x ∧ x ≤ 2147483647) : wrap32 x = x := by
  unfold wrap32; omega

theorem quot_back (a b : Int) (h : -2147483648 ≤ a ∧ a ≤ 2147483647) : wrap32 (wrap32 (wrap32 (a.tdiv b) * b) + a.tmod b) = a := by
  rw [wrap32_mul_l, wrap32_add_l]
  have := Int.mul_tdiv_add_tmod a b
  rw [Int.mul_comm] at this
  rw [this, wrap32_self a h]
theorem tmod_near (a b : Int) (hb : b ≠ 0) : (0 ≤ a.tmod b → a.tmod b < max b (-b)) ∧ (a.tmod b ≤ 0 → -(a.tmod b) < max b (-b)) := by
  have h1 : (a.tmod b).natAbs = a.natAbs % b.natAbs := Int.natAbs_tmod a b
  have h2 : a.natAbs % b.natAbs < b.natAbs := Nat.mod_lt _ (by omega)
  omega
theorem tmod_side (a b : Int) : (0 ≤ a → 0 ≤ a.tmod b) ∧ (a ≤ 0 → a.tmod b ≤ 0) := by
  refine ⟨fun h => Int.tmod_nonneg b h, fun h => ?_⟩
  have := Int.tmod_nonneg b (a := -a) (by omega)
  rw [Int.neg_tmod] at this
  omega
theorem tmod_bd (a b : Int) (h : -2147483648 ≤ a ∧ a ≤ 2147483647) : -2147483648 ≤ a.tmod b ∧ a.tmod b ≤ 2147483647 := by
  have h1 : (a.tmod b).natAbs = a.natAbs % b.natAbs := Int.natAbs_tmod a b
  have h2 : a.natAbs % b.natAbs ≤ a.natAbs := Nat.mod_le _ _
  have h3 := tmod_side a b
  omega

theorem split_lo (n : Int) : -2048 ≤ wrap32 (n * 1048576) / 1048576 ∧ wrap32 (n * 1048576) / 1048576 ≤ 2047 := by
  unfold wrap32; omega
theorem split_hi (x : Int) : 0 ≤ wrap32 x % 4294967296 / 4096 ∧ wrap32 x % 4294967296 / 4096 < 1048576 := by
  unfold wrap32; omega
theorem split_back (n : Int) : wrap32 (wrap32 (n - wrap32 (n * 1048576) / 1048576) % 4294967296 / 4096 * 4096 + wrap32 (n * 1048576) / 1048576) = wrap32 n := by
  unfold wrap32; omega

theorem bv_wrap (x : Int) : BitVec.ofInt 32 (wrap32 x) = BitVec.ofInt 32 x := by
  apply BitVec.eq_of_toNat_eq
  rw [BitVec.toNat_ofInt, BitVec.toNat_ofInt]
  unfold wrap32
  omega
theorem bv_back (z : BitVec 32) : BitVec.ofInt 32 (wrap32 (z.toNat : Int)) = z := by
  rw [bv_wrap, BitVec.ofInt_natCast, BitVec.ofNat_toNat, BitVec.setWidth_eq]
theorem and_is (a b : Int) : bits .and .i32 a b = wrap32 ((BitVec.ofInt 32 a &&& BitVec.ofInt 32 b).toNat : Int) := IntWalk.i32_left _
theorem or_is (a b : Int) : bits .or .i32 a b = wrap32 ((BitVec.ofInt 32 a ||| BitVec.ofInt 32 b).toNat : Int) := IntWalk.i32_left _
theorem xor_is (a b : Int) : bits .xor .i32 a b = wrap32 ((BitVec.ofInt 32 a ^^^ BitVec.ofInt 32 b).toNat : Int) := IntWalk.i32_left _

/-- What the five operators of the ring law answer. -/
def ringV (op a b : Int) : Int :=
  if op = 1 then wrap32 (a + b) else if op = 3 then wrap32 (a * b) else if op = 8 then bits .and .i32 a b else if op = 9 then bits .or .i32 a b else bits .xor .i32 a b
theorem ringV_comm (op a b : Int) : ringV op a b = ringV op b a := by
  unfold ringV
  rw [Int.add_comm a b, Int.mul_comm a b, and_is, and_is, or_is, or_is, xor_is, xor_is, BitVec.and_comm, BitVec.or_comm, BitVec.xor_comm]
theorem ringV_assoc (op a b c : Int) : ringV op (ringV op a b) c = ringV op a (ringV op b c) := by
  unfold ringV
  split
  · rw [wrap32_add_l, wrap32_add_r, Int.add_assoc]
  split
  · rw [wrap32_mul_l, wrap32_mul_r, Int.mul_assoc]
  split
  · simp only [and_is, bv_back, BitVec.and_assoc]
  split
  · simp only [or_is, bv_back, BitVec.or_assoc]
  · simp only [xor_is, bv_back, BitVec.xor_assoc]
theorem ring_dist (a b c : Int) : wrap32 (a * wrap32 (b + c)) = wrap32 (wrap32 (a * b) + wrap32 (a * c)) := by
  rw [wrap32_mul_r, wrap32_add_l, wrap32_add_r, Int.mul_add]
theorem ring_back (a b : Int) (h : -2147483648 ≤ a ∧ a ≤ 2147483647) : wrap32 (wrap32 (a - b) + b) = a := by
  rw [wrap32_add_l, show a - b + b = a from by omega, wrap32_self a h]
theorem inv_is (a : Int) (h : -2147483648 ≤ a ∧ a ≤ 2147483647) : bits .xor .i32 (-1) a = -1 - a := by
  rw [xor_is, show BitVec.ofInt 32 (-1) = BitVec.allOnes 32 from by decide, BitVec.allOnes_xor, BitVec.toNat_not, BitVec.toNat_ofInt]
  unfold wrap32
  omega
end Go.Proofs.Ytadgemcpahfkoaa
