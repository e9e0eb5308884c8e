/-
  Plain lemmas on words of 32 bits: reckoning that goes round modulo 2^32. No program in sight.
-/
import Derived.RowKit
import Derived.WalkKit
namespace Go.Proofs.YthgkkgjnealkbaaDoor
open Go.RowKit

theorem wrap32_ex (x : Int) : ∃ k : Int, wrap32 x = x + 4294967296 * k := by
  refine ⟨-((x + 2147483648) / 4294967296), ?_⟩
  unfold wrap32
  have := Int.emod_add_mul_ediv (x + 2147483648) 4294967296
  omega
theorem wrap32_bd (x : Int) : -2147483648 ≤ wrap32 x ∧ wrap32 x ≤ 2147483647 := by
  unfold wrap32; omega
theorem wrap32_shift (x k : Int) : wrap32 (x + 4294967296 * k) = wrap32 x := by
  unfold wrap32; omega
theorem wrap32_add_l (x y : Int) : wrap32 (wrap32 x + y) = wrap32 (x + y) := by
  unfold wrap32; omega
theorem wrap32_add_r (x y : Int) : wrap32 (x + wrap32 y) = wrap32 (x + y) := by
  unfold wrap32; omega
theorem wrap32_sub_l (x y : Int) : wrap32 (wrap32 x - y) = wrap32 (x - y) := by
  unfold wrap32; omega
theorem wrap32_sub_r (x y : Int) : wrap32 (x - wrap32 y) = wrap32 (x - y) := by
  unfold wrap32; omega
theorem wrap32_mul_l (x y : Int) : wrap32 (wrap32 x * y) = wrap32 (x * y) := by
  obtain ⟨k, hk⟩ := wrap32_ex x
  rw [hk, Int.add_mul, Int.mul_assoc, wrap32_shift]
theorem wrap32_mul_r (x y : Int) : wrap32 (x * wrap32 y) = wrap32 (x * y) := by
  rw [Int.mul_comm, wrap32_mul_l, Int.mul_comm]
theorem wrap32_self (x : Int) (h : -2147483648 ≤ x ∧ x ≤ 2147483647) : wrap32 x = x := by
  unfold wrap32; omega

theorem quot_back (a b : Int) (h : -2147483648 ≤ a ∧ a ≤ 2147483647) : wrap32 (wrap32 (wrap32 (a.tdiv b) * b) + a.tmod b) = a := by
  rw [wrap32_mul_l, wrap32_add_l]
  have := Int.mul_tdiv_add_tmod a b
  rw [Int.mul_comm] at this
  rw [this, wrap32_self a h]
theorem tmod_near (a b : Int) (hb : b ≠ 0) : (0 ≤ a.tmod b → a.tmod b < max b (-b)) ∧ (a.tmod b ≤ 0 → -(a.tmod b) < max b (-b)) := by
  have h1 : (a.tmod b).natAbs = a.natAbs % b.natAbs := Int.natAbs_tmod a b
  have h2 : a.natAbs % b.natAbs < b.natAbs := Nat.mod_lt _ (by omega)
  omega
theorem tmod_side (a b : Int) : (0 ≤ a → 0 ≤ a.tmod b) ∧ (a ≤ 0 → a.tmod b ≤ 0) := by
  refine ⟨fun h => Int.tmod_nonneg b h, fun h => ?_⟩
  have := Int.tmod_nonneg b (a := -a) (by omega)
  rw [Int.neg_tmod] at this
  omega
theorem tmod_bd (a b : Int) (h : -2147483648 ≤ a ∧ a ≤ 2147483647) : -2147483648 ≤ a.tmod b ∧ a.tmod b ≤ 2147483647 := by
  have h1 : (a.tmod b).natAbs = a.natAbs % b.natAbs := Int.natAbs_tmod a b
  have h2 : a.natAbs % b.natAbs ≤ a.natAbs := Nat.mod_le _ _
  have h3 := tmod_side a b
  omega

theorem split_lo (n : Int) : -2048 ≤ wrap32 (n * 1048576) / 1048576 ∧ wrap32 (n * 1048576) / 1048576 ≤ 2047 := by
  unfold wrap32; omega
theorem split_hi (x : Int) : 0 ≤ wrap32 x % 4294967296 / 4096 ∧ wrap32 x % 4294967296 / 4096 < 1048576 := by
  unfold wrap32; omega
theorem split_back (n : Int) : wrap32 (wrap32 (n - wrap32 (n * 1048576) / 1048576) % 4294967296 / 4096 * 4096 + wrap32 (n * 1048576) / 1048576) = wrap32 n := by
  unfold wrap32; omega
end Go.Proofs.YthgkkgjnealkbaaDoor
