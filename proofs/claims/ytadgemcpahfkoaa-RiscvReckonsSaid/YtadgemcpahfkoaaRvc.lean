/-
  Contract of the document's Step: it makes of two words, and goes on where, riscv.Step does.
-/
import Derived.Test.YtadgemcpahfkoaaRvb
import Derived.OpenShut
namespace Go.Proofs.Ytadgemcpahfkoaa
open Go.RowKit
set_option linter.unusedVariables false
set_option linter.unusedSimpArgs false
set_option maxRecDepth 100000
namespace Rv
open WordBins
theorem even_bv (x : BitVec 32) : x &&& ~~~1#32 = (x >>> 1) <<< 1 := by
  ext i hi
  rcases i with _ | i
  · simp
  · have hi' : i < 31 := by omega
    have hk : ∀ k : Fin 31, (4294967294#32).getLsbD (k.val + 1) = true := by decide
    have hk' := hk ⟨i, hi'⟩
    simp only [BitVec.getLsbD_eq_getElem hi] at hk'
    simp [hi, hi', Nat.lt_succ_iff]
    rw [hk', Bool.and_true, Nat.add_comm 1 i, BitVec.getLsbD_eq_getElem hi]
theorem even_nat (x : BitVec 32) : (x &&& ~~~1#32).toNat = x.toNat / 2 * 2 := by
  have h := x.isLt
  rw [even_bv]
  simp [BitVec.toNat_shiftLeft, BitVec.toNat_ushiftRight, Nat.shiftRight_eq_div_pow, Nat.shiftLeft_eq]
  omega
theorem even_is (x : Int) (h1 : -2147483648 ≤ x) (h2 : x ≤ 2147483647) : bits .andNot .i32 x 1 = if x % 2 = 0 then x else x - 1 := by
  have h : bits .andNot .i32 x 1 = wrap32 ((BitVec.ofInt 32 x &&& ~~~1#32).toNat : Int) := IntWalk.i32_left _
  rw [h, even_nat]
  have e : ((BitVec.ofInt 32 x).toNat : Int) = x % 4294967296 := by simp [BitVec.toNat_ofInt]; omega
  unfold wrap32
  split <;> omega

theorem low_any (a b : Int) (w : World) :
    Calls Try.prog 59 #[.int .i32 a, .int .i32 b] w fun e w' => e = .returned (.int .i32 (truthI (decide (a % 4294967296 < b % 4294967296)))) ∧ w = w' := by
  go_enter Try.func59, Try.ntmps59
  go_wp2
  all_goals
    go_ret
    exact ⟨by simp [truthI, *], rfl⟩
theorem down_any (a b : Int) (w : World) :
    Calls Try.prog 60 #[.int .i32 a, .int .i32 b] w fun e w' => e = .returned (.int .i32 (wrap32 (a % 4294967296 / 2 ^ (b % 32).toNat))) ∧ w = w' := by
  have g1 : 0 ≤ b % 4294967296 % 32 := by omega
  have g2 : b % 4294967296 % 32 < 32 := by omega
  go_enter Try.func60, Try.ntmps60
  go_wp2
  go_ret
  exact ⟨rfl, rfl⟩

/-- What an instruction from Addi to Rems makes of two words, and whether its operator has a value. -/
def valI (op a b : Int) : Int × Bool :=
  if op = 4 ∨ op = 15 then (truthI (decide (a % 4294967296 < b % 4294967296)), true)
  else if op = 9 ∨ op = 17 then (wrap32 (a % 4294967296 / 2 ^ (b % 32).toNat), true)
  else binV (mopN op) a b

theorem value_2 (a b : Int) (ha : -2147483648 ≤ a ∧ a ≤ 2147483647) (hb : -2147483648 ≤ b ∧ b ≤ 2147483647) (w : World) :
    Calls Try.prog 40 #[.int .i64 2, .int .i32 a, .int .i32 b] w fun e w' => e = .returned (.tuple #[.int .i32 (valI 2 a b).1, .bool (valI 2 a b).2]) ∧ Below w.heap.size w w' := by
  have he : valI 2 a b = binV 1 a b := by simp [valI, mopN]
  rw [he]
  clear he
  go_enter Try.func40, Try.ntmps40
  go_wp2_with first
    | (go_at_call 59; refine (low_any _ _ _).mono ?_; rintro e w' ⟨rfl, rfl⟩)
    | (go_at_call 60; refine (down_any _ _ _).mono ?_; rintro e w' ⟨rfl, rfl⟩)
    | (go_at_call 61; refine (ref_bin _ _ _ ha hb _).mono ?_; rintro e w' ⟨rfl, k, rfl⟩)
  go_ret2
  exact ⟨rfl, by first | exact Below.refl _ _ | exact below_drewN1 ((Below.refl _ _).alloc (Nat.le_refl _) _) _ | exact (Below.refl _ _).alloc (Nat.le_refl _) _⟩
theorem value_3 (a b : Int) (ha : -2147483648 ≤ a ∧ a ≤ 2147483647) (hb : -2147483648 ≤ b ∧ b ≤ 2147483647) (w : World) :
    Calls Try.prog 40 #[.int .i64 3, .int .i32 a, .int .i32 b] w fun e w' => e = .returned (.tuple #[.int .i32 (valI 3 a b).1, .bool (valI 3 a b).2]) ∧ Below w.heap.size w w' := by
  have he : valI 3 a b = binV 11 a b := by simp [valI, mopN]
  rw [he]
  clear he
  go_enter Try.func40, Try.ntmps40
  go_wp2_with first
    | (go_at_call 59; refine (low_any _ _ _).mono ?_; rintro e w' ⟨rfl, rfl⟩)
    | (go_at_call 60; refine (down_any _ _ _).mono ?_; rintro e w' ⟨rfl, rfl⟩)
    | (go_at_call 61; refine (ref_bin _ _ _ ha hb _).mono ?_; rintro e w' ⟨rfl, k, rfl⟩)
  go_ret2
  exact ⟨rfl, by first | exact Below.refl _ _ | exact below_drewN1 ((Below.refl _ _).alloc (Nat.le_refl _) _) _ | exact (Below.refl _ _).alloc (Nat.le_refl _) _⟩
theorem value_4 (a b : Int) (ha : -2147483648 ≤ a ∧ a ≤ 2147483647) (hb : -2147483648 ≤ b ∧ b ≤ 2147483647) (w : World) :
    Calls Try.prog 40 #[.int .i64 4, .int .i32 a, .int .i32 b] w fun e w' => e = .returned (.tuple #[.int .i32 (valI 4 a b).1, .bool (valI 4 a b).2]) ∧ Below w.heap.size w w' := by
  go_enter Try.func40, Try.ntmps40
  go_wp2_with first
    | (go_at_call 59; refine (low_any _ _ _).mono ?_; rintro e w' ⟨rfl, rfl⟩)
    | (go_at_call 60; refine (down_any _ _ _).mono ?_; rintro e w' ⟨rfl, rfl⟩)
    | (go_at_call 61; refine (ref_bin _ _ _ ha hb _).mono ?_; rintro e w' ⟨rfl, k, rfl⟩)
  go_ret2
  exact ⟨rfl, by first | exact Below.refl _ _ | exact below_drewN1 ((Below.refl _ _).alloc (Nat.le_refl _) _) _ | exact (Below.refl _ _).alloc (Nat.le_refl _) _⟩
theorem value_5 (a b : Int) (ha : -2147483648 ≤ a ∧ a ≤ 2147483647) (hb : -2147483648 ≤ b ∧ b ≤ 2147483647) (w : World) :
    Calls Try.prog 40 #[.int .i64 5, .int .i32 a, .int .i32 b] w fun e w' => e = .returned (.tuple #[.int .i32 (valI 5 a b).1, .bool (valI 5 a b).2]) ∧ Below w.heap.size w w' := by
  have he : valI 5 a b = binV 10 a b := by simp [valI, mopN]
  rw [he]
  clear he
  go_enter Try.func40, Try.ntmps40
  go_wp2_with first
    | (go_at_call 59; refine (low_any _ _ _).mono ?_; rintro e w' ⟨rfl, rfl⟩)
    | (go_at_call 60; refine (down_any _ _ _).mono ?_; rintro e w' ⟨rfl, rfl⟩)
    | (go_at_call 61; refine (ref_bin _ _ _ ha hb _).mono ?_; rintro e w' ⟨rfl, k, rfl⟩)
  go_ret2
  exact ⟨rfl, by first | exact Below.refl _ _ | exact below_drewN1 ((Below.refl _ _).alloc (Nat.le_refl _) _) _ | exact (Below.refl _ _).alloc (Nat.le_refl _) _⟩
theorem value_6 (a b : Int) (ha : -2147483648 ≤ a ∧ a ≤ 2147483647) (hb : -2147483648 ≤ b ∧ b ≤ 2147483647) (w : World) :
    Calls Try.prog 40 #[.int .i64 6, .int .i32 a, .int .i32 b] w fun e w' => e = .returned (.tuple #[.int .i32 (valI 6 a b).1, .bool (valI 6 a b).2]) ∧ Below w.heap.size w w' := by
  have he : valI 6 a b = binV 9 a b := by simp [valI, mopN]
  rw [he]
  clear he
  go_enter Try.func40, Try.ntmps40
  go_wp2_with first
    | (go_at_call 59; refine (low_any _ _ _).mono ?_; rintro e w' ⟨rfl, rfl⟩)
    | (go_at_call 60; refine (down_any _ _ _).mono ?_; rintro e w' ⟨rfl, rfl⟩)
    | (go_at_call 61; refine (ref_bin _ _ _ ha hb _).mono ?_; rintro e w' ⟨rfl, k, rfl⟩)
  go_ret2
  exact ⟨rfl, by first | exact Below.refl _ _ | exact below_drewN1 ((Below.refl _ _).alloc (Nat.le_refl _) _) _ | exact (Below.refl _ _).alloc (Nat.le_refl _) _⟩
theorem value_7 (a b : Int) (ha : -2147483648 ≤ a ∧ a ≤ 2147483647) (hb : -2147483648 ≤ b ∧ b ≤ 2147483647) (w : World) :
    Calls Try.prog 40 #[.int .i64 7, .int .i32 a, .int .i32 b] w fun e w' => e = .returned (.tuple #[.int .i32 (valI 7 a b).1, .bool (valI 7 a b).2]) ∧ Below w.heap.size w w' := by
  have he : valI 7 a b = binV 8 a b := by simp [valI, mopN]
  rw [he]
  clear he
  go_enter Try.func40, Try.ntmps40
  go_wp2_with first
    | (go_at_call 59; refine (low_any _ _ _).mono ?_; rintro e w' ⟨rfl, rfl⟩)
    | (go_at_call 60; refine (down_any _ _ _).mono ?_; rintro e w' ⟨rfl, rfl⟩)
    | (go_at_call 61; refine (ref_bin _ _ _ ha hb _).mono ?_; rintro e w' ⟨rfl, k, rfl⟩)
  go_ret2
  exact ⟨rfl, by first | exact Below.refl _ _ | exact below_drewN1 ((Below.refl _ _).alloc (Nat.le_refl _) _) _ | exact (Below.refl _ _).alloc (Nat.le_refl _) _⟩
theorem value_8 (a b : Int) (ha : -2147483648 ≤ a ∧ a ≤ 2147483647) (hb : -2147483648 ≤ b ∧ b ≤ 2147483647) (w : World) :
    Calls Try.prog 40 #[.int .i64 8, .int .i32 a, .int .i32 b] w fun e w' => e = .returned (.tuple #[.int .i32 (valI 8 a b).1, .bool (valI 8 a b).2]) ∧ Below w.heap.size w w' := by
  have he : valI 8 a b = binV 6 a b := by simp [valI, mopN]
  rw [he]
  clear he
  go_enter Try.func40, Try.ntmps40
  go_wp2_with first
    | (go_at_call 59; refine (low_any _ _ _).mono ?_; rintro e w' ⟨rfl, rfl⟩)
    | (go_at_call 60; refine (down_any _ _ _).mono ?_; rintro e w' ⟨rfl, rfl⟩)
    | (go_at_call 61; refine (ref_bin _ _ _ ha hb _).mono ?_; rintro e w' ⟨rfl, k, rfl⟩)
  go_ret2
  exact ⟨rfl, by first | exact Below.refl _ _ | exact below_drewN1 ((Below.refl _ _).alloc (Nat.le_refl _) _) _ | exact (Below.refl _ _).alloc (Nat.le_refl _) _⟩
theorem value_9 (a b : Int) (ha : -2147483648 ≤ a ∧ a ≤ 2147483647) (hb : -2147483648 ≤ b ∧ b ≤ 2147483647) (w : World) :
    Calls Try.prog 40 #[.int .i64 9, .int .i32 a, .int .i32 b] w fun e w' => e = .returned (.tuple #[.int .i32 (valI 9 a b).1, .bool (valI 9 a b).2]) ∧ Below w.heap.size w w' := by
  go_enter Try.func40, Try.ntmps40
  go_wp2_with first
    | (go_at_call 59; refine (low_any _ _ _).mono ?_; rintro e w' ⟨rfl, rfl⟩)
    | (go_at_call 60; refine (down_any _ _ _).mono ?_; rintro e w' ⟨rfl, rfl⟩)
    | (go_at_call 61; refine (ref_bin _ _ _ ha hb _).mono ?_; rintro e w' ⟨rfl, k, rfl⟩)
  go_ret2
  exact ⟨rfl, by first | exact Below.refl _ _ | exact below_drewN1 ((Below.refl _ _).alloc (Nat.le_refl _) _) _ | exact (Below.refl _ _).alloc (Nat.le_refl _) _⟩
theorem value_10 (a b : Int) (ha : -2147483648 ≤ a ∧ a ≤ 2147483647) (hb : -2147483648 ≤ b ∧ b ≤ 2147483647) (w : World) :
    Calls Try.prog 40 #[.int .i64 10, .int .i32 a, .int .i32 b] w fun e w' => e = .returned (.tuple #[.int .i32 (valI 10 a b).1, .bool (valI 10 a b).2]) ∧ Below w.heap.size w w' := by
  have he : valI 10 a b = binV 7 a b := by simp [valI, mopN]
  rw [he]
  clear he
  go_enter Try.func40, Try.ntmps40
  go_wp2_with first
    | (go_at_call 59; refine (low_any _ _ _).mono ?_; rintro e w' ⟨rfl, rfl⟩)
    | (go_at_call 60; refine (down_any _ _ _).mono ?_; rintro e w' ⟨rfl, rfl⟩)
    | (go_at_call 61; refine (ref_bin _ _ _ ha hb _).mono ?_; rintro e w' ⟨rfl, k, rfl⟩)
  go_ret2
  exact ⟨rfl, by first | exact Below.refl _ _ | exact below_drewN1 ((Below.refl _ _).alloc (Nat.le_refl _) _) _ | exact (Below.refl _ _).alloc (Nat.le_refl _) _⟩
theorem value_11 (a b : Int) (ha : -2147483648 ≤ a ∧ a ≤ 2147483647) (hb : -2147483648 ≤ b ∧ b ≤ 2147483647) (w : World) :
    Calls Try.prog 40 #[.int .i64 11, .int .i32 a, .int .i32 b] w fun e w' => e = .returned (.tuple #[.int .i32 (valI 11 a b).1, .bool (valI 11 a b).2]) ∧ Below w.heap.size w w' := by
  have he : valI 11 a b = binV 1 a b := by simp [valI, mopN]
  rw [he]
  clear he
  go_enter Try.func40, Try.ntmps40
  go_wp2_with first
    | (go_at_call 59; refine (low_any _ _ _).mono ?_; rintro e w' ⟨rfl, rfl⟩)
    | (go_at_call 60; refine (down_any _ _ _).mono ?_; rintro e w' ⟨rfl, rfl⟩)
    | (go_at_call 61; refine (ref_bin _ _ _ ha hb _).mono ?_; rintro e w' ⟨rfl, k, rfl⟩)
  go_ret2
  exact ⟨rfl, by first | exact Below.refl _ _ | exact below_drewN1 ((Below.refl _ _).alloc (Nat.le_refl _) _) _ | exact (Below.refl _ _).alloc (Nat.le_refl _) _⟩
theorem value_12 (a b : Int) (ha : -2147483648 ≤ a ∧ a ≤ 2147483647) (hb : -2147483648 ≤ b ∧ b ≤ 2147483647) (w : World) :
    Calls Try.prog 40 #[.int .i64 12, .int .i32 a, .int .i32 b] w fun e w' => e = .returned (.tuple #[.int .i32 (valI 12 a b).1, .bool (valI 12 a b).2]) ∧ Below w.heap.size w w' := by
  have he : valI 12 a b = binV 2 a b := by simp [valI, mopN]
  rw [he]
  clear he
  go_enter Try.func40, Try.ntmps40
  go_wp2_with first
    | (go_at_call 59; refine (low_any _ _ _).mono ?_; rintro e w' ⟨rfl, rfl⟩)
    | (go_at_call 60; refine (down_any _ _ _).mono ?_; rintro e w' ⟨rfl, rfl⟩)
    | (go_at_call 61; refine (ref_bin _ _ _ ha hb _).mono ?_; rintro e w' ⟨rfl, k, rfl⟩)
  go_ret2
  exact ⟨rfl, by first | exact Below.refl _ _ | exact below_drewN1 ((Below.refl _ _).alloc (Nat.le_refl _) _) _ | exact (Below.refl _ _).alloc (Nat.le_refl _) _⟩
theorem value_13 (a b : Int) (ha : -2147483648 ≤ a ∧ a ≤ 2147483647) (hb : -2147483648 ≤ b ∧ b ≤ 2147483647) (w : World) :
    Calls Try.prog 40 #[.int .i64 13, .int .i32 a, .int .i32 b] w fun e w' => e = .returned (.tuple #[.int .i32 (valI 13 a b).1, .bool (valI 13 a b).2]) ∧ Below w.heap.size w w' := by
  have he : valI 13 a b = binV 6 a b := by simp [valI, mopN]
  rw [he]
  clear he
  go_enter Try.func40, Try.ntmps40
  go_wp2_with first
    | (go_at_call 59; refine (low_any _ _ _).mono ?_; rintro e w' ⟨rfl, rfl⟩)
    | (go_at_call 60; refine (down_any _ _ _).mono ?_; rintro e w' ⟨rfl, rfl⟩)
    | (go_at_call 61; refine (ref_bin _ _ _ ha hb _).mono ?_; rintro e w' ⟨rfl, k, rfl⟩)
  go_ret2
  exact ⟨rfl, by first | exact Below.refl _ _ | exact below_drewN1 ((Below.refl _ _).alloc (Nat.le_refl _) _) _ | exact (Below.refl _ _).alloc (Nat.le_refl _) _⟩
theorem value_14 (a b : Int) (ha : -2147483648 ≤ a ∧ a ≤ 2147483647) (hb : -2147483648 ≤ b ∧ b ≤ 2147483647) (w : World) :
    Calls Try.prog 40 #[.int .i64 14, .int .i32 a, .int .i32 b] w fun e w' => e = .returned (.tuple #[.int .i32 (valI 14 a b).1, .bool (valI 14 a b).2]) ∧ Below w.heap.size w w' := by
  have he : valI 14 a b = binV 11 a b := by simp [valI, mopN]
  rw [he]
  clear he
  go_enter Try.func40, Try.ntmps40
  go_wp2_with first
    | (go_at_call 59; refine (low_any _ _ _).mono ?_; rintro e w' ⟨rfl, rfl⟩)
    | (go_at_call 60; refine (down_any _ _ _).mono ?_; rintro e w' ⟨rfl, rfl⟩)
    | (go_at_call 61; refine (ref_bin _ _ _ ha hb _).mono ?_; rintro e w' ⟨rfl, k, rfl⟩)
  go_ret2
  exact ⟨rfl, by first | exact Below.refl _ _ | exact below_drewN1 ((Below.refl _ _).alloc (Nat.le_refl _) _) _ | exact (Below.refl _ _).alloc (Nat.le_refl _) _⟩
theorem value_15 (a b : Int) (ha : -2147483648 ≤ a ∧ a ≤ 2147483647) (hb : -2147483648 ≤ b ∧ b ≤ 2147483647) (w : World) :
    Calls Try.prog 40 #[.int .i64 15, .int .i32 a, .int .i32 b] w fun e w' => e = .returned (.tuple #[.int .i32 (valI 15 a b).1, .bool (valI 15 a b).2]) ∧ Below w.heap.size w w' := by
  go_enter Try.func40, Try.ntmps40
  go_wp2_with first
    | (go_at_call 59; refine (low_any _ _ _).mono ?_; rintro e w' ⟨rfl, rfl⟩)
    | (go_at_call 60; refine (down_any _ _ _).mono ?_; rintro e w' ⟨rfl, rfl⟩)
    | (go_at_call 61; refine (ref_bin _ _ _ ha hb _).mono ?_; rintro e w' ⟨rfl, k, rfl⟩)
  go_ret2
  exact ⟨rfl, by first | exact Below.refl _ _ | exact below_drewN1 ((Below.refl _ _).alloc (Nat.le_refl _) _) _ | exact (Below.refl _ _).alloc (Nat.le_refl _) _⟩
theorem value_16 (a b : Int) (ha : -2147483648 ≤ a ∧ a ≤ 2147483647) (hb : -2147483648 ≤ b ∧ b ≤ 2147483647) (w : World) :
    Calls Try.prog 40 #[.int .i64 16, .int .i32 a, .int .i32 b] w fun e w' => e = .returned (.tuple #[.int .i32 (valI 16 a b).1, .bool (valI 16 a b).2]) ∧ Below w.heap.size w w' := by
  have he : valI 16 a b = binV 10 a b := by simp [valI, mopN]
  rw [he]
  clear he
  go_enter Try.func40, Try.ntmps40
  go_wp2_with first
    | (go_at_call 59; refine (low_any _ _ _).mono ?_; rintro e w' ⟨rfl, rfl⟩)
    | (go_at_call 60; refine (down_any _ _ _).mono ?_; rintro e w' ⟨rfl, rfl⟩)
    | (go_at_call 61; refine (ref_bin _ _ _ ha hb _).mono ?_; rintro e w' ⟨rfl, k, rfl⟩)
  go_ret2
  exact ⟨rfl, by first | exact Below.refl _ _ | exact below_drewN1 ((Below.refl _ _).alloc (Nat.le_refl _) _) _ | exact (Below.refl _ _).alloc (Nat.le_refl _) _⟩
theorem value_17 (a b : Int) (ha : -2147483648 ≤ a ∧ a ≤ 2147483647) (hb : -2147483648 ≤ b ∧ b ≤ 2147483647) (w : World) :
    Calls Try.prog 40 #[.int .i64 17, .int .i32 a, .int .i32 b] w fun e w' => e = .returned (.tuple #[.int .i32 (valI 17 a b).1, .bool (valI 17 a b).2]) ∧ Below w.heap.size w w' := by
  go_enter Try.func40, Try.ntmps40
  go_wp2_with first
    | (go_at_call 59; refine (low_any _ _ _).mono ?_; rintro e w' ⟨rfl, rfl⟩)
    | (go_at_call 60; refine (down_any _ _ _).mono ?_; rintro e w' ⟨rfl, rfl⟩)
    | (go_at_call 61; refine (ref_bin _ _ _ ha hb _).mono ?_; rintro e w' ⟨rfl, k, rfl⟩)
  go_ret2
  exact ⟨rfl, by first | exact Below.refl _ _ | exact below_drewN1 ((Below.refl _ _).alloc (Nat.le_refl _) _) _ | exact (Below.refl _ _).alloc (Nat.le_refl _) _⟩
theorem value_18 (a b : Int) (ha : -2147483648 ≤ a ∧ a ≤ 2147483647) (hb : -2147483648 ≤ b ∧ b ≤ 2147483647) (w : World) :
    Calls Try.prog 40 #[.int .i64 18, .int .i32 a, .int .i32 b] w fun e w' => e = .returned (.tuple #[.int .i32 (valI 18 a b).1, .bool (valI 18 a b).2]) ∧ Below w.heap.size w w' := by
  have he : valI 18 a b = binV 7 a b := by simp [valI, mopN]
  rw [he]
  clear he
  go_enter Try.func40, Try.ntmps40
  go_wp2_with first
    | (go_at_call 59; refine (low_any _ _ _).mono ?_; rintro e w' ⟨rfl, rfl⟩)
    | (go_at_call 60; refine (down_any _ _ _).mono ?_; rintro e w' ⟨rfl, rfl⟩)
    | (go_at_call 61; refine (ref_bin _ _ _ ha hb _).mono ?_; rintro e w' ⟨rfl, k, rfl⟩)
  go_ret2
  exact ⟨rfl, by first | exact Below.refl _ _ | exact below_drewN1 ((Below.refl _ _).alloc (Nat.le_refl _) _) _ | exact (Below.refl _ _).alloc (Nat.le_refl _) _⟩
theorem value_19 (a b : Int) (ha : -2147483648 ≤ a ∧ a ≤ 2147483647) (hb : -2147483648 ≤ b ∧ b ≤ 2147483647) (w : World) :
    Calls Try.prog 40 #[.int .i64 19, .int .i32 a, .int .i32 b] w fun e w' => e = .returned (.tuple #[.int .i32 (valI 19 a b).1, .bool (valI 19 a b).2]) ∧ Below w.heap.size w w' := by
  have he : valI 19 a b = binV 9 a b := by simp [valI, mopN]
  rw [he]
  clear he
  go_enter Try.func40, Try.ntmps40
  go_wp2_with first
    | (go_at_call 59; refine (low_any _ _ _).mono ?_; rintro e w' ⟨rfl, rfl⟩)
    | (go_at_call 60; refine (down_any _ _ _).mono ?_; rintro e w' ⟨rfl, rfl⟩)
    | (go_at_call 61; refine (ref_bin _ _ _ ha hb _).mono ?_; rintro e w' ⟨rfl, k, rfl⟩)
  go_ret2
  exact ⟨rfl, by first | exact Below.refl _ _ | exact below_drewN1 ((Below.refl _ _).alloc (Nat.le_refl _) _) _ | exact (Below.refl _ _).alloc (Nat.le_refl _) _⟩
theorem value_20 (a b : Int) (ha : -2147483648 ≤ a ∧ a ≤ 2147483647) (hb : -2147483648 ≤ b ∧ b ≤ 2147483647) (w : World) :
    Calls Try.prog 40 #[.int .i64 20, .int .i32 a, .int .i32 b] w fun e w' => e = .returned (.tuple #[.int .i32 (valI 20 a b).1, .bool (valI 20 a b).2]) ∧ Below w.heap.size w w' := by
  have he : valI 20 a b = binV 8 a b := by simp [valI, mopN]
  rw [he]
  clear he
  go_enter Try.func40, Try.ntmps40
  go_wp2_with first
    | (go_at_call 59; refine (low_any _ _ _).mono ?_; rintro e w' ⟨rfl, rfl⟩)
    | (go_at_call 60; refine (down_any _ _ _).mono ?_; rintro e w' ⟨rfl, rfl⟩)
    | (go_at_call 61; refine (ref_bin _ _ _ ha hb _).mono ?_; rintro e w' ⟨rfl, k, rfl⟩)
  go_ret2
  exact ⟨rfl, by first | exact Below.refl _ _ | exact below_drewN1 ((Below.refl _ _).alloc (Nat.le_refl _) _) _ | exact (Below.refl _ _).alloc (Nat.le_refl _) _⟩
theorem value_21 (a b : Int) (ha : -2147483648 ≤ a ∧ a ≤ 2147483647) (hb : -2147483648 ≤ b ∧ b ≤ 2147483647) (w : World) :
    Calls Try.prog 40 #[.int .i64 21, .int .i32 a, .int .i32 b] w fun e w' => e = .returned (.tuple #[.int .i32 (valI 21 a b).1, .bool (valI 21 a b).2]) ∧ Below w.heap.size w w' := by
  have he : valI 21 a b = binV 3 a b := by simp [valI, mopN]
  rw [he]
  clear he
  go_enter Try.func40, Try.ntmps40
  go_wp2_with first
    | (go_at_call 59; refine (low_any _ _ _).mono ?_; rintro e w' ⟨rfl, rfl⟩)
    | (go_at_call 60; refine (down_any _ _ _).mono ?_; rintro e w' ⟨rfl, rfl⟩)
    | (go_at_call 61; refine (ref_bin _ _ _ ha hb _).mono ?_; rintro e w' ⟨rfl, k, rfl⟩)
  go_ret2
  exact ⟨rfl, by first | exact Below.refl _ _ | exact below_drewN1 ((Below.refl _ _).alloc (Nat.le_refl _) _) _ | exact (Below.refl _ _).alloc (Nat.le_refl _) _⟩
theorem value_22 (a b : Int) (ha : -2147483648 ≤ a ∧ a ≤ 2147483647) (hb : -2147483648 ≤ b ∧ b ≤ 2147483647) (w : World) :
    Calls Try.prog 40 #[.int .i64 22, .int .i32 a, .int .i32 b] w fun e w' => e = .returned (.tuple #[.int .i32 (valI 22 a b).1, .bool (valI 22 a b).2]) ∧ Below w.heap.size w w' := by
  have he : valI 22 a b = binV 4 a b := by simp [valI, mopN]
  rw [he]
  clear he
  go_enter Try.func40, Try.ntmps40
  go_wp2_with first
    | (go_at_call 59; refine (low_any _ _ _).mono ?_; rintro e w' ⟨rfl, rfl⟩)
    | (go_at_call 60; refine (down_any _ _ _).mono ?_; rintro e w' ⟨rfl, rfl⟩)
    | (go_at_call 61; refine (ref_bin _ _ _ ha hb _).mono ?_; rintro e w' ⟨rfl, k, rfl⟩)
  go_ret2
  exact ⟨rfl, by first | exact Below.refl _ _ | exact below_drewN1 ((Below.refl _ _).alloc (Nat.le_refl _) _) _ | exact (Below.refl _ _).alloc (Nat.le_refl _) _⟩
theorem value_23 (a b : Int) (ha : -2147483648 ≤ a ∧ a ≤ 2147483647) (hb : -2147483648 ≤ b ∧ b ≤ 2147483647) (w : World) :
    Calls Try.prog 40 #[.int .i64 23, .int .i32 a, .int .i32 b] w fun e w' => e = .returned (.tuple #[.int .i32 (valI 23 a b).1, .bool (valI 23 a b).2]) ∧ Below w.heap.size w w' := by
  have he : valI 23 a b = binV 5 a b := by simp [valI, mopN]
  rw [he]
  clear he
  go_enter Try.func40, Try.ntmps40
  go_wp2_with first
    | (go_at_call 59; refine (low_any _ _ _).mono ?_; rintro e w' ⟨rfl, rfl⟩)
    | (go_at_call 60; refine (down_any _ _ _).mono ?_; rintro e w' ⟨rfl, rfl⟩)
    | (go_at_call 61; refine (ref_bin _ _ _ ha hb _).mono ?_; rintro e w' ⟨rfl, k, rfl⟩)
  go_ret2
  exact ⟨rfl, by first | exact Below.refl _ _ | exact below_drewN1 ((Below.refl _ _).alloc (Nat.le_refl _) _) _ | exact (Below.refl _ _).alloc (Nat.le_refl _) _⟩
end Rv
end Go.Proofs.Ytadgemcpahfkoaa
