/-
  Contract of the document's Step: it makes of two words, and goes on where, riscv.Step does.
  Contract of the document's Step: it makes of two words, and goes on where, riscv.Step does.
-/
import Derived.Test.YtmedhibjkbahpaaZak
import Derived.OpenShut
namespace Go.Proofs.Ytmedhibjkbahpaa
open Go.RowKit
set_option linter.unusedVariables false
set_option linter.unusedSimpArgs false
set_option maxRecDepth 100000
namespace Rv
open WordBins
theorem even_bv (x : BitVec 32) : x &&& ~~~1#32 = (x >>> 1) <<< 1 := by
  ext i hi
  rcases i with _ | i
  · simp
  · have hi' : i < 31 := by omega
    have hk : ∀ k : Fin 31, (4294967294#32).getLsbD (k.val + 1) = true := by decide
    have hk' := hk ⟨i, hi'⟩
    simp only [BitVec.getLsbD_eq_getElem hi] at hk'
    simp [hi, hi', Nat.lt_succ_iff]
    rw [hk', Bool.and_true, Nat.add_comm 1 i, BitVec.getLsbD_eq_getElem hi]
theorem even_nat (x : BitVec 32) : (x &&& ~~~1#32).toNat = x.toNat / 2 * 2 := by
  have h := x.isLt
  rw [even_bv]
  simp [BitVec.toNat_shiftLeft, BitVec.toNat_ushiftRight, Nat.shiftRight_eq_div_pow, Nat.shiftLeft_eq]
  omega
theorem even_is (x : Int) (h1 : -2147483648 ≤ x) (h2 : x ≤ 2147483647) : bits .andNot .i32 x 1 = if x % 2 = 0 then x else x - 1 := by
  have h : bits .andNot .i32 x 1 = wrap32 ((BitVec.ofInt 32 x &&& ~~~1#32).toNat : Int) := IntWalk.i32_left _
  rw [h, even_nat]
  have e : ((BitVec.ofInt 32 x).toNat : Int) = x % 4294967296 := by simp [BitVec.toNat_ofInt]; omega
  unfold wrap32
  split <;> omega

theorem low_any (a b : Int) (w : World) :
    Calls Try.prog 59 #[.int .i32 a, .int .i32 b] w fun e w' => e = .returned (.int .i32 (truthI (decide (a % 4294967296 < b % 4294967296)))) ∧ w = w' := by
  go_enter Try.func59, Try.ntmps59
  go_wp2
  all_goals
    go_ret
    exact ⟨by simp [truthI, *], rfl⟩
theorem down_any (a b : Int) (w : World) :
    Calls Try.prog 60 #[.int .i32 a, .int .i32 b] w fun e w' => e = .returned (.int .i32 (wrap32 (a % 4294967296 / 2 ^ (b % 32).toNat))) ∧ w = w' := by
  have g1 : 0 ≤ b % 4294967296 % 32 := by omega
  have g2 : b % 4294967296 % 32 < 32 := by omega
  go_enter Try.func60, Try.ntmps60
  go_wp2
  go_ret
  exact ⟨rfl, rfl⟩

/-- What an instruction from Addi to Rems makes of two words, and whether its operator has a value. -/
def valI (op a b : Int) : Int × Bool :=
  if op = 4 ∨ op = 15 then (truthI (decide (a % 4294967296 < b % 4294967296)), true)
  else if op = 9 ∨ op = 17 then (wrap32 (a % 4294967296 / 2 ^ (b % 32).toNat), true)
  else binV (mopN op) a b

theorem value_2 (a b : Int) (ha : -2147483648 ≤ a ∧ a ≤ 2147483647) (hb : -2147483648 ≤ b ∧ b ≤ 2147483647) (w : World) :
    Calls Try.prog 40 #[.int .i64 2, .int .i32 a, .int .i32 b] w fun e w' => e = .returned (.tuple #[.int .i32 (valI 2 a b).1, .bool (valI 2 a b).2]) ∧ Below w.heap.size w w' := by
  have he : valI 2 a b = binV 1 a b := by simp [valI, mopN]
  rw [he]
  clear he
  go_enter Try.func40, Try.ntmps40
  go_wp2_with first
    | (go_at_call 59; refine (low_any _ _ _).mono ?_; rintro e w' ⟨rfl, rfl⟩)
    | (go_at_call 60; refine (down_any _ _ _).mono ?_; rintro e w' ⟨rfl, rfl⟩)
    | (go_at_call 61; refine (ref_bin _ _ _ ha hb _).mono ?_; rintro e w' ⟨rfl, k, rfl⟩)
  go_ret2
  exact ⟨rfl, by first | exact Below.refl _ _ | exact below_drewN1 ((Below.refl _ _).alloc (Nat.le_refl _) _) _ | exact (Below.refl _ _).alloc (Nat.le_refl _) _⟩
theorem value_3 (a b : Int) (ha : -2147483648 ≤ a ∧ a ≤ 2147483647) (hb : -2147483648 ≤ b ∧ b ≤ 2147483647) (w : World) :
    Calls Try.prog 40 #[.int .i64 3, .int .i32 a, .int .i32 b] w fun e w' => e = .returned (.tuple #[.int .i32 (valI 3 a b).1, .bool (valI 3 a b).2]) ∧ Below w.heap.size w w' := by
  have he : valI 3 a b = binV 11 a b := by simp [valI, mopN]
  rw [he]
  clear he
  go_enter Try.func40, Try.ntmps40
  go_wp2_with first
    | (go_at_call 59; refine (low_any _ _ _).mono ?_; rintro e w' ⟨rfl, rfl⟩)
    | (go_at_call 60; refine (down_any _ _ _).mono ?_; rintro e w' ⟨rfl, rfl⟩)
    | (go_at_call 61; refine (ref_bin _ _ _ ha hb _).mono ?_; rintro e w' ⟨rfl, k, rfl⟩)
  go_ret2
  exact ⟨rfl, by first | exact Below.refl _ _ | exact below_drewN1 ((Below.refl _ _).alloc (Nat.le_refl _) _) _ | exact (Below.refl _ _).alloc (Nat.le_refl _) _⟩
theorem value_4 (a b : Int) (ha : -2147483648 ≤ a ∧ a ≤ 2147483647) (hb : -2147483648 ≤ b ∧ b ≤ 2147483647) (w : World) :
    Calls Try.prog 40 #[.int .i64 4, .int .i32 a, .int .i32 b] w fun e w' => e = .returned (.tuple #[.int .i32 (valI 4 a b).1, .bool (valI 4 a b).2]) ∧ Below w.heap.size w w' := by
  go_enter Try.func40, Try.ntmps40
  go_wp2_with first
    | (go_at_call 59; refine (low_any _ _ _).mono ?_; rintro e w' ⟨rfl, rfl⟩)
    | (go_at_call 60; refine (down_any _ _ _).mono ?_; rintro e w' ⟨rfl, rfl⟩)
    | (go_at_call 61; refine (ref_bin _ _ _ ha hb _).mono ?_; rintro e w' ⟨rfl, k, rfl⟩)
  go_ret2
  exact ⟨rfl, by first | exact Below.refl _ _ | exact below_drewN1 ((Below.refl _ _).alloc (Nat.le_refl _) _) _ | exact (Below.refl _ _).alloc (Nat.le_refl _) _⟩
theorem value_5 (a b : Int) (ha : -2147483648 ≤ a ∧ a ≤ 2147483647) (hb : -2147483648 ≤ b ∧ b ≤ 2147483647) (w : World) :
    Calls Try.prog 40 #[.int .i64 5, .int .i32 a, .int .i32 b] w fun e w' => e = .returned (.tuple #[.int .i32 (valI 5 a b).1, .bool (valI 5 a b).2]) ∧ Below w.heap.size w w' := by
  have he : valI 5 a b = binV 10 a b := by simp [valI, mopN]
  rw [he]
  clear he
  go_enter Try.func40, Try.ntmps40
  go_wp2_with first
    | (go_at_call 59; refine (low_any _ _ _).mono ?_; rintro e w' ⟨rfl, rfl⟩)
    | (go_at_call 60; refine (down_any _ _ _).mono ?_; rintro e w' ⟨rfl, rfl⟩)
    | (go_at_call 61; refine (ref_bin _ _ _ ha hb _).mono ?_; rintro e w' ⟨rfl, k, rfl⟩)
  go_ret2
  exact ⟨rfl, by first | exact Below.refl _ _ | exact below_drewN1 ((Below.refl _ _).alloc (Nat.le_refl _) _) _ | exact (Below.refl _ _).alloc (Nat.le_refl _) _⟩
theorem value_6 (a b : Int) (ha : -2147483648 ≤ a ∧ a ≤ 2147483647) (hb : -2147483648 ≤ b ∧ b ≤ 2147483647) (w : World) :
    Calls Try.prog 40 #[.int .i64 6, .int .i32 a, .int .i32 b] w fun e w' => e = .returned (.tuple #[.int .i32 (valI 6 a b).1, .bool (valI 6 a b).2]) ∧ Below w.heap.size w w' := by
  have he : valI 6 a b = binV 9 a b := by simp [valI, mopN]
  rw [he]
  clear he
  go_enter Try.func40, Try.ntmps40
  go_wp2_with first
    | (go_at_call 59; refine (low_any _ _ _).mono ?_; rintro e w' ⟨rfl, rfl⟩)
    | (go_at_call 60; refine (down_any _ _ _).mono ?_; rintro e w' ⟨rfl, rfl⟩)
    | (go_at_call 61; refine (ref_bin _ _ _ ha hb _).mono ?_; rintro e w' ⟨rfl, k, rfl⟩)
  go_ret2
  exact ⟨rfl, by first | exact Below.refl _ _ | exact below_drewN1 ((Below.refl _ _).alloc (Nat.le_refl _) _) _ | exact (Below.refl _ _).alloc (Nat.le_refl _) _⟩
theorem value_7 (a b : Int) (ha : -2147483648 ≤ a ∧ a ≤ 2147483647) (hb : -2147483648 ≤ b ∧ b ≤ 2147483647) (w : World) :
    Calls Try.prog 40 #[.int .i64 7, .int .i32 a, .int .i32 b] w fun e w' => e = .returned (.tuple #[.int .i32 (valI 7 a b).1, .bool (valI 7 a b).2]) ∧ Below w.heap.size w w' := by
  have he : valI 7 a b = binV 8 a b := by simp [valI, mopN]
  rw [he]
  clear he
  go_enter Try.func40, Try.ntmps40
  go_wp2_with first
    | (go_at_call 59; refine (low_any _ _ _).mono ?_; rintro e w' ⟨rfl, rfl⟩)
    | (go_at_call 60; refine (down_any _ _ _).mono ?_; rintro e w' ⟨rfl, rfl⟩)
    | (go_at_call 61; refine (ref_bin _ _ _ ha hb _).mono ?_; rintro e w' ⟨rfl, k, rfl⟩)
  go_ret2
  exact ⟨rfl, by first | exact Below.refl _ _ | exact below_drewN1 ((Below.refl _ _).alloc (Nat.le_refl _) _) _ | exact (Below.refl _ _).alloc (Nat.le_refl _) _⟩
theorem value_8 (a b : Int) (ha : -2147483648 ≤ a ∧ a ≤ 2147483647) (hb : -2147483648 ≤ b ∧ b ≤ 2147483647) (w : World) :
    Calls Try.prog 40 #[.int .i64 8, .int .i32 a, .int .i32 b] w fun e w' => e = .returned (.tuple #[.int .i32 (valI 8 a b).1, .bool (valI 8 a b).2]) ∧ Below w.heap.size w w' := by
  have he : valI 8 a b = binV 6 a b := by simp [valI, mopN]
  rw [he]
  clear he
  go_enter Try.func40, Try.ntmps40
  go_wp2_with first
    | (go_at_call 59; refine (low_any _ _ _).mono ?_; rintro e w' ⟨rfl, rfl⟩)
    | (go_at_call 60; refine (down_any _ _ _).mono ?_; rintro e w' ⟨rfl, rfl⟩)
    | (go_at_call 61; refine (ref_bin _ _ _ ha hb _).mono ?_; rintro e w' ⟨rfl, k, rfl⟩)
  go_ret2
  exact ⟨rfl, by first | exact Below.refl _ _ | exact below_drewN1 ((Below.refl _ _).alloc (Nat.le_refl _) _) _ | exact (Below.refl _ _).alloc (Nat.le_refl _) _⟩
theorem value_9 (a b : Int) (ha : -2147483648 ≤ a ∧ a ≤ 2147483647) (hb : -2147483648 ≤ b ∧ b ≤ 2147483647) (w : World) :
    Calls Try.prog 40 #[.int .i64 9, .int .i32 a, .int .i32 b] w fun e w' => e = .returned (.tuple #[.int .i32 (valI 9 a b).1, .bool (valI 9 a b).2]) ∧ Below w.heap.size w w' := by
  go_enter Try.func40, Try.ntmps40
  go_wp2_with first
    | (go_at_call 59; refine (low_any _ _ _).mono ?_; rintro e w' ⟨rfl, rfl⟩)
    | (go_at_call 60; refine (down_any _ _ _).mono ?_; rintro e w' ⟨rfl, rfl⟩)
    | (go_at_call 61; refine (ref_bin _ _ _ ha hb _).mono ?_; rintro e w' ⟨rfl, k, rfl⟩)
  go_ret2
  exact ⟨rfl, by first | exact Below.refl _ _ | exact below_drewN1 ((Below.refl _ _).alloc (Nat.le_refl _) _) _ | exact (Below.refl _ _).alloc (Nat.le_refl _) _⟩
theorem value_10 (a b : Int) (ha : -2147483648 ≤ a ∧ a ≤ 2147483647) (hb : -2147483648 ≤ b ∧ b ≤ 2147483647) (w : World) :
    Calls Try.prog 40 #[.int .i64 10, .int .i32 a, .int .i32 b] w fun e w' => e = .returned (.tuple #[.int .i32 (valI 10 a b).1, .bool (valI 10 a b).2]) ∧ Below w.heap.size w w' := by
  have he : valI 10 a b = binV 7 a b := by simp [valI, mopN]
  rw [he]
  clear he
  go_enter Try.func40, Try.ntmps40
  go_wp2_with first
    | (go_at_call 59; refine (low_any _ _ _).mono ?_; rintro e w' ⟨rfl, rfl⟩)
    | (go_at_call 60; refine (down_any _ _ _).mono ?_; rintro e w' ⟨rfl, rfl⟩)
    | (go_at_call 61; refine (ref_bin _ _ _ ha hb _).mono ?_; rintro e w' ⟨rfl, k, rfl⟩)
  go_ret2
  exact ⟨rfl, by first | exact Below.refl _ _ | exact below_drewN1 ((Below.refl _ _).alloc (Nat.le_refl _) _) _ | exact (Below.refl _ _).alloc (Nat.le_refl _) _⟩
theorem value_11 (a b : Int) (ha : -2147483648 ≤ a ∧ a ≤ 2147483647) (hb : -2147483648 ≤ b ∧ b ≤ 2147483647) (w : World) :
    Calls Try.prog 40 #[.int .i64 11, .int .i32 a, .int .i32 b] w fun e w' => e = .returned (.tuple #[.int .i32 (valI 11 a b).1, .bool (valI 11 a b).2]) ∧ Below w.heap.size w w' := by
  have he : valI 11 a b = binV 1 a b := by simp [valI, mopN]
  rw [he]
  clear he
  go_enter Try.func40, Try.ntmps40
  go_wp2_with first
    | (go_at_call 59; refine (low_any _ _ _).mono ?_; rintro e w' ⟨rfl, rfl⟩)
    | (go_at_call 60; refine (down_any _ _ _).mono ?_; rintro e w' ⟨rfl, rfl⟩)
    | (go_at_call 61; refine (ref_bin _ _ _ ha hb _).mono ?_; rintro e w' ⟨rfl, k, rfl⟩)
  go_ret2
  exact ⟨rfl, by first | exact Below.refl _ _ | exact below_drewN1 ((Below.refl _ _).alloc (Nat.le_refl _) _) _ | exact (Below.refl _ _).alloc (Nat.le_refl _) _⟩
theorem value_12 (a b : Int) (ha : -2147483648 ≤ a ∧ a ≤ 2147483647) (hb : -2147483648 ≤ b ∧ b ≤ 2147483647) (w : World) :
    Calls Try.prog 40 #[.int .i64 12, .int .i32 a, .int .i32 b] w fun e w' => e = .returned (.tuple #[.int .i32 (valI 12 a b).1, .bool (valI 12 a b).2]) ∧ Below w.heap.size w w' := by
  have he : valI 12 a b = binV 2 a b := by simp [valI, mopN]
  rw [he]
  clear he
  go_enter Try.func40, Try.ntmps40
  go_wp2_with first
    | (go_at_call 59; refine (low_any _ _ _).mono ?_; rintro e w' ⟨rfl, rfl⟩)
    | (go_at_call 60; refine (down_any _ _ _).mono ?_; rintro e w' ⟨rfl, rfl⟩)
    | (go_at_call 61; refine (ref_bin _ _ _ ha hb _).mono ?_; rintro e w' ⟨rfl, k, rfl⟩)
  go_ret2
  exact ⟨rfl, by first | exact Below.refl _ _ | exact below_drewN1 ((Below.refl _ _).alloc (Nat.le_refl _) _) _ | exact (Below.refl _ _).alloc (Nat.le_refl _) _⟩
theorem value_13 (a b : Int) (ha : -2147483648 ≤ a ∧ a ≤ 2147483647) (hb : -2147483648 ≤ b ∧ b ≤ 2147483647) (w : World) :
    Calls Try.prog 40 #[.int .i64 13, .int .i32 a, .int .i32 b] w fun e w' => e = .returned (.tuple #[.int .i32 (valI 13 a b).1, .bool (valI 13 a b).2]) ∧ Below w.heap.size w w' := by
  have he : valI 13 a b = binV 6 a b := by simp [valI, mopN]
  rw [he]
  clear he
  go_enter Try.func40, Try.ntmps40
  go_wp2_with first
    | (go_at_call 59; refine (low_any _ _ _).mono ?_; rintro e w' ⟨rfl, rfl⟩)
    | (go_at_call 60; refine (down_any _ _ _).mono ?_; rintro e w' ⟨rfl, rfl⟩)
    | (go_at_call 61; refine (ref_bin _ _ _ ha hb _).mono ?_; rintro e w' ⟨rfl, k, rfl⟩)
  go_ret2
  exact ⟨rfl, by first | exact Below.refl _ _ | exact below_drewN1 ((Below.refl _ _).alloc (Nat.le_refl _) _) _ | exact (Below.refl _ _).alloc (Nat.le_refl _) _⟩
theorem value_14 (a b : Int) (ha : -2147483648 ≤ a ∧ a ≤ 2147483647) (hb : -2147483648 ≤ b ∧ b ≤ 2147483647) (w : World) :
    Calls Try.prog 40 #[.int .i64 14, .int .i32 a, .int .i32 b] w fun e w' => e = .returned (.tuple #[.int .i32 (valI 14 a b).1, .bool (valI 14 a b).2]) ∧ Below w.heap.size w w' := by
  have he : valI 14 a b = binV 11 a b := by simp [valI, mopN]
  rw [he]
  clear he
  go_enter Try.func40, Try.ntmps40
  go_wp2_with first
    | (go_at_call 59; refine (low_any _ _ _).mono ?_; rintro e w' ⟨rfl, rfl⟩)
    | (go_at_call 60; refine (down_any _ _ _).mono ?_; rintro e w' ⟨rfl, rfl⟩)
    | (go_at_call 61; refine (ref_bin _ _ _ ha hb _).mono ?_; rintro e w' ⟨rfl, k, rfl⟩)
  go_ret2
  exact ⟨rfl, by first | exact Below.refl _ _ | exact below_drewN1 ((Below.refl _ _).alloc (Nat.le_refl _) _) _ | exact (Below.refl _ _).alloc (Nat.le_refl _) _⟩
theorem value_15 (a b : Int) (ha : -2147483648 ≤ a ∧ a ≤ 2147483647) (hb : -2147483648 ≤ b ∧ b ≤ 2147483647) (w : World) :
    Calls Try.prog 40 #[.int .i64 15, .int .i32 a, .int .i32 b] w fun e w' => e = .returned (.tuple #[.int .i32 (valI 15 a b).1, .bool (valI 15 a b).2]) ∧ Below w.heap.size w w' := by
  go_enter Try.func40, Try.ntmps40
  go_wp2_with first
    | (go_at_call 59; refine (low_any _ _ _).mono ?_; rintro e w' ⟨rfl, rfl⟩)
    | (go_at_call 60; refine (down_any _ _ _).mono ?_; rintro e w' ⟨rfl, rfl⟩)
    | (go_at_call 61; refine (ref_bin _ _ _ ha hb _).mono ?_; rintro e w' ⟨rfl, k, rfl⟩)
  go_ret2
  exact ⟨rfl, by first | exact Below.refl _ _ | exact below_drewN1 ((Below.refl _ _).alloc (Nat.le_refl _) _) _ | exact (Below.refl _ _).alloc (Nat.le_refl _) _⟩
theorem value_16 (a b : Int) (ha : -2147483648 ≤ a ∧ a ≤ 2147483647) (hb : -2147483648 ≤ b ∧ b ≤ 2147483647) (w : World) :
    Calls Try.prog 40 #[.int .i64 16, .int .i32 a, .int .i32 b] w fun e w' => e = .returned (.tuple #[.int .i32 (valI 16 a b).1, .bool (valI 16 a b).2]) ∧ Below w.heap.size w w' := by
  have he : valI 16 a b = binV 10 a b := by simp [valI, mopN]
  rw [he]
  clear he
  go_enter Try.func40, Try.ntmps40
  go_wp2_with first
    | (go_at_call 59; refine (low_any _ _ _).mono ?_; rintro e w' ⟨rfl, rfl⟩)
    | (go_at_call 60; refine (down_any _ _ _).mono ?_; rintro e w' ⟨rfl, rfl⟩)
    | (go_at_call 61; refine (ref_bin _ _ _ ha hb _).mono ?_; rintro e w' ⟨rfl, k, rfl⟩)
  go_ret2
  exact ⟨rfl, by first | exact Below.refl _ _ | exact below_drewN1 ((Below.refl _ _).alloc (Nat.le_refl _) _) _ | exact (Below.refl _ _).alloc (Nat.le_refl _) _⟩
theorem value_17 (a b : Int) (ha : -2147483648 ≤ a ∧ a ≤ 2147483647) (hb : -2147483648 ≤ b ∧ b ≤ 2147483647) (w : World) :
    Calls Try.prog 40 #[.int .i64 17, .int .i32 a, .int .i32 b] w fun e w' => e = .returned (.tuple #[.int .i32 (valI 17 a b).1, .bool (valI 17 a b).2]) ∧ Below w.heap.size w w' := by
  go_enter Try.func40, Try.ntmps40
  go_wp2_with first
    | (go_at_call 59; refine (low_any _ _ _).mono ?_; rintro e w' ⟨rfl, rfl⟩)
    | (go_at_call 60; refine (down_any _ _ _).mono ?_; rintro e w' ⟨rfl, rfl⟩)
    | (go_at_call 61; refine (ref_bin _ _ _ ha hb _).mono ?_; rintro e w' ⟨rfl, k, rfl⟩)
  go_ret2
  exact ⟨rfl, by first | exact Below.refl _ _ | exact below_drewN1 ((Below.refl _ _).alloc (Nat.le_refl _) _) _ | exact (Below.refl _ _).alloc (Nat.le_refl _) _⟩
theorem value_18 (a b : Int) (ha : -2147483648 ≤ a ∧ a ≤ 2147483647) (hb : -2147483648 ≤ b ∧ b ≤ 2147483647) (w : World) :
    Calls Try.prog 40 #[.int .i64 18, .int .i32 a, .int .i32 b] w fun e w' => e = .returned (.tuple #[.int .i32 (valI 18 a b).1, .bool (valI 18 a b).2]) ∧ Below w.heap.size w w' := by
  have he : valI 18 a b = binV 7 a b := by simp [valI, mopN]
  rw [he]
  clear he
  go_enter Try.func40, Try.ntmps40
  go_wp2_with first
    | (go_at_call 59; refine (low_any _ _ _).mono ?_; rintro e w' ⟨rfl, rfl⟩)
    | (go_at_call 60; refine (down_any _ _ _).mono ?_; rintro e w' ⟨rfl, rfl⟩)
    | (go_at_call 61; refine (ref_bin _ _ _ ha hb _).mono ?_; rintro e w' ⟨rfl, k, rfl⟩)
  go_ret2
  exact ⟨rfl, by first | exact Below.refl _ _ | exact below_drewN1 ((Below.refl _ _).alloc (Nat.le_refl _) _) _ | exact (Below.refl _ _).alloc (Nat.le_refl _) _⟩
theorem value_19 (a b : Int) (ha : -2147483648 ≤ a ∧ a ≤ 2147483647) (hb : -2147483648 ≤ b ∧ b ≤ 2147483647) (w : World) :
    Calls Try.prog 40 #[.int .i64 19, .int .i32 a, .int .i32 b] w fun e w' => e = .returned (.tuple #[.int .i32 (valI 19 a b).1, .bool (valI 19 a b).2]) ∧ Below w.heap.size w w' := by
  have he : valI 19 a b = binV 9 a b := by simp [valI, mopN]
  rw [he]
  clear he
  go_enter Try.func40, Try.ntmps40
  go_wp2_with first
    | (go_at_call 59; refine (low_any _ _ _).mono ?_; rintro e w' ⟨rfl, rfl⟩)
    | (go_at_call 60; refine (down_any _ _ _).mono ?_; rintro e w' ⟨rfl, rfl⟩)
    | (go_at_call 61; refine (ref_bin _ _ _ ha hb _).mono ?_; rintro e w' ⟨rfl, k, rfl⟩)
  go_ret2
  exact ⟨rfl, by first | exact Below.refl _ _ | exact below_drewN1 ((Below.refl _ _).alloc (Nat.le_refl _) _) _ | exact (Below.refl _ _).alloc (Nat.le_refl _) _⟩
theorem value_20 (a b : Int) (ha : -2147483648 ≤ a ∧ a ≤ 2147483647) (hb : -2147483648 ≤ b ∧ b ≤ 2147483647) (w : World) :
    Calls Try.prog 40 #[.int .i64 20, .int .i32 a, .int .i32 b] w fun e w' => e = .returned (.tuple #[.int .i32 (valI 20 a b).1, .bool (valI 20 a b).2]) ∧ Below w.heap.size w w' := by
  have he : valI 20 a b = binV 8 a b := by simp [valI, mopN]
  rw [he]
  clear he
  go_enter Try.func40, Try.ntmps40
  go_wp2_with first
    | (go_at_call 59; refine (low_any _ _ _).mono ?_; rintro e w' ⟨rfl, rfl⟩)
    | (go_at_call 60; refine (down_any _ _ _).mono ?_; rintro e w' ⟨rfl, rfl⟩)
    | (go_at_call 61; refine (ref_bin _ _ _ ha hb _).mono ?_; rintro e w' ⟨rfl, k, rfl⟩)
  go_ret2
  exact ⟨rfl, by first | exact Below.refl _ _ | exact below_drewN1 ((Below.refl _ _).alloc (Nat.le_refl _) _) _ | exact (Below.refl _ _).alloc (Nat.le_refl _) _⟩
theorem value_21 (a b : Int) (ha : -2147483648 ≤ a ∧ a ≤ 2147483647) (hb : -2147483648 ≤ b ∧ b ≤ 2147483647) (w : World) :
    Calls Try.prog 40 #[.int .i64 21, .int .i32 a, .int .i32 b] w fun e w' => e = .returned (.tuple #[.int .i32 (valI 21 a b).1, .bool (valI 21 a b).2]) ∧ Below w.heap.size w w' := by
  have he : valI 21 a b = binV 3 a b := by simp [valI, mopN]
  rw [he]
  clear he
  go_enter Try.func40, Try.ntmps40
  go_wp2_with first
    | (go_at_call 59; refine (low_any _ _ _).mono ?_; rintro e w' ⟨rfl, rfl⟩)
    | (go_at_call 60; refine (down_any _ _ _).mono ?_; rintro e w' ⟨rfl, rfl⟩)
    | (go_at_call 61; refine (ref_bin _ _ _ ha hb _).mono ?_; rintro e w' ⟨rfl, k, rfl⟩)
  go_ret2
  exact ⟨rfl, by first | exact Below.refl _ _ | exact below_drewN1 ((Below.refl _ _).alloc (Nat.le_refl _) _) _ | exact (Below.refl _ _).alloc (Nat.le_refl _) _⟩
theorem value_22 (a b : Int) (ha : -2147483648 ≤ a ∧ a ≤ 2147483647) (hb : -2147483648 ≤ b ∧ b ≤ 2147483647) (w : World) :
    Calls Try.prog 40 #[.int .i64 22, .int .i32 a, .int .i32 b] w fun e w' => e = .returned (.tuple #[.int .i32 (valI 22 a b).1, .bool (valI 22 a b).2]) ∧ Below w.heap.size w w' := by
  have he : valI 22 a b = binV 4 a b := by simp [valI, mopN]
  rw [he]
  clear he
  go_enter Try.func40, Try.ntmps40
  go_wp2_with first
    | (go_at_call 59; refine (low_any _ _ _).mono ?_; rintro e w' ⟨rfl, rfl⟩)
    | (go_at_call 60; refine (down_any _ _ _).mono ?_; rintro e w' ⟨rfl, rfl⟩)
    | (go_at_call 61; refine (ref_bin _ _ _ ha hb _).mono ?_; rintro e w' ⟨rfl, k, rfl⟩)
  go_ret2
  exact ⟨rfl, by first | exact Below.refl _ _ | exact below_drewN1 ((Below.refl _ _).alloc (Nat.le_refl _) _) _ | exact (Below.refl _ _).alloc (Nat.le_refl _) _⟩
theorem value_23 (a b : Int) (ha : -2147483648 ≤ a ∧ a ≤ 2147483647) (hb : -2147483648 ≤ b ∧ b ≤ 2147483647) (w : World) :
    Calls Try.prog 40 #[.int .i64 23, .int .i32 a, .int .i32 b] w fun e w' => e = .returned (.tuple #[.int .i32 (valI 23 a b).1, .bool (valI 23 a b).2]) ∧ Below w.heap.size w w' := by
  have he : valI 23 a b = binV 5 a b := by simp [valI, mopN]
  rw [he]
  clear he
  go_enter Try.func40, Try.ntmps40
  go_wp2_with first
    | (go_at_call 59; refine (low_any _ _ _).mono ?_; rintro e w' ⟨rfl, rfl⟩)
    | (go_at_call 60; refine (down_any _ _ _).mono ?_; rintro e w' ⟨rfl, rfl⟩)
    | (go_at_call 61; refine (ref_bin _ _ _ ha hb _).mono ?_; rintro e w' ⟨rfl, k, rfl⟩)
  go_ret2
  exact ⟨rfl, by first | exact Below.refl _ _ | exact below_drewN1 ((Below.refl _ _).alloc (Nat.le_refl _) _) _ | exact (Below.refl _ _).alloc (Nat.le_refl _) _⟩
end Rv
end Go.Proofs.Ytmedhibjkbahpaa
namespace Go.Proofs.Ytmedhibjkbahpaa
open Go.RowKit
set_option linter.unusedVariables false
set_option linter.unusedSimpArgs false
set_option maxRecDepth 100000
namespace Rv
open WordBins
theorem wrap_rng (x : Int) : -2147483648 ≤ wrap32 x ∧ wrap32 x ≤ 2147483647 := by
  unfold wrap32
  constructor <;> omega
theorem tm2 (x : Int) : x.tmod 2 = 0 ↔ x % 2 = 0 := by
  have h1 : (x.tmod 2).natAbs = x.natAbs % 2 := Int.natAbs_tmod x 2
  constructor <;> intro h <;> omega
theorem even_up (x : Int) (h1 : -2147483648 ≤ x) (h2 : x ≤ 2147483647) (h : ¬ x.tmod 2 = 0) : bits .andNot .i32 x 1 = wrap32 (x - 1) := by
  rw [even_is x h1 h2, if_neg (fun q => h ((tm2 x).mpr q))]
  have hx : x % 2 ≠ 0 := fun q => h ((tm2 x).mpr q)
  unfold wrap32
  omega
theorem even_step (n a b pc : Int) (h : (wrap32 (a + n)).tmod 2 = 0) : stepI 29 n a b pc = (wrap32 (pc + 4), wrap32 (a + n)) := by
  have e : stepI 29 n a b pc = (wrap32 (pc + 4), bits .andNot .i32 (wrap32 (a + n)) 1) := rfl
  rw [e, even_is _ (wrap_rng _).1 (wrap_rng _).2, if_pos ((tm2 _).mp h)]

theorem rstep_1 (d r1 r2 n a b pc : Int) (hn : -2147483648 ≤ n ∧ n ≤ 2147483647) (ha : -2147483648 ≤ a ∧ a ≤ 2147483647) (hb : -2147483648 ≤ b ∧ b ≤ 2147483647) (hp : -2147483648 ≤ pc ∧ pc ≤ 2147483647) (s : ByteArray) (w : World) :
    Calls Try.prog 17 #[.agg #[.int .i64 2, .int .i64 1, .int .i64 d, .int .i64 r1, .int .i64 r2, .int .i32 n, .string s], .int .i32 a, .int .i32 b, .int .i32 pc] w fun e w' => e = .returned (.tuple #[.int .i32 (stepI 1 n a b pc).1, .int .i32 (stepI 1 n a b pc).2]) ∧ Below w.heap.size w w' := by
  obtain ⟨p1, p2⟩ := hp
  obtain ⟨n1, n2⟩ := hn
  obtain ⟨a1, a2⟩ := ha
  obtain ⟨q1, q2⟩ := hb
  go_enter Try.func17, Try.ntmps17
  skip
  all_goals
    go_wp2_with first
      | (go_at_call 39; refine (round_any _ _).mono ?_; rintro e w' ⟨rfl, rfl⟩)
      | fail
  all_goals
    go_ret2
    first
      | exact ⟨rfl, (Below.refl _ _).alloc (Nat.le_refl _) _⟩
      | exact ⟨by simp, ((Below.refl _ _).alloc (Nat.le_refl _) _).trans (hb1.mono (by simp))⟩
      | exact ⟨Eq.trans (b := Ending.returned (.tuple #[.int .i32 0, .int .i32 (wrap32 (pc + n))])) rfl (by first | (simp [stepI, *]; done) | (rename_i hh; simp at hh; simp [stepI, hh]; done) | (simp_all [stepI]; done)), (Below.refl _ _).alloc (Nat.le_refl _) _⟩
      | exact ⟨Eq.trans (b := Ending.returned (.tuple #[.int .i32 0, .int .i32 (wrap32 (pc + 4))])) rfl (by first | (simp [stepI, *]; done) | (rename_i hh; simp at hh; simp [stepI, hh]; done) | (simp_all [stepI]; done)), (Below.refl _ _).alloc (Nat.le_refl _) _⟩
      | exact ⟨Eq.trans (b := Ending.returned (.tuple #[.int .i32 (wrap32 (pc + 4)), .int .i32 (wrap32 (wrap32 (a + n) - 1))])) rfl (by rw [← even_up _ (wrap_rng _).1 (wrap_rng _).2 (by rename_i hh; simpa using hh)]; rfl), (Below.refl _ _).alloc (Nat.le_refl _) _⟩
      | exact ⟨Eq.trans (b := Ending.returned (.tuple #[.int .i32 (wrap32 (pc + 4)), .int .i32 (wrap32 (a + n))])) rfl (by rw [even_step n a b pc (by rename_i hh; simpa using hh)]), (Below.refl _ _).alloc (Nat.le_refl _) _⟩
theorem rstep_2 (d r1 r2 n a b pc : Int) (hn : -2147483648 ≤ n ∧ n ≤ 2147483647) (ha : -2147483648 ≤ a ∧ a ≤ 2147483647) (hb : -2147483648 ≤ b ∧ b ≤ 2147483647) (hp : -2147483648 ≤ pc ∧ pc ≤ 2147483647) (s : ByteArray) (w : World) :
    Calls Try.prog 17 #[.agg #[.int .i64 2, .int .i64 2, .int .i64 d, .int .i64 r1, .int .i64 r2, .int .i32 n, .string s], .int .i32 a, .int .i32 b, .int .i32 pc] w fun e w' => e = .returned (.tuple #[.int .i32 (stepI 2 n a b pc).1, .int .i32 (stepI 2 n a b pc).2]) ∧ Below w.heap.size w w' := by
  have hs : stepI 2 n a b pc = (if (valI 2 a n).2 = false ∧ (2 : Int) = 22 then -1 else if (valI 2 a n).2 = false ∧ (2 : Int) = 23 then a else (valI 2 a n).1, wrap32 (pc + 4)) := by simp [stepI, reckI, valI]
  have HV : ∀ w, _ := fun w => value_2 a n ha hn w
  rw [hs]
  clear hs
  generalize valI 2 a n = r at HV ⊢
  obtain ⟨v, ok⟩ := r
  have HW := Lib.hid HV
  clear HV
  have hcell : ∀ W', Below (w.alloc (.cells #[.int .i64 2, .int .i64 2, .int .i64 d, .int .i64 r1, .int .i64 r2, .int .i32 n, .string s] 39)).heap.size (w.alloc (.cells #[.int .i64 2, .int .i64 2, .int .i64 d, .int .i64 r1, .int .i64 r2, .int .i32 n, .string s] 39)) W' → ∀ j v, (#[Value.int .i64 2, .int .i64 2, .int .i64 d, .int .i64 r1, .int .i64 r2, .int .i32 n, .string s] : Array Value)[j]? = some v → W'.cell? ⟨w.heap.size, j, none⟩ = some v := fun W' hb j v hj => by
    refine (hb.cell (p := ⟨w.heap.size, j, none⟩) (by simp)).trans ?_
    rw [cell_of_row _ _ j _ _ (0, 0) (heap_alloc_new w _)]
    exact hj
  have HC := Lib.hid hcell
  clear hcell
  obtain ⟨p1, p2⟩ := hp
  obtain ⟨n1, n2⟩ := hn
  obtain ⟨a1, a2⟩ := ha
  obtain ⟨q1, q2⟩ := hb
  go_enter Try.func17, Try.ntmps17
  cases ok
  all_goals
    go_wp2_with first
      | (go_at_call 39; refine (round_any _ _).mono ?_; rintro e w' ⟨rfl, rfl⟩)
      | (go_at_call 40; refine (HW.out _).mono ?_; rintro e w1 ⟨rfl, hb1⟩; have hc := HC.out _ hb1 1 _ rfl)
  all_goals
    go_ret2
    first
      | exact ⟨rfl, (Below.refl _ _).alloc (Nat.le_refl _) _⟩
      | exact ⟨by simp, ((Below.refl _ _).alloc (Nat.le_refl _) _).trans (hb1.mono (by simp))⟩
      | exact ⟨Eq.trans (b := Ending.returned (.tuple #[.int .i32 0, .int .i32 (wrap32 (pc + n))])) rfl (by first | (simp [stepI, *]; done) | (rename_i hh; simp at hh; simp [stepI, hh]; done) | (simp_all [stepI]; done)), (Below.refl _ _).alloc (Nat.le_refl _) _⟩
      | exact ⟨Eq.trans (b := Ending.returned (.tuple #[.int .i32 0, .int .i32 (wrap32 (pc + 4))])) rfl (by first | (simp [stepI, *]; done) | (rename_i hh; simp at hh; simp [stepI, hh]; done) | (simp_all [stepI]; done)), (Below.refl _ _).alloc (Nat.le_refl _) _⟩
      | exact ⟨Eq.trans (b := Ending.returned (.tuple #[.int .i32 (wrap32 (pc + 4)), .int .i32 (wrap32 (wrap32 (a + n) - 1))])) rfl (by rw [← even_up _ (wrap_rng _).1 (wrap_rng _).2 (by rename_i hh; simpa using hh)]; rfl), (Below.refl _ _).alloc (Nat.le_refl _) _⟩
      | exact ⟨Eq.trans (b := Ending.returned (.tuple #[.int .i32 (wrap32 (pc + 4)), .int .i32 (wrap32 (a + n))])) rfl (by rw [even_step n a b pc (by rename_i hh; simpa using hh)]), (Below.refl _ _).alloc (Nat.le_refl _) _⟩
theorem rstep_3 (d r1 r2 n a b pc : Int) (hn : -2147483648 ≤ n ∧ n ≤ 2147483647) (ha : -2147483648 ≤ a ∧ a ≤ 2147483647) (hb : -2147483648 ≤ b ∧ b ≤ 2147483647) (hp : -2147483648 ≤ pc ∧ pc ≤ 2147483647) (s : ByteArray) (w : World) :
    Calls Try.prog 17 #[.agg #[.int .i64 2, .int .i64 3, .int .i64 d, .int .i64 r1, .int .i64 r2, .int .i32 n, .string s], .int .i32 a, .int .i32 b, .int .i32 pc] w fun e w' => e = .returned (.tuple #[.int .i32 (stepI 3 n a b pc).1, .int .i32 (stepI 3 n a b pc).2]) ∧ Below w.heap.size w w' := by
  have hs : stepI 3 n a b pc = (if (valI 3 a n).2 = false ∧ (3 : Int) = 22 then -1 else if (valI 3 a n).2 = false ∧ (3 : Int) = 23 then a else (valI 3 a n).1, wrap32 (pc + 4)) := by simp [stepI, reckI, valI]
  have HV : ∀ w, _ := fun w => value_3 a n ha hn w
  rw [hs]
  clear hs
  generalize valI 3 a n = r at HV ⊢
  obtain ⟨v, ok⟩ := r
  have HW := Lib.hid HV
  clear HV
  have hcell : ∀ W', Below (w.alloc (.cells #[.int .i64 2, .int .i64 3, .int .i64 d, .int .i64 r1, .int .i64 r2, .int .i32 n, .string s] 39)).heap.size (w.alloc (.cells #[.int .i64 2, .int .i64 3, .int .i64 d, .int .i64 r1, .int .i64 r2, .int .i32 n, .string s] 39)) W' → ∀ j v, (#[Value.int .i64 2, .int .i64 3, .int .i64 d, .int .i64 r1, .int .i64 r2, .int .i32 n, .string s] : Array Value)[j]? = some v → W'.cell? ⟨w.heap.size, j, none⟩ = some v := fun W' hb j v hj => by
    refine (hb.cell (p := ⟨w.heap.size, j, none⟩) (by simp)).trans ?_
    rw [cell_of_row _ _ j _ _ (0, 0) (heap_alloc_new w _)]
    exact hj
  have HC := Lib.hid hcell
  clear hcell
  obtain ⟨p1, p2⟩ := hp
  obtain ⟨n1, n2⟩ := hn
  obtain ⟨a1, a2⟩ := ha
  obtain ⟨q1, q2⟩ := hb
  go_enter Try.func17, Try.ntmps17
  cases ok
  all_goals
    go_wp2_with first
      | (go_at_call 39; refine (round_any _ _).mono ?_; rintro e w' ⟨rfl, rfl⟩)
      | (go_at_call 40; refine (HW.out _).mono ?_; rintro e w1 ⟨rfl, hb1⟩; have hc := HC.out _ hb1 1 _ rfl)
  all_goals
    go_ret2
    first
      | exact ⟨rfl, (Below.refl _ _).alloc (Nat.le_refl _) _⟩
      | exact ⟨by simp, ((Below.refl _ _).alloc (Nat.le_refl _) _).trans (hb1.mono (by simp))⟩
      | exact ⟨Eq.trans (b := Ending.returned (.tuple #[.int .i32 0, .int .i32 (wrap32 (pc + n))])) rfl (by first | (simp [stepI, *]; done) | (rename_i hh; simp at hh; simp [stepI, hh]; done) | (simp_all [stepI]; done)), (Below.refl _ _).alloc (Nat.le_refl _) _⟩
      | exact ⟨Eq.trans (b := Ending.returned (.tuple #[.int .i32 0, .int .i32 (wrap32 (pc + 4))])) rfl (by first | (simp [stepI, *]; done) | (rename_i hh; simp at hh; simp [stepI, hh]; done) | (simp_all [stepI]; done)), (Below.refl _ _).alloc (Nat.le_refl _) _⟩
      | exact ⟨Eq.trans (b := Ending.returned (.tuple #[.int .i32 (wrap32 (pc + 4)), .int .i32 (wrap32 (wrap32 (a + n) - 1))])) rfl (by rw [← even_up _ (wrap_rng _).1 (wrap_rng _).2 (by rename_i hh; simpa using hh)]; rfl), (Below.refl _ _).alloc (Nat.le_refl _) _⟩
      | exact ⟨Eq.trans (b := Ending.returned (.tuple #[.int .i32 (wrap32 (pc + 4)), .int .i32 (wrap32 (a + n))])) rfl (by rw [even_step n a b pc (by rename_i hh; simpa using hh)]), (Below.refl _ _).alloc (Nat.le_refl _) _⟩
theorem rstep_4 (d r1 r2 n a b pc : Int) (hn : -2147483648 ≤ n ∧ n ≤ 2147483647) (ha : -2147483648 ≤ a ∧ a ≤ 2147483647) (hb : -2147483648 ≤ b ∧ b ≤ 2147483647) (hp : -2147483648 ≤ pc ∧ pc ≤ 2147483647) (s : ByteArray) (w : World) :
    Calls Try.prog 17 #[.agg #[.int .i64 2, .int .i64 4, .int .i64 d, .int .i64 r1, .int .i64 r2, .int .i32 n, .string s], .int .i32 a, .int .i32 b, .int .i32 pc] w fun e w' => e = .returned (.tuple #[.int .i32 (stepI 4 n a b pc).1, .int .i32 (stepI 4 n a b pc).2]) ∧ Below w.heap.size w w' := by
  have hs : stepI 4 n a b pc = (if (valI 4 a n).2 = false ∧ (4 : Int) = 22 then -1 else if (valI 4 a n).2 = false ∧ (4 : Int) = 23 then a else (valI 4 a n).1, wrap32 (pc + 4)) := by simp [stepI, reckI, valI]
  have HV : ∀ w, _ := fun w => value_4 a n ha hn w
  rw [hs]
  clear hs
  generalize valI 4 a n = r at HV ⊢
  obtain ⟨v, ok⟩ := r
  have HW := Lib.hid HV
  clear HV
  have hcell : ∀ W', Below (w.alloc (.cells #[.int .i64 2, .int .i64 4, .int .i64 d, .int .i64 r1, .int .i64 r2, .int .i32 n, .string s] 39)).heap.size (w.alloc (.cells #[.int .i64 2, .int .i64 4, .int .i64 d, .int .i64 r1, .int .i64 r2, .int .i32 n, .string s] 39)) W' → ∀ j v, (#[Value.int .i64 2, .int .i64 4, .int .i64 d, .int .i64 r1, .int .i64 r2, .int .i32 n, .string s] : Array Value)[j]? = some v → W'.cell? ⟨w.heap.size, j, none⟩ = some v := fun W' hb j v hj => by
    refine (hb.cell (p := ⟨w.heap.size, j, none⟩) (by simp)).trans ?_
    rw [cell_of_row _ _ j _ _ (0, 0) (heap_alloc_new w _)]
    exact hj
  have HC := Lib.hid hcell
  clear hcell
  obtain ⟨p1, p2⟩ := hp
  obtain ⟨n1, n2⟩ := hn
  obtain ⟨a1, a2⟩ := ha
  obtain ⟨q1, q2⟩ := hb
  go_enter Try.func17, Try.ntmps17
  cases ok
  all_goals
    go_wp2_with first
      | (go_at_call 39; refine (round_any _ _).mono ?_; rintro e w' ⟨rfl, rfl⟩)
      | (go_at_call 40; refine (HW.out _).mono ?_; rintro e w1 ⟨rfl, hb1⟩; have hc := HC.out _ hb1 1 _ rfl)
  all_goals
    go_ret2
    first
      | exact ⟨rfl, (Below.refl _ _).alloc (Nat.le_refl _) _⟩
      | exact ⟨by simp, ((Below.refl _ _).alloc (Nat.le_refl _) _).trans (hb1.mono (by simp))⟩
      | exact ⟨Eq.trans (b := Ending.returned (.tuple #[.int .i32 0, .int .i32 (wrap32 (pc + n))])) rfl (by first | (simp [stepI, *]; done) | (rename_i hh; simp at hh; simp [stepI, hh]; done) | (simp_all [stepI]; done)), (Below.refl _ _).alloc (Nat.le_refl _) _⟩
      | exact ⟨Eq.trans (b := Ending.returned (.tuple #[.int .i32 0, .int .i32 (wrap32 (pc + 4))])) rfl (by first | (simp [stepI, *]; done) | (rename_i hh; simp at hh; simp [stepI, hh]; done) | (simp_all [stepI]; done)), (Below.refl _ _).alloc (Nat.le_refl _) _⟩
      | exact ⟨Eq.trans (b := Ending.returned (.tuple #[.int .i32 (wrap32 (pc + 4)), .int .i32 (wrap32 (wrap32 (a + n) - 1))])) rfl (by rw [← even_up _ (wrap_rng _).1 (wrap_rng _).2 (by rename_i hh; simpa using hh)]; rfl), (Below.refl _ _).alloc (Nat.le_refl _) _⟩
      | exact ⟨Eq.trans (b := Ending.returned (.tuple #[.int .i32 (wrap32 (pc + 4)), .int .i32 (wrap32 (a + n))])) rfl (by rw [even_step n a b pc (by rename_i hh; simpa using hh)]), (Below.refl _ _).alloc (Nat.le_refl _) _⟩
theorem rstep_5 (d r1 r2 n a b pc : Int) (hn : -2147483648 ≤ n ∧ n ≤ 2147483647) (ha : -2147483648 ≤ a ∧ a ≤ 2147483647) (hb : -2147483648 ≤ b ∧ b ≤ 2147483647) (hp : -2147483648 ≤ pc ∧ pc ≤ 2147483647) (s : ByteArray) (w : World) :
    Calls Try.prog 17 #[.agg #[.int .i64 2, .int .i64 5, .int .i64 d, .int .i64 r1, .int .i64 r2, .int .i32 n, .string s], .int .i32 a, .int .i32 b, .int .i32 pc] w fun e w' => e = .returned (.tuple #[.int .i32 (stepI 5 n a b pc).1, .int .i32 (stepI 5 n a b pc).2]) ∧ Below w.heap.size w w' := by
  have hs : stepI 5 n a b pc = (if (valI 5 a n).2 = false ∧ (5 : Int) = 22 then -1 else if (valI 5 a n).2 = false ∧ (5 : Int) = 23 then a else (valI 5 a n).1, wrap32 (pc + 4)) := by simp [stepI, reckI, valI]
  have HV : ∀ w, _ := fun w => value_5 a n ha hn w
  rw [hs]
  clear hs
  generalize valI 5 a n = r at HV ⊢
  obtain ⟨v, ok⟩ := r
  have HW := Lib.hid HV
  clear HV
  have hcell : ∀ W', Below (w.alloc (.cells #[.int .i64 2, .int .i64 5, .int .i64 d, .int .i64 r1, .int .i64 r2, .int .i32 n, .string s] 39)).heap.size (w.alloc (.cells #[.int .i64 2, .int .i64 5, .int .i64 d, .int .i64 r1, .int .i64 r2, .int .i32 n, .string s] 39)) W' → ∀ j v, (#[Value.int .i64 2, .int .i64 5, .int .i64 d, .int .i64 r1, .int .i64 r2, .int .i32 n, .string s] : Array Value)[j]? = some v → W'.cell? ⟨w.heap.size, j, none⟩ = some v := fun W' hb j v hj => by
    refine (hb.cell (p := ⟨w.heap.size, j, none⟩) (by simp)).trans ?_
    rw [cell_of_row _ _ j _ _ (0, 0) (heap_alloc_new w _)]
    exact hj
  have HC := Lib.hid hcell
  clear hcell
  obtain ⟨p1, p2⟩ := hp
  obtain ⟨n1, n2⟩ := hn
  obtain ⟨a1, a2⟩ := ha
  obtain ⟨q1, q2⟩ := hb
  go_enter Try.func17, Try.ntmps17
  cases ok
  all_goals
    go_wp2_with first
      | (go_at_call 39; refine (round_any _ _).mono ?_; rintro e w' ⟨rfl, rfl⟩)
      | (go_at_call 40; refine (HW.out _).mono ?_; rintro e w1 ⟨rfl, hb1⟩; have hc := HC.out _ hb1 1 _ rfl)
  all_goals
    go_ret2
    first
      | exact ⟨rfl, (Below.refl _ _).alloc (Nat.le_refl _) _⟩
      | exact ⟨by simp, ((Below.refl _ _).alloc (Nat.le_refl _) _).trans (hb1.mono (by simp))⟩
      | exact ⟨Eq.trans (b := Ending.returned (.tuple #[.int .i32 0, .int .i32 (wrap32 (pc + n))])) rfl (by first | (simp [stepI, *]; done) | (rename_i hh; simp at hh; simp [stepI, hh]; done) | (simp_all [stepI]; done)), (Below.refl _ _).alloc (Nat.le_refl _) _⟩
      | exact ⟨Eq.trans (b := Ending.returned (.tuple #[.int .i32 0, .int .i32 (wrap32 (pc + 4))])) rfl (by first | (simp [stepI, *]; done) | (rename_i hh; simp at hh; simp [stepI, hh]; done) | (simp_all [stepI]; done)), (Below.refl _ _).alloc (Nat.le_refl _) _⟩
      | exact ⟨Eq.trans (b := Ending.returned (.tuple #[.int .i32 (wrap32 (pc + 4)), .int .i32 (wrap32 (wrap32 (a + n) - 1))])) rfl (by rw [← even_up _ (wrap_rng _).1 (wrap_rng _).2 (by rename_i hh; simpa using hh)]; rfl), (Below.refl _ _).alloc (Nat.le_refl _) _⟩
      | exact ⟨Eq.trans (b := Ending.returned (.tuple #[.int .i32 (wrap32 (pc + 4)), .int .i32 (wrap32 (a + n))])) rfl (by rw [even_step n a b pc (by rename_i hh; simpa using hh)]), (Below.refl _ _).alloc (Nat.le_refl _) _⟩
theorem rstep_6 (d r1 r2 n a b pc : Int) (hn : -2147483648 ≤ n ∧ n ≤ 2147483647) (ha : -2147483648 ≤ a ∧ a ≤ 2147483647) (hb : -2147483648 ≤ b ∧ b ≤ 2147483647) (hp : -2147483648 ≤ pc ∧ pc ≤ 2147483647) (s : ByteArray) (w : World) :
    Calls Try.prog 17 #[.agg #[.int .i64 2, .int .i64 6, .int .i64 d, .int .i64 r1, .int .i64 r2, .int .i32 n, .string s], .int .i32 a, .int .i32 b, .int .i32 pc] w fun e w' => e = .returned (.tuple #[.int .i32 (stepI 6 n a b pc).1, .int .i32 (stepI 6 n a b pc).2]) ∧ Below w.heap.size w w' := by
  have hs : stepI 6 n a b pc = (if (valI 6 a n).2 = false ∧ (6 : Int) = 22 then -1 else if (valI 6 a n).2 = false ∧ (6 : Int) = 23 then a else (valI 6 a n).1, wrap32 (pc + 4)) := by simp [stepI, reckI, valI]
  have HV : ∀ w, _ := fun w => value_6 a n ha hn w
  rw [hs]
  clear hs
  generalize valI 6 a n = r at HV ⊢
  obtain ⟨v, ok⟩ := r
  have HW := Lib.hid HV
  clear HV
  have hcell : ∀ W', Below (w.alloc (.cells #[.int .i64 2, .int .i64 6, .int .i64 d, .int .i64 r1, .int .i64 r2, .int .i32 n, .string s] 39)).heap.size (w.alloc (.cells #[.int .i64 2, .int .i64 6, .int .i64 d, .int .i64 r1, .int .i64 r2, .int .i32 n, .string s] 39)) W' → ∀ j v, (#[Value.int .i64 2, .int .i64 6, .int .i64 d, .int .i64 r1, .int .i64 r2, .int .i32 n, .string s] : Array Value)[j]? = some v → W'.cell? ⟨w.heap.size, j, none⟩ = some v := fun W' hb j v hj => by
    refine (hb.cell (p := ⟨w.heap.size, j, none⟩) (by simp)).trans ?_
    rw [cell_of_row _ _ j _ _ (0, 0) (heap_alloc_new w _)]
    exact hj
  have HC := Lib.hid hcell
  clear hcell
  obtain ⟨p1, p2⟩ := hp
  obtain ⟨n1, n2⟩ := hn
  obtain ⟨a1, a2⟩ := ha
  obtain ⟨q1, q2⟩ := hb
  go_enter Try.func17, Try.ntmps17
  cases ok
  all_goals
    go_wp2_with first
      | (go_at_call 39; refine (round_any _ _).mono ?_; rintro e w' ⟨rfl, rfl⟩)
      | (go_at_call 40; refine (HW.out _).mono ?_; rintro e w1 ⟨rfl, hb1⟩; have hc := HC.out _ hb1 1 _ rfl)
  all_goals
    go_ret2
    first
      | exact ⟨rfl, (Below.refl _ _).alloc (Nat.le_refl _) _⟩
      | exact ⟨by simp, ((Below.refl _ _).alloc (Nat.le_refl _) _).trans (hb1.mono (by simp))⟩
      | exact ⟨Eq.trans (b := Ending.returned (.tuple #[.int .i32 0, .int .i32 (wrap32 (pc + n))])) rfl (by first | (simp [stepI, *]; done) | (rename_i hh; simp at hh; simp [stepI, hh]; done) | (simp_all [stepI]; done)), (Below.refl _ _).alloc (Nat.le_refl _) _⟩
      | exact ⟨Eq.trans (b := Ending.returned (.tuple #[.int .i32 0, .int .i32 (wrap32 (pc + 4))])) rfl (by first | (simp [stepI, *]; done) | (rename_i hh; simp at hh; simp [stepI, hh]; done) | (simp_all [stepI]; done)), (Below.refl _ _).alloc (Nat.le_refl _) _⟩
      | exact ⟨Eq.trans (b := Ending.returned (.tuple #[.int .i32 (wrap32 (pc + 4)), .int .i32 (wrap32 (wrap32 (a + n) - 1))])) rfl (by rw [← even_up _ (wrap_rng _).1 (wrap_rng _).2 (by rename_i hh; simpa using hh)]; rfl), (Below.refl _ _).alloc (Nat.le_refl _) _⟩
      | exact ⟨Eq.trans (b := Ending.returned (.tuple #[.int .i32 (wrap32 (pc + 4)), .int .i32 (wrap32 (a + n))])) rfl (by rw [even_step n a b pc (by rename_i hh; simpa using hh)]), (Below.refl _ _).alloc (Nat.le_refl _) _⟩
theorem rstep_7 (d r1 r2 n a b pc : Int) (hn : -2147483648 ≤ n ∧ n ≤ 2147483647) (ha : -2147483648 ≤ a ∧ a ≤ 2147483647) (hb : -2147483648 ≤ b ∧ b ≤ 2147483647) (hp : -2147483648 ≤ pc ∧ pc ≤ 2147483647) (s : ByteArray) (w : World) :
    Calls Try.prog 17 #[.agg #[.int .i64 2, .int .i64 7, .int .i64 d, .int .i64 r1, .int .i64 r2, .int .i32 n, .string s], .int .i32 a, .int .i32 b, .int .i32 pc] w fun e w' => e = .returned (.tuple #[.int .i32 (stepI 7 n a b pc).1, .int .i32 (stepI 7 n a b pc).2]) ∧ Below w.heap.size w w' := by
  have hs : stepI 7 n a b pc = (if (valI 7 a n).2 = false ∧ (7 : Int) = 22 then -1 else if (valI 7 a n).2 = false ∧ (7 : Int) = 23 then a else (valI 7 a n).1, wrap32 (pc + 4)) := by simp [stepI, reckI, valI]
  have HV : ∀ w, _ := fun w => value_7 a n ha hn w
  rw [hs]
  clear hs
  generalize valI 7 a n = r at HV ⊢
  obtain ⟨v, ok⟩ := r
  have HW := Lib.hid HV
  clear HV
  have hcell : ∀ W', Below (w.alloc (.cells #[.int .i64 2, .int .i64 7, .int .i64 d, .int .i64 r1, .int .i64 r2, .int .i32 n, .string s] 39)).heap.size (w.alloc (.cells #[.int .i64 2, .int .i64 7, .int .i64 d, .int .i64 r1, .int .i64 r2, .int .i32 n, .string s] 39)) W' → ∀ j v, (#[Value.int .i64 2, .int .i64 7, .int .i64 d, .int .i64 r1, .int .i64 r2, .int .i32 n, .string s] : Array Value)[j]? = some v → W'.cell? ⟨w.heap.size, j, none⟩ = some v := fun W' hb j v hj => by
    refine (hb.cell (p := ⟨w.heap.size, j, none⟩) (by simp)).trans ?_
    rw [cell_of_row _ _ j _ _ (0, 0) (heap_alloc_new w _)]
    exact hj
  have HC := Lib.hid hcell
  clear hcell
  obtain ⟨p1, p2⟩ := hp
  obtain ⟨n1, n2⟩ := hn
  obtain ⟨a1, a2⟩ := ha
  obtain ⟨q1, q2⟩ := hb
  go_enter Try.func17, Try.ntmps17
  cases ok
  all_goals
    go_wp2_with first
      | (go_at_call 39; refine (round_any _ _).mono ?_; rintro e w' ⟨rfl, rfl⟩)
      | (go_at_call 40; refine (HW.out _).mono ?_; rintro e w1 ⟨rfl, hb1⟩; have hc := HC.out _ hb1 1 _ rfl)
  all_goals
    go_ret2
    first
      | exact ⟨rfl, (Below.refl _ _).alloc (Nat.le_refl _) _⟩
      | exact ⟨by simp, ((Below.refl _ _).alloc (Nat.le_refl _) _).trans (hb1.mono (by simp))⟩
      | exact ⟨Eq.trans (b := Ending.returned (.tuple #[.int .i32 0, .int .i32 (wrap32 (pc + n))])) rfl (by first | (simp [stepI, *]; done) | (rename_i hh; simp at hh; simp [stepI, hh]; done) | (simp_all [stepI]; done)), (Below.refl _ _).alloc (Nat.le_refl _) _⟩
      | exact ⟨Eq.trans (b := Ending.returned (.tuple #[.int .i32 0, .int .i32 (wrap32 (pc + 4))])) rfl (by first | (simp [stepI, *]; done) | (rename_i hh; simp at hh; simp [stepI, hh]; done) | (simp_all [stepI]; done)), (Below.refl _ _).alloc (Nat.le_refl _) _⟩
      | exact ⟨Eq.trans (b := Ending.returned (.tuple #[.int .i32 (wrap32 (pc + 4)), .int .i32 (wrap32 (wrap32 (a + n) - 1))])) rfl (by rw [← even_up _ (wrap_rng _).1 (wrap_rng _).2 (by rename_i hh; simpa using hh)]; rfl), (Below.refl _ _).alloc (Nat.le_refl _) _⟩
      | exact ⟨Eq.trans (b := Ending.returned (.tuple #[.int .i32 (wrap32 (pc + 4)), .int .i32 (wrap32 (a + n))])) rfl (by rw [even_step n a b pc (by rename_i hh; simpa using hh)]), (Below.refl _ _).alloc (Nat.le_refl _) _⟩
theorem rstep_8 (d r1 r2 n a b pc : Int) (hn : -2147483648 ≤ n ∧ n ≤ 2147483647) (ha : -2147483648 ≤ a ∧ a ≤ 2147483647) (hb : -2147483648 ≤ b ∧ b ≤ 2147483647) (hp : -2147483648 ≤ pc ∧ pc ≤ 2147483647) (s : ByteArray) (w : World) :
    Calls Try.prog 17 #[.agg #[.int .i64 2, .int .i64 8, .int .i64 d, .int .i64 r1, .int .i64 r2, .int .i32 n, .string s], .int .i32 a, .int .i32 b, .int .i32 pc] w fun e w' => e = .returned (.tuple #[.int .i32 (stepI 8 n a b pc).1, .int .i32 (stepI 8 n a b pc).2]) ∧ Below w.heap.size w w' := by
  have hs : stepI 8 n a b pc = (if (valI 8 a n).2 = false ∧ (8 : Int) = 22 then -1 else if (valI 8 a n).2 = false ∧ (8 : Int) = 23 then a else (valI 8 a n).1, wrap32 (pc + 4)) := by simp [stepI, reckI, valI]
  have HV : ∀ w, _ := fun w => value_8 a n ha hn w
  rw [hs]
  clear hs
  generalize valI 8 a n = r at HV ⊢
  obtain ⟨v, ok⟩ := r
  have HW := Lib.hid HV
  clear HV
  have hcell : ∀ W', Below (w.alloc (.cells #[.int .i64 2, .int .i64 8, .int .i64 d, .int .i64 r1, .int .i64 r2, .int .i32 n, .string s] 39)).heap.size (w.alloc (.cells #[.int .i64 2, .int .i64 8, .int .i64 d, .int .i64 r1, .int .i64 r2, .int .i32 n, .string s] 39)) W' → ∀ j v, (#[Value.int .i64 2, .int .i64 8, .int .i64 d, .int .i64 r1, .int .i64 r2, .int .i32 n, .string s] : Array Value)[j]? = some v → W'.cell? ⟨w.heap.size, j, none⟩ = some v := fun W' hb j v hj => by
    refine (hb.cell (p := ⟨w.heap.size, j, none⟩) (by simp)).trans ?_
    rw [cell_of_row _ _ j _ _ (0, 0) (heap_alloc_new w _)]
    exact hj
  have HC := Lib.hid hcell
  clear hcell
  obtain ⟨p1, p2⟩ := hp
  obtain ⟨n1, n2⟩ := hn
  obtain ⟨a1, a2⟩ := ha
  obtain ⟨q1, q2⟩ := hb
  go_enter Try.func17, Try.ntmps17
  cases ok
  all_goals
    go_wp2_with first
      | (go_at_call 39; refine (round_any _ _).mono ?_; rintro e w' ⟨rfl, rfl⟩)
      | (go_at_call 40; refine (HW.out _).mono ?_; rintro e w1 ⟨rfl, hb1⟩; have hc := HC.out _ hb1 1 _ rfl)
  all_goals
    go_ret2
    first
      | exact ⟨rfl, (Below.refl _ _).alloc (Nat.le_refl _) _⟩
      | exact ⟨by simp, ((Below.refl _ _).alloc (Nat.le_refl _) _).trans (hb1.mono (by simp))⟩
      | exact ⟨Eq.trans (b := Ending.returned (.tuple #[.int .i32 0, .int .i32 (wrap32 (pc + n))])) rfl (by first | (simp [stepI, *]; done) | (rename_i hh; simp at hh; simp [stepI, hh]; done) | (simp_all [stepI]; done)), (Below.refl _ _).alloc (Nat.le_refl _) _⟩
      | exact ⟨Eq.trans (b := Ending.returned (.tuple #[.int .i32 0, .int .i32 (wrap32 (pc + 4))])) rfl (by first | (simp [stepI, *]; done) | (rename_i hh; simp at hh; simp [stepI, hh]; done) | (simp_all [stepI]; done)), (Below.refl _ _).alloc (Nat.le_refl _) _⟩
      | exact ⟨Eq.trans (b := Ending.returned (.tuple #[.int .i32 (wrap32 (pc + 4)), .int .i32 (wrap32 (wrap32 (a + n) - 1))])) rfl (by rw [← even_up _ (wrap_rng _).1 (wrap_rng _).2 (by rename_i hh; simpa using hh)]; rfl), (Below.refl _ _).alloc (Nat.le_refl _) _⟩
      | exact ⟨Eq.trans (b := Ending.returned (.tuple #[.int .i32 (wrap32 (pc + 4)), .int .i32 (wrap32 (a + n))])) rfl (by rw [even_step n a b pc (by rename_i hh; simpa using hh)]), (Below.refl _ _).alloc (Nat.le_refl _) _⟩
theorem rstep_9 (d r1 r2 n a b pc : Int) (hn : -2147483648 ≤ n ∧ n ≤ 2147483647) (ha : -2147483648 ≤ a ∧ a ≤ 2147483647) (hb : -2147483648 ≤ b ∧ b ≤ 2147483647) (hp : -2147483648 ≤ pc ∧ pc ≤ 2147483647) (s : ByteArray) (w : World) :
    Calls Try.prog 17 #[.agg #[.int .i64 2, .int .i64 9, .int .i64 d, .int .i64 r1, .int .i64 r2, .int .i32 n, .string s], .int .i32 a, .int .i32 b, .int .i32 pc] w fun e w' => e = .returned (.tuple #[.int .i32 (stepI 9 n a b pc).1, .int .i32 (stepI 9 n a b pc).2]) ∧ Below w.heap.size w w' := by
  have hs : stepI 9 n a b pc = (if (valI 9 a n).2 = false ∧ (9 : Int) = 22 then -1 else if (valI 9 a n).2 = false ∧ (9 : Int) = 23 then a else (valI 9 a n).1, wrap32 (pc + 4)) := by simp [stepI, reckI, valI]
  have HV : ∀ w, _ := fun w => value_9 a n ha hn w
  rw [hs]
  clear hs
  generalize valI 9 a n = r at HV ⊢
  obtain ⟨v, ok⟩ := r
  have HW := Lib.hid HV
  clear HV
  have hcell : ∀ W', Below (w.alloc (.cells #[.int .i64 2, .int .i64 9, .int .i64 d, .int .i64 r1, .int .i64 r2, .int .i32 n, .string s] 39)).heap.size (w.alloc (.cells #[.int .i64 2, .int .i64 9, .int .i64 d, .int .i64 r1, .int .i64 r2, .int .i32 n, .string s] 39)) W' → ∀ j v, (#[Value.int .i64 2, .int .i64 9, .int .i64 d, .int .i64 r1, .int .i64 r2, .int .i32 n, .string s] : Array Value)[j]? = some v → W'.cell? ⟨w.heap.size, j, none⟩ = some v := fun W' hb j v hj => by
    refine (hb.cell (p := ⟨w.heap.size, j, none⟩) (by simp)).trans ?_
    rw [cell_of_row _ _ j _ _ (0, 0) (heap_alloc_new w _)]
    exact hj
  have HC := Lib.hid hcell
  clear hcell
  obtain ⟨p1, p2⟩ := hp
  obtain ⟨n1, n2⟩ := hn
  obtain ⟨a1, a2⟩ := ha
  obtain ⟨q1, q2⟩ := hb
  go_enter Try.func17, Try.ntmps17
  cases ok
  all_goals
    go_wp2_with first
      | (go_at_call 39; refine (round_any _ _).mono ?_; rintro e w' ⟨rfl, rfl⟩)
      | (go_at_call 40; refine (HW.out _).mono ?_; rintro e w1 ⟨rfl, hb1⟩; have hc := HC.out _ hb1 1 _ rfl)
  all_goals
    go_ret2
    first
      | exact ⟨rfl, (Below.refl _ _).alloc (Nat.le_refl _) _⟩
      | exact ⟨by simp, ((Below.refl _ _).alloc (Nat.le_refl _) _).trans (hb1.mono (by simp))⟩
      | exact ⟨Eq.trans (b := Ending.returned (.tuple #[.int .i32 0, .int .i32 (wrap32 (pc + n))])) rfl (by first | (simp [stepI, *]; done) | (rename_i hh; simp at hh; simp [stepI, hh]; done) | (simp_all [stepI]; done)), (Below.refl _ _).alloc (Nat.le_refl _) _⟩
      | exact ⟨Eq.trans (b := Ending.returned (.tuple #[.int .i32 0, .int .i32 (wrap32 (pc + 4))])) rfl (by first | (simp [stepI, *]; done) | (rename_i hh; simp at hh; simp [stepI, hh]; done) | (simp_all [stepI]; done)), (Below.refl _ _).alloc (Nat.le_refl _) _⟩
      | exact ⟨Eq.trans (b := Ending.returned (.tuple #[.int .i32 (wrap32 (pc + 4)), .int .i32 (wrap32 (wrap32 (a + n) - 1))])) rfl (by rw [← even_up _ (wrap_rng _).1 (wrap_rng _).2 (by rename_i hh; simpa using hh)]; rfl), (Below.refl _ _).alloc (Nat.le_refl _) _⟩
      | exact ⟨Eq.trans (b := Ending.returned (.tuple #[.int .i32 (wrap32 (pc + 4)), .int .i32 (wrap32 (a + n))])) rfl (by rw [even_step n a b pc (by rename_i hh; simpa using hh)]), (Below.refl _ _).alloc (Nat.le_refl _) _⟩
theorem rstep_10 (d r1 r2 n a b pc : Int) (hn : -2147483648 ≤ n ∧ n ≤ 2147483647) (ha : -2147483648 ≤ a ∧ a ≤ 2147483647) (hb : -2147483648 ≤ b ∧ b ≤ 2147483647) (hp : -2147483648 ≤ pc ∧ pc ≤ 2147483647) (s : ByteArray) (w : World) :
    Calls Try.prog 17 #[.agg #[.int .i64 2, .int .i64 10, .int .i64 d, .int .i64 r1, .int .i64 r2, .int .i32 n, .string s], .int .i32 a, .int .i32 b, .int .i32 pc] w fun e w' => e = .returned (.tuple #[.int .i32 (stepI 10 n a b pc).1, .int .i32 (stepI 10 n a b pc).2]) ∧ Below w.heap.size w w' := by
  have hs : stepI 10 n a b pc = (if (valI 10 a n).2 = false ∧ (10 : Int) = 22 then -1 else if (valI 10 a n).2 = false ∧ (10 : Int) = 23 then a else (valI 10 a n).1, wrap32 (pc + 4)) := by simp [stepI, reckI, valI]
  have HV : ∀ w, _ := fun w => value_10 a n ha hn w
  rw [hs]
  clear hs
  generalize valI 10 a n = r at HV ⊢
  obtain ⟨v, ok⟩ := r
  have HW := Lib.hid HV
  clear HV
  have hcell : ∀ W', Below (w.alloc (.cells #[.int .i64 2, .int .i64 10, .int .i64 d, .int .i64 r1, .int .i64 r2, .int .i32 n, .string s] 39)).heap.size (w.alloc (.cells #[.int .i64 2, .int .i64 10, .int .i64 d, .int .i64 r1, .int .i64 r2, .int .i32 n, .string s] 39)) W' → ∀ j v, (#[Value.int .i64 2, .int .i64 10, .int .i64 d, .int .i64 r1, .int .i64 r2, .int .i32 n, .string s] : Array Value)[j]? = some v → W'.cell? ⟨w.heap.size, j, none⟩ = some v := fun W' hb j v hj => by
    refine (hb.cell (p := ⟨w.heap.size, j, none⟩) (by simp)).trans ?_
    rw [cell_of_row _ _ j _ _ (0, 0) (heap_alloc_new w _)]
    exact hj
  have HC := Lib.hid hcell
  clear hcell
  obtain ⟨p1, p2⟩ := hp
  obtain ⟨n1, n2⟩ := hn
  obtain ⟨a1, a2⟩ := ha
  obtain ⟨q1, q2⟩ := hb
  go_enter Try.func17, Try.ntmps17
  cases ok
  all_goals
    go_wp2_with first
      | (go_at_call 39; refine (round_any _ _).mono ?_; rintro e w' ⟨rfl, rfl⟩)
      | (go_at_call 40; refine (HW.out _).mono ?_; rintro e w1 ⟨rfl, hb1⟩; have hc := HC.out _ hb1 1 _ rfl)
  all_goals
    go_ret2
    first
      | exact ⟨rfl, (Below.refl _ _).alloc (Nat.le_refl _) _⟩
      | exact ⟨by simp, ((Below.refl _ _).alloc (Nat.le_refl _) _).trans (hb1.mono (by simp))⟩
      | exact ⟨Eq.trans (b := Ending.returned (.tuple #[.int .i32 0, .int .i32 (wrap32 (pc + n))])) rfl (by first | (simp [stepI, *]; done) | (rename_i hh; simp at hh; simp [stepI, hh]; done) | (simp_all [stepI]; done)), (Below.refl _ _).alloc (Nat.le_refl _) _⟩
      | exact ⟨Eq.trans (b := Ending.returned (.tuple #[.int .i32 0, .int .i32 (wrap32 (pc + 4))])) rfl (by first | (simp [stepI, *]; done) | (rename_i hh; simp at hh; simp [stepI, hh]; done) | (simp_all [stepI]; done)), (Below.refl _ _).alloc (Nat.le_refl _) _⟩
      | exact ⟨Eq.trans (b := Ending.returned (.tuple #[.int .i32 (wrap32 (pc + 4)), .int .i32 (wrap32 (wrap32 (a + n) - 1))])) rfl (by rw [← even_up _ (wrap_rng _).1 (wrap_rng _).2 (by rename_i hh; simpa using hh)]; rfl), (Below.refl _ _).alloc (Nat.le_refl _) _⟩
      | exact ⟨Eq.trans (b := Ending.returned (.tuple #[.int .i32 (wrap32 (pc + 4)), .int .i32 (wrap32 (a + n))])) rfl (by rw [even_step n a b pc (by rename_i hh; simpa using hh)]), (Below.refl _ _).alloc (Nat.le_refl _) _⟩
theorem rstep_11 (d r1 r2 n a b pc : Int) (hn : -2147483648 ≤ n ∧ n ≤ 2147483647) (ha : -2147483648 ≤ a ∧ a ≤ 2147483647) (hb : -2147483648 ≤ b ∧ b ≤ 2147483647) (hp : -2147483648 ≤ pc ∧ pc ≤ 2147483647) (s : ByteArray) (w : World) :
    Calls Try.prog 17 #[.agg #[.int .i64 2, .int .i64 11, .int .i64 d, .int .i64 r1, .int .i64 r2, .int .i32 n, .string s], .int .i32 a, .int .i32 b, .int .i32 pc] w fun e w' => e = .returned (.tuple #[.int .i32 (stepI 11 n a b pc).1, .int .i32 (stepI 11 n a b pc).2]) ∧ Below w.heap.size w w' := by
  have hs : stepI 11 n a b pc = (if (valI 11 a b).2 = false ∧ (11 : Int) = 22 then -1 else if (valI 11 a b).2 = false ∧ (11 : Int) = 23 then a else (valI 11 a b).1, wrap32 (pc + 4)) := by simp [stepI, reckI, valI]
  have HV : ∀ w, _ := fun w => value_11 a b ha hb w
  rw [hs]
  clear hs
  generalize valI 11 a b = r at HV ⊢
  obtain ⟨v, ok⟩ := r
  have HW := Lib.hid HV
  clear HV
  have hcell : ∀ W', Below (w.alloc (.cells #[.int .i64 2, .int .i64 11, .int .i64 d, .int .i64 r1, .int .i64 r2, .int .i32 n, .string s] 39)).heap.size (w.alloc (.cells #[.int .i64 2, .int .i64 11, .int .i64 d, .int .i64 r1, .int .i64 r2, .int .i32 n, .string s] 39)) W' → ∀ j v, (#[Value.int .i64 2, .int .i64 11, .int .i64 d, .int .i64 r1, .int .i64 r2, .int .i32 n, .string s] : Array Value)[j]? = some v → W'.cell? ⟨w.heap.size, j, none⟩ = some v := fun W' hb j v hj => by
    refine (hb.cell (p := ⟨w.heap.size, j, none⟩) (by simp)).trans ?_
    rw [cell_of_row _ _ j _ _ (0, 0) (heap_alloc_new w _)]
    exact hj
  have HC := Lib.hid hcell
  clear hcell
  obtain ⟨p1, p2⟩ := hp
  obtain ⟨n1, n2⟩ := hn
  obtain ⟨a1, a2⟩ := ha
  obtain ⟨q1, q2⟩ := hb
  go_enter Try.func17, Try.ntmps17
  cases ok
  all_goals
    go_wp2_with first
      | (go_at_call 39; refine (round_any _ _).mono ?_; rintro e w' ⟨rfl, rfl⟩)
      | (go_at_call 40; refine (HW.out _).mono ?_; rintro e w1 ⟨rfl, hb1⟩; have hc := HC.out _ hb1 1 _ rfl)
  all_goals
    go_ret2
    first
      | exact ⟨rfl, (Below.refl _ _).alloc (Nat.le_refl _) _⟩
      | exact ⟨by simp, ((Below.refl _ _).alloc (Nat.le_refl _) _).trans (hb1.mono (by simp))⟩
      | exact ⟨Eq.trans (b := Ending.returned (.tuple #[.int .i32 0, .int .i32 (wrap32 (pc + n))])) rfl (by first | (simp [stepI, *]; done) | (rename_i hh; simp at hh; simp [stepI, hh]; done) | (simp_all [stepI]; done)), (Below.refl _ _).alloc (Nat.le_refl _) _⟩
      | exact ⟨Eq.trans (b := Ending.returned (.tuple #[.int .i32 0, .int .i32 (wrap32 (pc + 4))])) rfl (by first | (simp [stepI, *]; done) | (rename_i hh; simp at hh; simp [stepI, hh]; done) | (simp_all [stepI]; done)), (Below.refl _ _).alloc (Nat.le_refl _) _⟩
      | exact ⟨Eq.trans (b := Ending.returned (.tuple #[.int .i32 (wrap32 (pc + 4)), .int .i32 (wrap32 (wrap32 (a + n) - 1))])) rfl (by rw [← even_up _ (wrap_rng _).1 (wrap_rng _).2 (by rename_i hh; simpa using hh)]; rfl), (Below.refl _ _).alloc (Nat.le_refl _) _⟩
      | exact ⟨Eq.trans (b := Ending.returned (.tuple #[.int .i32 (wrap32 (pc + 4)), .int .i32 (wrap32 (a + n))])) rfl (by rw [even_step n a b pc (by rename_i hh; simpa using hh)]), (Below.refl _ _).alloc (Nat.le_refl _) _⟩
theorem rstep_12 (d r1 r2 n a b pc : Int) (hn : -2147483648 ≤ n ∧ n ≤ 2147483647) (ha : -2147483648 ≤ a ∧ a ≤ 2147483647) (hb : -2147483648 ≤ b ∧ b ≤ 2147483647) (hp : -2147483648 ≤ pc ∧ pc ≤ 2147483647) (s : ByteArray) (w : World) :
    Calls Try.prog 17 #[.agg #[.int .i64 2, .int .i64 12, .int .i64 d, .int .i64 r1, .int .i64 r2, .int .i32 n, .string s], .int .i32 a, .int .i32 b, .int .i32 pc] w fun e w' => e = .returned (.tuple #[.int .i32 (stepI 12 n a b pc).1, .int .i32 (stepI 12 n a b pc).2]) ∧ Below w.heap.size w w' := by
  have hs : stepI 12 n a b pc = (if (valI 12 a b).2 = false ∧ (12 : Int) = 22 then -1 else if (valI 12 a b).2 = false ∧ (12 : Int) = 23 then a else (valI 12 a b).1, wrap32 (pc + 4)) := by simp [stepI, reckI, valI]
  have HV : ∀ w, _ := fun w => value_12 a b ha hb w
  rw [hs]
  clear hs
  generalize valI 12 a b = r at HV ⊢
  obtain ⟨v, ok⟩ := r
  have HW := Lib.hid HV
  clear HV
  have hcell : ∀ W', Below (w.alloc (.cells #[.int .i64 2, .int .i64 12, .int .i64 d, .int .i64 r1, .int .i64 r2, .int .i32 n, .string s] 39)).heap.size (w.alloc (.cells #[.int .i64 2, .int .i64 12, .int .i64 d, .int .i64 r1, .int .i64 r2, .int .i32 n, .string s] 39)) W' → ∀ j v, (#[Value.int .i64 2, .int .i64 12, .int .i64 d, .int .i64 r1, .int .i64 r2, .int .i32 n, .string s] : Array Value)[j]? = some v → W'.cell? ⟨w.heap.size, j, none⟩ = some v := fun W' hb j v hj => by
    refine (hb.cell (p := ⟨w.heap.size, j, none⟩) (by simp)).trans ?_
    rw [cell_of_row _ _ j _ _ (0, 0) (heap_alloc_new w _)]
    exact hj
  have HC := Lib.hid hcell
  clear hcell
  obtain ⟨p1, p2⟩ := hp
  obtain ⟨n1, n2⟩ := hn
  obtain ⟨a1, a2⟩ := ha
  obtain ⟨q1, q2⟩ := hb
  go_enter Try.func17, Try.ntmps17
  cases ok
  all_goals
    go_wp2_with first
      | (go_at_call 39; refine (round_any _ _).mono ?_; rintro e w' ⟨rfl, rfl⟩)
      | (go_at_call 40; refine (HW.out _).mono ?_; rintro e w1 ⟨rfl, hb1⟩; have hc := HC.out _ hb1 1 _ rfl)
  all_goals
    go_ret2
    first
      | exact ⟨rfl, (Below.refl _ _).alloc (Nat.le_refl _) _⟩
      | exact ⟨by simp, ((Below.refl _ _).alloc (Nat.le_refl _) _).trans (hb1.mono (by simp))⟩
      | exact ⟨Eq.trans (b := Ending.returned (.tuple #[.int .i32 0, .int .i32 (wrap32 (pc + n))])) rfl (by first | (simp [stepI, *]; done) | (rename_i hh; simp at hh; simp [stepI, hh]; done) | (simp_all [stepI]; done)), (Below.refl _ _).alloc (Nat.le_refl _) _⟩
      | exact ⟨Eq.trans (b := Ending.returned (.tuple #[.int .i32 0, .int .i32 (wrap32 (pc + 4))])) rfl (by first | (simp [stepI, *]; done) | (rename_i hh; simp at hh; simp [stepI, hh]; done) | (simp_all [stepI]; done)), (Below.refl _ _).alloc (Nat.le_refl _) _⟩
      | exact ⟨Eq.trans (b := Ending.returned (.tuple #[.int .i32 (wrap32 (pc + 4)), .int .i32 (wrap32 (wrap32 (a + n) - 1))])) rfl (by rw [← even_up _ (wrap_rng _).1 (wrap_rng _).2 (by rename_i hh; simpa using hh)]; rfl), (Below.refl _ _).alloc (Nat.le_refl _) _⟩
      | exact ⟨Eq.trans (b := Ending.returned (.tuple #[.int .i32 (wrap32 (pc + 4)), .int .i32 (wrap32 (a + n))])) rfl (by rw [even_step n a b pc (by rename_i hh; simpa using hh)]), (Below.refl _ _).alloc (Nat.le_refl _) _⟩
theorem rstep_13 (d r1 r2 n a b pc : Int) (hn : -2147483648 ≤ n ∧ n ≤ 2147483647) (ha : -2147483648 ≤ a ∧ a ≤ 2147483647) (hb : -2147483648 ≤ b ∧ b ≤ 2147483647) (hp : -2147483648 ≤ pc ∧ pc ≤ 2147483647) (s : ByteArray) (w : World) :
    Calls Try.prog 17 #[.agg #[.int .i64 2, .int .i64 13, .int .i64 d, .int .i64 r1, .int .i64 r2, .int .i32 n, .string s], .int .i32 a, .int .i32 b, .int .i32 pc] w fun e w' => e = .returned (.tuple #[.int .i32 (stepI 13 n a b pc).1, .int .i32 (stepI 13 n a b pc).2]) ∧ Below w.heap.size w w' := by
  have hs : stepI 13 n a b pc = (if (valI 13 a b).2 = false ∧ (13 : Int) = 22 then -1 else if (valI 13 a b).2 = false ∧ (13 : Int) = 23 then a else (valI 13 a b).1, wrap32 (pc + 4)) := by simp [stepI, reckI, valI]
  have HV : ∀ w, _ := fun w => value_13 a b ha hb w
  rw [hs]
  clear hs
  generalize valI 13 a b = r at HV ⊢
  obtain ⟨v, ok⟩ := r
  have HW := Lib.hid HV
  clear HV
  have hcell : ∀ W', Below (w.alloc (.cells #[.int .i64 2, .int .i64 13, .int .i64 d, .int .i64 r1, .int .i64 r2, .int .i32 n, .string s] 39)).heap.size (w.alloc (.cells #[.int .i64 2, .int .i64 13, .int .i64 d, .int .i64 r1, .int .i64 r2, .int .i32 n, .string s] 39)) W' → ∀ j v, (#[Value.int .i64 2, .int .i64 13, .int .i64 d, .int .i64 r1, .int .i64 r2, .int .i32 n, .string s] : Array Value)[j]? = some v → W'.cell? ⟨w.heap.size, j, none⟩ = some v := fun W' hb j v hj => by
    refine (hb.cell (p := ⟨w.heap.size, j, none⟩) (by simp)).trans ?_
    rw [cell_of_row _ _ j _ _ (0, 0) (heap_alloc_new w _)]
    exact hj
  have HC := Lib.hid hcell
  clear hcell
  obtain ⟨p1, p2⟩ := hp
  obtain ⟨n1, n2⟩ := hn
  obtain ⟨a1, a2⟩ := ha
  obtain ⟨q1, q2⟩ := hb
  go_enter Try.func17, Try.ntmps17
  cases ok
  all_goals
    go_wp2_with first
      | (go_at_call 39; refine (round_any _ _).mono ?_; rintro e w' ⟨rfl, rfl⟩)
      | (go_at_call 40; refine (HW.out _).mono ?_; rintro e w1 ⟨rfl, hb1⟩; have hc := HC.out _ hb1 1 _ rfl)
  all_goals
    go_ret2
    first
      | exact ⟨rfl, (Below.refl _ _).alloc (Nat.le_refl _) _⟩
      | exact ⟨by simp, ((Below.refl _ _).alloc (Nat.le_refl _) _).trans (hb1.mono (by simp))⟩
      | exact ⟨Eq.trans (b := Ending.returned (.tuple #[.int .i32 0, .int .i32 (wrap32 (pc + n))])) rfl (by first | (simp [stepI, *]; done) | (rename_i hh; simp at hh; simp [stepI, hh]; done) | (simp_all [stepI]; done)), (Below.refl _ _).alloc (Nat.le_refl _) _⟩
      | exact ⟨Eq.trans (b := Ending.returned (.tuple #[.int .i32 0, .int .i32 (wrap32 (pc + 4))])) rfl (by first | (simp [stepI, *]; done) | (rename_i hh; simp at hh; simp [stepI, hh]; done) | (simp_all [stepI]; done)), (Below.refl _ _).alloc (Nat.le_refl _) _⟩
      | exact ⟨Eq.trans (b := Ending.returned (.tuple #[.int .i32 (wrap32 (pc + 4)), .int .i32 (wrap32 (wrap32 (a + n) - 1))])) rfl (by rw [← even_up _ (wrap_rng _).1 (wrap_rng _).2 (by rename_i hh; simpa using hh)]; rfl), (Below.refl _ _).alloc (Nat.le_refl _) _⟩
      | exact ⟨Eq.trans (b := Ending.returned (.tuple #[.int .i32 (wrap32 (pc + 4)), .int .i32 (wrap32 (a + n))])) rfl (by rw [even_step n a b pc (by rename_i hh; simpa using hh)]), (Below.refl _ _).alloc (Nat.le_refl _) _⟩
theorem rstep_14 (d r1 r2 n a b pc : Int) (hn : -2147483648 ≤ n ∧ n ≤ 2147483647) (ha : -2147483648 ≤ a ∧ a ≤ 2147483647) (hb : -2147483648 ≤ b ∧ b ≤ 2147483647) (hp : -2147483648 ≤ pc ∧ pc ≤ 2147483647) (s : ByteArray) (w : World) :
    Calls Try.prog 17 #[.agg #[.int .i64 2, .int .i64 14, .int .i64 d, .int .i64 r1, .int .i64 r2, .int .i32 n, .string s], .int .i32 a, .int .i32 b, .int .i32 pc] w fun e w' => e = .returned (.tuple #[.int .i32 (stepI 14 n a b pc).1, .int .i32 (stepI 14 n a b pc).2]) ∧ Below w.heap.size w w' := by
  have hs : stepI 14 n a b pc = (if (valI 14 a b).2 = false ∧ (14 : Int) = 22 then -1 else if (valI 14 a b).2 = false ∧ (14 : Int) = 23 then a else (valI 14 a b).1, wrap32 (pc + 4)) := by simp [stepI, reckI, valI]
  have HV : ∀ w, _ := fun w => value_14 a b ha hb w
  rw [hs]
  clear hs
  generalize valI 14 a b = r at HV ⊢
  obtain ⟨v, ok⟩ := r
  have HW := Lib.hid HV
  clear HV
  have hcell : ∀ W', Below (w.alloc (.cells #[.int .i64 2, .int .i64 14, .int .i64 d, .int .i64 r1, .int .i64 r2, .int .i32 n, .string s] 39)).heap.size (w.alloc (.cells #[.int .i64 2, .int .i64 14, .int .i64 d, .int .i64 r1, .int .i64 r2, .int .i32 n, .string s] 39)) W' → ∀ j v, (#[Value.int .i64 2, .int .i64 14, .int .i64 d, .int .i64 r1, .int .i64 r2, .int .i32 n, .string s] : Array Value)[j]? = some v → W'.cell? ⟨w.heap.size, j, none⟩ = some v := fun W' hb j v hj => by
    refine (hb.cell (p := ⟨w.heap.size, j, none⟩) (by simp)).trans ?_
    rw [cell_of_row _ _ j _ _ (0, 0) (heap_alloc_new w _)]
    exact hj
  have HC := Lib.hid hcell
  clear hcell
  obtain ⟨p1, p2⟩ := hp
  obtain ⟨n1, n2⟩ := hn
  obtain ⟨a1, a2⟩ := ha
  obtain ⟨q1, q2⟩ := hb
  go_enter Try.func17, Try.ntmps17
  cases ok
  all_goals
    go_wp2_with first
      | (go_at_call 39; refine (round_any _ _).mono ?_; rintro e w' ⟨rfl, rfl⟩)
      | (go_at_call 40; refine (HW.out _).mono ?_; rintro e w1 ⟨rfl, hb1⟩; have hc := HC.out _ hb1 1 _ rfl)
  all_goals
    go_ret2
    first
      | exact ⟨rfl, (Below.refl _ _).alloc (Nat.le_refl _) _⟩
      | exact ⟨by simp, ((Below.refl _ _).alloc (Nat.le_refl _) _).trans (hb1.mono (by simp))⟩
      | exact ⟨Eq.trans (b := Ending.returned (.tuple #[.int .i32 0, .int .i32 (wrap32 (pc + n))])) rfl (by first | (simp [stepI, *]; done) | (rename_i hh; simp at hh; simp [stepI, hh]; done) | (simp_all [stepI]; done)), (Below.refl _ _).alloc (Nat.le_refl _) _⟩
      | exact ⟨Eq.trans (b := Ending.returned (.tuple #[.int .i32 0, .int .i32 (wrap32 (pc + 4))])) rfl (by first | (simp [stepI, *]; done) | (rename_i hh; simp at hh; simp [stepI, hh]; done) | (simp_all [stepI]; done)), (Below.refl _ _).alloc (Nat.le_refl _) _⟩
      | exact ⟨Eq.trans (b := Ending.returned (.tuple #[.int .i32 (wrap32 (pc + 4)), .int .i32 (wrap32 (wrap32 (a + n) - 1))])) rfl (by rw [← even_up _ (wrap_rng _).1 (wrap_rng _).2 (by rename_i hh; simpa using hh)]; rfl), (Below.refl _ _).alloc (Nat.le_refl _) _⟩
      | exact ⟨Eq.trans (b := Ending.returned (.tuple #[.int .i32 (wrap32 (pc + 4)), .int .i32 (wrap32 (a + n))])) rfl (by rw [even_step n a b pc (by rename_i hh; simpa using hh)]), (Below.refl _ _).alloc (Nat.le_refl _) _⟩
theorem rstep_15 (d r1 r2 n a b pc : Int) (hn : -2147483648 ≤ n ∧ n ≤ 2147483647) (ha : -2147483648 ≤ a ∧ a ≤ 2147483647) (hb : -2147483648 ≤ b ∧ b ≤ 2147483647) (hp : -2147483648 ≤ pc ∧ pc ≤ 2147483647) (s : ByteArray) (w : World) :
    Calls Try.prog 17 #[.agg #[.int .i64 2, .int .i64 15, .int .i64 d, .int .i64 r1, .int .i64 r2, .int .i32 n, .string s], .int .i32 a, .int .i32 b, .int .i32 pc] w fun e w' => e = .returned (.tuple #[.int .i32 (stepI 15 n a b pc).1, .int .i32 (stepI 15 n a b pc).2]) ∧ Below w.heap.size w w' := by
  have hs : stepI 15 n a b pc = (if (valI 15 a b).2 = false ∧ (15 : Int) = 22 then -1 else if (valI 15 a b).2 = false ∧ (15 : Int) = 23 then a else (valI 15 a b).1, wrap32 (pc + 4)) := by simp [stepI, reckI, valI]
  have HV : ∀ w, _ := fun w => value_15 a b ha hb w
  rw [hs]
  clear hs
  generalize valI 15 a b = r at HV ⊢
  obtain ⟨v, ok⟩ := r
  have HW := Lib.hid HV
  clear HV
  have hcell : ∀ W', Below (w.alloc (.cells #[.int .i64 2, .int .i64 15, .int .i64 d, .int .i64 r1, .int .i64 r2, .int .i32 n, .string s] 39)).heap.size (w.alloc (.cells #[.int .i64 2, .int .i64 15, .int .i64 d, .int .i64 r1, .int .i64 r2, .int .i32 n, .string s] 39)) W' → ∀ j v, (#[Value.int .i64 2, .int .i64 15, .int .i64 d, .int .i64 r1, .int .i64 r2, .int .i32 n, .string s] : Array Value)[j]? = some v → W'.cell? ⟨w.heap.size, j, none⟩ = some v := fun W' hb j v hj => by
    refine (hb.cell (p := ⟨w.heap.size, j, none⟩) (by simp)).trans ?_
    rw [cell_of_row _ _ j _ _ (0, 0) (heap_alloc_new w _)]
    exact hj
  have HC := Lib.hid hcell
  clear hcell
  obtain ⟨p1, p2⟩ := hp
  obtain ⟨n1, n2⟩ := hn
  obtain ⟨a1, a2⟩ := ha
  obtain ⟨q1, q2⟩ := hb
  go_enter Try.func17, Try.ntmps17
  cases ok
  all_goals
    go_wp2_with first
      | (go_at_call 39; refine (round_any _ _).mono ?_; rintro e w' ⟨rfl, rfl⟩)
      | (go_at_call 40; refine (HW.out _).mono ?_; rintro e w1 ⟨rfl, hb1⟩; have hc := HC.out _ hb1 1 _ rfl)
  all_goals
    go_ret2
    first
      | exact ⟨rfl, (Below.refl _ _).alloc (Nat.le_refl _) _⟩
      | exact ⟨by simp, ((Below.refl _ _).alloc (Nat.le_refl _) _).trans (hb1.mono (by simp))⟩
      | exact ⟨Eq.trans (b := Ending.returned (.tuple #[.int .i32 0, .int .i32 (wrap32 (pc + n))])) rfl (by first | (simp [stepI, *]; done) | (rename_i hh; simp at hh; simp [stepI, hh]; done) | (simp_all [stepI]; done)), (Below.refl _ _).alloc (Nat.le_refl _) _⟩
      | exact ⟨Eq.trans (b := Ending.returned (.tuple #[.int .i32 0, .int .i32 (wrap32 (pc + 4))])) rfl (by first | (simp [stepI, *]; done) | (rename_i hh; simp at hh; simp [stepI, hh]; done) | (simp_all [stepI]; done)), (Below.refl _ _).alloc (Nat.le_refl _) _⟩
      | exact ⟨Eq.trans (b := Ending.returned (.tuple #[.int .i32 (wrap32 (pc + 4)), .int .i32 (wrap32 (wrap32 (a + n) - 1))])) rfl (by rw [← even_up _ (wrap_rng _).1 (wrap_rng _).2 (by rename_i hh; simpa using hh)]; rfl), (Below.refl _ _).alloc (Nat.le_refl _) _⟩
      | exact ⟨Eq.trans (b := Ending.returned (.tuple #[.int .i32 (wrap32 (pc + 4)), .int .i32 (wrap32 (a + n))])) rfl (by rw [even_step n a b pc (by rename_i hh; simpa using hh)]), (Below.refl _ _).alloc (Nat.le_refl _) _⟩
theorem rstep_16 (d r1 r2 n a b pc : Int) (hn : -2147483648 ≤ n ∧ n ≤ 2147483647) (ha : -2147483648 ≤ a ∧ a ≤ 2147483647) (hb : -2147483648 ≤ b ∧ b ≤ 2147483647) (hp : -2147483648 ≤ pc ∧ pc ≤ 2147483647) (s : ByteArray) (w : World) :
    Calls Try.prog 17 #[.agg #[.int .i64 2, .int .i64 16, .int .i64 d, .int .i64 r1, .int .i64 r2, .int .i32 n, .string s], .int .i32 a, .int .i32 b, .int .i32 pc] w fun e w' => e = .returned (.tuple #[.int .i32 (stepI 16 n a b pc).1, .int .i32 (stepI 16 n a b pc).2]) ∧ Below w.heap.size w w' := by
  have hs : stepI 16 n a b pc = (if (valI 16 a b).2 = false ∧ (16 : Int) = 22 then -1 else if (valI 16 a b).2 = false ∧ (16 : Int) = 23 then a else (valI 16 a b).1, wrap32 (pc + 4)) := by simp [stepI, reckI, valI]
  have HV : ∀ w, _ := fun w => value_16 a b ha hb w
  rw [hs]
  clear hs
  generalize valI 16 a b = r at HV ⊢
  obtain ⟨v, ok⟩ := r
  have HW := Lib.hid HV
  clear HV
  have hcell : ∀ W', Below (w.alloc (.cells #[.int .i64 2, .int .i64 16, .int .i64 d, .int .i64 r1, .int .i64 r2, .int .i32 n, .string s] 39)).heap.size (w.alloc (.cells #[.int .i64 2, .int .i64 16, .int .i64 d, .int .i64 r1, .int .i64 r2, .int .i32 n, .string s] 39)) W' → ∀ j v, (#[Value.int .i64 2, .int .i64 16, .int .i64 d, .int .i64 r1, .int .i64 r2, .int .i32 n, .string s] : Array Value)[j]? = some v → W'.cell? ⟨w.heap.size, j, none⟩ = some v := fun W' hb j v hj => by
    refine (hb.cell (p := ⟨w.heap.size, j, none⟩) (by simp)).trans ?_
    rw [cell_of_row _ _ j _ _ (0, 0) (heap_alloc_new w _)]
    exact hj
  have HC := Lib.hid hcell
  clear hcell
  obtain ⟨p1, p2⟩ := hp
  obtain ⟨n1, n2⟩ := hn
  obtain ⟨a1, a2⟩ := ha
  obtain ⟨q1, q2⟩ := hb
  go_enter Try.func17, Try.ntmps17
  cases ok
  all_goals
    go_wp2_with first
      | (go_at_call 39; refine (round_any _ _).mono ?_; rintro e w' ⟨rfl, rfl⟩)
      | (go_at_call 40; refine (HW.out _).mono ?_; rintro e w1 ⟨rfl, hb1⟩; have hc := HC.out _ hb1 1 _ rfl)
  all_goals
    go_ret2
    first
      | exact ⟨rfl, (Below.refl _ _).alloc (Nat.le_refl _) _⟩
      | exact ⟨by simp, ((Below.refl _ _).alloc (Nat.le_refl _) _).trans (hb1.mono (by simp))⟩
      | exact ⟨Eq.trans (b := Ending.returned (.tuple #[.int .i32 0, .int .i32 (wrap32 (pc + n))])) rfl (by first | (simp [stepI, *]; done) | (rename_i hh; simp at hh; simp [stepI, hh]; done) | (simp_all [stepI]; done)), (Below.refl _ _).alloc (Nat.le_refl _) _⟩
      | exact ⟨Eq.trans (b := Ending.returned (.tuple #[.int .i32 0, .int .i32 (wrap32 (pc + 4))])) rfl (by first | (simp [stepI, *]; done) | (rename_i hh; simp at hh; simp [stepI, hh]; done) | (simp_all [stepI]; done)), (Below.refl _ _).alloc (Nat.le_refl _) _⟩
      | exact ⟨Eq.trans (b := Ending.returned (.tuple #[.int .i32 (wrap32 (pc + 4)), .int .i32 (wrap32 (wrap32 (a + n) - 1))])) rfl (by rw [← even_up _ (wrap_rng _).1 (wrap_rng _).2 (by rename_i hh; simpa using hh)]; rfl), (Below.refl _ _).alloc (Nat.le_refl _) _⟩
      | exact ⟨Eq.trans (b := Ending.returned (.tuple #[.int .i32 (wrap32 (pc + 4)), .int .i32 (wrap32 (a + n))])) rfl (by rw [even_step n a b pc (by rename_i hh; simpa using hh)]), (Below.refl _ _).alloc (Nat.le_refl _) _⟩
theorem rstep_17 (d r1 r2 n a b pc : Int) (hn : -2147483648 ≤ n ∧ n ≤ 2147483647) (ha : -2147483648 ≤ a ∧ a ≤ 2147483647) (hb : -2147483648 ≤ b ∧ b ≤ 2147483647) (hp : -2147483648 ≤ pc ∧ pc ≤ 2147483647) (s : ByteArray) (w : World) :
    Calls Try.prog 17 #[.agg #[.int .i64 2, .int .i64 17, .int .i64 d, .int .i64 r1, .int .i64 r2, .int .i32 n, .string s], .int .i32 a, .int .i32 b, .int .i32 pc] w fun e w' => e = .returned (.tuple #[.int .i32 (stepI 17 n a b pc).1, .int .i32 (stepI 17 n a b pc).2]) ∧ Below w.heap.size w w' := by
  have hs : stepI 17 n a b pc = (if (valI 17 a b).2 = false ∧ (17 : Int) = 22 then -1 else if (valI 17 a b).2 = false ∧ (17 : Int) = 23 then a else (valI 17 a b).1, wrap32 (pc + 4)) := by simp [stepI, reckI, valI]
  have HV : ∀ w, _ := fun w => value_17 a b ha hb w
  rw [hs]
  clear hs
  generalize valI 17 a b = r at HV ⊢
  obtain ⟨v, ok⟩ := r
  have HW := Lib.hid HV
  clear HV
  have hcell : ∀ W', Below (w.alloc (.cells #[.int .i64 2, .int .i64 17, .int .i64 d, .int .i64 r1, .int .i64 r2, .int .i32 n, .string s] 39)).heap.size (w.alloc (.cells #[.int .i64 2, .int .i64 17, .int .i64 d, .int .i64 r1, .int .i64 r2, .int .i32 n, .string s] 39)) W' → ∀ j v, (#[Value.int .i64 2, .int .i64 17, .int .i64 d, .int .i64 r1, .int .i64 r2, .int .i32 n, .string s] : Array Value)[j]? = some v → W'.cell? ⟨w.heap.size, j, none⟩ = some v := fun W' hb j v hj => by
    refine (hb.cell (p := ⟨w.heap.size, j, none⟩) (by simp)).trans ?_
    rw [cell_of_row _ _ j _ _ (0, 0) (heap_alloc_new w _)]
    exact hj
  have HC := Lib.hid hcell
  clear hcell
  obtain ⟨p1, p2⟩ := hp
  obtain ⟨n1, n2⟩ := hn
  obtain ⟨a1, a2⟩ := ha
  obtain ⟨q1, q2⟩ := hb
  go_enter Try.func17, Try.ntmps17
  cases ok
  all_goals
    go_wp2_with first
      | (go_at_call 39; refine (round_any _ _).mono ?_; rintro e w' ⟨rfl, rfl⟩)
      | (go_at_call 40; refine (HW.out _).mono ?_; rintro e w1 ⟨rfl, hb1⟩; have hc := HC.out _ hb1 1 _ rfl)
  all_goals
    go_ret2
    first
      | exact ⟨rfl, (Below.refl _ _).alloc (Nat.le_refl _) _⟩
      | exact ⟨by simp, ((Below.refl _ _).alloc (Nat.le_refl _) _).trans (hb1.mono (by simp))⟩
      | exact ⟨Eq.trans (b := Ending.returned (.tuple #[.int .i32 0, .int .i32 (wrap32 (pc + n))])) rfl (by first | (simp [stepI, *]; done) | (rename_i hh; simp at hh; simp [stepI, hh]; done) | (simp_all [stepI]; done)), (Below.refl _ _).alloc (Nat.le_refl _) _⟩
      | exact ⟨Eq.trans (b := Ending.returned (.tuple #[.int .i32 0, .int .i32 (wrap32 (pc + 4))])) rfl (by first | (simp [stepI, *]; done) | (rename_i hh; simp at hh; simp [stepI, hh]; done) | (simp_all [stepI]; done)), (Below.refl _ _).alloc (Nat.le_refl _) _⟩
      | exact ⟨Eq.trans (b := Ending.returned (.tuple #[.int .i32 (wrap32 (pc + 4)), .int .i32 (wrap32 (wrap32 (a + n) - 1))])) rfl (by rw [← even_up _ (wrap_rng _).1 (wrap_rng _).2 (by rename_i hh; simpa using hh)]; rfl), (Below.refl _ _).alloc (Nat.le_refl _) _⟩
      | exact ⟨Eq.trans (b := Ending.returned (.tuple #[.int .i32 (wrap32 (pc + 4)), .int .i32 (wrap32 (a + n))])) rfl (by rw [even_step n a b pc (by rename_i hh; simpa using hh)]), (Below.refl _ _).alloc (Nat.le_refl _) _⟩
theorem rstep_18 (d r1 r2 n a b pc : Int) (hn : -2147483648 ≤ n ∧ n ≤ 2147483647) (ha : -2147483648 ≤ a ∧ a ≤ 2147483647) (hb : -2147483648 ≤ b ∧ b ≤ 2147483647) (hp : -2147483648 ≤ pc ∧ pc ≤ 2147483647) (s : ByteArray) (w : World) :
    Calls Try.prog 17 #[.agg #[.int .i64 2, .int .i64 18, .int .i64 d, .int .i64 r1, .int .i64 r2, .int .i32 n, .string s], .int .i32 a, .int .i32 b, .int .i32 pc] w fun e w' => e = .returned (.tuple #[.int .i32 (stepI 18 n a b pc).1, .int .i32 (stepI 18 n a b pc).2]) ∧ Below w.heap.size w w' := by
  have hs : stepI 18 n a b pc = (if (valI 18 a b).2 = false ∧ (18 : Int) = 22 then -1 else if (valI 18 a b).2 = false ∧ (18 : Int) = 23 then a else (valI 18 a b).1, wrap32 (pc + 4)) := by simp [stepI, reckI, valI]
  have HV : ∀ w, _ := fun w => value_18 a b ha hb w
  rw [hs]
  clear hs
  generalize valI 18 a b = r at HV ⊢
  obtain ⟨v, ok⟩ := r
  have HW := Lib.hid HV
  clear HV
  have hcell : ∀ W', Below (w.alloc (.cells #[.int .i64 2, .int .i64 18, .int .i64 d, .int .i64 r1, .int .i64 r2, .int .i32 n, .string s] 39)).heap.size (w.alloc (.cells #[.int .i64 2, .int .i64 18, .int .i64 d, .int .i64 r1, .int .i64 r2, .int .i32 n, .string s] 39)) W' → ∀ j v, (#[Value.int .i64 2, .int .i64 18, .int .i64 d, .int .i64 r1, .int .i64 r2, .int .i32 n, .string s] : Array Value)[j]? = some v → W'.cell? ⟨w.heap.size, j, none⟩ = some v := fun W' hb j v hj => by
    refine (hb.cell (p := ⟨w.heap.size, j, none⟩) (by simp)).trans ?_
    rw [cell_of_row _ _ j _ _ (0, 0) (heap_alloc_new w _)]
    exact hj
  have HC := Lib.hid hcell
  clear hcell
  obtain ⟨p1, p2⟩ := hp
  obtain ⟨n1, n2⟩ := hn
  obtain ⟨a1, a2⟩ := ha
  obtain ⟨q1, q2⟩ := hb
  go_enter Try.func17, Try.ntmps17
  cases ok
  all_goals
    go_wp2_with first
      | (go_at_call 39; refine (round_any _ _).mono ?_; rintro e w' ⟨rfl, rfl⟩)
      | (go_at_call 40; refine (HW.out _).mono ?_; rintro e w1 ⟨rfl, hb1⟩; have hc := HC.out _ hb1 1 _ rfl)
  all_goals
    go_ret2
    first
      | exact ⟨rfl, (Below.refl _ _).alloc (Nat.le_refl _) _⟩
      | exact ⟨by simp, ((Below.refl _ _).alloc (Nat.le_refl _) _).trans (hb1.mono (by simp))⟩
      | exact ⟨Eq.trans (b := Ending.returned (.tuple #[.int .i32 0, .int .i32 (wrap32 (pc + n))])) rfl (by first | (simp [stepI, *]; done) | (rename_i hh; simp at hh; simp [stepI, hh]; done) | (simp_all [stepI]; done)), (Below.refl _ _).alloc (Nat.le_refl _) _⟩
      | exact ⟨Eq.trans (b := Ending.returned (.tuple #[.int .i32 0, .int .i32 (wrap32 (pc + 4))])) rfl (by first | (simp [stepI, *]; done) | (rename_i hh; simp at hh; simp [stepI, hh]; done) | (simp_all [stepI]; done)), (Below.refl _ _).alloc (Nat.le_refl _) _⟩
      | exact ⟨Eq.trans (b := Ending.returned (.tuple #[.int .i32 (wrap32 (pc + 4)), .int .i32 (wrap32 (wrap32 (a + n) - 1))])) rfl (by rw [← even_up _ (wrap_rng _).1 (wrap_rng _).2 (by rename_i hh; simpa using hh)]; rfl), (Below.refl _ _).alloc (Nat.le_refl _) _⟩
      | exact ⟨Eq.trans (b := Ending.returned (.tuple #[.int .i32 (wrap32 (pc + 4)), .int .i32 (wrap32 (a + n))])) rfl (by rw [even_step n a b pc (by rename_i hh; simpa using hh)]), (Below.refl _ _).alloc (Nat.le_refl _) _⟩
theorem rstep_19 (d r1 r2 n a b pc : Int) (hn : -2147483648 ≤ n ∧ n ≤ 2147483647) (ha : -2147483648 ≤ a ∧ a ≤ 2147483647) (hb : -2147483648 ≤ b ∧ b ≤ 2147483647) (hp : -2147483648 ≤ pc ∧ pc ≤ 2147483647) (s : ByteArray) (w : World) :
    Calls Try.prog 17 #[.agg #[.int .i64 2, .int .i64 19, .int .i64 d, .int .i64 r1, .int .i64 r2, .int .i32 n, .string s], .int .i32 a, .int .i32 b, .int .i32 pc] w fun e w' => e = .returned (.tuple #[.int .i32 (stepI 19 n a b pc).1, .int .i32 (stepI 19 n a b pc).2]) ∧ Below w.heap.size w w' := by
  have hs : stepI 19 n a b pc = (if (valI 19 a b).2 = false ∧ (19 : Int) = 22 then -1 else if (valI 19 a b).2 = false ∧ (19 : Int) = 23 then a else (valI 19 a b).1, wrap32 (pc + 4)) := by simp [stepI, reckI, valI]
  have HV : ∀ w, _ := fun w => value_19 a b ha hb w
  rw [hs]
  clear hs
  generalize valI 19 a b = r at HV ⊢
  obtain ⟨v, ok⟩ := r
  have HW := Lib.hid HV
  clear HV
  have hcell : ∀ W', Below (w.alloc (.cells #[.int .i64 2, .int .i64 19, .int .i64 d, .int .i64 r1, .int .i64 r2, .int .i32 n, .string s] 39)).heap.size (w.alloc (.cells #[.int .i64 2, .int .i64 19, .int .i64 d, .int .i64 r1, .int .i64 r2, .int .i32 n, .string s] 39)) W' → ∀ j v, (#[Value.int .i64 2, .int .i64 19, .int .i64 d, .int .i64 r1, .int .i64 r2, .int .i32 n, .string s] : Array Value)[j]? = some v → W'.cell? ⟨w.heap.size, j, none⟩ = some v := fun W' hb j v hj => by
    refine (hb.cell (p := ⟨w.heap.size, j, none⟩) (by simp)).trans ?_
    rw [cell_of_row _ _ j _ _ (0, 0) (heap_alloc_new w _)]
    exact hj
  have HC := Lib.hid hcell
  clear hcell
  obtain ⟨p1, p2⟩ := hp
  obtain ⟨n1, n2⟩ := hn
  obtain ⟨a1, a2⟩ := ha
  obtain ⟨q1, q2⟩ := hb
  go_enter Try.func17, Try.ntmps17
  cases ok
  all_goals
    go_wp2_with first
      | (go_at_call 39; refine (round_any _ _).mono ?_; rintro e w' ⟨rfl, rfl⟩)
      | (go_at_call 40; refine (HW.out _).mono ?_; rintro e w1 ⟨rfl, hb1⟩; have hc := HC.out _ hb1 1 _ rfl)
  all_goals
    go_ret2
    first
      | exact ⟨rfl, (Below.refl _ _).alloc (Nat.le_refl _) _⟩
      | exact ⟨by simp, ((Below.refl _ _).alloc (Nat.le_refl _) _).trans (hb1.mono (by simp))⟩
      | exact ⟨Eq.trans (b := Ending.returned (.tuple #[.int .i32 0, .int .i32 (wrap32 (pc + n))])) rfl (by first | (simp [stepI, *]; done) | (rename_i hh; simp at hh; simp [stepI, hh]; done) | (simp_all [stepI]; done)), (Below.refl _ _).alloc (Nat.le_refl _) _⟩
      | exact ⟨Eq.trans (b := Ending.returned (.tuple #[.int .i32 0, .int .i32 (wrap32 (pc + 4))])) rfl (by first | (simp [stepI, *]; done) | (rename_i hh; simp at hh; simp [stepI, hh]; done) | (simp_all [stepI]; done)), (Below.refl _ _).alloc (Nat.le_refl _) _⟩
      | exact ⟨Eq.trans (b := Ending.returned (.tuple #[.int .i32 (wrap32 (pc + 4)), .int .i32 (wrap32 (wrap32 (a + n) - 1))])) rfl (by rw [← even_up _ (wrap_rng _).1 (wrap_rng _).2 (by rename_i hh; simpa using hh)]; rfl), (Below.refl _ _).alloc (Nat.le_refl _) _⟩
      | exact ⟨Eq.trans (b := Ending.returned (.tuple #[.int .i32 (wrap32 (pc + 4)), .int .i32 (wrap32 (a + n))])) rfl (by rw [even_step n a b pc (by rename_i hh; simpa using hh)]), (Below.refl _ _).alloc (Nat.le_refl _) _⟩
theorem rstep_20 (d r1 r2 n a b pc : Int) (hn : -2147483648 ≤ n ∧ n ≤ 2147483647) (ha : -2147483648 ≤ a ∧ a ≤ 2147483647) (hb : -2147483648 ≤ b ∧ b ≤ 2147483647) (hp : -2147483648 ≤ pc ∧ pc ≤ 2147483647) (s : ByteArray) (w : World) :
    Calls Try.prog 17 #[.agg #[.int .i64 2, .int .i64 20, .int .i64 d, .int .i64 r1, .int .i64 r2, .int .i32 n, .string s], .int .i32 a, .int .i32 b, .int .i32 pc] w fun e w' => e = .returned (.tuple #[.int .i32 (stepI 20 n a b pc).1, .int .i32 (stepI 20 n a b pc).2]) ∧ Below w.heap.size w w' := by
  have hs : stepI 20 n a b pc = (if (valI 20 a b).2 = false ∧ (20 : Int) = 22 then -1 else if (valI 20 a b).2 = false ∧ (20 : Int) = 23 then a else (valI 20 a b).1, wrap32 (pc + 4)) := by simp [stepI, reckI, valI]
  have HV : ∀ w, _ := fun w => value_20 a b ha hb w
  rw [hs]
  clear hs
  generalize valI 20 a b = r at HV ⊢
  obtain ⟨v, ok⟩ := r
  have HW := Lib.hid HV
  clear HV
  have hcell : ∀ W', Below (w.alloc (.cells #[.int .i64 2, .int .i64 20, .int .i64 d, .int .i64 r1, .int .i64 r2, .int .i32 n, .string s] 39)).heap.size (w.alloc (.cells #[.int .i64 2, .int .i64 20, .int .i64 d, .int .i64 r1, .int .i64 r2, .int .i32 n, .string s] 39)) W' → ∀ j v, (#[Value.int .i64 2, .int .i64 20, .int .i64 d, .int .i64 r1, .int .i64 r2, .int .i32 n, .string s] : Array Value)[j]? = some v → W'.cell? ⟨w.heap.size, j, none⟩ = some v := fun W' hb j v hj => by
    refine (hb.cell (p := ⟨w.heap.size, j, none⟩) (by simp)).trans ?_
    rw [cell_of_row _ _ j _ _ (0, 0) (heap_alloc_new w _)]
    exact hj
  have HC := Lib.hid hcell
  clear hcell
  obtain ⟨p1, p2⟩ := hp
  obtain ⟨n1, n2⟩ := hn
  obtain ⟨a1, a2⟩ := ha
  obtain ⟨q1, q2⟩ := hb
  go_enter Try.func17, Try.ntmps17
  cases ok
  all_goals
    go_wp2_with first
      | (go_at_call 39; refine (round_any _ _).mono ?_; rintro e w' ⟨rfl, rfl⟩)
      | (go_at_call 40; refine (HW.out _).mono ?_; rintro e w1 ⟨rfl, hb1⟩; have hc := HC.out _ hb1 1 _ rfl)
  all_goals
    go_ret2
    first
      | exact ⟨rfl, (Below.refl _ _).alloc (Nat.le_refl _) _⟩
      | exact ⟨by simp, ((Below.refl _ _).alloc (Nat.le_refl _) _).trans (hb1.mono (by simp))⟩
      | exact ⟨Eq.trans (b := Ending.returned (.tuple #[.int .i32 0, .int .i32 (wrap32 (pc + n))])) rfl (by first | (simp [stepI, *]; done) | (rename_i hh; simp at hh; simp [stepI, hh]; done) | (simp_all [stepI]; done)), (Below.refl _ _).alloc (Nat.le_refl _) _⟩
      | exact ⟨Eq.trans (b := Ending.returned (.tuple #[.int .i32 0, .int .i32 (wrap32 (pc + 4))])) rfl (by first | (simp [stepI, *]; done) | (rename_i hh; simp at hh; simp [stepI, hh]; done) | (simp_all [stepI]; done)), (Below.refl _ _).alloc (Nat.le_refl _) _⟩
      | exact ⟨Eq.trans (b := Ending.returned (.tuple #[.int .i32 (wrap32 (pc + 4)), .int .i32 (wrap32 (wrap32 (a + n) - 1))])) rfl (by rw [← even_up _ (wrap_rng _).1 (wrap_rng _).2 (by rename_i hh; simpa using hh)]; rfl), (Below.refl _ _).alloc (Nat.le_refl _) _⟩
      | exact ⟨Eq.trans (b := Ending.returned (.tuple #[.int .i32 (wrap32 (pc + 4)), .int .i32 (wrap32 (a + n))])) rfl (by rw [even_step n a b pc (by rename_i hh; simpa using hh)]), (Below.refl _ _).alloc (Nat.le_refl _) _⟩
theorem rstep_21 (d r1 r2 n a b pc : Int) (hn : -2147483648 ≤ n ∧ n ≤ 2147483647) (ha : -2147483648 ≤ a ∧ a ≤ 2147483647) (hb : -2147483648 ≤ b ∧ b ≤ 2147483647) (hp : -2147483648 ≤ pc ∧ pc ≤ 2147483647) (s : ByteArray) (w : World) :
    Calls Try.prog 17 #[.agg #[.int .i64 2, .int .i64 21, .int .i64 d, .int .i64 r1, .int .i64 r2, .int .i32 n, .string s], .int .i32 a, .int .i32 b, .int .i32 pc] w fun e w' => e = .returned (.tuple #[.int .i32 (stepI 21 n a b pc).1, .int .i32 (stepI 21 n a b pc).2]) ∧ Below w.heap.size w w' := by
  have hs : stepI 21 n a b pc = (if (valI 21 a b).2 = false ∧ (21 : Int) = 22 then -1 else if (valI 21 a b).2 = false ∧ (21 : Int) = 23 then a else (valI 21 a b).1, wrap32 (pc + 4)) := by simp [stepI, reckI, valI]
  have HV : ∀ w, _ := fun w => value_21 a b ha hb w
  rw [hs]
  clear hs
  generalize valI 21 a b = r at HV ⊢
  obtain ⟨v, ok⟩ := r
  have HW := Lib.hid HV
  clear HV
  have hcell : ∀ W', Below (w.alloc (.cells #[.int .i64 2, .int .i64 21, .int .i64 d, .int .i64 r1, .int .i64 r2, .int .i32 n, .string s] 39)).heap.size (w.alloc (.cells #[.int .i64 2, .int .i64 21, .int .i64 d, .int .i64 r1, .int .i64 r2, .int .i32 n, .string s] 39)) W' → ∀ j v, (#[Value.int .i64 2, .int .i64 21, .int .i64 d, .int .i64 r1, .int .i64 r2, .int .i32 n, .string s] : Array Value)[j]? = some v → W'.cell? ⟨w.heap.size, j, none⟩ = some v := fun W' hb j v hj => by
    refine (hb.cell (p := ⟨w.heap.size, j, none⟩) (by simp)).trans ?_
    rw [cell_of_row _ _ j _ _ (0, 0) (heap_alloc_new w _)]
    exact hj
  have HC := Lib.hid hcell
  clear hcell
  obtain ⟨p1, p2⟩ := hp
  obtain ⟨n1, n2⟩ := hn
  obtain ⟨a1, a2⟩ := ha
  obtain ⟨q1, q2⟩ := hb
  go_enter Try.func17, Try.ntmps17
  cases ok
  all_goals
    go_wp2_with first
      | (go_at_call 39; refine (round_any _ _).mono ?_; rintro e w' ⟨rfl, rfl⟩)
      | (go_at_call 40; refine (HW.out _).mono ?_; rintro e w1 ⟨rfl, hb1⟩; have hc := HC.out _ hb1 1 _ rfl)
  all_goals
    go_ret2
    first
      | exact ⟨rfl, (Below.refl _ _).alloc (Nat.le_refl _) _⟩
      | exact ⟨by simp, ((Below.refl _ _).alloc (Nat.le_refl _) _).trans (hb1.mono (by simp))⟩
      | exact ⟨Eq.trans (b := Ending.returned (.tuple #[.int .i32 0, .int .i32 (wrap32 (pc + n))])) rfl (by first | (simp [stepI, *]; done) | (rename_i hh; simp at hh; simp [stepI, hh]; done) | (simp_all [stepI]; done)), (Below.refl _ _).alloc (Nat.le_refl _) _⟩
      | exact ⟨Eq.trans (b := Ending.returned (.tuple #[.int .i32 0, .int .i32 (wrap32 (pc + 4))])) rfl (by first | (simp [stepI, *]; done) | (rename_i hh; simp at hh; simp [stepI, hh]; done) | (simp_all [stepI]; done)), (Below.refl _ _).alloc (Nat.le_refl _) _⟩
      | exact ⟨Eq.trans (b := Ending.returned (.tuple #[.int .i32 (wrap32 (pc + 4)), .int .i32 (wrap32 (wrap32 (a + n) - 1))])) rfl (by rw [← even_up _ (wrap_rng _).1 (wrap_rng _).2 (by rename_i hh; simpa using hh)]; rfl), (Below.refl _ _).alloc (Nat.le_refl _) _⟩
      | exact ⟨Eq.trans (b := Ending.returned (.tuple #[.int .i32 (wrap32 (pc + 4)), .int .i32 (wrap32 (a + n))])) rfl (by rw [even_step n a b pc (by rename_i hh; simpa using hh)]), (Below.refl _ _).alloc (Nat.le_refl _) _⟩
theorem rstep_22 (d r1 r2 n a b pc : Int) (hn : -2147483648 ≤ n ∧ n ≤ 2147483647) (ha : -2147483648 ≤ a ∧ a ≤ 2147483647) (hb : -2147483648 ≤ b ∧ b ≤ 2147483647) (hp : -2147483648 ≤ pc ∧ pc ≤ 2147483647) (s : ByteArray) (w : World) :
    Calls Try.prog 17 #[.agg #[.int .i64 2, .int .i64 22, .int .i64 d, .int .i64 r1, .int .i64 r2, .int .i32 n, .string s], .int .i32 a, .int .i32 b, .int .i32 pc] w fun e w' => e = .returned (.tuple #[.int .i32 (stepI 22 n a b pc).1, .int .i32 (stepI 22 n a b pc).2]) ∧ Below w.heap.size w w' := by
  have hs : stepI 22 n a b pc = (if (valI 22 a b).2 = false ∧ (22 : Int) = 22 then -1 else if (valI 22 a b).2 = false ∧ (22 : Int) = 23 then a else (valI 22 a b).1, wrap32 (pc + 4)) := by simp [stepI, reckI, valI]
  have HV : ∀ w, _ := fun w => value_22 a b ha hb w
  rw [hs]
  clear hs
  generalize valI 22 a b = r at HV ⊢
  obtain ⟨v, ok⟩ := r
  have HW := Lib.hid HV
  clear HV
  have hcell : ∀ W', Below (w.alloc (.cells #[.int .i64 2, .int .i64 22, .int .i64 d, .int .i64 r1, .int .i64 r2, .int .i32 n, .string s] 39)).heap.size (w.alloc (.cells #[.int .i64 2, .int .i64 22, .int .i64 d, .int .i64 r1, .int .i64 r2, .int .i32 n, .string s] 39)) W' → ∀ j v, (#[Value.int .i64 2, .int .i64 22, .int .i64 d, .int .i64 r1, .int .i64 r2, .int .i32 n, .string s] : Array Value)[j]? = some v → W'.cell? ⟨w.heap.size, j, none⟩ = some v := fun W' hb j v hj => by
    refine (hb.cell (p := ⟨w.heap.size, j, none⟩) (by simp)).trans ?_
    rw [cell_of_row _ _ j _ _ (0, 0) (heap_alloc_new w _)]
    exact hj
  have HC := Lib.hid hcell
  clear hcell
  obtain ⟨p1, p2⟩ := hp
  obtain ⟨n1, n2⟩ := hn
  obtain ⟨a1, a2⟩ := ha
  obtain ⟨q1, q2⟩ := hb
  go_enter Try.func17, Try.ntmps17
  cases ok
  all_goals
    go_wp2_with first
      | (go_at_call 39; refine (round_any _ _).mono ?_; rintro e w' ⟨rfl, rfl⟩)
      | (go_at_call 40; refine (HW.out _).mono ?_; rintro e w1 ⟨rfl, hb1⟩; have hc := HC.out _ hb1 1 _ rfl)
  all_goals
    go_ret2
    first
      | exact ⟨rfl, (Below.refl _ _).alloc (Nat.le_refl _) _⟩
      | exact ⟨by simp, ((Below.refl _ _).alloc (Nat.le_refl _) _).trans (hb1.mono (by simp))⟩
      | exact ⟨Eq.trans (b := Ending.returned (.tuple #[.int .i32 0, .int .i32 (wrap32 (pc + n))])) rfl (by first | (simp [stepI, *]; done) | (rename_i hh; simp at hh; simp [stepI, hh]; done) | (simp_all [stepI]; done)), (Below.refl _ _).alloc (Nat.le_refl _) _⟩
      | exact ⟨Eq.trans (b := Ending.returned (.tuple #[.int .i32 0, .int .i32 (wrap32 (pc + 4))])) rfl (by first | (simp [stepI, *]; done) | (rename_i hh; simp at hh; simp [stepI, hh]; done) | (simp_all [stepI]; done)), (Below.refl _ _).alloc (Nat.le_refl _) _⟩
      | exact ⟨Eq.trans (b := Ending.returned (.tuple #[.int .i32 (wrap32 (pc + 4)), .int .i32 (wrap32 (wrap32 (a + n) - 1))])) rfl (by rw [← even_up _ (wrap_rng _).1 (wrap_rng _).2 (by rename_i hh; simpa using hh)]; rfl), (Below.refl _ _).alloc (Nat.le_refl _) _⟩
      | exact ⟨Eq.trans (b := Ending.returned (.tuple #[.int .i32 (wrap32 (pc + 4)), .int .i32 (wrap32 (a + n))])) rfl (by rw [even_step n a b pc (by rename_i hh; simpa using hh)]), (Below.refl _ _).alloc (Nat.le_refl _) _⟩
theorem rstep_23 (d r1 r2 n a b pc : Int) (hn : -2147483648 ≤ n ∧ n ≤ 2147483647) (ha : -2147483648 ≤ a ∧ a ≤ 2147483647) (hb : -2147483648 ≤ b ∧ b ≤ 2147483647) (hp : -2147483648 ≤ pc ∧ pc ≤ 2147483647) (s : ByteArray) (w : World) :
    Calls Try.prog 17 #[.agg #[.int .i64 2, .int .i64 23, .int .i64 d, .int .i64 r1, .int .i64 r2, .int .i32 n, .string s], .int .i32 a, .int .i32 b, .int .i32 pc] w fun e w' => e = .returned (.tuple #[.int .i32 (stepI 23 n a b pc).1, .int .i32 (stepI 23 n a b pc).2]) ∧ Below w.heap.size w w' := by
  have hs : stepI 23 n a b pc = (if (valI 23 a b).2 = false ∧ (23 : Int) = 22 then -1 else if (valI 23 a b).2 = false ∧ (23 : Int) = 23 then a else (valI 23 a b).1, wrap32 (pc + 4)) := by simp [stepI, reckI, valI]
  have HV : ∀ w, _ := fun w => value_23 a b ha hb w
  rw [hs]
  clear hs
  generalize valI 23 a b = r at HV ⊢
  obtain ⟨v, ok⟩ := r
  have HW := Lib.hid HV
  clear HV
  have hcell : ∀ W', Below (w.alloc (.cells #[.int .i64 2, .int .i64 23, .int .i64 d, .int .i64 r1, .int .i64 r2, .int .i32 n, .string s] 39)).heap.size (w.alloc (.cells #[.int .i64 2, .int .i64 23, .int .i64 d, .int .i64 r1, .int .i64 r2, .int .i32 n, .string s] 39)) W' → ∀ j v, (#[Value.int .i64 2, .int .i64 23, .int .i64 d, .int .i64 r1, .int .i64 r2, .int .i32 n, .string s] : Array Value)[j]? = some v → W'.cell? ⟨w.heap.size, j, none⟩ = some v := fun W' hb j v hj => by
    refine (hb.cell (p := ⟨w.heap.size, j, none⟩) (by simp)).trans ?_
    rw [cell_of_row _ _ j _ _ (0, 0) (heap_alloc_new w _)]
    exact hj
  have HC := Lib.hid hcell
  clear hcell
  obtain ⟨p1, p2⟩ := hp
  obtain ⟨n1, n2⟩ := hn
  obtain ⟨a1, a2⟩ := ha
  obtain ⟨q1, q2⟩ := hb
  go_enter Try.func17, Try.ntmps17
  cases ok
  all_goals
    go_wp2_with first
      | (go_at_call 39; refine (round_any _ _).mono ?_; rintro e w' ⟨rfl, rfl⟩)
      | (go_at_call 40; refine (HW.out _).mono ?_; rintro e w1 ⟨rfl, hb1⟩; have hc := HC.out _ hb1 1 _ rfl)
  all_goals
    go_ret2
    first
      | exact ⟨rfl, (Below.refl _ _).alloc (Nat.le_refl _) _⟩
      | exact ⟨by simp, ((Below.refl _ _).alloc (Nat.le_refl _) _).trans (hb1.mono (by simp))⟩
      | exact ⟨Eq.trans (b := Ending.returned (.tuple #[.int .i32 0, .int .i32 (wrap32 (pc + n))])) rfl (by first | (simp [stepI, *]; done) | (rename_i hh; simp at hh; simp [stepI, hh]; done) | (simp_all [stepI]; done)), (Below.refl _ _).alloc (Nat.le_refl _) _⟩
      | exact ⟨Eq.trans (b := Ending.returned (.tuple #[.int .i32 0, .int .i32 (wrap32 (pc + 4))])) rfl (by first | (simp [stepI, *]; done) | (rename_i hh; simp at hh; simp [stepI, hh]; done) | (simp_all [stepI]; done)), (Below.refl _ _).alloc (Nat.le_refl _) _⟩
      | exact ⟨Eq.trans (b := Ending.returned (.tuple #[.int .i32 (wrap32 (pc + 4)), .int .i32 (wrap32 (wrap32 (a + n) - 1))])) rfl (by rw [← even_up _ (wrap_rng _).1 (wrap_rng _).2 (by rename_i hh; simpa using hh)]; rfl), (Below.refl _ _).alloc (Nat.le_refl _) _⟩
      | exact ⟨Eq.trans (b := Ending.returned (.tuple #[.int .i32 (wrap32 (pc + 4)), .int .i32 (wrap32 (a + n))])) rfl (by rw [even_step n a b pc (by rename_i hh; simpa using hh)]), (Below.refl _ _).alloc (Nat.le_refl _) _⟩
theorem rstep_24 (d r1 r2 n a b pc : Int) (hn : -2147483648 ≤ n ∧ n ≤ 2147483647) (ha : -2147483648 ≤ a ∧ a ≤ 2147483647) (hb : -2147483648 ≤ b ∧ b ≤ 2147483647) (hp : -2147483648 ≤ pc ∧ pc ≤ 2147483647) (s : ByteArray) (w : World) :
    Calls Try.prog 17 #[.agg #[.int .i64 2, .int .i64 24, .int .i64 d, .int .i64 r1, .int .i64 r2, .int .i32 n, .string s], .int .i32 a, .int .i32 b, .int .i32 pc] w fun e w' => e = .returned (.tuple #[.int .i32 (stepI 24 n a b pc).1, .int .i32 (stepI 24 n a b pc).2]) ∧ Below w.heap.size w w' := by
  obtain ⟨p1, p2⟩ := hp
  obtain ⟨n1, n2⟩ := hn
  obtain ⟨a1, a2⟩ := ha
  obtain ⟨q1, q2⟩ := hb
  go_enter Try.func17, Try.ntmps17
  skip
  all_goals
    go_wp2_with first
      | (go_at_call 39; refine (round_any _ _).mono ?_; rintro e w' ⟨rfl, rfl⟩)
      | fail
  all_goals
    go_ret2
    first
      | exact ⟨rfl, (Below.refl _ _).alloc (Nat.le_refl _) _⟩
      | exact ⟨by simp, ((Below.refl _ _).alloc (Nat.le_refl _) _).trans (hb1.mono (by simp))⟩
      | exact ⟨Eq.trans (b := Ending.returned (.tuple #[.int .i32 0, .int .i32 (wrap32 (pc + n))])) rfl (by first | (simp [stepI, *]; done) | (rename_i hh; simp at hh; simp [stepI, hh]; done) | (simp_all [stepI]; done)), (Below.refl _ _).alloc (Nat.le_refl _) _⟩
      | exact ⟨Eq.trans (b := Ending.returned (.tuple #[.int .i32 0, .int .i32 (wrap32 (pc + 4))])) rfl (by first | (simp [stepI, *]; done) | (rename_i hh; simp at hh; simp [stepI, hh]; done) | (simp_all [stepI]; done)), (Below.refl _ _).alloc (Nat.le_refl _) _⟩
      | exact ⟨Eq.trans (b := Ending.returned (.tuple #[.int .i32 (wrap32 (pc + 4)), .int .i32 (wrap32 (wrap32 (a + n) - 1))])) rfl (by rw [← even_up _ (wrap_rng _).1 (wrap_rng _).2 (by rename_i hh; simpa using hh)]; rfl), (Below.refl _ _).alloc (Nat.le_refl _) _⟩
      | exact ⟨Eq.trans (b := Ending.returned (.tuple #[.int .i32 (wrap32 (pc + 4)), .int .i32 (wrap32 (a + n))])) rfl (by rw [even_step n a b pc (by rename_i hh; simpa using hh)]), (Below.refl _ _).alloc (Nat.le_refl _) _⟩
theorem rstep_25 (d r1 r2 n a b pc : Int) (hn : -2147483648 ≤ n ∧ n ≤ 2147483647) (ha : -2147483648 ≤ a ∧ a ≤ 2147483647) (hb : -2147483648 ≤ b ∧ b ≤ 2147483647) (hp : -2147483648 ≤ pc ∧ pc ≤ 2147483647) (s : ByteArray) (w : World) :
    Calls Try.prog 17 #[.agg #[.int .i64 2, .int .i64 25, .int .i64 d, .int .i64 r1, .int .i64 r2, .int .i32 n, .string s], .int .i32 a, .int .i32 b, .int .i32 pc] w fun e w' => e = .returned (.tuple #[.int .i32 (stepI 25 n a b pc).1, .int .i32 (stepI 25 n a b pc).2]) ∧ Below w.heap.size w w' := by
  obtain ⟨p1, p2⟩ := hp
  obtain ⟨n1, n2⟩ := hn
  obtain ⟨a1, a2⟩ := ha
  obtain ⟨q1, q2⟩ := hb
  go_enter Try.func17, Try.ntmps17
  skip
  all_goals
    go_wp2_with first
      | (go_at_call 39; refine (round_any _ _).mono ?_; rintro e w' ⟨rfl, rfl⟩)
      | fail
  all_goals
    go_ret2
    first
      | exact ⟨rfl, (Below.refl _ _).alloc (Nat.le_refl _) _⟩
      | exact ⟨by simp, ((Below.refl _ _).alloc (Nat.le_refl _) _).trans (hb1.mono (by simp))⟩
      | exact ⟨Eq.trans (b := Ending.returned (.tuple #[.int .i32 0, .int .i32 (wrap32 (pc + n))])) rfl (by first | (simp [stepI, *]; done) | (rename_i hh; simp at hh; simp [stepI, hh]; done) | (simp_all [stepI]; done)), (Below.refl _ _).alloc (Nat.le_refl _) _⟩
      | exact ⟨Eq.trans (b := Ending.returned (.tuple #[.int .i32 0, .int .i32 (wrap32 (pc + 4))])) rfl (by first | (simp [stepI, *]; done) | (rename_i hh; simp at hh; simp [stepI, hh]; done) | (simp_all [stepI]; done)), (Below.refl _ _).alloc (Nat.le_refl _) _⟩
      | exact ⟨Eq.trans (b := Ending.returned (.tuple #[.int .i32 (wrap32 (pc + 4)), .int .i32 (wrap32 (wrap32 (a + n) - 1))])) rfl (by rw [← even_up _ (wrap_rng _).1 (wrap_rng _).2 (by rename_i hh; simpa using hh)]; rfl), (Below.refl _ _).alloc (Nat.le_refl _) _⟩
      | exact ⟨Eq.trans (b := Ending.returned (.tuple #[.int .i32 (wrap32 (pc + 4)), .int .i32 (wrap32 (a + n))])) rfl (by rw [even_step n a b pc (by rename_i hh; simpa using hh)]), (Below.refl _ _).alloc (Nat.le_refl _) _⟩
theorem rstep_26 (d r1 r2 n a b pc : Int) (hn : -2147483648 ≤ n ∧ n ≤ 2147483647) (ha : -2147483648 ≤ a ∧ a ≤ 2147483647) (hb : -2147483648 ≤ b ∧ b ≤ 2147483647) (hp : -2147483648 ≤ pc ∧ pc ≤ 2147483647) (s : ByteArray) (w : World) :
    Calls Try.prog 17 #[.agg #[.int .i64 2, .int .i64 26, .int .i64 d, .int .i64 r1, .int .i64 r2, .int .i32 n, .string s], .int .i32 a, .int .i32 b, .int .i32 pc] w fun e w' => e = .returned (.tuple #[.int .i32 (stepI 26 n a b pc).1, .int .i32 (stepI 26 n a b pc).2]) ∧ Below w.heap.size w w' := by
  obtain ⟨p1, p2⟩ := hp
  obtain ⟨n1, n2⟩ := hn
  obtain ⟨a1, a2⟩ := ha
  obtain ⟨q1, q2⟩ := hb
  go_enter Try.func17, Try.ntmps17
  skip
  all_goals
    go_wp2_with first
      | (go_at_call 39; refine (round_any _ _).mono ?_; rintro e w' ⟨rfl, rfl⟩)
      | fail
  all_goals
    go_ret2
    first
      | exact ⟨rfl, (Below.refl _ _).alloc (Nat.le_refl _) _⟩
      | exact ⟨by simp, ((Below.refl _ _).alloc (Nat.le_refl _) _).trans (hb1.mono (by simp))⟩
      | exact ⟨Eq.trans (b := Ending.returned (.tuple #[.int .i32 0, .int .i32 (wrap32 (pc + n))])) rfl (by first | (simp [stepI, *]; done) | (rename_i hh; simp at hh; simp [stepI, hh]; done) | (simp_all [stepI]; done)), (Below.refl _ _).alloc (Nat.le_refl _) _⟩
      | exact ⟨Eq.trans (b := Ending.returned (.tuple #[.int .i32 0, .int .i32 (wrap32 (pc + 4))])) rfl (by first | (simp [stepI, *]; done) | (rename_i hh; simp at hh; simp [stepI, hh]; done) | (simp_all [stepI]; done)), (Below.refl _ _).alloc (Nat.le_refl _) _⟩
      | exact ⟨Eq.trans (b := Ending.returned (.tuple #[.int .i32 (wrap32 (pc + 4)), .int .i32 (wrap32 (wrap32 (a + n) - 1))])) rfl (by rw [← even_up _ (wrap_rng _).1 (wrap_rng _).2 (by rename_i hh; simpa using hh)]; rfl), (Below.refl _ _).alloc (Nat.le_refl _) _⟩
      | exact ⟨Eq.trans (b := Ending.returned (.tuple #[.int .i32 (wrap32 (pc + 4)), .int .i32 (wrap32 (a + n))])) rfl (by rw [even_step n a b pc (by rename_i hh; simpa using hh)]), (Below.refl _ _).alloc (Nat.le_refl _) _⟩
theorem rstep_27 (d r1 r2 n a b pc : Int) (hn : -2147483648 ≤ n ∧ n ≤ 2147483647) (ha : -2147483648 ≤ a ∧ a ≤ 2147483647) (hb : -2147483648 ≤ b ∧ b ≤ 2147483647) (hp : -2147483648 ≤ pc ∧ pc ≤ 2147483647) (s : ByteArray) (w : World) :
    Calls Try.prog 17 #[.agg #[.int .i64 2, .int .i64 27, .int .i64 d, .int .i64 r1, .int .i64 r2, .int .i32 n, .string s], .int .i32 a, .int .i32 b, .int .i32 pc] w fun e w' => e = .returned (.tuple #[.int .i32 (stepI 27 n a b pc).1, .int .i32 (stepI 27 n a b pc).2]) ∧ Below w.heap.size w w' := by
  obtain ⟨p1, p2⟩ := hp
  obtain ⟨n1, n2⟩ := hn
  obtain ⟨a1, a2⟩ := ha
  obtain ⟨q1, q2⟩ := hb
  go_enter Try.func17, Try.ntmps17
  skip
  all_goals
    go_wp2_with first
      | (go_at_call 39; refine (round_any _ _).mono ?_; rintro e w' ⟨rfl, rfl⟩)
      | fail
  all_goals
    go_ret2
    first
      | exact ⟨rfl, (Below.refl _ _).alloc (Nat.le_refl _) _⟩
      | exact ⟨by simp, ((Below.refl _ _).alloc (Nat.le_refl _) _).trans (hb1.mono (by simp))⟩
      | exact ⟨Eq.trans (b := Ending.returned (.tuple #[.int .i32 0, .int .i32 (wrap32 (pc + n))])) rfl (by first | (simp [stepI, *]; done) | (rename_i hh; simp at hh; simp [stepI, hh]; done) | (simp_all [stepI]; done)), (Below.refl _ _).alloc (Nat.le_refl _) _⟩
      | exact ⟨Eq.trans (b := Ending.returned (.tuple #[.int .i32 0, .int .i32 (wrap32 (pc + 4))])) rfl (by first | (simp [stepI, *]; done) | (rename_i hh; simp at hh; simp [stepI, hh]; done) | (simp_all [stepI]; done)), (Below.refl _ _).alloc (Nat.le_refl _) _⟩
      | exact ⟨Eq.trans (b := Ending.returned (.tuple #[.int .i32 (wrap32 (pc + 4)), .int .i32 (wrap32 (wrap32 (a + n) - 1))])) rfl (by rw [← even_up _ (wrap_rng _).1 (wrap_rng _).2 (by rename_i hh; simpa using hh)]; rfl), (Below.refl _ _).alloc (Nat.le_refl _) _⟩
      | exact ⟨Eq.trans (b := Ending.returned (.tuple #[.int .i32 (wrap32 (pc + 4)), .int .i32 (wrap32 (a + n))])) rfl (by rw [even_step n a b pc (by rename_i hh; simpa using hh)]), (Below.refl _ _).alloc (Nat.le_refl _) _⟩
theorem rstep_28 (d r1 r2 n a b pc : Int) (hn : -2147483648 ≤ n ∧ n ≤ 2147483647) (ha : -2147483648 ≤ a ∧ a ≤ 2147483647) (hb : -2147483648 ≤ b ∧ b ≤ 2147483647) (hp : -2147483648 ≤ pc ∧ pc ≤ 2147483647) (s : ByteArray) (w : World) :
    Calls Try.prog 17 #[.agg #[.int .i64 2, .int .i64 28, .int .i64 d, .int .i64 r1, .int .i64 r2, .int .i32 n, .string s], .int .i32 a, .int .i32 b, .int .i32 pc] w fun e w' => e = .returned (.tuple #[.int .i32 (stepI 28 n a b pc).1, .int .i32 (stepI 28 n a b pc).2]) ∧ Below w.heap.size w w' := by
  obtain ⟨p1, p2⟩ := hp
  obtain ⟨n1, n2⟩ := hn
  obtain ⟨a1, a2⟩ := ha
  obtain ⟨q1, q2⟩ := hb
  go_enter Try.func17, Try.ntmps17
  skip
  all_goals
    go_wp2_with first
      | (go_at_call 39; refine (round_any _ _).mono ?_; rintro e w' ⟨rfl, rfl⟩)
      | fail
  all_goals
    go_ret2
    first
      | exact ⟨rfl, (Below.refl _ _).alloc (Nat.le_refl _) _⟩
      | exact ⟨by simp, ((Below.refl _ _).alloc (Nat.le_refl _) _).trans (hb1.mono (by simp))⟩
      | exact ⟨Eq.trans (b := Ending.returned (.tuple #[.int .i32 0, .int .i32 (wrap32 (pc + n))])) rfl (by first | (simp [stepI, *]; done) | (rename_i hh; simp at hh; simp [stepI, hh]; done) | (simp_all [stepI]; done)), (Below.refl _ _).alloc (Nat.le_refl _) _⟩
      | exact ⟨Eq.trans (b := Ending.returned (.tuple #[.int .i32 0, .int .i32 (wrap32 (pc + 4))])) rfl (by first | (simp [stepI, *]; done) | (rename_i hh; simp at hh; simp [stepI, hh]; done) | (simp_all [stepI]; done)), (Below.refl _ _).alloc (Nat.le_refl _) _⟩
      | exact ⟨Eq.trans (b := Ending.returned (.tuple #[.int .i32 (wrap32 (pc + 4)), .int .i32 (wrap32 (wrap32 (a + n) - 1))])) rfl (by rw [← even_up _ (wrap_rng _).1 (wrap_rng _).2 (by rename_i hh; simpa using hh)]; rfl), (Below.refl _ _).alloc (Nat.le_refl _) _⟩
      | exact ⟨Eq.trans (b := Ending.returned (.tuple #[.int .i32 (wrap32 (pc + 4)), .int .i32 (wrap32 (a + n))])) rfl (by rw [even_step n a b pc (by rename_i hh; simpa using hh)]), (Below.refl _ _).alloc (Nat.le_refl _) _⟩
theorem rstep_29 (d r1 r2 n a b pc : Int) (hn : -2147483648 ≤ n ∧ n ≤ 2147483647) (ha : -2147483648 ≤ a ∧ a ≤ 2147483647) (hb : -2147483648 ≤ b ∧ b ≤ 2147483647) (hp : -2147483648 ≤ pc ∧ pc ≤ 2147483647) (s : ByteArray) (w : World) :
    Calls Try.prog 17 #[.agg #[.int .i64 2, .int .i64 29, .int .i64 d, .int .i64 r1, .int .i64 r2, .int .i32 n, .string s], .int .i32 a, .int .i32 b, .int .i32 pc] w fun e w' => e = .returned (.tuple #[.int .i32 (stepI 29 n a b pc).1, .int .i32 (stepI 29 n a b pc).2]) ∧ Below w.heap.size w w' := by
  obtain ⟨p1, p2⟩ := hp
  obtain ⟨n1, n2⟩ := hn
  obtain ⟨a1, a2⟩ := ha
  obtain ⟨q1, q2⟩ := hb
  go_enter Try.func17, Try.ntmps17
  skip
  all_goals
    go_wp2_with first
      | (go_at_call 39; refine (round_any _ _).mono ?_; rintro e w' ⟨rfl, rfl⟩)
      | fail
  all_goals
    go_ret2
    first
      | exact ⟨rfl, (Below.refl _ _).alloc (Nat.le_refl _) _⟩
      | exact ⟨by simp, ((Below.refl _ _).alloc (Nat.le_refl _) _).trans (hb1.mono (by simp))⟩
      | exact ⟨Eq.trans (b := Ending.returned (.tuple #[.int .i32 0, .int .i32 (wrap32 (pc + n))])) rfl (by first | (simp [stepI, *]; done) | (rename_i hh; simp at hh; simp [stepI, hh]; done) | (simp_all [stepI]; done)), (Below.refl _ _).alloc (Nat.le_refl _) _⟩
      | exact ⟨Eq.trans (b := Ending.returned (.tuple #[.int .i32 0, .int .i32 (wrap32 (pc + 4))])) rfl (by first | (simp [stepI, *]; done) | (rename_i hh; simp at hh; simp [stepI, hh]; done) | (simp_all [stepI]; done)), (Below.refl _ _).alloc (Nat.le_refl _) _⟩
      | exact ⟨Eq.trans (b := Ending.returned (.tuple #[.int .i32 (wrap32 (pc + 4)), .int .i32 (wrap32 (wrap32 (a + n) - 1))])) rfl (by rw [← even_up _ (wrap_rng _).1 (wrap_rng _).2 (by rename_i hh; simpa using hh)]; rfl), (Below.refl _ _).alloc (Nat.le_refl _) _⟩
      | exact ⟨Eq.trans (b := Ending.returned (.tuple #[.int .i32 (wrap32 (pc + 4)), .int .i32 (wrap32 (a + n))])) rfl (by rw [even_step n a b pc (by rename_i hh; simpa using hh)]), (Below.refl _ _).alloc (Nat.le_refl _) _⟩
theorem rstep_30 (d r1 r2 n a b pc : Int) (hn : -2147483648 ≤ n ∧ n ≤ 2147483647) (ha : -2147483648 ≤ a ∧ a ≤ 2147483647) (hb : -2147483648 ≤ b ∧ b ≤ 2147483647) (hp : -2147483648 ≤ pc ∧ pc ≤ 2147483647) (s : ByteArray) (w : World) :
    Calls Try.prog 17 #[.agg #[.int .i64 2, .int .i64 30, .int .i64 d, .int .i64 r1, .int .i64 r2, .int .i32 n, .string s], .int .i32 a, .int .i32 b, .int .i32 pc] w fun e w' => e = .returned (.tuple #[.int .i32 (stepI 30 n a b pc).1, .int .i32 (stepI 30 n a b pc).2]) ∧ Below w.heap.size w w' := by
  obtain ⟨p1, p2⟩ := hp
  obtain ⟨n1, n2⟩ := hn
  obtain ⟨a1, a2⟩ := ha
  obtain ⟨q1, q2⟩ := hb
  go_enter Try.func17, Try.ntmps17
  skip
  all_goals
    go_wp2_with first
      | (go_at_call 39; refine (round_any _ _).mono ?_; rintro e w' ⟨rfl, rfl⟩)
      | fail
  all_goals
    go_ret2
    first
      | exact ⟨rfl, (Below.refl _ _).alloc (Nat.le_refl _) _⟩
      | exact ⟨by simp, ((Below.refl _ _).alloc (Nat.le_refl _) _).trans (hb1.mono (by simp))⟩
      | exact ⟨Eq.trans (b := Ending.returned (.tuple #[.int .i32 0, .int .i32 (wrap32 (pc + n))])) rfl (by first | (simp [stepI, *]; done) | (rename_i hh; simp at hh; simp [stepI, hh]; done) | (simp_all [stepI]; done)), (Below.refl _ _).alloc (Nat.le_refl _) _⟩
      | exact ⟨Eq.trans (b := Ending.returned (.tuple #[.int .i32 0, .int .i32 (wrap32 (pc + 4))])) rfl (by first | (simp [stepI, *]; done) | (rename_i hh; simp at hh; simp [stepI, hh]; done) | (simp_all [stepI]; done)), (Below.refl _ _).alloc (Nat.le_refl _) _⟩
      | exact ⟨Eq.trans (b := Ending.returned (.tuple #[.int .i32 (wrap32 (pc + 4)), .int .i32 (wrap32 (wrap32 (a + n) - 1))])) rfl (by rw [← even_up _ (wrap_rng _).1 (wrap_rng _).2 (by rename_i hh; simpa using hh)]; rfl), (Below.refl _ _).alloc (Nat.le_refl _) _⟩
      | exact ⟨Eq.trans (b := Ending.returned (.tuple #[.int .i32 (wrap32 (pc + 4)), .int .i32 (wrap32 (a + n))])) rfl (by rw [even_step n a b pc (by rename_i hh; simpa using hh)]), (Below.refl _ _).alloc (Nat.le_refl _) _⟩
theorem rstep_any (op d r1 r2 n a b pc : Int) (h1 : 1 ≤ op) (h2 : op ≤ 30) (hn : -2147483648 ≤ n ∧ n ≤ 2147483647) (ha : -2147483648 ≤ a ∧ a ≤ 2147483647) (hb : -2147483648 ≤ b ∧ b ≤ 2147483647) (hp : -2147483648 ≤ pc ∧ pc ≤ 2147483647) (s : ByteArray) (w : World) :
    Calls Try.prog 17 #[.agg #[.int .i64 2, .int .i64 op, .int .i64 d, .int .i64 r1, .int .i64 r2, .int .i32 n, .string s], .int .i32 a, .int .i32 b, .int .i32 pc] w fun e w' => e = .returned (.tuple #[.int .i32 (stepI op n a b pc).1, .int .i32 (stepI op n a b pc).2]) ∧ Below w.heap.size w w' := by
  rcases ops30 h1 h2 with rfl | rfl | rfl | rfl | rfl | rfl | rfl | rfl | rfl | rfl | rfl | rfl | rfl | rfl | rfl | rfl | rfl | rfl | rfl | rfl | rfl | rfl | rfl | rfl | rfl | rfl | rfl | rfl | rfl | rfl
  · exact rstep_1 d r1 r2 n a b pc hn ha hb hp s w
  · exact rstep_2 d r1 r2 n a b pc hn ha hb hp s w
  · exact rstep_3 d r1 r2 n a b pc hn ha hb hp s w
  · exact rstep_4 d r1 r2 n a b pc hn ha hb hp s w
  · exact rstep_5 d r1 r2 n a b pc hn ha hb hp s w
  · exact rstep_6 d r1 r2 n a b pc hn ha hb hp s w
  · exact rstep_7 d r1 r2 n a b pc hn ha hb hp s w
  · exact rstep_8 d r1 r2 n a b pc hn ha hb hp s w
  · exact rstep_9 d r1 r2 n a b pc hn ha hb hp s w
  · exact rstep_10 d r1 r2 n a b pc hn ha hb hp s w
  · exact rstep_11 d r1 r2 n a b pc hn ha hb hp s w
  · exact rstep_12 d r1 r2 n a b pc hn ha hb hp s w
  · exact rstep_13 d r1 r2 n a b pc hn ha hb hp s w
  · exact rstep_14 d r1 r2 n a b pc hn ha hb hp s w
  · exact rstep_15 d r1 r2 n a b pc hn ha hb hp s w
  · exact rstep_16 d r1 r2 n a b pc hn ha hb hp s w
  · exact rstep_17 d r1 r2 n a b pc hn ha hb hp s w
  · exact rstep_18 d r1 r2 n a b pc hn ha hb hp s w
  · exact rstep_19 d r1 r2 n a b pc hn ha hb hp s w
  · exact rstep_20 d r1 r2 n a b pc hn ha hb hp s w
  · exact rstep_21 d r1 r2 n a b pc hn ha hb hp s w
  · exact rstep_22 d r1 r2 n a b pc hn ha hb hp s w
  · exact rstep_23 d r1 r2 n a b pc hn ha hb hp s w
  · exact rstep_24 d r1 r2 n a b pc hn ha hb hp s w
  · exact rstep_25 d r1 r2 n a b pc hn ha hb hp s w
  · exact rstep_26 d r1 r2 n a b pc hn ha hb hp s w
  · exact rstep_27 d r1 r2 n a b pc hn ha hb hp s w
  · exact rstep_28 d r1 r2 n a b pc hn ha hb hp s w
  · exact rstep_29 d r1 r2 n a b pc hn ha hb hp s w
  · exact rstep_30 d r1 r2 n a b pc hn ha hb hp s w
end Rv
end Go.Proofs.Ytmedhibjkbahpaa
