/-
  Contracts of package asm: whether an instruction without a symbol may be.
-/
import Derived.Test.YtadgemcpahfkoaaKmf
namespace Go.Proofs.Ytadgemcpahfkoaa
open Go.RowKit
set_option linter.unusedVariables false
set_option linter.unusedSimpArgs false
set_option maxRecDepth 100000

theorem tm2 (n : Int) : n.tmod 2 = 0 ↔ n % 2 = 0 := ⟨fun h => Int.emod_eq_zero_of_dvd (Int.dvd_of_tmod_eq_zero h), fun h => Int.tmod_eq_zero_of_dvd (Int.dvd_of_emod_eq_zero h)⟩

theorem fits_12 (n : Int) (b1 : -2147483648 ≤ n) (b2 : n ≤ 2147483647) (w : World) :
    Calls Try.prog 54 #[.int .i32 n, .int .i64 12] w fun e w' => e = .returned (.bool (decide (-2048 ≤ n) && decide (n < 2048))) ∧ w = w' := by
  by_cases h1 : -2048 ≤ n
  · by_cases h2 : n < 2048
    · go_enter Try.func54, Try.ntmps54
      go_wp2
      go_ret
      exact ⟨by simp [h1, h2], rfl⟩
    · go_enter Try.func54, Try.ntmps54
      go_wp2
      go_ret
      exact ⟨by simp [h1, h2], rfl⟩
  · go_enter Try.func54, Try.ntmps54
    go_wp2
    go_ret
    exact ⟨by simp; omega, rfl⟩

theorem fits_13 (n : Int) (b1 : -2147483648 ≤ n) (b2 : n ≤ 2147483647) (w : World) :
    Calls Try.prog 54 #[.int .i32 n, .int .i64 13] w fun e w' => e = .returned (.bool (decide (-4096 ≤ n) && decide (n < 4096))) ∧ w = w' := by
  by_cases h1 : -4096 ≤ n
  · by_cases h2 : n < 4096
    · go_enter Try.func54, Try.ntmps54
      go_wp2
      go_ret
      exact ⟨by simp [h1, h2], rfl⟩
    · go_enter Try.func54, Try.ntmps54
      go_wp2
      go_ret
      exact ⟨by simp [h1, h2], rfl⟩
  · go_enter Try.func54, Try.ntmps54
    go_wp2
    go_ret
    exact ⟨by simp; omega, rfl⟩

theorem fits_21 (n : Int) (b1 : -2147483648 ≤ n) (b2 : n ≤ 2147483647) (w : World) :
    Calls Try.prog 54 #[.int .i32 n, .int .i64 21] w fun e w' => e = .returned (.bool (decide (-1048576 ≤ n) && decide (n < 1048576))) ∧ w = w' := by
  by_cases h1 : -1048576 ≤ n
  · by_cases h2 : n < 1048576
    · go_enter Try.func54, Try.ntmps54
      go_wp2
      go_ret
      exact ⟨by simp [h1, h2], rfl⟩
    · go_enter Try.func54, Try.ntmps54
      go_wp2
      go_ret
      exact ⟨by simp [h1, h2], rfl⟩
  · go_enter Try.func54, Try.ntmps54
    go_wp2
    go_ret
    exact ⟨by simp; omega, rfl⟩

theorem mayNum_1 (d a b n : Int) (b1 : -2147483648 ≤ n) (b2 : n ≤ 2147483647) (w : World) :
    Calls Try.prog 74 #[.agg #[.int .i64 2, .int .i64 1, .int .i64 d, .int .i64 a, .int .i64 b, .int .i32 n, .string ⟨#[]⟩]] w fun e w' => e = .returned (.bool (numOk 7 n)) ∧ Below w.heap.size w w' := by
  by_cases h1 : 0 ≤ n
  · by_cases h2 : n < 1048576
    · have E : Hid (numOk 7 n = true) := Lib.hid (by simp [numOk]; omega)
      go_enter Try.func74, Try.ntmps74
      go_wp2
      go_ret
      exact ⟨by rw [E.out]; rfl, (Below.refl _ _).alloc (Nat.le_refl _) _⟩
    · have E : Hid (numOk 7 n = false) := Lib.hid (by simp [numOk]; omega)
      go_enter Try.func74, Try.ntmps74
      go_wp2
      go_ret
      exact ⟨by rw [E.out]; rfl, (Below.refl _ _).alloc (Nat.le_refl _) _⟩
  · have E : Hid (numOk 7 n = false) := Lib.hid (by simp [numOk]; omega)
    go_enter Try.func74, Try.ntmps74
    go_wp2
    go_ret
    exact ⟨by rw [E.out]; rfl, (Below.refl _ _).alloc (Nat.le_refl _) _⟩

theorem mayNum_2 (d a b n : Int) (b1 : -2147483648 ≤ n) (b2 : n ≤ 2147483647) (w : World) :
    Calls Try.prog 74 #[.agg #[.int .i64 2, .int .i64 2, .int .i64 d, .int .i64 a, .int .i64 b, .int .i32 n, .string ⟨#[]⟩]] w fun e w' => e = .returned (.bool (numOk 3 n)) ∧ Below w.heap.size w w' := by
  have E : (decide (-2048 ≤ n) && decide (n < 2048)) = numOk 3 n := by rw [Bool.eq_iff_iff]; simp [numOk]; omega
  have H := fun W => Lib.hid (fits_12 n b1 b2 W)
  rw [E] at H
  clear E
  go_enter Try.func74, Try.ntmps74
  go_wp2_with (refine (H _).out.mono ?_; rintro e w' ⟨rfl, rfl⟩)
  go_ret
  exact ⟨rfl, (Below.refl _ _).alloc (Nat.le_refl _) _⟩

theorem mayNum_3 (d a b n : Int) (b1 : -2147483648 ≤ n) (b2 : n ≤ 2147483647) (w : World) :
    Calls Try.prog 74 #[.agg #[.int .i64 2, .int .i64 3, .int .i64 d, .int .i64 a, .int .i64 b, .int .i32 n, .string ⟨#[]⟩]] w fun e w' => e = .returned (.bool (numOk 3 n)) ∧ Below w.heap.size w w' := by
  have E : (decide (-2048 ≤ n) && decide (n < 2048)) = numOk 3 n := by rw [Bool.eq_iff_iff]; simp [numOk]; omega
  have H := fun W => Lib.hid (fits_12 n b1 b2 W)
  rw [E] at H
  clear E
  go_enter Try.func74, Try.ntmps74
  go_wp2_with (refine (H _).out.mono ?_; rintro e w' ⟨rfl, rfl⟩)
  go_ret
  exact ⟨rfl, (Below.refl _ _).alloc (Nat.le_refl _) _⟩

theorem mayNum_4 (d a b n : Int) (b1 : -2147483648 ≤ n) (b2 : n ≤ 2147483647) (w : World) :
    Calls Try.prog 74 #[.agg #[.int .i64 2, .int .i64 4, .int .i64 d, .int .i64 a, .int .i64 b, .int .i32 n, .string ⟨#[]⟩]] w fun e w' => e = .returned (.bool (numOk 3 n)) ∧ Below w.heap.size w w' := by
  have E : (decide (-2048 ≤ n) && decide (n < 2048)) = numOk 3 n := by rw [Bool.eq_iff_iff]; simp [numOk]; omega
  have H := fun W => Lib.hid (fits_12 n b1 b2 W)
  rw [E] at H
  clear E
  go_enter Try.func74, Try.ntmps74
  go_wp2_with (refine (H _).out.mono ?_; rintro e w' ⟨rfl, rfl⟩)
  go_ret
  exact ⟨rfl, (Below.refl _ _).alloc (Nat.le_refl _) _⟩

theorem mayNum_5 (d a b n : Int) (b1 : -2147483648 ≤ n) (b2 : n ≤ 2147483647) (w : World) :
    Calls Try.prog 74 #[.agg #[.int .i64 2, .int .i64 5, .int .i64 d, .int .i64 a, .int .i64 b, .int .i32 n, .string ⟨#[]⟩]] w fun e w' => e = .returned (.bool (numOk 3 n)) ∧ Below w.heap.size w w' := by
  have E : (decide (-2048 ≤ n) && decide (n < 2048)) = numOk 3 n := by rw [Bool.eq_iff_iff]; simp [numOk]; omega
  have H := fun W => Lib.hid (fits_12 n b1 b2 W)
  rw [E] at H
  clear E
  go_enter Try.func74, Try.ntmps74
  go_wp2_with (refine (H _).out.mono ?_; rintro e w' ⟨rfl, rfl⟩)
  go_ret
  exact ⟨rfl, (Below.refl _ _).alloc (Nat.le_refl _) _⟩

theorem mayNum_6 (d a b n : Int) (b1 : -2147483648 ≤ n) (b2 : n ≤ 2147483647) (w : World) :
    Calls Try.prog 74 #[.agg #[.int .i64 2, .int .i64 6, .int .i64 d, .int .i64 a, .int .i64 b, .int .i32 n, .string ⟨#[]⟩]] w fun e w' => e = .returned (.bool (numOk 3 n)) ∧ Below w.heap.size w w' := by
  have E : (decide (-2048 ≤ n) && decide (n < 2048)) = numOk 3 n := by rw [Bool.eq_iff_iff]; simp [numOk]; omega
  have H := fun W => Lib.hid (fits_12 n b1 b2 W)
  rw [E] at H
  clear E
  go_enter Try.func74, Try.ntmps74
  go_wp2_with (refine (H _).out.mono ?_; rintro e w' ⟨rfl, rfl⟩)
  go_ret
  exact ⟨rfl, (Below.refl _ _).alloc (Nat.le_refl _) _⟩

theorem mayNum_7 (d a b n : Int) (b1 : -2147483648 ≤ n) (b2 : n ≤ 2147483647) (w : World) :
    Calls Try.prog 74 #[.agg #[.int .i64 2, .int .i64 7, .int .i64 d, .int .i64 a, .int .i64 b, .int .i32 n, .string ⟨#[]⟩]] w fun e w' => e = .returned (.bool (numOk 3 n)) ∧ Below w.heap.size w w' := by
  have E : (decide (-2048 ≤ n) && decide (n < 2048)) = numOk 3 n := by rw [Bool.eq_iff_iff]; simp [numOk]; omega
  have H := fun W => Lib.hid (fits_12 n b1 b2 W)
  rw [E] at H
  clear E
  go_enter Try.func74, Try.ntmps74
  go_wp2_with (refine (H _).out.mono ?_; rintro e w' ⟨rfl, rfl⟩)
  go_ret
  exact ⟨rfl, (Below.refl _ _).alloc (Nat.le_refl _) _⟩

theorem mayNum_8 (d a b n : Int) (b1 : -2147483648 ≤ n) (b2 : n ≤ 2147483647) (w : World) :
    Calls Try.prog 74 #[.agg #[.int .i64 2, .int .i64 8, .int .i64 d, .int .i64 a, .int .i64 b, .int .i32 n, .string ⟨#[]⟩]] w fun e w' => e = .returned (.bool (numOk 4 n)) ∧ Below w.heap.size w w' := by
  by_cases h1 : 0 ≤ n
  · by_cases h2 : n < 32
    · have E : Hid (numOk 4 n = true) := Lib.hid (by simp [numOk]; omega)
      go_enter Try.func74, Try.ntmps74
      go_wp2
      go_ret
      exact ⟨by rw [E.out]; rfl, (Below.refl _ _).alloc (Nat.le_refl _) _⟩
    · have E : Hid (numOk 4 n = false) := Lib.hid (by simp [numOk]; omega)
      go_enter Try.func74, Try.ntmps74
      go_wp2
      go_ret
      exact ⟨by rw [E.out]; rfl, (Below.refl _ _).alloc (Nat.le_refl _) _⟩
  · have E : Hid (numOk 4 n = false) := Lib.hid (by simp [numOk]; omega)
    go_enter Try.func74, Try.ntmps74
    go_wp2
    go_ret
    exact ⟨by rw [E.out]; rfl, (Below.refl _ _).alloc (Nat.le_refl _) _⟩

theorem mayNum_9 (d a b n : Int) (b1 : -2147483648 ≤ n) (b2 : n ≤ 2147483647) (w : World) :
    Calls Try.prog 74 #[.agg #[.int .i64 2, .int .i64 9, .int .i64 d, .int .i64 a, .int .i64 b, .int .i32 n, .string ⟨#[]⟩]] w fun e w' => e = .returned (.bool (numOk 4 n)) ∧ Below w.heap.size w w' := by
  by_cases h1 : 0 ≤ n
  · by_cases h2 : n < 32
    · have E : Hid (numOk 4 n = true) := Lib.hid (by simp [numOk]; omega)
      go_enter Try.func74, Try.ntmps74
      go_wp2
      go_ret
      exact ⟨by rw [E.out]; rfl, (Below.refl _ _).alloc (Nat.le_refl _) _⟩
    · have E : Hid (numOk 4 n = false) := Lib.hid (by simp [numOk]; omega)
      go_enter Try.func74, Try.ntmps74
      go_wp2
      go_ret
      exact ⟨by rw [E.out]; rfl, (Below.refl _ _).alloc (Nat.le_refl _) _⟩
  · have E : Hid (numOk 4 n = false) := Lib.hid (by simp [numOk]; omega)
    go_enter Try.func74, Try.ntmps74
    go_wp2
    go_ret
    exact ⟨by rw [E.out]; rfl, (Below.refl _ _).alloc (Nat.le_refl _) _⟩

theorem mayNum_10 (d a b n : Int) (b1 : -2147483648 ≤ n) (b2 : n ≤ 2147483647) (w : World) :
    Calls Try.prog 74 #[.agg #[.int .i64 2, .int .i64 10, .int .i64 d, .int .i64 a, .int .i64 b, .int .i32 n, .string ⟨#[]⟩]] w fun e w' => e = .returned (.bool (numOk 4 n)) ∧ Below w.heap.size w w' := by
  by_cases h1 : 0 ≤ n
  · by_cases h2 : n < 32
    · have E : Hid (numOk 4 n = true) := Lib.hid (by simp [numOk]; omega)
      go_enter Try.func74, Try.ntmps74
      go_wp2
      go_ret
      exact ⟨by rw [E.out]; rfl, (Below.refl _ _).alloc (Nat.le_refl _) _⟩
    · have E : Hid (numOk 4 n = false) := Lib.hid (by simp [numOk]; omega)
      go_enter Try.func74, Try.ntmps74
      go_wp2
      go_ret
      exact ⟨by rw [E.out]; rfl, (Below.refl _ _).alloc (Nat.le_refl _) _⟩
  · have E : Hid (numOk 4 n = false) := Lib.hid (by simp [numOk]; omega)
    go_enter Try.func74, Try.ntmps74
    go_wp2
    go_ret
    exact ⟨by rw [E.out]; rfl, (Below.refl _ _).alloc (Nat.le_refl _) _⟩

theorem mayNum_11 (d a b n : Int) (b1 : -2147483648 ≤ n) (b2 : n ≤ 2147483647) (w : World) :
    Calls Try.prog 74 #[.agg #[.int .i64 2, .int .i64 11, .int .i64 d, .int .i64 a, .int .i64 b, .int .i32 n, .string ⟨#[]⟩]] w fun e w' => e = .returned (.bool (numOk 2 n)) ∧ Below w.heap.size w w' := by
  have E : (n == 0) = numOk 2 n := rfl
  go_enter Try.func74, Try.ntmps74
  go_wp2
  go_ret
  exact ⟨by rw [← E]; rfl, (Below.refl _ _).alloc (Nat.le_refl _) _⟩

theorem mayNum_12 (d a b n : Int) (b1 : -2147483648 ≤ n) (b2 : n ≤ 2147483647) (w : World) :
    Calls Try.prog 74 #[.agg #[.int .i64 2, .int .i64 12, .int .i64 d, .int .i64 a, .int .i64 b, .int .i32 n, .string ⟨#[]⟩]] w fun e w' => e = .returned (.bool (numOk 2 n)) ∧ Below w.heap.size w w' := by
  have E : (n == 0) = numOk 2 n := rfl
  go_enter Try.func74, Try.ntmps74
  go_wp2
  go_ret
  exact ⟨by rw [← E]; rfl, (Below.refl _ _).alloc (Nat.le_refl _) _⟩

theorem mayNum_13 (d a b n : Int) (b1 : -2147483648 ≤ n) (b2 : n ≤ 2147483647) (w : World) :
    Calls Try.prog 74 #[.agg #[.int .i64 2, .int .i64 13, .int .i64 d, .int .i64 a, .int .i64 b, .int .i32 n, .string ⟨#[]⟩]] w fun e w' => e = .returned (.bool (numOk 2 n)) ∧ Below w.heap.size w w' := by
  have E : (n == 0) = numOk 2 n := rfl
  go_enter Try.func74, Try.ntmps74
  go_wp2
  go_ret
  exact ⟨by rw [← E]; rfl, (Below.refl _ _).alloc (Nat.le_refl _) _⟩

theorem mayNum_14 (d a b n : Int) (b1 : -2147483648 ≤ n) (b2 : n ≤ 2147483647) (w : World) :
    Calls Try.prog 74 #[.agg #[.int .i64 2, .int .i64 14, .int .i64 d, .int .i64 a, .int .i64 b, .int .i32 n, .string ⟨#[]⟩]] w fun e w' => e = .returned (.bool (numOk 2 n)) ∧ Below w.heap.size w w' := by
  have E : (n == 0) = numOk 2 n := rfl
  go_enter Try.func74, Try.ntmps74
  go_wp2
  go_ret
  exact ⟨by rw [← E]; rfl, (Below.refl _ _).alloc (Nat.le_refl _) _⟩

theorem mayNum_15 (d a b n : Int) (b1 : -2147483648 ≤ n) (b2 : n ≤ 2147483647) (w : World) :
    Calls Try.prog 74 #[.agg #[.int .i64 2, .int .i64 15, .int .i64 d, .int .i64 a, .int .i64 b, .int .i32 n, .string ⟨#[]⟩]] w fun e w' => e = .returned (.bool (numOk 2 n)) ∧ Below w.heap.size w w' := by
  have E : (n == 0) = numOk 2 n := rfl
  go_enter Try.func74, Try.ntmps74
  go_wp2
  go_ret
  exact ⟨by rw [← E]; rfl, (Below.refl _ _).alloc (Nat.le_refl _) _⟩

theorem mayNum_16 (d a b n : Int) (b1 : -2147483648 ≤ n) (b2 : n ≤ 2147483647) (w : World) :
    Calls Try.prog 74 #[.agg #[.int .i64 2, .int .i64 16, .int .i64 d, .int .i64 a, .int .i64 b, .int .i32 n, .string ⟨#[]⟩]] w fun e w' => e = .returned (.bool (numOk 2 n)) ∧ Below w.heap.size w w' := by
  have E : (n == 0) = numOk 2 n := rfl
  go_enter Try.func74, Try.ntmps74
  go_wp2
  go_ret
  exact ⟨by rw [← E]; rfl, (Below.refl _ _).alloc (Nat.le_refl _) _⟩

theorem mayNum_17 (d a b n : Int) (b1 : -2147483648 ≤ n) (b2 : n ≤ 2147483647) (w : World) :
    Calls Try.prog 74 #[.agg #[.int .i64 2, .int .i64 17, .int .i64 d, .int .i64 a, .int .i64 b, .int .i32 n, .string ⟨#[]⟩]] w fun e w' => e = .returned (.bool (numOk 2 n)) ∧ Below w.heap.size w w' := by
  have E : (n == 0) = numOk 2 n := rfl
  go_enter Try.func74, Try.ntmps74
  go_wp2
  go_ret
  exact ⟨by rw [← E]; rfl, (Below.refl _ _).alloc (Nat.le_refl _) _⟩

theorem mayNum_18 (d a b n : Int) (b1 : -2147483648 ≤ n) (b2 : n ≤ 2147483647) (w : World) :
    Calls Try.prog 74 #[.agg #[.int .i64 2, .int .i64 18, .int .i64 d, .int .i64 a, .int .i64 b, .int .i32 n, .string ⟨#[]⟩]] w fun e w' => e = .returned (.bool (numOk 2 n)) ∧ Below w.heap.size w w' := by
  have E : (n == 0) = numOk 2 n := rfl
  go_enter Try.func74, Try.ntmps74
  go_wp2
  go_ret
  exact ⟨by rw [← E]; rfl, (Below.refl _ _).alloc (Nat.le_refl _) _⟩

theorem mayNum_19 (d a b n : Int) (b1 : -2147483648 ≤ n) (b2 : n ≤ 2147483647) (w : World) :
    Calls Try.prog 74 #[.agg #[.int .i64 2, .int .i64 19, .int .i64 d, .int .i64 a, .int .i64 b, .int .i32 n, .string ⟨#[]⟩]] w fun e w' => e = .returned (.bool (numOk 2 n)) ∧ Below w.heap.size w w' := by
  have E : (n == 0) = numOk 2 n := rfl
  go_enter Try.func74, Try.ntmps74
  go_wp2
  go_ret
  exact ⟨by rw [← E]; rfl, (Below.refl _ _).alloc (Nat.le_refl _) _⟩

theorem mayNum_20 (d a b n : Int) (b1 : -2147483648 ≤ n) (b2 : n ≤ 2147483647) (w : World) :
    Calls Try.prog 74 #[.agg #[.int .i64 2, .int .i64 20, .int .i64 d, .int .i64 a, .int .i64 b, .int .i32 n, .string ⟨#[]⟩]] w fun e w' => e = .returned (.bool (numOk 2 n)) ∧ Below w.heap.size w w' := by
  have E : (n == 0) = numOk 2 n := rfl
  go_enter Try.func74, Try.ntmps74
  go_wp2
  go_ret
  exact ⟨by rw [← E]; rfl, (Below.refl _ _).alloc (Nat.le_refl _) _⟩

theorem mayNum_21 (d a b n : Int) (b1 : -2147483648 ≤ n) (b2 : n ≤ 2147483647) (w : World) :
    Calls Try.prog 74 #[.agg #[.int .i64 2, .int .i64 21, .int .i64 d, .int .i64 a, .int .i64 b, .int .i32 n, .string ⟨#[]⟩]] w fun e w' => e = .returned (.bool (numOk 2 n)) ∧ Below w.heap.size w w' := by
  have E : (n == 0) = numOk 2 n := rfl
  go_enter Try.func74, Try.ntmps74
  go_wp2
  go_ret
  exact ⟨by rw [← E]; rfl, (Below.refl _ _).alloc (Nat.le_refl _) _⟩

theorem mayNum_22 (d a b n : Int) (b1 : -2147483648 ≤ n) (b2 : n ≤ 2147483647) (w : World) :
    Calls Try.prog 74 #[.agg #[.int .i64 2, .int .i64 22, .int .i64 d, .int .i64 a, .int .i64 b, .int .i32 n, .string ⟨#[]⟩]] w fun e w' => e = .returned (.bool (numOk 2 n)) ∧ Below w.heap.size w w' := by
  have E : (n == 0) = numOk 2 n := rfl
  go_enter Try.func74, Try.ntmps74
  go_wp2
  go_ret
  exact ⟨by rw [← E]; rfl, (Below.refl _ _).alloc (Nat.le_refl _) _⟩

theorem mayNum_23 (d a b n : Int) (b1 : -2147483648 ≤ n) (b2 : n ≤ 2147483647) (w : World) :
    Calls Try.prog 74 #[.agg #[.int .i64 2, .int .i64 23, .int .i64 d, .int .i64 a, .int .i64 b, .int .i32 n, .string ⟨#[]⟩]] w fun e w' => e = .returned (.bool (numOk 2 n)) ∧ Below w.heap.size w w' := by
  have E : (n == 0) = numOk 2 n := rfl
  go_enter Try.func74, Try.ntmps74
  go_wp2
  go_ret
  exact ⟨by rw [← E]; rfl, (Below.refl _ _).alloc (Nat.le_refl _) _⟩

theorem mayNum_24 (d a b n : Int) (b1 : -2147483648 ≤ n) (b2 : n ≤ 2147483647) (w : World) :
    Calls Try.prog 74 #[.agg #[.int .i64 2, .int .i64 24, .int .i64 d, .int .i64 a, .int .i64 b, .int .i32 n, .string ⟨#[]⟩]] w fun e w' => e = .returned (.bool (numOk 3 n)) ∧ Below w.heap.size w w' := by
  have E : (decide (-2048 ≤ n) && decide (n < 2048)) = numOk 3 n := by rw [Bool.eq_iff_iff]; simp [numOk]; omega
  have H := fun W => Lib.hid (fits_12 n b1 b2 W)
  rw [E] at H
  clear E
  go_enter Try.func74, Try.ntmps74
  go_wp2_with (refine (H _).out.mono ?_; rintro e w' ⟨rfl, rfl⟩)
  go_ret
  exact ⟨rfl, (Below.refl _ _).alloc (Nat.le_refl _) _⟩

theorem mayNum_25 (d a b n : Int) (b1 : -2147483648 ≤ n) (b2 : n ≤ 2147483647) (w : World) :
    Calls Try.prog 74 #[.agg #[.int .i64 2, .int .i64 25, .int .i64 d, .int .i64 a, .int .i64 b, .int .i32 n, .string ⟨#[]⟩]] w fun e w' => e = .returned (.bool (numOk 5 n)) ∧ Below w.heap.size w w' := by
  have E : (decide (-2048 ≤ n) && decide (n < 2048)) = numOk 5 n := by rw [Bool.eq_iff_iff]; simp [numOk]; omega
  have H := fun W => Lib.hid (fits_12 n b1 b2 W)
  rw [E] at H
  clear E
  go_enter Try.func74, Try.ntmps74
  go_wp2_with (refine (H _).out.mono ?_; rintro e w' ⟨rfl, rfl⟩)
  go_ret
  exact ⟨rfl, (Below.refl _ _).alloc (Nat.le_refl _) _⟩

theorem mayNum_26 (d a b n : Int) (b1 : -2147483648 ≤ n) (b2 : n ≤ 2147483647) (w : World) :
    Calls Try.prog 74 #[.agg #[.int .i64 2, .int .i64 26, .int .i64 d, .int .i64 a, .int .i64 b, .int .i32 n, .string ⟨#[]⟩]] w fun e w' => e = .returned (.bool (numOk 6 n)) ∧ Below w.heap.size w w' := by
  have H := fun W => Lib.hid (fits_13 n b1 b2 W)
  by_cases h1 : (-4096 ≤ n ∧ n < 4096)
  · have e1 : (decide (-4096 ≤ n) && decide (n < 4096)) = true := by simp; omega
    rw [e1] at H
    clear e1
    have ht := tm2 n
    by_cases h2 : n.tmod 2 = 0
    · have h3 : (n.tmod 2 == 0) = true := by simp [h2]
      have E : Hid (numOk 6 n = true) := Lib.hid (by simp [numOk]; omega)
      clear h1 ht
      go_enter Try.func74, Try.ntmps74
      go_wp2_with (refine (H _).out.mono ?_; rintro e w' ⟨rfl, rfl⟩)
      go_ret
      exact ⟨by rw [E.out]; rfl, (Below.refl _ _).alloc (Nat.le_refl _) _⟩
    · have h3 : (n.tmod 2 == 0) = false := by simp [h2]
      have E : Hid (numOk 6 n = false) := Lib.hid (by simp [numOk]; omega)
      clear h1 ht
      go_enter Try.func74, Try.ntmps74
      go_wp2_with (refine (H _).out.mono ?_; rintro e w' ⟨rfl, rfl⟩)
      go_ret
      exact ⟨by rw [E.out]; rfl, (Below.refl _ _).alloc (Nat.le_refl _) _⟩
  · have e1 : (decide (-4096 ≤ n) && decide (n < 4096)) = false := by simp; omega
    rw [e1] at H
    clear e1
    have E : Hid (numOk 6 n = false) := Lib.hid (by simp [numOk]; omega)
    clear h1
    go_enter Try.func74, Try.ntmps74
    go_wp2_with (refine (H _).out.mono ?_; rintro e w' ⟨rfl, rfl⟩)
    go_ret
    exact ⟨by rw [E.out]; rfl, (Below.refl _ _).alloc (Nat.le_refl _) _⟩

theorem mayNum_27 (d a b n : Int) (b1 : -2147483648 ≤ n) (b2 : n ≤ 2147483647) (w : World) :
    Calls Try.prog 74 #[.agg #[.int .i64 2, .int .i64 27, .int .i64 d, .int .i64 a, .int .i64 b, .int .i32 n, .string ⟨#[]⟩]] w fun e w' => e = .returned (.bool (numOk 6 n)) ∧ Below w.heap.size w w' := by
  have H := fun W => Lib.hid (fits_13 n b1 b2 W)
  by_cases h1 : (-4096 ≤ n ∧ n < 4096)
  · have e1 : (decide (-4096 ≤ n) && decide (n < 4096)) = true := by simp; omega
    rw [e1] at H
    clear e1
    have ht := tm2 n
    by_cases h2 : n.tmod 2 = 0
    · have h3 : (n.tmod 2 == 0) = true := by simp [h2]
      have E : Hid (numOk 6 n = true) := Lib.hid (by simp [numOk]; omega)
      clear h1 ht
      go_enter Try.func74, Try.ntmps74
      go_wp2_with (refine (H _).out.mono ?_; rintro e w' ⟨rfl, rfl⟩)
      go_ret
      exact ⟨by rw [E.out]; rfl, (Below.refl _ _).alloc (Nat.le_refl _) _⟩
    · have h3 : (n.tmod 2 == 0) = false := by simp [h2]
      have E : Hid (numOk 6 n = false) := Lib.hid (by simp [numOk]; omega)
      clear h1 ht
      go_enter Try.func74, Try.ntmps74
      go_wp2_with (refine (H _).out.mono ?_; rintro e w' ⟨rfl, rfl⟩)
      go_ret
      exact ⟨by rw [E.out]; rfl, (Below.refl _ _).alloc (Nat.le_refl _) _⟩
  · have e1 : (decide (-4096 ≤ n) && decide (n < 4096)) = false := by simp; omega
    rw [e1] at H
    clear e1
    have E : Hid (numOk 6 n = false) := Lib.hid (by simp [numOk]; omega)
    clear h1
    go_enter Try.func74, Try.ntmps74
    go_wp2_with (refine (H _).out.mono ?_; rintro e w' ⟨rfl, rfl⟩)
    go_ret
    exact ⟨by rw [E.out]; rfl, (Below.refl _ _).alloc (Nat.le_refl _) _⟩

theorem mayNum_28 (d a b n : Int) (b1 : -2147483648 ≤ n) (b2 : n ≤ 2147483647) (w : World) :
    Calls Try.prog 74 #[.agg #[.int .i64 2, .int .i64 28, .int .i64 d, .int .i64 a, .int .i64 b, .int .i32 n, .string ⟨#[]⟩]] w fun e w' => e = .returned (.bool (numOk 8 n)) ∧ Below w.heap.size w w' := by
  have H := fun W => Lib.hid (fits_21 n b1 b2 W)
  by_cases h1 : (-1048576 ≤ n ∧ n < 1048576)
  · have e1 : (decide (-1048576 ≤ n) && decide (n < 1048576)) = true := by simp; omega
    rw [e1] at H
    clear e1
    have ht := tm2 n
    by_cases h2 : n.tmod 2 = 0
    · have h3 : (n.tmod 2 == 0) = true := by simp [h2]
      have E : Hid (numOk 8 n = true) := Lib.hid (by simp [numOk]; omega)
      clear h1 ht
      go_enter Try.func74, Try.ntmps74
      go_wp2_with (refine (H _).out.mono ?_; rintro e w' ⟨rfl, rfl⟩)
      go_ret
      exact ⟨by rw [E.out]; rfl, (Below.refl _ _).alloc (Nat.le_refl _) _⟩
    · have h3 : (n.tmod 2 == 0) = false := by simp [h2]
      have E : Hid (numOk 8 n = false) := Lib.hid (by simp [numOk]; omega)
      clear h1 ht
      go_enter Try.func74, Try.ntmps74
      go_wp2_with (refine (H _).out.mono ?_; rintro e w' ⟨rfl, rfl⟩)
      go_ret
      exact ⟨by rw [E.out]; rfl, (Below.refl _ _).alloc (Nat.le_refl _) _⟩
  · have e1 : (decide (-1048576 ≤ n) && decide (n < 1048576)) = false := by simp; omega
    rw [e1] at H
    clear e1
    have E : Hid (numOk 8 n = false) := Lib.hid (by simp [numOk]; omega)
    clear h1
    go_enter Try.func74, Try.ntmps74
    go_wp2_with (refine (H _).out.mono ?_; rintro e w' ⟨rfl, rfl⟩)
    go_ret
    exact ⟨by rw [E.out]; rfl, (Below.refl _ _).alloc (Nat.le_refl _) _⟩

theorem mayNum_29 (d a b n : Int) (b1 : -2147483648 ≤ n) (b2 : n ≤ 2147483647) (w : World) :
    Calls Try.prog 74 #[.agg #[.int .i64 2, .int .i64 29, .int .i64 d, .int .i64 a, .int .i64 b, .int .i32 n, .string ⟨#[]⟩]] w fun e w' => e = .returned (.bool (numOk 3 n)) ∧ Below w.heap.size w w' := by
  have E : (decide (-2048 ≤ n) && decide (n < 2048)) = numOk 3 n := by rw [Bool.eq_iff_iff]; simp [numOk]; omega
  have H := fun W => Lib.hid (fits_12 n b1 b2 W)
  rw [E] at H
  clear E
  go_enter Try.func74, Try.ntmps74
  go_wp2_with (refine (H _).out.mono ?_; rintro e w' ⟨rfl, rfl⟩)
  go_ret
  exact ⟨rfl, (Below.refl _ _).alloc (Nat.le_refl _) _⟩

theorem mayNum_30 (d a b n : Int) (b1 : -2147483648 ≤ n) (b2 : n ≤ 2147483647) (w : World) :
    Calls Try.prog 74 #[.agg #[.int .i64 2, .int .i64 30, .int .i64 d, .int .i64 a, .int .i64 b, .int .i32 n, .string ⟨#[]⟩]] w fun e w' => e = .returned (.bool (numOk 1 n)) ∧ Below w.heap.size w w' := by
  have E : (n == 0) = numOk 1 n := rfl
  go_enter Try.func74, Try.ntmps74
  go_wp2
  go_ret
  exact ⟨by rw [← E]; rfl, (Below.refl _ _).alloc (Nat.le_refl _) _⟩

theorem ops30 (op : Int) (h1 : 1 ≤ op) (h2 : op ≤ 30) : op = 1 ∨ op = 2 ∨ op = 3 ∨ op = 4 ∨ op = 5 ∨ op = 6 ∨ op = 7 ∨ op = 8 ∨ op = 9 ∨ op = 10 ∨ op = 11 ∨ op = 12 ∨ op = 13 ∨ op = 14 ∨ op = 15 ∨ op = 16 ∨ op = 17 ∨ op = 18 ∨ op = 19 ∨ op = 20 ∨ op = 21 ∨ op = 22 ∨ op = 23 ∨ op = 24 ∨ op = 25 ∨ op = 26 ∨ op = 27 ∨ op = 28 ∨ op = 29 ∨ op = 30 := by omega
theorem mayNum_any (op d a b n : Int) (h1 : 1 ≤ op) (h2 : op ≤ 30) (b1 : -2147483648 ≤ n) (b2 : n ≤ 2147483647) (w : World) :
    Calls Try.prog 74 #[.agg #[.int .i64 2, .int .i64 op, .int .i64 d, .int .i64 a, .int .i64 b, .int .i32 n, .string ⟨#[]⟩]] w fun e w' => e = .returned (.bool (numOk (formN op.toNat) n)) ∧ Below w.heap.size w w' := by
  rcases ops30 op h1 h2 with rfl | rfl | rfl | rfl | rfl | rfl | rfl | rfl | rfl | rfl | rfl | rfl | rfl | rfl | rfl | rfl | rfl | rfl | rfl | rfl | rfl | rfl | rfl | rfl | rfl | rfl | rfl | rfl | rfl | rfl
  · exact mayNum_1 d a b n b1 b2 w
  · exact mayNum_2 d a b n b1 b2 w
  · exact mayNum_3 d a b n b1 b2 w
  · exact mayNum_4 d a b n b1 b2 w
  · exact mayNum_5 d a b n b1 b2 w
  · exact mayNum_6 d a b n b1 b2 w
  · exact mayNum_7 d a b n b1 b2 w
  · exact mayNum_8 d a b n b1 b2 w
  · exact mayNum_9 d a b n b1 b2 w
  · exact mayNum_10 d a b n b1 b2 w
  · exact mayNum_11 d a b n b1 b2 w
  · exact mayNum_12 d a b n b1 b2 w
  · exact mayNum_13 d a b n b1 b2 w
  · exact mayNum_14 d a b n b1 b2 w
  · exact mayNum_15 d a b n b1 b2 w
  · exact mayNum_16 d a b n b1 b2 w
  · exact mayNum_17 d a b n b1 b2 w
  · exact mayNum_18 d a b n b1 b2 w
  · exact mayNum_19 d a b n b1 b2 w
  · exact mayNum_20 d a b n b1 b2 w
  · exact mayNum_21 d a b n b1 b2 w
  · exact mayNum_22 d a b n b1 b2 w
  · exact mayNum_23 d a b n b1 b2 w
  · exact mayNum_24 d a b n b1 b2 w
  · exact mayNum_25 d a b n b1 b2 w
  · exact mayNum_26 d a b n b1 b2 w
  · exact mayNum_27 d a b n b1 b2 w
  · exact mayNum_28 d a b n b1 b2 w
  · exact mayNum_29 d a b n b1 b2 w
  · exact mayNum_30 d a b n b1 b2 w

theorem maySym_any (op d a b n : Int) (w : World) :
    Calls Try.prog 75 #[.agg #[.int .i64 2, .int .i64 op, .int .i64 d, .int .i64 a, .int .i64 b, .int .i32 n, .string ⟨#[]⟩]] w fun e w' => e = .returned (.bool true) ∧ Below w.heap.size w w' := by
  by_cases h1 : op = 1
  · subst h1
    go_enter Try.func75, Try.ntmps75
    go_wp2
    go_ret
    exact ⟨rfl, (Below.refl _ _).alloc (Nat.le_refl _) _⟩
  · by_cases h2 : op = 2
    · subst h2
      go_enter Try.func75, Try.ntmps75
      go_wp2
      go_ret
      exact ⟨rfl, (Below.refl _ _).alloc (Nat.le_refl _) _⟩
    · by_cases h3 : op = 28
      · subst h3
        go_enter Try.func75, Try.ntmps75
        go_wp2
        go_ret
        exact ⟨rfl, (Below.refl _ _).alloc (Nat.le_refl _) _⟩
      · have e1 : (op == 1) = false := by simp [h1]
        have e2 : (op == 2) = false := by simp [h2]
        have e3 : (op == 28) = false := by simp [h3]
        go_enter Try.func75, Try.ntmps75
        go_wp2
        go_ret
        exact ⟨rfl, (Below.refl _ _).alloc (Nat.le_refl _) _⟩

theorem opsAt_nil (w : World) (A : Option Addr) : OpsAt w A [] := fun h => by cases h
theorem operands_any (op : Int) (h1 : 1 ≤ op) (h2 : op ≤ 30) (w : World) :
    Calls Try.prog 72 #[.int .i64 op] w fun e w' => ∃ (A : Option Addr) (n : Nat), e = .returned (.tuple #[.slice A n n, .bool true]) ∧ (opsL op).length = n ∧ n ≤ 3 ∧ OpsAt w' A (opsL op) ∧ Below w.heap.size w w' := by
  rcases ops30 op h1 h2 with rfl | rfl | rfl | rfl | rfl | rfl | rfl | rfl | rfl | rfl | rfl | rfl | rfl | rfl | rfl | rfl | rfl | rfl | rfl | rfl | rfl | rfl | rfl | rfl | rfl | rfl | rfl | rfl | rfl | rfl
  · exact (operands_1 w).mono fun e w' ⟨he, hw⟩ => ⟨_, 2, he, rfl, by decide, by rw [hw]; exact opsAt_new _ _ _ _ rfl, by rw [hw]; exact (Below.refl _ _).alloc (Nat.le_refl _) _⟩
  · exact (operands_2 w).mono fun e w' ⟨he, hw⟩ => ⟨_, 3, he, rfl, by decide, by rw [hw]; exact opsAt_new _ _ _ _ rfl, by rw [hw]; exact (Below.refl _ _).alloc (Nat.le_refl _) _⟩
  · exact (operands_3 w).mono fun e w' ⟨he, hw⟩ => ⟨_, 3, he, rfl, by decide, by rw [hw]; exact opsAt_new _ _ _ _ rfl, by rw [hw]; exact (Below.refl _ _).alloc (Nat.le_refl _) _⟩
  · exact (operands_4 w).mono fun e w' ⟨he, hw⟩ => ⟨_, 3, he, rfl, by decide, by rw [hw]; exact opsAt_new _ _ _ _ rfl, by rw [hw]; exact (Below.refl _ _).alloc (Nat.le_refl _) _⟩
  · exact (operands_5 w).mono fun e w' ⟨he, hw⟩ => ⟨_, 3, he, rfl, by decide, by rw [hw]; exact opsAt_new _ _ _ _ rfl, by rw [hw]; exact (Below.refl _ _).alloc (Nat.le_refl _) _⟩
  · exact (operands_6 w).mono fun e w' ⟨he, hw⟩ => ⟨_, 3, he, rfl, by decide, by rw [hw]; exact opsAt_new _ _ _ _ rfl, by rw [hw]; exact (Below.refl _ _).alloc (Nat.le_refl _) _⟩
  · exact (operands_7 w).mono fun e w' ⟨he, hw⟩ => ⟨_, 3, he, rfl, by decide, by rw [hw]; exact opsAt_new _ _ _ _ rfl, by rw [hw]; exact (Below.refl _ _).alloc (Nat.le_refl _) _⟩
  · exact (operands_8 w).mono fun e w' ⟨he, hw⟩ => ⟨_, 3, he, rfl, by decide, by rw [hw]; exact opsAt_new _ _ _ _ rfl, by rw [hw]; exact (Below.refl _ _).alloc (Nat.le_refl _) _⟩
  · exact (operands_9 w).mono fun e w' ⟨he, hw⟩ => ⟨_, 3, he, rfl, by decide, by rw [hw]; exact opsAt_new _ _ _ _ rfl, by rw [hw]; exact (Below.refl _ _).alloc (Nat.le_refl _) _⟩
  · exact (operands_10 w).mono fun e w' ⟨he, hw⟩ => ⟨_, 3, he, rfl, by decide, by rw [hw]; exact opsAt_new _ _ _ _ rfl, by rw [hw]; exact (Below.refl _ _).alloc (Nat.le_refl _) _⟩
  · exact (operands_11 w).mono fun e w' ⟨he, hw⟩ => ⟨_, 3, he, rfl, by decide, by rw [hw]; exact opsAt_new _ _ _ _ rfl, by rw [hw]; exact (Below.refl _ _).alloc (Nat.le_refl _) _⟩
  · exact (operands_12 w).mono fun e w' ⟨he, hw⟩ => ⟨_, 3, he, rfl, by decide, by rw [hw]; exact opsAt_new _ _ _ _ rfl, by rw [hw]; exact (Below.refl _ _).alloc (Nat.le_refl _) _⟩
  · exact (operands_13 w).mono fun e w' ⟨he, hw⟩ => ⟨_, 3, he, rfl, by decide, by rw [hw]; exact opsAt_new _ _ _ _ rfl, by rw [hw]; exact (Below.refl _ _).alloc (Nat.le_refl _) _⟩
  · exact (operands_14 w).mono fun e w' ⟨he, hw⟩ => ⟨_, 3, he, rfl, by decide, by rw [hw]; exact opsAt_new _ _ _ _ rfl, by rw [hw]; exact (Below.refl _ _).alloc (Nat.le_refl _) _⟩
  · exact (operands_15 w).mono fun e w' ⟨he, hw⟩ => ⟨_, 3, he, rfl, by decide, by rw [hw]; exact opsAt_new _ _ _ _ rfl, by rw [hw]; exact (Below.refl _ _).alloc (Nat.le_refl _) _⟩
  · exact (operands_16 w).mono fun e w' ⟨he, hw⟩ => ⟨_, 3, he, rfl, by decide, by rw [hw]; exact opsAt_new _ _ _ _ rfl, by rw [hw]; exact (Below.refl _ _).alloc (Nat.le_refl _) _⟩
  · exact (operands_17 w).mono fun e w' ⟨he, hw⟩ => ⟨_, 3, he, rfl, by decide, by rw [hw]; exact opsAt_new _ _ _ _ rfl, by rw [hw]; exact (Below.refl _ _).alloc (Nat.le_refl _) _⟩
  · exact (operands_18 w).mono fun e w' ⟨he, hw⟩ => ⟨_, 3, he, rfl, by decide, by rw [hw]; exact opsAt_new _ _ _ _ rfl, by rw [hw]; exact (Below.refl _ _).alloc (Nat.le_refl _) _⟩
  · exact (operands_19 w).mono fun e w' ⟨he, hw⟩ => ⟨_, 3, he, rfl, by decide, by rw [hw]; exact opsAt_new _ _ _ _ rfl, by rw [hw]; exact (Below.refl _ _).alloc (Nat.le_refl _) _⟩
  · exact (operands_20 w).mono fun e w' ⟨he, hw⟩ => ⟨_, 3, he, rfl, by decide, by rw [hw]; exact opsAt_new _ _ _ _ rfl, by rw [hw]; exact (Below.refl _ _).alloc (Nat.le_refl _) _⟩
  · exact (operands_21 w).mono fun e w' ⟨he, hw⟩ => ⟨_, 3, he, rfl, by decide, by rw [hw]; exact opsAt_new _ _ _ _ rfl, by rw [hw]; exact (Below.refl _ _).alloc (Nat.le_refl _) _⟩
  · exact (operands_22 w).mono fun e w' ⟨he, hw⟩ => ⟨_, 3, he, rfl, by decide, by rw [hw]; exact opsAt_new _ _ _ _ rfl, by rw [hw]; exact (Below.refl _ _).alloc (Nat.le_refl _) _⟩
  · exact (operands_23 w).mono fun e w' ⟨he, hw⟩ => ⟨_, 3, he, rfl, by decide, by rw [hw]; exact opsAt_new _ _ _ _ rfl, by rw [hw]; exact (Below.refl _ _).alloc (Nat.le_refl _) _⟩
  · exact (operands_24 w).mono fun e w' ⟨he, hw⟩ => ⟨_, 2, he, rfl, by decide, by rw [hw]; exact opsAt_new _ _ _ _ rfl, by rw [hw]; exact (Below.refl _ _).alloc (Nat.le_refl _) _⟩
  · exact (operands_25 w).mono fun e w' ⟨he, hw⟩ => ⟨_, 2, he, rfl, by decide, by rw [hw]; exact opsAt_new _ _ _ _ rfl, by rw [hw]; exact (Below.refl _ _).alloc (Nat.le_refl _) _⟩
  · exact (operands_26 w).mono fun e w' ⟨he, hw⟩ => ⟨_, 3, he, rfl, by decide, by rw [hw]; exact opsAt_new _ _ _ _ rfl, by rw [hw]; exact (Below.refl _ _).alloc (Nat.le_refl _) _⟩
  · exact (operands_27 w).mono fun e w' ⟨he, hw⟩ => ⟨_, 3, he, rfl, by decide, by rw [hw]; exact opsAt_new _ _ _ _ rfl, by rw [hw]; exact (Below.refl _ _).alloc (Nat.le_refl _) _⟩
  · exact (operands_28 w).mono fun e w' ⟨he, hw⟩ => ⟨_, 2, he, rfl, by decide, by rw [hw]; exact opsAt_new _ _ _ _ rfl, by rw [hw]; exact (Below.refl _ _).alloc (Nat.le_refl _) _⟩
  · exact (operands_29 w).mono fun e w' ⟨he, hw⟩ => ⟨_, 2, he, rfl, by decide, by rw [hw]; exact opsAt_new _ _ _ _ rfl, by rw [hw]; exact (Below.refl _ _).alloc (Nat.le_refl _) _⟩
  · exact (operands_30 w).mono fun e w' ⟨he, hw⟩ => ⟨_, 0, he, rfl, by decide, opsAt_nil _ _, by rw [hw]; exact Below.refl _ _⟩

theorem has_ops (op : Int) (h1 : 1 ≤ op) (h2 : op ≤ 30) : hasL (opsL op) 0 = hasDN (formN op.toNat) ∧ (hasL (opsL op) 1 || hasL (opsL op) 4) = hasAN (formN op.toNat) ∧ hasL (opsL op) 2 = hasBN (formN op.toNat) := by
  rcases ops30 op h1 h2 with rfl | rfl | rfl | rfl | rfl | rfl | rfl | rfl | rfl | rfl | rfl | rfl | rfl | rfl | rfl | rfl | rfl | rfl | rfl | rfl | rfl | rfl | rfl | rfl | rfl | rfl | rfl | rfl | rfl | rfl <;> exact ⟨by decide, by decide, by decide⟩

end Go.Proofs.Ytadgemcpahfkoaa
