/-
  Contract of riscv.Step.
-/
import Derived.Test.YtadgemcpahfkoaaRva
import Derived.Below
import Derived.RegionTactic
import Derived.ChangeAlike
namespace Go.Proofs.Ytadgemcpahfkoaa
open Go.RowKit
set_option linter.unusedVariables false
set_option linter.unusedSimpArgs false
set_option maxRecDepth 100000
namespace Rv
open WordBins
theorem below_drewN1 {B : Nat} {a w : World} (h : Below B a w) (n : Nat) : Below B a (w.drewN n) := ⟨h.os, h.tape, h.output, h.size, h.block⟩

/-- What an instruction makes of two words, and where it goes on. -/
def stepI (op n a b pc : Int) : Int × Int :=
  if op = 1 then (wrap32 (n * 4096), wrap32 (pc + 4))
  else if op = 26 then (0, if a = b then wrap32 (pc + n) else wrap32 (pc + 4))
  else if op = 27 then (0, if a = b then wrap32 (pc + 4) else wrap32 (pc + n))
  else if op = 28 then (wrap32 (pc + 4), wrap32 (pc + n))
  else if op = 29 then (wrap32 (pc + 4), bits .andNot .i32 (wrap32 (a + n)) 1)
  else if op ≤ 10 then (reckI op a n, wrap32 (pc + 4))
  else (reckI op a b, wrap32 (pc + 4))

theorem step_1 (d r1 r2 n a b pc : Int) (s : ByteArray) (w : World) :
    Calls Try.prog 16 #[.agg #[.int .i64 2, .int .i64 1, .int .i64 d, .int .i64 r1, .int .i64 r2, .int .i32 n, .string s], .int .i32 a, .int .i32 b, .int .i32 pc] w fun e w' => e = .returned (.tuple #[.int .i32 (stepI 1 n a b pc).1, .int .i32 (stepI 1 n a b pc).2]) ∧ Below w.heap.size w w' := by
  go_enter Try.func16, Try.ntmps16
  go_wp2_with first
    | (go_at_call 37; refine (branched_any _ _ _ _ _ _ _ _ _ _).mono ?_; rintro e w' ⟨rfl, o, rfl⟩)
    | (go_at_call 38; refine (reckoned_any _ (by omega) (by omega) _ _ _).mono ?_; rintro e w' ⟨rfl, rfl⟩)
  all_goals
    go_ret2
    first
      | exact ⟨rfl, by first | exact (Below.refl _ _).alloc (Nat.le_refl _) _ | exact below_drewN1 ((Below.refl _ _).alloc (Nat.le_refl _) _) _ | exact ((Below.refl _ _).alloc (Nat.le_refl _) _).alloc (by simp) _⟩
      | exact ⟨Eq.trans (b := Ending.returned (.tuple #[.int .i32 0, .int .i32 (wrap32 (pc + n))])) rfl (by simp [stepI, *]), by first | exact (Below.refl _ _).alloc (Nat.le_refl _) _ | exact below_drewN1 ((Below.refl _ _).alloc (Nat.le_refl _) _) _ | exact ((Below.refl _ _).alloc (Nat.le_refl _) _).alloc (by simp) _⟩
      | exact ⟨Eq.trans (b := Ending.returned (.tuple #[.int .i32 0, .int .i32 (wrap32 (pc + 4))])) rfl (by simp [stepI, *]), by first | exact (Below.refl _ _).alloc (Nat.le_refl _) _ | exact below_drewN1 ((Below.refl _ _).alloc (Nat.le_refl _) _) _ | exact ((Below.refl _ _).alloc (Nat.le_refl _) _).alloc (by simp) _⟩
theorem step_2 (d r1 r2 n a b pc : Int) (s : ByteArray) (w : World) :
    Calls Try.prog 16 #[.agg #[.int .i64 2, .int .i64 2, .int .i64 d, .int .i64 r1, .int .i64 r2, .int .i32 n, .string s], .int .i32 a, .int .i32 b, .int .i32 pc] w fun e w' => e = .returned (.tuple #[.int .i32 (stepI 2 n a b pc).1, .int .i32 (stepI 2 n a b pc).2]) ∧ Below w.heap.size w w' := by
  go_enter Try.func16, Try.ntmps16
  go_wp2_with first
    | (go_at_call 37; refine (branched_any _ _ _ _ _ _ _ _ _ _).mono ?_; rintro e w' ⟨rfl, o, rfl⟩)
    | (go_at_call 38; refine (reckoned_any _ (by omega) (by omega) _ _ _).mono ?_; rintro e w' ⟨rfl, rfl⟩)
  all_goals
    go_ret2
    first
      | exact ⟨rfl, by first | exact (Below.refl _ _).alloc (Nat.le_refl _) _ | exact below_drewN1 ((Below.refl _ _).alloc (Nat.le_refl _) _) _ | exact ((Below.refl _ _).alloc (Nat.le_refl _) _).alloc (by simp) _⟩
      | exact ⟨Eq.trans (b := Ending.returned (.tuple #[.int .i32 0, .int .i32 (wrap32 (pc + n))])) rfl (by simp [stepI, *]), by first | exact (Below.refl _ _).alloc (Nat.le_refl _) _ | exact below_drewN1 ((Below.refl _ _).alloc (Nat.le_refl _) _) _ | exact ((Below.refl _ _).alloc (Nat.le_refl _) _).alloc (by simp) _⟩
      | exact ⟨Eq.trans (b := Ending.returned (.tuple #[.int .i32 0, .int .i32 (wrap32 (pc + 4))])) rfl (by simp [stepI, *]), by first | exact (Below.refl _ _).alloc (Nat.le_refl _) _ | exact below_drewN1 ((Below.refl _ _).alloc (Nat.le_refl _) _) _ | exact ((Below.refl _ _).alloc (Nat.le_refl _) _).alloc (by simp) _⟩
theorem step_3 (d r1 r2 n a b pc : Int) (s : ByteArray) (w : World) :
    Calls Try.prog 16 #[.agg #[.int .i64 2, .int .i64 3, .int .i64 d, .int .i64 r1, .int .i64 r2, .int .i32 n, .string s], .int .i32 a, .int .i32 b, .int .i32 pc] w fun e w' => e = .returned (.tuple #[.int .i32 (stepI 3 n a b pc).1, .int .i32 (stepI 3 n a b pc).2]) ∧ Below w.heap.size w w' := by
  go_enter Try.func16, Try.ntmps16
  go_wp2_with first
    | (go_at_call 37; refine (branched_any _ _ _ _ _ _ _ _ _ _).mono ?_; rintro e w' ⟨rfl, o, rfl⟩)
    | (go_at_call 38; refine (reckoned_any _ (by omega) (by omega) _ _ _).mono ?_; rintro e w' ⟨rfl, rfl⟩)
  all_goals
    go_ret2
    first
      | exact ⟨rfl, by first | exact (Below.refl _ _).alloc (Nat.le_refl _) _ | exact below_drewN1 ((Below.refl _ _).alloc (Nat.le_refl _) _) _ | exact ((Below.refl _ _).alloc (Nat.le_refl _) _).alloc (by simp) _⟩
      | exact ⟨Eq.trans (b := Ending.returned (.tuple #[.int .i32 0, .int .i32 (wrap32 (pc + n))])) rfl (by simp [stepI, *]), by first | exact (Below.refl _ _).alloc (Nat.le_refl _) _ | exact below_drewN1 ((Below.refl _ _).alloc (Nat.le_refl _) _) _ | exact ((Below.refl _ _).alloc (Nat.le_refl _) _).alloc (by simp) _⟩
      | exact ⟨Eq.trans (b := Ending.returned (.tuple #[.int .i32 0, .int .i32 (wrap32 (pc + 4))])) rfl (by simp [stepI, *]), by first | exact (Below.refl _ _).alloc (Nat.le_refl _) _ | exact below_drewN1 ((Below.refl _ _).alloc (Nat.le_refl _) _) _ | exact ((Below.refl _ _).alloc (Nat.le_refl _) _).alloc (by simp) _⟩
theorem step_4 (d r1 r2 n a b pc : Int) (s : ByteArray) (w : World) :
    Calls Try.prog 16 #[.agg #[.int .i64 2, .int .i64 4, .int .i64 d, .int .i64 r1, .int .i64 r2, .int .i32 n, .string s], .int .i32 a, .int .i32 b, .int .i32 pc] w fun e w' => e = .returned (.tuple #[.int .i32 (stepI 4 n a b pc).1, .int .i32 (stepI 4 n a b pc).2]) ∧ Below w.heap.size w w' := by
  go_enter Try.func16, Try.ntmps16
  go_wp2_with first
    | (go_at_call 37; refine (branched_any _ _ _ _ _ _ _ _ _ _).mono ?_; rintro e w' ⟨rfl, o, rfl⟩)
    | (go_at_call 38; refine (reckoned_any _ (by omega) (by omega) _ _ _).mono ?_; rintro e w' ⟨rfl, rfl⟩)
  all_goals
    go_ret2
    first
      | exact ⟨rfl, by first | exact (Below.refl _ _).alloc (Nat.le_refl _) _ | exact below_drewN1 ((Below.refl _ _).alloc (Nat.le_refl _) _) _ | exact ((Below.refl _ _).alloc (Nat.le_refl _) _).alloc (by simp) _⟩
      | exact ⟨Eq.trans (b := Ending.returned (.tuple #[.int .i32 0, .int .i32 (wrap32 (pc + n))])) rfl (by simp [stepI, *]), by first | exact (Below.refl _ _).alloc (Nat.le_refl _) _ | exact below_drewN1 ((Below.refl _ _).alloc (Nat.le_refl _) _) _ | exact ((Below.refl _ _).alloc (Nat.le_refl _) _).alloc (by simp) _⟩
      | exact ⟨Eq.trans (b := Ending.returned (.tuple #[.int .i32 0, .int .i32 (wrap32 (pc + 4))])) rfl (by simp [stepI, *]), by first | exact (Below.refl _ _).alloc (Nat.le_refl _) _ | exact below_drewN1 ((Below.refl _ _).alloc (Nat.le_refl _) _) _ | exact ((Below.refl _ _).alloc (Nat.le_refl _) _).alloc (by simp) _⟩
theorem step_5 (d r1 r2 n a b pc : Int) (s : ByteArray) (w : World) :
    Calls Try.prog 16 #[.agg #[.int .i64 2, .int .i64 5, .int .i64 d, .int .i64 r1, .int .i64 r2, .int .i32 n, .string s], .int .i32 a, .int .i32 b, .int .i32 pc] w fun e w' => e = .returned (.tuple #[.int .i32 (stepI 5 n a b pc).1, .int .i32 (stepI 5 n a b pc).2]) ∧ Below w.heap.size w w' := by
  go_enter Try.func16, Try.ntmps16
  go_wp2_with first
    | (go_at_call 37; refine (branched_any _ _ _ _ _ _ _ _ _ _).mono ?_; rintro e w' ⟨rfl, o, rfl⟩)
    | (go_at_call 38; refine (reckoned_any _ (by omega) (by omega) _ _ _).mono ?_; rintro e w' ⟨rfl, rfl⟩)
  all_goals
    go_ret2
    first
      | exact ⟨rfl, by first | exact (Below.refl _ _).alloc (Nat.le_refl _) _ | exact below_drewN1 ((Below.refl _ _).alloc (Nat.le_refl _) _) _ | exact ((Below.refl _ _).alloc (Nat.le_refl _) _).alloc (by simp) _⟩
      | exact ⟨Eq.trans (b := Ending.returned (.tuple #[.int .i32 0, .int .i32 (wrap32 (pc + n))])) rfl (by simp [stepI, *]), by first | exact (Below.refl _ _).alloc (Nat.le_refl _) _ | exact below_drewN1 ((Below.refl _ _).alloc (Nat.le_refl _) _) _ | exact ((Below.refl _ _).alloc (Nat.le_refl _) _).alloc (by simp) _⟩
      | exact ⟨Eq.trans (b := Ending.returned (.tuple #[.int .i32 0, .int .i32 (wrap32 (pc + 4))])) rfl (by simp [stepI, *]), by first | exact (Below.refl _ _).alloc (Nat.le_refl _) _ | exact below_drewN1 ((Below.refl _ _).alloc (Nat.le_refl _) _) _ | exact ((Below.refl _ _).alloc (Nat.le_refl _) _).alloc (by simp) _⟩
theorem step_6 (d r1 r2 n a b pc : Int) (s : ByteArray) (w : World) :
    Calls Try.prog 16 #[.agg #[.int .i64 2, .int .i64 6, .int .i64 d, .int .i64 r1, .int .i64 r2, .int .i32 n, .string s], .int .i32 a, .int .i32 b, .int .i32 pc] w fun e w' => e = .returned (.tuple #[.int .i32 (stepI 6 n a b pc).1, .int .i32 (stepI 6 n a b pc).2]) ∧ Below w.heap.size w w' := by
  go_enter Try.func16, Try.ntmps16
  go_wp2_with first
    | (go_at_call 37; refine (branched_any _ _ _ _ _ _ _ _ _ _).mono ?_; rintro e w' ⟨rfl, o, rfl⟩)
    | (go_at_call 38; refine (reckoned_any _ (by omega) (by omega) _ _ _).mono ?_; rintro e w' ⟨rfl, rfl⟩)
  all_goals
    go_ret2
    first
      | exact ⟨rfl, by first | exact (Below.refl _ _).alloc (Nat.le_refl _) _ | exact below_drewN1 ((Below.refl _ _).alloc (Nat.le_refl _) _) _ | exact ((Below.refl _ _).alloc (Nat.le_refl _) _).alloc (by simp) _⟩
      | exact ⟨Eq.trans (b := Ending.returned (.tuple #[.int .i32 0, .int .i32 (wrap32 (pc + n))])) rfl (by simp [stepI, *]), by first | exact (Below.refl _ _).alloc (Nat.le_refl _) _ | exact below_drewN1 ((Below.refl _ _).alloc (Nat.le_refl _) _) _ | exact ((Below.refl _ _).alloc (Nat.le_refl _) _).alloc (by simp) _⟩
      | exact ⟨Eq.trans (b := Ending.returned (.tuple #[.int .i32 0, .int .i32 (wrap32 (pc + 4))])) rfl (by simp [stepI, *]), by first | exact (Below.refl _ _).alloc (Nat.le_refl _) _ | exact below_drewN1 ((Below.refl _ _).alloc (Nat.le_refl _) _) _ | exact ((Below.refl _ _).alloc (Nat.le_refl _) _).alloc (by simp) _⟩
theorem step_7 (d r1 r2 n a b pc : Int) (s : ByteArray) (w : World) :
    Calls Try.prog 16 #[.agg #[.int .i64 2, .int .i64 7, .int .i64 d, .int .i64 r1, .int .i64 r2, .int .i32 n, .string s], .int .i32 a, .int .i32 b, .int .i32 pc] w fun e w' => e = .returned (.tuple #[.int .i32 (stepI 7 n a b pc).1, .int .i32 (stepI 7 n a b pc).2]) ∧ Below w.heap.size w w' := by
  go_enter Try.func16, Try.ntmps16
  go_wp2_with first
    | (go_at_call 37; refine (branched_any _ _ _ _ _ _ _ _ _ _).mono ?_; rintro e w' ⟨rfl, o, rfl⟩)
    | (go_at_call 38; refine (reckoned_any _ (by omega) (by omega) _ _ _).mono ?_; rintro e w' ⟨rfl, rfl⟩)
  all_goals
    go_ret2
    first
      | exact ⟨rfl, by first | exact (Below.refl _ _).alloc (Nat.le_refl _) _ | exact below_drewN1 ((Below.refl _ _).alloc (Nat.le_refl _) _) _ | exact ((Below.refl _ _).alloc (Nat.le_refl _) _).alloc (by simp) _⟩
      | exact ⟨Eq.trans (b := Ending.returned (.tuple #[.int .i32 0, .int .i32 (wrap32 (pc + n))])) rfl (by simp [stepI, *]), by first | exact (Below.refl _ _).alloc (Nat.le_refl _) _ | exact below_drewN1 ((Below.refl _ _).alloc (Nat.le_refl _) _) _ | exact ((Below.refl _ _).alloc (Nat.le_refl _) _).alloc (by simp) _⟩
      | exact ⟨Eq.trans (b := Ending.returned (.tuple #[.int .i32 0, .int .i32 (wrap32 (pc + 4))])) rfl (by simp [stepI, *]), by first | exact (Below.refl _ _).alloc (Nat.le_refl _) _ | exact below_drewN1 ((Below.refl _ _).alloc (Nat.le_refl _) _) _ | exact ((Below.refl _ _).alloc (Nat.le_refl _) _).alloc (by simp) _⟩
theorem step_8 (d r1 r2 n a b pc : Int) (s : ByteArray) (w : World) :
    Calls Try.prog 16 #[.agg #[.int .i64 2, .int .i64 8, .int .i64 d, .int .i64 r1, .int .i64 r2, .int .i32 n, .string s], .int .i32 a, .int .i32 b, .int .i32 pc] w fun e w' => e = .returned (.tuple #[.int .i32 (stepI 8 n a b pc).1, .int .i32 (stepI 8 n a b pc).2]) ∧ Below w.heap.size w w' := by
  go_enter Try.func16, Try.ntmps16
  go_wp2_with first
    | (go_at_call 37; refine (branched_any _ _ _ _ _ _ _ _ _ _).mono ?_; rintro e w' ⟨rfl, o, rfl⟩)
    | (go_at_call 38; refine (reckoned_any _ (by omega) (by omega) _ _ _).mono ?_; rintro e w' ⟨rfl, rfl⟩)
  all_goals
    go_ret2
    first
      | exact ⟨rfl, by first | exact (Below.refl _ _).alloc (Nat.le_refl _) _ | exact below_drewN1 ((Below.refl _ _).alloc (Nat.le_refl _) _) _ | exact ((Below.refl _ _).alloc (Nat.le_refl _) _).alloc (by simp) _⟩
      | exact ⟨Eq.trans (b := Ending.returned (.tuple #[.int .i32 0, .int .i32 (wrap32 (pc + n))])) rfl (by simp [stepI, *]), by first | exact (Below.refl _ _).alloc (Nat.le_refl _) _ | exact below_drewN1 ((Below.refl _ _).alloc (Nat.le_refl _) _) _ | exact ((Below.refl _ _).alloc (Nat.le_refl _) _).alloc (by simp) _⟩
      | exact ⟨Eq.trans (b := Ending.returned (.tuple #[.int .i32 0, .int .i32 (wrap32 (pc + 4))])) rfl (by simp [stepI, *]), by first | exact (Below.refl _ _).alloc (Nat.le_refl _) _ | exact below_drewN1 ((Below.refl _ _).alloc (Nat.le_refl _) _) _ | exact ((Below.refl _ _).alloc (Nat.le_refl _) _).alloc (by simp) _⟩
theorem step_9 (d r1 r2 n a b pc : Int) (s : ByteArray) (w : World) :
    Calls Try.prog 16 #[.agg #[.int .i64 2, .int .i64 9, .int .i64 d, .int .i64 r1, .int .i64 r2, .int .i32 n, .string s], .int .i32 a, .int .i32 b, .int .i32 pc] w fun e w' => e = .returned (.tuple #[.int .i32 (stepI 9 n a b pc).1, .int .i32 (stepI 9 n a b pc).2]) ∧ Below w.heap.size w w' := by
  go_enter Try.func16, Try.ntmps16
  go_wp2_with first
    | (go_at_call 37; refine (branched_any _ _ _ _ _ _ _ _ _ _).mono ?_; rintro e w' ⟨rfl, o, rfl⟩)
    | (go_at_call 38; refine (reckoned_any _ (by omega) (by omega) _ _ _).mono ?_; rintro e w' ⟨rfl, rfl⟩)
  all_goals
    go_ret2
    first
      | exact ⟨rfl, by first | exact (Below.refl _ _).alloc (Nat.le_refl _) _ | exact below_drewN1 ((Below.refl _ _).alloc (Nat.le_refl _) _) _ | exact ((Below.refl _ _).alloc (Nat.le_refl _) _).alloc (by simp) _⟩
      | exact ⟨Eq.trans (b := Ending.returned (.tuple #[.int .i32 0, .int .i32 (wrap32 (pc + n))])) rfl (by simp [stepI, *]), by first | exact (Below.refl _ _).alloc (Nat.le_refl _) _ | exact below_drewN1 ((Below.refl _ _).alloc (Nat.le_refl _) _) _ | exact ((Below.refl _ _).alloc (Nat.le_refl _) _).alloc (by simp) _⟩
      | exact ⟨Eq.trans (b := Ending.returned (.tuple #[.int .i32 0, .int .i32 (wrap32 (pc + 4))])) rfl (by simp [stepI, *]), by first | exact (Below.refl _ _).alloc (Nat.le_refl _) _ | exact below_drewN1 ((Below.refl _ _).alloc (Nat.le_refl _) _) _ | exact ((Below.refl _ _).alloc (Nat.le_refl _) _).alloc (by simp) _⟩
theorem step_10 (d r1 r2 n a b pc : Int) (s : ByteArray) (w : World) :
    Calls Try.prog 16 #[.agg #[.int .i64 2, .int .i64 10, .int .i64 d, .int .i64 r1, .int .i64 r2, .int .i32 n, .string s], .int .i32 a, .int .i32 b, .int .i32 pc] w fun e w' => e = .returned (.tuple #[.int .i32 (stepI 10 n a b pc).1, .int .i32 (stepI 10 n a b pc).2]) ∧ Below w.heap.size w w' := by
  go_enter Try.func16, Try.ntmps16
  go_wp2_with first
    | (go_at_call 37; refine (branched_any _ _ _ _ _ _ _ _ _ _).mono ?_; rintro e w' ⟨rfl, o, rfl⟩)
    | (go_at_call 38; refine (reckoned_any _ (by omega) (by omega) _ _ _).mono ?_; rintro e w' ⟨rfl, rfl⟩)
  all_goals
    go_ret2
    first
      | exact ⟨rfl, by first | exact (Below.refl _ _).alloc (Nat.le_refl _) _ | exact below_drewN1 ((Below.refl _ _).alloc (Nat.le_refl _) _) _ | exact ((Below.refl _ _).alloc (Nat.le_refl _) _).alloc (by simp) _⟩
      | exact ⟨Eq.trans (b := Ending.returned (.tuple #[.int .i32 0, .int .i32 (wrap32 (pc + n))])) rfl (by simp [stepI, *]), by first | exact (Below.refl _ _).alloc (Nat.le_refl _) _ | exact below_drewN1 ((Below.refl _ _).alloc (Nat.le_refl _) _) _ | exact ((Below.refl _ _).alloc (Nat.le_refl _) _).alloc (by simp) _⟩
      | exact ⟨Eq.trans (b := Ending.returned (.tuple #[.int .i32 0, .int .i32 (wrap32 (pc + 4))])) rfl (by simp [stepI, *]), by first | exact (Below.refl _ _).alloc (Nat.le_refl _) _ | exact below_drewN1 ((Below.refl _ _).alloc (Nat.le_refl _) _) _ | exact ((Below.refl _ _).alloc (Nat.le_refl _) _).alloc (by simp) _⟩
theorem step_11 (d r1 r2 n a b pc : Int) (s : ByteArray) (w : World) :
    Calls Try.prog 16 #[.agg #[.int .i64 2, .int .i64 11, .int .i64 d, .int .i64 r1, .int .i64 r2, .int .i32 n, .string s], .int .i32 a, .int .i32 b, .int .i32 pc] w fun e w' => e = .returned (.tuple #[.int .i32 (stepI 11 n a b pc).1, .int .i32 (stepI 11 n a b pc).2]) ∧ Below w.heap.size w w' := by
  go_enter Try.func16, Try.ntmps16
  go_wp2_with first
    | (go_at_call 37; refine (branched_any _ _ _ _ _ _ _ _ _ _).mono ?_; rintro e w' ⟨rfl, o, rfl⟩)
    | (go_at_call 38; refine (reckoned_any _ (by omega) (by omega) _ _ _).mono ?_; rintro e w' ⟨rfl, rfl⟩)
  all_goals
    go_ret2
    first
      | exact ⟨rfl, by first | exact (Below.refl _ _).alloc (Nat.le_refl _) _ | exact below_drewN1 ((Below.refl _ _).alloc (Nat.le_refl _) _) _ | exact ((Below.refl _ _).alloc (Nat.le_refl _) _).alloc (by simp) _⟩
      | exact ⟨Eq.trans (b := Ending.returned (.tuple #[.int .i32 0, .int .i32 (wrap32 (pc + n))])) rfl (by simp [stepI, *]), by first | exact (Below.refl _ _).alloc (Nat.le_refl _) _ | exact below_drewN1 ((Below.refl _ _).alloc (Nat.le_refl _) _) _ | exact ((Below.refl _ _).alloc (Nat.le_refl _) _).alloc (by simp) _⟩
      | exact ⟨Eq.trans (b := Ending.returned (.tuple #[.int .i32 0, .int .i32 (wrap32 (pc + 4))])) rfl (by simp [stepI, *]), by first | exact (Below.refl _ _).alloc (Nat.le_refl _) _ | exact below_drewN1 ((Below.refl _ _).alloc (Nat.le_refl _) _) _ | exact ((Below.refl _ _).alloc (Nat.le_refl _) _).alloc (by simp) _⟩
theorem step_12 (d r1 r2 n a b pc : Int) (s : ByteArray) (w : World) :
    Calls Try.prog 16 #[.agg #[.int .i64 2, .int .i64 12, .int .i64 d, .int .i64 r1, .int .i64 r2, .int .i32 n, .string s], .int .i32 a, .int .i32 b, .int .i32 pc] w fun e w' => e = .returned (.tuple #[.int .i32 (stepI 12 n a b pc).1, .int .i32 (stepI 12 n a b pc).2]) ∧ Below w.heap.size w w' := by
  go_enter Try.func16, Try.ntmps16
  go_wp2_with first
    | (go_at_call 37; refine (branched_any _ _ _ _ _ _ _ _ _ _).mono ?_; rintro e w' ⟨rfl, o, rfl⟩)
    | (go_at_call 38; refine (reckoned_any _ (by omega) (by omega) _ _ _).mono ?_; rintro e w' ⟨rfl, rfl⟩)
  all_goals
    go_ret2
    first
      | exact ⟨rfl, by first | exact (Below.refl _ _).alloc (Nat.le_refl _) _ | exact below_drewN1 ((Below.refl _ _).alloc (Nat.le_refl _) _) _ | exact ((Below.refl _ _).alloc (Nat.le_refl _) _).alloc (by simp) _⟩
      | exact ⟨Eq.trans (b := Ending.returned (.tuple #[.int .i32 0, .int .i32 (wrap32 (pc + n))])) rfl (by simp [stepI, *]), by first | exact (Below.refl _ _).alloc (Nat.le_refl _) _ | exact below_drewN1 ((Below.refl _ _).alloc (Nat.le_refl _) _) _ | exact ((Below.refl _ _).alloc (Nat.le_refl _) _).alloc (by simp) _⟩
      | exact ⟨Eq.trans (b := Ending.returned (.tuple #[.int .i32 0, .int .i32 (wrap32 (pc + 4))])) rfl (by simp [stepI, *]), by first | exact (Below.refl _ _).alloc (Nat.le_refl _) _ | exact below_drewN1 ((Below.refl _ _).alloc (Nat.le_refl _) _) _ | exact ((Below.refl _ _).alloc (Nat.le_refl _) _).alloc (by simp) _⟩
theorem step_13 (d r1 r2 n a b pc : Int) (s : ByteArray) (w : World) :
    Calls Try.prog 16 #[.agg #[.int .i64 2, .int .i64 13, .int .i64 d, .int .i64 r1, .int .i64 r2, .int .i32 n, .string s], .int .i32 a, .int .i32 b, .int .i32 pc] w fun e w' => e = .returned (.tuple #[.int .i32 (stepI 13 n a b pc).1, .int .i32 (stepI 13 n a b pc).2]) ∧ Below w.heap.size w w' := by
  go_enter Try.func16, Try.ntmps16
  go_wp2_with first
    | (go_at_call 37; refine (branched_any _ _ _ _ _ _ _ _ _ _).mono ?_; rintro e w' ⟨rfl, o, rfl⟩)
    | (go_at_call 38; refine (reckoned_any _ (by omega) (by omega) _ _ _).mono ?_; rintro e w' ⟨rfl, rfl⟩)
  all_goals
    go_ret2
    first
      | exact ⟨rfl, by first | exact (Below.refl _ _).alloc (Nat.le_refl _) _ | exact below_drewN1 ((Below.refl _ _).alloc (Nat.le_refl _) _) _ | exact ((Below.refl _ _).alloc (Nat.le_refl _) _).alloc (by simp) _⟩
      | exact ⟨Eq.trans (b := Ending.returned (.tuple #[.int .i32 0, .int .i32 (wrap32 (pc + n))])) rfl (by simp [stepI, *]), by first | exact (Below.refl _ _).alloc (Nat.le_refl _) _ | exact below_drewN1 ((Below.refl _ _).alloc (Nat.le_refl _) _) _ | exact ((Below.refl _ _).alloc (Nat.le_refl _) _).alloc (by simp) _⟩
      | exact ⟨Eq.trans (b := Ending.returned (.tuple #[.int .i32 0, .int .i32 (wrap32 (pc + 4))])) rfl (by simp [stepI, *]), by first | exact (Below.refl _ _).alloc (Nat.le_refl _) _ | exact below_drewN1 ((Below.refl _ _).alloc (Nat.le_refl _) _) _ | exact ((Below.refl _ _).alloc (Nat.le_refl _) _).alloc (by simp) _⟩
theorem step_14 (d r1 r2 n a b pc : Int) (s : ByteArray) (w : World) :
    Calls Try.prog 16 #[.agg #[.int .i64 2, .int .i64 14, .int .i64 d, .int .i64 r1, .int .i64 r2, .int .i32 n, .string s], .int .i32 a, .int .i32 b, .int .i32 pc] w fun e w' => e = .returned (.tuple #[.int .i32 (stepI 14 n a b pc).1, .int .i32 (stepI 14 n a b pc).2]) ∧ Below w.heap.size w w' := by
  go_enter Try.func16, Try.ntmps16
  go_wp2_with first
    | (go_at_call 37; refine (branched_any _ _ _ _ _ _ _ _ _ _).mono ?_; rintro e w' ⟨rfl, o, rfl⟩)
    | (go_at_call 38; refine (reckoned_any _ (by omega) (by omega) _ _ _).mono ?_; rintro e w' ⟨rfl, rfl⟩)
  all_goals
    go_ret2
    first
      | exact ⟨rfl, by first | exact (Below.refl _ _).alloc (Nat.le_refl _) _ | exact below_drewN1 ((Below.refl _ _).alloc (Nat.le_refl _) _) _ | exact ((Below.refl _ _).alloc (Nat.le_refl _) _).alloc (by simp) _⟩
      | exact ⟨Eq.trans (b := Ending.returned (.tuple #[.int .i32 0, .int .i32 (wrap32 (pc + n))])) rfl (by simp [stepI, *]), by first | exact (Below.refl _ _).alloc (Nat.le_refl _) _ | exact below_drewN1 ((Below.refl _ _).alloc (Nat.le_refl _) _) _ | exact ((Below.refl _ _).alloc (Nat.le_refl _) _).alloc (by simp) _⟩
      | exact ⟨Eq.trans (b := Ending.returned (.tuple #[.int .i32 0, .int .i32 (wrap32 (pc + 4))])) rfl (by simp [stepI, *]), by first | exact (Below.refl _ _).alloc (Nat.le_refl _) _ | exact below_drewN1 ((Below.refl _ _).alloc (Nat.le_refl _) _) _ | exact ((Below.refl _ _).alloc (Nat.le_refl _) _).alloc (by simp) _⟩
theorem step_15 (d r1 r2 n a b pc : Int) (s : ByteArray) (w : World) :
    Calls Try.prog 16 #[.agg #[.int .i64 2, .int .i64 15, .int .i64 d, .int .i64 r1, .int .i64 r2, .int .i32 n, .string s], .int .i32 a, .int .i32 b, .int .i32 pc] w fun e w' => e = .returned (.tuple #[.int .i32 (stepI 15 n a b pc).1, .int .i32 (stepI 15 n a b pc).2]) ∧ Below w.heap.size w w' := by
  go_enter Try.func16, Try.ntmps16
  go_wp2_with first
    | (go_at_call 37; refine (branched_any _ _ _ _ _ _ _ _ _ _).mono ?_; rintro e w' ⟨rfl, o, rfl⟩)
    | (go_at_call 38; refine (reckoned_any _ (by omega) (by omega) _ _ _).mono ?_; rintro e w' ⟨rfl, rfl⟩)
  all_goals
    go_ret2
    first
      | exact ⟨rfl, by first | exact (Below.refl _ _).alloc (Nat.le_refl _) _ | exact below_drewN1 ((Below.refl _ _).alloc (Nat.le_refl _) _) _ | exact ((Below.refl _ _).alloc (Nat.le_refl _) _).alloc (by simp) _⟩
      | exact ⟨Eq.trans (b := Ending.returned (.tuple #[.int .i32 0, .int .i32 (wrap32 (pc + n))])) rfl (by simp [stepI, *]), by first | exact (Below.refl _ _).alloc (Nat.le_refl _) _ | exact below_drewN1 ((Below.refl _ _).alloc (Nat.le_refl _) _) _ | exact ((Below.refl _ _).alloc (Nat.le_refl _) _).alloc (by simp) _⟩
      | exact ⟨Eq.trans (b := Ending.returned (.tuple #[.int .i32 0, .int .i32 (wrap32 (pc + 4))])) rfl (by simp [stepI, *]), by first | exact (Below.refl _ _).alloc (Nat.le_refl _) _ | exact below_drewN1 ((Below.refl _ _).alloc (Nat.le_refl _) _) _ | exact ((Below.refl _ _).alloc (Nat.le_refl _) _).alloc (by simp) _⟩
theorem step_16 (d r1 r2 n a b pc : Int) (s : ByteArray) (w : World) :
    Calls Try.prog 16 #[.agg #[.int .i64 2, .int .i64 16, .int .i64 d, .int .i64 r1, .int .i64 r2, .int .i32 n, .string s], .int .i32 a, .int .i32 b, .int .i32 pc] w fun e w' => e = .returned (.tuple #[.int .i32 (stepI 16 n a b pc).1, .int .i32 (stepI 16 n a b pc).2]) ∧ Below w.heap.size w w' := by
  go_enter Try.func16, Try.ntmps16
  go_wp2_with first
    | (go_at_call 37; refine (branched_any _ _ _ _ _ _ _ _ _ _).mono ?_; rintro e w' ⟨rfl, o, rfl⟩)
    | (go_at_call 38; refine (reckoned_any _ (by omega) (by omega) _ _ _).mono ?_; rintro e w' ⟨rfl, rfl⟩)
  all_goals
    go_ret2
    first
      | exact ⟨rfl, by first | exact (Below.refl _ _).alloc (Nat.le_refl _) _ | exact below_drewN1 ((Below.refl _ _).alloc (Nat.le_refl _) _) _ | exact ((Below.refl _ _).alloc (Nat.le_refl _) _).alloc (by simp) _⟩
      | exact ⟨Eq.trans (b := Ending.returned (.tuple #[.int .i32 0, .int .i32 (wrap32 (pc + n))])) rfl (by simp [stepI, *]), by first | exact (Below.refl _ _).alloc (Nat.le_refl _) _ | exact below_drewN1 ((Below.refl _ _).alloc (Nat.le_refl _) _) _ | exact ((Below.refl _ _).alloc (Nat.le_refl _) _).alloc (by simp) _⟩
      | exact ⟨Eq.trans (b := Ending.returned (.tuple #[.int .i32 0, .int .i32 (wrap32 (pc + 4))])) rfl (by simp [stepI, *]), by first | exact (Below.refl _ _).alloc (Nat.le_refl _) _ | exact below_drewN1 ((Below.refl _ _).alloc (Nat.le_refl _) _) _ | exact ((Below.refl _ _).alloc (Nat.le_refl _) _).alloc (by simp) _⟩
theorem step_17 (d r1 r2 n a b pc : Int) (s : ByteArray) (w : World) :
    Calls Try.prog 16 #[.agg #[.int .i64 2, .int .i64 17, .int .i64 d, .int .i64 r1, .int .i64 r2, .int .i32 n, .string s], .int .i32 a, .int .i32 b, .int .i32 pc] w fun e w' => e = .returned (.tuple #[.int .i32 (stepI 17 n a b pc).1, .int .i32 (stepI 17 n a b pc).2]) ∧ Below w.heap.size w w' := by
  go_enter Try.func16, Try.ntmps16
  go_wp2_with first
    | (go_at_call 37; refine (branched_any _ _ _ _ _ _ _ _ _ _).mono ?_; rintro e w' ⟨rfl, o, rfl⟩)
    | (go_at_call 38; refine (reckoned_any _ (by omega) (by omega) _ _ _).mono ?_; rintro e w' ⟨rfl, rfl⟩)
  all_goals
    go_ret2
    first
      | exact ⟨rfl, by first | exact (Below.refl _ _).alloc (Nat.le_refl _) _ | exact below_drewN1 ((Below.refl _ _).alloc (Nat.le_refl _) _) _ | exact ((Below.refl _ _).alloc (Nat.le_refl _) _).alloc (by simp) _⟩
      | exact ⟨Eq.trans (b := Ending.returned (.tuple #[.int .i32 0, .int .i32 (wrap32 (pc + n))])) rfl (by simp [stepI, *]), by first | exact (Below.refl _ _).alloc (Nat.le_refl _) _ | exact below_drewN1 ((Below.refl _ _).alloc (Nat.le_refl _) _) _ | exact ((Below.refl _ _).alloc (Nat.le_refl _) _).alloc (by simp) _⟩
      | exact ⟨Eq.trans (b := Ending.returned (.tuple #[.int .i32 0, .int .i32 (wrap32 (pc + 4))])) rfl (by simp [stepI, *]), by first | exact (Below.refl _ _).alloc (Nat.le_refl _) _ | exact below_drewN1 ((Below.refl _ _).alloc (Nat.le_refl _) _) _ | exact ((Below.refl _ _).alloc (Nat.le_refl _) _).alloc (by simp) _⟩
theorem step_18 (d r1 r2 n a b pc : Int) (s : ByteArray) (w : World) :
    Calls Try.prog 16 #[.agg #[.int .i64 2, .int .i64 18, .int .i64 d, .int .i64 r1, .int .i64 r2, .int .i32 n, .string s], .int .i32 a, .int .i32 b, .int .i32 pc] w fun e w' => e = .returned (.tuple #[.int .i32 (stepI 18 n a b pc).1, .int .i32 (stepI 18 n a b pc).2]) ∧ Below w.heap.size w w' := by
  go_enter Try.func16, Try.ntmps16
  go_wp2_with first
    | (go_at_call 37; refine (branched_any _ _ _ _ _ _ _ _ _ _).mono ?_; rintro e w' ⟨rfl, o, rfl⟩)
    | (go_at_call 38; refine (reckoned_any _ (by omega) (by omega) _ _ _).mono ?_; rintro e w' ⟨rfl, rfl⟩)
  all_goals
    go_ret2
    first
      | exact ⟨rfl, by first | exact (Below.refl _ _).alloc (Nat.le_refl _) _ | exact below_drewN1 ((Below.refl _ _).alloc (Nat.le_refl _) _) _ | exact ((Below.refl _ _).alloc (Nat.le_refl _) _).alloc (by simp) _⟩
      | exact ⟨Eq.trans (b := Ending.returned (.tuple #[.int .i32 0, .int .i32 (wrap32 (pc + n))])) rfl (by simp [stepI, *]), by first | exact (Below.refl _ _).alloc (Nat.le_refl _) _ | exact below_drewN1 ((Below.refl _ _).alloc (Nat.le_refl _) _) _ | exact ((Below.refl _ _).alloc (Nat.le_refl _) _).alloc (by simp) _⟩
      | exact ⟨Eq.trans (b := Ending.returned (.tuple #[.int .i32 0, .int .i32 (wrap32 (pc + 4))])) rfl (by simp [stepI, *]), by first | exact (Below.refl _ _).alloc (Nat.le_refl _) _ | exact below_drewN1 ((Below.refl _ _).alloc (Nat.le_refl _) _) _ | exact ((Below.refl _ _).alloc (Nat.le_refl _) _).alloc (by simp) _⟩
theorem step_19 (d r1 r2 n a b pc : Int) (s : ByteArray) (w : World) :
    Calls Try.prog 16 #[.agg #[.int .i64 2, .int .i64 19, .int .i64 d, .int .i64 r1, .int .i64 r2, .int .i32 n, .string s], .int .i32 a, .int .i32 b, .int .i32 pc] w fun e w' => e = .returned (.tuple #[.int .i32 (stepI 19 n a b pc).1, .int .i32 (stepI 19 n a b pc).2]) ∧ Below w.heap.size w w' := by
  go_enter Try.func16, Try.ntmps16
  go_wp2_with first
    | (go_at_call 37; refine (branched_any _ _ _ _ _ _ _ _ _ _).mono ?_; rintro e w' ⟨rfl, o, rfl⟩)
    | (go_at_call 38; refine (reckoned_any _ (by omega) (by omega) _ _ _).mono ?_; rintro e w' ⟨rfl, rfl⟩)
  all_goals
    go_ret2
    first
      | exact ⟨rfl, by first | exact (Below.refl _ _).alloc (Nat.le_refl _) _ | exact below_drewN1 ((Below.refl _ _).alloc (Nat.le_refl _) _) _ | exact ((Below.refl _ _).alloc (Nat.le_refl _) _).alloc (by simp) _⟩
      | exact ⟨Eq.trans (b := Ending.returned (.tuple #[.int .i32 0, .int .i32 (wrap32 (pc + n))])) rfl (by simp [stepI, *]), by first | exact (Below.refl _ _).alloc (Nat.le_refl _) _ | exact below_drewN1 ((Below.refl _ _).alloc (Nat.le_refl _) _) _ | exact ((Below.refl _ _).alloc (Nat.le_refl _) _).alloc (by simp) _⟩
      | exact ⟨Eq.trans (b := Ending.returned (.tuple #[.int .i32 0, .int .i32 (wrap32 (pc + 4))])) rfl (by simp [stepI, *]), by first | exact (Below.refl _ _).alloc (Nat.le_refl _) _ | exact below_drewN1 ((Below.refl _ _).alloc (Nat.le_refl _) _) _ | exact ((Below.refl _ _).alloc (Nat.le_refl _) _).alloc (by simp) _⟩
theorem step_20 (d r1 r2 n a b pc : Int) (s : ByteArray) (w : World) :
    Calls Try.prog 16 #[.agg #[.int .i64 2, .int .i64 20, .int .i64 d, .int .i64 r1, .int .i64 r2, .int .i32 n, .string s], .int .i32 a, .int .i32 b, .int .i32 pc] w fun e w' => e = .returned (.tuple #[.int .i32 (stepI 20 n a b pc).1, .int .i32 (stepI 20 n a b pc).2]) ∧ Below w.heap.size w w' := by
  go_enter Try.func16, Try.ntmps16
  go_wp2_with first
    | (go_at_call 37; refine (branched_any _ _ _ _ _ _ _ _ _ _).mono ?_; rintro e w' ⟨rfl, o, rfl⟩)
    | (go_at_call 38; refine (reckoned_any _ (by omega) (by omega) _ _ _).mono ?_; rintro e w' ⟨rfl, rfl⟩)
  all_goals
    go_ret2
    first
      | exact ⟨rfl, by first | exact (Below.refl _ _).alloc (Nat.le_refl _) _ | exact below_drewN1 ((Below.refl _ _).alloc (Nat.le_refl _) _) _ | exact ((Below.refl _ _).alloc (Nat.le_refl _) _).alloc (by simp) _⟩
      | exact ⟨Eq.trans (b := Ending.returned (.tuple #[.int .i32 0, .int .i32 (wrap32 (pc + n))])) rfl (by simp [stepI, *]), by first | exact (Below.refl _ _).alloc (Nat.le_refl _) _ | exact below_drewN1 ((Below.refl _ _).alloc (Nat.le_refl _) _) _ | exact ((Below.refl _ _).alloc (Nat.le_refl _) _).alloc (by simp) _⟩
      | exact ⟨Eq.trans (b := Ending.returned (.tuple #[.int .i32 0, .int .i32 (wrap32 (pc + 4))])) rfl (by simp [stepI, *]), by first | exact (Below.refl _ _).alloc (Nat.le_refl _) _ | exact below_drewN1 ((Below.refl _ _).alloc (Nat.le_refl _) _) _ | exact ((Below.refl _ _).alloc (Nat.le_refl _) _).alloc (by simp) _⟩
theorem step_21 (d r1 r2 n a b pc : Int) (s : ByteArray) (w : World) :
    Calls Try.prog 16 #[.agg #[.int .i64 2, .int .i64 21, .int .i64 d, .int .i64 r1, .int .i64 r2, .int .i32 n, .string s], .int .i32 a, .int .i32 b, .int .i32 pc] w fun e w' => e = .returned (.tuple #[.int .i32 (stepI 21 n a b pc).1, .int .i32 (stepI 21 n a b pc).2]) ∧ Below w.heap.size w w' := by
  go_enter Try.func16, Try.ntmps16
  go_wp2_with first
    | (go_at_call 37; refine (branched_any _ _ _ _ _ _ _ _ _ _).mono ?_; rintro e w' ⟨rfl, o, rfl⟩)
    | (go_at_call 38; refine (reckoned_any _ (by omega) (by omega) _ _ _).mono ?_; rintro e w' ⟨rfl, rfl⟩)
  all_goals
    go_ret2
    first
      | exact ⟨rfl, by first | exact (Below.refl _ _).alloc (Nat.le_refl _) _ | exact below_drewN1 ((Below.refl _ _).alloc (Nat.le_refl _) _) _ | exact ((Below.refl _ _).alloc (Nat.le_refl _) _).alloc (by simp) _⟩
      | exact ⟨Eq.trans (b := Ending.returned (.tuple #[.int .i32 0, .int .i32 (wrap32 (pc + n))])) rfl (by simp [stepI, *]), by first | exact (Below.refl _ _).alloc (Nat.le_refl _) _ | exact below_drewN1 ((Below.refl _ _).alloc (Nat.le_refl _) _) _ | exact ((Below.refl _ _).alloc (Nat.le_refl _) _).alloc (by simp) _⟩
      | exact ⟨Eq.trans (b := Ending.returned (.tuple #[.int .i32 0, .int .i32 (wrap32 (pc + 4))])) rfl (by simp [stepI, *]), by first | exact (Below.refl _ _).alloc (Nat.le_refl _) _ | exact below_drewN1 ((Below.refl _ _).alloc (Nat.le_refl _) _) _ | exact ((Below.refl _ _).alloc (Nat.le_refl _) _).alloc (by simp) _⟩
theorem step_22 (d r1 r2 n a b pc : Int) (s : ByteArray) (w : World) :
    Calls Try.prog 16 #[.agg #[.int .i64 2, .int .i64 22, .int .i64 d, .int .i64 r1, .int .i64 r2, .int .i32 n, .string s], .int .i32 a, .int .i32 b, .int .i32 pc] w fun e w' => e = .returned (.tuple #[.int .i32 (stepI 22 n a b pc).1, .int .i32 (stepI 22 n a b pc).2]) ∧ Below w.heap.size w w' := by
  go_enter Try.func16, Try.ntmps16
  go_wp2_with first
    | (go_at_call 37; refine (branched_any _ _ _ _ _ _ _ _ _ _).mono ?_; rintro e w' ⟨rfl, o, rfl⟩)
    | (go_at_call 38; refine (reckoned_any _ (by omega) (by omega) _ _ _).mono ?_; rintro e w' ⟨rfl, rfl⟩)
  all_goals
    go_ret2
    first
      | exact ⟨rfl, by first | exact (Below.refl _ _).alloc (Nat.le_refl _) _ | exact below_drewN1 ((Below.refl _ _).alloc (Nat.le_refl _) _) _ | exact ((Below.refl _ _).alloc (Nat.le_refl _) _).alloc (by simp) _⟩
      | exact ⟨Eq.trans (b := Ending.returned (.tuple #[.int .i32 0, .int .i32 (wrap32 (pc + n))])) rfl (by simp [stepI, *]), by first | exact (Below.refl _ _).alloc (Nat.le_refl _) _ | exact below_drewN1 ((Below.refl _ _).alloc (Nat.le_refl _) _) _ | exact ((Below.refl _ _).alloc (Nat.le_refl _) _).alloc (by simp) _⟩
      | exact ⟨Eq.trans (b := Ending.returned (.tuple #[.int .i32 0, .int .i32 (wrap32 (pc + 4))])) rfl (by simp [stepI, *]), by first | exact (Below.refl _ _).alloc (Nat.le_refl _) _ | exact below_drewN1 ((Below.refl _ _).alloc (Nat.le_refl _) _) _ | exact ((Below.refl _ _).alloc (Nat.le_refl _) _).alloc (by simp) _⟩
theorem step_23 (d r1 r2 n a b pc : Int) (s : ByteArray) (w : World) :
    Calls Try.prog 16 #[.agg #[.int .i64 2, .int .i64 23, .int .i64 d, .int .i64 r1, .int .i64 r2, .int .i32 n, .string s], .int .i32 a, .int .i32 b, .int .i32 pc] w fun e w' => e = .returned (.tuple #[.int .i32 (stepI 23 n a b pc).1, .int .i32 (stepI 23 n a b pc).2]) ∧ Below w.heap.size w w' := by
  go_enter Try.func16, Try.ntmps16
  go_wp2_with first
    | (go_at_call 37; refine (branched_any _ _ _ _ _ _ _ _ _ _).mono ?_; rintro e w' ⟨rfl, o, rfl⟩)
    | (go_at_call 38; refine (reckoned_any _ (by omega) (by omega) _ _ _).mono ?_; rintro e w' ⟨rfl, rfl⟩)
  all_goals
    go_ret2
    first
      | exact ⟨rfl, by first | exact (Below.refl _ _).alloc (Nat.le_refl _) _ | exact below_drewN1 ((Below.refl _ _).alloc (Nat.le_refl _) _) _ | exact ((Below.refl _ _).alloc (Nat.le_refl _) _).alloc (by simp) _⟩
      | exact ⟨Eq.trans (b := Ending.returned (.tuple #[.int .i32 0, .int .i32 (wrap32 (pc + n))])) rfl (by simp [stepI, *]), by first | exact (Below.refl _ _).alloc (Nat.le_refl _) _ | exact below_drewN1 ((Below.refl _ _).alloc (Nat.le_refl _) _) _ | exact ((Below.refl _ _).alloc (Nat.le_refl _) _).alloc (by simp) _⟩
      | exact ⟨Eq.trans (b := Ending.returned (.tuple #[.int .i32 0, .int .i32 (wrap32 (pc + 4))])) rfl (by simp [stepI, *]), by first | exact (Below.refl _ _).alloc (Nat.le_refl _) _ | exact below_drewN1 ((Below.refl _ _).alloc (Nat.le_refl _) _) _ | exact ((Below.refl _ _).alloc (Nat.le_refl _) _).alloc (by simp) _⟩
theorem step_24 (d r1 r2 n a b pc : Int) (s : ByteArray) (w : World) :
    Calls Try.prog 16 #[.agg #[.int .i64 2, .int .i64 24, .int .i64 d, .int .i64 r1, .int .i64 r2, .int .i32 n, .string s], .int .i32 a, .int .i32 b, .int .i32 pc] w fun e w' => e = .returned (.tuple #[.int .i32 (stepI 24 n a b pc).1, .int .i32 (stepI 24 n a b pc).2]) ∧ Below w.heap.size w w' := by
  go_enter Try.func16, Try.ntmps16
  go_wp2_with first
    | (go_at_call 37; refine (branched_any _ _ _ _ _ _ _ _ _ _).mono ?_; rintro e w' ⟨rfl, o, rfl⟩)
    | (go_at_call 38; refine (reckoned_any _ (by omega) (by omega) _ _ _).mono ?_; rintro e w' ⟨rfl, rfl⟩)
  all_goals
    go_ret2
    first
      | exact ⟨rfl, by first | exact (Below.refl _ _).alloc (Nat.le_refl _) _ | exact below_drewN1 ((Below.refl _ _).alloc (Nat.le_refl _) _) _ | exact ((Below.refl _ _).alloc (Nat.le_refl _) _).alloc (by simp) _⟩
      | exact ⟨Eq.trans (b := Ending.returned (.tuple #[.int .i32 0, .int .i32 (wrap32 (pc + n))])) rfl (by simp [stepI, *]), by first | exact (Below.refl _ _).alloc (Nat.le_refl _) _ | exact below_drewN1 ((Below.refl _ _).alloc (Nat.le_refl _) _) _ | exact ((Below.refl _ _).alloc (Nat.le_refl _) _).alloc (by simp) _⟩
      | exact ⟨Eq.trans (b := Ending.returned (.tuple #[.int .i32 0, .int .i32 (wrap32 (pc + 4))])) rfl (by simp [stepI, *]), by first | exact (Below.refl _ _).alloc (Nat.le_refl _) _ | exact below_drewN1 ((Below.refl _ _).alloc (Nat.le_refl _) _) _ | exact ((Below.refl _ _).alloc (Nat.le_refl _) _).alloc (by simp) _⟩
theorem step_25 (d r1 r2 n a b pc : Int) (s : ByteArray) (w : World) :
    Calls Try.prog 16 #[.agg #[.int .i64 2, .int .i64 25, .int .i64 d, .int .i64 r1, .int .i64 r2, .int .i32 n, .string s], .int .i32 a, .int .i32 b, .int .i32 pc] w fun e w' => e = .returned (.tuple #[.int .i32 (stepI 25 n a b pc).1, .int .i32 (stepI 25 n a b pc).2]) ∧ Below w.heap.size w w' := by
  go_enter Try.func16, Try.ntmps16
  go_wp2_with first
    | (go_at_call 37; refine (branched_any _ _ _ _ _ _ _ _ _ _).mono ?_; rintro e w' ⟨rfl, o, rfl⟩)
    | (go_at_call 38; refine (reckoned_any _ (by omega) (by omega) _ _ _).mono ?_; rintro e w' ⟨rfl, rfl⟩)
  all_goals
    go_ret2
    first
      | exact ⟨rfl, by first | exact (Below.refl _ _).alloc (Nat.le_refl _) _ | exact below_drewN1 ((Below.refl _ _).alloc (Nat.le_refl _) _) _ | exact ((Below.refl _ _).alloc (Nat.le_refl _) _).alloc (by simp) _⟩
      | exact ⟨Eq.trans (b := Ending.returned (.tuple #[.int .i32 0, .int .i32 (wrap32 (pc + n))])) rfl (by simp [stepI, *]), by first | exact (Below.refl _ _).alloc (Nat.le_refl _) _ | exact below_drewN1 ((Below.refl _ _).alloc (Nat.le_refl _) _) _ | exact ((Below.refl _ _).alloc (Nat.le_refl _) _).alloc (by simp) _⟩
      | exact ⟨Eq.trans (b := Ending.returned (.tuple #[.int .i32 0, .int .i32 (wrap32 (pc + 4))])) rfl (by simp [stepI, *]), by first | exact (Below.refl _ _).alloc (Nat.le_refl _) _ | exact below_drewN1 ((Below.refl _ _).alloc (Nat.le_refl _) _) _ | exact ((Below.refl _ _).alloc (Nat.le_refl _) _).alloc (by simp) _⟩
theorem step_26 (d r1 r2 n a b pc : Int) (s : ByteArray) (w : World) :
    Calls Try.prog 16 #[.agg #[.int .i64 2, .int .i64 26, .int .i64 d, .int .i64 r1, .int .i64 r2, .int .i32 n, .string s], .int .i32 a, .int .i32 b, .int .i32 pc] w fun e w' => e = .returned (.tuple #[.int .i32 (stepI 26 n a b pc).1, .int .i32 (stepI 26 n a b pc).2]) ∧ Below w.heap.size w w' := by
  go_enter Try.func16, Try.ntmps16
  go_wp2_with first
    | (go_at_call 37; refine (branched_any _ _ _ _ _ _ _ _ _ _).mono ?_; rintro e w' ⟨rfl, o, rfl⟩)
    | (go_at_call 38; refine (reckoned_any _ (by omega) (by omega) _ _ _).mono ?_; rintro e w' ⟨rfl, rfl⟩)
  all_goals
    go_ret2
    first
      | exact ⟨rfl, by first | exact (Below.refl _ _).alloc (Nat.le_refl _) _ | exact below_drewN1 ((Below.refl _ _).alloc (Nat.le_refl _) _) _ | exact ((Below.refl _ _).alloc (Nat.le_refl _) _).alloc (by simp) _⟩
      | exact ⟨Eq.trans (b := Ending.returned (.tuple #[.int .i32 0, .int .i32 (wrap32 (pc + n))])) rfl (by simp [stepI, *]), by first | exact (Below.refl _ _).alloc (Nat.le_refl _) _ | exact below_drewN1 ((Below.refl _ _).alloc (Nat.le_refl _) _) _ | exact ((Below.refl _ _).alloc (Nat.le_refl _) _).alloc (by simp) _⟩
      | exact ⟨Eq.trans (b := Ending.returned (.tuple #[.int .i32 0, .int .i32 (wrap32 (pc + 4))])) rfl (by simp [stepI, *]), by first | exact (Below.refl _ _).alloc (Nat.le_refl _) _ | exact below_drewN1 ((Below.refl _ _).alloc (Nat.le_refl _) _) _ | exact ((Below.refl _ _).alloc (Nat.le_refl _) _).alloc (by simp) _⟩
theorem step_27 (d r1 r2 n a b pc : Int) (s : ByteArray) (w : World) :
    Calls Try.prog 16 #[.agg #[.int .i64 2, .int .i64 27, .int .i64 d, .int .i64 r1, .int .i64 r2, .int .i32 n, .string s], .int .i32 a, .int .i32 b, .int .i32 pc] w fun e w' => e = .returned (.tuple #[.int .i32 (stepI 27 n a b pc).1, .int .i32 (stepI 27 n a b pc).2]) ∧ Below w.heap.size w w' := by
  go_enter Try.func16, Try.ntmps16
  go_wp2_with first
    | (go_at_call 37; refine (branched_any _ _ _ _ _ _ _ _ _ _).mono ?_; rintro e w' ⟨rfl, o, rfl⟩)
    | (go_at_call 38; refine (reckoned_any _ (by omega) (by omega) _ _ _).mono ?_; rintro e w' ⟨rfl, rfl⟩)
  all_goals
    go_ret2
    first
      | exact ⟨rfl, by first | exact (Below.refl _ _).alloc (Nat.le_refl _) _ | exact below_drewN1 ((Below.refl _ _).alloc (Nat.le_refl _) _) _ | exact ((Below.refl _ _).alloc (Nat.le_refl _) _).alloc (by simp) _⟩
      | exact ⟨Eq.trans (b := Ending.returned (.tuple #[.int .i32 0, .int .i32 (wrap32 (pc + n))])) rfl (by simp [stepI, *]), by first | exact (Below.refl _ _).alloc (Nat.le_refl _) _ | exact below_drewN1 ((Below.refl _ _).alloc (Nat.le_refl _) _) _ | exact ((Below.refl _ _).alloc (Nat.le_refl _) _).alloc (by simp) _⟩
      | exact ⟨Eq.trans (b := Ending.returned (.tuple #[.int .i32 0, .int .i32 (wrap32 (pc + 4))])) rfl (by simp [stepI, *]), by first | exact (Below.refl _ _).alloc (Nat.le_refl _) _ | exact below_drewN1 ((Below.refl _ _).alloc (Nat.le_refl _) _) _ | exact ((Below.refl _ _).alloc (Nat.le_refl _) _).alloc (by simp) _⟩
theorem step_28 (d r1 r2 n a b pc : Int) (s : ByteArray) (w : World) :
    Calls Try.prog 16 #[.agg #[.int .i64 2, .int .i64 28, .int .i64 d, .int .i64 r1, .int .i64 r2, .int .i32 n, .string s], .int .i32 a, .int .i32 b, .int .i32 pc] w fun e w' => e = .returned (.tuple #[.int .i32 (stepI 28 n a b pc).1, .int .i32 (stepI 28 n a b pc).2]) ∧ Below w.heap.size w w' := by
  go_enter Try.func16, Try.ntmps16
  go_wp2_with first
    | (go_at_call 37; refine (branched_any _ _ _ _ _ _ _ _ _ _).mono ?_; rintro e w' ⟨rfl, o, rfl⟩)
    | (go_at_call 38; refine (reckoned_any _ (by omega) (by omega) _ _ _).mono ?_; rintro e w' ⟨rfl, rfl⟩)
  go_region
  all_goals (try go_wp2)
  all_goals
    go_ret2
    first
      | exact ⟨rfl, by first | exact (Below.refl _ _).alloc (Nat.le_refl _) _ | exact below_drewN1 ((Below.refl _ _).alloc (Nat.le_refl _) _) _ | exact ((Below.refl _ _).alloc (Nat.le_refl _) _).alloc (by simp) _⟩
      | exact ⟨Eq.trans (b := Ending.returned (.tuple #[.int .i32 0, .int .i32 (wrap32 (pc + n))])) rfl (by simp [stepI, *]), by first | exact (Below.refl _ _).alloc (Nat.le_refl _) _ | exact below_drewN1 ((Below.refl _ _).alloc (Nat.le_refl _) _) _ | exact ((Below.refl _ _).alloc (Nat.le_refl _) _).alloc (by simp) _⟩
      | exact ⟨Eq.trans (b := Ending.returned (.tuple #[.int .i32 0, .int .i32 (wrap32 (pc + 4))])) rfl (by simp [stepI, *]), by first | exact (Below.refl _ _).alloc (Nat.le_refl _) _ | exact below_drewN1 ((Below.refl _ _).alloc (Nat.le_refl _) _) _ | exact ((Below.refl _ _).alloc (Nat.le_refl _) _).alloc (by simp) _⟩
theorem step_29 (d r1 r2 n a b pc : Int) (s : ByteArray) (w : World) :
    Calls Try.prog 16 #[.agg #[.int .i64 2, .int .i64 29, .int .i64 d, .int .i64 r1, .int .i64 r2, .int .i32 n, .string s], .int .i32 a, .int .i32 b, .int .i32 pc] w fun e w' => e = .returned (.tuple #[.int .i32 (stepI 29 n a b pc).1, .int .i32 (stepI 29 n a b pc).2]) ∧ Below w.heap.size w w' := by
  go_enter Try.func16, Try.ntmps16
  go_wp2_with first
    | (go_at_call 37; refine (branched_any _ _ _ _ _ _ _ _ _ _).mono ?_; rintro e w' ⟨rfl, o, rfl⟩)
    | (go_at_call 38; refine (reckoned_any _ (by omega) (by omega) _ _ _).mono ?_; rintro e w' ⟨rfl, rfl⟩)
  go_region
  all_goals (try go_wp2)
  all_goals
    go_ret2
    first
      | exact ⟨rfl, by first | exact (Below.refl _ _).alloc (Nat.le_refl _) _ | exact below_drewN1 ((Below.refl _ _).alloc (Nat.le_refl _) _) _ | exact ((Below.refl _ _).alloc (Nat.le_refl _) _).alloc (by simp) _⟩
      | exact ⟨Eq.trans (b := Ending.returned (.tuple #[.int .i32 0, .int .i32 (wrap32 (pc + n))])) rfl (by simp [stepI, *]), by first | exact (Below.refl _ _).alloc (Nat.le_refl _) _ | exact below_drewN1 ((Below.refl _ _).alloc (Nat.le_refl _) _) _ | exact ((Below.refl _ _).alloc (Nat.le_refl _) _).alloc (by simp) _⟩
      | exact ⟨Eq.trans (b := Ending.returned (.tuple #[.int .i32 0, .int .i32 (wrap32 (pc + 4))])) rfl (by simp [stepI, *]), by first | exact (Below.refl _ _).alloc (Nat.le_refl _) _ | exact below_drewN1 ((Below.refl _ _).alloc (Nat.le_refl _) _) _ | exact ((Below.refl _ _).alloc (Nat.le_refl _) _).alloc (by simp) _⟩
theorem step_30 (d r1 r2 n a b pc : Int) (s : ByteArray) (w : World) :
    Calls Try.prog 16 #[.agg #[.int .i64 2, .int .i64 30, .int .i64 d, .int .i64 r1, .int .i64 r2, .int .i32 n, .string s], .int .i32 a, .int .i32 b, .int .i32 pc] w fun e w' => e = .returned (.tuple #[.int .i32 (stepI 30 n a b pc).1, .int .i32 (stepI 30 n a b pc).2]) ∧ Below w.heap.size w w' := by
  go_enter Try.func16, Try.ntmps16
  go_wp2_with first
    | (go_at_call 37; refine (branched_any _ _ _ _ _ _ _ _ _ _).mono ?_; rintro e w' ⟨rfl, o, rfl⟩)
    | (go_at_call 38; refine (reckoned_any _ (by omega) (by omega) _ _ _).mono ?_; rintro e w' ⟨rfl, rfl⟩)
  all_goals
    go_ret2
    first
      | exact ⟨rfl, by first | exact (Below.refl _ _).alloc (Nat.le_refl _) _ | exact below_drewN1 ((Below.refl _ _).alloc (Nat.le_refl _) _) _ | exact ((Below.refl _ _).alloc (Nat.le_refl _) _).alloc (by simp) _⟩
      | exact ⟨Eq.trans (b := Ending.returned (.tuple #[.int .i32 0, .int .i32 (wrap32 (pc + n))])) rfl (by simp [stepI, *]), by first | exact (Below.refl _ _).alloc (Nat.le_refl _) _ | exact below_drewN1 ((Below.refl _ _).alloc (Nat.le_refl _) _) _ | exact ((Below.refl _ _).alloc (Nat.le_refl _) _).alloc (by simp) _⟩
      | exact ⟨Eq.trans (b := Ending.returned (.tuple #[.int .i32 0, .int .i32 (wrap32 (pc + 4))])) rfl (by simp [stepI, *]), by first | exact (Below.refl _ _).alloc (Nat.le_refl _) _ | exact below_drewN1 ((Below.refl _ _).alloc (Nat.le_refl _) _) _ | exact ((Below.refl _ _).alloc (Nat.le_refl _) _).alloc (by simp) _⟩
theorem step_any (op d r1 r2 n a b pc : Int) (h1 : 1 ≤ op) (h2 : op ≤ 30) (s : ByteArray) (w : World) :
    Calls Try.prog 16 #[.agg #[.int .i64 2, .int .i64 op, .int .i64 d, .int .i64 r1, .int .i64 r2, .int .i32 n, .string s], .int .i32 a, .int .i32 b, .int .i32 pc] w fun e w' => e = .returned (.tuple #[.int .i32 (stepI op n a b pc).1, .int .i32 (stepI op n a b pc).2]) ∧ Below w.heap.size w w' := by
  rcases ops30 h1 h2 with rfl | rfl | rfl | rfl | rfl | rfl | rfl | rfl | rfl | rfl | rfl | rfl | rfl | rfl | rfl | rfl | rfl | rfl | rfl | rfl | rfl | rfl | rfl | rfl | rfl | rfl | rfl | rfl | rfl | rfl
  · exact step_1 d r1 r2 n a b pc s w
  · exact step_2 d r1 r2 n a b pc s w
  · exact step_3 d r1 r2 n a b pc s w
  · exact step_4 d r1 r2 n a b pc s w
  · exact step_5 d r1 r2 n a b pc s w
  · exact step_6 d r1 r2 n a b pc s w
  · exact step_7 d r1 r2 n a b pc s w
  · exact step_8 d r1 r2 n a b pc s w
  · exact step_9 d r1 r2 n a b pc s w
  · exact step_10 d r1 r2 n a b pc s w
  · exact step_11 d r1 r2 n a b pc s w
  · exact step_12 d r1 r2 n a b pc s w
  · exact step_13 d r1 r2 n a b pc s w
  · exact step_14 d r1 r2 n a b pc s w
  · exact step_15 d r1 r2 n a b pc s w
  · exact step_16 d r1 r2 n a b pc s w
  · exact step_17 d r1 r2 n a b pc s w
  · exact step_18 d r1 r2 n a b pc s w
  · exact step_19 d r1 r2 n a b pc s w
  · exact step_20 d r1 r2 n a b pc s w
  · exact step_21 d r1 r2 n a b pc s w
  · exact step_22 d r1 r2 n a b pc s w
  · exact step_23 d r1 r2 n a b pc s w
  · exact step_24 d r1 r2 n a b pc s w
  · exact step_25 d r1 r2 n a b pc s w
  · exact step_26 d r1 r2 n a b pc s w
  · exact step_27 d r1 r2 n a b pc s w
  · exact step_28 d r1 r2 n a b pc s w
  · exact step_29 d r1 r2 n a b pc s w
  · exact step_30 d r1 r2 n a b pc s w
end Rv
end Go.Proofs.Ytadgemcpahfkoaa
