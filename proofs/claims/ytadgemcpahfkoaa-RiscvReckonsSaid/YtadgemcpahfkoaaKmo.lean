/-
  The document's MayLine: Shape, has, reg, num.
-/
import Derived.Test.YtadgemcpahfkoaaKmf
import Derived.Test.YtadgemcpahfkoaaKmg
namespace Go.Proofs.Ytadgemcpahfkoaa
open Go.RowKit
set_option linter.unusedVariables false
set_option linter.unusedSimpArgs false
set_option maxRecDepth 100000

theorem shape_1 (w : World) : Calls Try.prog 33 #[.int .i64 1] w fun e w' => e = .returned (.string ⟨#[68, 78]⟩) ∧ w = w' := by
  go_enter Try.func33, Try.ntmps33
  go_wp2
  go_ret
  exact ⟨rfl, rfl⟩
theorem shape_2 (w : World) : Calls Try.prog 33 #[.int .i64 2] w fun e w' => e = .returned (.string ⟨#[68, 65, 78]⟩) ∧ w = w' := by
  go_enter Try.func33, Try.ntmps33
  go_wp2
  go_ret
  exact ⟨rfl, rfl⟩
theorem shape_3 (w : World) : Calls Try.prog 33 #[.int .i64 3] w fun e w' => e = .returned (.string ⟨#[68, 65, 78]⟩) ∧ w = w' := by
  go_enter Try.func33, Try.ntmps33
  go_wp2
  go_ret
  exact ⟨rfl, rfl⟩
theorem shape_4 (w : World) : Calls Try.prog 33 #[.int .i64 4] w fun e w' => e = .returned (.string ⟨#[68, 65, 78]⟩) ∧ w = w' := by
  go_enter Try.func33, Try.ntmps33
  go_wp2
  go_ret
  exact ⟨rfl, rfl⟩
theorem shape_5 (w : World) : Calls Try.prog 33 #[.int .i64 5] w fun e w' => e = .returned (.string ⟨#[68, 65, 78]⟩) ∧ w = w' := by
  go_enter Try.func33, Try.ntmps33
  go_wp2
  go_ret
  exact ⟨rfl, rfl⟩
theorem shape_6 (w : World) : Calls Try.prog 33 #[.int .i64 6] w fun e w' => e = .returned (.string ⟨#[68, 65, 78]⟩) ∧ w = w' := by
  go_enter Try.func33, Try.ntmps33
  go_wp2
  go_ret
  exact ⟨rfl, rfl⟩
theorem shape_7 (w : World) : Calls Try.prog 33 #[.int .i64 7] w fun e w' => e = .returned (.string ⟨#[68, 65, 78]⟩) ∧ w = w' := by
  go_enter Try.func33, Try.ntmps33
  go_wp2
  go_ret
  exact ⟨rfl, rfl⟩
theorem shape_8 (w : World) : Calls Try.prog 33 #[.int .i64 8] w fun e w' => e = .returned (.string ⟨#[68, 65, 78]⟩) ∧ w = w' := by
  go_enter Try.func33, Try.ntmps33
  go_wp2
  go_ret
  exact ⟨rfl, rfl⟩
theorem shape_9 (w : World) : Calls Try.prog 33 #[.int .i64 9] w fun e w' => e = .returned (.string ⟨#[68, 65, 78]⟩) ∧ w = w' := by
  go_enter Try.func33, Try.ntmps33
  go_wp2
  go_ret
  exact ⟨rfl, rfl⟩
theorem shape_10 (w : World) : Calls Try.prog 33 #[.int .i64 10] w fun e w' => e = .returned (.string ⟨#[68, 65, 78]⟩) ∧ w = w' := by
  go_enter Try.func33, Try.ntmps33
  go_wp2
  go_ret
  exact ⟨rfl, rfl⟩
theorem shape_11 (w : World) : Calls Try.prog 33 #[.int .i64 11] w fun e w' => e = .returned (.string ⟨#[68, 65, 66]⟩) ∧ w = w' := by
  go_enter Try.func33, Try.ntmps33
  go_wp2
  go_ret
  exact ⟨rfl, rfl⟩
theorem shape_12 (w : World) : Calls Try.prog 33 #[.int .i64 12] w fun e w' => e = .returned (.string ⟨#[68, 65, 66]⟩) ∧ w = w' := by
  go_enter Try.func33, Try.ntmps33
  go_wp2
  go_ret
  exact ⟨rfl, rfl⟩
theorem shape_13 (w : World) : Calls Try.prog 33 #[.int .i64 13] w fun e w' => e = .returned (.string ⟨#[68, 65, 66]⟩) ∧ w = w' := by
  go_enter Try.func33, Try.ntmps33
  go_wp2
  go_ret
  exact ⟨rfl, rfl⟩
theorem shape_14 (w : World) : Calls Try.prog 33 #[.int .i64 14] w fun e w' => e = .returned (.string ⟨#[68, 65, 66]⟩) ∧ w = w' := by
  go_enter Try.func33, Try.ntmps33
  go_wp2
  go_ret
  exact ⟨rfl, rfl⟩
theorem shape_15 (w : World) : Calls Try.prog 33 #[.int .i64 15] w fun e w' => e = .returned (.string ⟨#[68, 65, 66]⟩) ∧ w = w' := by
  go_enter Try.func33, Try.ntmps33
  go_wp2
  go_ret
  exact ⟨rfl, rfl⟩
theorem shape_16 (w : World) : Calls Try.prog 33 #[.int .i64 16] w fun e w' => e = .returned (.string ⟨#[68, 65, 66]⟩) ∧ w = w' := by
  go_enter Try.func33, Try.ntmps33
  go_wp2
  go_ret
  exact ⟨rfl, rfl⟩
theorem shape_17 (w : World) : Calls Try.prog 33 #[.int .i64 17] w fun e w' => e = .returned (.string ⟨#[68, 65, 66]⟩) ∧ w = w' := by
  go_enter Try.func33, Try.ntmps33
  go_wp2
  go_ret
  exact ⟨rfl, rfl⟩
theorem shape_18 (w : World) : Calls Try.prog 33 #[.int .i64 18] w fun e w' => e = .returned (.string ⟨#[68, 65, 66]⟩) ∧ w = w' := by
  go_enter Try.func33, Try.ntmps33
  go_wp2
  go_ret
  exact ⟨rfl, rfl⟩
theorem shape_19 (w : World) : Calls Try.prog 33 #[.int .i64 19] w fun e w' => e = .returned (.string ⟨#[68, 65, 66]⟩) ∧ w = w' := by
  go_enter Try.func33, Try.ntmps33
  go_wp2
  go_ret
  exact ⟨rfl, rfl⟩
theorem shape_20 (w : World) : Calls Try.prog 33 #[.int .i64 20] w fun e w' => e = .returned (.string ⟨#[68, 65, 66]⟩) ∧ w = w' := by
  go_enter Try.func33, Try.ntmps33
  go_wp2
  go_ret
  exact ⟨rfl, rfl⟩
theorem shape_21 (w : World) : Calls Try.prog 33 #[.int .i64 21] w fun e w' => e = .returned (.string ⟨#[68, 65, 66]⟩) ∧ w = w' := by
  go_enter Try.func33, Try.ntmps33
  go_wp2
  go_ret
  exact ⟨rfl, rfl⟩
theorem shape_22 (w : World) : Calls Try.prog 33 #[.int .i64 22] w fun e w' => e = .returned (.string ⟨#[68, 65, 66]⟩) ∧ w = w' := by
  go_enter Try.func33, Try.ntmps33
  go_wp2
  go_ret
  exact ⟨rfl, rfl⟩
theorem shape_23 (w : World) : Calls Try.prog 33 #[.int .i64 23] w fun e w' => e = .returned (.string ⟨#[68, 65, 66]⟩) ∧ w = w' := by
  go_enter Try.func33, Try.ntmps33
  go_wp2
  go_ret
  exact ⟨rfl, rfl⟩
theorem shape_24 (w : World) : Calls Try.prog 33 #[.int .i64 24] w fun e w' => e = .returned (.string ⟨#[68, 80]⟩) ∧ w = w' := by
  go_enter Try.func33, Try.ntmps33
  go_wp2
  go_ret
  exact ⟨rfl, rfl⟩
theorem shape_25 (w : World) : Calls Try.prog 33 #[.int .i64 25] w fun e w' => e = .returned (.string ⟨#[66, 80]⟩) ∧ w = w' := by
  go_enter Try.func33, Try.ntmps33
  go_wp2
  go_ret
  exact ⟨rfl, rfl⟩
theorem shape_26 (w : World) : Calls Try.prog 33 #[.int .i64 26] w fun e w' => e = .returned (.string ⟨#[65, 66, 78]⟩) ∧ w = w' := by
  go_enter Try.func33, Try.ntmps33
  go_wp2
  go_ret
  exact ⟨rfl, rfl⟩
theorem shape_27 (w : World) : Calls Try.prog 33 #[.int .i64 27] w fun e w' => e = .returned (.string ⟨#[65, 66, 78]⟩) ∧ w = w' := by
  go_enter Try.func33, Try.ntmps33
  go_wp2
  go_ret
  exact ⟨rfl, rfl⟩
theorem shape_28 (w : World) : Calls Try.prog 33 #[.int .i64 28] w fun e w' => e = .returned (.string ⟨#[68, 78]⟩) ∧ w = w' := by
  go_enter Try.func33, Try.ntmps33
  go_wp2
  go_ret
  exact ⟨rfl, rfl⟩
theorem shape_29 (w : World) : Calls Try.prog 33 #[.int .i64 29] w fun e w' => e = .returned (.string ⟨#[68, 80]⟩) ∧ w = w' := by
  go_enter Try.func33, Try.ntmps33
  go_wp2
  go_ret
  exact ⟨rfl, rfl⟩
theorem shape_30 (w : World) : Calls Try.prog 33 #[.int .i64 30] w fun e w' => e = .returned (.string ⟨#[]⟩) ∧ w = w' := by
  go_enter Try.func33, Try.ntmps33
  go_wp2
  go_ret
  exact ⟨rfl, rfl⟩
theorem shape_lo (op : Int) (h : op < 1) (w : World) : Calls Try.prog 33 #[.int .i64 op] w fun e w' => e = .returned (.string ⟨#[]⟩) ∧ w = w' := by
  have e1 : (op == 1) = false := by simp; omega
  have e2 : (op == 28) = false := by simp; omega
  have e3 : (op == 24) = false := by simp; omega
  have e4 : (op == 29) = false := by simp; omega
  have e5 : (op == 25) = false := by simp; omega
  have e6 : (op == 26) = false := by simp; omega
  have e7 : (op == 27) = false := by simp; omega
  go_enter Try.func33, Try.ntmps33
  go_wp2
  go_ret
  exact ⟨rfl, rfl⟩
theorem shape_hi (op : Int) (h : 30 < op) (w : World) : Calls Try.prog 33 #[.int .i64 op] w fun e w' => e = .returned (.string ⟨#[]⟩) ∧ w = w' := by
  have e1 : (op == 1) = false := by simp; omega
  have e2 : (op == 28) = false := by simp; omega
  have e3 : (op == 24) = false := by simp; omega
  have e4 : (op == 29) = false := by simp; omega
  have e5 : (op == 25) = false := by simp; omega
  have e6 : (op == 26) = false := by simp; omega
  have e7 : (op == 27) = false := by simp; omega
  go_enter Try.func33, Try.ntmps33
  go_wp2
  go_ret
  exact ⟨rfl, rfl⟩
theorem has_DN_D (w : World) : Calls Try.prog 36 #[.string ⟨#[68, 78]⟩, .int .u8 68] w fun e w' => e = .returned (.bool true) ∧ w = w' := by
  go_enter Try.func36, Try.ntmps36
  go_wp2_with fail
  refine wp_loop_rounds 1 ?_
  rw [rounds_succ]
  go_wp2_with fail
  go_ret
  exact ⟨rfl, rfl⟩
theorem has_DN_A (w : World) : Calls Try.prog 36 #[.string ⟨#[68, 78]⟩, .int .u8 65] w fun e w' => e = .returned (.bool false) ∧ w = w' := by
  go_enter Try.func36, Try.ntmps36
  go_wp2_with fail
  refine wp_loop_rounds 3 ?_
  rw [rounds_succ]
  go_wp2_with fail
  rw [rounds_succ]
  go_wp2_with fail
  rw [rounds_succ]
  go_wp2_with fail
  go_ret
  exact ⟨rfl, rfl⟩
theorem has_DN_P (w : World) : Calls Try.prog 36 #[.string ⟨#[68, 78]⟩, .int .u8 80] w fun e w' => e = .returned (.bool false) ∧ w = w' := by
  go_enter Try.func36, Try.ntmps36
  go_wp2_with fail
  refine wp_loop_rounds 3 ?_
  rw [rounds_succ]
  go_wp2_with fail
  rw [rounds_succ]
  go_wp2_with fail
  rw [rounds_succ]
  go_wp2_with fail
  go_ret
  exact ⟨rfl, rfl⟩
theorem has_DN_B (w : World) : Calls Try.prog 36 #[.string ⟨#[68, 78]⟩, .int .u8 66] w fun e w' => e = .returned (.bool false) ∧ w = w' := by
  go_enter Try.func36, Try.ntmps36
  go_wp2_with fail
  refine wp_loop_rounds 3 ?_
  rw [rounds_succ]
  go_wp2_with fail
  rw [rounds_succ]
  go_wp2_with fail
  rw [rounds_succ]
  go_wp2_with fail
  go_ret
  exact ⟨rfl, rfl⟩
theorem has_DAN_D (w : World) : Calls Try.prog 36 #[.string ⟨#[68, 65, 78]⟩, .int .u8 68] w fun e w' => e = .returned (.bool true) ∧ w = w' := by
  go_enter Try.func36, Try.ntmps36
  go_wp2_with fail
  refine wp_loop_rounds 1 ?_
  rw [rounds_succ]
  go_wp2_with fail
  go_ret
  exact ⟨rfl, rfl⟩
theorem has_DAN_A (w : World) : Calls Try.prog 36 #[.string ⟨#[68, 65, 78]⟩, .int .u8 65] w fun e w' => e = .returned (.bool true) ∧ w = w' := by
  go_enter Try.func36, Try.ntmps36
  go_wp2_with fail
  refine wp_loop_rounds 2 ?_
  rw [rounds_succ]
  go_wp2_with fail
  rw [rounds_succ]
  go_wp2_with fail
  go_ret
  exact ⟨rfl, rfl⟩
theorem has_DAN_P (w : World) : Calls Try.prog 36 #[.string ⟨#[68, 65, 78]⟩, .int .u8 80] w fun e w' => e = .returned (.bool false) ∧ w = w' := by
  go_enter Try.func36, Try.ntmps36
  go_wp2_with fail
  refine wp_loop_rounds 4 ?_
  rw [rounds_succ]
  go_wp2_with fail
  rw [rounds_succ]
  go_wp2_with fail
  rw [rounds_succ]
  go_wp2_with fail
  rw [rounds_succ]
  go_wp2_with fail
  go_ret
  exact ⟨rfl, rfl⟩
theorem has_DAN_B (w : World) : Calls Try.prog 36 #[.string ⟨#[68, 65, 78]⟩, .int .u8 66] w fun e w' => e = .returned (.bool false) ∧ w = w' := by
  go_enter Try.func36, Try.ntmps36
  go_wp2_with fail
  refine wp_loop_rounds 4 ?_
  rw [rounds_succ]
  go_wp2_with fail
  rw [rounds_succ]
  go_wp2_with fail
  rw [rounds_succ]
  go_wp2_with fail
  rw [rounds_succ]
  go_wp2_with fail
  go_ret
  exact ⟨rfl, rfl⟩
theorem has_DAB_D (w : World) : Calls Try.prog 36 #[.string ⟨#[68, 65, 66]⟩, .int .u8 68] w fun e w' => e = .returned (.bool true) ∧ w = w' := by
  go_enter Try.func36, Try.ntmps36
  go_wp2_with fail
  refine wp_loop_rounds 1 ?_
  rw [rounds_succ]
  go_wp2_with fail
  go_ret
  exact ⟨rfl, rfl⟩
theorem has_DAB_A (w : World) : Calls Try.prog 36 #[.string ⟨#[68, 65, 66]⟩, .int .u8 65] w fun e w' => e = .returned (.bool true) ∧ w = w' := by
  go_enter Try.func36, Try.ntmps36
  go_wp2_with fail
  refine wp_loop_rounds 2 ?_
  rw [rounds_succ]
  go_wp2_with fail
  rw [rounds_succ]
  go_wp2_with fail
  go_ret
  exact ⟨rfl, rfl⟩
theorem has_DAB_P (w : World) : Calls Try.prog 36 #[.string ⟨#[68, 65, 66]⟩, .int .u8 80] w fun e w' => e = .returned (.bool false) ∧ w = w' := by
  go_enter Try.func36, Try.ntmps36
  go_wp2_with fail
  refine wp_loop_rounds 4 ?_
  rw [rounds_succ]
  go_wp2_with fail
  rw [rounds_succ]
  go_wp2_with fail
  rw [rounds_succ]
  go_wp2_with fail
  rw [rounds_succ]
  go_wp2_with fail
  go_ret
  exact ⟨rfl, rfl⟩
theorem has_DAB_B (w : World) : Calls Try.prog 36 #[.string ⟨#[68, 65, 66]⟩, .int .u8 66] w fun e w' => e = .returned (.bool true) ∧ w = w' := by
  go_enter Try.func36, Try.ntmps36
  go_wp2_with fail
  refine wp_loop_rounds 3 ?_
  rw [rounds_succ]
  go_wp2_with fail
  rw [rounds_succ]
  go_wp2_with fail
  rw [rounds_succ]
  go_wp2_with fail
  go_ret
  exact ⟨rfl, rfl⟩
theorem has_DP_D (w : World) : Calls Try.prog 36 #[.string ⟨#[68, 80]⟩, .int .u8 68] w fun e w' => e = .returned (.bool true) ∧ w = w' := by
  go_enter Try.func36, Try.ntmps36
  go_wp2_with fail
  refine wp_loop_rounds 1 ?_
  rw [rounds_succ]
  go_wp2_with fail
  go_ret
  exact ⟨rfl, rfl⟩
theorem has_DP_A (w : World) : Calls Try.prog 36 #[.string ⟨#[68, 80]⟩, .int .u8 65] w fun e w' => e = .returned (.bool false) ∧ w = w' := by
  go_enter Try.func36, Try.ntmps36
  go_wp2_with fail
  refine wp_loop_rounds 3 ?_
  rw [rounds_succ]
  go_wp2_with fail
  rw [rounds_succ]
  go_wp2_with fail
  rw [rounds_succ]
  go_wp2_with fail
  go_ret
  exact ⟨rfl, rfl⟩
theorem has_DP_P (w : World) : Calls Try.prog 36 #[.string ⟨#[68, 80]⟩, .int .u8 80] w fun e w' => e = .returned (.bool true) ∧ w = w' := by
  go_enter Try.func36, Try.ntmps36
  go_wp2_with fail
  refine wp_loop_rounds 2 ?_
  rw [rounds_succ]
  go_wp2_with fail
  rw [rounds_succ]
  go_wp2_with fail
  go_ret
  exact ⟨rfl, rfl⟩
theorem has_DP_B (w : World) : Calls Try.prog 36 #[.string ⟨#[68, 80]⟩, .int .u8 66] w fun e w' => e = .returned (.bool false) ∧ w = w' := by
  go_enter Try.func36, Try.ntmps36
  go_wp2_with fail
  refine wp_loop_rounds 3 ?_
  rw [rounds_succ]
  go_wp2_with fail
  rw [rounds_succ]
  go_wp2_with fail
  rw [rounds_succ]
  go_wp2_with fail
  go_ret
  exact ⟨rfl, rfl⟩
theorem has_BP_D (w : World) : Calls Try.prog 36 #[.string ⟨#[66, 80]⟩, .int .u8 68] w fun e w' => e = .returned (.bool false) ∧ w = w' := by
  go_enter Try.func36, Try.ntmps36
  go_wp2_with fail
  refine wp_loop_rounds 3 ?_
  rw [rounds_succ]
  go_wp2_with fail
  rw [rounds_succ]
  go_wp2_with fail
  rw [rounds_succ]
  go_wp2_with fail
  go_ret
  exact ⟨rfl, rfl⟩
theorem has_BP_A (w : World) : Calls Try.prog 36 #[.string ⟨#[66, 80]⟩, .int .u8 65] w fun e w' => e = .returned (.bool false) ∧ w = w' := by
  go_enter Try.func36, Try.ntmps36
  go_wp2_with fail
  refine wp_loop_rounds 3 ?_
  rw [rounds_succ]
  go_wp2_with fail
  rw [rounds_succ]
  go_wp2_with fail
  rw [rounds_succ]
  go_wp2_with fail
  go_ret
  exact ⟨rfl, rfl⟩
theorem has_BP_P (w : World) : Calls Try.prog 36 #[.string ⟨#[66, 80]⟩, .int .u8 80] w fun e w' => e = .returned (.bool true) ∧ w = w' := by
  go_enter Try.func36, Try.ntmps36
  go_wp2_with fail
  refine wp_loop_rounds 2 ?_
  rw [rounds_succ]
  go_wp2_with fail
  rw [rounds_succ]
  go_wp2_with fail
  go_ret
  exact ⟨rfl, rfl⟩
theorem has_BP_B (w : World) : Calls Try.prog 36 #[.string ⟨#[66, 80]⟩, .int .u8 66] w fun e w' => e = .returned (.bool true) ∧ w = w' := by
  go_enter Try.func36, Try.ntmps36
  go_wp2_with fail
  refine wp_loop_rounds 1 ?_
  rw [rounds_succ]
  go_wp2_with fail
  go_ret
  exact ⟨rfl, rfl⟩
theorem has_ABN_D (w : World) : Calls Try.prog 36 #[.string ⟨#[65, 66, 78]⟩, .int .u8 68] w fun e w' => e = .returned (.bool false) ∧ w = w' := by
  go_enter Try.func36, Try.ntmps36
  go_wp2_with fail
  refine wp_loop_rounds 4 ?_
  rw [rounds_succ]
  go_wp2_with fail
  rw [rounds_succ]
  go_wp2_with fail
  rw [rounds_succ]
  go_wp2_with fail
  rw [rounds_succ]
  go_wp2_with fail
  go_ret
  exact ⟨rfl, rfl⟩
theorem has_ABN_A (w : World) : Calls Try.prog 36 #[.string ⟨#[65, 66, 78]⟩, .int .u8 65] w fun e w' => e = .returned (.bool true) ∧ w = w' := by
  go_enter Try.func36, Try.ntmps36
  go_wp2_with fail
  refine wp_loop_rounds 1 ?_
  rw [rounds_succ]
  go_wp2_with fail
  go_ret
  exact ⟨rfl, rfl⟩
theorem has_ABN_P (w : World) : Calls Try.prog 36 #[.string ⟨#[65, 66, 78]⟩, .int .u8 80] w fun e w' => e = .returned (.bool false) ∧ w = w' := by
  go_enter Try.func36, Try.ntmps36
  go_wp2_with fail
  refine wp_loop_rounds 4 ?_
  rw [rounds_succ]
  go_wp2_with fail
  rw [rounds_succ]
  go_wp2_with fail
  rw [rounds_succ]
  go_wp2_with fail
  rw [rounds_succ]
  go_wp2_with fail
  go_ret
  exact ⟨rfl, rfl⟩
theorem has_ABN_B (w : World) : Calls Try.prog 36 #[.string ⟨#[65, 66, 78]⟩, .int .u8 66] w fun e w' => e = .returned (.bool true) ∧ w = w' := by
  go_enter Try.func36, Try.ntmps36
  go_wp2_with fail
  refine wp_loop_rounds 2 ?_
  rw [rounds_succ]
  go_wp2_with fail
  rw [rounds_succ]
  go_wp2_with fail
  go_ret
  exact ⟨rfl, rfl⟩
theorem has_no_D (w : World) : Calls Try.prog 36 #[.string ⟨#[]⟩, .int .u8 68] w fun e w' => e = .returned (.bool false) ∧ w = w' := by
  go_enter Try.func36, Try.ntmps36
  go_wp2_with fail
  refine wp_loop_rounds 1 ?_
  rw [rounds_succ]
  go_wp2_with fail
  go_ret
  exact ⟨rfl, rfl⟩
theorem has_no_A (w : World) : Calls Try.prog 36 #[.string ⟨#[]⟩, .int .u8 65] w fun e w' => e = .returned (.bool false) ∧ w = w' := by
  go_enter Try.func36, Try.ntmps36
  go_wp2_with fail
  refine wp_loop_rounds 1 ?_
  rw [rounds_succ]
  go_wp2_with fail
  go_ret
  exact ⟨rfl, rfl⟩
theorem has_no_P (w : World) : Calls Try.prog 36 #[.string ⟨#[]⟩, .int .u8 80] w fun e w' => e = .returned (.bool false) ∧ w = w' := by
  go_enter Try.func36, Try.ntmps36
  go_wp2_with fail
  refine wp_loop_rounds 1 ?_
  rw [rounds_succ]
  go_wp2_with fail
  go_ret
  exact ⟨rfl, rfl⟩
theorem has_no_B (w : World) : Calls Try.prog 36 #[.string ⟨#[]⟩, .int .u8 66] w fun e w' => e = .returned (.bool false) ∧ w = w' := by
  go_enter Try.func36, Try.ntmps36
  go_wp2_with fail
  refine wp_loop_rounds 1 ?_
  rw [rounds_succ]
  go_wp2_with fail
  go_ret
  exact ⟨rfl, rfl⟩
theorem reg_any (had : Bool) (r : Int) (w : World) : Calls Try.prog 35 #[.bool had, .int .i64 r] w fun e w' => e = .returned (.bool (regOk had r)) ∧ w = w' := by
  by_cases h0 : r = 0
  · subst h0
    go_enter Try.func35, Try.ntmps35
    go_wp2
    go_ret
    exact ⟨by cases had <;> rfl, rfl⟩
  · have hb : (r == 0) = false := by simp [h0]
    cases had
    · have E : Hid (regOk false r = false) := Lib.hid (by simp [regOk, h0])
      go_enter Try.func35, Try.ntmps35
      go_wp2
      go_ret
      exact ⟨by rw [E.out]; rfl, rfl⟩
    · by_cases h1 : 1 ≤ r
      · by_cases h2 : r ≤ 31
        · have E : Hid (regOk true r = true) := Lib.hid (by simp [regOk]; omega)
          go_enter Try.func35, Try.ntmps35
          go_wp2
          go_ret
          exact ⟨by rw [E.out]; rfl, rfl⟩
        · have E : Hid (regOk true r = false) := Lib.hid (by simp [regOk]; omega)
          go_enter Try.func35, Try.ntmps35
          go_wp2
          go_ret
          exact ⟨by rw [E.out]; rfl, rfl⟩
      · have E : Hid (regOk true r = false) := Lib.hid (by simp [regOk]; omega)
        go_enter Try.func35, Try.ntmps35
        go_wp2
        go_ret
        exact ⟨by rw [E.out]; rfl, rfl⟩
theorem rnum_1 (n : Int) (b1 : -2147483648 ≤ n) (b2 : n ≤ 2147483647) (w : World) : Calls Try.prog 34 #[.int .i64 1, .int .i32 n] w fun e w' => e = .returned (.bool (numOk 7 n)) ∧ w = w' := by
  by_cases h1 : 0 ≤ n
  · by_cases h2 : n ≤ 1048575
    · have E : Hid (numOk 7 n = true) := Lib.hid (by simp [numOk]; omega)
      go_enter Try.func34, Try.ntmps34
      go_wp2
      go_ret
      exact ⟨by rw [E.out]; rfl, rfl⟩
    · have E : Hid (numOk 7 n = false) := Lib.hid (by simp [numOk]; omega)
      go_enter Try.func34, Try.ntmps34
      go_wp2
      go_ret
      exact ⟨by rw [E.out]; rfl, rfl⟩
  · have E : Hid (numOk 7 n = false) := Lib.hid (by simp [numOk]; omega)
    go_enter Try.func34, Try.ntmps34
    go_wp2
    go_ret
    exact ⟨by rw [E.out]; rfl, rfl⟩
theorem rnum_2 (n : Int) (b1 : -2147483648 ≤ n) (b2 : n ≤ 2147483647) (w : World) : Calls Try.prog 34 #[.int .i64 2, .int .i32 n] w fun e w' => e = .returned (.bool (numOk 3 n)) ∧ w = w' := by
  by_cases h1 : -2048 ≤ n
  · by_cases h2 : n ≤ 2047
    · have E : Hid (numOk 3 n = true) := Lib.hid (by simp [numOk]; omega)
      go_enter Try.func34, Try.ntmps34
      go_wp2
      go_ret
      exact ⟨by rw [E.out]; rfl, rfl⟩
    · have E : Hid (numOk 3 n = false) := Lib.hid (by simp [numOk]; omega)
      go_enter Try.func34, Try.ntmps34
      go_wp2
      go_ret
      exact ⟨by rw [E.out]; rfl, rfl⟩
  · have E : Hid (numOk 3 n = false) := Lib.hid (by simp [numOk]; omega)
    go_enter Try.func34, Try.ntmps34
    go_wp2
    go_ret
    exact ⟨by rw [E.out]; rfl, rfl⟩
theorem rnum_3 (n : Int) (b1 : -2147483648 ≤ n) (b2 : n ≤ 2147483647) (w : World) : Calls Try.prog 34 #[.int .i64 3, .int .i32 n] w fun e w' => e = .returned (.bool (numOk 3 n)) ∧ w = w' := by
  by_cases h1 : -2048 ≤ n
  · by_cases h2 : n ≤ 2047
    · have E : Hid (numOk 3 n = true) := Lib.hid (by simp [numOk]; omega)
      go_enter Try.func34, Try.ntmps34
      go_wp2
      go_ret
      exact ⟨by rw [E.out]; rfl, rfl⟩
    · have E : Hid (numOk 3 n = false) := Lib.hid (by simp [numOk]; omega)
      go_enter Try.func34, Try.ntmps34
      go_wp2
      go_ret
      exact ⟨by rw [E.out]; rfl, rfl⟩
  · have E : Hid (numOk 3 n = false) := Lib.hid (by simp [numOk]; omega)
    go_enter Try.func34, Try.ntmps34
    go_wp2
    go_ret
    exact ⟨by rw [E.out]; rfl, rfl⟩
theorem rnum_4 (n : Int) (b1 : -2147483648 ≤ n) (b2 : n ≤ 2147483647) (w : World) : Calls Try.prog 34 #[.int .i64 4, .int .i32 n] w fun e w' => e = .returned (.bool (numOk 3 n)) ∧ w = w' := by
  by_cases h1 : -2048 ≤ n
  · by_cases h2 : n ≤ 2047
    · have E : Hid (numOk 3 n = true) := Lib.hid (by simp [numOk]; omega)
      go_enter Try.func34, Try.ntmps34
      go_wp2
      go_ret
      exact ⟨by rw [E.out]; rfl, rfl⟩
    · have E : Hid (numOk 3 n = false) := Lib.hid (by simp [numOk]; omega)
      go_enter Try.func34, Try.ntmps34
      go_wp2
      go_ret
      exact ⟨by rw [E.out]; rfl, rfl⟩
  · have E : Hid (numOk 3 n = false) := Lib.hid (by simp [numOk]; omega)
    go_enter Try.func34, Try.ntmps34
    go_wp2
    go_ret
    exact ⟨by rw [E.out]; rfl, rfl⟩
theorem rnum_5 (n : Int) (b1 : -2147483648 ≤ n) (b2 : n ≤ 2147483647) (w : World) : Calls Try.prog 34 #[.int .i64 5, .int .i32 n] w fun e w' => e = .returned (.bool (numOk 3 n)) ∧ w = w' := by
  by_cases h1 : -2048 ≤ n
  · by_cases h2 : n ≤ 2047
    · have E : Hid (numOk 3 n = true) := Lib.hid (by simp [numOk]; omega)
      go_enter Try.func34, Try.ntmps34
      go_wp2
      go_ret
      exact ⟨by rw [E.out]; rfl, rfl⟩
    · have E : Hid (numOk 3 n = false) := Lib.hid (by simp [numOk]; omega)
      go_enter Try.func34, Try.ntmps34
      go_wp2
      go_ret
      exact ⟨by rw [E.out]; rfl, rfl⟩
  · have E : Hid (numOk 3 n = false) := Lib.hid (by simp [numOk]; omega)
    go_enter Try.func34, Try.ntmps34
    go_wp2
    go_ret
    exact ⟨by rw [E.out]; rfl, rfl⟩
theorem rnum_6 (n : Int) (b1 : -2147483648 ≤ n) (b2 : n ≤ 2147483647) (w : World) : Calls Try.prog 34 #[.int .i64 6, .int .i32 n] w fun e w' => e = .returned (.bool (numOk 3 n)) ∧ w = w' := by
  by_cases h1 : -2048 ≤ n
  · by_cases h2 : n ≤ 2047
    · have E : Hid (numOk 3 n = true) := Lib.hid (by simp [numOk]; omega)
      go_enter Try.func34, Try.ntmps34
      go_wp2
      go_ret
      exact ⟨by rw [E.out]; rfl, rfl⟩
    · have E : Hid (numOk 3 n = false) := Lib.hid (by simp [numOk]; omega)
      go_enter Try.func34, Try.ntmps34
      go_wp2
      go_ret
      exact ⟨by rw [E.out]; rfl, rfl⟩
  · have E : Hid (numOk 3 n = false) := Lib.hid (by simp [numOk]; omega)
    go_enter Try.func34, Try.ntmps34
    go_wp2
    go_ret
    exact ⟨by rw [E.out]; rfl, rfl⟩
theorem rnum_7 (n : Int) (b1 : -2147483648 ≤ n) (b2 : n ≤ 2147483647) (w : World) : Calls Try.prog 34 #[.int .i64 7, .int .i32 n] w fun e w' => e = .returned (.bool (numOk 3 n)) ∧ w = w' := by
  by_cases h1 : -2048 ≤ n
  · by_cases h2 : n ≤ 2047
    · have E : Hid (numOk 3 n = true) := Lib.hid (by simp [numOk]; omega)
      go_enter Try.func34, Try.ntmps34
      go_wp2
      go_ret
      exact ⟨by rw [E.out]; rfl, rfl⟩
    · have E : Hid (numOk 3 n = false) := Lib.hid (by simp [numOk]; omega)
      go_enter Try.func34, Try.ntmps34
      go_wp2
      go_ret
      exact ⟨by rw [E.out]; rfl, rfl⟩
  · have E : Hid (numOk 3 n = false) := Lib.hid (by simp [numOk]; omega)
    go_enter Try.func34, Try.ntmps34
    go_wp2
    go_ret
    exact ⟨by rw [E.out]; rfl, rfl⟩
theorem rnum_8 (n : Int) (b1 : -2147483648 ≤ n) (b2 : n ≤ 2147483647) (w : World) : Calls Try.prog 34 #[.int .i64 8, .int .i32 n] w fun e w' => e = .returned (.bool (numOk 4 n)) ∧ w = w' := by
  by_cases h1 : 0 ≤ n
  · by_cases h2 : n ≤ 31
    · have E : Hid (numOk 4 n = true) := Lib.hid (by simp [numOk]; omega)
      go_enter Try.func34, Try.ntmps34
      go_wp2
      go_ret
      exact ⟨by rw [E.out]; rfl, rfl⟩
    · have E : Hid (numOk 4 n = false) := Lib.hid (by simp [numOk]; omega)
      go_enter Try.func34, Try.ntmps34
      go_wp2
      go_ret
      exact ⟨by rw [E.out]; rfl, rfl⟩
  · have E : Hid (numOk 4 n = false) := Lib.hid (by simp [numOk]; omega)
    go_enter Try.func34, Try.ntmps34
    go_wp2
    go_ret
    exact ⟨by rw [E.out]; rfl, rfl⟩
theorem rnum_9 (n : Int) (b1 : -2147483648 ≤ n) (b2 : n ≤ 2147483647) (w : World) : Calls Try.prog 34 #[.int .i64 9, .int .i32 n] w fun e w' => e = .returned (.bool (numOk 4 n)) ∧ w = w' := by
  by_cases h1 : 0 ≤ n
  · by_cases h2 : n ≤ 31
    · have E : Hid (numOk 4 n = true) := Lib.hid (by simp [numOk]; omega)
      go_enter Try.func34, Try.ntmps34
      go_wp2
      go_ret
      exact ⟨by rw [E.out]; rfl, rfl⟩
    · have E : Hid (numOk 4 n = false) := Lib.hid (by simp [numOk]; omega)
      go_enter Try.func34, Try.ntmps34
      go_wp2
      go_ret
      exact ⟨by rw [E.out]; rfl, rfl⟩
  · have E : Hid (numOk 4 n = false) := Lib.hid (by simp [numOk]; omega)
    go_enter Try.func34, Try.ntmps34
    go_wp2
    go_ret
    exact ⟨by rw [E.out]; rfl, rfl⟩
theorem rnum_10 (n : Int) (b1 : -2147483648 ≤ n) (b2 : n ≤ 2147483647) (w : World) : Calls Try.prog 34 #[.int .i64 10, .int .i32 n] w fun e w' => e = .returned (.bool (numOk 4 n)) ∧ w = w' := by
  by_cases h1 : 0 ≤ n
  · by_cases h2 : n ≤ 31
    · have E : Hid (numOk 4 n = true) := Lib.hid (by simp [numOk]; omega)
      go_enter Try.func34, Try.ntmps34
      go_wp2
      go_ret
      exact ⟨by rw [E.out]; rfl, rfl⟩
    · have E : Hid (numOk 4 n = false) := Lib.hid (by simp [numOk]; omega)
      go_enter Try.func34, Try.ntmps34
      go_wp2
      go_ret
      exact ⟨by rw [E.out]; rfl, rfl⟩
  · have E : Hid (numOk 4 n = false) := Lib.hid (by simp [numOk]; omega)
    go_enter Try.func34, Try.ntmps34
    go_wp2
    go_ret
    exact ⟨by rw [E.out]; rfl, rfl⟩
theorem rnum_11 (n : Int) (b1 : -2147483648 ≤ n) (b2 : n ≤ 2147483647) (w : World) : Calls Try.prog 34 #[.int .i64 11, .int .i32 n] w fun e w' => e = .returned (.bool (numOk 2 n)) ∧ w = w' := by
  have E : Hid (numOk 2 n = (n == 0)) := Lib.hid rfl
  go_enter Try.func34, Try.ntmps34
  go_wp2
  go_ret
  exact ⟨by rw [E.out]; rfl, rfl⟩
theorem rnum_12 (n : Int) (b1 : -2147483648 ≤ n) (b2 : n ≤ 2147483647) (w : World) : Calls Try.prog 34 #[.int .i64 12, .int .i32 n] w fun e w' => e = .returned (.bool (numOk 2 n)) ∧ w = w' := by
  have E : Hid (numOk 2 n = (n == 0)) := Lib.hid rfl
  go_enter Try.func34, Try.ntmps34
  go_wp2
  go_ret
  exact ⟨by rw [E.out]; rfl, rfl⟩
theorem rnum_13 (n : Int) (b1 : -2147483648 ≤ n) (b2 : n ≤ 2147483647) (w : World) : Calls Try.prog 34 #[.int .i64 13, .int .i32 n] w fun e w' => e = .returned (.bool (numOk 2 n)) ∧ w = w' := by
  have E : Hid (numOk 2 n = (n == 0)) := Lib.hid rfl
  go_enter Try.func34, Try.ntmps34
  go_wp2
  go_ret
  exact ⟨by rw [E.out]; rfl, rfl⟩
theorem rnum_14 (n : Int) (b1 : -2147483648 ≤ n) (b2 : n ≤ 2147483647) (w : World) : Calls Try.prog 34 #[.int .i64 14, .int .i32 n] w fun e w' => e = .returned (.bool (numOk 2 n)) ∧ w = w' := by
  have E : Hid (numOk 2 n = (n == 0)) := Lib.hid rfl
  go_enter Try.func34, Try.ntmps34
  go_wp2
  go_ret
  exact ⟨by rw [E.out]; rfl, rfl⟩
theorem rnum_15 (n : Int) (b1 : -2147483648 ≤ n) (b2 : n ≤ 2147483647) (w : World) : Calls Try.prog 34 #[.int .i64 15, .int .i32 n] w fun e w' => e = .returned (.bool (numOk 2 n)) ∧ w = w' := by
  have E : Hid (numOk 2 n = (n == 0)) := Lib.hid rfl
  go_enter Try.func34, Try.ntmps34
  go_wp2
  go_ret
  exact ⟨by rw [E.out]; rfl, rfl⟩
theorem rnum_16 (n : Int) (b1 : -2147483648 ≤ n) (b2 : n ≤ 2147483647) (w : World) : Calls Try.prog 34 #[.int .i64 16, .int .i32 n] w fun e w' => e = .returned (.bool (numOk 2 n)) ∧ w = w' := by
  have E : Hid (numOk 2 n = (n == 0)) := Lib.hid rfl
  go_enter Try.func34, Try.ntmps34
  go_wp2
  go_ret
  exact ⟨by rw [E.out]; rfl, rfl⟩
theorem rnum_17 (n : Int) (b1 : -2147483648 ≤ n) (b2 : n ≤ 2147483647) (w : World) : Calls Try.prog 34 #[.int .i64 17, .int .i32 n] w fun e w' => e = .returned (.bool (numOk 2 n)) ∧ w = w' := by
  have E : Hid (numOk 2 n = (n == 0)) := Lib.hid rfl
  go_enter Try.func34, Try.ntmps34
  go_wp2
  go_ret
  exact ⟨by rw [E.out]; rfl, rfl⟩
theorem rnum_18 (n : Int) (b1 : -2147483648 ≤ n) (b2 : n ≤ 2147483647) (w : World) : Calls Try.prog 34 #[.int .i64 18, .int .i32 n] w fun e w' => e = .returned (.bool (numOk 2 n)) ∧ w = w' := by
  have E : Hid (numOk 2 n = (n == 0)) := Lib.hid rfl
  go_enter Try.func34, Try.ntmps34
  go_wp2
  go_ret
  exact ⟨by rw [E.out]; rfl, rfl⟩
theorem rnum_19 (n : Int) (b1 : -2147483648 ≤ n) (b2 : n ≤ 2147483647) (w : World) : Calls Try.prog 34 #[.int .i64 19, .int .i32 n] w fun e w' => e = .returned (.bool (numOk 2 n)) ∧ w = w' := by
  have E : Hid (numOk 2 n = (n == 0)) := Lib.hid rfl
  go_enter Try.func34, Try.ntmps34
  go_wp2
  go_ret
  exact ⟨by rw [E.out]; rfl, rfl⟩
theorem rnum_20 (n : Int) (b1 : -2147483648 ≤ n) (b2 : n ≤ 2147483647) (w : World) : Calls Try.prog 34 #[.int .i64 20, .int .i32 n] w fun e w' => e = .returned (.bool (numOk 2 n)) ∧ w = w' := by
  have E : Hid (numOk 2 n = (n == 0)) := Lib.hid rfl
  go_enter Try.func34, Try.ntmps34
  go_wp2
  go_ret
  exact ⟨by rw [E.out]; rfl, rfl⟩
theorem rnum_21 (n : Int) (b1 : -2147483648 ≤ n) (b2 : n ≤ 2147483647) (w : World) : Calls Try.prog 34 #[.int .i64 21, .int .i32 n] w fun e w' => e = .returned (.bool (numOk 2 n)) ∧ w = w' := by
  have E : Hid (numOk 2 n = (n == 0)) := Lib.hid rfl
  go_enter Try.func34, Try.ntmps34
  go_wp2
  go_ret
  exact ⟨by rw [E.out]; rfl, rfl⟩
theorem rnum_22 (n : Int) (b1 : -2147483648 ≤ n) (b2 : n ≤ 2147483647) (w : World) : Calls Try.prog 34 #[.int .i64 22, .int .i32 n] w fun e w' => e = .returned (.bool (numOk 2 n)) ∧ w = w' := by
  have E : Hid (numOk 2 n = (n == 0)) := Lib.hid rfl
  go_enter Try.func34, Try.ntmps34
  go_wp2
  go_ret
  exact ⟨by rw [E.out]; rfl, rfl⟩
theorem rnum_23 (n : Int) (b1 : -2147483648 ≤ n) (b2 : n ≤ 2147483647) (w : World) : Calls Try.prog 34 #[.int .i64 23, .int .i32 n] w fun e w' => e = .returned (.bool (numOk 2 n)) ∧ w = w' := by
  have E : Hid (numOk 2 n = (n == 0)) := Lib.hid rfl
  go_enter Try.func34, Try.ntmps34
  go_wp2
  go_ret
  exact ⟨by rw [E.out]; rfl, rfl⟩
theorem rnum_24 (n : Int) (b1 : -2147483648 ≤ n) (b2 : n ≤ 2147483647) (w : World) : Calls Try.prog 34 #[.int .i64 24, .int .i32 n] w fun e w' => e = .returned (.bool (numOk 3 n)) ∧ w = w' := by
  by_cases h1 : -2048 ≤ n
  · by_cases h2 : n ≤ 2047
    · have E : Hid (numOk 3 n = true) := Lib.hid (by simp [numOk]; omega)
      go_enter Try.func34, Try.ntmps34
      go_wp2
      go_ret
      exact ⟨by rw [E.out]; rfl, rfl⟩
    · have E : Hid (numOk 3 n = false) := Lib.hid (by simp [numOk]; omega)
      go_enter Try.func34, Try.ntmps34
      go_wp2
      go_ret
      exact ⟨by rw [E.out]; rfl, rfl⟩
  · have E : Hid (numOk 3 n = false) := Lib.hid (by simp [numOk]; omega)
    go_enter Try.func34, Try.ntmps34
    go_wp2
    go_ret
    exact ⟨by rw [E.out]; rfl, rfl⟩
theorem rnum_25 (n : Int) (b1 : -2147483648 ≤ n) (b2 : n ≤ 2147483647) (w : World) : Calls Try.prog 34 #[.int .i64 25, .int .i32 n] w fun e w' => e = .returned (.bool (numOk 5 n)) ∧ w = w' := by
  by_cases h1 : -2048 ≤ n
  · by_cases h2 : n ≤ 2047
    · have E : Hid (numOk 5 n = true) := Lib.hid (by simp [numOk]; omega)
      go_enter Try.func34, Try.ntmps34
      go_wp2
      go_ret
      exact ⟨by rw [E.out]; rfl, rfl⟩
    · have E : Hid (numOk 5 n = false) := Lib.hid (by simp [numOk]; omega)
      go_enter Try.func34, Try.ntmps34
      go_wp2
      go_ret
      exact ⟨by rw [E.out]; rfl, rfl⟩
  · have E : Hid (numOk 5 n = false) := Lib.hid (by simp [numOk]; omega)
    go_enter Try.func34, Try.ntmps34
    go_wp2
    go_ret
    exact ⟨by rw [E.out]; rfl, rfl⟩
theorem rnum_26 (n : Int) (b1 : -2147483648 ≤ n) (b2 : n ≤ 2147483647) (w : World) : Calls Try.prog 34 #[.int .i64 26, .int .i32 n] w fun e w' => e = .returned (.bool (numOk 6 n)) ∧ w = w' := by
  have ht := tm2 n
  by_cases h1 : -4096 ≤ n
  · by_cases h2 : n ≤ 4094
    · by_cases h3 : n.tmod 2 = 0
      · have h4 : (n.tmod 2 == 0) = true := by simp [h3]
        have E : Hid (numOk 6 n = true) := Lib.hid (by simp [numOk]; omega)
        clear ht h3
        go_enter Try.func34, Try.ntmps34
        go_wp2
        go_ret
        exact ⟨by rw [E.out]; rfl, rfl⟩
      · have h4 : (n.tmod 2 == 0) = false := by simp [h3]
        have E : Hid (numOk 6 n = false) := Lib.hid (by simp [numOk]; omega)
        clear ht h3
        go_enter Try.func34, Try.ntmps34
        go_wp2
        go_ret
        exact ⟨by rw [E.out]; rfl, rfl⟩
    · have E : Hid (numOk 6 n = false) := Lib.hid (by simp [numOk]; omega)
      clear ht
      go_enter Try.func34, Try.ntmps34
      go_wp2
      go_ret
      exact ⟨by rw [E.out]; rfl, rfl⟩
  · have E : Hid (numOk 6 n = false) := Lib.hid (by simp [numOk]; omega)
    clear ht
    go_enter Try.func34, Try.ntmps34
    go_wp2
    go_ret
    exact ⟨by rw [E.out]; rfl, rfl⟩
theorem rnum_27 (n : Int) (b1 : -2147483648 ≤ n) (b2 : n ≤ 2147483647) (w : World) : Calls Try.prog 34 #[.int .i64 27, .int .i32 n] w fun e w' => e = .returned (.bool (numOk 6 n)) ∧ w = w' := by
  have ht := tm2 n
  by_cases h1 : -4096 ≤ n
  · by_cases h2 : n ≤ 4094
    · by_cases h3 : n.tmod 2 = 0
      · have h4 : (n.tmod 2 == 0) = true := by simp [h3]
        have E : Hid (numOk 6 n = true) := Lib.hid (by simp [numOk]; omega)
        clear ht h3
        go_enter Try.func34, Try.ntmps34
        go_wp2
        go_ret
        exact ⟨by rw [E.out]; rfl, rfl⟩
      · have h4 : (n.tmod 2 == 0) = false := by simp [h3]
        have E : Hid (numOk 6 n = false) := Lib.hid (by simp [numOk]; omega)
        clear ht h3
        go_enter Try.func34, Try.ntmps34
        go_wp2
        go_ret
        exact ⟨by rw [E.out]; rfl, rfl⟩
    · have E : Hid (numOk 6 n = false) := Lib.hid (by simp [numOk]; omega)
      clear ht
      go_enter Try.func34, Try.ntmps34
      go_wp2
      go_ret
      exact ⟨by rw [E.out]; rfl, rfl⟩
  · have E : Hid (numOk 6 n = false) := Lib.hid (by simp [numOk]; omega)
    clear ht
    go_enter Try.func34, Try.ntmps34
    go_wp2
    go_ret
    exact ⟨by rw [E.out]; rfl, rfl⟩
theorem rnum_28 (n : Int) (b1 : -2147483648 ≤ n) (b2 : n ≤ 2147483647) (w : World) : Calls Try.prog 34 #[.int .i64 28, .int .i32 n] w fun e w' => e = .returned (.bool (numOk 8 n)) ∧ w = w' := by
  have ht := tm2 n
  by_cases h1 : -1048576 ≤ n
  · by_cases h2 : n ≤ 1048574
    · by_cases h3 : n.tmod 2 = 0
      · have h4 : (n.tmod 2 == 0) = true := by simp [h3]
        have E : Hid (numOk 8 n = true) := Lib.hid (by simp [numOk]; omega)
        clear ht h3
        go_enter Try.func34, Try.ntmps34
        go_wp2
        go_ret
        exact ⟨by rw [E.out]; rfl, rfl⟩
      · have h4 : (n.tmod 2 == 0) = false := by simp [h3]
        have E : Hid (numOk 8 n = false) := Lib.hid (by simp [numOk]; omega)
        clear ht h3
        go_enter Try.func34, Try.ntmps34
        go_wp2
        go_ret
        exact ⟨by rw [E.out]; rfl, rfl⟩
    · have E : Hid (numOk 8 n = false) := Lib.hid (by simp [numOk]; omega)
      clear ht
      go_enter Try.func34, Try.ntmps34
      go_wp2
      go_ret
      exact ⟨by rw [E.out]; rfl, rfl⟩
  · have E : Hid (numOk 8 n = false) := Lib.hid (by simp [numOk]; omega)
    clear ht
    go_enter Try.func34, Try.ntmps34
    go_wp2
    go_ret
    exact ⟨by rw [E.out]; rfl, rfl⟩
theorem rnum_29 (n : Int) (b1 : -2147483648 ≤ n) (b2 : n ≤ 2147483647) (w : World) : Calls Try.prog 34 #[.int .i64 29, .int .i32 n] w fun e w' => e = .returned (.bool (numOk 3 n)) ∧ w = w' := by
  by_cases h1 : -2048 ≤ n
  · by_cases h2 : n ≤ 2047
    · have E : Hid (numOk 3 n = true) := Lib.hid (by simp [numOk]; omega)
      go_enter Try.func34, Try.ntmps34
      go_wp2
      go_ret
      exact ⟨by rw [E.out]; rfl, rfl⟩
    · have E : Hid (numOk 3 n = false) := Lib.hid (by simp [numOk]; omega)
      go_enter Try.func34, Try.ntmps34
      go_wp2
      go_ret
      exact ⟨by rw [E.out]; rfl, rfl⟩
  · have E : Hid (numOk 3 n = false) := Lib.hid (by simp [numOk]; omega)
    go_enter Try.func34, Try.ntmps34
    go_wp2
    go_ret
    exact ⟨by rw [E.out]; rfl, rfl⟩
theorem rnum_30 (n : Int) (b1 : -2147483648 ≤ n) (b2 : n ≤ 2147483647) (w : World) : Calls Try.prog 34 #[.int .i64 30, .int .i32 n] w fun e w' => e = .returned (.bool (numOk 1 n)) ∧ w = w' := by
  have E : Hid (numOk 1 n = (n == 0)) := Lib.hid rfl
  go_enter Try.func34, Try.ntmps34
  go_wp2
  go_ret
  exact ⟨by rw [E.out]; rfl, rfl⟩
end Go.Proofs.Ytadgemcpahfkoaa
