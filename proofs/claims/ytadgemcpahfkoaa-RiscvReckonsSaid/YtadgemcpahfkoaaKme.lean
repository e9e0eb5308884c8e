/-
  Contracts of package asm: what an instruction has (operands), whether it may be (MayLine of an instruction without a symbol).
-/
import Derived.Test.YtadgemcpahfkoaaKmb
import Derived.OpenShut
import Derived.Lib.Hide
import Derived.Deep.RegionWith
namespace Go.Proofs.Ytadgemcpahfkoaa
open Go.RowKit
set_option linter.unusedVariables false
set_option linter.unusedSimpArgs false
set_option maxRecDepth 100000

theorem these_any (v : Value) (w : World) :
    Calls Try.prog 94 #[v] w fun e w' => e = .returned v ∧ w = w' := by
  go_enter Try.func94, Try.ntmps94
  go_wp2
  go_ret
  exact ⟨rfl, rfl⟩
/-- What an instruction has, as asm's operands. -/
def opsL (op : Int) : List Int :=
  if op = 1 ∨ op = 28 then [0, 3] else if 2 ≤ op ∧ op ≤ 10 then [0, 1, 3] else if 11 ≤ op ∧ op ≤ 23 then [0, 1, 2] else if op = 24 ∨ op = 29 then [0, 4] else if op = 25 then [2, 4] else if op = 26 ∨ op = 27 then [1, 2, 3] else []

theorem operands_1 (w : World) :
    Calls Try.prog 72 #[.int .i64 1] w fun e w' => e = .returned (.tuple #[.slice (some ⟨w.heap.size, 0, none⟩) 2 2, .bool true]) ∧ w' = w.alloc (.cells #[.int .i64 0, .int .i64 3] 125) := by
  go_enter Try.func72, Try.ntmps72
  go_wp2_with (go_at_call 94; refine (these_any _ _).mono ?_; rintro e w' ⟨rfl, rfl⟩)
  go_ret2
  exact ⟨rfl, rfl⟩
theorem operands_28 (w : World) :
    Calls Try.prog 72 #[.int .i64 28] w fun e w' => e = .returned (.tuple #[.slice (some ⟨w.heap.size, 0, none⟩) 2 2, .bool true]) ∧ w' = w.alloc (.cells #[.int .i64 0, .int .i64 3] 125) := by
  go_enter Try.func72, Try.ntmps72
  go_wp2_with (go_at_call 94; refine (these_any _ _).mono ?_; rintro e w' ⟨rfl, rfl⟩)
  go_ret2
  exact ⟨rfl, rfl⟩
theorem operands_2 (w : World) :
    Calls Try.prog 72 #[.int .i64 2] w fun e w' => e = .returned (.tuple #[.slice (some ⟨w.heap.size, 0, none⟩) 3 3, .bool true]) ∧ w' = w.alloc (.cells #[.int .i64 0, .int .i64 1, .int .i64 3] 125) := by
  go_enter Try.func72, Try.ntmps72
  go_wp2_with (go_at_call 94; refine (these_any _ _).mono ?_; rintro e w' ⟨rfl, rfl⟩)
  go_ret2
  exact ⟨rfl, rfl⟩
theorem operands_3 (w : World) :
    Calls Try.prog 72 #[.int .i64 3] w fun e w' => e = .returned (.tuple #[.slice (some ⟨w.heap.size, 0, none⟩) 3 3, .bool true]) ∧ w' = w.alloc (.cells #[.int .i64 0, .int .i64 1, .int .i64 3] 125) := by
  go_enter Try.func72, Try.ntmps72
  go_wp2_with (go_at_call 94; refine (these_any _ _).mono ?_; rintro e w' ⟨rfl, rfl⟩)
  go_ret2
  exact ⟨rfl, rfl⟩
theorem operands_4 (w : World) :
    Calls Try.prog 72 #[.int .i64 4] w fun e w' => e = .returned (.tuple #[.slice (some ⟨w.heap.size, 0, none⟩) 3 3, .bool true]) ∧ w' = w.alloc (.cells #[.int .i64 0, .int .i64 1, .int .i64 3] 125) := by
  go_enter Try.func72, Try.ntmps72
  go_wp2_with (go_at_call 94; refine (these_any _ _).mono ?_; rintro e w' ⟨rfl, rfl⟩)
  go_ret2
  exact ⟨rfl, rfl⟩
theorem operands_5 (w : World) :
    Calls Try.prog 72 #[.int .i64 5] w fun e w' => e = .returned (.tuple #[.slice (some ⟨w.heap.size, 0, none⟩) 3 3, .bool true]) ∧ w' = w.alloc (.cells #[.int .i64 0, .int .i64 1, .int .i64 3] 125) := by
  go_enter Try.func72, Try.ntmps72
  go_wp2_with (go_at_call 94; refine (these_any _ _).mono ?_; rintro e w' ⟨rfl, rfl⟩)
  go_ret2
  exact ⟨rfl, rfl⟩
theorem operands_6 (w : World) :
    Calls Try.prog 72 #[.int .i64 6] w fun e w' => e = .returned (.tuple #[.slice (some ⟨w.heap.size, 0, none⟩) 3 3, .bool true]) ∧ w' = w.alloc (.cells #[.int .i64 0, .int .i64 1, .int .i64 3] 125) := by
  go_enter Try.func72, Try.ntmps72
  go_wp2_with (go_at_call 94; refine (these_any _ _).mono ?_; rintro e w' ⟨rfl, rfl⟩)
  go_ret2
  exact ⟨rfl, rfl⟩
theorem operands_7 (w : World) :
    Calls Try.prog 72 #[.int .i64 7] w fun e w' => e = .returned (.tuple #[.slice (some ⟨w.heap.size, 0, none⟩) 3 3, .bool true]) ∧ w' = w.alloc (.cells #[.int .i64 0, .int .i64 1, .int .i64 3] 125) := by
  go_enter Try.func72, Try.ntmps72
  go_wp2_with (go_at_call 94; refine (these_any _ _).mono ?_; rintro e w' ⟨rfl, rfl⟩)
  go_ret2
  exact ⟨rfl, rfl⟩
theorem operands_8 (w : World) :
    Calls Try.prog 72 #[.int .i64 8] w fun e w' => e = .returned (.tuple #[.slice (some ⟨w.heap.size, 0, none⟩) 3 3, .bool true]) ∧ w' = w.alloc (.cells #[.int .i64 0, .int .i64 1, .int .i64 3] 125) := by
  go_enter Try.func72, Try.ntmps72
  go_wp2_with (go_at_call 94; refine (these_any _ _).mono ?_; rintro e w' ⟨rfl, rfl⟩)
  go_ret2
  exact ⟨rfl, rfl⟩
theorem operands_9 (w : World) :
    Calls Try.prog 72 #[.int .i64 9] w fun e w' => e = .returned (.tuple #[.slice (some ⟨w.heap.size, 0, none⟩) 3 3, .bool true]) ∧ w' = w.alloc (.cells #[.int .i64 0, .int .i64 1, .int .i64 3] 125) := by
  go_enter Try.func72, Try.ntmps72
  go_wp2_with (go_at_call 94; refine (these_any _ _).mono ?_; rintro e w' ⟨rfl, rfl⟩)
  go_ret2
  exact ⟨rfl, rfl⟩
theorem operands_10 (w : World) :
    Calls Try.prog 72 #[.int .i64 10] w fun e w' => e = .returned (.tuple #[.slice (some ⟨w.heap.size, 0, none⟩) 3 3, .bool true]) ∧ w' = w.alloc (.cells #[.int .i64 0, .int .i64 1, .int .i64 3] 125) := by
  go_enter Try.func72, Try.ntmps72
  go_wp2_with (go_at_call 94; refine (these_any _ _).mono ?_; rintro e w' ⟨rfl, rfl⟩)
  go_ret2
  exact ⟨rfl, rfl⟩
theorem operands_11 (w : World) :
    Calls Try.prog 72 #[.int .i64 11] w fun e w' => e = .returned (.tuple #[.slice (some ⟨w.heap.size, 0, none⟩) 3 3, .bool true]) ∧ w' = w.alloc (.cells #[.int .i64 0, .int .i64 1, .int .i64 2] 125) := by
  go_enter Try.func72, Try.ntmps72
  go_wp2_with (go_at_call 94; refine (these_any _ _).mono ?_; rintro e w' ⟨rfl, rfl⟩)
  go_ret2
  exact ⟨rfl, rfl⟩
theorem operands_12 (w : World) :
    Calls Try.prog 72 #[.int .i64 12] w fun e w' => e = .returned (.tuple #[.slice (some ⟨w.heap.size, 0, none⟩) 3 3, .bool true]) ∧ w' = w.alloc (.cells #[.int .i64 0, .int .i64 1, .int .i64 2] 125) := by
  go_enter Try.func72, Try.ntmps72
  go_wp2_with (go_at_call 94; refine (these_any _ _).mono ?_; rintro e w' ⟨rfl, rfl⟩)
  go_ret2
  exact ⟨rfl, rfl⟩
theorem operands_13 (w : World) :
    Calls Try.prog 72 #[.int .i64 13] w fun e w' => e = .returned (.tuple #[.slice (some ⟨w.heap.size, 0, none⟩) 3 3, .bool true]) ∧ w' = w.alloc (.cells #[.int .i64 0, .int .i64 1, .int .i64 2] 125) := by
  go_enter Try.func72, Try.ntmps72
  go_wp2_with (go_at_call 94; refine (these_any _ _).mono ?_; rintro e w' ⟨rfl, rfl⟩)
  go_ret2
  exact ⟨rfl, rfl⟩
theorem operands_14 (w : World) :
    Calls Try.prog 72 #[.int .i64 14] w fun e w' => e = .returned (.tuple #[.slice (some ⟨w.heap.size, 0, none⟩) 3 3, .bool true]) ∧ w' = w.alloc (.cells #[.int .i64 0, .int .i64 1, .int .i64 2] 125) := by
  go_enter Try.func72, Try.ntmps72
  go_wp2_with (go_at_call 94; refine (these_any _ _).mono ?_; rintro e w' ⟨rfl, rfl⟩)
  go_ret2
  exact ⟨rfl, rfl⟩
theorem operands_15 (w : World) :
    Calls Try.prog 72 #[.int .i64 15] w fun e w' => e = .returned (.tuple #[.slice (some ⟨w.heap.size, 0, none⟩) 3 3, .bool true]) ∧ w' = w.alloc (.cells #[.int .i64 0, .int .i64 1, .int .i64 2] 125) := by
  go_enter Try.func72, Try.ntmps72
  go_wp2_with (go_at_call 94; refine (these_any _ _).mono ?_; rintro e w' ⟨rfl, rfl⟩)
  go_ret2
  exact ⟨rfl, rfl⟩
theorem operands_16 (w : World) :
    Calls Try.prog 72 #[.int .i64 16] w fun e w' => e = .returned (.tuple #[.slice (some ⟨w.heap.size, 0, none⟩) 3 3, .bool true]) ∧ w' = w.alloc (.cells #[.int .i64 0, .int .i64 1, .int .i64 2] 125) := by
  go_enter Try.func72, Try.ntmps72
  go_wp2_with (go_at_call 94; refine (these_any _ _).mono ?_; rintro e w' ⟨rfl, rfl⟩)
  go_ret2
  exact ⟨rfl, rfl⟩
theorem operands_17 (w : World) :
    Calls Try.prog 72 #[.int .i64 17] w fun e w' => e = .returned (.tuple #[.slice (some ⟨w.heap.size, 0, none⟩) 3 3, .bool true]) ∧ w' = w.alloc (.cells #[.int .i64 0, .int .i64 1, .int .i64 2] 125) := by
  go_enter Try.func72, Try.ntmps72
  go_wp2_with (go_at_call 94; refine (these_any _ _).mono ?_; rintro e w' ⟨rfl, rfl⟩)
  go_ret2
  exact ⟨rfl, rfl⟩
theorem operands_18 (w : World) :
    Calls Try.prog 72 #[.int .i64 18] w fun e w' => e = .returned (.tuple #[.slice (some ⟨w.heap.size, 0, none⟩) 3 3, .bool true]) ∧ w' = w.alloc (.cells #[.int .i64 0, .int .i64 1, .int .i64 2] 125) := by
  go_enter Try.func72, Try.ntmps72
  go_wp2_with (go_at_call 94; refine (these_any _ _).mono ?_; rintro e w' ⟨rfl, rfl⟩)
  go_ret2
  exact ⟨rfl, rfl⟩
theorem operands_19 (w : World) :
    Calls Try.prog 72 #[.int .i64 19] w fun e w' => e = .returned (.tuple #[.slice (some ⟨w.heap.size, 0, none⟩) 3 3, .bool true]) ∧ w' = w.alloc (.cells #[.int .i64 0, .int .i64 1, .int .i64 2] 125) := by
  go_enter Try.func72, Try.ntmps72
  go_wp2_with (go_at_call 94; refine (these_any _ _).mono ?_; rintro e w' ⟨rfl, rfl⟩)
  go_ret2
  exact ⟨rfl, rfl⟩
theorem operands_20 (w : World) :
    Calls Try.prog 72 #[.int .i64 20] w fun e w' => e = .returned (.tuple #[.slice (some ⟨w.heap.size, 0, none⟩) 3 3, .bool true]) ∧ w' = w.alloc (.cells #[.int .i64 0, .int .i64 1, .int .i64 2] 125) := by
  go_enter Try.func72, Try.ntmps72
  go_wp2_with (go_at_call 94; refine (these_any _ _).mono ?_; rintro e w' ⟨rfl, rfl⟩)
  go_ret2
  exact ⟨rfl, rfl⟩
theorem operands_21 (w : World) :
    Calls Try.prog 72 #[.int .i64 21] w fun e w' => e = .returned (.tuple #[.slice (some ⟨w.heap.size, 0, none⟩) 3 3, .bool true]) ∧ w' = w.alloc (.cells #[.int .i64 0, .int .i64 1, .int .i64 2] 125) := by
  go_enter Try.func72, Try.ntmps72
  go_wp2_with (go_at_call 94; refine (these_any _ _).mono ?_; rintro e w' ⟨rfl, rfl⟩)
  go_ret2
  exact ⟨rfl, rfl⟩
theorem operands_22 (w : World) :
    Calls Try.prog 72 #[.int .i64 22] w fun e w' => e = .returned (.tuple #[.slice (some ⟨w.heap.size, 0, none⟩) 3 3, .bool true]) ∧ w' = w.alloc (.cells #[.int .i64 0, .int .i64 1, .int .i64 2] 125) := by
  go_enter Try.func72, Try.ntmps72
  go_wp2_with (go_at_call 94; refine (these_any _ _).mono ?_; rintro e w' ⟨rfl, rfl⟩)
  go_ret2
  exact ⟨rfl, rfl⟩
theorem operands_23 (w : World) :
    Calls Try.prog 72 #[.int .i64 23] w fun e w' => e = .returned (.tuple #[.slice (some ⟨w.heap.size, 0, none⟩) 3 3, .bool true]) ∧ w' = w.alloc (.cells #[.int .i64 0, .int .i64 1, .int .i64 2] 125) := by
  go_enter Try.func72, Try.ntmps72
  go_wp2_with (go_at_call 94; refine (these_any _ _).mono ?_; rintro e w' ⟨rfl, rfl⟩)
  go_ret2
  exact ⟨rfl, rfl⟩
theorem operands_24 (w : World) :
    Calls Try.prog 72 #[.int .i64 24] w fun e w' => e = .returned (.tuple #[.slice (some ⟨w.heap.size, 0, none⟩) 2 2, .bool true]) ∧ w' = w.alloc (.cells #[.int .i64 0, .int .i64 4] 125) := by
  go_enter Try.func72, Try.ntmps72
  go_wp2_with (go_at_call 94; refine (these_any _ _).mono ?_; rintro e w' ⟨rfl, rfl⟩)
  go_ret2
  exact ⟨rfl, rfl⟩
theorem operands_29 (w : World) :
    Calls Try.prog 72 #[.int .i64 29] w fun e w' => e = .returned (.tuple #[.slice (some ⟨w.heap.size, 0, none⟩) 2 2, .bool true]) ∧ w' = w.alloc (.cells #[.int .i64 0, .int .i64 4] 125) := by
  go_enter Try.func72, Try.ntmps72
  go_wp2_with (go_at_call 94; refine (these_any _ _).mono ?_; rintro e w' ⟨rfl, rfl⟩)
  go_ret2
  exact ⟨rfl, rfl⟩
theorem operands_25 (w : World) :
    Calls Try.prog 72 #[.int .i64 25] w fun e w' => e = .returned (.tuple #[.slice (some ⟨w.heap.size, 0, none⟩) 2 2, .bool true]) ∧ w' = w.alloc (.cells #[.int .i64 2, .int .i64 4] 125) := by
  go_enter Try.func72, Try.ntmps72
  go_wp2_with (go_at_call 94; refine (these_any _ _).mono ?_; rintro e w' ⟨rfl, rfl⟩)
  go_ret2
  exact ⟨rfl, rfl⟩
theorem operands_26 (w : World) :
    Calls Try.prog 72 #[.int .i64 26] w fun e w' => e = .returned (.tuple #[.slice (some ⟨w.heap.size, 0, none⟩) 3 3, .bool true]) ∧ w' = w.alloc (.cells #[.int .i64 1, .int .i64 2, .int .i64 3] 125) := by
  go_enter Try.func72, Try.ntmps72
  go_wp2_with (go_at_call 94; refine (these_any _ _).mono ?_; rintro e w' ⟨rfl, rfl⟩)
  go_ret2
  exact ⟨rfl, rfl⟩
theorem operands_27 (w : World) :
    Calls Try.prog 72 #[.int .i64 27] w fun e w' => e = .returned (.tuple #[.slice (some ⟨w.heap.size, 0, none⟩) 3 3, .bool true]) ∧ w' = w.alloc (.cells #[.int .i64 1, .int .i64 2, .int .i64 3] 125) := by
  go_enter Try.func72, Try.ntmps72
  go_wp2_with (go_at_call 94; refine (these_any _ _).mono ?_; rintro e w' ⟨rfl, rfl⟩)
  go_ret2
  exact ⟨rfl, rfl⟩
theorem operands_30 (w : World) :
    Calls Try.prog 72 #[.int .i64 30] w fun e w' => e = .returned (.tuple #[.slice none 0 0, .bool true]) ∧ w' = w := by
  go_enter Try.func72, Try.ntmps72
  go_wp2_with (go_at_call 94; refine (these_any _ _).mono ?_; rintro e w' ⟨rfl, rfl⟩)
  go_ret2
  exact ⟨rfl, rfl⟩
theorem operands_lo (op : Int) (h : op < 1) (w : World) :
    Calls Try.prog 72 #[.int .i64 op] w fun e w' => e = .returned (.tuple #[.slice none 0 0, .bool false]) ∧ w' = w := by
  go_enter Try.func72, Try.ntmps72
  go_wp2
  go_ret2
  exact ⟨rfl, rfl⟩
theorem operands_hi (op : Int) (h : 30 < op) (w : World) :
    Calls Try.prog 72 #[.int .i64 op] w fun e w' => e = .returned (.tuple #[.slice none 0 0, .bool false]) ∧ w' = w := by
  go_enter Try.func72, Try.ntmps72
  go_wp2
  go_ret2
  exact ⟨rfl, rfl⟩
end Go.Proofs.Ytadgemcpahfkoaa
