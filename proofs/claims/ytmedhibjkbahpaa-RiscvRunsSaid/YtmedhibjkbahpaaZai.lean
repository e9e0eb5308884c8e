/-
  Contracts of package asm: what an instruction has (operands), whether it may be (MayLine of an instruction without a symbol).
  Contracts of package asm: is an operand among those that an instruction has; may registers be so.
  Contracts of package asm: whether an instruction without a symbol may be.
  The document's MayLine: Shape, has, reg, num.
  Contract of asm.MayLine, of an instruction without a symbol.
-/
import Derived.Test.YtmedhibjkbahpaaZah
import Derived.OpenShut
import Derived.Lib.Hide
import Derived.Deep.RegionWith
namespace Go.Proofs.Ytmedhibjkbahpaa
open Go.RowKit
set_option linter.unusedVariables false
set_option linter.unusedSimpArgs false
set_option maxRecDepth 100000

theorem these_any (v : Value) (w : World) :
    Calls Try.prog 94 #[v] w fun e w' => e = .returned v ∧ w = w' := by
  go_enter Try.func94, Try.ntmps94
  go_wp2
  go_ret
  exact ⟨rfl, rfl⟩
/-- What an instruction has, as asm's operands. -/
def opsL (op : Int) : List Int :=
  if op = 1 ∨ op = 28 then [0, 3] else if 2 ≤ op ∧ op ≤ 10 then [0, 1, 3] else if 11 ≤ op ∧ op ≤ 23 then [0, 1, 2] else if op = 24 ∨ op = 29 then [0, 4] else if op = 25 then [2, 4] else if op = 26 ∨ op = 27 then [1, 2, 3] else []

theorem operands_1 (w : World) :
    Calls Try.prog 72 #[.int .i64 1] w fun e w' => e = .returned (.tuple #[.slice (some ⟨w.heap.size, 0, none⟩) 2 2, .bool true]) ∧ w' = w.alloc (.cells #[.int .i64 0, .int .i64 3] 125) := by
  go_enter Try.func72, Try.ntmps72
  go_wp2_with (go_at_call 94; refine (these_any _ _).mono ?_; rintro e w' ⟨rfl, rfl⟩)
  go_ret2
  exact ⟨rfl, rfl⟩
theorem operands_28 (w : World) :
    Calls Try.prog 72 #[.int .i64 28] w fun e w' => e = .returned (.tuple #[.slice (some ⟨w.heap.size, 0, none⟩) 2 2, .bool true]) ∧ w' = w.alloc (.cells #[.int .i64 0, .int .i64 3] 125) := by
  go_enter Try.func72, Try.ntmps72
  go_wp2_with (go_at_call 94; refine (these_any _ _).mono ?_; rintro e w' ⟨rfl, rfl⟩)
  go_ret2
  exact ⟨rfl, rfl⟩
theorem operands_2 (w : World) :
    Calls Try.prog 72 #[.int .i64 2] w fun e w' => e = .returned (.tuple #[.slice (some ⟨w.heap.size, 0, none⟩) 3 3, .bool true]) ∧ w' = w.alloc (.cells #[.int .i64 0, .int .i64 1, .int .i64 3] 125) := by
  go_enter Try.func72, Try.ntmps72
  go_wp2_with (go_at_call 94; refine (these_any _ _).mono ?_; rintro e w' ⟨rfl, rfl⟩)
  go_ret2
  exact ⟨rfl, rfl⟩
theorem operands_3 (w : World) :
    Calls Try.prog 72 #[.int .i64 3] w fun e w' => e = .returned (.tuple #[.slice (some ⟨w.heap.size, 0, none⟩) 3 3, .bool true]) ∧ w' = w.alloc (.cells #[.int .i64 0, .int .i64 1, .int .i64 3] 125) := by
  go_enter Try.func72, Try.ntmps72
  go_wp2_with (go_at_call 94; refine (these_any _ _).mono ?_; rintro e w' ⟨rfl, rfl⟩)
  go_ret2
  exact ⟨rfl, rfl⟩
theorem operands_4 (w : World) :
    Calls Try.prog 72 #[.int .i64 4] w fun e w' => e = .returned (.tuple #[.slice (some ⟨w.heap.size, 0, none⟩) 3 3, .bool true]) ∧ w' = w.alloc (.cells #[.int .i64 0, .int .i64 1, .int .i64 3] 125) := by
  go_enter Try.func72, Try.ntmps72
  go_wp2_with (go_at_call 94; refine (these_any _ _).mono ?_; rintro e w' ⟨rfl, rfl⟩)
  go_ret2
  exact ⟨rfl, rfl⟩
theorem operands_5 (w : World) :
    Calls Try.prog 72 #[.int .i64 5] w fun e w' => e = .returned (.tuple #[.slice (some ⟨w.heap.size, 0, none⟩) 3 3, .bool true]) ∧ w' = w.alloc (.cells #[.int .i64 0, .int .i64 1, .int .i64 3] 125) := by
  go_enter Try.func72, Try.ntmps72
  go_wp2_with (go_at_call 94; refine (these_any _ _).mono ?_; rintro e w' ⟨rfl, rfl⟩)
  go_ret2
  exact ⟨rfl, rfl⟩
theorem operands_6 (w : World) :
    Calls Try.prog 72 #[.int .i64 6] w fun e w' => e = .returned (.tuple #[.slice (some ⟨w.heap.size, 0, none⟩) 3 3, .bool true]) ∧ w' = w.alloc (.cells #[.int .i64 0, .int .i64 1, .int .i64 3] 125) := by
  go_enter Try.func72, Try.ntmps72
  go_wp2_with (go_at_call 94; refine (these_any _ _).mono ?_; rintro e w' ⟨rfl, rfl⟩)
  go_ret2
  exact ⟨rfl, rfl⟩
theorem operands_7 (w : World) :
    Calls Try.prog 72 #[.int .i64 7] w fun e w' => e = .returned (.tuple #[.slice (some ⟨w.heap.size, 0, none⟩) 3 3, .bool true]) ∧ w' = w.alloc (.cells #[.int .i64 0, .int .i64 1, .int .i64 3] 125) := by
  go_enter Try.func72, Try.ntmps72
  go_wp2_with (go_at_call 94; refine (these_any _ _).mono ?_; rintro e w' ⟨rfl, rfl⟩)
  go_ret2
  exact ⟨rfl, rfl⟩
theorem operands_8 (w : World) :
    Calls Try.prog 72 #[.int .i64 8] w fun e w' => e = .returned (.tuple #[.slice (some ⟨w.heap.size, 0, none⟩) 3 3, .bool true]) ∧ w' = w.alloc (.cells #[.int .i64 0, .int .i64 1, .int .i64 3] 125) := by
  go_enter Try.func72, Try.ntmps72
  go_wp2_with (go_at_call 94; refine (these_any _ _).mono ?_; rintro e w' ⟨rfl, rfl⟩)
  go_ret2
  exact ⟨rfl, rfl⟩
theorem operands_9 (w : World) :
    Calls Try.prog 72 #[.int .i64 9] w fun e w' => e = .returned (.tuple #[.slice (some ⟨w.heap.size, 0, none⟩) 3 3, .bool true]) ∧ w' = w.alloc (.cells #[.int .i64 0, .int .i64 1, .int .i64 3] 125) := by
  go_enter Try.func72, Try.ntmps72
  go_wp2_with (go_at_call 94; refine (these_any _ _).mono ?_; rintro e w' ⟨rfl, rfl⟩)
  go_ret2
  exact ⟨rfl, rfl⟩
theorem operands_10 (w : World) :
    Calls Try.prog 72 #[.int .i64 10] w fun e w' => e = .returned (.tuple #[.slice (some ⟨w.heap.size, 0, none⟩) 3 3, .bool true]) ∧ w' = w.alloc (.cells #[.int .i64 0, .int .i64 1, .int .i64 3] 125) := by
  go_enter Try.func72, Try.ntmps72
  go_wp2_with (go_at_call 94; refine (these_any _ _).mono ?_; rintro e w' ⟨rfl, rfl⟩)
  go_ret2
  exact ⟨rfl, rfl⟩
theorem operands_11 (w : World) :
    Calls Try.prog 72 #[.int .i64 11] w fun e w' => e = .returned (.tuple #[.slice (some ⟨w.heap.size, 0, none⟩) 3 3, .bool true]) ∧ w' = w.alloc (.cells #[.int .i64 0, .int .i64 1, .int .i64 2] 125) := by
  go_enter Try.func72, Try.ntmps72
  go_wp2_with (go_at_call 94; refine (these_any _ _).mono ?_; rintro e w' ⟨rfl, rfl⟩)
  go_ret2
  exact ⟨rfl, rfl⟩
theorem operands_12 (w : World) :
    Calls Try.prog 72 #[.int .i64 12] w fun e w' => e = .returned (.tuple #[.slice (some ⟨w.heap.size, 0, none⟩) 3 3, .bool true]) ∧ w' = w.alloc (.cells #[.int .i64 0, .int .i64 1, .int .i64 2] 125) := by
  go_enter Try.func72, Try.ntmps72
  go_wp2_with (go_at_call 94; refine (these_any _ _).mono ?_; rintro e w' ⟨rfl, rfl⟩)
  go_ret2
  exact ⟨rfl, rfl⟩
theorem operands_13 (w : World) :
    Calls Try.prog 72 #[.int .i64 13] w fun e w' => e = .returned (.tuple #[.slice (some ⟨w.heap.size, 0, none⟩) 3 3, .bool true]) ∧ w' = w.alloc (.cells #[.int .i64 0, .int .i64 1, .int .i64 2] 125) := by
  go_enter Try.func72, Try.ntmps72
  go_wp2_with (go_at_call 94; refine (these_any _ _).mono ?_; rintro e w' ⟨rfl, rfl⟩)
  go_ret2
  exact ⟨rfl, rfl⟩
theorem operands_14 (w : World) :
    Calls Try.prog 72 #[.int .i64 14] w fun e w' => e = .returned (.tuple #[.slice (some ⟨w.heap.size, 0, none⟩) 3 3, .bool true]) ∧ w' = w.alloc (.cells #[.int .i64 0, .int .i64 1, .int .i64 2] 125) := by
  go_enter Try.func72, Try.ntmps72
  go_wp2_with (go_at_call 94; refine (these_any _ _).mono ?_; rintro e w' ⟨rfl, rfl⟩)
  go_ret2
  exact ⟨rfl, rfl⟩
theorem operands_15 (w : World) :
    Calls Try.prog 72 #[.int .i64 15] w fun e w' => e = .returned (.tuple #[.slice (some ⟨w.heap.size, 0, none⟩) 3 3, .bool true]) ∧ w' = w.alloc (.cells #[.int .i64 0, .int .i64 1, .int .i64 2] 125) := by
  go_enter Try.func72, Try.ntmps72
  go_wp2_with (go_at_call 94; refine (these_any _ _).mono ?_; rintro e w' ⟨rfl, rfl⟩)
  go_ret2
  exact ⟨rfl, rfl⟩
theorem operands_16 (w : World) :
    Calls Try.prog 72 #[.int .i64 16] w fun e w' => e = .returned (.tuple #[.slice (some ⟨w.heap.size, 0, none⟩) 3 3, .bool true]) ∧ w' = w.alloc (.cells #[.int .i64 0, .int .i64 1, .int .i64 2] 125) := by
  go_enter Try.func72, Try.ntmps72
  go_wp2_with (go_at_call 94; refine (these_any _ _).mono ?_; rintro e w' ⟨rfl, rfl⟩)
  go_ret2
  exact ⟨rfl, rfl⟩
theorem operands_17 (w : World) :
    Calls Try.prog 72 #[.int .i64 17] w fun e w' => e = .returned (.tuple #[.slice (some ⟨w.heap.size, 0, none⟩) 3 3, .bool true]) ∧ w' = w.alloc (.cells #[.int .i64 0, .int .i64 1, .int .i64 2] 125) := by
  go_enter Try.func72, Try.ntmps72
  go_wp2_with (go_at_call 94; refine (these_any _ _).mono ?_; rintro e w' ⟨rfl, rfl⟩)
  go_ret2
  exact ⟨rfl, rfl⟩
theorem operands_18 (w : World) :
    Calls Try.prog 72 #[.int .i64 18] w fun e w' => e = .returned (.tuple #[.slice (some ⟨w.heap.size, 0, none⟩) 3 3, .bool true]) ∧ w' = w.alloc (.cells #[.int .i64 0, .int .i64 1, .int .i64 2] 125) := by
  go_enter Try.func72, Try.ntmps72
  go_wp2_with (go_at_call 94; refine (these_any _ _).mono ?_; rintro e w' ⟨rfl, rfl⟩)
  go_ret2
  exact ⟨rfl, rfl⟩
theorem operands_19 (w : World) :
    Calls Try.prog 72 #[.int .i64 19] w fun e w' => e = .returned (.tuple #[.slice (some ⟨w.heap.size, 0, none⟩) 3 3, .bool true]) ∧ w' = w.alloc (.cells #[.int .i64 0, .int .i64 1, .int .i64 2] 125) := by
  go_enter Try.func72, Try.ntmps72
  go_wp2_with (go_at_call 94; refine (these_any _ _).mono ?_; rintro e w' ⟨rfl, rfl⟩)
  go_ret2
  exact ⟨rfl, rfl⟩
theorem operands_20 (w : World) :
    Calls Try.prog 72 #[.int .i64 20] w fun e w' => e = .returned (.tuple #[.slice (some ⟨w.heap.size, 0, none⟩) 3 3, .bool true]) ∧ w' = w.alloc (.cells #[.int .i64 0, .int .i64 1, .int .i64 2] 125) := by
  go_enter Try.func72, Try.ntmps72
  go_wp2_with (go_at_call 94; refine (these_any _ _).mono ?_; rintro e w' ⟨rfl, rfl⟩)
  go_ret2
  exact ⟨rfl, rfl⟩
theorem operands_21 (w : World) :
    Calls Try.prog 72 #[.int .i64 21] w fun e w' => e = .returned (.tuple #[.slice (some ⟨w.heap.size, 0, none⟩) 3 3, .bool true]) ∧ w' = w.alloc (.cells #[.int .i64 0, .int .i64 1, .int .i64 2] 125) := by
  go_enter Try.func72, Try.ntmps72
  go_wp2_with (go_at_call 94; refine (these_any _ _).mono ?_; rintro e w' ⟨rfl, rfl⟩)
  go_ret2
  exact ⟨rfl, rfl⟩
theorem operands_22 (w : World) :
    Calls Try.prog 72 #[.int .i64 22] w fun e w' => e = .returned (.tuple #[.slice (some ⟨w.heap.size, 0, none⟩) 3 3, .bool true]) ∧ w' = w.alloc (.cells #[.int .i64 0, .int .i64 1, .int .i64 2] 125) := by
  go_enter Try.func72, Try.ntmps72
  go_wp2_with (go_at_call 94; refine (these_any _ _).mono ?_; rintro e w' ⟨rfl, rfl⟩)
  go_ret2
  exact ⟨rfl, rfl⟩
theorem operands_23 (w : World) :
    Calls Try.prog 72 #[.int .i64 23] w fun e w' => e = .returned (.tuple #[.slice (some ⟨w.heap.size, 0, none⟩) 3 3, .bool true]) ∧ w' = w.alloc (.cells #[.int .i64 0, .int .i64 1, .int .i64 2] 125) := by
  go_enter Try.func72, Try.ntmps72
  go_wp2_with (go_at_call 94; refine (these_any _ _).mono ?_; rintro e w' ⟨rfl, rfl⟩)
  go_ret2
  exact ⟨rfl, rfl⟩
theorem operands_24 (w : World) :
    Calls Try.prog 72 #[.int .i64 24] w fun e w' => e = .returned (.tuple #[.slice (some ⟨w.heap.size, 0, none⟩) 2 2, .bool true]) ∧ w' = w.alloc (.cells #[.int .i64 0, .int .i64 4] 125) := by
  go_enter Try.func72, Try.ntmps72
  go_wp2_with (go_at_call 94; refine (these_any _ _).mono ?_; rintro e w' ⟨rfl, rfl⟩)
  go_ret2
  exact ⟨rfl, rfl⟩
theorem operands_29 (w : World) :
    Calls Try.prog 72 #[.int .i64 29] w fun e w' => e = .returned (.tuple #[.slice (some ⟨w.heap.size, 0, none⟩) 2 2, .bool true]) ∧ w' = w.alloc (.cells #[.int .i64 0, .int .i64 4] 125) := by
  go_enter Try.func72, Try.ntmps72
  go_wp2_with (go_at_call 94; refine (these_any _ _).mono ?_; rintro e w' ⟨rfl, rfl⟩)
  go_ret2
  exact ⟨rfl, rfl⟩
theorem operands_25 (w : World) :
    Calls Try.prog 72 #[.int .i64 25] w fun e w' => e = .returned (.tuple #[.slice (some ⟨w.heap.size, 0, none⟩) 2 2, .bool true]) ∧ w' = w.alloc (.cells #[.int .i64 2, .int .i64 4] 125) := by
  go_enter Try.func72, Try.ntmps72
  go_wp2_with (go_at_call 94; refine (these_any _ _).mono ?_; rintro e w' ⟨rfl, rfl⟩)
  go_ret2
  exact ⟨rfl, rfl⟩
theorem operands_26 (w : World) :
    Calls Try.prog 72 #[.int .i64 26] w fun e w' => e = .returned (.tuple #[.slice (some ⟨w.heap.size, 0, none⟩) 3 3, .bool true]) ∧ w' = w.alloc (.cells #[.int .i64 1, .int .i64 2, .int .i64 3] 125) := by
  go_enter Try.func72, Try.ntmps72
  go_wp2_with (go_at_call 94; refine (these_any _ _).mono ?_; rintro e w' ⟨rfl, rfl⟩)
  go_ret2
  exact ⟨rfl, rfl⟩
theorem operands_27 (w : World) :
    Calls Try.prog 72 #[.int .i64 27] w fun e w' => e = .returned (.tuple #[.slice (some ⟨w.heap.size, 0, none⟩) 3 3, .bool true]) ∧ w' = w.alloc (.cells #[.int .i64 1, .int .i64 2, .int .i64 3] 125) := by
  go_enter Try.func72, Try.ntmps72
  go_wp2_with (go_at_call 94; refine (these_any _ _).mono ?_; rintro e w' ⟨rfl, rfl⟩)
  go_ret2
  exact ⟨rfl, rfl⟩
theorem operands_30 (w : World) :
    Calls Try.prog 72 #[.int .i64 30] w fun e w' => e = .returned (.tuple #[.slice none 0 0, .bool true]) ∧ w' = w := by
  go_enter Try.func72, Try.ntmps72
  go_wp2_with (go_at_call 94; refine (these_any _ _).mono ?_; rintro e w' ⟨rfl, rfl⟩)
  go_ret2
  exact ⟨rfl, rfl⟩
theorem operands_lo (op : Int) (h : op < 1) (w : World) :
    Calls Try.prog 72 #[.int .i64 op] w fun e w' => e = .returned (.tuple #[.slice none 0 0, .bool false]) ∧ w' = w := by
  go_enter Try.func72, Try.ntmps72
  go_wp2
  go_ret2
  exact ⟨rfl, rfl⟩
theorem operands_hi (op : Int) (h : 30 < op) (w : World) :
    Calls Try.prog 72 #[.int .i64 op] w fun e w' => e = .returned (.tuple #[.slice none 0 0, .bool false]) ∧ w' = w := by
  go_enter Try.func72, Try.ntmps72
  go_wp2
  go_ret2
  exact ⟨rfl, rfl⟩
end Go.Proofs.Ytmedhibjkbahpaa
namespace Go.Proofs.Ytmedhibjkbahpaa
open Go.RowKit
set_option linter.unusedVariables false
set_option linter.unusedSimpArgs false
set_option maxRecDepth 100000

/-- Operands in memory. -/
def OpsAt (w : World) (A : Option Addr) (zs : List Int) : Prop :=
  0 < zs.length → ∃ g, A = some ⟨g, 0, none⟩ ∧ g < w.heap.size ∧ ∀ j, j < zs.length → w.cell? ⟨g, j, none⟩ = some (.int .i64 (zs.getD j 0))
theorem OpsAt.below {w w' : World} {A : Option Addr} {zs : List Int} (h : OpsAt w A zs) (hb : Below w.heap.size w w') : OpsAt w' A zs := fun h0 => by
  obtain ⟨g, e, hg, hc⟩ := h h0
  exact ⟨g, e, Nat.lt_of_lt_of_le hg hb.size, fun j hj => (hb.cell (p := ⟨g, j, none⟩) hg).trans (hc j hj)⟩
theorem opsAt_new (w : World) (vs : Array Value) (t : TypeId) (zs : List Int) (h : vs = (zs.map fun z => Value.int .i64 z).toArray) : OpsAt (w.alloc (.cells vs t)) (some ⟨w.heap.size, 0, none⟩) zs := fun h0 => by
  refine ⟨w.heap.size, rfl, by simp, fun j hj => ?_⟩
  subst h
  rw [cell_of_row _ _ j _ _ (0, 0) (heap_alloc_new w _)]
  simp [hj]

def idxZ (v : Int) : List Int → Int → Int
  | [], _ => -1
  | z :: zs, k => if z = v then k else idxZ v zs (k + 1)
theorem idx_hit (v : Int) : ∀ (zs : List Int) (k : Int) (j : Nat), j < zs.length → (∀ i, i < j → zs.getD i 0 ≠ v) → zs.getD j 0 = v → idxZ v zs k = k + j
  | [], k, j, h, _, _ => by cases h
  | z :: zs, k, 0, h, hn, he => by
    simp [List.getD] at he
    simp [idxZ, he]
  | z :: zs, k, j + 1, h, hn, he => by
    have h0 := hn 0 (by omega)
    simp [List.getD] at h0
    unfold idxZ
    rw [if_neg h0, idx_hit v zs (k + 1) j (by simpa using h) (fun i hi => by have := hn (i + 1) (by omega); simpa [List.getD] using this) (by simpa [List.getD] using he)]
    omega
theorem idx_no (v : Int) : ∀ (zs : List Int) (k : Int), (∀ i, i < zs.length → zs.getD i 0 ≠ v) → idxZ v zs k = -1
  | [], k, _ => rfl
  | z :: zs, k, h => by
    have h0 := h 0 (by simp)
    simp [List.getD] at h0
    unfold idxZ
    rw [if_neg h0, idx_no v zs (k + 1) (fun i hi => by have := h (i + 1) (by simpa using hi); simpa [List.getD] using this)]

set_option maxHeartbeats 800000 in
theorem index_any (w : World) (A : Option Addr) (n c : Nat) (zs : List Int) (v : Int) (hl : zs.length = n) (hn : n ≤ 1000) (h : OpsAt w A zs) :
    Calls Try.prog 99 #[.slice A n c, .int .i64 v] w fun e w' => e = .returned (.int .i64 (idxZ v zs 0)) ∧ w = w' := by
  have HL := Lib.hid h
  have HN := Lib.hid hl
  have hn63 : (n : Int) ≤ 1000 := by omega
  clear h hl
  go_enter Try.func99, Try.ntmps99
  go_wp2
  go_loop [8] (fun i => ∃ k : Nat, k ≤ n ∧ i = .int .i64 k ∧ Hid (∀ j, j < k → zs.getD j 0 ≠ v)) (fun i => n - (intOf i).toNat)
  case atStart => exact ⟨0, by omega, rfl, Lib.hid (fun j hj => by omega)⟩
  case round =>
    obtain ⟨k, hk, rfl, HI⟩ := hrel
    rcases Nat.lt_or_ge k n with hkm | hkm
    · obtain ⟨g, rfl, hg, hc⟩ := HL.out (by rw [HN.out]; omega)
      have d0 := hc k (by rw [HN.out]; omega)
      obtain ⟨z, hz⟩ : ∃ z, zs.getD k 0 = z := ⟨_, rfl⟩
      rw [hz] at d0
      have HZ := Lib.hid hz
      clear hg hc hz
      have hkm' : (k : Int) < (n : Int) := by omega
      have hk0 : (0 : Int) ≤ (k : Int) := by omega
      by_cases h1 : z = v
      · have h1b : (v == z) = true := by simp [h1]
        have HE : Hid (idxZ v zs 0 = (k : Int)) := Lib.hid (by
          have := idx_hit v zs 0 k (by rw [HN.out]; omega) HI.out (by rw [HZ.out, h1])
          omega)
        clear h1
        go_wp2
        go_ret
        exact ⟨by rw [HE.out]; rfl, rfl⟩
      · have h1b : (v == z) = false := by simpa using (fun h => h1 h.symm)
        have HST : Hid (∀ j, j < k + 1 → zs.getD j 0 ≠ v) := Lib.hid (fun j hj => by
          rcases Nat.lt_or_ge j k with q | q
          · exact HI.out j q
          · obtain rfl : j = k := by omega
            rw [HZ.out]
            exact h1)
        go_wp2
        go_round
        case rel => exact ⟨k + 1, by omega, by go_num, HST⟩
        case measure => simp [intOf] <;> omega
    · obtain rfl : k = n := by omega
      have HE : Hid (idxZ v zs 0 = -1) := Lib.hid (idx_no v zs 0 (fun i hi => HI.out i (by rw [← HN.out]; exact hi)))
      go_wp2
      go_ret
      exact ⟨by rw [HE.out]; rfl, rfl⟩

theorem contains_any (w : World) (A : Option Addr) (n c : Nat) (zs : List Int) (v : Int) (hl : zs.length = n) (hn : n ≤ 1000) (h : OpsAt w A zs) :
    Calls Try.prog 96 #[.slice A n c, .int .i64 v] w fun e w' => e = .returned (.bool (decide (0 ≤ idxZ v zs 0))) ∧ w = w' := by
  have H := Lib.hid (index_any w A n c zs v hl hn h)
  clear h
  go_enter Try.func96, Try.ntmps96
  go_wp2_with (go_at_call 99; refine H.out.mono ?_; rintro e w' ⟨rfl, rfl⟩)
  go_ret
  exact ⟨rfl, rfl⟩

/-- The function may (a closure over what an instruction has), with one operand or two. -/
theorem may1_any (w : World) (p : Nat) (A B : Option Addr) (n c : Nat) (zs : List Int) (r o : Int) (hl : zs.length = n) (hn : n ≤ 1000) (h : OpsAt w A zs) (hp : w.cell? ⟨p, 0, none⟩ = some (.slice A n c)) (hB : OpsAt w B [o]) :
    Calls Try.prog 95 #[.int .i64 r, .slice B 1 1, .pointer (some ⟨p, 0, none⟩)] w fun e w' => e = .returned (.bool (regOk (decide (0 ≤ idxZ o zs 0)) r)) ∧ w = w' := by
  have H := Lib.hid (contains_any w A n c zs o hl hn h)
  obtain ⟨g, rfl, hg, hc⟩ := hB (by simp)
  have d0 : w.cell? ⟨g, 0, none⟩ = some (.int .i64 o) := hc 0 (by simp)
  generalize decide (0 ≤ idxZ o zs 0) = q at *
  clear h hc hB hl
  cases q
  · go_enter Try.func95, Try.ntmps95
    go_wp2_with fail
    refine wp_loop_rounds 2 ?_
    rw [rounds_succ]
    go_wp2_with (go_at_call 96; refine H.out.mono ?_; rintro e w' ⟨rfl, rfl⟩)
    rw [rounds_succ]
    go_wp2
    go_ret
    exact ⟨rfl, rfl⟩
  · go_enter Try.func95, Try.ntmps95
    go_wp2_with fail
    refine wp_loop_rounds 2 ?_
    rw [rounds_succ]
    by_cases h0 : 0 ≤ r
    · by_cases h1 : r < 32
      · go_wp2_with (go_at_call 96; refine H.out.mono ?_; rintro e w' ⟨rfl, rfl⟩)
        go_ret
        exact ⟨by simp [regOk, h0, h1], rfl⟩
      · go_wp2_with (go_at_call 96; refine H.out.mono ?_; rintro e w' ⟨rfl, rfl⟩)
        go_ret
        exact ⟨by simp [regOk, h0, h1], rfl⟩
    · go_wp2_with (go_at_call 96; refine H.out.mono ?_; rintro e w' ⟨rfl, rfl⟩)
      go_ret
      exact ⟨by simp [regOk]; omega, rfl⟩

/-- The function may, with the two operands that A may be. -/
theorem may2_any (w : World) (p : Nat) (A B : Option Addr) (n c : Nat) (zs : List Int) (r : Int) (hl : zs.length = n) (hn : n ≤ 1000) (h : OpsAt w A zs) (hp : w.cell? ⟨p, 0, none⟩ = some (.slice A n c)) (hB : OpsAt w B [1, 4]) :
    Calls Try.prog 95 #[.int .i64 r, .slice B 2 2, .pointer (some ⟨p, 0, none⟩)] w fun e w' => e = .returned (.bool (regOk (decide (0 ≤ idxZ 1 zs 0) || decide (0 ≤ idxZ 4 zs 0)) r)) ∧ w = w' := by
  have H := Lib.hid (contains_any w A n c zs 1 hl hn h)
  have H4 := Lib.hid (contains_any w A n c zs 4 hl hn h)
  obtain ⟨g, rfl, hg, hc⟩ := hB (by simp)
  have d0 : w.cell? ⟨g, 0, none⟩ = some (.int .i64 1) := hc 0 (by simp)
  have d1 : w.cell? ⟨g, 1, none⟩ = some (.int .i64 4) := hc 1 (by simp)
  generalize decide (0 ≤ idxZ 1 zs 0) = q at *
  generalize decide (0 ≤ idxZ 4 zs 0) = q4 at *
  clear h hc hB hl
  have R : ∀ b : Bool, regOk b r = if b = true then decide (0 ≤ r) && decide (r < 32) else r == 0 := fun b => by cases b <;> rfl
  have HR := Lib.hid R
  clear R
  go_enter Try.func95, Try.ntmps95
  go_wp2_with fail
  refine wp_loop_rounds 3 ?_
  rw [rounds_succ]
  cases q
  · cases q4
    · go_wp2_with (go_at_call 96; first | ((with_reducible refine H.out.mono ?_); rintro e w' ⟨rfl, rfl⟩) | ((with_reducible refine H4.out.mono ?_); rintro e w' ⟨rfl, rfl⟩))
      rw [rounds_succ]
      go_wp2_with (go_at_call 96; first | ((with_reducible refine H.out.mono ?_); rintro e w' ⟨rfl, rfl⟩) | ((with_reducible refine H4.out.mono ?_); rintro e w' ⟨rfl, rfl⟩))
      rw [rounds_succ]
      go_wp2
      go_ret
      exact ⟨rfl, rfl⟩
    · go_wp2_with (go_at_call 96; first | ((with_reducible refine H.out.mono ?_); rintro e w' ⟨rfl, rfl⟩) | ((with_reducible refine H4.out.mono ?_); rintro e w' ⟨rfl, rfl⟩))
      rw [rounds_succ]
      by_cases h0 : 0 ≤ r
      · by_cases h1 : r < 32
        · go_wp2_with (go_at_call 96; first | ((with_reducible refine H.out.mono ?_); rintro e w' ⟨rfl, rfl⟩) | ((with_reducible refine H4.out.mono ?_); rintro e w' ⟨rfl, rfl⟩))
          go_ret
          exact ⟨by simp [regOk, h0, h1], rfl⟩
        · go_wp2_with (go_at_call 96; first | ((with_reducible refine H.out.mono ?_); rintro e w' ⟨rfl, rfl⟩) | ((with_reducible refine H4.out.mono ?_); rintro e w' ⟨rfl, rfl⟩))
          go_ret
          exact ⟨by simp [regOk, h0, h1], rfl⟩
      · go_wp2_with (go_at_call 96; first | ((with_reducible refine H.out.mono ?_); rintro e w' ⟨rfl, rfl⟩) | ((with_reducible refine H4.out.mono ?_); rintro e w' ⟨rfl, rfl⟩))
        go_ret
        exact ⟨by simp [regOk]; omega, rfl⟩
  · by_cases h0 : 0 ≤ r
    · by_cases h1 : r < 32
      · go_wp2_with (go_at_call 96; first | ((with_reducible refine H.out.mono ?_); rintro e w' ⟨rfl, rfl⟩) | ((with_reducible refine H4.out.mono ?_); rintro e w' ⟨rfl, rfl⟩))
        go_ret
        exact ⟨by simp [regOk, h0, h1], rfl⟩
      · go_wp2_with (go_at_call 96; first | ((with_reducible refine H.out.mono ?_); rintro e w' ⟨rfl, rfl⟩) | ((with_reducible refine H4.out.mono ?_); rintro e w' ⟨rfl, rfl⟩))
        go_ret
        exact ⟨by simp [regOk, h0, h1], rfl⟩
    · go_wp2_with (go_at_call 96; first | ((with_reducible refine H.out.mono ?_); rintro e w' ⟨rfl, rfl⟩) | ((with_reducible refine H4.out.mono ?_); rintro e w' ⟨rfl, rfl⟩))
      go_ret
      exact ⟨by simp [regOk]; omega, rfl⟩

theorem OpsAt.alloc {w : World} {A : Option Addr} {zs : List Int} (h : OpsAt w A zs) (o : Obj) : OpsAt (w.alloc o) A zs := h.below ((Below.refl _ w).alloc (Nat.le_refl _) _)
theorem cell_alloc {w : World} {g j : Nat} {v : Value} (h : w.cell? ⟨g, j, none⟩ = some v) (o : Obj) : (w.alloc o).cell? ⟨g, j, none⟩ = some v :=
  (((Below.refl _ w).alloc (Nat.le_refl _) _).cell (p := ⟨g, j, none⟩) (World.block_lt_of_cell? w _ h)).trans h
theorem cell_alloc_new (w : World) (vs : Array Value) (t : TypeId) (v : Value) (h : vs[0]? = some v) : (w.alloc (.cells vs t)).cell? ⟨w.heap.size, 0, none⟩ = some v := by
  rw [cell_of_row _ _ 0 _ _ (0, 0) (heap_alloc_new w _)]
  exact h

/-- What an instruction has decides which registers may be what. -/
def hasL (zs : List Int) (o : Int) : Bool := decide (0 ≤ idxZ o zs 0)
set_option maxHeartbeats 3200000 in
theorem mayRegisters_any (w : World) (k op d a b m : Int) (s : ByteArray) (A : Option Addr) (n c : Nat) (zs : List Int) (hl : zs.length = n) (hn : n ≤ 1000) (h : OpsAt w A zs) :
    Calls Try.prog 73 #[.agg #[.int .i64 k, .int .i64 op, .int .i64 d, .int .i64 a, .int .i64 b, .int .i32 m, .string s], .slice A n c] w
      fun e w' => e = .returned (.bool (regOk (hasL zs 0) d && regOk (hasL zs 1 || hasL zs 4) a && regOk (hasL zs 2) b)) ∧ Below w.heap.size w w' := by
  have hmf : ∀ (fn : Fn) (first cap : Array Value) (w : World), (Instr.makeFunc fn first cap).run Try.prog w = .ok (.func fn first cap) w := fun _ _ _ _ => rfl
  obtain ⟨W1, hW1⟩ : ∃ W1, w.alloc (.cells #[.int .i64 k, .int .i64 op, .int .i64 d, .int .i64 a, .int .i64 b, .int .i32 m, .string s] 39) = W1 := ⟨_, rfl⟩
  obtain ⟨W2, hW2⟩ : ∃ W2, W1.alloc (.cells #[.slice A n c] 112) = W2 := ⟨_, rfl⟩
  obtain ⟨W3, hW3⟩ : ∃ W3, W2.alloc (.cells #[.int .i64 0] 125) = W3 := ⟨_, rfl⟩
  obtain ⟨W4, hW4⟩ : ∃ W4, W3.alloc (.cells #[.int .i64 1, .int .i64 4] 125) = W4 := ⟨_, rfl⟩
  obtain ⟨W5, hW5⟩ : ∃ W5, W4.alloc (.cells #[.int .i64 2] 125) = W5 := ⟨_, rfl⟩
  have s1 : W1.heap.size = w.heap.size + 1 := by rw [← hW1]; simp
  have s2 : W2.heap.size = w.heap.size + 1 + 1 := by rw [← hW2]; simp [s1]
  have s3 : W3.heap.size = w.heap.size + 1 + 1 + 1 := by rw [← hW3]; simp [s2]
  have s4 : W4.heap.size = w.heap.size + 1 + 1 + 1 + 1 := by rw [← hW4]; simp [s3]
  have o1 : OpsAt W1 A zs := by rw [← hW1]; exact h.alloc _
  have o2 : OpsAt W2 A zs := by rw [← hW2]; exact o1.alloc _
  have o3 : OpsAt W3 A zs := by rw [← hW3]; exact o2.alloc _
  have o4 : OpsAt W4 A zs := by rw [← hW4]; exact o3.alloc _
  have o5 : OpsAt W5 A zs := by rw [← hW5]; exact o4.alloc _
  have c2 : W2.cell? ⟨w.heap.size + 1, 0, none⟩ = some (.slice A n c) := by rw [← hW2, ← s1]; exact cell_alloc_new _ _ _ _ rfl
  have c3 : W3.cell? ⟨w.heap.size + 1, 0, none⟩ = some (.slice A n c) := by rw [← hW3]; exact cell_alloc c2 _
  have c4 : W4.cell? ⟨w.heap.size + 1, 0, none⟩ = some (.slice A n c) := by rw [← hW4]; exact cell_alloc c3 _
  have c5 : W5.cell? ⟨w.heap.size + 1, 0, none⟩ = some (.slice A n c) := by rw [← hW5]; exact cell_alloc c4 _
  have p3 : OpsAt W3 (some ⟨w.heap.size + 1 + 1, 0, none⟩) [0] := by rw [← hW3, ← s2]; exact opsAt_new _ _ _ _ rfl
  have p4 : OpsAt W4 (some ⟨w.heap.size + 1 + 1 + 1, 0, none⟩) [1, 4] := by rw [← hW4, ← s3]; exact opsAt_new _ _ _ _ rfl
  have p5 : OpsAt W5 (some ⟨w.heap.size + 1 + 1 + 1 + 1, 0, none⟩) [2] := by rw [← hW5, ← s4]; exact opsAt_new _ _ _ _ rfl
  have B1 : Below w.heap.size w W1 := by rw [← hW1]; exact (Below.refl _ w).alloc (Nat.le_refl _) _
  have B2 : Below w.heap.size w W2 := by rw [← hW2]; exact B1.alloc (by omega) _
  have B3 : Below w.heap.size w W3 := by rw [← hW3]; exact B2.alloc (by omega) _
  have B4 : Below w.heap.size w W4 := by rw [← hW4]; exact B3.alloc (by omega) _
  have B5 : Below w.heap.size w W5 := by rw [← hW5]; exact B4.alloc (by omega) _
  have M1 := may1_any W3 (w.heap.size + 1) A _ n c zs d 0 hl hn o3 c3 p3
  have M2 := may2_any W4 (w.heap.size + 1) A _ n c zs a hl hn o4 c4 p4
  have M3 := may1_any W5 (w.heap.size + 1) A _ n c zs b 2 hl hn o5 c5 p5
  have E1 : regOk (decide (0 ≤ idxZ 0 zs 0)) d = regOk (hasL zs 0) d := rfl
  have E2 : regOk (decide (0 ≤ idxZ 1 zs 0) || decide (0 ≤ idxZ 4 zs 0)) a = regOk (hasL zs 1 || hasL zs 4) a := rfl
  have E3 : regOk (decide (0 ≤ idxZ 2 zs 0)) b = regOk (hasL zs 2) b := rfl
  rw [E1] at M1
  rw [E2] at M2
  rw [E3] at M3
  clear E1 E2 E3
  generalize regOk (hasL zs 0) d = q1 at *
  generalize regOk (hasL zs 1 || hasL zs 4) a = q2 at *
  generalize regOk (hasL zs 2) b = q3 at *
  rw [← hW5, ← hW4, ← hW3, ← hW2, ← hW1] at M3 B5
  rw [← hW4, ← hW3, ← hW2, ← hW1] at M2 B4
  rw [← hW3, ← hW2, ← hW1] at M1 B3
  have N1 := Lib.hid M1
  have N2 := Lib.hid M2
  have N3 := Lib.hid M3
  have HB := Lib.hid (And.intro B3 (And.intro B4 B5))
  clear M1 M2 M3 B1 B2 B3 B4 B5 o1 o2 o3 o4 o5 c2 c3 c4 c5 p3 p4 p5 s1 s2 s3 s4 hW1 hW2 hW3 hW4 hW5 h hl W1 W2 W3 W4 W5
  cases q1
  · go_enter Try.func73, Try.ntmps73
    go_wp2_with (first | ((with_reducible refine N1.out.mono ?_); rintro e w' ⟨rfl, rfl⟩) | ((with_reducible refine N2.out.mono ?_); rintro e w' ⟨rfl, rfl⟩) | ((with_reducible refine N3.out.mono ?_); rintro e w' ⟨rfl, rfl⟩))
    go_ret
    exact ⟨rfl, HB.out.1⟩
  · cases q2
    · go_enter Try.func73, Try.ntmps73
      go_wp2_with (first | ((with_reducible refine N1.out.mono ?_); rintro e w' ⟨rfl, rfl⟩) | ((with_reducible refine N2.out.mono ?_); rintro e w' ⟨rfl, rfl⟩) | ((with_reducible refine N3.out.mono ?_); rintro e w' ⟨rfl, rfl⟩))
      go_ret
      exact ⟨rfl, HB.out.2.1⟩
    · go_enter Try.func73, Try.ntmps73
      go_wp2_with (first | ((with_reducible refine N1.out.mono ?_); rintro e w' ⟨rfl, rfl⟩) | ((with_reducible refine N2.out.mono ?_); rintro e w' ⟨rfl, rfl⟩) | ((with_reducible refine N3.out.mono ?_); rintro e w' ⟨rfl, rfl⟩))
      go_ret
      exact ⟨by simp, HB.out.2.2⟩
end Go.Proofs.Ytmedhibjkbahpaa
namespace Go.Proofs.Ytmedhibjkbahpaa
open Go.RowKit
set_option linter.unusedVariables false
set_option linter.unusedSimpArgs false
set_option maxRecDepth 100000

theorem tm2 (n : Int) : n.tmod 2 = 0 ↔ n % 2 = 0 := ⟨fun h => Int.emod_eq_zero_of_dvd (Int.dvd_of_tmod_eq_zero h), fun h => Int.tmod_eq_zero_of_dvd (Int.dvd_of_emod_eq_zero h)⟩

theorem fits_12 (n : Int) (b1 : -2147483648 ≤ n) (b2 : n ≤ 2147483647) (w : World) :
    Calls Try.prog 54 #[.int .i32 n, .int .i64 12] w fun e w' => e = .returned (.bool (decide (-2048 ≤ n) && decide (n < 2048))) ∧ w = w' := by
  by_cases h1 : -2048 ≤ n
  · by_cases h2 : n < 2048
    · go_enter Try.func54, Try.ntmps54
      go_wp2
      go_ret
      exact ⟨by simp [h1, h2], rfl⟩
    · go_enter Try.func54, Try.ntmps54
      go_wp2
      go_ret
      exact ⟨by simp [h1, h2], rfl⟩
  · go_enter Try.func54, Try.ntmps54
    go_wp2
    go_ret
    exact ⟨by simp; omega, rfl⟩

theorem fits_13 (n : Int) (b1 : -2147483648 ≤ n) (b2 : n ≤ 2147483647) (w : World) :
    Calls Try.prog 54 #[.int .i32 n, .int .i64 13] w fun e w' => e = .returned (.bool (decide (-4096 ≤ n) && decide (n < 4096))) ∧ w = w' := by
  by_cases h1 : -4096 ≤ n
  · by_cases h2 : n < 4096
    · go_enter Try.func54, Try.ntmps54
      go_wp2
      go_ret
      exact ⟨by simp [h1, h2], rfl⟩
    · go_enter Try.func54, Try.ntmps54
      go_wp2
      go_ret
      exact ⟨by simp [h1, h2], rfl⟩
  · go_enter Try.func54, Try.ntmps54
    go_wp2
    go_ret
    exact ⟨by simp; omega, rfl⟩

theorem fits_21 (n : Int) (b1 : -2147483648 ≤ n) (b2 : n ≤ 2147483647) (w : World) :
    Calls Try.prog 54 #[.int .i32 n, .int .i64 21] w fun e w' => e = .returned (.bool (decide (-1048576 ≤ n) && decide (n < 1048576))) ∧ w = w' := by
  by_cases h1 : -1048576 ≤ n
  · by_cases h2 : n < 1048576
    · go_enter Try.func54, Try.ntmps54
      go_wp2
      go_ret
      exact ⟨by simp [h1, h2], rfl⟩
    · go_enter Try.func54, Try.ntmps54
      go_wp2
      go_ret
      exact ⟨by simp [h1, h2], rfl⟩
  · go_enter Try.func54, Try.ntmps54
    go_wp2
    go_ret
    exact ⟨by simp; omega, rfl⟩

theorem mayNum_1 (d a b n : Int) (b1 : -2147483648 ≤ n) (b2 : n ≤ 2147483647) (w : World) :
    Calls Try.prog 74 #[.agg #[.int .i64 2, .int .i64 1, .int .i64 d, .int .i64 a, .int .i64 b, .int .i32 n, .string ⟨#[]⟩]] w fun e w' => e = .returned (.bool (numOk 7 n)) ∧ Below w.heap.size w w' := by
  by_cases h1 : 0 ≤ n
  · by_cases h2 : n < 1048576
    · have E : Hid (numOk 7 n = true) := Lib.hid (by simp [numOk]; omega)
      go_enter Try.func74, Try.ntmps74
      go_wp2
      go_ret
      exact ⟨by rw [E.out]; rfl, (Below.refl _ _).alloc (Nat.le_refl _) _⟩
    · have E : Hid (numOk 7 n = false) := Lib.hid (by simp [numOk]; omega)
      go_enter Try.func74, Try.ntmps74
      go_wp2
      go_ret
      exact ⟨by rw [E.out]; rfl, (Below.refl _ _).alloc (Nat.le_refl _) _⟩
  · have E : Hid (numOk 7 n = false) := Lib.hid (by simp [numOk]; omega)
    go_enter Try.func74, Try.ntmps74
    go_wp2
    go_ret
    exact ⟨by rw [E.out]; rfl, (Below.refl _ _).alloc (Nat.le_refl _) _⟩

theorem mayNum_2 (d a b n : Int) (b1 : -2147483648 ≤ n) (b2 : n ≤ 2147483647) (w : World) :
    Calls Try.prog 74 #[.agg #[.int .i64 2, .int .i64 2, .int .i64 d, .int .i64 a, .int .i64 b, .int .i32 n, .string ⟨#[]⟩]] w fun e w' => e = .returned (.bool (numOk 3 n)) ∧ Below w.heap.size w w' := by
  have E : (decide (-2048 ≤ n) && decide (n < 2048)) = numOk 3 n := by rw [Bool.eq_iff_iff]; simp [numOk]; omega
  have H := fun W => Lib.hid (fits_12 n b1 b2 W)
  rw [E] at H
  clear E
  go_enter Try.func74, Try.ntmps74
  go_wp2_with (refine (H _).out.mono ?_; rintro e w' ⟨rfl, rfl⟩)
  go_ret
  exact ⟨rfl, (Below.refl _ _).alloc (Nat.le_refl _) _⟩

theorem mayNum_3 (d a b n : Int) (b1 : -2147483648 ≤ n) (b2 : n ≤ 2147483647) (w : World) :
    Calls Try.prog 74 #[.agg #[.int .i64 2, .int .i64 3, .int .i64 d, .int .i64 a, .int .i64 b, .int .i32 n, .string ⟨#[]⟩]] w fun e w' => e = .returned (.bool (numOk 3 n)) ∧ Below w.heap.size w w' := by
  have E : (decide (-2048 ≤ n) && decide (n < 2048)) = numOk 3 n := by rw [Bool.eq_iff_iff]; simp [numOk]; omega
  have H := fun W => Lib.hid (fits_12 n b1 b2 W)
  rw [E] at H
  clear E
  go_enter Try.func74, Try.ntmps74
  go_wp2_with (refine (H _).out.mono ?_; rintro e w' ⟨rfl, rfl⟩)
  go_ret
  exact ⟨rfl, (Below.refl _ _).alloc (Nat.le_refl _) _⟩

theorem mayNum_4 (d a b n : Int) (b1 : -2147483648 ≤ n) (b2 : n ≤ 2147483647) (w : World) :
    Calls Try.prog 74 #[.agg #[.int .i64 2, .int .i64 4, .int .i64 d, .int .i64 a, .int .i64 b, .int .i32 n, .string ⟨#[]⟩]] w fun e w' => e = .returned (.bool (numOk 3 n)) ∧ Below w.heap.size w w' := by
  have E : (decide (-2048 ≤ n) && decide (n < 2048)) = numOk 3 n := by rw [Bool.eq_iff_iff]; simp [numOk]; omega
  have H := fun W => Lib.hid (fits_12 n b1 b2 W)
  rw [E] at H
  clear E
  go_enter Try.func74, Try.ntmps74
  go_wp2_with (refine (H _).out.mono ?_; rintro e w' ⟨rfl, rfl⟩)
  go_ret
  exact ⟨rfl, (Below.refl _ _).alloc (Nat.le_refl _) _⟩

theorem mayNum_5 (d a b n : Int) (b1 : -2147483648 ≤ n) (b2 : n ≤ 2147483647) (w : World) :
    Calls Try.prog 74 #[.agg #[.int .i64 2, .int .i64 5, .int .i64 d, .int .i64 a, .int .i64 b, .int .i32 n, .string ⟨#[]⟩]] w fun e w' => e = .returned (.bool (numOk 3 n)) ∧ Below w.heap.size w w' := by
  have E : (decide (-2048 ≤ n) && decide (n < 2048)) = numOk 3 n := by rw [Bool.eq_iff_iff]; simp [numOk]; omega
  have H := fun W => Lib.hid (fits_12 n b1 b2 W)
  rw [E] at H
  clear E
  go_enter Try.func74, Try.ntmps74
  go_wp2_with (refine (H _).out.mono ?_; rintro e w' ⟨rfl, rfl⟩)
  go_ret
  exact ⟨rfl, (Below.refl _ _).alloc (Nat.le_refl _) _⟩

theorem mayNum_6 (d a b n : Int) (b1 : -2147483648 ≤ n) (b2 : n ≤ 2147483647) (w : World) :
    Calls Try.prog 74 #[.agg #[.int .i64 2, .int .i64 6, .int .i64 d, .int .i64 a, .int .i64 b, .int .i32 n, .string ⟨#[]⟩]] w fun e w' => e = .returned (.bool (numOk 3 n)) ∧ Below w.heap.size w w' := by
  have E : (decide (-2048 ≤ n) && decide (n < 2048)) = numOk 3 n := by rw [Bool.eq_iff_iff]; simp [numOk]; omega
  have H := fun W => Lib.hid (fits_12 n b1 b2 W)
  rw [E] at H
  clear E
  go_enter Try.func74, Try.ntmps74
  go_wp2_with (refine (H _).out.mono ?_; rintro e w' ⟨rfl, rfl⟩)
  go_ret
  exact ⟨rfl, (Below.refl _ _).alloc (Nat.le_refl _) _⟩

theorem mayNum_7 (d a b n : Int) (b1 : -2147483648 ≤ n) (b2 : n ≤ 2147483647) (w : World) :
    Calls Try.prog 74 #[.agg #[.int .i64 2, .int .i64 7, .int .i64 d, .int .i64 a, .int .i64 b, .int .i32 n, .string ⟨#[]⟩]] w fun e w' => e = .returned (.bool (numOk 3 n)) ∧ Below w.heap.size w w' := by
  have E : (decide (-2048 ≤ n) && decide (n < 2048)) = numOk 3 n := by rw [Bool.eq_iff_iff]; simp [numOk]; omega
  have H := fun W => Lib.hid (fits_12 n b1 b2 W)
  rw [E] at H
  clear E
  go_enter Try.func74, Try.ntmps74
  go_wp2_with (refine (H _).out.mono ?_; rintro e w' ⟨rfl, rfl⟩)
  go_ret
  exact ⟨rfl, (Below.refl _ _).alloc (Nat.le_refl _) _⟩

theorem mayNum_8 (d a b n : Int) (b1 : -2147483648 ≤ n) (b2 : n ≤ 2147483647) (w : World) :
    Calls Try.prog 74 #[.agg #[.int .i64 2, .int .i64 8, .int .i64 d, .int .i64 a, .int .i64 b, .int .i32 n, .string ⟨#[]⟩]] w fun e w' => e = .returned (.bool (numOk 4 n)) ∧ Below w.heap.size w w' := by
  by_cases h1 : 0 ≤ n
  · by_cases h2 : n < 32
    · have E : Hid (numOk 4 n = true) := Lib.hid (by simp [numOk]; omega)
      go_enter Try.func74, Try.ntmps74
      go_wp2
      go_ret
      exact ⟨by rw [E.out]; rfl, (Below.refl _ _).alloc (Nat.le_refl _) _⟩
    · have E : Hid (numOk 4 n = false) := Lib.hid (by simp [numOk]; omega)
      go_enter Try.func74, Try.ntmps74
      go_wp2
      go_ret
      exact ⟨by rw [E.out]; rfl, (Below.refl _ _).alloc (Nat.le_refl _) _⟩
  · have E : Hid (numOk 4 n = false) := Lib.hid (by simp [numOk]; omega)
    go_enter Try.func74, Try.ntmps74
    go_wp2
    go_ret
    exact ⟨by rw [E.out]; rfl, (Below.refl _ _).alloc (Nat.le_refl _) _⟩

theorem mayNum_9 (d a b n : Int) (b1 : -2147483648 ≤ n) (b2 : n ≤ 2147483647) (w : World) :
    Calls Try.prog 74 #[.agg #[.int .i64 2, .int .i64 9, .int .i64 d, .int .i64 a, .int .i64 b, .int .i32 n, .string ⟨#[]⟩]] w fun e w' => e = .returned (.bool (numOk 4 n)) ∧ Below w.heap.size w w' := by
  by_cases h1 : 0 ≤ n
  · by_cases h2 : n < 32
    · have E : Hid (numOk 4 n = true) := Lib.hid (by simp [numOk]; omega)
      go_enter Try.func74, Try.ntmps74
      go_wp2
      go_ret
      exact ⟨by rw [E.out]; rfl, (Below.refl _ _).alloc (Nat.le_refl _) _⟩
    · have E : Hid (numOk 4 n = false) := Lib.hid (by simp [numOk]; omega)
      go_enter Try.func74, Try.ntmps74
      go_wp2
      go_ret
      exact ⟨by rw [E.out]; rfl, (Below.refl _ _).alloc (Nat.le_refl _) _⟩
  · have E : Hid (numOk 4 n = false) := Lib.hid (by simp [numOk]; omega)
    go_enter Try.func74, Try.ntmps74
    go_wp2
    go_ret
    exact ⟨by rw [E.out]; rfl, (Below.refl _ _).alloc (Nat.le_refl _) _⟩

theorem mayNum_10 (d a b n : Int) (b1 : -2147483648 ≤ n) (b2 : n ≤ 2147483647) (w : World) :
    Calls Try.prog 74 #[.agg #[.int .i64 2, .int .i64 10, .int .i64 d, .int .i64 a, .int .i64 b, .int .i32 n, .string ⟨#[]⟩]] w fun e w' => e = .returned (.bool (numOk 4 n)) ∧ Below w.heap.size w w' := by
  by_cases h1 : 0 ≤ n
  · by_cases h2 : n < 32
    · have E : Hid (numOk 4 n = true) := Lib.hid (by simp [numOk]; omega)
      go_enter Try.func74, Try.ntmps74
      go_wp2
      go_ret
      exact ⟨by rw [E.out]; rfl, (Below.refl _ _).alloc (Nat.le_refl _) _⟩
    · have E : Hid (numOk 4 n = false) := Lib.hid (by simp [numOk]; omega)
      go_enter Try.func74, Try.ntmps74
      go_wp2
      go_ret
      exact ⟨by rw [E.out]; rfl, (Below.refl _ _).alloc (Nat.le_refl _) _⟩
  · have E : Hid (numOk 4 n = false) := Lib.hid (by simp [numOk]; omega)
    go_enter Try.func74, Try.ntmps74
    go_wp2
    go_ret
    exact ⟨by rw [E.out]; rfl, (Below.refl _ _).alloc (Nat.le_refl _) _⟩

theorem mayNum_11 (d a b n : Int) (b1 : -2147483648 ≤ n) (b2 : n ≤ 2147483647) (w : World) :
    Calls Try.prog 74 #[.agg #[.int .i64 2, .int .i64 11, .int .i64 d, .int .i64 a, .int .i64 b, .int .i32 n, .string ⟨#[]⟩]] w fun e w' => e = .returned (.bool (numOk 2 n)) ∧ Below w.heap.size w w' := by
  have E : (n == 0) = numOk 2 n := rfl
  go_enter Try.func74, Try.ntmps74
  go_wp2
  go_ret
  exact ⟨by rw [← E]; rfl, (Below.refl _ _).alloc (Nat.le_refl _) _⟩

theorem mayNum_12 (d a b n : Int) (b1 : -2147483648 ≤ n) (b2 : n ≤ 2147483647) (w : World) :
    Calls Try.prog 74 #[.agg #[.int .i64 2, .int .i64 12, .int .i64 d, .int .i64 a, .int .i64 b, .int .i32 n, .string ⟨#[]⟩]] w fun e w' => e = .returned (.bool (numOk 2 n)) ∧ Below w.heap.size w w' := by
  have E : (n == 0) = numOk 2 n := rfl
  go_enter Try.func74, Try.ntmps74
  go_wp2
  go_ret
  exact ⟨by rw [← E]; rfl, (Below.refl _ _).alloc (Nat.le_refl _) _⟩

theorem mayNum_13 (d a b n : Int) (b1 : -2147483648 ≤ n) (b2 : n ≤ 2147483647) (w : World) :
    Calls Try.prog 74 #[.agg #[.int .i64 2, .int .i64 13, .int .i64 d, .int .i64 a, .int .i64 b, .int .i32 n, .string ⟨#[]⟩]] w fun e w' => e = .returned (.bool (numOk 2 n)) ∧ Below w.heap.size w w' := by
  have E : (n == 0) = numOk 2 n := rfl
  go_enter Try.func74, Try.ntmps74
  go_wp2
  go_ret
  exact ⟨by rw [← E]; rfl, (Below.refl _ _).alloc (Nat.le_refl _) _⟩

theorem mayNum_14 (d a b n : Int) (b1 : -2147483648 ≤ n) (b2 : n ≤ 2147483647) (w : World) :
    Calls Try.prog 74 #[.agg #[.int .i64 2, .int .i64 14, .int .i64 d, .int .i64 a, .int .i64 b, .int .i32 n, .string ⟨#[]⟩]] w fun e w' => e = .returned (.bool (numOk 2 n)) ∧ Below w.heap.size w w' := by
  have E : (n == 0) = numOk 2 n := rfl
  go_enter Try.func74, Try.ntmps74
  go_wp2
  go_ret
  exact ⟨by rw [← E]; rfl, (Below.refl _ _).alloc (Nat.le_refl _) _⟩

theorem mayNum_15 (d a b n : Int) (b1 : -2147483648 ≤ n) (b2 : n ≤ 2147483647) (w : World) :
    Calls Try.prog 74 #[.agg #[.int .i64 2, .int .i64 15, .int .i64 d, .int .i64 a, .int .i64 b, .int .i32 n, .string ⟨#[]⟩]] w fun e w' => e = .returned (.bool (numOk 2 n)) ∧ Below w.heap.size w w' := by
  have E : (n == 0) = numOk 2 n := rfl
  go_enter Try.func74, Try.ntmps74
  go_wp2
  go_ret
  exact ⟨by rw [← E]; rfl, (Below.refl _ _).alloc (Nat.le_refl _) _⟩

theorem mayNum_16 (d a b n : Int) (b1 : -2147483648 ≤ n) (b2 : n ≤ 2147483647) (w : World) :
    Calls Try.prog 74 #[.agg #[.int .i64 2, .int .i64 16, .int .i64 d, .int .i64 a, .int .i64 b, .int .i32 n, .string ⟨#[]⟩]] w fun e w' => e = .returned (.bool (numOk 2 n)) ∧ Below w.heap.size w w' := by
  have E : (n == 0) = numOk 2 n := rfl
  go_enter Try.func74, Try.ntmps74
  go_wp2
  go_ret
  exact ⟨by rw [← E]; rfl, (Below.refl _ _).alloc (Nat.le_refl _) _⟩

theorem mayNum_17 (d a b n : Int) (b1 : -2147483648 ≤ n) (b2 : n ≤ 2147483647) (w : World) :
    Calls Try.prog 74 #[.agg #[.int .i64 2, .int .i64 17, .int .i64 d, .int .i64 a, .int .i64 b, .int .i32 n, .string ⟨#[]⟩]] w fun e w' => e = .returned (.bool (numOk 2 n)) ∧ Below w.heap.size w w' := by
  have E : (n == 0) = numOk 2 n := rfl
  go_enter Try.func74, Try.ntmps74
  go_wp2
  go_ret
  exact ⟨by rw [← E]; rfl, (Below.refl _ _).alloc (Nat.le_refl _) _⟩

theorem mayNum_18 (d a b n : Int) (b1 : -2147483648 ≤ n) (b2 : n ≤ 2147483647) (w : World) :
    Calls Try.prog 74 #[.agg #[.int .i64 2, .int .i64 18, .int .i64 d, .int .i64 a, .int .i64 b, .int .i32 n, .string ⟨#[]⟩]] w fun e w' => e = .returned (.bool (numOk 2 n)) ∧ Below w.heap.size w w' := by
  have E : (n == 0) = numOk 2 n := rfl
  go_enter Try.func74, Try.ntmps74
  go_wp2
  go_ret
  exact ⟨by rw [← E]; rfl, (Below.refl _ _).alloc (Nat.le_refl _) _⟩

theorem mayNum_19 (d a b n : Int) (b1 : -2147483648 ≤ n) (b2 : n ≤ 2147483647) (w : World) :
    Calls Try.prog 74 #[.agg #[.int .i64 2, .int .i64 19, .int .i64 d, .int .i64 a, .int .i64 b, .int .i32 n, .string ⟨#[]⟩]] w fun e w' => e = .returned (.bool (numOk 2 n)) ∧ Below w.heap.size w w' := by
  have E : (n == 0) = numOk 2 n := rfl
  go_enter Try.func74, Try.ntmps74
  go_wp2
  go_ret
  exact ⟨by rw [← E]; rfl, (Below.refl _ _).alloc (Nat.le_refl _) _⟩

theorem mayNum_20 (d a b n : Int) (b1 : -2147483648 ≤ n) (b2 : n ≤ 2147483647) (w : World) :
    Calls Try.prog 74 #[.agg #[.int .i64 2, .int .i64 20, .int .i64 d, .int .i64 a, .int .i64 b, .int .i32 n, .string ⟨#[]⟩]] w fun e w' => e = .returned (.bool (numOk 2 n)) ∧ Below w.heap.size w w' := by
  have E : (n == 0) = numOk 2 n := rfl
  go_enter Try.func74, Try.ntmps74
  go_wp2
  go_ret
  exact ⟨by rw [← E]; rfl, (Below.refl _ _).alloc (Nat.le_refl _) _⟩

theorem mayNum_21 (d a b n : Int) (b1 : -2147483648 ≤ n) (b2 : n ≤ 2147483647) (w : World) :
    Calls Try.prog 74 #[.agg #[.int .i64 2, .int .i64 21, .int .i64 d, .int .i64 a, .int .i64 b, .int .i32 n, .string ⟨#[]⟩]] w fun e w' => e = .returned (.bool (numOk 2 n)) ∧ Below w.heap.size w w' := by
  have E : (n == 0) = numOk 2 n := rfl
  go_enter Try.func74, Try.ntmps74
  go_wp2
  go_ret
  exact ⟨by rw [← E]; rfl, (Below.refl _ _).alloc (Nat.le_refl _) _⟩

theorem mayNum_22 (d a b n : Int) (b1 : -2147483648 ≤ n) (b2 : n ≤ 2147483647) (w : World) :
    Calls Try.prog 74 #[.agg #[.int .i64 2, .int .i64 22, .int .i64 d, .int .i64 a, .int .i64 b, .int .i32 n, .string ⟨#[]⟩]] w fun e w' => e = .returned (.bool (numOk 2 n)) ∧ Below w.heap.size w w' := by
  have E : (n == 0) = numOk 2 n := rfl
  go_enter Try.func74, Try.ntmps74
  go_wp2
  go_ret
  exact ⟨by rw [← E]; rfl, (Below.refl _ _).alloc (Nat.le_refl _) _⟩

theorem mayNum_23 (d a b n : Int) (b1 : -2147483648 ≤ n) (b2 : n ≤ 2147483647) (w : World) :
    Calls Try.prog 74 #[.agg #[.int .i64 2, .int .i64 23, .int .i64 d, .int .i64 a, .int .i64 b, .int .i32 n, .string ⟨#[]⟩]] w fun e w' => e = .returned (.bool (numOk 2 n)) ∧ Below w.heap.size w w' := by
  have E : (n == 0) = numOk 2 n := rfl
  go_enter Try.func74, Try.ntmps74
  go_wp2
  go_ret
  exact ⟨by rw [← E]; rfl, (Below.refl _ _).alloc (Nat.le_refl _) _⟩

theorem mayNum_24 (d a b n : Int) (b1 : -2147483648 ≤ n) (b2 : n ≤ 2147483647) (w : World) :
    Calls Try.prog 74 #[.agg #[.int .i64 2, .int .i64 24, .int .i64 d, .int .i64 a, .int .i64 b, .int .i32 n, .string ⟨#[]⟩]] w fun e w' => e = .returned (.bool (numOk 3 n)) ∧ Below w.heap.size w w' := by
  have E : (decide (-2048 ≤ n) && decide (n < 2048)) = numOk 3 n := by rw [Bool.eq_iff_iff]; simp [numOk]; omega
  have H := fun W => Lib.hid (fits_12 n b1 b2 W)
  rw [E] at H
  clear E
  go_enter Try.func74, Try.ntmps74
  go_wp2_with (refine (H _).out.mono ?_; rintro e w' ⟨rfl, rfl⟩)
  go_ret
  exact ⟨rfl, (Below.refl _ _).alloc (Nat.le_refl _) _⟩

theorem mayNum_25 (d a b n : Int) (b1 : -2147483648 ≤ n) (b2 : n ≤ 2147483647) (w : World) :
    Calls Try.prog 74 #[.agg #[.int .i64 2, .int .i64 25, .int .i64 d, .int .i64 a, .int .i64 b, .int .i32 n, .string ⟨#[]⟩]] w fun e w' => e = .returned (.bool (numOk 5 n)) ∧ Below w.heap.size w w' := by
  have E : (decide (-2048 ≤ n) && decide (n < 2048)) = numOk 5 n := by rw [Bool.eq_iff_iff]; simp [numOk]; omega
  have H := fun W => Lib.hid (fits_12 n b1 b2 W)
  rw [E] at H
  clear E
  go_enter Try.func74, Try.ntmps74
  go_wp2_with (refine (H _).out.mono ?_; rintro e w' ⟨rfl, rfl⟩)
  go_ret
  exact ⟨rfl, (Below.refl _ _).alloc (Nat.le_refl _) _⟩

theorem mayNum_26 (d a b n : Int) (b1 : -2147483648 ≤ n) (b2 : n ≤ 2147483647) (w : World) :
    Calls Try.prog 74 #[.agg #[.int .i64 2, .int .i64 26, .int .i64 d, .int .i64 a, .int .i64 b, .int .i32 n, .string ⟨#[]⟩]] w fun e w' => e = .returned (.bool (numOk 6 n)) ∧ Below w.heap.size w w' := by
  have H := fun W => Lib.hid (fits_13 n b1 b2 W)
  by_cases h1 : (-4096 ≤ n ∧ n < 4096)
  · have e1 : (decide (-4096 ≤ n) && decide (n < 4096)) = true := by simp; omega
    rw [e1] at H
    clear e1
    have ht := tm2 n
    by_cases h2 : n.tmod 2 = 0
    · have h3 : (n.tmod 2 == 0) = true := by simp [h2]
      have E : Hid (numOk 6 n = true) := Lib.hid (by simp [numOk]; omega)
      clear h1 ht
      go_enter Try.func74, Try.ntmps74
      go_wp2_with (refine (H _).out.mono ?_; rintro e w' ⟨rfl, rfl⟩)
      go_ret
      exact ⟨by rw [E.out]; rfl, (Below.refl _ _).alloc (Nat.le_refl _) _⟩
    · have h3 : (n.tmod 2 == 0) = false := by simp [h2]
      have E : Hid (numOk 6 n = false) := Lib.hid (by simp [numOk]; omega)
      clear h1 ht
      go_enter Try.func74, Try.ntmps74
      go_wp2_with (refine (H _).out.mono ?_; rintro e w' ⟨rfl, rfl⟩)
      go_ret
      exact ⟨by rw [E.out]; rfl, (Below.refl _ _).alloc (Nat.le_refl _) _⟩
  · have e1 : (decide (-4096 ≤ n) && decide (n < 4096)) = false := by simp; omega
    rw [e1] at H
    clear e1
    have E : Hid (numOk 6 n = false) := Lib.hid (by simp [numOk]; omega)
    clear h1
    go_enter Try.func74, Try.ntmps74
    go_wp2_with (refine (H _).out.mono ?_; rintro e w' ⟨rfl, rfl⟩)
    go_ret
    exact ⟨by rw [E.out]; rfl, (Below.refl _ _).alloc (Nat.le_refl _) _⟩

theorem mayNum_27 (d a b n : Int) (b1 : -2147483648 ≤ n) (b2 : n ≤ 2147483647) (w : World) :
    Calls Try.prog 74 #[.agg #[.int .i64 2, .int .i64 27, .int .i64 d, .int .i64 a, .int .i64 b, .int .i32 n, .string ⟨#[]⟩]] w fun e w' => e = .returned (.bool (numOk 6 n)) ∧ Below w.heap.size w w' := by
  have H := fun W => Lib.hid (fits_13 n b1 b2 W)
  by_cases h1 : (-4096 ≤ n ∧ n < 4096)
  · have e1 : (decide (-4096 ≤ n) && decide (n < 4096)) = true := by simp; omega
    rw [e1] at H
    clear e1
    have ht := tm2 n
    by_cases h2 : n.tmod 2 = 0
    · have h3 : (n.tmod 2 == 0) = true := by simp [h2]
      have E : Hid (numOk 6 n = true) := Lib.hid (by simp [numOk]; omega)
      clear h1 ht
      go_enter Try.func74, Try.ntmps74
      go_wp2_with (refine (H _).out.mono ?_; rintro e w' ⟨rfl, rfl⟩)
      go_ret
      exact ⟨by rw [E.out]; rfl, (Below.refl _ _).alloc (Nat.le_refl _) _⟩
    · have h3 : (n.tmod 2 == 0) = false := by simp [h2]
      have E : Hid (numOk 6 n = false) := Lib.hid (by simp [numOk]; omega)
      clear h1 ht
      go_enter Try.func74, Try.ntmps74
      go_wp2_with (refine (H _).out.mono ?_; rintro e w' ⟨rfl, rfl⟩)
      go_ret
      exact ⟨by rw [E.out]; rfl, (Below.refl _ _).alloc (Nat.le_refl _) _⟩
  · have e1 : (decide (-4096 ≤ n) && decide (n < 4096)) = false := by simp; omega
    rw [e1] at H
    clear e1
    have E : Hid (numOk 6 n = false) := Lib.hid (by simp [numOk]; omega)
    clear h1
    go_enter Try.func74, Try.ntmps74
    go_wp2_with (refine (H _).out.mono ?_; rintro e w' ⟨rfl, rfl⟩)
    go_ret
    exact ⟨by rw [E.out]; rfl, (Below.refl _ _).alloc (Nat.le_refl _) _⟩

theorem mayNum_28 (d a b n : Int) (b1 : -2147483648 ≤ n) (b2 : n ≤ 2147483647) (w : World) :
    Calls Try.prog 74 #[.agg #[.int .i64 2, .int .i64 28, .int .i64 d, .int .i64 a, .int .i64 b, .int .i32 n, .string ⟨#[]⟩]] w fun e w' => e = .returned (.bool (numOk 8 n)) ∧ Below w.heap.size w w' := by
  have H := fun W => Lib.hid (fits_21 n b1 b2 W)
  by_cases h1 : (-1048576 ≤ n ∧ n < 1048576)
  · have e1 : (decide (-1048576 ≤ n) && decide (n < 1048576)) = true := by simp; omega
    rw [e1] at H
    clear e1
    have ht := tm2 n
    by_cases h2 : n.tmod 2 = 0
    · have h3 : (n.tmod 2 == 0) = true := by simp [h2]
      have E : Hid (numOk 8 n = true) := Lib.hid (by simp [numOk]; omega)
      clear h1 ht
      go_enter Try.func74, Try.ntmps74
      go_wp2_with (refine (H _).out.mono ?_; rintro e w' ⟨rfl, rfl⟩)
      go_ret
      exact ⟨by rw [E.out]; rfl, (Below.refl _ _).alloc (Nat.le_refl _) _⟩
    · have h3 : (n.tmod 2 == 0) = false := by simp [h2]
      have E : Hid (numOk 8 n = false) := Lib.hid (by simp [numOk]; omega)
      clear h1 ht
      go_enter Try.func74, Try.ntmps74
      go_wp2_with (refine (H _).out.mono ?_; rintro e w' ⟨rfl, rfl⟩)
      go_ret
      exact ⟨by rw [E.out]; rfl, (Below.refl _ _).alloc (Nat.le_refl _) _⟩
  · have e1 : (decide (-1048576 ≤ n) && decide (n < 1048576)) = false := by simp; omega
    rw [e1] at H
    clear e1
    have E : Hid (numOk 8 n = false) := Lib.hid (by simp [numOk]; omega)
    clear h1
    go_enter Try.func74, Try.ntmps74
    go_wp2_with (refine (H _).out.mono ?_; rintro e w' ⟨rfl, rfl⟩)
    go_ret
    exact ⟨by rw [E.out]; rfl, (Below.refl _ _).alloc (Nat.le_refl _) _⟩

theorem mayNum_29 (d a b n : Int) (b1 : -2147483648 ≤ n) (b2 : n ≤ 2147483647) (w : World) :
    Calls Try.prog 74 #[.agg #[.int .i64 2, .int .i64 29, .int .i64 d, .int .i64 a, .int .i64 b, .int .i32 n, .string ⟨#[]⟩]] w fun e w' => e = .returned (.bool (numOk 3 n)) ∧ Below w.heap.size w w' := by
  have E : (decide (-2048 ≤ n) && decide (n < 2048)) = numOk 3 n := by rw [Bool.eq_iff_iff]; simp [numOk]; omega
  have H := fun W => Lib.hid (fits_12 n b1 b2 W)
  rw [E] at H
  clear E
  go_enter Try.func74, Try.ntmps74
  go_wp2_with (refine (H _).out.mono ?_; rintro e w' ⟨rfl, rfl⟩)
  go_ret
  exact ⟨rfl, (Below.refl _ _).alloc (Nat.le_refl _) _⟩

theorem mayNum_30 (d a b n : Int) (b1 : -2147483648 ≤ n) (b2 : n ≤ 2147483647) (w : World) :
    Calls Try.prog 74 #[.agg #[.int .i64 2, .int .i64 30, .int .i64 d, .int .i64 a, .int .i64 b, .int .i32 n, .string ⟨#[]⟩]] w fun e w' => e = .returned (.bool (numOk 1 n)) ∧ Below w.heap.size w w' := by
  have E : (n == 0) = numOk 1 n := rfl
  go_enter Try.func74, Try.ntmps74
  go_wp2
  go_ret
  exact ⟨by rw [← E]; rfl, (Below.refl _ _).alloc (Nat.le_refl _) _⟩

theorem ops30 (op : Int) (h1 : 1 ≤ op) (h2 : op ≤ 30) : op = 1 ∨ op = 2 ∨ op = 3 ∨ op = 4 ∨ op = 5 ∨ op = 6 ∨ op = 7 ∨ op = 8 ∨ op = 9 ∨ op = 10 ∨ op = 11 ∨ op = 12 ∨ op = 13 ∨ op = 14 ∨ op = 15 ∨ op = 16 ∨ op = 17 ∨ op = 18 ∨ op = 19 ∨ op = 20 ∨ op = 21 ∨ op = 22 ∨ op = 23 ∨ op = 24 ∨ op = 25 ∨ op = 26 ∨ op = 27 ∨ op = 28 ∨ op = 29 ∨ op = 30 := by omega
theorem mayNum_any (op d a b n : Int) (h1 : 1 ≤ op) (h2 : op ≤ 30) (b1 : -2147483648 ≤ n) (b2 : n ≤ 2147483647) (w : World) :
    Calls Try.prog 74 #[.agg #[.int .i64 2, .int .i64 op, .int .i64 d, .int .i64 a, .int .i64 b, .int .i32 n, .string ⟨#[]⟩]] w fun e w' => e = .returned (.bool (numOk (formN op.toNat) n)) ∧ Below w.heap.size w w' := by
  rcases ops30 op h1 h2 with rfl | rfl | rfl | rfl | rfl | rfl | rfl | rfl | rfl | rfl | rfl | rfl | rfl | rfl | rfl | rfl | rfl | rfl | rfl | rfl | rfl | rfl | rfl | rfl | rfl | rfl | rfl | rfl | rfl | rfl
  · exact mayNum_1 d a b n b1 b2 w
  · exact mayNum_2 d a b n b1 b2 w
  · exact mayNum_3 d a b n b1 b2 w
  · exact mayNum_4 d a b n b1 b2 w
  · exact mayNum_5 d a b n b1 b2 w
  · exact mayNum_6 d a b n b1 b2 w
  · exact mayNum_7 d a b n b1 b2 w
  · exact mayNum_8 d a b n b1 b2 w
  · exact mayNum_9 d a b n b1 b2 w
  · exact mayNum_10 d a b n b1 b2 w
  · exact mayNum_11 d a b n b1 b2 w
  · exact mayNum_12 d a b n b1 b2 w
  · exact mayNum_13 d a b n b1 b2 w
  · exact mayNum_14 d a b n b1 b2 w
  · exact mayNum_15 d a b n b1 b2 w
  · exact mayNum_16 d a b n b1 b2 w
  · exact mayNum_17 d a b n b1 b2 w
  · exact mayNum_18 d a b n b1 b2 w
  · exact mayNum_19 d a b n b1 b2 w
  · exact mayNum_20 d a b n b1 b2 w
  · exact mayNum_21 d a b n b1 b2 w
  · exact mayNum_22 d a b n b1 b2 w
  · exact mayNum_23 d a b n b1 b2 w
  · exact mayNum_24 d a b n b1 b2 w
  · exact mayNum_25 d a b n b1 b2 w
  · exact mayNum_26 d a b n b1 b2 w
  · exact mayNum_27 d a b n b1 b2 w
  · exact mayNum_28 d a b n b1 b2 w
  · exact mayNum_29 d a b n b1 b2 w
  · exact mayNum_30 d a b n b1 b2 w

theorem maySym_any (op d a b n : Int) (w : World) :
    Calls Try.prog 75 #[.agg #[.int .i64 2, .int .i64 op, .int .i64 d, .int .i64 a, .int .i64 b, .int .i32 n, .string ⟨#[]⟩]] w fun e w' => e = .returned (.bool true) ∧ Below w.heap.size w w' := by
  by_cases h1 : op = 1
  · subst h1
    go_enter Try.func75, Try.ntmps75
    go_wp2
    go_ret
    exact ⟨rfl, (Below.refl _ _).alloc (Nat.le_refl _) _⟩
  · by_cases h2 : op = 2
    · subst h2
      go_enter Try.func75, Try.ntmps75
      go_wp2
      go_ret
      exact ⟨rfl, (Below.refl _ _).alloc (Nat.le_refl _) _⟩
    · by_cases h3 : op = 28
      · subst h3
        go_enter Try.func75, Try.ntmps75
        go_wp2
        go_ret
        exact ⟨rfl, (Below.refl _ _).alloc (Nat.le_refl _) _⟩
      · have e1 : (op == 1) = false := by simp [h1]
        have e2 : (op == 2) = false := by simp [h2]
        have e3 : (op == 28) = false := by simp [h3]
        go_enter Try.func75, Try.ntmps75
        go_wp2
        go_ret
        exact ⟨rfl, (Below.refl _ _).alloc (Nat.le_refl _) _⟩

theorem opsAt_nil (w : World) (A : Option Addr) : OpsAt w A [] := fun h => by cases h
theorem operands_any (op : Int) (h1 : 1 ≤ op) (h2 : op ≤ 30) (w : World) :
    Calls Try.prog 72 #[.int .i64 op] w fun e w' => ∃ (A : Option Addr) (n : Nat), e = .returned (.tuple #[.slice A n n, .bool true]) ∧ (opsL op).length = n ∧ n ≤ 3 ∧ OpsAt w' A (opsL op) ∧ Below w.heap.size w w' := by
  rcases ops30 op h1 h2 with rfl | rfl | rfl | rfl | rfl | rfl | rfl | rfl | rfl | rfl | rfl | rfl | rfl | rfl | rfl | rfl | rfl | rfl | rfl | rfl | rfl | rfl | rfl | rfl | rfl | rfl | rfl | rfl | rfl | rfl
  · exact (operands_1 w).mono fun e w' ⟨he, hw⟩ => ⟨_, 2, he, rfl, by decide, by rw [hw]; exact opsAt_new _ _ _ _ rfl, by rw [hw]; exact (Below.refl _ _).alloc (Nat.le_refl _) _⟩
  · exact (operands_2 w).mono fun e w' ⟨he, hw⟩ => ⟨_, 3, he, rfl, by decide, by rw [hw]; exact opsAt_new _ _ _ _ rfl, by rw [hw]; exact (Below.refl _ _).alloc (Nat.le_refl _) _⟩
  · exact (operands_3 w).mono fun e w' ⟨he, hw⟩ => ⟨_, 3, he, rfl, by decide, by rw [hw]; exact opsAt_new _ _ _ _ rfl, by rw [hw]; exact (Below.refl _ _).alloc (Nat.le_refl _) _⟩
  · exact (operands_4 w).mono fun e w' ⟨he, hw⟩ => ⟨_, 3, he, rfl, by decide, by rw [hw]; exact opsAt_new _ _ _ _ rfl, by rw [hw]; exact (Below.refl _ _).alloc (Nat.le_refl _) _⟩
  · exact (operands_5 w).mono fun e w' ⟨he, hw⟩ => ⟨_, 3, he, rfl, by decide, by rw [hw]; exact opsAt_new _ _ _ _ rfl, by rw [hw]; exact (Below.refl _ _).alloc (Nat.le_refl _) _⟩
  · exact (operands_6 w).mono fun e w' ⟨he, hw⟩ => ⟨_, 3, he, rfl, by decide, by rw [hw]; exact opsAt_new _ _ _ _ rfl, by rw [hw]; exact (Below.refl _ _).alloc (Nat.le_refl _) _⟩
  · exact (operands_7 w).mono fun e w' ⟨he, hw⟩ => ⟨_, 3, he, rfl, by decide, by rw [hw]; exact opsAt_new _ _ _ _ rfl, by rw [hw]; exact (Below.refl _ _).alloc (Nat.le_refl _) _⟩
  · exact (operands_8 w).mono fun e w' ⟨he, hw⟩ => ⟨_, 3, he, rfl, by decide, by rw [hw]; exact opsAt_new _ _ _ _ rfl, by rw [hw]; exact (Below.refl _ _).alloc (Nat.le_refl _) _⟩
  · exact (operands_9 w).mono fun e w' ⟨he, hw⟩ => ⟨_, 3, he, rfl, by decide, by rw [hw]; exact opsAt_new _ _ _ _ rfl, by rw [hw]; exact (Below.refl _ _).alloc (Nat.le_refl _) _⟩
  · exact (operands_10 w).mono fun e w' ⟨he, hw⟩ => ⟨_, 3, he, rfl, by decide, by rw [hw]; exact opsAt_new _ _ _ _ rfl, by rw [hw]; exact (Below.refl _ _).alloc (Nat.le_refl _) _⟩
  · exact (operands_11 w).mono fun e w' ⟨he, hw⟩ => ⟨_, 3, he, rfl, by decide, by rw [hw]; exact opsAt_new _ _ _ _ rfl, by rw [hw]; exact (Below.refl _ _).alloc (Nat.le_refl _) _⟩
  · exact (operands_12 w).mono fun e w' ⟨he, hw⟩ => ⟨_, 3, he, rfl, by decide, by rw [hw]; exact opsAt_new _ _ _ _ rfl, by rw [hw]; exact (Below.refl _ _).alloc (Nat.le_refl _) _⟩
  · exact (operands_13 w).mono fun e w' ⟨he, hw⟩ => ⟨_, 3, he, rfl, by decide, by rw [hw]; exact opsAt_new _ _ _ _ rfl, by rw [hw]; exact (Below.refl _ _).alloc (Nat.le_refl _) _⟩
  · exact (operands_14 w).mono fun e w' ⟨he, hw⟩ => ⟨_, 3, he, rfl, by decide, by rw [hw]; exact opsAt_new _ _ _ _ rfl, by rw [hw]; exact (Below.refl _ _).alloc (Nat.le_refl _) _⟩
  · exact (operands_15 w).mono fun e w' ⟨he, hw⟩ => ⟨_, 3, he, rfl, by decide, by rw [hw]; exact opsAt_new _ _ _ _ rfl, by rw [hw]; exact (Below.refl _ _).alloc (Nat.le_refl _) _⟩
  · exact (operands_16 w).mono fun e w' ⟨he, hw⟩ => ⟨_, 3, he, rfl, by decide, by rw [hw]; exact opsAt_new _ _ _ _ rfl, by rw [hw]; exact (Below.refl _ _).alloc (Nat.le_refl _) _⟩
  · exact (operands_17 w).mono fun e w' ⟨he, hw⟩ => ⟨_, 3, he, rfl, by decide, by rw [hw]; exact opsAt_new _ _ _ _ rfl, by rw [hw]; exact (Below.refl _ _).alloc (Nat.le_refl _) _⟩
  · exact (operands_18 w).mono fun e w' ⟨he, hw⟩ => ⟨_, 3, he, rfl, by decide, by rw [hw]; exact opsAt_new _ _ _ _ rfl, by rw [hw]; exact (Below.refl _ _).alloc (Nat.le_refl _) _⟩
  · exact (operands_19 w).mono fun e w' ⟨he, hw⟩ => ⟨_, 3, he, rfl, by decide, by rw [hw]; exact opsAt_new _ _ _ _ rfl, by rw [hw]; exact (Below.refl _ _).alloc (Nat.le_refl _) _⟩
  · exact (operands_20 w).mono fun e w' ⟨he, hw⟩ => ⟨_, 3, he, rfl, by decide, by rw [hw]; exact opsAt_new _ _ _ _ rfl, by rw [hw]; exact (Below.refl _ _).alloc (Nat.le_refl _) _⟩
  · exact (operands_21 w).mono fun e w' ⟨he, hw⟩ => ⟨_, 3, he, rfl, by decide, by rw [hw]; exact opsAt_new _ _ _ _ rfl, by rw [hw]; exact (Below.refl _ _).alloc (Nat.le_refl _) _⟩
  · exact (operands_22 w).mono fun e w' ⟨he, hw⟩ => ⟨_, 3, he, rfl, by decide, by rw [hw]; exact opsAt_new _ _ _ _ rfl, by rw [hw]; exact (Below.refl _ _).alloc (Nat.le_refl _) _⟩
  · exact (operands_23 w).mono fun e w' ⟨he, hw⟩ => ⟨_, 3, he, rfl, by decide, by rw [hw]; exact opsAt_new _ _ _ _ rfl, by rw [hw]; exact (Below.refl _ _).alloc (Nat.le_refl _) _⟩
  · exact (operands_24 w).mono fun e w' ⟨he, hw⟩ => ⟨_, 2, he, rfl, by decide, by rw [hw]; exact opsAt_new _ _ _ _ rfl, by rw [hw]; exact (Below.refl _ _).alloc (Nat.le_refl _) _⟩
  · exact (operands_25 w).mono fun e w' ⟨he, hw⟩ => ⟨_, 2, he, rfl, by decide, by rw [hw]; exact opsAt_new _ _ _ _ rfl, by rw [hw]; exact (Below.refl _ _).alloc (Nat.le_refl _) _⟩
  · exact (operands_26 w).mono fun e w' ⟨he, hw⟩ => ⟨_, 3, he, rfl, by decide, by rw [hw]; exact opsAt_new _ _ _ _ rfl, by rw [hw]; exact (Below.refl _ _).alloc (Nat.le_refl _) _⟩
  · exact (operands_27 w).mono fun e w' ⟨he, hw⟩ => ⟨_, 3, he, rfl, by decide, by rw [hw]; exact opsAt_new _ _ _ _ rfl, by rw [hw]; exact (Below.refl _ _).alloc (Nat.le_refl _) _⟩
  · exact (operands_28 w).mono fun e w' ⟨he, hw⟩ => ⟨_, 2, he, rfl, by decide, by rw [hw]; exact opsAt_new _ _ _ _ rfl, by rw [hw]; exact (Below.refl _ _).alloc (Nat.le_refl _) _⟩
  · exact (operands_29 w).mono fun e w' ⟨he, hw⟩ => ⟨_, 2, he, rfl, by decide, by rw [hw]; exact opsAt_new _ _ _ _ rfl, by rw [hw]; exact (Below.refl _ _).alloc (Nat.le_refl _) _⟩
  · exact (operands_30 w).mono fun e w' ⟨he, hw⟩ => ⟨_, 0, he, rfl, by decide, opsAt_nil _ _, by rw [hw]; exact Below.refl _ _⟩

theorem has_ops (op : Int) (h1 : 1 ≤ op) (h2 : op ≤ 30) : hasL (opsL op) 0 = hasDN (formN op.toNat) ∧ (hasL (opsL op) 1 || hasL (opsL op) 4) = hasAN (formN op.toNat) ∧ hasL (opsL op) 2 = hasBN (formN op.toNat) := by
  rcases ops30 op h1 h2 with rfl | rfl | rfl | rfl | rfl | rfl | rfl | rfl | rfl | rfl | rfl | rfl | rfl | rfl | rfl | rfl | rfl | rfl | rfl | rfl | rfl | rfl | rfl | rfl | rfl | rfl | rfl | rfl | rfl | rfl <;> exact ⟨by decide, by decide, by decide⟩

end Go.Proofs.Ytmedhibjkbahpaa
namespace Go.Proofs.Ytmedhibjkbahpaa
open Go.RowKit
set_option linter.unusedVariables false
set_option linter.unusedSimpArgs false
set_option maxRecDepth 100000

theorem shape_1 (w : World) : Calls Try.prog 33 #[.int .i64 1] w fun e w' => e = .returned (.string ⟨#[68, 78]⟩) ∧ w = w' := by
  go_enter Try.func33, Try.ntmps33
  go_wp2
  go_ret
  exact ⟨rfl, rfl⟩
theorem shape_2 (w : World) : Calls Try.prog 33 #[.int .i64 2] w fun e w' => e = .returned (.string ⟨#[68, 65, 78]⟩) ∧ w = w' := by
  go_enter Try.func33, Try.ntmps33
  go_wp2
  go_ret
  exact ⟨rfl, rfl⟩
theorem shape_3 (w : World) : Calls Try.prog 33 #[.int .i64 3] w fun e w' => e = .returned (.string ⟨#[68, 65, 78]⟩) ∧ w = w' := by
  go_enter Try.func33, Try.ntmps33
  go_wp2
  go_ret
  exact ⟨rfl, rfl⟩
theorem shape_4 (w : World) : Calls Try.prog 33 #[.int .i64 4] w fun e w' => e = .returned (.string ⟨#[68, 65, 78]⟩) ∧ w = w' := by
  go_enter Try.func33, Try.ntmps33
  go_wp2
  go_ret
  exact ⟨rfl, rfl⟩
theorem shape_5 (w : World) : Calls Try.prog 33 #[.int .i64 5] w fun e w' => e = .returned (.string ⟨#[68, 65, 78]⟩) ∧ w = w' := by
  go_enter Try.func33, Try.ntmps33
  go_wp2
  go_ret
  exact ⟨rfl, rfl⟩
theorem shape_6 (w : World) : Calls Try.prog 33 #[.int .i64 6] w fun e w' => e = .returned (.string ⟨#[68, 65, 78]⟩) ∧ w = w' := by
  go_enter Try.func33, Try.ntmps33
  go_wp2
  go_ret
  exact ⟨rfl, rfl⟩
theorem shape_7 (w : World) : Calls Try.prog 33 #[.int .i64 7] w fun e w' => e = .returned (.string ⟨#[68, 65, 78]⟩) ∧ w = w' := by
  go_enter Try.func33, Try.ntmps33
  go_wp2
  go_ret
  exact ⟨rfl, rfl⟩
theorem shape_8 (w : World) : Calls Try.prog 33 #[.int .i64 8] w fun e w' => e = .returned (.string ⟨#[68, 65, 78]⟩) ∧ w = w' := by
  go_enter Try.func33, Try.ntmps33
  go_wp2
  go_ret
  exact ⟨rfl, rfl⟩
theorem shape_9 (w : World) : Calls Try.prog 33 #[.int .i64 9] w fun e w' => e = .returned (.string ⟨#[68, 65, 78]⟩) ∧ w = w' := by
  go_enter Try.func33, Try.ntmps33
  go_wp2
  go_ret
  exact ⟨rfl, rfl⟩
theorem shape_10 (w : World) : Calls Try.prog 33 #[.int .i64 10] w fun e w' => e = .returned (.string ⟨#[68, 65, 78]⟩) ∧ w = w' := by
  go_enter Try.func33, Try.ntmps33
  go_wp2
  go_ret
  exact ⟨rfl, rfl⟩
theorem shape_11 (w : World) : Calls Try.prog 33 #[.int .i64 11] w fun e w' => e = .returned (.string ⟨#[68, 65, 66]⟩) ∧ w = w' := by
  go_enter Try.func33, Try.ntmps33
  go_wp2
  go_ret
  exact ⟨rfl, rfl⟩
theorem shape_12 (w : World) : Calls Try.prog 33 #[.int .i64 12] w fun e w' => e = .returned (.string ⟨#[68, 65, 66]⟩) ∧ w = w' := by
  go_enter Try.func33, Try.ntmps33
  go_wp2
  go_ret
  exact ⟨rfl, rfl⟩
theorem shape_13 (w : World) : Calls Try.prog 33 #[.int .i64 13] w fun e w' => e = .returned (.string ⟨#[68, 65, 66]⟩) ∧ w = w' := by
  go_enter Try.func33, Try.ntmps33
  go_wp2
  go_ret
  exact ⟨rfl, rfl⟩
theorem shape_14 (w : World) : Calls Try.prog 33 #[.int .i64 14] w fun e w' => e = .returned (.string ⟨#[68, 65, 66]⟩) ∧ w = w' := by
  go_enter Try.func33, Try.ntmps33
  go_wp2
  go_ret
  exact ⟨rfl, rfl⟩
theorem shape_15 (w : World) : Calls Try.prog 33 #[.int .i64 15] w fun e w' => e = .returned (.string ⟨#[68, 65, 66]⟩) ∧ w = w' := by
  go_enter Try.func33, Try.ntmps33
  go_wp2
  go_ret
  exact ⟨rfl, rfl⟩
theorem shape_16 (w : World) : Calls Try.prog 33 #[.int .i64 16] w fun e w' => e = .returned (.string ⟨#[68, 65, 66]⟩) ∧ w = w' := by
  go_enter Try.func33, Try.ntmps33
  go_wp2
  go_ret
  exact ⟨rfl, rfl⟩
theorem shape_17 (w : World) : Calls Try.prog 33 #[.int .i64 17] w fun e w' => e = .returned (.string ⟨#[68, 65, 66]⟩) ∧ w = w' := by
  go_enter Try.func33, Try.ntmps33
  go_wp2
  go_ret
  exact ⟨rfl, rfl⟩
theorem shape_18 (w : World) : Calls Try.prog 33 #[.int .i64 18] w fun e w' => e = .returned (.string ⟨#[68, 65, 66]⟩) ∧ w = w' := by
  go_enter Try.func33, Try.ntmps33
  go_wp2
  go_ret
  exact ⟨rfl, rfl⟩
theorem shape_19 (w : World) : Calls Try.prog 33 #[.int .i64 19] w fun e w' => e = .returned (.string ⟨#[68, 65, 66]⟩) ∧ w = w' := by
  go_enter Try.func33, Try.ntmps33
  go_wp2
  go_ret
  exact ⟨rfl, rfl⟩
theorem shape_20 (w : World) : Calls Try.prog 33 #[.int .i64 20] w fun e w' => e = .returned (.string ⟨#[68, 65, 66]⟩) ∧ w = w' := by
  go_enter Try.func33, Try.ntmps33
  go_wp2
  go_ret
  exact ⟨rfl, rfl⟩
theorem shape_21 (w : World) : Calls Try.prog 33 #[.int .i64 21] w fun e w' => e = .returned (.string ⟨#[68, 65, 66]⟩) ∧ w = w' := by
  go_enter Try.func33, Try.ntmps33
  go_wp2
  go_ret
  exact ⟨rfl, rfl⟩
theorem shape_22 (w : World) : Calls Try.prog 33 #[.int .i64 22] w fun e w' => e = .returned (.string ⟨#[68, 65, 66]⟩) ∧ w = w' := by
  go_enter Try.func33, Try.ntmps33
  go_wp2
  go_ret
  exact ⟨rfl, rfl⟩
theorem shape_23 (w : World) : Calls Try.prog 33 #[.int .i64 23] w fun e w' => e = .returned (.string ⟨#[68, 65, 66]⟩) ∧ w = w' := by
  go_enter Try.func33, Try.ntmps33
  go_wp2
  go_ret
  exact ⟨rfl, rfl⟩
theorem shape_24 (w : World) : Calls Try.prog 33 #[.int .i64 24] w fun e w' => e = .returned (.string ⟨#[68, 80]⟩) ∧ w = w' := by
  go_enter Try.func33, Try.ntmps33
  go_wp2
  go_ret
  exact ⟨rfl, rfl⟩
theorem shape_25 (w : World) : Calls Try.prog 33 #[.int .i64 25] w fun e w' => e = .returned (.string ⟨#[66, 80]⟩) ∧ w = w' := by
  go_enter Try.func33, Try.ntmps33
  go_wp2
  go_ret
  exact ⟨rfl, rfl⟩
theorem shape_26 (w : World) : Calls Try.prog 33 #[.int .i64 26] w fun e w' => e = .returned (.string ⟨#[65, 66, 78]⟩) ∧ w = w' := by
  go_enter Try.func33, Try.ntmps33
  go_wp2
  go_ret
  exact ⟨rfl, rfl⟩
theorem shape_27 (w : World) : Calls Try.prog 33 #[.int .i64 27] w fun e w' => e = .returned (.string ⟨#[65, 66, 78]⟩) ∧ w = w' := by
  go_enter Try.func33, Try.ntmps33
  go_wp2
  go_ret
  exact ⟨rfl, rfl⟩
theorem shape_28 (w : World) : Calls Try.prog 33 #[.int .i64 28] w fun e w' => e = .returned (.string ⟨#[68, 78]⟩) ∧ w = w' := by
  go_enter Try.func33, Try.ntmps33
  go_wp2
  go_ret
  exact ⟨rfl, rfl⟩
theorem shape_29 (w : World) : Calls Try.prog 33 #[.int .i64 29] w fun e w' => e = .returned (.string ⟨#[68, 80]⟩) ∧ w = w' := by
  go_enter Try.func33, Try.ntmps33
  go_wp2
  go_ret
  exact ⟨rfl, rfl⟩
theorem shape_30 (w : World) : Calls Try.prog 33 #[.int .i64 30] w fun e w' => e = .returned (.string ⟨#[]⟩) ∧ w = w' := by
  go_enter Try.func33, Try.ntmps33
  go_wp2
  go_ret
  exact ⟨rfl, rfl⟩
theorem shape_lo (op : Int) (h : op < 1) (w : World) : Calls Try.prog 33 #[.int .i64 op] w fun e w' => e = .returned (.string ⟨#[]⟩) ∧ w = w' := by
  have e1 : (op == 1) = false := by simp; omega
  have e2 : (op == 28) = false := by simp; omega
  have e3 : (op == 24) = false := by simp; omega
  have e4 : (op == 29) = false := by simp; omega
  have e5 : (op == 25) = false := by simp; omega
  have e6 : (op == 26) = false := by simp; omega
  have e7 : (op == 27) = false := by simp; omega
  go_enter Try.func33, Try.ntmps33
  go_wp2
  go_ret
  exact ⟨rfl, rfl⟩
theorem shape_hi (op : Int) (h : 30 < op) (w : World) : Calls Try.prog 33 #[.int .i64 op] w fun e w' => e = .returned (.string ⟨#[]⟩) ∧ w = w' := by
  have e1 : (op == 1) = false := by simp; omega
  have e2 : (op == 28) = false := by simp; omega
  have e3 : (op == 24) = false := by simp; omega
  have e4 : (op == 29) = false := by simp; omega
  have e5 : (op == 25) = false := by simp; omega
  have e6 : (op == 26) = false := by simp; omega
  have e7 : (op == 27) = false := by simp; omega
  go_enter Try.func33, Try.ntmps33
  go_wp2
  go_ret
  exact ⟨rfl, rfl⟩
theorem has_DN_D (w : World) : Calls Try.prog 36 #[.string ⟨#[68, 78]⟩, .int .u8 68] w fun e w' => e = .returned (.bool true) ∧ w = w' := by
  go_enter Try.func36, Try.ntmps36
  go_wp2_with fail
  refine wp_loop_rounds 1 ?_
  rw [rounds_succ]
  go_wp2_with fail
  go_ret
  exact ⟨rfl, rfl⟩
theorem has_DN_A (w : World) : Calls Try.prog 36 #[.string ⟨#[68, 78]⟩, .int .u8 65] w fun e w' => e = .returned (.bool false) ∧ w = w' := by
  go_enter Try.func36, Try.ntmps36
  go_wp2_with fail
  refine wp_loop_rounds 3 ?_
  rw [rounds_succ]
  go_wp2_with fail
  rw [rounds_succ]
  go_wp2_with fail
  rw [rounds_succ]
  go_wp2_with fail
  go_ret
  exact ⟨rfl, rfl⟩
theorem has_DN_P (w : World) : Calls Try.prog 36 #[.string ⟨#[68, 78]⟩, .int .u8 80] w fun e w' => e = .returned (.bool false) ∧ w = w' := by
  go_enter Try.func36, Try.ntmps36
  go_wp2_with fail
  refine wp_loop_rounds 3 ?_
  rw [rounds_succ]
  go_wp2_with fail
  rw [rounds_succ]
  go_wp2_with fail
  rw [rounds_succ]
  go_wp2_with fail
  go_ret
  exact ⟨rfl, rfl⟩
theorem has_DN_B (w : World) : Calls Try.prog 36 #[.string ⟨#[68, 78]⟩, .int .u8 66] w fun e w' => e = .returned (.bool false) ∧ w = w' := by
  go_enter Try.func36, Try.ntmps36
  go_wp2_with fail
  refine wp_loop_rounds 3 ?_
  rw [rounds_succ]
  go_wp2_with fail
  rw [rounds_succ]
  go_wp2_with fail
  rw [rounds_succ]
  go_wp2_with fail
  go_ret
  exact ⟨rfl, rfl⟩
theorem has_DAN_D (w : World) : Calls Try.prog 36 #[.string ⟨#[68, 65, 78]⟩, .int .u8 68] w fun e w' => e = .returned (.bool true) ∧ w = w' := by
  go_enter Try.func36, Try.ntmps36
  go_wp2_with fail
  refine wp_loop_rounds 1 ?_
  rw [rounds_succ]
  go_wp2_with fail
  go_ret
  exact ⟨rfl, rfl⟩
theorem has_DAN_A (w : World) : Calls Try.prog 36 #[.string ⟨#[68, 65, 78]⟩, .int .u8 65] w fun e w' => e = .returned (.bool true) ∧ w = w' := by
  go_enter Try.func36, Try.ntmps36
  go_wp2_with fail
  refine wp_loop_rounds 2 ?_
  rw [rounds_succ]
  go_wp2_with fail
  rw [rounds_succ]
  go_wp2_with fail
  go_ret
  exact ⟨rfl, rfl⟩
theorem has_DAN_P (w : World) : Calls Try.prog 36 #[.string ⟨#[68, 65, 78]⟩, .int .u8 80] w fun e w' => e = .returned (.bool false) ∧ w = w' := by
  go_enter Try.func36, Try.ntmps36
  go_wp2_with fail
  refine wp_loop_rounds 4 ?_
  rw [rounds_succ]
  go_wp2_with fail
  rw [rounds_succ]
  go_wp2_with fail
  rw [rounds_succ]
  go_wp2_with fail
  rw [rounds_succ]
  go_wp2_with fail
  go_ret
  exact ⟨rfl, rfl⟩
theorem has_DAN_B (w : World) : Calls Try.prog 36 #[.string ⟨#[68, 65, 78]⟩, .int .u8 66] w fun e w' => e = .returned (.bool false) ∧ w = w' := by
  go_enter Try.func36, Try.ntmps36
  go_wp2_with fail
  refine wp_loop_rounds 4 ?_
  rw [rounds_succ]
  go_wp2_with fail
  rw [rounds_succ]
  go_wp2_with fail
  rw [rounds_succ]
  go_wp2_with fail
  rw [rounds_succ]
  go_wp2_with fail
  go_ret
  exact ⟨rfl, rfl⟩
theorem has_DAB_D (w : World) : Calls Try.prog 36 #[.string ⟨#[68, 65, 66]⟩, .int .u8 68] w fun e w' => e = .returned (.bool true) ∧ w = w' := by
  go_enter Try.func36, Try.ntmps36
  go_wp2_with fail
  refine wp_loop_rounds 1 ?_
  rw [rounds_succ]
  go_wp2_with fail
  go_ret
  exact ⟨rfl, rfl⟩
theorem has_DAB_A (w : World) : Calls Try.prog 36 #[.string ⟨#[68, 65, 66]⟩, .int .u8 65] w fun e w' => e = .returned (.bool true) ∧ w = w' := by
  go_enter Try.func36, Try.ntmps36
  go_wp2_with fail
  refine wp_loop_rounds 2 ?_
  rw [rounds_succ]
  go_wp2_with fail
  rw [rounds_succ]
  go_wp2_with fail
  go_ret
  exact ⟨rfl, rfl⟩
theorem has_DAB_P (w : World) : Calls Try.prog 36 #[.string ⟨#[68, 65, 66]⟩, .int .u8 80] w fun e w' => e = .returned (.bool false) ∧ w = w' := by
  go_enter Try.func36, Try.ntmps36
  go_wp2_with fail
  refine wp_loop_rounds 4 ?_
  rw [rounds_succ]
  go_wp2_with fail
  rw [rounds_succ]
  go_wp2_with fail
  rw [rounds_succ]
  go_wp2_with fail
  rw [rounds_succ]
  go_wp2_with fail
  go_ret
  exact ⟨rfl, rfl⟩
theorem has_DAB_B (w : World) : Calls Try.prog 36 #[.string ⟨#[68, 65, 66]⟩, .int .u8 66] w fun e w' => e = .returned (.bool true) ∧ w = w' := by
  go_enter Try.func36, Try.ntmps36
  go_wp2_with fail
  refine wp_loop_rounds 3 ?_
  rw [rounds_succ]
  go_wp2_with fail
  rw [rounds_succ]
  go_wp2_with fail
  rw [rounds_succ]
  go_wp2_with fail
  go_ret
  exact ⟨rfl, rfl⟩
theorem has_DP_D (w : World) : Calls Try.prog 36 #[.string ⟨#[68, 80]⟩, .int .u8 68] w fun e w' => e = .returned (.bool true) ∧ w = w' := by
  go_enter Try.func36, Try.ntmps36
  go_wp2_with fail
  refine wp_loop_rounds 1 ?_
  rw [rounds_succ]
  go_wp2_with fail
  go_ret
  exact ⟨rfl, rfl⟩
theorem has_DP_A (w : World) : Calls Try.prog 36 #[.string ⟨#[68, 80]⟩, .int .u8 65] w fun e w' => e = .returned (.bool false) ∧ w = w' := by
  go_enter Try.func36, Try.ntmps36
  go_wp2_with fail
  refine wp_loop_rounds 3 ?_
  rw [rounds_succ]
  go_wp2_with fail
  rw [rounds_succ]
  go_wp2_with fail
  rw [rounds_succ]
  go_wp2_with fail
  go_ret
  exact ⟨rfl, rfl⟩
theorem has_DP_P (w : World) : Calls Try.prog 36 #[.string ⟨#[68, 80]⟩, .int .u8 80] w fun e w' => e = .returned (.bool true) ∧ w = w' := by
  go_enter Try.func36, Try.ntmps36
  go_wp2_with fail
  refine wp_loop_rounds 2 ?_
  rw [rounds_succ]
  go_wp2_with fail
  rw [rounds_succ]
  go_wp2_with fail
  go_ret
  exact ⟨rfl, rfl⟩
theorem has_DP_B (w : World) : Calls Try.prog 36 #[.string ⟨#[68, 80]⟩, .int .u8 66] w fun e w' => e = .returned (.bool false) ∧ w = w' := by
  go_enter Try.func36, Try.ntmps36
  go_wp2_with fail
  refine wp_loop_rounds 3 ?_
  rw [rounds_succ]
  go_wp2_with fail
  rw [rounds_succ]
  go_wp2_with fail
  rw [rounds_succ]
  go_wp2_with fail
  go_ret
  exact ⟨rfl, rfl⟩
theorem has_BP_D (w : World) : Calls Try.prog 36 #[.string ⟨#[66, 80]⟩, .int .u8 68] w fun e w' => e = .returned (.bool false) ∧ w = w' := by
  go_enter Try.func36, Try.ntmps36
  go_wp2_with fail
  refine wp_loop_rounds 3 ?_
  rw [rounds_succ]
  go_wp2_with fail
  rw [rounds_succ]
  go_wp2_with fail
  rw [rounds_succ]
  go_wp2_with fail
  go_ret
  exact ⟨rfl, rfl⟩
theorem has_BP_A (w : World) : Calls Try.prog 36 #[.string ⟨#[66, 80]⟩, .int .u8 65] w fun e w' => e = .returned (.bool false) ∧ w = w' := by
  go_enter Try.func36, Try.ntmps36
  go_wp2_with fail
  refine wp_loop_rounds 3 ?_
  rw [rounds_succ]
  go_wp2_with fail
  rw [rounds_succ]
  go_wp2_with fail
  rw [rounds_succ]
  go_wp2_with fail
  go_ret
  exact ⟨rfl, rfl⟩
theorem has_BP_P (w : World) : Calls Try.prog 36 #[.string ⟨#[66, 80]⟩, .int .u8 80] w fun e w' => e = .returned (.bool true) ∧ w = w' := by
  go_enter Try.func36, Try.ntmps36
  go_wp2_with fail
  refine wp_loop_rounds 2 ?_
  rw [rounds_succ]
  go_wp2_with fail
  rw [rounds_succ]
  go_wp2_with fail
  go_ret
  exact ⟨rfl, rfl⟩
theorem has_BP_B (w : World) : Calls Try.prog 36 #[.string ⟨#[66, 80]⟩, .int .u8 66] w fun e w' => e = .returned (.bool true) ∧ w = w' := by
  go_enter Try.func36, Try.ntmps36
  go_wp2_with fail
  refine wp_loop_rounds 1 ?_
  rw [rounds_succ]
  go_wp2_with fail
  go_ret
  exact ⟨rfl, rfl⟩
theorem has_ABN_D (w : World) : Calls Try.prog 36 #[.string ⟨#[65, 66, 78]⟩, .int .u8 68] w fun e w' => e = .returned (.bool false) ∧ w = w' := by
  go_enter Try.func36, Try.ntmps36
  go_wp2_with fail
  refine wp_loop_rounds 4 ?_
  rw [rounds_succ]
  go_wp2_with fail
  rw [rounds_succ]
  go_wp2_with fail
  rw [rounds_succ]
  go_wp2_with fail
  rw [rounds_succ]
  go_wp2_with fail
  go_ret
  exact ⟨rfl, rfl⟩
theorem has_ABN_A (w : World) : Calls Try.prog 36 #[.string ⟨#[65, 66, 78]⟩, .int .u8 65] w fun e w' => e = .returned (.bool true) ∧ w = w' := by
  go_enter Try.func36, Try.ntmps36
  go_wp2_with fail
  refine wp_loop_rounds 1 ?_
  rw [rounds_succ]
  go_wp2_with fail
  go_ret
  exact ⟨rfl, rfl⟩
theorem has_ABN_P (w : World) : Calls Try.prog 36 #[.string ⟨#[65, 66, 78]⟩, .int .u8 80] w fun e w' => e = .returned (.bool false) ∧ w = w' := by
  go_enter Try.func36, Try.ntmps36
  go_wp2_with fail
  refine wp_loop_rounds 4 ?_
  rw [rounds_succ]
  go_wp2_with fail
  rw [rounds_succ]
  go_wp2_with fail
  rw [rounds_succ]
  go_wp2_with fail
  rw [rounds_succ]
  go_wp2_with fail
  go_ret
  exact ⟨rfl, rfl⟩
theorem has_ABN_B (w : World) : Calls Try.prog 36 #[.string ⟨#[65, 66, 78]⟩, .int .u8 66] w fun e w' => e = .returned (.bool true) ∧ w = w' := by
  go_enter Try.func36, Try.ntmps36
  go_wp2_with fail
  refine wp_loop_rounds 2 ?_
  rw [rounds_succ]
  go_wp2_with fail
  rw [rounds_succ]
  go_wp2_with fail
  go_ret
  exact ⟨rfl, rfl⟩
theorem has_no_D (w : World) : Calls Try.prog 36 #[.string ⟨#[]⟩, .int .u8 68] w fun e w' => e = .returned (.bool false) ∧ w = w' := by
  go_enter Try.func36, Try.ntmps36
  go_wp2_with fail
  refine wp_loop_rounds 1 ?_
  rw [rounds_succ]
  go_wp2_with fail
  go_ret
  exact ⟨rfl, rfl⟩
theorem has_no_A (w : World) : Calls Try.prog 36 #[.string ⟨#[]⟩, .int .u8 65] w fun e w' => e = .returned (.bool false) ∧ w = w' := by
  go_enter Try.func36, Try.ntmps36
  go_wp2_with fail
  refine wp_loop_rounds 1 ?_
  rw [rounds_succ]
  go_wp2_with fail
  go_ret
  exact ⟨rfl, rfl⟩
theorem has_no_P (w : World) : Calls Try.prog 36 #[.string ⟨#[]⟩, .int .u8 80] w fun e w' => e = .returned (.bool false) ∧ w = w' := by
  go_enter Try.func36, Try.ntmps36
  go_wp2_with fail
  refine wp_loop_rounds 1 ?_
  rw [rounds_succ]
  go_wp2_with fail
  go_ret
  exact ⟨rfl, rfl⟩
theorem has_no_B (w : World) : Calls Try.prog 36 #[.string ⟨#[]⟩, .int .u8 66] w fun e w' => e = .returned (.bool false) ∧ w = w' := by
  go_enter Try.func36, Try.ntmps36
  go_wp2_with fail
  refine wp_loop_rounds 1 ?_
  rw [rounds_succ]
  go_wp2_with fail
  go_ret
  exact ⟨rfl, rfl⟩
theorem reg_any (had : Bool) (r : Int) (w : World) : Calls Try.prog 35 #[.bool had, .int .i64 r] w fun e w' => e = .returned (.bool (regOk had r)) ∧ w = w' := by
  by_cases h0 : r = 0
  · subst h0
    go_enter Try.func35, Try.ntmps35
    go_wp2
    go_ret
    exact ⟨by cases had <;> rfl, rfl⟩
  · have hb : (r == 0) = false := by simp [h0]
    cases had
    · have E : Hid (regOk false r = false) := Lib.hid (by simp [regOk, h0])
      go_enter Try.func35, Try.ntmps35
      go_wp2
      go_ret
      exact ⟨by rw [E.out]; rfl, rfl⟩
    · by_cases h1 : 1 ≤ r
      · by_cases h2 : r ≤ 31
        · have E : Hid (regOk true r = true) := Lib.hid (by simp [regOk]; omega)
          go_enter Try.func35, Try.ntmps35
          go_wp2
          go_ret
          exact ⟨by rw [E.out]; rfl, rfl⟩
        · have E : Hid (regOk true r = false) := Lib.hid (by simp [regOk]; omega)
          go_enter Try.func35, Try.ntmps35
          go_wp2
          go_ret
          exact ⟨by rw [E.out]; rfl, rfl⟩
      · have E : Hid (regOk true r = false) := Lib.hid (by simp [regOk]; omega)
        go_enter Try.func35, Try.ntmps35
        go_wp2
        go_ret
        exact ⟨by rw [E.out]; rfl, rfl⟩
theorem rnum_1 (n : Int) (b1 : -2147483648 ≤ n) (b2 : n ≤ 2147483647) (w : World) : Calls Try.prog 34 #[.int .i64 1, .int .i32 n] w fun e w' => e = .returned (.bool (numOk 7 n)) ∧ w = w' := by
  by_cases h1 : 0 ≤ n
  · by_cases h2 : n ≤ 1048575
    · have E : Hid (numOk 7 n = true) := Lib.hid (by simp [numOk]; omega)
      go_enter Try.func34, Try.ntmps34
      go_wp2
      go_ret
      exact ⟨by rw [E.out]; rfl, rfl⟩
    · have E : Hid (numOk 7 n = false) := Lib.hid (by simp [numOk]; omega)
      go_enter Try.func34, Try.ntmps34
      go_wp2
      go_ret
      exact ⟨by rw [E.out]; rfl, rfl⟩
  · have E : Hid (numOk 7 n = false) := Lib.hid (by simp [numOk]; omega)
    go_enter Try.func34, Try.ntmps34
    go_wp2
    go_ret
    exact ⟨by rw [E.out]; rfl, rfl⟩
theorem rnum_2 (n : Int) (b1 : -2147483648 ≤ n) (b2 : n ≤ 2147483647) (w : World) : Calls Try.prog 34 #[.int .i64 2, .int .i32 n] w fun e w' => e = .returned (.bool (numOk 3 n)) ∧ w = w' := by
  by_cases h1 : -2048 ≤ n
  · by_cases h2 : n ≤ 2047
    · have E : Hid (numOk 3 n = true) := Lib.hid (by simp [numOk]; omega)
      go_enter Try.func34, Try.ntmps34
      go_wp2
      go_ret
      exact ⟨by rw [E.out]; rfl, rfl⟩
    · have E : Hid (numOk 3 n = false) := Lib.hid (by simp [numOk]; omega)
      go_enter Try.func34, Try.ntmps34
      go_wp2
      go_ret
      exact ⟨by rw [E.out]; rfl, rfl⟩
  · have E : Hid (numOk 3 n = false) := Lib.hid (by simp [numOk]; omega)
    go_enter Try.func34, Try.ntmps34
    go_wp2
    go_ret
    exact ⟨by rw [E.out]; rfl, rfl⟩
theorem rnum_3 (n : Int) (b1 : -2147483648 ≤ n) (b2 : n ≤ 2147483647) (w : World) : Calls Try.prog 34 #[.int .i64 3, .int .i32 n] w fun e w' => e = .returned (.bool (numOk 3 n)) ∧ w = w' := by
  by_cases h1 : -2048 ≤ n
  · by_cases h2 : n ≤ 2047
    · have E : Hid (numOk 3 n = true) := Lib.hid (by simp [numOk]; omega)
      go_enter Try.func34, Try.ntmps34
      go_wp2
      go_ret
      exact ⟨by rw [E.out]; rfl, rfl⟩
    · have E : Hid (numOk 3 n = false) := Lib.hid (by simp [numOk]; omega)
      go_enter Try.func34, Try.ntmps34
      go_wp2
      go_ret
      exact ⟨by rw [E.out]; rfl, rfl⟩
  · have E : Hid (numOk 3 n = false) := Lib.hid (by simp [numOk]; omega)
    go_enter Try.func34, Try.ntmps34
    go_wp2
    go_ret
    exact ⟨by rw [E.out]; rfl, rfl⟩
theorem rnum_4 (n : Int) (b1 : -2147483648 ≤ n) (b2 : n ≤ 2147483647) (w : World) : Calls Try.prog 34 #[.int .i64 4, .int .i32 n] w fun e w' => e = .returned (.bool (numOk 3 n)) ∧ w = w' := by
  by_cases h1 : -2048 ≤ n
  · by_cases h2 : n ≤ 2047
    · have E : Hid (numOk 3 n = true) := Lib.hid (by simp [numOk]; omega)
      go_enter Try.func34, Try.ntmps34
      go_wp2
      go_ret
      exact ⟨by rw [E.out]; rfl, rfl⟩
    · have E : Hid (numOk 3 n = false) := Lib.hid (by simp [numOk]; omega)
      go_enter Try.func34, Try.ntmps34
      go_wp2
      go_ret
      exact ⟨by rw [E.out]; rfl, rfl⟩
  · have E : Hid (numOk 3 n = false) := Lib.hid (by simp [numOk]; omega)
    go_enter Try.func34, Try.ntmps34
    go_wp2
    go_ret
    exact ⟨by rw [E.out]; rfl, rfl⟩
theorem rnum_5 (n : Int) (b1 : -2147483648 ≤ n) (b2 : n ≤ 2147483647) (w : World) : Calls Try.prog 34 #[.int .i64 5, .int .i32 n] w fun e w' => e = .returned (.bool (numOk 3 n)) ∧ w = w' := by
  by_cases h1 : -2048 ≤ n
  · by_cases h2 : n ≤ 2047
    · have E : Hid (numOk 3 n = true) := Lib.hid (by simp [numOk]; omega)
      go_enter Try.func34, Try.ntmps34
      go_wp2
      go_ret
      exact ⟨by rw [E.out]; rfl, rfl⟩
    · have E : Hid (numOk 3 n = false) := Lib.hid (by simp [numOk]; omega)
      go_enter Try.func34, Try.ntmps34
      go_wp2
      go_ret
      exact ⟨by rw [E.out]; rfl, rfl⟩
  · have E : Hid (numOk 3 n = false) := Lib.hid (by simp [numOk]; omega)
    go_enter Try.func34, Try.ntmps34
    go_wp2
    go_ret
    exact ⟨by rw [E.out]; rfl, rfl⟩
theorem rnum_6 (n : Int) (b1 : -2147483648 ≤ n) (b2 : n ≤ 2147483647) (w : World) : Calls Try.prog 34 #[.int .i64 6, .int .i32 n] w fun e w' => e = .returned (.bool (numOk 3 n)) ∧ w = w' := by
  by_cases h1 : -2048 ≤ n
  · by_cases h2 : n ≤ 2047
    · have E : Hid (numOk 3 n = true) := Lib.hid (by simp [numOk]; omega)
      go_enter Try.func34, Try.ntmps34
      go_wp2
      go_ret
      exact ⟨by rw [E.out]; rfl, rfl⟩
    · have E : Hid (numOk 3 n = false) := Lib.hid (by simp [numOk]; omega)
      go_enter Try.func34, Try.ntmps34
      go_wp2
      go_ret
      exact ⟨by rw [E.out]; rfl, rfl⟩
  · have E : Hid (numOk 3 n = false) := Lib.hid (by simp [numOk]; omega)
    go_enter Try.func34, Try.ntmps34
    go_wp2
    go_ret
    exact ⟨by rw [E.out]; rfl, rfl⟩
theorem rnum_7 (n : Int) (b1 : -2147483648 ≤ n) (b2 : n ≤ 2147483647) (w : World) : Calls Try.prog 34 #[.int .i64 7, .int .i32 n] w fun e w' => e = .returned (.bool (numOk 3 n)) ∧ w = w' := by
  by_cases h1 : -2048 ≤ n
  · by_cases h2 : n ≤ 2047
    · have E : Hid (numOk 3 n = true) := Lib.hid (by simp [numOk]; omega)
      go_enter Try.func34, Try.ntmps34
      go_wp2
      go_ret
      exact ⟨by rw [E.out]; rfl, rfl⟩
    · have E : Hid (numOk 3 n = false) := Lib.hid (by simp [numOk]; omega)
      go_enter Try.func34, Try.ntmps34
      go_wp2
      go_ret
      exact ⟨by rw [E.out]; rfl, rfl⟩
  · have E : Hid (numOk 3 n = false) := Lib.hid (by simp [numOk]; omega)
    go_enter Try.func34, Try.ntmps34
    go_wp2
    go_ret
    exact ⟨by rw [E.out]; rfl, rfl⟩
theorem rnum_8 (n : Int) (b1 : -2147483648 ≤ n) (b2 : n ≤ 2147483647) (w : World) : Calls Try.prog 34 #[.int .i64 8, .int .i32 n] w fun e w' => e = .returned (.bool (numOk 4 n)) ∧ w = w' := by
  by_cases h1 : 0 ≤ n
  · by_cases h2 : n ≤ 31
    · have E : Hid (numOk 4 n = true) := Lib.hid (by simp [numOk]; omega)
      go_enter Try.func34, Try.ntmps34
      go_wp2
      go_ret
      exact ⟨by rw [E.out]; rfl, rfl⟩
    · have E : Hid (numOk 4 n = false) := Lib.hid (by simp [numOk]; omega)
      go_enter Try.func34, Try.ntmps34
      go_wp2
      go_ret
      exact ⟨by rw [E.out]; rfl, rfl⟩
  · have E : Hid (numOk 4 n = false) := Lib.hid (by simp [numOk]; omega)
    go_enter Try.func34, Try.ntmps34
    go_wp2
    go_ret
    exact ⟨by rw [E.out]; rfl, rfl⟩
theorem rnum_9 (n : Int) (b1 : -2147483648 ≤ n) (b2 : n ≤ 2147483647) (w : World) : Calls Try.prog 34 #[.int .i64 9, .int .i32 n] w fun e w' => e = .returned (.bool (numOk 4 n)) ∧ w = w' := by
  by_cases h1 : 0 ≤ n
  · by_cases h2 : n ≤ 31
    · have E : Hid (numOk 4 n = true) := Lib.hid (by simp [numOk]; omega)
      go_enter Try.func34, Try.ntmps34
      go_wp2
      go_ret
      exact ⟨by rw [E.out]; rfl, rfl⟩
    · have E : Hid (numOk 4 n = false) := Lib.hid (by simp [numOk]; omega)
      go_enter Try.func34, Try.ntmps34
      go_wp2
      go_ret
      exact ⟨by rw [E.out]; rfl, rfl⟩
  · have E : Hid (numOk 4 n = false) := Lib.hid (by simp [numOk]; omega)
    go_enter Try.func34, Try.ntmps34
    go_wp2
    go_ret
    exact ⟨by rw [E.out]; rfl, rfl⟩
theorem rnum_10 (n : Int) (b1 : -2147483648 ≤ n) (b2 : n ≤ 2147483647) (w : World) : Calls Try.prog 34 #[.int .i64 10, .int .i32 n] w fun e w' => e = .returned (.bool (numOk 4 n)) ∧ w = w' := by
  by_cases h1 : 0 ≤ n
  · by_cases h2 : n ≤ 31
    · have E : Hid (numOk 4 n = true) := Lib.hid (by simp [numOk]; omega)
      go_enter Try.func34, Try.ntmps34
      go_wp2
      go_ret
      exact ⟨by rw [E.out]; rfl, rfl⟩
    · have E : Hid (numOk 4 n = false) := Lib.hid (by simp [numOk]; omega)
      go_enter Try.func34, Try.ntmps34
      go_wp2
      go_ret
      exact ⟨by rw [E.out]; rfl, rfl⟩
  · have E : Hid (numOk 4 n = false) := Lib.hid (by simp [numOk]; omega)
    go_enter Try.func34, Try.ntmps34
    go_wp2
    go_ret
    exact ⟨by rw [E.out]; rfl, rfl⟩
theorem rnum_11 (n : Int) (b1 : -2147483648 ≤ n) (b2 : n ≤ 2147483647) (w : World) : Calls Try.prog 34 #[.int .i64 11, .int .i32 n] w fun e w' => e = .returned (.bool (numOk 2 n)) ∧ w = w' := by
  have E : Hid (numOk 2 n = (n == 0)) := Lib.hid rfl
  go_enter Try.func34, Try.ntmps34
  go_wp2
  go_ret
  exact ⟨by rw [E.out]; rfl, rfl⟩
theorem rnum_12 (n : Int) (b1 : -2147483648 ≤ n) (b2 : n ≤ 2147483647) (w : World) : Calls Try.prog 34 #[.int .i64 12, .int .i32 n] w fun e w' => e = .returned (.bool (numOk 2 n)) ∧ w = w' := by
  have E : Hid (numOk 2 n = (n == 0)) := Lib.hid rfl
  go_enter Try.func34, Try.ntmps34
  go_wp2
  go_ret
  exact ⟨by rw [E.out]; rfl, rfl⟩
theorem rnum_13 (n : Int) (b1 : -2147483648 ≤ n) (b2 : n ≤ 2147483647) (w : World) : Calls Try.prog 34 #[.int .i64 13, .int .i32 n] w fun e w' => e = .returned (.bool (numOk 2 n)) ∧ w = w' := by
  have E : Hid (numOk 2 n = (n == 0)) := Lib.hid rfl
  go_enter Try.func34, Try.ntmps34
  go_wp2
  go_ret
  exact ⟨by rw [E.out]; rfl, rfl⟩
theorem rnum_14 (n : Int) (b1 : -2147483648 ≤ n) (b2 : n ≤ 2147483647) (w : World) : Calls Try.prog 34 #[.int .i64 14, .int .i32 n] w fun e w' => e = .returned (.bool (numOk 2 n)) ∧ w = w' := by
  have E : Hid (numOk 2 n = (n == 0)) := Lib.hid rfl
  go_enter Try.func34, Try.ntmps34
  go_wp2
  go_ret
  exact ⟨by rw [E.out]; rfl, rfl⟩
theorem rnum_15 (n : Int) (b1 : -2147483648 ≤ n) (b2 : n ≤ 2147483647) (w : World) : Calls Try.prog 34 #[.int .i64 15, .int .i32 n] w fun e w' => e = .returned (.bool (numOk 2 n)) ∧ w = w' := by
  have E : Hid (numOk 2 n = (n == 0)) := Lib.hid rfl
  go_enter Try.func34, Try.ntmps34
  go_wp2
  go_ret
  exact ⟨by rw [E.out]; rfl, rfl⟩
theorem rnum_16 (n : Int) (b1 : -2147483648 ≤ n) (b2 : n ≤ 2147483647) (w : World) : Calls Try.prog 34 #[.int .i64 16, .int .i32 n] w fun e w' => e = .returned (.bool (numOk 2 n)) ∧ w = w' := by
  have E : Hid (numOk 2 n = (n == 0)) := Lib.hid rfl
  go_enter Try.func34, Try.ntmps34
  go_wp2
  go_ret
  exact ⟨by rw [E.out]; rfl, rfl⟩
theorem rnum_17 (n : Int) (b1 : -2147483648 ≤ n) (b2 : n ≤ 2147483647) (w : World) : Calls Try.prog 34 #[.int .i64 17, .int .i32 n] w fun e w' => e = .returned (.bool (numOk 2 n)) ∧ w = w' := by
  have E : Hid (numOk 2 n = (n == 0)) := Lib.hid rfl
  go_enter Try.func34, Try.ntmps34
  go_wp2
  go_ret
  exact ⟨by rw [E.out]; rfl, rfl⟩
theorem rnum_18 (n : Int) (b1 : -2147483648 ≤ n) (b2 : n ≤ 2147483647) (w : World) : Calls Try.prog 34 #[.int .i64 18, .int .i32 n] w fun e w' => e = .returned (.bool (numOk 2 n)) ∧ w = w' := by
  have E : Hid (numOk 2 n = (n == 0)) := Lib.hid rfl
  go_enter Try.func34, Try.ntmps34
  go_wp2
  go_ret
  exact ⟨by rw [E.out]; rfl, rfl⟩
theorem rnum_19 (n : Int) (b1 : -2147483648 ≤ n) (b2 : n ≤ 2147483647) (w : World) : Calls Try.prog 34 #[.int .i64 19, .int .i32 n] w fun e w' => e = .returned (.bool (numOk 2 n)) ∧ w = w' := by
  have E : Hid (numOk 2 n = (n == 0)) := Lib.hid rfl
  go_enter Try.func34, Try.ntmps34
  go_wp2
  go_ret
  exact ⟨by rw [E.out]; rfl, rfl⟩
theorem rnum_20 (n : Int) (b1 : -2147483648 ≤ n) (b2 : n ≤ 2147483647) (w : World) : Calls Try.prog 34 #[.int .i64 20, .int .i32 n] w fun e w' => e = .returned (.bool (numOk 2 n)) ∧ w = w' := by
  have E : Hid (numOk 2 n = (n == 0)) := Lib.hid rfl
  go_enter Try.func34, Try.ntmps34
  go_wp2
  go_ret
  exact ⟨by rw [E.out]; rfl, rfl⟩
theorem rnum_21 (n : Int) (b1 : -2147483648 ≤ n) (b2 : n ≤ 2147483647) (w : World) : Calls Try.prog 34 #[.int .i64 21, .int .i32 n] w fun e w' => e = .returned (.bool (numOk 2 n)) ∧ w = w' := by
  have E : Hid (numOk 2 n = (n == 0)) := Lib.hid rfl
  go_enter Try.func34, Try.ntmps34
  go_wp2
  go_ret
  exact ⟨by rw [E.out]; rfl, rfl⟩
theorem rnum_22 (n : Int) (b1 : -2147483648 ≤ n) (b2 : n ≤ 2147483647) (w : World) : Calls Try.prog 34 #[.int .i64 22, .int .i32 n] w fun e w' => e = .returned (.bool (numOk 2 n)) ∧ w = w' := by
  have E : Hid (numOk 2 n = (n == 0)) := Lib.hid rfl
  go_enter Try.func34, Try.ntmps34
  go_wp2
  go_ret
  exact ⟨by rw [E.out]; rfl, rfl⟩
theorem rnum_23 (n : Int) (b1 : -2147483648 ≤ n) (b2 : n ≤ 2147483647) (w : World) : Calls Try.prog 34 #[.int .i64 23, .int .i32 n] w fun e w' => e = .returned (.bool (numOk 2 n)) ∧ w = w' := by
  have E : Hid (numOk 2 n = (n == 0)) := Lib.hid rfl
  go_enter Try.func34, Try.ntmps34
  go_wp2
  go_ret
  exact ⟨by rw [E.out]; rfl, rfl⟩
theorem rnum_24 (n : Int) (b1 : -2147483648 ≤ n) (b2 : n ≤ 2147483647) (w : World) : Calls Try.prog 34 #[.int .i64 24, .int .i32 n] w fun e w' => e = .returned (.bool (numOk 3 n)) ∧ w = w' := by
  by_cases h1 : -2048 ≤ n
  · by_cases h2 : n ≤ 2047
    · have E : Hid (numOk 3 n = true) := Lib.hid (by simp [numOk]; omega)
      go_enter Try.func34, Try.ntmps34
      go_wp2
      go_ret
      exact ⟨by rw [E.out]; rfl, rfl⟩
    · have E : Hid (numOk 3 n = false) := Lib.hid (by simp [numOk]; omega)
      go_enter Try.func34, Try.ntmps34
      go_wp2
      go_ret
      exact ⟨by rw [E.out]; rfl, rfl⟩
  · have E : Hid (numOk 3 n = false) := Lib.hid (by simp [numOk]; omega)
    go_enter Try.func34, Try.ntmps34
    go_wp2
    go_ret
    exact ⟨by rw [E.out]; rfl, rfl⟩
theorem rnum_25 (n : Int) (b1 : -2147483648 ≤ n) (b2 : n ≤ 2147483647) (w : World) : Calls Try.prog 34 #[.int .i64 25, .int .i32 n] w fun e w' => e = .returned (.bool (numOk 5 n)) ∧ w = w' := by
  by_cases h1 : -2048 ≤ n
  · by_cases h2 : n ≤ 2047
    · have E : Hid (numOk 5 n = true) := Lib.hid (by simp [numOk]; omega)
      go_enter Try.func34, Try.ntmps34
      go_wp2
      go_ret
      exact ⟨by rw [E.out]; rfl, rfl⟩
    · have E : Hid (numOk 5 n = false) := Lib.hid (by simp [numOk]; omega)
      go_enter Try.func34, Try.ntmps34
      go_wp2
      go_ret
      exact ⟨by rw [E.out]; rfl, rfl⟩
  · have E : Hid (numOk 5 n = false) := Lib.hid (by simp [numOk]; omega)
    go_enter Try.func34, Try.ntmps34
    go_wp2
    go_ret
    exact ⟨by rw [E.out]; rfl, rfl⟩
theorem rnum_26 (n : Int) (b1 : -2147483648 ≤ n) (b2 : n ≤ 2147483647) (w : World) : Calls Try.prog 34 #[.int .i64 26, .int .i32 n] w fun e w' => e = .returned (.bool (numOk 6 n)) ∧ w = w' := by
  have ht := tm2 n
  by_cases h1 : -4096 ≤ n
  · by_cases h2 : n ≤ 4094
    · by_cases h3 : n.tmod 2 = 0
      · have h4 : (n.tmod 2 == 0) = true := by simp [h3]
        have E : Hid (numOk 6 n = true) := Lib.hid (by simp [numOk]; omega)
        clear ht h3
        go_enter Try.func34, Try.ntmps34
        go_wp2
        go_ret
        exact ⟨by rw [E.out]; rfl, rfl⟩
      · have h4 : (n.tmod 2 == 0) = false := by simp [h3]
        have E : Hid (numOk 6 n = false) := Lib.hid (by simp [numOk]; omega)
        clear ht h3
        go_enter Try.func34, Try.ntmps34
        go_wp2
        go_ret
        exact ⟨by rw [E.out]; rfl, rfl⟩
    · have E : Hid (numOk 6 n = false) := Lib.hid (by simp [numOk]; omega)
      clear ht
      go_enter Try.func34, Try.ntmps34
      go_wp2
      go_ret
      exact ⟨by rw [E.out]; rfl, rfl⟩
  · have E : Hid (numOk 6 n = false) := Lib.hid (by simp [numOk]; omega)
    clear ht
    go_enter Try.func34, Try.ntmps34
    go_wp2
    go_ret
    exact ⟨by rw [E.out]; rfl, rfl⟩
theorem rnum_27 (n : Int) (b1 : -2147483648 ≤ n) (b2 : n ≤ 2147483647) (w : World) : Calls Try.prog 34 #[.int .i64 27, .int .i32 n] w fun e w' => e = .returned (.bool (numOk 6 n)) ∧ w = w' := by
  have ht := tm2 n
  by_cases h1 : -4096 ≤ n
  · by_cases h2 : n ≤ 4094
    · by_cases h3 : n.tmod 2 = 0
      · have h4 : (n.tmod 2 == 0) = true := by simp [h3]
        have E : Hid (numOk 6 n = true) := Lib.hid (by simp [numOk]; omega)
        clear ht h3
        go_enter Try.func34, Try.ntmps34
        go_wp2
        go_ret
        exact ⟨by rw [E.out]; rfl, rfl⟩
      · have h4 : (n.tmod 2 == 0) = false := by simp [h3]
        have E : Hid (numOk 6 n = false) := Lib.hid (by simp [numOk]; omega)
        clear ht h3
        go_enter Try.func34, Try.ntmps34
        go_wp2
        go_ret
        exact ⟨by rw [E.out]; rfl, rfl⟩
    · have E : Hid (numOk 6 n = false) := Lib.hid (by simp [numOk]; omega)
      clear ht
      go_enter Try.func34, Try.ntmps34
      go_wp2
      go_ret
      exact ⟨by rw [E.out]; rfl, rfl⟩
  · have E : Hid (numOk 6 n = false) := Lib.hid (by simp [numOk]; omega)
    clear ht
    go_enter Try.func34, Try.ntmps34
    go_wp2
    go_ret
    exact ⟨by rw [E.out]; rfl, rfl⟩
theorem rnum_28 (n : Int) (b1 : -2147483648 ≤ n) (b2 : n ≤ 2147483647) (w : World) : Calls Try.prog 34 #[.int .i64 28, .int .i32 n] w fun e w' => e = .returned (.bool (numOk 8 n)) ∧ w = w' := by
  have ht := tm2 n
  by_cases h1 : -1048576 ≤ n
  · by_cases h2 : n ≤ 1048574
    · by_cases h3 : n.tmod 2 = 0
      · have h4 : (n.tmod 2 == 0) = true := by simp [h3]
        have E : Hid (numOk 8 n = true) := Lib.hid (by simp [numOk]; omega)
        clear ht h3
        go_enter Try.func34, Try.ntmps34
        go_wp2
        go_ret
        exact ⟨by rw [E.out]; rfl, rfl⟩
      · have h4 : (n.tmod 2 == 0) = false := by simp [h3]
        have E : Hid (numOk 8 n = false) := Lib.hid (by simp [numOk]; omega)
        clear ht h3
        go_enter Try.func34, Try.ntmps34
        go_wp2
        go_ret
        exact ⟨by rw [E.out]; rfl, rfl⟩
    · have E : Hid (numOk 8 n = false) := Lib.hid (by simp [numOk]; omega)
      clear ht
      go_enter Try.func34, Try.ntmps34
      go_wp2
      go_ret
      exact ⟨by rw [E.out]; rfl, rfl⟩
  · have E : Hid (numOk 8 n = false) := Lib.hid (by simp [numOk]; omega)
    clear ht
    go_enter Try.func34, Try.ntmps34
    go_wp2
    go_ret
    exact ⟨by rw [E.out]; rfl, rfl⟩
theorem rnum_29 (n : Int) (b1 : -2147483648 ≤ n) (b2 : n ≤ 2147483647) (w : World) : Calls Try.prog 34 #[.int .i64 29, .int .i32 n] w fun e w' => e = .returned (.bool (numOk 3 n)) ∧ w = w' := by
  by_cases h1 : -2048 ≤ n
  · by_cases h2 : n ≤ 2047
    · have E : Hid (numOk 3 n = true) := Lib.hid (by simp [numOk]; omega)
      go_enter Try.func34, Try.ntmps34
      go_wp2
      go_ret
      exact ⟨by rw [E.out]; rfl, rfl⟩
    · have E : Hid (numOk 3 n = false) := Lib.hid (by simp [numOk]; omega)
      go_enter Try.func34, Try.ntmps34
      go_wp2
      go_ret
      exact ⟨by rw [E.out]; rfl, rfl⟩
  · have E : Hid (numOk 3 n = false) := Lib.hid (by simp [numOk]; omega)
    go_enter Try.func34, Try.ntmps34
    go_wp2
    go_ret
    exact ⟨by rw [E.out]; rfl, rfl⟩
theorem rnum_30 (n : Int) (b1 : -2147483648 ≤ n) (b2 : n ≤ 2147483647) (w : World) : Calls Try.prog 34 #[.int .i64 30, .int .i32 n] w fun e w' => e = .returned (.bool (numOk 1 n)) ∧ w = w' := by
  have E : Hid (numOk 1 n = (n == 0)) := Lib.hid rfl
  go_enter Try.func34, Try.ntmps34
  go_wp2
  go_ret
  exact ⟨by rw [E.out]; rfl, rfl⟩
end Go.Proofs.Ytmedhibjkbahpaa
namespace Go.Proofs.Ytmedhibjkbahpaa
open Go.RowKit
set_option linter.unusedVariables false
set_option linter.unusedSimpArgs false
set_option maxRecDepth 100000
set_option maxHeartbeats 3200000 in
theorem mayLine_any (op d a b n : Int) (b1 : -2147483648 ≤ n) (b2 : n ≤ 2147483647) (w : World) :
    Calls Try.prog 50 #[.agg #[.int .i64 2, .int .i64 op, .int .i64 d, .int .i64 a, .int .i64 b, .int .i32 n, .string ⟨#[]⟩]] w fun e w' => e = .returned (.bool (mayI ⟨op, d, a, b, n⟩)) ∧ Below w.heap.size w w' := by
  by_cases hop : 1 ≤ op ∧ op ≤ 30
  · obtain ⟨h1, h2⟩ := hop
    obtain ⟨k1, k2, k3⟩ := has_ops op h1 h2
    obtain ⟨W0, hW0⟩ : ∃ W0, w.alloc (.cells #[.int .i64 2, .int .i64 op, .int .i64 d, .int .i64 a, .int .i64 b, .int .i32 n, .string ⟨#[]⟩] 39) = W0 := ⟨_, rfl⟩
    obtain ⟨v0, hv0⟩ : ∃ v0, w.heap.size = v0 := ⟨_, rfl⟩
    have hB0 : Below w.heap.size w W0 := by rw [← hW0]; exact (Below.refl _ _).alloc (Nat.le_refl _) _
    have hcell : ∀ W', Below W0.heap.size W0 W' → ∀ j v, (#[Value.int .i64 2, .int .i64 op, .int .i64 d, .int .i64 a, .int .i64 b, .int .i32 n, .string ⟨#[]⟩] : Array Value)[j]? = some v → W'.cell? ⟨v0, j, none⟩ = some v := fun W' hb j v hj => by
      refine (hb.cell (p := ⟨v0, j, none⟩) (by rw [← hv0, ← hW0]; simp)).trans ?_
      rw [← hv0, ← hW0, cell_of_row _ _ j _ _ (0, 0) (heap_alloc_new w _)]
      exact hj
    have HM : mayI ⟨op, d, a, b, n⟩ = (regOk (hasDN (formN op.toNat)) d && regOk (hasAN (formN op.toNat)) a && regOk (hasBN (formN op.toNat)) b && numOk (formN op.toNat) n) := by
      simp [mayI, h1, h2]
    rw [HM, ← k1, ← k2, ← k3]
    have HO := Lib.hid (operands_any op h1 h2 W0)
    have HR := Lib.hid (fun (W : World) (A : Option Addr) (m : Nat) (hl : (opsL op).length = m) (hn : m ≤ 1000) (h : OpsAt W A (opsL op)) => mayRegisters_any W 2 op d a b n ⟨#[]⟩ A m m (opsL op) hl hn h)
    have HN := Lib.hid (mayNum_any op d a b n h1 h2 b1 b2)
    have HS := Lib.hid (maySym_any op d a b n)
    generalize (regOk (hasL (opsL op) 0) d && regOk (hasL (opsL op) 1 || hasL (opsL op) 4) a && regOk (hasL (opsL op) 2) b) = q1 at *
    generalize numOk (formN op.toNat) n = q2 at *
    have HC := Lib.hid hcell
    have HB0 := Lib.hid hB0
    have HV0 := Lib.hid hv0
    have Bx : Below W0.heap.size W0 W0 := Below.refl _ _
    have x0 : W0.cell? ⟨v0, 0, none⟩ = some (.int .i64 2) := HC.out _ Bx 0 _ rfl
    have x1 : W0.cell? ⟨v0, 1, none⟩ = some (.int .i64 op) := HC.out _ Bx 1 _ rfl
    have x2 : W0.cell? ⟨v0, 2, none⟩ = some (.int .i64 d) := HC.out _ Bx 2 _ rfl
    have x3 : W0.cell? ⟨v0, 3, none⟩ = some (.int .i64 a) := HC.out _ Bx 3 _ rfl
    have x4 : W0.cell? ⟨v0, 4, none⟩ = some (.int .i64 b) := HC.out _ Bx 4 _ rfl
    have x5 : W0.cell? ⟨v0, 5, none⟩ = some (.int .i32 n) := HC.out _ Bx 5 _ rfl
    have x6 : W0.cell? ⟨v0, 6, none⟩ = some (.string ⟨#[]⟩) := HC.out _ Bx 6 _ rfl
    clear HM k1 k2 k3 hcell hB0 Bx
    have hk2 : ((2 : Int) == 1) = false := by decide
    cases q1 <;> cases q2
    all_goals
      go_enter Try.func50, Try.ntmps50
      go_wp2_with (first
        | (go_at_call 72; (with_reducible refine HO.out.mono ?_); rintro e w1 ⟨A, m, rfl, hm1, hm2, hO, hb1⟩; have By : Below W0.heap.size W0 w1 := hb1
           have y0 : w1.cell? ⟨v0, 0, none⟩ = some (.int .i64 2) := HC.out _ By 0 _ rfl
           have y1 : w1.cell? ⟨v0, 1, none⟩ = some (.int .i64 op) := HC.out _ By 1 _ rfl
           have y2 : w1.cell? ⟨v0, 2, none⟩ = some (.int .i64 d) := HC.out _ By 2 _ rfl
           have y3 : w1.cell? ⟨v0, 3, none⟩ = some (.int .i64 a) := HC.out _ By 3 _ rfl
           have y4 : w1.cell? ⟨v0, 4, none⟩ = some (.int .i64 b) := HC.out _ By 4 _ rfl
           have y5 : w1.cell? ⟨v0, 5, none⟩ = some (.int .i32 n) := HC.out _ By 5 _ rfl
           have y6 : w1.cell? ⟨v0, 6, none⟩ = some (.string ⟨#[]⟩) := HC.out _ By 6 _ rfl
           have HY := Lib.hid (And.intro By (And.intro hm1 (And.intro hm2 hO))); clear By hb1 hm1 hm2 hO)
        | (go_at_call 73; (with_reducible refine (HR.out _ _ _ HY.out.2.1 (Nat.le_trans HY.out.2.2.1 (by decide)) HY.out.2.2.2).mono ?_); rintro e w2 ⟨rfl, hb2⟩; have Bz := HY.out.1.trans (hb2.mono HY.out.1.size)
           have z0 : w2.cell? ⟨v0, 0, none⟩ = some (.int .i64 2) := HC.out _ Bz 0 _ rfl
           have z1 : w2.cell? ⟨v0, 1, none⟩ = some (.int .i64 op) := HC.out _ Bz 1 _ rfl
           have z2 : w2.cell? ⟨v0, 2, none⟩ = some (.int .i64 d) := HC.out _ Bz 2 _ rfl
           have z3 : w2.cell? ⟨v0, 3, none⟩ = some (.int .i64 a) := HC.out _ Bz 3 _ rfl
           have z4 : w2.cell? ⟨v0, 4, none⟩ = some (.int .i64 b) := HC.out _ Bz 4 _ rfl
           have z5 : w2.cell? ⟨v0, 5, none⟩ = some (.int .i32 n) := HC.out _ Bz 5 _ rfl
           have z6 : w2.cell? ⟨v0, 6, none⟩ = some (.string ⟨#[]⟩) := HC.out _ Bz 6 _ rfl
           have HZ := Lib.hid Bz; clear Bz hb2)
        | (go_at_call 74; (with_reducible refine (HN.out _).mono ?_); rintro e w3 ⟨rfl, hb3⟩; have Bu := HZ.out.trans (hb3.mono HZ.out.size)
           have u0 : w3.cell? ⟨v0, 0, none⟩ = some (.int .i64 2) := HC.out _ Bu 0 _ rfl
           have u1 : w3.cell? ⟨v0, 1, none⟩ = some (.int .i64 op) := HC.out _ Bu 1 _ rfl
           have u2 : w3.cell? ⟨v0, 2, none⟩ = some (.int .i64 d) := HC.out _ Bu 2 _ rfl
           have u3 : w3.cell? ⟨v0, 3, none⟩ = some (.int .i64 a) := HC.out _ Bu 3 _ rfl
           have u4 : w3.cell? ⟨v0, 4, none⟩ = some (.int .i64 b) := HC.out _ Bu 4 _ rfl
           have u5 : w3.cell? ⟨v0, 5, none⟩ = some (.int .i32 n) := HC.out _ Bu 5 _ rfl
           have u6 : w3.cell? ⟨v0, 6, none⟩ = some (.string ⟨#[]⟩) := HC.out _ Bu 6 _ rfl
           have HU := Lib.hid Bu; clear Bu hb3)
        | (go_at_call 75; (with_reducible refine (HS.out _).mono ?_); rintro e w4 ⟨rfl, hb4⟩; have HT := Lib.hid (HU.out.trans (hb4.mono HU.out.size)); clear hb4))
      go_ret
      refine ⟨rfl, ?_⟩
      first | exact HB0.out.trans (HT.out.mono HB0.out.size) | exact HB0.out.trans (HU.out.mono HB0.out.size) | exact HB0.out.trans (HZ.out.mono HB0.out.size)
  · have HM : mayI ⟨op, d, a, b, n⟩ = false := by
      simp only [not_and, Int.not_le] at hop
      unfold mayI
      by_cases h1 : 1 ≤ op
      · have := hop h1
        simp only [show decide (op ≤ 30) = false from by simp; omega, Bool.and_false, Bool.false_and]
      · simp only [show decide (1 ≤ op) = false from by simp; omega, Bool.false_and]
    rw [HM]
    have HO : ∀ w, Calls Try.prog 72 #[.int .i64 op] w fun e w' => e = .returned (.tuple #[.slice none 0 0, .bool false]) ∧ w' = w := fun w => by
      by_cases h : op < 1
      · exact operands_lo op h w
      · exact operands_hi op (by omega) w
    have H := Lib.hid HO
    clear HO hop HM
    go_enter Try.func50, Try.ntmps50
    go_wp2_with (go_at_call 72; refine (H.out _).mono ?_; rintro e w' ⟨rfl, rfl⟩)
    go_ret
    exact ⟨rfl, (Below.refl _ _).alloc (Nat.le_refl _) _⟩
end Go.Proofs.Ytmedhibjkbahpaa
