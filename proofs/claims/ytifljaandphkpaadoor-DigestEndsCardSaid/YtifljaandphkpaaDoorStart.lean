/-
  The contract of digest.start: the sum of no blocks; and how the eight words are laid out as bytes.
-/
import Derived.Test.YtifljaandphkpaaDoorSpread
namespace Go.Proofs.YtifljaandphkpaaDoor
open Go.RowKit
set_option linter.unusedVariables false

def startN : St := ⟨1779033703, 3144134277, 1013904242, 2773480762, 1359893119, 2600822924, 528734635, 1541459225⟩
theorem startN_ok : startN.ok := by unfold St.ok startN; decide
theorem size43z' : (#[.int .u32 0, .int .u32 0, .int .u32 0, .int .u32 0, .int .u32 0, .int .u32 0, .int .u32 0, .int .u32 0] : Array Value) = (cellsK .u32 (List.replicate 8 0)).toArray := by kernel_rfl
theorem start_any (w : World) :
    Calls Tryd.prog 23 #[] w fun e w' => e = .returned (.agg (cellsK .u32 startN.list).toArray) ∧ Below w.heap.size w w' := by
  have hz8 : Hid ((List.replicate 8 0 : List Nat).length = 8) := Lib.hid rfl
  have hl8 : Hid (startN.list.length = 8) := Lib.hid rfl
  have h1 := Lib.hid (Row.new w .u32 43 (List.replicate 8 0))
  go_enter Tryd.func23, Tryd.ntmps23
  go_wp2_with (rw [size43z']; refine wpList_storeK 43 (.tmp 0) (.tmp 1) rfl rfl w.heap.size .u32 .u32 43 (List.replicate 8 0) startN.list 8 h1 rfl rfl size8w hl8 hz8 ?_)
  exact bodyPost_ret (resultsK rfl _ w.heap.size .u32 43 startN.list 8 24 rfl (h1.out.setRow startN.list) Tryd.underlying43 size8w hl8) rfl ⟨rfl, below_setRow ((Below.refl _ _).alloc (Nat.le_refl _) _) (Nat.le_refl _) _⟩

/-- The bytes of the eight words, the highest first. -/
def outN (s : St) : List Nat := (List.range 32).map fun p => s.list.getD (p / 4) 0 / 2 ^ (24 - 8 * (p % 4)) % 256
def outP (s : St) (p : Nat) : List Nat := (outN s).take p ++ List.replicate (32 - p) 0
theorem outN_length (s : St) : (outN s).length = 32 := by simp [outN]
theorem outP_length (s : St) (p : Nat) (h : p ≤ 32) : (outP s p).length = 32 := by
  unfold outP
  rw [List.length_append, List.length_take, outN_length, List.length_replicate]
  omega
theorem outN_lt (s : St) : ∀ x ∈ outN s, x < 256 := by
  intro x hx
  obtain ⟨i, _, rfl⟩ := List.mem_map.1 hx
  exact Nat.mod_lt _ (by decide)
theorem outP_set (s : St) (i j : Nat) (hi : i < 8) (hj : j < 4) : (outP s (4 * i + j)).set (4 * i + j) (s.list.getD i 0 / 2 ^ (24 - 8 * j) % 256) = outP s (4 * i + (j + 1)) := by
  have hp : 4 * i + j < 32 := by omega
  have hl : ((outN s).take (4 * i + j)).length = 4 * i + j := by rw [List.length_take, outN_length]; omega
  have e : List.replicate (32 - (4 * i + j)) 0 = 0 :: List.replicate (32 - (4 * i + (j + 1))) 0 := by
    rw [show 32 - (4 * i + j) = (32 - (4 * i + (j + 1))) + 1 from by omega, List.replicate_succ]
  have et : (outN s).take (4 * i + (j + 1)) = (outN s).take (4 * i + j) ++ [s.list.getD i 0 / 2 ^ (24 - 8 * j) % 256] := by
    rw [show 4 * i + (j + 1) = (4 * i + j) + 1 from by omega, List.take_add_one]
    congr 1
    have h1 : (4 * i + j) / 4 = i := by omega
    have h2 : (4 * i + j) % 4 = j := by omega
    unfold outN
    rw [List.getElem?_map, List.getElem?_range hp]
    simp only [Option.map_some, h1, h2]
    rfl
  unfold outP
  rw [e, et, List.set_append_right _ _ (by omega), hl, Nat.sub_self, List.set_cons_zero, List.append_assoc]
  rfl
end Go.Proofs.YtifljaandphkpaaDoor
