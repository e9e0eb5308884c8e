/-
  The walk of the law WordCompares: it answers true and writes nothing that was there.
-/
import Derived.Test.YthgkkgjnealkbaaDoorLives
import Derived.Test.YthgkkgjnealkbaaDoorWordMath
import Derived.OpenShut
import Derived.Stop.Joined
import Derived.Deep.QuietTactic
import Derived.BigQuiet
import Derived.WalkSmall
namespace Go.Proofs.YthgkkgjnealkbaaDoor
open Go.RowKit

namespace WordCompares
/-- What the six comparing operators answer. -/
def cmpV (k : Nat) (a b : Int) : Int :=
  match k with
  | 0 => truthI (decide (a < b)) | 1 => truthI (decide (a ≤ b)) | 2 => truthI (decide (b < a)) | 3 => truthI (decide (b ≤ a)) | 4 => truthI (a == b) | _ => truthI (!(a == b))
theorem truthI_bd (b : Bool) : 0 ≤ truthI b ∧ truthI b ≤ 1 := by cases b <;> decide
theorem cmpV_bd (k : Nat) (a b : Int) : 0 ≤ cmpV k a b ∧ cmpV k a b ≤ 1 := by
  unfold cmpV
  split <;> exact truthI_bd _
theorem cmp_facts (a b : Int) : (cmpV 0 a b + cmpV 2 a b + cmpV 4 a b == 1) = true ∧ (cmpV 1 a b == cmpV 0 a b + cmpV 4 a b) = true ∧ (cmpV 3 a b == cmpV 2 a b + cmpV 4 a b) = true ∧ (cmpV 5 a b == 1 - cmpV 4 a b) = true := by
  simp only [cmpV, truthI, beq_iff_eq, decide_eq_true_eq, Bool.not_eq_true', beq_eq_false_iff_ne, ne_eq]
  refine ⟨?_, ?_, ?_, ?_⟩ <;> (repeat' split) <;> omega
theorem log_facts (a b : Int) : (truthI (a != 0 && b != 0) == 1 - truthI (truthI (a == 0) != 0 || truthI (b == 0) != 0)) = true ∧ (truthI (a != 0 || b != 0) == 1 - truthI (truthI (a == 0) != 0 && truthI (b == 0) != 0)) = true := by
  by_cases h1 : a = 0 <;> by_cases h2 : b = 0 <;> simp [truthI, h1, h2]
theorem bin_cmp (op a b : Int) (k : Nat) (h : op = 11 + k) (hk : k < 6) (w : World) :
    Calls Tryd.prog 12 #[.int .i64 op, .int .i32 a, .int .i32 b] w fun e w' => e = .returned (.tuple #[.int .i32 (cmpV k a b), .bool true]) ∧ w = w' := by
  have hc : k = 0 ∨ k = 1 ∨ k = 2 ∨ k = 3 ∨ k = 4 ∨ k = 5 := by omega
  rcases hc with rfl | rfl | rfl | rfl | rfl | rfl <;> (subst h)
  · exact bin_lt a b w
  · exact bin_le a b w
  · exact bin_gt a b w
  · exact bin_ge a b w
  · exact bin_eq a b w
  · exact bin_ne a b w
set_option maxHeartbeats 2000000 in
set_option maxRecDepth 100000 in
theorem walk (a b : Int) (W : World) :
    Calls Tryd.prog 7 #[.int .i32 a, .int .i32 b] W fun e w' => e = .returned (.bool true) ∧ Below W.heap.size W w' := by
  go_enter Tryd.func7, Tryd.ntmps7
  go_wp2_with fail
  go_loopw [26] (fun i wr => ∃ k : Nat, k ≤ 6 ∧ i = .int .i64 k ∧ wr = W.alloc (.cells #[.int .i32 (if 0 < k then cmpV 0 a b else 0), .int .i32 (if 1 < k then cmpV 1 a b else 0), .int .i32 (if 2 < k then cmpV 2 a b else 0), .int .i32 (if 3 < k then cmpV 3 a b else 0), .int .i32 (if 4 < k then cmpV 4 a b else 0), .int .i32 (if 5 < k then cmpV 5 a b else 0)] 32)) (fun i _ => 6 - (intOf i).toNat)
  case atStart => exact ⟨0, by omega, rfl, rfl⟩
  case round =>
    obtain ⟨k, hk, rfl, rfl⟩ := hrel
    have hcases : k = 0 ∨ k = 1 ∨ k = 2 ∨ k = 3 ∨ k = 4 ∨ k = 5 ∨ k = 6 := by omega
    rcases hcases with rfl | rfl | rfl | rfl | rfl | rfl | rfl
    · go_wp2_with (go_at_call 12; refine (bin_cmp _ _ _ 0 (by decide) (by decide) _).mono ?_; rintro e w' ⟨rfl, rfl⟩)
      go_roundw
      case rel => exact ⟨1, by omega, rfl, by simp⟩
      case measure => simp [intOf]
    · go_wp2_with (go_at_call 12; refine (bin_cmp _ _ _ 1 (by decide) (by decide) _).mono ?_; rintro e w' ⟨rfl, rfl⟩)
      go_roundw
      case rel => exact ⟨2, by omega, rfl, by simp⟩
      case measure => simp [intOf]
    · go_wp2_with (go_at_call 12; refine (bin_cmp _ _ _ 2 (by decide) (by decide) _).mono ?_; rintro e w' ⟨rfl, rfl⟩)
      go_roundw
      case rel => exact ⟨3, by omega, rfl, by simp⟩
      case measure => simp [intOf]
    · go_wp2_with (go_at_call 12; refine (bin_cmp _ _ _ 3 (by decide) (by decide) _).mono ?_; rintro e w' ⟨rfl, rfl⟩)
      go_roundw
      case rel => exact ⟨4, by omega, rfl, by simp⟩
      case measure => simp [intOf]
    · go_wp2_with (go_at_call 12; refine (bin_cmp _ _ _ 4 (by decide) (by decide) _).mono ?_; rintro e w' ⟨rfl, rfl⟩)
      go_roundw
      case rel => exact ⟨5, by omega, rfl, by simp⟩
      case measure => simp [intOf]
    · go_wp2_with (go_at_call 12; refine (bin_cmp _ _ _ 5 (by decide) (by decide) _).mono ?_; rintro e w' ⟨rfl, rfl⟩)
      go_roundw
      case rel => exact ⟨6, by omega, rfl, by simp⟩
      case measure => simp [intOf]
    · have b0 := cmpV_bd 0 a b
      have b1 := cmpV_bd 1 a b
      have b2 := cmpV_bd 2 a b
      have b3 := cmpV_bd 3 a b
      have b4 := cmpV_bd 4 a b
      have b5 := cmpV_bd 5 a b
      go_wp2_with fail
      go_quiet (fail)
      go_wp2_with fail
      refine (bin_both _ _ _).mono ?_
      rintro e w' ⟨rfl, rfl⟩
      go_wp2_with fail
      refine (bin_one _ _ _).mono ?_
      rintro e w' ⟨rfl, rfl⟩
      go_wp2_with fail
      refine (un_not _ _).mono ?_
      rintro e w' ⟨rfl, rfl⟩
      go_wp2_with fail
      refine (un_not _ _).mono ?_
      rintro e w' ⟨rfl, rfl⟩
      go_wp2_with fail
      refine (bin_one _ _ _).mono ?_
      rintro e w' ⟨rfl, rfl⟩
      go_wp2_with fail
      refine (bin_both _ _ _).mono ?_
      rintro e w' ⟨rfl, rfl⟩
      obtain ⟨g1, g2, g3, g4⟩ := cmp_facts a b
      obtain ⟨g5, g6⟩ := log_facts a b
      have b6 := truthI_bd (truthI (a == 0) != 0 || truthI (b == 0) != 0)
      have b7 := truthI_bd (truthI (a == 0) != 0 && truthI (b == 0) != 0)
      go_wp2_with fail
      refine (lives_true _).mono ?_
      rintro e w1 ⟨rfl, hB⟩
      have hB1 : Below W.heap.size W w1 := (below_drewN ((Below.refl _ _).alloc (Nat.le_refl _) _) _).trans (hB.mono (by simp))
      clear hB
      go_wp2
      go_ret
      exact ⟨rfl, hB1⟩
end WordCompares

theorem wordCompares_walk (a0 a1 : Int) (W : World) (_w0 : (Lit.int .i32 a0).wf = true) (_w1 : (Lit.int .i32 a1).wf = true) (_hL : laidMetH Tryd.prog Rows.wordComparesRow.laid W) :
    Calls Tryd.prog 7 #[.int .i32 a0, .int .i32 a1] W fun e w' => e = .returned (.bool true) ∧ Below W.heap.size W w' :=
  WordCompares.walk a0 a1 W
end Go.Proofs.YthgkkgjnealkbaaDoor
