/-
  The walk of the law WordRing: it answers true and writes nothing that was there.
-/
import Derived.Test.YthgkkgjnealkbaaDoorLives
import Derived.Test.YthgkkgjnealkbaaDoorWordMath
import Derived.OpenShut
import Derived.Stop.Joined
namespace Go.Proofs.YthgkkgjnealkbaaDoor
open Go.RowKit

namespace WordRing
theorem bin_ring (op a b : Int) (h : op = 1 ∨ op = 3 ∨ op = 8 ∨ op = 9 ∨ op = 10) (w : World) :
    Calls Tryd.prog 12 #[.int .i64 op, .int .i32 a, .int .i32 b] w fun e w' => e = .returned (.tuple #[.int .i32 (ringV op a b), .bool true]) ∧ w = w' := by
  rcases h with rfl | rfl | rfl | rfl | rfl
  · exact bin_add a b w
  · exact bin_mul a b w
  · exact bin_and a b w
  · exact bin_or a b w
  · exact bin_xor a b w
set_option maxRecDepth 100000 in
theorem walk (a b c : Int) (h : -2147483648 ≤ a ∧ a ≤ 2147483647) (W : World) :
    Calls Tryd.prog 5 #[.int .i32 a, .int .i32 b, .int .i32 c] W fun e w' => e = .returned (.bool true) ∧ Below W.heap.size W w' := by
  have HC := Lib.hid ringV_comm
  have HA := Lib.hid ringV_assoc
  have HD := Lib.hid (ring_dist a b c)
  have HB := Lib.hid (ring_back a b h)
  clear h
  go_enter Tryd.func5, Tryd.ntmps5
  go_wp2_with fail
  go_loop [35] (fun i => ∃ k : Nat, k ≤ 5 ∧ i = .int .i64 k) (fun i => 5 - (intOf i).toNat)
  case atStart => exact ⟨0, by omega, rfl⟩
  case round =>
    obtain ⟨k, hk, rfl⟩ := hrel
    have hcases : k = 0 ∨ k = 1 ∨ k = 2 ∨ k = 3 ∨ k = 4 ∨ k = 5 := by omega
    rcases hcases with rfl | rfl | rfl | rfl | rfl | rfl
    · have e1 := HC.out 1 a b
      have e2 : (ringV 1 (ringV 1 b a) c != ringV 1 a (ringV 1 b c)) = false := by rw [← e1, HA.out]; simp
      go_wp2_with (go_at_call 12; refine (bin_ring _ _ _ (by decide) _).mono ?_; rintro e w' ⟨rfl, rfl⟩)
      go_round
      case rel => exact ⟨1, by omega, rfl⟩
      case measure => simp [intOf]
    · have e1 := HC.out 3 a b
      have e2 : (ringV 3 (ringV 3 b a) c != ringV 3 a (ringV 3 b c)) = false := by rw [← e1, HA.out]; simp
      go_wp2_with (go_at_call 12; refine (bin_ring _ _ _ (by decide) _).mono ?_; rintro e w' ⟨rfl, rfl⟩)
      go_round
      case rel => exact ⟨2, by omega, rfl⟩
      case measure => simp [intOf]
    · have e1 := HC.out 8 a b
      have e2 : (ringV 8 (ringV 8 b a) c != ringV 8 a (ringV 8 b c)) = false := by rw [← e1, HA.out]; simp
      go_wp2_with (go_at_call 12; refine (bin_ring _ _ _ (by decide) _).mono ?_; rintro e w' ⟨rfl, rfl⟩)
      go_round
      case rel => exact ⟨3, by omega, rfl⟩
      case measure => simp [intOf]
    · have e1 := HC.out 9 a b
      have e2 : (ringV 9 (ringV 9 b a) c != ringV 9 a (ringV 9 b c)) = false := by rw [← e1, HA.out]; simp
      go_wp2_with (go_at_call 12; refine (bin_ring _ _ _ (by decide) _).mono ?_; rintro e w' ⟨rfl, rfl⟩)
      go_round
      case rel => exact ⟨4, by omega, rfl⟩
      case measure => simp [intOf]
    · have e1 := HC.out 10 a b
      have e2 : (ringV 10 (ringV 10 b a) c != ringV 10 a (ringV 10 b c)) = false := by rw [← e1, HA.out]; simp
      go_wp2_with (go_at_call 12; refine (bin_ring _ _ _ (by decide) _).mono ?_; rintro e w' ⟨rfl, rfl⟩)
      go_round
      case rel => exact ⟨5, by omega, rfl⟩
      case measure => simp [intOf]
    · go_wp2_with fail
      refine (bin_add _ _ _).mono ?_
      rintro e w' ⟨rfl, rfl⟩
      go_wp2_with fail
      refine (bin_mul _ _ _).mono ?_
      rintro e w' ⟨rfl, rfl⟩
      go_wp2_with fail
      refine (bin_mul _ _ _).mono ?_
      rintro e w' ⟨rfl, rfl⟩
      go_wp2_with fail
      refine (bin_mul _ _ _).mono ?_
      rintro e w' ⟨rfl, rfl⟩
      go_wp2_with fail
      refine (bin_add _ _ _).mono ?_
      rintro e w' ⟨rfl, rfl⟩
      go_wp2_with fail
      refine (bin_sub _ _ _).mono ?_
      rintro e w' ⟨rfl, rfl⟩
      go_wp2_with fail
      refine (bin_add _ _ _).mono ?_
      rintro e w' ⟨rfl, rfl⟩
      have e1 : (wrap32 (a * wrap32 (b + c)) == wrap32 (wrap32 (a * b) + wrap32 (a * c))) = true := by rw [HD.out]; simp
      have e2 : (wrap32 (wrap32 (a - b) + b) == a) = true := by rw [HB.out]; simp
      go_wp2_with fail
      refine (lives_true _).mono ?_
      rintro e w1 ⟨rfl, hB⟩
      have hB1 : Below W.heap.size W w1 := ((Below.refl _ _).alloc (Nat.le_refl _) _).trans (hB.mono (by simp))
      clear hB
      go_wp2
      go_ret
      exact ⟨rfl, hB1⟩
end WordRing

theorem wordRing_walk (a0 a1 a2 : Int) (W : World) (w0 : (Lit.int .i32 a0).wf = true) (_w1 : (Lit.int .i32 a1).wf = true) (_w2 : (Lit.int .i32 a2).wf = true) (_hL : laidMetH Tryd.prog Rows.wordRingRow.laid W) :
    Calls Tryd.prog 5 #[.int .i32 a0, .int .i32 a1, .int .i32 a2] W fun e w' => e = .returned (.bool true) ∧ Below W.heap.size W w' :=
  WordRing.walk a0 a1 a2 (bounds_i32 w0) W
end Go.Proofs.YthgkkgjnealkbaaDoor
