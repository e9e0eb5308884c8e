/-
  The walk of the law WordQuotients: it answers true and writes nothing that was there.
-/
import Derived.Test.YthgkkgjnealkbaaDoorLives
import Derived.Test.YthgkkgjnealkbaaDoorWordMath
import Derived.OpenShut
import Derived.Stop.Joined
namespace Go.Proofs.YthgkkgjnealkbaaDoor
open Go.RowKit

namespace WordQuotients
theorem walk0 (a0 : Int) (W : World) :
    Calls Tryd.prog 6 #[.int .i32 a0, .int .i32 0] W fun e w' => e = .returned (.bool true) ∧ Below W.heap.size W w' := by
  go_enter Tryd.func6, Tryd.ntmps6
  go_wp2_with fail
  refine (bin_div0 4 _ (.inl rfl) _).mono ?_
  rintro e w' ⟨rfl, rfl⟩
  go_wp2_with fail
  refine (bin_div0 5 _ (.inr rfl) _).mono ?_
  rintro e w' ⟨rfl, rfl⟩
  go_wp2_with fail
  refine (lives_true _).mono ?_
  rintro e w1 ⟨rfl, hB⟩
  go_wp2
  go_ret
  exact ⟨rfl, hB⟩
theorem walk1 (a0 a1 : Int) (h1 : -2147483648 ≤ a0 ∧ a0 ≤ 2147483647) (h2 : -2147483648 ≤ a1 ∧ a1 ≤ 2147483647) (hb : a1 ≠ 0) (W : World) :
    Calls Tryd.prog 6 #[.int .i32 a0, .int .i32 a1] W fun e w' => e = .returned (.bool true) ∧ Below W.heap.size W w' := by
  go_enter Tryd.func6, Tryd.ntmps6
  go_wp2_with fail
  refine (bin_div _ _ hb _).mono ?_
  rintro e w' ⟨rfl, rfl⟩
  go_wp2_with fail
  refine (bin_rem _ _ hb _).mono ?_
  rintro e w' ⟨rfl, rfl⟩
  go_wp2_with fail
  refine (bin_mul _ _ _).mono ?_
  rintro e w' ⟨rfl, rfl⟩
  go_wp2_with fail
  refine (bin_add _ _ _).mono ?_
  rintro e w' ⟨rfl, rfl⟩
  have H1 := Lib.hid (quot_back a0 a1 h1)
  have H2 := Lib.hid (tmod_near a0 a1 hb)
  have H3 := Lib.hid (tmod_side a0 a1)
  have hr := tmod_bd a0 a1 h1
  go_wp2_with (go_at_call 14; refine (lives_true _).mono ?_; rintro e w1 ⟨rfl, hB⟩)
  all_goals
    first
    | (go_ret; exact ⟨rfl, by assumption⟩)
    | (exfalso
       have g1 := H1.out
       have g2 := H2.out
       have g3 := H3.out
       omega)
end WordQuotients

theorem wordQuotients_walk (a0 a1 : Int) (W : World) (w0 : (Lit.int .i32 a0).wf = true) (w1 : (Lit.int .i32 a1).wf = true) (_hL : laidMetH Tryd.prog Rows.wordQuotientsRow.laid W) :
    Calls Tryd.prog 6 #[.int .i32 a0, .int .i32 a1] W fun e w' => e = .returned (.bool true) ∧ Below W.heap.size W w' := by
  by_cases hb : a1 = 0
  · subst hb
    exact WordQuotients.walk0 a0 W
  · exact WordQuotients.walk1 a0 a1 (bounds_i32 w0) (bounds_i32 w1) hb W
end Go.Proofs.YthgkkgjnealkbaaDoor
