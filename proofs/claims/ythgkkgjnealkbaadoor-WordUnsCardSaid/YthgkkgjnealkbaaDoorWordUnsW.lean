/-
  The walk of the law WordUns: it answers true and writes nothing that was there.
-/
import Derived.Test.YthgkkgjnealkbaaDoorLives
import Derived.Test.YthgkkgjnealkbaaDoorWordMath
import Derived.Test.YthgkkgjnealkbaaDoorRefs
import Derived.OpenShut
import Derived.Stop.Joined
import Derived.LoopN
namespace Go.Proofs.YthgkkgjnealkbaaDoor
open Go.RowKit

/-- How the operators are written, in the order of their numbers. -/
def signS (op : Int) : ByteArray :=
  if op = 1 then ⟨#[43]⟩
  else if op = 2 then ⟨#[45]⟩
  else if op = 3 then ⟨#[42]⟩
  else if op = 4 then ⟨#[47]⟩
  else if op = 5 then ⟨#[37]⟩
  else if op = 6 then ⟨#[60, 60]⟩
  else if op = 7 then ⟨#[62, 62]⟩
  else if op = 8 then ⟨#[38]⟩
  else if op = 9 then ⟨#[124]⟩
  else if op = 10 then ⟨#[94]⟩
  else if op = 11 then ⟨#[60]⟩
  else if op = 12 then ⟨#[60, 61]⟩
  else if op = 13 then ⟨#[62]⟩
  else if op = 14 then ⟨#[62, 61]⟩
  else if op = 15 then ⟨#[61, 61]⟩
  else if op = 16 then ⟨#[33, 61]⟩
  else if op = 17 then ⟨#[38, 38]⟩
  else if op = 18 then ⟨#[124, 124]⟩
  else if op = 19 then ⟨#[45]⟩
  else if op = 20 then ⟨#[33]⟩
  else if op = 21 then ⟨#[126]⟩
  else ⟨#[]⟩

theorem sign_1 (w : World) :
    Calls Tryd.prog 17 #[.int .i64 1] w fun e w' => e = .returned (.string (signS 1)) ∧ w = w' := by
  go_enter Tryd.func17, Tryd.ntmps17
  go_wp2
  go_ret
  exact ⟨rfl, rfl⟩
theorem ref_sign_1 (w : World) :
    Calls Tryd.prog 18 #[.int .i64 1] w fun e w' => e = .returned (.string (signS 1)) ∧ w = w' := by
  have hx : (ByteArray.mk #[43, 32, 32, 45, 32, 32, 42, 32, 32, 47, 32, 32, 37, 32, 32, 60, 60, 32, 62, 62, 32, 38, 32, 32, 124, 32, 32, 94, 32, 32, 60, 32, 32, 60, 61, 32, 62, 32, 32, 62, 61, 32, 61, 61, 32, 33, 61, 32, 38, 38, 32, 124, 124, 32, 45, 32, 32, 33, 32, 32, 126, 32, 32]).extract 0 3 = ⟨#[43, 32, 32]⟩ := by decide
  have h0 : (ByteArray.mk #[43, 32, 32]).extract 0 2 = ⟨#[43, 32]⟩ := by decide
  have h1 : (ByteArray.mk #[43, 32]).extract 0 1 = ⟨#[43]⟩ := by decide
  go_enter Tryd.func18, Tryd.ntmps18
  go_wp2
  refine wp_loop_rounds 3 ?_
  rw [rounds_succ]
  go_wp2
  rw [rounds_succ]
  go_wp2
  rw [rounds_succ]
  go_wp2
  go_ret
  exact ⟨rfl, rfl⟩

theorem sign_2 (w : World) :
    Calls Tryd.prog 17 #[.int .i64 2] w fun e w' => e = .returned (.string (signS 2)) ∧ w = w' := by
  go_enter Tryd.func17, Tryd.ntmps17
  go_wp2
  go_ret
  exact ⟨rfl, rfl⟩
theorem ref_sign_2 (w : World) :
    Calls Tryd.prog 18 #[.int .i64 2] w fun e w' => e = .returned (.string (signS 2)) ∧ w = w' := by
  have hx : (ByteArray.mk #[43, 32, 32, 45, 32, 32, 42, 32, 32, 47, 32, 32, 37, 32, 32, 60, 60, 32, 62, 62, 32, 38, 32, 32, 124, 32, 32, 94, 32, 32, 60, 32, 32, 60, 61, 32, 62, 32, 32, 62, 61, 32, 61, 61, 32, 33, 61, 32, 38, 38, 32, 124, 124, 32, 45, 32, 32, 33, 32, 32, 126, 32, 32]).extract 3 6 = ⟨#[45, 32, 32]⟩ := by decide
  have h0 : (ByteArray.mk #[45, 32, 32]).extract 0 2 = ⟨#[45, 32]⟩ := by decide
  have h1 : (ByteArray.mk #[45, 32]).extract 0 1 = ⟨#[45]⟩ := by decide
  go_enter Tryd.func18, Tryd.ntmps18
  go_wp2
  refine wp_loop_rounds 3 ?_
  rw [rounds_succ]
  go_wp2
  rw [rounds_succ]
  go_wp2
  rw [rounds_succ]
  go_wp2
  go_ret
  exact ⟨rfl, rfl⟩

theorem sign_3 (w : World) :
    Calls Tryd.prog 17 #[.int .i64 3] w fun e w' => e = .returned (.string (signS 3)) ∧ w = w' := by
  go_enter Tryd.func17, Tryd.ntmps17
  go_wp2
  go_ret
  exact ⟨rfl, rfl⟩
theorem ref_sign_3 (w : World) :
    Calls Tryd.prog 18 #[.int .i64 3] w fun e w' => e = .returned (.string (signS 3)) ∧ w = w' := by
  have hx : (ByteArray.mk #[43, 32, 32, 45, 32, 32, 42, 32, 32, 47, 32, 32, 37, 32, 32, 60, 60, 32, 62, 62, 32, 38, 32, 32, 124, 32, 32, 94, 32, 32, 60, 32, 32, 60, 61, 32, 62, 32, 32, 62, 61, 32, 61, 61, 32, 33, 61, 32, 38, 38, 32, 124, 124, 32, 45, 32, 32, 33, 32, 32, 126, 32, 32]).extract 6 9 = ⟨#[42, 32, 32]⟩ := by decide
  have h0 : (ByteArray.mk #[42, 32, 32]).extract 0 2 = ⟨#[42, 32]⟩ := by decide
  have h1 : (ByteArray.mk #[42, 32]).extract 0 1 = ⟨#[42]⟩ := by decide
  go_enter Tryd.func18, Tryd.ntmps18
  go_wp2
  refine wp_loop_rounds 3 ?_
  rw [rounds_succ]
  go_wp2
  rw [rounds_succ]
  go_wp2
  rw [rounds_succ]
  go_wp2
  go_ret
  exact ⟨rfl, rfl⟩

theorem sign_4 (w : World) :
    Calls Tryd.prog 17 #[.int .i64 4] w fun e w' => e = .returned (.string (signS 4)) ∧ w = w' := by
  go_enter Tryd.func17, Tryd.ntmps17
  go_wp2
  go_ret
  exact ⟨rfl, rfl⟩
theorem ref_sign_4 (w : World) :
    Calls Tryd.prog 18 #[.int .i64 4] w fun e w' => e = .returned (.string (signS 4)) ∧ w = w' := by
  have hx : (ByteArray.mk #[43, 32, 32, 45, 32, 32, 42, 32, 32, 47, 32, 32, 37, 32, 32, 60, 60, 32, 62, 62, 32, 38, 32, 32, 124, 32, 32, 94, 32, 32, 60, 32, 32, 60, 61, 32, 62, 32, 32, 62, 61, 32, 61, 61, 32, 33, 61, 32, 38, 38, 32, 124, 124, 32, 45, 32, 32, 33, 32, 32, 126, 32, 32]).extract 9 12 = ⟨#[47, 32, 32]⟩ := by decide
  have h0 : (ByteArray.mk #[47, 32, 32]).extract 0 2 = ⟨#[47, 32]⟩ := by decide
  have h1 : (ByteArray.mk #[47, 32]).extract 0 1 = ⟨#[47]⟩ := by decide
  go_enter Tryd.func18, Tryd.ntmps18
  go_wp2
  refine wp_loop_rounds 3 ?_
  rw [rounds_succ]
  go_wp2
  rw [rounds_succ]
  go_wp2
  rw [rounds_succ]
  go_wp2
  go_ret
  exact ⟨rfl, rfl⟩

theorem sign_5 (w : World) :
    Calls Tryd.prog 17 #[.int .i64 5] w fun e w' => e = .returned (.string (signS 5)) ∧ w = w' := by
  go_enter Tryd.func17, Tryd.ntmps17
  go_wp2
  go_ret
  exact ⟨rfl, rfl⟩
theorem ref_sign_5 (w : World) :
    Calls Tryd.prog 18 #[.int .i64 5] w fun e w' => e = .returned (.string (signS 5)) ∧ w = w' := by
  have hx : (ByteArray.mk #[43, 32, 32, 45, 32, 32, 42, 32, 32, 47, 32, 32, 37, 32, 32, 60, 60, 32, 62, 62, 32, 38, 32, 32, 124, 32, 32, 94, 32, 32, 60, 32, 32, 60, 61, 32, 62, 32, 32, 62, 61, 32, 61, 61, 32, 33, 61, 32, 38, 38, 32, 124, 124, 32, 45, 32, 32, 33, 32, 32, 126, 32, 32]).extract 12 15 = ⟨#[37, 32, 32]⟩ := by decide
  have h0 : (ByteArray.mk #[37, 32, 32]).extract 0 2 = ⟨#[37, 32]⟩ := by decide
  have h1 : (ByteArray.mk #[37, 32]).extract 0 1 = ⟨#[37]⟩ := by decide
  go_enter Tryd.func18, Tryd.ntmps18
  go_wp2
  refine wp_loop_rounds 3 ?_
  rw [rounds_succ]
  go_wp2
  rw [rounds_succ]
  go_wp2
  rw [rounds_succ]
  go_wp2
  go_ret
  exact ⟨rfl, rfl⟩

theorem sign_6 (w : World) :
    Calls Tryd.prog 17 #[.int .i64 6] w fun e w' => e = .returned (.string (signS 6)) ∧ w = w' := by
  go_enter Tryd.func17, Tryd.ntmps17
  go_wp2
  go_ret
  exact ⟨rfl, rfl⟩
theorem ref_sign_6 (w : World) :
    Calls Tryd.prog 18 #[.int .i64 6] w fun e w' => e = .returned (.string (signS 6)) ∧ w = w' := by
  have hx : (ByteArray.mk #[43, 32, 32, 45, 32, 32, 42, 32, 32, 47, 32, 32, 37, 32, 32, 60, 60, 32, 62, 62, 32, 38, 32, 32, 124, 32, 32, 94, 32, 32, 60, 32, 32, 60, 61, 32, 62, 32, 32, 62, 61, 32, 61, 61, 32, 33, 61, 32, 38, 38, 32, 124, 124, 32, 45, 32, 32, 33, 32, 32, 126, 32, 32]).extract 15 18 = ⟨#[60, 60, 32]⟩ := by decide
  have h0 : (ByteArray.mk #[60, 60, 32]).extract 0 2 = ⟨#[60, 60]⟩ := by decide
  go_enter Tryd.func18, Tryd.ntmps18
  go_wp2
  refine wp_loop_rounds 2 ?_
  rw [rounds_succ]
  go_wp2
  rw [rounds_succ]
  go_wp2
  go_ret
  exact ⟨rfl, rfl⟩

theorem sign_7 (w : World) :
    Calls Tryd.prog 17 #[.int .i64 7] w fun e w' => e = .returned (.string (signS 7)) ∧ w = w' := by
  go_enter Tryd.func17, Tryd.ntmps17
  go_wp2
  go_ret
  exact ⟨rfl, rfl⟩
theorem ref_sign_7 (w : World) :
    Calls Tryd.prog 18 #[.int .i64 7] w fun e w' => e = .returned (.string (signS 7)) ∧ w = w' := by
  have hx : (ByteArray.mk #[43, 32, 32, 45, 32, 32, 42, 32, 32, 47, 32, 32, 37, 32, 32, 60, 60, 32, 62, 62, 32, 38, 32, 32, 124, 32, 32, 94, 32, 32, 60, 32, 32, 60, 61, 32, 62, 32, 32, 62, 61, 32, 61, 61, 32, 33, 61, 32, 38, 38, 32, 124, 124, 32, 45, 32, 32, 33, 32, 32, 126, 32, 32]).extract 18 21 = ⟨#[62, 62, 32]⟩ := by decide
  have h0 : (ByteArray.mk #[62, 62, 32]).extract 0 2 = ⟨#[62, 62]⟩ := by decide
  go_enter Tryd.func18, Tryd.ntmps18
  go_wp2
  refine wp_loop_rounds 2 ?_
  rw [rounds_succ]
  go_wp2
  rw [rounds_succ]
  go_wp2
  go_ret
  exact ⟨rfl, rfl⟩

theorem sign_8 (w : World) :
    Calls Tryd.prog 17 #[.int .i64 8] w fun e w' => e = .returned (.string (signS 8)) ∧ w = w' := by
  go_enter Tryd.func17, Tryd.ntmps17
  go_wp2
  go_ret
  exact ⟨rfl, rfl⟩
theorem ref_sign_8 (w : World) :
    Calls Tryd.prog 18 #[.int .i64 8] w fun e w' => e = .returned (.string (signS 8)) ∧ w = w' := by
  have hx : (ByteArray.mk #[43, 32, 32, 45, 32, 32, 42, 32, 32, 47, 32, 32, 37, 32, 32, 60, 60, 32, 62, 62, 32, 38, 32, 32, 124, 32, 32, 94, 32, 32, 60, 32, 32, 60, 61, 32, 62, 32, 32, 62, 61, 32, 61, 61, 32, 33, 61, 32, 38, 38, 32, 124, 124, 32, 45, 32, 32, 33, 32, 32, 126, 32, 32]).extract 21 24 = ⟨#[38, 32, 32]⟩ := by decide
  have h0 : (ByteArray.mk #[38, 32, 32]).extract 0 2 = ⟨#[38, 32]⟩ := by decide
  have h1 : (ByteArray.mk #[38, 32]).extract 0 1 = ⟨#[38]⟩ := by decide
  go_enter Tryd.func18, Tryd.ntmps18
  go_wp2
  refine wp_loop_rounds 3 ?_
  rw [rounds_succ]
  go_wp2
  rw [rounds_succ]
  go_wp2
  rw [rounds_succ]
  go_wp2
  go_ret
  exact ⟨rfl, rfl⟩

theorem sign_9 (w : World) :
    Calls Tryd.prog 17 #[.int .i64 9] w fun e w' => e = .returned (.string (signS 9)) ∧ w = w' := by
  go_enter Tryd.func17, Tryd.ntmps17
  go_wp2
  go_ret
  exact ⟨rfl, rfl⟩
theorem ref_sign_9 (w : World) :
    Calls Tryd.prog 18 #[.int .i64 9] w fun e w' => e = .returned (.string (signS 9)) ∧ w = w' := by
  have hx : (ByteArray.mk #[43, 32, 32, 45, 32, 32, 42, 32, 32, 47, 32, 32, 37, 32, 32, 60, 60, 32, 62, 62, 32, 38, 32, 32, 124, 32, 32, 94, 32, 32, 60, 32, 32, 60, 61, 32, 62, 32, 32, 62, 61, 32, 61, 61, 32, 33, 61, 32, 38, 38, 32, 124, 124, 32, 45, 32, 32, 33, 32, 32, 126, 32, 32]).extract 24 27 = ⟨#[124, 32, 32]⟩ := by decide
  have h0 : (ByteArray.mk #[124, 32, 32]).extract 0 2 = ⟨#[124, 32]⟩ := by decide
  have h1 : (ByteArray.mk #[124, 32]).extract 0 1 = ⟨#[124]⟩ := by decide
  go_enter Tryd.func18, Tryd.ntmps18
  go_wp2
  refine wp_loop_rounds 3 ?_
  rw [rounds_succ]
  go_wp2
  rw [rounds_succ]
  go_wp2
  rw [rounds_succ]
  go_wp2
  go_ret
  exact ⟨rfl, rfl⟩

theorem sign_10 (w : World) :
    Calls Tryd.prog 17 #[.int .i64 10] w fun e w' => e = .returned (.string (signS 10)) ∧ w = w' := by
  go_enter Tryd.func17, Tryd.ntmps17
  go_wp2
  go_ret
  exact ⟨rfl, rfl⟩
theorem ref_sign_10 (w : World) :
    Calls Tryd.prog 18 #[.int .i64 10] w fun e w' => e = .returned (.string (signS 10)) ∧ w = w' := by
  have hx : (ByteArray.mk #[43, 32, 32, 45, 32, 32, 42, 32, 32, 47, 32, 32, 37, 32, 32, 60, 60, 32, 62, 62, 32, 38, 32, 32, 124, 32, 32, 94, 32, 32, 60, 32, 32, 60, 61, 32, 62, 32, 32, 62, 61, 32, 61, 61, 32, 33, 61, 32, 38, 38, 32, 124, 124, 32, 45, 32, 32, 33, 32, 32, 126, 32, 32]).extract 27 30 = ⟨#[94, 32, 32]⟩ := by decide
  have h0 : (ByteArray.mk #[94, 32, 32]).extract 0 2 = ⟨#[94, 32]⟩ := by decide
  have h1 : (ByteArray.mk #[94, 32]).extract 0 1 = ⟨#[94]⟩ := by decide
  go_enter Tryd.func18, Tryd.ntmps18
  go_wp2
  refine wp_loop_rounds 3 ?_
  rw [rounds_succ]
  go_wp2
  rw [rounds_succ]
  go_wp2
  rw [rounds_succ]
  go_wp2
  go_ret
  exact ⟨rfl, rfl⟩

theorem sign_11 (w : World) :
    Calls Tryd.prog 17 #[.int .i64 11] w fun e w' => e = .returned (.string (signS 11)) ∧ w = w' := by
  go_enter Tryd.func17, Tryd.ntmps17
  go_wp2
  go_ret
  exact ⟨rfl, rfl⟩
theorem ref_sign_11 (w : World) :
    Calls Tryd.prog 18 #[.int .i64 11] w fun e w' => e = .returned (.string (signS 11)) ∧ w = w' := by
  have hx : (ByteArray.mk #[43, 32, 32, 45, 32, 32, 42, 32, 32, 47, 32, 32, 37, 32, 32, 60, 60, 32, 62, 62, 32, 38, 32, 32, 124, 32, 32, 94, 32, 32, 60, 32, 32, 60, 61, 32, 62, 32, 32, 62, 61, 32, 61, 61, 32, 33, 61, 32, 38, 38, 32, 124, 124, 32, 45, 32, 32, 33, 32, 32, 126, 32, 32]).extract 30 33 = ⟨#[60, 32, 32]⟩ := by decide
  have h0 : (ByteArray.mk #[60, 32, 32]).extract 0 2 = ⟨#[60, 32]⟩ := by decide
  have h1 : (ByteArray.mk #[60, 32]).extract 0 1 = ⟨#[60]⟩ := by decide
  go_enter Tryd.func18, Tryd.ntmps18
  go_wp2
  refine wp_loop_rounds 3 ?_
  rw [rounds_succ]
  go_wp2
  rw [rounds_succ]
  go_wp2
  rw [rounds_succ]
  go_wp2
  go_ret
  exact ⟨rfl, rfl⟩

theorem sign_12 (w : World) :
    Calls Tryd.prog 17 #[.int .i64 12] w fun e w' => e = .returned (.string (signS 12)) ∧ w = w' := by
  go_enter Tryd.func17, Tryd.ntmps17
  go_wp2
  go_ret
  exact ⟨rfl, rfl⟩
theorem ref_sign_12 (w : World) :
    Calls Tryd.prog 18 #[.int .i64 12] w fun e w' => e = .returned (.string (signS 12)) ∧ w = w' := by
  have hx : (ByteArray.mk #[43, 32, 32, 45, 32, 32, 42, 32, 32, 47, 32, 32, 37, 32, 32, 60, 60, 32, 62, 62, 32, 38, 32, 32, 124, 32, 32, 94, 32, 32, 60, 32, 32, 60, 61, 32, 62, 32, 32, 62, 61, 32, 61, 61, 32, 33, 61, 32, 38, 38, 32, 124, 124, 32, 45, 32, 32, 33, 32, 32, 126, 32, 32]).extract 33 36 = ⟨#[60, 61, 32]⟩ := by decide
  have h0 : (ByteArray.mk #[60, 61, 32]).extract 0 2 = ⟨#[60, 61]⟩ := by decide
  go_enter Tryd.func18, Tryd.ntmps18
  go_wp2
  refine wp_loop_rounds 2 ?_
  rw [rounds_succ]
  go_wp2
  rw [rounds_succ]
  go_wp2
  go_ret
  exact ⟨rfl, rfl⟩

theorem sign_13 (w : World) :
    Calls Tryd.prog 17 #[.int .i64 13] w fun e w' => e = .returned (.string (signS 13)) ∧ w = w' := by
  go_enter Tryd.func17, Tryd.ntmps17
  go_wp2
  go_ret
  exact ⟨rfl, rfl⟩
theorem ref_sign_13 (w : World) :
    Calls Tryd.prog 18 #[.int .i64 13] w fun e w' => e = .returned (.string (signS 13)) ∧ w = w' := by
  have hx : (ByteArray.mk #[43, 32, 32, 45, 32, 32, 42, 32, 32, 47, 32, 32, 37, 32, 32, 60, 60, 32, 62, 62, 32, 38, 32, 32, 124, 32, 32, 94, 32, 32, 60, 32, 32, 60, 61, 32, 62, 32, 32, 62, 61, 32, 61, 61, 32, 33, 61, 32, 38, 38, 32, 124, 124, 32, 45, 32, 32, 33, 32, 32, 126, 32, 32]).extract 36 39 = ⟨#[62, 32, 32]⟩ := by decide
  have h0 : (ByteArray.mk #[62, 32, 32]).extract 0 2 = ⟨#[62, 32]⟩ := by decide
  have h1 : (ByteArray.mk #[62, 32]).extract 0 1 = ⟨#[62]⟩ := by decide
  go_enter Tryd.func18, Tryd.ntmps18
  go_wp2
  refine wp_loop_rounds 3 ?_
  rw [rounds_succ]
  go_wp2
  rw [rounds_succ]
  go_wp2
  rw [rounds_succ]
  go_wp2
  go_ret
  exact ⟨rfl, rfl⟩

theorem sign_14 (w : World) :
    Calls Tryd.prog 17 #[.int .i64 14] w fun e w' => e = .returned (.string (signS 14)) ∧ w = w' := by
  go_enter Tryd.func17, Tryd.ntmps17
  go_wp2
  go_ret
  exact ⟨rfl, rfl⟩
theorem ref_sign_14 (w : World) :
    Calls Tryd.prog 18 #[.int .i64 14] w fun e w' => e = .returned (.string (signS 14)) ∧ w = w' := by
  have hx : (ByteArray.mk #[43, 32, 32, 45, 32, 32, 42, 32, 32, 47, 32, 32, 37, 32, 32, 60, 60, 32, 62, 62, 32, 38, 32, 32, 124, 32, 32, 94, 32, 32, 60, 32, 32, 60, 61, 32, 62, 32, 32, 62, 61, 32, 61, 61, 32, 33, 61, 32, 38, 38, 32, 124, 124, 32, 45, 32, 32, 33, 32, 32, 126, 32, 32]).extract 39 42 = ⟨#[62, 61, 32]⟩ := by decide
  have h0 : (ByteArray.mk #[62, 61, 32]).extract 0 2 = ⟨#[62, 61]⟩ := by decide
  go_enter Tryd.func18, Tryd.ntmps18
  go_wp2
  refine wp_loop_rounds 2 ?_
  rw [rounds_succ]
  go_wp2
  rw [rounds_succ]
  go_wp2
  go_ret
  exact ⟨rfl, rfl⟩

theorem sign_15 (w : World) :
    Calls Tryd.prog 17 #[.int .i64 15] w fun e w' => e = .returned (.string (signS 15)) ∧ w = w' := by
  go_enter Tryd.func17, Tryd.ntmps17
  go_wp2
  go_ret
  exact ⟨rfl, rfl⟩
theorem ref_sign_15 (w : World) :
    Calls Tryd.prog 18 #[.int .i64 15] w fun e w' => e = .returned (.string (signS 15)) ∧ w = w' := by
  have hx : (ByteArray.mk #[43, 32, 32, 45, 32, 32, 42, 32, 32, 47, 32, 32, 37, 32, 32, 60, 60, 32, 62, 62, 32, 38, 32, 32, 124, 32, 32, 94, 32, 32, 60, 32, 32, 60, 61, 32, 62, 32, 32, 62, 61, 32, 61, 61, 32, 33, 61, 32, 38, 38, 32, 124, 124, 32, 45, 32, 32, 33, 32, 32, 126, 32, 32]).extract 42 45 = ⟨#[61, 61, 32]⟩ := by decide
  have h0 : (ByteArray.mk #[61, 61, 32]).extract 0 2 = ⟨#[61, 61]⟩ := by decide
  go_enter Tryd.func18, Tryd.ntmps18
  go_wp2
  refine wp_loop_rounds 2 ?_
  rw [rounds_succ]
  go_wp2
  rw [rounds_succ]
  go_wp2
  go_ret
  exact ⟨rfl, rfl⟩

theorem sign_16 (w : World) :
    Calls Tryd.prog 17 #[.int .i64 16] w fun e w' => e = .returned (.string (signS 16)) ∧ w = w' := by
  go_enter Tryd.func17, Tryd.ntmps17
  go_wp2
  go_ret
  exact ⟨rfl, rfl⟩
theorem ref_sign_16 (w : World) :
    Calls Tryd.prog 18 #[.int .i64 16] w fun e w' => e = .returned (.string (signS 16)) ∧ w = w' := by
  have hx : (ByteArray.mk #[43, 32, 32, 45, 32, 32, 42, 32, 32, 47, 32, 32, 37, 32, 32, 60, 60, 32, 62, 62, 32, 38, 32, 32, 124, 32, 32, 94, 32, 32, 60, 32, 32, 60, 61, 32, 62, 32, 32, 62, 61, 32, 61, 61, 32, 33, 61, 32, 38, 38, 32, 124, 124, 32, 45, 32, 32, 33, 32, 32, 126, 32, 32]).extract 45 48 = ⟨#[33, 61, 32]⟩ := by decide
  have h0 : (ByteArray.mk #[33, 61, 32]).extract 0 2 = ⟨#[33, 61]⟩ := by decide
  go_enter Tryd.func18, Tryd.ntmps18
  go_wp2
  refine wp_loop_rounds 2 ?_
  rw [rounds_succ]
  go_wp2
  rw [rounds_succ]
  go_wp2
  go_ret
  exact ⟨rfl, rfl⟩

theorem sign_17 (w : World) :
    Calls Tryd.prog 17 #[.int .i64 17] w fun e w' => e = .returned (.string (signS 17)) ∧ w = w' := by
  go_enter Tryd.func17, Tryd.ntmps17
  go_wp2
  go_ret
  exact ⟨rfl, rfl⟩
theorem ref_sign_17 (w : World) :
    Calls Tryd.prog 18 #[.int .i64 17] w fun e w' => e = .returned (.string (signS 17)) ∧ w = w' := by
  have hx : (ByteArray.mk #[43, 32, 32, 45, 32, 32, 42, 32, 32, 47, 32, 32, 37, 32, 32, 60, 60, 32, 62, 62, 32, 38, 32, 32, 124, 32, 32, 94, 32, 32, 60, 32, 32, 60, 61, 32, 62, 32, 32, 62, 61, 32, 61, 61, 32, 33, 61, 32, 38, 38, 32, 124, 124, 32, 45, 32, 32, 33, 32, 32, 126, 32, 32]).extract 48 51 = ⟨#[38, 38, 32]⟩ := by decide
  have h0 : (ByteArray.mk #[38, 38, 32]).extract 0 2 = ⟨#[38, 38]⟩ := by decide
  go_enter Tryd.func18, Tryd.ntmps18
  go_wp2
  refine wp_loop_rounds 2 ?_
  rw [rounds_succ]
  go_wp2
  rw [rounds_succ]
  go_wp2
  go_ret
  exact ⟨rfl, rfl⟩

theorem sign_18 (w : World) :
    Calls Tryd.prog 17 #[.int .i64 18] w fun e w' => e = .returned (.string (signS 18)) ∧ w = w' := by
  go_enter Tryd.func17, Tryd.ntmps17
  go_wp2
  go_ret
  exact ⟨rfl, rfl⟩
theorem ref_sign_18 (w : World) :
    Calls Tryd.prog 18 #[.int .i64 18] w fun e w' => e = .returned (.string (signS 18)) ∧ w = w' := by
  have hx : (ByteArray.mk #[43, 32, 32, 45, 32, 32, 42, 32, 32, 47, 32, 32, 37, 32, 32, 60, 60, 32, 62, 62, 32, 38, 32, 32, 124, 32, 32, 94, 32, 32, 60, 32, 32, 60, 61, 32, 62, 32, 32, 62, 61, 32, 61, 61, 32, 33, 61, 32, 38, 38, 32, 124, 124, 32, 45, 32, 32, 33, 32, 32, 126, 32, 32]).extract 51 54 = ⟨#[124, 124, 32]⟩ := by decide
  have h0 : (ByteArray.mk #[124, 124, 32]).extract 0 2 = ⟨#[124, 124]⟩ := by decide
  go_enter Tryd.func18, Tryd.ntmps18
  go_wp2
  refine wp_loop_rounds 2 ?_
  rw [rounds_succ]
  go_wp2
  rw [rounds_succ]
  go_wp2
  go_ret
  exact ⟨rfl, rfl⟩

theorem sign_19 (w : World) :
    Calls Tryd.prog 17 #[.int .i64 19] w fun e w' => e = .returned (.string (signS 19)) ∧ w = w' := by
  go_enter Tryd.func17, Tryd.ntmps17
  go_wp2
  go_ret
  exact ⟨rfl, rfl⟩
theorem ref_sign_19 (w : World) :
    Calls Tryd.prog 18 #[.int .i64 19] w fun e w' => e = .returned (.string (signS 19)) ∧ w = w' := by
  have hx : (ByteArray.mk #[43, 32, 32, 45, 32, 32, 42, 32, 32, 47, 32, 32, 37, 32, 32, 60, 60, 32, 62, 62, 32, 38, 32, 32, 124, 32, 32, 94, 32, 32, 60, 32, 32, 60, 61, 32, 62, 32, 32, 62, 61, 32, 61, 61, 32, 33, 61, 32, 38, 38, 32, 124, 124, 32, 45, 32, 32, 33, 32, 32, 126, 32, 32]).extract 54 57 = ⟨#[45, 32, 32]⟩ := by decide
  have h0 : (ByteArray.mk #[45, 32, 32]).extract 0 2 = ⟨#[45, 32]⟩ := by decide
  have h1 : (ByteArray.mk #[45, 32]).extract 0 1 = ⟨#[45]⟩ := by decide
  go_enter Tryd.func18, Tryd.ntmps18
  go_wp2
  refine wp_loop_rounds 3 ?_
  rw [rounds_succ]
  go_wp2
  rw [rounds_succ]
  go_wp2
  rw [rounds_succ]
  go_wp2
  go_ret
  exact ⟨rfl, rfl⟩

theorem sign_20 (w : World) :
    Calls Tryd.prog 17 #[.int .i64 20] w fun e w' => e = .returned (.string (signS 20)) ∧ w = w' := by
  go_enter Tryd.func17, Tryd.ntmps17
  go_wp2
  go_ret
  exact ⟨rfl, rfl⟩
theorem ref_sign_20 (w : World) :
    Calls Tryd.prog 18 #[.int .i64 20] w fun e w' => e = .returned (.string (signS 20)) ∧ w = w' := by
  have hx : (ByteArray.mk #[43, 32, 32, 45, 32, 32, 42, 32, 32, 47, 32, 32, 37, 32, 32, 60, 60, 32, 62, 62, 32, 38, 32, 32, 124, 32, 32, 94, 32, 32, 60, 32, 32, 60, 61, 32, 62, 32, 32, 62, 61, 32, 61, 61, 32, 33, 61, 32, 38, 38, 32, 124, 124, 32, 45, 32, 32, 33, 32, 32, 126, 32, 32]).extract 57 60 = ⟨#[33, 32, 32]⟩ := by decide
  have h0 : (ByteArray.mk #[33, 32, 32]).extract 0 2 = ⟨#[33, 32]⟩ := by decide
  have h1 : (ByteArray.mk #[33, 32]).extract 0 1 = ⟨#[33]⟩ := by decide
  go_enter Tryd.func18, Tryd.ntmps18
  go_wp2
  refine wp_loop_rounds 3 ?_
  rw [rounds_succ]
  go_wp2
  rw [rounds_succ]
  go_wp2
  rw [rounds_succ]
  go_wp2
  go_ret
  exact ⟨rfl, rfl⟩

theorem sign_21 (w : World) :
    Calls Tryd.prog 17 #[.int .i64 21] w fun e w' => e = .returned (.string (signS 21)) ∧ w = w' := by
  go_enter Tryd.func17, Tryd.ntmps17
  go_wp2
  go_ret
  exact ⟨rfl, rfl⟩
theorem ref_sign_21 (w : World) :
    Calls Tryd.prog 18 #[.int .i64 21] w fun e w' => e = .returned (.string (signS 21)) ∧ w = w' := by
  have hx : (ByteArray.mk #[43, 32, 32, 45, 32, 32, 42, 32, 32, 47, 32, 32, 37, 32, 32, 60, 60, 32, 62, 62, 32, 38, 32, 32, 124, 32, 32, 94, 32, 32, 60, 32, 32, 60, 61, 32, 62, 32, 32, 62, 61, 32, 61, 61, 32, 33, 61, 32, 38, 38, 32, 124, 124, 32, 45, 32, 32, 33, 32, 32, 126, 32, 32]).extract 60 63 = ⟨#[126, 32, 32]⟩ := by decide
  have h0 : (ByteArray.mk #[126, 32, 32]).extract 0 2 = ⟨#[126, 32]⟩ := by decide
  have h1 : (ByteArray.mk #[126, 32]).extract 0 1 = ⟨#[126]⟩ := by decide
  go_enter Tryd.func18, Tryd.ntmps18
  go_wp2
  refine wp_loop_rounds 3 ?_
  rw [rounds_succ]
  go_wp2
  rw [rounds_succ]
  go_wp2
  rw [rounds_succ]
  go_wp2
  go_ret
  exact ⟨rfl, rfl⟩

set_option maxRecDepth 10000 in
theorem sign_other (op : Int) (h : op < 1 ∨ 21 < op) (w : World) :
    Calls Tryd.prog 17 #[.int .i64 op] w fun e w' => e = .returned (.string ⟨#[]⟩) ∧ w = w' := by
  rcases h with h | h <;>
  · go_enter Tryd.func17, Tryd.ntmps17
    go_wp2
    go_ret
    exact ⟨rfl, rfl⟩
theorem ref_sign_other (op : Int) (h : op < 1 ∨ 21 < op) (w : World) :
    Calls Tryd.prog 18 #[.int .i64 op] w fun e w' => e = .returned (.string ⟨#[]⟩) ∧ w = w' := by
  rcases h with h | h <;>
  · go_enter Tryd.func18, Tryd.ntmps18
    go_wp2
    go_ret
    exact ⟨rfl, rfl⟩
theorem sign_both (op : Int) (w : World) :
    ∃ s : ByteArray, Calls Tryd.prog 17 #[.int .i64 op] w (fun e w' => e = .returned (.string s) ∧ w = w') ∧
      Calls Tryd.prog 18 #[.int .i64 op] w fun e w' => e = .returned (.string s) ∧ w = w' := by
  by_cases h : op < 1 ∨ 21 < op
  · exact ⟨⟨#[]⟩, sign_other op h w, ref_sign_other op h w⟩
  · have hc : op = 1 ∨ op = 2 ∨ op = 3 ∨ op = 4 ∨ op = 5 ∨ op = 6 ∨ op = 7 ∨ op = 8 ∨ op = 9 ∨ op = 10 ∨ op = 11 ∨ op = 12 ∨ op = 13 ∨ op = 14 ∨ op = 15 ∨ op = 16 ∨ op = 17 ∨ op = 18 ∨ op = 19 ∨ op = 20 ∨ op = 21 := by omega
    rcases hc with rfl | rfl | rfl | rfl | rfl | rfl | rfl | rfl | rfl | rfl | rfl | rfl | rfl | rfl | rfl | rfl | rfl | rfl | rfl | rfl | rfl
    · exact ⟨signS 1, sign_1 w, ref_sign_1 w⟩
    · exact ⟨signS 2, sign_2 w, ref_sign_2 w⟩
    · exact ⟨signS 3, sign_3 w, ref_sign_3 w⟩
    · exact ⟨signS 4, sign_4 w, ref_sign_4 w⟩
    · exact ⟨signS 5, sign_5 w, ref_sign_5 w⟩
    · exact ⟨signS 6, sign_6 w, ref_sign_6 w⟩
    · exact ⟨signS 7, sign_7 w, ref_sign_7 w⟩
    · exact ⟨signS 8, sign_8 w, ref_sign_8 w⟩
    · exact ⟨signS 9, sign_9 w, ref_sign_9 w⟩
    · exact ⟨signS 10, sign_10 w, ref_sign_10 w⟩
    · exact ⟨signS 11, sign_11 w, ref_sign_11 w⟩
    · exact ⟨signS 12, sign_12 w, ref_sign_12 w⟩
    · exact ⟨signS 13, sign_13 w, ref_sign_13 w⟩
    · exact ⟨signS 14, sign_14 w, ref_sign_14 w⟩
    · exact ⟨signS 15, sign_15 w, ref_sign_15 w⟩
    · exact ⟨signS 16, sign_16 w, ref_sign_16 w⟩
    · exact ⟨signS 17, sign_17 w, ref_sign_17 w⟩
    · exact ⟨signS 18, sign_18 w, ref_sign_18 w⟩
    · exact ⟨signS 19, sign_19 w, ref_sign_19 w⟩
    · exact ⟨signS 20, sign_20 w, ref_sign_20 w⟩
    · exact ⟨signS 21, sign_21 w, ref_sign_21 w⟩

/-- word.Un and the document's own answer are one. -/
theorem un_both (op a : Int) (ha : -2147483648 ≤ a ∧ a ≤ 2147483647) (w : World) :
    ∃ (x : Int) (ok : Bool), Calls Tryd.prog 15 #[.int .i64 op, .int .i32 a] w (fun e w' => e = .returned (.tuple #[.int .i32 x, .bool ok]) ∧ w = w') ∧
      Calls Tryd.prog 16 #[.int .i64 op, .int .i32 a] w fun e w' => e = .returned (.tuple #[.int .i32 x, .bool ok]) ∧ w = w' := by
  by_cases h : op < 19 ∨ 21 < op
  · refine ⟨0, false, un_other op a h w, ?_⟩
    rcases h with h | h <;>
    · go_enter Tryd.func16, Tryd.ntmps16
      go_wp2
      go_ret2
      exact ⟨rfl, rfl⟩
  · have hc : op = 19 ∨ op = 20 ∨ op = 21 := by omega
    rcases hc with rfl | rfl | rfl
    · refine ⟨_, _, un_neg a w, ?_⟩
      go_enter Tryd.func16, Tryd.ntmps16
      go_wp2_with (go_at_call 31; refine (round_any _ _).mono ?_; rintro e w' ⟨rfl, rfl⟩)
      go_ret2
      exact ⟨rfl, rfl⟩
    · refine ⟨_, _, un_not a w, ?_⟩
      go_enter Tryd.func16, Tryd.ntmps16
      go_wp2_with (go_at_call 38; refine (ref_truth _ _).mono ?_; rintro e w' ⟨rfl, rfl⟩)
      go_ret2
      exact ⟨rfl, rfl⟩
    · refine ⟨_, _, un_inv a w, ?_⟩
      rw [inv_is a ha]
      have hr := round_any (-1 - a) w
      rw [wrap32_self (-1 - a) (by omega)] at hr
      have H := Lib.hid hr
      clear hr
      go_enter Tryd.func16, Tryd.ntmps16
      go_wp2_with (go_at_call 31; refine H.out.mono ?_; rintro e w' ⟨rfl, rfl⟩)
      go_ret2
      exact ⟨rfl, rfl⟩

namespace WordUns
theorem walk (op a : Int) (ha : -2147483648 ≤ a ∧ a ≤ 2147483647) (W : World) :
    Calls Tryd.prog 4 #[.int .i64 op, .int .i32 a] W fun e w' => e = .returned (.bool true) ∧ Below W.heap.size W w' := by
  obtain ⟨x, ok, c1, c2⟩ := un_both op a ha W
  obtain ⟨s, c3, c4⟩ := sign_both op W
  have H1 := Lib.hid c1
  have H2 := Lib.hid c2
  have H3 := Lib.hid c3
  have H4 := Lib.hid c4
  clear c1 c2 c3 c4
  go_enter Tryd.func4, Tryd.ntmps4
  go_wp2_with fail
  refine H1.out.mono ?_
  rintro e w' ⟨rfl, rfl⟩
  go_wp2_with fail
  refine H2.out.mono ?_
  rintro e w' ⟨rfl, rfl⟩
  go_wp2_with fail
  refine H3.out.mono ?_
  rintro e w' ⟨rfl, rfl⟩
  go_wp2_with fail
  refine H4.out.mono ?_
  rintro e w' ⟨rfl, rfl⟩
  go_wp2_with fail
  refine (lives_true _).mono ?_
  rintro e w1 ⟨rfl, hB⟩
  go_wp2
  go_ret
  exact ⟨rfl, hB⟩
end WordUns

theorem wordUns_walk (a0 a1 : Int) (W : World) (_w0 : (Lit.int .i64 a0).wf = true) (w1 : (Lit.int .i32 a1).wf = true) (_hL : laidMetH Tryd.prog Rows.wordUnsRow.laid W) :
    Calls Tryd.prog 4 #[.int .i64 a0, .int .i32 a1] W fun e w' => e = .returned (.bool true) ∧ Below W.heap.size W w' :=
  WordUns.walk a0 a1 (bounds_i32 w1) W
end Go.Proofs.YthgkkgjnealkbaaDoor
