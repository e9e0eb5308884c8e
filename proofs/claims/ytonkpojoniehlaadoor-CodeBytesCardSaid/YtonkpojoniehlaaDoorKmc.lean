/-
  Contracts of package code's laid: a number's bits where they lie.
-/
import Derived.Test.YtonkpojoniehlaaDoorKmb
namespace Go.Proofs.YtonkpojoniehlaaDoor
open Go.RowKit
set_option linter.unusedVariables false
set_option linter.unusedSimpArgs false
theorem cut_n (n : Int) (k b : Nat) (hk : k < 32) (hb : b < 32) (W : World) :
    Calls Tryd.prog 48 #[.int .u32 (n % 4294967296), .int .i64 k, .int .i64 b] W fun e w' => e = .returned (.int .u32 (cutN (nat32 n) k b : Nat)) ∧ ∃ n, w' = W.drewN n := by
  have h := cut_any (nat32 n) k b (by have := nat32_cast n; omega) hk hb W
  rwa [nat32_cast] at h
theorem or_up (x c k : Nat) (K : Int) (hK : ((2 ^ k : Nat) : Int) = K) (hx : x < 4294967296) (hc : c * 2 ^ k < 4294967296) : bits .or .u32 (x : Int) ((c : Int) * K % 4294967296) = ((x ||| c * 2 ^ k : Nat) : Int) := by
  rw [up_cast c k K hK, Int.emod_eq_of_lt (by omega) (by omega), u32_or_nat _ _ hx hc]
theorem or_up0 (c k : Nat) (K : Int) (hK : ((2 ^ k : Nat) : Int) = K) (hc : c * 2 ^ k < 4294967296) : bits .or .u32 0 ((c : Int) * K % 4294967296) = ((c * 2 ^ k : Nat) : Int) := by
  have h := or_up 0 c k K hK (by decide) hc
  rw [Nat.zero_or] at h
  exact h
theorem laid_1i (W : World) :
    Calls Tryd.prog 47 #[.int .i64 1] W fun e w' => e = .returned (.slice none 0 0) ∧ w' = W := by
  go_enter Tryd.func47, Tryd.ntmps47
  go_wp2
  go_ret
  exact ⟨rfl, rfl⟩
theorem laid_2i (W : World) :
    Calls Tryd.prog 47 #[.int .i64 2] W fun e w' => e = .returned (.slice none 0 0) ∧ w' = W := by
  go_enter Tryd.func47, Tryd.ntmps47
  go_wp2
  go_ret
  exact ⟨rfl, rfl⟩
theorem laid_0i (W : World) :
    Calls Tryd.prog 47 #[.int .i64 0] W fun e w' => e = .returned (.slice none 0 0) ∧ w' = W := by
  go_enter Tryd.func47, Tryd.ntmps47
  go_wp2
  go_ret
  exact ⟨rfl, rfl⟩

theorem laid_any1 (n : Int) (W : World) :
    Calls Tryd.prog 28 #[.int .i64 1, .int .i32 n] W fun e w' => e = .returned (.int .u32 (laidN 1 (nat32 n) : Nat)) ∧ Below W.heap.size W w' := by
  rw [laid_1]
  go_enter Tryd.func28, Tryd.ntmps28
  go_wp2_with (go_at_call 47; refine (laid_1i _).mono ?_; rintro e w' ⟨rfl, rfl⟩)
  refine wp_loop_rounds 1 ?_
  rw [rounds_succ]
  go_wp2
  go_ret
  exact ⟨rfl, Below.refl _ _⟩

theorem laid_any2 (n : Int) (W : World) :
    Calls Tryd.prog 28 #[.int .i64 2, .int .i32 n] W fun e w' => e = .returned (.int .u32 (laidN 2 (nat32 n) : Nat)) ∧ Below W.heap.size W w' := by
  rw [laid_2]
  go_enter Tryd.func28, Tryd.ntmps28
  go_wp2_with (go_at_call 47; refine (laid_2i _).mono ?_; rintro e w' ⟨rfl, rfl⟩)
  refine wp_loop_rounds 1 ?_
  rw [rounds_succ]
  go_wp2
  go_ret
  exact ⟨rfl, Below.refl _ _⟩

theorem laidE_3 (n : Int) : bits .or .u32 (0) (((cutN (nat32 n) 0 12 : Nat) : Int) * 1048576 % 4294967296) = (laidN 3 (nat32 n) : Nat) := by
  rw [laid_3]
  have c0 := cut_lt (nat32 n) 0 12
  generalize cutN (nat32 n) 0 12 = x0 at *
  rw [or_up0 x0 20 1048576 (by simp) (by omega)]

set_option maxHeartbeats 1600000 in
theorem laid_any3 (n : Int) (W : World) :
    Calls Tryd.prog 28 #[.int .i64 3, .int .i32 n] W fun e w' => e = .returned (.int .u32 (laidN 3 (nat32 n) : Nat)) ∧ Below W.heap.size W w' := by
  go_enter Tryd.func28, Tryd.ntmps28
  go_wp2_with (go_at_call 47; refine (pieces_3 _).mono ?_; rintro e w' ⟨rfl, rfl⟩)
  refine wp_loop_rounds 2 ?_
  rw [rounds_succ]
  go_wp2_with fail
  go_big_quiet ((go_at_call 48; with_reducible exact Calls.quiet_of (cut_n n _ _ (by decide) (by decide) _)))
  go_wp2_with fail
  rw [rounds_succ]
  go_wp2
  go_ret
  refine ⟨by rw [← laidE_3 n]; rfl, ?_⟩
  repeat (first | exact Below.refl _ _ | refine below_drewN ?_ _ | refine Below.alloc ?_ (by (try simp) <;> omega) _)

theorem laidE_4 (n : Int) : bits .or .u32 (0) (((cutN (nat32 n) 0 5 : Nat) : Int) * 1048576 % 4294967296) = (laidN 4 (nat32 n) : Nat) := by
  rw [laid_4]
  have c0 := cut_lt (nat32 n) 0 5
  generalize cutN (nat32 n) 0 5 = x0 at *
  rw [or_up0 x0 20 1048576 (by simp) (by omega)]

set_option maxHeartbeats 1600000 in
theorem laid_any4 (n : Int) (W : World) :
    Calls Tryd.prog 28 #[.int .i64 4, .int .i32 n] W fun e w' => e = .returned (.int .u32 (laidN 4 (nat32 n) : Nat)) ∧ Below W.heap.size W w' := by
  go_enter Tryd.func28, Tryd.ntmps28
  go_wp2_with (go_at_call 47; refine (pieces_4 _).mono ?_; rintro e w' ⟨rfl, rfl⟩)
  refine wp_loop_rounds 2 ?_
  rw [rounds_succ]
  go_wp2_with fail
  go_big_quiet ((go_at_call 48; with_reducible exact Calls.quiet_of (cut_n n _ _ (by decide) (by decide) _)))
  go_wp2_with fail
  rw [rounds_succ]
  go_wp2
  go_ret
  refine ⟨by rw [← laidE_4 n]; rfl, ?_⟩
  repeat (first | exact Below.refl _ _ | refine below_drewN ?_ _ | refine Below.alloc ?_ (by (try simp) <;> omega) _)

theorem laidE_5 (n : Int) : bits .or .u32 (bits .or .u32 (0) (((cutN (nat32 n) 0 5 : Nat) : Int) * 128 % 4294967296)) (((cutN (nat32 n) 5 7 : Nat) : Int) * 33554432 % 4294967296) = (laidN 5 (nat32 n) : Nat) := by
  rw [laid_5]
  have c0 := cut_lt (nat32 n) 0 5
  generalize cutN (nat32 n) 0 5 = x0 at *
  have c1 := cut_lt (nat32 n) 5 7
  generalize cutN (nat32 n) 5 7 = x1 at *
  rw [or_up0 x0 7 128 (by simp) (by omega), or_up (x0 * 2 ^ 7) x1 25 33554432 (by simp) (by omega) (by omega)]

set_option maxHeartbeats 1600000 in
theorem laid_any5 (n : Int) (W : World) :
    Calls Tryd.prog 28 #[.int .i64 5, .int .i32 n] W fun e w' => e = .returned (.int .u32 (laidN 5 (nat32 n) : Nat)) ∧ Below W.heap.size W w' := by
  go_enter Tryd.func28, Tryd.ntmps28
  go_wp2_with (go_at_call 47; refine (pieces_5 _).mono ?_; rintro e w' ⟨rfl, rfl⟩)
  refine wp_loop_rounds 3 ?_
  rw [rounds_succ]
  go_wp2_with fail
  go_big_quiet ((go_at_call 48; with_reducible exact Calls.quiet_of (cut_n n _ _ (by decide) (by decide) _)))
  go_wp2_with fail
  rw [rounds_succ]
  go_wp2_with fail
  go_big_quiet ((go_at_call 48; with_reducible exact Calls.quiet_of (cut_n n _ _ (by decide) (by decide) _)))
  go_wp2_with fail
  rw [rounds_succ]
  go_wp2
  go_ret
  refine ⟨by rw [← laidE_5 n]; rfl, ?_⟩
  repeat (first | exact Below.refl _ _ | refine below_drewN ?_ _ | refine Below.alloc ?_ (by (try simp) <;> omega) _)

theorem laidE_6 (n : Int) : bits .or .u32 (bits .or .u32 (bits .or .u32 (bits .or .u32 (0) (((cutN (nat32 n) 1 4 : Nat) : Int) * 256 % 4294967296)) (((cutN (nat32 n) 5 6 : Nat) : Int) * 33554432 % 4294967296)) (((cutN (nat32 n) 11 1 : Nat) : Int) * 128 % 4294967296)) (((cutN (nat32 n) 12 1 : Nat) : Int) * 2147483648 % 4294967296) = (laidN 6 (nat32 n) : Nat) := by
  rw [laid_6]
  have c0 := cut_lt (nat32 n) 1 4
  generalize cutN (nat32 n) 1 4 = x0 at *
  have c1 := cut_lt (nat32 n) 5 6
  generalize cutN (nat32 n) 5 6 = x1 at *
  have c2 := cut_lt (nat32 n) 11 1
  generalize cutN (nat32 n) 11 1 = x2 at *
  have c3 := cut_lt (nat32 n) 12 1
  generalize cutN (nat32 n) 12 1 = x3 at *
  rw [or_up0 x0 8 256 (by simp) (by omega), or_up (x0 * 2 ^ 8) x1 25 33554432 (by simp) (by omega) (by omega), or_up (x0 * 2 ^ 8 ||| x1 * 2 ^ 25) x2 7 128 (by simp) (or_lt _ _ (by omega) (by omega)) (by omega), or_up (x0 * 2 ^ 8 ||| x1 * 2 ^ 25 ||| x2 * 2 ^ 7) x3 31 2147483648 (by simp) (or_lt _ _ (or_lt _ _ (by omega) (by omega)) (by omega)) (by omega)]

set_option maxHeartbeats 1600000 in
theorem laid_any6 (n : Int) (W : World) :
    Calls Tryd.prog 28 #[.int .i64 6, .int .i32 n] W fun e w' => e = .returned (.int .u32 (laidN 6 (nat32 n) : Nat)) ∧ Below W.heap.size W w' := by
  go_enter Tryd.func28, Tryd.ntmps28
  go_wp2_with (go_at_call 47; refine (pieces_6 _).mono ?_; rintro e w' ⟨rfl, rfl⟩)
  refine wp_loop_rounds 5 ?_
  rw [rounds_succ]
  go_wp2_with fail
  go_big_quiet ((go_at_call 48; with_reducible exact Calls.quiet_of (cut_n n _ _ (by decide) (by decide) _)))
  go_wp2_with fail
  rw [rounds_succ]
  go_wp2_with fail
  go_big_quiet ((go_at_call 48; with_reducible exact Calls.quiet_of (cut_n n _ _ (by decide) (by decide) _)))
  go_wp2_with fail
  rw [rounds_succ]
  go_wp2_with fail
  go_big_quiet ((go_at_call 48; with_reducible exact Calls.quiet_of (cut_n n _ _ (by decide) (by decide) _)))
  go_wp2_with fail
  rw [rounds_succ]
  go_wp2_with fail
  go_big_quiet ((go_at_call 48; with_reducible exact Calls.quiet_of (cut_n n _ _ (by decide) (by decide) _)))
  go_wp2_with fail
  rw [rounds_succ]
  go_wp2
  go_ret
  refine ⟨by rw [← laidE_6 n]; rfl, ?_⟩
  repeat (first | exact Below.refl _ _ | refine below_drewN ?_ _ | refine Below.alloc ?_ (by (try simp) <;> omega) _)

theorem laidE_7 (n : Int) : bits .or .u32 (0) (((cutN (nat32 n) 0 20 : Nat) : Int) * 4096 % 4294967296) = (laidN 7 (nat32 n) : Nat) := by
  rw [laid_7]
  have c0 := cut_lt (nat32 n) 0 20
  generalize cutN (nat32 n) 0 20 = x0 at *
  rw [or_up0 x0 12 4096 (by simp) (by omega)]

set_option maxHeartbeats 1600000 in
theorem laid_any7 (n : Int) (W : World) :
    Calls Tryd.prog 28 #[.int .i64 7, .int .i32 n] W fun e w' => e = .returned (.int .u32 (laidN 7 (nat32 n) : Nat)) ∧ Below W.heap.size W w' := by
  go_enter Tryd.func28, Tryd.ntmps28
  go_wp2_with (go_at_call 47; refine (pieces_7 _).mono ?_; rintro e w' ⟨rfl, rfl⟩)
  refine wp_loop_rounds 2 ?_
  rw [rounds_succ]
  go_wp2_with fail
  go_big_quiet ((go_at_call 48; with_reducible exact Calls.quiet_of (cut_n n _ _ (by decide) (by decide) _)))
  go_wp2_with fail
  rw [rounds_succ]
  go_wp2
  go_ret
  refine ⟨by rw [← laidE_7 n]; rfl, ?_⟩
  repeat (first | exact Below.refl _ _ | refine below_drewN ?_ _ | refine Below.alloc ?_ (by (try simp) <;> omega) _)

theorem laidE_8 (n : Int) : bits .or .u32 (bits .or .u32 (bits .or .u32 (bits .or .u32 (0) (((cutN (nat32 n) 1 10 : Nat) : Int) * 2097152 % 4294967296)) (((cutN (nat32 n) 11 1 : Nat) : Int) * 1048576 % 4294967296)) (((cutN (nat32 n) 12 8 : Nat) : Int) * 4096 % 4294967296)) (((cutN (nat32 n) 20 1 : Nat) : Int) * 2147483648 % 4294967296) = (laidN 8 (nat32 n) : Nat) := by
  rw [laid_8]
  have c0 := cut_lt (nat32 n) 1 10
  generalize cutN (nat32 n) 1 10 = x0 at *
  have c1 := cut_lt (nat32 n) 11 1
  generalize cutN (nat32 n) 11 1 = x1 at *
  have c2 := cut_lt (nat32 n) 12 8
  generalize cutN (nat32 n) 12 8 = x2 at *
  have c3 := cut_lt (nat32 n) 20 1
  generalize cutN (nat32 n) 20 1 = x3 at *
  rw [or_up0 x0 21 2097152 (by simp) (by omega), or_up (x0 * 2 ^ 21) x1 20 1048576 (by simp) (by omega) (by omega), or_up (x0 * 2 ^ 21 ||| x1 * 2 ^ 20) x2 12 4096 (by simp) (or_lt _ _ (by omega) (by omega)) (by omega), or_up (x0 * 2 ^ 21 ||| x1 * 2 ^ 20 ||| x2 * 2 ^ 12) x3 31 2147483648 (by simp) (or_lt _ _ (or_lt _ _ (by omega) (by omega)) (by omega)) (by omega)]

set_option maxHeartbeats 1600000 in
theorem laid_any8 (n : Int) (W : World) :
    Calls Tryd.prog 28 #[.int .i64 8, .int .i32 n] W fun e w' => e = .returned (.int .u32 (laidN 8 (nat32 n) : Nat)) ∧ Below W.heap.size W w' := by
  go_enter Tryd.func28, Tryd.ntmps28
  go_wp2_with (go_at_call 47; refine (pieces_8 _).mono ?_; rintro e w' ⟨rfl, rfl⟩)
  refine wp_loop_rounds 5 ?_
  rw [rounds_succ]
  go_wp2_with fail
  go_big_quiet ((go_at_call 48; with_reducible exact Calls.quiet_of (cut_n n _ _ (by decide) (by decide) _)))
  go_wp2_with fail
  rw [rounds_succ]
  go_wp2_with fail
  go_big_quiet ((go_at_call 48; with_reducible exact Calls.quiet_of (cut_n n _ _ (by decide) (by decide) _)))
  go_wp2_with fail
  rw [rounds_succ]
  go_wp2_with fail
  go_big_quiet ((go_at_call 48; with_reducible exact Calls.quiet_of (cut_n n _ _ (by decide) (by decide) _)))
  go_wp2_with fail
  rw [rounds_succ]
  go_wp2_with fail
  go_big_quiet ((go_at_call 48; with_reducible exact Calls.quiet_of (cut_n n _ _ (by decide) (by decide) _)))
  go_wp2_with fail
  rw [rounds_succ]
  go_wp2
  go_ret
  refine ⟨by rw [← laidE_8 n]; rfl, ?_⟩
  repeat (first | exact Below.refl _ _ | refine below_drewN ?_ _ | refine Below.alloc ?_ (by (try simp) <;> omega) _)

end Go.Proofs.YtonkpojoniehlaaDoor
