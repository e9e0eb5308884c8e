/-
  Contracts of package code's seen, register and num.
-/
import Derived.Test.YtonkpojoniehlaaDoorKmc
import Derived.Lib.Hide
namespace Go.Proofs.YtonkpojoniehlaaDoor
open Go.RowKit
set_option linter.unusedVariables false
set_option linter.unusedSimpArgs false
set_option maxRecDepth 100000
theorem cutI (w k b : Nat) : ((cutN w k b : Nat) : Int) = (w : Int) / 2 ^ k % 2 ^ b := by simp [cutN]
theorem or_add (x c k : Nat) (K : Int) (hK : ((2 ^ k : Nat) : Int) = K) (hx : x < 2 ^ k) (hk : x < 4294967296) (hc : c * 2 ^ k < 4294967296) : bits .or .u32 (x : Int) ((c : Int) * K % 4294967296) = ((x + c * 2 ^ k : Nat) : Int) := by
  rw [or_up x c k K hK hk hc]
  congr 1
  rw [Nat.or_comm, Nat.mul_comm, ← Nat.two_pow_add_eq_or_of_lt hx, Nat.add_comm]
theorem or_zero0 (c : Nat) (hc : c < 4294967296) : bits .or .u32 0 ((c : Int) % 4294967296) = (c : Int) := by
  have h := or_up0 c 0 1 (by simp) (by simpa using hc)
  simpa using h
theorem sign12 (x : Nat) (h : x < 4096) : wrap32 ((x : Int) * 1048576 % 4294967296) / 1048576 = sxN 12 x := by
  symm
  apply sx_is
  unfold wrap32
  omega
theorem sign13 (x : Nat) (h : x < 8192) : wrap32 ((x : Int) * 524288 % 4294967296) / 524288 = sxN 13 x := by
  symm
  apply sx_is
  unfold wrap32
  omega
theorem sign21 (x : Nat) (h : x < 2097152) : wrap32 ((x : Int) * 2048 % 4294967296) / 2048 = sxN 21 x := by
  symm
  apply sx_is
  unfold wrap32
  omega
theorem register_any (w k : Nat) (hw : w < 4294967296) (hk : k < 32) (W : World) :
    Calls Tryd.prog 51 #[.int .u32 w, .int .i64 k] W fun e w' => e = .returned (.int .i64 (cutN w k 5 : Nat)) ∧ ∃ n, w' = W.drewN n := by
  have H := Lib.hid (cut_any w k 5 hw hk (by decide))
  have hc := cut_lt w k 5
  have hc' : ((cutN w k 5 : Nat) : Int) < 32 := by omega
  go_enter Tryd.func51, Tryd.ntmps51
  go_wp2_with fail
  refine (H.out _).mono ?_
  rintro e w' ⟨rfl, m, rfl⟩
  go_wp2
  go_ret
  exact ⟨rfl, _, rfl⟩

theorem seen_0 (w : Nat) (hw : w < 4294967296) (W : World) :
    Calls Tryd.prog 30 #[.int .i64 0, .int .u32 w] W fun e w' => e = .returned (.agg #[.int .u32 ((w % 128 : Nat) : Int), .int .u32 0, .int .u32 0]) ∧ Below W.heap.size W w' := by
  have e1 : ((cutN w 12 3 : Nat) : Int) = (w : Int) / 4096 % 8 := cutI w 12 3
  have e2 : ((cutN w 25 7 : Nat) : Int) = (w : Int) / 33554432 := by rw [cutI]; omega
  have hw' : (w : Int) < 4294967296 := by omega
  go_enter Tryd.func30, Tryd.ntmps30
  go_wp2
  exact bodyPost_ret (v := .agg #[.int .u32 ((w % 128 : Nat) : Int), .int .u32 0, .int .u32 0]) (by simp [results, Tryd.results30, go_sem, e1, e2]) rfl ⟨rfl, by
    repeat (first | exact Below.refl _ _ | refine Below.setCell ?_ ?_ _ | refine Below.alloc ?_ (by (try simp) <;> omega) _)⟩

theorem seen_1 (w : Nat) (hw : w < 4294967296) (W : World) :
    Calls Tryd.prog 30 #[.int .i64 1, .int .u32 w] W fun e w' => e = .returned (.agg #[.int .u32 ((w % 128 : Nat) : Int), .int .u32 ((cutN w 12 3 : Nat) : Int), .int .u32 ((cutN w 25 7 : Nat) : Int)]) ∧ Below W.heap.size W w' := by
  have e1 : ((cutN w 12 3 : Nat) : Int) = (w : Int) / 4096 % 8 := cutI w 12 3
  have e2 : ((cutN w 25 7 : Nat) : Int) = (w : Int) / 33554432 := by rw [cutI]; omega
  have hw' : (w : Int) < 4294967296 := by omega
  go_enter Tryd.func30, Tryd.ntmps30
  go_wp2
  exact bodyPost_ret (v := .agg #[.int .u32 ((w % 128 : Nat) : Int), .int .u32 ((cutN w 12 3 : Nat) : Int), .int .u32 ((cutN w 25 7 : Nat) : Int)]) (by simp [results, Tryd.results30, go_sem, e1, e2]) rfl ⟨rfl, by
    repeat (first | exact Below.refl _ _ | refine Below.setCell ?_ ?_ _ | refine Below.alloc ?_ (by (try simp) <;> omega) _)⟩

theorem seen_2 (w : Nat) (hw : w < 4294967296) (W : World) :
    Calls Tryd.prog 30 #[.int .i64 2, .int .u32 w] W fun e w' => e = .returned (.agg #[.int .u32 ((w % 128 : Nat) : Int), .int .u32 ((cutN w 12 3 : Nat) : Int), .int .u32 ((cutN w 25 7 : Nat) : Int)]) ∧ Below W.heap.size W w' := by
  have e1 : ((cutN w 12 3 : Nat) : Int) = (w : Int) / 4096 % 8 := cutI w 12 3
  have e2 : ((cutN w 25 7 : Nat) : Int) = (w : Int) / 33554432 := by rw [cutI]; omega
  have hw' : (w : Int) < 4294967296 := by omega
  go_enter Tryd.func30, Tryd.ntmps30
  go_wp2
  exact bodyPost_ret (v := .agg #[.int .u32 ((w % 128 : Nat) : Int), .int .u32 ((cutN w 12 3 : Nat) : Int), .int .u32 ((cutN w 25 7 : Nat) : Int)]) (by simp [results, Tryd.results30, go_sem, e1, e2]) rfl ⟨rfl, by
    repeat (first | exact Below.refl _ _ | refine Below.setCell ?_ ?_ _ | refine Below.alloc ?_ (by (try simp) <;> omega) _)⟩

theorem seen_3 (w : Nat) (hw : w < 4294967296) (W : World) :
    Calls Tryd.prog 30 #[.int .i64 3, .int .u32 w] W fun e w' => e = .returned (.agg #[.int .u32 ((w % 128 : Nat) : Int), .int .u32 ((cutN w 12 3 : Nat) : Int), .int .u32 0]) ∧ Below W.heap.size W w' := by
  have e1 : ((cutN w 12 3 : Nat) : Int) = (w : Int) / 4096 % 8 := cutI w 12 3
  have e2 : ((cutN w 25 7 : Nat) : Int) = (w : Int) / 33554432 := by rw [cutI]; omega
  have hw' : (w : Int) < 4294967296 := by omega
  go_enter Tryd.func30, Tryd.ntmps30
  go_wp2
  exact bodyPost_ret (v := .agg #[.int .u32 ((w % 128 : Nat) : Int), .int .u32 ((cutN w 12 3 : Nat) : Int), .int .u32 0]) (by simp [results, Tryd.results30, go_sem, e1, e2]) rfl ⟨rfl, by
    repeat (first | exact Below.refl _ _ | refine Below.setCell ?_ ?_ _ | refine Below.alloc ?_ (by (try simp) <;> omega) _)⟩

theorem seen_4 (w : Nat) (hw : w < 4294967296) (W : World) :
    Calls Tryd.prog 30 #[.int .i64 4, .int .u32 w] W fun e w' => e = .returned (.agg #[.int .u32 ((w % 128 : Nat) : Int), .int .u32 ((cutN w 12 3 : Nat) : Int), .int .u32 ((cutN w 25 7 : Nat) : Int)]) ∧ Below W.heap.size W w' := by
  have e1 : ((cutN w 12 3 : Nat) : Int) = (w : Int) / 4096 % 8 := cutI w 12 3
  have e2 : ((cutN w 25 7 : Nat) : Int) = (w : Int) / 33554432 := by rw [cutI]; omega
  have hw' : (w : Int) < 4294967296 := by omega
  go_enter Tryd.func30, Tryd.ntmps30
  go_wp2
  exact bodyPost_ret (v := .agg #[.int .u32 ((w % 128 : Nat) : Int), .int .u32 ((cutN w 12 3 : Nat) : Int), .int .u32 ((cutN w 25 7 : Nat) : Int)]) (by simp [results, Tryd.results30, go_sem, e1, e2]) rfl ⟨rfl, by
    repeat (first | exact Below.refl _ _ | refine Below.setCell ?_ ?_ _ | refine Below.alloc ?_ (by (try simp) <;> omega) _)⟩

theorem seen_5 (w : Nat) (hw : w < 4294967296) (W : World) :
    Calls Tryd.prog 30 #[.int .i64 5, .int .u32 w] W fun e w' => e = .returned (.agg #[.int .u32 ((w % 128 : Nat) : Int), .int .u32 ((cutN w 12 3 : Nat) : Int), .int .u32 0]) ∧ Below W.heap.size W w' := by
  have e1 : ((cutN w 12 3 : Nat) : Int) = (w : Int) / 4096 % 8 := cutI w 12 3
  have e2 : ((cutN w 25 7 : Nat) : Int) = (w : Int) / 33554432 := by rw [cutI]; omega
  have hw' : (w : Int) < 4294967296 := by omega
  go_enter Tryd.func30, Tryd.ntmps30
  go_wp2
  exact bodyPost_ret (v := .agg #[.int .u32 ((w % 128 : Nat) : Int), .int .u32 ((cutN w 12 3 : Nat) : Int), .int .u32 0]) (by simp [results, Tryd.results30, go_sem, e1, e2]) rfl ⟨rfl, by
    repeat (first | exact Below.refl _ _ | refine Below.setCell ?_ ?_ _ | refine Below.alloc ?_ (by (try simp) <;> omega) _)⟩

theorem seen_6 (w : Nat) (hw : w < 4294967296) (W : World) :
    Calls Tryd.prog 30 #[.int .i64 6, .int .u32 w] W fun e w' => e = .returned (.agg #[.int .u32 ((w % 128 : Nat) : Int), .int .u32 ((cutN w 12 3 : Nat) : Int), .int .u32 0]) ∧ Below W.heap.size W w' := by
  have e1 : ((cutN w 12 3 : Nat) : Int) = (w : Int) / 4096 % 8 := cutI w 12 3
  have e2 : ((cutN w 25 7 : Nat) : Int) = (w : Int) / 33554432 := by rw [cutI]; omega
  have hw' : (w : Int) < 4294967296 := by omega
  go_enter Tryd.func30, Tryd.ntmps30
  go_wp2
  exact bodyPost_ret (v := .agg #[.int .u32 ((w % 128 : Nat) : Int), .int .u32 ((cutN w 12 3 : Nat) : Int), .int .u32 0]) (by simp [results, Tryd.results30, go_sem, e1, e2]) rfl ⟨rfl, by
    repeat (first | exact Below.refl _ _ | refine Below.setCell ?_ ?_ _ | refine Below.alloc ?_ (by (try simp) <;> omega) _)⟩

theorem seen_7 (w : Nat) (hw : w < 4294967296) (W : World) :
    Calls Tryd.prog 30 #[.int .i64 7, .int .u32 w] W fun e w' => e = .returned (.agg #[.int .u32 ((w % 128 : Nat) : Int), .int .u32 0, .int .u32 0]) ∧ Below W.heap.size W w' := by
  have e1 : ((cutN w 12 3 : Nat) : Int) = (w : Int) / 4096 % 8 := cutI w 12 3
  have e2 : ((cutN w 25 7 : Nat) : Int) = (w : Int) / 33554432 := by rw [cutI]; omega
  have hw' : (w : Int) < 4294967296 := by omega
  go_enter Tryd.func30, Tryd.ntmps30
  go_wp2
  exact bodyPost_ret (v := .agg #[.int .u32 ((w % 128 : Nat) : Int), .int .u32 0, .int .u32 0]) (by simp [results, Tryd.results30, go_sem, e1, e2]) rfl ⟨rfl, by
    repeat (first | exact Below.refl _ _ | refine Below.setCell ?_ ?_ _ | refine Below.alloc ?_ (by (try simp) <;> omega) _)⟩

theorem seen_8 (w : Nat) (hw : w < 4294967296) (W : World) :
    Calls Tryd.prog 30 #[.int .i64 8, .int .u32 w] W fun e w' => e = .returned (.agg #[.int .u32 ((w % 128 : Nat) : Int), .int .u32 0, .int .u32 0]) ∧ Below W.heap.size W w' := by
  have e1 : ((cutN w 12 3 : Nat) : Int) = (w : Int) / 4096 % 8 := cutI w 12 3
  have e2 : ((cutN w 25 7 : Nat) : Int) = (w : Int) / 33554432 := by rw [cutI]; omega
  have hw' : (w : Int) < 4294967296 := by omega
  go_enter Tryd.func30, Tryd.ntmps30
  go_wp2
  exact bodyPost_ret (v := .agg #[.int .u32 ((w % 128 : Nat) : Int), .int .u32 0, .int .u32 0]) (by simp [results, Tryd.results30, go_sem, e1, e2]) rfl ⟨rfl, by
    repeat (first | exact Below.refl _ _ | refine Below.setCell ?_ ?_ _ | refine Below.alloc ?_ (by (try simp) <;> omega) _)⟩

set_option maxHeartbeats 1600000 in
theorem num_any0 (w : Nat) (hw : w < 4294967296) (W : World) :
    Calls Tryd.prog 50 #[.int .i64 0, .int .u32 w] W fun e w' => e = .returned (.int .i32 (numN 0 w)) ∧ Below W.heap.size W w' := by
  have HC := Lib.hid (fun k b hk hb => cut_any w k b hw hk hb)
  go_enter Tryd.func50, Tryd.ntmps50
  go_wp2_with (go_at_call 47; refine (laid_0i _).mono ?_; rintro e w' ⟨rfl, rfl⟩)
  refine wp_loop_rounds 1 ?_
  rw [rounds_succ]
  go_wp2
  go_ret
  refine ⟨rfl, ?_⟩
  repeat (first | exact Below.refl _ _ | refine below_drewN ?_ _ | refine Below.alloc ?_ (by (try simp) <;> omega) _)

set_option maxHeartbeats 1600000 in
theorem num_any1 (w : Nat) (hw : w < 4294967296) (W : World) :
    Calls Tryd.prog 50 #[.int .i64 1, .int .u32 w] W fun e w' => e = .returned (.int .i32 (numN 1 w)) ∧ Below W.heap.size W w' := by
  have HC := Lib.hid (fun k b hk hb => cut_any w k b hw hk hb)
  go_enter Tryd.func50, Tryd.ntmps50
  go_wp2_with (go_at_call 47; refine (laid_1i _).mono ?_; rintro e w' ⟨rfl, rfl⟩)
  refine wp_loop_rounds 1 ?_
  rw [rounds_succ]
  go_wp2
  go_ret
  refine ⟨rfl, ?_⟩
  repeat (first | exact Below.refl _ _ | refine below_drewN ?_ _ | refine Below.alloc ?_ (by (try simp) <;> omega) _)

set_option maxHeartbeats 1600000 in
theorem num_any2 (w : Nat) (hw : w < 4294967296) (W : World) :
    Calls Tryd.prog 50 #[.int .i64 2, .int .u32 w] W fun e w' => e = .returned (.int .i32 (numN 2 w)) ∧ Below W.heap.size W w' := by
  have HC := Lib.hid (fun k b hk hb => cut_any w k b hw hk hb)
  go_enter Tryd.func50, Tryd.ntmps50
  go_wp2_with (go_at_call 47; refine (laid_2i _).mono ?_; rintro e w' ⟨rfl, rfl⟩)
  refine wp_loop_rounds 1 ?_
  rw [rounds_succ]
  go_wp2
  go_ret
  refine ⟨rfl, ?_⟩
  repeat (first | exact Below.refl _ _ | refine below_drewN ?_ _ | refine Below.alloc ?_ (by (try simp) <;> omega) _)

theorem numE_3 (w : Nat) : wrap32 (bits .or .u32 (0) (((cutN w 20 12 : Nat) : Int) % 4294967296) * 1048576 % 4294967296) / 1048576 = numN 3 w := by
  have c0 := cut_lt w 20 12
  have hN : numN 3 w = sxN 12 (cutN w 20 12) := by rfl
  rw [hN]
  generalize cutN w 20 12 = x0 at *
  clear hN
  rw [or_zero0 x0 (by omega)]
  rw [sign12 _ (by omega)]
set_option maxHeartbeats 1600000 in
theorem num_any3 (w : Nat) (hw : w < 4294967296) (W : World) :
    Calls Tryd.prog 50 #[.int .i64 3, .int .u32 w] W fun e w' => e = .returned (.int .i32 (numN 3 w)) ∧ Below W.heap.size W w' := by
  have HC := Lib.hid (fun k b hk hb => cut_any w k b hw hk hb)
  go_enter Tryd.func50, Tryd.ntmps50
  go_wp2_with (go_at_call 47; refine (pieces_3 _).mono ?_; rintro e w' ⟨rfl, rfl⟩)
  refine wp_loop_rounds 2 ?_
  rw [rounds_succ]
  go_wp2_with fail
  go_big_quiet ((go_at_call 48; with_reducible exact Calls.quiet_of (HC.out _ _ (by decide) (by decide) _)))
  go_wp2_with fail
  rw [rounds_succ]
  go_wp2
  go_ret
  refine ⟨by rw [← numE_3 w]; rfl, ?_⟩
  repeat (first | exact Below.refl _ _ | refine below_drewN ?_ _ | refine Below.alloc ?_ (by (try simp) <;> omega) _)

theorem numE_4 (w : Nat) : wrap32 (bits .or .u32 (0) (((cutN w 20 5 : Nat) : Int) % 4294967296)) = numN 4 w := by
  have c0 := cut_lt w 20 5
  have hN : numN 4 w = ((cutN w 20 5 : Nat) : Int) := by rfl
  rw [hN]
  generalize cutN w 20 5 = x0 at *
  clear hN
  rw [or_zero0 x0 (by omega)]
  unfold wrap32
  omega
set_option maxHeartbeats 1600000 in
theorem num_any4 (w : Nat) (hw : w < 4294967296) (W : World) :
    Calls Tryd.prog 50 #[.int .i64 4, .int .u32 w] W fun e w' => e = .returned (.int .i32 (numN 4 w)) ∧ Below W.heap.size W w' := by
  have HC := Lib.hid (fun k b hk hb => cut_any w k b hw hk hb)
  go_enter Tryd.func50, Tryd.ntmps50
  go_wp2_with (go_at_call 47; refine (pieces_4 _).mono ?_; rintro e w' ⟨rfl, rfl⟩)
  refine wp_loop_rounds 2 ?_
  rw [rounds_succ]
  go_wp2_with fail
  go_big_quiet ((go_at_call 48; with_reducible exact Calls.quiet_of (HC.out _ _ (by decide) (by decide) _)))
  go_wp2_with fail
  rw [rounds_succ]
  go_wp2
  go_ret
  refine ⟨by rw [← numE_4 w]; rfl, ?_⟩
  repeat (first | exact Below.refl _ _ | refine below_drewN ?_ _ | refine Below.alloc ?_ (by (try simp) <;> omega) _)

theorem numE_5 (w : Nat) : wrap32 (bits .or .u32 (bits .or .u32 (0) (((cutN w 7 5 : Nat) : Int) % 4294967296)) (((cutN w 25 7 : Nat) : Int) * 32 % 4294967296) * 1048576 % 4294967296) / 1048576 = numN 5 w := by
  have c0 := cut_lt w 7 5
  have c1 := cut_lt w 25 7
  have hN : numN 5 w = sxN 12 (cutN w 7 5 + cutN w 25 7 * 32) := by rfl
  rw [hN]
  generalize cutN w 7 5 = x0 at *
  generalize cutN w 25 7 = x1 at *
  clear hN
  rw [or_zero0 x0 (by omega), or_add (x0) x1 5 32 (by simp) (by omega) (by omega) (by omega)]
  rw [sign12 _ (by omega)]
set_option maxHeartbeats 1600000 in
theorem num_any5 (w : Nat) (hw : w < 4294967296) (W : World) :
    Calls Tryd.prog 50 #[.int .i64 5, .int .u32 w] W fun e w' => e = .returned (.int .i32 (numN 5 w)) ∧ Below W.heap.size W w' := by
  have HC := Lib.hid (fun k b hk hb => cut_any w k b hw hk hb)
  go_enter Tryd.func50, Tryd.ntmps50
  go_wp2_with (go_at_call 47; refine (pieces_5 _).mono ?_; rintro e w' ⟨rfl, rfl⟩)
  refine wp_loop_rounds 3 ?_
  rw [rounds_succ]
  go_wp2_with fail
  go_big_quiet ((go_at_call 48; with_reducible exact Calls.quiet_of (HC.out _ _ (by decide) (by decide) _)))
  go_wp2_with fail
  rw [rounds_succ]
  go_wp2_with fail
  go_big_quiet ((go_at_call 48; with_reducible exact Calls.quiet_of (HC.out _ _ (by decide) (by decide) _)))
  go_wp2_with fail
  rw [rounds_succ]
  go_wp2
  go_ret
  refine ⟨by rw [← numE_5 w]; rfl, ?_⟩
  repeat (first | exact Below.refl _ _ | refine below_drewN ?_ _ | refine Below.alloc ?_ (by (try simp) <;> omega) _)

theorem numE_6 (w : Nat) : wrap32 (bits .or .u32 (bits .or .u32 (bits .or .u32 (bits .or .u32 (0) (((cutN w 8 4 : Nat) : Int) * 2 % 4294967296)) (((cutN w 25 6 : Nat) : Int) * 32 % 4294967296)) (((cutN w 7 1 : Nat) : Int) * 2048 % 4294967296)) (((cutN w 31 1 : Nat) : Int) * 4096 % 4294967296) * 524288 % 4294967296) / 524288 = numN 6 w := by
  have c0 := cut_lt w 8 4
  have c1 := cut_lt w 25 6
  have c2 := cut_lt w 7 1
  have c3 := cut_lt w 31 1
  have hN : numN 6 w = sxN 13 (cutN w 8 4 * 2 + cutN w 25 6 * 32 + cutN w 7 1 * 2048 + cutN w 31 1 * 4096) := by rfl
  rw [hN]
  generalize cutN w 8 4 = x0 at *
  generalize cutN w 25 6 = x1 at *
  generalize cutN w 7 1 = x2 at *
  generalize cutN w 31 1 = x3 at *
  clear hN
  rw [or_up0 x0 1 2 (by simp) (by omega), or_add (x0 * 2 ^ 1) x1 5 32 (by simp) (by omega) (by omega) (by omega), or_add (x0 * 2 ^ 1 + x1 * 2 ^ 5) x2 11 2048 (by simp) (by omega) (by omega) (by omega), or_add (x0 * 2 ^ 1 + x1 * 2 ^ 5 + x2 * 2 ^ 11) x3 12 4096 (by simp) (by omega) (by omega) (by omega)]
  rw [sign13 _ (by omega)]
set_option maxHeartbeats 1600000 in
theorem num_any6 (w : Nat) (hw : w < 4294967296) (W : World) :
    Calls Tryd.prog 50 #[.int .i64 6, .int .u32 w] W fun e w' => e = .returned (.int .i32 (numN 6 w)) ∧ Below W.heap.size W w' := by
  have HC := Lib.hid (fun k b hk hb => cut_any w k b hw hk hb)
  go_enter Tryd.func50, Tryd.ntmps50
  go_wp2_with (go_at_call 47; refine (pieces_6 _).mono ?_; rintro e w' ⟨rfl, rfl⟩)
  refine wp_loop_rounds 5 ?_
  rw [rounds_succ]
  go_wp2_with fail
  go_big_quiet ((go_at_call 48; with_reducible exact Calls.quiet_of (HC.out _ _ (by decide) (by decide) _)))
  go_wp2_with fail
  rw [rounds_succ]
  go_wp2_with fail
  go_big_quiet ((go_at_call 48; with_reducible exact Calls.quiet_of (HC.out _ _ (by decide) (by decide) _)))
  go_wp2_with fail
  rw [rounds_succ]
  go_wp2_with fail
  go_big_quiet ((go_at_call 48; with_reducible exact Calls.quiet_of (HC.out _ _ (by decide) (by decide) _)))
  go_wp2_with fail
  rw [rounds_succ]
  go_wp2_with fail
  go_big_quiet ((go_at_call 48; with_reducible exact Calls.quiet_of (HC.out _ _ (by decide) (by decide) _)))
  go_wp2_with fail
  rw [rounds_succ]
  go_wp2
  go_ret
  refine ⟨by rw [← numE_6 w]; rfl, ?_⟩
  repeat (first | exact Below.refl _ _ | refine below_drewN ?_ _ | refine Below.alloc ?_ (by (try simp) <;> omega) _)

theorem numE_7 (w : Nat) : wrap32 (bits .or .u32 (0) (((cutN w 12 20 : Nat) : Int) % 4294967296)) = numN 7 w := by
  have c0 := cut_lt w 12 20
  have hN : numN 7 w = ((cutN w 12 20 : Nat) : Int) := by rfl
  rw [hN]
  generalize cutN w 12 20 = x0 at *
  clear hN
  rw [or_zero0 x0 (by omega)]
  unfold wrap32
  omega
set_option maxHeartbeats 1600000 in
theorem num_any7 (w : Nat) (hw : w < 4294967296) (W : World) :
    Calls Tryd.prog 50 #[.int .i64 7, .int .u32 w] W fun e w' => e = .returned (.int .i32 (numN 7 w)) ∧ Below W.heap.size W w' := by
  have HC := Lib.hid (fun k b hk hb => cut_any w k b hw hk hb)
  go_enter Tryd.func50, Tryd.ntmps50
  go_wp2_with (go_at_call 47; refine (pieces_7 _).mono ?_; rintro e w' ⟨rfl, rfl⟩)
  refine wp_loop_rounds 2 ?_
  rw [rounds_succ]
  go_wp2_with fail
  go_big_quiet ((go_at_call 48; with_reducible exact Calls.quiet_of (HC.out _ _ (by decide) (by decide) _)))
  go_wp2_with fail
  rw [rounds_succ]
  go_wp2
  go_ret
  refine ⟨by rw [← numE_7 w]; rfl, ?_⟩
  repeat (first | exact Below.refl _ _ | refine below_drewN ?_ _ | refine Below.alloc ?_ (by (try simp) <;> omega) _)

theorem numE_8 (w : Nat) : wrap32 (bits .or .u32 (bits .or .u32 (bits .or .u32 (bits .or .u32 (0) (((cutN w 21 10 : Nat) : Int) * 2 % 4294967296)) (((cutN w 20 1 : Nat) : Int) * 2048 % 4294967296)) (((cutN w 12 8 : Nat) : Int) * 4096 % 4294967296)) (((cutN w 31 1 : Nat) : Int) * 1048576 % 4294967296) * 2048 % 4294967296) / 2048 = numN 8 w := by
  have c0 := cut_lt w 21 10
  have c1 := cut_lt w 20 1
  have c2 := cut_lt w 12 8
  have c3 := cut_lt w 31 1
  have hN : numN 8 w = sxN 21 (cutN w 21 10 * 2 + cutN w 20 1 * 2048 + cutN w 12 8 * 4096 + cutN w 31 1 * 1048576) := by rfl
  rw [hN]
  generalize cutN w 21 10 = x0 at *
  generalize cutN w 20 1 = x1 at *
  generalize cutN w 12 8 = x2 at *
  generalize cutN w 31 1 = x3 at *
  clear hN
  rw [or_up0 x0 1 2 (by simp) (by omega), or_add (x0 * 2 ^ 1) x1 11 2048 (by simp) (by omega) (by omega) (by omega), or_add (x0 * 2 ^ 1 + x1 * 2 ^ 11) x2 12 4096 (by simp) (by omega) (by omega) (by omega), or_add (x0 * 2 ^ 1 + x1 * 2 ^ 11 + x2 * 2 ^ 12) x3 20 1048576 (by simp) (by omega) (by omega) (by omega)]
  rw [sign21 _ (by omega)]
set_option maxHeartbeats 1600000 in
theorem num_any8 (w : Nat) (hw : w < 4294967296) (W : World) :
    Calls Tryd.prog 50 #[.int .i64 8, .int .u32 w] W fun e w' => e = .returned (.int .i32 (numN 8 w)) ∧ Below W.heap.size W w' := by
  have HC := Lib.hid (fun k b hk hb => cut_any w k b hw hk hb)
  go_enter Tryd.func50, Tryd.ntmps50
  go_wp2_with (go_at_call 47; refine (pieces_8 _).mono ?_; rintro e w' ⟨rfl, rfl⟩)
  refine wp_loop_rounds 5 ?_
  rw [rounds_succ]
  go_wp2_with fail
  go_big_quiet ((go_at_call 48; with_reducible exact Calls.quiet_of (HC.out _ _ (by decide) (by decide) _)))
  go_wp2_with fail
  rw [rounds_succ]
  go_wp2_with fail
  go_big_quiet ((go_at_call 48; with_reducible exact Calls.quiet_of (HC.out _ _ (by decide) (by decide) _)))
  go_wp2_with fail
  rw [rounds_succ]
  go_wp2_with fail
  go_big_quiet ((go_at_call 48; with_reducible exact Calls.quiet_of (HC.out _ _ (by decide) (by decide) _)))
  go_wp2_with fail
  rw [rounds_succ]
  go_wp2_with fail
  go_big_quiet ((go_at_call 48; with_reducible exact Calls.quiet_of (HC.out _ _ (by decide) (by decide) _)))
  go_wp2_with fail
  rw [rounds_succ]
  go_wp2
  go_ret
  refine ⟨by rw [← numE_8 w]; rfl, ?_⟩
  repeat (first | exact Below.refl _ _ | refine below_drewN ?_ _ | refine Below.alloc ?_ (by (try simp) <;> omega) _)

end Go.Proofs.YtonkpojoniehlaaDoor
