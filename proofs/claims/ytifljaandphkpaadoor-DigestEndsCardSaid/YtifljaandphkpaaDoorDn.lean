/-
  Contracts of the functions that turn a word down: bits.RotateLeft32, digest.down, the document's down.
-/
import Derived.Test.YtifljaandphkpaaDoorSl
import Derived.Test.YtifljaandphkpaaDoorShaMath
import Derived.Deep.QuietTactic
import Derived.BigQuiet
namespace Go.Proofs.YtifljaandphkpaaDoor
open Go.RowKit

def isK (k : Nat) : Prop := k = 2 ∨ k = 6 ∨ k = 7 ∨ k = 11 ∨ k = 13 ∨ k = 17 ∨ k = 18 ∨ k = 19 ∨ k = 22 ∨ k = 25
theorem quiet_left {P : Program} {f : FuncId} {args : Array Value} {w : World} {n : Nat} {v : Value}
    (h : Calls P f args (w.drewN n) fun e w' => e = .returned v ∧ w.drewN n = w') : Calls P f args (w.drewN n) fun e w'' => e = .returned v ∧ ∃ m, w'' = w.drewN m :=
  h.mono fun _ _ ⟨he, hm⟩ => ⟨he, n, hm.symm⟩
theorem below_drewN {B : Nat} {a w : World} (h : Below B a w) (n : Nat) : Below B a (w.drewN n) := ⟨h.os, h.tape, h.output, h.size, h.block⟩
theorem or_dn (x k : Nat) (hx : x < 4294967296) : bits .or .u32 ((x / 2 ^ k : Nat) : Int) ((x * 2 ^ (32 - k) % 4294967296 : Nat) : Int) = (dn x k : Int) :=
  u32_or_nat _ _ (Nat.lt_of_le_of_lt (Nat.div_le_self _ _) hx) (Nat.mod_lt _ (by decide))
theorem or_dn' (x k : Nat) (hx : x < 4294967296) : bits .or .u32 ((x * 2 ^ (32 - k) % 4294967296 : Nat) : Int) ((x / 2 ^ k : Nat) : Int) = (dn x k : Int) := by
  rw [u32_or_nat _ _ (Nat.mod_lt _ (by decide)) (Nat.lt_of_le_of_lt (Nat.div_le_self _ _) hx), Nat.or_comm]
  rfl

theorem rot_2 (x : Nat) (hx : x < 4294967296) (w : World) :
    Calls Tryd.prog 31 #[.int .u32 x, .int .i64 (-2)] w fun e w' => e = .returned (.int .u32 (dn x 2)) ∧ w = w' := by
  have h1 : bits .and .u64 (IntKind.u64.wrap (-2)) 31 = 30 := by decide
  have h2 : bits .or .u32 ((x : Int) * 1073741824 % 4294967296) ((x : Int) / 4) = (dn x 2 : Int) := or_dn' x 2 hx
  go_enter Tryd.func31, Tryd.ntmps31
  go_wp2
  go_ret
  exact ⟨rfl, rfl⟩
theorem rotr_2 (x : Nat) (hx : x < 4294967296) (w : World) :
    Calls Tryd.prog 25 #[.int .u32 x, .int .i64 2] w fun e w' => e = .returned (.int .u32 (dn x 2)) ∧ ∃ n, w' = w.drewN n := by
  have h2 : bits .or .u32 ((x : Int) / 4) ((x : Int) * 1073741824 % 4294967296) = (dn x 2 : Int) := or_dn x 2 hx
  go_enter Tryd.func25, Tryd.ntmps25
  go_wp2
  go_quiet (fail)
  go_wp2
  go_ret
  exact ⟨rfl, _, rfl⟩

theorem rot_6 (x : Nat) (hx : x < 4294967296) (w : World) :
    Calls Tryd.prog 31 #[.int .u32 x, .int .i64 (-6)] w fun e w' => e = .returned (.int .u32 (dn x 6)) ∧ w = w' := by
  have h1 : bits .and .u64 (IntKind.u64.wrap (-6)) 31 = 26 := by decide
  have h2 : bits .or .u32 ((x : Int) * 67108864 % 4294967296) ((x : Int) / 64) = (dn x 6 : Int) := or_dn' x 6 hx
  go_enter Tryd.func31, Tryd.ntmps31
  go_wp2
  go_ret
  exact ⟨rfl, rfl⟩
theorem rotr_6 (x : Nat) (hx : x < 4294967296) (w : World) :
    Calls Tryd.prog 25 #[.int .u32 x, .int .i64 6] w fun e w' => e = .returned (.int .u32 (dn x 6)) ∧ ∃ n, w' = w.drewN n := by
  have h2 : bits .or .u32 ((x : Int) / 64) ((x : Int) * 67108864 % 4294967296) = (dn x 6 : Int) := or_dn x 6 hx
  go_enter Tryd.func25, Tryd.ntmps25
  go_wp2
  go_quiet (fail)
  go_wp2
  go_ret
  exact ⟨rfl, _, rfl⟩

theorem rot_7 (x : Nat) (hx : x < 4294967296) (w : World) :
    Calls Tryd.prog 31 #[.int .u32 x, .int .i64 (-7)] w fun e w' => e = .returned (.int .u32 (dn x 7)) ∧ w = w' := by
  have h1 : bits .and .u64 (IntKind.u64.wrap (-7)) 31 = 25 := by decide
  have h2 : bits .or .u32 ((x : Int) * 33554432 % 4294967296) ((x : Int) / 128) = (dn x 7 : Int) := or_dn' x 7 hx
  go_enter Tryd.func31, Tryd.ntmps31
  go_wp2
  go_ret
  exact ⟨rfl, rfl⟩
theorem rotr_7 (x : Nat) (hx : x < 4294967296) (w : World) :
    Calls Tryd.prog 25 #[.int .u32 x, .int .i64 7] w fun e w' => e = .returned (.int .u32 (dn x 7)) ∧ ∃ n, w' = w.drewN n := by
  have h2 : bits .or .u32 ((x : Int) / 128) ((x : Int) * 33554432 % 4294967296) = (dn x 7 : Int) := or_dn x 7 hx
  go_enter Tryd.func25, Tryd.ntmps25
  go_wp2
  go_quiet (fail)
  go_wp2
  go_ret
  exact ⟨rfl, _, rfl⟩

theorem rot_11 (x : Nat) (hx : x < 4294967296) (w : World) :
    Calls Tryd.prog 31 #[.int .u32 x, .int .i64 (-11)] w fun e w' => e = .returned (.int .u32 (dn x 11)) ∧ w = w' := by
  have h1 : bits .and .u64 (IntKind.u64.wrap (-11)) 31 = 21 := by decide
  have h2 : bits .or .u32 ((x : Int) * 2097152 % 4294967296) ((x : Int) / 2048) = (dn x 11 : Int) := or_dn' x 11 hx
  go_enter Tryd.func31, Tryd.ntmps31
  go_wp2
  go_ret
  exact ⟨rfl, rfl⟩
theorem rotr_11 (x : Nat) (hx : x < 4294967296) (w : World) :
    Calls Tryd.prog 25 #[.int .u32 x, .int .i64 11] w fun e w' => e = .returned (.int .u32 (dn x 11)) ∧ ∃ n, w' = w.drewN n := by
  have h2 : bits .or .u32 ((x : Int) / 2048) ((x : Int) * 2097152 % 4294967296) = (dn x 11 : Int) := or_dn x 11 hx
  go_enter Tryd.func25, Tryd.ntmps25
  go_wp2
  go_quiet (fail)
  go_wp2
  go_ret
  exact ⟨rfl, _, rfl⟩

theorem rot_13 (x : Nat) (hx : x < 4294967296) (w : World) :
    Calls Tryd.prog 31 #[.int .u32 x, .int .i64 (-13)] w fun e w' => e = .returned (.int .u32 (dn x 13)) ∧ w = w' := by
  have h1 : bits .and .u64 (IntKind.u64.wrap (-13)) 31 = 19 := by decide
  have h2 : bits .or .u32 ((x : Int) * 524288 % 4294967296) ((x : Int) / 8192) = (dn x 13 : Int) := or_dn' x 13 hx
  go_enter Tryd.func31, Tryd.ntmps31
  go_wp2
  go_ret
  exact ⟨rfl, rfl⟩
theorem rotr_13 (x : Nat) (hx : x < 4294967296) (w : World) :
    Calls Tryd.prog 25 #[.int .u32 x, .int .i64 13] w fun e w' => e = .returned (.int .u32 (dn x 13)) ∧ ∃ n, w' = w.drewN n := by
  have h2 : bits .or .u32 ((x : Int) / 8192) ((x : Int) * 524288 % 4294967296) = (dn x 13 : Int) := or_dn x 13 hx
  go_enter Tryd.func25, Tryd.ntmps25
  go_wp2
  go_quiet (fail)
  go_wp2
  go_ret
  exact ⟨rfl, _, rfl⟩

theorem rot_17 (x : Nat) (hx : x < 4294967296) (w : World) :
    Calls Tryd.prog 31 #[.int .u32 x, .int .i64 (-17)] w fun e w' => e = .returned (.int .u32 (dn x 17)) ∧ w = w' := by
  have h1 : bits .and .u64 (IntKind.u64.wrap (-17)) 31 = 15 := by decide
  have h2 : bits .or .u32 ((x : Int) * 32768 % 4294967296) ((x : Int) / 131072) = (dn x 17 : Int) := or_dn' x 17 hx
  go_enter Tryd.func31, Tryd.ntmps31
  go_wp2
  go_ret
  exact ⟨rfl, rfl⟩
theorem rotr_17 (x : Nat) (hx : x < 4294967296) (w : World) :
    Calls Tryd.prog 25 #[.int .u32 x, .int .i64 17] w fun e w' => e = .returned (.int .u32 (dn x 17)) ∧ ∃ n, w' = w.drewN n := by
  have h2 : bits .or .u32 ((x : Int) / 131072) ((x : Int) * 32768 % 4294967296) = (dn x 17 : Int) := or_dn x 17 hx
  go_enter Tryd.func25, Tryd.ntmps25
  go_wp2
  go_quiet (fail)
  go_wp2
  go_ret
  exact ⟨rfl, _, rfl⟩

theorem rot_18 (x : Nat) (hx : x < 4294967296) (w : World) :
    Calls Tryd.prog 31 #[.int .u32 x, .int .i64 (-18)] w fun e w' => e = .returned (.int .u32 (dn x 18)) ∧ w = w' := by
  have h1 : bits .and .u64 (IntKind.u64.wrap (-18)) 31 = 14 := by decide
  have h2 : bits .or .u32 ((x : Int) * 16384 % 4294967296) ((x : Int) / 262144) = (dn x 18 : Int) := or_dn' x 18 hx
  go_enter Tryd.func31, Tryd.ntmps31
  go_wp2
  go_ret
  exact ⟨rfl, rfl⟩
theorem rotr_18 (x : Nat) (hx : x < 4294967296) (w : World) :
    Calls Tryd.prog 25 #[.int .u32 x, .int .i64 18] w fun e w' => e = .returned (.int .u32 (dn x 18)) ∧ ∃ n, w' = w.drewN n := by
  have h2 : bits .or .u32 ((x : Int) / 262144) ((x : Int) * 16384 % 4294967296) = (dn x 18 : Int) := or_dn x 18 hx
  go_enter Tryd.func25, Tryd.ntmps25
  go_wp2
  go_quiet (fail)
  go_wp2
  go_ret
  exact ⟨rfl, _, rfl⟩

theorem rot_19 (x : Nat) (hx : x < 4294967296) (w : World) :
    Calls Tryd.prog 31 #[.int .u32 x, .int .i64 (-19)] w fun e w' => e = .returned (.int .u32 (dn x 19)) ∧ w = w' := by
  have h1 : bits .and .u64 (IntKind.u64.wrap (-19)) 31 = 13 := by decide
  have h2 : bits .or .u32 ((x : Int) * 8192 % 4294967296) ((x : Int) / 524288) = (dn x 19 : Int) := or_dn' x 19 hx
  go_enter Tryd.func31, Tryd.ntmps31
  go_wp2
  go_ret
  exact ⟨rfl, rfl⟩
theorem rotr_19 (x : Nat) (hx : x < 4294967296) (w : World) :
    Calls Tryd.prog 25 #[.int .u32 x, .int .i64 19] w fun e w' => e = .returned (.int .u32 (dn x 19)) ∧ ∃ n, w' = w.drewN n := by
  have h2 : bits .or .u32 ((x : Int) / 524288) ((x : Int) * 8192 % 4294967296) = (dn x 19 : Int) := or_dn x 19 hx
  go_enter Tryd.func25, Tryd.ntmps25
  go_wp2
  go_quiet (fail)
  go_wp2
  go_ret
  exact ⟨rfl, _, rfl⟩

theorem rot_22 (x : Nat) (hx : x < 4294967296) (w : World) :
    Calls Tryd.prog 31 #[.int .u32 x, .int .i64 (-22)] w fun e w' => e = .returned (.int .u32 (dn x 22)) ∧ w = w' := by
  have h1 : bits .and .u64 (IntKind.u64.wrap (-22)) 31 = 10 := by decide
  have h2 : bits .or .u32 ((x : Int) * 1024 % 4294967296) ((x : Int) / 4194304) = (dn x 22 : Int) := or_dn' x 22 hx
  go_enter Tryd.func31, Tryd.ntmps31
  go_wp2
  go_ret
  exact ⟨rfl, rfl⟩
theorem rotr_22 (x : Nat) (hx : x < 4294967296) (w : World) :
    Calls Tryd.prog 25 #[.int .u32 x, .int .i64 22] w fun e w' => e = .returned (.int .u32 (dn x 22)) ∧ ∃ n, w' = w.drewN n := by
  have h2 : bits .or .u32 ((x : Int) / 4194304) ((x : Int) * 1024 % 4294967296) = (dn x 22 : Int) := or_dn x 22 hx
  go_enter Tryd.func25, Tryd.ntmps25
  go_wp2
  go_quiet (fail)
  go_wp2
  go_ret
  exact ⟨rfl, _, rfl⟩

theorem rot_25 (x : Nat) (hx : x < 4294967296) (w : World) :
    Calls Tryd.prog 31 #[.int .u32 x, .int .i64 (-25)] w fun e w' => e = .returned (.int .u32 (dn x 25)) ∧ w = w' := by
  have h1 : bits .and .u64 (IntKind.u64.wrap (-25)) 31 = 7 := by decide
  have h2 : bits .or .u32 ((x : Int) * 128 % 4294967296) ((x : Int) / 33554432) = (dn x 25 : Int) := or_dn' x 25 hx
  go_enter Tryd.func31, Tryd.ntmps31
  go_wp2
  go_ret
  exact ⟨rfl, rfl⟩
theorem rotr_25 (x : Nat) (hx : x < 4294967296) (w : World) :
    Calls Tryd.prog 25 #[.int .u32 x, .int .i64 25] w fun e w' => e = .returned (.int .u32 (dn x 25)) ∧ ∃ n, w' = w.drewN n := by
  have h2 : bits .or .u32 ((x : Int) / 33554432) ((x : Int) * 128 % 4294967296) = (dn x 25 : Int) := or_dn x 25 hx
  go_enter Tryd.func25, Tryd.ntmps25
  go_wp2
  go_quiet (fail)
  go_wp2
  go_ret
  exact ⟨rfl, _, rfl⟩

theorem rot_any (x k : Nat) (hk : isK k) (hx : x < 4294967296) (w : World) :
    Calls Tryd.prog 31 #[.int .u32 x, .int .i64 (-(k : Int))] w fun e w' => e = .returned (.int .u32 (dn x k)) ∧ w = w' := by
  rcases hk with rfl | rfl | rfl | rfl | rfl | rfl | rfl | rfl | rfl | rfl
  · exact rot_2 x hx w
  · exact rot_6 x hx w
  · exact rot_7 x hx w
  · exact rot_11 x hx w
  · exact rot_13 x hx w
  · exact rot_17 x hx w
  · exact rot_18 x hx w
  · exact rot_19 x hx w
  · exact rot_22 x hx w
  · exact rot_25 x hx w
theorem rdown_any (x k : Nat) (hk : isK k) (hx : x < 4294967296) (w : World) :
    Calls Tryd.prog 25 #[.int .u32 x, .int .i64 (k : Int)] w fun e w' => e = .returned (.int .u32 (dn x k)) ∧ ∃ n, w' = w.drewN n := by
  rcases hk with rfl | rfl | rfl | rfl | rfl | rfl | rfl | rfl | rfl | rfl
  · exact rotr_2 x hx w
  · exact rotr_6 x hx w
  · exact rotr_7 x hx w
  · exact rotr_11 x hx w
  · exact rotr_13 x hx w
  · exact rotr_17 x hx w
  · exact rotr_18 x hx w
  · exact rotr_19 x hx w
  · exact rotr_22 x hx w
  · exact rotr_25 x hx w
theorem down_any (x k : Nat) (hk : isK k) (hx : x < 4294967296) (w : World) :
    Calls Tryd.prog 30 #[.int .u32 x, .int .i64 (k : Int)] w fun e w' => e = .returned (.int .u32 (dn x k)) ∧ w = w' := by
  have hk31 : k ≤ 31 := by rcases hk with rfl | rfl | rfl | rfl | rfl | rfl | rfl | rfl | rfl | rfl <;> omega
  have HK := Lib.hid hk
  clear hk
  go_enter Tryd.func30, Tryd.ntmps30
  go_wp2_with (go_at_call 31; refine (rot_any x k HK.out hx _).mono ?_; rintro e w' ⟨rfl, rfl⟩)
  go_ret
  exact ⟨rfl, rfl⟩
theorem down_2 (x : Nat) (hx : x < 4294967296) (w : World) : Calls Tryd.prog 30 #[.int .u32 x, .int .i64 2] w fun e w' => e = .returned (.int .u32 (dn x 2)) ∧ w = w' := down_any x 2 (.inl rfl) hx w
theorem down_6 (x : Nat) (hx : x < 4294967296) (w : World) : Calls Tryd.prog 30 #[.int .u32 x, .int .i64 6] w fun e w' => e = .returned (.int .u32 (dn x 6)) ∧ w = w' := down_any x 6 (.inr (.inl rfl)) hx w
theorem down_7 (x : Nat) (hx : x < 4294967296) (w : World) : Calls Tryd.prog 30 #[.int .u32 x, .int .i64 7] w fun e w' => e = .returned (.int .u32 (dn x 7)) ∧ w = w' := down_any x 7 (.inr (.inr (.inl rfl))) hx w
theorem down_11 (x : Nat) (hx : x < 4294967296) (w : World) : Calls Tryd.prog 30 #[.int .u32 x, .int .i64 11] w fun e w' => e = .returned (.int .u32 (dn x 11)) ∧ w = w' := down_any x 11 (.inr (.inr (.inr (.inl rfl)))) hx w
theorem down_13 (x : Nat) (hx : x < 4294967296) (w : World) : Calls Tryd.prog 30 #[.int .u32 x, .int .i64 13] w fun e w' => e = .returned (.int .u32 (dn x 13)) ∧ w = w' := down_any x 13 (.inr (.inr (.inr (.inr (.inl rfl))))) hx w
theorem down_17 (x : Nat) (hx : x < 4294967296) (w : World) : Calls Tryd.prog 30 #[.int .u32 x, .int .i64 17] w fun e w' => e = .returned (.int .u32 (dn x 17)) ∧ w = w' := down_any x 17 (.inr (.inr (.inr (.inr (.inr (.inl rfl)))))) hx w
theorem down_18 (x : Nat) (hx : x < 4294967296) (w : World) : Calls Tryd.prog 30 #[.int .u32 x, .int .i64 18] w fun e w' => e = .returned (.int .u32 (dn x 18)) ∧ w = w' := down_any x 18 (.inr (.inr (.inr (.inr (.inr (.inr (.inl rfl))))))) hx w
theorem down_19 (x : Nat) (hx : x < 4294967296) (w : World) : Calls Tryd.prog 30 #[.int .u32 x, .int .i64 19] w fun e w' => e = .returned (.int .u32 (dn x 19)) ∧ w = w' := down_any x 19 (.inr (.inr (.inr (.inr (.inr (.inr (.inr (.inl rfl)))))))) hx w
theorem down_22 (x : Nat) (hx : x < 4294967296) (w : World) : Calls Tryd.prog 30 #[.int .u32 x, .int .i64 22] w fun e w' => e = .returned (.int .u32 (dn x 22)) ∧ w = w' := down_any x 22 (.inr (.inr (.inr (.inr (.inr (.inr (.inr (.inr (.inl rfl))))))))) hx w
theorem down_25 (x : Nat) (hx : x < 4294967296) (w : World) : Calls Tryd.prog 30 #[.int .u32 x, .int .i64 25] w fun e w' => e = .returned (.int .u32 (dn x 25)) ∧ w = w' := down_any x 25 (.inr (.inr (.inr (.inr (.inr (.inr (.inr (.inr (.inr (rfl)))))))))) hx w
end Go.Proofs.YtifljaandphkpaaDoor
