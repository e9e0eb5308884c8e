/-
  Contracts of the functions that turn a word down: bits.RotateLeft32, digest.down, the document's down.
  A block that holds plain numbers of one kind: what is read from it, stored into it, and what leaves it alone. No function of the program in sight.
  The contract of digest.spread: a block's sixteen words, and those that they make.
  The contract of digest.tail: what is laid behind all bytes.
  The contract of digest.start: the sum of no blocks; and how the eight words are laid out as bytes.
-/
import Derived.Test.YtkjdjglknbgeaaaGreatDoorZah
import Derived.Test.YtkjdjglknbgeaaaGreatDoorZac
import Derived.Deep.QuietTactic
import Derived.BigQuiet
import Derived.Laws.Rows
import Derived.Laws.Tables
import Derived.RegionTactic
import Derived.ChangeAlike
import Derived.OwnWalk
namespace Go.Proofs.YtkjdjglknbgeaaaGreatDoor
open Go.RowKit

def isK (k : Nat) : Prop := k = 2 ∨ k = 6 ∨ k = 7 ∨ k = 11 ∨ k = 13 ∨ k = 17 ∨ k = 18 ∨ k = 19 ∨ k = 22 ∨ k = 25
theorem quiet_left {P : Program} {f : FuncId} {args : Array Value} {w : World} {n : Nat} {v : Value}
    (h : Calls P f args (w.drewN n) fun e w' => e = .returned v ∧ w.drewN n = w') : Calls P f args (w.drewN n) fun e w'' => e = .returned v ∧ ∃ m, w'' = w.drewN m :=
  h.mono fun _ _ ⟨he, hm⟩ => ⟨he, n, hm.symm⟩
theorem below_drewNS {B : Nat} {a w : World} (h : Below B a w) (n : Nat) : Below B a (w.drewN n) := ⟨h.os, h.tape, h.output, h.size, h.block⟩
theorem or_dn (x k : Nat) (hx : x < 4294967296) : bits .or .u32 ((x / 2 ^ k : Nat) : Int) ((x * 2 ^ (32 - k) % 4294967296 : Nat) : Int) = (dn x k : Int) :=
  u32_or_nat _ _ (Nat.lt_of_le_of_lt (Nat.div_le_self _ _) hx) (Nat.mod_lt _ (by decide))
theorem or_dn' (x k : Nat) (hx : x < 4294967296) : bits .or .u32 ((x * 2 ^ (32 - k) % 4294967296 : Nat) : Int) ((x / 2 ^ k : Nat) : Int) = (dn x k : Int) := by
  rw [u32_or_nat _ _ (Nat.mod_lt _ (by decide)) (Nat.lt_of_le_of_lt (Nat.div_le_self _ _) hx), Nat.or_comm]
  rfl

theorem rot_2 (x : Nat) (hx : x < 4294967296) (w : World) :
    Calls Tryz.prog 174 #[.int .u32 x, .int .i64 (-2)] w fun e w' => e = .returned (.int .u32 (dn x 2)) ∧ w = w' := by
  have h1 : bits .and .u64 (IntKind.u64.wrap (-2)) 31 = 30 := by decide
  have h2 : bits .or .u32 ((x : Int) * 1073741824 % 4294967296) ((x : Int) / 4) = (dn x 2 : Int) := or_dn' x 2 hx
  go_enter Tryz.func174, Tryz.ntmps174
  go_wp2
  go_ret
  exact ⟨rfl, rfl⟩
theorem rotr_2 (x : Nat) (hx : x < 4294967296) (w : World) :
    Calls Tryz.prog 87 #[.int .u32 x, .int .i64 2] w fun e w' => e = .returned (.int .u32 (dn x 2)) ∧ ∃ n, w' = w.drewN n := by
  have h2 : bits .or .u32 ((x : Int) / 4) ((x : Int) * 1073741824 % 4294967296) = (dn x 2 : Int) := or_dn x 2 hx
  go_enter Tryz.func87, Tryz.ntmps87
  go_wp2
  go_quiet (fail)
  go_wp2
  go_ret
  exact ⟨rfl, _, rfl⟩

theorem rot_6 (x : Nat) (hx : x < 4294967296) (w : World) :
    Calls Tryz.prog 174 #[.int .u32 x, .int .i64 (-6)] w fun e w' => e = .returned (.int .u32 (dn x 6)) ∧ w = w' := by
  have h1 : bits .and .u64 (IntKind.u64.wrap (-6)) 31 = 26 := by decide
  have h2 : bits .or .u32 ((x : Int) * 67108864 % 4294967296) ((x : Int) / 64) = (dn x 6 : Int) := or_dn' x 6 hx
  go_enter Tryz.func174, Tryz.ntmps174
  go_wp2
  go_ret
  exact ⟨rfl, rfl⟩
theorem rotr_6 (x : Nat) (hx : x < 4294967296) (w : World) :
    Calls Tryz.prog 87 #[.int .u32 x, .int .i64 6] w fun e w' => e = .returned (.int .u32 (dn x 6)) ∧ ∃ n, w' = w.drewN n := by
  have h2 : bits .or .u32 ((x : Int) / 64) ((x : Int) * 67108864 % 4294967296) = (dn x 6 : Int) := or_dn x 6 hx
  go_enter Tryz.func87, Tryz.ntmps87
  go_wp2
  go_quiet (fail)
  go_wp2
  go_ret
  exact ⟨rfl, _, rfl⟩

theorem rot_7 (x : Nat) (hx : x < 4294967296) (w : World) :
    Calls Tryz.prog 174 #[.int .u32 x, .int .i64 (-7)] w fun e w' => e = .returned (.int .u32 (dn x 7)) ∧ w = w' := by
  have h1 : bits .and .u64 (IntKind.u64.wrap (-7)) 31 = 25 := by decide
  have h2 : bits .or .u32 ((x : Int) * 33554432 % 4294967296) ((x : Int) / 128) = (dn x 7 : Int) := or_dn' x 7 hx
  go_enter Tryz.func174, Tryz.ntmps174
  go_wp2
  go_ret
  exact ⟨rfl, rfl⟩
theorem rotr_7 (x : Nat) (hx : x < 4294967296) (w : World) :
    Calls Tryz.prog 87 #[.int .u32 x, .int .i64 7] w fun e w' => e = .returned (.int .u32 (dn x 7)) ∧ ∃ n, w' = w.drewN n := by
  have h2 : bits .or .u32 ((x : Int) / 128) ((x : Int) * 33554432 % 4294967296) = (dn x 7 : Int) := or_dn x 7 hx
  go_enter Tryz.func87, Tryz.ntmps87
  go_wp2
  go_quiet (fail)
  go_wp2
  go_ret
  exact ⟨rfl, _, rfl⟩

theorem rot_11 (x : Nat) (hx : x < 4294967296) (w : World) :
    Calls Tryz.prog 174 #[.int .u32 x, .int .i64 (-11)] w fun e w' => e = .returned (.int .u32 (dn x 11)) ∧ w = w' := by
  have h1 : bits .and .u64 (IntKind.u64.wrap (-11)) 31 = 21 := by decide
  have h2 : bits .or .u32 ((x : Int) * 2097152 % 4294967296) ((x : Int) / 2048) = (dn x 11 : Int) := or_dn' x 11 hx
  go_enter Tryz.func174, Tryz.ntmps174
  go_wp2
  go_ret
  exact ⟨rfl, rfl⟩
theorem rotr_11 (x : Nat) (hx : x < 4294967296) (w : World) :
    Calls Tryz.prog 87 #[.int .u32 x, .int .i64 11] w fun e w' => e = .returned (.int .u32 (dn x 11)) ∧ ∃ n, w' = w.drewN n := by
  have h2 : bits .or .u32 ((x : Int) / 2048) ((x : Int) * 2097152 % 4294967296) = (dn x 11 : Int) := or_dn x 11 hx
  go_enter Tryz.func87, Tryz.ntmps87
  go_wp2
  go_quiet (fail)
  go_wp2
  go_ret
  exact ⟨rfl, _, rfl⟩

theorem rot_13 (x : Nat) (hx : x < 4294967296) (w : World) :
    Calls Tryz.prog 174 #[.int .u32 x, .int .i64 (-13)] w fun e w' => e = .returned (.int .u32 (dn x 13)) ∧ w = w' := by
  have h1 : bits .and .u64 (IntKind.u64.wrap (-13)) 31 = 19 := by decide
  have h2 : bits .or .u32 ((x : Int) * 524288 % 4294967296) ((x : Int) / 8192) = (dn x 13 : Int) := or_dn' x 13 hx
  go_enter Tryz.func174, Tryz.ntmps174
  go_wp2
  go_ret
  exact ⟨rfl, rfl⟩
theorem rotr_13 (x : Nat) (hx : x < 4294967296) (w : World) :
    Calls Tryz.prog 87 #[.int .u32 x, .int .i64 13] w fun e w' => e = .returned (.int .u32 (dn x 13)) ∧ ∃ n, w' = w.drewN n := by
  have h2 : bits .or .u32 ((x : Int) / 8192) ((x : Int) * 524288 % 4294967296) = (dn x 13 : Int) := or_dn x 13 hx
  go_enter Tryz.func87, Tryz.ntmps87
  go_wp2
  go_quiet (fail)
  go_wp2
  go_ret
  exact ⟨rfl, _, rfl⟩

theorem rot_17 (x : Nat) (hx : x < 4294967296) (w : World) :
    Calls Tryz.prog 174 #[.int .u32 x, .int .i64 (-17)] w fun e w' => e = .returned (.int .u32 (dn x 17)) ∧ w = w' := by
  have h1 : bits .and .u64 (IntKind.u64.wrap (-17)) 31 = 15 := by decide
  have h2 : bits .or .u32 ((x : Int) * 32768 % 4294967296) ((x : Int) / 131072) = (dn x 17 : Int) := or_dn' x 17 hx
  go_enter Tryz.func174, Tryz.ntmps174
  go_wp2
  go_ret
  exact ⟨rfl, rfl⟩
theorem rotr_17 (x : Nat) (hx : x < 4294967296) (w : World) :
    Calls Tryz.prog 87 #[.int .u32 x, .int .i64 17] w fun e w' => e = .returned (.int .u32 (dn x 17)) ∧ ∃ n, w' = w.drewN n := by
  have h2 : bits .or .u32 ((x : Int) / 131072) ((x : Int) * 32768 % 4294967296) = (dn x 17 : Int) := or_dn x 17 hx
  go_enter Tryz.func87, Tryz.ntmps87
  go_wp2
  go_quiet (fail)
  go_wp2
  go_ret
  exact ⟨rfl, _, rfl⟩

theorem rot_18 (x : Nat) (hx : x < 4294967296) (w : World) :
    Calls Tryz.prog 174 #[.int .u32 x, .int .i64 (-18)] w fun e w' => e = .returned (.int .u32 (dn x 18)) ∧ w = w' := by
  have h1 : bits .and .u64 (IntKind.u64.wrap (-18)) 31 = 14 := by decide
  have h2 : bits .or .u32 ((x : Int) * 16384 % 4294967296) ((x : Int) / 262144) = (dn x 18 : Int) := or_dn' x 18 hx
  go_enter Tryz.func174, Tryz.ntmps174
  go_wp2
  go_ret
  exact ⟨rfl, rfl⟩
theorem rotr_18 (x : Nat) (hx : x < 4294967296) (w : World) :
    Calls Tryz.prog 87 #[.int .u32 x, .int .i64 18] w fun e w' => e = .returned (.int .u32 (dn x 18)) ∧ ∃ n, w' = w.drewN n := by
  have h2 : bits .or .u32 ((x : Int) / 262144) ((x : Int) * 16384 % 4294967296) = (dn x 18 : Int) := or_dn x 18 hx
  go_enter Tryz.func87, Tryz.ntmps87
  go_wp2
  go_quiet (fail)
  go_wp2
  go_ret
  exact ⟨rfl, _, rfl⟩

theorem rot_19 (x : Nat) (hx : x < 4294967296) (w : World) :
    Calls Tryz.prog 174 #[.int .u32 x, .int .i64 (-19)] w fun e w' => e = .returned (.int .u32 (dn x 19)) ∧ w = w' := by
  have h1 : bits .and .u64 (IntKind.u64.wrap (-19)) 31 = 13 := by decide
  have h2 : bits .or .u32 ((x : Int) * 8192 % 4294967296) ((x : Int) / 524288) = (dn x 19 : Int) := or_dn' x 19 hx
  go_enter Tryz.func174, Tryz.ntmps174
  go_wp2
  go_ret
  exact ⟨rfl, rfl⟩
theorem rotr_19 (x : Nat) (hx : x < 4294967296) (w : World) :
    Calls Tryz.prog 87 #[.int .u32 x, .int .i64 19] w fun e w' => e = .returned (.int .u32 (dn x 19)) ∧ ∃ n, w' = w.drewN n := by
  have h2 : bits .or .u32 ((x : Int) / 524288) ((x : Int) * 8192 % 4294967296) = (dn x 19 : Int) := or_dn x 19 hx
  go_enter Tryz.func87, Tryz.ntmps87
  go_wp2
  go_quiet (fail)
  go_wp2
  go_ret
  exact ⟨rfl, _, rfl⟩

theorem rot_22 (x : Nat) (hx : x < 4294967296) (w : World) :
    Calls Tryz.prog 174 #[.int .u32 x, .int .i64 (-22)] w fun e w' => e = .returned (.int .u32 (dn x 22)) ∧ w = w' := by
  have h1 : bits .and .u64 (IntKind.u64.wrap (-22)) 31 = 10 := by decide
  have h2 : bits .or .u32 ((x : Int) * 1024 % 4294967296) ((x : Int) / 4194304) = (dn x 22 : Int) := or_dn' x 22 hx
  go_enter Tryz.func174, Tryz.ntmps174
  go_wp2
  go_ret
  exact ⟨rfl, rfl⟩
theorem rotr_22 (x : Nat) (hx : x < 4294967296) (w : World) :
    Calls Tryz.prog 87 #[.int .u32 x, .int .i64 22] w fun e w' => e = .returned (.int .u32 (dn x 22)) ∧ ∃ n, w' = w.drewN n := by
  have h2 : bits .or .u32 ((x : Int) / 4194304) ((x : Int) * 1024 % 4294967296) = (dn x 22 : Int) := or_dn x 22 hx
  go_enter Tryz.func87, Tryz.ntmps87
  go_wp2
  go_quiet (fail)
  go_wp2
  go_ret
  exact ⟨rfl, _, rfl⟩

theorem rot_25 (x : Nat) (hx : x < 4294967296) (w : World) :
    Calls Tryz.prog 174 #[.int .u32 x, .int .i64 (-25)] w fun e w' => e = .returned (.int .u32 (dn x 25)) ∧ w = w' := by
  have h1 : bits .and .u64 (IntKind.u64.wrap (-25)) 31 = 7 := by decide
  have h2 : bits .or .u32 ((x : Int) * 128 % 4294967296) ((x : Int) / 33554432) = (dn x 25 : Int) := or_dn' x 25 hx
  go_enter Tryz.func174, Tryz.ntmps174
  go_wp2
  go_ret
  exact ⟨rfl, rfl⟩
theorem rotr_25 (x : Nat) (hx : x < 4294967296) (w : World) :
    Calls Tryz.prog 87 #[.int .u32 x, .int .i64 25] w fun e w' => e = .returned (.int .u32 (dn x 25)) ∧ ∃ n, w' = w.drewN n := by
  have h2 : bits .or .u32 ((x : Int) / 33554432) ((x : Int) * 128 % 4294967296) = (dn x 25 : Int) := or_dn x 25 hx
  go_enter Tryz.func87, Tryz.ntmps87
  go_wp2
  go_quiet (fail)
  go_wp2
  go_ret
  exact ⟨rfl, _, rfl⟩

theorem rot_any (x k : Nat) (hk : isK k) (hx : x < 4294967296) (w : World) :
    Calls Tryz.prog 174 #[.int .u32 x, .int .i64 (-(k : Int))] w fun e w' => e = .returned (.int .u32 (dn x k)) ∧ w = w' := by
  rcases hk with rfl | rfl | rfl | rfl | rfl | rfl | rfl | rfl | rfl | rfl
  · exact rot_2 x hx w
  · exact rot_6 x hx w
  · exact rot_7 x hx w
  · exact rot_11 x hx w
  · exact rot_13 x hx w
  · exact rot_17 x hx w
  · exact rot_18 x hx w
  · exact rot_19 x hx w
  · exact rot_22 x hx w
  · exact rot_25 x hx w
theorem rdown_any (x k : Nat) (hk : isK k) (hx : x < 4294967296) (w : World) :
    Calls Tryz.prog 87 #[.int .u32 x, .int .i64 (k : Int)] w fun e w' => e = .returned (.int .u32 (dn x k)) ∧ ∃ n, w' = w.drewN n := by
  rcases hk with rfl | rfl | rfl | rfl | rfl | rfl | rfl | rfl | rfl | rfl
  · exact rotr_2 x hx w
  · exact rotr_6 x hx w
  · exact rotr_7 x hx w
  · exact rotr_11 x hx w
  · exact rotr_13 x hx w
  · exact rotr_17 x hx w
  · exact rotr_18 x hx w
  · exact rotr_19 x hx w
  · exact rotr_22 x hx w
  · exact rotr_25 x hx w
theorem down_any (x k : Nat) (hk : isK k) (hx : x < 4294967296) (w : World) :
    Calls Tryz.prog 170 #[.int .u32 x, .int .i64 (k : Int)] w fun e w' => e = .returned (.int .u32 (dn x k)) ∧ w = w' := by
  have hk31 : k ≤ 31 := by rcases hk with rfl | rfl | rfl | rfl | rfl | rfl | rfl | rfl | rfl | rfl <;> omega
  have HK := Lib.hid hk
  clear hk
  go_enter Tryz.func170, Tryz.ntmps170
  go_wp2_with (go_at_call 174; refine (rot_any x k HK.out hx _).mono ?_; rintro e w' ⟨rfl, rfl⟩)
  go_ret
  exact ⟨rfl, rfl⟩
theorem down_2 (x : Nat) (hx : x < 4294967296) (w : World) : Calls Tryz.prog 170 #[.int .u32 x, .int .i64 2] w fun e w' => e = .returned (.int .u32 (dn x 2)) ∧ w = w' := down_any x 2 (.inl rfl) hx w
theorem down_6 (x : Nat) (hx : x < 4294967296) (w : World) : Calls Tryz.prog 170 #[.int .u32 x, .int .i64 6] w fun e w' => e = .returned (.int .u32 (dn x 6)) ∧ w = w' := down_any x 6 (.inr (.inl rfl)) hx w
theorem down_7 (x : Nat) (hx : x < 4294967296) (w : World) : Calls Tryz.prog 170 #[.int .u32 x, .int .i64 7] w fun e w' => e = .returned (.int .u32 (dn x 7)) ∧ w = w' := down_any x 7 (.inr (.inr (.inl rfl))) hx w
theorem down_11 (x : Nat) (hx : x < 4294967296) (w : World) : Calls Tryz.prog 170 #[.int .u32 x, .int .i64 11] w fun e w' => e = .returned (.int .u32 (dn x 11)) ∧ w = w' := down_any x 11 (.inr (.inr (.inr (.inl rfl)))) hx w
theorem down_13 (x : Nat) (hx : x < 4294967296) (w : World) : Calls Tryz.prog 170 #[.int .u32 x, .int .i64 13] w fun e w' => e = .returned (.int .u32 (dn x 13)) ∧ w = w' := down_any x 13 (.inr (.inr (.inr (.inr (.inl rfl))))) hx w
theorem down_17 (x : Nat) (hx : x < 4294967296) (w : World) : Calls Tryz.prog 170 #[.int .u32 x, .int .i64 17] w fun e w' => e = .returned (.int .u32 (dn x 17)) ∧ w = w' := down_any x 17 (.inr (.inr (.inr (.inr (.inr (.inl rfl)))))) hx w
theorem down_18 (x : Nat) (hx : x < 4294967296) (w : World) : Calls Tryz.prog 170 #[.int .u32 x, .int .i64 18] w fun e w' => e = .returned (.int .u32 (dn x 18)) ∧ w = w' := down_any x 18 (.inr (.inr (.inr (.inr (.inr (.inr (.inl rfl))))))) hx w
theorem down_19 (x : Nat) (hx : x < 4294967296) (w : World) : Calls Tryz.prog 170 #[.int .u32 x, .int .i64 19] w fun e w' => e = .returned (.int .u32 (dn x 19)) ∧ w = w' := down_any x 19 (.inr (.inr (.inr (.inr (.inr (.inr (.inr (.inl rfl)))))))) hx w
theorem down_22 (x : Nat) (hx : x < 4294967296) (w : World) : Calls Tryz.prog 170 #[.int .u32 x, .int .i64 22] w fun e w' => e = .returned (.int .u32 (dn x 22)) ∧ w = w' := down_any x 22 (.inr (.inr (.inr (.inr (.inr (.inr (.inr (.inr (.inl rfl))))))))) hx w
theorem down_25 (x : Nat) (hx : x < 4294967296) (w : World) : Calls Tryz.prog 170 #[.int .u32 x, .int .i64 25] w fun e w' => e = .returned (.int .u32 (dn x 25)) ∧ w = w' := down_any x 25 (.inr (.inr (.inr (.inr (.inr (.inr (.inr (.inr (.inr (rfl)))))))))) hx w
end Go.Proofs.YtkjdjglknbgeaaaGreatDoor
namespace Go.Proofs.YtkjdjglknbgeaaaGreatDoor
open Go.RowKit
set_option linter.unusedVariables false

def cellsK (k : IntKind) (ns : List Nat) : List Value := ns.map fun x => .int k (Int.ofNat x)
theorem cellsK_append (k : IntKind) (a b : List Nat) : cellsK k (a ++ b) = cellsK k a ++ cellsK k b := List.map_append
theorem cellsK_length (k : IntKind) (a : List Nat) : (cellsK k a).length = a.length := List.length_map ..
theorem cellsK_size (k : IntKind) (a : List Nat) : (cellsK k a).toArray.size = a.length := by simp [cellsK]
theorem cellsK_set (k : IntKind) (a : List Nat) (i x : Nat) : cellsK k (a.set i x) = (cellsK k a).set i (.int k (Int.ofNat x)) := List.map_set
theorem one_K (k : IntKind) (ns : List Nat) : ∀ u ∈ cellsK k ns, u.oneCell' = true := by
  intro u hu
  obtain ⟨z, _, rfl⟩ := List.mem_map.1 hu
  rfl
theorem one_Ka (k : IntKind) (ns : List Nat) : (cellsK k ns).toArray.all (·.oneCell') = true := by
  rw [Array.all_eq_true_iff_forall_mem]
  intro u hu
  exact one_K k ns u (by simpa using hu)
/-- Block g holds just these numbers. -/
def Row (w : World) (g : Nat) (k : IntKind) (T : TypeId) (ns : List Nat) : Prop := w.heap[g]? = some (.cells (cellsK k ns).toArray T (0, 0))
section
variable {w w' : World} {g : Nat} {k : IntKind} {T : TypeId} {ns : List Nat}
theorem Row.cell (h : Row w g k T ns) (i : Nat) (hi : i < ns.length) : w.cell? ⟨g, i, none⟩ = some (.int k ((ns.getD i 0 : Nat) : Int)) := by
  rw [cell_of_row w g i _ T (0, 0) h]
  simp [cellsK, hi, List.getD]
theorem Row.free (h : Row w g k T ns) (i : Nat) : w.frozen? ⟨g, i, none⟩ = false := frozen_of_row w g i _ T h
theorem Row.set (h : Row w g k T ns) (i x : Nat) : Row (w.setCell ⟨g, i, none⟩ (.int k (x : Int))) g k T (ns.set i x) := by
  unfold Row
  rw [heap_setCell_same w g i _ T _ h, cellsK_set]
  simp
theorem Row.other (h : Row w g k T ns) (a : Addr) (v : Value) (ha : g ≠ a.block) : Row (w.setCell a v) g k T ns := by
  unfold Row
  rw [heap_setCell_other w a g v ha]
  exact h
theorem Row.lt (h : Row w g k T ns) : g < w.heap.size := by
  rcases Nat.lt_or_ge g w.heap.size with h1 | h1
  · exact h1
  · unfold Row at h
    rw [Array.getElem?_eq_none h1] at h
    cases h
theorem Row.drew (h : Row w g k T ns) : Row w.drew g k T ns := h
theorem Row.drewN (h : Row w g k T ns) (n : Nat) : Row (w.drewN n) g k T ns := h
theorem Row.alloc (h : Row w g k T ns) (o : Obj) : Row (w.alloc o) g k T ns := (heap_alloc_old w o h.lt).trans h
theorem Row.below (h : Row w g k T ns) (hb : Below w.heap.size w w') : Row w' g k T ns := (hb.block g h.lt).trans h
theorem Row.new (w : World) (k : IntKind) (T : TypeId) (ns : List Nat) : Row (w.alloc (.cells (cellsK k ns).toArray T)) w.heap.size k T ns := heap_alloc_new w _
theorem Row.setRow (h : Row w g k T ns) (ms : List Nat) : Row (w.setRow g (cellsK k ms).toArray) g k T ms := setRow_heap w g _ _ T (0, 0) h
theorem Row.setRowOther (h : Row w g k T ns) (g' : Nat) (cs : Array Value) (hg : g ≠ g') : Row (w.setRow g' cs) g k T ns := (setRow_other w g' g cs hg).trans h
end
section
variable {P : Program} {ops : Array Oper} {rest : List Oper} {o : Oper} {a : Act} {w : World} {Q : Exit → Act → World → Prop}
/-- A whole array is read. -/
theorem wpList_loadK (ty : TypeId) (x : Operand) (hgd : o.guard = none) (ho : o.op = .load ty x) (g : Nat) (k : IntKind) (T : TypeId) (ns : List Nat) (n : Nat) (e : TypeId) (hR : Hid (Row w g k T ns))
    (hx : a.eval x = .pointer (some ⟨g, 0, none⟩)) (hu : P.underlying ty = some (.array n e)) (hi : Hid ((P.info? ty).map (·.size) = some n)) (hn : Hid (ns.length = n))
    (h : wpList P ops Q rest (a.put o.dst (.agg (cellsK k ns).toArray)) w) : wpList P ops Q (o :: rest) a w :=
  wpList_load_row hgd ty x ho g hx T _ (0, 0) _ hR hu rfl (by rw [hi.out, cellsK_size, hn.out]) h
/-- A whole array is stored. -/
theorem wpList_storeK (ty : TypeId) (x y : Operand) (hgd : o.guard = none) (ho : o.op = .store ty x y) (g : Nat) (k k' : IntKind) (T : TypeId) (old ns : List Nat) (n : Nat) (hR : Hid (Row w g k' T old))
    (hx : a.eval x = .pointer (some ⟨g, 0, none⟩)) (hy : a.eval y = .agg (cellsK k ns).toArray) (hi : Hid ((P.info? ty).map (·.size) = some n)) (hn : Hid (ns.length = n)) (hn' : Hid (old.length = n))
    (h : wpList P ops Q rest (a.put o.dst undef) (w.setRow g (cellsK k ns).toArray)) : wpList P ops Q (o :: rest) a w :=
  wpList_store_row hgd ty x y ho g _ hx hy T _ hR (by rw [hi.out, cellsK_size, hn.out]) (by rw [cellsK_size, cellsK_size, hn.out, hn'.out]) (one_Ka k ns) h
theorem resultsK {fn : Func} {p : Tmp} {ty : TypeId} (h : fn.results = #[.cell p ty]) (tmps : Array Value) (g : Nat) (k : IntKind) (T : TypeId) (ns : List Nat) (n : Nat) (e : TypeId) (hp : tmps.getD p undef = .pointer (some ⟨g, 0, none⟩)) (hR : Row w g k T ns)
    (hu : P.underlying ty = some (.array n e)) (hi : Hid ((P.info? ty).map (·.size) = some n)) (hn : Hid (ns.length = n)) : (results fn tmps).run P w = .ok (.agg (cellsK k ns).toArray) w :=
  results_cell_row h tmps w g T _ (0, 0) _ hp hR hu rfl (by rw [hi.out, cellsK_size, hn.out])
end
theorem size64w : Hid ((Tryz.prog.info? 228).map (·.size) = some 64) := Lib.hid (by kernel_rfl)
theorem size8w : Hid ((Tryz.prog.info? 199).map (·.size) = some 8) := Lib.hid (by kernel_rfl)
theorem size32b : Hid ((Tryz.prog.info? 173).map (·.size) = some 32) := Lib.hid (by kernel_rfl)
theorem size64b : Hid ((Tryz.prog.info? 231).map (·.size) = some 64) := Lib.hid (by kernel_rfl)
end Go.Proofs.YtkjdjglknbgeaaaGreatDoor
namespace Go.Proofs.YtkjdjglknbgeaaaGreatDoor
open Go.RowKit
set_option linter.unusedVariables false

theorem zeros56 : (#[.int .u32 0, .int .u32 0, .int .u32 0, .int .u32 0, .int .u32 0, .int .u32 0, .int .u32 0, .int .u32 0, .int .u32 0, .int .u32 0, .int .u32 0, .int .u32 0, .int .u32 0, .int .u32 0, .int .u32 0, .int .u32 0,
   .int .u32 0, .int .u32 0, .int .u32 0, .int .u32 0, .int .u32 0, .int .u32 0, .int .u32 0, .int .u32 0, .int .u32 0, .int .u32 0, .int .u32 0, .int .u32 0, .int .u32 0, .int .u32 0, .int .u32 0, .int .u32 0,
   .int .u32 0, .int .u32 0, .int .u32 0, .int .u32 0, .int .u32 0, .int .u32 0, .int .u32 0, .int .u32 0, .int .u32 0, .int .u32 0, .int .u32 0, .int .u32 0, .int .u32 0, .int .u32 0, .int .u32 0, .int .u32 0,
   .int .u32 0, .int .u32 0, .int .u32 0, .int .u32 0, .int .u32 0, .int .u32 0, .int .u32 0, .int .u32 0, .int .u32 0, .int .u32 0, .int .u32 0, .int .u32 0, .int .u32 0, .int .u32 0, .int .u32 0, .int .u32 0] : Array Value) = (cellsK .u32 (List.replicate 64 0)).toArray := by kernel_rfl

theorem row_alloc2a (w : World) (a b : List Nat) (k k' : IntKind) (T T' : TypeId) : Row ((w.alloc (.cells (cellsK k a).toArray T)).alloc (.cells (cellsK k' b).toArray T')) w.heap.size k T a :=
  (Row.new w k T a).alloc _
theorem row_alloc2b (w : World) (a b : List Nat) (k k' : IntKind) (T T' : TypeId) : Row ((w.alloc (.cells (cellsK k a).toArray T)).alloc (.cells (cellsK k' b).toArray T')) (w.heap.size + 1) k' T' b := by
  have h := Row.new (w.alloc (.cells (cellsK k a).toArray T)) k' T' b
  have e : (w.alloc (.cells (cellsK k a).toArray T)).heap.size = w.heap.size + 1 := by
    show (w.heap.push _).size = _
    simp
  rwa [e] at h

theorem or_shl8 (p x : Nat) (hp : p < 16777216) (hx : x < 256) : bits .or .u32 ((p : Int) * 256) (x : Int) = ((p * 256 + x : Nat) : Int) := by
  have h := u32_or_nat (p * 256) x (by omega) (by omega)
  rw [nat_join 8 (p * 256) x (Nat.mul_mod_left _ _) hx] at h
  exact h

theorem wrap_add (a b : Nat) : IntKind.u32.wrap ((a : Int) + (b : Int)) = ((addM a b : Nat) : Int) := by
  rw [IntKind.wrap_u32']
  unfold addM
  omega
theorem xor_sig0 (x : Nat) (h : x < 4294967296) : bits .xor .u32 (bits .xor .u32 (dn x 7 : Int) (dn x 18 : Int)) ((x : Int) / 8) = (sig0 x : Int) := by
  rw [u32_xor_nat _ _ (dn_lt _ _ h) (dn_lt _ _ h)]
  exact u32_xor_nat _ (x / 8) (Nat.xor_lt_two_pow (n := 32) (dn_lt _ _ h) (dn_lt _ _ h)) (by omega)
theorem xor_sig1 (x : Nat) (h : x < 4294967296) : bits .xor .u32 (bits .xor .u32 (dn x 17 : Int) (dn x 19 : Int)) ((x : Int) / 1024) = (sig1 x : Int) := by
  rw [u32_xor_nat _ _ (dn_lt _ _ h) (dn_lt _ _ h)]
  exact u32_xor_nat _ (x / 1024) (Nat.xor_lt_two_pow (n := 32) (dn_lt _ _ h) (dn_lt _ _ h)) (by omega)

set_option maxRecDepth 100000 in
set_option maxHeartbeats 1000000 in
theorem spread_any (A : Option Addr) (cap : Nat) (l : List Nat) (w : World) (hR : RowN w A 64 l) :
    Calls Tryz.prog 169 #[.slice A 64 cap] w fun e w' => e = .returned (.agg (cellsK .u32 (sched (words l) 48)).toArray) ∧ Below w.heap.size w w' := by
  have HR := Lib.hid hR
  clear hR
  obtain ⟨b, off, rfl, hlt, hc⟩ := HR.out.cells (by omega)
  have HC := Lib.hid hc
  clear hc
  go_enter Tryz.func169, Tryz.ntmps169
  go_wp2
  rw [zeros56]
  have hB : Below w.heap.size w ((w.alloc (.cells (cellsK .u32 (List.replicate 64 0)).toArray 228)).alloc (.cells (cellsK .u32 (List.replicate 64 0)).toArray 228)) := ((Below.refl _ _).alloc (Nat.le_refl _) _).alloc (by simp) _
  have h1 := Lib.hid (row_alloc2a w (List.replicate 64 0) (List.replicate 64 0) .u32 .u32 228 228)
  have h2 := Lib.hid (row_alloc2b w (List.replicate 64 0) (List.replicate 64 0) .u32 .u32 228 228)
  generalize (w.alloc (.cells (cellsK .u32 (List.replicate 64 0)).toArray 228)).alloc (.cells (cellsK .u32 (List.replicate 64 0)).toArray 228) = w0 at *
  go_loopw [11] (fun i wr => ∃ k : Nat, k ≤ 64 ∧ i = .int .i64 k ∧ Hid (Row wr w.heap.size .u32 228 (List.replicate 64 0)) ∧ Hid (Row wr (w.heap.size + 1) .u32 228 (partial_ l k)) ∧ Below w.heap.size w wr) (fun i _ => 64 - (intOf i).toNat)
  case atStart => exact ⟨0, by omega, rfl, h1, by rw [partial_zero]; exact h2, hB⟩
  case round =>
    obtain ⟨k, hk, rfl, HA, HB, hbr⟩ := hrel
    clear h1 h2 hB
    by_cases hkn : k < 64
    · have hck := (hbr.cell (p := ⟨b, off + k, none⟩) hlt).trans (HC.out k hkn)
      have hj : k / 4 < 64 := by omega
      have hcw := HB.out.cell (k / 4) (by rw [partial_length]; exact hj)
      have hfw := HB.out.free (k / 4)
      rw [partial_getD l k _ hj] at hcw
      have hx := getD_lt (by decide) HR.out.lt k
      have hp := partW_lt l k HR.out.lt
      have HN := Lib.hid (HB.out.set (k / 4) (partW l k (k / 4) * 256 + l.getD k 0))
      have hkn' : (k : Int) < 64 := by omega
      have HS := Lib.hid (partial_set l k (by rw [HR.out.length]; exact hkn) hkn)
      generalize l.getD k 0 = x at *
      have hor := or_shl8 (partW l k (k / 4)) x hp hx
      obtain ⟨v, hv⟩ : ∃ v : Nat, v = partW l k (k / 4) * 256 + x := ⟨_, rfl⟩
      rw [← hv] at hor HN
      have HV := Lib.hid hv
      clear hv
      go_wp2
      go_roundw
      case rel =>
        refine ⟨k + 1, by omega, by go_num, Lib.hid (HA.out.other _ _ (by simp)), ?_, hbr.setCell (by simp) _⟩
        rw [← HS.out]
        rw [← HV.out]
        exact HN
      case measure => simp [intOf]; omega
    · obtain rfl : k = 64 := by omega
      rw [partial_end l HR.out.length] at HB
      have hB0 : Hid (Row wr (w.heap.size + 1) .u32 228 (schedA (words l) 0)) := HB
      clear HB
      go_wp2
      have hwl := Lib.hid (words_length l)
      have hwb := Lib.hid (words_lt l HR.out.lt)
      generalize hws : words l = ws at *
      have HWS := Lib.hid hws
      clear hws
      go_loopw [6] (fun i wr => ∃ m : Nat, m ≤ 48 ∧ i = .int .i64 ((m : Int) + 16) ∧ Hid (Row wr w.heap.size .u32 228 (List.replicate 64 0)) ∧ Hid (Row wr (w.heap.size + 1) .u32 228 (schedA ws m)) ∧ Below w.heap.size w wr) (fun i _ => 64 - (intOf i).toNat)
      case atStart => exact ⟨0, by omega, rfl, HA, hB0, hbr⟩
      case round =>
        obtain ⟨m, hm, rfl, HA2, HB2, hbq⟩ := hrel
        clear HA hB0 hbr
        by_cases hmn : m < 48
        · have hx0 := sched_getD_lt ws hwb.out m m
          have hx1 := sched_getD_lt ws hwb.out m (m + 1)
          have hx9 := sched_getD_lt ws hwb.out m (m + 9)
          have hx14 := sched_getD_lt ws hwb.out m (m + 14)
          have hc0 := HB2.out.cell m (by rw [schedA_length _ hwl.out _ hm]; omega)
          have hc1 := HB2.out.cell (m + 1) (by rw [schedA_length _ hwl.out _ hm]; omega)
          have hc9 := HB2.out.cell (m + 9) (by rw [schedA_length _ hwl.out _ hm]; omega)
          have hc14 := HB2.out.cell (m + 14) (by rw [schedA_length _ hwl.out _ hm]; omega)
          have hc16 := HB2.out.cell (m + 16) (by rw [schedA_length _ hwl.out _ hm]; omega)
          rw [schedA_getD _ hwl.out _ _ (by omega)] at hc0 hc1 hc9 hc14
          generalize (schedA ws m).getD (m + 16) 0 = x16 at *
          have hf := HB2.out.free (m + 16)
          have HN := Lib.hid (HB2.out.set (m + 16) (nextW (sched ws m)))
          have HE := Lib.hid (nextW_is ws hwl.out m)
          rw [schedA_set ws hwl.out m hmn] at HN
          generalize nextW (sched ws m) = nx at *
          generalize (sched ws m).getD m 0 = x0 at *
          generalize (sched ws m).getD (m + 1) 0 = x1 at *
          generalize (sched ws m).getD (m + 9) 0 = x9 at *
          generalize (sched ws m).getD (m + 14) 0 = x14 at *
          have hmn' : (m : Int) < 48 := by omega
          go_wp2
          have e1 : IntKind.i64.wrap ((m : Int) + 16 - 15) = (m : Int) + 1 := by rw [IntWalk.i64_in _ (by omega)]; omega
          have e2 : IntKind.i64.wrap ((m : Int) + 16 - 2) = (m : Int) + 14 := by rw [IntWalk.i64_in _ (by omega)]; omega
          have n1 : ((m : Int) + 1).toNat = m + 1 := by omega
          have n2 : ((m : Int) + 14).toNat = m + 14 := by omega
          have p1 : (0 : Int) ≤ (m : Int) + 1 := by omega
          have p2 : (0 : Int) ≤ (m : Int) + 14 := by omega
          have l1 : (m : Int) + 1 < 64 := by omega
          have l2 : (m : Int) + 14 < 64 := by omega
          have b1 := xor_sig0 x1 hx1
          have b2 := xor_sig1 x14 hx14
          go_quiet ((first | (go_at_call 170; exact quiet_left (down_7 x1 hx1 _)) | (go_at_call 170; exact quiet_left (down_18 x1 hx1 _))))
          have K0 := Lib.hid (show Row (wr.drewN nq) _ _ _ _ from HA2.out)
          have K1 := Lib.hid (show Row (wr.drewN nq) _ _ _ _ from HB2.out)
          have K2 := Lib.hid (below_drewNS hbq nq)
          have K3 := Lib.hid (show Row ((wr.drewN nq).setCell _ _) _ _ _ _ from HN.out)
          have c0 : (wr.drewN nq).cell? _ = _ := hc0
          have c1 : (wr.drewN nq).cell? _ = _ := hc1
          have c9 : (wr.drewN nq).cell? _ = _ := hc9
          have c14 : (wr.drewN nq).cell? _ = _ := hc14
          have c16 : (wr.drewN nq).cell? _ = _ := hc16
          have cf : (wr.drewN nq).frozen? _ = _ := hf
          clear hc0 hc1 hc9 hc14 hc16 hf HA2 HB2 hbq HN
          generalize wr.drewN nq = w2 at *
          go_wp2
          go_quiet ((first | (go_at_call 170; exact quiet_left (down_17 x14 hx14 _)) | (go_at_call 170; exact quiet_left (down_19 x14 hx14 _))))
          have J0 := Lib.hid (show Row (w2.drewN nq) _ _ _ _ from K0.out)
          have J2 := Lib.hid (below_drewNS K2.out nq)
          have J3 := Lib.hid (show Row ((w2.drewN nq).setCell _ _) _ _ _ _ from K3.out)
          have d0 : (w2.drewN nq).cell? _ = _ := c0
          have d9 : (w2.drewN nq).cell? _ = _ := c9
          have d16 : (w2.drewN nq).cell? _ = _ := c16
          have df : (w2.drewN nq).frozen? _ = _ := cf
          clear c0 c1 c9 c14 c16 cf K0 K1 K2 K3 b1 b2 e1 e2 n1 n2 p1 p2 l1 l2 hx1 hx14 HC hlt
          generalize w2.drewN nq = w3 at *
          generalize sig0 x1 = sa at *
          generalize sig1 x14 = sb at *
          go_wp2
          have e1 : IntKind.i64.wrap ((m : Int) + 16 - 16) = (m : Int) := by rw [IntWalk.i64_in _ (by omega)]; omega
          have e2 : IntKind.i64.wrap ((m : Int) + 16 - 7) = (m : Int) + 9 := by rw [IntWalk.i64_in _ (by omega)]; omega
          have n1 : ((m : Int) + 9).toNat = m + 9 := by omega
          have n2 : ((m : Int) + 16).toNat = m + 16 := by omega
          have p1 : (0 : Int) ≤ (m : Int) + 9 := by omega
          have p2 : (0 : Int) ≤ (m : Int) + 16 := by omega
          have p3 : (0 : Int) ≤ (m : Int) := by omega
          have l1 : (m : Int) + 9 < 64 := by omega
          have l2 : (m : Int) + 16 < 64 := by omega
          have l3 : (m : Int) < 64 := by omega
          have q1 : IntKind.u32.wrap ((x0 : Int) + (sa : Int)) = ((addM x0 sa : Nat) : Int) := wrap_add x0 sa
          have q2 : IntKind.u32.wrap (((addM x0 sa : Nat) : Int) + (x9 : Int)) = ((addM (addM x0 sa) x9 : Nat) : Int) := wrap_add _ _
          have q3 : IntKind.u32.wrap (((addM (addM x0 sa) x9 : Nat) : Int) + (sb : Int)) = (nx : Int) := by rw [HE.out]; exact wrap_add _ _
          go_region
          have L0 : Hid (Row ((w3.setCell ⟨w.heap.size + 1, m + 16, none⟩ (.int .u32 (nx : Int))).drew) w.heap.size .u32 228 (List.replicate 64 0)) := Lib.hid (J0.out.other _ _ (by simp)).drew
          have L1 : Hid (Row ((w3.setCell ⟨w.heap.size + 1, m + 16, none⟩ (.int .u32 (nx : Int))).drew) (w.heap.size + 1) .u32 228 (schedA ws (m + 1))) := Lib.hid (show Row (w3.setCell _ _).drew _ _ _ _ from J3.out.drew)
          have L2 : Hid (Below w.heap.size w ((w3.setCell ⟨w.heap.size + 1, m + 16, none⟩ (.int .u32 (nx : Int))).drew)) := Lib.hid (J2.out.setCell (by simp) _).drew
          clear J0 J2 J3 d0 d9 d16 df e1 e2 n1 n2 p1 p2 p3 l1 l2 l3 q1 q2 q3 HE
          generalize (w3.setCell ⟨w.heap.size + 1, m + 16, none⟩ (.int .u32 (nx : Int))).drew = w4 at *
          go_wp2
          go_roundw
          case rel => exact ⟨m + 1, by omega, by go_num, L0, L1, L2.out⟩
          case measure => simp [intOf]; omega
        · obtain rfl : m = 48 := by omega
          have hz : 48 - 48 = 0 := rfl
          have HS : Hid (schedA ws 48 = sched ws 48) := Lib.hid (by unfold schedA; simp)
          rw [HS.out] at HB2
          have hl48 : Hid ((sched ws 48).length = 64) := Lib.hid (by rw [sched_length, hwl.out])
          generalize hfin : sched ws 48 = fin at *
          have HF := Lib.hid hfin
          clear hfin
          have hz64 : Hid ((List.replicate 64 0 : List Nat).length = 64) := Lib.hid (List.length_replicate ..)
          go_wp2_with (first | (with_reducible refine wpList_loadK 228 (.tmp 3) rfl rfl (w.heap.size + 1) .u32 228 fin 64 138 HB2 rfl Tryz.underlying228 size64w hl48 ?_) | (with_reducible refine wpList_storeK 228 (.tmp 2) (.tmp 81) rfl rfl w.heap.size .u32 .u32 228 (List.replicate 64 0) fin 64 HA2 rfl rfl size64w hl48 hz64 ?_))
          exact bodyPost_ret (resultsK rfl _ w.heap.size .u32 228 fin 64 138 rfl (HA2.out.setRow fin) Tryz.underlying228 size64w hl48) rfl ⟨by rw [HWS.out, HF.out], below_setRow hbq (Nat.le_refl _) _⟩
end Go.Proofs.YtkjdjglknbgeaaaGreatDoor
namespace Go.Proofs.YtkjdjglknbgeaaaGreatDoor
open Go.RowKit
set_option linter.unusedVariables false

/-- How many bytes 0 are laid behind m bytes (of the last block) and the byte 128. -/
def zc (m : Nat) : Nat := if m ≤ 55 then 55 - m else 119 - m
def lenBytes (n : Nat) : List Nat := (List.range 8).map fun i => 8 * n / 2 ^ (56 - 8 * i) % 256
/-- What stands behind the whole blocks, and what is laid behind it. -/
def tailN (l : List Nat) (n : Nat) : List Nat := l ++ ([128] ++ (List.replicate (zc l.length) 0 ++ lenBytes n))
theorem lenBytes_length (n : Nat) : (lenBytes n).length = 8 := by simp [lenBytes]
theorem lenBytes_take (n j : Nat) (hj : j < 8) : (lenBytes n).take (j + 1) = (lenBytes n).take j ++ [8 * n / 2 ^ (56 - 8 * j) % 256] := by
  rw [List.take_add_one]
  congr 1
  simp [lenBytes, hj]
theorem zc_no (m j : Nat) (hm : m < 64) (hj : j < zc m) : (m + 1 + j) % 64 ≠ 56 := by
  unfold zc at hj
  split at hj <;> omega
theorem zc_yes (m : Nat) (hm : m < 64) : (m + 1 + zc m) % 64 = 56 := by
  unfold zc
  split <;> omega
theorem zc_le (m : Nat) (hm : m < 64) : m + 1 + zc m ≤ 120 := by
  unfold zc
  split <;> omega
theorem tailN_lt (l : List Nat) (n : Nat) (h : ∀ x ∈ l, x < 256) : ∀ x ∈ tailN l n, x < 256 := by
  intro x hx
  unfold tailN at hx
  rcases List.mem_append.1 hx with hx | hx
  · exact h x hx
  · rcases List.mem_append.1 hx with hx | hx
    · simp only [List.mem_cons, List.not_mem_nil, or_false] at hx; omega
    · rcases List.mem_append.1 hx with hx | hx
      · have := List.eq_of_mem_replicate hx; omega
      · unfold lenBytes at hx
        obtain ⟨i, _, rfl⟩ := List.mem_map.1 hx
        exact Nat.mod_lt _ (by decide)
theorem tailN_length (l : List Nat) (n : Nat) : (tailN l n).length = l.length + 1 + zc l.length + 8 := by
  unfold tailN
  rw [List.length_append, List.length_append, List.length_append, List.length_replicate, lenBytes_length, List.length_singleton]
  omega
theorem asZ_cells (l : List Nat) : cellsZ (asZ l) = l.map fun x => .int .u8 (Int.ofNat x) := by
  unfold cellsZ asZ
  rw [List.map_map]
  rfl
theorem cells_snoc (l : List Nat) (x : Nat) : cellsZ (asZ (l ++ [x])) = cellsZ (asZ l) ++ [.int .u8 (x : Int)] := by
  rw [asZ_append, cellsZ_append]
  rfl
theorem RowN.of_own {w : World} {B g n c : Nat} {l : List Nat} (h : w.ownsRow B 5 1 (.slice (some ⟨g, 0, none⟩) n c) n (cellsZ (asZ l))) (hz : ∀ x ∈ l, x < 256) (hl : l.length = n) : RowN w (some ⟨g, 0, none⟩) n l :=
  row_of_own h (fun z hz' => by
    obtain ⟨x, hx, rfl⟩ := List.mem_map.1 hz'
    have := hz x hx
    exact ⟨Int.natCast_nonneg _, by show ((x : Nat) : Int) ≤ 255; omega⟩) (by rw [asZ_length, hl])
theorem RowN.srcAny {w : World} {A : Option Addr} {n : Nat} {l : List Nat} (h : RowN w A n l) : ∀ ad, A = some ad → ∀ j u, (cellsZ (asZ l))[j]? = some u → w.cell? (ad.add j) = some u := by
  intro ad had j u hu
  have hj : j < n := by
    have := (List.getElem?_eq_some_iff.1 hu).1
    simpa [cellsZ, h.1] using this
  obtain ⟨ad', e, hc⟩ := RowZ.src h (by omega)
  rw [had] at e
  obtain rfl := Option.some.inj e
  exact hc j u hu

set_option maxHeartbeats 2000000 in
theorem tail_any (A : Option Addr) (m cap n : Nat) (l : List Nat) (hm : m < 64) (hn : n ≤ 1000000) (hA : A = none → cap = 0) (w : World) (hR : RowN w A m l) :
    Calls Tryz.prog 162 #[.slice A m cap, .int .i64 n] w fun e w' => (∃ g k, e = .returned (.slice (some ⟨g, 0, none⟩) k 128) ∧ RowN w' (some ⟨g, 0, none⟩) k (tailN l n)) ∧ Below w.heap.size w w' := by
  have hmk := make_bytes 0 128 (by omega) (by omega)
  rw [show ((0 : Nat) : Int) = 0 from rfl, show ((128 : Nat) : Int) = 128 from rfl] at hmk
  have HR := Lib.hid hR
  have HM : Hid (l.length = m) := Lib.hid hR.length
  have HL := Lib.hid hR.lt
  obtain ⟨i0, hi, hz0, hz1, hz2⟩ := info_parts info_u8
  have HI := Lib.hid hi
  have HZ1 := Lib.hid hz1
  have HO : Hid ((w.alloc (.cells (cellsZ (List.replicate 128 0)).toArray 5)).ownsRow w.heap.size 5 1 (.slice (some ⟨w.heap.size, 0, none⟩) 0 128) 0 []) :=
    Lib.hid (own_of_heap (xs := []) (ys := cellsZ (List.replicate 128 0)) (by rw [List.nil_append]; exact heap_alloc_new w _) (Nat.le_refl _) rfl (by simp [cellsZ]) (by omega))
  have hB0 : Below w.heap.size w (w.alloc (.cells (cellsZ (List.replicate 128 0)).toArray 5)) := (Below.refl _ _).alloc (Nat.le_refl _) _
  have HS := Lib.hid (RowN.srcAny (hR.below hB0))
  have HAN : Hid (A = none → m = 0 ∧ cap = 0) := Lib.hid (fun h => ⟨(by
    rcases Nat.eq_zero_or_pos m with h0 | h0
    · exact h0
    · obtain ⟨b, off, e, _⟩ := hR.2.2 h0
      rw [h] at e
      cases e), hA h⟩)
  have HCL : Hid ((cellsZ (asZ l)).length = m * 1) := Lib.hid (by rw [cellsZ, List.length_map, hR.1]; omega)
  clear hR hi hz0 hz1 hz2 hA
  have hzle := zc_le m hm
  go_enter Tryz.func162, Tryz.ntmps162
  go_wp2_with (first
    | (at_builtin; refine wpList_append_fits_any _ (by rfl) (.tmp 9) (.tmp 10) 22 (by rfl) w.heap.size 5 i0 1 Tryz.underlying22 HI.out HZ1.out w.heap.size 0 128 _ (by rfl) HO.out A m cap (cellsZ (asZ l)) (by rfl) HCL.out HAN.out HS.out (one_u8 _) (by omega) ?_; intro w1 hown1 hgrow1
       have hb1 : Below w.heap.size w w1 := hB0.grown hgrow1 (by simp) (fun q hq => by injection hq with hq; omega)
       rw [Nat.zero_add, List.nil_append] at hown1
       have H1 := Lib.hid (hown1.alloc (.cells #[.int .u8 128] 5))
       have N1 := Lib.hid (new_cell w1 (.int .u8 128) 5)
       clear hown1 hgrow1 HO hB0 HS HCL HAN hmk
       rw [Nat.zero_add])
    | (at_builtin; refine wpList_append_fits _ (by rfl) (.tmp 12) (.tmp 13) 22 (by rfl) w.heap.size 5 i0 1 Tryz.underlying22 HI.out HZ1.out w.heap.size m 128 _ (by rfl) H1.out ⟨w1.heap.size, 0, none⟩ 1 1 [.int .u8 128] (by rfl) rfl N1.out (one_u8 [128]) (by omega) ?_; intro w2 hown2 hgrow2))
  have hb2 : Below w.heap.size w w2 := (hb1.alloc hb1.size _).grown hgrow2 (by have := hb1.size; simp; omega) (fun q hq => by injection hq with hq; omega)
  have H2 : Hid (w2.ownsRow w.heap.size 5 1 (.slice (some ⟨w.heap.size, 0, none⟩) (m + 1 + 0) 128) (m + 1 + 0) (cellsZ (asZ (l ++ ([128] ++ List.replicate 0 0))))) := by
    rw [List.replicate_zero, List.append_nil, cells_snoc]
    exact Lib.hid hown2
  clear hown2 hgrow2 hb1 H1 N1
  go_wp2
  go_loopw [5] (fun v wr => ∃ j : Nat, j ≤ zc m ∧ v = .slice (some ⟨w.heap.size, 0, none⟩) (m + 1 + j) 128 ∧ Hid (wr.ownsRow w.heap.size 5 1 (.slice (some ⟨w.heap.size, 0, none⟩) (m + 1 + j) 128) (m + 1 + j) (cellsZ (asZ (l ++ ([128] ++ List.replicate j 0))))) ∧ Below w.heap.size w wr) (fun v _ => match v with | .slice _ k _ => 128 - k | _ => 0)
  case atStart => exact ⟨0, by omega, rfl, H2, hb2⟩
  case round =>
    obtain ⟨j, hj, rfl, HO2, hbr⟩ := hrel
    clear H2 hb2
    rcases Nat.lt_or_ge j (zc m) with hjz | hjz
    · have hmod := zc_no m j hm hjz
      have ht : ((m : Int) + 1 + (j : Int)).tmod 64 = ((m : Int) + 1 + (j : Int)) % 64 := by rw [Int.tmod_eq_emod_of_nonneg (by omega)]
      have H3 := Lib.hid (HO2.out.alloc (.cells #[.int .u8 0] 5))
      have N3 := Lib.hid (new_cell wr (.int .u8 0) 5)
      have hne : (((m : Int) + 1 + (j : Int)) % 64 != 56) = true := by rw [bne_iff_ne]; omega
      clear hmod
      go_wp2_with (at_builtin; go_loud (refine wpList_append_fits _ (by rfl) (.tmp 19) (.tmp 20) 22 (by rfl) w.heap.size 5 i0 1 Tryz.underlying22 HI.out HZ1.out w.heap.size (m + 1 + j) 128 _ (by rfl) H3.out ⟨wr.heap.size, 0, none⟩ 1 1 [.int .u8 0] (by rfl) rfl N3.out (one_u8 [0]) (by omega) ?_); intro w3 hown3 hgrow3)
      have hb3 : Below w.heap.size w w3 := (hbr.alloc hbr.size _).grown hgrow3 (by have := hbr.size; simp; omega) (fun q hq => by injection hq with hq; omega)
      have H4 : Hid (w3.ownsRow w.heap.size 5 1 (.slice (some ⟨w.heap.size, 0, none⟩) (m + 1 + (j + 1)) 128) (m + 1 + (j + 1)) (cellsZ (asZ (l ++ ([128] ++ List.replicate (j + 1) 0))))) := by
        have e : l ++ ([128] ++ List.replicate (j + 1) 0) = (l ++ ([128] ++ List.replicate j 0)) ++ [0] := by
          rw [List.replicate_succ', List.append_assoc, List.append_assoc]
        rw [e, cells_snoc]
        exact Lib.hid hown3
      clear hown3 hgrow3 H3 N3
      go_wp2
      go_roundw
      case rel => exact ⟨j + 1, by omega, rfl, H4, hb3⟩
      case measure => simp; omega
    · obtain rfl : j = zc m := by omega
      have hmod := zc_yes m hm
      have ht : ((m : Int) + 1 + (zc m : Int)).tmod 64 = ((m : Int) + 1 + (zc m : Int)) % 64 := by rw [Int.tmod_eq_emod_of_nonneg (by omega)]
      have hne : (((m : Int) + 1 + (zc m : Int)) % 64 != 56) = false := by rw [bne_eq_false_iff_eq]; omega
      clear hmod
      have HZC := Lib.hid (show ∃ q, q = m + 1 + zc m from ⟨_, rfl⟩)
      have HO3 : Hid (wr.ownsRow w.heap.size 5 1 (.slice (some ⟨w.heap.size, 0, none⟩) (m + 1 + zc m + 0) 128) (m + 1 + zc m + 0) (cellsZ (asZ (l ++ ([128] ++ (List.replicate (zc m) 0 ++ (lenBytes n).take 0)))))) := by
        rw [List.take_zero, List.append_nil]
        exact HO2
      clear HO2
      go_wp2
      go_loopw [5, 25] (fun v i wr => ∃ j : Nat, j ≤ 8 ∧ i = .int .i64 j ∧ v = .slice (some ⟨w.heap.size, 0, none⟩) (m + 1 + zc m + j) 128 ∧ Hid (wr.ownsRow w.heap.size 5 1 (.slice (some ⟨w.heap.size, 0, none⟩) (m + 1 + zc m + j) 128) (m + 1 + zc m + j) (cellsZ (asZ (l ++ ([128] ++ (List.replicate (zc m) 0 ++ (lenBytes n).take j)))))) ∧ Below w.heap.size w wr) (fun _ i _ => 8 - (intOf i).toNat)
      case atStart => exact ⟨0, by omega, rfl, rfl, HO3, hbr⟩
      case round =>
        obtain ⟨j, hj, rfl, rfl, HO4, hbq⟩ := hrel
        clear HO3 hbr hne ht
        by_cases hj8 : j < 8
        · have hj8' : (j : Int) < 8 := by omega
          have H5 := Lib.hid (HO4.out.alloc (.cells #[.int .u8 (8 * (n : Int) / 2 ^ (56 - 8 * j) % 256)] 5))
          have N5 := Lib.hid (new_cell wr (.int .u8 (8 * (n : Int) / 2 ^ (56 - 8 * j) % 256)) 5)
          go_wp2_with (at_builtin; go_loud (refine wpList_append_fits _ (by rfl) (.tmp 28) (.tmp 36) 22 (by rfl) w.heap.size 5 i0 1 Tryz.underlying22 HI.out HZ1.out w.heap.size (m + 1 + zc m + j) 128 _ (by rfl) H5.out ⟨wr.heap.size, 0, none⟩ 1 1 [.int .u8 (8 * (n : Int) / 2 ^ (56 - 8 * j) % 256)] (by rfl) rfl N5.out (one_u8 [8 * (n : Int) / 2 ^ (56 - 8 * j) % 256]) (by omega) ?_); intro w3 hown3 hgrow3)
          have hb3 : Below w.heap.size w w3 := (hbq.alloc hbq.size _).grown hgrow3 (by have := hbq.size; simp; omega) (fun q hq => by injection hq with hq; omega)
          have H6 : Hid (w3.ownsRow w.heap.size 5 1 (.slice (some ⟨w.heap.size, 0, none⟩) (m + 1 + zc m + (j + 1)) 128) (m + 1 + zc m + (j + 1)) (cellsZ (asZ (l ++ ([128] ++ (List.replicate (zc m) 0 ++ (lenBytes n).take (j + 1))))))) := by
            have e : l ++ ([128] ++ (List.replicate (zc m) 0 ++ (lenBytes n).take (j + 1))) = (l ++ ([128] ++ (List.replicate (zc m) 0 ++ (lenBytes n).take j))) ++ [8 * n / 2 ^ (56 - 8 * j) % 256] := by
              rw [lenBytes_take n j hj8, List.append_assoc, List.append_assoc, List.append_assoc]
            rw [e, cells_snoc]
            have ec : (((8 * n / 2 ^ (56 - 8 * j) % 256 : Nat)) : Int) = 8 * (n : Int) / 2 ^ (56 - 8 * j) % 256 := by simp
            rw [ec]
            exact Lib.hid hown3
          clear hown3 hgrow3 H5 N5
          go_wp2
          go_roundw
          case rel => exact ⟨j + 1, by omega, by go_num, rfl, H6, hb3⟩
          case measure => simp [intOf]; omega
        · obtain rfl : j = 8 := by omega
          have e : l ++ ([128] ++ (List.replicate (zc m) 0 ++ (lenBytes n).take 8)) = tailN l n := by
            rw [List.take_of_length_le (by rw [lenBytes_length]; omega), tailN, HM.out]
          rw [e] at HO4
          have hR4 := Lib.hid (RowN.of_own HO4.out (tailN_lt l n HL.out) (by
            rw [← e, List.length_append, List.length_append, List.length_append, List.length_replicate, List.length_take, lenBytes_length, HM.out, List.length_singleton]
            omega))
          clear HO4 e
          go_wp2
          go_ret
          exact ⟨⟨w.heap.size, m + 1 + zc m + 8, rfl, hR4.out⟩, hbq⟩
end Go.Proofs.YtkjdjglknbgeaaaGreatDoor
namespace Go.Proofs.YtkjdjglknbgeaaaGreatDoor
open Go.RowKit
set_option linter.unusedVariables false

def startN : St := ⟨1779033703, 3144134277, 1013904242, 2773480762, 1359893119, 2600822924, 528734635, 1541459225⟩
theorem startN_ok : startN.ok := by unfold St.ok startN; decide
theorem size43z' : (#[.int .u32 0, .int .u32 0, .int .u32 0, .int .u32 0, .int .u32 0, .int .u32 0, .int .u32 0, .int .u32 0] : Array Value) = (cellsK .u32 (List.replicate 8 0)).toArray := by kernel_rfl
theorem start_any (w : World) :
    Calls Tryz.prog 143 #[] w fun e w' => e = .returned (.agg (cellsK .u32 startN.list).toArray) ∧ Below w.heap.size w w' := by
  have hz8 : Hid ((List.replicate 8 0 : List Nat).length = 8) := Lib.hid rfl
  have hl8 : Hid (startN.list.length = 8) := Lib.hid rfl
  have h1 := Lib.hid (Row.new w .u32 199 (List.replicate 8 0))
  go_enter Tryz.func143, Tryz.ntmps143
  go_wp2_with (rw [size43z']; refine wpList_storeK 199 (.tmp 0) (.tmp 1) rfl rfl w.heap.size .u32 .u32 199 (List.replicate 8 0) startN.list 8 h1 rfl rfl size8w hl8 hz8 ?_)
  exact bodyPost_ret (resultsK rfl _ w.heap.size .u32 199 startN.list 8 138 rfl (h1.out.setRow startN.list) Tryz.underlying199 size8w hl8) rfl ⟨rfl, below_setRow ((Below.refl _ _).alloc (Nat.le_refl _) _) (Nat.le_refl _) _⟩

/-- The bytes of the eight words, the highest first. -/
def outN (s : St) : List Nat := (List.range 32).map fun p => s.list.getD (p / 4) 0 / 2 ^ (24 - 8 * (p % 4)) % 256
def outPS (s : St) (p : Nat) : List Nat := (outN s).take p ++ List.replicate (32 - p) 0
theorem outN_length (s : St) : (outN s).length = 32 := by simp [outN]
theorem outP_length (s : St) (p : Nat) (h : p ≤ 32) : (outPS s p).length = 32 := by
  unfold outPS
  rw [List.length_append, List.length_take, outN_length, List.length_replicate]
  omega
theorem outN_lt (s : St) : ∀ x ∈ outN s, x < 256 := by
  intro x hx
  obtain ⟨i, _, rfl⟩ := List.mem_map.1 hx
  exact Nat.mod_lt _ (by decide)
theorem outP_set (s : St) (i j : Nat) (hi : i < 8) (hj : j < 4) : (outPS s (4 * i + j)).set (4 * i + j) (s.list.getD i 0 / 2 ^ (24 - 8 * j) % 256) = outPS s (4 * i + (j + 1)) := by
  have hp : 4 * i + j < 32 := by omega
  have hl : ((outN s).take (4 * i + j)).length = 4 * i + j := by rw [List.length_take, outN_length]; omega
  have e : List.replicate (32 - (4 * i + j)) 0 = 0 :: List.replicate (32 - (4 * i + (j + 1))) 0 := by
    rw [show 32 - (4 * i + j) = (32 - (4 * i + (j + 1))) + 1 from by omega, List.replicate_succ]
  have et : (outN s).take (4 * i + (j + 1)) = (outN s).take (4 * i + j) ++ [s.list.getD i 0 / 2 ^ (24 - 8 * j) % 256] := by
    rw [show 4 * i + (j + 1) = (4 * i + j) + 1 from by omega, List.take_add_one]
    congr 1
    have h1 : (4 * i + j) / 4 = i := by omega
    have h2 : (4 * i + j) % 4 = j := by omega
    unfold outN
    rw [List.getElem?_map, List.getElem?_range hp]
    simp only [Option.map_some, h1, h2]
    rfl
  unfold outPS
  rw [e, et, List.set_append_right _ _ (by omega), hl, Nat.sub_self, List.set_cons_zero, List.append_assoc]
  rfl
end Go.Proofs.YtkjdjglknbgeaaaGreatDoor
