/-
  Contracts of math/bits.OnesCount64 and (*Bits).Len.
-/
import Derived.Test.YthijggnpkomdcaaBb
import Derived.Test.YthijggnpkomdcaaPop
import Derived.Laws.Bits128
namespace Go.Proofs.Ythijggnpkomdcaa
open Go.RowKit
set_option linter.unusedVariables false
set_option maxRecDepth 100000

theorem ones_any (w : World) (x : Nat) (hx : x < 18446744073709551616) : Calls Try.prog 93 #[.int .u64 (x : Int)] w fun e w' => e = .returned (.int .i64 (cnt x 64 : Int)) ∧ w = w' := by
  have hx' : (x : Int) < 18446744073709551616 := by omega
  have hx0 : (0 : Int) ≤ (x : Int) := by omega
  go_enter Try.func93, Try.ntmps93
  go_wp2
  go_ret
  refine ⟨ret_int ?_, rfl⟩
  have wr : ∀ y : Nat, y < 18446744073709551616 → IntKind.u64.wrap (y : Int) = (y : Int) := fun y hy => by
    have h3 : IntKind.u64.wrap (y : Int) = (y : Int) % 18446744073709551616 := by simp [IntKind.wrap, IntKind.bits, IntKind.signed]
    rw [h3]
    omega
  have le : ∀ a b : Nat, a &&& b ≤ b := fun a b => Nat.and_le_right
  obtain ⟨y1, h1⟩ : ∃ y1, y1 = (x / 2 &&& 6148914691236517205) + (x &&& 6148914691236517205) := ⟨_, rfl⟩
  have b1 : y1 < 18446744073709551616 := by have := le (x / 2) 6148914691236517205; have := le x 6148914691236517205; omega
  have E1 : IntKind.u64.wrap (bits .and .u64 ((x : Int) / 2) 6148914691236517205 + bits .and .u64 (x : Int) 6148914691236517205) = (y1 : Int) := by
    have e : (x : Int) / 2 = ((x / 2 : Nat) : Int) := by omega
    have k1 : bits .and .u64 (((x / 2 : Nat) : Int)) 6148914691236517205 = ((x / 2 &&& 6148914691236517205 : Nat) : Int) := u64_and_nat (x / 2) 6148914691236517205 (by omega) (by decide)
    have k2 : bits .and .u64 (x : Int) 6148914691236517205 = ((x &&& 6148914691236517205 : Nat) : Int) := u64_and_nat x 6148914691236517205 hx (by decide)
    rw [e, k1, k2, ← Int.natCast_add, ← h1]
    exact wr y1 b1
  obtain ⟨y2, h2⟩ : ∃ y2, y2 = (y1 / 4 &&& 3689348814741910323) + (y1 &&& 3689348814741910323) := ⟨_, rfl⟩
  have b2 : y2 ≤ 7378697629483820646 := by have := le (y1 / 4) 3689348814741910323; have := le y1 3689348814741910323; omega
  have E2 : IntKind.u64.wrap (bits .and .u64 ((y1 : Int) / 4) 3689348814741910323 + bits .and .u64 (y1 : Int) 3689348814741910323) = (y2 : Int) := by
    have e : (y1 : Int) / 4 = ((y1 / 4 : Nat) : Int) := by omega
    have k1 : bits .and .u64 (((y1 / 4 : Nat) : Int)) 3689348814741910323 = ((y1 / 4 &&& 3689348814741910323 : Nat) : Int) := u64_and_nat (y1 / 4) 3689348814741910323 (by omega) (by decide)
    have k2 : bits .and .u64 (y1 : Int) 3689348814741910323 = ((y1 &&& 3689348814741910323 : Nat) : Int) := u64_and_nat y1 3689348814741910323 b1 (by decide)
    rw [e, k1, k2, ← Int.natCast_add, ← h2]
    exact wr y2 (by omega)
  obtain ⟨y3, h3⟩ : ∃ y3, y3 = (y2 / 16 + y2) &&& 1085102592571150095 := ⟨_, rfl⟩
  have b3 : y3 ≤ 1085102592571150095 := by rw [h3]; exact le _ _
  have E3 : bits .and .u64 (IntKind.u64.wrap ((y2 : Int) / 16 + (y2 : Int))) 1085102592571150095 = (y3 : Int) := by
    have e : (y2 : Int) / 16 + (y2 : Int) = ((y2 / 16 + y2 : Nat) : Int) := by omega
    have k1 : bits .and .u64 (((y2 / 16 + y2 : Nat) : Int)) 1085102592571150095 = ((y2 / 16 + y2 &&& 1085102592571150095 : Nat) : Int) := u64_and_nat (y2 / 16 + y2) 1085102592571150095 (by omega) (by decide)
    rw [e, wr _ (by omega), k1, ← h3]
  obtain ⟨y4, h4⟩ : ∃ y4, y4 = y3 + y3 / 256 := ⟨_, rfl⟩
  have E4 : IntKind.u64.wrap ((y3 : Int) + (y3 : Int) / 256) = (y4 : Int) := by
    have e : (y3 : Int) + (y3 : Int) / 256 = (y4 : Int) := by omega
    rw [e]
    exact wr y4 (by omega)
  obtain ⟨y5, h5⟩ : ∃ y5, y5 = y4 + y4 / 65536 := ⟨_, rfl⟩
  have E5 : IntKind.u64.wrap ((y4 : Int) + (y4 : Int) / 65536) = (y5 : Int) := by
    have e : (y4 : Int) + (y4 : Int) / 65536 = (y5 : Int) := by omega
    rw [e]
    exact wr y5 (by omega)
  obtain ⟨y6, h6⟩ : ∃ y6, y6 = y5 + y5 / 4294967296 := ⟨_, rfl⟩
  have E6 : IntKind.u64.wrap ((y5 : Int) + (y5 : Int) / 4294967296) = (y6 : Int) := by
    have e : (y5 : Int) + (y5 : Int) / 4294967296 = (y6 : Int) := by omega
    rw [e]
    exact wr y6 (by omega)
  have E7 : wrap64 (y6 : Int) = (y6 : Int) := by unfold wrap64; omega
  rw [E1, E2, E3, E4, E5, E6, E7, i64_and127, ← swar x y1 y2 y3 y4 y5 y6 hx h1 h2 h3 h4 h5 h6]
  omega

/-- How many numbers are in it. -/
def lenW (ws : List Nat) : Nat := (ws.map fun x => cnt x 64).sum
theorem lenW_take (ws : List Nat) (k : Nat) (h : k < ws.length) : lenW (ws.take (k + 1)) = lenW (ws.take k) + cnt (wd ws k) 64 := by
  unfold lenW
  rw [List.take_succ_eq_append_getElem h, List.map_append, List.sum_append]
  simp [wd, List.getD, h]
theorem lenW_le (ws : List Nat) : lenW ws ≤ 64 * ws.length := by
  induction ws with
  | nil => exact Nat.le_refl _
  | cons x ws ih =>
    have h : lenW (x :: ws) = cnt x 64 + lenW ws := rfl
    have := cnt_le x 64
    rw [h, List.length_cons]
    omega
theorem len_nil (w : World) : Calls Try.prog 58 #[.pointer none] w fun e w' => e = .returned (.int .i64 0) ∧ w = w' := by
  go_enter Try.func58, Try.ntmps58
  go_wp2_with ((with_reducible refine (held_nil _).mono ?_); rintro e w' ⟨rfl, rfl⟩)
  go_loop [3, 9] (fun n i => n = .int .i64 0 ∧ i = .int .i64 0) (fun _ i => 0)
  case atStart => exact ⟨rfl, rfl⟩
  case round =>
    obtain ⟨rfl, rfl⟩ := hrel
    go_wp2
    go_ret
    exact ⟨rfl, rfl⟩
theorem len_any (w : World) (b : Nat) (v : Value) (ws : List Nat) (hS : SetG w b v ws) : Calls Try.prog 58 #[.pointer (some ⟨b, 0, none⟩)] w fun e w' => e = .returned (.int .i64 (lenW ws : Int)) ∧ w = w' := by
  obtain ⟨A, c, rfl, hW⟩ := hS.slice
  have hcell := hS.cell
  have hsh := hS.short
  have HS := Lib.hid hS
  have HW := Lib.hid hW
  clear hS hW
  obtain ⟨L, hL⟩ : ∃ L, ws.length = L := ⟨_, rfl⟩
  rw [hL] at hcell hsh
  rw [hL] at HW
  rw [hL] at HS
  have HL := Lib.hid hL
  clear hL
  go_enter Try.func58, Try.ntmps58
  go_wp2_with ((with_reducible refine (held_any _ _ _ hcell).mono ?_); rintro e w' ⟨rfl, rfl⟩)
  go_loop [3, 9] (fun n i => ∃ k : Nat, k ≤ L ∧ i = .int .i64 k ∧ n = .int .i64 (lenW (ws.take k))) (fun _ i => L - (intOf i).toNat)
  case atStart => exact ⟨0, by omega, rfl, rfl⟩
  case round =>
    obtain ⟨k, hk, rfl, rfl⟩ := hrel
    rcases Nat.lt_or_ge k L with hkn | hkn
    · obtain ⟨g, rfl, hg, hcs⟩ := HW.out.cells (by omega)
      have hck := hcs k hkn
      have hx := wd_lt HS.out.small k
      have ET : Hid (lenW (ws.take (k + 1)) = lenW (ws.take k) + cnt (wd ws k) 64) := Lib.hid (lenW_take ws k (by rw [HL.out]; exact hkn))
      have hle : lenW (ws.take k) ≤ 65536 := by
        have h1 := lenW_le (ws.take k)
        rw [List.length_take] at h1
        omega
      have hcl := cnt_le (wd ws k) 64
      clear hcs hg
      generalize lenW (ws.take k) = s at *
      generalize wd ws k = x at *
      have hkn' : (k : Int) < (L : Int) := by omega
      go_wp2_with ((with_reducible refine (ones_any _ _ hx).mono ?_); rintro e w' ⟨rfl, rfl⟩)
      go_round
      case rel => exact ⟨k + 1, by omega, by go_num, by rw [ET.out]; go_num⟩
      case measure => simp [intOf]; omega
    · obtain rfl : k = L := by omega
      go_wp2
      go_ret
      refine ⟨ret_int ?_, rfl⟩
      rw [List.take_of_length_le (by rw [HL.out]; exact Nat.le_refl _)]
end Go.Proofs.Ythijggnpkomdcaa
