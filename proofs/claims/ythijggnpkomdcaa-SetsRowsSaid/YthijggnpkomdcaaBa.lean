/-
  Contracts of (*Bits).held and (*Bits).Has.
-/
import Derived.Test.YthijggnpkomdcaaWd
namespace Go.Proofs.Ythijggnpkomdcaa
open Go.RowKit
set_option linter.unusedVariables false
set_option maxRecDepth 100000

theorem held_nil (w : World) : Calls Try.prog 92 #[.pointer none] w fun e w' => e = .returned (.slice none 0 0) ∧ w = w' := by
  go_enter Try.func92, Try.ntmps92
  go_wp2
  go_ret
  exact ⟨rfl, rfl⟩
theorem held_any (w : World) (b : Nat) (v : Value) (hc : w.cell? ⟨b, 0, none⟩ = some v) : Calls Try.prog 92 #[.pointer (some ⟨b, 0, none⟩)] w fun e w' => e = .returned v ∧ w = w' := by
  go_enter Try.func92, Try.ntmps92
  go_wp2
  go_ret
  exact ⟨rfl, rfl⟩
theorem bit_asked (x r : Nat) (hx : x < 18446744073709551616) : (bits .and .u64 ((x : Int) / 2 ^ r) 1 == 1) = x.testBit r := by
  have h1 : x / 2 ^ r ≤ x := Nat.div_le_self _ _
  have e : (x : Int) / 2 ^ r = ((x / 2 ^ r : Nat) : Int) := by simp
  have h := u64_and_nat (x / 2 ^ r) 1 (by omega) (by decide)
  rw [nat_mask1] at h
  have h2 : bits .and .u64 (((x / 2 ^ r : Nat) : Int)) 1 = ((x / 2 ^ r % 2 : Nat) : Int) := h
  rw [e, h2, Nat.testBit_eq_decide_div_mod_eq, Bool.eq_iff_iff]
  simp only [beq_iff_eq, decide_eq_true_eq]
  omega
theorem has_nil (w : World) (n : Int) (hi : n ≤ 9223372036854775807) : Calls Try.prog 59 #[.pointer none, .int .i64 n] w fun e w' => e = .returned (.bool false) ∧ w = w' := by
  by_cases hn : n < 0
  · go_enter Try.func59, Try.ntmps59
    go_wp2_with ((with_reducible refine (held_nil _).mono ?_); rintro e w' ⟨rfl, rfl⟩)
    go_ret
    exact ⟨rfl, rfl⟩
  · have h0 : 0 ≤ n := by omega
    obtain ⟨q, hq⟩ : ∃ q : Nat, n / 64 = (q : Int) := ⟨(n / 64).toNat, by omega⟩
    have hq0 : ¬ (q : Int) < 0 := by omega
    clear hn
    go_enter Try.func59, Try.ntmps59
    go_wp2_with ((with_reducible refine (held_nil _).mono ?_); rintro e w' ⟨rfl, rfl⟩)
    go_ret
    exact ⟨rfl, rfl⟩
theorem has_neg (w : World) (b : Nat) (v : Value) (ws : List Nat) (hS : SetG w b v ws) (n : Int) (hn : n < 0) :
    Calls Try.prog 59 #[.pointer (some ⟨b, 0, none⟩), .int .i64 n] w fun e w' => e = .returned (.bool false) ∧ w = w' := by
  obtain ⟨A, c, rfl, hW⟩ := hS.slice
  have hcell := hS.cell
  have HS := Lib.hid hS
  have HW := Lib.hid hW
  clear hS hW
  go_enter Try.func59, Try.ntmps59
  go_wp2_with ((with_reducible refine (held_any _ _ _ hcell).mono ?_); rintro e w' ⟨rfl, rfl⟩)
  go_ret
  exact ⟨rfl, rfl⟩
theorem has_far (w : World) (b : Nat) (v : Value) (ws : List Nat) (hS : SetG w b v ws) (n q r : Nat) (hn : ws.length ≤ q) (hq : (n : Int) / 64 = (q : Int)) (hi : n ≤ 9223372036854775807) :
    Calls Try.prog 59 #[.pointer (some ⟨b, 0, none⟩), .int .i64 (n : Int)] w fun e w' => e = .returned (.bool false) ∧ w = w' := by
  obtain ⟨A, c, rfl, hW⟩ := hS.slice
  have hcell := hS.cell
  have hsh := hS.short
  have HS := Lib.hid hS
  have HW := Lib.hid hW
  clear hS hW
  have h0 : (0 : Int) ≤ (n : Int) := by omega
  generalize ws.length = k at *
  go_enter Try.func59, Try.ntmps59
  go_wp2_with ((with_reducible refine (held_any _ _ _ hcell).mono ?_); rintro e w' ⟨rfl, rfl⟩)
  go_ret
  exact ⟨rfl, rfl⟩
theorem has_near (w : World) (b : Nat) (v : Value) (ws : List Nat) (hS : SetG w b v ws) (n q r x : Nat) (hn : q < ws.length) (hq : (n : Int) / 64 = (q : Int)) (hr : (n : Int) % 64 = (r : Int)) (hi : n ≤ 9223372036854775807) (hx : wd ws q = x) :
    Calls Try.prog 59 #[.pointer (some ⟨b, 0, none⟩), .int .i64 (n : Int)] w fun e w' => e = .returned (.bool (x.testBit r)) ∧ w = w' := by
  obtain ⟨A, c, rfl, hW⟩ := hS.slice
  have hcell := hS.cell
  obtain ⟨g, rfl, hg, hcs⟩ := hW.cells (by omega)
  have hk := hcs q hn
  have hlt := wd_lt hS.small q
  rw [hx] at hk hlt
  have hsh := hS.short
  have HS := Lib.hid hS
  have HW := Lib.hid hW
  clear hS hW hcs hx
  have h0 : (0 : Int) ≤ (n : Int) := by omega
  have hn' : (q : Int) < (ws.length : Int) := by omega
  have hq0 : (0 : Int) ≤ (q : Int) := by omega
  have hr0 : (0 : Int) ≤ (r : Int) := by omega
  have hr1 : (r : Int) < 64 := by omega
  generalize ws.length = k at *
  go_enter Try.func59, Try.ntmps59
  go_wp2_with ((with_reducible refine (held_any _ _ _ hcell).mono ?_); rintro e w' ⟨rfl, rfl⟩)
  go_ret
  exact ⟨ret_bool (bit_asked _ _ hlt), rfl⟩

/-- Is n in it? For every n. -/
def hasZ (ws : List Nat) (n : Int) : Bool := decide (0 ≤ n) && mem ws n.toNat
theorem hasZ_neg (ws : List Nat) (n : Int) (h : n < 0) : hasZ ws n = false := by
  unfold hasZ
  rw [decide_eq_false (by omega)]
  rfl
theorem hasZ_nat (ws : List Nat) (n : Nat) : hasZ ws (n : Int) = mem ws n := by
  unfold hasZ
  rw [decide_eq_true (by omega)]
  rfl
theorem has_any (w : World) (b : Nat) (v : Value) (ws : List Nat) (hS : SetG w b v ws) (n : Int) (hi : n ≤ 9223372036854775807) :
    Calls Try.prog 59 #[.pointer (some ⟨b, 0, none⟩), .int .i64 n] w fun e w' => e = .returned (.bool (hasZ ws n)) ∧ w = w' := by
  rcases Int.lt_or_le n 0 with h | h
  · rw [hasZ_neg ws n h]
    exact has_neg w b v ws hS n h
  · obtain ⟨m, rfl⟩ := Int.eq_ofNat_of_zero_le h
    have e := hasZ_nat ws m
    rw [e]
    rcases Nat.lt_or_ge (m / 64) ws.length with hm | hm
    · exact has_near w b v ws hS m (m / 64) (m % 64) _ hm (by omega) (by omega) (by omega) rfl
    · rw [mem_ge ws m (by omega)]
      exact has_far w b v ws hS m (m / 64) 0 hm (by omega) (by omega)
end Go.Proofs.Ythijggnpkomdcaa
