/-
  Contracts of layer 7's functions over texts: words, names, signs.
-/
import Derived.Test.YtkpgkobhnldhpaaDoorLxA
namespace Go.Proofs.YtkpgkobhnldhpaaDoor
open Go.RowKit
set_option linter.unusedVariables false

def signAB (a b : Nat) : Nat :=
  if a = 60 ∨ a = 62 then (if b = a ∨ b = 61 then 2 else 1)
  else if a = 61 ∨ a = 33 then (if b = 61 then 2 else 1)
  else if a = 38 ∨ a = 124 then (if b = a then 2 else 1)
  else if a ∈ [43, 45, 42, 47, 37, 94, 126, 40, 41, 123, 125, 91, 93, 44, 59] then 1 else 0
theorem signAB_eq (l : List UInt8) : signN l = signAB (l.getD 0 0).toNat (l.getD 1 0).toNat := rfl
-- signs begin
set_option maxRecDepth 100000 in
theorem sign_60 (s : ByteArray) (b : Nat) (w : World) (H0 : Hid (Calls Tryd.prog 51 #[.string s, .int .i64 0] w fun e w' => e = .returned (.int .u8 60) ∧ w = w')) (H1 : Hid (Calls Tryd.prog 51 #[.string s, .int .i64 1] w fun e w' => e = .returned (.int .u8 (b : Int)) ∧ w = w')) :
    Calls Tryd.prog 43 #[.string s] w fun e w' => e = .returned (.int .i64 (signAB 60 b : Int)) ∧ w = w' := by
  have H : Hid (signAB 60 b = if b = 60 ∨ b = 61 then 2 else 1) := Lib.hid rfl
  by_cases h1 : ((b : Int) == 60) = true <;> by_cases h2 : ((b : Int) == 61) = true
  all_goals
    go_enter Tryd.func43, Tryd.ntmps43
    go_wp2_with (first | ((with_reducible refine H0.out.mono ?_); rintro e w' ⟨rfl, rfl⟩) | ((with_reducible refine H1.out.mono ?_); rintro e w' ⟨rfl, rfl⟩))
    go_ret
    refine ⟨ret_int ?_, rfl⟩
    rw [H.out]
    simp only [beq_iff_eq] at h1 h2
    first | (rw [if_pos (by omega)]; rfl) | (rw [if_neg (by omega)]; rfl)
set_option maxRecDepth 100000 in
theorem sign_62 (s : ByteArray) (b : Nat) (w : World) (H0 : Hid (Calls Tryd.prog 51 #[.string s, .int .i64 0] w fun e w' => e = .returned (.int .u8 62) ∧ w = w')) (H1 : Hid (Calls Tryd.prog 51 #[.string s, .int .i64 1] w fun e w' => e = .returned (.int .u8 (b : Int)) ∧ w = w')) :
    Calls Tryd.prog 43 #[.string s] w fun e w' => e = .returned (.int .i64 (signAB 62 b : Int)) ∧ w = w' := by
  have H : Hid (signAB 62 b = if b = 62 ∨ b = 61 then 2 else 1) := Lib.hid rfl
  by_cases h1 : ((b : Int) == 62) = true <;> by_cases h2 : ((b : Int) == 61) = true
  all_goals
    go_enter Tryd.func43, Tryd.ntmps43
    go_wp2_with (first | ((with_reducible refine H0.out.mono ?_); rintro e w' ⟨rfl, rfl⟩) | ((with_reducible refine H1.out.mono ?_); rintro e w' ⟨rfl, rfl⟩))
    go_ret
    refine ⟨ret_int ?_, rfl⟩
    rw [H.out]
    simp only [beq_iff_eq] at h1 h2
    first | (rw [if_pos (by omega)]; rfl) | (rw [if_neg (by omega)]; rfl)
set_option maxRecDepth 100000 in
theorem sign_61 (s : ByteArray) (b : Nat) (w : World) (H0 : Hid (Calls Tryd.prog 51 #[.string s, .int .i64 0] w fun e w' => e = .returned (.int .u8 61) ∧ w = w')) (H1 : Hid (Calls Tryd.prog 51 #[.string s, .int .i64 1] w fun e w' => e = .returned (.int .u8 (b : Int)) ∧ w = w')) :
    Calls Tryd.prog 43 #[.string s] w fun e w' => e = .returned (.int .i64 (signAB 61 b : Int)) ∧ w = w' := by
  have H : Hid (signAB 61 b = if b = 61 then 2 else 1) := Lib.hid rfl
  by_cases h1 : ((b : Int) == 61) = true
  all_goals
    go_enter Tryd.func43, Tryd.ntmps43
    go_wp2_with (first | ((with_reducible refine H0.out.mono ?_); rintro e w' ⟨rfl, rfl⟩) | ((with_reducible refine H1.out.mono ?_); rintro e w' ⟨rfl, rfl⟩))
    go_ret
    refine ⟨ret_int ?_, rfl⟩
    rw [H.out]
    simp only [beq_iff_eq] at h1
    first | (rw [if_pos (by omega)]; rfl) | (rw [if_neg (by omega)]; rfl)
set_option maxRecDepth 100000 in
theorem sign_33 (s : ByteArray) (b : Nat) (w : World) (H0 : Hid (Calls Tryd.prog 51 #[.string s, .int .i64 0] w fun e w' => e = .returned (.int .u8 33) ∧ w = w')) (H1 : Hid (Calls Tryd.prog 51 #[.string s, .int .i64 1] w fun e w' => e = .returned (.int .u8 (b : Int)) ∧ w = w')) :
    Calls Tryd.prog 43 #[.string s] w fun e w' => e = .returned (.int .i64 (signAB 33 b : Int)) ∧ w = w' := by
  have H : Hid (signAB 33 b = if b = 61 then 2 else 1) := Lib.hid rfl
  by_cases h1 : ((b : Int) == 61) = true
  all_goals
    go_enter Tryd.func43, Tryd.ntmps43
    go_wp2_with (first | ((with_reducible refine H0.out.mono ?_); rintro e w' ⟨rfl, rfl⟩) | ((with_reducible refine H1.out.mono ?_); rintro e w' ⟨rfl, rfl⟩))
    go_ret
    refine ⟨ret_int ?_, rfl⟩
    rw [H.out]
    simp only [beq_iff_eq] at h1
    first | (rw [if_pos (by omega)]; rfl) | (rw [if_neg (by omega)]; rfl)
set_option maxRecDepth 100000 in
theorem sign_38 (s : ByteArray) (b : Nat) (w : World) (H0 : Hid (Calls Tryd.prog 51 #[.string s, .int .i64 0] w fun e w' => e = .returned (.int .u8 38) ∧ w = w')) (H1 : Hid (Calls Tryd.prog 51 #[.string s, .int .i64 1] w fun e w' => e = .returned (.int .u8 (b : Int)) ∧ w = w')) :
    Calls Tryd.prog 43 #[.string s] w fun e w' => e = .returned (.int .i64 (signAB 38 b : Int)) ∧ w = w' := by
  have H : Hid (signAB 38 b = if b = 38 then 2 else 1) := Lib.hid rfl
  by_cases h1 : ((b : Int) == 38) = true
  all_goals
    go_enter Tryd.func43, Tryd.ntmps43
    go_wp2_with (first | ((with_reducible refine H0.out.mono ?_); rintro e w' ⟨rfl, rfl⟩) | ((with_reducible refine H1.out.mono ?_); rintro e w' ⟨rfl, rfl⟩))
    go_ret
    refine ⟨ret_int ?_, rfl⟩
    rw [H.out]
    simp only [beq_iff_eq] at h1
    first | (rw [if_pos (by omega)]; rfl) | (rw [if_neg (by omega)]; rfl)
set_option maxRecDepth 100000 in
theorem sign_124 (s : ByteArray) (b : Nat) (w : World) (H0 : Hid (Calls Tryd.prog 51 #[.string s, .int .i64 0] w fun e w' => e = .returned (.int .u8 124) ∧ w = w')) (H1 : Hid (Calls Tryd.prog 51 #[.string s, .int .i64 1] w fun e w' => e = .returned (.int .u8 (b : Int)) ∧ w = w')) :
    Calls Tryd.prog 43 #[.string s] w fun e w' => e = .returned (.int .i64 (signAB 124 b : Int)) ∧ w = w' := by
  have H : Hid (signAB 124 b = if b = 124 then 2 else 1) := Lib.hid rfl
  by_cases h1 : ((b : Int) == 124) = true
  all_goals
    go_enter Tryd.func43, Tryd.ntmps43
    go_wp2_with (first | ((with_reducible refine H0.out.mono ?_); rintro e w' ⟨rfl, rfl⟩) | ((with_reducible refine H1.out.mono ?_); rintro e w' ⟨rfl, rfl⟩))
    go_ret
    refine ⟨ret_int ?_, rfl⟩
    rw [H.out]
    simp only [beq_iff_eq] at h1
    first | (rw [if_pos (by omega)]; rfl) | (rw [if_neg (by omega)]; rfl)
set_option maxRecDepth 100000 in
theorem sign_43 (s : ByteArray) (b : Nat) (w : World) (H0 : Hid (Calls Tryd.prog 51 #[.string s, .int .i64 0] w fun e w' => e = .returned (.int .u8 43) ∧ w = w')) (H1 : Hid (Calls Tryd.prog 51 #[.string s, .int .i64 1] w fun e w' => e = .returned (.int .u8 (b : Int)) ∧ w = w')) :
    Calls Tryd.prog 43 #[.string s] w fun e w' => e = .returned (.int .i64 (signAB 43 b : Int)) ∧ w = w' := by
  go_enter Tryd.func43, Tryd.ntmps43
  go_wp2_with (first | ((with_reducible refine H0.out.mono ?_); rintro e w' ⟨rfl, rfl⟩) | ((with_reducible refine H1.out.mono ?_); rintro e w' ⟨rfl, rfl⟩))
  go_ret
  exact ⟨rfl, rfl⟩
set_option maxRecDepth 100000 in
theorem sign_45 (s : ByteArray) (b : Nat) (w : World) (H0 : Hid (Calls Tryd.prog 51 #[.string s, .int .i64 0] w fun e w' => e = .returned (.int .u8 45) ∧ w = w')) (H1 : Hid (Calls Tryd.prog 51 #[.string s, .int .i64 1] w fun e w' => e = .returned (.int .u8 (b : Int)) ∧ w = w')) :
    Calls Tryd.prog 43 #[.string s] w fun e w' => e = .returned (.int .i64 (signAB 45 b : Int)) ∧ w = w' := by
  go_enter Tryd.func43, Tryd.ntmps43
  go_wp2_with (first | ((with_reducible refine H0.out.mono ?_); rintro e w' ⟨rfl, rfl⟩) | ((with_reducible refine H1.out.mono ?_); rintro e w' ⟨rfl, rfl⟩))
  go_ret
  exact ⟨rfl, rfl⟩
set_option maxRecDepth 100000 in
theorem sign_42 (s : ByteArray) (b : Nat) (w : World) (H0 : Hid (Calls Tryd.prog 51 #[.string s, .int .i64 0] w fun e w' => e = .returned (.int .u8 42) ∧ w = w')) (H1 : Hid (Calls Tryd.prog 51 #[.string s, .int .i64 1] w fun e w' => e = .returned (.int .u8 (b : Int)) ∧ w = w')) :
    Calls Tryd.prog 43 #[.string s] w fun e w' => e = .returned (.int .i64 (signAB 42 b : Int)) ∧ w = w' := by
  go_enter Tryd.func43, Tryd.ntmps43
  go_wp2_with (first | ((with_reducible refine H0.out.mono ?_); rintro e w' ⟨rfl, rfl⟩) | ((with_reducible refine H1.out.mono ?_); rintro e w' ⟨rfl, rfl⟩))
  go_ret
  exact ⟨rfl, rfl⟩
set_option maxRecDepth 100000 in
theorem sign_47 (s : ByteArray) (b : Nat) (w : World) (H0 : Hid (Calls Tryd.prog 51 #[.string s, .int .i64 0] w fun e w' => e = .returned (.int .u8 47) ∧ w = w')) (H1 : Hid (Calls Tryd.prog 51 #[.string s, .int .i64 1] w fun e w' => e = .returned (.int .u8 (b : Int)) ∧ w = w')) :
    Calls Tryd.prog 43 #[.string s] w fun e w' => e = .returned (.int .i64 (signAB 47 b : Int)) ∧ w = w' := by
  go_enter Tryd.func43, Tryd.ntmps43
  go_wp2_with (first | ((with_reducible refine H0.out.mono ?_); rintro e w' ⟨rfl, rfl⟩) | ((with_reducible refine H1.out.mono ?_); rintro e w' ⟨rfl, rfl⟩))
  go_ret
  exact ⟨rfl, rfl⟩
set_option maxRecDepth 100000 in
theorem sign_37 (s : ByteArray) (b : Nat) (w : World) (H0 : Hid (Calls Tryd.prog 51 #[.string s, .int .i64 0] w fun e w' => e = .returned (.int .u8 37) ∧ w = w')) (H1 : Hid (Calls Tryd.prog 51 #[.string s, .int .i64 1] w fun e w' => e = .returned (.int .u8 (b : Int)) ∧ w = w')) :
    Calls Tryd.prog 43 #[.string s] w fun e w' => e = .returned (.int .i64 (signAB 37 b : Int)) ∧ w = w' := by
  go_enter Tryd.func43, Tryd.ntmps43
  go_wp2_with (first | ((with_reducible refine H0.out.mono ?_); rintro e w' ⟨rfl, rfl⟩) | ((with_reducible refine H1.out.mono ?_); rintro e w' ⟨rfl, rfl⟩))
  go_ret
  exact ⟨rfl, rfl⟩
set_option maxRecDepth 100000 in
theorem sign_94 (s : ByteArray) (b : Nat) (w : World) (H0 : Hid (Calls Tryd.prog 51 #[.string s, .int .i64 0] w fun e w' => e = .returned (.int .u8 94) ∧ w = w')) (H1 : Hid (Calls Tryd.prog 51 #[.string s, .int .i64 1] w fun e w' => e = .returned (.int .u8 (b : Int)) ∧ w = w')) :
    Calls Tryd.prog 43 #[.string s] w fun e w' => e = .returned (.int .i64 (signAB 94 b : Int)) ∧ w = w' := by
  go_enter Tryd.func43, Tryd.ntmps43
  go_wp2_with (first | ((with_reducible refine H0.out.mono ?_); rintro e w' ⟨rfl, rfl⟩) | ((with_reducible refine H1.out.mono ?_); rintro e w' ⟨rfl, rfl⟩))
  go_ret
  exact ⟨rfl, rfl⟩
set_option maxRecDepth 100000 in
theorem sign_126 (s : ByteArray) (b : Nat) (w : World) (H0 : Hid (Calls Tryd.prog 51 #[.string s, .int .i64 0] w fun e w' => e = .returned (.int .u8 126) ∧ w = w')) (H1 : Hid (Calls Tryd.prog 51 #[.string s, .int .i64 1] w fun e w' => e = .returned (.int .u8 (b : Int)) ∧ w = w')) :
    Calls Tryd.prog 43 #[.string s] w fun e w' => e = .returned (.int .i64 (signAB 126 b : Int)) ∧ w = w' := by
  go_enter Tryd.func43, Tryd.ntmps43
  go_wp2_with (first | ((with_reducible refine H0.out.mono ?_); rintro e w' ⟨rfl, rfl⟩) | ((with_reducible refine H1.out.mono ?_); rintro e w' ⟨rfl, rfl⟩))
  go_ret
  exact ⟨rfl, rfl⟩
set_option maxRecDepth 100000 in
theorem sign_40 (s : ByteArray) (b : Nat) (w : World) (H0 : Hid (Calls Tryd.prog 51 #[.string s, .int .i64 0] w fun e w' => e = .returned (.int .u8 40) ∧ w = w')) (H1 : Hid (Calls Tryd.prog 51 #[.string s, .int .i64 1] w fun e w' => e = .returned (.int .u8 (b : Int)) ∧ w = w')) :
    Calls Tryd.prog 43 #[.string s] w fun e w' => e = .returned (.int .i64 (signAB 40 b : Int)) ∧ w = w' := by
  go_enter Tryd.func43, Tryd.ntmps43
  go_wp2_with (first | ((with_reducible refine H0.out.mono ?_); rintro e w' ⟨rfl, rfl⟩) | ((with_reducible refine H1.out.mono ?_); rintro e w' ⟨rfl, rfl⟩))
  go_ret
  exact ⟨rfl, rfl⟩
set_option maxRecDepth 100000 in
theorem sign_41 (s : ByteArray) (b : Nat) (w : World) (H0 : Hid (Calls Tryd.prog 51 #[.string s, .int .i64 0] w fun e w' => e = .returned (.int .u8 41) ∧ w = w')) (H1 : Hid (Calls Tryd.prog 51 #[.string s, .int .i64 1] w fun e w' => e = .returned (.int .u8 (b : Int)) ∧ w = w')) :
    Calls Tryd.prog 43 #[.string s] w fun e w' => e = .returned (.int .i64 (signAB 41 b : Int)) ∧ w = w' := by
  go_enter Tryd.func43, Tryd.ntmps43
  go_wp2_with (first | ((with_reducible refine H0.out.mono ?_); rintro e w' ⟨rfl, rfl⟩) | ((with_reducible refine H1.out.mono ?_); rintro e w' ⟨rfl, rfl⟩))
  go_ret
  exact ⟨rfl, rfl⟩
set_option maxRecDepth 100000 in
theorem sign_123 (s : ByteArray) (b : Nat) (w : World) (H0 : Hid (Calls Tryd.prog 51 #[.string s, .int .i64 0] w fun e w' => e = .returned (.int .u8 123) ∧ w = w')) (H1 : Hid (Calls Tryd.prog 51 #[.string s, .int .i64 1] w fun e w' => e = .returned (.int .u8 (b : Int)) ∧ w = w')) :
    Calls Tryd.prog 43 #[.string s] w fun e w' => e = .returned (.int .i64 (signAB 123 b : Int)) ∧ w = w' := by
  go_enter Tryd.func43, Tryd.ntmps43
  go_wp2_with (first | ((with_reducible refine H0.out.mono ?_); rintro e w' ⟨rfl, rfl⟩) | ((with_reducible refine H1.out.mono ?_); rintro e w' ⟨rfl, rfl⟩))
  go_ret
  exact ⟨rfl, rfl⟩
set_option maxRecDepth 100000 in
theorem sign_125 (s : ByteArray) (b : Nat) (w : World) (H0 : Hid (Calls Tryd.prog 51 #[.string s, .int .i64 0] w fun e w' => e = .returned (.int .u8 125) ∧ w = w')) (H1 : Hid (Calls Tryd.prog 51 #[.string s, .int .i64 1] w fun e w' => e = .returned (.int .u8 (b : Int)) ∧ w = w')) :
    Calls Tryd.prog 43 #[.string s] w fun e w' => e = .returned (.int .i64 (signAB 125 b : Int)) ∧ w = w' := by
  go_enter Tryd.func43, Tryd.ntmps43
  go_wp2_with (first | ((with_reducible refine H0.out.mono ?_); rintro e w' ⟨rfl, rfl⟩) | ((with_reducible refine H1.out.mono ?_); rintro e w' ⟨rfl, rfl⟩))
  go_ret
  exact ⟨rfl, rfl⟩
set_option maxRecDepth 100000 in
theorem sign_91 (s : ByteArray) (b : Nat) (w : World) (H0 : Hid (Calls Tryd.prog 51 #[.string s, .int .i64 0] w fun e w' => e = .returned (.int .u8 91) ∧ w = w')) (H1 : Hid (Calls Tryd.prog 51 #[.string s, .int .i64 1] w fun e w' => e = .returned (.int .u8 (b : Int)) ∧ w = w')) :
    Calls Tryd.prog 43 #[.string s] w fun e w' => e = .returned (.int .i64 (signAB 91 b : Int)) ∧ w = w' := by
  go_enter Tryd.func43, Tryd.ntmps43
  go_wp2_with (first | ((with_reducible refine H0.out.mono ?_); rintro e w' ⟨rfl, rfl⟩) | ((with_reducible refine H1.out.mono ?_); rintro e w' ⟨rfl, rfl⟩))
  go_ret
  exact ⟨rfl, rfl⟩
set_option maxRecDepth 100000 in
theorem sign_93 (s : ByteArray) (b : Nat) (w : World) (H0 : Hid (Calls Tryd.prog 51 #[.string s, .int .i64 0] w fun e w' => e = .returned (.int .u8 93) ∧ w = w')) (H1 : Hid (Calls Tryd.prog 51 #[.string s, .int .i64 1] w fun e w' => e = .returned (.int .u8 (b : Int)) ∧ w = w')) :
    Calls Tryd.prog 43 #[.string s] w fun e w' => e = .returned (.int .i64 (signAB 93 b : Int)) ∧ w = w' := by
  go_enter Tryd.func43, Tryd.ntmps43
  go_wp2_with (first | ((with_reducible refine H0.out.mono ?_); rintro e w' ⟨rfl, rfl⟩) | ((with_reducible refine H1.out.mono ?_); rintro e w' ⟨rfl, rfl⟩))
  go_ret
  exact ⟨rfl, rfl⟩
set_option maxRecDepth 100000 in
theorem sign_44 (s : ByteArray) (b : Nat) (w : World) (H0 : Hid (Calls Tryd.prog 51 #[.string s, .int .i64 0] w fun e w' => e = .returned (.int .u8 44) ∧ w = w')) (H1 : Hid (Calls Tryd.prog 51 #[.string s, .int .i64 1] w fun e w' => e = .returned (.int .u8 (b : Int)) ∧ w = w')) :
    Calls Tryd.prog 43 #[.string s] w fun e w' => e = .returned (.int .i64 (signAB 44 b : Int)) ∧ w = w' := by
  go_enter Tryd.func43, Tryd.ntmps43
  go_wp2_with (first | ((with_reducible refine H0.out.mono ?_); rintro e w' ⟨rfl, rfl⟩) | ((with_reducible refine H1.out.mono ?_); rintro e w' ⟨rfl, rfl⟩))
  go_ret
  exact ⟨rfl, rfl⟩
set_option maxRecDepth 100000 in
theorem sign_59 (s : ByteArray) (b : Nat) (w : World) (H0 : Hid (Calls Tryd.prog 51 #[.string s, .int .i64 0] w fun e w' => e = .returned (.int .u8 59) ∧ w = w')) (H1 : Hid (Calls Tryd.prog 51 #[.string s, .int .i64 1] w fun e w' => e = .returned (.int .u8 (b : Int)) ∧ w = w')) :
    Calls Tryd.prog 43 #[.string s] w fun e w' => e = .returned (.int .i64 (signAB 59 b : Int)) ∧ w = w' := by
  go_enter Tryd.func43, Tryd.ntmps43
  go_wp2_with (first | ((with_reducible refine H0.out.mono ?_); rintro e w' ⟨rfl, rfl⟩) | ((with_reducible refine H1.out.mono ?_); rintro e w' ⟨rfl, rfl⟩))
  go_ret
  exact ⟨rfl, rfl⟩
set_option maxRecDepth 100000 in
theorem sign_none (s : ByteArray) (b : Nat) (a : Nat) (h60 : ((a : Int) == 60) = false) (h62 : ((a : Int) == 62) = false) (h61 : ((a : Int) == 61) = false) (h33 : ((a : Int) == 33) = false) (h38 : ((a : Int) == 38) = false) (h124 : ((a : Int) == 124) = false) (h43 : ((a : Int) == 43) = false) (h45 : ((a : Int) == 45) = false) (h42 : ((a : Int) == 42) = false) (h47 : ((a : Int) == 47) = false) (h37 : ((a : Int) == 37) = false) (h94 : ((a : Int) == 94) = false) (h126 : ((a : Int) == 126) = false) (h40 : ((a : Int) == 40) = false) (h41 : ((a : Int) == 41) = false) (h123 : ((a : Int) == 123) = false) (h125 : ((a : Int) == 125) = false) (h91 : ((a : Int) == 91) = false) (h93 : ((a : Int) == 93) = false) (h44 : ((a : Int) == 44) = false) (h59 : ((a : Int) == 59) = false) (w : World) (H0 : Hid (Calls Tryd.prog 51 #[.string s, .int .i64 0] w fun e w' => e = .returned (.int .u8 (a : Int)) ∧ w = w')) (H1 : Hid (Calls Tryd.prog 51 #[.string s, .int .i64 1] w fun e w' => e = .returned (.int .u8 (b : Int)) ∧ w = w')) :
    Calls Tryd.prog 43 #[.string s] w fun e w' => e = .returned (.int .i64 (signAB a b : Int)) ∧ w = w' := by
  have H : Hid (signAB a b = 0) := Lib.hid (by
    simp only [beq_eq_false_iff_ne, ne_eq] at *
    unfold signAB
    rw [if_neg (by omega), if_neg (by omega), if_neg (by omega), if_neg (by simp; omega)])
  go_enter Tryd.func43, Tryd.ntmps43
  go_wp2_with (first | ((with_reducible refine H0.out.mono ?_); rintro e w' ⟨rfl, rfl⟩) | ((with_reducible refine H1.out.mono ?_); rintro e w' ⟨rfl, rfl⟩))
  go_ret
  exact ⟨by rw [H.out]; rfl, rfl⟩
theorem sign_any (s : ByteArray) (hs : s.size ≤ 9223372036854775807) (w : World) : Calls Tryd.prog 43 #[.string s] w fun e w' => e = .returned (.int .i64 (signN s.data.toList : Int)) ∧ w = w' := by
  rw [signAB_eq s.data.toList]
  have H0 := Lib.hid (byteAt_any s 0 (by omega) hs w)
  have H1 := Lib.hid (byteAt_any s 1 (by omega) hs w)
  rw [show ((0 : Nat) : Int) = 0 from rfl] at H0
  rw [show ((1 : Nat) : Int) = 1 from rfl] at H1
  generalize (s.data.toList.getD 0 0).toNat = a at *
  generalize (s.data.toList.getD 1 0).toNat = b at *
  by_cases h60 : a = 60
  · subst h60; exact sign_60 s b w H0 H1
  by_cases h62 : a = 62
  · subst h62; exact sign_62 s b w H0 H1
  by_cases h61 : a = 61
  · subst h61; exact sign_61 s b w H0 H1
  by_cases h33 : a = 33
  · subst h33; exact sign_33 s b w H0 H1
  by_cases h38 : a = 38
  · subst h38; exact sign_38 s b w H0 H1
  by_cases h124 : a = 124
  · subst h124; exact sign_124 s b w H0 H1
  by_cases h43 : a = 43
  · subst h43; exact sign_43 s b w H0 H1
  by_cases h45 : a = 45
  · subst h45; exact sign_45 s b w H0 H1
  by_cases h42 : a = 42
  · subst h42; exact sign_42 s b w H0 H1
  by_cases h47 : a = 47
  · subst h47; exact sign_47 s b w H0 H1
  by_cases h37 : a = 37
  · subst h37; exact sign_37 s b w H0 H1
  by_cases h94 : a = 94
  · subst h94; exact sign_94 s b w H0 H1
  by_cases h126 : a = 126
  · subst h126; exact sign_126 s b w H0 H1
  by_cases h40 : a = 40
  · subst h40; exact sign_40 s b w H0 H1
  by_cases h41 : a = 41
  · subst h41; exact sign_41 s b w H0 H1
  by_cases h123 : a = 123
  · subst h123; exact sign_123 s b w H0 H1
  by_cases h125 : a = 125
  · subst h125; exact sign_125 s b w H0 H1
  by_cases h91 : a = 91
  · subst h91; exact sign_91 s b w H0 H1
  by_cases h93 : a = 93
  · subst h93; exact sign_93 s b w H0 H1
  by_cases h44 : a = 44
  · subst h44; exact sign_44 s b w H0 H1
  by_cases h59 : a = 59
  · subst h59; exact sign_59 s b w H0 H1
  exact sign_none s b a (by rw [beq_eq_false_iff_ne]; omega) (by rw [beq_eq_false_iff_ne]; omega) (by rw [beq_eq_false_iff_ne]; omega) (by rw [beq_eq_false_iff_ne]; omega) (by rw [beq_eq_false_iff_ne]; omega) (by rw [beq_eq_false_iff_ne]; omega) (by rw [beq_eq_false_iff_ne]; omega) (by rw [beq_eq_false_iff_ne]; omega) (by rw [beq_eq_false_iff_ne]; omega) (by rw [beq_eq_false_iff_ne]; omega) (by rw [beq_eq_false_iff_ne]; omega) (by rw [beq_eq_false_iff_ne]; omega) (by rw [beq_eq_false_iff_ne]; omega) (by rw [beq_eq_false_iff_ne]; omega) (by rw [beq_eq_false_iff_ne]; omega) (by rw [beq_eq_false_iff_ne]; omega) (by rw [beq_eq_false_iff_ne]; omega) (by rw [beq_eq_false_iff_ne]; omega) (by rw [beq_eq_false_iff_ne]; omega) (by rw [beq_eq_false_iff_ne]; omega) (by rw [beq_eq_false_iff_ne]; omega) w H0 H1
theorem wordB_eq (s : ByteArray) : wordB s.data.toList = ((s.toList == [105, 110, 116]) || (s.toList == [105, 102]) || (s.toList == [101, 108, 115, 101]) || (s.toList == [119, 104, 105, 108, 101]) || (s.toList == [98, 114, 101, 97, 107]) || (s.toList == [99, 111, 110, 116, 105, 110, 117, 101]) || (s.toList == [114, 101, 116, 117, 114, 110]) || (s.toList == [112, 114, 105, 110, 116]) || (s.toList == [114, 101, 97, 100])) := by
  rw [ba_toList]
  unfold wordB wordsL
  rw [Bool.eq_iff_iff]
  simp [or_assoc]
theorem isWord_any (s : ByteArray) (w : World) : Calls Tryd.prog 18 #[.string s] w fun e w' => e = .returned (.bool (wordB s.data.toList)) ∧ w = w' := by
  have H := Lib.hid (wordB_eq s)
  go_enter Tryd.func18, Tryd.ntmps18
  go_wp2
  all_goals
    first
    | (exfalso; simp_all; done)
    | (go_ret
       refine ⟨ret_bool ?_, rfl⟩
       rw [H.out]
       simp [*])
end Go.Proofs.YtkpgkobhnldhpaaDoor
