/-
  Contracts of riscv.Step and of what it calls: what an instruction makes of two words, and where it goes on.
-/
import Derived.Test.YtadgemcpahfkoaaWordBinsW
namespace Go.Proofs.Ytadgemcpahfkoaa
open Go.RowKit
set_option linter.unusedVariables false
set_option linter.unusedSimpArgs false
set_option maxRecDepth 100000
namespace Rv
open WordBins

/-- Which operator of two words an instruction is; 0: none. -/
def mopN (op : Int) : Int :=
  if op = 2 ∨ op = 11 then 1 else if op = 12 then 2 else if op = 3 ∨ op = 14 then 11 else if op = 5 ∨ op = 16 then 10 else if op = 6 ∨ op = 19 then 9 else if op = 7 ∨ op = 20 then 8
  else if op = 8 ∨ op = 13 then 6 else if op = 10 ∨ op = 18 then 7 else if op = 21 then 3 else if op = 22 then 4 else if op = 23 then 5 else 0
theorem ops30 {op : Int} (h1 : 1 ≤ op) (h2 : op ≤ 30) : op = 1 ∨ op = 2 ∨ op = 3 ∨ op = 4 ∨ op = 5 ∨ op = 6 ∨ op = 7 ∨ op = 8 ∨ op = 9 ∨ op = 10 ∨ op = 11 ∨ op = 12 ∨ op = 13 ∨ op = 14 ∨ op = 15 ∨ op = 16 ∨ op = 17 ∨ op = 18 ∨ op = 19 ∨ op = 20 ∨ op = 21 ∨ op = 22 ∨ op = 23 ∨ op = 24 ∨ op = 25 ∨ op = 26 ∨ op = 27 ∨ op = 28 ∨ op = 29 ∨ op = 30 := by omega

theorem truth_riscv (b : Bool) (w : World) :
    Calls Try.prog 56 #[.bool b] w fun e w' => e = .returned (.int .i32 (truthI b)) ∧ w = w' := by
  cases b <;>
  · go_enter Try.func56, Try.ntmps56
    go_wp2
    go_ret
    exact ⟨rfl, rfl⟩
theorem operator_any (op : Int) (h1 : 1 ≤ op) (h2 : op ≤ 30) (w : World) :
    Calls Try.prog 58 #[.int .i64 op] w fun e w' => e = .returned (.int .i64 (mopN op)) ∧ w = w' := by
  rcases ops30 h1 h2 with rfl | rfl | rfl | rfl | rfl | rfl | rfl | rfl | rfl | rfl | rfl | rfl | rfl | rfl | rfl | rfl | rfl | rfl | rfl | rfl | rfl | rfl | rfl | rfl | rfl | rfl | rfl | rfl | rfl | rfl
  all_goals
    clear h1 h2
    go_enter Try.func58, Try.ntmps58
    go_wp2
    go_ret
    exact ⟨rfl, rfl⟩
theorem branched_any (is : Bool) (a1 a2 a3 a4 a5 n pc : Int) (s : ByteArray) (w : World) :
    Calls Try.prog 37 #[.bool is, .agg #[.int .i64 a1, .int .i64 a2, .int .i64 a3, .int .i64 a4, .int .i64 a5, .int .i32 n, .string s], .int .i32 pc] w fun e w' => e = .returned (.int .i32 (if is then wrap32 (pc + n) else wrap32 (pc + 4))) ∧ ∃ o, w' = w.alloc o := by
  cases is <;>
  · go_enter Try.func37, Try.ntmps37
    go_wp2
    go_ret
    exact ⟨by simp, _, rfl⟩

/-- What an instruction makes of two words. -/
def reckI (op a b : Int) : Int :=
  if op = 4 ∨ op = 15 then truthI (decide (a % 4294967296 < b % 4294967296))
  else if op = 9 ∨ op = 17 then wrap32 (a % 4294967296 / 2 ^ (b % 32).toNat)
  else if (binV (mopN op) a b).2 = false ∧ op = 22 then -1 else if (binV (mopN op) a b).2 = false ∧ op = 23 then a else (binV (mopN op) a b).1

theorem reckoned_1 (a b : Int) (w : World) :
    Calls Try.prog 38 #[.int .i64 1, .int .i32 a, .int .i32 b] w fun e w' => e = .returned (.int .i32 (reckI 1 a b)) ∧ w = w' := by
  have g1 : 0 ≤ b % 4294967296 % 32 := by omega
  have g2 : b % 4294967296 % 32 < 32 := by omega
  · have he : reckI 1 a b = (if (binV (mopN 1) a b).2 = false ∧ (1 : Int) = 22 then -1 else if (binV (mopN 1) a b).2 = false ∧ (1 : Int) = 23 then a else (binV (mopN 1) a b).1) := rfl
    rw [he]
    clear he
    generalize hr : binV (mopN 1) a b = r
    obtain ⟨v, ok⟩ := r
    have HR := Lib.hid hr
    clear hr
    go_enter Try.func38, Try.ntmps38
    cases ok
    all_goals
      go_wp2_with first
        | (go_at_call 58; refine (operator_any _ (by omega) (by omega) _).mono ?_; rintro e w' ⟨rfl, rfl⟩)
        | (go_at_call 57; refine (bin_any _ _ _ _).mono ?_; rw [HR.out]; rintro e w' ⟨rfl, rfl⟩)
      go_ret
      exact ⟨by simp, rfl⟩
theorem reckoned_2 (a b : Int) (w : World) :
    Calls Try.prog 38 #[.int .i64 2, .int .i32 a, .int .i32 b] w fun e w' => e = .returned (.int .i32 (reckI 2 a b)) ∧ w = w' := by
  have g1 : 0 ≤ b % 4294967296 % 32 := by omega
  have g2 : b % 4294967296 % 32 < 32 := by omega
  · have he : reckI 2 a b = (if (binV (mopN 2) a b).2 = false ∧ (2 : Int) = 22 then -1 else if (binV (mopN 2) a b).2 = false ∧ (2 : Int) = 23 then a else (binV (mopN 2) a b).1) := rfl
    rw [he]
    clear he
    generalize hr : binV (mopN 2) a b = r
    obtain ⟨v, ok⟩ := r
    have HR := Lib.hid hr
    clear hr
    go_enter Try.func38, Try.ntmps38
    cases ok
    all_goals
      go_wp2_with first
        | (go_at_call 58; refine (operator_any _ (by omega) (by omega) _).mono ?_; rintro e w' ⟨rfl, rfl⟩)
        | (go_at_call 57; refine (bin_any _ _ _ _).mono ?_; rw [HR.out]; rintro e w' ⟨rfl, rfl⟩)
      go_ret
      exact ⟨by simp, rfl⟩
theorem reckoned_3 (a b : Int) (w : World) :
    Calls Try.prog 38 #[.int .i64 3, .int .i32 a, .int .i32 b] w fun e w' => e = .returned (.int .i32 (reckI 3 a b)) ∧ w = w' := by
  have g1 : 0 ≤ b % 4294967296 % 32 := by omega
  have g2 : b % 4294967296 % 32 < 32 := by omega
  · have he : reckI 3 a b = (if (binV (mopN 3) a b).2 = false ∧ (3 : Int) = 22 then -1 else if (binV (mopN 3) a b).2 = false ∧ (3 : Int) = 23 then a else (binV (mopN 3) a b).1) := rfl
    rw [he]
    clear he
    generalize hr : binV (mopN 3) a b = r
    obtain ⟨v, ok⟩ := r
    have HR := Lib.hid hr
    clear hr
    go_enter Try.func38, Try.ntmps38
    cases ok
    all_goals
      go_wp2_with first
        | (go_at_call 58; refine (operator_any _ (by omega) (by omega) _).mono ?_; rintro e w' ⟨rfl, rfl⟩)
        | (go_at_call 57; refine (bin_any _ _ _ _).mono ?_; rw [HR.out]; rintro e w' ⟨rfl, rfl⟩)
      go_ret
      exact ⟨by simp, rfl⟩
theorem reckoned_4 (a b : Int) (w : World) :
    Calls Try.prog 38 #[.int .i64 4, .int .i32 a, .int .i32 b] w fun e w' => e = .returned (.int .i32 (reckI 4 a b)) ∧ w = w' := by
  have g1 : 0 ≤ b % 4294967296 % 32 := by omega
  have g2 : b % 4294967296 % 32 < 32 := by omega
  · go_enter Try.func38, Try.ntmps38
    go_wp2_with (go_at_call 56; refine (truth_riscv _ _).mono ?_; rintro e w' ⟨rfl, rfl⟩)
    go_ret
    exact ⟨rfl, rfl⟩
theorem reckoned_5 (a b : Int) (w : World) :
    Calls Try.prog 38 #[.int .i64 5, .int .i32 a, .int .i32 b] w fun e w' => e = .returned (.int .i32 (reckI 5 a b)) ∧ w = w' := by
  have g1 : 0 ≤ b % 4294967296 % 32 := by omega
  have g2 : b % 4294967296 % 32 < 32 := by omega
  · have he : reckI 5 a b = (if (binV (mopN 5) a b).2 = false ∧ (5 : Int) = 22 then -1 else if (binV (mopN 5) a b).2 = false ∧ (5 : Int) = 23 then a else (binV (mopN 5) a b).1) := rfl
    rw [he]
    clear he
    generalize hr : binV (mopN 5) a b = r
    obtain ⟨v, ok⟩ := r
    have HR := Lib.hid hr
    clear hr
    go_enter Try.func38, Try.ntmps38
    cases ok
    all_goals
      go_wp2_with first
        | (go_at_call 58; refine (operator_any _ (by omega) (by omega) _).mono ?_; rintro e w' ⟨rfl, rfl⟩)
        | (go_at_call 57; refine (bin_any _ _ _ _).mono ?_; rw [HR.out]; rintro e w' ⟨rfl, rfl⟩)
      go_ret
      exact ⟨by simp, rfl⟩
theorem reckoned_6 (a b : Int) (w : World) :
    Calls Try.prog 38 #[.int .i64 6, .int .i32 a, .int .i32 b] w fun e w' => e = .returned (.int .i32 (reckI 6 a b)) ∧ w = w' := by
  have g1 : 0 ≤ b % 4294967296 % 32 := by omega
  have g2 : b % 4294967296 % 32 < 32 := by omega
  · have he : reckI 6 a b = (if (binV (mopN 6) a b).2 = false ∧ (6 : Int) = 22 then -1 else if (binV (mopN 6) a b).2 = false ∧ (6 : Int) = 23 then a else (binV (mopN 6) a b).1) := rfl
    rw [he]
    clear he
    generalize hr : binV (mopN 6) a b = r
    obtain ⟨v, ok⟩ := r
    have HR := Lib.hid hr
    clear hr
    go_enter Try.func38, Try.ntmps38
    cases ok
    all_goals
      go_wp2_with first
        | (go_at_call 58; refine (operator_any _ (by omega) (by omega) _).mono ?_; rintro e w' ⟨rfl, rfl⟩)
        | (go_at_call 57; refine (bin_any _ _ _ _).mono ?_; rw [HR.out]; rintro e w' ⟨rfl, rfl⟩)
      go_ret
      exact ⟨by simp, rfl⟩
theorem reckoned_7 (a b : Int) (w : World) :
    Calls Try.prog 38 #[.int .i64 7, .int .i32 a, .int .i32 b] w fun e w' => e = .returned (.int .i32 (reckI 7 a b)) ∧ w = w' := by
  have g1 : 0 ≤ b % 4294967296 % 32 := by omega
  have g2 : b % 4294967296 % 32 < 32 := by omega
  · have he : reckI 7 a b = (if (binV (mopN 7) a b).2 = false ∧ (7 : Int) = 22 then -1 else if (binV (mopN 7) a b).2 = false ∧ (7 : Int) = 23 then a else (binV (mopN 7) a b).1) := rfl
    rw [he]
    clear he
    generalize hr : binV (mopN 7) a b = r
    obtain ⟨v, ok⟩ := r
    have HR := Lib.hid hr
    clear hr
    go_enter Try.func38, Try.ntmps38
    cases ok
    all_goals
      go_wp2_with first
        | (go_at_call 58; refine (operator_any _ (by omega) (by omega) _).mono ?_; rintro e w' ⟨rfl, rfl⟩)
        | (go_at_call 57; refine (bin_any _ _ _ _).mono ?_; rw [HR.out]; rintro e w' ⟨rfl, rfl⟩)
      go_ret
      exact ⟨by simp, rfl⟩
theorem reckoned_8 (a b : Int) (w : World) :
    Calls Try.prog 38 #[.int .i64 8, .int .i32 a, .int .i32 b] w fun e w' => e = .returned (.int .i32 (reckI 8 a b)) ∧ w = w' := by
  have g1 : 0 ≤ b % 4294967296 % 32 := by omega
  have g2 : b % 4294967296 % 32 < 32 := by omega
  · have he : reckI 8 a b = (if (binV (mopN 8) a b).2 = false ∧ (8 : Int) = 22 then -1 else if (binV (mopN 8) a b).2 = false ∧ (8 : Int) = 23 then a else (binV (mopN 8) a b).1) := rfl
    rw [he]
    clear he
    generalize hr : binV (mopN 8) a b = r
    obtain ⟨v, ok⟩ := r
    have HR := Lib.hid hr
    clear hr
    go_enter Try.func38, Try.ntmps38
    cases ok
    all_goals
      go_wp2_with first
        | (go_at_call 58; refine (operator_any _ (by omega) (by omega) _).mono ?_; rintro e w' ⟨rfl, rfl⟩)
        | (go_at_call 57; refine (bin_any _ _ _ _).mono ?_; rw [HR.out]; rintro e w' ⟨rfl, rfl⟩)
      go_ret
      exact ⟨by simp, rfl⟩
theorem reckoned_9 (a b : Int) (w : World) :
    Calls Try.prog 38 #[.int .i64 9, .int .i32 a, .int .i32 b] w fun e w' => e = .returned (.int .i32 (reckI 9 a b)) ∧ w = w' := by
  have g1 : 0 ≤ b % 4294967296 % 32 := by omega
  have g2 : b % 4294967296 % 32 < 32 := by omega
  · go_enter Try.func38, Try.ntmps38
    go_wp2
    go_ret
    exact ⟨rfl, rfl⟩
theorem reckoned_10 (a b : Int) (w : World) :
    Calls Try.prog 38 #[.int .i64 10, .int .i32 a, .int .i32 b] w fun e w' => e = .returned (.int .i32 (reckI 10 a b)) ∧ w = w' := by
  have g1 : 0 ≤ b % 4294967296 % 32 := by omega
  have g2 : b % 4294967296 % 32 < 32 := by omega
  · have he : reckI 10 a b = (if (binV (mopN 10) a b).2 = false ∧ (10 : Int) = 22 then -1 else if (binV (mopN 10) a b).2 = false ∧ (10 : Int) = 23 then a else (binV (mopN 10) a b).1) := rfl
    rw [he]
    clear he
    generalize hr : binV (mopN 10) a b = r
    obtain ⟨v, ok⟩ := r
    have HR := Lib.hid hr
    clear hr
    go_enter Try.func38, Try.ntmps38
    cases ok
    all_goals
      go_wp2_with first
        | (go_at_call 58; refine (operator_any _ (by omega) (by omega) _).mono ?_; rintro e w' ⟨rfl, rfl⟩)
        | (go_at_call 57; refine (bin_any _ _ _ _).mono ?_; rw [HR.out]; rintro e w' ⟨rfl, rfl⟩)
      go_ret
      exact ⟨by simp, rfl⟩
theorem reckoned_11 (a b : Int) (w : World) :
    Calls Try.prog 38 #[.int .i64 11, .int .i32 a, .int .i32 b] w fun e w' => e = .returned (.int .i32 (reckI 11 a b)) ∧ w = w' := by
  have g1 : 0 ≤ b % 4294967296 % 32 := by omega
  have g2 : b % 4294967296 % 32 < 32 := by omega
  · have he : reckI 11 a b = (if (binV (mopN 11) a b).2 = false ∧ (11 : Int) = 22 then -1 else if (binV (mopN 11) a b).2 = false ∧ (11 : Int) = 23 then a else (binV (mopN 11) a b).1) := rfl
    rw [he]
    clear he
    generalize hr : binV (mopN 11) a b = r
    obtain ⟨v, ok⟩ := r
    have HR := Lib.hid hr
    clear hr
    go_enter Try.func38, Try.ntmps38
    cases ok
    all_goals
      go_wp2_with first
        | (go_at_call 58; refine (operator_any _ (by omega) (by omega) _).mono ?_; rintro e w' ⟨rfl, rfl⟩)
        | (go_at_call 57; refine (bin_any _ _ _ _).mono ?_; rw [HR.out]; rintro e w' ⟨rfl, rfl⟩)
      go_ret
      exact ⟨by simp, rfl⟩
theorem reckoned_12 (a b : Int) (w : World) :
    Calls Try.prog 38 #[.int .i64 12, .int .i32 a, .int .i32 b] w fun e w' => e = .returned (.int .i32 (reckI 12 a b)) ∧ w = w' := by
  have g1 : 0 ≤ b % 4294967296 % 32 := by omega
  have g2 : b % 4294967296 % 32 < 32 := by omega
  · have he : reckI 12 a b = (if (binV (mopN 12) a b).2 = false ∧ (12 : Int) = 22 then -1 else if (binV (mopN 12) a b).2 = false ∧ (12 : Int) = 23 then a else (binV (mopN 12) a b).1) := rfl
    rw [he]
    clear he
    generalize hr : binV (mopN 12) a b = r
    obtain ⟨v, ok⟩ := r
    have HR := Lib.hid hr
    clear hr
    go_enter Try.func38, Try.ntmps38
    cases ok
    all_goals
      go_wp2_with first
        | (go_at_call 58; refine (operator_any _ (by omega) (by omega) _).mono ?_; rintro e w' ⟨rfl, rfl⟩)
        | (go_at_call 57; refine (bin_any _ _ _ _).mono ?_; rw [HR.out]; rintro e w' ⟨rfl, rfl⟩)
      go_ret
      exact ⟨by simp, rfl⟩
theorem reckoned_13 (a b : Int) (w : World) :
    Calls Try.prog 38 #[.int .i64 13, .int .i32 a, .int .i32 b] w fun e w' => e = .returned (.int .i32 (reckI 13 a b)) ∧ w = w' := by
  have g1 : 0 ≤ b % 4294967296 % 32 := by omega
  have g2 : b % 4294967296 % 32 < 32 := by omega
  · have he : reckI 13 a b = (if (binV (mopN 13) a b).2 = false ∧ (13 : Int) = 22 then -1 else if (binV (mopN 13) a b).2 = false ∧ (13 : Int) = 23 then a else (binV (mopN 13) a b).1) := rfl
    rw [he]
    clear he
    generalize hr : binV (mopN 13) a b = r
    obtain ⟨v, ok⟩ := r
    have HR := Lib.hid hr
    clear hr
    go_enter Try.func38, Try.ntmps38
    cases ok
    all_goals
      go_wp2_with first
        | (go_at_call 58; refine (operator_any _ (by omega) (by omega) _).mono ?_; rintro e w' ⟨rfl, rfl⟩)
        | (go_at_call 57; refine (bin_any _ _ _ _).mono ?_; rw [HR.out]; rintro e w' ⟨rfl, rfl⟩)
      go_ret
      exact ⟨by simp, rfl⟩
theorem reckoned_14 (a b : Int) (w : World) :
    Calls Try.prog 38 #[.int .i64 14, .int .i32 a, .int .i32 b] w fun e w' => e = .returned (.int .i32 (reckI 14 a b)) ∧ w = w' := by
  have g1 : 0 ≤ b % 4294967296 % 32 := by omega
  have g2 : b % 4294967296 % 32 < 32 := by omega
  · have he : reckI 14 a b = (if (binV (mopN 14) a b).2 = false ∧ (14 : Int) = 22 then -1 else if (binV (mopN 14) a b).2 = false ∧ (14 : Int) = 23 then a else (binV (mopN 14) a b).1) := rfl
    rw [he]
    clear he
    generalize hr : binV (mopN 14) a b = r
    obtain ⟨v, ok⟩ := r
    have HR := Lib.hid hr
    clear hr
    go_enter Try.func38, Try.ntmps38
    cases ok
    all_goals
      go_wp2_with first
        | (go_at_call 58; refine (operator_any _ (by omega) (by omega) _).mono ?_; rintro e w' ⟨rfl, rfl⟩)
        | (go_at_call 57; refine (bin_any _ _ _ _).mono ?_; rw [HR.out]; rintro e w' ⟨rfl, rfl⟩)
      go_ret
      exact ⟨by simp, rfl⟩
theorem reckoned_15 (a b : Int) (w : World) :
    Calls Try.prog 38 #[.int .i64 15, .int .i32 a, .int .i32 b] w fun e w' => e = .returned (.int .i32 (reckI 15 a b)) ∧ w = w' := by
  have g1 : 0 ≤ b % 4294967296 % 32 := by omega
  have g2 : b % 4294967296 % 32 < 32 := by omega
  · go_enter Try.func38, Try.ntmps38
    go_wp2_with (go_at_call 56; refine (truth_riscv _ _).mono ?_; rintro e w' ⟨rfl, rfl⟩)
    go_ret
    exact ⟨rfl, rfl⟩
theorem reckoned_16 (a b : Int) (w : World) :
    Calls Try.prog 38 #[.int .i64 16, .int .i32 a, .int .i32 b] w fun e w' => e = .returned (.int .i32 (reckI 16 a b)) ∧ w = w' := by
  have g1 : 0 ≤ b % 4294967296 % 32 := by omega
  have g2 : b % 4294967296 % 32 < 32 := by omega
  · have he : reckI 16 a b = (if (binV (mopN 16) a b).2 = false ∧ (16 : Int) = 22 then -1 else if (binV (mopN 16) a b).2 = false ∧ (16 : Int) = 23 then a else (binV (mopN 16) a b).1) := rfl
    rw [he]
    clear he
    generalize hr : binV (mopN 16) a b = r
    obtain ⟨v, ok⟩ := r
    have HR := Lib.hid hr
    clear hr
    go_enter Try.func38, Try.ntmps38
    cases ok
    all_goals
      go_wp2_with first
        | (go_at_call 58; refine (operator_any _ (by omega) (by omega) _).mono ?_; rintro e w' ⟨rfl, rfl⟩)
        | (go_at_call 57; refine (bin_any _ _ _ _).mono ?_; rw [HR.out]; rintro e w' ⟨rfl, rfl⟩)
      go_ret
      exact ⟨by simp, rfl⟩
theorem reckoned_17 (a b : Int) (w : World) :
    Calls Try.prog 38 #[.int .i64 17, .int .i32 a, .int .i32 b] w fun e w' => e = .returned (.int .i32 (reckI 17 a b)) ∧ w = w' := by
  have g1 : 0 ≤ b % 4294967296 % 32 := by omega
  have g2 : b % 4294967296 % 32 < 32 := by omega
  · go_enter Try.func38, Try.ntmps38
    go_wp2
    go_ret
    exact ⟨rfl, rfl⟩
theorem reckoned_18 (a b : Int) (w : World) :
    Calls Try.prog 38 #[.int .i64 18, .int .i32 a, .int .i32 b] w fun e w' => e = .returned (.int .i32 (reckI 18 a b)) ∧ w = w' := by
  have g1 : 0 ≤ b % 4294967296 % 32 := by omega
  have g2 : b % 4294967296 % 32 < 32 := by omega
  · have he : reckI 18 a b = (if (binV (mopN 18) a b).2 = false ∧ (18 : Int) = 22 then -1 else if (binV (mopN 18) a b).2 = false ∧ (18 : Int) = 23 then a else (binV (mopN 18) a b).1) := rfl
    rw [he]
    clear he
    generalize hr : binV (mopN 18) a b = r
    obtain ⟨v, ok⟩ := r
    have HR := Lib.hid hr
    clear hr
    go_enter Try.func38, Try.ntmps38
    cases ok
    all_goals
      go_wp2_with first
        | (go_at_call 58; refine (operator_any _ (by omega) (by omega) _).mono ?_; rintro e w' ⟨rfl, rfl⟩)
        | (go_at_call 57; refine (bin_any _ _ _ _).mono ?_; rw [HR.out]; rintro e w' ⟨rfl, rfl⟩)
      go_ret
      exact ⟨by simp, rfl⟩
theorem reckoned_19 (a b : Int) (w : World) :
    Calls Try.prog 38 #[.int .i64 19, .int .i32 a, .int .i32 b] w fun e w' => e = .returned (.int .i32 (reckI 19 a b)) ∧ w = w' := by
  have g1 : 0 ≤ b % 4294967296 % 32 := by omega
  have g2 : b % 4294967296 % 32 < 32 := by omega
  · have he : reckI 19 a b = (if (binV (mopN 19) a b).2 = false ∧ (19 : Int) = 22 then -1 else if (binV (mopN 19) a b).2 = false ∧ (19 : Int) = 23 then a else (binV (mopN 19) a b).1) := rfl
    rw [he]
    clear he
    generalize hr : binV (mopN 19) a b = r
    obtain ⟨v, ok⟩ := r
    have HR := Lib.hid hr
    clear hr
    go_enter Try.func38, Try.ntmps38
    cases ok
    all_goals
      go_wp2_with first
        | (go_at_call 58; refine (operator_any _ (by omega) (by omega) _).mono ?_; rintro e w' ⟨rfl, rfl⟩)
        | (go_at_call 57; refine (bin_any _ _ _ _).mono ?_; rw [HR.out]; rintro e w' ⟨rfl, rfl⟩)
      go_ret
      exact ⟨by simp, rfl⟩
theorem reckoned_20 (a b : Int) (w : World) :
    Calls Try.prog 38 #[.int .i64 20, .int .i32 a, .int .i32 b] w fun e w' => e = .returned (.int .i32 (reckI 20 a b)) ∧ w = w' := by
  have g1 : 0 ≤ b % 4294967296 % 32 := by omega
  have g2 : b % 4294967296 % 32 < 32 := by omega
  · have he : reckI 20 a b = (if (binV (mopN 20) a b).2 = false ∧ (20 : Int) = 22 then -1 else if (binV (mopN 20) a b).2 = false ∧ (20 : Int) = 23 then a else (binV (mopN 20) a b).1) := rfl
    rw [he]
    clear he
    generalize hr : binV (mopN 20) a b = r
    obtain ⟨v, ok⟩ := r
    have HR := Lib.hid hr
    clear hr
    go_enter Try.func38, Try.ntmps38
    cases ok
    all_goals
      go_wp2_with first
        | (go_at_call 58; refine (operator_any _ (by omega) (by omega) _).mono ?_; rintro e w' ⟨rfl, rfl⟩)
        | (go_at_call 57; refine (bin_any _ _ _ _).mono ?_; rw [HR.out]; rintro e w' ⟨rfl, rfl⟩)
      go_ret
      exact ⟨by simp, rfl⟩
theorem reckoned_21 (a b : Int) (w : World) :
    Calls Try.prog 38 #[.int .i64 21, .int .i32 a, .int .i32 b] w fun e w' => e = .returned (.int .i32 (reckI 21 a b)) ∧ w = w' := by
  have g1 : 0 ≤ b % 4294967296 % 32 := by omega
  have g2 : b % 4294967296 % 32 < 32 := by omega
  · have he : reckI 21 a b = (if (binV (mopN 21) a b).2 = false ∧ (21 : Int) = 22 then -1 else if (binV (mopN 21) a b).2 = false ∧ (21 : Int) = 23 then a else (binV (mopN 21) a b).1) := rfl
    rw [he]
    clear he
    generalize hr : binV (mopN 21) a b = r
    obtain ⟨v, ok⟩ := r
    have HR := Lib.hid hr
    clear hr
    go_enter Try.func38, Try.ntmps38
    cases ok
    all_goals
      go_wp2_with first
        | (go_at_call 58; refine (operator_any _ (by omega) (by omega) _).mono ?_; rintro e w' ⟨rfl, rfl⟩)
        | (go_at_call 57; refine (bin_any _ _ _ _).mono ?_; rw [HR.out]; rintro e w' ⟨rfl, rfl⟩)
      go_ret
      exact ⟨by simp, rfl⟩
theorem reckoned_22 (a b : Int) (w : World) :
    Calls Try.prog 38 #[.int .i64 22, .int .i32 a, .int .i32 b] w fun e w' => e = .returned (.int .i32 (reckI 22 a b)) ∧ w = w' := by
  have g1 : 0 ≤ b % 4294967296 % 32 := by omega
  have g2 : b % 4294967296 % 32 < 32 := by omega
  · have he : reckI 22 a b = (if (binV (mopN 22) a b).2 = false ∧ (22 : Int) = 22 then -1 else if (binV (mopN 22) a b).2 = false ∧ (22 : Int) = 23 then a else (binV (mopN 22) a b).1) := rfl
    rw [he]
    clear he
    generalize hr : binV (mopN 22) a b = r
    obtain ⟨v, ok⟩ := r
    have HR := Lib.hid hr
    clear hr
    go_enter Try.func38, Try.ntmps38
    cases ok
    all_goals
      go_wp2_with first
        | (go_at_call 58; refine (operator_any _ (by omega) (by omega) _).mono ?_; rintro e w' ⟨rfl, rfl⟩)
        | (go_at_call 57; refine (bin_any _ _ _ _).mono ?_; rw [HR.out]; rintro e w' ⟨rfl, rfl⟩)
      go_ret
      exact ⟨by simp, rfl⟩
theorem reckoned_23 (a b : Int) (w : World) :
    Calls Try.prog 38 #[.int .i64 23, .int .i32 a, .int .i32 b] w fun e w' => e = .returned (.int .i32 (reckI 23 a b)) ∧ w = w' := by
  have g1 : 0 ≤ b % 4294967296 % 32 := by omega
  have g2 : b % 4294967296 % 32 < 32 := by omega
  · have he : reckI 23 a b = (if (binV (mopN 23) a b).2 = false ∧ (23 : Int) = 22 then -1 else if (binV (mopN 23) a b).2 = false ∧ (23 : Int) = 23 then a else (binV (mopN 23) a b).1) := rfl
    rw [he]
    clear he
    generalize hr : binV (mopN 23) a b = r
    obtain ⟨v, ok⟩ := r
    have HR := Lib.hid hr
    clear hr
    go_enter Try.func38, Try.ntmps38
    cases ok
    all_goals
      go_wp2_with first
        | (go_at_call 58; refine (operator_any _ (by omega) (by omega) _).mono ?_; rintro e w' ⟨rfl, rfl⟩)
        | (go_at_call 57; refine (bin_any _ _ _ _).mono ?_; rw [HR.out]; rintro e w' ⟨rfl, rfl⟩)
      go_ret
      exact ⟨by simp, rfl⟩
theorem reckoned_24 (a b : Int) (w : World) :
    Calls Try.prog 38 #[.int .i64 24, .int .i32 a, .int .i32 b] w fun e w' => e = .returned (.int .i32 (reckI 24 a b)) ∧ w = w' := by
  have g1 : 0 ≤ b % 4294967296 % 32 := by omega
  have g2 : b % 4294967296 % 32 < 32 := by omega
  · have he : reckI 24 a b = (if (binV (mopN 24) a b).2 = false ∧ (24 : Int) = 22 then -1 else if (binV (mopN 24) a b).2 = false ∧ (24 : Int) = 23 then a else (binV (mopN 24) a b).1) := rfl
    rw [he]
    clear he
    generalize hr : binV (mopN 24) a b = r
    obtain ⟨v, ok⟩ := r
    have HR := Lib.hid hr
    clear hr
    go_enter Try.func38, Try.ntmps38
    cases ok
    all_goals
      go_wp2_with first
        | (go_at_call 58; refine (operator_any _ (by omega) (by omega) _).mono ?_; rintro e w' ⟨rfl, rfl⟩)
        | (go_at_call 57; refine (bin_any _ _ _ _).mono ?_; rw [HR.out]; rintro e w' ⟨rfl, rfl⟩)
      go_ret
      exact ⟨by simp, rfl⟩
theorem reckoned_25 (a b : Int) (w : World) :
    Calls Try.prog 38 #[.int .i64 25, .int .i32 a, .int .i32 b] w fun e w' => e = .returned (.int .i32 (reckI 25 a b)) ∧ w = w' := by
  have g1 : 0 ≤ b % 4294967296 % 32 := by omega
  have g2 : b % 4294967296 % 32 < 32 := by omega
  · have he : reckI 25 a b = (if (binV (mopN 25) a b).2 = false ∧ (25 : Int) = 22 then -1 else if (binV (mopN 25) a b).2 = false ∧ (25 : Int) = 23 then a else (binV (mopN 25) a b).1) := rfl
    rw [he]
    clear he
    generalize hr : binV (mopN 25) a b = r
    obtain ⟨v, ok⟩ := r
    have HR := Lib.hid hr
    clear hr
    go_enter Try.func38, Try.ntmps38
    cases ok
    all_goals
      go_wp2_with first
        | (go_at_call 58; refine (operator_any _ (by omega) (by omega) _).mono ?_; rintro e w' ⟨rfl, rfl⟩)
        | (go_at_call 57; refine (bin_any _ _ _ _).mono ?_; rw [HR.out]; rintro e w' ⟨rfl, rfl⟩)
      go_ret
      exact ⟨by simp, rfl⟩
theorem reckoned_26 (a b : Int) (w : World) :
    Calls Try.prog 38 #[.int .i64 26, .int .i32 a, .int .i32 b] w fun e w' => e = .returned (.int .i32 (reckI 26 a b)) ∧ w = w' := by
  have g1 : 0 ≤ b % 4294967296 % 32 := by omega
  have g2 : b % 4294967296 % 32 < 32 := by omega
  · have he : reckI 26 a b = (if (binV (mopN 26) a b).2 = false ∧ (26 : Int) = 22 then -1 else if (binV (mopN 26) a b).2 = false ∧ (26 : Int) = 23 then a else (binV (mopN 26) a b).1) := rfl
    rw [he]
    clear he
    generalize hr : binV (mopN 26) a b = r
    obtain ⟨v, ok⟩ := r
    have HR := Lib.hid hr
    clear hr
    go_enter Try.func38, Try.ntmps38
    cases ok
    all_goals
      go_wp2_with first
        | (go_at_call 58; refine (operator_any _ (by omega) (by omega) _).mono ?_; rintro e w' ⟨rfl, rfl⟩)
        | (go_at_call 57; refine (bin_any _ _ _ _).mono ?_; rw [HR.out]; rintro e w' ⟨rfl, rfl⟩)
      go_ret
      exact ⟨by simp, rfl⟩
theorem reckoned_27 (a b : Int) (w : World) :
    Calls Try.prog 38 #[.int .i64 27, .int .i32 a, .int .i32 b] w fun e w' => e = .returned (.int .i32 (reckI 27 a b)) ∧ w = w' := by
  have g1 : 0 ≤ b % 4294967296 % 32 := by omega
  have g2 : b % 4294967296 % 32 < 32 := by omega
  · have he : reckI 27 a b = (if (binV (mopN 27) a b).2 = false ∧ (27 : Int) = 22 then -1 else if (binV (mopN 27) a b).2 = false ∧ (27 : Int) = 23 then a else (binV (mopN 27) a b).1) := rfl
    rw [he]
    clear he
    generalize hr : binV (mopN 27) a b = r
    obtain ⟨v, ok⟩ := r
    have HR := Lib.hid hr
    clear hr
    go_enter Try.func38, Try.ntmps38
    cases ok
    all_goals
      go_wp2_with first
        | (go_at_call 58; refine (operator_any _ (by omega) (by omega) _).mono ?_; rintro e w' ⟨rfl, rfl⟩)
        | (go_at_call 57; refine (bin_any _ _ _ _).mono ?_; rw [HR.out]; rintro e w' ⟨rfl, rfl⟩)
      go_ret
      exact ⟨by simp, rfl⟩
theorem reckoned_28 (a b : Int) (w : World) :
    Calls Try.prog 38 #[.int .i64 28, .int .i32 a, .int .i32 b] w fun e w' => e = .returned (.int .i32 (reckI 28 a b)) ∧ w = w' := by
  have g1 : 0 ≤ b % 4294967296 % 32 := by omega
  have g2 : b % 4294967296 % 32 < 32 := by omega
  · have he : reckI 28 a b = (if (binV (mopN 28) a b).2 = false ∧ (28 : Int) = 22 then -1 else if (binV (mopN 28) a b).2 = false ∧ (28 : Int) = 23 then a else (binV (mopN 28) a b).1) := rfl
    rw [he]
    clear he
    generalize hr : binV (mopN 28) a b = r
    obtain ⟨v, ok⟩ := r
    have HR := Lib.hid hr
    clear hr
    go_enter Try.func38, Try.ntmps38
    cases ok
    all_goals
      go_wp2_with first
        | (go_at_call 58; refine (operator_any _ (by omega) (by omega) _).mono ?_; rintro e w' ⟨rfl, rfl⟩)
        | (go_at_call 57; refine (bin_any _ _ _ _).mono ?_; rw [HR.out]; rintro e w' ⟨rfl, rfl⟩)
      go_ret
      exact ⟨by simp, rfl⟩
theorem reckoned_29 (a b : Int) (w : World) :
    Calls Try.prog 38 #[.int .i64 29, .int .i32 a, .int .i32 b] w fun e w' => e = .returned (.int .i32 (reckI 29 a b)) ∧ w = w' := by
  have g1 : 0 ≤ b % 4294967296 % 32 := by omega
  have g2 : b % 4294967296 % 32 < 32 := by omega
  · have he : reckI 29 a b = (if (binV (mopN 29) a b).2 = false ∧ (29 : Int) = 22 then -1 else if (binV (mopN 29) a b).2 = false ∧ (29 : Int) = 23 then a else (binV (mopN 29) a b).1) := rfl
    rw [he]
    clear he
    generalize hr : binV (mopN 29) a b = r
    obtain ⟨v, ok⟩ := r
    have HR := Lib.hid hr
    clear hr
    go_enter Try.func38, Try.ntmps38
    cases ok
    all_goals
      go_wp2_with first
        | (go_at_call 58; refine (operator_any _ (by omega) (by omega) _).mono ?_; rintro e w' ⟨rfl, rfl⟩)
        | (go_at_call 57; refine (bin_any _ _ _ _).mono ?_; rw [HR.out]; rintro e w' ⟨rfl, rfl⟩)
      go_ret
      exact ⟨by simp, rfl⟩
theorem reckoned_30 (a b : Int) (w : World) :
    Calls Try.prog 38 #[.int .i64 30, .int .i32 a, .int .i32 b] w fun e w' => e = .returned (.int .i32 (reckI 30 a b)) ∧ w = w' := by
  have g1 : 0 ≤ b % 4294967296 % 32 := by omega
  have g2 : b % 4294967296 % 32 < 32 := by omega
  · have he : reckI 30 a b = (if (binV (mopN 30) a b).2 = false ∧ (30 : Int) = 22 then -1 else if (binV (mopN 30) a b).2 = false ∧ (30 : Int) = 23 then a else (binV (mopN 30) a b).1) := rfl
    rw [he]
    clear he
    generalize hr : binV (mopN 30) a b = r
    obtain ⟨v, ok⟩ := r
    have HR := Lib.hid hr
    clear hr
    go_enter Try.func38, Try.ntmps38
    cases ok
    all_goals
      go_wp2_with first
        | (go_at_call 58; refine (operator_any _ (by omega) (by omega) _).mono ?_; rintro e w' ⟨rfl, rfl⟩)
        | (go_at_call 57; refine (bin_any _ _ _ _).mono ?_; rw [HR.out]; rintro e w' ⟨rfl, rfl⟩)
      go_ret
      exact ⟨by simp, rfl⟩
theorem reckoned_any (op : Int) (h1 : 1 ≤ op) (h2 : op ≤ 30) (a b : Int) (w : World) :
    Calls Try.prog 38 #[.int .i64 op, .int .i32 a, .int .i32 b] w fun e w' => e = .returned (.int .i32 (reckI op a b)) ∧ w = w' := by
  rcases ops30 h1 h2 with rfl | rfl | rfl | rfl | rfl | rfl | rfl | rfl | rfl | rfl | rfl | rfl | rfl | rfl | rfl | rfl | rfl | rfl | rfl | rfl | rfl | rfl | rfl | rfl | rfl | rfl | rfl | rfl | rfl | rfl
  · exact reckoned_1 a b w
  · exact reckoned_2 a b w
  · exact reckoned_3 a b w
  · exact reckoned_4 a b w
  · exact reckoned_5 a b w
  · exact reckoned_6 a b w
  · exact reckoned_7 a b w
  · exact reckoned_8 a b w
  · exact reckoned_9 a b w
  · exact reckoned_10 a b w
  · exact reckoned_11 a b w
  · exact reckoned_12 a b w
  · exact reckoned_13 a b w
  · exact reckoned_14 a b w
  · exact reckoned_15 a b w
  · exact reckoned_16 a b w
  · exact reckoned_17 a b w
  · exact reckoned_18 a b w
  · exact reckoned_19 a b w
  · exact reckoned_20 a b w
  · exact reckoned_21 a b w
  · exact reckoned_22 a b w
  · exact reckoned_23 a b w
  · exact reckoned_24 a b w
  · exact reckoned_25 a b w
  · exact reckoned_26 a b w
  · exact reckoned_27 a b w
  · exact reckoned_28 a b w
  · exact reckoned_29 a b w
  · exact reckoned_30 a b w
end Rv
end Go.Proofs.Ytadgemcpahfkoaa
