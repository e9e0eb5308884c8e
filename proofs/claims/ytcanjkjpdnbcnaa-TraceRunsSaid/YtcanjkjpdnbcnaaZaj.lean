/-
  Contracts of package word's reckoning functions: what word.Bin and word.Un answer for each operator, said with plain integers; and that the document's examples are as it says ('lives').
  The document's examples are as it says: the helper 'lives' of the first layer's statements answers true, and nothing that was there is written.
  Contracts of the document's own small functions: the word that is the same modulo 2^32, a truth as a word.
-/
import Derived.Test.YtcanjkjpdnbcnaaRows
import Derived.Test.YtcanjkjpdnbcnaaZae
import Derived.WalkKit
import Derived.WalkSpells
import Derived.WalkLawsBesides
import Derived.Below
import Derived.Test.YtcanjkjpdnbcnaaZad
namespace Go.Proofs.Ytcanjkjpdnbcnaa
open Go.RowKit

def truthI (b : Bool) : Int := if b = true then 1 else 0

theorem truth_any (b : Bool) (w : World) :
    Calls Try.prog 48 #[.bool b] w fun e w' => e = .returned (.int .i32 (truthI b)) ∧ w = w' := by
  cases b <;>
  · go_enter Try.func48, Try.ntmps48
    go_wp2
    go_ret
    exact ⟨rfl, rfl⟩

set_option maxHeartbeats 400000 in
theorem bin_add (a b : Int) (w : World) :
    Calls Try.prog 40 #[.int .i64 1, .int .i32 a, .int .i32 b] w fun e w' => e = .returned (.tuple #[.int .i32 (wrap32 (a + b)), .bool true]) ∧ w = w' := by
  go_enter Try.func40, Try.ntmps40
  go_wp2
  go_ret2
  exact ⟨rfl, rfl⟩

set_option maxHeartbeats 400000 in
theorem bin_sub (a b : Int) (w : World) :
    Calls Try.prog 40 #[.int .i64 2, .int .i32 a, .int .i32 b] w fun e w' => e = .returned (.tuple #[.int .i32 (wrap32 (a - b)), .bool true]) ∧ w = w' := by
  go_enter Try.func40, Try.ntmps40
  go_wp2
  go_ret2
  exact ⟨rfl, rfl⟩

set_option maxHeartbeats 400000 in
theorem bin_mul (a b : Int) (w : World) :
    Calls Try.prog 40 #[.int .i64 3, .int .i32 a, .int .i32 b] w fun e w' => e = .returned (.tuple #[.int .i32 (wrap32 (a * b)), .bool true]) ∧ w = w' := by
  go_enter Try.func40, Try.ntmps40
  go_wp2
  go_ret2
  exact ⟨rfl, rfl⟩

set_option maxHeartbeats 400000 in
theorem bin_div0 (op a : Int) (hop : op = 4 ∨ op = 5) (w : World) :
    Calls Try.prog 40 #[.int .i64 op, .int .i32 a, .int .i32 0] w fun e w' => e = .returned (.tuple #[.int .i32 0, .bool false]) ∧ w = w' := by
  rcases hop with rfl | rfl <;>
  · go_enter Try.func40, Try.ntmps40
    go_wp2
    go_ret2
    exact ⟨rfl, rfl⟩

set_option maxHeartbeats 400000 in
theorem bin_div (a b : Int) (hb : b ≠ 0) (w : World) :
    Calls Try.prog 40 #[.int .i64 4, .int .i32 a, .int .i32 b] w fun e w' => e = .returned (.tuple #[.int .i32 (wrap32 (a.tdiv b)), .bool true]) ∧ w = w' := by
  go_enter Try.func40, Try.ntmps40
  go_wp2
  go_ret2
  exact ⟨rfl, rfl⟩

set_option maxHeartbeats 400000 in
theorem bin_rem (a b : Int) (hb : b ≠ 0) (w : World) :
    Calls Try.prog 40 #[.int .i64 5, .int .i32 a, .int .i32 b] w fun e w' => e = .returned (.tuple #[.int .i32 (a.tmod b), .bool true]) ∧ w = w' := by
  go_enter Try.func40, Try.ntmps40
  go_wp2
  go_ret2
  exact ⟨rfl, rfl⟩

set_option maxHeartbeats 400000 in
theorem bin_shl (a b : Int) (w : World) :
    Calls Try.prog 40 #[.int .i64 6, .int .i32 a, .int .i32 b] w fun e w' => e = .returned (.tuple #[.int .i32 (wrap32 (a * 2 ^ (b % 32).toNat)), .bool true]) ∧ w = w' := by
  go_enter Try.func40, Try.ntmps40
  go_wp2
  go_ret2
  exact ⟨rfl, rfl⟩

set_option maxHeartbeats 400000 in
theorem bin_shr (a b : Int) (w : World) :
    Calls Try.prog 40 #[.int .i64 7, .int .i32 a, .int .i32 b] w fun e w' => e = .returned (.tuple #[.int .i32 (a / 2 ^ (b % 32).toNat), .bool true]) ∧ w = w' := by
  go_enter Try.func40, Try.ntmps40
  go_wp2
  go_ret2
  exact ⟨rfl, rfl⟩

set_option maxHeartbeats 400000 in
theorem bin_and (a b : Int) (w : World) :
    Calls Try.prog 40 #[.int .i64 8, .int .i32 a, .int .i32 b] w fun e w' => e = .returned (.tuple #[.int .i32 (bits .and .i32 a b), .bool true]) ∧ w = w' := by
  go_enter Try.func40, Try.ntmps40
  go_wp2
  go_ret2
  exact ⟨rfl, rfl⟩

set_option maxHeartbeats 400000 in
theorem bin_or (a b : Int) (w : World) :
    Calls Try.prog 40 #[.int .i64 9, .int .i32 a, .int .i32 b] w fun e w' => e = .returned (.tuple #[.int .i32 (bits .or .i32 a b), .bool true]) ∧ w = w' := by
  go_enter Try.func40, Try.ntmps40
  go_wp2
  go_ret2
  exact ⟨rfl, rfl⟩

set_option maxHeartbeats 400000 in
theorem bin_xor (a b : Int) (w : World) :
    Calls Try.prog 40 #[.int .i64 10, .int .i32 a, .int .i32 b] w fun e w' => e = .returned (.tuple #[.int .i32 (bits .xor .i32 a b), .bool true]) ∧ w = w' := by
  go_enter Try.func40, Try.ntmps40
  go_wp2
  go_ret2
  exact ⟨rfl, rfl⟩

set_option maxHeartbeats 400000 in
theorem bin_lt (a b : Int) (w : World) :
    Calls Try.prog 40 #[.int .i64 11, .int .i32 a, .int .i32 b] w fun e w' => e = .returned (.tuple #[.int .i32 (truthI (decide (a < b))), .bool true]) ∧ w = w' := by
  go_enter Try.func40, Try.ntmps40
  go_wp2_with (go_at_call 48; refine (truth_any _ _).mono ?_; rintro e w' ⟨rfl, rfl⟩)
  go_ret2
  exact ⟨rfl, rfl⟩

set_option maxHeartbeats 400000 in
theorem bin_le (a b : Int) (w : World) :
    Calls Try.prog 40 #[.int .i64 12, .int .i32 a, .int .i32 b] w fun e w' => e = .returned (.tuple #[.int .i32 (truthI (decide (a ≤ b))), .bool true]) ∧ w = w' := by
  go_enter Try.func40, Try.ntmps40
  go_wp2_with (go_at_call 48; refine (truth_any _ _).mono ?_; rintro e w' ⟨rfl, rfl⟩)
  go_ret2
  exact ⟨rfl, rfl⟩

set_option maxHeartbeats 400000 in
theorem bin_gt (a b : Int) (w : World) :
    Calls Try.prog 40 #[.int .i64 13, .int .i32 a, .int .i32 b] w fun e w' => e = .returned (.tuple #[.int .i32 (truthI (decide (b < a))), .bool true]) ∧ w = w' := by
  go_enter Try.func40, Try.ntmps40
  go_wp2_with (go_at_call 48; refine (truth_any _ _).mono ?_; rintro e w' ⟨rfl, rfl⟩)
  go_ret2
  exact ⟨rfl, rfl⟩

set_option maxHeartbeats 400000 in
theorem bin_ge (a b : Int) (w : World) :
    Calls Try.prog 40 #[.int .i64 14, .int .i32 a, .int .i32 b] w fun e w' => e = .returned (.tuple #[.int .i32 (truthI (decide (b ≤ a))), .bool true]) ∧ w = w' := by
  go_enter Try.func40, Try.ntmps40
  go_wp2_with (go_at_call 48; refine (truth_any _ _).mono ?_; rintro e w' ⟨rfl, rfl⟩)
  go_ret2
  exact ⟨rfl, rfl⟩

set_option maxHeartbeats 400000 in
theorem bin_eq (a b : Int) (w : World) :
    Calls Try.prog 40 #[.int .i64 15, .int .i32 a, .int .i32 b] w fun e w' => e = .returned (.tuple #[.int .i32 (truthI (a == b)), .bool true]) ∧ w = w' := by
  go_enter Try.func40, Try.ntmps40
  go_wp2_with (go_at_call 48; refine (truth_any _ _).mono ?_; rintro e w' ⟨rfl, rfl⟩)
  go_ret2
  exact ⟨rfl, rfl⟩

set_option maxHeartbeats 400000 in
theorem bin_ne (a b : Int) (w : World) :
    Calls Try.prog 40 #[.int .i64 16, .int .i32 a, .int .i32 b] w fun e w' => e = .returned (.tuple #[.int .i32 (truthI (!(a == b))), .bool true]) ∧ w = w' := by
  go_enter Try.func40, Try.ntmps40
  go_wp2_with (go_at_call 48; refine (truth_any _ _).mono ?_; rintro e w' ⟨rfl, rfl⟩)
  go_ret2
  exact ⟨rfl, rfl⟩

set_option maxHeartbeats 1000000 in
theorem bin_both (a b : Int) (w : World) :
    Calls Try.prog 40 #[.int .i64 17, .int .i32 a, .int .i32 b] w fun e w' => e = .returned (.tuple #[.int .i32 (truthI (a != 0 && b != 0)), .bool true]) ∧ w = w' := by
  by_cases h : a = 0
  · subst h
    go_enter Try.func40, Try.ntmps40
    go_wp2_with (go_at_call 48; refine (truth_any _ _).mono ?_; rintro e w' ⟨rfl, rfl⟩)
    go_ret2
    exact ⟨rfl, rfl⟩
  · have h' : (a != 0) = true := by simpa using h
    go_enter Try.func40, Try.ntmps40
    go_wp2_with (go_at_call 48; refine (truth_any _ _).mono ?_; rintro e w' ⟨rfl, rfl⟩)
    go_ret2
    exact ⟨by simp [h'], rfl⟩

set_option maxHeartbeats 1000000 in
theorem bin_one (a b : Int) (w : World) :
    Calls Try.prog 40 #[.int .i64 18, .int .i32 a, .int .i32 b] w fun e w' => e = .returned (.tuple #[.int .i32 (truthI (a != 0 || b != 0)), .bool true]) ∧ w = w' := by
  by_cases h : a = 0
  · subst h
    go_enter Try.func40, Try.ntmps40
    go_wp2_with (go_at_call 48; refine (truth_any _ _).mono ?_; rintro e w' ⟨rfl, rfl⟩)
    go_ret2
    exact ⟨rfl, rfl⟩
  · have h' : (a != 0) = true := by simpa using h
    go_enter Try.func40, Try.ntmps40
    go_wp2_with (go_at_call 48; refine (truth_any _ _).mono ?_; rintro e w' ⟨rfl, rfl⟩)
    go_ret2
    exact ⟨by simp [h'], rfl⟩

set_option maxHeartbeats 1000000 in
theorem bin_other (op a b : Int) (h : op < 1 ∨ 18 < op) (w : World) :
    Calls Try.prog 40 #[.int .i64 op, .int .i32 a, .int .i32 b] w fun e w' => e = .returned (.tuple #[.int .i32 0, .bool false]) ∧ w = w' := by
  rcases h with h | h <;>
  · go_enter Try.func40, Try.ntmps40
    go_wp2
    go_ret2
    exact ⟨rfl, rfl⟩

theorem un_neg (a : Int) (w : World) :
    Calls Try.prog 39 #[.int .i64 19, .int .i32 a] w fun e w' => e = .returned (.tuple #[.int .i32 (wrap32 (-a)), .bool true]) ∧ w = w' := by
  go_enter Try.func39, Try.ntmps39
  go_wp2
  go_ret2
  exact ⟨rfl, rfl⟩
theorem un_not (a : Int) (w : World) :
    Calls Try.prog 39 #[.int .i64 20, .int .i32 a] w fun e w' => e = .returned (.tuple #[.int .i32 (truthI (a == 0)), .bool true]) ∧ w = w' := by
  go_enter Try.func39, Try.ntmps39
  go_wp2_with (go_at_call 48; refine (truth_any _ _).mono ?_; rintro e w' ⟨rfl, rfl⟩)
  go_ret2
  exact ⟨rfl, rfl⟩
theorem un_inv (a : Int) (w : World) :
    Calls Try.prog 39 #[.int .i64 21, .int .i32 a] w fun e w' => e = .returned (.tuple #[.int .i32 (bits .xor .i32 (-1) a), .bool true]) ∧ w = w' := by
  go_enter Try.func39, Try.ntmps39
  go_wp2
  go_ret2
  exact ⟨rfl, rfl⟩
theorem un_other (op a : Int) (h : op < 19 ∨ 21 < op) (w : World) :
    Calls Try.prog 39 #[.int .i64 op, .int .i32 a] w fun e w' => e = .returned (.tuple #[.int .i32 0, .bool false]) ∧ w = w' := by
  rcases h with h | h <;>
  · go_enter Try.func39, Try.ntmps39
    go_wp2
    go_ret2
    exact ⟨rfl, rfl⟩
end Go.Proofs.Ytcanjkjpdnbcnaa
namespace Go.Proofs.Ytcanjkjpdnbcnaa
open Go.RowKit

/-- The two parts of a word, as word.Split reckons them. -/
def splitLo (n : Int) : Int := wrap32 (n * 1048576) / 1048576
def splitHi (n : Int) : Int := wrap32 (n - splitLo n) % 4294967296 / 4096
theorem dec0 : Lib.decDigits 0 = [48] := by rw [Lib.decDigits]; rfl
theorem div_a (w : World) : Calls Try.prog 40 #[.int .i64 4, .int .i32 (-7), .int .i32 2] w fun e w' => e = .returned (.tuple #[.int .i32 (-3), .bool true]) ∧ w = w' := by
  have h := bin_div (-7) 2 (by decide) w
  rwa [show wrap32 ((-7 : Int).tdiv 2) = -3 from by unfold wrap32; decide] at h
theorem div_b (w : World) : Calls Try.prog 40 #[.int .i64 4, .int .i32 (-2147483648), .int .i32 (-1)] w fun e w' => e = .returned (.tuple #[.int .i32 (-2147483648), .bool true]) ∧ w = w' := by
  have h := bin_div (-2147483648) (-1) (by decide) w
  rwa [show wrap32 ((-2147483648 : Int).tdiv (-1)) = -2147483648 from by unfold wrap32; decide] at h
theorem shr_c (w : World) : Calls Try.prog 40 #[.int .i64 7, .int .i32 (-1), .int .i32 33] w fun e w' => e = .returned (.tuple #[.int .i32 (-1), .bool true]) ∧ w = w' := by
  have h := bin_shr (-1) 33 w
  rwa [show (-1 : Int) / 2 ^ ((33 : Int) % 32).toNat = -1 from by decide] at h
end Go.Proofs.Ytcanjkjpdnbcnaa
namespace Go.Proofs.Ytcanjkjpdnbcnaa
open Go.RowKit

theorem ret_int {k : IntKind} {a b : Int} (h : a = b) : Ending.returned (.int k a) = .returned (.int k b) := by rw [h]
theorem tmod32_facts (n : Int) : (-4294967296 < n.tmod 4294967296 ∧ n.tmod 4294967296 < 4294967296) ∧ ∃ k, n.tmod 4294967296 = n + 4294967296 * k := by
  have h1 : (n.tmod 4294967296).natAbs = n.natAbs % 4294967296 := Int.natAbs_tmod n 4294967296
  have h2 := Int.mul_tdiv_add_tmod n 4294967296
  exact ⟨by omega, -(n.tdiv 4294967296), by omega⟩
theorem round_any (n : Int) (w : World) :
    Calls Try.prog 51 #[.int .i64 n] w fun e w' => e = .returned (.int .i32 (wrap32 n)) ∧ w = w' := by
  obtain ⟨⟨t1, t2⟩, k, hk⟩ := tmod32_facts n
  have H := Lib.hid hk
  clear hk
  go_enter Try.func51, Try.ntmps51
  go_wp2
  all_goals
    go_ret
    exact ⟨ret_int (by have hk := H.out; unfold wrap32; omega), rfl⟩
theorem ref_truth (b : Bool) (w : World) :
    Calls Try.prog 52 #[.bool b] w fun e w' => e = .returned (.int .i32 (truthI b)) ∧ w = w' := by
  cases b <;>
  · go_enter Try.func52, Try.ntmps52
    go_wp2
    go_ret
    exact ⟨rfl, rfl⟩

end Go.Proofs.Ytcanjkjpdnbcnaa
