/-
  The walk of the law WordSplits: it answers true and writes nothing that was there.
-/
import Derived.Test.YthgkkgjnealkbaaDoorLives
import Derived.Test.YthgkkgjnealkbaaDoorWordMath
import Derived.Test.YthgkkgjnealkbaaDoorRefs
import Derived.OpenShut
import Derived.Stop.Joined
namespace Go.Proofs.YthgkkgjnealkbaaDoor
open Go.RowKit

theorem fits_no (n b : Int) (h : b < 1 ∨ 32 < b) (w : World) :
    Calls Tryd.prog 32 #[.int .i32 n, .int .i64 b] w fun e w' => e = .returned (.bool false) ∧ w = w' := by
  rcases h with h | h
  · go_enter Tryd.func32, Tryd.ntmps32
    go_wp2
    go_ret
    exact ⟨rfl, rfl⟩
  · have h' : ¬ b < 1 := by omega
    go_enter Tryd.func32, Tryd.ntmps32
    go_wp2
    go_ret
    exact ⟨rfl, rfl⟩
/-- 2 to the power k, closed to the walk. -/
def pow2 (k : Nat) : Int := 2 ^ k
theorem pow2_bd (k : Nat) (h : k ≤ 31) : 1 ≤ pow2 k ∧ pow2 k ≤ 2147483648 := by
  have h1 : (2 : Nat) ^ k ≤ 2 ^ 31 := Nat.pow_le_pow_right (by omega) h
  have h2 : 0 < (2 : Nat) ^ k := Nat.pow_pos (by omega)
  have h3 : pow2 k = ((2 ^ k : Nat) : Int) := by unfold pow2; simp
  omega
theorem pow2_succ (k : Nat) : pow2 (k + 1) = pow2 k * 2 := by unfold pow2; rw [Int.pow_succ]
theorem fits_in (n b : Int) (hn : -2147483648 ≤ n ∧ n ≤ 2147483647) (h : 1 ≤ b ∧ b ≤ 32) (hf : -pow2 (b.toNat - 1) ≤ n ∧ n < pow2 (b.toNat - 1)) (w : World) :
    Calls Tryd.prog 32 #[.int .i32 n, .int .i64 b] w fun e w' => e = .returned (.bool true) ∧ w = w' := by
  obtain ⟨g1, g2⟩ : (1 : Int) ≤ 2 ^ (b.toNat - 1) ∧ (2 : Int) ^ (b.toNat - 1) ≤ 2147483648 := pow2_bd _ (by omega)
  obtain ⟨g3, g4⟩ : -(2 : Int) ^ (b.toNat - 1) ≤ n ∧ n < (2 : Int) ^ (b.toNat - 1) := hf
  have h1 := h.1
  have h2 := h.2
  clear h
  go_enter Tryd.func32, Tryd.ntmps32
  go_wp2
  go_ret
  exact ⟨by simp, rfl⟩
theorem fits_out (n b : Int) (hn : -2147483648 ≤ n ∧ n ≤ 2147483647) (h : 1 ≤ b ∧ b ≤ 32) (hf : n < -pow2 (b.toNat - 1) ∨ pow2 (b.toNat - 1) ≤ n) (w : World) :
    Calls Tryd.prog 32 #[.int .i32 n, .int .i64 b] w fun e w' => e = .returned (.bool false) ∧ w = w' := by
  obtain ⟨g1, g2⟩ : (1 : Int) ≤ 2 ^ (b.toNat - 1) ∧ (2 : Int) ^ (b.toNat - 1) ≤ 2147483648 := pow2_bd _ (by omega)
  have h1 := h.1
  have h2 := h.2
  clear h
  rcases hf with hf | hf
  · have g3 : n < -(2 : Int) ^ (b.toNat - 1) := hf
    clear hf
    go_enter Tryd.func32, Tryd.ntmps32
    go_wp2
    go_ret
    exact ⟨rfl, rfl⟩
  · have g3 : (2 : Int) ^ (b.toNat - 1) ≤ n := hf
    have g4 : -(2 : Int) ^ (b.toNat - 1) ≤ n := by omega
    have g5 : ¬ n < (2 : Int) ^ (b.toNat - 1) := by omega
    clear hf
    go_enter Tryd.func32, Tryd.ntmps32
    go_wp2
    go_ret
    exact ⟨by simp, rfl⟩

namespace WordSplits
theorem walk_no (a0 a1 : Int) (h1 : -2147483648 ≤ a0 ∧ a0 ≤ 2147483647) (hb : a1 < 1 ∨ 32 < a1) (W : World) :
    Calls Tryd.prog 11 #[.int .i32 a0, .int .i64 a1] W fun e w' => e = .returned (.bool true) ∧ Below W.heap.size W w' := by
  obtain ⟨l1, l2⟩ : -2048 ≤ splitLo a0 ∧ splitLo a0 ≤ 2047 := split_lo a0
  obtain ⟨l3, l4⟩ : 0 ≤ splitHi a0 ∧ splitHi a0 < 1048576 := split_hi _
  have H := Lib.hid ((split_back a0).trans (wrap32_self a0 h1))
  rcases hb with hb | hb
  all_goals
    go_enter Tryd.func11, Tryd.ntmps11
    go_wp2_with fail
    refine (split_any _ _).mono ?_
    rintro e w' ⟨rfl, rfl⟩
    go_wp2_with fail
    have hr := round_any (splitHi a0 * 4096 + splitLo a0) W
    have e1 : wrap32 (splitHi a0 * 4096 + splitLo a0) = a0 := H.out
    rw [e1] at hr
    refine hr.mono ?_
    clear hr e1
    rintro e w' ⟨rfl, rfl⟩
    go_wp2_with fail
    refine (fits_no _ _ (by omega) _).mono ?_
    rintro e w' ⟨rfl, rfl⟩
    go_wp2_with fail
    refine (lives_true _).mono ?_
    rintro e w1 ⟨rfl, hB⟩
    go_wp2
    go_ret
    exact ⟨rfl, hB⟩

theorem walk_yes (a0 a1 : Int) (h1 : -2147483648 ≤ a0 ∧ a0 ≤ 2147483647) (hb : 1 ≤ a1 ∧ a1 ≤ 32) (W : World) :
    Calls Tryd.prog 11 #[.int .i32 a0, .int .i64 a1] W fun e w' => e = .returned (.bool true) ∧ Below W.heap.size W w' := by
  obtain ⟨l1, l2⟩ : -2048 ≤ splitLo a0 ∧ splitLo a0 ≤ 2047 := split_lo a0
  obtain ⟨l3, l4⟩ : 0 ≤ splitHi a0 ∧ splitHi a0 < 1048576 := split_hi _
  have H := Lib.hid ((split_back a0).trans (wrap32_self a0 h1))
  obtain ⟨hb1, hb2⟩ := hb
  go_enter Tryd.func11, Tryd.ntmps11
  go_wp2_with fail
  refine (split_any _ _).mono ?_
  rintro e w' ⟨rfl, rfl⟩
  go_wp2_with fail
  have hr := round_any (splitHi a0 * 4096 + splitLo a0) W
  have e1 : wrap32 (splitHi a0 * 4096 + splitLo a0) = a0 := H.out
  rw [e1] at hr
  refine hr.mono ?_
  clear hr e1
  rintro e w' ⟨rfl, rfl⟩
  go_wp2_with fail
  go_loop [8, 47] (fun m i => ∃ k : Nat, (k : Int) ≤ a1 - 1 ∧ i = .int .i64 k ∧ m = .int .i64 (pow2 k)) (fun _ i => (a1 - intOf i).toNat)
  case atStart => exact ⟨0, by omega, rfl, rfl⟩
  case round =>
    obtain ⟨k, hk, rfl, rfl⟩ := hrel
    obtain ⟨p1, p2⟩ := pow2_bd k (by omega)
    by_cases hlt : (k : Int) < a1 - 1
    · go_wp2
      go_round
      case rel => exact ⟨k + 1, by omega, by go_num, by rw [pow2_succ]⟩
      case measure => simp [intOf]; omega
    · have ek : a1.toNat - 1 = k := by omega
      have hfi := fits_in a0 a1 h1 ⟨hb1, hb2⟩
      have hfo := fits_out a0 a1 h1 ⟨hb1, hb2⟩
      rw [ek] at hfi hfo
      have HI := Lib.hid hfi
      have HO := Lib.hid hfo
      clear hfi hfo ek
      by_cases hf : -pow2 k ≤ a0 ∧ a0 < pow2 k
      · obtain ⟨f1, f2⟩ := hf
        have f3 : a0 ≤ pow2 k - 1 := by omega
        go_wp2_with fail
        refine (HI.out ⟨f1, f2⟩ _).mono ?_
        rintro e w' ⟨rfl, rfl⟩
        go_wp2_with fail
        refine (lives_true _).mono ?_
        rintro e w1 ⟨rfl, hB⟩
        go_wp2
        go_ret
        exact ⟨rfl, hB⟩
      · by_cases f1 : a0 < -pow2 k
        · go_wp2_with fail
          refine (HO.out (.inl f1) _).mono ?_
          rintro e w' ⟨rfl, rfl⟩
          go_wp2_with fail
          refine (lives_true _).mono ?_
          rintro e w1 ⟨rfl, hB⟩
          go_wp2
          go_ret
          exact ⟨rfl, hB⟩
        · have f2 : -pow2 k ≤ a0 := by omega
          have f3 : ¬ a0 ≤ pow2 k - 1 := by omega
          clear hf
          go_wp2_with fail
          refine (HO.out (.inr (by omega)) _).mono ?_
          rintro e w' ⟨rfl, rfl⟩
          go_wp2_with fail
          refine (lives_true _).mono ?_
          rintro e w1 ⟨rfl, hB⟩
          go_wp2
          go_ret
          exact ⟨rfl, hB⟩
end WordSplits

theorem wordSplits_walk (a0 a1 : Int) (W : World) (w0 : (Lit.int .i32 a0).wf = true) (_w1 : (Lit.int .i64 a1).wf = true) (_hL : laidMetH Tryd.prog Rows.wordSplitsRow.laid W) :
    Calls Tryd.prog 11 #[.int .i32 a0, .int .i64 a1] W fun e w' => e = .returned (.bool true) ∧ Below W.heap.size W w' := by
  by_cases hb : 1 ≤ a1 ∧ a1 ≤ 32
  · exact WordSplits.walk_yes a0 a1 (bounds_i32 w0) hb W
  · exact WordSplits.walk_no a0 a1 (bounds_i32 w0) (by omega) W
end Go.Proofs.YthgkkgjnealkbaaDoor
