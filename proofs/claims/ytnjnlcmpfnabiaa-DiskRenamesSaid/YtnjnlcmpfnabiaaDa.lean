/-
  Which texts may be names: the contracts of disk.MayName and of the document's.
-/
import Derived.Test.YtnjnlcmpfnabiaaRw
namespace Go.Proofs.Ytnjnlcmpfnabiaa
open Go.RowKit
set_option linter.unusedVariables false
set_option maxRecDepth 100000

/-- A byte that a name may have. -/
def nameB (c : Int) : Bool := (decide (97 ≤ c) && decide (c ≤ 122)) || (decide (48 ≤ c) && decide (c ≤ 57)) || c == 46 || c == 45 || c == 95
/-- Which texts may be names. -/
def nameOk (s : ByteArray) : Bool := s.data.toList.all (fun b => nameB (b.toNat : Int)) && decide (1 ≤ s.size) && decide (s.size ≤ 80)
/-- The first k bytes may stand in a name. -/
def nameUp (s : ByteArray) (k : Nat) : Prop := ∀ j, j < k → ∀ h : j < s.size, nameB (s[j].toNat : Int) = true
theorem nameUp_all (s : ByteArray) (h : nameUp s s.size) : s.data.toList.all (fun b => nameB (b.toNat : Int)) = true := by
  rw [List.all_eq_true]
  intro b hb
  obtain ⟨j, hj, rfl⟩ := List.getElem_of_mem hb
  have hj' : j < s.size := by simpa using hj
  exact h j hj' hj'
theorem nameUp_not (s : ByteArray) (k : Nat) (h : k < s.size) (hn : nameB (s[k].toNat : Int) = false) : nameOk s = false := by
  have : s.data.toList.all (fun b => nameB (b.toNat : Int)) = false := by
    rw [List.all_eq_false]
    exact ⟨s[k], by
      have : s[k] = s.data.toList[k]'(by simpa using h) := rfl
      rw [this]
      exact List.getElem_mem _, by rw [hn]; simp⟩
  unfold nameOk
  rw [this]
  rfl
set_option maxHeartbeats 3200000 in
theorem mayName_any (s : ByteArray) (hs : s.size ≤ 1000000) (w : World) : Calls Try.prog 27 #[.string s] w fun e w' => e = .returned (.bool (nameOk s)) ∧ w = w' := by
  go_enter Try.func27, Try.ntmps27
  go_wp2
  go_loop [7] (fun i => ∃ k : Nat, k ≤ s.size ∧ i = .int .i64 k ∧ Hid (nameUp s k)) (fun i => s.size - (intOf i).toNat)
  case atStart => exact ⟨0, by omega, rfl, Lib.hid (fun j hj => by omega)⟩
  case round =>
    obtain ⟨k, hk, rfl, HU⟩ := hrel
    rcases Nat.lt_or_ge k s.size with hkn | hkn
    · have hkn' : (k : Int) < (s.size : Int) := by omega
      have hc0 : (0 : Int) ≤ (s[k].toNat : Int) ∧ (s[k].toNat : Int) ≤ 255 := ⟨by omega, by have := s[k].toNat_lt; omega⟩
      have HN := Lib.hid (nameUp_not s k hkn)
      have HY : Hid (nameB (s[k].toNat : Int) = true → nameUp s (k + 1)) := Lib.hid (fun h j hj hjs => by
        rcases Nat.lt_or_ge j k with h1 | h1
        · exact HU.out j h1 hjs
        · obtain rfl : j = k := by omega
          exact h)
      obtain ⟨c, hc⟩ : ∃ c : Int, (s[k].toNat : Int) = c := ⟨_, rfl⟩
      rw [hc] at hc0 HN HY
      have HC0 := Lib.hid hc0
      by_cases a1 : c < 97
      · have b1 : ¬ (97 : Int) ≤ c := by omega
        by_cases a2 : c < 48
        · have b2 : ¬ (48 : Int) ≤ c := by omega
          by_cases d1 : c = 46
          · have q0 : (c != 46) = false := by simp [d1]
            have HE : Hid (nameB c = true) := Lib.hid (by unfold nameB; simp only [Bool.or_eq_true, Bool.and_eq_true, decide_eq_true_eq, beq_iff_eq]; omega)
            clear HN
            go_wp2
            go_round
            case rel => exact ⟨k + 1, by omega, by go_num, Lib.hid (HY.out HE.out)⟩
            case measure => simp [intOf]; omega
          · have q0 : (c != 46) = true := by simpa using d1
            by_cases d2 : c = 45
            · have q1 : (c != 45) = false := by simp [d2]
              have HE : Hid (nameB c = true) := Lib.hid (by unfold nameB; simp only [Bool.or_eq_true, Bool.and_eq_true, decide_eq_true_eq, beq_iff_eq]; omega)
              clear HN
              go_wp2
              go_round
              case rel => exact ⟨k + 1, by omega, by go_num, Lib.hid (HY.out HE.out)⟩
              case measure => simp [intOf]; omega
            · have q1 : (c != 45) = true := by simpa using d2
              have d3 : c ≠ 95 := by omega
              have q2 : (c != 95) = true := by simpa using d3
              have HE : Hid (nameB c = false) := Lib.hid (by unfold nameB; simp only [Bool.or_eq_false_iff, Bool.and_eq_false_iff, decide_eq_false_iff_not, beq_eq_false_iff_ne]; omega)
              clear HY
              go_wp2
              go_ret
              exact ⟨by rw [HN.out HE.out]; rfl, rfl⟩
        · have b2 : (48 : Int) ≤ c := by omega
          have d1 : c ≠ 46 := by omega
          have d2 : c ≠ 45 := by omega
          have q0 : (c != 46) = true := by simpa using d1
          have q1 : (c != 45) = true := by simpa using d2
          by_cases a3 : (57 : Int) < c
          · have b3 : ¬ c ≤ (57 : Int) := by omega
            by_cases d3 : c = 95
            · have q2 : (c != 95) = false := by simp [d3]
              have HE : Hid (nameB c = true) := Lib.hid (by unfold nameB; simp only [Bool.or_eq_true, Bool.and_eq_true, decide_eq_true_eq, beq_iff_eq]; omega)
              clear HN
              go_wp2
              go_round
              case rel => exact ⟨k + 1, by omega, by go_num, Lib.hid (HY.out HE.out)⟩
              case measure => simp [intOf]; omega
            · have q2 : (c != 95) = true := by simpa using d3
              have HE : Hid (nameB c = false) := Lib.hid (by unfold nameB; simp only [Bool.or_eq_false_iff, Bool.and_eq_false_iff, decide_eq_false_iff_not, beq_eq_false_iff_ne]; omega)
              clear HY
              go_wp2
              go_ret
              exact ⟨by rw [HN.out HE.out]; rfl, rfl⟩
          · have b3 : c ≤ (57 : Int) := by omega
            have HE : Hid (nameB c = true) := Lib.hid (by unfold nameB; simp only [Bool.or_eq_true, Bool.and_eq_true, decide_eq_true_eq, beq_iff_eq]; omega)
            clear HN
            go_wp2
            go_round
            case rel => exact ⟨k + 1, by omega, by go_num, Lib.hid (HY.out HE.out)⟩
            case measure => simp [intOf]; omega
      · have b1 : (97 : Int) ≤ c := by omega
        have a2 : ¬ c < 48 := by omega
        have b2 : (48 : Int) ≤ c := by omega
        have a3 : (57 : Int) < c := by omega
        have b3 : ¬ c ≤ (57 : Int) := by omega
        by_cases a4 : (122 : Int) < c
        · have b4 : ¬ c ≤ (122 : Int) := by omega
          have d1 : c ≠ 46 := by omega
          have d2 : c ≠ 45 := by omega
          have d3 : c ≠ 95 := by omega
          have q0 : (c != 46) = true := by simpa using d1
          have q1 : (c != 45) = true := by simpa using d2
          have q2 : (c != 95) = true := by simpa using d3
          have HE : Hid (nameB c = false) := Lib.hid (by unfold nameB; simp only [Bool.or_eq_false_iff, Bool.and_eq_false_iff, decide_eq_false_iff_not, beq_eq_false_iff_ne]; omega)
          clear HY
          go_wp2
          go_ret
          exact ⟨by rw [HN.out HE.out]; rfl, rfl⟩
        · have b4 : c ≤ (122 : Int) := by omega
          have HE : Hid (nameB c = true) := Lib.hid (by unfold nameB; simp only [Bool.or_eq_true, Bool.and_eq_true, decide_eq_true_eq, beq_iff_eq]; omega)
          clear HN
          go_wp2
          go_round
          case rel => exact ⟨k + 1, by omega, by go_num, Lib.hid (HY.out HE.out)⟩
          case measure => simp [intOf]; omega
    · obtain rfl : k = s.size := by omega
      have HALL := Lib.hid (nameUp_all s HU.out)
      have HF : Hid (nameOk s = (decide (1 ≤ s.size) && decide (s.size ≤ 80))) := Lib.hid (by unfold nameOk; rw [HALL.out]; simp)
      by_cases e1 : 1 ≤ s.size
      · have x1 : (1 : Int) ≤ (s.size : Int) := by omega
        have x1' : (0 : Int) < (s.size : Int) := by omega
        by_cases e2 : s.size ≤ 80
        · have x2 : (s.size : Int) ≤ 80 := by omega
          have x2' : (s.size : Int) < 81 := by omega
          have HR : Hid (nameOk s = true) := Lib.hid (by rw [HF.out, decide_eq_true e1, decide_eq_true e2]; rfl)
          go_wp2
          go_ret
          exact ⟨by rw [HR.out]; rfl, rfl⟩
        · have x2 : ¬ (s.size : Int) ≤ 80 := by omega
          have x2' : ¬ (s.size : Int) < 81 := by omega
          have HR : Hid (nameOk s = false) := Lib.hid (by rw [HF.out, decide_eq_false e2]; simp)
          go_wp2
          go_ret
          exact ⟨by rw [HR.out]; rfl, rfl⟩
      · have x1 : ¬ (1 : Int) ≤ (s.size : Int) := by omega
        have x1' : ¬ (0 : Int) < (s.size : Int) := by omega
        have HR : Hid (nameOk s = false) := Lib.hid (by rw [HF.out, decide_eq_false e1]; rfl)
        go_wp2
        go_ret
        exact ⟨by rw [HR.out]; rfl, rfl⟩
set_option maxHeartbeats 3200000 in
theorem rmayName_any (s : ByteArray) (hs : s.size ≤ 1000000) (w : World) : Calls Try.prog 59 #[.string s] w fun e w' => e = .returned (.bool (nameOk s)) ∧ w = w' := by
  go_enter Try.func59, Try.ntmps59
  go_wp2
  go_loop [3] (fun i => ∃ k : Nat, k ≤ s.size ∧ i = .int .i64 k ∧ Hid (nameUp s k)) (fun i => s.size - (intOf i).toNat)
  case atStart => exact ⟨0, by omega, rfl, Lib.hid (fun j hj => by omega)⟩
  case round =>
    obtain ⟨k, hk, rfl, HU⟩ := hrel
    rcases Nat.lt_or_ge k s.size with hkn | hkn
    · have hkn' : (k : Int) < (s.size : Int) := by omega
      have hc0 : (0 : Int) ≤ (s[k].toNat : Int) ∧ (s[k].toNat : Int) ≤ 255 := ⟨by omega, by have := s[k].toNat_lt; omega⟩
      have HN := Lib.hid (nameUp_not s k hkn)
      have HY : Hid (nameB (s[k].toNat : Int) = true → nameUp s (k + 1)) := Lib.hid (fun h j hj hjs => by
        rcases Nat.lt_or_ge j k with h1 | h1
        · exact HU.out j h1 hjs
        · obtain rfl : j = k := by omega
          exact h)
      obtain ⟨c, hc⟩ : ∃ c : Int, (s[k].toNat : Int) = c := ⟨_, rfl⟩
      rw [hc] at hc0 HN HY
      have HC0 := Lib.hid hc0
      by_cases a1 : c < 97
      · have b1 : ¬ (97 : Int) ≤ c := by omega
        by_cases a2 : c < 48
        · have b2 : ¬ (48 : Int) ≤ c := by omega
          by_cases d1 : c = 46
          · have q0 : (c != 46) = false := by simp [d1]
            have HE : Hid (nameB c = true) := Lib.hid (by unfold nameB; simp only [Bool.or_eq_true, Bool.and_eq_true, decide_eq_true_eq, beq_iff_eq]; omega)
            clear HN
            go_wp2
            go_round
            case rel => exact ⟨k + 1, by omega, by go_num, Lib.hid (HY.out HE.out)⟩
            case measure => simp [intOf]; omega
          · have q0 : (c != 46) = true := by simpa using d1
            by_cases d2 : c = 45
            · have q1 : (c != 45) = false := by simp [d2]
              have HE : Hid (nameB c = true) := Lib.hid (by unfold nameB; simp only [Bool.or_eq_true, Bool.and_eq_true, decide_eq_true_eq, beq_iff_eq]; omega)
              clear HN
              go_wp2
              go_round
              case rel => exact ⟨k + 1, by omega, by go_num, Lib.hid (HY.out HE.out)⟩
              case measure => simp [intOf]; omega
            · have q1 : (c != 45) = true := by simpa using d2
              have d3 : c ≠ 95 := by omega
              have q2 : (c != 95) = true := by simpa using d3
              have HE : Hid (nameB c = false) := Lib.hid (by unfold nameB; simp only [Bool.or_eq_false_iff, Bool.and_eq_false_iff, decide_eq_false_iff_not, beq_eq_false_iff_ne]; omega)
              clear HY
              go_wp2
              go_ret
              exact ⟨by rw [HN.out HE.out]; rfl, rfl⟩
        · have b2 : (48 : Int) ≤ c := by omega
          have d1 : c ≠ 46 := by omega
          have d2 : c ≠ 45 := by omega
          have q0 : (c != 46) = true := by simpa using d1
          have q1 : (c != 45) = true := by simpa using d2
          by_cases a3 : (57 : Int) < c
          · have b3 : ¬ c ≤ (57 : Int) := by omega
            by_cases d3 : c = 95
            · have q2 : (c != 95) = false := by simp [d3]
              have HE : Hid (nameB c = true) := Lib.hid (by unfold nameB; simp only [Bool.or_eq_true, Bool.and_eq_true, decide_eq_true_eq, beq_iff_eq]; omega)
              clear HN
              go_wp2
              go_round
              case rel => exact ⟨k + 1, by omega, by go_num, Lib.hid (HY.out HE.out)⟩
              case measure => simp [intOf]; omega
            · have q2 : (c != 95) = true := by simpa using d3
              have HE : Hid (nameB c = false) := Lib.hid (by unfold nameB; simp only [Bool.or_eq_false_iff, Bool.and_eq_false_iff, decide_eq_false_iff_not, beq_eq_false_iff_ne]; omega)
              clear HY
              go_wp2
              go_ret
              exact ⟨by rw [HN.out HE.out]; rfl, rfl⟩
          · have b3 : c ≤ (57 : Int) := by omega
            have HE : Hid (nameB c = true) := Lib.hid (by unfold nameB; simp only [Bool.or_eq_true, Bool.and_eq_true, decide_eq_true_eq, beq_iff_eq]; omega)
            clear HN
            go_wp2
            go_round
            case rel => exact ⟨k + 1, by omega, by go_num, Lib.hid (HY.out HE.out)⟩
            case measure => simp [intOf]; omega
      · have b1 : (97 : Int) ≤ c := by omega
        have a2 : ¬ c < 48 := by omega
        have b2 : (48 : Int) ≤ c := by omega
        have a3 : (57 : Int) < c := by omega
        have b3 : ¬ c ≤ (57 : Int) := by omega
        by_cases a4 : (122 : Int) < c
        · have b4 : ¬ c ≤ (122 : Int) := by omega
          have d1 : c ≠ 46 := by omega
          have d2 : c ≠ 45 := by omega
          have d3 : c ≠ 95 := by omega
          have q0 : (c != 46) = true := by simpa using d1
          have q1 : (c != 45) = true := by simpa using d2
          have q2 : (c != 95) = true := by simpa using d3
          have HE : Hid (nameB c = false) := Lib.hid (by unfold nameB; simp only [Bool.or_eq_false_iff, Bool.and_eq_false_iff, decide_eq_false_iff_not, beq_eq_false_iff_ne]; omega)
          clear HY
          go_wp2
          go_ret
          exact ⟨by rw [HN.out HE.out]; rfl, rfl⟩
        · have b4 : c ≤ (122 : Int) := by omega
          have HE : Hid (nameB c = true) := Lib.hid (by unfold nameB; simp only [Bool.or_eq_true, Bool.and_eq_true, decide_eq_true_eq, beq_iff_eq]; omega)
          clear HN
          go_wp2
          go_round
          case rel => exact ⟨k + 1, by omega, by go_num, Lib.hid (HY.out HE.out)⟩
          case measure => simp [intOf]; omega
    · obtain rfl : k = s.size := by omega
      have HALL := Lib.hid (nameUp_all s HU.out)
      have HF : Hid (nameOk s = (decide (1 ≤ s.size) && decide (s.size ≤ 80))) := Lib.hid (by unfold nameOk; rw [HALL.out]; simp)
      by_cases e1 : 1 ≤ s.size
      · have x1 : (1 : Int) ≤ (s.size : Int) := by omega
        have x1' : (0 : Int) < (s.size : Int) := by omega
        by_cases e2 : s.size ≤ 80
        · have x2 : (s.size : Int) ≤ 80 := by omega
          have x2' : (s.size : Int) < 81 := by omega
          have HR : Hid (nameOk s = true) := Lib.hid (by rw [HF.out, decide_eq_true e1, decide_eq_true e2]; rfl)
          go_wp2
          go_ret
          exact ⟨by rw [HR.out]; rfl, rfl⟩
        · have x2 : ¬ (s.size : Int) ≤ 80 := by omega
          have x2' : ¬ (s.size : Int) < 81 := by omega
          have HR : Hid (nameOk s = false) := Lib.hid (by rw [HF.out, decide_eq_false e2]; simp)
          go_wp2
          go_ret
          exact ⟨by rw [HR.out]; rfl, rfl⟩
      · have x1 : ¬ (1 : Int) ≤ (s.size : Int) := by omega
        have x1' : ¬ (0 : Int) < (s.size : Int) := by omega
        have HR : Hid (nameOk s = false) := Lib.hid (by rw [HF.out, decide_eq_false e1]; rfl)
        go_wp2
        go_ret
        exact ⟨by rw [HR.out]; rfl, rfl⟩
end Go.Proofs.Ytnjnlcmpfnabiaa
