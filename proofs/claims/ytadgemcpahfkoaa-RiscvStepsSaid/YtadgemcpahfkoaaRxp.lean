/-
  The document's IsSym and MayLine, of any line.
-/
import Derived.Test.YtadgemcpahfkoaaRxh
import Derived.Test.YtadgemcpahfkoaaRxo
namespace Go.Proofs.Ytadgemcpahfkoaa
open Go.RowKit
set_option linter.unusedVariables false
set_option linter.unusedSimpArgs false
set_option maxRecDepth 100000
namespace Rv
theorem symLetter_num {c : UInt8} (h : symLetter c = true) : (97 ≤ (c.toNat : Int) ∧ (c.toNat : Int) ≤ 122) ∨ (65 ≤ (c.toNat : Int) ∧ (c.toNat : Int) ≤ 90) ∨ (c.toNat : Int) = 95 ∨ (c.toNat : Int) = 46 := by
  unfold symLetter at h
  simp at h
  omega
theorem symLetter_not {c : UInt8} (h : symLetter c = false) : ¬ ((97 ≤ (c.toNat : Int) ∧ (c.toNat : Int) ≤ 122) ∨ (65 ≤ (c.toNat : Int) ∧ (c.toNat : Int) ≤ 90) ∨ (c.toNat : Int) = 95 ∨ (c.toNat : Int) = 46) := by
  unfold symLetter at h
  simp at h
  omega
theorem digitB_num {c : UInt8} (h : digitB c = true) : 48 ≤ (c.toNat : Int) ∧ (c.toNat : Int) ≤ 57 := by
  unfold digitB at h
  simp at h
  omega
theorem digitB_not {c : UInt8} (h : digitB c = false) : ¬ (48 ≤ (c.toNat : Int) ∧ (c.toNat : Int) ≤ 57) := by
  unfold digitB at h
  simp at h
  omega
theorem symB_first {l : List UInt8} (h : digitB (l.headD 0) = true) : symB l = false := symB_dig h
set_option maxHeartbeats 12800000 in
theorem risSym_any (s : ByteArray) (hs : s.size ≤ 9223372036854775807) (w : World) : Calls Try.prog 32 #[.string s] w fun e w' => e = .returned (.bool (symB s.data.toList)) ∧ w = w' := by
  go_enter Try.func32, Try.ntmps32
  go_wp2
  go_loop [3] (fun i => ∃ k : Nat, k ≤ s.size ∧ i = .int .i64 k ∧ Hid ((∀ c ∈ s.data.toList.take k, symCh c = true) ∧ (0 < k → digitB (s.data.toList.headD 0) = false))) (fun i => s.size - (intOf i).toNat)
  case atStart => exact ⟨0, Nat.zero_le _, rfl, Lib.hid ⟨by simp, fun h => by omega⟩⟩
  case round =>
    obtain ⟨k, hk, rfl, HA⟩ := hrel
    by_cases hlt : k < s.size
    · have HG := Lib.hid (ba_getD s k hlt)
      have HT := Lib.hid (ba_takeS s k hlt)
      have hlt2 : (k : Int) < (s.size : Int) := by omega
      have hk0 : (0 : Int) ≤ (k : Int) := by omega
      have hin : s[k] ∈ s.data.toList := by
        have := HG.out
        rw [← this, List.getD_eq_getElem?_getD, List.getElem?_eq_getElem (show k < s.data.toList.length from hlt)]
        exact List.getElem_mem _
      have HIN := Lib.hid hin
      clear hin
      have htake : symCh s[k] = true → ∀ c ∈ s.data.toList.take (k + 1), symCh c = true := fun hch => by
        rw [HT.out]; intro c hc; rcases List.mem_append.1 hc with h | h; exact HA.out.1 c h; rw [List.mem_singleton] at h; subst h; exact hch
      have HTK := Lib.hid htake
      clear htake
      cases hL : symLetter s[k] with
      | true =>
        have hx := symLetter_num hL
        have hy : True := trivial
        have hdg : digitB s[k] = false := by
          cases hd : digitB s[k] with
          | false => rfl
          | true => have := digitB_num hd; exfalso; omega
        have HNX : Hid ((∀ c ∈ s.data.toList.take (k + 1), symCh c = true) ∧ (0 < k + 1 → digitB (s.data.toList.headD 0) = false)) := Lib.hid ⟨HTK.out (by unfold symCh; rw [hL]; rfl), fun _ => by
          rcases Nat.eq_zero_or_pos k with h0 | h0
          · subst h0
            rw [ba_headD s hlt]
            exact hdg
          · exact HA.out.2 h0⟩
        clear hL hdg
        by_cases h1 : (97 : Int) ≤ (s[k].toNat : Int) <;> by_cases h2 : (s[k].toNat : Int) ≤ 122 <;> by_cases h3 : (65 : Int) ≤ (s[k].toNat : Int) <;> by_cases h4 : (s[k].toNat : Int) ≤ 90 <;> by_cases h5 : ((s[k].toNat : Int) == 95) = true <;> by_cases h6 : ((s[k].toNat : Int) == 46) = true <;> by_cases h7 : (48 : Int) ≤ (s[k].toNat : Int) <;> by_cases h8 : (s[k].toNat : Int) ≤ 57
        all_goals
          first
          | (exfalso; simp only [beq_iff_eq] at h5 h6; omega)
          | (clear hx hy
             go_wp2
             go_round
             case rel => exact ⟨k + 1, by omega, by go_num, HNX⟩
             case measure => simp [intOf]; omega)
      | false =>
        have hx := symLetter_not hL
        cases hD : digitB s[k] with
        | true =>
          have hy := digitB_num hD
          rcases Nat.eq_zero_or_pos k with h0 | h0
          · have HF : Hid (symB s.data.toList = false) := Lib.hid (symB_first (by subst h0; rw [ba_headD s hlt]; exact hD))
            subst h0
            clear hL hD
            by_cases h1 : (97 : Int) ≤ (s[0].toNat : Int) <;> by_cases h2 : (s[0].toNat : Int) ≤ 122 <;> by_cases h3 : (65 : Int) ≤ (s[0].toNat : Int) <;> by_cases h4 : (s[0].toNat : Int) ≤ 90 <;> by_cases h5 : ((s[0].toNat : Int) == 95) = true <;> by_cases h6 : ((s[0].toNat : Int) == 46) = true <;> by_cases h7 : (48 : Int) ≤ (s[0].toNat : Int) <;> by_cases h8 : (s[0].toNat : Int) ≤ 57
            all_goals
              first
              | (exfalso; simp only [beq_iff_eq] at h5 h6; omega)
              | (clear hx hy
                 go_wp2
                 go_ret
                 exact ⟨ret_bool (by rw [HF.out]), rfl⟩)
          · have hkb : (0 : Int) < (k : Int) := by omega
            have HNX : Hid ((∀ c ∈ s.data.toList.take (k + 1), symCh c = true) ∧ (0 < k + 1 → digitB (s.data.toList.headD 0) = false)) := Lib.hid ⟨HTK.out (by unfold symCh; rw [hD]; simp), fun _ => HA.out.2 h0⟩
            clear hL hD
            by_cases h1 : (97 : Int) ≤ (s[k].toNat : Int) <;> by_cases h2 : (s[k].toNat : Int) ≤ 122 <;> by_cases h3 : (65 : Int) ≤ (s[k].toNat : Int) <;> by_cases h4 : (s[k].toNat : Int) ≤ 90 <;> by_cases h5 : ((s[k].toNat : Int) == 95) = true <;> by_cases h6 : ((s[k].toNat : Int) == 46) = true <;> by_cases h7 : (48 : Int) ≤ (s[k].toNat : Int) <;> by_cases h8 : (s[k].toNat : Int) ≤ 57
            all_goals
              first
              | (exfalso; simp only [beq_iff_eq] at h5 h6; omega)
              | (clear hx hy
                 go_wp2
                 go_round
                 case rel => exact ⟨k + 1, by omega, by go_num, HNX⟩
                 case measure => simp [intOf]; omega)
        | false =>
          have hy := digitB_not hD
          have HF : Hid (symB s.data.toList = false) := Lib.hid (symB_bad HIN.out (by unfold symCh; rw [hL, hD]; rfl))
          clear hL hD
          by_cases h1 : (97 : Int) ≤ (s[k].toNat : Int) <;> by_cases h2 : (s[k].toNat : Int) ≤ 122 <;> by_cases h3 : (65 : Int) ≤ (s[k].toNat : Int) <;> by_cases h4 : (s[k].toNat : Int) ≤ 90 <;> by_cases h5 : ((s[k].toNat : Int) == 95) = true <;> by_cases h6 : ((s[k].toNat : Int) == 46) = true <;> by_cases h7 : (48 : Int) ≤ (s[k].toNat : Int) <;> by_cases h8 : (s[k].toNat : Int) ≤ 57
          all_goals
            first
            | (exfalso; simp only [beq_iff_eq] at h5 h6; omega)
            | (clear hx hy
               go_wp2
               go_ret
               exact ⟨ret_bool (by rw [HF.out]), rfl⟩)
    · obtain rfl : k = s.size := by omega
      have hall : ∀ c ∈ s.data.toList, symCh c = true := fun c hc => HA.out.1 c (by rw [List.take_of_length_le (Nat.le_of_eq (ba_length s))]; exact hc)
      have HALL := Lib.hid hall
      clear hall
      by_cases h0 : s.size = 0
      · have HF : Hid (symB s.data.toList = false) := Lib.hid (by rw [List.eq_nil_of_length_eq_zero (show s.data.toList.length = 0 from h0)]; rfl)
        have h0' : ¬ (0 : Int) < (s.size : Int) := by omega
        clear h0
        go_wp2
        go_ret
        exact ⟨ret_bool (by rw [HF.out]), rfl⟩
      · have h0' : (0 : Int) < (s.size : Int) := by omega
        by_cases h1 : s.size < 101
        · have h1' : (s.size : Int) < 101 := by omega
          have HF : Hid (symB s.data.toList = true) := Lib.hid (symB_good (fun h => by have := ba_length s; rw [h] at this; exact h0 this.symm) (by rw [ba_length]; omega) (HA.out.2 (by omega)) HALL.out)
          clear h0 h1
          go_wp2
          go_ret
          exact ⟨ret_bool (by rw [HF.out]), rfl⟩
        · have h1' : ¬ (s.size : Int) < 101 := by omega
          have HF : Hid (symB s.data.toList = false) := Lib.hid (symB_long (by rw [ba_length]; omega))
          clear h0 h1
          go_wp2
          go_ret
          exact ⟨ret_bool (by rw [HF.out]), rfl⟩
end Rv
end Go.Proofs.Ytadgemcpahfkoaa
