/-
  What a symbol is; lines that may be, symbols among them: contracts of both.
-/
import Derived.Test.YtmedhibjkbahpaaZaq
import Derived.Test.YtmedhibjkbahpaaZas
namespace Go.Proofs.Ytmedhibjkbahpaa
open Go.RowKit
set_option linter.unusedVariables false
set_option linter.unusedSimpArgs false
set_option maxRecDepth 100000
namespace Rv
def symLetter (c : UInt8) : Bool := decide (97 ≤ c.toNat ∧ c.toNat ≤ 122) || decide (65 ≤ c.toNat ∧ c.toNat ≤ 90) || c.toNat == 95 || c.toNat == 46
def symCh (c : UInt8) : Bool := symLetter c || digitB c
/-- A symbol. -/
def symB (l : List UInt8) : Bool := decide (l ≠ []) && decide (l.length ≤ 100) && !digitB (l.headD 0) && l.all symCh
theorem symLetter_any (c : UInt8) (w : World) : Calls Try.prog 93 #[.int .u8 (c.toNat : Int)] w fun e w' => e = .returned (.bool (symLetter c)) ∧ w = w' := by
  have hb : symLetter c = (decide (97 ≤ c.toNat ∧ c.toNat ≤ 122) || decide (65 ≤ c.toNat ∧ c.toNat ≤ 90) || c.toNat == 95 || c.toNat == 46) := rfl
  have H := Lib.hid hb
  clear hb
  generalize c.toNat = n at *
  by_cases h1 : (97 : Int) ≤ (n : Int) <;> by_cases h2 : (n : Int) ≤ 122 <;> by_cases h3 : (65 : Int) ≤ (n : Int) <;> by_cases h4 : (n : Int) ≤ 90 <;> by_cases h5 : ((n : Int) == 95) = true <;> by_cases h6 : ((n : Int) == 46) = true
  all_goals
    first
    | (exfalso; simp only [beq_iff_eq] at h5 h6; omega)
    | (go_enter Try.func93, Try.ntmps93
       go_wp2
       go_ret
       refine ⟨ret_bool ?_, rfl⟩
       rw [H.out]
       simp only [beq_iff_eq] at h5 h6
       rw [Bool.eq_iff_iff]
       simp
       omega)
theorem symDigit_any (c : UInt8) (w : World) : Calls Try.prog 92 #[.int .u8 (c.toNat : Int)] w fun e w' => e = .returned (.bool (digitB c)) ∧ w = w' := by
  have hb : digitB c = decide (48 ≤ c.toNat ∧ c.toNat ≤ 57) := rfl
  have H := Lib.hid hb
  clear hb
  generalize c.toNat = n at *
  by_cases h1 : (48 : Int) ≤ (n : Int) <;> by_cases h2 : (n : Int) ≤ 57
  all_goals
    first
    | (exfalso; omega)
    | (go_enter Try.func92, Try.ntmps92
       go_wp2
       go_ret
       refine ⟨ret_bool ?_, rfl⟩
       rw [H.out]
       rw [Bool.eq_iff_iff]
       simp
       omega)
theorem symB_nil : symB [] = false := rfl
theorem symB_long {l : List UInt8} (h : 100 < l.length) : symB l = false := by
  unfold symB
  rw [show decide (l.length ≤ 100) = false from by simp; omega]
  simp
theorem symB_dig {l : List UInt8} (h : digitB (l.headD 0) = true) : symB l = false := by
  unfold symB
  rw [h]
  simp
theorem symB_bad {l : List UInt8} {c : UInt8} (h : c ∈ l) (hc : symCh c = false) : symB l = false := by
  unfold symB
  rw [show l.all symCh = false from by
    rw [Bool.eq_false_iff]
    intro ha
    have := List.all_eq_true.1 ha c h
    rw [hc] at this
    cases this]
  simp
theorem symB_good {l : List UInt8} (h0 : l ≠ []) (h1 : l.length ≤ 100) (h2 : digitB (l.headD 0) = false) (h3 : ∀ c ∈ l, symCh c = true) : symB l = true := by
  unfold symB
  rw [List.all_eq_true.2 h3, h2]
  simp [h0, h1]
set_option maxHeartbeats 800000 in
theorem isSym_any (s : ByteArray) (hs : s.size ≤ 4000000000) (w : World) : Calls Try.prog 70 #[.string s] w fun e w' => e = .returned (.bool (symB s.data.toList)) ∧ w = w' := by
  by_cases h0 : s.size = 0
  · have hnil : s.data.toList = [] := List.eq_nil_of_length_eq_zero h0
    have e1 : s.toList.isEmpty = true := by rw [ba_toList, hnil]; rfl
    have e2 : s.toList = [] := by rw [ba_toList, hnil]
    have HF : Hid (symB s.data.toList = false) := Lib.hid (by rw [hnil]; rfl)
    clear hnil
    go_enter Try.func70, Try.ntmps70
    go_wp2
    go_ret
    exact ⟨ret_bool (by rw [HF.out]), rfl⟩
  · have hpos : 0 < s.size := by omega
    have hne : s.data.toList ≠ [] := fun h => by have := ba_length s; rw [h] at this; exact h0 this.symm
    have e1 : s.toList.isEmpty = false := by rw [ba_toList]; simpa using hne
    have e2 : ¬ s.toList = [] := by rw [ba_toList]; exact hne
    by_cases hl : 100 < s.size
    · have HF : Hid (symB s.data.toList = false) := Lib.hid (symB_long (by rw [ba_length]; exact hl))
      have hl2 : (100 : Int) < (s.size : Int) := by omega
      clear hne
      go_enter Try.func70, Try.ntmps70
      go_wp2
      go_ret
      exact ⟨ret_bool (by rw [HF.out]), rfl⟩
    · have hl2 : ¬ (100 : Int) < (s.size : Int) := by omega
      have HH := Lib.hid (ba_headD s hpos)
      have hp2 : (0 : Int) < (s.size : Int) := by omega
      by_cases hd : digitB s[0] = true
      · have HF : Hid (symB s.data.toList = false) := Lib.hid (symB_dig (by rw [HH.out]; exact hd))
        clear hne
        go_enter Try.func70, Try.ntmps70
        go_wp2_with (go_at_call 92; refine (symDigit_any _ _).mono ?_; rintro e w' ⟨rfl, rfl⟩)
        go_ret
        exact ⟨ret_bool (by rw [HF.out]), rfl⟩
      · simp only [Bool.not_eq_true] at hd
        have HN := Lib.hid hne
        have HD := Lib.hid (And.intro hd hl)
        clear hne
        go_enter Try.func70, Try.ntmps70
        go_wp2_with (go_at_call 92; refine (symDigit_any _ _).mono ?_; rintro e w' ⟨rfl, rfl⟩)
        clear hd
        go_loop [18] (fun i => ∃ k : Nat, k ≤ s.size ∧ i = .int .i64 k ∧ Hid (∀ c ∈ s.data.toList.take k, symCh c = true)) (fun i => s.size - (intOf i).toNat)
        case atStart => exact ⟨0, Nat.zero_le _, rfl, Lib.hid (by simp)⟩
        case round =>
          obtain ⟨k, hk, rfl, HA⟩ := hrel
          by_cases hlt : k < s.size
          · have HG := Lib.hid (ba_getD s k hlt)
            have HT := Lib.hid (ba_takeS s k hlt)
            have hlt2 : (k : Int) < (s.size : Int) := by omega
            by_cases h1 : symLetter s[k] = true
            · have HN : Hid (∀ c ∈ s.data.toList.take (k + 1), symCh c = true) := Lib.hid (by
                rw [HT.out]; intro c hc; rcases List.mem_append.1 hc with h | h; exact HA.out c h; rw [List.mem_singleton] at h; subst h; unfold symCh; rw [h1]; rfl)
              go_wp2_with (go_at_call 93; refine (symLetter_any _ _).mono ?_; rintro e w' ⟨rfl, rfl⟩)
              go_round
              case rel => exact ⟨k + 1, by omega, by go_num, HN⟩
              case measure => simp [intOf]; omega
            · simp only [Bool.not_eq_true] at h1
              by_cases h2 : digitB s[k] = true
              · have HN : Hid (∀ c ∈ s.data.toList.take (k + 1), symCh c = true) := Lib.hid (by
                  rw [HT.out]; intro c hc; rcases List.mem_append.1 hc with h | h; exact HA.out c h; rw [List.mem_singleton] at h; subst h; unfold symCh; rw [h2]; simp)
                go_wp2_with (first | (go_at_call 93; refine (symLetter_any _ _).mono ?_; rintro e w' ⟨rfl, rfl⟩) | (go_at_call 92; refine (symDigit_any _ _).mono ?_; rintro e w' ⟨rfl, rfl⟩))
                go_round
                case rel => exact ⟨k + 1, by omega, by go_num, HN⟩
                case measure => simp [intOf]; omega
              · simp only [Bool.not_eq_true] at h2
                have HF : Hid (symB s.data.toList = false) := Lib.hid (symB_bad (c := s[k]) (by
                  have := HG.out
                  rw [← this, List.getD_eq_getElem?_getD, List.getElem?_eq_getElem (show k < s.data.toList.length from hlt)]
                  exact List.getElem_mem _) (by unfold symCh; rw [h1, h2]; rfl))
                go_wp2_with (first | (go_at_call 93; refine (symLetter_any _ _).mono ?_; rintro e w' ⟨rfl, rfl⟩) | (go_at_call 92; refine (symDigit_any _ _).mono ?_; rintro e w' ⟨rfl, rfl⟩))
                go_ret
                exact ⟨ret_bool (by rw [HF.out]), rfl⟩
          · obtain rfl : k = s.size := by omega
            have HF : Hid (symB s.data.toList = true) := Lib.hid (symB_good HN.out (by rw [ba_length]; have := HD.out.2; omega) (by rw [HH.out]; exact HD.out.1) (fun c hc => HA.out c (by rw [List.take_of_length_le (Nat.le_of_eq (ba_length s))]; exact hc)))
            go_wp2
            go_ret
            exact ⟨ret_bool (by rw [HF.out]), rfl⟩
end Rv
end Go.Proofs.Ytmedhibjkbahpaa
