/-
  Contracts of layer 7's small functions: what a byte is.
-/
import Derived.Test.YtadgemcpahfkoaaWd
import Derived.Test.YtadgemcpahfkoaaLxM
import Derived.Lib.IndexBytes
namespace Go.Proofs.Ytadgemcpahfkoaa
open Go.RowKit
set_option linter.unusedVariables false

theorem letter_any (c : UInt8) (w : World) : Calls Try.prog 88 #[.int .u8 (c.toNat : Int)] w fun e w' => e = .returned (.bool (letterB c)) ∧ w = w' := by
  have hb : letterB c = (decide (97 ≤ c.toNat ∧ c.toNat ≤ 122) || decide (65 ≤ c.toNat ∧ c.toNat ≤ 90) || c.toNat == 95) := rfl
  have H := Lib.hid hb
  clear hb
  generalize c.toNat = n at *
  by_cases h1 : (97 : Int) ≤ (n : Int) <;> by_cases h2 : (n : Int) ≤ 122 <;> by_cases h3 : (65 : Int) ≤ (n : Int) <;> by_cases h4 : (n : Int) ≤ 90 <;> by_cases h5 : ((n : Int) == 95) = true
  all_goals
    first
    | (exfalso; simp only [beq_iff_eq] at h5; omega)
    | (go_enter Try.func88, Try.ntmps88
       go_wp2
       go_ret
       refine ⟨ret_bool ?_, rfl⟩
       rw [H.out]
       simp only [beq_iff_eq] at h5
       rw [Bool.eq_iff_iff]
       simp
       omega)
theorem rletter_any (c : UInt8) (w : World) : Calls Try.prog 79 #[.int .u8 (c.toNat : Int)] w fun e w' => e = .returned (.bool (letterB c)) ∧ w = w' := by
  have hb : letterB c = (decide (97 ≤ c.toNat ∧ c.toNat ≤ 122) || decide (65 ≤ c.toNat ∧ c.toNat ≤ 90) || c.toNat == 95) := rfl
  have H := Lib.hid hb
  clear hb
  generalize c.toNat = n at *
  by_cases h1 : (97 : Int) ≤ (n : Int) <;> by_cases h2 : (n : Int) ≤ 122 <;> by_cases h3 : (65 : Int) ≤ (n : Int) <;> by_cases h4 : (n : Int) ≤ 90 <;> by_cases h5 : ((n : Int) == 95) = true
  all_goals
    first
    | (exfalso; simp only [beq_iff_eq] at h5; omega)
    | (go_enter Try.func79, Try.ntmps79
       go_wp2
       go_ret
       refine ⟨ret_bool ?_, rfl⟩
       rw [H.out]
       simp only [beq_iff_eq] at h5
       rw [Bool.eq_iff_iff]
       simp
       omega)
theorem digit_any (c : UInt8) (w : World) : Calls Try.prog 98 #[.int .u8 (c.toNat : Int)] w fun e w' => e = .returned (.bool (digitB c)) ∧ w = w' := by
  have hb : digitB c = decide (48 ≤ c.toNat ∧ c.toNat ≤ 57) := rfl
  have H := Lib.hid hb
  clear hb
  generalize c.toNat = n at *
  by_cases h1 : (48 : Int) ≤ (n : Int) <;> by_cases h2 : (n : Int) ≤ 57
  all_goals
    first
    | (exfalso; omega)
    | (go_enter Try.func98, Try.ntmps98
       go_wp2
       go_ret
       refine ⟨ret_bool ?_, rfl⟩
       rw [H.out]
       rw [Bool.eq_iff_iff]
       simp
       omega)
theorem rdigit_any (c : UInt8) (w : World) : Calls Try.prog 77 #[.int .u8 (c.toNat : Int)] w fun e w' => e = .returned (.bool (digitB c)) ∧ w = w' := by
  have hb : digitB c = decide (48 ≤ c.toNat ∧ c.toNat ≤ 57) := rfl
  have H := Lib.hid hb
  clear hb
  generalize c.toNat = n at *
  by_cases h1 : (48 : Int) ≤ (n : Int) <;> by_cases h2 : (n : Int) ≤ 57
  all_goals
    first
    | (exfalso; omega)
    | (go_enter Try.func77, Try.ntmps77
       go_wp2
       go_ret
       refine ⟨ret_bool ?_, rfl⟩
       rw [H.out]
       rw [Bool.eq_iff_iff]
       simp
       omega)
theorem ba_getD (s : ByteArray) (k : Nat) (h : k < s.size) : s.data.toList.getD k 0 = s[k] := by
  rw [List.getD_eq_getElem?_getD, Lib.data_getElem? s k h]
  rfl
theorem ba_headD (s : ByteArray) (h : 0 < s.size) : s.data.toList.headD 0 = s[0] := by
  have := ba_getD s 0 h
  rw [← this]
  cases s.data.toList <;> rfl
theorem ba_takeS (t : ByteArray) (k : Nat) (h : k < t.size) : t.data.toList.take (k + 1) = t.data.toList.take k ++ [t[k]] := by
  rw [List.take_succ_eq_append_getElem (by simpa using h)]; rfl
theorem ba_length (s : ByteArray) : s.data.toList.length = s.size := rfl
theorem ba_toList (s : ByteArray) : s.toList = s.data.toList := by
  obtain ⟨⟨l⟩⟩ := s
  rw [show (ByteArray.mk { toList := l }) = ByteArray.mk l.toArray from rfl, ByteArray.toList_mk]
theorem ret_intn {k : IntKind} {a b : Nat} (h : a = b) : Ending.returned (.int k (a : Int)) = .returned (.int k (b : Int)) := by rw [h]
theorem run_any (s : ByteArray) (hs : s.size ≤ 9223372036854775807) (w : World) : Calls Try.prog 89 #[.string s] w fun e w' => e = .returned (.int .i64 (runN s.data.toList : Int)) ∧ w = w' := by
  go_enter Try.func89, Try.ntmps89
  go_wp2
  go_loop [6] (fun i => ∃ k : Nat, k ≤ s.size ∧ i = .int .i64 k ∧ Hid (∀ c ∈ s.data.toList.take k, alnumB c = true)) (fun i => s.size - (intOf i).toNat)
  case atStart => exact ⟨0, Nat.zero_le _, rfl, Lib.hid (by simp)⟩
  case round =>
    obtain ⟨k, hk, rfl, HA⟩ := hrel
    by_cases hlt : k < s.size
    · have HG := Lib.hid (ba_getD s k hlt)
      have HT := Lib.hid (ba_takeS s k hlt)
      by_cases h1 : letterB s[k] = true
      · have HN : Hid (∀ c ∈ s.data.toList.take (k + 1), alnumB c = true) := Lib.hid (by
          rw [HT.out]; intro c hc; rcases List.mem_append.1 hc with h | h; exact HA.out c h; rw [List.mem_singleton] at h; subst h; unfold alnumB; rw [h1]; rfl)
        go_wp2_with (go_at_call 88; refine (letter_any _ _).mono ?_; rintro e w' ⟨rfl, rfl⟩)
        go_round
        case rel => exact ⟨k + 1, by omega, by go_num, HN⟩
        case measure => simp [intOf]; omega
      · simp only [Bool.not_eq_true] at h1
        by_cases h2 : digitB s[k] = true
        · have HN : Hid (∀ c ∈ s.data.toList.take (k + 1), alnumB c = true) := Lib.hid (by
            rw [HT.out]; intro c hc; rcases List.mem_append.1 hc with h | h; exact HA.out c h; rw [List.mem_singleton] at h; subst h; unfold alnumB; rw [h2]; simp)
          go_wp2_with (first | (go_at_call 88; refine (letter_any _ _).mono ?_; rintro e w' ⟨rfl, rfl⟩) | (go_at_call 98; refine (digit_any _ _).mono ?_; rintro e w' ⟨rfl, rfl⟩))
          go_round
          case rel => exact ⟨k + 1, by omega, by go_num, HN⟩
          case measure => simp [intOf]; omega
        · simp only [Bool.not_eq_true] at h2
          have HN : Hid (runN s.data.toList = k) := Lib.hid (runN_of _ _ hk HA.out (.inr (by rw [HG.out]; unfold alnumB; rw [h1, h2]; rfl)))
          go_wp2_with (first | (go_at_call 88; refine (letter_any _ _).mono ?_; rintro e w' ⟨rfl, rfl⟩) | (go_at_call 98; refine (digit_any _ _).mono ?_; rintro e w' ⟨rfl, rfl⟩))
          go_ret
          exact ⟨ret_intn HN.out.symm, rfl⟩
    · obtain rfl : k = s.size := by omega
      have HN : Hid (runN s.data.toList = s.size) := Lib.hid (runN_of _ _ (Nat.le_refl _) HA.out (.inl rfl))
      go_wp2
      go_ret
      exact ⟨ret_intn HN.out.symm, rfl⟩
end Go.Proofs.Ytadgemcpahfkoaa
