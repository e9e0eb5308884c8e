/-
  Contracts of layer 7's small functions: what a byte is.
  Contracts of layer 7's functions over texts: words, names, signs.
-/
import Derived.Test.YtcanjkjpdnbcnaaZaf
import Derived.Test.YtcanjkjpdnbcnaaZac
import Derived.Lib.IndexBytes
namespace Go.Proofs.Ytcanjkjpdnbcnaa
open Go.RowKit
set_option linter.unusedVariables false

theorem rletter_any (c : UInt8) (w : World) : Calls Try.prog 33 #[.int .u8 (c.toNat : Int)] w fun e w' => e = .returned (.bool (letterB c)) ∧ w = w' := by
  have hb : letterB c = (decide (97 ≤ c.toNat ∧ c.toNat ≤ 122) || decide (65 ≤ c.toNat ∧ c.toNat ≤ 90) || c.toNat == 95) := rfl
  have H := Lib.hid hb
  clear hb
  generalize c.toNat = n at *
  by_cases h1 : (97 : Int) ≤ (n : Int) <;> by_cases h2 : (n : Int) ≤ 122 <;> by_cases h3 : (65 : Int) ≤ (n : Int) <;> by_cases h4 : (n : Int) ≤ 90 <;> by_cases h5 : ((n : Int) == 95) = true
  all_goals
    first
    | (exfalso; simp only [beq_iff_eq] at h5; omega)
    | (go_enter Try.func33, Try.ntmps33
       go_wp2
       go_ret
       refine ⟨ret_bool ?_, rfl⟩
       rw [H.out]
       simp only [beq_iff_eq] at h5
       rw [Bool.eq_iff_iff]
       simp
       omega)
theorem rdigit_any (c : UInt8) (w : World) : Calls Try.prog 31 #[.int .u8 (c.toNat : Int)] w fun e w' => e = .returned (.bool (digitB c)) ∧ w = w' := by
  have hb : digitB c = decide (48 ≤ c.toNat ∧ c.toNat ≤ 57) := rfl
  have H := Lib.hid hb
  clear hb
  generalize c.toNat = n at *
  by_cases h1 : (48 : Int) ≤ (n : Int) <;> by_cases h2 : (n : Int) ≤ 57
  all_goals
    first
    | (exfalso; omega)
    | (go_enter Try.func31, Try.ntmps31
       go_wp2
       go_ret
       refine ⟨ret_bool ?_, rfl⟩
       rw [H.out]
       rw [Bool.eq_iff_iff]
       simp
       omega)
theorem ba_getD (s : ByteArray) (k : Nat) (h : k < s.size) : s.data.toList.getD k 0 = s[k] := by
  rw [List.getD_eq_getElem?_getD, Lib.data_getElem? s k h]
  rfl
theorem ba_headD (s : ByteArray) (h : 0 < s.size) : s.data.toList.headD 0 = s[0] := by
  have := ba_getD s 0 h
  rw [← this]
  cases s.data.toList <;> rfl
theorem ba_takeS (t : ByteArray) (k : Nat) (h : k < t.size) : t.data.toList.take (k + 1) = t.data.toList.take k ++ [t[k]] := by
  rw [List.take_succ_eq_append_getElem (by simpa using h)]; rfl
theorem ba_length (s : ByteArray) : s.data.toList.length = s.size := rfl
theorem ba_toList (s : ByteArray) : s.toList = s.data.toList := by
  obtain ⟨⟨l⟩⟩ := s
  rw [show (ByteArray.mk { toList := l }) = ByteArray.mk l.toArray from rfl, ByteArray.toList_mk]
theorem ret_intn {k : IntKind} {a b : Nat} (h : a = b) : Ending.returned (.int k (a : Int)) = .returned (.int k (b : Int)) := by rw [h]
end Go.Proofs.Ytcanjkjpdnbcnaa
namespace Go.Proofs.Ytcanjkjpdnbcnaa
open Go.RowKit
set_option linter.unusedVariables false

def signAB (a b : Nat) : Nat :=
  if a = 60 ∨ a = 62 then (if b = a ∨ b = 61 then 2 else 1)
  else if a = 61 ∨ a = 33 then (if b = 61 then 2 else 1)
  else if a = 38 ∨ a = 124 then (if b = a then 2 else 1)
  else if a ∈ [43, 45, 42, 47, 37, 94, 126, 40, 41, 123, 125, 91, 93, 44, 59] then 1 else 0
theorem signAB_eq (l : List UInt8) : signN l = signAB (l.getD 0 0).toNat (l.getD 1 0).toNat := rfl
-- signs begin
theorem wordB_eq (s : ByteArray) : wordB s.data.toList = ((s.toList == [105, 110, 116]) || (s.toList == [105, 102]) || (s.toList == [101, 108, 115, 101]) || (s.toList == [119, 104, 105, 108, 101]) || (s.toList == [98, 114, 101, 97, 107]) || (s.toList == [99, 111, 110, 116, 105, 110, 117, 101]) || (s.toList == [114, 101, 116, 117, 114, 110]) || (s.toList == [112, 114, 105, 110, 116]) || (s.toList == [114, 101, 97, 100])) := by
  rw [ba_toList]
  unfold wordB wordsL
  rw [Bool.eq_iff_iff]
  simp [or_assoc]
end Go.Proofs.Ytcanjkjpdnbcnaa
