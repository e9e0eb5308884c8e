/-
  Contracts of layer 7's small functions: what a byte is.
  Contracts of layer 7's functions over texts: words, names, signs.
  Contracts of layer 7's IsName, and of the document's IsWord, IsName, begins.
-/
import Derived.Test.YtmedhibjkbahpaaZam
import Derived.Test.YtmedhibjkbahpaaZac
import Derived.Lib.IndexBytes
namespace Go.Proofs.Ytmedhibjkbahpaa
open Go.RowKit
set_option linter.unusedVariables false

theorem letter_any (c : UInt8) (w : World) : Calls Try.prog 88 #[.int .u8 (c.toNat : Int)] w fun e w' => e = .returned (.bool (letterB c)) ∧ w = w' := by
  have hb : letterB c = (decide (97 ≤ c.toNat ∧ c.toNat ≤ 122) || decide (65 ≤ c.toNat ∧ c.toNat ≤ 90) || c.toNat == 95) := rfl
  have H := Lib.hid hb
  clear hb
  generalize c.toNat = n at *
  by_cases h1 : (97 : Int) ≤ (n : Int) <;> by_cases h2 : (n : Int) ≤ 122 <;> by_cases h3 : (65 : Int) ≤ (n : Int) <;> by_cases h4 : (n : Int) ≤ 90 <;> by_cases h5 : ((n : Int) == 95) = true
  all_goals
    first
    | (exfalso; simp only [beq_iff_eq] at h5; omega)
    | (go_enter Try.func88, Try.ntmps88
       go_wp2
       go_ret
       refine ⟨ret_bool ?_, rfl⟩
       rw [H.out]
       simp only [beq_iff_eq] at h5
       rw [Bool.eq_iff_iff]
       simp
       omega)
theorem rletter_any (c : UInt8) (w : World) : Calls Try.prog 79 #[.int .u8 (c.toNat : Int)] w fun e w' => e = .returned (.bool (letterB c)) ∧ w = w' := by
  have hb : letterB c = (decide (97 ≤ c.toNat ∧ c.toNat ≤ 122) || decide (65 ≤ c.toNat ∧ c.toNat ≤ 90) || c.toNat == 95) := rfl
  have H := Lib.hid hb
  clear hb
  generalize c.toNat = n at *
  by_cases h1 : (97 : Int) ≤ (n : Int) <;> by_cases h2 : (n : Int) ≤ 122 <;> by_cases h3 : (65 : Int) ≤ (n : Int) <;> by_cases h4 : (n : Int) ≤ 90 <;> by_cases h5 : ((n : Int) == 95) = true
  all_goals
    first
    | (exfalso; simp only [beq_iff_eq] at h5; omega)
    | (go_enter Try.func79, Try.ntmps79
       go_wp2
       go_ret
       refine ⟨ret_bool ?_, rfl⟩
       rw [H.out]
       simp only [beq_iff_eq] at h5
       rw [Bool.eq_iff_iff]
       simp
       omega)
theorem digit_any (c : UInt8) (w : World) : Calls Try.prog 98 #[.int .u8 (c.toNat : Int)] w fun e w' => e = .returned (.bool (digitB c)) ∧ w = w' := by
  have hb : digitB c = decide (48 ≤ c.toNat ∧ c.toNat ≤ 57) := rfl
  have H := Lib.hid hb
  clear hb
  generalize c.toNat = n at *
  by_cases h1 : (48 : Int) ≤ (n : Int) <;> by_cases h2 : (n : Int) ≤ 57
  all_goals
    first
    | (exfalso; omega)
    | (go_enter Try.func98, Try.ntmps98
       go_wp2
       go_ret
       refine ⟨ret_bool ?_, rfl⟩
       rw [H.out]
       rw [Bool.eq_iff_iff]
       simp
       omega)
theorem rdigit_any (c : UInt8) (w : World) : Calls Try.prog 77 #[.int .u8 (c.toNat : Int)] w fun e w' => e = .returned (.bool (digitB c)) ∧ w = w' := by
  have hb : digitB c = decide (48 ≤ c.toNat ∧ c.toNat ≤ 57) := rfl
  have H := Lib.hid hb
  clear hb
  generalize c.toNat = n at *
  by_cases h1 : (48 : Int) ≤ (n : Int) <;> by_cases h2 : (n : Int) ≤ 57
  all_goals
    first
    | (exfalso; omega)
    | (go_enter Try.func77, Try.ntmps77
       go_wp2
       go_ret
       refine ⟨ret_bool ?_, rfl⟩
       rw [H.out]
       rw [Bool.eq_iff_iff]
       simp
       omega)
theorem ba_getD (s : ByteArray) (k : Nat) (h : k < s.size) : s.data.toList.getD k 0 = s[k] := by
  rw [List.getD_eq_getElem?_getD, Lib.data_getElem? s k h]
  rfl
theorem ba_headD (s : ByteArray) (h : 0 < s.size) : s.data.toList.headD 0 = s[0] := by
  have := ba_getD s 0 h
  rw [← this]
  cases s.data.toList <;> rfl
theorem ba_takeS (t : ByteArray) (k : Nat) (h : k < t.size) : t.data.toList.take (k + 1) = t.data.toList.take k ++ [t[k]] := by
  rw [List.take_succ_eq_append_getElem (by simpa using h)]; rfl
theorem ba_length (s : ByteArray) : s.data.toList.length = s.size := rfl
theorem ba_toList (s : ByteArray) : s.toList = s.data.toList := by
  obtain ⟨⟨l⟩⟩ := s
  rw [show (ByteArray.mk { toList := l }) = ByteArray.mk l.toArray from rfl, ByteArray.toList_mk]
theorem ret_intn {k : IntKind} {a b : Nat} (h : a = b) : Ending.returned (.int k (a : Int)) = .returned (.int k (b : Int)) := by rw [h]
theorem run_any (s : ByteArray) (hs : s.size ≤ 9223372036854775807) (w : World) : Calls Try.prog 89 #[.string s] w fun e w' => e = .returned (.int .i64 (runN s.data.toList : Int)) ∧ w = w' := by
  go_enter Try.func89, Try.ntmps89
  go_wp2
  go_loop [6] (fun i => ∃ k : Nat, k ≤ s.size ∧ i = .int .i64 k ∧ Hid (∀ c ∈ s.data.toList.take k, alnumB c = true)) (fun i => s.size - (intOf i).toNat)
  case atStart => exact ⟨0, Nat.zero_le _, rfl, Lib.hid (by simp)⟩
  case round =>
    obtain ⟨k, hk, rfl, HA⟩ := hrel
    by_cases hlt : k < s.size
    · have HG := Lib.hid (ba_getD s k hlt)
      have HT := Lib.hid (ba_takeS s k hlt)
      by_cases h1 : letterB s[k] = true
      · have HN : Hid (∀ c ∈ s.data.toList.take (k + 1), alnumB c = true) := Lib.hid (by
          rw [HT.out]; intro c hc; rcases List.mem_append.1 hc with h | h; exact HA.out c h; rw [List.mem_singleton] at h; subst h; unfold alnumB; rw [h1]; rfl)
        go_wp2_with (go_at_call 88; refine (letter_any _ _).mono ?_; rintro e w' ⟨rfl, rfl⟩)
        go_round
        case rel => exact ⟨k + 1, by omega, by go_num, HN⟩
        case measure => simp [intOf]; omega
      · simp only [Bool.not_eq_true] at h1
        by_cases h2 : digitB s[k] = true
        · have HN : Hid (∀ c ∈ s.data.toList.take (k + 1), alnumB c = true) := Lib.hid (by
            rw [HT.out]; intro c hc; rcases List.mem_append.1 hc with h | h; exact HA.out c h; rw [List.mem_singleton] at h; subst h; unfold alnumB; rw [h2]; simp)
          go_wp2_with (first | (go_at_call 88; refine (letter_any _ _).mono ?_; rintro e w' ⟨rfl, rfl⟩) | (go_at_call 98; refine (digit_any _ _).mono ?_; rintro e w' ⟨rfl, rfl⟩))
          go_round
          case rel => exact ⟨k + 1, by omega, by go_num, HN⟩
          case measure => simp [intOf]; omega
        · simp only [Bool.not_eq_true] at h2
          have HN : Hid (runN s.data.toList = k) := Lib.hid (runN_of _ _ hk HA.out (.inr (by rw [HG.out]; unfold alnumB; rw [h1, h2]; rfl)))
          go_wp2_with (first | (go_at_call 88; refine (letter_any _ _).mono ?_; rintro e w' ⟨rfl, rfl⟩) | (go_at_call 98; refine (digit_any _ _).mono ?_; rintro e w' ⟨rfl, rfl⟩))
          go_ret
          exact ⟨ret_intn HN.out.symm, rfl⟩
    · obtain rfl : k = s.size := by omega
      have HN : Hid (runN s.data.toList = s.size) := Lib.hid (runN_of _ _ (Nat.le_refl _) HA.out (.inl rfl))
      go_wp2
      go_ret
      exact ⟨ret_intn HN.out.symm, rfl⟩
end Go.Proofs.Ytmedhibjkbahpaa
namespace Go.Proofs.Ytmedhibjkbahpaa
open Go.RowKit
set_option linter.unusedVariables false

def signAB (a b : Nat) : Nat :=
  if a = 60 ∨ a = 62 then (if b = a ∨ b = 61 then 2 else 1)
  else if a = 61 ∨ a = 33 then (if b = 61 then 2 else 1)
  else if a = 38 ∨ a = 124 then (if b = a then 2 else 1)
  else if a ∈ [43, 45, 42, 47, 37, 94, 126, 40, 41, 123, 125, 91, 93, 44, 59] then 1 else 0
theorem signAB_eq (l : List UInt8) : signN l = signAB (l.getD 0 0).toNat (l.getD 1 0).toNat := rfl
-- signs begin
theorem wordB_eq (s : ByteArray) : wordB s.data.toList = ((s.toList == [105, 110, 116]) || (s.toList == [105, 102]) || (s.toList == [101, 108, 115, 101]) || (s.toList == [119, 104, 105, 108, 101]) || (s.toList == [98, 114, 101, 97, 107]) || (s.toList == [99, 111, 110, 116, 105, 110, 117, 101]) || (s.toList == [114, 101, 116, 117, 114, 110]) || (s.toList == [112, 114, 105, 110, 116]) || (s.toList == [114, 101, 97, 100])) := by
  rw [ba_toList]
  unfold wordB wordsL
  rw [Bool.eq_iff_iff]
  simp [or_assoc]
theorem isWord_any (s : ByteArray) (w : World) : Calls Try.prog 90 #[.string s] w fun e w' => e = .returned (.bool (wordB s.data.toList)) ∧ w = w' := by
  have H := Lib.hid (wordB_eq s)
  go_enter Try.func90, Try.ntmps90
  go_wp2
  all_goals
    first
    | (exfalso; simp_all; done)
    | (go_ret
       refine ⟨ret_bool ?_, rfl⟩
       rw [H.out]
       simp [*])
end Go.Proofs.Ytmedhibjkbahpaa
namespace Go.Proofs.Ytmedhibjkbahpaa
open Go.RowKit
set_option linter.unusedVariables false
set_option maxRecDepth 100000

def strL (l : List UInt8) : ByteArray := ⟨l.toArray⟩
theorem strL_list (l : List UInt8) : (strL l).data.toList = l := by simp [strL]
def wordCells : List Value := wordsL.map fun l => .string (strL l)
theorem words_any (w : World) : Calls Try.prog 97 #[] w fun e w' => e = .returned (.slice (some ⟨w.heap.size, 0, none⟩) 9 9) ∧ w' = w.alloc (.cells wordCells.toArray 9) := by
  have H : Hid (wordCells.toArray = #[.string ⟨#[105, 110, 116]⟩, .string ⟨#[105, 102]⟩, .string ⟨#[101, 108, 115, 101]⟩, .string ⟨#[119, 104, 105, 108, 101]⟩, .string ⟨#[98, 114, 101, 97, 107]⟩, .string ⟨#[99, 111, 110, 116, 105, 110, 117, 101]⟩, .string ⟨#[114, 101, 116, 117, 114, 110]⟩, .string ⟨#[112, 114, 105, 110, 116]⟩, .string ⟨#[114, 101, 97, 100]⟩]) := Lib.hid rfl
  go_enter Try.func97, Try.ntmps97
  go_wp2
  go_ret
  exact ⟨rfl, by rw [H.out]⟩
theorem str_beq (l : List UInt8) (s : ByteArray) : ((strL l).toList == s.toList) = decide (l = s.data.toList) := by
  rw [ba_toList, ba_toList, strL_list, Bool.eq_iff_iff]
  simp
theorem rword_any (s : ByteArray) (w : World) : Calls Try.prog 78 #[.string s] w fun e w' => e = .returned (.bool (wordB s.data.toList)) ∧ Below w.heap.size w w' := by
  have hcell : ∀ k wd, wordsL[k]? = some wd → (w.alloc (.cells wordCells.toArray 9)).cell? ⟨w.heap.size, k, none⟩ = some (.string (strL wd)) := fun k wd h => by
    rw [cell_of_row _ _ k _ _ (0, 0) (heap_alloc_new w _)]
    simp [wordCells, h]
  have HC := Lib.hid hcell
  have HB : Hid (Below w.heap.size w (w.alloc (.cells wordCells.toArray 9))) := Lib.hid ((Below.refl _ _).alloc (Nat.le_refl _) _)
  clear hcell
  go_enter Try.func78, Try.ntmps78
  go_wp2_with (go_at_call 97; refine (words_any _).mono ?_; rintro e w' ⟨rfl, rfl⟩)
  generalize w.alloc (.cells wordCells.toArray 9) = W at *
  go_loop [7] (fun i => ∃ k : Nat, k ≤ 9 ∧ i = .int .i64 k ∧ Hid (∀ j wd, j < k → wordsL[j]? = some wd → wd ≠ s.data.toList)) (fun i => 9 - (intOf i).toNat)
  case atStart => exact ⟨0, by omega, rfl, Lib.hid (fun j wd h => by omega)⟩
  case round =>
    obtain ⟨k, hk, rfl, HI⟩ := hrel
    by_cases hlt : k < 9
    · obtain ⟨wd, hwd⟩ : ∃ wd, wordsL[k]? = some wd := ⟨_, List.getElem?_eq_getElem (by show k < 9; exact hlt)⟩
      have hc := HC.out k wd hwd
      have HS := Lib.hid (str_beq wd s)
      have HWD := Lib.hid hwd
      clear hwd
      by_cases he : wd = s.data.toList
      · have hq : ((strL wd).toList == s.toList) = true := by rw [HS.out]; exact decide_eq_true he
        have HF : Hid (wordB s.data.toList = true) := Lib.hid (by unfold wordB; rw [← he]; exact decide_eq_true (List.mem_of_getElem? HWD.out))
        clear he
        go_wp2
        go_ret
        exact ⟨ret_bool HF.out.symm, HB.out⟩
      · have hq : ((strL wd).toList == s.toList) = false := by rw [HS.out]; exact decide_eq_false he
        have HN : Hid (∀ j wd, j < k + 1 → wordsL[j]? = some wd → wd ≠ s.data.toList) := Lib.hid (fun j wd' hj h => by
          rcases Nat.lt_or_ge j k with h1 | h1
          · exact HI.out j wd' h1 h
          · obtain rfl : j = k := by omega
            rw [HWD.out] at h
            cases h
            exact he)
        clear he
        go_wp2
        go_round
        case rel => exact ⟨k + 1, by omega, by go_num, HN⟩
        case measure => simp [intOf]; omega
    · obtain rfl : k = 9 := by omega
      have HF : Hid (wordB s.data.toList = false) := Lib.hid (by
        unfold wordB
        refine decide_eq_false (fun h => ?_)
        obtain ⟨j, hj⟩ := List.mem_iff_getElem?.1 h
        have hl : j < 9 := (List.getElem?_eq_some_iff.1 hj).1
        exact HI.out j _ hl hj rfl)
      go_wp2
      go_ret
      exact ⟨ret_bool HF.out.symm, HB.out⟩
theorem nameB_eq (s : ByteArray) (h : 0 < s.size) : nameB s.data.toList = (decide (s.size ≤ 64) && letterB s[0] && decide (runN s.data.toList = s.size) && !wordB s.data.toList) := by
  unfold nameB
  have hne : s.data.toList ≠ [] := fun e => by rw [← ba_length, e] at h; simp at h
  rw [ba_headD s h, decide_eq_true hne, Bool.true_and]
  rfl
theorem isName_any (s : ByteArray) (hs : s.size ≤ 4000000000) (w : World) : Calls Try.prog 67 #[.string s] w fun e w' => e = .returned (.bool (nameB s.data.toList)) ∧ w = w' := by
  by_cases h0 : s.size = 0
  · have hnil : s.data.toList = [] := List.eq_nil_of_length_eq_zero h0
    have e1 : s.toList.isEmpty = true := by rw [ba_toList, hnil]; rfl
    have e2 : s.toList = [] := by rw [ba_toList, hnil]
    have HF : Hid (nameB s.data.toList = false) := Lib.hid (by rw [hnil]; rfl)
    clear hnil
    go_enter Try.func67, Try.ntmps67
    go_wp2
    go_ret
    exact ⟨ret_bool HF.out.symm, rfl⟩
  have h0p : 0 < s.size := by omega
  have e1 : s.toList.isEmpty = false := by
    rw [ba_toList]
    cases hq : s.data.toList with
    | nil => rw [← ba_length, hq] at h0p; exact absurd h0p (Nat.lt_irrefl _)
    | cons => rfl
  have HN := Lib.hid (nameB_eq s h0p)
  have HR := Lib.hid (run_any s (by omega))
  have HW := Lib.hid (isWord_any s)
  have hrl := runN_le s.data.toList
  rw [ba_length] at hrl
  by_cases h64 : (s.size : Int) ≤ 64 <;> cases hl : letterB s[0] <;> by_cases hr : runN s.data.toList = s.size <;> cases hw : wordB s.data.toList
  all_goals
    have hrb : ((runN s.data.toList : Int) == (s.size : Int)) = decide (runN s.data.toList = s.size) := by
      rw [Bool.eq_iff_iff]
      simp only [beq_iff_eq, decide_eq_true_eq]
      omega
    have hd64 : decide (s.size ≤ 64) = decide ((s.size : Int) ≤ 64) := by
      rw [Bool.eq_iff_iff]
      simp only [decide_eq_true_eq]
      omega
    rw [hl, hw, hd64] at HN
    rw [hw] at HW
    first
    | rw [decide_eq_true hr] at hrb HN
    | rw [decide_eq_false hr] at hrb HN
    first
    | rw [decide_eq_true h64] at HN
    | rw [decide_eq_false h64] at HN
    clear hr hw hd64 h0
    generalize runN s.data.toList = n at *
    go_enter Try.func67, Try.ntmps67
    go_wp2_with (first | (go_at_call 88; refine (letter_any _ _).mono ?_; rintro e w' ⟨rfl, rfl⟩) | (go_at_call 89; refine (HR.out _).mono ?_; rintro e w' ⟨rfl, rfl⟩) | (go_at_call 90; refine (HW.out _).mono ?_; rintro e w' ⟨rfl, rfl⟩))
    go_ret
    exact ⟨ret_bool HN.out.symm, rfl⟩
theorem alpha_split (c : UInt8) : letterB c = true → digitB c = false := by
  unfold letterB digitB
  intro h
  refine decide_eq_false (fun h2 => ?_)
  simp only [Bool.or_eq_true, decide_eq_true_eq, beq_iff_eq] at h
  omega
set_option maxHeartbeats 1000000 in
theorem risName_any (s : ByteArray) (hs : s.size ≤ 4000000000) (w : World) : Calls Try.prog 55 #[.string s] w fun e w' => e = .returned (.bool (nameB s.data.toList)) ∧ Below w.heap.size w w' := by
  by_cases h0 : s.size = 0
  · have hnil : s.data.toList = [] := List.eq_nil_of_length_eq_zero h0
    have h0b : ((s.size : Int) == 0) = true := by rw [beq_iff_eq]; omega
    have HF : Hid (nameB s.data.toList = false) := Lib.hid (by rw [hnil]; rfl)
    clear hnil
    go_enter Try.func55, Try.ntmps55
    go_wp2
    go_ret
    exact ⟨ret_bool HF.out.symm, Below.refl _ _⟩
  have h0p : 0 < s.size := by omega
  have h0b : ((s.size : Int) == 0) = false := by rw [beq_eq_false_iff_ne]; omega
  have HN := Lib.hid (nameB_eq s h0p)
  have HW := Lib.hid (rword_any s)
  clear h0
  by_cases h64 : (64 : Int) < (s.size : Int)
  · have HF : Hid (nameB s.data.toList = false) := Lib.hid (by rw [HN.out, decide_eq_false (by omega)]; rfl)
    go_enter Try.func55, Try.ntmps55
    go_wp2
    go_ret
    exact ⟨ret_bool HF.out.symm, Below.refl _ _⟩
  cases hd : digitB s[0] with
  | true =>
    have HF : Hid (nameB s.data.toList = false) := Lib.hid (by
      have : letterB s[0] = false := by
        cases hl : letterB s[0] with
        | false => rfl
        | true => have := alpha_split _ hl; rw [hd] at this; cases this
      rw [HN.out, this]; simp)
    go_enter Try.func55, Try.ntmps55
    go_wp2_with (go_at_call 77; refine (rdigit_any _ _).mono ?_; rintro e w' ⟨rfl, rfl⟩)
    go_ret
    exact ⟨ret_bool HF.out.symm, Below.refl _ _⟩
  | false =>
    cases hw : wordB s.data.toList with
    | true =>
      have HF : Hid (nameB s.data.toList = false) := Lib.hid (by rw [HN.out, hw]; simp)
      rw [hw] at HW
      clear hw
      go_enter Try.func55, Try.ntmps55
      go_wp2_with (first | (go_at_call 77; refine (rdigit_any _ _).mono ?_; rintro e w' ⟨rfl, rfl⟩) | (go_at_call 78; refine (HW.out _).mono ?_; rintro e w' ⟨rfl, hB⟩))
      go_ret
      exact ⟨ret_bool HF.out.symm, hB⟩
    | false =>
      have HF : Hid (nameB s.data.toList = (letterB s[0] && decide (runN s.data.toList = s.size))) := Lib.hid (by rw [HN.out, hw, decide_eq_true (by omega)]; simp)
      rw [hw] at HW
      clear hw HN
      go_enter Try.func55, Try.ntmps55
      go_wp2_with (first | (go_at_call 77; refine (rdigit_any _ _).mono ?_; rintro e w' ⟨rfl, rfl⟩) | (go_at_call 78; refine (HW.out _).mono ?_; rintro e w' ⟨rfl, hB⟩))
      have HB := Lib.hid hB
      have HD := Lib.hid hd
      clear hB hd
      go_loop [3] (fun i => ∃ k : Nat, k ≤ s.size ∧ i = .int .i64 k ∧ Hid (∀ c ∈ s.data.toList.take k, alnumB c = true)) (fun i => s.size - (intOf i).toNat)
      case atStart => exact ⟨0, Nat.zero_le _, rfl, Lib.hid (by simp)⟩
      case round =>
        obtain ⟨k, hk, rfl, HA⟩ := hrel
        by_cases hlt : k < s.size
        · have HG := Lib.hid (ba_getD s k hlt)
          have HT := Lib.hid (ba_takeS s k hlt)
          by_cases h1 : alnumB s[k] = true
          · have HN : Hid (∀ c ∈ s.data.toList.take (k + 1), alnumB c = true) := Lib.hid (by
              rw [HT.out]; intro c hc; rcases List.mem_append.1 hc with h | h; exact HA.out c h; rw [List.mem_singleton] at h; subst h; exact h1)
            unfold alnumB at h1
            cases h2 : letterB s[k] with
            | true =>
              clear h1
              go_wp2_with (first | (go_at_call 77; refine (rdigit_any _ _).mono ?_; rintro e w' ⟨rfl, rfl⟩) | (go_at_call 79; refine (rletter_any _ _).mono ?_; rintro e w' ⟨rfl, rfl⟩))
              go_round
              case rel => exact ⟨k + 1, by omega, by go_num, HN⟩
              case measure => simp [intOf]; omega
            | false =>
              have h3 : digitB s[k] = true := by rw [h2] at h1; simpa using h1
              clear h1
              go_wp2_with (first | (go_at_call 77; refine (rdigit_any _ _).mono ?_; rintro e w' ⟨rfl, rfl⟩) | (go_at_call 79; refine (rletter_any _ _).mono ?_; rintro e w' ⟨rfl, rfl⟩))
              go_round
              case rel => exact ⟨k + 1, by omega, by go_num, HN⟩
              case measure => simp [intOf]; omega
          · simp only [Bool.not_eq_true] at h1
            have HR : Hid (nameB s.data.toList = false) := Lib.hid (by
              rw [HF.out, runN_of _ _ hk HA.out (.inr (by rw [HG.out]; exact h1)), decide_eq_false (by omega)]; simp)
            unfold alnumB at h1
            simp only [Bool.or_eq_false_iff] at h1
            obtain ⟨h2, h3⟩ := h1
            go_wp2_with (first | (go_at_call 77; refine (rdigit_any _ _).mono ?_; rintro e w' ⟨rfl, rfl⟩) | (go_at_call 79; refine (rletter_any _ _).mono ?_; rintro e w' ⟨rfl, rfl⟩))
            go_ret
            exact ⟨ret_bool HR.out.symm, HB.out⟩
        · obtain rfl : k = s.size := by omega
          have HR : Hid (nameB s.data.toList = true) := Lib.hid (by
            have h1 := HA.out s[0] (by rw [← ba_length, List.take_length, ← ba_headD s h0p]; cases hq : s.data.toList with | nil => rw [← ba_length, hq] at h0p; exact absurd h0p (Nat.lt_irrefl _) | cons x r => simp)
            unfold alnumB at h1
            rw [HD.out] at h1
            rw [HF.out, runN_of _ _ (Nat.le_refl _) HA.out (.inl rfl), decide_eq_true (by rw [ba_length])]
            simpa using h1)
          go_wp2
          go_ret
          exact ⟨ret_bool HR.out.symm, HB.out⟩
end Go.Proofs.Ytmedhibjkbahpaa
