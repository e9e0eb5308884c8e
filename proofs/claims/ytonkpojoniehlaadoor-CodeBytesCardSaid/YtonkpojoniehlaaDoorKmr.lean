/-
  The document's Encode, of any line; the walk of the law CodeEncodes.
-/
import Derived.Test.YtonkpojoniehlaaDoorKmqa
import Derived.Test.YtonkpojoniehlaaDoorKmqb
import Derived.Test.YtonkpojoniehlaaDoorKmqc
import Derived.Test.YtonkpojoniehlaaDoorKmqd
namespace Go.Proofs.YtonkpojoniehlaaDoor
open Go.RowKit
set_option linter.unusedVariables false
set_option linter.unusedSimpArgs false
set_option maxRecDepth 100000

theorem rencode_no (k op d a b n : Int) (s : ByteArray) (h : k ≠ 2 ∨ s.toList ≠ []) (w : World) :
    Calls Tryd.prog 14 #[.agg #[.int .i64 k, .int .i64 op, .int .i64 d, .int .i64 a, .int .i64 b, .int .i32 n, .string s]] w
      fun e w' => e = .returned (.tuple #[.int .u32 0, .bool false]) ∧ Below w.heap.size w w' := by
  by_cases hk : k = 2
  · have hs : s.toList ≠ [] := by
      rcases h with h | h
      · exact absurd hk h
      · exact h
    have e1 : s.toList.isEmpty = false := by simpa using hs
    subst hk
    clear h
    go_enter Tryd.func14, Tryd.ntmps14
    go_wp2
    go_ret2
    exact ⟨rfl, (Below.refl _ _).alloc (Nat.le_refl _) _⟩
  · have e1 : (k != 2) = true := by simpa using hk
    clear h
    go_enter Tryd.func14, Tryd.ntmps14
    go_wp2
    go_ret2
    exact ⟨rfl, (Below.refl _ _).alloc (Nat.le_refl _) _⟩

set_option maxHeartbeats 1600000 in
theorem rencode_bad (op d a b n : Int) (b1 : -2147483648 ≤ n) (b2 : n ≤ 2147483647) (h : mayI ⟨op, d, a, b, n⟩ = false) (w : World) :
    Calls Tryd.prog 14 #[.agg #[.int .i64 2, .int .i64 op, .int .i64 d, .int .i64 a, .int .i64 b, .int .i32 n, .string ⟨#[]⟩]] w
      fun e w' => e = .returned (.tuple #[.int .u32 0, .bool false]) ∧ Below w.heap.size w w' := by
  have H := fun w => rmayLine_any op d a b n b1 b2 w
  rw [h] at H
  have HM := Lib.hid H
  have HB : Hid (Below w.heap.size w (w.alloc (.cells #[.int .i64 2, .int .i64 op, .int .i64 d, .int .i64 a, .int .i64 b, .int .i32 n, .string ⟨#[]⟩] 23))) := Lib.hid ((Below.refl _ _).alloc (Nat.le_refl _) _)
  clear H h
  go_enter Tryd.func14, Tryd.ntmps14
  go_wp2_with (go_at_call 10; (with_reducible refine (HM.out _).mono ?_); rintro e w1 ⟨rfl, hb1⟩; have HB1 := Lib.hid (HB.out.trans (hb1.mono HB.out.size)); clear hb1)
  go_ret2
  exact ⟨rfl, HB1.out⟩
theorem nat30 (j : Nat) (h1 : 1 ≤ j) (h2 : j ≤ 30) : j = 1 ∨ j = 2 ∨ j = 3 ∨ j = 4 ∨ j = 5 ∨ j = 6 ∨ j = 7 ∨ j = 8 ∨ j = 9 ∨ j = 10 ∨ j = 11 ∨ j = 12 ∨ j = 13 ∨ j = 14 ∨ j = 15 ∨ j = 16 ∨ j = 17 ∨ j = 18 ∨ j = 19 ∨ j = 20 ∨ j = 21 ∨ j = 22 ∨ j = 23 ∨ j = 24 ∨ j = 25 ∨ j = 26 ∨ j = 27 ∨ j = 28 ∨ j = 29 ∨ j = 30 := by omega
theorem rencode_ok (j D A B : Nat) (n : Int) (b1 : -2147483648 ≤ n) (b2 : n ≤ 2147483647) (h0 : 1 ≤ j) (h1 : j ≤ 30) (hD : D < 32) (hA : A < 32) (hB : B < 32) (h : mayI ⟨j, D, A, B, n⟩ = true) (w : World) :
    Calls Tryd.prog 14 #[.agg #[.int .i64 2, .int .i64 j, .int .i64 D, .int .i64 A, .int .i64 B, .int .i32 n, .string ⟨#[]⟩]] w
      fun e w' => e = .returned (.tuple #[.int .u32 (encN j D A B (nat32 n) : Nat), .bool true]) ∧ Below w.heap.size w w' := by
  rcases nat30 j h0 h1 with rfl | rfl | rfl | rfl | rfl | rfl | rfl | rfl | rfl | rfl | rfl | rfl | rfl | rfl | rfl | rfl | rfl | rfl | rfl | rfl | rfl | rfl | rfl | rfl | rfl | rfl | rfl | rfl | rfl | rfl
  · exact rencode_1 D A B n b1 b2 hD hA hB h w
  · exact rencode_2 D A B n b1 b2 hD hA hB h w
  · exact rencode_3 D A B n b1 b2 hD hA hB h w
  · exact rencode_4 D A B n b1 b2 hD hA hB h w
  · exact rencode_5 D A B n b1 b2 hD hA hB h w
  · exact rencode_6 D A B n b1 b2 hD hA hB h w
  · exact rencode_7 D A B n b1 b2 hD hA hB h w
  · exact rencode_8 D A B n b1 b2 hD hA hB h w
  · exact rencode_9 D A B n b1 b2 hD hA hB h w
  · exact rencode_10 D A B n b1 b2 hD hA hB h w
  · exact rencode_11 D A B n b1 b2 hD hA hB h w
  · exact rencode_12 D A B n b1 b2 hD hA hB h w
  · exact rencode_13 D A B n b1 b2 hD hA hB h w
  · exact rencode_14 D A B n b1 b2 hD hA hB h w
  · exact rencode_15 D A B n b1 b2 hD hA hB h w
  · exact rencode_16 D A B n b1 b2 hD hA hB h w
  · exact rencode_17 D A B n b1 b2 hD hA hB h w
  · exact rencode_18 D A B n b1 b2 hD hA hB h w
  · exact rencode_19 D A B n b1 b2 hD hA hB h w
  · exact rencode_20 D A B n b1 b2 hD hA hB h w
  · exact rencode_21 D A B n b1 b2 hD hA hB h w
  · exact rencode_22 D A B n b1 b2 hD hA hB h w
  · exact rencode_23 D A B n b1 b2 hD hA hB h w
  · exact rencode_24 D A B n b1 b2 hD hA hB h w
  · exact rencode_25 D A B n b1 b2 hD hA hB h w
  · exact rencode_26 D A B n b1 b2 hD hA hB h w
  · exact rencode_27 D A B n b1 b2 hD hA hB h w
  · exact rencode_28 D A B n b1 b2 hD hA hB h w
  · exact rencode_29 D A B n b1 b2 hD hA hB h w
  · exact rencode_30 D A B n b1 b2 hD hA hB h w
theorem rencode_any (k op d a b n : Int) (s : ByteArray) (b1 : -2147483648 ≤ n) (b2 : n ≤ 2147483647) (w : World) :
    Calls Tryd.prog 14 #[.agg #[.int .i64 k, .int .i64 op, .int .i64 d, .int .i64 a, .int .i64 b, .int .i32 n, .string s]] w
      fun e w' => e = .returned (.tuple #[.int .u32 ((encV k s ⟨op, d, a, b, n⟩).getD 0 : Nat), .bool (encV k s ⟨op, d, a, b, n⟩).isSome]) ∧ Below w.heap.size w w' := by
  by_cases h : k = 2 ∧ s.toList = []
  · obtain ⟨rfl, hs⟩ := h
    have hs' : s = ⟨#[]⟩ := by
      have h1 : s.data.toList = [] := by rw [← ba_toList19 s]; exact hs
      obtain ⟨⟨l⟩⟩ := s
      simp at h1
      subst h1
      rfl
    subst hs'
    have e0 : encV 2 ⟨#[]⟩ ⟨op, d, a, b, n⟩ = encI ⟨op, d, a, b, n⟩ := if_pos ⟨rfl, hs⟩
    rw [e0]
    cases hm : mayI ⟨op, d, a, b, n⟩ with
    | false =>
      have e1 : encI ⟨op, d, a, b, n⟩ = none := by unfold encI; rw [hm]; rfl
      rw [e1]
      exact rencode_bad op d a b n b1 b2 hm w
    | true =>
      have e1 : encI ⟨op, d, a, b, n⟩ = some (wordI ⟨op, d, a, b, n⟩) := by unfold encI; rw [hm]; rfl
      rw [e1]
      obtain ⟨ho, hd, ha, hb⟩ := may_nat _ hm
      simp only at ho hd ha hb
      obtain ⟨j, rfl⟩ := Int.eq_ofNat_of_zero_le (show 0 ≤ op by omega)
      obtain ⟨D, rfl⟩ := Int.eq_ofNat_of_zero_le hd.1
      obtain ⟨A, rfl⟩ := Int.eq_ofNat_of_zero_le ha.1
      obtain ⟨B, rfl⟩ := Int.eq_ofNat_of_zero_le hb.1
      exact rencode_ok j D A B n b1 b2 (by omega) (by omega) (by omega) (by omega) (by omega) hm w
  · have e0 : encV k s ⟨op, d, a, b, n⟩ = none := if_neg h
    rw [e0]
    exact rencode_no k op d a b n s (by
      by_cases hk : k = 2
      · exact .inr (fun hs => h ⟨hk, hs⟩)
      · exact .inl hk) w

end Go.Proofs.YtonkpojoniehlaaDoor
