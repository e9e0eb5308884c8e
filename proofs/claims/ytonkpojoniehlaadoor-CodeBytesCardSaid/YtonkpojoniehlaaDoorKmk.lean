/-
  code.Encode of any line; the document's examples (lives of layer 19).
-/
import Derived.Test.YtonkpojoniehlaaDoorKmj
namespace Go.Proofs.YtonkpojoniehlaaDoor
open Go.RowKit
set_option linter.unusedVariables false
set_option linter.unusedSimpArgs false
set_option maxRecDepth 100000

theorem ba_toList19 (s : ByteArray) : s.toList = s.data.toList := by
  obtain ⟨⟨l⟩⟩ := s
  rw [show (ByteArray.mk { toList := l }) = ByteArray.mk l.toArray from rfl, ByteArray.toList_mk]
theorem may_nat (i : Ins) (h : mayI i = true) : (1 ≤ i.op ∧ i.op ≤ 30) ∧ (0 ≤ i.d ∧ i.d < 32) ∧ (0 ≤ i.a ∧ i.a < 32) ∧ (0 ≤ i.b ∧ i.b < 32) := by
  unfold mayI at h
  simp only [Bool.and_eq_true, decide_eq_true_eq] at h
  obtain ⟨⟨⟨⟨⟨h1, h2⟩, hd⟩, ha⟩, hb⟩, hn⟩ := h
  refine ⟨⟨h1, h2⟩, ?_, ?_, ?_⟩
  · rcases reg_ok hd with ⟨_, h, g⟩ | ⟨_, h⟩ <;> omega
  · rcases reg_ok ha with ⟨_, h, g⟩ | ⟨_, h⟩ <;> omega
  · rcases reg_ok hb with ⟨_, h, g⟩ | ⟨_, h⟩ <;> omega

theorem encode_any (k op d a b n : Int) (s : ByteArray) (b1 : -2147483648 ≤ n) (b2 : n ≤ 2147483647) (w : World) (hR : RowsOk w) :
    Calls Tryd.prog 13 #[.agg #[.int .i64 k, .int .i64 op, .int .i64 d, .int .i64 a, .int .i64 b, .int .i32 n, .string s]] w
      fun e w' => e = .returned (.tuple #[.int .u32 ((encV k s ⟨op, d, a, b, n⟩).getD 0 : Nat), .bool (encV k s ⟨op, d, a, b, n⟩).isSome]) ∧ Below w.heap.size w w' := by
  by_cases h : k = 2 ∧ s.toList = []
  · obtain ⟨rfl, hs⟩ := h
    have hs' : s = ⟨#[]⟩ := by
      have h1 : s.data.toList = [] := by rw [← ba_toList19 s]; exact hs
      obtain ⟨⟨l⟩⟩ := s
      simp at h1
      subst h1
      rfl
    subst hs'
    have e0 : encV 2 ⟨#[]⟩ ⟨op, d, a, b, n⟩ = encI ⟨op, d, a, b, n⟩ := if_pos ⟨rfl, hs⟩
    rw [e0]
    cases hm : mayI ⟨op, d, a, b, n⟩ with
    | false =>
      have e1 : encI ⟨op, d, a, b, n⟩ = none := by unfold encI; rw [hm]; rfl
      rw [e1]
      exact encode_bad op d a b n b1 b2 hm w
    | true =>
      have e1 : encI ⟨op, d, a, b, n⟩ = some (wordI ⟨op, d, a, b, n⟩) := by unfold encI; rw [hm]; rfl
      rw [e1]
      obtain ⟨ho, hd, ha, hb⟩ := may_nat _ hm
      simp only at ho hd ha hb
      obtain ⟨j, rfl⟩ := Int.eq_ofNat_of_zero_le (show 0 ≤ op by omega)
      obtain ⟨D, rfl⟩ := Int.eq_ofNat_of_zero_le hd.1
      obtain ⟨A, rfl⟩ := Int.eq_ofNat_of_zero_le ha.1
      obtain ⟨B, rfl⟩ := Int.eq_ofNat_of_zero_le hb.1
      exact encode_ok j D A B n b1 b2 (by omega) (by omega) (by omega) (by omega) (by omega) hm w hR
  · have e0 : encV k s ⟨op, d, a, b, n⟩ = none := if_neg h
    rw [e0]
    exact encode_no k op d a b n s (by
      by_cases hk : k = 2
      · exact .inr (fun hs => h ⟨hk, hs⟩)
      · exact .inl hk) w

theorem lives19 (w : World) (hR : RowsOk w) :
    Calls Tryd.prog 12 #[] w fun e w' => e = .returned (.bool true) ∧ Below w.heap.size w w' := by
  have m1 : mayI ⟨((2 : Nat) : Int), ((5 : Nat) : Int), ((0 : Nat) : Int), ((0 : Nat) : Int), -1⟩ = true := by decide
  have m2 : mayI ⟨((30 : Nat) : Int), ((0 : Nat) : Int), ((0 : Nat) : Int), ((0 : Nat) : Int), 0⟩ = true := by decide
  have v1 : encN 2 5 0 0 (nat32 (-1)) = 4293919379 := by kernel_rfl
  have v2 : encN 30 0 0 0 (nat32 0) = 115 := by kernel_rfl
  have K1 : ∀ w, RowsOk w → Calls Tryd.prog 13 #[.agg #[.int .i64 2, .int .i64 2, .int .i64 5, .int .i64 0, .int .i64 0, .int .i32 (-1), .string ⟨#[]⟩]] w fun e w' => e = .returned (.tuple #[.int .u32 4293919379, .bool true]) ∧ Below w.heap.size w w' := fun w hR => by
    have h := encode_ok 2 5 0 0 (-1) (by decide) (by decide) (by decide) (by decide) (by decide) (by decide) (by decide) m1 w hR
    rw [v1] at h
    exact h
  have K2 : ∀ w, RowsOk w → Calls Tryd.prog 13 #[.agg #[.int .i64 2, .int .i64 30, .int .i64 0, .int .i64 0, .int .i64 0, .int .i32 0, .string ⟨#[]⟩]] w fun e w' => e = .returned (.tuple #[.int .u32 115, .bool true]) ∧ Below w.heap.size w w' := fun w hR => by
    have h := encode_ok 30 0 0 0 0 (by decide) (by decide) (by decide) (by decide) (by decide) (by decide) (by decide) m2 w hR
    rw [v2] at h
    exact h
  have H1 := Lib.hid K1
  have H2 := Lib.hid K2
  have HR := Lib.hid hR
  clear m1 m2 v1 v2 hR K1 K2
  go_enter Tryd.func12, Tryd.ntmps12
  go_wp2_with (first
    | (go_at_call 13; (with_reducible refine (H1.out _ HR.out).mono ?_); rintro e w1 ⟨rfl, hb⟩; have HR1 := Lib.hid (And.intro hb (HR.out.below hb)); clear hb)
    | (go_at_call 13; (with_reducible refine (H2.out _ HR1.out.2).mono ?_); rintro e w2 ⟨rfl, hb⟩; have HB2 := Lib.hid (HR1.out.1.trans (hb.mono HR1.out.1.size)); clear hb))
  go_ret
  exact ⟨rfl, HB2.out⟩
end Go.Proofs.YtonkpojoniehlaaDoor
