/-
  Contract of code.Encode: any line's word, or that it has none.
-/
import Derived.Test.YtonkpojoniehlaaDoorKmh
import Derived.Test.YtonkpojoniehlaaDoorKmd
namespace Go.Proofs.YtonkpojoniehlaaDoor
open Go.RowKit
set_option linter.unusedVariables false
set_option linter.unusedSimpArgs false
set_option maxRecDepth 100000

/-- A line's word. -/
def encV (k : Int) (s : ByteArray) (i : Ins) : Option Nat := if k = 2 ∧ s.toList = [] then encI i else none

theorem encode_no (k op d a b n : Int) (s : ByteArray) (h : k ≠ 2 ∨ s.toList ≠ []) (w : World) :
    Calls Tryd.prog 13 #[.agg #[.int .i64 k, .int .i64 op, .int .i64 d, .int .i64 a, .int .i64 b, .int .i32 n, .string s]] w
      fun e w' => e = .returned (.tuple #[.int .u32 0, .bool false]) ∧ Below w.heap.size w w' := by
  by_cases hk : k = 2
  · have hs : s.toList ≠ [] := by
      rcases h with h | h
      · exact absurd hk h
      · exact h
    have e1 : s.toList.isEmpty = false := by simpa using hs
    subst hk
    clear h
    go_enter Tryd.func13, Tryd.ntmps13
    go_wp2
    go_ret2
    exact ⟨rfl, (Below.refl _ _).alloc (Nat.le_refl _) _⟩
  · have e1 : (k != 2) = true := by simpa using hk
    clear h
    go_enter Tryd.func13, Tryd.ntmps13
    go_wp2
    go_ret2
    exact ⟨rfl, (Below.refl _ _).alloc (Nat.le_refl _) _⟩

set_option maxHeartbeats 1600000 in
theorem encode_bad (op d a b n : Int) (b1 : -2147483648 ≤ n) (b2 : n ≤ 2147483647) (h : mayI ⟨op, d, a, b, n⟩ = false) (w : World) :
    Calls Tryd.prog 13 #[.agg #[.int .i64 2, .int .i64 op, .int .i64 d, .int .i64 a, .int .i64 b, .int .i32 n, .string ⟨#[]⟩]] w
      fun e w' => e = .returned (.tuple #[.int .u32 0, .bool false]) ∧ Below w.heap.size w w' := by
  have H := fun w => mayLine_any op d a b n b1 b2 w
  rw [h] at H
  have HM := Lib.hid H
  have HB : Hid (Below w.heap.size w (w.alloc (.cells #[.int .i64 2, .int .i64 op, .int .i64 d, .int .i64 a, .int .i64 b, .int .i32 n, .string ⟨#[]⟩] 23))) := Lib.hid ((Below.refl _ _).alloc (Nat.le_refl _) _)
  clear H h
  go_enter Tryd.func13, Tryd.ntmps13
  go_wp2_with (go_at_call 20; (with_reducible refine (HM.out _).mono ?_); rintro e w1 ⟨rfl, hb1⟩; have HB1 := Lib.hid (HB.out.trans (hb1.mono HB.out.size)); clear hb1)
  go_ret2
  exact ⟨rfl, HB1.out⟩
end Go.Proofs.YtonkpojoniehlaaDoor
