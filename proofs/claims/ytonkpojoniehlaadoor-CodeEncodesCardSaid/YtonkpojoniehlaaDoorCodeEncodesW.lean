/-
  The walk of the law CodeEncodes: it answers true and writes nothing that was there.
-/
import Derived.Test.YtonkpojoniehlaaDoorKmr
namespace Go.Proofs.YtonkpojoniehlaaDoor
open Go.RowKit
set_option linter.unusedVariables false
set_option linter.unusedSimpArgs false
set_option maxRecDepth 100000

set_option maxHeartbeats 3200000 in
theorem codeEncodes_walk (k op d a b n : Int) (s : ByteArray) (w : World) (bn : -2147483648 ≤ n ∧ n ≤ 2147483647) (hs : s.size ≤ maxLen) (hLd : laidMetH Tryd.prog Rows.codeEncodesRow.laid w) :
    Calls Tryd.prog 4 #[.agg #[.int .i64 k, .int .i64 op, .int .i64 d, .int .i64 a, .int .i64 b, .int .i32 n, .string s]] w
      fun e w' => e = .returned (.bool true) ∧ Below w.heap.size w w' := by
  have hR := rows_of_laid hLd
  obtain ⟨p, hp⟩ : ∃ p, w.heap.size = p := ⟨_, rfl⟩
  obtain ⟨W0, hW0⟩ : ∃ W0, w.alloc (.cells #[.int .i64 k, .int .i64 op, .int .i64 d, .int .i64 a, .int .i64 b, .int .i32 n, .string s] 23) = W0 := ⟨_, rfl⟩
  have B0 : Below w.heap.size w W0 := by rw [← hW0]; exact (Below.refl _ _).alloc (Nat.le_refl _) _
  have L0 : LnAt W0 p k op d a b n s := by
    have h := LnAt.new w k op d a b n s 23
    rw [hW0, hp] at h
    exact h
  have HL := Lib.hid (And.intro L0 (And.intro B0 (hR.below B0)))
  obtain ⟨-, x0, x1, x2, x3, x4, x5, x6⟩ := L0
  have K1 := fun w hR => encode_any k op d a b n s bn.1 bn.2 w hR
  have K2 := rencode_any k op d a b n s bn.1 bn.2
  generalize (encV k s ⟨op, d, a, b, n⟩).getD 0 = A at *
  generalize (encV k s ⟨op, d, a, b, n⟩).isSome = B at *
  have H1 := Lib.hid K1
  have H2 := Lib.hid K2
  clear K1 K2 B0 hR hLd
  by_cases hz : (200 : Int) < (s.size : Int)
  · go_enter Tryd.func4, Tryd.ntmps4
    go_wp2_with (go_at_call 12; (with_reducible refine (lives19 _ HL.out.2.2).mono ?_); rintro e w3 ⟨rfl, hb⟩; have HB := Lib.hid (HL.out.2.1.trans (hb.mono HL.out.2.1.size)); clear hb)
    go_ret
    exact ⟨rfl, HB.out⟩
  · cases B <;>
    · go_enter Tryd.func4, Tryd.ntmps4
      go_wp2_with (first
        | (go_at_call 13; (with_reducible refine (H1.out _ HL.out.2.2).mono ?_); rintro e w1 ⟨rfl, hb⟩
           have HL1 := Lib.hid (And.intro (HL.out.1.below hb) (And.intro (HL.out.2.1.trans (hb.mono HL.out.2.1.size)) (HL.out.2.2.below hb))); clear hb
           obtain ⟨-, u0, u1, u2, u3, u4, u5, u6⟩ := HL1.out.1)
        | (go_at_call 14; (with_reducible refine (H2.out _).mono ?_); rintro e w2 ⟨rfl, hb⟩
           have HL2 := Lib.hid (And.intro (HL1.out.2.1.trans (hb.mono HL1.out.2.1.size)) (HL1.out.2.2.below hb)); clear hb)
        | (go_at_call 12; (with_reducible refine (lives19 _ HL2.out.2).mono ?_); rintro e w3 ⟨rfl, hb⟩; have HB := Lib.hid (HL2.out.1.trans (hb.mono HL2.out.1.size)); clear hb))
      go_ret
      exact ⟨rfl, HB.out⟩
end Go.Proofs.YtonkpojoniehlaaDoor
