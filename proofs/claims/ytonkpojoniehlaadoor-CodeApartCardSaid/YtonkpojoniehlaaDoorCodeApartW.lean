/-
  The walk of the law CodeApart: it answers true and writes nothing that was there.
-/
import Derived.Test.YtonkpojoniehlaaDoorKml
namespace Go.Proofs.YtonkpojoniehlaaDoor
open Go.RowKit
set_option linter.unusedVariables false
set_option linter.unusedSimpArgs false
set_option maxRecDepth 100000

set_option maxHeartbeats 3200000 in
theorem codeApart_walk' (k op d a b n k' op' d' a' b' n' : Int) (s s' : ByteArray) (bn : -2147483648 ≤ n ∧ n ≤ 2147483647) (bn' : -2147483648 ≤ n' ∧ n' ≤ 2147483647) (hs : s.size ≤ maxLen) (hs' : s'.size ≤ maxLen) (w : World) (hR : RowsOk w) :
    Calls Tryd.prog 6 #[.agg #[.int .i64 k, .int .i64 op, .int .i64 d, .int .i64 a, .int .i64 b, .int .i32 n, .string s], .agg #[.int .i64 k', .int .i64 op', .int .i64 d', .int .i64 a', .int .i64 b', .int .i32 n', .string s']] w
      fun e w' => e = .returned (.bool true) ∧ Below w.heap.size w w' := by
  obtain ⟨p, hp⟩ : ∃ p, w.heap.size = p := ⟨_, rfl⟩
  obtain ⟨W0, hW0⟩ : ∃ W0, w.alloc (.cells #[.int .i64 k, .int .i64 op, .int .i64 d, .int .i64 a, .int .i64 b, .int .i32 n, .string s] 23) = W0 := ⟨_, rfl⟩
  obtain ⟨p1, hp1⟩ : ∃ p1, W0.heap.size = p1 := ⟨_, rfl⟩
  obtain ⟨W1, hW1⟩ : ∃ W1, W0.alloc (.cells #[.int .i64 k', .int .i64 op', .int .i64 d', .int .i64 a', .int .i64 b', .int .i32 n', .string s'] 23) = W1 := ⟨_, rfl⟩
  have B0 : Below w.heap.size w W0 := by rw [← hW0]; exact (Below.refl _ _).alloc (Nat.le_refl _) _
  have B1 : Below W0.heap.size W0 W1 := by rw [← hW1]; exact (Below.refl _ _).alloc (Nat.le_refl _) _
  have L0 : LnAt W1 p k op d a b n s := by
    have h := LnAt.new w k op d a b n s 23
    rw [hW0, hp] at h
    exact h.below B1
  have L1 : LnAt W1 p1 k' op' d' a' b' n' s' := by
    have h := LnAt.new W0 k' op' d' a' b' n' s' 23
    rw [hW1, hp1] at h
    exact h
  have HL := Lib.hid (And.intro L0 (And.intro L1 (And.intro (B0.trans (B1.mono B0.size)) (hR.below (B0.trans (B1.mono B0.size))))))
  obtain ⟨-, x0, x1, x2, x3, x4, x5, x6⟩ := L0
  obtain ⟨-, z0, z1, z2, z3, z4, z5, z6⟩ := L1
  have K1 := fun w hR => encode_any k op d a b n s bn.1 bn.2 w hR
  have K2 := fun w hR => encode_any k' op' d' a' b' n' s' bn'.1 bn'.2 w hR
  have hAp : ∀ v v', encV k s ⟨op, d, a, b, n⟩ = some v → encV k' s' ⟨op', d', a', b', n'⟩ = some v' → (v = v' ↔ (k = k' ∧ op = op' ∧ d = d' ∧ a = a' ∧ b = b' ∧ n = n' ∧ s.toList = s'.toList)) := fun v v' h h' => by
    unfold encV at h h'
    split at h
    · rename_i g
      split at h'
      · rename_i g'
        rw [enc_apart _ _ _ _ h h']
        simp only [Ins.mk.injEq]
        constructor
        · rintro ⟨q1, q2, q3, q4, q5⟩
          exact ⟨g.1.trans g'.1.symm, q1, q2, q3, q4, q5, g.2.trans g'.2.symm⟩
        · rintro ⟨-, q1, q2, q3, q4, q5, -⟩
          exact ⟨q1, q2, q3, q4, q5⟩
      · cases h'
    · cases h
  generalize encV k s ⟨op, d, a, b, n⟩ = A at *
  generalize encV k' s' ⟨op', d', a', b', n'⟩ = B at *
  have H1 := Lib.hid K1
  have H2 := Lib.hid K2
  have HA := Lib.hid hAp
  clear K1 K2 B0 B1 hAp hR
  by_cases hz : 200 < wrap64 ((s.size : Int) + (s'.size : Int))
  · go_enter Tryd.func6, Tryd.ntmps6
    go_wp2_with (first
            | (go_at_call 13; (with_reducible refine (H1.out _ HL.out.2.2.2).mono ?_); rintro e w1 ⟨rfl, hb⟩
               have HL1 := Lib.hid (And.intro (HL.out.1.below hb) (And.intro (HL.out.2.1.below hb) (And.intro (HL.out.2.2.1.trans (hb.mono HL.out.2.2.1.size)) (HL.out.2.2.2.below hb)))); clear hb
               obtain ⟨-, u0, u1, u2, u3, u4, u5, u6⟩ := HL1.out.1
               obtain ⟨-, t0, t1, t2, t3, t4, t5, t6⟩ := HL1.out.2.1)
            | (go_at_call 13; (with_reducible refine (H2.out _ HL1.out.2.2.2).mono ?_); rintro e w2 ⟨rfl, hb⟩
               have HL2 := Lib.hid (And.intro (HL1.out.1.below hb) (And.intro (HL1.out.2.1.below hb) (And.intro (HL1.out.2.2.1.trans (hb.mono HL1.out.2.2.1.size)) (HL1.out.2.2.2.below hb)))); clear hb
               obtain ⟨-, m0, m1, m2, m3, m4, m5, m6⟩ := HL2.out.1
               obtain ⟨-, n0, n1, n2, n3, n4, n5, n6⟩ := HL2.out.2.1)
            | (go_at_call 12; (with_reducible refine (lives19 _ (HL).out.2.2.2).mono ?_); rintro e w3 ⟨rfl, hb⟩; have HB := Lib.hid (HL.out.2.2.1.trans (hb.mono HL.out.2.2.1.size)); clear hb))
    go_ret
    exact ⟨rfl, HB.out⟩
  · cases A with
    | none =>
      go_enter Tryd.func6, Tryd.ntmps6
      go_wp2_with (first
              | (go_at_call 13; (with_reducible refine (H1.out _ HL.out.2.2.2).mono ?_); rintro e w1 ⟨rfl, hb⟩
                 have HL1 := Lib.hid (And.intro (HL.out.1.below hb) (And.intro (HL.out.2.1.below hb) (And.intro (HL.out.2.2.1.trans (hb.mono HL.out.2.2.1.size)) (HL.out.2.2.2.below hb)))); clear hb
                 obtain ⟨-, u0, u1, u2, u3, u4, u5, u6⟩ := HL1.out.1
                 obtain ⟨-, t0, t1, t2, t3, t4, t5, t6⟩ := HL1.out.2.1)
              | (go_at_call 13; (with_reducible refine (H2.out _ HL1.out.2.2.2).mono ?_); rintro e w2 ⟨rfl, hb⟩
                 have HL2 := Lib.hid (And.intro (HL1.out.1.below hb) (And.intro (HL1.out.2.1.below hb) (And.intro (HL1.out.2.2.1.trans (hb.mono HL1.out.2.2.1.size)) (HL1.out.2.2.2.below hb)))); clear hb
                 obtain ⟨-, m0, m1, m2, m3, m4, m5, m6⟩ := HL2.out.1
                 obtain ⟨-, n0, n1, n2, n3, n4, n5, n6⟩ := HL2.out.2.1)
              | (go_at_call 12; (with_reducible refine (lives19 _ (HL2).out.2.2.2).mono ?_); rintro e w3 ⟨rfl, hb⟩; have HB := Lib.hid (HL2.out.2.2.1.trans (hb.mono HL2.out.2.2.1.size)); clear hb))
      go_ret
      exact ⟨rfl, HB.out⟩
    | some v =>
      cases B with
      | none =>
        go_enter Tryd.func6, Tryd.ntmps6
        go_wp2_with (first
                | (go_at_call 13; (with_reducible refine (H1.out _ HL.out.2.2.2).mono ?_); rintro e w1 ⟨rfl, hb⟩
                   have HL1 := Lib.hid (And.intro (HL.out.1.below hb) (And.intro (HL.out.2.1.below hb) (And.intro (HL.out.2.2.1.trans (hb.mono HL.out.2.2.1.size)) (HL.out.2.2.2.below hb)))); clear hb
                   obtain ⟨-, u0, u1, u2, u3, u4, u5, u6⟩ := HL1.out.1
                   obtain ⟨-, t0, t1, t2, t3, t4, t5, t6⟩ := HL1.out.2.1)
                | (go_at_call 13; (with_reducible refine (H2.out _ HL1.out.2.2.2).mono ?_); rintro e w2 ⟨rfl, hb⟩
                   have HL2 := Lib.hid (And.intro (HL1.out.1.below hb) (And.intro (HL1.out.2.1.below hb) (And.intro (HL1.out.2.2.1.trans (hb.mono HL1.out.2.2.1.size)) (HL1.out.2.2.2.below hb)))); clear hb
                   obtain ⟨-, m0, m1, m2, m3, m4, m5, m6⟩ := HL2.out.1
                   obtain ⟨-, n0, n1, n2, n3, n4, n5, n6⟩ := HL2.out.2.1)
                | (go_at_call 12; (with_reducible refine (lives19 _ (HL2).out.2.2.2).mono ?_); rintro e w3 ⟨rfl, hb⟩; have HB := Lib.hid (HL2.out.2.2.1.trans (hb.mono HL2.out.2.2.1.size)); clear hb))
        go_ret
        exact ⟨rfl, HB.out⟩
      | some v' =>
        have hA := HA.out v v' rfl rfl
        by_cases hv : v = v'
        · have hq := hA.1 hv
          obtain ⟨rfl, rfl, rfl, rfl, rfl, rfl, hss⟩ := hq
          subst hv
          clear hA
          go_enter Tryd.func6, Tryd.ntmps6
          go_wp2_with (first
                  | (go_at_call 13; (with_reducible refine (H1.out _ HL.out.2.2.2).mono ?_); rintro e w1 ⟨rfl, hb⟩
                     have HL1 := Lib.hid (And.intro (HL.out.1.below hb) (And.intro (HL.out.2.1.below hb) (And.intro (HL.out.2.2.1.trans (hb.mono HL.out.2.2.1.size)) (HL.out.2.2.2.below hb)))); clear hb
                     obtain ⟨-, u0, u1, u2, u3, u4, u5, u6⟩ := HL1.out.1
                     obtain ⟨-, t0, t1, t2, t3, t4, t5, t6⟩ := HL1.out.2.1)
                  | (go_at_call 13; (with_reducible refine (H2.out _ HL1.out.2.2.2).mono ?_); rintro e w2 ⟨rfl, hb⟩
                     have HL2 := Lib.hid (And.intro (HL1.out.1.below hb) (And.intro (HL1.out.2.1.below hb) (And.intro (HL1.out.2.2.1.trans (hb.mono HL1.out.2.2.1.size)) (HL1.out.2.2.2.below hb)))); clear hb
                     obtain ⟨-, m0, m1, m2, m3, m4, m5, m6⟩ := HL2.out.1
                     obtain ⟨-, n0, n1, n2, n3, n4, n5, n6⟩ := HL2.out.2.1)
                  | (go_at_call 12; (with_reducible refine (lives19 _ (HL2).out.2.2.2).mono ?_); rintro e w3 ⟨rfl, hb⟩; have HB := Lib.hid (HL2.out.2.2.1.trans (hb.mono HL2.out.2.2.1.size)); clear hb))
          go_ret
          exact ⟨rfl, HB.out⟩
        · have hv1 : ((v : Int) == (v' : Int)) = false := by simp; omega
          have hq : ¬ (k = k' ∧ op = op' ∧ d = d' ∧ a = a' ∧ b = b' ∧ n = n' ∧ s.toList = s'.toList) := fun h => hv (hA.2 h)
          clear hA
          go_enter Tryd.func6, Tryd.ntmps6
          go_wp2_with (first
                  | (go_at_call 13; (with_reducible refine (H1.out _ HL.out.2.2.2).mono ?_); rintro e w1 ⟨rfl, hb⟩
                     have HL1 := Lib.hid (And.intro (HL.out.1.below hb) (And.intro (HL.out.2.1.below hb) (And.intro (HL.out.2.2.1.trans (hb.mono HL.out.2.2.1.size)) (HL.out.2.2.2.below hb)))); clear hb
                     obtain ⟨-, u0, u1, u2, u3, u4, u5, u6⟩ := HL1.out.1
                     obtain ⟨-, t0, t1, t2, t3, t4, t5, t6⟩ := HL1.out.2.1)
                  | (go_at_call 13; (with_reducible refine (H2.out _ HL1.out.2.2.2).mono ?_); rintro e w2 ⟨rfl, hb⟩
                     have HL2 := Lib.hid (And.intro (HL1.out.1.below hb) (And.intro (HL1.out.2.1.below hb) (And.intro (HL1.out.2.2.1.trans (hb.mono HL1.out.2.2.1.size)) (HL1.out.2.2.2.below hb)))); clear hb
                     obtain ⟨-, m0, m1, m2, m3, m4, m5, m6⟩ := HL2.out.1
                     obtain ⟨-, n0, n1, n2, n3, n4, n5, n6⟩ := HL2.out.2.1)
                  | (go_at_call 12; (with_reducible refine (lives19 _ (HL2).out.2.2.2).mono ?_); rintro e w3 ⟨rfl, hb⟩; have HB := Lib.hid (HL2.out.2.2.1.trans (hb.mono HL2.out.2.2.1.size)); clear hb))
          all_goals first
            | (go_ret; exact ⟨rfl, HB.out⟩)
            | (refine absurd ⟨?_, ?_, ?_, ?_, ?_, ?_, ?_⟩ hq <;> first | rfl | assumption)

theorem codeApart_walk (k op d a b n : Int) (s : ByteArray) (k' op' d' a' b' n' : Int) (s' : ByteArray) (w : World) (bn : -2147483648 ≤ n ∧ n ≤ 2147483647) (hs : s.size ≤ maxLen) (bn' : -2147483648 ≤ n' ∧ n' ≤ 2147483647) (hs' : s'.size ≤ maxLen) (hL : laidMetH Tryd.prog Rows.codeApartRow.laid w) :
    Calls Tryd.prog 6 #[.agg #[.int .i64 k, .int .i64 op, .int .i64 d, .int .i64 a, .int .i64 b, .int .i32 n, .string s], .agg #[.int .i64 k', .int .i64 op', .int .i64 d', .int .i64 a', .int .i64 b', .int .i32 n', .string s']] w
      fun e w' => e = .returned (.bool true) ∧ Below w.heap.size w w' :=
  codeApart_walk' k op d a b n k' op' d' a' b' n' s s' bn bn' hs hs' w (rows_of_laid hL)
end Go.Proofs.YtonkpojoniehlaaDoor
