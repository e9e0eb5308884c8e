/-
  The document's Encode, part 0.
-/
import Derived.Test.YtonkpojoniehlaaDoorKmn
import Derived.Test.YtonkpojoniehlaaDoorKmp
namespace Go.Proofs.YtonkpojoniehlaaDoor
open Go.RowKit
set_option linter.unusedVariables false
set_option linter.unusedSimpArgs false
set_option maxRecDepth 100000

theorem ref_1 (D A B N : Nat) : encN 1 D A B N = 55 ||| D * 2 ^ 7 ||| A * 2 ^ 15 ||| B * 2 ^ 20 ||| cutN N 0 20 * 2 ^ 12 := by
  have e1 : formN 1 = 7 := by decide
  have e2 : stampW (lowN 1) (midN 1) (highN 1) = 55 := by decide
  unfold encN wordW
  rw [e1, e2, laid_7]
set_option maxHeartbeats 1600000 in
theorem rencode_1 (D A B : Nat) (n : Int) (b1 : -2147483648 ≤ n) (b2 : n ≤ 2147483647) (hD : D < 32) (hA : A < 32) (hB : B < 32) (h : mayI ⟨1, D, A, B, n⟩ = true) (w : World) :
    Calls Tryd.prog 14 #[.agg #[.int .i64 2, .int .i64 1, .int .i64 D, .int .i64 A, .int .i64 B, .int .i32 n, .string ⟨#[]⟩]] w fun e w' => e = .returned (.tuple #[.int .u32 (encN 1 D A B (nat32 n) : Nat), .bool true]) ∧ Below w.heap.size w w' := by
  have H := fun w => rmayLine_any 1 D A B n b1 b2 w
  rw [h] at H
  have HM := Lib.hid H
  clear H h
  obtain ⟨x1, hx1⟩ : ∃ x1, layN 55 (nat32 (D : Int)) 0 5 7 = x1 := ⟨_, rfl⟩
  have y1 : x1 < 4294967296 := by rw [← hx1]; exact lay_lt _ _ _ _ _ (by decide) (by decide)
  have K1 : ∀ W, Calls Tryd.prog 29 #[.int .u32 55, .int .i64 D, .int .i64 0, .int .i64 5, .int .i64 7] W fun e w' => e = .returned (.int .u32 x1) ∧ W = w' := fun W => by
    have h := lay_any 55 D 0 5 7 (by decide) (by omega) (by decide) (by decide) W
    rw [hx1] at h
    exact h
  obtain ⟨x2, hx2⟩ : ∃ x, layN x1 (nat32 (A : Int)) 0 5 15 = x := ⟨_, rfl⟩
  have y2 : x2 < 4294967296 := by rw [← hx2]; exact lay_lt _ _ _ _ _ y1 (by decide)
  have K2 : ∀ W, Calls Tryd.prog 29 #[.int .u32 x1, .int .i64 A, .int .i64 0, .int .i64 5, .int .i64 15] W fun e w' => e = .returned (.int .u32 x2) ∧ W = w' := fun W => by
    have h := lay_any x1 A 0 5 15 y1 (by omega) (by decide) (by decide) W
    rw [hx2] at h
    exact h
  obtain ⟨x3, hx3⟩ : ∃ x, layN x2 (nat32 (B : Int)) 0 5 20 = x := ⟨_, rfl⟩
  have y3 : x3 < 4294967296 := by rw [← hx3]; exact lay_lt _ _ _ _ _ y2 (by decide)
  have K3 : ∀ W, Calls Tryd.prog 29 #[.int .u32 x2, .int .i64 B, .int .i64 0, .int .i64 5, .int .i64 20] W fun e w' => e = .returned (.int .u32 x3) ∧ W = w' := fun W => by
    have h := lay_any x2 B 0 5 20 y2 (by omega) (by decide) (by decide) W
    rw [hx3] at h
    exact h
  obtain ⟨x4, hx4⟩ : ∃ x, layN x3 (nat32 n) 0 20 12 = x := ⟨_, rfl⟩
  have y4 : x4 < 4294967296 := by rw [← hx4]; exact lay_lt _ _ _ _ _ y3 (by decide)
  have K4 : ∀ W, Calls Tryd.prog 29 #[.int .u32 x3, .int .i64 n, .int .i64 0, .int .i64 20, .int .i64 12] W fun e w' => e = .returned (.int .u32 x4) ∧ W = w' := fun W => by
    have h := lay_any x3 n 0 20 12 y3 (by omega) (by decide) (by decide) W
    rw [hx4] at h
    exact h
  have HE : Hid (encN 1 D A B (nat32 n) = x4) := Lib.hid (by
    rw [← hx4, ← hx3, ← hx2, ← hx1]
    simp only [lay_reg D hD, lay_reg A hA, lay_reg B hB, layN]
    exact ref_1 D A B (nat32 n))
  have H1 := Lib.hid K1
  have H2 := Lib.hid K2
  have H3 := Lib.hid K3
  have H4 := Lib.hid K4
  clear K1 hx1 y1 K2 hx2 y2 K3 hx3 y3 K4 hx4 y4
  obtain ⟨v0, hv0⟩ : ∃ v0, w.heap.size = v0 := ⟨_, rfl⟩
  obtain ⟨W0, hW0⟩ : ∃ W0, w.alloc (.cells #[.int .i64 2, .int .i64 1, .int .i64 D, .int .i64 A, .int .i64 B, .int .i32 n, .string ⟨#[]⟩] 23) = W0 := ⟨_, rfl⟩
  have hB0 : Below w.heap.size w W0 := by rw [← hW0]; exact (Below.refl _ _).alloc (Nat.le_refl _) _
  have hLn : LnAt W0 v0 2 1 D A B n ⟨#[]⟩ := by rw [← hW0, ← hv0]; exact LnAt.new _ _ _ _ _ _ _ _ _
  have HL := Lib.hid (And.intro hLn hB0)
  obtain ⟨-, z0, z1, z2, z3, z4, z5, z6⟩ := hLn
  clear hB0
  go_enter Tryd.func14, Tryd.ntmps14
  go_wp2_with (go_at_call 10; (with_reducible refine (HM.out _).mono ?_); rintro e w1 ⟨rfl, hb1⟩
               obtain ⟨V, hV⟩ : ∃ V, (w1.alloc (.cells #[.int .u32 0, .int .u32 55, .int .u32 19, .int .u32 19, .int .u32 19, .int .u32 19, .int .u32 19, .int .u32 19, .int .u32 19, .int .u32 19, .int .u32 19, .int .u32 51, .int .u32 51, .int .u32 51, .int .u32 51, .int .u32 51, .int .u32 51, .int .u32 51, .int .u32 51, .int .u32 51, .int .u32 51, .int .u32 51, .int .u32 51, .int .u32 51, .int .u32 3, .int .u32 35, .int .u32 99, .int .u32 99, .int .u32 111, .int .u32 103, .int .u32 115] 30)).alloc (.cells #[.int .u32 0, .int .u32 0, .int .u32 0, .int .u32 2, .int .u32 3, .int .u32 4, .int .u32 6, .int .u32 7, .int .u32 1, .int .u32 5, .int .u32 5, .int .u32 0, .int .u32 0, .int .u32 1, .int .u32 2, .int .u32 3, .int .u32 4, .int .u32 5, .int .u32 5, .int .u32 6, .int .u32 7, .int .u32 0, .int .u32 4, .int .u32 6, .int .u32 2, .int .u32 2, .int .u32 0, .int .u32 1, .int .u32 0, .int .u32 0, .int .u32 0] 30) = V := ⟨_, rfl⟩
               have hbV : Below W0.heap.size W0 V := by rw [← hV]; exact (hb1.alloc hb1.size _).alloc (Nat.le_trans hb1.size (by simp)) _
               have HV := Lib.hid (And.intro (HL.out.1.below hbV) (HL.out.2.trans (hbV.mono HL.out.2.size)))
               obtain ⟨-, u0, u1, u2, u3, u4, u5, u6⟩ := HL.out.1.below hbV
               obtain ⟨r, hr⟩ : ∃ r, w1.heap.size = r := ⟨_, rfl⟩
               have t0 : V.cell? ⟨r, 1, none⟩ = some (.int .u32 55) := by
                 have h := cell_alloc_at w1 (#[.int .u32 0, .int .u32 55, .int .u32 19, .int .u32 19, .int .u32 19, .int .u32 19, .int .u32 19, .int .u32 19, .int .u32 19, .int .u32 19, .int .u32 19, .int .u32 51, .int .u32 51, .int .u32 51, .int .u32 51, .int .u32 51, .int .u32 51, .int .u32 51, .int .u32 51, .int .u32 51, .int .u32 51, .int .u32 51, .int .u32 51, .int .u32 51, .int .u32 3, .int .u32 35, .int .u32 99, .int .u32 99, .int .u32 111, .int .u32 103, .int .u32 115]) 30 1 _ rfl
                 rw [← hV, ← hr]
                 exact cell_alloc h _
               have t1 : V.cell? ⟨r + 1, 1, none⟩ = some (.int .u32 0) := by
                 have h := cell_alloc_at (w1.alloc (.cells #[.int .u32 0, .int .u32 55, .int .u32 19, .int .u32 19, .int .u32 19, .int .u32 19, .int .u32 19, .int .u32 19, .int .u32 19, .int .u32 19, .int .u32 19, .int .u32 51, .int .u32 51, .int .u32 51, .int .u32 51, .int .u32 51, .int .u32 51, .int .u32 51, .int .u32 51, .int .u32 51, .int .u32 51, .int .u32 51, .int .u32 51, .int .u32 51, .int .u32 3, .int .u32 35, .int .u32 99, .int .u32 99, .int .u32 111, .int .u32 103, .int .u32 115] 30)) (#[.int .u32 0, .int .u32 0, .int .u32 0, .int .u32 2, .int .u32 3, .int .u32 4, .int .u32 6, .int .u32 7, .int .u32 1, .int .u32 5, .int .u32 5, .int .u32 0, .int .u32 0, .int .u32 1, .int .u32 2, .int .u32 3, .int .u32 4, .int .u32 5, .int .u32 5, .int .u32 6, .int .u32 7, .int .u32 0, .int .u32 4, .int .u32 6, .int .u32 2, .int .u32 2, .int .u32 0, .int .u32 1, .int .u32 0, .int .u32 0, .int .u32 0]) 30 1 _ rfl
                 rw [show (w1.alloc (.cells #[.int .u32 0, .int .u32 55, .int .u32 19, .int .u32 19, .int .u32 19, .int .u32 19, .int .u32 19, .int .u32 19, .int .u32 19, .int .u32 19, .int .u32 19, .int .u32 51, .int .u32 51, .int .u32 51, .int .u32 51, .int .u32 51, .int .u32 51, .int .u32 51, .int .u32 51, .int .u32 51, .int .u32 51, .int .u32 51, .int .u32 51, .int .u32 51, .int .u32 3, .int .u32 35, .int .u32 99, .int .u32 99, .int .u32 111, .int .u32 103, .int .u32 115] 30)).heap.size = r + 1 from by rw [← hr]; simp] at h
                 rw [← hV]
                 exact h
               clear hb1 hbV)
  go_big_quiet (fail)
  go_wp2_with (first
    | (go_at_call 29; (with_reducible refine (H1.out _).mono ?_); rintro e w' ⟨rfl, rfl⟩)
    | (go_at_call 29; (with_reducible refine (H2.out _).mono ?_); rintro e w' ⟨rfl, rfl⟩)
    | (go_at_call 29; (with_reducible refine (H3.out _).mono ?_); rintro e w' ⟨rfl, rfl⟩)
    | (go_at_call 29; (with_reducible refine (H4.out _).mono ?_); rintro e w' ⟨rfl, rfl⟩))
  go_ret2
  exact ⟨by rw [HE.out]; rfl, below_drewN HV.out.2 _⟩
theorem ref_2 (D A B N : Nat) : encN 2 D A B N = 19 ||| D * 2 ^ 7 ||| A * 2 ^ 15 ||| B * 2 ^ 20 ||| cutN N 0 12 * 2 ^ 20 := by
  have e1 : formN 2 = 3 := by decide
  have e2 : stampW (lowN 2) (midN 2) (highN 2) = 19 := by decide
  unfold encN wordW
  rw [e1, e2, laid_3]
set_option maxHeartbeats 1600000 in
theorem rencode_2 (D A B : Nat) (n : Int) (b1 : -2147483648 ≤ n) (b2 : n ≤ 2147483647) (hD : D < 32) (hA : A < 32) (hB : B < 32) (h : mayI ⟨2, D, A, B, n⟩ = true) (w : World) :
    Calls Tryd.prog 14 #[.agg #[.int .i64 2, .int .i64 2, .int .i64 D, .int .i64 A, .int .i64 B, .int .i32 n, .string ⟨#[]⟩]] w fun e w' => e = .returned (.tuple #[.int .u32 (encN 2 D A B (nat32 n) : Nat), .bool true]) ∧ Below w.heap.size w w' := by
  have H := fun w => rmayLine_any 2 D A B n b1 b2 w
  rw [h] at H
  have HM := Lib.hid H
  clear H h
  obtain ⟨x1, hx1⟩ : ∃ x1, layN 19 (nat32 (D : Int)) 0 5 7 = x1 := ⟨_, rfl⟩
  have y1 : x1 < 4294967296 := by rw [← hx1]; exact lay_lt _ _ _ _ _ (by decide) (by decide)
  have K1 : ∀ W, Calls Tryd.prog 29 #[.int .u32 19, .int .i64 D, .int .i64 0, .int .i64 5, .int .i64 7] W fun e w' => e = .returned (.int .u32 x1) ∧ W = w' := fun W => by
    have h := lay_any 19 D 0 5 7 (by decide) (by omega) (by decide) (by decide) W
    rw [hx1] at h
    exact h
  obtain ⟨x2, hx2⟩ : ∃ x, layN x1 (nat32 (A : Int)) 0 5 15 = x := ⟨_, rfl⟩
  have y2 : x2 < 4294967296 := by rw [← hx2]; exact lay_lt _ _ _ _ _ y1 (by decide)
  have K2 : ∀ W, Calls Tryd.prog 29 #[.int .u32 x1, .int .i64 A, .int .i64 0, .int .i64 5, .int .i64 15] W fun e w' => e = .returned (.int .u32 x2) ∧ W = w' := fun W => by
    have h := lay_any x1 A 0 5 15 y1 (by omega) (by decide) (by decide) W
    rw [hx2] at h
    exact h
  obtain ⟨x3, hx3⟩ : ∃ x, layN x2 (nat32 (B : Int)) 0 5 20 = x := ⟨_, rfl⟩
  have y3 : x3 < 4294967296 := by rw [← hx3]; exact lay_lt _ _ _ _ _ y2 (by decide)
  have K3 : ∀ W, Calls Tryd.prog 29 #[.int .u32 x2, .int .i64 B, .int .i64 0, .int .i64 5, .int .i64 20] W fun e w' => e = .returned (.int .u32 x3) ∧ W = w' := fun W => by
    have h := lay_any x2 B 0 5 20 y2 (by omega) (by decide) (by decide) W
    rw [hx3] at h
    exact h
  obtain ⟨x4, hx4⟩ : ∃ x, layN x3 (nat32 n) 0 12 20 = x := ⟨_, rfl⟩
  have y4 : x4 < 4294967296 := by rw [← hx4]; exact lay_lt _ _ _ _ _ y3 (by decide)
  have K4 : ∀ W, Calls Tryd.prog 29 #[.int .u32 x3, .int .i64 n, .int .i64 0, .int .i64 12, .int .i64 20] W fun e w' => e = .returned (.int .u32 x4) ∧ W = w' := fun W => by
    have h := lay_any x3 n 0 12 20 y3 (by omega) (by decide) (by decide) W
    rw [hx4] at h
    exact h
  have HE : Hid (encN 2 D A B (nat32 n) = x4) := Lib.hid (by
    rw [← hx4, ← hx3, ← hx2, ← hx1]
    simp only [lay_reg D hD, lay_reg A hA, lay_reg B hB, layN]
    exact ref_2 D A B (nat32 n))
  have H1 := Lib.hid K1
  have H2 := Lib.hid K2
  have H3 := Lib.hid K3
  have H4 := Lib.hid K4
  clear K1 hx1 y1 K2 hx2 y2 K3 hx3 y3 K4 hx4 y4
  obtain ⟨v0, hv0⟩ : ∃ v0, w.heap.size = v0 := ⟨_, rfl⟩
  obtain ⟨W0, hW0⟩ : ∃ W0, w.alloc (.cells #[.int .i64 2, .int .i64 2, .int .i64 D, .int .i64 A, .int .i64 B, .int .i32 n, .string ⟨#[]⟩] 23) = W0 := ⟨_, rfl⟩
  have hB0 : Below w.heap.size w W0 := by rw [← hW0]; exact (Below.refl _ _).alloc (Nat.le_refl _) _
  have hLn : LnAt W0 v0 2 2 D A B n ⟨#[]⟩ := by rw [← hW0, ← hv0]; exact LnAt.new _ _ _ _ _ _ _ _ _
  have HL := Lib.hid (And.intro hLn hB0)
  obtain ⟨-, z0, z1, z2, z3, z4, z5, z6⟩ := hLn
  clear hB0
  go_enter Tryd.func14, Tryd.ntmps14
  go_wp2_with (go_at_call 10; (with_reducible refine (HM.out _).mono ?_); rintro e w1 ⟨rfl, hb1⟩
               obtain ⟨V, hV⟩ : ∃ V, (w1.alloc (.cells #[.int .u32 0, .int .u32 55, .int .u32 19, .int .u32 19, .int .u32 19, .int .u32 19, .int .u32 19, .int .u32 19, .int .u32 19, .int .u32 19, .int .u32 19, .int .u32 51, .int .u32 51, .int .u32 51, .int .u32 51, .int .u32 51, .int .u32 51, .int .u32 51, .int .u32 51, .int .u32 51, .int .u32 51, .int .u32 51, .int .u32 51, .int .u32 51, .int .u32 3, .int .u32 35, .int .u32 99, .int .u32 99, .int .u32 111, .int .u32 103, .int .u32 115] 30)).alloc (.cells #[.int .u32 0, .int .u32 0, .int .u32 0, .int .u32 2, .int .u32 3, .int .u32 4, .int .u32 6, .int .u32 7, .int .u32 1, .int .u32 5, .int .u32 5, .int .u32 0, .int .u32 0, .int .u32 1, .int .u32 2, .int .u32 3, .int .u32 4, .int .u32 5, .int .u32 5, .int .u32 6, .int .u32 7, .int .u32 0, .int .u32 4, .int .u32 6, .int .u32 2, .int .u32 2, .int .u32 0, .int .u32 1, .int .u32 0, .int .u32 0, .int .u32 0] 30) = V := ⟨_, rfl⟩
               have hbV : Below W0.heap.size W0 V := by rw [← hV]; exact (hb1.alloc hb1.size _).alloc (Nat.le_trans hb1.size (by simp)) _
               have HV := Lib.hid (And.intro (HL.out.1.below hbV) (HL.out.2.trans (hbV.mono HL.out.2.size)))
               obtain ⟨-, u0, u1, u2, u3, u4, u5, u6⟩ := HL.out.1.below hbV
               obtain ⟨r, hr⟩ : ∃ r, w1.heap.size = r := ⟨_, rfl⟩
               have t0 : V.cell? ⟨r, 2, none⟩ = some (.int .u32 19) := by
                 have h := cell_alloc_at w1 (#[.int .u32 0, .int .u32 55, .int .u32 19, .int .u32 19, .int .u32 19, .int .u32 19, .int .u32 19, .int .u32 19, .int .u32 19, .int .u32 19, .int .u32 19, .int .u32 51, .int .u32 51, .int .u32 51, .int .u32 51, .int .u32 51, .int .u32 51, .int .u32 51, .int .u32 51, .int .u32 51, .int .u32 51, .int .u32 51, .int .u32 51, .int .u32 51, .int .u32 3, .int .u32 35, .int .u32 99, .int .u32 99, .int .u32 111, .int .u32 103, .int .u32 115]) 30 2 _ rfl
                 rw [← hV, ← hr]
                 exact cell_alloc h _
               have t1 : V.cell? ⟨r + 1, 2, none⟩ = some (.int .u32 0) := by
                 have h := cell_alloc_at (w1.alloc (.cells #[.int .u32 0, .int .u32 55, .int .u32 19, .int .u32 19, .int .u32 19, .int .u32 19, .int .u32 19, .int .u32 19, .int .u32 19, .int .u32 19, .int .u32 19, .int .u32 51, .int .u32 51, .int .u32 51, .int .u32 51, .int .u32 51, .int .u32 51, .int .u32 51, .int .u32 51, .int .u32 51, .int .u32 51, .int .u32 51, .int .u32 51, .int .u32 51, .int .u32 3, .int .u32 35, .int .u32 99, .int .u32 99, .int .u32 111, .int .u32 103, .int .u32 115] 30)) (#[.int .u32 0, .int .u32 0, .int .u32 0, .int .u32 2, .int .u32 3, .int .u32 4, .int .u32 6, .int .u32 7, .int .u32 1, .int .u32 5, .int .u32 5, .int .u32 0, .int .u32 0, .int .u32 1, .int .u32 2, .int .u32 3, .int .u32 4, .int .u32 5, .int .u32 5, .int .u32 6, .int .u32 7, .int .u32 0, .int .u32 4, .int .u32 6, .int .u32 2, .int .u32 2, .int .u32 0, .int .u32 1, .int .u32 0, .int .u32 0, .int .u32 0]) 30 2 _ rfl
                 rw [show (w1.alloc (.cells #[.int .u32 0, .int .u32 55, .int .u32 19, .int .u32 19, .int .u32 19, .int .u32 19, .int .u32 19, .int .u32 19, .int .u32 19, .int .u32 19, .int .u32 19, .int .u32 51, .int .u32 51, .int .u32 51, .int .u32 51, .int .u32 51, .int .u32 51, .int .u32 51, .int .u32 51, .int .u32 51, .int .u32 51, .int .u32 51, .int .u32 51, .int .u32 51, .int .u32 3, .int .u32 35, .int .u32 99, .int .u32 99, .int .u32 111, .int .u32 103, .int .u32 115] 30)).heap.size = r + 1 from by rw [← hr]; simp] at h
                 rw [← hV]
                 exact h
               clear hb1 hbV)
  go_big_quiet (fail)
  go_wp2_with (first
    | (go_at_call 29; (with_reducible refine (H1.out _).mono ?_); rintro e w' ⟨rfl, rfl⟩)
    | (go_at_call 29; (with_reducible refine (H2.out _).mono ?_); rintro e w' ⟨rfl, rfl⟩)
    | (go_at_call 29; (with_reducible refine (H3.out _).mono ?_); rintro e w' ⟨rfl, rfl⟩)
    | (go_at_call 29; (with_reducible refine (H4.out _).mono ?_); rintro e w' ⟨rfl, rfl⟩))
  go_ret2
  exact ⟨by rw [HE.out]; rfl, below_drewN HV.out.2 _⟩
theorem ref_3 (D A B N : Nat) : encN 3 D A B N = 8211 ||| D * 2 ^ 7 ||| A * 2 ^ 15 ||| B * 2 ^ 20 ||| cutN N 0 12 * 2 ^ 20 := by
  have e1 : formN 3 = 3 := by decide
  have e2 : stampW (lowN 3) (midN 3) (highN 3) = 8211 := by decide
  unfold encN wordW
  rw [e1, e2, laid_3]
set_option maxHeartbeats 1600000 in
theorem rencode_3 (D A B : Nat) (n : Int) (b1 : -2147483648 ≤ n) (b2 : n ≤ 2147483647) (hD : D < 32) (hA : A < 32) (hB : B < 32) (h : mayI ⟨3, D, A, B, n⟩ = true) (w : World) :
    Calls Tryd.prog 14 #[.agg #[.int .i64 2, .int .i64 3, .int .i64 D, .int .i64 A, .int .i64 B, .int .i32 n, .string ⟨#[]⟩]] w fun e w' => e = .returned (.tuple #[.int .u32 (encN 3 D A B (nat32 n) : Nat), .bool true]) ∧ Below w.heap.size w w' := by
  have H := fun w => rmayLine_any 3 D A B n b1 b2 w
  rw [h] at H
  have HM := Lib.hid H
  clear H h
  obtain ⟨x1, hx1⟩ : ∃ x1, layN 8211 (nat32 (D : Int)) 0 5 7 = x1 := ⟨_, rfl⟩
  have y1 : x1 < 4294967296 := by rw [← hx1]; exact lay_lt _ _ _ _ _ (by decide) (by decide)
  have K1 : ∀ W, Calls Tryd.prog 29 #[.int .u32 8211, .int .i64 D, .int .i64 0, .int .i64 5, .int .i64 7] W fun e w' => e = .returned (.int .u32 x1) ∧ W = w' := fun W => by
    have h := lay_any 8211 D 0 5 7 (by decide) (by omega) (by decide) (by decide) W
    rw [hx1] at h
    exact h
  obtain ⟨x2, hx2⟩ : ∃ x, layN x1 (nat32 (A : Int)) 0 5 15 = x := ⟨_, rfl⟩
  have y2 : x2 < 4294967296 := by rw [← hx2]; exact lay_lt _ _ _ _ _ y1 (by decide)
  have K2 : ∀ W, Calls Tryd.prog 29 #[.int .u32 x1, .int .i64 A, .int .i64 0, .int .i64 5, .int .i64 15] W fun e w' => e = .returned (.int .u32 x2) ∧ W = w' := fun W => by
    have h := lay_any x1 A 0 5 15 y1 (by omega) (by decide) (by decide) W
    rw [hx2] at h
    exact h
  obtain ⟨x3, hx3⟩ : ∃ x, layN x2 (nat32 (B : Int)) 0 5 20 = x := ⟨_, rfl⟩
  have y3 : x3 < 4294967296 := by rw [← hx3]; exact lay_lt _ _ _ _ _ y2 (by decide)
  have K3 : ∀ W, Calls Tryd.prog 29 #[.int .u32 x2, .int .i64 B, .int .i64 0, .int .i64 5, .int .i64 20] W fun e w' => e = .returned (.int .u32 x3) ∧ W = w' := fun W => by
    have h := lay_any x2 B 0 5 20 y2 (by omega) (by decide) (by decide) W
    rw [hx3] at h
    exact h
  obtain ⟨x4, hx4⟩ : ∃ x, layN x3 (nat32 n) 0 12 20 = x := ⟨_, rfl⟩
  have y4 : x4 < 4294967296 := by rw [← hx4]; exact lay_lt _ _ _ _ _ y3 (by decide)
  have K4 : ∀ W, Calls Tryd.prog 29 #[.int .u32 x3, .int .i64 n, .int .i64 0, .int .i64 12, .int .i64 20] W fun e w' => e = .returned (.int .u32 x4) ∧ W = w' := fun W => by
    have h := lay_any x3 n 0 12 20 y3 (by omega) (by decide) (by decide) W
    rw [hx4] at h
    exact h
  have HE : Hid (encN 3 D A B (nat32 n) = x4) := Lib.hid (by
    rw [← hx4, ← hx3, ← hx2, ← hx1]
    simp only [lay_reg D hD, lay_reg A hA, lay_reg B hB, layN]
    exact ref_3 D A B (nat32 n))
  have H1 := Lib.hid K1
  have H2 := Lib.hid K2
  have H3 := Lib.hid K3
  have H4 := Lib.hid K4
  clear K1 hx1 y1 K2 hx2 y2 K3 hx3 y3 K4 hx4 y4
  obtain ⟨v0, hv0⟩ : ∃ v0, w.heap.size = v0 := ⟨_, rfl⟩
  obtain ⟨W0, hW0⟩ : ∃ W0, w.alloc (.cells #[.int .i64 2, .int .i64 3, .int .i64 D, .int .i64 A, .int .i64 B, .int .i32 n, .string ⟨#[]⟩] 23) = W0 := ⟨_, rfl⟩
  have hB0 : Below w.heap.size w W0 := by rw [← hW0]; exact (Below.refl _ _).alloc (Nat.le_refl _) _
  have hLn : LnAt W0 v0 2 3 D A B n ⟨#[]⟩ := by rw [← hW0, ← hv0]; exact LnAt.new _ _ _ _ _ _ _ _ _
  have HL := Lib.hid (And.intro hLn hB0)
  obtain ⟨-, z0, z1, z2, z3, z4, z5, z6⟩ := hLn
  clear hB0
  go_enter Tryd.func14, Tryd.ntmps14
  go_wp2_with (go_at_call 10; (with_reducible refine (HM.out _).mono ?_); rintro e w1 ⟨rfl, hb1⟩
               obtain ⟨V, hV⟩ : ∃ V, (w1.alloc (.cells #[.int .u32 0, .int .u32 55, .int .u32 19, .int .u32 19, .int .u32 19, .int .u32 19, .int .u32 19, .int .u32 19, .int .u32 19, .int .u32 19, .int .u32 19, .int .u32 51, .int .u32 51, .int .u32 51, .int .u32 51, .int .u32 51, .int .u32 51, .int .u32 51, .int .u32 51, .int .u32 51, .int .u32 51, .int .u32 51, .int .u32 51, .int .u32 51, .int .u32 3, .int .u32 35, .int .u32 99, .int .u32 99, .int .u32 111, .int .u32 103, .int .u32 115] 30)).alloc (.cells #[.int .u32 0, .int .u32 0, .int .u32 0, .int .u32 2, .int .u32 3, .int .u32 4, .int .u32 6, .int .u32 7, .int .u32 1, .int .u32 5, .int .u32 5, .int .u32 0, .int .u32 0, .int .u32 1, .int .u32 2, .int .u32 3, .int .u32 4, .int .u32 5, .int .u32 5, .int .u32 6, .int .u32 7, .int .u32 0, .int .u32 4, .int .u32 6, .int .u32 2, .int .u32 2, .int .u32 0, .int .u32 1, .int .u32 0, .int .u32 0, .int .u32 0] 30) = V := ⟨_, rfl⟩
               have hbV : Below W0.heap.size W0 V := by rw [← hV]; exact (hb1.alloc hb1.size _).alloc (Nat.le_trans hb1.size (by simp)) _
               have HV := Lib.hid (And.intro (HL.out.1.below hbV) (HL.out.2.trans (hbV.mono HL.out.2.size)))
               obtain ⟨-, u0, u1, u2, u3, u4, u5, u6⟩ := HL.out.1.below hbV
               obtain ⟨r, hr⟩ : ∃ r, w1.heap.size = r := ⟨_, rfl⟩
               have t0 : V.cell? ⟨r, 3, none⟩ = some (.int .u32 19) := by
                 have h := cell_alloc_at w1 (#[.int .u32 0, .int .u32 55, .int .u32 19, .int .u32 19, .int .u32 19, .int .u32 19, .int .u32 19, .int .u32 19, .int .u32 19, .int .u32 19, .int .u32 19, .int .u32 51, .int .u32 51, .int .u32 51, .int .u32 51, .int .u32 51, .int .u32 51, .int .u32 51, .int .u32 51, .int .u32 51, .int .u32 51, .int .u32 51, .int .u32 51, .int .u32 51, .int .u32 3, .int .u32 35, .int .u32 99, .int .u32 99, .int .u32 111, .int .u32 103, .int .u32 115]) 30 3 _ rfl
                 rw [← hV, ← hr]
                 exact cell_alloc h _
               have t1 : V.cell? ⟨r + 1, 3, none⟩ = some (.int .u32 2) := by
                 have h := cell_alloc_at (w1.alloc (.cells #[.int .u32 0, .int .u32 55, .int .u32 19, .int .u32 19, .int .u32 19, .int .u32 19, .int .u32 19, .int .u32 19, .int .u32 19, .int .u32 19, .int .u32 19, .int .u32 51, .int .u32 51, .int .u32 51, .int .u32 51, .int .u32 51, .int .u32 51, .int .u32 51, .int .u32 51, .int .u32 51, .int .u32 51, .int .u32 51, .int .u32 51, .int .u32 51, .int .u32 3, .int .u32 35, .int .u32 99, .int .u32 99, .int .u32 111, .int .u32 103, .int .u32 115] 30)) (#[.int .u32 0, .int .u32 0, .int .u32 0, .int .u32 2, .int .u32 3, .int .u32 4, .int .u32 6, .int .u32 7, .int .u32 1, .int .u32 5, .int .u32 5, .int .u32 0, .int .u32 0, .int .u32 1, .int .u32 2, .int .u32 3, .int .u32 4, .int .u32 5, .int .u32 5, .int .u32 6, .int .u32 7, .int .u32 0, .int .u32 4, .int .u32 6, .int .u32 2, .int .u32 2, .int .u32 0, .int .u32 1, .int .u32 0, .int .u32 0, .int .u32 0]) 30 3 _ rfl
                 rw [show (w1.alloc (.cells #[.int .u32 0, .int .u32 55, .int .u32 19, .int .u32 19, .int .u32 19, .int .u32 19, .int .u32 19, .int .u32 19, .int .u32 19, .int .u32 19, .int .u32 19, .int .u32 51, .int .u32 51, .int .u32 51, .int .u32 51, .int .u32 51, .int .u32 51, .int .u32 51, .int .u32 51, .int .u32 51, .int .u32 51, .int .u32 51, .int .u32 51, .int .u32 51, .int .u32 3, .int .u32 35, .int .u32 99, .int .u32 99, .int .u32 111, .int .u32 103, .int .u32 115] 30)).heap.size = r + 1 from by rw [← hr]; simp] at h
                 rw [← hV]
                 exact h
               clear hb1 hbV)
  go_big_quiet (fail)
  go_wp2_with (first
    | (go_at_call 29; (with_reducible refine (H1.out _).mono ?_); rintro e w' ⟨rfl, rfl⟩)
    | (go_at_call 29; (with_reducible refine (H2.out _).mono ?_); rintro e w' ⟨rfl, rfl⟩)
    | (go_at_call 29; (with_reducible refine (H3.out _).mono ?_); rintro e w' ⟨rfl, rfl⟩)
    | (go_at_call 29; (with_reducible refine (H4.out _).mono ?_); rintro e w' ⟨rfl, rfl⟩))
  go_ret2
  exact ⟨by rw [HE.out]; rfl, below_drewN HV.out.2 _⟩
theorem ref_4 (D A B N : Nat) : encN 4 D A B N = 12307 ||| D * 2 ^ 7 ||| A * 2 ^ 15 ||| B * 2 ^ 20 ||| cutN N 0 12 * 2 ^ 20 := by
  have e1 : formN 4 = 3 := by decide
  have e2 : stampW (lowN 4) (midN 4) (highN 4) = 12307 := by decide
  unfold encN wordW
  rw [e1, e2, laid_3]
set_option maxHeartbeats 1600000 in
theorem rencode_4 (D A B : Nat) (n : Int) (b1 : -2147483648 ≤ n) (b2 : n ≤ 2147483647) (hD : D < 32) (hA : A < 32) (hB : B < 32) (h : mayI ⟨4, D, A, B, n⟩ = true) (w : World) :
    Calls Tryd.prog 14 #[.agg #[.int .i64 2, .int .i64 4, .int .i64 D, .int .i64 A, .int .i64 B, .int .i32 n, .string ⟨#[]⟩]] w fun e w' => e = .returned (.tuple #[.int .u32 (encN 4 D A B (nat32 n) : Nat), .bool true]) ∧ Below w.heap.size w w' := by
  have H := fun w => rmayLine_any 4 D A B n b1 b2 w
  rw [h] at H
  have HM := Lib.hid H
  clear H h
  obtain ⟨x1, hx1⟩ : ∃ x1, layN 12307 (nat32 (D : Int)) 0 5 7 = x1 := ⟨_, rfl⟩
  have y1 : x1 < 4294967296 := by rw [← hx1]; exact lay_lt _ _ _ _ _ (by decide) (by decide)
  have K1 : ∀ W, Calls Tryd.prog 29 #[.int .u32 12307, .int .i64 D, .int .i64 0, .int .i64 5, .int .i64 7] W fun e w' => e = .returned (.int .u32 x1) ∧ W = w' := fun W => by
    have h := lay_any 12307 D 0 5 7 (by decide) (by omega) (by decide) (by decide) W
    rw [hx1] at h
    exact h
  obtain ⟨x2, hx2⟩ : ∃ x, layN x1 (nat32 (A : Int)) 0 5 15 = x := ⟨_, rfl⟩
  have y2 : x2 < 4294967296 := by rw [← hx2]; exact lay_lt _ _ _ _ _ y1 (by decide)
  have K2 : ∀ W, Calls Tryd.prog 29 #[.int .u32 x1, .int .i64 A, .int .i64 0, .int .i64 5, .int .i64 15] W fun e w' => e = .returned (.int .u32 x2) ∧ W = w' := fun W => by
    have h := lay_any x1 A 0 5 15 y1 (by omega) (by decide) (by decide) W
    rw [hx2] at h
    exact h
  obtain ⟨x3, hx3⟩ : ∃ x, layN x2 (nat32 (B : Int)) 0 5 20 = x := ⟨_, rfl⟩
  have y3 : x3 < 4294967296 := by rw [← hx3]; exact lay_lt _ _ _ _ _ y2 (by decide)
  have K3 : ∀ W, Calls Tryd.prog 29 #[.int .u32 x2, .int .i64 B, .int .i64 0, .int .i64 5, .int .i64 20] W fun e w' => e = .returned (.int .u32 x3) ∧ W = w' := fun W => by
    have h := lay_any x2 B 0 5 20 y2 (by omega) (by decide) (by decide) W
    rw [hx3] at h
    exact h
  obtain ⟨x4, hx4⟩ : ∃ x, layN x3 (nat32 n) 0 12 20 = x := ⟨_, rfl⟩
  have y4 : x4 < 4294967296 := by rw [← hx4]; exact lay_lt _ _ _ _ _ y3 (by decide)
  have K4 : ∀ W, Calls Tryd.prog 29 #[.int .u32 x3, .int .i64 n, .int .i64 0, .int .i64 12, .int .i64 20] W fun e w' => e = .returned (.int .u32 x4) ∧ W = w' := fun W => by
    have h := lay_any x3 n 0 12 20 y3 (by omega) (by decide) (by decide) W
    rw [hx4] at h
    exact h
  have HE : Hid (encN 4 D A B (nat32 n) = x4) := Lib.hid (by
    rw [← hx4, ← hx3, ← hx2, ← hx1]
    simp only [lay_reg D hD, lay_reg A hA, lay_reg B hB, layN]
    exact ref_4 D A B (nat32 n))
  have H1 := Lib.hid K1
  have H2 := Lib.hid K2
  have H3 := Lib.hid K3
  have H4 := Lib.hid K4
  clear K1 hx1 y1 K2 hx2 y2 K3 hx3 y3 K4 hx4 y4
  obtain ⟨v0, hv0⟩ : ∃ v0, w.heap.size = v0 := ⟨_, rfl⟩
  obtain ⟨W0, hW0⟩ : ∃ W0, w.alloc (.cells #[.int .i64 2, .int .i64 4, .int .i64 D, .int .i64 A, .int .i64 B, .int .i32 n, .string ⟨#[]⟩] 23) = W0 := ⟨_, rfl⟩
  have hB0 : Below w.heap.size w W0 := by rw [← hW0]; exact (Below.refl _ _).alloc (Nat.le_refl _) _
  have hLn : LnAt W0 v0 2 4 D A B n ⟨#[]⟩ := by rw [← hW0, ← hv0]; exact LnAt.new _ _ _ _ _ _ _ _ _
  have HL := Lib.hid (And.intro hLn hB0)
  obtain ⟨-, z0, z1, z2, z3, z4, z5, z6⟩ := hLn
  clear hB0
  go_enter Tryd.func14, Tryd.ntmps14
  go_wp2_with (go_at_call 10; (with_reducible refine (HM.out _).mono ?_); rintro e w1 ⟨rfl, hb1⟩
               obtain ⟨V, hV⟩ : ∃ V, (w1.alloc (.cells #[.int .u32 0, .int .u32 55, .int .u32 19, .int .u32 19, .int .u32 19, .int .u32 19, .int .u32 19, .int .u32 19, .int .u32 19, .int .u32 19, .int .u32 19, .int .u32 51, .int .u32 51, .int .u32 51, .int .u32 51, .int .u32 51, .int .u32 51, .int .u32 51, .int .u32 51, .int .u32 51, .int .u32 51, .int .u32 51, .int .u32 51, .int .u32 51, .int .u32 3, .int .u32 35, .int .u32 99, .int .u32 99, .int .u32 111, .int .u32 103, .int .u32 115] 30)).alloc (.cells #[.int .u32 0, .int .u32 0, .int .u32 0, .int .u32 2, .int .u32 3, .int .u32 4, .int .u32 6, .int .u32 7, .int .u32 1, .int .u32 5, .int .u32 5, .int .u32 0, .int .u32 0, .int .u32 1, .int .u32 2, .int .u32 3, .int .u32 4, .int .u32 5, .int .u32 5, .int .u32 6, .int .u32 7, .int .u32 0, .int .u32 4, .int .u32 6, .int .u32 2, .int .u32 2, .int .u32 0, .int .u32 1, .int .u32 0, .int .u32 0, .int .u32 0] 30) = V := ⟨_, rfl⟩
               have hbV : Below W0.heap.size W0 V := by rw [← hV]; exact (hb1.alloc hb1.size _).alloc (Nat.le_trans hb1.size (by simp)) _
               have HV := Lib.hid (And.intro (HL.out.1.below hbV) (HL.out.2.trans (hbV.mono HL.out.2.size)))
               obtain ⟨-, u0, u1, u2, u3, u4, u5, u6⟩ := HL.out.1.below hbV
               obtain ⟨r, hr⟩ : ∃ r, w1.heap.size = r := ⟨_, rfl⟩
               have t0 : V.cell? ⟨r, 4, none⟩ = some (.int .u32 19) := by
                 have h := cell_alloc_at w1 (#[.int .u32 0, .int .u32 55, .int .u32 19, .int .u32 19, .int .u32 19, .int .u32 19, .int .u32 19, .int .u32 19, .int .u32 19, .int .u32 19, .int .u32 19, .int .u32 51, .int .u32 51, .int .u32 51, .int .u32 51, .int .u32 51, .int .u32 51, .int .u32 51, .int .u32 51, .int .u32 51, .int .u32 51, .int .u32 51, .int .u32 51, .int .u32 51, .int .u32 3, .int .u32 35, .int .u32 99, .int .u32 99, .int .u32 111, .int .u32 103, .int .u32 115]) 30 4 _ rfl
                 rw [← hV, ← hr]
                 exact cell_alloc h _
               have t1 : V.cell? ⟨r + 1, 4, none⟩ = some (.int .u32 3) := by
                 have h := cell_alloc_at (w1.alloc (.cells #[.int .u32 0, .int .u32 55, .int .u32 19, .int .u32 19, .int .u32 19, .int .u32 19, .int .u32 19, .int .u32 19, .int .u32 19, .int .u32 19, .int .u32 19, .int .u32 51, .int .u32 51, .int .u32 51, .int .u32 51, .int .u32 51, .int .u32 51, .int .u32 51, .int .u32 51, .int .u32 51, .int .u32 51, .int .u32 51, .int .u32 51, .int .u32 51, .int .u32 3, .int .u32 35, .int .u32 99, .int .u32 99, .int .u32 111, .int .u32 103, .int .u32 115] 30)) (#[.int .u32 0, .int .u32 0, .int .u32 0, .int .u32 2, .int .u32 3, .int .u32 4, .int .u32 6, .int .u32 7, .int .u32 1, .int .u32 5, .int .u32 5, .int .u32 0, .int .u32 0, .int .u32 1, .int .u32 2, .int .u32 3, .int .u32 4, .int .u32 5, .int .u32 5, .int .u32 6, .int .u32 7, .int .u32 0, .int .u32 4, .int .u32 6, .int .u32 2, .int .u32 2, .int .u32 0, .int .u32 1, .int .u32 0, .int .u32 0, .int .u32 0]) 30 4 _ rfl
                 rw [show (w1.alloc (.cells #[.int .u32 0, .int .u32 55, .int .u32 19, .int .u32 19, .int .u32 19, .int .u32 19, .int .u32 19, .int .u32 19, .int .u32 19, .int .u32 19, .int .u32 19, .int .u32 51, .int .u32 51, .int .u32 51, .int .u32 51, .int .u32 51, .int .u32 51, .int .u32 51, .int .u32 51, .int .u32 51, .int .u32 51, .int .u32 51, .int .u32 51, .int .u32 51, .int .u32 3, .int .u32 35, .int .u32 99, .int .u32 99, .int .u32 111, .int .u32 103, .int .u32 115] 30)).heap.size = r + 1 from by rw [← hr]; simp] at h
                 rw [← hV]
                 exact h
               clear hb1 hbV)
  go_big_quiet (fail)
  go_wp2_with (first
    | (go_at_call 29; (with_reducible refine (H1.out _).mono ?_); rintro e w' ⟨rfl, rfl⟩)
    | (go_at_call 29; (with_reducible refine (H2.out _).mono ?_); rintro e w' ⟨rfl, rfl⟩)
    | (go_at_call 29; (with_reducible refine (H3.out _).mono ?_); rintro e w' ⟨rfl, rfl⟩)
    | (go_at_call 29; (with_reducible refine (H4.out _).mono ?_); rintro e w' ⟨rfl, rfl⟩))
  go_ret2
  exact ⟨by rw [HE.out]; rfl, below_drewN HV.out.2 _⟩
theorem ref_5 (D A B N : Nat) : encN 5 D A B N = 16403 ||| D * 2 ^ 7 ||| A * 2 ^ 15 ||| B * 2 ^ 20 ||| cutN N 0 12 * 2 ^ 20 := by
  have e1 : formN 5 = 3 := by decide
  have e2 : stampW (lowN 5) (midN 5) (highN 5) = 16403 := by decide
  unfold encN wordW
  rw [e1, e2, laid_3]
set_option maxHeartbeats 1600000 in
theorem rencode_5 (D A B : Nat) (n : Int) (b1 : -2147483648 ≤ n) (b2 : n ≤ 2147483647) (hD : D < 32) (hA : A < 32) (hB : B < 32) (h : mayI ⟨5, D, A, B, n⟩ = true) (w : World) :
    Calls Tryd.prog 14 #[.agg #[.int .i64 2, .int .i64 5, .int .i64 D, .int .i64 A, .int .i64 B, .int .i32 n, .string ⟨#[]⟩]] w fun e w' => e = .returned (.tuple #[.int .u32 (encN 5 D A B (nat32 n) : Nat), .bool true]) ∧ Below w.heap.size w w' := by
  have H := fun w => rmayLine_any 5 D A B n b1 b2 w
  rw [h] at H
  have HM := Lib.hid H
  clear H h
  obtain ⟨x1, hx1⟩ : ∃ x1, layN 16403 (nat32 (D : Int)) 0 5 7 = x1 := ⟨_, rfl⟩
  have y1 : x1 < 4294967296 := by rw [← hx1]; exact lay_lt _ _ _ _ _ (by decide) (by decide)
  have K1 : ∀ W, Calls Tryd.prog 29 #[.int .u32 16403, .int .i64 D, .int .i64 0, .int .i64 5, .int .i64 7] W fun e w' => e = .returned (.int .u32 x1) ∧ W = w' := fun W => by
    have h := lay_any 16403 D 0 5 7 (by decide) (by omega) (by decide) (by decide) W
    rw [hx1] at h
    exact h
  obtain ⟨x2, hx2⟩ : ∃ x, layN x1 (nat32 (A : Int)) 0 5 15 = x := ⟨_, rfl⟩
  have y2 : x2 < 4294967296 := by rw [← hx2]; exact lay_lt _ _ _ _ _ y1 (by decide)
  have K2 : ∀ W, Calls Tryd.prog 29 #[.int .u32 x1, .int .i64 A, .int .i64 0, .int .i64 5, .int .i64 15] W fun e w' => e = .returned (.int .u32 x2) ∧ W = w' := fun W => by
    have h := lay_any x1 A 0 5 15 y1 (by omega) (by decide) (by decide) W
    rw [hx2] at h
    exact h
  obtain ⟨x3, hx3⟩ : ∃ x, layN x2 (nat32 (B : Int)) 0 5 20 = x := ⟨_, rfl⟩
  have y3 : x3 < 4294967296 := by rw [← hx3]; exact lay_lt _ _ _ _ _ y2 (by decide)
  have K3 : ∀ W, Calls Tryd.prog 29 #[.int .u32 x2, .int .i64 B, .int .i64 0, .int .i64 5, .int .i64 20] W fun e w' => e = .returned (.int .u32 x3) ∧ W = w' := fun W => by
    have h := lay_any x2 B 0 5 20 y2 (by omega) (by decide) (by decide) W
    rw [hx3] at h
    exact h
  obtain ⟨x4, hx4⟩ : ∃ x, layN x3 (nat32 n) 0 12 20 = x := ⟨_, rfl⟩
  have y4 : x4 < 4294967296 := by rw [← hx4]; exact lay_lt _ _ _ _ _ y3 (by decide)
  have K4 : ∀ W, Calls Tryd.prog 29 #[.int .u32 x3, .int .i64 n, .int .i64 0, .int .i64 12, .int .i64 20] W fun e w' => e = .returned (.int .u32 x4) ∧ W = w' := fun W => by
    have h := lay_any x3 n 0 12 20 y3 (by omega) (by decide) (by decide) W
    rw [hx4] at h
    exact h
  have HE : Hid (encN 5 D A B (nat32 n) = x4) := Lib.hid (by
    rw [← hx4, ← hx3, ← hx2, ← hx1]
    simp only [lay_reg D hD, lay_reg A hA, lay_reg B hB, layN]
    exact ref_5 D A B (nat32 n))
  have H1 := Lib.hid K1
  have H2 := Lib.hid K2
  have H3 := Lib.hid K3
  have H4 := Lib.hid K4
  clear K1 hx1 y1 K2 hx2 y2 K3 hx3 y3 K4 hx4 y4
  obtain ⟨v0, hv0⟩ : ∃ v0, w.heap.size = v0 := ⟨_, rfl⟩
  obtain ⟨W0, hW0⟩ : ∃ W0, w.alloc (.cells #[.int .i64 2, .int .i64 5, .int .i64 D, .int .i64 A, .int .i64 B, .int .i32 n, .string ⟨#[]⟩] 23) = W0 := ⟨_, rfl⟩
  have hB0 : Below w.heap.size w W0 := by rw [← hW0]; exact (Below.refl _ _).alloc (Nat.le_refl _) _
  have hLn : LnAt W0 v0 2 5 D A B n ⟨#[]⟩ := by rw [← hW0, ← hv0]; exact LnAt.new _ _ _ _ _ _ _ _ _
  have HL := Lib.hid (And.intro hLn hB0)
  obtain ⟨-, z0, z1, z2, z3, z4, z5, z6⟩ := hLn
  clear hB0
  go_enter Tryd.func14, Tryd.ntmps14
  go_wp2_with (go_at_call 10; (with_reducible refine (HM.out _).mono ?_); rintro e w1 ⟨rfl, hb1⟩
               obtain ⟨V, hV⟩ : ∃ V, (w1.alloc (.cells #[.int .u32 0, .int .u32 55, .int .u32 19, .int .u32 19, .int .u32 19, .int .u32 19, .int .u32 19, .int .u32 19, .int .u32 19, .int .u32 19, .int .u32 19, .int .u32 51, .int .u32 51, .int .u32 51, .int .u32 51, .int .u32 51, .int .u32 51, .int .u32 51, .int .u32 51, .int .u32 51, .int .u32 51, .int .u32 51, .int .u32 51, .int .u32 51, .int .u32 3, .int .u32 35, .int .u32 99, .int .u32 99, .int .u32 111, .int .u32 103, .int .u32 115] 30)).alloc (.cells #[.int .u32 0, .int .u32 0, .int .u32 0, .int .u32 2, .int .u32 3, .int .u32 4, .int .u32 6, .int .u32 7, .int .u32 1, .int .u32 5, .int .u32 5, .int .u32 0, .int .u32 0, .int .u32 1, .int .u32 2, .int .u32 3, .int .u32 4, .int .u32 5, .int .u32 5, .int .u32 6, .int .u32 7, .int .u32 0, .int .u32 4, .int .u32 6, .int .u32 2, .int .u32 2, .int .u32 0, .int .u32 1, .int .u32 0, .int .u32 0, .int .u32 0] 30) = V := ⟨_, rfl⟩
               have hbV : Below W0.heap.size W0 V := by rw [← hV]; exact (hb1.alloc hb1.size _).alloc (Nat.le_trans hb1.size (by simp)) _
               have HV := Lib.hid (And.intro (HL.out.1.below hbV) (HL.out.2.trans (hbV.mono HL.out.2.size)))
               obtain ⟨-, u0, u1, u2, u3, u4, u5, u6⟩ := HL.out.1.below hbV
               obtain ⟨r, hr⟩ : ∃ r, w1.heap.size = r := ⟨_, rfl⟩
               have t0 : V.cell? ⟨r, 5, none⟩ = some (.int .u32 19) := by
                 have h := cell_alloc_at w1 (#[.int .u32 0, .int .u32 55, .int .u32 19, .int .u32 19, .int .u32 19, .int .u32 19, .int .u32 19, .int .u32 19, .int .u32 19, .int .u32 19, .int .u32 19, .int .u32 51, .int .u32 51, .int .u32 51, .int .u32 51, .int .u32 51, .int .u32 51, .int .u32 51, .int .u32 51, .int .u32 51, .int .u32 51, .int .u32 51, .int .u32 51, .int .u32 51, .int .u32 3, .int .u32 35, .int .u32 99, .int .u32 99, .int .u32 111, .int .u32 103, .int .u32 115]) 30 5 _ rfl
                 rw [← hV, ← hr]
                 exact cell_alloc h _
               have t1 : V.cell? ⟨r + 1, 5, none⟩ = some (.int .u32 4) := by
                 have h := cell_alloc_at (w1.alloc (.cells #[.int .u32 0, .int .u32 55, .int .u32 19, .int .u32 19, .int .u32 19, .int .u32 19, .int .u32 19, .int .u32 19, .int .u32 19, .int .u32 19, .int .u32 19, .int .u32 51, .int .u32 51, .int .u32 51, .int .u32 51, .int .u32 51, .int .u32 51, .int .u32 51, .int .u32 51, .int .u32 51, .int .u32 51, .int .u32 51, .int .u32 51, .int .u32 51, .int .u32 3, .int .u32 35, .int .u32 99, .int .u32 99, .int .u32 111, .int .u32 103, .int .u32 115] 30)) (#[.int .u32 0, .int .u32 0, .int .u32 0, .int .u32 2, .int .u32 3, .int .u32 4, .int .u32 6, .int .u32 7, .int .u32 1, .int .u32 5, .int .u32 5, .int .u32 0, .int .u32 0, .int .u32 1, .int .u32 2, .int .u32 3, .int .u32 4, .int .u32 5, .int .u32 5, .int .u32 6, .int .u32 7, .int .u32 0, .int .u32 4, .int .u32 6, .int .u32 2, .int .u32 2, .int .u32 0, .int .u32 1, .int .u32 0, .int .u32 0, .int .u32 0]) 30 5 _ rfl
                 rw [show (w1.alloc (.cells #[.int .u32 0, .int .u32 55, .int .u32 19, .int .u32 19, .int .u32 19, .int .u32 19, .int .u32 19, .int .u32 19, .int .u32 19, .int .u32 19, .int .u32 19, .int .u32 51, .int .u32 51, .int .u32 51, .int .u32 51, .int .u32 51, .int .u32 51, .int .u32 51, .int .u32 51, .int .u32 51, .int .u32 51, .int .u32 51, .int .u32 51, .int .u32 51, .int .u32 3, .int .u32 35, .int .u32 99, .int .u32 99, .int .u32 111, .int .u32 103, .int .u32 115] 30)).heap.size = r + 1 from by rw [← hr]; simp] at h
                 rw [← hV]
                 exact h
               clear hb1 hbV)
  go_big_quiet (fail)
  go_wp2_with (first
    | (go_at_call 29; (with_reducible refine (H1.out _).mono ?_); rintro e w' ⟨rfl, rfl⟩)
    | (go_at_call 29; (with_reducible refine (H2.out _).mono ?_); rintro e w' ⟨rfl, rfl⟩)
    | (go_at_call 29; (with_reducible refine (H3.out _).mono ?_); rintro e w' ⟨rfl, rfl⟩)
    | (go_at_call 29; (with_reducible refine (H4.out _).mono ?_); rintro e w' ⟨rfl, rfl⟩))
  go_ret2
  exact ⟨by rw [HE.out]; rfl, below_drewN HV.out.2 _⟩
theorem ref_6 (D A B N : Nat) : encN 6 D A B N = 24595 ||| D * 2 ^ 7 ||| A * 2 ^ 15 ||| B * 2 ^ 20 ||| cutN N 0 12 * 2 ^ 20 := by
  have e1 : formN 6 = 3 := by decide
  have e2 : stampW (lowN 6) (midN 6) (highN 6) = 24595 := by decide
  unfold encN wordW
  rw [e1, e2, laid_3]
set_option maxHeartbeats 1600000 in
theorem rencode_6 (D A B : Nat) (n : Int) (b1 : -2147483648 ≤ n) (b2 : n ≤ 2147483647) (hD : D < 32) (hA : A < 32) (hB : B < 32) (h : mayI ⟨6, D, A, B, n⟩ = true) (w : World) :
    Calls Tryd.prog 14 #[.agg #[.int .i64 2, .int .i64 6, .int .i64 D, .int .i64 A, .int .i64 B, .int .i32 n, .string ⟨#[]⟩]] w fun e w' => e = .returned (.tuple #[.int .u32 (encN 6 D A B (nat32 n) : Nat), .bool true]) ∧ Below w.heap.size w w' := by
  have H := fun w => rmayLine_any 6 D A B n b1 b2 w
  rw [h] at H
  have HM := Lib.hid H
  clear H h
  obtain ⟨x1, hx1⟩ : ∃ x1, layN 24595 (nat32 (D : Int)) 0 5 7 = x1 := ⟨_, rfl⟩
  have y1 : x1 < 4294967296 := by rw [← hx1]; exact lay_lt _ _ _ _ _ (by decide) (by decide)
  have K1 : ∀ W, Calls Tryd.prog 29 #[.int .u32 24595, .int .i64 D, .int .i64 0, .int .i64 5, .int .i64 7] W fun e w' => e = .returned (.int .u32 x1) ∧ W = w' := fun W => by
    have h := lay_any 24595 D 0 5 7 (by decide) (by omega) (by decide) (by decide) W
    rw [hx1] at h
    exact h
  obtain ⟨x2, hx2⟩ : ∃ x, layN x1 (nat32 (A : Int)) 0 5 15 = x := ⟨_, rfl⟩
  have y2 : x2 < 4294967296 := by rw [← hx2]; exact lay_lt _ _ _ _ _ y1 (by decide)
  have K2 : ∀ W, Calls Tryd.prog 29 #[.int .u32 x1, .int .i64 A, .int .i64 0, .int .i64 5, .int .i64 15] W fun e w' => e = .returned (.int .u32 x2) ∧ W = w' := fun W => by
    have h := lay_any x1 A 0 5 15 y1 (by omega) (by decide) (by decide) W
    rw [hx2] at h
    exact h
  obtain ⟨x3, hx3⟩ : ∃ x, layN x2 (nat32 (B : Int)) 0 5 20 = x := ⟨_, rfl⟩
  have y3 : x3 < 4294967296 := by rw [← hx3]; exact lay_lt _ _ _ _ _ y2 (by decide)
  have K3 : ∀ W, Calls Tryd.prog 29 #[.int .u32 x2, .int .i64 B, .int .i64 0, .int .i64 5, .int .i64 20] W fun e w' => e = .returned (.int .u32 x3) ∧ W = w' := fun W => by
    have h := lay_any x2 B 0 5 20 y2 (by omega) (by decide) (by decide) W
    rw [hx3] at h
    exact h
  obtain ⟨x4, hx4⟩ : ∃ x, layN x3 (nat32 n) 0 12 20 = x := ⟨_, rfl⟩
  have y4 : x4 < 4294967296 := by rw [← hx4]; exact lay_lt _ _ _ _ _ y3 (by decide)
  have K4 : ∀ W, Calls Tryd.prog 29 #[.int .u32 x3, .int .i64 n, .int .i64 0, .int .i64 12, .int .i64 20] W fun e w' => e = .returned (.int .u32 x4) ∧ W = w' := fun W => by
    have h := lay_any x3 n 0 12 20 y3 (by omega) (by decide) (by decide) W
    rw [hx4] at h
    exact h
  have HE : Hid (encN 6 D A B (nat32 n) = x4) := Lib.hid (by
    rw [← hx4, ← hx3, ← hx2, ← hx1]
    simp only [lay_reg D hD, lay_reg A hA, lay_reg B hB, layN]
    exact ref_6 D A B (nat32 n))
  have H1 := Lib.hid K1
  have H2 := Lib.hid K2
  have H3 := Lib.hid K3
  have H4 := Lib.hid K4
  clear K1 hx1 y1 K2 hx2 y2 K3 hx3 y3 K4 hx4 y4
  obtain ⟨v0, hv0⟩ : ∃ v0, w.heap.size = v0 := ⟨_, rfl⟩
  obtain ⟨W0, hW0⟩ : ∃ W0, w.alloc (.cells #[.int .i64 2, .int .i64 6, .int .i64 D, .int .i64 A, .int .i64 B, .int .i32 n, .string ⟨#[]⟩] 23) = W0 := ⟨_, rfl⟩
  have hB0 : Below w.heap.size w W0 := by rw [← hW0]; exact (Below.refl _ _).alloc (Nat.le_refl _) _
  have hLn : LnAt W0 v0 2 6 D A B n ⟨#[]⟩ := by rw [← hW0, ← hv0]; exact LnAt.new _ _ _ _ _ _ _ _ _
  have HL := Lib.hid (And.intro hLn hB0)
  obtain ⟨-, z0, z1, z2, z3, z4, z5, z6⟩ := hLn
  clear hB0
  go_enter Tryd.func14, Tryd.ntmps14
  go_wp2_with (go_at_call 10; (with_reducible refine (HM.out _).mono ?_); rintro e w1 ⟨rfl, hb1⟩
               obtain ⟨V, hV⟩ : ∃ V, (w1.alloc (.cells #[.int .u32 0, .int .u32 55, .int .u32 19, .int .u32 19, .int .u32 19, .int .u32 19, .int .u32 19, .int .u32 19, .int .u32 19, .int .u32 19, .int .u32 19, .int .u32 51, .int .u32 51, .int .u32 51, .int .u32 51, .int .u32 51, .int .u32 51, .int .u32 51, .int .u32 51, .int .u32 51, .int .u32 51, .int .u32 51, .int .u32 51, .int .u32 51, .int .u32 3, .int .u32 35, .int .u32 99, .int .u32 99, .int .u32 111, .int .u32 103, .int .u32 115] 30)).alloc (.cells #[.int .u32 0, .int .u32 0, .int .u32 0, .int .u32 2, .int .u32 3, .int .u32 4, .int .u32 6, .int .u32 7, .int .u32 1, .int .u32 5, .int .u32 5, .int .u32 0, .int .u32 0, .int .u32 1, .int .u32 2, .int .u32 3, .int .u32 4, .int .u32 5, .int .u32 5, .int .u32 6, .int .u32 7, .int .u32 0, .int .u32 4, .int .u32 6, .int .u32 2, .int .u32 2, .int .u32 0, .int .u32 1, .int .u32 0, .int .u32 0, .int .u32 0] 30) = V := ⟨_, rfl⟩
               have hbV : Below W0.heap.size W0 V := by rw [← hV]; exact (hb1.alloc hb1.size _).alloc (Nat.le_trans hb1.size (by simp)) _
               have HV := Lib.hid (And.intro (HL.out.1.below hbV) (HL.out.2.trans (hbV.mono HL.out.2.size)))
               obtain ⟨-, u0, u1, u2, u3, u4, u5, u6⟩ := HL.out.1.below hbV
               obtain ⟨r, hr⟩ : ∃ r, w1.heap.size = r := ⟨_, rfl⟩
               have t0 : V.cell? ⟨r, 6, none⟩ = some (.int .u32 19) := by
                 have h := cell_alloc_at w1 (#[.int .u32 0, .int .u32 55, .int .u32 19, .int .u32 19, .int .u32 19, .int .u32 19, .int .u32 19, .int .u32 19, .int .u32 19, .int .u32 19, .int .u32 19, .int .u32 51, .int .u32 51, .int .u32 51, .int .u32 51, .int .u32 51, .int .u32 51, .int .u32 51, .int .u32 51, .int .u32 51, .int .u32 51, .int .u32 51, .int .u32 51, .int .u32 51, .int .u32 3, .int .u32 35, .int .u32 99, .int .u32 99, .int .u32 111, .int .u32 103, .int .u32 115]) 30 6 _ rfl
                 rw [← hV, ← hr]
                 exact cell_alloc h _
               have t1 : V.cell? ⟨r + 1, 6, none⟩ = some (.int .u32 6) := by
                 have h := cell_alloc_at (w1.alloc (.cells #[.int .u32 0, .int .u32 55, .int .u32 19, .int .u32 19, .int .u32 19, .int .u32 19, .int .u32 19, .int .u32 19, .int .u32 19, .int .u32 19, .int .u32 19, .int .u32 51, .int .u32 51, .int .u32 51, .int .u32 51, .int .u32 51, .int .u32 51, .int .u32 51, .int .u32 51, .int .u32 51, .int .u32 51, .int .u32 51, .int .u32 51, .int .u32 51, .int .u32 3, .int .u32 35, .int .u32 99, .int .u32 99, .int .u32 111, .int .u32 103, .int .u32 115] 30)) (#[.int .u32 0, .int .u32 0, .int .u32 0, .int .u32 2, .int .u32 3, .int .u32 4, .int .u32 6, .int .u32 7, .int .u32 1, .int .u32 5, .int .u32 5, .int .u32 0, .int .u32 0, .int .u32 1, .int .u32 2, .int .u32 3, .int .u32 4, .int .u32 5, .int .u32 5, .int .u32 6, .int .u32 7, .int .u32 0, .int .u32 4, .int .u32 6, .int .u32 2, .int .u32 2, .int .u32 0, .int .u32 1, .int .u32 0, .int .u32 0, .int .u32 0]) 30 6 _ rfl
                 rw [show (w1.alloc (.cells #[.int .u32 0, .int .u32 55, .int .u32 19, .int .u32 19, .int .u32 19, .int .u32 19, .int .u32 19, .int .u32 19, .int .u32 19, .int .u32 19, .int .u32 19, .int .u32 51, .int .u32 51, .int .u32 51, .int .u32 51, .int .u32 51, .int .u32 51, .int .u32 51, .int .u32 51, .int .u32 51, .int .u32 51, .int .u32 51, .int .u32 51, .int .u32 51, .int .u32 3, .int .u32 35, .int .u32 99, .int .u32 99, .int .u32 111, .int .u32 103, .int .u32 115] 30)).heap.size = r + 1 from by rw [← hr]; simp] at h
                 rw [← hV]
                 exact h
               clear hb1 hbV)
  go_big_quiet (fail)
  go_wp2_with (first
    | (go_at_call 29; (with_reducible refine (H1.out _).mono ?_); rintro e w' ⟨rfl, rfl⟩)
    | (go_at_call 29; (with_reducible refine (H2.out _).mono ?_); rintro e w' ⟨rfl, rfl⟩)
    | (go_at_call 29; (with_reducible refine (H3.out _).mono ?_); rintro e w' ⟨rfl, rfl⟩)
    | (go_at_call 29; (with_reducible refine (H4.out _).mono ?_); rintro e w' ⟨rfl, rfl⟩))
  go_ret2
  exact ⟨by rw [HE.out]; rfl, below_drewN HV.out.2 _⟩
theorem ref_7 (D A B N : Nat) : encN 7 D A B N = 28691 ||| D * 2 ^ 7 ||| A * 2 ^ 15 ||| B * 2 ^ 20 ||| cutN N 0 12 * 2 ^ 20 := by
  have e1 : formN 7 = 3 := by decide
  have e2 : stampW (lowN 7) (midN 7) (highN 7) = 28691 := by decide
  unfold encN wordW
  rw [e1, e2, laid_3]
set_option maxHeartbeats 1600000 in
theorem rencode_7 (D A B : Nat) (n : Int) (b1 : -2147483648 ≤ n) (b2 : n ≤ 2147483647) (hD : D < 32) (hA : A < 32) (hB : B < 32) (h : mayI ⟨7, D, A, B, n⟩ = true) (w : World) :
    Calls Tryd.prog 14 #[.agg #[.int .i64 2, .int .i64 7, .int .i64 D, .int .i64 A, .int .i64 B, .int .i32 n, .string ⟨#[]⟩]] w fun e w' => e = .returned (.tuple #[.int .u32 (encN 7 D A B (nat32 n) : Nat), .bool true]) ∧ Below w.heap.size w w' := by
  have H := fun w => rmayLine_any 7 D A B n b1 b2 w
  rw [h] at H
  have HM := Lib.hid H
  clear H h
  obtain ⟨x1, hx1⟩ : ∃ x1, layN 28691 (nat32 (D : Int)) 0 5 7 = x1 := ⟨_, rfl⟩
  have y1 : x1 < 4294967296 := by rw [← hx1]; exact lay_lt _ _ _ _ _ (by decide) (by decide)
  have K1 : ∀ W, Calls Tryd.prog 29 #[.int .u32 28691, .int .i64 D, .int .i64 0, .int .i64 5, .int .i64 7] W fun e w' => e = .returned (.int .u32 x1) ∧ W = w' := fun W => by
    have h := lay_any 28691 D 0 5 7 (by decide) (by omega) (by decide) (by decide) W
    rw [hx1] at h
    exact h
  obtain ⟨x2, hx2⟩ : ∃ x, layN x1 (nat32 (A : Int)) 0 5 15 = x := ⟨_, rfl⟩
  have y2 : x2 < 4294967296 := by rw [← hx2]; exact lay_lt _ _ _ _ _ y1 (by decide)
  have K2 : ∀ W, Calls Tryd.prog 29 #[.int .u32 x1, .int .i64 A, .int .i64 0, .int .i64 5, .int .i64 15] W fun e w' => e = .returned (.int .u32 x2) ∧ W = w' := fun W => by
    have h := lay_any x1 A 0 5 15 y1 (by omega) (by decide) (by decide) W
    rw [hx2] at h
    exact h
  obtain ⟨x3, hx3⟩ : ∃ x, layN x2 (nat32 (B : Int)) 0 5 20 = x := ⟨_, rfl⟩
  have y3 : x3 < 4294967296 := by rw [← hx3]; exact lay_lt _ _ _ _ _ y2 (by decide)
  have K3 : ∀ W, Calls Tryd.prog 29 #[.int .u32 x2, .int .i64 B, .int .i64 0, .int .i64 5, .int .i64 20] W fun e w' => e = .returned (.int .u32 x3) ∧ W = w' := fun W => by
    have h := lay_any x2 B 0 5 20 y2 (by omega) (by decide) (by decide) W
    rw [hx3] at h
    exact h
  obtain ⟨x4, hx4⟩ : ∃ x, layN x3 (nat32 n) 0 12 20 = x := ⟨_, rfl⟩
  have y4 : x4 < 4294967296 := by rw [← hx4]; exact lay_lt _ _ _ _ _ y3 (by decide)
  have K4 : ∀ W, Calls Tryd.prog 29 #[.int .u32 x3, .int .i64 n, .int .i64 0, .int .i64 12, .int .i64 20] W fun e w' => e = .returned (.int .u32 x4) ∧ W = w' := fun W => by
    have h := lay_any x3 n 0 12 20 y3 (by omega) (by decide) (by decide) W
    rw [hx4] at h
    exact h
  have HE : Hid (encN 7 D A B (nat32 n) = x4) := Lib.hid (by
    rw [← hx4, ← hx3, ← hx2, ← hx1]
    simp only [lay_reg D hD, lay_reg A hA, lay_reg B hB, layN]
    exact ref_7 D A B (nat32 n))
  have H1 := Lib.hid K1
  have H2 := Lib.hid K2
  have H3 := Lib.hid K3
  have H4 := Lib.hid K4
  clear K1 hx1 y1 K2 hx2 y2 K3 hx3 y3 K4 hx4 y4
  obtain ⟨v0, hv0⟩ : ∃ v0, w.heap.size = v0 := ⟨_, rfl⟩
  obtain ⟨W0, hW0⟩ : ∃ W0, w.alloc (.cells #[.int .i64 2, .int .i64 7, .int .i64 D, .int .i64 A, .int .i64 B, .int .i32 n, .string ⟨#[]⟩] 23) = W0 := ⟨_, rfl⟩
  have hB0 : Below w.heap.size w W0 := by rw [← hW0]; exact (Below.refl _ _).alloc (Nat.le_refl _) _
  have hLn : LnAt W0 v0 2 7 D A B n ⟨#[]⟩ := by rw [← hW0, ← hv0]; exact LnAt.new _ _ _ _ _ _ _ _ _
  have HL := Lib.hid (And.intro hLn hB0)
  obtain ⟨-, z0, z1, z2, z3, z4, z5, z6⟩ := hLn
  clear hB0
  go_enter Tryd.func14, Tryd.ntmps14
  go_wp2_with (go_at_call 10; (with_reducible refine (HM.out _).mono ?_); rintro e w1 ⟨rfl, hb1⟩
               obtain ⟨V, hV⟩ : ∃ V, (w1.alloc (.cells #[.int .u32 0, .int .u32 55, .int .u32 19, .int .u32 19, .int .u32 19, .int .u32 19, .int .u32 19, .int .u32 19, .int .u32 19, .int .u32 19, .int .u32 19, .int .u32 51, .int .u32 51, .int .u32 51, .int .u32 51, .int .u32 51, .int .u32 51, .int .u32 51, .int .u32 51, .int .u32 51, .int .u32 51, .int .u32 51, .int .u32 51, .int .u32 51, .int .u32 3, .int .u32 35, .int .u32 99, .int .u32 99, .int .u32 111, .int .u32 103, .int .u32 115] 30)).alloc (.cells #[.int .u32 0, .int .u32 0, .int .u32 0, .int .u32 2, .int .u32 3, .int .u32 4, .int .u32 6, .int .u32 7, .int .u32 1, .int .u32 5, .int .u32 5, .int .u32 0, .int .u32 0, .int .u32 1, .int .u32 2, .int .u32 3, .int .u32 4, .int .u32 5, .int .u32 5, .int .u32 6, .int .u32 7, .int .u32 0, .int .u32 4, .int .u32 6, .int .u32 2, .int .u32 2, .int .u32 0, .int .u32 1, .int .u32 0, .int .u32 0, .int .u32 0] 30) = V := ⟨_, rfl⟩
               have hbV : Below W0.heap.size W0 V := by rw [← hV]; exact (hb1.alloc hb1.size _).alloc (Nat.le_trans hb1.size (by simp)) _
               have HV := Lib.hid (And.intro (HL.out.1.below hbV) (HL.out.2.trans (hbV.mono HL.out.2.size)))
               obtain ⟨-, u0, u1, u2, u3, u4, u5, u6⟩ := HL.out.1.below hbV
               obtain ⟨r, hr⟩ : ∃ r, w1.heap.size = r := ⟨_, rfl⟩
               have t0 : V.cell? ⟨r, 7, none⟩ = some (.int .u32 19) := by
                 have h := cell_alloc_at w1 (#[.int .u32 0, .int .u32 55, .int .u32 19, .int .u32 19, .int .u32 19, .int .u32 19, .int .u32 19, .int .u32 19, .int .u32 19, .int .u32 19, .int .u32 19, .int .u32 51, .int .u32 51, .int .u32 51, .int .u32 51, .int .u32 51, .int .u32 51, .int .u32 51, .int .u32 51, .int .u32 51, .int .u32 51, .int .u32 51, .int .u32 51, .int .u32 51, .int .u32 3, .int .u32 35, .int .u32 99, .int .u32 99, .int .u32 111, .int .u32 103, .int .u32 115]) 30 7 _ rfl
                 rw [← hV, ← hr]
                 exact cell_alloc h _
               have t1 : V.cell? ⟨r + 1, 7, none⟩ = some (.int .u32 7) := by
                 have h := cell_alloc_at (w1.alloc (.cells #[.int .u32 0, .int .u32 55, .int .u32 19, .int .u32 19, .int .u32 19, .int .u32 19, .int .u32 19, .int .u32 19, .int .u32 19, .int .u32 19, .int .u32 19, .int .u32 51, .int .u32 51, .int .u32 51, .int .u32 51, .int .u32 51, .int .u32 51, .int .u32 51, .int .u32 51, .int .u32 51, .int .u32 51, .int .u32 51, .int .u32 51, .int .u32 51, .int .u32 3, .int .u32 35, .int .u32 99, .int .u32 99, .int .u32 111, .int .u32 103, .int .u32 115] 30)) (#[.int .u32 0, .int .u32 0, .int .u32 0, .int .u32 2, .int .u32 3, .int .u32 4, .int .u32 6, .int .u32 7, .int .u32 1, .int .u32 5, .int .u32 5, .int .u32 0, .int .u32 0, .int .u32 1, .int .u32 2, .int .u32 3, .int .u32 4, .int .u32 5, .int .u32 5, .int .u32 6, .int .u32 7, .int .u32 0, .int .u32 4, .int .u32 6, .int .u32 2, .int .u32 2, .int .u32 0, .int .u32 1, .int .u32 0, .int .u32 0, .int .u32 0]) 30 7 _ rfl
                 rw [show (w1.alloc (.cells #[.int .u32 0, .int .u32 55, .int .u32 19, .int .u32 19, .int .u32 19, .int .u32 19, .int .u32 19, .int .u32 19, .int .u32 19, .int .u32 19, .int .u32 19, .int .u32 51, .int .u32 51, .int .u32 51, .int .u32 51, .int .u32 51, .int .u32 51, .int .u32 51, .int .u32 51, .int .u32 51, .int .u32 51, .int .u32 51, .int .u32 51, .int .u32 51, .int .u32 3, .int .u32 35, .int .u32 99, .int .u32 99, .int .u32 111, .int .u32 103, .int .u32 115] 30)).heap.size = r + 1 from by rw [← hr]; simp] at h
                 rw [← hV]
                 exact h
               clear hb1 hbV)
  go_big_quiet (fail)
  go_wp2_with (first
    | (go_at_call 29; (with_reducible refine (H1.out _).mono ?_); rintro e w' ⟨rfl, rfl⟩)
    | (go_at_call 29; (with_reducible refine (H2.out _).mono ?_); rintro e w' ⟨rfl, rfl⟩)
    | (go_at_call 29; (with_reducible refine (H3.out _).mono ?_); rintro e w' ⟨rfl, rfl⟩)
    | (go_at_call 29; (with_reducible refine (H4.out _).mono ?_); rintro e w' ⟨rfl, rfl⟩))
  go_ret2
  exact ⟨by rw [HE.out]; rfl, below_drewN HV.out.2 _⟩
theorem ref_8 (D A B N : Nat) : encN 8 D A B N = 4115 ||| D * 2 ^ 7 ||| A * 2 ^ 15 ||| B * 2 ^ 20 ||| cutN N 0 5 * 2 ^ 20 := by
  have e1 : formN 8 = 4 := by decide
  have e2 : stampW (lowN 8) (midN 8) (highN 8) = 4115 := by decide
  unfold encN wordW
  rw [e1, e2, laid_4]
set_option maxHeartbeats 1600000 in
theorem rencode_8 (D A B : Nat) (n : Int) (b1 : -2147483648 ≤ n) (b2 : n ≤ 2147483647) (hD : D < 32) (hA : A < 32) (hB : B < 32) (h : mayI ⟨8, D, A, B, n⟩ = true) (w : World) :
    Calls Tryd.prog 14 #[.agg #[.int .i64 2, .int .i64 8, .int .i64 D, .int .i64 A, .int .i64 B, .int .i32 n, .string ⟨#[]⟩]] w fun e w' => e = .returned (.tuple #[.int .u32 (encN 8 D A B (nat32 n) : Nat), .bool true]) ∧ Below w.heap.size w w' := by
  have H := fun w => rmayLine_any 8 D A B n b1 b2 w
  rw [h] at H
  have HM := Lib.hid H
  clear H h
  obtain ⟨x1, hx1⟩ : ∃ x1, layN 4115 (nat32 (D : Int)) 0 5 7 = x1 := ⟨_, rfl⟩
  have y1 : x1 < 4294967296 := by rw [← hx1]; exact lay_lt _ _ _ _ _ (by decide) (by decide)
  have K1 : ∀ W, Calls Tryd.prog 29 #[.int .u32 4115, .int .i64 D, .int .i64 0, .int .i64 5, .int .i64 7] W fun e w' => e = .returned (.int .u32 x1) ∧ W = w' := fun W => by
    have h := lay_any 4115 D 0 5 7 (by decide) (by omega) (by decide) (by decide) W
    rw [hx1] at h
    exact h
  obtain ⟨x2, hx2⟩ : ∃ x, layN x1 (nat32 (A : Int)) 0 5 15 = x := ⟨_, rfl⟩
  have y2 : x2 < 4294967296 := by rw [← hx2]; exact lay_lt _ _ _ _ _ y1 (by decide)
  have K2 : ∀ W, Calls Tryd.prog 29 #[.int .u32 x1, .int .i64 A, .int .i64 0, .int .i64 5, .int .i64 15] W fun e w' => e = .returned (.int .u32 x2) ∧ W = w' := fun W => by
    have h := lay_any x1 A 0 5 15 y1 (by omega) (by decide) (by decide) W
    rw [hx2] at h
    exact h
  obtain ⟨x3, hx3⟩ : ∃ x, layN x2 (nat32 (B : Int)) 0 5 20 = x := ⟨_, rfl⟩
  have y3 : x3 < 4294967296 := by rw [← hx3]; exact lay_lt _ _ _ _ _ y2 (by decide)
  have K3 : ∀ W, Calls Tryd.prog 29 #[.int .u32 x2, .int .i64 B, .int .i64 0, .int .i64 5, .int .i64 20] W fun e w' => e = .returned (.int .u32 x3) ∧ W = w' := fun W => by
    have h := lay_any x2 B 0 5 20 y2 (by omega) (by decide) (by decide) W
    rw [hx3] at h
    exact h
  obtain ⟨x4, hx4⟩ : ∃ x, layN x3 (nat32 n) 0 5 20 = x := ⟨_, rfl⟩
  have y4 : x4 < 4294967296 := by rw [← hx4]; exact lay_lt _ _ _ _ _ y3 (by decide)
  have K4 : ∀ W, Calls Tryd.prog 29 #[.int .u32 x3, .int .i64 n, .int .i64 0, .int .i64 5, .int .i64 20] W fun e w' => e = .returned (.int .u32 x4) ∧ W = w' := fun W => by
    have h := lay_any x3 n 0 5 20 y3 (by omega) (by decide) (by decide) W
    rw [hx4] at h
    exact h
  have HE : Hid (encN 8 D A B (nat32 n) = x4) := Lib.hid (by
    rw [← hx4, ← hx3, ← hx2, ← hx1]
    simp only [lay_reg D hD, lay_reg A hA, lay_reg B hB, layN]
    exact ref_8 D A B (nat32 n))
  have H1 := Lib.hid K1
  have H2 := Lib.hid K2
  have H3 := Lib.hid K3
  have H4 := Lib.hid K4
  clear K1 hx1 y1 K2 hx2 y2 K3 hx3 y3 K4 hx4 y4
  obtain ⟨v0, hv0⟩ : ∃ v0, w.heap.size = v0 := ⟨_, rfl⟩
  obtain ⟨W0, hW0⟩ : ∃ W0, w.alloc (.cells #[.int .i64 2, .int .i64 8, .int .i64 D, .int .i64 A, .int .i64 B, .int .i32 n, .string ⟨#[]⟩] 23) = W0 := ⟨_, rfl⟩
  have hB0 : Below w.heap.size w W0 := by rw [← hW0]; exact (Below.refl _ _).alloc (Nat.le_refl _) _
  have hLn : LnAt W0 v0 2 8 D A B n ⟨#[]⟩ := by rw [← hW0, ← hv0]; exact LnAt.new _ _ _ _ _ _ _ _ _
  have HL := Lib.hid (And.intro hLn hB0)
  obtain ⟨-, z0, z1, z2, z3, z4, z5, z6⟩ := hLn
  clear hB0
  go_enter Tryd.func14, Tryd.ntmps14
  go_wp2_with (go_at_call 10; (with_reducible refine (HM.out _).mono ?_); rintro e w1 ⟨rfl, hb1⟩
               obtain ⟨V, hV⟩ : ∃ V, (w1.alloc (.cells #[.int .u32 0, .int .u32 55, .int .u32 19, .int .u32 19, .int .u32 19, .int .u32 19, .int .u32 19, .int .u32 19, .int .u32 19, .int .u32 19, .int .u32 19, .int .u32 51, .int .u32 51, .int .u32 51, .int .u32 51, .int .u32 51, .int .u32 51, .int .u32 51, .int .u32 51, .int .u32 51, .int .u32 51, .int .u32 51, .int .u32 51, .int .u32 51, .int .u32 3, .int .u32 35, .int .u32 99, .int .u32 99, .int .u32 111, .int .u32 103, .int .u32 115] 30)).alloc (.cells #[.int .u32 0, .int .u32 0, .int .u32 0, .int .u32 2, .int .u32 3, .int .u32 4, .int .u32 6, .int .u32 7, .int .u32 1, .int .u32 5, .int .u32 5, .int .u32 0, .int .u32 0, .int .u32 1, .int .u32 2, .int .u32 3, .int .u32 4, .int .u32 5, .int .u32 5, .int .u32 6, .int .u32 7, .int .u32 0, .int .u32 4, .int .u32 6, .int .u32 2, .int .u32 2, .int .u32 0, .int .u32 1, .int .u32 0, .int .u32 0, .int .u32 0] 30) = V := ⟨_, rfl⟩
               have hbV : Below W0.heap.size W0 V := by rw [← hV]; exact (hb1.alloc hb1.size _).alloc (Nat.le_trans hb1.size (by simp)) _
               have HV := Lib.hid (And.intro (HL.out.1.below hbV) (HL.out.2.trans (hbV.mono HL.out.2.size)))
               obtain ⟨-, u0, u1, u2, u3, u4, u5, u6⟩ := HL.out.1.below hbV
               obtain ⟨r, hr⟩ : ∃ r, w1.heap.size = r := ⟨_, rfl⟩
               have t0 : V.cell? ⟨r, 8, none⟩ = some (.int .u32 19) := by
                 have h := cell_alloc_at w1 (#[.int .u32 0, .int .u32 55, .int .u32 19, .int .u32 19, .int .u32 19, .int .u32 19, .int .u32 19, .int .u32 19, .int .u32 19, .int .u32 19, .int .u32 19, .int .u32 51, .int .u32 51, .int .u32 51, .int .u32 51, .int .u32 51, .int .u32 51, .int .u32 51, .int .u32 51, .int .u32 51, .int .u32 51, .int .u32 51, .int .u32 51, .int .u32 51, .int .u32 3, .int .u32 35, .int .u32 99, .int .u32 99, .int .u32 111, .int .u32 103, .int .u32 115]) 30 8 _ rfl
                 rw [← hV, ← hr]
                 exact cell_alloc h _
               have t1 : V.cell? ⟨r + 1, 8, none⟩ = some (.int .u32 1) := by
                 have h := cell_alloc_at (w1.alloc (.cells #[.int .u32 0, .int .u32 55, .int .u32 19, .int .u32 19, .int .u32 19, .int .u32 19, .int .u32 19, .int .u32 19, .int .u32 19, .int .u32 19, .int .u32 19, .int .u32 51, .int .u32 51, .int .u32 51, .int .u32 51, .int .u32 51, .int .u32 51, .int .u32 51, .int .u32 51, .int .u32 51, .int .u32 51, .int .u32 51, .int .u32 51, .int .u32 51, .int .u32 3, .int .u32 35, .int .u32 99, .int .u32 99, .int .u32 111, .int .u32 103, .int .u32 115] 30)) (#[.int .u32 0, .int .u32 0, .int .u32 0, .int .u32 2, .int .u32 3, .int .u32 4, .int .u32 6, .int .u32 7, .int .u32 1, .int .u32 5, .int .u32 5, .int .u32 0, .int .u32 0, .int .u32 1, .int .u32 2, .int .u32 3, .int .u32 4, .int .u32 5, .int .u32 5, .int .u32 6, .int .u32 7, .int .u32 0, .int .u32 4, .int .u32 6, .int .u32 2, .int .u32 2, .int .u32 0, .int .u32 1, .int .u32 0, .int .u32 0, .int .u32 0]) 30 8 _ rfl
                 rw [show (w1.alloc (.cells #[.int .u32 0, .int .u32 55, .int .u32 19, .int .u32 19, .int .u32 19, .int .u32 19, .int .u32 19, .int .u32 19, .int .u32 19, .int .u32 19, .int .u32 19, .int .u32 51, .int .u32 51, .int .u32 51, .int .u32 51, .int .u32 51, .int .u32 51, .int .u32 51, .int .u32 51, .int .u32 51, .int .u32 51, .int .u32 51, .int .u32 51, .int .u32 51, .int .u32 3, .int .u32 35, .int .u32 99, .int .u32 99, .int .u32 111, .int .u32 103, .int .u32 115] 30)).heap.size = r + 1 from by rw [← hr]; simp] at h
                 rw [← hV]
                 exact h
               clear hb1 hbV)
  go_big_quiet (fail)
  go_wp2_with (first
    | (go_at_call 29; (with_reducible refine (H1.out _).mono ?_); rintro e w' ⟨rfl, rfl⟩)
    | (go_at_call 29; (with_reducible refine (H2.out _).mono ?_); rintro e w' ⟨rfl, rfl⟩)
    | (go_at_call 29; (with_reducible refine (H3.out _).mono ?_); rintro e w' ⟨rfl, rfl⟩)
    | (go_at_call 29; (with_reducible refine (H4.out _).mono ?_); rintro e w' ⟨rfl, rfl⟩))
  go_ret2
  exact ⟨by rw [HE.out]; rfl, below_drewN HV.out.2 _⟩
end Go.Proofs.YtonkpojoniehlaaDoor
