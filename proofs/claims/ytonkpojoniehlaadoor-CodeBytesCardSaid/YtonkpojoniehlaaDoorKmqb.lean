/-
  The document's Encode, part 1.
-/
import Derived.Test.YtonkpojoniehlaaDoorKmn
import Derived.Test.YtonkpojoniehlaaDoorKmp
namespace Go.Proofs.YtonkpojoniehlaaDoor
open Go.RowKit
set_option linter.unusedVariables false
set_option linter.unusedSimpArgs false
set_option maxRecDepth 100000

theorem ref_9 (D A B N : Nat) : encN 9 D A B N = 20499 ||| D * 2 ^ 7 ||| A * 2 ^ 15 ||| B * 2 ^ 20 ||| cutN N 0 5 * 2 ^ 20 := by
  have e1 : formN 9 = 4 := by decide
  have e2 : stampW (lowN 9) (midN 9) (highN 9) = 20499 := by decide
  unfold encN wordW
  rw [e1, e2, laid_4]
set_option maxHeartbeats 1600000 in
theorem rencode_9 (D A B : Nat) (n : Int) (b1 : -2147483648 ≤ n) (b2 : n ≤ 2147483647) (hD : D < 32) (hA : A < 32) (hB : B < 32) (h : mayI ⟨9, D, A, B, n⟩ = true) (w : World) :
    Calls Tryd.prog 14 #[.agg #[.int .i64 2, .int .i64 9, .int .i64 D, .int .i64 A, .int .i64 B, .int .i32 n, .string ⟨#[]⟩]] w fun e w' => e = .returned (.tuple #[.int .u32 (encN 9 D A B (nat32 n) : Nat), .bool true]) ∧ Below w.heap.size w w' := by
  have H := fun w => rmayLine_any 9 D A B n b1 b2 w
  rw [h] at H
  have HM := Lib.hid H
  clear H h
  obtain ⟨x1, hx1⟩ : ∃ x1, layN 20499 (nat32 (D : Int)) 0 5 7 = x1 := ⟨_, rfl⟩
  have y1 : x1 < 4294967296 := by rw [← hx1]; exact lay_lt _ _ _ _ _ (by decide) (by decide)
  have K1 : ∀ W, Calls Tryd.prog 29 #[.int .u32 20499, .int .i64 D, .int .i64 0, .int .i64 5, .int .i64 7] W fun e w' => e = .returned (.int .u32 x1) ∧ W = w' := fun W => by
    have h := lay_any 20499 D 0 5 7 (by decide) (by omega) (by decide) (by decide) W
    rw [hx1] at h
    exact h
  obtain ⟨x2, hx2⟩ : ∃ x, layN x1 (nat32 (A : Int)) 0 5 15 = x := ⟨_, rfl⟩
  have y2 : x2 < 4294967296 := by rw [← hx2]; exact lay_lt _ _ _ _ _ y1 (by decide)
  have K2 : ∀ W, Calls Tryd.prog 29 #[.int .u32 x1, .int .i64 A, .int .i64 0, .int .i64 5, .int .i64 15] W fun e w' => e = .returned (.int .u32 x2) ∧ W = w' := fun W => by
    have h := lay_any x1 A 0 5 15 y1 (by omega) (by decide) (by decide) W
    rw [hx2] at h
    exact h
  obtain ⟨x3, hx3⟩ : ∃ x, layN x2 (nat32 (B : Int)) 0 5 20 = x := ⟨_, rfl⟩
  have y3 : x3 < 4294967296 := by rw [← hx3]; exact lay_lt _ _ _ _ _ y2 (by decide)
  have K3 : ∀ W, Calls Tryd.prog 29 #[.int .u32 x2, .int .i64 B, .int .i64 0, .int .i64 5, .int .i64 20] W fun e w' => e = .returned (.int .u32 x3) ∧ W = w' := fun W => by
    have h := lay_any x2 B 0 5 20 y2 (by omega) (by decide) (by decide) W
    rw [hx3] at h
    exact h
  obtain ⟨x4, hx4⟩ : ∃ x, layN x3 (nat32 n) 0 5 20 = x := ⟨_, rfl⟩
  have y4 : x4 < 4294967296 := by rw [← hx4]; exact lay_lt _ _ _ _ _ y3 (by decide)
  have K4 : ∀ W, Calls Tryd.prog 29 #[.int .u32 x3, .int .i64 n, .int .i64 0, .int .i64 5, .int .i64 20] W fun e w' => e = .returned (.int .u32 x4) ∧ W = w' := fun W => by
    have h := lay_any x3 n 0 5 20 y3 (by omega) (by decide) (by decide) W
    rw [hx4] at h
    exact h
  have HE : Hid (encN 9 D A B (nat32 n) = x4) := Lib.hid (by
    rw [← hx4, ← hx3, ← hx2, ← hx1]
    simp only [lay_reg D hD, lay_reg A hA, lay_reg B hB, layN]
    exact ref_9 D A B (nat32 n))
  have H1 := Lib.hid K1
  have H2 := Lib.hid K2
  have H3 := Lib.hid K3
  have H4 := Lib.hid K4
  clear K1 hx1 y1 K2 hx2 y2 K3 hx3 y3 K4 hx4 y4
  obtain ⟨v0, hv0⟩ : ∃ v0, w.heap.size = v0 := ⟨_, rfl⟩
  obtain ⟨W0, hW0⟩ : ∃ W0, w.alloc (.cells #[.int .i64 2, .int .i64 9, .int .i64 D, .int .i64 A, .int .i64 B, .int .i32 n, .string ⟨#[]⟩] 23) = W0 := ⟨_, rfl⟩
  have hB0 : Below w.heap.size w W0 := by rw [← hW0]; exact (Below.refl _ _).alloc (Nat.le_refl _) _
  have hLn : LnAt W0 v0 2 9 D A B n ⟨#[]⟩ := by rw [← hW0, ← hv0]; exact LnAt.new _ _ _ _ _ _ _ _ _
  have HL := Lib.hid (And.intro hLn hB0)
  obtain ⟨-, z0, z1, z2, z3, z4, z5, z6⟩ := hLn
  clear hB0
  go_enter Tryd.func14, Tryd.ntmps14
  go_wp2_with (go_at_call 10; (with_reducible refine (HM.out _).mono ?_); rintro e w1 ⟨rfl, hb1⟩
               obtain ⟨V, hV⟩ : ∃ V, (w1.alloc (.cells #[.int .u32 0, .int .u32 55, .int .u32 19, .int .u32 19, .int .u32 19, .int .u32 19, .int .u32 19, .int .u32 19, .int .u32 19, .int .u32 19, .int .u32 19, .int .u32 51, .int .u32 51, .int .u32 51, .int .u32 51, .int .u32 51, .int .u32 51, .int .u32 51, .int .u32 51, .int .u32 51, .int .u32 51, .int .u32 51, .int .u32 51, .int .u32 51, .int .u32 3, .int .u32 35, .int .u32 99, .int .u32 99, .int .u32 111, .int .u32 103, .int .u32 115] 30)).alloc (.cells #[.int .u32 0, .int .u32 0, .int .u32 0, .int .u32 2, .int .u32 3, .int .u32 4, .int .u32 6, .int .u32 7, .int .u32 1, .int .u32 5, .int .u32 5, .int .u32 0, .int .u32 0, .int .u32 1, .int .u32 2, .int .u32 3, .int .u32 4, .int .u32 5, .int .u32 5, .int .u32 6, .int .u32 7, .int .u32 0, .int .u32 4, .int .u32 6, .int .u32 2, .int .u32 2, .int .u32 0, .int .u32 1, .int .u32 0, .int .u32 0, .int .u32 0] 30) = V := ⟨_, rfl⟩
               have hbV : Below W0.heap.size W0 V := by rw [← hV]; exact (hb1.alloc hb1.size _).alloc (Nat.le_trans hb1.size (by simp)) _
               have HV := Lib.hid (And.intro (HL.out.1.below hbV) (HL.out.2.trans (hbV.mono HL.out.2.size)))
               obtain ⟨-, u0, u1, u2, u3, u4, u5, u6⟩ := HL.out.1.below hbV
               obtain ⟨r, hr⟩ : ∃ r, w1.heap.size = r := ⟨_, rfl⟩
               have t0 : V.cell? ⟨r, 9, none⟩ = some (.int .u32 19) := by
                 have h := cell_alloc_at w1 (#[.int .u32 0, .int .u32 55, .int .u32 19, .int .u32 19, .int .u32 19, .int .u32 19, .int .u32 19, .int .u32 19, .int .u32 19, .int .u32 19, .int .u32 19, .int .u32 51, .int .u32 51, .int .u32 51, .int .u32 51, .int .u32 51, .int .u32 51, .int .u32 51, .int .u32 51, .int .u32 51, .int .u32 51, .int .u32 51, .int .u32 51, .int .u32 51, .int .u32 3, .int .u32 35, .int .u32 99, .int .u32 99, .int .u32 111, .int .u32 103, .int .u32 115]) 30 9 _ rfl
                 rw [← hV, ← hr]
                 exact cell_alloc h _
               have t1 : V.cell? ⟨r + 1, 9, none⟩ = some (.int .u32 5) := by
                 have h := cell_alloc_at (w1.alloc (.cells #[.int .u32 0, .int .u32 55, .int .u32 19, .int .u32 19, .int .u32 19, .int .u32 19, .int .u32 19, .int .u32 19, .int .u32 19, .int .u32 19, .int .u32 19, .int .u32 51, .int .u32 51, .int .u32 51, .int .u32 51, .int .u32 51, .int .u32 51, .int .u32 51, .int .u32 51, .int .u32 51, .int .u32 51, .int .u32 51, .int .u32 51, .int .u32 51, .int .u32 3, .int .u32 35, .int .u32 99, .int .u32 99, .int .u32 111, .int .u32 103, .int .u32 115] 30)) (#[.int .u32 0, .int .u32 0, .int .u32 0, .int .u32 2, .int .u32 3, .int .u32 4, .int .u32 6, .int .u32 7, .int .u32 1, .int .u32 5, .int .u32 5, .int .u32 0, .int .u32 0, .int .u32 1, .int .u32 2, .int .u32 3, .int .u32 4, .int .u32 5, .int .u32 5, .int .u32 6, .int .u32 7, .int .u32 0, .int .u32 4, .int .u32 6, .int .u32 2, .int .u32 2, .int .u32 0, .int .u32 1, .int .u32 0, .int .u32 0, .int .u32 0]) 30 9 _ rfl
                 rw [show (w1.alloc (.cells #[.int .u32 0, .int .u32 55, .int .u32 19, .int .u32 19, .int .u32 19, .int .u32 19, .int .u32 19, .int .u32 19, .int .u32 19, .int .u32 19, .int .u32 19, .int .u32 51, .int .u32 51, .int .u32 51, .int .u32 51, .int .u32 51, .int .u32 51, .int .u32 51, .int .u32 51, .int .u32 51, .int .u32 51, .int .u32 51, .int .u32 51, .int .u32 51, .int .u32 3, .int .u32 35, .int .u32 99, .int .u32 99, .int .u32 111, .int .u32 103, .int .u32 115] 30)).heap.size = r + 1 from by rw [← hr]; simp] at h
                 rw [← hV]
                 exact h
               clear hb1 hbV)
  go_big_quiet (fail)
  go_wp2_with (first
    | (go_at_call 29; (with_reducible refine (H1.out _).mono ?_); rintro e w' ⟨rfl, rfl⟩)
    | (go_at_call 29; (with_reducible refine (H2.out _).mono ?_); rintro e w' ⟨rfl, rfl⟩)
    | (go_at_call 29; (with_reducible refine (H3.out _).mono ?_); rintro e w' ⟨rfl, rfl⟩)
    | (go_at_call 29; (with_reducible refine (H4.out _).mono ?_); rintro e w' ⟨rfl, rfl⟩))
  go_ret2
  exact ⟨by rw [HE.out]; rfl, below_drewN HV.out.2 _⟩
theorem ref_10 (D A B N : Nat) : encN 10 D A B N = (20499 ||| D * 2 ^ 7 ||| A * 2 ^ 15 ||| B * 2 ^ 20 ||| cutN N 0 5 * 2 ^ 20) ||| 1073741824 := by
  have e1 : formN 10 = 4 := by decide
  have e2 : stampW (lowN 10) (midN 10) (highN 10) = 1073762323 := by decide
  unfold encN wordW
  rw [e1, e2, laid_4]
  rw [show (1073762323 : Nat) = 20499 ||| 1073741824 from by decide]
  ac_rfl
set_option maxHeartbeats 1600000 in
theorem rencode_10 (D A B : Nat) (n : Int) (b1 : -2147483648 ≤ n) (b2 : n ≤ 2147483647) (hD : D < 32) (hA : A < 32) (hB : B < 32) (h : mayI ⟨10, D, A, B, n⟩ = true) (w : World) :
    Calls Tryd.prog 14 #[.agg #[.int .i64 2, .int .i64 10, .int .i64 D, .int .i64 A, .int .i64 B, .int .i32 n, .string ⟨#[]⟩]] w fun e w' => e = .returned (.tuple #[.int .u32 (encN 10 D A B (nat32 n) : Nat), .bool true]) ∧ Below w.heap.size w w' := by
  have H := fun w => rmayLine_any 10 D A B n b1 b2 w
  rw [h] at H
  have HM := Lib.hid H
  clear H h
  obtain ⟨x1, hx1⟩ : ∃ x1, layN 20499 (nat32 (D : Int)) 0 5 7 = x1 := ⟨_, rfl⟩
  have y1 : x1 < 4294967296 := by rw [← hx1]; exact lay_lt _ _ _ _ _ (by decide) (by decide)
  have K1 : ∀ W, Calls Tryd.prog 29 #[.int .u32 20499, .int .i64 D, .int .i64 0, .int .i64 5, .int .i64 7] W fun e w' => e = .returned (.int .u32 x1) ∧ W = w' := fun W => by
    have h := lay_any 20499 D 0 5 7 (by decide) (by omega) (by decide) (by decide) W
    rw [hx1] at h
    exact h
  obtain ⟨x2, hx2⟩ : ∃ x, layN x1 (nat32 (A : Int)) 0 5 15 = x := ⟨_, rfl⟩
  have y2 : x2 < 4294967296 := by rw [← hx2]; exact lay_lt _ _ _ _ _ y1 (by decide)
  have K2 : ∀ W, Calls Tryd.prog 29 #[.int .u32 x1, .int .i64 A, .int .i64 0, .int .i64 5, .int .i64 15] W fun e w' => e = .returned (.int .u32 x2) ∧ W = w' := fun W => by
    have h := lay_any x1 A 0 5 15 y1 (by omega) (by decide) (by decide) W
    rw [hx2] at h
    exact h
  obtain ⟨x3, hx3⟩ : ∃ x, layN x2 (nat32 (B : Int)) 0 5 20 = x := ⟨_, rfl⟩
  have y3 : x3 < 4294967296 := by rw [← hx3]; exact lay_lt _ _ _ _ _ y2 (by decide)
  have K3 : ∀ W, Calls Tryd.prog 29 #[.int .u32 x2, .int .i64 B, .int .i64 0, .int .i64 5, .int .i64 20] W fun e w' => e = .returned (.int .u32 x3) ∧ W = w' := fun W => by
    have h := lay_any x2 B 0 5 20 y2 (by omega) (by decide) (by decide) W
    rw [hx3] at h
    exact h
  obtain ⟨x4, hx4⟩ : ∃ x, layN x3 (nat32 n) 0 5 20 = x := ⟨_, rfl⟩
  have y4 : x4 < 4294967296 := by rw [← hx4]; exact lay_lt _ _ _ _ _ y3 (by decide)
  have K4 : ∀ W, Calls Tryd.prog 29 #[.int .u32 x3, .int .i64 n, .int .i64 0, .int .i64 5, .int .i64 20] W fun e w' => e = .returned (.int .u32 x4) ∧ W = w' := fun W => by
    have h := lay_any x3 n 0 5 20 y3 (by omega) (by decide) (by decide) W
    rw [hx4] at h
    exact h
  obtain ⟨x5, hx5⟩ : ∃ x, x4 ||| 1073741824 = x := ⟨_, rfl⟩
  have O1 : bits .or .u32 (x4 : Int) 1073741824 = (x5 : Int) := by
    have h := u32_or_nat x4 1073741824 y4 (by decide)
    rw [hx5] at h
    exact h
  have HE : Hid (encN 10 D A B (nat32 n) = x5) := Lib.hid (by
    rw [← hx5, ← hx4, ← hx3, ← hx2, ← hx1]
    simp only [lay_reg D hD, lay_reg A hA, lay_reg B hB, layN]
    exact ref_10 D A B (nat32 n))
  have H1 := Lib.hid K1
  have H2 := Lib.hid K2
  have H3 := Lib.hid K3
  have H4 := Lib.hid K4
  clear K1 hx1 y1 K2 hx2 y2 K3 hx3 y3 K4 hx4 y4 hx5
  obtain ⟨v0, hv0⟩ : ∃ v0, w.heap.size = v0 := ⟨_, rfl⟩
  obtain ⟨W0, hW0⟩ : ∃ W0, w.alloc (.cells #[.int .i64 2, .int .i64 10, .int .i64 D, .int .i64 A, .int .i64 B, .int .i32 n, .string ⟨#[]⟩] 23) = W0 := ⟨_, rfl⟩
  have hB0 : Below w.heap.size w W0 := by rw [← hW0]; exact (Below.refl _ _).alloc (Nat.le_refl _) _
  have hLn : LnAt W0 v0 2 10 D A B n ⟨#[]⟩ := by rw [← hW0, ← hv0]; exact LnAt.new _ _ _ _ _ _ _ _ _
  have HL := Lib.hid (And.intro hLn hB0)
  obtain ⟨-, z0, z1, z2, z3, z4, z5, z6⟩ := hLn
  clear hB0
  go_enter Tryd.func14, Tryd.ntmps14
  go_wp2_with (go_at_call 10; (with_reducible refine (HM.out _).mono ?_); rintro e w1 ⟨rfl, hb1⟩
               obtain ⟨V, hV⟩ : ∃ V, (w1.alloc (.cells #[.int .u32 0, .int .u32 55, .int .u32 19, .int .u32 19, .int .u32 19, .int .u32 19, .int .u32 19, .int .u32 19, .int .u32 19, .int .u32 19, .int .u32 19, .int .u32 51, .int .u32 51, .int .u32 51, .int .u32 51, .int .u32 51, .int .u32 51, .int .u32 51, .int .u32 51, .int .u32 51, .int .u32 51, .int .u32 51, .int .u32 51, .int .u32 51, .int .u32 3, .int .u32 35, .int .u32 99, .int .u32 99, .int .u32 111, .int .u32 103, .int .u32 115] 30)).alloc (.cells #[.int .u32 0, .int .u32 0, .int .u32 0, .int .u32 2, .int .u32 3, .int .u32 4, .int .u32 6, .int .u32 7, .int .u32 1, .int .u32 5, .int .u32 5, .int .u32 0, .int .u32 0, .int .u32 1, .int .u32 2, .int .u32 3, .int .u32 4, .int .u32 5, .int .u32 5, .int .u32 6, .int .u32 7, .int .u32 0, .int .u32 4, .int .u32 6, .int .u32 2, .int .u32 2, .int .u32 0, .int .u32 1, .int .u32 0, .int .u32 0, .int .u32 0] 30) = V := ⟨_, rfl⟩
               have hbV : Below W0.heap.size W0 V := by rw [← hV]; exact (hb1.alloc hb1.size _).alloc (Nat.le_trans hb1.size (by simp)) _
               have HV := Lib.hid (And.intro (HL.out.1.below hbV) (HL.out.2.trans (hbV.mono HL.out.2.size)))
               obtain ⟨-, u0, u1, u2, u3, u4, u5, u6⟩ := HL.out.1.below hbV
               obtain ⟨r, hr⟩ : ∃ r, w1.heap.size = r := ⟨_, rfl⟩
               have t0 : V.cell? ⟨r, 10, none⟩ = some (.int .u32 19) := by
                 have h := cell_alloc_at w1 (#[.int .u32 0, .int .u32 55, .int .u32 19, .int .u32 19, .int .u32 19, .int .u32 19, .int .u32 19, .int .u32 19, .int .u32 19, .int .u32 19, .int .u32 19, .int .u32 51, .int .u32 51, .int .u32 51, .int .u32 51, .int .u32 51, .int .u32 51, .int .u32 51, .int .u32 51, .int .u32 51, .int .u32 51, .int .u32 51, .int .u32 51, .int .u32 51, .int .u32 3, .int .u32 35, .int .u32 99, .int .u32 99, .int .u32 111, .int .u32 103, .int .u32 115]) 30 10 _ rfl
                 rw [← hV, ← hr]
                 exact cell_alloc h _
               have t1 : V.cell? ⟨r + 1, 10, none⟩ = some (.int .u32 5) := by
                 have h := cell_alloc_at (w1.alloc (.cells #[.int .u32 0, .int .u32 55, .int .u32 19, .int .u32 19, .int .u32 19, .int .u32 19, .int .u32 19, .int .u32 19, .int .u32 19, .int .u32 19, .int .u32 19, .int .u32 51, .int .u32 51, .int .u32 51, .int .u32 51, .int .u32 51, .int .u32 51, .int .u32 51, .int .u32 51, .int .u32 51, .int .u32 51, .int .u32 51, .int .u32 51, .int .u32 51, .int .u32 3, .int .u32 35, .int .u32 99, .int .u32 99, .int .u32 111, .int .u32 103, .int .u32 115] 30)) (#[.int .u32 0, .int .u32 0, .int .u32 0, .int .u32 2, .int .u32 3, .int .u32 4, .int .u32 6, .int .u32 7, .int .u32 1, .int .u32 5, .int .u32 5, .int .u32 0, .int .u32 0, .int .u32 1, .int .u32 2, .int .u32 3, .int .u32 4, .int .u32 5, .int .u32 5, .int .u32 6, .int .u32 7, .int .u32 0, .int .u32 4, .int .u32 6, .int .u32 2, .int .u32 2, .int .u32 0, .int .u32 1, .int .u32 0, .int .u32 0, .int .u32 0]) 30 10 _ rfl
                 rw [show (w1.alloc (.cells #[.int .u32 0, .int .u32 55, .int .u32 19, .int .u32 19, .int .u32 19, .int .u32 19, .int .u32 19, .int .u32 19, .int .u32 19, .int .u32 19, .int .u32 19, .int .u32 51, .int .u32 51, .int .u32 51, .int .u32 51, .int .u32 51, .int .u32 51, .int .u32 51, .int .u32 51, .int .u32 51, .int .u32 51, .int .u32 51, .int .u32 51, .int .u32 51, .int .u32 3, .int .u32 35, .int .u32 99, .int .u32 99, .int .u32 111, .int .u32 103, .int .u32 115] 30)).heap.size = r + 1 from by rw [← hr]; simp] at h
                 rw [← hV]
                 exact h
               clear hb1 hbV)
  go_big_quiet (fail)
  go_wp2_with (first
    | (go_at_call 29; (with_reducible refine (H1.out _).mono ?_); rintro e w' ⟨rfl, rfl⟩)
    | (go_at_call 29; (with_reducible refine (H2.out _).mono ?_); rintro e w' ⟨rfl, rfl⟩)
    | (go_at_call 29; (with_reducible refine (H3.out _).mono ?_); rintro e w' ⟨rfl, rfl⟩)
    | (go_at_call 29; (with_reducible refine (H4.out _).mono ?_); rintro e w' ⟨rfl, rfl⟩))
  go_ret2
  exact ⟨by rw [HE.out]; rfl, below_drewN HV.out.2 _⟩
theorem ref_11 (D A B N : Nat) : encN 11 D A B N = 51 ||| D * 2 ^ 7 ||| A * 2 ^ 15 ||| B * 2 ^ 20 := by
  have e1 : formN 11 = 2 := by decide
  have e2 : stampW (lowN 11) (midN 11) (highN 11) = 51 := by decide
  unfold encN wordW
  rw [e1, e2, laid_2]
  rw [Nat.or_zero]
set_option maxHeartbeats 1600000 in
theorem rencode_11 (D A B : Nat) (n : Int) (b1 : -2147483648 ≤ n) (b2 : n ≤ 2147483647) (hD : D < 32) (hA : A < 32) (hB : B < 32) (h : mayI ⟨11, D, A, B, n⟩ = true) (w : World) :
    Calls Tryd.prog 14 #[.agg #[.int .i64 2, .int .i64 11, .int .i64 D, .int .i64 A, .int .i64 B, .int .i32 n, .string ⟨#[]⟩]] w fun e w' => e = .returned (.tuple #[.int .u32 (encN 11 D A B (nat32 n) : Nat), .bool true]) ∧ Below w.heap.size w w' := by
  have H := fun w => rmayLine_any 11 D A B n b1 b2 w
  rw [h] at H
  have HM := Lib.hid H
  clear H h
  obtain ⟨x1, hx1⟩ : ∃ x1, layN 51 (nat32 (D : Int)) 0 5 7 = x1 := ⟨_, rfl⟩
  have y1 : x1 < 4294967296 := by rw [← hx1]; exact lay_lt _ _ _ _ _ (by decide) (by decide)
  have K1 : ∀ W, Calls Tryd.prog 29 #[.int .u32 51, .int .i64 D, .int .i64 0, .int .i64 5, .int .i64 7] W fun e w' => e = .returned (.int .u32 x1) ∧ W = w' := fun W => by
    have h := lay_any 51 D 0 5 7 (by decide) (by omega) (by decide) (by decide) W
    rw [hx1] at h
    exact h
  obtain ⟨x2, hx2⟩ : ∃ x, layN x1 (nat32 (A : Int)) 0 5 15 = x := ⟨_, rfl⟩
  have y2 : x2 < 4294967296 := by rw [← hx2]; exact lay_lt _ _ _ _ _ y1 (by decide)
  have K2 : ∀ W, Calls Tryd.prog 29 #[.int .u32 x1, .int .i64 A, .int .i64 0, .int .i64 5, .int .i64 15] W fun e w' => e = .returned (.int .u32 x2) ∧ W = w' := fun W => by
    have h := lay_any x1 A 0 5 15 y1 (by omega) (by decide) (by decide) W
    rw [hx2] at h
    exact h
  obtain ⟨x3, hx3⟩ : ∃ x, layN x2 (nat32 (B : Int)) 0 5 20 = x := ⟨_, rfl⟩
  have y3 : x3 < 4294967296 := by rw [← hx3]; exact lay_lt _ _ _ _ _ y2 (by decide)
  have K3 : ∀ W, Calls Tryd.prog 29 #[.int .u32 x2, .int .i64 B, .int .i64 0, .int .i64 5, .int .i64 20] W fun e w' => e = .returned (.int .u32 x3) ∧ W = w' := fun W => by
    have h := lay_any x2 B 0 5 20 y2 (by omega) (by decide) (by decide) W
    rw [hx3] at h
    exact h
  have HE : Hid (encN 11 D A B (nat32 n) = x3) := Lib.hid (by
    rw [← hx3, ← hx2, ← hx1]
    simp only [lay_reg D hD, lay_reg A hA, lay_reg B hB, layN]
    exact ref_11 D A B (nat32 n))
  have H1 := Lib.hid K1
  have H2 := Lib.hid K2
  have H3 := Lib.hid K3
  clear K1 hx1 y1 K2 hx2 y2 K3 hx3 y3
  obtain ⟨v0, hv0⟩ : ∃ v0, w.heap.size = v0 := ⟨_, rfl⟩
  obtain ⟨W0, hW0⟩ : ∃ W0, w.alloc (.cells #[.int .i64 2, .int .i64 11, .int .i64 D, .int .i64 A, .int .i64 B, .int .i32 n, .string ⟨#[]⟩] 23) = W0 := ⟨_, rfl⟩
  have hB0 : Below w.heap.size w W0 := by rw [← hW0]; exact (Below.refl _ _).alloc (Nat.le_refl _) _
  have hLn : LnAt W0 v0 2 11 D A B n ⟨#[]⟩ := by rw [← hW0, ← hv0]; exact LnAt.new _ _ _ _ _ _ _ _ _
  have HL := Lib.hid (And.intro hLn hB0)
  obtain ⟨-, z0, z1, z2, z3, z4, z5, z6⟩ := hLn
  clear hB0
  go_enter Tryd.func14, Tryd.ntmps14
  go_wp2_with (go_at_call 10; (with_reducible refine (HM.out _).mono ?_); rintro e w1 ⟨rfl, hb1⟩
               obtain ⟨V, hV⟩ : ∃ V, (w1.alloc (.cells #[.int .u32 0, .int .u32 55, .int .u32 19, .int .u32 19, .int .u32 19, .int .u32 19, .int .u32 19, .int .u32 19, .int .u32 19, .int .u32 19, .int .u32 19, .int .u32 51, .int .u32 51, .int .u32 51, .int .u32 51, .int .u32 51, .int .u32 51, .int .u32 51, .int .u32 51, .int .u32 51, .int .u32 51, .int .u32 51, .int .u32 51, .int .u32 51, .int .u32 3, .int .u32 35, .int .u32 99, .int .u32 99, .int .u32 111, .int .u32 103, .int .u32 115] 30)).alloc (.cells #[.int .u32 0, .int .u32 0, .int .u32 0, .int .u32 2, .int .u32 3, .int .u32 4, .int .u32 6, .int .u32 7, .int .u32 1, .int .u32 5, .int .u32 5, .int .u32 0, .int .u32 0, .int .u32 1, .int .u32 2, .int .u32 3, .int .u32 4, .int .u32 5, .int .u32 5, .int .u32 6, .int .u32 7, .int .u32 0, .int .u32 4, .int .u32 6, .int .u32 2, .int .u32 2, .int .u32 0, .int .u32 1, .int .u32 0, .int .u32 0, .int .u32 0] 30) = V := ⟨_, rfl⟩
               have hbV : Below W0.heap.size W0 V := by rw [← hV]; exact (hb1.alloc hb1.size _).alloc (Nat.le_trans hb1.size (by simp)) _
               have HV := Lib.hid (And.intro (HL.out.1.below hbV) (HL.out.2.trans (hbV.mono HL.out.2.size)))
               obtain ⟨-, u0, u1, u2, u3, u4, u5, u6⟩ := HL.out.1.below hbV
               obtain ⟨r, hr⟩ : ∃ r, w1.heap.size = r := ⟨_, rfl⟩
               have t0 : V.cell? ⟨r, 11, none⟩ = some (.int .u32 51) := by
                 have h := cell_alloc_at w1 (#[.int .u32 0, .int .u32 55, .int .u32 19, .int .u32 19, .int .u32 19, .int .u32 19, .int .u32 19, .int .u32 19, .int .u32 19, .int .u32 19, .int .u32 19, .int .u32 51, .int .u32 51, .int .u32 51, .int .u32 51, .int .u32 51, .int .u32 51, .int .u32 51, .int .u32 51, .int .u32 51, .int .u32 51, .int .u32 51, .int .u32 51, .int .u32 51, .int .u32 3, .int .u32 35, .int .u32 99, .int .u32 99, .int .u32 111, .int .u32 103, .int .u32 115]) 30 11 _ rfl
                 rw [← hV, ← hr]
                 exact cell_alloc h _
               have t1 : V.cell? ⟨r + 1, 11, none⟩ = some (.int .u32 0) := by
                 have h := cell_alloc_at (w1.alloc (.cells #[.int .u32 0, .int .u32 55, .int .u32 19, .int .u32 19, .int .u32 19, .int .u32 19, .int .u32 19, .int .u32 19, .int .u32 19, .int .u32 19, .int .u32 19, .int .u32 51, .int .u32 51, .int .u32 51, .int .u32 51, .int .u32 51, .int .u32 51, .int .u32 51, .int .u32 51, .int .u32 51, .int .u32 51, .int .u32 51, .int .u32 51, .int .u32 51, .int .u32 3, .int .u32 35, .int .u32 99, .int .u32 99, .int .u32 111, .int .u32 103, .int .u32 115] 30)) (#[.int .u32 0, .int .u32 0, .int .u32 0, .int .u32 2, .int .u32 3, .int .u32 4, .int .u32 6, .int .u32 7, .int .u32 1, .int .u32 5, .int .u32 5, .int .u32 0, .int .u32 0, .int .u32 1, .int .u32 2, .int .u32 3, .int .u32 4, .int .u32 5, .int .u32 5, .int .u32 6, .int .u32 7, .int .u32 0, .int .u32 4, .int .u32 6, .int .u32 2, .int .u32 2, .int .u32 0, .int .u32 1, .int .u32 0, .int .u32 0, .int .u32 0]) 30 11 _ rfl
                 rw [show (w1.alloc (.cells #[.int .u32 0, .int .u32 55, .int .u32 19, .int .u32 19, .int .u32 19, .int .u32 19, .int .u32 19, .int .u32 19, .int .u32 19, .int .u32 19, .int .u32 19, .int .u32 51, .int .u32 51, .int .u32 51, .int .u32 51, .int .u32 51, .int .u32 51, .int .u32 51, .int .u32 51, .int .u32 51, .int .u32 51, .int .u32 51, .int .u32 51, .int .u32 51, .int .u32 3, .int .u32 35, .int .u32 99, .int .u32 99, .int .u32 111, .int .u32 103, .int .u32 115] 30)).heap.size = r + 1 from by rw [← hr]; simp] at h
                 rw [← hV]
                 exact h
               clear hb1 hbV)
  go_big_quiet (fail)
  go_wp2_with (first
    | (go_at_call 29; (with_reducible refine (H1.out _).mono ?_); rintro e w' ⟨rfl, rfl⟩)
    | (go_at_call 29; (with_reducible refine (H2.out _).mono ?_); rintro e w' ⟨rfl, rfl⟩)
    | (go_at_call 29; (with_reducible refine (H3.out _).mono ?_); rintro e w' ⟨rfl, rfl⟩))
  go_ret2
  exact ⟨by rw [HE.out]; rfl, below_drewN HV.out.2 _⟩
theorem ref_12 (D A B N : Nat) : encN 12 D A B N = (51 ||| D * 2 ^ 7 ||| A * 2 ^ 15 ||| B * 2 ^ 20) ||| 1073741824 := by
  have e1 : formN 12 = 2 := by decide
  have e2 : stampW (lowN 12) (midN 12) (highN 12) = 1073741875 := by decide
  unfold encN wordW
  rw [e1, e2, laid_2]
  rw [show (1073741875 : Nat) = 51 ||| 1073741824 from by decide]
  rw [Nat.or_zero]
  ac_rfl
set_option maxHeartbeats 1600000 in
theorem rencode_12 (D A B : Nat) (n : Int) (b1 : -2147483648 ≤ n) (b2 : n ≤ 2147483647) (hD : D < 32) (hA : A < 32) (hB : B < 32) (h : mayI ⟨12, D, A, B, n⟩ = true) (w : World) :
    Calls Tryd.prog 14 #[.agg #[.int .i64 2, .int .i64 12, .int .i64 D, .int .i64 A, .int .i64 B, .int .i32 n, .string ⟨#[]⟩]] w fun e w' => e = .returned (.tuple #[.int .u32 (encN 12 D A B (nat32 n) : Nat), .bool true]) ∧ Below w.heap.size w w' := by
  have H := fun w => rmayLine_any 12 D A B n b1 b2 w
  rw [h] at H
  have HM := Lib.hid H
  clear H h
  obtain ⟨x1, hx1⟩ : ∃ x1, layN 51 (nat32 (D : Int)) 0 5 7 = x1 := ⟨_, rfl⟩
  have y1 : x1 < 4294967296 := by rw [← hx1]; exact lay_lt _ _ _ _ _ (by decide) (by decide)
  have K1 : ∀ W, Calls Tryd.prog 29 #[.int .u32 51, .int .i64 D, .int .i64 0, .int .i64 5, .int .i64 7] W fun e w' => e = .returned (.int .u32 x1) ∧ W = w' := fun W => by
    have h := lay_any 51 D 0 5 7 (by decide) (by omega) (by decide) (by decide) W
    rw [hx1] at h
    exact h
  obtain ⟨x2, hx2⟩ : ∃ x, layN x1 (nat32 (A : Int)) 0 5 15 = x := ⟨_, rfl⟩
  have y2 : x2 < 4294967296 := by rw [← hx2]; exact lay_lt _ _ _ _ _ y1 (by decide)
  have K2 : ∀ W, Calls Tryd.prog 29 #[.int .u32 x1, .int .i64 A, .int .i64 0, .int .i64 5, .int .i64 15] W fun e w' => e = .returned (.int .u32 x2) ∧ W = w' := fun W => by
    have h := lay_any x1 A 0 5 15 y1 (by omega) (by decide) (by decide) W
    rw [hx2] at h
    exact h
  obtain ⟨x3, hx3⟩ : ∃ x, layN x2 (nat32 (B : Int)) 0 5 20 = x := ⟨_, rfl⟩
  have y3 : x3 < 4294967296 := by rw [← hx3]; exact lay_lt _ _ _ _ _ y2 (by decide)
  have K3 : ∀ W, Calls Tryd.prog 29 #[.int .u32 x2, .int .i64 B, .int .i64 0, .int .i64 5, .int .i64 20] W fun e w' => e = .returned (.int .u32 x3) ∧ W = w' := fun W => by
    have h := lay_any x2 B 0 5 20 y2 (by omega) (by decide) (by decide) W
    rw [hx3] at h
    exact h
  obtain ⟨x4, hx4⟩ : ∃ x, x3 ||| 1073741824 = x := ⟨_, rfl⟩
  have O1 : bits .or .u32 (x3 : Int) 1073741824 = (x4 : Int) := by
    have h := u32_or_nat x3 1073741824 y3 (by decide)
    rw [hx4] at h
    exact h
  have HE : Hid (encN 12 D A B (nat32 n) = x4) := Lib.hid (by
    rw [← hx4, ← hx3, ← hx2, ← hx1]
    simp only [lay_reg D hD, lay_reg A hA, lay_reg B hB, layN]
    exact ref_12 D A B (nat32 n))
  have H1 := Lib.hid K1
  have H2 := Lib.hid K2
  have H3 := Lib.hid K3
  clear K1 hx1 y1 K2 hx2 y2 K3 hx3 y3 hx4
  obtain ⟨v0, hv0⟩ : ∃ v0, w.heap.size = v0 := ⟨_, rfl⟩
  obtain ⟨W0, hW0⟩ : ∃ W0, w.alloc (.cells #[.int .i64 2, .int .i64 12, .int .i64 D, .int .i64 A, .int .i64 B, .int .i32 n, .string ⟨#[]⟩] 23) = W0 := ⟨_, rfl⟩
  have hB0 : Below w.heap.size w W0 := by rw [← hW0]; exact (Below.refl _ _).alloc (Nat.le_refl _) _
  have hLn : LnAt W0 v0 2 12 D A B n ⟨#[]⟩ := by rw [← hW0, ← hv0]; exact LnAt.new _ _ _ _ _ _ _ _ _
  have HL := Lib.hid (And.intro hLn hB0)
  obtain ⟨-, z0, z1, z2, z3, z4, z5, z6⟩ := hLn
  clear hB0
  go_enter Tryd.func14, Tryd.ntmps14
  go_wp2_with (go_at_call 10; (with_reducible refine (HM.out _).mono ?_); rintro e w1 ⟨rfl, hb1⟩
               obtain ⟨V, hV⟩ : ∃ V, (w1.alloc (.cells #[.int .u32 0, .int .u32 55, .int .u32 19, .int .u32 19, .int .u32 19, .int .u32 19, .int .u32 19, .int .u32 19, .int .u32 19, .int .u32 19, .int .u32 19, .int .u32 51, .int .u32 51, .int .u32 51, .int .u32 51, .int .u32 51, .int .u32 51, .int .u32 51, .int .u32 51, .int .u32 51, .int .u32 51, .int .u32 51, .int .u32 51, .int .u32 51, .int .u32 3, .int .u32 35, .int .u32 99, .int .u32 99, .int .u32 111, .int .u32 103, .int .u32 115] 30)).alloc (.cells #[.int .u32 0, .int .u32 0, .int .u32 0, .int .u32 2, .int .u32 3, .int .u32 4, .int .u32 6, .int .u32 7, .int .u32 1, .int .u32 5, .int .u32 5, .int .u32 0, .int .u32 0, .int .u32 1, .int .u32 2, .int .u32 3, .int .u32 4, .int .u32 5, .int .u32 5, .int .u32 6, .int .u32 7, .int .u32 0, .int .u32 4, .int .u32 6, .int .u32 2, .int .u32 2, .int .u32 0, .int .u32 1, .int .u32 0, .int .u32 0, .int .u32 0] 30) = V := ⟨_, rfl⟩
               have hbV : Below W0.heap.size W0 V := by rw [← hV]; exact (hb1.alloc hb1.size _).alloc (Nat.le_trans hb1.size (by simp)) _
               have HV := Lib.hid (And.intro (HL.out.1.below hbV) (HL.out.2.trans (hbV.mono HL.out.2.size)))
               obtain ⟨-, u0, u1, u2, u3, u4, u5, u6⟩ := HL.out.1.below hbV
               obtain ⟨r, hr⟩ : ∃ r, w1.heap.size = r := ⟨_, rfl⟩
               have t0 : V.cell? ⟨r, 12, none⟩ = some (.int .u32 51) := by
                 have h := cell_alloc_at w1 (#[.int .u32 0, .int .u32 55, .int .u32 19, .int .u32 19, .int .u32 19, .int .u32 19, .int .u32 19, .int .u32 19, .int .u32 19, .int .u32 19, .int .u32 19, .int .u32 51, .int .u32 51, .int .u32 51, .int .u32 51, .int .u32 51, .int .u32 51, .int .u32 51, .int .u32 51, .int .u32 51, .int .u32 51, .int .u32 51, .int .u32 51, .int .u32 51, .int .u32 3, .int .u32 35, .int .u32 99, .int .u32 99, .int .u32 111, .int .u32 103, .int .u32 115]) 30 12 _ rfl
                 rw [← hV, ← hr]
                 exact cell_alloc h _
               have t1 : V.cell? ⟨r + 1, 12, none⟩ = some (.int .u32 0) := by
                 have h := cell_alloc_at (w1.alloc (.cells #[.int .u32 0, .int .u32 55, .int .u32 19, .int .u32 19, .int .u32 19, .int .u32 19, .int .u32 19, .int .u32 19, .int .u32 19, .int .u32 19, .int .u32 19, .int .u32 51, .int .u32 51, .int .u32 51, .int .u32 51, .int .u32 51, .int .u32 51, .int .u32 51, .int .u32 51, .int .u32 51, .int .u32 51, .int .u32 51, .int .u32 51, .int .u32 51, .int .u32 3, .int .u32 35, .int .u32 99, .int .u32 99, .int .u32 111, .int .u32 103, .int .u32 115] 30)) (#[.int .u32 0, .int .u32 0, .int .u32 0, .int .u32 2, .int .u32 3, .int .u32 4, .int .u32 6, .int .u32 7, .int .u32 1, .int .u32 5, .int .u32 5, .int .u32 0, .int .u32 0, .int .u32 1, .int .u32 2, .int .u32 3, .int .u32 4, .int .u32 5, .int .u32 5, .int .u32 6, .int .u32 7, .int .u32 0, .int .u32 4, .int .u32 6, .int .u32 2, .int .u32 2, .int .u32 0, .int .u32 1, .int .u32 0, .int .u32 0, .int .u32 0]) 30 12 _ rfl
                 rw [show (w1.alloc (.cells #[.int .u32 0, .int .u32 55, .int .u32 19, .int .u32 19, .int .u32 19, .int .u32 19, .int .u32 19, .int .u32 19, .int .u32 19, .int .u32 19, .int .u32 19, .int .u32 51, .int .u32 51, .int .u32 51, .int .u32 51, .int .u32 51, .int .u32 51, .int .u32 51, .int .u32 51, .int .u32 51, .int .u32 51, .int .u32 51, .int .u32 51, .int .u32 51, .int .u32 3, .int .u32 35, .int .u32 99, .int .u32 99, .int .u32 111, .int .u32 103, .int .u32 115] 30)).heap.size = r + 1 from by rw [← hr]; simp] at h
                 rw [← hV]
                 exact h
               clear hb1 hbV)
  go_big_quiet (fail)
  go_wp2_with (first
    | (go_at_call 29; (with_reducible refine (H1.out _).mono ?_); rintro e w' ⟨rfl, rfl⟩)
    | (go_at_call 29; (with_reducible refine (H2.out _).mono ?_); rintro e w' ⟨rfl, rfl⟩)
    | (go_at_call 29; (with_reducible refine (H3.out _).mono ?_); rintro e w' ⟨rfl, rfl⟩))
  go_ret2
  exact ⟨by rw [HE.out]; rfl, below_drewN HV.out.2 _⟩
theorem ref_13 (D A B N : Nat) : encN 13 D A B N = 4147 ||| D * 2 ^ 7 ||| A * 2 ^ 15 ||| B * 2 ^ 20 := by
  have e1 : formN 13 = 2 := by decide
  have e2 : stampW (lowN 13) (midN 13) (highN 13) = 4147 := by decide
  unfold encN wordW
  rw [e1, e2, laid_2]
  rw [Nat.or_zero]
set_option maxHeartbeats 1600000 in
theorem rencode_13 (D A B : Nat) (n : Int) (b1 : -2147483648 ≤ n) (b2 : n ≤ 2147483647) (hD : D < 32) (hA : A < 32) (hB : B < 32) (h : mayI ⟨13, D, A, B, n⟩ = true) (w : World) :
    Calls Tryd.prog 14 #[.agg #[.int .i64 2, .int .i64 13, .int .i64 D, .int .i64 A, .int .i64 B, .int .i32 n, .string ⟨#[]⟩]] w fun e w' => e = .returned (.tuple #[.int .u32 (encN 13 D A B (nat32 n) : Nat), .bool true]) ∧ Below w.heap.size w w' := by
  have H := fun w => rmayLine_any 13 D A B n b1 b2 w
  rw [h] at H
  have HM := Lib.hid H
  clear H h
  obtain ⟨x1, hx1⟩ : ∃ x1, layN 4147 (nat32 (D : Int)) 0 5 7 = x1 := ⟨_, rfl⟩
  have y1 : x1 < 4294967296 := by rw [← hx1]; exact lay_lt _ _ _ _ _ (by decide) (by decide)
  have K1 : ∀ W, Calls Tryd.prog 29 #[.int .u32 4147, .int .i64 D, .int .i64 0, .int .i64 5, .int .i64 7] W fun e w' => e = .returned (.int .u32 x1) ∧ W = w' := fun W => by
    have h := lay_any 4147 D 0 5 7 (by decide) (by omega) (by decide) (by decide) W
    rw [hx1] at h
    exact h
  obtain ⟨x2, hx2⟩ : ∃ x, layN x1 (nat32 (A : Int)) 0 5 15 = x := ⟨_, rfl⟩
  have y2 : x2 < 4294967296 := by rw [← hx2]; exact lay_lt _ _ _ _ _ y1 (by decide)
  have K2 : ∀ W, Calls Tryd.prog 29 #[.int .u32 x1, .int .i64 A, .int .i64 0, .int .i64 5, .int .i64 15] W fun e w' => e = .returned (.int .u32 x2) ∧ W = w' := fun W => by
    have h := lay_any x1 A 0 5 15 y1 (by omega) (by decide) (by decide) W
    rw [hx2] at h
    exact h
  obtain ⟨x3, hx3⟩ : ∃ x, layN x2 (nat32 (B : Int)) 0 5 20 = x := ⟨_, rfl⟩
  have y3 : x3 < 4294967296 := by rw [← hx3]; exact lay_lt _ _ _ _ _ y2 (by decide)
  have K3 : ∀ W, Calls Tryd.prog 29 #[.int .u32 x2, .int .i64 B, .int .i64 0, .int .i64 5, .int .i64 20] W fun e w' => e = .returned (.int .u32 x3) ∧ W = w' := fun W => by
    have h := lay_any x2 B 0 5 20 y2 (by omega) (by decide) (by decide) W
    rw [hx3] at h
    exact h
  have HE : Hid (encN 13 D A B (nat32 n) = x3) := Lib.hid (by
    rw [← hx3, ← hx2, ← hx1]
    simp only [lay_reg D hD, lay_reg A hA, lay_reg B hB, layN]
    exact ref_13 D A B (nat32 n))
  have H1 := Lib.hid K1
  have H2 := Lib.hid K2
  have H3 := Lib.hid K3
  clear K1 hx1 y1 K2 hx2 y2 K3 hx3 y3
  obtain ⟨v0, hv0⟩ : ∃ v0, w.heap.size = v0 := ⟨_, rfl⟩
  obtain ⟨W0, hW0⟩ : ∃ W0, w.alloc (.cells #[.int .i64 2, .int .i64 13, .int .i64 D, .int .i64 A, .int .i64 B, .int .i32 n, .string ⟨#[]⟩] 23) = W0 := ⟨_, rfl⟩
  have hB0 : Below w.heap.size w W0 := by rw [← hW0]; exact (Below.refl _ _).alloc (Nat.le_refl _) _
  have hLn : LnAt W0 v0 2 13 D A B n ⟨#[]⟩ := by rw [← hW0, ← hv0]; exact LnAt.new _ _ _ _ _ _ _ _ _
  have HL := Lib.hid (And.intro hLn hB0)
  obtain ⟨-, z0, z1, z2, z3, z4, z5, z6⟩ := hLn
  clear hB0
  go_enter Tryd.func14, Tryd.ntmps14
  go_wp2_with (go_at_call 10; (with_reducible refine (HM.out _).mono ?_); rintro e w1 ⟨rfl, hb1⟩
               obtain ⟨V, hV⟩ : ∃ V, (w1.alloc (.cells #[.int .u32 0, .int .u32 55, .int .u32 19, .int .u32 19, .int .u32 19, .int .u32 19, .int .u32 19, .int .u32 19, .int .u32 19, .int .u32 19, .int .u32 19, .int .u32 51, .int .u32 51, .int .u32 51, .int .u32 51, .int .u32 51, .int .u32 51, .int .u32 51, .int .u32 51, .int .u32 51, .int .u32 51, .int .u32 51, .int .u32 51, .int .u32 51, .int .u32 3, .int .u32 35, .int .u32 99, .int .u32 99, .int .u32 111, .int .u32 103, .int .u32 115] 30)).alloc (.cells #[.int .u32 0, .int .u32 0, .int .u32 0, .int .u32 2, .int .u32 3, .int .u32 4, .int .u32 6, .int .u32 7, .int .u32 1, .int .u32 5, .int .u32 5, .int .u32 0, .int .u32 0, .int .u32 1, .int .u32 2, .int .u32 3, .int .u32 4, .int .u32 5, .int .u32 5, .int .u32 6, .int .u32 7, .int .u32 0, .int .u32 4, .int .u32 6, .int .u32 2, .int .u32 2, .int .u32 0, .int .u32 1, .int .u32 0, .int .u32 0, .int .u32 0] 30) = V := ⟨_, rfl⟩
               have hbV : Below W0.heap.size W0 V := by rw [← hV]; exact (hb1.alloc hb1.size _).alloc (Nat.le_trans hb1.size (by simp)) _
               have HV := Lib.hid (And.intro (HL.out.1.below hbV) (HL.out.2.trans (hbV.mono HL.out.2.size)))
               obtain ⟨-, u0, u1, u2, u3, u4, u5, u6⟩ := HL.out.1.below hbV
               obtain ⟨r, hr⟩ : ∃ r, w1.heap.size = r := ⟨_, rfl⟩
               have t0 : V.cell? ⟨r, 13, none⟩ = some (.int .u32 51) := by
                 have h := cell_alloc_at w1 (#[.int .u32 0, .int .u32 55, .int .u32 19, .int .u32 19, .int .u32 19, .int .u32 19, .int .u32 19, .int .u32 19, .int .u32 19, .int .u32 19, .int .u32 19, .int .u32 51, .int .u32 51, .int .u32 51, .int .u32 51, .int .u32 51, .int .u32 51, .int .u32 51, .int .u32 51, .int .u32 51, .int .u32 51, .int .u32 51, .int .u32 51, .int .u32 51, .int .u32 3, .int .u32 35, .int .u32 99, .int .u32 99, .int .u32 111, .int .u32 103, .int .u32 115]) 30 13 _ rfl
                 rw [← hV, ← hr]
                 exact cell_alloc h _
               have t1 : V.cell? ⟨r + 1, 13, none⟩ = some (.int .u32 1) := by
                 have h := cell_alloc_at (w1.alloc (.cells #[.int .u32 0, .int .u32 55, .int .u32 19, .int .u32 19, .int .u32 19, .int .u32 19, .int .u32 19, .int .u32 19, .int .u32 19, .int .u32 19, .int .u32 19, .int .u32 51, .int .u32 51, .int .u32 51, .int .u32 51, .int .u32 51, .int .u32 51, .int .u32 51, .int .u32 51, .int .u32 51, .int .u32 51, .int .u32 51, .int .u32 51, .int .u32 51, .int .u32 3, .int .u32 35, .int .u32 99, .int .u32 99, .int .u32 111, .int .u32 103, .int .u32 115] 30)) (#[.int .u32 0, .int .u32 0, .int .u32 0, .int .u32 2, .int .u32 3, .int .u32 4, .int .u32 6, .int .u32 7, .int .u32 1, .int .u32 5, .int .u32 5, .int .u32 0, .int .u32 0, .int .u32 1, .int .u32 2, .int .u32 3, .int .u32 4, .int .u32 5, .int .u32 5, .int .u32 6, .int .u32 7, .int .u32 0, .int .u32 4, .int .u32 6, .int .u32 2, .int .u32 2, .int .u32 0, .int .u32 1, .int .u32 0, .int .u32 0, .int .u32 0]) 30 13 _ rfl
                 rw [show (w1.alloc (.cells #[.int .u32 0, .int .u32 55, .int .u32 19, .int .u32 19, .int .u32 19, .int .u32 19, .int .u32 19, .int .u32 19, .int .u32 19, .int .u32 19, .int .u32 19, .int .u32 51, .int .u32 51, .int .u32 51, .int .u32 51, .int .u32 51, .int .u32 51, .int .u32 51, .int .u32 51, .int .u32 51, .int .u32 51, .int .u32 51, .int .u32 51, .int .u32 51, .int .u32 3, .int .u32 35, .int .u32 99, .int .u32 99, .int .u32 111, .int .u32 103, .int .u32 115] 30)).heap.size = r + 1 from by rw [← hr]; simp] at h
                 rw [← hV]
                 exact h
               clear hb1 hbV)
  go_big_quiet (fail)
  go_wp2_with (first
    | (go_at_call 29; (with_reducible refine (H1.out _).mono ?_); rintro e w' ⟨rfl, rfl⟩)
    | (go_at_call 29; (with_reducible refine (H2.out _).mono ?_); rintro e w' ⟨rfl, rfl⟩)
    | (go_at_call 29; (with_reducible refine (H3.out _).mono ?_); rintro e w' ⟨rfl, rfl⟩))
  go_ret2
  exact ⟨by rw [HE.out]; rfl, below_drewN HV.out.2 _⟩
theorem ref_14 (D A B N : Nat) : encN 14 D A B N = 8243 ||| D * 2 ^ 7 ||| A * 2 ^ 15 ||| B * 2 ^ 20 := by
  have e1 : formN 14 = 2 := by decide
  have e2 : stampW (lowN 14) (midN 14) (highN 14) = 8243 := by decide
  unfold encN wordW
  rw [e1, e2, laid_2]
  rw [Nat.or_zero]
set_option maxHeartbeats 1600000 in
theorem rencode_14 (D A B : Nat) (n : Int) (b1 : -2147483648 ≤ n) (b2 : n ≤ 2147483647) (hD : D < 32) (hA : A < 32) (hB : B < 32) (h : mayI ⟨14, D, A, B, n⟩ = true) (w : World) :
    Calls Tryd.prog 14 #[.agg #[.int .i64 2, .int .i64 14, .int .i64 D, .int .i64 A, .int .i64 B, .int .i32 n, .string ⟨#[]⟩]] w fun e w' => e = .returned (.tuple #[.int .u32 (encN 14 D A B (nat32 n) : Nat), .bool true]) ∧ Below w.heap.size w w' := by
  have H := fun w => rmayLine_any 14 D A B n b1 b2 w
  rw [h] at H
  have HM := Lib.hid H
  clear H h
  obtain ⟨x1, hx1⟩ : ∃ x1, layN 8243 (nat32 (D : Int)) 0 5 7 = x1 := ⟨_, rfl⟩
  have y1 : x1 < 4294967296 := by rw [← hx1]; exact lay_lt _ _ _ _ _ (by decide) (by decide)
  have K1 : ∀ W, Calls Tryd.prog 29 #[.int .u32 8243, .int .i64 D, .int .i64 0, .int .i64 5, .int .i64 7] W fun e w' => e = .returned (.int .u32 x1) ∧ W = w' := fun W => by
    have h := lay_any 8243 D 0 5 7 (by decide) (by omega) (by decide) (by decide) W
    rw [hx1] at h
    exact h
  obtain ⟨x2, hx2⟩ : ∃ x, layN x1 (nat32 (A : Int)) 0 5 15 = x := ⟨_, rfl⟩
  have y2 : x2 < 4294967296 := by rw [← hx2]; exact lay_lt _ _ _ _ _ y1 (by decide)
  have K2 : ∀ W, Calls Tryd.prog 29 #[.int .u32 x1, .int .i64 A, .int .i64 0, .int .i64 5, .int .i64 15] W fun e w' => e = .returned (.int .u32 x2) ∧ W = w' := fun W => by
    have h := lay_any x1 A 0 5 15 y1 (by omega) (by decide) (by decide) W
    rw [hx2] at h
    exact h
  obtain ⟨x3, hx3⟩ : ∃ x, layN x2 (nat32 (B : Int)) 0 5 20 = x := ⟨_, rfl⟩
  have y3 : x3 < 4294967296 := by rw [← hx3]; exact lay_lt _ _ _ _ _ y2 (by decide)
  have K3 : ∀ W, Calls Tryd.prog 29 #[.int .u32 x2, .int .i64 B, .int .i64 0, .int .i64 5, .int .i64 20] W fun e w' => e = .returned (.int .u32 x3) ∧ W = w' := fun W => by
    have h := lay_any x2 B 0 5 20 y2 (by omega) (by decide) (by decide) W
    rw [hx3] at h
    exact h
  have HE : Hid (encN 14 D A B (nat32 n) = x3) := Lib.hid (by
    rw [← hx3, ← hx2, ← hx1]
    simp only [lay_reg D hD, lay_reg A hA, lay_reg B hB, layN]
    exact ref_14 D A B (nat32 n))
  have H1 := Lib.hid K1
  have H2 := Lib.hid K2
  have H3 := Lib.hid K3
  clear K1 hx1 y1 K2 hx2 y2 K3 hx3 y3
  obtain ⟨v0, hv0⟩ : ∃ v0, w.heap.size = v0 := ⟨_, rfl⟩
  obtain ⟨W0, hW0⟩ : ∃ W0, w.alloc (.cells #[.int .i64 2, .int .i64 14, .int .i64 D, .int .i64 A, .int .i64 B, .int .i32 n, .string ⟨#[]⟩] 23) = W0 := ⟨_, rfl⟩
  have hB0 : Below w.heap.size w W0 := by rw [← hW0]; exact (Below.refl _ _).alloc (Nat.le_refl _) _
  have hLn : LnAt W0 v0 2 14 D A B n ⟨#[]⟩ := by rw [← hW0, ← hv0]; exact LnAt.new _ _ _ _ _ _ _ _ _
  have HL := Lib.hid (And.intro hLn hB0)
  obtain ⟨-, z0, z1, z2, z3, z4, z5, z6⟩ := hLn
  clear hB0
  go_enter Tryd.func14, Tryd.ntmps14
  go_wp2_with (go_at_call 10; (with_reducible refine (HM.out _).mono ?_); rintro e w1 ⟨rfl, hb1⟩
               obtain ⟨V, hV⟩ : ∃ V, (w1.alloc (.cells #[.int .u32 0, .int .u32 55, .int .u32 19, .int .u32 19, .int .u32 19, .int .u32 19, .int .u32 19, .int .u32 19, .int .u32 19, .int .u32 19, .int .u32 19, .int .u32 51, .int .u32 51, .int .u32 51, .int .u32 51, .int .u32 51, .int .u32 51, .int .u32 51, .int .u32 51, .int .u32 51, .int .u32 51, .int .u32 51, .int .u32 51, .int .u32 51, .int .u32 3, .int .u32 35, .int .u32 99, .int .u32 99, .int .u32 111, .int .u32 103, .int .u32 115] 30)).alloc (.cells #[.int .u32 0, .int .u32 0, .int .u32 0, .int .u32 2, .int .u32 3, .int .u32 4, .int .u32 6, .int .u32 7, .int .u32 1, .int .u32 5, .int .u32 5, .int .u32 0, .int .u32 0, .int .u32 1, .int .u32 2, .int .u32 3, .int .u32 4, .int .u32 5, .int .u32 5, .int .u32 6, .int .u32 7, .int .u32 0, .int .u32 4, .int .u32 6, .int .u32 2, .int .u32 2, .int .u32 0, .int .u32 1, .int .u32 0, .int .u32 0, .int .u32 0] 30) = V := ⟨_, rfl⟩
               have hbV : Below W0.heap.size W0 V := by rw [← hV]; exact (hb1.alloc hb1.size _).alloc (Nat.le_trans hb1.size (by simp)) _
               have HV := Lib.hid (And.intro (HL.out.1.below hbV) (HL.out.2.trans (hbV.mono HL.out.2.size)))
               obtain ⟨-, u0, u1, u2, u3, u4, u5, u6⟩ := HL.out.1.below hbV
               obtain ⟨r, hr⟩ : ∃ r, w1.heap.size = r := ⟨_, rfl⟩
               have t0 : V.cell? ⟨r, 14, none⟩ = some (.int .u32 51) := by
                 have h := cell_alloc_at w1 (#[.int .u32 0, .int .u32 55, .int .u32 19, .int .u32 19, .int .u32 19, .int .u32 19, .int .u32 19, .int .u32 19, .int .u32 19, .int .u32 19, .int .u32 19, .int .u32 51, .int .u32 51, .int .u32 51, .int .u32 51, .int .u32 51, .int .u32 51, .int .u32 51, .int .u32 51, .int .u32 51, .int .u32 51, .int .u32 51, .int .u32 51, .int .u32 51, .int .u32 3, .int .u32 35, .int .u32 99, .int .u32 99, .int .u32 111, .int .u32 103, .int .u32 115]) 30 14 _ rfl
                 rw [← hV, ← hr]
                 exact cell_alloc h _
               have t1 : V.cell? ⟨r + 1, 14, none⟩ = some (.int .u32 2) := by
                 have h := cell_alloc_at (w1.alloc (.cells #[.int .u32 0, .int .u32 55, .int .u32 19, .int .u32 19, .int .u32 19, .int .u32 19, .int .u32 19, .int .u32 19, .int .u32 19, .int .u32 19, .int .u32 19, .int .u32 51, .int .u32 51, .int .u32 51, .int .u32 51, .int .u32 51, .int .u32 51, .int .u32 51, .int .u32 51, .int .u32 51, .int .u32 51, .int .u32 51, .int .u32 51, .int .u32 51, .int .u32 3, .int .u32 35, .int .u32 99, .int .u32 99, .int .u32 111, .int .u32 103, .int .u32 115] 30)) (#[.int .u32 0, .int .u32 0, .int .u32 0, .int .u32 2, .int .u32 3, .int .u32 4, .int .u32 6, .int .u32 7, .int .u32 1, .int .u32 5, .int .u32 5, .int .u32 0, .int .u32 0, .int .u32 1, .int .u32 2, .int .u32 3, .int .u32 4, .int .u32 5, .int .u32 5, .int .u32 6, .int .u32 7, .int .u32 0, .int .u32 4, .int .u32 6, .int .u32 2, .int .u32 2, .int .u32 0, .int .u32 1, .int .u32 0, .int .u32 0, .int .u32 0]) 30 14 _ rfl
                 rw [show (w1.alloc (.cells #[.int .u32 0, .int .u32 55, .int .u32 19, .int .u32 19, .int .u32 19, .int .u32 19, .int .u32 19, .int .u32 19, .int .u32 19, .int .u32 19, .int .u32 19, .int .u32 51, .int .u32 51, .int .u32 51, .int .u32 51, .int .u32 51, .int .u32 51, .int .u32 51, .int .u32 51, .int .u32 51, .int .u32 51, .int .u32 51, .int .u32 51, .int .u32 51, .int .u32 3, .int .u32 35, .int .u32 99, .int .u32 99, .int .u32 111, .int .u32 103, .int .u32 115] 30)).heap.size = r + 1 from by rw [← hr]; simp] at h
                 rw [← hV]
                 exact h
               clear hb1 hbV)
  go_big_quiet (fail)
  go_wp2_with (first
    | (go_at_call 29; (with_reducible refine (H1.out _).mono ?_); rintro e w' ⟨rfl, rfl⟩)
    | (go_at_call 29; (with_reducible refine (H2.out _).mono ?_); rintro e w' ⟨rfl, rfl⟩)
    | (go_at_call 29; (with_reducible refine (H3.out _).mono ?_); rintro e w' ⟨rfl, rfl⟩))
  go_ret2
  exact ⟨by rw [HE.out]; rfl, below_drewN HV.out.2 _⟩
theorem ref_15 (D A B N : Nat) : encN 15 D A B N = 12339 ||| D * 2 ^ 7 ||| A * 2 ^ 15 ||| B * 2 ^ 20 := by
  have e1 : formN 15 = 2 := by decide
  have e2 : stampW (lowN 15) (midN 15) (highN 15) = 12339 := by decide
  unfold encN wordW
  rw [e1, e2, laid_2]
  rw [Nat.or_zero]
set_option maxHeartbeats 1600000 in
theorem rencode_15 (D A B : Nat) (n : Int) (b1 : -2147483648 ≤ n) (b2 : n ≤ 2147483647) (hD : D < 32) (hA : A < 32) (hB : B < 32) (h : mayI ⟨15, D, A, B, n⟩ = true) (w : World) :
    Calls Tryd.prog 14 #[.agg #[.int .i64 2, .int .i64 15, .int .i64 D, .int .i64 A, .int .i64 B, .int .i32 n, .string ⟨#[]⟩]] w fun e w' => e = .returned (.tuple #[.int .u32 (encN 15 D A B (nat32 n) : Nat), .bool true]) ∧ Below w.heap.size w w' := by
  have H := fun w => rmayLine_any 15 D A B n b1 b2 w
  rw [h] at H
  have HM := Lib.hid H
  clear H h
  obtain ⟨x1, hx1⟩ : ∃ x1, layN 12339 (nat32 (D : Int)) 0 5 7 = x1 := ⟨_, rfl⟩
  have y1 : x1 < 4294967296 := by rw [← hx1]; exact lay_lt _ _ _ _ _ (by decide) (by decide)
  have K1 : ∀ W, Calls Tryd.prog 29 #[.int .u32 12339, .int .i64 D, .int .i64 0, .int .i64 5, .int .i64 7] W fun e w' => e = .returned (.int .u32 x1) ∧ W = w' := fun W => by
    have h := lay_any 12339 D 0 5 7 (by decide) (by omega) (by decide) (by decide) W
    rw [hx1] at h
    exact h
  obtain ⟨x2, hx2⟩ : ∃ x, layN x1 (nat32 (A : Int)) 0 5 15 = x := ⟨_, rfl⟩
  have y2 : x2 < 4294967296 := by rw [← hx2]; exact lay_lt _ _ _ _ _ y1 (by decide)
  have K2 : ∀ W, Calls Tryd.prog 29 #[.int .u32 x1, .int .i64 A, .int .i64 0, .int .i64 5, .int .i64 15] W fun e w' => e = .returned (.int .u32 x2) ∧ W = w' := fun W => by
    have h := lay_any x1 A 0 5 15 y1 (by omega) (by decide) (by decide) W
    rw [hx2] at h
    exact h
  obtain ⟨x3, hx3⟩ : ∃ x, layN x2 (nat32 (B : Int)) 0 5 20 = x := ⟨_, rfl⟩
  have y3 : x3 < 4294967296 := by rw [← hx3]; exact lay_lt _ _ _ _ _ y2 (by decide)
  have K3 : ∀ W, Calls Tryd.prog 29 #[.int .u32 x2, .int .i64 B, .int .i64 0, .int .i64 5, .int .i64 20] W fun e w' => e = .returned (.int .u32 x3) ∧ W = w' := fun W => by
    have h := lay_any x2 B 0 5 20 y2 (by omega) (by decide) (by decide) W
    rw [hx3] at h
    exact h
  have HE : Hid (encN 15 D A B (nat32 n) = x3) := Lib.hid (by
    rw [← hx3, ← hx2, ← hx1]
    simp only [lay_reg D hD, lay_reg A hA, lay_reg B hB, layN]
    exact ref_15 D A B (nat32 n))
  have H1 := Lib.hid K1
  have H2 := Lib.hid K2
  have H3 := Lib.hid K3
  clear K1 hx1 y1 K2 hx2 y2 K3 hx3 y3
  obtain ⟨v0, hv0⟩ : ∃ v0, w.heap.size = v0 := ⟨_, rfl⟩
  obtain ⟨W0, hW0⟩ : ∃ W0, w.alloc (.cells #[.int .i64 2, .int .i64 15, .int .i64 D, .int .i64 A, .int .i64 B, .int .i32 n, .string ⟨#[]⟩] 23) = W0 := ⟨_, rfl⟩
  have hB0 : Below w.heap.size w W0 := by rw [← hW0]; exact (Below.refl _ _).alloc (Nat.le_refl _) _
  have hLn : LnAt W0 v0 2 15 D A B n ⟨#[]⟩ := by rw [← hW0, ← hv0]; exact LnAt.new _ _ _ _ _ _ _ _ _
  have HL := Lib.hid (And.intro hLn hB0)
  obtain ⟨-, z0, z1, z2, z3, z4, z5, z6⟩ := hLn
  clear hB0
  go_enter Tryd.func14, Tryd.ntmps14
  go_wp2_with (go_at_call 10; (with_reducible refine (HM.out _).mono ?_); rintro e w1 ⟨rfl, hb1⟩
               obtain ⟨V, hV⟩ : ∃ V, (w1.alloc (.cells #[.int .u32 0, .int .u32 55, .int .u32 19, .int .u32 19, .int .u32 19, .int .u32 19, .int .u32 19, .int .u32 19, .int .u32 19, .int .u32 19, .int .u32 19, .int .u32 51, .int .u32 51, .int .u32 51, .int .u32 51, .int .u32 51, .int .u32 51, .int .u32 51, .int .u32 51, .int .u32 51, .int .u32 51, .int .u32 51, .int .u32 51, .int .u32 51, .int .u32 3, .int .u32 35, .int .u32 99, .int .u32 99, .int .u32 111, .int .u32 103, .int .u32 115] 30)).alloc (.cells #[.int .u32 0, .int .u32 0, .int .u32 0, .int .u32 2, .int .u32 3, .int .u32 4, .int .u32 6, .int .u32 7, .int .u32 1, .int .u32 5, .int .u32 5, .int .u32 0, .int .u32 0, .int .u32 1, .int .u32 2, .int .u32 3, .int .u32 4, .int .u32 5, .int .u32 5, .int .u32 6, .int .u32 7, .int .u32 0, .int .u32 4, .int .u32 6, .int .u32 2, .int .u32 2, .int .u32 0, .int .u32 1, .int .u32 0, .int .u32 0, .int .u32 0] 30) = V := ⟨_, rfl⟩
               have hbV : Below W0.heap.size W0 V := by rw [← hV]; exact (hb1.alloc hb1.size _).alloc (Nat.le_trans hb1.size (by simp)) _
               have HV := Lib.hid (And.intro (HL.out.1.below hbV) (HL.out.2.trans (hbV.mono HL.out.2.size)))
               obtain ⟨-, u0, u1, u2, u3, u4, u5, u6⟩ := HL.out.1.below hbV
               obtain ⟨r, hr⟩ : ∃ r, w1.heap.size = r := ⟨_, rfl⟩
               have t0 : V.cell? ⟨r, 15, none⟩ = some (.int .u32 51) := by
                 have h := cell_alloc_at w1 (#[.int .u32 0, .int .u32 55, .int .u32 19, .int .u32 19, .int .u32 19, .int .u32 19, .int .u32 19, .int .u32 19, .int .u32 19, .int .u32 19, .int .u32 19, .int .u32 51, .int .u32 51, .int .u32 51, .int .u32 51, .int .u32 51, .int .u32 51, .int .u32 51, .int .u32 51, .int .u32 51, .int .u32 51, .int .u32 51, .int .u32 51, .int .u32 51, .int .u32 3, .int .u32 35, .int .u32 99, .int .u32 99, .int .u32 111, .int .u32 103, .int .u32 115]) 30 15 _ rfl
                 rw [← hV, ← hr]
                 exact cell_alloc h _
               have t1 : V.cell? ⟨r + 1, 15, none⟩ = some (.int .u32 3) := by
                 have h := cell_alloc_at (w1.alloc (.cells #[.int .u32 0, .int .u32 55, .int .u32 19, .int .u32 19, .int .u32 19, .int .u32 19, .int .u32 19, .int .u32 19, .int .u32 19, .int .u32 19, .int .u32 19, .int .u32 51, .int .u32 51, .int .u32 51, .int .u32 51, .int .u32 51, .int .u32 51, .int .u32 51, .int .u32 51, .int .u32 51, .int .u32 51, .int .u32 51, .int .u32 51, .int .u32 51, .int .u32 3, .int .u32 35, .int .u32 99, .int .u32 99, .int .u32 111, .int .u32 103, .int .u32 115] 30)) (#[.int .u32 0, .int .u32 0, .int .u32 0, .int .u32 2, .int .u32 3, .int .u32 4, .int .u32 6, .int .u32 7, .int .u32 1, .int .u32 5, .int .u32 5, .int .u32 0, .int .u32 0, .int .u32 1, .int .u32 2, .int .u32 3, .int .u32 4, .int .u32 5, .int .u32 5, .int .u32 6, .int .u32 7, .int .u32 0, .int .u32 4, .int .u32 6, .int .u32 2, .int .u32 2, .int .u32 0, .int .u32 1, .int .u32 0, .int .u32 0, .int .u32 0]) 30 15 _ rfl
                 rw [show (w1.alloc (.cells #[.int .u32 0, .int .u32 55, .int .u32 19, .int .u32 19, .int .u32 19, .int .u32 19, .int .u32 19, .int .u32 19, .int .u32 19, .int .u32 19, .int .u32 19, .int .u32 51, .int .u32 51, .int .u32 51, .int .u32 51, .int .u32 51, .int .u32 51, .int .u32 51, .int .u32 51, .int .u32 51, .int .u32 51, .int .u32 51, .int .u32 51, .int .u32 51, .int .u32 3, .int .u32 35, .int .u32 99, .int .u32 99, .int .u32 111, .int .u32 103, .int .u32 115] 30)).heap.size = r + 1 from by rw [← hr]; simp] at h
                 rw [← hV]
                 exact h
               clear hb1 hbV)
  go_big_quiet (fail)
  go_wp2_with (first
    | (go_at_call 29; (with_reducible refine (H1.out _).mono ?_); rintro e w' ⟨rfl, rfl⟩)
    | (go_at_call 29; (with_reducible refine (H2.out _).mono ?_); rintro e w' ⟨rfl, rfl⟩)
    | (go_at_call 29; (with_reducible refine (H3.out _).mono ?_); rintro e w' ⟨rfl, rfl⟩))
  go_ret2
  exact ⟨by rw [HE.out]; rfl, below_drewN HV.out.2 _⟩
theorem ref_16 (D A B N : Nat) : encN 16 D A B N = 16435 ||| D * 2 ^ 7 ||| A * 2 ^ 15 ||| B * 2 ^ 20 := by
  have e1 : formN 16 = 2 := by decide
  have e2 : stampW (lowN 16) (midN 16) (highN 16) = 16435 := by decide
  unfold encN wordW
  rw [e1, e2, laid_2]
  rw [Nat.or_zero]
set_option maxHeartbeats 1600000 in
theorem rencode_16 (D A B : Nat) (n : Int) (b1 : -2147483648 ≤ n) (b2 : n ≤ 2147483647) (hD : D < 32) (hA : A < 32) (hB : B < 32) (h : mayI ⟨16, D, A, B, n⟩ = true) (w : World) :
    Calls Tryd.prog 14 #[.agg #[.int .i64 2, .int .i64 16, .int .i64 D, .int .i64 A, .int .i64 B, .int .i32 n, .string ⟨#[]⟩]] w fun e w' => e = .returned (.tuple #[.int .u32 (encN 16 D A B (nat32 n) : Nat), .bool true]) ∧ Below w.heap.size w w' := by
  have H := fun w => rmayLine_any 16 D A B n b1 b2 w
  rw [h] at H
  have HM := Lib.hid H
  clear H h
  obtain ⟨x1, hx1⟩ : ∃ x1, layN 16435 (nat32 (D : Int)) 0 5 7 = x1 := ⟨_, rfl⟩
  have y1 : x1 < 4294967296 := by rw [← hx1]; exact lay_lt _ _ _ _ _ (by decide) (by decide)
  have K1 : ∀ W, Calls Tryd.prog 29 #[.int .u32 16435, .int .i64 D, .int .i64 0, .int .i64 5, .int .i64 7] W fun e w' => e = .returned (.int .u32 x1) ∧ W = w' := fun W => by
    have h := lay_any 16435 D 0 5 7 (by decide) (by omega) (by decide) (by decide) W
    rw [hx1] at h
    exact h
  obtain ⟨x2, hx2⟩ : ∃ x, layN x1 (nat32 (A : Int)) 0 5 15 = x := ⟨_, rfl⟩
  have y2 : x2 < 4294967296 := by rw [← hx2]; exact lay_lt _ _ _ _ _ y1 (by decide)
  have K2 : ∀ W, Calls Tryd.prog 29 #[.int .u32 x1, .int .i64 A, .int .i64 0, .int .i64 5, .int .i64 15] W fun e w' => e = .returned (.int .u32 x2) ∧ W = w' := fun W => by
    have h := lay_any x1 A 0 5 15 y1 (by omega) (by decide) (by decide) W
    rw [hx2] at h
    exact h
  obtain ⟨x3, hx3⟩ : ∃ x, layN x2 (nat32 (B : Int)) 0 5 20 = x := ⟨_, rfl⟩
  have y3 : x3 < 4294967296 := by rw [← hx3]; exact lay_lt _ _ _ _ _ y2 (by decide)
  have K3 : ∀ W, Calls Tryd.prog 29 #[.int .u32 x2, .int .i64 B, .int .i64 0, .int .i64 5, .int .i64 20] W fun e w' => e = .returned (.int .u32 x3) ∧ W = w' := fun W => by
    have h := lay_any x2 B 0 5 20 y2 (by omega) (by decide) (by decide) W
    rw [hx3] at h
    exact h
  have HE : Hid (encN 16 D A B (nat32 n) = x3) := Lib.hid (by
    rw [← hx3, ← hx2, ← hx1]
    simp only [lay_reg D hD, lay_reg A hA, lay_reg B hB, layN]
    exact ref_16 D A B (nat32 n))
  have H1 := Lib.hid K1
  have H2 := Lib.hid K2
  have H3 := Lib.hid K3
  clear K1 hx1 y1 K2 hx2 y2 K3 hx3 y3
  obtain ⟨v0, hv0⟩ : ∃ v0, w.heap.size = v0 := ⟨_, rfl⟩
  obtain ⟨W0, hW0⟩ : ∃ W0, w.alloc (.cells #[.int .i64 2, .int .i64 16, .int .i64 D, .int .i64 A, .int .i64 B, .int .i32 n, .string ⟨#[]⟩] 23) = W0 := ⟨_, rfl⟩
  have hB0 : Below w.heap.size w W0 := by rw [← hW0]; exact (Below.refl _ _).alloc (Nat.le_refl _) _
  have hLn : LnAt W0 v0 2 16 D A B n ⟨#[]⟩ := by rw [← hW0, ← hv0]; exact LnAt.new _ _ _ _ _ _ _ _ _
  have HL := Lib.hid (And.intro hLn hB0)
  obtain ⟨-, z0, z1, z2, z3, z4, z5, z6⟩ := hLn
  clear hB0
  go_enter Tryd.func14, Tryd.ntmps14
  go_wp2_with (go_at_call 10; (with_reducible refine (HM.out _).mono ?_); rintro e w1 ⟨rfl, hb1⟩
               obtain ⟨V, hV⟩ : ∃ V, (w1.alloc (.cells #[.int .u32 0, .int .u32 55, .int .u32 19, .int .u32 19, .int .u32 19, .int .u32 19, .int .u32 19, .int .u32 19, .int .u32 19, .int .u32 19, .int .u32 19, .int .u32 51, .int .u32 51, .int .u32 51, .int .u32 51, .int .u32 51, .int .u32 51, .int .u32 51, .int .u32 51, .int .u32 51, .int .u32 51, .int .u32 51, .int .u32 51, .int .u32 51, .int .u32 3, .int .u32 35, .int .u32 99, .int .u32 99, .int .u32 111, .int .u32 103, .int .u32 115] 30)).alloc (.cells #[.int .u32 0, .int .u32 0, .int .u32 0, .int .u32 2, .int .u32 3, .int .u32 4, .int .u32 6, .int .u32 7, .int .u32 1, .int .u32 5, .int .u32 5, .int .u32 0, .int .u32 0, .int .u32 1, .int .u32 2, .int .u32 3, .int .u32 4, .int .u32 5, .int .u32 5, .int .u32 6, .int .u32 7, .int .u32 0, .int .u32 4, .int .u32 6, .int .u32 2, .int .u32 2, .int .u32 0, .int .u32 1, .int .u32 0, .int .u32 0, .int .u32 0] 30) = V := ⟨_, rfl⟩
               have hbV : Below W0.heap.size W0 V := by rw [← hV]; exact (hb1.alloc hb1.size _).alloc (Nat.le_trans hb1.size (by simp)) _
               have HV := Lib.hid (And.intro (HL.out.1.below hbV) (HL.out.2.trans (hbV.mono HL.out.2.size)))
               obtain ⟨-, u0, u1, u2, u3, u4, u5, u6⟩ := HL.out.1.below hbV
               obtain ⟨r, hr⟩ : ∃ r, w1.heap.size = r := ⟨_, rfl⟩
               have t0 : V.cell? ⟨r, 16, none⟩ = some (.int .u32 51) := by
                 have h := cell_alloc_at w1 (#[.int .u32 0, .int .u32 55, .int .u32 19, .int .u32 19, .int .u32 19, .int .u32 19, .int .u32 19, .int .u32 19, .int .u32 19, .int .u32 19, .int .u32 19, .int .u32 51, .int .u32 51, .int .u32 51, .int .u32 51, .int .u32 51, .int .u32 51, .int .u32 51, .int .u32 51, .int .u32 51, .int .u32 51, .int .u32 51, .int .u32 51, .int .u32 51, .int .u32 3, .int .u32 35, .int .u32 99, .int .u32 99, .int .u32 111, .int .u32 103, .int .u32 115]) 30 16 _ rfl
                 rw [← hV, ← hr]
                 exact cell_alloc h _
               have t1 : V.cell? ⟨r + 1, 16, none⟩ = some (.int .u32 4) := by
                 have h := cell_alloc_at (w1.alloc (.cells #[.int .u32 0, .int .u32 55, .int .u32 19, .int .u32 19, .int .u32 19, .int .u32 19, .int .u32 19, .int .u32 19, .int .u32 19, .int .u32 19, .int .u32 19, .int .u32 51, .int .u32 51, .int .u32 51, .int .u32 51, .int .u32 51, .int .u32 51, .int .u32 51, .int .u32 51, .int .u32 51, .int .u32 51, .int .u32 51, .int .u32 51, .int .u32 51, .int .u32 3, .int .u32 35, .int .u32 99, .int .u32 99, .int .u32 111, .int .u32 103, .int .u32 115] 30)) (#[.int .u32 0, .int .u32 0, .int .u32 0, .int .u32 2, .int .u32 3, .int .u32 4, .int .u32 6, .int .u32 7, .int .u32 1, .int .u32 5, .int .u32 5, .int .u32 0, .int .u32 0, .int .u32 1, .int .u32 2, .int .u32 3, .int .u32 4, .int .u32 5, .int .u32 5, .int .u32 6, .int .u32 7, .int .u32 0, .int .u32 4, .int .u32 6, .int .u32 2, .int .u32 2, .int .u32 0, .int .u32 1, .int .u32 0, .int .u32 0, .int .u32 0]) 30 16 _ rfl
                 rw [show (w1.alloc (.cells #[.int .u32 0, .int .u32 55, .int .u32 19, .int .u32 19, .int .u32 19, .int .u32 19, .int .u32 19, .int .u32 19, .int .u32 19, .int .u32 19, .int .u32 19, .int .u32 51, .int .u32 51, .int .u32 51, .int .u32 51, .int .u32 51, .int .u32 51, .int .u32 51, .int .u32 51, .int .u32 51, .int .u32 51, .int .u32 51, .int .u32 51, .int .u32 51, .int .u32 3, .int .u32 35, .int .u32 99, .int .u32 99, .int .u32 111, .int .u32 103, .int .u32 115] 30)).heap.size = r + 1 from by rw [← hr]; simp] at h
                 rw [← hV]
                 exact h
               clear hb1 hbV)
  go_big_quiet (fail)
  go_wp2_with (first
    | (go_at_call 29; (with_reducible refine (H1.out _).mono ?_); rintro e w' ⟨rfl, rfl⟩)
    | (go_at_call 29; (with_reducible refine (H2.out _).mono ?_); rintro e w' ⟨rfl, rfl⟩)
    | (go_at_call 29; (with_reducible refine (H3.out _).mono ?_); rintro e w' ⟨rfl, rfl⟩))
  go_ret2
  exact ⟨by rw [HE.out]; rfl, below_drewN HV.out.2 _⟩
end Go.Proofs.YtonkpojoniehlaaDoor
