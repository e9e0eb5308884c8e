/-
  The document's Encode, part 3.
-/
import Derived.Test.YtonkpojoniehlaaDoorKmn
import Derived.Test.YtonkpojoniehlaaDoorKmp
namespace Go.Proofs.YtonkpojoniehlaaDoor
open Go.RowKit
set_option linter.unusedVariables false
set_option linter.unusedSimpArgs false
set_option maxRecDepth 100000

theorem ref_25 (D A B N : Nat) : encN 25 D A B N = 8227 ||| D * 2 ^ 7 ||| A * 2 ^ 15 ||| B * 2 ^ 20 ||| cutN N 0 5 * 2 ^ 7 ||| cutN N 5 7 * 2 ^ 25 := by
  have e1 : formN 25 = 5 := by decide
  have e2 : stampW (lowN 25) (midN 25) (highN 25) = 8227 := by decide
  unfold encN wordW
  rw [e1, e2, laid_5]
  ac_rfl
set_option maxHeartbeats 1600000 in
theorem rencode_25 (D A B : Nat) (n : Int) (b1 : -2147483648 ≤ n) (b2 : n ≤ 2147483647) (hD : D < 32) (hA : A < 32) (hB : B < 32) (h : mayI ⟨25, D, A, B, n⟩ = true) (w : World) :
    Calls Tryd.prog 14 #[.agg #[.int .i64 2, .int .i64 25, .int .i64 D, .int .i64 A, .int .i64 B, .int .i32 n, .string ⟨#[]⟩]] w fun e w' => e = .returned (.tuple #[.int .u32 (encN 25 D A B (nat32 n) : Nat), .bool true]) ∧ Below w.heap.size w w' := by
  have H := fun w => rmayLine_any 25 D A B n b1 b2 w
  rw [h] at H
  have HM := Lib.hid H
  clear H h
  obtain ⟨x1, hx1⟩ : ∃ x1, layN 8227 (nat32 (D : Int)) 0 5 7 = x1 := ⟨_, rfl⟩
  have y1 : x1 < 4294967296 := by rw [← hx1]; exact lay_lt _ _ _ _ _ (by decide) (by decide)
  have K1 : ∀ W, Calls Tryd.prog 29 #[.int .u32 8227, .int .i64 D, .int .i64 0, .int .i64 5, .int .i64 7] W fun e w' => e = .returned (.int .u32 x1) ∧ W = w' := fun W => by
    have h := lay_any 8227 D 0 5 7 (by decide) (by omega) (by decide) (by decide) W
    rw [hx1] at h
    exact h
  obtain ⟨x2, hx2⟩ : ∃ x, layN x1 (nat32 (A : Int)) 0 5 15 = x := ⟨_, rfl⟩
  have y2 : x2 < 4294967296 := by rw [← hx2]; exact lay_lt _ _ _ _ _ y1 (by decide)
  have K2 : ∀ W, Calls Tryd.prog 29 #[.int .u32 x1, .int .i64 A, .int .i64 0, .int .i64 5, .int .i64 15] W fun e w' => e = .returned (.int .u32 x2) ∧ W = w' := fun W => by
    have h := lay_any x1 A 0 5 15 y1 (by omega) (by decide) (by decide) W
    rw [hx2] at h
    exact h
  obtain ⟨x3, hx3⟩ : ∃ x, layN x2 (nat32 (B : Int)) 0 5 20 = x := ⟨_, rfl⟩
  have y3 : x3 < 4294967296 := by rw [← hx3]; exact lay_lt _ _ _ _ _ y2 (by decide)
  have K3 : ∀ W, Calls Tryd.prog 29 #[.int .u32 x2, .int .i64 B, .int .i64 0, .int .i64 5, .int .i64 20] W fun e w' => e = .returned (.int .u32 x3) ∧ W = w' := fun W => by
    have h := lay_any x2 B 0 5 20 y2 (by omega) (by decide) (by decide) W
    rw [hx3] at h
    exact h
  obtain ⟨x4, hx4⟩ : ∃ x, layN x3 (nat32 n) 0 5 7 = x := ⟨_, rfl⟩
  have y4 : x4 < 4294967296 := by rw [← hx4]; exact lay_lt _ _ _ _ _ y3 (by decide)
  have K4 : ∀ W, Calls Tryd.prog 29 #[.int .u32 x3, .int .i64 n, .int .i64 0, .int .i64 5, .int .i64 7] W fun e w' => e = .returned (.int .u32 x4) ∧ W = w' := fun W => by
    have h := lay_any x3 n 0 5 7 y3 (by omega) (by decide) (by decide) W
    rw [hx4] at h
    exact h
  obtain ⟨x5, hx5⟩ : ∃ x, layN x4 (nat32 n) 5 7 25 = x := ⟨_, rfl⟩
  have y5 : x5 < 4294967296 := by rw [← hx5]; exact lay_lt _ _ _ _ _ y4 (by decide)
  have K5 : ∀ W, Calls Tryd.prog 29 #[.int .u32 x4, .int .i64 n, .int .i64 5, .int .i64 7, .int .i64 25] W fun e w' => e = .returned (.int .u32 x5) ∧ W = w' := fun W => by
    have h := lay_any x4 n 5 7 25 y4 (by omega) (by decide) (by decide) W
    rw [hx5] at h
    exact h
  have HE : Hid (encN 25 D A B (nat32 n) = x5) := Lib.hid (by
    rw [← hx5, ← hx4, ← hx3, ← hx2, ← hx1]
    simp only [lay_reg D hD, lay_reg A hA, lay_reg B hB, layN]
    exact ref_25 D A B (nat32 n))
  have H1 := Lib.hid K1
  have H2 := Lib.hid K2
  have H3 := Lib.hid K3
  have H4 := Lib.hid K4
  have H5 := Lib.hid K5
  clear K1 hx1 y1 K2 hx2 y2 K3 hx3 y3 K4 hx4 y4 K5 hx5 y5
  obtain ⟨v0, hv0⟩ : ∃ v0, w.heap.size = v0 := ⟨_, rfl⟩
  obtain ⟨W0, hW0⟩ : ∃ W0, w.alloc (.cells #[.int .i64 2, .int .i64 25, .int .i64 D, .int .i64 A, .int .i64 B, .int .i32 n, .string ⟨#[]⟩] 23) = W0 := ⟨_, rfl⟩
  have hB0 : Below w.heap.size w W0 := by rw [← hW0]; exact (Below.refl _ _).alloc (Nat.le_refl _) _
  have hLn : LnAt W0 v0 2 25 D A B n ⟨#[]⟩ := by rw [← hW0, ← hv0]; exact LnAt.new _ _ _ _ _ _ _ _ _
  have HL := Lib.hid (And.intro hLn hB0)
  obtain ⟨-, z0, z1, z2, z3, z4, z5, z6⟩ := hLn
  clear hB0
  go_enter Tryd.func14, Tryd.ntmps14
  go_wp2_with (go_at_call 10; (with_reducible refine (HM.out _).mono ?_); rintro e w1 ⟨rfl, hb1⟩
               obtain ⟨V, hV⟩ : ∃ V, (w1.alloc (.cells #[.int .u32 0, .int .u32 55, .int .u32 19, .int .u32 19, .int .u32 19, .int .u32 19, .int .u32 19, .int .u32 19, .int .u32 19, .int .u32 19, .int .u32 19, .int .u32 51, .int .u32 51, .int .u32 51, .int .u32 51, .int .u32 51, .int .u32 51, .int .u32 51, .int .u32 51, .int .u32 51, .int .u32 51, .int .u32 51, .int .u32 51, .int .u32 51, .int .u32 3, .int .u32 35, .int .u32 99, .int .u32 99, .int .u32 111, .int .u32 103, .int .u32 115] 30)).alloc (.cells #[.int .u32 0, .int .u32 0, .int .u32 0, .int .u32 2, .int .u32 3, .int .u32 4, .int .u32 6, .int .u32 7, .int .u32 1, .int .u32 5, .int .u32 5, .int .u32 0, .int .u32 0, .int .u32 1, .int .u32 2, .int .u32 3, .int .u32 4, .int .u32 5, .int .u32 5, .int .u32 6, .int .u32 7, .int .u32 0, .int .u32 4, .int .u32 6, .int .u32 2, .int .u32 2, .int .u32 0, .int .u32 1, .int .u32 0, .int .u32 0, .int .u32 0] 30) = V := ⟨_, rfl⟩
               have hbV : Below W0.heap.size W0 V := by rw [← hV]; exact (hb1.alloc hb1.size _).alloc (Nat.le_trans hb1.size (by simp)) _
               have HV := Lib.hid (And.intro (HL.out.1.below hbV) (HL.out.2.trans (hbV.mono HL.out.2.size)))
               obtain ⟨-, u0, u1, u2, u3, u4, u5, u6⟩ := HL.out.1.below hbV
               obtain ⟨r, hr⟩ : ∃ r, w1.heap.size = r := ⟨_, rfl⟩
               have t0 : V.cell? ⟨r, 25, none⟩ = some (.int .u32 35) := by
                 have h := cell_alloc_at w1 (#[.int .u32 0, .int .u32 55, .int .u32 19, .int .u32 19, .int .u32 19, .int .u32 19, .int .u32 19, .int .u32 19, .int .u32 19, .int .u32 19, .int .u32 19, .int .u32 51, .int .u32 51, .int .u32 51, .int .u32 51, .int .u32 51, .int .u32 51, .int .u32 51, .int .u32 51, .int .u32 51, .int .u32 51, .int .u32 51, .int .u32 51, .int .u32 51, .int .u32 3, .int .u32 35, .int .u32 99, .int .u32 99, .int .u32 111, .int .u32 103, .int .u32 115]) 30 25 _ rfl
                 rw [← hV, ← hr]
                 exact cell_alloc h _
               have t1 : V.cell? ⟨r + 1, 25, none⟩ = some (.int .u32 2) := by
                 have h := cell_alloc_at (w1.alloc (.cells #[.int .u32 0, .int .u32 55, .int .u32 19, .int .u32 19, .int .u32 19, .int .u32 19, .int .u32 19, .int .u32 19, .int .u32 19, .int .u32 19, .int .u32 19, .int .u32 51, .int .u32 51, .int .u32 51, .int .u32 51, .int .u32 51, .int .u32 51, .int .u32 51, .int .u32 51, .int .u32 51, .int .u32 51, .int .u32 51, .int .u32 51, .int .u32 51, .int .u32 3, .int .u32 35, .int .u32 99, .int .u32 99, .int .u32 111, .int .u32 103, .int .u32 115] 30)) (#[.int .u32 0, .int .u32 0, .int .u32 0, .int .u32 2, .int .u32 3, .int .u32 4, .int .u32 6, .int .u32 7, .int .u32 1, .int .u32 5, .int .u32 5, .int .u32 0, .int .u32 0, .int .u32 1, .int .u32 2, .int .u32 3, .int .u32 4, .int .u32 5, .int .u32 5, .int .u32 6, .int .u32 7, .int .u32 0, .int .u32 4, .int .u32 6, .int .u32 2, .int .u32 2, .int .u32 0, .int .u32 1, .int .u32 0, .int .u32 0, .int .u32 0]) 30 25 _ rfl
                 rw [show (w1.alloc (.cells #[.int .u32 0, .int .u32 55, .int .u32 19, .int .u32 19, .int .u32 19, .int .u32 19, .int .u32 19, .int .u32 19, .int .u32 19, .int .u32 19, .int .u32 19, .int .u32 51, .int .u32 51, .int .u32 51, .int .u32 51, .int .u32 51, .int .u32 51, .int .u32 51, .int .u32 51, .int .u32 51, .int .u32 51, .int .u32 51, .int .u32 51, .int .u32 51, .int .u32 3, .int .u32 35, .int .u32 99, .int .u32 99, .int .u32 111, .int .u32 103, .int .u32 115] 30)).heap.size = r + 1 from by rw [← hr]; simp] at h
                 rw [← hV]
                 exact h
               clear hb1 hbV)
  go_big_quiet (fail)
  go_wp2_with (first
    | (go_at_call 29; (with_reducible refine (H1.out _).mono ?_); rintro e w' ⟨rfl, rfl⟩)
    | (go_at_call 29; (with_reducible refine (H2.out _).mono ?_); rintro e w' ⟨rfl, rfl⟩)
    | (go_at_call 29; (with_reducible refine (H3.out _).mono ?_); rintro e w' ⟨rfl, rfl⟩)
    | (go_at_call 29; (with_reducible refine (H4.out _).mono ?_); rintro e w' ⟨rfl, rfl⟩)
    | (go_at_call 29; (with_reducible refine (H5.out _).mono ?_); rintro e w' ⟨rfl, rfl⟩))
  go_ret2
  exact ⟨by rw [HE.out]; rfl, below_drewN HV.out.2 _⟩
theorem ref_26 (D A B N : Nat) : encN 26 D A B N = 99 ||| D * 2 ^ 7 ||| A * 2 ^ 15 ||| B * 2 ^ 20 ||| cutN N 1 4 * 2 ^ 8 ||| cutN N 5 6 * 2 ^ 25 ||| cutN N 11 1 * 2 ^ 7 ||| cutN N 12 1 * 2 ^ 31 := by
  have e1 : formN 26 = 6 := by decide
  have e2 : stampW (lowN 26) (midN 26) (highN 26) = 99 := by decide
  unfold encN wordW
  rw [e1, e2, laid_6]
  ac_rfl
set_option maxHeartbeats 1600000 in
theorem rencode_26 (D A B : Nat) (n : Int) (b1 : -2147483648 ≤ n) (b2 : n ≤ 2147483647) (hD : D < 32) (hA : A < 32) (hB : B < 32) (h : mayI ⟨26, D, A, B, n⟩ = true) (w : World) :
    Calls Tryd.prog 14 #[.agg #[.int .i64 2, .int .i64 26, .int .i64 D, .int .i64 A, .int .i64 B, .int .i32 n, .string ⟨#[]⟩]] w fun e w' => e = .returned (.tuple #[.int .u32 (encN 26 D A B (nat32 n) : Nat), .bool true]) ∧ Below w.heap.size w w' := by
  have H := fun w => rmayLine_any 26 D A B n b1 b2 w
  rw [h] at H
  have HM := Lib.hid H
  clear H h
  obtain ⟨x1, hx1⟩ : ∃ x1, layN 99 (nat32 (D : Int)) 0 5 7 = x1 := ⟨_, rfl⟩
  have y1 : x1 < 4294967296 := by rw [← hx1]; exact lay_lt _ _ _ _ _ (by decide) (by decide)
  have K1 : ∀ W, Calls Tryd.prog 29 #[.int .u32 99, .int .i64 D, .int .i64 0, .int .i64 5, .int .i64 7] W fun e w' => e = .returned (.int .u32 x1) ∧ W = w' := fun W => by
    have h := lay_any 99 D 0 5 7 (by decide) (by omega) (by decide) (by decide) W
    rw [hx1] at h
    exact h
  obtain ⟨x2, hx2⟩ : ∃ x, layN x1 (nat32 (A : Int)) 0 5 15 = x := ⟨_, rfl⟩
  have y2 : x2 < 4294967296 := by rw [← hx2]; exact lay_lt _ _ _ _ _ y1 (by decide)
  have K2 : ∀ W, Calls Tryd.prog 29 #[.int .u32 x1, .int .i64 A, .int .i64 0, .int .i64 5, .int .i64 15] W fun e w' => e = .returned (.int .u32 x2) ∧ W = w' := fun W => by
    have h := lay_any x1 A 0 5 15 y1 (by omega) (by decide) (by decide) W
    rw [hx2] at h
    exact h
  obtain ⟨x3, hx3⟩ : ∃ x, layN x2 (nat32 (B : Int)) 0 5 20 = x := ⟨_, rfl⟩
  have y3 : x3 < 4294967296 := by rw [← hx3]; exact lay_lt _ _ _ _ _ y2 (by decide)
  have K3 : ∀ W, Calls Tryd.prog 29 #[.int .u32 x2, .int .i64 B, .int .i64 0, .int .i64 5, .int .i64 20] W fun e w' => e = .returned (.int .u32 x3) ∧ W = w' := fun W => by
    have h := lay_any x2 B 0 5 20 y2 (by omega) (by decide) (by decide) W
    rw [hx3] at h
    exact h
  obtain ⟨x4, hx4⟩ : ∃ x, layN x3 (nat32 n) 1 4 8 = x := ⟨_, rfl⟩
  have y4 : x4 < 4294967296 := by rw [← hx4]; exact lay_lt _ _ _ _ _ y3 (by decide)
  have K4 : ∀ W, Calls Tryd.prog 29 #[.int .u32 x3, .int .i64 n, .int .i64 1, .int .i64 4, .int .i64 8] W fun e w' => e = .returned (.int .u32 x4) ∧ W = w' := fun W => by
    have h := lay_any x3 n 1 4 8 y3 (by omega) (by decide) (by decide) W
    rw [hx4] at h
    exact h
  obtain ⟨x5, hx5⟩ : ∃ x, layN x4 (nat32 n) 5 6 25 = x := ⟨_, rfl⟩
  have y5 : x5 < 4294967296 := by rw [← hx5]; exact lay_lt _ _ _ _ _ y4 (by decide)
  have K5 : ∀ W, Calls Tryd.prog 29 #[.int .u32 x4, .int .i64 n, .int .i64 5, .int .i64 6, .int .i64 25] W fun e w' => e = .returned (.int .u32 x5) ∧ W = w' := fun W => by
    have h := lay_any x4 n 5 6 25 y4 (by omega) (by decide) (by decide) W
    rw [hx5] at h
    exact h
  obtain ⟨x6, hx6⟩ : ∃ x, layN x5 (nat32 n) 11 1 7 = x := ⟨_, rfl⟩
  have y6 : x6 < 4294967296 := by rw [← hx6]; exact lay_lt _ _ _ _ _ y5 (by decide)
  have K6 : ∀ W, Calls Tryd.prog 29 #[.int .u32 x5, .int .i64 n, .int .i64 11, .int .i64 1, .int .i64 7] W fun e w' => e = .returned (.int .u32 x6) ∧ W = w' := fun W => by
    have h := lay_any x5 n 11 1 7 y5 (by omega) (by decide) (by decide) W
    rw [hx6] at h
    exact h
  obtain ⟨x7, hx7⟩ : ∃ x, layN x6 (nat32 n) 12 1 31 = x := ⟨_, rfl⟩
  have y7 : x7 < 4294967296 := by rw [← hx7]; exact lay_lt _ _ _ _ _ y6 (by decide)
  have K7 : ∀ W, Calls Tryd.prog 29 #[.int .u32 x6, .int .i64 n, .int .i64 12, .int .i64 1, .int .i64 31] W fun e w' => e = .returned (.int .u32 x7) ∧ W = w' := fun W => by
    have h := lay_any x6 n 12 1 31 y6 (by omega) (by decide) (by decide) W
    rw [hx7] at h
    exact h
  have HE : Hid (encN 26 D A B (nat32 n) = x7) := Lib.hid (by
    rw [← hx7, ← hx6, ← hx5, ← hx4, ← hx3, ← hx2, ← hx1]
    simp only [lay_reg D hD, lay_reg A hA, lay_reg B hB, layN]
    exact ref_26 D A B (nat32 n))
  have H1 := Lib.hid K1
  have H2 := Lib.hid K2
  have H3 := Lib.hid K3
  have H4 := Lib.hid K4
  have H5 := Lib.hid K5
  have H6 := Lib.hid K6
  have H7 := Lib.hid K7
  clear K1 hx1 y1 K2 hx2 y2 K3 hx3 y3 K4 hx4 y4 K5 hx5 y5 K6 hx6 y6 K7 hx7 y7
  obtain ⟨v0, hv0⟩ : ∃ v0, w.heap.size = v0 := ⟨_, rfl⟩
  obtain ⟨W0, hW0⟩ : ∃ W0, w.alloc (.cells #[.int .i64 2, .int .i64 26, .int .i64 D, .int .i64 A, .int .i64 B, .int .i32 n, .string ⟨#[]⟩] 23) = W0 := ⟨_, rfl⟩
  have hB0 : Below w.heap.size w W0 := by rw [← hW0]; exact (Below.refl _ _).alloc (Nat.le_refl _) _
  have hLn : LnAt W0 v0 2 26 D A B n ⟨#[]⟩ := by rw [← hW0, ← hv0]; exact LnAt.new _ _ _ _ _ _ _ _ _
  have HL := Lib.hid (And.intro hLn hB0)
  obtain ⟨-, z0, z1, z2, z3, z4, z5, z6⟩ := hLn
  clear hB0
  go_enter Tryd.func14, Tryd.ntmps14
  go_wp2_with (go_at_call 10; (with_reducible refine (HM.out _).mono ?_); rintro e w1 ⟨rfl, hb1⟩
               obtain ⟨V, hV⟩ : ∃ V, (w1.alloc (.cells #[.int .u32 0, .int .u32 55, .int .u32 19, .int .u32 19, .int .u32 19, .int .u32 19, .int .u32 19, .int .u32 19, .int .u32 19, .int .u32 19, .int .u32 19, .int .u32 51, .int .u32 51, .int .u32 51, .int .u32 51, .int .u32 51, .int .u32 51, .int .u32 51, .int .u32 51, .int .u32 51, .int .u32 51, .int .u32 51, .int .u32 51, .int .u32 51, .int .u32 3, .int .u32 35, .int .u32 99, .int .u32 99, .int .u32 111, .int .u32 103, .int .u32 115] 30)).alloc (.cells #[.int .u32 0, .int .u32 0, .int .u32 0, .int .u32 2, .int .u32 3, .int .u32 4, .int .u32 6, .int .u32 7, .int .u32 1, .int .u32 5, .int .u32 5, .int .u32 0, .int .u32 0, .int .u32 1, .int .u32 2, .int .u32 3, .int .u32 4, .int .u32 5, .int .u32 5, .int .u32 6, .int .u32 7, .int .u32 0, .int .u32 4, .int .u32 6, .int .u32 2, .int .u32 2, .int .u32 0, .int .u32 1, .int .u32 0, .int .u32 0, .int .u32 0] 30) = V := ⟨_, rfl⟩
               have hbV : Below W0.heap.size W0 V := by rw [← hV]; exact (hb1.alloc hb1.size _).alloc (Nat.le_trans hb1.size (by simp)) _
               have HV := Lib.hid (And.intro (HL.out.1.below hbV) (HL.out.2.trans (hbV.mono HL.out.2.size)))
               obtain ⟨-, u0, u1, u2, u3, u4, u5, u6⟩ := HL.out.1.below hbV
               obtain ⟨r, hr⟩ : ∃ r, w1.heap.size = r := ⟨_, rfl⟩
               have t0 : V.cell? ⟨r, 26, none⟩ = some (.int .u32 99) := by
                 have h := cell_alloc_at w1 (#[.int .u32 0, .int .u32 55, .int .u32 19, .int .u32 19, .int .u32 19, .int .u32 19, .int .u32 19, .int .u32 19, .int .u32 19, .int .u32 19, .int .u32 19, .int .u32 51, .int .u32 51, .int .u32 51, .int .u32 51, .int .u32 51, .int .u32 51, .int .u32 51, .int .u32 51, .int .u32 51, .int .u32 51, .int .u32 51, .int .u32 51, .int .u32 51, .int .u32 3, .int .u32 35, .int .u32 99, .int .u32 99, .int .u32 111, .int .u32 103, .int .u32 115]) 30 26 _ rfl
                 rw [← hV, ← hr]
                 exact cell_alloc h _
               have t1 : V.cell? ⟨r + 1, 26, none⟩ = some (.int .u32 0) := by
                 have h := cell_alloc_at (w1.alloc (.cells #[.int .u32 0, .int .u32 55, .int .u32 19, .int .u32 19, .int .u32 19, .int .u32 19, .int .u32 19, .int .u32 19, .int .u32 19, .int .u32 19, .int .u32 19, .int .u32 51, .int .u32 51, .int .u32 51, .int .u32 51, .int .u32 51, .int .u32 51, .int .u32 51, .int .u32 51, .int .u32 51, .int .u32 51, .int .u32 51, .int .u32 51, .int .u32 51, .int .u32 3, .int .u32 35, .int .u32 99, .int .u32 99, .int .u32 111, .int .u32 103, .int .u32 115] 30)) (#[.int .u32 0, .int .u32 0, .int .u32 0, .int .u32 2, .int .u32 3, .int .u32 4, .int .u32 6, .int .u32 7, .int .u32 1, .int .u32 5, .int .u32 5, .int .u32 0, .int .u32 0, .int .u32 1, .int .u32 2, .int .u32 3, .int .u32 4, .int .u32 5, .int .u32 5, .int .u32 6, .int .u32 7, .int .u32 0, .int .u32 4, .int .u32 6, .int .u32 2, .int .u32 2, .int .u32 0, .int .u32 1, .int .u32 0, .int .u32 0, .int .u32 0]) 30 26 _ rfl
                 rw [show (w1.alloc (.cells #[.int .u32 0, .int .u32 55, .int .u32 19, .int .u32 19, .int .u32 19, .int .u32 19, .int .u32 19, .int .u32 19, .int .u32 19, .int .u32 19, .int .u32 19, .int .u32 51, .int .u32 51, .int .u32 51, .int .u32 51, .int .u32 51, .int .u32 51, .int .u32 51, .int .u32 51, .int .u32 51, .int .u32 51, .int .u32 51, .int .u32 51, .int .u32 51, .int .u32 3, .int .u32 35, .int .u32 99, .int .u32 99, .int .u32 111, .int .u32 103, .int .u32 115] 30)).heap.size = r + 1 from by rw [← hr]; simp] at h
                 rw [← hV]
                 exact h
               clear hb1 hbV)
  go_big_quiet (fail)
  go_wp2_with (first
    | (go_at_call 29; (with_reducible refine (H1.out _).mono ?_); rintro e w' ⟨rfl, rfl⟩)
    | (go_at_call 29; (with_reducible refine (H2.out _).mono ?_); rintro e w' ⟨rfl, rfl⟩)
    | (go_at_call 29; (with_reducible refine (H3.out _).mono ?_); rintro e w' ⟨rfl, rfl⟩)
    | (go_at_call 29; (with_reducible refine (H4.out _).mono ?_); rintro e w' ⟨rfl, rfl⟩)
    | (go_at_call 29; (with_reducible refine (H5.out _).mono ?_); rintro e w' ⟨rfl, rfl⟩)
    | (go_at_call 29; (with_reducible refine (H6.out _).mono ?_); rintro e w' ⟨rfl, rfl⟩)
    | (go_at_call 29; (with_reducible refine (H7.out _).mono ?_); rintro e w' ⟨rfl, rfl⟩))
  go_ret2
  exact ⟨by rw [HE.out]; rfl, below_drewN HV.out.2 _⟩
theorem ref_27 (D A B N : Nat) : encN 27 D A B N = 4195 ||| D * 2 ^ 7 ||| A * 2 ^ 15 ||| B * 2 ^ 20 ||| cutN N 1 4 * 2 ^ 8 ||| cutN N 5 6 * 2 ^ 25 ||| cutN N 11 1 * 2 ^ 7 ||| cutN N 12 1 * 2 ^ 31 := by
  have e1 : formN 27 = 6 := by decide
  have e2 : stampW (lowN 27) (midN 27) (highN 27) = 4195 := by decide
  unfold encN wordW
  rw [e1, e2, laid_6]
  ac_rfl
set_option maxHeartbeats 1600000 in
theorem rencode_27 (D A B : Nat) (n : Int) (b1 : -2147483648 ≤ n) (b2 : n ≤ 2147483647) (hD : D < 32) (hA : A < 32) (hB : B < 32) (h : mayI ⟨27, D, A, B, n⟩ = true) (w : World) :
    Calls Tryd.prog 14 #[.agg #[.int .i64 2, .int .i64 27, .int .i64 D, .int .i64 A, .int .i64 B, .int .i32 n, .string ⟨#[]⟩]] w fun e w' => e = .returned (.tuple #[.int .u32 (encN 27 D A B (nat32 n) : Nat), .bool true]) ∧ Below w.heap.size w w' := by
  have H := fun w => rmayLine_any 27 D A B n b1 b2 w
  rw [h] at H
  have HM := Lib.hid H
  clear H h
  obtain ⟨x1, hx1⟩ : ∃ x1, layN 4195 (nat32 (D : Int)) 0 5 7 = x1 := ⟨_, rfl⟩
  have y1 : x1 < 4294967296 := by rw [← hx1]; exact lay_lt _ _ _ _ _ (by decide) (by decide)
  have K1 : ∀ W, Calls Tryd.prog 29 #[.int .u32 4195, .int .i64 D, .int .i64 0, .int .i64 5, .int .i64 7] W fun e w' => e = .returned (.int .u32 x1) ∧ W = w' := fun W => by
    have h := lay_any 4195 D 0 5 7 (by decide) (by omega) (by decide) (by decide) W
    rw [hx1] at h
    exact h
  obtain ⟨x2, hx2⟩ : ∃ x, layN x1 (nat32 (A : Int)) 0 5 15 = x := ⟨_, rfl⟩
  have y2 : x2 < 4294967296 := by rw [← hx2]; exact lay_lt _ _ _ _ _ y1 (by decide)
  have K2 : ∀ W, Calls Tryd.prog 29 #[.int .u32 x1, .int .i64 A, .int .i64 0, .int .i64 5, .int .i64 15] W fun e w' => e = .returned (.int .u32 x2) ∧ W = w' := fun W => by
    have h := lay_any x1 A 0 5 15 y1 (by omega) (by decide) (by decide) W
    rw [hx2] at h
    exact h
  obtain ⟨x3, hx3⟩ : ∃ x, layN x2 (nat32 (B : Int)) 0 5 20 = x := ⟨_, rfl⟩
  have y3 : x3 < 4294967296 := by rw [← hx3]; exact lay_lt _ _ _ _ _ y2 (by decide)
  have K3 : ∀ W, Calls Tryd.prog 29 #[.int .u32 x2, .int .i64 B, .int .i64 0, .int .i64 5, .int .i64 20] W fun e w' => e = .returned (.int .u32 x3) ∧ W = w' := fun W => by
    have h := lay_any x2 B 0 5 20 y2 (by omega) (by decide) (by decide) W
    rw [hx3] at h
    exact h
  obtain ⟨x4, hx4⟩ : ∃ x, layN x3 (nat32 n) 1 4 8 = x := ⟨_, rfl⟩
  have y4 : x4 < 4294967296 := by rw [← hx4]; exact lay_lt _ _ _ _ _ y3 (by decide)
  have K4 : ∀ W, Calls Tryd.prog 29 #[.int .u32 x3, .int .i64 n, .int .i64 1, .int .i64 4, .int .i64 8] W fun e w' => e = .returned (.int .u32 x4) ∧ W = w' := fun W => by
    have h := lay_any x3 n 1 4 8 y3 (by omega) (by decide) (by decide) W
    rw [hx4] at h
    exact h
  obtain ⟨x5, hx5⟩ : ∃ x, layN x4 (nat32 n) 5 6 25 = x := ⟨_, rfl⟩
  have y5 : x5 < 4294967296 := by rw [← hx5]; exact lay_lt _ _ _ _ _ y4 (by decide)
  have K5 : ∀ W, Calls Tryd.prog 29 #[.int .u32 x4, .int .i64 n, .int .i64 5, .int .i64 6, .int .i64 25] W fun e w' => e = .returned (.int .u32 x5) ∧ W = w' := fun W => by
    have h := lay_any x4 n 5 6 25 y4 (by omega) (by decide) (by decide) W
    rw [hx5] at h
    exact h
  obtain ⟨x6, hx6⟩ : ∃ x, layN x5 (nat32 n) 11 1 7 = x := ⟨_, rfl⟩
  have y6 : x6 < 4294967296 := by rw [← hx6]; exact lay_lt _ _ _ _ _ y5 (by decide)
  have K6 : ∀ W, Calls Tryd.prog 29 #[.int .u32 x5, .int .i64 n, .int .i64 11, .int .i64 1, .int .i64 7] W fun e w' => e = .returned (.int .u32 x6) ∧ W = w' := fun W => by
    have h := lay_any x5 n 11 1 7 y5 (by omega) (by decide) (by decide) W
    rw [hx6] at h
    exact h
  obtain ⟨x7, hx7⟩ : ∃ x, layN x6 (nat32 n) 12 1 31 = x := ⟨_, rfl⟩
  have y7 : x7 < 4294967296 := by rw [← hx7]; exact lay_lt _ _ _ _ _ y6 (by decide)
  have K7 : ∀ W, Calls Tryd.prog 29 #[.int .u32 x6, .int .i64 n, .int .i64 12, .int .i64 1, .int .i64 31] W fun e w' => e = .returned (.int .u32 x7) ∧ W = w' := fun W => by
    have h := lay_any x6 n 12 1 31 y6 (by omega) (by decide) (by decide) W
    rw [hx7] at h
    exact h
  have HE : Hid (encN 27 D A B (nat32 n) = x7) := Lib.hid (by
    rw [← hx7, ← hx6, ← hx5, ← hx4, ← hx3, ← hx2, ← hx1]
    simp only [lay_reg D hD, lay_reg A hA, lay_reg B hB, layN]
    exact ref_27 D A B (nat32 n))
  have H1 := Lib.hid K1
  have H2 := Lib.hid K2
  have H3 := Lib.hid K3
  have H4 := Lib.hid K4
  have H5 := Lib.hid K5
  have H6 := Lib.hid K6
  have H7 := Lib.hid K7
  clear K1 hx1 y1 K2 hx2 y2 K3 hx3 y3 K4 hx4 y4 K5 hx5 y5 K6 hx6 y6 K7 hx7 y7
  obtain ⟨v0, hv0⟩ : ∃ v0, w.heap.size = v0 := ⟨_, rfl⟩
  obtain ⟨W0, hW0⟩ : ∃ W0, w.alloc (.cells #[.int .i64 2, .int .i64 27, .int .i64 D, .int .i64 A, .int .i64 B, .int .i32 n, .string ⟨#[]⟩] 23) = W0 := ⟨_, rfl⟩
  have hB0 : Below w.heap.size w W0 := by rw [← hW0]; exact (Below.refl _ _).alloc (Nat.le_refl _) _
  have hLn : LnAt W0 v0 2 27 D A B n ⟨#[]⟩ := by rw [← hW0, ← hv0]; exact LnAt.new _ _ _ _ _ _ _ _ _
  have HL := Lib.hid (And.intro hLn hB0)
  obtain ⟨-, z0, z1, z2, z3, z4, z5, z6⟩ := hLn
  clear hB0
  go_enter Tryd.func14, Tryd.ntmps14
  go_wp2_with (go_at_call 10; (with_reducible refine (HM.out _).mono ?_); rintro e w1 ⟨rfl, hb1⟩
               obtain ⟨V, hV⟩ : ∃ V, (w1.alloc (.cells #[.int .u32 0, .int .u32 55, .int .u32 19, .int .u32 19, .int .u32 19, .int .u32 19, .int .u32 19, .int .u32 19, .int .u32 19, .int .u32 19, .int .u32 19, .int .u32 51, .int .u32 51, .int .u32 51, .int .u32 51, .int .u32 51, .int .u32 51, .int .u32 51, .int .u32 51, .int .u32 51, .int .u32 51, .int .u32 51, .int .u32 51, .int .u32 51, .int .u32 3, .int .u32 35, .int .u32 99, .int .u32 99, .int .u32 111, .int .u32 103, .int .u32 115] 30)).alloc (.cells #[.int .u32 0, .int .u32 0, .int .u32 0, .int .u32 2, .int .u32 3, .int .u32 4, .int .u32 6, .int .u32 7, .int .u32 1, .int .u32 5, .int .u32 5, .int .u32 0, .int .u32 0, .int .u32 1, .int .u32 2, .int .u32 3, .int .u32 4, .int .u32 5, .int .u32 5, .int .u32 6, .int .u32 7, .int .u32 0, .int .u32 4, .int .u32 6, .int .u32 2, .int .u32 2, .int .u32 0, .int .u32 1, .int .u32 0, .int .u32 0, .int .u32 0] 30) = V := ⟨_, rfl⟩
               have hbV : Below W0.heap.size W0 V := by rw [← hV]; exact (hb1.alloc hb1.size _).alloc (Nat.le_trans hb1.size (by simp)) _
               have HV := Lib.hid (And.intro (HL.out.1.below hbV) (HL.out.2.trans (hbV.mono HL.out.2.size)))
               obtain ⟨-, u0, u1, u2, u3, u4, u5, u6⟩ := HL.out.1.below hbV
               obtain ⟨r, hr⟩ : ∃ r, w1.heap.size = r := ⟨_, rfl⟩
               have t0 : V.cell? ⟨r, 27, none⟩ = some (.int .u32 99) := by
                 have h := cell_alloc_at w1 (#[.int .u32 0, .int .u32 55, .int .u32 19, .int .u32 19, .int .u32 19, .int .u32 19, .int .u32 19, .int .u32 19, .int .u32 19, .int .u32 19, .int .u32 19, .int .u32 51, .int .u32 51, .int .u32 51, .int .u32 51, .int .u32 51, .int .u32 51, .int .u32 51, .int .u32 51, .int .u32 51, .int .u32 51, .int .u32 51, .int .u32 51, .int .u32 51, .int .u32 3, .int .u32 35, .int .u32 99, .int .u32 99, .int .u32 111, .int .u32 103, .int .u32 115]) 30 27 _ rfl
                 rw [← hV, ← hr]
                 exact cell_alloc h _
               have t1 : V.cell? ⟨r + 1, 27, none⟩ = some (.int .u32 1) := by
                 have h := cell_alloc_at (w1.alloc (.cells #[.int .u32 0, .int .u32 55, .int .u32 19, .int .u32 19, .int .u32 19, .int .u32 19, .int .u32 19, .int .u32 19, .int .u32 19, .int .u32 19, .int .u32 19, .int .u32 51, .int .u32 51, .int .u32 51, .int .u32 51, .int .u32 51, .int .u32 51, .int .u32 51, .int .u32 51, .int .u32 51, .int .u32 51, .int .u32 51, .int .u32 51, .int .u32 51, .int .u32 3, .int .u32 35, .int .u32 99, .int .u32 99, .int .u32 111, .int .u32 103, .int .u32 115] 30)) (#[.int .u32 0, .int .u32 0, .int .u32 0, .int .u32 2, .int .u32 3, .int .u32 4, .int .u32 6, .int .u32 7, .int .u32 1, .int .u32 5, .int .u32 5, .int .u32 0, .int .u32 0, .int .u32 1, .int .u32 2, .int .u32 3, .int .u32 4, .int .u32 5, .int .u32 5, .int .u32 6, .int .u32 7, .int .u32 0, .int .u32 4, .int .u32 6, .int .u32 2, .int .u32 2, .int .u32 0, .int .u32 1, .int .u32 0, .int .u32 0, .int .u32 0]) 30 27 _ rfl
                 rw [show (w1.alloc (.cells #[.int .u32 0, .int .u32 55, .int .u32 19, .int .u32 19, .int .u32 19, .int .u32 19, .int .u32 19, .int .u32 19, .int .u32 19, .int .u32 19, .int .u32 19, .int .u32 51, .int .u32 51, .int .u32 51, .int .u32 51, .int .u32 51, .int .u32 51, .int .u32 51, .int .u32 51, .int .u32 51, .int .u32 51, .int .u32 51, .int .u32 51, .int .u32 51, .int .u32 3, .int .u32 35, .int .u32 99, .int .u32 99, .int .u32 111, .int .u32 103, .int .u32 115] 30)).heap.size = r + 1 from by rw [← hr]; simp] at h
                 rw [← hV]
                 exact h
               clear hb1 hbV)
  go_big_quiet (fail)
  go_wp2_with (first
    | (go_at_call 29; (with_reducible refine (H1.out _).mono ?_); rintro e w' ⟨rfl, rfl⟩)
    | (go_at_call 29; (with_reducible refine (H2.out _).mono ?_); rintro e w' ⟨rfl, rfl⟩)
    | (go_at_call 29; (with_reducible refine (H3.out _).mono ?_); rintro e w' ⟨rfl, rfl⟩)
    | (go_at_call 29; (with_reducible refine (H4.out _).mono ?_); rintro e w' ⟨rfl, rfl⟩)
    | (go_at_call 29; (with_reducible refine (H5.out _).mono ?_); rintro e w' ⟨rfl, rfl⟩)
    | (go_at_call 29; (with_reducible refine (H6.out _).mono ?_); rintro e w' ⟨rfl, rfl⟩)
    | (go_at_call 29; (with_reducible refine (H7.out _).mono ?_); rintro e w' ⟨rfl, rfl⟩))
  go_ret2
  exact ⟨by rw [HE.out]; rfl, below_drewN HV.out.2 _⟩
theorem ref_28 (D A B N : Nat) : encN 28 D A B N = 111 ||| D * 2 ^ 7 ||| A * 2 ^ 15 ||| B * 2 ^ 20 ||| cutN N 1 10 * 2 ^ 21 ||| cutN N 11 1 * 2 ^ 20 ||| cutN N 12 8 * 2 ^ 12 ||| cutN N 20 1 * 2 ^ 31 := by
  have e1 : formN 28 = 8 := by decide
  have e2 : stampW (lowN 28) (midN 28) (highN 28) = 111 := by decide
  unfold encN wordW
  rw [e1, e2, laid_8]
  ac_rfl
set_option maxHeartbeats 1600000 in
theorem rencode_28 (D A B : Nat) (n : Int) (b1 : -2147483648 ≤ n) (b2 : n ≤ 2147483647) (hD : D < 32) (hA : A < 32) (hB : B < 32) (h : mayI ⟨28, D, A, B, n⟩ = true) (w : World) :
    Calls Tryd.prog 14 #[.agg #[.int .i64 2, .int .i64 28, .int .i64 D, .int .i64 A, .int .i64 B, .int .i32 n, .string ⟨#[]⟩]] w fun e w' => e = .returned (.tuple #[.int .u32 (encN 28 D A B (nat32 n) : Nat), .bool true]) ∧ Below w.heap.size w w' := by
  have H := fun w => rmayLine_any 28 D A B n b1 b2 w
  rw [h] at H
  have HM := Lib.hid H
  clear H h
  obtain ⟨x1, hx1⟩ : ∃ x1, layN 111 (nat32 (D : Int)) 0 5 7 = x1 := ⟨_, rfl⟩
  have y1 : x1 < 4294967296 := by rw [← hx1]; exact lay_lt _ _ _ _ _ (by decide) (by decide)
  have K1 : ∀ W, Calls Tryd.prog 29 #[.int .u32 111, .int .i64 D, .int .i64 0, .int .i64 5, .int .i64 7] W fun e w' => e = .returned (.int .u32 x1) ∧ W = w' := fun W => by
    have h := lay_any 111 D 0 5 7 (by decide) (by omega) (by decide) (by decide) W
    rw [hx1] at h
    exact h
  obtain ⟨x2, hx2⟩ : ∃ x, layN x1 (nat32 (A : Int)) 0 5 15 = x := ⟨_, rfl⟩
  have y2 : x2 < 4294967296 := by rw [← hx2]; exact lay_lt _ _ _ _ _ y1 (by decide)
  have K2 : ∀ W, Calls Tryd.prog 29 #[.int .u32 x1, .int .i64 A, .int .i64 0, .int .i64 5, .int .i64 15] W fun e w' => e = .returned (.int .u32 x2) ∧ W = w' := fun W => by
    have h := lay_any x1 A 0 5 15 y1 (by omega) (by decide) (by decide) W
    rw [hx2] at h
    exact h
  obtain ⟨x3, hx3⟩ : ∃ x, layN x2 (nat32 (B : Int)) 0 5 20 = x := ⟨_, rfl⟩
  have y3 : x3 < 4294967296 := by rw [← hx3]; exact lay_lt _ _ _ _ _ y2 (by decide)
  have K3 : ∀ W, Calls Tryd.prog 29 #[.int .u32 x2, .int .i64 B, .int .i64 0, .int .i64 5, .int .i64 20] W fun e w' => e = .returned (.int .u32 x3) ∧ W = w' := fun W => by
    have h := lay_any x2 B 0 5 20 y2 (by omega) (by decide) (by decide) W
    rw [hx3] at h
    exact h
  obtain ⟨x4, hx4⟩ : ∃ x, layN x3 (nat32 n) 1 10 21 = x := ⟨_, rfl⟩
  have y4 : x4 < 4294967296 := by rw [← hx4]; exact lay_lt _ _ _ _ _ y3 (by decide)
  have K4 : ∀ W, Calls Tryd.prog 29 #[.int .u32 x3, .int .i64 n, .int .i64 1, .int .i64 10, .int .i64 21] W fun e w' => e = .returned (.int .u32 x4) ∧ W = w' := fun W => by
    have h := lay_any x3 n 1 10 21 y3 (by omega) (by decide) (by decide) W
    rw [hx4] at h
    exact h
  obtain ⟨x5, hx5⟩ : ∃ x, layN x4 (nat32 n) 11 1 20 = x := ⟨_, rfl⟩
  have y5 : x5 < 4294967296 := by rw [← hx5]; exact lay_lt _ _ _ _ _ y4 (by decide)
  have K5 : ∀ W, Calls Tryd.prog 29 #[.int .u32 x4, .int .i64 n, .int .i64 11, .int .i64 1, .int .i64 20] W fun e w' => e = .returned (.int .u32 x5) ∧ W = w' := fun W => by
    have h := lay_any x4 n 11 1 20 y4 (by omega) (by decide) (by decide) W
    rw [hx5] at h
    exact h
  obtain ⟨x6, hx6⟩ : ∃ x, layN x5 (nat32 n) 12 8 12 = x := ⟨_, rfl⟩
  have y6 : x6 < 4294967296 := by rw [← hx6]; exact lay_lt _ _ _ _ _ y5 (by decide)
  have K6 : ∀ W, Calls Tryd.prog 29 #[.int .u32 x5, .int .i64 n, .int .i64 12, .int .i64 8, .int .i64 12] W fun e w' => e = .returned (.int .u32 x6) ∧ W = w' := fun W => by
    have h := lay_any x5 n 12 8 12 y5 (by omega) (by decide) (by decide) W
    rw [hx6] at h
    exact h
  obtain ⟨x7, hx7⟩ : ∃ x, layN x6 (nat32 n) 20 1 31 = x := ⟨_, rfl⟩
  have y7 : x7 < 4294967296 := by rw [← hx7]; exact lay_lt _ _ _ _ _ y6 (by decide)
  have K7 : ∀ W, Calls Tryd.prog 29 #[.int .u32 x6, .int .i64 n, .int .i64 20, .int .i64 1, .int .i64 31] W fun e w' => e = .returned (.int .u32 x7) ∧ W = w' := fun W => by
    have h := lay_any x6 n 20 1 31 y6 (by omega) (by decide) (by decide) W
    rw [hx7] at h
    exact h
  have HE : Hid (encN 28 D A B (nat32 n) = x7) := Lib.hid (by
    rw [← hx7, ← hx6, ← hx5, ← hx4, ← hx3, ← hx2, ← hx1]
    simp only [lay_reg D hD, lay_reg A hA, lay_reg B hB, layN]
    exact ref_28 D A B (nat32 n))
  have H1 := Lib.hid K1
  have H2 := Lib.hid K2
  have H3 := Lib.hid K3
  have H4 := Lib.hid K4
  have H5 := Lib.hid K5
  have H6 := Lib.hid K6
  have H7 := Lib.hid K7
  clear K1 hx1 y1 K2 hx2 y2 K3 hx3 y3 K4 hx4 y4 K5 hx5 y5 K6 hx6 y6 K7 hx7 y7
  obtain ⟨v0, hv0⟩ : ∃ v0, w.heap.size = v0 := ⟨_, rfl⟩
  obtain ⟨W0, hW0⟩ : ∃ W0, w.alloc (.cells #[.int .i64 2, .int .i64 28, .int .i64 D, .int .i64 A, .int .i64 B, .int .i32 n, .string ⟨#[]⟩] 23) = W0 := ⟨_, rfl⟩
  have hB0 : Below w.heap.size w W0 := by rw [← hW0]; exact (Below.refl _ _).alloc (Nat.le_refl _) _
  have hLn : LnAt W0 v0 2 28 D A B n ⟨#[]⟩ := by rw [← hW0, ← hv0]; exact LnAt.new _ _ _ _ _ _ _ _ _
  have HL := Lib.hid (And.intro hLn hB0)
  obtain ⟨-, z0, z1, z2, z3, z4, z5, z6⟩ := hLn
  clear hB0
  go_enter Tryd.func14, Tryd.ntmps14
  go_wp2_with (go_at_call 10; (with_reducible refine (HM.out _).mono ?_); rintro e w1 ⟨rfl, hb1⟩
               obtain ⟨V, hV⟩ : ∃ V, (w1.alloc (.cells #[.int .u32 0, .int .u32 55, .int .u32 19, .int .u32 19, .int .u32 19, .int .u32 19, .int .u32 19, .int .u32 19, .int .u32 19, .int .u32 19, .int .u32 19, .int .u32 51, .int .u32 51, .int .u32 51, .int .u32 51, .int .u32 51, .int .u32 51, .int .u32 51, .int .u32 51, .int .u32 51, .int .u32 51, .int .u32 51, .int .u32 51, .int .u32 51, .int .u32 3, .int .u32 35, .int .u32 99, .int .u32 99, .int .u32 111, .int .u32 103, .int .u32 115] 30)).alloc (.cells #[.int .u32 0, .int .u32 0, .int .u32 0, .int .u32 2, .int .u32 3, .int .u32 4, .int .u32 6, .int .u32 7, .int .u32 1, .int .u32 5, .int .u32 5, .int .u32 0, .int .u32 0, .int .u32 1, .int .u32 2, .int .u32 3, .int .u32 4, .int .u32 5, .int .u32 5, .int .u32 6, .int .u32 7, .int .u32 0, .int .u32 4, .int .u32 6, .int .u32 2, .int .u32 2, .int .u32 0, .int .u32 1, .int .u32 0, .int .u32 0, .int .u32 0] 30) = V := ⟨_, rfl⟩
               have hbV : Below W0.heap.size W0 V := by rw [← hV]; exact (hb1.alloc hb1.size _).alloc (Nat.le_trans hb1.size (by simp)) _
               have HV := Lib.hid (And.intro (HL.out.1.below hbV) (HL.out.2.trans (hbV.mono HL.out.2.size)))
               obtain ⟨-, u0, u1, u2, u3, u4, u5, u6⟩ := HL.out.1.below hbV
               obtain ⟨r, hr⟩ : ∃ r, w1.heap.size = r := ⟨_, rfl⟩
               have t0 : V.cell? ⟨r, 28, none⟩ = some (.int .u32 111) := by
                 have h := cell_alloc_at w1 (#[.int .u32 0, .int .u32 55, .int .u32 19, .int .u32 19, .int .u32 19, .int .u32 19, .int .u32 19, .int .u32 19, .int .u32 19, .int .u32 19, .int .u32 19, .int .u32 51, .int .u32 51, .int .u32 51, .int .u32 51, .int .u32 51, .int .u32 51, .int .u32 51, .int .u32 51, .int .u32 51, .int .u32 51, .int .u32 51, .int .u32 51, .int .u32 51, .int .u32 3, .int .u32 35, .int .u32 99, .int .u32 99, .int .u32 111, .int .u32 103, .int .u32 115]) 30 28 _ rfl
                 rw [← hV, ← hr]
                 exact cell_alloc h _
               have t1 : V.cell? ⟨r + 1, 28, none⟩ = some (.int .u32 0) := by
                 have h := cell_alloc_at (w1.alloc (.cells #[.int .u32 0, .int .u32 55, .int .u32 19, .int .u32 19, .int .u32 19, .int .u32 19, .int .u32 19, .int .u32 19, .int .u32 19, .int .u32 19, .int .u32 19, .int .u32 51, .int .u32 51, .int .u32 51, .int .u32 51, .int .u32 51, .int .u32 51, .int .u32 51, .int .u32 51, .int .u32 51, .int .u32 51, .int .u32 51, .int .u32 51, .int .u32 51, .int .u32 3, .int .u32 35, .int .u32 99, .int .u32 99, .int .u32 111, .int .u32 103, .int .u32 115] 30)) (#[.int .u32 0, .int .u32 0, .int .u32 0, .int .u32 2, .int .u32 3, .int .u32 4, .int .u32 6, .int .u32 7, .int .u32 1, .int .u32 5, .int .u32 5, .int .u32 0, .int .u32 0, .int .u32 1, .int .u32 2, .int .u32 3, .int .u32 4, .int .u32 5, .int .u32 5, .int .u32 6, .int .u32 7, .int .u32 0, .int .u32 4, .int .u32 6, .int .u32 2, .int .u32 2, .int .u32 0, .int .u32 1, .int .u32 0, .int .u32 0, .int .u32 0]) 30 28 _ rfl
                 rw [show (w1.alloc (.cells #[.int .u32 0, .int .u32 55, .int .u32 19, .int .u32 19, .int .u32 19, .int .u32 19, .int .u32 19, .int .u32 19, .int .u32 19, .int .u32 19, .int .u32 19, .int .u32 51, .int .u32 51, .int .u32 51, .int .u32 51, .int .u32 51, .int .u32 51, .int .u32 51, .int .u32 51, .int .u32 51, .int .u32 51, .int .u32 51, .int .u32 51, .int .u32 51, .int .u32 3, .int .u32 35, .int .u32 99, .int .u32 99, .int .u32 111, .int .u32 103, .int .u32 115] 30)).heap.size = r + 1 from by rw [← hr]; simp] at h
                 rw [← hV]
                 exact h
               clear hb1 hbV)
  go_big_quiet (fail)
  go_wp2_with (first
    | (go_at_call 29; (with_reducible refine (H1.out _).mono ?_); rintro e w' ⟨rfl, rfl⟩)
    | (go_at_call 29; (with_reducible refine (H2.out _).mono ?_); rintro e w' ⟨rfl, rfl⟩)
    | (go_at_call 29; (with_reducible refine (H3.out _).mono ?_); rintro e w' ⟨rfl, rfl⟩)
    | (go_at_call 29; (with_reducible refine (H4.out _).mono ?_); rintro e w' ⟨rfl, rfl⟩)
    | (go_at_call 29; (with_reducible refine (H5.out _).mono ?_); rintro e w' ⟨rfl, rfl⟩)
    | (go_at_call 29; (with_reducible refine (H6.out _).mono ?_); rintro e w' ⟨rfl, rfl⟩)
    | (go_at_call 29; (with_reducible refine (H7.out _).mono ?_); rintro e w' ⟨rfl, rfl⟩))
  go_ret2
  exact ⟨by rw [HE.out]; rfl, below_drewN HV.out.2 _⟩
theorem ref_29 (D A B N : Nat) : encN 29 D A B N = 103 ||| D * 2 ^ 7 ||| A * 2 ^ 15 ||| B * 2 ^ 20 ||| cutN N 0 12 * 2 ^ 20 := by
  have e1 : formN 29 = 3 := by decide
  have e2 : stampW (lowN 29) (midN 29) (highN 29) = 103 := by decide
  unfold encN wordW
  rw [e1, e2, laid_3]
set_option maxHeartbeats 1600000 in
theorem rencode_29 (D A B : Nat) (n : Int) (b1 : -2147483648 ≤ n) (b2 : n ≤ 2147483647) (hD : D < 32) (hA : A < 32) (hB : B < 32) (h : mayI ⟨29, D, A, B, n⟩ = true) (w : World) :
    Calls Tryd.prog 14 #[.agg #[.int .i64 2, .int .i64 29, .int .i64 D, .int .i64 A, .int .i64 B, .int .i32 n, .string ⟨#[]⟩]] w fun e w' => e = .returned (.tuple #[.int .u32 (encN 29 D A B (nat32 n) : Nat), .bool true]) ∧ Below w.heap.size w w' := by
  have H := fun w => rmayLine_any 29 D A B n b1 b2 w
  rw [h] at H
  have HM := Lib.hid H
  clear H h
  obtain ⟨x1, hx1⟩ : ∃ x1, layN 103 (nat32 (D : Int)) 0 5 7 = x1 := ⟨_, rfl⟩
  have y1 : x1 < 4294967296 := by rw [← hx1]; exact lay_lt _ _ _ _ _ (by decide) (by decide)
  have K1 : ∀ W, Calls Tryd.prog 29 #[.int .u32 103, .int .i64 D, .int .i64 0, .int .i64 5, .int .i64 7] W fun e w' => e = .returned (.int .u32 x1) ∧ W = w' := fun W => by
    have h := lay_any 103 D 0 5 7 (by decide) (by omega) (by decide) (by decide) W
    rw [hx1] at h
    exact h
  obtain ⟨x2, hx2⟩ : ∃ x, layN x1 (nat32 (A : Int)) 0 5 15 = x := ⟨_, rfl⟩
  have y2 : x2 < 4294967296 := by rw [← hx2]; exact lay_lt _ _ _ _ _ y1 (by decide)
  have K2 : ∀ W, Calls Tryd.prog 29 #[.int .u32 x1, .int .i64 A, .int .i64 0, .int .i64 5, .int .i64 15] W fun e w' => e = .returned (.int .u32 x2) ∧ W = w' := fun W => by
    have h := lay_any x1 A 0 5 15 y1 (by omega) (by decide) (by decide) W
    rw [hx2] at h
    exact h
  obtain ⟨x3, hx3⟩ : ∃ x, layN x2 (nat32 (B : Int)) 0 5 20 = x := ⟨_, rfl⟩
  have y3 : x3 < 4294967296 := by rw [← hx3]; exact lay_lt _ _ _ _ _ y2 (by decide)
  have K3 : ∀ W, Calls Tryd.prog 29 #[.int .u32 x2, .int .i64 B, .int .i64 0, .int .i64 5, .int .i64 20] W fun e w' => e = .returned (.int .u32 x3) ∧ W = w' := fun W => by
    have h := lay_any x2 B 0 5 20 y2 (by omega) (by decide) (by decide) W
    rw [hx3] at h
    exact h
  obtain ⟨x4, hx4⟩ : ∃ x, layN x3 (nat32 n) 0 12 20 = x := ⟨_, rfl⟩
  have y4 : x4 < 4294967296 := by rw [← hx4]; exact lay_lt _ _ _ _ _ y3 (by decide)
  have K4 : ∀ W, Calls Tryd.prog 29 #[.int .u32 x3, .int .i64 n, .int .i64 0, .int .i64 12, .int .i64 20] W fun e w' => e = .returned (.int .u32 x4) ∧ W = w' := fun W => by
    have h := lay_any x3 n 0 12 20 y3 (by omega) (by decide) (by decide) W
    rw [hx4] at h
    exact h
  have HE : Hid (encN 29 D A B (nat32 n) = x4) := Lib.hid (by
    rw [← hx4, ← hx3, ← hx2, ← hx1]
    simp only [lay_reg D hD, lay_reg A hA, lay_reg B hB, layN]
    exact ref_29 D A B (nat32 n))
  have H1 := Lib.hid K1
  have H2 := Lib.hid K2
  have H3 := Lib.hid K3
  have H4 := Lib.hid K4
  clear K1 hx1 y1 K2 hx2 y2 K3 hx3 y3 K4 hx4 y4
  obtain ⟨v0, hv0⟩ : ∃ v0, w.heap.size = v0 := ⟨_, rfl⟩
  obtain ⟨W0, hW0⟩ : ∃ W0, w.alloc (.cells #[.int .i64 2, .int .i64 29, .int .i64 D, .int .i64 A, .int .i64 B, .int .i32 n, .string ⟨#[]⟩] 23) = W0 := ⟨_, rfl⟩
  have hB0 : Below w.heap.size w W0 := by rw [← hW0]; exact (Below.refl _ _).alloc (Nat.le_refl _) _
  have hLn : LnAt W0 v0 2 29 D A B n ⟨#[]⟩ := by rw [← hW0, ← hv0]; exact LnAt.new _ _ _ _ _ _ _ _ _
  have HL := Lib.hid (And.intro hLn hB0)
  obtain ⟨-, z0, z1, z2, z3, z4, z5, z6⟩ := hLn
  clear hB0
  go_enter Tryd.func14, Tryd.ntmps14
  go_wp2_with (go_at_call 10; (with_reducible refine (HM.out _).mono ?_); rintro e w1 ⟨rfl, hb1⟩
               obtain ⟨V, hV⟩ : ∃ V, (w1.alloc (.cells #[.int .u32 0, .int .u32 55, .int .u32 19, .int .u32 19, .int .u32 19, .int .u32 19, .int .u32 19, .int .u32 19, .int .u32 19, .int .u32 19, .int .u32 19, .int .u32 51, .int .u32 51, .int .u32 51, .int .u32 51, .int .u32 51, .int .u32 51, .int .u32 51, .int .u32 51, .int .u32 51, .int .u32 51, .int .u32 51, .int .u32 51, .int .u32 51, .int .u32 3, .int .u32 35, .int .u32 99, .int .u32 99, .int .u32 111, .int .u32 103, .int .u32 115] 30)).alloc (.cells #[.int .u32 0, .int .u32 0, .int .u32 0, .int .u32 2, .int .u32 3, .int .u32 4, .int .u32 6, .int .u32 7, .int .u32 1, .int .u32 5, .int .u32 5, .int .u32 0, .int .u32 0, .int .u32 1, .int .u32 2, .int .u32 3, .int .u32 4, .int .u32 5, .int .u32 5, .int .u32 6, .int .u32 7, .int .u32 0, .int .u32 4, .int .u32 6, .int .u32 2, .int .u32 2, .int .u32 0, .int .u32 1, .int .u32 0, .int .u32 0, .int .u32 0] 30) = V := ⟨_, rfl⟩
               have hbV : Below W0.heap.size W0 V := by rw [← hV]; exact (hb1.alloc hb1.size _).alloc (Nat.le_trans hb1.size (by simp)) _
               have HV := Lib.hid (And.intro (HL.out.1.below hbV) (HL.out.2.trans (hbV.mono HL.out.2.size)))
               obtain ⟨-, u0, u1, u2, u3, u4, u5, u6⟩ := HL.out.1.below hbV
               obtain ⟨r, hr⟩ : ∃ r, w1.heap.size = r := ⟨_, rfl⟩
               have t0 : V.cell? ⟨r, 29, none⟩ = some (.int .u32 103) := by
                 have h := cell_alloc_at w1 (#[.int .u32 0, .int .u32 55, .int .u32 19, .int .u32 19, .int .u32 19, .int .u32 19, .int .u32 19, .int .u32 19, .int .u32 19, .int .u32 19, .int .u32 19, .int .u32 51, .int .u32 51, .int .u32 51, .int .u32 51, .int .u32 51, .int .u32 51, .int .u32 51, .int .u32 51, .int .u32 51, .int .u32 51, .int .u32 51, .int .u32 51, .int .u32 51, .int .u32 3, .int .u32 35, .int .u32 99, .int .u32 99, .int .u32 111, .int .u32 103, .int .u32 115]) 30 29 _ rfl
                 rw [← hV, ← hr]
                 exact cell_alloc h _
               have t1 : V.cell? ⟨r + 1, 29, none⟩ = some (.int .u32 0) := by
                 have h := cell_alloc_at (w1.alloc (.cells #[.int .u32 0, .int .u32 55, .int .u32 19, .int .u32 19, .int .u32 19, .int .u32 19, .int .u32 19, .int .u32 19, .int .u32 19, .int .u32 19, .int .u32 19, .int .u32 51, .int .u32 51, .int .u32 51, .int .u32 51, .int .u32 51, .int .u32 51, .int .u32 51, .int .u32 51, .int .u32 51, .int .u32 51, .int .u32 51, .int .u32 51, .int .u32 51, .int .u32 3, .int .u32 35, .int .u32 99, .int .u32 99, .int .u32 111, .int .u32 103, .int .u32 115] 30)) (#[.int .u32 0, .int .u32 0, .int .u32 0, .int .u32 2, .int .u32 3, .int .u32 4, .int .u32 6, .int .u32 7, .int .u32 1, .int .u32 5, .int .u32 5, .int .u32 0, .int .u32 0, .int .u32 1, .int .u32 2, .int .u32 3, .int .u32 4, .int .u32 5, .int .u32 5, .int .u32 6, .int .u32 7, .int .u32 0, .int .u32 4, .int .u32 6, .int .u32 2, .int .u32 2, .int .u32 0, .int .u32 1, .int .u32 0, .int .u32 0, .int .u32 0]) 30 29 _ rfl
                 rw [show (w1.alloc (.cells #[.int .u32 0, .int .u32 55, .int .u32 19, .int .u32 19, .int .u32 19, .int .u32 19, .int .u32 19, .int .u32 19, .int .u32 19, .int .u32 19, .int .u32 19, .int .u32 51, .int .u32 51, .int .u32 51, .int .u32 51, .int .u32 51, .int .u32 51, .int .u32 51, .int .u32 51, .int .u32 51, .int .u32 51, .int .u32 51, .int .u32 51, .int .u32 51, .int .u32 3, .int .u32 35, .int .u32 99, .int .u32 99, .int .u32 111, .int .u32 103, .int .u32 115] 30)).heap.size = r + 1 from by rw [← hr]; simp] at h
                 rw [← hV]
                 exact h
               clear hb1 hbV)
  go_big_quiet (fail)
  go_wp2_with (first
    | (go_at_call 29; (with_reducible refine (H1.out _).mono ?_); rintro e w' ⟨rfl, rfl⟩)
    | (go_at_call 29; (with_reducible refine (H2.out _).mono ?_); rintro e w' ⟨rfl, rfl⟩)
    | (go_at_call 29; (with_reducible refine (H3.out _).mono ?_); rintro e w' ⟨rfl, rfl⟩)
    | (go_at_call 29; (with_reducible refine (H4.out _).mono ?_); rintro e w' ⟨rfl, rfl⟩))
  go_ret2
  exact ⟨by rw [HE.out]; rfl, below_drewN HV.out.2 _⟩
theorem ref_30 (D A B N : Nat) : encN 30 D A B N = 115 ||| D * 2 ^ 7 ||| A * 2 ^ 15 ||| B * 2 ^ 20 := by
  have e1 : formN 30 = 1 := by decide
  have e2 : stampW (lowN 30) (midN 30) (highN 30) = 115 := by decide
  unfold encN wordW
  rw [e1, e2, laid_1]
  rw [Nat.or_zero]
set_option maxHeartbeats 1600000 in
theorem rencode_30 (D A B : Nat) (n : Int) (b1 : -2147483648 ≤ n) (b2 : n ≤ 2147483647) (hD : D < 32) (hA : A < 32) (hB : B < 32) (h : mayI ⟨30, D, A, B, n⟩ = true) (w : World) :
    Calls Tryd.prog 14 #[.agg #[.int .i64 2, .int .i64 30, .int .i64 D, .int .i64 A, .int .i64 B, .int .i32 n, .string ⟨#[]⟩]] w fun e w' => e = .returned (.tuple #[.int .u32 (encN 30 D A B (nat32 n) : Nat), .bool true]) ∧ Below w.heap.size w w' := by
  have H := fun w => rmayLine_any 30 D A B n b1 b2 w
  rw [h] at H
  have HM := Lib.hid H
  clear H h
  obtain ⟨x1, hx1⟩ : ∃ x1, layN 115 (nat32 (D : Int)) 0 5 7 = x1 := ⟨_, rfl⟩
  have y1 : x1 < 4294967296 := by rw [← hx1]; exact lay_lt _ _ _ _ _ (by decide) (by decide)
  have K1 : ∀ W, Calls Tryd.prog 29 #[.int .u32 115, .int .i64 D, .int .i64 0, .int .i64 5, .int .i64 7] W fun e w' => e = .returned (.int .u32 x1) ∧ W = w' := fun W => by
    have h := lay_any 115 D 0 5 7 (by decide) (by omega) (by decide) (by decide) W
    rw [hx1] at h
    exact h
  obtain ⟨x2, hx2⟩ : ∃ x, layN x1 (nat32 (A : Int)) 0 5 15 = x := ⟨_, rfl⟩
  have y2 : x2 < 4294967296 := by rw [← hx2]; exact lay_lt _ _ _ _ _ y1 (by decide)
  have K2 : ∀ W, Calls Tryd.prog 29 #[.int .u32 x1, .int .i64 A, .int .i64 0, .int .i64 5, .int .i64 15] W fun e w' => e = .returned (.int .u32 x2) ∧ W = w' := fun W => by
    have h := lay_any x1 A 0 5 15 y1 (by omega) (by decide) (by decide) W
    rw [hx2] at h
    exact h
  obtain ⟨x3, hx3⟩ : ∃ x, layN x2 (nat32 (B : Int)) 0 5 20 = x := ⟨_, rfl⟩
  have y3 : x3 < 4294967296 := by rw [← hx3]; exact lay_lt _ _ _ _ _ y2 (by decide)
  have K3 : ∀ W, Calls Tryd.prog 29 #[.int .u32 x2, .int .i64 B, .int .i64 0, .int .i64 5, .int .i64 20] W fun e w' => e = .returned (.int .u32 x3) ∧ W = w' := fun W => by
    have h := lay_any x2 B 0 5 20 y2 (by omega) (by decide) (by decide) W
    rw [hx3] at h
    exact h
  have HE : Hid (encN 30 D A B (nat32 n) = x3) := Lib.hid (by
    rw [← hx3, ← hx2, ← hx1]
    simp only [lay_reg D hD, lay_reg A hA, lay_reg B hB, layN]
    exact ref_30 D A B (nat32 n))
  have H1 := Lib.hid K1
  have H2 := Lib.hid K2
  have H3 := Lib.hid K3
  clear K1 hx1 y1 K2 hx2 y2 K3 hx3 y3
  obtain ⟨v0, hv0⟩ : ∃ v0, w.heap.size = v0 := ⟨_, rfl⟩
  obtain ⟨W0, hW0⟩ : ∃ W0, w.alloc (.cells #[.int .i64 2, .int .i64 30, .int .i64 D, .int .i64 A, .int .i64 B, .int .i32 n, .string ⟨#[]⟩] 23) = W0 := ⟨_, rfl⟩
  have hB0 : Below w.heap.size w W0 := by rw [← hW0]; exact (Below.refl _ _).alloc (Nat.le_refl _) _
  have hLn : LnAt W0 v0 2 30 D A B n ⟨#[]⟩ := by rw [← hW0, ← hv0]; exact LnAt.new _ _ _ _ _ _ _ _ _
  have HL := Lib.hid (And.intro hLn hB0)
  obtain ⟨-, z0, z1, z2, z3, z4, z5, z6⟩ := hLn
  clear hB0
  go_enter Tryd.func14, Tryd.ntmps14
  go_wp2_with (go_at_call 10; (with_reducible refine (HM.out _).mono ?_); rintro e w1 ⟨rfl, hb1⟩
               obtain ⟨V, hV⟩ : ∃ V, (w1.alloc (.cells #[.int .u32 0, .int .u32 55, .int .u32 19, .int .u32 19, .int .u32 19, .int .u32 19, .int .u32 19, .int .u32 19, .int .u32 19, .int .u32 19, .int .u32 19, .int .u32 51, .int .u32 51, .int .u32 51, .int .u32 51, .int .u32 51, .int .u32 51, .int .u32 51, .int .u32 51, .int .u32 51, .int .u32 51, .int .u32 51, .int .u32 51, .int .u32 51, .int .u32 3, .int .u32 35, .int .u32 99, .int .u32 99, .int .u32 111, .int .u32 103, .int .u32 115] 30)).alloc (.cells #[.int .u32 0, .int .u32 0, .int .u32 0, .int .u32 2, .int .u32 3, .int .u32 4, .int .u32 6, .int .u32 7, .int .u32 1, .int .u32 5, .int .u32 5, .int .u32 0, .int .u32 0, .int .u32 1, .int .u32 2, .int .u32 3, .int .u32 4, .int .u32 5, .int .u32 5, .int .u32 6, .int .u32 7, .int .u32 0, .int .u32 4, .int .u32 6, .int .u32 2, .int .u32 2, .int .u32 0, .int .u32 1, .int .u32 0, .int .u32 0, .int .u32 0] 30) = V := ⟨_, rfl⟩
               have hbV : Below W0.heap.size W0 V := by rw [← hV]; exact (hb1.alloc hb1.size _).alloc (Nat.le_trans hb1.size (by simp)) _
               have HV := Lib.hid (And.intro (HL.out.1.below hbV) (HL.out.2.trans (hbV.mono HL.out.2.size)))
               obtain ⟨-, u0, u1, u2, u3, u4, u5, u6⟩ := HL.out.1.below hbV
               obtain ⟨r, hr⟩ : ∃ r, w1.heap.size = r := ⟨_, rfl⟩
               have t0 : V.cell? ⟨r, 30, none⟩ = some (.int .u32 115) := by
                 have h := cell_alloc_at w1 (#[.int .u32 0, .int .u32 55, .int .u32 19, .int .u32 19, .int .u32 19, .int .u32 19, .int .u32 19, .int .u32 19, .int .u32 19, .int .u32 19, .int .u32 19, .int .u32 51, .int .u32 51, .int .u32 51, .int .u32 51, .int .u32 51, .int .u32 51, .int .u32 51, .int .u32 51, .int .u32 51, .int .u32 51, .int .u32 51, .int .u32 51, .int .u32 51, .int .u32 3, .int .u32 35, .int .u32 99, .int .u32 99, .int .u32 111, .int .u32 103, .int .u32 115]) 30 30 _ rfl
                 rw [← hV, ← hr]
                 exact cell_alloc h _
               have t1 : V.cell? ⟨r + 1, 30, none⟩ = some (.int .u32 0) := by
                 have h := cell_alloc_at (w1.alloc (.cells #[.int .u32 0, .int .u32 55, .int .u32 19, .int .u32 19, .int .u32 19, .int .u32 19, .int .u32 19, .int .u32 19, .int .u32 19, .int .u32 19, .int .u32 19, .int .u32 51, .int .u32 51, .int .u32 51, .int .u32 51, .int .u32 51, .int .u32 51, .int .u32 51, .int .u32 51, .int .u32 51, .int .u32 51, .int .u32 51, .int .u32 51, .int .u32 51, .int .u32 3, .int .u32 35, .int .u32 99, .int .u32 99, .int .u32 111, .int .u32 103, .int .u32 115] 30)) (#[.int .u32 0, .int .u32 0, .int .u32 0, .int .u32 2, .int .u32 3, .int .u32 4, .int .u32 6, .int .u32 7, .int .u32 1, .int .u32 5, .int .u32 5, .int .u32 0, .int .u32 0, .int .u32 1, .int .u32 2, .int .u32 3, .int .u32 4, .int .u32 5, .int .u32 5, .int .u32 6, .int .u32 7, .int .u32 0, .int .u32 4, .int .u32 6, .int .u32 2, .int .u32 2, .int .u32 0, .int .u32 1, .int .u32 0, .int .u32 0, .int .u32 0]) 30 30 _ rfl
                 rw [show (w1.alloc (.cells #[.int .u32 0, .int .u32 55, .int .u32 19, .int .u32 19, .int .u32 19, .int .u32 19, .int .u32 19, .int .u32 19, .int .u32 19, .int .u32 19, .int .u32 19, .int .u32 51, .int .u32 51, .int .u32 51, .int .u32 51, .int .u32 51, .int .u32 51, .int .u32 51, .int .u32 51, .int .u32 51, .int .u32 51, .int .u32 51, .int .u32 51, .int .u32 51, .int .u32 3, .int .u32 35, .int .u32 99, .int .u32 99, .int .u32 111, .int .u32 103, .int .u32 115] 30)).heap.size = r + 1 from by rw [← hr]; simp] at h
                 rw [← hV]
                 exact h
               clear hb1 hbV)
  go_big_quiet (fail)
  go_wp2_with (first
    | (go_at_call 29; (with_reducible refine (H1.out _).mono ?_); rintro e w' ⟨rfl, rfl⟩)
    | (go_at_call 29; (with_reducible refine (H2.out _).mono ?_); rintro e w' ⟨rfl, rfl⟩)
    | (go_at_call 29; (with_reducible refine (H3.out _).mono ?_); rintro e w' ⟨rfl, rfl⟩))
  go_ret2
  exact ⟨by rw [HE.out]; rfl, below_drewN HV.out.2 _⟩
end Go.Proofs.YtonkpojoniehlaaDoor
