/-
  The document's Encode, part 2.
-/
import Derived.Test.YtonkpojoniehlaaDoorKmn
import Derived.Test.YtonkpojoniehlaaDoorKmp
namespace Go.Proofs.YtonkpojoniehlaaDoor
open Go.RowKit
set_option linter.unusedVariables false
set_option linter.unusedSimpArgs false
set_option maxRecDepth 100000

theorem ref_17 (D A B N : Nat) : encN 17 D A B N = 20531 ||| D * 2 ^ 7 ||| A * 2 ^ 15 ||| B * 2 ^ 20 := by
  have e1 : formN 17 = 2 := by decide
  have e2 : stampW (lowN 17) (midN 17) (highN 17) = 20531 := by decide
  unfold encN wordW
  rw [e1, e2, laid_2]
  rw [Nat.or_zero]
set_option maxHeartbeats 1600000 in
theorem rencode_17 (D A B : Nat) (n : Int) (b1 : -2147483648 ≤ n) (b2 : n ≤ 2147483647) (hD : D < 32) (hA : A < 32) (hB : B < 32) (h : mayI ⟨17, D, A, B, n⟩ = true) (w : World) :
    Calls Tryd.prog 14 #[.agg #[.int .i64 2, .int .i64 17, .int .i64 D, .int .i64 A, .int .i64 B, .int .i32 n, .string ⟨#[]⟩]] w fun e w' => e = .returned (.tuple #[.int .u32 (encN 17 D A B (nat32 n) : Nat), .bool true]) ∧ Below w.heap.size w w' := by
  have H := fun w => rmayLine_any 17 D A B n b1 b2 w
  rw [h] at H
  have HM := Lib.hid H
  clear H h
  obtain ⟨x1, hx1⟩ : ∃ x1, layN 20531 (nat32 (D : Int)) 0 5 7 = x1 := ⟨_, rfl⟩
  have y1 : x1 < 4294967296 := by rw [← hx1]; exact lay_lt _ _ _ _ _ (by decide) (by decide)
  have K1 : ∀ W, Calls Tryd.prog 29 #[.int .u32 20531, .int .i64 D, .int .i64 0, .int .i64 5, .int .i64 7] W fun e w' => e = .returned (.int .u32 x1) ∧ W = w' := fun W => by
    have h := lay_any 20531 D 0 5 7 (by decide) (by omega) (by decide) (by decide) W
    rw [hx1] at h
    exact h
  obtain ⟨x2, hx2⟩ : ∃ x, layN x1 (nat32 (A : Int)) 0 5 15 = x := ⟨_, rfl⟩
  have y2 : x2 < 4294967296 := by rw [← hx2]; exact lay_lt _ _ _ _ _ y1 (by decide)
  have K2 : ∀ W, Calls Tryd.prog 29 #[.int .u32 x1, .int .i64 A, .int .i64 0, .int .i64 5, .int .i64 15] W fun e w' => e = .returned (.int .u32 x2) ∧ W = w' := fun W => by
    have h := lay_any x1 A 0 5 15 y1 (by omega) (by decide) (by decide) W
    rw [hx2] at h
    exact h
  obtain ⟨x3, hx3⟩ : ∃ x, layN x2 (nat32 (B : Int)) 0 5 20 = x := ⟨_, rfl⟩
  have y3 : x3 < 4294967296 := by rw [← hx3]; exact lay_lt _ _ _ _ _ y2 (by decide)
  have K3 : ∀ W, Calls Tryd.prog 29 #[.int .u32 x2, .int .i64 B, .int .i64 0, .int .i64 5, .int .i64 20] W fun e w' => e = .returned (.int .u32 x3) ∧ W = w' := fun W => by
    have h := lay_any x2 B 0 5 20 y2 (by omega) (by decide) (by decide) W
    rw [hx3] at h
    exact h
  have HE : Hid (encN 17 D A B (nat32 n) = x3) := Lib.hid (by
    rw [← hx3, ← hx2, ← hx1]
    simp only [lay_reg D hD, lay_reg A hA, lay_reg B hB, layN]
    exact ref_17 D A B (nat32 n))
  have H1 := Lib.hid K1
  have H2 := Lib.hid K2
  have H3 := Lib.hid K3
  clear K1 hx1 y1 K2 hx2 y2 K3 hx3 y3
  obtain ⟨v0, hv0⟩ : ∃ v0, w.heap.size = v0 := ⟨_, rfl⟩
  obtain ⟨W0, hW0⟩ : ∃ W0, w.alloc (.cells #[.int .i64 2, .int .i64 17, .int .i64 D, .int .i64 A, .int .i64 B, .int .i32 n, .string ⟨#[]⟩] 23) = W0 := ⟨_, rfl⟩
  have hB0 : Below w.heap.size w W0 := by rw [← hW0]; exact (Below.refl _ _).alloc (Nat.le_refl _) _
  have hLn : LnAt W0 v0 2 17 D A B n ⟨#[]⟩ := by rw [← hW0, ← hv0]; exact LnAt.new _ _ _ _ _ _ _ _ _
  have HL := Lib.hid (And.intro hLn hB0)
  obtain ⟨-, z0, z1, z2, z3, z4, z5, z6⟩ := hLn
  clear hB0
  go_enter Tryd.func14, Tryd.ntmps14
  go_wp2_with (go_at_call 10; (with_reducible refine (HM.out _).mono ?_); rintro e w1 ⟨rfl, hb1⟩
               obtain ⟨V, hV⟩ : ∃ V, (w1.alloc (.cells #[.int .u32 0, .int .u32 55, .int .u32 19, .int .u32 19, .int .u32 19, .int .u32 19, .int .u32 19, .int .u32 19, .int .u32 19, .int .u32 19, .int .u32 19, .int .u32 51, .int .u32 51, .int .u32 51, .int .u32 51, .int .u32 51, .int .u32 51, .int .u32 51, .int .u32 51, .int .u32 51, .int .u32 51, .int .u32 51, .int .u32 51, .int .u32 51, .int .u32 3, .int .u32 35, .int .u32 99, .int .u32 99, .int .u32 111, .int .u32 103, .int .u32 115] 30)).alloc (.cells #[.int .u32 0, .int .u32 0, .int .u32 0, .int .u32 2, .int .u32 3, .int .u32 4, .int .u32 6, .int .u32 7, .int .u32 1, .int .u32 5, .int .u32 5, .int .u32 0, .int .u32 0, .int .u32 1, .int .u32 2, .int .u32 3, .int .u32 4, .int .u32 5, .int .u32 5, .int .u32 6, .int .u32 7, .int .u32 0, .int .u32 4, .int .u32 6, .int .u32 2, .int .u32 2, .int .u32 0, .int .u32 1, .int .u32 0, .int .u32 0, .int .u32 0] 30) = V := ⟨_, rfl⟩
               have hbV : Below W0.heap.size W0 V := by rw [← hV]; exact (hb1.alloc hb1.size _).alloc (Nat.le_trans hb1.size (by simp)) _
               have HV := Lib.hid (And.intro (HL.out.1.below hbV) (HL.out.2.trans (hbV.mono HL.out.2.size)))
               obtain ⟨-, u0, u1, u2, u3, u4, u5, u6⟩ := HL.out.1.below hbV
               obtain ⟨r, hr⟩ : ∃ r, w1.heap.size = r := ⟨_, rfl⟩
               have t0 : V.cell? ⟨r, 17, none⟩ = some (.int .u32 51) := by
                 have h := cell_alloc_at w1 (#[.int .u32 0, .int .u32 55, .int .u32 19, .int .u32 19, .int .u32 19, .int .u32 19, .int .u32 19, .int .u32 19, .int .u32 19, .int .u32 19, .int .u32 19, .int .u32 51, .int .u32 51, .int .u32 51, .int .u32 51, .int .u32 51, .int .u32 51, .int .u32 51, .int .u32 51, .int .u32 51, .int .u32 51, .int .u32 51, .int .u32 51, .int .u32 51, .int .u32 3, .int .u32 35, .int .u32 99, .int .u32 99, .int .u32 111, .int .u32 103, .int .u32 115]) 30 17 _ rfl
                 rw [← hV, ← hr]
                 exact cell_alloc h _
               have t1 : V.cell? ⟨r + 1, 17, none⟩ = some (.int .u32 5) := by
                 have h := cell_alloc_at (w1.alloc (.cells #[.int .u32 0, .int .u32 55, .int .u32 19, .int .u32 19, .int .u32 19, .int .u32 19, .int .u32 19, .int .u32 19, .int .u32 19, .int .u32 19, .int .u32 19, .int .u32 51, .int .u32 51, .int .u32 51, .int .u32 51, .int .u32 51, .int .u32 51, .int .u32 51, .int .u32 51, .int .u32 51, .int .u32 51, .int .u32 51, .int .u32 51, .int .u32 51, .int .u32 3, .int .u32 35, .int .u32 99, .int .u32 99, .int .u32 111, .int .u32 103, .int .u32 115] 30)) (#[.int .u32 0, .int .u32 0, .int .u32 0, .int .u32 2, .int .u32 3, .int .u32 4, .int .u32 6, .int .u32 7, .int .u32 1, .int .u32 5, .int .u32 5, .int .u32 0, .int .u32 0, .int .u32 1, .int .u32 2, .int .u32 3, .int .u32 4, .int .u32 5, .int .u32 5, .int .u32 6, .int .u32 7, .int .u32 0, .int .u32 4, .int .u32 6, .int .u32 2, .int .u32 2, .int .u32 0, .int .u32 1, .int .u32 0, .int .u32 0, .int .u32 0]) 30 17 _ rfl
                 rw [show (w1.alloc (.cells #[.int .u32 0, .int .u32 55, .int .u32 19, .int .u32 19, .int .u32 19, .int .u32 19, .int .u32 19, .int .u32 19, .int .u32 19, .int .u32 19, .int .u32 19, .int .u32 51, .int .u32 51, .int .u32 51, .int .u32 51, .int .u32 51, .int .u32 51, .int .u32 51, .int .u32 51, .int .u32 51, .int .u32 51, .int .u32 51, .int .u32 51, .int .u32 51, .int .u32 3, .int .u32 35, .int .u32 99, .int .u32 99, .int .u32 111, .int .u32 103, .int .u32 115] 30)).heap.size = r + 1 from by rw [← hr]; simp] at h
                 rw [← hV]
                 exact h
               clear hb1 hbV)
  go_big_quiet (fail)
  go_wp2_with (first
    | (go_at_call 29; (with_reducible refine (H1.out _).mono ?_); rintro e w' ⟨rfl, rfl⟩)
    | (go_at_call 29; (with_reducible refine (H2.out _).mono ?_); rintro e w' ⟨rfl, rfl⟩)
    | (go_at_call 29; (with_reducible refine (H3.out _).mono ?_); rintro e w' ⟨rfl, rfl⟩))
  go_ret2
  exact ⟨by rw [HE.out]; rfl, below_drewN HV.out.2 _⟩
theorem ref_18 (D A B N : Nat) : encN 18 D A B N = (20531 ||| D * 2 ^ 7 ||| A * 2 ^ 15 ||| B * 2 ^ 20) ||| 1073741824 := by
  have e1 : formN 18 = 2 := by decide
  have e2 : stampW (lowN 18) (midN 18) (highN 18) = 1073762355 := by decide
  unfold encN wordW
  rw [e1, e2, laid_2]
  rw [show (1073762355 : Nat) = 20531 ||| 1073741824 from by decide]
  rw [Nat.or_zero]
  ac_rfl
set_option maxHeartbeats 1600000 in
theorem rencode_18 (D A B : Nat) (n : Int) (b1 : -2147483648 ≤ n) (b2 : n ≤ 2147483647) (hD : D < 32) (hA : A < 32) (hB : B < 32) (h : mayI ⟨18, D, A, B, n⟩ = true) (w : World) :
    Calls Tryd.prog 14 #[.agg #[.int .i64 2, .int .i64 18, .int .i64 D, .int .i64 A, .int .i64 B, .int .i32 n, .string ⟨#[]⟩]] w fun e w' => e = .returned (.tuple #[.int .u32 (encN 18 D A B (nat32 n) : Nat), .bool true]) ∧ Below w.heap.size w w' := by
  have H := fun w => rmayLine_any 18 D A B n b1 b2 w
  rw [h] at H
  have HM := Lib.hid H
  clear H h
  obtain ⟨x1, hx1⟩ : ∃ x1, layN 20531 (nat32 (D : Int)) 0 5 7 = x1 := ⟨_, rfl⟩
  have y1 : x1 < 4294967296 := by rw [← hx1]; exact lay_lt _ _ _ _ _ (by decide) (by decide)
  have K1 : ∀ W, Calls Tryd.prog 29 #[.int .u32 20531, .int .i64 D, .int .i64 0, .int .i64 5, .int .i64 7] W fun e w' => e = .returned (.int .u32 x1) ∧ W = w' := fun W => by
    have h := lay_any 20531 D 0 5 7 (by decide) (by omega) (by decide) (by decide) W
    rw [hx1] at h
    exact h
  obtain ⟨x2, hx2⟩ : ∃ x, layN x1 (nat32 (A : Int)) 0 5 15 = x := ⟨_, rfl⟩
  have y2 : x2 < 4294967296 := by rw [← hx2]; exact lay_lt _ _ _ _ _ y1 (by decide)
  have K2 : ∀ W, Calls Tryd.prog 29 #[.int .u32 x1, .int .i64 A, .int .i64 0, .int .i64 5, .int .i64 15] W fun e w' => e = .returned (.int .u32 x2) ∧ W = w' := fun W => by
    have h := lay_any x1 A 0 5 15 y1 (by omega) (by decide) (by decide) W
    rw [hx2] at h
    exact h
  obtain ⟨x3, hx3⟩ : ∃ x, layN x2 (nat32 (B : Int)) 0 5 20 = x := ⟨_, rfl⟩
  have y3 : x3 < 4294967296 := by rw [← hx3]; exact lay_lt _ _ _ _ _ y2 (by decide)
  have K3 : ∀ W, Calls Tryd.prog 29 #[.int .u32 x2, .int .i64 B, .int .i64 0, .int .i64 5, .int .i64 20] W fun e w' => e = .returned (.int .u32 x3) ∧ W = w' := fun W => by
    have h := lay_any x2 B 0 5 20 y2 (by omega) (by decide) (by decide) W
    rw [hx3] at h
    exact h
  obtain ⟨x4, hx4⟩ : ∃ x, x3 ||| 1073741824 = x := ⟨_, rfl⟩
  have O1 : bits .or .u32 (x3 : Int) 1073741824 = (x4 : Int) := by
    have h := u32_or_nat x3 1073741824 y3 (by decide)
    rw [hx4] at h
    exact h
  have HE : Hid (encN 18 D A B (nat32 n) = x4) := Lib.hid (by
    rw [← hx4, ← hx3, ← hx2, ← hx1]
    simp only [lay_reg D hD, lay_reg A hA, lay_reg B hB, layN]
    exact ref_18 D A B (nat32 n))
  have H1 := Lib.hid K1
  have H2 := Lib.hid K2
  have H3 := Lib.hid K3
  clear K1 hx1 y1 K2 hx2 y2 K3 hx3 y3 hx4
  obtain ⟨v0, hv0⟩ : ∃ v0, w.heap.size = v0 := ⟨_, rfl⟩
  obtain ⟨W0, hW0⟩ : ∃ W0, w.alloc (.cells #[.int .i64 2, .int .i64 18, .int .i64 D, .int .i64 A, .int .i64 B, .int .i32 n, .string ⟨#[]⟩] 23) = W0 := ⟨_, rfl⟩
  have hB0 : Below w.heap.size w W0 := by rw [← hW0]; exact (Below.refl _ _).alloc (Nat.le_refl _) _
  have hLn : LnAt W0 v0 2 18 D A B n ⟨#[]⟩ := by rw [← hW0, ← hv0]; exact LnAt.new _ _ _ _ _ _ _ _ _
  have HL := Lib.hid (And.intro hLn hB0)
  obtain ⟨-, z0, z1, z2, z3, z4, z5, z6⟩ := hLn
  clear hB0
  go_enter Tryd.func14, Tryd.ntmps14
  go_wp2_with (go_at_call 10; (with_reducible refine (HM.out _).mono ?_); rintro e w1 ⟨rfl, hb1⟩
               obtain ⟨V, hV⟩ : ∃ V, (w1.alloc (.cells #[.int .u32 0, .int .u32 55, .int .u32 19, .int .u32 19, .int .u32 19, .int .u32 19, .int .u32 19, .int .u32 19, .int .u32 19, .int .u32 19, .int .u32 19, .int .u32 51, .int .u32 51, .int .u32 51, .int .u32 51, .int .u32 51, .int .u32 51, .int .u32 51, .int .u32 51, .int .u32 51, .int .u32 51, .int .u32 51, .int .u32 51, .int .u32 51, .int .u32 3, .int .u32 35, .int .u32 99, .int .u32 99, .int .u32 111, .int .u32 103, .int .u32 115] 30)).alloc (.cells #[.int .u32 0, .int .u32 0, .int .u32 0, .int .u32 2, .int .u32 3, .int .u32 4, .int .u32 6, .int .u32 7, .int .u32 1, .int .u32 5, .int .u32 5, .int .u32 0, .int .u32 0, .int .u32 1, .int .u32 2, .int .u32 3, .int .u32 4, .int .u32 5, .int .u32 5, .int .u32 6, .int .u32 7, .int .u32 0, .int .u32 4, .int .u32 6, .int .u32 2, .int .u32 2, .int .u32 0, .int .u32 1, .int .u32 0, .int .u32 0, .int .u32 0] 30) = V := ⟨_, rfl⟩
               have hbV : Below W0.heap.size W0 V := by rw [← hV]; exact (hb1.alloc hb1.size _).alloc (Nat.le_trans hb1.size (by simp)) _
               have HV := Lib.hid (And.intro (HL.out.1.below hbV) (HL.out.2.trans (hbV.mono HL.out.2.size)))
               obtain ⟨-, u0, u1, u2, u3, u4, u5, u6⟩ := HL.out.1.below hbV
               obtain ⟨r, hr⟩ : ∃ r, w1.heap.size = r := ⟨_, rfl⟩
               have t0 : V.cell? ⟨r, 18, none⟩ = some (.int .u32 51) := by
                 have h := cell_alloc_at w1 (#[.int .u32 0, .int .u32 55, .int .u32 19, .int .u32 19, .int .u32 19, .int .u32 19, .int .u32 19, .int .u32 19, .int .u32 19, .int .u32 19, .int .u32 19, .int .u32 51, .int .u32 51, .int .u32 51, .int .u32 51, .int .u32 51, .int .u32 51, .int .u32 51, .int .u32 51, .int .u32 51, .int .u32 51, .int .u32 51, .int .u32 51, .int .u32 51, .int .u32 3, .int .u32 35, .int .u32 99, .int .u32 99, .int .u32 111, .int .u32 103, .int .u32 115]) 30 18 _ rfl
                 rw [← hV, ← hr]
                 exact cell_alloc h _
               have t1 : V.cell? ⟨r + 1, 18, none⟩ = some (.int .u32 5) := by
                 have h := cell_alloc_at (w1.alloc (.cells #[.int .u32 0, .int .u32 55, .int .u32 19, .int .u32 19, .int .u32 19, .int .u32 19, .int .u32 19, .int .u32 19, .int .u32 19, .int .u32 19, .int .u32 19, .int .u32 51, .int .u32 51, .int .u32 51, .int .u32 51, .int .u32 51, .int .u32 51, .int .u32 51, .int .u32 51, .int .u32 51, .int .u32 51, .int .u32 51, .int .u32 51, .int .u32 51, .int .u32 3, .int .u32 35, .int .u32 99, .int .u32 99, .int .u32 111, .int .u32 103, .int .u32 115] 30)) (#[.int .u32 0, .int .u32 0, .int .u32 0, .int .u32 2, .int .u32 3, .int .u32 4, .int .u32 6, .int .u32 7, .int .u32 1, .int .u32 5, .int .u32 5, .int .u32 0, .int .u32 0, .int .u32 1, .int .u32 2, .int .u32 3, .int .u32 4, .int .u32 5, .int .u32 5, .int .u32 6, .int .u32 7, .int .u32 0, .int .u32 4, .int .u32 6, .int .u32 2, .int .u32 2, .int .u32 0, .int .u32 1, .int .u32 0, .int .u32 0, .int .u32 0]) 30 18 _ rfl
                 rw [show (w1.alloc (.cells #[.int .u32 0, .int .u32 55, .int .u32 19, .int .u32 19, .int .u32 19, .int .u32 19, .int .u32 19, .int .u32 19, .int .u32 19, .int .u32 19, .int .u32 19, .int .u32 51, .int .u32 51, .int .u32 51, .int .u32 51, .int .u32 51, .int .u32 51, .int .u32 51, .int .u32 51, .int .u32 51, .int .u32 51, .int .u32 51, .int .u32 51, .int .u32 51, .int .u32 3, .int .u32 35, .int .u32 99, .int .u32 99, .int .u32 111, .int .u32 103, .int .u32 115] 30)).heap.size = r + 1 from by rw [← hr]; simp] at h
                 rw [← hV]
                 exact h
               clear hb1 hbV)
  go_big_quiet (fail)
  go_wp2_with (first
    | (go_at_call 29; (with_reducible refine (H1.out _).mono ?_); rintro e w' ⟨rfl, rfl⟩)
    | (go_at_call 29; (with_reducible refine (H2.out _).mono ?_); rintro e w' ⟨rfl, rfl⟩)
    | (go_at_call 29; (with_reducible refine (H3.out _).mono ?_); rintro e w' ⟨rfl, rfl⟩))
  go_ret2
  exact ⟨by rw [HE.out]; rfl, below_drewN HV.out.2 _⟩
theorem ref_19 (D A B N : Nat) : encN 19 D A B N = 24627 ||| D * 2 ^ 7 ||| A * 2 ^ 15 ||| B * 2 ^ 20 := by
  have e1 : formN 19 = 2 := by decide
  have e2 : stampW (lowN 19) (midN 19) (highN 19) = 24627 := by decide
  unfold encN wordW
  rw [e1, e2, laid_2]
  rw [Nat.or_zero]
set_option maxHeartbeats 1600000 in
theorem rencode_19 (D A B : Nat) (n : Int) (b1 : -2147483648 ≤ n) (b2 : n ≤ 2147483647) (hD : D < 32) (hA : A < 32) (hB : B < 32) (h : mayI ⟨19, D, A, B, n⟩ = true) (w : World) :
    Calls Tryd.prog 14 #[.agg #[.int .i64 2, .int .i64 19, .int .i64 D, .int .i64 A, .int .i64 B, .int .i32 n, .string ⟨#[]⟩]] w fun e w' => e = .returned (.tuple #[.int .u32 (encN 19 D A B (nat32 n) : Nat), .bool true]) ∧ Below w.heap.size w w' := by
  have H := fun w => rmayLine_any 19 D A B n b1 b2 w
  rw [h] at H
  have HM := Lib.hid H
  clear H h
  obtain ⟨x1, hx1⟩ : ∃ x1, layN 24627 (nat32 (D : Int)) 0 5 7 = x1 := ⟨_, rfl⟩
  have y1 : x1 < 4294967296 := by rw [← hx1]; exact lay_lt _ _ _ _ _ (by decide) (by decide)
  have K1 : ∀ W, Calls Tryd.prog 29 #[.int .u32 24627, .int .i64 D, .int .i64 0, .int .i64 5, .int .i64 7] W fun e w' => e = .returned (.int .u32 x1) ∧ W = w' := fun W => by
    have h := lay_any 24627 D 0 5 7 (by decide) (by omega) (by decide) (by decide) W
    rw [hx1] at h
    exact h
  obtain ⟨x2, hx2⟩ : ∃ x, layN x1 (nat32 (A : Int)) 0 5 15 = x := ⟨_, rfl⟩
  have y2 : x2 < 4294967296 := by rw [← hx2]; exact lay_lt _ _ _ _ _ y1 (by decide)
  have K2 : ∀ W, Calls Tryd.prog 29 #[.int .u32 x1, .int .i64 A, .int .i64 0, .int .i64 5, .int .i64 15] W fun e w' => e = .returned (.int .u32 x2) ∧ W = w' := fun W => by
    have h := lay_any x1 A 0 5 15 y1 (by omega) (by decide) (by decide) W
    rw [hx2] at h
    exact h
  obtain ⟨x3, hx3⟩ : ∃ x, layN x2 (nat32 (B : Int)) 0 5 20 = x := ⟨_, rfl⟩
  have y3 : x3 < 4294967296 := by rw [← hx3]; exact lay_lt _ _ _ _ _ y2 (by decide)
  have K3 : ∀ W, Calls Tryd.prog 29 #[.int .u32 x2, .int .i64 B, .int .i64 0, .int .i64 5, .int .i64 20] W fun e w' => e = .returned (.int .u32 x3) ∧ W = w' := fun W => by
    have h := lay_any x2 B 0 5 20 y2 (by omega) (by decide) (by decide) W
    rw [hx3] at h
    exact h
  have HE : Hid (encN 19 D A B (nat32 n) = x3) := Lib.hid (by
    rw [← hx3, ← hx2, ← hx1]
    simp only [lay_reg D hD, lay_reg A hA, lay_reg B hB, layN]
    exact ref_19 D A B (nat32 n))
  have H1 := Lib.hid K1
  have H2 := Lib.hid K2
  have H3 := Lib.hid K3
  clear K1 hx1 y1 K2 hx2 y2 K3 hx3 y3
  obtain ⟨v0, hv0⟩ : ∃ v0, w.heap.size = v0 := ⟨_, rfl⟩
  obtain ⟨W0, hW0⟩ : ∃ W0, w.alloc (.cells #[.int .i64 2, .int .i64 19, .int .i64 D, .int .i64 A, .int .i64 B, .int .i32 n, .string ⟨#[]⟩] 23) = W0 := ⟨_, rfl⟩
  have hB0 : Below w.heap.size w W0 := by rw [← hW0]; exact (Below.refl _ _).alloc (Nat.le_refl _) _
  have hLn : LnAt W0 v0 2 19 D A B n ⟨#[]⟩ := by rw [← hW0, ← hv0]; exact LnAt.new _ _ _ _ _ _ _ _ _
  have HL := Lib.hid (And.intro hLn hB0)
  obtain ⟨-, z0, z1, z2, z3, z4, z5, z6⟩ := hLn
  clear hB0
  go_enter Tryd.func14, Tryd.ntmps14
  go_wp2_with (go_at_call 10; (with_reducible refine (HM.out _).mono ?_); rintro e w1 ⟨rfl, hb1⟩
               obtain ⟨V, hV⟩ : ∃ V, (w1.alloc (.cells #[.int .u32 0, .int .u32 55, .int .u32 19, .int .u32 19, .int .u32 19, .int .u32 19, .int .u32 19, .int .u32 19, .int .u32 19, .int .u32 19, .int .u32 19, .int .u32 51, .int .u32 51, .int .u32 51, .int .u32 51, .int .u32 51, .int .u32 51, .int .u32 51, .int .u32 51, .int .u32 51, .int .u32 51, .int .u32 51, .int .u32 51, .int .u32 51, .int .u32 3, .int .u32 35, .int .u32 99, .int .u32 99, .int .u32 111, .int .u32 103, .int .u32 115] 30)).alloc (.cells #[.int .u32 0, .int .u32 0, .int .u32 0, .int .u32 2, .int .u32 3, .int .u32 4, .int .u32 6, .int .u32 7, .int .u32 1, .int .u32 5, .int .u32 5, .int .u32 0, .int .u32 0, .int .u32 1, .int .u32 2, .int .u32 3, .int .u32 4, .int .u32 5, .int .u32 5, .int .u32 6, .int .u32 7, .int .u32 0, .int .u32 4, .int .u32 6, .int .u32 2, .int .u32 2, .int .u32 0, .int .u32 1, .int .u32 0, .int .u32 0, .int .u32 0] 30) = V := ⟨_, rfl⟩
               have hbV : Below W0.heap.size W0 V := by rw [← hV]; exact (hb1.alloc hb1.size _).alloc (Nat.le_trans hb1.size (by simp)) _
               have HV := Lib.hid (And.intro (HL.out.1.below hbV) (HL.out.2.trans (hbV.mono HL.out.2.size)))
               obtain ⟨-, u0, u1, u2, u3, u4, u5, u6⟩ := HL.out.1.below hbV
               obtain ⟨r, hr⟩ : ∃ r, w1.heap.size = r := ⟨_, rfl⟩
               have t0 : V.cell? ⟨r, 19, none⟩ = some (.int .u32 51) := by
                 have h := cell_alloc_at w1 (#[.int .u32 0, .int .u32 55, .int .u32 19, .int .u32 19, .int .u32 19, .int .u32 19, .int .u32 19, .int .u32 19, .int .u32 19, .int .u32 19, .int .u32 19, .int .u32 51, .int .u32 51, .int .u32 51, .int .u32 51, .int .u32 51, .int .u32 51, .int .u32 51, .int .u32 51, .int .u32 51, .int .u32 51, .int .u32 51, .int .u32 51, .int .u32 51, .int .u32 3, .int .u32 35, .int .u32 99, .int .u32 99, .int .u32 111, .int .u32 103, .int .u32 115]) 30 19 _ rfl
                 rw [← hV, ← hr]
                 exact cell_alloc h _
               have t1 : V.cell? ⟨r + 1, 19, none⟩ = some (.int .u32 6) := by
                 have h := cell_alloc_at (w1.alloc (.cells #[.int .u32 0, .int .u32 55, .int .u32 19, .int .u32 19, .int .u32 19, .int .u32 19, .int .u32 19, .int .u32 19, .int .u32 19, .int .u32 19, .int .u32 19, .int .u32 51, .int .u32 51, .int .u32 51, .int .u32 51, .int .u32 51, .int .u32 51, .int .u32 51, .int .u32 51, .int .u32 51, .int .u32 51, .int .u32 51, .int .u32 51, .int .u32 51, .int .u32 3, .int .u32 35, .int .u32 99, .int .u32 99, .int .u32 111, .int .u32 103, .int .u32 115] 30)) (#[.int .u32 0, .int .u32 0, .int .u32 0, .int .u32 2, .int .u32 3, .int .u32 4, .int .u32 6, .int .u32 7, .int .u32 1, .int .u32 5, .int .u32 5, .int .u32 0, .int .u32 0, .int .u32 1, .int .u32 2, .int .u32 3, .int .u32 4, .int .u32 5, .int .u32 5, .int .u32 6, .int .u32 7, .int .u32 0, .int .u32 4, .int .u32 6, .int .u32 2, .int .u32 2, .int .u32 0, .int .u32 1, .int .u32 0, .int .u32 0, .int .u32 0]) 30 19 _ rfl
                 rw [show (w1.alloc (.cells #[.int .u32 0, .int .u32 55, .int .u32 19, .int .u32 19, .int .u32 19, .int .u32 19, .int .u32 19, .int .u32 19, .int .u32 19, .int .u32 19, .int .u32 19, .int .u32 51, .int .u32 51, .int .u32 51, .int .u32 51, .int .u32 51, .int .u32 51, .int .u32 51, .int .u32 51, .int .u32 51, .int .u32 51, .int .u32 51, .int .u32 51, .int .u32 51, .int .u32 3, .int .u32 35, .int .u32 99, .int .u32 99, .int .u32 111, .int .u32 103, .int .u32 115] 30)).heap.size = r + 1 from by rw [← hr]; simp] at h
                 rw [← hV]
                 exact h
               clear hb1 hbV)
  go_big_quiet (fail)
  go_wp2_with (first
    | (go_at_call 29; (with_reducible refine (H1.out _).mono ?_); rintro e w' ⟨rfl, rfl⟩)
    | (go_at_call 29; (with_reducible refine (H2.out _).mono ?_); rintro e w' ⟨rfl, rfl⟩)
    | (go_at_call 29; (with_reducible refine (H3.out _).mono ?_); rintro e w' ⟨rfl, rfl⟩))
  go_ret2
  exact ⟨by rw [HE.out]; rfl, below_drewN HV.out.2 _⟩
theorem ref_20 (D A B N : Nat) : encN 20 D A B N = 28723 ||| D * 2 ^ 7 ||| A * 2 ^ 15 ||| B * 2 ^ 20 := by
  have e1 : formN 20 = 2 := by decide
  have e2 : stampW (lowN 20) (midN 20) (highN 20) = 28723 := by decide
  unfold encN wordW
  rw [e1, e2, laid_2]
  rw [Nat.or_zero]
set_option maxHeartbeats 1600000 in
theorem rencode_20 (D A B : Nat) (n : Int) (b1 : -2147483648 ≤ n) (b2 : n ≤ 2147483647) (hD : D < 32) (hA : A < 32) (hB : B < 32) (h : mayI ⟨20, D, A, B, n⟩ = true) (w : World) :
    Calls Tryd.prog 14 #[.agg #[.int .i64 2, .int .i64 20, .int .i64 D, .int .i64 A, .int .i64 B, .int .i32 n, .string ⟨#[]⟩]] w fun e w' => e = .returned (.tuple #[.int .u32 (encN 20 D A B (nat32 n) : Nat), .bool true]) ∧ Below w.heap.size w w' := by
  have H := fun w => rmayLine_any 20 D A B n b1 b2 w
  rw [h] at H
  have HM := Lib.hid H
  clear H h
  obtain ⟨x1, hx1⟩ : ∃ x1, layN 28723 (nat32 (D : Int)) 0 5 7 = x1 := ⟨_, rfl⟩
  have y1 : x1 < 4294967296 := by rw [← hx1]; exact lay_lt _ _ _ _ _ (by decide) (by decide)
  have K1 : ∀ W, Calls Tryd.prog 29 #[.int .u32 28723, .int .i64 D, .int .i64 0, .int .i64 5, .int .i64 7] W fun e w' => e = .returned (.int .u32 x1) ∧ W = w' := fun W => by
    have h := lay_any 28723 D 0 5 7 (by decide) (by omega) (by decide) (by decide) W
    rw [hx1] at h
    exact h
  obtain ⟨x2, hx2⟩ : ∃ x, layN x1 (nat32 (A : Int)) 0 5 15 = x := ⟨_, rfl⟩
  have y2 : x2 < 4294967296 := by rw [← hx2]; exact lay_lt _ _ _ _ _ y1 (by decide)
  have K2 : ∀ W, Calls Tryd.prog 29 #[.int .u32 x1, .int .i64 A, .int .i64 0, .int .i64 5, .int .i64 15] W fun e w' => e = .returned (.int .u32 x2) ∧ W = w' := fun W => by
    have h := lay_any x1 A 0 5 15 y1 (by omega) (by decide) (by decide) W
    rw [hx2] at h
    exact h
  obtain ⟨x3, hx3⟩ : ∃ x, layN x2 (nat32 (B : Int)) 0 5 20 = x := ⟨_, rfl⟩
  have y3 : x3 < 4294967296 := by rw [← hx3]; exact lay_lt _ _ _ _ _ y2 (by decide)
  have K3 : ∀ W, Calls Tryd.prog 29 #[.int .u32 x2, .int .i64 B, .int .i64 0, .int .i64 5, .int .i64 20] W fun e w' => e = .returned (.int .u32 x3) ∧ W = w' := fun W => by
    have h := lay_any x2 B 0 5 20 y2 (by omega) (by decide) (by decide) W
    rw [hx3] at h
    exact h
  have HE : Hid (encN 20 D A B (nat32 n) = x3) := Lib.hid (by
    rw [← hx3, ← hx2, ← hx1]
    simp only [lay_reg D hD, lay_reg A hA, lay_reg B hB, layN]
    exact ref_20 D A B (nat32 n))
  have H1 := Lib.hid K1
  have H2 := Lib.hid K2
  have H3 := Lib.hid K3
  clear K1 hx1 y1 K2 hx2 y2 K3 hx3 y3
  obtain ⟨v0, hv0⟩ : ∃ v0, w.heap.size = v0 := ⟨_, rfl⟩
  obtain ⟨W0, hW0⟩ : ∃ W0, w.alloc (.cells #[.int .i64 2, .int .i64 20, .int .i64 D, .int .i64 A, .int .i64 B, .int .i32 n, .string ⟨#[]⟩] 23) = W0 := ⟨_, rfl⟩
  have hB0 : Below w.heap.size w W0 := by rw [← hW0]; exact (Below.refl _ _).alloc (Nat.le_refl _) _
  have hLn : LnAt W0 v0 2 20 D A B n ⟨#[]⟩ := by rw [← hW0, ← hv0]; exact LnAt.new _ _ _ _ _ _ _ _ _
  have HL := Lib.hid (And.intro hLn hB0)
  obtain ⟨-, z0, z1, z2, z3, z4, z5, z6⟩ := hLn
  clear hB0
  go_enter Tryd.func14, Tryd.ntmps14
  go_wp2_with (go_at_call 10; (with_reducible refine (HM.out _).mono ?_); rintro e w1 ⟨rfl, hb1⟩
               obtain ⟨V, hV⟩ : ∃ V, (w1.alloc (.cells #[.int .u32 0, .int .u32 55, .int .u32 19, .int .u32 19, .int .u32 19, .int .u32 19, .int .u32 19, .int .u32 19, .int .u32 19, .int .u32 19, .int .u32 19, .int .u32 51, .int .u32 51, .int .u32 51, .int .u32 51, .int .u32 51, .int .u32 51, .int .u32 51, .int .u32 51, .int .u32 51, .int .u32 51, .int .u32 51, .int .u32 51, .int .u32 51, .int .u32 3, .int .u32 35, .int .u32 99, .int .u32 99, .int .u32 111, .int .u32 103, .int .u32 115] 30)).alloc (.cells #[.int .u32 0, .int .u32 0, .int .u32 0, .int .u32 2, .int .u32 3, .int .u32 4, .int .u32 6, .int .u32 7, .int .u32 1, .int .u32 5, .int .u32 5, .int .u32 0, .int .u32 0, .int .u32 1, .int .u32 2, .int .u32 3, .int .u32 4, .int .u32 5, .int .u32 5, .int .u32 6, .int .u32 7, .int .u32 0, .int .u32 4, .int .u32 6, .int .u32 2, .int .u32 2, .int .u32 0, .int .u32 1, .int .u32 0, .int .u32 0, .int .u32 0] 30) = V := ⟨_, rfl⟩
               have hbV : Below W0.heap.size W0 V := by rw [← hV]; exact (hb1.alloc hb1.size _).alloc (Nat.le_trans hb1.size (by simp)) _
               have HV := Lib.hid (And.intro (HL.out.1.below hbV) (HL.out.2.trans (hbV.mono HL.out.2.size)))
               obtain ⟨-, u0, u1, u2, u3, u4, u5, u6⟩ := HL.out.1.below hbV
               obtain ⟨r, hr⟩ : ∃ r, w1.heap.size = r := ⟨_, rfl⟩
               have t0 : V.cell? ⟨r, 20, none⟩ = some (.int .u32 51) := by
                 have h := cell_alloc_at w1 (#[.int .u32 0, .int .u32 55, .int .u32 19, .int .u32 19, .int .u32 19, .int .u32 19, .int .u32 19, .int .u32 19, .int .u32 19, .int .u32 19, .int .u32 19, .int .u32 51, .int .u32 51, .int .u32 51, .int .u32 51, .int .u32 51, .int .u32 51, .int .u32 51, .int .u32 51, .int .u32 51, .int .u32 51, .int .u32 51, .int .u32 51, .int .u32 51, .int .u32 3, .int .u32 35, .int .u32 99, .int .u32 99, .int .u32 111, .int .u32 103, .int .u32 115]) 30 20 _ rfl
                 rw [← hV, ← hr]
                 exact cell_alloc h _
               have t1 : V.cell? ⟨r + 1, 20, none⟩ = some (.int .u32 7) := by
                 have h := cell_alloc_at (w1.alloc (.cells #[.int .u32 0, .int .u32 55, .int .u32 19, .int .u32 19, .int .u32 19, .int .u32 19, .int .u32 19, .int .u32 19, .int .u32 19, .int .u32 19, .int .u32 19, .int .u32 51, .int .u32 51, .int .u32 51, .int .u32 51, .int .u32 51, .int .u32 51, .int .u32 51, .int .u32 51, .int .u32 51, .int .u32 51, .int .u32 51, .int .u32 51, .int .u32 51, .int .u32 3, .int .u32 35, .int .u32 99, .int .u32 99, .int .u32 111, .int .u32 103, .int .u32 115] 30)) (#[.int .u32 0, .int .u32 0, .int .u32 0, .int .u32 2, .int .u32 3, .int .u32 4, .int .u32 6, .int .u32 7, .int .u32 1, .int .u32 5, .int .u32 5, .int .u32 0, .int .u32 0, .int .u32 1, .int .u32 2, .int .u32 3, .int .u32 4, .int .u32 5, .int .u32 5, .int .u32 6, .int .u32 7, .int .u32 0, .int .u32 4, .int .u32 6, .int .u32 2, .int .u32 2, .int .u32 0, .int .u32 1, .int .u32 0, .int .u32 0, .int .u32 0]) 30 20 _ rfl
                 rw [show (w1.alloc (.cells #[.int .u32 0, .int .u32 55, .int .u32 19, .int .u32 19, .int .u32 19, .int .u32 19, .int .u32 19, .int .u32 19, .int .u32 19, .int .u32 19, .int .u32 19, .int .u32 51, .int .u32 51, .int .u32 51, .int .u32 51, .int .u32 51, .int .u32 51, .int .u32 51, .int .u32 51, .int .u32 51, .int .u32 51, .int .u32 51, .int .u32 51, .int .u32 51, .int .u32 3, .int .u32 35, .int .u32 99, .int .u32 99, .int .u32 111, .int .u32 103, .int .u32 115] 30)).heap.size = r + 1 from by rw [← hr]; simp] at h
                 rw [← hV]
                 exact h
               clear hb1 hbV)
  go_big_quiet (fail)
  go_wp2_with (first
    | (go_at_call 29; (with_reducible refine (H1.out _).mono ?_); rintro e w' ⟨rfl, rfl⟩)
    | (go_at_call 29; (with_reducible refine (H2.out _).mono ?_); rintro e w' ⟨rfl, rfl⟩)
    | (go_at_call 29; (with_reducible refine (H3.out _).mono ?_); rintro e w' ⟨rfl, rfl⟩))
  go_ret2
  exact ⟨by rw [HE.out]; rfl, below_drewN HV.out.2 _⟩
theorem ref_21 (D A B N : Nat) : encN 21 D A B N = (51 ||| D * 2 ^ 7 ||| A * 2 ^ 15 ||| B * 2 ^ 20) ||| 33554432 := by
  have e1 : formN 21 = 2 := by decide
  have e2 : stampW (lowN 21) (midN 21) (highN 21) = 33554483 := by decide
  unfold encN wordW
  rw [e1, e2, laid_2]
  rw [show (33554483 : Nat) = 51 ||| 33554432 from by decide]
  rw [Nat.or_zero]
  ac_rfl
set_option maxHeartbeats 1600000 in
theorem rencode_21 (D A B : Nat) (n : Int) (b1 : -2147483648 ≤ n) (b2 : n ≤ 2147483647) (hD : D < 32) (hA : A < 32) (hB : B < 32) (h : mayI ⟨21, D, A, B, n⟩ = true) (w : World) :
    Calls Tryd.prog 14 #[.agg #[.int .i64 2, .int .i64 21, .int .i64 D, .int .i64 A, .int .i64 B, .int .i32 n, .string ⟨#[]⟩]] w fun e w' => e = .returned (.tuple #[.int .u32 (encN 21 D A B (nat32 n) : Nat), .bool true]) ∧ Below w.heap.size w w' := by
  have H := fun w => rmayLine_any 21 D A B n b1 b2 w
  rw [h] at H
  have HM := Lib.hid H
  clear H h
  obtain ⟨x1, hx1⟩ : ∃ x1, layN 51 (nat32 (D : Int)) 0 5 7 = x1 := ⟨_, rfl⟩
  have y1 : x1 < 4294967296 := by rw [← hx1]; exact lay_lt _ _ _ _ _ (by decide) (by decide)
  have K1 : ∀ W, Calls Tryd.prog 29 #[.int .u32 51, .int .i64 D, .int .i64 0, .int .i64 5, .int .i64 7] W fun e w' => e = .returned (.int .u32 x1) ∧ W = w' := fun W => by
    have h := lay_any 51 D 0 5 7 (by decide) (by omega) (by decide) (by decide) W
    rw [hx1] at h
    exact h
  obtain ⟨x2, hx2⟩ : ∃ x, layN x1 (nat32 (A : Int)) 0 5 15 = x := ⟨_, rfl⟩
  have y2 : x2 < 4294967296 := by rw [← hx2]; exact lay_lt _ _ _ _ _ y1 (by decide)
  have K2 : ∀ W, Calls Tryd.prog 29 #[.int .u32 x1, .int .i64 A, .int .i64 0, .int .i64 5, .int .i64 15] W fun e w' => e = .returned (.int .u32 x2) ∧ W = w' := fun W => by
    have h := lay_any x1 A 0 5 15 y1 (by omega) (by decide) (by decide) W
    rw [hx2] at h
    exact h
  obtain ⟨x3, hx3⟩ : ∃ x, layN x2 (nat32 (B : Int)) 0 5 20 = x := ⟨_, rfl⟩
  have y3 : x3 < 4294967296 := by rw [← hx3]; exact lay_lt _ _ _ _ _ y2 (by decide)
  have K3 : ∀ W, Calls Tryd.prog 29 #[.int .u32 x2, .int .i64 B, .int .i64 0, .int .i64 5, .int .i64 20] W fun e w' => e = .returned (.int .u32 x3) ∧ W = w' := fun W => by
    have h := lay_any x2 B 0 5 20 y2 (by omega) (by decide) (by decide) W
    rw [hx3] at h
    exact h
  obtain ⟨x4, hx4⟩ : ∃ x, x3 ||| 33554432 = x := ⟨_, rfl⟩
  have O1 : bits .or .u32 (x3 : Int) 33554432 = (x4 : Int) := by
    have h := u32_or_nat x3 33554432 y3 (by decide)
    rw [hx4] at h
    exact h
  have HE : Hid (encN 21 D A B (nat32 n) = x4) := Lib.hid (by
    rw [← hx4, ← hx3, ← hx2, ← hx1]
    simp only [lay_reg D hD, lay_reg A hA, lay_reg B hB, layN]
    exact ref_21 D A B (nat32 n))
  have H1 := Lib.hid K1
  have H2 := Lib.hid K2
  have H3 := Lib.hid K3
  clear K1 hx1 y1 K2 hx2 y2 K3 hx3 y3 hx4
  obtain ⟨v0, hv0⟩ : ∃ v0, w.heap.size = v0 := ⟨_, rfl⟩
  obtain ⟨W0, hW0⟩ : ∃ W0, w.alloc (.cells #[.int .i64 2, .int .i64 21, .int .i64 D, .int .i64 A, .int .i64 B, .int .i32 n, .string ⟨#[]⟩] 23) = W0 := ⟨_, rfl⟩
  have hB0 : Below w.heap.size w W0 := by rw [← hW0]; exact (Below.refl _ _).alloc (Nat.le_refl _) _
  have hLn : LnAt W0 v0 2 21 D A B n ⟨#[]⟩ := by rw [← hW0, ← hv0]; exact LnAt.new _ _ _ _ _ _ _ _ _
  have HL := Lib.hid (And.intro hLn hB0)
  obtain ⟨-, z0, z1, z2, z3, z4, z5, z6⟩ := hLn
  clear hB0
  go_enter Tryd.func14, Tryd.ntmps14
  go_wp2_with (go_at_call 10; (with_reducible refine (HM.out _).mono ?_); rintro e w1 ⟨rfl, hb1⟩
               obtain ⟨V, hV⟩ : ∃ V, (w1.alloc (.cells #[.int .u32 0, .int .u32 55, .int .u32 19, .int .u32 19, .int .u32 19, .int .u32 19, .int .u32 19, .int .u32 19, .int .u32 19, .int .u32 19, .int .u32 19, .int .u32 51, .int .u32 51, .int .u32 51, .int .u32 51, .int .u32 51, .int .u32 51, .int .u32 51, .int .u32 51, .int .u32 51, .int .u32 51, .int .u32 51, .int .u32 51, .int .u32 51, .int .u32 3, .int .u32 35, .int .u32 99, .int .u32 99, .int .u32 111, .int .u32 103, .int .u32 115] 30)).alloc (.cells #[.int .u32 0, .int .u32 0, .int .u32 0, .int .u32 2, .int .u32 3, .int .u32 4, .int .u32 6, .int .u32 7, .int .u32 1, .int .u32 5, .int .u32 5, .int .u32 0, .int .u32 0, .int .u32 1, .int .u32 2, .int .u32 3, .int .u32 4, .int .u32 5, .int .u32 5, .int .u32 6, .int .u32 7, .int .u32 0, .int .u32 4, .int .u32 6, .int .u32 2, .int .u32 2, .int .u32 0, .int .u32 1, .int .u32 0, .int .u32 0, .int .u32 0] 30) = V := ⟨_, rfl⟩
               have hbV : Below W0.heap.size W0 V := by rw [← hV]; exact (hb1.alloc hb1.size _).alloc (Nat.le_trans hb1.size (by simp)) _
               have HV := Lib.hid (And.intro (HL.out.1.below hbV) (HL.out.2.trans (hbV.mono HL.out.2.size)))
               obtain ⟨-, u0, u1, u2, u3, u4, u5, u6⟩ := HL.out.1.below hbV
               obtain ⟨r, hr⟩ : ∃ r, w1.heap.size = r := ⟨_, rfl⟩
               have t0 : V.cell? ⟨r, 21, none⟩ = some (.int .u32 51) := by
                 have h := cell_alloc_at w1 (#[.int .u32 0, .int .u32 55, .int .u32 19, .int .u32 19, .int .u32 19, .int .u32 19, .int .u32 19, .int .u32 19, .int .u32 19, .int .u32 19, .int .u32 19, .int .u32 51, .int .u32 51, .int .u32 51, .int .u32 51, .int .u32 51, .int .u32 51, .int .u32 51, .int .u32 51, .int .u32 51, .int .u32 51, .int .u32 51, .int .u32 51, .int .u32 51, .int .u32 3, .int .u32 35, .int .u32 99, .int .u32 99, .int .u32 111, .int .u32 103, .int .u32 115]) 30 21 _ rfl
                 rw [← hV, ← hr]
                 exact cell_alloc h _
               have t1 : V.cell? ⟨r + 1, 21, none⟩ = some (.int .u32 0) := by
                 have h := cell_alloc_at (w1.alloc (.cells #[.int .u32 0, .int .u32 55, .int .u32 19, .int .u32 19, .int .u32 19, .int .u32 19, .int .u32 19, .int .u32 19, .int .u32 19, .int .u32 19, .int .u32 19, .int .u32 51, .int .u32 51, .int .u32 51, .int .u32 51, .int .u32 51, .int .u32 51, .int .u32 51, .int .u32 51, .int .u32 51, .int .u32 51, .int .u32 51, .int .u32 51, .int .u32 51, .int .u32 3, .int .u32 35, .int .u32 99, .int .u32 99, .int .u32 111, .int .u32 103, .int .u32 115] 30)) (#[.int .u32 0, .int .u32 0, .int .u32 0, .int .u32 2, .int .u32 3, .int .u32 4, .int .u32 6, .int .u32 7, .int .u32 1, .int .u32 5, .int .u32 5, .int .u32 0, .int .u32 0, .int .u32 1, .int .u32 2, .int .u32 3, .int .u32 4, .int .u32 5, .int .u32 5, .int .u32 6, .int .u32 7, .int .u32 0, .int .u32 4, .int .u32 6, .int .u32 2, .int .u32 2, .int .u32 0, .int .u32 1, .int .u32 0, .int .u32 0, .int .u32 0]) 30 21 _ rfl
                 rw [show (w1.alloc (.cells #[.int .u32 0, .int .u32 55, .int .u32 19, .int .u32 19, .int .u32 19, .int .u32 19, .int .u32 19, .int .u32 19, .int .u32 19, .int .u32 19, .int .u32 19, .int .u32 51, .int .u32 51, .int .u32 51, .int .u32 51, .int .u32 51, .int .u32 51, .int .u32 51, .int .u32 51, .int .u32 51, .int .u32 51, .int .u32 51, .int .u32 51, .int .u32 51, .int .u32 3, .int .u32 35, .int .u32 99, .int .u32 99, .int .u32 111, .int .u32 103, .int .u32 115] 30)).heap.size = r + 1 from by rw [← hr]; simp] at h
                 rw [← hV]
                 exact h
               clear hb1 hbV)
  go_big_quiet (fail)
  go_wp2_with (first
    | (go_at_call 29; (with_reducible refine (H1.out _).mono ?_); rintro e w' ⟨rfl, rfl⟩)
    | (go_at_call 29; (with_reducible refine (H2.out _).mono ?_); rintro e w' ⟨rfl, rfl⟩)
    | (go_at_call 29; (with_reducible refine (H3.out _).mono ?_); rintro e w' ⟨rfl, rfl⟩))
  go_ret2
  exact ⟨by rw [HE.out]; rfl, below_drewN HV.out.2 _⟩
theorem ref_22 (D A B N : Nat) : encN 22 D A B N = (16435 ||| D * 2 ^ 7 ||| A * 2 ^ 15 ||| B * 2 ^ 20) ||| 33554432 := by
  have e1 : formN 22 = 2 := by decide
  have e2 : stampW (lowN 22) (midN 22) (highN 22) = 33570867 := by decide
  unfold encN wordW
  rw [e1, e2, laid_2]
  rw [show (33570867 : Nat) = 16435 ||| 33554432 from by decide]
  rw [Nat.or_zero]
  ac_rfl
set_option maxHeartbeats 1600000 in
theorem rencode_22 (D A B : Nat) (n : Int) (b1 : -2147483648 ≤ n) (b2 : n ≤ 2147483647) (hD : D < 32) (hA : A < 32) (hB : B < 32) (h : mayI ⟨22, D, A, B, n⟩ = true) (w : World) :
    Calls Tryd.prog 14 #[.agg #[.int .i64 2, .int .i64 22, .int .i64 D, .int .i64 A, .int .i64 B, .int .i32 n, .string ⟨#[]⟩]] w fun e w' => e = .returned (.tuple #[.int .u32 (encN 22 D A B (nat32 n) : Nat), .bool true]) ∧ Below w.heap.size w w' := by
  have H := fun w => rmayLine_any 22 D A B n b1 b2 w
  rw [h] at H
  have HM := Lib.hid H
  clear H h
  obtain ⟨x1, hx1⟩ : ∃ x1, layN 16435 (nat32 (D : Int)) 0 5 7 = x1 := ⟨_, rfl⟩
  have y1 : x1 < 4294967296 := by rw [← hx1]; exact lay_lt _ _ _ _ _ (by decide) (by decide)
  have K1 : ∀ W, Calls Tryd.prog 29 #[.int .u32 16435, .int .i64 D, .int .i64 0, .int .i64 5, .int .i64 7] W fun e w' => e = .returned (.int .u32 x1) ∧ W = w' := fun W => by
    have h := lay_any 16435 D 0 5 7 (by decide) (by omega) (by decide) (by decide) W
    rw [hx1] at h
    exact h
  obtain ⟨x2, hx2⟩ : ∃ x, layN x1 (nat32 (A : Int)) 0 5 15 = x := ⟨_, rfl⟩
  have y2 : x2 < 4294967296 := by rw [← hx2]; exact lay_lt _ _ _ _ _ y1 (by decide)
  have K2 : ∀ W, Calls Tryd.prog 29 #[.int .u32 x1, .int .i64 A, .int .i64 0, .int .i64 5, .int .i64 15] W fun e w' => e = .returned (.int .u32 x2) ∧ W = w' := fun W => by
    have h := lay_any x1 A 0 5 15 y1 (by omega) (by decide) (by decide) W
    rw [hx2] at h
    exact h
  obtain ⟨x3, hx3⟩ : ∃ x, layN x2 (nat32 (B : Int)) 0 5 20 = x := ⟨_, rfl⟩
  have y3 : x3 < 4294967296 := by rw [← hx3]; exact lay_lt _ _ _ _ _ y2 (by decide)
  have K3 : ∀ W, Calls Tryd.prog 29 #[.int .u32 x2, .int .i64 B, .int .i64 0, .int .i64 5, .int .i64 20] W fun e w' => e = .returned (.int .u32 x3) ∧ W = w' := fun W => by
    have h := lay_any x2 B 0 5 20 y2 (by omega) (by decide) (by decide) W
    rw [hx3] at h
    exact h
  obtain ⟨x4, hx4⟩ : ∃ x, x3 ||| 33554432 = x := ⟨_, rfl⟩
  have O1 : bits .or .u32 (x3 : Int) 33554432 = (x4 : Int) := by
    have h := u32_or_nat x3 33554432 y3 (by decide)
    rw [hx4] at h
    exact h
  have HE : Hid (encN 22 D A B (nat32 n) = x4) := Lib.hid (by
    rw [← hx4, ← hx3, ← hx2, ← hx1]
    simp only [lay_reg D hD, lay_reg A hA, lay_reg B hB, layN]
    exact ref_22 D A B (nat32 n))
  have H1 := Lib.hid K1
  have H2 := Lib.hid K2
  have H3 := Lib.hid K3
  clear K1 hx1 y1 K2 hx2 y2 K3 hx3 y3 hx4
  obtain ⟨v0, hv0⟩ : ∃ v0, w.heap.size = v0 := ⟨_, rfl⟩
  obtain ⟨W0, hW0⟩ : ∃ W0, w.alloc (.cells #[.int .i64 2, .int .i64 22, .int .i64 D, .int .i64 A, .int .i64 B, .int .i32 n, .string ⟨#[]⟩] 23) = W0 := ⟨_, rfl⟩
  have hB0 : Below w.heap.size w W0 := by rw [← hW0]; exact (Below.refl _ _).alloc (Nat.le_refl _) _
  have hLn : LnAt W0 v0 2 22 D A B n ⟨#[]⟩ := by rw [← hW0, ← hv0]; exact LnAt.new _ _ _ _ _ _ _ _ _
  have HL := Lib.hid (And.intro hLn hB0)
  obtain ⟨-, z0, z1, z2, z3, z4, z5, z6⟩ := hLn
  clear hB0
  go_enter Tryd.func14, Tryd.ntmps14
  go_wp2_with (go_at_call 10; (with_reducible refine (HM.out _).mono ?_); rintro e w1 ⟨rfl, hb1⟩
               obtain ⟨V, hV⟩ : ∃ V, (w1.alloc (.cells #[.int .u32 0, .int .u32 55, .int .u32 19, .int .u32 19, .int .u32 19, .int .u32 19, .int .u32 19, .int .u32 19, .int .u32 19, .int .u32 19, .int .u32 19, .int .u32 51, .int .u32 51, .int .u32 51, .int .u32 51, .int .u32 51, .int .u32 51, .int .u32 51, .int .u32 51, .int .u32 51, .int .u32 51, .int .u32 51, .int .u32 51, .int .u32 51, .int .u32 3, .int .u32 35, .int .u32 99, .int .u32 99, .int .u32 111, .int .u32 103, .int .u32 115] 30)).alloc (.cells #[.int .u32 0, .int .u32 0, .int .u32 0, .int .u32 2, .int .u32 3, .int .u32 4, .int .u32 6, .int .u32 7, .int .u32 1, .int .u32 5, .int .u32 5, .int .u32 0, .int .u32 0, .int .u32 1, .int .u32 2, .int .u32 3, .int .u32 4, .int .u32 5, .int .u32 5, .int .u32 6, .int .u32 7, .int .u32 0, .int .u32 4, .int .u32 6, .int .u32 2, .int .u32 2, .int .u32 0, .int .u32 1, .int .u32 0, .int .u32 0, .int .u32 0] 30) = V := ⟨_, rfl⟩
               have hbV : Below W0.heap.size W0 V := by rw [← hV]; exact (hb1.alloc hb1.size _).alloc (Nat.le_trans hb1.size (by simp)) _
               have HV := Lib.hid (And.intro (HL.out.1.below hbV) (HL.out.2.trans (hbV.mono HL.out.2.size)))
               obtain ⟨-, u0, u1, u2, u3, u4, u5, u6⟩ := HL.out.1.below hbV
               obtain ⟨r, hr⟩ : ∃ r, w1.heap.size = r := ⟨_, rfl⟩
               have t0 : V.cell? ⟨r, 22, none⟩ = some (.int .u32 51) := by
                 have h := cell_alloc_at w1 (#[.int .u32 0, .int .u32 55, .int .u32 19, .int .u32 19, .int .u32 19, .int .u32 19, .int .u32 19, .int .u32 19, .int .u32 19, .int .u32 19, .int .u32 19, .int .u32 51, .int .u32 51, .int .u32 51, .int .u32 51, .int .u32 51, .int .u32 51, .int .u32 51, .int .u32 51, .int .u32 51, .int .u32 51, .int .u32 51, .int .u32 51, .int .u32 51, .int .u32 3, .int .u32 35, .int .u32 99, .int .u32 99, .int .u32 111, .int .u32 103, .int .u32 115]) 30 22 _ rfl
                 rw [← hV, ← hr]
                 exact cell_alloc h _
               have t1 : V.cell? ⟨r + 1, 22, none⟩ = some (.int .u32 4) := by
                 have h := cell_alloc_at (w1.alloc (.cells #[.int .u32 0, .int .u32 55, .int .u32 19, .int .u32 19, .int .u32 19, .int .u32 19, .int .u32 19, .int .u32 19, .int .u32 19, .int .u32 19, .int .u32 19, .int .u32 51, .int .u32 51, .int .u32 51, .int .u32 51, .int .u32 51, .int .u32 51, .int .u32 51, .int .u32 51, .int .u32 51, .int .u32 51, .int .u32 51, .int .u32 51, .int .u32 51, .int .u32 3, .int .u32 35, .int .u32 99, .int .u32 99, .int .u32 111, .int .u32 103, .int .u32 115] 30)) (#[.int .u32 0, .int .u32 0, .int .u32 0, .int .u32 2, .int .u32 3, .int .u32 4, .int .u32 6, .int .u32 7, .int .u32 1, .int .u32 5, .int .u32 5, .int .u32 0, .int .u32 0, .int .u32 1, .int .u32 2, .int .u32 3, .int .u32 4, .int .u32 5, .int .u32 5, .int .u32 6, .int .u32 7, .int .u32 0, .int .u32 4, .int .u32 6, .int .u32 2, .int .u32 2, .int .u32 0, .int .u32 1, .int .u32 0, .int .u32 0, .int .u32 0]) 30 22 _ rfl
                 rw [show (w1.alloc (.cells #[.int .u32 0, .int .u32 55, .int .u32 19, .int .u32 19, .int .u32 19, .int .u32 19, .int .u32 19, .int .u32 19, .int .u32 19, .int .u32 19, .int .u32 19, .int .u32 51, .int .u32 51, .int .u32 51, .int .u32 51, .int .u32 51, .int .u32 51, .int .u32 51, .int .u32 51, .int .u32 51, .int .u32 51, .int .u32 51, .int .u32 51, .int .u32 51, .int .u32 3, .int .u32 35, .int .u32 99, .int .u32 99, .int .u32 111, .int .u32 103, .int .u32 115] 30)).heap.size = r + 1 from by rw [← hr]; simp] at h
                 rw [← hV]
                 exact h
               clear hb1 hbV)
  go_big_quiet (fail)
  go_wp2_with (first
    | (go_at_call 29; (with_reducible refine (H1.out _).mono ?_); rintro e w' ⟨rfl, rfl⟩)
    | (go_at_call 29; (with_reducible refine (H2.out _).mono ?_); rintro e w' ⟨rfl, rfl⟩)
    | (go_at_call 29; (with_reducible refine (H3.out _).mono ?_); rintro e w' ⟨rfl, rfl⟩))
  go_ret2
  exact ⟨by rw [HE.out]; rfl, below_drewN HV.out.2 _⟩
theorem ref_23 (D A B N : Nat) : encN 23 D A B N = (24627 ||| D * 2 ^ 7 ||| A * 2 ^ 15 ||| B * 2 ^ 20) ||| 33554432 := by
  have e1 : formN 23 = 2 := by decide
  have e2 : stampW (lowN 23) (midN 23) (highN 23) = 33579059 := by decide
  unfold encN wordW
  rw [e1, e2, laid_2]
  rw [show (33579059 : Nat) = 24627 ||| 33554432 from by decide]
  rw [Nat.or_zero]
  ac_rfl
set_option maxHeartbeats 1600000 in
theorem rencode_23 (D A B : Nat) (n : Int) (b1 : -2147483648 ≤ n) (b2 : n ≤ 2147483647) (hD : D < 32) (hA : A < 32) (hB : B < 32) (h : mayI ⟨23, D, A, B, n⟩ = true) (w : World) :
    Calls Tryd.prog 14 #[.agg #[.int .i64 2, .int .i64 23, .int .i64 D, .int .i64 A, .int .i64 B, .int .i32 n, .string ⟨#[]⟩]] w fun e w' => e = .returned (.tuple #[.int .u32 (encN 23 D A B (nat32 n) : Nat), .bool true]) ∧ Below w.heap.size w w' := by
  have H := fun w => rmayLine_any 23 D A B n b1 b2 w
  rw [h] at H
  have HM := Lib.hid H
  clear H h
  obtain ⟨x1, hx1⟩ : ∃ x1, layN 24627 (nat32 (D : Int)) 0 5 7 = x1 := ⟨_, rfl⟩
  have y1 : x1 < 4294967296 := by rw [← hx1]; exact lay_lt _ _ _ _ _ (by decide) (by decide)
  have K1 : ∀ W, Calls Tryd.prog 29 #[.int .u32 24627, .int .i64 D, .int .i64 0, .int .i64 5, .int .i64 7] W fun e w' => e = .returned (.int .u32 x1) ∧ W = w' := fun W => by
    have h := lay_any 24627 D 0 5 7 (by decide) (by omega) (by decide) (by decide) W
    rw [hx1] at h
    exact h
  obtain ⟨x2, hx2⟩ : ∃ x, layN x1 (nat32 (A : Int)) 0 5 15 = x := ⟨_, rfl⟩
  have y2 : x2 < 4294967296 := by rw [← hx2]; exact lay_lt _ _ _ _ _ y1 (by decide)
  have K2 : ∀ W, Calls Tryd.prog 29 #[.int .u32 x1, .int .i64 A, .int .i64 0, .int .i64 5, .int .i64 15] W fun e w' => e = .returned (.int .u32 x2) ∧ W = w' := fun W => by
    have h := lay_any x1 A 0 5 15 y1 (by omega) (by decide) (by decide) W
    rw [hx2] at h
    exact h
  obtain ⟨x3, hx3⟩ : ∃ x, layN x2 (nat32 (B : Int)) 0 5 20 = x := ⟨_, rfl⟩
  have y3 : x3 < 4294967296 := by rw [← hx3]; exact lay_lt _ _ _ _ _ y2 (by decide)
  have K3 : ∀ W, Calls Tryd.prog 29 #[.int .u32 x2, .int .i64 B, .int .i64 0, .int .i64 5, .int .i64 20] W fun e w' => e = .returned (.int .u32 x3) ∧ W = w' := fun W => by
    have h := lay_any x2 B 0 5 20 y2 (by omega) (by decide) (by decide) W
    rw [hx3] at h
    exact h
  obtain ⟨x4, hx4⟩ : ∃ x, x3 ||| 33554432 = x := ⟨_, rfl⟩
  have O1 : bits .or .u32 (x3 : Int) 33554432 = (x4 : Int) := by
    have h := u32_or_nat x3 33554432 y3 (by decide)
    rw [hx4] at h
    exact h
  have HE : Hid (encN 23 D A B (nat32 n) = x4) := Lib.hid (by
    rw [← hx4, ← hx3, ← hx2, ← hx1]
    simp only [lay_reg D hD, lay_reg A hA, lay_reg B hB, layN]
    exact ref_23 D A B (nat32 n))
  have H1 := Lib.hid K1
  have H2 := Lib.hid K2
  have H3 := Lib.hid K3
  clear K1 hx1 y1 K2 hx2 y2 K3 hx3 y3 hx4
  obtain ⟨v0, hv0⟩ : ∃ v0, w.heap.size = v0 := ⟨_, rfl⟩
  obtain ⟨W0, hW0⟩ : ∃ W0, w.alloc (.cells #[.int .i64 2, .int .i64 23, .int .i64 D, .int .i64 A, .int .i64 B, .int .i32 n, .string ⟨#[]⟩] 23) = W0 := ⟨_, rfl⟩
  have hB0 : Below w.heap.size w W0 := by rw [← hW0]; exact (Below.refl _ _).alloc (Nat.le_refl _) _
  have hLn : LnAt W0 v0 2 23 D A B n ⟨#[]⟩ := by rw [← hW0, ← hv0]; exact LnAt.new _ _ _ _ _ _ _ _ _
  have HL := Lib.hid (And.intro hLn hB0)
  obtain ⟨-, z0, z1, z2, z3, z4, z5, z6⟩ := hLn
  clear hB0
  go_enter Tryd.func14, Tryd.ntmps14
  go_wp2_with (go_at_call 10; (with_reducible refine (HM.out _).mono ?_); rintro e w1 ⟨rfl, hb1⟩
               obtain ⟨V, hV⟩ : ∃ V, (w1.alloc (.cells #[.int .u32 0, .int .u32 55, .int .u32 19, .int .u32 19, .int .u32 19, .int .u32 19, .int .u32 19, .int .u32 19, .int .u32 19, .int .u32 19, .int .u32 19, .int .u32 51, .int .u32 51, .int .u32 51, .int .u32 51, .int .u32 51, .int .u32 51, .int .u32 51, .int .u32 51, .int .u32 51, .int .u32 51, .int .u32 51, .int .u32 51, .int .u32 51, .int .u32 3, .int .u32 35, .int .u32 99, .int .u32 99, .int .u32 111, .int .u32 103, .int .u32 115] 30)).alloc (.cells #[.int .u32 0, .int .u32 0, .int .u32 0, .int .u32 2, .int .u32 3, .int .u32 4, .int .u32 6, .int .u32 7, .int .u32 1, .int .u32 5, .int .u32 5, .int .u32 0, .int .u32 0, .int .u32 1, .int .u32 2, .int .u32 3, .int .u32 4, .int .u32 5, .int .u32 5, .int .u32 6, .int .u32 7, .int .u32 0, .int .u32 4, .int .u32 6, .int .u32 2, .int .u32 2, .int .u32 0, .int .u32 1, .int .u32 0, .int .u32 0, .int .u32 0] 30) = V := ⟨_, rfl⟩
               have hbV : Below W0.heap.size W0 V := by rw [← hV]; exact (hb1.alloc hb1.size _).alloc (Nat.le_trans hb1.size (by simp)) _
               have HV := Lib.hid (And.intro (HL.out.1.below hbV) (HL.out.2.trans (hbV.mono HL.out.2.size)))
               obtain ⟨-, u0, u1, u2, u3, u4, u5, u6⟩ := HL.out.1.below hbV
               obtain ⟨r, hr⟩ : ∃ r, w1.heap.size = r := ⟨_, rfl⟩
               have t0 : V.cell? ⟨r, 23, none⟩ = some (.int .u32 51) := by
                 have h := cell_alloc_at w1 (#[.int .u32 0, .int .u32 55, .int .u32 19, .int .u32 19, .int .u32 19, .int .u32 19, .int .u32 19, .int .u32 19, .int .u32 19, .int .u32 19, .int .u32 19, .int .u32 51, .int .u32 51, .int .u32 51, .int .u32 51, .int .u32 51, .int .u32 51, .int .u32 51, .int .u32 51, .int .u32 51, .int .u32 51, .int .u32 51, .int .u32 51, .int .u32 51, .int .u32 3, .int .u32 35, .int .u32 99, .int .u32 99, .int .u32 111, .int .u32 103, .int .u32 115]) 30 23 _ rfl
                 rw [← hV, ← hr]
                 exact cell_alloc h _
               have t1 : V.cell? ⟨r + 1, 23, none⟩ = some (.int .u32 6) := by
                 have h := cell_alloc_at (w1.alloc (.cells #[.int .u32 0, .int .u32 55, .int .u32 19, .int .u32 19, .int .u32 19, .int .u32 19, .int .u32 19, .int .u32 19, .int .u32 19, .int .u32 19, .int .u32 19, .int .u32 51, .int .u32 51, .int .u32 51, .int .u32 51, .int .u32 51, .int .u32 51, .int .u32 51, .int .u32 51, .int .u32 51, .int .u32 51, .int .u32 51, .int .u32 51, .int .u32 51, .int .u32 3, .int .u32 35, .int .u32 99, .int .u32 99, .int .u32 111, .int .u32 103, .int .u32 115] 30)) (#[.int .u32 0, .int .u32 0, .int .u32 0, .int .u32 2, .int .u32 3, .int .u32 4, .int .u32 6, .int .u32 7, .int .u32 1, .int .u32 5, .int .u32 5, .int .u32 0, .int .u32 0, .int .u32 1, .int .u32 2, .int .u32 3, .int .u32 4, .int .u32 5, .int .u32 5, .int .u32 6, .int .u32 7, .int .u32 0, .int .u32 4, .int .u32 6, .int .u32 2, .int .u32 2, .int .u32 0, .int .u32 1, .int .u32 0, .int .u32 0, .int .u32 0]) 30 23 _ rfl
                 rw [show (w1.alloc (.cells #[.int .u32 0, .int .u32 55, .int .u32 19, .int .u32 19, .int .u32 19, .int .u32 19, .int .u32 19, .int .u32 19, .int .u32 19, .int .u32 19, .int .u32 19, .int .u32 51, .int .u32 51, .int .u32 51, .int .u32 51, .int .u32 51, .int .u32 51, .int .u32 51, .int .u32 51, .int .u32 51, .int .u32 51, .int .u32 51, .int .u32 51, .int .u32 51, .int .u32 3, .int .u32 35, .int .u32 99, .int .u32 99, .int .u32 111, .int .u32 103, .int .u32 115] 30)).heap.size = r + 1 from by rw [← hr]; simp] at h
                 rw [← hV]
                 exact h
               clear hb1 hbV)
  go_big_quiet (fail)
  go_wp2_with (first
    | (go_at_call 29; (with_reducible refine (H1.out _).mono ?_); rintro e w' ⟨rfl, rfl⟩)
    | (go_at_call 29; (with_reducible refine (H2.out _).mono ?_); rintro e w' ⟨rfl, rfl⟩)
    | (go_at_call 29; (with_reducible refine (H3.out _).mono ?_); rintro e w' ⟨rfl, rfl⟩))
  go_ret2
  exact ⟨by rw [HE.out]; rfl, below_drewN HV.out.2 _⟩
theorem ref_24 (D A B N : Nat) : encN 24 D A B N = 8195 ||| D * 2 ^ 7 ||| A * 2 ^ 15 ||| B * 2 ^ 20 ||| cutN N 0 12 * 2 ^ 20 := by
  have e1 : formN 24 = 3 := by decide
  have e2 : stampW (lowN 24) (midN 24) (highN 24) = 8195 := by decide
  unfold encN wordW
  rw [e1, e2, laid_3]
set_option maxHeartbeats 1600000 in
theorem rencode_24 (D A B : Nat) (n : Int) (b1 : -2147483648 ≤ n) (b2 : n ≤ 2147483647) (hD : D < 32) (hA : A < 32) (hB : B < 32) (h : mayI ⟨24, D, A, B, n⟩ = true) (w : World) :
    Calls Tryd.prog 14 #[.agg #[.int .i64 2, .int .i64 24, .int .i64 D, .int .i64 A, .int .i64 B, .int .i32 n, .string ⟨#[]⟩]] w fun e w' => e = .returned (.tuple #[.int .u32 (encN 24 D A B (nat32 n) : Nat), .bool true]) ∧ Below w.heap.size w w' := by
  have H := fun w => rmayLine_any 24 D A B n b1 b2 w
  rw [h] at H
  have HM := Lib.hid H
  clear H h
  obtain ⟨x1, hx1⟩ : ∃ x1, layN 8195 (nat32 (D : Int)) 0 5 7 = x1 := ⟨_, rfl⟩
  have y1 : x1 < 4294967296 := by rw [← hx1]; exact lay_lt _ _ _ _ _ (by decide) (by decide)
  have K1 : ∀ W, Calls Tryd.prog 29 #[.int .u32 8195, .int .i64 D, .int .i64 0, .int .i64 5, .int .i64 7] W fun e w' => e = .returned (.int .u32 x1) ∧ W = w' := fun W => by
    have h := lay_any 8195 D 0 5 7 (by decide) (by omega) (by decide) (by decide) W
    rw [hx1] at h
    exact h
  obtain ⟨x2, hx2⟩ : ∃ x, layN x1 (nat32 (A : Int)) 0 5 15 = x := ⟨_, rfl⟩
  have y2 : x2 < 4294967296 := by rw [← hx2]; exact lay_lt _ _ _ _ _ y1 (by decide)
  have K2 : ∀ W, Calls Tryd.prog 29 #[.int .u32 x1, .int .i64 A, .int .i64 0, .int .i64 5, .int .i64 15] W fun e w' => e = .returned (.int .u32 x2) ∧ W = w' := fun W => by
    have h := lay_any x1 A 0 5 15 y1 (by omega) (by decide) (by decide) W
    rw [hx2] at h
    exact h
  obtain ⟨x3, hx3⟩ : ∃ x, layN x2 (nat32 (B : Int)) 0 5 20 = x := ⟨_, rfl⟩
  have y3 : x3 < 4294967296 := by rw [← hx3]; exact lay_lt _ _ _ _ _ y2 (by decide)
  have K3 : ∀ W, Calls Tryd.prog 29 #[.int .u32 x2, .int .i64 B, .int .i64 0, .int .i64 5, .int .i64 20] W fun e w' => e = .returned (.int .u32 x3) ∧ W = w' := fun W => by
    have h := lay_any x2 B 0 5 20 y2 (by omega) (by decide) (by decide) W
    rw [hx3] at h
    exact h
  obtain ⟨x4, hx4⟩ : ∃ x, layN x3 (nat32 n) 0 12 20 = x := ⟨_, rfl⟩
  have y4 : x4 < 4294967296 := by rw [← hx4]; exact lay_lt _ _ _ _ _ y3 (by decide)
  have K4 : ∀ W, Calls Tryd.prog 29 #[.int .u32 x3, .int .i64 n, .int .i64 0, .int .i64 12, .int .i64 20] W fun e w' => e = .returned (.int .u32 x4) ∧ W = w' := fun W => by
    have h := lay_any x3 n 0 12 20 y3 (by omega) (by decide) (by decide) W
    rw [hx4] at h
    exact h
  have HE : Hid (encN 24 D A B (nat32 n) = x4) := Lib.hid (by
    rw [← hx4, ← hx3, ← hx2, ← hx1]
    simp only [lay_reg D hD, lay_reg A hA, lay_reg B hB, layN]
    exact ref_24 D A B (nat32 n))
  have H1 := Lib.hid K1
  have H2 := Lib.hid K2
  have H3 := Lib.hid K3
  have H4 := Lib.hid K4
  clear K1 hx1 y1 K2 hx2 y2 K3 hx3 y3 K4 hx4 y4
  obtain ⟨v0, hv0⟩ : ∃ v0, w.heap.size = v0 := ⟨_, rfl⟩
  obtain ⟨W0, hW0⟩ : ∃ W0, w.alloc (.cells #[.int .i64 2, .int .i64 24, .int .i64 D, .int .i64 A, .int .i64 B, .int .i32 n, .string ⟨#[]⟩] 23) = W0 := ⟨_, rfl⟩
  have hB0 : Below w.heap.size w W0 := by rw [← hW0]; exact (Below.refl _ _).alloc (Nat.le_refl _) _
  have hLn : LnAt W0 v0 2 24 D A B n ⟨#[]⟩ := by rw [← hW0, ← hv0]; exact LnAt.new _ _ _ _ _ _ _ _ _
  have HL := Lib.hid (And.intro hLn hB0)
  obtain ⟨-, z0, z1, z2, z3, z4, z5, z6⟩ := hLn
  clear hB0
  go_enter Tryd.func14, Tryd.ntmps14
  go_wp2_with (go_at_call 10; (with_reducible refine (HM.out _).mono ?_); rintro e w1 ⟨rfl, hb1⟩
               obtain ⟨V, hV⟩ : ∃ V, (w1.alloc (.cells #[.int .u32 0, .int .u32 55, .int .u32 19, .int .u32 19, .int .u32 19, .int .u32 19, .int .u32 19, .int .u32 19, .int .u32 19, .int .u32 19, .int .u32 19, .int .u32 51, .int .u32 51, .int .u32 51, .int .u32 51, .int .u32 51, .int .u32 51, .int .u32 51, .int .u32 51, .int .u32 51, .int .u32 51, .int .u32 51, .int .u32 51, .int .u32 51, .int .u32 3, .int .u32 35, .int .u32 99, .int .u32 99, .int .u32 111, .int .u32 103, .int .u32 115] 30)).alloc (.cells #[.int .u32 0, .int .u32 0, .int .u32 0, .int .u32 2, .int .u32 3, .int .u32 4, .int .u32 6, .int .u32 7, .int .u32 1, .int .u32 5, .int .u32 5, .int .u32 0, .int .u32 0, .int .u32 1, .int .u32 2, .int .u32 3, .int .u32 4, .int .u32 5, .int .u32 5, .int .u32 6, .int .u32 7, .int .u32 0, .int .u32 4, .int .u32 6, .int .u32 2, .int .u32 2, .int .u32 0, .int .u32 1, .int .u32 0, .int .u32 0, .int .u32 0] 30) = V := ⟨_, rfl⟩
               have hbV : Below W0.heap.size W0 V := by rw [← hV]; exact (hb1.alloc hb1.size _).alloc (Nat.le_trans hb1.size (by simp)) _
               have HV := Lib.hid (And.intro (HL.out.1.below hbV) (HL.out.2.trans (hbV.mono HL.out.2.size)))
               obtain ⟨-, u0, u1, u2, u3, u4, u5, u6⟩ := HL.out.1.below hbV
               obtain ⟨r, hr⟩ : ∃ r, w1.heap.size = r := ⟨_, rfl⟩
               have t0 : V.cell? ⟨r, 24, none⟩ = some (.int .u32 3) := by
                 have h := cell_alloc_at w1 (#[.int .u32 0, .int .u32 55, .int .u32 19, .int .u32 19, .int .u32 19, .int .u32 19, .int .u32 19, .int .u32 19, .int .u32 19, .int .u32 19, .int .u32 19, .int .u32 51, .int .u32 51, .int .u32 51, .int .u32 51, .int .u32 51, .int .u32 51, .int .u32 51, .int .u32 51, .int .u32 51, .int .u32 51, .int .u32 51, .int .u32 51, .int .u32 51, .int .u32 3, .int .u32 35, .int .u32 99, .int .u32 99, .int .u32 111, .int .u32 103, .int .u32 115]) 30 24 _ rfl
                 rw [← hV, ← hr]
                 exact cell_alloc h _
               have t1 : V.cell? ⟨r + 1, 24, none⟩ = some (.int .u32 2) := by
                 have h := cell_alloc_at (w1.alloc (.cells #[.int .u32 0, .int .u32 55, .int .u32 19, .int .u32 19, .int .u32 19, .int .u32 19, .int .u32 19, .int .u32 19, .int .u32 19, .int .u32 19, .int .u32 19, .int .u32 51, .int .u32 51, .int .u32 51, .int .u32 51, .int .u32 51, .int .u32 51, .int .u32 51, .int .u32 51, .int .u32 51, .int .u32 51, .int .u32 51, .int .u32 51, .int .u32 51, .int .u32 3, .int .u32 35, .int .u32 99, .int .u32 99, .int .u32 111, .int .u32 103, .int .u32 115] 30)) (#[.int .u32 0, .int .u32 0, .int .u32 0, .int .u32 2, .int .u32 3, .int .u32 4, .int .u32 6, .int .u32 7, .int .u32 1, .int .u32 5, .int .u32 5, .int .u32 0, .int .u32 0, .int .u32 1, .int .u32 2, .int .u32 3, .int .u32 4, .int .u32 5, .int .u32 5, .int .u32 6, .int .u32 7, .int .u32 0, .int .u32 4, .int .u32 6, .int .u32 2, .int .u32 2, .int .u32 0, .int .u32 1, .int .u32 0, .int .u32 0, .int .u32 0]) 30 24 _ rfl
                 rw [show (w1.alloc (.cells #[.int .u32 0, .int .u32 55, .int .u32 19, .int .u32 19, .int .u32 19, .int .u32 19, .int .u32 19, .int .u32 19, .int .u32 19, .int .u32 19, .int .u32 19, .int .u32 51, .int .u32 51, .int .u32 51, .int .u32 51, .int .u32 51, .int .u32 51, .int .u32 51, .int .u32 51, .int .u32 51, .int .u32 51, .int .u32 51, .int .u32 51, .int .u32 51, .int .u32 3, .int .u32 35, .int .u32 99, .int .u32 99, .int .u32 111, .int .u32 103, .int .u32 115] 30)).heap.size = r + 1 from by rw [← hr]; simp] at h
                 rw [← hV]
                 exact h
               clear hb1 hbV)
  go_big_quiet (fail)
  go_wp2_with (first
    | (go_at_call 29; (with_reducible refine (H1.out _).mono ?_); rintro e w' ⟨rfl, rfl⟩)
    | (go_at_call 29; (with_reducible refine (H2.out _).mono ?_); rintro e w' ⟨rfl, rfl⟩)
    | (go_at_call 29; (with_reducible refine (H3.out _).mono ?_); rintro e w' ⟨rfl, rfl⟩)
    | (go_at_call 29; (with_reducible refine (H4.out _).mono ?_); rintro e w' ⟨rfl, rfl⟩))
  go_ret2
  exact ⟨by rw [HE.out]; rfl, below_drewN HV.out.2 _⟩
end Go.Proofs.YtonkpojoniehlaaDoor
