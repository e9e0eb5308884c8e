/-
  Contracts of package code's read; and of seen and num, of any form.
-/
import Derived.Test.YtonkpojoniehlaaDoorKms
import Derived.Test.YtonkpojoniehlaaDoorKml
namespace Go.Proofs.YtonkpojoniehlaaDoor
open Go.RowKit
set_option linter.unusedVariables false
set_option linter.unusedSimpArgs false
set_option maxRecDepth 100000

theorem nine (f : Nat) (h : f ≤ 8) : f = 0 ∨ f = 1 ∨ f = 2 ∨ f = 3 ∨ f = 4 ∨ f = 5 ∨ f = 6 ∨ f = 7 ∨ f = 8 := by omega
theorem seen_any (f w : Nat) (hf : f ≤ 8) (hw : w < 4294967296) (W : World) :
    Calls Tryd.prog 30 #[.int .i64 f, .int .u32 w] W fun e w' => e = .returned (.agg #[.int .u32 ((seenN f w).1 : Nat), .int .u32 ((seenN f w).2.1 : Nat), .int .u32 ((seenN f w).2.2 : Nat)]) ∧ Below W.heap.size W w' := by
  rcases nine f hf with rfl | rfl | rfl | rfl | rfl | rfl | rfl | rfl | rfl
  · exact seen_0 w hw W
  · exact seen_1 w hw W
  · exact seen_2 w hw W
  · exact seen_3 w hw W
  · exact seen_4 w hw W
  · exact seen_5 w hw W
  · exact seen_6 w hw W
  · exact seen_7 w hw W
  · exact seen_8 w hw W
theorem num_any (f w : Nat) (hf : f ≤ 8) (hw : w < 4294967296) (W : World) :
    Calls Tryd.prog 50 #[.int .i64 f, .int .u32 w] W fun e w' => e = .returned (.int .i32 (numN f w)) ∧ Below W.heap.size W w' := by
  rcases nine f hf with rfl | rfl | rfl | rfl | rfl | rfl | rfl | rfl | rfl
  · exact num_any0 w hw W
  · exact num_any1 w hw W
  · exact num_any2 w hw W
  · exact num_any3 w hw W
  · exact num_any4 w hw W
  · exact num_any5 w hw W
  · exact num_any6 w hw W
  · exact num_any7 w hw W
  · exact num_any8 w hw W
theorem num_bd (f w : Nat) : -2147483648 ≤ numN f w ∧ numN f w ≤ 2147483647 := by
  have c := cut_lt w
  have s : ∀ k x, x < 2 ^ k → k ≤ 21 → -2147483648 ≤ sxN k x ∧ sxN k x ≤ 2147483647 := fun k x hx hk => by
    have h1 : (2 : Nat) ^ k ≤ 2 ^ 21 := Nat.pow_le_pow_right (by decide) hk
    unfold sxN
    split <;> omega
  unfold numN
  split
  · exact s 12 _ (c 20 12) (by decide)
  · have := c 20 5; omega
  · exact s 12 _ (by have := c 7 5; have := c 25 7; omega) (by decide)
  · exact s 13 _ (by have := c 8 4; have := c 25 6; have := c 7 1; have := c 31 1; omega) (by decide)
  · have := c 12 20; omega
  · exact s 21 _ (by have := c 21 10; have := c 20 1; have := c 12 8; have := c 31 1; omega) (by decide)
  · decide

/-- A line as a value. -/
def lnV (i : Ins) : Value := .agg #[.int .i64 2, .int .i64 i.op, .int .i64 i.d, .int .i64 i.a, .int .i64 i.b, .int .i32 i.n, .string ⟨#[]⟩]
def readF (op f w : Nat) : Ins :=
  ⟨op, if hasDN f then (cutN w 7 5 : Nat) else (0 : Nat), if hasAN f then (cutN w 15 5 : Nat) else (0 : Nat), if hasBN f then (cutN w 20 5 : Nat) else (0 : Nat), numN f w⟩
set_option maxHeartbeats 3200000 in
theorem read_f0 (op w : Nat) (hw : w < 4294967296) (W : World) :
    Calls Tryd.prog 31 #[.int .i64 op, .int .i64 0, .int .u32 w] W fun e w' => e = .returned (lnV (readF op 0 w)) ∧ Below W.heap.size W w' := by
  have hV : lnV (readF op 0 w) = .agg #[.int .i64 2, .int .i64 op, .int .i64 0, .int .i64 0, .int .i64 0, .int .i32 (numN 0 w), .string ⟨#[]⟩] := rfl
  rw [hV]
  clear hV
  have HN := Lib.hid (num_any0 w hw)
  have G7 : ∀ W, Calls Tryd.prog 51 #[.int .u32 w, .int .i64 7] W fun e w' => e = .returned (.int .i64 (cutN w 7 5 : Nat)) ∧ ∃ n, w' = W.drewN n := fun W => register_any w 7 hw (by decide) W
  have G15 : ∀ W, Calls Tryd.prog 51 #[.int .u32 w, .int .i64 15] W fun e w' => e = .returned (.int .i64 (cutN w 15 5 : Nat)) ∧ ∃ n, w' = W.drewN n := fun W => register_any w 15 hw (by decide) W
  have G20 : ∀ W, Calls Tryd.prog 51 #[.int .u32 w, .int .i64 20] W fun e w' => e = .returned (.int .i64 (cutN w 20 5 : Nat)) ∧ ∃ n, w' = W.drewN n := fun W => register_any w 20 hw (by decide) W
  generalize ((cutN w 7 5 : Nat) : Int) = D at *
  generalize ((cutN w 15 5 : Nat) : Int) = A at *
  generalize ((cutN w 20 5 : Nat) : Int) = B at *
  generalize numN 0 w = N at *
  have H7 := Lib.hid G7
  have H15 := Lib.hid G15
  have H20 := Lib.hid G20
  clear G7 G15 G20
  obtain ⟨p0, hp0⟩ : ∃ p0, W.heap.size = p0 := ⟨_, rfl⟩
  obtain ⟨Wa, hWa⟩ : ∃ Wa, W.alloc (.cells #[.int .i64 0, .int .i64 0, .int .i64 0, .int .i64 0, .int .i64 0, .int .i32 0, .string ⟨#[]⟩] 23) = Wa := ⟨_, rfl⟩
  have hBa : Below W.heap.size W Wa := by rw [← hWa]; exact (Below.refl _ _).alloc (Nat.le_refl _) _
  have hza : Wa.heap.size = p0 + 1 := by rw [← hWa, ← hp0]; simp
  have hzr : Wa.heap[p0]? = some (.cells #[.int .i64 0, .int .i64 0, .int .i64 0, .int .i64 0, .int .i64 0, .int .i32 0, .string ⟨#[]⟩] 23 (0, 0)) := by rw [← hWa, ← hp0]; exact heap_alloc_new W _
  have HBA := Lib.hid (And.intro hBa (And.intro hza hzr))
  clear hBa hza hzr
  go_enter Tryd.func31, Tryd.ntmps31
  go_wp2_with fail
  refine (HN.out _).mono ?_
  rintro e w1 ⟨rfl, hb1⟩
  go_wp2_with fail
  have hlt : p0 < w1.heap.size := Nat.lt_of_lt_of_le (by have := HBA.out.2.1; omega) hb1.size
  have hq0 : w1.heap[p0]? = some (.cells #[.int .i64 0, .int .i64 0, .int .i64 0, .int .i64 0, .int .i64 0, .int .i32 0, .string ⟨#[]⟩] 23 (0, 0)) := (hb1.block p0 (by have := HBA.out.2.1; omega)).trans HBA.out.2.2
  obtain ⟨q, hq⟩ : ∃ q, w1.heap.size = q := ⟨_, rfl⟩
  obtain ⟨Xa, hXa⟩ : ∃ Xa, w1.alloc (.cells #[.int .i64 2, .int .i64 op, .int .i64 0, .int .i64 0, .int .i64 0, .int .i32 N, .string ⟨#[]⟩] 23) = Xa := ⟨_, rfl⟩
  have hbx : Below w1.heap.size w1 Xa := by rw [← hXa]; exact (Below.refl _ _).alloc (Nat.le_refl _) _
  have hqa : Xa.heap[q]? = some (.cells #[.int .i64 2, .int .i64 op, .int .i64 0, .int .i64 0, .int .i64 0, .int .i32 N, .string ⟨#[]⟩] 23 (0, 0)) := by rw [← hXa, ← hq]; exact heap_alloc_new w1 _
  have hpa : Xa.heap[p0]? = some (.cells #[.int .i64 0, .int .i64 0, .int .i64 0, .int .i64 0, .int .i64 0, .int .i32 0, .string ⟨#[]⟩] 23 (0, 0)) := (hbx.block p0 hlt).trans hq0
  have hsz : Xa.heap.size = q + 1 := by rw [← hXa, ← hq]; simp
  rw [hq] at hlt
  have HX := Lib.hid (And.intro (HBA.out.1.trans ((hb1.trans (hbx.mono hb1.size)).mono HBA.out.1.size)) (And.intro (show p0 < q ∧ Xa.heap.size = q + 1 from ⟨hlt, hsz⟩) (And.intro hqa hpa)))
  clear hb1 hq0 hbx hqa hpa hsz
  rw [hXa]
  refine (H7.out _).mono ?_
  rintro e w2 ⟨rfl, m2, hw2⟩
  have HB2 : Hid (Below Xa.heap.size Xa w2) := Lib.hid (by rw [hw2]; exact below_drewN (Below.refl _ _) m2)
  clear hw2
  go_wp2_with fail
  refine (H15.out _).mono ?_
  rintro e w3 ⟨rfl, m3, hw3⟩
  have HB3 : Hid (Below Xa.heap.size Xa w3) := Lib.hid (by rw [hw3]; exact HB2.out.trans (below_drewN (Below.refl _ _) m3 |>.mono HB2.out.size))
  clear hw3
  go_wp2_with fail
  refine (H20.out _).mono ?_
  rintro e w4 ⟨rfl, m4, hw4⟩
  have HB4 : Hid (Below Xa.heap.size Xa w4) := Lib.hid (by rw [hw4]; exact HB3.out.trans (below_drewN (Below.refl _ _) m4 |>.mono HB3.out.size))
  clear hw4
  have hb4 := HB4.out
  have gq0 : w4.heap[q]? = some (.cells #[.int .i64 2, .int .i64 op, .int .i64 0, .int .i64 0, .int .i64 0, .int .i32 N, .string ⟨#[]⟩] 23 (0, 0)) := (hb4.block q (by have := HX.out.2.1; omega)).trans HX.out.2.2.1
  have gp0 : w4.heap[p0]? = some (.cells #[.int .i64 0, .int .i64 0, .int .i64 0, .int .i64 0, .int .i64 0, .int .i32 0, .string ⟨#[]⟩] 23 (0, 0)) := (hb4.block p0 (by have := HX.out.2.1; omega)).trans HX.out.2.2.2
  have hne : p0 ≠ q := by omega
  have bb0 : Below W.heap.size W w4 := HX.out.1.trans (hb4.mono HX.out.1.size)
  have u0 : w4.cell? ⟨q, 0, none⟩ = some (.int .i64 2) := by rw [cell_of_row _ _ 0 _ _ (0, 0) gq0]; rfl
  have u1 : w4.cell? ⟨q, 1, none⟩ = some (.int .i64 op) := by rw [cell_of_row _ _ 1 _ _ (0, 0) gq0]; rfl
  have u2 : w4.cell? ⟨q, 2, none⟩ = some (.int .i64 0) := by rw [cell_of_row _ _ 2 _ _ (0, 0) gq0]; rfl
  have u3 : w4.cell? ⟨q, 3, none⟩ = some (.int .i64 0) := by rw [cell_of_row _ _ 3 _ _ (0, 0) gq0]; rfl
  have u4 : w4.cell? ⟨q, 4, none⟩ = some (.int .i64 0) := by rw [cell_of_row _ _ 4 _ _ (0, 0) gq0]; rfl
  have u5 : w4.cell? ⟨q, 5, none⟩ = some (.int .i32 N) := by rw [cell_of_row _ _ 5 _ _ (0, 0) gq0]; rfl
  have u6 : w4.cell? ⟨q, 6, none⟩ = some (.string ⟨#[]⟩) := by rw [cell_of_row _ _ 6 _ _ (0, 0) gq0]; rfl
  have e0 : w4.cell? ⟨p0, 0, none⟩ = some (.int .i64 0) := by rw [cell_of_row _ _ 0 _ _ (0, 0) gp0]; rfl
  have fp0 := frozen_of_row _ p0 0 _ _ gp0
  obtain ⟨X1, hX1⟩ : ∃ X, w4.setCell ⟨p0, 0, none⟩ (.int .i64 2) = X := ⟨_, rfl⟩
  have gp1 : X1.heap[p0]? = some (.cells #[.int .i64 2, .int .i64 0, .int .i64 0, .int .i64 0, .int .i64 0, .int .i32 0, .string ⟨#[]⟩] 23 (0, 0)) := by rw [← hX1]; exact heap_setCell_same _ _ _ _ _ _ gp0
  have bb1 : Below W.heap.size W X1 := by rw [← hX1]; exact bb0.setCell (by show _ ≤ p0; omega) _
  have e1 : X1.cell? ⟨p0, 1, none⟩ = some (.int .i64 0) := by rw [cell_of_row _ _ 1 _ _ (0, 0) gp1]; rfl
  have fp1 := frozen_of_row _ p0 1 _ _ gp1
  obtain ⟨X2, hX2⟩ : ∃ X, X1.setCell ⟨p0, 1, none⟩ (.int .i64 op) = X := ⟨_, rfl⟩
  have gp2 : X2.heap[p0]? = some (.cells #[.int .i64 2, .int .i64 op, .int .i64 0, .int .i64 0, .int .i64 0, .int .i32 0, .string ⟨#[]⟩] 23 (0, 0)) := by rw [← hX2]; exact heap_setCell_same _ _ _ _ _ _ gp1
  have bb2 : Below W.heap.size W X2 := by rw [← hX2]; exact bb1.setCell (by show _ ≤ p0; omega) _
  have e2 : X2.cell? ⟨p0, 2, none⟩ = some (.int .i64 0) := by rw [cell_of_row _ _ 2 _ _ (0, 0) gp2]; rfl
  have fp2 := frozen_of_row _ p0 2 _ _ gp2
  obtain ⟨X3, hX3⟩ : ∃ X, X2.setCell ⟨p0, 2, none⟩ (.int .i64 0) = X := ⟨_, rfl⟩
  have gp3 : X3.heap[p0]? = some (.cells #[.int .i64 2, .int .i64 op, .int .i64 0, .int .i64 0, .int .i64 0, .int .i32 0, .string ⟨#[]⟩] 23 (0, 0)) := by rw [← hX3]; exact heap_setCell_same _ _ _ _ _ _ gp2
  have bb3 : Below W.heap.size W X3 := by rw [← hX3]; exact bb2.setCell (by show _ ≤ p0; omega) _
  have e3 : X3.cell? ⟨p0, 3, none⟩ = some (.int .i64 0) := by rw [cell_of_row _ _ 3 _ _ (0, 0) gp3]; rfl
  have fp3 := frozen_of_row _ p0 3 _ _ gp3
  obtain ⟨X4, hX4⟩ : ∃ X, X3.setCell ⟨p0, 3, none⟩ (.int .i64 0) = X := ⟨_, rfl⟩
  have gp4 : X4.heap[p0]? = some (.cells #[.int .i64 2, .int .i64 op, .int .i64 0, .int .i64 0, .int .i64 0, .int .i32 0, .string ⟨#[]⟩] 23 (0, 0)) := by rw [← hX4]; exact heap_setCell_same _ _ _ _ _ _ gp3
  have bb4 : Below W.heap.size W X4 := by rw [← hX4]; exact bb3.setCell (by show _ ≤ p0; omega) _
  have e4 : X4.cell? ⟨p0, 4, none⟩ = some (.int .i64 0) := by rw [cell_of_row _ _ 4 _ _ (0, 0) gp4]; rfl
  have fp4 := frozen_of_row _ p0 4 _ _ gp4
  obtain ⟨X5, hX5⟩ : ∃ X, X4.setCell ⟨p0, 4, none⟩ (.int .i64 0) = X := ⟨_, rfl⟩
  have gp5 : X5.heap[p0]? = some (.cells #[.int .i64 2, .int .i64 op, .int .i64 0, .int .i64 0, .int .i64 0, .int .i32 0, .string ⟨#[]⟩] 23 (0, 0)) := by rw [← hX5]; exact heap_setCell_same _ _ _ _ _ _ gp4
  have bb5 : Below W.heap.size W X5 := by rw [← hX5]; exact bb4.setCell (by show _ ≤ p0; omega) _
  have e5 : X5.cell? ⟨p0, 5, none⟩ = some (.int .i32 0) := by rw [cell_of_row _ _ 5 _ _ (0, 0) gp5]; rfl
  have fp5 := frozen_of_row _ p0 5 _ _ gp5
  obtain ⟨X6, hX6⟩ : ∃ X, X5.setCell ⟨p0, 5, none⟩ (.int .i32 N) = X := ⟨_, rfl⟩
  have gp6 : X6.heap[p0]? = some (.cells #[.int .i64 2, .int .i64 op, .int .i64 0, .int .i64 0, .int .i64 0, .int .i32 N, .string ⟨#[]⟩] 23 (0, 0)) := by rw [← hX6]; exact heap_setCell_same _ _ _ _ _ _ gp5
  have bb6 : Below W.heap.size W X6 := by rw [← hX6]; exact bb5.setCell (by show _ ≤ p0; omega) _
  have e6 : X6.cell? ⟨p0, 6, none⟩ = some (.string ⟨#[]⟩) := by rw [cell_of_row _ _ 6 _ _ (0, 0) gp6]; rfl
  have fp6 := frozen_of_row _ p0 6 _ _ gp6
  obtain ⟨X7, hX7⟩ : ∃ X, X6.setCell ⟨p0, 6, none⟩ (.string ⟨#[]⟩) = X := ⟨_, rfl⟩
  have gp7 : X7.heap[p0]? = some (.cells #[.int .i64 2, .int .i64 op, .int .i64 0, .int .i64 0, .int .i64 0, .int .i32 N, .string ⟨#[]⟩] 23 (0, 0)) := by rw [← hX7]; exact heap_setCell_same _ _ _ _ _ _ gp6
  have bb7 : Below W.heap.size W X7 := by rw [← hX7]; exact bb6.setCell (by show _ ≤ p0; omega) _
  have r0 : X7.cell? ⟨p0, 0, none⟩ = some (.int .i64 2) := by rw [cell_of_row _ _ 0 _ _ (0, 0) gp7]; rfl
  have r1 : X7.cell? ⟨p0, 1, none⟩ = some (.int .i64 op) := by rw [cell_of_row _ _ 1 _ _ (0, 0) gp7]; rfl
  have r2 : X7.cell? ⟨p0, 2, none⟩ = some (.int .i64 0) := by rw [cell_of_row _ _ 2 _ _ (0, 0) gp7]; rfl
  have r3 : X7.cell? ⟨p0, 3, none⟩ = some (.int .i64 0) := by rw [cell_of_row _ _ 3 _ _ (0, 0) gp7]; rfl
  have r4 : X7.cell? ⟨p0, 4, none⟩ = some (.int .i64 0) := by rw [cell_of_row _ _ 4 _ _ (0, 0) gp7]; rfl
  have r5 : X7.cell? ⟨p0, 5, none⟩ = some (.int .i32 N) := by rw [cell_of_row _ _ 5 _ _ (0, 0) gp7]; rfl
  have r6 : X7.cell? ⟨p0, 6, none⟩ = some (.string ⟨#[]⟩) := by rw [cell_of_row _ _ 6 _ _ (0, 0) gp7]; rfl
  have HBE := Lib.hid bb7
  clear gp0 bb0 gp1 bb1 gp2 bb2 gp3 bb3 gp4 bb4 gp5 bb5 gp6 bb6 gp7 bb7 gq0 hb4 hne
  go_wp2_with fail
  exact bodyPost_ret (v := .agg #[.int .i64 2, .int .i64 op, .int .i64 0, .int .i64 0, .int .i64 0, .int .i32 N, .string ⟨#[]⟩]) (by simp [results, Tryd.results31, go_sem, *]) rfl ⟨rfl, by first | exact HBE.out | (rw [hp0] at HBE; exact HBE.out)⟩
set_option maxHeartbeats 3200000 in
theorem read_f1 (op w : Nat) (hw : w < 4294967296) (W : World) :
    Calls Tryd.prog 31 #[.int .i64 op, .int .i64 1, .int .u32 w] W fun e w' => e = .returned (lnV (readF op 1 w)) ∧ Below W.heap.size W w' := by
  have hV : lnV (readF op 1 w) = .agg #[.int .i64 2, .int .i64 op, .int .i64 0, .int .i64 0, .int .i64 0, .int .i32 (numN 1 w), .string ⟨#[]⟩] := rfl
  rw [hV]
  clear hV
  have HN := Lib.hid (num_any1 w hw)
  have G7 : ∀ W, Calls Tryd.prog 51 #[.int .u32 w, .int .i64 7] W fun e w' => e = .returned (.int .i64 (cutN w 7 5 : Nat)) ∧ ∃ n, w' = W.drewN n := fun W => register_any w 7 hw (by decide) W
  have G15 : ∀ W, Calls Tryd.prog 51 #[.int .u32 w, .int .i64 15] W fun e w' => e = .returned (.int .i64 (cutN w 15 5 : Nat)) ∧ ∃ n, w' = W.drewN n := fun W => register_any w 15 hw (by decide) W
  have G20 : ∀ W, Calls Tryd.prog 51 #[.int .u32 w, .int .i64 20] W fun e w' => e = .returned (.int .i64 (cutN w 20 5 : Nat)) ∧ ∃ n, w' = W.drewN n := fun W => register_any w 20 hw (by decide) W
  generalize ((cutN w 7 5 : Nat) : Int) = D at *
  generalize ((cutN w 15 5 : Nat) : Int) = A at *
  generalize ((cutN w 20 5 : Nat) : Int) = B at *
  generalize numN 1 w = N at *
  have H7 := Lib.hid G7
  have H15 := Lib.hid G15
  have H20 := Lib.hid G20
  clear G7 G15 G20
  obtain ⟨p0, hp0⟩ : ∃ p0, W.heap.size = p0 := ⟨_, rfl⟩
  obtain ⟨Wa, hWa⟩ : ∃ Wa, W.alloc (.cells #[.int .i64 0, .int .i64 0, .int .i64 0, .int .i64 0, .int .i64 0, .int .i32 0, .string ⟨#[]⟩] 23) = Wa := ⟨_, rfl⟩
  have hBa : Below W.heap.size W Wa := by rw [← hWa]; exact (Below.refl _ _).alloc (Nat.le_refl _) _
  have hza : Wa.heap.size = p0 + 1 := by rw [← hWa, ← hp0]; simp
  have hzr : Wa.heap[p0]? = some (.cells #[.int .i64 0, .int .i64 0, .int .i64 0, .int .i64 0, .int .i64 0, .int .i32 0, .string ⟨#[]⟩] 23 (0, 0)) := by rw [← hWa, ← hp0]; exact heap_alloc_new W _
  have HBA := Lib.hid (And.intro hBa (And.intro hza hzr))
  clear hBa hza hzr
  go_enter Tryd.func31, Tryd.ntmps31
  go_wp2_with fail
  refine (HN.out _).mono ?_
  rintro e w1 ⟨rfl, hb1⟩
  go_wp2_with fail
  have hlt : p0 < w1.heap.size := Nat.lt_of_lt_of_le (by have := HBA.out.2.1; omega) hb1.size
  have hq0 : w1.heap[p0]? = some (.cells #[.int .i64 0, .int .i64 0, .int .i64 0, .int .i64 0, .int .i64 0, .int .i32 0, .string ⟨#[]⟩] 23 (0, 0)) := (hb1.block p0 (by have := HBA.out.2.1; omega)).trans HBA.out.2.2
  obtain ⟨q, hq⟩ : ∃ q, w1.heap.size = q := ⟨_, rfl⟩
  obtain ⟨Xa, hXa⟩ : ∃ Xa, w1.alloc (.cells #[.int .i64 2, .int .i64 op, .int .i64 0, .int .i64 0, .int .i64 0, .int .i32 N, .string ⟨#[]⟩] 23) = Xa := ⟨_, rfl⟩
  have hbx : Below w1.heap.size w1 Xa := by rw [← hXa]; exact (Below.refl _ _).alloc (Nat.le_refl _) _
  have hqa : Xa.heap[q]? = some (.cells #[.int .i64 2, .int .i64 op, .int .i64 0, .int .i64 0, .int .i64 0, .int .i32 N, .string ⟨#[]⟩] 23 (0, 0)) := by rw [← hXa, ← hq]; exact heap_alloc_new w1 _
  have hpa : Xa.heap[p0]? = some (.cells #[.int .i64 0, .int .i64 0, .int .i64 0, .int .i64 0, .int .i64 0, .int .i32 0, .string ⟨#[]⟩] 23 (0, 0)) := (hbx.block p0 hlt).trans hq0
  have hsz : Xa.heap.size = q + 1 := by rw [← hXa, ← hq]; simp
  rw [hq] at hlt
  have HX := Lib.hid (And.intro (HBA.out.1.trans ((hb1.trans (hbx.mono hb1.size)).mono HBA.out.1.size)) (And.intro (show p0 < q ∧ Xa.heap.size = q + 1 from ⟨hlt, hsz⟩) (And.intro hqa hpa)))
  clear hb1 hq0 hbx hqa hpa hsz
  rw [hXa]
  refine (H7.out _).mono ?_
  rintro e w2 ⟨rfl, m2, hw2⟩
  have HB2 : Hid (Below Xa.heap.size Xa w2) := Lib.hid (by rw [hw2]; exact below_drewN (Below.refl _ _) m2)
  clear hw2
  go_wp2_with fail
  refine (H15.out _).mono ?_
  rintro e w3 ⟨rfl, m3, hw3⟩
  have HB3 : Hid (Below Xa.heap.size Xa w3) := Lib.hid (by rw [hw3]; exact HB2.out.trans (below_drewN (Below.refl _ _) m3 |>.mono HB2.out.size))
  clear hw3
  go_wp2_with fail
  refine (H20.out _).mono ?_
  rintro e w4 ⟨rfl, m4, hw4⟩
  have HB4 : Hid (Below Xa.heap.size Xa w4) := Lib.hid (by rw [hw4]; exact HB3.out.trans (below_drewN (Below.refl _ _) m4 |>.mono HB3.out.size))
  clear hw4
  have hb4 := HB4.out
  have gq0 : w4.heap[q]? = some (.cells #[.int .i64 2, .int .i64 op, .int .i64 0, .int .i64 0, .int .i64 0, .int .i32 N, .string ⟨#[]⟩] 23 (0, 0)) := (hb4.block q (by have := HX.out.2.1; omega)).trans HX.out.2.2.1
  have gp0 : w4.heap[p0]? = some (.cells #[.int .i64 0, .int .i64 0, .int .i64 0, .int .i64 0, .int .i64 0, .int .i32 0, .string ⟨#[]⟩] 23 (0, 0)) := (hb4.block p0 (by have := HX.out.2.1; omega)).trans HX.out.2.2.2
  have hne : p0 ≠ q := by omega
  have bb0 : Below W.heap.size W w4 := HX.out.1.trans (hb4.mono HX.out.1.size)
  have u0 : w4.cell? ⟨q, 0, none⟩ = some (.int .i64 2) := by rw [cell_of_row _ _ 0 _ _ (0, 0) gq0]; rfl
  have u1 : w4.cell? ⟨q, 1, none⟩ = some (.int .i64 op) := by rw [cell_of_row _ _ 1 _ _ (0, 0) gq0]; rfl
  have u2 : w4.cell? ⟨q, 2, none⟩ = some (.int .i64 0) := by rw [cell_of_row _ _ 2 _ _ (0, 0) gq0]; rfl
  have u3 : w4.cell? ⟨q, 3, none⟩ = some (.int .i64 0) := by rw [cell_of_row _ _ 3 _ _ (0, 0) gq0]; rfl
  have u4 : w4.cell? ⟨q, 4, none⟩ = some (.int .i64 0) := by rw [cell_of_row _ _ 4 _ _ (0, 0) gq0]; rfl
  have u5 : w4.cell? ⟨q, 5, none⟩ = some (.int .i32 N) := by rw [cell_of_row _ _ 5 _ _ (0, 0) gq0]; rfl
  have u6 : w4.cell? ⟨q, 6, none⟩ = some (.string ⟨#[]⟩) := by rw [cell_of_row _ _ 6 _ _ (0, 0) gq0]; rfl
  have e0 : w4.cell? ⟨p0, 0, none⟩ = some (.int .i64 0) := by rw [cell_of_row _ _ 0 _ _ (0, 0) gp0]; rfl
  have fp0 := frozen_of_row _ p0 0 _ _ gp0
  obtain ⟨X1, hX1⟩ : ∃ X, w4.setCell ⟨p0, 0, none⟩ (.int .i64 2) = X := ⟨_, rfl⟩
  have gp1 : X1.heap[p0]? = some (.cells #[.int .i64 2, .int .i64 0, .int .i64 0, .int .i64 0, .int .i64 0, .int .i32 0, .string ⟨#[]⟩] 23 (0, 0)) := by rw [← hX1]; exact heap_setCell_same _ _ _ _ _ _ gp0
  have bb1 : Below W.heap.size W X1 := by rw [← hX1]; exact bb0.setCell (by show _ ≤ p0; omega) _
  have e1 : X1.cell? ⟨p0, 1, none⟩ = some (.int .i64 0) := by rw [cell_of_row _ _ 1 _ _ (0, 0) gp1]; rfl
  have fp1 := frozen_of_row _ p0 1 _ _ gp1
  obtain ⟨X2, hX2⟩ : ∃ X, X1.setCell ⟨p0, 1, none⟩ (.int .i64 op) = X := ⟨_, rfl⟩
  have gp2 : X2.heap[p0]? = some (.cells #[.int .i64 2, .int .i64 op, .int .i64 0, .int .i64 0, .int .i64 0, .int .i32 0, .string ⟨#[]⟩] 23 (0, 0)) := by rw [← hX2]; exact heap_setCell_same _ _ _ _ _ _ gp1
  have bb2 : Below W.heap.size W X2 := by rw [← hX2]; exact bb1.setCell (by show _ ≤ p0; omega) _
  have e2 : X2.cell? ⟨p0, 2, none⟩ = some (.int .i64 0) := by rw [cell_of_row _ _ 2 _ _ (0, 0) gp2]; rfl
  have fp2 := frozen_of_row _ p0 2 _ _ gp2
  obtain ⟨X3, hX3⟩ : ∃ X, X2.setCell ⟨p0, 2, none⟩ (.int .i64 0) = X := ⟨_, rfl⟩
  have gp3 : X3.heap[p0]? = some (.cells #[.int .i64 2, .int .i64 op, .int .i64 0, .int .i64 0, .int .i64 0, .int .i32 0, .string ⟨#[]⟩] 23 (0, 0)) := by rw [← hX3]; exact heap_setCell_same _ _ _ _ _ _ gp2
  have bb3 : Below W.heap.size W X3 := by rw [← hX3]; exact bb2.setCell (by show _ ≤ p0; omega) _
  have e3 : X3.cell? ⟨p0, 3, none⟩ = some (.int .i64 0) := by rw [cell_of_row _ _ 3 _ _ (0, 0) gp3]; rfl
  have fp3 := frozen_of_row _ p0 3 _ _ gp3
  obtain ⟨X4, hX4⟩ : ∃ X, X3.setCell ⟨p0, 3, none⟩ (.int .i64 0) = X := ⟨_, rfl⟩
  have gp4 : X4.heap[p0]? = some (.cells #[.int .i64 2, .int .i64 op, .int .i64 0, .int .i64 0, .int .i64 0, .int .i32 0, .string ⟨#[]⟩] 23 (0, 0)) := by rw [← hX4]; exact heap_setCell_same _ _ _ _ _ _ gp3
  have bb4 : Below W.heap.size W X4 := by rw [← hX4]; exact bb3.setCell (by show _ ≤ p0; omega) _
  have e4 : X4.cell? ⟨p0, 4, none⟩ = some (.int .i64 0) := by rw [cell_of_row _ _ 4 _ _ (0, 0) gp4]; rfl
  have fp4 := frozen_of_row _ p0 4 _ _ gp4
  obtain ⟨X5, hX5⟩ : ∃ X, X4.setCell ⟨p0, 4, none⟩ (.int .i64 0) = X := ⟨_, rfl⟩
  have gp5 : X5.heap[p0]? = some (.cells #[.int .i64 2, .int .i64 op, .int .i64 0, .int .i64 0, .int .i64 0, .int .i32 0, .string ⟨#[]⟩] 23 (0, 0)) := by rw [← hX5]; exact heap_setCell_same _ _ _ _ _ _ gp4
  have bb5 : Below W.heap.size W X5 := by rw [← hX5]; exact bb4.setCell (by show _ ≤ p0; omega) _
  have e5 : X5.cell? ⟨p0, 5, none⟩ = some (.int .i32 0) := by rw [cell_of_row _ _ 5 _ _ (0, 0) gp5]; rfl
  have fp5 := frozen_of_row _ p0 5 _ _ gp5
  obtain ⟨X6, hX6⟩ : ∃ X, X5.setCell ⟨p0, 5, none⟩ (.int .i32 N) = X := ⟨_, rfl⟩
  have gp6 : X6.heap[p0]? = some (.cells #[.int .i64 2, .int .i64 op, .int .i64 0, .int .i64 0, .int .i64 0, .int .i32 N, .string ⟨#[]⟩] 23 (0, 0)) := by rw [← hX6]; exact heap_setCell_same _ _ _ _ _ _ gp5
  have bb6 : Below W.heap.size W X6 := by rw [← hX6]; exact bb5.setCell (by show _ ≤ p0; omega) _
  have e6 : X6.cell? ⟨p0, 6, none⟩ = some (.string ⟨#[]⟩) := by rw [cell_of_row _ _ 6 _ _ (0, 0) gp6]; rfl
  have fp6 := frozen_of_row _ p0 6 _ _ gp6
  obtain ⟨X7, hX7⟩ : ∃ X, X6.setCell ⟨p0, 6, none⟩ (.string ⟨#[]⟩) = X := ⟨_, rfl⟩
  have gp7 : X7.heap[p0]? = some (.cells #[.int .i64 2, .int .i64 op, .int .i64 0, .int .i64 0, .int .i64 0, .int .i32 N, .string ⟨#[]⟩] 23 (0, 0)) := by rw [← hX7]; exact heap_setCell_same _ _ _ _ _ _ gp6
  have bb7 : Below W.heap.size W X7 := by rw [← hX7]; exact bb6.setCell (by show _ ≤ p0; omega) _
  have r0 : X7.cell? ⟨p0, 0, none⟩ = some (.int .i64 2) := by rw [cell_of_row _ _ 0 _ _ (0, 0) gp7]; rfl
  have r1 : X7.cell? ⟨p0, 1, none⟩ = some (.int .i64 op) := by rw [cell_of_row _ _ 1 _ _ (0, 0) gp7]; rfl
  have r2 : X7.cell? ⟨p0, 2, none⟩ = some (.int .i64 0) := by rw [cell_of_row _ _ 2 _ _ (0, 0) gp7]; rfl
  have r3 : X7.cell? ⟨p0, 3, none⟩ = some (.int .i64 0) := by rw [cell_of_row _ _ 3 _ _ (0, 0) gp7]; rfl
  have r4 : X7.cell? ⟨p0, 4, none⟩ = some (.int .i64 0) := by rw [cell_of_row _ _ 4 _ _ (0, 0) gp7]; rfl
  have r5 : X7.cell? ⟨p0, 5, none⟩ = some (.int .i32 N) := by rw [cell_of_row _ _ 5 _ _ (0, 0) gp7]; rfl
  have r6 : X7.cell? ⟨p0, 6, none⟩ = some (.string ⟨#[]⟩) := by rw [cell_of_row _ _ 6 _ _ (0, 0) gp7]; rfl
  have HBE := Lib.hid bb7
  clear gp0 bb0 gp1 bb1 gp2 bb2 gp3 bb3 gp4 bb4 gp5 bb5 gp6 bb6 gp7 bb7 gq0 hb4 hne
  go_wp2_with fail
  exact bodyPost_ret (v := .agg #[.int .i64 2, .int .i64 op, .int .i64 0, .int .i64 0, .int .i64 0, .int .i32 N, .string ⟨#[]⟩]) (by simp [results, Tryd.results31, go_sem, *]) rfl ⟨rfl, by first | exact HBE.out | (rw [hp0] at HBE; exact HBE.out)⟩
set_option maxHeartbeats 3200000 in
theorem read_f2 (op w : Nat) (hw : w < 4294967296) (W : World) :
    Calls Tryd.prog 31 #[.int .i64 op, .int .i64 2, .int .u32 w] W fun e w' => e = .returned (lnV (readF op 2 w)) ∧ Below W.heap.size W w' := by
  have hV : lnV (readF op 2 w) = .agg #[.int .i64 2, .int .i64 op, .int .i64 ((cutN w 7 5 : Nat) : Int), .int .i64 ((cutN w 15 5 : Nat) : Int), .int .i64 ((cutN w 20 5 : Nat) : Int), .int .i32 (numN 2 w), .string ⟨#[]⟩] := rfl
  rw [hV]
  clear hV
  have HN := Lib.hid (num_any2 w hw)
  have G7 : ∀ W, Calls Tryd.prog 51 #[.int .u32 w, .int .i64 7] W fun e w' => e = .returned (.int .i64 (cutN w 7 5 : Nat)) ∧ ∃ n, w' = W.drewN n := fun W => register_any w 7 hw (by decide) W
  have G15 : ∀ W, Calls Tryd.prog 51 #[.int .u32 w, .int .i64 15] W fun e w' => e = .returned (.int .i64 (cutN w 15 5 : Nat)) ∧ ∃ n, w' = W.drewN n := fun W => register_any w 15 hw (by decide) W
  have G20 : ∀ W, Calls Tryd.prog 51 #[.int .u32 w, .int .i64 20] W fun e w' => e = .returned (.int .i64 (cutN w 20 5 : Nat)) ∧ ∃ n, w' = W.drewN n := fun W => register_any w 20 hw (by decide) W
  generalize ((cutN w 7 5 : Nat) : Int) = D at *
  generalize ((cutN w 15 5 : Nat) : Int) = A at *
  generalize ((cutN w 20 5 : Nat) : Int) = B at *
  generalize numN 2 w = N at *
  have H7 := Lib.hid G7
  have H15 := Lib.hid G15
  have H20 := Lib.hid G20
  clear G7 G15 G20
  obtain ⟨p0, hp0⟩ : ∃ p0, W.heap.size = p0 := ⟨_, rfl⟩
  obtain ⟨Wa, hWa⟩ : ∃ Wa, W.alloc (.cells #[.int .i64 0, .int .i64 0, .int .i64 0, .int .i64 0, .int .i64 0, .int .i32 0, .string ⟨#[]⟩] 23) = Wa := ⟨_, rfl⟩
  have hBa : Below W.heap.size W Wa := by rw [← hWa]; exact (Below.refl _ _).alloc (Nat.le_refl _) _
  have hza : Wa.heap.size = p0 + 1 := by rw [← hWa, ← hp0]; simp
  have hzr : Wa.heap[p0]? = some (.cells #[.int .i64 0, .int .i64 0, .int .i64 0, .int .i64 0, .int .i64 0, .int .i32 0, .string ⟨#[]⟩] 23 (0, 0)) := by rw [← hWa, ← hp0]; exact heap_alloc_new W _
  have HBA := Lib.hid (And.intro hBa (And.intro hza hzr))
  clear hBa hza hzr
  go_enter Tryd.func31, Tryd.ntmps31
  go_wp2_with fail
  refine (HN.out _).mono ?_
  rintro e w1 ⟨rfl, hb1⟩
  go_wp2_with fail
  have hlt : p0 < w1.heap.size := Nat.lt_of_lt_of_le (by have := HBA.out.2.1; omega) hb1.size
  have hq0 : w1.heap[p0]? = some (.cells #[.int .i64 0, .int .i64 0, .int .i64 0, .int .i64 0, .int .i64 0, .int .i32 0, .string ⟨#[]⟩] 23 (0, 0)) := (hb1.block p0 (by have := HBA.out.2.1; omega)).trans HBA.out.2.2
  obtain ⟨q, hq⟩ : ∃ q, w1.heap.size = q := ⟨_, rfl⟩
  obtain ⟨Xa, hXa⟩ : ∃ Xa, w1.alloc (.cells #[.int .i64 2, .int .i64 op, .int .i64 0, .int .i64 0, .int .i64 0, .int .i32 N, .string ⟨#[]⟩] 23) = Xa := ⟨_, rfl⟩
  have hbx : Below w1.heap.size w1 Xa := by rw [← hXa]; exact (Below.refl _ _).alloc (Nat.le_refl _) _
  have hqa : Xa.heap[q]? = some (.cells #[.int .i64 2, .int .i64 op, .int .i64 0, .int .i64 0, .int .i64 0, .int .i32 N, .string ⟨#[]⟩] 23 (0, 0)) := by rw [← hXa, ← hq]; exact heap_alloc_new w1 _
  have hpa : Xa.heap[p0]? = some (.cells #[.int .i64 0, .int .i64 0, .int .i64 0, .int .i64 0, .int .i64 0, .int .i32 0, .string ⟨#[]⟩] 23 (0, 0)) := (hbx.block p0 hlt).trans hq0
  have hsz : Xa.heap.size = q + 1 := by rw [← hXa, ← hq]; simp
  rw [hq] at hlt
  have HX := Lib.hid (And.intro (HBA.out.1.trans ((hb1.trans (hbx.mono hb1.size)).mono HBA.out.1.size)) (And.intro (show p0 < q ∧ Xa.heap.size = q + 1 from ⟨hlt, hsz⟩) (And.intro hqa hpa)))
  clear hb1 hq0 hbx hqa hpa hsz
  rw [hXa]
  refine (H7.out _).mono ?_
  rintro e w2 ⟨rfl, m2, hw2⟩
  have HB2 : Hid (Below Xa.heap.size Xa w2) := Lib.hid (by rw [hw2]; exact below_drewN (Below.refl _ _) m2)
  clear hw2
  go_wp2_with fail
  refine (H15.out _).mono ?_
  rintro e w3 ⟨rfl, m3, hw3⟩
  have HB3 : Hid (Below Xa.heap.size Xa w3) := Lib.hid (by rw [hw3]; exact HB2.out.trans (below_drewN (Below.refl _ _) m3 |>.mono HB2.out.size))
  clear hw3
  go_wp2_with fail
  refine (H20.out _).mono ?_
  rintro e w4 ⟨rfl, m4, hw4⟩
  have HB4 : Hid (Below Xa.heap.size Xa w4) := Lib.hid (by rw [hw4]; exact HB3.out.trans (below_drewN (Below.refl _ _) m4 |>.mono HB3.out.size))
  clear hw4
  have hb4 := HB4.out
  have gq0 : w4.heap[q]? = some (.cells #[.int .i64 2, .int .i64 op, .int .i64 0, .int .i64 0, .int .i64 0, .int .i32 N, .string ⟨#[]⟩] 23 (0, 0)) := (hb4.block q (by have := HX.out.2.1; omega)).trans HX.out.2.2.1
  have gp0 : w4.heap[p0]? = some (.cells #[.int .i64 0, .int .i64 0, .int .i64 0, .int .i64 0, .int .i64 0, .int .i32 0, .string ⟨#[]⟩] 23 (0, 0)) := (hb4.block p0 (by have := HX.out.2.1; omega)).trans HX.out.2.2.2
  have hne : p0 ≠ q := by omega
  have bb0 : Below W.heap.size W w4 := HX.out.1.trans (hb4.mono HX.out.1.size)
  have d0 : w4.cell? ⟨q, 2, none⟩ = some (.int .i64 0) := by rw [cell_of_row _ _ 2 _ _ (0, 0) gq0]; rfl
  have fz0 := frozen_of_row _ q 2 _ _ gq0
  obtain ⟨X1, hX1⟩ : ∃ X, w4.setCell ⟨q, 2, none⟩ (.int .i64 D) = X := ⟨_, rfl⟩
  have gq1 : X1.heap[q]? = some (.cells #[.int .i64 2, .int .i64 op, .int .i64 D, .int .i64 0, .int .i64 0, .int .i32 N, .string ⟨#[]⟩] 23 (0, 0)) := by rw [← hX1]; exact heap_setCell_same _ _ _ _ _ _ gq0
  have gp1 : X1.heap[p0]? = some (.cells #[.int .i64 0, .int .i64 0, .int .i64 0, .int .i64 0, .int .i64 0, .int .i32 0, .string ⟨#[]⟩] 23 (0, 0)) := by rw [← hX1]; exact (heap_setCell_other _ ⟨q, 2, none⟩ p0 _ hne).trans gp0
  have bb1 : Below W.heap.size W X1 := by rw [← hX1]; exact bb0.setCell (by show _ ≤ q; omega) _
  have d1 : X1.cell? ⟨q, 3, none⟩ = some (.int .i64 0) := by rw [cell_of_row _ _ 3 _ _ (0, 0) gq1]; rfl
  have fz1 := frozen_of_row _ q 3 _ _ gq1
  obtain ⟨X2, hX2⟩ : ∃ X, X1.setCell ⟨q, 3, none⟩ (.int .i64 A) = X := ⟨_, rfl⟩
  have gq2 : X2.heap[q]? = some (.cells #[.int .i64 2, .int .i64 op, .int .i64 D, .int .i64 A, .int .i64 0, .int .i32 N, .string ⟨#[]⟩] 23 (0, 0)) := by rw [← hX2]; exact heap_setCell_same _ _ _ _ _ _ gq1
  have gp2 : X2.heap[p0]? = some (.cells #[.int .i64 0, .int .i64 0, .int .i64 0, .int .i64 0, .int .i64 0, .int .i32 0, .string ⟨#[]⟩] 23 (0, 0)) := by rw [← hX2]; exact (heap_setCell_other _ ⟨q, 3, none⟩ p0 _ hne).trans gp1
  have bb2 : Below W.heap.size W X2 := by rw [← hX2]; exact bb1.setCell (by show _ ≤ q; omega) _
  have d2 : X2.cell? ⟨q, 4, none⟩ = some (.int .i64 0) := by rw [cell_of_row _ _ 4 _ _ (0, 0) gq2]; rfl
  have fz2 := frozen_of_row _ q 4 _ _ gq2
  obtain ⟨X3, hX3⟩ : ∃ X, X2.setCell ⟨q, 4, none⟩ (.int .i64 B) = X := ⟨_, rfl⟩
  have gq3 : X3.heap[q]? = some (.cells #[.int .i64 2, .int .i64 op, .int .i64 D, .int .i64 A, .int .i64 B, .int .i32 N, .string ⟨#[]⟩] 23 (0, 0)) := by rw [← hX3]; exact heap_setCell_same _ _ _ _ _ _ gq2
  have gp3 : X3.heap[p0]? = some (.cells #[.int .i64 0, .int .i64 0, .int .i64 0, .int .i64 0, .int .i64 0, .int .i32 0, .string ⟨#[]⟩] 23 (0, 0)) := by rw [← hX3]; exact (heap_setCell_other _ ⟨q, 4, none⟩ p0 _ hne).trans gp2
  have bb3 : Below W.heap.size W X3 := by rw [← hX3]; exact bb2.setCell (by show _ ≤ q; omega) _
  have u0 : X3.cell? ⟨q, 0, none⟩ = some (.int .i64 2) := by rw [cell_of_row _ _ 0 _ _ (0, 0) gq3]; rfl
  have u1 : X3.cell? ⟨q, 1, none⟩ = some (.int .i64 op) := by rw [cell_of_row _ _ 1 _ _ (0, 0) gq3]; rfl
  have u2 : X3.cell? ⟨q, 2, none⟩ = some (.int .i64 D) := by rw [cell_of_row _ _ 2 _ _ (0, 0) gq3]; rfl
  have u3 : X3.cell? ⟨q, 3, none⟩ = some (.int .i64 A) := by rw [cell_of_row _ _ 3 _ _ (0, 0) gq3]; rfl
  have u4 : X3.cell? ⟨q, 4, none⟩ = some (.int .i64 B) := by rw [cell_of_row _ _ 4 _ _ (0, 0) gq3]; rfl
  have u5 : X3.cell? ⟨q, 5, none⟩ = some (.int .i32 N) := by rw [cell_of_row _ _ 5 _ _ (0, 0) gq3]; rfl
  have u6 : X3.cell? ⟨q, 6, none⟩ = some (.string ⟨#[]⟩) := by rw [cell_of_row _ _ 6 _ _ (0, 0) gq3]; rfl
  have e0 : X3.cell? ⟨p0, 0, none⟩ = some (.int .i64 0) := by rw [cell_of_row _ _ 0 _ _ (0, 0) gp3]; rfl
  have fp0 := frozen_of_row _ p0 0 _ _ gp3
  obtain ⟨X4, hX4⟩ : ∃ X, X3.setCell ⟨p0, 0, none⟩ (.int .i64 2) = X := ⟨_, rfl⟩
  have gp4 : X4.heap[p0]? = some (.cells #[.int .i64 2, .int .i64 0, .int .i64 0, .int .i64 0, .int .i64 0, .int .i32 0, .string ⟨#[]⟩] 23 (0, 0)) := by rw [← hX4]; exact heap_setCell_same _ _ _ _ _ _ gp3
  have bb4 : Below W.heap.size W X4 := by rw [← hX4]; exact bb3.setCell (by show _ ≤ p0; omega) _
  have e1 : X4.cell? ⟨p0, 1, none⟩ = some (.int .i64 0) := by rw [cell_of_row _ _ 1 _ _ (0, 0) gp4]; rfl
  have fp1 := frozen_of_row _ p0 1 _ _ gp4
  obtain ⟨X5, hX5⟩ : ∃ X, X4.setCell ⟨p0, 1, none⟩ (.int .i64 op) = X := ⟨_, rfl⟩
  have gp5 : X5.heap[p0]? = some (.cells #[.int .i64 2, .int .i64 op, .int .i64 0, .int .i64 0, .int .i64 0, .int .i32 0, .string ⟨#[]⟩] 23 (0, 0)) := by rw [← hX5]; exact heap_setCell_same _ _ _ _ _ _ gp4
  have bb5 : Below W.heap.size W X5 := by rw [← hX5]; exact bb4.setCell (by show _ ≤ p0; omega) _
  have e2 : X5.cell? ⟨p0, 2, none⟩ = some (.int .i64 0) := by rw [cell_of_row _ _ 2 _ _ (0, 0) gp5]; rfl
  have fp2 := frozen_of_row _ p0 2 _ _ gp5
  obtain ⟨X6, hX6⟩ : ∃ X, X5.setCell ⟨p0, 2, none⟩ (.int .i64 D) = X := ⟨_, rfl⟩
  have gp6 : X6.heap[p0]? = some (.cells #[.int .i64 2, .int .i64 op, .int .i64 D, .int .i64 0, .int .i64 0, .int .i32 0, .string ⟨#[]⟩] 23 (0, 0)) := by rw [← hX6]; exact heap_setCell_same _ _ _ _ _ _ gp5
  have bb6 : Below W.heap.size W X6 := by rw [← hX6]; exact bb5.setCell (by show _ ≤ p0; omega) _
  have e3 : X6.cell? ⟨p0, 3, none⟩ = some (.int .i64 0) := by rw [cell_of_row _ _ 3 _ _ (0, 0) gp6]; rfl
  have fp3 := frozen_of_row _ p0 3 _ _ gp6
  obtain ⟨X7, hX7⟩ : ∃ X, X6.setCell ⟨p0, 3, none⟩ (.int .i64 A) = X := ⟨_, rfl⟩
  have gp7 : X7.heap[p0]? = some (.cells #[.int .i64 2, .int .i64 op, .int .i64 D, .int .i64 A, .int .i64 0, .int .i32 0, .string ⟨#[]⟩] 23 (0, 0)) := by rw [← hX7]; exact heap_setCell_same _ _ _ _ _ _ gp6
  have bb7 : Below W.heap.size W X7 := by rw [← hX7]; exact bb6.setCell (by show _ ≤ p0; omega) _
  have e4 : X7.cell? ⟨p0, 4, none⟩ = some (.int .i64 0) := by rw [cell_of_row _ _ 4 _ _ (0, 0) gp7]; rfl
  have fp4 := frozen_of_row _ p0 4 _ _ gp7
  obtain ⟨X8, hX8⟩ : ∃ X, X7.setCell ⟨p0, 4, none⟩ (.int .i64 B) = X := ⟨_, rfl⟩
  have gp8 : X8.heap[p0]? = some (.cells #[.int .i64 2, .int .i64 op, .int .i64 D, .int .i64 A, .int .i64 B, .int .i32 0, .string ⟨#[]⟩] 23 (0, 0)) := by rw [← hX8]; exact heap_setCell_same _ _ _ _ _ _ gp7
  have bb8 : Below W.heap.size W X8 := by rw [← hX8]; exact bb7.setCell (by show _ ≤ p0; omega) _
  have e5 : X8.cell? ⟨p0, 5, none⟩ = some (.int .i32 0) := by rw [cell_of_row _ _ 5 _ _ (0, 0) gp8]; rfl
  have fp5 := frozen_of_row _ p0 5 _ _ gp8
  obtain ⟨X9, hX9⟩ : ∃ X, X8.setCell ⟨p0, 5, none⟩ (.int .i32 N) = X := ⟨_, rfl⟩
  have gp9 : X9.heap[p0]? = some (.cells #[.int .i64 2, .int .i64 op, .int .i64 D, .int .i64 A, .int .i64 B, .int .i32 N, .string ⟨#[]⟩] 23 (0, 0)) := by rw [← hX9]; exact heap_setCell_same _ _ _ _ _ _ gp8
  have bb9 : Below W.heap.size W X9 := by rw [← hX9]; exact bb8.setCell (by show _ ≤ p0; omega) _
  have e6 : X9.cell? ⟨p0, 6, none⟩ = some (.string ⟨#[]⟩) := by rw [cell_of_row _ _ 6 _ _ (0, 0) gp9]; rfl
  have fp6 := frozen_of_row _ p0 6 _ _ gp9
  obtain ⟨X10, hX10⟩ : ∃ X, X9.setCell ⟨p0, 6, none⟩ (.string ⟨#[]⟩) = X := ⟨_, rfl⟩
  have gp10 : X10.heap[p0]? = some (.cells #[.int .i64 2, .int .i64 op, .int .i64 D, .int .i64 A, .int .i64 B, .int .i32 N, .string ⟨#[]⟩] 23 (0, 0)) := by rw [← hX10]; exact heap_setCell_same _ _ _ _ _ _ gp9
  have bb10 : Below W.heap.size W X10 := by rw [← hX10]; exact bb9.setCell (by show _ ≤ p0; omega) _
  have r0 : X10.cell? ⟨p0, 0, none⟩ = some (.int .i64 2) := by rw [cell_of_row _ _ 0 _ _ (0, 0) gp10]; rfl
  have r1 : X10.cell? ⟨p0, 1, none⟩ = some (.int .i64 op) := by rw [cell_of_row _ _ 1 _ _ (0, 0) gp10]; rfl
  have r2 : X10.cell? ⟨p0, 2, none⟩ = some (.int .i64 D) := by rw [cell_of_row _ _ 2 _ _ (0, 0) gp10]; rfl
  have r3 : X10.cell? ⟨p0, 3, none⟩ = some (.int .i64 A) := by rw [cell_of_row _ _ 3 _ _ (0, 0) gp10]; rfl
  have r4 : X10.cell? ⟨p0, 4, none⟩ = some (.int .i64 B) := by rw [cell_of_row _ _ 4 _ _ (0, 0) gp10]; rfl
  have r5 : X10.cell? ⟨p0, 5, none⟩ = some (.int .i32 N) := by rw [cell_of_row _ _ 5 _ _ (0, 0) gp10]; rfl
  have r6 : X10.cell? ⟨p0, 6, none⟩ = some (.string ⟨#[]⟩) := by rw [cell_of_row _ _ 6 _ _ (0, 0) gp10]; rfl
  have HBE := Lib.hid bb10
  clear gp0 bb0 gp1 bb1 gp2 bb2 gp3 bb3 gp4 bb4 gp5 bb5 gp6 bb6 gp7 bb7 gp8 bb8 gp9 bb9 gp10 bb10 gq0 gq1 gq2 gq3 hb4 hne
  go_wp2_with fail
  exact bodyPost_ret (v := .agg #[.int .i64 2, .int .i64 op, .int .i64 D, .int .i64 A, .int .i64 B, .int .i32 N, .string ⟨#[]⟩]) (by simp [results, Tryd.results31, go_sem, *]) rfl ⟨rfl, by first | exact HBE.out | (rw [hp0] at HBE; exact HBE.out)⟩
set_option maxHeartbeats 3200000 in
theorem read_f3 (op w : Nat) (hw : w < 4294967296) (W : World) :
    Calls Tryd.prog 31 #[.int .i64 op, .int .i64 3, .int .u32 w] W fun e w' => e = .returned (lnV (readF op 3 w)) ∧ Below W.heap.size W w' := by
  have hV : lnV (readF op 3 w) = .agg #[.int .i64 2, .int .i64 op, .int .i64 ((cutN w 7 5 : Nat) : Int), .int .i64 ((cutN w 15 5 : Nat) : Int), .int .i64 0, .int .i32 (numN 3 w), .string ⟨#[]⟩] := rfl
  rw [hV]
  clear hV
  have HN := Lib.hid (num_any3 w hw)
  have G7 : ∀ W, Calls Tryd.prog 51 #[.int .u32 w, .int .i64 7] W fun e w' => e = .returned (.int .i64 (cutN w 7 5 : Nat)) ∧ ∃ n, w' = W.drewN n := fun W => register_any w 7 hw (by decide) W
  have G15 : ∀ W, Calls Tryd.prog 51 #[.int .u32 w, .int .i64 15] W fun e w' => e = .returned (.int .i64 (cutN w 15 5 : Nat)) ∧ ∃ n, w' = W.drewN n := fun W => register_any w 15 hw (by decide) W
  have G20 : ∀ W, Calls Tryd.prog 51 #[.int .u32 w, .int .i64 20] W fun e w' => e = .returned (.int .i64 (cutN w 20 5 : Nat)) ∧ ∃ n, w' = W.drewN n := fun W => register_any w 20 hw (by decide) W
  generalize ((cutN w 7 5 : Nat) : Int) = D at *
  generalize ((cutN w 15 5 : Nat) : Int) = A at *
  generalize ((cutN w 20 5 : Nat) : Int) = B at *
  generalize numN 3 w = N at *
  have H7 := Lib.hid G7
  have H15 := Lib.hid G15
  have H20 := Lib.hid G20
  clear G7 G15 G20
  obtain ⟨p0, hp0⟩ : ∃ p0, W.heap.size = p0 := ⟨_, rfl⟩
  obtain ⟨Wa, hWa⟩ : ∃ Wa, W.alloc (.cells #[.int .i64 0, .int .i64 0, .int .i64 0, .int .i64 0, .int .i64 0, .int .i32 0, .string ⟨#[]⟩] 23) = Wa := ⟨_, rfl⟩
  have hBa : Below W.heap.size W Wa := by rw [← hWa]; exact (Below.refl _ _).alloc (Nat.le_refl _) _
  have hza : Wa.heap.size = p0 + 1 := by rw [← hWa, ← hp0]; simp
  have hzr : Wa.heap[p0]? = some (.cells #[.int .i64 0, .int .i64 0, .int .i64 0, .int .i64 0, .int .i64 0, .int .i32 0, .string ⟨#[]⟩] 23 (0, 0)) := by rw [← hWa, ← hp0]; exact heap_alloc_new W _
  have HBA := Lib.hid (And.intro hBa (And.intro hza hzr))
  clear hBa hza hzr
  go_enter Tryd.func31, Tryd.ntmps31
  go_wp2_with fail
  refine (HN.out _).mono ?_
  rintro e w1 ⟨rfl, hb1⟩
  go_wp2_with fail
  have hlt : p0 < w1.heap.size := Nat.lt_of_lt_of_le (by have := HBA.out.2.1; omega) hb1.size
  have hq0 : w1.heap[p0]? = some (.cells #[.int .i64 0, .int .i64 0, .int .i64 0, .int .i64 0, .int .i64 0, .int .i32 0, .string ⟨#[]⟩] 23 (0, 0)) := (hb1.block p0 (by have := HBA.out.2.1; omega)).trans HBA.out.2.2
  obtain ⟨q, hq⟩ : ∃ q, w1.heap.size = q := ⟨_, rfl⟩
  obtain ⟨Xa, hXa⟩ : ∃ Xa, w1.alloc (.cells #[.int .i64 2, .int .i64 op, .int .i64 0, .int .i64 0, .int .i64 0, .int .i32 N, .string ⟨#[]⟩] 23) = Xa := ⟨_, rfl⟩
  have hbx : Below w1.heap.size w1 Xa := by rw [← hXa]; exact (Below.refl _ _).alloc (Nat.le_refl _) _
  have hqa : Xa.heap[q]? = some (.cells #[.int .i64 2, .int .i64 op, .int .i64 0, .int .i64 0, .int .i64 0, .int .i32 N, .string ⟨#[]⟩] 23 (0, 0)) := by rw [← hXa, ← hq]; exact heap_alloc_new w1 _
  have hpa : Xa.heap[p0]? = some (.cells #[.int .i64 0, .int .i64 0, .int .i64 0, .int .i64 0, .int .i64 0, .int .i32 0, .string ⟨#[]⟩] 23 (0, 0)) := (hbx.block p0 hlt).trans hq0
  have hsz : Xa.heap.size = q + 1 := by rw [← hXa, ← hq]; simp
  rw [hq] at hlt
  have HX := Lib.hid (And.intro (HBA.out.1.trans ((hb1.trans (hbx.mono hb1.size)).mono HBA.out.1.size)) (And.intro (show p0 < q ∧ Xa.heap.size = q + 1 from ⟨hlt, hsz⟩) (And.intro hqa hpa)))
  clear hb1 hq0 hbx hqa hpa hsz
  rw [hXa]
  refine (H7.out _).mono ?_
  rintro e w2 ⟨rfl, m2, hw2⟩
  have HB2 : Hid (Below Xa.heap.size Xa w2) := Lib.hid (by rw [hw2]; exact below_drewN (Below.refl _ _) m2)
  clear hw2
  go_wp2_with fail
  refine (H15.out _).mono ?_
  rintro e w3 ⟨rfl, m3, hw3⟩
  have HB3 : Hid (Below Xa.heap.size Xa w3) := Lib.hid (by rw [hw3]; exact HB2.out.trans (below_drewN (Below.refl _ _) m3 |>.mono HB2.out.size))
  clear hw3
  go_wp2_with fail
  refine (H20.out _).mono ?_
  rintro e w4 ⟨rfl, m4, hw4⟩
  have HB4 : Hid (Below Xa.heap.size Xa w4) := Lib.hid (by rw [hw4]; exact HB3.out.trans (below_drewN (Below.refl _ _) m4 |>.mono HB3.out.size))
  clear hw4
  have hb4 := HB4.out
  have gq0 : w4.heap[q]? = some (.cells #[.int .i64 2, .int .i64 op, .int .i64 0, .int .i64 0, .int .i64 0, .int .i32 N, .string ⟨#[]⟩] 23 (0, 0)) := (hb4.block q (by have := HX.out.2.1; omega)).trans HX.out.2.2.1
  have gp0 : w4.heap[p0]? = some (.cells #[.int .i64 0, .int .i64 0, .int .i64 0, .int .i64 0, .int .i64 0, .int .i32 0, .string ⟨#[]⟩] 23 (0, 0)) := (hb4.block p0 (by have := HX.out.2.1; omega)).trans HX.out.2.2.2
  have hne : p0 ≠ q := by omega
  have bb0 : Below W.heap.size W w4 := HX.out.1.trans (hb4.mono HX.out.1.size)
  have d0 : w4.cell? ⟨q, 2, none⟩ = some (.int .i64 0) := by rw [cell_of_row _ _ 2 _ _ (0, 0) gq0]; rfl
  have fz0 := frozen_of_row _ q 2 _ _ gq0
  obtain ⟨X1, hX1⟩ : ∃ X, w4.setCell ⟨q, 2, none⟩ (.int .i64 D) = X := ⟨_, rfl⟩
  have gq1 : X1.heap[q]? = some (.cells #[.int .i64 2, .int .i64 op, .int .i64 D, .int .i64 0, .int .i64 0, .int .i32 N, .string ⟨#[]⟩] 23 (0, 0)) := by rw [← hX1]; exact heap_setCell_same _ _ _ _ _ _ gq0
  have gp1 : X1.heap[p0]? = some (.cells #[.int .i64 0, .int .i64 0, .int .i64 0, .int .i64 0, .int .i64 0, .int .i32 0, .string ⟨#[]⟩] 23 (0, 0)) := by rw [← hX1]; exact (heap_setCell_other _ ⟨q, 2, none⟩ p0 _ hne).trans gp0
  have bb1 : Below W.heap.size W X1 := by rw [← hX1]; exact bb0.setCell (by show _ ≤ q; omega) _
  have d1 : X1.cell? ⟨q, 3, none⟩ = some (.int .i64 0) := by rw [cell_of_row _ _ 3 _ _ (0, 0) gq1]; rfl
  have fz1 := frozen_of_row _ q 3 _ _ gq1
  obtain ⟨X2, hX2⟩ : ∃ X, X1.setCell ⟨q, 3, none⟩ (.int .i64 A) = X := ⟨_, rfl⟩
  have gq2 : X2.heap[q]? = some (.cells #[.int .i64 2, .int .i64 op, .int .i64 D, .int .i64 A, .int .i64 0, .int .i32 N, .string ⟨#[]⟩] 23 (0, 0)) := by rw [← hX2]; exact heap_setCell_same _ _ _ _ _ _ gq1
  have gp2 : X2.heap[p0]? = some (.cells #[.int .i64 0, .int .i64 0, .int .i64 0, .int .i64 0, .int .i64 0, .int .i32 0, .string ⟨#[]⟩] 23 (0, 0)) := by rw [← hX2]; exact (heap_setCell_other _ ⟨q, 3, none⟩ p0 _ hne).trans gp1
  have bb2 : Below W.heap.size W X2 := by rw [← hX2]; exact bb1.setCell (by show _ ≤ q; omega) _
  have u0 : X2.cell? ⟨q, 0, none⟩ = some (.int .i64 2) := by rw [cell_of_row _ _ 0 _ _ (0, 0) gq2]; rfl
  have u1 : X2.cell? ⟨q, 1, none⟩ = some (.int .i64 op) := by rw [cell_of_row _ _ 1 _ _ (0, 0) gq2]; rfl
  have u2 : X2.cell? ⟨q, 2, none⟩ = some (.int .i64 D) := by rw [cell_of_row _ _ 2 _ _ (0, 0) gq2]; rfl
  have u3 : X2.cell? ⟨q, 3, none⟩ = some (.int .i64 A) := by rw [cell_of_row _ _ 3 _ _ (0, 0) gq2]; rfl
  have u4 : X2.cell? ⟨q, 4, none⟩ = some (.int .i64 0) := by rw [cell_of_row _ _ 4 _ _ (0, 0) gq2]; rfl
  have u5 : X2.cell? ⟨q, 5, none⟩ = some (.int .i32 N) := by rw [cell_of_row _ _ 5 _ _ (0, 0) gq2]; rfl
  have u6 : X2.cell? ⟨q, 6, none⟩ = some (.string ⟨#[]⟩) := by rw [cell_of_row _ _ 6 _ _ (0, 0) gq2]; rfl
  have e0 : X2.cell? ⟨p0, 0, none⟩ = some (.int .i64 0) := by rw [cell_of_row _ _ 0 _ _ (0, 0) gp2]; rfl
  have fp0 := frozen_of_row _ p0 0 _ _ gp2
  obtain ⟨X3, hX3⟩ : ∃ X, X2.setCell ⟨p0, 0, none⟩ (.int .i64 2) = X := ⟨_, rfl⟩
  have gp3 : X3.heap[p0]? = some (.cells #[.int .i64 2, .int .i64 0, .int .i64 0, .int .i64 0, .int .i64 0, .int .i32 0, .string ⟨#[]⟩] 23 (0, 0)) := by rw [← hX3]; exact heap_setCell_same _ _ _ _ _ _ gp2
  have bb3 : Below W.heap.size W X3 := by rw [← hX3]; exact bb2.setCell (by show _ ≤ p0; omega) _
  have e1 : X3.cell? ⟨p0, 1, none⟩ = some (.int .i64 0) := by rw [cell_of_row _ _ 1 _ _ (0, 0) gp3]; rfl
  have fp1 := frozen_of_row _ p0 1 _ _ gp3
  obtain ⟨X4, hX4⟩ : ∃ X, X3.setCell ⟨p0, 1, none⟩ (.int .i64 op) = X := ⟨_, rfl⟩
  have gp4 : X4.heap[p0]? = some (.cells #[.int .i64 2, .int .i64 op, .int .i64 0, .int .i64 0, .int .i64 0, .int .i32 0, .string ⟨#[]⟩] 23 (0, 0)) := by rw [← hX4]; exact heap_setCell_same _ _ _ _ _ _ gp3
  have bb4 : Below W.heap.size W X4 := by rw [← hX4]; exact bb3.setCell (by show _ ≤ p0; omega) _
  have e2 : X4.cell? ⟨p0, 2, none⟩ = some (.int .i64 0) := by rw [cell_of_row _ _ 2 _ _ (0, 0) gp4]; rfl
  have fp2 := frozen_of_row _ p0 2 _ _ gp4
  obtain ⟨X5, hX5⟩ : ∃ X, X4.setCell ⟨p0, 2, none⟩ (.int .i64 D) = X := ⟨_, rfl⟩
  have gp5 : X5.heap[p0]? = some (.cells #[.int .i64 2, .int .i64 op, .int .i64 D, .int .i64 0, .int .i64 0, .int .i32 0, .string ⟨#[]⟩] 23 (0, 0)) := by rw [← hX5]; exact heap_setCell_same _ _ _ _ _ _ gp4
  have bb5 : Below W.heap.size W X5 := by rw [← hX5]; exact bb4.setCell (by show _ ≤ p0; omega) _
  have e3 : X5.cell? ⟨p0, 3, none⟩ = some (.int .i64 0) := by rw [cell_of_row _ _ 3 _ _ (0, 0) gp5]; rfl
  have fp3 := frozen_of_row _ p0 3 _ _ gp5
  obtain ⟨X6, hX6⟩ : ∃ X, X5.setCell ⟨p0, 3, none⟩ (.int .i64 A) = X := ⟨_, rfl⟩
  have gp6 : X6.heap[p0]? = some (.cells #[.int .i64 2, .int .i64 op, .int .i64 D, .int .i64 A, .int .i64 0, .int .i32 0, .string ⟨#[]⟩] 23 (0, 0)) := by rw [← hX6]; exact heap_setCell_same _ _ _ _ _ _ gp5
  have bb6 : Below W.heap.size W X6 := by rw [← hX6]; exact bb5.setCell (by show _ ≤ p0; omega) _
  have e4 : X6.cell? ⟨p0, 4, none⟩ = some (.int .i64 0) := by rw [cell_of_row _ _ 4 _ _ (0, 0) gp6]; rfl
  have fp4 := frozen_of_row _ p0 4 _ _ gp6
  obtain ⟨X7, hX7⟩ : ∃ X, X6.setCell ⟨p0, 4, none⟩ (.int .i64 0) = X := ⟨_, rfl⟩
  have gp7 : X7.heap[p0]? = some (.cells #[.int .i64 2, .int .i64 op, .int .i64 D, .int .i64 A, .int .i64 0, .int .i32 0, .string ⟨#[]⟩] 23 (0, 0)) := by rw [← hX7]; exact heap_setCell_same _ _ _ _ _ _ gp6
  have bb7 : Below W.heap.size W X7 := by rw [← hX7]; exact bb6.setCell (by show _ ≤ p0; omega) _
  have e5 : X7.cell? ⟨p0, 5, none⟩ = some (.int .i32 0) := by rw [cell_of_row _ _ 5 _ _ (0, 0) gp7]; rfl
  have fp5 := frozen_of_row _ p0 5 _ _ gp7
  obtain ⟨X8, hX8⟩ : ∃ X, X7.setCell ⟨p0, 5, none⟩ (.int .i32 N) = X := ⟨_, rfl⟩
  have gp8 : X8.heap[p0]? = some (.cells #[.int .i64 2, .int .i64 op, .int .i64 D, .int .i64 A, .int .i64 0, .int .i32 N, .string ⟨#[]⟩] 23 (0, 0)) := by rw [← hX8]; exact heap_setCell_same _ _ _ _ _ _ gp7
  have bb8 : Below W.heap.size W X8 := by rw [← hX8]; exact bb7.setCell (by show _ ≤ p0; omega) _
  have e6 : X8.cell? ⟨p0, 6, none⟩ = some (.string ⟨#[]⟩) := by rw [cell_of_row _ _ 6 _ _ (0, 0) gp8]; rfl
  have fp6 := frozen_of_row _ p0 6 _ _ gp8
  obtain ⟨X9, hX9⟩ : ∃ X, X8.setCell ⟨p0, 6, none⟩ (.string ⟨#[]⟩) = X := ⟨_, rfl⟩
  have gp9 : X9.heap[p0]? = some (.cells #[.int .i64 2, .int .i64 op, .int .i64 D, .int .i64 A, .int .i64 0, .int .i32 N, .string ⟨#[]⟩] 23 (0, 0)) := by rw [← hX9]; exact heap_setCell_same _ _ _ _ _ _ gp8
  have bb9 : Below W.heap.size W X9 := by rw [← hX9]; exact bb8.setCell (by show _ ≤ p0; omega) _
  have r0 : X9.cell? ⟨p0, 0, none⟩ = some (.int .i64 2) := by rw [cell_of_row _ _ 0 _ _ (0, 0) gp9]; rfl
  have r1 : X9.cell? ⟨p0, 1, none⟩ = some (.int .i64 op) := by rw [cell_of_row _ _ 1 _ _ (0, 0) gp9]; rfl
  have r2 : X9.cell? ⟨p0, 2, none⟩ = some (.int .i64 D) := by rw [cell_of_row _ _ 2 _ _ (0, 0) gp9]; rfl
  have r3 : X9.cell? ⟨p0, 3, none⟩ = some (.int .i64 A) := by rw [cell_of_row _ _ 3 _ _ (0, 0) gp9]; rfl
  have r4 : X9.cell? ⟨p0, 4, none⟩ = some (.int .i64 0) := by rw [cell_of_row _ _ 4 _ _ (0, 0) gp9]; rfl
  have r5 : X9.cell? ⟨p0, 5, none⟩ = some (.int .i32 N) := by rw [cell_of_row _ _ 5 _ _ (0, 0) gp9]; rfl
  have r6 : X9.cell? ⟨p0, 6, none⟩ = some (.string ⟨#[]⟩) := by rw [cell_of_row _ _ 6 _ _ (0, 0) gp9]; rfl
  have HBE := Lib.hid bb9
  clear gp0 bb0 gp1 bb1 gp2 bb2 gp3 bb3 gp4 bb4 gp5 bb5 gp6 bb6 gp7 bb7 gp8 bb8 gp9 bb9 gq0 gq1 gq2 hb4 hne
  go_wp2_with fail
  exact bodyPost_ret (v := .agg #[.int .i64 2, .int .i64 op, .int .i64 D, .int .i64 A, .int .i64 0, .int .i32 N, .string ⟨#[]⟩]) (by simp [results, Tryd.results31, go_sem, *]) rfl ⟨rfl, by first | exact HBE.out | (rw [hp0] at HBE; exact HBE.out)⟩
set_option maxHeartbeats 3200000 in
theorem read_f4 (op w : Nat) (hw : w < 4294967296) (W : World) :
    Calls Tryd.prog 31 #[.int .i64 op, .int .i64 4, .int .u32 w] W fun e w' => e = .returned (lnV (readF op 4 w)) ∧ Below W.heap.size W w' := by
  have hV : lnV (readF op 4 w) = .agg #[.int .i64 2, .int .i64 op, .int .i64 ((cutN w 7 5 : Nat) : Int), .int .i64 ((cutN w 15 5 : Nat) : Int), .int .i64 0, .int .i32 (numN 4 w), .string ⟨#[]⟩] := rfl
  rw [hV]
  clear hV
  have HN := Lib.hid (num_any4 w hw)
  have G7 : ∀ W, Calls Tryd.prog 51 #[.int .u32 w, .int .i64 7] W fun e w' => e = .returned (.int .i64 (cutN w 7 5 : Nat)) ∧ ∃ n, w' = W.drewN n := fun W => register_any w 7 hw (by decide) W
  have G15 : ∀ W, Calls Tryd.prog 51 #[.int .u32 w, .int .i64 15] W fun e w' => e = .returned (.int .i64 (cutN w 15 5 : Nat)) ∧ ∃ n, w' = W.drewN n := fun W => register_any w 15 hw (by decide) W
  have G20 : ∀ W, Calls Tryd.prog 51 #[.int .u32 w, .int .i64 20] W fun e w' => e = .returned (.int .i64 (cutN w 20 5 : Nat)) ∧ ∃ n, w' = W.drewN n := fun W => register_any w 20 hw (by decide) W
  generalize ((cutN w 7 5 : Nat) : Int) = D at *
  generalize ((cutN w 15 5 : Nat) : Int) = A at *
  generalize ((cutN w 20 5 : Nat) : Int) = B at *
  generalize numN 4 w = N at *
  have H7 := Lib.hid G7
  have H15 := Lib.hid G15
  have H20 := Lib.hid G20
  clear G7 G15 G20
  obtain ⟨p0, hp0⟩ : ∃ p0, W.heap.size = p0 := ⟨_, rfl⟩
  obtain ⟨Wa, hWa⟩ : ∃ Wa, W.alloc (.cells #[.int .i64 0, .int .i64 0, .int .i64 0, .int .i64 0, .int .i64 0, .int .i32 0, .string ⟨#[]⟩] 23) = Wa := ⟨_, rfl⟩
  have hBa : Below W.heap.size W Wa := by rw [← hWa]; exact (Below.refl _ _).alloc (Nat.le_refl _) _
  have hza : Wa.heap.size = p0 + 1 := by rw [← hWa, ← hp0]; simp
  have hzr : Wa.heap[p0]? = some (.cells #[.int .i64 0, .int .i64 0, .int .i64 0, .int .i64 0, .int .i64 0, .int .i32 0, .string ⟨#[]⟩] 23 (0, 0)) := by rw [← hWa, ← hp0]; exact heap_alloc_new W _
  have HBA := Lib.hid (And.intro hBa (And.intro hza hzr))
  clear hBa hza hzr
  go_enter Tryd.func31, Tryd.ntmps31
  go_wp2_with fail
  refine (HN.out _).mono ?_
  rintro e w1 ⟨rfl, hb1⟩
  go_wp2_with fail
  have hlt : p0 < w1.heap.size := Nat.lt_of_lt_of_le (by have := HBA.out.2.1; omega) hb1.size
  have hq0 : w1.heap[p0]? = some (.cells #[.int .i64 0, .int .i64 0, .int .i64 0, .int .i64 0, .int .i64 0, .int .i32 0, .string ⟨#[]⟩] 23 (0, 0)) := (hb1.block p0 (by have := HBA.out.2.1; omega)).trans HBA.out.2.2
  obtain ⟨q, hq⟩ : ∃ q, w1.heap.size = q := ⟨_, rfl⟩
  obtain ⟨Xa, hXa⟩ : ∃ Xa, w1.alloc (.cells #[.int .i64 2, .int .i64 op, .int .i64 0, .int .i64 0, .int .i64 0, .int .i32 N, .string ⟨#[]⟩] 23) = Xa := ⟨_, rfl⟩
  have hbx : Below w1.heap.size w1 Xa := by rw [← hXa]; exact (Below.refl _ _).alloc (Nat.le_refl _) _
  have hqa : Xa.heap[q]? = some (.cells #[.int .i64 2, .int .i64 op, .int .i64 0, .int .i64 0, .int .i64 0, .int .i32 N, .string ⟨#[]⟩] 23 (0, 0)) := by rw [← hXa, ← hq]; exact heap_alloc_new w1 _
  have hpa : Xa.heap[p0]? = some (.cells #[.int .i64 0, .int .i64 0, .int .i64 0, .int .i64 0, .int .i64 0, .int .i32 0, .string ⟨#[]⟩] 23 (0, 0)) := (hbx.block p0 hlt).trans hq0
  have hsz : Xa.heap.size = q + 1 := by rw [← hXa, ← hq]; simp
  rw [hq] at hlt
  have HX := Lib.hid (And.intro (HBA.out.1.trans ((hb1.trans (hbx.mono hb1.size)).mono HBA.out.1.size)) (And.intro (show p0 < q ∧ Xa.heap.size = q + 1 from ⟨hlt, hsz⟩) (And.intro hqa hpa)))
  clear hb1 hq0 hbx hqa hpa hsz
  rw [hXa]
  refine (H7.out _).mono ?_
  rintro e w2 ⟨rfl, m2, hw2⟩
  have HB2 : Hid (Below Xa.heap.size Xa w2) := Lib.hid (by rw [hw2]; exact below_drewN (Below.refl _ _) m2)
  clear hw2
  go_wp2_with fail
  refine (H15.out _).mono ?_
  rintro e w3 ⟨rfl, m3, hw3⟩
  have HB3 : Hid (Below Xa.heap.size Xa w3) := Lib.hid (by rw [hw3]; exact HB2.out.trans (below_drewN (Below.refl _ _) m3 |>.mono HB2.out.size))
  clear hw3
  go_wp2_with fail
  refine (H20.out _).mono ?_
  rintro e w4 ⟨rfl, m4, hw4⟩
  have HB4 : Hid (Below Xa.heap.size Xa w4) := Lib.hid (by rw [hw4]; exact HB3.out.trans (below_drewN (Below.refl _ _) m4 |>.mono HB3.out.size))
  clear hw4
  have hb4 := HB4.out
  have gq0 : w4.heap[q]? = some (.cells #[.int .i64 2, .int .i64 op, .int .i64 0, .int .i64 0, .int .i64 0, .int .i32 N, .string ⟨#[]⟩] 23 (0, 0)) := (hb4.block q (by have := HX.out.2.1; omega)).trans HX.out.2.2.1
  have gp0 : w4.heap[p0]? = some (.cells #[.int .i64 0, .int .i64 0, .int .i64 0, .int .i64 0, .int .i64 0, .int .i32 0, .string ⟨#[]⟩] 23 (0, 0)) := (hb4.block p0 (by have := HX.out.2.1; omega)).trans HX.out.2.2.2
  have hne : p0 ≠ q := by omega
  have bb0 : Below W.heap.size W w4 := HX.out.1.trans (hb4.mono HX.out.1.size)
  have d0 : w4.cell? ⟨q, 2, none⟩ = some (.int .i64 0) := by rw [cell_of_row _ _ 2 _ _ (0, 0) gq0]; rfl
  have fz0 := frozen_of_row _ q 2 _ _ gq0
  obtain ⟨X1, hX1⟩ : ∃ X, w4.setCell ⟨q, 2, none⟩ (.int .i64 D) = X := ⟨_, rfl⟩
  have gq1 : X1.heap[q]? = some (.cells #[.int .i64 2, .int .i64 op, .int .i64 D, .int .i64 0, .int .i64 0, .int .i32 N, .string ⟨#[]⟩] 23 (0, 0)) := by rw [← hX1]; exact heap_setCell_same _ _ _ _ _ _ gq0
  have gp1 : X1.heap[p0]? = some (.cells #[.int .i64 0, .int .i64 0, .int .i64 0, .int .i64 0, .int .i64 0, .int .i32 0, .string ⟨#[]⟩] 23 (0, 0)) := by rw [← hX1]; exact (heap_setCell_other _ ⟨q, 2, none⟩ p0 _ hne).trans gp0
  have bb1 : Below W.heap.size W X1 := by rw [← hX1]; exact bb0.setCell (by show _ ≤ q; omega) _
  have d1 : X1.cell? ⟨q, 3, none⟩ = some (.int .i64 0) := by rw [cell_of_row _ _ 3 _ _ (0, 0) gq1]; rfl
  have fz1 := frozen_of_row _ q 3 _ _ gq1
  obtain ⟨X2, hX2⟩ : ∃ X, X1.setCell ⟨q, 3, none⟩ (.int .i64 A) = X := ⟨_, rfl⟩
  have gq2 : X2.heap[q]? = some (.cells #[.int .i64 2, .int .i64 op, .int .i64 D, .int .i64 A, .int .i64 0, .int .i32 N, .string ⟨#[]⟩] 23 (0, 0)) := by rw [← hX2]; exact heap_setCell_same _ _ _ _ _ _ gq1
  have gp2 : X2.heap[p0]? = some (.cells #[.int .i64 0, .int .i64 0, .int .i64 0, .int .i64 0, .int .i64 0, .int .i32 0, .string ⟨#[]⟩] 23 (0, 0)) := by rw [← hX2]; exact (heap_setCell_other _ ⟨q, 3, none⟩ p0 _ hne).trans gp1
  have bb2 : Below W.heap.size W X2 := by rw [← hX2]; exact bb1.setCell (by show _ ≤ q; omega) _
  have u0 : X2.cell? ⟨q, 0, none⟩ = some (.int .i64 2) := by rw [cell_of_row _ _ 0 _ _ (0, 0) gq2]; rfl
  have u1 : X2.cell? ⟨q, 1, none⟩ = some (.int .i64 op) := by rw [cell_of_row _ _ 1 _ _ (0, 0) gq2]; rfl
  have u2 : X2.cell? ⟨q, 2, none⟩ = some (.int .i64 D) := by rw [cell_of_row _ _ 2 _ _ (0, 0) gq2]; rfl
  have u3 : X2.cell? ⟨q, 3, none⟩ = some (.int .i64 A) := by rw [cell_of_row _ _ 3 _ _ (0, 0) gq2]; rfl
  have u4 : X2.cell? ⟨q, 4, none⟩ = some (.int .i64 0) := by rw [cell_of_row _ _ 4 _ _ (0, 0) gq2]; rfl
  have u5 : X2.cell? ⟨q, 5, none⟩ = some (.int .i32 N) := by rw [cell_of_row _ _ 5 _ _ (0, 0) gq2]; rfl
  have u6 : X2.cell? ⟨q, 6, none⟩ = some (.string ⟨#[]⟩) := by rw [cell_of_row _ _ 6 _ _ (0, 0) gq2]; rfl
  have e0 : X2.cell? ⟨p0, 0, none⟩ = some (.int .i64 0) := by rw [cell_of_row _ _ 0 _ _ (0, 0) gp2]; rfl
  have fp0 := frozen_of_row _ p0 0 _ _ gp2
  obtain ⟨X3, hX3⟩ : ∃ X, X2.setCell ⟨p0, 0, none⟩ (.int .i64 2) = X := ⟨_, rfl⟩
  have gp3 : X3.heap[p0]? = some (.cells #[.int .i64 2, .int .i64 0, .int .i64 0, .int .i64 0, .int .i64 0, .int .i32 0, .string ⟨#[]⟩] 23 (0, 0)) := by rw [← hX3]; exact heap_setCell_same _ _ _ _ _ _ gp2
  have bb3 : Below W.heap.size W X3 := by rw [← hX3]; exact bb2.setCell (by show _ ≤ p0; omega) _
  have e1 : X3.cell? ⟨p0, 1, none⟩ = some (.int .i64 0) := by rw [cell_of_row _ _ 1 _ _ (0, 0) gp3]; rfl
  have fp1 := frozen_of_row _ p0 1 _ _ gp3
  obtain ⟨X4, hX4⟩ : ∃ X, X3.setCell ⟨p0, 1, none⟩ (.int .i64 op) = X := ⟨_, rfl⟩
  have gp4 : X4.heap[p0]? = some (.cells #[.int .i64 2, .int .i64 op, .int .i64 0, .int .i64 0, .int .i64 0, .int .i32 0, .string ⟨#[]⟩] 23 (0, 0)) := by rw [← hX4]; exact heap_setCell_same _ _ _ _ _ _ gp3
  have bb4 : Below W.heap.size W X4 := by rw [← hX4]; exact bb3.setCell (by show _ ≤ p0; omega) _
  have e2 : X4.cell? ⟨p0, 2, none⟩ = some (.int .i64 0) := by rw [cell_of_row _ _ 2 _ _ (0, 0) gp4]; rfl
  have fp2 := frozen_of_row _ p0 2 _ _ gp4
  obtain ⟨X5, hX5⟩ : ∃ X, X4.setCell ⟨p0, 2, none⟩ (.int .i64 D) = X := ⟨_, rfl⟩
  have gp5 : X5.heap[p0]? = some (.cells #[.int .i64 2, .int .i64 op, .int .i64 D, .int .i64 0, .int .i64 0, .int .i32 0, .string ⟨#[]⟩] 23 (0, 0)) := by rw [← hX5]; exact heap_setCell_same _ _ _ _ _ _ gp4
  have bb5 : Below W.heap.size W X5 := by rw [← hX5]; exact bb4.setCell (by show _ ≤ p0; omega) _
  have e3 : X5.cell? ⟨p0, 3, none⟩ = some (.int .i64 0) := by rw [cell_of_row _ _ 3 _ _ (0, 0) gp5]; rfl
  have fp3 := frozen_of_row _ p0 3 _ _ gp5
  obtain ⟨X6, hX6⟩ : ∃ X, X5.setCell ⟨p0, 3, none⟩ (.int .i64 A) = X := ⟨_, rfl⟩
  have gp6 : X6.heap[p0]? = some (.cells #[.int .i64 2, .int .i64 op, .int .i64 D, .int .i64 A, .int .i64 0, .int .i32 0, .string ⟨#[]⟩] 23 (0, 0)) := by rw [← hX6]; exact heap_setCell_same _ _ _ _ _ _ gp5
  have bb6 : Below W.heap.size W X6 := by rw [← hX6]; exact bb5.setCell (by show _ ≤ p0; omega) _
  have e4 : X6.cell? ⟨p0, 4, none⟩ = some (.int .i64 0) := by rw [cell_of_row _ _ 4 _ _ (0, 0) gp6]; rfl
  have fp4 := frozen_of_row _ p0 4 _ _ gp6
  obtain ⟨X7, hX7⟩ : ∃ X, X6.setCell ⟨p0, 4, none⟩ (.int .i64 0) = X := ⟨_, rfl⟩
  have gp7 : X7.heap[p0]? = some (.cells #[.int .i64 2, .int .i64 op, .int .i64 D, .int .i64 A, .int .i64 0, .int .i32 0, .string ⟨#[]⟩] 23 (0, 0)) := by rw [← hX7]; exact heap_setCell_same _ _ _ _ _ _ gp6
  have bb7 : Below W.heap.size W X7 := by rw [← hX7]; exact bb6.setCell (by show _ ≤ p0; omega) _
  have e5 : X7.cell? ⟨p0, 5, none⟩ = some (.int .i32 0) := by rw [cell_of_row _ _ 5 _ _ (0, 0) gp7]; rfl
  have fp5 := frozen_of_row _ p0 5 _ _ gp7
  obtain ⟨X8, hX8⟩ : ∃ X, X7.setCell ⟨p0, 5, none⟩ (.int .i32 N) = X := ⟨_, rfl⟩
  have gp8 : X8.heap[p0]? = some (.cells #[.int .i64 2, .int .i64 op, .int .i64 D, .int .i64 A, .int .i64 0, .int .i32 N, .string ⟨#[]⟩] 23 (0, 0)) := by rw [← hX8]; exact heap_setCell_same _ _ _ _ _ _ gp7
  have bb8 : Below W.heap.size W X8 := by rw [← hX8]; exact bb7.setCell (by show _ ≤ p0; omega) _
  have e6 : X8.cell? ⟨p0, 6, none⟩ = some (.string ⟨#[]⟩) := by rw [cell_of_row _ _ 6 _ _ (0, 0) gp8]; rfl
  have fp6 := frozen_of_row _ p0 6 _ _ gp8
  obtain ⟨X9, hX9⟩ : ∃ X, X8.setCell ⟨p0, 6, none⟩ (.string ⟨#[]⟩) = X := ⟨_, rfl⟩
  have gp9 : X9.heap[p0]? = some (.cells #[.int .i64 2, .int .i64 op, .int .i64 D, .int .i64 A, .int .i64 0, .int .i32 N, .string ⟨#[]⟩] 23 (0, 0)) := by rw [← hX9]; exact heap_setCell_same _ _ _ _ _ _ gp8
  have bb9 : Below W.heap.size W X9 := by rw [← hX9]; exact bb8.setCell (by show _ ≤ p0; omega) _
  have r0 : X9.cell? ⟨p0, 0, none⟩ = some (.int .i64 2) := by rw [cell_of_row _ _ 0 _ _ (0, 0) gp9]; rfl
  have r1 : X9.cell? ⟨p0, 1, none⟩ = some (.int .i64 op) := by rw [cell_of_row _ _ 1 _ _ (0, 0) gp9]; rfl
  have r2 : X9.cell? ⟨p0, 2, none⟩ = some (.int .i64 D) := by rw [cell_of_row _ _ 2 _ _ (0, 0) gp9]; rfl
  have r3 : X9.cell? ⟨p0, 3, none⟩ = some (.int .i64 A) := by rw [cell_of_row _ _ 3 _ _ (0, 0) gp9]; rfl
  have r4 : X9.cell? ⟨p0, 4, none⟩ = some (.int .i64 0) := by rw [cell_of_row _ _ 4 _ _ (0, 0) gp9]; rfl
  have r5 : X9.cell? ⟨p0, 5, none⟩ = some (.int .i32 N) := by rw [cell_of_row _ _ 5 _ _ (0, 0) gp9]; rfl
  have r6 : X9.cell? ⟨p0, 6, none⟩ = some (.string ⟨#[]⟩) := by rw [cell_of_row _ _ 6 _ _ (0, 0) gp9]; rfl
  have HBE := Lib.hid bb9
  clear gp0 bb0 gp1 bb1 gp2 bb2 gp3 bb3 gp4 bb4 gp5 bb5 gp6 bb6 gp7 bb7 gp8 bb8 gp9 bb9 gq0 gq1 gq2 hb4 hne
  go_wp2_with fail
  exact bodyPost_ret (v := .agg #[.int .i64 2, .int .i64 op, .int .i64 D, .int .i64 A, .int .i64 0, .int .i32 N, .string ⟨#[]⟩]) (by simp [results, Tryd.results31, go_sem, *]) rfl ⟨rfl, by first | exact HBE.out | (rw [hp0] at HBE; exact HBE.out)⟩
set_option maxHeartbeats 3200000 in
theorem read_f5 (op w : Nat) (hw : w < 4294967296) (W : World) :
    Calls Tryd.prog 31 #[.int .i64 op, .int .i64 5, .int .u32 w] W fun e w' => e = .returned (lnV (readF op 5 w)) ∧ Below W.heap.size W w' := by
  have hV : lnV (readF op 5 w) = .agg #[.int .i64 2, .int .i64 op, .int .i64 0, .int .i64 ((cutN w 15 5 : Nat) : Int), .int .i64 ((cutN w 20 5 : Nat) : Int), .int .i32 (numN 5 w), .string ⟨#[]⟩] := rfl
  rw [hV]
  clear hV
  have HN := Lib.hid (num_any5 w hw)
  have G7 : ∀ W, Calls Tryd.prog 51 #[.int .u32 w, .int .i64 7] W fun e w' => e = .returned (.int .i64 (cutN w 7 5 : Nat)) ∧ ∃ n, w' = W.drewN n := fun W => register_any w 7 hw (by decide) W
  have G15 : ∀ W, Calls Tryd.prog 51 #[.int .u32 w, .int .i64 15] W fun e w' => e = .returned (.int .i64 (cutN w 15 5 : Nat)) ∧ ∃ n, w' = W.drewN n := fun W => register_any w 15 hw (by decide) W
  have G20 : ∀ W, Calls Tryd.prog 51 #[.int .u32 w, .int .i64 20] W fun e w' => e = .returned (.int .i64 (cutN w 20 5 : Nat)) ∧ ∃ n, w' = W.drewN n := fun W => register_any w 20 hw (by decide) W
  generalize ((cutN w 7 5 : Nat) : Int) = D at *
  generalize ((cutN w 15 5 : Nat) : Int) = A at *
  generalize ((cutN w 20 5 : Nat) : Int) = B at *
  generalize numN 5 w = N at *
  have H7 := Lib.hid G7
  have H15 := Lib.hid G15
  have H20 := Lib.hid G20
  clear G7 G15 G20
  obtain ⟨p0, hp0⟩ : ∃ p0, W.heap.size = p0 := ⟨_, rfl⟩
  obtain ⟨Wa, hWa⟩ : ∃ Wa, W.alloc (.cells #[.int .i64 0, .int .i64 0, .int .i64 0, .int .i64 0, .int .i64 0, .int .i32 0, .string ⟨#[]⟩] 23) = Wa := ⟨_, rfl⟩
  have hBa : Below W.heap.size W Wa := by rw [← hWa]; exact (Below.refl _ _).alloc (Nat.le_refl _) _
  have hza : Wa.heap.size = p0 + 1 := by rw [← hWa, ← hp0]; simp
  have hzr : Wa.heap[p0]? = some (.cells #[.int .i64 0, .int .i64 0, .int .i64 0, .int .i64 0, .int .i64 0, .int .i32 0, .string ⟨#[]⟩] 23 (0, 0)) := by rw [← hWa, ← hp0]; exact heap_alloc_new W _
  have HBA := Lib.hid (And.intro hBa (And.intro hza hzr))
  clear hBa hza hzr
  go_enter Tryd.func31, Tryd.ntmps31
  go_wp2_with fail
  refine (HN.out _).mono ?_
  rintro e w1 ⟨rfl, hb1⟩
  go_wp2_with fail
  have hlt : p0 < w1.heap.size := Nat.lt_of_lt_of_le (by have := HBA.out.2.1; omega) hb1.size
  have hq0 : w1.heap[p0]? = some (.cells #[.int .i64 0, .int .i64 0, .int .i64 0, .int .i64 0, .int .i64 0, .int .i32 0, .string ⟨#[]⟩] 23 (0, 0)) := (hb1.block p0 (by have := HBA.out.2.1; omega)).trans HBA.out.2.2
  obtain ⟨q, hq⟩ : ∃ q, w1.heap.size = q := ⟨_, rfl⟩
  obtain ⟨Xa, hXa⟩ : ∃ Xa, w1.alloc (.cells #[.int .i64 2, .int .i64 op, .int .i64 0, .int .i64 0, .int .i64 0, .int .i32 N, .string ⟨#[]⟩] 23) = Xa := ⟨_, rfl⟩
  have hbx : Below w1.heap.size w1 Xa := by rw [← hXa]; exact (Below.refl _ _).alloc (Nat.le_refl _) _
  have hqa : Xa.heap[q]? = some (.cells #[.int .i64 2, .int .i64 op, .int .i64 0, .int .i64 0, .int .i64 0, .int .i32 N, .string ⟨#[]⟩] 23 (0, 0)) := by rw [← hXa, ← hq]; exact heap_alloc_new w1 _
  have hpa : Xa.heap[p0]? = some (.cells #[.int .i64 0, .int .i64 0, .int .i64 0, .int .i64 0, .int .i64 0, .int .i32 0, .string ⟨#[]⟩] 23 (0, 0)) := (hbx.block p0 hlt).trans hq0
  have hsz : Xa.heap.size = q + 1 := by rw [← hXa, ← hq]; simp
  rw [hq] at hlt
  have HX := Lib.hid (And.intro (HBA.out.1.trans ((hb1.trans (hbx.mono hb1.size)).mono HBA.out.1.size)) (And.intro (show p0 < q ∧ Xa.heap.size = q + 1 from ⟨hlt, hsz⟩) (And.intro hqa hpa)))
  clear hb1 hq0 hbx hqa hpa hsz
  rw [hXa]
  refine (H7.out _).mono ?_
  rintro e w2 ⟨rfl, m2, hw2⟩
  have HB2 : Hid (Below Xa.heap.size Xa w2) := Lib.hid (by rw [hw2]; exact below_drewN (Below.refl _ _) m2)
  clear hw2
  go_wp2_with fail
  refine (H15.out _).mono ?_
  rintro e w3 ⟨rfl, m3, hw3⟩
  have HB3 : Hid (Below Xa.heap.size Xa w3) := Lib.hid (by rw [hw3]; exact HB2.out.trans (below_drewN (Below.refl _ _) m3 |>.mono HB2.out.size))
  clear hw3
  go_wp2_with fail
  refine (H20.out _).mono ?_
  rintro e w4 ⟨rfl, m4, hw4⟩
  have HB4 : Hid (Below Xa.heap.size Xa w4) := Lib.hid (by rw [hw4]; exact HB3.out.trans (below_drewN (Below.refl _ _) m4 |>.mono HB3.out.size))
  clear hw4
  have hb4 := HB4.out
  have gq0 : w4.heap[q]? = some (.cells #[.int .i64 2, .int .i64 op, .int .i64 0, .int .i64 0, .int .i64 0, .int .i32 N, .string ⟨#[]⟩] 23 (0, 0)) := (hb4.block q (by have := HX.out.2.1; omega)).trans HX.out.2.2.1
  have gp0 : w4.heap[p0]? = some (.cells #[.int .i64 0, .int .i64 0, .int .i64 0, .int .i64 0, .int .i64 0, .int .i32 0, .string ⟨#[]⟩] 23 (0, 0)) := (hb4.block p0 (by have := HX.out.2.1; omega)).trans HX.out.2.2.2
  have hne : p0 ≠ q := by omega
  have bb0 : Below W.heap.size W w4 := HX.out.1.trans (hb4.mono HX.out.1.size)
  have d0 : w4.cell? ⟨q, 3, none⟩ = some (.int .i64 0) := by rw [cell_of_row _ _ 3 _ _ (0, 0) gq0]; rfl
  have fz0 := frozen_of_row _ q 3 _ _ gq0
  obtain ⟨X1, hX1⟩ : ∃ X, w4.setCell ⟨q, 3, none⟩ (.int .i64 A) = X := ⟨_, rfl⟩
  have gq1 : X1.heap[q]? = some (.cells #[.int .i64 2, .int .i64 op, .int .i64 0, .int .i64 A, .int .i64 0, .int .i32 N, .string ⟨#[]⟩] 23 (0, 0)) := by rw [← hX1]; exact heap_setCell_same _ _ _ _ _ _ gq0
  have gp1 : X1.heap[p0]? = some (.cells #[.int .i64 0, .int .i64 0, .int .i64 0, .int .i64 0, .int .i64 0, .int .i32 0, .string ⟨#[]⟩] 23 (0, 0)) := by rw [← hX1]; exact (heap_setCell_other _ ⟨q, 3, none⟩ p0 _ hne).trans gp0
  have bb1 : Below W.heap.size W X1 := by rw [← hX1]; exact bb0.setCell (by show _ ≤ q; omega) _
  have d1 : X1.cell? ⟨q, 4, none⟩ = some (.int .i64 0) := by rw [cell_of_row _ _ 4 _ _ (0, 0) gq1]; rfl
  have fz1 := frozen_of_row _ q 4 _ _ gq1
  obtain ⟨X2, hX2⟩ : ∃ X, X1.setCell ⟨q, 4, none⟩ (.int .i64 B) = X := ⟨_, rfl⟩
  have gq2 : X2.heap[q]? = some (.cells #[.int .i64 2, .int .i64 op, .int .i64 0, .int .i64 A, .int .i64 B, .int .i32 N, .string ⟨#[]⟩] 23 (0, 0)) := by rw [← hX2]; exact heap_setCell_same _ _ _ _ _ _ gq1
  have gp2 : X2.heap[p0]? = some (.cells #[.int .i64 0, .int .i64 0, .int .i64 0, .int .i64 0, .int .i64 0, .int .i32 0, .string ⟨#[]⟩] 23 (0, 0)) := by rw [← hX2]; exact (heap_setCell_other _ ⟨q, 4, none⟩ p0 _ hne).trans gp1
  have bb2 : Below W.heap.size W X2 := by rw [← hX2]; exact bb1.setCell (by show _ ≤ q; omega) _
  have u0 : X2.cell? ⟨q, 0, none⟩ = some (.int .i64 2) := by rw [cell_of_row _ _ 0 _ _ (0, 0) gq2]; rfl
  have u1 : X2.cell? ⟨q, 1, none⟩ = some (.int .i64 op) := by rw [cell_of_row _ _ 1 _ _ (0, 0) gq2]; rfl
  have u2 : X2.cell? ⟨q, 2, none⟩ = some (.int .i64 0) := by rw [cell_of_row _ _ 2 _ _ (0, 0) gq2]; rfl
  have u3 : X2.cell? ⟨q, 3, none⟩ = some (.int .i64 A) := by rw [cell_of_row _ _ 3 _ _ (0, 0) gq2]; rfl
  have u4 : X2.cell? ⟨q, 4, none⟩ = some (.int .i64 B) := by rw [cell_of_row _ _ 4 _ _ (0, 0) gq2]; rfl
  have u5 : X2.cell? ⟨q, 5, none⟩ = some (.int .i32 N) := by rw [cell_of_row _ _ 5 _ _ (0, 0) gq2]; rfl
  have u6 : X2.cell? ⟨q, 6, none⟩ = some (.string ⟨#[]⟩) := by rw [cell_of_row _ _ 6 _ _ (0, 0) gq2]; rfl
  have e0 : X2.cell? ⟨p0, 0, none⟩ = some (.int .i64 0) := by rw [cell_of_row _ _ 0 _ _ (0, 0) gp2]; rfl
  have fp0 := frozen_of_row _ p0 0 _ _ gp2
  obtain ⟨X3, hX3⟩ : ∃ X, X2.setCell ⟨p0, 0, none⟩ (.int .i64 2) = X := ⟨_, rfl⟩
  have gp3 : X3.heap[p0]? = some (.cells #[.int .i64 2, .int .i64 0, .int .i64 0, .int .i64 0, .int .i64 0, .int .i32 0, .string ⟨#[]⟩] 23 (0, 0)) := by rw [← hX3]; exact heap_setCell_same _ _ _ _ _ _ gp2
  have bb3 : Below W.heap.size W X3 := by rw [← hX3]; exact bb2.setCell (by show _ ≤ p0; omega) _
  have e1 : X3.cell? ⟨p0, 1, none⟩ = some (.int .i64 0) := by rw [cell_of_row _ _ 1 _ _ (0, 0) gp3]; rfl
  have fp1 := frozen_of_row _ p0 1 _ _ gp3
  obtain ⟨X4, hX4⟩ : ∃ X, X3.setCell ⟨p0, 1, none⟩ (.int .i64 op) = X := ⟨_, rfl⟩
  have gp4 : X4.heap[p0]? = some (.cells #[.int .i64 2, .int .i64 op, .int .i64 0, .int .i64 0, .int .i64 0, .int .i32 0, .string ⟨#[]⟩] 23 (0, 0)) := by rw [← hX4]; exact heap_setCell_same _ _ _ _ _ _ gp3
  have bb4 : Below W.heap.size W X4 := by rw [← hX4]; exact bb3.setCell (by show _ ≤ p0; omega) _
  have e2 : X4.cell? ⟨p0, 2, none⟩ = some (.int .i64 0) := by rw [cell_of_row _ _ 2 _ _ (0, 0) gp4]; rfl
  have fp2 := frozen_of_row _ p0 2 _ _ gp4
  obtain ⟨X5, hX5⟩ : ∃ X, X4.setCell ⟨p0, 2, none⟩ (.int .i64 0) = X := ⟨_, rfl⟩
  have gp5 : X5.heap[p0]? = some (.cells #[.int .i64 2, .int .i64 op, .int .i64 0, .int .i64 0, .int .i64 0, .int .i32 0, .string ⟨#[]⟩] 23 (0, 0)) := by rw [← hX5]; exact heap_setCell_same _ _ _ _ _ _ gp4
  have bb5 : Below W.heap.size W X5 := by rw [← hX5]; exact bb4.setCell (by show _ ≤ p0; omega) _
  have e3 : X5.cell? ⟨p0, 3, none⟩ = some (.int .i64 0) := by rw [cell_of_row _ _ 3 _ _ (0, 0) gp5]; rfl
  have fp3 := frozen_of_row _ p0 3 _ _ gp5
  obtain ⟨X6, hX6⟩ : ∃ X, X5.setCell ⟨p0, 3, none⟩ (.int .i64 A) = X := ⟨_, rfl⟩
  have gp6 : X6.heap[p0]? = some (.cells #[.int .i64 2, .int .i64 op, .int .i64 0, .int .i64 A, .int .i64 0, .int .i32 0, .string ⟨#[]⟩] 23 (0, 0)) := by rw [← hX6]; exact heap_setCell_same _ _ _ _ _ _ gp5
  have bb6 : Below W.heap.size W X6 := by rw [← hX6]; exact bb5.setCell (by show _ ≤ p0; omega) _
  have e4 : X6.cell? ⟨p0, 4, none⟩ = some (.int .i64 0) := by rw [cell_of_row _ _ 4 _ _ (0, 0) gp6]; rfl
  have fp4 := frozen_of_row _ p0 4 _ _ gp6
  obtain ⟨X7, hX7⟩ : ∃ X, X6.setCell ⟨p0, 4, none⟩ (.int .i64 B) = X := ⟨_, rfl⟩
  have gp7 : X7.heap[p0]? = some (.cells #[.int .i64 2, .int .i64 op, .int .i64 0, .int .i64 A, .int .i64 B, .int .i32 0, .string ⟨#[]⟩] 23 (0, 0)) := by rw [← hX7]; exact heap_setCell_same _ _ _ _ _ _ gp6
  have bb7 : Below W.heap.size W X7 := by rw [← hX7]; exact bb6.setCell (by show _ ≤ p0; omega) _
  have e5 : X7.cell? ⟨p0, 5, none⟩ = some (.int .i32 0) := by rw [cell_of_row _ _ 5 _ _ (0, 0) gp7]; rfl
  have fp5 := frozen_of_row _ p0 5 _ _ gp7
  obtain ⟨X8, hX8⟩ : ∃ X, X7.setCell ⟨p0, 5, none⟩ (.int .i32 N) = X := ⟨_, rfl⟩
  have gp8 : X8.heap[p0]? = some (.cells #[.int .i64 2, .int .i64 op, .int .i64 0, .int .i64 A, .int .i64 B, .int .i32 N, .string ⟨#[]⟩] 23 (0, 0)) := by rw [← hX8]; exact heap_setCell_same _ _ _ _ _ _ gp7
  have bb8 : Below W.heap.size W X8 := by rw [← hX8]; exact bb7.setCell (by show _ ≤ p0; omega) _
  have e6 : X8.cell? ⟨p0, 6, none⟩ = some (.string ⟨#[]⟩) := by rw [cell_of_row _ _ 6 _ _ (0, 0) gp8]; rfl
  have fp6 := frozen_of_row _ p0 6 _ _ gp8
  obtain ⟨X9, hX9⟩ : ∃ X, X8.setCell ⟨p0, 6, none⟩ (.string ⟨#[]⟩) = X := ⟨_, rfl⟩
  have gp9 : X9.heap[p0]? = some (.cells #[.int .i64 2, .int .i64 op, .int .i64 0, .int .i64 A, .int .i64 B, .int .i32 N, .string ⟨#[]⟩] 23 (0, 0)) := by rw [← hX9]; exact heap_setCell_same _ _ _ _ _ _ gp8
  have bb9 : Below W.heap.size W X9 := by rw [← hX9]; exact bb8.setCell (by show _ ≤ p0; omega) _
  have r0 : X9.cell? ⟨p0, 0, none⟩ = some (.int .i64 2) := by rw [cell_of_row _ _ 0 _ _ (0, 0) gp9]; rfl
  have r1 : X9.cell? ⟨p0, 1, none⟩ = some (.int .i64 op) := by rw [cell_of_row _ _ 1 _ _ (0, 0) gp9]; rfl
  have r2 : X9.cell? ⟨p0, 2, none⟩ = some (.int .i64 0) := by rw [cell_of_row _ _ 2 _ _ (0, 0) gp9]; rfl
  have r3 : X9.cell? ⟨p0, 3, none⟩ = some (.int .i64 A) := by rw [cell_of_row _ _ 3 _ _ (0, 0) gp9]; rfl
  have r4 : X9.cell? ⟨p0, 4, none⟩ = some (.int .i64 B) := by rw [cell_of_row _ _ 4 _ _ (0, 0) gp9]; rfl
  have r5 : X9.cell? ⟨p0, 5, none⟩ = some (.int .i32 N) := by rw [cell_of_row _ _ 5 _ _ (0, 0) gp9]; rfl
  have r6 : X9.cell? ⟨p0, 6, none⟩ = some (.string ⟨#[]⟩) := by rw [cell_of_row _ _ 6 _ _ (0, 0) gp9]; rfl
  have HBE := Lib.hid bb9
  clear gp0 bb0 gp1 bb1 gp2 bb2 gp3 bb3 gp4 bb4 gp5 bb5 gp6 bb6 gp7 bb7 gp8 bb8 gp9 bb9 gq0 gq1 gq2 hb4 hne
  go_wp2_with fail
  exact bodyPost_ret (v := .agg #[.int .i64 2, .int .i64 op, .int .i64 0, .int .i64 A, .int .i64 B, .int .i32 N, .string ⟨#[]⟩]) (by simp [results, Tryd.results31, go_sem, *]) rfl ⟨rfl, by first | exact HBE.out | (rw [hp0] at HBE; exact HBE.out)⟩
set_option maxHeartbeats 3200000 in
theorem read_f6 (op w : Nat) (hw : w < 4294967296) (W : World) :
    Calls Tryd.prog 31 #[.int .i64 op, .int .i64 6, .int .u32 w] W fun e w' => e = .returned (lnV (readF op 6 w)) ∧ Below W.heap.size W w' := by
  have hV : lnV (readF op 6 w) = .agg #[.int .i64 2, .int .i64 op, .int .i64 0, .int .i64 ((cutN w 15 5 : Nat) : Int), .int .i64 ((cutN w 20 5 : Nat) : Int), .int .i32 (numN 6 w), .string ⟨#[]⟩] := rfl
  rw [hV]
  clear hV
  have HN := Lib.hid (num_any6 w hw)
  have G7 : ∀ W, Calls Tryd.prog 51 #[.int .u32 w, .int .i64 7] W fun e w' => e = .returned (.int .i64 (cutN w 7 5 : Nat)) ∧ ∃ n, w' = W.drewN n := fun W => register_any w 7 hw (by decide) W
  have G15 : ∀ W, Calls Tryd.prog 51 #[.int .u32 w, .int .i64 15] W fun e w' => e = .returned (.int .i64 (cutN w 15 5 : Nat)) ∧ ∃ n, w' = W.drewN n := fun W => register_any w 15 hw (by decide) W
  have G20 : ∀ W, Calls Tryd.prog 51 #[.int .u32 w, .int .i64 20] W fun e w' => e = .returned (.int .i64 (cutN w 20 5 : Nat)) ∧ ∃ n, w' = W.drewN n := fun W => register_any w 20 hw (by decide) W
  generalize ((cutN w 7 5 : Nat) : Int) = D at *
  generalize ((cutN w 15 5 : Nat) : Int) = A at *
  generalize ((cutN w 20 5 : Nat) : Int) = B at *
  generalize numN 6 w = N at *
  have H7 := Lib.hid G7
  have H15 := Lib.hid G15
  have H20 := Lib.hid G20
  clear G7 G15 G20
  obtain ⟨p0, hp0⟩ : ∃ p0, W.heap.size = p0 := ⟨_, rfl⟩
  obtain ⟨Wa, hWa⟩ : ∃ Wa, W.alloc (.cells #[.int .i64 0, .int .i64 0, .int .i64 0, .int .i64 0, .int .i64 0, .int .i32 0, .string ⟨#[]⟩] 23) = Wa := ⟨_, rfl⟩
  have hBa : Below W.heap.size W Wa := by rw [← hWa]; exact (Below.refl _ _).alloc (Nat.le_refl _) _
  have hza : Wa.heap.size = p0 + 1 := by rw [← hWa, ← hp0]; simp
  have hzr : Wa.heap[p0]? = some (.cells #[.int .i64 0, .int .i64 0, .int .i64 0, .int .i64 0, .int .i64 0, .int .i32 0, .string ⟨#[]⟩] 23 (0, 0)) := by rw [← hWa, ← hp0]; exact heap_alloc_new W _
  have HBA := Lib.hid (And.intro hBa (And.intro hza hzr))
  clear hBa hza hzr
  go_enter Tryd.func31, Tryd.ntmps31
  go_wp2_with fail
  refine (HN.out _).mono ?_
  rintro e w1 ⟨rfl, hb1⟩
  go_wp2_with fail
  have hlt : p0 < w1.heap.size := Nat.lt_of_lt_of_le (by have := HBA.out.2.1; omega) hb1.size
  have hq0 : w1.heap[p0]? = some (.cells #[.int .i64 0, .int .i64 0, .int .i64 0, .int .i64 0, .int .i64 0, .int .i32 0, .string ⟨#[]⟩] 23 (0, 0)) := (hb1.block p0 (by have := HBA.out.2.1; omega)).trans HBA.out.2.2
  obtain ⟨q, hq⟩ : ∃ q, w1.heap.size = q := ⟨_, rfl⟩
  obtain ⟨Xa, hXa⟩ : ∃ Xa, w1.alloc (.cells #[.int .i64 2, .int .i64 op, .int .i64 0, .int .i64 0, .int .i64 0, .int .i32 N, .string ⟨#[]⟩] 23) = Xa := ⟨_, rfl⟩
  have hbx : Below w1.heap.size w1 Xa := by rw [← hXa]; exact (Below.refl _ _).alloc (Nat.le_refl _) _
  have hqa : Xa.heap[q]? = some (.cells #[.int .i64 2, .int .i64 op, .int .i64 0, .int .i64 0, .int .i64 0, .int .i32 N, .string ⟨#[]⟩] 23 (0, 0)) := by rw [← hXa, ← hq]; exact heap_alloc_new w1 _
  have hpa : Xa.heap[p0]? = some (.cells #[.int .i64 0, .int .i64 0, .int .i64 0, .int .i64 0, .int .i64 0, .int .i32 0, .string ⟨#[]⟩] 23 (0, 0)) := (hbx.block p0 hlt).trans hq0
  have hsz : Xa.heap.size = q + 1 := by rw [← hXa, ← hq]; simp
  rw [hq] at hlt
  have HX := Lib.hid (And.intro (HBA.out.1.trans ((hb1.trans (hbx.mono hb1.size)).mono HBA.out.1.size)) (And.intro (show p0 < q ∧ Xa.heap.size = q + 1 from ⟨hlt, hsz⟩) (And.intro hqa hpa)))
  clear hb1 hq0 hbx hqa hpa hsz
  rw [hXa]
  refine (H7.out _).mono ?_
  rintro e w2 ⟨rfl, m2, hw2⟩
  have HB2 : Hid (Below Xa.heap.size Xa w2) := Lib.hid (by rw [hw2]; exact below_drewN (Below.refl _ _) m2)
  clear hw2
  go_wp2_with fail
  refine (H15.out _).mono ?_
  rintro e w3 ⟨rfl, m3, hw3⟩
  have HB3 : Hid (Below Xa.heap.size Xa w3) := Lib.hid (by rw [hw3]; exact HB2.out.trans (below_drewN (Below.refl _ _) m3 |>.mono HB2.out.size))
  clear hw3
  go_wp2_with fail
  refine (H20.out _).mono ?_
  rintro e w4 ⟨rfl, m4, hw4⟩
  have HB4 : Hid (Below Xa.heap.size Xa w4) := Lib.hid (by rw [hw4]; exact HB3.out.trans (below_drewN (Below.refl _ _) m4 |>.mono HB3.out.size))
  clear hw4
  have hb4 := HB4.out
  have gq0 : w4.heap[q]? = some (.cells #[.int .i64 2, .int .i64 op, .int .i64 0, .int .i64 0, .int .i64 0, .int .i32 N, .string ⟨#[]⟩] 23 (0, 0)) := (hb4.block q (by have := HX.out.2.1; omega)).trans HX.out.2.2.1
  have gp0 : w4.heap[p0]? = some (.cells #[.int .i64 0, .int .i64 0, .int .i64 0, .int .i64 0, .int .i64 0, .int .i32 0, .string ⟨#[]⟩] 23 (0, 0)) := (hb4.block p0 (by have := HX.out.2.1; omega)).trans HX.out.2.2.2
  have hne : p0 ≠ q := by omega
  have bb0 : Below W.heap.size W w4 := HX.out.1.trans (hb4.mono HX.out.1.size)
  have d0 : w4.cell? ⟨q, 3, none⟩ = some (.int .i64 0) := by rw [cell_of_row _ _ 3 _ _ (0, 0) gq0]; rfl
  have fz0 := frozen_of_row _ q 3 _ _ gq0
  obtain ⟨X1, hX1⟩ : ∃ X, w4.setCell ⟨q, 3, none⟩ (.int .i64 A) = X := ⟨_, rfl⟩
  have gq1 : X1.heap[q]? = some (.cells #[.int .i64 2, .int .i64 op, .int .i64 0, .int .i64 A, .int .i64 0, .int .i32 N, .string ⟨#[]⟩] 23 (0, 0)) := by rw [← hX1]; exact heap_setCell_same _ _ _ _ _ _ gq0
  have gp1 : X1.heap[p0]? = some (.cells #[.int .i64 0, .int .i64 0, .int .i64 0, .int .i64 0, .int .i64 0, .int .i32 0, .string ⟨#[]⟩] 23 (0, 0)) := by rw [← hX1]; exact (heap_setCell_other _ ⟨q, 3, none⟩ p0 _ hne).trans gp0
  have bb1 : Below W.heap.size W X1 := by rw [← hX1]; exact bb0.setCell (by show _ ≤ q; omega) _
  have d1 : X1.cell? ⟨q, 4, none⟩ = some (.int .i64 0) := by rw [cell_of_row _ _ 4 _ _ (0, 0) gq1]; rfl
  have fz1 := frozen_of_row _ q 4 _ _ gq1
  obtain ⟨X2, hX2⟩ : ∃ X, X1.setCell ⟨q, 4, none⟩ (.int .i64 B) = X := ⟨_, rfl⟩
  have gq2 : X2.heap[q]? = some (.cells #[.int .i64 2, .int .i64 op, .int .i64 0, .int .i64 A, .int .i64 B, .int .i32 N, .string ⟨#[]⟩] 23 (0, 0)) := by rw [← hX2]; exact heap_setCell_same _ _ _ _ _ _ gq1
  have gp2 : X2.heap[p0]? = some (.cells #[.int .i64 0, .int .i64 0, .int .i64 0, .int .i64 0, .int .i64 0, .int .i32 0, .string ⟨#[]⟩] 23 (0, 0)) := by rw [← hX2]; exact (heap_setCell_other _ ⟨q, 4, none⟩ p0 _ hne).trans gp1
  have bb2 : Below W.heap.size W X2 := by rw [← hX2]; exact bb1.setCell (by show _ ≤ q; omega) _
  have u0 : X2.cell? ⟨q, 0, none⟩ = some (.int .i64 2) := by rw [cell_of_row _ _ 0 _ _ (0, 0) gq2]; rfl
  have u1 : X2.cell? ⟨q, 1, none⟩ = some (.int .i64 op) := by rw [cell_of_row _ _ 1 _ _ (0, 0) gq2]; rfl
  have u2 : X2.cell? ⟨q, 2, none⟩ = some (.int .i64 0) := by rw [cell_of_row _ _ 2 _ _ (0, 0) gq2]; rfl
  have u3 : X2.cell? ⟨q, 3, none⟩ = some (.int .i64 A) := by rw [cell_of_row _ _ 3 _ _ (0, 0) gq2]; rfl
  have u4 : X2.cell? ⟨q, 4, none⟩ = some (.int .i64 B) := by rw [cell_of_row _ _ 4 _ _ (0, 0) gq2]; rfl
  have u5 : X2.cell? ⟨q, 5, none⟩ = some (.int .i32 N) := by rw [cell_of_row _ _ 5 _ _ (0, 0) gq2]; rfl
  have u6 : X2.cell? ⟨q, 6, none⟩ = some (.string ⟨#[]⟩) := by rw [cell_of_row _ _ 6 _ _ (0, 0) gq2]; rfl
  have e0 : X2.cell? ⟨p0, 0, none⟩ = some (.int .i64 0) := by rw [cell_of_row _ _ 0 _ _ (0, 0) gp2]; rfl
  have fp0 := frozen_of_row _ p0 0 _ _ gp2
  obtain ⟨X3, hX3⟩ : ∃ X, X2.setCell ⟨p0, 0, none⟩ (.int .i64 2) = X := ⟨_, rfl⟩
  have gp3 : X3.heap[p0]? = some (.cells #[.int .i64 2, .int .i64 0, .int .i64 0, .int .i64 0, .int .i64 0, .int .i32 0, .string ⟨#[]⟩] 23 (0, 0)) := by rw [← hX3]; exact heap_setCell_same _ _ _ _ _ _ gp2
  have bb3 : Below W.heap.size W X3 := by rw [← hX3]; exact bb2.setCell (by show _ ≤ p0; omega) _
  have e1 : X3.cell? ⟨p0, 1, none⟩ = some (.int .i64 0) := by rw [cell_of_row _ _ 1 _ _ (0, 0) gp3]; rfl
  have fp1 := frozen_of_row _ p0 1 _ _ gp3
  obtain ⟨X4, hX4⟩ : ∃ X, X3.setCell ⟨p0, 1, none⟩ (.int .i64 op) = X := ⟨_, rfl⟩
  have gp4 : X4.heap[p0]? = some (.cells #[.int .i64 2, .int .i64 op, .int .i64 0, .int .i64 0, .int .i64 0, .int .i32 0, .string ⟨#[]⟩] 23 (0, 0)) := by rw [← hX4]; exact heap_setCell_same _ _ _ _ _ _ gp3
  have bb4 : Below W.heap.size W X4 := by rw [← hX4]; exact bb3.setCell (by show _ ≤ p0; omega) _
  have e2 : X4.cell? ⟨p0, 2, none⟩ = some (.int .i64 0) := by rw [cell_of_row _ _ 2 _ _ (0, 0) gp4]; rfl
  have fp2 := frozen_of_row _ p0 2 _ _ gp4
  obtain ⟨X5, hX5⟩ : ∃ X, X4.setCell ⟨p0, 2, none⟩ (.int .i64 0) = X := ⟨_, rfl⟩
  have gp5 : X5.heap[p0]? = some (.cells #[.int .i64 2, .int .i64 op, .int .i64 0, .int .i64 0, .int .i64 0, .int .i32 0, .string ⟨#[]⟩] 23 (0, 0)) := by rw [← hX5]; exact heap_setCell_same _ _ _ _ _ _ gp4
  have bb5 : Below W.heap.size W X5 := by rw [← hX5]; exact bb4.setCell (by show _ ≤ p0; omega) _
  have e3 : X5.cell? ⟨p0, 3, none⟩ = some (.int .i64 0) := by rw [cell_of_row _ _ 3 _ _ (0, 0) gp5]; rfl
  have fp3 := frozen_of_row _ p0 3 _ _ gp5
  obtain ⟨X6, hX6⟩ : ∃ X, X5.setCell ⟨p0, 3, none⟩ (.int .i64 A) = X := ⟨_, rfl⟩
  have gp6 : X6.heap[p0]? = some (.cells #[.int .i64 2, .int .i64 op, .int .i64 0, .int .i64 A, .int .i64 0, .int .i32 0, .string ⟨#[]⟩] 23 (0, 0)) := by rw [← hX6]; exact heap_setCell_same _ _ _ _ _ _ gp5
  have bb6 : Below W.heap.size W X6 := by rw [← hX6]; exact bb5.setCell (by show _ ≤ p0; omega) _
  have e4 : X6.cell? ⟨p0, 4, none⟩ = some (.int .i64 0) := by rw [cell_of_row _ _ 4 _ _ (0, 0) gp6]; rfl
  have fp4 := frozen_of_row _ p0 4 _ _ gp6
  obtain ⟨X7, hX7⟩ : ∃ X, X6.setCell ⟨p0, 4, none⟩ (.int .i64 B) = X := ⟨_, rfl⟩
  have gp7 : X7.heap[p0]? = some (.cells #[.int .i64 2, .int .i64 op, .int .i64 0, .int .i64 A, .int .i64 B, .int .i32 0, .string ⟨#[]⟩] 23 (0, 0)) := by rw [← hX7]; exact heap_setCell_same _ _ _ _ _ _ gp6
  have bb7 : Below W.heap.size W X7 := by rw [← hX7]; exact bb6.setCell (by show _ ≤ p0; omega) _
  have e5 : X7.cell? ⟨p0, 5, none⟩ = some (.int .i32 0) := by rw [cell_of_row _ _ 5 _ _ (0, 0) gp7]; rfl
  have fp5 := frozen_of_row _ p0 5 _ _ gp7
  obtain ⟨X8, hX8⟩ : ∃ X, X7.setCell ⟨p0, 5, none⟩ (.int .i32 N) = X := ⟨_, rfl⟩
  have gp8 : X8.heap[p0]? = some (.cells #[.int .i64 2, .int .i64 op, .int .i64 0, .int .i64 A, .int .i64 B, .int .i32 N, .string ⟨#[]⟩] 23 (0, 0)) := by rw [← hX8]; exact heap_setCell_same _ _ _ _ _ _ gp7
  have bb8 : Below W.heap.size W X8 := by rw [← hX8]; exact bb7.setCell (by show _ ≤ p0; omega) _
  have e6 : X8.cell? ⟨p0, 6, none⟩ = some (.string ⟨#[]⟩) := by rw [cell_of_row _ _ 6 _ _ (0, 0) gp8]; rfl
  have fp6 := frozen_of_row _ p0 6 _ _ gp8
  obtain ⟨X9, hX9⟩ : ∃ X, X8.setCell ⟨p0, 6, none⟩ (.string ⟨#[]⟩) = X := ⟨_, rfl⟩
  have gp9 : X9.heap[p0]? = some (.cells #[.int .i64 2, .int .i64 op, .int .i64 0, .int .i64 A, .int .i64 B, .int .i32 N, .string ⟨#[]⟩] 23 (0, 0)) := by rw [← hX9]; exact heap_setCell_same _ _ _ _ _ _ gp8
  have bb9 : Below W.heap.size W X9 := by rw [← hX9]; exact bb8.setCell (by show _ ≤ p0; omega) _
  have r0 : X9.cell? ⟨p0, 0, none⟩ = some (.int .i64 2) := by rw [cell_of_row _ _ 0 _ _ (0, 0) gp9]; rfl
  have r1 : X9.cell? ⟨p0, 1, none⟩ = some (.int .i64 op) := by rw [cell_of_row _ _ 1 _ _ (0, 0) gp9]; rfl
  have r2 : X9.cell? ⟨p0, 2, none⟩ = some (.int .i64 0) := by rw [cell_of_row _ _ 2 _ _ (0, 0) gp9]; rfl
  have r3 : X9.cell? ⟨p0, 3, none⟩ = some (.int .i64 A) := by rw [cell_of_row _ _ 3 _ _ (0, 0) gp9]; rfl
  have r4 : X9.cell? ⟨p0, 4, none⟩ = some (.int .i64 B) := by rw [cell_of_row _ _ 4 _ _ (0, 0) gp9]; rfl
  have r5 : X9.cell? ⟨p0, 5, none⟩ = some (.int .i32 N) := by rw [cell_of_row _ _ 5 _ _ (0, 0) gp9]; rfl
  have r6 : X9.cell? ⟨p0, 6, none⟩ = some (.string ⟨#[]⟩) := by rw [cell_of_row _ _ 6 _ _ (0, 0) gp9]; rfl
  have HBE := Lib.hid bb9
  clear gp0 bb0 gp1 bb1 gp2 bb2 gp3 bb3 gp4 bb4 gp5 bb5 gp6 bb6 gp7 bb7 gp8 bb8 gp9 bb9 gq0 gq1 gq2 hb4 hne
  go_wp2_with fail
  exact bodyPost_ret (v := .agg #[.int .i64 2, .int .i64 op, .int .i64 0, .int .i64 A, .int .i64 B, .int .i32 N, .string ⟨#[]⟩]) (by simp [results, Tryd.results31, go_sem, *]) rfl ⟨rfl, by first | exact HBE.out | (rw [hp0] at HBE; exact HBE.out)⟩
set_option maxHeartbeats 3200000 in
theorem read_f7 (op w : Nat) (hw : w < 4294967296) (W : World) :
    Calls Tryd.prog 31 #[.int .i64 op, .int .i64 7, .int .u32 w] W fun e w' => e = .returned (lnV (readF op 7 w)) ∧ Below W.heap.size W w' := by
  have hV : lnV (readF op 7 w) = .agg #[.int .i64 2, .int .i64 op, .int .i64 ((cutN w 7 5 : Nat) : Int), .int .i64 0, .int .i64 0, .int .i32 (numN 7 w), .string ⟨#[]⟩] := rfl
  rw [hV]
  clear hV
  have HN := Lib.hid (num_any7 w hw)
  have G7 : ∀ W, Calls Tryd.prog 51 #[.int .u32 w, .int .i64 7] W fun e w' => e = .returned (.int .i64 (cutN w 7 5 : Nat)) ∧ ∃ n, w' = W.drewN n := fun W => register_any w 7 hw (by decide) W
  have G15 : ∀ W, Calls Tryd.prog 51 #[.int .u32 w, .int .i64 15] W fun e w' => e = .returned (.int .i64 (cutN w 15 5 : Nat)) ∧ ∃ n, w' = W.drewN n := fun W => register_any w 15 hw (by decide) W
  have G20 : ∀ W, Calls Tryd.prog 51 #[.int .u32 w, .int .i64 20] W fun e w' => e = .returned (.int .i64 (cutN w 20 5 : Nat)) ∧ ∃ n, w' = W.drewN n := fun W => register_any w 20 hw (by decide) W
  generalize ((cutN w 7 5 : Nat) : Int) = D at *
  generalize ((cutN w 15 5 : Nat) : Int) = A at *
  generalize ((cutN w 20 5 : Nat) : Int) = B at *
  generalize numN 7 w = N at *
  have H7 := Lib.hid G7
  have H15 := Lib.hid G15
  have H20 := Lib.hid G20
  clear G7 G15 G20
  obtain ⟨p0, hp0⟩ : ∃ p0, W.heap.size = p0 := ⟨_, rfl⟩
  obtain ⟨Wa, hWa⟩ : ∃ Wa, W.alloc (.cells #[.int .i64 0, .int .i64 0, .int .i64 0, .int .i64 0, .int .i64 0, .int .i32 0, .string ⟨#[]⟩] 23) = Wa := ⟨_, rfl⟩
  have hBa : Below W.heap.size W Wa := by rw [← hWa]; exact (Below.refl _ _).alloc (Nat.le_refl _) _
  have hza : Wa.heap.size = p0 + 1 := by rw [← hWa, ← hp0]; simp
  have hzr : Wa.heap[p0]? = some (.cells #[.int .i64 0, .int .i64 0, .int .i64 0, .int .i64 0, .int .i64 0, .int .i32 0, .string ⟨#[]⟩] 23 (0, 0)) := by rw [← hWa, ← hp0]; exact heap_alloc_new W _
  have HBA := Lib.hid (And.intro hBa (And.intro hza hzr))
  clear hBa hza hzr
  go_enter Tryd.func31, Tryd.ntmps31
  go_wp2_with fail
  refine (HN.out _).mono ?_
  rintro e w1 ⟨rfl, hb1⟩
  go_wp2_with fail
  have hlt : p0 < w1.heap.size := Nat.lt_of_lt_of_le (by have := HBA.out.2.1; omega) hb1.size
  have hq0 : w1.heap[p0]? = some (.cells #[.int .i64 0, .int .i64 0, .int .i64 0, .int .i64 0, .int .i64 0, .int .i32 0, .string ⟨#[]⟩] 23 (0, 0)) := (hb1.block p0 (by have := HBA.out.2.1; omega)).trans HBA.out.2.2
  obtain ⟨q, hq⟩ : ∃ q, w1.heap.size = q := ⟨_, rfl⟩
  obtain ⟨Xa, hXa⟩ : ∃ Xa, w1.alloc (.cells #[.int .i64 2, .int .i64 op, .int .i64 0, .int .i64 0, .int .i64 0, .int .i32 N, .string ⟨#[]⟩] 23) = Xa := ⟨_, rfl⟩
  have hbx : Below w1.heap.size w1 Xa := by rw [← hXa]; exact (Below.refl _ _).alloc (Nat.le_refl _) _
  have hqa : Xa.heap[q]? = some (.cells #[.int .i64 2, .int .i64 op, .int .i64 0, .int .i64 0, .int .i64 0, .int .i32 N, .string ⟨#[]⟩] 23 (0, 0)) := by rw [← hXa, ← hq]; exact heap_alloc_new w1 _
  have hpa : Xa.heap[p0]? = some (.cells #[.int .i64 0, .int .i64 0, .int .i64 0, .int .i64 0, .int .i64 0, .int .i32 0, .string ⟨#[]⟩] 23 (0, 0)) := (hbx.block p0 hlt).trans hq0
  have hsz : Xa.heap.size = q + 1 := by rw [← hXa, ← hq]; simp
  rw [hq] at hlt
  have HX := Lib.hid (And.intro (HBA.out.1.trans ((hb1.trans (hbx.mono hb1.size)).mono HBA.out.1.size)) (And.intro (show p0 < q ∧ Xa.heap.size = q + 1 from ⟨hlt, hsz⟩) (And.intro hqa hpa)))
  clear hb1 hq0 hbx hqa hpa hsz
  rw [hXa]
  refine (H7.out _).mono ?_
  rintro e w2 ⟨rfl, m2, hw2⟩
  have HB2 : Hid (Below Xa.heap.size Xa w2) := Lib.hid (by rw [hw2]; exact below_drewN (Below.refl _ _) m2)
  clear hw2
  go_wp2_with fail
  refine (H15.out _).mono ?_
  rintro e w3 ⟨rfl, m3, hw3⟩
  have HB3 : Hid (Below Xa.heap.size Xa w3) := Lib.hid (by rw [hw3]; exact HB2.out.trans (below_drewN (Below.refl _ _) m3 |>.mono HB2.out.size))
  clear hw3
  go_wp2_with fail
  refine (H20.out _).mono ?_
  rintro e w4 ⟨rfl, m4, hw4⟩
  have HB4 : Hid (Below Xa.heap.size Xa w4) := Lib.hid (by rw [hw4]; exact HB3.out.trans (below_drewN (Below.refl _ _) m4 |>.mono HB3.out.size))
  clear hw4
  have hb4 := HB4.out
  have gq0 : w4.heap[q]? = some (.cells #[.int .i64 2, .int .i64 op, .int .i64 0, .int .i64 0, .int .i64 0, .int .i32 N, .string ⟨#[]⟩] 23 (0, 0)) := (hb4.block q (by have := HX.out.2.1; omega)).trans HX.out.2.2.1
  have gp0 : w4.heap[p0]? = some (.cells #[.int .i64 0, .int .i64 0, .int .i64 0, .int .i64 0, .int .i64 0, .int .i32 0, .string ⟨#[]⟩] 23 (0, 0)) := (hb4.block p0 (by have := HX.out.2.1; omega)).trans HX.out.2.2.2
  have hne : p0 ≠ q := by omega
  have bb0 : Below W.heap.size W w4 := HX.out.1.trans (hb4.mono HX.out.1.size)
  have d0 : w4.cell? ⟨q, 2, none⟩ = some (.int .i64 0) := by rw [cell_of_row _ _ 2 _ _ (0, 0) gq0]; rfl
  have fz0 := frozen_of_row _ q 2 _ _ gq0
  obtain ⟨X1, hX1⟩ : ∃ X, w4.setCell ⟨q, 2, none⟩ (.int .i64 D) = X := ⟨_, rfl⟩
  have gq1 : X1.heap[q]? = some (.cells #[.int .i64 2, .int .i64 op, .int .i64 D, .int .i64 0, .int .i64 0, .int .i32 N, .string ⟨#[]⟩] 23 (0, 0)) := by rw [← hX1]; exact heap_setCell_same _ _ _ _ _ _ gq0
  have gp1 : X1.heap[p0]? = some (.cells #[.int .i64 0, .int .i64 0, .int .i64 0, .int .i64 0, .int .i64 0, .int .i32 0, .string ⟨#[]⟩] 23 (0, 0)) := by rw [← hX1]; exact (heap_setCell_other _ ⟨q, 2, none⟩ p0 _ hne).trans gp0
  have bb1 : Below W.heap.size W X1 := by rw [← hX1]; exact bb0.setCell (by show _ ≤ q; omega) _
  have u0 : X1.cell? ⟨q, 0, none⟩ = some (.int .i64 2) := by rw [cell_of_row _ _ 0 _ _ (0, 0) gq1]; rfl
  have u1 : X1.cell? ⟨q, 1, none⟩ = some (.int .i64 op) := by rw [cell_of_row _ _ 1 _ _ (0, 0) gq1]; rfl
  have u2 : X1.cell? ⟨q, 2, none⟩ = some (.int .i64 D) := by rw [cell_of_row _ _ 2 _ _ (0, 0) gq1]; rfl
  have u3 : X1.cell? ⟨q, 3, none⟩ = some (.int .i64 0) := by rw [cell_of_row _ _ 3 _ _ (0, 0) gq1]; rfl
  have u4 : X1.cell? ⟨q, 4, none⟩ = some (.int .i64 0) := by rw [cell_of_row _ _ 4 _ _ (0, 0) gq1]; rfl
  have u5 : X1.cell? ⟨q, 5, none⟩ = some (.int .i32 N) := by rw [cell_of_row _ _ 5 _ _ (0, 0) gq1]; rfl
  have u6 : X1.cell? ⟨q, 6, none⟩ = some (.string ⟨#[]⟩) := by rw [cell_of_row _ _ 6 _ _ (0, 0) gq1]; rfl
  have e0 : X1.cell? ⟨p0, 0, none⟩ = some (.int .i64 0) := by rw [cell_of_row _ _ 0 _ _ (0, 0) gp1]; rfl
  have fp0 := frozen_of_row _ p0 0 _ _ gp1
  obtain ⟨X2, hX2⟩ : ∃ X, X1.setCell ⟨p0, 0, none⟩ (.int .i64 2) = X := ⟨_, rfl⟩
  have gp2 : X2.heap[p0]? = some (.cells #[.int .i64 2, .int .i64 0, .int .i64 0, .int .i64 0, .int .i64 0, .int .i32 0, .string ⟨#[]⟩] 23 (0, 0)) := by rw [← hX2]; exact heap_setCell_same _ _ _ _ _ _ gp1
  have bb2 : Below W.heap.size W X2 := by rw [← hX2]; exact bb1.setCell (by show _ ≤ p0; omega) _
  have e1 : X2.cell? ⟨p0, 1, none⟩ = some (.int .i64 0) := by rw [cell_of_row _ _ 1 _ _ (0, 0) gp2]; rfl
  have fp1 := frozen_of_row _ p0 1 _ _ gp2
  obtain ⟨X3, hX3⟩ : ∃ X, X2.setCell ⟨p0, 1, none⟩ (.int .i64 op) = X := ⟨_, rfl⟩
  have gp3 : X3.heap[p0]? = some (.cells #[.int .i64 2, .int .i64 op, .int .i64 0, .int .i64 0, .int .i64 0, .int .i32 0, .string ⟨#[]⟩] 23 (0, 0)) := by rw [← hX3]; exact heap_setCell_same _ _ _ _ _ _ gp2
  have bb3 : Below W.heap.size W X3 := by rw [← hX3]; exact bb2.setCell (by show _ ≤ p0; omega) _
  have e2 : X3.cell? ⟨p0, 2, none⟩ = some (.int .i64 0) := by rw [cell_of_row _ _ 2 _ _ (0, 0) gp3]; rfl
  have fp2 := frozen_of_row _ p0 2 _ _ gp3
  obtain ⟨X4, hX4⟩ : ∃ X, X3.setCell ⟨p0, 2, none⟩ (.int .i64 D) = X := ⟨_, rfl⟩
  have gp4 : X4.heap[p0]? = some (.cells #[.int .i64 2, .int .i64 op, .int .i64 D, .int .i64 0, .int .i64 0, .int .i32 0, .string ⟨#[]⟩] 23 (0, 0)) := by rw [← hX4]; exact heap_setCell_same _ _ _ _ _ _ gp3
  have bb4 : Below W.heap.size W X4 := by rw [← hX4]; exact bb3.setCell (by show _ ≤ p0; omega) _
  have e3 : X4.cell? ⟨p0, 3, none⟩ = some (.int .i64 0) := by rw [cell_of_row _ _ 3 _ _ (0, 0) gp4]; rfl
  have fp3 := frozen_of_row _ p0 3 _ _ gp4
  obtain ⟨X5, hX5⟩ : ∃ X, X4.setCell ⟨p0, 3, none⟩ (.int .i64 0) = X := ⟨_, rfl⟩
  have gp5 : X5.heap[p0]? = some (.cells #[.int .i64 2, .int .i64 op, .int .i64 D, .int .i64 0, .int .i64 0, .int .i32 0, .string ⟨#[]⟩] 23 (0, 0)) := by rw [← hX5]; exact heap_setCell_same _ _ _ _ _ _ gp4
  have bb5 : Below W.heap.size W X5 := by rw [← hX5]; exact bb4.setCell (by show _ ≤ p0; omega) _
  have e4 : X5.cell? ⟨p0, 4, none⟩ = some (.int .i64 0) := by rw [cell_of_row _ _ 4 _ _ (0, 0) gp5]; rfl
  have fp4 := frozen_of_row _ p0 4 _ _ gp5
  obtain ⟨X6, hX6⟩ : ∃ X, X5.setCell ⟨p0, 4, none⟩ (.int .i64 0) = X := ⟨_, rfl⟩
  have gp6 : X6.heap[p0]? = some (.cells #[.int .i64 2, .int .i64 op, .int .i64 D, .int .i64 0, .int .i64 0, .int .i32 0, .string ⟨#[]⟩] 23 (0, 0)) := by rw [← hX6]; exact heap_setCell_same _ _ _ _ _ _ gp5
  have bb6 : Below W.heap.size W X6 := by rw [← hX6]; exact bb5.setCell (by show _ ≤ p0; omega) _
  have e5 : X6.cell? ⟨p0, 5, none⟩ = some (.int .i32 0) := by rw [cell_of_row _ _ 5 _ _ (0, 0) gp6]; rfl
  have fp5 := frozen_of_row _ p0 5 _ _ gp6
  obtain ⟨X7, hX7⟩ : ∃ X, X6.setCell ⟨p0, 5, none⟩ (.int .i32 N) = X := ⟨_, rfl⟩
  have gp7 : X7.heap[p0]? = some (.cells #[.int .i64 2, .int .i64 op, .int .i64 D, .int .i64 0, .int .i64 0, .int .i32 N, .string ⟨#[]⟩] 23 (0, 0)) := by rw [← hX7]; exact heap_setCell_same _ _ _ _ _ _ gp6
  have bb7 : Below W.heap.size W X7 := by rw [← hX7]; exact bb6.setCell (by show _ ≤ p0; omega) _
  have e6 : X7.cell? ⟨p0, 6, none⟩ = some (.string ⟨#[]⟩) := by rw [cell_of_row _ _ 6 _ _ (0, 0) gp7]; rfl
  have fp6 := frozen_of_row _ p0 6 _ _ gp7
  obtain ⟨X8, hX8⟩ : ∃ X, X7.setCell ⟨p0, 6, none⟩ (.string ⟨#[]⟩) = X := ⟨_, rfl⟩
  have gp8 : X8.heap[p0]? = some (.cells #[.int .i64 2, .int .i64 op, .int .i64 D, .int .i64 0, .int .i64 0, .int .i32 N, .string ⟨#[]⟩] 23 (0, 0)) := by rw [← hX8]; exact heap_setCell_same _ _ _ _ _ _ gp7
  have bb8 : Below W.heap.size W X8 := by rw [← hX8]; exact bb7.setCell (by show _ ≤ p0; omega) _
  have r0 : X8.cell? ⟨p0, 0, none⟩ = some (.int .i64 2) := by rw [cell_of_row _ _ 0 _ _ (0, 0) gp8]; rfl
  have r1 : X8.cell? ⟨p0, 1, none⟩ = some (.int .i64 op) := by rw [cell_of_row _ _ 1 _ _ (0, 0) gp8]; rfl
  have r2 : X8.cell? ⟨p0, 2, none⟩ = some (.int .i64 D) := by rw [cell_of_row _ _ 2 _ _ (0, 0) gp8]; rfl
  have r3 : X8.cell? ⟨p0, 3, none⟩ = some (.int .i64 0) := by rw [cell_of_row _ _ 3 _ _ (0, 0) gp8]; rfl
  have r4 : X8.cell? ⟨p0, 4, none⟩ = some (.int .i64 0) := by rw [cell_of_row _ _ 4 _ _ (0, 0) gp8]; rfl
  have r5 : X8.cell? ⟨p0, 5, none⟩ = some (.int .i32 N) := by rw [cell_of_row _ _ 5 _ _ (0, 0) gp8]; rfl
  have r6 : X8.cell? ⟨p0, 6, none⟩ = some (.string ⟨#[]⟩) := by rw [cell_of_row _ _ 6 _ _ (0, 0) gp8]; rfl
  have HBE := Lib.hid bb8
  clear gp0 bb0 gp1 bb1 gp2 bb2 gp3 bb3 gp4 bb4 gp5 bb5 gp6 bb6 gp7 bb7 gp8 bb8 gq0 gq1 hb4 hne
  go_wp2_with fail
  exact bodyPost_ret (v := .agg #[.int .i64 2, .int .i64 op, .int .i64 D, .int .i64 0, .int .i64 0, .int .i32 N, .string ⟨#[]⟩]) (by simp [results, Tryd.results31, go_sem, *]) rfl ⟨rfl, by first | exact HBE.out | (rw [hp0] at HBE; exact HBE.out)⟩
set_option maxHeartbeats 3200000 in
theorem read_f8 (op w : Nat) (hw : w < 4294967296) (W : World) :
    Calls Tryd.prog 31 #[.int .i64 op, .int .i64 8, .int .u32 w] W fun e w' => e = .returned (lnV (readF op 8 w)) ∧ Below W.heap.size W w' := by
  have hV : lnV (readF op 8 w) = .agg #[.int .i64 2, .int .i64 op, .int .i64 ((cutN w 7 5 : Nat) : Int), .int .i64 0, .int .i64 0, .int .i32 (numN 8 w), .string ⟨#[]⟩] := rfl
  rw [hV]
  clear hV
  have HN := Lib.hid (num_any8 w hw)
  have G7 : ∀ W, Calls Tryd.prog 51 #[.int .u32 w, .int .i64 7] W fun e w' => e = .returned (.int .i64 (cutN w 7 5 : Nat)) ∧ ∃ n, w' = W.drewN n := fun W => register_any w 7 hw (by decide) W
  have G15 : ∀ W, Calls Tryd.prog 51 #[.int .u32 w, .int .i64 15] W fun e w' => e = .returned (.int .i64 (cutN w 15 5 : Nat)) ∧ ∃ n, w' = W.drewN n := fun W => register_any w 15 hw (by decide) W
  have G20 : ∀ W, Calls Tryd.prog 51 #[.int .u32 w, .int .i64 20] W fun e w' => e = .returned (.int .i64 (cutN w 20 5 : Nat)) ∧ ∃ n, w' = W.drewN n := fun W => register_any w 20 hw (by decide) W
  generalize ((cutN w 7 5 : Nat) : Int) = D at *
  generalize ((cutN w 15 5 : Nat) : Int) = A at *
  generalize ((cutN w 20 5 : Nat) : Int) = B at *
  generalize numN 8 w = N at *
  have H7 := Lib.hid G7
  have H15 := Lib.hid G15
  have H20 := Lib.hid G20
  clear G7 G15 G20
  obtain ⟨p0, hp0⟩ : ∃ p0, W.heap.size = p0 := ⟨_, rfl⟩
  obtain ⟨Wa, hWa⟩ : ∃ Wa, W.alloc (.cells #[.int .i64 0, .int .i64 0, .int .i64 0, .int .i64 0, .int .i64 0, .int .i32 0, .string ⟨#[]⟩] 23) = Wa := ⟨_, rfl⟩
  have hBa : Below W.heap.size W Wa := by rw [← hWa]; exact (Below.refl _ _).alloc (Nat.le_refl _) _
  have hza : Wa.heap.size = p0 + 1 := by rw [← hWa, ← hp0]; simp
  have hzr : Wa.heap[p0]? = some (.cells #[.int .i64 0, .int .i64 0, .int .i64 0, .int .i64 0, .int .i64 0, .int .i32 0, .string ⟨#[]⟩] 23 (0, 0)) := by rw [← hWa, ← hp0]; exact heap_alloc_new W _
  have HBA := Lib.hid (And.intro hBa (And.intro hza hzr))
  clear hBa hza hzr
  go_enter Tryd.func31, Tryd.ntmps31
  go_wp2_with fail
  refine (HN.out _).mono ?_
  rintro e w1 ⟨rfl, hb1⟩
  go_wp2_with fail
  have hlt : p0 < w1.heap.size := Nat.lt_of_lt_of_le (by have := HBA.out.2.1; omega) hb1.size
  have hq0 : w1.heap[p0]? = some (.cells #[.int .i64 0, .int .i64 0, .int .i64 0, .int .i64 0, .int .i64 0, .int .i32 0, .string ⟨#[]⟩] 23 (0, 0)) := (hb1.block p0 (by have := HBA.out.2.1; omega)).trans HBA.out.2.2
  obtain ⟨q, hq⟩ : ∃ q, w1.heap.size = q := ⟨_, rfl⟩
  obtain ⟨Xa, hXa⟩ : ∃ Xa, w1.alloc (.cells #[.int .i64 2, .int .i64 op, .int .i64 0, .int .i64 0, .int .i64 0, .int .i32 N, .string ⟨#[]⟩] 23) = Xa := ⟨_, rfl⟩
  have hbx : Below w1.heap.size w1 Xa := by rw [← hXa]; exact (Below.refl _ _).alloc (Nat.le_refl _) _
  have hqa : Xa.heap[q]? = some (.cells #[.int .i64 2, .int .i64 op, .int .i64 0, .int .i64 0, .int .i64 0, .int .i32 N, .string ⟨#[]⟩] 23 (0, 0)) := by rw [← hXa, ← hq]; exact heap_alloc_new w1 _
  have hpa : Xa.heap[p0]? = some (.cells #[.int .i64 0, .int .i64 0, .int .i64 0, .int .i64 0, .int .i64 0, .int .i32 0, .string ⟨#[]⟩] 23 (0, 0)) := (hbx.block p0 hlt).trans hq0
  have hsz : Xa.heap.size = q + 1 := by rw [← hXa, ← hq]; simp
  rw [hq] at hlt
  have HX := Lib.hid (And.intro (HBA.out.1.trans ((hb1.trans (hbx.mono hb1.size)).mono HBA.out.1.size)) (And.intro (show p0 < q ∧ Xa.heap.size = q + 1 from ⟨hlt, hsz⟩) (And.intro hqa hpa)))
  clear hb1 hq0 hbx hqa hpa hsz
  rw [hXa]
  refine (H7.out _).mono ?_
  rintro e w2 ⟨rfl, m2, hw2⟩
  have HB2 : Hid (Below Xa.heap.size Xa w2) := Lib.hid (by rw [hw2]; exact below_drewN (Below.refl _ _) m2)
  clear hw2
  go_wp2_with fail
  refine (H15.out _).mono ?_
  rintro e w3 ⟨rfl, m3, hw3⟩
  have HB3 : Hid (Below Xa.heap.size Xa w3) := Lib.hid (by rw [hw3]; exact HB2.out.trans (below_drewN (Below.refl _ _) m3 |>.mono HB2.out.size))
  clear hw3
  go_wp2_with fail
  refine (H20.out _).mono ?_
  rintro e w4 ⟨rfl, m4, hw4⟩
  have HB4 : Hid (Below Xa.heap.size Xa w4) := Lib.hid (by rw [hw4]; exact HB3.out.trans (below_drewN (Below.refl _ _) m4 |>.mono HB3.out.size))
  clear hw4
  have hb4 := HB4.out
  have gq0 : w4.heap[q]? = some (.cells #[.int .i64 2, .int .i64 op, .int .i64 0, .int .i64 0, .int .i64 0, .int .i32 N, .string ⟨#[]⟩] 23 (0, 0)) := (hb4.block q (by have := HX.out.2.1; omega)).trans HX.out.2.2.1
  have gp0 : w4.heap[p0]? = some (.cells #[.int .i64 0, .int .i64 0, .int .i64 0, .int .i64 0, .int .i64 0, .int .i32 0, .string ⟨#[]⟩] 23 (0, 0)) := (hb4.block p0 (by have := HX.out.2.1; omega)).trans HX.out.2.2.2
  have hne : p0 ≠ q := by omega
  have bb0 : Below W.heap.size W w4 := HX.out.1.trans (hb4.mono HX.out.1.size)
  have d0 : w4.cell? ⟨q, 2, none⟩ = some (.int .i64 0) := by rw [cell_of_row _ _ 2 _ _ (0, 0) gq0]; rfl
  have fz0 := frozen_of_row _ q 2 _ _ gq0
  obtain ⟨X1, hX1⟩ : ∃ X, w4.setCell ⟨q, 2, none⟩ (.int .i64 D) = X := ⟨_, rfl⟩
  have gq1 : X1.heap[q]? = some (.cells #[.int .i64 2, .int .i64 op, .int .i64 D, .int .i64 0, .int .i64 0, .int .i32 N, .string ⟨#[]⟩] 23 (0, 0)) := by rw [← hX1]; exact heap_setCell_same _ _ _ _ _ _ gq0
  have gp1 : X1.heap[p0]? = some (.cells #[.int .i64 0, .int .i64 0, .int .i64 0, .int .i64 0, .int .i64 0, .int .i32 0, .string ⟨#[]⟩] 23 (0, 0)) := by rw [← hX1]; exact (heap_setCell_other _ ⟨q, 2, none⟩ p0 _ hne).trans gp0
  have bb1 : Below W.heap.size W X1 := by rw [← hX1]; exact bb0.setCell (by show _ ≤ q; omega) _
  have u0 : X1.cell? ⟨q, 0, none⟩ = some (.int .i64 2) := by rw [cell_of_row _ _ 0 _ _ (0, 0) gq1]; rfl
  have u1 : X1.cell? ⟨q, 1, none⟩ = some (.int .i64 op) := by rw [cell_of_row _ _ 1 _ _ (0, 0) gq1]; rfl
  have u2 : X1.cell? ⟨q, 2, none⟩ = some (.int .i64 D) := by rw [cell_of_row _ _ 2 _ _ (0, 0) gq1]; rfl
  have u3 : X1.cell? ⟨q, 3, none⟩ = some (.int .i64 0) := by rw [cell_of_row _ _ 3 _ _ (0, 0) gq1]; rfl
  have u4 : X1.cell? ⟨q, 4, none⟩ = some (.int .i64 0) := by rw [cell_of_row _ _ 4 _ _ (0, 0) gq1]; rfl
  have u5 : X1.cell? ⟨q, 5, none⟩ = some (.int .i32 N) := by rw [cell_of_row _ _ 5 _ _ (0, 0) gq1]; rfl
  have u6 : X1.cell? ⟨q, 6, none⟩ = some (.string ⟨#[]⟩) := by rw [cell_of_row _ _ 6 _ _ (0, 0) gq1]; rfl
  have e0 : X1.cell? ⟨p0, 0, none⟩ = some (.int .i64 0) := by rw [cell_of_row _ _ 0 _ _ (0, 0) gp1]; rfl
  have fp0 := frozen_of_row _ p0 0 _ _ gp1
  obtain ⟨X2, hX2⟩ : ∃ X, X1.setCell ⟨p0, 0, none⟩ (.int .i64 2) = X := ⟨_, rfl⟩
  have gp2 : X2.heap[p0]? = some (.cells #[.int .i64 2, .int .i64 0, .int .i64 0, .int .i64 0, .int .i64 0, .int .i32 0, .string ⟨#[]⟩] 23 (0, 0)) := by rw [← hX2]; exact heap_setCell_same _ _ _ _ _ _ gp1
  have bb2 : Below W.heap.size W X2 := by rw [← hX2]; exact bb1.setCell (by show _ ≤ p0; omega) _
  have e1 : X2.cell? ⟨p0, 1, none⟩ = some (.int .i64 0) := by rw [cell_of_row _ _ 1 _ _ (0, 0) gp2]; rfl
  have fp1 := frozen_of_row _ p0 1 _ _ gp2
  obtain ⟨X3, hX3⟩ : ∃ X, X2.setCell ⟨p0, 1, none⟩ (.int .i64 op) = X := ⟨_, rfl⟩
  have gp3 : X3.heap[p0]? = some (.cells #[.int .i64 2, .int .i64 op, .int .i64 0, .int .i64 0, .int .i64 0, .int .i32 0, .string ⟨#[]⟩] 23 (0, 0)) := by rw [← hX3]; exact heap_setCell_same _ _ _ _ _ _ gp2
  have bb3 : Below W.heap.size W X3 := by rw [← hX3]; exact bb2.setCell (by show _ ≤ p0; omega) _
  have e2 : X3.cell? ⟨p0, 2, none⟩ = some (.int .i64 0) := by rw [cell_of_row _ _ 2 _ _ (0, 0) gp3]; rfl
  have fp2 := frozen_of_row _ p0 2 _ _ gp3
  obtain ⟨X4, hX4⟩ : ∃ X, X3.setCell ⟨p0, 2, none⟩ (.int .i64 D) = X := ⟨_, rfl⟩
  have gp4 : X4.heap[p0]? = some (.cells #[.int .i64 2, .int .i64 op, .int .i64 D, .int .i64 0, .int .i64 0, .int .i32 0, .string ⟨#[]⟩] 23 (0, 0)) := by rw [← hX4]; exact heap_setCell_same _ _ _ _ _ _ gp3
  have bb4 : Below W.heap.size W X4 := by rw [← hX4]; exact bb3.setCell (by show _ ≤ p0; omega) _
  have e3 : X4.cell? ⟨p0, 3, none⟩ = some (.int .i64 0) := by rw [cell_of_row _ _ 3 _ _ (0, 0) gp4]; rfl
  have fp3 := frozen_of_row _ p0 3 _ _ gp4
  obtain ⟨X5, hX5⟩ : ∃ X, X4.setCell ⟨p0, 3, none⟩ (.int .i64 0) = X := ⟨_, rfl⟩
  have gp5 : X5.heap[p0]? = some (.cells #[.int .i64 2, .int .i64 op, .int .i64 D, .int .i64 0, .int .i64 0, .int .i32 0, .string ⟨#[]⟩] 23 (0, 0)) := by rw [← hX5]; exact heap_setCell_same _ _ _ _ _ _ gp4
  have bb5 : Below W.heap.size W X5 := by rw [← hX5]; exact bb4.setCell (by show _ ≤ p0; omega) _
  have e4 : X5.cell? ⟨p0, 4, none⟩ = some (.int .i64 0) := by rw [cell_of_row _ _ 4 _ _ (0, 0) gp5]; rfl
  have fp4 := frozen_of_row _ p0 4 _ _ gp5
  obtain ⟨X6, hX6⟩ : ∃ X, X5.setCell ⟨p0, 4, none⟩ (.int .i64 0) = X := ⟨_, rfl⟩
  have gp6 : X6.heap[p0]? = some (.cells #[.int .i64 2, .int .i64 op, .int .i64 D, .int .i64 0, .int .i64 0, .int .i32 0, .string ⟨#[]⟩] 23 (0, 0)) := by rw [← hX6]; exact heap_setCell_same _ _ _ _ _ _ gp5
  have bb6 : Below W.heap.size W X6 := by rw [← hX6]; exact bb5.setCell (by show _ ≤ p0; omega) _
  have e5 : X6.cell? ⟨p0, 5, none⟩ = some (.int .i32 0) := by rw [cell_of_row _ _ 5 _ _ (0, 0) gp6]; rfl
  have fp5 := frozen_of_row _ p0 5 _ _ gp6
  obtain ⟨X7, hX7⟩ : ∃ X, X6.setCell ⟨p0, 5, none⟩ (.int .i32 N) = X := ⟨_, rfl⟩
  have gp7 : X7.heap[p0]? = some (.cells #[.int .i64 2, .int .i64 op, .int .i64 D, .int .i64 0, .int .i64 0, .int .i32 N, .string ⟨#[]⟩] 23 (0, 0)) := by rw [← hX7]; exact heap_setCell_same _ _ _ _ _ _ gp6
  have bb7 : Below W.heap.size W X7 := by rw [← hX7]; exact bb6.setCell (by show _ ≤ p0; omega) _
  have e6 : X7.cell? ⟨p0, 6, none⟩ = some (.string ⟨#[]⟩) := by rw [cell_of_row _ _ 6 _ _ (0, 0) gp7]; rfl
  have fp6 := frozen_of_row _ p0 6 _ _ gp7
  obtain ⟨X8, hX8⟩ : ∃ X, X7.setCell ⟨p0, 6, none⟩ (.string ⟨#[]⟩) = X := ⟨_, rfl⟩
  have gp8 : X8.heap[p0]? = some (.cells #[.int .i64 2, .int .i64 op, .int .i64 D, .int .i64 0, .int .i64 0, .int .i32 N, .string ⟨#[]⟩] 23 (0, 0)) := by rw [← hX8]; exact heap_setCell_same _ _ _ _ _ _ gp7
  have bb8 : Below W.heap.size W X8 := by rw [← hX8]; exact bb7.setCell (by show _ ≤ p0; omega) _
  have r0 : X8.cell? ⟨p0, 0, none⟩ = some (.int .i64 2) := by rw [cell_of_row _ _ 0 _ _ (0, 0) gp8]; rfl
  have r1 : X8.cell? ⟨p0, 1, none⟩ = some (.int .i64 op) := by rw [cell_of_row _ _ 1 _ _ (0, 0) gp8]; rfl
  have r2 : X8.cell? ⟨p0, 2, none⟩ = some (.int .i64 D) := by rw [cell_of_row _ _ 2 _ _ (0, 0) gp8]; rfl
  have r3 : X8.cell? ⟨p0, 3, none⟩ = some (.int .i64 0) := by rw [cell_of_row _ _ 3 _ _ (0, 0) gp8]; rfl
  have r4 : X8.cell? ⟨p0, 4, none⟩ = some (.int .i64 0) := by rw [cell_of_row _ _ 4 _ _ (0, 0) gp8]; rfl
  have r5 : X8.cell? ⟨p0, 5, none⟩ = some (.int .i32 N) := by rw [cell_of_row _ _ 5 _ _ (0, 0) gp8]; rfl
  have r6 : X8.cell? ⟨p0, 6, none⟩ = some (.string ⟨#[]⟩) := by rw [cell_of_row _ _ 6 _ _ (0, 0) gp8]; rfl
  have HBE := Lib.hid bb8
  clear gp0 bb0 gp1 bb1 gp2 bb2 gp3 bb3 gp4 bb4 gp5 bb5 gp6 bb6 gp7 bb7 gp8 bb8 gq0 gq1 hb4 hne
  go_wp2_with fail
  exact bodyPost_ret (v := .agg #[.int .i64 2, .int .i64 op, .int .i64 D, .int .i64 0, .int .i64 0, .int .i32 N, .string ⟨#[]⟩]) (by simp [results, Tryd.results31, go_sem, *]) rfl ⟨rfl, by first | exact HBE.out | (rw [hp0] at HBE; exact HBE.out)⟩
theorem read_any (op f w : Nat) (hf : f ≤ 8) (hw : w < 4294967296) (W : World) :
    Calls Tryd.prog 31 #[.int .i64 op, .int .i64 f, .int .u32 w] W fun e w' => e = .returned (lnV (readF op f w)) ∧ Below W.heap.size W w' := by
  rcases nine f hf with rfl | rfl | rfl | rfl | rfl | rfl | rfl | rfl | rfl
  · exact read_f0 op w hw W
  · exact read_f1 op w hw W
  · exact read_f2 op w hw W
  · exact read_f3 op w hw W
  · exact read_f4 op w hw W
  · exact read_f5 op w hw W
  · exact read_f6 op w hw W
  · exact read_f7 op w hw W
  · exact read_f8 op w hw W
end Go.Proofs.YtonkpojoniehlaaDoor

