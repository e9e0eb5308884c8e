/-
  Contract of code.Encode: an instruction that may be, without a symbol, has its word.
-/
import Derived.Test.YtonkpojoniehlaaDoorKmi
import Derived.Deep.RegionHeld3
namespace Go.Proofs.YtonkpojoniehlaaDoor
open Go.RowKit
set_option linter.unusedVariables false
set_option linter.unusedSimpArgs false
set_option maxRecDepth 100000

theorem laid_lt (f N : Nat) : laidN f N < 4294967296 := by
  have c := cut_lt N
  unfold laidN
  have c0 := c 0 12
  have c1 := c 0 5
  have c2 := c 5 7
  have c3 := c 1 4
  have c4 := c 5 6
  have c5 := c 11 1
  have c6 := c 12 1
  have c7 := c 0 20
  have c8 := c 1 10
  have c9 := c 12 8
  have c10 := c 20 1
  split
  · omega
  · split
    · omega
    · split
      · exact or_lt _ _ (by omega) (by omega)
      · split
        · exact or_lt _ _ (or_lt _ _ (or_lt _ _ (by omega) (by omega)) (by omega)) (by omega)
        · split
          · omega
          · split
            · exact or_lt _ _ (or_lt _ _ (or_lt _ _ (by omega) (by omega)) (by omega)) (by omega)
            · decide
theorem laid_of_form (f : Nat) (n : Int) (h1 : 1 ≤ f) (h8 : f ≤ 8) (W : World) :
    Calls Tryd.prog 28 #[.int .i64 f, .int .i32 n] W fun e w' => e = .returned (.int .u32 (laidN f (nat32 n) : Nat)) ∧ Below W.heap.size W w' := by
  have h : f = 1 ∨ f = 2 ∨ f = 3 ∨ f = 4 ∨ f = 5 ∨ f = 6 ∨ f = 7 ∨ f = 8 := by omega
  rcases h with rfl | rfl | rfl | rfl | rfl | rfl | rfl | rfl
  · exact laid_any1 n W
  · exact laid_any2 n W
  · exact laid_any3 n W
  · exact laid_any4 n W
  · exact laid_any5 n W
  · exact laid_any6 n W
  · exact laid_any7 n W
  · exact laid_any8 n W
theorem wrapu (D : Nat) (K : Int) (hD : D < 32) (h0 : 0 ≤ K) (hK : (D : Int) * K < 4294967296) : IntKind.u32.wrap (IntKind.u32.wrap (D : Int) * K) = (D : Int) * K := by
  have e : ∀ x : Int, IntKind.u32.wrap x = x % 4294967296 := fun x => rfl
  rw [e, e, show (D : Int) % 4294967296 = D from by omega, Int.emod_eq_of_lt (Int.mul_nonneg (by omega) h0) hK]
theorem or_all (S D A B L : Nat) (hS : S < 4294967296) (hD : D < 32) (hA : A < 32) (hB : B < 32) (hL : L < 4294967296) :
    bits .or .u32 (bits .or .u32 (bits .or .u32 (bits .or .u32 (S : Int) (IntKind.u32.wrap (IntKind.u32.wrap (D : Int) * 128))) (IntKind.u32.wrap (IntKind.u32.wrap (A : Int) * 32768))) (IntKind.u32.wrap (IntKind.u32.wrap (B : Int) * 1048576))) (L : Int) = ((S ||| D * 2 ^ 7 ||| A * 2 ^ 15 ||| B * 2 ^ 20 ||| L : Nat) : Int) := by
  have d : D * 2 ^ 7 < 4294967296 := by omega
  have a : A * 2 ^ 15 < 4294967296 := by omega
  have b : B * 2 ^ 20 < 4294967296 := by omega
  rw [wrapu D 128 hD (by decide) (by omega), wrapu A 32768 hA (by decide) (by omega), wrapu B 1048576 hB (by decide) (by omega), up_cast D 7 128 (by simp), up_cast A 15 32768 (by simp), up_cast B 20 1048576 (by simp), u32_or_nat _ _ hS d, u32_or_nat _ _ (or_lt _ _ hS d) a, u32_or_nat _ _ (or_lt _ _ (or_lt _ _ hS d) a) b,
    u32_or_nat _ _ (or_lt _ _ (or_lt _ _ (or_lt _ _ hS d) a) b) hL]
theorem stamp_lt (j : Nat) (h : j < 31) : lowN j < 4294967296 ∧ midN j * 2 ^ 12 < 4294967296 ∧ highN j * 2 ^ 25 < 4294967296 := by
  obtain ⟨a, b, c⟩ := op_lt h
  exact ⟨by omega, by omega, by omega⟩

set_option maxHeartbeats 3200000 in
theorem encode_ok (j D A B : Nat) (n : Int) (b1 : -2147483648 ≤ n) (b2 : n ≤ 2147483647) (h0 : 1 ≤ j) (h1 : j ≤ 30) (hD : D < 32) (hA : A < 32) (hB : B < 32) (h : mayI ⟨j, D, A, B, n⟩ = true) (w : World) (hR : RowsOk w) :
    Calls Tryd.prog 13 #[.agg #[.int .i64 2, .int .i64 j, .int .i64 D, .int .i64 A, .int .i64 B, .int .i32 n, .string ⟨#[]⟩]] w
      fun e w' => e = .returned (.tuple #[.int .u32 (encN j D A B (nat32 n) : Nat), .bool true]) ∧ Below w.heap.size w w' := by
  obtain ⟨s1, s2, s3⟩ := stamp_lt j (by omega)
  have hS : stampW (lowN j) (midN j) (highN j) < 4294967296 := or_lt _ _ (or_lt _ _ s1 s2) s3
  have hO := or_all _ D A B _ hS hD hA hB (laid_lt (formN j) (nat32 n))
  obtain ⟨⟨f1, f8⟩, -, -⟩ := op_form h0 (show j < 31 by omega)
  have H := fun w => mayLine_any j D A B n b1 b2 w
  rw [h] at H
  obtain ⟨v0, hv0⟩ : ∃ v0, w.heap.size = v0 := ⟨_, rfl⟩
  obtain ⟨W0, hW0⟩ : ∃ W0, w.alloc (.cells #[.int .i64 2, .int .i64 j, .int .i64 D, .int .i64 A, .int .i64 B, .int .i32 n, .string ⟨#[]⟩] 23) = W0 := ⟨_, rfl⟩
  have hB0 : Below w.heap.size w W0 := by rw [← hW0]; exact (Below.refl _ _).alloc (Nat.le_refl _) _
  have hcell : ∀ W', Below W0.heap.size W0 W' → ∀ i v, (#[Value.int .i64 2, .int .i64 j, .int .i64 D, .int .i64 A, .int .i64 B, .int .i32 n, .string ⟨#[]⟩] : Array Value)[i]? = some v → W'.cell? ⟨v0, i, none⟩ = some v := fun W' hb i v hj => by
    refine (hb.cell (p := ⟨v0, i, none⟩) (by rw [← hv0, ← hW0]; simp)).trans ?_
    rw [← hv0, ← hW0, cell_of_row _ _ i _ _ (0, 0) (heap_alloc_new w _)]
    exact hj
  have Bx : Below W0.heap.size W0 W0 := Below.refl _ _
  have x0 : W0.cell? ⟨v0, 0, none⟩ = some (.int .i64 2) := hcell _ Bx 0 _ rfl
  have x1 : W0.cell? ⟨v0, 1, none⟩ = some (.int .i64 j) := hcell _ Bx 1 _ rfl
  have x2 : W0.cell? ⟨v0, 2, none⟩ = some (.int .i64 D) := hcell _ Bx 2 _ rfl
  have x3 : W0.cell? ⟨v0, 3, none⟩ = some (.int .i64 A) := hcell _ Bx 3 _ rfl
  have x4 : W0.cell? ⟨v0, 4, none⟩ = some (.int .i64 B) := hcell _ Bx 4 _ rfl
  have x5 : W0.cell? ⟨v0, 5, none⟩ = some (.int .i32 n) := hcell _ Bx 5 _ rfl
  have x6 : W0.cell? ⟨v0, 6, none⟩ = some (.string ⟨#[]⟩) := hcell _ Bx 6 _ rfl
  have HM := Lib.hid H
  have HR := Lib.hid hR
  have HC := Lib.hid hcell
  have HB0 := Lib.hid hB0
  have HW := Lib.hid (word_any (lowN j) (midN j) (highN j) s1 s2 s3)
  have HL := Lib.hid (laid_of_form (formN j) n f1 f8)
  have HO := Lib.hid hO
  have HS : Hid (encN j D A B (nat32 n) = (stampW (lowN j) (midN j) (highN j) ||| D * 2 ^ 7 ||| A * 2 ^ 15 ||| B * 2 ^ 20 ||| laidN (formN j) (nat32 n))) := Lib.hid rfl
  have hj0 : (0 : Int) ≤ (j : Int) := by omega
  have hj1 : (j : Int) < 31 := by omega
  have hj2 : j < 31 := by omega
  have hd1 : (D : Int) < 32 := by omega
  have ha1 : (A : Int) < 32 := by omega
  have hb1 : (B : Int) < 32 := by omega
  clear H h hcell hB0 Bx hR s1 s2 s3 hS hO f1 f8
  generalize stampW (lowN j) (midN j) (highN j) = S at *
  generalize laidN (formN j) (nat32 n) = L at *
  generalize encN j D A B (nat32 n) = E at *
  go_enter Tryd.func13, Tryd.ntmps13
  go_wp2_with (go_at_call 20; (with_reducible refine (HM.out _).mono ?_); rintro e w1 ⟨rfl, hb1'⟩
               have y1 : w1.cell? ⟨v0, 1, none⟩ = some (.int .i64 j) := HC.out _ hb1' 1 _ rfl
               obtain ⟨z0, z1, z2, z3⟩ := (HR.out.below (HB0.out.trans (hb1'.mono HB0.out.size))).2 j hj2
               rw [Nat.mul_comm] at z0 z1 z2 z3
               obtain ⟨r0, hr0⟩ : ∃ r0, w1.heap.size = r0 := ⟨_, rfl⟩
               obtain ⟨X, hX⟩ : ∃ X, w1.alloc (.cells #[.int .i64 (formN j), .int .u32 (lowN j), .int .u32 (midN j), .int .u32 (highN j)] 55) = X := ⟨_, rfl⟩
               have hbX : Below w1.heap.size w1 X := by rw [← hX]; exact (Below.refl _ _).alloc (Nat.le_refl _) _
               have hXc : ∀ W', Below X.heap.size X W' → ∀ i v, (#[Value.int .i64 (formN j), .int .u32 (lowN j), .int .u32 (midN j), .int .u32 (highN j)] : Array Value)[i]? = some v → W'.cell? ⟨r0, i, none⟩ = some v := fun W' hb i v hj => by
                 refine (hb.cell (p := ⟨r0, i, none⟩) (by rw [← hr0, ← hX]; simp)).trans ?_
                 rw [← hr0, ← hX, cell_of_row _ _ i _ _ (0, 0) (heap_alloc_new w1 _)]
                 exact hj
               have HSX : Hid (∀ W', Below X.heap.size X W' → (fun w : World => w.cell? ⟨v0, 2, none⟩ = some (.int .i64 D) ∧ w.cell? ⟨v0, 3, none⟩ = some (.int .i64 A) ∧ w.cell? ⟨v0, 4, none⟩ = some (.int .i64 B) ∧ w.cell? ⟨v0, 5, none⟩ = some (.int .i32 n) ∧ w.cell? ⟨r0, 0, none⟩ = some (.int .i64 (formN j)) ∧ w.cell? ⟨r0, 1, none⟩ = some (.int .u32 (lowN j)) ∧ w.cell? ⟨r0, 2, none⟩ = some (.int .u32 (midN j)) ∧ w.cell? ⟨r0, 3, none⟩ = some (.int .u32 (highN j))) W') := Lib.hid (fun W' hb =>
                 have hb2 := hb1'.trans (hbX.trans (hb.mono hbX.size) |>.mono hb1'.size)
                 ⟨HC.out _ hb2 2 _ rfl, HC.out _ hb2 3 _ rfl, HC.out _ hb2 4 _ rfl, HC.out _ hb2 5 _ rfl, hXc _ hb 0 _ rfl, hXc _ hb 1 _ rfl, hXc _ hb 2 _ rfl, hXc _ hb 3 _ rfl⟩)
               have HBX := Lib.hid (HB0.out.trans ((hb1'.trans (hbX.mono hb1'.size)).mono HB0.out.size))
               have q0 := HSX.out X.drew (Below.refl _ X).drew
               clear hb1' hbX hXc)
  go_region_held3 (fun w : World => w.cell? ⟨v0, 2, none⟩ = some (.int .i64 D) ∧ w.cell? ⟨v0, 3, none⟩ = some (.int .i64 A) ∧ w.cell? ⟨v0, 4, none⟩ = some (.int .i64 B) ∧ w.cell? ⟨v0, 5, none⟩ = some (.int .i32 n) ∧ w.cell? ⟨r0, 0, none⟩ = some (.int .i64 (formN j)) ∧ w.cell? ⟨r0, 1, none⟩ = some (.int .u32 (lowN j)) ∧ w.cell? ⟨r0, 2, none⟩ = some (.int .u32 (midN j)) ∧ w.cell? ⟨r0, 3, none⟩ = some (.int .u32 (highN j))) (first | exact q0 | exact q1 | exact q2)
    (first
      | (go_at_call 27; (with_reducible refine (HW.out _).mono ?_); rintro e w2 ⟨rfl, hb2⟩; have hbd := (Below.refl X.heap.size X).drew.trans hb2; have q1 := HSX.out w2 hbd; have HB2 := Lib.hid hbd; clear hb2 hbd)
      | (go_at_call 28; (with_reducible refine (HL.out _).mono ?_); rintro e w3 ⟨rfl, hb3⟩; have hbd := HB2.out.trans (hb3.mono HB2.out.size); have q2 := HSX.out w3 hbd; have HB3 := Lib.hid hbd; clear hb3 hbd))
  go_wp2_with fail
  go_ret2
  exact ⟨by rw [HS.out, ← HO.out]; rfl, HBX.out.trans (HB3.out.mono HBX.out.size)⟩
end Go.Proofs.YtonkpojoniehlaaDoor
