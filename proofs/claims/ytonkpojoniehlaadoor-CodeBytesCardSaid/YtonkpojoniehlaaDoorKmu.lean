/-
  Contract of code.Decode: the line of any word, or none.
-/
import Derived.Test.YtonkpojoniehlaaDoorKmt
namespace Go.Proofs.YtonkpojoniehlaaDoor
open Go.RowKit
set_option linter.unusedVariables false
set_option linter.unusedSimpArgs false
set_option maxRecDepth 100000

def zeroV : Value := .agg #[.int .i64 0, .int .i64 0, .int .i64 0, .int .i64 0, .int .i64 0, .int .i32 0, .string ⟨#[]⟩]
/-- What a word is decoded as, as a value. -/
def decV (o : Option Ins) : Value := match o with | some i => lnV i | none => zeroV
theorem find_first (p : Nat → Bool) (n k : Nat) (hk : k < n) (h : ∀ j, j < k → p j = false) (hp : p k = true) : (List.range n).find? p = some k := by
  rw [List.find?_range_eq_some]
  exact ⟨hp, List.mem_range.2 hk, fun j hj => by rw [h j hj]; rfl⟩
theorem dec_hit (w k : Nat) (hk : k < 31) (h : ∀ j, j < k → hitI j w = false) (hp : hitI k w = true) : decI w = some (readI k w) := by
  unfold decI
  rw [find_first (fun op => hitI op w) 31 k hk h hp]
  rfl
theorem dec_none (w : Nat) (h : ∀ j, j < 31 → hitI j w = false) : decI w = none := by
  unfold decI
  rw [List.find?_eq_none.2 (fun x hx => by rw [h x (List.mem_range.1 hx)]; decide)]
  rfl
theorem form8 (k : Nat) (h : k < 31) : formN k ≤ 8 := by
  have : ((List.range 31).all fun op => decide (formN op ≤ 8)) = true := by decide
  simpa using List.all_eq_true.1 this k (List.mem_range.2 h)
theorem readF_eq (k w : Nat) : readF k (formN k) w = readI k w := rfl

set_option maxHeartbeats 6400000 in
theorem decode_any (wd : Nat) (hw : wd < 4294967296) (W : World) (hR : RowsOk W) :
    Calls Tryd.prog 15 #[.int .u32 wd] W fun e w' => e = .returned (.tuple #[decV (decI wd), .bool (decI wd).isSome]) ∧ Below W.heap.size W w' := by
  have hwI : (wd : Int) < 4294967296 := by omega
  obtain ⟨p0, hp0⟩ : ∃ p0, W.heap.size = p0 := ⟨_, rfl⟩
  obtain ⟨Wa, hWa⟩ : ∃ Wa, W.alloc (.cells #[.int .i64 0, .int .i64 0, .int .i64 0, .int .i64 0, .int .i64 0, .int .i32 0, .string ⟨#[]⟩] 23) = Wa := ⟨_, rfl⟩
  have hBa : Below W.heap.size W Wa := by rw [← hWa]; exact (Below.refl _ _).alloc (Nat.le_refl _) _
  have hza : Wa.heap.size = p0 + 1 := by rw [← hWa, ← hp0]; simp
  have hzr : Wa.heap[p0]? = some (.cells #[.int .i64 0, .int .i64 0, .int .i64 0, .int .i64 0, .int .i64 0, .int .i32 0, .string ⟨#[]⟩] 23 (0, 0)) := by rw [← hWa, ← hp0]; exact heap_alloc_new W _
  have HBA := Lib.hid (And.intro hBa (And.intro hza (And.intro hzr (hR.below hBa))))
  clear hBa hza hzr hR
  go_enter Tryd.func15, Tryd.ntmps15
  go_wp2_with fail
  go_loopw [9] (fun i wr => ∃ k : Nat, k ≤ 31 ∧ i = .int .i64 k ∧ Hid (∀ j, j < k → hitI j wd = false) ∧ Hid (Below Wa.heap.size Wa wr)) (fun i _ => 31 - (intOf i).toNat)
  case atStart => exact ⟨0, by omega, rfl, Lib.hid (fun j hj => by omega), Lib.hid (Below.refl _ _)⟩
  case round =>
    obtain ⟨k, hk, rfl, HI, HBB⟩ := hrel
    rcases Nat.lt_or_ge k 31 with hkm | hkm
    · have hkm' : (k : Int) < 31 := by omega
      have hk0 : (0 : Int) ≤ (k : Int) := by omega
      have hRr := HBA.out.2.2.2.below (HBB.out)
      obtain ⟨z0, z1, z2, z3⟩ := hRr.2 k hkm
      have HRR := Lib.hid hRr
      rw [Nat.mul_comm] at z0 z1 z2 z3
      obtain ⟨r0, hr0⟩ : ∃ r0, wr.heap.size = r0 := ⟨_, rfl⟩
      obtain ⟨X, hX⟩ : ∃ X, wr.alloc (.cells #[.int .i64 (formN k), .int .u32 (lowN k), .int .u32 (midN k), .int .u32 (highN k)] 55) = X := ⟨_, rfl⟩
      have hbX : Below wr.heap.size wr X := by rw [← hX]; exact (Below.refl _ _).alloc (Nat.le_refl _) _
      have hXc : ∀ W', Below X.heap.size X W' → ∀ i v, (#[.int .i64 (formN k), .int .u32 (lowN k), .int .u32 (midN k), .int .u32 (highN k)] : Array Value)[i]? = some v → W'.cell? ⟨r0, i, none⟩ = some v := fun W' hb i v hj => by
        refine (hb.cell (p := ⟨r0, i, none⟩) (by rw [← hr0, ← hX]; simp)).trans ?_
        rw [← hr0, ← hX, cell_of_row _ _ i _ _ (0, 0) (heap_alloc_new wr _)]
        exact hj
      have HSX : Hid (∀ W', Below X.heap.size X W' → (fun w : World => w.cell? ⟨r0, 0, none⟩ = some (.int .i64 (formN k)) ∧ w.cell? ⟨r0, 1, none⟩ = some (.int .u32 (lowN k)) ∧ w.cell? ⟨r0, 2, none⟩ = some (.int .u32 (midN k)) ∧ w.cell? ⟨r0, 3, none⟩ = some (.int .u32 (highN k))) W') := Lib.hid (fun W' hb => ⟨hXc _ hb 0 _ rfl, hXc _ hb 1 _ rfl, hXc _ hb 2 _ rfl, hXc _ hb 3 _ rfl⟩)
      have HBX : Hid (Below Wa.heap.size Wa X) := Lib.hid (HBB.out.trans (hbX.mono HBB.out.size))
      have HRX := Lib.hid (hRr.below hbX)
      have q0 := HSX.out X.drew (Below.refl _ X).drew
      have hSeen := seen_any (formN k) wd (form8 k hkm) hw
      clear hbX hXc hRr
      by_cases hst : stampN k = seenN (formN k) wd
      · have h1 : (seenN (formN k) wd).1 = lowN k := by rw [← hst]; rfl
        have h2 : (seenN (formN k) wd).2.1 = midN k := by rw [← hst]; rfl
        have h3 : (seenN (formN k) wd).2.2 = highN k := by rw [← hst]; rfl
        rw [h1, h2, h3] at hSeen
        have HS := Lib.hid hSeen
        have HRd := Lib.hid (read_any k (formN k) wd (form8 k hkm) hw)
        obtain ⟨i, hi⟩ : ∃ i, readI k wd = i := ⟨_, rfl⟩
        have hb1 : -2147483648 ≤ i.n ∧ i.n ≤ 2147483647 := by rw [← hi]; exact num_bd (formN k) wd
        have hEn : ∀ w, RowsOk w → _ := fun w hR => encode_any 2 i.op i.d i.a i.b i.n ⟨#[]⟩ hb1.1 hb1.2 w hR
        have e0 : encV 2 ⟨#[]⟩ ⟨i.op, i.d, i.a, i.b, i.n⟩ = encI i := if_pos ⟨rfl, by rw [ba_toList19]⟩
        rw [e0] at hEn
        rw [readF_eq, hi] at HRd
        have hHit : hitI k wd = (encI i == some wd) := by unfold hitI; rw [hst, hi]; simp
        have HH := Lib.hid hHit
        have HIi := Lib.hid hi
        generalize encI i = E at *
        have hlV : lnV i = .agg #[.int .i64 2, .int .i64 i.op, .int .i64 i.d, .int .i64 i.a, .int .i64 i.b, .int .i32 i.n, .string ⟨#[]⟩] := rfl
        rw [hlV] at HRd
        clear hst h1 h2 h3 hSeen e0 hHit hi hb1 hlV
        cases E with
        | none =>
          simp only [Option.getD_none, Option.isSome_none] at hEn
          have HEn := Lib.hid hEn
          have HST : Hid (∀ j, j < k + 1 → hitI j wd = false) := Lib.hid (fun j hj => by
            rcases Nat.lt_or_ge j k with q | q
            · exact HI.out j q
            · obtain rfl : j = k := by omega
              rw [HH.out]; rfl)
          clear hEn
          go_wp2_with fail
          go_region_held3 (fun w : World => w.cell? ⟨r0, 0, none⟩ = some (.int .i64 (formN k)) ∧ w.cell? ⟨r0, 1, none⟩ = some (.int .u32 (lowN k)) ∧ w.cell? ⟨r0, 2, none⟩ = some (.int .u32 (midN k)) ∧ w.cell? ⟨r0, 3, none⟩ = some (.int .u32 (highN k))) (first | exact q0 | exact q1) (first | (go_at_call 30; (with_reducible refine (HS.out _).mono ?_); rintro e w2 ⟨rfl, hb2⟩; have hbd := (Below.refl X.heap.size X).drew.trans hb2; have q1 := HSX.out w2 hbd; have HB2 := Lib.hid hbd; clear hb2 hbd))
          go_wp2_with fail
          refine (HRd.out _).mono ?_
          rintro e w3 ⟨rfl, hb3⟩
          go_wp2_with fail
          obtain ⟨q, hq⟩ : ∃ q, w3.heap.size = q := ⟨_, rfl⟩
          obtain ⟨V, hV⟩ : ∃ V, w3.alloc (.cells #[.int .i64 2, .int .i64 i.op, .int .i64 i.d, .int .i64 i.a, .int .i64 i.b, .int .i32 i.n, .string ⟨#[]⟩] 23) = V := ⟨_, rfl⟩
          have hbV : Below w3.heap.size w3 V := by rw [← hV]; exact (Below.refl _ _).alloc (Nat.le_refl _) _
          have hLn : LnAt V q 2 i.op i.d i.a i.b i.n ⟨#[]⟩ := by rw [← hV, ← hq]; exact LnAt.new _ _ _ _ _ _ _ _ _
          have hB3 := HB2.out.trans (hb3.mono HB2.out.size)
          have hBV : Below X.heap.size X V := hB3.trans (hbV.mono hB3.size)
          rw [hV]
          refine (HEn.out _ (HRX.out.below hBV)).mono ?_
          rintro e w4 ⟨rfl, hb4⟩
          obtain ⟨-, y0, y1, y2, y3, y4, y5, y6⟩ := hLn.below hb4
          have HB5 : Hid (Below Wa.heap.size Wa w4) := Lib.hid (HBX.out.trans ((hBV.trans (hb4.mono hBV.size)).mono HBX.out.size))
          clear hb3 hbV hLn hB3 hBV hb4
          go_wp2_with fail
          go_roundw
          case rel => exact ⟨k + 1, by omega, by go_num, HST, HB5⟩
          case measure => simp [intOf] <;> omega
        | some v =>
          simp only [Option.getD_some, Option.isSome_some] at hEn
          have HEn := Lib.hid hEn
          clear hEn
          by_cases hv : v = wd
          · subst hv
            have HD : Hid (decI v = some i) := Lib.hid (by rw [dec_hit v k hkm HI.out (by rw [HH.out]; simp), HIi.out])
            go_wp2_with fail
            go_region_held3 (fun w : World => w.cell? ⟨r0, 0, none⟩ = some (.int .i64 (formN k)) ∧ w.cell? ⟨r0, 1, none⟩ = some (.int .u32 (lowN k)) ∧ w.cell? ⟨r0, 2, none⟩ = some (.int .u32 (midN k)) ∧ w.cell? ⟨r0, 3, none⟩ = some (.int .u32 (highN k))) (first | exact q0 | exact q1) (first | (go_at_call 30; (with_reducible refine (HS.out _).mono ?_); rintro e w2 ⟨rfl, hb2⟩; have hbd := (Below.refl X.heap.size X).drew.trans hb2; have q1 := HSX.out w2 hbd; have HB2 := Lib.hid hbd; clear hb2 hbd))
            go_wp2_with fail
            refine (HRd.out _).mono ?_
            rintro e w3 ⟨rfl, hb3⟩
            go_wp2_with fail
            obtain ⟨q, hq⟩ : ∃ q, w3.heap.size = q := ⟨_, rfl⟩
            obtain ⟨V, hV⟩ : ∃ V, w3.alloc (.cells #[.int .i64 2, .int .i64 i.op, .int .i64 i.d, .int .i64 i.a, .int .i64 i.b, .int .i32 i.n, .string ⟨#[]⟩] 23) = V := ⟨_, rfl⟩
            have hbV : Below w3.heap.size w3 V := by rw [← hV]; exact (Below.refl _ _).alloc (Nat.le_refl _) _
            have hLn : LnAt V q 2 i.op i.d i.a i.b i.n ⟨#[]⟩ := by rw [← hV, ← hq]; exact LnAt.new _ _ _ _ _ _ _ _ _
            have hB3 := HB2.out.trans (hb3.mono HB2.out.size)
            have hBV : Below X.heap.size X V := hB3.trans (hbV.mono hB3.size)
            rw [hV]
            refine (HEn.out _ (HRX.out.below hBV)).mono ?_
            rintro e w4 ⟨rfl, hb4⟩
            obtain ⟨-, y0, y1, y2, y3, y4, y5, y6⟩ := hLn.below hb4
            have HB5 : Hid (Below Wa.heap.size Wa w4) := Lib.hid (HBX.out.trans ((hBV.trans (hb4.mono hBV.size)).mono HBX.out.size))
            clear hb3 hbV hLn hB3 hBV hb4
            have gp0 : w4.heap[p0]? = some (.cells #[.int .i64 0, .int .i64 0, .int .i64 0, .int .i64 0, .int .i64 0, .int .i32 0, .string ⟨#[]⟩] 23 (0, 0)) := (HB5.out.block p0 (by have := HBA.out.2.1; omega)).trans HBA.out.2.2.1
            have bb0 : Below W.heap.size W w4 := HBA.out.1.trans (HB5.out.mono HBA.out.1.size)
            have e0 : w4.cell? ⟨p0, 0, none⟩ = some (.int .i64 0) := by rw [cell_of_row _ _ 0 _ _ (0, 0) gp0]; rfl
            have fp0 := frozen_of_row _ p0 0 _ _ gp0
            obtain ⟨Y1, hY1⟩ : ∃ X, w4.setCell ⟨p0, 0, none⟩ (.int .i64 2) = X := ⟨_, rfl⟩
            have gY1 : Y1.heap[p0]? = some (.cells #[.int .i64 2, .int .i64 0, .int .i64 0, .int .i64 0, .int .i64 0, .int .i32 0, .string ⟨#[]⟩] 23 (0, 0)) := by rw [← hY1]; exact heap_setCell_same _ _ _ _ _ _ gp0
            have bY1 : Below W.heap.size W Y1 := by rw [← hY1]; exact bb0.setCell (by show _ ≤ p0; omega) _
            have e1 : Y1.cell? ⟨p0, 1, none⟩ = some (.int .i64 0) := by rw [cell_of_row _ _ 1 _ _ (0, 0) gY1]; rfl
            have fp1 := frozen_of_row _ p0 1 _ _ gY1
            obtain ⟨Y2, hY2⟩ : ∃ X, Y1.setCell ⟨p0, 1, none⟩ (.int .i64 i.op) = X := ⟨_, rfl⟩
            have gY2 : Y2.heap[p0]? = some (.cells #[.int .i64 2, .int .i64 i.op, .int .i64 0, .int .i64 0, .int .i64 0, .int .i32 0, .string ⟨#[]⟩] 23 (0, 0)) := by rw [← hY2]; exact heap_setCell_same _ _ _ _ _ _ gY1
            have bY2 : Below W.heap.size W Y2 := by rw [← hY2]; exact bY1.setCell (by show _ ≤ p0; omega) _
            have e2 : Y2.cell? ⟨p0, 2, none⟩ = some (.int .i64 0) := by rw [cell_of_row _ _ 2 _ _ (0, 0) gY2]; rfl
            have fp2 := frozen_of_row _ p0 2 _ _ gY2
            obtain ⟨Y3, hY3⟩ : ∃ X, Y2.setCell ⟨p0, 2, none⟩ (.int .i64 i.d) = X := ⟨_, rfl⟩
            have gY3 : Y3.heap[p0]? = some (.cells #[.int .i64 2, .int .i64 i.op, .int .i64 i.d, .int .i64 0, .int .i64 0, .int .i32 0, .string ⟨#[]⟩] 23 (0, 0)) := by rw [← hY3]; exact heap_setCell_same _ _ _ _ _ _ gY2
            have bY3 : Below W.heap.size W Y3 := by rw [← hY3]; exact bY2.setCell (by show _ ≤ p0; omega) _
            have e3 : Y3.cell? ⟨p0, 3, none⟩ = some (.int .i64 0) := by rw [cell_of_row _ _ 3 _ _ (0, 0) gY3]; rfl
            have fp3 := frozen_of_row _ p0 3 _ _ gY3
            obtain ⟨Y4, hY4⟩ : ∃ X, Y3.setCell ⟨p0, 3, none⟩ (.int .i64 i.a) = X := ⟨_, rfl⟩
            have gY4 : Y4.heap[p0]? = some (.cells #[.int .i64 2, .int .i64 i.op, .int .i64 i.d, .int .i64 i.a, .int .i64 0, .int .i32 0, .string ⟨#[]⟩] 23 (0, 0)) := by rw [← hY4]; exact heap_setCell_same _ _ _ _ _ _ gY3
            have bY4 : Below W.heap.size W Y4 := by rw [← hY4]; exact bY3.setCell (by show _ ≤ p0; omega) _
            have e4 : Y4.cell? ⟨p0, 4, none⟩ = some (.int .i64 0) := by rw [cell_of_row _ _ 4 _ _ (0, 0) gY4]; rfl
            have fp4 := frozen_of_row _ p0 4 _ _ gY4
            obtain ⟨Y5, hY5⟩ : ∃ X, Y4.setCell ⟨p0, 4, none⟩ (.int .i64 i.b) = X := ⟨_, rfl⟩
            have gY5 : Y5.heap[p0]? = some (.cells #[.int .i64 2, .int .i64 i.op, .int .i64 i.d, .int .i64 i.a, .int .i64 i.b, .int .i32 0, .string ⟨#[]⟩] 23 (0, 0)) := by rw [← hY5]; exact heap_setCell_same _ _ _ _ _ _ gY4
            have bY5 : Below W.heap.size W Y5 := by rw [← hY5]; exact bY4.setCell (by show _ ≤ p0; omega) _
            have e5 : Y5.cell? ⟨p0, 5, none⟩ = some (.int .i32 0) := by rw [cell_of_row _ _ 5 _ _ (0, 0) gY5]; rfl
            have fp5 := frozen_of_row _ p0 5 _ _ gY5
            obtain ⟨Y6, hY6⟩ : ∃ X, Y5.setCell ⟨p0, 5, none⟩ (.int .i32 i.n) = X := ⟨_, rfl⟩
            have gY6 : Y6.heap[p0]? = some (.cells #[.int .i64 2, .int .i64 i.op, .int .i64 i.d, .int .i64 i.a, .int .i64 i.b, .int .i32 i.n, .string ⟨#[]⟩] 23 (0, 0)) := by rw [← hY6]; exact heap_setCell_same _ _ _ _ _ _ gY5
            have bY6 : Below W.heap.size W Y6 := by rw [← hY6]; exact bY5.setCell (by show _ ≤ p0; omega) _
            have e6 : Y6.cell? ⟨p0, 6, none⟩ = some (.string ⟨#[]⟩) := by rw [cell_of_row _ _ 6 _ _ (0, 0) gY6]; rfl
            have fp6 := frozen_of_row _ p0 6 _ _ gY6
            obtain ⟨Y7, hY7⟩ : ∃ X, Y6.setCell ⟨p0, 6, none⟩ (.string ⟨#[]⟩) = X := ⟨_, rfl⟩
            have gY7 : Y7.heap[p0]? = some (.cells #[.int .i64 2, .int .i64 i.op, .int .i64 i.d, .int .i64 i.a, .int .i64 i.b, .int .i32 i.n, .string ⟨#[]⟩] 23 (0, 0)) := by rw [← hY7]; exact heap_setCell_same _ _ _ _ _ _ gY6
            have bY7 : Below W.heap.size W Y7 := by rw [← hY7]; exact bY6.setCell (by show _ ≤ p0; omega) _
            have r0 : Y7.cell? ⟨p0, 0, none⟩ = some (.int .i64 2) := by rw [cell_of_row _ _ 0 _ _ (0, 0) gY7]; rfl
            have r1 : Y7.cell? ⟨p0, 1, none⟩ = some (.int .i64 i.op) := by rw [cell_of_row _ _ 1 _ _ (0, 0) gY7]; rfl
            have r2 : Y7.cell? ⟨p0, 2, none⟩ = some (.int .i64 i.d) := by rw [cell_of_row _ _ 2 _ _ (0, 0) gY7]; rfl
            have r3 : Y7.cell? ⟨p0, 3, none⟩ = some (.int .i64 i.a) := by rw [cell_of_row _ _ 3 _ _ (0, 0) gY7]; rfl
            have r4 : Y7.cell? ⟨p0, 4, none⟩ = some (.int .i64 i.b) := by rw [cell_of_row _ _ 4 _ _ (0, 0) gY7]; rfl
            have r5 : Y7.cell? ⟨p0, 5, none⟩ = some (.int .i32 i.n) := by rw [cell_of_row _ _ 5 _ _ (0, 0) gY7]; rfl
            have r6 : Y7.cell? ⟨p0, 6, none⟩ = some (.string ⟨#[]⟩) := by rw [cell_of_row _ _ 6 _ _ (0, 0) gY7]; rfl
            have HBE := Lib.hid bY7
            clear gY1 bY1 gY2 bY2 gY3 bY3 gY4 bY4 gY5 bY5 gY6 bY6 gY7 bY7
            go_wp2_with fail
            have hD := HD.out
            rw [hD]
            exact bodyPost_ret (v := .tuple #[.agg #[.int .i64 2, .int .i64 i.op, .int .i64 i.d, .int .i64 i.a, .int .i64 i.b, .int .i32 i.n, .string ⟨#[]⟩], .bool true]) (by simp [results, Tryd.results15, go_sem, *]) rfl ⟨rfl, by first | exact HBE.out | (rw [hp0] at HBE; exact HBE.out)⟩
          · have hvb : ((v : Int) == (wd : Int)) = false := by simp; omega
            have HST : Hid (∀ j, j < k + 1 → hitI j wd = false) := Lib.hid (fun j hj => by
              rcases Nat.lt_or_ge j k with q | q
              · exact HI.out j q
              · obtain rfl : j = k := by omega
                rw [HH.out]; simp [hv])
            go_wp2_with fail
            go_region_held3 (fun w : World => w.cell? ⟨r0, 0, none⟩ = some (.int .i64 (formN k)) ∧ w.cell? ⟨r0, 1, none⟩ = some (.int .u32 (lowN k)) ∧ w.cell? ⟨r0, 2, none⟩ = some (.int .u32 (midN k)) ∧ w.cell? ⟨r0, 3, none⟩ = some (.int .u32 (highN k))) (first | exact q0 | exact q1) (first | (go_at_call 30; (with_reducible refine (HS.out _).mono ?_); rintro e w2 ⟨rfl, hb2⟩; have hbd := (Below.refl X.heap.size X).drew.trans hb2; have q1 := HSX.out w2 hbd; have HB2 := Lib.hid hbd; clear hb2 hbd))
            go_wp2_with fail
            refine (HRd.out _).mono ?_
            rintro e w3 ⟨rfl, hb3⟩
            go_wp2_with fail
            obtain ⟨q, hq⟩ : ∃ q, w3.heap.size = q := ⟨_, rfl⟩
            obtain ⟨V, hV⟩ : ∃ V, w3.alloc (.cells #[.int .i64 2, .int .i64 i.op, .int .i64 i.d, .int .i64 i.a, .int .i64 i.b, .int .i32 i.n, .string ⟨#[]⟩] 23) = V := ⟨_, rfl⟩
            have hbV : Below w3.heap.size w3 V := by rw [← hV]; exact (Below.refl _ _).alloc (Nat.le_refl _) _
            have hLn : LnAt V q 2 i.op i.d i.a i.b i.n ⟨#[]⟩ := by rw [← hV, ← hq]; exact LnAt.new _ _ _ _ _ _ _ _ _
            have hB3 := HB2.out.trans (hb3.mono HB2.out.size)
            have hBV : Below X.heap.size X V := hB3.trans (hbV.mono hB3.size)
            rw [hV]
            refine (HEn.out _ (HRX.out.below hBV)).mono ?_
            rintro e w4 ⟨rfl, hb4⟩
            obtain ⟨-, y0, y1, y2, y3, y4, y5, y6⟩ := hLn.below hb4
            have HB5 : Hid (Below Wa.heap.size Wa w4) := Lib.hid (HBX.out.trans ((hBV.trans (hb4.mono hBV.size)).mono HBX.out.size))
            clear hb3 hbV hLn hB3 hBV hb4
            go_wp2_with fail
            go_roundw
            case rel => exact ⟨k + 1, by omega, by go_num, HST, HB5⟩
            case measure => simp [intOf] <;> omega
      · have HS := Lib.hid hSeen
        have HST : Hid (∀ j, j < k + 1 → hitI j wd = false) := Lib.hid (fun j hj => by
          rcases Nat.lt_or_ge j k with q | q
          · exact HI.out j q
          · obtain rfl : j = k := by omega
            unfold hitI
            rw [show (stampN j == seenN (formN j) wd) = false from by simpa using hst]
            rfl)
        have hne : ¬ (lowN k = (seenN (formN k) wd).1 ∧ midN k = (seenN (formN k) wd).2.1 ∧ highN k = (seenN (formN k) wd).2.2) := fun h => hst (by
          unfold stampN
          rw [h.1, h.2.1, h.2.2])
        generalize (seenN (formN k) wd).1 = s1 at *
        generalize (seenN (formN k) wd).2.1 = s2 at *
        generalize (seenN (formN k) wd).2.2 = s3 at *
        clear hst hSeen
        by_cases h1 : lowN k = s1
        · have c1 : ((lowN k : Int) == (s1 : Int)) = true := by simp; omega
          by_cases h2 : midN k = s2
          · have h3 : ¬ highN k = s3 := fun h => hne ⟨h1, h2, h⟩
            have c2 : ((midN k : Int) == (s2 : Int)) = true := by simp; omega
            have c3 : ((highN k : Int) == (s3 : Int)) = false := by simp; omega
            clear hne h1 h2 h3

            go_wp2_with fail
            go_region_held3 (fun w : World => w.cell? ⟨r0, 0, none⟩ = some (.int .i64 (formN k)) ∧ w.cell? ⟨r0, 1, none⟩ = some (.int .u32 (lowN k)) ∧ w.cell? ⟨r0, 2, none⟩ = some (.int .u32 (midN k)) ∧ w.cell? ⟨r0, 3, none⟩ = some (.int .u32 (highN k))) (first | exact q0 | exact q1) (first | (go_at_call 30; (with_reducible refine (HS.out _).mono ?_); rintro e w2 ⟨rfl, hb2⟩; have hbd := (Below.refl X.heap.size X).drew.trans hb2; have q1 := HSX.out w2 hbd; have HB2 := Lib.hid hbd; clear hb2 hbd))
            go_wp2_with fail
            go_roundw
            case rel => exact ⟨k + 1, by omega, by go_num, HST, Lib.hid (HBX.out.trans (HB2.out.mono HBX.out.size))⟩
            case measure => simp [intOf] <;> omega
          · have c2 : ((midN k : Int) == (s2 : Int)) = false := by simp; omega
            clear hne h1 h2

            go_wp2_with fail
            go_region_held3 (fun w : World => w.cell? ⟨r0, 0, none⟩ = some (.int .i64 (formN k)) ∧ w.cell? ⟨r0, 1, none⟩ = some (.int .u32 (lowN k)) ∧ w.cell? ⟨r0, 2, none⟩ = some (.int .u32 (midN k)) ∧ w.cell? ⟨r0, 3, none⟩ = some (.int .u32 (highN k))) (first | exact q0 | exact q1) (first | (go_at_call 30; (with_reducible refine (HS.out _).mono ?_); rintro e w2 ⟨rfl, hb2⟩; have hbd := (Below.refl X.heap.size X).drew.trans hb2; have q1 := HSX.out w2 hbd; have HB2 := Lib.hid hbd; clear hb2 hbd))
            go_wp2_with fail
            go_roundw
            case rel => exact ⟨k + 1, by omega, by go_num, HST, Lib.hid (HBX.out.trans (HB2.out.mono HBX.out.size))⟩
            case measure => simp [intOf] <;> omega
        · have c1 : ((lowN k : Int) == (s1 : Int)) = false := by simp; omega
          clear hne h1

          go_wp2_with fail
          go_region_held3 (fun w : World => w.cell? ⟨r0, 0, none⟩ = some (.int .i64 (formN k)) ∧ w.cell? ⟨r0, 1, none⟩ = some (.int .u32 (lowN k)) ∧ w.cell? ⟨r0, 2, none⟩ = some (.int .u32 (midN k)) ∧ w.cell? ⟨r0, 3, none⟩ = some (.int .u32 (highN k))) (first | exact q0 | exact q1) (first | (go_at_call 30; (with_reducible refine (HS.out _).mono ?_); rintro e w2 ⟨rfl, hb2⟩; have hbd := (Below.refl X.heap.size X).drew.trans hb2; have q1 := HSX.out w2 hbd; have HB2 := Lib.hid hbd; clear hb2 hbd))
          go_wp2_with fail
          go_roundw
          case rel => exact ⟨k + 1, by omega, by go_num, HST, Lib.hid (HBX.out.trans (HB2.out.mono HBX.out.size))⟩
          case measure => simp [intOf] <;> omega
    · obtain rfl : k = 31 := by omega
      have HD : Hid (decI wd = none) := Lib.hid (dec_none wd HI.out)
      have gp0 : wr.heap[p0]? = some (.cells #[.int .i64 0, .int .i64 0, .int .i64 0, .int .i64 0, .int .i64 0, .int .i32 0, .string ⟨#[]⟩] 23 (0, 0)) := (HBB.out.block p0 (by have := HBA.out.2.1; omega)).trans HBA.out.2.2.1
      have bb0 : Below W.heap.size W wr := HBA.out.1.trans (HBB.out.mono HBA.out.1.size)
      have e0 : wr.cell? ⟨p0, 0, none⟩ = some (.int .i64 0) := by rw [cell_of_row _ _ 0 _ _ (0, 0) gp0]; rfl
      have fp0 := frozen_of_row _ p0 0 _ _ gp0
      obtain ⟨Y1, hY1⟩ : ∃ X, wr.setCell ⟨p0, 0, none⟩ (.int .i64 0) = X := ⟨_, rfl⟩
      have gY1 : Y1.heap[p0]? = some (.cells #[.int .i64 0, .int .i64 0, .int .i64 0, .int .i64 0, .int .i64 0, .int .i32 0, .string ⟨#[]⟩] 23 (0, 0)) := by rw [← hY1]; exact heap_setCell_same _ _ _ _ _ _ gp0
      have bY1 : Below W.heap.size W Y1 := by rw [← hY1]; exact bb0.setCell (by show _ ≤ p0; omega) _
      have e1 : Y1.cell? ⟨p0, 1, none⟩ = some (.int .i64 0) := by rw [cell_of_row _ _ 1 _ _ (0, 0) gY1]; rfl
      have fp1 := frozen_of_row _ p0 1 _ _ gY1
      obtain ⟨Y2, hY2⟩ : ∃ X, Y1.setCell ⟨p0, 1, none⟩ (.int .i64 0) = X := ⟨_, rfl⟩
      have gY2 : Y2.heap[p0]? = some (.cells #[.int .i64 0, .int .i64 0, .int .i64 0, .int .i64 0, .int .i64 0, .int .i32 0, .string ⟨#[]⟩] 23 (0, 0)) := by rw [← hY2]; exact heap_setCell_same _ _ _ _ _ _ gY1
      have bY2 : Below W.heap.size W Y2 := by rw [← hY2]; exact bY1.setCell (by show _ ≤ p0; omega) _
      have e2 : Y2.cell? ⟨p0, 2, none⟩ = some (.int .i64 0) := by rw [cell_of_row _ _ 2 _ _ (0, 0) gY2]; rfl
      have fp2 := frozen_of_row _ p0 2 _ _ gY2
      obtain ⟨Y3, hY3⟩ : ∃ X, Y2.setCell ⟨p0, 2, none⟩ (.int .i64 0) = X := ⟨_, rfl⟩
      have gY3 : Y3.heap[p0]? = some (.cells #[.int .i64 0, .int .i64 0, .int .i64 0, .int .i64 0, .int .i64 0, .int .i32 0, .string ⟨#[]⟩] 23 (0, 0)) := by rw [← hY3]; exact heap_setCell_same _ _ _ _ _ _ gY2
      have bY3 : Below W.heap.size W Y3 := by rw [← hY3]; exact bY2.setCell (by show _ ≤ p0; omega) _
      have e3 : Y3.cell? ⟨p0, 3, none⟩ = some (.int .i64 0) := by rw [cell_of_row _ _ 3 _ _ (0, 0) gY3]; rfl
      have fp3 := frozen_of_row _ p0 3 _ _ gY3
      obtain ⟨Y4, hY4⟩ : ∃ X, Y3.setCell ⟨p0, 3, none⟩ (.int .i64 0) = X := ⟨_, rfl⟩
      have gY4 : Y4.heap[p0]? = some (.cells #[.int .i64 0, .int .i64 0, .int .i64 0, .int .i64 0, .int .i64 0, .int .i32 0, .string ⟨#[]⟩] 23 (0, 0)) := by rw [← hY4]; exact heap_setCell_same _ _ _ _ _ _ gY3
      have bY4 : Below W.heap.size W Y4 := by rw [← hY4]; exact bY3.setCell (by show _ ≤ p0; omega) _
      have e4 : Y4.cell? ⟨p0, 4, none⟩ = some (.int .i64 0) := by rw [cell_of_row _ _ 4 _ _ (0, 0) gY4]; rfl
      have fp4 := frozen_of_row _ p0 4 _ _ gY4
      obtain ⟨Y5, hY5⟩ : ∃ X, Y4.setCell ⟨p0, 4, none⟩ (.int .i64 0) = X := ⟨_, rfl⟩
      have gY5 : Y5.heap[p0]? = some (.cells #[.int .i64 0, .int .i64 0, .int .i64 0, .int .i64 0, .int .i64 0, .int .i32 0, .string ⟨#[]⟩] 23 (0, 0)) := by rw [← hY5]; exact heap_setCell_same _ _ _ _ _ _ gY4
      have bY5 : Below W.heap.size W Y5 := by rw [← hY5]; exact bY4.setCell (by show _ ≤ p0; omega) _
      have e5 : Y5.cell? ⟨p0, 5, none⟩ = some (.int .i32 0) := by rw [cell_of_row _ _ 5 _ _ (0, 0) gY5]; rfl
      have fp5 := frozen_of_row _ p0 5 _ _ gY5
      obtain ⟨Y6, hY6⟩ : ∃ X, Y5.setCell ⟨p0, 5, none⟩ (.int .i32 0) = X := ⟨_, rfl⟩
      have gY6 : Y6.heap[p0]? = some (.cells #[.int .i64 0, .int .i64 0, .int .i64 0, .int .i64 0, .int .i64 0, .int .i32 0, .string ⟨#[]⟩] 23 (0, 0)) := by rw [← hY6]; exact heap_setCell_same _ _ _ _ _ _ gY5
      have bY6 : Below W.heap.size W Y6 := by rw [← hY6]; exact bY5.setCell (by show _ ≤ p0; omega) _
      have e6 : Y6.cell? ⟨p0, 6, none⟩ = some (.string ⟨#[]⟩) := by rw [cell_of_row _ _ 6 _ _ (0, 0) gY6]; rfl
      have fp6 := frozen_of_row _ p0 6 _ _ gY6
      obtain ⟨Y7, hY7⟩ : ∃ X, Y6.setCell ⟨p0, 6, none⟩ (.string ⟨#[]⟩) = X := ⟨_, rfl⟩
      have gY7 : Y7.heap[p0]? = some (.cells #[.int .i64 0, .int .i64 0, .int .i64 0, .int .i64 0, .int .i64 0, .int .i32 0, .string ⟨#[]⟩] 23 (0, 0)) := by rw [← hY7]; exact heap_setCell_same _ _ _ _ _ _ gY6
      have bY7 : Below W.heap.size W Y7 := by rw [← hY7]; exact bY6.setCell (by show _ ≤ p0; omega) _
      have r0 : Y7.cell? ⟨p0, 0, none⟩ = some (.int .i64 0) := by rw [cell_of_row _ _ 0 _ _ (0, 0) gY7]; rfl
      have r1 : Y7.cell? ⟨p0, 1, none⟩ = some (.int .i64 0) := by rw [cell_of_row _ _ 1 _ _ (0, 0) gY7]; rfl
      have r2 : Y7.cell? ⟨p0, 2, none⟩ = some (.int .i64 0) := by rw [cell_of_row _ _ 2 _ _ (0, 0) gY7]; rfl
      have r3 : Y7.cell? ⟨p0, 3, none⟩ = some (.int .i64 0) := by rw [cell_of_row _ _ 3 _ _ (0, 0) gY7]; rfl
      have r4 : Y7.cell? ⟨p0, 4, none⟩ = some (.int .i64 0) := by rw [cell_of_row _ _ 4 _ _ (0, 0) gY7]; rfl
      have r5 : Y7.cell? ⟨p0, 5, none⟩ = some (.int .i32 0) := by rw [cell_of_row _ _ 5 _ _ (0, 0) gY7]; rfl
      have r6 : Y7.cell? ⟨p0, 6, none⟩ = some (.string ⟨#[]⟩) := by rw [cell_of_row _ _ 6 _ _ (0, 0) gY7]; rfl
      have HBE := Lib.hid bY7
      clear gY1 bY1 gY2 bY2 gY3 bY3 gY4 bY4 gY5 bY5 gY6 bY6 gY7 bY7
      go_wp2_with fail
      have hD := HD.out
      rw [hD]
      exact bodyPost_ret (v := .tuple #[.agg #[.int .i64 0, .int .i64 0, .int .i64 0, .int .i64 0, .int .i64 0, .int .i32 0, .string ⟨#[]⟩], .bool false]) (by simp [results, Tryd.results15, go_sem, *]) rfl ⟨rfl, by first | exact HBE.out | (rw [hp0] at HBE; exact HBE.out)⟩
end Go.Proofs.YtonkpojoniehlaaDoor
