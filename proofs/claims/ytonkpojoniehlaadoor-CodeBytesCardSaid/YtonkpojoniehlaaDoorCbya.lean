/-
  The walk of the law CodeBytes: it answers true and writes nothing that was there.
-/
import Derived.Test.YtonkpojoniehlaaDoorKmy
namespace Go.Proofs.YtonkpojoniehlaaDoor
open Go.RowKit
set_option linter.unusedVariables false
set_option linter.unusedSimpArgs false
set_option maxRecDepth 100000
set_option maxHeartbeats 12800000 in
theorem bytes_a (w : World) (A B : Option Addr) (n c m mc : Nat) (ls : List Ln) (zs : List Int) (hn : n ≤ c) (hc : c ≤ maxLen) (hm : m ≤ mc) (hmc : mc ≤ maxLen) (hN : n ≤ 60) (hM : m ≤ 300) (hl : LnsAt w A n ls) (hz : RowZ w B m zs) (hR : RowsOk w) :
    Calls Tryd.prog 7 #[.slice A n c, .slice B m mc] w fun e w' => e = .returned (.bool true) ∧ Below w.heap.size w w' := by
  have HL := Lib.hid hl
  have HZ := Lib.hid hz
  have HR := Lib.hid hR
  have hll : ls.length = n := hl.1
  have HLL := Lib.hid hll
  have hni : (n : Int) ≤ (60 : Int) := by omega
  clear hl hz hR hll
  go_enter Tryd.func7, Tryd.ntmps7
  go_wp2_with fail
  go_big_quiet (fail)
  go_wp2_with fail
  obtain ⟨w1, hw1⟩ : ∃ w1, w.drewN nq = w1 := ⟨_, rfl⟩
  rw [hw1]
  have hb1 : Below w.heap.size w w1 := by rw [← hw1]; exact below_drewN (Below.refl _ _) nq
  have HB1 := Lib.hid hb1
  clear hw1 hb1
  go_loopw [5, 30] (fun v i wr => ∃ k : Nat, k ≤ n ∧ i = .int .i64 k ∧ v = .bool (allE (ls.take k)) ∧ Hid (Below w.heap.size w wr)) (fun _ i _ => n - (intOf i).toNat)
  case atStart => exact ⟨0, by omega, rfl, rfl, HB1⟩
  case round =>
    obtain ⟨k, hk, rfl, rfl, HI⟩ := hrel
    rcases Nat.lt_or_ge k n with hlt | hge
    · have hlt' : (k : Int) < (n : Int) := by omega
      have hk0 : (0 : Int) ≤ (k : Int) := by omega
      obtain ⟨l, hl⟩ : ∃ l, ls[k]? = some l := ⟨_, List.getElem?_eq_getElem (by have := HLL.out; omega)⟩
      have hok := HL.out.2.1 l (List.mem_of_getElem? hl)
      obtain ⟨g, off, rfl, hg, hcc⟩ := (HL.out.below HI.out).2.2 (by omega)
      have hcell := hcc k l hl
      have hstep : allE (ls.take (k + 1)) = (allE (ls.take k) && l.enc.isSome) := by
        rw [List.take_add_one, hl]
        simp [allE]
      have HST := Lib.hid hstep
      obtain ⟨lk, lo, ld, la, lb, ln, lsym⟩ := l
      have d0 := hcell 0 _ rfl
      have d1 := hcell 1 _ rfl
      have d2 := hcell 2 _ rfl
      have d3 := hcell 3 _ rfl
      have d4 := hcell 4 _ rfl
      have d5 := hcell 5 _ rfl
      have d6 := hcell 6 _ rfl
      rw [Nat.add_zero] at d0
      have KE := rencode_any lk lo ld la lb ln lsym hok.1 hok.2
      have hE : (Ln.mk lk lo ld la lb ln lsym).enc = encV lk lsym ⟨lo, ld, la, lb, ln⟩ := rfl
      rw [hE] at HST
      clear hcell hcc hg hok hE hstep hl
      generalize (encV lk lsym ⟨lo, ld, la, lb, ln⟩).isSome = p at *
      generalize (encV lk lsym ⟨lo, ld, la, lb, ln⟩).getD 0 = v at *
      have HK := Lib.hid KE
      clear KE
      obtain ⟨q5, hq5⟩ : ∃ q, wr.heap.size = q := ⟨_, rfl⟩
      obtain ⟨X5, hX5⟩ : ∃ X, wr.alloc (.cells #[.int .i64 lk, .int .i64 lo, .int .i64 ld, .int .i64 la, .int .i64 lb, .int .i32 ln, .string lsym] 23) = X := ⟨_, rfl⟩
      have hbX : Below wr.heap.size wr X5 := by rw [← hX5]; exact (Below.refl _ _).alloc (Nat.le_refl _) _
      have hLn : LnAt X5 q5 lk lo ld la lb ln lsym := by rw [← hX5, ← hq5]; exact LnAt.new _ _ _ _ _ _ _ _ _
      obtain ⟨-, t0, t1, t2, t3, t4, t5, t6⟩ := hLn
      have HX := Lib.hid (HI.out.trans (hbX.mono HI.out.size))
      clear hbX
      by_cases hsz : (200 : Int) < (lsym.size : Int)
      · go_wp2_with (go_at_call 12; (with_reducible refine (lives19 _ (HR.out.below HX.out)).mono ?_); rintro e w9 ⟨rfl, hb⟩; have HB := Lib.hid (HX.out.trans (hb.mono HX.out.size)); clear hb)
        go_ret
        exact ⟨rfl, HB.out⟩
      · generalize allE (ls.take k) = q at *
        cases q <;> cases p
        all_goals
          go_wp2_with (go_at_call 14; (with_reducible refine (HK.out _).mono ?_); rintro e w6 ⟨rfl, hb⟩; have HB6 := Lib.hid (HX.out.trans (hb.mono HX.out.size)); clear hb)
          go_roundw
          case rel => exact ⟨k + 1, by omega, by go_num, by rw [HST.out]; rfl, HB6⟩
          case measure => simp [intOf] <;> omega
    · obtain rfl : k = n := by omega

      have hta : ls.take k = ls := List.take_of_length_le (by have := HLL.out; omega)
      rw [hta]
      have KB := bytes_any wr A k c ls (HL.out.below HI.out) (by omega) (HR.out.below HI.out)
      have HKB := Lib.hid KB
      clear KB hta
      cases hE : allE ls with
      | false =>
        go_wp2_with fail
        refine HKB.out.mono ?_
        rintro e w6 ⟨hO, hb⟩
        have HP := Lib.hid (HI.out.trans (hb.mono HI.out.size))
        clear hb
        rcases hO with ⟨ha, -⟩ | ⟨-, rfl⟩
        · rw [hE] at ha; cases ha
        clear hE HI
        go_wp2_with fail
        refine (lines_any _ B m mc zs (HZ.out.below HP.out) (by omega) (HR.out.below HP.out)).mono ?_
        rintro e w20 ⟨⟨O2, c2, rfl, s20, -⟩, hb20⟩
        have HP20 := Lib.hid (HP.out.trans (hb20.mono HP.out.size))
        obtain ⟨k1, k2, k3, k4, k5⟩ := bytes_lines m zs (by have := HZ.out.1; omega) HZ.out.2.1
        have hln := lns_of s20 (fun i hi => by
          obtain ⟨v, hv⟩ := k4 i hi
          exact enc_num20 hv)
        have hzl : zs.length = m := HZ.out.1
        obtain ⟨L, hLe⟩ : ∃ L, (linesN zs).length = L := ⟨_, rfl⟩
        simp only [hLe] at hln k1 k2 k5 ⊢
        obtain ⟨q, hq⟩ : ∃ q, 4 * L = q := ⟨_, rfl⟩
        have hqI : (L : Int) * 4 = (q : Int) := by omega
        rw [hq] at k1 k2 k5
        rw [hqI]
        have KB2 := bytes_any w20 O2 L c2 _ hln (by omega) (HR.out.below HP20.out)
        have HKB2 := Lib.hid KB2
        have hLI : (L : Int) ≤ 75 := by omega
        have hqm : (q : Int) ≤ (m : Int) := by omega
        have hqn : q ≤ m := by omega
        have f1 : (((q : Int) != 4 * (L : Int)) : Bool) = false := by simp; omega
        have f2 : ¬ ((m : Int) < (q : Int)) := by omega
        have HK3 := Lib.hid k3
        have HK2 := Lib.hid k2
        have HK5 := Lib.hid k5
        have HLe := Lib.hid hLe
        have HQ := Lib.hid hq
        have HZL := Lib.hid hzl
        clear s20 hb20 k2 k3 k4 k5 hln KB2 hzl hLe k1 hqI hq
        go_wp2_with fail
        refine HKB2.out.mono ?_
        rintro e w21 ⟨hO, hb⟩
        have HP21 := Lib.hid (HP20.out.trans (hb.mono HP20.out.size))
        rcases hO.symm with ⟨ha, -⟩ | ⟨-, O3, c3, rfl, s21, -⟩
        · rw [HK3.out] at ha; cases ha
        rw [List.length_map, HLe.out, HK2.out, HQ.out] at s21
        simp only [List.length_map, HLe.out, HQ.out]
        have q1 := s21.toRowZ19 (fun z hz => HZ.out.2.1 z (List.mem_of_mem_take hz))
        have q2 := (HZ.out.below HP21.out).take (k := q) hqn
        have cv1 : ∀ j, (convert 37 9 (.slice O3 q c3)).run Tryd.prog (w21.drewN j) = .ok (.string (strOfNums (zs.take q))) (w21.drewN j) := fun j => conv_row (q1.below (below_drewN (Below.refl _ _) j)) c3
        have cv2 : ∀ j, (convert 37 9 (.slice B q mc)).run Tryd.prog (w21.drewN j) = .ok (.string (strOfNums (zs.take q))) (w21.drewN j) := fun j => conv_row (q2.below (below_drewN (Below.refl _ _) j)) mc
        generalize strOfNums (zs.take q) = S at *
        clear s21 q1 q2 hb
        by_cases h4 : q + 4 ≤ m
        · obtain ⟨g, off, hBe, hg, hcc⟩ := (HZ.out.below HP21.out).2.2 (by omega)
          have HCC := Lib.hid hcc
          have hz : ∀ i, i < m → 0 ≤ zs.getD i 0 ∧ zs.getD i 0 ≤ 255 := fun i hi => by
            have hi' : i < zs.length := by rw [HZL.out]; exact hi
            have e : zs.getD i 0 = zs[i] := by simp [List.getD, hi']
            rw [e]
            exact HZ.out.2.1 _ (List.getElem_mem hi')
          obtain ⟨a0, a1⟩ := hz q (by omega)
          obtain ⟨b0, b1⟩ := hz (q + 1) (by omega)
          obtain ⟨d0, d1⟩ := hz (q + 2) (by omega)
          obtain ⟨e0, e1⟩ := hz (q + 3) (by omega)
          have hd5 := HK5.out (by rw [HZL.out]; exact h4)
          have y0 := hcc q (by omega)
          have y1 := hcc (q + 1) (by omega)
          have y2 := hcc (q + 2) (by omega)
          have y3 := hcc (q + 3) (by omega)
          have f3 : 4 ≤ (m : Int) - (q : Int) := by omega
          have hg1 : (q : Int) < (m : Int) := by omega
          have hg2 : (q : Int) + 1 < (m : Int) := by omega
          have hg3 : (q : Int) + 2 < (m : Int) := by omega
          have hg4 : (q : Int) + 3 < (m : Int) := by omega
          have u1 : (0 : Int) ≤ (q : Int) + 1 := by omega
          have u2 : (0 : Int) ≤ (q : Int) + 2 := by omega
          have u3 : (0 : Int) ≤ (q : Int) + 3 := by omega
          have v1 : IntKind.i64.wrap ((q : Int) + 1) = (q : Int) + 1 := by rw [IntKind.wrap_i64]; omega
          have v2 : IntKind.i64.wrap ((q : Int) + 2) = (q : Int) + 2 := by rw [IntKind.wrap_i64]; omega
          have v3 : IntKind.i64.wrap ((q : Int) + 3) = (q : Int) + 3 := by rw [IntKind.wrap_i64]; omega
          clear hz hcc
          subst hBe
          generalize zs.getD q 0 = x0 at *
          generalize zs.getD (q + 1) 0 = x1 at *
          generalize zs.getD (q + 2) 0 = x2 at *
          generalize zs.getD (q + 3) 0 = x3 at *
          have hwd : ((word4 x0 x1 x2 x3 : Nat) : Int) = x0 + x1 * 256 + x2 * 65536 + x3 * 16777216 := Int.toNat_of_nonneg (by omega)
          have KD := fun W hR => decode_any (word4 x0 x1 x2 x3) (by omega) W hR
          rw [hd5, hwd, ← or4w x0 x1 x2 x3 a0 a1 b0 b1 d0 d1 e0 e1] at KD
          have hz0 : decV none = .agg #[.int .i64 0, .int .i64 0, .int .i64 0, .int .i64 0, .int .i64 0, .int .i32 0, .string ⟨#[]⟩] := rfl
          simp only [hz0, Option.isSome_none] at KD
          have HDw := Lib.hid KD
          clear KD hz0 hwd hd5
          go_wp2_with fail
          go_big_quiet (fail)
          obtain ⟨w22, hw22⟩ : ∃ w22, w21.drewN nq = w22 := ⟨_, rfl⟩
          have hb22 : Below w21.heap.size w21 w22 := by rw [← hw22]; exact below_drewN (Below.refl _ _) _
          have HP22 := Lib.hid (HP21.out.trans (hb22.mono HP21.out.size))
          have HS0 : Hid (∀ W', Below w22.heap.size w22 W' → (fun w : World => w.cell? ⟨g, off + q, none⟩ = some (.int .u8 x0) ∧ w.cell? ⟨g, off + (q + 1), none⟩ = some (.int .u8 x1) ∧ w.cell? ⟨g, off + ((q : Int) + 2).toNat, none⟩ = some (.int .u8 x2) ∧ w.cell? ⟨g, off + ((q : Int) + 3).toNat, none⟩ = some (.int .u8 x3)) W') := Lib.hid (fun W' hb =>
            have h := hb22.trans (hb.mono hb22.size)
            ⟨(h.cell (p := ⟨g, off + q, none⟩) hg).trans y0, (h.cell (p := ⟨g, off + (q + 1), none⟩) hg).trans y1, by rw [show ((q : Int) + 2).toNat = q + 2 from by omega]; exact (h.cell (p := ⟨g, off + (q + 2), none⟩) hg).trans y2, by rw [show ((q : Int) + 3).toNat = q + 3 from by omega]; exact (h.cell (p := ⟨g, off + (q + 3), none⟩) hg).trans y3⟩)
          have p0 := HS0.out w22.drew (Below.refl _ w22).drew
          obtain ⟨q9, hq9⟩ : ∃ q, w22.heap.size = q := ⟨_, rfl⟩
          obtain ⟨X9, hX9⟩ : ∃ X, w22.alloc (.cells #[.int .i64 0, .int .i64 0, .int .i64 0, .int .i64 0, .int .i64 0, .int .i32 0, .string ⟨#[]⟩] 23) = X := ⟨_, rfl⟩
          have hb9 : Below w22.heap.size w22 X9 := by rw [← hX9]; exact (Below.refl _ _).alloc (Nat.le_refl _) _
          have hz9 : X9.heap.size = q9 + 1 := by rw [← hX9, ← hq9]; simp
          have hh9 : X9.heap[q9]? = some (.cells #[.int .i64 0, .int .i64 0, .int .i64 0, .int .i64 0, .int .i64 0, .int .i32 0, .string ⟨#[]⟩] 23 (0, 0)) := by rw [← hX9, ← hq9]; exact heap_alloc_new w22 _
          have HS9 : Hid (∀ W', Below X9.heap.size X9 W' → (fun w : World => w.cell? ⟨g, off + q, none⟩ = some (.int .u8 x0) ∧ w.cell? ⟨g, off + (q + 1), none⟩ = some (.int .u8 x1) ∧ w.cell? ⟨g, off + ((q : Int) + 2).toNat, none⟩ = some (.int .u8 x2) ∧ w.cell? ⟨g, off + ((q : Int) + 3).toNat, none⟩ = some (.int .u8 x3)) W') := Lib.hid (fun W' hb => HS0.out W' (hb9.trans (hb.mono hb9.size)))
          have p3 := HS9.out X9.drew (Below.refl _ X9).drew
          have HP9 := Lib.hid (HP22.out.trans (hb9.mono HP22.out.size))
          have HH9 := Lib.hid (And.intro hz9 hh9)
          rw [hw22]
          clear hw22 hb22 y0 y1 y2 y3 hb9 hz9 hh9
          go_wp2_with fail
          go_region_held3 (fun w : World => w.cell? ⟨g, off + q, none⟩ = some (.int .u8 x0) ∧ w.cell? ⟨g, off + (q + 1), none⟩ = some (.int .u8 x1) ∧ w.cell? ⟨g, off + ((q : Int) + 2).toNat, none⟩ = some (.int .u8 x2) ∧ w.cell? ⟨g, off + ((q : Int) + 3).toNat, none⟩ = some (.int .u8 x3)) (first | exact p0 | exact p1 | exact p2 | exact p3) (first | (go_at_call 15; (with_reducible refine (HDw.out _ (HR.out.below HP9.out.drew)).mono ?_); rintro e w23 ⟨rfl, hb⟩; have hbd := (Below.refl X9.heap.size X9).drew.trans hb; have p1 := HS9.out w23 hbd; have HPX := Lib.hid (HP9.out.trans (hbd.mono HP9.out.size)); have gX : w23.heap[q9]? = some (.cells #[.int .i64 0, .int .i64 0, .int .i64 0, .int .i64 0, .int .i64 0, .int .i32 0, .string ⟨#[]⟩] 23 (0, 0)) := (hbd.block q9 (by have := HH9.out.1; omega)).trans HH9.out.2; have t0 : w23.cell? ⟨q9, 0, none⟩ = some (.int .i64 0) := (by rw [cell_of_row _ _ 0 _ _ (0, 0) gX]; rfl); have i0 : w23.setCell ⟨q9, 0, none⟩ (.int .i64 0) = w23 := setCell_id20 gX rfl; have fz0 := frozen_of_row _ q9 0 _ _ gX; have t1 : w23.cell? ⟨q9, 1, none⟩ = some (.int .i64 0) := (by rw [cell_of_row _ _ 1 _ _ (0, 0) gX]; rfl); have i1 : w23.setCell ⟨q9, 1, none⟩ (.int .i64 0) = w23 := setCell_id20 gX rfl; have fz1 := frozen_of_row _ q9 1 _ _ gX; have t2 : w23.cell? ⟨q9, 2, none⟩ = some (.int .i64 0) := (by rw [cell_of_row _ _ 2 _ _ (0, 0) gX]; rfl); have i2 : w23.setCell ⟨q9, 2, none⟩ (.int .i64 0) = w23 := setCell_id20 gX rfl; have fz2 := frozen_of_row _ q9 2 _ _ gX; have t3 : w23.cell? ⟨q9, 3, none⟩ = some (.int .i64 0) := (by rw [cell_of_row _ _ 3 _ _ (0, 0) gX]; rfl); have i3 : w23.setCell ⟨q9, 3, none⟩ (.int .i64 0) = w23 := setCell_id20 gX rfl; have fz3 := frozen_of_row _ q9 3 _ _ gX; have t4 : w23.cell? ⟨q9, 4, none⟩ = some (.int .i64 0) := (by rw [cell_of_row _ _ 4 _ _ (0, 0) gX]; rfl); have i4 : w23.setCell ⟨q9, 4, none⟩ (.int .i64 0) = w23 := setCell_id20 gX rfl; have fz4 := frozen_of_row _ q9 4 _ _ gX; have t5 : w23.cell? ⟨q9, 5, none⟩ = some (.int .i32 0) := (by rw [cell_of_row _ _ 5 _ _ (0, 0) gX]; rfl); have i5 : w23.setCell ⟨q9, 5, none⟩ (.int .i32 0) = w23 := setCell_id20 gX rfl; have fz5 := frozen_of_row _ q9 5 _ _ gX; have t6 : w23.cell? ⟨q9, 6, none⟩ = some (.string ⟨#[]⟩) := (by rw [cell_of_row _ _ 6 _ _ (0, 0) gX]; rfl); have i6 : w23.setCell ⟨q9, 6, none⟩ (.string ⟨#[]⟩) = w23 := setCell_id20 gX rfl; have fz6 := frozen_of_row _ q9 6 _ _ gX; clear hb hbd gX) | (go_at_call 15; (with_reducible refine (HDw.out _ (HR.out.below HP22.out.drew)).mono ?_); rintro e w23 ⟨rfl, hb⟩; have hbd := (Below.refl w22.heap.size w22).drew.trans hb; have p1 := HS0.out w23 hbd; have HP23 := Lib.hid (HP22.out.trans (hbd.mono HP22.out.size)); obtain ⟨q5, hq5⟩ : ∃ q, w23.heap.size = q := ⟨_, rfl⟩; obtain ⟨X5, hX5⟩ : ∃ X, w23.alloc (.cells #[.int .i64 0, .int .i64 0, .int .i64 0, .int .i64 0, .int .i64 0, .int .i32 0, .string ⟨#[]⟩] 23) = X := ⟨_, rfl⟩; have hbX : Below w23.heap.size w23 X5 := (by rw [← hX5]; exact (Below.refl _ _).alloc (Nat.le_refl _) _); have hLn : LnAt X5 q5 0 0 0 0 0 0 ⟨#[]⟩ := (by rw [← hX5, ← hq5]; exact LnAt.new _ _ _ _ _ _ _ _ _); have gX : X5.heap[q5]? = some (.cells #[.int .i64 0, .int .i64 0, .int .i64 0, .int .i64 0, .int .i64 0, .int .i32 0, .string ⟨#[]⟩] 23 (0, 0)) := (by rw [← hX5, ← hq5]; exact heap_alloc_new w23 _); obtain ⟨-, t0, t1, t2, t3, t4, t5, t6⟩ := hLn; have i0 : X5.setCell ⟨q5, 0, none⟩ (.int .i64 0) = X5 := setCell_id20 gX rfl; have fz0 := frozen_of_row _ q5 0 _ _ gX; have i1 : X5.setCell ⟨q5, 1, none⟩ (.int .i64 0) = X5 := setCell_id20 gX rfl; have fz1 := frozen_of_row _ q5 1 _ _ gX; have i2 : X5.setCell ⟨q5, 2, none⟩ (.int .i64 0) = X5 := setCell_id20 gX rfl; have fz2 := frozen_of_row _ q5 2 _ _ gX; have i3 : X5.setCell ⟨q5, 3, none⟩ (.int .i64 0) = X5 := setCell_id20 gX rfl; have fz3 := frozen_of_row _ q5 3 _ _ gX; have i4 : X5.setCell ⟨q5, 4, none⟩ (.int .i64 0) = X5 := setCell_id20 gX rfl; have fz4 := frozen_of_row _ q5 4 _ _ gX; have i5 : X5.setCell ⟨q5, 5, none⟩ (.int .i32 0) = X5 := setCell_id20 gX rfl; have fz5 := frozen_of_row _ q5 5 _ _ gX; have i6 : X5.setCell ⟨q5, 6, none⟩ (.string ⟨#[]⟩) = X5 := setCell_id20 gX rfl; have fz6 := frozen_of_row _ q5 6 _ _ gX; have p2 := HS0.out X5 (hbd.trans (hbX.mono hbd.size)); have HPX := Lib.hid (HP23.out.trans (hbX.mono HP23.out.size)); clear hb hbd hbX gX))
          all_goals
            go_wp2_with (go_at_call 12; (with_reducible refine (lives19 _ (HR.out.below HPX.out)).mono ?_); rintro e w9 ⟨rfl, hb⟩; have HB := Lib.hid (HPX.out.trans (hb.mono HPX.out.size)); clear hb)
            go_ret
            exact ⟨rfl, HB.out⟩
        · have f3 : ¬ (4 ≤ (m : Int) - (q : Int)) := by omega
          go_wp2_with fail
          go_big_quiet (fail)
          obtain ⟨w22, hw22⟩ : ∃ w22, w21.drewN nq = w22 := ⟨_, rfl⟩
          have hb22 : Below w21.heap.size w21 w22 := by rw [← hw22]; exact below_drewN (Below.refl _ _) _
          have HP22 := Lib.hid (HP21.out.trans (hb22.mono HP21.out.size))
          rw [hw22]
          clear hw22 hb22
          go_wp2_with (go_at_call 12; (with_reducible refine (lives19 _ (HR.out.below HP22.out)).mono ?_); rintro e w9 ⟨rfl, hb⟩; have HB := Lib.hid (HP22.out.trans (hb.mono HP22.out.size)); clear hb)
          go_ret
          exact ⟨rfl, HB.out⟩
      | true =>
        go_wp2_with fail
        refine HKB.out.mono ?_
        rintro e w6 ⟨hO, hb⟩
        have HP := Lib.hid (HI.out.trans (hb.mono HI.out.size))
        rcases hO.symm with ⟨ha, -⟩ | ⟨-, O, oc, rfl, hs, -⟩
        · rw [hE] at ha; cases ha
        rw [HLL.out] at hs
        obtain ⟨A1, c1, w7, A2, c2, w8, r1, r2, s8, b8⟩ := two_appends w6 O (4 * k) oc _ hs (by omega)
        have HP8 := Lib.hid (HP.out.trans (b8.mono HP.out.size))
        have KL := lines_any w8 A2 (4 * k + 3) c2 _ (s8.toRowZ19 (fun z hz => by
          rcases List.mem_append.1 hz with q | q
          · exact bytesL_bd ls hE z q
          · simp at q; omega)) (by omega) (HR.out.below HP8.out)
        unfold LinesOut at KL
        rw [lines_bytes ls hE, List.length_map, HLL.out] at KL
        have HKL := Lib.hid KL
        have HLB := Lib.hid (lns_back ls hE)
        have R1 := Lib.hid r1
        have R2 := Lib.hid r2
        rw [HLL.out]
        clear hb hs s8 b8 r1 r2 KL hE HI
        go_wp2_with (first
          | (at_builtin; refine Lib.wpList_append_run _ rfl _ _ _ _ rfl _ _ rfl rfl _ _ R1.out ?_)
          | (at_builtin; refine Lib.wpList_append_run _ rfl _ _ _ _ rfl _ _ rfl rfl _ _ R2.out ?_))
        refine HKL.out.mono ?_
        rintro e w9 ⟨⟨O9, c9, rfl, s9, -⟩, hb9⟩
        have HP9 := Lib.hid (HP8.out.trans (hb9.mono HP8.out.size))
        have hb1 : ((((k : Int)) * 4 != 4 * ((k : Int))) : Bool) = false := by simp; omega
        have hb2 : ((4 * ((k : Int)) != ((k : Int)) * 4) : Bool) = false := by simp; omega
        have KS := same_yes w9 O9 A k c9 c ls (by
          have h := lns_of (is := ls.map Ln.ins) (c := c9) (O := O9) (w := w9) (by rw [List.length_map, HLL.out]; exact s9) (fun i hi => by
            obtain ⟨l, hl, rfl⟩ := List.mem_map.1 hi
            exact HL.out.2.1 l hl)
          rw [HLB.out, List.length_map, HLL.out] at h
          exact h) (HL.out.below HP9.out) (by omega)
        have HKS := Lib.hid KS
        clear s9 hb9 KS
        go_wp2_with (go_at_call 18; (with_reducible refine HKS.out.mono ?_); rintro e w10 ⟨rfl, hb⟩; have HP10 := Lib.hid (HP9.out.trans (hb.mono HP9.out.size)); clear hb)
        refine (lines_any _ B m mc zs (HZ.out.below HP10.out) (by omega) (HR.out.below HP10.out)).mono ?_
        rintro e w20 ⟨⟨O2, c2, rfl, s20, -⟩, hb20⟩
        have HP20 := Lib.hid (HP10.out.trans (hb20.mono HP10.out.size))
        obtain ⟨k1, k2, k3, k4, k5⟩ := bytes_lines m zs (by have := HZ.out.1; omega) HZ.out.2.1
        have hln := lns_of s20 (fun i hi => by
          obtain ⟨v, hv⟩ := k4 i hi
          exact enc_num20 hv)
        have hzl : zs.length = m := HZ.out.1
        obtain ⟨L, hLe⟩ : ∃ L, (linesN zs).length = L := ⟨_, rfl⟩
        simp only [hLe] at hln k1 k2 k5 ⊢
        obtain ⟨q, hq⟩ : ∃ q, 4 * L = q := ⟨_, rfl⟩
        have hqI : (L : Int) * 4 = (q : Int) := by omega
        rw [hq] at k1 k2 k5
        rw [hqI]
        have KB2 := bytes_any w20 O2 L c2 _ hln (by omega) (HR.out.below HP20.out)
        have HKB2 := Lib.hid KB2
        have hLI : (L : Int) ≤ 75 := by omega
        have hqm : (q : Int) ≤ (m : Int) := by omega
        have hqn : q ≤ m := by omega
        have f1 : (((q : Int) != 4 * (L : Int)) : Bool) = false := by simp; omega
        have f2 : ¬ ((m : Int) < (q : Int)) := by omega
        have HK3 := Lib.hid k3
        have HK2 := Lib.hid k2
        have HK5 := Lib.hid k5
        have HLe := Lib.hid hLe
        have HQ := Lib.hid hq
        have HZL := Lib.hid hzl
        clear s20 hb20 k2 k3 k4 k5 hln KB2 hzl hLe k1 hqI hq
        go_wp2_with fail
        refine HKB2.out.mono ?_
        rintro e w21 ⟨hO, hb⟩
        have HP21 := Lib.hid (HP20.out.trans (hb.mono HP20.out.size))
        rcases hO.symm with ⟨ha, -⟩ | ⟨-, O3, c3, rfl, s21, -⟩
        · rw [HK3.out] at ha; cases ha
        rw [List.length_map, HLe.out, HK2.out, HQ.out] at s21
        simp only [List.length_map, HLe.out, HQ.out]
        have q1 := s21.toRowZ19 (fun z hz => HZ.out.2.1 z (List.mem_of_mem_take hz))
        have q2 := (HZ.out.below HP21.out).take (k := q) hqn
        have cv1 : ∀ j, (convert 37 9 (.slice O3 q c3)).run Tryd.prog (w21.drewN j) = .ok (.string (strOfNums (zs.take q))) (w21.drewN j) := fun j => conv_row (q1.below (below_drewN (Below.refl _ _) j)) c3
        have cv2 : ∀ j, (convert 37 9 (.slice B q mc)).run Tryd.prog (w21.drewN j) = .ok (.string (strOfNums (zs.take q))) (w21.drewN j) := fun j => conv_row (q2.below (below_drewN (Below.refl _ _) j)) mc
        generalize strOfNums (zs.take q) = S at *
        clear s21 q1 q2 hb
        by_cases h4 : q + 4 ≤ m
        · obtain ⟨g, off, hBe, hg, hcc⟩ := (HZ.out.below HP21.out).2.2 (by omega)
          have HCC := Lib.hid hcc
          have hz : ∀ i, i < m → 0 ≤ zs.getD i 0 ∧ zs.getD i 0 ≤ 255 := fun i hi => by
            have hi' : i < zs.length := by rw [HZL.out]; exact hi
            have e : zs.getD i 0 = zs[i] := by simp [List.getD, hi']
            rw [e]
            exact HZ.out.2.1 _ (List.getElem_mem hi')
          obtain ⟨a0, a1⟩ := hz q (by omega)
          obtain ⟨b0, b1⟩ := hz (q + 1) (by omega)
          obtain ⟨d0, d1⟩ := hz (q + 2) (by omega)
          obtain ⟨e0, e1⟩ := hz (q + 3) (by omega)
          have hd5 := HK5.out (by rw [HZL.out]; exact h4)
          have y0 := hcc q (by omega)
          have y1 := hcc (q + 1) (by omega)
          have y2 := hcc (q + 2) (by omega)
          have y3 := hcc (q + 3) (by omega)
          have f3 : 4 ≤ (m : Int) - (q : Int) := by omega
          have hg1 : (q : Int) < (m : Int) := by omega
          have hg2 : (q : Int) + 1 < (m : Int) := by omega
          have hg3 : (q : Int) + 2 < (m : Int) := by omega
          have hg4 : (q : Int) + 3 < (m : Int) := by omega
          have u1 : (0 : Int) ≤ (q : Int) + 1 := by omega
          have u2 : (0 : Int) ≤ (q : Int) + 2 := by omega
          have u3 : (0 : Int) ≤ (q : Int) + 3 := by omega
          have v1 : IntKind.i64.wrap ((q : Int) + 1) = (q : Int) + 1 := by rw [IntKind.wrap_i64]; omega
          have v2 : IntKind.i64.wrap ((q : Int) + 2) = (q : Int) + 2 := by rw [IntKind.wrap_i64]; omega
          have v3 : IntKind.i64.wrap ((q : Int) + 3) = (q : Int) + 3 := by rw [IntKind.wrap_i64]; omega
          clear hz hcc
          subst hBe
          generalize zs.getD q 0 = x0 at *
          generalize zs.getD (q + 1) 0 = x1 at *
          generalize zs.getD (q + 2) 0 = x2 at *
          generalize zs.getD (q + 3) 0 = x3 at *
          have hwd : ((word4 x0 x1 x2 x3 : Nat) : Int) = x0 + x1 * 256 + x2 * 65536 + x3 * 16777216 := Int.toNat_of_nonneg (by omega)
          have KD := fun W hR => decode_any (word4 x0 x1 x2 x3) (by omega) W hR
          rw [hd5, hwd, ← or4w x0 x1 x2 x3 a0 a1 b0 b1 d0 d1 e0 e1] at KD
          have hz0 : decV none = .agg #[.int .i64 0, .int .i64 0, .int .i64 0, .int .i64 0, .int .i64 0, .int .i32 0, .string ⟨#[]⟩] := rfl
          simp only [hz0, Option.isSome_none] at KD
          have HDw := Lib.hid KD
          clear KD hz0 hwd hd5
          go_wp2_with fail
          go_big_quiet (fail)
          obtain ⟨w22, hw22⟩ : ∃ w22, w21.drewN nq = w22 := ⟨_, rfl⟩
          have hb22 : Below w21.heap.size w21 w22 := by rw [← hw22]; exact below_drewN (Below.refl _ _) _
          have HP22 := Lib.hid (HP21.out.trans (hb22.mono HP21.out.size))
          have HS0 : Hid (∀ W', Below w22.heap.size w22 W' → (fun w : World => w.cell? ⟨g, off + q, none⟩ = some (.int .u8 x0) ∧ w.cell? ⟨g, off + (q + 1), none⟩ = some (.int .u8 x1) ∧ w.cell? ⟨g, off + ((q : Int) + 2).toNat, none⟩ = some (.int .u8 x2) ∧ w.cell? ⟨g, off + ((q : Int) + 3).toNat, none⟩ = some (.int .u8 x3)) W') := Lib.hid (fun W' hb =>
            have h := hb22.trans (hb.mono hb22.size)
            ⟨(h.cell (p := ⟨g, off + q, none⟩) hg).trans y0, (h.cell (p := ⟨g, off + (q + 1), none⟩) hg).trans y1, by rw [show ((q : Int) + 2).toNat = q + 2 from by omega]; exact (h.cell (p := ⟨g, off + (q + 2), none⟩) hg).trans y2, by rw [show ((q : Int) + 3).toNat = q + 3 from by omega]; exact (h.cell (p := ⟨g, off + (q + 3), none⟩) hg).trans y3⟩)
          have p0 := HS0.out w22.drew (Below.refl _ w22).drew
          obtain ⟨q9, hq9⟩ : ∃ q, w22.heap.size = q := ⟨_, rfl⟩
          obtain ⟨X9, hX9⟩ : ∃ X, w22.alloc (.cells #[.int .i64 0, .int .i64 0, .int .i64 0, .int .i64 0, .int .i64 0, .int .i32 0, .string ⟨#[]⟩] 23) = X := ⟨_, rfl⟩
          have hb9 : Below w22.heap.size w22 X9 := by rw [← hX9]; exact (Below.refl _ _).alloc (Nat.le_refl _) _
          have hz9 : X9.heap.size = q9 + 1 := by rw [← hX9, ← hq9]; simp
          have hh9 : X9.heap[q9]? = some (.cells #[.int .i64 0, .int .i64 0, .int .i64 0, .int .i64 0, .int .i64 0, .int .i32 0, .string ⟨#[]⟩] 23 (0, 0)) := by rw [← hX9, ← hq9]; exact heap_alloc_new w22 _
          have HS9 : Hid (∀ W', Below X9.heap.size X9 W' → (fun w : World => w.cell? ⟨g, off + q, none⟩ = some (.int .u8 x0) ∧ w.cell? ⟨g, off + (q + 1), none⟩ = some (.int .u8 x1) ∧ w.cell? ⟨g, off + ((q : Int) + 2).toNat, none⟩ = some (.int .u8 x2) ∧ w.cell? ⟨g, off + ((q : Int) + 3).toNat, none⟩ = some (.int .u8 x3)) W') := Lib.hid (fun W' hb => HS0.out W' (hb9.trans (hb.mono hb9.size)))
          have p3 := HS9.out X9.drew (Below.refl _ X9).drew
          have HP9 := Lib.hid (HP22.out.trans (hb9.mono HP22.out.size))
          have HH9 := Lib.hid (And.intro hz9 hh9)
          rw [hw22]
          clear hw22 hb22 y0 y1 y2 y3 hb9 hz9 hh9
          go_wp2_with fail
          go_region_held3 (fun w : World => w.cell? ⟨g, off + q, none⟩ = some (.int .u8 x0) ∧ w.cell? ⟨g, off + (q + 1), none⟩ = some (.int .u8 x1) ∧ w.cell? ⟨g, off + ((q : Int) + 2).toNat, none⟩ = some (.int .u8 x2) ∧ w.cell? ⟨g, off + ((q : Int) + 3).toNat, none⟩ = some (.int .u8 x3)) (first | exact p0 | exact p1 | exact p2 | exact p3) (first | (go_at_call 15; (with_reducible refine (HDw.out _ (HR.out.below HP9.out.drew)).mono ?_); rintro e w23 ⟨rfl, hb⟩; have hbd := (Below.refl X9.heap.size X9).drew.trans hb; have p1 := HS9.out w23 hbd; have HPX := Lib.hid (HP9.out.trans (hbd.mono HP9.out.size)); have gX : w23.heap[q9]? = some (.cells #[.int .i64 0, .int .i64 0, .int .i64 0, .int .i64 0, .int .i64 0, .int .i32 0, .string ⟨#[]⟩] 23 (0, 0)) := (hbd.block q9 (by have := HH9.out.1; omega)).trans HH9.out.2; have t0 : w23.cell? ⟨q9, 0, none⟩ = some (.int .i64 0) := (by rw [cell_of_row _ _ 0 _ _ (0, 0) gX]; rfl); have i0 : w23.setCell ⟨q9, 0, none⟩ (.int .i64 0) = w23 := setCell_id20 gX rfl; have fz0 := frozen_of_row _ q9 0 _ _ gX; have t1 : w23.cell? ⟨q9, 1, none⟩ = some (.int .i64 0) := (by rw [cell_of_row _ _ 1 _ _ (0, 0) gX]; rfl); have i1 : w23.setCell ⟨q9, 1, none⟩ (.int .i64 0) = w23 := setCell_id20 gX rfl; have fz1 := frozen_of_row _ q9 1 _ _ gX; have t2 : w23.cell? ⟨q9, 2, none⟩ = some (.int .i64 0) := (by rw [cell_of_row _ _ 2 _ _ (0, 0) gX]; rfl); have i2 : w23.setCell ⟨q9, 2, none⟩ (.int .i64 0) = w23 := setCell_id20 gX rfl; have fz2 := frozen_of_row _ q9 2 _ _ gX; have t3 : w23.cell? ⟨q9, 3, none⟩ = some (.int .i64 0) := (by rw [cell_of_row _ _ 3 _ _ (0, 0) gX]; rfl); have i3 : w23.setCell ⟨q9, 3, none⟩ (.int .i64 0) = w23 := setCell_id20 gX rfl; have fz3 := frozen_of_row _ q9 3 _ _ gX; have t4 : w23.cell? ⟨q9, 4, none⟩ = some (.int .i64 0) := (by rw [cell_of_row _ _ 4 _ _ (0, 0) gX]; rfl); have i4 : w23.setCell ⟨q9, 4, none⟩ (.int .i64 0) = w23 := setCell_id20 gX rfl; have fz4 := frozen_of_row _ q9 4 _ _ gX; have t5 : w23.cell? ⟨q9, 5, none⟩ = some (.int .i32 0) := (by rw [cell_of_row _ _ 5 _ _ (0, 0) gX]; rfl); have i5 : w23.setCell ⟨q9, 5, none⟩ (.int .i32 0) = w23 := setCell_id20 gX rfl; have fz5 := frozen_of_row _ q9 5 _ _ gX; have t6 : w23.cell? ⟨q9, 6, none⟩ = some (.string ⟨#[]⟩) := (by rw [cell_of_row _ _ 6 _ _ (0, 0) gX]; rfl); have i6 : w23.setCell ⟨q9, 6, none⟩ (.string ⟨#[]⟩) = w23 := setCell_id20 gX rfl; have fz6 := frozen_of_row _ q9 6 _ _ gX; clear hb hbd gX) | (go_at_call 15; (with_reducible refine (HDw.out _ (HR.out.below HP22.out.drew)).mono ?_); rintro e w23 ⟨rfl, hb⟩; have hbd := (Below.refl w22.heap.size w22).drew.trans hb; have p1 := HS0.out w23 hbd; have HP23 := Lib.hid (HP22.out.trans (hbd.mono HP22.out.size)); obtain ⟨q5, hq5⟩ : ∃ q, w23.heap.size = q := ⟨_, rfl⟩; obtain ⟨X5, hX5⟩ : ∃ X, w23.alloc (.cells #[.int .i64 0, .int .i64 0, .int .i64 0, .int .i64 0, .int .i64 0, .int .i32 0, .string ⟨#[]⟩] 23) = X := ⟨_, rfl⟩; have hbX : Below w23.heap.size w23 X5 := (by rw [← hX5]; exact (Below.refl _ _).alloc (Nat.le_refl _) _); have hLn : LnAt X5 q5 0 0 0 0 0 0 ⟨#[]⟩ := (by rw [← hX5, ← hq5]; exact LnAt.new _ _ _ _ _ _ _ _ _); have gX : X5.heap[q5]? = some (.cells #[.int .i64 0, .int .i64 0, .int .i64 0, .int .i64 0, .int .i64 0, .int .i32 0, .string ⟨#[]⟩] 23 (0, 0)) := (by rw [← hX5, ← hq5]; exact heap_alloc_new w23 _); obtain ⟨-, t0, t1, t2, t3, t4, t5, t6⟩ := hLn; have i0 : X5.setCell ⟨q5, 0, none⟩ (.int .i64 0) = X5 := setCell_id20 gX rfl; have fz0 := frozen_of_row _ q5 0 _ _ gX; have i1 : X5.setCell ⟨q5, 1, none⟩ (.int .i64 0) = X5 := setCell_id20 gX rfl; have fz1 := frozen_of_row _ q5 1 _ _ gX; have i2 : X5.setCell ⟨q5, 2, none⟩ (.int .i64 0) = X5 := setCell_id20 gX rfl; have fz2 := frozen_of_row _ q5 2 _ _ gX; have i3 : X5.setCell ⟨q5, 3, none⟩ (.int .i64 0) = X5 := setCell_id20 gX rfl; have fz3 := frozen_of_row _ q5 3 _ _ gX; have i4 : X5.setCell ⟨q5, 4, none⟩ (.int .i64 0) = X5 := setCell_id20 gX rfl; have fz4 := frozen_of_row _ q5 4 _ _ gX; have i5 : X5.setCell ⟨q5, 5, none⟩ (.int .i32 0) = X5 := setCell_id20 gX rfl; have fz5 := frozen_of_row _ q5 5 _ _ gX; have i6 : X5.setCell ⟨q5, 6, none⟩ (.string ⟨#[]⟩) = X5 := setCell_id20 gX rfl; have fz6 := frozen_of_row _ q5 6 _ _ gX; have p2 := HS0.out X5 (hbd.trans (hbX.mono hbd.size)); have HPX := Lib.hid (HP23.out.trans (hbX.mono HP23.out.size)); clear hb hbd hbX gX))
          all_goals
            go_wp2_with (go_at_call 12; (with_reducible refine (lives19 _ (HR.out.below HPX.out)).mono ?_); rintro e w9 ⟨rfl, hb⟩; have HB := Lib.hid (HPX.out.trans (hb.mono HPX.out.size)); clear hb)
            go_ret
            exact ⟨rfl, HB.out⟩
        · have f3 : ¬ (4 ≤ (m : Int) - (q : Int)) := by omega
          go_wp2_with fail
          go_big_quiet (fail)
          obtain ⟨w22, hw22⟩ : ∃ w22, w21.drewN nq = w22 := ⟨_, rfl⟩
          have hb22 : Below w21.heap.size w21 w22 := by rw [← hw22]; exact below_drewN (Below.refl _ _) _
          have HP22 := Lib.hid (HP21.out.trans (hb22.mono HP21.out.size))
          rw [hw22]
          clear hw22 hb22
          go_wp2_with (go_at_call 12; (with_reducible refine (lives19 _ (HR.out.below HP22.out)).mono ?_); rintro e w9 ⟨rfl, hb⟩; have HB := Lib.hid (HP22.out.trans (hb.mono HP22.out.size)); clear hb)
          go_ret
          exact ⟨rfl, HB.out⟩
end Go.Proofs.YtonkpojoniehlaaDoor
