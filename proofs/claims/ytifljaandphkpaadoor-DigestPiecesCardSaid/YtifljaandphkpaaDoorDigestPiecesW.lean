/-
  The walk of the law DigestPieces: it answers true and writes nothing that was there.
-/
import Derived.Test.YtifljaandphkpaaDoorPieceH
import Derived.Deep.Cut
import Derived.Deep.CutRange
namespace Go.Proofs.YtifljaandphkpaaDoor
open Go.RowKit
set_option linter.unusedVariables false

theorem own_form {w : World} {B n : Nat} {e : TypeId} {v : Value} {xs : List Value} (h : w.ownsRow B e 1 v n xs) (hn : 0 < n) : ∃ g c, v = .slice (some ⟨g, 0, none⟩) n c ∧ B ≤ g ∧ n ≤ c := by
  rcases h.2 with ⟨_, h0⟩ | ⟨g, cap, cur, rfl, hb, hg, hnc, _⟩
  · omega
  · exact ⟨g, cap, rfl, hb, hnc⟩
set_option maxHeartbeats 4000000 in
theorem digestPieces_walk (a0 : Option Addr) (len0 cap0 : Nat) (W : World) (w0 : IsRows W a0 len0 cap0) (hL : laidMetH Tryd.prog Rows.digestPiecesRow.laid W) :
    Calls Tryd.prog 6 #[.slice a0 len0 cap0] W fun e w' => e = .returned (.bool true) ∧ Below W.heap.size W w' := by
  have HK := Lib.hid (roots_of_laid hL)
  have hlm : len0 ≤ 9223372036854775807 := by
    rcases w0 with ⟨_, h, _⟩ | ⟨h1, h2, _⟩
    · omega
    · unfold maxLen at h2; omega
  have HROW : Hid (∀ r, r < len0 → ∃ b off, a0 = some ⟨b, off, none⟩ ∧ b < W.heap.size ∧ ∃ A n c l, W.cell? ⟨b, off + r, none⟩ = some (.slice A n c) ∧ Held W A n c l ∧ c ≤ 9223372036854775807) := Lib.hid (fun r hr => by
    rcases w0 with ⟨_, h, _⟩ | ⟨h1, h2, h3⟩
    · omega
    · exact h3 r hr)
  clear w0 hL
  go_enter Tryd.func6, Tryd.ntmps6
  go_wp2_with fail
  refine (new_any W).mono ?_
  rintro e w1 ⟨⟨g, rfl, hg, hH1⟩, hb1⟩
  have hgr : 0 ≠ g := by have := HK.out.1; omega
  have hg1 : g < w1.heap.size := hH1.lt
  have H1 := Lib.hid hH1
  have B1 := Lib.hid hb1
  have O1 := Lib.hid (own_none w1 w1.heap.size)
  have X1 : Hid (∀ x ∈ ([] : List Nat), x < 256) := Lib.hid (fun x hx => by cases hx)
  have hW1 := hb1.size
  clear hH1 hb1
  go_wp2
  go_loopw [4, 12] (fun v i wr => ∃ (j : Nat) (al : List Nat), j ≤ len0 ∧ j ≤ 30 ∧ i = .int .i64 j ∧ al.length ≤ 300 * j ∧ Hid (∀ x ∈ al, x < 256) ∧ Hid (wr.ownsRow w1.heap.size 5 1 v al.length (cellsZ (asZ al))) ∧ Hid (Holds wr g al) ∧ w1.heap.size ≤ wr.heap.size ∧ Hid (Below W.heap.size W wr)) (fun _ i _ => len0 - (intOf i).toNat)
  case atStart => exact ⟨0, [], by omega, by omega, rfl, by simp, X1, O1, H1, by omega, B1⟩
  case round =>
    obtain ⟨j, al, hj, hj30, rfl, hal, HX, HO, HH, hsz, HB⟩ := hrel
    clear H1 B1 O1 X1
    by_cases hgo : j < len0 ∧ j < 30
    · obtain ⟨hjl, hj3⟩ := hgo
      obtain ⟨b, off, rfl, hbW, A, n, c, l, hcellW, hHl, hcm⟩ := HROW.out j hjl
      have hcell := (HB.out.cell (p := ⟨b, off + j, none⟩) hbW).trans hcellW
      have HL := Lib.hid (hHl.below HB.out)
      have hnc : n ≤ c := hHl.2.2
      clear hcellW hHl
      have hji : (j : Int) < (len0 : Int) := by omega
      have hji3 : (j : Int) < 30 := by omega
      obtain ⟨k, hk⟩ : ∃ k, k = min n 300 := ⟨_, rfl⟩
      have hkn : k ≤ n := by omega
      have hk3 : k ≤ 300 := by omega
      have HLk := Lib.hid (HL.out.take hkn)
      have hmin : (if (300 : Int) < (n : Int) then (300 : Int) else (n : Int)) = (k : Int) := by split <;> omega
      have hkc : (k : Int) ≤ (c : Int) := by omega
      have hk0 : (0 : Int) ≤ (k : Int) := by omega
      clear hk
      have E1 : Hid ((wr.alloc (.cells #[] 5)).ownsRow wr.heap.size 5 1 (.slice (some ⟨wr.heap.size, 0, none⟩) 0 0) 0 (cellsZ (asZ []))) := Lib.hid (own_empty wr)
      have E2 : Hid (Below wr.heap.size wr (wr.alloc (.cells #[] 5))) := Lib.hid ((Below.refl _ _).alloc (Nat.le_refl _) _)
      have HLk1 := Lib.hid (HLk.out.below E2.out)
      generalize hbb : l.take k = bb at *
      clear hbb
      go_upto_region 8 with (at_builtin; go_loud (refine wpList_appendB (.tmp 19) (.tmp 24) rfl rfl wr.heap.size (.slice (some ⟨wr.heap.size, 0, none⟩) 0 0) 0 [] (by rfl) E1 A k c bb (by rfl) HLk1 (by omega) (by simp) ?_); intro v6 w3 O6 B6 G6 P6)
      rw [Nat.zero_add, List.nil_append] at O6
      clear hcell hmin hkc hk0 G6 P6
      have B63 := Lib.hid (E2.out.trans B6.out)
      have hbblt := HLk.out.1.lt
      have hbbl := HLk.out.1.length
      obtain ⟨A6, c6, rfl, hH6, hc6⟩ := held_of_own O6.out hbblt hbbl
      have hgw : g < wr.heap.size := by omega
      have hs3 := B63.out.size
      have hd6 : ∀ x, A6 = some x → wr.heap.size ≤ x.block := fun x hx => own_block_ge O6.out _ (by rw [hx]; rfl)
      have hHol3 := HH.out.belowAt B63.out hgw
      have hK3 := HK.out.below (HB.out.trans (B63.out.mono HB.out.size))
      have hadd := Lib.hid (add_any g al (by omega) A6 k c6 bb (by omega) hc6 w3 hHol3 hH6 (fun x hx => by have := hd6 x hx; omega) hK3 hgr)
      have HD6 := Lib.hid hd6
      have HH6 := Lib.hid hH6
      have OV := Lib.hid (own_same HO.out (fun q hq => B63.out.block q (own_lt HO.out q hq)))
      have HB3 := Lib.hid (HB.out.trans (B63.out.mono HB.out.size))
      have HBL := Lib.hid hbblt
      have hvlt := Lib.hid (own_lt HO.out)
      clear hH6 hd6 hHol3 hK3 E1 E2 HLk1 B6 HL HLk HB HH HO B63 hbblt
      go_wp2_with fail
      refine hadd.out.mono ?_
      clear hadd
      rintro e w4 ⟨rfl, hH4, hbut⟩
      have H4 := Lib.hid hH4
      have BUT := Lib.hid hbut
      have hs4 := hbut.1.size
      have hgW : W.heap.size ≤ w3.heap.size := HB3.out.size
      have O6' := Lib.hid (own_same O6.out (fun q hq => hbut.2 q (own_lt O6.out q hq) (by have := own_block_ge O6.out q hq; omega)))
      have OV' := Lib.hid (own_same OV.out (fun q hq => hbut.2 q (own_lt OV.out q hq) (by have := own_block_ge OV.out q hq; omega)))
      have HB4 := Lib.hid (HB3.out.trans (hbut.toBelow hg hgW))
      have HH6' := Lib.hid (hbut.held HH6.out (fun x hx => by have := HD6.out x hx; omega))
      clear hH4 hbut BUT O6 OV HB3 HH6
      go_upto_region 10 with (at_builtin; go_loud (refine wpList_appendB (.tmp 29) (.tmp 30) rfl rfl w1.heap.size u4 al.length al (by rfl) OV' A6 k c6 bb (by rfl) HH6' (by omega) (by omega) ?_); intro v5 w5 O5 B5 G5 P5)
      have hallb : ∀ x ∈ al ++ bb, x < 256 := fun x hx => by
        rcases List.mem_append.1 hx with hx | hx
        · exact HX.out x hx
        · exact HBL.out x hx
      have hlen5 : (al ++ bb).length = al.length + k := by rw [List.length_append, hbbl]
      have hP5 := P5.out
      have ho5 := O5.out
      obtain ⟨A5, c5, rfl, hH5, hc5⟩ := held_of_own ho5 hallb hlen5
      have HX5 := Lib.hid hallb
      have HL5 := Lib.hid hlen5
      have DIS : Hid (∀ x5, A5 = some x5 → ∀ x6, A6 = some x6 → x5.block ≠ x6.block) := Lib.hid (fun x5 h5 x6 h6 => by
        have h6' := HD6.out x6 h6
        have h64 := own_lt O6'.out x6.block (by rw [h6]; rfl)
        rcases hP5 x5.block (by rw [h5]; rfl) with h | h
        · have := hvlt.out _ h
          omega
        · omega)
      have O6a := Lib.hid (own_same O6'.out (fun q hq => G5.out.block q (own_lt O6'.out q hq) (fun e => by
        have h1 := own_block_ge O6'.out q hq
        have h2 := hvlt.out q e.symm
        omega)))
      have H5 := Lib.hid (H4.out.belowAt B5.out hg1)
      have HB5 := Lib.hid (HB4.out.trans (B5.out.mono hW1))
      have hs5 := B5.out.size
      clear O6' OV' H4 HB4 HH6' hP5 ho5 G5 P5 hallb hlen5 hH5 B5 HX hvlt
      generalize al ++ bb = al5 at *
      generalize hn5 : al.length + k = n5 at *
      have hn5b : n5 ≤ 300 * (j + 1) := by omega
      clear hn5 hal
      go_wp2
      obtain ⟨zs0, hz0⟩ : ∃ zs, zs = bb := ⟨_, rfl⟩
      have O6b : Hid (∃ zs, w5.ownsRow wr.heap.size 5 1 (.slice A6 k c6) k (cellsZ (asZ zs))) := Lib.hid ⟨bb, O6a.out⟩
      clear O6a hz0
      obtain ⟨wo, rfl⟩ : ∃ wo : World, wo = wr := ⟨_, rfl⟩
      go_loopw [34] (fun i wr => ∃ q : Nat, q ≤ k ∧ i = .int .i64 q ∧ Hid (∃ zs, wr.ownsRow wo.heap.size 5 1 (.slice A6 k c6) k (cellsZ (asZ zs))) ∧ Hid (wr.ownsRow w1.heap.size 5 1 (.slice A5 n5 c5) n5 (cellsZ (asZ al5))) ∧ Hid (Holds wr g al5) ∧ w1.heap.size ≤ wr.heap.size ∧ Hid (Below W.heap.size W wr)) (fun i _ => k - (intOf i).toNat)
      case atStart => exact ⟨0, by omega, rfl, O6b, O5, H5, by omega, HB5⟩
      case round =>
        obtain ⟨q, hq, rfl, P6, PO, PH, hsz6, PB⟩ := hrel
        clear O6b O5 H5 HB5
        by_cases hqk : q < k
        · obtain ⟨zs, hzs⟩ := P6.out
          obtain ⟨g6, c', e6, hg6, _⟩ := own_form hzs (by omega)
          injection e6 with e6 _ e7
          subst e6
          subst e7
          have hcell := own_cellN hzs q hqk
          have hfr := own_free hzs q
          have hset := own_set hzs q (.int .u8 ((0 : Nat) : Int))
          rw [← cells_set] at hset
          have hset' : Hid (∃ zs, (wr.setCell ⟨g6, q, none⟩ (.int .u8 0)).ownsRow wo.heap.size 5 1 (.slice (some ⟨g6, 0, none⟩) k c6) k (cellsZ (asZ zs))) := Lib.hid ⟨_, hset⟩
          have PO' : Hid ((wr.setCell ⟨g6, q, none⟩ (.int .u8 0)).ownsRow w1.heap.size 5 1 (.slice A5 n5 c5) n5 (cellsZ (asZ al5))) := Lib.hid (own_same PO.out (fun y hy => heap_setCell_other wr _ y _ (by
            cases hA5 : A5 with
            | none => rw [hA5] at hy; cases hy
            | some x5 =>
              rw [hA5] at hy
              simp only [Value.ownBlock, Option.some.injEq] at hy
              have := DIS.out x5 hA5 ⟨g6, 0, none⟩ rfl
              rw [← hy]
              exact this)))
          have PH' : Hid (Holds (wr.setCell ⟨g6, q, none⟩ (.int .u8 0)) g al5) := Lib.hid (PH.out.same (heap_setCell_other wr _ g _ (by show g ≠ g6; omega)))
          have PB' : Hid (Below W.heap.size W (wr.setCell ⟨g6, q, none⟩ (.int .u8 0))) := Lib.hid (PB.out.setCell (show W.heap.size ≤ g6 by omega) _)
          clear hset hzs P6
          generalize zs.getD q 0 = y at *
          have hqi : (q : Int) < (k : Int) := by omega
          go_wp2
          go_roundw
          case rel => exact ⟨q + 1, by omega, by go_num, hset', PO', PH', by simpa using hsz6, PB'⟩
          case measure => simp [intOf]; omega
        · obtain rfl : q = k := by omega
          clear P6
          have hPH := PH.out
          have hh5 : Held wr A5 n5 c5 al5 := by
            obtain ⟨A', c', e, h, _⟩ := held_of_own PO.out HX5.out HL5.out
            injection e with e1 _ e3
            subst e1
            subst e3
            exact h
          have hK6 := HK.out.below PB.out
          have hsum := Lib.hid (sum_any g al5 (by rw [HL5.out]; omega) wr PH.out hK6)
          go_wp2_with fail
          refine hsum.out.mono ?_
          clear hsum
          rintro e w6 ⟨rfl, hb6⟩
          have hK7 := hK6.below hb6
          have hsha := Lib.hid (sha_any A5 n5 c5 al5 (by omega) hc5 w6 (hh5.below hb6) hK7)
          have H6 := Lib.hid (PH.out.belowAt hb6 hPH.lt)
          have O7 := Lib.hid (own_same PO.out (fun y hy => hb6.block y (own_lt PO.out y hy)))
          have B7 := Lib.hid (PB.out.trans (hb6.mono PB.out.size))
          have hs7 := hb6.size
          have heq := sums_same (shaN al5) (shaN_length al5) (shaN_lt al5)
          clear hPH hh5 hK6 hK7 hb6 PH PO PB
          generalize shaN al5 = sh at *
          go_wp2_with fail
          refine hsha.out.mono ?_
          clear hsha
          rintro e w7 ⟨rfl, hb7⟩
          have hlen := Lib.hid (len_any g al5 w7 (H6.out.belowAt hb7 H6.out.lt))
          have H7 := Lib.hid (H6.out.belowAt hb7 H6.out.lt)
          have O8 := Lib.hid (own_same O7.out (fun y hy => hb7.block y (own_lt O7.out y hy)))
          have B8 := Lib.hid (B7.out.trans (hb7.mono B7.out.size))
          have hs8 := hb7.size
          rw [HL5.out] at hlen
          clear hb7 H6 O7 B7
          go_wp2_with fail
          refine hlen.out.mono ?_
          clear hlen
          rintro e w' ⟨rfl, rfl⟩
          go_wp2
          go_roundw
          case rel =>
            refine ⟨j + 1, al5, by omega, by omega, by go_num, by rw [HL5.out]; omega, HX5, ?_, H7, by omega, B8⟩
            rw [HL5.out]
            exact O8
          case measure => simp [intOf]; omega
    · have hno : ¬ (j : Int) < (len0 : Int) ∨ ((j : Int) < (len0 : Int) ∧ (30 : Int) ≤ (j : Int)) := by omega
      obtain ⟨A5, c5, rfl, hh5, hc5⟩ := held_of_own HO.out HX.out rfl
      have hn5 : al.length ≤ 9000 := by omega
      have hrowj : j < len0 → ∃ b off, a0 = some ⟨b, off, none⟩ ∧ b < W.heap.size ∧ ∃ A n c l, W.cell? ⟨b, off + j, none⟩ = some (.slice A n c) ∧ Held W A n c l ∧ c ≤ 9223372036854775807 := HROW.out j
      have HRJ := Lib.hid hrowj
      have HH5 := Lib.hid hh5
      have hK0 := Lib.hid (HK.out.below HB.out)
      clear hgo HROW hrowj hh5 HO hal
      have hsum := Lib.hid (sum_any g al (by omega) wr HH.out hK0.out)
      have heq := sums_same (shaN al) (shaN_length al) (shaN_lt al)
      have heq0 := sums_same (shaN []) (shaN_length []) (shaN_lt [])
      have hsha := Lib.hid (fun (w6 : World) (hb6 : Below wr.heap.size wr w6) => sha_any A5 al.length c5 al (by omega) hc5 w6 (HH5.out.below hb6) (hK0.out.below hb6))
      have hsn := Lib.hid (fun (w7 : World) (h : RootsOk w7) => sum_nil w7 h)
      have hs0 := Lib.hid (fun (w7 : World) (h : RootsOk w7) => sha_any none 0 0 [] (by omega) (by omega) w7 ⟨RowN.nil, fun _ => rfl, by omega⟩ h)
      generalize shaN al = sh at *
      generalize shaN [] = sh0 at *
      generalize al.length = n5 at *
      rcases hno with h | ⟨h, h'⟩
      · go_wp2_with fail
        refine (add_nil A5 n5 c5 wr).mono ?_
        rintro e w' ⟨rfl, rfl⟩
        clear HRJ
        go_wp2_with fail
        refine hsum.out.mono ?_
        rintro e w6 ⟨rfl, hb6⟩
        have B6 := Lib.hid (HB.out.trans (hb6.mono HB.out.size))
        have hc6 := hsha.out w6 hb6
        clear hsha hb6 HH HH5
        have hc6' := Lib.hid hc6
        clear hc6
        go_wp2_with fail
        refine hc6'.out.mono ?_
        clear hc6'
        rintro e w7 ⟨rfl, hb7⟩
        have B7 := Lib.hid (B6.out.trans (hb7.mono B6.out.size))
        have c7 := Lib.hid (hsn.out w7 (HK.out.below B7.out))
        clear hb7 B6 hsn
        go_wp2_with fail
        refine c7.out.mono ?_
        clear c7
        rintro e w8 ⟨rfl, hb8⟩
        have B8 := Lib.hid (B7.out.trans (hb8.mono B7.out.size))
        have c8 := Lib.hid (hs0.out w8 (HK.out.below B8.out))
        clear hb8 B7 hs0
        go_wp2_with fail
        refine c8.out.mono ?_
        clear c8
        rintro e w9 ⟨rfl, hb9⟩
        have B9 := Lib.hid (B8.out.trans (hb9.mono B8.out.size))
        have c9 := Lib.hid (lives_true w9 (HK.out.below B9.out))
        clear hb9 B8
        go_wp2_with fail
        refine (len_nil w9).mono ?_
        rintro e w' ⟨rfl, rfl⟩
        go_wp2_with fail
        refine c9.out.mono ?_
        clear c9
        rintro e w10 ⟨rfl, hb10⟩
        go_wp2
        go_ret
        exact ⟨rfl, B9.out.trans (hb10.mono B9.out.size)⟩
      · obtain ⟨b, off, rfl, hbW, A, n, c, l, hcellW, _, _⟩ := HRJ.out (by omega)
        have hcell := (HB.out.cell (p := ⟨b, off + j, none⟩) hbW).trans hcellW
        clear hcellW
        go_wp2_with fail
        refine (add_nil A5 n5 c5 wr).mono ?_
        rintro e w' ⟨rfl, rfl⟩
        clear HRJ
        go_wp2_with fail
        refine hsum.out.mono ?_
        rintro e w6 ⟨rfl, hb6⟩
        have B6 := Lib.hid (HB.out.trans (hb6.mono HB.out.size))
        have hc6 := hsha.out w6 hb6
        clear hsha hb6 HH HH5
        have hc6' := Lib.hid hc6
        clear hc6
        go_wp2_with fail
        refine hc6'.out.mono ?_
        clear hc6'
        rintro e w7 ⟨rfl, hb7⟩
        have B7 := Lib.hid (B6.out.trans (hb7.mono B6.out.size))
        have c7 := Lib.hid (hsn.out w7 (HK.out.below B7.out))
        clear hb7 B6 hsn
        go_wp2_with fail
        refine c7.out.mono ?_
        clear c7
        rintro e w8 ⟨rfl, hb8⟩
        have B8 := Lib.hid (B7.out.trans (hb8.mono B7.out.size))
        have c8 := Lib.hid (hs0.out w8 (HK.out.below B8.out))
        clear hb8 B7 hs0
        go_wp2_with fail
        refine c8.out.mono ?_
        clear c8
        rintro e w9 ⟨rfl, hb9⟩
        have B9 := Lib.hid (B8.out.trans (hb9.mono B8.out.size))
        have c9 := Lib.hid (lives_true w9 (HK.out.below B9.out))
        clear hb9 B8
        go_wp2_with fail
        refine (len_nil w9).mono ?_
        rintro e w' ⟨rfl, rfl⟩
        go_wp2_with fail
        refine c9.out.mono ?_
        clear c9
        rintro e w10 ⟨rfl, hb10⟩
        go_wp2
        go_ret
        exact ⟨rfl, B9.out.trans (hb10.mono B9.out.size)⟩
theorem isRows_of (x : Addr) (l c : Nat) (A : Nat → Option Addr) (L C : Nat → Nat) (Z : Nat → List Int) (W : World) (hl : l ≤ c) (hm : c ≤ maxLen)
    (hrow : ∀ r, r < c → W.cell? (x.add r) = some (.slice (A r) (L r) (C r)) ∧ L r ≤ C r ∧ C r ≤ maxLen ∧ (Z r).length = C r ∧ (∀ n ∈ Z r, (Lit.int .u8 n).wf = true) ∧ (A r = none → C r = 0) ∧
        ∀ a', A r = some a' → 0 ≤ a'.block ∧ ∀ d, d < C r → W.cell? (a'.add d) = some (.int .u8 ((Z r).getD d 0))) : IsRows W (some x) l c := by
  · refine .inr ⟨hl, hm, fun r hr => ?_⟩
    have h0 := (hrow r (by omega)).1
    have hsp : x.spot = none := World.cell?_spot (by simpa [Addr.add] using (hrow 0 (by omega)).1)
    obtain ⟨b, off, sp⟩ := x
    obtain rfl : sp = none := hsp
    have hadd : ∀ i, (⟨b, off, none⟩ : Addr).add i = ⟨b, off + i, none⟩ := fun i => by unfold Addr.add; split <;> simp_all
    refine ⟨b, off, rfl, (by rw [hadd] at h0; exact block_lt_of_cell h0), ?_⟩
    obtain ⟨h1, h2, h3, h4, h5, h6, h7⟩ := hrow r (by omega)
    rw [hadd] at h1
    have hI : IsRow .u8 W (A r) (L r) (C r) (Z r) := by
      cases hA : A r with
      | none =>
        have hC := h6 hA
        refine .inl ⟨rfl, by omega, hC, List.eq_nil_of_length_eq_zero (by omega)⟩
      | some a' =>
        refine .inr ⟨a', rfl, h2, h3, h4, fun i hi => (h7 a' hA).2 i (by omega), h5⟩
    obtain ⟨lr, hh, hcc⟩ := Held.of_isRow hI
    exact ⟨A r, L r, C r, lr, h1, hh, hcc⟩
end Go.Proofs.YtifljaandphkpaaDoor
