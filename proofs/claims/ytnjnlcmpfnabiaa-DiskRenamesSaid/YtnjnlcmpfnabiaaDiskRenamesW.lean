/-
  The walk of the law DiskRenames: it answers true and writes nothing that was there.
-/
import Derived.Test.YtnjnlcmpfnabiaaHd
import Derived.Test.YtnjnlcmpfnabiaaRen
import Derived.Test.YtnjnlcmpfnabiaaGe
namespace Go.Proofs.Ytnjnlcmpfnabiaa
open Go.RowKit Go.Maps
set_option linter.unusedVariables false
set_option maxRecDepth 100000

theorem outN_ok : nameOk ⟨#[111, 117, 116]⟩ = true := by decide
theorem tmpN_ok : nameOk ⟨#[116, 109, 112]⟩ = true := by decide
theorem out_tmp : ltS ⟨#[111, 117, 116]⟩ ⟨#[116, 109, 112]⟩ = true := by unfold ltS; rw [ByteArray.toList_eq, ByteArray.toList_eq]; rfl
theorem ZsAt.of_isRow {w : World} {A : Option Addr} {n c : Nat} {zs : List Int} (h : IsRow .i64 w A n c zs) : ZsAt w A n (zs.take n) ∧ ∀ z ∈ zs.take n, z ≤ 9223372036854775807 := by
  rcases h with ⟨rfl, rfl, rfl, rfl⟩ | ⟨x, rfl, hl, hm, hz, hcell, hwz⟩
  · exact ⟨⟨rfl, fun h0 => absurd h0 (Nat.lt_irrefl 0)⟩, fun z hz => by simp at hz⟩
  · refine ⟨⟨by rw [List.length_take]; omega, fun h0 => ?_⟩, fun z hzm => ?_⟩
    · have c0 := hcell 0 (by omega)
      have hsp : x.spot = none := World.cell?_spot (by simpa [Addr.add] using c0)
      obtain ⟨b, off, sp⟩ := x
      obtain rfl : sp = none := hsp
      refine ⟨b, off, rfl, ?_, fun j z hj => ?_⟩
      · have e : (⟨b, off, none⟩ : Addr).add 0 = ⟨b, off + 0, none⟩ := rfl
        rw [e] at c0
        exact World.block_lt_of_cell? w _ c0
      · have hj1 := (List.getElem?_eq_some_iff.1 hj).1
        rw [List.length_take] at hj1
        have cj := hcell j (by omega)
        have e : (⟨b, off, none⟩ : Addr).add j = ⟨b, off + j, none⟩ := by unfold Addr.add; split <;> simp_all
        rw [e] at cj
        rw [cj]
        rw [List.getElem?_take_of_lt (by omega)] at hj
        rw [List.getD_eq_getElem?_getD, hj]
        rfl
    · exact (bounds_i64 (hwz z (List.mem_of_mem_take hzm))).2
theorem SLine.toRowZ {w : World} {A : Option Addr} {n c : Nat} {zs : List Int} (h : SLine 1 w A n c (cellsZ zs)) (hz : ∀ z ∈ zs, 0 ≤ z ∧ z ≤ 255) : RowZ w A n zs := by
  have hl := h.1
  rw [cellsZ_length] at hl
  refine ⟨by omega, hz, fun h0 => ?_⟩
  obtain ⟨g, off, e, hg, hc, _⟩ := h.at h0
  refine ⟨g, off, e, hg, fun i hi => ?_⟩
  rw [hc i (by omega)]
  unfold cellsZ
  rw [List.getElem?_map, List.getElem?_eq_getElem (by omega), List.getD_eq_getElem?_getD, List.getElem?_eq_getElem (by omega)]
  rfl
set_option maxHeartbeats 3200000 in
theorem renames_sure (xA : Option Addr) (xl xc : Nat) (xz : List Int) (yA : Option Addr) (yl yc : Nat) (yz : List Int) (dir : Int) (kA : Option Addr) (kl kc : Nat) (kz : List Int) (W : World) (hx : RowZ W xA xl xz) (hy : RowZ W yA yl yz) (hd : -9223372036854775808 ≤ dir ∧ dir ≤ 9223372036854775807) (hk : ZsAt W kA kl kz) (hkz : ∀ z ∈ kz, z ≤ 9223372036854775807) (h1 : xl ≤ 300) (h2 : yl ≤ 300) (h3 : kl ≤ 300) :
    Calls Try.prog 6 #[.agg #[.slice xA xl xc, .slice yA yl yc], .agg #[.int .i64 dir, .slice kA kl kc], .bool true] W fun e w' => e = .returned (.bool true) ∧ Below W.heap.size W w' := by
  have g1 : ¬ (300 : Int) < (xl : Int) := by omega
  have g2 : ¬ (300 : Int) < (yl : Int) := by omega
  have g3 : ¬ (300 : Int) < (kl : Int) := by omega
  obtain ⟨W2, hW2⟩ : ∃ W2, (W.alloc (.cells #[.slice xA xl xc, .slice yA yl yc] 39)).alloc (.cells #[.int .i64 dir, .slice kA kl kc] 32) = W2 := ⟨_, rfl⟩
  have hB2 : Below W.heap.size W W2 := by rw [← hW2]; exact ((Below.refl _ W).alloc (Nat.le_refl _) _).alloc (by simp) _
  have hs2 : W2.heap.size = W.heap.size + 2 := by rw [← hW2]; simp
  have q0 : W2.heap[W.heap.size]? = some (.cells #[.slice xA xl xc, .slice yA yl yc] 39 (0, 0)) := by
    rw [← hW2]
    show ((W.heap.push _).push _)[W.heap.size]? = _
    rw [Array.getElem?_push_lt (by simp), Array.getElem_push_eq]
  have q1 : W2.heap[W.heap.size + 1]? = some (.cells #[.int .i64 dir, .slice kA kl kc] 32 (0, 0)) := by
    rw [← hW2]
    show ((W.heap.push _).push _)[W.heap.size + 1]? = _
    rw [show W.heap.size + 1 = (W.heap.push (Obj.cells #[.slice xA xl xc, .slice yA yl yc] 39 (0, 0))).size by simp, Array.getElem?_push_size]
  have c0 : W2.cell? ⟨W.heap.size, 0, none⟩ = some (.slice xA xl xc) := by rw [cell_of_row W2 W.heap.size 0 _ _ (0, 0) q0]; rfl
  have c1 : W2.cell? ⟨W.heap.size, 1, none⟩ = some (.slice yA yl yc) := by rw [cell_of_row W2 W.heap.size 1 _ _ (0, 0) q0]; rfl
  have c2 : W2.cell? ⟨W.heap.size + 1, 0, none⟩ = some (.int .i64 dir) := by rw [cell_of_row W2 (W.heap.size + 1) 0 _ _ (0, 0) q1]; rfl
  have c3 : W2.cell? ⟨W.heap.size + 1, 1, none⟩ = some (.slice kA kl kc) := by rw [cell_of_row W2 (W.heap.size + 1) 1 _ _ (0, 0) q1]; rfl
  have HX := Lib.hid (hx.below hB2)
  have HY := Lib.hid (hy.below hB2)
  have HK := Lib.hid (And.intro (hk.below hB2) (And.intro hkz hd))
  have HQ := Lib.hid q1
  have HB2 := Lib.hid hB2
  have hcx : (cellsZ xz).length ≤ 300 := by rw [cellsZ_length, hx.1]; exact h1
  have hcy : (cellsZ yz).length ≤ 300 := by rw [cellsZ_length, hy.1]; exact h2
  have HCX := Lib.hid hcx
  have HCY := Lib.hid hcy
  have HLV := Lib.hid lives_any
  have HNEW := Lib.hid (IsD.new 1048576 (by omega))
  have HS2 := Lib.hid hs2
  clear hx hy hk hkz hd hB2 q0 q1 hcx hcy hs2
  go_enter Try.func6, Try.ntmps6
  go_upto_region 1 with fail
  go_region
  go_wp2_with fail
  refine (HNEW.out _).mono ?_
  rintro e w1 ⟨rfl, own1, ho1, H1, hB1⟩
  have D1 : DF W2 w1 W2.heap.size own1 (RD.fresh 1048576) := ⟨fun i hi => ho1 i hi, (Below.refl _ W2).drew.trans hB1, H1⟩
  clear ho1 H1 hB1 HNEW
  have HC1 := Lib.hid (D1.create (ren1 ⟨#[111, 117, 116]⟩ outN_ok) (by simp [RD.size, RD.fresh]) (by decide))
  clear D1
  go_wp2_with fail
  with_reducible refine HC1.out.mono ?_
  rintro e w2 ⟨rfl, own2, O2, D2⟩
  have HC2 := Lib.hid (D2.append0 (c := xc) HX.out (ren2 ⟨#[111, 117, 116]⟩ (cellsZ xz) outN_ok HCX.out) (by simp [RD.size, renR1]) (by decide) (by omega))
  clear O2 D2 HC1
  go_wp2_with fail
  with_reducible refine HC2.out.mono ?_
  rintro e w3 ⟨rfl, own3, O3, D3⟩
  have HC3 := Lib.hid (D3.sync (ren3 ⟨#[111, 117, 116]⟩ (cellsZ xz) outN_ok) (by simp [RD.size, renR2]) (by decide))
  clear O3 D3 HC2
  go_wp2_with fail
  with_reducible refine HC3.out.mono ?_
  rintro e w4 ⟨rfl, own4, O4, D4⟩
  have HC4 := Lib.hid (D4.syncDir (ren4 ⟨#[111, 117, 116]⟩ (cellsZ xz)) (by simp [RD.size, renR3]))
  clear O4 D4 HC3
  go_wp2_with fail
  with_reducible refine HC4.out.mono ?_
  rintro e w5 ⟨rfl, own5, O5, D5⟩
  have HC5 := Lib.hid (D5.create (ren5 ⟨#[111, 117, 116]⟩ ⟨#[116, 109, 112]⟩ (cellsZ xz) tmpN_ok) (by simp [RD.size, renR4]) (by decide))
  clear O5 D5 HC4
  go_wp2_with fail
  with_reducible refine HC5.out.mono ?_
  rintro e w6 ⟨rfl, own6, O6, D6⟩
  have HC6 := Lib.hid (D6.append0 (c := yc) HY.out (ren6 ⟨#[111, 117, 116]⟩ ⟨#[116, 109, 112]⟩ (cellsZ xz) (cellsZ yz) tmpN_ok out_tmp HCX.out HCY.out) (by simp [RD.size, renR5]) (by decide) (by omega))
  clear O6 D6 HC5
  go_wp2_with fail
  with_reducible refine HC6.out.mono ?_
  rintro e w7 ⟨rfl, own7, O7, D7⟩
  have HC7 := Lib.hid (D7.sync (ren7 ⟨#[111, 117, 116]⟩ ⟨#[116, 109, 112]⟩ (cellsZ xz) (cellsZ yz) tmpN_ok out_tmp) (by simp [RD.size, renR6]) (by decide))
  clear O7 D7 HC6
  go_wp2_with fail
  with_reducible refine HC7.out.mono ?_
  rintro e w8 ⟨rfl, own8, O8, D8⟩
  have HC8 := Lib.hid (D8.rename (ren8 ⟨#[111, 117, 116]⟩ ⟨#[116, 109, 112]⟩ (cellsZ xz) (cellsZ yz) outN_ok tmpN_ok out_tmp) (by simp [RD.size, renR7]) (by decide) (by decide))
  clear O8 D8 HC7
  go_wp2_with fail
  with_reducible refine HC8.out.mono ?_
  rintro e w9 ⟨rfl, own9, O9, D9⟩
  clear O9 HC8
  have HC9 := Lib.hid (D9.syncDir (ren9 ⟨#[111, 117, 116]⟩ ⟨#[116, 109, 112]⟩ (cellsZ xz) (cellsZ yz) out_tmp) (by simp [RD.size, renR8]))
  clear D9
  go_wp2_with fail
  with_reducible refine HC9.out.mono ?_
  rintro e wA ⟨rfl, ownA, OA, DA⟩
  clear OA HC9
  have qA := (DA.2.1.block (W.heap.size + 1) (by have := HS2.out; omega)).trans HQ.out
  have k2 : wA.cell? ⟨W.heap.size + 1, 0, none⟩ = some (.int .i64 dir) := by rw [cell_of_row wA (W.heap.size + 1) 0 _ _ (0, 0) qA]; rfl
  have k3 : wA.cell? ⟨W.heap.size + 1, 1, none⟩ = some (.slice kA kl kc) := by rw [cell_of_row wA (W.heap.size + 1) 1 _ _ (0, 0) qA]; rfl
  have HCA := Lib.hid (DA.crash0 (kc := kc) (renc9 ⟨#[111, 117, 116]⟩ ⟨#[116, 109, 112]⟩ (cellsZ xz) (cellsZ yz) dir kz) HK.out.2.2 HK.out.1 (by omega) HK.out.2.1)
  clear DA qA
  go_wp2_with fail
  with_reducible refine HCA.out.mono ?_
  rintro e wB ⟨⟨vB, rfl⟩, ownB, OB, DB⟩
  have qB := (DB.2.1.block (W.heap.size + 1) (by have := HS2.out; omega)).trans HQ.out
  have m2 : wB.cell? ⟨W.heap.size + 1, 0, none⟩ = some (.int .i64 dir) := by rw [cell_of_row wB (W.heap.size + 1) 0 _ _ (0, 0) qB]; rfl
  have hRD := DB.2.2.read_yes ⟨#[111, 117, 116]⟩ (rend1 ⟨#[111, 117, 116]⟩ (cellsZ yz) 9).1
  rw [(rend1 ⟨#[111, 117, 116]⟩ (cellsZ yz) 9).2] at hRD
  dsimp only at hRD
  have HRD := Lib.hid hRD
  have HB := Lib.hid (And.intro DB.2.1 DB.2.2)
  clear OB DB qB HCA hRD k2 k3
  go_wp2_with fail
  refine HRD.out.mono ?_
  rintro e wC ⟨⟨A', c', rfl, hsl, hfr⟩, hBC⟩
  have hrow : RowZ wC A' (cellsZ yz).length yz := by
    have hz := HY.out
    have hl := hsl.1
    rw [cellsZ_length] at hsl ⊢
    exact hsl.toRowZ hz.2.1
  have hlen : (cellsZ yz).length = yz.length := cellsZ_length _
  obtain ⟨nn, hnn⟩ : ∃ nn, (cellsZ yz).length = nn := ⟨_, rfl⟩
  rw [hnn] at hrow hsl ⊢
  have mC : wC.cell? ⟨W.heap.size + 1, 0, none⟩ = some (.int .i64 dir) := (hBC.cell (p := ⟨W.heap.size + 1, 0, none⟩) (World.block_lt_of_cell? _ _ m2)).trans m2
  have HD := Lib.hid (And.intro hrow (And.intro hBC HB.out.2))
  clear hrow hsl hfr hBC m2 hlen hnn HRD
  have HRN := Lib.hid ((HD.out.2.2.below HD.out.2.1).read_no ⟨#[116, 109, 112]⟩ (rend1t ⟨#[111, 117, 116]⟩ ⟨#[116, 109, 112]⟩ (cellsZ yz) out_tmp 9))
  go_wp2_with fail
  refine HRN.out.mono ?_
  rintro e wE ⟨rfl, hBE⟩
  have hv1 := conv_row (HD.out.1.below hBE) c'
  have hv2 := conv_row (HY.out.below (HB.out.1.trans ((HD.out.2.1.trans (hBE.mono HD.out.2.1.size)).mono HB.out.1.size))) yc
  have HE := Lib.hid (HB2.out.trans ((HB.out.1.trans ((HD.out.2.1.trans (hBE.mono HD.out.2.1.size)).mono HB.out.1.size)).mono HB2.out.size))
  clear hBE mC HRN
  go_wp2_with fail
  refine (HLV.out _).mono ?_
  rintro e wF ⟨rfl, hBF⟩
  have HEND := Lib.hid (HE.out.trans (hBF.mono HE.out.size))
  clear hBF
  go_wp2
  go_ret
  exact ⟨rfl, HEND.out⟩
set_option maxHeartbeats 3200000 in
theorem renames_two (xA : Option Addr) (xl xc : Nat) (xz : List Int) (yA : Option Addr) (yl yc : Nat) (yz : List Int) (dir : Int) (kA : Option Addr) (kl kc : Nat) (kz : List Int) (W : World) (hx : RowZ W xA xl xz) (hy : RowZ W yA yl yz) (hd : -9223372036854775808 ≤ dir ∧ dir ≤ 9223372036854775807) (hk : ZsAt W kA kl kz) (hkz : ∀ z ∈ kz, z ≤ 9223372036854775807) (h1 : xl ≤ 300) (h2 : yl ≤ 300) (h3 : kl ≤ 300) (h4 : 2 ≤ dir) :
    Calls Try.prog 6 #[.agg #[.slice xA xl xc, .slice yA yl yc], .agg #[.int .i64 dir, .slice kA kl kc], .bool false] W fun e w' => e = .returned (.bool true) ∧ Below W.heap.size W w' := by
  have g1 : ¬ (300 : Int) < (xl : Int) := by omega
  have g2 : ¬ (300 : Int) < (yl : Int) := by omega
  have g3 : ¬ (300 : Int) < (kl : Int) := by omega
  obtain ⟨W2, hW2⟩ : ∃ W2, (W.alloc (.cells #[.slice xA xl xc, .slice yA yl yc] 39)).alloc (.cells #[.int .i64 dir, .slice kA kl kc] 32) = W2 := ⟨_, rfl⟩
  have hB2 : Below W.heap.size W W2 := by rw [← hW2]; exact ((Below.refl _ W).alloc (Nat.le_refl _) _).alloc (by simp) _
  have hs2 : W2.heap.size = W.heap.size + 2 := by rw [← hW2]; simp
  have q0 : W2.heap[W.heap.size]? = some (.cells #[.slice xA xl xc, .slice yA yl yc] 39 (0, 0)) := by
    rw [← hW2]
    show ((W.heap.push _).push _)[W.heap.size]? = _
    rw [Array.getElem?_push_lt (by simp), Array.getElem_push_eq]
  have q1 : W2.heap[W.heap.size + 1]? = some (.cells #[.int .i64 dir, .slice kA kl kc] 32 (0, 0)) := by
    rw [← hW2]
    show ((W.heap.push _).push _)[W.heap.size + 1]? = _
    rw [show W.heap.size + 1 = (W.heap.push (Obj.cells #[.slice xA xl xc, .slice yA yl yc] 39 (0, 0))).size by simp, Array.getElem?_push_size]
  have c0 : W2.cell? ⟨W.heap.size, 0, none⟩ = some (.slice xA xl xc) := by rw [cell_of_row W2 W.heap.size 0 _ _ (0, 0) q0]; rfl
  have c1 : W2.cell? ⟨W.heap.size, 1, none⟩ = some (.slice yA yl yc) := by rw [cell_of_row W2 W.heap.size 1 _ _ (0, 0) q0]; rfl
  have c2 : W2.cell? ⟨W.heap.size + 1, 0, none⟩ = some (.int .i64 dir) := by rw [cell_of_row W2 (W.heap.size + 1) 0 _ _ (0, 0) q1]; rfl
  have c3 : W2.cell? ⟨W.heap.size + 1, 1, none⟩ = some (.slice kA kl kc) := by rw [cell_of_row W2 (W.heap.size + 1) 1 _ _ (0, 0) q1]; rfl
  have HX := Lib.hid (hx.below hB2)
  have HY := Lib.hid (hy.below hB2)
  have HK := Lib.hid (And.intro (hk.below hB2) (And.intro hkz hd))
  have HQ := Lib.hid q1
  have HB2 := Lib.hid hB2
  have hcx : (cellsZ xz).length ≤ 300 := by rw [cellsZ_length, hx.1]; exact h1
  have hcy : (cellsZ yz).length ≤ 300 := by rw [cellsZ_length, hy.1]; exact h2
  have HCX := Lib.hid hcx
  have HCY := Lib.hid hcy
  have HLV := Lib.hid lives_any
  have HNEW := Lib.hid (IsD.new 1048576 (by omega))
  have HS2 := Lib.hid hs2
  clear hx hy hk hkz hd hB2 q0 q1 hcx hcy hs2
  go_enter Try.func6, Try.ntmps6
  go_upto_region 1 with fail
  go_region
  go_wp2_with fail
  refine (HNEW.out _).mono ?_
  rintro e w1 ⟨rfl, own1, ho1, H1, hB1⟩
  have D1 : DF W2 w1 W2.heap.size own1 (RD.fresh 1048576) := ⟨fun i hi => ho1 i hi, (Below.refl _ W2).drew.trans hB1, H1⟩
  clear ho1 H1 hB1 HNEW
  have HC1 := Lib.hid (D1.create (ren1 ⟨#[111, 117, 116]⟩ outN_ok) (by simp [RD.size, RD.fresh]) (by decide))
  clear D1
  go_wp2_with fail
  with_reducible refine HC1.out.mono ?_
  rintro e w2 ⟨rfl, own2, O2, D2⟩
  have HC2 := Lib.hid (D2.append0 (c := xc) HX.out (ren2 ⟨#[111, 117, 116]⟩ (cellsZ xz) outN_ok HCX.out) (by simp [RD.size, renR1]) (by decide) (by omega))
  clear O2 D2 HC1
  go_wp2_with fail
  with_reducible refine HC2.out.mono ?_
  rintro e w3 ⟨rfl, own3, O3, D3⟩
  have HC3 := Lib.hid (D3.sync (ren3 ⟨#[111, 117, 116]⟩ (cellsZ xz) outN_ok) (by simp [RD.size, renR2]) (by decide))
  clear O3 D3 HC2
  go_wp2_with fail
  with_reducible refine HC3.out.mono ?_
  rintro e w4 ⟨rfl, own4, O4, D4⟩
  have HC4 := Lib.hid (D4.syncDir (ren4 ⟨#[111, 117, 116]⟩ (cellsZ xz)) (by simp [RD.size, renR3]))
  clear O4 D4 HC3
  go_wp2_with fail
  with_reducible refine HC4.out.mono ?_
  rintro e w5 ⟨rfl, own5, O5, D5⟩
  have HC5 := Lib.hid (D5.create (ren5 ⟨#[111, 117, 116]⟩ ⟨#[116, 109, 112]⟩ (cellsZ xz) tmpN_ok) (by simp [RD.size, renR4]) (by decide))
  clear O5 D5 HC4
  go_wp2_with fail
  with_reducible refine HC5.out.mono ?_
  rintro e w6 ⟨rfl, own6, O6, D6⟩
  have HC6 := Lib.hid (D6.append0 (c := yc) HY.out (ren6 ⟨#[111, 117, 116]⟩ ⟨#[116, 109, 112]⟩ (cellsZ xz) (cellsZ yz) tmpN_ok out_tmp HCX.out HCY.out) (by simp [RD.size, renR5]) (by decide) (by omega))
  clear O6 D6 HC5
  go_wp2_with fail
  with_reducible refine HC6.out.mono ?_
  rintro e w7 ⟨rfl, own7, O7, D7⟩
  have HC7 := Lib.hid (D7.sync (ren7 ⟨#[111, 117, 116]⟩ ⟨#[116, 109, 112]⟩ (cellsZ xz) (cellsZ yz) tmpN_ok out_tmp) (by simp [RD.size, renR6]) (by decide))
  clear O7 D7 HC6
  go_wp2_with fail
  with_reducible refine HC7.out.mono ?_
  rintro e w8 ⟨rfl, own8, O8, D8⟩
  have HC8 := Lib.hid (D8.rename (ren8 ⟨#[111, 117, 116]⟩ ⟨#[116, 109, 112]⟩ (cellsZ xz) (cellsZ yz) outN_ok tmpN_ok out_tmp) (by simp [RD.size, renR7]) (by decide) (by decide))
  clear O8 D8 HC7
  go_wp2_with fail
  with_reducible refine HC8.out.mono ?_
  rintro e w9 ⟨rfl, own9, O9, D9⟩
  clear O9 HC8
  have DA := D9
  clear D9
  have qA := (DA.2.1.block (W.heap.size + 1) (by have := HS2.out; omega)).trans HQ.out
  have k2 : w9.cell? ⟨W.heap.size + 1, 0, none⟩ = some (.int .i64 dir) := by rw [cell_of_row w9 (W.heap.size + 1) 0 _ _ (0, 0) qA]; rfl
  have k3 : w9.cell? ⟨W.heap.size + 1, 1, none⟩ = some (.slice kA kl kc) := by rw [cell_of_row w9 (W.heap.size + 1) 1 _ _ (0, 0) qA]; rfl
  have HCA := Lib.hid (DA.crash0 (kc := kc) (renc8a ⟨#[111, 117, 116]⟩ ⟨#[116, 109, 112]⟩ (cellsZ xz) (cellsZ yz) dir kz h4 out_tmp) HK.out.2.2 HK.out.1 (by omega) HK.out.2.1)
  clear DA qA
  go_wp2_with fail
  with_reducible refine HCA.out.mono ?_
  rintro e wB ⟨⟨vB, rfl⟩, ownB, OB, DB⟩
  have qB := (DB.2.1.block (W.heap.size + 1) (by have := HS2.out; omega)).trans HQ.out
  have m2 : wB.cell? ⟨W.heap.size + 1, 0, none⟩ = some (.int .i64 dir) := by rw [cell_of_row wB (W.heap.size + 1) 0 _ _ (0, 0) qB]; rfl
  have hRD := DB.2.2.read_yes ⟨#[111, 117, 116]⟩ (rend1 ⟨#[111, 117, 116]⟩ (cellsZ yz) 8).1
  rw [(rend1 ⟨#[111, 117, 116]⟩ (cellsZ yz) 8).2] at hRD
  dsimp only at hRD
  have HRD := Lib.hid hRD
  have HB := Lib.hid (And.intro DB.2.1 DB.2.2)
  clear OB DB qB HCA hRD k2 k3
  go_wp2_with fail
  refine HRD.out.mono ?_
  rintro e wC ⟨⟨A', c', rfl, hsl, hfr⟩, hBC⟩
  have hrow : RowZ wC A' (cellsZ yz).length yz := by
    have hz := HY.out
    have hl := hsl.1
    rw [cellsZ_length] at hsl ⊢
    exact hsl.toRowZ hz.2.1
  have hlen : (cellsZ yz).length = yz.length := cellsZ_length _
  obtain ⟨nn, hnn⟩ : ∃ nn, (cellsZ yz).length = nn := ⟨_, rfl⟩
  rw [hnn] at hrow hsl ⊢
  have mC : wC.cell? ⟨W.heap.size + 1, 0, none⟩ = some (.int .i64 dir) := (hBC.cell (p := ⟨W.heap.size + 1, 0, none⟩) (World.block_lt_of_cell? _ _ m2)).trans m2
  have HD := Lib.hid (And.intro hrow (And.intro hBC HB.out.2))
  clear hrow hsl hfr hBC m2 hlen hnn HRD
  have HRN := Lib.hid ((HD.out.2.2.below HD.out.2.1).read_no ⟨#[116, 109, 112]⟩ (rend1t ⟨#[111, 117, 116]⟩ ⟨#[116, 109, 112]⟩ (cellsZ yz) out_tmp 8))
  go_wp2_with fail
  refine HRN.out.mono ?_
  rintro e wE ⟨rfl, hBE⟩
  have hv1 := conv_row (HD.out.1.below hBE) c'
  have hv2 := conv_row (HY.out.below (HB.out.1.trans ((HD.out.2.1.trans (hBE.mono HD.out.2.1.size)).mono HB.out.1.size))) yc
  have HE := Lib.hid (HB2.out.trans ((HB.out.1.trans ((HD.out.2.1.trans (hBE.mono HD.out.2.1.size)).mono HB.out.1.size)).mono HB2.out.size))
  clear hBE mC HRN
  go_wp2_with fail
  refine (HLV.out _).mono ?_
  rintro e wF ⟨rfl, hBF⟩
  have HEND := Lib.hid (HE.out.trans (hBF.mono HE.out.size))
  clear hBF
  go_wp2
  go_ret
  exact ⟨rfl, HEND.out⟩
set_option maxHeartbeats 3200000 in
theorem renames_none (xA : Option Addr) (xl xc : Nat) (xz : List Int) (yA : Option Addr) (yl yc : Nat) (yz : List Int) (dir : Int) (kA : Option Addr) (kl kc : Nat) (kz : List Int) (W : World) (hx : RowZ W xA xl xz) (hy : RowZ W yA yl yz) (hd : -9223372036854775808 ≤ dir ∧ dir ≤ 9223372036854775807) (hk : ZsAt W kA kl kz) (hkz : ∀ z ∈ kz, z ≤ 9223372036854775807) (h1 : xl ≤ 300) (h2 : yl ≤ 300) (h3 : kl ≤ 300) (h4 : dir ≤ 0) :
    Calls Try.prog 6 #[.agg #[.slice xA xl xc, .slice yA yl yc], .agg #[.int .i64 dir, .slice kA kl kc], .bool false] W fun e w' => e = .returned (.bool true) ∧ Below W.heap.size W w' := by
  have g1 : ¬ (300 : Int) < (xl : Int) := by omega
  have g2 : ¬ (300 : Int) < (yl : Int) := by omega
  have g3 : ¬ (300 : Int) < (kl : Int) := by omega
  obtain ⟨W2, hW2⟩ : ∃ W2, (W.alloc (.cells #[.slice xA xl xc, .slice yA yl yc] 39)).alloc (.cells #[.int .i64 dir, .slice kA kl kc] 32) = W2 := ⟨_, rfl⟩
  have hB2 : Below W.heap.size W W2 := by rw [← hW2]; exact ((Below.refl _ W).alloc (Nat.le_refl _) _).alloc (by simp) _
  have hs2 : W2.heap.size = W.heap.size + 2 := by rw [← hW2]; simp
  have q0 : W2.heap[W.heap.size]? = some (.cells #[.slice xA xl xc, .slice yA yl yc] 39 (0, 0)) := by
    rw [← hW2]
    show ((W.heap.push _).push _)[W.heap.size]? = _
    rw [Array.getElem?_push_lt (by simp), Array.getElem_push_eq]
  have q1 : W2.heap[W.heap.size + 1]? = some (.cells #[.int .i64 dir, .slice kA kl kc] 32 (0, 0)) := by
    rw [← hW2]
    show ((W.heap.push _).push _)[W.heap.size + 1]? = _
    rw [show W.heap.size + 1 = (W.heap.push (Obj.cells #[.slice xA xl xc, .slice yA yl yc] 39 (0, 0))).size by simp, Array.getElem?_push_size]
  have c0 : W2.cell? ⟨W.heap.size, 0, none⟩ = some (.slice xA xl xc) := by rw [cell_of_row W2 W.heap.size 0 _ _ (0, 0) q0]; rfl
  have c1 : W2.cell? ⟨W.heap.size, 1, none⟩ = some (.slice yA yl yc) := by rw [cell_of_row W2 W.heap.size 1 _ _ (0, 0) q0]; rfl
  have c2 : W2.cell? ⟨W.heap.size + 1, 0, none⟩ = some (.int .i64 dir) := by rw [cell_of_row W2 (W.heap.size + 1) 0 _ _ (0, 0) q1]; rfl
  have c3 : W2.cell? ⟨W.heap.size + 1, 1, none⟩ = some (.slice kA kl kc) := by rw [cell_of_row W2 (W.heap.size + 1) 1 _ _ (0, 0) q1]; rfl
  have HX := Lib.hid (hx.below hB2)
  have HY := Lib.hid (hy.below hB2)
  have HK := Lib.hid (And.intro (hk.below hB2) (And.intro hkz hd))
  have HQ := Lib.hid q1
  have HB2 := Lib.hid hB2
  have hcx : (cellsZ xz).length ≤ 300 := by rw [cellsZ_length, hx.1]; exact h1
  have hcy : (cellsZ yz).length ≤ 300 := by rw [cellsZ_length, hy.1]; exact h2
  have HCX := Lib.hid hcx
  have HCY := Lib.hid hcy
  have HLV := Lib.hid lives_any
  have HNEW := Lib.hid (IsD.new 1048576 (by omega))
  have HS2 := Lib.hid hs2
  clear hx hy hk hkz hd hB2 q0 q1 hcx hcy hs2
  go_enter Try.func6, Try.ntmps6
  go_upto_region 1 with fail
  go_region
  go_wp2_with fail
  refine (HNEW.out _).mono ?_
  rintro e w1 ⟨rfl, own1, ho1, H1, hB1⟩
  have D1 : DF W2 w1 W2.heap.size own1 (RD.fresh 1048576) := ⟨fun i hi => ho1 i hi, (Below.refl _ W2).drew.trans hB1, H1⟩
  clear ho1 H1 hB1 HNEW
  have HC1 := Lib.hid (D1.create (ren1 ⟨#[111, 117, 116]⟩ outN_ok) (by simp [RD.size, RD.fresh]) (by decide))
  clear D1
  go_wp2_with fail
  with_reducible refine HC1.out.mono ?_
  rintro e w2 ⟨rfl, own2, O2, D2⟩
  have HC2 := Lib.hid (D2.append0 (c := xc) HX.out (ren2 ⟨#[111, 117, 116]⟩ (cellsZ xz) outN_ok HCX.out) (by simp [RD.size, renR1]) (by decide) (by omega))
  clear O2 D2 HC1
  go_wp2_with fail
  with_reducible refine HC2.out.mono ?_
  rintro e w3 ⟨rfl, own3, O3, D3⟩
  have HC3 := Lib.hid (D3.sync (ren3 ⟨#[111, 117, 116]⟩ (cellsZ xz) outN_ok) (by simp [RD.size, renR2]) (by decide))
  clear O3 D3 HC2
  go_wp2_with fail
  with_reducible refine HC3.out.mono ?_
  rintro e w4 ⟨rfl, own4, O4, D4⟩
  have HC4 := Lib.hid (D4.syncDir (ren4 ⟨#[111, 117, 116]⟩ (cellsZ xz)) (by simp [RD.size, renR3]))
  clear O4 D4 HC3
  go_wp2_with fail
  with_reducible refine HC4.out.mono ?_
  rintro e w5 ⟨rfl, own5, O5, D5⟩
  have HC5 := Lib.hid (D5.create (ren5 ⟨#[111, 117, 116]⟩ ⟨#[116, 109, 112]⟩ (cellsZ xz) tmpN_ok) (by simp [RD.size, renR4]) (by decide))
  clear O5 D5 HC4
  go_wp2_with fail
  with_reducible refine HC5.out.mono ?_
  rintro e w6 ⟨rfl, own6, O6, D6⟩
  have HC6 := Lib.hid (D6.append0 (c := yc) HY.out (ren6 ⟨#[111, 117, 116]⟩ ⟨#[116, 109, 112]⟩ (cellsZ xz) (cellsZ yz) tmpN_ok out_tmp HCX.out HCY.out) (by simp [RD.size, renR5]) (by decide) (by omega))
  clear O6 D6 HC5
  go_wp2_with fail
  with_reducible refine HC6.out.mono ?_
  rintro e w7 ⟨rfl, own7, O7, D7⟩
  have HC7 := Lib.hid (D7.sync (ren7 ⟨#[111, 117, 116]⟩ ⟨#[116, 109, 112]⟩ (cellsZ xz) (cellsZ yz) tmpN_ok out_tmp) (by simp [RD.size, renR6]) (by decide))
  clear O7 D7 HC6
  go_wp2_with fail
  with_reducible refine HC7.out.mono ?_
  rintro e w8 ⟨rfl, own8, O8, D8⟩
  have HC8 := Lib.hid (D8.rename (ren8 ⟨#[111, 117, 116]⟩ ⟨#[116, 109, 112]⟩ (cellsZ xz) (cellsZ yz) outN_ok tmpN_ok out_tmp) (by simp [RD.size, renR7]) (by decide) (by decide))
  clear O8 D8 HC7
  go_wp2_with fail
  with_reducible refine HC8.out.mono ?_
  rintro e w9 ⟨rfl, own9, O9, D9⟩
  clear O9 HC8
  have DA := D9
  clear D9
  have qA := (DA.2.1.block (W.heap.size + 1) (by have := HS2.out; omega)).trans HQ.out
  have k2 : w9.cell? ⟨W.heap.size + 1, 0, none⟩ = some (.int .i64 dir) := by rw [cell_of_row w9 (W.heap.size + 1) 0 _ _ (0, 0) qA]; rfl
  have k3 : w9.cell? ⟨W.heap.size + 1, 1, none⟩ = some (.slice kA kl kc) := by rw [cell_of_row w9 (W.heap.size + 1) 1 _ _ (0, 0) qA]; rfl
  have HCA := Lib.hid (DA.crash0 (kc := kc) (renc8b ⟨#[111, 117, 116]⟩ ⟨#[116, 109, 112]⟩ (cellsZ xz) (cellsZ yz) dir kz h4) HK.out.2.2 HK.out.1 (by omega) HK.out.2.1)
  clear DA qA
  go_wp2_with fail
  with_reducible refine HCA.out.mono ?_
  rintro e wB ⟨⟨vB, rfl⟩, ownB, OB, DB⟩
  have qB := (DB.2.1.block (W.heap.size + 1) (by have := HS2.out; omega)).trans HQ.out
  have m2 : wB.cell? ⟨W.heap.size + 1, 0, none⟩ = some (.int .i64 dir) := by rw [cell_of_row wB (W.heap.size + 1) 0 _ _ (0, 0) qB]; rfl
  have hRD := DB.2.2.read_yes ⟨#[111, 117, 116]⟩ (rend1 ⟨#[111, 117, 116]⟩ (cellsZ xz) 8).1
  rw [(rend1 ⟨#[111, 117, 116]⟩ (cellsZ xz) 8).2] at hRD
  dsimp only at hRD
  have HRD := Lib.hid hRD
  have HB := Lib.hid (And.intro DB.2.1 DB.2.2)
  clear OB DB qB HCA hRD k2 k3
  go_wp2_with fail
  refine HRD.out.mono ?_
  rintro e wC ⟨⟨A', c', rfl, hsl, hfr⟩, hBC⟩
  have hrow : RowZ wC A' (cellsZ xz).length xz := by
    have hz := HX.out
    have hl := hsl.1
    rw [cellsZ_length] at hsl ⊢
    exact hsl.toRowZ hz.2.1
  have hlen : (cellsZ xz).length = xz.length := cellsZ_length _
  obtain ⟨nn, hnn⟩ : ∃ nn, (cellsZ xz).length = nn := ⟨_, rfl⟩
  rw [hnn] at hrow hsl ⊢
  have mC : wC.cell? ⟨W.heap.size + 1, 0, none⟩ = some (.int .i64 dir) := (hBC.cell (p := ⟨W.heap.size + 1, 0, none⟩) (World.block_lt_of_cell? _ _ m2)).trans m2
  have HD := Lib.hid (And.intro hrow (And.intro hBC HB.out.2))
  clear hrow hsl hfr hBC m2 hlen hnn HRD
  have hv1 := conv_row HD.out.1 c'
  have hv2 := conv_row (HX.out.below (HB.out.1.trans (HD.out.2.1.mono HB.out.1.size))) xc
  have HE := Lib.hid (HB2.out.trans ((HB.out.1.trans (HD.out.2.1.mono HB.out.1.size)).mono HB2.out.size))
  go_wp2_with fail
  refine (HLV.out _).mono ?_
  rintro e wF ⟨rfl, hBF⟩
  have HEND := Lib.hid (HE.out.trans (hBF.mono HE.out.size))
  clear hBF
  go_wp2
  go_ret
  exact ⟨rfl, HEND.out⟩
set_option maxHeartbeats 3200000 in
theorem renames_one (xA : Option Addr) (xl xc : Nat) (xz : List Int) (yA : Option Addr) (yl yc : Nat) (yz : List Int) (kA : Option Addr) (kl kc : Nat) (kz : List Int) (W : World) (hx : RowZ W xA xl xz) (hy : RowZ W yA yl yz) (hk : ZsAt W kA kl kz) (hkz : ∀ z ∈ kz, z ≤ 9223372036854775807) (h1 : xl ≤ 300) (h2 : yl ≤ 300) (h3 : kl ≤ 300) :
    Calls Try.prog 6 #[.agg #[.slice xA xl xc, .slice yA yl yc], .agg #[.int .i64 1, .slice kA kl kc], .bool false] W fun e w' => e = .returned (.bool true) ∧ Below W.heap.size W w' := by
  have g1 : ¬ (300 : Int) < (xl : Int) := by omega
  have g2 : ¬ (300 : Int) < (yl : Int) := by omega
  have g3 : ¬ (300 : Int) < (kl : Int) := by omega
  obtain ⟨W2, hW2⟩ : ∃ W2, (W.alloc (.cells #[.slice xA xl xc, .slice yA yl yc] 39)).alloc (.cells #[.int .i64 1, .slice kA kl kc] 32) = W2 := ⟨_, rfl⟩
  have hB2 : Below W.heap.size W W2 := by rw [← hW2]; exact ((Below.refl _ W).alloc (Nat.le_refl _) _).alloc (by simp) _
  have hs2 : W2.heap.size = W.heap.size + 2 := by rw [← hW2]; simp
  have q0 : W2.heap[W.heap.size]? = some (.cells #[.slice xA xl xc, .slice yA yl yc] 39 (0, 0)) := by
    rw [← hW2]
    show ((W.heap.push _).push _)[W.heap.size]? = _
    rw [Array.getElem?_push_lt (by simp), Array.getElem_push_eq]
  have q1 : W2.heap[W.heap.size + 1]? = some (.cells #[.int .i64 1, .slice kA kl kc] 32 (0, 0)) := by
    rw [← hW2]
    show ((W.heap.push _).push _)[W.heap.size + 1]? = _
    rw [show W.heap.size + 1 = (W.heap.push (Obj.cells #[.slice xA xl xc, .slice yA yl yc] 39 (0, 0))).size by simp, Array.getElem?_push_size]
  have c0 : W2.cell? ⟨W.heap.size, 0, none⟩ = some (.slice xA xl xc) := by rw [cell_of_row W2 W.heap.size 0 _ _ (0, 0) q0]; rfl
  have c1 : W2.cell? ⟨W.heap.size, 1, none⟩ = some (.slice yA yl yc) := by rw [cell_of_row W2 W.heap.size 1 _ _ (0, 0) q0]; rfl
  have c2 : W2.cell? ⟨W.heap.size + 1, 0, none⟩ = some (.int .i64 1) := by rw [cell_of_row W2 (W.heap.size + 1) 0 _ _ (0, 0) q1]; rfl
  have c3 : W2.cell? ⟨W.heap.size + 1, 1, none⟩ = some (.slice kA kl kc) := by rw [cell_of_row W2 (W.heap.size + 1) 1 _ _ (0, 0) q1]; rfl
  have HX := Lib.hid (hx.below hB2)
  have HY := Lib.hid (hy.below hB2)
  have HK := Lib.hid (And.intro (hk.below hB2) (And.intro hkz (by omega : -9223372036854775808 ≤ (1 : Int) ∧ (1 : Int) ≤ 9223372036854775807)))
  have HQ := Lib.hid q1
  have HB2 := Lib.hid hB2
  have hcx : (cellsZ xz).length ≤ 300 := by rw [cellsZ_length, hx.1]; exact h1
  have hcy : (cellsZ yz).length ≤ 300 := by rw [cellsZ_length, hy.1]; exact h2
  have HCX := Lib.hid hcx
  have HCY := Lib.hid hcy
  have HLV := Lib.hid lives_any
  have HNEW := Lib.hid (IsD.new 1048576 (by omega))
  have HS2 := Lib.hid hs2
  clear hx hy hk hkz hB2 q0 q1 hcx hcy hs2
  go_enter Try.func6, Try.ntmps6
  go_upto_region 1 with fail
  go_region
  go_wp2_with fail
  refine (HNEW.out _).mono ?_
  rintro e w1 ⟨rfl, own1, ho1, H1, hB1⟩
  have D1 : DF W2 w1 W2.heap.size own1 (RD.fresh 1048576) := ⟨fun i hi => ho1 i hi, (Below.refl _ W2).drew.trans hB1, H1⟩
  clear ho1 H1 hB1 HNEW
  have HC1 := Lib.hid (D1.create (ren1 ⟨#[111, 117, 116]⟩ outN_ok) (by simp [RD.size, RD.fresh]) (by decide))
  clear D1
  go_wp2_with fail
  with_reducible refine HC1.out.mono ?_
  rintro e w2 ⟨rfl, own2, O2, D2⟩
  have HC2 := Lib.hid (D2.append0 (c := xc) HX.out (ren2 ⟨#[111, 117, 116]⟩ (cellsZ xz) outN_ok HCX.out) (by simp [RD.size, renR1]) (by decide) (by omega))
  clear O2 D2 HC1
  go_wp2_with fail
  with_reducible refine HC2.out.mono ?_
  rintro e w3 ⟨rfl, own3, O3, D3⟩
  have HC3 := Lib.hid (D3.sync (ren3 ⟨#[111, 117, 116]⟩ (cellsZ xz) outN_ok) (by simp [RD.size, renR2]) (by decide))
  clear O3 D3 HC2
  go_wp2_with fail
  with_reducible refine HC3.out.mono ?_
  rintro e w4 ⟨rfl, own4, O4, D4⟩
  have HC4 := Lib.hid (D4.syncDir (ren4 ⟨#[111, 117, 116]⟩ (cellsZ xz)) (by simp [RD.size, renR3]))
  clear O4 D4 HC3
  go_wp2_with fail
  with_reducible refine HC4.out.mono ?_
  rintro e w5 ⟨rfl, own5, O5, D5⟩
  have HC5 := Lib.hid (D5.create (ren5 ⟨#[111, 117, 116]⟩ ⟨#[116, 109, 112]⟩ (cellsZ xz) tmpN_ok) (by simp [RD.size, renR4]) (by decide))
  clear O5 D5 HC4
  go_wp2_with fail
  with_reducible refine HC5.out.mono ?_
  rintro e w6 ⟨rfl, own6, O6, D6⟩
  have HC6 := Lib.hid (D6.append0 (c := yc) HY.out (ren6 ⟨#[111, 117, 116]⟩ ⟨#[116, 109, 112]⟩ (cellsZ xz) (cellsZ yz) tmpN_ok out_tmp HCX.out HCY.out) (by simp [RD.size, renR5]) (by decide) (by omega))
  clear O6 D6 HC5
  go_wp2_with fail
  with_reducible refine HC6.out.mono ?_
  rintro e w7 ⟨rfl, own7, O7, D7⟩
  have HC7 := Lib.hid (D7.sync (ren7 ⟨#[111, 117, 116]⟩ ⟨#[116, 109, 112]⟩ (cellsZ xz) (cellsZ yz) tmpN_ok out_tmp) (by simp [RD.size, renR6]) (by decide))
  clear O7 D7 HC6
  go_wp2_with fail
  with_reducible refine HC7.out.mono ?_
  rintro e w8 ⟨rfl, own8, O8, D8⟩
  have HC8 := Lib.hid (D8.rename (ren8 ⟨#[111, 117, 116]⟩ ⟨#[116, 109, 112]⟩ (cellsZ xz) (cellsZ yz) outN_ok tmpN_ok out_tmp) (by simp [RD.size, renR7]) (by decide) (by decide))
  clear O8 D8 HC7
  go_wp2_with fail
  with_reducible refine HC8.out.mono ?_
  rintro e w9 ⟨rfl, own9, O9, D9⟩
  clear O9 HC8
  have DA := D9
  clear D9
  have qA := (DA.2.1.block (W.heap.size + 1) (by have := HS2.out; omega)).trans HQ.out
  have k2 : w9.cell? ⟨W.heap.size + 1, 0, none⟩ = some (.int .i64 1) := by rw [cell_of_row w9 (W.heap.size + 1) 0 _ _ (0, 0) qA]; rfl
  have k3 : w9.cell? ⟨W.heap.size + 1, 1, none⟩ = some (.slice kA kl kc) := by rw [cell_of_row w9 (W.heap.size + 1) 1 _ _ (0, 0) qA]; rfl
  have HCA := Lib.hid (DA.crash0 (kc := kc) (renc8c ⟨#[111, 117, 116]⟩ ⟨#[116, 109, 112]⟩ (cellsZ xz) (cellsZ yz) kz out_tmp) HK.out.2.2 HK.out.1 (by omega) HK.out.2.1)
  clear DA qA
  go_wp2_with fail
  with_reducible refine HCA.out.mono ?_
  rintro e wB ⟨⟨vB, rfl⟩, ownB, OB, DB⟩
  have qB := (DB.2.1.block (W.heap.size + 1) (by have := HS2.out; omega)).trans HQ.out
  have m2 : wB.cell? ⟨W.heap.size + 1, 0, none⟩ = some (.int .i64 1) := by rw [cell_of_row wB (W.heap.size + 1) 0 _ _ (0, 0) qB]; rfl
  have hRD := DB.2.2.read_yes ⟨#[111, 117, 116]⟩ (rend2 ⟨#[111, 117, 116]⟩ ⟨#[116, 109, 112]⟩ (cellsZ xz) (cellsZ yz) 8).1
  rw [(rend2 ⟨#[111, 117, 116]⟩ ⟨#[116, 109, 112]⟩ (cellsZ xz) (cellsZ yz) 8).2] at hRD
  dsimp only at hRD
  have HRD := Lib.hid hRD
  have HB := Lib.hid (And.intro DB.2.1 DB.2.2)
  clear OB DB qB HCA hRD k2 k3
  go_wp2_with fail
  refine HRD.out.mono ?_
  rintro e wC ⟨⟨A', c', rfl, hsl, hfr⟩, hBC⟩
  have hrow : RowZ wC A' (cellsZ xz).length xz := by
    have hz := HX.out
    have hl := hsl.1
    rw [cellsZ_length] at hsl ⊢
    exact hsl.toRowZ hz.2.1
  have hlen : (cellsZ xz).length = xz.length := cellsZ_length _
  obtain ⟨nn, hnn⟩ : ∃ nn, (cellsZ xz).length = nn := ⟨_, rfl⟩
  rw [hnn] at hrow hsl ⊢
  have mC : wC.cell? ⟨W.heap.size + 1, 0, none⟩ = some (.int .i64 1) := (hBC.cell (p := ⟨W.heap.size + 1, 0, none⟩) (World.block_lt_of_cell? _ _ m2)).trans m2
  have HD := Lib.hid (And.intro hrow (And.intro hBC HB.out.2))
  clear hrow hsl hfr hBC m2 hlen hnn HRD
  have hv1 := conv_row HD.out.1 c'
  have hv2 := conv_row (HX.out.below (HB.out.1.trans (HD.out.2.1.mono HB.out.1.size))) xc
  have HE := Lib.hid (HB2.out.trans ((HB.out.1.trans (HD.out.2.1.mono HB.out.1.size)).mono HB2.out.size))
  go_wp2_with fail
  refine (HLV.out _).mono ?_
  rintro e wF ⟨rfl, hBF⟩
  have HEND := Lib.hid (HE.out.trans (hBF.mono HE.out.size))
  clear hBF
  go_wp2
  go_ret
  exact ⟨rfl, HEND.out⟩
set_option maxHeartbeats 3200000 in
theorem renames_long (xA : Option Addr) (xl xc : Nat) (xz : List Int) (yA : Option Addr) (yl yc : Nat) (yz : List Int) (dir : Int) (kA : Option Addr) (kl kc : Nat) (kz : List Int) (W : World) (hx : RowZ W xA xl xz) (hy : RowZ W yA yl yz) (hd : -9223372036854775808 ≤ dir ∧ dir ≤ 9223372036854775807) (hk : ZsAt W kA kl kz) (hkz : ∀ z ∈ kz, z ≤ 9223372036854775807) (h4 : 300 < xl ∨ 300 < yl ∨ 300 < kl) (sure : Bool) :
    Calls Try.prog 6 #[.agg #[.slice xA xl xc, .slice yA yl yc], .agg #[.int .i64 dir, .slice kA kl kc], .bool sure] W fun e w' => e = .returned (.bool true) ∧ Below W.heap.size W w' := by
  obtain ⟨W2, hW2⟩ : ∃ W2, (W.alloc (.cells #[.slice xA xl xc, .slice yA yl yc] 39)).alloc (.cells #[.int .i64 dir, .slice kA kl kc] 32) = W2 := ⟨_, rfl⟩
  have hB2 : Below W.heap.size W W2 := by rw [← hW2]; exact ((Below.refl _ W).alloc (Nat.le_refl _) _).alloc (by simp) _
  have hs2 : W2.heap.size = W.heap.size + 2 := by rw [← hW2]; simp
  have q0 : W2.heap[W.heap.size]? = some (.cells #[.slice xA xl xc, .slice yA yl yc] 39 (0, 0)) := by
    rw [← hW2]
    show ((W.heap.push _).push _)[W.heap.size]? = _
    rw [Array.getElem?_push_lt (by simp), Array.getElem_push_eq]
  have q1 : W2.heap[W.heap.size + 1]? = some (.cells #[.int .i64 dir, .slice kA kl kc] 32 (0, 0)) := by
    rw [← hW2]
    show ((W.heap.push _).push _)[W.heap.size + 1]? = _
    rw [show W.heap.size + 1 = (W.heap.push (Obj.cells #[.slice xA xl xc, .slice yA yl yc] 39 (0, 0))).size by simp, Array.getElem?_push_size]
  have c0 : W2.cell? ⟨W.heap.size, 0, none⟩ = some (.slice xA xl xc) := by rw [cell_of_row W2 W.heap.size 0 _ _ (0, 0) q0]; rfl
  have c1 : W2.cell? ⟨W.heap.size, 1, none⟩ = some (.slice yA yl yc) := by rw [cell_of_row W2 W.heap.size 1 _ _ (0, 0) q0]; rfl
  have c2 : W2.cell? ⟨W.heap.size + 1, 0, none⟩ = some (.int .i64 dir) := by rw [cell_of_row W2 (W.heap.size + 1) 0 _ _ (0, 0) q1]; rfl
  have c3 : W2.cell? ⟨W.heap.size + 1, 1, none⟩ = some (.slice kA kl kc) := by rw [cell_of_row W2 (W.heap.size + 1) 1 _ _ (0, 0) q1]; rfl
  have HX := Lib.hid (hx.below hB2)
  have HY := Lib.hid (hy.below hB2)
  have HK := Lib.hid (And.intro (hk.below hB2) (And.intro hkz hd))
  have HQ := Lib.hid q1
  have HB2 := Lib.hid hB2
  have HLV := Lib.hid lives_any
  clear hx hy hk hkz hd hB2 q0 q1 hs2
  have hg : (300 : Int) < (xl : Int) ∨ (¬ (300 : Int) < (xl : Int) ∧ (300 : Int) < (yl : Int)) ∨ (¬ (300 : Int) < (xl : Int) ∧ ¬ (300 : Int) < (yl : Int) ∧ (300 : Int) < (kl : Int)) := by omega
  clear h4
  rcases hg with g1 | ⟨g1, g2⟩ | ⟨g1, g2, g3⟩
  all_goals
    go_enter Try.func6, Try.ntmps6
    go_upto_region 1 with fail
    go_region
    go_wp2_with fail
    refine (HLV.out _).mono ?_
    rintro e wF ⟨rfl, hBF⟩
    have HEND := Lib.hid (HB2.out.trans ((((Below.refl _ W2).drew).trans hBF).mono HB2.out.size))
    clear hBF
    go_wp2
    go_ret
    exact ⟨rfl, HEND.out⟩
theorem diskRenames_walk (xA : Option Addr) (xl xc : Nat) (xz : List Int) (yA : Option Addr) (yl yc : Nat) (yz : List Int) (dir : Int) (kA : Option Addr) (kl kc : Nat) (kz : List Int) (sure : Bool) (W : World) (hx : IsRow .u8 W xA xl xc xz) (hy : IsRow .u8 W yA yl yc yz) (hd : (Lit.int .i64 dir).wf = true) (hk : IsRow .i64 W kA kl kc kz) :
    Calls Try.prog 6 #[.agg #[.slice xA xl xc, .slice yA yl yc], .agg #[.int .i64 dir, .slice kA kl kc], .bool sure] W fun e w' => e = .returned (.bool true) ∧ Below W.heap.size W w' := by
  have x := RowZ.of_isRow hx
  have y := RowZ.of_isRow hy
  have b := bounds_i64 hd
  obtain ⟨k, kz'⟩ := ZsAt.of_isRow hk
  by_cases h : 300 < xl ∨ 300 < yl ∨ 300 < kl
  · exact renames_long xA xl xc _ yA yl yc _ dir kA kl kc _ W x y b k kz' h sure
  · cases sure with
    | true => exact renames_sure xA xl xc _ yA yl yc _ dir kA kl kc _ W x y b k kz' (by omega) (by omega) (by omega)
    | false =>
      by_cases h2 : 2 ≤ dir
      · exact renames_two xA xl xc _ yA yl yc _ dir kA kl kc _ W x y b k kz' (by omega) (by omega) (by omega) h2
      · by_cases h0 : dir ≤ 0
        · exact renames_none xA xl xc _ yA yl yc _ dir kA kl kc _ W x y b k kz' (by omega) (by omega) (by omega) h0
        · obtain rfl : dir = 1 := by omega
          exact renames_one xA xl xc _ yA yl yc _ kA kl kc _ W x y k kz' (by omega) (by omega) (by omega)
end Go.Proofs.Ytnjnlcmpfnabiaa
