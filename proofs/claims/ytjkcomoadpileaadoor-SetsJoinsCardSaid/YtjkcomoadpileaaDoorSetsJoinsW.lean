/-
  The walk of SetsJoins.
-/
import Derived.Test.YtjkcomoadpileaaDoorTx
namespace Go.Proofs.YtjkcomoadpileaaDoor
open Go.RowKit
set_option linter.unusedVariables false

theorem lessL_yes {zs ys : List Int} {k : Nat} (hk : k < zs.length) (h : decide (zs.getD k 0 ∈ ys) = false) : lessL (zs.take (k + 1)) ys = lessL (zs.take k) ys ++ [zs.getD k 0] := filter_take_yes _ hk (by rw [h]; rfl)
theorem lessL_no {zs ys : List Int} {k : Nat} (hk : k < zs.length) (h : decide (zs.getD k 0 ∈ ys) = true) : lessL (zs.take (k + 1)) ys = lessL (zs.take k) ys := filter_take_no _ hk (by rw [h]; rfl)
set_option maxRecDepth 100000 in
set_option maxHeartbeats 3200000 in
theorem setsJoins_walk (A : Option Addr) (len cap : Nat) (Z : List Int) (A' : Option Addr) (len' cap' : Nat) (Z' : List Int) (W : World) (hR : IsRow .i64 W A len cap Z) (hR' : IsRow .i64 W A' len' cap' Z') (hL : laidMetH Tryd.prog Rows.setsJoinsRow.laid W) :
    Calls Tryd.prog 4 #[.slice A len cap, .slice A' len' cap'] W fun e W' => e = .returned (.bool true) ∧ Below W.heap.size W W' := by
  obtain ⟨hI0, hlc, hcm⟩ := Ints.of_isRow hR
  obtain ⟨hI0', hlc', hcm'⟩ := Ints.of_isRow hR'
  have hT := tab_of_laid hL
  have hI : Ints W A (min len 100) ((Z.take len).take (min len 100)) := hI0.take (Nat.min_le_left _ _)
  have hI' : Ints W A' (min len' 100) ((Z'.take len').take (min len' 100)) := hI0'.take (Nat.min_le_left _ _)
  generalize (Z.take len).take (min len 100) = L1 at hI
  generalize (Z'.take len').take (min len' 100) = L2 at hI'
  have hm0 : min len 100 ≤ 100 := Nat.min_le_right _ _
  have hm0' : min len' 100 ≤ 100 := Nat.min_le_right _ _
  have HCUT := Lib.hid (fun w => cut_any w A len cap (by omega) hlc hcm)
  have HCUT' := Lib.hid (fun w => cut_any w A' len' cap' (by omega) hlc' hcm')
  obtain ⟨m, hmm⟩ : ∃ m, min len 100 = m := ⟨_, rfl⟩
  obtain ⟨m', hmm'⟩ : ∃ m', min len' 100 = m' := ⟨_, rfl⟩
  rw [hmm] at HCUT
  rw [hmm'] at HCUT'
  rw [hmm] at hI hm0
  rw [hmm'] at hI' hm0'
  have HI := Lib.hid hI
  have HI' := Lib.hid hI'
  have HT := Lib.hid hT
  clear hI0 hI0' hR hR' hL hT hI hI' hmm hmm'
  go_enter Tryd.func4, Tryd.ntmps4
  go_wp2_with fail
  refine (HCUT.out W).mono ?_
  rintro e w' ⟨rfl, rfl⟩
  go_wp2_with fail
  refine (of_any W A m cap L1 HI.out (by omega)).mono ?_
  rintro e w1 ⟨b1, v1, rfl, hS1, hF1, hB1⟩
  have HS1 := Lib.hid hS1
  have HF1 := Lib.hid hF1
  have HB1 := Lib.hid hB1
  have HFL1 := Lib.hid (fun k hk => hS1.foot_lt k hk)
  clear hS1 hF1 hB1
  go_wp2_with fail
  refine (HCUT'.out w1).mono ?_
  rintro e w' ⟨rfl, rfl⟩
  go_wp2_with fail
  refine (of_any w1 A' m' cap' L2 (HI'.out.below HB1.out) (by omega)).mono ?_
  rintro e w2 ⟨b2, v2, rfl, hS2, hF2, hB2⟩
  have HS2 := Lib.hid hS2
  have HF2 := Lib.hid hF2
  have HB2 := Lib.hid (HB1.out.trans (hB2.mono HB1.out.size))
  have HS12 := Lib.hid (HS1.out.below hB2)
  have hN2 := hB2.size
  clear hS2 hF2 hB2
  go_wp2_with fail
  refine (HCUT.out w2).mono ?_
  rintro e w' ⟨rfl, rfl⟩
  go_wp2_with fail
  refine (rof_any w2 A m cap L1 (HI.out.below HB2.out) (by omega)).mono ?_
  rintro e w3 ⟨A7, c7, rfl, hI7, hB3, hc7, hm7, hJ7⟩
  have HI7 := Lib.hid hI7
  have HJ7 := Lib.hid hJ7
  have HB3 := Lib.hid (HB2.out.trans (hB3.mono HB2.out.size))
  have HS13 := Lib.hid (HS12.out.below hB3)
  have HS23 := Lib.hid (HS2.out.below hB3)
  have hN3 := hB3.size
  have hl7 := ofL_length L1
  clear hI7 hJ7 hB3
  go_wp2_with fail
  refine (HCUT'.out w3).mono ?_
  rintro e w' ⟨rfl, rfl⟩
  go_wp2_with fail
  refine (rof_any w3 A' m' cap' L2 (HI'.out.below HB3.out) (by omega)).mono ?_
  rintro e w4 ⟨A8, c8, rfl, hI8, hB4, hc8, hm8, hJ8⟩
  have HI8 := Lib.hid hI8
  have HJ8 := Lib.hid hJ8
  have HB4 := Lib.hid (HB3.out.trans (hB4.mono HB3.out.size))
  have HS14 := Lib.hid (HS13.out.below hB4)
  have HS24 := Lib.hid (HS23.out.below hB4)
  have HI74 := Lib.hid (HI7.out.below hB4)
  have hN4 := hB4.size
  have hl8 := ofL_length L2
  clear hI8 hJ8 hB4
  go_wp2_with fail
  refine (clone_any w4 b1 v1 _ HS14.out).mono ?_
  rintro e w5 ⟨b3, v3, rfl, hS3, hF3, hB5⟩
  have HS3 := Lib.hid hS3
  have HF3 := Lib.hid hF3
  have HB5 := Lib.hid (HB4.out.trans (hB5.mono HB4.out.size))
  have HS15 := Lib.hid (HS14.out.below hB5)
  have HS25 := Lib.hid (HS24.out.below hB5)
  have HI75 := Lib.hid (HI74.out.below hB5)
  have HI85 := Lib.hid (HI8.out.below hB5)
  have hN5 := hB5.size
  clear hS3 hF3 hB5
  have HTW1 := Lib.hid (Twin.of L1)
  have HTW2 := Lib.hid (Twin.of L2)
  have hL1 : L1.length = m := HI.out.1
  have hL2 : L2.length = m' := HI'.out.1
  rw [hL1] at hl7
  rw [hL2] at hl8
  obtain ⟨zs, hzs⟩ : ∃ zs, ofL L1 = zs := ⟨_, rfl⟩
  obtain ⟨ys, hys⟩ : ∃ ys, ofL L2 = ys := ⟨_, rfl⟩
  obtain ⟨ws, hws⟩ : ∃ ws, ofW L1 = ws := ⟨_, rfl⟩
  obtain ⟨us, hus⟩ : ∃ us, ofW L2 = us := ⟨_, rfl⟩
  rw [hzs] at HI75 HTW1 hl7 hc7
  rw [hys] at HI85 HTW2 hl8 hc8
  rw [hws] at HS15 HS3 HTW1
  rw [hus] at HS25 HTW2
  rw [hzs, hys]
  clear HS1 HS12 HS13 HS14 HS2 HS23 HS24 HI7 HI74 HI8 HCUT HCUT' hzs hys hws hus hL1 hL2
  obtain ⟨p, hp⟩ : ∃ p, zs.length = p := ⟨_, rfl⟩
  obtain ⟨r, hr⟩ : ∃ r, ys.length = r := ⟨_, rfl⟩
  rw [hp] at HI75 hl7 hc7
  rw [hr] at HI85 hl8 hc8
  rw [hp, hr]
  have HP := Lib.hid hp
  have HR := Lib.hid hr
  clear hp hr
  have hsz0 : (w5.alloc (.cells #[] 3)).heap.size = w5.heap.size + 1 := by simp
  have hBa : Below w5.heap.size w5 (w5.alloc (.cells #[] 3)) := (Below.refl _ w5).alloc (Nat.le_refl _) _
  obtain ⟨A9, c9, w6, hra, ho6, hg6⟩ := (OwnS.fresh w5).app (c2 := c7) (HI75.out.below hBa) (by omega) (by omega) (by omega) 22
  rw [Nat.zero_add] at hra ho6
  rw [List.nil_append] at ho6
  have hB6 : Below w5.heap.size w5 w6 := hBa.grown hg6 (by omega) (fun k hk => by cases hk; exact Nat.le_refl _)
  obtain ⟨A10, c10, w7, hrb, ho7, hg7⟩ := ho6.app (c2 := c8) (HI85.out.below hB6) (by omega) (by omega) hB6.size 22
  have hB7 : Below w5.heap.size w5 w7 := hB6.grown hg7 hB6.size (fun k hk => (ho6.2.1.lt k hk).1)
  have HRA := Lib.hid hra
  have HRB := Lib.hid hrb
  have HO7 := Lib.hid ho7
  have HB7 := Lib.hid hB7
  clear hsz0 hBa hra ho6 hg6 hB6 hrb ho7 hg7 hB7
  go_wp2_with (first
    | (at_builtin; refine Lib.wpList_append_run _ rfl (.tmp 33) (.tmp 34) _ _ rfl _ _ rfl rfl _ _ HRA.out ?_)
    | (at_builtin; refine Lib.wpList_append_run _ rfl (.tmp 35) (.tmp 36) _ _ rfl _ _ rfl rfl _ _ HRB.out ?_))
  refine (rof_any w7 A10 (p + r) c10 (zs ++ ys) HO7.out.ints (by omega)).mono ?_
  rintro e w8 ⟨A11, c11, rfl, hI11, hB8, hc11, hm11, hJ11⟩
  have HI11 := Lib.hid hI11
  have hN7 := HB7.out.size
  have HJ11 := Lib.hid (fun j hj => (hJ11 j hj).1)
  have HB58 := Lib.hid (HB7.out.trans (hB8.mono HB7.out.size))
  have hN8 := HB58.out.size
  clear hI11 hB8 hJ11
  have HI78 := Lib.hid (HI75.out.below HB58.out)
  have HI88 := Lib.hid (HI85.out.below HB58.out)
  obtain ⟨bs, hbs⟩ : ∃ bs, ofL (zs ++ ys) = bs := ⟨_, rfl⟩
  rw [hbs] at HI11 hc11
  rw [hbs]
  obtain ⟨s, hs⟩ : ∃ s, bs.length = s := ⟨_, rfl⟩
  rw [hs] at HI11 hc11
  rw [hs]
  have HBS := Lib.hid hbs
  have HSS := Lib.hid hs
  clear hbs hs
  go_wp2
  go_loopw [11, 41] (fun v i wr => ∃ (k : Nat) (A1 : Option Addr) (q c1 : Nat), k ≤ p ∧ i = .int .i64 k ∧ v = .slice A1 q c1 ∧ OwnS wr w8.heap.size A1 q c1 (lessL (zs.take k) ys) ∧ Below w8.heap.size w8 wr) (fun _ i _ => p - (intOf i).toNat)
  case atStart => exact ⟨0, none, 0, 0, by omega, rfl, rfl, OwnS.nil _ _, Below.refl _ _⟩
  case round =>
    obtain ⟨k, A1, q, c1, hk, rfl, rfl, hO, hB⟩ := hrel
    have hsz := hB.size
    have HO := Lib.hid hO
    have HB := Lib.hid hB
    clear hO hB
    rcases Nat.lt_or_ge k p with hkn | hkn
    · obtain ⟨b, off, rfl, hb, hcs0⟩ := HI78.out.at (by omega)
      have hck : wr.cell? ⟨b, off + k, none⟩ = some (.int .i64 (zs.getD k 0)) := (HB.out.cell (p := ⟨b, off + k, none⟩) hb).trans (hcs0 k hkn)
      have hkl : k < zs.length := by rw [HP.out]; exact hkn
      have hbd := Lib.hid (HI78.out.bd hkn)
      have hkn' : (k : Int) < (p : Int) := by omega
      have hq : q ≤ 1000000 := by
        have h1 := filter_len zs (fun z => !decide (z ∈ ys)) k
        have h2 := HO.out.1
        unfold lessL at h2
        omega
      have EY : Hid (decide (zs.getD k 0 ∈ ys) = false → lessL (zs.take (k + 1)) ys = lessL (zs.take k) ys ++ [zs.getD k 0]) := Lib.hid (fun e => lessL_yes hkl e)
      have EN : Hid (decide (zs.getD k 0 ∈ ys) = true → lessL (zs.take (k + 1)) ys = lessL (zs.take k) ys) := Lib.hid (fun e => lessL_no hkl e)
      clear hcs0 hkl
      generalize zs.getD k 0 = z at *
      have HHAS := Lib.hid (rhas_any wr A8 r c8 ys (HI88.out.below HB.out) (by omega) z)
      cases hβ : decide (z ∈ ys) with
      | true =>
        have HE := Lib.hid (EN.out hβ)
        rw [hβ] at HHAS
        clear hβ
        go_wp2_with (with_reducible refine HHAS.out.mono ?_; rintro e w' ⟨rfl, rfl⟩)
        go_roundw
        case rel => exact ⟨k + 1, A1, q, c1, by omega, by go_num, rfl, by rw [HE.out]; exact HO.out, HB.out⟩
        case measure => simp [intOf]; omega
      | false =>
        have HE := Lib.hid (EY.out hβ)
        rw [hβ] at HHAS
        obtain ⟨A2, c2, w1', hr, h2, h3⟩ := HO.out.push z hbd.out hq hsz 22
        have HR' := Lib.hid hr
        have H2 := Lib.hid h2
        have H3 := Lib.hid (HO.out.below HB.out hsz h3)
        clear hβ hr h2 h3
        go_wp2_with (first
          | (with_reducible refine HHAS.out.mono ?_; rintro e w' ⟨rfl, rfl⟩)
          | (at_builtin; refine Lib.wpList_append_run _ rfl _ _ _ _ rfl _ _ rfl rfl _ _ HR'.out ?_))
        go_roundw
        case rel => exact ⟨k + 1, A2, q + 1, c2, by omega, by go_num, rfl, by rw [HE.out]; exact H2.out, H3.out⟩
        case measure => simp [intOf]; omega
    · obtain rfl : k = p := by omega
      obtain ⟨w9, hw9⟩ : ∃ w9, w9 = wr := ⟨_, rfl⟩
      subst hw9
      have hO9 := HO.out
      rw [List.take_of_length_le (by rw [HP.out]; exact Nat.le_refl _)] at hO9
      obtain ⟨ls, hls⟩ : ∃ ls, lessL zs ys = ls := ⟨_, rfl⟩
      rw [hls] at hO9
      have HLS := Lib.hid hls
      have hB59 : Below w5.heap.size w5 w9 := HB58.out.trans (HB.out.mono hN8)
      have hsz9 := HB.out.size
      have HS19 := Lib.hid (HS15.out.below hB59)
      have HS29 := Lib.hid (HS25.out.below hB59)
      have HS39 := Lib.hid (HS3.out.below hB59)
      have HI79 := Lib.hid (HI75.out.below hB59)
      have HI89 := Lib.hid (HI85.out.below hB59)
      have HI119 := Lib.hid (HI11.out.below HB.out)
      have HI19 := Lib.hid hO9.ints
      have hqk : q ≤ k := by
        have h1 := hO9.1
        have h2 := List.length_filter_le (fun n => !decide (n ∈ ys)) zs
        have h3 := HP.out
        rw [← hls] at h1
        unfold lessL at h1
        omega
      have HQ := Lib.hid hO9.1
      have hB9 : Below W.heap.size W w9 := HB5.out.trans (hB59.mono (Nat.le_trans HB4.out.size hN5))
      have hT9 : TabOk w9 := HT.out.below hB9 HT.out.1
      have HT9 := Lib.hid hT9
      have HB9 := Lib.hid hB9
      have hN1 := HB1.out.size
      have HX2 : Hid (∀ j ∈ foot b2 v2, j ∉ foot b1 v1) := Lib.hid (fun j hj hj' => by have := HF2.out j hj; have := HFL1.out j hj'; omega)
      have HX3 : Hid (∀ j ∈ foot b3 v3, j ∉ foot b1 v1) := Lib.hid (fun j hj hj' => by have := HF3.out j hj; have := HFL1.out j hj'; omega)
      have HX7 : Hid (∀ j ∈ blk A7, j ∉ foot b1 v1) := Lib.hid (fun j hj hj' => by
        have h1 := HFL1.out j hj'
        rcases (HJ7.out j hj).1 with h2 | h2
        · cases h2
        · omega)
      have HX8 : Hid (∀ j ∈ blk A8, j ∉ foot b1 v1) := Lib.hid (fun j hj hj' => by
        have h1 := HFL1.out j hj'
        rcases (HJ8.out j hj).1 with h2 | h2
        · cases h2
        · omega)
      have HX11 : Hid (∀ j ∈ blk A11, j ∉ foot b1 v1) := Lib.hid (fun j hj hj' => by
        have h1 := HFL1.out j hj'
        rcases HJ11.out j hj with h2 | h2
        · cases h2
        · omega)
      have HX1 : Hid (∀ j ∈ blk A1, j ∉ foot b1 v1) := Lib.hid (fun j hj hj' => by
        have h1 := HFL1.out j hj'
        have h2 := (hO9.blk j hj).1
        omega)
      have keepI : Hid (∀ (B : Option Addr) (n : Nat) (l : List Int) (w : World), Ints w9 B n l → (∀ j ∈ blk B, j ∉ foot b1 v1) → Chg (foot b1 v1) w9 w → Ints w B n l) := Lib.hid (fun B n l w h1 h2 h3 => h1.same h3.size (fun bb off e hlt => h3.same bb hlt (h2 bb (mem_blk.2 ⟨_, e, rfl⟩))))
      have hjt := HTW1.out.joinT HTW2.out HS19.out.small HS29.out.small HS19.out.short HS29.out.short
      rw [HBS.out, HP.out, HSS.out] at hjt
      have hmt := HTW1.out.minusT HTW2.out HS19.out.small HS29.out.small
      rw [hls, HP.out, hO9.1] at hmt
      have HJT := Lib.hid hjt
      have HMT := Lib.hid hmt
      clear HO hO9 hls HB hB59 hB9 hT9 hjt hmt HB58 HS15 HS25 HS3 HI75 HI85 HI11 HI78 HI88 HO7 HB7 HB2 HB3 HB4 HB5
      go_wp2_with fail
      refine (join_any w9 b1 b2 v1 v2 ws us HS19.out HS29.out HX2.out).mono ?_
      rintro e w10 ⟨rfl, v10, hS10, hC10, hF10⟩
      have HS10 := Lib.hid hS10
      have HC10 := Lib.hid hC10
      have HF10 := Lib.hid hF10
      clear hS10 hC10 hF10
      rw [← HJT.out]
      have hB10 := HC10.out.size
      go_wp2_with fail
      refine (of_any w10 A11 s c11 bs (keepI.out _ _ _ _ HI119.out HX11.out HC10.out) (by have h1 := ofL_length (zs ++ ys); rw [HBS.out, List.length_append, HSS.out, HP.out, HR.out] at h1; omega)).mono ?_
      rintro e w11 ⟨b11, v11, rfl, hS11, hF11, hB11⟩
      have HS11 := Lib.hid hS11
      have HC11 := Lib.hid (HC10.out.trans (Chg.of_below hB11))
      have HS1b := Lib.hid (HS10.out.below hB11)
      clear hS11 hF11 hB11
      have hsame : sameB (joinW ws us) (ofW bs) = true := by
        rw [sameB_Z _ _ HS1b.out.small HS11.out.small]
        intro n
        have h1 := (HTW1.out.both HTW2.out HS19.out.short HS29.out.short).2 n
        rw [HBS.out] at h1
        have h2 := (Twin.of bs).2 n
        rw [mem_ofL] at h2
        rw [Bool.eq_iff_iff, ← h1, ← h2]
        refine ⟨fun h => ⟨h, ?_⟩, fun h => h.1⟩
        exact (HTW1.out.both HTW2.out HS19.out.short HS29.out.short).range HS1b.out.short n (by rw [HBS.out]; exact h)
      have HSA := Lib.hid hsame
      clear hsame
      have HCALL := Lib.hid (same_any w11 _ _ _ _ _ _ (At.of HS1b.out) (At.of HS11.out))
      rw [HSA.out] at HCALL
      go_wp2_with fail
      refine HCALL.out.mono ?_
      rintro e w12 ⟨rfl, d12, hw12⟩
      have HC12 : Hid (Chg (foot b1 v1) w9 w12) := by rw [hw12]; exact Lib.hid (HC11.out.drewN d12)
      have HS1c : Hid (SetG w12 b1 v10 (joinW ws us)) := by rw [hw12]; exact Lib.hid (HS1b.out.drewN d12)
      clear hw12
      have HS2c := Lib.hid (HS29.out.chg HC12.out HX2.out)
      have HX2c : Hid (∀ j ∈ foot b2 v2, j ∉ foot b1 v10) := Lib.hid (fun j hj hj' => by
        rcases HF10.out j hj' with h1 | h1
        · exact HX2.out j hj h1
        · have := HS29.out.foot_lt j hj; omega)
      have HJA := Lib.hid (joinT_again HS19.out.small HS29.out.small HS10.out.small)
      have HCALL2 := Lib.hid (join_any w12 b1 b2 v10 v2 _ us HS1c.out HS2c.out HX2c.out)
      rw [HJA.out] at HCALL2
      go_wp2_with fail
      refine HCALL2.out.mono ?_
      rintro e w13 ⟨rfl, v13, hS13, hC13, hF13⟩
      have HS13 := Lib.hid hS13
      have HC13 := Lib.hid (HC12.out.andThen hC13 HF10.out)
      have HF13 : Hid (∀ j ∈ foot b1 v13, j ∈ foot b1 v1 ∨ w9.heap.size ≤ j) := Lib.hid (fun j hj => by
        rcases hF13 j hj with h1 | h1
        · exact HF10.out j h1
        · exact .inr (Nat.le_trans HC12.out.size h1))
      clear hS13 hC13 hF13
      go_wp2_with fail
      refine (join_self w13 b1 v13 _ HS13.out).mono ?_
      rintro e w14 ⟨rfl, v14, hS14, hC14, hF14⟩
      have HS14 := Lib.hid hS14
      have HC14 := Lib.hid (HC13.out.andThen hC14 HF13.out)
      have hN14 := HC14.out.size
      clear hS14 hC14 hF14
      have HS34 := Lib.hid (HS39.out.chg HC14.out HX3.out)
      go_wp2_with fail
      refine (clone_any w14 b3 v3 ws HS34.out).mono ?_
      rintro e w15 ⟨b4, v4, rfl, hS4, hF4, hB15⟩
      have HS4 := Lib.hid hS4
      have HF4 := Lib.hid hF4
      have HC15 := Lib.hid (HC14.out.trans (Chg.of_below hB15))
      have HA15 : Hid (Chg [] w14 w15) := Lib.hid (Chg.of_below hB15)
      have HFL4 := Lib.hid (fun k hk => hS4.foot_lt k hk)
      clear hS4 hF4 hB15
      have HS25' := Lib.hid (HS29.out.chg HC15.out HX2.out)
      have HX24 : Hid (∀ j ∈ foot b2 v2, j ∉ foot b4 v4) := Lib.hid (fun j hj hj' => by have := HS29.out.foot_lt j hj; have := HF4.out j hj'; omega)
      have HCALL3 := Lib.hid (minus_any w15 b4 b2 v4 v2 ws us HS4.out HS25'.out HX24.out)
      rw [← HMT.out] at HCALL3
      go_wp2_with fail
      refine HCALL3.out.mono ?_
      rintro e w16 ⟨rfl, v16, hS16, hC16, hF16⟩
      have HS16 := Lib.hid hS16
      have HC16 := Lib.hid (HC15.out.andThen hC16 (fun j hj => .inr (Nat.le_trans hN14 (HF4.out j hj))))
      have HA16 := Lib.hid (HA15.out.andThen hC16 (fun j hj => .inr (HF4.out j hj)))
      have HF16 : Hid (∀ j ∈ foot b4 v16, w14.heap.size ≤ j) := Lib.hid (fun j hj => by
        rcases hF16 j hj with h1 | h1
        · exact HF4.out j h1
        · exact Nat.le_trans HA15.out.size h1)
      clear hS16 hC16 hF16
      go_wp2_with fail
      refine (of_any w16 A1 q c1 ls (keepI.out _ _ _ _ HI19.out HX1.out HC16.out) (by omega)).mono ?_
      rintro e w17 ⟨b12, v12, rfl, hS17, hF17, hB17⟩
      have HS17 := Lib.hid hS17
      have HC17 := Lib.hid (HC16.out.trans (Chg.of_below hB17))
      have HA17 := Lib.hid (HA16.out.trans (Chg.of_below hB17))
      have HS4b := Lib.hid (HS16.out.below hB17)
      clear hS17 hF17 hB17
      have HTL := Lib.hid (HTW1.out.less HTW2.out HS29.out.small)
      rw [HLS.out] at HTL
      have hsame2 : sameB (minusW ws us) (ofW ls) = true := by
        rw [sameB_Z _ _ HS4b.out.small HS17.out.small]
        intro n
        have h1 := HTL.out.2 n
        have h2 := (Twin.of ls).2 n
        rw [mem_ofL] at h2
        rw [Bool.eq_iff_iff, ← h1, ← h2]
        refine ⟨fun h => ⟨h, ?_⟩, fun h => h.1⟩
        exact HTL.out.range HS4b.out.short n h
      have HCALL4 := Lib.hid (same_any w17 _ _ _ _ _ _ (At.of HS4b.out) (At.of HS17.out))
      rw [hsame2] at HCALL4
      clear hsame2
      go_wp2_with fail
      refine HCALL4.out.mono ?_
      rintro e w18 ⟨rfl, d18, hw18⟩
      have HC18 : Hid (Chg (foot b1 v1) w9 w18) := by rw [hw18]; exact Lib.hid (HC17.out.drewN d18)
      have HA18 : Hid (Chg [] w14 w18) := by rw [hw18]; exact Lib.hid (HA17.out.drewN d18)
      have HS4c : Hid (SetG w18 b4 v16 (minusW ws us)) := by rw [hw18]; exact Lib.hid (HS4b.out.drewN d18)
      clear hw18
      have HS2d := Lib.hid (HS29.out.chg HC18.out HX2.out)
      have HX25 : Hid (∀ j ∈ foot b2 v2, j ∉ foot b4 v16) := Lib.hid (fun j hj hj' => by have := HS29.out.foot_lt j hj; have := HF16.out j hj'; omega)
      have HMA := Lib.hid (minusT_again HS29.out.small HS16.out.small)
      have HCALL5 := Lib.hid (minus_any w18 b4 b2 v16 v2 _ us HS4c.out HS2d.out HX25.out)
      rw [HMA.out] at HCALL5
      go_wp2_with fail
      refine HCALL5.out.mono ?_
      rintro e w19 ⟨rfl, v19, hS19', hC19, hF19⟩
      have HS4d := Lib.hid hS19'
      have HC19 := Lib.hid (HC18.out.andThen hC19 (fun j hj => .inr (Nat.le_trans hN14 (HF16.out j hj))))
      have HA19 := Lib.hid (HA18.out.andThen hC19 (fun j hj => .inr (HF16.out j hj)))
      have HF19 : Hid (∀ j ∈ foot b4 v19, w14.heap.size ≤ j) := Lib.hid (fun j hj => by
        rcases hF19 j hj with h1 | h1
        · exact HF16.out j h1
        · exact Nat.le_trans HA18.out.size h1)
      clear hS19' hC19 hF19
      have HTC : Hid (Twin ls (minusW (minusW ws us) us)) := Lib.hid (HTL.out.cong (fun n => hasZ_minus2 HS29.out.small n))
      obtain ⟨cs, hcs⟩ : ∃ cs, minusW (minusW ws us) us = cs := ⟨_, rfl⟩
      rw [hcs] at HS4d HTC
      clear hcs
      have htab0 : 0 ∉ foot b1 v1 := fun hm => by have := HF1.out _ hm; have := HT.out.1; omega
      have HT19 := Lib.hid (HT9.out.chg HC19.out htab0)
      have HTAB0 := Lib.hid htab0
      clear htab0
      have HS39' := Lib.hid (HS39.out.chg HC19.out HX3.out)
      have HALL := Lib.hid (all_any w19 _ v3 ws (At.of HS39'.out) HT19.out)
      rw [HTW1.out.elems, HP.out] at HALL
      go_wp2_with fail
      refine HALL.out.mono ?_
      rintro e w20 ⟨A15, c15, rfl, hI15, hB20, hJ15⟩
      have HI15 := Lib.hid hI15
      have HC20 := Lib.hid (HC19.out.trans (Chg.of_below hB20))
      have HA20 := Lib.hid (HA19.out.trans (Chg.of_below hB20))
      have HS4e := Lib.hid (HS4d.out.below hB20)
      clear hI15 hB20 hJ15
      have HALL2 := Lib.hid (all_any w20 _ v19 cs (At.of HS4e.out) (HT9.out.chg HC20.out HTAB0.out))
      rw [HTC.out.elems, HQ.out] at HALL2
      go_wp2_with fail
      refine HALL2.out.mono ?_
      rintro e w21 ⟨A17, c17, rfl, hI17, hB21, hJ17⟩
      have HI17 := Lib.hid hI17
      have HC21 := Lib.hid (HC20.out.trans (Chg.of_below hB21))
      have HA21 := Lib.hid (HA20.out.trans (Chg.of_below hB21))
      have HS4f := Lib.hid (HS4e.out.below hB21)
      have HI15' := Lib.hid (HI15.out.below hB21)
      clear hI17 hB21 hJ17
      have HI721 := Lib.hid (keepI.out _ _ _ _ HI79.out HX7.out HC21.out)
      go_wp2_with fail
      refine (rsame_any w21 A15 A7 k k c15 c7 zs zs HI15'.out HI721.out (by omega) (by omega)).mono ?_
      rintro e w22 ⟨rfl, d22, hw22⟩
      have hz1 : decide (zs = zs) = true := by simp
      have HC22 : Hid (Chg (foot b1 v1) w9 w22) := by rw [hw22]; exact Lib.hid (HC21.out.drewN d22)
      have HA22 : Hid (Chg [] w14 w22) := by rw [hw22]; exact Lib.hid (HA21.out.drewN d22)
      have HS4g : Hid (SetG w22 b4 v19 cs) := by rw [hw22]; exact Lib.hid (HS4f.out.drewN d22)
      have HI17' : Hid (Ints w22 A17 q ls) := by rw [hw22]; exact Lib.hid (HI17.out.same (Nat.le_refl _) (fun _ _ _ _ => rfl))
      clear hw22
      have HI122 := Lib.hid (keepI.out _ _ _ _ HI19.out HX1.out HC22.out)
      go_wp2_with fail
      refine (rsame_any w22 A17 A1 q q c17 c1 ls ls HI17'.out HI122.out (by omega) (by omega)).mono ?_
      rintro e w23 ⟨rfl, d23, hw23⟩
      have hz2 : decide (ls = ls) = true := by simp
      have HC23 : Hid (Chg (foot b1 v1) w9 w23) := by rw [hw23]; exact Lib.hid (HC22.out.drewN d23)
      have HA23 : Hid (Chg [] w14 w23) := by rw [hw23]; exact Lib.hid (HA22.out.drewN d23)
      have HS4h : Hid (SetG w23 b4 v19 cs) := by rw [hw23]; exact Lib.hid (HS4g.out.drewN d23)
      clear hw23
      have HS1w := Lib.hid (HS14.out.chg HA23.out (fun _ _ h => by cases h))
      have HS2w := Lib.hid (HS29.out.chg HC23.out HX2.out)
      have HTJ : Hid (Twin bs (joinW (joinW ws us) us)) := by
        have h1 := HTW1.out.both HTW2.out HS19.out.short HS29.out.short
        rw [HBS.out] at h1
        exact Lib.hid (h1.cong (fun n => hasZ_join2 n))
      have hsb := HTJ.out.same HTW2.out HS14.out.small HS29.out.small
      have HCALL6 := Lib.hid (same_any w23 _ _ _ _ _ _ (At.of HS1w.out) (At.of HS2w.out))
      rw [hsb] at HCALL6
      clear hsb
      go_wp2_with fail
      refine HCALL6.out.mono ?_
      rintro e w24 ⟨rfl, d24, hw24⟩
      have HC24 : Hid (Chg (foot b1 v1) w9 w24) := by rw [hw24]; exact Lib.hid (HC23.out.drewN d24)
      have HA24 : Hid (Chg [] w14 w24) := by rw [hw24]; exact Lib.hid (HA23.out.drewN d24)
      have HS4i : Hid (SetG w24 b4 v19 cs) := by rw [hw24]; exact Lib.hid (HS4h.out.drewN d24)
      clear hw24
      have hsl : s ≤ 100000 := by
        have h1 := ofL_length (zs ++ ys)
        rw [HBS.out, List.length_append, HSS.out, HP.out, HR.out] at h1
        omega
      go_wp2_with fail
      refine (rsame_any w24 A11 A8 s r c11 c8 bs ys (keepI.out _ _ _ _ HI119.out HX11.out HC24.out) (keepI.out _ _ _ _ HI89.out HX8.out HC24.out) hsl (by omega)).mono ?_
      rintro e w25 ⟨rfl, d25, hw25⟩
      have HC25 : Hid (Chg (foot b1 v1) w9 w25) := by rw [hw25]; exact Lib.hid (HC24.out.drewN d25)
      have HA25 : Hid (Chg [] w14 w25) := by rw [hw25]; exact Lib.hid (HA24.out.drewN d25)
      have HS4j : Hid (SetG w25 b4 v19 cs) := by rw [hw25]; exact Lib.hid (HS4i.out.drewN d25)
      clear hw25
      generalize decide (bs = ys) = β
      have hgo : minusT cs cs = true → 0 < q := fun h => by have := HTC.out.gone HS4j.out.small h; rw [HQ.out] at this; exact this
      have HMS := Lib.hid (minus_self w25 b4 v19 cs HS4j.out)
      obtain ⟨mt, hmt⟩ : ∃ mt, minusT cs cs = mt := ⟨_, rfl⟩
      rw [hmt] at HMS hgo
      have HGO := Lib.hid hgo
      clear hmt hgo
      go_wp2_with fail
      refine HMS.out.mono ?_
      rintro e w26 ⟨rfl, v26, hS26, hC26, hF26⟩
      have HC26 := Lib.hid (HC25.out.andThen hC26 (fun j hj => .inr (Nat.le_trans hN14 (HF19.out j hj))))
      have HS26 := Lib.hid hS26
      have hlz := len_gone HS4j.out.small
      have HLEN := Lib.hid (len_any w26 b4 v26 _ hS26)
      rw [hlz] at HLEN
      clear hS26 hC26 hF26 hlz
      have HBW : Hid (Below W.heap.size W w26) := Lib.hid (HB9.out.trans (HC26.out.toBelow HF1.out HB9.out.size))
      have fin : ∀ w27, Below w26.heap.size w26 w27 → Below W.heap.size W w27 := fun w27 h => HBW.out.trans (h.mono HBW.out.size)
      have FIN := Lib.hid fin
      clear fin
      cases mt with
      | true =>
        have hq0 := HGO.out rfl
        have hq1 : (0 : Int) < (q : Int) := by omega
        go_wp2_with fail
        refine HLEN.out.mono ?_
        rintro e w' ⟨rfl, rfl⟩
        go_wp2_with fail
        refine (lives_any w26).mono ?_
        rintro e w27 ⟨rfl, hB27⟩
        have HB27 := Lib.hid (FIN.out w27 hB27)
        clear hB27
        go_wp2
        go_ret
        exact ⟨rfl, HB27.out⟩
      | false =>
        go_wp2_with fail
        refine HLEN.out.mono ?_
        rintro e w' ⟨rfl, rfl⟩
        go_wp2_with fail
        refine (lives_any w26).mono ?_
        rintro e w27 ⟨rfl, hB27⟩
        have HB27 := Lib.hid (FIN.out w27 hB27)
        clear hB27
        go_wp2
        go_ret
        exact ⟨rfl, HB27.out⟩
end Go.Proofs.YtjkcomoadpileaaDoor
