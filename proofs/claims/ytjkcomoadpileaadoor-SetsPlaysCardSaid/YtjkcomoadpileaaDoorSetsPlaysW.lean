/-
  The walk of SetsPlays.
-/
import Derived.Test.YtjkcomoadpileaaDoorTw
namespace Go.Proofs.YtjkcomoadpileaaDoor
open Go.RowKit
set_option linter.unusedVariables false

/-- Between two rounds: the set, and the document's beside it. -/
def PlayInv (W : World) (b : Nat) (m : Nat) (k : Nat) (A1 : Option Addr) (q c1 : Nat) (zs : List Int) (v : Value) (ws : List Nat) (wr : World) : Prop :=
  zs.length = q ∧ Ints wr A1 q zs ∧ q ≤ k ∧ q ≤ c1 ∧ c1 ≤ 9223372036854775807 ∧ (∀ j ∈ blk A1, j ∉ foot b v ∧ j < wr.heap.size ∧ W.heap.size ≤ j) ∧ SetG wr b v ws ∧ (∀ j ∈ foot b v, W.heap.size ≤ j) ∧ Below W.heap.size W wr ∧ Twin zs ws
set_option maxHeartbeats 1600000 in
theorem setsPlays_walk (A : Option Addr) (len cap : Nat) (Z : List Int) (ask : Int) (W : World) (hR : IsRow .i64 W A len cap Z) (hask : (Lit.int .i64 ask).wf = true) (hL : laidMetH Tryd.prog Rows.setsPlaysRow.laid W) :
    Calls Tryd.prog 3 #[.slice A len cap, .int .i64 ask] W fun e W' => e = .returned (.bool true) ∧ Below W.heap.size W W' := by
  obtain ⟨hI0, hlc, hcm⟩ := Ints.of_isRow hR
  have hT := tab_of_laid hL
  have hab := bounds_i64 hask
  have hI : Ints W A (min len 100) ((Z.take len).take (min len 100)) := hI0.take (Nat.min_le_left _ _)
  generalize (Z.take len).take (min len 100) = zs0 at hI
  have HI := Lib.hid hI
  have HT := Lib.hid hT
  have hIn : Ints W none 0 [] := ⟨rfl, (fun z hz => by cases hz), fun h => absurd h (Nat.lt_irrefl 0)⟩
  have HOF := Lib.hid (of_any W none 0 0 [] hIn (by decide))
  clear hI0 hR hL hT hI hIn hask
  have hm0 : min len 100 ≤ 100 := Nat.min_le_right _ _
  obtain ⟨m, hmm⟩ : ∃ m, min len 100 = m := ⟨_, rfl⟩
  rw [hmm] at HI hm0
  have HMM := Lib.hid hmm
  clear hmm
  go_enter Tryd.func3, Tryd.ntmps3
  go_wp2_with fail
  refine HOF.out.mono ?_
  rintro e w1 ⟨b, v, rfl, hS, hF, hB⟩
  have HS := Lib.hid hS
  have HF := Lib.hid hF
  have HB := Lib.hid hB
  have HCUT1 := Lib.hid (cut_any w1 A len cap (by omega) hlc hcm)
  rw [HMM.out] at HCUT1
  clear hS hF hB
  go_wp2_with fail
  refine HCUT1.out.mono ?_
  rintro e w1' ⟨rfl, rfl⟩
  go_wp2
  go_loopw [6, 17] (fun x i wr => ∃ (k : Nat) (A1 : Option Addr) (q c1 : Nat) (zs : List Int) (v : Value) (ws : List Nat), k ≤ m ∧ i = .int .i64 k ∧ x = .slice A1 q c1 ∧ PlayInv W b m k A1 q c1 zs v ws wr) (fun _ i _ => m - (intOf i).toNat)
  case atStart => exact ⟨0, none, 0, 0, [], v, ofW [], by omega, rfl, rfl, rfl, ⟨rfl, (fun z hz => by cases hz), fun h => absurd h (Nat.lt_irrefl 0)⟩, Nat.le_refl _, Nat.le_refl _, by omega, (fun j hj => by cases hj), HS.out, HF.out, HB.out, Twin.nil⟩
  case round =>
    obtain ⟨k, A1, q, c1, zs, v, ws, hk, rfl, rfl, hP⟩ := hrel
    obtain ⟨hq, hI1, hqk, hqc, hcm1, hJ, hSr, hFr, hBr, hTw⟩ := hP
    rcases Nat.lt_or_ge k m with hkn | hkn
    · obtain ⟨bb, off, rfl, hbb, hcs0⟩ := HI.out.at (by omega)
      have hck : wr.cell? ⟨bb, off + k, none⟩ = some (.int .i64 (zs0.getD k 0)) := (hBr.cell (p := ⟨bb, off + k, none⟩) hbb).trans (hcs0 k hkn)
      have hbd := HI.out.bd hkn
      have hkn' : (k : Int) < (m : Int) := by omega
      clear hcs0 hbb
      generalize zs0.getD k 0 = z at *
      rcases Int.lt_or_le z 0 with hz | hz
      · obtain ⟨y, hy⟩ : ∃ y, (-1 : Int) - z = y := ⟨_, rfl⟩
        have hz1 : y ≤ 9223372036854775807 := by omega
        have hRP := rdrop_any wr A1 q c1 zs hI1 (by omega) y
        have hgr := hTw.dropB y
        have hTw2 := hTw.drop y
        have HRP := Lib.hid hRP
        have HTW2 := Lib.hid hTw2
        have HSr := Lib.hid hSr
        have HFr := Lib.hid hFr
        have HBr := Lib.hid hBr
        have HJ := Lib.hid hJ
        clear hRP hTw hTw2 hSr hFr hBr hJ hI1
        have hlen := dropL_length zs y
        obtain ⟨r, hr⟩ : ∃ r, (dropL zs y).length = r := ⟨_, rfl⟩
        rw [hr, hq] at hgr
        rw [hr, hq] at hlen
        have HRr := Lib.hid hr
        have HQ := Lib.hid hq
        clear hr hq
        go_wp2_with fail
        refine HRP.out.mono ?_
        rintro e w2 ⟨A2, c2, rfl, hI2, hB2, hc2, hm2, hJ2⟩
        rw [HRr.out] at hI2 hc2
        rw [HRr.out]
        have HI2 := Lib.hid hI2
        have HB2 := Lib.hid hB2
        have HJ2 := Lib.hid hJ2
        have HS2 := Lib.hid (HSr.out.below hB2)
        clear hI2 hB2 hJ2
        go_wp2_with fail
        refine (drop_any w2 b v ws HS2.out y hz1).mono ?_
        rintro e w3 ⟨rfl, v3, hS3, hC3, hF3⟩
        have HINV : Hid (PlayInv W b m (k + 1) A2 r c2 (dropL zs y) v3 (dropZ ws y) w3) := by
          refine Lib.hid ⟨HRr.out, HI2.out.same hC3.size (fun bb' off' e hlt => ?_), by omega, hc2, hm2, fun j hj => ?_, hS3, fun j hj => ?_, ?_, HTW2.out⟩
          · have hin : bb' ∈ blk A2 := mem_blk.2 ⟨_, e, rfl⟩
            have h1 := (HJ2.out bb' hin).1
            refine hC3.same bb' hlt (fun hm => ?_)
            rcases h1 with h2 | h2
            · cases h2
            · have := HSr.out.foot_lt bb' hm; omega
          · obtain ⟨h1, h2⟩ := HJ2.out j hj
            have hnf : j ∉ foot b v := fun hm => by
              rcases h1 with h3 | h3
              · cases h3
              · have := HSr.out.foot_lt j hm; omega
            refine ⟨fun hm => ?_, Nat.lt_of_lt_of_le h2 hC3.size, ?_⟩
            · rcases hF3 j hm with h3 | h3
              · exact hnf h3
              · omega
            · rcases h1 with h3 | h3
              · cases h3
              · exact Nat.le_trans HBr.out.size h3
          · rcases hF3 j hj with h3 | h3
            · exact HFr.out j h3
            · exact Nat.le_trans HBr.out.size (Nat.le_trans HB2.out.size h3)
          · exact (HBr.out.trans (HB2.out.mono HBr.out.size)).trans (hC3.toBelow HFr.out (Nat.le_trans HBr.out.size HB2.out.size))
        clear hS3 hC3 hF3
        cases hβ : hasZ ws y with
        | true =>
          rw [hβ] at hgr
          have hlt : r < q := by simpa using hgr
          have hd : decide (r < q) = true := hgr
          have hi : (r : Int) < (q : Int) := by omega
          have HD := Lib.hid hgr
          clear hgr hβ
          go_wp2
          go_roundw
          case rel => exact ⟨k + 1, A2, r, c2, dropL zs y, v3, dropZ ws y, by omega, by go_num, rfl, HINV.out⟩
          case measure => simp [intOf]; omega
        | false =>
          rw [hβ] at hgr
          have hlt : ¬ r < q := by simpa using hgr
          have hi : ¬ (r : Int) < (q : Int) := by omega
          have hi2 : (q : Int) ≤ (r : Int) := by omega
          have HD := Lib.hid hgr
          clear hβ
          go_wp2
          go_roundw
          case rel => exact ⟨k + 1, A2, r, c2, dropL zs y, v3, dropZ ws y, by omega, by go_num, rfl, HINV.out⟩
          case measure => simp [intOf]; omega
      · have hRP := rput_any wr A1 q c1 zs hI1 (by omega) hqc hcm1 (fun j hj => (hJ j hj).2.1) z
        have hgr := hTw.putB z
        have hTw2 := hTw.put z
        have HRP := Lib.hid hRP
        have HTW2 := Lib.hid hTw2
        have HSr := Lib.hid hSr
        have HFr := Lib.hid hFr
        have HBr := Lib.hid hBr
        have HJ := Lib.hid hJ
        clear hRP hTw hTw2 hSr hFr hBr hJ hI1
        have hlen := putL_length zs z
        obtain ⟨r, hr⟩ : ∃ r, (putL zs z).length = r := ⟨_, rfl⟩
        rw [hr, hq] at hgr
        rw [hr, hq] at hlen
        have HRr := Lib.hid hr
        have HQ := Lib.hid hq
        clear hr hq
        have hz1 := hbd.2
        go_wp2_with fail
        refine HRP.out.mono ?_
        rintro e w2 ⟨A2, c2, rfl, hI2, hB2, hc2, hm2, hJ2⟩
        rw [HRr.out] at hI2 hc2
        rw [HRr.out]
        have HI2 := Lib.hid hI2
        have HB2 := Lib.hid hB2
        have HJ2 := Lib.hid hJ2
        have HS2 := Lib.hid (HSr.out.below hB2)
        clear hI2 hB2 hJ2
        go_wp2_with fail
        refine (put_any w2 b v ws HS2.out z hz1).mono ?_
        rintro e w3 ⟨rfl, v3, hS3, hC3, hF3⟩
        have HINV : Hid (PlayInv W b m (k + 1) A2 r c2 (putL zs z) v3 (putZ ws z) w3) := by
          refine Lib.hid ⟨HRr.out, HI2.out.same hC3.size (fun bb' off' e hlt => ?_), by omega, hc2, hm2, fun j hj => ?_, hS3, fun j hj => ?_, ?_, HTW2.out⟩
          · have hin : bb' ∈ blk A2 := mem_blk.2 ⟨_, e, rfl⟩
            have h1 := (HJ2.out bb' hin).1
            refine hC3.same bb' hlt (fun hm => ?_)
            rcases h1 with h2 | h2
            · exact (HJ.out bb' h2).1 hm
            · have := HSr.out.foot_lt bb' hm; omega
          · obtain ⟨h1, h2⟩ := HJ2.out j hj
            have hnf : j ∉ foot b v := fun hm => by
              rcases h1 with h3 | h3
              · exact (HJ.out j h3).1 hm
              · have := HSr.out.foot_lt j hm; omega
            refine ⟨fun hm => ?_, Nat.lt_of_lt_of_le h2 hC3.size, ?_⟩
            · rcases hF3 j hm with h3 | h3
              · exact hnf h3
              · omega
            · rcases h1 with h3 | h3
              · exact (HJ.out j h3).2.2
              · exact Nat.le_trans HBr.out.size h3
          · rcases hF3 j hj with h3 | h3
            · exact HFr.out j h3
            · exact Nat.le_trans HBr.out.size (Nat.le_trans HB2.out.size h3)
          · exact (HBr.out.trans (HB2.out.mono HBr.out.size)).trans (hC3.toBelow HFr.out (Nat.le_trans HBr.out.size HB2.out.size))
        clear hS3 hC3 hF3
        cases hβ : putB ws z with
        | true =>
          rw [hβ] at hgr
          have hlt : q < r := by simpa using hgr
          have hd : decide (q < r) = true := hgr
          have hi : (q : Int) < (r : Int) := by omega
          have HD := Lib.hid hgr
          clear hgr hβ
          go_wp2
          go_roundw
          case rel => exact ⟨k + 1, A2, r, c2, putL zs z, v3, putZ ws z, by omega, by go_num, rfl, HINV.out⟩
          case measure => simp [intOf]; omega
        | false =>
          rw [hβ] at hgr
          have hlt : ¬ q < r := by simpa using hgr
          have hi : ¬ (q : Int) < (r : Int) := by omega
          have hi2 : (r : Int) ≤ (q : Int) := by omega
          have HD := Lib.hid hgr
          clear hβ
          go_wp2
          go_roundw
          case rel => exact ⟨k + 1, A2, r, c2, putL zs z, v3, putZ ws z, by omega, by go_num, rfl, HINV.out⟩
          case measure => simp [intOf]; omega
    · obtain rfl : k = m := by omega
      have hel := hTw.elems
      have hln := lenW_elems ws
      rw [hel, hq] at hln
      have hTab : TabOk wr := HT.out.below hBr HT.out.1
      have HALL := Lib.hid (all_any wr (some ⟨b, 0, none⟩) v ws (At.of hSr) hTab)
      rw [hel, hq] at HALL
      have hmem : decide (ask ∈ zs) = hasZ ws ask := by rw [Bool.eq_iff_iff, decide_eq_true_eq]; exact hTw.2 ask
      have hn1 : hasZ ws (-1) = false := hasZ_neg ws _ (by decide)
      have HMEM := Lib.hid hmem
      have HI1 := Lib.hid hI1
      have HSr := Lib.hid hSr
      have HBr := Lib.hid hBr
      have HQ := Lib.hid hq
      have HLN := Lib.hid hln
      have hq5 : q ≤ 100 := by omega
      have hab2 := hab.2
      clear hel hln hmem hI1 hSr hBr hTab hTw hJ hFr hq hn1 hab
      go_wp2_with fail
      refine HALL.out.mono ?_
      rintro e w2 ⟨A2, c2, rfl, hI2, hB2, _⟩
      have HI2 := Lib.hid hI2
      have HB2 := Lib.hid hB2
      have HI1' := Lib.hid (HI1.out.below hB2)
      clear hI2 hB2
      go_wp2_with fail
      refine (rsame_any w2 A2 A1 q q c2 c1 zs zs HI2.out HI1'.out (by omega) (by omega)).mono ?_
      rintro e w3 ⟨rfl, d, hw3⟩
      have hss : decide (zs = zs) = true := by simp
      have hB3 : Below W.heap.size W w3 := by
        rw [hw3]
        exact ⟨(HBr.out.trans (HB2.out.mono HBr.out.size)).os, (HBr.out.trans (HB2.out.mono HBr.out.size)).tape, (HBr.out.trans (HB2.out.mono HBr.out.size)).output, (HBr.out.trans (HB2.out.mono HBr.out.size)).size, (HBr.out.trans (HB2.out.mono HBr.out.size)).block⟩
      have HB3 := Lib.hid hB3
      have HS3 : Hid (SetG w3 b v ws) := by rw [hw3]; exact Lib.hid ((HSr.out.below HB2.out).drewN d)
      have HI3 : Hid (Ints w3 A1 q zs) := by rw [hw3]; exact Lib.hid HI1'.out
      clear hB3 hw3
      go_wp2_with fail
      refine (len_any w3 b v ws HS3.out).mono ?_
      rintro e w3' ⟨rfl, rfl⟩
      rw [← HLN.out]
      go_wp2_with fail
      refine (has_any w3 b v ws HS3.out ask hab2).mono ?_
      rintro e w3' ⟨rfl, rfl⟩
      rw [← HMEM.out]
      go_wp2_with fail
      refine (rhas_any w3 A1 q c1 zs HI3.out (by omega) ask).mono ?_
      rintro e w3' ⟨rfl, rfl⟩
      generalize decide (ask ∈ zs) = β
      go_wp2_with fail
      refine (put_no w3 b v ws HS3.out (-1) (by decide) (.inl (by decide))).mono ?_
      rintro e w3' ⟨rfl, rfl⟩
      go_wp2_with fail
      refine (put_no w3 b v ws HS3.out 65536 (by decide) (.inr (.inl (by decide)))).mono ?_
      rintro e w3' ⟨rfl, rfl⟩
      go_wp2_with fail
      refine (lives_any w3).mono ?_
      rintro e w4 ⟨rfl, hB4⟩
      have HB4 := Lib.hid (HB3.out.trans (hB4.mono HB3.out.size))
      clear hB4
      go_wp2
      go_ret
      exact ⟨rfl, HB4.out⟩
end Go.Proofs.YtjkcomoadpileaaDoor
