/-
  The walk of the law WordBytes: it answers true and writes nothing that was there.
-/
import Derived.Test.YthgkkgjnealkbaaDoorBytes
import Derived.RegionTactic
import Derived.ChangeAlike
import Derived.Deep.RegionWith
import Derived.Deep.RegionHeld3
import Derived.Deep.DrawnRows
import Derived.Test.YthgkkgjnealkbaaDoorDrawn
import Derived.Deep.QuietTactic
import Derived.BigQuiet
namespace Go.Proofs.YthgkkgjnealkbaaDoor
open Go.RowKit

attribute [local go_sem ↓] Go.wp_at_zero Go.wp_at_succ

namespace WordBytes
set_option maxHeartbeats 1000000 in
set_option maxRecDepth 100000 in
theorem walk (A : Option Addr) (n0 cap : Nat) (z0 : List Int) (N at_ : Int) (hN : -2147483648 ≤ N ∧ N ≤ 2147483647) (hat : -9223372036854775808 ≤ at_ ∧ at_ ≤ 9223372036854775807) (W : World) (hI : IsRow .u8 W A n0 cap z0) :
    Calls Tryd.prog 9 #[.slice A n0 cap, .int .i32 N, .int .i64 at_] W fun e w' => e = .returned (.bool true) ∧ Below W.heap.size W w' := by
  have hlc : n0 ≤ cap := by
    rcases hI with ⟨_, rfl, rfl, _⟩ | ⟨_, _, h, _⟩
    · exact Nat.le_refl _
    · exact h
  obtain ⟨n, hn⟩ : ∃ n : Nat, n = (min (n0 : Int) 3000).toNat := ⟨_, rfl⟩
  have hn3 : n ≤ 3000 := by omega
  have HR : Hid (RowZ W A n (z0.take n)) := Lib.hid (by
    have h := (RowZ.of_isRow hI).take (k := n) (by omega)
    rwa [List.take_take, Nat.min_eq_left (by omega)] at h)
  have HN := Lib.hid hn
  clear hI hn
  generalize z0.take n = zs at *
  go_enter Tryd.func9, Tryd.ntmps9
  go_wp2_with fail
  rw [← HN.out]
  refine (put_any A n cap zs N hn3 _ HR.out).mono ?_
  rintro e w1 ⟨⟨g, rfl, hR1⟩, hB1⟩
  have HR1 := Lib.hid hR1
  have HRb := Lib.hid (HR.out.below hB1)
  clear hR1
  have hb := HRb.out
  have ha : RowZ w1 (some ⟨g, 0, none⟩) n zs := by
    have h := HR1.out.take (k := n) (by omega)
    rwa [List.take_left' HR.out.1] at h
  have hc : RowZ w1 (some ⟨g, n, none⟩) 4 (word4 N) := by
    have h := HR1.out.drop (k := n) (by omega)
    rwa [List.drop_left' HR.out.1, show n + 4 - n = 4 from by omega] at h
  have CA := Lib.hid ha
  have CB := Lib.hid hb
  have CC := Lib.hid hc
  clear ha hb hc
  have hz0 : IntKind.i64.wrap ((n : Int) + 4) = (n : Int) + 4 := IntWalk.i64_in _ (by omega)
  have hz1 : (0 : Int) ≤ (n : Int) := by omega
  have hz2 : (n : Int) ≤ (n : Int) + 4 := by omega
  go_wp2_with fail
  refine wp_region_held_drew (S := fun _ => True) (by kernel_rfl) trivial (fun _ => ?_)
  refine wpAnyH_mono (S' := (fun w' => (convert 41 9 (.slice (some ⟨g, 0, none⟩) n (n + 4))).run Tryd.prog w' = .ok (.string (strOfNums zs)) w' ∧ (convert 41 9 (.slice A n cap)).run Tryd.prog w' = .ok (.string (strOfNums zs)) w' ∧ (convert 41 9 (.slice (some ⟨g, n, none⟩) 4 4)).run Tryd.prog w' = .ok (.string (strOfNums (word4 N))) w')) (fun _ _ => trivial) _ _ _ _ ?_
  have hHeld : (fun w' => (convert 41 9 (.slice (some ⟨g, 0, none⟩) n (n + 4))).run Tryd.prog w' = .ok (.string (strOfNums zs)) w' ∧ (convert 41 9 (.slice A n cap)).run Tryd.prog w' = .ok (.string (strOfNums zs)) w' ∧ (convert 41 9 (.slice (some ⟨g, n, none⟩) 4 4)).run Tryd.prog w' = .ok (.string (strOfNums (word4 N))) w') w1.drew := ⟨conv_row CA.out.drew _, conv_row CB.out.drew _, conv_row CC.out.drew _⟩
  refine takeH 0 20 (v := ?va0) rfl rfl (by kernel_rfl) (by kernel_rfl) (by kernel_rfl) (fun _ _ _ h => h) (by rfl) ?ha0 hHeld ?ra0
  case ha0 => (intro w hSw; (try dsimp only at hSw); go_simp; try with_reducible rfl)
  simp only [Act.put, List.setIfInBounds_toArray, List.set_cons_zero, List.set_cons_succ]
  refine takeH 1 21 (v := ?va1) rfl rfl (by kernel_rfl) (by kernel_rfl) (by kernel_rfl) (fun _ _ _ h => h) (by rfl) ?ha1 hHeld ?ra1
  case ha1 => (intro w hSw; (try dsimp only at hSw); go_simp; try with_reducible rfl)
  simp only [Act.put, List.setIfInBounds_toArray, List.set_cons_zero, List.set_cons_succ]
  refine takeH 2 22 (v := ?va2) rfl rfl (by kernel_rfl) (by kernel_rfl) (by kernel_rfl) (fun _ _ _ h => h) (by rfl) ?ha2 hHeld ?ra2
  case ha2 => (intro w hSw; (try dsimp only at hSw); go_simp; try with_reducible rfl)
  simp only [Act.put, List.setIfInBounds_toArray, List.set_cons_zero, List.set_cons_succ]
  refine takeH 3 23 (v := ?va3) rfl rfl (by kernel_rfl) (by kernel_rfl) (by kernel_rfl) (fun _ _ _ h => h) (by rfl) ?ha3 hHeld ?ra3
  case ha3 => (intro w hSw; (try dsimp only at hSw); go_simp; try with_reducible rfl)
  simp only [Act.put, List.setIfInBounds_toArray, List.set_cons_zero, List.set_cons_succ]
  refine takeH 4 24 (v := ?va4) rfl rfl (by kernel_rfl) (by kernel_rfl) (by kernel_rfl) (fun _ _ _ h => h) (by rfl) ?ha4 hHeld ?ra4
  case ha4 => (intro w hSw; (try dsimp only at hSw); go_simp; try with_reducible rfl)
  simp only [Act.put, List.setIfInBounds_toArray, List.set_cons_zero, List.set_cons_succ]
  refine takeH 5 25 (v := ?va5) rfl rfl (by kernel_rfl) (by kernel_rfl) (by kernel_rfl) (fun _ _ _ h => h) (by rfl) ?ha5 hHeld ?ra5
  case ha5 => (intro w hSw; (try dsimp only at hSw); go_simp; try with_reducible rfl)
  simp only [Act.put, List.setIfInBounds_toArray, List.set_cons_zero, List.set_cons_succ]
  refine takeH 6 26 (v := ?va6) rfl rfl (by kernel_rfl) (by kernel_rfl) (by kernel_rfl) (fun _ _ _ h => h) (by rfl) ?ha6 hHeld ?ra6
  case ha6 => (intro w hSw; (try dsimp only at hSw); go_simp; try with_reducible rfl)
  simp only [Act.put, List.setIfInBounds_toArray, List.set_cons_zero, List.set_cons_succ]
  refine takeH 7 27 (v := ?va7) rfl rfl (by kernel_rfl) (by kernel_rfl) (by kernel_rfl) (fun _ _ _ h => h) (by rfl) ?ha7 hHeld ?ra7
  case ha7 => (intro w hSw; (try dsimp only at hSw); go_simp; try with_reducible rfl)
  simp only [Act.put, List.setIfInBounds_toArray, List.set_cons_zero, List.set_cons_succ]
  refine takeH 8 28 (v := ?va8) rfl rfl (by kernel_rfl) (by kernel_rfl) (by kernel_rfl) (fun _ _ _ h => h) (by rfl) ?ha8 hHeld ?ra8
  case ha8 => (intro w hSw; (try dsimp only at hSw); go_simp; try with_reducible rfl)
  simp only [Act.put, List.setIfInBounds_toArray, List.set_cons_zero, List.set_cons_succ]
  refine takeH 9 29 (v := ?va9) rfl rfl (by kernel_rfl) (by kernel_rfl) (by kernel_rfl) (fun _ _ _ h => h) (by rfl) ?ha9 hHeld ?ra9
  case ha9 => (intro w hSw; (try dsimp only at hSw); go_simp; try with_reducible rfl)
  simp only [Act.put, List.setIfInBounds_toArray, List.set_cons_zero, List.set_cons_succ]
  refine takeH 10 30 (v := ?va10) rfl rfl (by kernel_rfl) (by kernel_rfl) (by kernel_rfl) (fun _ _ _ h => h) (by rfl) ?ha10 hHeld ?ra10
  case ha10 => (intro w hSw; (try dsimp only at hSw); go_simp; try with_reducible rfl)
  simp only [Act.put, List.setIfInBounds_toArray, List.set_cons_zero, List.set_cons_succ]
  refine takeH 11 31 (v := ?va11) rfl rfl (by kernel_rfl) (by kernel_rfl) (by kernel_rfl) (fun _ _ _ h => h) (by rfl) ?ha11 hHeld ?ra11
  case ha11 => (intro w hSw; (try dsimp only at hSw); go_simp; try with_reducible rfl)
  simp only [Act.put, List.setIfInBounds_toArray, List.set_cons_zero, List.set_cons_succ]
  refine takeH 12 32 (v := ?va12) rfl rfl (by kernel_rfl) (by kernel_rfl) (by kernel_rfl) (fun _ _ _ h => h) (by rfl) ?ha12 hHeld ?ra12
  case ha12 => (intro w hSw; (try dsimp only at hSw); go_simp; try with_reducible rfl)
  simp only [Act.put, List.setIfInBounds_toArray, List.set_cons_zero, List.set_cons_succ]
  refine takeH 13 33 (v := ?va13) rfl rfl (by kernel_rfl) (by kernel_rfl) (by kernel_rfl) (fun _ _ _ h => h) (by rfl) ?ha13 hHeld ?ra13
  case ha13 => (intro w hSw; (try dsimp only at hSw); go_simp; try with_reducible rfl)
  simp only [Act.put, List.setIfInBounds_toArray, List.set_cons_zero, List.set_cons_succ]
  refine takeH 14 34 (v := ?va14) rfl rfl (by kernel_rfl) (by kernel_rfl) (by kernel_rfl) (fun _ _ _ h => h) (by rfl) ?ha14 hHeld ?ra14
  case ha14 => (intro w hSw; (try dsimp only at hSw); go_simp; try with_reducible rfl)
  simp only [Act.put, List.setIfInBounds_toArray, List.set_cons_zero, List.set_cons_succ]
  refine takeH 15 35 (v := ?va15) rfl rfl (by kernel_rfl) (by kernel_rfl) (by kernel_rfl) (fun _ _ _ h => h) (by rfl) ?ha15 hHeld ?ra15
  case ha15 => (intro w hSw; (try dsimp only at hSw); go_simp; try with_reducible rfl)
  simp only [Act.put, List.setIfInBounds_toArray, List.set_cons_zero, List.set_cons_succ]
  refine takeH 16 36 (v := ?va16) rfl rfl (by kernel_rfl) (by kernel_rfl) (by kernel_rfl) (fun _ _ _ h => h) (by rfl) ?ha16 hHeld ?ra16
  case ha16 => (intro w hSw; (try dsimp only at hSw); go_simp; try with_reducible rfl)
  simp only [Act.put, List.setIfInBounds_toArray, List.set_cons_zero, List.set_cons_succ]
  refine takeH 17 37 (v := ?va17) rfl rfl (by kernel_rfl) (by kernel_rfl) (by kernel_rfl) (fun _ _ _ h => h) (by rfl) ?ha17 hHeld ?ra17
  case ha17 => (intro w hSw; (try dsimp only at hSw); go_simp; try with_reducible rfl)
  simp only [Act.put, List.setIfInBounds_toArray, List.set_cons_zero, List.set_cons_succ]
  refine takeH 18 38 (v := ?va18) rfl rfl (by kernel_rfl) (by kernel_rfl) (by kernel_rfl) (fun _ _ _ h => h) (by rfl) ?ha18 hHeld ?ra18
  case ha18 => (intro w hSw; (try dsimp only at hSw); go_simp; try with_reducible rfl)
  simp only [Act.put, List.setIfInBounds_toArray, List.set_cons_zero, List.set_cons_succ]
  refine takeH 19 39 (v := ?va19) rfl rfl (by kernel_rfl) (by kernel_rfl) (by kernel_rfl) (fun _ _ _ h => h) (by rfl) ?ha19 hHeld ?ra19
  case ha19 => (intro w hSw; (try dsimp only at hSw); go_simp; try with_reducible rfl)
  simp only [Act.put, List.setIfInBounds_toArray, List.set_cons_zero, List.set_cons_succ]
  refine takeH 20 40 (v := ?va20) rfl rfl (by kernel_rfl) (by kernel_rfl) (by kernel_rfl) (fun _ _ _ h => h) (by rfl) ?ha20 hHeld ?ra20
  case ha20 => (intro w hSw; (try dsimp only at hSw); go_simp; try with_reducible rfl)
  simp only [Act.put, List.setIfInBounds_toArray, List.set_cons_zero, List.set_cons_succ]
  refine takeH 21 41 (v := ?va21) rfl rfl (by kernel_rfl) (by kernel_rfl) (by kernel_rfl) (fun _ _ _ h => h) (by rfl) ?ha21 hHeld ?ra21
  case ha21 => (intro w hSw; (try dsimp only at hSw); go_simp; try with_reducible rfl)
  simp only [Act.put, List.setIfInBounds_toArray, List.set_cons_zero, List.set_cons_succ]
  refine takeH 22 42 (v := ?va22) rfl rfl (by kernel_rfl) (by kernel_rfl) (by kernel_rfl) (fun _ _ _ h => h) (by rfl) ?ha22 hHeld ?ra22
  case ha22 => (intro w hSw; (try dsimp only at hSw); go_simp; try with_reducible rfl)
  simp only [Act.put, List.setIfInBounds_toArray, List.set_cons_zero, List.set_cons_succ]
  refine wpAnyH_ready (rs := [23]) (by kernel_rfl) (by simp) ?_
  refine AllReadyH.cons rfl (fun K hK => ?_) AllReadyH.nil
  go_simp
  go_at_call 25
  refine (ref_put N hN _).mono ?_
  rintro e w2 ⟨⟨g2, rfl, hR2⟩, hb2⟩
  have hb3 : Below w1.heap.size w1 w2 := ⟨hb2.os, hb2.tape, hb2.output, hb2.size, hb2.block⟩
  clear hb2
  refine hK.out _ _ ⟨conv_row (CA.out.below hb3) _, conv_row (CB.out.below hb3) _, conv_row (CC.out.below hb3) _⟩ (fun _ => ?_)
  clear hK K hHeld
  refine wpAnyH_mono (S' := (fun w' => ((convert 41 9 (.slice (some ⟨g, 0, none⟩) n (n + 4))).run Tryd.prog w' = .ok (.string (strOfNums zs)) w' ∧ (convert 41 9 (.slice A n cap)).run Tryd.prog w' = .ok (.string (strOfNums zs)) w' ∧ (convert 41 9 (.slice (some ⟨g, n, none⟩) 4 4)).run Tryd.prog w' = .ok (.string (strOfNums (word4 N))) w') ∧ (convert 41 9 (.slice (some ⟨g2, 0, none⟩) 4 4)).run Tryd.prog w' = .ok (.string (strOfNums (word4 N))) w')) (fun _ h => h.1) _ _ _ _ ?_
  have hHeld : (fun w' => ((convert 41 9 (.slice (some ⟨g, 0, none⟩) n (n + 4))).run Tryd.prog w' = .ok (.string (strOfNums zs)) w' ∧ (convert 41 9 (.slice A n cap)).run Tryd.prog w' = .ok (.string (strOfNums zs)) w' ∧ (convert 41 9 (.slice (some ⟨g, n, none⟩) 4 4)).run Tryd.prog w' = .ok (.string (strOfNums (word4 N))) w') ∧ (convert 41 9 (.slice (some ⟨g2, 0, none⟩) 4 4)).run Tryd.prog w' = .ok (.string (strOfNums (word4 N))) w') w2 := ⟨⟨conv_row (CA.out.below hb3) _, conv_row (CB.out.below hb3) _, conv_row (CC.out.below hb3) _⟩, conv_row hR2 4⟩
  refine takeH 24 44 (v := ?vb24) rfl rfl (by kernel_rfl) (by kernel_rfl) (by kernel_rfl) (fun _ _ _ h => h) (by rfl) ?hb24 hHeld ?rb24
  case hb24 => (intro w hSw; (try dsimp only at hSw); go_simp; try with_reducible rfl)
  simp only [Act.put, List.setIfInBounds_toArray, List.set_cons_zero, List.set_cons_succ]
  refine takeH 25 45 (v := ?vb25) rfl rfl (by kernel_rfl) (by kernel_rfl) (by kernel_rfl) (fun _ _ _ h => h) (by rfl) ?hb25 hHeld ?rb25
  case hb25 => (intro w hSw; (try dsimp only at hSw); go_simp; try with_reducible rfl)
  simp only [Act.put, List.setIfInBounds_toArray, List.set_cons_zero, List.set_cons_succ]
  refine takeH 26 46 (v := ?vb26) rfl rfl (by kernel_rfl) (by kernel_rfl) (by kernel_rfl) (fun _ _ _ h => h) (by rfl) ?hb26 hHeld ?rb26
  case hb26 => (intro w hSw; (try dsimp only at hSw); go_simp; try with_reducible rfl)
  simp only [Act.put, List.setIfInBounds_toArray, List.set_cons_zero, List.set_cons_succ]
  clear hHeld
  refine wpAnyH_done (by kernel_rfl) ?_ _
  have hB2 := hB1.trans (hb3.mono hB1.size)
  have HRo := Lib.hid (HR1.out.below hb3)
  have HRc := Lib.hid (HRb.out.below hb3)
  have ev : getV ((zs ++ word4 N).getD n 0) ((zs ++ word4 N).getD (n + 1) 0) ((zs ++ word4 N).getD (n + 2) 0) ((zs ++ word4 N).getD (n + 3) 0) = N := by
    have hl := HR.out.1
    have e : ∀ k, (zs ++ word4 N).getD (n + k) 0 = (word4 N).getD k 0 := fun k => by
      simp only [List.getD_eq_getElem?_getD]
      rw [List.getElem?_append_right (by omega), hl, Nat.add_sub_cancel_left]
    rw [e 1, e 2, e 3, show (zs ++ word4 N).getD n 0 = (word4 N).getD 0 0 from e 0]
    exact getV_word4 N hN
  have hg := get_yes (some ⟨g, 0, none⟩) (n + 4) (n + 4) (zs ++ word4 N) n (by omega) (by omega) w2 HRo.out
  rw [ev] at hg
  have HG := Lib.hid hg
  clear hg ev hB1 hb3
  go_wp2_with fail
  refine HG.out.mono ?_
  rintro e w' ⟨rfl, rfl⟩
  clear HG
  by_cases hneg : at_ < 0
  · have HGN := Lib.hid (get_no A n cap at_ (.inl hneg) (by omega) w2)
    go_wp2_with fail
    refine HGN.out.mono ?_
    rintro e w' ⟨rfl, rfl⟩
    go_wp2_with fail
    refine wp_region_held_drew (S := fun _ => True) (by kernel_rfl) trivial (fun hHeld => ?_)
    refine takeH 0 88 (v := ?vc0) rfl rfl (by kernel_rfl) (by kernel_rfl) (by kernel_rfl) (fun _ _ _ h => h) (by rfl) ?hc0 hHeld ?rc0
    case hc0 => (intro w hSw; (try dsimp only at hSw); go_simp; try with_reducible rfl)
    simp only [Act.put, List.setIfInBounds_toArray, List.set_cons_zero, List.set_cons_succ]
    refine takeH 1 89 (v := ?vc1) rfl rfl (by kernel_rfl) (by kernel_rfl) (by kernel_rfl) (fun _ _ _ h => h) (by rfl) ?hc1 hHeld ?rc1
    case hc1 => (intro w hSw; (try dsimp only at hSw); go_simp; try with_reducible rfl)
    simp only [Act.put, List.setIfInBounds_toArray, List.set_cons_zero, List.set_cons_succ]
    refine takeH 2 90 (v := ?vc2) rfl rfl (by kernel_rfl) (by kernel_rfl) (by kernel_rfl) (fun _ _ _ h => h) (by rfl) ?hc2 hHeld ?rc2
    case hc2 => (intro w hSw; (try dsimp only at hSw); go_simp; try with_reducible rfl)
    simp only [Act.put, List.setIfInBounds_toArray, List.set_cons_zero, List.set_cons_succ]
    refine takeU 3 91 rfl rfl (by kernel_rfl) (by kernel_rfl) (by kernel_rfl) (fun _ _ _ h => h) (by rfl) hHeld ?rc3
    simp only [Act.put, List.setIfInBounds_toArray, List.set_cons_zero, List.set_cons_succ]
    refine takeU 4 92 rfl rfl (by kernel_rfl) (by kernel_rfl) (by kernel_rfl) (fun _ _ _ h => h) (by rfl) hHeld ?rc4
    simp only [Act.put, List.setIfInBounds_toArray, List.set_cons_zero, List.set_cons_succ]
    refine takeU 5 93 rfl rfl (by kernel_rfl) (by kernel_rfl) (by kernel_rfl) (fun _ _ _ h => h) (by rfl) hHeld ?rc5
    simp only [Act.put, List.setIfInBounds_toArray, List.set_cons_zero, List.set_cons_succ]
    refine takeU 6 94 rfl rfl (by kernel_rfl) (by kernel_rfl) (by kernel_rfl) (fun _ _ _ h => h) (by rfl) hHeld ?rc6
    simp only [Act.put, List.setIfInBounds_toArray, List.set_cons_zero, List.set_cons_succ]
    refine takeU 7 95 rfl rfl (by kernel_rfl) (by kernel_rfl) (by kernel_rfl) (fun _ _ _ h => h) (by rfl) hHeld ?rc7
    simp only [Act.put, List.setIfInBounds_toArray, List.set_cons_zero, List.set_cons_succ]
    refine takeU 8 96 rfl rfl (by kernel_rfl) (by kernel_rfl) (by kernel_rfl) (fun _ _ _ h => h) (by rfl) hHeld ?rc8
    simp only [Act.put, List.setIfInBounds_toArray, List.set_cons_zero, List.set_cons_succ]
    refine takeU 9 97 rfl rfl (by kernel_rfl) (by kernel_rfl) (by kernel_rfl) (fun _ _ _ h => h) (by rfl) hHeld ?rc9
    simp only [Act.put, List.setIfInBounds_toArray, List.set_cons_zero, List.set_cons_succ]
    refine takeU 10 98 rfl rfl (by kernel_rfl) (by kernel_rfl) (by kernel_rfl) (fun _ _ _ h => h) (by rfl) hHeld ?rc10
    simp only [Act.put, List.setIfInBounds_toArray, List.set_cons_zero, List.set_cons_succ]
    refine takeU 11 99 rfl rfl (by kernel_rfl) (by kernel_rfl) (by kernel_rfl) (fun _ _ _ h => h) (by rfl) hHeld ?rc11
    simp only [Act.put, List.setIfInBounds_toArray, List.set_cons_zero, List.set_cons_succ]
    refine takeU 12 100 rfl rfl (by kernel_rfl) (by kernel_rfl) (by kernel_rfl) (fun _ _ _ h => h) (by rfl) hHeld ?rc12
    simp only [Act.put, List.setIfInBounds_toArray, List.set_cons_zero, List.set_cons_succ]
    refine takeH 13 101 (v := ?vc13) rfl rfl (by kernel_rfl) (by kernel_rfl) (by kernel_rfl) (fun _ _ _ h => h) (by rfl) ?hc13 hHeld ?rc13
    case hc13 => (intro w hSw; (try dsimp only at hSw); go_simp; try with_reducible rfl)
    simp only [Act.put, List.setIfInBounds_toArray, List.set_cons_zero, List.set_cons_succ]
    refine takeH 14 102 (v := ?vc14) rfl rfl (by kernel_rfl) (by kernel_rfl) (by kernel_rfl) (fun _ _ _ h => h) (by rfl) ?hc14 hHeld ?rc14
    case hc14 => (intro w hSw; (try dsimp only at hSw); go_simp; try with_reducible rfl)
    simp only [Act.put, List.setIfInBounds_toArray, List.set_cons_zero, List.set_cons_succ]
    refine wpAnyH_ready (rs := [15]) (by kernel_rfl) (by simp) ?_
    refine AllReadyH.cons rfl (fun K hK => ?_) AllReadyH.nil
    go_simp
    go_at_call 14
    refine (lives_true _).mono ?_
    rintro e w3 ⟨rfl, hb4⟩
    have hb5 : Below w2.heap.size w2 w3 := ⟨hb4.os, hb4.tape, hb4.output, hb4.size, hb4.block⟩
    have hB3 := hB2.trans (hb5.mono hB2.size)
    refine hK.out _ _ trivial (fun _ => ?_)
    clear hK K
    refine takeH 16 104 (v := ?vc16) rfl rfl (by kernel_rfl) (by kernel_rfl) (by kernel_rfl) (fun _ _ _ h => h) (by rfl) ?hc16 trivial ?rc16
    case hc16 => (intro w hSw; (try dsimp only at hSw); go_simp; try with_reducible rfl)
    simp only [Act.put, List.setIfInBounds_toArray, List.set_cons_zero, List.set_cons_succ]
    refine takeH 17 6 (v := ?vc17) rfl rfl (by kernel_rfl) (by kernel_rfl) (by kernel_rfl) (fun _ _ _ h => h) (by rfl) ?hc17 trivial ?rc17
    case hc17 => (intro w hSw; (try dsimp only at hSw); go_simp; try with_reducible rfl)
    simp only [Act.put, List.setIfInBounds_toArray, List.set_cons_zero, List.set_cons_succ]
    refine wpAnyH_done (by kernel_rfl) ?_ _
    go_wp2
    go_ret
    exact ⟨rfl, hB3⟩
  by_cases hbig : (n : Int) - 4 < at_
  · have HGN := Lib.hid (get_no A n cap at_ (.inr hbig) (by omega) w2)
    go_wp2_with fail
    refine HGN.out.mono ?_
    rintro e w' ⟨rfl, rfl⟩
    go_wp2_with fail
    refine wp_region_held_drew (S := fun _ => True) (by kernel_rfl) trivial (fun hHeld => ?_)
    refine takeH 0 88 (v := ?vd0) rfl rfl (by kernel_rfl) (by kernel_rfl) (by kernel_rfl) (fun _ _ _ h => h) (by rfl) ?hd0 hHeld ?rd0
    case hd0 => (intro w hSw; (try dsimp only at hSw); go_simp; try with_reducible rfl)
    simp only [Act.put, List.setIfInBounds_toArray, List.set_cons_zero, List.set_cons_succ]
    refine takeH 1 89 (v := ?vd1) rfl rfl (by kernel_rfl) (by kernel_rfl) (by kernel_rfl) (fun _ _ _ h => h) (by rfl) ?hd1 hHeld ?rd1
    case hd1 => (intro w hSw; (try dsimp only at hSw); go_simp; try with_reducible rfl)
    simp only [Act.put, List.setIfInBounds_toArray, List.set_cons_zero, List.set_cons_succ]
    refine takeH 2 90 (v := ?vd2) rfl rfl (by kernel_rfl) (by kernel_rfl) (by kernel_rfl) (fun _ _ _ h => h) (by rfl) ?hd2 hHeld ?rd2
    case hd2 => (intro w hSw; (try dsimp only at hSw); go_simp; try with_reducible rfl)
    simp only [Act.put, List.setIfInBounds_toArray, List.set_cons_zero, List.set_cons_succ]
    refine takeU 3 91 rfl rfl (by kernel_rfl) (by kernel_rfl) (by kernel_rfl) (fun _ _ _ h => h) (by rfl) hHeld ?rd3
    simp only [Act.put, List.setIfInBounds_toArray, List.set_cons_zero, List.set_cons_succ]
    refine takeU 4 92 rfl rfl (by kernel_rfl) (by kernel_rfl) (by kernel_rfl) (fun _ _ _ h => h) (by rfl) hHeld ?rd4
    simp only [Act.put, List.setIfInBounds_toArray, List.set_cons_zero, List.set_cons_succ]
    refine takeU 5 93 rfl rfl (by kernel_rfl) (by kernel_rfl) (by kernel_rfl) (fun _ _ _ h => h) (by rfl) hHeld ?rd5
    simp only [Act.put, List.setIfInBounds_toArray, List.set_cons_zero, List.set_cons_succ]
    refine takeU 6 94 rfl rfl (by kernel_rfl) (by kernel_rfl) (by kernel_rfl) (fun _ _ _ h => h) (by rfl) hHeld ?rd6
    simp only [Act.put, List.setIfInBounds_toArray, List.set_cons_zero, List.set_cons_succ]
    refine takeU 7 95 rfl rfl (by kernel_rfl) (by kernel_rfl) (by kernel_rfl) (fun _ _ _ h => h) (by rfl) hHeld ?rd7
    simp only [Act.put, List.setIfInBounds_toArray, List.set_cons_zero, List.set_cons_succ]
    refine takeU 8 96 rfl rfl (by kernel_rfl) (by kernel_rfl) (by kernel_rfl) (fun _ _ _ h => h) (by rfl) hHeld ?rd8
    simp only [Act.put, List.setIfInBounds_toArray, List.set_cons_zero, List.set_cons_succ]
    refine takeU 9 97 rfl rfl (by kernel_rfl) (by kernel_rfl) (by kernel_rfl) (fun _ _ _ h => h) (by rfl) hHeld ?rd9
    simp only [Act.put, List.setIfInBounds_toArray, List.set_cons_zero, List.set_cons_succ]
    refine takeU 10 98 rfl rfl (by kernel_rfl) (by kernel_rfl) (by kernel_rfl) (fun _ _ _ h => h) (by rfl) hHeld ?rd10
    simp only [Act.put, List.setIfInBounds_toArray, List.set_cons_zero, List.set_cons_succ]
    refine takeU 11 99 rfl rfl (by kernel_rfl) (by kernel_rfl) (by kernel_rfl) (fun _ _ _ h => h) (by rfl) hHeld ?rd11
    simp only [Act.put, List.setIfInBounds_toArray, List.set_cons_zero, List.set_cons_succ]
    refine takeU 12 100 rfl rfl (by kernel_rfl) (by kernel_rfl) (by kernel_rfl) (fun _ _ _ h => h) (by rfl) hHeld ?rd12
    simp only [Act.put, List.setIfInBounds_toArray, List.set_cons_zero, List.set_cons_succ]
    refine takeH 13 101 (v := ?vd13) rfl rfl (by kernel_rfl) (by kernel_rfl) (by kernel_rfl) (fun _ _ _ h => h) (by rfl) ?hd13 hHeld ?rd13
    case hd13 => (intro w hSw; (try dsimp only at hSw); go_simp; try with_reducible rfl)
    simp only [Act.put, List.setIfInBounds_toArray, List.set_cons_zero, List.set_cons_succ]
    refine takeH 14 102 (v := ?vd14) rfl rfl (by kernel_rfl) (by kernel_rfl) (by kernel_rfl) (fun _ _ _ h => h) (by rfl) ?hd14 hHeld ?rd14
    case hd14 => (intro w hSw; (try dsimp only at hSw); go_simp; try with_reducible rfl)
    simp only [Act.put, List.setIfInBounds_toArray, List.set_cons_zero, List.set_cons_succ]
    refine wpAnyH_ready (rs := [15]) (by kernel_rfl) (by simp) ?_
    refine AllReadyH.cons rfl (fun K hK => ?_) AllReadyH.nil
    go_simp
    go_at_call 14
    refine (lives_true _).mono ?_
    rintro e w3 ⟨rfl, hb4⟩
    have hb5 : Below w2.heap.size w2 w3 := ⟨hb4.os, hb4.tape, hb4.output, hb4.size, hb4.block⟩
    have hB3 := hB2.trans (hb5.mono hB2.size)
    refine hK.out _ _ trivial (fun _ => ?_)
    clear hK K
    refine takeH 16 104 (v := ?vd16) rfl rfl (by kernel_rfl) (by kernel_rfl) (by kernel_rfl) (fun _ _ _ h => h) (by rfl) ?hd16 trivial ?rd16
    case hd16 => (intro w hSw; (try dsimp only at hSw); go_simp; try with_reducible rfl)
    simp only [Act.put, List.setIfInBounds_toArray, List.set_cons_zero, List.set_cons_succ]
    refine takeH 17 6 (v := ?vd17) rfl rfl (by kernel_rfl) (by kernel_rfl) (by kernel_rfl) (fun _ _ _ h => h) (by rfl) ?hd17 trivial ?rd17
    case hd17 => (intro w hSw; (try dsimp only at hSw); go_simp; try with_reducible rfl)
    simp only [Act.put, List.setIfInBounds_toArray, List.set_cons_zero, List.set_cons_succ]
    refine wpAnyH_done (by kernel_rfl) ?_ _
    go_wp2
    go_ret
    exact ⟨rfl, hB3⟩
  obtain ⟨j, rfl⟩ : ∃ j : Nat, at_ = (j : Int) := ⟨at_.toNat, by omega⟩
  have hj : j + 4 ≤ n := by omega
  have HGY := Lib.hid (get_yes A n cap zs j hj (by omega) w2 HRc.out)
  have ew : word4 (getV (zs.getD j 0) (zs.getD (j + 1) 0) (zs.getD (j + 2) 0) (zs.getD (j + 3) 0)) = (zs.drop j).take 4 := word4_at HR.out.1 HR.out.2.1 hj
  have em := getV_bd (zs.getD j 0) (zs.getD (j + 1) 0) (zs.getD (j + 2) 0) (zs.getD (j + 3) 0)
  obtain ⟨b, off, rfl, HR4⟩ : ∃ b off, A = some ⟨b, off, none⟩ ∧ Hid (RowZ w2 (some ⟨b, off + j, none⟩) 4 ((zs.drop j).take 4)) := by
    obtain ⟨b, off, e, _, _⟩ := HRc.out.2.2 (by omega)
    subst e
    refine ⟨b, off, rfl, Lib.hid ?_⟩
    exact (HRc.out.dropAt (k := j) (by omega)).take (k := 4) (by omega)
  generalize getV (zs.getD j 0) (zs.getD (j + 1) 0) (zs.getD (j + 2) 0) (zs.getD (j + 3) 0) = m at *
  generalize (zs.drop j).take 4 = q at *
  have EW := Lib.hid ew
  have hz3 : IntKind.i64.wrap ((j : Int) + 4) = (j : Int) + 4 := IntWalk.i64_in _ (by omega)
  have hz4 : (0 : Int) ≤ (j : Int) := by omega
  have hz5 : (j : Int) ≤ (j : Int) + 4 := by omega
  have hnc : n ≤ cap := by
    have := HN.out
    omega
  have hz6 : (j : Int) + 4 ≤ (cap : Int) := by omega
  have hz8 : ((j : Int) + 4).toNat - j = 4 := by omega
  have hz7 : ¬ cap = j := by omega
  clear ew
  go_wp2_with fail
  refine HGY.out.mono ?_
  rintro e w' ⟨rfl, rfl⟩
  go_wp2_with fail
  refine wp_region_held_drew (S := (fun w' => (convert 41 9 (.slice (some ⟨b, off + j, none⟩) 4 (cap - j))).run Tryd.prog w' = .ok (.string (strOfNums q)) w')) (by kernel_rfl) (conv_row HR4.out.drew _) (fun hHeld => ?_)
  refine takeH 0 88 (v := ?vy0) rfl rfl (by kernel_rfl) (by kernel_rfl) (by kernel_rfl) (fun _ _ _ h => h) (by rfl) ?hy0 hHeld ?ry0
  case hy0 => (intro w hSw; (try dsimp only at hSw); go_simp; try with_reducible rfl)
  simp only [Act.put, List.setIfInBounds_toArray, List.set_cons_zero, List.set_cons_succ]
  refine takeH 1 89 (v := ?vy1) rfl rfl (by kernel_rfl) (by kernel_rfl) (by kernel_rfl) (fun _ _ _ h => h) (by rfl) ?hy1 hHeld ?ry1
  case hy1 => (intro w hSw; (try dsimp only at hSw); go_simp; try with_reducible rfl)
  simp only [Act.put, List.setIfInBounds_toArray, List.set_cons_zero, List.set_cons_succ]
  refine takeH 2 90 (v := ?vy2) rfl rfl (by kernel_rfl) (by kernel_rfl) (by kernel_rfl) (fun _ _ _ h => h) (by rfl) ?hy2 hHeld ?ry2
  case hy2 => (intro w hSw; (try dsimp only at hSw); go_simp; try with_reducible rfl)
  simp only [Act.put, List.setIfInBounds_toArray, List.set_cons_zero, List.set_cons_succ]
  refine takeH 3 91 (v := ?vy3) rfl rfl (by kernel_rfl) (by kernel_rfl) (by kernel_rfl) (fun _ _ _ h => h) (by rfl) ?hy3 hHeld ?ry3
  case hy3 => (intro w hSw; (try dsimp only at hSw); go_simp; try with_reducible rfl)
  simp only [Act.put, List.setIfInBounds_toArray, List.set_cons_zero, List.set_cons_succ]
  refine takeH 6 94 (v := ?vy6) rfl rfl (by kernel_rfl) (by kernel_rfl) (by kernel_rfl) (fun _ _ _ h => h) (by rfl) ?hy6 hHeld ?ry6
  case hy6 => (intro w hSw; (try dsimp only at hSw); go_simp; try with_reducible rfl)
  simp only [Act.put, List.setIfInBounds_toArray, List.set_cons_zero, List.set_cons_succ]
  refine takeH 7 95 (v := ?vy7) rfl rfl (by kernel_rfl) (by kernel_rfl) (by kernel_rfl) (fun _ _ _ h => h) (by rfl) ?hy7 hHeld ?ry7
  case hy7 => (intro w hSw; (try dsimp only at hSw); go_simp; try with_reducible rfl)
  simp only [Act.put, List.setIfInBounds_toArray, List.set_cons_zero, List.set_cons_succ]
  refine takeH 8 96 (v := ?vy8) rfl rfl (by kernel_rfl) (by kernel_rfl) (by kernel_rfl) (fun _ _ _ h => h) (by rfl) ?hy8 hHeld ?ry8
  case hy8 => (intro w hSw; (try dsimp only at hSw); go_simp; try with_reducible rfl)
  simp only [Act.put, List.setIfInBounds_toArray, List.set_cons_zero, List.set_cons_succ]
  refine takeH 9 97 (v := ?vy9) rfl rfl (by kernel_rfl) (by kernel_rfl) (by kernel_rfl) (fun _ _ _ h => h) (by rfl) ?hy9 hHeld ?ry9
  case hy9 => (intro w hSw; (try dsimp only at hSw); go_simp; try with_reducible rfl)
  simp only [Act.put, List.setIfInBounds_toArray, List.set_cons_zero, List.set_cons_succ]
  refine takeH 10 98 (v := ?vy10) rfl rfl (by kernel_rfl) (by kernel_rfl) (by kernel_rfl) (fun _ _ _ h => h) (by rfl) ?hy10 hHeld ?ry10
  case hy10 => (intro w hSw; (try dsimp only at hSw); go_simp; try with_reducible rfl)
  simp only [Act.put, List.setIfInBounds_toArray, List.set_cons_zero, List.set_cons_succ]
  refine takeH 11 99 (v := ?vy11) rfl rfl (by kernel_rfl) (by kernel_rfl) (by kernel_rfl) (fun _ _ _ h => h) (by rfl) ?hy11 hHeld ?ry11
  case hy11 => (intro w hSw; (try dsimp only at hSw); go_simp; try with_reducible rfl)
  simp only [Act.put, List.setIfInBounds_toArray, List.set_cons_zero, List.set_cons_succ]
  refine wpAnyH_ready (rs := [4]) (by kernel_rfl) (by simp) ?_
  refine AllReadyH.cons rfl (fun K hK => ?_) AllReadyH.nil
  go_simp
  go_at_call 25
  refine (ref_put m em _).mono ?_
  rintro e w3 ⟨⟨g3, rfl, hR3⟩, hb4⟩
  have hb5 : Below w2.heap.size w2 w3 := ⟨hb4.os, hb4.tape, hb4.output, hb4.size, hb4.block⟩
  rw [EW.out] at hR3
  have HR3 := Lib.hid hR3
  clear hb4 hR3
  refine hK.out _ _ (conv_row (HR4.out.below hb5) _) (fun _ => ?_)
  clear hK K hHeld
  refine wpAnyH_mono (S' := (fun w' => (convert 41 9 (.slice (some ⟨b, off + j, none⟩) 4 (cap - j))).run Tryd.prog w' = .ok (.string (strOfNums q)) w' ∧ (convert 41 9 (.slice (some ⟨g3, 0, none⟩) 4 4)).run Tryd.prog w' = .ok (.string (strOfNums q)) w')) (fun _ h => h.1) _ _ _ _ ?_
  have hHeld : (fun w' => (convert 41 9 (.slice (some ⟨b, off + j, none⟩) 4 (cap - j))).run Tryd.prog w' = .ok (.string (strOfNums q)) w' ∧ (convert 41 9 (.slice (some ⟨g3, 0, none⟩) 4 4)).run Tryd.prog w' = .ok (.string (strOfNums q)) w') w3 := ⟨conv_row (HR4.out.below hb5) _, conv_row HR3.out 4⟩
  refine takeH 5 93 (v := ?vy5) rfl rfl (by kernel_rfl) (by kernel_rfl) (by kernel_rfl) (fun _ _ _ h => h) (by rfl) ?hy5 hHeld ?ry5
  case hy5 => (intro w hSw; (try dsimp only at hSw); go_simp; try with_reducible rfl)
  simp only [Act.put, List.setIfInBounds_toArray, List.set_cons_zero, List.set_cons_succ]
  refine takeH 12 100 (v := ?vy12) rfl rfl (by kernel_rfl) (by kernel_rfl) (by kernel_rfl) (fun _ _ _ h => h) (by rfl) ?hy12 hHeld ?ry12
  case hy12 => (intro w hSw; (try dsimp only at hSw); go_simp; try with_reducible rfl)
  simp only [Act.put, List.setIfInBounds_toArray, List.set_cons_zero, List.set_cons_succ]
  refine takeH 13 101 (v := ?vy13) rfl rfl (by kernel_rfl) (by kernel_rfl) (by kernel_rfl) (fun _ _ _ h => h) (by rfl) ?hy13 hHeld ?ry13
  case hy13 => (intro w hSw; (try dsimp only at hSw); go_simp; try with_reducible rfl)
  simp only [Act.put, List.setIfInBounds_toArray, List.set_cons_zero, List.set_cons_succ]
  refine takeH 14 102 (v := ?vy14) rfl rfl (by kernel_rfl) (by kernel_rfl) (by kernel_rfl) (fun _ _ _ h => h) (by rfl) ?hy14 hHeld ?ry14
  case hy14 => (intro w hSw; (try dsimp only at hSw); go_simp; try with_reducible rfl)
  simp only [Act.put, List.setIfInBounds_toArray, List.set_cons_zero, List.set_cons_succ]
  refine wpAnyH_ready (rs := [15]) (by kernel_rfl) (by simp) ?_
  refine AllReadyH.cons rfl (fun K hK => ?_) AllReadyH.nil
  go_simp
  go_at_call 14
  refine (lives_true _).mono ?_
  rintro e w4 ⟨rfl, hb6⟩
  have hB4 := (hB2.trans (hb5.mono hB2.size)).trans (hb6.mono (by have := hB2.size; have := hb5.size; omega))
  have hHeld2 : (fun w' => (convert 41 9 (.slice (some ⟨b, off + j, none⟩) 4 (cap - j))).run Tryd.prog w' = .ok (.string (strOfNums q)) w' ∧ (convert 41 9 (.slice (some ⟨g3, 0, none⟩) 4 4)).run Tryd.prog w' = .ok (.string (strOfNums q)) w') w4 := ⟨conv_row ((HR4.out.below hb5).below hb6) _, conv_row (HR3.out.below hb6) 4⟩
  refine hK.out _ _ hHeld2 (fun _ => ?_)
  clear hK K hHeld
  refine takeH 16 104 (v := ?vy16) rfl rfl (by kernel_rfl) (by kernel_rfl) (by kernel_rfl) (fun _ _ _ h => h) (by rfl) ?hy16 hHeld2 ?ry16
  case hy16 => (intro w hSw; (try dsimp only at hSw); go_simp; try with_reducible rfl)
  simp only [Act.put, List.setIfInBounds_toArray, List.set_cons_zero, List.set_cons_succ]
  refine takeH 17 6 (v := ?vy17) rfl rfl (by kernel_rfl) (by kernel_rfl) (by kernel_rfl) (fun _ _ _ h => h) (by rfl) ?hy17 hHeld2 ?ry17
  case hy17 => (intro w hSw; (try dsimp only at hSw); go_simp; try with_reducible rfl)
  simp only [Act.put, List.setIfInBounds_toArray, List.set_cons_zero, List.set_cons_succ]
  refine wpAnyH_done (by kernel_rfl) ?_ _
  go_wp2
  go_ret
  exact ⟨rfl, hB4⟩
end WordBytes

theorem wordBytes_walk (a0 : Option Addr) (len0 cap0 : Nat) (z0 : List Int) (a1 a2 : Int) (W : World) (w0 : IsRow .u8 W a0 len0 cap0 z0) (w1 : (Lit.int .i32 a1).wf = true) (w2 : (Lit.int .i64 a2).wf = true) (_hL : laidMetH Tryd.prog Rows.wordBytesRow.laid W) :
    Calls Tryd.prog 9 #[.slice a0 len0 cap0, .int .i32 a1, .int .i64 a2] W fun e w' => e = .returned (.bool true) ∧ Below W.heap.size W w' :=
  WordBytes.walk a0 len0 cap0 z0 a1 a2 (bounds_i32 w1) (bounds_i64 w2) W w0
end Go.Proofs.YthgkkgjnealkbaaDoor
