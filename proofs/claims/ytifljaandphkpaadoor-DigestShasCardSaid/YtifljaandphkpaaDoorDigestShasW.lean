/-
  The walk of the law DigestShas: it answers true and writes nothing that was there.
-/
import Derived.Test.YtifljaandphkpaaDoorRefMain
import Derived.Test.YtifljaandphkpaaDoorNameL
import Derived.Test.YtifljaandphkpaaDoorDrawn
import Derived.Test.YtifljaandphkpaaDoorCut2
namespace Go.Proofs.YtifljaandphkpaaDoor
open Go.RowKit
set_option linter.unusedVariables false

set_option maxRecDepth 100000 in
set_option maxHeartbeats 2000000 in
theorem digestShas_walk (a0 : Option Addr) (len0 cap0 : Nat) (z0 : List Int) (W : World) (w0 : IsRow .u8 W a0 len0 cap0 z0) (hL : laidMetH Tryd.prog Rows.digestShasRow.laid W) :
    Calls Tryd.prog 4 #[.slice a0 len0 cap0] W fun e w' => e = .returned (.bool true) ∧ Below W.heap.size W w' := by
  obtain ⟨l0, hH, hc⟩ := Held.of_isRow w0
  have HK := Lib.hid (roots_of_laid hL)
  have hle : len0 ≤ cap0 := hH.2.2
  have hH2 := hH.take (k := min len0 2000) (Nat.min_le_left _ _)
  have HQ := Lib.hid hH2
  generalize l0.take (min len0 2000) = l at *
  have hm : min len0 2000 ≤ 2000 := by omega
  have HC := Lib.hid (cut_any a0 len0 cap0 hle hc W)
  clear hH hH2 w0 hL
  generalize min len0 2000 = m at *
  have hz32 : Hid ((List.replicate 32 0 : List Nat).length = 32) := Lib.hid rfl
  have hS32 := Lib.hid (shaN_length l)
  have hSlt := Lib.hid (shaN_lt l)
  go_enter Tryd.func4, Tryd.ntmps4
  go_wp2_with fail
  refine HC.out.mono ?_
  clear HC
  rintro e w' ⟨rfl, rfl⟩
  go_wp2_with fail
  refine (sha_any a0 m cap0 l (by omega) hc W HQ.out HK.out).mono ?_
  rintro e w1 ⟨rfl, hb1⟩
  have HN := Lib.hid (fun w => name_any a0 m cap0 l (by omega) hc w)
  have HRS := Lib.hid (fun w => refsha_any a0 m cap0 l (by omega) w)
  generalize hsh : shaN l = sh at *
  clear hsh
  have f2 := Lib.hid (Row.new w1 .u8 28 (List.replicate 32 0))
  have fB := Lib.hid (hb1.alloc hb1.size (.cells (cellsK .u8 (List.replicate 32 0)).toArray 28))
  have hlt : W.heap.size ≤ w1.heap.size := hb1.size
  clear hb1
  go_wp2_with (first
    | (rw [zeros28]; with_reducible refine wpList_storeK 28 (.tmp 3) (.tmp 8) rfl rfl w1.heap.size .u8 .u8 28 (List.replicate 32 0) sh 32 f2 rfl rfl size32b hS32 hz32 ?_
       have g2 := Lib.hid ((f2.out.setRow sh).toN hSlt.out)
       have gB := Lib.hid (below_setRow fB.out (g := w1.heap.size) (by omega) (cellsK .u8 sh).toArray)
       rw [hS32.out] at g2
       clear f2 fB
       generalize (w1.alloc (.cells (cellsK .u8 (List.replicate 32 0)).toArray 28)).setRow w1.heap.size (cellsK .u8 sh).toArray = w3 at *
       generalize w1.heap.size = g3 at *))
  refine (HRS.out w3 (HQ.out.below gB.out)).mono ?_
  clear HRS
  rintro e w4 ⟨⟨g4, c4, rfl, hr4⟩, hb4⟩
  have G3 := Lib.hid (RowN.below g2.out hb4)
  have R4 := Lib.hid hr4
  have B4 := Lib.hid (gB.out.trans (hb4.mono gB.out.size))
  clear hr4 hb4 g2 gB
  go_wp2_with fail
  refine wp_region_held_drew (S := fun w => RowN w (some ⟨g3, 0, none⟩) 32 sh ∧ RowN w (some ⟨g4, 0, none⟩) 32 sh) (by kernel_rfl) ⟨G3.out, R4.out⟩ (fun _ => ?_)
  have SS : RowN w4.drew (some ⟨g3, 0, none⟩) 32 sh ∧ RowN w4.drew (some ⟨g4, 0, none⟩) 32 sh := ⟨G3.out, R4.out⟩
  have HSS := Lib.hid SS
  have B5 := Lib.hid B4.out.drew
  clear SS G3 R4 B4
  generalize w4.drew = w5 at *
  refine takeH 0 11 (v := (.slice (some ⟨g3, 0, none⟩) 32 32)) rfl rfl (by kernel_rfl) (by kernel_rfl) (by kernel_rfl) (fun _ _ _ h => h) (by rfl) ?_ HSS.out ?_
  · (intro w hSw; (try dsimp only at hSw); go_simp)
  try simp only [Act.put, List.setIfInBounds_toArray, List.set_cons_zero, List.set_cons_succ]
  refine takeH 1 12 (v := (.string (strOfNums (asZ sh)))) rfl rfl (by kernel_rfl) (by kernel_rfl) (by kernel_rfl) (fun _ _ _ h => h) (by rfl) ?_ HSS.out ?_
  · (intro w hSw; (try dsimp only at hSw); have hcv := conv_row (show RowZ w _ 32 (asZ sh) from hSw.1) 32; go_simp)
  try simp only [Act.put, List.setIfInBounds_toArray, List.set_cons_zero, List.set_cons_succ]
  refine takeH 2 13 (v := (.slice (some ⟨g4, 0, none⟩) 32 c4)) rfl rfl (by kernel_rfl) (by kernel_rfl) (by kernel_rfl) (fun _ _ _ h => h) (by rfl) ?_ HSS.out ?_
  · (intro w hSw; (try dsimp only at hSw); go_simp)
  try simp only [Act.put, List.setIfInBounds_toArray, List.set_cons_zero, List.set_cons_succ]
  refine takeH 3 14 (v := (.string (strOfNums (asZ sh)))) rfl rfl (by kernel_rfl) (by kernel_rfl) (by kernel_rfl) (fun _ _ _ h => h) (by rfl) ?_ HSS.out ?_
  · (intro w hSw; (try dsimp only at hSw); have hcv := conv_row (show RowZ w _ 32 (asZ sh) from hSw.2) c4; go_simp)
  try simp only [Act.put, List.setIfInBounds_toArray, List.set_cons_zero, List.set_cons_succ]
  refine takeH 4 15 (v := (.bool true)) rfl rfl (by kernel_rfl) (by kernel_rfl) (by kernel_rfl) (fun _ _ _ h => h) (by rfl) ?_ HSS.out ?_
  · (intro w hSw; (try dsimp only at hSw); go_simp)
  try simp only [Act.put, List.setIfInBounds_toArray, List.set_cons_zero, List.set_cons_succ]
  refine takeH 5 16 (v := (.bool true)) rfl rfl (by kernel_rfl) (by kernel_rfl) (by kernel_rfl) (fun _ _ _ h => h) (by rfl) ?_ HSS.out ?_
  · (intro w hSw; (try dsimp only at hSw); go_simp)
  try simp only [Act.put, List.setIfInBounds_toArray, List.set_cons_zero, List.set_cons_succ]
  refine takeH 6 17 (v := (.slice a0 m cap0)) rfl rfl (by kernel_rfl) (by kernel_rfl) (by kernel_rfl) (fun _ _ _ h => h) (by rfl) ?_ HSS.out ?_
  · (intro w hSw; (try dsimp only at hSw); go_simp)
  try simp only [Act.put, List.setIfInBounds_toArray, List.set_cons_zero, List.set_cons_succ]
  refine takeH 8 19 (v := (.slice (some ⟨g4, 0, none⟩) 32 c4)) rfl rfl (by kernel_rfl) (by kernel_rfl) (by kernel_rfl) (fun _ _ _ h => h) (by rfl) ?_ HSS.out ?_
  · (intro w hSw; (try dsimp only at hSw); go_simp)
  try simp only [Act.put, List.setIfInBounds_toArray, List.set_cons_zero, List.set_cons_succ]
  refine wpAnyH_ready (rs := [7]) (by kernel_rfl) (by simp) ?_
  refine AllReadyH.cons rfl (fun K hK => ?_) AllReadyH.nil
  go_simp
  go_at_call 15
  refine (HN.out w5 (HQ.out.below B5.out) (HK.out.below B5.out)).mono ?_
  clear HN
  rintro e w6 ⟨rfl, hb6⟩
  have HSS6 := Lib.hid (And.intro (RowN.below HSS.out.1 hb6) (RowN.below HSS.out.2 hb6))
  have B6 := Lib.hid (B5.out.trans (hb6.mono B5.out.size))
  clear hb6 HSS B5
  refine hK.out _ _ HSS6.out (fun _ => ?_)
  clear hK K
  refine wpAnyH_ready (rs := [9]) (by kernel_rfl) (by simp) ?_
  refine AllReadyH.cons rfl (fun K hK => ?_) AllReadyH.nil
  go_simp
  go_at_call 16
  refine (ref_hex (some ⟨g4, 0, none⟩) 32 c4 (asZ sh) (by omega) w6 HSS6.out.2).mono ?_
  rintro e w7 ⟨rfl, hb7⟩
  have HSS7 := Lib.hid (And.intro (RowN.below HSS6.out.1 hb7) (RowN.below HSS6.out.2 hb7))
  have B7 := Lib.hid (B6.out.trans (hb7.mono B6.out.size))
  clear hb7 HSS6 B6
  refine hK.out _ _ HSS7.out (fun _ => ?_)
  clear hK K
  refine takeH 10 21 (v := (.bool true)) rfl rfl (by kernel_rfl) (by kernel_rfl) (by kernel_rfl) (fun _ _ _ h => h) (by rfl) ?_ HSS7.out ?_
  · (intro w hSw; (try dsimp only at hSw); go_simp)
  try simp only [Act.put, List.setIfInBounds_toArray, List.set_cons_zero, List.set_cons_succ]
  refine takeH 11 22 (v := (.bool true)) rfl rfl (by kernel_rfl) (by kernel_rfl) (by kernel_rfl) (fun _ _ _ h => h) (by rfl) ?_ HSS7.out ?_
  · (intro w hSw; (try dsimp only at hSw); go_simp)
  try simp only [Act.put, List.setIfInBounds_toArray, List.set_cons_zero, List.set_cons_succ]
  refine takeH 12 23 (v := (.bool true)) rfl rfl (by kernel_rfl) (by kernel_rfl) (by kernel_rfl) (fun _ _ _ h => h) (by rfl) ?_ HSS7.out ?_
  · (intro w hSw; (try dsimp only at hSw); go_simp)
  try simp only [Act.put, List.setIfInBounds_toArray, List.set_cons_zero, List.set_cons_succ]
  refine wpAnyH_ready (rs := [13]) (by kernel_rfl) (by simp) ?_
  refine AllReadyH.cons rfl (fun K hK => ?_) AllReadyH.nil
  go_simp
  go_at_call 12
  refine (lives_true w7 (HK.out.below B7.out)).mono ?_
  rintro e w8 ⟨rfl, hb8⟩
  have HSS8 := Lib.hid (And.intro (RowN.below HSS7.out.1 hb8) (RowN.below HSS7.out.2 hb8))
  have B8 := Lib.hid (B7.out.trans (hb8.mono B7.out.size))
  clear hb8 HSS7 B7
  refine hK.out _ _ HSS8.out (fun _ => ?_)
  clear hK K
  refine takeH 14 25 (v := (.bool true)) rfl rfl (by kernel_rfl) (by kernel_rfl) (by kernel_rfl) (fun _ _ _ h => h) (by rfl) ?_ HSS8.out ?_
  · (intro w hSw; (try dsimp only at hSw); go_simp)
  try simp only [Act.put, List.setIfInBounds_toArray, List.set_cons_zero, List.set_cons_succ]
  refine takeH 15 2 (v := (.bool true)) rfl rfl (by kernel_rfl) (by kernel_rfl) (by kernel_rfl) (fun _ _ _ h => h) (by rfl) ?_ HSS8.out ?_
  · (intro w hSw; (try dsimp only at hSw); go_simp)
  refine wpAnyH_done (by kernel_rfl) ?_ _
  go_wp2
  go_ret
  exact ⟨rfl, B8.out⟩
end Go.Proofs.YtifljaandphkpaaDoor
