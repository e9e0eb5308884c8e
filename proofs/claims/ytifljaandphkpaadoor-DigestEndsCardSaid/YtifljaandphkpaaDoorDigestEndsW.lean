/-
  The walk of the law DigestEnds: it answers true and writes nothing that was there.
-/
import Derived.Test.YtifljaandphkpaaDoorRefMain
import Derived.Test.YtifljaandphkpaaDoorNameL
import Derived.Test.YtifljaandphkpaaDoorDrawn
import Derived.Test.YtifljaandphkpaaDoorCut2
namespace Go.Proofs.YtifljaandphkpaaDoor
open Go.RowKit
set_option linter.unusedVariables false

/-- The bytes while the first j have been set. -/
def endB (c n : Nat) : Nat → List Nat
  | 0 => List.replicate n 0
  | j + 1 => (endB c n j).set j ((c + j) % 256)
theorem endB_length (c n : Nat) : ∀ j, (endB c n j).length = n
  | 0 => List.length_replicate ..
  | j + 1 => by rw [endB, List.length_set, endB_length c n j]
theorem endB_lt (c n : Nat) : ∀ j, ∀ x ∈ endB c n j, x < 256
  | 0, x, hx => by
    rw [endB] at hx
    have := List.eq_of_mem_replicate hx
    omega
  | j + 1, x, hx => by
    rw [endB] at hx
    rcases List.mem_or_eq_of_mem_set hx with h | h
    · exact endB_lt c n j x h
    · omega
theorem zeros_row (n : Nat) : cellsZ (List.replicate n 0) = cellsK .u8 (List.replicate n 0) := by
  simp [cellsZ, cellsK]

set_option maxRecDepth 100000 in
set_option maxHeartbeats 2000000 in
theorem digestEnds_n (n : Nat) (hn : n ≤ 300) (a0 : Int) (h0 : (if 0 < (if 300 < a0 then 300 else a0) then (if 300 < a0 then 300 else a0) else 0) = (n : Int)) (c : Nat) (hc : c < 256) (W : World) (hL : laidMetH Tryd.prog Rows.digestEndsRow.laid W) :
    Calls Tryd.prog 7 #[.int .i64 a0, .int .u8 (c : Int)] W fun e w' => e = .returned (.bool true) ∧ Below W.heap.size W w' := by
  have HK := Lib.hid (roots_of_laid hL)
  have H0 := Lib.hid h0
  clear hL h0
  have f1 : Hid (Row (W.alloc (.cells (cellsZ (List.replicate n 0)).toArray 5)) W.heap.size .u8 5 (endB c n 0)) := Lib.hid (by
    rw [zeros_row]
    exact Row.new W .u8 5 (List.replicate n 0))
  have fB : Hid (Below W.heap.size W (W.alloc (.cells (cellsZ (List.replicate n 0)).toArray 5))) := Lib.hid ((Below.refl _ _).alloc (Nat.le_refl _) _)
  go_enter Tryd.func7, Tryd.ntmps7
  go_upto_region 2 with fail
  rw [H0.out]
  generalize (if 300 < a0 then (300 : Int) else a0) = q0 at *
  clear H0
  have hmk := make_bytes n n (Nat.le_refl _) (by omega) W
  go_upto_region 3 with fail
  clear hmk
  generalize W.alloc (.cells (cellsZ (List.replicate n 0)).toArray 5) = w1 at *
  go_wp2
  go_loopw [15] (fun i wr => ∃ j : Nat, j ≤ n ∧ i = .int .i64 (j : Int) ∧ Hid (Row wr W.heap.size .u8 5 (endB c n j)) ∧ Hid (Below W.heap.size W wr)) (fun i _ => n - (intOf i).toNat)
  case atStart => exact ⟨0, by omega, rfl, f1, fB⟩
  case round =>
    obtain ⟨j, hj, rfl, r1, rB⟩ := hrel
    clear f1 fB
    by_cases hjn : j < n
    · have hji : (j : Int) < (n : Int) := by omega
      have hc1 := r1.out.cell j (by rw [endB_length]; exact hjn)
      have hf := r1.out.free j
      have hN : Hid (Row (wr.setCell ⟨W.heap.size, j, none⟩ (.int .u8 (((c : Int) + (j : Int)) % 256))) W.heap.size .u8 5 (endB c n (j + 1))) := Lib.hid (r1.out.set j ((c + j) % 256))
      go_wp2
      go_roundw
      case rel => exact ⟨j + 1, by omega, by go_num, hN, Lib.hid (rB.out.setCell (by simp) _)⟩
      case measure => simp [intOf]; omega
    · obtain rfl : j = n := by omega
      have hR0 := r1.out.toN (endB_lt c j j)
      rw [endB_length] at hR0
      have hR := Lib.hid hR0
      clear hR0 r1
      generalize endB c j j = l at *
      have HH : Hid (Held wr (some ⟨W.heap.size, 0, none⟩) j j l) := Lib.hid ⟨hR.out, (fun h => by cases h), Nat.le_refl _⟩
      have HKr := Lib.hid (HK.out.below rB.out)
      clear hR HK
      have hz32 : Hid ((List.replicate 32 0 : List Nat).length = 32) := Lib.hid rfl
      have hS32 := Lib.hid (shaN_length l)
      have hSlt := Lib.hid (shaN_lt l)
      have hgw : W.heap.size ≤ wr.heap.size := rB.out.size
      generalize hg : W.heap.size = gw at *
      have HG := Lib.hid hg
      clear hg
      go_wp2_with fail
      refine (sha_any (some ⟨gw, 0, none⟩) j j l (by omega) (by omega) wr HH.out HKr.out).mono ?_
      rintro e w1 ⟨rfl, hb1⟩
      have HRS := Lib.hid (fun w => refsha_any (some ⟨gw, 0, none⟩) j j l (by omega) w)
      generalize hsh : shaN l = sh at *
      clear hsh
      have f2 := Lib.hid (Row.new w1 .u8 28 (List.replicate 32 0))
      have fB := Lib.hid (hb1.alloc hb1.size (.cells (cellsK .u8 (List.replicate 32 0)).toArray 28))
      have hlt : wr.heap.size ≤ w1.heap.size := hb1.size
      clear hb1
      go_wp2_with (first
        | (rw [zeros28]; with_reducible refine wpList_storeK 28 (.tmp 7) (.tmp 27) rfl rfl w1.heap.size .u8 .u8 28 (List.replicate 32 0) sh 32 f2 rfl rfl size32b hS32 hz32 ?_
           have g2 := Lib.hid ((f2.out.setRow sh).toN hSlt.out)
           have gB := Lib.hid (below_setRow fB.out (g := w1.heap.size) (by omega) (cellsK .u8 sh).toArray)
           rw [hS32.out] at g2
           clear f2 fB
           generalize (w1.alloc (.cells (cellsK .u8 (List.replicate 32 0)).toArray 28)).setRow w1.heap.size (cellsK .u8 sh).toArray = w3 at *
           generalize w1.heap.size = g3 at *))
      refine wp_region_held_drew (S := fun w => RowN w (some ⟨g3, 0, none⟩) 32 sh) (by kernel_rfl) g2.out (fun _ => ?_)
      have HSS : Hid (RowN w3.drew (some ⟨g3, 0, none⟩) 32 sh) := g2
      have B5 := Lib.hid gB.out.drew
      clear g2 gB
      generalize w3.drew = w5 at *
      refine takeH 0 28 (v := (.slice (some ⟨g3, 0, none⟩) 32 32)) rfl rfl (by kernel_rfl) (by kernel_rfl) (by kernel_rfl) (fun _ _ _ h => h) (by rfl) ?_ HSS.out ?_
      · (intro w hSw; (try dsimp only at hSw); go_simp)
      try simp only [Act.put, List.setIfInBounds_toArray, List.set_cons_zero, List.set_cons_succ]
      refine takeH 1 29 (v := (.string (strOfNums (asZ sh)))) rfl rfl (by kernel_rfl) (by kernel_rfl) (by kernel_rfl) (fun _ _ _ h => h) (by rfl) ?_ HSS.out ?_
      · (intro w hSw; (try dsimp only at hSw); have hcv := conv_row (show RowZ w _ 32 (asZ sh) from hSw) 32; go_simp)
      try simp only [Act.put, List.setIfInBounds_toArray, List.set_cons_zero, List.set_cons_succ]
      refine takeH 2 30 (v := (.slice (some ⟨gw, 0, none⟩) j j)) rfl rfl (by kernel_rfl) (by kernel_rfl) (by kernel_rfl) (fun _ _ _ h => h) (by rfl) ?_ HSS.out ?_
      · (intro w hSw; (try dsimp only at hSw); go_simp)
      try simp only [Act.put, List.setIfInBounds_toArray, List.set_cons_zero, List.set_cons_succ]
      refine wpAnyH_ready (rs := [3]) (by kernel_rfl) (by simp) ?_
      refine AllReadyH.cons rfl (fun K hK => ?_) AllReadyH.nil
      go_simp
      go_at_call 14
      refine (HRS.out w5 (HH.out.below B5.out)).mono ?_
      clear HRS
      rintro e w6 ⟨⟨g4, c4, rfl, hr4⟩, hb6⟩
      have HSS6 := Lib.hid (RowN.below HSS.out hb6)
      have B6 := Lib.hid (B5.out.trans (hb6.mono B5.out.size))
      clear hb6 HSS B5
      refine hK.out _ _ HSS6.out (fun _ => ?_)
      clear hK K
      have hcv := conv_row (show RowZ w6 _ 32 (asZ sh) from hr4) c4
      refine wpAnyH_ready (rs := [4]) (by kernel_rfl) (by simp) ?_
      refine AllReadyH.cons rfl (fun K hK => ?_) AllReadyH.nil
      go_simp
      refine hK.out _ _ HSS6.out (fun _ => ?_)
      clear hK K hcv hr4
      try simp only [Act.put, List.setIfInBounds_toArray, List.set_cons_zero, List.set_cons_succ]
      refine takeH 5 33 (v := (.bool true)) rfl rfl (by kernel_rfl) (by kernel_rfl) (by kernel_rfl) (fun _ _ _ h => h) (by rfl) ?_ HSS6.out ?_
      · (intro w hSw; (try dsimp only at hSw); go_simp)
      try simp only [Act.put, List.setIfInBounds_toArray, List.set_cons_zero, List.set_cons_succ]
      refine takeH 6 34 (v := (.bool true)) rfl rfl (by kernel_rfl) (by kernel_rfl) (by kernel_rfl) (fun _ _ _ h => h) (by rfl) ?_ HSS6.out ?_
      · (intro w hSw; (try dsimp only at hSw); go_simp)
      try simp only [Act.put, List.setIfInBounds_toArray, List.set_cons_zero, List.set_cons_succ]
      refine wpAnyH_ready (rs := [7]) (by kernel_rfl) (by simp) ?_
      refine AllReadyH.cons rfl (fun K hK => ?_) AllReadyH.nil
      go_simp
      go_at_call 12
      refine (lives_true w6 (HKr.out.below B6.out)).mono ?_
      rintro e w8 ⟨rfl, hb8⟩
      have HSS8 := Lib.hid (RowN.below HSS6.out hb8)
      have B8 := Lib.hid (B6.out.trans (hb8.mono B6.out.size))
      clear hb8 HSS6 B6
      refine hK.out _ _ HSS8.out (fun _ => ?_)
      clear hK K
      refine takeH 8 36 (v := (.bool true)) rfl rfl (by kernel_rfl) (by kernel_rfl) (by kernel_rfl) (fun _ _ _ h => h) (by rfl) ?_ HSS8.out ?_
      · (intro w hSw; (try dsimp only at hSw); go_simp)
      try simp only [Act.put, List.setIfInBounds_toArray, List.set_cons_zero, List.set_cons_succ]
      refine takeH 9 4 (v := (.bool true)) rfl rfl (by kernel_rfl) (by kernel_rfl) (by kernel_rfl) (fun _ _ _ h => h) (by rfl) ?_ HSS8.out ?_
      · (intro w hSw; (try dsimp only at hSw); go_simp)
      refine wpAnyH_done (by kernel_rfl) ?_ _
      go_wp2
      go_ret
      have hg := HG.out
      subst hg
      exact ⟨rfl, rB.out.trans (B8.out.mono hgw)⟩
theorem digestEnds_walk (a0 : Int) (a1 : Int) (W : World) (w0 : (Lit.int .i64 a0).wf = true) (w1 : (Lit.int .u8 a1).wf = true) (hL : laidMetH Tryd.prog Rows.digestEndsRow.laid W) :
    Calls Tryd.prog 7 #[.int .i64 a0, .int .u8 a1] W fun e w' => e = .returned (.bool true) ∧ Below W.heap.size W w' := by
  obtain ⟨c, hc, rfl⟩ : ∃ s : Nat, s < 256 ∧ a1 = (s : Int) := by
    have := bounds_u8 w1
    exact ⟨a1.toNat, by omega, by omega⟩
  obtain ⟨n, hn, h0⟩ : ∃ n : Nat, n ≤ 300 ∧ (if 0 < (if 300 < a0 then 300 else a0) then (if 300 < a0 then 300 else a0) else 0) = (n : Int) := by
    by_cases h1 : 300 < a0
    · exact ⟨300, by omega, by simp [h1]⟩
    · by_cases h2 : 0 < a0
      · exact ⟨a0.toNat, by omega, by rw [if_neg h1, if_pos h2]; omega⟩
      · exact ⟨0, by omega, by rw [if_neg h1, if_neg h2]; rfl⟩
  exact digestEnds_n n hn a0 h0 c hc W hL
end Go.Proofs.YtifljaandphkpaaDoor
