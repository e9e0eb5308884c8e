/-
  The walk of SetsNobody.
-/
import Derived.Test.YtjkcomoadpileaaDoorTx
import Derived.Test.YtjkcomoadpileaaDoorRn
namespace Go.Proofs.YtjkcomoadpileaaDoor
open Go.RowKit
set_option linter.unusedVariables false

theorem same_nobody (ws : List Nat) (h : Small ws) : sameB ws [] = decide (lenW ws = 0) := by
  have hs0 : Small [] := fun x hx => by cases hx
  have h1 : Twin (elemsZ ws) ws := ⟨elemsZ_rises ws, mem_elemsZ ws⟩
  rw [h1.same Twin.nil h hs0, ← lenW_elems]
  rw [Bool.eq_iff_iff, decide_eq_true_eq, decide_eq_true_eq]
  exact (List.length_eq_zero_iff).symm
theorem len_nobody : lenW [] = 0 := by decide
theorem elems_nobody : elemsZ [] = [] := by decide
set_option maxRecDepth 100000 in
set_option maxHeartbeats 3200000 in
theorem setsNobody_walk (n : Int) (A : Option Addr) (len cap : Nat) (Z : List Int) (W : World) (hn : (Lit.int .i64 n).wf = true) (hR : IsRow .i64 W A len cap Z) (hL : laidMetH Tryd.prog Rows.setsNobodyRow.laid W) :
    Calls Tryd.prog 6 #[.int .i64 n, .slice A len cap] W fun e W' => e = .returned (.bool true) ∧ Below W.heap.size W W' := by
  obtain ⟨hI0, hlc, hcm⟩ := Ints.of_isRow hR
  have hT := tab_of_laid hL
  have hab := bounds_i64 hn
  have hI : Ints W A (min len 50) ((Z.take len).take (min len 50)) := hI0.take (Nat.min_le_left _ _)
  generalize (Z.take len).take (min len 50) = L1 at hI
  have hm0 : min len 50 ≤ 50 := Nat.min_le_right _ _
  obtain ⟨ws, hws⟩ : ∃ ws, ofW L1 = ws := ⟨_, rfl⟩
  have HOF : Hid (∀ w', Below W.heap.size W w' → Calls Tryd.prog 7 #[.slice A (min len 50) cap] w' fun e w'' => Fresh w' e ws w'') :=
    Lib.hid (fun w' hb => by rw [← hws]; exact of_any w' A (min len 50) cap L1 (hI.below hb) (by omega))
  have HONE : Hid (∀ w' : World, Calls Tryd.prog 7 #[.slice (some ⟨w'.heap.size, 0, none⟩) 1 1] (w'.alloc (.cells #[.int .i64 n] 3)) fun e w'' => Fresh (w'.alloc (.cells #[.int .i64 n] 3)) e (ofW [n]) w'') := Lib.hid (fun w' => by
    refine of_any _ _ 1 1 [n] ⟨rfl, (fun z hz => by simp at hz; subst hz; omega), fun _ => ⟨w'.heap.size, 0, rfl, by simp, fun i hi => ?_⟩⟩ (by decide)
    obtain rfl : i = 0 := by omega
    exact cell_of_one (heap_alloc_new w' _))
  have HNONE : Hid (∀ w' : World, Calls Tryd.prog 7 #[.slice none 0 0] w' fun e w'' => Fresh w' e [] w'') := Lib.hid (fun w' => by
    exact of_any w' none 0 0 [] ⟨rfl, (fun z hz => by cases hz), fun h => absurd h (Nat.lt_irrefl 0)⟩ (by decide))
  have HT := Lib.hid hT
  clear hI0 hI hR hL hT hn hws
  have heqb : sameB [] [] = true := by decide
  have hle := len_nobody
  have hel := elems_nobody
  rcases Nat.lt_or_ge 50 len with hs | hs
  · rw [show min len 50 = 50 by omega] at HOF
    have hi : ¬ (len : Int) ≤ 50 := by omega
    have hi2 : (50 : Int) < (len : Int) := by omega
    have hc2 : (50 : Int) ≤ (cap : Int) := by omega
    cases A <;>
    · go_enter Tryd.func6, Tryd.ntmps6
      go_wp2_with fail
      refine (get_nil W n).mono ?_
      rintro e w' ⟨rfl, rfl⟩
      go_wp2_with fail
      refine (pop_nilI W).mono ?_
      rintro e w' ⟨rfl, rfl⟩
      go_wp2_with fail
      refine (put_nil W n).mono ?_
      rintro e w' ⟨rfl, rfl⟩
      go_wp2_with fail
      refine (drop_nil W n (by omega)).mono ?_
      rintro e w' ⟨rfl, rfl⟩
      go_wp2_with fail
      refine (has_nil W n (by omega)).mono ?_
      rintro e w' ⟨rfl, rfl⟩
      go_wp2_with fail
      refine (len_nil W).mono ?_
      rintro e w' ⟨rfl, rfl⟩
      go_wp2_with fail
      refine (HOF.out W (Below.refl _ W)).mono ?_
      rintro e w1 ⟨b1, v1, rfl, hS1, hF1, hB1⟩
      clear hS1 hF1
      have HB1 := Lib.hid hB1
      clear hB1
      go_wp2_with fail
      refine (join_nil w1 _).mono ?_
      rintro e w' ⟨rfl, rfl⟩
      go_wp2_with fail
      refine (HONE.out w1).mono ?_
      rintro e w2 ⟨b2, v2, rfl, hS2, hF2, hB2⟩
      have HS2 := Lib.hid hS2
      have HB2 : Hid (Below W.heap.size W w2) := Lib.hid (HB1.out.trans (((Below.refl w1.heap.size w1).alloc (Nat.le_refl _) _).trans (hB2.mono (by simp)) |>.mono HB1.out.size))
      clear hS2 hF2 hB2
      go_wp2_with fail
      refine (minus_nil w2 b2 v2 _ HS2.out).mono ?_
      rintro e w' ⟨rfl, rfl⟩
      go_wp2_with fail
      refine (clone_nil w2).mono ?_
      rintro e w3 ⟨b3, v3, rfl, hS3, hF3, hB3⟩
      have HB3 := Lib.hid (HB2.out.trans (hB3.mono HB2.out.size))
      clear hS3 hF3 hB3
      go_wp2_with fail
      refine (clone_nil w3).mono ?_
      rintro e w4 ⟨b4, v4, rfl, hS4, hF4, hB4⟩
      have HS4 := Lib.hid hS4
      have HB4 := Lib.hid (HB3.out.trans (hB4.mono HB3.out.size))
      clear hS4 hF4 hB4
      have HLEN4 := Lib.hid (len_any w4 b4 v4 [] HS4.out)
      rw [hle] at HLEN4
      go_wp2_with fail
      refine HLEN4.out.mono ?_
      rintro e w' ⟨rfl, rfl⟩
      go_wp2_with fail
      refine (rowPut_nil w4 n n).mono ?_
      rintro e w' ⟨rfl, rfl⟩
      go_wp2_with fail
      refine (rowDrop_nil w4 n).mono ?_
      rintro e w' ⟨rfl, rfl⟩
      go_wp2_with fail
      refine (rowLen_nil w4).mono ?_
      rintro e w' ⟨rfl, rfl⟩
      go_wp2_with fail
      refine (push_nilI w4 n).mono ?_
      rintro e w' ⟨rfl, rfl⟩
      go_wp2_with fail
      refine (qlen_nilI w4).mono ?_
      rintro e w' ⟨rfl, rfl⟩
      go_wp2_with fail
      refine (HOF.out w4 HB4.out).mono ?_
      rintro e w5 ⟨b5, v5, rfl, hS5, hF5, hB5⟩
      have HS5 := Lib.hid hS5
      have HB5 := Lib.hid (HB4.out.trans (hB5.mono HB4.out.size))
      have HF5 := Lib.hid hF5
      clear hS5 hF5 hB5
      have HALL := Lib.hid (all_any w5 none _ [] (At.none w5) (HT.out.below HB5.out HT.out.1))
      rw [hel] at HALL
      go_wp2_with fail
      refine HALL.out.mono ?_
      rintro e w6 ⟨A6, c6, rfl, hI6, hB6, _⟩
      have HS6 := Lib.hid (HS5.out.below hB6)
      have HB6 := Lib.hid (HB5.out.trans (hB6.mono HB5.out.size))
      clear hI6 hB6
      go_wp2_with fail
      refine (join_none w6 b5 v5 ws HS6.out).mono ?_
      rintro e w7 ⟨rfl, v7, hS7, hC7, hF7⟩
      have HS7 := Lib.hid hS7
      have HB7 : Hid (Below W.heap.size W w7) := Lib.hid (HB6.out.trans (hC7.toBelow (fun k hk => Nat.le_trans HB4.out.size (HF5.out k hk)) HB6.out.size))
      clear hS7 hC7 hF7
      go_wp2_with fail
      refine (minus_none w7 b5 v7 ws HS7.out).mono ?_
      rintro e w' ⟨rfl, rfl⟩
      have HSB := Lib.hid (same_any w7 none none _ _ [] [] (At.none w7) (At.none w7))
      rw [heqb] at HSB
      go_wp2_with fail
      refine HSB.out.mono ?_
      rintro e w8 ⟨rfl, d8, hw8⟩
      have HS8 : Hid (SetG w8 b5 v7 ws) := by rw [hw8]; exact Lib.hid (HS7.out.drewN d8)
      have HB8 : Hid (Below W.heap.size W w8) := by rw [hw8]; exact Lib.hid ⟨HB7.out.os, HB7.out.tape, HB7.out.output, HB7.out.size, HB7.out.block⟩
      clear hw8
      go_wp2_with fail
      refine (HNONE.out w8).mono ?_
      rintro e w9 ⟨b9, v9, rfl, hS9, hF9, hB9⟩
      have HS9 := Lib.hid hS9
      have HS89 := Lib.hid (HS8.out.below hB9)
      have HB9 := Lib.hid (HB8.out.trans (hB9.mono HB8.out.size))
      clear hS9 hF9 hB9
      have HSC := Lib.hid (same_any w9 none _ _ _ [] [] (At.none w9) (At.of HS9.out))
      rw [heqb] at HSC
      go_wp2_with fail
      refine HSC.out.mono ?_
      rintro e w10 ⟨rfl, d10, hw10⟩
      have HS10 : Hid (SetG w10 b5 v7 ws) := by rw [hw10]; exact Lib.hid (HS89.out.drewN d10)
      have HB10 : Hid (Below W.heap.size W w10) := by rw [hw10]; exact Lib.hid ⟨HB9.out.os, HB9.out.tape, HB9.out.output, HB9.out.size, HB9.out.block⟩
      clear hw10
      have HSD := Lib.hid (same_any w10 _ none _ _ ws [] (At.of HS10.out) (At.none w10))
      rw [same_nobody ws HS10.out.small] at HSD
      have HLN := Lib.hid (fun d => len_any (w10.drewN d) b5 v7 ws (HS10.out.drewN d))
      have hlw : lenW ws ≤ 65536 := by have := lenW_le ws; have := HS10.out.short; omega
      generalize lenW ws = k at *
      go_wp2_with fail
      refine HSD.out.mono ?_
      rintro e w11 ⟨rfl, d11, rfl⟩
      go_wp2_with fail
      refine (HLN.out d11).mono ?_
      rintro e w' ⟨rfl, rfl⟩
      have HB11 : Hid (Below W.heap.size W (w10.drewN d11)) := Lib.hid ⟨HB10.out.os, HB10.out.tape, HB10.out.output, HB10.out.size, HB10.out.block⟩
      generalize w10.drewN d11 = w12 at *
      rcases Nat.eq_zero_or_pos k with hk | hk
      · subst hk
        go_wp2_with fail
        refine (lives_any w12).mono ?_
        rintro e w13 ⟨rfl, hB13⟩
        have HB13 := Lib.hid (HB11.out.trans (hB13.mono HB11.out.size))
        clear hB13
        go_wp2
        go_ret
        exact ⟨rfl, HB13.out⟩
      · rw [decide_eq_false (show ¬ k = 0 by omega)]
        have hkp : ¬ (k : Int) = 0 := by omega
        go_wp2_with fail
        refine (lives_any w12).mono ?_
        rintro e w13 ⟨rfl, hB13⟩
        have HB13 := Lib.hid (HB11.out.trans (hB13.mono HB11.out.size))
        clear hB13
        go_wp2
        go_ret
        exact ⟨ret_bool (a := !((k : Int) == 0)) (by simp; omega), HB13.out⟩
  · rw [show min len 50 = len by omega] at HOF
    have hi : (len : Int) ≤ 50 := by omega
    cases A <;>
    · go_enter Tryd.func6, Tryd.ntmps6
      go_wp2_with fail
      refine (get_nil W n).mono ?_
      rintro e w' ⟨rfl, rfl⟩
      go_wp2_with fail
      refine (pop_nilI W).mono ?_
      rintro e w' ⟨rfl, rfl⟩
      go_wp2_with fail
      refine (put_nil W n).mono ?_
      rintro e w' ⟨rfl, rfl⟩
      go_wp2_with fail
      refine (drop_nil W n (by omega)).mono ?_
      rintro e w' ⟨rfl, rfl⟩
      go_wp2_with fail
      refine (has_nil W n (by omega)).mono ?_
      rintro e w' ⟨rfl, rfl⟩
      go_wp2_with fail
      refine (len_nil W).mono ?_
      rintro e w' ⟨rfl, rfl⟩
      go_wp2_with fail
      refine (HOF.out W (Below.refl _ W)).mono ?_
      rintro e w1 ⟨b1, v1, rfl, hS1, hF1, hB1⟩
      clear hS1 hF1
      have HB1 := Lib.hid hB1
      clear hB1
      go_wp2_with fail
      refine (join_nil w1 _).mono ?_
      rintro e w' ⟨rfl, rfl⟩
      go_wp2_with fail
      refine (HONE.out w1).mono ?_
      rintro e w2 ⟨b2, v2, rfl, hS2, hF2, hB2⟩
      have HS2 := Lib.hid hS2
      have HB2 : Hid (Below W.heap.size W w2) := Lib.hid (HB1.out.trans (((Below.refl w1.heap.size w1).alloc (Nat.le_refl _) _).trans (hB2.mono (by simp)) |>.mono HB1.out.size))
      clear hS2 hF2 hB2
      go_wp2_with fail
      refine (minus_nil w2 b2 v2 _ HS2.out).mono ?_
      rintro e w' ⟨rfl, rfl⟩
      go_wp2_with fail
      refine (clone_nil w2).mono ?_
      rintro e w3 ⟨b3, v3, rfl, hS3, hF3, hB3⟩
      have HB3 := Lib.hid (HB2.out.trans (hB3.mono HB2.out.size))
      clear hS3 hF3 hB3
      go_wp2_with fail
      refine (clone_nil w3).mono ?_
      rintro e w4 ⟨b4, v4, rfl, hS4, hF4, hB4⟩
      have HS4 := Lib.hid hS4
      have HB4 := Lib.hid (HB3.out.trans (hB4.mono HB3.out.size))
      clear hS4 hF4 hB4
      have HLEN4 := Lib.hid (len_any w4 b4 v4 [] HS4.out)
      rw [hle] at HLEN4
      go_wp2_with fail
      refine HLEN4.out.mono ?_
      rintro e w' ⟨rfl, rfl⟩
      go_wp2_with fail
      refine (rowPut_nil w4 n n).mono ?_
      rintro e w' ⟨rfl, rfl⟩
      go_wp2_with fail
      refine (rowDrop_nil w4 n).mono ?_
      rintro e w' ⟨rfl, rfl⟩
      go_wp2_with fail
      refine (rowLen_nil w4).mono ?_
      rintro e w' ⟨rfl, rfl⟩
      go_wp2_with fail
      refine (push_nilI w4 n).mono ?_
      rintro e w' ⟨rfl, rfl⟩
      go_wp2_with fail
      refine (qlen_nilI w4).mono ?_
      rintro e w' ⟨rfl, rfl⟩
      go_wp2_with fail
      refine (HOF.out w4 HB4.out).mono ?_
      rintro e w5 ⟨b5, v5, rfl, hS5, hF5, hB5⟩
      have HS5 := Lib.hid hS5
      have HB5 := Lib.hid (HB4.out.trans (hB5.mono HB4.out.size))
      have HF5 := Lib.hid hF5
      clear hS5 hF5 hB5
      have HALL := Lib.hid (all_any w5 none _ [] (At.none w5) (HT.out.below HB5.out HT.out.1))
      rw [hel] at HALL
      go_wp2_with fail
      refine HALL.out.mono ?_
      rintro e w6 ⟨A6, c6, rfl, hI6, hB6, _⟩
      have HS6 := Lib.hid (HS5.out.below hB6)
      have HB6 := Lib.hid (HB5.out.trans (hB6.mono HB5.out.size))
      clear hI6 hB6
      go_wp2_with fail
      refine (join_none w6 b5 v5 ws HS6.out).mono ?_
      rintro e w7 ⟨rfl, v7, hS7, hC7, hF7⟩
      have HS7 := Lib.hid hS7
      have HB7 : Hid (Below W.heap.size W w7) := Lib.hid (HB6.out.trans (hC7.toBelow (fun k hk => Nat.le_trans HB4.out.size (HF5.out k hk)) HB6.out.size))
      clear hS7 hC7 hF7
      go_wp2_with fail
      refine (minus_none w7 b5 v7 ws HS7.out).mono ?_
      rintro e w' ⟨rfl, rfl⟩
      have HSB := Lib.hid (same_any w7 none none _ _ [] [] (At.none w7) (At.none w7))
      rw [heqb] at HSB
      go_wp2_with fail
      refine HSB.out.mono ?_
      rintro e w8 ⟨rfl, d8, hw8⟩
      have HS8 : Hid (SetG w8 b5 v7 ws) := by rw [hw8]; exact Lib.hid (HS7.out.drewN d8)
      have HB8 : Hid (Below W.heap.size W w8) := by rw [hw8]; exact Lib.hid ⟨HB7.out.os, HB7.out.tape, HB7.out.output, HB7.out.size, HB7.out.block⟩
      clear hw8
      go_wp2_with fail
      refine (HNONE.out w8).mono ?_
      rintro e w9 ⟨b9, v9, rfl, hS9, hF9, hB9⟩
      have HS9 := Lib.hid hS9
      have HS89 := Lib.hid (HS8.out.below hB9)
      have HB9 := Lib.hid (HB8.out.trans (hB9.mono HB8.out.size))
      clear hS9 hF9 hB9
      have HSC := Lib.hid (same_any w9 none _ _ _ [] [] (At.none w9) (At.of HS9.out))
      rw [heqb] at HSC
      go_wp2_with fail
      refine HSC.out.mono ?_
      rintro e w10 ⟨rfl, d10, hw10⟩
      have HS10 : Hid (SetG w10 b5 v7 ws) := by rw [hw10]; exact Lib.hid (HS89.out.drewN d10)
      have HB10 : Hid (Below W.heap.size W w10) := by rw [hw10]; exact Lib.hid ⟨HB9.out.os, HB9.out.tape, HB9.out.output, HB9.out.size, HB9.out.block⟩
      clear hw10
      have HSD := Lib.hid (same_any w10 _ none _ _ ws [] (At.of HS10.out) (At.none w10))
      rw [same_nobody ws HS10.out.small] at HSD
      have HLN := Lib.hid (fun d => len_any (w10.drewN d) b5 v7 ws (HS10.out.drewN d))
      have hlw : lenW ws ≤ 65536 := by have := lenW_le ws; have := HS10.out.short; omega
      generalize lenW ws = k at *
      go_wp2_with fail
      refine HSD.out.mono ?_
      rintro e w11 ⟨rfl, d11, rfl⟩
      go_wp2_with fail
      refine (HLN.out d11).mono ?_
      rintro e w' ⟨rfl, rfl⟩
      have HB11 : Hid (Below W.heap.size W (w10.drewN d11)) := Lib.hid ⟨HB10.out.os, HB10.out.tape, HB10.out.output, HB10.out.size, HB10.out.block⟩
      generalize w10.drewN d11 = w12 at *
      rcases Nat.eq_zero_or_pos k with hk | hk
      · subst hk
        go_wp2_with fail
        refine (lives_any w12).mono ?_
        rintro e w13 ⟨rfl, hB13⟩
        have HB13 := Lib.hid (HB11.out.trans (hB13.mono HB11.out.size))
        clear hB13
        go_wp2
        go_ret
        exact ⟨rfl, HB13.out⟩
      · rw [decide_eq_false (show ¬ k = 0 by omega)]
        have hkp : ¬ (k : Int) = 0 := by omega
        go_wp2_with fail
        refine (lives_any w12).mono ?_
        rintro e w13 ⟨rfl, hB13⟩
        have HB13 := Lib.hid (HB11.out.trans (hB13.mono HB11.out.size))
        clear hB13
        go_wp2
        go_ret
        exact ⟨ret_bool (a := !((k : Int) == 0)) (by simp; omega), HB13.out⟩
end Go.Proofs.YtjkcomoadpileaaDoor
