/-
  TraceRuns: what any blocks do is what the document's machine does.
-/
import Derived.Test.YtcanjkjpdnbcnaaZbd
namespace Go.Proofs.Ytcanjkjpdnbcnaa
open Go.RowKit
set_option linter.unusedVariables false
set_option linter.unusedSimpArgs false
set_option maxRecDepth 100000

def RunsFin (w2 X : World) (R : PR) (f v : Int) (n : Nat) (s r : Int) (p q : Nat) : Prop :=
  Below w2.heap.size w2 X ∧ ∃ A8 c8 A9 c9, X.heap[p]? = some (.cells #[.int .i64 f, .int .i32 v, .slice A8 n c8, .int .i64 s, .int .i64 r] 32 (0, 0)) ∧ SLine 1 X A8 n c8 (cellsN R.tr) ∧ X.heap[q]? = some (.cells #[.int .i64 f, .int .i32 v, .slice A9 n c9, .int .i64 s, .int .i64 r] 32 (0, 0)) ∧ SLine 1 X A9 n c9 (cellsN R.tr)
theorem progR_zero {gs : List MGl} {fs : List MFn} (hm : MidOk gs fs) (inp : List Int) : (progR gs fs inp 0).fin = 5 ∧ (progR gs fs inp 0).steps = 0 := by
  obtain ⟨f, hf, _⟩ := hm.main
  unfold progR mainP
  rw [hf]
  exact ⟨rfl, rfl⟩
theorem run_both {w : World} {GA FA : Option Addr} {gn gc fn fc : Nat} {gs : List MGl} {fs : List MFn} (hg : MGls w GA gn gs) (hf : MFns w FA fn fs) {iA : Option Addr} {ic m : Nat} {inp : List Int} (hm : inp.length = m) (hI : RowK .i32 w iA m inp) (h30 : m ≤ 30) (hi : ∀ v ∈ inp, I32 v) (hk : MidOk gs fs) (W : World) (hB : Below w.heap.size w W) (n : Nat) (hn : n ≤ 400) :
    Calls Try.prog 11 #[.agg #[.slice GA gn gc, .slice FA fn fc], .slice iA m ic, .int .i64 (n : Int)] W (RunOut W (progR gs fs inp n)) :=
  refrun_any W GA FA gn gc fn fc gs fs (hg.below hB) (hf.below hB) iA ic inp m hm (hI.below hB) (by omega) n (by omega) hk hi
set_option maxHeartbeats 6400000 in
theorem traceRuns_walk (GA : Option Addr) (gn gc : Nat) (FA : Option Addr) (fn fc : Nat) (gs : List MGl) (fs : List MFn) (iA : Option Addr) (il ic : Nat) (zs : List Int) (fuel : Int) (w : World)
    (hg : MGls w GA gn gs) (hf : MFns w FA fn fs) (bg : gn ≤ gc ∧ gc ≤ maxLen) (bf : fn ≤ fc ∧ fc ≤ maxLen) (hI0 : IsRow .i32 w iA il ic zs) (hfu : (Lit.int .i64 fuel).wf = true) :
    Calls Try.prog 3 #[.agg #[.slice GA gn gc, .slice FA fn fc], .slice iA il ic, .int .i64 fuel] w fun e w' => e = .returned (.bool true) ∧ Below w.heap.size w w' := by
  obtain ⟨inp, hin, hI, hi32, hiN, hil, hic⟩ := input_of hI0
  obtain ⟨m, hm⟩ : ∃ m, min il 30 = m := ⟨_, rfl⟩
  rw [hm] at hin hI
  have hm30 : m ≤ 30 := by omega
  obtain ⟨qn, hqn⟩ : ∃ qn : Nat, max 0 (min fuel 400) = (qn : Int) := ⟨(max 0 (min fuel 400)).toNat, by omega⟩
  have hq400 : qn ≤ 400 := by omega
  obtain ⟨W0, hW0⟩ : ∃ W0, w.alloc (.cells #[.slice GA gn gc, .slice FA fn fc] 25) = W0 := ⟨_, rfl⟩
  have hB0 : Below w.heap.size w W0 := by rw [← hW0]; exact (Below.refl _ w).alloc (Nat.le_refl _) _
  have hv0 : W0.heap[w.heap.size]? = some (.cells #[.slice GA gn gc, .slice FA fn fc] 25 (0, 0)) := by rw [← hW0]; exact heap_alloc_new w _
  have y0 : W0.cell? ⟨w.heap.size, 0, none⟩ = some (.slice GA gn gc) := by rw [cell_of_row _ _ 0 _ _ (0, 0) hv0]; rfl
  have y1 : W0.cell? ⟨w.heap.size, 1, none⟩ = some (.slice FA fn fc) := by rw [cell_of_row _ _ 1 _ _ (0, 0) hv0]; rfl
  have hlt : w.heap.size < W0.heap.size := World.block_lt_of_cell? W0 _ y0
  obtain ⟨v0, hv0e⟩ : ∃ v0, w.heap.size = v0 := ⟨_, rfl⟩
  rw [hv0e] at y0 y1 hlt
  have HM0 : Hid (∀ V, Below W0.heap.size W0 V → V.cell? ⟨v0, 0, none⟩ = some (.slice GA gn gc) ∧ V.cell? ⟨v0, 1, none⟩ = some (.slice FA fn fc)) := Lib.hid (fun V hV => ⟨(hV.cell (p := ⟨v0, 0, none⟩) hlt).trans y0, (hV.cell (p := ⟨v0, 1, none⟩) hlt).trans y1⟩)
  have HB := Lib.hid hB0
  have HRUN := Lib.hid (fun (hk : MidOk gs fs) W (hW : Below W0.heap.size W0 W) => run_law (hg.below hB0) (hf.below hB0) hin (hI.below hB0) hm30 hi32 hk W hW qn hq400 (ic := ic) (gc := gc) (fc := fc))
  have HREF := Lib.hid (fun (hk : MidOk gs fs) W (hW : Below W0.heap.size W0 W) => run_both (hg.below hB0) (hf.below hB0) hin (hI.below hB0) hm30 hi32 hk W hW qn hq400 (ic := ic) (gc := gc) (fc := fc))
  have HNO := Lib.hid (fun (hk : MidOk gs fs) W (hW : Below W0.heap.size W0 W) => run_none (hg.below hB0) (hf.below hB0) hin (hI.below hB0) hm30 hi32 hk W hW (ic := ic) (gc := gc) (fc := fc))
  have HMORE := Lib.hid (fun (hk : MidOk gs fs) => more_ok hk hi32 qn qn (Nat.le_refl _))
  have HF := Lib.hid (fine_any W0 GA FA gn gc fn fc gs fs (hg.below hB0) (hf.below hB0) (by have := bg.2; have := bg.1; unfold maxLen at *; omega) (by have := bf.2; have := bf.1; unfold maxLen at *; omega))
  have HC : Hid (∀ W, Calls Try.prog 9 #[.slice iA il ic, .int .i64 fuel] W fun e w' => e = .returned (.tuple #[.slice iA m ic, .int .i64 (qn : Int)]) ∧ Below W.heap.size W w') := Lib.hid (fun W => by
    have := cut12_any W iA il ic fuel hiN hil hic
    rw [hm, hqn] at this
    exact this)
  have HLT := Lib.hid hlt
  have HQ := Lib.hid hq400
  clear hg hf bg bf hI0 hfu hin hI hi32 hiN hil hic hm hqn hB0 hv0 hlt
  go_enter Try.func3, Try.ntmps3
  go_wp2_with fail
  (with_reducible refine HF.out.mono ?_)
  rintro e w1 ⟨⟨b, rfl, hb⟩, hb1⟩
  obtain ⟨y0, y1⟩ := HM0.out w1 hb1
  have HB1 := Lib.hid hb1
  cases b with
  | false =>
    have HL := Lib.hid (lives12 w1)
    clear hb hb1
    go_wp2_with fail
    (refine HL.out.mono ?_)
    rintro e w2 ⟨rfl, hb2⟩
    have HB2 := Lib.hid (HB.out.trans ((HB1.out.trans (hb2.mono HB1.out.size)).mono HB.out.size))
    go_wp2_with fail
    go_ret
    exact ⟨rfl, HB2.out⟩
  | true =>
    have hk := (hb rfl).1
    have HK := Lib.hid hk
    clear hb hb1 hk
    go_wp2_with fail
    (with_reducible refine (HC.out w1).mono ?_)
    rintro e w2 ⟨rfl, hb2⟩
    have HB2 := Lib.hid (HB1.out.trans (hb2.mono HB1.out.size))
    have hz2 := HB2.out.size
    have HMC : Hid (∀ V, Below w2.heap.size w2 V → V.cell? ⟨v0, 0, none⟩ = some (.slice GA gn gc) ∧ V.cell? ⟨v0, 1, none⟩ = some (.slice FA fn fc)) := Lib.hid (fun V hV => HM0.out V (HB2.out.trans (hV.mono hz2)))
    obtain ⟨RB, hRB⟩ : ∃ R, progR gs fs inp qn = R := ⟨_, rfl⟩
    rw [hRB] at HRUN HREF HMORE
    obtain ⟨fB, hfB⟩ : ∃ x, RB.fin = x := ⟨_, rfl⟩
    obtain ⟨vB, hvB⟩ : ∃ x, RB.value = x := ⟨_, rfl⟩
    obtain ⟨nB, hnB⟩ : ∃ x, RB.tr.length = x := ⟨_, rfl⟩
    obtain ⟨sB, hsB⟩ : ∃ x : Int, (RB.steps : Int) = x := ⟨_, rfl⟩
    obtain ⟨rB, hrB⟩ : ∃ x : Int, (RB.reads : Int) = x := ⟨_, rfl⟩
    have HEB : Hid (RB.fin = fB ∧ RB.value = vB ∧ RB.tr.length = nB ∧ (RB.steps : Int) = sB ∧ (RB.reads : Int) = rB) := Lib.hid ⟨hfB, hvB, hnB, hsB, hrB⟩
    have hnN : nB ≤ 1000000 := by have h := (HMORE.out HK.out); have := h.2.2.1; have := HQ.out; omega
    have HNN := Lib.hid hnN
    have HRC : Hid (∀ W, Below w2.heap.size w2 W → Calls Try.prog 10 #[.agg #[.slice GA gn gc, .slice FA fn fc], .slice iA m ic, .int .i64 (qn : Int)] W fun e w' => ∃ A c, e = .returned (.agg #[.int .i64 fB, .int .i32 vB, .slice A nB c, .int .i64 sB, .int .i64 rB]) ∧ SLine 1 w' A nB c (cellsN RB.tr) ∧ Below W.heap.size W w' ∧ ∀ k ∈ blk A, W.heap.size ≤ k) := Lib.hid (fun W hW => by
      have hr := HRUN.out HK.out W (HB2.out.trans (hW.mono hz2))
      unfold PR.rs Rs.val at hr
      dsimp only at hr
      rw [hfB, hvB, hnB, hsB, hrB] at hr
      refine hr.mono fun e w' hq => ?_
      obtain ⟨A, c, rfl, _, hl, hb, hf⟩ := hq
      exact ⟨A, c, rfl, hl, hb, hf⟩)
    have HRD : Hid (∀ W, Below w2.heap.size w2 W → Calls Try.prog 11 #[.agg #[.slice GA gn gc, .slice FA fn fc], .slice iA m ic, .int .i64 (qn : Int)] W fun e w' => ∃ A c, e = .returned (.agg #[.int .i64 fB, .int .i32 vB, .slice A nB c, .int .i64 sB, .int .i64 rB]) ∧ SLine 1 w' A nB c (cellsN RB.tr) ∧ Below W.heap.size W w' ∧ ∀ k ∈ blk A, W.heap.size ≤ k) := Lib.hid (fun W hW => by
      refine (HREF.out HK.out W (HB2.out.trans (hW.mono hz2))).mono fun e w' hq => ?_
      obtain ⟨A, c, rfl, hl, hb, hf⟩ := hq
      rw [hfB, hvB, hsB, hrB]
      rw [hnB] at hl ⊢
      exact ⟨A, c, rfl, hl, hb, hf⟩)
    have HEND : Hid (Below w.heap.size w w2) := Lib.hid (HB.out.trans (HB2.out.mono HB.out.size))
    clear hb2 HB1 HRUN HREF HMORE HC HF hRB hfB hvB hnB hsB hrB hnN hz2 y0 y1
    have HC := HRC
    have HD := HRD
    clear HRC HRD
    go_upto_region 4 with fail
    go_cut [7, 8] from 20 to 27 (fun x y wx => ∃ p q, x = .pointer (some ⟨p, 0, none⟩) ∧ y = .pointer (some ⟨q, 0, none⟩) ∧ Hid (RunsFin w2 wx RB fB vB nB sB rB p q))
    case first =>
      obtain ⟨V0, hV0e⟩ : ∃ V, w2.drew = V := ⟨_, rfl⟩
      have hV0 : Below w2.heap.size w2 V0 := by rw [← hV0e]; exact (Below.refl _ _).drew
      refine wp_region_held_drew (S := fun w' => Below w2.heap.size w2 w') (by kernel_rfl) (Below.refl _ _).drew (fun _ => ?_)
      rw [hV0e]
      clear hV0e
      refine takeH 0 20 (v := (.agg #[.slice GA gn gc, .slice FA fn fc])) rfl rfl (by kernel_rfl) (by kernel_rfl) (by kernel_rfl) (fun _ _ _ h => h) (by rfl) ?_ hV0 ?_
      · intro w hSw
        obtain ⟨y0, y1⟩ := HMC.out w hSw
        go_simp
      try simp only [Act.put, List.setIfInBounds_toArray, List.set_cons_zero, List.set_cons_succ]
      refine takeH 1 21 (v := (.slice iA m ic)) rfl rfl (by kernel_rfl) (by kernel_rfl) (by kernel_rfl) (fun _ _ _ h => h) (by rfl) ?_ hV0 ?_
      · intro w hSw
        go_simp
      try simp only [Act.put, List.setIfInBounds_toArray, List.set_cons_zero, List.set_cons_succ]
      refine takeH 2 22 (v := (.int .i64 (qn : Int))) rfl rfl (by kernel_rfl) (by kernel_rfl) (by kernel_rfl) (fun _ _ _ h => h) (by rfl) ?_ hV0 ?_
      · intro w hSw
        go_simp
      try simp only [Act.put, List.setIfInBounds_toArray, List.set_cons_zero, List.set_cons_succ]
      refine takeH 4 24 (v := (.agg #[.slice GA gn gc, .slice FA fn fc])) rfl rfl (by kernel_rfl) (by kernel_rfl) (by kernel_rfl) (fun _ _ _ h => h) (by rfl) ?_ hV0 ?_
      · intro w hSw
        obtain ⟨y0, y1⟩ := HMC.out w hSw
        go_simp
      try simp only [Act.put, List.setIfInBounds_toArray, List.set_cons_zero, List.set_cons_succ]
      refine takeH 5 25 (v := (.slice iA m ic)) rfl rfl (by kernel_rfl) (by kernel_rfl) (by kernel_rfl) (fun _ _ _ h => h) (by rfl) ?_ hV0 ?_
      · intro w hSw
        go_simp
      try simp only [Act.put, List.setIfInBounds_toArray, List.set_cons_zero, List.set_cons_succ]
      refine takeH 6 26 (v := (.int .i64 (qn : Int))) rfl rfl (by kernel_rfl) (by kernel_rfl) (by kernel_rfl) (fun _ _ _ h => h) (by rfl) ?_ hV0 ?_
      · intro w hSw
        go_simp
      try simp only [Act.put, List.setIfInBounds_toArray, List.set_cons_zero, List.set_cons_succ]
      refine wpAnyH_ready (rs := [3, 8, 9]) (by kernel_rfl) (by simp) ?_
      refine AllReadyH.cons rfl (fun K hK => ?_) ?_
      · go_simp
        have HCALL := Lib.hid (HC.out V0 hV0)
        go_at_call 10
        with_reducible refine HCALL.out.mono ?_
        rintro e V1 ⟨A8, c8, rfl, L8, hb, F8⟩
        have lV1L8 := L8
        have hV1 := hV0.trans (hb.mono hV0.size)
        try go_wp2_with fail
        refine hK.out _ _ hV1 (fun _ => ?_)
        clear hK K HCALL
        try simp only [Act.put, List.setIfInBounds_toArray, List.set_cons_zero, List.set_cons_succ]
        refine wpAnyH_ready (rs := [7, 8, 9]) (by kernel_rfl) (by simp) ?_
        refine AllReadyH.cons rfl (fun K hK => ?_) ?_
        · go_simp
          have HCALL := Lib.hid (HD.out V1 hV1)
          go_at_call 11
          with_reducible refine HCALL.out.mono ?_
          rintro e V2 ⟨A9, c9, rfl, L9, hb, F9⟩
          have lV2L9 := L9
          have lV2L8 := lV1L8.below hb
          have hV2 := hV1.trans (hb.mono hV1.size)
          try go_wp2_with fail
          refine hK.out _ _ hV2 (fun _ => ?_)
          clear hK K HCALL
          try simp only [Act.put, List.setIfInBounds_toArray, List.set_cons_zero, List.set_cons_succ]
          refine wpAnyH_ready (rs := [8, 9]) (by kernel_rfl) (by simp) ?_
          refine AllReadyH.cons rfl (fun K hK => ?_) ?_
          · go_simp
            have hbA : Below V2.heap.size V2 (V2.alloc (.cells #[.int .i64 0, .int .i32 0, .slice none 0 0, .int .i64 0, .int .i64 0] 32)) := (Below.refl _ _).alloc (Nat.le_refl _) _
            have kV3a9 := heap_alloc_new V2 (.cells #[.int .i64 0, .int .i32 0, .slice none 0 0, .int .i64 0, .int .i64 0] 32)
            have mL8a9 : V2.heap.size ∉ blk A8 := fun hm => by have := lV2L8.lt _ hm; omega
            have mL9a9 : V2.heap.size ∉ blk A9 := fun hm => by have := lV2L9.lt _ hm; omega
            have lV3L8 := lV2L8.below hbA
            have lV3L9 := lV2L9.below hbA
            have ga9 := hV2.size
            have hV3 := hV2.trans (hbA.mono hV2.size)
            refine hK.out _ _ hV3 (fun _ => ?_)
            clear hK K hbA
            try simp only [Act.put, List.setIfInBounds_toArray, List.set_cons_zero, List.set_cons_succ]
            generalize V2.alloc (.cells #[.int .i64 0, .int .i32 0, .slice none 0 0, .int .i64 0, .int .i64 0] 32) = V3 at *
            generalize V2.heap.size = a9 at *
            refine wpAnyH_ready (rs := [9]) (by kernel_rfl) (by simp) ?_
            refine AllReadyH.cons rfl (fun K hK => ?_) ?_
            · go_simp
              have hbA : Below V3.heap.size V3 (V3.alloc (.cells #[.int .i64 0, .int .i32 0, .slice none 0 0, .int .i64 0, .int .i64 0] 32)) := (Below.refl _ _).alloc (Nat.le_refl _) _
              have kV4a10 := heap_alloc_new V3 (.cells #[.int .i64 0, .int .i32 0, .slice none 0 0, .int .i64 0, .int .i64 0] 32)
              have kV4a9 := (hbA.block _ (Array.getElem?_eq_some_iff.1 kV3a9).1).trans kV3a9
              have da10a9 : a9 ≠ V3.heap.size := by have := (Array.getElem?_eq_some_iff.1 kV3a9).1; omega
              have mL8a10 : V3.heap.size ∉ blk A8 := fun hm => by have := lV3L8.lt _ hm; omega
              have mL9a10 : V3.heap.size ∉ blk A9 := fun hm => by have := lV3L9.lt _ hm; omega
              have lV4L8 := lV3L8.below hbA
              have lV4L9 := lV3L9.below hbA
              have ga10 := hV3.size
              have hV4 := hV3.trans (hbA.mono hV3.size)
              refine hK.out _ _ hV4 (fun _ => ?_)
              clear hK K hbA
              try simp only [Act.put, List.setIfInBounds_toArray, List.set_cons_zero, List.set_cons_succ]
              generalize V3.alloc (.cells #[.int .i64 0, .int .i32 0, .slice none 0 0, .int .i64 0, .int .i64 0] 32) = V4 at *
              generalize V3.heap.size = a10 at *
              obtain ⟨r0, r1, r2, r3, r4⟩ := row5 kV4a9
              obtain ⟨x0, x1, x2, x3, x4⟩ := free5 kV4a9
              obtain ⟨X1, eX1, kX1, cX1⟩ := set5 kV4a9 (.int .i64 fB) (.int .i32 vB) (.slice A8 nB c8) (.int .i64 sB) (.int .i64 rB)
              have kY1 := (cX1.same a10 (Array.getElem?_eq_some_iff.1 kV4a10).1 (fun hm => da10a9 (List.mem_singleton.1 hm).symm)).trans kV4a10
              have hX1 := hV4.trans (cX1.toBelow (fun k hk => by rw [List.mem_singleton] at hk; rw [hk]; exact ga9) hV4.size)
              refine wpAnyH_ready (rs := [10]) (by kernel_rfl) (by simp) ?_
              refine AllReadyH.cons rfl (fun K hK => ?_) AllReadyH.nil
              go_simp
              try rw [eX1]
              refine hK.out _ _ hX1 (fun _ => ?_)
              clear hK K eX1 r0 r1 r2 r3 r4 x0 x1 x2 x3 x4
              try simp only [Act.put, List.setIfInBounds_toArray, List.set_cons_zero, List.set_cons_succ]
              obtain ⟨r0, r1, r2, r3, r4⟩ := row5 kY1
              obtain ⟨x0, x1, x2, x3, x4⟩ := free5 kY1
              obtain ⟨X2, eX2, kX2, cX2⟩ := set5 kY1 (.int .i64 fB) (.int .i32 vB) (.slice A9 nB c9) (.int .i64 sB) (.int .i64 rB)
              have kY2 := (cX2.same a9 (Array.getElem?_eq_some_iff.1 kX1).1 (fun hm => da10a9 (List.mem_singleton.1 hm))).trans kX1
              have hX2 := hX1.trans (cX2.toBelow (fun k hk => by rw [List.mem_singleton] at hk; rw [hk]; exact ga10) hX1.size)
              have l2L8 := (lV4L8.chg cX1 (fun k hk hm => mL8a9 (by rw [← List.mem_singleton.1 hm]; exact hk))).chg cX2 (fun k hk hm => mL8a10 (by rw [← List.mem_singleton.1 hm]; exact hk))
              have l2L9 := (lV4L9.chg cX1 (fun k hk hm => mL9a9 (by rw [← List.mem_singleton.1 hm]; exact hk))).chg cX2 (fun k hk hm => mL9a10 (by rw [← List.mem_singleton.1 hm]; exact hk))
              have FIN : RunsFin w2 X2 RB fB vB nB sB rB a9 a10 := ⟨hX2, A8, c8, A9, c9, kY2, l2L8, kX2, l2L9⟩
              refine wpAnyH_ready (rs := [11]) (by kernel_rfl) (by simp) ?_
              refine AllReadyH.cons rfl (fun K hK => ?_) AllReadyH.nil
              go_simp
              try rw [eX2]
              refine hK.out _ _ hX2 (fun _ => ?_)
              clear hK K eX2 r0 r1 r2 r3 r4 x0 x1 x2 x3 x4
              try simp only [Act.put, List.setIfInBounds_toArray, List.set_cons_zero, List.set_cons_succ]
              refine wpAnyH_done (by kernel_rfl) ?_ _
              go_wp2_with fail
              go_meet
              exact ⟨_, _, rfl, rfl, Lib.hid FIN⟩
            exact AllReadyH.nil
          refine AllReadyH.cons rfl (fun K hK => ?_) ?_
          · go_simp
            have hbA : Below V2.heap.size V2 (V2.alloc (.cells #[.int .i64 0, .int .i32 0, .slice none 0 0, .int .i64 0, .int .i64 0] 32)) := (Below.refl _ _).alloc (Nat.le_refl _) _
            have kV5a10 := heap_alloc_new V2 (.cells #[.int .i64 0, .int .i32 0, .slice none 0 0, .int .i64 0, .int .i64 0] 32)
            have mL8a10 : V2.heap.size ∉ blk A8 := fun hm => by have := lV2L8.lt _ hm; omega
            have mL9a10 : V2.heap.size ∉ blk A9 := fun hm => by have := lV2L9.lt _ hm; omega
            have lV5L8 := lV2L8.below hbA
            have lV5L9 := lV2L9.below hbA
            have ga10 := hV2.size
            have hV5 := hV2.trans (hbA.mono hV2.size)
            refine hK.out _ _ hV5 (fun _ => ?_)
            clear hK K hbA
            try simp only [Act.put, List.setIfInBounds_toArray, List.set_cons_zero, List.set_cons_succ]
            generalize V2.alloc (.cells #[.int .i64 0, .int .i32 0, .slice none 0 0, .int .i64 0, .int .i64 0] 32) = V5 at *
            generalize V2.heap.size = a10 at *
            refine wpAnyH_ready (rs := [8]) (by kernel_rfl) (by simp) ?_
            refine AllReadyH.cons rfl (fun K hK => ?_) ?_
            · go_simp
              have hbA : Below V5.heap.size V5 (V5.alloc (.cells #[.int .i64 0, .int .i32 0, .slice none 0 0, .int .i64 0, .int .i64 0] 32)) := (Below.refl _ _).alloc (Nat.le_refl _) _
              have kV6a9 := heap_alloc_new V5 (.cells #[.int .i64 0, .int .i32 0, .slice none 0 0, .int .i64 0, .int .i64 0] 32)
              have kV6a10 := (hbA.block _ (Array.getElem?_eq_some_iff.1 kV5a10).1).trans kV5a10
              have da9a10 : a10 ≠ V5.heap.size := by have := (Array.getElem?_eq_some_iff.1 kV5a10).1; omega
              have mL8a9 : V5.heap.size ∉ blk A8 := fun hm => by have := lV5L8.lt _ hm; omega
              have mL9a9 : V5.heap.size ∉ blk A9 := fun hm => by have := lV5L9.lt _ hm; omega
              have lV6L8 := lV5L8.below hbA
              have lV6L9 := lV5L9.below hbA
              have ga9 := hV5.size
              have hV6 := hV5.trans (hbA.mono hV5.size)
              refine hK.out _ _ hV6 (fun _ => ?_)
              clear hK K hbA
              try simp only [Act.put, List.setIfInBounds_toArray, List.set_cons_zero, List.set_cons_succ]
              generalize V5.alloc (.cells #[.int .i64 0, .int .i32 0, .slice none 0 0, .int .i64 0, .int .i64 0] 32) = V6 at *
              generalize V5.heap.size = a9 at *
              obtain ⟨r0, r1, r2, r3, r4⟩ := row5 kV6a9
              obtain ⟨x0, x1, x2, x3, x4⟩ := free5 kV6a9
              obtain ⟨X1, eX1, kX1, cX1⟩ := set5 kV6a9 (.int .i64 fB) (.int .i32 vB) (.slice A8 nB c8) (.int .i64 sB) (.int .i64 rB)
              have kY1 := (cX1.same a10 (Array.getElem?_eq_some_iff.1 kV6a10).1 (fun hm => da9a10.symm (List.mem_singleton.1 hm).symm)).trans kV6a10
              have hX1 := hV6.trans (cX1.toBelow (fun k hk => by rw [List.mem_singleton] at hk; rw [hk]; exact ga9) hV6.size)
              refine wpAnyH_ready (rs := [10]) (by kernel_rfl) (by simp) ?_
              refine AllReadyH.cons rfl (fun K hK => ?_) AllReadyH.nil
              go_simp
              try rw [eX1]
              refine hK.out _ _ hX1 (fun _ => ?_)
              clear hK K eX1 r0 r1 r2 r3 r4 x0 x1 x2 x3 x4
              try simp only [Act.put, List.setIfInBounds_toArray, List.set_cons_zero, List.set_cons_succ]
              obtain ⟨r0, r1, r2, r3, r4⟩ := row5 kY1
              obtain ⟨x0, x1, x2, x3, x4⟩ := free5 kY1
              obtain ⟨X2, eX2, kX2, cX2⟩ := set5 kY1 (.int .i64 fB) (.int .i32 vB) (.slice A9 nB c9) (.int .i64 sB) (.int .i64 rB)
              have kY2 := (cX2.same a9 (Array.getElem?_eq_some_iff.1 kX1).1 (fun hm => da9a10.symm (List.mem_singleton.1 hm))).trans kX1
              have hX2 := hX1.trans (cX2.toBelow (fun k hk => by rw [List.mem_singleton] at hk; rw [hk]; exact ga10) hX1.size)
              have l2L8 := (lV6L8.chg cX1 (fun k hk hm => mL8a9 (by rw [← List.mem_singleton.1 hm]; exact hk))).chg cX2 (fun k hk hm => mL8a10 (by rw [← List.mem_singleton.1 hm]; exact hk))
              have l2L9 := (lV6L9.chg cX1 (fun k hk hm => mL9a9 (by rw [← List.mem_singleton.1 hm]; exact hk))).chg cX2 (fun k hk hm => mL9a10 (by rw [← List.mem_singleton.1 hm]; exact hk))
              have FIN : RunsFin w2 X2 RB fB vB nB sB rB a9 a10 := ⟨hX2, A8, c8, A9, c9, kY2, l2L8, kX2, l2L9⟩
              refine wpAnyH_ready (rs := [11]) (by kernel_rfl) (by simp) ?_
              refine AllReadyH.cons rfl (fun K hK => ?_) AllReadyH.nil
              go_simp
              try rw [eX2]
              refine hK.out _ _ hX2 (fun _ => ?_)
              clear hK K eX2 r0 r1 r2 r3 r4 x0 x1 x2 x3 x4
              try simp only [Act.put, List.setIfInBounds_toArray, List.set_cons_zero, List.set_cons_succ]
              refine wpAnyH_done (by kernel_rfl) ?_ _
              go_wp2_with fail
              go_meet
              exact ⟨_, _, rfl, rfl, Lib.hid FIN⟩
            exact AllReadyH.nil
          exact AllReadyH.nil
        refine AllReadyH.cons rfl (fun K hK => ?_) ?_
        · go_simp
          have hbA : Below V1.heap.size V1 (V1.alloc (.cells #[.int .i64 0, .int .i32 0, .slice none 0 0, .int .i64 0, .int .i64 0] 32)) := (Below.refl _ _).alloc (Nat.le_refl _) _
          have kV7a9 := heap_alloc_new V1 (.cells #[.int .i64 0, .int .i32 0, .slice none 0 0, .int .i64 0, .int .i64 0] 32)
          have mL8a9 : V1.heap.size ∉ blk A8 := fun hm => by have := lV1L8.lt _ hm; omega
          have lV7L8 := lV1L8.below hbA
          have ga9 := hV1.size
          have hV7 := hV1.trans (hbA.mono hV1.size)
          refine hK.out _ _ hV7 (fun _ => ?_)
          clear hK K hbA
          try simp only [Act.put, List.setIfInBounds_toArray, List.set_cons_zero, List.set_cons_succ]
          generalize V1.alloc (.cells #[.int .i64 0, .int .i32 0, .slice none 0 0, .int .i64 0, .int .i64 0] 32) = V7 at *
          generalize V1.heap.size = a9 at *
          refine wpAnyH_ready (rs := [7, 9]) (by kernel_rfl) (by simp) ?_
          refine AllReadyH.cons rfl (fun K hK => ?_) ?_
          · go_simp
            have HCALL := Lib.hid (HD.out V7 hV7)
            go_at_call 11
            with_reducible refine HCALL.out.mono ?_
            rintro e V8 ⟨A9, c9, rfl, L9, hb, F9⟩
            have mL9a9 : a9 ∉ blk A9 := fun hm => by have := F9 _ hm; have := (Array.getElem?_eq_some_iff.1 kV7a9).1; omega
            have lV8L9 := L9
            have lV8L8 := lV7L8.below hb
            have hV8 := hV7.trans (hb.mono hV7.size)
            have kV8a9 := (hb.block _ (Array.getElem?_eq_some_iff.1 kV7a9).1).trans kV7a9
            try go_wp2_with fail
            refine hK.out _ _ hV8 (fun _ => ?_)
            clear hK K HCALL
            try simp only [Act.put, List.setIfInBounds_toArray, List.set_cons_zero, List.set_cons_succ]
            refine wpAnyH_ready (rs := [9]) (by kernel_rfl) (by simp) ?_
            refine AllReadyH.cons rfl (fun K hK => ?_) ?_
            · go_simp
              have hbA : Below V8.heap.size V8 (V8.alloc (.cells #[.int .i64 0, .int .i32 0, .slice none 0 0, .int .i64 0, .int .i64 0] 32)) := (Below.refl _ _).alloc (Nat.le_refl _) _
              have kV9a10 := heap_alloc_new V8 (.cells #[.int .i64 0, .int .i32 0, .slice none 0 0, .int .i64 0, .int .i64 0] 32)
              have kV9a9 := (hbA.block _ (Array.getElem?_eq_some_iff.1 kV8a9).1).trans kV8a9
              have da10a9 : a9 ≠ V8.heap.size := by have := (Array.getElem?_eq_some_iff.1 kV8a9).1; omega
              have mL8a10 : V8.heap.size ∉ blk A8 := fun hm => by have := lV8L8.lt _ hm; omega
              have mL9a10 : V8.heap.size ∉ blk A9 := fun hm => by have := lV8L9.lt _ hm; omega
              have lV9L8 := lV8L8.below hbA
              have lV9L9 := lV8L9.below hbA
              have ga10 := hV8.size
              have hV9 := hV8.trans (hbA.mono hV8.size)
              refine hK.out _ _ hV9 (fun _ => ?_)
              clear hK K hbA
              try simp only [Act.put, List.setIfInBounds_toArray, List.set_cons_zero, List.set_cons_succ]
              generalize V8.alloc (.cells #[.int .i64 0, .int .i32 0, .slice none 0 0, .int .i64 0, .int .i64 0] 32) = V9 at *
              generalize V8.heap.size = a10 at *
              obtain ⟨r0, r1, r2, r3, r4⟩ := row5 kV9a9
              obtain ⟨x0, x1, x2, x3, x4⟩ := free5 kV9a9
              obtain ⟨X1, eX1, kX1, cX1⟩ := set5 kV9a9 (.int .i64 fB) (.int .i32 vB) (.slice A8 nB c8) (.int .i64 sB) (.int .i64 rB)
              have kY1 := (cX1.same a10 (Array.getElem?_eq_some_iff.1 kV9a10).1 (fun hm => da10a9 (List.mem_singleton.1 hm).symm)).trans kV9a10
              have hX1 := hV9.trans (cX1.toBelow (fun k hk => by rw [List.mem_singleton] at hk; rw [hk]; exact ga9) hV9.size)
              refine wpAnyH_ready (rs := [10]) (by kernel_rfl) (by simp) ?_
              refine AllReadyH.cons rfl (fun K hK => ?_) AllReadyH.nil
              go_simp
              try rw [eX1]
              refine hK.out _ _ hX1 (fun _ => ?_)
              clear hK K eX1 r0 r1 r2 r3 r4 x0 x1 x2 x3 x4
              try simp only [Act.put, List.setIfInBounds_toArray, List.set_cons_zero, List.set_cons_succ]
              obtain ⟨r0, r1, r2, r3, r4⟩ := row5 kY1
              obtain ⟨x0, x1, x2, x3, x4⟩ := free5 kY1
              obtain ⟨X2, eX2, kX2, cX2⟩ := set5 kY1 (.int .i64 fB) (.int .i32 vB) (.slice A9 nB c9) (.int .i64 sB) (.int .i64 rB)
              have kY2 := (cX2.same a9 (Array.getElem?_eq_some_iff.1 kX1).1 (fun hm => da10a9 (List.mem_singleton.1 hm))).trans kX1
              have hX2 := hX1.trans (cX2.toBelow (fun k hk => by rw [List.mem_singleton] at hk; rw [hk]; exact ga10) hX1.size)
              have l2L8 := (lV9L8.chg cX1 (fun k hk hm => mL8a9 (by rw [← List.mem_singleton.1 hm]; exact hk))).chg cX2 (fun k hk hm => mL8a10 (by rw [← List.mem_singleton.1 hm]; exact hk))
              have l2L9 := (lV9L9.chg cX1 (fun k hk hm => mL9a9 (by rw [← List.mem_singleton.1 hm]; exact hk))).chg cX2 (fun k hk hm => mL9a10 (by rw [← List.mem_singleton.1 hm]; exact hk))
              have FIN : RunsFin w2 X2 RB fB vB nB sB rB a9 a10 := ⟨hX2, A8, c8, A9, c9, kY2, l2L8, kX2, l2L9⟩
              refine wpAnyH_ready (rs := [11]) (by kernel_rfl) (by simp) ?_
              refine AllReadyH.cons rfl (fun K hK => ?_) AllReadyH.nil
              go_simp
              try rw [eX2]
              refine hK.out _ _ hX2 (fun _ => ?_)
              clear hK K eX2 r0 r1 r2 r3 r4 x0 x1 x2 x3 x4
              try simp only [Act.put, List.setIfInBounds_toArray, List.set_cons_zero, List.set_cons_succ]
              refine wpAnyH_done (by kernel_rfl) ?_ _
              go_wp2_with fail
              go_meet
              exact ⟨_, _, rfl, rfl, Lib.hid FIN⟩
            exact AllReadyH.nil
          refine AllReadyH.cons rfl (fun K hK => ?_) ?_
          · go_simp
            have hbA : Below V7.heap.size V7 (V7.alloc (.cells #[.int .i64 0, .int .i32 0, .slice none 0 0, .int .i64 0, .int .i64 0] 32)) := (Below.refl _ _).alloc (Nat.le_refl _) _
            have kV10a10 := heap_alloc_new V7 (.cells #[.int .i64 0, .int .i32 0, .slice none 0 0, .int .i64 0, .int .i64 0] 32)
            have kV10a9 := (hbA.block _ (Array.getElem?_eq_some_iff.1 kV7a9).1).trans kV7a9
            have da10a9 : a9 ≠ V7.heap.size := by have := (Array.getElem?_eq_some_iff.1 kV7a9).1; omega
            have mL8a10 : V7.heap.size ∉ blk A8 := fun hm => by have := lV7L8.lt _ hm; omega
            have lV10L8 := lV7L8.below hbA
            have ga10 := hV7.size
            have hV10 := hV7.trans (hbA.mono hV7.size)
            refine hK.out _ _ hV10 (fun _ => ?_)
            clear hK K hbA
            try simp only [Act.put, List.setIfInBounds_toArray, List.set_cons_zero, List.set_cons_succ]
            generalize V7.alloc (.cells #[.int .i64 0, .int .i32 0, .slice none 0 0, .int .i64 0, .int .i64 0] 32) = V10 at *
            generalize V7.heap.size = a10 at *
            refine wpAnyH_ready (rs := [7]) (by kernel_rfl) (by simp) ?_
            refine AllReadyH.cons rfl (fun K hK => ?_) ?_
            · go_simp
              have HCALL := Lib.hid (HD.out V10 hV10)
              go_at_call 11
              with_reducible refine HCALL.out.mono ?_
              rintro e V11 ⟨A9, c9, rfl, L9, hb, F9⟩
              have mL9a9 : a9 ∉ blk A9 := fun hm => by have := F9 _ hm; have := (Array.getElem?_eq_some_iff.1 kV10a9).1; omega
              have mL9a10 : a10 ∉ blk A9 := fun hm => by have := F9 _ hm; have := (Array.getElem?_eq_some_iff.1 kV10a10).1; omega
              have lV11L9 := L9
              have lV11L8 := lV10L8.below hb
              have hV11 := hV10.trans (hb.mono hV10.size)
              have kV11a9 := (hb.block _ (Array.getElem?_eq_some_iff.1 kV10a9).1).trans kV10a9
              have kV11a10 := (hb.block _ (Array.getElem?_eq_some_iff.1 kV10a10).1).trans kV10a10
              try go_wp2_with fail
              refine hK.out _ _ hV11 (fun _ => ?_)
              clear hK K HCALL
              try simp only [Act.put, List.setIfInBounds_toArray, List.set_cons_zero, List.set_cons_succ]
              obtain ⟨r0, r1, r2, r3, r4⟩ := row5 kV11a9
              obtain ⟨x0, x1, x2, x3, x4⟩ := free5 kV11a9
              obtain ⟨X1, eX1, kX1, cX1⟩ := set5 kV11a9 (.int .i64 fB) (.int .i32 vB) (.slice A8 nB c8) (.int .i64 sB) (.int .i64 rB)
              have kY1 := (cX1.same a10 (Array.getElem?_eq_some_iff.1 kV11a10).1 (fun hm => da10a9 (List.mem_singleton.1 hm).symm)).trans kV11a10
              have hX1 := hV11.trans (cX1.toBelow (fun k hk => by rw [List.mem_singleton] at hk; rw [hk]; exact ga9) hV11.size)
              refine wpAnyH_ready (rs := [10]) (by kernel_rfl) (by simp) ?_
              refine AllReadyH.cons rfl (fun K hK => ?_) AllReadyH.nil
              go_simp
              try rw [eX1]
              refine hK.out _ _ hX1 (fun _ => ?_)
              clear hK K eX1 r0 r1 r2 r3 r4 x0 x1 x2 x3 x4
              try simp only [Act.put, List.setIfInBounds_toArray, List.set_cons_zero, List.set_cons_succ]
              obtain ⟨r0, r1, r2, r3, r4⟩ := row5 kY1
              obtain ⟨x0, x1, x2, x3, x4⟩ := free5 kY1
              obtain ⟨X2, eX2, kX2, cX2⟩ := set5 kY1 (.int .i64 fB) (.int .i32 vB) (.slice A9 nB c9) (.int .i64 sB) (.int .i64 rB)
              have kY2 := (cX2.same a9 (Array.getElem?_eq_some_iff.1 kX1).1 (fun hm => da10a9 (List.mem_singleton.1 hm))).trans kX1
              have hX2 := hX1.trans (cX2.toBelow (fun k hk => by rw [List.mem_singleton] at hk; rw [hk]; exact ga10) hX1.size)
              have l2L8 := (lV11L8.chg cX1 (fun k hk hm => mL8a9 (by rw [← List.mem_singleton.1 hm]; exact hk))).chg cX2 (fun k hk hm => mL8a10 (by rw [← List.mem_singleton.1 hm]; exact hk))
              have l2L9 := (lV11L9.chg cX1 (fun k hk hm => mL9a9 (by rw [← List.mem_singleton.1 hm]; exact hk))).chg cX2 (fun k hk hm => mL9a10 (by rw [← List.mem_singleton.1 hm]; exact hk))
              have FIN : RunsFin w2 X2 RB fB vB nB sB rB a9 a10 := ⟨hX2, A8, c8, A9, c9, kY2, l2L8, kX2, l2L9⟩
              refine wpAnyH_ready (rs := [11]) (by kernel_rfl) (by simp) ?_
              refine AllReadyH.cons rfl (fun K hK => ?_) AllReadyH.nil
              go_simp
              try rw [eX2]
              refine hK.out _ _ hX2 (fun _ => ?_)
              clear hK K eX2 r0 r1 r2 r3 r4 x0 x1 x2 x3 x4
              try simp only [Act.put, List.setIfInBounds_toArray, List.set_cons_zero, List.set_cons_succ]
              refine wpAnyH_done (by kernel_rfl) ?_ _
              go_wp2_with fail
              go_meet
              exact ⟨_, _, rfl, rfl, Lib.hid FIN⟩
            exact AllReadyH.nil
          exact AllReadyH.nil
        refine AllReadyH.cons rfl (fun K hK => ?_) ?_
        · go_simp
          have hbA : Below V1.heap.size V1 (V1.alloc (.cells #[.int .i64 0, .int .i32 0, .slice none 0 0, .int .i64 0, .int .i64 0] 32)) := (Below.refl _ _).alloc (Nat.le_refl _) _
          have kV12a10 := heap_alloc_new V1 (.cells #[.int .i64 0, .int .i32 0, .slice none 0 0, .int .i64 0, .int .i64 0] 32)
          have mL8a10 : V1.heap.size ∉ blk A8 := fun hm => by have := lV1L8.lt _ hm; omega
          have lV12L8 := lV1L8.below hbA
          have ga10 := hV1.size
          have hV12 := hV1.trans (hbA.mono hV1.size)
          refine hK.out _ _ hV12 (fun _ => ?_)
          clear hK K hbA
          try simp only [Act.put, List.setIfInBounds_toArray, List.set_cons_zero, List.set_cons_succ]
          generalize V1.alloc (.cells #[.int .i64 0, .int .i32 0, .slice none 0 0, .int .i64 0, .int .i64 0] 32) = V12 at *
          generalize V1.heap.size = a10 at *
          refine wpAnyH_ready (rs := [7, 8]) (by kernel_rfl) (by simp) ?_
          refine AllReadyH.cons rfl (fun K hK => ?_) ?_
          · go_simp
            have HCALL := Lib.hid (HD.out V12 hV12)
            go_at_call 11
            with_reducible refine HCALL.out.mono ?_
            rintro e V13 ⟨A9, c9, rfl, L9, hb, F9⟩
            have mL9a10 : a10 ∉ blk A9 := fun hm => by have := F9 _ hm; have := (Array.getElem?_eq_some_iff.1 kV12a10).1; omega
            have lV13L9 := L9
            have lV13L8 := lV12L8.below hb
            have hV13 := hV12.trans (hb.mono hV12.size)
            have kV13a10 := (hb.block _ (Array.getElem?_eq_some_iff.1 kV12a10).1).trans kV12a10
            try go_wp2_with fail
            refine hK.out _ _ hV13 (fun _ => ?_)
            clear hK K HCALL
            try simp only [Act.put, List.setIfInBounds_toArray, List.set_cons_zero, List.set_cons_succ]
            refine wpAnyH_ready (rs := [8]) (by kernel_rfl) (by simp) ?_
            refine AllReadyH.cons rfl (fun K hK => ?_) ?_
            · go_simp
              have hbA : Below V13.heap.size V13 (V13.alloc (.cells #[.int .i64 0, .int .i32 0, .slice none 0 0, .int .i64 0, .int .i64 0] 32)) := (Below.refl _ _).alloc (Nat.le_refl _) _
              have kV14a9 := heap_alloc_new V13 (.cells #[.int .i64 0, .int .i32 0, .slice none 0 0, .int .i64 0, .int .i64 0] 32)
              have kV14a10 := (hbA.block _ (Array.getElem?_eq_some_iff.1 kV13a10).1).trans kV13a10
              have da9a10 : a10 ≠ V13.heap.size := by have := (Array.getElem?_eq_some_iff.1 kV13a10).1; omega
              have mL8a9 : V13.heap.size ∉ blk A8 := fun hm => by have := lV13L8.lt _ hm; omega
              have mL9a9 : V13.heap.size ∉ blk A9 := fun hm => by have := lV13L9.lt _ hm; omega
              have lV14L8 := lV13L8.below hbA
              have lV14L9 := lV13L9.below hbA
              have ga9 := hV13.size
              have hV14 := hV13.trans (hbA.mono hV13.size)
              refine hK.out _ _ hV14 (fun _ => ?_)
              clear hK K hbA
              try simp only [Act.put, List.setIfInBounds_toArray, List.set_cons_zero, List.set_cons_succ]
              generalize V13.alloc (.cells #[.int .i64 0, .int .i32 0, .slice none 0 0, .int .i64 0, .int .i64 0] 32) = V14 at *
              generalize V13.heap.size = a9 at *
              obtain ⟨r0, r1, r2, r3, r4⟩ := row5 kV14a9
              obtain ⟨x0, x1, x2, x3, x4⟩ := free5 kV14a9
              obtain ⟨X1, eX1, kX1, cX1⟩ := set5 kV14a9 (.int .i64 fB) (.int .i32 vB) (.slice A8 nB c8) (.int .i64 sB) (.int .i64 rB)
              have kY1 := (cX1.same a10 (Array.getElem?_eq_some_iff.1 kV14a10).1 (fun hm => da9a10.symm (List.mem_singleton.1 hm).symm)).trans kV14a10
              have hX1 := hV14.trans (cX1.toBelow (fun k hk => by rw [List.mem_singleton] at hk; rw [hk]; exact ga9) hV14.size)
              refine wpAnyH_ready (rs := [10]) (by kernel_rfl) (by simp) ?_
              refine AllReadyH.cons rfl (fun K hK => ?_) AllReadyH.nil
              go_simp
              try rw [eX1]
              refine hK.out _ _ hX1 (fun _ => ?_)
              clear hK K eX1 r0 r1 r2 r3 r4 x0 x1 x2 x3 x4
              try simp only [Act.put, List.setIfInBounds_toArray, List.set_cons_zero, List.set_cons_succ]
              obtain ⟨r0, r1, r2, r3, r4⟩ := row5 kY1
              obtain ⟨x0, x1, x2, x3, x4⟩ := free5 kY1
              obtain ⟨X2, eX2, kX2, cX2⟩ := set5 kY1 (.int .i64 fB) (.int .i32 vB) (.slice A9 nB c9) (.int .i64 sB) (.int .i64 rB)
              have kY2 := (cX2.same a9 (Array.getElem?_eq_some_iff.1 kX1).1 (fun hm => da9a10.symm (List.mem_singleton.1 hm))).trans kX1
              have hX2 := hX1.trans (cX2.toBelow (fun k hk => by rw [List.mem_singleton] at hk; rw [hk]; exact ga10) hX1.size)
              have l2L8 := (lV14L8.chg cX1 (fun k hk hm => mL8a9 (by rw [← List.mem_singleton.1 hm]; exact hk))).chg cX2 (fun k hk hm => mL8a10 (by rw [← List.mem_singleton.1 hm]; exact hk))
              have l2L9 := (lV14L9.chg cX1 (fun k hk hm => mL9a9 (by rw [← List.mem_singleton.1 hm]; exact hk))).chg cX2 (fun k hk hm => mL9a10 (by rw [← List.mem_singleton.1 hm]; exact hk))
              have FIN : RunsFin w2 X2 RB fB vB nB sB rB a9 a10 := ⟨hX2, A8, c8, A9, c9, kY2, l2L8, kX2, l2L9⟩
              refine wpAnyH_ready (rs := [11]) (by kernel_rfl) (by simp) ?_
              refine AllReadyH.cons rfl (fun K hK => ?_) AllReadyH.nil
              go_simp
              try rw [eX2]
              refine hK.out _ _ hX2 (fun _ => ?_)
              clear hK K eX2 r0 r1 r2 r3 r4 x0 x1 x2 x3 x4
              try simp only [Act.put, List.setIfInBounds_toArray, List.set_cons_zero, List.set_cons_succ]
              refine wpAnyH_done (by kernel_rfl) ?_ _
              go_wp2_with fail
              go_meet
              exact ⟨_, _, rfl, rfl, Lib.hid FIN⟩
            exact AllReadyH.nil
          refine AllReadyH.cons rfl (fun K hK => ?_) ?_
          · go_simp
            have hbA : Below V12.heap.size V12 (V12.alloc (.cells #[.int .i64 0, .int .i32 0, .slice none 0 0, .int .i64 0, .int .i64 0] 32)) := (Below.refl _ _).alloc (Nat.le_refl _) _
            have kV15a9 := heap_alloc_new V12 (.cells #[.int .i64 0, .int .i32 0, .slice none 0 0, .int .i64 0, .int .i64 0] 32)
            have kV15a10 := (hbA.block _ (Array.getElem?_eq_some_iff.1 kV12a10).1).trans kV12a10
            have da9a10 : a10 ≠ V12.heap.size := by have := (Array.getElem?_eq_some_iff.1 kV12a10).1; omega
            have mL8a9 : V12.heap.size ∉ blk A8 := fun hm => by have := lV12L8.lt _ hm; omega
            have lV15L8 := lV12L8.below hbA
            have ga9 := hV12.size
            have hV15 := hV12.trans (hbA.mono hV12.size)
            refine hK.out _ _ hV15 (fun _ => ?_)
            clear hK K hbA
            try simp only [Act.put, List.setIfInBounds_toArray, List.set_cons_zero, List.set_cons_succ]
            generalize V12.alloc (.cells #[.int .i64 0, .int .i32 0, .slice none 0 0, .int .i64 0, .int .i64 0] 32) = V15 at *
            generalize V12.heap.size = a9 at *
            refine wpAnyH_ready (rs := [7]) (by kernel_rfl) (by simp) ?_
            refine AllReadyH.cons rfl (fun K hK => ?_) ?_
            · go_simp
              have HCALL := Lib.hid (HD.out V15 hV15)
              go_at_call 11
              with_reducible refine HCALL.out.mono ?_
              rintro e V16 ⟨A9, c9, rfl, L9, hb, F9⟩
              have mL9a10 : a10 ∉ blk A9 := fun hm => by have := F9 _ hm; have := (Array.getElem?_eq_some_iff.1 kV15a10).1; omega
              have mL9a9 : a9 ∉ blk A9 := fun hm => by have := F9 _ hm; have := (Array.getElem?_eq_some_iff.1 kV15a9).1; omega
              have lV16L9 := L9
              have lV16L8 := lV15L8.below hb
              have hV16 := hV15.trans (hb.mono hV15.size)
              have kV16a10 := (hb.block _ (Array.getElem?_eq_some_iff.1 kV15a10).1).trans kV15a10
              have kV16a9 := (hb.block _ (Array.getElem?_eq_some_iff.1 kV15a9).1).trans kV15a9
              try go_wp2_with fail
              refine hK.out _ _ hV16 (fun _ => ?_)
              clear hK K HCALL
              try simp only [Act.put, List.setIfInBounds_toArray, List.set_cons_zero, List.set_cons_succ]
              obtain ⟨r0, r1, r2, r3, r4⟩ := row5 kV16a9
              obtain ⟨x0, x1, x2, x3, x4⟩ := free5 kV16a9
              obtain ⟨X1, eX1, kX1, cX1⟩ := set5 kV16a9 (.int .i64 fB) (.int .i32 vB) (.slice A8 nB c8) (.int .i64 sB) (.int .i64 rB)
              have kY1 := (cX1.same a10 (Array.getElem?_eq_some_iff.1 kV16a10).1 (fun hm => da9a10.symm (List.mem_singleton.1 hm).symm)).trans kV16a10
              have hX1 := hV16.trans (cX1.toBelow (fun k hk => by rw [List.mem_singleton] at hk; rw [hk]; exact ga9) hV16.size)
              refine wpAnyH_ready (rs := [10]) (by kernel_rfl) (by simp) ?_
              refine AllReadyH.cons rfl (fun K hK => ?_) AllReadyH.nil
              go_simp
              try rw [eX1]
              refine hK.out _ _ hX1 (fun _ => ?_)
              clear hK K eX1 r0 r1 r2 r3 r4 x0 x1 x2 x3 x4
              try simp only [Act.put, List.setIfInBounds_toArray, List.set_cons_zero, List.set_cons_succ]
              obtain ⟨r0, r1, r2, r3, r4⟩ := row5 kY1
              obtain ⟨x0, x1, x2, x3, x4⟩ := free5 kY1
              obtain ⟨X2, eX2, kX2, cX2⟩ := set5 kY1 (.int .i64 fB) (.int .i32 vB) (.slice A9 nB c9) (.int .i64 sB) (.int .i64 rB)
              have kY2 := (cX2.same a9 (Array.getElem?_eq_some_iff.1 kX1).1 (fun hm => da9a10.symm (List.mem_singleton.1 hm))).trans kX1
              have hX2 := hX1.trans (cX2.toBelow (fun k hk => by rw [List.mem_singleton] at hk; rw [hk]; exact ga10) hX1.size)
              have l2L8 := (lV16L8.chg cX1 (fun k hk hm => mL8a9 (by rw [← List.mem_singleton.1 hm]; exact hk))).chg cX2 (fun k hk hm => mL8a10 (by rw [← List.mem_singleton.1 hm]; exact hk))
              have l2L9 := (lV16L9.chg cX1 (fun k hk hm => mL9a9 (by rw [← List.mem_singleton.1 hm]; exact hk))).chg cX2 (fun k hk hm => mL9a10 (by rw [← List.mem_singleton.1 hm]; exact hk))
              have FIN : RunsFin w2 X2 RB fB vB nB sB rB a9 a10 := ⟨hX2, A8, c8, A9, c9, kY2, l2L8, kX2, l2L9⟩
              refine wpAnyH_ready (rs := [11]) (by kernel_rfl) (by simp) ?_
              refine AllReadyH.cons rfl (fun K hK => ?_) AllReadyH.nil
              go_simp
              try rw [eX2]
              refine hK.out _ _ hX2 (fun _ => ?_)
              clear hK K eX2 r0 r1 r2 r3 r4 x0 x1 x2 x3 x4
              try simp only [Act.put, List.setIfInBounds_toArray, List.set_cons_zero, List.set_cons_succ]
              refine wpAnyH_done (by kernel_rfl) ?_ _
              go_wp2_with fail
              go_meet
              exact ⟨_, _, rfl, rfl, Lib.hid FIN⟩
            exact AllReadyH.nil
          exact AllReadyH.nil
        exact AllReadyH.nil
      refine AllReadyH.cons rfl (fun K hK => ?_) ?_
      · go_simp
        have hbA : Below V0.heap.size V0 (V0.alloc (.cells #[.int .i64 0, .int .i32 0, .slice none 0 0, .int .i64 0, .int .i64 0] 32)) := (Below.refl _ _).alloc (Nat.le_refl _) _
        have kV17a9 := heap_alloc_new V0 (.cells #[.int .i64 0, .int .i32 0, .slice none 0 0, .int .i64 0, .int .i64 0] 32)
        have ga9 := hV0.size
        have hV17 := hV0.trans (hbA.mono hV0.size)
        refine hK.out _ _ hV17 (fun _ => ?_)
        clear hK K hbA
        try simp only [Act.put, List.setIfInBounds_toArray, List.set_cons_zero, List.set_cons_succ]
        generalize V0.alloc (.cells #[.int .i64 0, .int .i32 0, .slice none 0 0, .int .i64 0, .int .i64 0] 32) = V17 at *
        generalize V0.heap.size = a9 at *
        refine wpAnyH_ready (rs := [3, 9]) (by kernel_rfl) (by simp) ?_
        refine AllReadyH.cons rfl (fun K hK => ?_) ?_
        · go_simp
          have HCALL := Lib.hid (HC.out V17 hV17)
          go_at_call 10
          with_reducible refine HCALL.out.mono ?_
          rintro e V18 ⟨A8, c8, rfl, L8, hb, F8⟩
          have mL8a9 : a9 ∉ blk A8 := fun hm => by have := F8 _ hm; have := (Array.getElem?_eq_some_iff.1 kV17a9).1; omega
          have lV18L8 := L8
          have hV18 := hV17.trans (hb.mono hV17.size)
          have kV18a9 := (hb.block _ (Array.getElem?_eq_some_iff.1 kV17a9).1).trans kV17a9
          try go_wp2_with fail
          refine hK.out _ _ hV18 (fun _ => ?_)
          clear hK K HCALL
          try simp only [Act.put, List.setIfInBounds_toArray, List.set_cons_zero, List.set_cons_succ]
          refine wpAnyH_ready (rs := [7, 9]) (by kernel_rfl) (by simp) ?_
          refine AllReadyH.cons rfl (fun K hK => ?_) ?_
          · go_simp
            have HCALL := Lib.hid (HD.out V18 hV18)
            go_at_call 11
            with_reducible refine HCALL.out.mono ?_
            rintro e V19 ⟨A9, c9, rfl, L9, hb, F9⟩
            have mL9a9 : a9 ∉ blk A9 := fun hm => by have := F9 _ hm; have := (Array.getElem?_eq_some_iff.1 kV18a9).1; omega
            have lV19L9 := L9
            have lV19L8 := lV18L8.below hb
            have hV19 := hV18.trans (hb.mono hV18.size)
            have kV19a9 := (hb.block _ (Array.getElem?_eq_some_iff.1 kV18a9).1).trans kV18a9
            try go_wp2_with fail
            refine hK.out _ _ hV19 (fun _ => ?_)
            clear hK K HCALL
            try simp only [Act.put, List.setIfInBounds_toArray, List.set_cons_zero, List.set_cons_succ]
            refine wpAnyH_ready (rs := [9]) (by kernel_rfl) (by simp) ?_
            refine AllReadyH.cons rfl (fun K hK => ?_) ?_
            · go_simp
              have hbA : Below V19.heap.size V19 (V19.alloc (.cells #[.int .i64 0, .int .i32 0, .slice none 0 0, .int .i64 0, .int .i64 0] 32)) := (Below.refl _ _).alloc (Nat.le_refl _) _
              have kV20a10 := heap_alloc_new V19 (.cells #[.int .i64 0, .int .i32 0, .slice none 0 0, .int .i64 0, .int .i64 0] 32)
              have kV20a9 := (hbA.block _ (Array.getElem?_eq_some_iff.1 kV19a9).1).trans kV19a9
              have da10a9 : a9 ≠ V19.heap.size := by have := (Array.getElem?_eq_some_iff.1 kV19a9).1; omega
              have mL8a10 : V19.heap.size ∉ blk A8 := fun hm => by have := lV19L8.lt _ hm; omega
              have mL9a10 : V19.heap.size ∉ blk A9 := fun hm => by have := lV19L9.lt _ hm; omega
              have lV20L8 := lV19L8.below hbA
              have lV20L9 := lV19L9.below hbA
              have ga10 := hV19.size
              have hV20 := hV19.trans (hbA.mono hV19.size)
              refine hK.out _ _ hV20 (fun _ => ?_)
              clear hK K hbA
              try simp only [Act.put, List.setIfInBounds_toArray, List.set_cons_zero, List.set_cons_succ]
              generalize V19.alloc (.cells #[.int .i64 0, .int .i32 0, .slice none 0 0, .int .i64 0, .int .i64 0] 32) = V20 at *
              generalize V19.heap.size = a10 at *
              obtain ⟨r0, r1, r2, r3, r4⟩ := row5 kV20a9
              obtain ⟨x0, x1, x2, x3, x4⟩ := free5 kV20a9
              obtain ⟨X1, eX1, kX1, cX1⟩ := set5 kV20a9 (.int .i64 fB) (.int .i32 vB) (.slice A8 nB c8) (.int .i64 sB) (.int .i64 rB)
              have kY1 := (cX1.same a10 (Array.getElem?_eq_some_iff.1 kV20a10).1 (fun hm => da10a9 (List.mem_singleton.1 hm).symm)).trans kV20a10
              have hX1 := hV20.trans (cX1.toBelow (fun k hk => by rw [List.mem_singleton] at hk; rw [hk]; exact ga9) hV20.size)
              refine wpAnyH_ready (rs := [10]) (by kernel_rfl) (by simp) ?_
              refine AllReadyH.cons rfl (fun K hK => ?_) AllReadyH.nil
              go_simp
              try rw [eX1]
              refine hK.out _ _ hX1 (fun _ => ?_)
              clear hK K eX1 r0 r1 r2 r3 r4 x0 x1 x2 x3 x4
              try simp only [Act.put, List.setIfInBounds_toArray, List.set_cons_zero, List.set_cons_succ]
              obtain ⟨r0, r1, r2, r3, r4⟩ := row5 kY1
              obtain ⟨x0, x1, x2, x3, x4⟩ := free5 kY1
              obtain ⟨X2, eX2, kX2, cX2⟩ := set5 kY1 (.int .i64 fB) (.int .i32 vB) (.slice A9 nB c9) (.int .i64 sB) (.int .i64 rB)
              have kY2 := (cX2.same a9 (Array.getElem?_eq_some_iff.1 kX1).1 (fun hm => da10a9 (List.mem_singleton.1 hm))).trans kX1
              have hX2 := hX1.trans (cX2.toBelow (fun k hk => by rw [List.mem_singleton] at hk; rw [hk]; exact ga10) hX1.size)
              have l2L8 := (lV20L8.chg cX1 (fun k hk hm => mL8a9 (by rw [← List.mem_singleton.1 hm]; exact hk))).chg cX2 (fun k hk hm => mL8a10 (by rw [← List.mem_singleton.1 hm]; exact hk))
              have l2L9 := (lV20L9.chg cX1 (fun k hk hm => mL9a9 (by rw [← List.mem_singleton.1 hm]; exact hk))).chg cX2 (fun k hk hm => mL9a10 (by rw [← List.mem_singleton.1 hm]; exact hk))
              have FIN : RunsFin w2 X2 RB fB vB nB sB rB a9 a10 := ⟨hX2, A8, c8, A9, c9, kY2, l2L8, kX2, l2L9⟩
              refine wpAnyH_ready (rs := [11]) (by kernel_rfl) (by simp) ?_
              refine AllReadyH.cons rfl (fun K hK => ?_) AllReadyH.nil
              go_simp
              try rw [eX2]
              refine hK.out _ _ hX2 (fun _ => ?_)
              clear hK K eX2 r0 r1 r2 r3 r4 x0 x1 x2 x3 x4
              try simp only [Act.put, List.setIfInBounds_toArray, List.set_cons_zero, List.set_cons_succ]
              refine wpAnyH_done (by kernel_rfl) ?_ _
              go_wp2_with fail
              go_meet
              exact ⟨_, _, rfl, rfl, Lib.hid FIN⟩
            exact AllReadyH.nil
          refine AllReadyH.cons rfl (fun K hK => ?_) ?_
          · go_simp
            have hbA : Below V18.heap.size V18 (V18.alloc (.cells #[.int .i64 0, .int .i32 0, .slice none 0 0, .int .i64 0, .int .i64 0] 32)) := (Below.refl _ _).alloc (Nat.le_refl _) _
            have kV21a10 := heap_alloc_new V18 (.cells #[.int .i64 0, .int .i32 0, .slice none 0 0, .int .i64 0, .int .i64 0] 32)
            have kV21a9 := (hbA.block _ (Array.getElem?_eq_some_iff.1 kV18a9).1).trans kV18a9
            have da10a9 : a9 ≠ V18.heap.size := by have := (Array.getElem?_eq_some_iff.1 kV18a9).1; omega
            have mL8a10 : V18.heap.size ∉ blk A8 := fun hm => by have := lV18L8.lt _ hm; omega
            have lV21L8 := lV18L8.below hbA
            have ga10 := hV18.size
            have hV21 := hV18.trans (hbA.mono hV18.size)
            refine hK.out _ _ hV21 (fun _ => ?_)
            clear hK K hbA
            try simp only [Act.put, List.setIfInBounds_toArray, List.set_cons_zero, List.set_cons_succ]
            generalize V18.alloc (.cells #[.int .i64 0, .int .i32 0, .slice none 0 0, .int .i64 0, .int .i64 0] 32) = V21 at *
            generalize V18.heap.size = a10 at *
            refine wpAnyH_ready (rs := [7]) (by kernel_rfl) (by simp) ?_
            refine AllReadyH.cons rfl (fun K hK => ?_) ?_
            · go_simp
              have HCALL := Lib.hid (HD.out V21 hV21)
              go_at_call 11
              with_reducible refine HCALL.out.mono ?_
              rintro e V22 ⟨A9, c9, rfl, L9, hb, F9⟩
              have mL9a9 : a9 ∉ blk A9 := fun hm => by have := F9 _ hm; have := (Array.getElem?_eq_some_iff.1 kV21a9).1; omega
              have mL9a10 : a10 ∉ blk A9 := fun hm => by have := F9 _ hm; have := (Array.getElem?_eq_some_iff.1 kV21a10).1; omega
              have lV22L9 := L9
              have lV22L8 := lV21L8.below hb
              have hV22 := hV21.trans (hb.mono hV21.size)
              have kV22a9 := (hb.block _ (Array.getElem?_eq_some_iff.1 kV21a9).1).trans kV21a9
              have kV22a10 := (hb.block _ (Array.getElem?_eq_some_iff.1 kV21a10).1).trans kV21a10
              try go_wp2_with fail
              refine hK.out _ _ hV22 (fun _ => ?_)
              clear hK K HCALL
              try simp only [Act.put, List.setIfInBounds_toArray, List.set_cons_zero, List.set_cons_succ]
              obtain ⟨r0, r1, r2, r3, r4⟩ := row5 kV22a9
              obtain ⟨x0, x1, x2, x3, x4⟩ := free5 kV22a9
              obtain ⟨X1, eX1, kX1, cX1⟩ := set5 kV22a9 (.int .i64 fB) (.int .i32 vB) (.slice A8 nB c8) (.int .i64 sB) (.int .i64 rB)
              have kY1 := (cX1.same a10 (Array.getElem?_eq_some_iff.1 kV22a10).1 (fun hm => da10a9 (List.mem_singleton.1 hm).symm)).trans kV22a10
              have hX1 := hV22.trans (cX1.toBelow (fun k hk => by rw [List.mem_singleton] at hk; rw [hk]; exact ga9) hV22.size)
              refine wpAnyH_ready (rs := [10]) (by kernel_rfl) (by simp) ?_
              refine AllReadyH.cons rfl (fun K hK => ?_) AllReadyH.nil
              go_simp
              try rw [eX1]
              refine hK.out _ _ hX1 (fun _ => ?_)
              clear hK K eX1 r0 r1 r2 r3 r4 x0 x1 x2 x3 x4
              try simp only [Act.put, List.setIfInBounds_toArray, List.set_cons_zero, List.set_cons_succ]
              obtain ⟨r0, r1, r2, r3, r4⟩ := row5 kY1
              obtain ⟨x0, x1, x2, x3, x4⟩ := free5 kY1
              obtain ⟨X2, eX2, kX2, cX2⟩ := set5 kY1 (.int .i64 fB) (.int .i32 vB) (.slice A9 nB c9) (.int .i64 sB) (.int .i64 rB)
              have kY2 := (cX2.same a9 (Array.getElem?_eq_some_iff.1 kX1).1 (fun hm => da10a9 (List.mem_singleton.1 hm))).trans kX1
              have hX2 := hX1.trans (cX2.toBelow (fun k hk => by rw [List.mem_singleton] at hk; rw [hk]; exact ga10) hX1.size)
              have l2L8 := (lV22L8.chg cX1 (fun k hk hm => mL8a9 (by rw [← List.mem_singleton.1 hm]; exact hk))).chg cX2 (fun k hk hm => mL8a10 (by rw [← List.mem_singleton.1 hm]; exact hk))
              have l2L9 := (lV22L9.chg cX1 (fun k hk hm => mL9a9 (by rw [← List.mem_singleton.1 hm]; exact hk))).chg cX2 (fun k hk hm => mL9a10 (by rw [← List.mem_singleton.1 hm]; exact hk))
              have FIN : RunsFin w2 X2 RB fB vB nB sB rB a9 a10 := ⟨hX2, A8, c8, A9, c9, kY2, l2L8, kX2, l2L9⟩
              refine wpAnyH_ready (rs := [11]) (by kernel_rfl) (by simp) ?_
              refine AllReadyH.cons rfl (fun K hK => ?_) AllReadyH.nil
              go_simp
              try rw [eX2]
              refine hK.out _ _ hX2 (fun _ => ?_)
              clear hK K eX2 r0 r1 r2 r3 r4 x0 x1 x2 x3 x4
              try simp only [Act.put, List.setIfInBounds_toArray, List.set_cons_zero, List.set_cons_succ]
              refine wpAnyH_done (by kernel_rfl) ?_ _
              go_wp2_with fail
              go_meet
              exact ⟨_, _, rfl, rfl, Lib.hid FIN⟩
            exact AllReadyH.nil
          exact AllReadyH.nil
        refine AllReadyH.cons rfl (fun K hK => ?_) ?_
        · go_simp
          have hbA : Below V17.heap.size V17 (V17.alloc (.cells #[.int .i64 0, .int .i32 0, .slice none 0 0, .int .i64 0, .int .i64 0] 32)) := (Below.refl _ _).alloc (Nat.le_refl _) _
          have kV23a10 := heap_alloc_new V17 (.cells #[.int .i64 0, .int .i32 0, .slice none 0 0, .int .i64 0, .int .i64 0] 32)
          have kV23a9 := (hbA.block _ (Array.getElem?_eq_some_iff.1 kV17a9).1).trans kV17a9
          have da10a9 : a9 ≠ V17.heap.size := by have := (Array.getElem?_eq_some_iff.1 kV17a9).1; omega
          have ga10 := hV17.size
          have hV23 := hV17.trans (hbA.mono hV17.size)
          refine hK.out _ _ hV23 (fun _ => ?_)
          clear hK K hbA
          try simp only [Act.put, List.setIfInBounds_toArray, List.set_cons_zero, List.set_cons_succ]
          generalize V17.alloc (.cells #[.int .i64 0, .int .i32 0, .slice none 0 0, .int .i64 0, .int .i64 0] 32) = V23 at *
          generalize V17.heap.size = a10 at *
          refine wpAnyH_ready (rs := [3]) (by kernel_rfl) (by simp) ?_
          refine AllReadyH.cons rfl (fun K hK => ?_) ?_
          · go_simp
            have HCALL := Lib.hid (HC.out V23 hV23)
            go_at_call 10
            with_reducible refine HCALL.out.mono ?_
            rintro e V24 ⟨A8, c8, rfl, L8, hb, F8⟩
            have mL8a9 : a9 ∉ blk A8 := fun hm => by have := F8 _ hm; have := (Array.getElem?_eq_some_iff.1 kV23a9).1; omega
            have mL8a10 : a10 ∉ blk A8 := fun hm => by have := F8 _ hm; have := (Array.getElem?_eq_some_iff.1 kV23a10).1; omega
            have lV24L8 := L8
            have hV24 := hV23.trans (hb.mono hV23.size)
            have kV24a9 := (hb.block _ (Array.getElem?_eq_some_iff.1 kV23a9).1).trans kV23a9
            have kV24a10 := (hb.block _ (Array.getElem?_eq_some_iff.1 kV23a10).1).trans kV23a10
            try go_wp2_with fail
            refine hK.out _ _ hV24 (fun _ => ?_)
            clear hK K HCALL
            try simp only [Act.put, List.setIfInBounds_toArray, List.set_cons_zero, List.set_cons_succ]
            refine wpAnyH_ready (rs := [7]) (by kernel_rfl) (by simp) ?_
            refine AllReadyH.cons rfl (fun K hK => ?_) ?_
            · go_simp
              have HCALL := Lib.hid (HD.out V24 hV24)
              go_at_call 11
              with_reducible refine HCALL.out.mono ?_
              rintro e V25 ⟨A9, c9, rfl, L9, hb, F9⟩
              have mL9a9 : a9 ∉ blk A9 := fun hm => by have := F9 _ hm; have := (Array.getElem?_eq_some_iff.1 kV24a9).1; omega
              have mL9a10 : a10 ∉ blk A9 := fun hm => by have := F9 _ hm; have := (Array.getElem?_eq_some_iff.1 kV24a10).1; omega
              have lV25L9 := L9
              have lV25L8 := lV24L8.below hb
              have hV25 := hV24.trans (hb.mono hV24.size)
              have kV25a9 := (hb.block _ (Array.getElem?_eq_some_iff.1 kV24a9).1).trans kV24a9
              have kV25a10 := (hb.block _ (Array.getElem?_eq_some_iff.1 kV24a10).1).trans kV24a10
              try go_wp2_with fail
              refine hK.out _ _ hV25 (fun _ => ?_)
              clear hK K HCALL
              try simp only [Act.put, List.setIfInBounds_toArray, List.set_cons_zero, List.set_cons_succ]
              obtain ⟨r0, r1, r2, r3, r4⟩ := row5 kV25a9
              obtain ⟨x0, x1, x2, x3, x4⟩ := free5 kV25a9
              obtain ⟨X1, eX1, kX1, cX1⟩ := set5 kV25a9 (.int .i64 fB) (.int .i32 vB) (.slice A8 nB c8) (.int .i64 sB) (.int .i64 rB)
              have kY1 := (cX1.same a10 (Array.getElem?_eq_some_iff.1 kV25a10).1 (fun hm => da10a9 (List.mem_singleton.1 hm).symm)).trans kV25a10
              have hX1 := hV25.trans (cX1.toBelow (fun k hk => by rw [List.mem_singleton] at hk; rw [hk]; exact ga9) hV25.size)
              refine wpAnyH_ready (rs := [10]) (by kernel_rfl) (by simp) ?_
              refine AllReadyH.cons rfl (fun K hK => ?_) AllReadyH.nil
              go_simp
              try rw [eX1]
              refine hK.out _ _ hX1 (fun _ => ?_)
              clear hK K eX1 r0 r1 r2 r3 r4 x0 x1 x2 x3 x4
              try simp only [Act.put, List.setIfInBounds_toArray, List.set_cons_zero, List.set_cons_succ]
              obtain ⟨r0, r1, r2, r3, r4⟩ := row5 kY1
              obtain ⟨x0, x1, x2, x3, x4⟩ := free5 kY1
              obtain ⟨X2, eX2, kX2, cX2⟩ := set5 kY1 (.int .i64 fB) (.int .i32 vB) (.slice A9 nB c9) (.int .i64 sB) (.int .i64 rB)
              have kY2 := (cX2.same a9 (Array.getElem?_eq_some_iff.1 kX1).1 (fun hm => da10a9 (List.mem_singleton.1 hm))).trans kX1
              have hX2 := hX1.trans (cX2.toBelow (fun k hk => by rw [List.mem_singleton] at hk; rw [hk]; exact ga10) hX1.size)
              have l2L8 := (lV25L8.chg cX1 (fun k hk hm => mL8a9 (by rw [← List.mem_singleton.1 hm]; exact hk))).chg cX2 (fun k hk hm => mL8a10 (by rw [← List.mem_singleton.1 hm]; exact hk))
              have l2L9 := (lV25L9.chg cX1 (fun k hk hm => mL9a9 (by rw [← List.mem_singleton.1 hm]; exact hk))).chg cX2 (fun k hk hm => mL9a10 (by rw [← List.mem_singleton.1 hm]; exact hk))
              have FIN : RunsFin w2 X2 RB fB vB nB sB rB a9 a10 := ⟨hX2, A8, c8, A9, c9, kY2, l2L8, kX2, l2L9⟩
              refine wpAnyH_ready (rs := [11]) (by kernel_rfl) (by simp) ?_
              refine AllReadyH.cons rfl (fun K hK => ?_) AllReadyH.nil
              go_simp
              try rw [eX2]
              refine hK.out _ _ hX2 (fun _ => ?_)
              clear hK K eX2 r0 r1 r2 r3 r4 x0 x1 x2 x3 x4
              try simp only [Act.put, List.setIfInBounds_toArray, List.set_cons_zero, List.set_cons_succ]
              refine wpAnyH_done (by kernel_rfl) ?_ _
              go_wp2_with fail
              go_meet
              exact ⟨_, _, rfl, rfl, Lib.hid FIN⟩
            exact AllReadyH.nil
          exact AllReadyH.nil
        exact AllReadyH.nil
      refine AllReadyH.cons rfl (fun K hK => ?_) ?_
      · go_simp
        have hbA : Below V0.heap.size V0 (V0.alloc (.cells #[.int .i64 0, .int .i32 0, .slice none 0 0, .int .i64 0, .int .i64 0] 32)) := (Below.refl _ _).alloc (Nat.le_refl _) _
        have kV26a10 := heap_alloc_new V0 (.cells #[.int .i64 0, .int .i32 0, .slice none 0 0, .int .i64 0, .int .i64 0] 32)
        have ga10 := hV0.size
        have hV26 := hV0.trans (hbA.mono hV0.size)
        refine hK.out _ _ hV26 (fun _ => ?_)
        clear hK K hbA
        try simp only [Act.put, List.setIfInBounds_toArray, List.set_cons_zero, List.set_cons_succ]
        generalize V0.alloc (.cells #[.int .i64 0, .int .i32 0, .slice none 0 0, .int .i64 0, .int .i64 0] 32) = V26 at *
        generalize V0.heap.size = a10 at *
        refine wpAnyH_ready (rs := [3, 8]) (by kernel_rfl) (by simp) ?_
        refine AllReadyH.cons rfl (fun K hK => ?_) ?_
        · go_simp
          have HCALL := Lib.hid (HC.out V26 hV26)
          go_at_call 10
          with_reducible refine HCALL.out.mono ?_
          rintro e V27 ⟨A8, c8, rfl, L8, hb, F8⟩
          have mL8a10 : a10 ∉ blk A8 := fun hm => by have := F8 _ hm; have := (Array.getElem?_eq_some_iff.1 kV26a10).1; omega
          have lV27L8 := L8
          have hV27 := hV26.trans (hb.mono hV26.size)
          have kV27a10 := (hb.block _ (Array.getElem?_eq_some_iff.1 kV26a10).1).trans kV26a10
          try go_wp2_with fail
          refine hK.out _ _ hV27 (fun _ => ?_)
          clear hK K HCALL
          try simp only [Act.put, List.setIfInBounds_toArray, List.set_cons_zero, List.set_cons_succ]
          refine wpAnyH_ready (rs := [7, 8]) (by kernel_rfl) (by simp) ?_
          refine AllReadyH.cons rfl (fun K hK => ?_) ?_
          · go_simp
            have HCALL := Lib.hid (HD.out V27 hV27)
            go_at_call 11
            with_reducible refine HCALL.out.mono ?_
            rintro e V28 ⟨A9, c9, rfl, L9, hb, F9⟩
            have mL9a10 : a10 ∉ blk A9 := fun hm => by have := F9 _ hm; have := (Array.getElem?_eq_some_iff.1 kV27a10).1; omega
            have lV28L9 := L9
            have lV28L8 := lV27L8.below hb
            have hV28 := hV27.trans (hb.mono hV27.size)
            have kV28a10 := (hb.block _ (Array.getElem?_eq_some_iff.1 kV27a10).1).trans kV27a10
            try go_wp2_with fail
            refine hK.out _ _ hV28 (fun _ => ?_)
            clear hK K HCALL
            try simp only [Act.put, List.setIfInBounds_toArray, List.set_cons_zero, List.set_cons_succ]
            refine wpAnyH_ready (rs := [8]) (by kernel_rfl) (by simp) ?_
            refine AllReadyH.cons rfl (fun K hK => ?_) ?_
            · go_simp
              have hbA : Below V28.heap.size V28 (V28.alloc (.cells #[.int .i64 0, .int .i32 0, .slice none 0 0, .int .i64 0, .int .i64 0] 32)) := (Below.refl _ _).alloc (Nat.le_refl _) _
              have kV29a9 := heap_alloc_new V28 (.cells #[.int .i64 0, .int .i32 0, .slice none 0 0, .int .i64 0, .int .i64 0] 32)
              have kV29a10 := (hbA.block _ (Array.getElem?_eq_some_iff.1 kV28a10).1).trans kV28a10
              have da9a10 : a10 ≠ V28.heap.size := by have := (Array.getElem?_eq_some_iff.1 kV28a10).1; omega
              have mL8a9 : V28.heap.size ∉ blk A8 := fun hm => by have := lV28L8.lt _ hm; omega
              have mL9a9 : V28.heap.size ∉ blk A9 := fun hm => by have := lV28L9.lt _ hm; omega
              have lV29L8 := lV28L8.below hbA
              have lV29L9 := lV28L9.below hbA
              have ga9 := hV28.size
              have hV29 := hV28.trans (hbA.mono hV28.size)
              refine hK.out _ _ hV29 (fun _ => ?_)
              clear hK K hbA
              try simp only [Act.put, List.setIfInBounds_toArray, List.set_cons_zero, List.set_cons_succ]
              generalize V28.alloc (.cells #[.int .i64 0, .int .i32 0, .slice none 0 0, .int .i64 0, .int .i64 0] 32) = V29 at *
              generalize V28.heap.size = a9 at *
              obtain ⟨r0, r1, r2, r3, r4⟩ := row5 kV29a9
              obtain ⟨x0, x1, x2, x3, x4⟩ := free5 kV29a9
              obtain ⟨X1, eX1, kX1, cX1⟩ := set5 kV29a9 (.int .i64 fB) (.int .i32 vB) (.slice A8 nB c8) (.int .i64 sB) (.int .i64 rB)
              have kY1 := (cX1.same a10 (Array.getElem?_eq_some_iff.1 kV29a10).1 (fun hm => da9a10.symm (List.mem_singleton.1 hm).symm)).trans kV29a10
              have hX1 := hV29.trans (cX1.toBelow (fun k hk => by rw [List.mem_singleton] at hk; rw [hk]; exact ga9) hV29.size)
              refine wpAnyH_ready (rs := [10]) (by kernel_rfl) (by simp) ?_
              refine AllReadyH.cons rfl (fun K hK => ?_) AllReadyH.nil
              go_simp
              try rw [eX1]
              refine hK.out _ _ hX1 (fun _ => ?_)
              clear hK K eX1 r0 r1 r2 r3 r4 x0 x1 x2 x3 x4
              try simp only [Act.put, List.setIfInBounds_toArray, List.set_cons_zero, List.set_cons_succ]
              obtain ⟨r0, r1, r2, r3, r4⟩ := row5 kY1
              obtain ⟨x0, x1, x2, x3, x4⟩ := free5 kY1
              obtain ⟨X2, eX2, kX2, cX2⟩ := set5 kY1 (.int .i64 fB) (.int .i32 vB) (.slice A9 nB c9) (.int .i64 sB) (.int .i64 rB)
              have kY2 := (cX2.same a9 (Array.getElem?_eq_some_iff.1 kX1).1 (fun hm => da9a10.symm (List.mem_singleton.1 hm))).trans kX1
              have hX2 := hX1.trans (cX2.toBelow (fun k hk => by rw [List.mem_singleton] at hk; rw [hk]; exact ga10) hX1.size)
              have l2L8 := (lV29L8.chg cX1 (fun k hk hm => mL8a9 (by rw [← List.mem_singleton.1 hm]; exact hk))).chg cX2 (fun k hk hm => mL8a10 (by rw [← List.mem_singleton.1 hm]; exact hk))
              have l2L9 := (lV29L9.chg cX1 (fun k hk hm => mL9a9 (by rw [← List.mem_singleton.1 hm]; exact hk))).chg cX2 (fun k hk hm => mL9a10 (by rw [← List.mem_singleton.1 hm]; exact hk))
              have FIN : RunsFin w2 X2 RB fB vB nB sB rB a9 a10 := ⟨hX2, A8, c8, A9, c9, kY2, l2L8, kX2, l2L9⟩
              refine wpAnyH_ready (rs := [11]) (by kernel_rfl) (by simp) ?_
              refine AllReadyH.cons rfl (fun K hK => ?_) AllReadyH.nil
              go_simp
              try rw [eX2]
              refine hK.out _ _ hX2 (fun _ => ?_)
              clear hK K eX2 r0 r1 r2 r3 r4 x0 x1 x2 x3 x4
              try simp only [Act.put, List.setIfInBounds_toArray, List.set_cons_zero, List.set_cons_succ]
              refine wpAnyH_done (by kernel_rfl) ?_ _
              go_wp2_with fail
              go_meet
              exact ⟨_, _, rfl, rfl, Lib.hid FIN⟩
            exact AllReadyH.nil
          refine AllReadyH.cons rfl (fun K hK => ?_) ?_
          · go_simp
            have hbA : Below V27.heap.size V27 (V27.alloc (.cells #[.int .i64 0, .int .i32 0, .slice none 0 0, .int .i64 0, .int .i64 0] 32)) := (Below.refl _ _).alloc (Nat.le_refl _) _
            have kV30a9 := heap_alloc_new V27 (.cells #[.int .i64 0, .int .i32 0, .slice none 0 0, .int .i64 0, .int .i64 0] 32)
            have kV30a10 := (hbA.block _ (Array.getElem?_eq_some_iff.1 kV27a10).1).trans kV27a10
            have da9a10 : a10 ≠ V27.heap.size := by have := (Array.getElem?_eq_some_iff.1 kV27a10).1; omega
            have mL8a9 : V27.heap.size ∉ blk A8 := fun hm => by have := lV27L8.lt _ hm; omega
            have lV30L8 := lV27L8.below hbA
            have ga9 := hV27.size
            have hV30 := hV27.trans (hbA.mono hV27.size)
            refine hK.out _ _ hV30 (fun _ => ?_)
            clear hK K hbA
            try simp only [Act.put, List.setIfInBounds_toArray, List.set_cons_zero, List.set_cons_succ]
            generalize V27.alloc (.cells #[.int .i64 0, .int .i32 0, .slice none 0 0, .int .i64 0, .int .i64 0] 32) = V30 at *
            generalize V27.heap.size = a9 at *
            refine wpAnyH_ready (rs := [7]) (by kernel_rfl) (by simp) ?_
            refine AllReadyH.cons rfl (fun K hK => ?_) ?_
            · go_simp
              have HCALL := Lib.hid (HD.out V30 hV30)
              go_at_call 11
              with_reducible refine HCALL.out.mono ?_
              rintro e V31 ⟨A9, c9, rfl, L9, hb, F9⟩
              have mL9a10 : a10 ∉ blk A9 := fun hm => by have := F9 _ hm; have := (Array.getElem?_eq_some_iff.1 kV30a10).1; omega
              have mL9a9 : a9 ∉ blk A9 := fun hm => by have := F9 _ hm; have := (Array.getElem?_eq_some_iff.1 kV30a9).1; omega
              have lV31L9 := L9
              have lV31L8 := lV30L8.below hb
              have hV31 := hV30.trans (hb.mono hV30.size)
              have kV31a10 := (hb.block _ (Array.getElem?_eq_some_iff.1 kV30a10).1).trans kV30a10
              have kV31a9 := (hb.block _ (Array.getElem?_eq_some_iff.1 kV30a9).1).trans kV30a9
              try go_wp2_with fail
              refine hK.out _ _ hV31 (fun _ => ?_)
              clear hK K HCALL
              try simp only [Act.put, List.setIfInBounds_toArray, List.set_cons_zero, List.set_cons_succ]
              obtain ⟨r0, r1, r2, r3, r4⟩ := row5 kV31a9
              obtain ⟨x0, x1, x2, x3, x4⟩ := free5 kV31a9
              obtain ⟨X1, eX1, kX1, cX1⟩ := set5 kV31a9 (.int .i64 fB) (.int .i32 vB) (.slice A8 nB c8) (.int .i64 sB) (.int .i64 rB)
              have kY1 := (cX1.same a10 (Array.getElem?_eq_some_iff.1 kV31a10).1 (fun hm => da9a10.symm (List.mem_singleton.1 hm).symm)).trans kV31a10
              have hX1 := hV31.trans (cX1.toBelow (fun k hk => by rw [List.mem_singleton] at hk; rw [hk]; exact ga9) hV31.size)
              refine wpAnyH_ready (rs := [10]) (by kernel_rfl) (by simp) ?_
              refine AllReadyH.cons rfl (fun K hK => ?_) AllReadyH.nil
              go_simp
              try rw [eX1]
              refine hK.out _ _ hX1 (fun _ => ?_)
              clear hK K eX1 r0 r1 r2 r3 r4 x0 x1 x2 x3 x4
              try simp only [Act.put, List.setIfInBounds_toArray, List.set_cons_zero, List.set_cons_succ]
              obtain ⟨r0, r1, r2, r3, r4⟩ := row5 kY1
              obtain ⟨x0, x1, x2, x3, x4⟩ := free5 kY1
              obtain ⟨X2, eX2, kX2, cX2⟩ := set5 kY1 (.int .i64 fB) (.int .i32 vB) (.slice A9 nB c9) (.int .i64 sB) (.int .i64 rB)
              have kY2 := (cX2.same a9 (Array.getElem?_eq_some_iff.1 kX1).1 (fun hm => da9a10.symm (List.mem_singleton.1 hm))).trans kX1
              have hX2 := hX1.trans (cX2.toBelow (fun k hk => by rw [List.mem_singleton] at hk; rw [hk]; exact ga10) hX1.size)
              have l2L8 := (lV31L8.chg cX1 (fun k hk hm => mL8a9 (by rw [← List.mem_singleton.1 hm]; exact hk))).chg cX2 (fun k hk hm => mL8a10 (by rw [← List.mem_singleton.1 hm]; exact hk))
              have l2L9 := (lV31L9.chg cX1 (fun k hk hm => mL9a9 (by rw [← List.mem_singleton.1 hm]; exact hk))).chg cX2 (fun k hk hm => mL9a10 (by rw [← List.mem_singleton.1 hm]; exact hk))
              have FIN : RunsFin w2 X2 RB fB vB nB sB rB a9 a10 := ⟨hX2, A8, c8, A9, c9, kY2, l2L8, kX2, l2L9⟩
              refine wpAnyH_ready (rs := [11]) (by kernel_rfl) (by simp) ?_
              refine AllReadyH.cons rfl (fun K hK => ?_) AllReadyH.nil
              go_simp
              try rw [eX2]
              refine hK.out _ _ hX2 (fun _ => ?_)
              clear hK K eX2 r0 r1 r2 r3 r4 x0 x1 x2 x3 x4
              try simp only [Act.put, List.setIfInBounds_toArray, List.set_cons_zero, List.set_cons_succ]
              refine wpAnyH_done (by kernel_rfl) ?_ _
              go_wp2_with fail
              go_meet
              exact ⟨_, _, rfl, rfl, Lib.hid FIN⟩
            exact AllReadyH.nil
          exact AllReadyH.nil
        refine AllReadyH.cons rfl (fun K hK => ?_) ?_
        · go_simp
          have hbA : Below V26.heap.size V26 (V26.alloc (.cells #[.int .i64 0, .int .i32 0, .slice none 0 0, .int .i64 0, .int .i64 0] 32)) := (Below.refl _ _).alloc (Nat.le_refl _) _
          have kV32a9 := heap_alloc_new V26 (.cells #[.int .i64 0, .int .i32 0, .slice none 0 0, .int .i64 0, .int .i64 0] 32)
          have kV32a10 := (hbA.block _ (Array.getElem?_eq_some_iff.1 kV26a10).1).trans kV26a10
          have da9a10 : a10 ≠ V26.heap.size := by have := (Array.getElem?_eq_some_iff.1 kV26a10).1; omega
          have ga9 := hV26.size
          have hV32 := hV26.trans (hbA.mono hV26.size)
          refine hK.out _ _ hV32 (fun _ => ?_)
          clear hK K hbA
          try simp only [Act.put, List.setIfInBounds_toArray, List.set_cons_zero, List.set_cons_succ]
          generalize V26.alloc (.cells #[.int .i64 0, .int .i32 0, .slice none 0 0, .int .i64 0, .int .i64 0] 32) = V32 at *
          generalize V26.heap.size = a9 at *
          refine wpAnyH_ready (rs := [3]) (by kernel_rfl) (by simp) ?_
          refine AllReadyH.cons rfl (fun K hK => ?_) ?_
          · go_simp
            have HCALL := Lib.hid (HC.out V32 hV32)
            go_at_call 10
            with_reducible refine HCALL.out.mono ?_
            rintro e V33 ⟨A8, c8, rfl, L8, hb, F8⟩
            have mL8a10 : a10 ∉ blk A8 := fun hm => by have := F8 _ hm; have := (Array.getElem?_eq_some_iff.1 kV32a10).1; omega
            have mL8a9 : a9 ∉ blk A8 := fun hm => by have := F8 _ hm; have := (Array.getElem?_eq_some_iff.1 kV32a9).1; omega
            have lV33L8 := L8
            have hV33 := hV32.trans (hb.mono hV32.size)
            have kV33a10 := (hb.block _ (Array.getElem?_eq_some_iff.1 kV32a10).1).trans kV32a10
            have kV33a9 := (hb.block _ (Array.getElem?_eq_some_iff.1 kV32a9).1).trans kV32a9
            try go_wp2_with fail
            refine hK.out _ _ hV33 (fun _ => ?_)
            clear hK K HCALL
            try simp only [Act.put, List.setIfInBounds_toArray, List.set_cons_zero, List.set_cons_succ]
            refine wpAnyH_ready (rs := [7]) (by kernel_rfl) (by simp) ?_
            refine AllReadyH.cons rfl (fun K hK => ?_) ?_
            · go_simp
              have HCALL := Lib.hid (HD.out V33 hV33)
              go_at_call 11
              with_reducible refine HCALL.out.mono ?_
              rintro e V34 ⟨A9, c9, rfl, L9, hb, F9⟩
              have mL9a10 : a10 ∉ blk A9 := fun hm => by have := F9 _ hm; have := (Array.getElem?_eq_some_iff.1 kV33a10).1; omega
              have mL9a9 : a9 ∉ blk A9 := fun hm => by have := F9 _ hm; have := (Array.getElem?_eq_some_iff.1 kV33a9).1; omega
              have lV34L9 := L9
              have lV34L8 := lV33L8.below hb
              have hV34 := hV33.trans (hb.mono hV33.size)
              have kV34a10 := (hb.block _ (Array.getElem?_eq_some_iff.1 kV33a10).1).trans kV33a10
              have kV34a9 := (hb.block _ (Array.getElem?_eq_some_iff.1 kV33a9).1).trans kV33a9
              try go_wp2_with fail
              refine hK.out _ _ hV34 (fun _ => ?_)
              clear hK K HCALL
              try simp only [Act.put, List.setIfInBounds_toArray, List.set_cons_zero, List.set_cons_succ]
              obtain ⟨r0, r1, r2, r3, r4⟩ := row5 kV34a9
              obtain ⟨x0, x1, x2, x3, x4⟩ := free5 kV34a9
              obtain ⟨X1, eX1, kX1, cX1⟩ := set5 kV34a9 (.int .i64 fB) (.int .i32 vB) (.slice A8 nB c8) (.int .i64 sB) (.int .i64 rB)
              have kY1 := (cX1.same a10 (Array.getElem?_eq_some_iff.1 kV34a10).1 (fun hm => da9a10.symm (List.mem_singleton.1 hm).symm)).trans kV34a10
              have hX1 := hV34.trans (cX1.toBelow (fun k hk => by rw [List.mem_singleton] at hk; rw [hk]; exact ga9) hV34.size)
              refine wpAnyH_ready (rs := [10]) (by kernel_rfl) (by simp) ?_
              refine AllReadyH.cons rfl (fun K hK => ?_) AllReadyH.nil
              go_simp
              try rw [eX1]
              refine hK.out _ _ hX1 (fun _ => ?_)
              clear hK K eX1 r0 r1 r2 r3 r4 x0 x1 x2 x3 x4
              try simp only [Act.put, List.setIfInBounds_toArray, List.set_cons_zero, List.set_cons_succ]
              obtain ⟨r0, r1, r2, r3, r4⟩ := row5 kY1
              obtain ⟨x0, x1, x2, x3, x4⟩ := free5 kY1
              obtain ⟨X2, eX2, kX2, cX2⟩ := set5 kY1 (.int .i64 fB) (.int .i32 vB) (.slice A9 nB c9) (.int .i64 sB) (.int .i64 rB)
              have kY2 := (cX2.same a9 (Array.getElem?_eq_some_iff.1 kX1).1 (fun hm => da9a10.symm (List.mem_singleton.1 hm))).trans kX1
              have hX2 := hX1.trans (cX2.toBelow (fun k hk => by rw [List.mem_singleton] at hk; rw [hk]; exact ga10) hX1.size)
              have l2L8 := (lV34L8.chg cX1 (fun k hk hm => mL8a9 (by rw [← List.mem_singleton.1 hm]; exact hk))).chg cX2 (fun k hk hm => mL8a10 (by rw [← List.mem_singleton.1 hm]; exact hk))
              have l2L9 := (lV34L9.chg cX1 (fun k hk hm => mL9a9 (by rw [← List.mem_singleton.1 hm]; exact hk))).chg cX2 (fun k hk hm => mL9a10 (by rw [← List.mem_singleton.1 hm]; exact hk))
              have FIN : RunsFin w2 X2 RB fB vB nB sB rB a9 a10 := ⟨hX2, A8, c8, A9, c9, kY2, l2L8, kX2, l2L9⟩
              refine wpAnyH_ready (rs := [11]) (by kernel_rfl) (by simp) ?_
              refine AllReadyH.cons rfl (fun K hK => ?_) AllReadyH.nil
              go_simp
              try rw [eX2]
              refine hK.out _ _ hX2 (fun _ => ?_)
              clear hK K eX2 r0 r1 r2 r3 r4 x0 x1 x2 x3 x4
              try simp only [Act.put, List.setIfInBounds_toArray, List.set_cons_zero, List.set_cons_succ]
              refine wpAnyH_done (by kernel_rfl) ?_ _
              go_wp2_with fail
              go_meet
              exact ⟨_, _, rfl, rfl, Lib.hid FIN⟩
            exact AllReadyH.nil
          exact AllReadyH.nil
        exact AllReadyH.nil
      exact AllReadyH.nil
    case rest =>
      obtain ⟨p, q, rfl, rfl, HM⟩ := hcut
      rename World => wx
      obtain ⟨hbx, A8, c8, A9, c9, k9, l8, k10, l9⟩ := HM.out
      obtain ⟨y0, y1⟩ := HMC.out wx hbx
      have hR0 := HNO.out HK.out wx (HB2.out.trans (hbx.mono HB2.out.size))
      obtain ⟨e5, e0⟩ := progR_zero HK.out inp
      unfold PR.rs Rs.val at hR0
      dsimp only at hR0
      rw [e5, e0] at hR0
      have HN := Lib.hid hR0
      have HX := Lib.hid (And.intro hbx (And.intro k9 (And.intro l8 (And.intro k10 l9))))
      clear hbx k9 l8 k10 l9 hR0 e5 e0 HM HC HD HMC HNO
      go_wp2_with fail
      (refine HN.out.mono ?_)
      rintro e w3 ⟨A3, c3, rfl, hb3⟩
      generalize (progR gs fs inp 0).value = vN at *
      generalize (progR gs fs inp 0).tr.length = nN at *
      generalize ((progR gs fs inp 0).reads : Int) = rN at *
      obtain ⟨W4, p4, hW4, hp4, hB4, hr4⟩ := ResAt.new w3 5 vN A3 nN c3 0 rN
      have hb34 := hb3.trans (hB4.mono hb3.size)
      have k9 := (hb34.block p (Array.getElem?_eq_some_iff.1 HX.out.2.1).1).trans HX.out.2.1
      have k10 := (hb34.block q (Array.getElem?_eq_some_iff.1 HX.out.2.2.2.1).1).trans HX.out.2.2.2.1
      obtain ⟨d0, d1, d2, d3, d4⟩ := row5 k9
      obtain ⟨e0, e1, e2, e3, e4⟩ := row5 k10
      have hi8 : (RB.rs A8 c8).In W4 := PR.rs_in (by rw [HEB.out.2.2.1]; exact HX.out.2.2.1.below hb34) (by rw [HEB.out.2.2.1]; exact HNN.out)
      have hi9 : (RB.rs A9 c9).In W4 := PR.rs_in (by rw [HEB.out.2.2.1]; exact HX.out.2.2.2.2.below hb34) (by rw [HEB.out.2.2.1]; exact HNN.out)
      have hsm := sameR_any W4 (RB.rs A8 c8) (RB.rs A9 c9) hi8 hi9
      rw [sameR_self] at hsm
      unfold PR.rs Rs.val at hsm
      dsimp only at hsm
      rw [HEB.out.1, HEB.out.2.1, HEB.out.2.2.1, HEB.out.2.2.2.1, HEB.out.2.2.2.2] at hsm
      have HSM := Lib.hid hsm
      have HB4 : Hid (Below w.heap.size w W4) := Lib.hid (HEND.out.trans ((HX.out.1.trans (hb34.mono HX.out.1.size)).mono HEND.out.size))
      have HKP := Lib.hid (And.intro k9 (And.intro k10 hr4))
      obtain ⟨_, b0, b1, b2, b3, b4⟩ := hr4
      clear hb3 hB4 hb34 k9 k10 hi8 hi9 hsm y0 y1 HN
      go_wp2_with fail
      (with_reducible refine HSM.out.mono ?_)
      rintro e w5 ⟨rfl, hb5⟩
      have k9 := (hb5.block p (Array.getElem?_eq_some_iff.1 HKP.out.1).1).trans HKP.out.1
      have k10 := (hb5.block q (Array.getElem?_eq_some_iff.1 HKP.out.2.1).1).trans HKP.out.2.1
      obtain ⟨d0, d1, d2, d3, d4⟩ := row5 k9
      obtain ⟨e0, e1, e2, e3, e4⟩ := row5 k10
      obtain ⟨_, b0, b1, b2, b3, b4⟩ := HKP.out.2.2.below hb5
      have HL := Lib.hid (lives12 w5)
      have HB5 := Lib.hid (HB4.out.trans (hb5.mono HB4.out.size))
      clear hb5 k9 k10 HSM HKP hW4 hp4
      go_wp2_with fail
      (refine HL.out.mono ?_)
      rintro e w6 ⟨rfl, hb6⟩
      have HB6 := Lib.hid (HB5.out.trans (hb6.mono HB5.out.size))
      go_wp2_with fail
      go_ret
      exact ⟨rfl, HB6.out⟩
end Go.Proofs.Ytcanjkjpdnbcnaa
