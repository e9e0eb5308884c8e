/-
  The document's machine: a call.
  The document's machine: calls within one another.
  The document's machine: Run.
-/
import Derived.Test.YtcanjkjpdnbcnaaZbc
import Derived.Deep.CutBlock
namespace Go.Proofs.Ytcanjkjpdnbcnaa
open Go.RowKit
set_option linter.unusedVariables false
set_option linter.unusedSimpArgs false
set_option maxRecDepth 100000

def FnBox (w : World) (b : Nat) (f : MFn) : Prop := w.heap[b]? = some (.cells #[.string f.name, .int .i64 f.params, .int .i64 f.regs, .slice f.blocksA f.blocksn f.blocksc] 47 (0, 0))
def BlBox (w : World) (b : Nat) (x : MBl) : Prop := w.heap[b]? = some (.cells #[.slice x.insA x.insn x.insc, .int .i64 x.kind, .int .i64 x.a, .int .i64 x.go, .int .i64 x.els] 41 (0, 0))
theorem set4 {W : World} {p T : Nat} {a b c d : Value} (h : W.heap[p]? = some (.cells #[a, b, c, d] T (0, 0))) (a' b' c' d' : Value) :
    ∃ X, ((((W.setCell ⟨p, 0, none⟩ a').setCell ⟨p, 1, none⟩ b').setCell ⟨p, 2, none⟩ c').setCell ⟨p, 3, none⟩ d') = X ∧ X.heap[p]? = some (.cells #[a', b', c', d'] T (0, 0)) ∧ Chg [p] W X := by
  have hm : p ∈ [p] ∨ W.heap.size ≤ p := .inl (List.mem_singleton.2 rfl)
  refine ⟨_, rfl, ?_, (((((Chg.refl [p] W).setCell p 0 a' hm).setCell p 1 b' hm).setCell p 2 c' hm).setCell p 3 d' hm)⟩
  have h1 := heap_setCell_same W p 0 _ _ a' h
  have h2 := heap_setCell_same _ p 1 _ _ b' h1
  have h3 := heap_setCell_same _ p 2 _ _ c' h2
  exact (heap_setCell_same _ p 3 _ _ d' h3).trans rfl
theorem row4 {W : World} {p : Nat} {a b c d : Value} {T : Nat} (h : W.heap[p]? = some (.cells #[a, b, c, d] T (0, 0))) : W.cell? ⟨p, 0, none⟩ = some a ∧ W.cell? ⟨p, 1, none⟩ = some b ∧ W.cell? ⟨p, 2, none⟩ = some c ∧ W.cell? ⟨p, 3, none⟩ = some d :=
  ⟨by rw [cell_of_row _ _ 0 _ _ (0, 0) h]; rfl, by rw [cell_of_row _ _ 1 _ _ (0, 0) h]; rfl, by rw [cell_of_row _ _ 2 _ _ (0, 0) h]; rfl, by rw [cell_of_row _ _ 3 _ _ (0, 0) h]; rfl⟩
/-- Too many calls. -/
theorem mem_deep {e : Ev} (ok : EvOk e) : CallMem e 32 (fun s _ _ => .stop 4 s) := by
  intro w s tA tc x A cc args n f h hg hf hpar hn hn8 hv hl hAp hst
  have c5 : w.cell? ⟨e.p, 5, none⟩ = some (.int .i64 32) := h.mc.c5
  have c6 : w.cell? ⟨e.p, 6, none⟩ = some (.int .i64 0) := h.mc.c6
  have f6 := h.mc.free 6
  have hm := h.mc.set 6 (.int .i64 4) (e.mc 32 4 s tA tc) rfl
  have hc : Chg [e.p] w (w.setCell ⟨e.p, 6, none⟩ (.int .i64 4)) := (Chg.refl _ w).setCell e.p 6 _ (.inl (List.mem_singleton.2 rfl))
  have HFIN : Hid (CallOut e 32 w tA s.steps (.stop 4 s) (.returned (.int .i32 0)) (w.setCell ⟨e.p, 6, none⟩ (.int .i64 4))) := Lib.hid ⟨rfl, by decide, by decide, 32, tA, tc, h.mach ok hc hm rfl rfl, hc.weaken (fun k hk => .inl (by rw [List.mem_singleton.1 hk]; exact Ev.p_in)), fun k hk => .inl hk⟩
  clear h hg hf hl hm hc hv hpar
  go_enter Try.func21, Try.ntmps21
  go_wp2_with fail
  go_ret
  exact HFIN.out
set_option maxHeartbeats 6400000 in
theorem mem_call {e : Ev} (ok : EvOk e) {calls : Nat} (hlt : calls < 32) {callF : PS → ByteArray → List Int → RO} (hC : CallMem e (calls + 1) callF) :
    CallMem e calls (fun s x args => match fnOf e.fs x with | none => .stop 0 s | some f => frameR (fnOf e.fs) e.inp e.fuel callF (e.fuel + 1) { s with calls := [freshC f args] }) := by
  intro w s tA tc x A cc args n f h hg hf hpar hn hn8 hv hl hAp hst
  dsimp only
  rw [hf]
  dsimp only
  obtain ⟨RES, hRES⟩ : ∃ R, frameR (fnOf e.fs) e.inp e.fuel callF (e.fuel + 1) { s with calls := [freshC f args] } = R := ⟨_, rfl⟩
  rw [hRES]
  obtain ⟨k, hk, hfk⟩ : ∃ k : Nat, fAt e.fs x = (k : Int) ∧ e.fs[k]? = some f := by
    rcases find_atN MFn.name x e.fs 0 with ⟨_, h2⟩ | ⟨k, o, h1, h2, h3⟩
    · unfold fnOf at hf; rw [h2] at hf; cases hf
    · refine ⟨k, by unfold fAt; rw [h1, Nat.zero_add], ?_⟩
      unfold fnOf at hf
      rw [h3] at hf
      cases hf
      exact h2
  have hkl := (List.getElem?_eq_some_iff.1 hfk).1
  obtain ⟨fg, fo, hFA, hfg, hfc⟩ := ok.fns.2.2 (by omega)
  have hFO := ok.mid.ok f (fnOf_mem hf)
  have hrg := hFO.regs
  have hpr := hFO.params
  have hfn1000 := ok.mid.fn
  obtain ⟨W1, hW1⟩ : ∃ W1, w.setCell ⟨e.p, 5, none⟩ (.int .i64 ((calls : Int) + 1)) = W1 := ⟨_, rfl⟩
  have hC1 : Chg [e.p] w W1 := by rw [← hW1]; exact (Chg.refl _ w).setCell e.p 5 _ (.inl (List.mem_singleton.2 rfl))
  have hM1 : McAt W1 e.p (e.mc (calls + 1) 0 s tA tc) := by rw [← hW1]; exact h.mc.set 5 _ _ rfl
  have hR1 : RefAt e W1 (calls + 1) 0 s tA tc := h.mach ok hC1 hM1 rfl rfl
  have HF : Hid (∀ V, Below W1.heap.size W1 V → V.cell? ⟨e.p, 0, none⟩ = some (.slice e.GA e.gs.length e.gc) ∧ V.cell? ⟨e.p, 1, none⟩ = some (.slice (some ⟨fg, fo, none⟩) e.fs.length e.fc) ∧ V.cell? ⟨fg, fo + k * 4, none⟩ = some (.string f.name) ∧ V.cell? ⟨fg, fo + k * 4 + 1, none⟩ = some (.int .i64 f.params) ∧ V.cell? ⟨fg, fo + k * 4 + 2, none⟩ = some (.int .i64 f.regs) ∧ V.cell? ⟨fg, fo + k * 4 + 3, none⟩ = some (.slice f.blocksA f.blocksn f.blocksc)) := Lib.hid (fun V hV => by
    have hm := hM1.below hV
    have hb := hR1.below.trans (hV.mono hR1.below.size)
    have c1 : V.cell? ⟨e.p, 1, none⟩ = some (.slice e.FA e.fs.length e.fc) := hm.c1
    rw [hFA] at c1
    exact ⟨hm.c0, c1, (hb.cell (p := ⟨fg, fo + k * 4, none⟩) hfg).trans (hfc k f hfk 0 _ rfl), (hb.cell (p := ⟨fg, fo + k * 4 + 1, none⟩) hfg).trans (hfc k f hfk 1 _ rfl), (hb.cell (p := ⟨fg, fo + k * 4 + 2, none⟩) hfg).trans (hfc k f hfk 2 _ rfl), (hb.cell (p := ⟨fg, fo + k * 4 + 3, none⟩) hfg).trans (hfc k f hfk 3 _ rfl)⟩)
  have HFA : Hid (∀ V, Below W1.heap.size W1 V → Calls Try.prog 24 #[.agg #[.slice e.GA e.gs.length e.gc, .slice (some ⟨fg, fo, none⟩) e.fs.length e.fc], .string x] V fun en w' => en = .returned (.int .i64 (k : Int)) ∧ Below V.heap.size V w') := Lib.hid (fun V hV => by
    have hf' := ok.fns.below (hR1.below.trans (hV.mono hR1.below.size))
    have := fAt_any V e.GA e.FA e.gs.length e.gc e.fs.length e.fc e.fs hf' (by omega) x
    rw [hk, hFA] at this
    exact this)
  have c5 : w.cell? ⟨e.p, 5, none⟩ = some (.int .i64 (calls : Int)) := h.mc.c5
  have f5 := h.mc.free 5
  have hc32 : ((calls : Int) == 32) = false := by simp; omega
  have hc31 : (calls : Int) ≤ 31 := by omega
  have hc0 : (0 : Int) ≤ (calls : Int) := by omega
  have hkn : (k : Int) < (e.fs.length : Int) := by omega
  have hk0 : (0 : Int) ≤ (k : Int) := by omega
  have hkb : (e.fs.length : Int) ≤ 1000 := by omega
  obtain ⟨nr, hnr⟩ : ∃ nr : Nat, f.regs = (nr : Int) := ⟨f.regs.toNat, by omega⟩
  have hnn : n ≤ nr := by omega
  have hnr4 : nr ≤ 4096 := by omega
  have hmk := make_words nr nr (Nat.le_refl _) (by omega)
  have HR1 := Lib.hid hR1
  have HC1 := Lib.hid hC1
  have HOK := Lib.hid ok
  have HCM := Lib.hid hC
  have HGR := Lib.hid hg
  have HFN := Lib.hid (And.intro hFO (And.intro hRES (And.intro hn (And.intro hv (And.intro hst (And.intro hpar hnr))))))
  have HLN := Lib.hid (And.intro (hl.chg hC1 (fun b hb hm => (hAp b hb).p (List.mem_singleton.1 hm))) hAp)
  have hfin : f.In e.w0 := ok.fns.2.1 f (List.mem_of_getElem? hfk)
  have HFP : Hid (FnP e.w0 ⟨fg, fo + k * 4, none⟩ f) := Lib.hid ⟨fg, fo + k * 4, rfl, hfg, hfin, fun j v hj => hfc k f hfk j v hj⟩
  have HW := Lib.hid h
  clear hnr hAp hf hk hfk hfc hfg hFA hFO hrg hpr hfn1000 hC1 hM1 hR1 h hg hpar hv hl hst hC ok hRES hfin hkl
  go_enter Try.func21, Try.ntmps21
  go_upto_region 5 with fail
  clear c5 f5 hc32 hc31 hc0 hW1
  go_cut [7] from 31 to 43 (fun v wx => ∃ fb, v = .pointer (some ⟨fb, 0, none⟩) ∧ Hid (Below W1.heap.size W1 wx ∧ FnBox wx fb f ∧ W1.heap.size ≤ fb))
  case first =>
    obtain ⟨V0, hV0e⟩ : ∃ V, W1.drew = V := ⟨_, rfl⟩
    have hV0 : Below W1.heap.size W1 V0 := by rw [← hV0e]; exact (Below.refl _ _).drew
    refine wp_region_held_drew (S := fun w' => Below W1.heap.size W1 w') (by kernel_rfl) (Below.refl _ _).drew (fun _ => ?_)
    rw [hV0e]
    clear hV0e
    refine takeH 0 31 (v := (.pointer (some ⟨e.p, 0, none⟩))) rfl rfl (by kernel_rfl) (by kernel_rfl) (by kernel_rfl) (fun _ _ _ h => h) (by rfl) ?_ hV0 ?_
    · intro w hSw
      go_simp
    try simp only [Act.put, List.setIfInBounds_toArray, List.set_cons_zero, List.set_cons_succ]
    refine takeH 1 32 (v := (.pointer (some ⟨e.p, 0, none⟩))) rfl rfl (by kernel_rfl) (by kernel_rfl) (by kernel_rfl) (fun _ _ _ h => h) (by rfl) ?_ hV0 ?_
    · intro w hSw
      go_simp
    try simp only [Act.put, List.setIfInBounds_toArray, List.set_cons_zero, List.set_cons_succ]
    refine takeH 2 33 (v := (.pointer (some ⟨e.p, 0, none⟩))) rfl rfl (by kernel_rfl) (by kernel_rfl) (by kernel_rfl) (fun _ _ _ h => h) (by rfl) ?_ hV0 ?_
    · intro w hSw
      go_simp
    try simp only [Act.put, List.setIfInBounds_toArray, List.set_cons_zero, List.set_cons_succ]
    refine takeH 3 34 (v := (.pointer (some ⟨e.p, 1, none⟩))) rfl rfl (by kernel_rfl) (by kernel_rfl) (by kernel_rfl) (fun _ _ _ h => h) (by rfl) ?_ hV0 ?_
    · intro w hSw
      go_simp
    try simp only [Act.put, List.setIfInBounds_toArray, List.set_cons_zero, List.set_cons_succ]
    refine takeH 4 35 (v := (.slice (some ⟨fg, fo, none⟩) e.fs.length e.fc)) rfl rfl (by kernel_rfl) (by kernel_rfl) (by kernel_rfl) (fun _ _ _ h => h) (by rfl) ?_ hV0 ?_
    · intro w hSw
      obtain ⟨y0, y1, y2, y3, y4, y5⟩ := HF.out w hSw
      go_simp
    try simp only [Act.put, List.setIfInBounds_toArray, List.set_cons_zero, List.set_cons_succ]
    refine takeH 5 36 (v := (.pointer (some ⟨e.p, 0, none⟩))) rfl rfl (by kernel_rfl) (by kernel_rfl) (by kernel_rfl) (fun _ _ _ h => h) (by rfl) ?_ hV0 ?_
    · intro w hSw
      go_simp
    try simp only [Act.put, List.setIfInBounds_toArray, List.set_cons_zero, List.set_cons_succ]
    refine takeH 6 37 (v := (.pointer (some ⟨e.p, 0, none⟩))) rfl rfl (by kernel_rfl) (by kernel_rfl) (by kernel_rfl) (fun _ _ _ h => h) (by rfl) ?_ hV0 ?_
    · intro w hSw
      go_simp
    try simp only [Act.put, List.setIfInBounds_toArray, List.set_cons_zero, List.set_cons_succ]
    refine takeH 7 38 (v := (.pointer (some ⟨e.p, 0, none⟩))) rfl rfl (by kernel_rfl) (by kernel_rfl) (by kernel_rfl) (fun _ _ _ h => h) (by rfl) ?_ hV0 ?_
    · intro w hSw
      go_simp
    try simp only [Act.put, List.setIfInBounds_toArray, List.set_cons_zero, List.set_cons_succ]
    refine takeH 8 39 (v := (.agg #[.slice e.GA e.gs.length e.gc, .slice (some ⟨fg, fo, none⟩) e.fs.length e.fc])) rfl rfl (by kernel_rfl) (by kernel_rfl) (by kernel_rfl) (fun _ _ _ h => h) (by rfl) ?_ hV0 ?_
    · intro w hSw
      obtain ⟨y0, y1, y2, y3, y4, y5⟩ := HF.out w hSw
      go_simp
    try simp only [Act.put, List.setIfInBounds_toArray, List.set_cons_zero, List.set_cons_succ]
    refine takeH 9 40 (v := (.string x)) rfl rfl (by kernel_rfl) (by kernel_rfl) (by kernel_rfl) (fun _ _ _ h => h) (by rfl) ?_ hV0 ?_
    · intro w hSw
      go_simp
    try simp only [Act.put, List.setIfInBounds_toArray, List.set_cons_zero, List.set_cons_succ]
    refine wpAnyH_ready (rs := [10, 13]) (by kernel_rfl) (by simp) ?_
    refine AllReadyH.cons rfl (fun K hK => ?_) ?_
    · go_simp
      have HCALL := Lib.hid (HFA.out V0 hV0)
      go_at_call 24
      with_reducible refine HCALL.out.mono ?_
      rintro e V1 ⟨rfl, hb⟩
      have hV1 := hV0.trans (hb.mono hV0.size)
      try go_wp2_with fail
      refine hK.out _ _ hV1 (fun _ => ?_)
      clear hK K HCALL
      try simp only [Act.put, List.setIfInBounds_toArray, List.set_cons_zero, List.set_cons_succ]
      refine takeH 11 42 (v := (.pointer (some ⟨fg, fo + k * 4, none⟩))) rfl rfl (by kernel_rfl) (by kernel_rfl) (by kernel_rfl) (fun _ _ _ h => h) (by rfl) ?_ hV1 ?_
      · intro w hSw
        go_simp
      try simp only [Act.put, List.setIfInBounds_toArray, List.set_cons_zero, List.set_cons_succ]
      refine takeH 12 43 (v := (.agg #[.string f.name, .int .i64 f.params, .int .i64 f.regs, .slice f.blocksA f.blocksn f.blocksc])) rfl rfl (by kernel_rfl) (by kernel_rfl) (by kernel_rfl) (fun _ _ _ h => h) (by rfl) ?_ hV1 ?_
      · intro w hSw
        obtain ⟨y0, y1, y2, y3, y4, y5⟩ := HF.out w hSw
        go_simp
      try simp only [Act.put, List.setIfInBounds_toArray, List.set_cons_zero, List.set_cons_succ]
      refine wpAnyH_ready (rs := [13]) (by kernel_rfl) (by simp) ?_
      refine AllReadyH.cons rfl (fun K hK => ?_) ?_
      · go_simp
        have hbA : Below V1.heap.size V1 (V1.alloc (.cells #[.string ⟨#[]⟩, .int .i64 0, .int .i64 0, .slice none 0 0] 47)) := (Below.refl _ _).alloc (Nat.le_refl _) _
        have kV2a7 := heap_alloc_new V1 (.cells #[.string ⟨#[]⟩, .int .i64 0, .int .i64 0, .slice none 0 0] 47)
        have ga7 := hV1.size
        have hV2 := hV1.trans (hbA.mono hV1.size)
        refine hK.out _ _ hV2 (fun _ => ?_)
        clear hK K hbA
        try simp only [Act.put, List.setIfInBounds_toArray, List.set_cons_zero, List.set_cons_succ]
        generalize V1.alloc (.cells #[.string ⟨#[]⟩, .int .i64 0, .int .i64 0, .slice none 0 0] 47) = V2 at *
        generalize V1.heap.size = a7 at *
        obtain ⟨r0, r1, r2, r3⟩ := row4 kV2a7
        have x0 := frozen_of_row V2 a7 0 _ _ kV2a7
        have x1 := frozen_of_row V2 a7 1 _ _ kV2a7
        have x2 := frozen_of_row V2 a7 2 _ _ kV2a7
        have x3 := frozen_of_row V2 a7 3 _ _ kV2a7
        obtain ⟨X1, eX1, kX1, cX1⟩ := set4 kV2a7 (.string f.name) (.int .i64 f.params) (.int .i64 f.regs) (.slice f.blocksA f.blocksn f.blocksc)
        have hX1 := hV2.trans (cX1.toBelow (fun k hk => by rw [List.mem_singleton] at hk; rw [hk]; exact ga7) hV2.size)
        refine wpAnyH_ready (rs := [14]) (by kernel_rfl) (by simp) ?_
        refine AllReadyH.cons rfl (fun K hK => ?_) AllReadyH.nil
        go_simp
        try rw [eX1]
        refine hK.out _ _ hX1 (fun _ => ?_)
        clear hK K
        try simp only [Act.put, List.setIfInBounds_toArray, List.set_cons_zero, List.set_cons_succ]
        refine wpAnyH_done (by kernel_rfl) ?_ _
        go_wp2_with fail
        go_meet
        exact ⟨a7, rfl, Lib.hid ⟨hX1, kX1, ga7⟩⟩
      exact AllReadyH.nil
    refine AllReadyH.cons rfl (fun K hK => ?_) ?_
    · go_simp
      have hbA : Below V0.heap.size V0 (V0.alloc (.cells #[.string ⟨#[]⟩, .int .i64 0, .int .i64 0, .slice none 0 0] 47)) := (Below.refl _ _).alloc (Nat.le_refl _) _
      have kV3a7 := heap_alloc_new V0 (.cells #[.string ⟨#[]⟩, .int .i64 0, .int .i64 0, .slice none 0 0] 47)
      have ga7 := hV0.size
      have hV3 := hV0.trans (hbA.mono hV0.size)
      refine hK.out _ _ hV3 (fun _ => ?_)
      clear hK K hbA
      try simp only [Act.put, List.setIfInBounds_toArray, List.set_cons_zero, List.set_cons_succ]
      generalize V0.alloc (.cells #[.string ⟨#[]⟩, .int .i64 0, .int .i64 0, .slice none 0 0] 47) = V3 at *
      generalize V0.heap.size = a7 at *
      refine wpAnyH_ready (rs := [10]) (by kernel_rfl) (by simp) ?_
      refine AllReadyH.cons rfl (fun K hK => ?_) ?_
      · go_simp
        have HCALL := Lib.hid (HFA.out V3 hV3)
        go_at_call 24
        with_reducible refine HCALL.out.mono ?_
        rintro e V4 ⟨rfl, hb⟩
        have hV4 := hV3.trans (hb.mono hV3.size)
        have kV4a7 := (hb.block _ (Array.getElem?_eq_some_iff.1 kV3a7).1).trans kV3a7
        try go_wp2_with fail
        refine hK.out _ _ hV4 (fun _ => ?_)
        clear hK K HCALL
        try simp only [Act.put, List.setIfInBounds_toArray, List.set_cons_zero, List.set_cons_succ]
        refine takeH 11 42 (v := (.pointer (some ⟨fg, fo + k * 4, none⟩))) rfl rfl (by kernel_rfl) (by kernel_rfl) (by kernel_rfl) (fun _ _ _ h => h) (by rfl) ?_ hV4 ?_
        · intro w hSw
          go_simp
        try simp only [Act.put, List.setIfInBounds_toArray, List.set_cons_zero, List.set_cons_succ]
        refine takeH 12 43 (v := (.agg #[.string f.name, .int .i64 f.params, .int .i64 f.regs, .slice f.blocksA f.blocksn f.blocksc])) rfl rfl (by kernel_rfl) (by kernel_rfl) (by kernel_rfl) (fun _ _ _ h => h) (by rfl) ?_ hV4 ?_
        · intro w hSw
          obtain ⟨y0, y1, y2, y3, y4, y5⟩ := HF.out w hSw
          go_simp
        try simp only [Act.put, List.setIfInBounds_toArray, List.set_cons_zero, List.set_cons_succ]
        obtain ⟨r0, r1, r2, r3⟩ := row4 kV4a7
        have x0 := frozen_of_row V4 a7 0 _ _ kV4a7
        have x1 := frozen_of_row V4 a7 1 _ _ kV4a7
        have x2 := frozen_of_row V4 a7 2 _ _ kV4a7
        have x3 := frozen_of_row V4 a7 3 _ _ kV4a7
        obtain ⟨X1, eX1, kX1, cX1⟩ := set4 kV4a7 (.string f.name) (.int .i64 f.params) (.int .i64 f.regs) (.slice f.blocksA f.blocksn f.blocksc)
        have hX1 := hV4.trans (cX1.toBelow (fun k hk => by rw [List.mem_singleton] at hk; rw [hk]; exact ga7) hV4.size)
        refine wpAnyH_ready (rs := [14]) (by kernel_rfl) (by simp) ?_
        refine AllReadyH.cons rfl (fun K hK => ?_) AllReadyH.nil
        go_simp
        try rw [eX1]
        refine hK.out _ _ hX1 (fun _ => ?_)
        clear hK K
        try simp only [Act.put, List.setIfInBounds_toArray, List.set_cons_zero, List.set_cons_succ]
        refine wpAnyH_done (by kernel_rfl) ?_ _
        go_wp2_with fail
        go_meet
        exact ⟨a7, rfl, Lib.hid ⟨hX1, kX1, ga7⟩⟩
      exact AllReadyH.nil
    exact AllReadyH.nil
  case rest =>
    obtain ⟨fb, rfl, HFB⟩ := hcut
    rename World => w2
    obtain ⟨b0, b1, b2, b3⟩ := row4 HFB.out.2.1
    rw [HFN.out.2.2.2.2.2.2] at b2
    obtain ⟨W3, hW3⟩ : ∃ W3, w2.alloc (.cells (cellsN (List.replicate nr 0)).toArray 21) = W3 := ⟨_, rfl⟩
    have hb3 : Below w2.heap.size w2 W3 := by rw [← hW3]; exact (Below.refl _ w2).alloc (Nat.le_refl _) _
    have hr3 : RegAt W3 w2.heap.size (List.replicate nr 0) := by rw [← hW3]; exact heap_alloc_new w2 _
    have hR2 := HR1.out.later HOK.out HFB.out.1
    have hap := hR2.apt HOK.out w2.heap.size (Nat.le_refl _)
    have hapF := HR1.out.apt HOK.out fb HFB.out.2.2
    have hfbl := (Array.getElem?_eq_some_iff.1 HFB.out.2.1).1
    have hbox : Box e tA w2.heap.size W3 fb #[.string f.name, .int .i64 f.params, .int .i64 f.regs, .slice f.blocksA f.blocksn f.blocksc] 47 := ⟨(hb3.block fb hfbl).trans HFB.out.2.1, hapF, by omega⟩
    have hrw : w.heap.size ≤ w2.heap.size := by have := HC1.out.size; have := HFB.out.1.size; omega
    obtain ⟨rb, hrb⟩ : ∃ rb, w2.heap.size = rb := ⟨_, rfl⟩
    rw [hrb] at hr3 hap hbox hrw
    have HB3 := Lib.hid (And.intro hr3 (And.intro hap (And.intro hbox (And.intro hrw (And.intro (hR2.later HOK.out hb3) (HC1.out.trans ((Chg.of_below HFB.out.1).trans (Chg.of_below hb3))))))))
    have HLW := Lib.hid ((HLN.out.1.below HFB.out.1).below hb3)
    clear HF HFA hr3 hap hbox hrw hR2 hb3 hapF hfbl
    have hnI : (n : Int) ≤ 8 := by omega
    have hnrI : (nr : Int) ≤ 4096 := by omega
    have hnnI : (n : Int) ≤ (nr : Int) := by omega
    go_wp2_with fail
    go_loopw [49] (fun i wr => ∃ k : Nat, k ≤ n ∧ i = .int .i64 k ∧ Hid (RegAt wr rb (args.take k ++ List.replicate (nr - k) 0) ∧ Chg [rb] W3 wr)) (fun i _ => n - (intOf i).toNat)
    case atStart => exact ⟨0, by omega, rfl, Lib.hid ⟨by simpa using HB3.out.1, Chg.refl _ _⟩⟩
    case round =>
      obtain ⟨k, hk, rfl, HI⟩ := hrel
      rcases Nat.lt_or_ge k n with hkn2 | hkn2
      · obtain ⟨v, hv⟩ : ∃ v, args[k]? = some v := ⟨_, List.getElem?_eq_getElem (by rw [hn]; exact hkn2)⟩
        obtain ⟨ab, ao, hA, hab, hac, _⟩ := HLW.out.at (by omega)
        have hne : ab ∉ [rb] := fun hm => by
          have h1 := (HLN.out.1.below HFB.out.1).lt ab (by rw [hA]; simp [blk])
          have h2 := List.mem_singleton.1 hm
          omega
        have d0 : wr.cell? ⟨ab, ao + k, none⟩ = some (.int .i32 v) := HI.out.2.read ab (ao + k) hne ((hac k (by omega)).trans (by unfold cellsN; rw [List.getElem?_map, hv]; rfl))
        have hlen : (args.take k ++ List.replicate (nr - k) (0 : Int)).length = nr := by rw [List.length_append, List.length_take, List.length_replicate]; omega
        have r1 := HI.out.1.cell k (by omega)
        have f1 := HI.out.1.free k
        have hset : (args.take k ++ List.replicate (nr - k) (0 : Int)).set k v = args.take (k + 1) ++ List.replicate (nr - (k + 1)) 0 := by
          have e1 : (args.take k).length = k := by rw [List.length_take]; omega
          rw [List.set_append_right _ _ (by omega), e1, Nat.sub_self, show nr - k = (nr - (k + 1)) + 1 by omega, List.replicate_succ, List.set_cons_zero, List.take_add_one, hv]
          simp
        have HN : Hid (RegAt (wr.setCell ⟨rb, k, none⟩ (.int .i32 v)) rb (args.take (k + 1) ++ List.replicate (nr - (k + 1)) 0) ∧ Chg [rb] W3 (wr.setCell ⟨rb, k, none⟩ (.int .i32 v))) := Lib.hid ⟨by rw [← hset]; exact HI.out.1.put k v, HI.out.2.setCell rb k _ (.inl (List.mem_singleton.2 rfl))⟩
        have hk0 : (0 : Int) ≤ (k : Int) := by omega
        have hk1 : (k : Int) < (n : Int) := by omega
        have hk2 : (k : Int) < (nr : Int) := by omega
        generalize (args.take k ++ List.replicate (nr - k) (0 : Int)).getD k 0 = v0 at *
        rw [hA]
        clear hab hac hv hset hlen hne
        go_wp2_with fail
        try rw [← hA]
        go_roundw
        case rel => exact ⟨k + 1, by omega, by go_num, HN⟩
        case measure => simp [intOf] <;> omega
      · obtain rfl : k = n := by omega
        have hregs : args.take k ++ List.replicate (nr - k) 0 = (freshC f args).regs := by
          unfold freshC
          dsimp only
          rw [HFN.out.2.2.2.2.2.2, hn, List.take_of_length_le (by omega)]
          rfl
        have hFI : FrInv e calls w tA f callF RES s.steps rb (e.fuel + 1) wr { s with calls := [freshC f args] } (freshC f args) tA tc := by
          have hk := HB3.out.2.2.2.2.1.keep HOK.out HI.out.2 (fun k hk => by rw [List.mem_singleton.1 hk]; exact HB3.out.2.1)
          have hrg := HFN.out.1.regs
          have hbn : f.blocks.length ≠ 0 := fun e1 => HFN.out.1.some (List.length_eq_zero_iff.1 e1)
          have hlenf : ((freshC f args).regs.length : Int) = f.regs := by
            unfold freshC
            dsimp only
            rw [List.length_append, List.length_replicate, hn]
            have := HFN.out.2.2.2.2.2.2
            omega
          have hcall : CallOk (fnOf e.fs) (isGl e.gs) (freshC f args) := ⟨HFN.out.1, hlenf, fun v hv => by
            rcases List.mem_append.1 hv with h1 | h1
            · exact HFN.out.2.2.2.1 v h1
            · rw [(List.mem_replicate.1 h1).2]; exact I32.zero, ⟨Int.le_refl _, by show (0 : Int) < (f.blocks.length : Int); omega⟩, fun b _ => Nat.zero_le _⟩
          refine ⟨⟨hk.below, hk.mc, hk.tr, hk.trb, hk.dbl, hk.data, hk.words⟩, rfl, rfl, ⟨⟨hcall, fun c2 h2 => (by cases h2), trivial⟩, by simp, by simp, HGR.out.words, HGR.out.tr, HGR.out.trv, HGR.out.reads⟩, by rw [← hregs]; exact HI.out.1, HB3.out.2.1, HB3.out.2.2.2.1, HFN.out.2.1, by show e.fuel - s.steps < e.fuel + 1; omega, HFN.out.2.2.2.2.1, Nat.le_refl _, ?_, fun k hk => .inl hk⟩
          have h1 : Chg [e.p] w wr := HB3.out.2.2.2.2.2.andThen HI.out.2 (fun k hk => .inr (by rw [List.mem_singleton.1 hk]; exact HB3.out.2.2.2.1))
          exact h1.weaken (fun k hk => .inl (by rw [List.mem_singleton.1 hk]; exact Ev.p_in))
        have HFI := Lib.hid hFI
        have HBX : Hid (Box e tA rb wr fb #[.string f.name, .int .i64 f.params, .int .i64 f.regs, .slice f.blocksA f.blocksn f.blocksc] 47) := Lib.hid (HB3.out.2.2.1.next (tA' := tA) (HI.out.2.weaken (fun k hk => .inl (by rw [List.mem_singleton.1 hk]; simp))) (fun k hk => .inl hk))
        have HLF : Hid ((freshC f args).regs.length = nr) := Lib.hid (by rw [← hregs, List.length_append, List.length_take, List.length_replicate, hn]; omega)
        clear hFI hregs HI
        go_wp2_with fail
        go_loopg [11] (e.fuel + 1) (fun kx v wq => ∃ kb : Nat, v = .int .i64 (kb : Int) ∧ Hid (∃ g s1 c tA1 tc1, FrInv e calls w tA f callF RES s.steps rb g wq s1 c tA1 tc1 ∧ c.block = (kb : Int) ∧ c.done = 0 ∧ c.regs.length = nr ∧ Box e tA1 rb wq fb #[.string f.name, .int .i64 f.params, .int .i64 f.regs, .slice f.blocksA f.blocksn f.blocksc] 47 ∧ e.fuel - s1.steps + 1 ≤ kx))
        case atStart =>
          exact ⟨0, rfl, Lib.hid ⟨_, _, _, tA, tc, HFI.out, rfl, rfl, HLF.out, HBX.out, by show e.fuel - s.steps + 1 ≤ e.fuel + 1; omega⟩⟩
        case round =>
          obtain ⟨kb, rfl, HI⟩ := hrel
          obtain ⟨gO, hgO⟩ : ∃ gO, gk = gO := ⟨_, rfl⟩
          rw [hgO] at HI
          have HGO := Lib.hid hgO
          obtain ⟨g, s1, c, tA1, tc1, hFI, hcb, hcd, hcn, hbx, hgk⟩ := HI.out
          have hco := hFI.callOk
          have hkb : kb < f.blocks.length := by have := hco.block; rw [hFI.fn] at this; omega
          obtain ⟨b, hb⟩ : ∃ b, f.blocks[kb]? = some b := ⟨_, List.getElem?_eq_getElem hkb⟩
          obtain ⟨fg2, fo2, _, _, hfin2, _⟩ := HFP.out
          obtain ⟨bg, bo, hbA, hbg, hbc⟩ := hfin2.blocks.2.2 (by have := hfin2.blocks.1; omega)
          have hbln := hfin2.blocks.1
          have hbR := hfin2.blocksR
          have hbin := hfin2.blocks.2.1 b (List.mem_of_getElem? hb)
          have hBl : BlP e.w0 bg (bo + kb * 5) b := ⟨hbg, hbin, fun j v hj => hbc kb b hb j v hj⟩
          have hbel := hFI.ref.below
          have hcell : ∀ j v, b.cells[j]? = some v → wr.cell? ⟨bg, bo + kb * 5 + j, none⟩ = some v := fun j v hj => (hbel.cell (p := ⟨bg, bo + kb * 5 + j, none⟩) hbg).trans (hbc kb b hb j v hj)
          have y0 : wr.cell? ⟨bg, bo + kb * 5, none⟩ = some (.slice b.insA b.insn b.insc) := hcell 0 _ rfl
          have y1 : wr.cell? ⟨bg, bo + kb * 5 + 1, none⟩ = some (.int .i64 b.kind) := hcell 1 _ rfl
          have y2 : wr.cell? ⟨bg, bo + kb * 5 + 2, none⟩ = some (.int .i64 b.a) := hcell 2 _ rfl
          have y3 : wr.cell? ⟨bg, bo + kb * 5 + 3, none⟩ = some (.int .i64 b.go) := hcell 3 _ rfl
          have y4 : wr.cell? ⟨bg, bo + kb * 5 + 4, none⟩ = some (.int .i64 b.els) := hcell 4 _ rfl
          obtain ⟨z0, z1, z2, z3⟩ := row4 hbx.heap
          rw [hbA] at z3
          have hkb0 : (0 : Int) ≤ (kb : Int) := by omega
          have hkbn : (kb : Int) < (f.blocksn : Int) := by omega
          have hbnI : (f.blocksn : Int) ≤ 9223372036854775807 := by have := hbR.1; have := hbR.2; unfold maxLen at this; omega
          obtain ⟨Wb, hWb⟩ : ∃ Wb, wr.alloc (.cells #[.slice b.insA b.insn b.insc, .int .i64 b.kind, .int .i64 b.a, .int .i64 b.go, .int .i64 b.els] 41) = Wb := ⟨_, rfl⟩
          have hbb : Below wr.heap.size wr Wb := by rw [← hWb]; exact (Below.refl _ wr).alloc (Nat.le_refl _) _
          have hvb : Wb.heap[wr.heap.size]? = some (.cells #[.slice b.insA b.insn b.insc, .int .i64 b.kind, .int .i64 b.a, .int .i64 b.go, .int .i64 b.els] 41 (0, 0)) := by rw [← hWb]; exact heap_alloc_new wr _
          have hbxb : Box e tA1 rb Wb wr.heap.size #[.slice b.insA b.insn b.insc, .int .i64 b.kind, .int .i64 b.a, .int .i64 b.go, .int .i64 b.els] 41 := ⟨hvb, hFI.ref.apt HOK.out _ (Nat.le_refl _), by have := hFI.reg.lt; omega⟩
          obtain ⟨bb, hbbe⟩ : ∃ bb, wr.heap.size = bb := ⟨_, rfl⟩
          rw [hbbe] at hbxb
          obtain ⟨u0, u1, u2, u3, u4⟩ := row5 hbxb.heap
          have HIN : Hid (∃ g s1 c tA1 tc1, FrInv e calls w tA f callF RES s.steps rb g Wb s1 c tA1 tc1 ∧ c.block = (kb : Int) ∧ c.done = 0 ∧ c.regs.length = nr ∧ Box e tA1 rb Wb fb #[.string f.name, .int .i64 f.params, .int .i64 f.regs, .slice f.blocksA f.blocksn f.blocksc] 47 ∧ Box e tA1 rb Wb bb #[.slice b.insA b.insn b.insc, .int .i64 b.kind, .int .i64 b.a, .int .i64 b.go, .int .i64 b.els] 41 ∧ e.fuel - s1.steps + 1 ≤ gO) := Lib.hid ⟨g, s1, c, tA1, tc1, hFI.later HOK.out hbb, hcb, hcd, hcn, hbx.later hbb, hbxb, hgk⟩
          have HBL := Lib.hid hBl
          have HBK := Lib.hid hb
          have hil : b.ins.length = b.insn ∧ b.insn ≤ 9223372036854775807 := hBl.insn
          have hinI : (b.insn : Int) ≤ 9223372036854775807 := by omega
          have HIL := Lib.hid hil.1
          clear hgO hFI hcb hcd hcn hbx hgk HI hco hkb hb hfin2 hbg hbc hbln hbR hbin hBl hbel hcell hbb hvb hbxb hil
          go_upto_block 4 with fail
          clear hWb y0 y1 y2 y3 y4 z0 z1 z2 z3
          go_cut [14, 67] from 68 to 84 (fun u v wx => Hid (∃ g s1 c tA1 tc1, FrInv e calls w tA f callF RES s.steps rb g wx s1 c tA1 tc1 ∧ c.block = (kb : Int) ∧ c.done = b.ins.length ∧ c.regs.length = nr ∧ Box e tA1 rb wx fb #[.string f.name, .int .i64 f.params, .int .i64 f.regs, .slice f.blocksA f.blocksn f.blocksc] 47 ∧ Box e tA1 rb wx bb #[.slice b.insA b.insn b.insc, .int .i64 b.kind, .int .i64 b.a, .int .i64 b.go, .int .i64 b.els] 41 ∧ e.fuel - s1.steps + 1 ≤ gO))
          case first =>
            go_wp2_with fail
            go_loopg [67] (e.fuel + 2) (fun kx v wx => ∃ i : Nat, v = .int .i64 (i : Int) ∧ i ≤ b.insn ∧ Hid (∃ g s1 c tA1 tc1, FrInv e calls w tA f callF RES s.steps rb g wx s1 c tA1 tc1 ∧ c.block = (kb : Int) ∧ c.done = i ∧ c.regs.length = nr ∧ Box e tA1 rb wx fb #[.string f.name, .int .i64 f.params, .int .i64 f.regs, .slice f.blocksA f.blocksn f.blocksc] 47 ∧ Box e tA1 rb wx bb #[.slice b.insA b.insn b.insc, .int .i64 b.kind, .int .i64 b.a, .int .i64 b.go, .int .i64 b.els] 41 ∧ e.fuel - s1.steps + 1 ≤ gO ∧ e.fuel - s1.steps + 1 ≤ kx))
            case atStart =>
              refine ⟨0, rfl, Nat.zero_le _, Lib.hid ?_⟩
              obtain ⟨g, s1, c, tA1, tc1, h1, h2, h3, h4, h5, h6, h7⟩ := HIN.out
              exact ⟨g, s1, c, tA1, tc1, h1, h2, h3, h4, h5, h6, h7, by omega⟩
            case round =>
              obtain ⟨i, rfl, hi, HI⟩ := hrel
              rcases Nat.lt_or_ge i b.insn with hib | hib
              · obtain ⟨g, s1, c, tA1, tc1, hFI, hcb, hcd, hcn, hbx, hbx2, hgk1, hgk2⟩ := HI.out
                obtain ⟨xx, hx⟩ : ∃ xx, b.ins[i]? = some xx := ⟨_, List.getElem?_eq_getElem (by rw [HIL.out]; exact hib)⟩
                obtain ⟨ig, io, hiA, _, hInP⟩ := HBL.out.ins hx
                have hcell : ∀ j v, xx.cells[j]? = some v → wr.cell? ⟨ig, io + i * 8 + j, none⟩ = some v := fun j v hj => (hFI.ref.below.cell (p := ⟨ig, io + i * 8 + j, none⟩) hInP.1).trans (hInP.2.2 j v hj)
                have t0 : wr.cell? ⟨ig, io + i * 8, none⟩ = some (.int .i64 xx.kind) := hcell 0 _ rfl
                have t1 : wr.cell? ⟨ig, io + i * 8 + 1, none⟩ = some (.int .i64 xx.op) := hcell 1 _ rfl
                have t2 : wr.cell? ⟨ig, io + i * 8 + 2, none⟩ = some (.int .i64 xx.d) := hcell 2 _ rfl
                have t3 : wr.cell? ⟨ig, io + i * 8 + 3, none⟩ = some (.int .i64 xx.a) := hcell 3 _ rfl
                have t4 : wr.cell? ⟨ig, io + i * 8 + 4, none⟩ = some (.int .i64 xx.b) := hcell 4 _ rfl
                have t5 : wr.cell? ⟨ig, io + i * 8 + 5, none⟩ = some (.int .i32 xx.num) := hcell 5 _ rfl
                have t6 : wr.cell? ⟨ig, io + i * 8 + 6, none⟩ = some (.string xx.name) := hcell 6 _ rfl
                have t7 : wr.cell? ⟨ig, io + i * 8 + 7, none⟩ = some (.slice xx.argsA xx.argsn xx.argsc) := hcell 7 _ rfl
                obtain ⟨W4, xb, hW4, hxb, hB4, hx4⟩ := InBox.new wr xx
                have hFI4 := hFI.later HOK.out hB4
                have hxp : xb ≠ e.p := by have := hFI.ref.mc.lt; omega
                have hi0 : (0 : Int) ≤ (i : Int) := by omega
                have hiI : (i : Int) < (b.insn : Int) := by omega
                have HF4 := Lib.hid hFI4
                have HX4 := Lib.hid hx4
                have HB4 := Lib.hid hB4
                have HBX := Lib.hid (And.intro (hbx.later hB4) (hbx2.later hB4))
                have HK4 := Lib.hid (And.intro hcb (And.intro hcd (And.intro hcn (And.intro hgk1 (And.intro hgk2 (And.intro hx hInP))))))
                by_cases hst : e.fuel ≤ s1.steps
                · have HST := Lib.hid (mstep_open W4 e.p _ hFI4.ref.mc rfl (show (e.fuel : Int) ≤ (s1.steps : Int) by omega))
                  have HSS := Lib.hid hst
                  rw [hiA]
                  clear hFI hcb hcd hcn hbx hbx2 hgk1 hgk2 hx hInP hcell hB4 hx4 hFI4 hst HI
                  go_wp2_with fail
                  refine HST.out.mono ?_
                  rintro en w5 ⟨rfl, hm5, hc5⟩
                  have HOUT := Lib.hid (HF4.out.noStep HOK.out HSS.out hm5 hc5)
                  clear hm5 hc5
                  go_wp2_with fail
                  go_ret
                  exact HOUT.out
                · have hst2 : s1.steps < e.fuel := by omega
                  have hfu := HOK.out.fuel
                  have HST := Lib.hid (mstep_go W4 e.p _ hFI4.ref.mc rfl (show (s1.steps : Int) < (e.fuel : Int) by omega) (show s1.steps ≤ 100000 by omega))
                  have HSS := Lib.hid hst2
                  rw [hiA]
                  clear hFI hcb hcd hcn hbx hbx2 hgk1 hgk2 hx hInP hcell hB4 hx4 hFI4 hst hst2 hfu HI
                  go_wp2_with fail
                  refine HST.out.mono ?_
                  rintro en w5 ⟨rfl, hm5, hc5⟩
                  have hx5 : InBox w5 xb xx := HX4.out.same (hc5.same xb HX4.out.lt (by simpa using hxp))
                  have x0 := hx5.c0
                  have x1 := hx5.c1
                  have x2 := hx5.c2
                  have x3 := hx5.c3
                  have x4 := hx5.c4
                  have x5 := hx5.c5
                  have x6 := hx5.c6
                  have x7 := hx5.c7
                  have hbW4 := HF4.out.ref.below
                  have hbW5 := (HF4.out.ref.mach HOK.out hc5 hm5 (s' := { s1 with steps := s1.steps + 1 }) rfl rfl).below
                  have hid := ins_done HOK.out HCM.out HF4.out HSS.out (show f.blocks[c.block.toNat]? = some b by rw [HK4.out.1, Int.toNat_natCast]; exact HBK.out) (show b.ins[c.done]? = some xx by rw [HK4.out.2.1]; exact HK4.out.2.2.2.2.2.1) (HK4.out.2.2.2.2.2.2.2.1.below hbW4) hm5 hc5 (HK4.out.2.2.2.2.2.2.2.1.below hbW5)
                  rw [HK4.out.2.2.1] at hid
                  have HINS := Lib.hid hid
                  unfold MIn.val at HINS
                  clear hid hx5 hm5 hc5 hbW4 hbW5 t0 t1 t2 t3 t4 t5 t6 t7 HST
                  go_wp2_with fail
                  refine HINS.out.mono ?_
                  rintro en w6 hq
                  obtain ⟨rfl, hq⟩ := hq
                  rcases hq with ⟨g', s', c', tA', tc', hFI6, hb6, hd6, hn6, hs6, hc6, hf6⟩ | ⟨k, calls', s', tA', tc', hk1, hR, hOut⟩
                  · have c6 : w6.cell? ⟨e.p, 6, none⟩ = some (.int .i64 0) := hFI6.ref.mc.c6
                    have HN6 : Hid (∃ g s1 c tA1 tc1, FrInv e calls w tA f callF RES s.steps rb g w6 s1 c tA1 tc1 ∧ c.block = (kb : Int) ∧ c.done = i + 1 ∧ c.regs.length = nr ∧ Box e tA1 rb w6 fb #[.string f.name, .int .i64 f.params, .int .i64 f.regs, .slice f.blocksA f.blocksn f.blocksc] 47 ∧ Box e tA1 rb w6 bb #[.slice b.insA b.insn b.insc, .int .i64 b.kind, .int .i64 b.a, .int .i64 b.go, .int .i64 b.els] 41 ∧ e.fuel - s1.steps + 1 ≤ gO ∧ e.fuel - s1.steps + 1 ≤ e.fuel - s'.steps + 1) := Lib.hid ⟨g', s', c', tA', tc', hFI6, hb6.trans HK4.out.1, hd6.trans (by rw [HK4.out.2.1]), hn6, HBX.out.1.next hc6 hf6, HBX.out.2.next hc6 hf6, by have := HK4.out.2.2.2.1; omega, Nat.le_refl _⟩
                    have hlt6 : e.fuel - s'.steps + 1 < gk := by have h1 := HK4.out.2.2.2.2.1; have h2 := HSS.out; have h3 := hFI6.st; omega
                    obtain ⟨kk, hkk⟩ : ∃ kk, e.fuel - s'.steps + 1 = kk := ⟨_, rfl⟩
                    rw [hkk] at HN6 hlt6
                    clear hFI6 hb6 hd6 hn6 hs6 hc6 hf6 hkk HINS x0 x1 x2 x3 x4 x5 x6 x7
                    go_wp2_with fail
                    try rw [← hiA]
                    go_roundg kk
                    case measure => exact hlt6
                    case rel => exact ⟨i + 1, by go_num, by omega, HN6⟩
                  · have c6 : w6.cell? ⟨e.p, 6, none⟩ = some (.int .i64 k) := hR.mc.c6
                    have hk0 : (k != 0) = true := by simp; omega
                    have HOUT := Lib.hid hOut
                    clear hR hOut HINS x0 x1 x2 x3 x4 x5 x6 x7
                    go_wp2_with fail
                    go_ret
                    exact HOUT.out
              · obtain rfl : i = b.insn := by omega
                go_wp2_with fail
                go_meet
                refine Lib.hid ?_
                obtain ⟨g, s1, c, tA1, tc1, h1, h2, h3, h4, h5, h6, h7, _⟩ := HI.out
                exact ⟨g, s1, c, tA1, tc1, h1, h2, by rw [h3, HIL.out], h4, h5, h6, h7⟩
          case rest =>
            rename World => wy
            obtain ⟨g, s1, c, tA1, tc1, hFI, hcb, hcd, hcn, hbx, hbx2, hgk⟩ := hcut.out
            have hbf : f.blocks[c.block.toNat]? = some b := by rw [hcb, Int.toNat_natCast]; exact HBK.out
            have hnone : b.ins[c.done]? = none := List.getElem?_eq_none (by omega)
            have HF4 := Lib.hid hFI
            have HBX := Lib.hid (And.intro hbx hbx2)
            have HK4 := Lib.hid (And.intro hbf (And.intro hnone (And.intro hcn hgk)))
            by_cases hst : e.fuel ≤ s1.steps
            · have HST := Lib.hid (mstep_open wy e.p _ hFI.ref.mc rfl (show (e.fuel : Int) ≤ (s1.steps : Int) by omega))
              have HSS := Lib.hid hst
              clear hFI hcb hcd hcn hbx hbx2 hgk hbf hnone hst HIN hcut
              go_wp2_with fail
              refine HST.out.mono ?_
              rintro en w5 ⟨rfl, hm5, hc5⟩
              have HOUT := Lib.hid (HF4.out.noStep HOK.out HSS.out hm5 hc5)
              clear hm5 hc5
              go_wp2_with fail
              go_ret
              exact HOUT.out
            · have hst2 : s1.steps < e.fuel := by omega
              have hfu := HOK.out.fuel
              have HST := Lib.hid (mstep_go wy e.p _ hFI.ref.mc rfl (show (s1.steps : Int) < (e.fuel : Int) by omega) (show s1.steps ≤ 100000 by omega))
              have HSS := Lib.hid hst2
              have hok := hFI.callOk
              have hblk := hok.fn.bl b (by rw [hFI.fn]; exact List.mem_of_getElem? hbf)
              have hrl := hok.regs
              have hreg := hFI.reg
              have hapt := hFI.apt
              rw [hFI.fn] at hblk
              rw [hFI.fn] at hrl
              have HBO := Lib.hid (And.intro hblk (And.intro hrl (And.intro hreg hapt)))
              clear hFI hcb hcd hcn hbx hbx2 hgk hbf hnone hst hst2 hfu hok hblk hrl hreg hapt HIN hcut
              go_wp2_with fail
              refine HST.out.mono ?_
              rintro en w5 ⟨rfl, hm5, hc5⟩
              have HM5 := Lib.hid (And.intro hm5 hc5)
              obtain ⟨v0, v1, v2, v3, v4⟩ := row5 (HBX.out.2.mach hc5).heap
              have hgo : ∀ (t : Int) (ht : 0 ≤ t), endP { s1 with steps := s1.steps + 1 } c [] b = .go (({ s1 with steps := s1.steps + 1 } : PS).top { c with block := t, done := 0 } []) → ∃ kb : Nat, t = (kb : Int) ∧ Hid (∃ g s1 c tA1 tc1, FrInv e calls w tA f callF RES s.steps rb g w5 s1 c tA1 tc1 ∧ c.block = (kb : Int) ∧ c.done = 0 ∧ c.regs.length = nr ∧ Box e tA1 rb w5 fb #[.string f.name, .int .i64 f.params, .int .i64 f.regs, .slice f.blocksA f.blocksn f.blocksc] 47 ∧ e.fuel - s1.steps + 1 ≤ gO - 1) := fun t ht he => by
                refine ⟨t.toNat, by omega, Lib.hid ⟨g - 1, _, _, tA1, tc1, HF4.out.goto HOK.out HSS.out HK4.out.1 HK4.out.2.1 hm5 hc5 t he, by show t = _; omega, rfl, HK4.out.2.2.1, HBX.out.1.mach hc5, ?_⟩⟩
                have h1 := HK4.out.2.2.2
                have h2 := HSS.out
                show e.fuel - (s1.steps + 1) + 1 ≤ gO - 1
                omega
              have hgk1 : gO - 1 < gk := by have h1 := HK4.out.2.2.2; have h2 := HSS.out; rw [HGO.out]; omega
              clear hm5 hc5 HST
              rcases HBO.out.1 with ⟨hk, hg0, hgl⟩ | ⟨hk, hg0, hgl, he0, hel, ha0, hal⟩ | ⟨hk, ha0, hal⟩
              · obtain ⟨kb2, hkb2, HN⟩ := hgo b.go hg0 (by unfold endP; rw [if_pos hk])
                rw [hk] at v1
                rw [hkb2] at v3
                clear hgo hk hg0 hgl hkb2
                go_wp2_with fail
                go_roundg (gO - 1)
                case measure => exact hgk1
                case rel => exact ⟨kb2, rfl, HN⟩
              · obtain ⟨j, hj⟩ : ∃ j : Nat, b.a = (j : Int) := ⟨b.a.toNat, by omega⟩
                have hjn : j < nr := by have := HBO.out.2.1; have := HK4.out.2.2.1; omega
                have hjn2 : (j : Int) < (nr : Int) := by omega
                have hj0 : (0 : Int) ≤ (j : Int) := by omega
                have hrg5 := HBO.out.2.2.1.chg HM5.out.2 (by simpa using HBO.out.2.2.2.p)
                have r1 := hrg5.cell j (by rw [HK4.out.2.2.1]; exact hjn)
                have hget : c.get b.a = c.regs.getD j 0 := get_nat hj
                rw [hk] at v1
                rw [hj] at v2
                by_cases hz : c.regs.getD j 0 = 0
                · obtain ⟨kb2, hkb2, HN⟩ := hgo b.els he0 (by unfold endP; rw [if_neg (by omega), if_pos hk, if_neg (by rw [hget]; exact fun h => h hz)])
                  rw [hz] at r1
                  rw [hkb2] at v4
                  clear hgo hk hg0 hgl hkb2 he0 hel ha0 hal hget hrg5 hz hj
                  go_wp2_with fail
                  go_roundg (gO - 1)
                  case measure => exact hgk1
                  case rel => exact ⟨kb2, rfl, HN⟩
                · obtain ⟨kb2, hkb2, HN⟩ := hgo b.go hg0 (by unfold endP; rw [if_neg (by omega), if_pos hk, if_pos (by rw [hget]; exact hz)])
                  have hz2 : (c.regs.getD j 0 != 0) = true := by simp; simpa using hz
                  generalize c.regs.getD j 0 = vz at *
                  rw [hkb2] at v3
                  clear hgo hk hg0 hgl hkb2 he0 hel ha0 hal hget hrg5 hj
                  go_wp2_with fail
                  go_roundg (gO - 1)
                  case measure => exact hgk1
                  case rel => exact ⟨kb2, rfl, HN⟩
              · obtain ⟨j, hj⟩ : ∃ j : Nat, b.a = (j : Int) := ⟨b.a.toNat, by omega⟩
                have hjn : j < nr := by have := HBO.out.2.1; have := HK4.out.2.2.1; omega
                have hjn2 : (j : Int) < (nr : Int) := by omega
                have hj0 : (0 : Int) ≤ (j : Int) := by omega
                have hget : c.get b.a = c.regs.getD j 0 := get_nat hj
                obtain ⟨q, hq⟩ : ∃ q : Int, ((calls + 1 : Nat) : Int) = q := ⟨_, rfl⟩
                have c5 : w5.cell? ⟨e.p, 5, none⟩ = some (.int .i64 q) := by rw [← hq]; exact HM5.out.1.c5
                have f5 := HM5.out.1.free 5
                have hq1 : q - 1 = (calls : Int) := by omega
                have hqb : 0 ≤ q ∧ q ≤ 100 := by omega
                obtain ⟨W6, hW6⟩ : ∃ W6, w5.setCell ⟨e.p, 5, none⟩ (.int .i64 (calls : Int)) = W6 := ⟨_, rfl⟩
                have hC6 : Chg [e.p] w5 W6 := by rw [← hW6]; exact (Chg.refl _ w5).setCell e.p 5 _ (.inl (List.mem_singleton.2 rfl))
                have hM6 : McAt W6 e.p (e.mc calls 0 { s1 with steps := s1.steps + 1 } tA1 tc1) := by rw [← hW6]; exact HM5.out.1.set 5 _ _ rfl
                have hr6 := (HBO.out.2.2.1.chg HM5.out.2 (by simpa using HBO.out.2.2.2.p)).chg hC6 (by simpa using HBO.out.2.2.2.p)
                have r1 := hr6.cell j (by rw [HK4.out.2.2.1]; exact hjn)
                have v2' : W6.cell? ⟨bb, 2, none⟩ = some (.int .i64 (j : Int)) := by
                  rw [← hj]
                  exact hC6.read bb 2 (by simpa using HBX.out.2.apt.p) v2
                have HOUT := Lib.hid (HF4.out.leave HOK.out HSS.out HK4.out.1 HK4.out.2.1 hk hM6 (HM5.out.2.trans hC6))
                rw [hget] at HOUT
                rw [hk] at v1
                have hqw : IntKind.i64.wrap (q - 1) = (calls : Int) := by rw [IntKind.wrap_i64]; omega
                generalize c.regs.getD j 0 = vz at *
                clear hgo hk ha0 hal hget hr6 hC6 hM6 hj hq
                go_wp2_with fail
                go_ret
                exact HOUT.out
end Go.Proofs.Ytcanjkjpdnbcnaa
namespace Go.Proofs.Ytcanjkjpdnbcnaa
open Go.RowKit
set_option linter.unusedVariables false
set_option linter.unusedSimpArgs false
set_option maxRecDepth 100000

theorem mem_all {e : Ev} (ok : EvOk e) : ∀ (d calls : Nat), calls + d = 32 → CallMem e calls (callR (fnOf e.fs) e.inp e.fuel d)
  | 0, calls, h => by
    obtain rfl : calls = 32 := by omega
    exact mem_deep ok
  | d + 1, calls, h => mem_call ok (by omega) (mem_all ok d (calls + 1) (by omega))
theorem infoRowT : (Try.prog.info? 26).map (fun i => (i.zero, i.size, i.bytes)) = some (some (.slice none 0 0), 1, 24) := by kernel_rfl
/-- A row more at the end of a line of rows. -/
theorem row_push (w : World) (A : Option Addr) (n c : Nat) (xs : List Value) (h : SLine 1 w A n c xs) (hn : n ≤ 100000) (b m : Nat) :
    ∃ A' c' w', (Builtin.append_ #[59, 59] 59 #[.slice A n c, .slice (some ⟨w.heap.size, 0, none⟩) 1 1]).run Try.prog (w.alloc (.cells #[.slice (some ⟨b, 0, none⟩) m m] 26)) = .ok (.slice A' (n + 1) c') w' ∧ SLine 1 w' A' (n + 1) c' (xs ++ [.slice (some ⟨b, 0, none⟩) m m]) ∧ Chg (blk A) w w' ∧ (∀ k ∈ blk A', k ∈ blk A ∨ w.heap.size ≤ k) ∧ A' ≠ none := by
  obtain ⟨A', c', w', h1, h2, h3, h4, h5⟩ := push_line 1 w 59 26 59 _ 24 Try.underlying59 infoRowT rfl (by decide) A n c _ h hn [.slice (some ⟨b, 0, none⟩) m m] rfl (fun u hu => by rw [List.mem_singleton] at hu; rw [hu]; rfl)
  exact ⟨A', c', w', h1, h2, h3, h4, h5⟩
end Go.Proofs.Ytcanjkjpdnbcnaa
namespace Go.Proofs.Ytcanjkjpdnbcnaa
open Go.RowKit
set_option linter.unusedVariables false
set_option linter.unusedSimpArgs false
set_option maxRecDepth 100000

/-- How many words the global at i has. -/
def zl (gs : List MGl) (i : Nat) : Nat := ((gs[i]?).map fun o => o.zeros.length).getD 0
def rowsOf (gs : List MGl) (wbs : Nat → Nat) (k : Nat) : List Value := (List.range k).map fun i => .slice (some ⟨wbs i, 0, none⟩) (zl gs i) (zl gs i)
theorem zl_at {gs : List MGl} {i : Nat} {o : MGl} (h : gs[i]? = some o) : zl gs i = o.zeros.length := by unfold zl; rw [h]; rfl
theorem rowsOf_len (gs : List MGl) (wbs : Nat → Nat) (k : Nat) : (rowsOf gs wbs k).length = k := by unfold rowsOf; rw [List.length_map, List.length_range]
theorem rowsOf_at (gs : List MGl) (wbs : Nat → Nat) (k i : Nat) (h : i < k) : (rowsOf gs wbs k)[i]? = some (.slice (some ⟨wbs i, 0, none⟩) (zl gs i) (zl gs i)) := by
  unfold rowsOf
  rw [List.getElem?_map, List.getElem?_range h]
  rfl
theorem rowsOf_more (gs : List MGl) (wbs : Nat → Nat) (k b : Nat) : rowsOf gs (fun i => if i = k then b else wbs i) (k + 1) = rowsOf gs wbs k ++ [.slice (some ⟨b, 0, none⟩) (zl gs k) (zl gs k)] := by
  unfold rowsOf
  rw [List.range_succ, List.map_append]
  congr 1
  · apply List.map_congr_left
    intro i hi
    rw [List.mem_range] at hi
    dsimp only
    rw [if_neg (by omega)]
  · simp
/-- The machine, its words made so far. -/
structure Laid12 (w2 : World) (p : Nat) (m : Mc) (gs : List MGl) (k : Nat) (wr : World) (DA : Option Addr) (dc : Nat) (wbs : Nat → Nat) : Prop where
  mc : McAt wr p { m with DA := DA, dn := k, dc := dc }
  line : SLine 1 wr DA k dc (rowsOf gs wbs k)
  words : ∀ i o, i < k → gs[i]? = some o → RegAt wr (wbs i) o.zeros
  wbw : ∀ i, i < k → w2.heap.size ≤ wbs i ∧ wbs i < wr.heap.size ∧ wbs i ∉ blk DA
  inj : ∀ i j, i < k → j < k → wbs i = wbs j → i = j
  dnew : ∀ b ∈ blk DA, w2.heap.size ≤ b
  ne : 0 < k → DA ≠ none
  chg : Chg [p] w2 wr
theorem Laid12.more {w2 : World} {p : Nat} {m : Mc} {gs : List MGl} {k : Nat} {wr : World} {DA : Option Addr} {dc : Nat} {wbs : Nat → Nat} (h : Laid12 w2 p m gs k wr DA dc wbs) (hp : p < w2.heap.size) {o : MGl} (ho : gs[k]? = some o) {V0 V1 W3 : World} {b1 : Nat} (h0 : Below wr.heap.size wr V0) (hb1 : V0.heap.size = b1) (hV1 : V0.alloc (.cells (cellsN o.zeros).toArray 21) = V1) {A' : Option Addr} {c' : Nat}
    (hl : SLine 1 W3 A' (k + 1) c' (rowsOf gs wbs k ++ [.slice (Option.some ⟨b1, 0, none⟩) o.zeros.length o.zeros.length])) (hc : Chg (blk DA) V1 W3) (hf : ∀ b ∈ blk A', b ∈ blk DA ∨ V1.heap.size ≤ b) (hne : A' ≠ none) :
    Laid12 w2 p m gs (k + 1) (W3.setCell ⟨p, 2, none⟩ (.slice A' (k + 1) c')) A' c' (fun i => if i = k then b1 else wbs i) := by
  have hB1 : Below V0.heap.size V0 V1 := by rw [← hV1]; exact (Below.refl _ V0).alloc (Nat.le_refl _) _
  have hr1 : RegAt V1 b1 o.zeros := by rw [← hV1, ← hb1]; exact heap_alloc_new V0 _
  have hs1 : V1.heap.size = V0.heap.size + 1 := by rw [← hV1]; simp
  have hBr : Below wr.heap.size wr V1 := h0.trans (hB1.mono h0.size)
  have hz0 := h0.size
  have hz2 := h.chg.size
  have hplt := h.mc.lt
  have hpD : p ∉ blk DA := fun hm => by have := h.dnew p hm; omega
  have hlD : ∀ b ∈ blk DA, b < wr.heap.size := h.line.lt
  have hm3 : McAt W3 p { m with DA := DA, dn := k, dc := dc } := (h.mc.below hBr).same (hc.same p (by omega) hpD)
  have hcX : Chg [p] W3 (W3.setCell ⟨p, 2, none⟩ (.slice A' (k + 1) c')) := (Chg.refl _ W3).setCell p 2 _ (.inl (List.mem_singleton.2 rfl))
  have hpA : p ∉ blk A' := fun hm => by rcases hf p hm with h1 | h1; exact hpD h1; omega
  have hold : ∀ i, i < k → wbs i ∉ blk A' := fun i hi hm => by
    have h1 := h.wbw i hi
    rcases hf _ hm with h2 | h2
    · exact h1.2.2 h2
    · omega
  refine ⟨hm3.set 2 _ _ rfl, ?_, fun i o2 hi ho2 => ?_, fun i hi => ?_, fun i j hi hj he => ?_, fun b hb => ?_, fun _ => hne, ?_⟩
  · rw [rowsOf_more, zl_at ho]
    exact hl.chg hcX (fun b hb hm => hpA (by rw [← List.mem_singleton.1 hm]; exact hb))
  · by_cases hik : i = k
    · subst hik
      rw [ho] at ho2
      cases ho2
      rw [if_pos rfl]
      exact (hr1.chg hc (fun hm => by have := hlD b1 hm; omega)).chg hcX (by simp; omega)
    · rw [if_neg hik]
      have h1 := h.wbw i (by omega)
      exact (((h.words i o2 (by omega) ho2).below hBr).chg hc h1.2.2).chg hcX (by simp; omega)
  · have hsz : W3.heap.size ≤ (W3.setCell ⟨p, 2, none⟩ (.slice A' (k + 1) c')).heap.size := hcX.size
    have hs3 := hc.size
    by_cases hik : i = k
    · rw [if_pos hik]
      refine ⟨by omega, by omega, fun hm => ?_⟩
      rcases hf _ hm with h2 | h2
      · have := hlD _ h2; omega
      · omega
    · rw [if_neg hik]
      have h1 := h.wbw i (by omega)
      exact ⟨h1.1, by omega, hold i (by omega)⟩
  · by_cases hik : i = k
    · by_cases hjk : j = k
      · omega
      · rw [if_pos hik, if_neg hjk] at he
        have := h.wbw j (by omega)
        omega
    · by_cases hjk : j = k
      · rw [if_neg hik, if_pos hjk] at he
        have := h.wbw i (by omega)
        omega
      · rw [if_neg hik, if_neg hjk] at he
        exact h.inj i j (by omega) (by omega) he
  · rcases hf b hb with h1 | h1
    · exact h.dnew b h1
    · omega
  · have h1 : Chg [p] w2 V1 := h.chg.trans (Chg.of_below hBr)
    have h2 : Chg [p] w2 W3 := h1.andThen hc (fun b hb => .inr (h.dnew b hb))
    exact h2.trans hcX
theorem three_new (w : World) (a b c : Obj) : ∃ W0 W1 W2, w.alloc a = W0 ∧ W0.alloc b = W1 ∧ W1.alloc c = W2 ∧ W0.heap.size = w.heap.size + 1 ∧ W1.heap.size = w.heap.size + 2 ∧ W2.heap.size = w.heap.size + 3 ∧ W1.heap[w.heap.size]? = some a ∧ W2.heap[w.heap.size]? = some a ∧ W2.heap[w.heap.size + 1]? = some b ∧ W2.heap[w.heap.size + 2]? = some c ∧ Below w.heap.size w W2 := by
  have s1 : (w.alloc a).heap.size = w.heap.size + 1 := by simp
  have s2 : ((w.alloc a).alloc b).heap.size = w.heap.size + 2 := by simp
  refine ⟨_, _, _, rfl, rfl, rfl, s1, s2, by simp, ?_, ?_, ?_, ?_, (((Below.refl w.heap.size w).alloc (Nat.le_refl _) a).alloc (by simp) b).alloc (by simp; omega) c⟩
  · rw [Lib.alloc_old _ _ _ (by omega)]; exact heap_alloc_new w a
  · rw [Lib.alloc_old _ _ _ (by omega), Lib.alloc_old _ _ _ (by omega)]; exact heap_alloc_new w a
  · rw [Lib.alloc_old _ _ _ (by omega), ← s1]; exact heap_alloc_new _ b
  · rw [← s2]; exact heap_alloc_new _ c
def mc0 (GA : Option Addr) (gn gc : Nat) (FA : Option Addr) (fn fc : Nat) (iA : Option Addr) (il ic fuel : Nat) : Mc := ⟨GA, gn, gc, FA, fn, fc, none, 0, 0, iA, il, ic, (fuel : Int), 0, 0, 0, none, 0, 0, 0, 0⟩
theorem row2 {W : World} {p : Nat} {a b : Value} {T : Nat} (h : W.heap[p]? = some (.cells #[a, b] T (0, 0))) : W.cell? ⟨p, 0, none⟩ = some a ∧ W.cell? ⟨p, 1, none⟩ = some b :=
  ⟨by rw [cell_of_row _ _ 0 _ _ (0, 0) h]; rfl, by rw [cell_of_row _ _ 1 _ _ (0, 0) h]; rfl⟩
theorem wdOf_own {gs : List MGl} {fs : List MFn} (hm : MidOk gs fs) {i : Nat} {o : MGl} (h : gs[i]? = some o) : wdOf gs o.name = o.zeros := by
  unfold wdOf
  cases hq : glOf gs o.name with
  | none =>
    exfalso
    have := List.find?_eq_none.1 hq o (List.mem_of_getElem? h)
    simp at this
  | some o2 =>
    obtain ⟨h1, j, h2⟩ := find_at hq
    obtain rfl := hm.apG j i o2 o h2 h h1
    rw [h] at h2
    cases h2
    rfl
/-- The machine, laid. -/
theorem ref_begin {w W2 wr : World} {p : Nat} {GA FA iA DA : Option Addr} {gn gc fn fc il ic fuel dc : Nat} {gs : List MGl} {fs : List MFn} {inp : List Int} {wbs : Nat → Nat} (hg : MGls w GA gn gs) (hf : MFns w FA fn fs) (hil : inp.length = il) (hI : RowK .i32 w iA il inp) (hin : il ≤ 90000) (hfu : fuel ≤ 80000) (hm : MidOk gs fs) (hi : ∀ v ∈ inp, I32 v)
    (hB : Below w.heap.size w W2) (hp : w.heap.size + 2 = p) (hs : W2.heap.size = p + 1) (hL : Laid12 W2 p (mc0 GA gn gc FA fn fc iA il ic fuel) gs gn wr DA dc wbs) :
    ∃ (e : Ev) (en : w.heap.size + 1 ∉ e.L none), e.p = p ∧ e.w0 = w ∧ Calls Try.prog 21 #[.pointer (some ⟨p, 0, none⟩), .string ⟨#[109, 97, 105, 110]⟩, .slice none 0 0] wr (CallOut e 0 wr none 0 (progC gs fs inp fuel)) := by
  have hgl : gs.length = gn := hg.1
  have hfl : fs.length = fn := hf.1
  subst hil
  subst hgl
  subst hfl
  have hz := hL.chg.size
  have hl := hL.line
  obtain ⟨db, dof, hda, hdw, hdp, hdl, hdw2, hdat⟩ : ∃ db dof, (0 < gs.length → DA = some ⟨db, dof, none⟩) ∧ w.heap.size ≤ db ∧ db ≠ p ∧ db < wr.heap.size ∧ (∀ i, i < gs.length → wbs i ≠ db) ∧ ∀ i, i < gs.length → wr.cell? ⟨db, dof + i, none⟩ = some (.slice (some ⟨wbs i, 0, none⟩) (zl gs i) (zl gs i)) := by
    rcases Nat.eq_zero_or_pos gs.length with h0 | h0
    · exact ⟨w.heap.size + 1, 0, fun h => by omega, by omega, by omega, by omega, fun i h => by omega, fun i h => by omega⟩
    · obtain ⟨g, off, e1, e2, e3, _⟩ := hl.at h0
      have hgD : g ∈ blk DA := by rw [e1]; exact List.mem_singleton.2 rfl
      have hgw := hL.dnew g hgD
      refine ⟨g, off, fun _ => e1, by omega, by omega, e2, fun i hi => fun e4 => (hL.wbw i hi).2.2 (by rw [e4]; exact hgD), fun i hi => ?_⟩
      rw [e3 i (by omega), rowsOf_at _ _ _ _ hi]
  have hBw : Below w.heap.size w wr := hB.trans (hL.chg.toBelow (fun b hb => by rw [List.mem_singleton] at hb; omega) hB.size)
  obtain ⟨f, hfm, hfp⟩ := hm.main
  have ok : EvOk ⟨w, p, GA, gc, FA, fc, gs, fs, DA, dc, db, dof, wbs, iA, ic, inp, fuel⟩ := by
    refine ⟨hm, hg, hf, hI, hi, hin, hfu, by show w.heap.size ≤ p; omega, hdw, hdp, fun i hi' => ?_, fun i j h1 h2 => hL.inj i j h1 h2, hda⟩
    have h1 := hL.wbw i hi'
    exact ⟨by show w.heap.size ≤ wbs i; omega, by show wbs i ≠ p; omega, hdw2 i hi'⟩
  have hR : RefAt ⟨w, p, GA, gc, FA, fc, gs, fs, DA, dc, db, dof, wbs, iA, ic, inp, fuel⟩ wr 0 0 ⟨wdOf gs, [], [], 0, 0⟩ none 0 := by
    refine ⟨hBw, hL.mc, SLine.nil 1 _, fun b hb => (by cases hb), hdl, fun i o ho => ?_, fun i o ho => ?_⟩
    · show wr.cell? ⟨db, dof + i, none⟩ = some (.slice (some ⟨wbs i, 0, none⟩) (wdOf gs o.name).length (wdOf gs o.name).length)
      rw [wdOf_own hm ho, ← zl_at ho]
      exact hdat i (List.getElem?_eq_some_iff.1 ho).1
    · show RegAt wr (wbs i) (wdOf gs o.name)
      rw [wdOf_own hm ho]
      exact hL.words i o (List.getElem?_eq_some_iff.1 ho).1 ho
  have hG : GoodR ⟨w, p, GA, gc, FA, fc, gs, fs, DA, dc, db, dof, wbs, iA, ic, inp, fuel⟩ ⟨wdOf gs, [], [], 0, 0⟩ := ⟨words_good hm, Nat.zero_le _, fun v hv => (by cases hv), Nat.zero_le _⟩
  refine ⟨_, fun hmem => ?_, rfl, rfl, mem_all ok 32 0 rfl wr ⟨wdOf gs, [], [], 0, 0⟩ none 0 ⟨#[109, 97, 105, 110]⟩ none 0 [] 0 f hR hG hfm (by rw [hfp]; rfl) rfl (by omega) (fun v hv => (by cases hv)) (SLine.nil 1 _) (fun b hb => (by cases hb)) (Nat.zero_le _)⟩
  unfold Ev.L at hmem
  simp only [List.mem_cons, List.mem_append, List.mem_map, List.mem_range] at hmem
  rcases hmem with h1 | ⟨i, h1, h2⟩ | h1
  · have : w.heap.size + 1 = p := h1
    omega
  · have h3 := (hL.wbw i h1).1
    have : wbs i = w.heap.size + 1 := h2
    omega
  · cases h1
set_option maxHeartbeats 6400000 in
theorem refrun_any (w : World) (GA FA : Option Addr) (gn gc fn fc : Nat) (gs : List MGl) (fs : List MFn) (hg : MGls w GA gn gs) (hf : MFns w FA fn fs) (iA : Option Addr) (ic : Nat) (inp : List Int) (il : Nat) (hil : inp.length = il) (hI : RowK .i32 w iA il inp) (hin : il ≤ 90000) (fuel : Nat) (hfu : fuel ≤ 80000)
    (hm : MidOk gs fs) (hi : ∀ v ∈ inp, I32 v) :
    Calls Try.prog 11 #[.agg #[.slice GA gn gc, .slice FA fn fc], .slice iA il ic, .int .i64 (fuel : Int)] w (RunOut w (progR gs fs inp fuel)) := by
  obtain ⟨W0, W1, W2, hW0, hW1, hW2, s0, s1, s2, k1, k2, kr, kp, hB2⟩ := three_new w (.cells #[.slice GA gn gc, .slice FA fn fc] 25) (.cells #[.int .i64 0, .int .i32 0, .slice none 0 0, .int .i64 0, .int .i64 0] 32)
    (.cells #[.slice GA gn gc, .slice FA fn fc, .slice none 0 0, .slice iA il ic, .int .i64 (fuel : Int), .int .i64 0, .int .i64 0, .int .i32 0, .slice none 0 0, .int .i64 0, .int .i64 0] 61)
  obtain ⟨v0, hv0⟩ : ∃ v0, w.heap.size = v0 := ⟨_, rfl⟩
  rw [hv0] at s0 s1 s2 k1 k2 kr kp
  obtain ⟨m0, m1⟩ := row2 k1
  obtain ⟨n0, n1⟩ := row2 k2
  have hL0 : Laid12 W2 (v0 + 2) (mc0 GA gn gc FA fn fc iA il ic fuel) gs 0 W2 none 0 (fun _ => 0) := ⟨kp, SLine.nil 1 _, fun i o hi => by omega, fun i hi => by omega, fun i j hi => by omega, fun b hb => (by cases hb), fun h => by omega, Chg.refl _ _⟩
  have HG := Lib.hid hg
  have HF := Lib.hid hf
  have HM := Lib.hid hm
  have HI := Lib.hid (And.intro hI (And.intro hi (And.intro hin (And.intro hil hfu))))
  have HB2 := Lib.hid (And.intro hB2 s2)
  have HKR := Lib.hid kr
  have HL0 := Lib.hid hL0
  have hgn1 : gn ≤ 1000 := by rw [← hg.1]; exact hm.gn
  have hgnI : (gn : Int) ≤ 1000 := by omega
  have HV0 := Lib.hid hv0
  clear hg hf hm hI hi hin hil hfu hB2 kr kp hL0 k1 k2
  go_enter Try.func11, Try.ntmps11
  go_wp2_with fail
  go_loopw [19] (fun i wr => ∃ k : Nat, k ≤ gn ∧ i = .int .i64 k ∧ Hid (∃ DA dc wbs, Laid12 W2 (v0 + 2) (mc0 GA gn gc FA fn fc iA il ic fuel) gs k wr DA dc wbs)) (fun i _ => gn - (intOf i).toNat)
  case atStart => exact ⟨0, Nat.zero_le _, rfl, Lib.hid ⟨none, 0, _, HL0.out⟩⟩
  case round =>
    obtain ⟨k, hk, rfl, HI2⟩ := hrel
    rcases Nat.lt_or_ge k gn with hlt | hge
    · obtain ⟨DA, dc, wbs, hL⟩ := HI2.out
      obtain ⟨o, ho⟩ : ∃ o, gs[k]? = some o := ⟨_, List.getElem?_eq_getElem (by rw [HG.out.1]; exact hlt)⟩
      have hoz := HM.out.sz o (List.mem_of_getElem? ho)
      obtain ⟨gb, off, hgA, hgb, hgc⟩ := HG.out.2.2 (by omega)
      have hBwr : Below w.heap.size w wr := HB2.out.1.trans (hL.chg.toBelow (fun b hb => by rw [List.mem_singleton] at hb; have := HV0.out; omega) HB2.out.1.size)
      have d0 : wr.cell? ⟨gb, off + k * 2, none⟩ = some (.string o.name) := (hBwr.cell (p := ⟨gb, off + k * 2, none⟩) hgb).trans (hgc k o ho 0 _ rfl)
      have d1 : wr.cell? ⟨gb, off + k * 2 + 1, none⟩ = some (.int .i64 o.size) := (hBwr.cell (p := ⟨gb, off + k * 2 + 1, none⟩) hgb).trans (hgc k o ho 1 _ rfl)
      obtain ⟨Wg, hWg⟩ : ∃ Wg, wr.alloc (.cells #[.string o.name, .int .i64 o.size] 63) = Wg := ⟨_, rfl⟩
      have hBg : Below wr.heap.size wr Wg := by rw [← hWg]; exact (Below.refl _ wr).alloc (Nat.le_refl _) _
      have hvg : Wg.heap[wr.heap.size]? = some (.cells #[.string o.name, .int .i64 o.size] 63 (0, 0)) := by rw [← hWg]; exact heap_alloc_new wr _
      obtain ⟨bg, hbg⟩ : ∃ bg, wr.heap.size = bg := ⟨_, rfl⟩
      have hbgD : bg ∉ blk DA := fun hm => by have := hL.line.lt bg hm; omega
      have hbgp : bg ≠ v0 + 2 := by have := hL.mc.lt; omega
      rw [hbg] at hvg
      obtain ⟨V0, hV0⟩ : ∃ V0, Wg.drew = V0 := ⟨_, rfl⟩
      have hB0 : Below wr.heap.size wr V0 := by rw [← hV0]; exact hBg.drew
      obtain ⟨mz, hmz⟩ : ∃ mz, o.zeros.length = mz := ⟨_, rfl⟩
      have hmz2 : max 1 o.size = (mz : Int) := by rw [← hmz]; unfold MGl.zeros; rw [List.length_replicate]; omega
      have hmz4 : mz ≤ 4096 := by omega
      have hoze : o.zeros = List.replicate mz 0 := by rw [← hmz]; unfold MGl.zeros; rw [List.length_replicate]
      obtain ⟨b1, hb1⟩ : ∃ b1, V0.heap.size = b1 := ⟨_, rfl⟩
      obtain ⟨V1, hV1⟩ : ∃ V1, V0.alloc (.cells (cellsN (List.replicate mz 0)).toArray 21) = V1 := ⟨_, rfl⟩
      have hB1 : Below V0.heap.size V0 V1 := by rw [← hV1]; exact (Below.refl _ V0).alloc (Nat.le_refl _) _
      obtain ⟨V2, hV2⟩ : ∃ V2, V1.alloc (.cells #[.slice (some ⟨b1, 0, none⟩) mz mz] 26) = V2 := ⟨_, rfl⟩
      have hB2' : Below V1.heap.size V1 V2 := by rw [← hV2]; exact (Below.refl _ V1).alloc (Nat.le_refl _) _
      have hBr1 := hB0.trans (hB1.mono hB0.size)
      obtain ⟨A', c', W3, hr3, hl3, hc3, hf3, hne3⟩ := row_push V1 DA k dc _ (hL.line.below hBr1) (by omega) b1 mz
      rw [hV2] at hr3
      have hmore := hL.more (by have := HB2.out.2; omega) ho hB0 hb1 (by rw [hoze]; exact hV1) (by rw [hmz]; exact hl3) hc3 hf3 hne3
      have q0 : ∀ V, Below wr.heap.size wr V → V.cell? ⟨v0 + 2, 2, none⟩ = some (.slice DA k dc) := fun V hV => (hL.mc.below hV).c2
      have p0 := q0 V0 hB0
      have p1 := q0 V1 hBr1
      have p2 := q0 V2 (hBr1.trans (hB2'.mono hBr1.size))
      have hpD : v0 + 2 ∉ blk DA := fun hm => by have := hL.dnew _ hm; have := HB2.out.2; omega
      have hm3 : McAt W3 (v0 + 2) { mc0 GA gn gc FA fn fc iA il ic fuel with DA := DA, dn := k, dc := dc } := (hL.mc.below hBr1).same (hc3.same _ (Nat.lt_of_lt_of_le hL.mc.lt hBr1.size) hpD)
      have p3 : W3.cell? ⟨v0 + 2, 2, none⟩ = some (.slice DA k dc) := hm3.c2
      have g3 : W3.frozen? ⟨v0 + 2, 2, none⟩ = false := hm3.free 2
      have hmk := make_words mz mz (Nat.le_refl _) (by omega)
      obtain ⟨L, hLL⟩ : ∃ L, (v0 + 2) :: blk DA = L := ⟨_, rfl⟩
      have hbgL : bg ∉ L := by rw [← hLL]; simp [hbgp, hbgD]
      have HFC : Hid (∀ V, Chg L V0 V → V.cell? ⟨bg, 1, none⟩ = some (.int .i64 o.size)) := Lib.hid (fun V hV => hV.read bg 1 hbgL (by rw [← hV0]; exact (row2 hvg).2))
      have hs0' : Chg L V0 V0 := Chg.refl _ _
      have hs1' : Chg L V0 V1 := Chg.of_below hB1
      have hs2' : Chg L V0 V2 := Chg.of_below (hB1.trans (hB2'.mono hB1.size))
      have hs3' : Chg L V0 W3 := hs1'.trans (hc3.weaken (fun b hb => .inl (by rw [← hLL]; simp [hb])))
      have hs4' : Chg L V0 (W3.setCell ⟨v0 + 2, 2, none⟩ (.slice A' (k + 1) c')) := hs3'.setCell _ 2 _ (.inl (by rw [← hLL]; simp))
      have HRUN := Lib.hid hr3
      have HMORE := Lib.hid hmore
      have hk0 : (0 : Int) ≤ (k : Int) := by omega
      have hkg : (k : Int) < (gn : Int) := by omega
      have hmzI : (mz : Int) ≤ 4096 := by omega
      have hmz0 : (0 : Int) ≤ (mz : Int) := by omega
      rw [hgA]
      clear hL ho hgb hgc hBwr hBg hB0 hBr1 hB1 hB2' hl3 hc3 hf3 hne3 hmore q0 hpD hm3 HI2 hoz hbgL hbgD hbgp hvg hmz hoze hLL hr3
      go_upto_block 1 with fail
      go_cut [9] from 21 to 35 (fun u wx => Hid (∃ DA dc wbs, Laid12 W2 (v0 + 2) (mc0 GA gn gc FA fn fc iA il ic fuel) gs (k + 1) wx DA dc wbs))
      case first =>
        go_upto_region 5 with fail
        refine wp_region_held_drew (S := fun V => Chg L V0 V) (by kernel_rfl) (by rw [hV0]; exact hs0') (fun _ => ?_)
        rw [hV0]
        refine takeH 0 23 (v := (.pointer (some ⟨v0 + 2, 0, none⟩))) rfl rfl (by kernel_rfl) (by kernel_rfl) (by kernel_rfl) (fun _ _ _ h => h) (by rfl) ?_ hs0' ?_
        · intro w hSw
          have y1 := HFC.out w hSw
          go_simp
        try simp only [Act.put, List.setIfInBounds_toArray, List.set_cons_zero, List.set_cons_succ]
        refine takeH 1 24 (v := (.pointer (some ⟨v0 + 2, 0, none⟩))) rfl rfl (by kernel_rfl) (by kernel_rfl) (by kernel_rfl) (fun _ _ _ h => h) (by rfl) ?_ hs0' ?_
        · intro w hSw
          have y1 := HFC.out w hSw
          go_simp
        try simp only [Act.put, List.setIfInBounds_toArray, List.set_cons_zero, List.set_cons_succ]
        refine takeH 2 25 (v := (.pointer (some ⟨v0 + 2, 0, none⟩))) rfl rfl (by kernel_rfl) (by kernel_rfl) (by kernel_rfl) (fun _ _ _ h => h) (by rfl) ?_ hs0' ?_
        · intro w hSw
          have y1 := HFC.out w hSw
          go_simp
        try simp only [Act.put, List.setIfInBounds_toArray, List.set_cons_zero, List.set_cons_succ]
        refine takeH 3 26 (v := (.pointer (some ⟨v0 + 2, 2, none⟩))) rfl rfl (by kernel_rfl) (by kernel_rfl) (by kernel_rfl) (fun _ _ _ h => h) (by rfl) ?_ hs0' ?_
        · intro w hSw
          have y1 := HFC.out w hSw
          go_simp
        try simp only [Act.put, List.setIfInBounds_toArray, List.set_cons_zero, List.set_cons_succ]
        refine takeH 5 28 (v := (.pointer (some ⟨bg, 1, none⟩))) rfl rfl (by kernel_rfl) (by kernel_rfl) (by kernel_rfl) (fun _ _ _ h => h) (by rfl) ?_ hs0' ?_
        · intro w hSw
          have y1 := HFC.out w hSw
          go_simp
        try simp only [Act.put, List.setIfInBounds_toArray, List.set_cons_zero, List.set_cons_succ]
        refine takeH 6 29 (v := (.int .i64 o.size)) rfl rfl (by kernel_rfl) (by kernel_rfl) (by kernel_rfl) (fun _ _ _ h => h) (by rfl) ?_ hs0' ?_
        · intro w hSw
          have y1 := HFC.out w hSw
          go_simp
        try simp only [Act.put, List.setIfInBounds_toArray, List.set_cons_zero, List.set_cons_succ]
        refine takeH 7 30 (v := (.int .i64 (mz : Int))) rfl rfl (by kernel_rfl) (by kernel_rfl) (by kernel_rfl) (fun _ _ _ h => h) (by rfl) ?_ hs0' ?_
        · intro w hSw
          have y1 := HFC.out w hSw
          go_simp
        try simp only [Act.put, List.setIfInBounds_toArray, List.set_cons_zero, List.set_cons_succ]
        refine wpAnyH_ready (rs := [4, 8]) (by kernel_rfl) (by simp) ?_
        refine AllReadyH.cons rfl (fun K hK => ?_) (AllReadyH.cons rfl (fun K hK => ?_) AllReadyH.nil)
        · go_simp
          refine hK.out _ _ hs0' (fun _ => ?_)
          clear hK K
          try simp only [Act.put, List.setIfInBounds_toArray, List.set_cons_zero, List.set_cons_succ]
          refine wpAnyH_ready (rs := [8]) (by kernel_rfl) (by simp) ?_
          refine AllReadyH.cons rfl (fun K hK => ?_) AllReadyH.nil
          go_simp
          refine hK.out _ _ hs1' (fun _ => ?_)
          clear hK K
          try simp only [Act.put, List.setIfInBounds_toArray, List.set_cons_zero, List.set_cons_succ]
          refine wpAnyH_ready (rs := [9]) (by kernel_rfl) (by simp) ?_
          refine AllReadyH.cons rfl (fun K hK => ?_) AllReadyH.nil
          go_simp
          refine hK.out _ _ hs2' (fun _ => ?_)
          clear hK K
          try simp only [Act.put, List.setIfInBounds_toArray, List.set_cons_zero, List.set_cons_succ]
          refine wpAnyH_ready (rs := [10]) (by kernel_rfl) (by simp) ?_
          refine appendT_ready rfl (by kernel_rfl) _ _ _ _ rfl _ _ rfl rfl _ _ HRUN.out hs3' ?_
          try simp only [Act.put, List.setIfInBounds_toArray, List.set_cons_zero, List.set_cons_succ]
          refine takeH 11 34 (v := (.pointer (some ⟨v0 + 2, 0, none⟩))) rfl rfl (by kernel_rfl) (by kernel_rfl) (by kernel_rfl) (fun _ _ _ h => h) (by rfl) ?_ hs3' ?_
          · intro w hSw
            have y1 := HFC.out w hSw
            go_simp
          try simp only [Act.put, List.setIfInBounds_toArray, List.set_cons_zero, List.set_cons_succ]
          refine takeH 12 35 (v := (.pointer (some ⟨v0 + 2, 2, none⟩))) rfl rfl (by kernel_rfl) (by kernel_rfl) (by kernel_rfl) (fun _ _ _ h => h) (by rfl) ?_ hs3' ?_
          · intro w hSw
            have y1 := HFC.out w hSw
            go_simp
          try simp only [Act.put, List.setIfInBounds_toArray, List.set_cons_zero, List.set_cons_succ]
          refine wpAnyH_ready (rs := [13]) (by kernel_rfl) (by simp) ?_
          refine AllReadyH.cons rfl (fun K hK => ?_) AllReadyH.nil
          go_simp
          refine hK.out _ _ hs4' (fun _ => ?_)
          clear hK K
          try simp only [Act.put, List.setIfInBounds_toArray, List.set_cons_zero, List.set_cons_succ]
          refine wpAnyH_done (by kernel_rfl) ?_ _
          go_wp2_with fail
          go_meet
          exact Lib.hid ⟨_, _, _, HMORE.out⟩
        · go_simp
          refine hK.out _ _ hs1' (fun _ => ?_)
          clear hK K
          try simp only [Act.put, List.setIfInBounds_toArray, List.set_cons_zero, List.set_cons_succ]
          refine wpAnyH_ready (rs := [4, 9]) (by kernel_rfl) (by simp) ?_
          refine AllReadyH.cons rfl (fun K hK => ?_) (AllReadyH.cons rfl (fun K hK => ?_) AllReadyH.nil)
          · go_simp
            refine hK.out _ _ hs1' (fun _ => ?_)
            clear hK K
            try simp only [Act.put, List.setIfInBounds_toArray, List.set_cons_zero, List.set_cons_succ]
            refine wpAnyH_ready (rs := [9]) (by kernel_rfl) (by simp) ?_
            refine AllReadyH.cons rfl (fun K hK => ?_) AllReadyH.nil
            go_simp
            refine hK.out _ _ hs2' (fun _ => ?_)
            clear hK K
            try simp only [Act.put, List.setIfInBounds_toArray, List.set_cons_zero, List.set_cons_succ]
            refine wpAnyH_ready (rs := [10]) (by kernel_rfl) (by simp) ?_
            refine appendT_ready rfl (by kernel_rfl) _ _ _ _ rfl _ _ rfl rfl _ _ HRUN.out hs3' ?_
            try simp only [Act.put, List.setIfInBounds_toArray, List.set_cons_zero, List.set_cons_succ]
            refine takeH 11 34 (v := (.pointer (some ⟨v0 + 2, 0, none⟩))) rfl rfl (by kernel_rfl) (by kernel_rfl) (by kernel_rfl) (fun _ _ _ h => h) (by rfl) ?_ hs3' ?_
            · intro w hSw
              have y1 := HFC.out w hSw
              go_simp
            try simp only [Act.put, List.setIfInBounds_toArray, List.set_cons_zero, List.set_cons_succ]
            refine takeH 12 35 (v := (.pointer (some ⟨v0 + 2, 2, none⟩))) rfl rfl (by kernel_rfl) (by kernel_rfl) (by kernel_rfl) (fun _ _ _ h => h) (by rfl) ?_ hs3' ?_
            · intro w hSw
              have y1 := HFC.out w hSw
              go_simp
            try simp only [Act.put, List.setIfInBounds_toArray, List.set_cons_zero, List.set_cons_succ]
            refine wpAnyH_ready (rs := [13]) (by kernel_rfl) (by simp) ?_
            refine AllReadyH.cons rfl (fun K hK => ?_) AllReadyH.nil
            go_simp
            refine hK.out _ _ hs4' (fun _ => ?_)
            clear hK K
            try simp only [Act.put, List.setIfInBounds_toArray, List.set_cons_zero, List.set_cons_succ]
            refine wpAnyH_done (by kernel_rfl) ?_ _
            go_wp2_with fail
            go_meet
            exact Lib.hid ⟨_, _, _, HMORE.out⟩
          · go_simp
            refine hK.out _ _ hs2' (fun _ => ?_)
            clear hK K
            try simp only [Act.put, List.setIfInBounds_toArray, List.set_cons_zero, List.set_cons_succ]
            refine wpAnyH_ready (rs := [4]) (by kernel_rfl) (by simp) ?_
            refine AllReadyH.cons rfl (fun K hK => ?_) AllReadyH.nil
            go_simp
            refine hK.out _ _ hs2' (fun _ => ?_)
            clear hK K
            try simp only [Act.put, List.setIfInBounds_toArray, List.set_cons_zero, List.set_cons_succ]
            refine wpAnyH_ready (rs := [10]) (by kernel_rfl) (by simp) ?_
            refine appendT_ready rfl (by kernel_rfl) _ _ _ _ rfl _ _ rfl rfl _ _ HRUN.out hs3' ?_
            try simp only [Act.put, List.setIfInBounds_toArray, List.set_cons_zero, List.set_cons_succ]
            refine takeH 11 34 (v := (.pointer (some ⟨v0 + 2, 0, none⟩))) rfl rfl (by kernel_rfl) (by kernel_rfl) (by kernel_rfl) (fun _ _ _ h => h) (by rfl) ?_ hs3' ?_
            · intro w hSw
              have y1 := HFC.out w hSw
              go_simp
            try simp only [Act.put, List.setIfInBounds_toArray, List.set_cons_zero, List.set_cons_succ]
            refine takeH 12 35 (v := (.pointer (some ⟨v0 + 2, 2, none⟩))) rfl rfl (by kernel_rfl) (by kernel_rfl) (by kernel_rfl) (fun _ _ _ h => h) (by rfl) ?_ hs3' ?_
            · intro w hSw
              have y1 := HFC.out w hSw
              go_simp
            try simp only [Act.put, List.setIfInBounds_toArray, List.set_cons_zero, List.set_cons_succ]
            refine wpAnyH_ready (rs := [13]) (by kernel_rfl) (by simp) ?_
            refine AllReadyH.cons rfl (fun K hK => ?_) AllReadyH.nil
            go_simp
            refine hK.out _ _ hs4' (fun _ => ?_)
            clear hK K
            try simp only [Act.put, List.setIfInBounds_toArray, List.set_cons_zero, List.set_cons_succ]
            refine wpAnyH_done (by kernel_rfl) ?_ _
            go_wp2_with fail
            go_meet
            exact Lib.hid ⟨_, _, _, HMORE.out⟩
      case rest =>
        rename World => wz
        have HN := hcut
        clear hcut
        go_wp2_with fail
        try rw [← hgA]
        go_roundw
        case rel => exact ⟨k + 1, by omega, by go_num, HN⟩
        case measure => simp [intOf] <;> omega
    · obtain rfl : k = gn := by omega
      obtain ⟨DA, dc, wbs, hL⟩ := HI2.out
      have h0 := HV0.out
      obtain ⟨hI, hi, hin, hil, hfu⟩ := HI.out
      obtain ⟨e, hen, hep, hew, HC⟩ := ref_begin HG.out HF.out hil hI hin hfu HM.out hi HB2.out.1 (by rw [h0]) HB2.out.2 hL
      have hres := progC_res HM.out inp fuel
      obtain ⟨R, hR⟩ : ∃ R, progC gs fs inp fuel = R := ⟨_, rfl⟩
      rw [hR] at HC hres
      have hbr : wr.heap[v0 + 1]? = some (.cells #[.int .i64 0, .int .i32 0, .slice none 0 0, .int .i64 0, .int .i64 0] 32 (0, 0)) := by
        rw [hL.chg.same (v0 + 1) (by have := HB2.out.2; omega) (by simp)]
        exact HKR.out
      rw [h0] at hen
      have HCALL := Lib.hid HC
      have HBR := Lib.hid hbr
      have HEN := Lib.hid (And.intro hen (And.intro hep (And.intro hew (And.intro h0 hres))))
      clear hL h0 hI hi hin hil hfu HC hbr hen hep hew hres hR HI2 hgn1 hgnI hk hge
      go_wp2_with fail
      refine HCALL.out.mono ?_
      rintro en w3 hq
      cases R with
      | ok v s' =>
        obtain ⟨rfl, hv, tA', tc', hR3, hcg, hf, hgR, hsf⟩ := hq
        obtain ⟨hen, hep, hew, h0, hres⟩ := HEN.out
        have hb3 : w3.heap[v0 + 1]? = some (.cells #[.int .i64 0, .int .i32 0, .slice none 0 0, .int .i64 0, .int .i64 0] 32 (0, 0)) := (hcg.same (v0 + 1) (by have := (Array.getElem?_eq_some_iff.1 HBR.out).1; exact this) hen).trans HBR.out
        have hm3 := hR3.mc
        rw [hep] at hm3
        have c6 : w3.cell? ⟨v0 + 2, 6, none⟩ = some (.int .i64 0) := hm3.c6
        have f6 := hm3.free 6
        obtain ⟨W4, hW4⟩ : ∃ W4, w3.setCell ⟨v0 + 2, 6, none⟩ (.int .i64 1) = W4 := ⟨_, rfl⟩
        have hm4 : McAt W4 (v0 + 2) { e.mc 0 0 s' tA' tc' with fin := 1 } := by rw [← hW4]; exact hm3.set 6 _ _ rfl
        have f7 := hm4.free 7
        have c7 : W4.cell? ⟨v0 + 2, 7, none⟩ = some (.int .i32 0) := hm4.c7
        obtain ⟨W5, hW5⟩ : ∃ W5, W4.setCell ⟨v0 + 2, 7, none⟩ (.int .i32 v) = W5 := ⟨_, rfl⟩
        have hm5 : McAt W5 (v0 + 2) { e.mc 0 0 s' tA' tc' with fin := 1, value := v } := by rw [← hW5]; exact hm4.set 7 _ _ rfl
        have hC5 : Chg [v0 + 2] w3 W5 := by
          rw [← hW5, ← hW4]
          exact ((Chg.refl [v0 + 2] w3).setCell _ 6 _ (.inl (List.mem_singleton.2 rfl))).setCell _ 7 _ (.inl (List.mem_singleton.2 rfl))
        have hb5 : W5.heap[v0 + 1]? = _ := (hC5.same (v0 + 1) (Array.getElem?_eq_some_iff.1 hb3).1 (by simp)).trans hb3
        have k6 : W5.cell? ⟨v0 + 2, 6, none⟩ = some (.int .i64 1) := hm5.c6
        have k7 : W5.cell? ⟨v0 + 2, 7, none⟩ = some (.int .i32 v) := hm5.c7
        have k8 : W5.cell? ⟨v0 + 2, 8, none⟩ = some (.slice tA' s'.tr.length tc') := hm5.c8
        have k9 : W5.cell? ⟨v0 + 2, 9, none⟩ = some (.int .i64 (s'.steps : Int)) := hm5.c9
        have k10 : W5.cell? ⟨v0 + 2, 10, none⟩ = some (.int .i64 (s'.reads : Int)) := hm5.c10
        obtain ⟨g0, g1, g2, g3, g4⟩ := free5 hb5
        obtain ⟨r0, r1, r2, r3, r4⟩ := row5 hb5
        obtain ⟨X, hX, hbX, hCX⟩ := set5 hb5 (.int .i64 1) (.int .i32 v) (.slice tA' s'.tr.length tc') (.int .i64 (s'.steps : Int)) (.int .i64 (s'.reads : Int))
        obtain ⟨p0, p1, p2, p3, p4⟩ := row5 hbX
        have hTR : ∀ b ∈ blk tA', wr.heap.size ≤ b := fun b hb => by
          rcases hf b hb with h1 | h1
          · cases h1
          · exact h1
        have HF : Hid (RunOut w (progR gs fs inp fuel) (.returned (.agg #[.int .i64 1, .int .i32 v, .slice tA' s'.tr.length tc', .int .i64 (s'.steps : Int), .int .i64 (s'.reads : Int)])) X) := Lib.hid (by
          rw [← hres]
          have hC : Chg [v0 + 2, v0 + 1] w3 X := (hC5.weaken (fun b hb => .inl (by simp at hb; simp [hb]))).trans (hCX.weaken (fun b hb => .inl (by simp at hb; simp [hb])))
          refine ⟨tA', tc', rfl, hR3.tr.chg hC (fun b hb hm => ?_), ?_, fun b hb => by have := (hR3.trb b hb).1; rw [hew] at this; exact this⟩
          · have h1 := (hR3.trb b hb).2.1
            have h2 : v0 + 1 ∉ blk tA' := fun hm2 => by
              have := hTR _ hm2
              have := (Array.getElem?_eq_some_iff.1 HBR.out).1
              omega
            simp only [List.mem_cons, List.not_mem_nil, or_false] at hm
            rcases hm with hm | hm
            · exact h1 (by rw [hm, hep])
            · exact h2 (by rw [← hm]; exact hb)
          · have hb := hR3.below
            rw [hew] at hb
            exact hb.trans (hC.toBelow (fun b hb => by simp at hb; omega) hb.size))
        clear hv hR3 hcg hf hgR hsf hen hep hew h0 hres hb3 hm3 hm4 hm5 hC5 hb5 hbX hCX HG HM HI HB2 HKR HV0 HCALL HBR HEN s0 s1 s2 m0 m1 n0 n1 hTR
        have HK := Lib.hid (And.intro k6 (And.intro k7 (And.intro k8 (And.intro k9 (And.intro k10 (And.intro g0 (And.intro g1 (And.intro g2 (And.intro g3 (And.intro g4 (And.intro hX (And.intro r0 (And.intro r1 (And.intro r2 (And.intro r3 (And.intro r4 (And.intro p0 (And.intro p1 (And.intro p2 (And.intro p3 p4))))))))))))))))))))
        clear k6 k7 k8 k9 k10 g0 g1 g2 g3 g4 r0 r1 r2 r3 r4 p0 p1 p2 p3 p4 hX
        go_upto_region 11 with fail
        clear c6 f6 c7 f7 hW4 hW5
        obtain ⟨k6, k7, k8, k9, k10, g0, g1, g2, g3, g4, hX, r0, r1, r2, r3, r4, p0, p1, p2, p3, p4⟩ := HK.out
        clear HK
        go_upto_region 12 with fail
        exact bodyPost_ret (v := .agg #[.int .i64 1, .int .i32 v, .slice tA' s'.tr.length tc', .int .i64 (s'.steps : Int), .int .i64 (s'.reads : Int)]) (by simp [results, Try.results11, go_sem, p0, p1, p2, p3, p4]) rfl HF.out
      | stop k s' =>
        obtain ⟨rfl, hk1, hk5, calls', tA', tc', hR3, hcg, hf⟩ := hq
        obtain ⟨hen, hep, hew, h0, hres⟩ := HEN.out
        have hb5 : w3.heap[v0 + 1]? = some (.cells #[.int .i64 0, .int .i32 0, .slice none 0 0, .int .i64 0, .int .i64 0] 32 (0, 0)) := (hcg.same (v0 + 1) (by have := (Array.getElem?_eq_some_iff.1 HBR.out).1; exact this) hen).trans HBR.out
        have hm3 := hR3.mc
        rw [hep] at hm3
        have k6 : w3.cell? ⟨v0 + 2, 6, none⟩ = some (.int .i64 k) := hm3.c6
        have k7 : w3.cell? ⟨v0 + 2, 7, none⟩ = some (.int .i32 0) := hm3.c7
        have k8 : w3.cell? ⟨v0 + 2, 8, none⟩ = some (.slice tA' s'.tr.length tc') := hm3.c8
        have k9 : w3.cell? ⟨v0 + 2, 9, none⟩ = some (.int .i64 (s'.steps : Int)) := hm3.c9
        have k10 : w3.cell? ⟨v0 + 2, 10, none⟩ = some (.int .i64 (s'.reads : Int)) := hm3.c10
        have kb : ((k : Int) == 0) = false := by simp; omega
        obtain ⟨g0, g1, g2, g3, g4⟩ := free5 hb5
        obtain ⟨r0, r1, r2, r3, r4⟩ := row5 hb5
        obtain ⟨X, hX, hbX, hCX⟩ := set5 hb5 (.int .i64 k) (.int .i32 0) (.slice tA' s'.tr.length tc') (.int .i64 (s'.steps : Int)) (.int .i64 (s'.reads : Int))
        obtain ⟨p0, p1, p2, p3, p4⟩ := row5 hbX
        have hTR : ∀ b ∈ blk tA', wr.heap.size ≤ b := fun b hb => by
          rcases hf b hb with h1 | h1
          · cases h1
          · exact h1
        have HF : Hid (RunOut w (progR gs fs inp fuel) (.returned (.agg #[.int .i64 k, .int .i32 0, .slice tA' s'.tr.length tc', .int .i64 (s'.steps : Int), .int .i64 (s'.reads : Int)])) X) := Lib.hid (by
          rw [← hres]
          refine ⟨tA', tc', rfl, hR3.tr.chg hCX (fun b hb hm => ?_), ?_, fun b hb => by have := (hR3.trb b hb).1; rw [hew] at this; exact this⟩
          · have := hTR _ hb
            have := (Array.getElem?_eq_some_iff.1 HBR.out).1
            rw [List.mem_singleton] at hm
            omega
          · have hb := hR3.below
            rw [hew] at hb
            exact hb.trans (hCX.toBelow (fun b hb => by simp at hb; omega) hb.size))
        clear hR3 hcg hf hen hep hew h0 hres hm3 hb5 hbX hCX HG HM HI HB2 HKR HV0 HCALL HBR HEN s0 s1 s2 m0 m1 n0 n1 hTR hk1 hk5
        have HK := Lib.hid (And.intro k6 (And.intro k7 (And.intro k8 (And.intro k9 (And.intro k10 (And.intro g0 (And.intro g1 (And.intro g2 (And.intro g3 (And.intro g4 (And.intro hX (And.intro r0 (And.intro r1 (And.intro r2 (And.intro r3 (And.intro r4 (And.intro p0 (And.intro p1 (And.intro p2 (And.intro p3 p4))))))))))))))))))))
        clear k7 k8 k9 k10 g0 g1 g2 g3 g4 r0 r1 r2 r3 r4 p0 p1 p2 p3 p4 hX
        go_upto_region 11 with fail
        clear k6
        obtain ⟨k6, k7, k8, k9, k10, g0, g1, g2, g3, g4, hX, r0, r1, r2, r3, r4, p0, p1, p2, p3, p4⟩ := HK.out
        clear HK
        go_upto_region 12 with fail
        exact bodyPost_ret (v := .agg #[.int .i64 k, .int .i32 0, .slice tA' s'.tr.length tc', .int .i64 (s'.steps : Int), .int .i64 (s'.reads : Int)]) (by simp [results, Try.results11, go_sem, p0, p1, p2, p3, p4]) rfl HF.out
end Go.Proofs.Ytcanjkjpdnbcnaa
