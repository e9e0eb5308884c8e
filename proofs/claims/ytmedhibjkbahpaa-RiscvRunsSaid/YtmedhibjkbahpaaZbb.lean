/-
  Contract of the document's Run of layer 18.
  What RiscvRuns' walk needs: an input, results, the image that is none.
-/
import Derived.Test.YtmedhibjkbahpaaZaz
import Derived.Test.YtmedhibjkbahpaaZax
import Derived.Deep.CutRange
import Derived.Test.YtmedhibjkbahpaaZba
namespace Go.Proofs.Ytmedhibjkbahpaa
open Go.RowKit
set_option linter.unusedVariables false
set_option linter.unusedSimpArgs false
set_option maxRecDepth 100000
namespace Rv
def startB : ByteArray := ⟨#[46, 115, 116, 97, 114, 116]⟩
theorem results_run (tmps : Array Value) (w : World) (g : Nat) (cs : Array Value) (hp : tmps.getD 6 undef = .pointer (some ⟨g, 0, none⟩)) (hg : w.heap[g]? = some (.cells cs 57 (0, 0))) (hs : cs.size = 5) :
    (results Try.f20 tmps).run Try.prog w = .ok (.agg cs) w := by
  have hp' : tmps[6]?.getD undef = .pointer (some ⟨g, 0, none⟩) := by simpa using hp
  simp [results, Try.results20, hp', asAddr, run_loadVar_row w g 57 57 cs (0, 0) _ hg Try.underlying57 rfl (by rw [hs]; kernel_rfl)]
theorem callM_ne {inp : List Int} {s s' : MS} {k : Int} (h : callM inp s = .fin k s') : k ≠ 0 := by
  unfold callM at h
  split at h
  · cases h
  · split at h
    · cases h
    · split at h <;> (cases h; decide)
theorem fin_ne {ls : List Ln} {inp : List Int} {fuel : Int} {s s' : MS} {k : Int} (h : stepM ls inp fuel s = .fin k s') : k ≠ 0 := by
  unfold stepM at h
  split at h
  · cases h; decide
  · split at h
    · cases h; decide
    · split at h
      · cases h; decide
      · unfold insM at h
        split at h
        · split at h
          · cases h; decide
          · cases h
        · split at h
          · split at h
            · cases h; decide
            · cases h
          · split at h
            · split at h
              · next h2 => cases h; exact callM_ne h2
              · cases h
            · cases h
theorem rdo_ret {E : REnv} {mo : MO} {en : Ending} {w' : World} (h : RDo E mo en w') : en = .returned (.tuple #[]) ∧ RDo E mo (.returned (.tuple #[])) w' := by
  cases mo with
  | go s => exact ⟨h.1, rfl, h.2⟩
  | fin k s => exact ⟨h.1, rfl, h.2⟩
/-- A run so far: it goes on, or what it comes to. -/
def RSt (E : REnv) (ls : List Ln) (fuel : Int) (s0 : MS) (kx : Nat) (v : Value) (w : World) : Prop :=
  ∃ s q, RMAt E w q s ∧ ((q = 0 ∧ v = .int .i32 s.pc ∧ Good E.inp s ∧ SoFar ls E.inp fuel s0 s ∧ W32 s ∧ fuel.toNat - s.steps + 1 ≤ kx) ∨ (q ≠ 0 ∧ (∃ z, v = .int .i32 z) ∧ runR ls E.inp fuel s0 = ⟨q, s.v, s.tr, s.steps, s.reads⟩))
theorem set_five (w : World) (br : Nat) (T : TypeId) (a0 a1 a2 a3 a4 b0 b1 b2 b3 b4 : Value) (h : w.heap[br]? = some (.cells #[a0, a1, a2, a3, a4] T (0, 0))) :
    (((((w.setCell ⟨br, 0, none⟩ b0).setCell ⟨br, 1, none⟩ b1).setCell ⟨br, 2, none⟩ b2).setCell ⟨br, 3, none⟩ b3).setCell ⟨br, 4, none⟩ b4).heap[br]? = some (.cells #[b0, b1, b2, b3, b4] T (0, 0)) := by
  simp [World.setCell, Array.getElem?_modify, h]
/-- The result, out of the machine's box. -/
theorem RMAt.out {E : REnv} {w : World} {q : Int} {s : MS} (h : RMAt E w q s) {w0 : World} {br : Nat} (h0 : Below w0.heap.size w0 E.w0) (hbr : w0.heap.size ≤ br ∧ br < E.w0.heap.size) {ls : List Ln} {inp : List Int} {fuel : Int} {s0 : MS} (hR : runR ls inp fuel s0 = ⟨q, s.v, s.tr, s.steps, s.reads⟩)
    (hz : E.w0.heap[br]? = some (.cells #[.int .i64 0, .int .i32 0, .slice none 0 0, .int .i64 0, .int .i64 0] 57 (0, 0))) :
    ∃ tA tc, w.cell? ⟨E.p, 5, none⟩ = some (.slice tA s.tr.length tc) ∧ w.heap[br]? = some (.cells #[.int .i64 0, .int .i32 0, .slice none 0 0, .int .i64 0, .int .i64 0] 57 (0, 0)) ∧
      ∀ W, W = (((((w.setCell ⟨br, 0, none⟩ (.int .i64 q)).setCell ⟨br, 1, none⟩ (.int .i32 s.v)).setCell ⟨br, 2, none⟩ (.slice tA s.tr.length tc)).setCell ⟨br, 3, none⟩ (.int .i64 (s.steps : Int))).setCell ⟨br, 4, none⟩ (.int .i64 (s.reads : Int))) →
        W.heap[br]? = some (.cells #[.int .i64 q, .int .i32 s.v, .slice tA s.tr.length tc, .int .i64 (s.steps : Int), .int .i64 (s.reads : Int)] 57 (0, 0)) ∧ RunOut w0 (runR ls inp fuel s0) (.returned (.agg #[.int .i64 q, .int .i32 s.v, .slice tA s.tr.length tc, .int .i64 (s.steps : Int), .int .i64 (s.reads : Int)])) W := by
  obtain ⟨tA, tc, hc, hl, hn⟩ := h.box
  have hb := (h.below.block br hbr.2).trans hz
  refine ⟨tA, tc, by rw [cell_of_row _ E.p 5 _ _ (0, 0) hc]; rfl, hb, fun W hW => ?_⟩
  have hC : Chg [br] w W := by
    rw [hW]
    exact ((((((Chg.refl _ w).setCell br 0 _ (.inl (by simp))).setCell br 1 _ (.inl (by simp))).setCell br 2 _ (.inl (by simp))).setCell br 3 _ (.inl (by simp))).setCell br 4 _ (.inl (by simp)))
  refine ⟨by rw [hW]; exact set_five _ _ _ _ _ _ _ _ _ _ _ _ _ hb, ?_⟩
  rw [hR]
  have z0 := h0.size
  have z1 := h.below.size
  refine ⟨tA, tc, rfl, hl.chg hC (fun k hk => by rw [List.mem_singleton]; have := (hn k hk).1; omega), ?_, fun k hk => by have := (hn k hk).1; omega⟩
  exact (h0.trans (h.below.mono z0)).trans (hC.toBelow (fun k hk => by rw [List.mem_singleton] at hk; omega) (by omega))
set_option maxHeartbeats 12800000 in
theorem rrun_any (w : World) (LA SA : Option Addr) (ln lc sn sc n : Nat) (ls : List Ln) (ss : List Sy) (hL : LnsAt w LA ln ls) (hok : ∀ l ∈ ls, l.Ok) (hll : ls.length ≤ 100000) (hS : SysAt w SA sn ss) (hsn : sn ≤ 100000) (hpos : ∀ t ∈ ss, R32 t.pos) (hn : n ≤ 100000)
    (iA : Option Addr) (im ic : Nat) (inp : List Int) (hR : RowK .i32 w iA im inp) (hi32 : ∀ x ∈ inp, R32 x) (hin : im ≤ 90000) (fuel : Int) (hfu : fuel ≤ 80000) :
    Calls Try.prog 20 #[.agg #[.slice LA ln lc, .slice SA sn sc, .int .i64 (n : Int)], .slice iA im ic, .int .i64 fuel] w (RunOut w (runR ls inp fuel (newS n (symAt ss startB)))) := by
  obtain ⟨pc0, hpc0⟩ : ∃ pc0, symAt ss startB = pc0 := ⟨_, rfl⟩
  rw [hpc0]
  have HPC0 := Lib.hid hpc0
  clear hpc0
  obtain ⟨bm, hbm⟩ : ∃ bm, w.heap.size = bm := ⟨_, rfl⟩
  obtain ⟨W1, hW1⟩ : ∃ W1, w.alloc (.cells #[.slice LA ln lc, .slice SA sn sc, .int .i64 (n : Int)] 34) = W1 := ⟨_, rfl⟩
  obtain ⟨br, hbr⟩ : ∃ br, W1.heap.size = br := ⟨_, rfl⟩
  obtain ⟨W2, hW2⟩ : ∃ W2, W1.alloc (.cells #[.int .i64 0, .int .i32 0, .slice none 0 0, .int .i64 0, .int .i64 0] 57) = W2 := ⟨_, rfl⟩
  have hb1 : Below w.heap.size w W1 := by rw [← hW1]; exact (Below.refl _ _).alloc (Nat.le_refl _) _
  have hb2 : Below W1.heap.size W1 W2 := by rw [← hW2]; exact (Below.refl _ _).alloc (Nat.le_refl _) _
  have hm1 : W1.heap[bm]? = some (.cells #[.slice LA ln lc, .slice SA sn sc, .int .i64 (n : Int)] 34 (0, 0)) := by rw [← hW1, ← hbm]; exact heap_alloc_new w _
  have hbml : bm < W1.heap.size := (Array.getElem?_eq_some_iff.1 hm1).1
  have hm2 := (hb2.block bm hbml).trans hm1
  have hr2 : W2.heap[br]? = some (.cells #[.int .i64 0, .int .i32 0, .slice none 0 0, .int .i64 0, .int .i64 0] 57 (0, 0)) := by rw [← hW2, ← hbr]; exact heap_alloc_new W1 _
  have hb12 := hb1.trans (hb2.mono hb1.size)
  have HB := Lib.hid hb12
  have HMM : Hid (∀ V, Below W2.heap.size W2 V → V.cell? ⟨bm, 0, none⟩ = some (.slice LA ln lc) ∧ V.cell? ⟨bm, 1, none⟩ = some (.slice SA sn sc) ∧ V.cell? ⟨bm, 2, none⟩ = some (.int .i64 (n : Int))) := Lib.hid (fun V hV => by
    have h := (hV.block bm (Array.getElem?_eq_some_iff.1 hm2).1).trans hm2
    refine ⟨?_, ?_, ?_⟩ <;> (rw [cell_of_row _ bm _ _ _ (0, 0) h]; rfl))
  have HRR := Lib.hid hr2
  have HL := Lib.hid (hL.below hb12)
  have HS := Lib.hid (hS.below hb12)
  have HR := Lib.hid (hR.below hb12)
  have HOK := Lib.hid (And.intro hok (And.intro hll (And.intro hpos (And.intro hi32 (And.intro hR.1 hin)))))
  have HBR : Hid (w.heap.size ≤ br ∧ br < W2.heap.size) := Lib.hid ⟨by rw [← hbr]; exact hb1.size, (Array.getElem?_eq_some_iff.1 hr2).1⟩
  have HLN := Lib.hid hL.1
  have hn2 : (n : Int) ≤ 100000 := by omega
  have hn0 : (0 : Int) ≤ (n : Int) := by omega
  clear hb1 hb2 hb12 hm1 hm2 hr2 hbml hL hS hR hok hll hpos hi32 hin
  go_enter Try.func20, Try.ntmps20
  go_upto_region 1 with fail
  clear hW1 hW2 hbr hbm
  have hmk := make_words n hn
  have hmk32 : ∀ W : World, (Instr.makeSlice 53 (.int .i64 32) (.int .i64 32)).run Try.prog W = .ok (.slice (some ⟨W.heap.size, 0, none⟩) 32 32) (W.alloc (.cells (cellsW (List.replicate 32 0)).toArray 21)) := fun W => make_words 32 (by omega) W
  obtain ⟨r32, hr32⟩ : ∃ l, List.replicate 32 (0 : Int) = l := ⟨_, rfl⟩
  obtain ⟨rn, hrn⟩ : ∃ l, List.replicate n (0 : Int) = l := ⟨_, rfl⟩
  rw [hrn] at hmk
  rw [hr32] at hmk32
  have HR32 := Lib.hid hr32
  have HRN := Lib.hid hrn
  clear hr32 hrn
  go_cut [7] from 13 to 19 (fun x wx => ∃ p rb mb, x = .pointer (some ⟨p, 0, none⟩) ∧ Hid (RMAt ⟨W2, p, rb, mb, n, iA, im, ic, inp⟩ wx 0 (newS n 0)))
  case first =>
    refine wp_region_held_drew (S := fun V => Below W2.heap.size W2 V) (by kernel_rfl) ((Below.refl _ W2).drew) (fun _ => ?_)
    refine takeH 1 14 (v := (.pointer (some ⟨bm, 2, none⟩))) rfl rfl (by kernel_rfl) (by kernel_rfl) (by kernel_rfl) (fun _ _ _ h => h) (by rfl) ?_ (by assumption) ?_
    · intro w hSw
      go_simp
    try simp only [Act.put, List.setIfInBounds_toArray, List.set_cons_zero, List.set_cons_succ]
    refine takeH 2 15 (v := (.int .i64 (n : Int))) rfl rfl (by kernel_rfl) (by kernel_rfl) (by kernel_rfl) (fun _ _ _ h => h) (by rfl) ?_ (by assumption) ?_
    · intro w hSw
      obtain ⟨y0, y1, y2⟩ := HMM.out w hSw
      go_simp
    try simp only [Act.put, List.setIfInBounds_toArray, List.set_cons_zero, List.set_cons_succ]
    refine takeH 4 17 (v := (.slice iA im ic)) rfl rfl (by kernel_rfl) (by kernel_rfl) (by kernel_rfl) (fun _ _ _ h => h) (by rfl) ?_ (by assumption) ?_
    · intro w hSw
      go_simp
    try simp only [Act.put, List.setIfInBounds_toArray, List.set_cons_zero, List.set_cons_succ]
    refine wpAnyH_ready (rs := [0, 3]) (by kernel_rfl) (by simp) ?_
    refine AllReadyH.cons rfl (fun K hK => ?_) (AllReadyH.cons rfl (fun K hK => ?_) AllReadyH.nil)
    · go_simp
      refine hK.out _ _ (show Below W2.heap.size W2 _ from ((Below.refl _ W2).alloc (Nat.le_refl _) _).drew) (fun _ => ?_)
      clear hK K
      try simp only [Act.put, List.setIfInBounds_toArray, List.set_cons_zero, List.set_cons_succ]
      obtain ⟨V1, hV1⟩ : ∃ V, (W2.alloc (.cells (cellsW r32).toArray 21)).drew = V := ⟨_, rfl⟩
      rw [hV1]
      have bV1 : Below W2.heap.size W2 V1 := by rw [← hV1]; exact ((Below.refl _ W2).alloc (Nat.le_refl _) _).drew
      have cV1 : Below W2.heap.size W2 V1 := by rw [← hV1]; first | exact (Below.refl _ _).alloc (Nat.le_refl _) _ | exact ((Below.refl _ _).alloc (Nat.le_refl _) _).drew
      have gV1 : RegAt V1 W2.heap.size r32 := by rw [← hV1]; exact heap_alloc_new _ _
      have sV1 : Hid (V1.heap.size = W2.heap.size + 1) := Lib.hid (by rw [← hV1]; simp)
      clear hV1
      refine wpAnyH_ready (rs := [3]) (by kernel_rfl) (by simp) ?_
      refine AllReadyH.cons rfl (fun K hK => ?_) AllReadyH.nil
      go_simp
      refine hK.out _ _ (show Below W2.heap.size W2 _ from bV1.trans (((Below.refl _ V1).alloc (Nat.le_refl _) _).mono bV1.size)) (fun _ => ?_)
      clear hK K
      try simp only [Act.put, List.setIfInBounds_toArray, List.set_cons_zero, List.set_cons_succ]
      obtain ⟨V2, hV2⟩ : ∃ V, V1.alloc (.cells (cellsW rn).toArray 21) = V := ⟨_, rfl⟩
      rw [hV2]
      have bV2 : Below W2.heap.size W2 V2 := by rw [← hV2]; exact bV1.trans (((Below.refl _ V1).alloc (Nat.le_refl _) _).mono bV1.size)
      have cV2 : Below V1.heap.size V1 V2 := by rw [← hV2]; first | exact (Below.refl _ _).alloc (Nat.le_refl _) _ | exact ((Below.refl _ _).alloc (Nat.le_refl _) _).drew
      have gV2 : RegAt V2 V1.heap.size rn := by rw [← hV2]; exact heap_alloc_new _ _
      have sV2 : Hid (V2.heap.size = V1.heap.size + 1) := Lib.hid (by rw [← hV2]; simp)
      clear hV2
      have lt1 := gV1.lt
      have k1 : RegAt V2 W2.heap.size r32 := gV1.same (cV2.block _ lt1)
      refine wpAnyH_ready (rs := [5]) (by kernel_rfl) (by simp) ?_
      refine AllReadyH.cons rfl (fun K hK => ?_) AllReadyH.nil
      go_simp
      refine hK.out _ _ bV2 (fun _ => ?_)
      clear hK K
      try simp only [Act.put, List.setIfInBounds_toArray, List.set_cons_zero, List.set_cons_succ]
      refine wpAnyH_ready (rs := [6]) (by kernel_rfl) (by simp) ?_
      refine AllReadyH.cons rfl (fun K hK => ?_) AllReadyH.nil
      go_simp
      have bV3' := bV2.trans (((Below.refl _ V2).alloc (Nat.le_refl _) (.cells #[.slice (some ⟨W2.heap.size, 0, none⟩) 32 32, .slice (some ⟨V1.heap.size, 0, none⟩) n n, .slice iA im ic, .int .i64 0, .int .i32 0, .slice none 0 0, .int .i64 0, .int .i64 0] 91)).mono bV2.size)
      refine hK.out _ _ bV3' (fun _ => ?_)
      clear hK K
      try simp only [Act.put, List.setIfInBounds_toArray, List.set_cons_zero, List.set_cons_succ]
      obtain ⟨V3, hV3⟩ : ∃ V, V2.alloc (.cells #[.slice (some ⟨W2.heap.size, 0, none⟩) 32 32, .slice (some ⟨V1.heap.size, 0, none⟩) n n, .slice iA im ic, .int .i64 0, .int .i32 0, .slice none 0 0, .int .i64 0, .int .i64 0] 91) = V := ⟨_, rfl⟩
      rw [hV3] at bV3' ⊢
      have cV3 : Below V2.heap.size V2 V3 := by rw [← hV3]; exact (Below.refl _ _).alloc (Nat.le_refl _) _
      have gV3 : V3.heap[V2.heap.size]? = some (.cells #[.slice (some ⟨W2.heap.size, 0, none⟩) 32 32, .slice (some ⟨V1.heap.size, 0, none⟩) n n, .slice iA im ic, .int .i64 0, .int .i32 0, .slice none 0 0, .int .i64 0, .int .i64 0] 91 (0, 0)) := by rw [← hV3]; exact heap_alloc_new _ _
      clear hV3
      have lt2 := gV2.lt
      have lt3 := k1.lt
      have HM3 : Hid (RMAt ⟨W2, V2.heap.size, W2.heap.size, V1.heap.size, n, iA, im, ic, inp⟩ V3 0 (newS n 0)) := Lib.hid (by
        have z1 := sV1.out
        have z2 := sV2.out
        have q1 : RegAt V3 W2.heap.size r32 := k1.same (cV3.block _ lt3)
        have q2 : RegAt V3 V1.heap.size rn := gV2.same (cV3.block _ lt2)
        rw [← HR32.out] at q1
        rw [← HRN.out] at q2
        refine ⟨bV3', ⟨by dsimp only; omega, by dsimp only; omega, by dsimp only; omega⟩, ⟨by dsimp only; omega, by dsimp only; omega, by dsimp only; omega⟩, q1, by simp [newS], q2, by simp [newS], HR.out, none, 0, gV3, SLine.nil 1 _, fun k hk => (by cases hk)⟩)
      refine wpAnyH_ready (rs := [7]) (by kernel_rfl) (by simp) ?_
      refine AllReadyH.cons rfl (fun K hK => ?_) AllReadyH.nil
      go_simp
      refine hK.out _ _ bV3' (fun _ => ?_)
      clear hK K
      try simp only [Act.put, List.setIfInBounds_toArray, List.set_cons_zero, List.set_cons_succ]
      refine wpAnyH_done (by kernel_rfl) ?_ _
      try go_wp2_with fail
      go_meet
      exact ⟨_, _, _, rfl, HM3.out⟩
    · go_simp
      refine hK.out _ _ (show Below W2.heap.size W2 _ from ((Below.refl _ W2).alloc (Nat.le_refl _) _).drew) (fun _ => ?_)
      clear hK K
      try simp only [Act.put, List.setIfInBounds_toArray, List.set_cons_zero, List.set_cons_succ]
      obtain ⟨V1, hV1⟩ : ∃ V, (W2.alloc (.cells (cellsW rn).toArray 21)).drew = V := ⟨_, rfl⟩
      rw [hV1]
      have bV1 : Below W2.heap.size W2 V1 := by rw [← hV1]; exact ((Below.refl _ W2).alloc (Nat.le_refl _) _).drew
      have cV1 : Below W2.heap.size W2 V1 := by rw [← hV1]; first | exact (Below.refl _ _).alloc (Nat.le_refl _) _ | exact ((Below.refl _ _).alloc (Nat.le_refl _) _).drew
      have gV1 : RegAt V1 W2.heap.size rn := by rw [← hV1]; exact heap_alloc_new _ _
      have sV1 : Hid (V1.heap.size = W2.heap.size + 1) := Lib.hid (by rw [← hV1]; simp)
      clear hV1
      refine wpAnyH_ready (rs := [0]) (by kernel_rfl) (by simp) ?_
      refine AllReadyH.cons rfl (fun K hK => ?_) AllReadyH.nil
      go_simp
      refine hK.out _ _ (show Below W2.heap.size W2 _ from bV1.trans (((Below.refl _ V1).alloc (Nat.le_refl _) _).mono bV1.size)) (fun _ => ?_)
      clear hK K
      try simp only [Act.put, List.setIfInBounds_toArray, List.set_cons_zero, List.set_cons_succ]
      obtain ⟨V2, hV2⟩ : ∃ V, V1.alloc (.cells (cellsW r32).toArray 21) = V := ⟨_, rfl⟩
      rw [hV2]
      have bV2 : Below W2.heap.size W2 V2 := by rw [← hV2]; exact bV1.trans (((Below.refl _ V1).alloc (Nat.le_refl _) _).mono bV1.size)
      have cV2 : Below V1.heap.size V1 V2 := by rw [← hV2]; first | exact (Below.refl _ _).alloc (Nat.le_refl _) _ | exact ((Below.refl _ _).alloc (Nat.le_refl _) _).drew
      have gV2 : RegAt V2 V1.heap.size r32 := by rw [← hV2]; exact heap_alloc_new _ _
      have sV2 : Hid (V2.heap.size = V1.heap.size + 1) := Lib.hid (by rw [← hV2]; simp)
      clear hV2
      have lt1 := gV1.lt
      have k1 : RegAt V2 W2.heap.size rn := gV1.same (cV2.block _ lt1)
      refine wpAnyH_ready (rs := [5]) (by kernel_rfl) (by simp) ?_
      refine AllReadyH.cons rfl (fun K hK => ?_) AllReadyH.nil
      go_simp
      refine hK.out _ _ bV2 (fun _ => ?_)
      clear hK K
      try simp only [Act.put, List.setIfInBounds_toArray, List.set_cons_zero, List.set_cons_succ]
      refine wpAnyH_ready (rs := [6]) (by kernel_rfl) (by simp) ?_
      refine AllReadyH.cons rfl (fun K hK => ?_) AllReadyH.nil
      go_simp
      have bV3' := bV2.trans (((Below.refl _ V2).alloc (Nat.le_refl _) (.cells #[.slice (some ⟨V1.heap.size, 0, none⟩) 32 32, .slice (some ⟨W2.heap.size, 0, none⟩) n n, .slice iA im ic, .int .i64 0, .int .i32 0, .slice none 0 0, .int .i64 0, .int .i64 0] 91)).mono bV2.size)
      refine hK.out _ _ bV3' (fun _ => ?_)
      clear hK K
      try simp only [Act.put, List.setIfInBounds_toArray, List.set_cons_zero, List.set_cons_succ]
      obtain ⟨V3, hV3⟩ : ∃ V, V2.alloc (.cells #[.slice (some ⟨V1.heap.size, 0, none⟩) 32 32, .slice (some ⟨W2.heap.size, 0, none⟩) n n, .slice iA im ic, .int .i64 0, .int .i32 0, .slice none 0 0, .int .i64 0, .int .i64 0] 91) = V := ⟨_, rfl⟩
      rw [hV3] at bV3' ⊢
      have cV3 : Below V2.heap.size V2 V3 := by rw [← hV3]; exact (Below.refl _ _).alloc (Nat.le_refl _) _
      have gV3 : V3.heap[V2.heap.size]? = some (.cells #[.slice (some ⟨V1.heap.size, 0, none⟩) 32 32, .slice (some ⟨W2.heap.size, 0, none⟩) n n, .slice iA im ic, .int .i64 0, .int .i32 0, .slice none 0 0, .int .i64 0, .int .i64 0] 91 (0, 0)) := by rw [← hV3]; exact heap_alloc_new _ _
      clear hV3
      have lt2 := gV2.lt
      have lt3 := k1.lt
      have HM3 : Hid (RMAt ⟨W2, V2.heap.size, V1.heap.size, W2.heap.size, n, iA, im, ic, inp⟩ V3 0 (newS n 0)) := Lib.hid (by
        have z1 := sV1.out
        have z2 := sV2.out
        have q1 : RegAt V3 W2.heap.size rn := k1.same (cV3.block _ lt3)
        have q2 : RegAt V3 V1.heap.size r32 := gV2.same (cV3.block _ lt2)
        rw [← HR32.out] at q2
        rw [← HRN.out] at q1
        refine ⟨bV3', ⟨by dsimp only; omega, by dsimp only; omega, by dsimp only; omega⟩, ⟨by dsimp only; omega, by dsimp only; omega, by dsimp only; omega⟩, q2, by simp [newS], q1, by simp [newS], HR.out, none, 0, gV3, SLine.nil 1 _, fun k hk => (by cases hk)⟩)
      refine wpAnyH_ready (rs := [7]) (by kernel_rfl) (by simp) ?_
      refine AllReadyH.cons rfl (fun K hK => ?_) AllReadyH.nil
      go_simp
      refine hK.out _ _ bV3' (fun _ => ?_)
      clear hK K
      try simp only [Act.put, List.setIfInBounds_toArray, List.set_cons_zero, List.set_cons_succ]
      refine wpAnyH_done (by kernel_rfl) ?_ _
      try go_wp2_with fail
      go_meet
      exact ⟨_, _, _, rfl, HM3.out⟩
  case rest =>
    obtain ⟨p, rb, mb, rfl, HM0⟩ := hcut
    clear HR32 HRN hmk hmk32 HR
    obtain ⟨E, hE⟩ : ∃ E, (⟨W2, p, rb, mb, n, iA, im, ic, inp⟩ : REnv) = E := ⟨_, rfl⟩
    rw [hE] at HM0
    have HM := HM0
    clear HM0
    have HE : Hid (E.w0 = W2 ∧ E.p = p ∧ E.rb = rb ∧ E.mb = mb ∧ E.mn = n ∧ E.iA = iA ∧ E.im = im ∧ E.ic = ic ∧ E.inp = inp) := Lib.hid (by rw [← hE]; exact ⟨rfl, rfl, rfl, rfl, rfl, rfl, rfl, rfl, rfl⟩)
    clear hE
    have HBE : Hid (∀ V q s, RMAt E V q s → Below W2.heap.size W2 V) := Lib.hid (fun V q s h => by have := h.below; rw [HE.out.1] at this; exact this)
    obtain ⟨y0, y1, y2⟩ := HMM.out wc (HBE.out _ _ _ HM.out)
    obtain ⟨pz, hpz⟩ : ∃ pz, posI ss ⟨#[46, 115, 116, 97, 114, 116]⟩ = pz := ⟨_, rfl⟩
    have HAT := Lib.hid (refAt_any wc SA sn sc ss (HS.out.below (HBE.out _ _ _ HM.out)) hsn ⟨#[46, 115, 116, 97, 114, 116]⟩ (by show (6 : Nat) ≤ _; omega))
    rw [hpz] at HAT
    have hpc0 := HPC0.out
    have HPC : Hid ((pz = -1 ∧ pc0 = 0) ∨ ∃ (k : Nat) (t : Sy), pz = (k : Int) ∧ ss[k]? = some t ∧ t.pos = pc0) := Lib.hid (by
      rw [← hpz, ← hpc0]
      show (posI ss startB = -1 ∧ symAt ss startB = 0) ∨ ∃ (k : Nat) (t : Sy), posI ss startB = (k : Int) ∧ ss[k]? = some t ∧ t.pos = symAt ss startB
      unfold posI symAt
      cases hp : posO ss startB with
      | none => exact .inl ⟨rfl, rfl⟩
      | some k =>
        obtain ⟨hk, -⟩ := List.findIdx?_eq_some_iff_getElem.1 hp
        refine .inr ⟨k, ss[k], rfl, List.getElem?_eq_getElem hk, ?_⟩
        dsimp only
        rw [List.getElem?_eq_getElem hk])
    have HP32 : Hid (R32 pc0) := Lib.hid (by
      rcases HPC.out with ⟨_, h⟩ | ⟨k, t, _, h1, h2⟩
      · rw [h]; exact zero_rng
      · rw [← h2]; exact HOK.out.2.2.1 t (List.mem_of_getElem? h1))
    clear hpz hpc0 HPC0
    go_upto_region 4 with (go_at_call 14; (with_reducible refine HAT.out.mono ?_); rintro e w3 ⟨rfl, hb3⟩; have HM3 := Lib.hid (HM.out.grow hb3); clear hb3)
    clear y0 y1 y2 HAT HM
    have HM := HM3
    clear HM3
    obtain ⟨y0, y1, y2⟩ := HMM.out w3 (HBE.out _ _ _ HM.out)
    have HSP : Hid (SoFar ls inp fuel (newS n pc0) (newS n pc0) ∧ Good inp (newS n pc0) ∧ W32 (newS n pc0)) := Lib.hid ⟨⟨rfl, Nat.zero_le _⟩, ⟨HP32.out, by simp [newS], by simp [newS]⟩, newS_rng _ _⟩
    have HST : Hid (RSt E ls fuel (newS n pc0) (fuel.toNat + 1) (.int .i32 pc0) w3) := Lib.hid (by
      refine ⟨newS n pc0, 0, HM.out.pin rfl rfl rfl rfl rfl rfl, .inl ⟨rfl, rfl, ?_, ?_, HSP.out.2.2, by show fuel.toNat - 0 + 1 ≤ _; omega⟩⟩
      · rw [HE.out.2.2.2.2.2.2.2.2]; exact HSP.out.2.1
      · rw [HE.out.2.2.2.2.2.2.2.2]; exact HSP.out.1)
    have HPP := HPC.out
    clear HPC HP32 HSP
    rcases HPP with ⟨rfl, rfl⟩ | ⟨kz, tz, rfl, htz, rfl⟩
    · have b9 : decide ((-1 : Int) ≥ 0) = false := by decide
      go_upto_region 6 with fail
      clear y0 y1 y2
      go_loopg [8] (fuel.toNat + 1) (fun kx v wr => Hid (RSt E ls fuel (newS n 0) kx v wr))
      case atStart => exact Lib.hid HST.out
      case round =>
        obtain ⟨s, q, hM, hq⟩ := hrel.out
        clear hrel HST HM
        have HINP : Hid (E.inp = inp) := Lib.hid HE.out.2.2.2.2.2.2.2.2
        rw [HINP.out] at hq
        have HMM0 := HMM.out wr (HBE.out _ _ _ hM)
        obtain ⟨y0, y1, y2⟩ := HMM0
        have HEP : Hid (E.p = p) := Lib.hid HE.out.2.1
        have HBR2 : Hid (Below w.heap.size w E.w0 ∧ (w.heap.size ≤ br ∧ br < E.w0.heap.size) ∧ E.w0.heap[br]? = some (.cells #[.int .i64 0, .int .i32 0, .slice none 0 0, .int .i64 0, .int .i64 0] 57 (0, 0))) := Lib.hid (by rw [HE.out.1]; exact ⟨HB.out, HBR.out, HRR.out⟩)
        rcases hq with ⟨rfl, rfl, hG, hS, hW, hkx⟩ | ⟨hq0, ⟨z, rfl⟩, hR⟩
        · have HM := Lib.hid hM
          obtain ⟨x0, x1, x2, x3, x4, x6, x7, fz, hpl⟩ := hM.cells
          rw [HEP.out] at x0 x1 x2 x3 x4 x6 x7 fz hpl
          have f3 := fz 3
          have f6 := fz 6
          have HG := Lib.hid (And.intro hG (And.intro hS (And.intro hW hkx)))
          have hpc := hG.pc
          have hln : ls.length = ln := HL.out.1
          have hl2 : (ln : Int) ≤ 100000 := by have := HOK.out.2.1; omega
          obtain ⟨z, hz⟩ : ∃ z, s.pc = z := ⟨_, rfl⟩
          have HZ := Lib.hid hz
          rw [hz] at hpc ⊢
          obtain ⟨z1, z2⟩ := hpc
          have b0 : ((0 : Int) == 0) = true := rfl
          by_cases hc : z < 0 ∨ z % 4 ≠ 0 ∨ (ls.length : Int) ≤ z / 4
          · have hs : stepM ls inp fuel s = .fin 6 s := by unfold stepM; rw [hz, if_pos hc]
            have HRE : Hid (runR ls inp fuel (newS n 0) = ⟨6, s.v, s.tr, s.steps, s.reads⟩) := Lib.hid (hS.done hs)
            obtain ⟨W5, hW5⟩ : ∃ W5, wr.setCell ⟨p, 3, none⟩ (.int .i64 6) = W5 := ⟨_, rfl⟩
            have HME : Hid (RMAt E W5 6 s) := Lib.hid (by rw [← hW5, ← HEP.out]; exact hM.fin 6)
            rw [hln] at hc
            clear hM hG hS hW hs hkx hz fz hln
            by_cases c1 : z < 0
            · clear hc
              go_upto_region 16 with fail
              clear hW5 x0 x1 x2 x3 x4 x6 x7
              obtain ⟨tA, tc, c5, hbz, hfin⟩ := HME.out.out HBR2.out.1 HBR2.out.2.1 HRE.out HBR2.out.2.2
              obtain ⟨e0, e1, e2, e3, e4, e6, e7, -, -⟩ := HME.out.cells
              rw [HEP.out] at c5 e3 e4 e6 e7
              have t0 := frozen_of_row _ br 0 _ _ hbz
              have t1 := frozen_of_row _ br 1 _ _ hbz
              have t2 := frozen_of_row _ br 2 _ _ hbz
              have t3 := frozen_of_row _ br 3 _ _ hbz
              have t4 := frozen_of_row _ br 4 _ _ hbz
              have g0 : W5.cell? ⟨br, 0, none⟩ = some (.int .i64 0) := by rw [cell_of_row _ br 0 _ _ (0, 0) hbz]; rfl
              have g1 : W5.cell? ⟨br, 1, none⟩ = some (.int .i32 0) := by rw [cell_of_row _ br 1 _ _ (0, 0) hbz]; rfl
              have g2 : W5.cell? ⟨br, 2, none⟩ = some (.slice none 0 0) := by rw [cell_of_row _ br 2 _ _ (0, 0) hbz]; rfl
              have g3 : W5.cell? ⟨br, 3, none⟩ = some (.int .i64 0) := by rw [cell_of_row _ br 3 _ _ (0, 0) hbz]; rfl
              have g4 : W5.cell? ⟨br, 4, none⟩ = some (.int .i64 0) := by rw [cell_of_row _ br 4 _ _ (0, 0) hbz]; rfl
              have HFIN := Lib.hid hfin
              clear hfin hbz e0 e1 e2
              generalize s.v = sv at *
              generalize s.tr.length = sl at *
              generalize (s.steps : Int) = st at *
              generalize (s.reads : Int) = sr at *
              go_wp2_with fail
              have hF := HFIN.out _ rfl
              refine bodyPost_ret (results_run _ _ br _ rfl hF.1 rfl) rfl ?_
              exact hF.2
            · by_cases c2 : z % 4 = 0
              · have c3 : (ln : Int) ≤ z / 4 := by omega
                have e1 : z.tdiv 4 = z / 4 := Int.tdiv_eq_ediv_of_nonneg (by omega)
                have e2 : z.tmod 4 = 0 := by rw [Int.tmod_eq_emod_of_nonneg (by omega)]; exact c2
                have e3 : 0 ≤ z / 4 := by omega
                have e4 : z / 4 ≤ 2147483647 := by omega
                obtain ⟨y, hy⟩ : ∃ y, z / 4 = y := ⟨_, rfl⟩
                rw [hy] at c3 e1 e3 e4
                clear hc hy
                go_upto_region 16 with fail
                clear hW5 x0 x1 x2 x3 x4 x6 x7
                obtain ⟨tA, tc, c5, hbz, hfin⟩ := HME.out.out HBR2.out.1 HBR2.out.2.1 HRE.out HBR2.out.2.2
                obtain ⟨e0, e1, e2, e3, e4, e6, e7, -, -⟩ := HME.out.cells
                rw [HEP.out] at c5 e3 e4 e6 e7
                have t0 := frozen_of_row _ br 0 _ _ hbz
                have t1 := frozen_of_row _ br 1 _ _ hbz
                have t2 := frozen_of_row _ br 2 _ _ hbz
                have t3 := frozen_of_row _ br 3 _ _ hbz
                have t4 := frozen_of_row _ br 4 _ _ hbz
                have g0 : W5.cell? ⟨br, 0, none⟩ = some (.int .i64 0) := by rw [cell_of_row _ br 0 _ _ (0, 0) hbz]; rfl
                have g1 : W5.cell? ⟨br, 1, none⟩ = some (.int .i32 0) := by rw [cell_of_row _ br 1 _ _ (0, 0) hbz]; rfl
                have g2 : W5.cell? ⟨br, 2, none⟩ = some (.slice none 0 0) := by rw [cell_of_row _ br 2 _ _ (0, 0) hbz]; rfl
                have g3 : W5.cell? ⟨br, 3, none⟩ = some (.int .i64 0) := by rw [cell_of_row _ br 3 _ _ (0, 0) hbz]; rfl
                have g4 : W5.cell? ⟨br, 4, none⟩ = some (.int .i64 0) := by rw [cell_of_row _ br 4 _ _ (0, 0) hbz]; rfl
                have HFIN := Lib.hid hfin
                clear hfin hbz e0 e1 e2
                generalize s.v = sv at *
                generalize s.tr.length = sl at *
                generalize (s.steps : Int) = st at *
                generalize (s.reads : Int) = sr at *
                go_wp2_with fail
                have hF := HFIN.out _ rfl
                refine bodyPost_ret (results_run _ _ br _ rfl hF.1 rfl) rfl ?_
                exact hF.2
              · have e2 : ¬ z.tmod 4 = 0 := by rw [Int.tmod_eq_emod_of_nonneg (by omega)]; exact c2
                clear hc
                go_upto_region 16 with fail
                clear hW5 x0 x1 x2 x3 x4 x6 x7
                obtain ⟨tA, tc, c5, hbz, hfin⟩ := HME.out.out HBR2.out.1 HBR2.out.2.1 HRE.out HBR2.out.2.2
                obtain ⟨e0, e1, e2, e3, e4, e6, e7, -, -⟩ := HME.out.cells
                rw [HEP.out] at c5 e3 e4 e6 e7
                have t0 := frozen_of_row _ br 0 _ _ hbz
                have t1 := frozen_of_row _ br 1 _ _ hbz
                have t2 := frozen_of_row _ br 2 _ _ hbz
                have t3 := frozen_of_row _ br 3 _ _ hbz
                have t4 := frozen_of_row _ br 4 _ _ hbz
                have g0 : W5.cell? ⟨br, 0, none⟩ = some (.int .i64 0) := by rw [cell_of_row _ br 0 _ _ (0, 0) hbz]; rfl
                have g1 : W5.cell? ⟨br, 1, none⟩ = some (.int .i32 0) := by rw [cell_of_row _ br 1 _ _ (0, 0) hbz]; rfl
                have g2 : W5.cell? ⟨br, 2, none⟩ = some (.slice none 0 0) := by rw [cell_of_row _ br 2 _ _ (0, 0) hbz]; rfl
                have g3 : W5.cell? ⟨br, 3, none⟩ = some (.int .i64 0) := by rw [cell_of_row _ br 3 _ _ (0, 0) hbz]; rfl
                have g4 : W5.cell? ⟨br, 4, none⟩ = some (.int .i64 0) := by rw [cell_of_row _ br 4 _ _ (0, 0) hbz]; rfl
                have HFIN := Lib.hid hfin
                clear hfin hbz e0 e1 e2
                generalize s.v = sv at *
                generalize s.tr.length = sl at *
                generalize (s.steps : Int) = st at *
                generalize (s.reads : Int) = sr at *
                go_wp2_with fail
                have hF := HFIN.out _ rfl
                refine bodyPost_ret (results_run _ _ br _ rfl hF.1 rfl) rfl ?_
                exact hF.2
          · have hc2 := hc
            simp only [not_or, Int.not_lt, Int.not_le, Decidable.not_not] at hc2
            obtain ⟨c1, c2, c3⟩ := hc2
            obtain ⟨kk, hkk⟩ : ∃ kk : Nat, z = 4 * (kk : Int) := ⟨(z / 4).toNat, by omega⟩
            have e1 : z.tdiv 4 = (kk : Int) := by rw [Int.tdiv_eq_ediv_of_nonneg (by omega)]; omega
            have e2 : z.tmod 4 = 0 := by rw [Int.tmod_eq_emod_of_nonneg (by omega)]; exact c2
            have c4 : (kk : Int) < (ln : Int) := by omega
            have c5 : (0 : Int) ≤ (kk : Int) := by omega
            have c1' : ¬ z < 0 := by omega
            have hkl : kk < ls.length := by omega
            have hq4 : (z / 4).toNat = kk := by omega
            have hz4 : (kk : Int) ≤ 2147483647 := by omega
            by_cases hf : fuel ≤ (s.steps : Int)
            · have hs : stepM ls inp fuel s = .fin 5 s := by unfold stepM; rw [hz, if_neg hc, if_pos hf]
              have HRE : Hid (runR ls inp fuel (newS n 0) = ⟨5, s.v, s.tr, s.steps, s.reads⟩) := Lib.hid (hS.done hs)
              obtain ⟨W5, hW5⟩ : ∃ W5, wr.setCell ⟨p, 3, none⟩ (.int .i64 5) = W5 := ⟨_, rfl⟩
              have HME : Hid (RMAt E W5 5 s) := Lib.hid (by rw [← hW5, ← HEP.out]; exact hM.fin 5)
              have HSS : Hid ((s.steps : Int) = s.steps) := Lib.hid rfl
              clear hM hG hS hW hs hkx hz fz hln hc hkk hkl hq4 c2 c3
              go_upto_region 16 with fail
              clear hW5 x0 x1 x2 x3 x4 x6 x7 hf
              obtain ⟨tA, tc, c5, hbz, hfin⟩ := HME.out.out HBR2.out.1 HBR2.out.2.1 HRE.out HBR2.out.2.2
              obtain ⟨e0, e1, e2, e3, e4, e6, e7, -, -⟩ := HME.out.cells
              rw [HEP.out] at c5 e3 e4 e6 e7
              have t0 := frozen_of_row _ br 0 _ _ hbz
              have t1 := frozen_of_row _ br 1 _ _ hbz
              have t2 := frozen_of_row _ br 2 _ _ hbz
              have t3 := frozen_of_row _ br 3 _ _ hbz
              have t4 := frozen_of_row _ br 4 _ _ hbz
              have g0 : W5.cell? ⟨br, 0, none⟩ = some (.int .i64 0) := by rw [cell_of_row _ br 0 _ _ (0, 0) hbz]; rfl
              have g1 : W5.cell? ⟨br, 1, none⟩ = some (.int .i32 0) := by rw [cell_of_row _ br 1 _ _ (0, 0) hbz]; rfl
              have g2 : W5.cell? ⟨br, 2, none⟩ = some (.slice none 0 0) := by rw [cell_of_row _ br 2 _ _ (0, 0) hbz]; rfl
              have g3 : W5.cell? ⟨br, 3, none⟩ = some (.int .i64 0) := by rw [cell_of_row _ br 3 _ _ (0, 0) hbz]; rfl
              have g4 : W5.cell? ⟨br, 4, none⟩ = some (.int .i64 0) := by rw [cell_of_row _ br 4 _ _ (0, 0) hbz]; rfl
              have HFIN := Lib.hid hfin
              clear hfin hbz e0 e1 e2
              generalize s.v = sv at *
              generalize s.tr.length = sl at *
              generalize (s.steps : Int) = st at *
              generalize (s.reads : Int) = sr at *
              go_wp2_with fail
              have hF := HFIN.out _ rfl
              refine bodyPost_ret (results_run _ _ br _ rfl hF.1 rfl) rfl ?_
              exact hF.2
            · obtain ⟨l, hl⟩ : ∃ l, ls[kk]? = some l := ⟨_, List.getElem?_eq_getElem hkl⟩
              have hok := HOK.out.1 l (List.mem_of_getElem? hl)
              obtain ⟨s1, hs1⟩ : ∃ s1, ({ s with steps := s.steps + 1 } : MS) = s1 := ⟨_, rfl⟩
              have hs : stepM ls inp fuel s = insM inp l s1 := by rw [← hs1]; unfold stepM; rw [hz, if_neg hc, if_neg hf, hq4, hl]
              have hz1 : s1.pc = z := by rw [← hs1]; exact hz
              rw [insM_do hok, hz1] at hs
              have HSTEP := Lib.hid hs
              have HOKL := Lib.hid hok
              obtain ⟨o1, o2⟩ := hok.op
              obtain ⟨a1, a2⟩ := hok.a
              obtain ⟨b1, b2⟩ := hok.b
              obtain ⟨d1, d2⟩ := hok.d
              have hnn := hok.n
              have hlk := hok.k
              obtain ⟨g, off, eA, hg, hcl⟩ := HL.out.2 (by omega)
              obtain ⟨lk, lo, ld, la, lb, lnn, lsym⟩ := l
              dsimp only at o1 o2 a1 a2 b1 b2 d1 d2 hlk hnn
              subst hlk
              obtain ⟨an, ha⟩ : ∃ an : Nat, la = (an : Int) := ⟨la.toNat, by omega⟩
              obtain ⟨bn, hbn⟩ : ∃ bn : Nat, lb = (bn : Int) := ⟨lb.toNat, by omega⟩
              obtain ⟨dn, hdn⟩ : ∃ dn : Nat, ld = (dn : Int) := ⟨ld.toNat, by omega⟩
              subst ha hbn hdn
              have HLC : Hid (∀ V q s', RMAt E V q s' → ∀ j v, (Ln.mk 2 lo dn an bn lnn lsym).cells[j]? = some v → V.cell? ⟨g, off + kk * 7 + j, none⟩ = some v) := Lib.hid (fun V q s' hV j v hj => ((HBE.out _ _ _ hV).cell (p := ⟨g, off + kk * 7 + j, none⟩) hg).trans (hcl kk _ hl j v hj))
              obtain ⟨W6, hW6⟩ : ∃ W6, wr.setCell ⟨p, 6, none⟩ (.int .i64 ((s.steps : Int) + 1)) = W6 := ⟨_, rfl⟩
              have hM6 : RMAt E W6 0 { s with steps := s.steps + 1 } := by rw [← hW6, ← HEP.out]; exact hM.step
              rw [hs1] at hM6
              have hs6 : (s.steps : Int) ≤ 100000 := by have := hS.2; omega
              have hs0 : (0 : Int) ≤ (s.steps : Int) := by omega
              have HS1 : Hid (s1.regs = s.regs ∧ s1.mem = s.mem ∧ s1.tr = s.tr ∧ s1.reads = s.reads ∧ W32 s1) := Lib.hid (by rw [← hs1]; exact ⟨rfl, rfl, rfl, rfl, hW⟩)
              obtain ⟨w0', w1', w2'⟩ := HMM.out W6 (HBE.out _ _ _ hM6)
              rw [eA] at y0 w0'
              have d0 := HLC.out _ _ _ hM6 0 _ rfl
              have d1' := HLC.out _ _ _ hM6 1 _ rfl
              have d2' := HLC.out _ _ _ hM6 2 _ rfl
              have d3 := HLC.out _ _ _ hM6 3 _ rfl
              have d4 := HLC.out _ _ _ hM6 4 _ rfl
              have d5 := HLC.out _ _ _ hM6 5 _ rfl
              have d6 := HLC.out _ _ _ hM6 6 _ rfl
              rw [Nat.add_zero] at d0
              obtain ⟨b10, hb10⟩ : ∃ b, W6.heap.size = b := ⟨_, rfl⟩
              obtain ⟨W7, hW7⟩ : ∃ W7, W6.alloc (.cells #[.int .i64 2, .int .i64 lo, .int .i64 (dn : Int), .int .i64 (an : Int), .int .i64 (bn : Int), .int .i32 lnn, .string lsym] 39) = W7 := ⟨_, rfl⟩
              have hb67 : Below W6.heap.size W6 W7 := by rw [← hW7]; exact (Below.refl _ _).alloc (Nat.le_refl _) _
              have hM7 := hM6.grow hb67
              have hn7 : W7.heap[b10]? = some (.cells #[.int .i64 2, .int .i64 lo, .int .i64 (dn : Int), .int .i64 (an : Int), .int .i64 (bn : Int), .int .i32 lnn, .string lsym] 39 (0, 0)) := by rw [← hW7, ← hb10]; exact heap_alloc_new W6 _
              have HM7 := Lib.hid hM7
              have HBL : Hid (b10 < W7.heap.size) := Lib.hid (Array.getElem?_eq_some_iff.1 hn7).1
              have hra := getD_rng HS1.out.2.2.2.2.1 an
              have hrb := getD_rng HS1.out.2.2.2.2.1 bn
              obtain ⟨ra, hraE⟩ : ∃ ra, s1.regs.getD an 0 = ra := ⟨_, rfl⟩
              obtain ⟨rb', hrbE⟩ : ∃ rb', s1.regs.getD bn 0 = rb' := ⟨_, rfl⟩
              rw [hraE] at hra
              rw [hrbE] at hrb
              have HRAB : Hid (s1.regs.getD an 0 = ra ∧ s1.regs.getD bn 0 = rb') := Lib.hid ⟨hraE, hrbE⟩
              have HSTP : Hid (∀ V, Calls Try.prog 17 #[.agg #[.int .i64 2, .int .i64 lo, .int .i64 (dn : Int), .int .i64 (an : Int), .int .i64 (bn : Int), .int .i32 lnn, .string lsym], .int .i32 ra, .int .i32 rb', .int .i32 z] V fun e w' => e = .returned (.tuple #[.int .i32 (stepI lo lnn ra rb' z).1, .int .i32 (stepI lo lnn ra rb' z).2]) ∧ Below V.heap.size V w') := Lib.hid (fun V => rstep_any lo dn an bn lnn ra rb' z o1 o2 hnn hra hrb ⟨z1, z2⟩ lsym V)
              have HF : Hid (∀ V, Below W7.heap.size W7 V → V.cell? ⟨p, 0, none⟩ = some (.slice (some ⟨rb, 0, none⟩) 32 32) ∧ V.cell? ⟨rb, an, none⟩ = some (.int .i32 ra) ∧ V.cell? ⟨rb, bn, none⟩ = some (.int .i32 rb') ∧ V.cell? ⟨b10, 0, none⟩ = some (.int .i64 2) ∧ V.cell? ⟨b10, 1, none⟩ = some (.int .i64 lo) ∧ V.cell? ⟨b10, 2, none⟩ = some (.int .i64 (dn : Int)) ∧ V.cell? ⟨b10, 3, none⟩ = some (.int .i64 (an : Int)) ∧ V.cell? ⟨b10, 4, none⟩ = some (.int .i64 (bn : Int)) ∧ V.cell? ⟨b10, 5, none⟩ = some (.int .i32 lnn) ∧ V.cell? ⟨b10, 6, none⟩ = some (.string lsym)) := Lib.hid (fun V hV => by
                have hq := HM7.out.grow hV
                have q0 := hq.cells.1
                rw [HEP.out, HE.out.2.2.1] at q0
                have qa := hq.regs.cell an (by rw [hq.rlen]; omega)
                have qb := hq.regs.cell bn (by rw [hq.rlen]; omega)
                rw [HE.out.2.2.1, hraE] at qa
                rw [HE.out.2.2.1, hrbE] at qb
                have hn9 := (hV.block b10 HBL.out).trans hn7
                refine ⟨q0, qa, qb, ?_, ?_, ?_, ?_, ?_, ?_, ?_⟩ <;> (rw [cell_of_row _ b10 _ _ _ (0, 0) hn9]; rfl))
              have HRNG : Hid (s1.tr.length ≤ 100000 ∧ s1.reads ≤ E.inp.length ∧ E.inp.length ≤ 90000 ∧ E.mn ≤ 1000000) := Lib.hid (by
                have h1 := hG.tr
                have h2 := hG.reads
                have h3 := hS.2
                have h4 := HOK.out.2.2.2.2.1
                have h5 := HOK.out.2.2.2.2.2
                rw [HS1.out.2.2.1, HS1.out.2.2.2.1, HE.out.2.2.2.2.1]
                rw [HINP.out]
                refine ⟨by omega, h2, by omega, by omega⟩)
              have hfb : decide (fuel ≤ (s.steps : Int)) = false := by simp; omega
              have e9 : an < 32 := by omega
              have e8 : bn < 32 := by omega
              have a3 : (0 : Int) ≤ (an : Int) := by omega
              have a4 : (an : Int) < 32 := by omega
              have b3 : (0 : Int) ≤ (bn : Int) := by omega
              have b4 : (bn : Int) < 32 := by omega
              clear hM hM6 hM7 hG hS hW hs hs1 hz1 hkx hz fz hln hc hkk hkl hq4 c2 c3 hl hok hg hcl eA hn7 hb67 hra hrb hraE hrbE o1 o2 a1 a2 b1 b2 d1 d2 hnn e9 e8
              go_upto_region 13 with fail
              clear hW6 hW7 x0 x1 x2 x3 x4 x6 x7 f3 f6 y0 y1 y2 w0' w1' w2' d0 d1' d2' d3 d4 d5 d6 hb10 hf hpl
              refine wp_region_held_drew (S := fun V => Below W7.heap.size W7 V) (by kernel_rfl) ((Below.refl _ W7).drew) (fun _ => ?_)
              refine takeH 0 84 (v := (.agg #[.int .i64 2, .int .i64 lo, .int .i64 (dn : Int), .int .i64 (an : Int), .int .i64 (bn : Int), .int .i32 lnn, .string lsym])) rfl rfl (by kernel_rfl) (by kernel_rfl) (by kernel_rfl) (fun _ _ _ h => h) (by rfl) ?_ (by assumption) ?_
              · intro w hSw
                obtain ⟨k0, ka, kb, u0, u1, u2, u3, u4, u5, u6⟩ := HF.out w hSw
                go_simp
              try simp only [Act.put, List.setIfInBounds_toArray, List.set_cons_zero, List.set_cons_succ]
              refine takeH 1 85 (v := (.pointer (some ⟨p, 0, none⟩))) rfl rfl (by kernel_rfl) (by kernel_rfl) (by kernel_rfl) (fun _ _ _ h => h) (by rfl) ?_ (by assumption) ?_
              · intro w hSw
                obtain ⟨k0, ka, kb, u0, u1, u2, u3, u4, u5, u6⟩ := HF.out w hSw
                go_simp
              try simp only [Act.put, List.setIfInBounds_toArray, List.set_cons_zero, List.set_cons_succ]
              refine takeH 2 86 (v := (.pointer (some ⟨p, 0, none⟩))) rfl rfl (by kernel_rfl) (by kernel_rfl) (by kernel_rfl) (fun _ _ _ h => h) (by rfl) ?_ (by assumption) ?_
              · intro w hSw
                obtain ⟨k0, ka, kb, u0, u1, u2, u3, u4, u5, u6⟩ := HF.out w hSw
                go_simp
              try simp only [Act.put, List.setIfInBounds_toArray, List.set_cons_zero, List.set_cons_succ]
              refine takeH 3 87 (v := (.pointer (some ⟨p, 0, none⟩))) rfl rfl (by kernel_rfl) (by kernel_rfl) (by kernel_rfl) (fun _ _ _ h => h) (by rfl) ?_ (by assumption) ?_
              · intro w hSw
                obtain ⟨k0, ka, kb, u0, u1, u2, u3, u4, u5, u6⟩ := HF.out w hSw
                go_simp
              try simp only [Act.put, List.setIfInBounds_toArray, List.set_cons_zero, List.set_cons_succ]
              refine takeH 4 88 (v := (.slice (some ⟨rb, 0, none⟩) 32 32)) rfl rfl (by kernel_rfl) (by kernel_rfl) (by kernel_rfl) (fun _ _ _ h => h) (by rfl) ?_ (by assumption) ?_
              · intro w hSw
                obtain ⟨k0, ka, kb, u0, u1, u2, u3, u4, u5, u6⟩ := HF.out w hSw
                go_simp
              try simp only [Act.put, List.setIfInBounds_toArray, List.set_cons_zero, List.set_cons_succ]
              refine takeH 5 89 (v := (.pointer (some ⟨b10, 3, none⟩))) rfl rfl (by kernel_rfl) (by kernel_rfl) (by kernel_rfl) (fun _ _ _ h => h) (by rfl) ?_ (by assumption) ?_
              · intro w hSw
                obtain ⟨k0, ka, kb, u0, u1, u2, u3, u4, u5, u6⟩ := HF.out w hSw
                go_simp
              try simp only [Act.put, List.setIfInBounds_toArray, List.set_cons_zero, List.set_cons_succ]
              refine takeH 6 90 (v := (.int .i64 (an : Int))) rfl rfl (by kernel_rfl) (by kernel_rfl) (by kernel_rfl) (fun _ _ _ h => h) (by rfl) ?_ (by assumption) ?_
              · intro w hSw
                obtain ⟨k0, ka, kb, u0, u1, u2, u3, u4, u5, u6⟩ := HF.out w hSw
                go_simp
              try simp only [Act.put, List.setIfInBounds_toArray, List.set_cons_zero, List.set_cons_succ]
              refine takeH 7 91 (v := (.pointer (some ⟨rb, an, none⟩))) rfl rfl (by kernel_rfl) (by kernel_rfl) (by kernel_rfl) (fun _ _ _ h => h) (by rfl) ?_ (by assumption) ?_
              · intro w hSw
                obtain ⟨k0, ka, kb, u0, u1, u2, u3, u4, u5, u6⟩ := HF.out w hSw
                go_simp
              try simp only [Act.put, List.setIfInBounds_toArray, List.set_cons_zero, List.set_cons_succ]
              refine takeH 8 92 (v := (.int .i32 ra)) rfl rfl (by kernel_rfl) (by kernel_rfl) (by kernel_rfl) (fun _ _ _ h => h) (by rfl) ?_ (by assumption) ?_
              · intro w hSw
                obtain ⟨k0, ka, kb, u0, u1, u2, u3, u4, u5, u6⟩ := HF.out w hSw
                go_simp
              try simp only [Act.put, List.setIfInBounds_toArray, List.set_cons_zero, List.set_cons_succ]
              refine takeH 9 93 (v := (.pointer (some ⟨p, 0, none⟩))) rfl rfl (by kernel_rfl) (by kernel_rfl) (by kernel_rfl) (fun _ _ _ h => h) (by rfl) ?_ (by assumption) ?_
              · intro w hSw
                obtain ⟨k0, ka, kb, u0, u1, u2, u3, u4, u5, u6⟩ := HF.out w hSw
                go_simp
              try simp only [Act.put, List.setIfInBounds_toArray, List.set_cons_zero, List.set_cons_succ]
              refine takeH 10 94 (v := (.pointer (some ⟨p, 0, none⟩))) rfl rfl (by kernel_rfl) (by kernel_rfl) (by kernel_rfl) (fun _ _ _ h => h) (by rfl) ?_ (by assumption) ?_
              · intro w hSw
                obtain ⟨k0, ka, kb, u0, u1, u2, u3, u4, u5, u6⟩ := HF.out w hSw
                go_simp
              try simp only [Act.put, List.setIfInBounds_toArray, List.set_cons_zero, List.set_cons_succ]
              refine takeH 11 95 (v := (.pointer (some ⟨p, 0, none⟩))) rfl rfl (by kernel_rfl) (by kernel_rfl) (by kernel_rfl) (fun _ _ _ h => h) (by rfl) ?_ (by assumption) ?_
              · intro w hSw
                obtain ⟨k0, ka, kb, u0, u1, u2, u3, u4, u5, u6⟩ := HF.out w hSw
                go_simp
              try simp only [Act.put, List.setIfInBounds_toArray, List.set_cons_zero, List.set_cons_succ]
              refine takeH 12 96 (v := (.slice (some ⟨rb, 0, none⟩) 32 32)) rfl rfl (by kernel_rfl) (by kernel_rfl) (by kernel_rfl) (fun _ _ _ h => h) (by rfl) ?_ (by assumption) ?_
              · intro w hSw
                obtain ⟨k0, ka, kb, u0, u1, u2, u3, u4, u5, u6⟩ := HF.out w hSw
                go_simp
              try simp only [Act.put, List.setIfInBounds_toArray, List.set_cons_zero, List.set_cons_succ]
              refine takeH 13 97 (v := (.pointer (some ⟨b10, 4, none⟩))) rfl rfl (by kernel_rfl) (by kernel_rfl) (by kernel_rfl) (fun _ _ _ h => h) (by rfl) ?_ (by assumption) ?_
              · intro w hSw
                obtain ⟨k0, ka, kb, u0, u1, u2, u3, u4, u5, u6⟩ := HF.out w hSw
                go_simp
              try simp only [Act.put, List.setIfInBounds_toArray, List.set_cons_zero, List.set_cons_succ]
              refine takeH 14 98 (v := (.int .i64 (bn : Int))) rfl rfl (by kernel_rfl) (by kernel_rfl) (by kernel_rfl) (fun _ _ _ h => h) (by rfl) ?_ (by assumption) ?_
              · intro w hSw
                obtain ⟨k0, ka, kb, u0, u1, u2, u3, u4, u5, u6⟩ := HF.out w hSw
                go_simp
              try simp only [Act.put, List.setIfInBounds_toArray, List.set_cons_zero, List.set_cons_succ]
              refine takeH 15 99 (v := (.pointer (some ⟨rb, bn, none⟩))) rfl rfl (by kernel_rfl) (by kernel_rfl) (by kernel_rfl) (fun _ _ _ h => h) (by rfl) ?_ (by assumption) ?_
              · intro w hSw
                obtain ⟨k0, ka, kb, u0, u1, u2, u3, u4, u5, u6⟩ := HF.out w hSw
                go_simp
              try simp only [Act.put, List.setIfInBounds_toArray, List.set_cons_zero, List.set_cons_succ]
              refine takeH 16 100 (v := (.int .i32 rb')) rfl rfl (by kernel_rfl) (by kernel_rfl) (by kernel_rfl) (fun _ _ _ h => h) (by rfl) ?_ (by assumption) ?_
              · intro w hSw
                obtain ⟨k0, ka, kb, u0, u1, u2, u3, u4, u5, u6⟩ := HF.out w hSw
                go_simp
              try simp only [Act.put, List.setIfInBounds_toArray, List.set_cons_zero, List.set_cons_succ]
              refine takeH 17 101 (v := (.int .i32 z)) rfl rfl (by kernel_rfl) (by kernel_rfl) (by kernel_rfl) (fun _ _ _ h => h) (by rfl) ?_ (by assumption) ?_
              · intro w hSw
                obtain ⟨k0, ka, kb, u0, u1, u2, u3, u4, u5, u6⟩ := HF.out w hSw
                go_simp
              try simp only [Act.put, List.setIfInBounds_toArray, List.set_cons_zero, List.set_cons_succ]
              refine wpAnyH_ready (rs := [18]) (by kernel_rfl) (by simp) ?_
              refine AllReadyH.cons rfl (fun K hK => ?_) AllReadyH.nil
              go_simp
              go_at_call 17
              (with_reducible refine (HSTP.out _).mono ?_)
              rintro en w8 ⟨rfl, hb8⟩
              have HB8 := Lib.hid ((show Below W7.heap.size W7 _ by assumption).trans (hb8.mono (show Below W7.heap.size W7 _ by assumption).size))
              clear hb8
              refine hK.out _ _ HB8.out (fun _ => ?_)
              clear hK K
              try simp only [Act.put, List.setIfInBounds_toArray, List.set_cons_zero, List.set_cons_succ]
              refine takeH 19 83 (v := (.tuple #[.int .i32 (stepI lo lnn ra rb' z).1, .int .i32 (stepI lo lnn ra rb' z).2])) rfl rfl (by kernel_rfl) (by kernel_rfl) (by kernel_rfl) (fun _ _ _ h => h) (by rfl) ?_ HB8.out ?_
              · intro w hSw
                obtain ⟨k0, ka, kb, u0, u1, u2, u3, u4, u5, u6⟩ := HF.out w hSw
                go_simp
              try simp only [Act.put, List.setIfInBounds_toArray, List.set_cons_zero, List.set_cons_succ]
              refine takeH 20 103 (v := (.int .i32 (stepI lo lnn ra rb' z).1)) rfl rfl (by kernel_rfl) (by kernel_rfl) (by kernel_rfl) (fun _ _ _ h => h) (by rfl) ?_ HB8.out ?_
              · intro w hSw
                obtain ⟨k0, ka, kb, u0, u1, u2, u3, u4, u5, u6⟩ := HF.out w hSw
                go_simp
              try simp only [Act.put, List.setIfInBounds_toArray, List.set_cons_zero, List.set_cons_succ]
              refine takeH 22 11 (v := (.int .i32 (stepI lo lnn ra rb' z).1)) rfl rfl (by kernel_rfl) (by kernel_rfl) (by kernel_rfl) (fun _ _ _ h => h) (by rfl) ?_ HB8.out ?_
              · intro w hSw
                obtain ⟨k0, ka, kb, u0, u1, u2, u3, u4, u5, u6⟩ := HF.out w hSw
                go_simp
              try simp only [Act.put, List.setIfInBounds_toArray, List.set_cons_zero, List.set_cons_succ]
              refine takeH 21 104 (v := (.int .i32 (stepI lo lnn ra rb' z).2)) rfl rfl (by kernel_rfl) (by kernel_rfl) (by kernel_rfl) (fun _ _ _ h => h) (by rfl) ?_ HB8.out ?_
              · intro w hSw
                obtain ⟨k0, ka, kb, u0, u1, u2, u3, u4, u5, u6⟩ := HF.out w hSw
                go_simp
              try simp only [Act.put, List.setIfInBounds_toArray, List.set_cons_zero, List.set_cons_succ]
              refine takeH 23 12 (v := (.int .i32 (stepI lo lnn ra rb' z).2)) rfl rfl (by kernel_rfl) (by kernel_rfl) (by kernel_rfl) (fun _ _ _ h => h) (by rfl) ?_ HB8.out ?_
              · intro w hSw
                obtain ⟨k0, ka, kb, u0, u1, u2, u3, u4, u5, u6⟩ := HF.out w hSw
                go_simp
              try simp only [Act.put, List.setIfInBounds_toArray, List.set_cons_zero, List.set_cons_succ]
              refine wpAnyH_done (by kernel_rfl) ?_ _
              have hM8 := HM7.out.grow HB8.out
              obtain ⟨k0, ka, kb, u0, u1, u2, u3, u4, u5, u6⟩ := HF.out _ HB8.out
              have HDO := Lib.hid (rdo_any hM8 HS1.out.2.2.2.2 HRNG.out.2.2.2 _ HOKL.out (stepI lo lnn ra rb' z).1 HRNG.out.1 HRNG.out.2.1 HRNG.out.2.2.1)
              unfold Ln.val at HDO
              dsimp only at HDO
              have HDO := Lib.hid (HDO.out.mono (fun en w' hO => rdo_ret hO))
              rw [HEP.out, HINP.out] at HDO
              have hR2 := stepI_rng lo lnn ra rb' z
              have HSTEP2 : Hid (stepM ls inp fuel s = (doM inp ⟨2, lo, dn, an, bn, lnn, lsym⟩ (stepI lo lnn ra rb' z).1 s1).at (stepI lo lnn ra rb' z).2) := Lib.hid (by
                have h := HSTEP.out
                rw [← HRAB.out.1, ← HRAB.out.2]
                exact h)
              clear hM8 HSTEP k0 ka kb HF HM7 HSTP HLC HM
              generalize (stepI lo lnn ra rb' z) = sti at *
              generalize doM inp ⟨2, lo, dn, an, bn, lnn, lsym⟩ sti.1 s1 = mo at *
              go_upto_region 15 with (go_at_call 44; (with_reducible refine HDO.out.mono ?_); rintro en w9 ⟨rfl, hO9⟩)
              cases mo with
              | go s' =>
                obtain ⟨-, hM9⟩ := hO9
                obtain ⟨hG, hS, hW, hkx⟩ := HG.out
                have hs2 : stepM ls inp fuel s = .go { s' with pc := sti.2 } := HSTEP2.out
                obtain ⟨n1, n2, n3⟩ := hS.next hG hs2
                have hw2 := hW.step HOK.out.2.2.2.1 HOK.out.1 hs2
                obtain ⟨kn, hkn⟩ : ∃ kn, fuel.toNat - s.steps = kn := ⟨_, rfl⟩
                have hn4 : s.steps + 1 ≤ fuel.toNat := by have := n1.2; rw [n3] at this; exact this
                have HREL : Hid (RSt E ls fuel (newS n 0) kn (.int .i32 sti.2) w9) := Lib.hid ⟨{ s' with pc := sti.2 }, 0, hM9.pin rfl rfl rfl rfl rfl rfl, .inl ⟨rfl, rfl, by rw [HINP.out]; exact n2, by rw [HINP.out]; exact n1, hw2, by rw [n3]; omega⟩⟩
                have HLT : Hid (kn < gk) := Lib.hid (by omega)
                clear hM9 hG hS hW hkx hs2 n1 n2 n3 hw2 hkn hn4
                go_wp2_with fail
                go_roundg kn
                case measure => exact HLT.out
                case rel => exact Lib.hid HREL.out
              | fin kf s' =>
                obtain ⟨-, hM9⟩ := hO9
                obtain ⟨hG, hS, hW, hkx⟩ := HG.out
                have hs2 : stepM ls inp fuel s = .fin kf s' := HSTEP2.out
                have hres := hS.done hs2
                have HREL : Hid (RSt E ls fuel (newS n 0) 0 (.int .i32 sti.2) w9) := Lib.hid ⟨s', kf, hM9, .inr ⟨fin_ne hs2, ⟨_, rfl⟩, by rw [HINP.out]; exact hres⟩⟩
                have HLT : Hid (0 < gk) := Lib.hid (by omega)
                clear hM9 hG hS hW hkx hs2 hres
                go_wp2_with fail
                go_roundg 0
                case measure => exact HLT.out
                case rel => exact Lib.hid HREL.out
        · have HME := Lib.hid hM
          have HRE : Hid (runR ls inp fuel (newS n 0) = ⟨q, s.v, s.tr, s.steps, s.reads⟩) := Lib.hid hR
          have b3 : (q == 0) = false := by simp [hq0]
          have c3 := hM.cells.2.2.2.1
          rw [HEP.out] at c3
          clear hM hR hq0
          go_upto_region 16 with fail
          clear c3 b3
          obtain ⟨tA, tc, c5, hbz, hfin⟩ := HME.out.out HBR2.out.1 HBR2.out.2.1 HRE.out HBR2.out.2.2
          obtain ⟨e0, e1, e2, e3, e4, e6, e7, -, -⟩ := HME.out.cells
          rw [HEP.out] at c5 e3 e4 e6 e7
          have t0 := frozen_of_row _ br 0 _ _ hbz
          have t1 := frozen_of_row _ br 1 _ _ hbz
          have t2 := frozen_of_row _ br 2 _ _ hbz
          have t3 := frozen_of_row _ br 3 _ _ hbz
          have t4 := frozen_of_row _ br 4 _ _ hbz
          have g0 : wr.cell? ⟨br, 0, none⟩ = some (.int .i64 0) := by rw [cell_of_row _ br 0 _ _ (0, 0) hbz]; rfl
          have g1 : wr.cell? ⟨br, 1, none⟩ = some (.int .i32 0) := by rw [cell_of_row _ br 1 _ _ (0, 0) hbz]; rfl
          have g2 : wr.cell? ⟨br, 2, none⟩ = some (.slice none 0 0) := by rw [cell_of_row _ br 2 _ _ (0, 0) hbz]; rfl
          have g3 : wr.cell? ⟨br, 3, none⟩ = some (.int .i64 0) := by rw [cell_of_row _ br 3 _ _ (0, 0) hbz]; rfl
          have g4 : wr.cell? ⟨br, 4, none⟩ = some (.int .i64 0) := by rw [cell_of_row _ br 4 _ _ (0, 0) hbz]; rfl
          have HFIN := Lib.hid hfin
          clear hfin hbz e0 e1 e2
          generalize s.v = sv at *
          generalize s.tr.length = sl at *
          generalize (s.steps : Int) = st at *
          generalize (s.reads : Int) = sr at *
          go_wp2_with fail
          have hF := HFIN.out _ rfl
          refine bodyPost_ret (results_run _ _ br _ rfl hF.1 rfl) rfl ?_
          exact hF.2
    · have hp5 : (kz : Int) < (sn : Int) := by have := HS.out.1; have := (List.getElem?_eq_some_iff.1 htz).1; omega
      have hp4 : (0 : Int) ≤ (kz : Int) := by omega
      obtain ⟨g5, off5, eS, hg5, hcs5⟩ := HS.out.2 (by omega)
      have hsy := ((HBE.out _ _ _ HM.out).cell (p := ⟨g5, off5 + kz * 2 + 1, none⟩) hg5).trans (hcs5 kz _ htz 1 _ rfl)
      rw [eS] at y1
      clear htz hg5 hcs5 eS
      obtain ⟨tn, tp⟩ := tz
      dsimp only at hsy HST ⊢
      go_upto_region 6 with fail
      clear hsy
      clear y0 y1 y2
      go_loopg [8] (fuel.toNat + 1) (fun kx v wr => Hid (RSt E ls fuel (newS n tp) kx v wr))
      case atStart => exact Lib.hid HST.out
      case round =>
        obtain ⟨s, q, hM, hq⟩ := hrel.out
        clear hrel HST HM
        have HINP : Hid (E.inp = inp) := Lib.hid HE.out.2.2.2.2.2.2.2.2
        rw [HINP.out] at hq
        have HMM0 := HMM.out wr (HBE.out _ _ _ hM)
        obtain ⟨y0, y1, y2⟩ := HMM0
        have HEP : Hid (E.p = p) := Lib.hid HE.out.2.1
        have HBR2 : Hid (Below w.heap.size w E.w0 ∧ (w.heap.size ≤ br ∧ br < E.w0.heap.size) ∧ E.w0.heap[br]? = some (.cells #[.int .i64 0, .int .i32 0, .slice none 0 0, .int .i64 0, .int .i64 0] 57 (0, 0))) := Lib.hid (by rw [HE.out.1]; exact ⟨HB.out, HBR.out, HRR.out⟩)
        rcases hq with ⟨rfl, rfl, hG, hS, hW, hkx⟩ | ⟨hq0, ⟨z, rfl⟩, hR⟩
        · have HM := Lib.hid hM
          obtain ⟨x0, x1, x2, x3, x4, x6, x7, fz, hpl⟩ := hM.cells
          rw [HEP.out] at x0 x1 x2 x3 x4 x6 x7 fz hpl
          have f3 := fz 3
          have f6 := fz 6
          have HG := Lib.hid (And.intro hG (And.intro hS (And.intro hW hkx)))
          have hpc := hG.pc
          have hln : ls.length = ln := HL.out.1
          have hl2 : (ln : Int) ≤ 100000 := by have := HOK.out.2.1; omega
          obtain ⟨z, hz⟩ : ∃ z, s.pc = z := ⟨_, rfl⟩
          have HZ := Lib.hid hz
          rw [hz] at hpc ⊢
          obtain ⟨z1, z2⟩ := hpc
          have b0 : ((0 : Int) == 0) = true := rfl
          by_cases hc : z < 0 ∨ z % 4 ≠ 0 ∨ (ls.length : Int) ≤ z / 4
          · have hs : stepM ls inp fuel s = .fin 6 s := by unfold stepM; rw [hz, if_pos hc]
            have HRE : Hid (runR ls inp fuel (newS n tp) = ⟨6, s.v, s.tr, s.steps, s.reads⟩) := Lib.hid (hS.done hs)
            obtain ⟨W5, hW5⟩ : ∃ W5, wr.setCell ⟨p, 3, none⟩ (.int .i64 6) = W5 := ⟨_, rfl⟩
            have HME : Hid (RMAt E W5 6 s) := Lib.hid (by rw [← hW5, ← HEP.out]; exact hM.fin 6)
            rw [hln] at hc
            clear hM hG hS hW hs hkx hz fz hln
            by_cases c1 : z < 0
            · clear hc
              go_upto_region 16 with fail
              clear hW5 x0 x1 x2 x3 x4 x6 x7
              obtain ⟨tA, tc, c5, hbz, hfin⟩ := HME.out.out HBR2.out.1 HBR2.out.2.1 HRE.out HBR2.out.2.2
              obtain ⟨e0, e1, e2, e3, e4, e6, e7, -, -⟩ := HME.out.cells
              rw [HEP.out] at c5 e3 e4 e6 e7
              have t0 := frozen_of_row _ br 0 _ _ hbz
              have t1 := frozen_of_row _ br 1 _ _ hbz
              have t2 := frozen_of_row _ br 2 _ _ hbz
              have t3 := frozen_of_row _ br 3 _ _ hbz
              have t4 := frozen_of_row _ br 4 _ _ hbz
              have g0 : W5.cell? ⟨br, 0, none⟩ = some (.int .i64 0) := by rw [cell_of_row _ br 0 _ _ (0, 0) hbz]; rfl
              have g1 : W5.cell? ⟨br, 1, none⟩ = some (.int .i32 0) := by rw [cell_of_row _ br 1 _ _ (0, 0) hbz]; rfl
              have g2 : W5.cell? ⟨br, 2, none⟩ = some (.slice none 0 0) := by rw [cell_of_row _ br 2 _ _ (0, 0) hbz]; rfl
              have g3 : W5.cell? ⟨br, 3, none⟩ = some (.int .i64 0) := by rw [cell_of_row _ br 3 _ _ (0, 0) hbz]; rfl
              have g4 : W5.cell? ⟨br, 4, none⟩ = some (.int .i64 0) := by rw [cell_of_row _ br 4 _ _ (0, 0) hbz]; rfl
              have HFIN := Lib.hid hfin
              clear hfin hbz e0 e1 e2
              generalize s.v = sv at *
              generalize s.tr.length = sl at *
              generalize (s.steps : Int) = st at *
              generalize (s.reads : Int) = sr at *
              go_wp2_with fail
              have hF := HFIN.out _ rfl
              refine bodyPost_ret (results_run _ _ br _ rfl hF.1 rfl) rfl ?_
              exact hF.2
            · by_cases c2 : z % 4 = 0
              · have c3 : (ln : Int) ≤ z / 4 := by omega
                have e1 : z.tdiv 4 = z / 4 := Int.tdiv_eq_ediv_of_nonneg (by omega)
                have e2 : z.tmod 4 = 0 := by rw [Int.tmod_eq_emod_of_nonneg (by omega)]; exact c2
                have e3 : 0 ≤ z / 4 := by omega
                have e4 : z / 4 ≤ 2147483647 := by omega
                obtain ⟨y, hy⟩ : ∃ y, z / 4 = y := ⟨_, rfl⟩
                rw [hy] at c3 e1 e3 e4
                clear hc hy
                go_upto_region 16 with fail
                clear hW5 x0 x1 x2 x3 x4 x6 x7
                obtain ⟨tA, tc, c5, hbz, hfin⟩ := HME.out.out HBR2.out.1 HBR2.out.2.1 HRE.out HBR2.out.2.2
                obtain ⟨e0, e1, e2, e3, e4, e6, e7, -, -⟩ := HME.out.cells
                rw [HEP.out] at c5 e3 e4 e6 e7
                have t0 := frozen_of_row _ br 0 _ _ hbz
                have t1 := frozen_of_row _ br 1 _ _ hbz
                have t2 := frozen_of_row _ br 2 _ _ hbz
                have t3 := frozen_of_row _ br 3 _ _ hbz
                have t4 := frozen_of_row _ br 4 _ _ hbz
                have g0 : W5.cell? ⟨br, 0, none⟩ = some (.int .i64 0) := by rw [cell_of_row _ br 0 _ _ (0, 0) hbz]; rfl
                have g1 : W5.cell? ⟨br, 1, none⟩ = some (.int .i32 0) := by rw [cell_of_row _ br 1 _ _ (0, 0) hbz]; rfl
                have g2 : W5.cell? ⟨br, 2, none⟩ = some (.slice none 0 0) := by rw [cell_of_row _ br 2 _ _ (0, 0) hbz]; rfl
                have g3 : W5.cell? ⟨br, 3, none⟩ = some (.int .i64 0) := by rw [cell_of_row _ br 3 _ _ (0, 0) hbz]; rfl
                have g4 : W5.cell? ⟨br, 4, none⟩ = some (.int .i64 0) := by rw [cell_of_row _ br 4 _ _ (0, 0) hbz]; rfl
                have HFIN := Lib.hid hfin
                clear hfin hbz e0 e1 e2
                generalize s.v = sv at *
                generalize s.tr.length = sl at *
                generalize (s.steps : Int) = st at *
                generalize (s.reads : Int) = sr at *
                go_wp2_with fail
                have hF := HFIN.out _ rfl
                refine bodyPost_ret (results_run _ _ br _ rfl hF.1 rfl) rfl ?_
                exact hF.2
              · have e2 : ¬ z.tmod 4 = 0 := by rw [Int.tmod_eq_emod_of_nonneg (by omega)]; exact c2
                clear hc
                go_upto_region 16 with fail
                clear hW5 x0 x1 x2 x3 x4 x6 x7
                obtain ⟨tA, tc, c5, hbz, hfin⟩ := HME.out.out HBR2.out.1 HBR2.out.2.1 HRE.out HBR2.out.2.2
                obtain ⟨e0, e1, e2, e3, e4, e6, e7, -, -⟩ := HME.out.cells
                rw [HEP.out] at c5 e3 e4 e6 e7
                have t0 := frozen_of_row _ br 0 _ _ hbz
                have t1 := frozen_of_row _ br 1 _ _ hbz
                have t2 := frozen_of_row _ br 2 _ _ hbz
                have t3 := frozen_of_row _ br 3 _ _ hbz
                have t4 := frozen_of_row _ br 4 _ _ hbz
                have g0 : W5.cell? ⟨br, 0, none⟩ = some (.int .i64 0) := by rw [cell_of_row _ br 0 _ _ (0, 0) hbz]; rfl
                have g1 : W5.cell? ⟨br, 1, none⟩ = some (.int .i32 0) := by rw [cell_of_row _ br 1 _ _ (0, 0) hbz]; rfl
                have g2 : W5.cell? ⟨br, 2, none⟩ = some (.slice none 0 0) := by rw [cell_of_row _ br 2 _ _ (0, 0) hbz]; rfl
                have g3 : W5.cell? ⟨br, 3, none⟩ = some (.int .i64 0) := by rw [cell_of_row _ br 3 _ _ (0, 0) hbz]; rfl
                have g4 : W5.cell? ⟨br, 4, none⟩ = some (.int .i64 0) := by rw [cell_of_row _ br 4 _ _ (0, 0) hbz]; rfl
                have HFIN := Lib.hid hfin
                clear hfin hbz e0 e1 e2
                generalize s.v = sv at *
                generalize s.tr.length = sl at *
                generalize (s.steps : Int) = st at *
                generalize (s.reads : Int) = sr at *
                go_wp2_with fail
                have hF := HFIN.out _ rfl
                refine bodyPost_ret (results_run _ _ br _ rfl hF.1 rfl) rfl ?_
                exact hF.2
          · have hc2 := hc
            simp only [not_or, Int.not_lt, Int.not_le, Decidable.not_not] at hc2
            obtain ⟨c1, c2, c3⟩ := hc2
            obtain ⟨kk, hkk⟩ : ∃ kk : Nat, z = 4 * (kk : Int) := ⟨(z / 4).toNat, by omega⟩
            have e1 : z.tdiv 4 = (kk : Int) := by rw [Int.tdiv_eq_ediv_of_nonneg (by omega)]; omega
            have e2 : z.tmod 4 = 0 := by rw [Int.tmod_eq_emod_of_nonneg (by omega)]; exact c2
            have c4 : (kk : Int) < (ln : Int) := by omega
            have c5 : (0 : Int) ≤ (kk : Int) := by omega
            have c1' : ¬ z < 0 := by omega
            have hkl : kk < ls.length := by omega
            have hq4 : (z / 4).toNat = kk := by omega
            have hz4 : (kk : Int) ≤ 2147483647 := by omega
            by_cases hf : fuel ≤ (s.steps : Int)
            · have hs : stepM ls inp fuel s = .fin 5 s := by unfold stepM; rw [hz, if_neg hc, if_pos hf]
              have HRE : Hid (runR ls inp fuel (newS n tp) = ⟨5, s.v, s.tr, s.steps, s.reads⟩) := Lib.hid (hS.done hs)
              obtain ⟨W5, hW5⟩ : ∃ W5, wr.setCell ⟨p, 3, none⟩ (.int .i64 5) = W5 := ⟨_, rfl⟩
              have HME : Hid (RMAt E W5 5 s) := Lib.hid (by rw [← hW5, ← HEP.out]; exact hM.fin 5)
              have HSS : Hid ((s.steps : Int) = s.steps) := Lib.hid rfl
              clear hM hG hS hW hs hkx hz fz hln hc hkk hkl hq4 c2 c3
              go_upto_region 16 with fail
              clear hW5 x0 x1 x2 x3 x4 x6 x7 hf
              obtain ⟨tA, tc, c5, hbz, hfin⟩ := HME.out.out HBR2.out.1 HBR2.out.2.1 HRE.out HBR2.out.2.2
              obtain ⟨e0, e1, e2, e3, e4, e6, e7, -, -⟩ := HME.out.cells
              rw [HEP.out] at c5 e3 e4 e6 e7
              have t0 := frozen_of_row _ br 0 _ _ hbz
              have t1 := frozen_of_row _ br 1 _ _ hbz
              have t2 := frozen_of_row _ br 2 _ _ hbz
              have t3 := frozen_of_row _ br 3 _ _ hbz
              have t4 := frozen_of_row _ br 4 _ _ hbz
              have g0 : W5.cell? ⟨br, 0, none⟩ = some (.int .i64 0) := by rw [cell_of_row _ br 0 _ _ (0, 0) hbz]; rfl
              have g1 : W5.cell? ⟨br, 1, none⟩ = some (.int .i32 0) := by rw [cell_of_row _ br 1 _ _ (0, 0) hbz]; rfl
              have g2 : W5.cell? ⟨br, 2, none⟩ = some (.slice none 0 0) := by rw [cell_of_row _ br 2 _ _ (0, 0) hbz]; rfl
              have g3 : W5.cell? ⟨br, 3, none⟩ = some (.int .i64 0) := by rw [cell_of_row _ br 3 _ _ (0, 0) hbz]; rfl
              have g4 : W5.cell? ⟨br, 4, none⟩ = some (.int .i64 0) := by rw [cell_of_row _ br 4 _ _ (0, 0) hbz]; rfl
              have HFIN := Lib.hid hfin
              clear hfin hbz e0 e1 e2
              generalize s.v = sv at *
              generalize s.tr.length = sl at *
              generalize (s.steps : Int) = st at *
              generalize (s.reads : Int) = sr at *
              go_wp2_with fail
              have hF := HFIN.out _ rfl
              refine bodyPost_ret (results_run _ _ br _ rfl hF.1 rfl) rfl ?_
              exact hF.2
            · obtain ⟨l, hl⟩ : ∃ l, ls[kk]? = some l := ⟨_, List.getElem?_eq_getElem hkl⟩
              have hok := HOK.out.1 l (List.mem_of_getElem? hl)
              obtain ⟨s1, hs1⟩ : ∃ s1, ({ s with steps := s.steps + 1 } : MS) = s1 := ⟨_, rfl⟩
              have hs : stepM ls inp fuel s = insM inp l s1 := by rw [← hs1]; unfold stepM; rw [hz, if_neg hc, if_neg hf, hq4, hl]
              have hz1 : s1.pc = z := by rw [← hs1]; exact hz
              rw [insM_do hok, hz1] at hs
              have HSTEP := Lib.hid hs
              have HOKL := Lib.hid hok
              obtain ⟨o1, o2⟩ := hok.op
              obtain ⟨a1, a2⟩ := hok.a
              obtain ⟨b1, b2⟩ := hok.b
              obtain ⟨d1, d2⟩ := hok.d
              have hnn := hok.n
              have hlk := hok.k
              obtain ⟨g, off, eA, hg, hcl⟩ := HL.out.2 (by omega)
              obtain ⟨lk, lo, ld, la, lb, lnn, lsym⟩ := l
              dsimp only at o1 o2 a1 a2 b1 b2 d1 d2 hlk hnn
              subst hlk
              obtain ⟨an, ha⟩ : ∃ an : Nat, la = (an : Int) := ⟨la.toNat, by omega⟩
              obtain ⟨bn, hbn⟩ : ∃ bn : Nat, lb = (bn : Int) := ⟨lb.toNat, by omega⟩
              obtain ⟨dn, hdn⟩ : ∃ dn : Nat, ld = (dn : Int) := ⟨ld.toNat, by omega⟩
              subst ha hbn hdn
              have HLC : Hid (∀ V q s', RMAt E V q s' → ∀ j v, (Ln.mk 2 lo dn an bn lnn lsym).cells[j]? = some v → V.cell? ⟨g, off + kk * 7 + j, none⟩ = some v) := Lib.hid (fun V q s' hV j v hj => ((HBE.out _ _ _ hV).cell (p := ⟨g, off + kk * 7 + j, none⟩) hg).trans (hcl kk _ hl j v hj))
              obtain ⟨W6, hW6⟩ : ∃ W6, wr.setCell ⟨p, 6, none⟩ (.int .i64 ((s.steps : Int) + 1)) = W6 := ⟨_, rfl⟩
              have hM6 : RMAt E W6 0 { s with steps := s.steps + 1 } := by rw [← hW6, ← HEP.out]; exact hM.step
              rw [hs1] at hM6
              have hs6 : (s.steps : Int) ≤ 100000 := by have := hS.2; omega
              have hs0 : (0 : Int) ≤ (s.steps : Int) := by omega
              have HS1 : Hid (s1.regs = s.regs ∧ s1.mem = s.mem ∧ s1.tr = s.tr ∧ s1.reads = s.reads ∧ W32 s1) := Lib.hid (by rw [← hs1]; exact ⟨rfl, rfl, rfl, rfl, hW⟩)
              obtain ⟨w0', w1', w2'⟩ := HMM.out W6 (HBE.out _ _ _ hM6)
              rw [eA] at y0 w0'
              have d0 := HLC.out _ _ _ hM6 0 _ rfl
              have d1' := HLC.out _ _ _ hM6 1 _ rfl
              have d2' := HLC.out _ _ _ hM6 2 _ rfl
              have d3 := HLC.out _ _ _ hM6 3 _ rfl
              have d4 := HLC.out _ _ _ hM6 4 _ rfl
              have d5 := HLC.out _ _ _ hM6 5 _ rfl
              have d6 := HLC.out _ _ _ hM6 6 _ rfl
              rw [Nat.add_zero] at d0
              obtain ⟨b10, hb10⟩ : ∃ b, W6.heap.size = b := ⟨_, rfl⟩
              obtain ⟨W7, hW7⟩ : ∃ W7, W6.alloc (.cells #[.int .i64 2, .int .i64 lo, .int .i64 (dn : Int), .int .i64 (an : Int), .int .i64 (bn : Int), .int .i32 lnn, .string lsym] 39) = W7 := ⟨_, rfl⟩
              have hb67 : Below W6.heap.size W6 W7 := by rw [← hW7]; exact (Below.refl _ _).alloc (Nat.le_refl _) _
              have hM7 := hM6.grow hb67
              have hn7 : W7.heap[b10]? = some (.cells #[.int .i64 2, .int .i64 lo, .int .i64 (dn : Int), .int .i64 (an : Int), .int .i64 (bn : Int), .int .i32 lnn, .string lsym] 39 (0, 0)) := by rw [← hW7, ← hb10]; exact heap_alloc_new W6 _
              have HM7 := Lib.hid hM7
              have HBL : Hid (b10 < W7.heap.size) := Lib.hid (Array.getElem?_eq_some_iff.1 hn7).1
              have hra := getD_rng HS1.out.2.2.2.2.1 an
              have hrb := getD_rng HS1.out.2.2.2.2.1 bn
              obtain ⟨ra, hraE⟩ : ∃ ra, s1.regs.getD an 0 = ra := ⟨_, rfl⟩
              obtain ⟨rb', hrbE⟩ : ∃ rb', s1.regs.getD bn 0 = rb' := ⟨_, rfl⟩
              rw [hraE] at hra
              rw [hrbE] at hrb
              have HRAB : Hid (s1.regs.getD an 0 = ra ∧ s1.regs.getD bn 0 = rb') := Lib.hid ⟨hraE, hrbE⟩
              have HSTP : Hid (∀ V, Calls Try.prog 17 #[.agg #[.int .i64 2, .int .i64 lo, .int .i64 (dn : Int), .int .i64 (an : Int), .int .i64 (bn : Int), .int .i32 lnn, .string lsym], .int .i32 ra, .int .i32 rb', .int .i32 z] V fun e w' => e = .returned (.tuple #[.int .i32 (stepI lo lnn ra rb' z).1, .int .i32 (stepI lo lnn ra rb' z).2]) ∧ Below V.heap.size V w') := Lib.hid (fun V => rstep_any lo dn an bn lnn ra rb' z o1 o2 hnn hra hrb ⟨z1, z2⟩ lsym V)
              have HF : Hid (∀ V, Below W7.heap.size W7 V → V.cell? ⟨p, 0, none⟩ = some (.slice (some ⟨rb, 0, none⟩) 32 32) ∧ V.cell? ⟨rb, an, none⟩ = some (.int .i32 ra) ∧ V.cell? ⟨rb, bn, none⟩ = some (.int .i32 rb') ∧ V.cell? ⟨b10, 0, none⟩ = some (.int .i64 2) ∧ V.cell? ⟨b10, 1, none⟩ = some (.int .i64 lo) ∧ V.cell? ⟨b10, 2, none⟩ = some (.int .i64 (dn : Int)) ∧ V.cell? ⟨b10, 3, none⟩ = some (.int .i64 (an : Int)) ∧ V.cell? ⟨b10, 4, none⟩ = some (.int .i64 (bn : Int)) ∧ V.cell? ⟨b10, 5, none⟩ = some (.int .i32 lnn) ∧ V.cell? ⟨b10, 6, none⟩ = some (.string lsym)) := Lib.hid (fun V hV => by
                have hq := HM7.out.grow hV
                have q0 := hq.cells.1
                rw [HEP.out, HE.out.2.2.1] at q0
                have qa := hq.regs.cell an (by rw [hq.rlen]; omega)
                have qb := hq.regs.cell bn (by rw [hq.rlen]; omega)
                rw [HE.out.2.2.1, hraE] at qa
                rw [HE.out.2.2.1, hrbE] at qb
                have hn9 := (hV.block b10 HBL.out).trans hn7
                refine ⟨q0, qa, qb, ?_, ?_, ?_, ?_, ?_, ?_, ?_⟩ <;> (rw [cell_of_row _ b10 _ _ _ (0, 0) hn9]; rfl))
              have HRNG : Hid (s1.tr.length ≤ 100000 ∧ s1.reads ≤ E.inp.length ∧ E.inp.length ≤ 90000 ∧ E.mn ≤ 1000000) := Lib.hid (by
                have h1 := hG.tr
                have h2 := hG.reads
                have h3 := hS.2
                have h4 := HOK.out.2.2.2.2.1
                have h5 := HOK.out.2.2.2.2.2
                rw [HS1.out.2.2.1, HS1.out.2.2.2.1, HE.out.2.2.2.2.1]
                rw [HINP.out]
                refine ⟨by omega, h2, by omega, by omega⟩)
              have hfb : decide (fuel ≤ (s.steps : Int)) = false := by simp; omega
              have e9 : an < 32 := by omega
              have e8 : bn < 32 := by omega
              have a3 : (0 : Int) ≤ (an : Int) := by omega
              have a4 : (an : Int) < 32 := by omega
              have b3 : (0 : Int) ≤ (bn : Int) := by omega
              have b4 : (bn : Int) < 32 := by omega
              clear hM hM6 hM7 hG hS hW hs hs1 hz1 hkx hz fz hln hc hkk hkl hq4 c2 c3 hl hok hg hcl eA hn7 hb67 hra hrb hraE hrbE o1 o2 a1 a2 b1 b2 d1 d2 hnn e9 e8
              go_upto_region 13 with fail
              clear hW6 hW7 x0 x1 x2 x3 x4 x6 x7 f3 f6 y0 y1 y2 w0' w1' w2' d0 d1' d2' d3 d4 d5 d6 hb10 hf hpl
              refine wp_region_held_drew (S := fun V => Below W7.heap.size W7 V) (by kernel_rfl) ((Below.refl _ W7).drew) (fun _ => ?_)
              refine takeH 0 84 (v := (.agg #[.int .i64 2, .int .i64 lo, .int .i64 (dn : Int), .int .i64 (an : Int), .int .i64 (bn : Int), .int .i32 lnn, .string lsym])) rfl rfl (by kernel_rfl) (by kernel_rfl) (by kernel_rfl) (fun _ _ _ h => h) (by rfl) ?_ (by assumption) ?_
              · intro w hSw
                obtain ⟨k0, ka, kb, u0, u1, u2, u3, u4, u5, u6⟩ := HF.out w hSw
                go_simp
              try simp only [Act.put, List.setIfInBounds_toArray, List.set_cons_zero, List.set_cons_succ]
              refine takeH 1 85 (v := (.pointer (some ⟨p, 0, none⟩))) rfl rfl (by kernel_rfl) (by kernel_rfl) (by kernel_rfl) (fun _ _ _ h => h) (by rfl) ?_ (by assumption) ?_
              · intro w hSw
                obtain ⟨k0, ka, kb, u0, u1, u2, u3, u4, u5, u6⟩ := HF.out w hSw
                go_simp
              try simp only [Act.put, List.setIfInBounds_toArray, List.set_cons_zero, List.set_cons_succ]
              refine takeH 2 86 (v := (.pointer (some ⟨p, 0, none⟩))) rfl rfl (by kernel_rfl) (by kernel_rfl) (by kernel_rfl) (fun _ _ _ h => h) (by rfl) ?_ (by assumption) ?_
              · intro w hSw
                obtain ⟨k0, ka, kb, u0, u1, u2, u3, u4, u5, u6⟩ := HF.out w hSw
                go_simp
              try simp only [Act.put, List.setIfInBounds_toArray, List.set_cons_zero, List.set_cons_succ]
              refine takeH 3 87 (v := (.pointer (some ⟨p, 0, none⟩))) rfl rfl (by kernel_rfl) (by kernel_rfl) (by kernel_rfl) (fun _ _ _ h => h) (by rfl) ?_ (by assumption) ?_
              · intro w hSw
                obtain ⟨k0, ka, kb, u0, u1, u2, u3, u4, u5, u6⟩ := HF.out w hSw
                go_simp
              try simp only [Act.put, List.setIfInBounds_toArray, List.set_cons_zero, List.set_cons_succ]
              refine takeH 4 88 (v := (.slice (some ⟨rb, 0, none⟩) 32 32)) rfl rfl (by kernel_rfl) (by kernel_rfl) (by kernel_rfl) (fun _ _ _ h => h) (by rfl) ?_ (by assumption) ?_
              · intro w hSw
                obtain ⟨k0, ka, kb, u0, u1, u2, u3, u4, u5, u6⟩ := HF.out w hSw
                go_simp
              try simp only [Act.put, List.setIfInBounds_toArray, List.set_cons_zero, List.set_cons_succ]
              refine takeH 5 89 (v := (.pointer (some ⟨b10, 3, none⟩))) rfl rfl (by kernel_rfl) (by kernel_rfl) (by kernel_rfl) (fun _ _ _ h => h) (by rfl) ?_ (by assumption) ?_
              · intro w hSw
                obtain ⟨k0, ka, kb, u0, u1, u2, u3, u4, u5, u6⟩ := HF.out w hSw
                go_simp
              try simp only [Act.put, List.setIfInBounds_toArray, List.set_cons_zero, List.set_cons_succ]
              refine takeH 6 90 (v := (.int .i64 (an : Int))) rfl rfl (by kernel_rfl) (by kernel_rfl) (by kernel_rfl) (fun _ _ _ h => h) (by rfl) ?_ (by assumption) ?_
              · intro w hSw
                obtain ⟨k0, ka, kb, u0, u1, u2, u3, u4, u5, u6⟩ := HF.out w hSw
                go_simp
              try simp only [Act.put, List.setIfInBounds_toArray, List.set_cons_zero, List.set_cons_succ]
              refine takeH 7 91 (v := (.pointer (some ⟨rb, an, none⟩))) rfl rfl (by kernel_rfl) (by kernel_rfl) (by kernel_rfl) (fun _ _ _ h => h) (by rfl) ?_ (by assumption) ?_
              · intro w hSw
                obtain ⟨k0, ka, kb, u0, u1, u2, u3, u4, u5, u6⟩ := HF.out w hSw
                go_simp
              try simp only [Act.put, List.setIfInBounds_toArray, List.set_cons_zero, List.set_cons_succ]
              refine takeH 8 92 (v := (.int .i32 ra)) rfl rfl (by kernel_rfl) (by kernel_rfl) (by kernel_rfl) (fun _ _ _ h => h) (by rfl) ?_ (by assumption) ?_
              · intro w hSw
                obtain ⟨k0, ka, kb, u0, u1, u2, u3, u4, u5, u6⟩ := HF.out w hSw
                go_simp
              try simp only [Act.put, List.setIfInBounds_toArray, List.set_cons_zero, List.set_cons_succ]
              refine takeH 9 93 (v := (.pointer (some ⟨p, 0, none⟩))) rfl rfl (by kernel_rfl) (by kernel_rfl) (by kernel_rfl) (fun _ _ _ h => h) (by rfl) ?_ (by assumption) ?_
              · intro w hSw
                obtain ⟨k0, ka, kb, u0, u1, u2, u3, u4, u5, u6⟩ := HF.out w hSw
                go_simp
              try simp only [Act.put, List.setIfInBounds_toArray, List.set_cons_zero, List.set_cons_succ]
              refine takeH 10 94 (v := (.pointer (some ⟨p, 0, none⟩))) rfl rfl (by kernel_rfl) (by kernel_rfl) (by kernel_rfl) (fun _ _ _ h => h) (by rfl) ?_ (by assumption) ?_
              · intro w hSw
                obtain ⟨k0, ka, kb, u0, u1, u2, u3, u4, u5, u6⟩ := HF.out w hSw
                go_simp
              try simp only [Act.put, List.setIfInBounds_toArray, List.set_cons_zero, List.set_cons_succ]
              refine takeH 11 95 (v := (.pointer (some ⟨p, 0, none⟩))) rfl rfl (by kernel_rfl) (by kernel_rfl) (by kernel_rfl) (fun _ _ _ h => h) (by rfl) ?_ (by assumption) ?_
              · intro w hSw
                obtain ⟨k0, ka, kb, u0, u1, u2, u3, u4, u5, u6⟩ := HF.out w hSw
                go_simp
              try simp only [Act.put, List.setIfInBounds_toArray, List.set_cons_zero, List.set_cons_succ]
              refine takeH 12 96 (v := (.slice (some ⟨rb, 0, none⟩) 32 32)) rfl rfl (by kernel_rfl) (by kernel_rfl) (by kernel_rfl) (fun _ _ _ h => h) (by rfl) ?_ (by assumption) ?_
              · intro w hSw
                obtain ⟨k0, ka, kb, u0, u1, u2, u3, u4, u5, u6⟩ := HF.out w hSw
                go_simp
              try simp only [Act.put, List.setIfInBounds_toArray, List.set_cons_zero, List.set_cons_succ]
              refine takeH 13 97 (v := (.pointer (some ⟨b10, 4, none⟩))) rfl rfl (by kernel_rfl) (by kernel_rfl) (by kernel_rfl) (fun _ _ _ h => h) (by rfl) ?_ (by assumption) ?_
              · intro w hSw
                obtain ⟨k0, ka, kb, u0, u1, u2, u3, u4, u5, u6⟩ := HF.out w hSw
                go_simp
              try simp only [Act.put, List.setIfInBounds_toArray, List.set_cons_zero, List.set_cons_succ]
              refine takeH 14 98 (v := (.int .i64 (bn : Int))) rfl rfl (by kernel_rfl) (by kernel_rfl) (by kernel_rfl) (fun _ _ _ h => h) (by rfl) ?_ (by assumption) ?_
              · intro w hSw
                obtain ⟨k0, ka, kb, u0, u1, u2, u3, u4, u5, u6⟩ := HF.out w hSw
                go_simp
              try simp only [Act.put, List.setIfInBounds_toArray, List.set_cons_zero, List.set_cons_succ]
              refine takeH 15 99 (v := (.pointer (some ⟨rb, bn, none⟩))) rfl rfl (by kernel_rfl) (by kernel_rfl) (by kernel_rfl) (fun _ _ _ h => h) (by rfl) ?_ (by assumption) ?_
              · intro w hSw
                obtain ⟨k0, ka, kb, u0, u1, u2, u3, u4, u5, u6⟩ := HF.out w hSw
                go_simp
              try simp only [Act.put, List.setIfInBounds_toArray, List.set_cons_zero, List.set_cons_succ]
              refine takeH 16 100 (v := (.int .i32 rb')) rfl rfl (by kernel_rfl) (by kernel_rfl) (by kernel_rfl) (fun _ _ _ h => h) (by rfl) ?_ (by assumption) ?_
              · intro w hSw
                obtain ⟨k0, ka, kb, u0, u1, u2, u3, u4, u5, u6⟩ := HF.out w hSw
                go_simp
              try simp only [Act.put, List.setIfInBounds_toArray, List.set_cons_zero, List.set_cons_succ]
              refine takeH 17 101 (v := (.int .i32 z)) rfl rfl (by kernel_rfl) (by kernel_rfl) (by kernel_rfl) (fun _ _ _ h => h) (by rfl) ?_ (by assumption) ?_
              · intro w hSw
                obtain ⟨k0, ka, kb, u0, u1, u2, u3, u4, u5, u6⟩ := HF.out w hSw
                go_simp
              try simp only [Act.put, List.setIfInBounds_toArray, List.set_cons_zero, List.set_cons_succ]
              refine wpAnyH_ready (rs := [18]) (by kernel_rfl) (by simp) ?_
              refine AllReadyH.cons rfl (fun K hK => ?_) AllReadyH.nil
              go_simp
              go_at_call 17
              (with_reducible refine (HSTP.out _).mono ?_)
              rintro en w8 ⟨rfl, hb8⟩
              have HB8 := Lib.hid ((show Below W7.heap.size W7 _ by assumption).trans (hb8.mono (show Below W7.heap.size W7 _ by assumption).size))
              clear hb8
              refine hK.out _ _ HB8.out (fun _ => ?_)
              clear hK K
              try simp only [Act.put, List.setIfInBounds_toArray, List.set_cons_zero, List.set_cons_succ]
              refine takeH 19 83 (v := (.tuple #[.int .i32 (stepI lo lnn ra rb' z).1, .int .i32 (stepI lo lnn ra rb' z).2])) rfl rfl (by kernel_rfl) (by kernel_rfl) (by kernel_rfl) (fun _ _ _ h => h) (by rfl) ?_ HB8.out ?_
              · intro w hSw
                obtain ⟨k0, ka, kb, u0, u1, u2, u3, u4, u5, u6⟩ := HF.out w hSw
                go_simp
              try simp only [Act.put, List.setIfInBounds_toArray, List.set_cons_zero, List.set_cons_succ]
              refine takeH 20 103 (v := (.int .i32 (stepI lo lnn ra rb' z).1)) rfl rfl (by kernel_rfl) (by kernel_rfl) (by kernel_rfl) (fun _ _ _ h => h) (by rfl) ?_ HB8.out ?_
              · intro w hSw
                obtain ⟨k0, ka, kb, u0, u1, u2, u3, u4, u5, u6⟩ := HF.out w hSw
                go_simp
              try simp only [Act.put, List.setIfInBounds_toArray, List.set_cons_zero, List.set_cons_succ]
              refine takeH 22 11 (v := (.int .i32 (stepI lo lnn ra rb' z).1)) rfl rfl (by kernel_rfl) (by kernel_rfl) (by kernel_rfl) (fun _ _ _ h => h) (by rfl) ?_ HB8.out ?_
              · intro w hSw
                obtain ⟨k0, ka, kb, u0, u1, u2, u3, u4, u5, u6⟩ := HF.out w hSw
                go_simp
              try simp only [Act.put, List.setIfInBounds_toArray, List.set_cons_zero, List.set_cons_succ]
              refine takeH 21 104 (v := (.int .i32 (stepI lo lnn ra rb' z).2)) rfl rfl (by kernel_rfl) (by kernel_rfl) (by kernel_rfl) (fun _ _ _ h => h) (by rfl) ?_ HB8.out ?_
              · intro w hSw
                obtain ⟨k0, ka, kb, u0, u1, u2, u3, u4, u5, u6⟩ := HF.out w hSw
                go_simp
              try simp only [Act.put, List.setIfInBounds_toArray, List.set_cons_zero, List.set_cons_succ]
              refine takeH 23 12 (v := (.int .i32 (stepI lo lnn ra rb' z).2)) rfl rfl (by kernel_rfl) (by kernel_rfl) (by kernel_rfl) (fun _ _ _ h => h) (by rfl) ?_ HB8.out ?_
              · intro w hSw
                obtain ⟨k0, ka, kb, u0, u1, u2, u3, u4, u5, u6⟩ := HF.out w hSw
                go_simp
              try simp only [Act.put, List.setIfInBounds_toArray, List.set_cons_zero, List.set_cons_succ]
              refine wpAnyH_done (by kernel_rfl) ?_ _
              have hM8 := HM7.out.grow HB8.out
              obtain ⟨k0, ka, kb, u0, u1, u2, u3, u4, u5, u6⟩ := HF.out _ HB8.out
              have HDO := Lib.hid (rdo_any hM8 HS1.out.2.2.2.2 HRNG.out.2.2.2 _ HOKL.out (stepI lo lnn ra rb' z).1 HRNG.out.1 HRNG.out.2.1 HRNG.out.2.2.1)
              unfold Ln.val at HDO
              dsimp only at HDO
              have HDO := Lib.hid (HDO.out.mono (fun en w' hO => rdo_ret hO))
              rw [HEP.out, HINP.out] at HDO
              have hR2 := stepI_rng lo lnn ra rb' z
              have HSTEP2 : Hid (stepM ls inp fuel s = (doM inp ⟨2, lo, dn, an, bn, lnn, lsym⟩ (stepI lo lnn ra rb' z).1 s1).at (stepI lo lnn ra rb' z).2) := Lib.hid (by
                have h := HSTEP.out
                rw [← HRAB.out.1, ← HRAB.out.2]
                exact h)
              clear hM8 HSTEP k0 ka kb HF HM7 HSTP HLC HM
              generalize (stepI lo lnn ra rb' z) = sti at *
              generalize doM inp ⟨2, lo, dn, an, bn, lnn, lsym⟩ sti.1 s1 = mo at *
              go_upto_region 15 with (go_at_call 44; (with_reducible refine HDO.out.mono ?_); rintro en w9 ⟨rfl, hO9⟩)
              cases mo with
              | go s' =>
                obtain ⟨-, hM9⟩ := hO9
                obtain ⟨hG, hS, hW, hkx⟩ := HG.out
                have hs2 : stepM ls inp fuel s = .go { s' with pc := sti.2 } := HSTEP2.out
                obtain ⟨n1, n2, n3⟩ := hS.next hG hs2
                have hw2 := hW.step HOK.out.2.2.2.1 HOK.out.1 hs2
                obtain ⟨kn, hkn⟩ : ∃ kn, fuel.toNat - s.steps = kn := ⟨_, rfl⟩
                have hn4 : s.steps + 1 ≤ fuel.toNat := by have := n1.2; rw [n3] at this; exact this
                have HREL : Hid (RSt E ls fuel (newS n tp) kn (.int .i32 sti.2) w9) := Lib.hid ⟨{ s' with pc := sti.2 }, 0, hM9.pin rfl rfl rfl rfl rfl rfl, .inl ⟨rfl, rfl, by rw [HINP.out]; exact n2, by rw [HINP.out]; exact n1, hw2, by rw [n3]; omega⟩⟩
                have HLT : Hid (kn < gk) := Lib.hid (by omega)
                clear hM9 hG hS hW hkx hs2 n1 n2 n3 hw2 hkn hn4
                go_wp2_with fail
                go_roundg kn
                case measure => exact HLT.out
                case rel => exact Lib.hid HREL.out
              | fin kf s' =>
                obtain ⟨-, hM9⟩ := hO9
                obtain ⟨hG, hS, hW, hkx⟩ := HG.out
                have hs2 : stepM ls inp fuel s = .fin kf s' := HSTEP2.out
                have hres := hS.done hs2
                have HREL : Hid (RSt E ls fuel (newS n tp) 0 (.int .i32 sti.2) w9) := Lib.hid ⟨s', kf, hM9, .inr ⟨fin_ne hs2, ⟨_, rfl⟩, by rw [HINP.out]; exact hres⟩⟩
                have HLT : Hid (0 < gk) := Lib.hid (by omega)
                clear hM9 hG hS hW hkx hs2 hres
                go_wp2_with fail
                go_roundg 0
                case measure => exact HLT.out
                case rel => exact Lib.hid HREL.out
        · have HME := Lib.hid hM
          have HRE : Hid (runR ls inp fuel (newS n tp) = ⟨q, s.v, s.tr, s.steps, s.reads⟩) := Lib.hid hR
          have b3 : (q == 0) = false := by simp [hq0]
          have c3 := hM.cells.2.2.2.1
          rw [HEP.out] at c3
          clear hM hR hq0
          go_upto_region 16 with fail
          clear c3 b3
          obtain ⟨tA, tc, c5, hbz, hfin⟩ := HME.out.out HBR2.out.1 HBR2.out.2.1 HRE.out HBR2.out.2.2
          obtain ⟨e0, e1, e2, e3, e4, e6, e7, -, -⟩ := HME.out.cells
          rw [HEP.out] at c5 e3 e4 e6 e7
          have t0 := frozen_of_row _ br 0 _ _ hbz
          have t1 := frozen_of_row _ br 1 _ _ hbz
          have t2 := frozen_of_row _ br 2 _ _ hbz
          have t3 := frozen_of_row _ br 3 _ _ hbz
          have t4 := frozen_of_row _ br 4 _ _ hbz
          have g0 : wr.cell? ⟨br, 0, none⟩ = some (.int .i64 0) := by rw [cell_of_row _ br 0 _ _ (0, 0) hbz]; rfl
          have g1 : wr.cell? ⟨br, 1, none⟩ = some (.int .i32 0) := by rw [cell_of_row _ br 1 _ _ (0, 0) hbz]; rfl
          have g2 : wr.cell? ⟨br, 2, none⟩ = some (.slice none 0 0) := by rw [cell_of_row _ br 2 _ _ (0, 0) hbz]; rfl
          have g3 : wr.cell? ⟨br, 3, none⟩ = some (.int .i64 0) := by rw [cell_of_row _ br 3 _ _ (0, 0) hbz]; rfl
          have g4 : wr.cell? ⟨br, 4, none⟩ = some (.int .i64 0) := by rw [cell_of_row _ br 4 _ _ (0, 0) hbz]; rfl
          have HFIN := Lib.hid hfin
          clear hfin hbz e0 e1 e2
          generalize s.v = sv at *
          generalize s.tr.length = sl at *
          generalize (s.steps : Int) = st at *
          generalize (s.reads : Int) = sr at *
          go_wp2_with fail
          have hF := HFIN.out _ rfl
          refine bodyPost_ret (results_run _ _ br _ rfl hF.1 rfl) rfl ?_
          exact hF.2
end Rv
end Go.Proofs.Ytmedhibjkbahpaa
namespace Go.Proofs.Ytmedhibjkbahpaa
open Go.RowKit
set_option linter.unusedVariables false
set_option linter.unusedSimpArgs false
set_option maxRecDepth 100000
namespace Rv
theorem RowK.of_isRow {k : IntKind} {w : World} {A : Option Addr} {len cap : Nat} {zs : List Int} (h : IsRow k w A len cap zs) : RowK k w A len (zs.take len) := by
  rcases h with ⟨rfl, rfl, rfl, rfl⟩ | ⟨x, rfl, hl, hm, hz, hc, hw⟩
  · exact ⟨rfl, fun hn => absurd hn (by omega)⟩
  · refine ⟨by rw [List.length_take, hz]; omega, fun hn => ?_⟩
    have h0 := hc 0 (by omega)
    have hsp : x.spot = none := World.cell?_spot (by simpa [Addr.add] using h0)
    obtain ⟨b, off, sp⟩ := x
    obtain rfl : sp = none := hsp
    have hadd : ∀ i, (⟨b, off, none⟩ : Addr).add i = ⟨b, off + i, none⟩ := fun i => by unfold Addr.add; split <;> simp_all
    rw [hadd] at h0
    refine ⟨b, off, rfl, World.block_lt_of_cell? w _ h0, fun i hi => ?_⟩
    have h1 := hc i (by omega)
    rw [hadd] at h1
    rw [h1]
    congr 2
    simp [hi]
theorem RowK.take {k : IntKind} {w : World} {A : Option Addr} {n : Nat} {zs : List Int} (h : RowK k w A n zs) (m : Nat) (hm : m ≤ n) : RowK k w A m (zs.take m) := by
  refine ⟨by rw [List.length_take, h.1]; omega, fun h0 => ?_⟩
  obtain ⟨b, off, e, hlt, hc⟩ := h.2 (by omega)
  refine ⟨b, off, e, hlt, fun i hi => ?_⟩
  rw [hc i (by omega)]
  congr 2
  simp [hi]
theorem RowK.of_line {w : World} {A : Option Addr} {n c : Nat} {zs : List Int} (hn : zs.length = n) (h : SLine 1 w A n c (cellsW zs)) : RowK .i32 w A n zs := by
  refine ⟨hn, fun h0 => ?_⟩
  obtain ⟨g, off, e, hg, hc, _⟩ := h.at h0
  refine ⟨g, off, e, hg, fun i hi => ?_⟩
  rw [hc i (by omega)]
  unfold cellsW
  rw [List.getElem?_map, List.getElem?_eq_getElem (by omega)]
  simp [List.getD_eq_getElem?_getD, List.getElem?_eq_getElem (show i < zs.length by omega)]
theorem input_of {w : World} {A : Option Addr} {n c : Nat} {zs : List Int} (h : IsRow .i32 w A n c zs) : ∃ inp : List Int, inp.length = min n 30 ∧ RowK .i32 w A (min n 30) inp ∧ (∀ v ∈ inp, R32 v) ∧ (A = none → c = 0) ∧ n ≤ c ∧ c ≤ 9223372036854775807 := by
  have hr := RowK.of_isRow h
  have ht := hr.take (min n 30) (Nat.min_le_left _ _)
  refine ⟨_, ht.1, ht, fun v hv => ?_, ?_⟩
  · have hv' := List.mem_of_mem_take (List.mem_of_mem_take hv)
    rcases h with ⟨_, _, _, rfl⟩ | ⟨x, rfl, hl, hm, hz, hc, hw⟩
    · cases hv'
    · exact bounds_i32' (hw v hv')
  · rcases h with ⟨rfl, rfl, rfl, rfl⟩ | ⟨x, rfl, hl, hm, hz, hc, hw⟩
    · exact ⟨fun _ => rfl, by omega, by omega⟩
    · refine ⟨fun e => (by cases e), hl, ?_⟩
      unfold maxLen at hm
      omega
theorem sameR_self (a b : Rs) (h1 : a.fin = b.fin) (h2 : a.value = b.value) (h3 : a.reads = b.reads) (h4 : a.tr = b.tr) : sameR a b = true := by
  unfold sameR
  simp [h1, h2, h3, h4]
theorem row5 {W : World} {p : Nat} {a b c d e : Value} {T : Nat} (h : W.heap[p]? = some (.cells #[a, b, c, d, e] T (0, 0))) : W.cell? ⟨p, 0, none⟩ = some a ∧ W.cell? ⟨p, 1, none⟩ = some b ∧ W.cell? ⟨p, 2, none⟩ = some c ∧ W.cell? ⟨p, 3, none⟩ = some d ∧ W.cell? ⟨p, 4, none⟩ = some e :=
  ⟨by rw [cell_of_row _ _ 0 _ _ (0, 0) h]; rfl, by rw [cell_of_row _ _ 1 _ _ (0, 0) h]; rfl, by rw [cell_of_row _ _ 2 _ _ (0, 0) h]; rfl, by rw [cell_of_row _ _ 3 _ _ (0, 0) h]; rfl, by rw [cell_of_row _ _ 4 _ _ (0, 0) h]; rfl⟩
theorem free5 {W : World} {p : Nat} {cs : Array Value} {T : Nat} (h : W.heap[p]? = some (.cells cs T (0, 0))) : W.frozen? ⟨p, 0, none⟩ = false ∧ W.frozen? ⟨p, 1, none⟩ = false ∧ W.frozen? ⟨p, 2, none⟩ = false ∧ W.frozen? ⟨p, 3, none⟩ = false ∧ W.frozen? ⟨p, 4, none⟩ = false :=
  ⟨frozen_of_row W p 0 _ _ h, frozen_of_row W p 1 _ _ h, frozen_of_row W p 2 _ _ h, frozen_of_row W p 3 _ _ h, frozen_of_row W p 4 _ _ h⟩
theorem set5 {W : World} {p T : Nat} {a b c d e : Value} (h : W.heap[p]? = some (.cells #[a, b, c, d, e] T (0, 0))) (a' b' c' d' e' : Value) :
    ∃ X, (((((W.setCell ⟨p, 0, none⟩ a').setCell ⟨p, 1, none⟩ b').setCell ⟨p, 2, none⟩ c').setCell ⟨p, 3, none⟩ d').setCell ⟨p, 4, none⟩ e') = X ∧ X.heap[p]? = some (.cells #[a', b', c', d', e'] T (0, 0)) ∧ Chg [p] W X := by
  have hm : p ∈ [p] ∨ W.heap.size ≤ p := .inl (List.mem_singleton.2 rfl)
  refine ⟨_, rfl, ?_, ((((((Chg.refl [p] W).setCell p 0 a' hm).setCell p 1 b' hm).setCell p 2 c' hm).setCell p 3 d' hm).setCell p 4 e' hm)⟩
  have h1 := heap_setCell_same W p 0 _ _ a' h
  have h2 := heap_setCell_same _ p 1 _ _ b' h1
  have h3 := heap_setCell_same _ p 2 _ _ c' h2
  have h4 := heap_setCell_same _ p 3 _ _ d' h3
  exact (heap_setCell_same _ p 4 _ _ e' h4).trans rfl
/-- A run's trace is no longer than its steps. -/
theorem runM_len {ls : List Ln} {inp : List Int} {fuel : Int} : ∀ (n : Nat) (s : MS), Good inp s → ((runM ls inp fuel n s).res).tr.length ≤ s.steps + n
  | 0, s, hg => hg.tr
  | n + 1, s, hg => by
    show (match stepM ls inp fuel s with | .go s' => runM ls inp fuel n s' | .fin k s' => .fin k s').res.tr.length ≤ _
    cases hs : stepM ls inp fuel s with
    | go s' =>
      obtain ⟨h1, h2, _⟩ := stepM_good hg hs
      have := runM_len (ls := ls) (fuel := fuel) n s' h1
      dsimp only
      omega
    | fin k s' =>
      have ht := hg.tr
      have : s'.tr = s.tr := by
        unfold stepM at hs
        split at hs
        · cases hs; rfl
        · split at hs
          · cases hs; rfl
          · split at hs
            · cases hs; rfl
            · unfold insM at hs
              split at hs
              · split at hs
                · cases hs; rfl
                · cases hs
              · split at hs
                · split at hs
                  · cases hs; rfl
                  · cases hs
                · split at hs
                  · split at hs
                    · next h2 =>
                      cases hs
                      unfold callM at h2
                      split at h2
                      · cases h2
                      · split at h2
                        · cases h2
                        · split at h2 <;> (cases h2; rfl)
                    · cases hs
                  · cases hs
      show s'.tr.length ≤ _
      rw [this]
      omega
theorem runR_len {ls : List Ln} {inp : List Int} {q : Nat} (hq : q ≤ 400) (n : Nat) (pc : Int) (hpc : -2147483648 ≤ pc ∧ pc ≤ 2147483647) : (runR ls inp (q : Int) (newS n pc)).tr.length ≤ 1000000 := by
  have := runM_len (ls := ls) (inp := inp) (fuel := (q : Int)) ((q : Int).toNat + 1) (newS n pc) ⟨hpc, by simp [newS], by simp [newS]⟩
  unfold runR
  have h0 : (newS n pc).steps = 0 := rfl
  rw [h0, Int.toNat_natCast] at this
  rw [Int.toNat_natCast]
  omega
theorem run_nil (iA : Option Addr) (im ic : Nat) (fuel : Int) (w : World) : Calls Try.prog 19 #[.pointer none, .slice iA im ic, .int .i64 fuel] w fun e w' => e = .returned (.agg #[.int .i64 6, .int .i32 0, .slice none 0 0, .int .i64 0, .int .i64 0]) ∧ Below w.heap.size w w' := by
  obtain ⟨W1, hW1⟩ : ∃ W1, w.alloc (.cells #[.int .i64 0, .int .i32 0, .slice none 0 0, .int .i64 0, .int .i64 0] 57) = W1 := ⟨_, rfl⟩
  obtain ⟨r, hr⟩ : ∃ r, w.heap.size = r := ⟨_, rfl⟩
  have hB1 : Below w.heap.size w W1 := by rw [← hW1]; exact (Below.refl _ _).alloc (Nat.le_refl _) _
  have hr1 : W1.heap[r]? = some (.cells #[.int .i64 0, .int .i32 0, .slice none 0 0, .int .i64 0, .int .i64 0] 57 (0, 0)) := by rw [← hW1, ← hr]; exact heap_alloc_new w _
  obtain ⟨X, eX, kX, cX⟩ := set5 hr1 (.int .i64 6) (.int .i32 0) (.slice none 0 0) (.int .i64 0) (.int .i64 0)
  obtain ⟨r0, r1, r2, r3, r4⟩ := row5 hr1
  obtain ⟨x0, x1, x2, x3, x4⟩ := free5 hr1
  obtain ⟨p0, p1, p2, p3, p4⟩ := row5 kX
  have HBX : Hid (Below w.heap.size w X) := Lib.hid (hB1.trans (cX.toBelow (fun k hk => by rw [List.mem_singleton] at hk; rw [hk, hr]; exact Nat.le_refl _) hB1.size))
  clear hB1 hr1 kX cX
  go_enter_defers Try.func19, Try.ntmps19
  go_wp2_with fail
  simp [bodyPostD, Leaves, settle, results, Try.results19, go_sem, p0, p1, p2, p3, p4]
  exact HBX.out
end Rv
end Go.Proofs.Ytmedhibjkbahpaa
