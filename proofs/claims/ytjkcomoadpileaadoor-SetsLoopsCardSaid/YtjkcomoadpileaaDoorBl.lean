/-
  'for n := range b.Each() { .. }': the statement, over the loop's contract. The body may write what it owns, the set itself among it.
-/
import Derived.Test.YtjkcomoadpileaaDoorBk
namespace Go.Proofs.YtjkcomoadpileaaDoor
open Go.RowKit Go.Shelf
attribute [local go_sem] Oper.semAt_some
set_option linter.unusedVariables false

/-- What the law keeps of its own: the block for deferred calls, the loop's record, the copy at C. -/
def Keeps3 (D C : Nat) (W W' : World) : Prop := W.heap.size ≤ W'.heap.size ∧ W'.heap[D]? = W.heap[D]? ∧ W'.heap[D + 1]? = W.heap[D + 1]? ∧ W'.heap[C]? = W.heap[C]?
theorem Chg.keeps3 {l : List Nat} {D C : Nat} {W W' : World} (h : Chg l W W') (hD : D + 1 < W.heap.size) (hC : C < W.heap.size) (h1 : D ∉ l) (h2 : D + 1 ∉ l) (h3 : C ∉ l) : Keeps3 D C W W' :=
  ⟨h.size, h.same D (by omega) h1, h.same (D + 1) hD h2, h.same C hC h3⟩
/-- A state that abides whatever becomes of the law's own blocks. -/
def Steady (D : Nat) (I : World → Prop) : Prop := ∀ W W', I W → Chg [D, D + 1] W W' → I W'
theorem chg_putObj (w : World) (l : Nat) (o : Obj) : Chg [l] w (w.putObj l o) :=
  ⟨⟨rfl, rfl, rfl, by simp, fun k hk => absurd hk (Nat.not_lt_zero _)⟩, fun k _ hn => World.putObj_heap_other (fun e => hn (by rw [e]; exact List.mem_singleton_self _))⟩
/-- How the body of a round may be left. -/
def setPost (D C : Nat) (I : List Nat → World → Prop) (Ix : Code → List Nat → World → Prop) (xs : List Nat) (W : World) : Exit → Act → World → Prop
  | .normal, _, W' => Keeps3 D C W W' ∧ I xs W'
  | .ret, _, W' => Keeps3 D C W W' ∧ Ix .ret xs W'
  | .exit id, _, W' => Keeps3 D C W W' ∧ Ix (.exit id) xs W'
  | .goto t, _, W' => Keeps3 D C W W' ∧ Ix (.goto t) xs W'
  | .panic _, _, _ => False
  | .outgrown, _, _ => False
theorem callFunc_run (args : Array Value) (w : World) : (callFunc 37 args).run Tryd.prog w = .ok (.enter 37 args) w := enters_of Tryd.func37 (by kernel_rfl) rfl args w
theorem range_set (n : Nat) (hn : 2 ≤ n) {g : Operand} {ps : Array Tmp} {assign body : Code} {Q : Exit → Act → World → Prop} {a : Act} {w : World} {Bx : Nat}
    (hg : a.eval g = .func (.func 37) #[] #[.pointer (some ⟨Bx, 0, none⟩)]) (hps : ps.size = 1)
    (p : Option Addr) (v : Value) (ws : List Nat) (hbx : w.cell? ⟨Bx, 0, none⟩ = some (.pointer p)) (hA : At w p v ws)
    (I : Nat → List Nat → World → Prop) (Ix : Nat → Code → List Nat → World → Prop)
    (hI : ∀ C xs, Steady w.heap.size (I C xs)) (hIx : ∀ C c xs, Steady w.heap.size (Ix C c xs)) (hIT : ∀ C xs W, I C xs W → TabOk W)
    (h0 : ∀ C W, w.heap.size + 2 ≤ C → Below w.heap.size w W → I C [] W) (a₁ : Nat → Act)
    (hassign : ∀ (x : Nat) (W : World) (K : Act → World → Prop), K (a₁ x) W →
      assign.wpIn (Fence.wide.inRound (w.heap.size + 1)) (n - 1 - 1) Tryd.prog (Exit.then K (fun _ _ _ => False)) { tmps := (ps.zip #[Value.int .i64 (x : Int)]).foldl (fun t (p, v) => t.setIfInBounds p v) a.tmps, defers := [] } W)
    (hbody : ∀ (C : Nat) (pre : List Nat) (x : Nat) (W : World), w.heap.size + 2 ≤ C → C < W.heap.size → w.heap.size + 1 < W.heap.size → I C pre W → pre ++ [x] <+: elems ws →
      body.wpIn (Fence.wide.inRound (w.heap.size + 1)) (n - 1 - 1) Tryd.prog (setPost w.heap.size C (I C) (Ix C) (pre ++ [x]) W) (a₁ x) W)
    (hdone : ∀ (C : Nat) (W : World), I C (elems ws) W → W.heap[w.heap.size]? = some (.deferred (some [])) → Q .normal { a with defers := { target := .collected w.heap.size, args := #[] } :: a.defers } W)
    (hstop : ∀ (C : Nat) (c : Code) (pre : List Nat) (W : World), pre <+: elems ws → Ix C c pre W → W.heap[w.heap.size]? = some (.deferred (some [])) → c.wpIn Fence.wide n Tryd.prog Q { a with defers := { target := .collected w.heap.size, args := #[] } :: a.defers } W) :
    (Code.rangeFunc g ps assign body).wpIn Fence.wide n Tryd.prog Q a w := by
  refine wpIn_rangeFunc ?_
  intro fn hfn
  rw [show Fence.wide.round = none from rfl]
  obtain ⟨D, hD⟩ : ∃ D, w.heap.size = D := ⟨_, rfl⟩
  obtain ⟨rec, hrec⟩ : ∃ rec : LoopState → Option Code → Loop, rec = fun st pe => { state := st, pending := pe, fn, tmps := a.tmps, params := ps, assign, body, defers := D } := ⟨_, rfl⟩
  obtain ⟨W1, hW1⟩ : ∃ W1, (w.alloc (.deferred (some []))).alloc (.loop (rec .ready none)) = W1 := ⟨_, rfl⟩
  have hs1 : W1.heap.size = D + 2 := by rw [← hW1]; simp [hD]
  have hL1 : W1.heap[D + 1]? = some (.loop (rec .ready none)) := by
    have := World.alloc_heap_new (w.alloc (.deferred (some []))) (.loop (rec .ready none))
    rw [World.size_alloc, hD, hW1] at this
    exact this
  have hK1 : W1.heap[D]? = some (.deferred (some [])) := by
    have := World.alloc_heap_new w (.deferred (some []))
    rw [hD] at this
    rw [← hW1]
    exact (Below.heap_alloc _ _ _ (by simp [hD])).trans this
  have hb1 : Below w.heap.size w W1 := by
    rw [← hW1]
    exact ((Below.refl _ w).alloc (Nat.le_refl _) _).alloc (by simp) _
  have hA1 : At W1 p v ws := by
    rcases hA with h | ⟨b, e, h⟩
    · exact .inl h
    · exact .inr ⟨b, e, h.below hb1⟩
  have hbx1 : W1.cell? ⟨Bx, 0, none⟩ = some (.pointer p) := (hb1.cell (p := ⟨Bx, 0, none⟩) (World.block_lt_of_cell? w _ hbx)).trans hbx
  rw [hD] at hI hIx h0 hassign hbody hdone hstop
  refine ⟨D + 1, [{ target := .collected D, args := #[] }], W1, { target := .fn (.func 37) #[.pointer (some ⟨Bx, 0, none⟩)], args := #[.func (.yield (D + 1)) #[] #[]] }, W1, 37,
    #[.func (.yield (D + 1)) #[] #[], .pointer (some ⟨Bx, 0, none⟩)], W1, ?_, ?_, ?_, ?_, fun _ => by omega, ?_⟩
  · rw [← hW1, hrec, ← hD]
    exact run_enterLoop_outer _ _ _ _ _
  · simp only [resolve, hg]
    simp [go_sem]
  · intro f' hf'
    exact trivial
  · simp [invoke, go_sem]
  · refine (each1_at (n - 1) (by omega) (D + 1) Bx p v ws
      (fun C pre W => I C pre W ∧ W.heap[D + 1]? = some (.loop (rec .ready none)) ∧ W.heap[D]? = some (.deferred (some [])))
      (fun C pre W => ∃ c, Ix C c pre W ∧ W.heap[D + 1]? = some (.loop (rec .done (some c))) ∧ W.heap[D]? = some (.deferred (some [])))
      W1 hbx1 hA1 (fun C pre W' h => hIT C pre W' h.1) ?_ ?_).mono ?_
    · intro C W2 hC hb2
      rw [hs1] at hC
      refine ⟨h0 C W2 hC (by rw [← hD]; exact hb1.trans (hb2.mono hb1.size)), (hb2.block (D + 1) (by omega)).trans hL1, (hb2.block D (by omega)).trans hK1⟩
    · -- one round
      intro C pre x W hBC hCW hJ hpre
      obtain ⟨hi, hl, hk⟩ := hJ
      rw [hs1] at hBC
      have hlt : D + 1 < W.heap.size := (Array.getElem?_eq_some_iff.1 hl).1
      have hy := run_yield (P := Tryd.prog) (args := #[Value.int .i64 (x : Int)]) hl (by rw [hrec]; simp [hps])
      rw [hrec] at hy
      refine ⟨fn, _, assign, body, hy, roundIn_of_wpIn hfn (hassign x W _ ⟨_, run_beginRound hl (by rw [hrec]), ?_⟩)⟩
      obtain ⟨Wb, hWb⟩ : ∃ Wb, W.putObj (D + 1) (.loop { rec .ready none with state := .busy }) = Wb := ⟨_, rfl⟩
      have hcb : Chg [D, D + 1] W Wb := by
        rw [← hWb]
        exact (chg_putObj W (D + 1) _).weaken (fun k hk => .inl (by simp only [List.mem_singleton] at hk; subst hk; simp))
      have hl2 : Wb.heap[D + 1]? = some (.loop { rec .ready none with state := .busy }) := by rw [← hWb]; exact World.putObj_heap_same hlt
      have hk2 : Wb.heap[D]? = some (.deferred (some [])) := by rw [← hWb]; exact (World.putObj_heap_other (by omega)).trans hk
      have hC2 : Wb.heap[C]? = W.heap[C]? := by rw [← hWb]; exact World.putObj_heap_other (by omega)
      rw [hWb]
      refine wpIn_mono (hbody C pre x Wb hBC (Nat.lt_of_lt_of_le hCW hcb.size) (Nat.lt_of_lt_of_le hlt hcb.size) (hI C pre W Wb hi hcb) hpre) ?_
      have fin : ∀ (jump : Option Code) (W3 : World), Keeps3 D C Wb W3 → ∃ W4,
          (Instr.endRound (D + 1) jump).run Tryd.prog W3 = .ok (.bool jump.isNone) W4 ∧ Chg [D, D + 1] W3 W4 ∧ W4.heap[D + 1]? = some (.loop (rec (if jump.isNone then .ready else .done) jump)) ∧ W4.heap[D]? = some (.deferred (some [])) ∧
          W4.heap[C]? = W.heap[C]? ∧ W.heap.size ≤ W4.heap.size := fun jump W3 hk3 => by
        obtain ⟨h1, h2, h3, h4⟩ := hk3
        have hl3 := h3.trans hl2
        have hrun := run_endRound (P := Tryd.prog) jump hl3
        have hlt3 : D + 1 < W3.heap.size := (Array.getElem?_eq_some_iff.1 hl3).1
        refine ⟨_, hrun, (chg_putObj W3 (D + 1) _).weaken (fun k hk => .inl (by simp only [List.mem_singleton] at hk; subst hk; simp)), ?_, (World.putObj_heap_other (by omega)).trans (h2.trans hk2), (World.putObj_heap_other (by omega)).trans (h4.trans hC2), ?_⟩
        · rw [World.putObj_heap_same hlt3, hrec]
        · have := hcb.size
          simp
          omega
      rintro e a3 W3 hp
      cases e with
      | normal =>
        obtain ⟨hk3, hi3⟩ := hp
        obtain ⟨W4, hr, hc4, hl4, hd4, hC4, hs4⟩ := fin none W3 hk3
        exact ⟨_, _, hr, .inl ⟨rfl, ⟨hI _ _ _ _ hi3 hc4, hl4, hd4⟩, hC4, hs4⟩⟩
      | ret =>
        obtain ⟨hk3, hi3⟩ := hp
        obtain ⟨W4, hr, hc4, hl4, hd4, hC4, hs4⟩ := fin (some .ret) W3 hk3
        exact ⟨_, _, hr, .inr ⟨rfl, .ret, hIx _ _ _ _ _ hi3 hc4, hl4, hd4⟩⟩
      | exit id =>
        obtain ⟨hk3, hi3⟩ := hp
        obtain ⟨W4, hr, hc4, hl4, hd4, hC4, hs4⟩ := fin (some (.exit id)) W3 hk3
        exact ⟨_, _, hr, .inr ⟨rfl, .exit id, hIx _ _ _ _ _ hi3 hc4, hl4, hd4⟩⟩
      | goto t =>
        obtain ⟨hk3, hi3⟩ := hp
        obtain ⟨W4, hr, hc4, hl4, hd4, hC4, hs4⟩ := fin (some (.goto t)) W3 hk3
        exact ⟨_, _, hr, .inr ⟨rfl, .goto t, hIx _ _ _ _ _ hi3 hc4, hl4, hd4⟩⟩
      | panic ch => exact hp.elim
      | outgrown => exact hp.elim
    · -- behind the loop
      have fin : ∀ (W2 : World) (st : LoopState) (pe : Option Code), st ≠ .busy → W2.heap[D + 1]? = some (.loop (rec st pe)) → W2.heap[D]? = some (.deferred (some [])) →
          ∃ W4, (Instr.endLoop (D + 1)).run Tryd.prog W2 = .ok pe W4 ∧ Chg [D, D + 1] W2 W4 ∧ W4.heap[D]? = some (.deferred (some [])) := fun W2 st pe hst hl hk => by
        have hrun := run_endLoop (P := Tryd.prog) hl (by rw [hrec]; exact hst)
        rw [hrec] at hrun
        exact ⟨_, hrun, (chg_putObj W2 (D + 1) _).weaken (fun k hk => .inl (by simp only [List.mem_singleton] at hk; subst hk; simp)), (World.putObj_heap_other (by omega)).trans hk⟩
      rintro e W2 ⟨⟨v, rfl⟩, C, hC, (⟨hi, hl, hk⟩ | ⟨pre, hpre, c, hi, hl, hk⟩)⟩
      · obtain ⟨W4, hr, hc, hd⟩ := fin W2 _ _ (by simp) hl hk
        exact ⟨none, _, hr, hdone C W4 (hI _ _ _ _ hi hc) hd⟩
      · obtain ⟨W4, hr, hc, hd⟩ := fin W2 _ _ (by simp) hl hk
        exact ⟨some c, _, hr, hstop C c pre W4 hpre (hIx _ _ _ _ _ hi hc) hd⟩
end Go.Proofs.YtjkcomoadpileaaDoor
