/- 'for .. := range it { .. }' over an iterator that copies what it goes over first, whatever the body does: the statement, over the iterator's contract. No function of the program in sight. -/
import Derived.Test.YtdjnebgjdekmaaaGreatDoorZaf
import Derived.LaidMore
import Derived.RangeFuncNested
import Derived.RangeFuncBound
import Derived.RangeFuncCalls
import Derived.RangeFuncLeaves
import Derived.Shelf.Abstract
import Derived.Shelf.RegionOpen
import Derived.OwnWalkIn
import Derived.TacticsInMore
import Derived.LoopNIn
import Derived.LoopIn
set_option linter.unusedVariables false
namespace Go.Proofs.YtdjnebgjdekmaaaGreatDoor
attribute [local go_sem] Oper.semAt_some
open Go.RowKit Go.Shelf
def RoundsIt {β : Type} (P : Program) (ar : β → Array Value) (n l : Nat) (xs : List β) (B : Nat) (J Jx : Nat → List β → World → Prop) : Prop :=
 ∀ C pre x W1, B ≤ C → C < W1.heap.size → J C pre W1 → pre ++ [x] <+: xs →
  YieldAt Fence.wide n P l (ar x) W1 fun e W' =>
   (e = .returned (.bool true) ∧ J C (pre ++ [x]) W' ∧ W'.heap[C]? = W1.heap[C]? ∧ W1.heap.size ≤ W'.heap.size) ∨ (e = .returned (.bool false) ∧ Jx C (pre ++ [x]) W')
def IterOk {β : Type} (P : Program) (f : FuncId) (caps : Array Value) (ar : β → Array Value) (d : Nat) (xs : List β) (w : World) : Prop :=
 ∀ (n : Nat), d ≤ n → ∀ (l : Nat) (J Jx : Nat → List β → World → Prop), (∀ C pre W W', J C pre W → Below W.heap.size W W' → J C pre W') →
  (∀ C W1, w.heap.size ≤ C → Below w.heap.size w W1 → J C [] W1) → RoundsIt P ar (n - d) l xs w.heap.size J Jx →
  CallsIn Fence.wide n P f (#[Value.func (.yield l) #[] #[]] ++ caps) w fun e W' => (∃ v, e = .returned v) ∧ ∃ C, w.heap.size ≤ C ∧ (J C xs W' ∨ ∃ pre, pre <+: xs ∧ Jx C pre W')
def KeepsIt (D C : Nat) (W W' : World) : Prop := W.heap.size ≤ W'.heap.size ∧ W'.heap[D]? = W.heap[D]? ∧ W'.heap[D + 1]? = W.heap[D + 1]? ∧ W'.heap[C]? = W.heap[C]?
theorem Chg.keepsIt {l : List Nat} {D C : Nat} {W W' : World} (h : Chg l W W') (hD : D + 1 < W.heap.size) (hC : C < W.heap.size) (h1 : D ∉ l) (h2 : D + 1 ∉ l) (h3 : C ∉ l) : KeepsIt D C W W' :=
 ⟨h.size, h.same D (by omega) h1, h.same (D + 1) hD h2, h.same C hC h3⟩
theorem KeepsIt.trans {D C : Nat} {W W' W2 : World} (h : KeepsIt D C W W') (h2 : KeepsIt D C W' W2) : KeepsIt D C W W2 :=
 ⟨Nat.le_trans h.1 h2.1, h2.2.1.trans h.2.1, h2.2.2.1.trans h.2.2.1, h2.2.2.2.trans h.2.2.2⟩
def SteadyIt (D : Nat) (I : World → Prop) : Prop := ∀ W W', I W → Chg [D, D + 1] W W' → I W'
theorem chg_putObjIt (w : World) (l : Nat) (o : Obj) : Chg [l] w (w.putObj l o) :=
 ⟨⟨rfl, rfl, rfl, by simp, fun k hk => absurd hk (Nat.not_lt_zero _)⟩, fun k _ hn => World.putObj_heap_other (fun e => hn (by rw [e]; exact List.mem_singleton_self _))⟩
def itPost {β : Type} (D C : Nat) (I : List β → World → Prop) (Ix : Code → List β → World → Prop) (xs : List β) (W : World) : Exit → Act → World → Prop
 | .normal, _, W' => KeepsIt D C W W' ∧ I xs W'
 | .ret, _, W' => KeepsIt D C W W' ∧ Ix .ret xs W'
 | .exit id, _, W' => KeepsIt D C W W' ∧ Ix (.exit id) xs W'
 | .goto t, _, W' => KeepsIt D C W W' ∧ Ix (.goto t) xs W'
 | .panic _, _, _ => False
 | .outgrown, _, _ => False
theorem range_it {P : Program} {β : Type} (n d : Nat) (hn : d + 1 ≤ n) {g : Operand} {ps : Array Tmp} {assign body : Code} {Q : Exit → Act → World → Prop} {a : Act} {w : World} (f : FuncId) (caps : Array Value) (ar : β → Array Value)
 (hg : a.eval g = .func (.func f) #[] caps) (henter : ∀ (args : Array Value) (w : World), (callFunc f args).run P w = .ok (.enter f args) w) (hps : ∀ x, ps.size = (ar x).size) (xs : List β) (hiter : ∀ W1, Below w.heap.size w W1 → IterOk P f caps ar d xs W1)
 (I : Nat → List β → World → Prop) (Ix : Nat → Code → List β → World → Prop)
 (hI : ∀ C xs, SteadyIt w.heap.size (I C xs)) (hIx : ∀ C c xs, SteadyIt w.heap.size (Ix C c xs))
 (h0 : ∀ C W, w.heap.size + 2 ≤ C → Below w.heap.size w W → I C [] W)
 (hab : ∃ a₁ : β → Act, (∀ (x : β) (W : World) (K : Act → World → Prop), K (a₁ x) W →
  assign.wpIn (Fence.wide.inRound (w.heap.size + 1)) (n - 1 - d) P (Exit.then K (fun _ _ _ => False)) { tmps := (ps.zip (ar x)).foldl (fun t (p, v) => t.setIfInBounds p v) a.tmps, defers := [] } W) ∧
  ∀ (C : Nat) (pre : List β) (x : β) (W : World), w.heap.size + 2 ≤ C → C < W.heap.size → w.heap.size + 1 < W.heap.size → I C pre W → pre ++ [x] <+: xs →
  body.wpIn (Fence.wide.inRound (w.heap.size + 1)) (n - 1 - d) P (itPost w.heap.size C (I C) (Ix C) (pre ++ [x]) W) (a₁ x) W)
 (hdone : ∀ (C : Nat) (W : World), I C xs W → W.heap[w.heap.size]? = some (.deferred (some [])) → Q .normal { a with defers := { target := .collected w.heap.size, args := #[] } :: a.defers } W)
 (hstop : ∀ (C : Nat) (c : Code) (pre : List β) (W : World), pre <+: xs → Ix C c pre W → W.heap[w.heap.size]? = some (.deferred (some [])) → c.wpIn Fence.wide n P Q { a with defers := { target := .collected w.heap.size, args := #[] } :: a.defers } W) :
 (Code.rangeFunc g ps assign body).wpIn Fence.wide n P Q a w := by
 obtain ⟨a₁, hassign, hbody⟩ := hab
 refine wpIn_rangeFunc ?_
 intro fn hfn
 rw [show Fence.wide.round = none from rfl]
 obtain ⟨D, hD⟩ : ∃ D, w.heap.size = D := ⟨_, rfl⟩
 obtain ⟨rec, hrec⟩ : ∃ rec : LoopState → Option Code → Loop, rec = fun st pe => { state := st, pending := pe, fn, tmps := a.tmps, params := ps, assign, body, defers := D } := ⟨_, rfl⟩
 obtain ⟨W1, hW1⟩ : ∃ W1, (w.alloc (.deferred (some []))).alloc (.loop (rec .ready none)) = W1 := ⟨_, rfl⟩
 have hs1 : W1.heap.size = D + 2 := by rw [← hW1]; simp [hD]
 have hL1 : W1.heap[D + 1]? = some (.loop (rec .ready none)) := by
  have := World.alloc_heap_new (w.alloc (.deferred (some []))) (.loop (rec .ready none))
  rw [World.size_alloc, hD, hW1] at this
  exact this
 have hK1 : W1.heap[D]? = some (.deferred (some [])) := by
  have := World.alloc_heap_new w (.deferred (some []))
  rw [hD] at this
  rw [← hW1]
  exact (Below.heap_alloc _ _ _ (by simp [hD])).trans this
 have hb1 : Below w.heap.size w W1 := by
  rw [← hW1]
  exact ((Below.refl _ w).alloc (Nat.le_refl _) _).alloc (by simp) _
 rw [hD] at hI hIx h0 hassign hbody hdone hstop
 refine ⟨D + 1, [{ target := .collected D, args := #[] }], W1, { target := .fn (.func f) caps, args := #[.func (.yield (D + 1)) #[] #[]] }, W1, f,
  #[Value.func (.yield (D + 1)) #[] #[]] ++ caps, W1, ?_, ?_, ?_, ?_, fun _ => by omega, ?_⟩
 · rw [← hW1, hrec, ← hD]
   exact run_enterLoop_outer _ _ _ _ _
 · simp only [resolve, hg]
   simp [go_sem]
 · intro f' hf'
   exact trivial
 · simp [invoke, go_sem, henter]
 · refine (hiter W1 hb1 (n - 1) (by omega) (D + 1)
    (fun C pre W => I C pre W ∧ W.heap[D + 1]? = some (.loop (rec .ready none)) ∧ W.heap[D]? = some (.deferred (some [])))
    (fun C pre W => ∃ c, Ix C c pre W ∧ W.heap[D + 1]? = some (.loop (rec .done (some c))) ∧ W.heap[D]? = some (.deferred (some []))) ?_ ?_ ?_).mono ?_
   · rintro C pre W W' ⟨hi, hl, hk⟩ hb
     exact ⟨hI C pre W W' hi (Chg.of_below hb), (hb.block _ (Array.getElem?_eq_some_iff.1 hl).1).trans hl, (hb.block _ (Array.getElem?_eq_some_iff.1 hk).1).trans hk⟩
   · intro C W2 hC hb2
     rw [hs1] at hC
     refine ⟨h0 C W2 hC (by rw [← hD]; exact hb1.trans (hb2.mono hb1.size)), (hb2.block (D + 1) (by omega)).trans hL1, (hb2.block D (by omega)).trans hK1⟩
   · -- one round
     intro C pre x W hBC hCW hJ hpre
     obtain ⟨hi, hl, hk⟩ := hJ
     rw [hs1] at hBC
     have hlt : D + 1 < W.heap.size := (Array.getElem?_eq_some_iff.1 hl).1
     have hy := run_yield (P := P) (args := ar x) hl (by rw [hrec]; simp [hps x])
     rw [hrec] at hy
     refine ⟨fn, _, assign, body, hy, roundIn_of_wpIn hfn (hassign x W _ ⟨_, run_beginRound hl (by rw [hrec]), ?_⟩)⟩
     obtain ⟨Wb, hWb⟩ : ∃ Wb, W.putObj (D + 1) (.loop { rec .ready none with state := .busy }) = Wb := ⟨_, rfl⟩
     have hcb : Chg [D, D + 1] W Wb := by
      rw [← hWb]
      exact (chg_putObjIt W (D + 1) _).weaken (fun k hk => .inl (by simp only [List.mem_singleton] at hk; subst hk; simp))
     have hl2 : Wb.heap[D + 1]? = some (.loop { rec .ready none with state := .busy }) := by rw [← hWb]; exact World.putObj_heap_same hlt
     have hk2 : Wb.heap[D]? = some (.deferred (some [])) := by rw [← hWb]; exact (World.putObj_heap_other (by omega)).trans hk
     have hC2 : Wb.heap[C]? = W.heap[C]? := by rw [← hWb]; exact World.putObj_heap_other (by omega)
     rw [hWb]
     refine wpIn_mono (hbody C pre x Wb hBC (Nat.lt_of_lt_of_le hCW hcb.size) (Nat.lt_of_lt_of_le hlt hcb.size) (hI C pre W Wb hi hcb) hpre) ?_
     have fin : ∀ (jump : Option Code) (W3 : World), KeepsIt D C Wb W3 → ∃ W4,
      (Instr.endRound (D + 1) jump).run P W3 = .ok (.bool jump.isNone) W4 ∧ Chg [D, D + 1] W3 W4 ∧ W4.heap[D + 1]? = some (.loop (rec (if jump.isNone then .ready else .done) jump)) ∧ W4.heap[D]? = some (.deferred (some [])) ∧
      W4.heap[C]? = W.heap[C]? ∧ W.heap.size ≤ W4.heap.size := fun jump W3 hk3 => by
      obtain ⟨h1, h2, h3, h4⟩ := hk3
      have hl3 := h3.trans hl2
      have hrun := run_endRound (P := P) jump hl3
      have hlt3 : D + 1 < W3.heap.size := (Array.getElem?_eq_some_iff.1 hl3).1
      refine ⟨_, hrun, (chg_putObjIt W3 (D + 1) _).weaken (fun k hk => .inl (by simp only [List.mem_singleton] at hk; subst hk; simp)), ?_, (World.putObj_heap_other (by omega)).trans (h2.trans hk2), (World.putObj_heap_other (by omega)).trans (h4.trans hC2), ?_⟩
      · rw [World.putObj_heap_same hlt3, hrec]
      · have := hcb.size
        simp
        omega
     rintro e a3 W3 hp
     cases e with
     | normal =>
      obtain ⟨hk3, hi3⟩ := hp
      obtain ⟨W4, hr, hc4, hl4, hd4, hC4, hs4⟩ := fin none W3 hk3
      exact ⟨_, _, hr, .inl ⟨rfl, ⟨hI _ _ _ _ hi3 hc4, hl4, hd4⟩, hC4, hs4⟩⟩
     | ret =>
      obtain ⟨hk3, hi3⟩ := hp
      obtain ⟨W4, hr, hc4, hl4, hd4, hC4, hs4⟩ := fin (some .ret) W3 hk3
      exact ⟨_, _, hr, .inr ⟨rfl, .ret, hIx _ _ _ _ _ hi3 hc4, hl4, hd4⟩⟩
     | exit id =>
      obtain ⟨hk3, hi3⟩ := hp
      obtain ⟨W4, hr, hc4, hl4, hd4, hC4, hs4⟩ := fin (some (.exit id)) W3 hk3
      exact ⟨_, _, hr, .inr ⟨rfl, .exit id, hIx _ _ _ _ _ hi3 hc4, hl4, hd4⟩⟩
     | goto t =>
      obtain ⟨hk3, hi3⟩ := hp
      obtain ⟨W4, hr, hc4, hl4, hd4, hC4, hs4⟩ := fin (some (.goto t)) W3 hk3
      exact ⟨_, _, hr, .inr ⟨rfl, .goto t, hIx _ _ _ _ _ hi3 hc4, hl4, hd4⟩⟩
     | panic ch => exact hp.elim
     | outgrown => exact hp.elim
   · -- behind the loop
     have fin : ∀ (W2 : World) (st : LoopState) (pe : Option Code), st ≠ .busy → W2.heap[D + 1]? = some (.loop (rec st pe)) → W2.heap[D]? = some (.deferred (some [])) →
      ∃ W4, (Instr.endLoop (D + 1)).run P W2 = .ok pe W4 ∧ Chg [D, D + 1] W2 W4 ∧ W4.heap[D]? = some (.deferred (some [])) := fun W2 st pe hst hl hk => by
      have hrun := run_endLoop (P := P) hl (by rw [hrec]; exact hst)
      rw [hrec] at hrun
      exact ⟨_, hrun, (chg_putObjIt W2 (D + 1) _).weaken (fun k hk => .inl (by simp only [List.mem_singleton] at hk; subst hk; simp)), (World.putObj_heap_other (by omega)).trans hk⟩
     rintro e W2 ⟨⟨v, rfl⟩, C, hC, (⟨hi, hl, hk⟩ | ⟨pre, hpre, c, hi, hl, hk⟩)⟩
     · obtain ⟨W4, hr, hc, hd⟩ := fin W2 _ _ (by simp) hl hk
       exact ⟨none, _, hr, hdone C W4 (hI _ _ _ _ hi hc) hd⟩
     · obtain ⟨W4, hr, hc, hd⟩ := fin W2 _ _ (by simp) hl hk
       exact ⟨some c, _, hr, hstop C c pre W4 hpre (hIx _ _ _ _ _ hi hc) hd⟩
def RoundsK {β : Type} (P : Program) (ar : β → Array Value) (n l : Nat) (xs : List β) (J Jx : List β → World → Prop) : Prop :=
 ∀ pre x W1, J pre W1 → pre ++ [x] <+: xs →
  YieldAt Fence.wide n P l (ar x) W1 fun e W' => (e = .returned (.bool true) ∧ J (pre ++ [x]) W') ∨ (e = .returned (.bool false) ∧ Jx (pre ++ [x]) W')
def IterK {β : Type} (P : Program) (f : FuncId) (caps : Array Value) (ar : β → Array Value) (d : Nat) (xs : List β) (Keep : World → Prop) (w : World) : Prop :=
 ∀ (n : Nat), d ≤ n → ∀ (l : Nat) (J Jx : List β → World → Prop), (∀ pre W W', J pre W → Below W.heap.size W W' → J pre W') → (∀ pre W, J pre W → Keep W) → J [] w → RoundsK P ar (n - d) l xs J Jx →
  CallsIn Fence.wide n P f (#[Value.func (.yield l) #[] #[]] ++ caps) w fun e W' => (∃ v, e = .returned v) ∧ (J xs W' ∨ ∃ pre, pre <+: xs ∧ Jx pre W')
def SizedK (D : Nat) (W W' : World) : Prop := W.heap.size ≤ W'.heap.size ∧ W'.heap[D]? = W.heap[D]? ∧ W'.heap[D + 1]? = W.heap[D + 1]?
theorem Chg.sizedK {l : List Nat} {D : Nat} {W W' : World} (h : Chg l W W') (hD : D + 1 < W.heap.size) (h1 : D ∉ l) (h2 : D + 1 ∉ l) : SizedK D W W' := ⟨h.size, h.same D (by omega) h1, h.same (D + 1) hD h2⟩
def ikPost {β : Type} (D : Nat) (I : List β → World → Prop) (Ix : Code → List β → World → Prop) (xs : List β) (W : World) : Exit → Act → World → Prop
 | .normal, _, W' => SizedK D W W' ∧ I xs W'
 | .ret, _, W' => SizedK D W W' ∧ Ix .ret xs W'
 | .exit id, _, W' => SizedK D W W' ∧ Ix (.exit id) xs W'
 | .goto t, _, W' => SizedK D W W' ∧ Ix (.goto t) xs W'
 | .panic _, _, _ => False
 | .outgrown, _, _ => False
theorem range_k {P : Program} {β : Type} (n d : Nat) (hn : d + 1 ≤ n) {g : Operand} {ps : Array Tmp} {assign body : Code} {Q : Exit → Act → World → Prop} {a : Act} {w : World} (f : FuncId) (caps : Array Value) (ar : β → Array Value)
 (hg : a.eval g = .func (.func f) #[] caps) (henter : ∀ (args : Array Value) (w : World), (callFunc f args).run P w = .ok (.enter f args) w) (hps : ∀ x, ps.size = (ar x).size) (xs : List β) (Keep : World → Prop) (hiter : ∀ W1, Below w.heap.size w W1 → IterK P f caps ar d xs Keep W1)
 (I : List β → World → Prop) (Ix : Code → List β → World → Prop)
 (hI : ∀ xs, SteadyIt w.heap.size (I xs)) (hIx : ∀ c xs, SteadyIt w.heap.size (Ix c xs)) (hkeep : ∀ xs W, I xs W → Keep W)
 (h0 : ∀ W, Below w.heap.size w W → I [] W)
 (hab : ∃ a₁ : β → Act, (∀ (x : β) (W : World) (K : Act → World → Prop), K (a₁ x) W →
  assign.wpIn (Fence.wide.inRound (w.heap.size + 1)) (n - 1 - d) P (Exit.then K (fun _ _ _ => False)) { tmps := (ps.zip (ar x)).foldl (fun t (p, v) => t.setIfInBounds p v) a.tmps, defers := [] } W) ∧
  ∀ (pre : List β) (x : β) (W : World), w.heap.size + 1 < W.heap.size → I pre W → pre ++ [x] <+: xs →
  body.wpIn (Fence.wide.inRound (w.heap.size + 1)) (n - 1 - d) P (ikPost w.heap.size I Ix (pre ++ [x]) W) (a₁ x) W)
 (hdone : ∀ (W : World), I xs W → W.heap[w.heap.size]? = some (.deferred (some [])) → Q .normal { a with defers := { target := .collected w.heap.size, args := #[] } :: a.defers } W)
 (hstop : ∀ (c : Code) (pre : List β) (W : World), pre <+: xs → Ix c pre W → W.heap[w.heap.size]? = some (.deferred (some [])) → c.wpIn Fence.wide n P Q { a with defers := { target := .collected w.heap.size, args := #[] } :: a.defers } W) :
 (Code.rangeFunc g ps assign body).wpIn Fence.wide n P Q a w := by
 obtain ⟨a₁, hassign, hbody⟩ := hab
 refine wpIn_rangeFunc ?_
 intro fn hfn
 rw [show Fence.wide.round = none from rfl]
 obtain ⟨D, hD⟩ : ∃ D, w.heap.size = D := ⟨_, rfl⟩
 obtain ⟨rec, hrec⟩ : ∃ rec : LoopState → Option Code → Loop, rec = fun st pe => { state := st, pending := pe, fn, tmps := a.tmps, params := ps, assign, body, defers := D } := ⟨_, rfl⟩
 obtain ⟨W1, hW1⟩ : ∃ W1, (w.alloc (.deferred (some []))).alloc (.loop (rec .ready none)) = W1 := ⟨_, rfl⟩
 have hs1 : W1.heap.size = D + 2 := by rw [← hW1]; simp [hD]
 have hL1 : W1.heap[D + 1]? = some (.loop (rec .ready none)) := by
  have := World.alloc_heap_new (w.alloc (.deferred (some []))) (.loop (rec .ready none))
  rw [World.size_alloc, hD, hW1] at this
  exact this
 have hK1 : W1.heap[D]? = some (.deferred (some [])) := by
  have := World.alloc_heap_new w (.deferred (some []))
  rw [hD] at this
  rw [← hW1]
  exact (Below.heap_alloc _ _ _ (by simp [hD])).trans this
 have hb1 : Below w.heap.size w W1 := by
  rw [← hW1]
  exact ((Below.refl _ w).alloc (Nat.le_refl _) _).alloc (by simp) _
 rw [hD] at hI hIx h0 hassign hbody hdone hstop
 refine ⟨D + 1, [{ target := .collected D, args := #[] }], W1, { target := .fn (.func f) caps, args := #[.func (.yield (D + 1)) #[] #[]] }, W1, f,
  #[Value.func (.yield (D + 1)) #[] #[]] ++ caps, W1, ?_, ?_, ?_, ?_, fun _ => by omega, ?_⟩
 · rw [← hW1, hrec, ← hD]
   exact run_enterLoop_outer _ _ _ _ _
 · simp only [resolve, hg]
   simp [go_sem]
 · intro f' hf'
   exact trivial
 · simp [invoke, go_sem, henter]
 · refine (hiter W1 hb1 (n - 1) (by omega) (D + 1)
    (fun pre W => I pre W ∧ W.heap[D + 1]? = some (.loop (rec .ready none)) ∧ W.heap[D]? = some (.deferred (some [])))
    (fun pre W => ∃ c, Ix c pre W ∧ W.heap[D + 1]? = some (.loop (rec .done (some c))) ∧ W.heap[D]? = some (.deferred (some []))) ?_ ?_ ?_ ?_).mono ?_
   · rintro pre W W' ⟨hi, hl, hk⟩ hb
     exact ⟨hI pre W W' hi (Chg.of_below hb), (hb.block _ (Array.getElem?_eq_some_iff.1 hl).1).trans hl, (hb.block _ (Array.getElem?_eq_some_iff.1 hk).1).trans hk⟩
   · rintro pre W ⟨hi, _, _⟩
     exact hkeep pre W hi
   · exact ⟨h0 W1 (by rw [← hD]; exact hb1), hL1, hK1⟩
   · -- one round
     intro pre x W hJ hpre
     obtain ⟨hi, hl, hk⟩ := hJ
     have hlt : D + 1 < W.heap.size := (Array.getElem?_eq_some_iff.1 hl).1
     have hy := run_yield (P := P) (args := ar x) hl (by rw [hrec]; simp [hps x])
     rw [hrec] at hy
     refine ⟨fn, _, assign, body, hy, roundIn_of_wpIn hfn (hassign x W _ ⟨_, run_beginRound hl (by rw [hrec]), ?_⟩)⟩
     obtain ⟨Wb, hWb⟩ : ∃ Wb, W.putObj (D + 1) (.loop { rec .ready none with state := .busy }) = Wb := ⟨_, rfl⟩
     have hcb : Chg [D, D + 1] W Wb := by
      rw [← hWb]
      exact (chg_putObjIt W (D + 1) _).weaken (fun k hk => .inl (by simp only [List.mem_singleton] at hk; subst hk; simp))
     have hl2 : Wb.heap[D + 1]? = some (.loop { rec .ready none with state := .busy }) := by rw [← hWb]; exact World.putObj_heap_same hlt
     have hk2 : Wb.heap[D]? = some (.deferred (some [])) := by rw [← hWb]; exact (World.putObj_heap_other (by omega)).trans hk
     rw [hWb]
     refine wpIn_mono (hbody pre x Wb (Nat.lt_of_lt_of_le hlt hcb.size) (hI pre W Wb hi hcb) hpre) ?_
     have fin : ∀ (jump : Option Code) (W3 : World), SizedK D Wb W3 → ∃ W4,
      (Instr.endRound (D + 1) jump).run P W3 = .ok (.bool jump.isNone) W4 ∧ Chg [D, D + 1] W3 W4 ∧ W4.heap[D + 1]? = some (.loop (rec (if jump.isNone then .ready else .done) jump)) ∧ W4.heap[D]? = some (.deferred (some [])) := fun jump W3 hk3 => by
      obtain ⟨h1, h2, h3⟩ := hk3
      have hl3 := h3.trans hl2
      have hrun := run_endRound (P := P) jump hl3
      have hlt3 : D + 1 < W3.heap.size := (Array.getElem?_eq_some_iff.1 hl3).1
      refine ⟨_, hrun, (chg_putObjIt W3 (D + 1) _).weaken (fun k hk => .inl (by simp only [List.mem_singleton] at hk; subst hk; simp)), ?_, (World.putObj_heap_other (by omega)).trans (h2.trans hk2)⟩
      rw [World.putObj_heap_same hlt3, hrec]
     rintro e a3 W3 hp
     cases e with
     | normal =>
      obtain ⟨hk3, hi3⟩ := hp
      obtain ⟨W4, hr, hc4, hl4, hd4⟩ := fin none W3 hk3
      exact ⟨_, _, hr, .inl ⟨rfl, ⟨hI _ _ _ hi3 hc4, hl4, hd4⟩⟩⟩
     | ret =>
      obtain ⟨hk3, hi3⟩ := hp
      obtain ⟨W4, hr, hc4, hl4, hd4⟩ := fin (some .ret) W3 hk3
      exact ⟨_, _, hr, .inr ⟨rfl, .ret, hIx _ _ _ _ hi3 hc4, hl4, hd4⟩⟩
     | exit id =>
      obtain ⟨hk3, hi3⟩ := hp
      obtain ⟨W4, hr, hc4, hl4, hd4⟩ := fin (some (.exit id)) W3 hk3
      exact ⟨_, _, hr, .inr ⟨rfl, .exit id, hIx _ _ _ _ hi3 hc4, hl4, hd4⟩⟩
     | goto t =>
      obtain ⟨hk3, hi3⟩ := hp
      obtain ⟨W4, hr, hc4, hl4, hd4⟩ := fin (some (.goto t)) W3 hk3
      exact ⟨_, _, hr, .inr ⟨rfl, .goto t, hIx _ _ _ _ hi3 hc4, hl4, hd4⟩⟩
     | panic ch => exact hp.elim
     | outgrown => exact hp.elim
   · -- behind the loop
     have fin : ∀ (W2 : World) (st : LoopState) (pe : Option Code), st ≠ .busy → W2.heap[D + 1]? = some (.loop (rec st pe)) → W2.heap[D]? = some (.deferred (some [])) →
      ∃ W4, (Instr.endLoop (D + 1)).run P W2 = .ok pe W4 ∧ Chg [D, D + 1] W2 W4 ∧ W4.heap[D]? = some (.deferred (some [])) := fun W2 st pe hst hl hk => by
      have hrun := run_endLoop (P := P) hl (by rw [hrec]; exact hst)
      rw [hrec] at hrun
      exact ⟨_, hrun, (chg_putObjIt W2 (D + 1) _).weaken (fun k hk => .inl (by simp only [List.mem_singleton] at hk; subst hk; simp)), (World.putObj_heap_other (by omega)).trans hk⟩
     rintro e W2 ⟨⟨v, rfl⟩, (⟨hi, hl, hk⟩ | ⟨pre, hpre, c, hi, hl, hk⟩)⟩
     · obtain ⟨W4, hr, hc, hd⟩ := fin W2 _ _ (by simp) hl hk
       exact ⟨none, _, hr, hdone W4 (hI _ _ _ hi hc) hd⟩
     · obtain ⟨W4, hr, hc, hd⟩ := fin W2 _ _ (by simp) hl hk
       exact ⟨some c, _, hr, hstop c pre W4 hpre (hIx _ _ _ _ hi hc) hd⟩
def SizedY (D : Nat) (W W' : World) : Prop := W.heap.size ≤ W'.heap.size ∧ ∀ k, D ≤ k → k < W.heap.size → W'.heap[k]? = W.heap[k]?
def RoundsY {β : Type} (P : Program) (Arg : Nat → List β → β → Array Value → World → Prop) (n l B : Nat) (xs : List β) (J : List β → World → Prop) (Jx : Nat → List β → World → Prop) : Prop :=
 ∀ E pre x args W1, B ≤ E → J pre W1 → pre ++ [x] <+: xs → Arg E pre x args W1 →
  YieldAt Fence.wide n P l args W1 fun e W' => SizedY B W1 W' ∧ ((e = .returned (.bool true) ∧ J (pre ++ [x]) W') ∨ (e = .returned (.bool false) ∧ Jx E (pre ++ [x]) W'))
def IterY {β : Type} (P : Program) (f : FuncId) (caps : Array Value) (Arg : Nat → List β → β → Array Value → World → Prop) (d : Nat) (xs : List β) (Keep : World → Prop) (w : World) : Prop :=
 ∀ (n : Nat), d ≤ n → ∀ (l : Nat) (J : List β → World → Prop) (Jx : Nat → List β → World → Prop), (∀ pre W W', J pre W → Below W.heap.size W W' → J pre W') → (∀ pre D, w.heap.size ≤ D → SteadyIt D (J pre)) → (∀ E pre D, w.heap.size ≤ D → D + 2 ≤ E → SteadyIt D (Jx E pre)) → (∀ pre W, J pre W → Keep W) → J [] w → RoundsY P Arg (n - d) l w.heap.size xs J Jx →
  CallsIn Fence.wide n P f (#[Value.func (.yield l) #[] #[]] ++ caps) w fun e W' => (∃ v, e = .returned v) ∧ (J xs W' ∨ ∃ E pre, w.heap.size ≤ E ∧ pre <+: xs ∧ Jx E pre W')
def iyPost {β : Type} (D : Nat) (I : List β → World → Prop) (Ix : Code → List β → World → Prop) (xs : List β) (W : World) : Exit → Act → World → Prop
 | .normal, _, W' => SizedY D W W' ∧ I xs W'
 | .ret, _, W' => SizedY D W W' ∧ Ix .ret xs W'
 | .exit id, _, W' => SizedY D W W' ∧ Ix (.exit id) xs W'
 | .goto t, _, W' => SizedY D W W' ∧ Ix (.goto t) xs W'
 | .panic _, _, _ => False
 | .outgrown, _, _ => False
theorem range_z {P : Program} {β : Type} (n d : Nat) (hn : d + 1 ≤ n) {g : Operand} {ps : Array Tmp} {assign body : Code} {Q : Exit → Act → World → Prop} {a : Act} {w : World} (f : FuncId) (caps : Array Value) (Arg : Nat → List β → β → Array Value → World → Prop)
 (hg : a.eval g = .func (.func f) #[] caps) (henter : ∀ (args : Array Value) (w : World), (callFunc f args).run P w = .ok (.enter f args) w) (hps : ∀ E pre x args W, Arg E pre x args W → ps.size = args.size) (xs : List β) (Keep : World → Prop) (hiter : ∀ W1, Below w.heap.size w W1 → w.heap.size + 2 ≤ W1.heap.size → IterY P f caps Arg d xs Keep W1)
 (I : List β → World → Prop) (Ix : Nat → Code → List β → World → Prop)
 (Asg : Array Value → World → Act → World → Prop) (hAsg : ∀ args W a1 W', Asg args W a1 W' → Below W.heap.size W W')
 (hA : ∀ E pre x args, w.heap.size + 2 ≤ E → SteadyIt w.heap.size (Arg E pre x args)) (hAb : ∀ E pre x args W W', Arg E pre x args W → Below W.heap.size W W' → Arg E pre x args W') (hI : ∀ xs D, w.heap.size ≤ D → SteadyIt D (I xs)) (hIb : ∀ xs W W', I xs W → Below W.heap.size W W' → I xs W') (hIx : ∀ E c xs D, w.heap.size ≤ D → D + 2 ≤ E → SteadyIt D (Ix E c xs)) (hkeep : ∀ xs W, I xs W → Keep W)
 (h0 : ∀ W, Below w.heap.size w W → I [] W)
 (hassign : ∀ (E : Nat) (pre : List β) (x : β) (args : Array Value) (W : World) (K : Act → World → Prop), w.heap.size + 1 < W.heap.size → Arg E pre x args W → (∀ a1 W', Asg args W a1 W' → K a1 W') →
  assign.wpIn (Fence.wide.inRound (w.heap.size + 1)) (n - 1 - d) P (Exit.then K (fun _ _ _ => False)) { tmps := (ps.zip args).foldl (fun t (p, v) => t.setIfInBounds p v) a.tmps, defers := [] } W)
 (hbody : ∀ (E : Nat) (pre : List β) (x : β) (args : Array Value) (W0 W' : World) (a1 : Act) (W : World), w.heap.size + 2 ≤ E → w.heap.size + 1 < W0.heap.size → Asg args W0 a1 W' → Chg [w.heap.size + 1] W' W → I pre W → pre ++ [x] <+: xs → Arg E pre x args W →
  body.wpIn (Fence.wide.inRound (w.heap.size + 1)) (n - 1 - d) P (iyPost w.heap.size I (Ix E) (pre ++ [x]) W) a1 W)
 (hdone : ∀ (W : World), I xs W → W.heap[w.heap.size]? = some (.deferred (some [])) → Q .normal { a with defers := { target := .collected w.heap.size, args := #[] } :: a.defers } W)
 (hstop : ∀ (E : Nat) (c : Code) (pre : List β) (W : World), w.heap.size + 2 ≤ E → pre <+: xs → Ix E c pre W → W.heap[w.heap.size]? = some (.deferred (some [])) → c.wpIn Fence.wide n P Q { a with defers := { target := .collected w.heap.size, args := #[] } :: a.defers } W) :
 (Code.rangeFunc g ps assign body).wpIn Fence.wide n P Q a w := by
 refine wpIn_rangeFunc ?_
 intro fn hfn
 rw [show Fence.wide.round = none from rfl]
 obtain ⟨D, hD⟩ : ∃ D, w.heap.size = D := ⟨_, rfl⟩
 obtain ⟨rec, hrec⟩ : ∃ rec : LoopState → Option Code → Loop, rec = fun st pe => { state := st, pending := pe, fn, tmps := a.tmps, params := ps, assign, body, defers := D } := ⟨_, rfl⟩
 obtain ⟨W1, hW1⟩ : ∃ W1, (w.alloc (.deferred (some []))).alloc (.loop (rec .ready none)) = W1 := ⟨_, rfl⟩
 have hs1 : W1.heap.size = D + 2 := by rw [← hW1]; simp [hD]
 have hL1 : W1.heap[D + 1]? = some (.loop (rec .ready none)) := by
  have := World.alloc_heap_new (w.alloc (.deferred (some []))) (.loop (rec .ready none))
  rw [World.size_alloc, hD, hW1] at this
  exact this
 have hK1 : W1.heap[D]? = some (.deferred (some [])) := by
  have := World.alloc_heap_new w (.deferred (some []))
  rw [hD] at this
  rw [← hW1]
  exact (Below.heap_alloc _ _ _ (by simp [hD])).trans this
 have hb1 : Below w.heap.size w W1 := by
  rw [← hW1]
  exact ((Below.refl _ w).alloc (Nat.le_refl _) _).alloc (by simp) _
 rw [hD] at hA hI hIx h0 hassign hbody hdone hstop
 refine ⟨D + 1, [{ target := .collected D, args := #[] }], W1, { target := .fn (.func f) caps, args := #[.func (.yield (D + 1)) #[] #[]] }, W1, f,
  #[Value.func (.yield (D + 1)) #[] #[]] ++ caps, W1, ?_, ?_, ?_, ?_, fun _ => by omega, ?_⟩
 · rw [← hW1, hrec, ← hD]
   exact run_enterLoop_outer _ _ _ _ _
 · simp only [resolve, hg]
   simp [go_sem]
 · intro f' hf'
   exact trivial
 · simp [invoke, go_sem, henter]
 · refine (hiter W1 hb1 (by omega) (n - 1) (by omega) (D + 1)
    (fun pre W => I pre W ∧ W.heap[D + 1]? = some (.loop (rec .ready none)) ∧ W.heap[D]? = some (.deferred (some [])))
    (fun E pre W => ∃ c, Ix E c pre W ∧ W.heap[D + 1]? = some (.loop (rec .done (some c))) ∧ W.heap[D]? = some (.deferred (some []))) ?_ ?_ ?_ ?_ ?_ ?_).mono ?_
   · rintro pre W W' ⟨hi, hl, hk⟩ hb
     exact ⟨hIb pre W W' hi hb, (hb.block _ (Array.getElem?_eq_some_iff.1 hl).1).trans hl, (hb.block _ (Array.getElem?_eq_some_iff.1 hk).1).trans hk⟩
   · rintro pre E hE W W' ⟨hi, hl, hk⟩ hc
     have nE : ∀ k, k ≤ D + 1 → k ∉ [E, E + 1] := fun k hk hm => by simp only [List.mem_cons, List.not_mem_nil, or_false] at hm; omega
     exact ⟨hI pre E (by omega) W W' hi hc, (hc.same _ (Array.getElem?_eq_some_iff.1 hl).1 (nE _ (by omega))).trans hl, (hc.same _ (Array.getElem?_eq_some_iff.1 hk).1 (nE _ (by omega))).trans hk⟩
   · rintro E0 pre E hE hE0 W W' ⟨c, hi, hl, hk⟩ hc
     have nE : ∀ k, k ≤ D + 1 → k ∉ [E, E + 1] := fun k hk hm => by simp only [List.mem_cons, List.not_mem_nil, or_false] at hm; omega
     exact ⟨c, hIx E0 c pre E (by omega) hE0 W W' hi hc, (hc.same _ (Array.getElem?_eq_some_iff.1 hl).1 (nE _ (by omega))).trans hl, (hc.same _ (Array.getElem?_eq_some_iff.1 hk).1 (nE _ (by omega))).trans hk⟩
   · rintro pre W ⟨hi, _, _⟩
     exact hkeep pre W hi
   · exact ⟨h0 W1 (by rw [← hD]; exact hb1), hL1, hK1⟩
   · -- one round
     intro E pre x args W hE hJ hpre harg
     obtain ⟨hi, hl, hk⟩ := hJ
     have hlt : D + 1 < W.heap.size := (Array.getElem?_eq_some_iff.1 hl).1
     have hy := run_yield (P := P) (args := args) hl (by rw [hrec]; simp [hps E pre x args W harg])
     rw [hrec] at hy
     refine ⟨fn, _, assign, body, hy, roundIn_of_wpIn hfn (hassign E pre x args W _ hlt harg (fun a1 Wa has => ?_))⟩
     have hba := hAsg _ _ _ _ has
     have hla := (hba.block _ hlt).trans hl
     have hka := (hba.block _ (by omega)).trans hk
     have hlta : D + 1 < Wa.heap.size := (Array.getElem?_eq_some_iff.1 hla).1
     obtain ⟨Wb, hWb⟩ : ∃ Wb, Wa.putObj (D + 1) (.loop { rec .ready none with state := .busy }) = Wb := ⟨_, rfl⟩
     have hcb : Chg [D, D + 1] Wa Wb := by
      rw [← hWb]
      exact (chg_putObjIt Wa (D + 1) _).weaken (fun k hk => .inl (by simp only [List.mem_singleton] at hk; subst hk; simp))
     have hcq : Chg [D + 1] Wa Wb := by rw [← hWb]; exact chg_putObjIt Wa (D + 1) _
     have hzb : Wb.heap.size = Wa.heap.size := by rw [← hWb]; simp [World.putObj]
     have hza := hba.size
     have hargb : Arg E pre x args Wb := hA E pre x args (by omega) Wa Wb (hAb _ _ _ _ _ _ harg hba) hcb
     refine ⟨_, run_beginRound hla (by rw [hrec]), ?_⟩
     have hl2 : Wb.heap[D + 1]? = some (.loop { rec .ready none with state := .busy }) := by rw [← hWb]; exact World.putObj_heap_same hlta
     have hk2 : Wb.heap[D]? = some (.deferred (some [])) := by rw [← hWb]; exact (World.putObj_heap_other (by omega)).trans hka
     rw [hWb]
     refine wpIn_mono (hbody E pre x args W Wa a1 Wb (by omega) hlt has hcq (hI pre D (Nat.le_refl _) Wa Wb (hIb _ _ _ hi hba) hcb) hpre hargb) ?_
     have fin : ∀ (jump : Option Code) (W3 : World), SizedY D Wb W3 → ∃ W4,
      (Instr.endRound (D + 1) jump).run P W3 = .ok (.bool jump.isNone) W4 ∧ Chg [D, D + 1] W3 W4 ∧ W4.heap[D + 1]? = some (.loop (rec (if jump.isNone then .ready else .done) jump)) ∧ W4.heap[D]? = some (.deferred (some [])) ∧ SizedY W1.heap.size W W4 := fun jump W3 hk3 => by
      obtain ⟨h1, h2⟩ := hk3
      have hl3 := (h2 (D + 1) (by omega) (by omega)).trans hl2
      have hrun := run_endRound (P := P) jump hl3
      have hlt3 : D + 1 < W3.heap.size := (Array.getElem?_eq_some_iff.1 hl3).1
      refine ⟨_, hrun, (chg_putObjIt W3 (D + 1) _).weaken (fun k hk => .inl (by simp only [List.mem_singleton] at hk; subst hk; simp)), ?_, (World.putObj_heap_other (by omega)).trans ((h2 D (Nat.le_refl _) (by omega)).trans hk2), ?_, fun k hk1 hk2 => ?_⟩
      · rw [World.putObj_heap_same hlt3, hrec]
      · exact Nat.le_trans (Nat.le_trans hza (by rw [← hzb]; exact h1)) (chg_putObjIt W3 (D + 1) _).size
      · refine (World.putObj_heap_other (by omega)).trans ((h2 k (by omega) (by omega)).trans ?_)
        exact (hcq.same k (by omega) (fun hm => by rw [List.mem_singleton] at hm; omega)).trans (hba.block k hk2)
     rintro e a3 W3 hp
     cases e with
     | normal =>
      obtain ⟨hk3, hi3⟩ := hp
      obtain ⟨W4, hr, hc4, hl4, hd4, hz4⟩ := fin none W3 hk3
      exact ⟨_, _, hr, hz4, .inl ⟨rfl, ⟨hI _ D (Nat.le_refl _) _ _ hi3 hc4, hl4, hd4⟩⟩⟩
     | ret =>
      obtain ⟨hk3, hi3⟩ := hp
      obtain ⟨W4, hr, hc4, hl4, hd4, hz4⟩ := fin (some .ret) W3 hk3
      exact ⟨_, _, hr, hz4, .inr ⟨rfl, .ret, hIx _ _ _ D (Nat.le_refl _) (by omega) _ _ hi3 hc4, hl4, hd4⟩⟩
     | exit id =>
      obtain ⟨hk3, hi3⟩ := hp
      obtain ⟨W4, hr, hc4, hl4, hd4, hz4⟩ := fin (some (.exit id)) W3 hk3
      exact ⟨_, _, hr, hz4, .inr ⟨rfl, .exit id, hIx _ _ _ D (Nat.le_refl _) (by omega) _ _ hi3 hc4, hl4, hd4⟩⟩
     | goto t =>
      obtain ⟨hk3, hi3⟩ := hp
      obtain ⟨W4, hr, hc4, hl4, hd4, hz4⟩ := fin (some (.goto t)) W3 hk3
      exact ⟨_, _, hr, hz4, .inr ⟨rfl, .goto t, hIx _ _ _ D (Nat.le_refl _) (by omega) _ _ hi3 hc4, hl4, hd4⟩⟩
     | panic ch => exact hp.elim
     | outgrown => exact hp.elim
   · -- behind the loop
     have fin : ∀ (W2 : World) (st : LoopState) (pe : Option Code), st ≠ .busy → W2.heap[D + 1]? = some (.loop (rec st pe)) → W2.heap[D]? = some (.deferred (some [])) →
      ∃ W4, (Instr.endLoop (D + 1)).run P W2 = .ok pe W4 ∧ Chg [D, D + 1] W2 W4 ∧ W4.heap[D]? = some (.deferred (some [])) := fun W2 st pe hst hl hk => by
      have hrun := run_endLoop (P := P) hl (by rw [hrec]; exact hst)
      rw [hrec] at hrun
      exact ⟨_, hrun, (chg_putObjIt W2 (D + 1) _).weaken (fun k hk => .inl (by simp only [List.mem_singleton] at hk; subst hk; simp)), (World.putObj_heap_other (by omega)).trans hk⟩
     rintro e W2 ⟨⟨v, rfl⟩, (⟨hi, hl, hk⟩ | ⟨E, pre, hE, hpre, c, hi, hl, hk⟩)⟩
     · obtain ⟨W4, hr, hc, hd⟩ := fin W2 _ _ (by simp) hl hk
       exact ⟨none, _, hr, hdone W4 (hI _ D (Nat.le_refl _) _ _ hi hc) hd⟩
     · obtain ⟨W4, hr, hc, hd⟩ := fin W2 _ _ (by simp) hl hk
       exact ⟨some c, _, hr, hstop E c pre W4 (by omega) hpre (hIx _ _ _ D (Nat.le_refl _) (by omega) _ _ hi hc) hd⟩
def RoundsX {β : Type} (P : Program) (ar : β → Array Value) (n l : Nat) (B : Nat) (J Jx : Nat → List β → List β → World → Prop) : Prop :=
 ∀ C ys pre x W1, B ≤ C → C < W1.heap.size → J C ys pre W1 → pre ++ [x] <+: ys →
  YieldAt Fence.wide n P l (ar x) W1 fun e W' =>
   (e = .returned (.bool true) ∧ J C ys (pre ++ [x]) W' ∧ W'.heap[C]? = W1.heap[C]? ∧ W1.heap.size ≤ W'.heap.size) ∨ (e = .returned (.bool false) ∧ Jx C ys (pre ++ [x]) W')
def IterX {β : Type} (P : Program) (f : FuncId) (caps : Array Value) (ar : β → Array Value) (d : Nat) (X : Nat → Nat → List β → World → Prop) (w : World) : Prop :=
 ∀ (n : Nat), d ≤ n → ∀ (l : Nat) (J Jx : Nat → List β → List β → World → Prop), (∀ C ys pre W W', J C ys pre W → Below W.heap.size W W' → J C ys pre W') →
  (∀ C ys W1, w.heap.size ≤ C → Below w.heap.size w W1 → X w.heap.size C ys W1 → J C ys [] W1) → RoundsX P ar (n - d) l w.heap.size J Jx →
  CallsIn Fence.wide n P f (#[Value.func (.yield l) #[] #[]] ++ caps) w fun e W' => (∃ v, e = .returned v) ∧ ∃ C ys, w.heap.size ≤ C ∧ (J C ys ys W' ∨ ∃ pre, pre <+: ys ∧ Jx C ys pre W')
theorem range_itX {P : Program} {β : Type} (n d : Nat) (hn : d + 1 ≤ n) {g : Operand} {ps : Array Tmp} {assign body : Code} {Q : Exit → Act → World → Prop} {a : Act} {w : World} (f : FuncId) (caps : Array Value) (ar : β → Array Value)
 (hg : a.eval g = .func (.func f) #[] caps) (henter : ∀ (args : Array Value) (w : World), (callFunc f args).run P w = .ok (.enter f args) w) (hps : ∀ x, ps.size = (ar x).size) (X : Nat → Nat → List β → World → Prop) (hiter : ∀ W1, Below w.heap.size w W1 → IterX P f caps ar d X W1)
 (I : Nat → List β → List β → World → Prop) (Ix : Nat → List β → Code → List β → World → Prop)
 (hI : ∀ C ys xs, SteadyIt w.heap.size (I C ys xs)) (hIx : ∀ C ys c xs, SteadyIt w.heap.size (Ix C ys c xs))
 (h0 : ∀ B C ys W, w.heap.size + 2 ≤ B → w.heap.size + 2 ≤ C → w.heap.size + 2 ≤ W.heap.size → Below w.heap.size w W → X B C ys W → I C ys [] W)
 (hab : ∃ a₁ : β → Act, (∀ (x : β) (W : World) (K : Act → World → Prop), K (a₁ x) W →
  assign.wpIn (Fence.wide.inRound (w.heap.size + 1)) (n - 1 - d) P (Exit.then K (fun _ _ _ => False)) { tmps := (ps.zip (ar x)).foldl (fun t (p, v) => t.setIfInBounds p v) a.tmps, defers := [] } W) ∧
  ∀ (C : Nat) (ys pre : List β) (x : β) (W : World), w.heap.size + 2 ≤ C → C < W.heap.size → w.heap.size + 1 < W.heap.size → I C ys pre W → pre ++ [x] <+: ys →
  body.wpIn (Fence.wide.inRound (w.heap.size + 1)) (n - 1 - d) P (itPost w.heap.size C (I C ys) (Ix C ys) (pre ++ [x]) W) (a₁ x) W)
 (hdone : ∀ (C : Nat) (ys : List β) (W : World), I C ys ys W → W.heap[w.heap.size]? = some (.deferred (some [])) → Q .normal { a with defers := { target := .collected w.heap.size, args := #[] } :: a.defers } W)
 (hstop : ∀ (C : Nat) (ys : List β) (c : Code) (pre : List β) (W : World), pre <+: ys → Ix C ys c pre W → W.heap[w.heap.size]? = some (.deferred (some [])) → c.wpIn Fence.wide n P Q { a with defers := { target := .collected w.heap.size, args := #[] } :: a.defers } W) :
 (Code.rangeFunc g ps assign body).wpIn Fence.wide n P Q a w := by
 obtain ⟨a₁, hassign, hbody⟩ := hab
 refine wpIn_rangeFunc ?_
 intro fn hfn
 rw [show Fence.wide.round = none from rfl]
 obtain ⟨D, hD⟩ : ∃ D, w.heap.size = D := ⟨_, rfl⟩
 obtain ⟨rec, hrec⟩ : ∃ rec : LoopState → Option Code → Loop, rec = fun st pe => { state := st, pending := pe, fn, tmps := a.tmps, params := ps, assign, body, defers := D } := ⟨_, rfl⟩
 obtain ⟨W1, hW1⟩ : ∃ W1, (w.alloc (.deferred (some []))).alloc (.loop (rec .ready none)) = W1 := ⟨_, rfl⟩
 have hs1 : W1.heap.size = D + 2 := by rw [← hW1]; simp [hD]
 have hL1 : W1.heap[D + 1]? = some (.loop (rec .ready none)) := by
  have := World.alloc_heap_new (w.alloc (.deferred (some []))) (.loop (rec .ready none))
  rw [World.size_alloc, hD, hW1] at this
  exact this
 have hK1 : W1.heap[D]? = some (.deferred (some [])) := by
  have := World.alloc_heap_new w (.deferred (some []))
  rw [hD] at this
  rw [← hW1]
  exact (Below.heap_alloc _ _ _ (by simp [hD])).trans this
 have hb1 : Below w.heap.size w W1 := by
  rw [← hW1]
  exact ((Below.refl _ w).alloc (Nat.le_refl _) _).alloc (by simp) _
 rw [hD] at hI hIx h0 hassign hbody hdone hstop
 refine ⟨D + 1, [{ target := .collected D, args := #[] }], W1, { target := .fn (.func f) caps, args := #[.func (.yield (D + 1)) #[] #[]] }, W1, f,
  #[Value.func (.yield (D + 1)) #[] #[]] ++ caps, W1, ?_, ?_, ?_, ?_, fun _ => by omega, ?_⟩
 · rw [← hW1, hrec, ← hD]
   exact run_enterLoop_outer _ _ _ _ _
 · simp only [resolve, hg]
   simp [go_sem]
 · intro f' hf'
   exact trivial
 · simp [invoke, go_sem, henter]
 · refine (hiter W1 hb1 (n - 1) (by omega) (D + 1)
    (fun C ys pre W => I C ys pre W ∧ W.heap[D + 1]? = some (.loop (rec .ready none)) ∧ W.heap[D]? = some (.deferred (some [])))
    (fun C ys pre W => ∃ c, Ix C ys c pre W ∧ W.heap[D + 1]? = some (.loop (rec .done (some c))) ∧ W.heap[D]? = some (.deferred (some []))) ?_ ?_ ?_).mono ?_
   · rintro C ys pre W W' ⟨hi, hl, hk⟩ hb
     exact ⟨hI C ys pre W W' hi (Chg.of_below hb), (hb.block _ (Array.getElem?_eq_some_iff.1 hl).1).trans hl, (hb.block _ (Array.getElem?_eq_some_iff.1 hk).1).trans hk⟩
   · intro C ys W2 hC hb2 hX
     rw [hs1] at hC
     refine ⟨h0 _ C ys W2 (by rw [hs1]; exact Nat.le_refl _) hC (by have := hb2.size; omega) (by rw [← hD]; exact hb1.trans (hb2.mono hb1.size)) hX, (hb2.block (D + 1) (by omega)).trans hL1, (hb2.block D (by omega)).trans hK1⟩
   · -- one round
     intro C ys pre x W hBC hCW hJ hpre
     obtain ⟨hi, hl, hk⟩ := hJ
     rw [hs1] at hBC
     have hlt : D + 1 < W.heap.size := (Array.getElem?_eq_some_iff.1 hl).1
     have hy := run_yield (P := P) (args := ar x) hl (by rw [hrec]; simp [hps x])
     rw [hrec] at hy
     refine ⟨fn, _, assign, body, hy, roundIn_of_wpIn hfn (hassign x W _ ⟨_, run_beginRound hl (by rw [hrec]), ?_⟩)⟩
     obtain ⟨Wb, hWb⟩ : ∃ Wb, W.putObj (D + 1) (.loop { rec .ready none with state := .busy }) = Wb := ⟨_, rfl⟩
     have hcb : Chg [D, D + 1] W Wb := by
      rw [← hWb]
      exact (chg_putObjIt W (D + 1) _).weaken (fun k hk => .inl (by simp only [List.mem_singleton] at hk; subst hk; simp))
     have hl2 : Wb.heap[D + 1]? = some (.loop { rec .ready none with state := .busy }) := by rw [← hWb]; exact World.putObj_heap_same hlt
     have hk2 : Wb.heap[D]? = some (.deferred (some [])) := by rw [← hWb]; exact (World.putObj_heap_other (by omega)).trans hk
     have hC2 : Wb.heap[C]? = W.heap[C]? := by rw [← hWb]; exact World.putObj_heap_other (by omega)
     rw [hWb]
     refine wpIn_mono (hbody C ys pre x Wb hBC (Nat.lt_of_lt_of_le hCW hcb.size) (Nat.lt_of_lt_of_le hlt hcb.size) (hI C ys pre W Wb hi hcb) hpre) ?_
     have fin : ∀ (jump : Option Code) (W3 : World), KeepsIt D C Wb W3 → ∃ W4,
      (Instr.endRound (D + 1) jump).run P W3 = .ok (.bool jump.isNone) W4 ∧ Chg [D, D + 1] W3 W4 ∧ W4.heap[D + 1]? = some (.loop (rec (if jump.isNone then .ready else .done) jump)) ∧ W4.heap[D]? = some (.deferred (some [])) ∧
      W4.heap[C]? = W.heap[C]? ∧ W.heap.size ≤ W4.heap.size := fun jump W3 hk3 => by
      obtain ⟨h1, h2, h3, h4⟩ := hk3
      have hl3 := h3.trans hl2
      have hrun := run_endRound (P := P) jump hl3
      have hlt3 : D + 1 < W3.heap.size := (Array.getElem?_eq_some_iff.1 hl3).1
      refine ⟨_, hrun, (chg_putObjIt W3 (D + 1) _).weaken (fun k hk => .inl (by simp only [List.mem_singleton] at hk; subst hk; simp)), ?_, (World.putObj_heap_other (by omega)).trans (h2.trans hk2), (World.putObj_heap_other (by omega)).trans (h4.trans hC2), ?_⟩
      · rw [World.putObj_heap_same hlt3, hrec]
      · have := hcb.size
        simp
        omega
     rintro e a3 W3 hp
     cases e with
     | normal =>
      obtain ⟨hk3, hi3⟩ := hp
      obtain ⟨W4, hr, hc4, hl4, hd4, hC4, hs4⟩ := fin none W3 hk3
      exact ⟨_, _, hr, .inl ⟨rfl, ⟨hI _ _ _ _ _ hi3 hc4, hl4, hd4⟩, hC4, hs4⟩⟩
     | ret =>
      obtain ⟨hk3, hi3⟩ := hp
      obtain ⟨W4, hr, hc4, hl4, hd4, hC4, hs4⟩ := fin (some .ret) W3 hk3
      exact ⟨_, _, hr, .inr ⟨rfl, .ret, hIx _ _ _ _ _ _ hi3 hc4, hl4, hd4⟩⟩
     | exit id =>
      obtain ⟨hk3, hi3⟩ := hp
      obtain ⟨W4, hr, hc4, hl4, hd4, hC4, hs4⟩ := fin (some (.exit id)) W3 hk3
      exact ⟨_, _, hr, .inr ⟨rfl, .exit id, hIx _ _ _ _ _ _ hi3 hc4, hl4, hd4⟩⟩
     | goto t =>
      obtain ⟨hk3, hi3⟩ := hp
      obtain ⟨W4, hr, hc4, hl4, hd4, hC4, hs4⟩ := fin (some (.goto t)) W3 hk3
      exact ⟨_, _, hr, .inr ⟨rfl, .goto t, hIx _ _ _ _ _ _ hi3 hc4, hl4, hd4⟩⟩
     | panic ch => exact hp.elim
     | outgrown => exact hp.elim
   · -- behind the loop
     have fin : ∀ (W2 : World) (st : LoopState) (pe : Option Code), st ≠ .busy → W2.heap[D + 1]? = some (.loop (rec st pe)) → W2.heap[D]? = some (.deferred (some [])) →
      ∃ W4, (Instr.endLoop (D + 1)).run P W2 = .ok pe W4 ∧ Chg [D, D + 1] W2 W4 ∧ W4.heap[D]? = some (.deferred (some [])) := fun W2 st pe hst hl hk => by
      have hrun := run_endLoop (P := P) hl (by rw [hrec]; exact hst)
      rw [hrec] at hrun
      exact ⟨_, hrun, (chg_putObjIt W2 (D + 1) _).weaken (fun k hk => .inl (by simp only [List.mem_singleton] at hk; subst hk; simp)), (World.putObj_heap_other (by omega)).trans hk⟩
     rintro e W2 ⟨⟨v, rfl⟩, C, ys, hC, (⟨hi, hl, hk⟩ | ⟨pre, hpre, c, hi, hl, hk⟩)⟩
     · obtain ⟨W4, hr, hc, hd⟩ := fin W2 _ _ (by simp) hl hk
       exact ⟨none, _, hr, hdone C ys W4 (hI _ _ _ _ _ hi hc) hd⟩
     · obtain ⟨W4, hr, hc, hd⟩ := fin W2 _ _ (by simp) hl hk
       exact ⟨some c, _, hr, hstop C ys c pre W4 hpre (hIx _ _ _ _ _ _ hi hc) hd⟩
end Go.Proofs.YtdjnebgjdekmaaaGreatDoor
