/-
  What blocks do, a call within the other: the same as step by step.
  What blocks do, a call within the other: the same as step by step: runs.
  The document's machine in memory; a step more.
  The document's machine: which word an instruction means.
  The document's machine: instructions that set a register, load or store.
-/
import Derived.Test.YtcanjkjpdnbcnaaZaz
import Derived.OwnWalk
namespace Go.Proofs.Ytcanjkjpdnbcnaa
open Go.RowKit
set_option linter.unusedVariables false
set_option linter.unusedSimpArgs false
set_option maxRecDepth 100000

/-- What a call comes to: a value, or the run's end. -/
inductive RO where
  | ok (v : Int) (s : PS)
  | stop (k : Int) (s : PS)
/-- The instruction that is next, if it begins a call. -/
def nextCall (s : PS) : Option (PC × MIn) :=
  match s.calls with
  | [] => none
  | c :: _ => match c.f.blocks[c.block.toNat]? with
    | none => none
    | some b => match b.ins[c.done]? with
      | none => none
      | some x => if x.kind = 7 then some (c, x) else none
/-- Behind a call: the value is put where it is to be. -/
def backP (c : PC) (x : MIn) (v : Int) (s : PS) : PS := { s with calls := [if 0 ≤ x.d then { c with done := c.done + 1 }.set x.d v else { c with done := c.done + 1 }] }
/-- A frame of the document's machine, so many rounds at most. -/
def frameR (F : ByteArray → Option MFn) (inp : List Int) (fuel : Nat) (callF : PS → ByteArray → List Int → RO) : Nat → PS → RO
  | 0, s => .stop 5 s
  | g + 1, s =>
    if fuel ≤ s.steps then .stop 5 s else
    match nextCall s with
    | some (c, x) =>
      match callF { s with steps := s.steps + 1 } x.name (x.argL.map c.get) with
      | .ok v s' => frameR F inp fuel callF g (backP c x v s')
      | .stop k s' => .stop k s'
    | none =>
      match stepP F inp s with
      | .go s' => frameR F inp fuel callF g s'
      | .fin k v s' => if k = 1 then .ok v s' else .stop k s'
def freshC (f : MFn) (args : List Int) : PC := ⟨f, args ++ List.replicate (f.regs.toNat - args.length) 0, 0, 0, -1⟩
/-- A call of the document's machine, so many calls within one another being left. -/
def callR (F : ByteArray → Option MFn) (inp : List Int) (fuel : Nat) : Nat → PS → ByteArray → List Int → RO
  | 0, s, _, _ => .stop 4 s
  | d + 1, s, x, args =>
    match F x with
    | none => .stop 0 s
    | some f => frameR F inp fuel (callR F inp fuel d) (fuel + 1) { s with calls := [freshC f args] }
/-- The frame, within others. -/
def liftP (dd : Int) (cs : List PC) (s : PS) : PS := match s.calls with | c :: _ => { s with calls := { c with d := dd } :: cs } | [] => s
section
variable {F : ByteArray → Option MFn} {G : ByteArray → Prop} {inp : List Int} {fuel : Nat}
theorem runP_succ (n : Nat) (s : PS) : runP F inp (n + 1) s = match stepP F inp s with | .go s' => runP F inp n s' | .fin k v s' => .fin k v s' := rfl
/-- What a frame hands back, within others. -/
def leaveO (dd : Int) (cs : List PC) (v : Int) (s : PS) : PO := leaveP s ⟨default, [], 0, 0, dd⟩ cs v
theorem leaveP_same (s s' : PS) (c c' : PC) (cs : List PC) (v : Int) (hd : c'.d = c.d) (hw : s'.words = s.words) (ht : s'.tr = s.tr) (hs : s'.steps = s.steps) (hr : s'.reads = s.reads) : leaveP s' c' cs v = leaveP s c cs v := by
  cases s; cases s'
  simp only at hw ht hs hr
  subst hw ht hs hr
  unfold leaveP
  cases cs with
  | nil => rfl
  | cons c2 cs2 => dsimp only; rw [hd]; rfl
theorem insP_1 (s : PS) (c : PC) (cs : List PC) {x : MIn} (h : x.kind = 1) : insP F inp s c cs x = .go (s.top (c.set x.d x.num) cs) := by
  unfold insP
  rw [if_pos h]
theorem insP_2 (s : PS) (c : PC) (cs : List PC) {x : MIn} (h : x.kind = 2) : insP F inp s c cs x = .go (s.top (c.set x.d (c.get x.a)) cs) := by
  unfold insP
  rw [if_neg (by omega), if_pos h]
theorem insP_3 (s : PS) (c : PC) (cs : List PC) {x : MIn} (h : x.kind = 3) : insP F inp s c cs x = .go (s.top (c.set x.d (unV x.op (c.get x.a))) cs) := by
  unfold insP
  rw [if_neg (by omega), if_neg (by omega), if_pos h]
theorem insP_4 (s : PS) (c : PC) (cs : List PC) {x : MIn} (h : x.kind = 4) : insP F inp s c cs x = (if (WordBins.binV x.op (c.get x.a) (c.get x.b)).2 = true then .go (s.top (c.set x.d (WordBins.binV x.op (c.get x.a) (c.get x.b)).1) cs) else .fin 2 0 s) := by
  unfold insP
  rw [if_neg (by omega), if_neg (by omega), if_neg (by omega), if_pos h]
theorem insP_5 (s : PS) (c : PC) (cs : List PC) {x : MIn} (h : x.kind = 5) : insP F inp s c cs x = (if c.idx x < 0 ∨ ((s.words x.name).length : Int) ≤ c.idx x then .fin 3 0 s else .go (s.top (c.set x.d ((s.words x.name).getD (c.idx x).toNat 0)) cs)) := by
  unfold insP
  rw [if_neg (by omega), if_neg (by omega), if_neg (by omega), if_neg (by omega), if_pos h]
theorem insP_6 (s : PS) (c : PC) (cs : List PC) {x : MIn} (h : x.kind = 6) : insP F inp s c cs x = (if c.idx x < 0 ∨ ((s.words x.name).length : Int) ≤ c.idx x then .fin 3 0 s else .go { s with words := setWd s.words x.name ((s.words x.name).set (c.idx x).toNat (c.get x.b)) }) := by
  unfold insP
  rw [if_neg (by omega), if_neg (by omega), if_neg (by omega), if_neg (by omega), if_neg (by omega), if_pos h]
theorem insP_7 (s : PS) (c : PC) (cs : List PC) {x : MIn} (h : x.kind = 7) : insP F inp s c cs x = enterP F s x.name x.d (x.argL.map c.get) := by
  unfold insP
  rw [if_neg (by omega), if_neg (by omega), if_neg (by omega), if_neg (by omega), if_neg (by omega), if_neg (by omega), if_pos h]
theorem insP_8 (s : PS) (c : PC) (cs : List PC) {x : MIn} (h : x.kind = 8) : insP F inp s c cs x = (if s.reads < inp.length then .go { s.top (c.set x.d (inp.getD s.reads 0)) cs with reads := s.reads + 1 } else .go (s.top (c.set x.d 0) cs)) := by
  unfold insP
  rw [if_neg (by omega), if_neg (by omega), if_neg (by omega), if_neg (by omega), if_neg (by omega), if_neg (by omega), if_neg (by omega), if_pos h]
theorem insP_9 (s : PS) (c : PC) (cs : List PC) {x : MIn} (h : ∀ k : Int, 1 ≤ k → k ≤ 8 → x.kind ≠ k) : insP F inp s c cs x = .go { s with tr := s.tr ++ [c.get x.a] } := by
  unfold insP
  rw [if_neg (h 1 (by omega) (by omega)), if_neg (h 2 (by omega) (by omega)), if_neg (h 3 (by omega) (by omega)), if_neg (h 4 (by omega) (by omega)), if_neg (h 5 (by omega) (by omega)), if_neg (h 6 (by omega) (by omega)), if_neg (h 7 (by omega) (by omega)), if_neg (h 8 (by omega) (by omega))]
/-- A step that is no call: within others it is the same. -/
theorem step_lift {s : PS} {c : PC} (hc : s.calls = [c]) (hn : nextCall s = none) (dd : Int) (cs : List PC) :
    (∃ s' c', stepP F inp s = .go s' ∧ s'.calls = [c'] ∧ s'.steps = s.steps + 1 ∧ stepP F inp (liftP dd cs s) = .go (liftP dd cs s')) ∨
    (∃ v s', stepP F inp s = .fin 1 v s' ∧ s'.steps = s.steps + 1 ∧ stepP F inp (liftP dd cs s) = leaveO dd cs v s') ∨
    (∃ k s' s2, stepP F inp s = .fin k 0 s' ∧ k ≠ 1 ∧ stepP F inp (liftP dd cs s) = .fin k 0 s2 ∧ s2.tr = s'.tr ∧ s2.steps = s'.steps ∧ s2.reads = s'.reads) := by
  obtain ⟨W, calls, tr, steps, reads⟩ := s
  simp only at hc
  subst hc
  unfold nextCall at hn
  unfold liftP
  dsimp only at hn ⊢
  unfold stepP
  dsimp only
  cases hb : c.f.blocks[c.block.toNat]? with
  | none => exact .inr (.inr ⟨0, _, _, rfl, by decide, rfl, rfl, rfl, rfl⟩)
  | some b =>
    rw [hb] at hn
    dsimp only at hn ⊢
    cases hx : b.ins[c.done]? with
    | none =>
      dsimp only
      unfold endP
      split
      · exact .inl ⟨_, _, rfl, rfl, rfl, rfl⟩
      · split
        · have hg : ∀ r, ({ c with d := dd } : PC).get r = c.get r := fun _ => rfl
          rw [hg]
          split
          · exact .inl ⟨_, _, rfl, rfl, rfl, rfl⟩
          · exact .inl ⟨_, _, rfl, rfl, rfl, rfl⟩
        · refine .inr (.inl ⟨_, _, rfl, rfl, ?_⟩)
          exact leaveP_same _ _ _ _ _ _ rfl rfl rfl rfl rfl
    | some x =>
      rw [hx] at hn
      dsimp only at hn ⊢
      have h7 : ¬ x.kind = 7 := fun e => by rw [if_pos e] at hn; cases hn
      by_cases h1 : x.kind = 1
      · rw [insP_1 _ _ _ h1, insP_1 _ _ _ h1]; exact .inl ⟨_, _, rfl, rfl, rfl, rfl⟩
      by_cases h2 : x.kind = 2
      · rw [insP_2 _ _ _ h2, insP_2 _ _ _ h2]; exact .inl ⟨_, _, rfl, rfl, rfl, rfl⟩
      by_cases h3 : x.kind = 3
      · rw [insP_3 _ _ _ h3, insP_3 _ _ _ h3]; exact .inl ⟨_, _, rfl, rfl, rfl, rfl⟩
      by_cases h4 : x.kind = 4
      · rw [insP_4 _ _ _ h4, insP_4 _ _ _ h4]
        by_cases h : (WordBins.binV x.op (({ c with done := c.done + 1 } : PC).get x.a) (({ c with done := c.done + 1 } : PC).get x.b)).2 = true
        · rw [if_pos h]; exact .inl ⟨_, _, rfl, rfl, rfl, if_pos h⟩
        · rw [if_neg h]; exact .inr (.inr ⟨2, _, _, rfl, by decide, if_neg h, rfl, rfl, rfl⟩)
      by_cases h5 : x.kind = 5
      · rw [insP_5 _ _ _ h5, insP_5 _ _ _ h5]
        by_cases h : ({ c with done := c.done + 1 } : PC).idx x < 0 ∨ ((W x.name).length : Int) ≤ ({ c with done := c.done + 1 } : PC).idx x
        · exact .inr (.inr ⟨3, _, _, if_pos h, by decide, if_pos h, rfl, rfl, rfl⟩)
        · exact .inl ⟨_, _, if_neg h, rfl, rfl, if_neg h⟩
      by_cases h6 : x.kind = 6
      · rw [insP_6 _ _ _ h6, insP_6 _ _ _ h6]
        by_cases h : ({ c with done := c.done + 1 } : PC).idx x < 0 ∨ ((W x.name).length : Int) ≤ ({ c with done := c.done + 1 } : PC).idx x
        · exact .inr (.inr ⟨3, _, _, if_pos h, by decide, if_pos h, rfl, rfl, rfl⟩)
        · exact .inl ⟨_, _, if_neg h, rfl, rfl, if_neg h⟩
      by_cases h8 : x.kind = 8
      · rw [insP_8 _ _ _ h8, insP_8 _ _ _ h8]
        by_cases h : reads < inp.length
        · exact .inl ⟨_, _, if_pos h, rfl, rfl, if_pos h⟩
        · exact .inl ⟨_, _, if_neg h, rfl, rfl, if_neg h⟩
      have h9 : ∀ k : Int, 1 ≤ k → k ≤ 8 → x.kind ≠ k := fun k ha hb => by omega
      rw [insP_9 _ _ _ h9, insP_9 _ _ _ h9]
      exact .inl ⟨_, _, rfl, rfl, rfl, rfl⟩
end
end Go.Proofs.Ytcanjkjpdnbcnaa
namespace Go.Proofs.Ytcanjkjpdnbcnaa
open Go.RowKit
set_option linter.unusedVariables false
set_option linter.unusedSimpArgs false
set_option maxRecDepth 100000

section
variable {F : ByteArray → Option MFn} {inp : List Int} {fuel : Nat}
def thenP (F : ByteArray → Option MFn) (inp : List Int) (o : PO) (n : Nat) : PO := match o with | .go s => runP F inp n s | .fin k v s => .fin k v s
theorem thenP_more (o : PO) (n m : Nat) : thenP F inp o (n + m) = thenP F inp (thenP F inp o n) m := by
  cases o with
  | go s =>
    show runP F inp (n + m) s = thenP F inp (runP F inp n s) m
    rw [runP_more]
    cases runP F inp n s <;> rfl
  | fin k v s => rfl
theorem runP_then1 (n : Nat) (s : PS) : runP F inp (n + 1) s = thenP F inp (stepP F inp s) n := by
  rw [runP_succ]
  cases stepP F inp s <;> rfl
/-- A call's outcome is what step by step comes of it. -/
def CallSem (F : ByteArray → Option MFn) (inp : List Int) (fuel : Nat) (callF : PS → ByteArray → List Int → RO) (depth : Nat) : Prop :=
  ∀ (s : PS) (cs : List PC) (x : ByteArray) (args : List Int) (dd : Int), cs.length = depth → s.steps ≤ fuel →
    (∀ k s', callF s x args = .stop k s' → (thenP F inp (enterP F { s with calls := cs } x dd args) (fuel - s.steps)).res = ⟨k, 0, s'.tr, s'.steps, s'.reads⟩) ∧
    (∀ v s', callF s x args = .ok v s' → s.steps < s'.steps ∧ s'.steps ≤ fuel ∧ thenP F inp (enterP F { s with calls := cs } x dd args) (s'.steps - s.steps) = leaveO dd cs v s')
theorem nextCall_step {s : PS} {c : PC} (hc : s.calls = [c]) {c' : PC} {x : MIn} (hn : nextCall s = some (c', x)) (dd : Int) (cs : List PC) :
    c' = c ∧ x.kind = 7 ∧ stepP F inp (liftP dd cs s) = enterP F { s with steps := s.steps + 1, calls := { c with d := dd, done := c.done + 1 } :: cs } x.name x.d (x.argL.map c.get) := by
  obtain ⟨W, calls, tr, steps, reads⟩ := s
  simp only at hc
  subst hc
  unfold nextCall at hn
  dsimp only at hn
  cases hb : c.f.blocks[c.block.toNat]? with
  | none => rw [hb] at hn; cases hn
  | some b =>
    rw [hb] at hn
    dsimp only at hn
    cases hx : b.ins[c.done]? with
    | none => rw [hx] at hn; cases hn
    | some y =>
      rw [hx] at hn
      dsimp only at hn
      by_cases h7 : y.kind = 7
      · rw [if_pos h7] at hn
        cases hn
        refine ⟨rfl, h7, ?_⟩
        unfold liftP stepP
        dsimp only
        rw [hb]
        dsimp only
        rw [hx]
        dsimp only
        rw [insP_7 _ _ _ h7]
        rfl
      · rw [if_neg h7] at hn; cases hn
theorem frame_sem (callF : PS → ByteArray → List Int → RO) (depth : Nat) (hC : CallSem F inp fuel callF (depth + 1)) (cs : List PC) (hcs : cs.length = depth) (dd : Int) : ∀ (g : Nat) (s : PS) (c : PC), s.calls = [c] → s.steps ≤ fuel → fuel - s.steps < g →
    (∀ k s', frameR F inp fuel callF g s = .stop k s' → (runP F inp (fuel - s.steps) (liftP dd cs s)).res = ⟨k, 0, s'.tr, s'.steps, s'.reads⟩) ∧
    (∀ v s', frameR F inp fuel callF g s = .ok v s' → s.steps < s'.steps ∧ s'.steps ≤ fuel ∧ runP F inp (s'.steps - s.steps) (liftP dd cs s) = leaveO dd cs v s')
  | 0, s, c, hc, hf, hg => by omega
  | g + 1, s, c, hc, hf, hg => by
    have hl : (liftP dd cs s).tr = s.tr ∧ (liftP dd cs s).steps = s.steps ∧ (liftP dd cs s).reads = s.reads := by unfold liftP; rw [hc]; exact ⟨rfl, rfl, rfl⟩
    unfold frameR
    by_cases hfu : fuel ≤ s.steps
    · rw [if_pos hfu]
      refine ⟨fun k s' h => ?_, fun v s' h => by cases h⟩
      cases h
      rw [show fuel - s.steps = 0 by omega]
      show (PO.go (liftP dd cs s)).res = _
      show PR.mk 5 0 (liftP dd cs s).tr (liftP dd cs s).steps (liftP dd cs s).reads = _
      rw [hl.1, hl.2.1, hl.2.2]
    · rw [if_neg hfu]
      have e1 : fuel - s.steps = (fuel - (s.steps + 1)) + 1 := by omega
      cases hn : nextCall s with
      | some cx =>
        obtain ⟨c', x⟩ := cx
        obtain ⟨rfl, h7, hst⟩ := nextCall_step (F := F) (inp := inp) hc hn dd cs
        dsimp only
        have hsem := hC { s with steps := s.steps + 1 } ({ c' with d := dd, done := c'.done + 1 } :: cs) x.name (x.argL.map c'.get) x.d (by rw [List.length_cons, hcs]) (by show s.steps + 1 ≤ fuel; omega)
        cases hcall : callF { s with steps := s.steps + 1 } x.name (x.argL.map c'.get) with
        | stop k s1 =>
          dsimp only
          refine ⟨fun k2 s' h => ?_, fun v s' h => by cases h⟩
          cases h
          rw [e1, runP_then1, hst]
          exact hsem.1 k s1 hcall
        | ok v s1 =>
          dsimp only
          obtain ⟨h1, h2, h3⟩ := hsem.2 v s1 hcall
          have h1' : s.steps + 1 < s1.steps := h1
          have h3' : thenP F inp (enterP F { s with steps := s.steps + 1, calls := { c' with d := dd, done := c'.done + 1 } :: cs } x.name x.d (x.argL.map c'.get)) (s1.steps - (s.steps + 1)) = .go (liftP dd cs (backP c' x v s1)) := by
            refine h3.trans ?_
            unfold leaveO leaveP backP liftP
            dsimp only
            split <;> rfl
          have ih := frame_sem callF depth hC cs hcs dd g (backP c' x v s1) _ rfl h2 (by show fuel - s1.steps < g; omega)
          refine ⟨fun k s' h => ?_, fun v' s' h => ?_⟩
          · have := ih.1 k s' h
            rw [e1, runP_then1, hst, show fuel - (s.steps + 1) = (s1.steps - (s.steps + 1)) + (fuel - s1.steps) by omega, thenP_more, h3']
            exact this
          · obtain ⟨i1, i2, i3⟩ := ih.2 v' s' h
            have i1' : s1.steps < s'.steps := i1
            refine ⟨by omega, i2, ?_⟩
            rw [show s'.steps - s.steps = (s'.steps - (s.steps + 1)) + 1 by omega, runP_then1, hst, show s'.steps - (s.steps + 1) = (s1.steps - (s.steps + 1)) + (s'.steps - s1.steps) by omega, thenP_more, h3']
            exact i3
      | none =>
        dsimp only
        rcases step_lift (F := F) (inp := inp) hc hn dd cs with ⟨s1, c1, h1, h2, h3, h4⟩ | ⟨v, s1, h1, h2, h3⟩ | ⟨k, s1, s2, h1, h2, h3, h4, h5, h6⟩
        · rw [h1]
          dsimp only
          have ih := frame_sem callF depth hC cs hcs dd g s1 c1 h2 (by omega) (by omega)
          refine ⟨fun k s' h => ?_, fun v' s' h => ?_⟩
          · have := ih.1 k s' h
            rw [e1, runP_then1, h4]
            show (runP F inp (fuel - (s.steps + 1)) (liftP dd cs s1)).res = _
            rw [← h3]
            exact this
          · obtain ⟨i1, i2, i3⟩ := ih.2 v' s' h
            refine ⟨by omega, i2, ?_⟩
            rw [show s'.steps - s.steps = (s'.steps - s1.steps) + 1 by omega, runP_then1, h4]
            exact i3
        · rw [h1]
          dsimp only
          rw [if_pos rfl]
          refine ⟨fun k s' h => (by cases h), fun v' s' h => ?_⟩
          cases h
          refine ⟨by omega, by omega, ?_⟩
          rw [show s1.steps - s.steps = 0 + 1 by omega, runP_then1, h3]
          unfold leaveO leaveP
          cases cs with
          | nil => rfl
          | cons c2 cs2 => dsimp only; split <;> rfl
        · rw [h1]
          dsimp only
          rw [if_neg h2]
          refine ⟨fun k' s' h => ?_, fun v' s' h => by cases h⟩
          cases h
          rw [e1, runP_then1, h3]
          show PR.mk k 0 s2.tr s2.steps s2.reads = _
          rw [h4, h5, h6]
theorem call_sem : ∀ (d depth : Nat), depth + d = 32 → CallSem F inp fuel (callR F inp fuel d) depth
  | 0, depth, hd => fun s cs x args dd hcs hf => by
    refine ⟨fun k s' h => ?_, fun v s' h => by cases h⟩
    cases h
    unfold enterP
    rw [if_pos (show ({ s with calls := cs } : PS).calls.length = 32 by show cs.length = 32; omega)]
    rfl
  | d + 1, depth, hd => fun s cs x args dd hcs hf => by
    have hne : ¬ ({ s with calls := cs } : PS).calls.length = 32 := by show ¬ cs.length = 32; omega
    unfold enterP callR
    rw [if_neg hne]
    cases hx : F x with
    | none =>
      dsimp only
      exact ⟨fun k s' h => by cases h; rfl, fun v s' h => by cases h⟩
    | some f =>
      dsimp only
      exact frame_sem (callR F inp fuel d) depth (call_sem d (depth + 1) (by omega)) cs hcs dd (fuel + 1) { s with calls := [freshC f args] } (freshC f args) rfl hf (by show fuel - s.steps < fuel + 1; omega)
end
/-- A run, a call within the other. -/
def progC (gs : List MGl) (fs : List MFn) (inp : List Int) (fuel : Nat) : RO := callR (fnOf fs) inp fuel 32 ⟨wdOf gs, [], [], 0, 0⟩ ⟨#[109, 97, 105, 110]⟩ []
def RO.res : RO → PR
  | .ok v s => ⟨1, v, s.tr, s.steps, s.reads⟩
  | .stop k s => ⟨k, 0, s.tr, s.steps, s.reads⟩
theorem progC_res {gs : List MGl} {fs : List MFn} (hm : MidOk gs fs) (inp : List Int) (fuel : Nat) : (progC gs fs inp fuel).res = progR gs fs inp fuel := by
  have h := call_sem (F := fnOf fs) (inp := inp) (fuel := fuel) 32 0 rfl ⟨wdOf gs, [], [], 0, 0⟩ [] ⟨#[109, 97, 105, 110]⟩ [] (-1) rfl (Nat.zero_le _)
  have he : enterP (fnOf fs) ⟨wdOf gs, [], [], 0, 0⟩ ⟨#[109, 97, 105, 110]⟩ (-1) [] = .go (mainP (fnOf fs) (wdOf gs) ⟨#[109, 97, 105, 110]⟩) := by
    obtain ⟨f, hf, _⟩ := hm.main
    unfold enterP mainP
    rw [if_neg (show ¬ (⟨wdOf gs, [], [], 0, 0⟩ : PS).calls.length = 32 by simp), hf]
    simp
  rw [he] at h
  unfold progC progR
  cases hr : callR (fnOf fs) inp fuel 32 ⟨wdOf gs, [], [], 0, 0⟩ ⟨#[109, 97, 105, 110]⟩ [] with
  | stop k s' => exact (h.1 k s' hr).symm
  | ok v s' =>
    obtain ⟨h1, h2, h3⟩ := h.2 v s' hr
    have h3' : runP (fnOf fs) inp s'.steps (mainP (fnOf fs) (wdOf gs) ⟨#[109, 97, 105, 110]⟩) = .fin 1 v { s' with calls := [] } := h3
    have e : fuel = s'.steps + (fuel - s'.steps) := by omega
    rw [e, runP_more, h3']
    rfl
end Go.Proofs.Ytcanjkjpdnbcnaa
namespace Go.Proofs.Ytcanjkjpdnbcnaa
open Go.RowKit
set_option linter.unusedVariables false
set_option linter.unusedSimpArgs false
set_option maxRecDepth 100000

/-- What the machine's block holds. -/
structure Mc where
  GA : Option Addr
  gn : Nat
  gc : Nat
  FA : Option Addr
  fn : Nat
  fc : Nat
  DA : Option Addr
  dn : Nat
  dc : Nat
  iA : Option Addr
  inn : Nat
  ic : Nat
  fuel : Int
  calls : Nat
  fin : Int
  value : Int
  tA : Option Addr
  tn : Nat
  tc : Nat
  steps : Nat
  reads : Nat
def Mc.cells (m : Mc) : Array Value := #[.slice m.GA m.gn m.gc, .slice m.FA m.fn m.fc, .slice m.DA m.dn m.dc, .slice m.iA m.inn m.ic, .int .i64 m.fuel, .int .i64 (m.calls : Int), .int .i64 m.fin, .int .i32 m.value, .slice m.tA m.tn m.tc, .int .i64 (m.steps : Int), .int .i64 (m.reads : Int)]
def McAt (w : World) (p : Nat) (m : Mc) : Prop := w.heap[p]? = some (.cells m.cells 61 (0, 0))
theorem McAt.set {w : World} {p : Nat} {m : Mc} (h : McAt w p m) (i : Nat) (v : Value) (m' : Mc) (hr : m.cells.setIfInBounds i v = m'.cells) : McAt (w.setCell ⟨p, i, none⟩ v) p m' := by
  unfold McAt
  rw [heap_setCell_same w p i _ _ v h, hr]
theorem McAt.cell {w : World} {p : Nat} {m : Mc} (h : McAt w p m) (i : Nat) (v : Value) (hv : m.cells[i]? = some v) : w.cell? ⟨p, i, none⟩ = some v := by
  rw [cell_of_row _ _ i _ _ (0, 0) h]; exact hv
theorem McAt.c0 {w : World} {p : Nat} {m : Mc} (h : McAt w p m) : w.cell? ⟨p, 0, none⟩ = some (.slice m.GA m.gn m.gc) := h.cell 0 _ rfl
theorem McAt.c1 {w : World} {p : Nat} {m : Mc} (h : McAt w p m) : w.cell? ⟨p, 1, none⟩ = some (.slice m.FA m.fn m.fc) := h.cell 1 _ rfl
theorem McAt.c2 {w : World} {p : Nat} {m : Mc} (h : McAt w p m) : w.cell? ⟨p, 2, none⟩ = some (.slice m.DA m.dn m.dc) := h.cell 2 _ rfl
theorem McAt.c3 {w : World} {p : Nat} {m : Mc} (h : McAt w p m) : w.cell? ⟨p, 3, none⟩ = some (.slice m.iA m.inn m.ic) := h.cell 3 _ rfl
theorem McAt.c4 {w : World} {p : Nat} {m : Mc} (h : McAt w p m) : w.cell? ⟨p, 4, none⟩ = some (.int .i64 m.fuel) := h.cell 4 _ rfl
theorem McAt.c5 {w : World} {p : Nat} {m : Mc} (h : McAt w p m) : w.cell? ⟨p, 5, none⟩ = some (.int .i64 (m.calls : Int)) := h.cell 5 _ rfl
theorem McAt.c6 {w : World} {p : Nat} {m : Mc} (h : McAt w p m) : w.cell? ⟨p, 6, none⟩ = some (.int .i64 m.fin) := h.cell 6 _ rfl
theorem McAt.c7 {w : World} {p : Nat} {m : Mc} (h : McAt w p m) : w.cell? ⟨p, 7, none⟩ = some (.int .i32 m.value) := h.cell 7 _ rfl
theorem McAt.c8 {w : World} {p : Nat} {m : Mc} (h : McAt w p m) : w.cell? ⟨p, 8, none⟩ = some (.slice m.tA m.tn m.tc) := h.cell 8 _ rfl
theorem McAt.c9 {w : World} {p : Nat} {m : Mc} (h : McAt w p m) : w.cell? ⟨p, 9, none⟩ = some (.int .i64 (m.steps : Int)) := h.cell 9 _ rfl
theorem McAt.c10 {w : World} {p : Nat} {m : Mc} (h : McAt w p m) : w.cell? ⟨p, 10, none⟩ = some (.int .i64 (m.reads : Int)) := h.cell 10 _ rfl
theorem McAt.free {w : World} {p : Nat} {m : Mc} (h : McAt w p m) (i : Nat) : w.frozen? ⟨p, i, none⟩ = false := frozen_of_row w p i _ _ h
theorem McAt.lt {w : World} {p : Nat} {m : Mc} (h : McAt w p m) : p < w.heap.size := (Array.getElem?_eq_some_iff.1 h).1
theorem McAt.same {w w' : World} {p : Nat} {m : Mc} (h : McAt w p m) (hs : w'.heap[p]? = w.heap[p]?) : McAt w' p m := hs.trans h
set_option maxHeartbeats 1600000 in
theorem mstep_open (w : World) (p : Nat) (m : Mc) (h : McAt w p m) (h0 : m.fin = 0) (hf : m.fuel ≤ (m.steps : Int)) :
    Calls Try.prog 29 #[.pointer (some ⟨p, 0, none⟩)] w fun e w' => e = .returned (.bool false) ∧ McAt w' p { m with fin := 5 } ∧ Chg [p] w w' := by
  have c4 := h.c4
  have c6 := h.c6
  have c9 := h.c9
  have f6 := h.free 6
  have HS := Lib.hid (h.set 6 (.int .i64 5) { m with fin := 5 } rfl)
  have HC := Lib.hid ((Chg.refl [p] w).drew.setCell p 6 (.int .i64 5) (.inl (List.mem_singleton.2 rfl)))
  have k6 : (w.drew.setCell ⟨p, 6, none⟩ (.int .i64 5)).cell? ⟨p, 6, none⟩ = some (.int .i64 5) := (show McAt (w.drew.setCell ⟨p, 6, none⟩ (.int .i64 5)) p { m with fin := 5 } from HS.out).cell 6 _ rfl
  rw [h0] at c6
  clear h h0
  generalize m.fuel = fu at *
  generalize (m.steps : Int) = st at *
  go_enter Try.func29, Try.ntmps29
  go_wp2_with fail
  go_region
  go_wp2_with fail
  go_ret
  exact ⟨rfl, HS.out, HC.out⟩
set_option maxHeartbeats 1600000 in
theorem mstep_go (w : World) (p : Nat) (m : Mc) (h : McAt w p m) (h0 : m.fin = 0) (hf : (m.steps : Int) < m.fuel) (hs : m.steps ≤ 100000) :
    Calls Try.prog 29 #[.pointer (some ⟨p, 0, none⟩)] w fun e w' => e = .returned (.bool true) ∧ McAt w' p { m with steps := m.steps + 1 } ∧ Chg [p] w w' := by
  have c4 := h.c4
  have c6 := h.c6
  have c9 := h.c9
  have f9 := h.free 9
  have HS := Lib.hid (h.set 9 (.int .i64 ((m.steps : Int) + 1)) { m with steps := m.steps + 1 } rfl)
  have HC := Lib.hid ((Chg.refl [p] w).drew.setCell p 9 (.int .i64 ((m.steps : Int) + 1)) (.inl (List.mem_singleton.2 rfl)))
  have hs1 : (m.steps : Int) ≤ 100000 := by omega
  have hs0 : (0 : Int) ≤ (m.steps : Int) := by omega
  rw [h0] at c6
  clear h h0 hs
  generalize m.fuel = fu at *
  obtain ⟨st, hst⟩ : ∃ st : Int, (m.steps : Int) = st := ⟨_, rfl⟩
  rw [hst] at c9 hf hs1 hs0 HS HC
  clear hst
  go_enter Try.func29, Try.ntmps29
  go_wp2_with fail
  go_region
  go_wp2_with fail
  go_ret
  exact ⟨rfl, HS.out, HC.out⟩
end Go.Proofs.Ytcanjkjpdnbcnaa
namespace Go.Proofs.Ytcanjkjpdnbcnaa
open Go.RowKit
set_option linter.unusedVariables false
set_option linter.unusedSimpArgs false
set_option maxRecDepth 100000

/-- An instruction by value. -/
def MIn.val (x : MIn) : Value := .agg #[.int .i64 x.kind, .int .i64 x.op, .int .i64 x.d, .int .i64 x.a, .int .i64 x.b, .int .i32 x.num, .string x.name, .slice x.argsA x.argsn x.argsc]
/-- In a box of its own. -/
def InBox (w : World) (b : Nat) (x : MIn) : Prop := w.heap[b]? = some (.cells #[.int .i64 x.kind, .int .i64 x.op, .int .i64 x.d, .int .i64 x.a, .int .i64 x.b, .int .i32 x.num, .string x.name, .slice x.argsA x.argsn x.argsc] 44 (0, 0))
theorem InBox.new (w : World) (x : MIn) : ∃ W b, w.alloc (.cells #[.int .i64 x.kind, .int .i64 x.op, .int .i64 x.d, .int .i64 x.a, .int .i64 x.b, .int .i32 x.num, .string x.name, .slice x.argsA x.argsn x.argsc] 44) = W ∧ w.heap.size = b ∧ Below w.heap.size w W ∧ InBox W b x :=
  ⟨_, _, rfl, rfl, (Below.refl _ w).alloc (Nat.le_refl _) _, heap_alloc_new w _⟩
theorem InBox.same {w w' : World} {b : Nat} {x : MIn} (h : InBox w b x) (hs : w'.heap[b]? = w.heap[b]?) : InBox w' b x := hs.trans h
theorem InBox.lt {w : World} {b : Nat} {x : MIn} (h : InBox w b x) : b < w.heap.size := (Array.getElem?_eq_some_iff.1 h).1
theorem InBox.c0 {w : World} {b : Nat} {x : MIn} (h : InBox w b x) : w.cell? ⟨b, 0, none⟩ = some (.int .i64 x.kind) := by rw [cell_of_row _ _ 0 _ _ (0, 0) h]; rfl
theorem InBox.c1 {w : World} {b : Nat} {x : MIn} (h : InBox w b x) : w.cell? ⟨b, 1, none⟩ = some (.int .i64 x.op) := by rw [cell_of_row _ _ 1 _ _ (0, 0) h]; rfl
theorem InBox.c2 {w : World} {b : Nat} {x : MIn} (h : InBox w b x) : w.cell? ⟨b, 2, none⟩ = some (.int .i64 x.d) := by rw [cell_of_row _ _ 2 _ _ (0, 0) h]; rfl
theorem InBox.c3 {w : World} {b : Nat} {x : MIn} (h : InBox w b x) : w.cell? ⟨b, 3, none⟩ = some (.int .i64 x.a) := by rw [cell_of_row _ _ 3 _ _ (0, 0) h]; rfl
theorem InBox.c4 {w : World} {b : Nat} {x : MIn} (h : InBox w b x) : w.cell? ⟨b, 4, none⟩ = some (.int .i64 x.b) := by rw [cell_of_row _ _ 4 _ _ (0, 0) h]; rfl
theorem InBox.c5 {w : World} {b : Nat} {x : MIn} (h : InBox w b x) : w.cell? ⟨b, 5, none⟩ = some (.int .i32 x.num) := by rw [cell_of_row _ _ 5 _ _ (0, 0) h]; rfl
theorem InBox.c6 {w : World} {b : Nat} {x : MIn} (h : InBox w b x) : w.cell? ⟨b, 6, none⟩ = some (.string x.name) := by rw [cell_of_row _ _ 6 _ _ (0, 0) h]; rfl
theorem InBox.c7 {w : World} {b : Nat} {x : MIn} (h : InBox w b x) : w.cell? ⟨b, 7, none⟩ = some (.slice x.argsA x.argsn x.argsc) := by rw [cell_of_row _ _ 7 _ _ (0, 0) h]; rfl
theorem RegAt.below {w w' : World} {b : Nat} {l : List Int} (h : RegAt w b l) (hb : Below w.heap.size w w') : RegAt w' b l := h.same (hb.block b h.lt)
theorem McAt.below {w w' : World} {p : Nat} {m : Mc} (h : McAt w p m) (hb : Below w.heap.size w w') : McAt w' p m := h.same (hb.block p h.lt)
theorem InBox.below {w w' : World} {b : Nat} {x : MIn} (h : InBox w b x) (hb : Below w.heap.size w w') : InBox w' b x := h.same (hb.block b h.lt)
/-- The word's number. -/
def ixOf (x : MIn) (l : List Int) : Int := if 0 ≤ x.a then l.getD x.a.toNat 0 else 0
/-- What the machine has ready when a word is asked for. -/
structure WordAt (w : World) (p rb : Nat) (m : Mc) (l : List Int) (x : MIn) (gs : List MGl) (gi wb k : Nat) : Prop where
  mc : McAt w p m
  reg : RegAt w rb l
  few : l.length ≤ 100000
  vals : ∀ v ∈ l, I32 v
  a : (0 ≤ x.a ∧ x.a < (l.length : Int)) ∨ x.a = -1
  gls : MGls w m.GA m.gn gs
  gn : m.gn ≤ 100000
  at' : gAt gs x.name = (gi : Int)
  lt : gi < m.dn
  dn : m.dn ≤ 100000
  data : ∃ db dof, m.DA = some ⟨db, dof, none⟩ ∧ db < w.heap.size ∧ w.cell? ⟨db, dof + gi, none⟩ = some (.slice (some ⟨wb, 0, none⟩) k k)
  k : k ≤ 100000
theorem WordAt.below {w w' : World} {p rb : Nat} {m : Mc} {l : List Int} {x : MIn} {gs : List MGl} {gi wb k : Nat} (h : WordAt w p rb m l x gs gi wb k) (hb : Below w.heap.size w w') : WordAt w' p rb m l x gs gi wb k :=
  ⟨h.mc.below hb, h.reg.below hb, h.few, h.vals, h.a, h.gls.below hb, h.gn, h.at', h.lt, h.dn, by
    obtain ⟨db, dof, e, hlt, hc⟩ := h.data
    exact ⟨db, dof, e, Nat.lt_of_lt_of_le hlt hb.size, (hb.cell (p := ⟨db, dof + gi, none⟩) hlt).trans hc⟩, h.k⟩
set_option maxHeartbeats 3200000 in
theorem index_yes (w : World) (p rb n : Nat) (m : Mc) (l : List Int) (x : MIn) (gs : List MGl) (gi wb k : Nat) (h : WordAt w p rb m l x gs gi wb k) (hl : l.length = n) (hix : 0 ≤ ixOf x l ∧ ixOf x l < (k : Int)) :
    Calls Try.prog 46 #[.pointer (some ⟨p, 0, none⟩), .slice (some ⟨rb, 0, none⟩) n n, x.val] w fun e w' => e = .returned (.tuple #[.int .i64 (gi : Int), .int .i64 (ixOf x l), .bool true]) ∧ Below w.heap.size w w' := by
  obtain ⟨W0, xb, hW0, hxb, hB0, hx0⟩ := InBox.new w x
  have hG := gAt_any W0.drew m.GA m.FA m.gn m.gc m.fn m.fc gs (h.gls.below hB0.drew) h.gn x.name
  rw [h.at'] at hG
  have HG := Lib.hid hG
  have HW := Lib.hid (h.below hB0)
  have HX := Lib.hid hx0
  have HB := Lib.hid hB0
  have HF : Hid (∀ V, Below W0.heap.size W0 V → V.cell? ⟨p, 0, none⟩ = some (.slice m.GA m.gn m.gc) ∧ V.cell? ⟨p, 1, none⟩ = some (.slice m.FA m.fn m.fc) ∧ V.cell? ⟨xb, 6, none⟩ = some (.string x.name)) := Lib.hid (fun V hV => ⟨(HW.out.mc.below hV).c0, (HW.out.mc.below hV).c1, (hx0.below hV).c6⟩)
  have HP : Hid (p < w.heap.size) := Lib.hid h.mc.lt
  have HZ := Lib.hid (And.intro hl hix)
  unfold MIn.val
  clear hG hx0 hB0 h hl hix
  go_enter Try.func46, Try.ntmps46
  go_upto_region 1 with fail
  go_cut [9] from 11 to 17 (fun v wx => v = .int .i64 (gi : Int) ∧ Hid (Below W0.heap.size W0 wx))
  case first =>
    refine wp_region_held_drew (S := fun V => Below W0.heap.size W0 V) (by kernel_rfl) (Below.refl _ _).drew (fun _ => ?_)
    have hS0 : Below W0.heap.size W0 W0.drew := (Below.refl _ _).drew
    refine takeH 0 11 (v := (.pointer (some ⟨p, 0, none⟩))) rfl rfl (by kernel_rfl) (by kernel_rfl) (by kernel_rfl) (fun _ _ _ h => h) (by rfl) ?_ hS0 ?_
    · intro w hSw
      obtain ⟨y0, y1, y6⟩ := HF.out w hSw
      go_simp
    try simp only [Act.put, List.setIfInBounds_toArray, List.set_cons_zero, List.set_cons_succ]
    refine takeH 1 12 (v := (.pointer (some ⟨p, 0, none⟩))) rfl rfl (by kernel_rfl) (by kernel_rfl) (by kernel_rfl) (fun _ _ _ h => h) (by rfl) ?_ hS0 ?_
    · intro w hSw
      obtain ⟨y0, y1, y6⟩ := HF.out w hSw
      go_simp
    try simp only [Act.put, List.setIfInBounds_toArray, List.set_cons_zero, List.set_cons_succ]
    refine takeH 2 13 (v := (.pointer (some ⟨p, 0, none⟩))) rfl rfl (by kernel_rfl) (by kernel_rfl) (by kernel_rfl) (fun _ _ _ h => h) (by rfl) ?_ hS0 ?_
    · intro w hSw
      obtain ⟨y0, y1, y6⟩ := HF.out w hSw
      go_simp
    try simp only [Act.put, List.setIfInBounds_toArray, List.set_cons_zero, List.set_cons_succ]
    refine takeH 3 14 (v := (.agg #[.slice m.GA m.gn m.gc, .slice m.FA m.fn m.fc])) rfl rfl (by kernel_rfl) (by kernel_rfl) (by kernel_rfl) (fun _ _ _ h => h) (by rfl) ?_ hS0 ?_
    · intro w hSw
      obtain ⟨y0, y1, y6⟩ := HF.out w hSw
      go_simp
    try simp only [Act.put, List.setIfInBounds_toArray, List.set_cons_zero, List.set_cons_succ]
    refine takeH 4 15 (v := (.pointer (some ⟨xb, 6, none⟩))) rfl rfl (by kernel_rfl) (by kernel_rfl) (by kernel_rfl) (fun _ _ _ h => h) (by rfl) ?_ hS0 ?_
    · intro w hSw
      obtain ⟨y0, y1, y6⟩ := HF.out w hSw
      go_simp
    try simp only [Act.put, List.setIfInBounds_toArray, List.set_cons_zero, List.set_cons_succ]
    refine takeH 5 16 (v := (.string x.name)) rfl rfl (by kernel_rfl) (by kernel_rfl) (by kernel_rfl) (fun _ _ _ h => h) (by rfl) ?_ hS0 ?_
    · intro w hSw
      obtain ⟨y0, y1, y6⟩ := HF.out w hSw
      go_simp
    try simp only [Act.put, List.setIfInBounds_toArray, List.set_cons_zero, List.set_cons_succ]
    refine wpAnyH_ready (rs := [6]) (by kernel_rfl) (by simp) ?_
    refine AllReadyH.cons rfl (fun K hK => ?_) AllReadyH.nil
    go_simp
    go_at_call 23
    (with_reducible refine (HG.out).mono ?_)
    rintro e w2 ⟨rfl, hd⟩
    have hS2 := hS0.trans (hd.mono hS0.size)
    clear hd
    try go_wp2_with fail
    refine hK.out _ _ hS2 (fun _ => ?_)
    clear hK K
    try simp only [Act.put, List.setIfInBounds_toArray, List.set_cons_zero, List.set_cons_succ]
    refine takeH 7 9 (v := (.int .i64 (gi : Int))) rfl rfl (by kernel_rfl) (by kernel_rfl) (by kernel_rfl) (fun _ _ _ h => h) (by rfl) ?_ hS2 ?_
    · intro w hSw
      obtain ⟨y0, y1, y6⟩ := HF.out w hSw
      go_simp
    try simp only [Act.put, List.setIfInBounds_toArray, List.set_cons_zero, List.set_cons_succ]
    refine wpAnyH_done (by kernel_rfl) ?_ _
    go_wp2_with fail
    go_meet
    exact ⟨rfl, Lib.hid hS2⟩
  case rest =>
    obtain ⟨rfl, HV⟩ := hcut
    rename World => wz
    have HWz := Lib.hid (HW.out.below HV.out)
    have x3 := (HX.out.below HV.out).c3
    obtain ⟨db, dof, hDA, hdb, hdc⟩ := HWz.out.data
    have m2 := HWz.out.mc.c2
    rw [hDA] at m2
    have m6 := HWz.out.mc.free 6
    have hgd : (gi : Int) < (m.dn : Int) := by have := HWz.out.lt; omega
    have hg0 : (0 : Int) ≤ (gi : Int) := by omega
    have hd1 : (m.dn : Int) ≤ 100000 := by have := HWz.out.dn; omega
    have hk1 : (k : Int) ≤ 100000 := by have := HWz.out.k; omega
    have hn1 : (n : Int) ≤ 100000 := by have := HWz.out.few; have := HZ.out.1; omega
    obtain ⟨ix, hixe⟩ : ∃ ix, ixOf x l = ix := ⟨_, rfl⟩
    have HIX : Hid (ixOf x l = ix) := Lib.hid hixe
    have hixb := HZ.out.2
    rw [hixe] at hixb
    have hbig : -2147483648 ≤ ix ∧ ix ≤ 2147483647 := by
      rw [← hixe]
      unfold ixOf
      split
      · exact I32.getD HWz.out.vals _
      · omega
    have hwi : IntKind.i64.wrap ix = ix := by rw [IntKind.wrap_i64]; omega
    have hcs : (∃ j : Nat, x.a = (j : Int) ∧ (j : Int) < (n : Int) ∧ wz.cell? ⟨rb, j, none⟩ = some (.int .i32 ix)) ∨ (x.a = -1 ∧ ix = 0) := by
      rcases HWz.out.a with ⟨h1, h2⟩ | h1
      · refine .inl ⟨x.a.toNat, by omega, by have := HZ.out.1; omega, ?_⟩
        have := HWz.out.reg.cell x.a.toNat (by omega)
        rw [← hixe]
        unfold ixOf
        rw [if_pos h1]
        exact this
      · exact .inr ⟨h1, by rw [← hixe]; unfold ixOf; rw [if_neg (by omega)]⟩
    have HE : Hid (Below w.heap.size w wz) := Lib.hid (HB.out.trans (HV.out.mono HB.out.size))
    obtain ⟨hi0, hik⟩ := hixb
    clear hixe hDA hdb HW HX HF HP hW0
    rcases hcs with ⟨j, hj, hjn, hc⟩ | ⟨ha, rfl⟩
    · rw [hj] at x3
      have hj0 : (0 : Int) ≤ (j : Int) := by omega
      go_wp2_with fail
      go_ret3
      exact ⟨by rw [HIX.out]; rfl, HE.out⟩
    · rw [ha] at x3
      go_wp2_with fail
      go_ret3
      exact ⟨by rw [HIX.out]; rfl, HE.out⟩
set_option maxHeartbeats 3200000 in
theorem index_no (w : World) (p rb n : Nat) (m : Mc) (l : List Int) (x : MIn) (gs : List MGl) (gi wb k : Nat) (h : WordAt w p rb m l x gs gi wb k) (hl : l.length = n) (hix : ixOf x l < 0 ∨ (k : Int) ≤ ixOf x l) :
    Calls Try.prog 46 #[.pointer (some ⟨p, 0, none⟩), .slice (some ⟨rb, 0, none⟩) n n, x.val] w fun e w' => e = .returned (.tuple #[.int .i64 0, .int .i64 0, .bool false]) ∧ McAt w' p { m with fin := 3 } ∧ Chg [p] w w' := by
  obtain ⟨W0, xb, hW0, hxb, hB0, hx0⟩ := InBox.new w x
  have hG := gAt_any W0.drew m.GA m.FA m.gn m.gc m.fn m.fc gs (h.gls.below hB0.drew) h.gn x.name
  rw [h.at'] at hG
  have HG := Lib.hid hG
  have HW := Lib.hid (h.below hB0)
  have HX := Lib.hid hx0
  have HB := Lib.hid hB0
  have HF : Hid (∀ V, Below W0.heap.size W0 V → V.cell? ⟨p, 0, none⟩ = some (.slice m.GA m.gn m.gc) ∧ V.cell? ⟨p, 1, none⟩ = some (.slice m.FA m.fn m.fc) ∧ V.cell? ⟨xb, 6, none⟩ = some (.string x.name)) := Lib.hid (fun V hV => ⟨(HW.out.mc.below hV).c0, (HW.out.mc.below hV).c1, (hx0.below hV).c6⟩)
  have HP : Hid (p < w.heap.size) := Lib.hid h.mc.lt
  have HZ := Lib.hid (And.intro hl hix)
  unfold MIn.val
  clear hG hx0 hB0 h hl hix
  go_enter Try.func46, Try.ntmps46
  go_upto_region 1 with fail
  go_cut [9] from 11 to 17 (fun v wx => v = .int .i64 (gi : Int) ∧ Hid (Below W0.heap.size W0 wx))
  case first =>
    refine wp_region_held_drew (S := fun V => Below W0.heap.size W0 V) (by kernel_rfl) (Below.refl _ _).drew (fun _ => ?_)
    have hS0 : Below W0.heap.size W0 W0.drew := (Below.refl _ _).drew
    refine takeH 0 11 (v := (.pointer (some ⟨p, 0, none⟩))) rfl rfl (by kernel_rfl) (by kernel_rfl) (by kernel_rfl) (fun _ _ _ h => h) (by rfl) ?_ hS0 ?_
    · intro w hSw
      obtain ⟨y0, y1, y6⟩ := HF.out w hSw
      go_simp
    try simp only [Act.put, List.setIfInBounds_toArray, List.set_cons_zero, List.set_cons_succ]
    refine takeH 1 12 (v := (.pointer (some ⟨p, 0, none⟩))) rfl rfl (by kernel_rfl) (by kernel_rfl) (by kernel_rfl) (fun _ _ _ h => h) (by rfl) ?_ hS0 ?_
    · intro w hSw
      obtain ⟨y0, y1, y6⟩ := HF.out w hSw
      go_simp
    try simp only [Act.put, List.setIfInBounds_toArray, List.set_cons_zero, List.set_cons_succ]
    refine takeH 2 13 (v := (.pointer (some ⟨p, 0, none⟩))) rfl rfl (by kernel_rfl) (by kernel_rfl) (by kernel_rfl) (fun _ _ _ h => h) (by rfl) ?_ hS0 ?_
    · intro w hSw
      obtain ⟨y0, y1, y6⟩ := HF.out w hSw
      go_simp
    try simp only [Act.put, List.setIfInBounds_toArray, List.set_cons_zero, List.set_cons_succ]
    refine takeH 3 14 (v := (.agg #[.slice m.GA m.gn m.gc, .slice m.FA m.fn m.fc])) rfl rfl (by kernel_rfl) (by kernel_rfl) (by kernel_rfl) (fun _ _ _ h => h) (by rfl) ?_ hS0 ?_
    · intro w hSw
      obtain ⟨y0, y1, y6⟩ := HF.out w hSw
      go_simp
    try simp only [Act.put, List.setIfInBounds_toArray, List.set_cons_zero, List.set_cons_succ]
    refine takeH 4 15 (v := (.pointer (some ⟨xb, 6, none⟩))) rfl rfl (by kernel_rfl) (by kernel_rfl) (by kernel_rfl) (fun _ _ _ h => h) (by rfl) ?_ hS0 ?_
    · intro w hSw
      obtain ⟨y0, y1, y6⟩ := HF.out w hSw
      go_simp
    try simp only [Act.put, List.setIfInBounds_toArray, List.set_cons_zero, List.set_cons_succ]
    refine takeH 5 16 (v := (.string x.name)) rfl rfl (by kernel_rfl) (by kernel_rfl) (by kernel_rfl) (fun _ _ _ h => h) (by rfl) ?_ hS0 ?_
    · intro w hSw
      obtain ⟨y0, y1, y6⟩ := HF.out w hSw
      go_simp
    try simp only [Act.put, List.setIfInBounds_toArray, List.set_cons_zero, List.set_cons_succ]
    refine wpAnyH_ready (rs := [6]) (by kernel_rfl) (by simp) ?_
    refine AllReadyH.cons rfl (fun K hK => ?_) AllReadyH.nil
    go_simp
    go_at_call 23
    (with_reducible refine (HG.out).mono ?_)
    rintro e w2 ⟨rfl, hd⟩
    have hS2 := hS0.trans (hd.mono hS0.size)
    clear hd
    try go_wp2_with fail
    refine hK.out _ _ hS2 (fun _ => ?_)
    clear hK K
    try simp only [Act.put, List.setIfInBounds_toArray, List.set_cons_zero, List.set_cons_succ]
    refine takeH 7 9 (v := (.int .i64 (gi : Int))) rfl rfl (by kernel_rfl) (by kernel_rfl) (by kernel_rfl) (fun _ _ _ h => h) (by rfl) ?_ hS2 ?_
    · intro w hSw
      obtain ⟨y0, y1, y6⟩ := HF.out w hSw
      go_simp
    try simp only [Act.put, List.setIfInBounds_toArray, List.set_cons_zero, List.set_cons_succ]
    refine wpAnyH_done (by kernel_rfl) ?_ _
    go_wp2_with fail
    go_meet
    exact ⟨rfl, Lib.hid hS2⟩
  case rest =>
    obtain ⟨rfl, HV⟩ := hcut
    rename World => wz
    have HWz := Lib.hid (HW.out.below HV.out)
    have x3 := (HX.out.below HV.out).c3
    obtain ⟨db, dof, hDA, hdb, hdc⟩ := HWz.out.data
    have m2 := HWz.out.mc.c2
    rw [hDA] at m2
    have m6 := HWz.out.mc.free 6
    have hgd : (gi : Int) < (m.dn : Int) := by have := HWz.out.lt; omega
    have hg0 : (0 : Int) ≤ (gi : Int) := by omega
    have hd1 : (m.dn : Int) ≤ 100000 := by have := HWz.out.dn; omega
    have hk1 : (k : Int) ≤ 100000 := by have := HWz.out.k; omega
    have hn1 : (n : Int) ≤ 100000 := by have := HWz.out.few; have := HZ.out.1; omega
    obtain ⟨ix, hixe⟩ : ∃ ix, ixOf x l = ix := ⟨_, rfl⟩
    have HIX : Hid (ixOf x l = ix) := Lib.hid hixe
    have hixb := HZ.out.2
    rw [hixe] at hixb
    have hbig : -2147483648 ≤ ix ∧ ix ≤ 2147483647 := by
      rw [← hixe]
      unfold ixOf
      split
      · exact I32.getD HWz.out.vals _
      · omega
    have hwi : IntKind.i64.wrap ix = ix := by rw [IntKind.wrap_i64]; omega
    have hcs : (∃ j : Nat, x.a = (j : Int) ∧ (j : Int) < (n : Int) ∧ wz.cell? ⟨rb, j, none⟩ = some (.int .i32 ix)) ∨ (x.a = -1 ∧ ix = 0) := by
      rcases HWz.out.a with ⟨h1, h2⟩ | h1
      · refine .inl ⟨x.a.toNat, by omega, by have := HZ.out.1; omega, ?_⟩
        have := HWz.out.reg.cell x.a.toNat (by omega)
        rw [← hixe]
        unfold ixOf
        rw [if_pos h1]
        exact this
      · exact .inr ⟨h1, by rw [← hixe]; unfold ixOf; rw [if_neg (by omega)]⟩
    have hBE := HB.out.trans (HV.out.mono HB.out.size)
    have HS := Lib.hid (HWz.out.mc.set 6 (.int .i64 3) { m with fin := 3 } rfl)
    have HC := Lib.hid ((Chg.of_below (l := [p]) hBE).setCell p 6 (.int .i64 3) (.inl (List.mem_singleton.2 rfl)))
    have c6 := HWz.out.mc.c6
    clear hixe hDA hdb HW HX HF HP hBE hW0
    rcases hcs with ⟨j, hj, hjn, hc⟩ | ⟨ha, rfl⟩
    · rw [hj] at x3
      have hj0 : (0 : Int) ≤ (j : Int) := by omega
      rcases hixb with h1 | h1
      · go_wp2_with fail
        go_ret3
        exact ⟨rfl, HS.out, HC.out⟩
      · by_cases h2 : ix < 0
        · omega
        · go_wp2_with fail
          go_ret3
          exact ⟨rfl, HS.out, HC.out⟩
    · rw [ha] at x3
      rcases hixb with h1 | h1
      · omega
      · go_wp2_with fail
        go_ret3
        exact ⟨rfl, HS.out, HC.out⟩
end Go.Proofs.Ytcanjkjpdnbcnaa
namespace Go.Proofs.Ytcanjkjpdnbcnaa
open Go.RowKit
set_option linter.unusedVariables false
set_option linter.unusedSimpArgs false
set_option maxRecDepth 100000

theorem belN (w : World) (n : Nat) : Below w.heap.size w (w.drewN n) := ⟨rfl, rfl, rfl, Nat.le_refl _, fun _ _ => rfl⟩
theorem ref_un (op a : Int) (h : 19 ≤ op ∧ op ≤ 21) (ha : -2147483648 ≤ a ∧ a ≤ 2147483647) (w : World) : Calls Try.prog 44 #[.int .i64 op, .int .i32 a] w fun e w' => e = .returned (.tuple #[.int .i32 (unV op a), .bool true]) ∧ w = w' := by
  rcases (by omega : op = 19 ∨ op = 20 ∨ op = 21) with rfl | rfl | rfl
  · go_enter Try.func44, Try.ntmps44
    go_wp2_with (go_at_call 51; refine (round_any _ _).mono ?_; rintro e w' ⟨rfl, rfl⟩)
    go_ret2
    exact ⟨rfl, rfl⟩
  · go_enter Try.func44, Try.ntmps44
    go_wp2_with (go_at_call 52; refine (ref_truth _ _).mono ?_; rintro e w' ⟨rfl, rfl⟩)
    go_ret2
    exact ⟨rfl, rfl⟩
  · have hr := round_any (-1 - a) w
    rw [wrap32_self (-1 - a) (by omega)] at hr
    have hv : unV 21 a = -1 - a := by unfold unV; rw [if_neg (by decide), if_neg (by decide)]; exact inv_is a ha
    rw [hv]
    have H := Lib.hid hr
    clear hr hv
    go_enter Try.func44, Try.ntmps44
    go_wp2_with (go_at_call 51; refine H.out.mono ?_; rintro e w' ⟨rfl, rfl⟩)
    go_ret2
    exact ⟨rfl, rfl⟩
set_option maxHeartbeats 3200000 in
theorem ins_1 (w : World) (p rb n : Nat) (m : Mc) (l : List Int) (x : MIn) (k : Nat) (hm : McAt w p m) (hr : RegAt w rb l) (hl : l.length = n) (hn : n ≤ 100000) (hpr : rb ≠ p) (h0 : x.kind = 1) (hd : x.d = (k : Int)) (hk : k < n) :
    Calls Try.prog 30 #[.pointer (some ⟨p, 0, none⟩), .slice (some ⟨rb, 0, none⟩) n n, x.val] w fun e w' => e = .returned (.tuple #[]) ∧ RegAt w' rb (l.set k x.num) ∧ Chg [rb] w w' := by
  obtain ⟨W0, xb, hW0, hxb, hB0, hx0⟩ := InBox.new w x
  have hm0 := hm.below hB0
  have hr0 := hr.below hB0
  have hxp : xb ≠ p := by have := hm.lt; omega
  have hxr : xb ≠ rb := by have := hr.lt; omega
  have x0 := hx0.c0
  have hn2 : (n : Int) ≤ 100000 := by omega
  have x2 := hx0.c2
  rw [hd] at x2
  have kZ : (0 : Int) ≤ (k : Int) := by omega
  have kN : (k : Int) < (n : Int) := by omega
  have x5 := hx0.c5
  have r1 := hr0.cell k (by omega)
  have f1 := hr0.free k
  have HS := Lib.hid (hr0.put k x.num)
  have HC := Lib.hid ((Chg.of_below (l := [rb]) hB0).setCell rb k (.int .i32 x.num) (.inl (List.mem_singleton.2 rfl)))
  rw [h0] at x0
  unfold MIn.val
  rw [h0, hd] at hW0 ⊢
  generalize l.getD k 0 = v0 at *
  clear hm hr hm0 hr0 hB0 hx0 hl
  go_enter Try.func30, Try.ntmps30
  go_wp2_with fail
  exact bodyPost_end (results_none rfl _ _ _) rfl ⟨rfl, HS.out, HC.out⟩
set_option maxHeartbeats 3200000 in
theorem ins_2 (w : World) (p rb n : Nat) (m : Mc) (l : List Int) (x : MIn) (k j : Nat) (hm : McAt w p m) (hr : RegAt w rb l) (hl : l.length = n) (hn : n ≤ 100000) (hpr : rb ≠ p) (h0 : x.kind = 2) (hd : x.d = (k : Int)) (hk : k < n) (ha : x.a = (j : Int)) (hj : j < n) :
    Calls Try.prog 30 #[.pointer (some ⟨p, 0, none⟩), .slice (some ⟨rb, 0, none⟩) n n, x.val] w fun e w' => e = .returned (.tuple #[]) ∧ RegAt w' rb (l.set k (l.getD j 0)) ∧ Chg [rb] w w' := by
  obtain ⟨W0, xb, hW0, hxb, hB0, hx0⟩ := InBox.new w x
  have hm0 := hm.below hB0
  have hr0 := hr.below hB0
  have hxp : xb ≠ p := by have := hm.lt; omega
  have hxr : xb ≠ rb := by have := hr.lt; omega
  have x0 := hx0.c0
  have hn2 : (n : Int) ≤ 100000 := by omega
  have x2 := hx0.c2
  rw [hd] at x2
  have kZ : (0 : Int) ≤ (k : Int) := by omega
  have kN : (k : Int) < (n : Int) := by omega
  have x3 := hx0.c3
  rw [ha] at x3
  have jZ : (0 : Int) ≤ (j : Int) := by omega
  have jN : (j : Int) < (n : Int) := by omega
  have r1 := hr0.cell k (by omega)
  have f1 := hr0.free k
  have s1 := hr0.cell j (by omega)
  obtain ⟨L, hL⟩ : ∃ L, [rb] = L := ⟨_, rfl⟩
  have HF : Hid (∀ V, Chg L W0 V → V.cell? ⟨xb, 2, none⟩ = some (.int .i64 (k : Int)) ∧ V.cell? ⟨xb, 3, none⟩ = some (.int .i64 (j : Int))) := Lib.hid (fun V hV => by
    subst hL
    exact ⟨hV.read xb 2 (by simpa using hxr) x2, hV.read xb 3 (by simpa using hxr) x3⟩)
  have HS := Lib.hid (hr0.put k (l.getD j 0))
  have HC := Lib.hid ((Chg.of_below (l := [rb]) hB0).drew.setCell rb k (.int .i32 (l.getD j 0)) (.inl (List.mem_singleton.2 rfl)))
  have HS3 : Hid (Chg L W0 (W0.drew.setCell ⟨rb, k, none⟩ (.int .i32 (l.getD j 0)))) := Lib.hid ((Chg.refl L W0).drew.setCell rb k _ (.inl (by rw [← hL]; simp)))
  rw [h0] at x0
  unfold MIn.val
  rw [h0, hd, ha] at hW0 ⊢
  generalize l.getD k 0 = v0 at *
  generalize l.getD j 0 = va at *
  clear hm hr hm0 hr0 hB0 hx0 hl hL
  go_enter Try.func30, Try.ntmps30
  go_upto_region 5 with fail
  refine wp_region_held_drew (S := fun V => Chg L W0 V) (by kernel_rfl) ((Chg.refl L W0).drew) (fun _ => ?_)
  have hS0 : Chg L W0 W0.drew := (Chg.refl L W0).drew
  refine takeH 0 32 (v := (.slice (some ⟨rb, 0, none⟩) n n)) rfl rfl (by kernel_rfl) (by kernel_rfl) (by kernel_rfl) (fun _ _ _ h => h) (by rfl) ?_ hS0 ?_
  · intro w hSw
    obtain ⟨y2, y3⟩ := HF.out w hSw
    go_simp
  try simp only [Act.put, List.setIfInBounds_toArray, List.set_cons_zero, List.set_cons_succ]
  refine takeH 1 33 (v := (.pointer (some ⟨xb, 2, none⟩))) rfl rfl (by kernel_rfl) (by kernel_rfl) (by kernel_rfl) (fun _ _ _ h => h) (by rfl) ?_ hS0 ?_
  · intro w hSw
    obtain ⟨y2, y3⟩ := HF.out w hSw
    go_simp
  try simp only [Act.put, List.setIfInBounds_toArray, List.set_cons_zero, List.set_cons_succ]
  refine takeH 2 34 (v := (.int .i64 (k : Int))) rfl rfl (by kernel_rfl) (by kernel_rfl) (by kernel_rfl) (fun _ _ _ h => h) (by rfl) ?_ hS0 ?_
  · intro w hSw
    obtain ⟨y2, y3⟩ := HF.out w hSw
    go_simp
  try simp only [Act.put, List.setIfInBounds_toArray, List.set_cons_zero, List.set_cons_succ]
  refine takeH 3 35 (v := (.slice (some ⟨rb, 0, none⟩) n n)) rfl rfl (by kernel_rfl) (by kernel_rfl) (by kernel_rfl) (fun _ _ _ h => h) (by rfl) ?_ hS0 ?_
  · intro w hSw
    obtain ⟨y2, y3⟩ := HF.out w hSw
    go_simp
  try simp only [Act.put, List.setIfInBounds_toArray, List.set_cons_zero, List.set_cons_succ]
  refine takeH 4 36 (v := (.pointer (some ⟨xb, 3, none⟩))) rfl rfl (by kernel_rfl) (by kernel_rfl) (by kernel_rfl) (fun _ _ _ h => h) (by rfl) ?_ hS0 ?_
  · intro w hSw
    obtain ⟨y2, y3⟩ := HF.out w hSw
    go_simp
  try simp only [Act.put, List.setIfInBounds_toArray, List.set_cons_zero, List.set_cons_succ]
  refine takeH 5 37 (v := (.int .i64 (j : Int))) rfl rfl (by kernel_rfl) (by kernel_rfl) (by kernel_rfl) (fun _ _ _ h => h) (by rfl) ?_ hS0 ?_
  · intro w hSw
    obtain ⟨y2, y3⟩ := HF.out w hSw
    go_simp
  try simp only [Act.put, List.setIfInBounds_toArray, List.set_cons_zero, List.set_cons_succ]
  refine takeH 6 38 (v := (.pointer (some ⟨rb, j, none⟩))) rfl rfl (by kernel_rfl) (by kernel_rfl) (by kernel_rfl) (fun _ _ _ h => h) (by rfl) ?_ hS0 ?_
  · intro w hSw
    obtain ⟨y2, y3⟩ := HF.out w hSw
    go_simp
  try simp only [Act.put, List.setIfInBounds_toArray, List.set_cons_zero, List.set_cons_succ]
  refine wpAnyH_ready (rs := [7]) (by kernel_rfl) (by simp) ?_
  refine AllReadyH.cons rfl (fun K hK => ?_) AllReadyH.nil
  go_simp
  refine hK.out _ _ hS0 (fun _ => ?_)
  clear hK K
  try simp only [Act.put, List.setIfInBounds_toArray, List.set_cons_zero, List.set_cons_succ]
  refine takeH 8 40 (v := (.pointer (some ⟨rb, k, none⟩))) rfl rfl (by kernel_rfl) (by kernel_rfl) (by kernel_rfl) (fun _ _ _ h => h) (by rfl) ?_ hS0 ?_
  · intro w hSw
    obtain ⟨y2, y3⟩ := HF.out w hSw
    go_simp
  try simp only [Act.put, List.setIfInBounds_toArray, List.set_cons_zero, List.set_cons_succ]
  refine wpAnyH_ready (rs := [9]) (by kernel_rfl) (by simp) ?_
  refine AllReadyH.cons rfl (fun K hK => ?_) AllReadyH.nil
  go_simp
  refine hK.out _ _ HS3.out (fun _ => ?_)
  clear hK K
  try simp only [Act.put, List.setIfInBounds_toArray, List.set_cons_zero, List.set_cons_succ]
  refine wpAnyH_done (by kernel_rfl) ?_ _
  go_wp2_with fail
  exact bodyPost_end (results_none rfl _ _ _) rfl ⟨rfl, HS.out, HC.out⟩
set_option maxHeartbeats 3200000 in
theorem ins_3 (w : World) (p rb n : Nat) (m : Mc) (l : List Int) (x : MIn) (k j : Nat) (hm : McAt w p m) (hr : RegAt w rb l) (hl : l.length = n) (hn : n ≤ 100000) (hpr : rb ≠ p) (h0 : x.kind = 3) (hd : x.d = (k : Int)) (hk : k < n) (ha : x.a = (j : Int)) (hj : j < n) (hop : 19 ≤ x.op ∧ x.op ≤ 21) (hv : ∀ v ∈ l, I32 v) :
    Calls Try.prog 30 #[.pointer (some ⟨p, 0, none⟩), .slice (some ⟨rb, 0, none⟩) n n, x.val] w fun e w' => e = .returned (.tuple #[]) ∧ RegAt w' rb (l.set k (unV x.op (l.getD j 0))) ∧ Chg [rb] w w' := by
  obtain ⟨W0, xb, hW0, hxb, hB0, hx0⟩ := InBox.new w x
  have hm0 := hm.below hB0
  have hr0 := hr.below hB0
  have hxp : xb ≠ p := by have := hm.lt; omega
  have hxr : xb ≠ rb := by have := hr.lt; omega
  have x0 := hx0.c0
  have hn2 : (n : Int) ≤ 100000 := by omega
  have x2 := hx0.c2
  rw [hd] at x2
  have kZ : (0 : Int) ≤ (k : Int) := by omega
  have kN : (k : Int) < (n : Int) := by omega
  have x3 := hx0.c3
  rw [ha] at x3
  have jZ : (0 : Int) ≤ (j : Int) := by omega
  have jN : (j : Int) < (n : Int) := by omega
  have x1 := hx0.c1
  obtain ⟨L, hL⟩ : ∃ L, [rb] = L := ⟨_, rfl⟩
  have HF : Hid (∀ V, Below W0.heap.size W0 V → V.cell? ⟨xb, 1, none⟩ = some (.int .i64 x.op) ∧ V.cell? ⟨xb, 2, none⟩ = some (.int .i64 (k : Int)) ∧ V.cell? ⟨xb, 3, none⟩ = some (.int .i64 (j : Int)) ∧ V.cell? ⟨rb, j, none⟩ = some (.int .i32 (l.getD j 0))) := Lib.hid (fun V hV => by
    have h := hx0.below hV
    have h2 := h.c2
    have h3 := h.c3
    rw [hd] at h2
    rw [ha] at h3
    exact ⟨h.c1, h2, h3, (hr0.below hV).cell j (by omega)⟩)
  have r1 := hr0.cell k (by omega)
  have f1 := hr0.free k
  have HU := Lib.hid (fun W => ref_un x.op (l.getD j 0) hop (I32.getD hv j) W)
  have HS := Lib.hid (hr0.put k (unV x.op (l.getD j 0)))
  have HC := Lib.hid ((Chg.of_below (l := [rb]) hB0).drew.setCell rb k (.int .i32 (unV x.op (l.getD j 0))) (.inl (List.mem_singleton.2 rfl)))
  rw [h0] at x0
  unfold MIn.val
  rw [h0, hd, ha] at hW0 ⊢
  generalize unV x.op (l.getD j 0) = vv at *
  generalize l.getD k 0 = v0 at *
  generalize l.getD j 0 = va at *
  clear hm hr hm0 hr0 hB0 hx0 hl hL hop
  go_enter Try.func30, Try.ntmps30
  go_upto_region 7 with fail
  refine wp_region_held_drew (S := fun V => Below W0.heap.size W0 V) (by kernel_rfl) (Below.refl _ _).drew (fun _ => ?_)
  have hS0 : Below W0.heap.size W0 W0.drew := (Below.refl _ _).drew
  refine takeH 0 44 (v := (.pointer (some ⟨xb, 1, none⟩))) rfl rfl (by kernel_rfl) (by kernel_rfl) (by kernel_rfl) (fun _ _ _ h => h) (by rfl) ?_ hS0 ?_
  · intro w hSw
    obtain ⟨y1, y2, y3, y4⟩ := HF.out w hSw
    go_simp
  try simp only [Act.put, List.setIfInBounds_toArray, List.set_cons_zero, List.set_cons_succ]
  refine takeH 1 45 (v := (.int .i64 x.op)) rfl rfl (by kernel_rfl) (by kernel_rfl) (by kernel_rfl) (fun _ _ _ h => h) (by rfl) ?_ hS0 ?_
  · intro w hSw
    obtain ⟨y1, y2, y3, y4⟩ := HF.out w hSw
    go_simp
  try simp only [Act.put, List.setIfInBounds_toArray, List.set_cons_zero, List.set_cons_succ]
  refine takeH 2 46 (v := (.slice (some ⟨rb, 0, none⟩) n n)) rfl rfl (by kernel_rfl) (by kernel_rfl) (by kernel_rfl) (fun _ _ _ h => h) (by rfl) ?_ hS0 ?_
  · intro w hSw
    obtain ⟨y1, y2, y3, y4⟩ := HF.out w hSw
    go_simp
  try simp only [Act.put, List.setIfInBounds_toArray, List.set_cons_zero, List.set_cons_succ]
  refine takeH 3 47 (v := (.pointer (some ⟨xb, 3, none⟩))) rfl rfl (by kernel_rfl) (by kernel_rfl) (by kernel_rfl) (fun _ _ _ h => h) (by rfl) ?_ hS0 ?_
  · intro w hSw
    obtain ⟨y1, y2, y3, y4⟩ := HF.out w hSw
    go_simp
  try simp only [Act.put, List.setIfInBounds_toArray, List.set_cons_zero, List.set_cons_succ]
  refine takeH 4 48 (v := (.int .i64 (j : Int))) rfl rfl (by kernel_rfl) (by kernel_rfl) (by kernel_rfl) (fun _ _ _ h => h) (by rfl) ?_ hS0 ?_
  · intro w hSw
    obtain ⟨y1, y2, y3, y4⟩ := HF.out w hSw
    go_simp
  try simp only [Act.put, List.setIfInBounds_toArray, List.set_cons_zero, List.set_cons_succ]
  refine takeH 5 49 (v := (.pointer (some ⟨rb, j, none⟩))) rfl rfl (by kernel_rfl) (by kernel_rfl) (by kernel_rfl) (fun _ _ _ h => h) (by rfl) ?_ hS0 ?_
  · intro w hSw
    obtain ⟨y1, y2, y3, y4⟩ := HF.out w hSw
    go_simp
  try simp only [Act.put, List.setIfInBounds_toArray, List.set_cons_zero, List.set_cons_succ]
  refine takeH 6 50 (v := (.int .i32 va)) rfl rfl (by kernel_rfl) (by kernel_rfl) (by kernel_rfl) (fun _ _ _ h => h) (by rfl) ?_ hS0 ?_
  · intro w hSw
    obtain ⟨y1, y2, y3, y4⟩ := HF.out w hSw
    go_simp
  try simp only [Act.put, List.setIfInBounds_toArray, List.set_cons_zero, List.set_cons_succ]
  refine wpAnyH_ready (rs := [7]) (by kernel_rfl) (by simp) ?_
  refine AllReadyH.cons rfl (fun K hK => ?_) AllReadyH.nil
  go_simp
  go_at_call 44
  (with_reducible refine (HU.out _).mono ?_)
  rintro e w2 ⟨rfl, rfl⟩
  try go_wp2_with fail
  refine hK.out _ _ hS0 (fun _ => ?_)
  clear hK K
  try simp only [Act.put, List.setIfInBounds_toArray, List.set_cons_zero, List.set_cons_succ]
  refine takeH 8 43 (v := (.tuple #[.int .i32 vv, .bool true])) rfl rfl (by kernel_rfl) (by kernel_rfl) (by kernel_rfl) (fun _ _ _ h => h) (by rfl) ?_ hS0 ?_
  · intro w hSw
    obtain ⟨y1, y2, y3, y4⟩ := HF.out w hSw
    go_simp
  try simp only [Act.put, List.setIfInBounds_toArray, List.set_cons_zero, List.set_cons_succ]
  refine takeH 9 52 (v := (.int .i32 vv)) rfl rfl (by kernel_rfl) (by kernel_rfl) (by kernel_rfl) (fun _ _ _ h => h) (by rfl) ?_ hS0 ?_
  · intro w hSw
    obtain ⟨y1, y2, y3, y4⟩ := HF.out w hSw
    go_simp
  try simp only [Act.put, List.setIfInBounds_toArray, List.set_cons_zero, List.set_cons_succ]
  refine takeH 11 6 (v := (.int .i32 vv)) rfl rfl (by kernel_rfl) (by kernel_rfl) (by kernel_rfl) (fun _ _ _ h => h) (by rfl) ?_ hS0 ?_
  · intro w hSw
    obtain ⟨y1, y2, y3, y4⟩ := HF.out w hSw
    go_simp
  try simp only [Act.put, List.setIfInBounds_toArray, List.set_cons_zero, List.set_cons_succ]
  refine takeH 10 53 (v := (.bool true)) rfl rfl (by kernel_rfl) (by kernel_rfl) (by kernel_rfl) (fun _ _ _ h => h) (by rfl) ?_ hS0 ?_
  · intro w hSw
    obtain ⟨y1, y2, y3, y4⟩ := HF.out w hSw
    go_simp
  try simp only [Act.put, List.setIfInBounds_toArray, List.set_cons_zero, List.set_cons_succ]
  refine takeH 12 7 (v := (.bool true)) rfl rfl (by kernel_rfl) (by kernel_rfl) (by kernel_rfl) (fun _ _ _ h => h) (by rfl) ?_ hS0 ?_
  · intro w hSw
    obtain ⟨y1, y2, y3, y4⟩ := HF.out w hSw
    go_simp
  try simp only [Act.put, List.setIfInBounds_toArray, List.set_cons_zero, List.set_cons_succ]
  refine wpAnyH_done (by kernel_rfl) ?_ _
  go_wp2_with fail
  exact bodyPost_end (results_none rfl _ _ _) rfl ⟨rfl, HS.out, HC.out⟩
set_option maxHeartbeats 3200000 in
theorem ins_4 (w : World) (p rb n : Nat) (m : Mc) (l : List Int) (x : MIn) (k j i : Nat) (hm : McAt w p m) (hr : RegAt w rb l) (hl : l.length = n) (hn : n ≤ 100000) (hpr : rb ≠ p) (h0 : x.kind = 4) (hd : x.d = (k : Int)) (hk : k < n) (ha : x.a = (j : Int)) (hj : j < n) (hb : x.b = (i : Int)) (hi : i < n) (hv : ∀ v ∈ l, I32 v) (hop : (WordBins.binV x.op (l.getD j 0) (l.getD i 0)).2 = true) :
    Calls Try.prog 30 #[.pointer (some ⟨p, 0, none⟩), .slice (some ⟨rb, 0, none⟩) n n, x.val] w fun e w' => e = .returned (.tuple #[]) ∧ RegAt w' rb (l.set k (WordBins.binV x.op (l.getD j 0) (l.getD i 0)).1) ∧ Chg [rb] w w' := by
  obtain ⟨W0, xb, hW0, hxb, hB0, hx0⟩ := InBox.new w x
  have hm0 := hm.below hB0
  have hr0 := hr.below hB0
  have hxp : xb ≠ p := by have := hm.lt; omega
  have hxr : xb ≠ rb := by have := hr.lt; omega
  have x0 := hx0.c0
  have hn2 : (n : Int) ≤ 100000 := by omega
  have x2 := hx0.c2
  rw [hd] at x2
  have kZ : (0 : Int) ≤ (k : Int) := by omega
  have kN : (k : Int) < (n : Int) := by omega
  have x3 := hx0.c3
  rw [ha] at x3
  have jZ : (0 : Int) ≤ (j : Int) := by omega
  have jN : (j : Int) < (n : Int) := by omega
  have x4 := hx0.c4
  rw [hb] at x4
  have iZ : (0 : Int) ≤ (i : Int) := by omega
  have iN : (i : Int) < (n : Int) := by omega
  have x1 := hx0.c1
  obtain ⟨L, hL⟩ : ∃ L, [rb] = L := ⟨_, rfl⟩
  have HF : Hid (∀ V, Below W0.heap.size W0 V → V.cell? ⟨xb, 1, none⟩ = some (.int .i64 x.op) ∧ V.cell? ⟨xb, 2, none⟩ = some (.int .i64 (k : Int)) ∧ V.cell? ⟨xb, 3, none⟩ = some (.int .i64 (j : Int)) ∧ V.cell? ⟨rb, j, none⟩ = some (.int .i32 (l.getD j 0)) ∧ V.cell? ⟨xb, 4, none⟩ = some (.int .i64 (i : Int)) ∧ V.cell? ⟨rb, i, none⟩ = some (.int .i32 (l.getD i 0))) := Lib.hid (fun V hV => by
    have h := hx0.below hV
    have h2 := h.c2
    have h3 := h.c3
    rw [hd] at h2
    rw [ha] at h3
    have h4 := h.c4
    rw [hb] at h4
    exact ⟨h.c1, h2, h3, (hr0.below hV).cell j (by omega), h4, (hr0.below hV).cell i (by omega)⟩)
  have HU : Hid (∀ W, Calls Try.prog 45 #[.int .i64 x.op, .int .i32 (l.getD j 0), .int .i32 (l.getD i 0)] W fun e w' => e = .returned (.tuple #[.int .i32 (WordBins.binV x.op (l.getD j 0) (l.getD i 0)).1, .bool true]) ∧ ∃ n, w' = W.drewN n) := Lib.hid (fun W => by
    have h := WordBins.ref_bin x.op (l.getD j 0) (l.getD i 0) (I32.getD hv j) (I32.getD hv i) W
    rw [hop] at h
    exact h)
  have r1 : ∀ d, (W0.drewN d).cell? ⟨rb, k, none⟩ = some (.int .i32 (l.getD k 0)) := fun d => hr0.cell k (by omega)
  have f1 : ∀ d, (W0.drewN d).frozen? ⟨rb, k, none⟩ = false := fun d => hr0.free k
  have HBN : Hid (∀ d, Below W0.heap.size W0 (W0.drewN d)) := Lib.hid (fun d => belN W0 d)
  generalize hvv : (WordBins.binV x.op (l.getD j 0) (l.getD i 0)).1 = vv at *
  have HS : Hid (∀ d, RegAt ((W0.drewN d).setCell ⟨rb, k, none⟩ (.int .i32 vv)) rb (l.set k vv)) := Lib.hid (fun d => (show RegAt (W0.drewN d) rb l from hr0).put k vv)
  have HC : Hid (∀ d, Chg [rb] w ((W0.drewN d).setCell ⟨rb, k, none⟩ (.int .i32 vv))) := Lib.hid (fun d => ((Chg.of_below (l := [rb]) hB0).drewN d).setCell rb k (.int .i32 vv) (.inl (List.mem_singleton.2 rfl)))
  rw [h0] at x0
  unfold MIn.val
  rw [h0, hd, ha, hb] at hW0 ⊢
  generalize l.getD k 0 = v0 at *
  generalize l.getD j 0 = va at *
  generalize l.getD i 0 = vb at *
  clear hm hr hm0 hr0 hB0 hx0 hl hL hop hvv
  go_enter Try.func30, Try.ntmps30
  go_upto_region 10 with fail
  refine wp_region_held_drew (S := fun V => Below W0.heap.size W0 V) (by kernel_rfl) (Below.refl _ _).drew (fun _ => ?_)
  have hS0 : Below W0.heap.size W0 W0.drew := (Below.refl _ _).drew
  refine takeH 0 62 (v := (.pointer (some ⟨xb, 1, none⟩))) rfl rfl (by kernel_rfl) (by kernel_rfl) (by kernel_rfl) (fun _ _ _ h => h) (by rfl) ?_ hS0 ?_
  · intro w hSw
    obtain ⟨y1, y2, y3, y4, y5, y6⟩ := HF.out w hSw
    go_simp
  try simp only [Act.put, List.setIfInBounds_toArray, List.set_cons_zero, List.set_cons_succ]
  refine takeH 1 63 (v := (.int .i64 x.op)) rfl rfl (by kernel_rfl) (by kernel_rfl) (by kernel_rfl) (fun _ _ _ h => h) (by rfl) ?_ hS0 ?_
  · intro w hSw
    obtain ⟨y1, y2, y3, y4, y5, y6⟩ := HF.out w hSw
    go_simp
  try simp only [Act.put, List.setIfInBounds_toArray, List.set_cons_zero, List.set_cons_succ]
  refine takeH 2 64 (v := (.slice (some ⟨rb, 0, none⟩) n n)) rfl rfl (by kernel_rfl) (by kernel_rfl) (by kernel_rfl) (fun _ _ _ h => h) (by rfl) ?_ hS0 ?_
  · intro w hSw
    obtain ⟨y1, y2, y3, y4, y5, y6⟩ := HF.out w hSw
    go_simp
  try simp only [Act.put, List.setIfInBounds_toArray, List.set_cons_zero, List.set_cons_succ]
  refine takeH 3 65 (v := (.pointer (some ⟨xb, 3, none⟩))) rfl rfl (by kernel_rfl) (by kernel_rfl) (by kernel_rfl) (fun _ _ _ h => h) (by rfl) ?_ hS0 ?_
  · intro w hSw
    obtain ⟨y1, y2, y3, y4, y5, y6⟩ := HF.out w hSw
    go_simp
  try simp only [Act.put, List.setIfInBounds_toArray, List.set_cons_zero, List.set_cons_succ]
  refine takeH 4 66 (v := (.int .i64 (j : Int))) rfl rfl (by kernel_rfl) (by kernel_rfl) (by kernel_rfl) (fun _ _ _ h => h) (by rfl) ?_ hS0 ?_
  · intro w hSw
    obtain ⟨y1, y2, y3, y4, y5, y6⟩ := HF.out w hSw
    go_simp
  try simp only [Act.put, List.setIfInBounds_toArray, List.set_cons_zero, List.set_cons_succ]
  refine takeH 5 67 (v := (.pointer (some ⟨rb, j, none⟩))) rfl rfl (by kernel_rfl) (by kernel_rfl) (by kernel_rfl) (fun _ _ _ h => h) (by rfl) ?_ hS0 ?_
  · intro w hSw
    obtain ⟨y1, y2, y3, y4, y5, y6⟩ := HF.out w hSw
    go_simp
  try simp only [Act.put, List.setIfInBounds_toArray, List.set_cons_zero, List.set_cons_succ]
  refine takeH 6 68 (v := (.int .i32 va)) rfl rfl (by kernel_rfl) (by kernel_rfl) (by kernel_rfl) (fun _ _ _ h => h) (by rfl) ?_ hS0 ?_
  · intro w hSw
    obtain ⟨y1, y2, y3, y4, y5, y6⟩ := HF.out w hSw
    go_simp
  try simp only [Act.put, List.setIfInBounds_toArray, List.set_cons_zero, List.set_cons_succ]
  refine takeH 7 69 (v := (.slice (some ⟨rb, 0, none⟩) n n)) rfl rfl (by kernel_rfl) (by kernel_rfl) (by kernel_rfl) (fun _ _ _ h => h) (by rfl) ?_ hS0 ?_
  · intro w hSw
    obtain ⟨y1, y2, y3, y4, y5, y6⟩ := HF.out w hSw
    go_simp
  try simp only [Act.put, List.setIfInBounds_toArray, List.set_cons_zero, List.set_cons_succ]
  refine takeH 8 70 (v := (.pointer (some ⟨xb, 4, none⟩))) rfl rfl (by kernel_rfl) (by kernel_rfl) (by kernel_rfl) (fun _ _ _ h => h) (by rfl) ?_ hS0 ?_
  · intro w hSw
    obtain ⟨y1, y2, y3, y4, y5, y6⟩ := HF.out w hSw
    go_simp
  try simp only [Act.put, List.setIfInBounds_toArray, List.set_cons_zero, List.set_cons_succ]
  refine takeH 9 71 (v := (.int .i64 (i : Int))) rfl rfl (by kernel_rfl) (by kernel_rfl) (by kernel_rfl) (fun _ _ _ h => h) (by rfl) ?_ hS0 ?_
  · intro w hSw
    obtain ⟨y1, y2, y3, y4, y5, y6⟩ := HF.out w hSw
    go_simp
  try simp only [Act.put, List.setIfInBounds_toArray, List.set_cons_zero, List.set_cons_succ]
  refine takeH 10 72 (v := (.pointer (some ⟨rb, i, none⟩))) rfl rfl (by kernel_rfl) (by kernel_rfl) (by kernel_rfl) (fun _ _ _ h => h) (by rfl) ?_ hS0 ?_
  · intro w hSw
    obtain ⟨y1, y2, y3, y4, y5, y6⟩ := HF.out w hSw
    go_simp
  try simp only [Act.put, List.setIfInBounds_toArray, List.set_cons_zero, List.set_cons_succ]
  refine takeH 11 73 (v := (.int .i32 vb)) rfl rfl (by kernel_rfl) (by kernel_rfl) (by kernel_rfl) (fun _ _ _ h => h) (by rfl) ?_ hS0 ?_
  · intro w hSw
    obtain ⟨y1, y2, y3, y4, y5, y6⟩ := HF.out w hSw
    go_simp
  try simp only [Act.put, List.setIfInBounds_toArray, List.set_cons_zero, List.set_cons_succ]
  refine wpAnyH_ready (rs := [12]) (by kernel_rfl) (by simp) ?_
  refine AllReadyH.cons rfl (fun K hK => ?_) AllReadyH.nil
  go_simp
  go_at_call 45
  (with_reducible refine (HU.out _).mono ?_)
  rintro e w2 ⟨rfl, d, rfl⟩
  have r1 := r1 (1 + d)
  have f1 := f1 (1 + d)
  have hS0 := HBN.out (1 + d)
  try go_wp2_with fail
  refine hK.out _ _ hS0 (fun _ => ?_)
  clear hK K
  try simp only [Act.put, List.setIfInBounds_toArray, List.set_cons_zero, List.set_cons_succ]
  refine takeH 13 61 (v := (.tuple #[.int .i32 vv, .bool true])) rfl rfl (by kernel_rfl) (by kernel_rfl) (by kernel_rfl) (fun _ _ _ h => h) (by rfl) ?_ hS0 ?_
  · intro w hSw
    obtain ⟨y1, y2, y3, y4, y5, y6⟩ := HF.out w hSw
    go_simp
  try simp only [Act.put, List.setIfInBounds_toArray, List.set_cons_zero, List.set_cons_succ]
  refine takeH 14 75 (v := (.int .i32 vv)) rfl rfl (by kernel_rfl) (by kernel_rfl) (by kernel_rfl) (fun _ _ _ h => h) (by rfl) ?_ hS0 ?_
  · intro w hSw
    obtain ⟨y1, y2, y3, y4, y5, y6⟩ := HF.out w hSw
    go_simp
  try simp only [Act.put, List.setIfInBounds_toArray, List.set_cons_zero, List.set_cons_succ]
  refine takeH 16 8 (v := (.int .i32 vv)) rfl rfl (by kernel_rfl) (by kernel_rfl) (by kernel_rfl) (fun _ _ _ h => h) (by rfl) ?_ hS0 ?_
  · intro w hSw
    obtain ⟨y1, y2, y3, y4, y5, y6⟩ := HF.out w hSw
    go_simp
  try simp only [Act.put, List.setIfInBounds_toArray, List.set_cons_zero, List.set_cons_succ]
  refine takeH 15 76 (v := (.bool true)) rfl rfl (by kernel_rfl) (by kernel_rfl) (by kernel_rfl) (fun _ _ _ h => h) (by rfl) ?_ hS0 ?_
  · intro w hSw
    obtain ⟨y1, y2, y3, y4, y5, y6⟩ := HF.out w hSw
    go_simp
  try simp only [Act.put, List.setIfInBounds_toArray, List.set_cons_zero, List.set_cons_succ]
  refine takeH 17 9 (v := (.bool true)) rfl rfl (by kernel_rfl) (by kernel_rfl) (by kernel_rfl) (fun _ _ _ h => h) (by rfl) ?_ hS0 ?_
  · intro w hSw
    obtain ⟨y1, y2, y3, y4, y5, y6⟩ := HF.out w hSw
    go_simp
  try simp only [Act.put, List.setIfInBounds_toArray, List.set_cons_zero, List.set_cons_succ]
  refine wpAnyH_done (by kernel_rfl) ?_ _
  go_wp2_with fail
  exact bodyPost_end (results_none rfl _ _ _) rfl ⟨rfl, HS.out (1 + d), HC.out (1 + d)⟩
set_option maxHeartbeats 3200000 in
theorem ins_4no (w : World) (p rb n : Nat) (m : Mc) (l : List Int) (x : MIn) (k j i : Nat) (hm : McAt w p m) (hr : RegAt w rb l) (hl : l.length = n) (hn : n ≤ 100000) (hpr : rb ≠ p) (h0 : x.kind = 4) (hd : x.d = (k : Int)) (hk : k < n) (ha : x.a = (j : Int)) (hj : j < n) (hb : x.b = (i : Int)) (hi : i < n) (hv : ∀ v ∈ l, I32 v) (hop : (WordBins.binV x.op (l.getD j 0) (l.getD i 0)).2 = false) :
    Calls Try.prog 30 #[.pointer (some ⟨p, 0, none⟩), .slice (some ⟨rb, 0, none⟩) n n, x.val] w fun e w' => e = .returned (.tuple #[]) ∧ McAt w' p { m with fin := 2 } ∧ Chg [p] w w' := by
  obtain ⟨W0, xb, hW0, hxb, hB0, hx0⟩ := InBox.new w x
  have hm0 := hm.below hB0
  have hr0 := hr.below hB0
  have hxp : xb ≠ p := by have := hm.lt; omega
  have hxr : xb ≠ rb := by have := hr.lt; omega
  have x0 := hx0.c0
  have hn2 : (n : Int) ≤ 100000 := by omega
  have x2 := hx0.c2
  rw [hd] at x2
  have kZ : (0 : Int) ≤ (k : Int) := by omega
  have kN : (k : Int) < (n : Int) := by omega
  have x3 := hx0.c3
  rw [ha] at x3
  have jZ : (0 : Int) ≤ (j : Int) := by omega
  have jN : (j : Int) < (n : Int) := by omega
  have x4 := hx0.c4
  rw [hb] at x4
  have iZ : (0 : Int) ≤ (i : Int) := by omega
  have iN : (i : Int) < (n : Int) := by omega
  have x1 := hx0.c1
  obtain ⟨L, hL⟩ : ∃ L, [rb] = L := ⟨_, rfl⟩
  have HF : Hid (∀ V, Below W0.heap.size W0 V → V.cell? ⟨xb, 1, none⟩ = some (.int .i64 x.op) ∧ V.cell? ⟨xb, 2, none⟩ = some (.int .i64 (k : Int)) ∧ V.cell? ⟨xb, 3, none⟩ = some (.int .i64 (j : Int)) ∧ V.cell? ⟨rb, j, none⟩ = some (.int .i32 (l.getD j 0)) ∧ V.cell? ⟨xb, 4, none⟩ = some (.int .i64 (i : Int)) ∧ V.cell? ⟨rb, i, none⟩ = some (.int .i32 (l.getD i 0))) := Lib.hid (fun V hV => by
    have h := hx0.below hV
    have h2 := h.c2
    have h3 := h.c3
    rw [hd] at h2
    rw [ha] at h3
    have h4 := h.c4
    rw [hb] at h4
    exact ⟨h.c1, h2, h3, (hr0.below hV).cell j (by omega), h4, (hr0.below hV).cell i (by omega)⟩)
  have HU : Hid (∀ W, Calls Try.prog 45 #[.int .i64 x.op, .int .i32 (l.getD j 0), .int .i32 (l.getD i 0)] W fun e w' => e = .returned (.tuple #[.int .i32 (WordBins.binV x.op (l.getD j 0) (l.getD i 0)).1, .bool false]) ∧ ∃ n, w' = W.drewN n) := Lib.hid (fun W => by
    have h := WordBins.ref_bin x.op (l.getD j 0) (l.getD i 0) (I32.getD hv j) (I32.getD hv i) W
    rw [hop] at h
    exact h)
  have r1 : ∀ d, (W0.drewN d).cell? ⟨rb, k, none⟩ = some (.int .i32 (l.getD k 0)) := fun d => hr0.cell k (by omega)
  have f1 : ∀ d, (W0.drewN d).frozen? ⟨rb, k, none⟩ = false := fun d => hr0.free k
  have HBN : Hid (∀ d, Below W0.heap.size W0 (W0.drewN d)) := Lib.hid (fun d => belN W0 d)
  generalize hvv : (WordBins.binV x.op (l.getD j 0) (l.getD i 0)).1 = vv at *
  have c6 : ∀ d, (W0.drewN d).cell? ⟨p, 6, none⟩ = some (.int .i64 m.fin) := fun d => hm0.c6
  have g6 : ∀ d, (W0.drewN d).frozen? ⟨p, 6, none⟩ = false := fun d => hm0.free 6
  have HS : Hid (∀ d, McAt ((W0.drewN d).setCell ⟨p, 6, none⟩ (.int .i64 2)) p { m with fin := 2 }) := Lib.hid (fun d => (show McAt (W0.drewN d) p m from hm0).set 6 _ _ rfl)
  have HC : Hid (∀ d, Chg [p] w ((W0.drewN d).setCell ⟨p, 6, none⟩ (.int .i64 2))) := Lib.hid (fun d => ((Chg.of_below (l := [p]) hB0).drewN d).setCell p 6 (.int .i64 2) (.inl (List.mem_singleton.2 rfl)))
  rw [h0] at x0
  unfold MIn.val
  rw [h0, hd, ha, hb] at hW0 ⊢
  generalize l.getD k 0 = v0 at *
  generalize l.getD j 0 = va at *
  generalize l.getD i 0 = vb at *
  clear hm hr hm0 hr0 hB0 hx0 hl hL hop hvv
  go_enter Try.func30, Try.ntmps30
  go_upto_region 10 with fail
  refine wp_region_held_drew (S := fun V => Below W0.heap.size W0 V) (by kernel_rfl) (Below.refl _ _).drew (fun _ => ?_)
  have hS0 : Below W0.heap.size W0 W0.drew := (Below.refl _ _).drew
  refine takeH 0 62 (v := (.pointer (some ⟨xb, 1, none⟩))) rfl rfl (by kernel_rfl) (by kernel_rfl) (by kernel_rfl) (fun _ _ _ h => h) (by rfl) ?_ hS0 ?_
  · intro w hSw
    obtain ⟨y1, y2, y3, y4, y5, y6⟩ := HF.out w hSw
    go_simp
  try simp only [Act.put, List.setIfInBounds_toArray, List.set_cons_zero, List.set_cons_succ]
  refine takeH 1 63 (v := (.int .i64 x.op)) rfl rfl (by kernel_rfl) (by kernel_rfl) (by kernel_rfl) (fun _ _ _ h => h) (by rfl) ?_ hS0 ?_
  · intro w hSw
    obtain ⟨y1, y2, y3, y4, y5, y6⟩ := HF.out w hSw
    go_simp
  try simp only [Act.put, List.setIfInBounds_toArray, List.set_cons_zero, List.set_cons_succ]
  refine takeH 2 64 (v := (.slice (some ⟨rb, 0, none⟩) n n)) rfl rfl (by kernel_rfl) (by kernel_rfl) (by kernel_rfl) (fun _ _ _ h => h) (by rfl) ?_ hS0 ?_
  · intro w hSw
    obtain ⟨y1, y2, y3, y4, y5, y6⟩ := HF.out w hSw
    go_simp
  try simp only [Act.put, List.setIfInBounds_toArray, List.set_cons_zero, List.set_cons_succ]
  refine takeH 3 65 (v := (.pointer (some ⟨xb, 3, none⟩))) rfl rfl (by kernel_rfl) (by kernel_rfl) (by kernel_rfl) (fun _ _ _ h => h) (by rfl) ?_ hS0 ?_
  · intro w hSw
    obtain ⟨y1, y2, y3, y4, y5, y6⟩ := HF.out w hSw
    go_simp
  try simp only [Act.put, List.setIfInBounds_toArray, List.set_cons_zero, List.set_cons_succ]
  refine takeH 4 66 (v := (.int .i64 (j : Int))) rfl rfl (by kernel_rfl) (by kernel_rfl) (by kernel_rfl) (fun _ _ _ h => h) (by rfl) ?_ hS0 ?_
  · intro w hSw
    obtain ⟨y1, y2, y3, y4, y5, y6⟩ := HF.out w hSw
    go_simp
  try simp only [Act.put, List.setIfInBounds_toArray, List.set_cons_zero, List.set_cons_succ]
  refine takeH 5 67 (v := (.pointer (some ⟨rb, j, none⟩))) rfl rfl (by kernel_rfl) (by kernel_rfl) (by kernel_rfl) (fun _ _ _ h => h) (by rfl) ?_ hS0 ?_
  · intro w hSw
    obtain ⟨y1, y2, y3, y4, y5, y6⟩ := HF.out w hSw
    go_simp
  try simp only [Act.put, List.setIfInBounds_toArray, List.set_cons_zero, List.set_cons_succ]
  refine takeH 6 68 (v := (.int .i32 va)) rfl rfl (by kernel_rfl) (by kernel_rfl) (by kernel_rfl) (fun _ _ _ h => h) (by rfl) ?_ hS0 ?_
  · intro w hSw
    obtain ⟨y1, y2, y3, y4, y5, y6⟩ := HF.out w hSw
    go_simp
  try simp only [Act.put, List.setIfInBounds_toArray, List.set_cons_zero, List.set_cons_succ]
  refine takeH 7 69 (v := (.slice (some ⟨rb, 0, none⟩) n n)) rfl rfl (by kernel_rfl) (by kernel_rfl) (by kernel_rfl) (fun _ _ _ h => h) (by rfl) ?_ hS0 ?_
  · intro w hSw
    obtain ⟨y1, y2, y3, y4, y5, y6⟩ := HF.out w hSw
    go_simp
  try simp only [Act.put, List.setIfInBounds_toArray, List.set_cons_zero, List.set_cons_succ]
  refine takeH 8 70 (v := (.pointer (some ⟨xb, 4, none⟩))) rfl rfl (by kernel_rfl) (by kernel_rfl) (by kernel_rfl) (fun _ _ _ h => h) (by rfl) ?_ hS0 ?_
  · intro w hSw
    obtain ⟨y1, y2, y3, y4, y5, y6⟩ := HF.out w hSw
    go_simp
  try simp only [Act.put, List.setIfInBounds_toArray, List.set_cons_zero, List.set_cons_succ]
  refine takeH 9 71 (v := (.int .i64 (i : Int))) rfl rfl (by kernel_rfl) (by kernel_rfl) (by kernel_rfl) (fun _ _ _ h => h) (by rfl) ?_ hS0 ?_
  · intro w hSw
    obtain ⟨y1, y2, y3, y4, y5, y6⟩ := HF.out w hSw
    go_simp
  try simp only [Act.put, List.setIfInBounds_toArray, List.set_cons_zero, List.set_cons_succ]
  refine takeH 10 72 (v := (.pointer (some ⟨rb, i, none⟩))) rfl rfl (by kernel_rfl) (by kernel_rfl) (by kernel_rfl) (fun _ _ _ h => h) (by rfl) ?_ hS0 ?_
  · intro w hSw
    obtain ⟨y1, y2, y3, y4, y5, y6⟩ := HF.out w hSw
    go_simp
  try simp only [Act.put, List.setIfInBounds_toArray, List.set_cons_zero, List.set_cons_succ]
  refine takeH 11 73 (v := (.int .i32 vb)) rfl rfl (by kernel_rfl) (by kernel_rfl) (by kernel_rfl) (fun _ _ _ h => h) (by rfl) ?_ hS0 ?_
  · intro w hSw
    obtain ⟨y1, y2, y3, y4, y5, y6⟩ := HF.out w hSw
    go_simp
  try simp only [Act.put, List.setIfInBounds_toArray, List.set_cons_zero, List.set_cons_succ]
  refine wpAnyH_ready (rs := [12]) (by kernel_rfl) (by simp) ?_
  refine AllReadyH.cons rfl (fun K hK => ?_) AllReadyH.nil
  go_simp
  go_at_call 45
  (with_reducible refine (HU.out _).mono ?_)
  rintro e w2 ⟨rfl, d, rfl⟩
  have r1 := r1 (1 + d)
  have f1 := f1 (1 + d)
  have c6 := c6 (1 + d)
  have g6 := g6 (1 + d)
  have hS0 := HBN.out (1 + d)
  try go_wp2_with fail
  refine hK.out _ _ hS0 (fun _ => ?_)
  clear hK K
  try simp only [Act.put, List.setIfInBounds_toArray, List.set_cons_zero, List.set_cons_succ]
  refine takeH 13 61 (v := (.tuple #[.int .i32 vv, .bool false])) rfl rfl (by kernel_rfl) (by kernel_rfl) (by kernel_rfl) (fun _ _ _ h => h) (by rfl) ?_ hS0 ?_
  · intro w hSw
    obtain ⟨y1, y2, y3, y4, y5, y6⟩ := HF.out w hSw
    go_simp
  try simp only [Act.put, List.setIfInBounds_toArray, List.set_cons_zero, List.set_cons_succ]
  refine takeH 14 75 (v := (.int .i32 vv)) rfl rfl (by kernel_rfl) (by kernel_rfl) (by kernel_rfl) (fun _ _ _ h => h) (by rfl) ?_ hS0 ?_
  · intro w hSw
    obtain ⟨y1, y2, y3, y4, y5, y6⟩ := HF.out w hSw
    go_simp
  try simp only [Act.put, List.setIfInBounds_toArray, List.set_cons_zero, List.set_cons_succ]
  refine takeH 16 8 (v := (.int .i32 vv)) rfl rfl (by kernel_rfl) (by kernel_rfl) (by kernel_rfl) (fun _ _ _ h => h) (by rfl) ?_ hS0 ?_
  · intro w hSw
    obtain ⟨y1, y2, y3, y4, y5, y6⟩ := HF.out w hSw
    go_simp
  try simp only [Act.put, List.setIfInBounds_toArray, List.set_cons_zero, List.set_cons_succ]
  refine takeH 15 76 (v := (.bool false)) rfl rfl (by kernel_rfl) (by kernel_rfl) (by kernel_rfl) (fun _ _ _ h => h) (by rfl) ?_ hS0 ?_
  · intro w hSw
    obtain ⟨y1, y2, y3, y4, y5, y6⟩ := HF.out w hSw
    go_simp
  try simp only [Act.put, List.setIfInBounds_toArray, List.set_cons_zero, List.set_cons_succ]
  refine takeH 17 9 (v := (.bool false)) rfl rfl (by kernel_rfl) (by kernel_rfl) (by kernel_rfl) (fun _ _ _ h => h) (by rfl) ?_ hS0 ?_
  · intro w hSw
    obtain ⟨y1, y2, y3, y4, y5, y6⟩ := HF.out w hSw
    go_simp
  try simp only [Act.put, List.setIfInBounds_toArray, List.set_cons_zero, List.set_cons_succ]
  refine wpAnyH_done (by kernel_rfl) ?_ _
  go_wp2_with fail
  exact bodyPost_ret (v := .tuple #[]) (results_none rfl _ _ _) rfl ⟨rfl, HS.out (1 + d), HC.out (1 + d)⟩
set_option maxHeartbeats 3200000 in
theorem ins_5no (w : World) (p rb n : Nat) (m : Mc) (l : List Int) (x : MIn) (gs : List MGl) (gi wb kk : Nat) (hm : McAt w p m) (hr : RegAt w rb l) (hl : l.length = n) (hn : n ≤ 100000) (hpr : rb ≠ p) (h0 : x.kind = 5) (hx : WordAt w p rb m l x gs gi wb kk) (hix : ixOf x l < 0 ∨ (kk : Int) ≤ ixOf x l) :
    Calls Try.prog 30 #[.pointer (some ⟨p, 0, none⟩), .slice (some ⟨rb, 0, none⟩) n n, x.val] w fun e w' => e = .returned (.tuple #[]) ∧ McAt w' p { m with fin := 3 } ∧ Chg [p] w w' := by
  obtain ⟨W0, xb, hW0, hxb, hB0, hx0⟩ := InBox.new w x
  have hm0 := hm.below hB0
  have hr0 := hr.below hB0
  have hxp : xb ≠ p := by have := hm.lt; omega
  have hxr : xb ≠ rb := by have := hr.lt; omega
  have x0 := hx0.c0
  have hn2 : (n : Int) ≤ 100000 := by omega
  have x1 := hx0.c1
  have x2 := hx0.c2
  have x3 := hx0.c3
  have x4 := hx0.c4
  have x5 := hx0.c5
  have x6 := hx0.c6
  have x7 := hx0.c7
  have HI := Lib.hid (index_no W0 p rb n m l x gs gi wb kk (hx.below hB0) hl hix)
  have HBB := Lib.hid hB0
  rw [h0] at x0
  unfold MIn.val at *
  rw [h0] at HI hW0 ⊢
  clear hm hr hm0 hr0 hB0 hx0 hl hx hix
  go_enter Try.func30, Try.ntmps30
  go_wp2_with fail
  (refine HI.out.mono ?_)
  rintro e w2 ⟨rfl, hq, hc⟩
  have HQ := Lib.hid (And.intro hq ((Chg.of_below (l := [p]) HBB.out).trans hc))
  clear hq hc
  go_wp2_with fail
  exact bodyPost_end (results_none rfl _ _ _) rfl ⟨rfl, HQ.out.1, HQ.out.2⟩
set_option maxHeartbeats 3200000 in
theorem ins_6no (w : World) (p rb n : Nat) (m : Mc) (l : List Int) (x : MIn) (gs : List MGl) (gi wb kk : Nat) (hm : McAt w p m) (hr : RegAt w rb l) (hl : l.length = n) (hn : n ≤ 100000) (hpr : rb ≠ p) (h0 : x.kind = 6) (hx : WordAt w p rb m l x gs gi wb kk) (hix : ixOf x l < 0 ∨ (kk : Int) ≤ ixOf x l) :
    Calls Try.prog 30 #[.pointer (some ⟨p, 0, none⟩), .slice (some ⟨rb, 0, none⟩) n n, x.val] w fun e w' => e = .returned (.tuple #[]) ∧ McAt w' p { m with fin := 3 } ∧ Chg [p] w w' := by
  obtain ⟨W0, xb, hW0, hxb, hB0, hx0⟩ := InBox.new w x
  have hm0 := hm.below hB0
  have hr0 := hr.below hB0
  have hxp : xb ≠ p := by have := hm.lt; omega
  have hxr : xb ≠ rb := by have := hr.lt; omega
  have x0 := hx0.c0
  have hn2 : (n : Int) ≤ 100000 := by omega
  have x1 := hx0.c1
  have x2 := hx0.c2
  have x3 := hx0.c3
  have x4 := hx0.c4
  have x5 := hx0.c5
  have x6 := hx0.c6
  have x7 := hx0.c7
  have HI := Lib.hid (index_no W0 p rb n m l x gs gi wb kk (hx.below hB0) hl hix)
  have HBB := Lib.hid hB0
  rw [h0] at x0
  unfold MIn.val at *
  rw [h0] at HI hW0 ⊢
  clear hm hr hm0 hr0 hB0 hx0 hl hx hix
  go_enter Try.func30, Try.ntmps30
  go_wp2_with fail
  (refine HI.out.mono ?_)
  rintro e w2 ⟨rfl, hq, hc⟩
  have HQ := Lib.hid (And.intro hq ((Chg.of_below (l := [p]) HBB.out).trans hc))
  clear hq hc
  go_wp2_with fail
  exact bodyPost_end (results_none rfl _ _ _) rfl ⟨rfl, HQ.out.1, HQ.out.2⟩
set_option maxHeartbeats 3200000 in
theorem ins_5 (w : World) (p rb n : Nat) (m : Mc) (l : List Int) (x : MIn) (gs : List MGl) (gi wb kk : Nat) (ls : List Int) (k q : Nat) (hm : McAt w p m) (hr : RegAt w rb l) (hl : l.length = n) (hn : n ≤ 100000) (hpr : rb ≠ p) (h0 : x.kind = 5) (hx : WordAt w p rb m l x gs gi wb kk) (hls : RegAt w wb ls) (hlk : ls.length = kk) (hq : ixOf x l = (q : Int)) (hqk : q < kk) (hd : x.d = (k : Int)) (hk : k < n) (hwr : wb ≠ rb) (hwd : ∀ db dof, m.DA = some ⟨db, dof, none⟩ → db ≠ rb) :
    Calls Try.prog 30 #[.pointer (some ⟨p, 0, none⟩), .slice (some ⟨rb, 0, none⟩) n n, x.val] w fun e w' => e = .returned (.tuple #[]) ∧ RegAt w' rb (l.set k (ls.getD q 0)) ∧ Chg [rb] w w' := by
  obtain ⟨W0, xb, hW0, hxb, hB0, hx0⟩ := InBox.new w x
  have hm0 := hm.below hB0
  have hr0 := hr.below hB0
  have hxp : xb ≠ p := by have := hm.lt; omega
  have hxr : xb ≠ rb := by have := hr.lt; omega
  have x0 := hx0.c0
  have hn2 : (n : Int) ≤ 100000 := by omega
  have kZ : (0 : Int) ≤ (k : Int) := by omega
  have kN : (k : Int) < (n : Int) := by omega
  have q0 : (0 : Int) ≤ (q : Int) := by omega
  have qk : (q : Int) < (kk : Int) := by omega
  have kk2 : (kk : Int) ≤ 100000 := by have := hx.k; omega
  have hgl : (gi : Int) < (m.dn : Int) := by have := hx.lt; omega
  have hg0 : (0 : Int) ≤ (gi : Int) := by omega
  have hdn : (m.dn : Int) ≤ 100000 := by have := hx.dn; omega
  obtain ⟨db, dof, hDA, hdb, hdc⟩ := hx.data
  have hdr := hwd db dof hDA
  have hxw : xb ≠ wb := by have := hls.lt; omega
  have x1 := hx0.c1
  have x2 := hx0.c2
  have x3 := hx0.c3
  have x4 := hx0.c4
  have x5 := hx0.c5
  have x6 := hx0.c6
  have x7 := hx0.c7
  have hix := index_yes W0 p rb n m l x gs gi wb kk (hx.below hB0) hl (by rw [hq]; omega)
  rw [hq] at hix
  have HI := Lib.hid hix
  obtain ⟨L, hL⟩ : ∃ L, [rb] = L := ⟨_, rfl⟩
  have HF : Hid (∀ V, Chg L W0 V → V.cell? ⟨xb, 2, none⟩ = some (.int .i64 (k : Int)) ∧ V.cell? ⟨p, 2, none⟩ = some (.slice (some ⟨db, dof, none⟩) m.dn m.dc) ∧ V.cell? ⟨db, dof + gi, none⟩ = some (.slice (some ⟨wb, 0, none⟩) kk kk) ∧ V.cell? ⟨wb, q, none⟩ = some (.int .i32 (ls.getD q 0))) := Lib.hid (fun V hV => by
    have h2 := hx0.c2
    rw [hd] at h2
    have m2 := hm0.c2
    rw [hDA] at m2
    subst hL
    exact ⟨hV.read xb 2 (by simpa using hxr) h2, hV.read p 2 (by simpa using hpr.symm) m2, hV.read db (dof + gi) (by simpa using hdr) ((hB0.cell (p := ⟨db, dof + gi, none⟩) hdb).trans hdc), hV.read wb q (by simpa using hwr) ((hls.below hB0).cell q (by omega))⟩)
  have HBB := Lib.hid hB0
  have HRG := Lib.hid (And.intro (hr0) hL)
  have HKL := Lib.hid (show k < l.length by omega)
  rw [h0] at x0
  unfold MIn.val at *
  rw [h0, hd] at HI hW0 ⊢
  generalize hz : ls.getD q 0 = z9 at *
  clear hm hr hm0 hr0 hB0 hx0 hl hx hix hq hls hdc hdb hDA hL hwd hz
  go_enter Try.func30, Try.ntmps30
  go_wp2_with fail
  (refine HI.out.mono ?_)
  rintro e w2 ⟨rfl, hb2⟩
  have HR2 := Lib.hid (HRG.out.1.below hb2)
  have HC2 : Hid (Chg L W0 w2) := Lib.hid (Chg.of_below hb2)
  clear hb2
  go_upto_region 17 with fail
  refine wp_region_held_drew (S := fun V => Chg L W0 V) (by kernel_rfl) HC2.out.drew (fun _ => ?_)
  have hS0 : Chg L W0 w2.drew := HC2.out.drew
  refine takeH 0 99 (v := (.slice (some ⟨rb, 0, none⟩) n n)) rfl rfl (by kernel_rfl) (by kernel_rfl) (by kernel_rfl) (fun _ _ _ h => h) (by rfl) ?_ hS0 ?_
  · intro w hSw
    obtain ⟨y1, y2, y3, y4⟩ := HF.out w hSw
    go_simp
  try simp only [Act.put, List.setIfInBounds_toArray, List.set_cons_zero, List.set_cons_succ]
  refine takeH 1 100 (v := (.pointer (some ⟨xb, 2, none⟩))) rfl rfl (by kernel_rfl) (by kernel_rfl) (by kernel_rfl) (fun _ _ _ h => h) (by rfl) ?_ hS0 ?_
  · intro w hSw
    obtain ⟨y1, y2, y3, y4⟩ := HF.out w hSw
    go_simp
  try simp only [Act.put, List.setIfInBounds_toArray, List.set_cons_zero, List.set_cons_succ]
  refine takeH 2 101 (v := (.int .i64 (k : Int))) rfl rfl (by kernel_rfl) (by kernel_rfl) (by kernel_rfl) (fun _ _ _ h => h) (by rfl) ?_ hS0 ?_
  · intro w hSw
    obtain ⟨y1, y2, y3, y4⟩ := HF.out w hSw
    go_simp
  try simp only [Act.put, List.setIfInBounds_toArray, List.set_cons_zero, List.set_cons_succ]
  refine takeH 3 102 (v := (.pointer (some ⟨p, 0, none⟩))) rfl rfl (by kernel_rfl) (by kernel_rfl) (by kernel_rfl) (fun _ _ _ h => h) (by rfl) ?_ hS0 ?_
  · intro w hSw
    obtain ⟨y1, y2, y3, y4⟩ := HF.out w hSw
    go_simp
  try simp only [Act.put, List.setIfInBounds_toArray, List.set_cons_zero, List.set_cons_succ]
  refine takeH 4 103 (v := (.pointer (some ⟨p, 0, none⟩))) rfl rfl (by kernel_rfl) (by kernel_rfl) (by kernel_rfl) (fun _ _ _ h => h) (by rfl) ?_ hS0 ?_
  · intro w hSw
    obtain ⟨y1, y2, y3, y4⟩ := HF.out w hSw
    go_simp
  try simp only [Act.put, List.setIfInBounds_toArray, List.set_cons_zero, List.set_cons_succ]
  refine takeH 5 104 (v := (.pointer (some ⟨p, 2, none⟩))) rfl rfl (by kernel_rfl) (by kernel_rfl) (by kernel_rfl) (fun _ _ _ h => h) (by rfl) ?_ hS0 ?_
  · intro w hSw
    obtain ⟨y1, y2, y3, y4⟩ := HF.out w hSw
    go_simp
  try simp only [Act.put, List.setIfInBounds_toArray, List.set_cons_zero, List.set_cons_succ]
  refine takeH 6 105 (v := (.slice (some ⟨db, dof, none⟩) m.dn m.dc)) rfl rfl (by kernel_rfl) (by kernel_rfl) (by kernel_rfl) (fun _ _ _ h => h) (by rfl) ?_ hS0 ?_
  · intro w hSw
    obtain ⟨y1, y2, y3, y4⟩ := HF.out w hSw
    go_simp
  try simp only [Act.put, List.setIfInBounds_toArray, List.set_cons_zero, List.set_cons_succ]
  refine takeH 7 106 (v := (.int .i64 (gi : Int))) rfl rfl (by kernel_rfl) (by kernel_rfl) (by kernel_rfl) (fun _ _ _ h => h) (by rfl) ?_ hS0 ?_
  · intro w hSw
    obtain ⟨y1, y2, y3, y4⟩ := HF.out w hSw
    go_simp
  try simp only [Act.put, List.setIfInBounds_toArray, List.set_cons_zero, List.set_cons_succ]
  refine takeH 8 107 (v := (.pointer (some ⟨db, dof + gi, none⟩))) rfl rfl (by kernel_rfl) (by kernel_rfl) (by kernel_rfl) (fun _ _ _ h => h) (by rfl) ?_ hS0 ?_
  · intro w hSw
    obtain ⟨y1, y2, y3, y4⟩ := HF.out w hSw
    go_simp
  try simp only [Act.put, List.setIfInBounds_toArray, List.set_cons_zero, List.set_cons_succ]
  refine takeH 9 108 (v := (.slice (some ⟨wb, 0, none⟩) kk kk)) rfl rfl (by kernel_rfl) (by kernel_rfl) (by kernel_rfl) (fun _ _ _ h => h) (by rfl) ?_ hS0 ?_
  · intro w hSw
    obtain ⟨y1, y2, y3, y4⟩ := HF.out w hSw
    go_simp
  try simp only [Act.put, List.setIfInBounds_toArray, List.set_cons_zero, List.set_cons_succ]
  refine takeH 10 109 (v := (.int .i64 (q : Int))) rfl rfl (by kernel_rfl) (by kernel_rfl) (by kernel_rfl) (fun _ _ _ h => h) (by rfl) ?_ hS0 ?_
  · intro w hSw
    obtain ⟨y1, y2, y3, y4⟩ := HF.out w hSw
    go_simp
  try simp only [Act.put, List.setIfInBounds_toArray, List.set_cons_zero, List.set_cons_succ]
  refine takeH 11 110 (v := (.pointer (some ⟨wb, q, none⟩))) rfl rfl (by kernel_rfl) (by kernel_rfl) (by kernel_rfl) (fun _ _ _ h => h) (by rfl) ?_ hS0 ?_
  · intro w hSw
    obtain ⟨y1, y2, y3, y4⟩ := HF.out w hSw
    go_simp
  try simp only [Act.put, List.setIfInBounds_toArray, List.set_cons_zero, List.set_cons_succ]
  refine takeH 12 111 (v := (.int .i32 z9)) rfl rfl (by kernel_rfl) (by kernel_rfl) (by kernel_rfl) (fun _ _ _ h => h) (by rfl) ?_ hS0 ?_
  · intro w hSw
    obtain ⟨y1, y2, y3, y4⟩ := HF.out w hSw
    go_simp
  try simp only [Act.put, List.setIfInBounds_toArray, List.set_cons_zero, List.set_cons_succ]
  refine takeH 13 112 (v := (.pointer (some ⟨rb, k, none⟩))) rfl rfl (by kernel_rfl) (by kernel_rfl) (by kernel_rfl) (fun _ _ _ h => h) (by rfl) ?_ hS0 ?_
  · intro w hSw
    obtain ⟨y1, y2, y3, y4⟩ := HF.out w hSw
    go_simp
  try simp only [Act.put, List.setIfInBounds_toArray, List.set_cons_zero, List.set_cons_succ]
  refine wpAnyH_ready (rs := [14]) (by kernel_rfl) (by simp) ?_
  refine AllReadyH.cons rfl (fun K hK => ?_) AllReadyH.nil
  have r1 := HR2.out.cell k HKL.out
  have f1 := HR2.out.free k
  have HC3 : Hid (RegAt (w2.drew.setCell ⟨rb, k, none⟩ (.int .i32 z9)) rb (l.set k z9) ∧ Chg L W0 (w2.drew.setCell ⟨rb, k, none⟩ (.int .i32 z9)) ∧ Chg [rb] w (w2.drew.setCell ⟨rb, k, none⟩ (.int .i32 z9))) := Lib.hid ⟨(show RegAt w2.drew rb _ from HR2.out).put k z9, HC2.out.drew.setCell rb k _ (.inl (by rw [← HRG.out.2]; simp)), (Chg.of_below HBB.out).trans ((by rw [HRG.out.2]; exact HC2.out : Chg [rb] W0 w2).drew.setCell rb k _ (.inl (by simp)))⟩
  generalize l.getD k 0 = v0 at *
  go_simp
  refine hK.out _ _ HC3.out.2.1 (fun _ => ?_)
  clear hK K
  try simp only [Act.put, List.setIfInBounds_toArray, List.set_cons_zero, List.set_cons_succ]
  refine wpAnyH_done (by kernel_rfl) ?_ _
  go_wp2_with fail
  exact bodyPost_end (results_none rfl _ _ _) rfl ⟨rfl, HC3.out.1, HC3.out.2.2⟩
set_option maxHeartbeats 3200000 in
theorem ins_6 (w : World) (p rb n : Nat) (m : Mc) (l : List Int) (x : MIn) (gs : List MGl) (gi wb kk : Nat) (ls : List Int) (i q : Nat) (hm : McAt w p m) (hr : RegAt w rb l) (hl : l.length = n) (hn : n ≤ 100000) (hpr : rb ≠ p) (h0 : x.kind = 6) (hx : WordAt w p rb m l x gs gi wb kk) (hls : RegAt w wb ls) (hlk : ls.length = kk) (hq : ixOf x l = (q : Int)) (hqk : q < kk) (hb : x.b = (i : Int)) (hi : i < n) (hwr : rb ≠ wb) (hwp : wb ≠ p) (hwd : ∀ db dof, m.DA = some ⟨db, dof, none⟩ → db ≠ wb) :
    Calls Try.prog 30 #[.pointer (some ⟨p, 0, none⟩), .slice (some ⟨rb, 0, none⟩) n n, x.val] w fun e w' => e = .returned (.tuple #[]) ∧ RegAt w' wb (ls.set q (l.getD i 0)) ∧ Chg [wb] w w' := by
  obtain ⟨W0, xb, hW0, hxb, hB0, hx0⟩ := InBox.new w x
  have hm0 := hm.below hB0
  have hr0 := hr.below hB0
  have hxp : xb ≠ p := by have := hm.lt; omega
  have hxr : xb ≠ rb := by have := hr.lt; omega
  have x0 := hx0.c0
  have hn2 : (n : Int) ≤ 100000 := by omega
  have iZ : (0 : Int) ≤ (i : Int) := by omega
  have iN : (i : Int) < (n : Int) := by omega
  have q0 : (0 : Int) ≤ (q : Int) := by omega
  have qk : (q : Int) < (kk : Int) := by omega
  have kk2 : (kk : Int) ≤ 100000 := by have := hx.k; omega
  have hgl : (gi : Int) < (m.dn : Int) := by have := hx.lt; omega
  have hg0 : (0 : Int) ≤ (gi : Int) := by omega
  have hdn : (m.dn : Int) ≤ 100000 := by have := hx.dn; omega
  obtain ⟨db, dof, hDA, hdb, hdc⟩ := hx.data
  have hdr := hwd db dof hDA
  have hxw : xb ≠ wb := by have := hls.lt; omega
  have x1 := hx0.c1
  have x2 := hx0.c2
  have x3 := hx0.c3
  have x4 := hx0.c4
  have x5 := hx0.c5
  have x6 := hx0.c6
  have x7 := hx0.c7
  have hix := index_yes W0 p rb n m l x gs gi wb kk (hx.below hB0) hl (by rw [hq]; omega)
  rw [hq] at hix
  have HI := Lib.hid hix
  obtain ⟨L, hL⟩ : ∃ L, [wb] = L := ⟨_, rfl⟩
  have HF : Hid (∀ V, Chg L W0 V → V.cell? ⟨xb, 4, none⟩ = some (.int .i64 (i : Int)) ∧ V.cell? ⟨p, 2, none⟩ = some (.slice (some ⟨db, dof, none⟩) m.dn m.dc) ∧ V.cell? ⟨db, dof + gi, none⟩ = some (.slice (some ⟨wb, 0, none⟩) kk kk) ∧ V.cell? ⟨rb, i, none⟩ = some (.int .i32 (l.getD i 0))) := Lib.hid (fun V hV => by
    have h2 := hx0.c4
    rw [hb] at h2
    have m2 := hm0.c2
    rw [hDA] at m2
    subst hL
    exact ⟨hV.read xb 4 (by simpa using hxw) h2, hV.read p 2 (by simpa using hwp.symm) m2, hV.read db (dof + gi) (by simpa using hdr) ((hB0.cell (p := ⟨db, dof + gi, none⟩) hdb).trans hdc), hV.read rb i (by simpa using hwr) (hr0.cell i (by omega))⟩)
  have HBB := Lib.hid hB0
  have HRG := Lib.hid (And.intro (hls.below hB0) hL)
  have HKL := Lib.hid (show q < ls.length by omega)
  rw [h0] at x0
  unfold MIn.val at *
  rw [h0, hb] at HI hW0 ⊢
  generalize hz : l.getD i 0 = z9 at *
  clear hm hr hm0 hr0 hB0 hx0 hl hx hix hq hls hdc hdb hDA hL hwd hz
  go_enter Try.func30, Try.ntmps30
  go_wp2_with fail
  (refine HI.out.mono ?_)
  rintro e w2 ⟨rfl, hb2⟩
  have HR2 := Lib.hid (HRG.out.1.below hb2)
  have HC2 : Hid (Chg L W0 w2) := Lib.hid (Chg.of_below hb2)
  clear hb2
  go_upto_region 21 with fail
  refine wp_region_held_drew (S := fun V => Chg L W0 V) (by kernel_rfl) HC2.out.drew (fun _ => ?_)
  have hS0 : Chg L W0 w2.drew := HC2.out.drew
  refine takeH 0 124 (v := (.pointer (some ⟨p, 0, none⟩))) rfl rfl (by kernel_rfl) (by kernel_rfl) (by kernel_rfl) (fun _ _ _ h => h) (by rfl) ?_ hS0 ?_
  · intro w hSw
    obtain ⟨y1, y2, y3, y4⟩ := HF.out w hSw
    go_simp
  try simp only [Act.put, List.setIfInBounds_toArray, List.set_cons_zero, List.set_cons_succ]
  refine takeH 1 125 (v := (.pointer (some ⟨p, 0, none⟩))) rfl rfl (by kernel_rfl) (by kernel_rfl) (by kernel_rfl) (fun _ _ _ h => h) (by rfl) ?_ hS0 ?_
  · intro w hSw
    obtain ⟨y1, y2, y3, y4⟩ := HF.out w hSw
    go_simp
  try simp only [Act.put, List.setIfInBounds_toArray, List.set_cons_zero, List.set_cons_succ]
  refine takeH 2 126 (v := (.pointer (some ⟨p, 2, none⟩))) rfl rfl (by kernel_rfl) (by kernel_rfl) (by kernel_rfl) (fun _ _ _ h => h) (by rfl) ?_ hS0 ?_
  · intro w hSw
    obtain ⟨y1, y2, y3, y4⟩ := HF.out w hSw
    go_simp
  try simp only [Act.put, List.setIfInBounds_toArray, List.set_cons_zero, List.set_cons_succ]
  refine takeH 3 127 (v := (.slice (some ⟨db, dof, none⟩) m.dn m.dc)) rfl rfl (by kernel_rfl) (by kernel_rfl) (by kernel_rfl) (fun _ _ _ h => h) (by rfl) ?_ hS0 ?_
  · intro w hSw
    obtain ⟨y1, y2, y3, y4⟩ := HF.out w hSw
    go_simp
  try simp only [Act.put, List.setIfInBounds_toArray, List.set_cons_zero, List.set_cons_succ]
  refine takeH 4 128 (v := (.int .i64 (gi : Int))) rfl rfl (by kernel_rfl) (by kernel_rfl) (by kernel_rfl) (fun _ _ _ h => h) (by rfl) ?_ hS0 ?_
  · intro w hSw
    obtain ⟨y1, y2, y3, y4⟩ := HF.out w hSw
    go_simp
  try simp only [Act.put, List.setIfInBounds_toArray, List.set_cons_zero, List.set_cons_succ]
  refine takeH 5 129 (v := (.pointer (some ⟨db, dof + gi, none⟩))) rfl rfl (by kernel_rfl) (by kernel_rfl) (by kernel_rfl) (fun _ _ _ h => h) (by rfl) ?_ hS0 ?_
  · intro w hSw
    obtain ⟨y1, y2, y3, y4⟩ := HF.out w hSw
    go_simp
  try simp only [Act.put, List.setIfInBounds_toArray, List.set_cons_zero, List.set_cons_succ]
  refine takeH 6 130 (v := (.slice (some ⟨wb, 0, none⟩) kk kk)) rfl rfl (by kernel_rfl) (by kernel_rfl) (by kernel_rfl) (fun _ _ _ h => h) (by rfl) ?_ hS0 ?_
  · intro w hSw
    obtain ⟨y1, y2, y3, y4⟩ := HF.out w hSw
    go_simp
  try simp only [Act.put, List.setIfInBounds_toArray, List.set_cons_zero, List.set_cons_succ]
  refine takeH 7 131 (v := (.int .i64 (q : Int))) rfl rfl (by kernel_rfl) (by kernel_rfl) (by kernel_rfl) (fun _ _ _ h => h) (by rfl) ?_ hS0 ?_
  · intro w hSw
    obtain ⟨y1, y2, y3, y4⟩ := HF.out w hSw
    go_simp
  try simp only [Act.put, List.setIfInBounds_toArray, List.set_cons_zero, List.set_cons_succ]
  refine takeH 8 132 (v := (.slice (some ⟨rb, 0, none⟩) n n)) rfl rfl (by kernel_rfl) (by kernel_rfl) (by kernel_rfl) (fun _ _ _ h => h) (by rfl) ?_ hS0 ?_
  · intro w hSw
    obtain ⟨y1, y2, y3, y4⟩ := HF.out w hSw
    go_simp
  try simp only [Act.put, List.setIfInBounds_toArray, List.set_cons_zero, List.set_cons_succ]
  refine takeH 9 133 (v := (.pointer (some ⟨xb, 4, none⟩))) rfl rfl (by kernel_rfl) (by kernel_rfl) (by kernel_rfl) (fun _ _ _ h => h) (by rfl) ?_ hS0 ?_
  · intro w hSw
    obtain ⟨y1, y2, y3, y4⟩ := HF.out w hSw
    go_simp
  try simp only [Act.put, List.setIfInBounds_toArray, List.set_cons_zero, List.set_cons_succ]
  refine takeH 10 134 (v := (.int .i64 (i : Int))) rfl rfl (by kernel_rfl) (by kernel_rfl) (by kernel_rfl) (fun _ _ _ h => h) (by rfl) ?_ hS0 ?_
  · intro w hSw
    obtain ⟨y1, y2, y3, y4⟩ := HF.out w hSw
    go_simp
  try simp only [Act.put, List.setIfInBounds_toArray, List.set_cons_zero, List.set_cons_succ]
  refine takeH 11 135 (v := (.pointer (some ⟨rb, i, none⟩))) rfl rfl (by kernel_rfl) (by kernel_rfl) (by kernel_rfl) (fun _ _ _ h => h) (by rfl) ?_ hS0 ?_
  · intro w hSw
    obtain ⟨y1, y2, y3, y4⟩ := HF.out w hSw
    go_simp
  try simp only [Act.put, List.setIfInBounds_toArray, List.set_cons_zero, List.set_cons_succ]
  refine takeH 12 136 (v := (.int .i32 z9)) rfl rfl (by kernel_rfl) (by kernel_rfl) (by kernel_rfl) (fun _ _ _ h => h) (by rfl) ?_ hS0 ?_
  · intro w hSw
    obtain ⟨y1, y2, y3, y4⟩ := HF.out w hSw
    go_simp
  try simp only [Act.put, List.setIfInBounds_toArray, List.set_cons_zero, List.set_cons_succ]
  refine takeH 13 137 (v := (.pointer (some ⟨wb, q, none⟩))) rfl rfl (by kernel_rfl) (by kernel_rfl) (by kernel_rfl) (fun _ _ _ h => h) (by rfl) ?_ hS0 ?_
  · intro w hSw
    obtain ⟨y1, y2, y3, y4⟩ := HF.out w hSw
    go_simp
  try simp only [Act.put, List.setIfInBounds_toArray, List.set_cons_zero, List.set_cons_succ]
  refine wpAnyH_ready (rs := [14]) (by kernel_rfl) (by simp) ?_
  refine AllReadyH.cons rfl (fun K hK => ?_) AllReadyH.nil
  have r1 := HR2.out.cell q HKL.out
  have f1 := HR2.out.free q
  have HC3 : Hid (RegAt (w2.drew.setCell ⟨wb, q, none⟩ (.int .i32 z9)) wb (ls.set q z9) ∧ Chg L W0 (w2.drew.setCell ⟨wb, q, none⟩ (.int .i32 z9)) ∧ Chg [wb] w (w2.drew.setCell ⟨wb, q, none⟩ (.int .i32 z9))) := Lib.hid ⟨(show RegAt w2.drew wb _ from HR2.out).put q z9, HC2.out.drew.setCell wb q _ (.inl (by rw [← HRG.out.2]; simp)), (Chg.of_below HBB.out).trans ((by rw [HRG.out.2]; exact HC2.out : Chg [wb] W0 w2).drew.setCell wb q _ (.inl (by simp)))⟩
  generalize ls.getD q 0 = v0 at *
  go_simp
  refine hK.out _ _ HC3.out.2.1 (fun _ => ?_)
  clear hK K
  try simp only [Act.put, List.setIfInBounds_toArray, List.set_cons_zero, List.set_cons_succ]
  refine wpAnyH_done (by kernel_rfl) ?_ _
  go_wp2_with fail
  exact bodyPost_end (results_none rfl _ _ _) rfl ⟨rfl, HC3.out.1, HC3.out.2.2⟩
end Go.Proofs.Ytcanjkjpdnbcnaa
