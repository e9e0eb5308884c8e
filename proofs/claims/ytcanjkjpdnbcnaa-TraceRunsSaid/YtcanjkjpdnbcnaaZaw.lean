/-
  What blocks do: a step of a state that may be goes to one that may be.
  The runner in memory: a register, a call more, a call less, a word more told.
  The runner in memory: a call less, a word more told, how a run ends.
  An instruction of the innermost call: what the runner does is what blocks do.
  The end of a block: what the runner does is what blocks do.
  A step of the runner: what it does is what blocks do.
  The runner's deferred function: how the run ended is told.
  A program's functions and words are made ready.
  Run: what a program does.
-/
import Derived.Test.YtcanjkjpdnbcnaaZav
import Derived.Defers
import Derived.Recover
namespace Go.Proofs.Ytcanjkjpdnbcnaa
open Go.RowKit
set_option linter.unusedVariables false
set_option linter.unusedSimpArgs false
set_option maxRecDepth 100000

theorem I32.shift {a : Int} (ha : I32 a) (k : Nat) : I32 (a / 2 ^ k) := by
  have hd : (0 : Int) < 2 ^ k := Int.pow_pos (by omega)
  obtain ⟨d, hd2⟩ : ∃ d : Int, (2 : Int) ^ k = d := ⟨_, rfl⟩
  rw [hd2] at hd ⊢
  unfold I32 at ha ⊢
  have h1 : a / d < 2147483648 := (Int.ediv_lt_iff_lt_mul hd).2 (by omega)
  have h2 : -2147483648 ≤ a / d := (Int.le_ediv_iff_mul_le hd).2 (by omega)
  omega
theorem I32.tmod {a b : Int} (ha : I32 a) : I32 (a.tmod b) := by
  have h1 : (a.tmod b).natAbs = a.natAbs % b.natAbs := Int.natAbs_tmod a b
  have h2 : a.natAbs % b.natAbs ≤ a.natAbs := Nat.mod_le _ _
  have h3 : 0 ≤ a → 0 ≤ a.tmod b := fun h => Int.tmod_nonneg b h
  unfold I32 at ha ⊢
  rcases Int.lt_or_le a 0 with h | h
  · have h4 : a.tmod b ≤ 0 := by
      have := Int.tmod_nonneg b (show 0 ≤ -a by omega)
      rw [Int.neg_tmod] at this
      omega
    omega
  · have := h3 h
    omega
theorem I32.bits (op : BinOp) (a b : Int) : I32 (bits op .i32 a b) := bounds_i32 (wf_bits op .i32 a b)
theorem I32.ite {c : Prop} [Decidable c] {a b : Int} (ha : I32 a) (hb : I32 b) : I32 (if c then a else b) := by split <;> assumption
theorem binV_i32 {op a b : Int} (ha : I32 a) (hb : I32 b) : I32 (WordBins.binV op a b).1 := by
  unfold WordBins.binV
  simp only [apply_ite Prod.fst]
  repeat' first | with_reducible refine I32.ite ?_ ?_ | exact I32.wrap _ | exact I32.zero | exact I32.tmod ha | exact I32.shift ha _ | exact I32.bits _ _ _ | exact I32.truth _
theorem unV_i32 (op a : Int) : I32 (unV op a) := by
  unfold unV
  repeat' split
  all_goals first | exact I32.wrap _ | exact I32.truth _ | exact I32.bits _ _ _
section
variable {F : ByteArray → Option MFn} {G : ByteArray → Prop} {inp : List Int}
theorem CallOk.set {c : PC} (h : CallOk F G c) (r : Int) {v : Int} (hv : I32 v) : CallOk F G (c.set r v) :=
  ⟨h.fn, by show ((c.regs.set _ _).length : Int) = _; rw [List.length_set]; exact h.regs, I32.set h.vals _ hv, h.block, h.done⟩
theorem CallOk.get {c : PC} (h : CallOk F G c) (r : Int) : I32 (c.get r) := I32.getD h.vals _
theorem CallsOk.top {c c' : PC} {cs : List PC} (h : CallsOk F G (c :: cs)) (h' : CallOk F G c') (hd : c'.d = c.d) : CallsOk F G (c' :: cs) := ⟨h', fun c2 h2 => by rw [hd]; exact h.2.1 c2 h2, h.2.2⟩
theorem Good.top {s : PS} {c c' : PC} {cs : List PC} (h : Good F G inp s) (hcs : s.calls = c :: cs) (h' : CallOk F G c') (hd : c'.d = c.d) : Good F G inp (s.top c' cs) := by
  have hc := h.calls
  have hf := h.few
  rw [hcs] at hc hf
  exact ⟨hc.top h' hd, by simp [PS.top], hf, h.words, h.tr, h.trv, h.reads⟩
/-- What a step leaves as it was. -/
def PO.Next (s : PS) : PO → Prop
  | .go s' => s'.steps = s.steps ∧ ∃ l, s'.tr = s.tr ++ l
  | .fin k v s' => s'.steps = s.steps ∧ s'.tr = s.tr ∧ s'.reads = s.reads ∧ 1 ≤ k ∧ k ≤ 4
/-- What a step comes to, of a state that may be. -/
def PO.GoodN (F : ByteArray → Option MFn) (G : ByteArray → Prop) (inp : List Int) (s : PS) (o : PO) : Prop := PO.Next s o ∧ ∀ s', o = .go s' → Good F G inp s'
theorem PO.GoodN.go {s s' : PS} (h1 : s'.steps = s.steps) {l : List Int} (h2 : s'.tr = s.tr ++ l) (h3 : Good F G inp s') : PO.GoodN F G inp s (.go s') := ⟨⟨h1, l, h2⟩, fun s2 e => by cases e; exact h3⟩
theorem PO.GoodN.same {s s' : PS} (h1 : s'.steps = s.steps) (h2 : s'.tr = s.tr) (h3 : Good F G inp s') : PO.GoodN F G inp s (.go s') := ⟨⟨h1, [], by rw [h2, List.append_nil]⟩, fun s2 e => by cases e; exact h3⟩
theorem PO.GoodN.fin {s s' : PS} {k v : Int} (h1 : s'.steps = s.steps) (h2 : s'.tr = s.tr) (h3 : s'.reads = s.reads) (h4 : 1 ≤ k ∧ k ≤ 4) : PO.GoodN F G inp s (.fin k v s') := ⟨⟨h1, h2, h3, h4⟩, fun s2 e => by cases e⟩
theorem enterP_good (hF : ∀ x f, F x = some f → FnOk F G f) {s : PS} {c : PC} {cs : List PC} (hcs : s.calls = c :: cs) (hg : Good F G inp s) (x : ByteArray) (d : Int) (args : List Int) (f : MFn) (hf : F x = some f) (hp : f.params = (args.length : Int)) (ha : ∀ v ∈ args, I32 v) (hd : (0 ≤ d ∧ d < (c.regs.length : Int)) ∨ d = -1) :
    PO.GoodN F G inp s (enterP F s x d args) := by
  unfold enterP
  by_cases h32 : s.calls.length = 32
  · rw [if_pos h32]
    exact .fin rfl rfl rfl (by omega)
  · rw [if_neg h32, hf]
    have hok := hF x f hf
    have h1 := hok.regs
    have h2 := hok.params
    refine .same rfl rfl ⟨⟨⟨hok, ?_, ?_, ?_, fun b _ => Nat.zero_le _⟩, fun c2 h2 => ?_, hg.calls⟩, by simp, ?_, hg.words, hg.tr, hg.trv, hg.reads⟩
    · show ((args ++ List.replicate (f.regs.toNat - args.length) 0).length : Int) = f.regs
      rw [List.length_append, List.length_replicate]
      omega
    · intro v hv
      rcases List.mem_append.1 hv with h | h
      · exact ha v h
      · rw [(List.mem_replicate.1 h).2]; exact I32.zero
    · have : f.blocks.length ≠ 0 := fun e => hok.some (List.length_eq_zero_iff.1 e)
      exact ⟨Int.le_refl _, by show (0 : Int) < (f.blocks.length : Int); omega⟩
    · rw [hcs] at h2
      cases h2
      rcases hd with h | h
      · exact .inr h
      · exact .inl h
    · have := hg.few
      show s.calls.length + 1 ≤ 32
      omega
theorem insP_good (hF : ∀ x f, F x = some f → FnOk F G f) (hI : ∀ v ∈ inp, I32 v) {s : PS} {c : PC} {cs : List PC} (hcs : s.calls = c :: cs) (hg : Good F G inp s) (htr : s.tr.length < s.steps) {x : MIn} (hx : InOk F G x c.f.regs) :
    PO.GoodN F G inp s (insP F inp s c cs x) := by
  have hc : CallOk F G c := by have := hg.calls; rw [hcs] at this; exact this.1
  have hset : ∀ (r : Int) {v : Int}, I32 v → PO.GoodN F G inp s (.go (s.top (c.set r v) cs)) := fun r v hv => .same rfl rfl (hg.top hcs (hc.set r hv) rfl)
  have hm := hx.may
  have hk := mayI_kind hm
  unfold insP
  split
  · exact hset _ hx.num
  split
  · exact hset _ (hc.get _)
  split
  · exact hset _ (unV_i32 _ _)
  split
  · split
    · exact hset _ (binV_i32 (hc.get _) (hc.get _))
    · exact .fin rfl rfl rfl (by omega)
  split
  · next h5 =>
    split
    · exact .fin rfl rfl rfl (by omega)
    · exact hset _ (I32.getD (hg.words _ (hx.glob (.inl h5))).2.2 _)
  split
  · next h6 =>
    split
    · exact .fin rfl rfl rfl (by omega)
    · refine .same rfl rfl ⟨hg.calls, hg.some, hg.few, fun y hy => ?_, hg.tr, hg.trv, hg.reads⟩
      show 1 ≤ (setWd _ _ _ y).length ∧ (setWd _ _ _ y).length ≤ 4096 ∧ ∀ v ∈ setWd _ _ _ y, I32 v
      unfold setWd
      split
      · next e =>
        have := hg.words x.name (hx.glob (.inr h6))
        rw [List.length_set]
        exact ⟨this.1, this.2.1, I32.set this.2.2 _ (hc.get _)⟩
      · exact hg.words y hy
  split
  · next h7 =>
    obtain ⟨f, hf, hp⟩ := hx.fn h7
    have hd := mayI_d7 hm h7
    refine enterP_good hF hcs hg _ _ _ f hf (by rw [List.length_map]; exact hp) (fun v hv => ?_) (by rw [hc.regs]; exact hd)
    obtain ⟨r, _, rfl⟩ := List.mem_map.1 hv
    exact hc.get r
  split
  · split
    · next hr =>
      have h := hg.top hcs (hc.set x.d (I32.getD hI s.reads)) rfl
      exact .same rfl rfl ⟨h.calls, h.some, h.few, h.words, h.tr, h.trv, hr⟩
    · exact hset _ I32.zero
  · refine .go rfl rfl ⟨hg.calls, hg.some, hg.few, hg.words, ?_, ?_, hg.reads⟩
    · show (s.tr ++ [c.get x.a]).length ≤ s.steps
      rw [List.length_append]
      exact htr
    · intro v hv
      rcases List.mem_append.1 hv with h | h
      · exact hg.trv v h
      · rw [List.mem_singleton] at h; subst h; exact hc.get _
theorem CallOk.goto {c : PC} (h : CallOk F G c) (t : Int) (ht : 0 ≤ t ∧ t < (c.f.blocks.length : Int)) : CallOk F G { c with block := t, done := 0 } := ⟨h.fn, h.regs, h.vals, ht, fun b _ => Nat.zero_le _⟩
theorem endP_good {s : PS} {c : PC} {cs : List PC} (hcs : s.calls = c :: cs) (hg : Good F G inp s) {b : MBl} (hb : BlOk b c.f.regs c.f.blocks.length) : PO.GoodN F G inp s (endP s c cs b) := by
  have hca := hg.calls
  rw [hcs] at hca
  have hc := hca.1
  have hgo : ∀ t, 0 ≤ t ∧ t < (c.f.blocks.length : Int) → PO.GoodN F G inp s (.go (s.top { c with block := t, done := 0 } cs)) := fun t ht => .same rfl rfl (hg.top hcs (hc.goto t ht) rfl)
  unfold endP
  split
  · next h1 =>
    unfold BlOk at hb
    exact hgo _ (by omega)
  split
  · next h2 =>
    unfold BlOk at hb
    split
    · exact hgo _ (by omega)
    · exact hgo _ (by omega)
  · unfold leaveP
    cases cs with
    | nil => exact .fin rfl rfl rfl (by omega)
    | cons c2 cs2 =>
      have h2 := hca.2.2
      have hf := hg.few
      rw [hcs] at hf
      simp only [List.length_cons] at hf
      have hpop : Good F G inp { s with calls := c2 :: cs2 } := ⟨h2, by simp, by simp only [List.length_cons]; omega, hg.words, hg.tr, hg.trv, hg.reads⟩
      dsimp only
      split
      · exact .same rfl rfl (hpop.top (s := { s with calls := c2 :: cs2 }) rfl (h2.1.set c.d (hc.get b.a)) rfl)
      · exact .same rfl rfl hpop
theorem stepP_good (hF : ∀ x f, F x = some f → FnOk F G f) (hI : ∀ v ∈ inp, I32 v) {s : PS} (hg : Good F G inp s) : PO.GoodN F G inp { s with steps := s.steps + 1 } (stepP F inp s) := by
  unfold stepP
  have hne := hg.some
  have hcs0 : s.calls = s.calls := rfl
  generalize hcs : s.calls = calls at *
  cases calls with
  | nil => exact absurd rfl hne
  | cons c cs =>
    have hca := hg.calls
    rw [hcs] at hca
    have hc := hca.1
    have hb := hc.block
    have htr := hg.tr
    have hg1 : Good F G inp { s with steps := s.steps + 1 } := ⟨hg.calls, by rw [hcs]; exact hne, hg.few, hg.words, by show s.tr.length ≤ s.steps + 1; omega, hg.trv, hg.reads⟩
    dsimp only
    cases hbl : c.f.blocks[c.block.toNat]? with
    | none => rw [List.getElem?_eq_none_iff] at hbl; omega
    | some b =>
      dsimp only
      have hbm := List.mem_of_getElem? hbl
      cases hx : b.ins[c.done]? with
      | none => exact endP_good (s := { s with steps := s.steps + 1 }) hcs hg1 (hc.fn.bl b hbm)
      | some x =>
        dsimp only
        have hdl := (List.getElem?_eq_some_iff.1 hx).1
        have hc1 : CallOk F G { c with done := c.done + 1 } := ⟨hc.fn, hc.regs, hc.vals, hc.block, fun b2 h2 => by
          have h2' : c.f.blocks[c.block.toNat]? = some b2 := h2
          rw [hbl] at h2'
          cases h2'
          exact hdl⟩
        have hg2 := hg1.top (c' := { c with done := c.done + 1 }) hcs hc1 rfl
        have h := insP_good hF hI (s := PS.top { s with steps := s.steps + 1 } { c with done := c.done + 1 } cs) rfl hg2 (by show s.tr.length < s.steps + 1; omega) (hc.fn.ins b hbm x (List.mem_of_getElem? hx))
        exact h
end
end Go.Proofs.Ytcanjkjpdnbcnaa
namespace Go.Proofs.Ytcanjkjpdnbcnaa
open Go.RowKit
set_option linter.unusedVariables false
set_option linter.unusedSimpArgs false
set_option maxRecDepth 100000

/-- Where the innermost call lies. -/
structure TopAt (e : Env) (q : Plc) (w : World) (c : PC) (cs : List PC) (cb rb : Nat) (bs : List Nat) (a : Addr) : Prop where
  hbs : q.bs = cb :: bs
  cl : ClAt w cb ⟨some a, some ⟨rb, 0, none⟩, c.regs.length, c.regs.length, c.block, c.done, c.d⟩
  rg : RegAt w rb c.regs
  fn : FnP e.w0 a c.f
  ocb : q.own cb = 10 + 2 * cs.length
  orb : q.own rb = 11 + 2 * cs.length
section
variable {e : Env} {q : Plc} {w w' : World} {s : PS} {c : PC} {cs : List PC} {cb rb : Nat} {bs : List Nat} {a : Addr}
theorem MachAt.topAt (h : MachAt e q w s) (hcs : s.calls = c :: cs) : ∃ cb rb bs a, TopAt e q w c cs cb rb bs a := by
  have hc := h.calls
  rw [hcs] at hc
  cases hb : q.bs with
  | nil => rw [hb] at hc; exact hc.elim
  | cons cb bs =>
    rw [hb] at hc
    obtain ⟨⟨rb, a, h1, h2, h3, h4, h5⟩, h6⟩ := hc
    exact ⟨cb, rb, bs, a, hb, h1, h2, h3, h4, h5⟩
theorem MachAt.setReg (h : MachAt e q w s) (hcs : s.calls = c :: cs) (ht : TopAt e q w c cs cb rb bs a) (k : Nat) (v : Int) (hr : RegAt w' rb (c.regs.set k v)) (hC : Chg [rb] w w') : MachAt e q w' (s.top (c.set (k : Int) v) cs) := by
  have o1 := ht.ocb
  have o2 := ht.orb
  have hne : cb ≠ rb := fun e => by rw [e] at o1; omega
  refine h.top hcs ht.hbs (c.set (k : Int) v) hC (fun b hb => by rw [List.mem_singleton] at hb; subst hb; omega) ⟨rb, a, ?_, hr, ht.fn, o1, o2⟩
  have hl : (c.set (k : Int) v).regs.length = c.regs.length := List.length_set ..
  rw [hl]
  exact (hC.same cb (h.old cb (by omega)).2 (by simp [hne])).trans ht.cl
/-- All that is the runner's stays. -/
theorem MachAt.keep (h : MachAt e q w s) (hB : Below e.w0.heap.size e.w0 w') (hz : w.heap.size ≤ w'.heap.size) (hs : ∀ b, q.own b ≠ 0 → w'.heap[b]? = w.heap[b]?) : MachAt e q w' s :=
  ⟨hB, fun b hb => ⟨(h.old b hb).1, Nat.lt_of_lt_of_le (h.old b hb).2 hz⟩, (hs _ (by rw [h.ownp]; omega)).trans h.run, h.ownp,
    (by obtain ⟨n, φ, h1, h2⟩ := h.fns; exact ⟨n, φ, h1.same (hs _ (by rw [h.ownf]; omega)), h2⟩), h.ownf,
    (by obtain ⟨n, φ, h1, h2⟩ := h.wds; exact ⟨n, φ, h1.same (hs _ (by rw [h.ownw]; omega)), h2⟩),
    (fun x hx => ⟨(h.wrd x hx).1.same (hs _ (by rw [(h.wrd x hx).2]; omega)), (h.wrd x hx).2⟩), h.inj, h.ownw,
    h.line.same hz (fun k hk => hs k (by rw [h.ownk k hk]; omega)), h.ownk,
    h.tr.same hz (fun k hk => hs k (by rw [h.ownt k hk]; omega)), h.ownt,
    h.calls.same (fun k h1 h2 => ⟨hs k (by omega), rfl⟩), h.inp, ⟨(hs _ (by rw [h.xb.2]; omega)).trans h.xb.1, h.xb.2⟩⟩
theorem MachAt.grow (h : MachAt e q w s) (hb : Below w.heap.size w w') : MachAt e q w' s :=
  h.keep (h.below.trans (hb.mono h.below.size)) hb.size (fun b hn => hb.block b (h.old b hn).2)
theorem MachAt.drewN (h : MachAt e q w s) (d : Nat) : MachAt e q (w.drewN d) s :=
  h.keep ⟨h.below.os, h.below.tape, h.below.output, h.below.size, h.below.block⟩ (Nat.le_refl _) (fun _ _ => rfl)
theorem ptrsOf_cons (b : Nat) (bs : List Nat) : ptrsOf (b :: bs) = ptrsOf bs ++ [.pointer (some ⟨b, 0, none⟩)] := by simp [ptrsOf]
theorem ptrsOf_length (bs : List Nat) : (ptrsOf bs).length = bs.length := by simp [ptrsOf]
/-- A call more. -/
theorem MachAt.enter (h : MachAt e q w s) {g o m r : Nat} {f : MFn} (hf : FnP e.w0 ⟨g, o, none⟩ f) {d : Int} {vs : List Int} (hlen : vs.length = m) (hm : m ≤ r) {en : Ending} (hE : Entered w e.p q.kA s.calls.length (ptrsOf q.bs) g o d r m vs en w') :
    en = .returned (.tuple #[]) ∧ ∃ q', MachAt e q' w' { s with calls := ⟨f, vs ++ List.replicate (r - m) 0, 0, 0, d⟩ :: s.calls } := by
  obtain ⟨he, kA', kc', w4, hC, hr, hcl, hl, hk, rfl⟩ := hE
  refine ⟨he, ?_⟩
  have hkA := h.ownk
  have hpn : e.p ∉ blk q.kA := fun hm => by have := hkA _ hm; rw [h.ownp] at this; omega
  have hkA' : ∀ b ∈ blk kA', b < w.heap.size → b ∈ blk q.kA := fun b hb hlt => by
    rcases hk b hb with h1 | h1
    · exact h1
    · omega
  have hz4 := hC.size
  let own' : Nat → Nat := fun b => if b = w.heap.size then 11 + 2 * s.calls.length else if b = w.heap.size + 1 then 10 + 2 * s.calls.length else if b ∈ blk kA' then 4 else q.own b
  have hold : ∀ b, q.own b ≠ 0 → own' b = q.own b := fun b hb => by
    have h1 := (h.old b hb).2
    show (if b = w.heap.size then 11 + 2 * s.calls.length else if b = w.heap.size + 1 then 10 + 2 * s.calls.length else if b ∈ blk kA' then 4 else q.own b) = _
    rw [if_neg (by omega), if_neg (by omega)]
    split
    · next hbk => exact (hkA b (hkA' b hbk h1)).symm
    · rfl
  have hW : own' w.heap.size = 11 + 2 * s.calls.length := if_pos rfl
  have hW1 : own' (w.heap.size + 1) = 10 + 2 * s.calls.length := by
    show (if w.heap.size + 1 = w.heap.size then _ else if w.heap.size + 1 = w.heap.size + 1 then _ else _) = _
    rw [if_neg (by omega), if_pos rfl]
  have hlt4 : ∀ {b : Nat}, w4.heap[b]?.isSome = true → b < w4.heap.size := fun {b} hb => by
    rcases Nat.lt_or_ge b w4.heap.size with h1 | h1
    · exact h1
    · rw [Array.getElem?_eq_none h1] at hb; cases hb
  have hs1 : w.heap.size + 1 < w4.heap.size := hlt4 (by unfold ClAt at hcl; rw [hcl]; rfl)
  have hk4 : ∀ b ∈ blk kA', own' b = 4 := fun b hb => by
    show (if b = w.heap.size then 11 + 2 * s.calls.length else if b = w.heap.size + 1 then 10 + 2 * s.calls.length else if b ∈ blk kA' then 4 else q.own b) = _
    have : b ≠ w.heap.size ∧ b ≠ w.heap.size + 1 := by
      rcases hk b hb with h1 | h1
      · have := h.line.lt b h1; omega
      · omega
    rw [if_neg this.1, if_neg this.2, if_pos hb]
  have hset : ∀ b, b ≠ e.p → (w4.setCell ⟨e.p, 4, none⟩ (.slice kA' (s.calls.length + 1) kc')).heap[b]? = w4.heap[b]? := fun b hb => by
    rcases Nat.lt_or_ge b w4.heap.size with h1 | h1
    · exact ((Chg.refl [e.p] w4).setCell e.p 4 _ (.inl (by simp))).same b h1 (by simp [hb])
    · have hsz : (w4.setCell ⟨e.p, 4, none⟩ (.slice kA' (s.calls.length + 1) kc')).heap.size = w4.heap.size := by simp [World.setCell]
      rw [Array.getElem?_eq_none h1, Array.getElem?_eq_none (by rw [hsz]; exact h1)]
  have hsz : (w4.setCell ⟨e.p, 4, none⟩ (.slice kA' (s.calls.length + 1) kc')).heap.size = w4.heap.size := by simp [World.setCell]
  have hsame : ∀ b, q.own b ≠ 0 → q.own b ≠ 1 → q.own b ≠ 4 → (w4.setCell ⟨e.p, 4, none⟩ (.slice kA' (s.calls.length + 1) kc')).heap[b]? = w.heap[b]? := fun b h0 h1 h4 => by
    rw [hset b (fun e => h1 (by rw [e]; exact h.ownp))]
    exact hC.same b (h.old b h0).2 (fun hm => h4 (hkA b hm))
  have hrun4 : RnAt w4 e.p ⟨some q.fm, some q.wm, e.iA, e.inp.length, e.ic, e.fuel, q.kA, s.calls.length, q.kc, 0, 0, q.tA, s.tr.length, q.tc, s.steps, s.reads⟩ := (hC.same e.p (h.old e.p (by rw [h.ownp]; omega)).2 hpn).trans h.run
  have hown : ∀ b, own' b ≠ 0 → e.w0.heap.size ≤ b ∧ b < w4.heap.size := fun b hb => by
    have hw0 := h.below.size
    by_cases h1 : b = w.heap.size
    · omega
    · by_cases h2 : b = w.heap.size + 1
      · omega
      · by_cases h3 : b ∈ blk kA'
        · refine ⟨?_, hl.lt b h3⟩
          rcases hk b h3 with h4 | h4
          · exact (h.old b (by rw [hkA b h4]; omega)).1
          · omega
        · have : own' b = q.own b := by
            show (if b = w.heap.size then _ else if b = w.heap.size + 1 then _ else if b ∈ blk kA' then _ else q.own b) = _
            rw [if_neg h1, if_neg h2, if_neg h3]
          rw [this] at hb
          exact ⟨(h.old b hb).1, Nat.lt_of_lt_of_le (h.old b hb).2 hz4⟩
  have hp1 : own' e.p = 1 := (hold _ (by rw [h.ownp]; omega)).trans h.ownp
  have hpk : e.p ∉ blk kA' := fun hm => by have := hk4 _ hm; omega
  refine ⟨{ q with own := own', bs := (w.heap.size + 1) :: q.bs, kA := kA', kc := kc' }, ⟨?_, fun b hb => by rw [hsz]; exact hown b hb, hrun4.set 4 _ _ rfl, hp1, ?_, ?_, ?_, ?_, h.inj, ?_, ?_, hk4, ?_, ?_, ?_, h.inp, ⟨(hsame _ (by rw [h.xb.2]; omega) (by rw [h.xb.2]; omega) (by rw [h.xb.2]; omega)).trans h.xb.1, (hold _ (by rw [h.xb.2]; omega)).trans h.xb.2⟩⟩⟩
  · exact (h.below.trans (hC.toBelow (fun k hk => (h.old k (by rw [hkA k hk]; omega)).1) h.below.size)).trans (((Chg.refl [e.p] w4).setCell e.p 4 _ (.inl (by simp))).toBelow (fun k hk => by rw [List.mem_singleton] at hk; subst hk; exact (h.old _ (by rw [h.ownp]; omega)).1) (by have := h.below.size; omega))
  · obtain ⟨n, φ, h1, h2⟩ := h.fns
    exact ⟨n, φ, h1.same (hsame _ (by rw [h.ownf]; omega) (by rw [h.ownf]; omega) (by rw [h.ownf]; omega)), h2⟩
  · exact (hold _ (by rw [h.ownf]; omega)).trans h.ownf
  · obtain ⟨n, φ, h1, h2⟩ := h.wds
    exact ⟨n, φ, h1.same (hsame _ (by rw [h.ownw]; omega) (by rw [h.ownw]; omega) (by rw [h.ownw]; omega)), h2⟩
  · exact fun x hx => ⟨(h.wrd x hx).1.same (hsame _ (by rw [(h.wrd x hx).2]; omega) (by rw [(h.wrd x hx).2]; omega) (by rw [(h.wrd x hx).2]; omega)), (hold _ (by rw [(h.wrd x hx).2]; omega)).trans (h.wrd x hx).2⟩
  · exact (hold _ (by rw [h.ownw]; omega)).trans h.ownw
  · rw [ptrsOf_cons]
    exact hl.same (by rw [hsz]; exact Nat.le_refl _) (fun k hk => hset k (fun e => hpk (e ▸ hk)))
  · exact h.tr.same (by rw [hsz]; exact hz4) (fun k hk => hsame k (by rw [h.ownt k hk]; omega) (by rw [h.ownt k hk]; omega) (by rw [h.ownt k hk]; omega))
  · exact fun b hb => (hold b (by rw [h.ownt b hb]; omega)).trans (h.ownt b hb)
  · refine ⟨⟨w.heap.size, ⟨g, o, none⟩, ?_, ?_, hf, hW1, hW⟩, h.calls.same (fun k h1 h2 => ⟨hsame k (by omega) (by omega) (by omega), hold k (by omega)⟩)⟩
    · have e1 : (vs ++ List.replicate (r - m) 0).length = r := by rw [List.length_append, List.length_replicate, hlen]; omega
      show ClAt _ _ ⟨_, _, (vs ++ List.replicate (r - m) 0).length, (vs ++ List.replicate (r - m) 0).length, _, _, _⟩
      rw [e1]
      exact (hset _ (fun e => by have := (h.old _ (show q.own (w.heap.size + 1) ≠ 0 by rw [e, h.ownp]; omega)).2; omega)).trans hcl
    · exact hr.same (hset _ (fun e => by have := (h.old _ (show q.own w.heap.size ≠ 0 by rw [e, h.ownp]; omega)).2; omega))
end
end Go.Proofs.Ytcanjkjpdnbcnaa
namespace Go.Proofs.Ytcanjkjpdnbcnaa
open Go.RowKit
set_option linter.unusedVariables false
set_option linter.unusedSimpArgs false
set_option maxRecDepth 100000

theorem setCell_size (w : World) (x : Addr) (v : Value) : (w.setCell x v).heap.size = w.heap.size := by simp [World.setCell]
theorem setCell_other (w : World) (p o : Nat) (v : Value) (b : Nat) (hb : b ≠ p) : (w.setCell ⟨p, o, none⟩ v).heap[b]? = w.heap[b]? := by
  rcases Nat.lt_or_ge b w.heap.size with h1 | h1
  · exact ((Chg.refl [p] w).setCell p o _ (.inl (by simp))).same b h1 (by simp [hb])
  · rw [Array.getElem?_eq_none h1, Array.getElem?_eq_none (by rw [setCell_size]; exact h1)]
section
variable {e : Env} {q : Plc} {w w' : World} {s : PS} {c : PC} {cs : List PC} {cb rb : Nat} {bs : List Nat} {a : Addr}
theorem MachAt.pbelow (h : MachAt e q w s) (o : Nat) (v : Value) : Below e.w0.heap.size e.w0 (w.setCell ⟨e.p, o, none⟩ v) :=
  h.below.trans (((Chg.refl [e.p] w).setCell e.p o _ (.inl (by simp))).toBelow (fun k hk => by rw [List.mem_singleton] at hk; subst hk; exact (h.old _ (by rw [h.ownp]; omega)).1) h.below.size)
/-- A call less. -/
theorem MachAt.pop (h : MachAt e q w s) (hcs : s.calls = c :: cs) (hbs : q.bs = cb :: bs) : MachAt e { q with bs := bs } (w.setCell ⟨e.p, 4, none⟩ (.slice q.kA cs.length q.kc)) { s with calls := cs } := by
  have hs : ∀ b, q.own b ≠ 1 → (w.setCell ⟨e.p, 4, none⟩ (.slice q.kA cs.length q.kc)).heap[b]? = w.heap[b]? := fun b hb => setCell_other w e.p 4 _ b (fun x => hb (by rw [x]; exact h.ownp))
  have hz := setCell_size w ⟨e.p, 4, none⟩ (.slice q.kA cs.length q.kc)
  have hcal := h.calls
  rw [hcs, hbs] at hcal
  have hline := h.line
  rw [hcs, hbs, ptrsOf_cons] at hline
  have hl2 := hline.shrink cs.length (by simp)
  have hbl := hcal.2.length
  rw [Nat.mul_one, List.take_append_of_le_length (by rw [ptrsOf_length]; omega), List.take_of_length_le (by rw [ptrsOf_length]; omega)] at hl2
  refine ⟨h.pbelow 4 _, fun b hb => by rw [hz]; exact h.old b hb, ?_, h.ownp, ?_, h.ownf, ?_, ?_, h.inj, h.ownw, ?_, h.ownk, ?_, h.ownt, ?_, h.inp, ⟨(hs _ (by rw [h.xb.2]; omega)).trans h.xb.1, h.xb.2⟩⟩
  · exact h.run.set 4 _ _ rfl
  · obtain ⟨n, φ, h1, h2⟩ := h.fns
    exact ⟨n, φ, h1.same (hs _ (by rw [h.ownf]; omega)), h2⟩
  · obtain ⟨n, φ, h1, h2⟩ := h.wds
    exact ⟨n, φ, h1.same (hs _ (by rw [h.ownw]; omega)), h2⟩
  · exact fun x hx => ⟨(h.wrd x hx).1.same (hs _ (by rw [(h.wrd x hx).2]; omega)), (h.wrd x hx).2⟩
  · exact hl2.same (by rw [hz]; exact Nat.le_refl _) (fun k hk => hs k (by rw [h.ownk k hk]; omega))
  · exact h.tr.same (by rw [hz]; exact Nat.le_refl _) (fun k hk => hs k (by rw [h.ownt k hk]; omega))
  · exact hcal.2.same (fun k h1 h2 => ⟨hs k (by omega), rfl⟩)
/-- A word more told. -/
theorem MachAt.print (h : MachAt e q w s) {v : Int} {en : Ending} (hP : Printed w e.p q.tA s.tr.length s.tr v en w') : en = .returned (.tuple #[]) ∧ ∃ q', MachAt e q' w' { s with tr := s.tr ++ [v] } := by
  obtain ⟨he, A', c', w2, hl, hC, hk, rfl⟩ := hP
  refine ⟨he, ?_⟩
  have htA := h.ownt
  have hpn : e.p ∉ blk q.tA := fun hm => by have := htA _ hm; rw [h.ownp] at this; omega
  have hz2 := hC.size
  have hz := setCell_size w2 ⟨e.p, 7, none⟩ (.slice A' (s.tr.length + 1) c')
  let own' : Nat → Nat := fun b => if b ∈ blk A' then 5 else q.own b
  have hA' : ∀ b ∈ blk A', b < w.heap.size → b ∈ blk q.tA := fun b hb hlt => by
    rcases hk b hb with h1 | h1
    · exact h1
    · omega
  have hold : ∀ b, q.own b ≠ 0 → own' b = q.own b := fun b hb => by
    have h1 := (h.old b hb).2
    show (if b ∈ blk A' then 5 else q.own b) = _
    split
    · next hbk => exact (htA b (hA' b hbk h1)).symm
    · rfl
  have h5 : ∀ b ∈ blk A', own' b = 5 := fun b hb => if_pos hb
  have hp1 : own' e.p = 1 := (hold _ (by rw [h.ownp]; omega)).trans h.ownp
  have hpk : e.p ∉ blk A' := fun hm => by have := h5 _ hm; omega
  have hset : ∀ b, b ≠ e.p → (w2.setCell ⟨e.p, 7, none⟩ (.slice A' (s.tr.length + 1) c')).heap[b]? = w2.heap[b]? := fun b hb => setCell_other w2 e.p 7 _ b hb
  have hsame : ∀ b, q.own b ≠ 0 → q.own b ≠ 1 → q.own b ≠ 5 → (w2.setCell ⟨e.p, 7, none⟩ (.slice A' (s.tr.length + 1) c')).heap[b]? = w.heap[b]? := fun b h0 h1 h4 => by
    rw [hset b (fun e => h1 (by rw [e]; exact h.ownp))]
    exact hC.same b (h.old b h0).2 (fun hm => h4 (htA b hm))
  have hrun2 : RnAt w2 e.p ⟨some q.fm, some q.wm, e.iA, e.inp.length, e.ic, e.fuel, q.kA, s.calls.length, q.kc, 0, 0, q.tA, s.tr.length, q.tc, s.steps, s.reads⟩ := (hC.same e.p (h.old e.p (by rw [h.ownp]; omega)).2 hpn).trans h.run
  have hlen : (s.tr ++ [v]).length = s.tr.length + 1 := by simp
  refine ⟨{ q with own := own', tA := A', tc := c' }, ⟨?_, fun b hb => ?_, ?_, hp1, ?_, ?_, ?_, ?_, h.inj, ?_, ?_, ?_, ?_, h5, ?_, h.inp, ⟨(hsame _ (by rw [h.xb.2]; omega) (by rw [h.xb.2]; omega) (by rw [h.xb.2]; omega)).trans h.xb.1, (hold _ (by rw [h.xb.2]; omega)).trans h.xb.2⟩⟩⟩
  · exact (h.below.trans (hC.toBelow (fun k hk => (h.old k (by rw [htA k hk]; omega)).1) h.below.size)).trans (((Chg.refl [e.p] w2).setCell e.p 7 _ (.inl (by simp))).toBelow (fun k hk => by rw [List.mem_singleton] at hk; subst hk; exact (h.old _ (by rw [h.ownp]; omega)).1) (by have := h.below.size; omega))
  · rw [hz]
    by_cases h3 : b ∈ blk A'
    · refine ⟨?_, hl.lt b h3⟩
      rcases hk b h3 with h4 | h4
      · exact (h.old b (by rw [htA b h4]; omega)).1
      · have := h.below.size; omega
    · have : own' b = q.own b := if_neg h3
      have hb' : own' b ≠ 0 := hb
      rw [this] at hb'
      exact ⟨(h.old b hb').1, Nat.lt_of_lt_of_le (h.old b hb').2 hz2⟩
  · rw [hlen]
    exact hrun2.set 7 _ _ rfl
  · obtain ⟨n, φ, h1, h2⟩ := h.fns
    exact ⟨n, φ, h1.same (hsame _ (by rw [h.ownf]; omega) (by rw [h.ownf]; omega) (by rw [h.ownf]; omega)), h2⟩
  · exact (hold _ (by rw [h.ownf]; omega)).trans h.ownf
  · obtain ⟨n, φ, h1, h2⟩ := h.wds
    exact ⟨n, φ, h1.same (hsame _ (by rw [h.ownw]; omega) (by rw [h.ownw]; omega) (by rw [h.ownw]; omega)), h2⟩
  · exact fun x hx => ⟨(h.wrd x hx).1.same (hsame _ (by rw [(h.wrd x hx).2]; omega) (by rw [(h.wrd x hx).2]; omega) (by rw [(h.wrd x hx).2]; omega)), (hold _ (by rw [(h.wrd x hx).2]; omega)).trans (h.wrd x hx).2⟩
  · exact (hold _ (by rw [h.ownw]; omega)).trans h.ownw
  · exact h.line.same (by rw [hz]; exact hz2) (fun k hk => hsame k (by rw [h.ownk k hk]; omega) (by rw [h.ownk k hk]; omega) (by rw [h.ownk k hk]; omega))
  · exact fun b hb => (hold b (by rw [h.ownk b hb]; omega)).trans (h.ownk b hb)
  · rw [hlen]
    exact hl.same (by rw [hz]; exact Nat.le_refl _) (fun k hk => hset k (fun e => hpk (e ▸ hk)))
  · exact h.calls.same (fun k h1 h2 => ⟨hsame k (by omega) (by omega) (by omega), hold k (by omega)⟩)
/-- What is told when a run has ended. -/
def Told (e : Env) (w : World) (v : Int) (s : PS) : Prop :=
  Below e.w0.heap.size e.w0 w ∧ e.w0.heap.size ≤ e.p ∧ ∃ r : Rn, RnAt w e.p r ∧ r.value = v ∧ r.tn = s.tr.length ∧ r.steps = s.steps ∧ r.reads = s.reads ∧ SLine 1 w r.tA r.tn r.tc (cellsN s.tr) ∧ e.p ∉ blk r.tA ∧ (∀ k ∈ blk r.tA, e.w0.heap.size ≤ k) ∧ w.heap[e.xb]? = some (.cells #[.pointer (some ⟨e.p, 0, none⟩)] 49 (0, 0)) ∧ e.xb ≠ e.p
theorem MachAt.told (h : MachAt e q w s) : Told e w 0 s :=
  ⟨h.below, (h.old _ (by rw [h.ownp]; omega)).1, _, h.run, rfl, rfl, rfl, rfl, h.tr, fun hm => by have := h.ownt _ hm; rw [h.ownp] at this; omega, fun k hk => (h.old k (by rw [h.ownt k hk]; omega)).1, h.xb.1, fun x => by have := h.xb.2; rw [x, h.ownp] at this; omega⟩
theorem MachAt.toldV (h : MachAt e q w s) (v : Int) : Told e (w.setCell ⟨e.p, 6, none⟩ (.int .i32 v)) v s := by
  have hp : e.p ∉ blk q.tA := fun hm => by have := h.ownt _ hm; rw [h.ownp] at this; omega
  refine ⟨h.pbelow 6 _, (h.old _ (by rw [h.ownp]; omega)).1, ⟨some q.fm, some q.wm, e.iA, e.inp.length, e.ic, e.fuel, q.kA, s.calls.length, q.kc, 0, v, q.tA, s.tr.length, q.tc, s.steps, s.reads⟩, h.run.set 6 _ _ rfl, rfl, rfl, rfl, rfl, ?_, hp, fun k hk => (h.old k (by rw [h.ownt k hk]; omega)).1, (setCell_other w e.p 6 _ e.xb (fun x => by have := h.xb.2; rw [x, h.ownp] at this; omega)).trans h.xb.1, fun x => by have := h.xb.2; rw [x, h.ownp] at this; omega⟩
  exact h.tr.same (by rw [setCell_size]; exact Nat.le_refl _) (fun k hk => setCell_other w e.p 6 _ k (fun x => hp (x ▸ hk)))
theorem Told.drewN {v : Int} (h : Told e w v s) (d : Nat) : Told e (w.drewN d) v s := by
  obtain ⟨h1, h2, r, h3, h4, h5, h6, h7, h8, h9⟩ := h
  exact ⟨⟨h1.os, h1.tape, h1.output, h1.size, h1.block⟩, h2, r, h3, h4, h5, h6, h7, h8, h9⟩
/-- What a step of the runner comes to. -/
def Out (e : Env) (o : PO) (en : Ending) (w' : World) : Prop :=
  match o with
  | .go s' => en = .returned (.tuple #[]) ∧ ∃ q', MachAt e q' w' s'
  | .fin k v s' => Ends k en ∧ Told e w' v s'
end
end Go.Proofs.Ytcanjkjpdnbcnaa
namespace Go.Proofs.Ytcanjkjpdnbcnaa
open Go.RowKit
set_option linter.unusedVariables false
set_option linter.unusedSimpArgs false
set_option maxRecDepth 100000

/-- Where an instruction's cells lie, ahead of the run. -/
def InP (w0 : World) (g o : Nat) (x : MIn) : Prop := g < w0.heap.size ∧ x.In w0 ∧ ∀ j v, x.cells[j]? = some v → w0.cell? ⟨g, o + j, none⟩ = some v
section
variable {e : Env} {q : Plc} {w w' : World} {s : PS} {c : PC} {cs : List PC} {cb rb : Nat} {bs : List Nat} {a : Addr} {g o : Nat} {x : MIn}
theorem InP.at (hx : InP e.w0 g o x) (h : MachAt e q w s) (j : Nat) (v : Value) (hj : x.cells[j]? = some v) : w.cell? ⟨g, o + j, none⟩ = some v := (h.below.cell (p := ⟨g, o + j, none⟩) hx.1).trans (hx.2.2 j v hj)
theorem InP.kind (hx : InP e.w0 g o x) (h : MachAt e q w s) {k : Int} (hk : x.kind = k) : w.cell? ⟨g, o, none⟩ = some (.int .i64 k) := by
  have := hx.at h 0 _ rfl
  rw [Nat.add_zero, hk] at this
  exact this
theorem TopAt.drewN (ht : TopAt e q w c cs cb rb bs a) (d : Nat) : TopAt e q (w.drewN d) c cs cb rb bs a := ⟨ht.hbs, ht.cl, ht.rg, ht.fn, ht.ocb, ht.orb⟩
theorem TopAt.c1 (ht : TopAt e q w c cs cb rb bs a) : w.cell? ⟨cb, 1, none⟩ = some (.slice (some ⟨rb, 0, none⟩) c.regs.length c.regs.length) := by
  have h := ht.cl
  unfold ClAt at h
  rw [cell_of_row _ _ 1 _ _ (0, 0) h]
  rfl
theorem MachAt.rcell (h : MachAt e q w s) (i : Nat) (v : Value) (hv : (Rn.cells ⟨some q.fm, some q.wm, e.iA, e.inp.length, e.ic, e.fuel, q.kA, s.calls.length, q.kc, 0, 0, q.tA, s.tr.length, q.tc, s.steps, s.reads⟩)[i]? = some v) : w.cell? ⟨e.p, i, none⟩ = some v := by
  have h1 := h.run
  unfold RnAt at h1
  rw [cell_of_row _ _ i _ _ (0, 0) h1, hv]
theorem MachAt.rfree (h : MachAt e q w s) (i : Nat) : w.frozen? ⟨e.p, i, none⟩ = false := by
  have h1 := h.run
  unfold RnAt at h1
  simp [World.frozen?, h1]
theorem reg_nat {r n : Int} (h : 0 ≤ r ∧ r < n) {m : Nat} (hm : (m : Int) = n) : ∃ k : Nat, r = (k : Int) ∧ k < m := ⟨r.toNat, by omega, by omega⟩
/-- Two things of different owners lie apart. -/
theorem own_ne {own : Nat → Nat} {b b' : Nat} (h : own b ≠ own b') : b ≠ b' := fun e => h (by rw [e])
theorem MachAt.prog_ne (h : MachAt e q w s) {g b : Nat} (hg : g < e.w0.heap.size) (hb : q.own b ≠ 0) : g ≠ b := fun e2 => by have := (h.old b hb).1; omega
theorem element_yes (h : MachAt e q w s) (ht : TopAt e q w c cs cb rb bs a) (hx : InP e.w0 g o x) (hn : c.regs.length ≤ 4096) (ha : (0 ≤ x.a ∧ x.a < (c.regs.length : Int)) ∨ x.a = -1) (hG : e.G x.name) (hl : (s.words x.name).length ≤ 4096)
    (h1 : 0 ≤ c.idx x) (h2 : c.idx x < ((s.words x.name).length : Int)) :
    Calls Try.prog 41 #[.pointer (some ⟨e.p, 0, none⟩), .pointer (some ⟨cb, 0, none⟩), .pointer (some ⟨g, o, none⟩)] w fun en w' => en = .returned (.pointer (some ⟨q.wb x.name, (c.idx x).toNat, none⟩)) ∧ ∃ d, w' = w.drewN d := by
  obtain ⟨nw, ω, hM, hω⟩ := h.wds
  have x3 := hx.at h 3 _ rfl
  have x6 := hx.at h 6 _ rfl
  have p1 := h.rcell 1 _ rfl
  rcases ha with ha | ha
  · obtain ⟨j, hj, hjl⟩ := reg_nat ha rfl
    rw [hj] at x3
    have hi : c.idx x = c.regs.getD j 0 := by unfold PC.idx PC.get; rw [hj, if_pos (by omega)]; rfl
    rw [hi] at h1 h2 ⊢
    exact element_reg w e.p cb rb g o _ q.wm nw (q.wb x.name) _ j c.regs x.name ω x3 x6 hx.2.1.name ht.c1 ht.rg rfl hjl (by omega) p1 hM (hω x.name hG) (by omega) h1 h2
  · rw [ha] at x3
    have hi : c.idx x = 0 := by unfold PC.idx; rw [ha, if_neg (by omega)]
    rw [hi] at h1 h2 ⊢
    exact element_one w e.p cb rb g o _ q.wm nw (q.wb x.name) _ c.regs x.name ω x3 x6 hx.2.1.name ht.c1 ht.rg rfl (by omega) p1 hM (hω x.name hG) (by omega) (Nat.le_refl _) h2
theorem element_no (h : MachAt e q w s) (ht : TopAt e q w c cs cb rb bs a) (hx : InP e.w0 g o x) (hn : c.regs.length ≤ 4096) (hv : ∀ v ∈ c.regs, I32 v) (ha : (0 ≤ x.a ∧ x.a < (c.regs.length : Int)) ∨ x.a = -1) (hG : e.G x.name) (hl : (s.words x.name).length ≤ 4096) (hl1 : 1 ≤ (s.words x.name).length)
    (h12 : c.idx x < 0 ∨ ((s.words x.name).length : Int) ≤ c.idx x) :
    Calls Try.prog 41 #[.pointer (some ⟨e.p, 0, none⟩), .pointer (some ⟨cb, 0, none⟩), .pointer (some ⟨g, o, none⟩)] w fun en w' => Ends 3 en ∧ ∃ d, w' = w.drewN d := by
  obtain ⟨nw, ω, hM, hω⟩ := h.wds
  have x3 := hx.at h 3 _ rfl
  have x6 := hx.at h 6 _ rfl
  have p1 := h.rcell 1 _ rfl
  rcases ha with ha | ha
  · obtain ⟨j, hj, hjl⟩ := reg_nat ha rfl
    rw [hj] at x3
    have hi : c.idx x = c.regs.getD j 0 := by unfold PC.idx PC.get; rw [hj, if_pos (by omega)]; rfl
    rw [hi] at h12
    have hb := I32.getD hv j
    rcases Int.lt_or_le (c.regs.getD j 0) 0 with h1 | h1
    · exact element_low w e.p cb rb g o _ q.wm nw (q.wb x.name) _ j c.regs x.name ω x3 x6 hx.2.1.name ht.c1 ht.rg rfl hjl (by omega) p1 hM (hω x.name hG) (by omega) h1
    · exact element_high w e.p cb rb g o _ q.wm nw (q.wb x.name) _ j c.regs x.name ω x3 x6 hx.2.1.name ht.c1 ht.rg rfl hjl (by omega) p1 hM (hω x.name hG) (by omega) h1 (by omega) hb.2
  · have hi : c.idx x = 0 := by unfold PC.idx; rw [ha, if_neg (by omega)]
    rw [hi] at h12
    omega
theorem do_mach (h : MachAt e q w s) (hcs : s.calls = c :: cs) (ht : TopAt e q w c cs cb rb bs a) (hx : InP e.w0 g o x) (hok : InOk e.F e.G x c.f.regs) (hg : Good e.F e.G e.inp s)
    (hF : ∀ x f, e.F x = some f → FnOk e.F e.G f) (htr : s.tr.length ≤ 90000) (hin : e.inp.length ≤ 90000) :
    Calls Try.prog 28 #[.pointer (some ⟨e.p, 0, none⟩), .pointer (some ⟨cb, 0, none⟩), .pointer (some ⟨g, o, none⟩)] w (Out e (insP e.F e.inp s c cs x)) := by
  have hc : CallOk e.F e.G c := by have := hg.calls; rw [hcs] at this; exact this.1
  have hrl := hc.regs
  have hrb := hc.fn.regs
  have hnl : c.regs.length ≤ 4096 := by omega
  have hm := hok.may
  have hkk := mayI_kind hm
  have o1 := ht.ocb
  have o2 := ht.orb
  have op := h.ownp
  have c1 := ht.c1
  have ncr : cb ≠ rb := own_ne (own := q.own) (by rw [o1, o2]; omega)
  have ngr : g ≠ rb := h.prog_ne hx.1 (by omega)
  have ngp : g ≠ e.p := h.prog_ne hx.1 (by omega)
  have ncp : cb ≠ e.p := own_ne (own := q.own) (by rw [o1, op]; omega)
  have nrp : rb ≠ e.p := own_ne (own := q.own) (by rw [o2, op]; omega)
  rcases (by omega : x.kind = 1 ∨ x.kind = 2 ∨ x.kind = 3 ∨ x.kind = 4 ∨ x.kind = 5 ∨ x.kind = 6 ∨ x.kind = 7 ∨ x.kind = 8 ∨ x.kind = 9) with hk | hk | hk | hk | hk | hk | hk | hk | hk
  · obtain ⟨k, hd, hkl⟩ := reg_nat (mayI_d hm (by omega)) hrl
    have x2 := hx.at h 2 _ rfl
    have x5 := hx.at h 5 _ rfl
    rw [hd] at x2
    refine (do_1 w e.p cb rb g o _ k c.regs x.num (hx.kind h hk) x2 x5 c1 ht.rg rfl hkl (by omega)).mono ?_
    rintro en w' ⟨rfl, hr, hC⟩
    unfold insP
    rw [if_pos hk, hd]
    exact ⟨rfl, q, h.setReg hcs ht k _ hr hC⟩
  · obtain ⟨k, hd, hkl⟩ := reg_nat (mayI_d hm (by omega)) hrl
    obtain ⟨j, ha, hjl⟩ := reg_nat (mayI_a hm (by omega)) hrl
    have x2 := hx.at h 2 _ rfl
    have x3 := hx.at h 3 _ rfl
    rw [hd] at x2
    rw [ha] at x3
    refine (do_2 w e.p cb rb g o _ k j c.regs (hx.kind h hk) x2 x3 hjl c1 ht.rg rfl hkl (by omega)).mono ?_
    rintro en w' ⟨rfl, hr, hC⟩
    unfold insP
    rw [if_neg (by omega), if_pos hk, hd, ha]
    exact ⟨rfl, q, h.setReg hcs ht k _ hr hC⟩
  · obtain ⟨k, hd, hkl⟩ := reg_nat (mayI_d hm (by omega)) hrl
    obtain ⟨j, ha, hjl⟩ := reg_nat (mayI_a hm (by omega)) hrl
    have x1 := hx.at h 1 _ rfl
    have x2 := hx.at h 2 _ rfl
    have x3 := hx.at h 3 _ rfl
    rw [hd] at x2
    rw [ha] at x3
    refine (do_3 w e.p cb rb g o _ k j c.regs x.op (hx.kind h hk) x2 x3 hjl x1 (mayI_op3 hm hk) c1 ht.rg rfl hkl (by omega)).mono ?_
    rintro en w' ⟨rfl, hr, hC⟩
    unfold insP
    rw [if_neg (by omega), if_neg (by omega), if_pos hk, hd, ha]
    exact ⟨rfl, q, h.setReg hcs ht k _ hr hC⟩
  · obtain ⟨k, hd, hkl⟩ := reg_nat (mayI_d hm (by omega)) hrl
    obtain ⟨j, ha, hjl⟩ := reg_nat (mayI_a hm (by omega)) hrl
    obtain ⟨i, hb, hil⟩ := reg_nat (mayI_b hm (by omega)) hrl
    have x1 := hx.at h 1 _ rfl
    have x2 := hx.at h 2 _ rfl
    have x3 := hx.at h 3 _ rfl
    have x4 := hx.at h 4 _ rfl
    rw [hd] at x2
    rw [ha] at x3
    rw [hb] at x4
    unfold insP
    rw [if_neg (by omega), if_neg (by omega), if_neg (by omega), if_pos hk, hd, ha, hb]
    cases hop : (WordBins.binV x.op (c.get (j : Int)) (c.get (i : Int))).2 with
    | true =>
      rw [if_pos rfl]
      refine (do_4 w e.p cb rb g o _ k j i c.regs x.op (hx.kind h hk) x2 x3 hjl x4 hil x1 hop c1 ht.rg rfl hkl (by omega)).mono ?_
      rintro en w' ⟨rfl, hr, hC⟩
      exact ⟨rfl, q, h.setReg hcs ht k _ hr hC⟩
    | false =>
      rw [if_neg (by simp)]
      refine (do_4no w e.p cb rb g o _ k j i c.regs x.op (hx.kind h hk) x2 hkl x3 hjl x4 hil x1 c1 ht.rg rfl (by omega) hop).mono ?_
      rintro en w' ⟨he, hC⟩
      exact ⟨he, (h.keep (h.belowC hC (fun b hb => by cases hb)) hC.size (fun b hb => hC.same b (h.old b hb).2 (by simp))).told⟩
  · obtain ⟨k, hd, hkl⟩ := reg_nat (mayI_d hm (by omega)) hrl
    have x2 := hx.at h 2 _ rfl
    rw [hd] at x2
    have hG := hok.glob (.inl hk)
    have hw := hg.words _ hG
    have ha : (0 ≤ x.a ∧ x.a < (c.regs.length : Int)) ∨ x.a = -1 := by rw [hrl]; exact mayI_a5 hm (.inl hk)
    unfold insP
    rw [if_neg (by omega), if_neg (by omega), if_neg (by omega), if_neg (by omega), if_pos hk, hd]
    by_cases h12 : c.idx x < 0 ∨ ((s.words x.name).length : Int) ≤ c.idx x
    · rw [if_pos h12]
      refine (do_5no w e.p cb rb g o _ k c.regs (hx.kind h hk) x2 hkl c1 ht.rg rfl (by omega) (element_no h.drew (ht.drewN 1) hx hnl hc.vals ha hG hw.2.1 hw.1 h12)).mono ?_
      rintro en w' ⟨he, hC⟩
      exact ⟨he, (h.keep (h.belowC hC (fun b hb => by cases hb)) hC.size (fun b hb => hC.same b (h.old b hb).2 (by simp))).told⟩
    · rw [if_neg h12]
      have hwr := h.wrd _ hG
      refine (do_5 w e.p cb rb g o _ k (q.wb x.name) _ (c.idx x).toNat c.regs (s.words x.name) (hx.kind h hk) x2 hkl c1 ht.rg rfl (by omega) (show (c.idx x).toNat < (s.words x.name).length by omega) hwr.1 rfl ncr ngr (own_ne (own := q.own) (by rw [hwr.2, o2]; omega)) (element_yes h.drew (ht.drewN 1) hx hnl ha hG hw.2.1 (by omega) (by omega))).mono ?_
      rintro en w' ⟨rfl, hr, hC⟩
      exact ⟨rfl, q, h.setReg hcs ht k _ hr hC⟩
  · obtain ⟨i, hb, hil⟩ := reg_nat (mayI_b hm (by omega)) hrl
    have x4 := hx.at h 4 _ rfl
    rw [hb] at x4
    have hG := hok.glob (.inr hk)
    have hw := hg.words _ hG
    have ha : (0 ≤ x.a ∧ x.a < (c.regs.length : Int)) ∨ x.a = -1 := by rw [hrl]; exact mayI_a5 hm (.inr hk)
    unfold insP
    rw [if_neg (by omega), if_neg (by omega), if_neg (by omega), if_neg (by omega), if_neg (by omega), if_pos hk, hb]
    by_cases h12 : c.idx x < 0 ∨ ((s.words x.name).length : Int) ≤ c.idx x
    · rw [if_pos h12]
      refine (do_6no w e.p cb rb g o _ i c.regs (hx.kind h hk) x4 hil c1 ht.rg rfl (by omega) (element_no h.drew (ht.drewN 1) hx hnl hc.vals ha hG hw.2.1 hw.1 h12)).mono ?_
      rintro en w' ⟨he, hC⟩
      exact ⟨he, (h.keep (h.belowC hC (fun b hb => by cases hb)) hC.size (fun b hb => hC.same b (h.old b hb).2 (by simp))).told⟩
    · rw [if_neg h12]
      have hwr := h.wrd _ hG
      refine (do_6 w e.p cb rb g o _ i (q.wb x.name) _ (c.idx x).toNat c.regs (s.words x.name) (hx.kind h hk) x4 hil c1 ht.rg rfl (by omega) (show (c.idx x).toNat < (s.words x.name).length by omega) hwr.1 rfl (own_ne (own := q.own) (by rw [hwr.2, o1]; omega)) (h.prog_ne hx.1 (by rw [hwr.2]; omega)) (own_ne (own := q.own) (by rw [hwr.2, o2]; omega)) (element_yes h.drew (ht.drewN 1) hx hnl ha hG hw.2.1 (by omega) (by omega))).mono ?_
      rintro en w' ⟨rfl, hr, hC⟩
      exact ⟨rfl, q, h.word x.name hG _ (List.length_set ..) hC hr⟩
  · have x2 := hx.at h 2 _ rfl
    have x6 := hx.at h 6 _ rfl
    have x7 := hx.at h 7 _ rfl
    have hA : RowK .i64 w x.argsA x.argsn x.argL := (RowK.of_isRow hx.2.1.args).below h.below
    have hal : x.argL.length = x.argsn := hA.1
    have hfew := mayI_few hm
    have hargs : ∀ r ∈ x.argL, 0 ≤ r ∧ r < (c.regs.length : Int) := fun r hr => by rw [hrl]; exact mayI_args hm r hr
    obtain ⟨f, hf, hp⟩ := hok.fn hk
    have hfo := hF _ _ hf
    have hfr := hfo.regs
    have hfp := hfo.params
    obtain ⟨nf, φ, hM, hφ⟩ := h.fns
    obtain ⟨a2, hva, g2, o2', rfl, hg2, hfi, hfc⟩ := hφ _ _ hf
    have p0 := h.rcell 0 _ rfl
    have p4 := h.rcell 4 _ rfl
    have f2 : w.cell? ⟨g2, o2' + 2, none⟩ = some (.int .i64 f.regs) := (h.below.cell (p := ⟨g2, o2' + 2, none⟩) hg2).trans (hfc 2 _ rfl)
    have hrn : f.regs = (f.regs.toNat : Int) := by omega
    rw [hrn] at f2
    have nkp : e.p ∉ blk q.kA := fun hm => by have := h.ownk _ hm; omega
    have nkg : g ∉ blk q.kA := fun hm => by have := h.ownk _ hm; exact h.prog_ne hx.1 (b := g) (by omega) rfl
    unfold insP enterP
    rw [if_neg (by omega), if_neg (by omega), if_neg (by omega), if_neg (by omega), if_neg (by omega), if_neg (by omega), if_pos hk]
    by_cases h32 : s.calls.length = 32
    · rw [if_pos h32]
      rw [h32] at p4
      refine (do_7deep w e.p cb rb g o _ x.argsn x.argsc x.d c.regs x.argL x.name x.argsA (hx.kind h hk) x6 x2 x7 hA (by omega) hargs c1 ht.rg rfl (by omega) q.kA q.kc p4).mono ?_
      rintro en w' ⟨he, hC⟩
      exact ⟨he, (h.keep (h.belowC hC (fun b hb => by cases hb)) hC.size (fun b hb => hC.same b (h.old b hb).2 (by simp))).told⟩
    · rw [if_neg h32, hf]
      have hcl := hg.few
      refine (do_7 w e.p cb rb g o _ x.argsn x.argsc x.d c.regs x.argL x.name x.argsA (hx.kind h hk) x6 x2 x7 hA (by omega) hargs c1 ht.rg rfl (by omega) q.fm nf g2 o2' f.regs.toNat s.calls.length q.kc φ q.kA (ptrsOf q.bs) p0 p4 (h.rfree 4) hM hx.2.1.name hva f2 (by omega) (by omega) h.line (by omega) nkp ngp nkg).mono ?_
      rintro en w' ⟨w2, hb2, hE⟩
      obtain ⟨he, hq'⟩ := (h.grow hb2).enter (f := f) ⟨g2, o2', rfl, hg2, hfi, hfc⟩ (by rw [List.length_map]; exact hal) (by omega) hE
      rw [show (x.argL.map c.get).length = x.argsn by rw [List.length_map]; exact hal]
      exact ⟨he, hq'⟩
  · obtain ⟨k, hd, hkl⟩ := reg_nat (mayI_d hm (by omega)) hrl
    have x2 := hx.at h 2 _ rfl
    rw [hd] at x2
    unfold insP
    rw [if_neg (by omega), if_neg (by omega), if_neg (by omega), if_neg (by omega), if_neg (by omega), if_neg (by omega), if_neg (by omega), if_pos hk, hd]
    have hrd := hg.reads
    by_cases hlt : s.reads < e.inp.length
    · rw [if_pos hlt]
      have hne : ∀ b off, e.iA = some ⟨b, off, none⟩ → b ≠ e.p := fun b off hb => by
        obtain ⟨b', off', e1, e2, _⟩ := h.inp.2 (by omega)
        rw [hb] at e1
        cases e1
        exact h.prog_ne e2 (by omega)
      have hrd := read_next w.drew e.p _ h.drew.run e.inp (h.inp.below h.drew.below) hlt (by show e.inp.length ≤ 100000; omega) hne
      have hC9 : Chg [e.p] w.drew (w.drew.setCell ⟨e.p, 9, none⟩ (.int .i64 ((s.reads : Int) + 1))) := (Chg.refl _ _).setCell e.p 9 _ (.inl (by simp))
      have h9 := h.drew.rn s.steps (s.reads + 1) (h.drew.run.set 9 _ _ rfl) hC9
      have ht9 : TopAt e q (w.drew.setCell ⟨e.p, 9, none⟩ (.int .i64 ((s.reads : Int) + 1))) c cs cb rb bs a := ⟨ht.hbs, (setCell_other w.drew e.p 9 _ cb ncp).trans ht.cl, (setCell_other w.drew e.p 9 _ rb nrp).trans ht.rg, ht.fn, o1, o2⟩
      refine (do_8 w _ e.p cb rb g o _ k c.regs _ (hx.kind h hk) x2 hkl c1 ht.rg rfl (by omega) ncr ngr ncp ngp nrp hrd hC9).mono ?_
      rintro en w' ⟨rfl, hr, hC⟩
      exact ⟨rfl, q, h9.setReg hcs ht9 k _ hr hC⟩
    · rw [if_neg hlt]
      have hrd := read_end w.drew e.p _ h.drew.run (by show s.reads = e.inp.length; omega)
      refine (do_8 w w.drew e.p cb rb g o _ k c.regs 0 (hx.kind h hk) x2 hkl c1 ht.rg rfl (by omega) ncr ngr ncp ngp nrp (hrd.mono fun _ _ ⟨h1, h2⟩ => ⟨h1, h2.symm⟩) (Chg.refl _ _)).mono ?_
      rintro en w' ⟨rfl, hr, hC⟩
      exact ⟨rfl, q, h.drew.setReg hcs (ht.drewN 1) k _ hr hC⟩
  · obtain ⟨j, ha, hjl⟩ := reg_nat (mayI_a hm (by omega)) hrl
    have x3 := hx.at h 3 _ rfl
    rw [ha] at x3
    have p7 := h.rcell 7 _ rfl
    have ntg : g ∉ blk q.tA := fun hm => by have := h.ownt _ hm; exact h.prog_ne hx.1 (b := g) (by omega) rfl
    unfold insP
    rw [if_neg (by omega), if_neg (by omega), if_neg (by omega), if_neg (by omega), if_neg (by omega), if_neg (by omega), if_neg (by omega), if_neg (by omega), ha]
    refine (do_9 w e.p cb rb g o _ j _ q.tc c.regs s.tr q.tA (hx.kind h hk) x3 hjl c1 ht.rg rfl (by omega) p7 (h.rfree 7) h.tr (by show s.tr.length ≤ 100000; omega) ncp ngp nrp (fun hm => by have := h.ownt _ hm; omega) ntg (fun hm => by have := h.ownt _ hm; omega) (fun hm => by have := h.ownt _ hm; omega)).mono ?_
    intro en w' hP
    exact h.print hP
end
end Go.Proofs.Ytcanjkjpdnbcnaa
namespace Go.Proofs.Ytcanjkjpdnbcnaa
open Go.RowKit
set_option linter.unusedVariables false
set_option linter.unusedSimpArgs false
set_option maxRecDepth 100000

/-- Where a block's cells lie, ahead of the run. -/
def BlP (w0 : World) (g o : Nat) (b : MBl) : Prop := g < w0.heap.size ∧ b.In w0 ∧ ∀ j v, b.cells[j]? = some v → w0.cell? ⟨g, o + j, none⟩ = some v
section
variable {e : Env} {q : Plc} {w w' : World} {s : PS} {c c2 : PC} {cs : List PC} {cb rb : Nat} {bs : List Nat} {a : Addr} {g o : Nat} {b : MBl}
theorem BlP.at (hx : BlP e.w0 g o b) (h : MachAt e q w s) (j : Nat) (v : Value) (hj : b.cells[j]? = some v) : w.cell? ⟨g, o + j, none⟩ = some v := (h.below.cell (p := ⟨g, o + j, none⟩) hx.1).trans (hx.2.2 j v hj)
theorem MachAt.goto (h : MachAt e q w s) (hcs : s.calls = c :: cs) (ht : TopAt e q w c cs cb rb bs a) (t : Int)
    (hr : ClAt w' cb ⟨some a, some ⟨rb, 0, none⟩, c.regs.length, c.regs.length, t, 0, c.d⟩) (hC : Chg [cb] w w') : MachAt e q w' (s.top { c with block := t, done := 0 } cs) := by
  have o1 := ht.ocb
  have o2 := ht.orb
  refine h.top hcs ht.hbs { c with block := t, done := 0 } hC (fun b hb => by rw [List.mem_singleton] at hb; subst hb; omega) ⟨rb, a, hr, ?_, ht.fn, o1, o2⟩
  exact ht.rg.same (hC.same rb (h.old rb (by omega)).2 (by rw [List.mem_singleton]; exact own_ne (own := q.own) (by rw [o1, o2]; omega)))
/-- Where the line of calls lies. -/
theorem MachAt.lineAt (h : MachAt e q w s) (n : Nat) (hn : s.calls.length = n + 1) : ∃ kb off, q.kA = some ⟨kb, off, none⟩ ∧ n + 1 ≤ q.kc ∧ kb ≠ e.p ∧ ∀ i, i < n + 1 → w.cell? ⟨kb, off + i, none⟩ = (ptrsOf q.bs)[i]? := by
  have hl := h.line
  rw [hn] at hl
  obtain ⟨kb, off, e1, e2, e3, _⟩ := hl.at (by omega)
  refine ⟨kb, off, e1, hl.2.1, own_ne (own := q.own) (by rw [h.ownk kb (mem_blk.2 ⟨_, e1, rfl⟩), h.ownp]; omega), fun i hi => e3 i (by omega)⟩
theorem ptrsOf_top (b : Nat) (bs : List Nat) : (ptrsOf (b :: bs))[bs.length]? = some (.pointer (some ⟨b, 0, none⟩)) := by
  rw [ptrsOf_cons, List.getElem?_append_right (by rw [ptrsOf_length]; exact Nat.le_refl _), ptrsOf_length, Nat.sub_self]
  rfl
theorem ptrsOf_next (b b2 : Nat) (bs : List Nat) : (ptrsOf (b :: b2 :: bs))[bs.length]? = some (.pointer (some ⟨b2, 0, none⟩)) := by
  rw [ptrsOf_cons, List.getElem?_append_left (by rw [ptrsOf_length]; simp)]
  exact ptrsOf_top b2 bs
theorem end_mach (h : MachAt e q w s) (hcs : s.calls = c :: cs) (ht : TopAt e q w c cs cb rb bs a) (hx : BlP e.w0 g o b) (hb : BlOk b c.f.regs c.f.blocks.length) (hg : Good e.F e.G e.inp s) :
    Calls Try.prog 27 #[.pointer (some ⟨e.p, 0, none⟩), .pointer (some ⟨cb, 0, none⟩), .pointer (some ⟨g, o, none⟩)] w (Out e (endP s c cs b)) := by
  have hca := hg.calls
  rw [hcs] at hca
  have hc := hca.1
  have hrl := hc.regs
  have hrb := hc.fn.regs
  have hnl : c.regs.length ≤ 4096 := by omega
  have hlb := h.calls
  rw [hcs, ht.hbs] at hlb
  have hbl := hlb.2.length
  have b1 := hx.at h 1 _ rfl
  unfold BlOk at hb
  unfold endP
  rcases hb with ⟨hk, h1, h2⟩ | ⟨hk, h1, h2, h3, h4, h5, h6⟩ | ⟨hk, h5, h6⟩
  · rw [hk] at b1
    rw [if_pos hk]
    refine (end_jump w e.p cb g o _ b.go b1 (hx.at h 3 _ rfl) ht.cl).mono ?_
    rintro en w' ⟨rfl, hr, hC⟩
    exact ⟨rfl, q, h.goto hcs ht b.go hr hC⟩
  · rw [hk] at b1
    rw [if_neg (by omega), if_pos hk]
    obtain ⟨j, hj, hjl⟩ := reg_nat ⟨h5, h6⟩ hrl
    have b2 := hx.at h 2 _ rfl
    rw [hj] at b2 ⊢
    by_cases hz : c.get (j : Int) = 0
    · rw [if_neg (by rw [hz]; simp)]
      refine (end_branch_no w e.p cb rb g o _ j c.regs _ b.els b1 b2 (hx.at h 4 _ rfl) ht.cl ht.c1 ht.rg rfl hjl (by omega) hz).mono ?_
      rintro en w' ⟨rfl, hr, hC⟩
      exact ⟨rfl, q, h.goto hcs ht b.els hr hC⟩
    · rw [if_pos hz]
      refine (end_branch_yes w e.p cb rb g o _ j c.regs _ b.go b1 b2 (hx.at h 3 _ rfl) ht.cl ht.c1 ht.rg rfl hjl (by omega) hz).mono ?_
      rintro en w' ⟨rfl, hr, hC⟩
      exact ⟨rfl, q, h.goto hcs ht b.go hr hC⟩
  · rw [hk] at b1
    rw [if_neg (by omega), if_neg (by omega)]
    obtain ⟨j, hj, hjl⟩ := reg_nat ⟨h5, h6⟩ hrl
    have b2 := hx.at h 2 _ rfl
    rw [hj] at b2 ⊢
    obtain ⟨kb, off, hkA, hkc, hkp, hline⟩ := h.lineAt cs.length (by rw [hcs]; rfl)
    have p4 := h.rcell 4 _ rfl
    rw [hkA, hcs] at p4
    simp only [List.length_cons] at p4
    have c4 : w.cell? ⟨cb, 4, none⟩ = some (.int .i64 c.d) := by
      have h1 := ht.cl
      unfold ClAt at h1
      rw [cell_of_row _ _ 4 _ _ (0, 0) h1]
      rfl
    have hpop := h.drew.pop hcs ht.hbs
    unfold leaveP
    cases cs with
    | nil =>
      have k1 := hline 0 (by simp)
      rw [ht.hbs, Nat.add_zero] at k1
      have hb0 : bs = [] := List.length_eq_zero_iff.1 hbl
      subst hb0
      have p6 := h.rcell 6 _ rfl
      refine (end_done w e.p cb rb g o _ j c.regs (fun w' => w' = (w.drew.setCell ⟨e.p, 4, none⟩ (.slice (some ⟨kb, off, none⟩) 0 q.kc)).setCell ⟨e.p, 6, none⟩ (.int .i32 (c.regs.getD j 0))) b1 b2 ht.c1 ht.rg rfl hjl (by omega)
        (leave_last w.drew e.p cb kb off q.kc c.d (c.regs.getD j 0) 0 p4 (h.rfree 4) p6 (h.rfree 6) hkc k1 c4)).mono ?_
      rintro en w' ⟨he, rfl⟩
      have ht2 := hpop.toldV (c.regs.getD j 0)
      rw [hkA] at ht2
      exact ⟨he, ht2⟩
    | cons c2 cs2 =>
      simp only [List.length_cons] at hline p4 hkc hbl
      obtain ⟨cb2, bs2, rfl⟩ : ∃ cb2 bs2, bs = cb2 :: bs2 := by
        cases bs with
        | nil => simp at hbl
        | cons x y => exact ⟨x, y, rfl⟩
      simp only [List.length_cons] at hbl
      have hb2 : bs2.length = cs2.length := by omega
      have k1 := hline (cs2.length + 1) (by omega)
      have k2 := hline cs2.length (by omega)
      rw [ht.hbs] at k1 k2
      rw [← hb2] at k1 k2
      have e1 := ptrsOf_top cb (cb2 :: bs2)
      rw [List.length_cons] at e1
      rw [e1, hb2] at k1
      rw [ptrsOf_next, hb2] at k2
      obtain ⟨⟨rb2, a2, hcl2, hr2, hf2, o3, o4⟩, _⟩ := hlb.2
      have hf := hg.few
      rw [hcs] at hf
      simp only [List.length_cons] at hf
      have hd := hca.2.1 c2 rfl
      have hok2 := hca.2.2.1
      have hr2l := hok2.regs
      have hr2b := hok2.fn.regs
      have cc1 : w.cell? ⟨cb2, 1, none⟩ = some (.slice (some ⟨rb2, 0, none⟩) c2.regs.length c2.regs.length) := by
        unfold ClAt at hcl2
        rw [cell_of_row _ _ 1 _ _ (0, 0) hcl2]
        rfl
      dsimp only
      rw [hkA] at hpop
      rcases hd with hd | hd
      · rw [hd] at c4
        rw [if_neg (by omega)]
        refine (end_back w e.p cb rb g o _ j c.regs (fun w' => w' = w.drew.setCell ⟨e.p, 4, none⟩ (.slice (some ⟨kb, off, none⟩) (cs2.length + 1) q.kc)) b1 b2 ht.c1 ht.rg rfl hjl (by omega)
          (leave_none w.drew e.p cb kb off cs2.length q.kc (c.regs.getD j 0) p4 (h.rfree 4) hkc (by omega) k1 c4)).mono ?_
        rintro en w' ⟨rfl, rfl⟩
        exact ⟨rfl, _, hpop⟩
      · rw [if_pos hd.1]
        obtain ⟨k, hk2, hkl⟩ := reg_nat hd rfl
        rw [hk2] at c4 ⊢
        have op := h.ownp
        have n3 : rb2 ≠ e.p := own_ne (own := q.own) (by rw [o4, op]; omega)
        have n2 : cb2 ≠ e.p := own_ne (own := q.own) (by rw [o3, op]; omega)
        refine (end_back w e.p cb rb g o _ j c.regs (fun w' => w' = (w.drew.setCell ⟨e.p, 4, none⟩ (.slice (some ⟨kb, off, none⟩) (cs2.length + 1) q.kc)).setCell ⟨rb2, k, none⟩ (.int .i32 (c.regs.getD j 0))) b1 b2 ht.c1 ht.rg rfl hjl (by omega)
          (leave_set w.drew e.p cb cb2 rb2 kb off cs2.length q.kc _ k c2.regs (c.regs.getD j 0) p4 (h.rfree 4) hkc (by omega) k1 k2 c4 cc1 hr2 rfl hkl (by omega) hkp n2 n3)).mono ?_
        rintro en w' ⟨rfl, rfl⟩
        have hr2' : RegAt (w.drew.setCell ⟨e.p, 4, none⟩ (.slice (some ⟨kb, off, none⟩) (cs2.length + 1) q.kc)) rb2 c2.regs := (setCell_other w.drew e.p 4 _ rb2 n3).trans hr2
        have ht2 : TopAt e { q with bs := cb2 :: bs2, kA := some ⟨kb, off, none⟩ } (w.drew.setCell ⟨e.p, 4, none⟩ (.slice (some ⟨kb, off, none⟩) (cs2.length + 1) q.kc)) c2 cs2 cb2 rb2 bs2 a2 := ⟨rfl, (setCell_other w.drew e.p 4 _ cb2 n2).trans hcl2, hr2', hf2, o3, o4⟩
        exact ⟨rfl, _, hpop.setReg rfl ht2 k _ (hr2'.put k _) ((Chg.refl [rb2] _).setCell rb2 k _ (.inl (by simp)))⟩
end
end Go.Proofs.Ytcanjkjpdnbcnaa
namespace Go.Proofs.Ytcanjkjpdnbcnaa
open Go.RowKit
set_option linter.unusedVariables false
set_option linter.unusedSimpArgs false
set_option maxRecDepth 100000

theorem name_wp {P : Program} {c : Code} {Q : Exit → Act → World → Prop} {a : Act} {w : World} (h : ∀ W, W = w → c.wp P Q a W) : c.wp P Q a w := h w rfl
section
variable {e : Env} {q : Plc} {w w' : World} {s : PS} {c c2 : PC} {cs : List PC} {cb rb : Nat} {bs : List Nat} {a : Addr} {g o : Nat} {b : MBl}
/-- The steps are used up. -/
theorem step_open (h : MachAt e q w s) (hf : e.fuel ≤ (s.steps : Int)) :
    Calls Try.prog 20 #[.pointer (some ⟨e.p, 0, none⟩)] w fun en w' => Ends 5 en ∧ Told e w' 0 s := by
  have p8 : w.cell? ⟨e.p, 8, none⟩ = some (.int .i64 (s.steps : Int)) := h.rcell 8 _ rfl
  have p3 : w.cell? ⟨e.p, 3, none⟩ = some (.int .i64 e.fuel) := h.rcell 3 _ rfl
  have HT : Hid (∀ d, Told e (w.drewN d) 0 s) := Lib.hid (fun d => h.told.drewN d)
  generalize (s.steps : Int) = st at *
  generalize e.fuel = fu at *
  generalize e.p = p at *
  clear h
  go_enter Try.func20, Try.ntmps20
  go_wp2_with fail
  go_quiet (fail)
  go_wp2_with fail
  exact ⟨rfl, rfl, HT.out _⟩
/-- Where a function's blocks and a block's instructions lie. -/
theorem FnP.block {w0 : World} {a : Addr} {f : MFn} (h : FnP w0 a f) {k : Nat} {b : MBl} (hb : f.blocks[k]? = some b) :
    ∃ fg fo bg bo, a = ⟨fg, fo, none⟩ ∧ fg < w0.heap.size ∧ w0.cell? ⟨fg, fo + 3, none⟩ = some (.slice (some ⟨bg, bo, none⟩) f.blocksn f.blocksc) ∧ k < f.blocksn ∧ f.blocksn ≤ 9223372036854775807 ∧ BlP w0 bg (bo + k * 5) b := by
  obtain ⟨fg, fo, rfl, hfg, hin, hc⟩ := h
  have hk := (List.getElem?_eq_some_iff.1 hb).1
  have hl := hin.blocks.1
  obtain ⟨bg, bo, e1, e2, e3⟩ := hin.blocks.2.2 (by omega)
  have h3 := hc 3 _ rfl
  rw [e1] at h3
  have hR := hin.blocksR
  refine ⟨fg, fo, bg, bo, rfl, hfg, h3, by omega, by have := hR.2; unfold maxLen at this; omega, e2, hin.blocks.2.1 b (List.mem_of_getElem? hb), fun j v hj => ?_⟩
  exact e3 k b hb j v hj
theorem BlP.ins {w0 : World} {g o : Nat} {b : MBl} (h : BlP w0 g o b) {k : Nat} {x : MIn} (hx : b.ins[k]? = some x) :
    ∃ ig io, b.insA = some ⟨ig, io, none⟩ ∧ k < b.insn ∧ InP w0 ig (io + k * 8) x := by
  have hk := (List.getElem?_eq_some_iff.1 hx).1
  have hl := h.2.1.ins.1
  obtain ⟨ig, io, e1, e2, e3⟩ := h.2.1.ins.2.2 (by omega)
  exact ⟨ig, io, e1, by omega, e2, h.2.1.ins.2.1 x (List.mem_of_getElem? hx), fun j v hj => e3 k x hx j v hj⟩
theorem BlP.insn {w0 : World} {g o : Nat} {b : MBl} (h : BlP w0 g o b) : b.ins.length = b.insn ∧ b.insn ≤ 9223372036854775807 := ⟨h.2.1.ins.1, by have := h.2.1.insR.1; have := h.2.1.insR.2; unfold maxLen at this; omega⟩
theorem step_mach (h : MachAt e q w s) (hg : Good e.F e.G e.inp s) (hF : ∀ x f, e.F x = some f → FnOk e.F e.G f) (hI : ∀ v ∈ e.inp, I32 v) (hf : (s.steps : Int) < e.fuel) (hfu : e.fuel ≤ 80000) (hin : e.inp.length ≤ 90000) :
    Calls Try.prog 20 #[.pointer (some ⟨e.p, 0, none⟩)] w (Out e (stepP e.F e.inp s)) := by
  have htr := hg.tr
  have hcl := hg.calls
  obtain ⟨c, cs, hcs⟩ : ∃ c cs, s.calls = c :: cs := by
    cases hc : s.calls with
    | nil => exact absurd hc hg.some
    | cons c cs => exact ⟨c, cs, rfl⟩
  rw [hcs] at hcl
  have hok := hcl.1
  obtain ⟨cb, rb, bs, a, ht⟩ := h.topAt hcs
  have hblk := hok.block
  obtain ⟨kk, hkk, hkl⟩ := reg_nat hblk rfl
  obtain ⟨b, hb⟩ : ∃ b, c.f.blocks[kk]? = some b := ⟨_, List.getElem?_eq_getElem hkl⟩
  obtain ⟨fg, fo, bg, bo, rfl, hfg, hf3, hkn, hnb, hbp⟩ := ht.fn.block hb
  obtain ⟨hil, hib⟩ := hbp.insn
  have hdl : c.done ≤ b.ins.length := hok.done b (by rw [hkk]; exact hb)
  obtain ⟨kb, off, hkA, hkc, hkp, hline⟩ := h.lineAt cs.length (by rw [hcs]; rfl)
  have hbl : bs.length = cs.length := by
    have := h.calls
    rw [hcs, ht.hbs] at this
    exact this.2.length
  have k1 := hline cs.length (by omega)
  rw [ht.hbs, ← hbl, ptrsOf_top, hbl] at k1
  have hfew := hg.few
  rw [hcs] at hfew
  simp only [List.length_cons] at hfew
  have p8 : w.cell? ⟨e.p, 8, none⟩ = some (.int .i64 (s.steps : Int)) := h.rcell 8 _ rfl
  have p3 : w.cell? ⟨e.p, 3, none⟩ = some (.int .i64 e.fuel) := h.rcell 3 _ rfl
  have f8 : w.frozen? ⟨e.p, 8, none⟩ = false := h.rfree 8
  -- behind the step's count
  have hb1 : ∀ d, MachAt e q ((w.drewN d).setCell ⟨e.p, 8, none⟩ (.int .i64 ((s.steps : Int) + 1))) { s with steps := s.steps + 1 } := fun d =>
    (h.drewN d).rn (s.steps + 1) s.reads ((h.drewN d).run.set 8 _ _ rfl) ((Chg.refl _ _).setCell e.p 8 _ (.inl (by simp)))
  have o1 := ht.ocb
  have o2 := ht.orb
  have op := h.ownp
  have ncp : cb ≠ e.p := own_ne (own := q.own) (by rw [o1, op]; omega)
  have nrp : rb ≠ e.p := own_ne (own := q.own) (by rw [o2, op]; omega)
  have ht1 : ∀ d, TopAt e q ((w.drewN d).setCell ⟨e.p, 8, none⟩ (.int .i64 ((s.steps : Int) + 1))) c cs cb rb bs ⟨fg, fo, none⟩ := fun d => ⟨ht.hbs, (setCell_other (w.drewN d) e.p 8 _ cb ncp).trans ht.cl, (setCell_other (w.drewN d) e.p 8 _ rb nrp).trans ht.rg, ht.fn, o1, o2⟩
  have hk1 : ∀ d, ((w.drewN d).setCell ⟨e.p, 8, none⟩ (.int .i64 ((s.steps : Int) + 1))).cell? ⟨kb, off + cs.length, none⟩ = some (.pointer (some ⟨cb, 0, none⟩)) := fun d => (World.cell?_setCell_far _ _ _ _ (fun e => hkp e.symm)).trans k1
  have HM1 := Lib.hid hb1
  have HT1 := Lib.hid ht1
  have HK1 := Lib.hid hk1
  have hg1 : Good e.F e.G e.inp { s with steps := s.steps + 1 } := ⟨hg.calls, hg.some, hg.few, hg.words, by show s.tr.length ≤ s.steps + 1; omega, hg.trv, hg.reads⟩
  have HS : Hid (s.calls = c :: cs ∧ s.tr.length ≤ s.steps) := Lib.hid ⟨hcs, htr⟩
  obtain ⟨n, hn⟩ : ∃ n, cs.length = n := ⟨_, rfl⟩
  rw [hn] at hkc HK1 hfew
  have HP4 : Hid (∀ W, MachAt e q W { s with steps := s.steps + 1 } → W.cell? ⟨e.p, 4, none⟩ = some (.slice (some ⟨kb, off, none⟩) (n + 1) q.kc)) := Lib.hid (fun W hW => by
    have := hW.rcell 4 _ rfl
    rw [hkA] at this
    simp only [hcs, List.length_cons, hn] at this
    exact this)
  have HFC : Hid (∀ W, MachAt e q W { s with steps := s.steps + 1 } → W.cell? ⟨fg, fo + 3, none⟩ = some (.slice (some ⟨bg, bo, none⟩) c.f.blocksn c.f.blocksc)) := Lib.hid (fun W hW => (hW.below.cell (p := ⟨fg, fo + 3, none⟩) hfg).trans hf3)
  have HBC : Hid (∀ W s', MachAt e q W s' → W.cell? ⟨bg, bo + kk * 5, none⟩ = some (.slice b.insA b.insn b.insc)) := Lib.hid (fun W s' hW => hbp.at hW 0 _ rfl)
  have hst0 : (0 : Int) ≤ (s.steps : Int) := by omega
  have hfu1 : ¬ e.fuel ≤ (s.steps : Int) := by omega
  have hst1 : (s.steps : Int) ≤ 80000 := by omega
  have hkk0 : (0 : Int) ≤ (kk : Int) := by omega
  have hkkn : (kk : Int) < (c.f.blocksn : Int) := by omega
  have hnb2 : (c.f.blocksn : Int) ≤ 9223372036854775807 := by omega
  have hn0 : (0 : Int) ≤ (n : Int) := by omega
  have hn1 : (n : Int) ≤ 40 := by omega
  have hn2 : ((n + 1 : Nat) : Int) - 1 = (n : Int) := by omega
  have hkc2 : (n : Int) < ((n + 1 : Nat) : Int) := by omega
  have HG := Lib.hid hg1
  have HBP := Lib.hid hbp
  have HKK := Lib.hid hkk
  have HB := Lib.hid hb
  have HCL := Lib.hid hok
  have HDL := Lib.hid hdl
  have HIL := Lib.hid hil
  have HH := Lib.hid h
  clear hb1 ht1 hk1 hcl h hg hg1 ht hcs hf hok hblk hb hfg hf3 hbp hil hdl hline hbl k1 htr o1 o2 op hkk hkA
  obtain ⟨q2, hq2⟩ : ∃ q2, n + 1 = q2 := ⟨_, rfl⟩
  rw [hq2] at HP4 hn2 hkc2
  have hq3 : (q2 : Int) ≤ 41 := by omega
  have hq4 : (1 : Int) ≤ (q2 : Int) := by omega
  clear hq2 hkc hn
  go_enter Try.func20, Try.ntmps20
  go_wp2_with fail
  go_quiet (fail)
  go_upto_region 3 with fail
  obtain ⟨W1, hW1⟩ : ∃ W1, (w.drewN nq).setCell ⟨e.p, 8, none⟩ (.int .i64 ((s.steps : Int) + 1)) = W1 := ⟨_, rfl⟩
  rw [hW1]
  have HM1 : Hid (MachAt e q W1 { s with steps := s.steps + 1 }) := Lib.hid (hW1 ▸ HM1.out nq)
  have HT1 : Hid (TopAt e q W1 c cs cb rb bs ⟨fg, fo, none⟩) := Lib.hid (hW1 ▸ HT1.out nq)
  have k1 : W1.cell? ⟨kb, off + n, none⟩ = some (.pointer (some ⟨cb, 0, none⟩)) := by rw [← hW1]; exact HK1.out nq
  clear HK1 hW1 p8 p3 f8
  have p4 := HP4.out W1 HM1.out
  have c0 : W1.cell? ⟨cb, 0, none⟩ = some (.pointer (some ⟨fg, fo, none⟩)) := by
    have h1 := HT1.out.cl
    unfold ClAt at h1
    rw [cell_of_row _ _ 0 _ _ (0, 0) h1]; rfl
  have c2 : W1.cell? ⟨cb, 2, none⟩ = some (.int .i64 (kk : Int)) := by
    have h1 := HT1.out.cl
    unfold ClAt at h1
    rw [cell_of_row _ _ 2 _ _ (0, 0) h1, ← HKK.out]; rfl
  have c3 : W1.cell? ⟨cb, 3, none⟩ = some (.int .i64 (c.done : Int)) := by
    have h1 := HT1.out.cl
    unfold ClAt at h1
    rw [cell_of_row _ _ 3 _ _ (0, 0) h1]; rfl
  have f3 : W1.frozen? ⟨cb, 3, none⟩ = false := by
    have h1 := HT1.out.cl
    unfold ClAt at h1
    simp [World.frozen?, h1]
  have fc := HFC.out W1 HM1.out
  have bc := HBC.out W1 _ HM1.out
  by_cases hdn : c.done = b.insn
  · have HO : Hid (stepP e.F e.inp s = endP { s with steps := s.steps + 1 } c cs b) := Lib.hid (by
      unfold stepP
      rw [HS.out.1]
      dsimp only
      rw [HKK.out, Int.toNat_natCast, HB.out]
      dsimp only
      rw [List.getElem?_eq_none (by rw [HIL.out, hdn]; exact Nat.le_refl _)])
    have HE : Hid (∀ d, Calls Try.prog 27 #[.pointer (some ⟨e.p, 0, none⟩), .pointer (some ⟨cb, 0, none⟩), .pointer (some ⟨bg, bo + kk * 5, none⟩)] (W1.drewN d) (Out e (endP { s with steps := s.steps + 1 } c cs b))) := Lib.hid (fun d =>
      end_mach (HM1.out.drewN d) HS.out.1 (HT1.out.drewN d) HBP.out (HCL.out.fn.bl b (List.mem_of_getElem? HB.out)) HG.out)
    rw [hdn] at c3
    clear HS HKK HB HIL HH HM1 HT1 HG HBP HCL HDL HFC HBC HP4
    generalize endP { s with steps := s.steps + 1 } c cs b = O at *
    generalize b.insA = iA at *
    generalize b.insn = inn at *
    generalize b.insc = ic at *
    clear hdn
    go_quiet (fail)
    go_wp2_with fail
    go_quiet (fail)
    go_wp2_with fail
    go_quiet (fail)
    go_wp2_with fail
    refine (HE.out _).mono ?_
    intro en w' hO
    cases O with
    | go s' =>
      obtain ⟨rfl, hq⟩ := hO
      have HQ := Lib.hid hq
      clear hq
      go_wp2_with fail
      exact bodyPost_end (results_none rfl _ _ _) rfl (by show Out e (stepP e.F e.inp s) _ _; rw [HO.out]; exact ⟨rfl, HQ.out⟩)
    | fin k v s' =>
      obtain ⟨he, hT⟩ := hO
      have HT := Lib.hid hT
      clear hT
      unfold Ends at he
      subst he
      exact ⟨rfl, by show Out e (stepP e.F e.inp s) _ _; rw [HO.out]; exact ⟨rfl, HT.out⟩⟩
  · obtain ⟨x, hx⟩ : ∃ x, b.ins[c.done]? = some x := ⟨_, List.getElem?_eq_getElem (by have := HDL.out; have := HIL.out; omega)⟩
    obtain ⟨ig, io, hiA, hdi, hxp⟩ := HBP.out.ins hx
    have HO : Hid (stepP e.F e.inp s = insP e.F e.inp (PS.top { s with steps := s.steps + 1 } { c with done := c.done + 1 } cs) { c with done := c.done + 1 } cs x) := Lib.hid (by
      unfold stepP
      rw [HS.out.1]
      dsimp only
      rw [HKK.out, Int.toNat_natCast, HB.out]
      dsimp only
      rw [hx])
    have hc1 : CallOk e.F e.G { c with done := c.done + 1 } := ⟨HCL.out.fn, HCL.out.regs, HCL.out.vals, HCL.out.block, fun b2 h2 => by
      have h2' : c.f.blocks[c.block.toNat]? = some b2 := h2
      rw [HKK.out, Int.toNat_natCast, HB.out] at h2'
      cases h2'
      have := HIL.out
      show c.done + 1 ≤ b.ins.length
      omega⟩
    have hg2 := HG.out.top (c' := { c with done := c.done + 1 }) HS.out.1 hc1 rfl
    have o1 := HT1.out.ocb
    have o2 := HT1.out.orb
    have hM2 : ∀ d, MachAt e q ((W1.drewN d).setCell ⟨cb, 3, none⟩ (.int .i64 ((c.done : Int) + 1))) (PS.top { s with steps := s.steps + 1 } { c with done := c.done + 1 } cs) ∧ TopAt e q ((W1.drewN d).setCell ⟨cb, 3, none⟩ (.int .i64 ((c.done : Int) + 1))) { c with done := c.done + 1 } cs cb rb bs ⟨fg, fo, none⟩ := fun d => by
      have hcl : ClAt ((W1.drewN d).setCell ⟨cb, 3, none⟩ (.int .i64 ((c.done : Int) + 1))) cb ⟨some ⟨fg, fo, none⟩, some ⟨rb, 0, none⟩, c.regs.length, c.regs.length, c.block, ((c.done + 1 : Nat) : Int), c.d⟩ := ClAt.set (w := W1.drewN d) HT1.out.cl 3 _ _ rfl
      have hrg : RegAt ((W1.drewN d).setCell ⟨cb, 3, none⟩ (.int .i64 ((c.done : Int) + 1))) rb c.regs := (setCell_other (W1.drewN d) cb 3 _ rb (own_ne (own := q.own) (by rw [o1, o2]; omega))).trans HT1.out.rg
      exact ⟨(HM1.out.drewN d).top HS.out.1 HT1.out.hbs { c with done := c.done + 1 } ((Chg.refl [cb] _).setCell cb 3 _ (.inl (by simp))) (fun k hk => by rw [List.mem_singleton] at hk; subst hk; omega) ⟨rb, _, hcl, hrg, HT1.out.fn, o1, o2⟩, HT1.out.hbs, hcl, hrg, HT1.out.fn, o1, o2⟩
    have HD : Hid (∀ d, Calls Try.prog 28 #[.pointer (some ⟨e.p, 0, none⟩), .pointer (some ⟨cb, 0, none⟩), .pointer (some ⟨ig, io + c.done * 8, none⟩)] ((W1.drewN d).setCell ⟨cb, 3, none⟩ (.int .i64 ((c.done : Int) + 1))).drew (Out e (insP e.F e.inp (PS.top { s with steps := s.steps + 1 } { c with done := c.done + 1 } cs) { c with done := c.done + 1 } cs x))) := Lib.hid (fun d =>
      do_mach (hM2 d).1.drew rfl ((hM2 d).2.drewN 1) hxp (HCL.out.fn.ins b (List.mem_of_getElem? HB.out) x (List.mem_of_getElem? hx)) hg2 hF (by show s.tr.length ≤ 90000; have := HS.out.2; omega) hin)
    have HB2 : Hid (∀ d, ((W1.drewN d).setCell ⟨cb, 3, none⟩ (.int .i64 ((c.done : Int) + 1))).cell? ⟨bg, bo + kk * 5, none⟩ = some (.slice (some ⟨ig, io, none⟩) b.insn b.insc) ∧ ((W1.drewN d).setCell ⟨cb, 3, none⟩ (.int .i64 ((c.done : Int) + 1))).cell? ⟨cb, 3, none⟩ = some (.int .i64 ((c.done : Int) + 1))) := Lib.hid (fun d =>
      ⟨by rw [← hiA]; exact HBC.out _ _ (hM2 d).1, World.cell?_setCell_same (W1.drewN d) _ _ c3⟩)
    rw [hiA] at bc
    clear HS HKK HB HIL HH HM1 HT1 HG HBP HCL HDL HFC HBC HP4 hM2 hc1 hg2 o1 o2 hx hiA hxp
    generalize insP e.F e.inp (PS.top { s with steps := s.steps + 1 } { c with done := c.done + 1 } cs) { c with done := c.done + 1 } cs x = O at *
    generalize b.insA = iA at *
    generalize b.insn = inn at *
    generalize b.insc = ic at *
    have hd1 : (c.done : Int) < (inn : Int) := by omega
    have hd0 : (0 : Int) ≤ (c.done : Int) := by omega
    have hdb : ((c.done : Int) == (inn : Int)) = false := by simp; omega
    have hdm : (inn : Int) ≤ 9223372036854775807 := by omega
    generalize c.done = dn at *
    go_quiet (fail)
    go_wp2_with fail
    go_quiet (fail)
    go_wp2_with fail
    go_quiet (fail)
    go_upto_region 8 with fail
    refine name_wp (fun W2 hW2 => ?_)
    have b2 : W2.cell? ⟨bg, bo + kk * 5, none⟩ = some (.slice (some ⟨ig, io, none⟩) inn ic) := by rw [hW2]; exact (HB2.out _).1
    have d2 : W2.cell? ⟨cb, 3, none⟩ = some (.int .i64 ((dn : Int) + 1)) := by rw [hW2]; exact (HB2.out _).2
    have HD2 : Hid (Calls Try.prog 28 #[.pointer (some ⟨e.p, 0, none⟩), .pointer (some ⟨cb, 0, none⟩), .pointer (some ⟨ig, io + dn * 8, none⟩)] W2.drew (Out e O)) := Lib.hid (by rw [hW2]; exact HD.out _)
    clear HD HB2 hW2
    have wr1 : IntKind.i64.wrap ((dn : Int) + 1 - 1) = (dn : Int) := by rw [show (dn : Int) + 1 - 1 = (dn : Int) by omega]; exact IntWalk.i64_in _ (by omega)
    have wr2 : IntKind.i64.wrap (dn : Int) = (dn : Int) := IntWalk.i64_in _ (by omega)
    go_still_tail 12, (by kernel_rfl)
    change wpList _ _ _ _ _ (World.drew _)
    go_wp2_with fail
    refine HD2.out.mono ?_
    intro en w' hO
    cases O with
    | go s' =>
      obtain ⟨rfl, hq⟩ := hO
      have HQ := Lib.hid hq
      clear hq
      go_wp2_with fail
      exact bodyPost_end (results_none rfl _ _ _) rfl (by show Out e (stepP e.F e.inp s) _ _; rw [HO.out]; exact ⟨rfl, HQ.out⟩)
    | fin k v s' =>
      obtain ⟨he, hT⟩ := hO
      have HT := Lib.hid hT
      clear hT
      unfold Ends at he
      subst he
      exact ⟨rfl, by show Out e (stepP e.F e.inp s) _ _; rw [HO.out]; exact ⟨rfl, HT.out⟩⟩
end
end Go.Proofs.Ytcanjkjpdnbcnaa
namespace Go.Proofs.Ytcanjkjpdnbcnaa
open Go.RowKit
set_option linter.unusedVariables false
set_option linter.unusedSimpArgs false
set_option maxRecDepth 100000

set_option maxHeartbeats 1600000 in
theorem run1_pan (k : Int) (older : List PanicEntry) (xb rr p : Nat) (w : World) (r : Rn) (a0 a1 a2 a3 a4 : Value) (h0 : w.heap[xb]? = some (.cells #[.pointer (some ⟨p, 0, none⟩)] 49 (0, 0))) (h1 : w.heap[rr]? = some (.cells #[a0, a1, a2, a3, a4] 32 (0, 0))) (hr : RnAt w p r) (n1 : xb ≠ p) (n2 : rr ≠ p) (n3 : xb ≠ rr) :
    CallsD Try.prog 17 #[.pointer (some ⟨xb, 0, none⟩), .pointer (some ⟨rr, 0, none⟩)] (.panicking ({ v := .iface 55 (.int .i64 k), recovered := false } :: older)) w fun e u' w' => e = .returned (.tuple #[]) ∧ u' = .panicking ({ v := .iface 55 (.int .i64 k), recovered := true } :: older) ∧ Chg [p, rr] w w' ∧ w'.heap[rr]? = some (.cells #[.int .i64 k, .int .i32 r.value, .slice r.tA r.tn r.tc, .int .i64 r.steps, .int .i64 (r.reads : Int)] 32 (0, 0)) := by
  refine callsD_of_wpS Try.func17 rfl fun c₀ cs hu => ?_
  apply wpS_seq
  apply wpS_region
  simp [wpOpsS, go_sem, recoverD, hu, Try.ntmps17, Exit.thenS]
  refine wpS_of_wp ?_
  have hta : ∀ W : World, (Instr.typeAssert (.iface 55 (.int .i64 k)) 20 55 true).run Try.prog W = .ok (.tuple #[.int .i64 k, .bool true]) W := fun W => by kernel_rfl
  have hrep : (#[Value.pointer (some ⟨xb, 0, none⟩), .pointer (some ⟨rr, 0, none⟩)] ++ (Array.replicate 16 undef).setIfInBounds 2 (.iface 55 (.int .i64 k)) : Array Value) = #[.pointer (some ⟨xb, 0, none⟩), .pointer (some ⟨rr, 0, none⟩), undef, undef, .iface 55 (.int .i64 k), undef, undef, undef, undef, undef, undef, undef, undef, undef, undef, undef, undef, undef] := by rfl
  try rw [hrep]
  clear hrep
  have HR0 := hr
  unfold RnAt at hr
  have G1 := Lib.hid h1
  have HU := Lib.hid hu
  have x0 := cell_of_one h0
  obtain ⟨W1, hW1⟩ : ∃ W1, w.setCell ⟨p, 5, none⟩ (.int .i64 k) = W1 := ⟨_, rfl⟩
  have hr1 : RnAt W1 p { r with fin := k } := by rw [← hW1]; exact HR0.set 5 _ _ rfl
  have g0 : W1.heap[xb]? = some (.cells #[.pointer (some ⟨p, 0, none⟩)] 49 (0, 0)) := by rw [← hW1]; exact (setCell_other w p 5 _ xb n1).trans h0
  have g1 : W1.heap[rr]? = some (.cells #[a0, a1, a2, a3, a4] 32 (0, 0)) := by rw [← hW1]; exact (setCell_other w p 5 _ rr n2).trans h1
  have y5 : w.cell? ⟨p, 5, none⟩ = some (.int .i64 r.fin) := by rw [cell_of_row _ p 5 _ _ (0, 0) hr]; rfl
  have f5 : w.frozen? ⟨p, 5, none⟩ = false := frozen_of_row _ p 5 _ _ hr
  have x1 := cell_of_one g0
  unfold RnAt at hr1
  have z5 : W1.cell? ⟨p, 5, none⟩ = some (.int .i64 k) := by rw [cell_of_row _ p 5 _ _ (0, 0) hr1]; rfl
  have z6 : W1.cell? ⟨p, 6, none⟩ = some (.int .i32 r.value) := by rw [cell_of_row _ p 6 _ _ (0, 0) hr1]; rfl
  have z7 : W1.cell? ⟨p, 7, none⟩ = some (.slice r.tA r.tn r.tc) := by rw [cell_of_row _ p 7 _ _ (0, 0) hr1]; rfl
  have z8 : W1.cell? ⟨p, 8, none⟩ = some (.int .i64 r.steps) := by rw [cell_of_row _ p 8 _ _ (0, 0) hr1]; rfl
  have z9 : W1.cell? ⟨p, 9, none⟩ = some (.int .i64 (r.reads : Int)) := by rw [cell_of_row _ p 9 _ _ (0, 0) hr1]; rfl
  have s0 : W1.cell? ⟨rr, 0, none⟩ = some a0 := by rw [cell_of_row _ rr 0 _ _ (0, 0) g1]; rfl
  have s1 : W1.cell? ⟨rr, 1, none⟩ = some a1 := by rw [cell_of_row _ rr 1 _ _ (0, 0) g1]; rfl
  have s2 : W1.cell? ⟨rr, 2, none⟩ = some a2 := by rw [cell_of_row _ rr 2 _ _ (0, 0) g1]; rfl
  have s3 : W1.cell? ⟨rr, 3, none⟩ = some a3 := by rw [cell_of_row _ rr 3 _ _ (0, 0) g1]; rfl
  have s4 : W1.cell? ⟨rr, 4, none⟩ = some a4 := by rw [cell_of_row _ rr 4 _ _ (0, 0) g1]; rfl
  have t0 := frozen_of_row _ rr 0 _ _ g1
  have t1 := frozen_of_row _ rr 1 _ _ g1
  have t2 := frozen_of_row _ rr 2 _ _ g1
  have t3 := frozen_of_row _ rr 3 _ _ g1
  have t4 := frozen_of_row _ rr 4 _ _ g1
  have G2 := Lib.hid g1
  have HC1 : Hid (Chg [p, rr] w W1) := Lib.hid (by rw [← hW1]; exact (Chg.refl _ w).setCell p 5 _ (.inl (by simp)))
  clear h0 h1 hr hr1 HR0 g0 g1 hu
  go_wp2_with fail
  obtain ⟨w2, hw2⟩ : ∃ w2, (((((W1.setCell ⟨rr, 0, none⟩ (.int .i64 k)).setCell ⟨rr, 1, none⟩ (.int .i32 r.value)).setCell ⟨rr, 2, none⟩ (.slice r.tA r.tn r.tc)).setCell ⟨rr, 3, none⟩ (.int .i64 r.steps)).setCell ⟨rr, 4, none⟩ (.int .i64 (r.reads : Int))) = w2 := ⟨_, rfl⟩
  rw [hw2]
  have q0 : w2.heap[rr]? = some (.cells #[.int .i64 k, .int .i32 r.value, .slice r.tA r.tn r.tc, .int .i64 r.steps, .int .i64 (r.reads : Int)] 32 (0, 0)) := by rw [← hw2]; simp [World.setCell, Array.getElem?_modify, G2.out]
  have hc : Chg [p, rr] w w2 := by
    rw [← hw2]
    exact (((((HC1.out.setCell rr 0 _ (.inl (by simp))).setCell rr 1 _ (.inl (by simp))).setCell rr 2 _ (.inl (by simp))).setCell rr 3 _ (.inl (by simp))).setCell rr 4 _ (.inl (by simp)))
  clear hw2
  have hu := HU.out
  clear G1 G2 HC1 HU x0 x1 y5 f5 z5 z6 z7 z8 z9 s0 s1 s2 s3 s4 t0 t1 t2 t3 t4 hW1 hta
  cases c₀
  simp_all [bodyPostS, results, Try.results17]
end Go.Proofs.Ytcanjkjpdnbcnaa
namespace Go.Proofs.Ytcanjkjpdnbcnaa
open Go.RowKit
set_option linter.unusedVariables false
set_option linter.unusedSimpArgs false
set_option maxRecDepth 100000

/-- No two have one name. -/
def Apart {α : Type} (nm : α → ByteArray) (l : List α) : Prop := ∀ (i j : Nat) (a b : α), l[i]? = some a → l[j]? = some b → (nm a).data.toList = (nm b).data.toList → i = j
/-- A global's words ahead of a run. -/
def MGl.zeros (o : MGl) : List Int := List.replicate (max o.size 1).toNat 0
/-- Functions by name, so far. -/
def LayA (w wr : World) (p mb fm : Nat) (r : Rn) (box : Array Value) (FA : Option Addr) (fs : List MFn) (k : Nat) : Prop :=
  Chg [p] w wr ∧ RnAt wr p { r with fns := some fm } ∧ wr.heap[mb]? = some (.cells box 25 (0, 0)) ∧ w.heap.size ≤ fm ∧ mb < fm ∧
    ∃ φ, MapAt wr fm k φ ∧ ∀ j f, j < k → fs[j]? = some f → ∀ g off, FA = some ⟨g, off, none⟩ → φ f.name = some (.pointer (some ⟨g, off + j * 4, none⟩))
/-- Words by name, so far. -/
def LayB (w wr : World) (p mb fm wm : Nat) (r : Rn) (box : Array Value) (FA : Option Addr) (fs : List MFn) (gs : List MGl) (k : Nat) : Prop :=
  LayA w wr p mb fm { r with words := some wm } box FA fs fs.length ∧ fm < wm ∧
    ∃ (ω : ByteArray → Option Value) (wbs : List Nat), MapAt wr wm k ω ∧ wbs.length = k ∧ (∀ b ∈ wbs, wm < b ∧ b < wr.heap.size) ∧ wbs.Pairwise (· < ·) ∧ ∀ j o, j < k → gs[j]? = some o → ∃ b, wbs[j]? = some b ∧ ω o.name = some (.slice (some ⟨b, 0, none⟩) o.zeros.length o.zeros.length) ∧ RegAt wr b o.zeros
theorem LayA.grow {w wr w2 : World} {p mb fm : Nat} {r : Rn} {box : Array Value} {FA : Option Addr} {fs : List MFn} {k : Nat} (h : LayA w wr p mb fm r box FA fs k) (hb : Below wr.heap.size wr w2) : LayA w w2 p mb fm r box FA fs k := by
  obtain ⟨h1, h2, h3, h4, h5, φ, h6, h7⟩ := h
  exact ⟨h1.trans (Chg.of_below hb), (hb.block p (Array.getElem?_eq_some_iff.1 h2).1).trans h2, (hb.block mb (Array.getElem?_eq_some_iff.1 h3).1).trans h3, h4, h5, φ, h6.same (hb.block fm h6.lt), h7⟩
theorem LayA.other {w wr w2 : World} {p mb fm b : Nat} {r : Rn} {box : Array Value} {FA : Option Addr} {fs : List MFn} {k : Nat} (h : LayA w wr p mb fm r box FA fs k) (hc : Chg [b] wr w2) (hb : w.heap.size ≤ b) (h1 : b ≠ p) (h2 : b ≠ mb) (h3 : b ≠ fm) : LayA w w2 p mb fm r box FA fs k := by
  obtain ⟨g1, g2, g3, g4, g5, φ, g6, g7⟩ := h
  exact ⟨g1.andThen hc (fun k hk => by rw [List.mem_singleton] at hk; subst hk; exact .inr hb), (hc.same p (Array.getElem?_eq_some_iff.1 g2).1 (by simp [h1.symm])).trans g2, (hc.same mb (Array.getElem?_eq_some_iff.1 g3).1 (by simp [h2.symm])).trans g3, g4, g5, φ, g6.same (hc.same fm g6.lt (by simp [h3.symm])), g7⟩
theorem LayB.next {w wr w2 w3 : World} {p mb fm wm : Nat} {r : Rn} {box : Array Value} {FA : Option Addr} {fs : List MFn} {gs : List MGl} {k b : Nat} {o : MGl} (h : LayB w wr p mb fm wm r box FA fs gs k) (hp : p < w.heap.size) (hmb : w.heap.size ≤ mb) (ho : gs[k]? = some o) (hgs : Apart MGl.name gs)
    (hB : Below wr.heap.size wr w2) (hb : wr.heap.size ≤ b) (hb2 : b < w2.heap.size) (hr : RegAt w2 b o.zeros) (hsz : o.name.size ≤ maxLen) (hk : k ≤ 1000000) :
    ∃ w3, (Instr.mapUpdate 51 (.map (some wm)) (.string o.name) (.slice (some ⟨b, 0, none⟩) o.zeros.length o.zeros.length)).run Try.prog w2 = .ok () w3 ∧ Chg [wm] w2 w3 ∧ LayB w w3 p mb fm wm r box FA fs gs (k + 1) := by
  obtain ⟨hA, hfw, ω, wbs, hM, hl, hlt, hpw, hall⟩ := h
  have hwmlt := hM.lt
  have hM2 : MapAt w2 wm k ω := hM.same (hB.block wm hwmlt)
  obtain ⟨w3, hrun, hM3, hC⟩ := hM2.put 51 26 Try.underlying51 o.name hsz (.slice (some ⟨b, 0, none⟩) o.zeros.length o.zeros.length) hk
  have hz := hB.size
  have hA4 := hA.2.2.2.1
  have hA5 := hA.2.2.2.2.1
  refine ⟨w3, hrun, hC, (hA.grow hB).other hC (by omega) (by omega) (by omega) (by omega), hfw, _, wbs ++ [b], hM3, by simp [hl], fun c hc => ?_, ?_, fun j o2 hj hjo => ?_⟩
  · have hz3 := hC.size
    rcases List.mem_append.1 hc with h1 | h1
    · have := hlt c h1; omega
    · rw [List.mem_singleton] at h1; omega
  · rw [List.pairwise_append]
    exact ⟨hpw, List.pairwise_singleton _ _, fun x hx y hy => by rw [List.mem_singleton] at hy; have := hlt x hx; omega⟩
  · rcases Nat.lt_or_ge j k with h1 | h1
    · obtain ⟨c, hc1, hc2, hc3⟩ := hall j o2 h1 hjo
      have hcl := hlt c (List.mem_of_getElem? hc1)
      refine ⟨c, by rw [List.getElem?_append_left (by omega)]; exact hc1, ?_, ?_⟩
      · try dsimp only
        rw [if_neg (fun e => by have := hgs j k o2 o hjo ho e; omega)]
        exact hc2
      · exact (hc3.same (hB.block c hcl.2)).same (hC.same c (by omega) (by rw [List.mem_singleton]; omega))
    · obtain rfl : j = k := by omega
      rw [ho] at hjo
      cases hjo
      refine ⟨b, by rw [List.getElem?_append_right (by omega), hl, Nat.sub_self]; rfl, ?_, hr.same (hC.same b hb2 (by rw [List.mem_singleton]; omega))⟩
      try dsimp only
      rw [if_pos rfl]
set_option maxHeartbeats 6400000 in
theorem lay_any (w : World) (p : Nat) (r : Rn) (hr : RnAt w p r) (GA FA : Option Addr) (gn gc fn fc : Nat) (gs : List MGl) (fs : List MFn) (hg : MGls w GA gn gs) (hf : MFns w FA fn fs) (hgn : gn ≤ 1000) (hfn : fn ≤ 1000) (hgs : Apart MGl.name gs) (hfs : Apart MFn.name fs)
    (hgz : ∀ o ∈ gs, 0 ≤ o.size ∧ o.size ≤ 4096) (hgp : 0 < gn → ∀ g off, GA = some ⟨g, off, none⟩ → g ≠ p) (hfp : 0 < fn → ∀ g off, FA = some ⟨g, off, none⟩ → g ≠ p) :
    Calls Try.prog 18 #[.pointer (some ⟨p, 0, none⟩), .agg #[.slice GA gn gc, .slice FA fn fc]] w fun e w' => e = .returned (.tuple #[]) ∧ ∃ mb fm wm box, w.heap.size ≤ mb ∧ LayB w w' p mb fm wm r box FA fs gs gs.length := by
  have hmm := @run_makeMap Try.prog
  obtain ⟨box, hbox⟩ : ∃ box, (#[.slice GA gn gc, .slice FA fn fc] : Array Value) = box := ⟨_, rfl⟩
  have hp : p < w.heap.size := (Array.getElem?_eq_some_iff.1 hr).1
  obtain ⟨mb, hmb⟩ : ∃ mb, w.heap.size = mb := ⟨_, rfl⟩
  obtain ⟨Wx, hWx⟩ : ∃ Wx, w.alloc (.cells #[.slice GA gn gc, .slice FA fn fc] 25) = Wx := ⟨_, rfl⟩
  obtain ⟨Wy, hWy⟩ : ∃ Wy, Wx.alloc (.map #[] 0) = Wy := ⟨_, rfl⟩
  have hsx : Wx.heap.size = mb + 1 := by rw [← hWx, ← hmb]; simp
  have hBx : Below w.heap.size w Wx := by rw [← hWx]; exact (Below.refl _ w).alloc (Nat.le_refl _) _
  have hBy : Below Wx.heap.size Wx Wy := by rw [← hWy]; exact (Below.refl _ Wx).alloc (Nat.le_refl _) _
  have hBxy : Below w.heap.size w Wy := hBx.trans (hBy.mono hBx.size)
  have hsy : Wy.heap.size = mb + 2 := by rw [← hWy]; simp [hsx]
  have hbx : Wx.heap[mb]? = some (.cells box 25 (0, 0)) := by rw [← hWx, ← hmb, ← hbox]; exact heap_alloc_new w _
  have hby : Wy.heap[mb]? = some (.cells box 25 (0, 0)) := (hBy.block mb (by omega)).trans hbx
  have hry : RnAt Wy p r := (hBxy.block p hp).trans hr
  have hMy : MapAt Wy (mb + 1) 0 (fun _ => none) := by rw [← hWy, ← hsx]; exact MapAt.new Wx
  obtain ⟨Wz, hWz⟩ : ∃ Wz, Wy.setCell ⟨p, 0, none⟩ (.map (some (mb + 1))) = Wz := ⟨_, rfl⟩
  have hCz : Chg [p] Wy Wz := by rw [← hWz]; exact (Chg.refl _ _).setCell p 0 _ (.inl (by simp))
  have hA0 : LayA w Wz p mb (mb + 1) r box FA fs 0 := by
    refine ⟨(Chg.of_below hBxy).trans hCz, by rw [← hWz]; exact hry.set 0 _ _ rfl, (hCz.same mb (by omega) (by simp; omega)).trans hby, by omega, by omega, _, hMy.same (hCz.same (mb + 1) (by omega) (by simp; omega)), fun j f hj => by omega⟩
  unfold RnAt at hry
  have y0 : Wy.cell? ⟨p, 0, none⟩ = some (.map r.fns) := by rw [cell_of_row _ p 0 _ _ (0, 0) hry]; rfl
  have g0 : Wy.frozen? ⟨p, 0, none⟩ = false := frozen_of_row _ p 0 _ _ hry
  have b1 : Wz.cell? ⟨mb, 1, none⟩ = some (.slice FA fn fc) := by rw [cell_of_row _ mb 1 _ _ (0, 0) hA0.2.2.1, ← hbox]; rfl
  have HA0 := Lib.hid hA0
  have HG := Lib.hid hg
  have HF := Lib.hid hf
  have HD := Lib.hid (And.intro hgs hfs)
  have HZ := Lib.hid hgz
  have HP := Lib.hid (And.intro hgp hfp)
  have HS := Lib.hid (And.intro hmb (And.intro hp hbox))
  have hfl : fs.length = fn := hf.1
  have hgl : gs.length = gn := hg.1
  have HL := Lib.hid (And.intro hfl hgl)
  clear hbox hr hg hf hgs hfs hgz hgp hfp hBx hBy hBxy hsy hbx hby hry hMy hCz hA0 hfl hgl
  go_enter Try.func18, Try.ntmps18
  go_wp2_with fail
  clear y0 g0 b1 hWz hWy hsx hWx hmb
  go_loopw [14] (fun i wr => ∃ k : Nat, k ≤ fn ∧ i = .int .i64 k ∧ Hid (LayA w wr p mb (mb + 1) r box FA fs k)) (fun i _ => fn - (intOf i).toNat)
  case atStart => exact ⟨0, by omega, rfl, HA0⟩
  case round =>
    clear HA0
    obtain ⟨k, hk, rfl, HI⟩ := hrel
    rcases Nat.lt_or_ge k fn with hlt | hge
    · obtain ⟨f, hf⟩ : ∃ f, fs[k]? = some f := ⟨_, List.getElem?_eq_getElem (by have := HL.out.1; omega)⟩
      obtain ⟨g, off, rfl, hg, hc⟩ := HF.out.2.2 (by omega)
      have hgp := HP.out.2 (by omega) g off rfl
      have d0 := hc k f hf 0 _ rfl
      rw [Nat.add_zero] at d0
      obtain ⟨h1, h2, h3, h4, h5, φ, h6, h7⟩ := HI.out
      have d1 := h1.read g (off + k * 4) (by simp [hgp]) d0
      have hin := HF.out.2.1 f (List.mem_of_getElem? hf)
      obtain ⟨W2, hrun, hM2, hC2⟩ := (show MapAt wr.drew (mb + 1) k φ from h6.same rfl).put 50 68 Try.underlying50 f.name hin.name (.pointer (some ⟨g, off + k * 4, none⟩)) (by omega)
      have hp := HS.out.2.1
      have hN : LayA w W2 p mb (mb + 1) r box (some ⟨g, off, none⟩) fs (k + 1) := by
        have hmbp : mb ≠ p := by have := HS.out.1; omega
        refine ⟨(h1.drew).andThen hC2 (fun x hx => by rw [List.mem_singleton] at hx; subst hx; have := HS.out.1; exact .inr (by omega)), (hC2.same p (Array.getElem?_eq_some_iff.1 h2).1 (by simp; omega)).trans h2, (hC2.same mb (Array.getElem?_eq_some_iff.1 h3).1 (by simp)).trans h3, h4, h5, _, hM2, fun j f2 hj hjf g2 off2 he => ?_⟩
        cases he
        try dsimp only
        rcases Nat.lt_or_ge j k with q | q
        · rw [if_neg (fun e => by have := HD.out.2 j k f2 f hjf hf e; omega)]
          exact h7 j f2 q hjf _ _ rfl
        · obtain rfl : j = k := by omega
          rw [hf] at hjf
          cases hjf
          rw [if_pos rfl]
      have HN := Lib.hid hN
      unfold RnAt at h2
      have y0 : wr.cell? ⟨p, 0, none⟩ = some (.map (some (mb + 1))) := by rw [cell_of_row _ p 0 _ _ (0, 0) h2]; rfl
      have b1 : wr.cell? ⟨mb, 1, none⟩ = some (.slice (some ⟨g, off, none⟩) fn fc) := by rw [cell_of_row _ mb 1 _ _ (0, 0) h3, ← HS.out.2.2]; rfl
      have hk0 : (0 : Int) ≤ (k : Int) := by omega
      have hkn : (k : Int) < (fn : Int) := by omega
      have hf2 : (fn : Int) ≤ 1000 := by omega
      clear hg hc hgp d0 h1 h2 h3 h4 h5 h6 h7 hin hM2 hC2 hp hN hf HI
      go_wp2_with fail
      go_still_tail 14, (by kernel_rfl)
      change wpList _ _ _ _ _ (World.drew _)
      go_wp2_with fail
      go_roundw
      case rel => exact ⟨k + 1, by omega, by go_num, HN⟩
      case measure => simp [intOf] <;> omega
    · obtain rfl : k = fn := by omega
      have hA := HI.out
      have hAl := hA.2.2.2.2.2
      have hz := hA.2.2.2.1
      have hsz : mb + 1 < wr.heap.size := by obtain ⟨φ, h1, _⟩ := hAl; exact h1.lt
      obtain ⟨Wa, hWa⟩ : ∃ Wa, wr.alloc (.map #[] 0) = Wa := ⟨_, rfl⟩
      obtain ⟨wm, hwm⟩ : ∃ wm, wr.heap.size = wm := ⟨_, rfl⟩
      have hBa : Below wr.heap.size wr Wa := by rw [← hWa]; exact (Below.refl _ wr).alloc (Nat.le_refl _) _
      have hMa : MapAt Wa wm 0 (fun _ => none) := by rw [← hWa, ← hwm]; exact MapAt.new wr
      have hAa := hA.grow hBa
      have hra := hAa.2.1
      obtain ⟨Wb, hWb⟩ : ∃ Wb, Wa.setCell ⟨p, 1, none⟩ (.map (some wm)) = Wb := ⟨_, rfl⟩
      have hp := HS.out.2.1
      have hCb : Chg [p] Wa Wb := by rw [← hWb]; exact (Chg.refl _ _).setCell p 1 _ (.inl (by simp))
      have hB0 : LayB w Wb p mb (mb + 1) wm r box FA fs gs 0 := by
        obtain ⟨h1, h2, h3, h4, h5, φ, h6, h7⟩ := hAa
        have hmbp : mb ≠ p := by have := HS.out.1; omega
        refine ⟨⟨h1.trans hCb, by rw [← hWb]; exact h2.set 1 _ _ rfl, (hCb.same mb (Array.getElem?_eq_some_iff.1 h3).1 (by simp; omega)).trans h3, h4, h5, φ, ?_, ?_⟩, by omega, _, [], hMa.same (hCb.same wm hMa.lt (by simp; omega)), rfl, fun b hb => by (cases hb), List.Pairwise.nil, fun j o hj => by omega⟩
        · rw [HL.out.1]
          exact h6.same (hCb.same (mb + 1) h6.lt (by simp; omega))
        · exact fun j f hj => h7 j f (by have := HL.out.1; omega)
      unfold RnAt at hra
      have y1 : Wa.cell? ⟨p, 1, none⟩ = some (.map r.words) := by rw [cell_of_row _ p 1 _ _ (0, 0) hra]; rfl
      have g1 : Wa.frozen? ⟨p, 1, none⟩ = false := frozen_of_row _ p 1 _ _ hra
      have b0 : Wb.cell? ⟨mb, 0, none⟩ = some (.slice GA gn gc) := by rw [cell_of_row _ mb 0 _ _ (0, 0) hB0.1.2.2.1, ← HS.out.2.2]; rfl
      have HB0 := Lib.hid hB0
      clear hA hAl hz hsz hBa hMa hAa hra hp hCb hB0 HI
      go_wp2_with fail
      clear y1 g1 b0 hWb hwm hWa
      go_loopw [39] (fun i wr => ∃ k : Nat, k ≤ gn ∧ i = .int .i64 k ∧ Hid (LayB w wr p mb (mb + 1) wm r box FA fs gs k)) (fun i _ => gn - (intOf i).toNat)
      case atStart => exact ⟨0, by omega, rfl, HB0⟩
      case round =>
        clear HB0
        obtain ⟨kg, hkg, rfl, HI⟩ := hrel
        rcases Nat.lt_or_ge kg gn with hlt | hge
        · obtain ⟨o, ho⟩ : ∃ o, gs[kg]? = some o := ⟨_, List.getElem?_eq_getElem (by have := HL.out.2; omega)⟩
          obtain ⟨g, off, rfl, hg, hc⟩ := HG.out.2.2 (by omega)
          have hgp := HP.out.1 (by omega) g off rfl
          have hI := HI.out
          have d0 := hI.1.1.read g (off + kg * 2) (by simp [hgp]) (by have := hc kg o ho 0 _ rfl; rw [Nat.add_zero] at this; exact this)
          have d1 := hI.1.1.read g (off + kg * 2 + 1) (by simp [hgp]) (hc kg o ho 1 _ rfl)
          have hgo := HZ.out o (List.mem_of_getElem? ho)
          have hin := HG.out.2.1 o (List.mem_of_getElem? ho)
          obtain ⟨m, hm⟩ : ∃ m : Nat, max o.size 1 = (m : Int) := ⟨(max o.size 1).toNat, by omega⟩
          have hzl : o.zeros.length = m := by unfold MGl.zeros; rw [List.length_replicate, hm]; rfl
          obtain ⟨Wc, hWc⟩ : ∃ Wc, wr.alloc (.cells #[.string o.name, .int .i64 o.size] 63) = Wc := ⟨_, rfl⟩
          have hBc : Below wr.heap.size wr Wc := by rw [← hWc]; exact (Below.refl _ wr).alloc (Nat.le_refl _) _
          have hvc : Wc.heap[wr.heap.size]? = some (.cells #[.string o.name, .int .i64 o.size] 63 (0, 0)) := by rw [← hWc]; exact heap_alloc_new wr _
          have hsc : Wc.heap.size = wr.heap.size + 1 := by rw [← hWc]; simp
          obtain ⟨vc, hvce⟩ : ∃ vc, wr.heap.size = vc := ⟨_, rfl⟩
          have hwmlt : wm < wr.heap.size := by obtain ⟨_, _, ω, wbs, h1, _⟩ := hI; exact h1.lt
          have hplt : p < wr.heap.size := (Array.getElem?_eq_some_iff.1 hI.1.2.1).1
          rw [hvce] at hvc
          obtain ⟨L, hLL⟩ : ∃ L, [wm] = L := ⟨_, rfl⟩
          have hfmwm : mb + 1 < wm := hI.2.1
          have hpw : p ≠ wm := by have := HS.out.1; have := HS.out.2.1; omega
          have p1c : Wc.cell? ⟨p, 1, none⟩ = some (.map (some wm)) := by
            have h2 := (hI.1.grow hBc).2.1
            unfold RnAt at h2
            rw [cell_of_row _ p 1 _ _ (0, 0) h2]; rfl
          have HFF : Hid (∀ V, Chg L Wc V → V.cell? ⟨p, 1, none⟩ = some (.map (some wm)) ∧ V.cell? ⟨vc, 0, none⟩ = some (.string o.name) ∧ V.cell? ⟨vc, 1, none⟩ = some (.int .i64 o.size)) := Lib.hid (fun V hV => by
            subst hLL
            exact ⟨hV.read p 1 (by simp [hpw]) p1c, hV.read vc 0 (by simp; omega) (by rw [cell_of_row _ vc 0 _ _ (0, 0) hvc]; rfl), hV.read vc 1 (by simp; omega) (by rw [cell_of_row _ vc 1 _ _ (0, 0) hvc]; rfl)⟩)
          have hrz : RegAt (Wc.drew.alloc (.cells (cellsN (List.replicate m 0)).toArray 21)) Wc.heap.size o.zeros := by
            have h := RegAt.new Wc.drew (List.replicate m 0)
            unfold MGl.zeros
            rw [hm]
            exact h
          obtain ⟨w3, hrun, hC3, hN⟩ := hI.next (w2 := Wc.drew.alloc (.cells (cellsN (List.replicate m 0)).toArray 21)) (w3 := wr) (b := Wc.heap.size) HS.out.2.1 (by have := HS.out.1; omega) ho HD.out.1
            (hBc.trans ((show Below Wc.heap.size Wc (Wc.drew.alloc (.cells (cellsN (List.replicate m 0)).toArray 21)) from (Below.refl _ Wc).drew.alloc (Nat.le_refl _) _).mono (by omega))) (by omega) (by simp) hrz hin.name (by omega)
          rw [hzl] at hrun
          have HRUN := Lib.hid hrun
          have HC2 : Hid (Chg L Wc (Wc.drew.alloc (.cells (cellsN (List.replicate m 0)).toArray 21))) := Lib.hid (((Chg.refl L Wc).drew).alloc _)
          have HC3 : Hid (Chg L Wc w3) := Lib.hid (HC2.out.trans (hLL ▸ hC3))
          have HN := Lib.hid hN
          have hmx : (if o.size < 1 then 1 else o.size) = (m : Int) := by rw [← hm]; split <;> omega
          have hmx2 : (if 1 < o.size then o.size else 1) = (m : Int) := by rw [← hm]; split <;> omega
          have hmx3 : max 1 o.size = (m : Int) := by rw [← hm]; omega
          have hm4 : m ≤ 4096 := by omega
          have HZE : Hid (Calls Try.prog 26 #[.int .i64 (m : Int), .int .i64 4096] Wc.drew fun e w' => e = .returned (.slice (some ⟨Wc.heap.size, 0, none⟩) m m) ∧ w' = Wc.drew.alloc (.cells (cellsN (List.replicate m 0)).toArray 21)) := Lib.hid (zeros_any m 4096 hm4 (by omega) Wc.drew)
          have hk0 : (0 : Int) ≤ (kg : Int) := by omega
          have hkn : (kg : Int) < (gn : Int) := by omega
          have hf2 : (gn : Int) ≤ 1000 := by omega
          clear hg hc hgp hI hgo hin hzl hBc hvc hsc hwmlt hplt hfmwm hpw p1c hrz hC3 hN ho hrun HI
          go_wp2_with fail
          clear d0 d1
          refine wp_region_held_drew (S := fun V => Chg L Wc V) (by kernel_rfl) ((Chg.refl L Wc).drew) (fun _ => ?_)
          refine takeH 0 43 (v := (.pointer (some ⟨p, 0, none⟩))) rfl rfl (by kernel_rfl) (by kernel_rfl) (by kernel_rfl) (fun _ _ _ h => h) (by rfl) ?_ (by assumption) ?_
          · intro w hSw
            obtain ⟨y0, y1, y2⟩ := HFF.out w hSw
            go_simp
          try simp only [Act.put, List.setIfInBounds_toArray, List.set_cons_zero, List.set_cons_succ]
          refine takeH 1 44 (v := (.pointer (some ⟨p, 0, none⟩))) rfl rfl (by kernel_rfl) (by kernel_rfl) (by kernel_rfl) (fun _ _ _ h => h) (by rfl) ?_ (by assumption) ?_
          · intro w hSw
            obtain ⟨y0, y1, y2⟩ := HFF.out w hSw
            go_simp
          try simp only [Act.put, List.setIfInBounds_toArray, List.set_cons_zero, List.set_cons_succ]
          refine takeH 2 45 (v := (.pointer (some ⟨p, 1, none⟩))) rfl rfl (by kernel_rfl) (by kernel_rfl) (by kernel_rfl) (fun _ _ _ h => h) (by rfl) ?_ (by assumption) ?_
          · intro w hSw
            obtain ⟨y0, y1, y2⟩ := HFF.out w hSw
            go_simp
          try simp only [Act.put, List.setIfInBounds_toArray, List.set_cons_zero, List.set_cons_succ]
          refine takeH 3 46 (v := (.map (some wm))) rfl rfl (by kernel_rfl) (by kernel_rfl) (by kernel_rfl) (fun _ _ _ h => h) (by rfl) ?_ (by assumption) ?_
          · intro w hSw
            obtain ⟨y0, y1, y2⟩ := HFF.out w hSw
            go_simp
          try simp only [Act.put, List.setIfInBounds_toArray, List.set_cons_zero, List.set_cons_succ]
          refine takeH 4 47 (v := (.pointer (some ⟨vc, 0, none⟩))) rfl rfl (by kernel_rfl) (by kernel_rfl) (by kernel_rfl) (fun _ _ _ h => h) (by rfl) ?_ (by assumption) ?_
          · intro w hSw
            obtain ⟨y0, y1, y2⟩ := HFF.out w hSw
            go_simp
          try simp only [Act.put, List.setIfInBounds_toArray, List.set_cons_zero, List.set_cons_succ]
          refine takeH 5 48 (v := (.string o.name)) rfl rfl (by kernel_rfl) (by kernel_rfl) (by kernel_rfl) (fun _ _ _ h => h) (by rfl) ?_ (by assumption) ?_
          · intro w hSw
            obtain ⟨y0, y1, y2⟩ := HFF.out w hSw
            go_simp
          try simp only [Act.put, List.setIfInBounds_toArray, List.set_cons_zero, List.set_cons_succ]
          refine takeH 6 49 (v := (.pointer (some ⟨vc, 1, none⟩))) rfl rfl (by kernel_rfl) (by kernel_rfl) (by kernel_rfl) (fun _ _ _ h => h) (by rfl) ?_ (by assumption) ?_
          · intro w hSw
            obtain ⟨y0, y1, y2⟩ := HFF.out w hSw
            go_simp
          try simp only [Act.put, List.setIfInBounds_toArray, List.set_cons_zero, List.set_cons_succ]
          refine takeH 7 50 (v := (.int .i64 o.size)) rfl rfl (by kernel_rfl) (by kernel_rfl) (by kernel_rfl) (fun _ _ _ h => h) (by rfl) ?_ (by assumption) ?_
          · intro w hSw
            obtain ⟨y0, y1, y2⟩ := HFF.out w hSw
            go_simp
          try simp only [Act.put, List.setIfInBounds_toArray, List.set_cons_zero, List.set_cons_succ]
          refine takeH 8 51 (v := (.int .i64 (m : Int))) rfl rfl (by kernel_rfl) (by kernel_rfl) (by kernel_rfl) (fun _ _ _ h => h) (by rfl) ?_ (by assumption) ?_
          · intro w hSw
            obtain ⟨y0, y1, y2⟩ := HFF.out w hSw
            go_simp
          try simp only [Act.put, List.setIfInBounds_toArray, List.set_cons_zero, List.set_cons_succ]
          refine wpAnyH_ready (rs := [9]) (by kernel_rfl) (by simp) ?_
          refine AllReadyH.cons rfl (fun K hK => ?_) AllReadyH.nil
          go_simp
          go_at_call 26
          (with_reducible refine (HZE.out).mono ?_)
          rintro e w2 ⟨rfl, rfl⟩
          refine hK.out _ _ HC2.out (fun _ => ?_)
          clear hK K
          try simp only [Act.put, List.setIfInBounds_toArray, List.set_cons_zero, List.set_cons_succ]
          refine wpAnyH_ready (rs := [10]) (by kernel_rfl) (by simp) ?_
          refine AllReadyH.cons rfl (fun K hK => ?_) AllReadyH.nil
          have hrun : (Instr.mapUpdate 51 (.map (some wm)) (.string o.name) (.slice (some ⟨Wc.heap.size, 0, none⟩) m m)).run Try.prog ((Wc.alloc (.cells (cellsN (List.replicate m 0)).toArray 21)).drew) = .ok () w3 := HRUN.out
          go_simp
          refine hK.out _ _ HC3.out (fun _ => ?_)
          clear hK K
          try simp only [Act.put, List.setIfInBounds_toArray, List.set_cons_zero, List.set_cons_succ]
          refine wpAnyH_done (by kernel_rfl) ?_ _
          go_wp2_with fail
          go_roundw
          case rel => exact ⟨kg + 1, by omega, by go_num, HN⟩
          case measure => simp [intOf] <;> omega
        · obtain rfl : kg = gn := by omega
          have HN : Hid (LayB w wr p mb (mb + 1) wm r box FA fs gs gs.length) := Lib.hid (by rw [HL.out.2]; exact HI.out)
          have HMB : Hid (w.heap.size ≤ mb) := Lib.hid (by have := HS.out.1; omega)
          go_wp2_with fail
          exact bodyPost_end (results_none rfl _ _ _) rfl ⟨rfl, mb, mb + 1, wm, box, HMB.out, HN.out⟩
end Go.Proofs.Ytcanjkjpdnbcnaa
namespace Go.Proofs.Ytcanjkjpdnbcnaa
open Go.RowKit
set_option linter.unusedVariables false
set_option linter.unusedSimpArgs false
set_option maxRecDepth 100000

/-- A program's functions and words, by name. -/
def fnOf (fs : List MFn) (x : ByteArray) : Option MFn := fs.find? fun f => decide (f.name.data.toList = x.data.toList)
def glOf (gs : List MGl) (x : ByteArray) : Option MGl := gs.find? fun o => decide (o.name.data.toList = x.data.toList)
def wdOf (gs : List MGl) (x : ByteArray) : List Int := match glOf gs x with | some o => o.zeros | none => []
def isGl (gs : List MGl) (x : ByteArray) : Prop := ∃ o, glOf gs x = some o
theorem find_at {α : Type} {nm : α → ByteArray} {l : List α} {x : ByteArray} {o : α} (h : l.find? (fun o => decide ((nm o).data.toList = x.data.toList)) = some o) : (nm o).data.toList = x.data.toList ∧ ∃ i : Nat, l[i]? = some o := by
  refine ⟨by simpa using List.find?_some h, ?_⟩
  exact List.getElem?_of_mem (List.mem_of_find?_eq_some h)
/-- A program's run. -/
def progR (gs : List MGl) (fs : List MFn) (inp : List Int) (fuel : Nat) : PR := (runP (fnOf fs) inp fuel (mainP (fnOf fs) (wdOf gs) ⟨#[109, 97, 105, 110]⟩)).res
/-- A program that may be. -/
structure MidOk (gs : List MGl) (fs : List MFn) : Prop where
  apG : Apart MGl.name gs
  apF : Apart MFn.name fs
  gn : gs.length ≤ 1000
  fn : fs.length ≤ 1000
  sz : ∀ o ∈ gs, 0 ≤ o.size ∧ o.size ≤ 4096
  ok : ∀ f ∈ fs, FnOk (fnOf fs) (isGl gs) f
  main : ∃ f, fnOf fs ⟨#[109, 97, 105, 110]⟩ = some f ∧ f.params = 0
theorem fnOf_mem {fs : List MFn} {x : ByteArray} {f : MFn} (h : fnOf fs x = some f) : f ∈ fs := List.mem_of_find?_eq_some h
theorem zeros_len (o : MGl) (h : 0 ≤ o.size ∧ o.size ≤ 4096) : 1 ≤ o.zeros.length ∧ o.zeros.length ≤ 4096 := by
  unfold MGl.zeros
  rw [List.length_replicate]
  omega
theorem words_good {gs : List MGl} {fs : List MFn} (hm : MidOk gs fs) (x : ByteArray) (hx : isGl gs x) : 1 ≤ (wdOf gs x).length ∧ (wdOf gs x).length ≤ 4096 ∧ ∀ v ∈ wdOf gs x, I32 v := by
  obtain ⟨o, ho⟩ := hx
  unfold wdOf
  rw [ho]
  have h := zeros_len o (hm.sz o (List.mem_of_find?_eq_some ho))
  refine ⟨h.1, h.2, fun v hv => ?_⟩
  rw [(List.mem_replicate.1 hv).2]
  exact I32.zero
theorem main_good {gs : List MGl} {fs : List MFn} (hm : MidOk gs fs) (inp : List Int) : Good (fnOf fs) (isGl gs) inp (mainP (fnOf fs) (wdOf gs) ⟨#[109, 97, 105, 110]⟩) := by
  obtain ⟨f, hf, hp⟩ := hm.main
  have hok := hm.ok f (fnOf_mem hf)
  unfold mainP
  rw [hf]
  have hr := hok.regs
  have hb : f.blocks.length ≠ 0 := fun e => hok.some (List.length_eq_zero_iff.1 e)
  exact ⟨⟨⟨hok, by show ((List.replicate f.regs.toNat (0 : Int)).length : Int) = f.regs; rw [List.length_replicate]; omega, fun v hv => by rw [(List.mem_replicate.1 hv).2]; exact I32.zero, ⟨Int.le_refl _, by show (0 : Int) < (f.blocks.length : Int); omega⟩, fun b _ => Nat.zero_le _⟩, fun c2 h2 => (by cases h2), trivial⟩, by simp, by simp, words_good hm, Nat.le_refl _, fun v hv => (by cases hv), Nat.zero_le _⟩
/-- Of what is laid the runner's state is made: nothing called yet. -/
theorem LayB.mach {w0 w wr : World} {p mb fm wm xb : Nat} {iA : Option Addr} {ic : Nat} {fuel : Int} {box : Array Value} {FA : Option Addr} {fs : List MFn} {gs : List MGl} {inp : List Int} (fn : Nat)
    (h : LayB w wr p mb fm wm ⟨none, none, iA, inp.length, ic, fuel, none, 0, 0, 0, 0, none, 0, 0, 0, 0⟩ box FA fs gs gs.length) (hm : MidOk gs fs) (hw : w0.heap.size ≤ p) (hp : p < xb) (hxb : xb < w.heap.size) (hmb : w.heap.size ≤ mb) (hB : Below w0.heap.size w0 w)
    (hx : w.heap[xb]? = some (.cells #[.pointer (some ⟨p, 0, none⟩)] 49 (0, 0))) (hf : MFns w0 FA fn fs) (hI : RowK .i32 w0 iA inp.length inp) :
    ∃ q, MachAt ⟨w0, p, fnOf fs, isGl gs, inp, iA, ic, fuel, xb⟩ q wr ⟨wdOf gs, [], [], 0, 0⟩ := by
  obtain ⟨⟨h1, h2, h3, h4, h5, φ, h6, h7⟩, hfw, ω, wbs, hM, hl, hlt, hpw, hall⟩ := h
  have hfml := h6.lt
  have hwml := hM.lt
  have hz := h1.size
  let own : Nat → Nat := fun b => if b = p then 1 else if b = fm then 2 else if b = wm then 3 else if b ∈ wbs then 6 else if b = xb then 9 else 0
  let wb : ByteArray → Nat := fun x => match glOf gs x with | some o => (wbs[gs.findIdx fun o => decide (o.name.data.toList = x.data.toList)]?).getD 0 | none => 0
  have hnw : ∀ b ∈ wbs, b ≠ p ∧ b ≠ fm ∧ b ≠ wm := fun b hb => by have := hlt b hb; omega
  have hwb : ∀ x o, glOf gs x = some o → ∃ j, gs[j]? = some o ∧ wbs[j]? = some (wb x) ∧ ω x = some (.slice (some ⟨wb x, 0, none⟩) o.zeros.length o.zeros.length) ∧ RegAt wr (wb x) o.zeros := fun x o ho => by
    obtain ⟨hn, i, hi⟩ := find_at (nm := MGl.name) ho
    have hil := (List.getElem?_eq_some_iff.1 hi).1
    obtain ⟨b, hb1, hb2, hb3⟩ := hall i o hil hi
    have hidx : gs.findIdx (fun o => decide (o.name.data.toList = x.data.toList)) = i := by
      have hlt2 : gs.findIdx (fun o => decide (o.name.data.toList = x.data.toList)) < gs.length := List.findIdx_lt_length_of_exists ⟨o, List.mem_of_getElem? hi, by simp [hn]⟩
      have h8 := List.findIdx_getElem (w := hlt2)
      have h9 : (gs[gs.findIdx fun o => decide (o.name.data.toList = x.data.toList)]).name.data.toList = x.data.toList := by simpa using h8
      exact hm.apG _ i _ o (List.getElem?_eq_getElem hlt2) hi (h9.trans hn.symm)
    have he : wb x = b := by
      show (match glOf gs x with | some o => (wbs[gs.findIdx fun o => decide (o.name.data.toList = x.data.toList)]?).getD 0 | none => 0) = b
      rw [ho]
      show (wbs[gs.findIdx fun o => decide (o.name.data.toList = x.data.toList)]?).getD 0 = b
      rw [hidx, hb1]
      rfl
    rw [he, ← ba_eq hn]
    exact ⟨i, hi, hb1, hb2, hb3⟩
  have e1 : own p = 1 := if_pos rfl
  have e2 : own fm = 2 := by
    show (if fm = p then 1 else if fm = fm then 2 else _) = 2
    rw [if_neg (by omega), if_pos rfl]
  have e3 : own wm = 3 := by
    show (if wm = p then 1 else if wm = fm then 2 else if wm = wm then 3 else _) = 3
    rw [if_neg (by omega), if_neg (by omega), if_pos rfl]
  have e6 : ∀ b ∈ wbs, own b = 6 := fun b hb => by
    have := hnw b hb
    show (if b = p then 1 else if b = fm then 2 else if b = wm then 3 else if b ∈ wbs then 6 else _) = 6
    rw [if_neg this.1, if_neg this.2.1, if_neg this.2.2, if_pos hb]
  have e9 : own xb = 9 := by
    show (if xb = p then 1 else if xb = fm then 2 else if xb = wm then 3 else if xb ∈ wbs then 6 else if xb = xb then 9 else 0) = 9
    rw [if_neg (by omega), if_neg (by omega), if_neg (by omega), if_neg (fun hb => by have := hlt xb hb; omega), if_pos rfl]
  have hwrd : ∀ x, isGl gs x → wdOf gs x = (match glOf gs x with | some o => o.zeros | none => []) := fun x _ => rfl
  have hsz0 := hB.size
  refine ⟨⟨own, fm, wm, wb, [], none, 0, none, 0⟩, ⟨hB.trans (h1.toBelow (fun k hk => by rw [List.mem_singleton] at hk; omega) hsz0), fun b hb => ?_, h2, e1, ?_, e2, ?_, ?_, ?_, e3, SLine.nil 1 _, fun b hb => (by cases hb), SLine.nil 1 _, fun b hb => (by cases hb), trivial, hI, ?_, e9⟩⟩
  · have hb' : own b ≠ 0 := hb
    by_cases c1 : b = p
    · subst c1; show w0.heap.size ≤ b ∧ b < _; omega
    · by_cases c2 : b = fm
      · subst c2; show w0.heap.size ≤ b ∧ b < _; omega
      · by_cases c3 : b = wm
        · subst c3; show w0.heap.size ≤ b ∧ b < _; omega
        · by_cases c4 : b ∈ wbs
          · have := hlt b c4; show w0.heap.size ≤ b ∧ b < _; omega
          · by_cases c5 : b = xb
            · subst c5; show w0.heap.size ≤ b ∧ b < _; omega
            · exact absurd (by show (if b = p then 1 else if b = fm then 2 else if b = wm then 3 else if b ∈ wbs then 6 else if b = xb then 9 else 0) = 0; rw [if_neg c1, if_neg c2, if_neg c3, if_neg c4, if_neg c5]) hb'
  · refine ⟨_, φ, h6, fun x f hf2 => ?_⟩
    obtain ⟨hn, i, hi⟩ := find_at (nm := MFn.name) hf2
    have hil := (List.getElem?_eq_some_iff.1 hi).1
    obtain ⟨g, off, rfl, hg, hc⟩ := hf.2.2 (by have := hf.1; omega)
    refine ⟨⟨g, off + i * 4, none⟩, ?_, g, off + i * 4, rfl, hg, hf.2.1 f (List.mem_of_getElem? hi), fun j v hj => hc i f hi j v hj⟩
    rw [← ba_eq hn]
    exact h7 i f hil hi g off rfl
  · refine ⟨_, ω, hM, fun x hx2 => ?_⟩
    obtain ⟨o, ho⟩ := hx2
    obtain ⟨j, _, _, h8, _⟩ := hwb x o ho
    show ω x = some (.slice (some ⟨wb x, 0, none⟩) (wdOf gs x).length (wdOf gs x).length)
    unfold wdOf
    rw [ho]
    exact h8
  · intro x hx2
    obtain ⟨o, ho⟩ := hx2
    obtain ⟨j, _, h9, _, h8⟩ := hwb x o ho
    refine ⟨?_, e6 _ (List.mem_of_getElem? h9)⟩
    show RegAt wr (wb x) (wdOf gs x)
    unfold wdOf
    rw [ho]
    exact h8
  · intro x y hx2 hy2 hxy
    obtain ⟨o, ho⟩ := hx2
    obtain ⟨o2, ho2⟩ := hy2
    obtain ⟨j, hj, h9, _, _⟩ := hwb x o ho
    obtain ⟨j2, hj2, h92, _, _⟩ := hwb y o2 ho2
    have hxy' : wb x = wb y := hxy
    rw [← hxy'] at h92
    have hjj : j = j2 := by
      have l1 := (List.getElem?_eq_some_iff.1 h9).1
      have l2 := (List.getElem?_eq_some_iff.1 h92).1
      have v1 := (List.getElem?_eq_some_iff.1 h9).2
      have v2 := (List.getElem?_eq_some_iff.1 h92).2
      rcases Nat.lt_trichotomy j j2 with q | q | q
      · have := List.pairwise_iff_getElem.1 hpw j j2 l1 l2 q; omega
      · exact q
      · have := List.pairwise_iff_getElem.1 hpw j2 j l2 l1 q; omega
    subst hjj
    rw [hj] at hj2
    cases hj2
    exact (find_at (nm := MGl.name) ho).1.symm.trans (find_at (nm := MGl.name) ho2).1
  · exact (h1.same xb hxb (by simp; omega)).trans hx
end Go.Proofs.Ytcanjkjpdnbcnaa
