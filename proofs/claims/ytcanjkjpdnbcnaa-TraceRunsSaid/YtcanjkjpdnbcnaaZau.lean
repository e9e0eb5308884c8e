/-
  Instructions that set a register: a number, a copy.
  The runner, its maps, words, calls and trace in memory.
  A global's word: where it lies, or the end of the run.
  Instructions that set a register: copies, operators of one word and of two.
-/
import Derived.Test.YtcanjkjpdnbcnaaZar
import Derived.Test.YtcanjkjpdnbcnaaZas
import Derived.StillTailTactics
import Derived.Deep.QuietTactic
import Derived.BigQuiet
namespace Go.Proofs.Ytcanjkjpdnbcnaa
open Go.RowKit
set_option linter.unusedVariables false
set_option linter.unusedSimpArgs false
set_option maxRecDepth 100000

/-- A block of words. -/
def RegAt (w : World) (b : Nat) (l : List Int) : Prop := w.heap[b]? = some (.cells (cellsN l).toArray 21 (0, 0))
theorem RegAt.cell {w : World} {b : Nat} {l : List Int} (h : RegAt w b l) (k : Nat) (hk : k < l.length) : w.cell? ⟨b, k, none⟩ = some (.int .i32 (l.getD k 0)) := by
  unfold RegAt at h
  rw [cell_of_row _ b k _ _ (0, 0) h]
  simp [cellsN, hk]
theorem RegAt.free {w : World} {b : Nat} {l : List Int} (h : RegAt w b l) (k : Nat) : w.frozen? ⟨b, k, none⟩ = false := by
  unfold RegAt at h
  simp [World.frozen?, h]
theorem RegAt.put {w : World} {b : Nat} {l : List Int} (h : RegAt w b l) (k : Nat) (v : Int) : RegAt (w.setCell ⟨b, k, none⟩ (.int .i32 v)) b (l.set k v) := by
  unfold RegAt at h ⊢
  rw [heap_setCell_same w b k _ _ _ h]
  congr 2
  apply Array.toList_inj.1
  simp [cellsN, List.map_set]
theorem RegAt.drew {w : World} {b : Nat} {l : List Int} (h : RegAt w b l) : RegAt w.drew b l := h
theorem RegAt.same {w w' : World} {b : Nat} {l : List Int} (h : RegAt w b l) (hb : w'.heap[b]? = w.heap[b]?) : RegAt w' b l := hb.trans h
theorem RegAt.new (w : World) (l : List Int) : RegAt (w.alloc (.cells (cellsN l).toArray 21)) w.heap.size l := heap_alloc_new w _
/-- A word was put into a block of words. -/
theorem RegAt.done {w : World} {b : Nat} {l : List Int} (h : RegAt w b l) (k : Nat) (v : Int) : RegAt ((w.setCell ⟨b, k, none⟩ (.int .i32 v)).drew) b (l.set k v) ∧ Chg [b] w ((w.setCell ⟨b, k, none⟩ (.int .i32 v)).drew) :=
  ⟨(h.put k v).drew, ((Chg.refl _ w).setCell b k _ (.inl (List.mem_cons_self ..))).drew⟩
set_option maxHeartbeats 1600000 in
theorem do_1 (w : World) (p cb rb g o n k : Nat) (l : List Int) (num : Int)
    (x0 : w.cell? ⟨g, o, none⟩ = some (.int .i64 1)) (x2 : w.cell? ⟨g, o + 2, none⟩ = some (.int .i64 (k : Int))) (x5 : w.cell? ⟨g, o + 5, none⟩ = some (.int .i32 num))
    (c1 : w.cell? ⟨cb, 1, none⟩ = some (.slice (some ⟨rb, 0, none⟩) n n)) (hr : RegAt w rb l) (hl : l.length = n) (hk : k < n) (hn : n ≤ 100000) :
    Calls Try.prog 28 #[.pointer (some ⟨p, 0, none⟩), .pointer (some ⟨cb, 0, none⟩), .pointer (some ⟨g, o, none⟩)] w fun e w' => e = .returned (.tuple #[]) ∧ RegAt w' rb (l.set k num) ∧ Chg [rb] w w' := by
  have HR := Lib.hid (hr.done k num)
  have r1 := hr.cell k (by omega)
  have f1 := hr.free k
  have hk0 : (0 : Int) ≤ (k : Int) := by omega
  have hkn : (k : Int) < (n : Int) := by omega
  have hn2 : (n : Int) ≤ 100000 := by omega
  generalize l.getD k 0 = v0 at *
  clear hr hl
  go_enter Try.func28, Try.ntmps28
  go_wp2_with fail
  go_still_tail 13, (by kernel_rfl)
  change wpList _ _ _ _ _ (World.drew _)
  go_wp2_with fail
  exact bodyPost_end (results_none rfl _ _ _) rfl ⟨rfl, HR.out.1, HR.out.2⟩
end Go.Proofs.Ytcanjkjpdnbcnaa
namespace Go.Proofs.Ytcanjkjpdnbcnaa
open Go.RowKit
set_option linter.unusedVariables false
set_option linter.unusedSimpArgs false
set_option maxRecDepth 100000

/-- Where a function's cells lie, ahead of the run. -/
def FnP (w0 : World) (a : Addr) (f : MFn) : Prop := ∃ g o, a = ⟨g, o, none⟩ ∧ g < w0.heap.size ∧ f.In w0 ∧ ∀ j v, f.cells[j]? = some v → w0.cell? ⟨g, o + j, none⟩ = some v
/-- A call that goes on, in memory: level i, its block b. -/
def CallAt (w0 w : World) (own : Nat → Nat) (i : Nat) (c : PC) (b : Nat) : Prop :=
  ∃ rb a, ClAt w b ⟨some a, some ⟨rb, 0, none⟩, c.regs.length, c.regs.length, c.block, c.done, c.d⟩ ∧ RegAt w rb c.regs ∧ FnP w0 a c.f ∧ own b = 10 + 2 * i ∧ own rb = 11 + 2 * i
def CallsAt (w0 w : World) (own : Nat → Nat) : List PC → List Nat → Prop
  | [], [] => True
  | c :: cs, b :: bs => CallAt w0 w own cs.length c b ∧ CallsAt w0 w own cs bs
  | _, _ => False
theorem CallAt.same {w0 w w' : World} {own own' : Nat → Nat} {i : Nat} {c : PC} {b : Nat} (h : CallAt w0 w own i c b) (hs : ∀ k, 10 + 2 * i ≤ own k → own k ≤ 11 + 2 * i → w'.heap[k]? = w.heap[k]? ∧ own' k = own k) : CallAt w0 w' own' i c b := by
  obtain ⟨rb, a, h1, h2, h3, h4, h5⟩ := h
  have e1 := hs b (by omega) (by omega)
  have e2 := hs rb (by omega) (by omega)
  exact ⟨rb, a, e1.1.trans h1, e2.1.trans h2, h3, e1.2.trans h4, e2.2.trans h5⟩
theorem CallsAt.length {w0 w : World} {own : Nat → Nat} : ∀ {cs : List PC} {bs : List Nat}, CallsAt w0 w own cs bs → bs.length = cs.length
  | [], [], _ => rfl
  | c :: cs, b :: bs, h => by simp only [List.length_cons]; rw [h.2.length]
  | [], b :: bs, h => h.elim
  | c :: cs, [], h => h.elim
theorem CallsAt.same {w0 w w' : World} {own own' : Nat → Nat} : ∀ {cs : List PC} {bs : List Nat}, CallsAt w0 w own cs bs → (∀ k, 10 ≤ own k → own k < 10 + 2 * cs.length → w'.heap[k]? = w.heap[k]? ∧ own' k = own k) → CallsAt w0 w' own' cs bs
  | [], [], _, _ => trivial
  | c :: cs, b :: bs, h, hs => by
    simp only [List.length_cons] at hs
    exact ⟨h.1.same fun k h1 h2 => hs k (by omega) (by omega), h.2.same fun k h1 h2 => hs k h1 (by omega)⟩
  | [], b :: bs, h, _ => h.elim
  | c :: cs, [], h, _ => h.elim
def ptrsOf (bs : List Nat) : List Value := (bs.map fun b => Value.pointer (some ⟨b, 0, none⟩)).reverse
/-- What a run is over: the world ahead of it, the runner's block, the functions by name, which names are globals, the input. -/
structure Env where
  w0 : World
  p : Nat
  F : ByteArray → Option MFn
  G : ByteArray → Prop
  inp : List Int
  iA : Option Addr
  ic : Nat
  fuel : Int
  xb : Nat
/-- Where things lie. -/
structure Plc where
  own : Nat → Nat
  fm : Nat
  wm : Nat
  wb : ByteArray → Nat
  bs : List Nat
  kA : Option Addr
  kc : Nat
  tA : Option Addr
  tc : Nat
structure MachAt (e : Env) (q : Plc) (w : World) (s : PS) : Prop where
  below : Below e.w0.heap.size e.w0 w
  old : ∀ b, q.own b ≠ 0 → e.w0.heap.size ≤ b ∧ b < w.heap.size
  run : RnAt w e.p ⟨some q.fm, some q.wm, e.iA, e.inp.length, e.ic, e.fuel, q.kA, s.calls.length, q.kc, 0, 0, q.tA, s.tr.length, q.tc, s.steps, s.reads⟩
  ownp : q.own e.p = 1
  fns : ∃ n φ, MapAt w q.fm n φ ∧ ∀ x f, e.F x = some f → ∃ a, φ x = some (.pointer (some a)) ∧ FnP e.w0 a f
  ownf : q.own q.fm = 2
  wds : ∃ n ω, MapAt w q.wm n ω ∧ ∀ x, e.G x → ω x = some (.slice (some ⟨q.wb x, 0, none⟩) (s.words x).length (s.words x).length)
  wrd : ∀ x, e.G x → RegAt w (q.wb x) (s.words x) ∧ q.own (q.wb x) = 6
  inj : ∀ x y, e.G x → e.G y → q.wb x = q.wb y → x.data.toList = y.data.toList
  ownw : q.own q.wm = 3
  line : SLine 1 w q.kA s.calls.length q.kc (ptrsOf q.bs)
  ownk : ∀ b ∈ blk q.kA, q.own b = 4
  tr : SLine 1 w q.tA s.tr.length q.tc (cellsN s.tr)
  ownt : ∀ b ∈ blk q.tA, q.own b = 5
  calls : CallsAt e.w0 w q.own s.calls q.bs
  inp : RowK .i32 e.w0 e.iA e.inp.length e.inp
  xb : w.heap[e.xb]? = some (.cells #[.pointer (some ⟨e.p, 0, none⟩)] 49 (0, 0)) ∧ q.own e.xb = 9
/-- All but what is of these owners stays. -/
theorem MachAt.near {e : Env} {q : Plc} {w w' : World} {s : PS} (h : MachAt e q w s) {l : List Nat} (hc : Chg l w w') {P : Nat → Prop} (hl : ∀ b ∈ l, ¬ P (q.own b)) : ∀ b, P (q.own b) → q.own b ≠ 0 → w'.heap[b]? = w.heap[b]? := fun b hP hn =>
  hc.same b (h.old b hn).2 (fun hm => hl b hm hP)
theorem MachAt.belowC {e : Env} {q : Plc} {w w' : World} {s : PS} (h : MachAt e q w s) {l : List Nat} (hc : Chg l w w') (hl : ∀ b ∈ l, q.own b ≠ 0) : Below e.w0.heap.size e.w0 w' :=
  h.below.trans (hc.toBelow (fun k hk => (h.old k (hl k hk)).1) h.below.size)
/-- The runner's numbers. -/
theorem MachAt.rn {e : Env} {q : Plc} {w w' : World} {s : PS} (h : MachAt e q w s) (st rd : Nat) (hr : RnAt w' e.p ⟨some q.fm, some q.wm, e.iA, e.inp.length, e.ic, e.fuel, q.kA, s.calls.length, q.kc, 0, 0, q.tA, s.tr.length, q.tc, st, rd⟩) (hc : Chg [e.p] w w') :
    MachAt e q w' { s with steps := st, reads := rd } := by
  have hp := h.ownp
  have hs : ∀ b, q.own b ≠ 1 → q.own b ≠ 0 → w'.heap[b]? = w.heap[b]? := h.near hc (P := fun k => k ≠ 1) (fun b hb => by rw [List.mem_singleton] at hb; subst hb; exact fun hx => hx hp)
  have hz := hc.size
  exact ⟨h.belowC hc (fun b hb => by rw [List.mem_singleton] at hb; subst hb; omega), fun b hb => ⟨(h.old b hb).1, Nat.lt_of_lt_of_le (h.old b hb).2 hz⟩, hr, hp,
    (by obtain ⟨n, φ, h1, h2⟩ := h.fns; exact ⟨n, φ, h1.same (hs _ (by rw [h.ownf]; omega) (by rw [h.ownf]; omega)), h2⟩), h.ownf,
    (by obtain ⟨n, φ, h1, h2⟩ := h.wds; exact ⟨n, φ, h1.same (hs _ (by rw [h.ownw]; omega) (by rw [h.ownw]; omega)), h2⟩),
    (fun x hx => ⟨(h.wrd x hx).1.same (hs _ (by rw [(h.wrd x hx).2]; omega) (by rw [(h.wrd x hx).2]; omega)), (h.wrd x hx).2⟩), h.inj, h.ownw,
    h.line.same hz (fun k hk => hs k (by rw [h.ownk k hk]; omega) (by rw [h.ownk k hk]; omega)), h.ownk,
    h.tr.same hz (fun k hk => hs k (by rw [h.ownt k hk]; omega) (by rw [h.ownt k hk]; omega)), h.ownt,
    h.calls.same (fun k h1 h2 => ⟨hs k (by omega) (by omega), rfl⟩), h.inp, ⟨(hs _ (by rw [h.xb.2]; omega) (by rw [h.xb.2]; omega)).trans h.xb.1, h.xb.2⟩⟩
/-- The innermost call. -/
theorem MachAt.top {e : Env} {q : Plc} {w w' : World} {s : PS} {c : PC} {cs : List PC} {b : Nat} {bs : List Nat} (h : MachAt e q w s) (hcs : s.calls = c :: cs) (hbs : q.bs = b :: bs) (c' : PC) {l : List Nat} (hc : Chg l w w') (hl : ∀ k ∈ l, 10 + 2 * cs.length ≤ q.own k) (hcall : CallAt e.w0 w' q.own cs.length c' b) :
    MachAt e q w' (s.top c' cs) := by
  have hs : ∀ b, q.own b < 10 + 2 * cs.length → q.own b ≠ 0 → w'.heap[b]? = w.heap[b]? := h.near hc (P := fun k => k < 10 + 2 * cs.length) (fun b hb hx => by have := hl b hb; omega)
  have hz := hc.size
  have hlen : (s.top c' cs).calls.length = s.calls.length := by rw [hcs]; rfl
  have hcalls := h.calls
  rw [hcs, hbs] at hcalls
  exact ⟨h.belowC hc (fun b hb => by have := hl b hb; omega), fun b hb => ⟨(h.old b hb).1, Nat.lt_of_lt_of_le (h.old b hb).2 hz⟩, (by rw [hlen]; exact (hs _ (by rw [h.ownp]; omega) (by rw [h.ownp]; omega)).trans h.run), h.ownp,
    (by obtain ⟨n, φ, h1, h2⟩ := h.fns; exact ⟨n, φ, h1.same (hs _ (by rw [h.ownf]; omega) (by rw [h.ownf]; omega)), h2⟩), h.ownf,
    (by obtain ⟨n, φ, h1, h2⟩ := h.wds; exact ⟨n, φ, h1.same (hs _ (by rw [h.ownw]; omega) (by rw [h.ownw]; omega)), h2⟩),
    (fun x hx => ⟨(h.wrd x hx).1.same (hs _ (by rw [(h.wrd x hx).2]; omega) (by rw [(h.wrd x hx).2]; omega)), (h.wrd x hx).2⟩), h.inj, h.ownw,
    (by rw [hlen]; exact h.line.same hz (fun k hk => hs k (by rw [h.ownk k hk]; omega) (by rw [h.ownk k hk]; omega))), h.ownk,
    h.tr.same hz (fun k hk => hs k (by rw [h.ownt k hk]; omega) (by rw [h.ownt k hk]; omega)), h.ownt,
    (by rw [hbs]; exact ⟨hcall, hcalls.2.same (fun k h1 h2 => ⟨hs k (by omega) (by omega), rfl⟩)⟩), h.inp, ⟨(hs _ (by rw [h.xb.2]; omega) (by rw [h.xb.2]; omega)).trans h.xb.1, h.xb.2⟩⟩
theorem ba_eq {x y : ByteArray} (h : x.data.toList = y.data.toList) : x = y := by
  cases x
  cases y
  congr 1
  exact Array.toList_inj.1 h
/-- A word of a global. -/
theorem MachAt.word {e : Env} {q : Plc} {w w' : World} {s : PS} (h : MachAt e q w s) (x : ByteArray) (hx : e.G x) (l' : List Int) (hlen : l'.length = (s.words x).length) (hc : Chg [q.wb x] w w') (hr : RegAt w' (q.wb x) l') :
    MachAt e q w' { s with words := setWd s.words x l' } := by
  have ho := (h.wrd x hx).2
  have hs : ∀ b, q.own b ≠ 6 → q.own b ≠ 0 → w'.heap[b]? = w.heap[b]? := h.near hc (P := fun k => k ≠ 6) (fun b hb => by rw [List.mem_singleton] at hb; subst hb; exact fun hx => hx ho)
  have hz := hc.size
  have hput : ∀ y, e.G y → (setWd s.words x l' y).length = (s.words y).length := fun y hy => by
    unfold setWd
    by_cases hyx : y.data.toList = x.data.toList
    · rw [if_pos hyx, hlen, ba_eq hyx]
    · rw [if_neg hyx]
  exact ⟨h.belowC hc (fun b hb => by rw [List.mem_singleton] at hb; subst hb; omega), fun b hb => ⟨(h.old b hb).1, Nat.lt_of_lt_of_le (h.old b hb).2 hz⟩, (hs _ (by rw [h.ownp]; omega) (by rw [h.ownp]; omega)).trans h.run, h.ownp,
    (by obtain ⟨n, φ, h1, h2⟩ := h.fns; exact ⟨n, φ, h1.same (hs _ (by rw [h.ownf]; omega) (by rw [h.ownf]; omega)), h2⟩), h.ownf,
    (by obtain ⟨n, φ, h1, h2⟩ := h.wds; exact ⟨n, φ, h1.same (hs _ (by rw [h.ownw]; omega) (by rw [h.ownw]; omega)), fun y hy => by rw [hput y hy]; exact h2 y hy⟩),
    (fun y hy => ⟨(by
      show RegAt w' (q.wb y) (setWd s.words x l' y)
      unfold setWd
      by_cases hyx : y.data.toList = x.data.toList
      · rw [if_pos hyx, ba_eq hyx]; exact hr
      · rw [if_neg hyx]
        exact (h.wrd y hy).1.same (hc.same _ (h.old _ (by rw [(h.wrd y hy).2]; omega)).2 (by rw [List.mem_singleton]; exact fun e => hyx (h.inj y x hy hx e)))), (h.wrd y hy).2⟩), h.inj, h.ownw,
    h.line.same hz (fun k hk => hs k (by rw [h.ownk k hk]; omega) (by rw [h.ownk k hk]; omega)), h.ownk,
    h.tr.same hz (fun k hk => hs k (by rw [h.ownt k hk]; omega) (by rw [h.ownt k hk]; omega)), h.ownt,
    h.calls.same (fun k h1 h2 => ⟨hs k (by omega) (by omega), rfl⟩), h.inp, ⟨(hs _ (by rw [h.xb.2]; omega) (by rw [h.xb.2]; omega)).trans h.xb.1, h.xb.2⟩⟩
theorem MachAt.drew {e : Env} {q : Plc} {w : World} {s : PS} (h : MachAt e q w s) : MachAt e q w.drew s :=
  ⟨h.below.drew, h.old, h.run, h.ownp, h.fns, h.ownf, h.wds, h.wrd, h.inj, h.ownw, h.line.drew, h.ownk, h.tr.drew, h.ownt, (h.calls.same fun k _ _ => ⟨rfl, rfl⟩), h.inp, h.xb⟩
end Go.Proofs.Ytcanjkjpdnbcnaa
namespace Go.Proofs.Ytcanjkjpdnbcnaa
open Go.RowKit
set_option linter.unusedVariables false
set_option linter.unusedSimpArgs false
set_option maxRecDepth 100000

theorem zeroWords (w : World) : (zeroValue 26).run Try.prog w = .ok (.slice none 0 0) w := by kernel_rfl
theorem MapAt.words {w : World} {M n : Nat} {f : ByteArray → Option Value} (h : MapAt w M n f) (x : ByteArray) (hx : x.size ≤ maxLen) {v : Value} (hv : f x = some v) (d : Nat) :
    (Instr.lookup 51 (.map (some M)) (.string x) false).run Try.prog (w.drewN d) = .ok v (w.drewN d) :=
  (h.same (w' := w.drewN d) rfl).get 51 26 Try.underlying51 _ (zeroWords _) x hx hv
set_option maxHeartbeats 3200000 in
theorem element_reg (w : World) (p cb rb g o n wm nw wb m : Nat) (j : Nat) (l : List Int) (nm : ByteArray) (ω : ByteArray → Option Value)
    (x3 : w.cell? ⟨g, o + 3, none⟩ = some (.int .i64 (j : Int))) (x6 : w.cell? ⟨g, o + 6, none⟩ = some (.string nm)) (hnm : nm.size ≤ maxLen)
    (c1 : w.cell? ⟨cb, 1, none⟩ = some (.slice (some ⟨rb, 0, none⟩) n n)) (hr : RegAt w rb l) (hl : l.length = n) (hj : j < n) (hn : n ≤ 100000)
    (p1 : w.cell? ⟨p, 1, none⟩ = some (.map (some wm))) (hω : MapAt w wm nw ω) (hv : ω nm = some (.slice (some ⟨wb, 0, none⟩) m m)) (hmm : m ≤ 100000) (hz : 0 ≤ (l.getD j 0)) (hm : (l.getD j 0) < (m : Int)) :
    Calls Try.prog 41 #[.pointer (some ⟨p, 0, none⟩), .pointer (some ⟨cb, 0, none⟩), .pointer (some ⟨g, o, none⟩)] w fun e w' => e = .returned (.pointer (some ⟨wb, (l.getD j 0).toNat, none⟩)) ∧ ∃ d, w' = w.drewN d := by
  have HL := hω.words nm hnm hv
  have hL0 := HL 0
  have hm2 : (m : Int) ≤ 100000 := by omega
  have hm0 : (0 : Int) ≤ (m : Int) := by omega
  have s0 := hr.cell j (by omega)
  have zj0 : (0 : Int) ≤ (j : Int) := by omega
  have zjn : (j : Int) < (n : Int) := by omega
  have hn2 : (n : Int) ≤ 100000 := by omega
  generalize l.getD j 0 = z at *
  obtain ⟨q, rfl⟩ : ∃ q : Nat, z = (q : Int) := ⟨z.toNat, by omega⟩
  clear hr hl hω
  go_enter Try.func41, Try.ntmps41
  go_wp2_with fail
  go_quiet (fail)
  go_wp2_with fail
  go_quiet (fail)
  go_wp2_with fail
  go_ret
  exact ⟨rfl, _, rfl⟩
set_option maxHeartbeats 3200000 in
theorem element_low (w : World) (p cb rb g o n wm nw wb m : Nat) (j : Nat) (l : List Int) (nm : ByteArray) (ω : ByteArray → Option Value)
    (x3 : w.cell? ⟨g, o + 3, none⟩ = some (.int .i64 (j : Int))) (x6 : w.cell? ⟨g, o + 6, none⟩ = some (.string nm)) (hnm : nm.size ≤ maxLen)
    (c1 : w.cell? ⟨cb, 1, none⟩ = some (.slice (some ⟨rb, 0, none⟩) n n)) (hr : RegAt w rb l) (hl : l.length = n) (hj : j < n) (hn : n ≤ 100000)
    (p1 : w.cell? ⟨p, 1, none⟩ = some (.map (some wm))) (hω : MapAt w wm nw ω) (hv : ω nm = some (.slice (some ⟨wb, 0, none⟩) m m)) (hmm : m ≤ 100000) (hz : (l.getD j 0) < 0) :
    Calls Try.prog 41 #[.pointer (some ⟨p, 0, none⟩), .pointer (some ⟨cb, 0, none⟩), .pointer (some ⟨g, o, none⟩)] w fun e w' => Ends 3 e ∧ ∃ d, w' = w.drewN d := by
  have HL := hω.words nm hnm hv
  have hL0 := HL 0
  have hm2 : (m : Int) ≤ 100000 := by omega
  have hm0 : (0 : Int) ≤ (m : Int) := by omega
  have s0 := hr.cell j (by omega)
  have zj0 : (0 : Int) ≤ (j : Int) := by omega
  have zjn : (j : Int) < (n : Int) := by omega
  have hn2 : (n : Int) ≤ 100000 := by omega
  generalize l.getD j 0 = z at *
  clear hr hl hω
  go_enter Try.func41, Try.ntmps41
  go_wp2_with fail
  go_quiet (fail)
  go_wp2_with fail
  go_quiet (fail)
  go_wp2_with fail
  exact ⟨rfl, rfl, _, rfl⟩
set_option maxHeartbeats 3200000 in
theorem element_high (w : World) (p cb rb g o n wm nw wb m : Nat) (j : Nat) (l : List Int) (nm : ByteArray) (ω : ByteArray → Option Value)
    (x3 : w.cell? ⟨g, o + 3, none⟩ = some (.int .i64 (j : Int))) (x6 : w.cell? ⟨g, o + 6, none⟩ = some (.string nm)) (hnm : nm.size ≤ maxLen)
    (c1 : w.cell? ⟨cb, 1, none⟩ = some (.slice (some ⟨rb, 0, none⟩) n n)) (hr : RegAt w rb l) (hl : l.length = n) (hj : j < n) (hn : n ≤ 100000)
    (p1 : w.cell? ⟨p, 1, none⟩ = some (.map (some wm))) (hω : MapAt w wm nw ω) (hv : ω nm = some (.slice (some ⟨wb, 0, none⟩) m m)) (hmm : m ≤ 100000) (hz : 0 ≤ (l.getD j 0)) (hm : (m : Int) ≤ (l.getD j 0)) (hz2 : (l.getD j 0) ≤ 2147483647) :
    Calls Try.prog 41 #[.pointer (some ⟨p, 0, none⟩), .pointer (some ⟨cb, 0, none⟩), .pointer (some ⟨g, o, none⟩)] w fun e w' => Ends 3 e ∧ ∃ d, w' = w.drewN d := by
  have HL := hω.words nm hnm hv
  have hL0 := HL 0
  have hm2 : (m : Int) ≤ 100000 := by omega
  have hm0 : (0 : Int) ≤ (m : Int) := by omega
  have s0 := hr.cell j (by omega)
  have zj0 : (0 : Int) ≤ (j : Int) := by omega
  have zjn : (j : Int) < (n : Int) := by omega
  have hn2 : (n : Int) ≤ 100000 := by omega
  generalize l.getD j 0 = z at *
  clear hr hl hω
  go_enter Try.func41, Try.ntmps41
  go_wp2_with fail
  go_quiet (fail)
  go_wp2_with fail
  go_quiet (fail)
  go_wp2_with fail
  exact ⟨rfl, rfl, _, rfl⟩
set_option maxHeartbeats 3200000 in
theorem element_one (w : World) (p cb rb g o n wm nw wb m : Nat) (l : List Int) (nm : ByteArray) (ω : ByteArray → Option Value)
    (x3 : w.cell? ⟨g, o + 3, none⟩ = some (.int .i64 (-1))) (x6 : w.cell? ⟨g, o + 6, none⟩ = some (.string nm)) (hnm : nm.size ≤ maxLen)
    (c1 : w.cell? ⟨cb, 1, none⟩ = some (.slice (some ⟨rb, 0, none⟩) n n)) (hr : RegAt w rb l) (hl : l.length = n) (hn : n ≤ 100000)
    (p1 : w.cell? ⟨p, 1, none⟩ = some (.map (some wm))) (hω : MapAt w wm nw ω) (hv : ω nm = some (.slice (some ⟨wb, 0, none⟩) m m)) (hmm : m ≤ 100000) (hz : 0 ≤ 0) (hm : 0 < (m : Int)) :
    Calls Try.prog 41 #[.pointer (some ⟨p, 0, none⟩), .pointer (some ⟨cb, 0, none⟩), .pointer (some ⟨g, o, none⟩)] w fun e w' => e = .returned (.pointer (some ⟨wb, 0, none⟩)) ∧ ∃ d, w' = w.drewN d := by
  have HL := hω.words nm hnm hv
  have hL0 := HL 0
  have hm2 : (m : Int) ≤ 100000 := by omega
  have hm0 : (0 : Int) ≤ (m : Int) := by omega
  clear hr hl hω
  go_enter Try.func41, Try.ntmps41
  go_wp2_with fail
  go_quiet (fail)
  go_wp2_with fail
  go_ret
  exact ⟨rfl, _, rfl⟩
end Go.Proofs.Ytcanjkjpdnbcnaa
namespace Go.Proofs.Ytcanjkjpdnbcnaa
open Go.RowKit
set_option linter.unusedVariables false
set_option linter.unusedSimpArgs false
set_option maxRecDepth 100000

theorem un_any (op a : Int) (h : 19 ≤ op ∧ op ≤ 21) (w : World) : Calls Try.prog 39 #[.int .i64 op, .int .i32 a] w fun e w' => e = .returned (.tuple #[.int .i32 (unV op a), .bool true]) ∧ w = w' := by
  rcases (by omega : op = 19 ∨ op = 20 ∨ op = 21) with rfl | rfl | rfl
  · exact un_neg a w
  · exact un_not a w
  · exact un_inv a w
set_option maxHeartbeats 3200000 in
theorem do_2 (w : World) (p cb rb g o n k j : Nat) (l : List Int)
    (x0 : w.cell? ⟨g, o, none⟩ = some (.int .i64 2)) (x2 : w.cell? ⟨g, o + 2, none⟩ = some (.int .i64 (k : Int))) (x3 : w.cell? ⟨g, o + 3, none⟩ = some (.int .i64 (j : Int))) (hj : j < n)
    (c1 : w.cell? ⟨cb, 1, none⟩ = some (.slice (some ⟨rb, 0, none⟩) n n)) (hr : RegAt w rb l) (hl : l.length = n) (hk : k < n) (hn : n ≤ 100000) :
    Calls Try.prog 28 #[.pointer (some ⟨p, 0, none⟩), .pointer (some ⟨cb, 0, none⟩), .pointer (some ⟨g, o, none⟩)] w fun e w' => e = .returned (.tuple #[]) ∧ RegAt w' rb (l.set k (l.getD j 0)) ∧ Chg [rb] w w' := by
  have HR := Lib.hid (hr.done k (l.getD j 0))
  have r1 := hr.cell k (by omega)
  have f1 := hr.free k
  have s0 := hr.cell j (by omega)
  have zj0 : (0 : Int) ≤ (j : Int) := by omega
  have zjn : (j : Int) < (n : Int) := by omega
  have hk0 : (0 : Int) ≤ (k : Int) := by omega
  have hkn : (k : Int) < (n : Int) := by omega
  have hn2 : (n : Int) ≤ 100000 := by omega
  generalize l.getD k 0 = v0 at *
  try generalize l.getD j 0 = va at *
  clear hr hl
  go_enter Try.func28, Try.ntmps28
  go_wp2_with fail
  refine wp_region_still_tail 19 (by kernel_rfl) (by kernel_rfl) ?_
  simp only [List.take_succ_cons, List.take_zero, List.drop_succ_cons, List.drop_zero]
  repeat still_step
  refine wpStill_nil ?_
  change wpList _ _ _ _ _ (World.drew _)
  go_wp2_with fail
  exact bodyPost_end (results_none rfl _ _ _) rfl ⟨rfl, HR.out.1, HR.out.2⟩
set_option maxHeartbeats 3200000 in
theorem do_3 (w : World) (p cb rb g o n k j : Nat) (l : List Int) (op : Int)
    (x0 : w.cell? ⟨g, o, none⟩ = some (.int .i64 3)) (x2 : w.cell? ⟨g, o + 2, none⟩ = some (.int .i64 (k : Int))) (x3 : w.cell? ⟨g, o + 3, none⟩ = some (.int .i64 (j : Int))) (hj : j < n) (x1 : w.cell? ⟨g, o + 1, none⟩ = some (.int .i64 op)) (hop : 19 ≤ op ∧ op ≤ 21)
    (c1 : w.cell? ⟨cb, 1, none⟩ = some (.slice (some ⟨rb, 0, none⟩) n n)) (hr : RegAt w rb l) (hl : l.length = n) (hk : k < n) (hn : n ≤ 100000) :
    Calls Try.prog 28 #[.pointer (some ⟨p, 0, none⟩), .pointer (some ⟨cb, 0, none⟩), .pointer (some ⟨g, o, none⟩)] w fun e w' => e = .returned (.tuple #[]) ∧ RegAt w' rb (l.set k (unV op (l.getD j 0))) ∧ Chg [rb] w w' := by
  have HR := Lib.hid (hr.done k (unV op (l.getD j 0)))
  have r1 := hr.cell k (by omega)
  have f1 := hr.free k
  have s0 := hr.cell j (by omega)
  have zj0 : (0 : Int) ≤ (j : Int) := by omega
  have zjn : (j : Int) < (n : Int) := by omega
  have hk0 : (0 : Int) ≤ (k : Int) := by omega
  have hkn : (k : Int) < (n : Int) := by omega
  have hn2 : (n : Int) ≤ 100000 := by omega
  generalize l.getD k 0 = v0 at *
  try generalize l.getD j 0 = va at *
  clear hr hl
  go_enter Try.func28, Try.ntmps28
  go_wp2_with fail
  refine wp_region_still_tail 27 (by kernel_rfl) (by kernel_rfl) ?_
  simp only [List.take_succ_cons, List.take_zero, List.drop_succ_cons, List.drop_zero]
  repeat still_step
  still_call ((un_any _ _ hop _).mono fun _ _ ⟨he, hw⟩ => ⟨he, hw.symm⟩)
  repeat still_step
  still_call ((divided_yes _ _).mono fun _ _ ⟨he, hw⟩ => ⟨he, hw.symm⟩)
  repeat still_step
  refine wpStill_nil ?_
  change wpList _ _ _ _ _ (World.drew _)
  go_wp2_with fail
  exact bodyPost_end (results_none rfl _ _ _) rfl ⟨rfl, HR.out.1, HR.out.2⟩
set_option maxHeartbeats 3200000 in
theorem do_4 (w : World) (p cb rb g o n k j i : Nat) (l : List Int) (op : Int)
    (x0 : w.cell? ⟨g, o, none⟩ = some (.int .i64 4)) (x2 : w.cell? ⟨g, o + 2, none⟩ = some (.int .i64 (k : Int))) (x3 : w.cell? ⟨g, o + 3, none⟩ = some (.int .i64 (j : Int))) (hj : j < n) (x4 : w.cell? ⟨g, o + 4, none⟩ = some (.int .i64 (i : Int))) (hi : i < n) (x1 : w.cell? ⟨g, o + 1, none⟩ = some (.int .i64 op)) (hop : (WordBins.binV op (l.getD j 0) (l.getD i 0)).2 = true)
    (c1 : w.cell? ⟨cb, 1, none⟩ = some (.slice (some ⟨rb, 0, none⟩) n n)) (hr : RegAt w rb l) (hl : l.length = n) (hk : k < n) (hn : n ≤ 100000) :
    Calls Try.prog 28 #[.pointer (some ⟨p, 0, none⟩), .pointer (some ⟨cb, 0, none⟩), .pointer (some ⟨g, o, none⟩)] w fun e w' => e = .returned (.tuple #[]) ∧ RegAt w' rb (l.set k (WordBins.binV op (l.getD j 0) (l.getD i 0)).1) ∧ Chg [rb] w w' := by
  have HR := Lib.hid (hr.done k (WordBins.binV op (l.getD j 0) (l.getD i 0)).1)
  have HB : Hid (∀ W : World, Calls Try.prog 40 #[.int .i64 op, .int .i32 (l.getD j 0), .int .i32 (l.getD i 0)] W fun e w' => e = .returned (.tuple #[.int .i32 (WordBins.binV op (l.getD j 0) (l.getD i 0)).1, .bool true]) ∧ W = w') := Lib.hid (fun W => by have h := WordBins.bin_any op (l.getD j 0) (l.getD i 0) W; rw [hop] at h; exact h)
  generalize (WordBins.binV op (l.getD j 0) (l.getD i 0)).1 = vv at *
  clear hop
  have r1 := hr.cell k (by omega)
  have f1 := hr.free k
  have s0 := hr.cell j (by omega)
  have zj0 : (0 : Int) ≤ (j : Int) := by omega
  have zjn : (j : Int) < (n : Int) := by omega
  have s1 := hr.cell i (by omega)
  have zi0 : (0 : Int) ≤ (i : Int) := by omega
  have zin : (i : Int) < (n : Int) := by omega
  have hk0 : (0 : Int) ≤ (k : Int) := by omega
  have hkn : (k : Int) < (n : Int) := by omega
  have hn2 : (n : Int) ≤ 100000 := by omega
  generalize l.getD k 0 = v0 at *
  try generalize l.getD j 0 = va at *
  try generalize l.getD i 0 = vb at *
  clear hr hl
  go_enter Try.func28, Try.ntmps28
  go_wp2_with fail
  refine wp_region_still_tail 37 (by kernel_rfl) (by kernel_rfl) ?_
  simp only [List.take_succ_cons, List.take_zero, List.drop_succ_cons, List.drop_zero]
  repeat still_step
  still_call ((HB.out _).mono fun _ _ ⟨he, hw⟩ => ⟨he, hw.symm⟩)
  repeat still_step
  still_call ((divided_yes _ _).mono fun _ _ ⟨he, hw⟩ => ⟨he, hw.symm⟩)
  repeat still_step
  refine wpStill_nil ?_
  change wpList _ _ _ _ _ (World.drew _)
  go_wp2_with fail
  exact bodyPost_end (results_none rfl _ _ _) rfl ⟨rfl, HR.out.1, HR.out.2⟩
end Go.Proofs.Ytcanjkjpdnbcnaa
