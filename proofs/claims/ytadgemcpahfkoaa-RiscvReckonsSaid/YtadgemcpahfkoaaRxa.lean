/-
  The machine in memory: its block, cell by cell; its pure states.
-/
import Derived.Test.YtadgemcpahfkoaaSlw
import Derived.Test.YtadgemcpahfkoaaRvd
import Derived.Test.YtadgemcpahfkoaaKmp
import Derived.StillTailTactics
import Derived.Deep.Cut
import Derived.Defers
import Derived.Recover
import Derived.OwnWalk
namespace Go.Proofs.Ytadgemcpahfkoaa
open Go.RowKit
set_option linter.unusedVariables false
set_option linter.unusedSimpArgs false
set_option maxRecDepth 100000
namespace Rv

/-- A line of a program. -/
structure Ln where
  k : Int
  op : Int
  d : Int
  a : Int
  b : Int
  n : Int
  s : ByteArray
def Ln.cells (l : Ln) : List Value := [.int .i64 l.k, .int .i64 l.op, .int .i64 l.d, .int .i64 l.a, .int .i64 l.b, .int .i32 l.n, .string l.s]
def Ln.val (l : Ln) : Value := .agg #[.int .i64 l.k, .int .i64 l.op, .int .i64 l.d, .int .i64 l.a, .int .i64 l.b, .int .i32 l.n, .string l.s]
/-- What an instruction looks like that a machine may meet. -/
structure Ln.Ok (l : Ln) : Prop where
  k : l.k = 2
  op : 1 ≤ l.op ∧ l.op ≤ 30
  d : 0 ≤ l.d ∧ l.d < 32
  a : 0 ≤ l.a ∧ l.a < 32
  b : 0 ≤ l.b ∧ l.b < 32
  n : -2147483648 ≤ l.n ∧ l.n ≤ 2147483647
  sys : l.op = 25 ∨ l.op = 30 → l.d = 0
/-- Lines in memory. -/
def LnsAt (w : World) (A : Option Addr) (n : Nat) (ls : List Ln) : Prop :=
  ls.length = n ∧ (0 < n → ∃ g off, A = some ⟨g, off, none⟩ ∧ g < w.heap.size ∧ ∀ i l, ls[i]? = some l → ∀ j v, l.cells[j]? = some v → w.cell? ⟨g, off + i * 7 + j, none⟩ = some v)
theorem LnsAt.below {w w' : World} {A : Option Addr} {n : Nat} {ls : List Ln} (h : LnsAt w A n ls) (hb : Below w.heap.size w w') : LnsAt w' A n ls := by
  refine ⟨h.1, fun hn => ?_⟩
  obtain ⟨g, off, e, hg, hc⟩ := h.2 hn
  exact ⟨g, off, e, Nat.lt_of_lt_of_le hg hb.size, fun i l hi j v hj => (hb.cell (p := ⟨g, off + i * 7 + j, none⟩) hg).trans (hc i l hi j v hj)⟩
/-- Words in memory, of a kind. -/
def RowK (k : IntKind) (w : World) (A : Option Addr) (n : Nat) (zs : List Int) : Prop :=
  zs.length = n ∧ (0 < n → ∃ b off, A = some ⟨b, off, none⟩ ∧ b < w.heap.size ∧ ∀ i, i < n → w.cell? ⟨b, off + i, none⟩ = some (.int k (zs.getD i 0)))
theorem RowK.below {k : IntKind} {w w' : World} {A : Option Addr} {n : Nat} {zs : List Int} (h : RowK k w A n zs) (hb : Below w.heap.size w w') : RowK k w' A n zs := by
  refine ⟨h.1, fun hn => ?_⟩
  obtain ⟨b, off, e, hlt, hc⟩ := h.2 hn
  exact ⟨b, off, e, Nat.lt_of_lt_of_le hlt hb.size, fun i hi => (hb.cell (p := ⟨b, off + i, none⟩) hlt).trans (hc i hi)⟩
def cellsW (zs : List Int) : List Value := zs.map fun z => .int .i32 z
/-- A block of words. -/
def RegAt (w : World) (b : Nat) (l : List Int) : Prop := w.heap[b]? = some (.cells (cellsW l).toArray 21 (0, 0))
theorem RegAt.cell {w : World} {b : Nat} {l : List Int} (h : RegAt w b l) (k : Nat) (hk : k < l.length) : w.cell? ⟨b, k, none⟩ = some (.int .i32 (l.getD k 0)) := by
  unfold RegAt at h
  rw [cell_of_row _ b k _ _ (0, 0) h]
  simp [cellsW, hk]
theorem RegAt.free {w : World} {b : Nat} {l : List Int} (h : RegAt w b l) (k : Nat) : w.frozen? ⟨b, k, none⟩ = false := by
  unfold RegAt at h
  simp [World.frozen?, h]
theorem RegAt.put {w : World} {b : Nat} {l : List Int} (h : RegAt w b l) (k : Nat) (v : Int) : RegAt (w.setCell ⟨b, k, none⟩ (.int .i32 v)) b (l.set k v) := by
  unfold RegAt at h ⊢
  rw [heap_setCell_same w b k _ _ _ h]
  congr 2
  apply Array.toList_inj.1
  simp [cellsW, List.map_set]
theorem RegAt.drew {w : World} {b : Nat} {l : List Int} (h : RegAt w b l) : RegAt w.drew b l := h
theorem RegAt.same {w w' : World} {b : Nat} {l : List Int} (h : RegAt w b l) (hb : w'.heap[b]? = w.heap[b]?) : RegAt w' b l := hb.trans h
theorem RegAt.new (w : World) (l : List Int) : RegAt (w.alloc (.cells (cellsW l).toArray 21)) w.heap.size l := heap_alloc_new w _
theorem RegAt.lt {w : World} {b : Nat} {l : List Int} (h : RegAt w b l) : b < w.heap.size := (Array.getElem?_eq_some_iff.1 h).1

/-- A block of which some cells are known. -/
def CellsAt (w : World) (p : Nat) (f : Nat → Option Value) : Prop := ∃ arr, w.heap[p]? = some (.cells arr 88 (0, 0)) ∧ ∀ j v, f j = some v → arr[j]? = some v
theorem CellsAt.lt {w : World} {p : Nat} {f : Nat → Option Value} (h : CellsAt w p f) : p < w.heap.size := by
  obtain ⟨arr, h1, _⟩ := h
  exact (Array.getElem?_eq_some_iff.1 h1).1
theorem CellsAt.cell {w : World} {p : Nat} {f : Nat → Option Value} (h : CellsAt w p f) (j : Nat) (v : Value) (hj : f j = some v) : w.cell? ⟨p, j, none⟩ = some v := by
  obtain ⟨arr, h1, h2⟩ := h
  rw [cell_of_row _ p j _ _ (0, 0) h1]
  exact h2 j v hj
theorem CellsAt.free {w : World} {p : Nat} {f : Nat → Option Value} (h : CellsAt w p f) (j : Nat) : w.frozen? ⟨p, j, none⟩ = false := by
  obtain ⟨arr, h1, h2⟩ := h
  exact frozen_of_row _ p j _ _ h1
theorem CellsAt.same {w w' : World} {p : Nat} {f : Nat → Option Value} (h : CellsAt w p f) (hb : w'.heap[p]? = w.heap[p]?) : CellsAt w' p f := by
  obtain ⟨arr, h1, h2⟩ := h
  exact ⟨arr, hb.trans h1, h2⟩
theorem CellsAt.set {w : World} {p : Nat} {f : Nat → Option Value} (h : CellsAt w p f) (j : Nat) (v : Value) (hj : (f j).isSome = true) (g : Nat → Option Value) (hg : ∀ i u, g i = some u → if i = j then u = v else f i = some u) : CellsAt (w.setCell ⟨p, j, none⟩ v) p g := by
  obtain ⟨arr, h1, h2⟩ := h
  refine ⟨_, heap_setCell_same w p j _ _ v h1, fun i u hu => ?_⟩
  have h3 := hg i u hu
  obtain ⟨u0, hu0⟩ := Option.isSome_iff_exists.1 hj
  have h4 := h2 j u0 hu0
  have hlt := (Array.getElem?_eq_some_iff.1 h4).1
  by_cases e : i = j
  · rw [if_pos e] at h3
    subst e
    rw [h3]
    simp [hlt]
  · rw [if_neg e] at h3
    rw [Array.getElem?_setIfInBounds_ne (by omega)]
    exact h2 i u h3

/-- A machine's state. -/
structure MS where
  regs : List Int
  mem : List Int
  pc : Int
  v : Int
  tr : List Int
  steps : Nat
  reads : Nat
/-- What a machine has that stays. -/
structure Pl where
  LA : Option Addr
  ln : Nat
  lc : Nat
  mb : Nat
  mn : Nat
  iA : Option Addr
  im : Nat
  ic : Nat
  fuel : Int
def cellF (q : Pl) (tA : Option Addr) (tc : Nat) (s : MS) : Nat → Option Value := fun j =>
  if j = 0 then some (.slice q.LA q.ln q.lc) else if j < 33 then some (.int .i32 (s.regs.getD (j - 1) 0)) else if j = 33 then some (.slice (some ⟨q.mb, 0, none⟩) q.mn q.mn)
  else if j = 34 then some (.int .i32 s.pc) else if j = 35 then some (.slice q.iA q.im q.ic) else if j = 36 then some (.int .i64 q.fuel) else if j = 37 then some (.int .i64 0)
  else if j = 38 then some (.int .i32 s.v) else if j = 39 then some (.slice tA s.tr.length tc) else if j = 40 then some (.int .i64 (s.steps : Int)) else if j = 41 then some (.int .i64 (s.reads : Int)) else none
theorem cellF_reg (q : Pl) (tA : Option Addr) (tc : Nat) (s : MS) (k : Nat) (hk : k < 32) : cellF q tA tc s (1 + k) = some (.int .i32 (s.regs.getD k 0)) := by
  unfold cellF
  rw [if_neg (by omega), if_pos (by omega), show 1 + k - 1 = k from by omega]
theorem cellF_some (q : Pl) (tA : Option Addr) (tc : Nat) (s : MS) (j : Nat) (hj : j < 42) : (cellF q tA tc s j).isSome = true := by
  unfold cellF
  (repeat' split) <;> first | rfl | omega
/-- A machine's cells when its number pc, its steps, its reads, its value, its trace or a register is another. -/
theorem cellF_pc (q : Pl) (tA : Option Addr) (tc : Nat) (s : MS) (z : Int) (i : Nat) (u : Value) (h : cellF q tA tc { s with pc := z } i = some u) : if i = 34 then u = .int .i32 z else cellF q tA tc s i = some u := by
  by_cases e : i = 34
  · rw [if_pos e]; subst e; simp [cellF] at h; exact h.symm
  · rw [if_neg e, ← h]; simp [cellF, e]
theorem cellF_steps (q : Pl) (tA : Option Addr) (tc : Nat) (s : MS) (z : Nat) (i : Nat) (u : Value) (h : cellF q tA tc { s with steps := z } i = some u) : if i = 40 then u = .int .i64 (z : Int) else cellF q tA tc s i = some u := by
  by_cases e : i = 40
  · rw [if_pos e]; subst e; simp [cellF] at h; exact h.symm
  · rw [if_neg e, ← h]; simp [cellF, e]
theorem cellF_reads (q : Pl) (tA : Option Addr) (tc : Nat) (s : MS) (z : Nat) (i : Nat) (u : Value) (h : cellF q tA tc { s with reads := z } i = some u) : if i = 41 then u = .int .i64 (z : Int) else cellF q tA tc s i = some u := by
  by_cases e : i = 41
  · rw [if_pos e]; subst e; simp [cellF] at h; exact h.symm
  · rw [if_neg e, ← h]; simp [cellF, e]
theorem cellF_v (q : Pl) (tA : Option Addr) (tc : Nat) (s : MS) (z : Int) (i : Nat) (u : Value) (h : cellF q tA tc { s with v := z } i = some u) : if i = 38 then u = .int .i32 z else cellF q tA tc s i = some u := by
  by_cases e : i = 38
  · rw [if_pos e]; subst e; simp [cellF] at h; exact h.symm
  · rw [if_neg e, ← h]; simp [cellF, e]
theorem cellF_tr (q : Pl) (tA : Option Addr) (tc : Nat) (tA' : Option Addr) (tc' : Nat) (s : MS) (l : List Int) (i : Nat) (u : Value) (h : cellF q tA' tc' { s with tr := l } i = some u) : if i = 39 then u = .slice tA' l.length tc' else cellF q tA tc s i = some u := by
  by_cases e : i = 39
  · rw [if_pos e]; subst e; simp [cellF] at h; exact h.symm
  · rw [if_neg e, ← h]; simp [cellF, e]
theorem cellF_set (q : Pl) (tA : Option Addr) (tc : Nat) (s : MS) (k : Nat) (hk : k < 32) (hl : s.regs.length = 32) (z : Int) (i : Nat) (u : Value) (h : cellF q tA tc { s with regs := s.regs.set k z } i = some u) : if i = 1 + k then u = .int .i32 z else cellF q tA tc s i = some u := by
  by_cases e : i = 1 + k
  · rw [if_pos e]
    subst e
    rw [cellF_reg _ _ _ _ k hk] at h
    cases h
    rw [List.getD_eq_getElem?_getD, List.getElem?_set_self (by omega)]
    rfl
  · rw [if_neg e, ← h]
    unfold cellF
    by_cases e2 : i = 0
    · simp [e2]
    · by_cases e3 : i < 33
      · rw [if_neg e2, if_pos e3, if_neg e2, if_pos e3]
        dsimp only
        rw [List.getD_eq_getElem?_getD, List.getD_eq_getElem?_getD, List.getElem?_set_ne (by omega)]
      · simp [e2, e3]
/-- What a run is over: the world ahead of it, where its block lies, its lines and input. -/
structure Env where
  w0 : World
  p : Nat
  xb : Nat
  q : Pl
  ls : List Ln
  inp : List Int
structure MAt (e : Env) (w : World) (s : MS) : Prop where
  below : Below e.w0.heap.size e.w0 w
  pge : e.w0.heap.size ≤ e.p ∧ e.w0.heap.size ≤ e.q.mb ∧ e.w0.heap.size ≤ e.xb
  apart : e.p ≠ e.q.mb ∧ e.p ≠ e.xb ∧ e.q.mb ≠ e.xb
  xb : w.heap[e.xb]? = some (.cells #[.pointer (some ⟨e.p, 0, none⟩)] 83 (0, 0))
  mem : RegAt w e.q.mb s.mem
  mlen : s.mem.length = e.q.mn
  rlen : s.regs.length = 32
  lines : LnsAt e.w0 e.q.LA e.q.ln e.ls
  inp : RowK .i32 e.w0 e.q.iA e.q.im e.inp
  box : ∃ tA tc, CellsAt w e.p (cellF e.q tA tc s) ∧ SLine 1 w tA s.tr.length tc (cellsW s.tr) ∧ ∀ k ∈ blk tA, e.w0.heap.size ≤ k ∧ k ≠ e.p ∧ k ≠ e.q.mb ∧ k ≠ e.xb
theorem setCell_off (w : World) (p o : Nat) (v : Value) (b : Nat) (hb : b ≠ p) : (w.setCell ⟨p, o, none⟩ v).heap[b]? = w.heap[b]? := heap_setCell_other w _ _ _ hb
/-- A cell of the machine is another, and its state with it. -/
theorem MAt.put {e : Env} {w : World} {s : MS} (h : MAt e w s) (j : Nat) (hj : j < 42) (v : Value) (s' : MS) (h1 : s'.mem = s.mem) (h2 : s'.tr = s.tr) (h3 : s'.regs.length = 32)
    (hg : ∀ tA tc i u, cellF e.q tA tc s' i = some u → if i = j then u = v else cellF e.q tA tc s i = some u) : MAt e (w.setCell ⟨e.p, j, none⟩ v) s' := by
  obtain ⟨tA, tc, hc, hl, hn⟩ := h.box
  have hB : Chg [e.p] w (w.setCell ⟨e.p, j, none⟩ v) := (Chg.refl _ w).setCell e.p j v (.inl (by simp))
  have hp := h.pge
  have ha := h.apart
  exact ⟨h.below.trans (hB.toBelow (fun k hk => by rw [List.mem_singleton] at hk; omega) h.below.size), h.pge, h.apart, (setCell_off _ _ _ _ _ ha.2.1.symm).trans h.xb, by rw [h1]; exact h.mem.same (setCell_off _ _ _ _ _ ha.1.symm),
    by rw [h1]; exact h.mlen, h3, h.lines, h.inp, tA, tc, hc.set j v (cellF_some _ _ _ _ _ hj) _ (hg tA tc), by rw [h2]; exact hl.chg hB (fun k hk => by rw [List.mem_singleton]; exact (hn k hk).2.1), hn⟩
theorem MAt.drew {e : Env} {w : World} {s : MS} (h : MAt e w s) : MAt e w.drew s := by
  obtain ⟨tA, tc, hc, hl, hn⟩ := h.box
  exact ⟨h.below.drew, h.pge, h.apart, h.xb, h.mem, h.mlen, h.rlen, h.lines, h.inp, tA, tc, hc.same rfl, hl.drew, hn⟩
/-- Further blocks change nothing. -/
theorem MAt.grow {e : Env} {w w' : World} {s : MS} (h : MAt e w s) (hb : Below w.heap.size w w') : MAt e w' s := by
  obtain ⟨tA, tc, hc, hl, hn⟩ := h.box
  exact ⟨h.below.trans (hb.mono h.below.size), h.pge, h.apart, (hb.block _ (Array.getElem?_eq_some_iff.1 h.xb).1).trans h.xb, h.mem.same (hb.block _ h.mem.lt), h.mlen, h.rlen, h.lines, h.inp, tA, tc, hc.same (hb.block _ hc.lt), hl.below hb, hn⟩
/-- A word of memory is another. -/
theorem MAt.store {e : Env} {w : World} {s : MS} (h : MAt e w s) (k : Nat) (v : Int) : MAt e (w.setCell ⟨e.q.mb, k, none⟩ (.int .i32 v)) { s with mem := s.mem.set k v } := by
  obtain ⟨tA, tc, hc, hl, hn⟩ := h.box
  have hB : Chg [e.q.mb] w (w.setCell ⟨e.q.mb, k, none⟩ (.int .i32 v)) := (Chg.refl _ w).setCell e.q.mb k _ (.inl (by simp))
  have hp := h.pge
  have ha := h.apart
  exact ⟨h.below.trans (hB.toBelow (fun k hk => by rw [List.mem_singleton] at hk; omega) h.below.size), h.pge, h.apart, (setCell_off _ _ _ _ _ ha.2.2.symm).trans h.xb, h.mem.put k v,
    by rw [← h.mlen]; simp, h.rlen, h.lines, h.inp, tA, tc, hc.same (setCell_off _ _ _ _ _ ha.1), hl.chg hB (fun k hk => by rw [List.mem_singleton]; exact (hn k hk).2.2.1), hn⟩
theorem MAt.cell {e : Env} {w : World} {s : MS} (h : MAt e w s) (j : Nat) (v : Value) (hj : ∀ tA tc, cellF e.q tA tc s j = some v) : w.cell? ⟨e.p, j, none⟩ = some v := by
  obtain ⟨tA, tc, hc, hl, hn⟩ := h.box
  exact hc.cell j v (hj tA tc)
theorem MAt.free {e : Env} {w : World} {s : MS} (h : MAt e w s) (j : Nat) : w.frozen? ⟨e.p, j, none⟩ = false := by
  obtain ⟨tA, tc, hc, hl, hn⟩ := h.box
  exact hc.free j
theorem MAt.reg {e : Env} {w : World} {s : MS} (h : MAt e w s) (k : Nat) (hk : k < 32) : w.cell? ⟨e.p, 1 + k, none⟩ = some (.int .i32 (s.regs.getD k 0)) := h.cell _ _ fun _ _ => cellF_reg _ _ _ _ k hk
end Rv
end Go.Proofs.Ytadgemcpahfkoaa
