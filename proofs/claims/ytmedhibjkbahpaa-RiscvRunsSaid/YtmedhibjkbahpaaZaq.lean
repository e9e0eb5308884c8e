/-
  The machine in memory: its block, cell by cell; its pure states.
  What an address is, what is read, what an Ecall does.
  What is read, what an Ecall does.
  A step of the machine.
  Symbols in memory; an image; a machine that has done nothing yet.
  A run of the machine: its pure states; how it ends is told by the deferred function; riscv.Run.
  Contract of riscv.Run.
-/
import Derived.Test.YtmedhibjkbahpaaZap
import Derived.Test.YtmedhibjkbahpaaZal
import Derived.Test.YtmedhibjkbahpaaZaj
import Derived.StillTailTactics
import Derived.Deep.Cut
import Derived.Defers
import Derived.Recover
import Derived.OwnWalk
import Derived.Test.YtmedhibjkbahpaaZaa
import Derived.Maps.Own
import Derived.Maps.OwnSet
import Derived.Maps.Views
namespace Go.Proofs.Ytmedhibjkbahpaa
open Go.RowKit
set_option linter.unusedVariables false
set_option linter.unusedSimpArgs false
set_option maxRecDepth 100000
namespace Rv

/-- A line of a program. -/
structure Ln where
  k : Int
  op : Int
  d : Int
  a : Int
  b : Int
  n : Int
  s : ByteArray
def Ln.cells (l : Ln) : List Value := [.int .i64 l.k, .int .i64 l.op, .int .i64 l.d, .int .i64 l.a, .int .i64 l.b, .int .i32 l.n, .string l.s]
def Ln.val (l : Ln) : Value := .agg #[.int .i64 l.k, .int .i64 l.op, .int .i64 l.d, .int .i64 l.a, .int .i64 l.b, .int .i32 l.n, .string l.s]
/-- What an instruction looks like that a machine may meet. -/
structure Ln.Ok (l : Ln) : Prop where
  k : l.k = 2
  op : 1 ≤ l.op ∧ l.op ≤ 30
  d : 0 ≤ l.d ∧ l.d < 32
  a : 0 ≤ l.a ∧ l.a < 32
  b : 0 ≤ l.b ∧ l.b < 32
  n : -2147483648 ≤ l.n ∧ l.n ≤ 2147483647
  sys : l.op = 25 ∨ l.op = 30 → l.d = 0
/-- Lines in memory. -/
def LnsAt (w : World) (A : Option Addr) (n : Nat) (ls : List Ln) : Prop :=
  ls.length = n ∧ (0 < n → ∃ g off, A = some ⟨g, off, none⟩ ∧ g < w.heap.size ∧ ∀ i l, ls[i]? = some l → ∀ j v, l.cells[j]? = some v → w.cell? ⟨g, off + i * 7 + j, none⟩ = some v)
theorem LnsAt.below {w w' : World} {A : Option Addr} {n : Nat} {ls : List Ln} (h : LnsAt w A n ls) (hb : Below w.heap.size w w') : LnsAt w' A n ls := by
  refine ⟨h.1, fun hn => ?_⟩
  obtain ⟨g, off, e, hg, hc⟩ := h.2 hn
  exact ⟨g, off, e, Nat.lt_of_lt_of_le hg hb.size, fun i l hi j v hj => (hb.cell (p := ⟨g, off + i * 7 + j, none⟩) hg).trans (hc i l hi j v hj)⟩
/-- Words in memory, of a kind. -/
def RowK (k : IntKind) (w : World) (A : Option Addr) (n : Nat) (zs : List Int) : Prop :=
  zs.length = n ∧ (0 < n → ∃ b off, A = some ⟨b, off, none⟩ ∧ b < w.heap.size ∧ ∀ i, i < n → w.cell? ⟨b, off + i, none⟩ = some (.int k (zs.getD i 0)))
theorem RowK.below {k : IntKind} {w w' : World} {A : Option Addr} {n : Nat} {zs : List Int} (h : RowK k w A n zs) (hb : Below w.heap.size w w') : RowK k w' A n zs := by
  refine ⟨h.1, fun hn => ?_⟩
  obtain ⟨b, off, e, hlt, hc⟩ := h.2 hn
  exact ⟨b, off, e, Nat.lt_of_lt_of_le hlt hb.size, fun i hi => (hb.cell (p := ⟨b, off + i, none⟩) hlt).trans (hc i hi)⟩
def cellsW (zs : List Int) : List Value := zs.map fun z => .int .i32 z
/-- A block of words. -/
def RegAt (w : World) (b : Nat) (l : List Int) : Prop := w.heap[b]? = some (.cells (cellsW l).toArray 21 (0, 0))
theorem RegAt.cell {w : World} {b : Nat} {l : List Int} (h : RegAt w b l) (k : Nat) (hk : k < l.length) : w.cell? ⟨b, k, none⟩ = some (.int .i32 (l.getD k 0)) := by
  unfold RegAt at h
  rw [cell_of_row _ b k _ _ (0, 0) h]
  simp [cellsW, hk]
theorem RegAt.free {w : World} {b : Nat} {l : List Int} (h : RegAt w b l) (k : Nat) : w.frozen? ⟨b, k, none⟩ = false := by
  unfold RegAt at h
  simp [World.frozen?, h]
theorem RegAt.put {w : World} {b : Nat} {l : List Int} (h : RegAt w b l) (k : Nat) (v : Int) : RegAt (w.setCell ⟨b, k, none⟩ (.int .i32 v)) b (l.set k v) := by
  unfold RegAt at h ⊢
  rw [heap_setCell_same w b k _ _ _ h]
  congr 2
  apply Array.toList_inj.1
  simp [cellsW, List.map_set]
theorem RegAt.drew {w : World} {b : Nat} {l : List Int} (h : RegAt w b l) : RegAt w.drew b l := h
theorem RegAt.same {w w' : World} {b : Nat} {l : List Int} (h : RegAt w b l) (hb : w'.heap[b]? = w.heap[b]?) : RegAt w' b l := hb.trans h
theorem RegAt.new (w : World) (l : List Int) : RegAt (w.alloc (.cells (cellsW l).toArray 21)) w.heap.size l := heap_alloc_new w _
theorem RegAt.lt {w : World} {b : Nat} {l : List Int} (h : RegAt w b l) : b < w.heap.size := (Array.getElem?_eq_some_iff.1 h).1

/-- A block of which some cells are known. -/
def CellsAt (w : World) (p : Nat) (f : Nat → Option Value) : Prop := ∃ arr, w.heap[p]? = some (.cells arr 88 (0, 0)) ∧ ∀ j v, f j = some v → arr[j]? = some v
theorem CellsAt.lt {w : World} {p : Nat} {f : Nat → Option Value} (h : CellsAt w p f) : p < w.heap.size := by
  obtain ⟨arr, h1, _⟩ := h
  exact (Array.getElem?_eq_some_iff.1 h1).1
theorem CellsAt.cell {w : World} {p : Nat} {f : Nat → Option Value} (h : CellsAt w p f) (j : Nat) (v : Value) (hj : f j = some v) : w.cell? ⟨p, j, none⟩ = some v := by
  obtain ⟨arr, h1, h2⟩ := h
  rw [cell_of_row _ p j _ _ (0, 0) h1]
  exact h2 j v hj
theorem CellsAt.free {w : World} {p : Nat} {f : Nat → Option Value} (h : CellsAt w p f) (j : Nat) : w.frozen? ⟨p, j, none⟩ = false := by
  obtain ⟨arr, h1, h2⟩ := h
  exact frozen_of_row _ p j _ _ h1
theorem CellsAt.same {w w' : World} {p : Nat} {f : Nat → Option Value} (h : CellsAt w p f) (hb : w'.heap[p]? = w.heap[p]?) : CellsAt w' p f := by
  obtain ⟨arr, h1, h2⟩ := h
  exact ⟨arr, hb.trans h1, h2⟩
theorem CellsAt.set {w : World} {p : Nat} {f : Nat → Option Value} (h : CellsAt w p f) (j : Nat) (v : Value) (hj : (f j).isSome = true) (g : Nat → Option Value) (hg : ∀ i u, g i = some u → if i = j then u = v else f i = some u) : CellsAt (w.setCell ⟨p, j, none⟩ v) p g := by
  obtain ⟨arr, h1, h2⟩ := h
  refine ⟨_, heap_setCell_same w p j _ _ v h1, fun i u hu => ?_⟩
  have h3 := hg i u hu
  obtain ⟨u0, hu0⟩ := Option.isSome_iff_exists.1 hj
  have h4 := h2 j u0 hu0
  have hlt := (Array.getElem?_eq_some_iff.1 h4).1
  by_cases e : i = j
  · rw [if_pos e] at h3
    subst e
    rw [h3]
    simp [hlt]
  · rw [if_neg e] at h3
    rw [Array.getElem?_setIfInBounds_ne (by omega)]
    exact h2 i u h3

/-- A machine's state. -/
structure MS where
  regs : List Int
  mem : List Int
  pc : Int
  v : Int
  tr : List Int
  steps : Nat
  reads : Nat
/-- What a machine has that stays. -/
structure Pl where
  LA : Option Addr
  ln : Nat
  lc : Nat
  mb : Nat
  mn : Nat
  iA : Option Addr
  im : Nat
  ic : Nat
  fuel : Int
def cellF (q : Pl) (tA : Option Addr) (tc : Nat) (s : MS) : Nat → Option Value := fun j =>
  if j = 0 then some (.slice q.LA q.ln q.lc) else if j < 33 then some (.int .i32 (s.regs.getD (j - 1) 0)) else if j = 33 then some (.slice (some ⟨q.mb, 0, none⟩) q.mn q.mn)
  else if j = 34 then some (.int .i32 s.pc) else if j = 35 then some (.slice q.iA q.im q.ic) else if j = 36 then some (.int .i64 q.fuel) else if j = 37 then some (.int .i64 0)
  else if j = 38 then some (.int .i32 s.v) else if j = 39 then some (.slice tA s.tr.length tc) else if j = 40 then some (.int .i64 (s.steps : Int)) else if j = 41 then some (.int .i64 (s.reads : Int)) else none
theorem cellF_reg (q : Pl) (tA : Option Addr) (tc : Nat) (s : MS) (k : Nat) (hk : k < 32) : cellF q tA tc s (1 + k) = some (.int .i32 (s.regs.getD k 0)) := by
  unfold cellF
  rw [if_neg (by omega), if_pos (by omega), show 1 + k - 1 = k from by omega]
theorem cellF_some (q : Pl) (tA : Option Addr) (tc : Nat) (s : MS) (j : Nat) (hj : j < 42) : (cellF q tA tc s j).isSome = true := by
  unfold cellF
  (repeat' split) <;> first | rfl | omega
/-- A machine's cells when its number pc, its steps, its reads, its value, its trace or a register is another. -/
theorem cellF_pc (q : Pl) (tA : Option Addr) (tc : Nat) (s : MS) (z : Int) (i : Nat) (u : Value) (h : cellF q tA tc { s with pc := z } i = some u) : if i = 34 then u = .int .i32 z else cellF q tA tc s i = some u := by
  by_cases e : i = 34
  · rw [if_pos e]; subst e; simp [cellF] at h; exact h.symm
  · rw [if_neg e, ← h]; simp [cellF, e]
theorem cellF_steps (q : Pl) (tA : Option Addr) (tc : Nat) (s : MS) (z : Nat) (i : Nat) (u : Value) (h : cellF q tA tc { s with steps := z } i = some u) : if i = 40 then u = .int .i64 (z : Int) else cellF q tA tc s i = some u := by
  by_cases e : i = 40
  · rw [if_pos e]; subst e; simp [cellF] at h; exact h.symm
  · rw [if_neg e, ← h]; simp [cellF, e]
theorem cellF_reads (q : Pl) (tA : Option Addr) (tc : Nat) (s : MS) (z : Nat) (i : Nat) (u : Value) (h : cellF q tA tc { s with reads := z } i = some u) : if i = 41 then u = .int .i64 (z : Int) else cellF q tA tc s i = some u := by
  by_cases e : i = 41
  · rw [if_pos e]; subst e; simp [cellF] at h; exact h.symm
  · rw [if_neg e, ← h]; simp [cellF, e]
theorem cellF_v (q : Pl) (tA : Option Addr) (tc : Nat) (s : MS) (z : Int) (i : Nat) (u : Value) (h : cellF q tA tc { s with v := z } i = some u) : if i = 38 then u = .int .i32 z else cellF q tA tc s i = some u := by
  by_cases e : i = 38
  · rw [if_pos e]; subst e; simp [cellF] at h; exact h.symm
  · rw [if_neg e, ← h]; simp [cellF, e]
theorem cellF_tr (q : Pl) (tA : Option Addr) (tc : Nat) (tA' : Option Addr) (tc' : Nat) (s : MS) (l : List Int) (i : Nat) (u : Value) (h : cellF q tA' tc' { s with tr := l } i = some u) : if i = 39 then u = .slice tA' l.length tc' else cellF q tA tc s i = some u := by
  by_cases e : i = 39
  · rw [if_pos e]; subst e; simp [cellF] at h; exact h.symm
  · rw [if_neg e, ← h]; simp [cellF, e]
theorem cellF_set (q : Pl) (tA : Option Addr) (tc : Nat) (s : MS) (k : Nat) (hk : k < 32) (hl : s.regs.length = 32) (z : Int) (i : Nat) (u : Value) (h : cellF q tA tc { s with regs := s.regs.set k z } i = some u) : if i = 1 + k then u = .int .i32 z else cellF q tA tc s i = some u := by
  by_cases e : i = 1 + k
  · rw [if_pos e]
    subst e
    rw [cellF_reg _ _ _ _ k hk] at h
    cases h
    rw [List.getD_eq_getElem?_getD, List.getElem?_set_self (by omega)]
    rfl
  · rw [if_neg e, ← h]
    unfold cellF
    by_cases e2 : i = 0
    · simp [e2]
    · by_cases e3 : i < 33
      · rw [if_neg e2, if_pos e3, if_neg e2, if_pos e3]
        dsimp only
        rw [List.getD_eq_getElem?_getD, List.getD_eq_getElem?_getD, List.getElem?_set_ne (by omega)]
      · simp [e2, e3]
/-- What a run is over: the world ahead of it, where its block lies, its lines and input. -/
structure Env where
  w0 : World
  p : Nat
  xb : Nat
  q : Pl
  ls : List Ln
  inp : List Int
structure MAt (e : Env) (w : World) (s : MS) : Prop where
  below : Below e.w0.heap.size e.w0 w
  pge : e.w0.heap.size ≤ e.p ∧ e.w0.heap.size ≤ e.q.mb ∧ e.w0.heap.size ≤ e.xb
  apart : e.p ≠ e.q.mb ∧ e.p ≠ e.xb ∧ e.q.mb ≠ e.xb
  xb : w.heap[e.xb]? = some (.cells #[.pointer (some ⟨e.p, 0, none⟩)] 83 (0, 0))
  mem : RegAt w e.q.mb s.mem
  mlen : s.mem.length = e.q.mn
  rlen : s.regs.length = 32
  lines : LnsAt e.w0 e.q.LA e.q.ln e.ls
  inp : RowK .i32 e.w0 e.q.iA e.q.im e.inp
  box : ∃ tA tc, CellsAt w e.p (cellF e.q tA tc s) ∧ SLine 1 w tA s.tr.length tc (cellsW s.tr) ∧ ∀ k ∈ blk tA, e.w0.heap.size ≤ k ∧ k ≠ e.p ∧ k ≠ e.q.mb ∧ k ≠ e.xb
theorem setCell_off (w : World) (p o : Nat) (v : Value) (b : Nat) (hb : b ≠ p) : (w.setCell ⟨p, o, none⟩ v).heap[b]? = w.heap[b]? := heap_setCell_other w _ _ _ hb
/-- A cell of the machine is another, and its state with it. -/
theorem MAt.put {e : Env} {w : World} {s : MS} (h : MAt e w s) (j : Nat) (hj : j < 42) (v : Value) (s' : MS) (h1 : s'.mem = s.mem) (h2 : s'.tr = s.tr) (h3 : s'.regs.length = 32)
    (hg : ∀ tA tc i u, cellF e.q tA tc s' i = some u → if i = j then u = v else cellF e.q tA tc s i = some u) : MAt e (w.setCell ⟨e.p, j, none⟩ v) s' := by
  obtain ⟨tA, tc, hc, hl, hn⟩ := h.box
  have hB : Chg [e.p] w (w.setCell ⟨e.p, j, none⟩ v) := (Chg.refl _ w).setCell e.p j v (.inl (by simp))
  have hp := h.pge
  have ha := h.apart
  exact ⟨h.below.trans (hB.toBelow (fun k hk => by rw [List.mem_singleton] at hk; omega) h.below.size), h.pge, h.apart, (setCell_off _ _ _ _ _ ha.2.1.symm).trans h.xb, by rw [h1]; exact h.mem.same (setCell_off _ _ _ _ _ ha.1.symm),
    by rw [h1]; exact h.mlen, h3, h.lines, h.inp, tA, tc, hc.set j v (cellF_some _ _ _ _ _ hj) _ (hg tA tc), by rw [h2]; exact hl.chg hB (fun k hk => by rw [List.mem_singleton]; exact (hn k hk).2.1), hn⟩
theorem MAt.drew {e : Env} {w : World} {s : MS} (h : MAt e w s) : MAt e w.drew s := by
  obtain ⟨tA, tc, hc, hl, hn⟩ := h.box
  exact ⟨h.below.drew, h.pge, h.apart, h.xb, h.mem, h.mlen, h.rlen, h.lines, h.inp, tA, tc, hc.same rfl, hl.drew, hn⟩
/-- Further blocks change nothing. -/
theorem MAt.grow {e : Env} {w w' : World} {s : MS} (h : MAt e w s) (hb : Below w.heap.size w w') : MAt e w' s := by
  obtain ⟨tA, tc, hc, hl, hn⟩ := h.box
  exact ⟨h.below.trans (hb.mono h.below.size), h.pge, h.apart, (hb.block _ (Array.getElem?_eq_some_iff.1 h.xb).1).trans h.xb, h.mem.same (hb.block _ h.mem.lt), h.mlen, h.rlen, h.lines, h.inp, tA, tc, hc.same (hb.block _ hc.lt), hl.below hb, hn⟩
/-- A word of memory is another. -/
theorem MAt.store {e : Env} {w : World} {s : MS} (h : MAt e w s) (k : Nat) (v : Int) : MAt e (w.setCell ⟨e.q.mb, k, none⟩ (.int .i32 v)) { s with mem := s.mem.set k v } := by
  obtain ⟨tA, tc, hc, hl, hn⟩ := h.box
  have hB : Chg [e.q.mb] w (w.setCell ⟨e.q.mb, k, none⟩ (.int .i32 v)) := (Chg.refl _ w).setCell e.q.mb k _ (.inl (by simp))
  have hp := h.pge
  have ha := h.apart
  exact ⟨h.below.trans (hB.toBelow (fun k hk => by rw [List.mem_singleton] at hk; omega) h.below.size), h.pge, h.apart, (setCell_off _ _ _ _ _ ha.2.2.symm).trans h.xb, h.mem.put k v,
    by rw [← h.mlen]; simp, h.rlen, h.lines, h.inp, tA, tc, hc.same (setCell_off _ _ _ _ _ ha.1), hl.chg hB (fun k hk => by rw [List.mem_singleton]; exact (hn k hk).2.2.1), hn⟩
theorem MAt.cell {e : Env} {w : World} {s : MS} (h : MAt e w s) (j : Nat) (v : Value) (hj : ∀ tA tc, cellF e.q tA tc s j = some v) : w.cell? ⟨e.p, j, none⟩ = some v := by
  obtain ⟨tA, tc, hc, hl, hn⟩ := h.box
  exact hc.cell j v (hj tA tc)
theorem MAt.free {e : Env} {w : World} {s : MS} (h : MAt e w s) (j : Nat) : w.frozen? ⟨e.p, j, none⟩ = false := by
  obtain ⟨tA, tc, hc, hl, hn⟩ := h.box
  exact hc.free j
theorem MAt.reg {e : Env} {w : World} {s : MS} (h : MAt e w s) (k : Nat) (hk : k < 32) : w.cell? ⟨e.p, 1 + k, none⟩ = some (.int .i32 (s.regs.getD k 0)) := h.cell _ _ fun _ _ => cellF_reg _ _ _ _ k hk
end Rv
end Go.Proofs.Ytmedhibjkbahpaa
namespace Go.Proofs.Ytmedhibjkbahpaa
open Go.RowKit
set_option linter.unusedVariables false
set_option linter.unusedSimpArgs false
set_option maxRecDepth 100000
namespace Rv
/-- Which word an address is. -/
def wordM (n : Nat) (z : Int) : Option Nat := if z < 65536 ∨ z % 4 ≠ 0 ∨ (n : Int) ≤ (z - 65536) / 4 then none else some ((z - 65536) / 4).toNat
/-- A run that ends so. -/
def Ends (k : Int) (e : Ending) : Prop := e = .panicked [{ v := .iface 85 (.int .i64 k), recovered := false }]
theorem word_yes {e : Env} {w : World} {s : MS} (h : MAt e w s) (z : Int) (hz : -2147483648 ≤ z ∧ z ≤ 2147483647) (hn : e.q.mn ≤ 1000000) (k : Nat) (hk : wordM s.mem.length z = some k) :
    Calls Try.prog 62 #[.pointer (some ⟨e.p, 0, none⟩), .int .i32 z] w fun e' w' => e' = .returned (.pointer (some ⟨e.q.mb, k, none⟩)) ∧ w' = w := by
  obtain ⟨z1, z2⟩ := hz
  have hl := h.mlen
  unfold wordM at hk
  split at hk
  · cases hk
  · next hc =>
    simp only [not_or, Int.not_lt, Int.not_le, Decidable.not_not] at hc
    obtain ⟨c1, c2, c3⟩ := hc
    injection hk with hk
    have x33 := h.cell 33 (.slice (some ⟨e.q.mb, 0, none⟩) e.q.mn e.q.mn) (fun _ _ => rfl)
    have e1 : (z - 65536).tdiv 4 = (k : Int) := by rw [Int.tdiv_eq_ediv_of_nonneg (by omega)]; omega
    have e2 : z.tmod 4 = 0 := by rw [Int.tmod_eq_emod_of_nonneg (by omega)]; exact c2
    have hkn : (k : Int) < (e.q.mn : Int) := by omega
    have hk0 : (0 : Int) ≤ (k : Int) := by omega
    have hm2 : (e.q.mn : Int) ≤ 1000000 := by omega
    clear h hk hl c3 c2
    go_enter Try.func62, Try.ntmps62
    go_wp2_with fail
    go_ret
    exact ⟨by simp, rfl⟩
theorem word_no {e : Env} {w : World} {s : MS} (h : MAt e w s) (z : Int) (hz : -2147483648 ≤ z ∧ z ≤ 2147483647) (hn : e.q.mn ≤ 1000000) (hk : wordM s.mem.length z = none) :
    Calls Try.prog 62 #[.pointer (some ⟨e.p, 0, none⟩), .int .i32 z] w fun e' w' => Ends 6 e' ∧ w' = w := by
  obtain ⟨z1, z2⟩ := hz
  have hl := h.mlen
  have x33 := h.cell 33 (.slice (some ⟨e.q.mb, 0, none⟩) e.q.mn e.q.mn) (fun _ _ => rfl)
  have hm2 : (e.q.mn : Int) ≤ 1000000 := by omega
  unfold wordM at hk
  split at hk
  · next hc =>
    by_cases c1 : z < 65536
    · clear hc hl h
      go_enter Try.func62, Try.ntmps62
      go_wp2_with fail
      exact ⟨rfl, rfl, rfl⟩
    · by_cases c2 : z % 4 = 0
      · have c3 : (e.q.mn : Int) ≤ (z - 65536) / 4 := by omega
        have e1 : (z - 65536).tdiv 4 = (z - 65536) / 4 := Int.tdiv_eq_ediv_of_nonneg (by omega)
        have e2 : z.tmod 4 = 0 := by rw [Int.tmod_eq_emod_of_nonneg (by omega)]; exact c2
        obtain ⟨y, hy⟩ : ∃ y, (z - 65536) / 4 = y := ⟨_, rfl⟩
        rw [hy] at *
        clear hc hl h hy
        go_enter Try.func62, Try.ntmps62
        go_wp2_with fail
        exact ⟨rfl, rfl, rfl⟩
      · have e2 : ¬ z.tmod 4 = 0 := by rw [Int.tmod_eq_emod_of_nonneg (by omega)]; exact c2
        clear hc hl h
        go_enter Try.func62, Try.ntmps62
        go_wp2_with fail
        exact ⟨rfl, rfl, rfl⟩
  · cases hk
end Rv
end Go.Proofs.Ytmedhibjkbahpaa
namespace Go.Proofs.Ytmedhibjkbahpaa
open Go.RowKit
set_option linter.unusedVariables false
set_option linter.unusedSimpArgs false
set_option maxRecDepth 100000
namespace Rv
/-- An append in a region that draws its order, its run given as an equation, the condition on the world kept. -/
theorem appendT_ready {P : Program} {md : Region.Mode} {ops : Array Oper} {Q : Exit → Act → World → Prop} {S : World → Prop} {fuel : Nat} {listed : Array Bool} {a : Act} {w : World} {i : Nat} {o : Oper} (ho : ops[i]? = some o) (hw : Region.wanted o (yielded ops a.tmps) = true)
    (s x : Operand) (t tn : TypeId) (hop : o.op = Op.call { callee := Callee.builtin Builtin.append, args := #[s, x], argTypes := #[t, tn] }) (vs vx : Value) (hs : a.eval s = vs) (hx : a.eval x = vx)
    (v' : Value) (w' : World) (hr : (Builtin.append_ #[t, tn] o.type #[vs, vx]).run P w = .ok v' w') (hS : S w') (h : wpAnyH P md ops Q S fuel (listed.setIfInBounds i true) (a.put o.dst v') w') : AllReadyH P md ops Q S fuel listed a w [i] := by
  refine AllReadyH.cons ho (fun K' hK => ?_) AllReadyH.nil
  rw [if_pos hw]
  exact Lib.wp_append_run w s x t tn hop vs vx hs hx v' w' hr (hK.out _ _ hS (fun _ => h))
theorem new_cellsR (W : World) (news : List Value) (T : TypeId) : ∀ j u, news[j]? = some u → (W.alloc (.cells news.toArray T)).cell? ((⟨W.heap.size, 0, none⟩ : Addr).add j) = some u := by
  intro j u hu
  have e9 : (⟨W.heap.size, 0, none⟩ : Addr).add j = ⟨W.heap.size, j, none⟩ := by unfold Addr.add; split <;> simp_all
  rw [e9, cell_of_row _ W.heap.size j _ _ (0, 0) (heap_alloc_new W _)]
  rw [← hu]
  simp
theorem push_sR (s : Nat) (w : World) (t e ty : TypeId) (z : Value) (bytes : Nat) (ht : Try.prog.underlying t = some (.slice e)) (hinfo : (Try.prog.info? e).map (fun i => (i.zero, i.size, i.bytes)) = some (some z, s, bytes)) (hz1 : z.cells.size = s) (hby : bytes ≤ 256)
    (C : Option Addr) (n c : Nat) (xs : List Value) (h : SLine s w C n c xs) (hn : n ≤ 100000) (news : List Value) (hnl : news.length = s) (h1 : ∀ u ∈ news, u.oneCell' = true) :
    ∃ C' c' w', (Builtin.append_ #[t, t] ty #[.slice C n c, .slice (some ⟨w.heap.size, 0, none⟩) 1 1]).run Try.prog (w.alloc (.cells news.toArray e)) = .ok (.slice C' (n + 1) c') w' ∧ SLine s w' C' (n + 1) c' (xs ++ news) ∧ Chg (blk C) w w' ∧ (∀ k ∈ blk C', k ∈ blk C ∨ w.heap.size ≤ k) ∧ C' ≠ none := by
  have hb : Below w.heap.size w (w.alloc (.cells news.toArray e)) := (Below.refl _ w).alloc (Nat.le_refl _) _
  have hs : (w.alloc (.cells news.toArray e)).heap.size = w.heap.size + 1 := by simp
  have hsrc : Src Try.prog s t (.slice (some ⟨w.heap.size, 0, none⟩) 1 1) 1 news (w.alloc (.cells news.toArray e)) := Src.ofSlice _ ht ⟨w.heap.size, 0, none⟩ 1 1 news (by rw [hnl, Nat.one_mul]) (new_cellsR w _ _) h1
  obtain ⟨C', c', w', hr, hl, hc, hf, hne⟩ := sline_append s (w.alloc (.cells news.toArray e)) t e ty z bytes ht hinfo hz1 hby C n c xs (h.below hb) (by omega) _ 1 (by omega) (fun _ => by omega) _ hsrc
  exact ⟨C', c', w', hr, hl, (Chg.of_below hb).trans hc, fun k hk => by
    rcases hf k hk with h1 | h1
    · exact .inl h1
    · exact .inr (by omega), hne⟩
theorem infoWord : (Try.prog.info? 21).map (fun i => (i.zero, i.size, i.bytes)) = some (some (.int .i32 0), 1, 4) := by kernel_rfl
/-- A word more at the end of a line of words. -/
theorem word_push (w : World) (A : Option Addr) (n c : Nat) (zs : List Int) (h : SLine 1 w A n c (cellsW zs)) (hn : n ≤ 100000) (v : Int) :
    ∃ A' c' w', (Builtin.append_ #[53, 53] 53 #[.slice A n c, .slice (some ⟨w.heap.size, 0, none⟩) 1 1]).run Try.prog (w.alloc (.cells #[.int .i32 v] 21)) = .ok (.slice A' (n + 1) c') w' ∧ SLine 1 w' A' (n + 1) c' (cellsW (zs ++ [v])) ∧ Chg (blk A) w w' ∧ (∀ k ∈ blk A', k ∈ blk A ∨ w.heap.size ≤ k) := by
  obtain ⟨A', c', w', h1, h2, h3, h4, _⟩ := push_sR 1 w 53 21 53 _ 4 Try.underlying53 infoWord rfl (by decide) A n c _ h hn [.int .i32 v] rfl (fun u hu => by rw [List.mem_singleton] at hu; rw [hu]; rfl)
  exact ⟨A', c', w', h1, by unfold cellsW; rw [List.map_append]; exact h2, h3, h4⟩
theorem Chg.readR {l : List Nat} {w w' : World} (h : Chg l w w') (b o : Nat) (hb : b ∉ l) {v : Value} (hv : w.cell? ⟨b, o, none⟩ = some v) : w'.cell? ⟨b, o, none⟩ = some v := by
  rw [World.cell?_of_block (w := w) (a := ⟨b, o, none⟩) (h.same b (World.block_lt_of_cell? w _ hv) hb)]
  exact hv

/-- The next word of the input. -/
def readM (inp : List Int) (s : MS) : Int × MS := if s.reads = inp.length then (0, s) else (inp.getD s.reads 0, { s with reads := s.reads + 1 })
theorem read_any {e : Env} {w : World} {s : MS} (h : MAt e w s) (hr : s.reads ≤ e.inp.length) (hi : e.inp.length ≤ 90000) :
    Calls Try.prog 86 #[.pointer (some ⟨e.p, 0, none⟩)] w fun e' w' => e' = .returned (.int .i32 (readM e.inp s).1) ∧ MAt e w' (readM e.inp s).2 := by
  have x35 := h.cell 35 (.slice e.q.iA e.q.im e.q.ic) (fun _ _ => rfl)
  have x41 := h.cell 41 (.int .i64 (s.reads : Int)) (fun _ _ => rfl)
  have f41 := h.free 41
  have him := h.inp.1
  have hi2 : (s.reads : Int) ≤ 90000 := by omega
  have hi3 : (e.q.im : Int) ≤ 90000 := by omega
  have HM := Lib.hid h
  unfold readM
  by_cases hc : s.reads = e.inp.length
  · rw [if_pos hc]
    have hb : ((s.reads : Int) == (e.q.im : Int)) = true := by simp; omega
    clear h hc
    go_enter Try.func86, Try.ntmps86
    go_wp2_with fail
    go_ret
    exact ⟨rfl, HM.out⟩
  · rw [if_neg hc]
    have hb : ((s.reads : Int) == (e.q.im : Int)) = false := by simp; omega
    obtain ⟨g, off, ei, hg, hcell⟩ := h.inp.2 (by omega)
    have hlt : (s.reads : Int) < (e.q.im : Int) := by omega
    have h0 : (0 : Int) ≤ (s.reads : Int) := by omega
    have h1 := h.put 41 (by omega) (.int .i64 ((s.reads + 1 : Nat) : Int)) { s with reads := s.reads + 1 } rfl rfl h.rlen (fun tA tc i u => cellF_reads _ _ _ _ _ i u)
    obtain ⟨W1, hW1⟩ : ∃ W1, w.setCell ⟨e.p, 41, none⟩ (.int .i64 ((s.reads : Int) + 1)) = W1 := ⟨_, rfl⟩
    have h2 : MAt e W1 { s with reads := s.reads + 1 } := by rw [← hW1]; exact h1
    have y35 := h2.cell 35 (.slice e.q.iA e.q.im e.q.ic) (fun _ _ => rfl)
    have yi : W1.cell? ⟨g, off + s.reads, none⟩ = some (.int .i32 (e.inp.getD s.reads 0)) := (h2.below.cell (p := ⟨g, off + s.reads, none⟩) hg).trans (hcell s.reads (by omega))
    rw [ei] at x35 y35
    have HM2 := Lib.hid h2
    clear h hc h1 h2 hcell ei hg him HM
    generalize e.inp.getD s.reads 0 = v at *
    go_enter Try.func86, Try.ntmps86
    go_wp2_with fail
    go_ret
    exact ⟨rfl, HM2.out⟩

/-- What a step comes to. -/
inductive MO where
  | go (s : MS)
  | fin (k : Int) (s : MS)
def Out (e : Env) : MO → Ending → World → Prop
  | .go s, en, w => en = .returned (.tuple #[]) ∧ MAt e w s
  | .fin k s, en, w => Ends k en ∧ MAt e w s
/-- What an Ecall does. -/
def callM (inp : List Int) (s : MS) : MO :=
  if s.regs.getD 17 0 = 1 then .go { s with tr := s.tr ++ [s.regs.getD 10 0] }
  else if s.regs.getD 17 0 = 2 then .go { (readM inp s).2 with regs := s.regs.set 10 (readM inp s).1 }
  else if s.regs.getD 17 0 = 3 then .fin 1 { s with v := s.regs.getD 10 0 }
  else .fin 6 s
theorem readM_regs (inp : List Int) (s : MS) : (readM inp s).2.regs = s.regs := by unfold readM; split <;> rfl

set_option maxHeartbeats 6400000 in
theorem call_print {e : Env} {w : World} {s : MS} (h : MAt e w s) (h17 : s.regs.getD 17 0 = 1) (ht : s.tr.length ≤ 100000) :
    Calls Try.prog 63 #[.pointer (some ⟨e.p, 0, none⟩)] w (Out e (callM e.inp s)) := by
  have x17 := h.reg 17 (by omega)
  rw [h17] at x17
  have hM : callM e.inp s = .go { s with tr := s.tr ++ [s.regs.getD 10 0] } := by unfold callM; rw [if_pos h17]
  rw [hM]
  obtain ⟨tA, tc, hcs, hsl, hbl⟩ := h.box
  have x10 := h.reg 10 (by omega)
  have p39 := hcs.cell 39 (.slice tA s.tr.length tc) rfl
  have f39 := hcs.free 39
  have hpt : e.p ∉ blk tA := fun hk => (hbl _ hk).2.1 rfl
  generalize hz9 : s.regs.getD 10 0 = z9 at *
  obtain ⟨A', c', w2, hr2, hl2, hc2, hf2⟩ := word_push w.drew tA s.tr.length tc s.tr hsl.drew ht z9
  have hw2 : MAt e w2 s → True := fun _ => trivial
  have hc2w : Chg (blk tA) w w2 := ((Chg.refl (blk tA) w).drew).trans hc2
  have q39 : w2.cell? ⟨e.p, 39, none⟩ = some (.slice tA s.tr.length tc) := Chg.readR hc2w e.p 39 hpt p39
  have q10 : w2.cell? ⟨e.p, 1 + 10, none⟩ = some (.int .i32 z9) := Chg.readR hc2w e.p (1 + 10) hpt x10
  have g39 : w2.frozen? ⟨e.p, 39, none⟩ = false := by
    rw [World.frozen?_of_block (w := w) (a := ⟨e.p, 39, none⟩) (hc2w.same e.p (World.block_lt_of_cell? w _ p39) hpt)]
    exact f39
  obtain ⟨w3, hw3⟩ : ∃ w3, w2.setCell ⟨e.p, 39, none⟩ (.slice A' (s.tr.length + 1) c') = w3 := ⟨_, rfl⟩
  have hM3 : MAt e w3 { s with tr := s.tr ++ [z9] } := by
    have hlt : ∀ k, k < w.heap.size → k ∉ blk tA → w2.heap[k]? = w.heap[k]? := fun k hk hn => hc2w.same k hk hn
    have hlen : (s.tr ++ [z9]).length = s.tr.length + 1 := by simp
    have hp := h.pge
    have ha := h.apart
    have hB3 : Chg (e.p :: blk tA) w w3 := by rw [← hw3]; exact (hc2w.weaken (fun k hk => .inl (List.mem_cons_of_mem _ hk))).setCell e.p 39 _ (.inl (by simp))
    have o3 : ∀ b, b < w.heap.size → b ≠ e.p → b ∉ blk tA → w3.heap[b]? = w.heap[b]? := fun b hb h1 h2 => hB3.same b hb (by simp [h1, h2])
    refine ⟨h.below.trans (hB3.toBelow (fun k hk => by rcases List.mem_cons.1 hk with rfl | hk; exact hp.1; exact (hbl k hk).1) h.below.size), hp, ha, (o3 _ (Array.getElem?_eq_some_iff.1 h.xb).1 ha.2.1.symm (fun hk => (hbl _ hk).2.2.2 rfl)).trans h.xb,
      h.mem.same (o3 _ h.mem.lt ha.1.symm (fun hk => (hbl _ hk).2.2.1 rfl)), h.mlen, h.rlen, h.lines, h.inp, A', c', ?_, ?_, ?_⟩
    · rw [← hw3]
      exact (hcs.same (hlt _ hcs.lt hpt)).set 39 _ (cellF_some _ _ _ _ _ (by omega)) _ (fun i u hu => by have := cellF_tr e.q tA tc A' c' s (s.tr ++ [z9]) i u hu; rw [hlen] at this; exact this)
    · show SLine 1 w3 A' (s.tr ++ [z9]).length c' (cellsW (s.tr ++ [z9]))
      rw [hlen, ← hw3]
      exact hl2.chg ((Chg.refl [e.p] w2).setCell e.p 39 _ (.inl (by simp))) (fun k hk => by
        rw [List.mem_singleton]
        rcases hf2 k hk with h1 | h1
        · exact (hbl k h1).2.1
        · have := hcs.lt
          have : w.drew.heap.size = w.heap.size := rfl
          omega)
    · intro k hk
      have := h.below.size
      have e0 : w.drew.heap.size = w.heap.size := rfl
      rcases hf2 k hk with h1 | h1
      · exact hbl k h1
      · have l1 := hcs.lt
        have l2 := h.mem.lt
        have l3 := (Array.getElem?_eq_some_iff.1 h.xb).1
        omega
  obtain ⟨L, hL⟩ : ∃ L, e.p :: blk tA = L := ⟨_, rfl⟩
  have HRUN := Lib.hid hr2
  have hA1 : (w.alloc (.cells #[.int .i32 z9] 21)).cell? ⟨e.p, 1 + 10, none⟩ = some (.int .i32 z9) := Chg.readR ((Chg.refl [] w).alloc _) e.p (1 + 10) (by simp) x10
  have HC2 : Hid (w2.cell? ⟨e.p, 1 + 10, none⟩ = some (.int .i32 z9)) := Lib.hid q10
  have HC3 : Hid (w3.cell? ⟨e.p, 1 + 10, none⟩ = some (.int .i32 z9)) := Lib.hid (by
    have h5 := (hcs.same (w' := w2) (hc2w.same _ hcs.lt hpt)).set 39 (.slice A' (s.tr.length + 1) c') (cellF_some _ _ _ _ _ (by omega)) (fun i => if i = 39 then none else cellF e.q tA tc s i) (fun i u hu => by
      by_cases e9 : i = 39
      · simp [e9] at hu
      · rw [if_neg e9] at hu ⊢; exact hu)
    rw [← hw3]
    exact h5.cell (1 + 10) _ (by rw [if_neg (by omega), cellF_reg _ _ _ _ 10 (by omega), hz9]))
  have HCA : Hid ((w.alloc (.cells #[.int .i32 z9] 21)).drew.cell? ⟨e.p, 1 + 10, none⟩ = some (.int .i32 z9)) := Lib.hid hA1
  have HFIN := Lib.hid hM3
  have k39 : ((w.alloc (.cells #[.int .i32 z9] 21)).drew).cell? ⟨e.p, 39, none⟩ = some (.slice tA s.tr.length tc) := Chg.readR ((Chg.refl [] w).alloc _) e.p 39 (by simp) p39
  have HX10 := Lib.hid x10
  clear h hL hr2 hl2 hc2 hf2 hz9 hcs hsl hbl hpt hw2 hc2w hM3 hA1 q10 f39 hM h17 ht x10
  go_enter Try.func63, Try.ntmps63
  go_upto_region 3 with fail
  refine wp_region_held_drew (S := fun V => V.cell? ⟨e.p, 1 + 10, none⟩ = some (.int .i32 z9)) (by kernel_rfl) HX10.out (fun _ => ?_)
  refine takeH 0 10 (v := (.pointer (some ⟨e.p, 0, none⟩))) rfl rfl (by kernel_rfl) (by kernel_rfl) (by kernel_rfl) (fun _ _ _ h => h) (by rfl) ?_ (by assumption) ?_
  · intro w hSw
    go_simp
  try simp only [Act.put, List.setIfInBounds_toArray, List.set_cons_zero, List.set_cons_succ]
  refine takeH 1 11 (v := (.pointer (some ⟨e.p, 0, none⟩))) rfl rfl (by kernel_rfl) (by kernel_rfl) (by kernel_rfl) (fun _ _ _ h => h) (by rfl) ?_ (by assumption) ?_
  · intro w hSw
    go_simp
  try simp only [Act.put, List.setIfInBounds_toArray, List.set_cons_zero, List.set_cons_succ]
  refine takeH 2 12 (v := (.pointer (some ⟨e.p, 0, none⟩))) rfl rfl (by kernel_rfl) (by kernel_rfl) (by kernel_rfl) (fun _ _ _ h => h) (by rfl) ?_ (by assumption) ?_
  · intro w hSw
    go_simp
  try simp only [Act.put, List.setIfInBounds_toArray, List.set_cons_zero, List.set_cons_succ]
  refine takeH 3 13 (v := (.pointer (some ⟨e.p, 37, none⟩))) rfl rfl (by kernel_rfl) (by kernel_rfl) (by kernel_rfl) (fun _ _ _ h => h) (by rfl) ?_ (by assumption) ?_
  · intro w hSw
    go_simp
  try simp only [Act.put, List.setIfInBounds_toArray, List.set_cons_zero, List.set_cons_succ]
  refine takeH 4 14 (v := (.pointer (some ⟨e.p, 39, none⟩))) rfl rfl (by kernel_rfl) (by kernel_rfl) (by kernel_rfl) (fun _ _ _ h => h) (by rfl) ?_ (by assumption) ?_
  · intro w hSw
    go_simp
  try simp only [Act.put, List.setIfInBounds_toArray, List.set_cons_zero, List.set_cons_succ]
  refine takeH 6 16 (v := (.pointer (some ⟨e.p, 0, none⟩))) rfl rfl (by kernel_rfl) (by kernel_rfl) (by kernel_rfl) (fun _ _ _ h => h) (by rfl) ?_ (by assumption) ?_
  · intro w hSw
    go_simp
  try simp only [Act.put, List.setIfInBounds_toArray, List.set_cons_zero, List.set_cons_succ]
  refine takeH 7 17 (v := (.pointer (some ⟨e.p, 0, none⟩))) rfl rfl (by kernel_rfl) (by kernel_rfl) (by kernel_rfl) (fun _ _ _ h => h) (by rfl) ?_ (by assumption) ?_
  · intro w hSw
    go_simp
  try simp only [Act.put, List.setIfInBounds_toArray, List.set_cons_zero, List.set_cons_succ]
  refine takeH 8 18 (v := (.pointer (some ⟨e.p, 1, none⟩))) rfl rfl (by kernel_rfl) (by kernel_rfl) (by kernel_rfl) (fun _ _ _ h => h) (by rfl) ?_ (by assumption) ?_
  · intro w hSw
    go_simp
  try simp only [Act.put, List.setIfInBounds_toArray, List.set_cons_zero, List.set_cons_succ]
  refine takeH 9 19 (v := (.pointer (some ⟨e.p, 11, none⟩))) rfl rfl (by kernel_rfl) (by kernel_rfl) (by kernel_rfl) (fun _ _ _ h => h) (by rfl) ?_ (by assumption) ?_
  · intro w hSw
    go_simp
  try simp only [Act.put, List.setIfInBounds_toArray, List.set_cons_zero, List.set_cons_succ]
  refine takeH 10 20 (v := (.int .i32 z9)) rfl rfl (by kernel_rfl) (by kernel_rfl) (by kernel_rfl) (fun _ _ _ h => h) (by rfl) ?_ (by assumption) ?_
  · intro w hSw
    go_simp
  try simp only [Act.put, List.setIfInBounds_toArray, List.set_cons_zero, List.set_cons_succ]
  refine wpAnyH_ready (rs := [5, 11]) (by kernel_rfl) (by simp) ?_
  refine AllReadyH.cons rfl (fun K hK => ?_) (AllReadyH.cons rfl (fun K hK => ?_) AllReadyH.nil)
  · go_simp
    refine hK.out _ _ (by assumption) (fun _ => ?_)
    clear hK K
    try simp only [Act.put, List.setIfInBounds_toArray, List.set_cons_zero, List.set_cons_succ]
    refine wpAnyH_ready (rs := [11]) (by kernel_rfl) (by simp) ?_
    refine AllReadyH.cons rfl (fun K hK => ?_) AllReadyH.nil
    go_simp
    refine hK.out _ _ HCA.out (fun _ => ?_)
    clear hK K
    try simp only [Act.put, List.setIfInBounds_toArray, List.set_cons_zero, List.set_cons_succ]
    refine wpAnyH_ready (rs := [12]) (by kernel_rfl) (by simp) ?_
    refine appendT_ready rfl (by kernel_rfl) _ _ _ _ rfl _ _ rfl rfl _ _ HRUN.out HC2.out ?_
    try simp only [Act.put, List.setIfInBounds_toArray, List.set_cons_zero, List.set_cons_succ]
    refine takeH 13 23 (v := (.pointer (some ⟨e.p, 0, none⟩))) rfl rfl (by kernel_rfl) (by kernel_rfl) (by kernel_rfl) (fun _ _ _ h => h) (by rfl) ?_ HC2.out ?_
    · intro w hSw
      go_simp
    try simp only [Act.put, List.setIfInBounds_toArray, List.set_cons_zero, List.set_cons_succ]
    refine takeH 14 24 (v := (.pointer (some ⟨e.p, 37, none⟩))) rfl rfl (by kernel_rfl) (by kernel_rfl) (by kernel_rfl) (fun _ _ _ h => h) (by rfl) ?_ HC2.out ?_
    · intro w hSw
      go_simp
    try simp only [Act.put, List.setIfInBounds_toArray, List.set_cons_zero, List.set_cons_succ]
    refine takeH 15 25 (v := (.pointer (some ⟨e.p, 39, none⟩))) rfl rfl (by kernel_rfl) (by kernel_rfl) (by kernel_rfl) (fun _ _ _ h => h) (by rfl) ?_ HC2.out ?_
    · intro w hSw
      go_simp
    try simp only [Act.put, List.setIfInBounds_toArray, List.set_cons_zero, List.set_cons_succ]
    refine wpAnyH_ready (rs := [16]) (by kernel_rfl) (by simp) ?_
    refine AllReadyH.cons rfl (fun K hK => ?_) AllReadyH.nil
    go_simp
    refine hK.out _ _ HC3.out (fun _ => ?_)
    clear hK K
    try simp only [Act.put, List.setIfInBounds_toArray, List.set_cons_zero, List.set_cons_succ]
    refine wpAnyH_done (by kernel_rfl) ?_ _
    go_wp2_with fail
    refine bodyPost_end (results_none rfl _ _ _) rfl ?_
    exact ⟨rfl, HFIN.out⟩
  · go_simp
    refine hK.out _ _ HCA.out (fun _ => ?_)
    clear hK K
    try simp only [Act.put, List.setIfInBounds_toArray, List.set_cons_zero, List.set_cons_succ]
    refine wpAnyH_ready (rs := [5]) (by kernel_rfl) (by simp) ?_
    refine AllReadyH.cons rfl (fun K hK => ?_) AllReadyH.nil
    go_simp
    refine hK.out _ _ HCA.out (fun _ => ?_)
    clear hK K
    try simp only [Act.put, List.setIfInBounds_toArray, List.set_cons_zero, List.set_cons_succ]
    refine wpAnyH_ready (rs := [12]) (by kernel_rfl) (by simp) ?_
    refine appendT_ready rfl (by kernel_rfl) _ _ _ _ rfl _ _ rfl rfl _ _ HRUN.out HC2.out ?_
    try simp only [Act.put, List.setIfInBounds_toArray, List.set_cons_zero, List.set_cons_succ]
    refine takeH 13 23 (v := (.pointer (some ⟨e.p, 0, none⟩))) rfl rfl (by kernel_rfl) (by kernel_rfl) (by kernel_rfl) (fun _ _ _ h => h) (by rfl) ?_ HC2.out ?_
    · intro w hSw
      go_simp
    try simp only [Act.put, List.setIfInBounds_toArray, List.set_cons_zero, List.set_cons_succ]
    refine takeH 14 24 (v := (.pointer (some ⟨e.p, 37, none⟩))) rfl rfl (by kernel_rfl) (by kernel_rfl) (by kernel_rfl) (fun _ _ _ h => h) (by rfl) ?_ HC2.out ?_
    · intro w hSw
      go_simp
    try simp only [Act.put, List.setIfInBounds_toArray, List.set_cons_zero, List.set_cons_succ]
    refine takeH 15 25 (v := (.pointer (some ⟨e.p, 39, none⟩))) rfl rfl (by kernel_rfl) (by kernel_rfl) (by kernel_rfl) (fun _ _ _ h => h) (by rfl) ?_ HC2.out ?_
    · intro w hSw
      go_simp
    try simp only [Act.put, List.setIfInBounds_toArray, List.set_cons_zero, List.set_cons_succ]
    refine wpAnyH_ready (rs := [16]) (by kernel_rfl) (by simp) ?_
    refine AllReadyH.cons rfl (fun K hK => ?_) AllReadyH.nil
    go_simp
    refine hK.out _ _ HC3.out (fun _ => ?_)
    clear hK K
    try simp only [Act.put, List.setIfInBounds_toArray, List.set_cons_zero, List.set_cons_succ]
    refine wpAnyH_done (by kernel_rfl) ?_ _
    go_wp2_with fail
    refine bodyPost_end (results_none rfl _ _ _) rfl ?_
    exact ⟨rfl, HFIN.out⟩
theorem call_end {e : Env} {w : World} {s : MS} (h : MAt e w s) (h17 : s.regs.getD 17 0 = 3) :
    Calls Try.prog 63 #[.pointer (some ⟨e.p, 0, none⟩)] w (Out e (callM e.inp s)) := by
  have x17 := h.reg 17 (by omega)
  rw [h17] at x17
  have hM : callM e.inp s = .fin 1 { s with v := s.regs.getD 10 0 } := by unfold callM; rw [if_neg (by omega), if_neg (by omega), if_pos h17]
  rw [hM]
  have x10 := h.reg 10 (by omega)
  have x38 := h.cell 38 (.int .i32 s.v) (fun _ _ => rfl)
  have f38 := h.free 38
  have HM2 := Lib.hid (h.put 38 (by omega) (.int .i32 (s.regs.getD 10 0)) { s with v := s.regs.getD 10 0 } rfl rfl h.rlen (fun tA tc i u => cellF_v _ _ _ _ _ i u))
  clear h hM h17
  generalize s.regs.getD 10 0 = z9 at *
  go_enter Try.func63, Try.ntmps63
  go_wp2_with fail
  exact ⟨rfl, rfl, HM2.out⟩
theorem call_no {e : Env} {w : World} {s : MS} (h : MAt e w s) (h1 : ¬ s.regs.getD 17 0 = 1) (h2 : ¬ s.regs.getD 17 0 = 2) (h3 : ¬ s.regs.getD 17 0 = 3) :
    Calls Try.prog 63 #[.pointer (some ⟨e.p, 0, none⟩)] w (Out e (callM e.inp s)) := by
  have x17 := h.reg 17 (by omega)
  have hM : callM e.inp s = .fin 6 s := by unfold callM; rw [if_neg h1, if_neg h2, if_neg h3]
  rw [hM]
  have HM2 := Lib.hid h
  generalize s.regs.getD 17 0 = z9 at *
  have b1 : (z9 == 1) = false := by simp [h1]
  have b2 : (z9 == 2) = false := by simp [h2]
  have b3 : (z9 == 3) = false := by simp [h3]
  clear h hM h1 h2 h3
  go_enter Try.func63, Try.ntmps63
  go_wp2_with fail
  exact ⟨rfl, rfl, HM2.out⟩
set_option maxHeartbeats 1600000 in
theorem call_read {e : Env} {w : World} {s : MS} (h : MAt e w s) (h17 : s.regs.getD 17 0 = 2) (hr : s.reads ≤ e.inp.length) (hi : e.inp.length ≤ 90000) :
    Calls Try.prog 63 #[.pointer (some ⟨e.p, 0, none⟩)] w (Out e (callM e.inp s)) := by
  have x17 := h.reg 17 (by omega)
  rw [h17] at x17
  have hM : callM e.inp s = .go { (readM e.inp s).2 with regs := s.regs.set 10 (readM e.inp s).1 } := by unfold callM; rw [if_neg (by omega), if_pos h17]
  rw [hM]
  have HR := Lib.hid (read_any h.drew hr hi)
  have HRR := Lib.hid (readM_regs e.inp s)
  generalize (readM e.inp s).1 = z9 at *
  generalize (readM e.inp s).2 = s2 at *
  clear h hM h17
  go_enter Try.func63, Try.ntmps63
  go_upto_region 5 with fail
  refine wp_region_held_drew (S := fun V => True) (by kernel_rfl) trivial (fun _ => ?_)
  refine takeH 0 28 (v := (.pointer (some ⟨e.p, 0, none⟩))) rfl rfl (by kernel_rfl) (by kernel_rfl) (by kernel_rfl) (fun _ _ _ h => h) (by rfl) ?_ trivial ?_
  · intro w hSw
    go_simp
  try simp only [Act.put, List.setIfInBounds_toArray, List.set_cons_zero, List.set_cons_succ]
  refine takeH 1 29 (v := (.pointer (some ⟨e.p, 0, none⟩))) rfl rfl (by kernel_rfl) (by kernel_rfl) (by kernel_rfl) (fun _ _ _ h => h) (by rfl) ?_ trivial ?_
  · intro w hSw
    go_simp
  try simp only [Act.put, List.setIfInBounds_toArray, List.set_cons_zero, List.set_cons_succ]
  refine takeH 3 31 (v := (.pointer (some ⟨e.p, 0, none⟩))) rfl rfl (by kernel_rfl) (by kernel_rfl) (by kernel_rfl) (fun _ _ _ h => h) (by rfl) ?_ trivial ?_
  · intro w hSw
    go_simp
  try simp only [Act.put, List.setIfInBounds_toArray, List.set_cons_zero, List.set_cons_succ]
  refine takeH 4 32 (v := (.pointer (some ⟨e.p, 1, none⟩))) rfl rfl (by kernel_rfl) (by kernel_rfl) (by kernel_rfl) (fun _ _ _ h => h) (by rfl) ?_ trivial ?_
  · intro w hSw
    go_simp
  try simp only [Act.put, List.setIfInBounds_toArray, List.set_cons_zero, List.set_cons_succ]
  refine wpAnyH_ready (rs := [2]) (by kernel_rfl) (by simp) ?_
  refine AllReadyH.cons rfl (fun K hK => ?_) AllReadyH.nil
  go_simp
  go_at_call 86
  (with_reducible refine (HR.out).mono ?_)
  rintro en w2 ⟨rfl, hM2⟩
  have x10 := hM2.reg 10 (by omega)
  have f10 := hM2.free (1 + 10)
  have HM2 := Lib.hid (hM2.put (1 + 10) (by omega) (.int .i32 z9) { s2 with regs := s2.regs.set 10 z9 } rfl rfl (by rw [← hM2.rlen]; simp) (fun tA tc i u => cellF_set _ _ _ _ 10 (by omega) hM2.rlen z9 i u))
  clear hM2
  refine hK.out _ _ trivial (fun _ => ?_)
  clear hK K
  try simp only [Act.put, List.setIfInBounds_toArray, List.set_cons_zero, List.set_cons_succ]
  refine takeH 5 33 (v := (.pointer (some ⟨e.p, 11, none⟩))) rfl rfl (by kernel_rfl) (by kernel_rfl) (by kernel_rfl) (fun _ _ _ h => h) (by rfl) ?_ trivial ?_
  · intro w hSw
    go_simp
  try simp only [Act.put, List.setIfInBounds_toArray, List.set_cons_zero, List.set_cons_succ]
  refine wpAnyH_ready (rs := [6]) (by kernel_rfl) (by simp) ?_
  refine AllReadyH.cons rfl (fun K hK => ?_) AllReadyH.nil
  go_simp
  refine hK.out _ _ trivial (fun _ => ?_)
  clear hK K
  try simp only [Act.put, List.setIfInBounds_toArray, List.set_cons_zero, List.set_cons_succ]
  refine wpAnyH_done (by kernel_rfl) ?_ _
  go_wp2_with fail
  refine bodyPost_end (results_none rfl _ _ _) rfl ?_
  refine ⟨rfl, ?_⟩
  rw [← HRR.out]
  exact HM2.out
theorem call_any {e : Env} {w : World} {s : MS} (h : MAt e w s) (ht : s.tr.length ≤ 100000) (hr : s.reads ≤ e.inp.length) (hi : e.inp.length ≤ 90000) :
    Calls Try.prog 63 #[.pointer (some ⟨e.p, 0, none⟩)] w (Out e (callM e.inp s)) := by
  by_cases h1 : s.regs.getD 17 0 = 1
  · exact call_print h h1 ht
  · by_cases h2 : s.regs.getD 17 0 = 2
    · exact call_read h h2 hr hi
    · by_cases h3 : s.regs.getD 17 0 = 3
      · exact call_end h h3
      · exact call_no h h1 h2 h3
end Rv
end Go.Proofs.Ytmedhibjkbahpaa
namespace Go.Proofs.Ytmedhibjkbahpaa
open Go.RowKit
set_option linter.unusedVariables false
set_option linter.unusedSimpArgs false
set_option maxRecDepth 100000
namespace Rv
theorem name_wpR {P : Program} {c : Code} {Q : Exit → Act → World → Prop} {a : Act} {w : World} (h : ∀ W, W = w → c.wp P Q a W) : c.wp P Q a w := h w rfl
/-- The state behind an instruction that goes on at a place and gives its register a word. -/
def nextM (l : Ln) (to v : Int) (s : MS) : MS := { s with pc := to, regs := if l.d = 0 then s.regs else s.regs.set l.d.toNat v }
/-- What an instruction comes to. -/
def insM (inp : List Int) (l : Ln) (s : MS) : MO :=
  if l.op = 24 then
    match wordM s.mem.length (wrap32 (s.regs.getD l.a.toNat 0 + l.n)) with
    | none => .fin 6 s
    | some k => .go (nextM l (stepI l.op l.n (s.regs.getD l.a.toNat 0) (s.regs.getD l.b.toNat 0) s.pc).2 (s.mem.getD k 0) s)
  else if l.op = 25 then
    match wordM s.mem.length (wrap32 (s.regs.getD l.a.toNat 0 + l.n)) with
    | none => .fin 6 s
    | some k => .go (nextM l (stepI l.op l.n (s.regs.getD l.a.toNat 0) (s.regs.getD l.b.toNat 0) s.pc).2 0 { s with mem := s.mem.set k (s.regs.getD l.b.toNat 0) })
  else if l.op = 30 then
    match callM inp s with
    | .fin k s' => .fin k s'
    | .go s' => .go (nextM l (stepI l.op l.n (s.regs.getD l.a.toNat 0) (s.regs.getD l.b.toNat 0) s.pc).2 0 s')
  else .go (nextM l (stepI l.op l.n (s.regs.getD l.a.toNat 0) (s.regs.getD l.b.toNat 0) s.pc).2 (stepI l.op l.n (s.regs.getD l.a.toNat 0) (s.regs.getD l.b.toNat 0) s.pc).1 s)
/-- A step. -/
def stepM (ls : List Ln) (inp : List Int) (fuel : Int) (s : MS) : MO :=
  if s.pc < 0 ∨ s.pc % 4 ≠ 0 ∨ (ls.length : Int) ≤ s.pc / 4 then .fin 6 s
  else if fuel ≤ (s.steps : Int) then .fin 5 s
  else match ls[(s.pc / 4).toNat]? with
    | none => .fin 6 s
    | some l => insM inp l { s with steps := s.steps + 1 }
/-- The tail of a step: where it goes on, and its register. -/
theorem MAt.next {e : Env} {w : World} {s : MS} (h : MAt e w s) (z : Int) : MAt e (w.setCell ⟨e.p, 34, none⟩ (.int .i32 z)) { s with pc := z } :=
  h.put 34 (by omega) _ _ rfl rfl h.rlen (fun tA tc i u => cellF_pc _ _ _ _ _ i u)
theorem MAt.give {e : Env} {w : World} {s : MS} (h : MAt e w s) (k : Nat) (hk : k < 32) (z : Int) : MAt e (w.setCell ⟨e.p, 1 + k, none⟩ (.int .i32 z)) { s with regs := s.regs.set k z } :=
  h.put (1 + k) (by omega) _ _ rfl rfl (by rw [← h.rlen]; simp) (fun tA tc i u => cellF_set _ _ _ _ k hk h.rlen z i u)
theorem MAt.drewN {e : Env} {w : World} {s : MS} (h : MAt e w s) (n : Nat) : MAt e (w.drewN n) s := by
  obtain ⟨tA, tc, hc, hl, hn⟩ := h.box
  exact ⟨⟨h.below.os, h.below.tape, h.below.output, h.below.size, h.below.block⟩, h.pge, h.apart, h.xb, h.mem, h.mlen, h.rlen, h.lines, h.inp, tA, tc, hc.same rfl, hl.same (Nat.le_refl _) (fun _ _ => rfl), hn⟩
theorem step_fault {e : Env} {w : World} {s : MS} (h : MAt e w s) (hl : e.ls.length ≤ 100000) (hb : -2147483648 ≤ s.pc ∧ s.pc ≤ 2147483647) (hc : s.pc < 0 ∨ s.pc % 4 ≠ 0 ∨ (e.ls.length : Int) ≤ s.pc / 4) :
    Calls Try.prog 43 #[.pointer (some ⟨e.p, 0, none⟩)] w fun en w' => Ends 6 en ∧ MAt e w' s := by
  have x0 := h.cell 0 (.slice e.q.LA e.q.ln e.q.lc) (fun _ _ => rfl)
  have x34 := h.cell 34 (.int .i32 s.pc) (fun _ _ => rfl)
  have hln := h.lines.1
  rw [hln] at hc hl
  have hl2 : (e.q.ln : Int) ≤ 100000 := by omega
  obtain ⟨b1, b2⟩ := hb
  have HM := Lib.hid h.drewN
  generalize s.pc = z at *
  clear h hln hl
  by_cases c1 : z < 0
  · clear hc
    go_enter Try.func43, Try.ntmps43
    go_wp2_with fail
    go_quiet (fail)
    go_wp2_with fail
    exact ⟨rfl, rfl, HM.out _⟩
  · have d1 : decide (z < 0) = false := by simp; omega
    have c1' : 0 ≤ z := by omega
    by_cases c2 : z % 4 = 0
    · have e2 : z.tmod 4 = 0 := by rw [Int.tmod_eq_emod_of_nonneg (by omega)]; exact c2
      have e3 : z.tdiv 4 = z / 4 := Int.tdiv_eq_ediv_of_nonneg (by omega)
      have c3 : (e.q.ln : Int) ≤ z / 4 := by omega
      have c4 : z / 4 ≤ 2147483647 := by omega
      have c5 : 0 ≤ z / 4 := by omega
      obtain ⟨y, hy⟩ : ∃ y, z / 4 = y := ⟨_, rfl⟩
      rw [hy] at e3 c3 c4 c5
      clear hc c1 hy
      go_enter Try.func43, Try.ntmps43
      go_wp2_with fail
      go_quiet (fail)
      go_wp2_with fail
      exact ⟨rfl, rfl, HM.out _⟩
    · have e2 : ¬ z.tmod 4 = 0 := by rw [Int.tmod_eq_emod_of_nonneg (by omega)]; exact c2
      have e4 : (z.tmod 4 == 0) = false := by simpa using e2
      clear hc c1 c2
      go_enter Try.func43, Try.ntmps43
      go_wp2_with fail
      go_quiet (fail)
      go_wp2_with fail
      exact ⟨rfl, rfl, HM.out _⟩
theorem step_open {e : Env} {w : World} {s : MS} (h : MAt e w s) (hl : e.ls.length ≤ 100000) (hb : -2147483648 ≤ s.pc ∧ s.pc ≤ 2147483647) (hc : ¬ (s.pc < 0 ∨ s.pc % 4 ≠ 0 ∨ (e.ls.length : Int) ≤ s.pc / 4)) (hf : e.q.fuel ≤ (s.steps : Int)) :
    Calls Try.prog 43 #[.pointer (some ⟨e.p, 0, none⟩)] w fun en w' => Ends 5 en ∧ MAt e w' s := by
  have x0 := h.cell 0 (.slice e.q.LA e.q.ln e.q.lc) (fun _ _ => rfl)
  have x34 := h.cell 34 (.int .i32 s.pc) (fun _ _ => rfl)
  have x36 := h.cell 36 (.int .i64 e.q.fuel) (fun _ _ => rfl)
  have x40 := h.cell 40 (.int .i64 (s.steps : Int)) (fun _ _ => rfl)
  have hln := h.lines.1
  rw [hln] at hc hl
  have hl2 : (e.q.ln : Int) ≤ 100000 := by omega
  obtain ⟨b1, b2⟩ := hb
  simp only [not_or, Int.not_lt, Int.not_le, Decidable.not_not] at hc
  obtain ⟨c1, c2, c3⟩ := hc
  have HM := Lib.hid h.drewN
  generalize s.pc = z at *
  have d1 : decide (z < 0) = false := by simp; omega
  have e2 : z.tmod 4 = 0 := by rw [Int.tmod_eq_emod_of_nonneg (by omega)]; exact c2
  have e3 : z.tdiv 4 = z / 4 := Int.tdiv_eq_ediv_of_nonneg (by omega)
  have c4 : z / 4 ≤ 2147483647 := by omega
  have c5 : 0 ≤ z / 4 := by omega
  obtain ⟨y, hy⟩ : ∃ y, z / 4 = y := ⟨_, rfl⟩
  rw [hy] at e3 c3 c4 c5
  generalize (s.steps : Int) = st at *
  clear h hln hl hy
  go_enter Try.func43, Try.ntmps43
  go_wp2_with fail
  go_quiet (fail)
  go_wp2_with fail
  go_quiet (fail)
  go_wp2_with fail
  exact ⟨rfl, rfl, HM.out _⟩

set_option maxHeartbeats 12800000 in
theorem step_go {e : Env} {w : World} {s : MS} (h : MAt e w s) (hl : e.ls.length ≤ 100000) (hb : s.pc ≤ 2147483647) (hn : e.q.mn ≤ 1000000) (ht : s.tr.length ≤ 100000) (hr : s.reads ≤ e.inp.length) (hi : e.inp.length ≤ 90000) (hs : s.steps ≤ 100000)
    (kk : Nat) (hk : s.pc = 4 * (kk : Int)) (l : Ln) (hlk : e.ls[kk]? = some l) (hok : l.Ok) (hf : (s.steps : Int) < e.q.fuel) :
    Calls Try.prog 43 #[.pointer (some ⟨e.p, 0, none⟩)] w (Out e (insM e.inp l { s with steps := s.steps + 1 })) := by
  have hln := h.lines.1
  have hkl : kk < e.q.ln := by rw [← hln]; exact (List.getElem?_eq_some_iff.1 hlk).1
  rw [hln] at hl
  obtain ⟨g, off, eA, hg, hcl⟩ := h.lines.2 (by omega)
  obtain ⟨o1, o2⟩ := hok.op
  obtain ⟨a1, a2⟩ := hok.a
  obtain ⟨b1, b2⟩ := hok.b
  obtain ⟨d1, d2⟩ := hok.d
  have hsys := hok.sys
  obtain ⟨lk, lo, ld, la, lb, lnn, lsym⟩ := l
  obtain rfl : lk = 2 := hok.k
  dsimp only at o1 o2 a1 a2 b1 b2 d1 d2 hsys
  obtain ⟨an, ha⟩ : ∃ an : Nat, la = (an : Int) := ⟨la.toNat, by omega⟩
  obtain ⟨bn, hbn⟩ : ∃ bn : Nat, lb = (bn : Int) := ⟨lb.toNat, by omega⟩
  obtain ⟨dn, hdn⟩ : ∃ dn : Nat, ld = (dn : Int) := ⟨ld.toNat, by omega⟩
  subst ha hbn hdn
  have HL : Hid (∀ V s', MAt e V s' → ∀ j v, (Ln.mk 2 lo dn an bn lnn lsym).cells[j]? = some v → V.cell? ⟨g, off + kk * 7 + j, none⟩ = some v) := Lib.hid (fun V s' hV j v hj => (hV.below.cell (p := ⟨g, off + kk * 7 + j, none⟩) hg).trans (hcl kk _ hlk j v hj))
  have x0 := h.cell 0 (.slice e.q.LA e.q.ln e.q.lc) (fun _ _ => rfl)
  have x34 := h.cell 34 (.int .i32 s.pc) (fun _ _ => rfl)
  have x36 := h.cell 36 (.int .i64 e.q.fuel) (fun _ _ => rfl)
  have x40 := h.cell 40 (.int .i64 (s.steps : Int)) (fun _ _ => rfl)
  have f40 : ∀ d, (w.drewN d).frozen? ⟨e.p, 40, none⟩ = false := fun d => h.free 40
  have hl2 : (e.q.ln : Int) ≤ 100000 := by omega
  have hpc := hk
  obtain ⟨z, hz⟩ : ∃ z, s.pc = z := ⟨_, rfl⟩
  rw [hz] at x34 hk hb
  have c1 : decide (z < 0) = false := by simp; omega
  have c1' : 0 ≤ z := by omega
  have c2 : z.tmod 4 = 0 := by rw [Int.tmod_eq_emod_of_nonneg (by omega)]; omega
  have c3 : z.tdiv 4 = (kk : Int) := by rw [Int.tdiv_eq_ediv_of_nonneg (by omega)]; omega
  have c4 : (kk : Int) < (e.q.ln : Int) := by omega
  have c5 : (0 : Int) ≤ (kk : Int) := by omega
  have c6 : (0 : Int) ≤ (s.steps : Int) := by omega
  have c7 : (s.steps : Int) ≤ 100000 := by omega
  have c8 : ¬ e.q.fuel ≤ (s.steps : Int) := by omega
  have HM1 : Hid (∀ d, MAt e ((w.drewN d).setCell ⟨e.p, 40, none⟩ (.int .i64 ((s.steps : Int) + 1))) { s with steps := s.steps + 1 }) := Lib.hid (fun d =>
    (h.drewN d).put 40 (by omega) (.int .i64 ((s.steps + 1 : Nat) : Int)) _ rfl rfl h.rlen (fun tA tc i u => cellF_steps _ _ _ _ _ i u))
  rw [eA] at x0
  have HEA := Lib.hid eA
  have HZ := Lib.hid hz
  have HT := Lib.hid (And.intro ht (And.intro hr (And.intro hi hn)))
  have HKZ := Lib.hid hk
  clear h hl hln hkl hlk hcl hok hk hz eA hg hpc ht hr hi hn hf hs
  go_enter Try.func43, Try.ntmps43
  go_wp2_with fail
  go_quiet (fail)
  go_wp2_with fail
  go_quiet (fail)
  go_upto_region 5 with fail
  refine name_wpR (fun W1 hW1 => ?_)
  have hM1 : MAt e W1 { s with steps := s.steps + 1 } := by rw [hW1]; exact HM1.out _
  clear hW1 HM1 x0 x34 x36 x40 f40
  generalize hs1 : ({ s with steps := s.steps + 1 } : MS) = s1 at *
  have hz1 : s1.pc = z := by rw [← hs1]; exact HZ.out
  have x0 := hM1.cell 0 (.slice e.q.LA e.q.ln e.q.lc) (fun _ _ => rfl)
  rw [HEA.out] at x0
  have x34 := hM1.cell 34 (.int .i32 s1.pc) (fun _ _ => rfl)
  rw [hz1] at x34
  have xa := hM1.reg an (by omega)
  have xb := hM1.reg bn (by omega)
  have y3 := HL.out W1 s1 hM1 3 _ rfl
  have y4 := HL.out W1 s1 hM1 4 _ rfl
  have HS1 := Lib.hid hs1
  have HZ1 := Lib.hid hz1
  have HM1 := Lib.hid hM1
  have a3 : (0 : Int) ≤ (an : Int) := by omega
  have a4 : (an : Int) < 32 := by omega
  have b3 : (0 : Int) ≤ (bn : Int) := by omega
  have b4 : (bn : Int) < 32 := by omega
  have hO : insM e.inp ⟨2, lo, dn, an, bn, lnn, lsym⟩ s1 = insM e.inp ⟨2, lo, dn, an, bn, lnn, lsym⟩ s1 := rfl
  generalize hra : s1.regs.getD an 0 = ra at *
  generalize hrb : s1.regs.getD bn 0 = rb at *
  have HRA := Lib.hid (And.intro hra hrb)
  clear hM1 hs1 hz1 hra hrb hO
  go_quiet (fail)
  go_wp2_with fail
  go_quiet (fail)
  go_upto_region 7 with fail
  refine name_wpR (fun W2 hW2 => ?_)
  have hM2 : MAt e W2 s1 := by rw [hW2]; exact (HM1.out.drewN _).drewN _
  clear hW2 x0 x34 xa xb y3 y4 HM1
  have HM2 := Lib.hid hM2
  have HF : Hid (∀ V, Below W2.heap.size W2 V → V.cell? ⟨e.p, 34, none⟩ = some (.int .i32 z) ∧ V.cell? ⟨g, off + kk * 7, none⟩ = some (.int .i64 2) ∧ V.cell? ⟨g, off + kk * 7 + 1, none⟩ = some (.int .i64 lo) ∧ V.cell? ⟨g, off + kk * 7 + 2, none⟩ = some (.int .i64 (dn : Int)) ∧ V.cell? ⟨g, off + kk * 7 + 3, none⟩ = some (.int .i64 (an : Int)) ∧ V.cell? ⟨g, off + kk * 7 + 4, none⟩ = some (.int .i64 (bn : Int)) ∧ V.cell? ⟨g, off + kk * 7 + 5, none⟩ = some (.int .i32 lnn) ∧ V.cell? ⟨g, off + kk * 7 + 6, none⟩ = some (.string lsym)) := Lib.hid (fun V hV => by
    have hq := HM2.out.grow hV
    refine ⟨by rw [← HZ1.out]; exact hq.cell 34 (.int .i32 s1.pc) (fun _ _ => rfl), HL.out V s1 hq 0 _ rfl, HL.out V s1 hq 1 _ rfl, HL.out V s1 hq 2 _ rfl, HL.out V s1 hq 3 _ rfl, HL.out V s1 hq 4 _ rfl, HL.out V s1 hq 5 _ rfl, HL.out V s1 hq 6 _ rfl⟩)
  clear hM2
  refine wp_region_held_drew (S := fun V => Below W2.heap.size W2 V) (by kernel_rfl) ((Below.refl _ W2).drew) (fun _ => ?_)
  refine takeH 0 84 (v := (.pointer (some ⟨g, off + kk * 7, none⟩))) rfl rfl (by kernel_rfl) (by kernel_rfl) (by kernel_rfl) (fun _ _ _ h => h) (by rfl) ?_ (by assumption) ?_
  · intro w hSw
    obtain ⟨y0, u0, u1, u2, u3, u4, u5, u6⟩ := HF.out w hSw
    go_simp
  try simp only [Act.put, List.setIfInBounds_toArray, List.set_cons_zero, List.set_cons_succ]
  refine takeH 1 85 (v := (.pointer (some ⟨g, off + kk * 7, none⟩))) rfl rfl (by kernel_rfl) (by kernel_rfl) (by kernel_rfl) (fun _ _ _ h => h) (by rfl) ?_ (by assumption) ?_
  · intro w hSw
    obtain ⟨y0, u0, u1, u2, u3, u4, u5, u6⟩ := HF.out w hSw
    go_simp
  try simp only [Act.put, List.setIfInBounds_toArray, List.set_cons_zero, List.set_cons_succ]
  refine takeH 2 86 (v := (.agg #[.int .i64 2, .int .i64 lo, .int .i64 (dn : Int), .int .i64 (an : Int), .int .i64 (bn : Int), .int .i32 lnn, .string lsym])) rfl rfl (by kernel_rfl) (by kernel_rfl) (by kernel_rfl) (fun _ _ _ h => h) (by rfl) ?_ (by assumption) ?_
  · intro w hSw
    obtain ⟨y0, u0, u1, u2, u3, u4, u5, u6⟩ := HF.out w hSw
    go_simp
  try simp only [Act.put, List.setIfInBounds_toArray, List.set_cons_zero, List.set_cons_succ]
  refine takeH 3 87 (v := (.int .i32 ra)) rfl rfl (by kernel_rfl) (by kernel_rfl) (by kernel_rfl) (fun _ _ _ h => h) (by rfl) ?_ (by assumption) ?_
  · intro w hSw
    obtain ⟨y0, u0, u1, u2, u3, u4, u5, u6⟩ := HF.out w hSw
    go_simp
  try simp only [Act.put, List.setIfInBounds_toArray, List.set_cons_zero, List.set_cons_succ]
  refine takeH 4 88 (v := (.int .i32 rb)) rfl rfl (by kernel_rfl) (by kernel_rfl) (by kernel_rfl) (fun _ _ _ h => h) (by rfl) ?_ (by assumption) ?_
  · intro w hSw
    obtain ⟨y0, u0, u1, u2, u3, u4, u5, u6⟩ := HF.out w hSw
    go_simp
  try simp only [Act.put, List.setIfInBounds_toArray, List.set_cons_zero, List.set_cons_succ]
  refine takeH 5 89 (v := (.pointer (some ⟨e.p, 0, none⟩))) rfl rfl (by kernel_rfl) (by kernel_rfl) (by kernel_rfl) (fun _ _ _ h => h) (by rfl) ?_ (by assumption) ?_
  · intro w hSw
    obtain ⟨y0, u0, u1, u2, u3, u4, u5, u6⟩ := HF.out w hSw
    go_simp
  try simp only [Act.put, List.setIfInBounds_toArray, List.set_cons_zero, List.set_cons_succ]
  refine takeH 6 90 (v := (.pointer (some ⟨e.p, 0, none⟩))) rfl rfl (by kernel_rfl) (by kernel_rfl) (by kernel_rfl) (fun _ _ _ h => h) (by rfl) ?_ (by assumption) ?_
  · intro w hSw
    obtain ⟨y0, u0, u1, u2, u3, u4, u5, u6⟩ := HF.out w hSw
    go_simp
  try simp only [Act.put, List.setIfInBounds_toArray, List.set_cons_zero, List.set_cons_succ]
  refine takeH 7 91 (v := (.pointer (some ⟨e.p, 34, none⟩))) rfl rfl (by kernel_rfl) (by kernel_rfl) (by kernel_rfl) (fun _ _ _ h => h) (by rfl) ?_ (by assumption) ?_
  · intro w hSw
    obtain ⟨y0, u0, u1, u2, u3, u4, u5, u6⟩ := HF.out w hSw
    go_simp
  try simp only [Act.put, List.setIfInBounds_toArray, List.set_cons_zero, List.set_cons_succ]
  refine takeH 8 92 (v := (.int .i32 z)) rfl rfl (by kernel_rfl) (by kernel_rfl) (by kernel_rfl) (fun _ _ _ h => h) (by rfl) ?_ (by assumption) ?_
  · intro w hSw
    obtain ⟨y0, u0, u1, u2, u3, u4, u5, u6⟩ := HF.out w hSw
    go_simp
  try simp only [Act.put, List.setIfInBounds_toArray, List.set_cons_zero, List.set_cons_succ]
  refine wpAnyH_ready (rs := [9]) (by kernel_rfl) (by simp) ?_
  refine AllReadyH.cons rfl (fun K hK => ?_) AllReadyH.nil
  go_simp
  go_at_call 16
  (with_reducible refine (step_any lo dn an bn lnn ra rb z o1 o2 lsym _).mono ?_)
  rintro en w3 ⟨rfl, hb3⟩
  have HB3 := Lib.hid ((show Below W2.heap.size W2 _ by assumption).trans (hb3.mono (show Below W2.heap.size W2 _ by assumption).size))
  clear hb3
  refine hK.out _ _ HB3.out (fun _ => ?_)
  clear hK K
  try simp only [Act.put, List.setIfInBounds_toArray, List.set_cons_zero, List.set_cons_succ]
  refine takeH 10 83 (v := (.tuple #[.int .i32 (stepI lo lnn ra rb z).1, .int .i32 (stepI lo lnn ra rb z).2])) rfl rfl (by kernel_rfl) (by kernel_rfl) (by kernel_rfl) (fun _ _ _ h => h) (by rfl) ?_ HB3.out ?_
  · intro w hSw
    obtain ⟨y0, u0, u1, u2, u3, u4, u5, u6⟩ := HF.out w hSw
    go_simp
  try simp only [Act.put, List.setIfInBounds_toArray, List.set_cons_zero, List.set_cons_succ]
  refine takeH 11 94 (v := (.int .i32 (stepI lo lnn ra rb z).1)) rfl rfl (by kernel_rfl) (by kernel_rfl) (by kernel_rfl) (fun _ _ _ h => h) (by rfl) ?_ HB3.out ?_
  · intro w hSw
    obtain ⟨y0, u0, u1, u2, u3, u4, u5, u6⟩ := HF.out w hSw
    go_simp
  try simp only [Act.put, List.setIfInBounds_toArray, List.set_cons_zero, List.set_cons_succ]
  refine takeH 13 5 (v := (.int .i32 (stepI lo lnn ra rb z).1)) rfl rfl (by kernel_rfl) (by kernel_rfl) (by kernel_rfl) (fun _ _ _ h => h) (by rfl) ?_ HB3.out ?_
  · intro w hSw
    obtain ⟨y0, u0, u1, u2, u3, u4, u5, u6⟩ := HF.out w hSw
    go_simp
  try simp only [Act.put, List.setIfInBounds_toArray, List.set_cons_zero, List.set_cons_succ]
  refine takeH 12 95 (v := (.int .i32 (stepI lo lnn ra rb z).2)) rfl rfl (by kernel_rfl) (by kernel_rfl) (by kernel_rfl) (fun _ _ _ h => h) (by rfl) ?_ HB3.out ?_
  · intro w hSw
    obtain ⟨y0, u0, u1, u2, u3, u4, u5, u6⟩ := HF.out w hSw
    go_simp
  try simp only [Act.put, List.setIfInBounds_toArray, List.set_cons_zero, List.set_cons_succ]
  refine takeH 14 6 (v := (.int .i32 (stepI lo lnn ra rb z).2)) rfl rfl (by kernel_rfl) (by kernel_rfl) (by kernel_rfl) (fun _ _ _ h => h) (by rfl) ?_ HB3.out ?_
  · intro w hSw
    obtain ⟨y0, u0, u1, u2, u3, u4, u5, u6⟩ := HF.out w hSw
    go_simp
  try simp only [Act.put, List.setIfInBounds_toArray, List.set_cons_zero, List.set_cons_succ]
  refine wpAnyH_done (by kernel_rfl) ?_ _
  have hM3 := HM2.out.grow HB3.out
  have x1 := HL.out _ _ hM3 1 _ rfl
  have x2 := HL.out _ _ hM3 2 _ rfl
  have x5 := HL.out _ _ hM3 5 _ rfl
  have HM3 := Lib.hid hM3
  clear hM3 HM2 HB3 HF
  generalize hst : stepI lo lnn ra rb z = st at *
  have HST := Lib.hid hst
  clear hst
  have f34 := HM3.out.free 34
  have x34 := HM3.out.cell 34 (.int .i32 s1.pc) (fun _ _ => rfl)
  have hdd : (dn : Int) ≤ 31 := by omega
  have hd0 : (0 : Int) ≤ (dn : Int) := by omega
  by_cases h24 : lo = 24
  · have b24 : (lo == 24) = true := by simp [h24]
    cases hw : wordM s1.mem.length (wrap32 (ra + lnn)) with
    | none =>
      have HO : Hid (insM e.inp ⟨2, lo, dn, an, bn, lnn, lsym⟩ s1 = .fin 6 s1) := Lib.hid (by unfold insM; rw [if_pos h24]; dsimp only; rw [Int.toNat_natCast, HRA.out.1, hw])
      have HW := Lib.hid (word_no HM3.out _ (wrap_rng _) HT.out.2.2.2 hw)
      clear hw h24
      go_wp2_with fail
      (with_reducible refine HW.out.mono ?_)
      rintro en w4 ⟨he, rfl⟩
      unfold Ends at he
      subst he
      exact ⟨rfl, by show Out e (insM e.inp ⟨2, lo, dn, an, bn, lnn, lsym⟩ s1) _ _; rw [HO.out]; exact ⟨rfl, HM3.out⟩⟩
    | some k =>
      have HO : Hid (insM e.inp ⟨2, lo, dn, an, bn, lnn, lsym⟩ s1 = .go (nextM ⟨2, lo, dn, an, bn, lnn, lsym⟩ st.2 (s1.mem.getD k 0) s1)) := Lib.hid (by unfold insM; rw [if_pos h24]; dsimp only; rw [Int.toNat_natCast, Int.toNat_natCast, HRA.out.1, hw, HRA.out.2, HZ1.out, HST.out])
      have HW := Lib.hid (word_yes HM3.out _ (wrap_rng _) HT.out.2.2.2 k hw)
      have hkm : k < s1.mem.length := by
        unfold wordM at hw
        split at hw
        · cases hw
        · next hc => injection hw with hw; simp only [not_or, Int.not_lt, Int.not_le] at hc; omega
      have xm := HM3.out.mem.cell k hkm
      clear hw h24 hkm
      generalize hvm : s1.mem.getD k 0 = vm at *
      have HVM := Lib.hid hvm
      clear hvm
      go_wp2_with fail
      (with_reducible refine HW.out.mono ?_)
      rintro en w4 ⟨rfl, rfl⟩
      clear HW
      obtain ⟨W5, hW5⟩ : ∃ W5, World.setCell w4 ⟨e.p, 34, none⟩ (.int .i32 st.2) = W5 := ⟨_, rfl⟩
      have hM5 : MAt e W5 { s1 with pc := st.2 } := by rw [← hW5]; exact HM3.out.next st.2
      have z2 := HL.out _ _ hM5 2 _ rfl
      by_cases hd9 : dn = 0
      · subst hd9
        have HM5 := Lib.hid hM5
        clear hM5
        go_wp2_with fail
        refine bodyPost_end (results_none rfl _ _ _) rfl ?_
        show Out e (insM e.inp ⟨2, lo, (0 : Nat), an, bn, lnn, lsym⟩ s1) _ _
        rw [HO.out]
        exact ⟨rfl, HM5.out⟩
      · have hd8 : ((dn : Int) == 0) = false := by simp; omega
        have zr := hM5.reg dn (by omega)
        have zf := hM5.free (1 + dn)
        have HM5 := Lib.hid (hM5.give dn (by omega) vm)
        have hd7 : (dn : Int) < 32 := by omega
        clear hM5
        generalize List.getD _ dn 0 = vr at zr
        go_upto_region 17 with fail
        go_still_tail 9, (by kernel_rfl)
        change wpList _ _ _ _ _ (World.drew _)
        go_wp2_with fail
        refine bodyPost_end (results_none rfl _ _ _) rfl ?_
        show Out e (insM e.inp ⟨2, lo, dn, an, bn, lnn, lsym⟩ s1) _ _
        rw [HO.out]
        refine ⟨rfl, ?_⟩
        have hnx : nextM ⟨2, lo, dn, an, bn, lnn, lsym⟩ st.2 vm s1 = { s1 with pc := st.2, regs := s1.regs.set dn vm } := by unfold nextM; rw [if_neg (by show ¬ (dn : Int) = 0; omega)]; rfl
        rw [hnx]
        exact HM5.out.drew
  · have b24 : (lo == 24) = false := by simp [h24]
    by_cases h25 : lo = 25
    · have b25 : (lo == 25) = true := by simp [h25]
      have hd : (dn : Int) = 0 := hsys (.inl h25)
      obtain rfl : dn = 0 := by omega
      cases hw : wordM s1.mem.length (wrap32 (ra + lnn)) with
      | none =>
        have HO : Hid (insM e.inp ⟨2, lo, (0 : Nat), an, bn, lnn, lsym⟩ s1 = .fin 6 s1) := Lib.hid (by unfold insM; rw [if_neg h24, if_pos h25]; dsimp only; rw [Int.toNat_natCast, HRA.out.1, hw])
        have HW := Lib.hid (word_no HM3.out _ (wrap_rng _) HT.out.2.2.2 hw)
        clear hw h24 h25 hsys hd
        go_wp2_with fail
        (with_reducible refine HW.out.mono ?_)
        rintro en w4 ⟨he, rfl⟩
        unfold Ends at he
        subst he
        exact ⟨rfl, by show Out e (insM e.inp ⟨2, lo, (0 : Nat), an, bn, lnn, lsym⟩ s1) _ _; rw [HO.out]; exact ⟨rfl, HM3.out⟩⟩
      | some k =>
        have HO : Hid (insM e.inp ⟨2, lo, (0 : Nat), an, bn, lnn, lsym⟩ s1 = .go (nextM ⟨2, lo, (0 : Nat), an, bn, lnn, lsym⟩ st.2 0 { s1 with mem := s1.mem.set k rb })) := Lib.hid (by unfold insM; rw [if_neg h24, if_pos h25]; dsimp only; rw [Int.toNat_natCast, Int.toNat_natCast, HRA.out.1, hw, HRA.out.2, HZ1.out, HST.out])
        have HW := Lib.hid (word_yes HM3.out _ (wrap_rng _) HT.out.2.2.2 k hw)
        have hkm : k < s1.mem.length := by
          unfold wordM at hw
          split at hw
          · cases hw
          · next hc => injection hw with hw; simp only [not_or, Int.not_lt, Int.not_le] at hc; omega
        have xm := HM3.out.mem.cell k hkm
        have fm := HM3.out.mem.free k
        clear hw h24 h25 hkm hsys hd
        generalize s1.mem.getD k 0 = vm at *
        go_wp2_with fail
        (with_reducible refine HW.out.mono ?_)
        rintro en w4 ⟨rfl, rfl⟩
        obtain ⟨W4, hW4⟩ : ∃ W4, w4.setCell ⟨e.q.mb, k, none⟩ (.int .i32 rb) = W4 := ⟨_, rfl⟩
        have hM4 : MAt e W4 { s1 with mem := s1.mem.set k rb } := by rw [← hW4]; exact HM3.out.store k rb
        have y1 := HL.out _ _ hM4 1 _ rfl
        have y2 := HL.out _ _ hM4 2 _ rfl
        have g34 := hM4.free 34
        have y34 := hM4.cell 34 (.int .i32 s1.pc) (fun _ _ => rfl)
        obtain ⟨W5, hW5⟩ : ∃ W5, W4.setCell ⟨e.p, 34, none⟩ (.int .i32 st.2) = W5 := ⟨_, rfl⟩
        have hM5 : MAt e W5 { s1 with mem := s1.mem.set k rb, pc := st.2 } := by rw [← hW5]; exact hM4.next st.2
        have z2 := HL.out _ _ hM5 2 _ rfl
        have HM5 := Lib.hid hM5
        clear HW hM4 hM5
        go_wp2_with fail
        refine bodyPost_end (results_none rfl _ _ _) rfl ?_
        show Out e (insM e.inp ⟨2, lo, (0 : Nat), an, bn, lnn, lsym⟩ s1) _ _
        rw [HO.out]
        exact ⟨rfl, HM5.out⟩
    · have b25 : (lo == 25) = false := by simp [h25]
      by_cases h30 : lo = 30
      · have b30 : (lo == 30) = true := by simp [h30]
        have hd : (dn : Int) = 0 := hsys (.inr h30)
        obtain rfl : dn = 0 := by omega
        have HC := Lib.hid (call_any HM3.out (by rw [← HS1.out]; exact HT.out.1) (by rw [← HS1.out]; exact HT.out.2.1) HT.out.2.2.1)
        have HO : Hid (insM e.inp ⟨2, lo, (0 : Nat), an, bn, lnn, lsym⟩ s1 = match callM e.inp s1 with | .fin k s' => .fin k s' | .go s' => .go (nextM ⟨2, lo, (0 : Nat), an, bn, lnn, lsym⟩ st.2 0 s')) := Lib.hid (by unfold insM; rw [if_neg h24, if_neg h25, if_pos h30]; dsimp only; rw [Int.toNat_natCast, Int.toNat_natCast, HRA.out.1, HRA.out.2, HZ1.out, HST.out])
        clear h24 h25 h30 hsys hd
        generalize callM e.inp s1 = C at *
        go_wp2_with fail
        (with_reducible refine HC.out.mono ?_)
        intro en w4 hC4
        cases C with
        | fin k s' =>
          obtain ⟨he, hT4⟩ := hC4
          have HT4 := Lib.hid hT4
          clear hT4
          unfold Ends at he
          subst he
          exact ⟨rfl, by show Out e (insM e.inp ⟨2, lo, (0 : Nat), an, bn, lnn, lsym⟩ s1) _ _; rw [HO.out]; exact ⟨rfl, HT4.out⟩⟩
        | go s' =>
          obtain ⟨rfl, hM4⟩ := hC4
          have y1 := HL.out _ _ hM4 1 _ rfl
          have y2 := HL.out _ _ hM4 2 _ rfl
          have g34 := hM4.free 34
          have y34 := hM4.cell 34 (.int .i32 s'.pc) (fun _ _ => rfl)
          obtain ⟨W5, hW5⟩ : ∃ W5, w4.setCell ⟨e.p, 34, none⟩ (.int .i32 st.2) = W5 := ⟨_, rfl⟩
          have hM5 : MAt e W5 { s' with pc := st.2 } := by rw [← hW5]; exact hM4.next st.2
          have z2 := HL.out _ _ hM5 2 _ rfl
          have HM5 := Lib.hid hM5
          clear hM4 hM5
          go_wp2_with fail
          refine bodyPost_end (results_none rfl _ _ _) rfl ?_
          show Out e (insM e.inp ⟨2, lo, (0 : Nat), an, bn, lnn, lsym⟩ s1) _ _
          rw [HO.out]
          exact ⟨rfl, HM5.out⟩
      · have b30 : (lo == 30) = false := by simp [h30]
        have HO : Hid (insM e.inp ⟨2, lo, dn, an, bn, lnn, lsym⟩ s1 = .go (nextM ⟨2, lo, dn, an, bn, lnn, lsym⟩ st.2 st.1 s1)) := Lib.hid (by unfold insM; rw [if_neg h24, if_neg h25, if_neg h30]; dsimp only; rw [Int.toNat_natCast, Int.toNat_natCast, HRA.out.1, HRA.out.2, HZ1.out, HST.out])
        clear h24 h25 h30 hsys
        obtain ⟨W5, hW5⟩ : ∃ W5, World.setCell w3 ⟨e.p, 34, none⟩ (.int .i32 st.2) = W5 := ⟨_, rfl⟩
        have hM5 : MAt e W5 { s1 with pc := st.2 } := by rw [← hW5]; exact HM3.out.next st.2
        have z2 := HL.out _ _ hM5 2 _ rfl
        by_cases hd9 : dn = 0
        · subst hd9
          have HM5 := Lib.hid hM5
          clear hM5
          go_wp2_with fail
          refine bodyPost_end (results_none rfl _ _ _) rfl ?_
          show Out e (insM e.inp ⟨2, lo, (0 : Nat), an, bn, lnn, lsym⟩ s1) _ _
          rw [HO.out]
          exact ⟨rfl, HM5.out⟩
        · have hd8 : ((dn : Int) == 0) = false := by simp; omega
          have zr := hM5.reg dn (by omega)
          have zf := hM5.free (1 + dn)
          have HM5 := Lib.hid (hM5.give dn (by omega) st.1)
          have hd7 : (dn : Int) < 32 := by omega
          clear hM5
          generalize List.getD _ dn 0 = vr at zr
          go_upto_region 17 with fail
          go_still_tail 9, (by kernel_rfl)
          change wpList _ _ _ _ _ (World.drew _)
          go_wp2_with fail
          refine bodyPost_end (results_none rfl _ _ _) rfl ?_
          show Out e (insM e.inp ⟨2, lo, dn, an, bn, lnn, lsym⟩ s1) _ _
          rw [HO.out]
          refine ⟨rfl, ?_⟩
          have hnx : nextM ⟨2, lo, dn, an, bn, lnn, lsym⟩ st.2 st.1 s1 = { s1 with pc := st.2, regs := s1.regs.set dn st.1 } := by unfold nextM; rw [if_neg (by show ¬ (dn : Int) = 0; omega)]; rfl
          rw [hnx]
          exact HM5.out.drew
end Rv
end Go.Proofs.Ytmedhibjkbahpaa
namespace Go.Proofs.Ytmedhibjkbahpaa
open Go.RowKit Go.Maps
set_option linter.unusedVariables false
set_option linter.unusedSimpArgs false
set_option maxRecDepth 100000
namespace Rv
def rdV (v : Value) : Option (DataW Value × List MemPlace) := some (.held v, [])
theorem keyN : Keyed Try.prog 9 := string_keyed Try.underlying9
theorem keyOfN {x : ByteArray} (h : x.size ≤ maxLen) : keyOf Try.prog 9 (.string x) = some (.string x.data.toList) := WideMaps.keyOf_string_mk Try.underlying9 h
theorem ba_ext {x y : ByteArray} (h : x.data.toList = y.data.toList) : x = y := by
  cases x
  cases y
  congr 1
  exact Array.toList_inj.1 h
/-- The map in block M takes each symbol to the number that f says. -/
def SymAt (w : World) (M n : Nat) (f : ByteArray → Option Int) : Prop :=
  ∃ D, w.ownsMap Try.prog 9 rdV M n D ∧ (∀ x v, f x = some v → ∀ z, D.atKey (.string x.data.toList) z = .held (.int .i32 v)) ∧ (∀ x v, f x = some v → Maps.has D (.string x.data.toList) = true) ∧ ∀ x, f x = none → Maps.has D (.string x.data.toList) = false
def putS (f : ByteArray → Option Int) (x : ByteArray) (v : Int) : ByteArray → Option Int := fun y => if y = x then some v else f y
theorem SymAt.new (w : World) : SymAt (w.alloc (.map #[] 0)) w.heap.size 0 (fun _ => none) := ⟨.map [], World.ownsMap_made _ _ _ _, fun x v h => (by cases h), fun x v h => (by cases h), fun x h => rfl⟩
theorem SymAt.same {w w' : World} {M n : Nat} {f : ByteArray → Option Int} (h : SymAt w M n f) (hb : w'.heap[M]? = w.heap[M]?) : SymAt w' M n f := by
  obtain ⟨D, ⟨es, clock, h1, h2⟩, h3⟩ := h
  exact ⟨D, ⟨es, clock, hb.trans h1, h2⟩, h3⟩
theorem SymAt.lt {w : World} {M n : Nat} {f : ByteArray → Option Int} (h : SymAt w M n f) : M < w.heap.size := by
  obtain ⟨D, h1, _⟩ := h
  exact World.ownsMap.lt h1
theorem SymAt.drew {w : World} {M n : Nat} {f : ByteArray → Option Int} (h : SymAt w M n f) : SymAt w.drew M n f := h.same rfl
theorem SymAt.put {w : World} {M n : Nat} {f : ByteArray → Option Int} (h : SymAt w M n f) (x : ByteArray) (hx : x.size ≤ maxLen) (v : Int) (hn : n ≤ 1000000) :
    ∃ w', (Instr.mapUpdate 66 (.map (some M)) (.string x) (.int .i32 v)).run Try.prog w = .ok () w' ∧ SymAt w' M (n + 1) (putS f x v) ∧ Chg [M] w w' := by
  obtain ⟨D, hD, hf, hh, hg⟩ := h
  obtain ⟨w', h1, h2, h3⟩ := World.ownsMap.update (P := Try.prog) hD keyN Try.underlying66 (by unfold maxLen; omega) (keyOfN hx) (show rdV (.int .i32 v) = some (.held (.int .i32 v), []) from rfl)
  have hK : WideAt.IsKeyLit (Lit.string x.data.toList) := trivial
  refine ⟨w', h1, ⟨_, h2, fun y u hy z => ?_, fun y u hy => ?_, fun y hy => ?_⟩, (Chg.refl _ w).grown h3 (fun k hk => by injection hk with hk; subst hk; exact .inl (by simp))⟩
  · unfold putS at hy
    by_cases hyx : y = x
    · rw [if_pos hyx] at hy
      cases hy
      rw [hyx]
      exact atKey_put_same hD.isMap hK _ z
    · rw [if_neg hyx] at hy
      rw [atKey_put_other (by intro e; injection e with e; exact hyx (ba_ext e))]
      exact hf y u hy z
  · unfold putS at hy
    by_cases hyx : y = x
    · rw [hyx]
      exact has_put_same hD.isMap hK _
    · rw [if_neg hyx] at hy
      rw [has_put_other (by intro e; injection e with e; exact hyx (ba_ext e))]
      exact hh y u hy
  · unfold putS at hy
    by_cases hyx : y = x
    · rw [if_pos hyx] at hy
      cases hy
    · rw [if_neg hyx] at hy
      rw [has_put_other (by intro e; injection e with e; exact hyx (ba_ext e))]
      exact hg y hy
theorem zeroI (w : World) : (zeroValue 21).run Try.prog w = .ok (.int .i32 0) w := by kernel_rfl
/-- Looking a symbol up, and whether it is there. -/
theorem SymAt.look {w : World} {M n : Nat} {f : ByteArray → Option Int} (h : SymAt w M n f) (x : ByteArray) (hx : x.size ≤ maxLen) :
    (Instr.lookup 66 (.map (some M)) (.string x) true).run Try.prog w = .ok (.tuple #[.int .i32 ((f x).getD 0), .bool (f x).isSome]) w := by
  obtain ⟨D, hD, hf, hh, hg⟩ := h
  obtain ⟨u, ps, h1, h2⟩ := World.ownsMap.look_ok (P := Try.prog) hD keyN Try.underlying66 (zeroI w) (show rdV (.int .i32 0) = some (.held (.int .i32 0), []) from rfl) (keyOfN hx)
  rw [h1]
  cases hx : f x with
  | none =>
    rw [atKey_of_not_has (hg x hx)] at h2
    unfold rdV at h2
    cases h2
    rw [hg x hx]
    rfl
  | some v =>
    rw [hf x v hx] at h2
    unfold rdV at h2
    cases h2
    rw [hh x v hx]
    rfl
theorem SymAt.get {w : World} {M n : Nat} {f : ByteArray → Option Int} (h : SymAt w M n f) (x : ByteArray) (hx : x.size ≤ maxLen) :
    (Instr.lookup 66 (.map (some M)) (.string x) false).run Try.prog w = .ok (.int .i32 ((f x).getD 0)) w := by
  obtain ⟨D, hD, hf, hh, hg⟩ := h
  obtain ⟨u, ps, h1, h2⟩ := World.ownsMap.lookup (P := Try.prog) hD keyN Try.underlying66 (zeroI w) (show rdV (.int .i32 0) = some (.held (.int .i32 0), []) from rfl) (keyOfN hx)
  rw [h1]
  cases hx : f x with
  | none =>
    rw [atKey_of_not_has (hg x hx)] at h2
    unfold rdV at h2
    cases h2
    rfl
  | some v =>
    rw [hf x v hx] at h2
    unfold rdV at h2
    cases h2
    rfl
/-- An image's own block. -/
def ImAt (w : World) (m : Nat) (LA : Option Addr) (ln lc M : Nat) (words : Int) : Prop := w.heap[m]? = some (.cells #[.slice LA ln lc, .map (some M), .int .i64 words] 68 (0, 0))
theorem ImAt.cells {w : World} {m : Nat} {LA : Option Addr} {ln lc M : Nat} {words : Int} (h : ImAt w m LA ln lc M words) :
    w.cell? ⟨m, 0, none⟩ = some (.slice LA ln lc) ∧ w.cell? ⟨m, 1, none⟩ = some (.map (some M)) ∧ w.cell? ⟨m, 2, none⟩ = some (.int .i64 words) ∧ ∀ j, w.frozen? ⟨m, j, none⟩ = false := by
  unfold ImAt at h
  refine ⟨?_, ?_, ?_, fun j => frozen_of_row _ m j _ _ h⟩ <;> (rw [cell_of_row _ m _ _ _ (0, 0) h]; rfl)
theorem at_any (w : World) (m : Nat) (LA : Option Addr) (ln lc M n : Nat) (words : Int) (f : ByteArray → Option Int) (h : ImAt w m LA ln lc M words) (hS : SymAt w M n f) (x : ByteArray) (hx : x.size ≤ maxLen) :
    Calls Try.prog 13 #[.pointer (some ⟨m, 0, none⟩), .string x] w fun e w' => e = .returned (.tuple #[.int .i32 ((f x).getD 0), .bool (f x).isSome]) ∧ w' = w := by
  obtain ⟨y0, y1, y2, y3⟩ := h.cells
  have hl := hS.look x hx
  clear h hS hx
  generalize (f x).getD 0 = v at *
  generalize (f x).isSome = b at *
  go_enter Try.func13, Try.ntmps13
  go_wp2_with fail
  go_ret2
  exact ⟨rfl, rfl⟩
theorem put_any (w : World) (m : Nat) (LA : Option Addr) (ln lc M n : Nat) (words : Int) (f : ByteArray → Option Int) (h : ImAt w m LA ln lc M words) (hS : SymAt w M n f) (x : ByteArray) (hx : x.size ≤ maxLen) (z : Int) (hz : -2147483648 ≤ z ∧ z ≤ 2147483647) (hn : n ≤ 1000000) :
    Calls Try.prog 51 #[.pointer (some ⟨m, 0, none⟩), .string x, .int .i64 z] w fun e w' => e = .returned (.bool (!(f x).isSome)) ∧ SymAt w' M (n + 1) (putS f x z) ∧ Chg [M] w w' := by
  obtain ⟨y0, y1, y2, y3⟩ := h.cells
  have hl := hS.look x hx
  obtain ⟨w', hr, h1, h2⟩ := hS.put x hx z hn
  obtain ⟨z1, z2⟩ := hz
  have HH := Lib.hid (And.intro h1 h2)
  have hzz : wrap32 z = z := IntWalk.wrap32_in _ ⟨z1, z2⟩
  clear h hS hx h1 h2
  generalize (f x).getD 0 = v at *
  generalize (f x).isSome = b at *
  go_enter Try.func51, Try.ntmps51
  go_wp2_with fail
  go_ret
  exact ⟨rfl, HH.out⟩
theorem info_i32R : (Try.prog.info? 21).map (fun i => (i.zero, i.size, i.bytes)) = some (some (.int .i32 0), 1, 4) := by kernel_rfl
theorem make_words (n : Nat) (hc : n ≤ 100000) (W : World) :
    (Instr.makeSlice 53 (.int .i64 (n : Int)) (.int .i64 (n : Int))).run Try.prog W = .ok (.slice (some ⟨W.heap.size, 0, none⟩) n n) (W.alloc (.cells (cellsW (List.replicate n 0)).toArray 21)) := by
  obtain ⟨i0, hi, hz0, hz1, hz2⟩ := info_parts info_i32R
  have h := run_make (P := Try.prog) W 53 21 i0 (.int .i32 0) Try.underlying53 hi hz0 .i64 .i64 n n (by omega) (by omega) (by rw [hz2]; omega) (by omega)
  rw [h]
  congr 3
  rw [hz1, Int.toNat_natCast, Nat.mul_one]
  apply Array.toList_inj.1
  show (madeCells #[.int .i32 0] n).toList = _
  rw [toList_madeCells_one]
  simp [cellsW]

/-- The cells of a machine that has done nothing yet. -/
def newCells (LA : Option Addr) (ln lc mb n : Nat) (pc : Int) (iA : Option Addr) (im ic : Nat) (fuel : Int) : Array Value := #[.slice LA ln lc, .int .i32 0, .int .i32 0, .int .i32 0, .int .i32 0, .int .i32 0, .int .i32 0, .int .i32 0, .int .i32 0, .int .i32 0, .int .i32 0, .int .i32 0, .int .i32 0, .int .i32 0, .int .i32 0, .int .i32 0, .int .i32 0, .int .i32 0, .int .i32 0, .int .i32 0, .int .i32 0, .int .i32 0, .int .i32 0, .int .i32 0, .int .i32 0, .int .i32 0, .int .i32 0, .int .i32 0, .int .i32 0, .int .i32 0, .int .i32 0, .int .i32 0, .int .i32 0, .slice (some ⟨mb, 0, none⟩) n n, .int .i32 pc, .slice iA im ic, .int .i64 fuel, .int .i64 0, .int .i32 0, .slice none 0 0, .int .i64 0, .int .i64 0]
def newS (n : Nat) (pc : Int) : MS := ⟨List.replicate 32 0, List.replicate n 0, pc, 0, [], 0, 0⟩
theorem newCells_at (LA : Option Addr) (ln lc mb n : Nat) (pc : Int) (iA : Option Addr) (im ic : Nat) (fuel : Int) (j : Nat) (v : Value) (h : cellF ⟨LA, ln, lc, mb, n, iA, im, ic, fuel⟩ none 0 (newS n pc) j = some v) : (newCells LA ln lc mb n pc iA im ic fuel)[j]? = some v := by
  by_cases hj : j < 42
  · rw [← h]
    have hr : ∀ k, k < 32 → (List.replicate 32 (0 : Int)).getD k 0 = 0 := fun k hk => by rw [List.getD_eq_getElem?_getD, List.getElem?_replicate, if_pos hk]; rfl
    have h33 : ∀ i, 1 ≤ i → i < 33 → cellF ⟨LA, ln, lc, mb, n, iA, im, ic, fuel⟩ none 0 (newS n pc) i = some (.int .i32 0) := fun i h1 h2 => by
      have := cellF_reg ⟨LA, ln, lc, mb, n, iA, im, ic, fuel⟩ none 0 (newS n pc) (i - 1) (by omega)
      rw [show 1 + (i - 1) = i from by omega] at this
      rw [this]
      show some (Value.int .i32 ((List.replicate 32 (0 : Int)).getD (i - 1) 0)) = _
      rw [hr _ (by omega)]
    rcases Nat.lt_or_ge j 33 with h1 | h1
    · rcases Nat.eq_zero_or_pos j with h0 | h0
      · subst h0; rfl
      · rw [h33 j h0 h1]
        have h5 : j - 1 < 32 := by omega
        obtain ⟨i, hi⟩ : ∃ i, j = i + 1 := ⟨j - 1, by omega⟩
        subst hi
        have : ∀ i : Fin 32, (newCells LA ln lc mb n pc iA im ic fuel)[i.val + 1]? = some (.int .i32 0) := fun i => by
          rcases i with ⟨i, hi⟩
          (iterate 32 (rcases i with _ | i; · rfl))
          omega
        exact this ⟨i, by omega⟩
    · obtain ⟨i, hi⟩ : ∃ i, j = i + 33 := ⟨j - 33, by omega⟩
      subst hi
      have h9 : i < 9 := by omega
      (iterate 9 (rcases i with _ | i; · rfl))
      omega
  · exfalso
    unfold cellF at h
    rw [if_neg (by omega), if_neg (by omega), if_neg (by omega), if_neg (by omega), if_neg (by omega), if_neg (by omega), if_neg (by omega), if_neg (by omega), if_neg (by omega), if_neg (by omega), if_neg (by omega)] at h
    cases h
set_option maxHeartbeats 3200000 in
theorem started_any (w : World) (m : Nat) (LA : Option Addr) (ln lc M k n : Nat) (f : ByteArray → Option Int) (h : ImAt w m LA ln lc M (n : Int)) (hS : SymAt w M k f) (iA : Option Addr) (im ic : Nat) (fuel : Int) (hn : n ≤ 100000) :
    Calls Try.prog 41 #[.pointer (some ⟨m, 0, none⟩), .slice iA im ic, .int .i64 fuel] w fun e w' =>
      e = .returned (.pointer (some ⟨w.heap.size + 1, 0, none⟩)) ∧ Below w.heap.size w w' ∧ w'.heap.size = w.heap.size + 2 ∧
        CellsAt w' (w.heap.size + 1) (cellF ⟨LA, ln, lc, w.heap.size, n, iA, im, ic, fuel⟩ none 0 (newS n ((f ⟨#[46, 115, 116, 97, 114, 116]⟩).getD 0))) ∧ RegAt w' w.heap.size (List.replicate n 0) := by
  have HA := Lib.hid (at_any w m LA ln lc M k n f h hS ⟨#[46, 115, 116, 97, 114, 116]⟩ (by show (6 : Nat) ≤ maxLen; unfold maxLen; omega))
  obtain ⟨pc, hpc⟩ : ∃ pc, (f ⟨#[46, 115, 116, 97, 114, 116]⟩).getD 0 = pc := ⟨_, rfl⟩
  rw [hpc] at HA ⊢
  obtain ⟨Wa, hWa⟩ : ∃ Wa, w.alloc (.cells (cellsW (List.replicate n 0)).toArray 21) = Wa := ⟨_, rfl⟩
  obtain ⟨Wb, hWb⟩ : ∃ Wb, Wa.alloc (.cells (newCells LA ln lc w.heap.size n pc iA im ic fuel) 88) = Wb := ⟨_, rfl⟩
  have sa : Wa.heap.size = w.heap.size + 1 := by rw [← hWa]; simp
  have hba : Below w.heap.size w Wa := by rw [← hWa]; exact (Below.refl _ _).alloc (Nat.le_refl _) _
  have hbb : Below w.heap.size w Wb := by rw [← hWb]; exact hba.alloc (by omega) _
  have HF : Hid (∀ V, Below w.heap.size w V → V.cell? ⟨m, 0, none⟩ = some (.slice LA ln lc) ∧ V.cell? ⟨m, 2, none⟩ = some (.int .i64 (n : Int))) := Lib.hid (fun V hV => by
    obtain ⟨y0, y1, y2, y3⟩ := h.cells
    have hm : m < w.heap.size := (Array.getElem?_eq_some_iff.1 h).1
    exact ⟨(hV.cell (p := ⟨m, 0, none⟩) hm).trans y0, (hV.cell (p := ⟨m, 2, none⟩) hm).trans y2⟩)
  have HFIN : Hid (Below w.heap.size w Wb.drew ∧ Wb.drew.heap.size = w.heap.size + 2 ∧ CellsAt Wb.drew (w.heap.size + 1) (cellF ⟨LA, ln, lc, w.heap.size, n, iA, im, ic, fuel⟩ none 0 (newS n pc)) ∧ RegAt Wb.drew w.heap.size (List.replicate n 0)) := Lib.hid (by
    refine ⟨hbb.drew, by show Wb.heap.size = _; rw [← hWb]; simp [sa], ⟨newCells LA ln lc w.heap.size n pc iA im ic fuel, ?_, fun j v hj => newCells_at _ _ _ _ _ _ _ _ _ _ j v hj⟩, ?_⟩
    · show Wb.heap[w.heap.size + 1]? = _
      rw [← hWb, ← sa]
      exact heap_alloc_new Wa _
    · show Wb.heap[w.heap.size]? = _
      rw [← hWb, Lib.alloc_old _ _ _ (by omega), ← hWa]
      exact heap_alloc_new w _)
  have hmk := make_words n hn
  have HBA : Hid (Below w.heap.size w Wa.drew) := Lib.hid hba.drew
  have HBB : Hid (Below w.heap.size w Wb.drew) := Lib.hid hbb.drew
  have HWa := Lib.hid hWa
  have hWb2 := hWb
  unfold newCells at hWb2
  have HWb := Lib.hid hWb2
  clear hWb2
  have HSA := Lib.hid sa
  clear h hS hpc hba hbb sa hWa hWb
  go_enter Try.func41, Try.ntmps41
  go_wp2_with (go_at_call 13; (with_reducible refine HA.out.mono ?_); rintro e w' ⟨rfl, rfl⟩)
  go_upto_region 2 with fail
  refine wp_region_held_drew (S := fun V => Below w'.heap.size w' V) (by kernel_rfl) ((Below.refl _ _).drew) (fun _ => ?_)
  refine takeH 0 14 (v := (.pointer (some ⟨m, 0, none⟩))) rfl rfl (by kernel_rfl) (by kernel_rfl) (by kernel_rfl) (fun _ _ _ h => h) (by rfl) ?_ (by assumption) ?_
  · intro w hSw
    obtain ⟨y0, y2⟩ := HF.out w hSw
    go_simp
  try simp only [Act.put, List.setIfInBounds_toArray, List.set_cons_zero, List.set_cons_succ]
  refine takeH 1 15 (v := (.pointer (some ⟨m, 0, none⟩))) rfl rfl (by kernel_rfl) (by kernel_rfl) (by kernel_rfl) (fun _ _ _ h => h) (by rfl) ?_ (by assumption) ?_
  · intro w hSw
    obtain ⟨y0, y2⟩ := HF.out w hSw
    go_simp
  try simp only [Act.put, List.setIfInBounds_toArray, List.set_cons_zero, List.set_cons_succ]
  refine takeH 2 16 (v := (.pointer (some ⟨m, 0, none⟩))) rfl rfl (by kernel_rfl) (by kernel_rfl) (by kernel_rfl) (fun _ _ _ h => h) (by rfl) ?_ (by assumption) ?_
  · intro w hSw
    obtain ⟨y0, y2⟩ := HF.out w hSw
    go_simp
  try simp only [Act.put, List.setIfInBounds_toArray, List.set_cons_zero, List.set_cons_succ]
  refine takeH 3 17 (v := (.slice LA ln lc)) rfl rfl (by kernel_rfl) (by kernel_rfl) (by kernel_rfl) (fun _ _ _ h => h) (by rfl) ?_ (by assumption) ?_
  · intro w hSw
    obtain ⟨y0, y2⟩ := HF.out w hSw
    go_simp
  try simp only [Act.put, List.setIfInBounds_toArray, List.set_cons_zero, List.set_cons_succ]
  refine takeH 4 18 (v := (.pointer (some ⟨m, 0, none⟩))) rfl rfl (by kernel_rfl) (by kernel_rfl) (by kernel_rfl) (fun _ _ _ h => h) (by rfl) ?_ (by assumption) ?_
  · intro w hSw
    obtain ⟨y0, y2⟩ := HF.out w hSw
    go_simp
  try simp only [Act.put, List.setIfInBounds_toArray, List.set_cons_zero, List.set_cons_succ]
  refine takeH 5 19 (v := (.pointer (some ⟨m, 0, none⟩))) rfl rfl (by kernel_rfl) (by kernel_rfl) (by kernel_rfl) (fun _ _ _ h => h) (by rfl) ?_ (by assumption) ?_
  · intro w hSw
    obtain ⟨y0, y2⟩ := HF.out w hSw
    go_simp
  try simp only [Act.put, List.setIfInBounds_toArray, List.set_cons_zero, List.set_cons_succ]
  refine takeH 6 20 (v := (.pointer (some ⟨m, 2, none⟩))) rfl rfl (by kernel_rfl) (by kernel_rfl) (by kernel_rfl) (fun _ _ _ h => h) (by rfl) ?_ (by assumption) ?_
  · intro w hSw
    obtain ⟨y0, y2⟩ := HF.out w hSw
    go_simp
  try simp only [Act.put, List.setIfInBounds_toArray, List.set_cons_zero, List.set_cons_succ]
  refine takeH 7 21 (v := (.int .i64 (n : Int))) rfl rfl (by kernel_rfl) (by kernel_rfl) (by kernel_rfl) (fun _ _ _ h => h) (by rfl) ?_ (by assumption) ?_
  · intro w hSw
    obtain ⟨y0, y2⟩ := HF.out w hSw
    go_simp
  try simp only [Act.put, List.setIfInBounds_toArray, List.set_cons_zero, List.set_cons_succ]
  refine takeH 9 23 (v := (.int .i32 pc)) rfl rfl (by kernel_rfl) (by kernel_rfl) (by kernel_rfl) (fun _ _ _ h => h) (by rfl) ?_ (by assumption) ?_
  · intro w hSw
    obtain ⟨y0, y2⟩ := HF.out w hSw
    go_simp
  try simp only [Act.put, List.setIfInBounds_toArray, List.set_cons_zero, List.set_cons_succ]
  refine takeH 10 24 (v := (.slice iA im ic)) rfl rfl (by kernel_rfl) (by kernel_rfl) (by kernel_rfl) (fun _ _ _ h => h) (by rfl) ?_ (by assumption) ?_
  · intro w hSw
    obtain ⟨y0, y2⟩ := HF.out w hSw
    go_simp
  try simp only [Act.put, List.setIfInBounds_toArray, List.set_cons_zero, List.set_cons_succ]
  refine takeH 11 25 (v := (.int .i64 fuel)) rfl rfl (by kernel_rfl) (by kernel_rfl) (by kernel_rfl) (fun _ _ _ h => h) (by rfl) ?_ (by assumption) ?_
  · intro w hSw
    obtain ⟨y0, y2⟩ := HF.out w hSw
    go_simp
  try simp only [Act.put, List.setIfInBounds_toArray, List.set_cons_zero, List.set_cons_succ]
  refine wpAnyH_ready (rs := [8]) (by kernel_rfl) (by simp) ?_
  refine AllReadyH.cons rfl (fun K hK => ?_) AllReadyH.nil
  go_simp
  rw [HWa.out]
  refine hK.out _ _ HBA.out (fun _ => ?_)
  clear hK K
  try simp only [Act.put, List.setIfInBounds_toArray, List.set_cons_zero, List.set_cons_succ]
  refine takeH 12 26 (v := (.agg #[.slice LA ln lc, .int .i32 0, .int .i32 0, .int .i32 0, .int .i32 0, .int .i32 0, .int .i32 0, .int .i32 0, .int .i32 0, .int .i32 0, .int .i32 0, .int .i32 0, .int .i32 0, .int .i32 0, .int .i32 0, .int .i32 0, .int .i32 0, .int .i32 0, .int .i32 0, .int .i32 0, .int .i32 0, .int .i32 0, .int .i32 0, .int .i32 0, .int .i32 0, .int .i32 0, .int .i32 0, .int .i32 0, .int .i32 0, .int .i32 0, .int .i32 0, .int .i32 0, .int .i32 0, .slice (some ⟨w'.heap.size, 0, none⟩) n n, .int .i32 pc, .slice iA im ic, .int .i64 fuel, .int .i64 0, .int .i32 0, .slice none 0 0, .int .i64 0, .int .i64 0])) rfl rfl (by kernel_rfl) (by kernel_rfl) (by kernel_rfl) (fun _ _ _ h => h) (by rfl) ?_ HBA.out ?_
  · intro w hSw
    obtain ⟨y0, y2⟩ := HF.out w hSw
    go_simp
  try simp only [Act.put, List.setIfInBounds_toArray, List.set_cons_zero, List.set_cons_succ]
  refine wpAnyH_ready (rs := [13]) (by kernel_rfl) (by simp) ?_
  refine AllReadyH.cons rfl (fun K hK => ?_) AllReadyH.nil
  go_simp
  rw [HSA.out, HWb.out]
  refine hK.out _ _ HBB.out (fun _ => ?_)
  clear hK K
  try simp only [Act.put, List.setIfInBounds_toArray, List.set_cons_zero, List.set_cons_succ]
  refine takeH 14 6 (v := (.pointer (some ⟨w'.heap.size + 1, 0, none⟩))) rfl rfl (by kernel_rfl) (by kernel_rfl) (by kernel_rfl) (fun _ _ _ h => h) (by rfl) ?_ HBB.out ?_
  · intro w hSw
    obtain ⟨y0, y2⟩ := HF.out w hSw
    go_simp
  try simp only [Act.put, List.setIfInBounds_toArray, List.set_cons_zero, List.set_cons_succ]
  refine wpAnyH_done (by kernel_rfl) ?_ _
  go_wp2_with fail
  go_ret
  exact ⟨rfl, HFIN.out⟩
end Rv
end Go.Proofs.Ytmedhibjkbahpaa
namespace Go.Proofs.Ytmedhibjkbahpaa
open Go.RowKit
set_option linter.unusedVariables false
set_option linter.unusedSimpArgs false
set_option maxRecDepth 100000
namespace Rv
/-- So many steps. -/
def runM (ls : List Ln) (inp : List Int) (fuel : Int) : Nat → MS → MO
  | 0, s => .go s
  | n + 1, s => match stepM ls inp fuel s with
    | .go s' => runM ls inp fuel n s'
    | .fin k s' => .fin k s'
structure Res where
  fin : Int
  v : Int
  tr : List Int
  steps : Nat
  reads : Nat
def MO.res : MO → Res
  | .go s => ⟨0, s.v, s.tr, s.steps, s.reads⟩
  | .fin k s => ⟨k, s.v, s.tr, s.steps, s.reads⟩
/-- What a run comes to. -/
def runR (ls : List Ln) (inp : List Int) (fuel : Int) (s : MS) : Res := (runM ls inp fuel (fuel.toNat + 1) s).res
theorem runM_more (ls : List Ln) (inp : List Int) (fuel : Int) (b : Nat) : ∀ (a : Nat) (s : MS), runM ls inp fuel (a + b) s = match runM ls inp fuel a s with | .go s' => runM ls inp fuel b s' | .fin k s' => .fin k s'
  | 0, s => by rw [Nat.zero_add]; rfl
  | a + 1, s => by
    rw [Nat.add_right_comm]
    show (match stepM ls inp fuel s with | .go s' => runM ls inp fuel (a + b) s' | .fin k s' => .fin k s') = match (match stepM ls inp fuel s with | .go s' => runM ls inp fuel a s' | .fin k s' => .fin k s') with | .go s' => runM ls inp fuel b s' | .fin k s' => .fin k s'
    cases stepM ls inp fuel s with
    | go s' => exact runM_more ls inp fuel b a s'
    | fin k s' => rfl
/-- What a state that a run comes to is like. -/
structure Good (inp : List Int) (s : MS) : Prop where
  pc : -2147483648 ≤ s.pc ∧ s.pc ≤ 2147483647
  tr : s.tr.length ≤ s.steps
  reads : s.reads ≤ inp.length
theorem stepI_rng (op n a b pc : Int) : -2147483648 ≤ (stepI op n a b pc).2 ∧ (stepI op n a b pc).2 ≤ 2147483647 := by
  unfold stepI
  split
  · exact wrap_rng _
  · split
    · dsimp only; split <;> exact wrap_rng _
    · split
      · dsimp only; split <;> exact wrap_rng _
      · split
        · exact wrap_rng _
        · split
          · dsimp only
            rw [even_is _ (wrap_rng _).1 (wrap_rng _).2]
            have := wrap_rng (a + n)
            split
            · exact this
            · constructor <;> omega
          · split <;> exact wrap_rng _
theorem callM_good {inp : List Int} {s s' : MS} (hr : s.reads ≤ inp.length) (h : callM inp s = .go s') : s'.reads ≤ inp.length ∧ s'.steps = s.steps ∧ s'.tr.length ≤ s.tr.length + 1 := by
  unfold callM at h
  split at h
  · cases h; exact ⟨hr, rfl, by simp⟩
  · split at h
    · cases h
      unfold readM
      split
      · exact ⟨hr, rfl, by simp⟩
      · exact ⟨by dsimp only; omega, rfl, by simp⟩
    · split at h <;> cases h
theorem insM_good {inp : List Int} {l : Ln} {s s' : MS} (hr : s.reads ≤ inp.length) (h : insM inp l s = .go s') : (-2147483648 ≤ s'.pc ∧ s'.pc ≤ 2147483647) ∧ s'.reads ≤ inp.length ∧ s'.steps = s.steps ∧ s'.tr.length ≤ s.tr.length + 1 := by
  unfold insM at h
  split at h
  · split at h
    · cases h
    · cases h; exact ⟨stepI_rng _ _ _ _ _, hr, rfl, Nat.le_succ _⟩
  · split at h
    · split at h
      · cases h
      · cases h; exact ⟨stepI_rng _ _ _ _ _, hr, rfl, Nat.le_succ _⟩
    · split at h
      · split at h
        · cases h
        · next s2 hc =>
          cases h
          obtain ⟨h1, h2, h3⟩ := callM_good hr hc
          exact ⟨stepI_rng _ _ _ _ _, h1, h2, h3⟩
      · cases h; exact ⟨stepI_rng _ _ _ _ _, hr, rfl, Nat.le_succ _⟩
theorem stepM_good {ls : List Ln} {inp : List Int} {fuel : Int} {s s' : MS} (hg : Good inp s) (h : stepM ls inp fuel s = .go s') : Good inp s' ∧ s'.steps = s.steps + 1 ∧ (s.steps : Int) < fuel := by
  unfold stepM at h
  split at h
  · cases h
  · split at h
    · cases h
    · next hf =>
      split at h
      · cases h
      · next l hl =>
        obtain ⟨h1, h2, h3, h4⟩ := insM_good (s := { s with steps := s.steps + 1 }) hg.reads h
        have := hg.tr
        refine ⟨⟨h1, ?_, h2⟩, h3, by omega⟩
        rw [h3]
        have h4' : s'.tr.length ≤ s.tr.length + 1 := h4
        show s'.tr.length ≤ s.steps + 1
        omega
/-- So far a run has come. -/
def SoFar (ls : List Ln) (inp : List Int) (fuel : Int) (s0 s : MS) : Prop := runM ls inp fuel s.steps s0 = .go s ∧ s.steps ≤ fuel.toNat
theorem SoFar.next {ls : List Ln} {inp : List Int} {fuel : Int} {s0 s s' : MS} (h : SoFar ls inp fuel s0 s) (hg : Good inp s) (hs : stepM ls inp fuel s = .go s') : SoFar ls inp fuel s0 s' ∧ Good inp s' ∧ s'.steps = s.steps + 1 := by
  obtain ⟨h1, h2, h3⟩ := stepM_good hg hs
  refine ⟨⟨?_, by omega⟩, h1, h2⟩
  rw [h2, runM_more, h.1]
  show (match stepM ls inp fuel s with | .go s' => runM ls inp fuel 0 s' | .fin k s' => .fin k s') = _
  rw [hs]
  rfl
theorem SoFar.done {ls : List Ln} {inp : List Int} {fuel : Int} {s0 s s' : MS} {k : Int} (h : SoFar ls inp fuel s0 s) (hs : stepM ls inp fuel s = .fin k s') : runR ls inp fuel s0 = ⟨k, s'.v, s'.tr, s'.steps, s'.reads⟩ := by
  have h2 := h.2
  unfold runR
  rw [show fuel.toNat + 1 = s.steps + ((fuel.toNat - s.steps) + 1) from by omega, runM_more, h.1]
  show (match stepM ls inp fuel s with | .go s' => runM ls inp fuel _ s' | .fin k s' => .fin k s').res = _
  rw [hs]
  rfl
theorem stepM_all {e : Env} {w : World} {s : MS} (h : MAt e w s) (hg : Good e.inp s) (hok : ∀ l ∈ e.ls, l.Ok) (hl : e.ls.length ≤ 100000) (hn : e.q.mn ≤ 100000) (hi : e.inp.length ≤ 90000) (hs : s.steps ≤ 80000) :
    Calls Try.prog 43 #[.pointer (some ⟨e.p, 0, none⟩)] w (Out e (stepM e.ls e.inp e.q.fuel s)) := by
  unfold stepM
  have ht := hg.tr
  by_cases hc : s.pc < 0 ∨ s.pc % 4 ≠ 0 ∨ (e.ls.length : Int) ≤ s.pc / 4
  · rw [if_pos hc]
    exact step_fault h hl hg.pc hc
  · rw [if_neg hc]
    by_cases hf : e.q.fuel ≤ (s.steps : Int)
    · rw [if_pos hf]
      exact step_open h hl hg.pc hc hf
    · rw [if_neg hf]
      simp only [not_or, Int.not_lt, Int.not_le, Decidable.not_not] at hc
      obtain ⟨c1, c2, c3⟩ := hc
      have hlt : (s.pc / 4).toNat < e.ls.length := by omega
      rw [List.getElem?_eq_getElem hlt]
      exact step_go h hl hg.pc.2 (by omega) (by omega) hg.reads hi (by omega) (s.pc / 4).toNat (by omega) _ (List.getElem?_eq_getElem hlt) (hok _ (List.getElem_mem hlt)) (by omega)
/-- What a run hands back. -/
def RunOut (w : World) (R : Res) (e : Ending) (w' : World) : Prop :=
  ∃ A c, e = .returned (.agg #[.int .i64 R.fin, .int .i32 R.v, .slice A R.tr.length c, .int .i64 (R.steps : Int), .int .i64 (R.reads : Int)]) ∧ SLine 1 w' A R.tr.length c (cellsW R.tr) ∧ Below w.heap.size w w' ∧ ∀ k ∈ blk A, w.heap.size ≤ k
set_option maxHeartbeats 1600000 in
theorem run1_pan (k : Int) (older : List PanicEntry) {e : Env} {w : World} {s : MS} (hM : MAt e w s) (rr : Nat) (a0 a1 a2 a3 a4 : Value) (h1 : w.heap[rr]? = some (.cells #[a0, a1, a2, a3, a4] 57 (0, 0))) (hrr : rr < e.w0.heap.size) (tA : Option Addr) (tc : Nat) (hT : CellsAt w e.p (cellF e.q tA tc s)) :
    CallsD Try.prog 42 #[.pointer (some ⟨e.xb, 0, none⟩), .pointer (some ⟨rr, 0, none⟩)] (.panicking ({ v := .iface 85 (.int .i64 k), recovered := false } :: older)) w fun en u' w' => en = .returned (.tuple #[]) ∧ u' = .panicking ({ v := .iface 85 (.int .i64 k), recovered := true } :: older) ∧ Chg [e.p, rr] w w' ∧ w'.heap[rr]? = some (.cells #[.int .i64 k, .int .i32 s.v, .slice tA s.tr.length tc, .int .i64 (s.steps : Int), .int .i64 (s.reads : Int)] 57 (0, 0)) := by
  refine callsD_of_wpS Try.func42 rfl fun c₀ cs hu => ?_
  apply wpS_seq
  apply wpS_region
  simp [wpOpsS, go_sem, recoverD, hu, Try.ntmps42, Exit.thenS]
  refine wpS_of_wp ?_
  have hta : ∀ W : World, (Instr.typeAssert (.iface 85 (.int .i64 k)) 20 85 true).run Try.prog W = .ok (.tuple #[.int .i64 k, .bool true]) W := fun W => by kernel_rfl
  have hrep : (#[Value.pointer (some ⟨e.xb, 0, none⟩), .pointer (some ⟨rr, 0, none⟩)] ++ (Array.replicate 16 undef).setIfInBounds 2 (.iface 85 (.int .i64 k)) : Array Value) = #[.pointer (some ⟨e.xb, 0, none⟩), .pointer (some ⟨rr, 0, none⟩), undef, undef, .iface 85 (.int .i64 k), undef, undef, undef, undef, undef, undef, undef, undef, undef, undef, undef, undef, undef] := by rfl
  try rw [hrep]
  clear hrep
  have G1 := Lib.hid h1
  have HU := Lib.hid hu
  have x0 := cell_of_one hM.xb
  have hpge := hM.pge
  have hap := hM.apart
  obtain ⟨W1, hW1⟩ : ∃ W1, w.setCell ⟨e.p, 37, none⟩ (.int .i64 k) = W1 := ⟨_, rfl⟩
  have hT1 : CellsAt W1 e.p (fun j => if j = 37 then some (.int .i64 k) else cellF e.q tA tc s j) := by rw [← hW1]; exact hT.set 37 _ rfl _ (fun i u hu => by
    by_cases e9 : i = 37
    · rw [if_pos e9]; simp [e9] at hu; exact hu.symm
    · rw [if_neg e9] at hu ⊢; exact hu)
  have g0 : W1.heap[e.xb]? = some (.cells #[.pointer (some ⟨e.p, 0, none⟩)] 83 (0, 0)) := by rw [← hW1]; exact (setCell_off w e.p 37 _ e.xb (by omega)).trans hM.xb
  have g1 : W1.heap[rr]? = some (.cells #[a0, a1, a2, a3, a4] 57 (0, 0)) := by rw [← hW1]; exact (setCell_off w e.p 37 _ rr (by omega)).trans h1
  have y5 : w.cell? ⟨e.p, 37, none⟩ = some (.int .i64 0) := hT.cell 37 _ rfl
  have f5 : w.frozen? ⟨e.p, 37, none⟩ = false := hT.free 37
  have x1 := cell_of_one g0
  have z5 := hT1.cell 37 (.int .i64 k) rfl
  have z6 := hT1.cell 38 (.int .i32 s.v) rfl
  have z7 := hT1.cell 39 (.slice tA s.tr.length tc) rfl
  have z8 := hT1.cell 40 (.int .i64 (s.steps : Int)) rfl
  have z9 := hT1.cell 41 (.int .i64 (s.reads : Int)) rfl
  have s0 : W1.cell? ⟨rr, 0, none⟩ = some a0 := by rw [cell_of_row _ rr 0 _ _ (0, 0) g1]; rfl
  have s1 : W1.cell? ⟨rr, 1, none⟩ = some a1 := by rw [cell_of_row _ rr 1 _ _ (0, 0) g1]; rfl
  have s2 : W1.cell? ⟨rr, 2, none⟩ = some a2 := by rw [cell_of_row _ rr 2 _ _ (0, 0) g1]; rfl
  have s3 : W1.cell? ⟨rr, 3, none⟩ = some a3 := by rw [cell_of_row _ rr 3 _ _ (0, 0) g1]; rfl
  have s4 : W1.cell? ⟨rr, 4, none⟩ = some a4 := by rw [cell_of_row _ rr 4 _ _ (0, 0) g1]; rfl
  have t0 := frozen_of_row _ rr 0 _ _ g1
  have t1 := frozen_of_row _ rr 1 _ _ g1
  have t2 := frozen_of_row _ rr 2 _ _ g1
  have t3 := frozen_of_row _ rr 3 _ _ g1
  have t4 := frozen_of_row _ rr 4 _ _ g1
  have G2 := Lib.hid g1
  have HC1 : Hid (Chg [e.p, rr] w W1) := Lib.hid (by rw [← hW1]; exact (Chg.refl _ w).setCell e.p 37 _ (.inl (by simp)))
  clear h1 hT hT1 g0 g1 hu hM hpge hap
  generalize s.v = sv at *
  generalize s.tr.length = sl at *
  generalize (s.steps : Int) = ss at *
  generalize (s.reads : Int) = sr at *
  go_wp2_with fail
  obtain ⟨w2, hw2⟩ : ∃ w2, (((((W1.setCell ⟨rr, 0, none⟩ (.int .i64 k)).setCell ⟨rr, 1, none⟩ (.int .i32 sv)).setCell ⟨rr, 2, none⟩ (.slice tA sl tc)).setCell ⟨rr, 3, none⟩ (.int .i64 ss)).setCell ⟨rr, 4, none⟩ (.int .i64 sr)) = w2 := ⟨_, rfl⟩
  rw [hw2]
  have q0 : w2.heap[rr]? = some (.cells #[.int .i64 k, .int .i32 sv, .slice tA sl tc, .int .i64 ss, .int .i64 sr] 57 (0, 0)) := by rw [← hw2]; simp [World.setCell, Array.getElem?_modify, G2.out]
  have hc : Chg [e.p, rr] w w2 := by
    rw [← hw2]
    exact (((((HC1.out.setCell rr 0 _ (.inl (by simp))).setCell rr 1 _ (.inl (by simp))).setCell rr 2 _ (.inl (by simp))).setCell rr 3 _ (.inl (by simp))).setCell rr 4 _ (.inl (by simp)))
  clear hw2
  have hu := HU.out
  clear G1 G2 HC1 HU x0 x1 y5 f5 z5 z6 z7 z8 z9 s0 s1 s2 s3 s4 t0 t1 t2 t3 t4 hW1 hta
  cases c₀
  simp_all [bodyPostS, results, Try.results42]
end Rv
end Go.Proofs.Ytmedhibjkbahpaa
namespace Go.Proofs.Ytmedhibjkbahpaa
open Go.RowKit
set_option linter.unusedVariables false
set_option linter.unusedSimpArgs false
set_option maxRecDepth 100000
namespace Rv
set_option maxHeartbeats 6400000 in
theorem run_any (w : World) (m : Nat) (LA : Option Addr) (ln lc M k n : Nat) (f : ByteArray → Option Int) (hI : ImAt w m LA ln lc M (n : Int)) (hS : SymAt w M k f) (hn : n ≤ 100000)
    (ls : List Ln) (hL : LnsAt w LA ln ls) (hok : ∀ l ∈ ls, l.Ok) (hll : ls.length ≤ 100000) (hpc : -2147483648 ≤ (f ⟨#[46, 115, 116, 97, 114, 116]⟩).getD 0 ∧ (f ⟨#[46, 115, 116, 97, 114, 116]⟩).getD 0 ≤ 2147483647)
    (iA : Option Addr) (im ic : Nat) (inp : List Int) (hR : RowK .i32 w iA im inp) (hin : im ≤ 90000) (fuel : Int) (hfu : fuel ≤ 80000) :
    Calls Try.prog 19 #[.pointer (some ⟨m, 0, none⟩), .slice iA im ic, .int .i64 fuel] w (RunOut w (runR ls inp fuel (newS n ((f ⟨#[46, 115, 116, 97, 114, 116]⟩).getD 0)))) := by
  have hmf : ∀ (fn : Go.Fn) (first cap : Array Value) (w : World), (Instr.makeFunc fn first cap).run Try.prog w = .ok (.func fn first cap) w := fun _ _ _ _ => rfl
  obtain ⟨pc0, hpc0⟩ : ∃ pc0, (f ⟨#[46, 115, 116, 97, 114, 116]⟩).getD 0 = pc0 := ⟨_, rfl⟩
  obtain ⟨W1, hW1⟩ : ∃ W1, w.alloc (.cells #[.int .i64 0, .int .i32 0, .slice none 0 0, .int .i64 0, .int .i64 0] 57) = W1 := ⟨_, rfl⟩
  have hs1 : W1.heap.size = w.heap.size + 1 := by rw [← hW1]; simp
  have hB1 : Below w.heap.size w W1 := by rw [← hW1]; exact (Below.refl _ _).alloc (Nat.le_refl _) _
  have hr1 : W1.heap[w.heap.size]? = some (.cells #[.int .i64 0, .int .i32 0, .slice none 0 0, .int .i64 0, .int .i64 0] 57 (0, 0)) := by rw [← hW1]; exact heap_alloc_new w _
  have hm : m < w.heap.size := (Array.getElem?_eq_some_iff.1 hI).1
  have hI1 : ImAt W1 m LA ln lc M (n : Int) := (hB1.block m hm).trans hI
  have HST := Lib.hid (started_any W1 m LA ln lc M k n f hI1 (hS.same (hB1.block M hS.lt)) iA im ic fuel hn)
  have HL1 := Lib.hid (hL.below hB1)
  have HR1 := Lib.hid (hR.below hB1)
  have HB1 := Lib.hid hB1
  have HRB := Lib.hid hr1
  have HS1 := Lib.hid hs1
  have HOK := Lib.hid (And.intro hok hll)
  have HPC := Lib.hid hpc
  rw [hpc0] at HST HPC ⊢
  have him : inp.length = im := hR.1
  have HIM := Lib.hid him
  clear hI hS hL hR hB1 hr1 hs1 hI1 hok hll hpc hpc0 him hm
  go_enter_defers Try.func19, Try.ntmps19
  go_wp2_with fail
  refine HST.out.mono ?_
  rintro e w2 ⟨rfl, hb2, hs2, hc2, hm2⟩
  obtain ⟨p, hp⟩ : ∃ p, W1.heap.size + 1 = p := ⟨_, rfl⟩
  obtain ⟨W3, hW3⟩ : ∃ W3, w2.alloc (.cells #[.pointer (some ⟨p, 0, none⟩)] 83) = W3 := ⟨_, rfl⟩
  obtain ⟨xb, hxb⟩ : ∃ xb, w2.heap.size = xb := ⟨_, rfl⟩
  obtain ⟨E, hE⟩ : ∃ E, (⟨W1, p, xb, ⟨LA, ln, lc, W1.heap.size, n, iA, im, ic, fuel⟩, ls, inp⟩ : Env) = E := ⟨_, rfl⟩
  have hB3 : Below w2.heap.size w2 W3 := by rw [← hW3]; exact (Below.refl _ _).alloc (Nat.le_refl _) _
  have h3 : MAt E W3 (newS n pc0) := by
    rw [← hE]
    refine ⟨hb2.trans (hB3.mono hb2.size), ⟨by dsimp only; omega, by dsimp only; omega, by dsimp only; omega⟩, ⟨by dsimp only; omega, by dsimp only; omega, by dsimp only; omega⟩, ?_, ?_, by simp [newS], by simp [newS], HL1.out, HR1.out, none, 0, ?_, SLine.nil 1 _, fun k hk => (by cases hk)⟩
    · dsimp only; rw [← hW3, ← hxb]; exact heap_alloc_new w2 _
    · exact hm2.same (hB3.block _ (by omega))
    · dsimp only; rw [hp] at hc2; exact hc2.same (hB3.block _ (by omega))
  have HM3 := Lib.hid h3
  have HP := Lib.hid (And.intro hp (And.intro hxb hs2))
  have HE := Lib.hid hE
  clear hb2 hs2 hc2 hm2 hB3 h3 hE HST HL1 HR1
  rw [hp]
  clear hp
  go_wp2_with fail
  clear hxb hW3
  go_loopg [16, 17] (fuel.toNat + 1) (fun kx v v2 wr => Hid (∃ s, MAt E wr s ∧ Good inp s ∧ SoFar ls inp fuel (newS n pc0) s ∧ fuel.toNat - s.steps + 1 ≤ kx))
  case atStart =>
    exact Lib.hid ⟨_, HM3.out, ⟨HPC.out, by simp [newS], by simp [newS]⟩, ⟨rfl, Nat.zero_le _⟩, by omega⟩
  case round =>
    clear HM3
    have hr := hrel.out
    clear hrel
    obtain ⟨s, hM, hG, hS, hkx⟩ := hr
    have hEp : E.p = p := by rw [← HE.out]
    have hEl : E.ls = ls := by rw [← HE.out]
    have hEi : E.inp = inp := by rw [← HE.out]
    have hEf : E.q.fuel = fuel := by rw [← HE.out]
    have hEx : E.xb = xb := by rw [← HE.out]
    have hEn : E.q.mn = n := by rw [← HE.out]
    have hst := stepM_all hM (by rw [hEi]; exact hG) (by rw [hEl]; exact HOK.out.1) (by rw [hEl]; exact HOK.out.2) (by rw [hEn]; exact hn) (by rw [hEi, HIM.out]; exact hin) (by have := hS.2; omega)
    have hx := hM.xb
    rw [hEx, hEp] at hx
    rw [hEp, hEl, hEi, hEf] at hst
    have hx0 : wr.cell? ⟨xb, 0, none⟩ = some (.pointer (some ⟨p, 0, none⟩)) := cell_of_one hx
    cases hs : stepM ls inp fuel s with
    | go s' =>
      rw [hs] at hst
      obtain ⟨n1, n2, n3⟩ := hS.next hG hs
      have HST := Lib.hid hst
      have HN := Lib.hid (And.intro n1 (And.intro n2 n3))
      have hlt : fuel.toNat - s'.steps + 1 < gk := by
        have := n1.2
        omega
      obtain ⟨kk, hkk⟩ : ∃ kk, fuel.toNat - s'.steps + 1 = kk := ⟨_, rfl⟩
      have HKK := Lib.hid hkk
      rw [hkk] at hlt
      clear hst n1 n2 n3 hEp hEl hEi hEf hEx hEn hM hG hS hx hs hkk hkx
      go_wp2_with fail
      refine HST.out.mono ?_
      rintro e w5 ⟨rfl, hM'⟩
      have HM' := Lib.hid hM'
      clear hM'
      go_wp2_with fail
      go_roundg kk
      case measure => exact hlt
      case rel => exact Lib.hid ⟨s', HM'.out, HN.out.2.1, HN.out.1, by rw [HKK.out]; exact Nat.le_refl _⟩
    | fin kf s' =>
      rw [hs] at hst
      have hres := hS.done hs
      have HST := Lib.hid hst
      have HR : Hid (runR ls inp fuel (newS n pc0) = ⟨kf, s'.v, s'.tr, s'.steps, s'.reads⟩) := Lib.hid hres
      have HP2 : Hid (E.p = p ∧ E.xb = xb ∧ E.w0 = W1) := Lib.hid ⟨hEp, hEx, by rw [← HE.out]⟩
      clear hst hres hEp hEl hEi hEf hEx hEn hM hG hS hx hs hkx
      go_wp2_with fail
      refine HST.out.mono ?_
      rintro e w5 ⟨he, hT⟩
      unfold Ends at he
      subst he
      obtain ⟨tA, tc, hcl, hsl, hbl⟩ := hT.box
      have hz := HS1.out
      have j1 : w5.heap[w.heap.size]? = some (.cells #[.int .i64 0, .int .i32 0, .slice none 0 0, .int .i64 0, .int .i64 0] 57 (0, 0)) := by
        have hb := hT.below
        rw [HP2.out.2.2] at hb
        exact (hb.block _ (by omega)).trans HRB.out
      have HJ := Lib.hid (run1_pan kf [] hT w.heap.size _ _ _ _ _ j1 (by rw [HP2.out.2.2]; omega) tA tc hcl)
      rw [HP2.out.1, HP2.out.2.1] at HJ
      have HT : Hid (Below W1.heap.size W1 w5 ∧ SLine 1 w5 tA s'.tr.length tc (cellsW s'.tr) ∧ (∀ k ∈ blk tA, W1.heap.size ≤ k ∧ k ≠ p) ∧ W1.heap.size ≤ p) := Lib.hid (by
        have hb := hT.below
        have hpg := hT.pge.1
        rw [HP2.out.2.2] at hb hpg hbl
        rw [HP2.out.1] at hpg hbl
        exact ⟨hb, hsl, fun k hk => ⟨(hbl k hk).1, (hbl k hk).2.1⟩, hpg⟩)
      clear hcl hsl hbl hT j1 hz HST
      go_wp2_with fail
      refine leaves_cons (f := 42) (args := #[.pointer (some ⟨xb, 0, none⟩), .pointer (some ⟨w.heap.size, 0, none⟩)]) (by simp) (by simp [go_sem]) ?_
      refine HJ.out.mono ?_
      rintro e u' w3 ⟨rfl, rfl, hc3, q0⟩
      have p0 := (cell_of_row _ (w.heap.size) 0 _ _ (0, 0) q0).trans (show _ = some (Value.int .i64 kf) from rfl)
      have p1 := (cell_of_row _ (w.heap.size) 1 _ _ (0, 0) q0).trans (show _ = some (Value.int .i32 s'.v) from rfl)
      have p2 := (cell_of_row _ (w.heap.size) 2 _ _ (0, 0) q0).trans (show _ = some (Value.slice tA s'.tr.length tc) from rfl)
      have p3 := (cell_of_row _ (w.heap.size) 3 _ _ (0, 0) q0).trans (show _ = some (Value.int .i64 (s'.steps : Int)) from rfl)
      have p4 := (cell_of_row _ (w.heap.size) 4 _ _ (0, 0) q0).trans (show _ = some (Value.int .i64 (s'.reads : Int)) from rfl)
      have HOUT : Hid (RunOut w (runR ls inp fuel (newS n pc0)) (.returned (.agg #[.int .i64 kf, .int .i32 s'.v, .slice tA s'.tr.length tc, .int .i64 (s'.steps : Int), .int .i64 (s'.reads : Int)])) w3) := Lib.hid (by
        obtain ⟨tB, tl, tge, tp⟩ := HT.out
        rw [HR.out]
        have hz := HB1.out.size
        have hz2 := HS1.out
        refine ⟨tA, tc, rfl, ?_, ?_, fun b hb => by have := tge b hb; omega⟩
        · exact tl.chg hc3 (fun b hb => by have := tge b hb; simp only [List.mem_cons, List.not_mem_nil, or_false]; omega)
        · have tB2 := tB.size
          exact (HB1.out.trans (tB.mono hz)).trans (hc3.toBelow (fun b hb => by simp only [List.mem_cons, List.not_mem_nil, or_false] at hb; omega) (by omega)))
      clear q0 hc3 HJ HT HR
      simp [Leaves, settle, results, Try.results19, go_sem, p0, p1, p2, p3, p4]
      exact HOUT.out
end Rv
end Go.Proofs.Ytmedhibjkbahpaa
