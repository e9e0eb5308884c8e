/-
  A program as blocks that came in: how its globals, functions, blocks and instructions lie in memory, out of their reading.
-/
import Derived.Test.YtcanjkjpdnbcnaaZai
import Derived.ProofKit
import Derived.OpenShut
import Derived.ShutString
import Derived.SliceStrings
import Derived.Deep.Slices
import Derived.ChangeOld
import Derived.Below
import Derived.Carry
import Derived.Stop.Joined
import Derived.ChangeSame
namespace Go.Proofs.Ytcanjkjpdnbcnaa
open Go.ChangeShapes Go.WideShapes Go.ChangeAt Go.RowKit Go.Deep
set_option linter.unusedVariables false
set_option linter.unusedSimpArgs false
set_option maxRecDepth 100000

/-- A slice of ints, out of its reading. -/
theorem ints_in {H : Type} {enc : TypeId × Value → H} {w : World} {base : Nat} {held : Bool} {fuel : Nat} {c : Value} {x : DataW H × List MemPlace} (h : DataW.trod enc Try.prog w base (fun _ => true) held fuel 42 [c] = some x) : ∃ a l cap zs, c = Value.slice a l cap ∧ IsRow .i64 w a l cap zs := by
  rcases open_ints Try.underlying42 Try.underlying3 (by kernel_rfl) h with ⟨hcs, _⟩ | ⟨x, l, cc, zs, hcs, _, hl, hm, hz, _, hcell, hwz⟩
  · simp at hcs
    exact ⟨none, 0, 0, [], hcs, .inl ⟨rfl, rfl, rfl, rfl⟩⟩
  · simp at hcs
    exact ⟨some x, l, cc, zs, hcs, .inr ⟨_, rfl, hl, hm, by simpa using hz, hcell, hwz⟩⟩
theorem midrow_below {k : IntKind} {w w' : World} {A : Option Addr} {n c : Nat} {zs : List Int} (h : IsRow k w A n c zs) (hB : Below w.heap.size w w') : IsRow k w' A n c zs := by
  rcases h with h | ⟨x, e, h1, h2, h3, h4, h5⟩
  · exact .inl h
  · exact .inr ⟨x, e, h1, h2, h3, fun j hj => (hB.cell (p := x.add j) (block_lt_of_cell (h4 j hj))).trans (h4 j hj), h5⟩
theorem cellsMs : Try.prog.cellsOf 9 = 1 := by kernel_rfl
theorem cellsMi : Try.prog.cellsOf 3 = 1 := by kernel_rfl
theorem cellsMn : Try.prog.cellsOf 21 = 1 := by kernel_rfl
theorem cellsMa : Try.prog.cellsOf 42 = 1 := by kernel_rfl
theorem cellsM0 : Try.prog.cellsOf 39 = 1 := by kernel_rfl
theorem cellsM1 : Try.prog.cellsOf 45 = 1 := by kernel_rfl
/-- A global that came in. -/
structure MGl where
  name : ByteArray
  size : Int
instance : Inhabited MGl := ⟨⟨⟨#[]⟩, 0⟩⟩
def MGl.cells (o : MGl) : List Value := [.string o.name, .int .i64 o.size]
structure MGl.In (w : World) (o : MGl) : Prop where
  name : o.name.size ≤ maxLen
  size : -9223372036854775808 ≤ o.size ∧ o.size ≤ 9223372036854775807
theorem MGl.In.below {w w' : World} {o : MGl} (h : o.In w) (hB : Below w.heap.size w w') : o.In w' := ⟨h.name, h.size⟩
/-- A slice of them. -/
def MGls (w : World) (A : Option Addr) (n : Nat) (os : List MGl) : Prop :=
  os.length = n ∧ (∀ o ∈ os, o.In w) ∧ (0 < n → ∃ g off, A = some ⟨g, off, none⟩ ∧ g < w.heap.size ∧ ∀ i o, os[i]? = some o → ∀ j v, o.cells[j]? = some v → w.cell? ⟨g, off + i * 2 + j, none⟩ = some v)
theorem MGls.below {w w' : World} {A : Option Addr} {n : Nat} {os : List MGl} (h : MGls w A n os) (hB : Below w.heap.size w w') : MGls w' A n os := by
  refine ⟨h.1, fun o ho => (h.2.1 o ho).below hB, fun hn => ?_⟩
  obtain ⟨g, off, e, hg, hc⟩ := h.2.2 hn
  exact ⟨g, off, e, Nat.lt_of_lt_of_le hg hB.size, fun i o ho j v hv => (hB.cell (p := ⟨g, off + i * 2 + j, none⟩) hg).trans (hc i o ho j v hv)⟩
theorem cellsMGl : Try.prog.cellsOf 63 = 2 := by kernel_rfl
/-- They, out of their reading. -/
theorem MGls.of {H : Type} {enc : TypeId × Value → H} {w : World} {base : Nat} {held : Bool} {fuel : Nat} {c : Value} {x : DataW H × List MemPlace} (h : DataW.trod enc Try.prog w base (fun _ => true) held fuel 22 [c] = some x) :
    ∃ A len cap os, c = Value.slice A len cap ∧ MGls w A len os ∧ len ≤ cap ∧ cap ≤ maxLen := by
  rcases open_slice Try.underlying22 h with ⟨hcs, _⟩ | ⟨a, len, cap, m, n, D, Pl, hcs, hb, hl, hm, hmm, hx, hi⟩
  · cases hcs
    exact ⟨none, 0, 0, [], rfl, ⟨rfl, (fun o ho => by cases ho), fun h0 => absurd h0 (Nat.lt_irrefl 0)⟩, by omega, by unfold maxLen; omega⟩
  · cases hcs
    have hlm : len ≤ m := by rw [hmm]; split <;> omega
    have hone : ∀ i, i < len → ∃ o : MGl, o.In w ∧ ∀ j v, o.cells[j]? = some v → w.cell? ((a.add (i * 2)).add j) = some v := by
      intro i hil
      obtain ⟨cs, hc, ht⟩ := hi i (by omega)
      rw [cellsMGl] at hc
      obtain ⟨_, hlen, hat⟩ := World.cells?_some hc
      obtain ⟨ys, n', _, _, _, hyl, hf⟩ := DataW.trod_struct Try.underlying63 ht
      match cs, hlen with
      | [c0, c1], _ =>
        have f0 := hf 0 _ rfl
        have f1 := hf 1 _ rfl
        simp only [List.getElem_toArray, List.getElem_cons_zero, List.getElem_cons_succ, cellsMs, cellsMi, cellsMn, cellsMa, cellsM0, cellsM1, List.drop_zero, List.drop_succ_cons, List.take_succ_cons, List.take_zero] at f0 f1
        have gg : ∀ j, j < 2 → ∃ y, ys[j]? = some y := fun j hj => ⟨_, List.getElem?_eq_getElem (by rw [hyl]; exact hj)⟩
        obtain ⟨y0, g0⟩ := gg 0 (by omega)
        obtain ⟨y1, g1⟩ := gg 1 (by omega)
        obtain ⟨u0, e0, _, k0⟩ := DataW.trod_string Try.underlying9 (f0.trans g0)
        obtain ⟨u1, e1, _, k1⟩ := DataW.trod_int Try.underlying3 (f1.trans g1)
        cases e0
        cases e1
        refine ⟨⟨u0, u1⟩, ⟨k0, bounds_i64 k1⟩, fun j v hv => ?_⟩
        unfold MGl.cells at hv
        have hj := (List.getElem?_eq_some_iff.1 hv).1
        simp only [List.length_cons, List.length_nil] at hj
        have := hat j hj
        rw [this, ← hv]
    have hsp : 0 < len → a.spot = none := fun h0 => by
      obtain ⟨o, _, h1⟩ := hone 0 h0
      have h2 := h1 0 _ rfl
      exact World.cell?_spot (by simpa [Addr.add] using h2)
    obtain ⟨f, hf⟩ := choose_lt (α := MGl) hone
    refine ⟨some a, len, cap, (List.range len).map f, rfl, ⟨by simp, fun o ho => ?_, fun h0 => ?_⟩, by omega, hm⟩
    · obtain ⟨i, hi', rfl⟩ := List.mem_map.1 ho
      exact (hf i (List.mem_range.1 hi')).1
    · obtain ⟨b, off, sp⟩ := a
      obtain rfl : sp = none := hsp h0
      have hadd : ∀ o i, (⟨b, o, none⟩ : Addr).add i = ⟨b, o + i, none⟩ := fun o i => by unfold Addr.add; split <;> simp_all
      have hc0 := (hf 0 h0).2 0 _ rfl
      rw [hadd, hadd] at hc0
      refine ⟨b, off, rfl, World.block_lt_of_cell? w _ hc0, fun i o ho j v hv => ?_⟩
      have hil : i < len := by have := (List.getElem?_eq_some_iff.1 ho).1; simpa using this
      have e : f i = o := by
        rw [List.getElem?_map, List.getElem?_range hil] at ho
        simpa using ho
      have h2 := (hf i hil).2 j v (by rw [e]; exact hv)
      rw [hadd, hadd] at h2
      exact h2
/-- An instruction that came in, and where its arguments lie. -/
structure MIn where
  kind : Int
  op : Int
  d : Int
  a : Int
  b : Int
  num : Int
  name : ByteArray
  argsA : Option Addr
  argsn : Nat
  argsc : Nat
  args : List Int
instance : Inhabited MIn := ⟨⟨0, 0, 0, 0, 0, 0, ⟨#[]⟩, none, 0, 0, []⟩⟩
def MIn.cells (o : MIn) : List Value := [.int .i64 o.kind, .int .i64 o.op, .int .i64 o.d, .int .i64 o.a, .int .i64 o.b, .int .i32 o.num, .string o.name, .slice o.argsA o.argsn o.argsc]
structure MIn.In (w : World) (o : MIn) : Prop where
  kind : -9223372036854775808 ≤ o.kind ∧ o.kind ≤ 9223372036854775807
  op : -9223372036854775808 ≤ o.op ∧ o.op ≤ 9223372036854775807
  d : -9223372036854775808 ≤ o.d ∧ o.d ≤ 9223372036854775807
  a : -9223372036854775808 ≤ o.a ∧ o.a ≤ 9223372036854775807
  b : -9223372036854775808 ≤ o.b ∧ o.b ≤ 9223372036854775807
  num : -2147483648 ≤ o.num ∧ o.num ≤ 2147483647
  name : o.name.size ≤ maxLen
  args : IsRow .i64 w o.argsA o.argsn o.argsc o.args
theorem MIn.In.below {w w' : World} {o : MIn} (h : o.In w) (hB : Below w.heap.size w w') : o.In w' := ⟨h.kind, h.op, h.d, h.a, h.b, h.num, h.name, midrow_below h.args hB⟩
/-- A slice of them. -/
def MIns (w : World) (A : Option Addr) (n : Nat) (os : List MIn) : Prop :=
  os.length = n ∧ (∀ o ∈ os, o.In w) ∧ (0 < n → ∃ g off, A = some ⟨g, off, none⟩ ∧ g < w.heap.size ∧ ∀ i o, os[i]? = some o → ∀ j v, o.cells[j]? = some v → w.cell? ⟨g, off + i * 8 + j, none⟩ = some v)
theorem MIns.below {w w' : World} {A : Option Addr} {n : Nat} {os : List MIn} (h : MIns w A n os) (hB : Below w.heap.size w w') : MIns w' A n os := by
  refine ⟨h.1, fun o ho => (h.2.1 o ho).below hB, fun hn => ?_⟩
  obtain ⟨g, off, e, hg, hc⟩ := h.2.2 hn
  exact ⟨g, off, e, Nat.lt_of_lt_of_le hg hB.size, fun i o ho j v hv => (hB.cell (p := ⟨g, off + i * 8 + j, none⟩) hg).trans (hc i o ho j v hv)⟩
theorem cellsMIn : Try.prog.cellsOf 44 = 8 := by kernel_rfl
/-- They, out of their reading. -/
theorem MIns.of {H : Type} {enc : TypeId × Value → H} {w : World} {base : Nat} {held : Bool} {fuel : Nat} {c : Value} {x : DataW H × List MemPlace} (h : DataW.trod enc Try.prog w base (fun _ => true) held fuel 39 [c] = some x) :
    ∃ A len cap os, c = Value.slice A len cap ∧ MIns w A len os ∧ len ≤ cap ∧ cap ≤ maxLen := by
  rcases open_slice Try.underlying39 h with ⟨hcs, _⟩ | ⟨a, len, cap, m, n, D, Pl, hcs, hb, hl, hm, hmm, hx, hi⟩
  · cases hcs
    exact ⟨none, 0, 0, [], rfl, ⟨rfl, (fun o ho => by cases ho), fun h0 => absurd h0 (Nat.lt_irrefl 0)⟩, by omega, by unfold maxLen; omega⟩
  · cases hcs
    have hlm : len ≤ m := by rw [hmm]; split <;> omega
    have hone : ∀ i, i < len → ∃ o : MIn, o.In w ∧ ∀ j v, o.cells[j]? = some v → w.cell? ((a.add (i * 8)).add j) = some v := by
      intro i hil
      obtain ⟨cs, hc, ht⟩ := hi i (by omega)
      rw [cellsMIn] at hc
      obtain ⟨_, hlen, hat⟩ := World.cells?_some hc
      obtain ⟨ys, n', _, _, _, hyl, hf⟩ := DataW.trod_struct Try.underlying44 ht
      match cs, hlen with
      | [c0, c1, c2, c3, c4, c5, c6, c7], _ =>
        have f0 := hf 0 _ rfl
        have f1 := hf 1 _ rfl
        have f2 := hf 2 _ rfl
        have f3 := hf 3 _ rfl
        have f4 := hf 4 _ rfl
        have f5 := hf 5 _ rfl
        have f6 := hf 6 _ rfl
        have f7 := hf 7 _ rfl
        simp only [List.getElem_toArray, List.getElem_cons_zero, List.getElem_cons_succ, cellsMs, cellsMi, cellsMn, cellsMa, cellsM0, cellsM1, List.drop_zero, List.drop_succ_cons, List.take_succ_cons, List.take_zero] at f0 f1 f2 f3 f4 f5 f6 f7
        have gg : ∀ j, j < 8 → ∃ y, ys[j]? = some y := fun j hj => ⟨_, List.getElem?_eq_getElem (by rw [hyl]; exact hj)⟩
        obtain ⟨y0, g0⟩ := gg 0 (by omega)
        obtain ⟨y1, g1⟩ := gg 1 (by omega)
        obtain ⟨y2, g2⟩ := gg 2 (by omega)
        obtain ⟨y3, g3⟩ := gg 3 (by omega)
        obtain ⟨y4, g4⟩ := gg 4 (by omega)
        obtain ⟨y5, g5⟩ := gg 5 (by omega)
        obtain ⟨y6, g6⟩ := gg 6 (by omega)
        obtain ⟨y7, g7⟩ := gg 7 (by omega)
        obtain ⟨u0, e0, _, k0⟩ := DataW.trod_int Try.underlying3 (f0.trans g0)
        obtain ⟨u1, e1, _, k1⟩ := DataW.trod_int Try.underlying3 (f1.trans g1)
        obtain ⟨u2, e2, _, k2⟩ := DataW.trod_int Try.underlying3 (f2.trans g2)
        obtain ⟨u3, e3, _, k3⟩ := DataW.trod_int Try.underlying3 (f3.trans g3)
        obtain ⟨u4, e4, _, k4⟩ := DataW.trod_int Try.underlying3 (f4.trans g4)
        obtain ⟨u5, e5, _, k5⟩ := DataW.trod_int Try.underlying21 (f5.trans g5)
        obtain ⟨u6, e6, _, k6⟩ := DataW.trod_string Try.underlying9 (f6.trans g6)
        obtain ⟨A7, n7, m7, u7, e7, k7⟩ := ints_in (f7.trans g7)
        cases e0
        cases e1
        cases e2
        cases e3
        cases e4
        cases e5
        cases e6
        cases e7
        refine ⟨⟨u0, u1, u2, u3, u4, u5, u6, A7, n7, m7, u7⟩, ⟨bounds_i64 k0, bounds_i64 k1, bounds_i64 k2, bounds_i64 k3, bounds_i64 k4, bounds_i32 k5, k6, k7⟩, fun j v hv => ?_⟩
        unfold MIn.cells at hv
        have hj := (List.getElem?_eq_some_iff.1 hv).1
        simp only [List.length_cons, List.length_nil] at hj
        have := hat j hj
        rw [this, ← hv]
    have hsp : 0 < len → a.spot = none := fun h0 => by
      obtain ⟨o, _, h1⟩ := hone 0 h0
      have h2 := h1 0 _ rfl
      exact World.cell?_spot (by simpa [Addr.add] using h2)
    obtain ⟨f, hf⟩ := choose_lt (α := MIn) hone
    refine ⟨some a, len, cap, (List.range len).map f, rfl, ⟨by simp, fun o ho => ?_, fun h0 => ?_⟩, by omega, hm⟩
    · obtain ⟨i, hi', rfl⟩ := List.mem_map.1 ho
      exact (hf i (List.mem_range.1 hi')).1
    · obtain ⟨b, off, sp⟩ := a
      obtain rfl : sp = none := hsp h0
      have hadd : ∀ o i, (⟨b, o, none⟩ : Addr).add i = ⟨b, o + i, none⟩ := fun o i => by unfold Addr.add; split <;> simp_all
      have hc0 := (hf 0 h0).2 0 _ rfl
      rw [hadd, hadd] at hc0
      refine ⟨b, off, rfl, World.block_lt_of_cell? w _ hc0, fun i o ho j v hv => ?_⟩
      have hil : i < len := by have := (List.getElem?_eq_some_iff.1 ho).1; simpa using this
      have e : f i = o := by
        rw [List.getElem?_map, List.getElem?_range hil] at ho
        simpa using ho
      have h2 := (hf i hil).2 j v (by rw [e]; exact hv)
      rw [hadd, hadd] at h2
      exact h2
/-- A block that came in, and where its instructions lie. -/
structure MBl where
  insA : Option Addr
  insn : Nat
  insc : Nat
  ins : List MIn
  kind : Int
  a : Int
  go : Int
  els : Int
instance : Inhabited MBl := ⟨⟨none, 0, 0, [], 0, 0, 0, 0⟩⟩
def MBl.cells (o : MBl) : List Value := [.slice o.insA o.insn o.insc, .int .i64 o.kind, .int .i64 o.a, .int .i64 o.go, .int .i64 o.els]
structure MBl.In (w : World) (o : MBl) : Prop where
  ins : MIns w o.insA o.insn o.ins
  insR : o.insn ≤ o.insc ∧ o.insc ≤ maxLen
  kind : -9223372036854775808 ≤ o.kind ∧ o.kind ≤ 9223372036854775807
  a : -9223372036854775808 ≤ o.a ∧ o.a ≤ 9223372036854775807
  go : -9223372036854775808 ≤ o.go ∧ o.go ≤ 9223372036854775807
  els : -9223372036854775808 ≤ o.els ∧ o.els ≤ 9223372036854775807
theorem MBl.In.below {w w' : World} {o : MBl} (h : o.In w) (hB : Below w.heap.size w w') : o.In w' := ⟨h.ins.below hB, h.insR, h.kind, h.a, h.go, h.els⟩
/-- A slice of them. -/
def MBls (w : World) (A : Option Addr) (n : Nat) (os : List MBl) : Prop :=
  os.length = n ∧ (∀ o ∈ os, o.In w) ∧ (0 < n → ∃ g off, A = some ⟨g, off, none⟩ ∧ g < w.heap.size ∧ ∀ i o, os[i]? = some o → ∀ j v, o.cells[j]? = some v → w.cell? ⟨g, off + i * 5 + j, none⟩ = some v)
theorem MBls.below {w w' : World} {A : Option Addr} {n : Nat} {os : List MBl} (h : MBls w A n os) (hB : Below w.heap.size w w') : MBls w' A n os := by
  refine ⟨h.1, fun o ho => (h.2.1 o ho).below hB, fun hn => ?_⟩
  obtain ⟨g, off, e, hg, hc⟩ := h.2.2 hn
  exact ⟨g, off, e, Nat.lt_of_lt_of_le hg hB.size, fun i o ho j v hv => (hB.cell (p := ⟨g, off + i * 5 + j, none⟩) hg).trans (hc i o ho j v hv)⟩
theorem cellsMBl : Try.prog.cellsOf 41 = 5 := by kernel_rfl
/-- They, out of their reading. -/
theorem MBls.of {H : Type} {enc : TypeId × Value → H} {w : World} {base : Nat} {held : Bool} {fuel : Nat} {c : Value} {x : DataW H × List MemPlace} (h : DataW.trod enc Try.prog w base (fun _ => true) held fuel 45 [c] = some x) :
    ∃ A len cap os, c = Value.slice A len cap ∧ MBls w A len os ∧ len ≤ cap ∧ cap ≤ maxLen := by
  rcases open_slice Try.underlying45 h with ⟨hcs, _⟩ | ⟨a, len, cap, m, n, D, Pl, hcs, hb, hl, hm, hmm, hx, hi⟩
  · cases hcs
    exact ⟨none, 0, 0, [], rfl, ⟨rfl, (fun o ho => by cases ho), fun h0 => absurd h0 (Nat.lt_irrefl 0)⟩, by omega, by unfold maxLen; omega⟩
  · cases hcs
    have hlm : len ≤ m := by rw [hmm]; split <;> omega
    have hone : ∀ i, i < len → ∃ o : MBl, o.In w ∧ ∀ j v, o.cells[j]? = some v → w.cell? ((a.add (i * 5)).add j) = some v := by
      intro i hil
      obtain ⟨cs, hc, ht⟩ := hi i (by omega)
      rw [cellsMBl] at hc
      obtain ⟨_, hlen, hat⟩ := World.cells?_some hc
      obtain ⟨ys, n', _, _, _, hyl, hf⟩ := DataW.trod_struct Try.underlying41 ht
      match cs, hlen with
      | [c0, c1, c2, c3, c4], _ =>
        have f0 := hf 0 _ rfl
        have f1 := hf 1 _ rfl
        have f2 := hf 2 _ rfl
        have f3 := hf 3 _ rfl
        have f4 := hf 4 _ rfl
        simp only [List.getElem_toArray, List.getElem_cons_zero, List.getElem_cons_succ, cellsMs, cellsMi, cellsMn, cellsMa, cellsM0, cellsM1, List.drop_zero, List.drop_succ_cons, List.take_succ_cons, List.take_zero] at f0 f1 f2 f3 f4
        have gg : ∀ j, j < 5 → ∃ y, ys[j]? = some y := fun j hj => ⟨_, List.getElem?_eq_getElem (by rw [hyl]; exact hj)⟩
        obtain ⟨y0, g0⟩ := gg 0 (by omega)
        obtain ⟨y1, g1⟩ := gg 1 (by omega)
        obtain ⟨y2, g2⟩ := gg 2 (by omega)
        obtain ⟨y3, g3⟩ := gg 3 (by omega)
        obtain ⟨y4, g4⟩ := gg 4 (by omega)
        obtain ⟨A0, n0, m0, u0, e0, k0, r0⟩ := MIns.of (f0.trans g0)
        obtain ⟨u1, e1, _, k1⟩ := DataW.trod_int Try.underlying3 (f1.trans g1)
        obtain ⟨u2, e2, _, k2⟩ := DataW.trod_int Try.underlying3 (f2.trans g2)
        obtain ⟨u3, e3, _, k3⟩ := DataW.trod_int Try.underlying3 (f3.trans g3)
        obtain ⟨u4, e4, _, k4⟩ := DataW.trod_int Try.underlying3 (f4.trans g4)
        cases e0
        cases e1
        cases e2
        cases e3
        cases e4
        refine ⟨⟨A0, n0, m0, u0, u1, u2, u3, u4⟩, ⟨k0, r0, bounds_i64 k1, bounds_i64 k2, bounds_i64 k3, bounds_i64 k4⟩, fun j v hv => ?_⟩
        unfold MBl.cells at hv
        have hj := (List.getElem?_eq_some_iff.1 hv).1
        simp only [List.length_cons, List.length_nil] at hj
        have := hat j hj
        rw [this, ← hv]
    have hsp : 0 < len → a.spot = none := fun h0 => by
      obtain ⟨o, _, h1⟩ := hone 0 h0
      have h2 := h1 0 _ rfl
      exact World.cell?_spot (by simpa [Addr.add] using h2)
    obtain ⟨f, hf⟩ := choose_lt (α := MBl) hone
    refine ⟨some a, len, cap, (List.range len).map f, rfl, ⟨by simp, fun o ho => ?_, fun h0 => ?_⟩, by omega, hm⟩
    · obtain ⟨i, hi', rfl⟩ := List.mem_map.1 ho
      exact (hf i (List.mem_range.1 hi')).1
    · obtain ⟨b, off, sp⟩ := a
      obtain rfl : sp = none := hsp h0
      have hadd : ∀ o i, (⟨b, o, none⟩ : Addr).add i = ⟨b, o + i, none⟩ := fun o i => by unfold Addr.add; split <;> simp_all
      have hc0 := (hf 0 h0).2 0 _ rfl
      rw [hadd, hadd] at hc0
      refine ⟨b, off, rfl, World.block_lt_of_cell? w _ hc0, fun i o ho j v hv => ?_⟩
      have hil : i < len := by have := (List.getElem?_eq_some_iff.1 ho).1; simpa using this
      have e : f i = o := by
        rw [List.getElem?_map, List.getElem?_range hil] at ho
        simpa using ho
      have h2 := (hf i hil).2 j v (by rw [e]; exact hv)
      rw [hadd, hadd] at h2
      exact h2
/-- A function that came in, and where its blocks lie. -/
structure MFn where
  name : ByteArray
  params : Int
  regs : Int
  blocksA : Option Addr
  blocksn : Nat
  blocksc : Nat
  blocks : List MBl
instance : Inhabited MFn := ⟨⟨⟨#[]⟩, 0, 0, none, 0, 0, []⟩⟩
def MFn.cells (o : MFn) : List Value := [.string o.name, .int .i64 o.params, .int .i64 o.regs, .slice o.blocksA o.blocksn o.blocksc]
structure MFn.In (w : World) (o : MFn) : Prop where
  name : o.name.size ≤ maxLen
  params : -9223372036854775808 ≤ o.params ∧ o.params ≤ 9223372036854775807
  regs : -9223372036854775808 ≤ o.regs ∧ o.regs ≤ 9223372036854775807
  blocks : MBls w o.blocksA o.blocksn o.blocks
  blocksR : o.blocksn ≤ o.blocksc ∧ o.blocksc ≤ maxLen
theorem MFn.In.below {w w' : World} {o : MFn} (h : o.In w) (hB : Below w.heap.size w w') : o.In w' := ⟨h.name, h.params, h.regs, h.blocks.below hB, h.blocksR⟩
/-- A slice of them. -/
def MFns (w : World) (A : Option Addr) (n : Nat) (os : List MFn) : Prop :=
  os.length = n ∧ (∀ o ∈ os, o.In w) ∧ (0 < n → ∃ g off, A = some ⟨g, off, none⟩ ∧ g < w.heap.size ∧ ∀ i o, os[i]? = some o → ∀ j v, o.cells[j]? = some v → w.cell? ⟨g, off + i * 4 + j, none⟩ = some v)
theorem MFns.below {w w' : World} {A : Option Addr} {n : Nat} {os : List MFn} (h : MFns w A n os) (hB : Below w.heap.size w w') : MFns w' A n os := by
  refine ⟨h.1, fun o ho => (h.2.1 o ho).below hB, fun hn => ?_⟩
  obtain ⟨g, off, e, hg, hc⟩ := h.2.2 hn
  exact ⟨g, off, e, Nat.lt_of_lt_of_le hg hB.size, fun i o ho j v hv => (hB.cell (p := ⟨g, off + i * 4 + j, none⟩) hg).trans (hc i o ho j v hv)⟩
theorem cellsMFn : Try.prog.cellsOf 47 = 4 := by kernel_rfl
/-- They, out of their reading. -/
theorem MFns.of {H : Type} {enc : TypeId × Value → H} {w : World} {base : Nat} {held : Bool} {fuel : Nat} {c : Value} {x : DataW H × List MemPlace} (h : DataW.trod enc Try.prog w base (fun _ => true) held fuel 23 [c] = some x) :
    ∃ A len cap os, c = Value.slice A len cap ∧ MFns w A len os ∧ len ≤ cap ∧ cap ≤ maxLen := by
  rcases open_slice Try.underlying23 h with ⟨hcs, _⟩ | ⟨a, len, cap, m, n, D, Pl, hcs, hb, hl, hm, hmm, hx, hi⟩
  · cases hcs
    exact ⟨none, 0, 0, [], rfl, ⟨rfl, (fun o ho => by cases ho), fun h0 => absurd h0 (Nat.lt_irrefl 0)⟩, by omega, by unfold maxLen; omega⟩
  · cases hcs
    have hlm : len ≤ m := by rw [hmm]; split <;> omega
    have hone : ∀ i, i < len → ∃ o : MFn, o.In w ∧ ∀ j v, o.cells[j]? = some v → w.cell? ((a.add (i * 4)).add j) = some v := by
      intro i hil
      obtain ⟨cs, hc, ht⟩ := hi i (by omega)
      rw [cellsMFn] at hc
      obtain ⟨_, hlen, hat⟩ := World.cells?_some hc
      obtain ⟨ys, n', _, _, _, hyl, hf⟩ := DataW.trod_struct Try.underlying47 ht
      match cs, hlen with
      | [c0, c1, c2, c3], _ =>
        have f0 := hf 0 _ rfl
        have f1 := hf 1 _ rfl
        have f2 := hf 2 _ rfl
        have f3 := hf 3 _ rfl
        simp only [List.getElem_toArray, List.getElem_cons_zero, List.getElem_cons_succ, cellsMs, cellsMi, cellsMn, cellsMa, cellsM0, cellsM1, List.drop_zero, List.drop_succ_cons, List.take_succ_cons, List.take_zero] at f0 f1 f2 f3
        have gg : ∀ j, j < 4 → ∃ y, ys[j]? = some y := fun j hj => ⟨_, List.getElem?_eq_getElem (by rw [hyl]; exact hj)⟩
        obtain ⟨y0, g0⟩ := gg 0 (by omega)
        obtain ⟨y1, g1⟩ := gg 1 (by omega)
        obtain ⟨y2, g2⟩ := gg 2 (by omega)
        obtain ⟨y3, g3⟩ := gg 3 (by omega)
        obtain ⟨u0, e0, _, k0⟩ := DataW.trod_string Try.underlying9 (f0.trans g0)
        obtain ⟨u1, e1, _, k1⟩ := DataW.trod_int Try.underlying3 (f1.trans g1)
        obtain ⟨u2, e2, _, k2⟩ := DataW.trod_int Try.underlying3 (f2.trans g2)
        obtain ⟨A3, n3, m3, u3, e3, k3, r3⟩ := MBls.of (f3.trans g3)
        cases e0
        cases e1
        cases e2
        cases e3
        refine ⟨⟨u0, u1, u2, A3, n3, m3, u3⟩, ⟨k0, bounds_i64 k1, bounds_i64 k2, k3, r3⟩, fun j v hv => ?_⟩
        unfold MFn.cells at hv
        have hj := (List.getElem?_eq_some_iff.1 hv).1
        simp only [List.length_cons, List.length_nil] at hj
        have := hat j hj
        rw [this, ← hv]
    have hsp : 0 < len → a.spot = none := fun h0 => by
      obtain ⟨o, _, h1⟩ := hone 0 h0
      have h2 := h1 0 _ rfl
      exact World.cell?_spot (by simpa [Addr.add] using h2)
    obtain ⟨f, hf⟩ := choose_lt (α := MFn) hone
    refine ⟨some a, len, cap, (List.range len).map f, rfl, ⟨by simp, fun o ho => ?_, fun h0 => ?_⟩, by omega, hm⟩
    · obtain ⟨i, hi', rfl⟩ := List.mem_map.1 ho
      exact (hf i (List.mem_range.1 hi')).1
    · obtain ⟨b, off, sp⟩ := a
      obtain rfl : sp = none := hsp h0
      have hadd : ∀ o i, (⟨b, o, none⟩ : Addr).add i = ⟨b, o + i, none⟩ := fun o i => by unfold Addr.add; split <;> simp_all
      have hc0 := (hf 0 h0).2 0 _ rfl
      rw [hadd, hadd] at hc0
      refine ⟨b, off, rfl, World.block_lt_of_cell? w _ hc0, fun i o ho j v hv => ?_⟩
      have hil : i < len := by have := (List.getElem?_eq_some_iff.1 ho).1; simpa using this
      have e : f i = o := by
        rw [List.getElem?_map, List.getElem?_range hil] at ho
        simpa using ho
      have h2 := (hf i hil).2 j v (by rw [e]; exact hv)
      rw [hadd, hadd] at h2
      exact h2
end Go.Proofs.Ytcanjkjpdnbcnaa
