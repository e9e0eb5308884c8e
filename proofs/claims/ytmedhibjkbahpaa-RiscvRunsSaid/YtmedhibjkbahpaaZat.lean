/-
  An assembly program out of its reading: its globals and its lines in memory.
-/
import Derived.Test.YtmedhibjkbahpaaZar
import Derived.Test.YtmedhibjkbahpaaZaj
import Derived.ProofKit
import Derived.OpenShut
import Derived.ShutString
import Derived.SliceStrings
import Derived.Deep.Slices
import Derived.ChangeOld
import Derived.Below
import Derived.Carry
import Derived.Stop.Joined
import Derived.ChangeSame
namespace Go.Proofs.Ytmedhibjkbahpaa
open Go.ChangeShapes Go.WideShapes Go.ChangeAt Go.RowKit Go.Deep
set_option linter.unusedVariables false
set_option linter.unusedSimpArgs false
set_option maxRecDepth 100000
namespace Rv
instance : Inhabited Ln := ⟨⟨0, 0, 0, 0, 0, 0, ⟨#[]⟩⟩⟩
instance : Inhabited Gl := ⟨⟨⟨#[]⟩, 0⟩⟩
theorem cellsS : Try.prog.cellsOf 9 = 1 := by kernel_rfl
theorem cellsI : Try.prog.cellsOf 3 = 1 := by kernel_rfl
theorem three_of {α : Type} (cs : List α) (h : cs.length = 3) : ∃ a b c, cs = [a, b, c] := by
  match cs, h with
  | [a, b, c], _ => exact ⟨a, b, c, rfl⟩
/-- LnsAt out of their reading. -/
theorem LnsAt.of {H : Type} {enc : TypeId × Value → H} {w : World} {base : Nat} {held : Bool} {fuel : Nat} {c : Value} {x : DataW H × List MemPlace}
    (h : DataW.trod enc Try.prog w base (fun _ => true) held fuel 23 [c] = some x) : ∃ A len cap ls, c = .slice A len cap ∧ LnsAt w A len ls ∧ (∀ l ∈ ls, (-2147483648 ≤ l.n ∧ l.n ≤ 2147483647) ∧ l.s.size ≤ maxLen) ∧ len ≤ cap ∧ cap ≤ maxLen := by
  have cellsL : Try.prog.cellsOf 39 = 7 := by kernel_rfl
  rcases open_slice Try.underlying23 h with ⟨hcs, _⟩ | ⟨a, len, cap, m, n, D, Pl, hcs, hb, hl, hm, hmm, hx, hi⟩
  · simp at hcs
    exact ⟨none, 0, 0, [], hcs, ⟨rfl, fun h => absurd h (by omega)⟩, (fun l h => by cases h), by omega, by unfold maxLen; omega⟩
  · simp at hcs
    have hlm : len ≤ m := by rw [hmm]; split <;> omega
    have hone : ∀ i, i < len → ∃ l : Ln, ((-2147483648 ≤ l.n ∧ l.n ≤ 2147483647) ∧ l.s.size ≤ maxLen) ∧ ∀ j v, l.cells[j]? = some v → w.cell? ((a.add (i * 7)).add j) = some v := by
      intro i hil
      obtain ⟨cs, hc, ht⟩ := hi i (by omega)
      rw [cellsL] at hc
      obtain ⟨_, hlen, hat⟩ := World.cells?_some hc
      obtain ⟨k, op, d, a', b, n', s, rfl, hn, hs⟩ := line_of ht
      exact ⟨⟨k, op, d, a', b, n', s⟩, ⟨hn, hs⟩, fun j v hv => by
        have hj := (List.getElem?_eq_some_iff.1 hv).1
        simp only [Ln.cells, List.length_cons, List.length_nil] at hj
        have := hat j hj
        rw [this, ← hv]
        rfl⟩
    have hsp : 0 < len → a.spot = none := fun h0 => by
      obtain ⟨o, _, h1⟩ := hone 0 h0
      have h2 := h1 0 _ rfl
      exact World.cell?_spot (by simpa [Addr.add] using h2)
    obtain ⟨f, hf⟩ := choose_lt (α := Ln) hone
    refine ⟨some a, len, cap, (List.range len).map f, hcs, ⟨by simp, fun h0 => ?_⟩, (fun l hl2 => ?_), by omega, hm⟩
    · obtain ⟨b, off, sp⟩ := a
      obtain rfl : sp = none := hsp h0
      have hadd : ∀ o i, (⟨b, o, none⟩ : Addr).add i = ⟨b, o + i, none⟩ := fun o i => by unfold Addr.add; split <;> simp_all
      have hcl : ∀ k, k < len → ∀ j v, (f k).cells[j]? = some v → w.cell? ⟨b, off + k * 7 + j, none⟩ = some v := fun k hk j v hv => by
        have h2 := (hf k hk).2 j v hv
        rw [hadd, hadd] at h2
        exact h2
      refine ⟨b, off, rfl, World.block_lt_of_cell? w _ (hcl 0 h0 0 _ rfl), fun k l hk j v hv => ?_⟩
      have hil : k < len := by have := (List.getElem?_eq_some_iff.1 hk).1; simpa using this
      have e : f k = l := by
        rw [List.getElem?_map, List.getElem?_range hil] at hk
        simpa using hk
      exact hcl k hil j v (by rw [e]; exact hv)
    · obtain ⟨i, hi', rfl⟩ := List.mem_map.1 hl2
      exact (hf i (List.mem_range.1 hi')).1

/-- GlsAt out of their reading. -/
theorem GlsAt.of {H : Type} {enc : TypeId × Value → H} {w : World} {base : Nat} {held : Bool} {fuel : Nat} {c : Value} {x : DataW H × List MemPlace}
    (h : DataW.trod enc Try.prog w base (fun _ => true) held fuel 22 [c] = some x) : ∃ A len cap ls, c = .slice A len cap ∧ GlsAt w A len ls ∧ (∀ l ∈ ls, l.name.size ≤ maxLen ∧ (-9223372036854775808 ≤ l.size ∧ l.size ≤ 9223372036854775807)) ∧ len ≤ cap ∧ cap ≤ maxLen := by
  have cellsL : Try.prog.cellsOf 72 = 2 := by kernel_rfl
  rcases open_slice Try.underlying22 h with ⟨hcs, _⟩ | ⟨a, len, cap, m, n, D, Pl, hcs, hb, hl, hm, hmm, hx, hi⟩
  · simp at hcs
    exact ⟨none, 0, 0, [], hcs, ⟨rfl, fun h => absurd h (by omega)⟩, (fun l h => by cases h), by omega, by unfold maxLen; omega⟩
  · simp at hcs
    have hlm : len ≤ m := by rw [hmm]; split <;> omega
    have hone : ∀ i, i < len → ∃ l : Gl, (l.name.size ≤ maxLen ∧ (-9223372036854775808 ≤ l.size ∧ l.size ≤ 9223372036854775807)) ∧ ∀ j v, l.cells[j]? = some v → w.cell? ((a.add (i * 2)).add j) = some v := by
      intro i hil
      obtain ⟨cs, hc, ht⟩ := hi i (by omega)
      rw [cellsL] at hc
      obtain ⟨_, hlen, hat⟩ := World.cells?_some hc
      obtain ⟨y0, y1, m', _, _, e0, e1⟩ := trod_struct2 Try.underlying72 ht
      match cs, hlen with
      | [c0, c1], _ =>
        simp only [cellsS, cellsI, List.drop_zero, List.drop_succ_cons, List.take_succ_cons, List.take_zero] at e0 e1
        obtain ⟨s, e0', _, ws⟩ := DataW.trod_string Try.underlying9 e0
        obtain ⟨z, e1', _, wz⟩ := DataW.trod_int Try.underlying3 e1
        cases e0'
        cases e1'
        exact ⟨⟨s, z⟩, ⟨ws, bounds_i64 wz⟩, fun j v hv => by
          have hj := (List.getElem?_eq_some_iff.1 hv).1
          simp only [Gl.cells, List.length_cons, List.length_nil] at hj
          have := hat j hj
          rw [this, ← hv]
          rfl⟩
    have hsp : 0 < len → a.spot = none := fun h0 => by
      obtain ⟨o, _, h1⟩ := hone 0 h0
      have h2 := h1 0 _ rfl
      exact World.cell?_spot (by simpa [Addr.add] using h2)
    obtain ⟨f, hf⟩ := choose_lt (α := Gl) hone
    refine ⟨some a, len, cap, (List.range len).map f, hcs, ⟨by simp, fun h0 => ?_⟩, (fun l hl2 => ?_), by omega, hm⟩
    · obtain ⟨b, off, sp⟩ := a
      obtain rfl : sp = none := hsp h0
      have hadd : ∀ o i, (⟨b, o, none⟩ : Addr).add i = ⟨b, o + i, none⟩ := fun o i => by unfold Addr.add; split <;> simp_all
      have hcl : ∀ k, k < len → ∀ j v, (f k).cells[j]? = some v → w.cell? ⟨b, off + k * 2 + j, none⟩ = some v := fun k hk j v hv => by
        have h2 := (hf k hk).2 j v hv
        rw [hadd, hadd] at h2
        exact h2
      refine ⟨b, off, rfl, World.block_lt_of_cell? w _ (hcl 0 h0 0 _ rfl), fun k l hk j v hv => ?_⟩
      have hil : k < len := by have := (List.getElem?_eq_some_iff.1 hk).1; simpa using this
      have e : f k = l := by
        rw [List.getElem?_map, List.getElem?_range hil] at hk
        simpa using hk
      exact hcl k hil j v (by rw [e]; exact hv)
    · obtain ⟨i, hi', rfl⟩ := List.mem_map.1 hl2
      exact (hf i (List.mem_range.1 hi')).1

/-- A program out of its reading. -/
theorem asm_of {H : Type} {enc : TypeId × Value → H} {w : World} {base : Nat} {held : Bool} {fuel : Nat} {cs : List Value} {x : DataW H × List MemPlace}
    (h : DataW.trod enc Try.prog w base (fun _ => true) held fuel 25 cs = some x) :
    ∃ (GA LA : Option Addr) (gn gc ln lc : Nat) (st : Int) (gs : List Gl) (ls : List Ln), cs = [.slice GA gn gc, .int .i64 st, .slice LA ln lc] ∧ GlsAt w GA gn gs ∧ LnsAt w LA ln ls ∧ (gn ≤ gc ∧ gc ≤ maxLen) ∧ (ln ≤ lc ∧ lc ≤ maxLen) ∧
      (-9223372036854775808 ≤ st ∧ st ≤ 9223372036854775807) ∧ (∀ l ∈ ls, (-2147483648 ≤ l.n ∧ l.n ≤ 2147483647) ∧ l.s.size ≤ maxLen) ∧ ∀ g ∈ gs, g.name.size ≤ maxLen ∧ (-9223372036854775808 ≤ g.size ∧ g.size ≤ 9223372036854775807) := by
  obtain ⟨xs, m, _, rfl, hl, hlen, hf⟩ := DataW.trod_struct Try.underlying25 h
  have hc : Try.prog.cellsOf 25 = 3 := by kernel_rfl
  have hc1 : Try.prog.cellsOf 22 = 1 := by kernel_rfl
  have hc2 : Try.prog.cellsOf 23 = 1 := by kernel_rfl
  rw [hc] at hl
  obtain ⟨c0, c1, c2, rfl⟩ := three_of cs hl
  obtain ⟨y0, y1, y2, rfl⟩ := three_of xs hlen
  have g0 := hf 0 _ rfl
  have g1 := hf 1 _ rfl
  have g2 := hf 2 _ rfl
  simp only [List.getElem_toArray, List.getElem_cons_zero, List.getElem_cons_succ, hc1, cellsI, hc2, List.drop_zero, List.drop_succ_cons, List.take_succ_cons, List.take_zero, List.getElem?_cons_zero, List.getElem?_cons_succ] at g0 g1 g2
  obtain ⟨GA, gn, gc, gs, rfl, wg, og, g3, g4⟩ := GlsAt.of g0
  obtain ⟨st, e1, _, ws⟩ := DataW.trod_int Try.underlying3 g1
  obtain ⟨LA, ln, lc, ls, rfl, wl, ol, l3, l4⟩ := LnsAt.of g2
  cases e1
  exact ⟨GA, LA, gn, gc, ln, lc, st, gs, ls, rfl, wg, wl, ⟨g3, g4⟩, ⟨l3, l4⟩, bounds_i64 ws, ol, og⟩
end Rv
end Go.Proofs.Ytmedhibjkbahpaa
