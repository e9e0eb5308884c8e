/-
  The things to do that came in, out of their reading.
-/
import Derived.Test.YtbjlikppboggmaaRows
import Derived.Test.YtbjlikppboggmaaZau
import Derived.ProofKit
import Derived.OpenShut
import Derived.ShutString
import Derived.SliceStrings
import Derived.Deep.Slices
import Derived.ChangeOld
import Derived.Below
import Derived.Carry
import Derived.Stop.Joined
import Derived.ChangeSame
namespace Go.Proofs.Ytbjlikppboggmaa
open Go.ChangeShapes Go.WideShapes Go.ChangeAt Go.RowKit Go.Deep
set_option linter.unusedVariables false
set_option maxRecDepth 100000

instance : Inhabited OpR := ⟨⟨0, ⟨#[]⟩, ⟨#[]⟩, none, 0, 0, [], 0, 0, none, 0, 0, []⟩⟩
theorem cellsOp7 : Try.prog.cellsOf 34 = 7 := by kernel_rfl
theorem cellsU7 : Try.prog.cellsOf 28 = 1 := by kernel_rfl
theorem cellsI7 : Try.prog.cellsOf 3 = 1 := by kernel_rfl
theorem cellsT7 : Try.prog.cellsOf 9 = 1 := by kernel_rfl
theorem cellsB7 : Try.prog.cellsOf 29 = 1 := by kernel_rfl
theorem cellsK7 : Try.prog.cellsOf 30 = 1 := by kernel_rfl
theorem cellsL7 : Try.prog.cellsOf 32 = 2 := by kernel_rfl
theorem slice_u8 {H : Type} {enc : TypeId × Value → H} {w : World} {base : Nat} {held : Bool} {fuel : Nat} {c : Value} {x : DataW H × List MemPlace} (h : DataW.trod enc Try.prog w base (fun _ => true) held fuel 29 [c] = some x) : ∃ a l cap zs, c = Value.slice a l cap ∧ IsRow .u8 w a l cap zs := by
  rcases open_ints Try.underlying29 Try.underlying5 (by kernel_rfl) h with ⟨hcs, _⟩ | ⟨x, l, cc, zs, hcs, _, hl, hm, hz, _, hcell, hwz⟩
  · simp at hcs
    exact ⟨none, 0, 0, [], hcs, .inl ⟨rfl, rfl, rfl, rfl⟩⟩
  · simp at hcs
    exact ⟨some x, l, cc, zs, hcs, .inr ⟨_, rfl, hl, hm, by simpa using hz, hcell, hwz⟩⟩
theorem slice_i64 {H : Type} {enc : TypeId × Value → H} {w : World} {base : Nat} {held : Bool} {fuel : Nat} {c : Value} {x : DataW H × List MemPlace} (h : DataW.trod enc Try.prog w base (fun _ => true) held fuel 30 [c] = some x) : ∃ a l cap zs, c = Value.slice a l cap ∧ IsRow .i64 w a l cap zs := by
  rcases open_ints Try.underlying30 Try.underlying3 (by kernel_rfl) h with ⟨hcs, _⟩ | ⟨x, l, cc, zs, hcs, _, hl, hm, hz, _, hcell, hwz⟩
  · simp at hcs
    exact ⟨none, 0, 0, [], hcs, .inl ⟨rfl, rfl, rfl, rfl⟩⟩
  · simp at hcs
    exact ⟨some x, l, cc, zs, hcs, .inr ⟨_, rfl, hl, hm, by simpa using hz, hcell, hwz⟩⟩
theorem IsRow.lens {k : IntKind} {w : World} {a : Option Addr} {l cap : Nat} {zs : List Int} (h : IsRow k w a l cap zs) : l ≤ maxLen := by
  rcases h with ⟨_, rfl, _, _⟩ | ⟨_, _, h1, h2, _⟩
  · unfold maxLen; omega
  · omega
/-- The things to do that came in, out of their reading. -/
theorem ops_of7 {H : Type} {enc : TypeId × Value → H} {w : World} {base : Nat} {held : Bool} {fuel : Nat} {A : Option Addr} {len cap : Nat} {x : DataW H × List MemPlace} (h : DataW.trod enc Try.prog w base (fun _ => true) held fuel 22 [.slice A len cap] = some x) :
    ∃ os, OpsIn w A len os ∧ len ≤ cap ∧ cap ≤ maxLen := by
  rcases open_slice Try.underlying22 h with ⟨hcs, _⟩ | ⟨a, len', cap', m, n, D, Pl, hcs, hb, hl, hm, hmm, hx, hi⟩
  · cases hcs
    exact ⟨[], ⟨rfl, (fun o ho => by cases ho), fun h0 => absurd h0 (Nat.lt_irrefl 0)⟩, by omega, by unfold maxLen; omega⟩
  · cases hcs
    have hlm : len ≤ m := by rw [hmm]; split <;> omega
    have hone : ∀ i, i < len → ∃ o : OpR, o.In w ∧ ∀ j v, o.cells[j]? = some v → w.cell? ((a.add (i * 7)).add j) = some v := by
      intro i hil
      obtain ⟨cs, hc, ht⟩ := hi i (by omega)
      rw [cellsOp7] at hc
      obtain ⟨_, hlen, hat⟩ := World.cells?_some hc
      obtain ⟨ys, n', _, _, _, hyl, hf⟩ := DataW.trod_struct Try.underlying34 ht
      match cs, hlen with
      | [c0, c1, c2, c3, c4, c5, c6], _ =>
        have f0 := hf 0 _ rfl
        have f1 := hf 1 _ rfl
        have f2 := hf 2 _ rfl
        have f3 := hf 3 _ rfl
        have f4 := hf 4 _ rfl
        have f5 := hf 5 _ rfl
        simp only [List.getElem_toArray, List.getElem_cons_zero, List.getElem_cons_succ, cellsU7, cellsI7, cellsT7, cellsB7, cellsL7, List.drop_zero, List.drop_succ_cons, List.take_succ_cons, List.take_zero] at f0 f1 f2 f3 f4 f5
        have gg : ∀ j, j < 6 → ∃ y, ys[j]? = some y := fun j hj => ⟨_, List.getElem?_eq_getElem (by rw [hyl]; exact hj)⟩
        obtain ⟨y0, g0⟩ := gg 0 (by omega)
        obtain ⟨y1, g1⟩ := gg 1 (by omega)
        obtain ⟨y2, g2⟩ := gg 2 (by omega)
        obtain ⟨y3, g3⟩ := gg 3 (by omega)
        obtain ⟨y4, g4⟩ := gg 4 (by omega)
        obtain ⟨y5, g5⟩ := gg 5 (by omega)
        obtain ⟨u, e0, _, hu⟩ := DataW.trod_int Try.underlying28 (f0.trans g0)
        obtain ⟨s1, e1, _, hs1⟩ := DataW.trod_string Try.underlying9 (f1.trans g1)
        obtain ⟨s2, e2, _, hs2⟩ := DataW.trod_string Try.underlying9 (f2.trans g2)
        obtain ⟨dA, dn, dc, dz, rfl, hd⟩ := slice_u8 (f3.trans g3)
        obtain ⟨z4, e4, _, hz4⟩ := DataW.trod_int Try.underlying3 (f4.trans g4)
        obtain ⟨y50, y51, m5, _, _, h50, h51⟩ := trod_struct2 Try.underlying32 (f5.trans g5)
        simp only [cellsI7, cellsK7, List.drop_zero, List.drop_succ_cons, List.take_succ_cons, List.take_zero] at h50 h51
        obtain ⟨z5, e5, _, hz5⟩ := DataW.trod_int Try.underlying3 h50
        obtain ⟨kA, kn, kc, kz, rfl, hk⟩ := slice_i64 h51
        cases e0; cases e1; cases e2; cases e4; cases e5
        have hu2 := bounds_u64 hu
        obtain ⟨k1, k2⟩ := ZsAt.of_isRow hk
        refine ⟨⟨u.toNat, s1, s2, dA, dn, dc, dz.take dn, z4, z5, kA, kn, kc, kz.take kn⟩, ⟨by show u.toNat < _; omega, hs1, hs2, RowZ.of_isRow hd, bounds_i64 hz4, bounds_i64 hz5, k1, k2, hd.lens, hk.lens⟩, fun j v hv => ?_⟩
        have e : ((u.toNat : Nat) : Int) = u := by omega
        unfold OpR.cells at hv
        simp only [e] at hv
        have hj := (List.getElem?_eq_some_iff.1 hv).1
        simp only [List.length_cons, List.length_nil] at hj
        have := hat j hj
        rw [this, ← hv]
    have hsp : 0 < len → a.spot = none := fun h0 => by
      obtain ⟨o, _, h1⟩ := hone 0 h0
      have h2 := h1 0 _ rfl
      exact World.cell?_spot (by simpa [Addr.add] using h2)
    obtain ⟨f, hf⟩ := choose_lt (α := OpR) hone
    refine ⟨(List.range len).map f, ⟨by simp, fun o ho => ?_, fun h0 => ?_⟩, by omega, hm⟩
    · obtain ⟨i, hi', rfl⟩ := List.mem_map.1 ho
      exact (hf i (List.mem_range.1 hi')).1
    · obtain ⟨b, off, sp⟩ := a
      obtain rfl : sp = none := hsp h0
      have hadd : ∀ o i, (⟨b, o, none⟩ : Addr).add i = ⟨b, o + i, none⟩ := fun o i => by unfold Addr.add; split <;> simp_all
      have hc0 := (hf 0 h0).2 0 _ rfl
      rw [hadd, hadd] at hc0
      refine ⟨b, off, rfl, World.block_lt_of_cell? w _ hc0, fun i o ho j v hv => ?_⟩
      have hil : i < len := by have := (List.getElem?_eq_some_iff.1 ho).1; simpa using this
      have e : f i = o := by
        rw [List.getElem?_map, List.getElem?_range hil] at ho
        simpa using ho
      have h2 := (hf i hil).2 j v (by rw [e]; exact hv)
      rw [hadd, hadd] at h2
      exact h2
end Go.Proofs.Ytbjlikppboggmaa
