/-
  The tokens that came in, out of their reading.
-/
import Derived.Test.YtkpgkobhnldhpaaDoorRows
import Derived.Test.YtkpgkobhnldhpaaDoorLxF
import Derived.ProofKit
import Derived.OpenShut
import Derived.ShutString
import Derived.SliceStrings
import Derived.Deep.Slices
import Derived.ChangeOld
import Derived.Below
import Derived.Carry
import Derived.Stop.Joined
import Derived.ChangeSame
namespace Go.Proofs.YtkpgkobhnldhpaaDoor
open Go.ChangeShapes Go.WideShapes Go.ChangeAt Go.RowKit Go.Deep
set_option linter.unusedVariables false
set_option maxRecDepth 100000

instance : Inhabited Tk := ⟨⟨0, ⟨#[]⟩, 0, 0, 0, 0⟩⟩
theorem cellsTk : Tryd.prog.cellsOf 33 = 6 := by kernel_rfl
theorem cellsTi : Tryd.prog.cellsOf 3 = 1 := by kernel_rfl
theorem cellsTj : Tryd.prog.cellsOf 21 = 1 := by kernel_rfl
theorem cellsTs : Tryd.prog.cellsOf 9 = 1 := by kernel_rfl
theorem cellsTp : Tryd.prog.cellsOf 26 = 3 := by kernel_rfl
def tkC (t : Tk) : List Value := [.int .i64 t.kd, .string t.tx, .int .i32 t.nm, .int .i64 t.o, .int .i64 t.l, .int .i64 t.c]
theorem toks_of {H : Type} {enc : TypeId × Value → H} {w : World} {base : Nat} {held : Bool} {fuel : Nat} {A : Option Addr} {len cap : Nat} {x : DataW H × List MemPlace} (h : DataW.trod enc Tryd.prog w base (fun _ => true) held fuel 23 [.slice A len cap] = some x) :
    ∃ xs, Rd6 w A len xs ∧ (∀ t ∈ xs, t.tx.size ≤ maxLen) ∧ len ≤ cap ∧ cap ≤ maxLen := by
  rcases open_slice Tryd.underlying23 h with ⟨hcs, _⟩ | ⟨a, len', cap', m, n, D, Pl, hcs, hb, hl, hm, hmm, hx, hi⟩
  · cases hcs
    exact ⟨[], ⟨rfl, fun k t h => by simp at h⟩, (fun t h => by cases h), by omega, by unfold maxLen; omega⟩
  · cases hcs
    have hlm : len ≤ m := by rw [hmm]; split <;> omega
    have hone : ∀ i, i < len → ∃ t : Tk, t.tx.size ≤ maxLen ∧ ∀ j v, (tkC t)[j]? = some v → w.cell? ((a.add (i * 6)).add j) = some v := by
      intro i hil
      obtain ⟨cs, hc, ht⟩ := hi i (by omega)
      rw [cellsTk] at hc
      obtain ⟨_, hlen, hat⟩ := World.cells?_some hc
      obtain ⟨ys, n', _, _, _, hyl, hf⟩ := DataW.trod_struct Tryd.underlying33 ht
      match cs, hlen with
      | [c0, c1, c2, c3, c4, c5], _ =>
        have f0 := hf 0 _ rfl
        have f1 := hf 1 _ rfl
        have f2 := hf 2 _ rfl
        have f3 := hf 3 _ rfl
        simp only [List.getElem_toArray, List.getElem_cons_zero, List.getElem_cons_succ, cellsTi, cellsTj, cellsTs, cellsTp, List.drop_zero, List.drop_succ_cons, List.take_succ_cons, List.take_zero] at f0 f1 f2 f3
        have gg : ∀ j, j < 4 → ∃ y, ys[j]? = some y := fun j hj => ⟨_, List.getElem?_eq_getElem (by rw [hyl]; exact hj)⟩
        obtain ⟨y0, g0⟩ := gg 0 (by omega)
        obtain ⟨y1, g1⟩ := gg 1 (by omega)
        obtain ⟨y2, g2⟩ := gg 2 (by omega)
        obtain ⟨y3, g3⟩ := gg 3 (by omega)
        obtain ⟨u, e0, _, hu⟩ := DataW.trod_int Tryd.underlying3 (f0.trans g0)
        obtain ⟨s1, e1, _, hs1⟩ := DataW.trod_string Tryd.underlying9 (f1.trans g1)
        obtain ⟨z2, e2, _, hz2⟩ := DataW.trod_int Tryd.underlying21 (f2.trans g2)
        obtain ⟨zs, n3, _, _, _, hzl, hp⟩ := DataW.trod_struct Tryd.underlying26 (f3.trans g3)
        have p0 := hp 0 _ rfl
        have p1 := hp 1 _ rfl
        have p2 := hp 2 _ rfl
        simp only [List.getElem_toArray, List.getElem_cons_zero, List.getElem_cons_succ, cellsTi, List.drop_zero, List.drop_succ_cons, List.take_succ_cons, List.take_zero] at p0 p1 p2
        have qq : ∀ j, j < 3 → ∃ y, zs[j]? = some y := fun j hj => ⟨_, List.getElem?_eq_getElem (by rw [hzl]; exact hj)⟩
        obtain ⟨x0, q0⟩ := qq 0 (by omega)
        obtain ⟨x1, q1⟩ := qq 1 (by omega)
        obtain ⟨x2, q2⟩ := qq 2 (by omega)
        obtain ⟨a3, e3, _, _⟩ := DataW.trod_int Tryd.underlying3 (p0.trans q0)
        obtain ⟨a4, e4, _, _⟩ := DataW.trod_int Tryd.underlying3 (p1.trans q1)
        obtain ⟨a5, e5, _, _⟩ := DataW.trod_int Tryd.underlying3 (p2.trans q2)
        cases e0; cases e1; cases e2; cases e3; cases e4; cases e5
        refine ⟨⟨u, s1, z2, a3, a4, a5⟩, hs1, fun j v hv => ?_⟩
        have hj := (List.getElem?_eq_some_iff.1 hv).1
        simp only [tkC, List.length_cons, List.length_nil] at hj
        have := hat j hj
        rw [this, ← hv]
        rfl
    have hsp : 0 < len → a.spot = none := fun h0 => by
      obtain ⟨o, _, h1⟩ := hone 0 h0
      have h2 := h1 0 _ rfl
      exact World.cell?_spot (by simpa [Addr.add] using h2)
    obtain ⟨f, hf⟩ := choose_lt (α := Tk) hone
    refine ⟨(List.range len).map f, ⟨by simp, fun k t hk => ?_⟩, fun t ht => ?_, by omega, hm⟩
    · have hil : k < len := by have := (List.getElem?_eq_some_iff.1 hk).1; simpa using this
      have e : f k = t := by
        rw [List.getElem?_map, List.getElem?_range hil] at hk
        simpa using hk
      obtain ⟨b, off, sp⟩ := a
      obtain rfl : sp = none := hsp (by omega)
      have hadd : ∀ o i, (⟨b, o, none⟩ : Addr).add i = ⟨b, o + i, none⟩ := fun o i => by unfold Addr.add; split <;> simp_all
      have hc : ∀ j v, (tkC t)[j]? = some v → w.cell? ⟨b, off + k * 6 + j, none⟩ = some v := fun j v hv => by
        have h2 := (hf k hil).2 j v (by rw [e]; exact hv)
        rw [hadd, hadd] at h2
        exact h2
      exact ⟨b, off, rfl, World.block_lt_of_cell? w _ (hc 0 _ rfl), hc 0 _ rfl, hc 1 _ rfl, hc 2 _ rfl, hc 3 _ rfl, hc 4 _ rfl, hc 5 _ rfl⟩
    · obtain ⟨i, hi', rfl⟩ := List.mem_map.1 ht
      exact (hf i (List.mem_range.1 hi')).1
end Go.Proofs.YtkpgkobhnldhpaaDoor
