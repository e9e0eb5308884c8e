/-
  A slice of integers that came in.
-/
import Derived.Test.YtjkcomoadpileaaDoorRh
namespace Go.Proofs.YtjkcomoadpileaaDoor
open Go.RowKit
set_option linter.unusedVariables false

/-- WHAT A WALK IS TOLD OF A SLICE OF INTEGERS THAT CAME IN: it is nil; or it leads to a row of 'cap' cells, the numbers 'zs', the first 'len' of which are its elements; each fits its kind. -/
def IsRow (k : IntKind) (w : World) (a : Option Addr) (len cap : Nat) (zs : List Int) : Prop :=
  (a = none ∧ len = 0 ∧ cap = 0 ∧ zs = []) ∨
  ∃ x, a = some x ∧ len ≤ cap ∧ cap ≤ maxLen ∧ zs.length = cap ∧ (∀ i, i < zs.length → w.cell? (x.add i) = some (.int k (zs.getD i 0))) ∧ ∀ n ∈ zs, (Lit.int k n).wf = true
theorem Ints.of_isRow {w : World} {A : Option Addr} {len cap : Nat} {zs : List Int} (h : IsRow .i64 w A len cap zs) : Ints w A len (zs.take len) ∧ len ≤ cap ∧ cap ≤ 9223372036854775807 := by
  rcases h with ⟨rfl, rfl, rfl, rfl⟩ | ⟨x, rfl, hl, hm, hz, hc, hw⟩
  · exact ⟨⟨rfl, (fun z hz => by cases hz), fun h => absurd h (Nat.lt_irrefl 0)⟩, Nat.le_refl _, by omega⟩
  · unfold maxLen at hm
    refine ⟨⟨by rw [List.length_take, hz]; omega, fun z hz => ?_, fun hn => ?_⟩, hl, by omega⟩
    · have := bounds_i64 (hw z (List.mem_of_mem_take hz))
      omega
    · have h0 := hc 0 (by omega)
      have hsp : x.spot = none := World.cell?_spot (by simpa [Addr.add] using h0)
      obtain ⟨b, off, sp⟩ := x
      obtain rfl : sp = none := hsp
      have hadd : ∀ i, (⟨b, off, none⟩ : Addr).add i = ⟨b, off + i, none⟩ := fun i => by unfold Addr.add; split <;> simp_all
      refine ⟨b, off, rfl, ?_, fun i hi => ?_⟩
      · rcases Nat.lt_or_ge b w.heap.size with hlt | hge
        · exact hlt
        · simp [World.cell?, Addr.add, Array.getElem?_eq_none hge] at h0
      · rw [← hadd i, hc i (by omega)]
        congr 2
        simp [hi]
end Go.Proofs.YtjkcomoadpileaaDoor
