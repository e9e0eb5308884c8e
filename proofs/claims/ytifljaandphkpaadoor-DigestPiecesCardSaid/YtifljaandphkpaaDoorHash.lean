/-
  A Hash as it lies in memory; contracts of digest.New, (*Hash).Len, (*Hash).Sum.
-/
import Derived.Test.YtifljaandphkpaaDoorPadMath
import Derived.Test.YtifljaandphkpaaDoorApp
import Derived.Deep.MidRow
import Derived.Laws.CopyRow
namespace Go.Proofs.YtifljaandphkpaaDoor
open Go.RowKit
set_option linter.unusedVariables false
attribute [local go_sem ↓] Go.wp_at_zero Go.wp_at_succ

/-- The cells of a Hash: the sum's words, the bytes behind them, the number. -/
def hc (s : St) (r : List Nat) (n : Nat) : List Value := cellsK .u32 s.list ++ (cellsK .u8 r ++ [.int .i64 (n : Int)])
/-- Block g is a Hash. -/
def HRow (w : World) (g : Nat) (s : St) (r : List Nat) (n : Nat) : Prop := w.heap[g]? = some (.cells (hc s r n).toArray 53 (0, 0))
section
variable {w w' : World} {g : Nat} {s : St} {r : List Nat} {n : Nat}
theorem hc_length (hr : r.length = 64) : (hc s r n).length = 73 := by
  unfold hc
  rw [List.length_append, List.length_append, cellsK_length, cellsK_length, hr]
  rfl
theorem HRow.lt (h : HRow w g s r n) : g < w.heap.size := by
  rcases Nat.lt_or_ge g w.heap.size with h1 | h1
  · exact h1
  · unfold HRow at h
    rw [Array.getElem?_eq_none h1] at h
    cases h
theorem HRow.belowAt {B : Nat} (h : HRow w g s r n) (hb : Below B w w') (hg : g < B) : HRow w' g s r n := (hb.block g hg).trans h
theorem HRow.cellOf (h : HRow w g s r n) (j : Nat) : w.cell? ⟨g, j, none⟩ = (hc s r n)[j]? := by
  rw [cell_of_row w g j _ _ (0, 0) h]
  simp
theorem HRow.free (h : HRow w g s r n) (j : Nat) : w.frozen? ⟨g, j, none⟩ = false := frozen_of_row w g j _ _ h
theorem HRow.sum (h : HRow w g s r n) : w.rangeAt g 0 (cellsK .u32 s.list) := fun j v hv => by
  have hj : j < (cellsK .u32 s.list).length := (List.getElem?_eq_some_iff.1 hv).1
  rw [Nat.zero_add, h.cellOf, hc, List.getElem?_append_left hj, hv]
theorem HRow.rest (h : HRow w g s r n) : w.rangeAt g 8 (cellsK .u8 r) := fun j v hv => by
  have hj : j < (cellsK .u8 r).length := (List.getElem?_eq_some_iff.1 hv).1
  have h8 : (cellsK .u32 s.list).length = 8 := rfl
  rw [h.cellOf, hc, List.getElem?_append_right (by omega), h8, show 8 + j - 8 = j from by omega, List.getElem?_append_left hj, hv]
theorem HRow.num (h : HRow w g s r n) (hr : r.length = 64) : w.cell? ⟨g, 72, none⟩ = some (.int .i64 (n : Int)) := by
  have h8 : (cellsK .u32 s.list).length = 8 := rfl
  rw [h.cellOf, hc, List.getElem?_append_right (by omega), h8, List.getElem?_append_right (by rw [cellsK_length, hr]; omega), cellsK_length, hr]
  rfl
theorem HRow.there0 (h : HRow w g s r n) (hr : r.length = 64) : w.there g 0 8 := fun j hj => by
  refine ⟨?_, h.free _⟩
  rw [h.cellOf, List.getElem?_eq_getElem (by rw [hc_length hr]; omega)]
  rfl
theorem HRow.restN (h : HRow w g s r n) (hr : r.length = 64) (hb : ∀ x ∈ r, x < 256) (k : Nat) (hk : k ≤ 64) : RowN w (some ⟨g, 8, none⟩) k (r.take k) := by
  refine ⟨by rw [asZ_length, List.length_take]; omega, fun z hz => ?_, fun _ => ⟨g, 8, rfl, h.lt, fun i hi => ?_⟩⟩
  · obtain ⟨x, hx, rfl⟩ := List.mem_map.1 hz
    have := hb x (List.mem_of_mem_take hx)
    exact ⟨Int.natCast_nonneg _, by show ((x : Nat) : Int) ≤ 255; omega⟩
  · have hir : i < r.length := by omega
    rw [h.rest i (.int .u8 ((r.getD i 0 : Nat) : Int)) (by simp [cellsK, hir, List.getD]), asZ_getD]
    simp [List.getD, hi]
/-- Cells stored in the middle. -/
theorem setCells_row (w : World) (g o : Nat) (t : TypeId) (cur vs : List Value) (hg : w.heap[g]? = some (.cells cur.toArray t (0, 0))) (hfit : o + vs.length ≤ cur.length) (h1 : ∀ v ∈ vs, v.oneCell' = true) :
    w.setCells g o vs = w.setRow g (cur.take o ++ vs ++ cur.drop (o + vs.length)).toArray := by
  have a1 := run_storeCells_at Tryd.prog g o t vs 0 cur.toArray w hg (by simpa using hfit) h1
  have a2 := run_storeCells_cells (P := Tryd.prog) g o vs 0 w (fun j hj => by
    rw [cell_of_row w g _ _ _ (0, 0) hg]
    simp
    omega) (fun j hj => frozen_of_row w g _ _ t hg) h1
  rw [a1] at a2
  simp only [Nat.add_zero] at a2
  injection a2 with _ e
  exact e.symm
theorem HRow.setSum (h : HRow w g s r n) (hr : r.length = 64) (s' : St) : HRow (w.setCells g 0 (cellsK .u32 s'.list)) g s' r n := by
  have h8 : (cellsK .u32 s.list).length = 8 := rfl
  have h8' : (cellsK .u32 s'.list).length = 8 := rfl
  unfold HRow
  rw [setCells_row w g 0 _ (hc s r n) _ h (by rw [hc_length hr, h8']; omega) (one_K _ _), setRow_heap w g _ _ _ (0, 0) h, h8']
  congr 3
theorem HRow.setNum (h : HRow w g s r n) (hr : r.length = 64) (n' : Nat) : HRow (w.setCell ⟨g, 72, none⟩ (.int .i64 (n' : Int))) g s r n' := by
  unfold HRow
  rw [heap_setCell_same w g 72 _ _ _ h]
  congr 2
  have h8 : (cellsK .u32 s.list).length = 8 := rfl
  unfold hc
  rw [List.setIfInBounds_toArray, List.set_append_right _ _ (by omega), h8, List.set_append_right _ _ (by rw [cellsK_length, hr]; omega), cellsK_length, hr]
  rfl
end
/-- **A Hash that has taken the bytes l.** -/
def Holds (w : World) (g : Nat) (l : List Nat) : Prop := ∃ r, r.length = 64 ∧ (∀ x ∈ r, x < 256) ∧ r.take (l.length % 64) = l.drop (64 * (l.length / 64)) ∧ HRow w g (blocksN rootsN startN l (l.length / 64)) r l.length
theorem Holds.belowAt {w w' : World} {g B : Nat} {l : List Nat} (h : Holds w g l) (hb : Below B w w') (hg : g < B) : Holds w' g l := by
  obtain ⟨r, h1, h2, h3, h4⟩ := h
  exact ⟨r, h1, h2, h3, h4.belowAt hb hg⟩
theorem Holds.lt {w : World} {g : Nat} {l : List Nat} (h : Holds w g l) : g < w.heap.size := by
  obtain ⟨r, h1, h2, h3, h4⟩ := h
  exact h4.lt

theorem len_nil (w : World) : Calls Tryd.prog 21 #[.pointer none] w fun e w' => e = .returned (.int .i64 0) ∧ w = w' := by
  go_enter Tryd.func21, Tryd.ntmps21
  go_wp2
  go_ret
  exact ⟨rfl, rfl⟩
theorem len_any (g : Nat) (l : List Nat) (w : World) (h : Holds w g l) : Calls Tryd.prog 21 #[.pointer (some ⟨g, 0, none⟩)] w fun e w' => e = .returned (.int .i64 (l.length : Int)) ∧ w = w' := by
  obtain ⟨r, h1, h2, h3, h4⟩ := h
  have hcl := h4.num h1
  clear h1 h2 h3 h4
  go_enter Tryd.func21, Tryd.ntmps21
  go_wp2
  go_ret
  exact ⟨rfl, rfl⟩

theorem wpList_buildTo {P : Program} {ops : Array Oper} {rest : List Oper} {o : Oper} {a : Act} {w : World} {Q : Exit → Act → World → Prop} (t : TypeId) (parts : Array (Nat × Operand)) (hg : o.guard = none) (ho : o.op = .build t parts) (cells : Array Value)
    (hf : P.built t (parts.map fun (i, x) => (i, a.eval x)).toList = some cells) (h : wpList P ops Q rest (a.put o.dst (.agg cells)) w) : wpList P ops Q (o :: rest) a w :=
  wpList_build hg t parts ho (by rw [hf]; rfl) (by rw [hf]; exact h)
theorem new_any (w : World) : Calls Tryd.prog 18 #[] w fun e w' => (∃ g, e = .returned (.pointer (some ⟨g, 0, none⟩)) ∧ w.heap.size ≤ g ∧ Holds w' g []) ∧ Below w.heap.size w w' := by
  go_enter Tryd.func18, Tryd.ntmps18
  go_wp2_with fail
  refine (start_any w).mono ?_
  rintro e w1 ⟨rfl, hb1⟩
  have hH : Hid (Holds (w1.alloc (.cells (hc startN (List.replicate 64 0) 0).toArray 53)) w1.heap.size []) :=
    Lib.hid ⟨List.replicate 64 0, rfl, (fun x hx => by have := List.eq_of_mem_replicate hx; omega), rfl, heap_alloc_new w1 _⟩
  have hB := Lib.hid (hb1.alloc hb1.size (.cells (hc startN (List.replicate 64 0) 0).toArray 53))
  have hsz := hb1.size
  go_wp2_with (refine wpList_buildTo 53 #[(0, .tmp 1)] rfl rfl (hc startN (List.replicate 64 0) 0).toArray (by kernel_rfl) ?_)
  go_ret
  exact ⟨⟨w1.heap.size, rfl, hsz, hH.out⟩, hB.out⟩
end Go.Proofs.YtifljaandphkpaaDoor
