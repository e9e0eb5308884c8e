/-
  The table of instructions (code.rows) as it stands in memory, out of its reading; contracts of Encode's table.
-/
import Derived.Test.YtonkpojoniehlaaDoorKmc
import Derived.Lib.LaidTab
import Derived.Stop.LaidErr
import Derived.LaidMore
import Derived.ChangeSame
import Derived.Deep.Strs
import Derived.OpenShut
namespace Go.Proofs.YtonkpojoniehlaaDoor
open Go.RowKit
open Go.ChangeShapes Go.WideShapes
set_option linter.unusedVariables false
set_option linter.unusedSimpArgs false

/-- The instructions' rows stand in the world. -/
def RowsOk (w : World) : Prop := 0 < w.heap.size ∧ ∀ op, op < 31 →
  w.cell? ⟨0, 4 * op, none⟩ = some (.int .i64 (formN op)) ∧ w.cell? ⟨0, 4 * op + 1, none⟩ = some (.int .u32 (lowN op)) ∧
  w.cell? ⟨0, 4 * op + 2, none⟩ = some (.int .u32 (midN op)) ∧ w.cell? ⟨0, 4 * op + 3, none⟩ = some (.int .u32 (highN op))
theorem RowsOk.below {w w' : World} (h : RowsOk w) (hb : Below w.heap.size w w') : RowsOk w' :=
  ⟨Nat.lt_of_lt_of_le h.1 hb.size, fun op ho => by
    obtain ⟨a, b, c, d⟩ := h.2 op ho
    exact ⟨(hb.cell (p := ⟨0, 4 * op, none⟩) h.1).trans a, (hb.cell (p := ⟨0, 4 * op + 1, none⟩) h.1).trans b, (hb.cell (p := ⟨0, 4 * op + 2, none⟩) h.1).trans c, (hb.cell (p := ⟨0, 4 * op + 3, none⟩) h.1).trans d⟩⟩

def rowD (op : Nat) : DataW Unit := .agg [.lit (.int .i64 (formN op)), .agg [.lit (.int .u32 (lowN op)), .lit (.int .u32 (midN op)), .lit (.int .u32 (highN op))]]
theorem rows_data : Rows.laid_brazier_code_rows (H := Unit) = .agg ((List.range 31).map rowD) := by kernel_rfl

theorem four_of {α : Type} (cs : List α) (h : cs.length = 4) : ∃ a b c d, cs = [a, b, c, d] := by
  match cs, h with
  | [a, b, c, d], _ => exact ⟨a, b, c, d, rfl⟩
theorem row_cells {enc : TypeId × Value → Unit} {W : World} {base fuel : Nat} {spare : Nat → Bool} {held : Bool} {cs : List Value} {op : Nat} {p : List MemPlace}
    (h : DataW.trod enc Tryd.prog W base spare held fuel 55 cs = some (rowD op, p)) :
    cs = [.int .i64 (formN op), .int .u32 (lowN op), .int .u32 (midN op), .int .u32 (highN op)] := by
  obtain ⟨y0, y1, m, hx, hl, h0, h1⟩ := Go.ChangeShapes.trod_struct2 Tryd.underlying55 h
  have hc : Tryd.prog.cellsOf 55 = 4 := by kernel_rfl
  have hc1 : Tryd.prog.cellsOf 51 = 1 := by kernel_rfl
  have hc2 : Tryd.prog.cellsOf 53 = 3 := by kernel_rfl
  have hc3 : Tryd.prog.cellsOf 30 = 1 := by kernel_rfl
  rw [hc] at hl
  obtain ⟨c0, c1, c2, c3, rfl⟩ := four_of cs hl
  simp only [rowD, Prod.mk.injEq, DataW.agg.injEq, List.cons.injEq, and_true] at hx
  obtain ⟨⟨x0, x1⟩, -⟩ := hx
  simp only [hc1, hc2, List.drop_zero, List.drop_succ_cons, List.take_succ_cons, List.take_zero] at h0 h1
  obtain ⟨n0, e0, f0, -⟩ := DataW.trod_int Tryd.underlying51 h0
  obtain ⟨z0, z1, z2, m2, hx2, hl2, g0, g1, g2⟩ := Go.Deep.trod_struct3 Tryd.underlying53 h1
  simp only [hc3, List.drop_zero, List.drop_succ_cons, List.take_succ_cons, List.take_zero] at g0 g1 g2
  obtain ⟨n1, e1, f1, -⟩ := DataW.trod_int Tryd.underlying30 g0
  obtain ⟨n2, e2, f2, -⟩ := DataW.trod_int Tryd.underlying30 g1
  obtain ⟨n3, e3, f3, -⟩ := DataW.trod_int Tryd.underlying30 g2
  subst f0 f1 f2 f3
  simp only [hx2, DataW.agg.injEq, List.cons.injEq, and_true, DataW.lit.injEq, Lit.int.injEq, true_and] at x0 x1
  simp only [List.cons.injEq, and_true] at e0 e1 e2 e3
  rw [e0, e1, e2, e3, ← x0, ← x1.1, ← x1.2.1, ← x1.2.2]

theorem rows_of_laid {W : World} (h : laidMetH Tryd.prog [("brazier/code.rows", Rows.laid_brazier_code_rows)] W) : RowsOk W := by
  rw [MakeChecks.laidMetH_plain _ _ _ (by kernel_rfl), rows_data] at h
  obtain ⟨ps, ⟨g', t', cs, fuel, p, q, hg', ht', hvar, hd, _, _⟩, _⟩ := h
  obtain rfl := Option.some.inj ((show Tryd.prog.globalNamed "brazier/code.rows" = some 0 by kernel_rfl).symm.trans hg')
  obtain rfl := Option.some.inj ((show (Tryd.prog.globals[0]?).map (·.type) = some 56 by kernel_rfl).symm.trans ht')
  obtain ⟨xs, m, _, hx, hl, hlen, he⟩ := DataW.trod_array Tryd.underlying56 hd
  have hc : Tryd.prog.cellsOf 55 = 4 := by kernel_rfl
  have hc2 : Tryd.prog.cellsOf 56 = 124 := by kernel_rfl
  rw [hc2] at hl
  have hx1 : (List.range 31).map rowD = xs.map (·.1) := by simpa using (congrArg Prod.fst hx)
  have key : ∀ op, op < 31 → (cs.toList.drop (op * 4)).take 4 = [.int .i64 (formN op), .int .u32 (lowN op), .int .u32 (midN op), .int .u32 (highN op)] := fun op ho => by
    have h1 := he op ho
    rw [hc] at h1
    obtain ⟨y, hy⟩ : ∃ y, xs[op]? = some y := ⟨_, List.getElem?_eq_getElem (by omega)⟩
    have h2 : y.1 = rowD op := by
      have := congrArg (·[op]?) hx1
      simp [hy, ho] at this
      exact this.symm
    rw [hy] at h1
    obtain ⟨y1, y2⟩ := y
    obtain rfl : y1 = rowD op := h2
    exact row_cells h1
  have at4 : ∀ op j, op < 31 → j < 4 → W.cell? ⟨0, 4 * op + j, none⟩ = [Value.int .i64 (formN op), .int .u32 (lowN op), .int .u32 (midN op), .int .u32 (highN op)][j]? := fun op j ho hj => by
    have h1 := key op ho
    rw [World.var?_cell (by kernel_rfl) hvar, ← h1, List.getElem?_take, if_pos hj, List.getElem?_drop, Nat.mul_comm, Array.getElem?_toList]
  have a4 : ∀ op, op < 31 → _ := fun op ho => And.intro (at4 op 0 ho (by decide)) (And.intro (at4 op 1 ho (by decide)) (And.intro (at4 op 2 ho (by decide)) (at4 op 3 ho (by decide))))
  refine ⟨World.block_lt_of_cell? W _ (at4 0 0 (by decide) (by decide)), fun op ho => a4 op ho⟩
end Go.Proofs.YtonkpojoniehlaaDoor
