/-
  A line in memory, and out of its reading.
-/
import Derived.Test.YtadgemcpahfkoaaKmh
import Derived.Deep.RegionHeld3
namespace Go.Proofs.Ytadgemcpahfkoaa
open Go.RowKit
open Go.ChangeShapes Go.WideShapes
set_option linter.unusedVariables false
set_option linter.unusedSimpArgs false
set_option maxRecDepth 100000

/-- A line in memory: its seven cells. -/
def LnAt (w : World) (p : Nat) (k op d a b n : Int) (s : ByteArray) : Prop :=
  p < w.heap.size ∧ w.cell? ⟨p, 0, none⟩ = some (.int .i64 k) ∧ w.cell? ⟨p, 1, none⟩ = some (.int .i64 op) ∧ w.cell? ⟨p, 2, none⟩ = some (.int .i64 d) ∧ w.cell? ⟨p, 3, none⟩ = some (.int .i64 a) ∧
  w.cell? ⟨p, 4, none⟩ = some (.int .i64 b) ∧ w.cell? ⟨p, 5, none⟩ = some (.int .i32 n) ∧ w.cell? ⟨p, 6, none⟩ = some (.string s)
theorem LnAt.below {w w' : World} {p : Nat} {k op d a b n : Int} {s : ByteArray} (h : LnAt w p k op d a b n s) (hb : Below w.heap.size w w') : LnAt w' p k op d a b n s := by
  obtain ⟨h0, a0, a1, a2, a3, a4, a5, a6⟩ := h
  exact ⟨Nat.lt_of_lt_of_le h0 hb.size, (hb.cell (p := ⟨p, 0, none⟩) h0).trans a0, (hb.cell (p := ⟨p, 1, none⟩) h0).trans a1, (hb.cell (p := ⟨p, 2, none⟩) h0).trans a2, (hb.cell (p := ⟨p, 3, none⟩) h0).trans a3, (hb.cell (p := ⟨p, 4, none⟩) h0).trans a4, (hb.cell (p := ⟨p, 5, none⟩) h0).trans a5, (hb.cell (p := ⟨p, 6, none⟩) h0).trans a6⟩
theorem LnAt.new (w : World) (k op d a b n : Int) (s : ByteArray) (t : TypeId) : LnAt (w.alloc (.cells #[.int .i64 k, .int .i64 op, .int .i64 d, .int .i64 a, .int .i64 b, .int .i32 n, .string s] t)) w.heap.size k op d a b n s := by
  have h := fun j => cell_of_row (w.alloc (.cells #[.int .i64 k, .int .i64 op, .int .i64 d, .int .i64 a, .int .i64 b, .int .i32 n, .string s] t)) w.heap.size j _ t (0, 0) (heap_alloc_new w _)
  refine ⟨by simp, ?_, ?_, ?_, ?_, ?_, ?_, ?_⟩ <;> rw [h] <;> rfl

theorem bounds_i32' {n : Int} (h : (Lit.int .i32 n).wf = true) : -2147483648 ≤ n ∧ n ≤ 2147483647 := by
  simp only [Lit.wf, Bool.and_eq_true, decide_eq_true_eq] at h
  exact h

theorem seven_of {α : Type} (cs : List α) (h : cs.length = 7) : ∃ a b c d e f g, cs = [a, b, c, d, e, f, g] := by
  match cs, h with
  | [a, b, c, d, e, f, g], _ => exact ⟨a, b, c, d, e, f, g, rfl⟩

/-- A line out of its reading. -/
theorem line_of {H : Type} {enc : TypeId × Value → H} {W : World} {base fuel : Nat} {spare : Nat → Bool} {held : Bool} {cs : List Value} {x : DataW H × List MemPlace}
    (h : DataW.trod enc Try.prog W base spare held fuel 39 cs = some x) :
    ∃ (k op d a b n : Int) (s : ByteArray), cs = [.int .i64 k, .int .i64 op, .int .i64 d, .int .i64 a, .int .i64 b, .int .i32 n, .string s] ∧ (-2147483648 ≤ n ∧ n ≤ 2147483647) ∧ s.size ≤ maxLen := by
  obtain ⟨xs, m, _, rfl, hl, hlen, hf⟩ := DataW.trod_struct Try.underlying39 h
  have hc : Try.prog.cellsOf 39 = 7 := by kernel_rfl
  have hc1 : Try.prog.cellsOf 3 = 1 := by kernel_rfl
  have hc2 : Try.prog.cellsOf 21 = 1 := by kernel_rfl
  have hc3 : Try.prog.cellsOf 9 = 1 := by kernel_rfl
  rw [hc] at hl
  obtain ⟨c0, c1, c2, c3, c4, c5, c6, rfl⟩ := seven_of cs hl
  obtain ⟨y0, y1, y2, y3, y4, y5, y6, rfl⟩ := seven_of xs hlen
  have g0 := hf 0 { name := "Kind", type := 3, offset := 0, embedded := false, tag := "", pkgPath := "", byteOffset := 0 } rfl
  have g1 := hf 1 { name := "Op", type := 3, offset := 1, embedded := false, tag := "", pkgPath := "", byteOffset := 8 } rfl
  have g2 := hf 2 { name := "D", type := 3, offset := 2, embedded := false, tag := "", pkgPath := "", byteOffset := 16 } rfl
  have g3 := hf 3 { name := "A", type := 3, offset := 3, embedded := false, tag := "", pkgPath := "", byteOffset := 24 } rfl
  have g4 := hf 4 { name := "B", type := 3, offset := 4, embedded := false, tag := "", pkgPath := "", byteOffset := 32 } rfl
  have g5 := hf 5 { name := "Num", type := 21, offset := 5, embedded := false, tag := "", pkgPath := "", byteOffset := 40 } rfl
  have g6 := hf 6 { name := "Sym", type := 9, offset := 6, embedded := false, tag := "", pkgPath := "", byteOffset := 48 } rfl
  simp only [hc1, hc2, hc3, List.drop_zero, List.drop_succ_cons, List.take_succ_cons, List.take_zero, List.getElem?_cons_zero, List.getElem?_cons_succ] at g0 g1 g2 g3 g4 g5 g6
  obtain ⟨n0, e0, -, -⟩ := DataW.trod_int Try.underlying3 g0
  obtain ⟨n1, e1, -, -⟩ := DataW.trod_int Try.underlying3 g1
  obtain ⟨n2, e2, -, -⟩ := DataW.trod_int Try.underlying3 g2
  obtain ⟨n3, e3, -, -⟩ := DataW.trod_int Try.underlying3 g3
  obtain ⟨n4, e4, -, -⟩ := DataW.trod_int Try.underlying3 g4
  obtain ⟨n5, e5, -, w5⟩ := DataW.trod_int Try.underlying21 g5
  obtain ⟨n6, e6, -, w6⟩ := DataW.trod_string Try.underlying9 g6
  simp only [List.cons.injEq, and_true] at e0 e1 e2 e3 e4 e5 e6
  subst e0 e1 e2 e3 e4 e5 e6
  exact ⟨n0, n1, n2, n3, n4, n5, n6, rfl, bounds_i32' w5, w6⟩
end Go.Proofs.Ytadgemcpahfkoaa
