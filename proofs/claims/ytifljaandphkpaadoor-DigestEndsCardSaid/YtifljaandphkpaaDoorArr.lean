/-
  A block that holds plain numbers of one kind: what is read from it, stored into it, and what leaves it alone. No function of the program in sight.
-/
import Derived.Test.YtifljaandphkpaaDoorSl
import Derived.Laws.Rows
import Derived.Laws.Tables
namespace Go.Proofs.YtifljaandphkpaaDoor
open Go.RowKit
set_option linter.unusedVariables false

def cellsK (k : IntKind) (ns : List Nat) : List Value := ns.map fun x => .int k (Int.ofNat x)
theorem cellsK_append (k : IntKind) (a b : List Nat) : cellsK k (a ++ b) = cellsK k a ++ cellsK k b := List.map_append
theorem cellsK_length (k : IntKind) (a : List Nat) : (cellsK k a).length = a.length := List.length_map ..
theorem cellsK_size (k : IntKind) (a : List Nat) : (cellsK k a).toArray.size = a.length := by simp [cellsK]
theorem cellsK_set (k : IntKind) (a : List Nat) (i x : Nat) : cellsK k (a.set i x) = (cellsK k a).set i (.int k (Int.ofNat x)) := List.map_set
theorem one_K (k : IntKind) (ns : List Nat) : ∀ u ∈ cellsK k ns, u.oneCell' = true := by
  intro u hu
  obtain ⟨z, _, rfl⟩ := List.mem_map.1 hu
  rfl
theorem one_Ka (k : IntKind) (ns : List Nat) : (cellsK k ns).toArray.all (·.oneCell') = true := by
  rw [Array.all_eq_true_iff_forall_mem]
  intro u hu
  exact one_K k ns u (by simpa using hu)
/-- Block g holds just these numbers. -/
def Row (w : World) (g : Nat) (k : IntKind) (T : TypeId) (ns : List Nat) : Prop := w.heap[g]? = some (.cells (cellsK k ns).toArray T (0, 0))
section
variable {w w' : World} {g : Nat} {k : IntKind} {T : TypeId} {ns : List Nat}
theorem Row.cell (h : Row w g k T ns) (i : Nat) (hi : i < ns.length) : w.cell? ⟨g, i, none⟩ = some (.int k ((ns.getD i 0 : Nat) : Int)) := by
  rw [cell_of_row w g i _ T (0, 0) h]
  simp [cellsK, hi, List.getD]
theorem Row.free (h : Row w g k T ns) (i : Nat) : w.frozen? ⟨g, i, none⟩ = false := frozen_of_row w g i _ T h
theorem Row.set (h : Row w g k T ns) (i x : Nat) : Row (w.setCell ⟨g, i, none⟩ (.int k (x : Int))) g k T (ns.set i x) := by
  unfold Row
  rw [heap_setCell_same w g i _ T _ h, cellsK_set]
  simp
theorem Row.other (h : Row w g k T ns) (a : Addr) (v : Value) (ha : g ≠ a.block) : Row (w.setCell a v) g k T ns := by
  unfold Row
  rw [heap_setCell_other w a g v ha]
  exact h
theorem Row.lt (h : Row w g k T ns) : g < w.heap.size := by
  rcases Nat.lt_or_ge g w.heap.size with h1 | h1
  · exact h1
  · unfold Row at h
    rw [Array.getElem?_eq_none h1] at h
    cases h
theorem Row.drew (h : Row w g k T ns) : Row w.drew g k T ns := h
theorem Row.drewN (h : Row w g k T ns) (n : Nat) : Row (w.drewN n) g k T ns := h
theorem Row.alloc (h : Row w g k T ns) (o : Obj) : Row (w.alloc o) g k T ns := (heap_alloc_old w o h.lt).trans h
theorem Row.below (h : Row w g k T ns) (hb : Below w.heap.size w w') : Row w' g k T ns := (hb.block g h.lt).trans h
theorem Row.new (w : World) (k : IntKind) (T : TypeId) (ns : List Nat) : Row (w.alloc (.cells (cellsK k ns).toArray T)) w.heap.size k T ns := heap_alloc_new w _
theorem Row.setRow (h : Row w g k T ns) (ms : List Nat) : Row (w.setRow g (cellsK k ms).toArray) g k T ms := setRow_heap w g _ _ T (0, 0) h
theorem Row.setRowOther (h : Row w g k T ns) (g' : Nat) (cs : Array Value) (hg : g ≠ g') : Row (w.setRow g' cs) g k T ns := (setRow_other w g' g cs hg).trans h
end
section
variable {P : Program} {ops : Array Oper} {rest : List Oper} {o : Oper} {a : Act} {w : World} {Q : Exit → Act → World → Prop}
/-- A whole array is read. -/
theorem wpList_loadK (ty : TypeId) (x : Operand) (hgd : o.guard = none) (ho : o.op = .load ty x) (g : Nat) (k : IntKind) (T : TypeId) (ns : List Nat) (n : Nat) (e : TypeId) (hR : Hid (Row w g k T ns))
    (hx : a.eval x = .pointer (some ⟨g, 0, none⟩)) (hu : P.underlying ty = some (.array n e)) (hi : Hid ((P.info? ty).map (·.size) = some n)) (hn : Hid (ns.length = n))
    (h : wpList P ops Q rest (a.put o.dst (.agg (cellsK k ns).toArray)) w) : wpList P ops Q (o :: rest) a w :=
  wpList_load_row hgd ty x ho g hx T _ (0, 0) _ hR hu rfl (by rw [hi.out, cellsK_size, hn.out]) h
/-- A whole array is stored. -/
theorem wpList_storeK (ty : TypeId) (x y : Operand) (hgd : o.guard = none) (ho : o.op = .store ty x y) (g : Nat) (k k' : IntKind) (T : TypeId) (old ns : List Nat) (n : Nat) (hR : Hid (Row w g k' T old))
    (hx : a.eval x = .pointer (some ⟨g, 0, none⟩)) (hy : a.eval y = .agg (cellsK k ns).toArray) (hi : Hid ((P.info? ty).map (·.size) = some n)) (hn : Hid (ns.length = n)) (hn' : Hid (old.length = n))
    (h : wpList P ops Q rest (a.put o.dst undef) (w.setRow g (cellsK k ns).toArray)) : wpList P ops Q (o :: rest) a w :=
  wpList_store_row hgd ty x y ho g _ hx hy T _ hR (by rw [hi.out, cellsK_size, hn.out]) (by rw [cellsK_size, cellsK_size, hn.out, hn'.out]) (one_Ka k ns) h
theorem resultsK {fn : Func} {p : Tmp} {ty : TypeId} (h : fn.results = #[.cell p ty]) (tmps : Array Value) (g : Nat) (k : IntKind) (T : TypeId) (ns : List Nat) (n : Nat) (e : TypeId) (hp : tmps.getD p undef = .pointer (some ⟨g, 0, none⟩)) (hR : Row w g k T ns)
    (hu : P.underlying ty = some (.array n e)) (hi : Hid ((P.info? ty).map (·.size) = some n)) (hn : Hid (ns.length = n)) : (results fn tmps).run P w = .ok (.agg (cellsK k ns).toArray) w :=
  results_cell_row h tmps w g T _ (0, 0) _ hp hR hu rfl (by rw [hi.out, cellsK_size, hn.out])
end
theorem size64w : Hid ((Tryd.prog.info? 56).map (·.size) = some 64) := Lib.hid (by kernel_rfl)
theorem size8w : Hid ((Tryd.prog.info? 43).map (·.size) = some 8) := Lib.hid (by kernel_rfl)
theorem size32b : Hid ((Tryd.prog.info? 28).map (·.size) = some 32) := Lib.hid (by kernel_rfl)
theorem size64b : Hid ((Tryd.prog.info? 51).map (·.size) = some 64) := Lib.hid (by kernel_rfl)
end Go.Proofs.YtifljaandphkpaaDoor
