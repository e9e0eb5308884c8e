/- The contract of the law's lives. -/
import Derived.Test.YtdjnebgjdekmaaaGreatDoorZaz
import Derived.Lib.SlBytesConst
set_option linter.unusedVariables false
set_option maxRecDepth 100000
namespace Go.Proofs.YtdjnebgjdekmaaaGreatDoor
open Go.RowKit Go.Shelf
theorem append_ready {P : Program} {md : Region.Mode} {ops : Array Oper} {Q : Exit → Act → World → Prop} {fuel : Nat} {listed : Array Bool} {a : Act} {w : World} {i : Nat} {o : Oper} (ho : ops[i]? = some o) (hw : Region.wanted o (yielded ops a.tmps) = true)
 (s x : Operand) (t tn : TypeId) (hop : o.op = Op.call { callee := Callee.builtin Builtin.append, args := #[s, x], argTypes := #[t, tn] }) (vs vx : Value) (hs : a.eval s = vs) (hx : a.eval x = vx)
 (v' : Value) (w' : World) (hr : (Builtin.append_ #[t, tn] o.type #[vs, vx]).run P w = .ok v' w') (h : wpAny P md ops Q fuel (listed.setIfInBounds i true) (a.put o.dst v') w') : AllReady P md ops Q fuel listed a w [i] := by
 refine AllReady.cons ho (fun K' hK => ?_) AllReady.nil
 rw [if_pos hw]
 exact Lib.wp_append_run w s x t tn hop vs vx hs hx v' w' hr (hK _ _ h)
theorem bytes_push (w : World) (A : Option Addr) (n c : Nat) (l : List Nat) (h : BLine w A n c l) (hn : n ≤ 100000) (B : Option Addr) (m d : Nat) (k : List Nat) (hk : RowN w B m k) (hm : m ≤ 100000) (hA : A = none → 0 < m) :
 ∃ A' c' w', (Builtin.append_ #[40, 40] 40 #[.slice A n c, .slice B m d]).run Tryz.prog w = .ok (.slice A' (n + m) c') w' ∧ BLine w' A' (n + m) c' (l ++ k) ∧ Chg (blk A) w w' ∧ (∀ k ∈ blk A', k ∈ blk A ∨ w.heap.size ≤ k) ∧ A' ≠ none := by
 obtain ⟨A', c', w', hr, hl, hc, hf, hne⟩ := sline_append 1 w 40 5 40 _ 1 Tryz.underlying40 info_u8 rfl (by decide) A n c _ h.2 (by omega) _ m (by omega) hA _ (hk.src (cap := d))
 exact ⟨A', c', w', hr, ⟨bytesN_append h.1 hk.bytes, by rw [asZ_append, cellsZ_append]; exact hl⟩, hc, hf, hne⟩
theorem lit_row (w : World) (l : List Nat) (fz : Nat × Nat) (h : bytesN l) : RowN (w.alloc (.cells (cellsZ (asZ l)).toArray 5 fz)) (some ⟨w.heap.size, 0, none⟩) l.length l := by
 refine ⟨asZ_length l, fun z hz => ?_, fun hn => ⟨w.heap.size, 0, rfl, by simp, fun i hi => ?_⟩⟩
 · obtain ⟨x, hx, rfl⟩ := List.mem_map.1 hz
   have := h x hx
   show (0 : Int) ≤ (x : Int) ∧ (x : Int) ≤ 255
   omega
 · have hg : (w.alloc (.cells (cellsZ (asZ l)).toArray 5 fz)).heap[w.heap.size]? = some (.cells (cellsZ (asZ l)).toArray 5 fz) := heap_alloc_new w _
   rw [cell_of_row _ _ _ _ _ fz hg, Nat.zero_add]
   simp [cellsZ, asZ, hi]
end Go.Proofs.YtdjnebgjdekmaaaGreatDoor
