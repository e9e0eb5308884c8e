/- 'append' of bytes onto a slice of the call's own, nil and empty ones served; what such a slice then is. -/
import Derived.Test.YtdjnebgjdekmaaaGreatDoorZao
import Derived.Laws.AppendOwnNone
set_option linter.unusedVariables false
namespace Go.Proofs.YtdjnebgjdekmaaaGreatDoor
open Go.RowKit
section
variable {w : World} {base : Nat} {v : Value} {n : Nat} {l : List Nat}
theorem own_block_ge {e : TypeId} {size : Nat} {xs : List Value} (h : w.ownsRow base e size v n xs) : ∀ k, v.ownBlock = some k → base ≤ k := by
 intro k hk
 rcases h.2 with ⟨rfl, _⟩ | ⟨g, cap, cur, rfl, hb, _⟩
 · cases hk
 · simp only [Value.ownBlock, Option.some.injEq] at hk
   omega
theorem own_empty (w : World) : (w.alloc (.cells #[] 5)).ownsRow w.heap.size 5 1 (.slice (some ⟨w.heap.size, 0, none⟩) 0 0) 0 (cellsZ (asZ [])) :=
 own_of_heap (xs := []) (ys := []) (heap_alloc_new w _) (Nat.le_refl _) rfl rfl (by omega)
theorem own_none (w : World) (base : Nat) : w.ownsRow base 5 1 (.slice none 0 0) 0 (cellsZ (asZ [])) := ⟨rfl, .inl ⟨rfl, rfl⟩⟩
end
theorem run_append_noneC {P : Program} {w : World} (base : Nat) (t ty e : TypeId) (i : TypeInfo) (size c : Nat) (ht : P.underlying t = some (.slice e)) (hi : P.info? e = some i)
 (v : Value) (n : Nat) (xs : List Value) (hown : w.ownsRow base e size v n xs) : (Builtin.append_ #[t, t] ty #[v, .slice none 0 c]).run P w = .ok v w := by
 rcases hown.2 with ⟨rfl, rfl⟩ | ⟨g, cap, cur, rfl, _, _, hnc, _⟩
 · simp [Builtin.append_, run_underlying ht, sizeOf, typeInfo, hi, Builtin.lenOf, Builtin.firstCells]
 · simp [Builtin.append_, run_underlying ht, sizeOf, typeInfo, hi, Builtin.lenOf, Builtin.firstCells, hnc, storeCells]
theorem wpList_append_noneC {P : Program} {w : World} {ops : Array Oper} {rest : List Oper} {o : Oper} {a : Act} {Q : Exit → Act → World → Prop} (hgd : o.guard = none) (s x : Operand) (t : TypeId)
 (ho : o.op = .call { callee := .builtin .append, args := #[s, x], argTypes := #[t, t] })
 (base : Nat) (e : TypeId) (i : TypeInfo) (size c : Nat) (ht : P.underlying t = some (.slice e)) (hi : P.info? e = some i)
 (v : Value) (n : Nat) (xs : List Value) (hs : a.eval s = v) (hown : w.ownsRow base e size v n xs) (hx : a.eval x = .slice none 0 c)
 (h : wpList P ops Q rest (a.put o.dst v) w) : wpList P ops Q (o :: rest) a w := by
 refine wpList_plain hgd fun K hK => ?_
 have hrun := run_append_noneC (P := P) (w := w) base t o.type e i size c ht hi v n xs hown
 unfold Oper.wp
 simp [execOp, ho, resolve, invoke, builtin, hs, hx, hrun, Result.andThen]
 exact hK _ _ h
theorem wpList_appendN {ops : Array Oper} {rest : List Oper} {o : Oper} {a : Act} {w : World} {Q : Exit → Act → World → Prop} (s x : Operand) (hgd : o.guard = none)
 (ho : o.op = .call { callee := .builtin .append, args := #[s, x], argTypes := #[40, 40] })
 (base : Nat) (v : Value) (n : Nat) (l : List Nat) (hs : a.eval s = v) (hown : Hid (w.ownsRow base 5 1 v n (cellsZ (asZ l))))
 (A : Option Addr) (m c : Nat) (l2 : List Nat) (hx : a.eval x = .slice A m c) (hH : Hid (RowN w A m l2)) (hb : n + m ≤ 1000000) (hbase : base ≤ w.heap.size)
 (h : ∀ v' w', Hid (w'.ownsRow base 5 1 v' (n + m) (cellsZ (asZ (l ++ l2)))) → Hid (Below base w w') → wpList Tryz.prog ops Q rest (a.put o.dst v') w') : wpList Tryz.prog ops Q (o :: rest) a w := by
 obtain ⟨i0, hi, hz0, hz1, hz2⟩ := info_parts info_u8
 cases A with
 | none =>
  obtain rfl : m = 0 := by
   rcases Nat.eq_zero_or_pos m with h0 | h0
   · exact h0
   · obtain ⟨_, _, e, _⟩ := hH.out.cells h0; cases e
  have e : l2 = [] := List.eq_nil_of_length_eq_zero hH.out.length
  subst e
  refine wpList_append_noneC hgd s x 40 ho base 5 i0 1 c Tryz.underlying40 hi v n _ hs hown.out hx (h v w ?_ (Below.refl _ _))
  rw [List.append_nil]
  exact hown
 | some ad =>
  refine wpList_append_own w hgd s x 40 ho base 5 i0 (.int .u8 0) 1 1 Tryz.underlying40 hi hz0 hz1 hz2 rfl (by decide) v n _ hs hown.out ad m c (cellsZ (asZ l2)) hx (by rw [cellsZ, List.length_map, hH.out.1]; omega) (hH.out.srcAny ad rfl) (one_u8 _) (by unfold maxLen; omega) (by omega) hbase ?_
  intro v' w' h1 h2 h3
  refine h v' w' ?_ ((Below.refl _ _).grown h2 hbase (own_block_ge hown.out))
  rw [asZ_append, cellsZ_append]
  exact h1
end Go.Proofs.YtdjnebgjdekmaaaGreatDoor
