/-
  'append' of bytes onto a slice of the call's own, nil and empty ones served; what such a slice then is.
-/
import Derived.Test.YtkjdjglknbgeaaaGreatDoorZap
import Derived.Laws.AppendOwnNone
namespace Go.Proofs.YtkjdjglknbgeaaaGreatDoor
open Go.RowKit
set_option linter.unusedVariables false

section
variable {w : World} {base : Nat} {v : Value} {n : Nat} {l : List Nat}
theorem own_block_ge {e : TypeId} {size : Nat} {xs : List Value} (h : w.ownsRow base e size v n xs) : ∀ k, v.ownBlock = some k → base ≤ k := by
  intro k hk
  rcases h.2 with ⟨rfl, _⟩ | ⟨g, cap, cur, rfl, hb, _⟩
  · cases hk
  · simp only [Value.ownBlock, Option.some.injEq] at hk
    omega
theorem held_of_own (h : w.ownsRow base 5 1 v n (cellsZ (asZ l))) (hz : ∀ x ∈ l, x < 256) (hl : l.length = n) : ∃ A c, v = .slice A n c ∧ Held w A n c l ∧ c ≤ 9223372036854775807 := by
  rcases h.2 with ⟨rfl, hn⟩ | ⟨g, cap, cur, rfl, hb, hg, hnc, hcm, _⟩
  · subst hn
    have e : l = [] := List.eq_nil_of_length_eq_zero hl
    subst e
    exact ⟨none, 0, rfl, ⟨RowN.nilS, fun _ => rfl, by omega⟩, by omega⟩
  · exact ⟨_, cap, rfl, ⟨RowN.of_own h hz hl, (fun h => by cases h), hnc⟩, by unfold maxLen at hcm; omega⟩
theorem Held.nil_zero {A : Option Addr} {m c : Nat} (h : Held w A m c l) (hA : A = none) : m = 0 ∧ c = 0 := by
  refine ⟨?_, h.2.1 hA⟩
  have := h.2.2
  have := h.2.1 hA
  omega
/-- An empty literal. -/
theorem own_empty (w : World) : (w.alloc (.cells #[] 5)).ownsRow w.heap.size 5 1 (.slice (some ⟨w.heap.size, 0, none⟩) 0 0) 0 (cellsZ (asZ [])) :=
  own_of_heap (xs := []) (ys := []) (heap_alloc_new w _) (Nat.le_refl _) rfl rfl (by omega)
theorem own_none (w : World) (base : Nat) : w.ownsRow base 5 1 (.slice none 0 0) 0 (cellsZ (asZ [])) := ⟨rfl, .inl ⟨rfl, rfl⟩⟩
end

theorem wpList_appendN {ops : Array Oper} {rest : List Oper} {o : Oper} {a : Act} {w : World} {Q : Exit → Act → World → Prop} (s x : Operand) (hgd : o.guard = none)
    (ho : o.op = .call { callee := .builtin .append, args := #[s, x], argTypes := #[22, 22] })
    (base : Nat) (v : Value) (n : Nat) (l : List Nat) (hs : a.eval s = v) (hown : Hid (w.ownsRow base 5 1 v n (cellsZ (asZ l))))
    (A : Option Addr) (m c : Nat) (l2 : List Nat) (hx : a.eval x = .slice A m c) (hH : Hid (Held w A m c l2)) (hb : n + m ≤ 1000000) (hbase : base ≤ w.heap.size)
    (h : ∀ v' w', Hid (w'.ownsRow base 5 1 v' (n + m) (cellsZ (asZ (l ++ l2)))) → Hid (Below base w w') → wpList Tryz.prog ops Q rest (a.put o.dst v') w') : wpList Tryz.prog ops Q (o :: rest) a w := by
  obtain ⟨i0, hi, hz0, hz1, hz2⟩ := info_parts info_u8
  cases A with
  | none =>
    obtain ⟨rfl, rfl⟩ := hH.out.nil_zero rfl
    have e : l2 = [] := List.eq_nil_of_length_eq_zero hH.out.1.length
    subst e
    refine wpList_append_own_none hgd s x 22 ho base 5 i0 1 Tryz.underlying22 hi v n _ hs hown.out hx (h v w ?_ (Below.refl _ _))
    rw [List.append_nil]
    exact hown
  | some ad =>
    refine wpList_append_own w hgd s x 22 ho base 5 i0 (.int .u8 0) 1 1 Tryz.underlying22 hi hz0 hz1 hz2 rfl (by decide) v n _ hs hown.out ad m c (cellsZ (asZ l2)) hx (by rw [cellsZ, List.length_map, hH.out.1.1]; omega) (hH.out.1.srcAny ad rfl) (one_u8 _) (by unfold maxLen; omega) (by omega) hbase ?_
    intro v' w' h1 h2 h3
    refine h v' w' ?_ ((Below.refl _ _).grown h2 hbase (own_block_ge hown.out))
    rw [asZ_append, cellsZ_append]
    exact h1
end Go.Proofs.YtkjdjglknbgeaaaGreatDoor
