/-
  The document's disk: At, a name's file.
-/
import Derived.Test.YtfeccceemledjaaZav
namespace Go.Proofs.Ytfeccceemledjaa
open Go.RowKit Go.Maps
set_option linter.unusedVariables false
set_option maxRecDepth 100000

/-- A name's file; -1: none. -/
def atN (ps : List (ByteArray × Value)) (x : ByteArray) : Int := match lookP ltS ps x with | some v => (numOf v : Int) | none => -1
/-- The values are numbers. -/
def Nums (ps : List (ByteArray × Value)) : Prop := ∀ p ∈ ps, ∃ k : Nat, p.2 = numV k ∧ k ≤ 1000000
theorem look_here {ps : List (ByteArray × Value)} (hr : Rises ltS ps) {x : ByteArray} {v : Value} {k : Nat} (h : ps[k]? = some (x, v)) : lookP ltS ps x = some v := (look_some orders_S hr).2 (List.mem_of_getElem? h)
theorem look_nowhere {ps : List (ByteArray × Value)} (hr : Rises ltS ps) {x : ByteArray} (h : ∀ p ∈ ps, p.1 ≠ x) : lookP ltS ps x = none := (look_none orders_S hr).2 fun v hm => h _ hm rfl
theorem beq_bytes {a b : ByteArray} : (a.toList == b.toList) = decide (a = b) := by
  by_cases h : a = b
  · subst h; simp
  · rw [decide_eq_false h]
    simp only [beq_eq_false_iff_ne, ne_eq]
    exact fun e => h (bytes_inj e)
end Go.Proofs.Ytfeccceemledjaa
