/- A line of values: a slice that may begin anywhere in its block; a value put behind it, the first one taken. No function of the program in sight. -/
import Derived.Test.YtdjnebgjdekmaaaGreatDoorZad
import Derived.Deep.AppendSrc
import Derived.Deep.MidRow
import Derived.Deep.Upon
set_option linter.unusedVariables false
namespace Go.Proofs.YtdjnebgjdekmaaaGreatDoor
open Go.RowKit
def blk (A : Option Addr) : List Nat := A.toList.map fun a => a.block
theorem mem_blk {A : Option Addr} {k : Nat} : k ∈ blk A ↔ ∃ ad, A = some ad ∧ ad.block = k := by
 unfold blk
 simp [Option.mem_toList]
section
variable {w w' : World} {A : Option Addr} {n c : Nat} {xs : List Value}
end
theorem setCells_one (w : World) (b o : Nat) (x : Value) : w.setCells b o [x] = w.setCell ⟨b, o, none⟩ x := rfl
theorem new_one (W : World) (x : Value) (T : TypeId) : ∀ j u, ([x] : List Value)[j]? = some u → (W.alloc (.cells #[x] T)).cell? ((⟨W.heap.size, 0, none⟩ : Addr).add j) = some u := by
 intro j u hu
 have hj : j = 0 := by
  have := (List.getElem?_eq_some_iff.1 hu).1
  simpa using this
 subst hj
 simp only [List.getElem?_cons_zero, Option.some.injEq] at hu
 subst hu
 simp [Addr.add]
theorem chg_cells (w : World) (g o : Nat) (vs : List Value) : Chg [g] w (w.setCells g o vs) :=
 ⟨⟨World.os_setCells w g o vs, by
  have : ∀ (vs : List Value) (o : Nat) (w : World), (w.setCells g o vs).tape = w.tape := by
   intro vs
   induction vs with
   | nil => intro o w; rfl
   | cons v vs ih => intro o w; exact ih (o + 1) _
  exact this vs o w, World.output_setCells w g o vs, by
  have : ∀ (vs : List Value) (o : Nat) (w : World), w.heap.size ≤ (w.setCells g o vs).heap.size := by
   intro vs
   induction vs with
   | nil => intro o w; exact Nat.le_refl _
   | cons v vs ih => intro o w; exact Nat.le_trans (by simp [World.setCell]) (ih (o + 1) (w.setCell ⟨g, o, none⟩ v))
  exact this vs o w, fun k hk => absurd hk (Nat.not_lt_zero _)⟩,
   fun k hk hn => World.heap_setCells_other w g o vs hk (fun e => hn (by rw [e]; exact List.mem_singleton_self _))⟩
end Go.Proofs.YtdjnebgjdekmaaaGreatDoor
