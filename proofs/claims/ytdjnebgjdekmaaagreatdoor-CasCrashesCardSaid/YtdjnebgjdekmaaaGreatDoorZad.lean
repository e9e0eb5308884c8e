/- A set as it lies in memory: its box, its words; what a call may have changed. -/
import Derived.Test.YtdjnebgjdekmaaaGreatDoorRows
import Derived.Test.YtdjnebgjdekmaaaGreatDoorZab
import Derived.WalkKit
import Derived.WalkSpells
import Derived.WalkLawsBesides
import Derived.IntWalk
import Derived.Lib.Hide
import Derived.Below
import Derived.OneCell
import Derived.Stop.Joined
import Derived.WalkSmall
import Derived.OpenShut
import Derived.Laws.BitsAllLaws
import Derived.Laws.MakeOwn
import Derived.Laws.OwnMore
import Derived.LoopN
import Derived.RegionTactic
import Derived.BigRegion
import Derived.ChangeAlike
import Derived.Deep.QuietTactic
import Derived.BigQuiet
import Derived.Outline
set_option linter.unusedVariables false
namespace Go.Proofs.YtdjnebgjdekmaaaGreatDoor
open Go.RowKit
theorem ret_int {k : IntKind} {a b : Int} (h : a = b) : Ending.returned (.int k a) = .returned (.int k b) := by rw [h]
theorem ret_bool {a b : Bool} (h : a = b) : Ending.returned (.bool a) = .returned (.bool b) := by rw [h]
structure Chg (l : List Nat) (w w' : World) : Prop where
 below : Below 0 w w'
 same : ∀ k, k < w.heap.size → k ∉ l → w'.heap[k]? = w.heap[k]?
section
variable {l l' : List Nat} {a w w' : World}
theorem Chg.refl (l : List Nat) (w : World) : Chg l w w := ⟨Below.refl _ _, fun _ _ _ => rfl⟩
theorem Chg.size (h : Chg l w w') : w.heap.size ≤ w'.heap.size := h.below.size
theorem Chg.andThen (h : Chg l a w) (h2 : Chg l' w w') (hl : ∀ k ∈ l', k ∈ l ∨ a.heap.size ≤ k) : Chg l a w' :=
 ⟨h.below.trans h2.below, fun k hk hn => (h2.same k (Nat.lt_of_lt_of_le hk h.size) (fun hm => by rcases hl k hm with h3 | h3; exact hn h3; omega)).trans (h.same k hk hn)⟩
theorem Chg.trans (h : Chg l a w) (h2 : Chg l w w') : Chg l a w' := h.andThen h2 (fun _ hk => .inl hk)
theorem Chg.weaken (h : Chg l a w) (hl : ∀ k ∈ l, k ∈ l' ∨ a.heap.size ≤ k) : Chg l' a w := ⟨h.below, fun k hk hn => h.same k hk (fun hm => by rcases hl k hm with h3 | h3; exact hn h3; omega)⟩
theorem Chg.of_below (h : Below w.heap.size w w') : Chg l w w' := ⟨h.mono (Nat.zero_le _), fun k hk _ => h.block k hk⟩
theorem Chg.toBelow {B : Nat} (h : Chg l a w) (hl : ∀ k ∈ l, B ≤ k) (hB : B ≤ a.heap.size) : Below B a w :=
 ⟨h.below.os, h.below.tape, h.below.output, h.below.size, fun k hk => h.same k (by omega) (fun hm => by have := hl k hm; omega)⟩
theorem Chg.alloc (h : Chg l a w) (o : Obj) : Chg l a (w.alloc o) := h.trans (Chg.of_below ((Below.refl _ _).alloc (Nat.le_refl _) o))
theorem Chg.drew (h : Chg l a w) : Chg l a w.drew := ⟨h.below.drew, h.same⟩
theorem Chg.setCell (h : Chg l a w) (b j : Nat) (v : Value) (hb : b ∈ l ∨ a.heap.size ≤ b) : Chg l a (w.setCell ⟨b, j, none⟩ v) :=
 ⟨h.below.setCell (Nat.zero_le _) v, fun k hk hn => (heap_setCell_other w ⟨b, j, none⟩ k v (fun e => by subst e; rcases hb with h3 | h3; exact hn h3; omega)).trans (h.same k hk hn)⟩
theorem Chg.grown {row : Option Nat} (h : Chg l a w) (hg : w.grownBy w' row) (hr : ∀ k, row = some k → k ∈ l ∨ a.heap.size ≤ k) : Chg l a w' :=
 ⟨h.below.trans ⟨hg.os, hg.tape, hg.output, hg.size, fun k hk => absurd hk (Nat.not_lt_zero _)⟩, fun k hk hn => (hg.block k (Nat.lt_of_lt_of_le hk h.size) (fun e => by rcases hr k e.symm with h3 | h3; exact hn h3; omega)).trans (h.same k hk hn)⟩
end
section
variable {w w' : World} {b : Nat} {v : Value} {ws : List Nat}
end
end Go.Proofs.YtdjnebgjdekmaaaGreatDoor
