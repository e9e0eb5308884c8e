/-
  A set as it lies in memory: its box, its words; what a call may have changed.
-/
import Derived.Test.YtmedhibjkbahpaaRows
import Derived.Test.YtmedhibjkbahpaaZad
import Derived.WalkKit
import Derived.WalkSpells
import Derived.WalkLawsBesides
import Derived.IntWalk
import Derived.Lib.Hide
import Derived.Below
import Derived.OneCell
import Derived.Stop.Joined
import Derived.WalkSmall
import Derived.OpenShut
import Derived.Laws.BitsAllLaws
import Derived.Laws.MakeOwn
import Derived.Laws.OwnMore
import Derived.LoopN
import Derived.RegionTactic
import Derived.BigRegion
import Derived.ChangeAlike
import Derived.Deep.QuietTactic
import Derived.BigQuiet
import Derived.Outline
namespace Go.Proofs.Ytmedhibjkbahpaa
open Go.RowKit
set_option linter.unusedVariables false

theorem ret_int {k : IntKind} {a b : Int} (h : a = b) : Ending.returned (.int k a) = .returned (.int k b) := by rw [h]
theorem ret_bool {a b : Bool} (h : a = b) : Ending.returned (.bool a) = .returned (.bool b) := by rw [h]

/-- At most the blocks of l, and new ones, were written. -/
structure Chg (l : List Nat) (w w' : World) : Prop where
  below : Below 0 w w'
  same : ∀ k, k < w.heap.size → k ∉ l → w'.heap[k]? = w.heap[k]?
section
variable {l l' : List Nat} {a w w' : World}
theorem Chg.refl (l : List Nat) (w : World) : Chg l w w := ⟨Below.refl _ _, fun _ _ _ => rfl⟩
theorem Chg.size (h : Chg l w w') : w.heap.size ≤ w'.heap.size := h.below.size
theorem Chg.andThen (h : Chg l a w) (h2 : Chg l' w w') (hl : ∀ k ∈ l', k ∈ l ∨ a.heap.size ≤ k) : Chg l a w' :=
  ⟨h.below.trans h2.below, fun k hk hn => (h2.same k (Nat.lt_of_lt_of_le hk h.size) (fun hm => by rcases hl k hm with h3 | h3; exact hn h3; omega)).trans (h.same k hk hn)⟩
theorem Chg.trans (h : Chg l a w) (h2 : Chg l w w') : Chg l a w' := h.andThen h2 (fun _ hk => .inl hk)
theorem Chg.weaken (h : Chg l a w) (hl : ∀ k ∈ l, k ∈ l' ∨ a.heap.size ≤ k) : Chg l' a w := ⟨h.below, fun k hk hn => h.same k hk (fun hm => by rcases hl k hm with h3 | h3; exact hn h3; omega)⟩
theorem Chg.of_below (h : Below w.heap.size w w') : Chg l w w' := ⟨h.mono (Nat.zero_le _), fun k hk _ => h.block k hk⟩
theorem Chg.toBelow {B : Nat} (h : Chg l a w) (hl : ∀ k ∈ l, B ≤ k) (hB : B ≤ a.heap.size) : Below B a w :=
  ⟨h.below.os, h.below.tape, h.below.output, h.below.size, fun k hk => h.same k (by omega) (fun hm => by have := hl k hm; omega)⟩
theorem Chg.alloc (h : Chg l a w) (o : Obj) : Chg l a (w.alloc o) := h.trans (Chg.of_below ((Below.refl _ _).alloc (Nat.le_refl _) o))
theorem Chg.drew (h : Chg l a w) : Chg l a w.drew := ⟨h.below.drew, h.same⟩
theorem Chg.drewN (h : Chg l a w) (n : Nat) : Chg l a (w.drewN n) := ⟨⟨h.below.os, h.below.tape, h.below.output, h.below.size, h.below.block⟩, h.same⟩
theorem Chg.setCell (h : Chg l a w) (b j : Nat) (v : Value) (hb : b ∈ l ∨ a.heap.size ≤ b) : Chg l a (w.setCell ⟨b, j, none⟩ v) :=
  ⟨h.below.setCell (Nat.zero_le _) v, fun k hk hn => (heap_setCell_other w ⟨b, j, none⟩ k v (fun e => by subst e; rcases hb with h3 | h3; exact hn h3; omega)).trans (h.same k hk hn)⟩
theorem Chg.grown {row : Option Nat} (h : Chg l a w) (hg : w.grownBy w' row) (hr : ∀ k, row = some k → k ∈ l ∨ a.heap.size ≤ k) : Chg l a w' :=
  ⟨h.below.trans ⟨hg.os, hg.tape, hg.output, hg.size, fun k hk => absurd hk (Nat.not_lt_zero _)⟩, fun k hk hn => (hg.block k (Nat.lt_of_lt_of_le hk h.size) (fun e => by rcases hr k e.symm with h3 | h3; exact hn h3; omega)).trans (h.same k hk hn)⟩
end

def cellsW (ws : List Nat) : List Value := ws.map fun (x : Nat) => Value.int .u64 (x : Int)
theorem cellsW_length (ws : List Nat) : (cellsW ws).length = ws.length := List.length_map ..
theorem cellsW_append (a b : List Nat) : cellsW (a ++ b) = cellsW a ++ cellsW b := List.map_append
theorem cellsW_at (ws : List Nat) (k : Nat) (h : k < ws.length) : (cellsW ws)[k]? = some (.int .u64 (wd ws k : Int)) := by
  simp [cellsW, wd, List.getD, h]
theorem cellsW_set (ws : List Nat) (k v : Nat) : cellsW (ws.set k v) = (cellsW ws).set k (.int .u64 (v : Int)) := by
  unfold cellsW
  rw [List.map_set]
theorem one_W (ws : List Nat) : ∀ u ∈ cellsW ws, u.oneCell' = true := by
  intro u hu
  obtain ⟨z, _, rfl⟩ := List.mem_map.1 hu
  rfl
/-- The slice A, n, c holds the words ws. -/
def Words (w : World) (A : Option Addr) (n c : Nat) (ws : List Nat) : Prop :=
  ws.length = n ∧ n ≤ c ∧ c ≤ maxLen ∧ (A = none → c = 0) ∧ ∀ ad, A = some ad → ∃ g, ad = ⟨g, 0, none⟩ ∧ g < w.heap.size ∧ ∀ i, i < n → w.cell? ⟨g, i, none⟩ = some (.int .u64 (wd ws i : Int))
/-- The blocks of a set. -/
def foot (b : Nat) (v : Value) : List Nat := b :: v.ownBlock.toList
theorem mem_foot {b : Nat} {v : Value} {k : Nat} : k ∈ foot b v ↔ k = b ∨ v.ownBlock = some k := by
  unfold foot
  simp [Option.mem_toList]
section
variable {w w' : World} {b : Nat} {v : Value} {ws : List Nat}
theorem own_same {e : TypeId} {base size n : Nat} {xs : List Value} (h : w.ownsRow base e size v n xs) (hb : ∀ k, v.ownBlock = some k → w'.heap[k]? = w.heap[k]?) : w'.ownsRow base e size v n xs := by
  refine ⟨h.1, ?_⟩
  rcases h.2 with h0 | ⟨g, cap, cur, rfl, hbg, hg, hr⟩
  · exact .inl h0
  · exact .inr ⟨g, cap, cur, rfl, hbg, (hb g rfl).trans hg, hr⟩
theorem Words.cells {A : Option Addr} {n c : Nat} (h : Words w A n c ws) (hn : 0 < n) : ∃ g, A = some ⟨g, 0, none⟩ ∧ g < w.heap.size ∧ ∀ i, i < n → w.cell? ⟨g, i, none⟩ = some (.int .u64 (wd ws i : Int)) := by
  obtain ⟨h1, h2, h3, h4, h5⟩ := h
  cases A with
  | none => have := h4 rfl; omega
  | some ad =>
    obtain ⟨g, rfl, hg, hc⟩ := h5 ad rfl
    exact ⟨g, rfl, hg, hc⟩
end
end Go.Proofs.Ytmedhibjkbahpaa
