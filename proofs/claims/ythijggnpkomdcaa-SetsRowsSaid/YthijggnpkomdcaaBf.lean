/-
  Contracts of slices.Clone of words, (*Bits).Clone, Put and Drop at any number, sets.Of.
-/
import Derived.Test.YthijggnpkomdcaaBe
import Derived.Laws.AppendOwnNone
namespace Go.Proofs.Ythijggnpkomdcaa
open Go.RowKit
set_option linter.unusedVariables false
set_option maxRecDepth 100000

theorem info_bits : (Try.prog.info? 156).map (fun i => (i.zero, i.size, i.bytes)) = some (some (.agg #[.slice none 0 0]), 1, 24) := by kernel_rfl
theorem src_of_own {w : World} {base g n c : Nat} {e : TypeId} {xs : List Value} (h : w.ownsRow base e 1 (.slice (some ⟨g, 0, none⟩) n c) n xs) : ∀ j u, xs[j]? = some u → w.cell? ((⟨g, 0, none⟩ : Addr).add j) = some u := h.cells rfl
theorem own_shape {w : World} {base : Nat} {e : TypeId} {size : Nat} {v : Value} {n : Nat} {xs : List Value} (h : w.ownsRow base e size v n xs) : ∃ A c, v = .slice A n c := by
  rcases h.2 with ⟨rfl, hn⟩ | ⟨g, cap, cur, rfl, _⟩
  · exact ⟨none, 0, by rw [hn]⟩
  · exact ⟨_, _, rfl⟩
/-- A new set that holds ws, at a place of its own. -/
def Fresh (w : World) (e : Ending) (ws : List Nat) (w' : World) : Prop :=
  ∃ b v, e = .returned (.pointer (some ⟨b, 0, none⟩)) ∧ SetG w' b v ws ∧ (∀ k ∈ foot b v, w.heap.size ≤ k) ∧ Below w.heap.size w w'
theorem fresh_box {w w1 : World} {v : Value} {ws : List Nat} (hB : Below w.heap.size w w1) (hown : w1.ownsRow w.heap.size 161 1 v ws.length (cellsW ws)) (hs : Small ws) (hl : ws.length ≤ 1024) :
    Fresh w (.returned (.pointer (some ⟨w1.heap.size, 0, none⟩))) ws (w1.alloc (.cells #[v] 156)) := by
  have hge : ∀ k, v.ownBlock = some k → w.heap.size ≤ k ∧ k < w1.heap.size := fun k hk => hown.lt k hk
  refine ⟨w1.heap.size, v, rfl, ⟨heap_alloc_new w1 _, ?_, fun e => by have := (hge _ e).2; omega, hs, hl⟩, fun k hk => ?_, hB.alloc hB.size _⟩
  · have h1 := hown.alloc (.cells #[v] 156)
    refine ⟨h1.1, ?_⟩
    rcases h1.2 with h | ⟨g, cap, cur, e, hb, r⟩
    · exact .inl h
    · exact .inr ⟨g, cap, cur, e, Nat.zero_le _, r⟩
  · rcases mem_foot.1 hk with rfl | hk
    · exact hB.size
    · exact (hge k hk).1
theorem own_nil (w : World) (base : Nat) : w.ownsRow base 161 1 (.slice none 0 0) 0 (cellsW []) := ⟨rfl, .inl ⟨rfl, rfl⟩⟩
end Go.Proofs.Ythijggnpkomdcaa
