/-
  The helper 'cut' of the second layer's statements, and what a slice of bytes that came in is.
-/
import Derived.Test.YtifljaandphkpaaDoorNameL
namespace Go.Proofs.YtifljaandphkpaaDoor
open Go.RowKit
set_option linter.unusedVariables false

theorem Held.of_isRow {w : World} {A : Option Addr} {len cap : Nat} {zs : List Int} (h : IsRow .u8 w A len cap zs) : ∃ l, Held w A len cap l ∧ cap ≤ 9223372036854775807 := by
  refine ⟨_, ⟨(RowZ.of_isRow h).toN, ?_, ?_⟩, ?_⟩
  · intro hA
    rcases h with ⟨_, _, h, _⟩ | ⟨x, rfl, _⟩
    · exact h
    · cases hA
  · rcases h with ⟨_, h1, h2, _⟩ | ⟨x, _, hl, _⟩
    · omega
    · exact hl
  · rcases h with ⟨_, h1, h2, _⟩ | ⟨x, _, hl, hm, _⟩
    · omega
    · unfold maxLen at hm; omega
theorem Held.take {w : World} {A : Option Addr} {n cap k : Nat} {l : List Nat} (h : Held w A n cap l) (hk : k ≤ n) : Held w A k cap (l.take k) :=
  ⟨h.1.take hk, h.2.1, by have := h.2.2; omega⟩
theorem cut_any (A : Option Addr) (n cap : Nat) (hn : n ≤ cap) (hc : cap ≤ 9223372036854775807) (w : World) :
    Calls Tryd.prog 9 #[.slice A n cap] w fun e w' => e = .returned (.slice A (min n 2000) cap) ∧ w = w' := by
  by_cases h : n ≤ 2000
  · have hi : (n : Int) ≤ 2000 := by omega
    rw [Nat.min_eq_left h]
    clear h
    go_enter Tryd.func9, Tryd.ntmps9
    go_wp2
    go_ret
    exact ⟨rfl, rfl⟩
  · have hi : 2000 < (n : Int) := by omega
    rw [Nat.min_eq_right (by omega)]
    clear h
    go_enter Tryd.func9, Tryd.ntmps9
    go_wp2
    go_ret
    exact ⟨rfl, rfl⟩
end Go.Proofs.YtifljaandphkpaaDoor
