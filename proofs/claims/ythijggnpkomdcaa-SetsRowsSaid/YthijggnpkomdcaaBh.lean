/-
  Contracts of slices.Equal of words and sets.Same.
-/
import Derived.Test.YthijggnpkomdcaaBg
namespace Go.Proofs.Ythijggnpkomdcaa
open Go.RowKit
set_option linter.unusedVariables false
set_option maxRecDepth 100000

/-- Words as they are read: the slice at A of n elements holds the words ws. -/
def WordsAt (w : World) (A : Option Addr) (n : Nat) (ws : List Nat) : Prop :=
  ws.length = n ∧ (0 < n → ∃ g off, A = some ⟨g, off, none⟩ ∧ ∀ i, i < n → w.cell? ⟨g, off + i, none⟩ = some (.int .u64 (wd ws i : Int)))
theorem WordsAt.drewN {w : World} {A : Option Addr} {n : Nat} {ws : List Nat} (h : WordsAt w A n ws) (q : Nat) : WordsAt (w.drewN q) A n ws := h
theorem Words.at {w : World} {A : Option Addr} {n c : Nat} {ws : List Nat} (h : Words w A n c ws) : WordsAt w A n ws := by
  refine ⟨h.1, fun hn => ?_⟩
  obtain ⟨g, e, hg, hc⟩ := h.cells hn
  exact ⟨g, 0, e, fun i hi => by rw [Nat.zero_add]; exact hc i hi⟩
theorem WordsAt.take {w : World} {A : Option Addr} {n k : Nat} {ws : List Nat} (h : WordsAt w A n ws) (hk : k ≤ n) : WordsAt w A k (ws.take k) := by
  refine ⟨by rw [List.length_take, h.1]; omega, fun hn => ?_⟩
  obtain ⟨g, off, e, hc⟩ := h.2 (by omega)
  refine ⟨g, off, e, fun i hi => ?_⟩
  rw [hc i (by omega)]
  congr 2
  simp [wd, List.getD, hi]
/-- The first k are alike. -/
def alike (ws us : List Nat) (k : Nat) : Bool := (List.range k).all fun j => wd ws j == wd us j
theorem alike_succ (ws us : List Nat) (k : Nat) : alike ws us (k + 1) = (alike ws us k && (wd ws k == wd us k)) := by
  unfold alike
  rw [List.range_succ, List.all_append]
  simp
theorem alike_iff (ws us : List Nat) (k : Nat) : alike ws us k = true ↔ ∀ j, j < k → wd ws j = wd us j := by
  unfold alike
  rw [List.all_eq_true]
  constructor
  · intro h j hj
    simpa using h j (List.mem_range.2 hj)
  · intro h j hj
    simpa using h j (List.mem_range.1 hj)
theorem drewN_two (w : World) (a b : Nat) : (w.drewN a).drewN b = w.drewN (a + b) := by
  simp [World.drewN, Nat.add_assoc]
/-- A pointer to a set, or to none. -/
def At (w : World) (p : Option Addr) (v : Value) (ws : List Nat) : Prop := (p = none ∧ v = .slice none 0 0 ∧ ws = []) ∨ ∃ b, p = some ⟨b, 0, none⟩ ∧ SetG w b v ws
theorem At.of {w : World} {b : Nat} {v : Value} {ws : List Nat} (h : SetG w b v ws) : At w (some ⟨b, 0, none⟩) v ws := .inr ⟨b, rfl, h⟩
theorem At.none (w : World) : At w none (.slice none 0 0) [] := .inl ⟨rfl, rfl, rfl⟩
theorem At.held {w : World} {p : Option Addr} {v : Value} {ws : List Nat} (h : At w p v ws) : Calls Try.prog 92 #[.pointer p] w fun e w' => e = .returned v ∧ w = w' := by
  rcases h with ⟨rfl, rfl, rfl⟩ | ⟨b, rfl, h⟩
  · exact held_nil w
  · exact held_any w b v h.cell
theorem At.slice {w : World} {p : Option Addr} {v : Value} {ws : List Nat} (h : At w p v ws) : (∃ A c, v = .slice A ws.length c ∧ Words w A ws.length c ws) ∧ Small ws ∧ ws.length ≤ 1024 := by
  rcases h with ⟨rfl, rfl, rfl⟩ | ⟨b, rfl, h⟩
  · exact ⟨⟨_, 0, rfl, rfl, Nat.le_refl _, by unfold maxLen; omega, fun _ => rfl, fun ad e => by cases e⟩, (fun x hx => by cases hx), Nat.zero_le _⟩
  · exact ⟨h.slice, h.small, h.short⟩
/-- The same numbers? -/
def sameB (ws us : List Nat) : Bool := alike ws us (max ws.length us.length)
theorem sameB_iff (ws us : List Nat) (hw : Small ws) (hu : Small us) : sameB ws us = true ↔ ∀ n, mem ws n = mem us n := by
  unfold sameB
  rw [alike_iff, sameW_iff ws us hw hu]
  constructor
  · intro h k
    rcases Nat.lt_or_ge k (max ws.length us.length) with hk | hk
    · exact h k hk
    · rw [wd_ge ws k (by omega), wd_ge us k (by omega)]
  · intro h k _
    exact h k
theorem alike_comm (ws us : List Nat) (k : Nat) : alike ws us k = alike us ws k := by
  rw [Bool.eq_iff_iff, alike_iff, alike_iff]
  exact ⟨fun h j hj => (h j hj).symm, fun h j hj => (h j hj).symm⟩
theorem alike_zero (ws us : List Nat) (L M : Nat) (hL : ws.length = L) (hle : L ≤ M) (hz : ∀ j, j < M - L → wd us (L + j) = 0) : alike ws us M = alike ws (us.take L) L := by
  rw [Bool.eq_iff_iff, alike_iff, alike_iff]
  have ht : ∀ j, j < L → wd (us.take L) j = wd us j := fun j hj => by simp [wd, List.getD, hj]
  constructor
  · intro h j hj
    rw [ht j hj]
    exact h j (by omega)
  · intro h j hj
    rcases Nat.lt_or_ge j L with h1 | h1
    · rw [h j h1, ht j h1]
    · have := hz (j - L) (by omega)
      rw [show L + (j - L) = j from by omega] at this
      rw [this, wd_ge ws j (by omega)]
theorem alike_not (ws us : List Nat) (M j : Nat) (hj : j < M) (hw : ws.length ≤ j) (hz : wd us j ≠ 0) : alike ws us M = false := by
  cases h : alike ws us M with
  | false => rfl
  | true => exact absurd (((alike_iff _ _ _).1 h j hj).symm.trans (wd_ge ws j hw)) hz
end Go.Proofs.Ythijggnpkomdcaa
