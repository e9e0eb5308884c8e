/-
  The document's set beside the program's.
-/
import Derived.Test.YtjkcomoadpileaaDoorAl
import Derived.Test.YtjkcomoadpileaaDoorLv
import Derived.Test.YtjkcomoadpileaaDoorIr
namespace Go.Proofs.YtjkcomoadpileaaDoor
open Go.RowKit
set_option linter.unusedVariables false

/-- The document's set and the program's. -/
def Twin (zs : List Int) (ws : List Nat) : Prop := Rises zs ∧ ∀ n, n ∈ zs ↔ hasZ ws n = true
theorem Twin.nil : Twin [] [] := ⟨List.Pairwise.nil, fun n => by simp [hasZ_nil]⟩
theorem Twin.put {zs : List Int} {ws : List Nat} (h : Twin zs ws) (z : Int) : Twin (putL zs z) (putZ ws z) := by
  refine ⟨rises_put zs z h.1, fun n => ?_⟩
  rw [mem_putL, hasZ_putZ, h.2 n, Bool.or_eq_true]
  simp only [Bool.and_eq_true, decide_eq_true_eq]
  constructor
  · rintro (h1 | ⟨h1, h2, h3⟩)
    · exact .inl h1
    · exact .inr ⟨⟨h1, h2⟩, by omega⟩
  · rintro (h1 | ⟨⟨h1, h2⟩, h3⟩)
    · exact .inl h1
    · exact .inr ⟨h1, h2, by omega⟩
theorem Twin.drop {zs : List Int} {ws : List Nat} (h : Twin zs ws) (z : Int) : Twin (dropL zs z) (dropZ ws z) := by
  refine ⟨h.1.filter _, fun n => ?_⟩
  unfold dropL
  rw [List.mem_filter, hasZ_dropZ, h.2 n, Bool.and_eq_true]
  simp
theorem Twin.putB {zs : List Int} {ws : List Nat} (h : Twin zs ws) (z : Int) : decide (zs.length < (putL zs z).length) = putB ws z := by
  rw [putL_grows]
  unfold Proofs.YtjkcomoadpileaaDoor.putB
  have e : decide (z ∈ zs) = hasZ ws z := by rw [Bool.eq_iff_iff, decide_eq_true_eq]; exact h.2 z
  rw [e]
  unfold hasZ
  cases decide (0 ≤ z) <;> cases decide (z < 65536) <;> simp
theorem dropL_less (zs : List Int) (z : Int) (hn : Rises zs) : decide ((dropL zs z).length < zs.length) = decide (z ∈ zs) := by
  rw [Bool.eq_iff_iff, decide_eq_true_eq, decide_eq_true_eq]
  unfold dropL
  rw [List.length_filter_lt_length_iff_exists]
  constructor
  · rintro ⟨x, hx, h⟩
    simp only [ne_eq, decide_not, Bool.not_eq_eq_eq_not, Bool.not_true, decide_eq_false_iff_not, Decidable.not_not] at h
    rw [← h]; exact hx
  · exact fun h => ⟨z, h, by simp⟩
theorem Twin.dropB {zs : List Int} {ws : List Nat} (h : Twin zs ws) (z : Int) : decide ((dropL zs z).length < zs.length) = hasZ ws z := by
  rw [dropL_less zs z h.1, Bool.eq_iff_iff, decide_eq_true_eq]
  exact h.2 z
theorem Twin.elems {zs : List Int} {ws : List Nat} (h : Twin zs ws) : elemsZ ws = zs :=
  rises_ext (elemsZ_rises ws) h.1 (fun n => by rw [mem_elemsZ, h.2 n])
theorem upto_len (ws : List Nat) : ∀ k, k ≤ ws.length → (upto ws (64 * k)).length = lenW (ws.take k)
  | 0, _ => rfl
  | k + 1, h => by
    rw [show 64 * (k + 1) = 64 * k + 64 from by omega, upto_count, upto_len ws k (by omega), lenW_take ws k (by omega)]
theorem lenW_elems (ws : List Nat) : (elemsZ ws).length = lenW ws := by
  unfold elemsZ Proofs.YtjkcomoadpileaaDoor.elems
  rw [asZ_length, upto_len ws ws.length (Nat.le_refl _), List.take_length]
theorem dropL_length (zs : List Int) (z : Int) : (dropL zs z).length ≤ zs.length := List.length_filter_le _ _
end Go.Proofs.YtjkcomoadpileaaDoor
