/-
  The contract of the document's Parse.
-/
import Derived.Test.YtihlbbpnldgenaaZao
import Derived.Test.YtihlbbpnldgenaaZap
namespace Go.Proofs.Ytihlbbpnldgenaa
open Go.RowKit Go.Shelf
set_option linter.unusedVariables false
set_option maxRecDepth 100000

theorem none_great {b : List Nat} (h : 65536 < getN b 0) : firstN b = none := by
  cases e : firstN b with
  | none => rfl
  | some r => have := first_len e; omega
theorem none_short {b : List Nat} (h : b.length < getN b 0 + 8) : firstN b = none := by
  cases e : firstN b with
  | none => rfl
  | some r => have := first_len e; omega
theorem some_frame {b : List Nat} {m : Nat} (hm : m ≤ 65536) (h8 : m + 8 ≤ b.length) (h : frameN ((b.drop 4).take m) = b.take (m + 8)) : firstN b = some ((b.drop 4).take m) := by
  have hl : ((b.drop 4).take m).length = m := by rw [List.length_take, List.length_drop]; omega
  have := first_frame ((b.drop 4).take m) (b.drop (m + 8)) (by omega)
  rw [h, List.take_append_drop] at this
  exact this
theorem none_frame {b : List Nat} (hb : bytesN b) {m : Nat} (hg : getN b 0 = m) (h : ¬ frameN ((b.drop 4).take m) = b.take (m + 8)) : firstN b = none := by
  cases e : firstN b with
  | none => rfl
  | some r =>
    exfalso
    have h1 := first_len e
    have h2 := (first_some hb e).2
    rw [hg] at h1
    rw [h1.2.2.2.1] at h2
    apply h
    have h3 := List.prefix_iff_eq_take.1 h2
    rw [h3, frameN_length, ← h1.2.2.2.1, h1.1]
theorem RecsR.snoc {W : World} {vs : List Value} {rs : List (List Nat)} (h : RecsR W vs rs) {A : Option Addr} {c : Nat} {r : List Nat} (hc : r.length ≤ c) (hb : RowN W A r.length r) : RecsR W (vs ++ [.slice A r.length c]) (rs ++ [r]) := by
  refine ⟨by simp [h.1], fun i v r' hv hr => ?_⟩
  rcases Nat.lt_or_ge i vs.length with hi | hi
  · rw [List.getElem?_append_left hi] at hv
    rw [List.getElem?_append_left (by rw [← h.1]; exact hi)] at hr
    exact h.2 i v r' hv hr
  · rw [List.getElem?_append_right hi] at hv
    rw [List.getElem?_append_right (by rw [← h.1]; exact hi)] at hr
    rw [← h.1] at hr
    have h0 : i - vs.length = 0 := by
      have := (List.getElem?_eq_some_iff.1 hv).1
      simp at this
      omega
    rw [h0] at hv hr
    simp only [List.getElem?_cons_zero, Option.some.injEq] at hv hr
    subst hv hr
    exact ⟨A, c, rfl, hc, hb⟩
end Go.Proofs.Ytihlbbpnldgenaa
