/-
  A line of values: a slice that may begin anywhere in its block; a value put behind it, the first one taken. No function of the program in sight.
-/
import Derived.Test.YtdjnebgjdekmaaaGreatDoorZad
import Derived.Deep.AppendSrc
import Derived.Deep.MidRow
import Derived.Deep.Upon
namespace Go.Proofs.YtdjnebgjdekmaaaGreatDoor
open Go.RowKit
set_option linter.unusedVariables false

/-- The slice A of n elements, of c at most, holds the values xs; its places may be written. -/
def LineAt (w : World) (A : Option Addr) (n c : Nat) (xs : List Value) : Prop :=
  xs.length = n ∧ n ≤ c ∧ c ≤ maxLen ∧ (A = none → c = 0) ∧ ∀ ad, A = some ad → ∃ g off, ad = ⟨g, off, none⟩ ∧ g < w.heap.size ∧ (∀ i, i < n → w.cell? ⟨g, off + i, none⟩ = xs[i]?) ∧
    ∀ i, i < c → (w.cell? ⟨g, off + i, none⟩).isSome = true ∧ w.frozen? ⟨g, off + i, none⟩ = false
/-- The block of a slice. -/
def blk (A : Option Addr) : List Nat := A.toList.map fun a => a.block
theorem mem_blk {A : Option Addr} {k : Nat} : k ∈ blk A ↔ ∃ ad, A = some ad ∧ ad.block = k := by
  unfold blk
  simp [Option.mem_toList]
theorem LineAt.nil (w : World) : LineAt w none 0 0 [] := ⟨rfl, Nat.le_refl _, by unfold maxLen; omega, fun _ => rfl, fun ad e => by cases e⟩
section
variable {w w' : World} {A : Option Addr} {n c : Nat} {xs : List Value}
theorem LineAt.lt (h : LineAt w A n c xs) : ∀ k ∈ blk A, k < w.heap.size := by
  intro k hk
  obtain ⟨ad, rfl, rfl⟩ := mem_blk.1 hk
  obtain ⟨g, off, rfl, hg, _⟩ := h.2.2.2.2 ad rfl
  exact hg
theorem LineAt.same (h : LineAt w A n c xs) (hz : w.heap.size ≤ w'.heap.size) (hs : ∀ k ∈ blk A, w'.heap[k]? = w.heap[k]?) : LineAt w' A n c xs := by
  refine ⟨h.1, h.2.1, h.2.2.1, h.2.2.2.1, fun ad e => ?_⟩
  obtain ⟨g, off, rfl, hg, hc, hf⟩ := h.2.2.2.2 ad e
  have hb : w'.heap[g]? = w.heap[g]? := hs g (mem_blk.2 ⟨_, e, rfl⟩)
  refine ⟨g, off, rfl, Nat.lt_of_lt_of_le hg hz, fun i hi => ?_, fun i hi => ?_⟩
  · rw [World.cell?_of_block (w := w) (a := ⟨g, off + i, none⟩) hb]
    exact hc i hi
  · rw [World.cell?_of_block (w := w) (a := ⟨g, off + i, none⟩) hb, World.frozen?_of_block (w := w) (a := ⟨g, off + i, none⟩) hb]
    exact hf i hi
theorem LineAt.chg {l : List Nat} (h : LineAt w A n c xs) (hc : Chg l w w') (hl : ∀ k ∈ blk A, k ∉ l) : LineAt w' A n c xs := h.same hc.size fun k hk => hc.same k (h.lt k hk) (hl k hk)
theorem LineAt.below (h : LineAt w A n c xs) (hb : Below w.heap.size w w') : LineAt w' A n c xs := h.same hb.size fun k hk => hb.block k (h.lt k hk)
/-- Where the elements lie. -/
theorem LineAt.at (h : LineAt w A n c xs) (hn : 0 < n) : ∃ g off, A = some ⟨g, off, none⟩ ∧ g < w.heap.size ∧ (∀ i, i < n → w.cell? ⟨g, off + i, none⟩ = xs[i]?) ∧ ∀ i, i < c → (w.cell? ⟨g, off + i, none⟩).isSome = true ∧ w.frozen? ⟨g, off + i, none⟩ = false := by
  cases A with
  | none =>
    have h1 := h.2.2.2.1 rfl
    have h2 := h.2.1
    omega
  | some ad =>
    obtain ⟨g, off, rfl, hg, hc, hf⟩ := h.2.2.2.2 ad rfl
    exact ⟨g, off, rfl, hg, hc, hf⟩
end
theorem setCells_one (w : World) (b o : Nat) (x : Value) : w.setCells b o [x] = w.setCell ⟨b, o, none⟩ x := rfl
theorem new_one (W : World) (x : Value) (T : TypeId) : ∀ j u, ([x] : List Value)[j]? = some u → (W.alloc (.cells #[x] T)).cell? ((⟨W.heap.size, 0, none⟩ : Addr).add j) = some u := by
  intro j u hu
  have hj : j = 0 := by
    have := (List.getElem?_eq_some_iff.1 hu).1
    simpa using this
  subst hj
  simp only [List.getElem?_cons_zero, Option.some.injEq] at hu
  subst hu
  simp [Addr.add]
theorem chg_cells (w : World) (g o : Nat) (vs : List Value) : Chg [g] w (w.setCells g o vs) :=
  ⟨⟨World.os_setCells w g o vs, by
      have : ∀ (vs : List Value) (o : Nat) (w : World), (w.setCells g o vs).tape = w.tape := by
        intro vs
        induction vs with
        | nil => intro o w; rfl
        | cons v vs ih => intro o w; exact ih (o + 1) _
      exact this vs o w, World.output_setCells w g o vs, by
      have : ∀ (vs : List Value) (o : Nat) (w : World), w.heap.size ≤ (w.setCells g o vs).heap.size := by
        intro vs
        induction vs with
        | nil => intro o w; exact Nat.le_refl _
        | cons v vs ih => intro o w; exact Nat.le_trans (by simp [World.setCell]) (ih (o + 1) (w.setCell ⟨g, o, none⟩ v))
      exact this vs o w, fun k hk => absurd hk (Nat.not_lt_zero _)⟩,
    fun k hk hn => World.heap_setCells_other w g o vs hk (fun e => hn (by rw [e]; exact List.mem_singleton_self _))⟩

end Go.Proofs.YtdjnebgjdekmaaaGreatDoor
