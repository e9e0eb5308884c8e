/-
  A line of values: a slice that may begin anywhere in its block; a value put behind it, the first one taken. No function of the program in sight.
-/
import Derived.Test.YtmedhibjkbahpaaZam
import Derived.Deep.AppendSrc
import Derived.Deep.MidRow
import Derived.Deep.Upon
namespace Go.Proofs.Ytmedhibjkbahpaa
open Go.RowKit
set_option linter.unusedVariables false

/-- The slice A of n elements, of c at most, holds the values xs; its places may be written. -/
def LineAt (w : World) (A : Option Addr) (n c : Nat) (xs : List Value) : Prop :=
  xs.length = n ∧ n ≤ c ∧ c ≤ maxLen ∧ (A = none → c = 0) ∧ ∀ ad, A = some ad → ∃ g off, ad = ⟨g, off, none⟩ ∧ g < w.heap.size ∧ (∀ i, i < n → w.cell? ⟨g, off + i, none⟩ = xs[i]?) ∧
    ∀ i, i < c → (w.cell? ⟨g, off + i, none⟩).isSome = true ∧ w.frozen? ⟨g, off + i, none⟩ = false
/-- The block of a slice. -/
def blk (A : Option Addr) : List Nat := A.toList.map fun a => a.block
theorem mem_blk {A : Option Addr} {k : Nat} : k ∈ blk A ↔ ∃ ad, A = some ad ∧ ad.block = k := by
  unfold blk
  simp [Option.mem_toList]
theorem LineAt.nil (w : World) : LineAt w none 0 0 [] := ⟨rfl, Nat.le_refl _, by unfold maxLen; omega, fun _ => rfl, fun ad e => by cases e⟩
section
variable {w w' : World} {A : Option Addr} {n c : Nat} {xs : List Value}
theorem LineAt.lt (h : LineAt w A n c xs) : ∀ k ∈ blk A, k < w.heap.size := by
  intro k hk
  obtain ⟨ad, rfl, rfl⟩ := mem_blk.1 hk
  obtain ⟨g, off, rfl, hg, _⟩ := h.2.2.2.2 ad rfl
  exact hg
theorem LineAt.same (h : LineAt w A n c xs) (hz : w.heap.size ≤ w'.heap.size) (hs : ∀ k ∈ blk A, w'.heap[k]? = w.heap[k]?) : LineAt w' A n c xs := by
  refine ⟨h.1, h.2.1, h.2.2.1, h.2.2.2.1, fun ad e => ?_⟩
  obtain ⟨g, off, rfl, hg, hc, hf⟩ := h.2.2.2.2 ad e
  have hb : w'.heap[g]? = w.heap[g]? := hs g (mem_blk.2 ⟨_, e, rfl⟩)
  refine ⟨g, off, rfl, Nat.lt_of_lt_of_le hg hz, fun i hi => ?_, fun i hi => ?_⟩
  · rw [World.cell?_of_block (w := w) (a := ⟨g, off + i, none⟩) hb]
    exact hc i hi
  · rw [World.cell?_of_block (w := w) (a := ⟨g, off + i, none⟩) hb, World.frozen?_of_block (w := w) (a := ⟨g, off + i, none⟩) hb]
    exact hf i hi
theorem LineAt.chg {l : List Nat} (h : LineAt w A n c xs) (hc : Chg l w w') (hl : ∀ k ∈ blk A, k ∉ l) : LineAt w' A n c xs := h.same hc.size fun k hk => hc.same k (h.lt k hk) (hl k hk)
theorem LineAt.below (h : LineAt w A n c xs) (hb : Below w.heap.size w w') : LineAt w' A n c xs := h.same hb.size fun k hk => hb.block k (h.lt k hk)
/-- Where the elements lie. -/
theorem LineAt.at (h : LineAt w A n c xs) (hn : 0 < n) : ∃ g off, A = some ⟨g, off, none⟩ ∧ g < w.heap.size ∧ (∀ i, i < n → w.cell? ⟨g, off + i, none⟩ = xs[i]?) ∧ ∀ i, i < c → (w.cell? ⟨g, off + i, none⟩).isSome = true ∧ w.frozen? ⟨g, off + i, none⟩ = false := by
  cases A with
  | none =>
    have h1 := h.2.2.2.1 rfl
    have h2 := h.2.1
    omega
  | some ad =>
    obtain ⟨g, off, rfl, hg, hc, hf⟩ := h.2.2.2.2 ad rfl
    exact ⟨g, off, rfl, hg, hc, hf⟩
end
theorem cell_beside (w : World) (g o o' : Nat) (v : Value) (h : o ≠ o') : (w.setCell ⟨g, o, none⟩ v).cell? ⟨g, o', none⟩ = w.cell? ⟨g, o', none⟩ := by
  apply World.cell?_setCell_other
  intro e
  injection e with _ e
  exact h e
theorem setCells_one (w : World) (b o : Nat) (x : Value) : w.setCells b o [x] = w.setCell ⟨b, o, none⟩ x := rfl
theorem new_one (W : World) (x : Value) (T : TypeId) : ∀ j u, ([x] : List Value)[j]? = some u → (W.alloc (.cells #[x] T)).cell? ((⟨W.heap.size, 0, none⟩ : Addr).add j) = some u := by
  intro j u hu
  have hj : j = 0 := by
    have := (List.getElem?_eq_some_iff.1 hu).1
    simpa using this
  subst hj
  simp only [List.getElem?_cons_zero, Option.some.injEq] at hu
  subst hu
  simp [Addr.add]
theorem chg_cells (w : World) (g o : Nat) (vs : List Value) : Chg [g] w (w.setCells g o vs) :=
  ⟨⟨World.os_setCells w g o vs, by
      have : ∀ (vs : List Value) (o : Nat) (w : World), (w.setCells g o vs).tape = w.tape := by
        intro vs
        induction vs with
        | nil => intro o w; rfl
        | cons v vs ih => intro o w; exact ih (o + 1) _
      exact this vs o w, World.output_setCells w g o vs, by
      have : ∀ (vs : List Value) (o : Nat) (w : World), w.heap.size ≤ (w.setCells g o vs).heap.size := by
        intro vs
        induction vs with
        | nil => intro o w; exact Nat.le_refl _
        | cons v vs ih => intro o w; exact Nat.le_trans (by simp [World.setCell]) (ih (o + 1) (w.setCell ⟨g, o, none⟩ v))
      exact this vs o w, fun k hk => absurd hk (Nat.not_lt_zero _)⟩,
    fun k hk hn => World.heap_setCells_other w g o vs hk (fun e => hn (by rw [e]; exact List.mem_singleton_self _))⟩

/-- 'append(s, x)': what is written is the line's own block, or a new one. -/
theorem line_push (w : World) (t e ty : TypeId) (z : Value) (bytes : Nat) (ht : Try.prog.underlying t = some (.slice e)) (hinfo : (Try.prog.info? e).map (fun i => (i.zero, i.size, i.bytes)) = some (some z, 1, bytes)) (hz1 : z.cells.size = 1) (hby : bytes ≤ 64)
    (A : Option Addr) (n c : Nat) (xs : List Value) (h : LineAt w A n c xs) (h1 : ∀ u ∈ xs, u.oneCell' = true) (hn : n ≤ 1000000) (x : Value) (hx : x.oneCell' = true) :
    ∃ A' c' w', (Builtin.append_ #[t, t] ty #[.slice A n c, .slice (some ⟨w.heap.size, 0, none⟩) 1 1]).run Try.prog (w.alloc (.cells #[x] e)) = .ok (.slice A' (n + 1) c') w' ∧ LineAt w' A' (n + 1) c' (xs ++ [x]) ∧ Chg (blk A) w w' ∧ ∀ k ∈ blk A', k ∈ blk A ∨ w.heap.size ≤ k := by
  obtain ⟨i0, hi, hz0, hs1, hs2⟩ := info_parts hinfo
  have hal : Chg (blk A) w (w.alloc (.cells #[x] e)) := (Chg.refl _ w).alloc _
  have h' : LineAt (w.alloc (.cells #[x] e)) A n c xs := h.below ((Below.refl _ w).alloc (Nat.le_refl _) _)
  generalize hW : w.alloc (.cells #[x] e) = W at *
  have hWs : W.heap.size = w.heap.size + 1 := by rw [← hW]; simp
  have hsrc : Src Try.prog i0.size t (.slice (some ⟨w.heap.size, 0, none⟩) 1 1) 1 [x] W := by
    rw [hs1]
    exact Src.ofSlice W ht ⟨w.heap.size, 0, none⟩ 1 1 [x] rfl (by rw [← hW]; exact new_one w x e) (fun u hu => by simp only [List.mem_singleton] at hu; subst hu; exact hx)
  have hlen : (xs ++ [x]).length = n + 1 := by rw [List.length_append, h.1]; rfl
  by_cases hroom : n + 1 ≤ c
  · obtain ⟨g, off, rfl, hg, hc, hf⟩ : ∃ g off, A = some ⟨g, off, none⟩ ∧ g < W.heap.size ∧ (∀ i, i < n → W.cell? ⟨g, off + i, none⟩ = xs[i]?) ∧ ∀ i, i < c → (W.cell? ⟨g, off + i, none⟩).isSome = true ∧ W.frozen? ⟨g, off + i, none⟩ = false := by
      cases A with
      | none => have := h.2.2.2.1 rfl; omega
      | some ad =>
        obtain ⟨g, off, rfl, hg, hc, hf⟩ := h'.2.2.2.2 ad rfl
        exact ⟨g, off, rfl, hg, hc, hf⟩
    have hr := run_append_room_src (P := Try.prog) W t t ty e i0 ht hi g off n c (.slice (some ⟨w.heap.size, 0, none⟩) 1 1) 1 [x] hsrc hroom
      (fun j hj => by
        have hj0 : j = 0 := by simpa using hj
        subst hj0
        rw [hs1, Nat.mul_one, Nat.add_zero]
        exact (hf n (by omega)).1)
      (fun j hj => by
        have hj0 : j = 0 := by simpa using hj
        subst hj0
        rw [hs1, Nat.mul_one, Nat.add_zero]
        exact (hf n (by omega)).2)
    rw [hs1, Nat.mul_one] at hr
    refine ⟨_, _, _, hr, ⟨hlen, hroom, h.2.2.1, (fun e => by cases e), fun ad e => ?_⟩, hal.trans ((chg_cells W g (off + n) [x]).weaken (fun k hk => .inl (by simp only [List.mem_singleton] at hk; subst hk; exact mem_blk.2 ⟨_, rfl, rfl⟩))), fun k hk => .inl hk⟩
    cases e
    refine ⟨g, off, rfl, Nat.lt_of_lt_of_le hg (chg_cells W g (off + n) [x]).size, fun i hi => ?_, fun i hi => ⟨World.isSome_setCells g [x] (off + n) W _ (hf i hi).1, by rw [World.frozen?_setCells]; exact (hf i hi).2⟩⟩
    rcases Nat.lt_or_ge i n with h2 | h2
    · rw [World.cell?_setCells_out g [x] (off + n) W ⟨g, off + i, none⟩ (fun _ _ => .inl (by show off + i < off + n; omega)), hc i h2, List.getElem?_append_left (by rw [h.1]; exact h2)]
    · obtain rfl : i = n := by omega
      have := World.cell?_setCells_in g [x] (off + i) W (fun j hj => by
        have hj0 : j = 0 := by simpa using hj
        subst hj0
        rw [Nat.add_zero]
        exact (hf i (by omega)).1) 0 (by simp)
      rw [Nat.add_zero] at this
      rw [this, List.getElem?_append_right (by rw [h.1]; exact Nat.le_refl _), h.1]
      simp
  · have hold : (Builtin.firstCells i0.size n (.slice A n c)).run Try.prog W.drew = .ok xs.toArray W.drew := by
      rw [hs1]
      cases A with
      | none =>
        have h2 := h.2.2.2.1 rfl
        have h3 := h.2.1
        obtain rfl : n = 0 := by omega
        have : xs = [] := List.eq_nil_of_length_eq_zero h.1
        subst this
        exact run_firstCells_none W.drew 1 0 0 c
      | some ad =>
        obtain ⟨g, off, rfl, hg, hc, hf⟩ := h'.2.2.2.2 ad rfl
        refine run_firstCells_some W.drew 1 n ⟨g, off, none⟩ n c xs (by rw [h.1, Nat.mul_one]) (fun j v hj => ?_)
        have hjn : j < n := by rw [← h.1]; exact (List.getElem?_eq_some_iff.1 hj).1
        have hadd : (⟨g, off, none⟩ : Addr).add j = ⟨g, off + j, none⟩ := by unfold Addr.add; split <;> simp_all
        rw [hadd]
        exact (hc j hjn).trans hj
    have hfit : Builtin.nextslicecap (n + 1) c * i0.bytes ≤ 281474976710656 := growslice_fits (by omega) (by
      have h5 : (n + 1) * i0.bytes ≤ 1000001 * 64 := Nat.mul_le_mul (by omega) (by rw [hs2]; exact hby)
      omega)
    have hr := run_append_grow_src (P := Try.prog) W t t ty e i0 z ht hi hz0 A n c xs hold (.slice (some ⟨w.heap.size, 0, none⟩) 1 1) 1 [x] hsrc (by omega) (by omega) hfit
    have hge := grownCap_ge W (n + 1) c e
    have hmx := grownCap_le_maxLen W (n + 1) c e (by unfold maxLen; omega)
    generalize grownCap W (n + 1) c e = C at *
    generalize hcur : (xs ++ [x]).toArray ++ Builtin.zeroCells z.cells (C - (n + 1)) = cur at *
    have hcs : cur.size = C := by
      rw [← hcur, Array.size_append, List.size_toArray, hlen, size_zeroCells, hz1]
      omega
    have hblock : (W.drew.alloc (.cells cur e)).heap[W.heap.size]? = some (.cells cur e (0, 0)) := heap_alloc_new W.drew _
    refine ⟨_, _, _, hr, ⟨hlen, hge, hmx, (fun e => by cases e), fun ad ea => ?_⟩, (hal.drew).alloc _, fun k hk => .inr ?_⟩
    · cases ea
      refine ⟨W.heap.size, 0, rfl, lt_of_block hblock, fun i hi => ?_, fun i hi => ?_⟩
      · rw [Nat.zero_add, cell_of_row _ W.heap.size i cur e (0, 0) hblock, ← hcur, Array.getElem?_append_left (by rw [List.size_toArray, hlen]; exact hi)]
        simp
      · rw [Nat.zero_add]
        refine ⟨?_, frozen_of_row _ W.heap.size i cur e hblock⟩
        rw [cell_of_row _ W.heap.size i cur e (0, 0) hblock, Array.getElem?_eq_getElem (by rw [hcs]; exact hi)]
        rfl
    · obtain ⟨ad, ea, hb⟩ := mem_blk.1 hk
      cases ea
      rw [← hb]
      show w.heap.size ≤ W.heap.size
      omega
end Go.Proofs.Ytmedhibjkbahpaa
