/-
  A line of elements of several cells each: a slice that may begin anywhere in its block; the builtins append, copy and clear over such. No function of the program in sight.
-/
import Derived.Test.YtadgemcpahfkoaaLn
import Derived.Lib.AppendZerosOnto
import Derived.Lib.Overlaps
import Derived.Laws.IdiomCopy
import Derived.Deep.RegionLaw
namespace Go.Proofs.Ytadgemcpahfkoaa
open Go.RowKit
set_option linter.unusedVariables false

/-- The slice A of n elements of s cells each, of c elements at most, holds the cells xs; its places may be written. -/
def SLine (s : Nat) (w : World) (A : Option Addr) (n c : Nat) (xs : List Value) : Prop :=
  xs.length = n * s ∧ n ≤ c ∧ c ≤ maxLen ∧ (A = none → c = 0) ∧ ∀ ad, A = some ad → ∃ g off, ad = ⟨g, off, none⟩ ∧ g < w.heap.size ∧ (∀ i, i < n * s → w.cell? ⟨g, off + i, none⟩ = xs[i]?) ∧
    ∀ i, i < c * s → (w.cell? ⟨g, off + i, none⟩).isSome = true ∧ w.frozen? ⟨g, off + i, none⟩ = false
theorem SLine.nil (s : Nat) (w : World) : SLine s w none 0 0 [] := ⟨by simp, Nat.le_refl _, by unfold maxLen; omega, fun _ => rfl, fun ad e => by cases e⟩
section
variable {s : Nat} {w w' : World} {A : Option Addr} {n c : Nat} {xs : List Value}
theorem SLine.lt (h : SLine s w A n c xs) : ∀ k ∈ blk A, k < w.heap.size := by
  intro k hk
  obtain ⟨ad, rfl, rfl⟩ := mem_blk.1 hk
  obtain ⟨g, off, rfl, hg, _⟩ := h.2.2.2.2 ad rfl
  exact hg
theorem SLine.same (h : SLine s w A n c xs) (hz : w.heap.size ≤ w'.heap.size) (hs : ∀ k ∈ blk A, w'.heap[k]? = w.heap[k]?) : SLine s w' A n c xs := by
  refine ⟨h.1, h.2.1, h.2.2.1, h.2.2.2.1, fun ad e => ?_⟩
  obtain ⟨g, off, rfl, hg, hc, hf⟩ := h.2.2.2.2 ad e
  have hb : w'.heap[g]? = w.heap[g]? := hs g (mem_blk.2 ⟨_, e, rfl⟩)
  refine ⟨g, off, rfl, Nat.lt_of_lt_of_le hg hz, fun i hi => ?_, fun i hi => ?_⟩
  · rw [World.cell?_of_block (w := w) (a := ⟨g, off + i, none⟩) hb]
    exact hc i hi
  · rw [World.cell?_of_block (w := w) (a := ⟨g, off + i, none⟩) hb, World.frozen?_of_block (w := w) (a := ⟨g, off + i, none⟩) hb]
    exact hf i hi
theorem SLine.chg {l : List Nat} (h : SLine s w A n c xs) (hc : Chg l w w') (hl : ∀ k ∈ blk A, k ∉ l) : SLine s w' A n c xs := h.same hc.size fun k hk => hc.same k (h.lt k hk) (hl k hk)
theorem SLine.below (h : SLine s w A n c xs) (hb : Below w.heap.size w w') : SLine s w' A n c xs := h.same hb.size fun k hk => hb.block k (h.lt k hk)
theorem SLine.drew (h : SLine s w A n c xs) : SLine s w.drew A n c xs := h
/-- Where the elements lie. -/
theorem SLine.at (h : SLine s w A n c xs) (hn : 0 < n) : ∃ g off, A = some ⟨g, off, none⟩ ∧ g < w.heap.size ∧ (∀ i, i < n * s → w.cell? ⟨g, off + i, none⟩ = xs[i]?) ∧ ∀ i, i < c * s → (w.cell? ⟨g, off + i, none⟩).isSome = true ∧ w.frozen? ⟨g, off + i, none⟩ = false := by
  cases A with
  | none =>
    have h1 := h.2.2.2.1 rfl
    have h2 := h.2.1
    omega
  | some ad =>
    obtain ⟨g, off, rfl, hg, hc, hf⟩ := h.2.2.2.2 ad rfl
    exact ⟨g, off, rfl, hg, hc, hf⟩
/-- Fewer elements. -/
theorem SLine.shrink (h : SLine s w A n c xs) (m : Nat) (hm : m ≤ n) : SLine s w A m c (xs.take (m * s)) := by
  have hms : m * s ≤ n * s := Nat.mul_le_mul_right s hm
  have h1 := h.1
  have h2 := h.2.1
  refine ⟨by rw [List.length_take]; omega, by omega, h.2.2.1, h.2.2.2.1, fun ad e => ?_⟩
  obtain ⟨g, off, rfl, hg, hc, hf⟩ := h.2.2.2.2 ad e
  refine ⟨g, off, rfl, hg, fun i hi => ?_, hf⟩
  rw [hc i (by omega), List.getElem?_take, if_pos hi]
/-- One element more, of the room. -/
theorem SLine.spare (h : SLine s w A n c xs) (hr : n + 1 ≤ c) : ∃ ys, ys.length = s ∧ SLine s w A (n + 1) c (xs ++ ys) := by
  have h1 := h.1
  have hns : (n + 1) * s = n * s + s := by rw [Nat.add_mul, Nat.one_mul]
  cases A with
  | none => have := h.2.2.2.1 rfl; omega
  | some ad =>
    obtain ⟨g, off, rfl, hg, hc, hf⟩ := h.2.2.2.2 ad rfl
    refine ⟨(List.range s).map (fun j => (w.cell? ⟨g, off + (n * s + j), none⟩).getD (.bool false)), by simp, by rw [List.length_append, h1]; simp [hns], hr, h.2.2.1, (fun e => by cases e), fun ad e => ?_⟩
    cases e
    refine ⟨g, off, rfl, hg, fun i hi => ?_, hf⟩
    have hcs : (n + 1) * s ≤ c * s := Nat.mul_le_mul_right s hr
    rcases Nat.lt_or_ge i (n * s) with h2 | h2
    · rw [hc i h2, List.getElem?_append_left (by omega)]
    · have h3 := (hf i (by omega)).1
      obtain ⟨v, hv⟩ := Option.isSome_iff_exists.1 h3
      rw [List.getElem?_append_right (by omega), h1, List.getElem?_map, List.getElem?_range (by omega), Option.map_some, show n * s + (i - n * s) = i from by omega, hv]
      rfl
end
/-- Cells in its midst are written. -/
theorem SLine.set {s : Nat} {w : World} {g off n c : Nat} {xs : List Value} (h : SLine s w (some ⟨g, off, none⟩) n c xs) (o : Nat) (vs : List Value) (ho : o + vs.length ≤ n * s) : SLine s (w.setCells g (off + o) vs) (some ⟨g, off, none⟩) n c (xs.take o ++ vs ++ xs.drop (o + vs.length)) := by
  have h1 := h.1
  obtain ⟨g', off', e, hg, hc, hf⟩ := h.2.2.2.2 _ rfl
  cases e
  have hcs : n * s ≤ c * s := Nat.mul_le_mul_right s h.2.1
  refine ⟨by simp; omega, h.2.1, h.2.2.1, (fun e => by cases e), fun ad e => ?_⟩
  cases e
  refine ⟨g, off, rfl, Nat.lt_of_lt_of_le hg (chg_cells w g (off + o) vs).size, fun i hi => ?_, fun i hi => ⟨World.isSome_setCells g vs (off + o) w _ (hf i hi).1, by rw [World.frozen?_setCells]; exact (hf i hi).2⟩⟩
  have hto : (xs.take o).length = o := by rw [List.length_take]; omega
  rcases Nat.lt_or_ge i o with h2 | h2
  · rw [World.cell?_setCells_out g vs (off + o) w ⟨g, off + i, none⟩ (fun _ _ => .inl (by show off + i < off + o; omega)), hc i hi, List.append_assoc, List.getElem?_append_left (by omega), List.getElem?_take, if_pos h2]
  · rcases Nat.lt_or_ge i (o + vs.length) with h3 | h3
    · have := World.cell?_setCells_in g vs (off + o) w (fun j hj => by rw [Nat.add_assoc]; exact (hf _ (by omega)).1) (i - o) (by omega)
      rw [show off + o + (i - o) = off + i from by omega] at this
      rw [this, List.append_assoc, List.getElem?_append_right (by omega), List.getElem?_append_left (by omega), hto, List.getElem?_eq_getElem]
    · rw [World.cell?_setCells_out g vs (off + o) w ⟨g, off + i, none⟩ (fun _ _ => .inr (by show off + o + vs.length ≤ off + i; omega)), hc i hi, List.getElem?_append_right (by simp; omega), List.getElem?_drop]
      congr 1
      simp
      omega
theorem take_drop_flat {α : Type} (a b v : List α) (o : Nat) (ho : a.length = o) : (a ++ b).take o = a ∧ (a ++ b).drop o = b := by
  subst ho
  exact ⟨List.take_left, List.drop_left⟩

section
variable {P : Program}
/-- 'append': what is written is the line's own block, or a new one. -/
theorem sline_append (s : Nat) (w : World) (t e ty : TypeId) (z : Value) (bytes : Nat) (ht : P.underlying t = some (.slice e)) (hinfo : (P.info? e).map (fun i => (i.zero, i.size, i.bytes)) = some (some z, s, bytes)) (hz1 : z.cells.size = s) (hby : bytes ≤ 256)
    (A : Option Addr) (n c : Nat) (xs : List Value) (h : SLine s w A n c xs) (hn : n ≤ 1000000) (x : Value) (m : Nat) (hm : m ≤ 10000000) (hA : A = none → 0 < m) (news : List Value) (hsrc : Src P s t x m news w) :
    ∃ A' c' w', (Builtin.append_ #[t, t] ty #[.slice A n c, x]).run P w = .ok (.slice A' (n + m) c') w' ∧ SLine s w' A' (n + m) c' (xs ++ news) ∧ Chg (blk A) w w' ∧ (∀ k ∈ blk A', k ∈ blk A ∨ w.heap.size ≤ k) ∧ A' ≠ none := by
  obtain ⟨i0, hi, hz0, hs1, hs2⟩ := info_parts hinfo
  have hnl := hsrc.newsLen
  have h1 := h.1
  have hms : (n + m) * s = n * s + m * s := Nat.add_mul ..
  have hlen : (xs ++ news).length = (n + m) * s := by rw [List.length_append, h1, hnl, hms]
  by_cases hroom : n + m ≤ c
  · obtain ⟨g, off, rfl, hg, hc, hf⟩ : ∃ g off, A = some ⟨g, off, none⟩ ∧ g < w.heap.size ∧ (∀ i, i < n * s → w.cell? ⟨g, off + i, none⟩ = xs[i]?) ∧ ∀ i, i < c * s → (w.cell? ⟨g, off + i, none⟩).isSome = true ∧ w.frozen? ⟨g, off + i, none⟩ = false := by
      cases A with
      | none => have := h.2.2.2.1 rfl; have := hA rfl; omega
      | some ad =>
        obtain ⟨g, off, rfl, hg, hc, hf⟩ := h.2.2.2.2 ad rfl
        exact ⟨g, off, rfl, hg, hc, hf⟩
    have hcs : (n + m) * s ≤ c * s := Nat.mul_le_mul_right s hroom
    have hsrc' : Src P i0.size t x m news w := by rw [hs1]; exact hsrc
    have hr := run_append_room_src (P := P) w t t ty e i0 ht hi g off n c x m news hsrc' hroom
      (fun j hj => by
        rw [hs1, Nat.add_assoc]
        exact (hf _ (by omega)).1)
      (fun j hj => by
        rw [hs1, Nat.add_assoc]
        exact (hf _ (by omega)).2)
    rw [hs1] at hr
    refine ⟨_, _, _, hr, ⟨hlen, hroom, h.2.2.1, (fun e => by cases e), fun ad e => ?_⟩, (chg_cells w g (off + n * s) news).weaken (fun k hk => .inl (by simp only [List.mem_singleton] at hk; subst hk; exact mem_blk.2 ⟨_, rfl, rfl⟩)), fun k hk => .inl hk, by simp⟩
    cases e
    refine ⟨g, off, rfl, Nat.lt_of_lt_of_le hg (chg_cells w g (off + n * s) news).size, fun i hi => ?_, fun i hi => ⟨World.isSome_setCells g news (off + n * s) w _ (hf i hi).1, by rw [World.frozen?_setCells]; exact (hf i hi).2⟩⟩
    rcases Nat.lt_or_ge i (n * s) with h2 | h2
    · rw [World.cell?_setCells_out g news (off + n * s) w ⟨g, off + i, none⟩ (fun _ _ => .inl (by show off + i < off + n * s; omega)), hc i h2, List.getElem?_append_left (by omega)]
    · have := World.cell?_setCells_in g news (off + n * s) w (fun j hj => by rw [Nat.add_assoc]; exact (hf _ (by omega)).1) (i - n * s) (by omega)
      rw [show off + n * s + (i - n * s) = off + i from by omega] at this
      rw [this, List.getElem?_append_right (by omega), h1, List.getElem?_eq_getElem]
  · have hold : (Builtin.firstCells i0.size n (.slice A n c)).run P w.drew = .ok xs.toArray w.drew := by
      rw [hs1]
      cases A with
      | none =>
        have h2 := h.2.2.2.1 rfl
        have h3 := h.2.1
        obtain rfl : n = 0 := by omega
        have : xs = [] := List.eq_nil_of_length_eq_zero (by rw [h1, Nat.zero_mul])
        subst this
        exact run_firstCells_none w.drew s 0 0 c
      | some ad =>
        obtain ⟨g, off, rfl, hg, hc, hf⟩ := h.2.2.2.2 ad rfl
        refine run_firstCells_some w.drew s n ⟨g, off, none⟩ n c xs h1 (fun j v hj => ?_)
        have hjn : j < n * s := by rw [← h1]; exact (List.getElem?_eq_some_iff.1 hj).1
        have hadd : (⟨g, off, none⟩ : Addr).add j = ⟨g, off + j, none⟩ := by unfold Addr.add; split <;> simp_all
        rw [hadd]
        exact (hc j hjn).trans hj
    have hfit : Builtin.nextslicecap (n + m) c * i0.bytes ≤ 281474976710656 := growslice_fits (by omega) (by
      have h5 : (n + m) * i0.bytes ≤ 11000000 * 256 := Nat.mul_le_mul (by omega) (by rw [hs2]; exact hby)
      omega)
    have hsrc' : Src P i0.size t x m news w := by rw [hs1]; exact hsrc
    have hr := run_append_grow_src (P := P) w t t ty e i0 z ht hi hz0 A n c xs hold x m news hsrc' (by omega) (by omega) hfit
    have hge := grownCap_ge w (n + m) c e
    have hmx := grownCap_le_maxLen w (n + m) c e (by unfold maxLen; omega)
    generalize grownCap w (n + m) c e = C at *
    generalize hcur : (xs ++ news).toArray ++ Builtin.zeroCells z.cells (C - (n + m)) = cur at *
    have hcs : cur.size = C * s := by
      rw [← hcur, Array.size_append, List.size_toArray, hlen, size_zeroCells, hz1, Nat.sub_mul]
      have : (n + m) * s ≤ C * s := Nat.mul_le_mul_right s hge
      omega
    have hblock : (w.drew.alloc (.cells cur e)).heap[w.heap.size]? = some (.cells cur e (0, 0)) := heap_alloc_new w.drew _
    refine ⟨_, _, _, hr, ⟨hlen, hge, hmx, (fun e => by cases e), fun ad ea => ?_⟩, ((Chg.refl _ w).drew).alloc _, fun k hk => .inr ?_, by simp⟩
    · cases ea
      refine ⟨w.heap.size, 0, rfl, lt_of_block hblock, fun i hi => ?_, fun i hi => ?_⟩
      · rw [Nat.zero_add, cell_of_row _ w.heap.size i cur e (0, 0) hblock, ← hcur, Array.getElem?_append_left (by rw [List.size_toArray, hlen]; exact hi)]
        simp
      · rw [Nat.zero_add]
        refine ⟨?_, frozen_of_row _ w.heap.size i cur e hblock⟩
        rw [cell_of_row _ w.heap.size i cur e (0, 0) hblock, Array.getElem?_eq_getElem (by rw [hcs]; exact hi)]
        rfl
    · obtain ⟨ad, ea, hb⟩ := mem_blk.1 hk
      cases ea
      rw [← hb]
      exact Nat.le_refl _
/-- 'copy', elements of s cells. -/
theorem run_copy_sz (s k : Nat) (w : World) (dT sT ty elem : TypeId) (b o dLen dCap : Nat) (a : Addr) (sLen sCap : Nat) (cs : List Value)
    (hu : P.underlying dT = some (.slice elem)) (hs : (P.info? elem).map (·.size) = some s) (hk : Nat.min sLen dLen = k) (hn : cs.length = k * s)
    (hsrc : ∀ j v, cs[j]? = some v → w.cell? (a.add j) = some v) (hc : ∀ j, j < cs.length → (w.cell? ⟨b, o + j, none⟩).isSome = true) (hf : ∀ j, j < cs.length → w.frozen? ⟨b, o + j, none⟩ = false) (h1 : ∀ v ∈ cs, v.oneCell' = true) :
    (Builtin.copy_ #[dT, sT] ty #[.slice (some ⟨b, o, none⟩) dLen dCap, .slice (some a) sLen sCap]).run P w = .ok (goInt k) (w.setCells b o cs) := by
  have hl := run_loadCells_list (P := P) w a cs hsrc
  have hst := run_storeCells_cells (P := P) b o cs 0 w (by simpa using hc) (by simpa using hf) h1
  cases hq : P.info? elem with
  | none => simp [hq] at hs
  | some i =>
    have hi : i.size = s := by simpa [hq] using hs
    simp [Builtin.copy_, run_underlying hu, Builtin.lenOf, Builtin.firstCells, sizeOf, typeInfo, hq, hi, hk, ← hn, hl, hst]
/-- 'clear' of one element. -/
theorem run_clear_one (w : World) (t e ty : TypeId) (z : Value) (zs : List Value) (ht : P.underlying t = some (.slice e)) (hv : ∀ w, (zeroValue e).run P w = .ok z w) (hz : Builtin.zeroCells z.cells 1 = zs.toArray) (h1 : ∀ u ∈ zs, u.oneCell' = true) (b o c : Nat)
    (hc : ∀ j, j < zs.length → (w.cell? ⟨b, o + j, none⟩).isSome = true) (hf : ∀ j, j < zs.length → w.frozen? ⟨b, o + j, none⟩ = false) :
    (Builtin.clear_ #[t] ty #[.slice (some ⟨b, o, none⟩) 1 c]).run P w = .ok (.tuple #[]) (w.setCells b o zs) := by
  have hst := run_storeCells_cells (P := P) b o zs 0 w (by simpa using hc) (by simpa using hf) h1
  simp only [Nat.add_zero] at hst
  simp [Builtin.clear_, run_underlying ht, hv, hz, hst]
/-- A block that has a cell has a shape. -/
theorem shape_of_cell {w : World} {g o : Nat} (h : (w.cell? ⟨g, o, none⟩).isSome = true) : ∃ t k, w.shape? g = some (t, k) ∧ k ≠ 0 := by
  unfold World.cell? at h
  unfold World.shape?
  cases hg : w.heap[g]? with
  | none => simp [hg] at h
  | some ob =>
    cases ob <;> simp_all
    rename_i cs t fr
    exact ⟨t, cs.size, ⟨rfl, rfl⟩, by omega⟩
end
end Go.Proofs.Ytadgemcpahfkoaa
