/-
  A line of elements of several cells each: a slice that may begin anywhere in its block; the builtins append, copy and clear over such. No function of the program in sight.
  Rows of keys and values, by rising keys: plain mathematics; no function of the program in sight.
-/
import Derived.Test.YtmedhibjkbahpaaZan
import Derived.Lib.AppendZerosOnto
import Derived.Lib.Overlaps
import Derived.Laws.IdiomCopy
import Derived.Deep.RegionLaw
namespace Go.Proofs.Ytmedhibjkbahpaa
open Go.RowKit
set_option linter.unusedVariables false

/-- The slice A of n elements of s cells each, of c elements at most, holds the cells xs; its places may be written. -/
def SLine (s : Nat) (w : World) (A : Option Addr) (n c : Nat) (xs : List Value) : Prop :=
  xs.length = n * s ∧ n ≤ c ∧ c ≤ maxLen ∧ (A = none → c = 0) ∧ ∀ ad, A = some ad → ∃ g off, ad = ⟨g, off, none⟩ ∧ g < w.heap.size ∧ (∀ i, i < n * s → w.cell? ⟨g, off + i, none⟩ = xs[i]?) ∧
    ∀ i, i < c * s → (w.cell? ⟨g, off + i, none⟩).isSome = true ∧ w.frozen? ⟨g, off + i, none⟩ = false
theorem SLine.nil (s : Nat) (w : World) : SLine s w none 0 0 [] := ⟨by simp, Nat.le_refl _, by unfold maxLen; omega, fun _ => rfl, fun ad e => by cases e⟩
section
variable {s : Nat} {w w' : World} {A : Option Addr} {n c : Nat} {xs : List Value}
theorem SLine.lt (h : SLine s w A n c xs) : ∀ k ∈ blk A, k < w.heap.size := by
  intro k hk
  obtain ⟨ad, rfl, rfl⟩ := mem_blk.1 hk
  obtain ⟨g, off, rfl, hg, _⟩ := h.2.2.2.2 ad rfl
  exact hg
theorem SLine.same (h : SLine s w A n c xs) (hz : w.heap.size ≤ w'.heap.size) (hs : ∀ k ∈ blk A, w'.heap[k]? = w.heap[k]?) : SLine s w' A n c xs := by
  refine ⟨h.1, h.2.1, h.2.2.1, h.2.2.2.1, fun ad e => ?_⟩
  obtain ⟨g, off, rfl, hg, hc, hf⟩ := h.2.2.2.2 ad e
  have hb : w'.heap[g]? = w.heap[g]? := hs g (mem_blk.2 ⟨_, e, rfl⟩)
  refine ⟨g, off, rfl, Nat.lt_of_lt_of_le hg hz, fun i hi => ?_, fun i hi => ?_⟩
  · rw [World.cell?_of_block (w := w) (a := ⟨g, off + i, none⟩) hb]
    exact hc i hi
  · rw [World.cell?_of_block (w := w) (a := ⟨g, off + i, none⟩) hb, World.frozen?_of_block (w := w) (a := ⟨g, off + i, none⟩) hb]
    exact hf i hi
theorem SLine.chg {l : List Nat} (h : SLine s w A n c xs) (hc : Chg l w w') (hl : ∀ k ∈ blk A, k ∉ l) : SLine s w' A n c xs := h.same hc.size fun k hk => hc.same k (h.lt k hk) (hl k hk)
theorem SLine.below (h : SLine s w A n c xs) (hb : Below w.heap.size w w') : SLine s w' A n c xs := h.same hb.size fun k hk => hb.block k (h.lt k hk)
theorem SLine.drew (h : SLine s w A n c xs) : SLine s w.drew A n c xs := h
/-- Where the elements lie. -/
theorem SLine.at (h : SLine s w A n c xs) (hn : 0 < n) : ∃ g off, A = some ⟨g, off, none⟩ ∧ g < w.heap.size ∧ (∀ i, i < n * s → w.cell? ⟨g, off + i, none⟩ = xs[i]?) ∧ ∀ i, i < c * s → (w.cell? ⟨g, off + i, none⟩).isSome = true ∧ w.frozen? ⟨g, off + i, none⟩ = false := by
  cases A with
  | none =>
    have h1 := h.2.2.2.1 rfl
    have h2 := h.2.1
    omega
  | some ad =>
    obtain ⟨g, off, rfl, hg, hc, hf⟩ := h.2.2.2.2 ad rfl
    exact ⟨g, off, rfl, hg, hc, hf⟩
/-- Fewer elements. -/
theorem SLine.shrink (h : SLine s w A n c xs) (m : Nat) (hm : m ≤ n) : SLine s w A m c (xs.take (m * s)) := by
  have hms : m * s ≤ n * s := Nat.mul_le_mul_right s hm
  have h1 := h.1
  have h2 := h.2.1
  refine ⟨by rw [List.length_take]; omega, by omega, h.2.2.1, h.2.2.2.1, fun ad e => ?_⟩
  obtain ⟨g, off, rfl, hg, hc, hf⟩ := h.2.2.2.2 ad e
  refine ⟨g, off, rfl, hg, fun i hi => ?_, hf⟩
  rw [hc i (by omega), List.getElem?_take, if_pos hi]
/-- One element more, of the room. -/
theorem SLine.spare (h : SLine s w A n c xs) (hr : n + 1 ≤ c) : ∃ ys, ys.length = s ∧ SLine s w A (n + 1) c (xs ++ ys) := by
  have h1 := h.1
  have hns : (n + 1) * s = n * s + s := by rw [Nat.add_mul, Nat.one_mul]
  cases A with
  | none => have := h.2.2.2.1 rfl; omega
  | some ad =>
    obtain ⟨g, off, rfl, hg, hc, hf⟩ := h.2.2.2.2 ad rfl
    refine ⟨(List.range s).map (fun j => (w.cell? ⟨g, off + (n * s + j), none⟩).getD (.bool false)), by simp, by rw [List.length_append, h1]; simp [hns], hr, h.2.2.1, (fun e => by cases e), fun ad e => ?_⟩
    cases e
    refine ⟨g, off, rfl, hg, fun i hi => ?_, hf⟩
    have hcs : (n + 1) * s ≤ c * s := Nat.mul_le_mul_right s hr
    rcases Nat.lt_or_ge i (n * s) with h2 | h2
    · rw [hc i h2, List.getElem?_append_left (by omega)]
    · have h3 := (hf i (by omega)).1
      obtain ⟨v, hv⟩ := Option.isSome_iff_exists.1 h3
      rw [List.getElem?_append_right (by omega), h1, List.getElem?_map, List.getElem?_range (by omega), Option.map_some, show n * s + (i - n * s) = i from by omega, hv]
      rfl
end
/-- Cells in its midst are written. -/
theorem SLine.set {s : Nat} {w : World} {g off n c : Nat} {xs : List Value} (h : SLine s w (some ⟨g, off, none⟩) n c xs) (o : Nat) (vs : List Value) (ho : o + vs.length ≤ n * s) : SLine s (w.setCells g (off + o) vs) (some ⟨g, off, none⟩) n c (xs.take o ++ vs ++ xs.drop (o + vs.length)) := by
  have h1 := h.1
  obtain ⟨g', off', e, hg, hc, hf⟩ := h.2.2.2.2 _ rfl
  cases e
  have hcs : n * s ≤ c * s := Nat.mul_le_mul_right s h.2.1
  refine ⟨by simp; omega, h.2.1, h.2.2.1, (fun e => by cases e), fun ad e => ?_⟩
  cases e
  refine ⟨g, off, rfl, Nat.lt_of_lt_of_le hg (chg_cells w g (off + o) vs).size, fun i hi => ?_, fun i hi => ⟨World.isSome_setCells g vs (off + o) w _ (hf i hi).1, by rw [World.frozen?_setCells]; exact (hf i hi).2⟩⟩
  have hto : (xs.take o).length = o := by rw [List.length_take]; omega
  rcases Nat.lt_or_ge i o with h2 | h2
  · rw [World.cell?_setCells_out g vs (off + o) w ⟨g, off + i, none⟩ (fun _ _ => .inl (by show off + i < off + o; omega)), hc i hi, List.append_assoc, List.getElem?_append_left (by omega), List.getElem?_take, if_pos h2]
  · rcases Nat.lt_or_ge i (o + vs.length) with h3 | h3
    · have := World.cell?_setCells_in g vs (off + o) w (fun j hj => by rw [Nat.add_assoc]; exact (hf _ (by omega)).1) (i - o) (by omega)
      rw [show off + o + (i - o) = off + i from by omega] at this
      rw [this, List.append_assoc, List.getElem?_append_right (by omega), List.getElem?_append_left (by omega), hto, List.getElem?_eq_getElem]
    · rw [World.cell?_setCells_out g vs (off + o) w ⟨g, off + i, none⟩ (fun _ _ => .inr (by show off + o + vs.length ≤ off + i; omega)), hc i hi, List.getElem?_append_right (by simp; omega), List.getElem?_drop]
      congr 1
      simp
      omega
theorem take_drop_flat {α : Type} (a b v : List α) (o : Nat) (ho : a.length = o) : (a ++ b).take o = a ∧ (a ++ b).drop o = b := by
  subst ho
  exact ⟨List.take_left, List.drop_left⟩

section
variable {P : Program}
/-- 'append': what is written is the line's own block, or a new one. -/
theorem sline_append (s : Nat) (w : World) (t e ty : TypeId) (z : Value) (bytes : Nat) (ht : P.underlying t = some (.slice e)) (hinfo : (P.info? e).map (fun i => (i.zero, i.size, i.bytes)) = some (some z, s, bytes)) (hz1 : z.cells.size = s) (hby : bytes ≤ 256)
    (A : Option Addr) (n c : Nat) (xs : List Value) (h : SLine s w A n c xs) (hn : n ≤ 1000000) (x : Value) (m : Nat) (hm : m ≤ 10000000) (hA : A = none → 0 < m) (news : List Value) (hsrc : Src P s t x m news w) :
    ∃ A' c' w', (Builtin.append_ #[t, t] ty #[.slice A n c, x]).run P w = .ok (.slice A' (n + m) c') w' ∧ SLine s w' A' (n + m) c' (xs ++ news) ∧ Chg (blk A) w w' ∧ (∀ k ∈ blk A', k ∈ blk A ∨ w.heap.size ≤ k) ∧ A' ≠ none := by
  obtain ⟨i0, hi, hz0, hs1, hs2⟩ := info_parts hinfo
  have hnl := hsrc.newsLen
  have h1 := h.1
  have hms : (n + m) * s = n * s + m * s := Nat.add_mul ..
  have hlen : (xs ++ news).length = (n + m) * s := by rw [List.length_append, h1, hnl, hms]
  by_cases hroom : n + m ≤ c
  · obtain ⟨g, off, rfl, hg, hc, hf⟩ : ∃ g off, A = some ⟨g, off, none⟩ ∧ g < w.heap.size ∧ (∀ i, i < n * s → w.cell? ⟨g, off + i, none⟩ = xs[i]?) ∧ ∀ i, i < c * s → (w.cell? ⟨g, off + i, none⟩).isSome = true ∧ w.frozen? ⟨g, off + i, none⟩ = false := by
      cases A with
      | none => have := h.2.2.2.1 rfl; have := hA rfl; omega
      | some ad =>
        obtain ⟨g, off, rfl, hg, hc, hf⟩ := h.2.2.2.2 ad rfl
        exact ⟨g, off, rfl, hg, hc, hf⟩
    have hcs : (n + m) * s ≤ c * s := Nat.mul_le_mul_right s hroom
    have hsrc' : Src P i0.size t x m news w := by rw [hs1]; exact hsrc
    have hr := run_append_room_src (P := P) w t t ty e i0 ht hi g off n c x m news hsrc' hroom
      (fun j hj => by
        rw [hs1, Nat.add_assoc]
        exact (hf _ (by omega)).1)
      (fun j hj => by
        rw [hs1, Nat.add_assoc]
        exact (hf _ (by omega)).2)
    rw [hs1] at hr
    refine ⟨_, _, _, hr, ⟨hlen, hroom, h.2.2.1, (fun e => by cases e), fun ad e => ?_⟩, (chg_cells w g (off + n * s) news).weaken (fun k hk => .inl (by simp only [List.mem_singleton] at hk; subst hk; exact mem_blk.2 ⟨_, rfl, rfl⟩)), fun k hk => .inl hk, by simp⟩
    cases e
    refine ⟨g, off, rfl, Nat.lt_of_lt_of_le hg (chg_cells w g (off + n * s) news).size, fun i hi => ?_, fun i hi => ⟨World.isSome_setCells g news (off + n * s) w _ (hf i hi).1, by rw [World.frozen?_setCells]; exact (hf i hi).2⟩⟩
    rcases Nat.lt_or_ge i (n * s) with h2 | h2
    · rw [World.cell?_setCells_out g news (off + n * s) w ⟨g, off + i, none⟩ (fun _ _ => .inl (by show off + i < off + n * s; omega)), hc i h2, List.getElem?_append_left (by omega)]
    · have := World.cell?_setCells_in g news (off + n * s) w (fun j hj => by rw [Nat.add_assoc]; exact (hf _ (by omega)).1) (i - n * s) (by omega)
      rw [show off + n * s + (i - n * s) = off + i from by omega] at this
      rw [this, List.getElem?_append_right (by omega), h1, List.getElem?_eq_getElem]
  · have hold : (Builtin.firstCells i0.size n (.slice A n c)).run P w.drew = .ok xs.toArray w.drew := by
      rw [hs1]
      cases A with
      | none =>
        have h2 := h.2.2.2.1 rfl
        have h3 := h.2.1
        obtain rfl : n = 0 := by omega
        have : xs = [] := List.eq_nil_of_length_eq_zero (by rw [h1, Nat.zero_mul])
        subst this
        exact run_firstCells_none w.drew s 0 0 c
      | some ad =>
        obtain ⟨g, off, rfl, hg, hc, hf⟩ := h.2.2.2.2 ad rfl
        refine run_firstCells_some w.drew s n ⟨g, off, none⟩ n c xs h1 (fun j v hj => ?_)
        have hjn : j < n * s := by rw [← h1]; exact (List.getElem?_eq_some_iff.1 hj).1
        have hadd : (⟨g, off, none⟩ : Addr).add j = ⟨g, off + j, none⟩ := by unfold Addr.add; split <;> simp_all
        rw [hadd]
        exact (hc j hjn).trans hj
    have hfit : Builtin.nextslicecap (n + m) c * i0.bytes ≤ 281474976710656 := growslice_fits (by omega) (by
      have h5 : (n + m) * i0.bytes ≤ 11000000 * 256 := Nat.mul_le_mul (by omega) (by rw [hs2]; exact hby)
      omega)
    have hsrc' : Src P i0.size t x m news w := by rw [hs1]; exact hsrc
    have hr := run_append_grow_src (P := P) w t t ty e i0 z ht hi hz0 A n c xs hold x m news hsrc' (by omega) (by omega) hfit
    have hge := grownCap_ge w (n + m) c e
    have hmx := grownCap_le_maxLen w (n + m) c e (by unfold maxLen; omega)
    generalize grownCap w (n + m) c e = C at *
    generalize hcur : (xs ++ news).toArray ++ Builtin.zeroCells z.cells (C - (n + m)) = cur at *
    have hcs : cur.size = C * s := by
      rw [← hcur, Array.size_append, List.size_toArray, hlen, size_zeroCells, hz1, Nat.sub_mul]
      have : (n + m) * s ≤ C * s := Nat.mul_le_mul_right s hge
      omega
    have hblock : (w.drew.alloc (.cells cur e)).heap[w.heap.size]? = some (.cells cur e (0, 0)) := heap_alloc_new w.drew _
    refine ⟨_, _, _, hr, ⟨hlen, hge, hmx, (fun e => by cases e), fun ad ea => ?_⟩, ((Chg.refl _ w).drew).alloc _, fun k hk => .inr ?_, by simp⟩
    · cases ea
      refine ⟨w.heap.size, 0, rfl, lt_of_block hblock, fun i hi => ?_, fun i hi => ?_⟩
      · rw [Nat.zero_add, cell_of_row _ w.heap.size i cur e (0, 0) hblock, ← hcur, Array.getElem?_append_left (by rw [List.size_toArray, hlen]; exact hi)]
        simp
      · rw [Nat.zero_add]
        refine ⟨?_, frozen_of_row _ w.heap.size i cur e hblock⟩
        rw [cell_of_row _ w.heap.size i cur e (0, 0) hblock, Array.getElem?_eq_getElem (by rw [hcs]; exact hi)]
        rfl
    · obtain ⟨ad, ea, hb⟩ := mem_blk.1 hk
      cases ea
      rw [← hb]
      exact Nat.le_refl _
/-- 'copy', elements of s cells. -/
theorem run_copy_sz (s k : Nat) (w : World) (dT sT ty elem : TypeId) (b o dLen dCap : Nat) (a : Addr) (sLen sCap : Nat) (cs : List Value)
    (hu : P.underlying dT = some (.slice elem)) (hs : (P.info? elem).map (·.size) = some s) (hk : Nat.min sLen dLen = k) (hn : cs.length = k * s)
    (hsrc : ∀ j v, cs[j]? = some v → w.cell? (a.add j) = some v) (hc : ∀ j, j < cs.length → (w.cell? ⟨b, o + j, none⟩).isSome = true) (hf : ∀ j, j < cs.length → w.frozen? ⟨b, o + j, none⟩ = false) (h1 : ∀ v ∈ cs, v.oneCell' = true) :
    (Builtin.copy_ #[dT, sT] ty #[.slice (some ⟨b, o, none⟩) dLen dCap, .slice (some a) sLen sCap]).run P w = .ok (goInt k) (w.setCells b o cs) := by
  have hl := run_loadCells_list (P := P) w a cs hsrc
  have hst := run_storeCells_cells (P := P) b o cs 0 w (by simpa using hc) (by simpa using hf) h1
  cases hq : P.info? elem with
  | none => simp [hq] at hs
  | some i =>
    have hi : i.size = s := by simpa [hq] using hs
    simp [Builtin.copy_, run_underlying hu, Builtin.lenOf, Builtin.firstCells, sizeOf, typeInfo, hq, hi, hk, ← hn, hl, hst]
/-- 'clear' of one element. -/
theorem run_clear_one (w : World) (t e ty : TypeId) (z : Value) (zs : List Value) (ht : P.underlying t = some (.slice e)) (hv : ∀ w, (zeroValue e).run P w = .ok z w) (hz : Builtin.zeroCells z.cells 1 = zs.toArray) (h1 : ∀ u ∈ zs, u.oneCell' = true) (b o c : Nat)
    (hc : ∀ j, j < zs.length → (w.cell? ⟨b, o + j, none⟩).isSome = true) (hf : ∀ j, j < zs.length → w.frozen? ⟨b, o + j, none⟩ = false) :
    (Builtin.clear_ #[t] ty #[.slice (some ⟨b, o, none⟩) 1 c]).run P w = .ok (.tuple #[]) (w.setCells b o zs) := by
  have hst := run_storeCells_cells (P := P) b o zs 0 w (by simpa using hc) (by simpa using hf) h1
  simp only [Nat.add_zero] at hst
  simp [Builtin.clear_, run_underlying ht, hv, hz, hst]
/-- A block that has a cell has a shape. -/
theorem shape_of_cell {w : World} {g o : Nat} (h : (w.cell? ⟨g, o, none⟩).isSome = true) : ∃ t k, w.shape? g = some (t, k) ∧ k ≠ 0 := by
  unfold World.cell? at h
  unfold World.shape?
  cases hg : w.heap[g]? with
  | none => simp [hg] at h
  | some ob =>
    cases ob <;> simp_all
    rename_i cs t fr
    exact ⟨t, cs.size, ⟨rfl, rfl⟩, by omega⟩
end
end Go.Proofs.Ytmedhibjkbahpaa
namespace Go.Proofs.Ytmedhibjkbahpaa
open Go.RowKit
set_option linter.unusedVariables false

/-- A strict order in which two that are unlike can be told. -/
structure Orders {α : Type} (lt : α → α → Bool) : Prop where
  irr : ∀ a, lt a a = false
  tr : ∀ a b c, lt a b = true → lt b c = true → lt a c = true
  tot : ∀ a b, lt a b = false → lt b a = false → a = b
theorem Orders.asym {α : Type} {lt : α → α → Bool} (h : Orders lt) {a b : α} (hab : lt a b = true) : lt b a = false := by
  cases e : lt b a with
  | false => rfl
  | true => have := h.tr a b a hab e; rw [h.irr] at this; cases this
def ltI (a b : Int) : Bool := decide (a < b)
theorem orders_I : Orders ltI := ⟨fun a => by simp [ltI], fun a b c h1 h2 => by simp [ltI] at *; omega, fun a b h1 h2 => by simp [ltI] at *; omega⟩
def ltS (a b : ByteArray) : Bool := Op.bytesLess a.toList b.toList
theorem less_irr : ∀ x : List UInt8, Op.bytesLess x x = false
  | [] => rfl
  | a :: x => by simp [Op.bytesLess, less_irr x]
theorem less_tr : ∀ x y z : List UInt8, Op.bytesLess x y = true → Op.bytesLess y z = true → Op.bytesLess x z = true
  | _, [], _, h, _ => by simp [Op.bytesLess] at h
  | _, _ :: _, [], _, h => by simp [Op.bytesLess] at h
  | [], _ :: _, _ :: _, _, _ => rfl
  | a :: x, b :: y, c :: z, h1, h2 => by
    simp only [Op.bytesLess, Bool.or_eq_true, Bool.and_eq_true, decide_eq_true_eq, beq_iff_eq] at h1 h2 ⊢
    rcases h1 with h1 | ⟨rfl, h1⟩
    · rcases h2 with h2 | ⟨rfl, h2⟩
      · exact .inl (UInt8.lt_trans h1 h2)
      · exact .inl h1
    · rcases h2 with h2 | ⟨rfl, h2⟩
      · exact .inl h2
      · exact .inr ⟨rfl, less_tr x y z h1 h2⟩
theorem less_tot : ∀ x y : List UInt8, Op.bytesLess x y = false → Op.bytesLess y x = false → x = y
  | [], [], _, _ => rfl
  | [], _ :: _, h, _ => by simp [Op.bytesLess] at h
  | _ :: _, [], _, h => by simp [Op.bytesLess] at h
  | a :: x, b :: y, h1, h2 => by
    simp only [Op.bytesLess, Bool.or_eq_false_iff, decide_eq_false_iff_not, Bool.and_eq_false_iff, beq_eq_false_iff_ne] at h1 h2
    have e : a = b := UInt8.le_antisymm (UInt8.not_lt.1 h2.1) (UInt8.not_lt.1 h1.1)
    subst e
    rw [less_tot x y (by rcases h1.2 with h | h; exact absurd rfl h; exact h) (by rcases h2.2 with h | h; exact absurd rfl h; exact h)]
theorem bytes_inj {a b : ByteArray} (h : a.toList = b.toList) : a = b := by
  rw [ByteArray.toList_eq, ByteArray.toList_eq] at h
  cases a; cases b
  congr 1
  exact Array.toList_inj.1 h
theorem orders_S : Orders ltS := ⟨fun a => less_irr _, fun a b c h1 h2 => less_tr _ _ _ h1 h2, fun a b h1 h2 => bytes_inj (less_tot _ _ h1 h2)⟩
/-- -1, 0 or 1. -/
def cmpP {α : Type} (lt : α → α → Bool) (a b : α) : Int := if lt a b = true then -1 else if lt b a = true then 1 else 0
section
variable {α : Type} (lt : α → α → Bool)
theorem cmpP_neg {lt : α → α → Bool} {a b : α} : cmpP lt a b < 0 ↔ lt a b = true := by
  unfold cmpP
  split
  · simp_all
  · split <;> simp_all
theorem cmpP_zero {lt : α → α → Bool} {a b : α} : cmpP lt a b = 0 ↔ lt a b = false ∧ lt b a = false := by
  unfold cmpP
  split
  · simp_all
  · split <;> simp_all
def Rises (ps : List (α × Value)) : Prop := ps.Pairwise fun p q => lt p.1 q.1 = true
def putP (ps : List (α × Value)) (k : α) (v : Value) : List (α × Value) := ps.filter (fun p => lt p.1 k) ++ (k, v) :: ps.filter (fun p => lt k p.1)
def dropP (ps : List (α × Value)) (k : α) : List (α × Value) := ps.filter (fun p => lt p.1 k) ++ ps.filter (fun p => lt k p.1)
def lookP (ps : List (α × Value)) (k : α) : Option Value := (ps.find? (fun p => !lt p.1 k && !lt k p.1)).map (·.2)
def hasP (ps : List (α × Value)) (k : α) : Bool := (lookP lt ps k).isSome
/-- Where k's pair stands, or would stand. -/
def Spot (ps : List (α × Value)) (k : α) (i : Nat) : Prop := i ≤ ps.length ∧ (∀ j p, j < i → ps[j]? = some p → lt p.1 k = true) ∧ (∀ j p, i ≤ j → ps[j]? = some p → lt p.1 k = false)
end
section
variable {α : Type} {lt : α → α → Bool} {ps : List (α × Value)} {k : α} {i : Nat}
theorem mem_take_at {x : α × Value} (h : x ∈ ps.take i) : ∃ j, j < i ∧ ps[j]? = some x := by
  obtain ⟨j, hj, e⟩ := List.getElem_of_mem h
  have hji : j < i := by rw [List.length_take] at hj; omega
  refine ⟨j, hji, ?_⟩
  have := List.getElem?_eq_getElem hj
  rw [e, List.getElem?_take, if_pos hji] at this
  exact this
theorem mem_drop_at {x : α × Value} (h : x ∈ ps.drop i) : ∃ j, i ≤ j ∧ ps[j]? = some x := by
  obtain ⟨j, hj, e⟩ := List.getElem_of_mem h
  refine ⟨i + j, by omega, ?_⟩
  have := List.getElem?_eq_getElem hj
  rw [e, List.getElem?_drop] at this
  exact this
theorem Spot.less (h : Spot lt ps k i) : ps.filter (fun p => lt p.1 k) = ps.take i := by
  conv => lhs; rw [← List.take_append_drop i ps]
  rw [List.filter_append, List.filter_eq_self.2 (fun x hx => by obtain ⟨j, h1, h2⟩ := mem_take_at hx; exact h.2.1 j x h1 h2),
    List.filter_eq_nil_iff.2 (fun x hx => by obtain ⟨j, h1, h2⟩ := mem_drop_at hx; rw [h.2.2 j x h1 h2]; simp), List.append_nil]
theorem Spot.front (O : Orders lt) (h : Spot lt ps k i) : (ps.take i).filter (fun p => lt k p.1) = [] :=
  List.filter_eq_nil_iff.2 (fun x hx => by obtain ⟨j, h1, h2⟩ := mem_take_at hx; rw [O.asym (h.2.1 j x h1 h2)]; simp)
/-- It isn't there. -/
theorem Spot.more (O : Orders lt) (hr : Rises lt ps) (h : Spot lt ps k i) (hn : ∀ p, ps[i]? = some p → lt k p.1 = true) : ps.filter (fun p => lt k p.1) = ps.drop i := by
  conv => lhs; rw [← List.take_append_drop i ps]
  rw [List.filter_append, h.front O, List.nil_append]
  refine List.filter_eq_self.2 (fun x hx => ?_)
  obtain ⟨j, h1, h2⟩ := mem_drop_at hx
  rcases Nat.lt_or_ge i j with h3 | h3
  · have hj := (List.getElem?_eq_some_iff.1 h2).1
    have hi : i < ps.length := by omega
    have hp := hn _ (List.getElem?_eq_getElem hi)
    have hlt := (List.pairwise_iff_getElem.1 hr) i j hi hj h3
    rw [(List.getElem?_eq_some_iff.1 h2).2] at hlt
    exact O.tr _ _ _ hp hlt
  · obtain rfl : i = j := by omega
    exact hn x h2
/-- It is there. -/
theorem Spot.more1 (O : Orders lt) (hr : Rises lt ps) (h : Spot lt ps k i) {v : Value} (hi : ps[i]? = some (k, v)) : ps.filter (fun p => lt k p.1) = ps.drop (i + 1) := by
  have hil := (List.getElem?_eq_some_iff.1 hi).1
  have hie := (List.getElem?_eq_some_iff.1 hi).2
  conv => lhs; rw [← List.take_append_drop i ps]
  rw [List.filter_append, h.front O, List.nil_append, List.drop_eq_getElem_cons hil, hie, List.filter_cons_of_neg (by rw [O.irr]; simp)]
  refine List.filter_eq_self.2 (fun x hx => ?_)
  obtain ⟨j, h1, h2⟩ := mem_drop_at hx
  have hj := (List.getElem?_eq_some_iff.1 h2).1
  have hlt := (List.pairwise_iff_getElem.1 hr) i j hil hj (by omega)
  rw [(List.getElem?_eq_some_iff.1 h2).2, hie] at hlt
  exact hlt
theorem Spot.put_new (O : Orders lt) (hr : Rises lt ps) (h : Spot lt ps k i) (hn : ∀ p, ps[i]? = some p → lt k p.1 = true) (v : Value) : putP lt ps k v = ps.take i ++ (k, v) :: ps.drop i := by
  unfold putP
  rw [h.less, h.more O hr hn]
theorem Spot.put_old (O : Orders lt) (hr : Rises lt ps) (h : Spot lt ps k i) {u : Value} (hi : ps[i]? = some (k, u)) (v : Value) : putP lt ps k v = ps.set i (k, v) := by
  unfold putP
  rw [h.less, h.more1 O hr hi, List.set_eq_take_append_cons_drop, if_pos (List.getElem?_eq_some_iff.1 hi).1]
theorem Spot.drop_new (O : Orders lt) (hr : Rises lt ps) (h : Spot lt ps k i) (hn : ∀ p, ps[i]? = some p → lt k p.1 = true) : dropP lt ps k = ps := by
  unfold dropP
  rw [h.less, h.more O hr hn, List.take_append_drop]
theorem Spot.drop_old (O : Orders lt) (hr : Rises lt ps) (h : Spot lt ps k i) {u : Value} (hi : ps[i]? = some (k, u)) : dropP lt ps k = ps.take i ++ ps.drop (i + 1) := by
  unfold dropP
  rw [h.less, h.more1 O hr hi]
theorem Spot.look_old (O : Orders lt) (h : Spot lt ps k i) {u : Value} (hi : ps[i]? = some (k, u)) : lookP lt ps k = some u := by
  unfold lookP
  have hil := (List.getElem?_eq_some_iff.1 hi).1
  have hie := (List.getElem?_eq_some_iff.1 hi).2
  conv => lhs; rw [← List.take_append_drop i ps]
  rw [List.find?_append, List.find?_eq_none.2 (fun x hx => by obtain ⟨j, h1, h2⟩ := mem_take_at hx; rw [h.2.1 j x h1 h2]; simp), Option.none_or, List.drop_eq_getElem_cons hil, hie, List.find?_cons_of_pos (by rw [O.irr]; rfl)]
  rfl
theorem Spot.look_new (O : Orders lt) (hr : Rises lt ps) (h : Spot lt ps k i) (hn : ∀ p, ps[i]? = some p → lt k p.1 = true) : lookP lt ps k = none := by
  unfold lookP
  have hm := h.more O hr hn
  conv => lhs; rw [← List.take_append_drop i ps]
  rw [List.find?_append, List.find?_eq_none.2 (fun x hx => by obtain ⟨j, h1, h2⟩ := mem_take_at hx; rw [h.2.1 j x h1 h2]; simp), Option.none_or, List.find?_eq_none.2 (fun x hx => by
    rw [← hm] at hx
    have := (List.mem_filter.1 hx).2
    rw [this]; simp)]
  rfl
theorem any_there {α : Type} {lt : α → α → Bool} {ps : List (α × Value)} {k : α} {i : Nat} (O : Orders lt) (h : Spot lt ps k i) : (ps[i]?.any (fun p => !lt k p.1) = true ∧ ∃ u, ps[i]? = some (k, u)) ∨ (ps[i]?.any (fun p => !lt k p.1) = false ∧ ∀ p, ps[i]? = some p → lt k p.1 = true) := by
  cases e : ps[i]? with
  | none => exact .inr ⟨rfl, fun p hp => by cases hp⟩
  | some p =>
    cases e2 : lt k p.1 with
    | true => exact .inr ⟨by simp [e2], fun p' hp => by cases hp; exact e2⟩
    | false =>
      obtain ⟨x, u⟩ := p
      have := O.tot _ _ (h.2.2 i _ (Nat.le_refl _) e) e2
      simp only at this
      subst this
      exact .inl ⟨by simp [e2], u, rfl⟩
theorem mem_putP (O : Orders lt) {v : Value} {x : α × Value} : x ∈ putP lt ps k v ↔ x = (k, v) ∨ (x ∈ ps ∧ x.1 ≠ k) := by
  unfold putP
  simp only [List.mem_append, List.mem_cons, List.mem_filter]
  constructor
  · rintro (⟨h1, h2⟩ | h | ⟨h1, h2⟩)
    · exact .inr ⟨h1, fun e => by rw [e, O.irr] at h2; cases h2⟩
    · exact .inl h
    · exact .inr ⟨h1, fun e => by rw [e, O.irr] at h2; cases h2⟩
  · rintro (h | ⟨h1, h2⟩)
    · exact .inr (.inl h)
    · cases e1 : lt x.1 k with
      | true => exact .inl ⟨h1, rfl⟩
      | false =>
        cases e2 : lt k x.1 with
        | true => exact .inr (.inr ⟨h1, rfl⟩)
        | false => exact absurd (O.tot _ _ e1 e2) h2
theorem mem_dropP (O : Orders lt) {x : α × Value} : x ∈ dropP lt ps k ↔ x ∈ ps ∧ x.1 ≠ k := by
  unfold dropP
  simp only [List.mem_append, List.mem_filter]
  constructor
  · rintro (⟨h1, h2⟩ | ⟨h1, h2⟩) <;> exact ⟨h1, fun e => by rw [e, O.irr] at h2; cases h2⟩
  · rintro ⟨h1, h2⟩
    cases e1 : lt x.1 k with
    | true => exact .inl ⟨h1, rfl⟩
    | false =>
      cases e2 : lt k x.1 with
      | true => exact .inr ⟨h1, rfl⟩
      | false => exact absurd (O.tot _ _ e1 e2) h2
theorem rises_put (O : Orders lt) (hr : Rises lt ps) (v : Value) : Rises lt (putP lt ps k v) := by
  unfold Rises putP
  refine List.pairwise_append.2 ⟨List.Pairwise.filter _ hr, List.pairwise_cons.2 ⟨fun x hx => (List.mem_filter.1 hx).2, List.Pairwise.filter _ hr⟩, fun a ha b hb => ?_⟩
  have h1 := (List.mem_filter.1 ha).2
  rcases List.mem_cons.1 hb with rfl | hb
  · exact h1
  · exact O.tr _ _ _ h1 (List.mem_filter.1 hb).2
theorem rises_drop (O : Orders lt) (hr : Rises lt ps) : Rises lt (dropP lt ps k) := by
  unfold Rises dropP
  exact List.pairwise_append.2 ⟨List.Pairwise.filter _ hr, List.Pairwise.filter _ hr, fun a ha b hb => O.tr _ _ _ (List.mem_filter.1 ha).2 (List.mem_filter.1 hb).2⟩
theorem look_some (O : Orders lt) (hr : Rises lt ps) {v : Value} : lookP lt ps k = some v ↔ (k, v) ∈ ps := by
  unfold lookP
  constructor
  · intro h
    rw [Option.map_eq_some_iff] at h
    obtain ⟨p, h1, rfl⟩ := h
    have h2 := List.find?_some h1
    simp only [Bool.and_eq_true, Bool.not_eq_true'] at h2
    have e := O.tot _ _ h2.1 h2.2
    have h3 := List.mem_of_find?_eq_some h1
    rw [← e]
    exact h3
  · intro h
    cases hf : ps.find? (fun p => !lt p.1 k && !lt k p.1) with
    | none =>
      have := List.find?_eq_none.1 hf _ h
      simp [O.irr] at this
    | some p =>
      have h2 := List.find?_some hf
      simp only [Bool.and_eq_true, Bool.not_eq_true'] at h2
      have e := O.tot _ _ h2.1 h2.2
      have h3 := List.mem_of_find?_eq_some hf
      obtain ⟨a, ha, ea⟩ := List.getElem_of_mem h
      obtain ⟨b, hb, eb⟩ := List.getElem_of_mem h3
      rcases Nat.lt_trichotomy a b with hab | hab | hab
      · have := (List.pairwise_iff_getElem.1 hr) a b ha hb hab
        rw [ea, eb, e, O.irr] at this; cases this
      · subst hab
        rw [ea] at eb
        rw [← eb]; rfl
      · have := (List.pairwise_iff_getElem.1 hr) b a hb ha hab
        rw [ea, eb, e, O.irr] at this; cases this
theorem look_none (O : Orders lt) (hr : Rises lt ps) : lookP lt ps k = none ↔ ∀ v, (k, v) ∉ ps := by
  constructor
  · intro h v hv
    rw [(look_some O hr).2 hv] at h
    cases h
  · intro h
    cases e : lookP lt ps k with
    | none => rfl
    | some v => exact absurd ((look_some O hr).1 e) (h v)
theorem look_put (O : Orders lt) (hr : Rises lt ps) (v : Value) (x : α) [Decidable (x = k)] : lookP lt (putP lt ps k v) x = if x = k then some v else lookP lt ps x := by
  split
  · next e =>
    subst e
    exact (look_some O (rises_put O hr v)).2 ((mem_putP O).2 (.inl rfl))
  · next e =>
    cases h : lookP lt ps x with
    | none =>
      rw [look_none O (rises_put O hr v)]
      intro u hu
      rcases (mem_putP O).1 hu with h1 | ⟨h1, _⟩
      · cases h1; exact e rfl
      · exact (look_none O hr).1 h u h1
    | some u => exact (look_some O (rises_put O hr v)).2 ((mem_putP O).2 (.inr ⟨(look_some O hr).1 h, e⟩))
theorem look_drop (O : Orders lt) (hr : Rises lt ps) (x : α) [Decidable (x = k)] : lookP lt (dropP lt ps k) x = if x = k then none else lookP lt ps x := by
  split
  · next e =>
    subst e
    rw [look_none O (rises_drop O hr)]
    intro u hu
    exact ((mem_dropP O).1 hu).2 rfl
  · next e =>
    cases h : lookP lt ps x with
    | none =>
      rw [look_none O (rises_drop O hr)]
      intro u hu
      exact (look_none O hr).1 h u ((mem_dropP O).1 hu).1
    | some u => exact (look_some O (rises_drop O hr)).2 ((mem_dropP O).2 ⟨(look_some O hr).1 h, e⟩)
/-- Two cells a pair. -/
def cellsP (enc : α → Value) (ps : List (α × Value)) : List Value := ps.flatMap fun p => [enc p.1, p.2]
theorem cellsP_length (enc : α → Value) : ∀ ps : List (α × Value), (cellsP enc ps).length = ps.length * 2
  | [] => rfl
  | p :: r => by
    have := cellsP_length enc r
    unfold cellsP at this ⊢
    rw [List.flatMap_cons, List.length_append, this]
    simp
    omega
theorem cellsP_at (enc : α → Value) : ∀ (ps : List (α × Value)) (j : Nat) (p : α × Value), ps[j]? = some p → (cellsP enc ps)[j * 2]? = some (enc p.1) ∧ (cellsP enc ps)[j * 2 + 1]? = some p.2
  | q :: r, 0, p, h => by
    simp at h
    subst h
    exact ⟨rfl, rfl⟩
  | q :: r, j + 1, p, h => by
    have := cellsP_at enc r j p (by simpa using h)
    unfold cellsP at this ⊢
    rw [List.flatMap_cons, show (j + 1) * 2 = j * 2 + 2 from by omega, show j * 2 + 2 + 1 = (j * 2 + 1) + 2 from by omega]
    exact this
theorem cellsP_append (enc : α → Value) (a b : List (α × Value)) : cellsP enc (a ++ b) = cellsP enc a ++ cellsP enc b := List.flatMap_append
theorem cellsP_split (enc : α → Value) (ps : List (α × Value)) (i : Nat) (hi : i ≤ ps.length) : cellsP enc (ps.take i) = (cellsP enc ps).take (i * 2) ∧ cellsP enc (ps.drop i) = (cellsP enc ps).drop (i * 2) := by
  have h : cellsP enc ps = cellsP enc (ps.take i) ++ cellsP enc (ps.drop i) := by rw [← cellsP_append, List.take_append_drop]
  have hl : (cellsP enc (ps.take i)).length = i * 2 := by rw [cellsP_length, List.length_take, Nat.min_eq_left hi]
  have := take_drop_flat (cellsP enc (ps.take i)) (cellsP enc (ps.drop i)) [] (i * 2) hl
  rw [← h] at this
  exact ⟨this.1.symm, this.2.symm⟩
theorem cellsP_one (enc : α → Value) (he : ∀ a, (enc a).oneCell' = true) (ps : List (α × Value)) (h : ∀ p ∈ ps, p.2.oneCell' = true) : ∀ u ∈ cellsP enc ps, u.oneCell' = true := by
  intro u hu
  obtain ⟨p, hp, hu⟩ := List.mem_flatMap.1 hu
  simp only [List.mem_cons, List.not_mem_nil, or_false] at hu
  rcases hu with rfl | rfl
  · exact he _
  · exact h p hp
/-- The slice A of n pairs, of c at most, holds ps by rising keys. -/
structure RowG (enc : α → Value) (lt : α → α → Bool) (w : World) (A : Option Addr) (n c : Nat) (ps : List (α × Value)) : Prop where
  line : SLine 2 w A n c (cellsP enc ps)
  rises : Rises lt ps
  one : ∀ p ∈ ps, p.2.oneCell' = true
end
section
variable {α : Type} {enc : α → Value} {lt : α → α → Bool} {w w' : World} {A : Option Addr} {n c : Nat} {ps : List (α × Value)}
theorem RowG.len (h : RowG enc lt w A n c ps) : ps.length = n := by
  have := h.line.1
  rw [cellsP_length] at this
  omega
theorem RowG.nil (w : World) : RowG enc lt w none 0 0 [] := ⟨SLine.nil 2 w, List.Pairwise.nil, fun p hp => by cases hp⟩
theorem RowG.lt' (h : RowG enc lt w A n c ps) : ∀ k ∈ blk A, k < w.heap.size := h.line.lt
theorem RowG.same (h : RowG enc lt w A n c ps) (hz : w.heap.size ≤ w'.heap.size) (hs : ∀ k ∈ blk A, w'.heap[k]? = w.heap[k]?) : RowG enc lt w' A n c ps := ⟨h.line.same hz hs, h.rises, h.one⟩
theorem RowG.chg {l : List Nat} (h : RowG enc lt w A n c ps) (hc : Chg l w w') (hl : ∀ k ∈ blk A, k ∉ l) : RowG enc lt w' A n c ps := ⟨h.line.chg hc hl, h.rises, h.one⟩
theorem RowG.below (h : RowG enc lt w A n c ps) (hb : Below w.heap.size w w') : RowG enc lt w' A n c ps := ⟨h.line.below hb, h.rises, h.one⟩
/-- The two cells of a pair. -/
theorem RowG.at (h : RowG enc lt w A n c ps) (hn : 0 < n) : ∃ g off, A = some ⟨g, off, none⟩ ∧ g < w.heap.size ∧ (∀ j p, ps[j]? = some p → w.cell? ⟨g, off + j * 2, none⟩ = some (enc p.1) ∧ w.cell? ⟨g, off + j * 2 + 1, none⟩ = some p.2) ∧ ∀ i, i < c * 2 → (w.cell? ⟨g, off + i, none⟩).isSome = true ∧ w.frozen? ⟨g, off + i, none⟩ = false := by
  obtain ⟨g, off, rfl, hg, hc, hf⟩ := h.line.at hn
  refine ⟨g, off, rfl, hg, fun j p hj => ?_, hf⟩
  have hjl := (List.getElem?_eq_some_iff.1 hj).1
  have hl := h.len
  obtain ⟨h1, h2⟩ := cellsP_at enc ps j p hj
  refine ⟨(hc (j * 2) (by omega)).trans h1, ?_⟩
  rw [Nat.add_assoc]
  exact (hc (j * 2 + 1) (by omega)).trans h2
end
theorem set_same {cs : Array Value} {o : Nat} {v : Value} (h : cs[o]? = some v) : cs.setIfInBounds o v = cs := by
  apply Array.ext_getElem?
  intro j
  rw [Array.getElem?_setIfInBounds]
  split
  · next e =>
    subst e
    rw [h]
    split
    · rfl
    · next h2 => rw [Array.getElem?_eq_none (by omega)] at h; cases h
  · rfl
theorem cells_one {v : Value} (h : v.oneCell' = true) : v.cells = #[v] := by
  cases v <;> first | rfl | cases h
/-- A row's cells behind one value was put for another. -/
theorem cellsP_set {α : Type} (enc : α → Value) (ps : List (α × Value)) (i : Nat) (k : α) (u v : Value) (h : ps[i]? = some (k, u)) : cellsP enc (ps.set i (k, v)) = (cellsP enc ps).take (i * 2 + 1) ++ [v] ++ (cellsP enc ps).drop (i * 2 + 1 + [v].length) := by
  obtain ⟨hl, he⟩ := List.getElem?_eq_some_iff.1 h
  have hc := (cellsP_at enc ps i _ h).1
  have hcl := cellsP_length enc ps
  rw [List.set_eq_take_append_cons_drop, if_pos hl, cellsP_append, (cellsP_split enc ps i (by omega)).1]
  have e1 : cellsP enc ((k, v) :: ps.drop (i + 1)) = [enc k, v] ++ (cellsP enc ps).drop (i * 2 + 2) := by
    rw [show i * 2 + 2 = (i + 1) * 2 from by omega, ← (cellsP_split enc ps (i + 1) (by omega)).2]
    rfl
  have e2 : (cellsP enc ps).take (i * 2 + 1) = (cellsP enc ps).take (i * 2) ++ [enc k] := by
    rw [List.take_add_one, hc]
    rfl
  rw [e1, e2]
  simp
/-- The row in the cell o of block q holds ps from now on; nothing else was written but its own line. -/
def RowTo {α : Type} (enc : α → Value) (lt : α → α → Bool) (w : World) (q o : Nat) (cs : Array Value) (T : TypeId) (A : Option Addr) (ps : List (α × Value)) (w' : World) : Prop :=
  ∃ A' n' c', w'.heap[q]? = some (.cells (cs.setIfInBounds o (.slice A' n' c')) T (0, 0)) ∧ RowG enc lt w' A' n' c' ps ∧ Chg (q :: blk A) w w' ∧ ∀ k ∈ blk A', k ∈ blk A ∨ w.heap.size ≤ k
end Go.Proofs.Ytmedhibjkbahpaa
