/-
  Sets joined and taken from one another beside the document's; rows appended whole.
-/
import Derived.Test.YtjkcomoadpileaaDoorTw
import Derived.Deep.Upon
namespace Go.Proofs.YtjkcomoadpileaaDoor
open Go.RowKit
set_option linter.unusedVariables false

theorem Twin.of (l : List Int) : Twin (ofL l) (ofW l) := ⟨rises_ofL l, fun n => by
  rw [mem_ofL, hasZ_ofW]
  constructor
  · rintro ⟨h1, h2, h3⟩; exact ⟨h1, h2, by omega⟩
  · rintro ⟨h1, h2, h3⟩; exact ⟨h1, h2, by omega⟩⟩
theorem Twin.range {zs : List Int} {ws : List Nat} (h : Twin zs ws) (hl : ws.length ≤ 1024) : ∀ n ∈ zs, 0 ≤ n ∧ n ≤ 65535 := by
  intro n hn
  have h1 := (h.2 n).1 hn
  unfold hasZ at h1
  rw [Bool.and_eq_true, decide_eq_true_eq] at h1
  refine ⟨h1.1, ?_⟩
  rcases Nat.lt_or_ge n.toNat (64 * ws.length) with h2 | h2
  · omega
  · rw [mem_ge ws _ h2] at h1; cases h1.2
theorem hasZ_joinW (ws us : List Nat) (n : Int) : hasZ (joinW ws us) n = (hasZ ws n || hasZ us n) := by
  unfold hasZ
  rw [mem_joinW]
  cases decide (0 ≤ n) <;> simp
theorem hasZ_minusW (ws us : List Nat) (hu : Small us) (n : Int) : hasZ (minusW ws us) n = (hasZ ws n && !hasZ us n) := by
  unfold hasZ
  rw [mem_minusW ws us hu]
  cases decide (0 ≤ n) <;> simp
theorem exists_mem (p : Nat → Bool) (q : Int → Bool) (h : ∀ n : Nat, q (n : Int) = p n) (h0 : ∀ n : Int, n < 0 → q n = false) : (∃ n, p n = true) ↔ ∃ n, q n = true := by
  constructor
  · rintro ⟨n, hn⟩
    exact ⟨(n : Int), by rw [h]; exact hn⟩
  · rintro ⟨n, hn⟩
    rcases Int.lt_or_le n 0 with h1 | h1
    · rw [h0 n h1] at hn; cases hn
    · obtain ⟨m, rfl⟩ := Int.eq_ofNat_of_zero_le h1
      exact ⟨m, by rw [← h]; exact hn⟩
theorem joinT_Z (ws us : List Nat) (hw : Small ws) (hu : Small us) : joinT ws us = true ↔ ∃ n, hasZ us n = true ∧ hasZ ws n = false := by
  rw [joinT_iff ws us hw hu]
  have := exists_mem (fun n => mem us n && !mem ws n) (fun n => hasZ us n && !hasZ ws n) (fun n => by rw [hasZ_nat, hasZ_nat]) (fun n hn => by rw [hasZ_neg us n hn]; rfl)
  simpa using this
theorem minusT_Z (ws us : List Nat) (hw : Small ws) : minusT ws us = true ↔ ∃ n, hasZ ws n = true ∧ hasZ us n = true := by
  rw [minusT_iff ws us hw]
  have := exists_mem (fun n => mem ws n && mem us n) (fun n => hasZ ws n && hasZ us n) (fun n => by rw [hasZ_nat, hasZ_nat]) (fun n hn => by rw [hasZ_neg ws n hn]; rfl)
  simpa using this
theorem sameB_Z (ws us : List Nat) (hw : Small ws) (hu : Small us) : sameB ws us = true ↔ ∀ n, hasZ ws n = hasZ us n := by
  rw [sameB_iff ws us hw hu]
  constructor
  · intro h n
    unfold hasZ
    rw [h]
  · intro h n
    have := h (n : Int)
    rwa [hasZ_nat, hasZ_nat] at this
theorem Twin.same {zs ys : List Int} {ws us : List Nat} (h : Twin zs ws) (h2 : Twin ys us) (hw : Small ws) (hu : Small us) : sameB ws us = decide (zs = ys) := by
  rw [Bool.eq_iff_iff, sameB_Z ws us hw hu, decide_eq_true_eq]
  constructor
  · intro h3
    exact rises_ext h.1 h2.1 (fun n => by rw [h.2, h2.2, h3 n])
  · rintro rfl n
    rw [Bool.eq_iff_iff, ← h.2, ← h2.2]
theorem Twin.cong {zs : List Int} {ws us : List Nat} (h : Twin zs ws) (h2 : ∀ n, hasZ us n = hasZ ws n) : Twin zs us := ⟨h.1, fun n => by rw [h2 n]; exact h.2 n⟩
/-- A part of a rising row has fewer numbers just where one lacks. -/
theorem fewer {zs bs : List Int} (hz : Rises zs) (hb : Rises bs) (hs : ∀ n ∈ zs, n ∈ bs) : decide (zs.length < bs.length) = true ↔ ∃ n, n ∈ bs ∧ n ∉ zs := by
  have e : zs = bs.filter fun n => decide (n ∈ zs) := by
    refine rises_ext hz (hb.filter _) (fun n => ?_)
    rw [List.mem_filter, decide_eq_true_eq]
    exact ⟨fun h => ⟨hs n h, h⟩, fun h => h.2⟩
  rw [decide_eq_true_eq]
  have h1 : zs.length < bs.length ↔ (bs.filter fun n => decide (n ∈ zs)).length < bs.length := by rw [← e]
  rw [h1, List.length_filter_lt_length_iff_exists]
  constructor
  · rintro ⟨n, hn, h⟩
    exact ⟨n, hn, by simpa using h⟩
  · rintro ⟨n, hn, h⟩
    exact ⟨n, hn, by simpa using h⟩
def lessL (zs ys : List Int) : List Int := zs.filter fun n => !decide (n ∈ ys)
section
variable {zs ys : List Int} {ws us : List Nat}
theorem Twin.both (h : Twin zs ws) (h2 : Twin ys us) (hl : ws.length ≤ 1024) (hl2 : us.length ≤ 1024) : Twin (ofL (zs ++ ys)) (joinW ws us) := by
  refine ⟨rises_ofL _, fun n => ?_⟩
  rw [mem_ofL, hasZ_joinW, List.mem_append, Bool.or_eq_true, ← h.2, ← h2.2]
  constructor
  · exact fun h3 => h3.1
  · rintro (h3 | h3)
    · exact ⟨.inl h3, h.range hl n h3⟩
    · exact ⟨.inr h3, h2.range hl2 n h3⟩
theorem Twin.less (h : Twin zs ws) (h2 : Twin ys us) (hu : Small us) : Twin (lessL zs ys) (minusW ws us) := by
  refine ⟨h.1.filter _, fun n => ?_⟩
  unfold lessL
  rw [List.mem_filter, hasZ_minusW ws us hu, Bool.and_eq_true, ← h.2]
  have e : decide (n ∈ ys) = hasZ us n := by rw [Bool.eq_iff_iff, decide_eq_true_eq]; exact h2.2 n
  rw [e]
theorem Twin.joinT (h : Twin zs ws) (h2 : Twin ys us) (hw : Small ws) (hu : Small us) (hl : ws.length ≤ 1024) (hl2 : us.length ≤ 1024) : decide (zs.length < (ofL (zs ++ ys)).length) = Proofs.YtjkcomoadpileaaDoor.joinT ws us := by
  have hb := h.both h2 hl hl2
  rw [Bool.eq_iff_iff, fewer h.1 hb.1 (fun n hn => (hb.2 n).2 (by rw [hasZ_joinW, (h.2 n).1 hn]; rfl)), joinT_Z ws us hw hu]
  constructor
  · rintro ⟨n, h3, h4⟩
    have h5 := (hb.2 n).1 h3
    have h6 : hasZ ws n = false := by
      cases h7 : hasZ ws n with
      | false => rfl
      | true => exact absurd ((h.2 n).2 h7) h4
    rw [hasZ_joinW, h6, Bool.false_or] at h5
    exact ⟨n, h5, h6⟩
  · rintro ⟨n, h3, h4⟩
    refine ⟨n, (hb.2 n).2 (by rw [hasZ_joinW, h3, Bool.or_true]), fun h5 => ?_⟩
    rw [(h.2 n).1 h5] at h4
    cases h4
theorem Twin.minusT (h : Twin zs ws) (h2 : Twin ys us) (hw : Small ws) (hu : Small us) : decide ((lessL zs ys).length < zs.length) = Proofs.YtjkcomoadpileaaDoor.minusT ws us := by
  have hb := h.less h2 hu
  rw [Bool.eq_iff_iff, fewer hb.1 h.1 (fun n hn => (List.mem_filter.1 hn).1), minusT_Z ws us hw]
  constructor
  · rintro ⟨n, h3, h4⟩
    have h5 := (h.2 n).1 h3
    refine ⟨n, h5, ?_⟩
    cases h6 : hasZ us n with
    | true => rfl
    | false => exact absurd ((hb.2 n).2 (by rw [hasZ_minusW ws us hu, h5, h6]; rfl)) h4
  · rintro ⟨n, h3, h4⟩
    refine ⟨n, (h.2 n).2 h3, fun h5 => ?_⟩
    have h6 := (hb.2 n).1 h5
    rw [hasZ_minusW ws us hu, h3, h4] at h6
    cases h6
theorem joinT_again (hw : Small ws) (hu : Small us) (hj : Small (joinW ws us)) : Proofs.YtjkcomoadpileaaDoor.joinT (joinW ws us) us = false := by
  cases h : Proofs.YtjkcomoadpileaaDoor.joinT (joinW ws us) us with
  | false => rfl
  | true =>
    obtain ⟨n, h1, h2⟩ := (joinT_Z _ us hj hu).1 h
    rw [hasZ_joinW, h1, Bool.or_true] at h2
    cases h2
theorem minusT_again (hu : Small us) (hj : Small (minusW ws us)) : Proofs.YtjkcomoadpileaaDoor.minusT (minusW ws us) us = false := by
  cases h : Proofs.YtjkcomoadpileaaDoor.minusT (minusW ws us) us with
  | false => rfl
  | true =>
    obtain ⟨n, h1, h2⟩ := (minusT_Z _ us hj).1 h
    rw [hasZ_minusW ws us hu, h2] at h1
    simp at h1
theorem hasZ_join2 (n : Int) : hasZ (joinW (joinW ws us) us) n = hasZ (joinW ws us) n := by
  rw [hasZ_joinW, hasZ_joinW]
  cases hasZ ws n <;> cases hasZ us n <;> rfl
theorem hasZ_minus2 (hu : Small us) (n : Int) : hasZ (minusW (minusW ws us) us) n = hasZ (minusW ws us) n := by
  rw [hasZ_minusW _ us hu, hasZ_minusW ws us hu]
  cases hasZ ws n <;> cases hasZ us n <;> rfl
theorem len_gone (hw : Small ws) : lenW (minusW ws ws) = 0 := by
  rw [← lenW_elems]
  have : elemsZ (minusW ws ws) = [] := List.eq_nil_iff_forall_not_mem.2 (fun n hn => by
    have h1 := (mem_elemsZ _ n).1 hn
    rw [hasZ_minusW ws ws hw] at h1
    simp at h1)
  rw [this]
  rfl
theorem Twin.gone (h : Twin zs ws) (hw : Small ws) (hT : Proofs.YtjkcomoadpileaaDoor.minusT ws ws = true) : 0 < zs.length := by
  obtain ⟨n, h1, _⟩ := (minusT_Z ws ws hw).1 hT
  exact List.length_pos_of_mem ((h.2 n).2 h1)
end
/-- 'append(s, l...)'. -/
theorem OwnS.app {w : World} {base : Nat} {A : Option Addr} {n c : Nat} {zs : List Int} (h : OwnS w base A n c zs) {A2 : Option Addr} {m c2 : Nat} {us : List Int} (hU : Ints w A2 m us) (hn : n ≤ 1000000) (hm : m ≤ 1000000) (hb : base ≤ w.heap.size) (ty : TypeId) :
    ∃ A' c' w', (Builtin.append_ #[22, 22] ty #[.slice A n c, .slice A2 m c2]).run Tryd.prog w = .ok (.slice A' (n + m) c') w' ∧ OwnS w' base A' (n + m) c' (zs ++ us) ∧ w.grownBy w' (Value.slice A n c).ownBlock := by
  obtain ⟨i0, hi, hz0, hz1, hz2⟩ := info_parts info_int
  obtain ⟨rfl, ho, hf⟩ := h
  have hfit : Fit (zs ++ us) := fun z hz => by
    rcases List.mem_append.1 hz with h1 | h1
    · exact hf z h1
    · exact hU.2.1 z h1
  rcases Nat.eq_zero_or_pos m with h0 | h0
  · subst h0
    have e : us = [] := List.eq_nil_of_length_eq_zero hU.1
    subst e
    have hsrc : Src Tryd.prog i0.size 22 (.slice A2 0 c2) 0 [] w := by
      cases A2 with
      | none => exact Src.ofNil w Tryd.underlying22 c2
      | some ad => exact Src.ofSlice w Tryd.underlying22 ad 0 c2 [] (by simp) (fun j u hj => by simp at hj) (fun u hu => by cases hu)
    have hle : zs.length ≤ c := by
      rcases ho.2 with ⟨e, hz⟩ | ⟨g, cap, cur, e, _, _, hnc, _⟩
      · omega
      · injection e with _ _ e3; omega
    refine ⟨A, c, w, run_append_nothing w 22 22 ty 3 i0 Tryd.underlying22 hi A zs.length c hle _ hsrc, ?_, World.grownBy.refl _ _⟩
    rw [List.append_nil]
    exact ⟨rfl, ho, hf⟩
  · obtain ⟨b, off, rfl, hlt, hc⟩ := hU.2.2 h0
    have hnews : ∀ j u, (cellsI us)[j]? = some u → w.cell? ((⟨b, off, none⟩ : Addr).add j) = some u := by
      intro j u hj
      have hjm : j < m := by rw [← hU.1, ← cellsI_length]; exact (List.getElem?_eq_some_iff.1 hj).1
      have hadd : (⟨b, off, none⟩ : Addr).add j = ⟨b, off + j, none⟩ := by unfold Addr.add; split <;> simp_all
      rw [hadd, hc j hjm, ← hj]
      have hj' : j < us.length := by rw [hU.1]; exact hjm
      simp [cellsI, List.getD, hj']
    obtain ⟨v', w', hr, h2, h3, h4⟩ := run_append_own (P := Tryd.prog) w base 22 ty 3 i0 (.int .i64 0) 1 8 Tryd.underlying22 hi hz0 hz1 hz2 rfl (by decide) _ zs.length (cellsI zs) ho ⟨b, off, none⟩ m c2 (cellsI us) (by rw [cellsI_length, hU.1]; omega) hnews (one_I _) (by unfold maxLen; omega) (by omega) hb
    obtain ⟨A', c', rfl⟩ := own_shape h2
    refine ⟨A', c', w', hr, ⟨by rw [List.length_append, hU.1], ?_, hfit⟩, h3⟩
    rw [List.length_append, hU.1, cellsI_append]
    exact h2
theorem OwnS.ints {w : World} {base : Nat} {A : Option Addr} {n c : Nat} {zs : List Int} (h : OwnS w base A n c zs) : Ints w A n zs := by
  obtain ⟨rfl, h⟩ := h
  obtain ⟨A', c', e, hi⟩ := h.ints
  cases e
  exact hi
theorem OwnS.blk {w : World} {base : Nat} {A : Option Addr} {n c : Nat} {zs : List Int} (h : OwnS w base A n c zs) : ∀ j ∈ Proofs.YtjkcomoadpileaaDoor.blk A, base ≤ j ∧ j < w.heap.size := by
  intro j hj
  obtain ⟨ad, rfl, rfl⟩ := mem_blk.1 hj
  exact h.2.1.lt _ rfl
theorem OwnS.fresh (w : World) : OwnS (w.alloc (.cells #[] 3)) w.heap.size (some ⟨w.heap.size, 0, none⟩) 0 0 [] :=
  ⟨rfl, World.ownsRow_made w #[] 0 (Nat.le_refl _) (by unfold maxLen; omega) rfl, fun z hz => by cases hz⟩
end Go.Proofs.YtjkcomoadpileaaDoor
