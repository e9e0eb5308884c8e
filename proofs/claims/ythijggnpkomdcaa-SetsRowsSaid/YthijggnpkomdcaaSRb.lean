/-
  What the walk of SetsRows keeps: a row, a map beside it, a line of its keys.
-/
import Derived.Test.YthijggnpkomdcaaSRa
namespace Go.Proofs.Ythijggnpkomdcaa
open Go.RowKit Go.Shelf
set_option linter.unusedVariables false

theorem equalIn_func_nil2 (w : World) (d : Nat) (fn : Fn) (first cap : Array Value) : (Op.equalIn (d + 1) 38 (.func fn first cap) .nilFunc).run Try.prog w = .ok false w := by
  simp [Op.equalIn, run_underlying Try.underlying38]
theorem eql_func_nil2 (w : World) (fn : Fn) (first cap : Array Value) : (binOp .eql 38 (.func fn first cap) .nilFunc).run Try.prog w = .ok (.bool false) w := by
  simp only [binOp]
  simp [Op.equal, Op.maxDepth, equalIn_func_nil2 w 9999]
/-- The blocks of the law lie from h on: from, the result, the row, the map, the map's cell. ps: what the row holds; pm: what the map says; ks: the line's keys; the block va holds ob. -/
structure SRow (W w : World) (h : Nat) (fr : Int) (KA : Option Addr) (kn kc : Nat) (ks : List Int) (ps pm : List (Int × Value)) (k va : Nat) (ob : Obj) : Prop where
  b0 : w.heap[h]? = some (.cells #[.int .i64 fr] 3 (0, 0))
  b1 : w.heap[h + 1]? = some (.cells #[.bool false] 4 (0, 0))
  b4 : w.heap[h + 4]? = some (.cells #[.map (some (h + 3))] 27 (0, 0))
  row : ∃ A n c, w.heap[h + 2]? = some (.cells #[.slice A n c] 25 (0, 0)) ∧ RowG encI ltI w A n c ps ∧ ∀ j ∈ blk A, h + 5 ≤ j ∧ j ∉ blk KA ∧ j ≠ va
  map : MapS w (h + 3) k pm
  keys : LineAt w KA kn kc (cellsI ks)
  kfar : ∀ j ∈ blk KA, h + 5 ≤ j ∧ j ≠ va
  vb : w.heap[va]? = some ob
  vne : va ≠ h + 2 ∧ va ≠ h + 3
  below : Below h W w
  base : W.heap.size = h
section
variable {W w w' : World} {h : Nat} {fr : Int} {KA : Option Addr} {kn kc : Nat} {ks : List Int} {ps pm : List (Int × Value)} {k va : Nat} {ob : Obj}
theorem SRow.lt4 (H : SRow W w h fr KA kn kc ks ps pm k va ob) : h + 4 < w.heap.size := lt_of_block H.b4
theorem SRow.later (H : SRow W w h fr KA kn kc ks ps pm k va ob) (hb : Below w.heap.size w w') : SRow W w' h fr KA kn kc ks ps pm k va ob := by
  have h4 := H.lt4
  obtain ⟨A, n, c, h1, h2, h3⟩ := H.row
  exact ⟨(hb.block _ (by omega)).trans H.b0, (hb.block _ (by omega)).trans H.b1, (hb.block _ (by omega)).trans H.b4, ⟨A, n, c, (hb.block _ (by omega)).trans h1, h2.below hb, h3⟩, H.map.same (hb.block _ (by omega)), H.keys.below hb, H.kfar, (hb.block _ (lt_of_block H.vb)).trans H.vb, H.vne, H.below.trans (hb.mono (by omega)), H.base⟩
/-- Another block is looked at. -/
theorem SRow.look (H : SRow W w h fr KA kn kc ks ps pm k va ob) (va' : Nat) (ob' : Obj) (hv : w.heap[va']? = some ob') (h1 : va' ≠ h + 2 ∧ va' ≠ h + 3) (h2 : va' ∉ blk KA) (h3 : ∀ A n c, w.heap[h + 2]? = some (.cells #[.slice A n c] 25 (0, 0)) → va' ∉ blk A) : SRow W w h fr KA kn kc ks ps pm k va' ob' := by
  obtain ⟨A, n, c, r1, r2, r3⟩ := H.row
  exact ⟨H.b0, H.b1, H.b4, ⟨A, n, c, r1, r2, fun j hj => ⟨(r3 j hj).1, (r3 j hj).2.1, fun e => h3 A n c r1 (by rw [← e]; exact hj)⟩⟩, H.map, H.keys, fun j hj => ⟨(H.kfar j hj).1, fun e => h2 (by rw [← e]; exact hj)⟩, hv, h1, H.below, H.base⟩
/-- A new block, that is looked at from now on. -/
theorem SRow.fresh (H : SRow W w h fr KA kn kc ks ps pm k va ob) (ob' : Obj) : SRow W (w.alloc ob') h fr KA kn kc ks ps pm k w.heap.size ob' := by
  have h4 := H.lt4
  have hb : Below w.heap.size w (w.alloc ob') := (Below.refl _ w).alloc (Nat.le_refl _) _
  refine (H.later hb).look w.heap.size ob' (heap_alloc_new w ob') ⟨by omega, by omega⟩ (fun hm => Nat.lt_irrefl _ (H.keys.lt _ hm)) (fun A n c hA hm => ?_)
  obtain ⟨A', n', c', r1, r2, r3⟩ := H.row
  have := (hb.block (h + 2) (by omega)).trans r1
  rw [hA] at this
  cases this
  exact Nat.lt_irrefl _ (r2.lt' _ hm)
/-- The row was turned. -/
theorem SRow.rowed (H : SRow W w h fr KA kn kc ks ps pm k va ob) {A : Option Addr} {n c : Nat} (hA : w.heap[h + 2]? = some (.cells #[.slice A n c] 25 (0, 0))) {ps' : List (Int × Value)} (hT : RowTo encI ltI w (h + 2) 0 #[.slice A n c] 25 A ps' w') : SRow W w' h fr KA kn kc ks ps' pm k va ob := by
  have h4 := H.lt4
  obtain ⟨A0, n0, c0, r1, r2, r3⟩ := H.row
  rw [hA] at r1
  cases r1
  obtain ⟨A', n', c', hb, hR, hC, hF⟩ := hT
  have hne : ∀ j, j < w.heap.size → j ≠ h + 2 → j ∉ blk A → w'.heap[j]? = w.heap[j]? := fun j h1 h2 h3 => hC.same j h1 (by rw [List.mem_cons, not_or]; exact ⟨h2, h3⟩)
  have hlow : ∀ j, j < h + 5 → j ∉ blk A := fun j hj hm => by have := (r3 j hm).1; omega
  refine ⟨(hne _ (by omega) (by omega) (hlow _ (by omega))).trans H.b0, (hne _ (by omega) (by omega) (hlow _ (by omega))).trans H.b1, (hne _ (by omega) (by omega) (hlow _ (by omega))).trans H.b4, ⟨A', n', c', hb, hR, fun j hj => ?_⟩, H.map.same (hne _ (by omega) (by omega) (hlow _ (by omega))), H.keys.chg hC (fun j hj hm => ?_), H.kfar, (hne va (lt_of_block H.vb) H.vne.1 (fun hm => (r3 va hm).2.2 rfl)).trans H.vb, H.vne, H.below.trans (hC.toBelow (fun j hj => ?_) (by omega)), H.base⟩
  · rcases hF j hj with h1 | h1
    · exact r3 j h1
    · exact ⟨by omega, fun hm => by have := H.keys.lt j hm; omega, fun e => by have := lt_of_block H.vb; omega⟩
  · rcases List.mem_cons.1 hm with rfl | hm
    · have := (H.kfar _ hj).1; omega
    · exact (r3 j hm).2.1 hj
  · rcases List.mem_cons.1 hj with rfl | hj
    · omega
    · have := (r3 j hj).1; omega
/-- The map was turned. -/
theorem SRow.mapped (H : SRow W w h fr KA kn kc ks ps pm k va ob) {pm' : List (Int × Value)} {k' : Nat} (hM : MapS w' (h + 3) k' pm') (hg : w.grownBy w' (some (h + 3))) : SRow W w' h fr KA kn kc ks ps pm' k' va ob := by
  have h4 := H.lt4
  obtain ⟨A, n, c, r1, r2, r3⟩ := H.row
  have hne : ∀ j, j < w.heap.size → j ≠ h + 3 → w'.heap[j]? = w.heap[j]? := fun j h1 h2 => hg.block j h1 (fun e => h2 (by cases e; rfl))
  exact ⟨(hne _ (by omega) (by omega)).trans H.b0, (hne _ (by omega) (by omega)).trans H.b1, (hne _ (by omega) (by omega)).trans H.b4, ⟨A, n, c, (hne _ (by omega) (by omega)).trans r1, r2.same hg.size (fun j hj => hne j (r2.lt' j hj) (by have := (r3 j hj).1; omega)), r3⟩, hM,
    H.keys.same hg.size (fun j hj => hne j (H.keys.lt j hj) (by have := (H.kfar j hj).1; omega)), H.kfar, (hne va (lt_of_block H.vb) H.vne.2).trans H.vb, H.vne, H.below.trans ⟨hg.os, hg.tape, hg.output, hg.size, fun j hj => hne j (by omega) (by omega)⟩, H.base⟩
/-- The keys' line was turned. -/
theorem SRow.keyed (H : SRow W w h fr KA kn kc ks ps pm k va ob) {KA' : Option Addr} {kn' kc' : Nat} {ks' : List Int} (hL : LineAt w' KA' kn' kc' (cellsI ks')) (hC : Chg (blk KA) w w') (hF : ∀ j ∈ blk KA', j ∈ blk KA ∨ w.heap.size ≤ j) : SRow W w' h fr KA' kn' kc' ks' ps pm k va ob := by
  have h4 := H.lt4
  obtain ⟨A, n, c, r1, r2, r3⟩ := H.row
  have hlow : ∀ j, j < h + 5 → j ∉ blk KA := fun j hj hm => by have := (H.kfar j hm).1; omega
  refine ⟨(hC.same _ (by omega) (hlow _ (by omega))).trans H.b0, (hC.same _ (by omega) (hlow _ (by omega))).trans H.b1, (hC.same _ (by omega) (hlow _ (by omega))).trans H.b4, ⟨A, n, c, (hC.same _ (by omega) (hlow _ (by omega))).trans r1, r2.chg hC (fun j hj => (r3 j hj).2.1), fun j hj => ⟨(r3 j hj).1, fun hm => ?_, (r3 j hj).2.2⟩⟩,
    H.map.same (hC.same _ (by omega) (hlow _ (by omega))), hL, fun j hj => ?_, (hC.same va (lt_of_block H.vb) (fun hm => (H.kfar va hm).2 rfl)).trans H.vb, H.vne, H.below.trans (hC.toBelow (fun j hj => by have := (H.kfar j hj).1; omega) (by omega)), H.base⟩
  · rcases hF j hm with h1 | h1
    · exact (r3 j hj).2.1 h1
    · have := r2.lt' j hj; omega
  · rcases hF j hj with h1 | h1
    · exact H.kfar j h1
    · exact ⟨by omega, fun e => by have := lt_of_block H.vb; omega⟩
end
theorem MapS.more {w : World} {m k : Nat} {ps : List (Int × Value)} (h : MapS w m k ps) : MapS w m (k + 1) ps := by
  obtain ⟨D, ho, hh⟩ := h
  exact ⟨D, ho.mono (Nat.le_succ k), hh⟩
theorem SRow.more {W w : World} {h : Nat} {fr : Int} {KA : Option Addr} {kn kc : Nat} {ks : List Int} {ps pm : List (Int × Value)} {k va : Nat} {ob : Obj} (H : SRow W w h fr KA kn kc ks ps pm k va ob) : SRow W w h fr KA kn kc ks ps pm (k + 1) va ob :=
  ⟨H.b0, H.b1, H.b4, H.row, H.map.more, H.keys, H.kfar, H.vb, H.vne, H.below, H.base⟩
/-- What is known of the keys and the texts. -/
structure SKnown (ks : List Int) (ps : List (Int × Value)) (b : Nat) : Prop where
  rises : Rises ltI ps
  strs : ∀ p ∈ ps, ∃ s : ByteArray, p.2 = .string s
  fits : ∀ p ∈ ps, FitsI p.1
  nodup : ks.Nodup
  same : ∀ x, x ∈ ks ↔ hasP ltI ps x = true
  len : ks.length ≤ b
theorem SKnown.nil : SKnown [] [] 0 := ⟨List.Pairwise.nil, (fun p hp => by cases hp), (fun p hp => by cases hp), List.Pairwise.nil, (fun x => by simp [hasP, lookP]), Nat.le_refl _⟩
theorem hasP_iff {ps : List (Int × Value)} (hr : Rises ltI ps) {x : Int} : hasP ltI ps x = true ↔ x ∈ ps.map (·.1) := by
  unfold hasP
  rw [Option.isSome_iff_exists, List.mem_map]
  constructor
  · rintro ⟨v, hv⟩
    exact ⟨(x, v), (look_some orders_I hr).1 hv, rfl⟩
  · rintro ⟨p, hp, rfl⟩
    exact ⟨p.2, (look_some orders_I hr).2 hp⟩
theorem rises_keys {ps : List (Int × Value)} (hr : Rises ltI ps) : (ps.map (·.1)).Nodup := by
  unfold List.Nodup
  rw [List.pairwise_map]
  refine hr.imp ?_
  intro a b hab e
  rw [e, orders_I.irr] at hab
  cases hab
theorem SKnown.count {ks : List Int} {ps : List (Int × Value)} {b : Nat} (h : SKnown ks ps b) : ks.length = ps.length := by
  have hp : List.Perm ks (ps.map (·.1)) := (List.perm_ext_iff_of_nodup h.nodup (rises_keys h.rises)).2 (fun x => (h.same x).trans (hasP_iff h.rises))
  have := hp.length_eq
  rwa [List.length_map] at this
theorem SKnown.put_new {ks : List Int} {ps : List (Int × Value)} {b : Nat} (h : SKnown ks ps b) {x : Int} (hfx : FitsI x) (hx : hasP ltI ps x = false) (s : ByteArray) : SKnown (ks ++ [x]) (putP ltI ps x (.string s)) (b + 1) := by
  have hno : x ∉ ks := fun hm => by rw [(h.same x).1 hm] at hx; cases hx
  have hr := rises_put orders_I h.rises (k := x) (.string s)
  refine ⟨hr, fun p hp => ?_, (fun p hp => by rcases (mem_putP orders_I).1 hp with rfl | ⟨h1, _⟩; exact hfx; exact h.fits p h1), List.nodup_append.2 ⟨h.nodup, by simp, fun a ha c hc => by simp only [List.mem_singleton] at hc; rw [hc]; exact fun e => hno (by rw [← e]; exact ha)⟩, fun y => ?_, by have := h.len; simp; omega⟩
  · rcases (mem_putP orders_I).1 hp with rfl | ⟨h1, _⟩
    · exact ⟨s, rfl⟩
    · exact h.strs p h1
  · unfold hasP
    rw [look_put orders_I h.rises]
    by_cases e : y = x
    · subst e; simp
    · rw [if_neg e]
      have := h.same y
      unfold hasP at this
      simp [e, this]
theorem SKnown.put_old {ks : List Int} {ps : List (Int × Value)} {b : Nat} (h : SKnown ks ps b) {x : Int} (hfx : FitsI x) (hx : hasP ltI ps x = true) (s : ByteArray) : SKnown ks (putP ltI ps x (.string s)) (b + 1) := by
  have hr := rises_put orders_I h.rises (k := x) (.string s)
  refine ⟨hr, fun p hp => ?_, (fun p hp => by rcases (mem_putP orders_I).1 hp with rfl | ⟨h1, _⟩; exact hfx; exact h.fits p h1), h.nodup, fun y => ?_, by have := h.len; omega⟩
  · rcases (mem_putP orders_I).1 hp with rfl | ⟨h1, _⟩
    · exact ⟨s, rfl⟩
    · exact h.strs p h1
  · unfold hasP
    rw [look_put orders_I h.rises]
    by_cases e : y = x
    · subst e; simp [(h.same y).2 hx]
    · rw [if_neg e]
      exact h.same y
theorem SKnown.drop {ks : List Int} {ps : List (Int × Value)} {b : Nat} (h : SKnown ks ps b) (x : Int) : SKnown (dropL ks x) (dropP ltI ps x) (b + 1) := by
  refine ⟨rises_drop orders_I h.rises, fun p hp => h.strs p ((mem_dropP orders_I).1 hp).1, fun p hp => h.fits p ((mem_dropP orders_I).1 hp).1, List.Pairwise.filter _ h.nodup, fun y => ?_, ?_⟩
  · unfold hasP dropL
    rw [look_drop orders_I h.rises, List.mem_filter]
    by_cases e : y = x
    · subst e; simp
    · rw [if_neg e]
      have := h.same y
      unfold hasP at this
      simp [e, this]
  · have h1 := List.length_filter_le (fun z => decide (z ≠ x)) ks
    have := h.len
    unfold dropL
    omega
end Go.Proofs.Ythijggnpkomdcaa
