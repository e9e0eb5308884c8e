/- More on lines of elements of several cells: room made by append of a make, what an insertion and a removal leave. No function of the program in sight. -/
import Derived.Test.YtdjnebgjdekmaaaGreatDoorZaf
import Derived.Shelf.Spec.SlicesInsert
import Derived.Lib.SliceRun
import Derived.Deep.RegionWith
set_option linter.unusedVariables false
set_option maxRecDepth 100000
namespace Go.Proofs.YtdjnebgjdekmaaaGreatDoor
open Go.RowKit
section
variable {P : Program}
theorem sline_zeros (s : Nat) (hs0 : 0 < s) (w : World) (t tn ty e : TypeId) (z : Value) (bytes : Nat) (ht : P.underlying t = some (.slice e)) (htn : P.underlying tn = some (.int .i64)) (hinfo : (P.info? e).map (fun i => (i.zero, i.size, i.bytes)) = some (some z, s, bytes)) (hz1 : z.cells.size = s) (hby : bytes ≤ 256)
 (A : Option Addr) (n c : Nat) (xs : List Value) (h : SLine s w A n c xs) (i : Nat) (hi : i ≤ n) (k : Nat) (hk : 0 < k) (hn : i + k ≤ 1000000) (hroom : c < i + k) :
 ∃ c' W1 ys, (Builtin.append_ #[t, tn] ty #[.slice A i c, .int .i64 (k : Int)]).run P w = .ok (.slice (some ⟨w.heap.size, 0, none⟩) (i + k) c') W1 ∧ ys.length = k * s ∧ SLine s W1 (some ⟨w.heap.size, 0, none⟩) (i + k) c' (xs.take (i * s) ++ ys) ∧ Below w.heap.size w W1 ∧ i + k ≤ c' ∧ c' ≤ maxLen := by
 obtain ⟨i0, hi0, hz0, hs1, hs2⟩ := info_parts hinfo
 have hl := h.shrink i hi
 have hlen := hl.1
 have hold : (Builtin.firstCells i0.size i (.slice A i c)).run P w.drew = .ok (xs.take (i * s)).toArray w.drew := by
  rw [hs1]
  cases A with
  | none =>
   have h2 := h.2.2.2.1 rfl
   have h3 := hl.2.1
   obtain rfl : i = 0 := by omega
   rw [Nat.zero_mul, List.take_zero]
   exact run_firstCells_none w.drew s 0 0 c
  | some ad =>
   obtain ⟨g, off, rfl, hg, hc, hf⟩ := hl.2.2.2.2 ad rfl
   refine run_firstCells_some w.drew s i ⟨g, off, none⟩ i c _ hlen (fun j v hj => ?_)
   have hjn : j < i * s := by rw [← hlen]; exact (List.getElem?_eq_some_iff.1 hj).1
   have hadd : (⟨g, off, none⟩ : Addr).add j = ⟨g, off + j, none⟩ := by unfold Addr.add; split <;> simp_all
   rw [hadd]
   exact (hc j hjn).trans hj
 have hmul : k * i0.bytes ≤ 1000000 * 256 := Nat.mul_le_mul (by omega) (by rw [hs2]; exact hby)
 have hfit : Builtin.nextslicecap (i + k) c * i0.bytes ≤ 281474976710656 := growslice_fits (by omega) (by
  have h5 : (i + k) * i0.bytes ≤ 1000000 * 256 := Nat.mul_le_mul (by omega) (by rw [hs2]; exact hby)
  omega)
 have hr := Lib.run_append_grow_zeros w t tn ty e i0 z .i64 .i64 ht htn hi0 hz0 A i c _ hold k hk (by omega) (by omega) (by omega) (by omega) hfit
 have hge := grownCap_ge w (i + k) c e
 have hmx := grownCap_le_maxLen w (i + k) c e (by unfold maxLen; omega)
 generalize grownCap w (i + k) c e = C at *
 have hzl : (Builtin.zeroCells z.cells k).size = k * s := by rw [size_zeroCells, hz1]
 obtain ⟨ys, hys⟩ : ∃ ys, (Builtin.zeroCells z.cells k).toList = ys := ⟨_, rfl⟩
 have hyl : ys.length = k * s := by rw [← hys, Array.length_toList, hzl]
 have hik : (i + k) * s = i * s + k * s := Nat.add_mul ..
 have hll : (xs.take (i * s) ++ ys).length = (i + k) * s := by rw [List.length_append, hlen, hyl, hik]
 generalize hcur : (xs.take (i * s)).toArray ++ Builtin.zeroCells z.cells k ++ Builtin.zeroCells z.cells (C - (i + k)) = cur at *
 have hcur' : cur = (xs.take (i * s) ++ ys).toArray ++ Builtin.zeroCells z.cells (C - (i + k)) := by
  rw [← hcur, ← hys]
  apply Array.ext'
  simp
 have hcs : cur.size = C * s := by
  rw [hcur', Array.size_append, List.size_toArray, hll, size_zeroCells, hz1, Nat.sub_mul]
  have : (i + k) * s ≤ C * s := Nat.mul_le_mul_right s hge
  omega
 have hblock : (w.drew.alloc (.cells cur e)).heap[w.heap.size]? = some (.cells cur e (0, 0)) := heap_alloc_new w.drew _
 refine ⟨_, _, ys, hr, hyl, ⟨hll, hge, hmx, (fun e => by cases e), fun ad ea => ?_⟩, ((Below.refl _ w).drew).alloc (Nat.le_refl _) _, hge, hmx⟩
 cases ea
 refine ⟨w.heap.size, 0, rfl, lt_of_block hblock, fun j hj => ?_, fun j hj => ?_⟩
 · rw [Nat.zero_add, cell_of_row _ w.heap.size j cur e (0, 0) hblock, hcur', Array.getElem?_append_left (by rw [List.size_toArray, hll]; exact hj)]
   simp
 · rw [Nat.zero_add]
   refine ⟨?_, frozen_of_row _ w.heap.size j cur e hblock⟩
   rw [cell_of_row _ w.heap.size j cur e (0, 0) hblock, Array.getElem?_eq_getElem (by rw [hcs]; exact hj)]
   rfl
theorem run_clear_sz (m : Nat) (hm : 0 < m) (w : World) (t e ty : TypeId) (z : Value) (zs : List Value) (ht : P.underlying t = some (.slice e)) (hv : ∀ w, (zeroValue e).run P w = .ok z w) (hz : (Builtin.zeroCells z.cells m).toList = zs) (h1 : ∀ u ∈ zs, u.oneCell' = true) (b o c : Nat)
 (hc : ∀ j, j < zs.length → (w.cell? ⟨b, o + j, none⟩).isSome = true) (hf : ∀ j, j < zs.length → w.frozen? ⟨b, o + j, none⟩ = false) :
 (Builtin.clear_ #[t] ty #[.slice (some ⟨b, o, none⟩) m c]).run P w = .ok (.tuple #[]) (w.setCells b o zs) := by
 obtain ⟨m', rfl⟩ : ∃ m', m = m' + 1 := ⟨m - 1, by omega⟩
 have hst := run_storeCells_cells (P := P) b o zs 0 w (by simpa using hc) (by simpa using hf) h1
 simp only [Nat.add_zero] at hst
 simp [Builtin.clear_, run_underlying ht, hv, hz, hst]
end
theorem shift_list (xs ys vs : List Value) (a s : Nat) (ha : a ≤ xs.length) (hy : ys.length = s) (hv : vs.length = s) (X1 : List Value) (h1 : X1 = (xs ++ ys).take (a + s) ++ xs.drop a ++ (xs ++ ys).drop (a + s + (xs.drop a).length)) :
 X1.take a ++ vs ++ X1.drop (a + vs.length) = xs.take a ++ vs ++ xs.drop a := by
 have e0 : ((xs ++ ys).take (a + s)).length = a + s := by simp; omega
 have e1 : X1.take a = xs.take a := by
  rw [h1, List.append_assoc, List.take_append_of_le_length (by omega), List.take_take, Nat.min_eq_left (by omega), List.take_append_of_le_length ha]
 have e2 : X1.drop (a + s) = xs.drop a := by
  rw [h1, List.append_assoc, (take_drop_flat _ _ [] _ e0).2, show (xs ++ ys).drop (a + s + (xs.drop a).length) = [] from List.drop_eq_nil_of_le (by simp; omega), List.append_nil]
 rw [e1, hv, e2]
theorem drop_list (xs zs : List Value) (a s n : Nat) (hl : xs.length = n * s) (ha : a + s ≤ n * s) (hn : 0 < n) (hz : zs.length = s) (X1 : List Value) (h1 : X1 = xs.take a ++ xs.drop (a + s) ++ xs.drop (a + (xs.drop (a + s)).length)) (X2 : List Value) (h2 : X2 = X1.take ((n - 1) * s) ++ zs ++ X1.drop ((n - 1) * s + zs.length)) :
 X2.take ((n - 1) * s) = xs.take a ++ xs.drop (a + s) := by
 have hns : n * s = (n - 1) * s + s := by
  obtain ⟨m, rfl⟩ : ∃ m, n = m + 1 := ⟨n - 1, by omega⟩
  rw [Nat.add_mul, Nat.one_mul]
  simp
 have e0 : (xs.take a ++ xs.drop (a + s)).length = (n - 1) * s := by simp; omega
 have e1 : X1.take ((n - 1) * s) = xs.take a ++ xs.drop (a + s) := by
  rw [h1, (take_drop_flat _ _ [] _ e0).1]
 rw [h2, e1, List.append_assoc, (take_drop_flat _ _ [] _ e0).1]
theorem infoB : (Tryz.prog.info? 5).map (fun i => (i.zero, i.size, i.bytes)) = some (some (.int .u8 0), 1, 1) := by kernel_rfl
theorem eqnilB (w : World) (a : Option Addr) (n c n' c' : Nat) : (binOp .eql 40 (.slice a n c) (.slice none n' c')).run Tryz.prog w = .ok (.bool a.isNone) w := Lib.run_eql_slice_nil w _ _ a n c n' c' Tryz.underlying40
theorem cloneB_nil (w : World) (n c : Nat) : Calls Tryz.prog 40 #[.slice none n c] w fun e w' => e = .returned (.slice none 0 0) ∧ w = w' := by
 have q := eqnilB
 go_enter Tryz.func40, Tryz.ntmps40
 go_wp2
 go_ret
 exact ⟨rfl, rfl⟩
set_option maxHeartbeats 800000 in
theorem cloneB (w : World) (A : Option Addr) (n c : Nat) (xs : List Value) (h : SLine 1 w A n c xs) (hn : n ≤ 10000000) (h1 : ∀ u ∈ xs, u.oneCell' = true) :
 Calls Tryz.prog 40 #[.slice A n c] w fun e w' => (∃ A' c', e = .returned (.slice A' n c') ∧ SLine 1 w' A' n c' xs ∧ ∀ k ∈ blk A', w.heap.size ≤ k) ∧ Below w.heap.size w w' := by
 cases A with
 | none =>
  have hc0 := h.2.2.2.1 rfl
  have hnc := h.2.1
  obtain rfl : n = 0 := by omega
  refine (cloneB_nil w 0 c).mono ?_
  rintro e w' ⟨rfl, rfl⟩
  have hx : xs = [] := List.eq_nil_of_length_eq_zero (by simpa using h.1)
  subst hx
  exact ⟨⟨none, 0, rfl, SLine.nil 1 w, fun k hk => by cases hk⟩, Below.refl _ _⟩
 | some ad =>
  obtain ⟨g, off, rfl, hg, hcs, hfr⟩ := h.2.2.2.2 _ rfl
  obtain ⟨W0, hW0⟩ : ∃ W0, w.alloc (.cells #[] 5) = W0 := ⟨_, rfl⟩
  have hb0 : Below w.heap.size w W0 := by rw [← hW0]; exact (Below.refl _ w).alloc (Nat.le_refl _) _
  have hs0 : W0.heap.size = w.heap.size + 1 := by rw [← hW0]; simp
  have hd : SLine 1 W0 (some ⟨w.heap.size, 0, none⟩) 0 0 [] := ⟨rfl, Nat.le_refl _, by unfold maxLen; omega, (fun e => by cases e), fun a e => by cases e; exact ⟨w.heap.size, 0, rfl, by omega, fun i hi => by omega, fun i hi => by omega⟩⟩
  have hh := h.below hb0
  have hsrc : Src Tryz.prog 1 40 (.slice (some ⟨g, off, none⟩) n c) n xs W0 := Src.ofSlice W0 Tryz.underlying40 ⟨g, off, none⟩ n c xs h.1 (fun j u hj => by
   have hadd : (⟨g, off, none⟩ : Addr).add j = ⟨g, off + j, none⟩ := by unfold Addr.add; split <;> simp_all
   have hjl := (List.getElem?_eq_some_iff.1 hj).1
   rw [hadd]
   exact ((hb0.cell (p := ⟨g, off + j, none⟩) hg).trans (hcs j (by rw [← h.1]; exact hjl))).trans hj) h1
  obtain ⟨A', c', w', hr, hl, hc, hf, hne⟩ := sline_append 1 W0 40 5 40 _ 1 Tryz.underlying40 infoB rfl (by decide) _ 0 0 [] hd (by omega) _ n (by omega) (fun e => by cases e) xs hsrc
  rw [Nat.zero_add] at hr hl
  rw [← hW0] at hr
  have hblk : ∀ k ∈ blk A', w.heap.size ≤ k := fun k hk => by
   rcases hf k hk with h2 | h2
   · obtain ⟨ad, ea, hb⟩ := mem_blk.1 h2
     cases ea
     rw [← hb]
     exact Nat.le_refl _
   · omega
  have hb : Below w.heap.size w w' := hb0.trans (hc.toBelow (fun k hk => by obtain ⟨ad, ea, hb⟩ := mem_blk.1 hk; cases ea; rw [← hb]; exact Nat.le_refl _) (by omega))
  have HR := Lib.hid hr
  have HL := Lib.hid (And.intro hl (And.intro hblk hb))
  clear hr hl hc hf hb hblk hd hh hsrc hb0 hcs hfr h h1 hs0 hW0
  have q := eqnilB
  go_enter Tryz.func40, Tryz.ntmps40
  go_wp2_with (at_builtin; refine Lib.wpList_append_run _ rfl _ _ _ _ rfl _ _ rfl rfl _ _ HR.out ?_)
  go_ret
  exact ⟨⟨A', c', rfl, HL.out.1, HL.out.2.1⟩, HL.out.2.2⟩
def ZsAt (w : World) (A : Option Addr) (n : Nat) (zs : List Int) : Prop :=
 zs.length = n ∧ (0 < n → ∃ g off, A = some ⟨g, off, none⟩ ∧ g < w.heap.size ∧ ∀ j z, zs[j]? = some z → w.cell? ⟨g, off + j, none⟩ = some (.int .i64 z))
theorem ZsAt.same {w w' : World} {A : Option Addr} {n : Nat} {zs : List Int} (h : ZsAt w A n zs) (hz : w.heap.size ≤ w'.heap.size) (hs : ∀ k ∈ blk A, k < w.heap.size → w'.heap[k]? = w.heap[k]?) : ZsAt w' A n zs := by
 refine ⟨h.1, fun h0 => ?_⟩
 obtain ⟨g, off, rfl, hg, hc⟩ := h.2 h0
 exact ⟨g, off, rfl, Nat.lt_of_lt_of_le hg hz, fun j z hj => (World.cell?_of_block (w := w) (a := ⟨g, off + j, none⟩) (hs g (mem_blk.2 ⟨_, rfl, rfl⟩) hg)).trans (hc j z hj)⟩
def keptZ (zs : List Int) (num : Nat) : Int := if zs.length = 0 then 0 else zs.getD (num % zs.length) 0
theorem kept_any (w : World) (A : Option Addr) (n c : Nat) (zs : List Int) (h : ZsAt w A n zs) (hn : n ≤ 1000000) (num : Nat) (hnum : num ≤ 1000000) :
 Calls Tryz.prog 39 #[.slice A n c, .int .i64 (num : Int)] w fun e w' => e = .returned (.int .i64 (keptZ zs num)) ∧ w = w' := by
 rcases Nat.eq_zero_or_pos n with h0 | h0
 · subst h0
   have hz : keptZ zs num = 0 := by unfold keptZ; rw [if_pos h.1]
   rw [hz]
   clear h hz
   go_enter Tryz.func39, Tryz.ntmps39
   go_wp2
   go_ret
   exact ⟨rfl, rfl⟩
 · obtain ⟨g, off, rfl, hg, hcs⟩ := h.2 h0
   have hlt : num % n < n := Nat.mod_lt _ h0
   have hl := h.1
   have hz : keptZ zs num = zs.getD (num % n) 0 := by unfold keptZ; rw [if_neg (by omega), hl]
   have hc : w.cell? ⟨g, off + num % n, none⟩ = some (.int .i64 (zs.getD (num % n) 0)) := hcs _ _ (by simp [List.getD, List.getElem?_eq_getElem (show num % n < zs.length by omega)])
   rw [hz]
   obtain ⟨z, hzz⟩ : ∃ z, zs.getD (num % n) 0 = z := ⟨_, rfl⟩
   rw [hzz] at hc ⊢
   obtain ⟨r, hr⟩ : ∃ r, num % n = r := ⟨_, rfl⟩
   rw [hr] at hc hlt
   have hm : Int.tmod (num : Int) (n : Int) = (r : Int) := by
    rw [← hr, Int.ofNat_tmod]
   have hn0 : (n : Int) ≠ 0 := by omega
   have hn1 : ¬ (n : Int) = 0 := by omega
   have hr0 : (0 : Int) ≤ (r : Int) := by omega
   have hr1 : (r : Int) < (n : Int) := by omega
   clear h hcs hz hzz
   go_enter Tryz.func39, Tryz.ntmps39
   go_wp2
   go_ret
   exact ⟨rfl, rfl⟩
def FileAt (w : World) (f : Nat) (num : Nat) (A : Option Addr) (n c sure : Nat) : Prop := w.heap[f]? = some (.cells #[.int .i64 (num : Int), .slice A n c, .int .i64 (sure : Int)] 90 (0, 0))
section
variable {w w' : World} {f num n c sure : Nat} {A : Option Addr}
theorem FileAt.c0 (h : FileAt w f num A n c sure) : w.cell? ⟨f, 0, none⟩ = some (.int .i64 (num : Int)) := by rw [cell_of_row w f 0 _ _ (0, 0) h]; rfl
theorem FileAt.c1 (h : FileAt w f num A n c sure) : w.cell? ⟨f, 1, none⟩ = some (.slice A n c) := by rw [cell_of_row w f 1 _ _ (0, 0) h]; rfl
theorem FileAt.c2 (h : FileAt w f num A n c sure) : w.cell? ⟨f, 2, none⟩ = some (.int .i64 (sure : Int)) := by rw [cell_of_row w f 2 _ _ (0, 0) h]; rfl
theorem FileAt.free (h : FileAt w f num A n c sure) (i : Nat) : w.frozen? ⟨f, i, none⟩ = false := frozen_of_row w f i _ _ h
theorem FileAt.same (h : FileAt w f num A n c sure) (hb : w'.heap[f]? = w.heap[f]?) : FileAt w' f num A n c sure := hb.trans h
theorem FileAt.setSure (h : FileAt w f num A n c sure) (s : Nat) : FileAt (w.setCell ⟨f, 2, none⟩ (.int .i64 (s : Int))) f num A n c s := by
 unfold FileAt
 rw [heap_setCell_same w f 2 _ _ _ h]
 rfl
theorem FileAt.setData (h : FileAt w f num A n c sure) (A' : Option Addr) (n' c' : Nat) : FileAt (w.setCell ⟨f, 1, none⟩ (.slice A' n' c')) f num A' n' c' sure := by
 unfold FileAt
 rw [heap_setCell_same w f 1 _ _ _ h]
 rfl
theorem FileAt.setNum (h : FileAt w f num A n c sure) (m : Nat) : FileAt (w.setCell ⟨f, 0, none⟩ (.int .i64 (m : Int))) f m A n c sure := by
 unfold FileAt
 rw [heap_setCell_same w f 0 _ _ _ h]
 rfl
end
def leftN (n sure : Nat) (others : Int) : Nat := sure + (min (max others 0) ((n : Int) - (sure : Int))).toNat
set_option maxHeartbeats 1600000 in
theorem lose_any (w : World) (f num : Nat) (A : Option Addr) (n c sure : Nat) (xs : List Value) (others : Int) (hF : FileAt w f num A n c sure) (hl : SLine 1 w A n c xs) (hn : n ≤ 10000000) (h1 : ∀ u ∈ xs, u.oneCell' = true) (hs : sure ≤ n) (hf : f ∉ blk A) (hob : others ≤ 9223372036854775807) :
 Calls Tryz.prog 38 #[.pointer (some ⟨f, 0, none⟩), .int .i64 others] w fun e w' => (∃ v, e = .returned v) ∧ ∃ A' c', FileAt w' f num A' (leftN n sure others) c' (leftN n sure others) ∧ SLine 1 w' A' (leftN n sure others) c' (xs.take (leftN n sure others)) ∧ (∀ k ∈ blk A', w.heap.size ≤ k) ∧ Chg [f] w w' := by
 obtain ⟨s, hse⟩ : ∃ s, leftN n sure others = s := ⟨_, rfl⟩
 have hE : (sure : Int) + min (max others 0) ((n : Int) - (sure : Int)) = (s : Int) := by unfold leftN at hse; omega
 have hsn : s ≤ n := by omega
 rw [hse]
 clear hse
 have hfl := lt_of_block hF
 have c0 := hF.c0
 have c1 := hF.c1
 have c2 := hF.c2
 have f1 := hF.free 1
 have f2 := hF.free 2
 have hnc := hl.2.1
 have hc63 : c ≤ 9223372036854775807 := by have := hl.2.2.1; unfold maxLen at this; omega
 have HE := Lib.hid hE
 have hF2 := hF.setSure s
 have hC2 : Chg [f] w (w.setCell ⟨f, 2, none⟩ (.int .i64 (s : Int))) := (Chg.refl _ w).setCell f 2 _ (.inl (List.mem_cons_self ..))
 obtain ⟨w1, hw1⟩ : ∃ w1, w.setCell ⟨f, 2, none⟩ (.int .i64 (s : Int)) = w1 := ⟨_, rfl⟩
 rw [hw1] at hF2 hC2
 have HF2 := Lib.hid hF2
 have HC2 := Lib.hid hC2
 have HL2 := Lib.hid ((hl.chg hC2 (fun k hk hm => by rw [List.mem_singleton] at hm; subst hm; exact hf hk)).shrink s hsn)
 rw [Nat.mul_one] at HL2
 have HCL := Lib.hid (fun (W : World) (hW : W.heap = w1.heap) => cloneB W A s c (xs.take s) ((HL2.out).same (by rw [hW]; exact Nat.le_refl _) (fun k _ => by rw [hW])) (by omega) (fun u hu => h1 u (List.mem_of_mem_take hu)))
 have HW1 := Lib.hid hw1
 have hsn' : (s : Int) ≤ (n : Int) := by omega
 have hsc : s ≤ c := by omega
 have hsc' : (s : Int) ≤ (c : Int) := by omega
 have hs0 : (0 : Int) ≤ (s : Int) := by omega
 clear hF hF2 hC2 hl h1 hf hw1
 go_enter Tryz.func38, Tryz.ntmps38
 go_wp2_with fail
 go_region
 simp only [HW1.out]
 clear hE
 have c0 := HF2.out.c0
 have c1 := HF2.out.c1
 have c2 := HF2.out.c2
 have f1 := HF2.out.free 1
 go_wp2_with fail
 go_region_with (go_at_call 40; refine (HCL.out w1.drew.drew rfl).mono ?_; rintro e w2 ⟨⟨A', c', rfl, hl2, hb2⟩, hB⟩; have hF3 := HF2.out.same (hB.block f (by show f < w1.heap.size; have := HC2.out.size; omega)); have d1 := hF3.c1; have e1 := hF3.free 1)
 all_goals
  have hz : w.heap.size ≤ w1.heap.size := HC2.out.size
  have hfA : ∀ k ∈ blk A', k ≠ f := fun k hk e => by have h5 : w1.heap.size ≤ k := hb2 k hk; omega
  have HX : Hid (FileAt (w2.setCell ⟨f, 1, none⟩ (.slice A' s c')) f num A' s c' s ∧ SLine 1 (w2.setCell ⟨f, 1, none⟩ (.slice A' s c')) A' s c' (xs.take s) ∧ (∀ k ∈ blk A', w.heap.size ≤ k) ∧ Chg [f] w (w2.setCell ⟨f, 1, none⟩ (.slice A' s c'))) :=
   Lib.hid ⟨hF3.setData A' s c', hl2.same (by simp [World.setCell]) (fun k hk => heap_setCell_other w2 ⟨f, 1, none⟩ k _ (hfA k hk)), fun k hk => Nat.le_trans hz (hb2 k hk), ((HC2.out.drew.drew).trans (Chg.of_below hB)).setCell f 1 _ (.inl (List.mem_cons_self ..))⟩
  go_end0
  exact ⟨⟨_, rfl⟩, A', c', HX.out⟩
end Go.Proofs.YtdjnebgjdekmaaaGreatDoor
