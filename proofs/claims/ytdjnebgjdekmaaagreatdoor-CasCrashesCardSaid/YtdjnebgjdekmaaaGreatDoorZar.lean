/- Contracts of sets.Row[string,*brazier/disk.file]: slices.Insert, slices.Delete, Put, Drop. -/
import Derived.Test.YtdjnebgjdekmaaaGreatDoorZah
import Derived.Test.YtdjnebgjdekmaaaGreatDoorZap
import Derived.Test.YtdjnebgjdekmaaaGreatDoorZaf
set_option linter.unusedVariables false
set_option maxRecDepth 100000
namespace Go.Proofs.YtdjnebgjdekmaaaGreatDoor
open Go.RowKit
theorem infoP_S : (Tryz.prog.info? 137).map (fun i => (i.zero, i.size, i.bytes)) = some (some (.agg #[.string ⟨#[]⟩, .pointer none]), 2, 24) := by kernel_rfl
theorem sizeP_S : (Tryz.prog.info? 137).map (·.size) = some 2 := by kernel_rfl
theorem zeroP_S (w : World) : (zeroValue 137).run Tryz.prog w = .ok (.agg #[.string ⟨#[]⟩, .pointer none]) w := by kernel_rfl
theorem sizeOfP_S (w : World) : (Go.sizeOf 137).run Tryz.prog w = .ok 2 w := by kernel_rfl
def InsToS (w : World) (A : Option Addr) (n : Nat) (xs : List Value) (e : Ending) (w' : World) : Prop :=
 ∃ A' c', e = .returned (.slice A' (n + 1) c') ∧ SLine 2 w' A' (n + 1) c' xs ∧ Chg (blk A) w w' ∧ (∀ k ∈ blk A', k ∈ blk A ∨ w.heap.size ≤ k)
structure OneS (w : World) (vb : Nat) (p0 p1 : Value) : Prop where
 block : w.heap[vb]? = some (.cells #[p0, p1] 137 (0, 0))
 one0 : p0.oneCell' = true
 one1 : p1.oneCell' = true
theorem OneS.cells {w : World} {vb : Nat} {p0 p1 : Value} (h : OneS w vb p0 p1) : ∀ j v, [p0, p1][j]? = some v → w.cell? ((⟨vb, 0, none⟩ : Addr).add j) = some v := by
 intro j v hj
 have hadd : (⟨vb, 0, none⟩ : Addr).add j = ⟨vb, 0 + j, none⟩ := by unfold Addr.add; split <;> simp_all
 rw [hadd, Nat.zero_add, cell_of_row w vb j _ _ (0, 0) h.block]
 rcases j with _ | _ | j
 · exact hj
 · exact hj
 · simp at hj
theorem OneS.ones {w : World} {vb : Nat} {p0 p1 : Value} (h : OneS w vb p0 p1) : ∀ u ∈ [p0, p1], u.oneCell' = true := by
 intro u hu
 simp only [List.mem_cons, List.not_mem_nil, or_false] at hu
 rcases hu with rfl | rfl
 · exact h.one0
 · exact h.one1
set_option maxHeartbeats 800000 in
set_option maxRecDepth 100000 in
theorem insert_end_S (w : World) (A : Option Addr) (n c : Nat) (xs : List Value) (h : SLine 2 w A n c xs) (hn : n ≤ 100000) (vb : Nat) (p0 p1 : Value) (hv : OneS w vb p0 p1) :
 Calls Tryz.prog 95 #[.slice A n c, .int .i64 (n : Int), .slice (some ⟨vb, 0, none⟩) 1 1] w fun e w' => InsToS w A n (xs ++ [p0, p1]) e w' := by
 have hsrc : Src Tryz.prog 2 68 (.slice (some ⟨vb, 0, none⟩) 1 1) 1 [p0, p1] w := Src.ofSlice w Tryz.underlying68 ⟨vb, 0, none⟩ 1 1 [p0, p1] rfl hv.cells hv.ones
 obtain ⟨A', c', w', hr, hl, hc, hf, _⟩ := sline_append 2 w 68 137 68 _ 24 Tryz.underlying68 infoP_S rfl (by decide) A n c xs h (by omega) _ 1 (by omega) (fun _ => by omega) [p0, p1] hsrc
 have HR := Lib.hid hr
 have HL := Lib.hid (And.intro hl (And.intro hc hf))
 have hnc := h.2.1
 have hc63 : c ≤ 9223372036854775807 := by have := h.2.2.1; unfold maxLen at this; omega
 clear h hv hsrc hr hl hc hf
 go_enter Tryz.func95, Tryz.ntmps95
 cases A
 all_goals
  go_wp2_with (at_builtin; refine Lib.wpList_append_run _ rfl _ _ _ _ rfl _ _ rfl rfl _ _ HR.out ?_)
  all_goals
   go_ret
   exact ⟨A', c', rfl, HL.out.1, HL.out.2.1, HL.out.2.2⟩
set_option maxHeartbeats 4000000 in
set_option maxRecDepth 100000 in
theorem insert_grow_S (w : World) (b off n c : Nat) (xs : List Value) (h : SLine 2 w (some ⟨b, off, none⟩) n c xs) (hn : n ≤ 100000) (i : Nat) (hi : i < n) (hroom : c < n + 1) (h1c : ∀ u ∈ xs, u.oneCell' = true) (vb : Nat) (p0 p1 : Value) (hv : OneS w vb p0 p1) :
 Calls Tryz.prog 95 #[.slice (some ⟨b, off, none⟩) n c, .int .i64 (i : Int), .slice (some ⟨vb, 0, none⟩) 1 1] w fun e w' => InsToS w (some ⟨b, off, none⟩) n (xs.take (i * 2) ++ [p0, p1] ++ xs.drop (i * 2)) e w' := by
 have hxl := h.1
 have hbw : b < w.heap.size := h.lt b (mem_blk.2 ⟨_, rfl, rfl⟩)
 have hvw := lt_of_block hv.block
 have hnc := h.2.1
 have hc63 : c ≤ 9223372036854775807 := by have := h.2.2.1; unfold maxLen at this; omega
 obtain ⟨k, hk⟩ : ∃ k, n + 1 - i = k := ⟨_, rfl⟩
 obtain ⟨G, W1, ys, hr1, hyl, hl1, hbW, hG1, hG2⟩ := sline_zeros 2 (by decide) w 68 3 68 137 _ 24 Tryz.underlying68 Tryz.underlying3 infoP_S rfl (by decide) _ n c xs h i (by omega) k (by omega) (by omega) (by omega)
 have hik : i + k = n + 1 := by omega
 have hkk : (n : Int) + 1 - (i : Int) = (k : Int) := by omega
 rw [hik] at hr1 hl1 hG1
 have hG63 : G ≤ 9223372036854775807 := by unfold maxLen at hG2; omega
 obtain ⟨hh, hhe⟩ : ∃ hh, w.heap.size = hh := ⟨_, rfl⟩
 rw [hhe] at hr1 hl1 hbW hbw hvw
 -- the element is put in
 have hvc1 : ∀ j v, [p0, p1][j]? = some v → W1.cell? ((⟨vb, 0, none⟩ : Addr).add j) = some v := fun j v hj => by
  have := hv.cells j v hj
  have hadd : (⟨vb, 0, none⟩ : Addr).add j = ⟨vb, 0 + j, none⟩ := by unfold Addr.add; split <;> simp_all
  rw [hadd] at this ⊢
  exact (hbW.cell (p := ⟨vb, 0 + j, none⟩) hvw).trans this
 obtain ⟨gg, oo, eg, hgl, hgc, hgf⟩ := hl1.at (by omega)
 cases eg
 obtain ⟨W2, hW2⟩ : ∃ W2, W1.setCells hh (0 + i * 2) [p0, p1] = W2 := ⟨_, rfl⟩
 have hGn : (n + 1) * 2 ≤ G * 2 := Nat.mul_le_mul_right 2 hG1
 have hcpA : ∀ ty dc, (Builtin.copy_ #[68, 68] ty #[.slice (some ⟨hh, i * 2, none⟩) (n + 1 - i) dc, .slice (some ⟨vb, 0, none⟩) 1 1]).run Tryz.prog W1 = .ok (goInt 1) W2 := fun ty dc => by
  rw [← hW2, Nat.zero_add]
  exact run_copy_sz 2 1 W1 _ _ ty 137 hh (i * 2) (n + 1 - i) dc ⟨vb, 0, none⟩ 1 1 [p0, p1] Tryz.underlying68 sizeP_S (by simp only [Nat.min_def]; split <;> omega) rfl hvc1
   (fun j hj => by have := (hgf (i * 2 + j) (by simp at hj; omega)).1; rwa [Nat.zero_add] at this) (fun j hj => by have := (hgf (i * 2 + j) (by simp at hj; omega)).2; rwa [Nat.zero_add] at this) hv.ones
 have hl2 := hl1.set (i * 2) [p0, p1] (by simp; omega)
 rw [hW2] at hl2
 have hc2 : Below hh w W2 := by
  rw [← hW2]
  exact hbW.trans ((chg_cells W1 hh (0 + i * 2) [p0, p1]).toBelow (fun k hk => by simp at hk; omega) (by rw [← hhe]; exact hbW.size))
 -- what follows is moved on
 obtain ⟨gg, oo, eg, hgl2, hgc2, hgf2⟩ := hl2.at (by omega)
 cases eg
 obtain ⟨W3, hW3⟩ : ∃ W3, W2.drew.setCells hh (0 + (i * 2 + 2)) (xs.drop (i * 2)) = W3 := ⟨_, rfl⟩
 have hdl : (xs.drop (i * 2)).length = (n - i) * 2 := by rw [List.length_drop]; omega
 obtain ⟨_, _, eg, hbl, hbc, hbf⟩ := h.at (by omega)
 cases eg
 have hcpB : ∀ ty dc sc, (Builtin.copy_ #[68, 68] ty #[.slice (some ⟨hh, (i + 1) * 2, none⟩) (n + 1 - (i + 1)) dc, .slice (some ⟨b, off + i * 2, none⟩) (n - i) sc]).run Tryz.prog W2.drew = .ok (goInt (n - i : Nat)) W3 := fun ty dc sc => by
  rw [← hW3, Nat.zero_add, show i * 2 + 2 = (i + 1) * 2 from by omega]
  exact run_copy_sz 2 (n - i) W2.drew _ _ ty 137 hh ((i + 1) * 2) (n + 1 - (i + 1)) dc ⟨b, off + i * 2, none⟩ (n - i) sc (xs.drop (i * 2)) Tryz.underlying68 sizeP_S (by simp only [Nat.min_def]; split <;> omega) hdl
   (fun j v hj => by
    have hadd : (⟨b, off + i * 2, none⟩ : Addr).add j = ⟨b, off + (i * 2 + j), none⟩ := by unfold Addr.add; simp [Nat.add_assoc]
    rw [hadd]
    rw [List.getElem?_drop] at hj
    have hjl := (List.getElem?_eq_some_iff.1 hj).1
    have h5 := hbc (i * 2 + j) (by omega)
    rw [hj] at h5
    exact (hc2.cell (p := ⟨b, off + (i * 2 + j), none⟩) hbw).trans h5)
   (fun j hj => by have := (hgf2 ((i + 1) * 2 + j) (by omega)).1; rwa [Nat.zero_add] at this) (fun j hj => by have := (hgf2 ((i + 1) * 2 + j) (by omega)).2; rwa [Nat.zero_add] at this) (fun u hu => h1c u (List.mem_of_mem_drop hu))
 have hl3 := hl2.drew.set (i * 2 + 2) (xs.drop (i * 2)) (by rw [hdl]; omega)
 rw [hW3] at hl3
 have hc3 : Below hh w W3 := by
  rw [← hW3]
  exact hc2.drew.trans ((chg_cells W2.drew hh (0 + (i * 2 + 2)) (xs.drop (i * 2))).toBelow (fun k hk => by simp at hk; omega) (by show hh ≤ W2.heap.size; rw [← hhe]; exact hc2.size))
 have hlist : ((xs.take (i * 2) ++ ys).take (i * 2) ++ [p0, p1] ++ (xs.take (i * 2) ++ ys).drop (i * 2 + [p0, p1].length)).take (i * 2 + 2) ++ xs.drop (i * 2) ++ ((xs.take (i * 2) ++ ys).take (i * 2) ++ [p0, p1] ++ (xs.take (i * 2) ++ ys).drop (i * 2 + [p0, p1].length)).drop (i * 2 + 2 + (xs.drop (i * 2)).length) = xs.take (i * 2) ++ [p0, p1] ++ xs.drop (i * 2) := by
  have ht : (xs.take (i * 2)).length = i * 2 := by rw [List.length_take]; omega
  rw [(take_drop_flat (xs.take (i * 2)) ys [] _ ht).1, (take_drop_flat (xs.take (i * 2) ++ [p0, p1]) _ [] (i * 2 + 2) (by rw [List.length_append, ht]; rfl)).1]
  have hZ : ∀ (T Z : List Value) (m : Nat), Z.length ≤ m → T ++ Z.drop m = T := fun T Z m hm => by rw [List.drop_eq_nil_of_le hm, List.append_nil]
  exact hZ _ _ _ (by simp; omega)
 rw [hlist] at hl3
 have HBc := Lib.hid hcpB
 have HR := Lib.hid hr1
 have HL := Lib.hid (And.intro hl3 hc3)
 have HHE := Lib.hid hhe
 have hGi : ¬ G = i := by omega
 have hGim : ¬ G = i + 1 := by omega
 have hci : ¬ c = i := by omega
 have hz2 : ¬ (i : Int) = (n : Int) := by omega
 have hz3 : (c : Int) < (n : Int) + 1 := by omega
 have hb3 : (i : Int) ≤ (n : Int) := by omega
 have hb4 : (i : Int) + 1 ≤ (n : Int) + 1 := by omega
 have hw1 : IntKind.i64.wrap ((i : Int) + 1) = (i : Int) + 1 := by rw [IntKind.wrap_i64]; omega
 have hb1 : (0 : Int) ≤ (i : Int) + 1 := by omega
 have htn : ((i : Int) + 1).toNat = i + 1 := by omega
 have hin : i ≤ n := by omega
 clear hlist hl3 hc3 hbW hcpB hr1 hW2 hW3 hl1 hl2 hc2 hgc hgf hgc2 hgf2 hbc hbf hvc1 h hv h1c hhe hdl hxl hyl hik hk
 go_enter Tryz.func95, Tryz.ntmps95
 go_wp2_with (at_builtin; refine Lib.wpList_append_run _ rfl _ _ _ _ rfl _ _ rfl rfl _ _ HR.out ?_)
 go_region_law (refine step_copy_runI rfl _ _ 68 68 rfl (.slice (some ⟨hh, (i + 1) * 2, none⟩) (n + 1 - (i + 1)) (G - (i + 1))) (.slice (some ⟨b, off + i * 2, none⟩) (n - i) (c - i)) (by simp [Act.eval, Act.put]) (by simp [Act.eval, Act.put]) (HBc.out 3 (G - (i + 1)) (c - i)) ?_)
 go_wp2
 go_ret
 exact ⟨_, _, rfl, HL.out.1, by have := Chg.of_below (l := blk (some ⟨b, off, none⟩)) (by rw [HHE.out]; exact HL.out.2); exact this, fun k hk => .inr (by
  obtain ⟨ad, ea, hb⟩ := mem_blk.1 hk
  cases ea
  rw [HHE.out, ← hb]
  exact Nat.le_refl _)⟩
theorem overlaps_S {w : World} {vb b o : Nat} {p0 p1 : Value} (hv : OneS w vb p0 p1) (hne : vb ≠ b) (hsome : (w.cell? ⟨b, o, none⟩).isSome = true) (o2 lb cb : Nat) :
 (callFunc 109 #[.slice (some ⟨vb, 0, none⟩) 1 1, .slice (some ⟨b, o2, none⟩) lb cb]).run Tryz.prog w = .ok (.value (.bool false)) w := by
 obtain ⟨tB, kB, hsb, hkB⟩ := shape_of_cell hsome
 have hsa : w.shape? vb = some (137, 2) := by
  unfold World.shape?
  rw [hv.block]
  rfl
 have hf : ∀ j, w.frozen? ⟨vb, j, none⟩ = false := fun j => frozen_of_row w vb j _ _ hv.block
 rw [run_callFunc_extern Tryz.func109 (by kernel_rfl) (by kernel_rfl) (by kernel_rfl) (e := Extern.SlicesOverlaps.overlaps #[68, 68] #[4]) (by kernel_rfl),
  Lib.run_overlaps_apart w 68 4 137 Tryz.underlying68 2 sizeOfP_S ⟨vb, 0, none⟩ ⟨b, o2, none⟩ 1 1 lb cb hne 137 tB 2 kB hsa hsb hkB (hf 0) (hf 2)]
 rfl
set_option maxHeartbeats 4000000 in
set_option maxRecDepth 100000 in
theorem insert_shift_S (w : World) (b off n c : Nat) (xs : List Value) (h : SLine 2 w (some ⟨b, off, none⟩) n c xs) (hn : n ≤ 100000) (i : Nat) (hi : i < n) (hroom : n + 1 ≤ c) (h1c : ∀ u ∈ xs, u.oneCell' = true) (vb : Nat) (p0 p1 : Value) (hv : OneS w vb p0 p1) (hvb : vb ≠ b) :
 Calls Tryz.prog 95 #[.slice (some ⟨b, off, none⟩) n c, .int .i64 (i : Int), .slice (some ⟨vb, 0, none⟩) 1 1] w fun e w' => InsToS w (some ⟨b, off, none⟩) n (xs.take (i * 2) ++ [p0, p1] ++ xs.drop (i * 2)) e w' := by
 have hxl := h.1
 have hbw : b < w.heap.size := h.lt b (mem_blk.2 ⟨_, rfl, rfl⟩)
 have hvw := lt_of_block hv.block
 have hc63 : c ≤ 9223372036854775807 := by have := h.2.2.1; unfold maxLen at this; omega
 obtain ⟨_, _, eg, hbl, hbc, hbf⟩ := h.at (by omega)
 cases eg
 obtain ⟨ys, hyl, hl1⟩ := h.spare hroom
 have hov : ∀ lb cb, (callFunc 109 #[.slice (some ⟨vb, 0, none⟩) 1 1, .slice (some ⟨b, off + (i + 1) * 2, none⟩) lb cb]).run Tryz.prog w = .ok (.value (.bool false)) w := fun lb cb => overlaps_S (o := off + 0) hv hvb ((hbf 0 (by omega)).1) _ lb cb
 -- what follows is moved on
 obtain ⟨W2, hW2⟩ : ∃ W2, w.drew.setCells b (off + (i + 1) * 2) (xs.drop (i * 2)) = W2 := ⟨_, rfl⟩
 have hdl : (xs.drop (i * 2)).length = (n - i) * 2 := by rw [List.length_drop]; omega
 have hcpB : ∀ ty dc sc, (Builtin.copy_ #[68, 68] ty #[.slice (some ⟨b, off + (i + 1) * 2, none⟩) (n + 1 - (i + 1)) dc, .slice (some ⟨b, off + i * 2, none⟩) (n + 1 - i) sc]).run Tryz.prog w.drew = .ok (goInt (n - i : Nat)) W2 := fun ty dc sc => by
  rw [← hW2]
  exact run_copy_sz 2 (n - i) w.drew _ _ ty 137 b (off + (i + 1) * 2) (n + 1 - (i + 1)) dc ⟨b, off + i * 2, none⟩ (n + 1 - i) sc (xs.drop (i * 2)) Tryz.underlying68 sizeP_S (by simp only [Nat.min_def]; split <;> omega) hdl
   (fun j v hj => by
    have hadd : (⟨b, off + i * 2, none⟩ : Addr).add j = ⟨b, off + (i * 2 + j), none⟩ := by unfold Addr.add; simp [Nat.add_assoc]
    rw [hadd]
    rw [List.getElem?_drop] at hj
    have hjl := (List.getElem?_eq_some_iff.1 hj).1
    have h5 := hbc (i * 2 + j) (by omega)
    rw [hj] at h5
    exact h5)
   (fun j hj => by rw [Nat.add_assoc]; exact (hbf ((i + 1) * 2 + j) (by omega)).1) (fun j hj => by rw [Nat.add_assoc]; exact (hbf ((i + 1) * 2 + j) (by omega)).2) (fun u hu => h1c u (List.mem_of_mem_drop hu))
 have hl2 := hl1.drew.set ((i + 1) * 2) (xs.drop (i * 2)) (by rw [hdl]; omega)
 rw [hW2] at hl2
 have hc2 : Chg [b] w W2 := by
  rw [← hW2]
  exact (Chg.refl _ w).drew.trans (chg_cells w.drew b (off + (i + 1) * 2) (xs.drop (i * 2)))
 -- the element is put in
 have hvc1 : ∀ j v, [p0, p1][j]? = some v → W2.cell? ((⟨vb, 0, none⟩ : Addr).add j) = some v := fun j v hj => by
  have := hv.cells j v hj
  have hadd : (⟨vb, 0, none⟩ : Addr).add j = ⟨vb, 0 + j, none⟩ := by unfold Addr.add; split <;> simp_all
  rw [hadd] at this ⊢
  exact (World.cell?_of_block (w := w) (a := ⟨vb, 0 + j, none⟩) (hc2.same vb hvw (by simp [hvb]))).trans this
 obtain ⟨_, _, eg, hgl2, hgc2, hgf2⟩ := hl2.at (by omega)
 cases eg
 obtain ⟨W3, hW3⟩ : ∃ W3, W2.setCells b (off + i * 2) [p0, p1] = W3 := ⟨_, rfl⟩
 have hcn : (n + 1) * 2 ≤ c * 2 := Nat.mul_le_mul_right 2 hroom
 have hcpA : ∀ ty dc, (Builtin.copy_ #[68, 68] ty #[.slice (some ⟨b, off + i * 2, none⟩) (n + 1 - i) dc, .slice (some ⟨vb, 0, none⟩) 1 1]).run Tryz.prog W2 = .ok (goInt 1) W3 := fun ty dc => by
  rw [← hW3]
  exact run_copy_sz 2 1 W2 _ _ ty 137 b (off + i * 2) (n + 1 - i) dc ⟨vb, 0, none⟩ 1 1 [p0, p1] Tryz.underlying68 sizeP_S (by simp only [Nat.min_def]; split <;> omega) rfl hvc1
   (fun j hj => by rw [Nat.add_assoc]; exact (hgf2 (i * 2 + j) (by simp at hj; omega)).1) (fun j hj => by rw [Nat.add_assoc]; exact (hgf2 (i * 2 + j) (by simp at hj; omega)).2) hv.ones
 have hl3 := hl2.set (i * 2) [p0, p1] (by simp; omega)
 rw [hW3] at hl3
 have hc3 : Chg [b] w W3 := by
  rw [← hW3]
  exact hc2.trans (chg_cells W2 b (off + i * 2) [p0, p1])
 rw [shift_list xs ys [p0, p1] (i * 2) 2 (by omega) hyl rfl _ (by rw [show i * 2 + 2 = (i + 1) * 2 from by omega])] at hl3
 have HBc := Lib.hid hcpB
 have HL := Lib.hid (And.intro hl3 hc3)
 have hci : ¬ c = i := by omega
 have hci1 : ¬ c = i + 1 := by omega
 have hz2 : ¬ (i : Int) = (n : Int) := by omega
 have hz3 : ¬ (c : Int) < (n : Int) + 1 := by omega
 have hb3 : (i : Int) ≤ (n : Int) + 1 := by omega
 have hb4 : (i : Int) + 1 ≤ (n : Int) + 1 := by omega
 have hb5 : (n : Int) + 1 ≤ (c : Int) := by omega
 have hw1 : IntKind.i64.wrap ((i : Int) + 1) = (i : Int) + 1 := by rw [IntKind.wrap_i64]; omega
 have hb1 : (0 : Int) ≤ (i : Int) + 1 := by omega
 have htn : ((i : Int) + 1).toNat = i + 1 := by omega
 have hin : i ≤ n := by omega
 clear hl3 hc3 hcpB hW2 hW3 hl1 hl2 hc2 hgc2 hgf2 hbc hbf hvc1 h hv h1c hdl hxl hyl
 go_enter Tryz.func95, Tryz.ntmps95
 go_wp2_with (simp only [hov])
 go_region_law (refine step_copy_runI rfl _ _ 68 68 rfl (.slice (some ⟨b, off + (i + 1) * 2, none⟩) (n + 1 - (i + 1)) (c - (i + 1))) (.slice (some ⟨b, off + i * 2, none⟩) (n + 1 - i) (c - i)) (by simp [Act.eval, Act.put]) (by simp [Act.eval, Act.put]) (HBc.out 3 (c - (i + 1)) (c - i)) ?_)
 go_wp2
 go_ret
 exact ⟨_, _, rfl, HL.out.1, HL.out.2.weaken (fun k hk => .inl (by simp only [List.mem_singleton] at hk; subst hk; exact mem_blk.2 ⟨_, rfl, rfl⟩)), fun k hk => .inl hk⟩
theorem insert_S (w : World) (A : Option Addr) (n c : Nat) (xs : List Value) (h : SLine 2 w A n c xs) (hn : n ≤ 100000) (i : Nat) (hi : i ≤ n) (h1c : ∀ u ∈ xs, u.oneCell' = true) (vb : Nat) (p0 p1 : Value) (hv : OneS w vb p0 p1) (hvb : vb ∉ blk A) :
 Calls Tryz.prog 95 #[.slice A n c, .int .i64 (i : Int), .slice (some ⟨vb, 0, none⟩) 1 1] w fun e w' => InsToS w A n (xs.take (i * 2) ++ [p0, p1] ++ xs.drop (i * 2)) e w' := by
 have hxl := h.1
 rcases Nat.lt_or_ge i n with hlt | hge
 · obtain ⟨b, off, rfl, _⟩ := h.at (by omega)
   rcases Nat.lt_or_ge c (n + 1) with hr | hr
   · exact insert_grow_S w b off n c xs h hn i hlt hr h1c vb p0 p1 hv
   · exact insert_shift_S w b off n c xs h hn i hlt hr h1c vb p0 p1 hv (fun e => hvb (mem_blk.2 ⟨_, rfl, e.symm⟩))
 · obtain rfl : i = n := by omega
   have := insert_end_S w A i c xs h hn vb p0 p1 hv
   rw [List.take_of_length_le (by omega), List.drop_eq_nil_of_le (by omega), List.append_nil]
   exact this
set_option maxHeartbeats 4000000 in
set_option maxRecDepth 100000 in
theorem delete_S (w : World) (b off n c : Nat) (xs : List Value) (h : SLine 2 w (some ⟨b, off, none⟩) n c xs) (hn : n ≤ 1000000) (i : Nat) (hi : i < n) (h1c : ∀ u ∈ xs, u.oneCell' = true) :
 Calls Tryz.prog 107 #[.slice (some ⟨b, off, none⟩) n c, .int .i64 (i : Int), .int .i64 ((i : Int) + 1)] w fun e w' =>
  e = .returned (.slice (some ⟨b, off, none⟩) (n - 1) c) ∧ SLine 2 w' (some ⟨b, off, none⟩) (n - 1) c (xs.take (i * 2) ++ xs.drop (i * 2 + 2)) ∧ Chg [b] w w' := by
 have hxl := h.1
 have hc63 : c ≤ 9223372036854775807 := by have := h.2.2.1; unfold maxLen at this; omega
 have hnc := h.2.1
 obtain ⟨_, _, eg, hbl, hbc, hbf⟩ := h.at (by omega)
 cases eg
 obtain ⟨j, hj⟩ : ∃ j, i + 1 = j := ⟨_, rfl⟩
 have hjI : (i : Int) + 1 = (j : Int) := by omega
 obtain ⟨i0, hi0, hz0, hz1, hz2⟩ := info_parts infoP_S
 obtain ⟨news, hnews⟩ : ∃ news, xs.drop (i * 2 + 2) = news := ⟨_, rfl⟩
 have hlen : news.length = (n - j) * 2 := by rw [← hnews, List.length_drop]; omega
 obtain ⟨A, hA, hsrc⟩ : ∃ A : Addr, (if c = j then some (⟨b, off, none⟩ : Addr) else some ⟨b, off + j * 2, none⟩) = some A ∧ Hid (∀ t u, news[t]? = some u → w.drew.cell? (A.add t) = some u) := by
  by_cases hcj : c = j
  · refine ⟨⟨b, off, none⟩, by simp [hcj], fun t u hu => ?_⟩
    have := (List.getElem?_eq_some_iff.1 hu).1
    omega
  · refine ⟨⟨b, off + j * 2, none⟩, by simp [hcj], fun t u hu => ?_⟩
    have hadd : (⟨b, off + j * 2, none⟩ : Addr).add t = ⟨b, off + (j * 2 + t), none⟩ := by unfold Addr.add; simp [Nat.add_assoc]
    rw [hadd]
    have hul := (List.getElem?_eq_some_iff.1 hu).1
    have h5 := hbc (j * 2 + t) (by omega)
    rw [← hnews, List.getElem?_drop, show i * 2 + 2 + t = j * 2 + t from by omega] at hu
    rw [hu] at h5
    exact h5
 have hcn : n * 2 ≤ c * 2 := Nat.mul_le_mul_right 2 hnc
 have s2 : Hid (∀ u ∈ news, u.oneCell' = true) := Lib.hid (fun u hu => h1c u (by rw [← hnews] at hu; exact List.mem_of_mem_drop hu))
 have s3 : Hid (∀ t, t < news.length → (w.drew.cell? ⟨b, off + i * 2 + t, none⟩).isSome = true ∧ w.drew.frozen? ⟨b, off + i * 2 + t, none⟩ = false) := Lib.hid (fun t ht => by
  rw [Nat.add_assoc]
  exact hbf (i * 2 + t) (by omega))
 obtain ⟨W1, hW1⟩ : ∃ W1, w.drew.setCells b (off + i * 2) news = W1 := ⟨_, rfl⟩
 have hl1 := h.drew.set (i * 2) news (by omega)
 rw [hW1] at hl1
 obtain ⟨_, _, eg, hbl1, hbc1, hbf1⟩ := hl1.at (by omega)
 cases eg
 obtain ⟨W2, hW2⟩ : ∃ W2, W1.setCells b (off + (n - 1) * 2) [.string ⟨#[]⟩, .pointer none] = W2 := ⟨_, rfl⟩
 have hcl : ∀ ty, (Builtin.clear_ #[68] ty #[.slice (some ⟨b, off + (i + (n - j)) * 2, none⟩) (n - (i + (n - j))) (c - (i + (n - j)))]).run Tryz.prog W1 = .ok (.tuple #[]) W2 := fun ty => by
  rw [← hW2, show i + (n - j) = n - 1 from by omega, show n - (n - 1) = 1 from by omega]
  exact run_clear_sz 1 (by omega) W1 _ _ ty _ [.string ⟨#[]⟩, .pointer none] Tryz.underlying68 zeroP_S (by kernel_rfl) (by intro u hu; simp only [List.mem_cons, List.not_mem_nil, or_false] at hu; rcases hu with rfl | rfl <;> rfl) b _ _
   (fun t ht => by rw [Nat.add_assoc]; exact (hbf1 ((n - 1) * 2 + t) (by simp at ht; omega)).1) (fun t ht => by rw [Nat.add_assoc]; exact (hbf1 ((n - 1) * 2 + t) (by simp at ht; omega)).2)
 have hl2 := hl1.set ((n - 1) * 2) [.string ⟨#[]⟩, .pointer none] (by simp; omega)
 rw [hW2] at hl2
 have hl3 := hl2.shrink (n - 1) (by omega)
 rw [drop_list xs [.string ⟨#[]⟩, .pointer none] (i * 2) 2 n hxl (by omega) (by omega) rfl _ (by rw [hnews]) _ rfl] at hl3
 have hc2 : Chg [b] w W2 := by
  rw [← hW2, ← hW1]
  exact ((Chg.refl _ w).drew.trans (chg_cells w.drew b _ _)).trans (chg_cells _ b _ _)
 have HL := Lib.hid (And.intro hl3 hc2)
 have hW := Lib.hid hW1
 have HN := Lib.hid hlen
 have hij : (i : Int) ≤ (j : Int) := by omega
 have hjn : (j : Int) ≤ (n : Int) := by omega
 have hic : i ≤ c := by omega
 have hjc : j ≤ c := by omega
 have hjnn : j ≤ n := by omega
 have hnij : ¬ (i : Int) = (j : Int) := by omega
 have HNE : Hid (i + (n - j) = n - 1) := Lib.hid (by omega)
 have hlt : i < j := by omega
 rw [hjI]
 clear hjI hl1 hl2 hl3 hc2 hW1 hW2 hbc hbf hbc1 hbf1 h h1c hnews hlen hxl hj
 go_enter Tryz.func107, Tryz.ntmps107
 go_wp2_with fail
 go_region_law (refine step_append_room rfl (.tmp 22) (.tmp 25) 68 rfl 137 i0 2 Tryz.underlying68 hi0 hz1 b off i c (by simp [Act.eval, Act.put]) A (n - j) (c - j) news (by simp [Act.eval, Act.put]) HN.out hsrc.out s2.out (by omega) s3.out ?_; rw [hW.out])
 go_wp2
 go_ret
 exact ⟨by rw [← HNE.out]; rfl, HL.out.1, HL.out.2⟩
set_option maxHeartbeats 1600000 in
set_option maxRecDepth 100000 in
theorem rput_old_S (w : World) (q o : Nat) (cs : Array Value) (T : TypeId) (A : Option Addr) (n c : Nat) (ps : List (ByteArray × Value)) (hb : w.heap[q]? = some (.cells cs T (0, 0))) (hco : cs[o]? = some (.slice A n c)) (hap : q ∉ blk A) (h : RowG encS ltS w A n c ps) (k : ByteArray) (p : Option Addr) (hn : n ≤ 100000) (hin : hasP ltS ps k = true) :
 Calls Tryz.prog 72 #[.pointer (some ⟨q, o, none⟩), .string k, (.pointer p)] w fun e w' => e = .returned (.bool false) ∧ RowTo encS ltS w q o cs T A (putP ltS ps k (.pointer p)) w' := by
 have hcell : w.cell? ⟨q, o, none⟩ = some (.slice A n c) := by rw [cell_of_row w q o _ _ (0, 0) hb]; exact hco
 have hq := lt_of_block hb
 have HF := Lib.hid (rfind_S w q o A n c ps ⟨hcell, h⟩ k (by omega))
 have HG := Lib.hid h
 have HBL := Lib.hid hb
 have HCO := Lib.hid hco
 have HIN := Lib.hid hin
 clear h hb hco hin
 go_enter Tryz.func72, Tryz.ntmps72
 go_wp2_with fail
 refine HF.out.mono ?_
 rintro e w1 ⟨⟨i, hs, rfl⟩, hbl⟩
 rcases any_there orders_S hs with ⟨ht, u, hu⟩ | ⟨ht, hn'⟩
 · have HG1 := Lib.hid (HG.out.below hbl)
   have hil := (List.getElem?_eq_some_iff.1 hu).1
   have hl := HG.out.len
   obtain ⟨g, off, rfl, hg, hcs, hfr⟩ := HG1.out.at (by omega)
   have hc1 := (hbl.cell (p := ⟨q, o, none⟩) hq).trans hcell
   have hnc := HG.out.line.2.1
   have hc63 : c ≤ 9223372036854775807 := by have := HG.out.line.2.2.1; unfold maxLen at this; omega
   have hcv := (hcs i _ hu).2
   have hfv := (hfr (i * 2 + 1) (by omega)).2
   rw [← Nat.add_assoc] at hfv
   simp only at hcv
   rw [ht]
   have hin : i < n := by omega
   have HS := Lib.hid hs
   have HU := Lib.hid hu
   have HB := Lib.hid hbl
   have HAP := Lib.hid hap
   clear hs hu hbl hcs hfr ht hl hil hap
   go_wp2
   go_ret
   refine ⟨rfl, some ⟨g, off, none⟩, n, c, ?_, ?_, ?_, fun k hk => .inl hk⟩
   · rw [set_same HCO.out]
     exact ((heap_setCell_other _ ⟨g, off + i * 2 + 1, none⟩ q _ (fun e => HAP.out (mem_blk.2 ⟨_, rfl, e.symm⟩))).trans (HB.out.block q hq)).trans HBL.out
   · have hset := HG1.out.line.set (i * 2 + 1) [(.pointer p)] (by simp; omega)
     rw [setCells_one, ← Nat.add_assoc] at hset
     rw [HS.out.put_old orders_S HG.out.rises HU.out (.pointer p)]
     refine ⟨by rw [cellsP_set encS ps i k u (.pointer p) HU.out]; exact hset, ?_, ?_⟩
     · rw [← HS.out.put_old orders_S HG.out.rises HU.out (.pointer p)]
       exact rises_put orders_S HG.out.rises (.pointer p)
     · intro p hp
       rcases List.mem_or_eq_of_mem_set hp with h1 | h1
       · exact HG.out.one p h1
       · rw [h1]; rfl
   · exact ((Chg.of_below HB.out).setCell g _ _ (.inl (List.mem_cons_of_mem _ (mem_blk.2 ⟨_, rfl, rfl⟩))))
 · have := hs.look_new orders_S HG.out.rises hn'
   have h1 := HIN.out
   unfold hasP at h1
   rw [this] at h1
   cases h1
set_option maxHeartbeats 1600000 in
set_option maxRecDepth 100000 in
theorem rput_new_S (w : World) (q o : Nat) (cs : Array Value) (T : TypeId) (A : Option Addr) (n c : Nat) (ps : List (ByteArray × Value)) (hb : w.heap[q]? = some (.cells cs T (0, 0))) (hco : cs[o]? = some (.slice A n c)) (hap : q ∉ blk A) (h : RowG encS ltS w A n c ps) (k : ByteArray) (p : Option Addr) (hn : n ≤ 100000) (hno : hasP ltS ps k = false) :
 Calls Tryz.prog 72 #[.pointer (some ⟨q, o, none⟩), .string k, (.pointer p)] w fun e w' => e = .returned (.bool true) ∧ RowTo encS ltS w q o cs T A (putP ltS ps k (.pointer p)) w' := by
 have hcell : w.cell? ⟨q, o, none⟩ = some (.slice A n c) := by rw [cell_of_row w q o _ _ (0, 0) hb]; exact hco
 have hq := lt_of_block hb
 have HF := Lib.hid (rfind_S w q o A n c ps ⟨hcell, h⟩ k (by omega))
 have HG := Lib.hid h
 have HBL := Lib.hid hb
 have HNO := Lib.hid hno
 clear h hb hco hno
 go_enter Tryz.func72, Tryz.ntmps72
 go_wp2_with fail
 refine HF.out.mono ?_
 rintro e w1 ⟨⟨i, hs, rfl⟩, hbl⟩
 rcases any_there orders_S hs with ⟨ht, u, hu⟩ | ⟨ht, hn'⟩
 · have := hs.look_old orders_S hu
   have h1 := HNO.out
   unfold hasP at h1
   rw [this] at h1
   cases h1
 · have hl := HG.out.len
   have hG1 := HG.out.below hbl
   have hc1 := (hbl.cell (p := ⟨q, o, none⟩) hq).trans hcell
   have hbl2 := (hbl.block q hq).trans HBL.out
   have hin : i ≤ n := by have := hs.1; omega
   have hA : w1.heap.size ∉ blk A := fun hm => by have := hG1.lt' _ hm; omega
   obtain ⟨W, hW⟩ : ∃ W, w1.alloc (.cells #[.string k, (.pointer p)] 137) = W := ⟨_, rfl⟩
   have hBW : Below w1.heap.size w1 W := by rw [← hW]; exact (Below.refl _ w1).alloc (Nat.le_refl _) _
   have hOne : OneS W w1.heap.size (.string k) (.pointer p) := ⟨by rw [← hW]; exact heap_alloc_new w1 _, rfl, rfl⟩
   have HINS := Lib.hid (insert_S W A n c _ (hG1.line.below hBW) hn i hin (cellsP_one encS one_encS ps HG.out.one) w1.heap.size _ _ hOne hA)
   have HPOST : Hid (∀ e w2, InsToS W A n ((cellsP encS ps).take (i * 2) ++ [.string k, (.pointer p)] ++ (cellsP encS ps).drop (i * 2)) e w2 → ∃ A' c', e = .returned (.slice A' (n + 1) c') ∧ w2.cell? ⟨q, o, none⟩ = some (.slice A n c) ∧ w2.frozen? ⟨q, o, none⟩ = false ∧ RowTo encS ltS w q o cs T A (putP ltS ps k (.pointer p)) (w2.setCell ⟨q, o, none⟩ (.slice A' (n + 1) c'))) := Lib.hid (by
    rintro e w2 ⟨A', c', rfl, hl2, hc2, hf2⟩
    have hqW : q < W.heap.size := Nat.lt_of_lt_of_le (Nat.lt_of_lt_of_le hq hbl.size) hBW.size
    have hqb : w2.heap[q]? = some (.cells cs T (0, 0)) := ((hc2.same q hqW hap).trans (hBW.block q (Nat.lt_of_lt_of_le hq hbl.size))).trans hbl2
    have hap' : q ∉ blk A' := fun hm => by rcases hf2 q hm with h1 | h1; exact hap h1; omega
    refine ⟨A', c', rfl, ?_, frozen_of_row w2 q o _ _ hqb, A', n + 1, c', heap_setCell_same w2 q o cs T _ hqb, ?_, ?_, fun j hj => ?_⟩
    · rw [cell_of_row w2 q o _ _ (0, 0) hqb, ← cell_of_row w1 q o _ _ (0, 0) hbl2]
      exact hc1
    · refine ⟨?_, rises_put orders_S HG.out.rises (.pointer p), fun p hp => ?_⟩
      · have := hl2.same (w' := w2.setCell ⟨q, o, none⟩ (.slice A' (n + 1) c')) (by simp [World.setCell]) (fun j hj => heap_setCell_other w2 ⟨q, o, none⟩ j _ (fun e => hap' (by have e' : j = q := e; rw [← e']; exact hj)))
        rw [hs.put_new orders_S HG.out.rises hn' (.pointer p), cellsP_append, (cellsP_split encS ps i (by omega)).1]
        have e1 : cellsP encS ((k, (.pointer p)) :: ps.drop i) = [.string k, (.pointer p)] ++ (cellsP encS ps).drop (i * 2) := by
         rw [← (cellsP_split encS ps i (by omega)).2]
         rfl
        rw [e1, ← List.append_assoc]
        exact this
      · rcases (mem_putP orders_S).1 hp with rfl | ⟨h1, _⟩
        · rfl
        · exact HG.out.one p h1
    · exact (((Chg.of_below hbl).trans (Chg.of_below (hBW))).trans (hc2.weaken (fun j hj => .inl (List.mem_cons_of_mem _ hj)))).setCell q o _ (.inl (List.mem_cons_self ..))
    · rcases hf2 j hj with h1 | h1
      · exact .inl h1
      · exact .inr (Nat.le_trans hbl.size (Nat.le_trans hBW.size h1)))
   rw [ht]
   clear hs hbl hbl2 ht hn' hBW hOne hG1 hap hA hl
   go_wp2_with fail
   refine HINS.out.mono ?_
   intro e w2 hi2
   obtain ⟨A', c', rfl, hcq, hfq, hT⟩ := HPOST.out e w2 hi2
   have HT := Lib.hid hT
   clear hi2 hT HINS HPOST
   go_wp2
   go_ret
   exact ⟨rfl, HT.out⟩
theorem rput_S (w : World) (q o : Nat) (cs : Array Value) (T : TypeId) (A : Option Addr) (n c : Nat) (ps : List (ByteArray × Value)) (hb : w.heap[q]? = some (.cells cs T (0, 0))) (hco : cs[o]? = some (.slice A n c)) (hap : q ∉ blk A) (h : RowG encS ltS w A n c ps) (k : ByteArray) (p : Option Addr) (hn : n ≤ 100000) :
 Calls Tryz.prog 72 #[.pointer (some ⟨q, o, none⟩), .string k, (.pointer p)] w fun e w' => e = .returned (.bool (!hasP ltS ps k)) ∧ RowTo encS ltS w q o cs T A (putP ltS ps k (.pointer p)) w' := by
 cases e : hasP ltS ps k with
 | true => exact rput_old_S w q o cs T A n c ps hb hco hap h k p hn e
 | false => exact rput_new_S w q o cs T A n c ps hb hco hap h k p hn e
set_option maxHeartbeats 1600000 in
set_option maxRecDepth 100000 in
theorem rdrop_S (w : World) (q o : Nat) (cs : Array Value) (T : TypeId) (A : Option Addr) (n c : Nat) (ps : List (ByteArray × Value)) (hb : w.heap[q]? = some (.cells cs T (0, 0))) (hco : cs[o]? = some (.slice A n c)) (hap : q ∉ blk A) (h : RowG encS ltS w A n c ps) (k : ByteArray) (hn : n ≤ 100000) :
 Calls Tryz.prog 92 #[.pointer (some ⟨q, o, none⟩), .string k] w fun e w' => e = .returned (.bool (hasP ltS ps k)) ∧ RowTo encS ltS w q o cs T A (dropP ltS ps k) w' := by
 have hcell : w.cell? ⟨q, o, none⟩ = some (.slice A n c) := by rw [cell_of_row w q o _ _ (0, 0) hb]; exact hco
 have hq := lt_of_block hb
 have HF := Lib.hid (rfind_S w q o A n c ps ⟨hcell, h⟩ k (by omega))
 have HG := Lib.hid h
 have HBL := Lib.hid hb
 have HCO := Lib.hid hco
 clear h hb hco
 go_enter Tryz.func92, Tryz.ntmps92
 go_wp2_with fail
 refine HF.out.mono ?_
 rintro e w1 ⟨⟨i, hs, rfl⟩, hbl⟩
 have hl := HG.out.len
 have hG1 := HG.out.below hbl
 have hc1 := (hbl.cell (p := ⟨q, o, none⟩) hq).trans hcell
 have hbl2 := (hbl.block q hq).trans HBL.out
 rcases any_there orders_S hs with ⟨ht, u, hu⟩ | ⟨ht, hn'⟩
 · have hil := (List.getElem?_eq_some_iff.1 hu).1
   obtain ⟨g, off, rfl, hg, hcs, hfr⟩ := hG1.at (by omega)
   have HDEL := Lib.hid (delete_S w1 g off n c _ hG1.line (by omega) i (by omega) (cellsP_one encS one_encS ps HG.out.one))
   have HPOST : Hid (∀ w2, SLine 2 w2 (some ⟨g, off, none⟩) (n - 1) c ((cellsP encS ps).take (i * 2) ++ (cellsP encS ps).drop (i * 2 + 2)) → Chg [g] w1 w2 → w2.cell? ⟨q, o, none⟩ = some (.slice (some ⟨g, off, none⟩) n c) ∧ w2.frozen? ⟨q, o, none⟩ = false ∧ RowTo encS ltS w q o cs T (some ⟨g, off, none⟩) (dropP ltS ps k) (w2.setCell ⟨q, o, none⟩ (.slice (some ⟨g, off, none⟩) (n - 1) c))) := Lib.hid (by
    intro w2 hl2 hc2
    have hqg : q ≠ g := fun e => hap (mem_blk.2 ⟨_, rfl, e.symm⟩)
    have hqb : w2.heap[q]? = some (.cells cs T (0, 0)) := (hc2.same q (Nat.lt_of_lt_of_le hq hbl.size) (by simp [hqg])).trans hbl2
    refine ⟨?_, frozen_of_row w2 q o _ _ hqb, _, n - 1, c, heap_setCell_same w2 q o cs T _ hqb, ?_, ?_, fun j hj => .inl hj⟩
    · rw [cell_of_row w2 q o _ _ (0, 0) hqb, ← cell_of_row w1 q o _ _ (0, 0) hbl2]
      exact hc1
    · refine ⟨?_, rises_drop orders_S HG.out.rises, fun p hp => HG.out.one p ((mem_dropP orders_S).1 hp).1⟩
      have := hl2.same (w' := w2.setCell ⟨q, o, none⟩ (.slice (some ⟨g, off, none⟩) (n - 1) c)) (by simp [World.setCell]) (fun j hj => heap_setCell_other w2 ⟨q, o, none⟩ j _ (fun e => hap (by have e' : j = q := e; rw [← e']; exact hj)))
      rw [hs.drop_old orders_S HG.out.rises hu, cellsP_append, (cellsP_split encS ps i (by omega)).1, (cellsP_split encS ps (i + 1) (by omega)).2, show (i + 1) * 2 = i * 2 + 2 from by omega]
      exact this
    · exact ((Chg.of_below hbl).trans (hc2.weaken (fun j hj => .inl (by simp only [List.mem_singleton] at hj; subst hj; exact List.mem_cons_of_mem _ (mem_blk.2 ⟨_, rfl, rfl⟩))))).setCell q o _ (.inl (List.mem_cons_self ..)))
   have hhas : hasP ltS ps k = true := by unfold hasP; rw [hs.look_old orders_S hu]; rfl
   rw [ht]
   have HHAS := Lib.hid hhas
   have hin : i < n := by omega
   clear hs hbl hbl2 ht hG1 hap hl hcs hfr hil hu hhas
   go_wp2_with fail
   refine HDEL.out.mono ?_
   rintro e w2 ⟨rfl, hl2, hc2⟩
   obtain ⟨hcq, hfq, hT⟩ := HPOST.out w2 hl2 hc2
   have HT := Lib.hid hT
   clear hl2 hc2 hT HDEL HPOST
   go_wp2
   go_ret
   exact ⟨ret_bool HHAS.out.symm, HT.out⟩
 · have hhas : hasP ltS ps k = false := by unfold hasP; rw [hs.look_new orders_S HG.out.rises hn']; rfl
   have hT : RowTo encS ltS w q o cs T A (dropP ltS ps k) w1 := by
    refine ⟨A, n, c, ?_, by rw [hs.drop_new orders_S HG.out.rises hn']; exact hG1, Chg.of_below hbl, fun j hj => .inl hj⟩
    rw [hbl2, set_same HCO.out]
   rw [ht]
   have HHAS := Lib.hid hhas
   have HT := Lib.hid hT
   clear hs hbl hbl2 ht hG1 hap hl hn' hhas hT
   go_wp2
   go_ret
   exact ⟨ret_bool HHAS.out.symm, HT.out⟩
def layOne (ps : List (ByteArray × Value)) (p : ByteArray × Value) : List (ByteArray × Value) := match p.2 with | .pointer none => dropP ltS ps p.1 | v => putP ltS ps p.1 v
def layP (ps chs : List (ByteArray × Value)) : List (ByteArray × Value) := chs.foldl layOne ps
theorem layP_snoc (ps chs : List (ByteArray × Value)) (p : ByteArray × Value) : layP ps (chs ++ [p]) = layOne (layP ps chs) p := by unfold layP; rw [List.foldl_append]; rfl
theorem putP_length (ps : List (ByteArray × Value)) (hr : Rises ltS ps) (k : ByteArray) (v : Value) : (putP ltS ps k v).length ≤ ps.length + 1 := by
 unfold putP
 rw [List.length_append, List.length_cons]
 have h1 : ∀ l : List (ByteArray × Value), (l.filter (fun p => ltS p.1 k)).length + (l.filter (fun p => ltS k p.1)).length ≤ l.length := by
  intro l
  induction l with
  | nil => simp
  | cons a l ih =>
   simp only [List.filter_cons, List.length_cons]
   cases h2 : ltS a.1 k with
   | true =>
    rw [orders_S.asym h2]
    simp
    omega
   | false =>
    cases h3 : ltS k a.1 <;> simp <;> omega
 have := h1 ps
 omega
theorem dropP_length (ps : List (ByteArray × Value)) (k : ByteArray) : (dropP ltS ps k).length ≤ ps.length := by
 unfold dropP
 rw [List.length_append]
 have h1 : ∀ l : List (ByteArray × Value), (l.filter (fun p => ltS p.1 k)).length + (l.filter (fun p => ltS k p.1)).length ≤ l.length := by
  intro l
  induction l with
  | nil => simp
  | cons a l ih =>
   simp only [List.filter_cons, List.length_cons]
   cases h2 : ltS a.1 k with
   | true =>
    rw [orders_S.asym h2]
    simp
    omega
   | false =>
    cases h3 : ltS k a.1 <;> simp <;> omega
 exact h1 ps
theorem setCell_id {w : World} {b i : Nat} {cs : Array Value} {T : TypeId} {v : Value} (h : w.heap[b]? = some (.cells cs T (0, 0))) (hv : cs[i]? = some v) : w.setCell ⟨b, i, none⟩ v = w := by
 have e : (w.setCell ⟨b, i, none⟩ v).heap = w.heap := by
  apply Array.ext_getElem?
  intro j
  by_cases hj : j = b
  · subst hj
    rw [heap_setCell_same w j i cs T v h, set_same hv, h]
  · exact heap_setCell_other w ⟨b, i, none⟩ j v hj
 unfold World.setCell at e ⊢
 simp only at e
 rw [e]
theorem RowTo.next {w w1 w2 : World} {q o : Nat} {cs : Array Value} {T : TypeId} {A A1 : Option Addr} {n1 c1 : Nat} {ps : List (ByteArray × Value)} (hC : Chg (q :: blk A) w w1) (hF : ∀ k ∈ blk A1, k ∈ blk A ∨ w.heap.size ≤ k)
 (h : RowTo encS ltS w1 q o (cs.setIfInBounds o (.slice A1 n1 c1)) T A1 ps w2) : RowTo encS ltS w q o cs T A ps w2 := by
 obtain ⟨A2, n2, c2, hb, hR, hC2, hF2⟩ := h
 refine ⟨A2, n2, c2, ?_, hR, hC.andThen hC2 (fun k hk => ?_), fun k hk => ?_⟩
 · rw [hb]
   congr 2
   apply Array.ext_getElem?
   intro i
   simp only [Array.getElem?_setIfInBounds, Array.size_setIfInBounds]
   split <;> rfl
 · rcases List.mem_cons.1 hk with rfl | hk
   · exact .inl (List.mem_cons_self ..)
   · rcases hF k hk with h1 | h1
     · exact .inl (List.mem_cons_of_mem _ h1)
     · exact .inr h1
 · rcases hF2 k hk with h1 | h1
   · exact hF k h1
   · exact .inr (Nat.le_trans hC.size h1)
set_option maxHeartbeats 3200000 in
theorem lay_any (w : World) (q o : Nat) (cs : Array Value) (T : TypeId) (A : Option Addr) (n c : Nat) (ps : List (ByteArray × Value)) (hb : w.heap[q]? = some (.cells cs T (0, 0))) (hco : cs[o]? = some (.slice A n c)) (hap : q ∉ blk A) (h : RowG encS ltS w A n c ps)
 (P : Option Addr) (m mc : Nat) (chs : List (ByteArray × Value)) (hP : SLine 2 w P m mc (cellsP encS chs)) (hsh : ∀ p ∈ chs, ∃ a : Option Addr, p.2 = .pointer a) (hPq : q ∉ blk P) (hPA : ∀ k ∈ blk P, k ∉ blk A) (hn : n + m ≤ 100000) :
 Calls Tryz.prog 69 #[.pointer (some ⟨q, o, none⟩), .slice P m mc] w fun e w' => (∃ v, e = .returned v) ∧ RowTo encS ltS w q o cs T A (layP ps chs) w' := by
 have hol : o < cs.size := (Array.getElem?_eq_some_iff.1 hco).1
 have hql := lt_of_block hb
 have hcl : chs.length = m := by have := hP.1; rw [cellsP_length] at this; omega
 have hT0 : RowTo encS ltS w q o cs T A ps w := ⟨A, n, c, by rw [set_same hco]; exact hb, h, Chg.refl _ _, fun k hk => .inl hk⟩
 have hpl := h.len
 have HT0 := Lib.hid hT0
 have HP := Lib.hid hP
 have HSH := Lib.hid hsh
 have HPQ := Lib.hid hPq
 have HPA := Lib.hid hPA
 have HPL : Hid (∀ k ∈ blk P, k < w.heap.size) := Lib.hid hP.lt
 have HAP := Lib.hid hap
 have HAL : Hid (∀ k ∈ blk A, k < w.heap.size) := Lib.hid h.lt'
 have HR0 := Lib.hid h.rises
 have HCL := Lib.hid hcl
 have HOL := Lib.hid hol
 clear hb hco hap h hP hsh hPq hPA hcl hT0 hol
 go_enter Tryz.func69, Tryz.ntmps69
 go_wp2
 go_loopw [8] (fun i wr => ∃ k : Nat, k ≤ m ∧ i = .int .i64 k ∧ Hid (RowTo encS ltS w q o cs T A (layP ps (chs.take k)) wr ∧ Rises ltS (layP ps (chs.take k)) ∧ (layP ps (chs.take k)).length ≤ n + k)) (fun i _ => m - (intOf i).toNat)
 case atStart => exact ⟨0, by omega, rfl, Lib.hid ⟨HT0.out, HR0.out, by simp only [List.take_zero]; unfold layP; simp only [List.foldl_nil]; omega⟩⟩
 case round =>
  obtain ⟨k, hk, rfl, HI⟩ := hrel
  rcases Nat.lt_or_ge k m with hkm | hkm
  · obtain ⟨hT, hrise, hlen⟩ := HI.out
    obtain ⟨A1, n1, c1, hb1, hR1, hC1, hF1⟩ := hT
    have hn1 : n1 ≤ 100000 := by have := hR1.len; omega
    obtain ⟨p, hp⟩ : ∃ p, chs[k]? = some p := ⟨_, List.getElem?_eq_getElem (by rw [HCL.out]; exact hkm)⟩
    obtain ⟨a, ha⟩ := HSH.out p (List.mem_of_getElem? hp)
    obtain ⟨nm, v⟩ := p
    simp only at ha
    subst ha
    have hPr : SLine 2 wr P m mc (cellsP encS chs) := HP.out.chg hC1 (fun j hj hm => by
     rcases List.mem_cons.1 hm with rfl | hm
     · exact HPQ.out hj
     · exact HPA.out j hj hm)
    obtain ⟨g, off, rfl, hg, hcs, _⟩ := hPr.at (by omega)
    obtain ⟨x1, x2⟩ := cellsP_at encS chs k _ hp
    have d0 : wr.cell? ⟨g, off + k * 2, none⟩ = some (.string nm) := (hcs (k * 2) (by omega)).trans x1
    have d1 : wr.cell? ⟨g, off + k * 2 + 1, none⟩ = some (.pointer a) := by rw [Nat.add_assoc]; exact (hcs (k * 2 + 1) (by omega)).trans x2
    have HTK : Hid (chs.take (k + 1) = chs.take k ++ [(nm, .pointer a)]) := Lib.hid (by rw [List.take_add_one, hp]; rfl)
    -- the pair's own variable
    obtain ⟨Wa, hWa⟩ : ∃ Wa, wr.alloc (.cells #[.string nm, .pointer a] 109) = Wa := ⟨_, rfl⟩
    have hbW : Below wr.heap.size wr Wa := by rw [← hWa]; exact (Below.refl _ wr).alloc (Nat.le_refl _) _
    have hva : Wa.heap[wr.heap.size]? = some (.cells #[.string nm, .pointer a] 109 (0, 0)) := by rw [← hWa]; exact heap_alloc_new wr _
    obtain ⟨va, hvae⟩ : ∃ va, wr.heap.size = va := ⟨_, rfl⟩
    rw [hvae] at hva
    have e0 : Wa.cell? ⟨va, 0, none⟩ = some (.string nm) := by rw [cell_of_row _ va 0 _ _ (0, 0) hva]; rfl
    have e1 : Wa.cell? ⟨va, 1, none⟩ = some (.pointer a) := by rw [cell_of_row _ va 1 _ _ (0, 0) hva]; rfl
    have HVA := Lib.hid hva
    have hq1 : q < wr.heap.size := Nat.lt_of_lt_of_le hql hC1.size
    have hbq : Wa.heap[q]? = some (.cells (cs.setIfInBounds o (.slice A1 n1 c1)) T (0, 0)) := (hbW.block q hq1).trans hb1
    have hco1 : (cs.setIfInBounds o (.slice A1 n1 c1))[o]? = some (.slice A1 n1 c1) := by simp [HOL.out]
    have hap1 : q ∉ blk A1 := fun hm => by rcases hF1 q hm with h1 | h1; exact HAP.out h1; omega
    have HC2 := Lib.hid (hC1.trans (Chg.of_below (l := q :: blk A) hbW))
    have HF1 := Lib.hid hF1
    have HRISE := Lib.hid hrise
    have HLEN := Lib.hid hlen
    have HPUT := Lib.hid (rput_S Wa q o _ T A1 n1 c1 _ hbq hco1 hap1 (hR1.below hbW) nm a hn1)
    have HDROP := Lib.hid (rdrop_S Wa q o _ T A1 n1 c1 _ hbq hco1 hap1 (hR1.below hbW) nm hn1)
    have hkm' : (k : Int) < (m : Int) := by omega
    clear hb1 hR1 hC1 hF1 hp hPr hcs x1 x2 hva hbq hco1 hap1 hrise hlen HI hbW
    cases a with
    | none =>
     have HL : Hid (layP ps (chs.take (k + 1)) = dropP ltS (layP ps (chs.take k)) nm) := Lib.hid (by rw [HTK.out, layP_snoc]; rfl)
     have hid : Wa.setCell ⟨va, 1, none⟩ (.pointer none) = Wa := setCell_id HVA.out rfl
     have x0 : Wa.frozen? ⟨va, 0, none⟩ = false := frozen_of_row Wa va 0 _ _ HVA.out
     have x1 : Wa.frozen? ⟨va, 1, none⟩ = false := frozen_of_row Wa va 1 _ _ HVA.out
     clear HPUT
     go_wp2_with (go_at_call 92; refine HDROP.out.mono ?_; rintro e w2 ⟨rfl, hT2⟩; have HT2 := Lib.hid (RowTo.next HC2.out HF1.out hT2); clear hT2)
     go_roundw
     case rel => exact ⟨k + 1, by omega, by go_num, Lib.hid (by rw [HL.out]; exact ⟨HT2.out, rises_drop orders_S HRISE.out, by have := dropP_length (layP ps (chs.take k)) nm; have := HLEN.out; omega⟩)⟩
     case measure => simp [intOf]; omega
    | some a =>
     have HL : Hid (layP ps (chs.take (k + 1)) = putP ltS (layP ps (chs.take k)) nm (.pointer (some a))) := Lib.hid (by rw [HTK.out, layP_snoc]; rfl)
     clear HDROP
     go_wp2_with (go_at_call 72; refine HPUT.out.mono ?_; rintro e w2 ⟨rfl, hT2⟩; have HT2 := Lib.hid (RowTo.next HC2.out HF1.out hT2); clear hT2)
     go_roundw
     case rel => exact ⟨k + 1, by omega, by go_num, Lib.hid (by rw [HL.out]; exact ⟨HT2.out, rises_put orders_S HRISE.out _, by have := putP_length (layP ps (chs.take k)) HRISE.out nm (.pointer (some a)); have := HLEN.out; omega⟩)⟩
     case measure => simp [intOf]; omega
  · obtain rfl : k = m := by omega
    have HX : Hid (RowTo encS ltS w q o cs T A (layP ps chs) wr) := Lib.hid (by
     have h1 := HI.out.1
     rw [List.take_of_length_le (by rw [HCL.out]; exact Nat.le_refl _)] at h1
     exact h1)
    clear HI
    go_wp2
    go_end0
    exact ⟨⟨_, rfl⟩, HX.out⟩
theorem infoChange : (Tryz.prog.info? 97).map (fun i => (i.zero, i.size, i.bytes)) = some (some (.slice none 0 0), 1, 24) := by kernel_rfl
theorem changes_push (w : World) (ty : TypeId) (C : Option Addr) (n c : Nat) (xs : List Value) (h : SLine 1 w C n c xs) (hn : n ≤ 100000) (P : Option Addr) (m mc : Nat) :
 ∃ C' c' w', (Builtin.append_ #[71, 71] ty #[.slice C n c, .slice (some ⟨w.heap.size, 0, none⟩) 1 1]).run Tryz.prog (w.alloc (.cells #[.slice P m mc] 97)) = .ok (.slice C' (n + 1) c') w' ∧ SLine 1 w' C' (n + 1) c' (xs ++ [.slice P m mc]) ∧ Chg (blk C) w w' ∧ ∀ k ∈ blk C', k ∈ blk C ∨ w.heap.size ≤ k := by
 have hb : Below w.heap.size w (w.alloc (.cells #[.slice P m mc] 97)) := (Below.refl _ w).alloc (Nat.le_refl _) _
 have hs : (w.alloc (.cells #[.slice P m mc] 97)).heap.size = w.heap.size + 1 := by simp
 have hsrc : Src Tryz.prog 1 71 (.slice (some ⟨w.heap.size, 0, none⟩) 1 1) 1 [.slice P m mc] (w.alloc (.cells #[.slice P m mc] 97)) := Src.ofSlice _ Tryz.underlying71 ⟨w.heap.size, 0, none⟩ 1 1 [.slice P m mc] rfl (new_one w _ _) (fun u hu => by simp only [List.mem_singleton] at hu; subst hu; rfl)
 obtain ⟨C', c', w', hr, hl, hc, hf, _⟩ := sline_append 1 (w.alloc (.cells #[.slice P m mc] 97)) 71 97 ty _ 24 Tryz.underlying71 infoChange rfl (by decide) C n c xs (h.below hb) (by omega) _ 1 (by omega) (fun _ => by omega) _ hsrc
 exact ⟨C', c', w', hr, hl, (Chg.of_below hb).trans hc, fun k hk => by
  rcases hf k hk with h1 | h1
  · exact .inl h1
  · exact .inr (by omega)⟩
def Turns (w : World) (d : Nat) (b : DBox) (A C : Option Addr) (cn : Nat) (ps : List (ByteArray × Value)) (css : List Value) (w' : World) : Prop :=
 ∃ A' n' c' C' cc', DBoxAt w' d { b with now := .slice A' n' c', changes := .slice C' (cn + 1) cc' } ∧ RowG encS ltS w' A' n' c' ps ∧ SLine 1 w' C' (cn + 1) cc' css ∧ Chg (d :: (blk A ++ blk C)) w w' ∧
  (∀ k ∈ blk A', k ∈ blk A ∨ w.heap.size ≤ k) ∧ (∀ k ∈ blk C', k ∈ blk C ∨ w.heap.size ≤ k) ∧ ∀ k ∈ blk C', k ∉ blk A'
set_option maxHeartbeats 1600000 in
theorem turnNames_any (w : World) (d : Nat) (b : DBox) (hD : DBoxAt w d b) (A : Option Addr) (n c : Nat) (hnow : b.now = .slice A n c) (ps : List (ByteArray × Value)) (h : RowG encS ltS w A n c ps) (C : Option Addr) (cn cc : Nat) (hchs : b.changes = .slice C cn cc) (css : List Value) (hC : SLine 1 w C cn cc css)
 (P : Option Addr) (m mc : Nat) (chs : List (ByteArray × Value)) (hP : SLine 2 w P m mc (cellsP encS chs)) (hsh : ∀ p ∈ chs, ∃ a : Option Addr, p.2 = .pointer a) (hdA : d ∉ blk A) (hdC : d ∉ blk C) (hdP : d ∉ blk P) (hPA : ∀ k ∈ blk P, k ∉ blk A) (hCA : ∀ k ∈ blk C, k ∉ blk A) (hn : n + m ≤ 100000) (hcn : cn ≤ 100000) :
 Calls Tryz.prog 49 #[.pointer (some ⟨d, 0, none⟩), .slice P m mc] w fun e w' => (∃ v, e = .returned v) ∧ Turns w d b A C cn (layP ps chs) (css ++ [.slice P m mc]) w' := by
 have HL := Lib.hid (lay_any w d 2 b.cells 73 A n c ps hD (by show some b.now = _; rw [hnow]) hdA h P m mc chs hP hsh hdP hPA hn)
 have hdl := hD.lt
 have hCl : ∀ k ∈ blk C, k < w.heap.size := hC.lt
 have HX := Lib.hid (And.intro hC (And.intro hdC (And.intro hCA hCl)))
 have HDA := Lib.hid hdA
 clear hP hsh hdP hPA hn h hC hdC hCA hCl hdA
 obtain ⟨files, made, now, sure, changes, quota, full, ahead, off, calls⟩ := b
 simp only at hnow hchs
 subst hnow hchs
 clear hD
 go_enter Tryz.func49, Tryz.ntmps49
 go_wp2_with fail
 refine HL.out.mono ?_
 rintro e w1 ⟨⟨v, rfl⟩, A1, n1, c1, hb1, hR1, hC1, hF1⟩
 have hD1 : DBoxAt w1 d ⟨files, made, .slice A1 n1 c1, sure, .slice C cn cc, quota, full, ahead, off, calls⟩ := hb1
 have hap1 : ∀ k ∈ blk C, k ∉ d :: blk A := fun k hk hm => by
  rcases List.mem_cons.1 hm with rfl | hm
  · exact HX.out.2.1 hk
  · exact HX.out.2.2.1 k hk hm
 have hL1 : SLine 1 w1 C cn cc css := HX.out.1.chg hC1 hap1
 obtain ⟨C2, c2, w2, hr, hL2, hC2, hF2⟩ := changes_push w1 71 C cn cc css hL1 hcn P m mc
 have hD2 : DBoxAt w2 d ⟨files, made, .slice A1 n1 c1, sure, .slice C cn cc, quota, full, ahead, off, calls⟩ := hD1.chg hC2 HX.out.2.1
 have hz1 := hC1.size
 have hz2 := hC2.size
 have hA1l : ∀ k ∈ blk A1, k < w1.heap.size := hR1.lt'
 have hdA1 : d ∉ blk A1 := fun hm => by rcases hF1 d hm with h1 | h1; exact HDA.out h1; omega
 have hdC2 : d ∉ blk C2 := fun hm => by rcases hF2 d hm with h1 | h1; exact HX.out.2.1 h1; omega
 have hCA1 : ∀ k ∈ blk C, k ∉ blk A1 := fun k hk hm => by
  have := HX.out.2.2.2 k hk
  rcases hF1 k hm with h1 | h1
  · exact HX.out.2.2.1 k hk h1
  · omega
 have hCA2 : ∀ k ∈ blk C2, k ∉ blk A1 := fun k hk hm => by
  rcases hF2 k hk with h1 | h1
  · exact hCA1 k h1 hm
  · have := hA1l k hm; omega
 have hcs : Chg [d] w2 (w2.setCell ⟨d, 4, none⟩ (.slice C2 (cn + 1) c2)) := (Chg.refl _ w2).setCell d 4 _ (.inl (by simp))
 have hfin : Turns w d ⟨files, made, .slice A n c, sure, .slice C cn cc, quota, full, ahead, off, calls⟩ A C cn (layP ps chs) (css ++ [.slice P m mc]) (w2.setCell ⟨d, 4, none⟩ (.slice C2 (cn + 1) c2)) := by
  refine ⟨A1, n1, c1, C2, c2, hD2.set 4 _ _ rfl, (hR1.chg hC2 (fun k hk hm => hCA1 k hm hk)).chg hcs (fun k hk hm => hdA1 (by rw [List.mem_singleton] at hm; rw [← hm]; exact hk)), hL2.chg hcs (fun k hk hm => hdC2 (by rw [List.mem_singleton] at hm; rw [← hm]; exact hk)), ?_, hF1, fun k hk => ?_, hCA2⟩
  · refine (hC1.weaken (fun k hk => .inl ?_)).andThen ((hC2.weaken (l' := d :: (blk A ++ blk C)) (fun k hk => .inl ?_)).andThen hcs (fun k hk => .inl ?_)) (fun k hk => .inl hk)
    · rcases List.mem_cons.1 hk with rfl | hk
      · exact List.mem_cons_self ..
      · exact List.mem_cons_of_mem _ (List.mem_append_left _ hk)
    · exact List.mem_cons_of_mem _ (List.mem_append_right _ hk)
    · rw [List.mem_singleton] at hk
      rw [hk]
      exact List.mem_cons_self ..
  · rcases hF2 k hk with h1 | h1
    · exact .inl h1
    · exact .inr (by omega)
 have y0 := hD1.cell 4 _ rfl
 have y1 := hD2.cell 4 _ rfl
 have y2 := hD2.free 4
 have HFIN := Lib.hid hfin
 have HR := Lib.hid hr
 clear hfin hr hb1 hR1 hC1 hF1 hD1 hap1 hL1 hL2 hC2 hF2 hD2 hz1 hz2 hA1l hdA1 hdC2 hCA1 hCA2 hcs HX HL HDA
 go_wp2_with (at_builtin; refine Lib.wpList_append_run _ rfl _ _ _ _ rfl _ _ rfl rfl _ _ HR.out ?_)
 go_end0
 exact ⟨⟨_, rfl⟩, HFIN.out⟩
end Go.Proofs.YtdjnebgjdekmaaaGreatDoor
