/-
  Contracts of sets.Row[string,*brazier/disk.file]: slices.Insert, slices.Delete, Put, Drop.
-/
import Derived.Test.YtnjnlcmpfnabiaaRSF
import Derived.Test.YtnjnlcmpfnabiaaSy
namespace Go.Proofs.Ytnjnlcmpfnabiaa
open Go.RowKit
set_option linter.unusedVariables false

theorem infoP_S : (Try.prog.info? 123).map (fun i => (i.zero, i.size, i.bytes)) = some (some (.agg #[.string ⟨#[]⟩, .pointer none]), 2, 24) := by kernel_rfl
theorem sizeP_S : (Try.prog.info? 123).map (·.size) = some 2 := by kernel_rfl
theorem zeroP_S (w : World) : (zeroValue 123).run Try.prog w = .ok (.agg #[.string ⟨#[]⟩, .pointer none]) w := by kernel_rfl
theorem sizeOfP_S (w : World) : (Go.sizeOf 123).run Try.prog w = .ok 2 w := by kernel_rfl
/-- A slice of one element more, at the line's block or a new one. -/
def InsToS (w : World) (A : Option Addr) (n : Nat) (xs : List Value) (e : Ending) (w' : World) : Prop :=
  ∃ A' c', e = .returned (.slice A' (n + 1) c') ∧ SLine 2 w' A' (n + 1) c' xs ∧ Chg (blk A) w w' ∧ (∀ k ∈ blk A', k ∈ blk A ∨ w.heap.size ≤ k)
/-- The block of what is put in. -/
structure OneS (w : World) (vb : Nat) (p0 p1 : Value) : Prop where
  block : w.heap[vb]? = some (.cells #[p0, p1] 123 (0, 0))
  one0 : p0.oneCell' = true
  one1 : p1.oneCell' = true
theorem OneS.cells {w : World} {vb : Nat} {p0 p1 : Value} (h : OneS w vb p0 p1) : ∀ j v, [p0, p1][j]? = some v → w.cell? ((⟨vb, 0, none⟩ : Addr).add j) = some v := by
  intro j v hj
  have hadd : (⟨vb, 0, none⟩ : Addr).add j = ⟨vb, 0 + j, none⟩ := by unfold Addr.add; split <;> simp_all
  rw [hadd, Nat.zero_add, cell_of_row w vb j _ _ (0, 0) h.block]
  rcases j with _ | _ | j
  · exact hj
  · exact hj
  · simp at hj
theorem OneS.ones {w : World} {vb : Nat} {p0 p1 : Value} (h : OneS w vb p0 p1) : ∀ u ∈ [p0, p1], u.oneCell' = true := by
  intro u hu
  simp only [List.mem_cons, List.not_mem_nil, or_false] at hu
  rcases hu with rfl | rfl
  · exact h.one0
  · exact h.one1
set_option maxHeartbeats 800000 in
set_option maxRecDepth 100000 in
theorem insert_end_S (w : World) (A : Option Addr) (n c : Nat) (xs : List Value) (h : SLine 2 w A n c xs) (hn : n ≤ 100000) (vb : Nat) (p0 p1 : Value) (hv : OneS w vb p0 p1) :
    Calls Try.prog 77 #[.slice A n c, .int .i64 (n : Int), .slice (some ⟨vb, 0, none⟩) 1 1] w fun e w' => InsToS w A n (xs ++ [p0, p1]) e w' := by
  have hsrc : Src Try.prog 2 78 (.slice (some ⟨vb, 0, none⟩) 1 1) 1 [p0, p1] w := Src.ofSlice w Try.underlying78 ⟨vb, 0, none⟩ 1 1 [p0, p1] rfl hv.cells hv.ones
  obtain ⟨A', c', w', hr, hl, hc, hf, _⟩ := sline_append 2 w 78 123 78 _ 24 Try.underlying78 infoP_S rfl (by decide) A n c xs h (by omega) _ 1 (by omega) (fun _ => by omega) [p0, p1] hsrc
  have HR := Lib.hid hr
  have HL := Lib.hid (And.intro hl (And.intro hc hf))
  have hnc := h.2.1
  have hc63 : c ≤ 9223372036854775807 := by have := h.2.2.1; unfold maxLen at this; omega
  clear h hv hsrc hr hl hc hf
  go_enter Try.func77, Try.ntmps77
  cases A
  all_goals
    go_wp2_with (at_builtin; refine Lib.wpList_append_run _ rfl _ _ _ _ rfl _ _ rfl rfl _ _ HR.out ?_)
    all_goals
      go_ret
      exact ⟨A', c', rfl, HL.out.1, HL.out.2.1, HL.out.2.2⟩
set_option maxHeartbeats 4000000 in
set_option maxRecDepth 100000 in
theorem insert_grow_S (w : World) (b off n c : Nat) (xs : List Value) (h : SLine 2 w (some ⟨b, off, none⟩) n c xs) (hn : n ≤ 100000) (i : Nat) (hi : i < n) (hroom : c < n + 1) (h1c : ∀ u ∈ xs, u.oneCell' = true) (vb : Nat) (p0 p1 : Value) (hv : OneS w vb p0 p1) :
    Calls Try.prog 77 #[.slice (some ⟨b, off, none⟩) n c, .int .i64 (i : Int), .slice (some ⟨vb, 0, none⟩) 1 1] w fun e w' => InsToS w (some ⟨b, off, none⟩) n (xs.take (i * 2) ++ [p0, p1] ++ xs.drop (i * 2)) e w' := by
  have hxl := h.1
  have hbw : b < w.heap.size := h.lt b (mem_blk.2 ⟨_, rfl, rfl⟩)
  have hvw := lt_of_block hv.block
  have hnc := h.2.1
  have hc63 : c ≤ 9223372036854775807 := by have := h.2.2.1; unfold maxLen at this; omega
  obtain ⟨k, hk⟩ : ∃ k, n + 1 - i = k := ⟨_, rfl⟩
  obtain ⟨G, W1, ys, hr1, hyl, hl1, hbW, hG1, hG2⟩ := sline_zeros 2 (by decide) w 78 3 78 123 _ 24 Try.underlying78 Try.underlying3 infoP_S rfl (by decide) _ n c xs h i (by omega) k (by omega) (by omega) (by omega)
  have hik : i + k = n + 1 := by omega
  have hkk : (n : Int) + 1 - (i : Int) = (k : Int) := by omega
  rw [hik] at hr1 hl1 hG1
  have hG63 : G ≤ 9223372036854775807 := by unfold maxLen at hG2; omega
  obtain ⟨hh, hhe⟩ : ∃ hh, w.heap.size = hh := ⟨_, rfl⟩
  rw [hhe] at hr1 hl1 hbW hbw hvw
  -- the element is put in
  have hvc1 : ∀ j v, [p0, p1][j]? = some v → W1.cell? ((⟨vb, 0, none⟩ : Addr).add j) = some v := fun j v hj => by
    have := hv.cells j v hj
    have hadd : (⟨vb, 0, none⟩ : Addr).add j = ⟨vb, 0 + j, none⟩ := by unfold Addr.add; split <;> simp_all
    rw [hadd] at this ⊢
    exact (hbW.cell (p := ⟨vb, 0 + j, none⟩) hvw).trans this
  obtain ⟨gg, oo, eg, hgl, hgc, hgf⟩ := hl1.at (by omega)
  cases eg
  obtain ⟨W2, hW2⟩ : ∃ W2, W1.setCells hh (0 + i * 2) [p0, p1] = W2 := ⟨_, rfl⟩
  have hGn : (n + 1) * 2 ≤ G * 2 := Nat.mul_le_mul_right 2 hG1
  have hcpA : ∀ ty dc, (Builtin.copy_ #[78, 78] ty #[.slice (some ⟨hh, i * 2, none⟩) (n + 1 - i) dc, .slice (some ⟨vb, 0, none⟩) 1 1]).run Try.prog W1 = .ok (goInt 1) W2 := fun ty dc => by
    rw [← hW2, Nat.zero_add]
    exact run_copy_sz 2 1 W1 _ _ ty 123 hh (i * 2) (n + 1 - i) dc ⟨vb, 0, none⟩ 1 1 [p0, p1] Try.underlying78 sizeP_S (by simp only [Nat.min_def]; split <;> omega) rfl hvc1
      (fun j hj => by have := (hgf (i * 2 + j) (by simp at hj; omega)).1; rwa [Nat.zero_add] at this) (fun j hj => by have := (hgf (i * 2 + j) (by simp at hj; omega)).2; rwa [Nat.zero_add] at this) hv.ones
  have hl2 := hl1.set (i * 2) [p0, p1] (by simp; omega)
  rw [hW2] at hl2
  have hc2 : Below hh w W2 := by
    rw [← hW2]
    exact hbW.trans ((chg_cells W1 hh (0 + i * 2) [p0, p1]).toBelow (fun k hk => by simp at hk; omega) (by rw [← hhe]; exact hbW.size))
  -- what follows is moved on
  obtain ⟨gg, oo, eg, hgl2, hgc2, hgf2⟩ := hl2.at (by omega)
  cases eg
  obtain ⟨W3, hW3⟩ : ∃ W3, W2.drew.setCells hh (0 + (i * 2 + 2)) (xs.drop (i * 2)) = W3 := ⟨_, rfl⟩
  have hdl : (xs.drop (i * 2)).length = (n - i) * 2 := by rw [List.length_drop]; omega
  obtain ⟨_, _, eg, hbl, hbc, hbf⟩ := h.at (by omega)
  cases eg
  have hcpB : ∀ ty dc sc, (Builtin.copy_ #[78, 78] ty #[.slice (some ⟨hh, (i + 1) * 2, none⟩) (n + 1 - (i + 1)) dc, .slice (some ⟨b, off + i * 2, none⟩) (n - i) sc]).run Try.prog W2.drew = .ok (goInt (n - i : Nat)) W3 := fun ty dc sc => by
    rw [← hW3, Nat.zero_add, show i * 2 + 2 = (i + 1) * 2 from by omega]
    exact run_copy_sz 2 (n - i) W2.drew _ _ ty 123 hh ((i + 1) * 2) (n + 1 - (i + 1)) dc ⟨b, off + i * 2, none⟩ (n - i) sc (xs.drop (i * 2)) Try.underlying78 sizeP_S (by simp only [Nat.min_def]; split <;> omega) hdl
      (fun j v hj => by
        have hadd : (⟨b, off + i * 2, none⟩ : Addr).add j = ⟨b, off + (i * 2 + j), none⟩ := by unfold Addr.add; simp [Nat.add_assoc]
        rw [hadd]
        rw [List.getElem?_drop] at hj
        have hjl := (List.getElem?_eq_some_iff.1 hj).1
        have h5 := hbc (i * 2 + j) (by omega)
        rw [hj] at h5
        exact (hc2.cell (p := ⟨b, off + (i * 2 + j), none⟩) hbw).trans h5)
      (fun j hj => by have := (hgf2 ((i + 1) * 2 + j) (by omega)).1; rwa [Nat.zero_add] at this) (fun j hj => by have := (hgf2 ((i + 1) * 2 + j) (by omega)).2; rwa [Nat.zero_add] at this) (fun u hu => h1c u (List.mem_of_mem_drop hu))
  have hl3 := hl2.drew.set (i * 2 + 2) (xs.drop (i * 2)) (by rw [hdl]; omega)
  rw [hW3] at hl3
  have hc3 : Below hh w W3 := by
    rw [← hW3]
    exact hc2.drew.trans ((chg_cells W2.drew hh (0 + (i * 2 + 2)) (xs.drop (i * 2))).toBelow (fun k hk => by simp at hk; omega) (by show hh ≤ W2.heap.size; rw [← hhe]; exact hc2.size))
  have hlist : ((xs.take (i * 2) ++ ys).take (i * 2) ++ [p0, p1] ++ (xs.take (i * 2) ++ ys).drop (i * 2 + [p0, p1].length)).take (i * 2 + 2) ++ xs.drop (i * 2) ++ ((xs.take (i * 2) ++ ys).take (i * 2) ++ [p0, p1] ++ (xs.take (i * 2) ++ ys).drop (i * 2 + [p0, p1].length)).drop (i * 2 + 2 + (xs.drop (i * 2)).length) = xs.take (i * 2) ++ [p0, p1] ++ xs.drop (i * 2) := by
    have ht : (xs.take (i * 2)).length = i * 2 := by rw [List.length_take]; omega
    rw [(take_drop_flat (xs.take (i * 2)) ys [] _ ht).1, (take_drop_flat (xs.take (i * 2) ++ [p0, p1]) _ [] (i * 2 + 2) (by rw [List.length_append, ht]; rfl)).1]
    have hZ : ∀ (T Z : List Value) (m : Nat), Z.length ≤ m → T ++ Z.drop m = T := fun T Z m hm => by rw [List.drop_eq_nil_of_le hm, List.append_nil]
    exact hZ _ _ _ (by simp; omega)
  rw [hlist] at hl3
  have HBc := Lib.hid hcpB
  have HR := Lib.hid hr1
  have HL := Lib.hid (And.intro hl3 hc3)
  have HHE := Lib.hid hhe
  have hGi : ¬ G = i := by omega
  have hGim : ¬ G = i + 1 := by omega
  have hci : ¬ c = i := by omega
  have hz2 : ¬ (i : Int) = (n : Int) := by omega
  have hz3 : (c : Int) < (n : Int) + 1 := by omega
  have hb3 : (i : Int) ≤ (n : Int) := by omega
  have hb4 : (i : Int) + 1 ≤ (n : Int) + 1 := by omega
  have hw1 : IntKind.i64.wrap ((i : Int) + 1) = (i : Int) + 1 := by rw [IntKind.wrap_i64]; omega
  have hb1 : (0 : Int) ≤ (i : Int) + 1 := by omega
  have htn : ((i : Int) + 1).toNat = i + 1 := by omega
  have hin : i ≤ n := by omega
  clear hlist hl3 hc3 hbW hcpB hr1 hW2 hW3 hl1 hl2 hc2 hgc hgf hgc2 hgf2 hbc hbf hvc1 h hv h1c hhe hdl hxl hyl hik hk
  go_enter Try.func77, Try.ntmps77
  go_wp2_with (at_builtin; refine Lib.wpList_append_run _ rfl _ _ _ _ rfl _ _ rfl rfl _ _ HR.out ?_)
  go_region_law (refine step_copy_runI rfl _ _ 78 78 rfl (.slice (some ⟨hh, (i + 1) * 2, none⟩) (n + 1 - (i + 1)) (G - (i + 1))) (.slice (some ⟨b, off + i * 2, none⟩) (n - i) (c - i)) (by simp [Act.eval, Act.put]) (by simp [Act.eval, Act.put]) (HBc.out 3 (G - (i + 1)) (c - i)) ?_)
  go_wp2
  go_ret
  exact ⟨_, _, rfl, HL.out.1, by have := Chg.of_below (l := blk (some ⟨b, off, none⟩)) (by rw [HHE.out]; exact HL.out.2); exact this, fun k hk => .inr (by
    obtain ⟨ad, ea, hb⟩ := mem_blk.1 hk
    cases ea
    rw [HHE.out, ← hb]
    exact Nat.le_refl _)⟩

theorem overlaps_S {w : World} {vb b o : Nat} {p0 p1 : Value} (hv : OneS w vb p0 p1) (hne : vb ≠ b) (hsome : (w.cell? ⟨b, o, none⟩).isSome = true) (o2 lb cb : Nat) :
    (callFunc 82 #[.slice (some ⟨vb, 0, none⟩) 1 1, .slice (some ⟨b, o2, none⟩) lb cb]).run Try.prog w = .ok (.value (.bool false)) w := by
  obtain ⟨tB, kB, hsb, hkB⟩ := shape_of_cell hsome
  have hsa : w.shape? vb = some (123, 2) := by
    unfold World.shape?
    rw [hv.block]
    rfl
  have hf : ∀ j, w.frozen? ⟨vb, j, none⟩ = false := fun j => frozen_of_row w vb j _ _ hv.block
  rw [run_callFunc_extern Try.func82 (by kernel_rfl) (by kernel_rfl) (by kernel_rfl) (e := Extern.SlicesOverlaps.overlaps #[78, 78] #[4]) (by kernel_rfl),
    Lib.run_overlaps_apart w 78 4 123 Try.underlying78 2 sizeOfP_S ⟨vb, 0, none⟩ ⟨b, o2, none⟩ 1 1 lb cb hne 123 tB 2 kB hsa hsb hkB (hf 0) (hf 2)]
  rfl
set_option maxHeartbeats 4000000 in
set_option maxRecDepth 100000 in
theorem insert_shift_S (w : World) (b off n c : Nat) (xs : List Value) (h : SLine 2 w (some ⟨b, off, none⟩) n c xs) (hn : n ≤ 100000) (i : Nat) (hi : i < n) (hroom : n + 1 ≤ c) (h1c : ∀ u ∈ xs, u.oneCell' = true) (vb : Nat) (p0 p1 : Value) (hv : OneS w vb p0 p1) (hvb : vb ≠ b) :
    Calls Try.prog 77 #[.slice (some ⟨b, off, none⟩) n c, .int .i64 (i : Int), .slice (some ⟨vb, 0, none⟩) 1 1] w fun e w' => InsToS w (some ⟨b, off, none⟩) n (xs.take (i * 2) ++ [p0, p1] ++ xs.drop (i * 2)) e w' := by
  have hxl := h.1
  have hbw : b < w.heap.size := h.lt b (mem_blk.2 ⟨_, rfl, rfl⟩)
  have hvw := lt_of_block hv.block
  have hc63 : c ≤ 9223372036854775807 := by have := h.2.2.1; unfold maxLen at this; omega
  obtain ⟨_, _, eg, hbl, hbc, hbf⟩ := h.at (by omega)
  cases eg
  obtain ⟨ys, hyl, hl1⟩ := h.spare hroom
  have hov : ∀ lb cb, (callFunc 82 #[.slice (some ⟨vb, 0, none⟩) 1 1, .slice (some ⟨b, off + (i + 1) * 2, none⟩) lb cb]).run Try.prog w = .ok (.value (.bool false)) w := fun lb cb => overlaps_S (o := off + 0) hv hvb ((hbf 0 (by omega)).1) _ lb cb
  -- what follows is moved on
  obtain ⟨W2, hW2⟩ : ∃ W2, w.drew.setCells b (off + (i + 1) * 2) (xs.drop (i * 2)) = W2 := ⟨_, rfl⟩
  have hdl : (xs.drop (i * 2)).length = (n - i) * 2 := by rw [List.length_drop]; omega
  have hcpB : ∀ ty dc sc, (Builtin.copy_ #[78, 78] ty #[.slice (some ⟨b, off + (i + 1) * 2, none⟩) (n + 1 - (i + 1)) dc, .slice (some ⟨b, off + i * 2, none⟩) (n + 1 - i) sc]).run Try.prog w.drew = .ok (goInt (n - i : Nat)) W2 := fun ty dc sc => by
    rw [← hW2]
    exact run_copy_sz 2 (n - i) w.drew _ _ ty 123 b (off + (i + 1) * 2) (n + 1 - (i + 1)) dc ⟨b, off + i * 2, none⟩ (n + 1 - i) sc (xs.drop (i * 2)) Try.underlying78 sizeP_S (by simp only [Nat.min_def]; split <;> omega) hdl
      (fun j v hj => by
        have hadd : (⟨b, off + i * 2, none⟩ : Addr).add j = ⟨b, off + (i * 2 + j), none⟩ := by unfold Addr.add; simp [Nat.add_assoc]
        rw [hadd]
        rw [List.getElem?_drop] at hj
        have hjl := (List.getElem?_eq_some_iff.1 hj).1
        have h5 := hbc (i * 2 + j) (by omega)
        rw [hj] at h5
        exact h5)
      (fun j hj => by rw [Nat.add_assoc]; exact (hbf ((i + 1) * 2 + j) (by omega)).1) (fun j hj => by rw [Nat.add_assoc]; exact (hbf ((i + 1) * 2 + j) (by omega)).2) (fun u hu => h1c u (List.mem_of_mem_drop hu))
  have hl2 := hl1.drew.set ((i + 1) * 2) (xs.drop (i * 2)) (by rw [hdl]; omega)
  rw [hW2] at hl2
  have hc2 : Chg [b] w W2 := by
    rw [← hW2]
    exact (Chg.refl _ w).drew.trans (chg_cells w.drew b (off + (i + 1) * 2) (xs.drop (i * 2)))
  -- the element is put in
  have hvc1 : ∀ j v, [p0, p1][j]? = some v → W2.cell? ((⟨vb, 0, none⟩ : Addr).add j) = some v := fun j v hj => by
    have := hv.cells j v hj
    have hadd : (⟨vb, 0, none⟩ : Addr).add j = ⟨vb, 0 + j, none⟩ := by unfold Addr.add; split <;> simp_all
    rw [hadd] at this ⊢
    exact (World.cell?_of_block (w := w) (a := ⟨vb, 0 + j, none⟩) (hc2.same vb hvw (by simp [hvb]))).trans this
  obtain ⟨_, _, eg, hgl2, hgc2, hgf2⟩ := hl2.at (by omega)
  cases eg
  obtain ⟨W3, hW3⟩ : ∃ W3, W2.setCells b (off + i * 2) [p0, p1] = W3 := ⟨_, rfl⟩
  have hcn : (n + 1) * 2 ≤ c * 2 := Nat.mul_le_mul_right 2 hroom
  have hcpA : ∀ ty dc, (Builtin.copy_ #[78, 78] ty #[.slice (some ⟨b, off + i * 2, none⟩) (n + 1 - i) dc, .slice (some ⟨vb, 0, none⟩) 1 1]).run Try.prog W2 = .ok (goInt 1) W3 := fun ty dc => by
    rw [← hW3]
    exact run_copy_sz 2 1 W2 _ _ ty 123 b (off + i * 2) (n + 1 - i) dc ⟨vb, 0, none⟩ 1 1 [p0, p1] Try.underlying78 sizeP_S (by simp only [Nat.min_def]; split <;> omega) rfl hvc1
      (fun j hj => by rw [Nat.add_assoc]; exact (hgf2 (i * 2 + j) (by simp at hj; omega)).1) (fun j hj => by rw [Nat.add_assoc]; exact (hgf2 (i * 2 + j) (by simp at hj; omega)).2) hv.ones
  have hl3 := hl2.set (i * 2) [p0, p1] (by simp; omega)
  rw [hW3] at hl3
  have hc3 : Chg [b] w W3 := by
    rw [← hW3]
    exact hc2.trans (chg_cells W2 b (off + i * 2) [p0, p1])
  rw [shift_list xs ys [p0, p1] (i * 2) 2 (by omega) hyl rfl _ (by rw [show i * 2 + 2 = (i + 1) * 2 from by omega])] at hl3
  have HBc := Lib.hid hcpB
  have HL := Lib.hid (And.intro hl3 hc3)
  have hci : ¬ c = i := by omega
  have hci1 : ¬ c = i + 1 := by omega
  have hz2 : ¬ (i : Int) = (n : Int) := by omega
  have hz3 : ¬ (c : Int) < (n : Int) + 1 := by omega
  have hb3 : (i : Int) ≤ (n : Int) + 1 := by omega
  have hb4 : (i : Int) + 1 ≤ (n : Int) + 1 := by omega
  have hb5 : (n : Int) + 1 ≤ (c : Int) := by omega
  have hw1 : IntKind.i64.wrap ((i : Int) + 1) = (i : Int) + 1 := by rw [IntKind.wrap_i64]; omega
  have hb1 : (0 : Int) ≤ (i : Int) + 1 := by omega
  have htn : ((i : Int) + 1).toNat = i + 1 := by omega
  have hin : i ≤ n := by omega
  clear hl3 hc3 hcpB hW2 hW3 hl1 hl2 hc2 hgc2 hgf2 hbc hbf hvc1 h hv h1c hdl hxl hyl
  go_enter Try.func77, Try.ntmps77
  go_wp2_with (simp only [hov])
  go_region_law (refine step_copy_runI rfl _ _ 78 78 rfl (.slice (some ⟨b, off + (i + 1) * 2, none⟩) (n + 1 - (i + 1)) (c - (i + 1))) (.slice (some ⟨b, off + i * 2, none⟩) (n + 1 - i) (c - i)) (by simp [Act.eval, Act.put]) (by simp [Act.eval, Act.put]) (HBc.out 3 (c - (i + 1)) (c - i)) ?_)
  go_wp2
  go_ret
  exact ⟨_, _, rfl, HL.out.1, HL.out.2.weaken (fun k hk => .inl (by simp only [List.mem_singleton] at hk; subst hk; exact mem_blk.2 ⟨_, rfl, rfl⟩)), fun k hk => .inl hk⟩
/-- slices.Insert of one pair, wherever. -/
theorem insert_S (w : World) (A : Option Addr) (n c : Nat) (xs : List Value) (h : SLine 2 w A n c xs) (hn : n ≤ 100000) (i : Nat) (hi : i ≤ n) (h1c : ∀ u ∈ xs, u.oneCell' = true) (vb : Nat) (p0 p1 : Value) (hv : OneS w vb p0 p1) (hvb : vb ∉ blk A) :
    Calls Try.prog 77 #[.slice A n c, .int .i64 (i : Int), .slice (some ⟨vb, 0, none⟩) 1 1] w fun e w' => InsToS w A n (xs.take (i * 2) ++ [p0, p1] ++ xs.drop (i * 2)) e w' := by
  have hxl := h.1
  rcases Nat.lt_or_ge i n with hlt | hge
  · obtain ⟨b, off, rfl, _⟩ := h.at (by omega)
    rcases Nat.lt_or_ge c (n + 1) with hr | hr
    · exact insert_grow_S w b off n c xs h hn i hlt hr h1c vb p0 p1 hv
    · exact insert_shift_S w b off n c xs h hn i hlt hr h1c vb p0 p1 hv (fun e => hvb (mem_blk.2 ⟨_, rfl, e.symm⟩))
  · obtain rfl : i = n := by omega
    have := insert_end_S w A i c xs h hn vb p0 p1 hv
    rw [List.take_of_length_le (by omega), List.drop_eq_nil_of_le (by omega), List.append_nil]
    exact this

set_option maxHeartbeats 4000000 in
set_option maxRecDepth 100000 in
theorem delete_S (w : World) (b off n c : Nat) (xs : List Value) (h : SLine 2 w (some ⟨b, off, none⟩) n c xs) (hn : n ≤ 1000000) (i : Nat) (hi : i < n) (h1c : ∀ u ∈ xs, u.oneCell' = true) :
    Calls Try.prog 79 #[.slice (some ⟨b, off, none⟩) n c, .int .i64 (i : Int), .int .i64 ((i : Int) + 1)] w fun e w' =>
      e = .returned (.slice (some ⟨b, off, none⟩) (n - 1) c) ∧ SLine 2 w' (some ⟨b, off, none⟩) (n - 1) c (xs.take (i * 2) ++ xs.drop (i * 2 + 2)) ∧ Chg [b] w w' := by
  have hxl := h.1
  have hc63 : c ≤ 9223372036854775807 := by have := h.2.2.1; unfold maxLen at this; omega
  have hnc := h.2.1
  obtain ⟨_, _, eg, hbl, hbc, hbf⟩ := h.at (by omega)
  cases eg
  obtain ⟨j, hj⟩ : ∃ j, i + 1 = j := ⟨_, rfl⟩
  have hjI : (i : Int) + 1 = (j : Int) := by omega
  obtain ⟨i0, hi0, hz0, hz1, hz2⟩ := info_parts infoP_S
  obtain ⟨news, hnews⟩ : ∃ news, xs.drop (i * 2 + 2) = news := ⟨_, rfl⟩
  have hlen : news.length = (n - j) * 2 := by rw [← hnews, List.length_drop]; omega
  obtain ⟨A, hA, hsrc⟩ : ∃ A : Addr, (if c = j then some (⟨b, off, none⟩ : Addr) else some ⟨b, off + j * 2, none⟩) = some A ∧ Hid (∀ t u, news[t]? = some u → w.drew.cell? (A.add t) = some u) := by
    by_cases hcj : c = j
    · refine ⟨⟨b, off, none⟩, by simp [hcj], fun t u hu => ?_⟩
      have := (List.getElem?_eq_some_iff.1 hu).1
      omega
    · refine ⟨⟨b, off + j * 2, none⟩, by simp [hcj], fun t u hu => ?_⟩
      have hadd : (⟨b, off + j * 2, none⟩ : Addr).add t = ⟨b, off + (j * 2 + t), none⟩ := by unfold Addr.add; simp [Nat.add_assoc]
      rw [hadd]
      have hul := (List.getElem?_eq_some_iff.1 hu).1
      have h5 := hbc (j * 2 + t) (by omega)
      rw [← hnews, List.getElem?_drop, show i * 2 + 2 + t = j * 2 + t from by omega] at hu
      rw [hu] at h5
      exact h5
  have hcn : n * 2 ≤ c * 2 := Nat.mul_le_mul_right 2 hnc
  have s2 : Hid (∀ u ∈ news, u.oneCell' = true) := Lib.hid (fun u hu => h1c u (by rw [← hnews] at hu; exact List.mem_of_mem_drop hu))
  have s3 : Hid (∀ t, t < news.length → (w.drew.cell? ⟨b, off + i * 2 + t, none⟩).isSome = true ∧ w.drew.frozen? ⟨b, off + i * 2 + t, none⟩ = false) := Lib.hid (fun t ht => by
    rw [Nat.add_assoc]
    exact hbf (i * 2 + t) (by omega))
  obtain ⟨W1, hW1⟩ : ∃ W1, w.drew.setCells b (off + i * 2) news = W1 := ⟨_, rfl⟩
  have hl1 := h.drew.set (i * 2) news (by omega)
  rw [hW1] at hl1
  obtain ⟨_, _, eg, hbl1, hbc1, hbf1⟩ := hl1.at (by omega)
  cases eg
  obtain ⟨W2, hW2⟩ : ∃ W2, W1.setCells b (off + (n - 1) * 2) [.string ⟨#[]⟩, .pointer none] = W2 := ⟨_, rfl⟩
  have hcl : ∀ ty, (Builtin.clear_ #[78] ty #[.slice (some ⟨b, off + (i + (n - j)) * 2, none⟩) (n - (i + (n - j))) (c - (i + (n - j)))]).run Try.prog W1 = .ok (.tuple #[]) W2 := fun ty => by
    rw [← hW2, show i + (n - j) = n - 1 from by omega, show n - (n - 1) = 1 from by omega]
    exact run_clear_sz 1 (by omega) W1 _ _ ty _ [.string ⟨#[]⟩, .pointer none] Try.underlying78 zeroP_S (by kernel_rfl) (by intro u hu; simp only [List.mem_cons, List.not_mem_nil, or_false] at hu; rcases hu with rfl | rfl <;> rfl) b _ _
      (fun t ht => by rw [Nat.add_assoc]; exact (hbf1 ((n - 1) * 2 + t) (by simp at ht; omega)).1) (fun t ht => by rw [Nat.add_assoc]; exact (hbf1 ((n - 1) * 2 + t) (by simp at ht; omega)).2)
  have hl2 := hl1.set ((n - 1) * 2) [.string ⟨#[]⟩, .pointer none] (by simp; omega)
  rw [hW2] at hl2
  have hl3 := hl2.shrink (n - 1) (by omega)
  rw [drop_list xs [.string ⟨#[]⟩, .pointer none] (i * 2) 2 n hxl (by omega) (by omega) rfl _ (by rw [hnews]) _ rfl] at hl3
  have hc2 : Chg [b] w W2 := by
    rw [← hW2, ← hW1]
    exact ((Chg.refl _ w).drew.trans (chg_cells w.drew b _ _)).trans (chg_cells _ b _ _)
  have HL := Lib.hid (And.intro hl3 hc2)
  have hW := Lib.hid hW1
  have HN := Lib.hid hlen
  have hij : (i : Int) ≤ (j : Int) := by omega
  have hjn : (j : Int) ≤ (n : Int) := by omega
  have hic : i ≤ c := by omega
  have hjc : j ≤ c := by omega
  have hjnn : j ≤ n := by omega
  have hnij : ¬ (i : Int) = (j : Int) := by omega
  have HNE : Hid (i + (n - j) = n - 1) := Lib.hid (by omega)
  have hlt : i < j := by omega
  rw [hjI]
  clear hjI hl1 hl2 hl3 hc2 hW1 hW2 hbc hbf hbc1 hbf1 h h1c hnews hlen hxl hj
  go_enter Try.func79, Try.ntmps79
  go_wp2_with fail
  go_region_law (refine step_append_room rfl (.tmp 22) (.tmp 25) 78 rfl 123 i0 2 Try.underlying78 hi0 hz1 b off i c (by simp [Act.eval, Act.put]) A (n - j) (c - j) news (by simp [Act.eval, Act.put]) HN.out hsrc.out s2.out (by omega) s3.out ?_; rw [hW.out])
  go_wp2
  go_ret
  exact ⟨by rw [← HNE.out]; rfl, HL.out.1, HL.out.2⟩

end Go.Proofs.Ytnjnlcmpfnabiaa
