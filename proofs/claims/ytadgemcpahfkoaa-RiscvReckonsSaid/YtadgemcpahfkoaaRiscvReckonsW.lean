/-
  The walk of the law RiscvReckons: it answers true and writes nothing that was there.
-/
import Derived.Test.YtadgemcpahfkoaaRxr
import Derived.Test.YtadgemcpahfkoaaDrawn
namespace Go.Proofs.Ytadgemcpahfkoaa
open Go.RowKit
set_option linter.unusedVariables false
set_option linter.unusedSimpArgs false
set_option maxRecDepth 100000
open Rv
set_option maxHeartbeats 6400000 in
theorem riscvReckons_walk (op : Int) (x y : Int) (W : World) (hop : (Lit.int .u64 op).wf = true) (hx : (Lit.int .i32 x).wf = true) (hy : (Lit.int .i32 y).wf = true) :
    Calls Try.prog 6 #[.int .u64 op, .agg #[.int .i32 x, .int .i32 y]] W fun e w' => e = .returned (.bool true) ∧ Below W.heap.size W w' := by
  have bx := bounds_i32' hx
  have by' := bounds_i32' hy
  have bo : 0 ≤ op ∧ op ≤ 18446744073709551615 := by
    simp [Lit.wf, IntKind.min, IntKind.max, IntKind.signed, IntKind.bits] at hop
    omega
  obtain ⟨o1, o2⟩ := bo
  obtain ⟨r, hr⟩ : ∃ r, op % 13 = r := ⟨_, rfl⟩
  have r1 : 0 ≤ r ∧ r < 13 := by omega
  obtain ⟨r2, r3⟩ := r1
  have e1 : op.tmod 13 = r := by rw [Int.tmod_eq_emod_of_nonneg (by omega)]; exact hr
  obtain ⟨k, hk⟩ : ∃ k, 11 + r = k := ⟨_, rfl⟩
  have k1 : 11 ≤ k ∧ k ≤ 23 := by omega
  obtain ⟨k2, k3⟩ := k1
  have HK := Lib.hid (And.intro k2 k3)
  have HXY := Lib.hid (And.intro bx by')
  obtain ⟨b3, hb3⟩ : ∃ b3, W.heap.size = b3 := ⟨_, rfl⟩
  obtain ⟨W1, hW1⟩ : ∃ W1, W.alloc (.cells #[.int .i32 x, .int .i32 y] 48) = W1 := ⟨_, rfl⟩
  obtain ⟨W2, hW2⟩ : ∃ W2, W1.alloc (.cells #[.int .i64 2, .int .i64 k, .int .i64 10, .int .i64 8, .int .i64 9, .int .i32 0, .string ⟨#[]⟩] 39) = W2 := ⟨_, rfl⟩
  obtain ⟨W3, hW3⟩ : ∃ W3, W2.alloc (.cells #[.slice none 0 0, .int .i64 0, .slice none 0 0] 25) = W3 := ⟨_, rfl⟩
  have s1 : W1.heap.size = b3 + 1 := by rw [← hW1, ← hb3]; simp
  have s2 : W2.heap.size = b3 + 2 := by rw [← hW2]; simp [s1]
  have s3 : W3.heap.size = b3 + 3 := by rw [← hW3]; simp [s2]
  have B1 : Below W.heap.size W W1 := by rw [← hW1]; exact (Below.refl _ _).alloc (Nat.le_refl _) _
  have B2 : Below W1.heap.size W1 W2 := by rw [← hW2]; exact (Below.refl _ _).alloc (Nat.le_refl _) _
  have B3 : Below W2.heap.size W2 W3 := by rw [← hW3]; exact (Below.refl _ _).alloc (Nat.le_refl _) _
  have x1 : W1.heap[b3]? = some (.cells #[.int .i32 x, .int .i32 y] 48 (0, 0)) := by rw [← hW1, ← hb3]; exact heap_alloc_new W _
  have x2 : W2.heap[b3 + 1]? = some (.cells #[.int .i64 2, .int .i64 k, .int .i64 10, .int .i64 8, .int .i64 9, .int .i32 0, .string ⟨#[]⟩] 39 (0, 0)) := by rw [← hW2, ← s1]; exact heap_alloc_new W1 _
  have x3 : W3.heap[b3 + 2]? = some (.cells #[.slice none 0 0, .int .i64 0, .slice none 0 0] 25 (0, 0)) := by rw [← hW3, ← s2]; exact heap_alloc_new W2 _
  have y1 : W3.heap[b3]? = some (.cells #[.int .i32 x, .int .i32 y] 48 (0, 0)) := (B3.block _ (by omega)).trans ((B2.block _ (by omega)).trans x1)
  have y2 : W3.heap[b3 + 1]? = some (.cells #[.int .i64 2, .int .i64 k, .int .i64 10, .int .i64 8, .int .i64 9, .int .i32 0, .string ⟨#[]⟩] 39 (0, 0)) := (B3.block _ (by omega)).trans x2
  have B13 : Below W.heap.size W W3 := B1.trans ((B2.trans (B3.mono B2.size)).mono B1.size)
  have HB := Lib.hid B13
  -- what stays of the law's own boxes, wherever the run has gone on since
  have HX : Hid (∀ V, Below W3.heap.size W3 V → V.heap[b3]? = some (.cells #[.int .i32 x, .int .i32 y] 48 (0, 0)) ∧ V.heap[b3 + 1]? = some (.cells #[.int .i64 2, .int .i64 k, .int .i64 10, .int .i64 8, .int .i64 9, .int .i32 0, .string ⟨#[]⟩] 39 (0, 0)) ∧ V.heap[b3 + 2]? = some (.cells #[.slice none 0 0, .int .i64 0, .slice none 0 0] 25 (0, 0))) := Lib.hid (fun V hV =>
    ⟨(hV.block _ (by omega)).trans y1, (hV.block _ (by omega)).trans y2, (hV.block _ (by omega)).trans x3⟩)
  have HSZ : Hid (W.heap.size = b3 ∧ W3.heap.size = b3 + 3) := Lib.hid ⟨hb3, s3⟩
  have q5 : W2.cell? ⟨b3 + 1, 5, none⟩ = some (.int .i32 0) := by rw [cell_of_row _ _ 5 _ _ (0, 0) x2]; rfl
  have q6 : W2.cell? ⟨b3 + 1, 6, none⟩ = some (.string ⟨#[]⟩) := by rw [cell_of_row _ _ 6 _ _ (0, 0) x2]; rfl
  have g5 := frozen_of_row _ (b3 + 1) 5 _ _ x2
  have g6 := frozen_of_row _ (b3 + 1) 6 _ _ x2
  have t5 : W2.setCell ⟨b3 + 1, 5, none⟩ (.int .i32 0) = W2 := setCell_idR x2 rfl
  have t6 : W2.setCell ⟨b3 + 1, 6, none⟩ (.string ⟨#[]⟩) = W2 := setCell_idR x2 rfl
  have a2 : W3.cell? ⟨b3 + 2, 2, none⟩ = some (.slice none 0 0) := by rw [cell_of_row _ _ 2 _ _ (0, 0) x3]; rfl
  clear B1 B2 B3 B13 x1 x2 x3 y1 y2 s3 hop hx hy bx by' hr
  go_enter Try.func6, Try.ntmps6
  go_upto_region 5 with fail
  clear hW1 hW2 hW3 s1 s2 hb3 e1 hk r2 r3 o1 o2 q5 q6 g5 g6 t5 t6
  refine wp_region_held_drew (S := fun V => V.heap[b3 + 1]? = some (.cells #[.int .i64 2, .int .i64 k, .int .i64 10, .int .i64 8, .int .i64 9, .int .i32 0, .string ⟨#[]⟩] 39 (0, 0))) (by kernel_rfl) (HX.out W3 (Below.refl _ _)).2.1 (fun _ => ?_)
  refine takeH 0 20 (v := (.pointer (some ⟨b3 + 2, 2, none⟩))) rfl rfl (by kernel_rfl) (by kernel_rfl) (by kernel_rfl) (fun _ _ _ h => h) (by rfl) ?_ (HX.out W3 (Below.refl _ _)).2.1 ?_
  · intro w hSw
    obtain ⟨y0, y1, y2, y3, y4, y5, y6, yf⟩ := box7 hSw
    go_simp
  try simp only [Act.put, List.setIfInBounds_toArray, List.set_cons_zero, List.set_cons_succ]
  refine takeH 2 22 (v := (.func (.func 22) #[] #[])) rfl rfl (by kernel_rfl) (by kernel_rfl) (by kernel_rfl) (fun _ _ _ h => h) (by rfl) ?_ (HX.out W3 (Below.refl _ _)).2.1 ?_
  · intro w hSw
    obtain ⟨y0, y1, y2, y3, y4, y5, y6, yf⟩ := box7 hSw
    go_simp
  try simp only [Act.put, List.setIfInBounds_toArray, List.set_cons_zero, List.set_cons_succ]
  refine takeH 5 25 (v := (.func (.func 22) #[] #[])) rfl rfl (by kernel_rfl) (by kernel_rfl) (by kernel_rfl) (fun _ _ _ h => h) (by rfl) ?_ (HX.out W3 (Below.refl _ _)).2.1 ?_
  · intro w hSw
    obtain ⟨y0, y1, y2, y3, y4, y5, y6, yf⟩ := box7 hSw
    go_simp
  try simp only [Act.put, List.setIfInBounds_toArray, List.set_cons_zero, List.set_cons_succ]
  refine takeH 8 28 (v := (.agg #[.int .i64 2, .int .i64 k, .int .i64 10, .int .i64 8, .int .i64 9, .int .i32 0, .string ⟨#[]⟩])) rfl rfl (by kernel_rfl) (by kernel_rfl) (by kernel_rfl) (fun _ _ _ h => h) (by rfl) ?_ (HX.out W3 (Below.refl _ _)).2.1 ?_
  · intro w hSw
    obtain ⟨y0, y1, y2, y3, y4, y5, y6, yf⟩ := box7 hSw
    go_simp
  try simp only [Act.put, List.setIfInBounds_toArray, List.set_cons_zero, List.set_cons_succ]
  refine wpAnyH_ready (rs := [1, 3]) (by kernel_rfl) (by simp) ?_
  refine AllReadyH.cons rfl (fun K hK => ?_) (AllReadyH.cons rfl (fun K hK => ?_) AllReadyH.nil)
  · go_simp
    refine hK.out _ _ (HX.out W3 (Below.refl _ _)).2.1 (fun _ => ?_)
    clear hK K
    try simp only [Act.put, List.setIfInBounds_toArray, List.set_cons_zero, List.set_cons_succ]
    refine wpAnyH_ready (rs := [3]) (by kernel_rfl) (by simp) ?_
    refine AllReadyH.cons rfl (fun K hK => ?_) AllReadyH.nil
    go_simp
    go_at_call 22
    (with_reducible refine (read1_any 8 _).mono ?_)
    rintro en w1 ⟨g1, rfl, hl1, hb1, hg1⟩
    have HB1 : Hid (Below W3.heap.size W3 w1) := Lib.hid (((Below.refl _ W3).drew).trans hb1)
    have HS1 : Hid (w1.heap[b3 + 1]? = some (.cells #[.int .i64 2, .int .i64 k, .int .i64 10, .int .i64 8, .int .i64 9, .int .i32 0, .string ⟨#[]⟩] 39 (0, 0))) := Lib.hid (HX.out _ HB1.out).2.1
    have a2 : w1.cell? ⟨b3 + 2, 2, none⟩ = some (.slice none 0 0) := by rw [cell_of_row _ _ 2 _ _ (0, 0) (HX.out _ HB1.out).2.2]; rfl
    obtain ⟨C2, c2, w2, hr2, hl2, hc2, hf2⟩ := lines_push w1 none 0 0 [] (SLine.nil 7 _) (by omega) g1 3 3 (rdL 8) hl1 (by omega) (by omega)
    have hc2b : Below w1.heap.size w1 w2 := hc2.toBelow (fun k hk => (by cases hk)) (Nat.le_refl _)
    have HR2 := Lib.hid hr2
    have HB2 : Hid (Below W3.heap.size W3 w2) := Lib.hid (HB1.out.trans (hc2b.mono HB1.out.size))
    have HS2 : Hid (w2.heap[b3 + 1]? = some (.cells #[.int .i64 2, .int .i64 k, .int .i64 10, .int .i64 8, .int .i64 9, .int .i32 0, .string ⟨#[]⟩] 39 (0, 0))) := Lib.hid (HX.out _ HB2.out).2.1
    have HL2 := Lib.hid hl2
    have HF2 : Hid (∀ k ∈ blk C2, W3.heap.size ≤ k) := Lib.hid (fun k hk => by rcases hf2 k hk with q | q; (cases q); have := HB1.out.size; omega)
    clear hl1 hb1 hg1 hr2 hl2 hc2 hf2 hc2b
    refine hK.out _ _ HS1.out (fun _ => ?_)
    clear hK K
    try simp only [Act.put, List.setIfInBounds_toArray, List.set_cons_zero, List.set_cons_succ]
    refine wpAnyH_ready (rs := [4]) (by kernel_rfl) (by simp) ?_
    refine appendT_ready rfl (by kernel_rfl) _ _ _ _ rfl _ _ rfl rfl _ _ HR2.out HS2.out ?_
    try simp only [Act.put, List.setIfInBounds_toArray, List.set_cons_zero, List.set_cons_succ]
    refine wpAnyH_ready (rs := [6]) (by kernel_rfl) (by simp) ?_
    refine AllReadyH.cons rfl (fun K hK => ?_) AllReadyH.nil
    go_simp
    go_at_call 22
    (with_reducible refine (read1_any 9 _).mono ?_)
    rintro en w3 ⟨g3, rfl, hl3, hb3', hg3⟩
    have HB3 : Hid (Below W3.heap.size W3 w3) := Lib.hid (HB2.out.trans (hb3'.mono HB2.out.size))
    have HS3 : Hid (w3.heap[b3 + 1]? = some (.cells #[.int .i64 2, .int .i64 k, .int .i64 10, .int .i64 8, .int .i64 9, .int .i32 0, .string ⟨#[]⟩] 39 (0, 0))) := Lib.hid (HX.out _ HB3.out).2.1
    obtain ⟨C4, c4, w4, hr4, hl4, hc4, hf4⟩ := lines_push w3 C2 (0 + 3) c2 ([] ++ rdL 8) (HL2.out.below hb3') (by omega) g3 3 3 (rdL 9) hl3 (by omega) (by omega)
    have hc4b : Below W3.heap.size w3 w4 := hc4.toBelow HF2.out HB3.out.size
    have HR4 := Lib.hid hr4
    have HB4 : Hid (Below W3.heap.size W3 w4) := Lib.hid (HB3.out.trans hc4b)
    have HS4 : Hid (w4.heap[b3 + 1]? = some (.cells #[.int .i64 2, .int .i64 k, .int .i64 10, .int .i64 8, .int .i64 9, .int .i32 0, .string ⟨#[]⟩] 39 (0, 0))) := Lib.hid (HX.out _ HB4.out).2.1
    have HL4 := Lib.hid hl4
    have HF4 : Hid (∀ k ∈ blk C4, W3.heap.size ≤ k) := Lib.hid (fun k hk => by rcases hf4 k hk with q | q; exact HF2.out k q; have := HB3.out.size; omega)
    clear hl3 hb3' hg3 hr4 hl4 hc4 hf4 hc4b
    refine hK.out _ _ HS3.out (fun _ => ?_)
    clear hK K
    try simp only [Act.put, List.setIfInBounds_toArray, List.set_cons_zero, List.set_cons_succ]
    refine wpAnyH_ready (rs := [7]) (by kernel_rfl) (by simp) ?_
    refine appendT_ready rfl (by kernel_rfl) _ _ _ _ rfl _ _ rfl rfl _ _ HR4.out HS4.out ?_
    try simp only [Act.put, List.setIfInBounds_toArray, List.set_cons_zero, List.set_cons_succ]
    refine wpAnyH_ready (rs := [9]) (by kernel_rfl) (by simp) ?_
    refine AllReadyH.cons rfl (fun K hK => ?_) AllReadyH.nil
    go_simp
    go_at_call 23
    (with_reducible refine (ins_any 2 17 0 1 _).mono ?_)
    rintro en w5 ⟨rfl, hb5⟩
    have HB5 : Hid (Below W3.heap.size W3 w5) := Lib.hid (HB4.out.trans (hb5.mono HB4.out.size))
    have HS5 : Hid (w5.heap[b3 + 1]? = some (.cells #[.int .i64 2, .int .i64 k, .int .i64 10, .int .i64 8, .int .i64 9, .int .i32 0, .string ⟨#[]⟩] 39 (0, 0))) := Lib.hid (HX.out _ HB5.out).2.1
    have HL5 := Lib.hid (HL4.out.below hb5)
    clear hb5
    refine hK.out _ _ HS5.out (fun _ => ?_)
    clear hK K
    try simp only [Act.put, List.setIfInBounds_toArray, List.set_cons_zero, List.set_cons_succ]
    refine wpAnyH_ready (rs := [10]) (by kernel_rfl) (by simp) ?_
    refine AllReadyH.cons rfl (fun K hK => ?_) AllReadyH.nil
    go_simp
    go_at_call 23
    (with_reducible refine (ins_any 30 0 0 0 _).mono ?_)
    rintro en w6 ⟨rfl, hb6⟩
    have HB6 : Hid (Below W3.heap.size W3 w6) := Lib.hid (HB5.out.trans (hb6.mono HB5.out.size))
    have HS6 : Hid (w6.heap[b3 + 1]? = some (.cells #[.int .i64 2, .int .i64 k, .int .i64 10, .int .i64 8, .int .i64 9, .int .i32 0, .string ⟨#[]⟩] 39 (0, 0))) := Lib.hid (HX.out _ HB6.out).2.1
    have HL6 := Lib.hid (HL5.out.below hb6)
    clear hb6
    refine hK.out _ _ HS6.out (fun _ => ?_)
    clear hK K
    try simp only [Act.put, List.setIfInBounds_toArray, List.set_cons_zero, List.set_cons_succ]
    refine wpAnyH_ready (rs := [11]) (by kernel_rfl) (by simp) ?_
    refine AllReadyH.cons rfl (fun K hK => ?_) AllReadyH.nil
    go_simp
    go_at_call 23
    (with_reducible refine (ins_any 2 17 0 3 _).mono ?_)
    rintro en w7 ⟨rfl, hb7⟩
    have HB7 : Hid (Below W3.heap.size W3 w7) := Lib.hid (HB6.out.trans (hb7.mono HB6.out.size))
    have HS7 : Hid (w7.heap[b3 + 1]? = some (.cells #[.int .i64 2, .int .i64 k, .int .i64 10, .int .i64 8, .int .i64 9, .int .i32 0, .string ⟨#[]⟩] 39 (0, 0))) := Lib.hid (HX.out _ HB7.out).2.1
    have HL7 := Lib.hid (HL6.out.below hb7)
    clear hb7
    refine hK.out _ _ HS7.out (fun _ => ?_)
    clear hK K
    try simp only [Act.put, List.setIfInBounds_toArray, List.set_cons_zero, List.set_cons_succ]
    refine wpAnyH_ready (rs := [12]) (by kernel_rfl) (by simp) ?_
    refine AllReadyH.cons rfl (fun K hK => ?_) AllReadyH.nil
    go_simp
    go_at_call 23
    (with_reducible refine (ins_any 30 0 0 0 _).mono ?_)
    rintro en w8 ⟨rfl, hb8⟩
    have HB8 : Hid (Below W3.heap.size W3 w8) := Lib.hid (HB7.out.trans (hb8.mono HB7.out.size))
    have HS8 : Hid (w8.heap[b3 + 1]? = some (.cells #[.int .i64 2, .int .i64 k, .int .i64 10, .int .i64 8, .int .i64 9, .int .i32 0, .string ⟨#[]⟩] 39 (0, 0))) := Lib.hid (HX.out _ HB8.out).2.1
    have HL8 := Lib.hid (HL7.out.below hb8)
    clear hb8
    obtain ⟨w9, hw9⟩ : ∃ w9, w8.alloc (.cells #[.int .i64 2, .int .i64 k, .int .i64 10, .int .i64 8, .int .i64 9, .int .i32 0, .string ⟨#[]⟩, .int .i64 2, .int .i64 2, .int .i64 17, .int .i64 0, .int .i64 0, .int .i32 1, .string ⟨#[]⟩, .int .i64 2, .int .i64 30, .int .i64 0, .int .i64 0, .int .i64 0, .int .i32 0, .string ⟨#[]⟩, .int .i64 2, .int .i64 2, .int .i64 17, .int .i64 0, .int .i64 0, .int .i32 3, .string ⟨#[]⟩, .int .i64 2, .int .i64 30, .int .i64 0, .int .i64 0, .int .i64 0, .int .i32 0, .string ⟨#[]⟩] 39) = w9 := ⟨_, rfl⟩
    have hb9 : Below w8.heap.size w8 w9 := by rw [← hw9]; exact (Below.refl _ _).alloc (Nat.le_refl _) _
    have HB9 : Hid (Below W3.heap.size W3 w9) := Lib.hid (HB8.out.trans (hb9.mono HB8.out.size))
    have HS9 : Hid (w9.heap[b3 + 1]? = some (.cells #[.int .i64 2, .int .i64 k, .int .i64 10, .int .i64 8, .int .i64 9, .int .i32 0, .string ⟨#[]⟩] 39 (0, 0))) := Lib.hid (HX.out _ HB9.out).2.1
    have hl9 : SLine 7 w9 (some ⟨w8.heap.size, 0, none⟩) 5 5 ((reL k).flatMap Ln.cells) := by rw [← hw9]; exact lines_new w8 (reL k) #[.int .i64 2, .int .i64 k, .int .i64 10, .int .i64 8, .int .i64 9, .int .i32 0, .string ⟨#[]⟩, .int .i64 2, .int .i64 2, .int .i64 17, .int .i64 0, .int .i64 0, .int .i32 1, .string ⟨#[]⟩, .int .i64 2, .int .i64 30, .int .i64 0, .int .i64 0, .int .i64 0, .int .i32 0, .string ⟨#[]⟩, .int .i64 2, .int .i64 2, .int .i64 17, .int .i64 0, .int .i64 0, .int .i32 3, .string ⟨#[]⟩, .int .i64 2, .int .i64 30, .int .i64 0, .int .i64 0, .int .i64 0, .int .i32 0, .string ⟨#[]⟩] rfl (by simp [reL])
    obtain ⟨C10, c10, w10, hr10, hl10, hc10, hf10⟩ := lines_push w9 C4 (0 + 3 + 3) c4 ([] ++ rdL 8 ++ rdL 9) (HL8.out.below hb9) (by omega) w8.heap.size 5 5 (reL k) hl9 (by omega) (by omega)
    have hc10b : Below W3.heap.size w9 w10 := hc10.toBelow HF4.out HB9.out.size
    have HR10 := Lib.hid hr10
    have HB10 : Hid (Below W3.heap.size W3 w10) := Lib.hid (HB9.out.trans hc10b)
    have HS10 : Hid (w10.heap[b3 + 1]? = some (.cells #[.int .i64 2, .int .i64 k, .int .i64 10, .int .i64 8, .int .i64 9, .int .i32 0, .string ⟨#[]⟩] 39 (0, 0))) := Lib.hid (HX.out _ HB10.out).2.1
    have HL10 := Lib.hid hl10
    have HF10 : Hid (∀ k ∈ blk C10, W3.heap.size ≤ k) := Lib.hid (fun k hk => by rcases hf10 k hk with q | q; exact HF4.out k q; have := HB9.out.size; omega)
    have HW9 := Lib.hid hw9
    clear hb9 hl9 hr10 hl10 hc10 hf10 hc10b hw9
    refine hK.out _ _ HS8.out (fun _ => ?_)
    clear hK K
    try simp only [Act.put, List.setIfInBounds_toArray, List.set_cons_zero, List.set_cons_succ]
    refine wpAnyH_ready (rs := [13]) (by kernel_rfl) (by simp) ?_
    refine AllReadyH.cons rfl (fun K hK => ?_) AllReadyH.nil
    go_simp
    rw [HW9.out]
    refine hK.out _ _ HS9.out (fun _ => ?_)
    clear hK K
    try simp only [Act.put, List.setIfInBounds_toArray, List.set_cons_zero, List.set_cons_succ]
    refine wpAnyH_ready (rs := [14]) (by kernel_rfl) (by simp) ?_
    refine appendT_ready rfl (by kernel_rfl) _ _ _ _ rfl _ _ rfl rfl _ _ HR10.out HS10.out ?_
    try simp only [Act.put, List.setIfInBounds_toArray, List.set_cons_zero, List.set_cons_succ]
    refine takeH 15 35 (v := (.pointer (some ⟨b3 + 2, 2, none⟩))) rfl rfl (by kernel_rfl) (by kernel_rfl) (by kernel_rfl) (fun _ _ _ h => h) (by rfl) ?_ HS10.out ?_
    · intro w hSw
      obtain ⟨y0, y1, y2, y3, y4, y5, y6, yf⟩ := box7 hSw
      go_simp
    try simp only [Act.put, List.setIfInBounds_toArray, List.set_cons_zero, List.set_cons_succ]
    refine wpAnyH_ready (rs := [16]) (by kernel_rfl) (by simp) ?_
    refine AllReadyH.cons rfl (fun K hK => ?_) AllReadyH.nil
    have a2 : w10.cell? ⟨b3 + 2, 2, none⟩ = some (.slice none 0 0) := by rw [cell_of_row _ _ 2 _ _ (0, 0) (HX.out _ HB10.out).2.2]; rfl
    have f2 : w10.frozen? ⟨b3 + 2, 2, none⟩ = false := frozen_of_row _ _ 2 _ _ (HX.out _ HB10.out).2.2
    obtain ⟨w11, hw11⟩ : ∃ w11, w10.setCell ⟨b3 + 2, 2, none⟩ (.slice C10 (0 + 3 + 3 + 5) c10) = w11 := ⟨_, rfl⟩
    have HS11 : Hid (w11.heap[b3 + 1]? = some (.cells #[.int .i64 2, .int .i64 k, .int .i64 10, .int .i64 8, .int .i64 9, .int .i32 0, .string ⟨#[]⟩] 39 (0, 0))) := Lib.hid (by rw [← hw11]; exact (setCell_off _ _ _ _ _ (by omega)).trans HS10.out)
    have HW11 := Lib.hid hw11
    go_simp
    try rw [HW11.out]
    refine hK.out _ _ HS11.out (fun _ => ?_)
    clear hK K
    try simp only [Act.put, List.setIfInBounds_toArray, List.set_cons_zero, List.set_cons_succ]
    refine wpAnyH_done (by kernel_rfl) ?_ _
    have hw0 : Below W.heap.size W w10 := HB.out.trans (HB10.out.mono HB.out.size)
    have hz0 := HB.out.size
    have hc11 : Chg [b3 + 2] w10 w11 := by rw [← HW11.out]; exact (Chg.refl _ _).setCell (b3 + 2) 2 _ (.inl (by simp))
    have HW := Lib.hid (hw0.trans (hc11.toBelow (fun k hk => by rw [List.mem_singleton] at hk; have := HSZ.out.1; omega) hw0.size))
    have hl11 : SLine 7 w11 C10 (recL k).length c10 ((recL k).flatMap Ln.cells) := HL10.out.chg hc11 (fun q hq => by rw [List.mem_singleton]; have := HF10.out q hq; have := HSZ.out.2; omega)
    have hasm : w11.heap[b3 + 2]? = some (.cells #[.slice none 0 0, .int .i64 0, .slice C10 11 c10] 25 (0, 0)) := by rw [← HW11.out, heap_setCell_same w10 (b3 + 2) 2 _ _ _ (HX.out _ HB10.out).2.2]; rfl
    have hv0 : w11.heap[b3]? = some (.cells #[.int .i32 x, .int .i32 y] 48 (0, 0)) := (hc11.same b3 (by have := (Array.getElem?_eq_some_iff.1 (HX.out _ HB10.out).1).1; exact this) (by rw [List.mem_singleton]; omega)).trans (HX.out _ HB10.out).1
    have hv1 : w11.heap[b3 + 1]? = some (.cells #[.int .i64 2, .int .i64 k, .int .i64 10, .int .i64 8, .int .i64 9, .int .i32 0, .string ⟨#[]⟩] 39 (0, 0)) := HS11.out
    have HY : Hid (∀ V, Below w11.heap.size w11 V → V.heap[b3]? = some (.cells #[.int .i32 x, .int .i32 y] 48 (0, 0)) ∧ V.heap[b3 + 1]? = some (.cells #[.int .i64 2, .int .i64 k, .int .i64 10, .int .i64 8, .int .i64 9, .int .i32 0, .string ⟨#[]⟩] 39 (0, 0))) := Lib.hid (fun V hV => ⟨(hV.block _ (Array.getElem?_eq_some_iff.1 hv0).1).trans hv0, (hV.block _ (Array.getElem?_eq_some_iff.1 hv1).1).trans hv1⟩)
    have HLD := Lib.hid (load_plain w11 C10 11 c10 (recL k) (SLine.lnsAt hl11) (by omega) (rec_plain k HK.out.1 HK.out.2) (rec_may k HK.out.1 HK.out.2))
    have z0 : w11.cell? ⟨b3 + 2, 0, none⟩ = some (.slice none 0 0) := by rw [cell_of_row _ _ 0 _ _ (0, 0) hasm]; rfl
    have z1 : w11.cell? ⟨b3 + 2, 1, none⟩ = some (.int .i64 0) := by rw [cell_of_row _ _ 1 _ _ (0, 0) hasm]; rfl
    have z2 : w11.cell? ⟨b3 + 2, 2, none⟩ = some (.slice C10 11 c10) := by rw [cell_of_row _ _ 2 _ _ (0, 0) hasm]; rfl
    clear hw0 hz0 hc11 hl11 hasm hv0 hv1
    clear HW11 HS11 HR10 HL10 HF10 HB10 HS10 HX HB
    go_wp2_with fail
    refine (HLD.out).mono ?_
    clear HLD z0 z1 z2
    rintro e w12 ⟨m, M, A, c, n, rfl, hR⟩
    have HR := Lib.hid hR
    have hv12 := (HY.out w12 hR.below).1
    have hrow : RowK .i32 w12 (some ⟨b3, 0, none⟩) 2 [x, y] := ⟨rfl, fun _ => ⟨b3, 0, rfl, (Array.getElem?_eq_some_iff.1 hv12).1, fun i hi => by
      rw [cell_of_row _ _ _ _ _ (0, 0) hv12]
      obtain rfl | rfl : i = 0 ∨ i = 1 := by omega
      · rfl
      · rfl⟩⟩
    have HRUN := Lib.hid (run_plain w11 w12 m M A c (recL k) n hR (fun l hl => ok_of_may (rec_plain k HK.out.1 HK.out.2 l hl).k (rec_plain k HK.out.1 HK.out.2 l hl).n (rec_may k HK.out.1 HK.out.2 l hl)) (by show (11 : Nat) ≤ 1000; omega) (some ⟨b3, 0, none⟩) 2 2 [x, y] hrow (by omega) 100 (by omega))
    rw [rec_run k x y HK.out.1 HK.out.2 HXY.out.1 HXY.out.2] at HRUN
    obtain ⟨v, hv⟩ : ∃ v, reckI k x y = v := ⟨_, rfl⟩
    rw [hv] at HRUN
    have HV := Lib.hid hv
    have HRUN2 := Lib.hid (HRUN.out.mono (R' := fun e w' => ∃ g off c, e = .returned (.agg #[.int .i64 1, .int .i32 v, .slice (some ⟨g, off, none⟩) 1 c, .int .i64 11, .int .i64 2]) ∧ Below w12.heap.size w12 w' ∧ g < w'.heap.size ∧ w'.cell? ⟨g, off, none⟩ = some (.int .i32 v)) (fun e w' h => by
      obtain ⟨A, c, he, hl, hb, _⟩ := h
      obtain ⟨g, off, e1, hg, hcell, _⟩ := hl.at (by show 0 < 1; omega)
      subst e1
      refine ⟨g, off, c, he, hb, hg, ?_⟩
      have := hcell 0 (by show 0 < 1 * 1; omega)
      rw [Nat.add_zero] at this
      rw [this]
      rfl))
    clear HRUN hrow hR hv hv12
    go_wp2_with fail
    refine HRUN2.out.mono ?_
    clear HRUN2
    rintro e w13 ⟨g, off, c7, rfl, hb13, hg13, hc13⟩
    have hb11 : Below w11.heap.size w11 w13 := HR.out.below.trans (hb13.mono HR.out.below.size)
    obtain ⟨W14, hW14⟩ : ∃ W14, w13.alloc (.cells #[.int .i64 1, .int .i32 v, .slice (some ⟨g, off, none⟩) 1 c7, .int .i64 11, .int .i64 2] 57) = W14 := ⟨_, rfl⟩
    obtain ⟨b11, hb11e⟩ : ∃ b11, w13.heap.size = b11 := ⟨_, rfl⟩
    have hbn : Below w13.heap.size w13 W14 := by rw [← hW14]; exact (Below.refl _ _).alloc (Nat.le_refl _) _
    have hx14 : W14.heap[b11]? = some (.cells #[.int .i64 1, .int .i32 v, .slice (some ⟨g, off, none⟩) 1 c7, .int .i64 11, .int .i64 2] 57 (0, 0)) := by rw [← hW14, ← hb11e]; exact heap_alloc_new w13 _
    have hb14 : Below w11.heap.size w11 W14 := hb11.trans (hbn.mono hb11.size)
    have hc14 : W14.cell? ⟨g, off, none⟩ = some (.int .i32 v) := (hbn.cell (p := ⟨g, off, none⟩) hg13).trans hc13
    have hg14 : g < W14.heap.size := Nat.lt_of_lt_of_le hg13 hbn.size
    have HZ : Hid (∀ V, Below W14.heap.size W14 V → V.cell? ⟨g, off, none⟩ = some (.int .i32 v) ∧ V.heap[b11]? = some (.cells #[.int .i64 1, .int .i32 v, .slice (some ⟨g, off, none⟩) 1 c7, .int .i64 11, .int .i64 2] 57 (0, 0))) := Lib.hid (fun V hV => ⟨(hV.cell (p := ⟨g, off, none⟩) hg14).trans hc14, (hV.block _ (Array.getElem?_eq_some_iff.1 hx14).1).trans hx14⟩)
    obtain ⟨l0, l1, l2, l3, l4, l5, l6, lf⟩ := box7 (HY.out W14 hb14).2
    have hv14 := (HY.out W14 hb14).1
    have n0 : W14.cell? ⟨b3, 0, none⟩ = some (.int .i32 x) := by rw [cell_of_row _ _ 0 _ _ (0, 0) hv14]; rfl
    have n1 : W14.cell? ⟨b3, 1, none⟩ = some (.int .i32 y) := by rw [cell_of_row _ _ 1 _ _ (0, 0) hv14]; rfl
    have HB14 := Lib.hid hb14
    have HST := Lib.hid (fun V => step_any k 10 8 9 0 x y 0 (by have := HK.out.1; omega) (by have := HK.out.2; omega) ⟨#[]⟩ V)
    rw [stepI_regs HK.out.1 HK.out.2, HV.out] at HST
    dsimp only at HST
    clear hb13 hg13 hc13 hb11 hbn hx14 hb14 hc14 hg14 hv14 HR
    have hvv : (v == v) = true := by simp
    go_wp2_with (first
      | (go_at_call 16; (with_reducible refine (HST.out _).mono ?_); rintro e w15 ⟨rfl, hb15⟩; obtain ⟨q0, q1⟩ := HZ.out _ hb15; have p0 : w15.cell? ⟨b11, 0, none⟩ = some (.int .i64 1) := (by rw [cell_of_row _ _ 0 _ _ (0, 0) q1]; rfl); have p1 : w15.cell? ⟨b11, 1, none⟩ = some (.int .i32 v) := (by rw [cell_of_row _ _ 1 _ _ (0, 0) q1]; rfl); have p2 : w15.cell? ⟨b11, 2, none⟩ = some (.slice (some ⟨g, off, none⟩) 1 c7) := (by rw [cell_of_row _ _ 2 _ _ (0, 0) q1]; rfl); have p3 : w15.cell? ⟨b11, 3, none⟩ = some (.int .i64 11) := (by rw [cell_of_row _ _ 3 _ _ (0, 0) q1]; rfl); have HB15 := Lib.hid (HB14.out.trans (hb15.mono HB14.out.size)); clear hb15 q1)
      | (go_at_call 8; refine (lives18 _).mono ?_; rintro e w16 ⟨rfl, hb16⟩; have HB16 := Lib.hid (HB15.out.trans (hb16.mono HB15.out.size)); clear hb16))
    go_ret
    exact ⟨rfl, HW.out.trans (HB16.out.mono HW.out.size)⟩
  · go_simp
    go_at_call 22
    (with_reducible refine (read1_any 8 _).mono ?_)
    rintro en w1 ⟨g1, rfl, hl1, hb1, hg1⟩
    have HB1 : Hid (Below W3.heap.size W3 w1) := Lib.hid (((Below.refl _ W3).drew).trans hb1)
    have HS1 : Hid (w1.heap[b3 + 1]? = some (.cells #[.int .i64 2, .int .i64 k, .int .i64 10, .int .i64 8, .int .i64 9, .int .i32 0, .string ⟨#[]⟩] 39 (0, 0))) := Lib.hid (HX.out _ HB1.out).2.1
    have a2 : w1.cell? ⟨b3 + 2, 2, none⟩ = some (.slice none 0 0) := by rw [cell_of_row _ _ 2 _ _ (0, 0) (HX.out _ HB1.out).2.2]; rfl
    obtain ⟨C2, c2, w2, hr2, hl2, hc2, hf2⟩ := lines_push w1 none 0 0 [] (SLine.nil 7 _) (by omega) g1 3 3 (rdL 8) hl1 (by omega) (by omega)
    have hc2b : Below w1.heap.size w1 w2 := hc2.toBelow (fun k hk => (by cases hk)) (Nat.le_refl _)
    have HR2 := Lib.hid hr2
    have HB2 : Hid (Below W3.heap.size W3 w2) := Lib.hid (HB1.out.trans (hc2b.mono HB1.out.size))
    have HS2 : Hid (w2.heap[b3 + 1]? = some (.cells #[.int .i64 2, .int .i64 k, .int .i64 10, .int .i64 8, .int .i64 9, .int .i32 0, .string ⟨#[]⟩] 39 (0, 0))) := Lib.hid (HX.out _ HB2.out).2.1
    have HL2 := Lib.hid hl2
    have HF2 : Hid (∀ k ∈ blk C2, W3.heap.size ≤ k) := Lib.hid (fun k hk => by rcases hf2 k hk with q | q; (cases q); have := HB1.out.size; omega)
    clear hl1 hb1 hg1 hr2 hl2 hc2 hf2 hc2b
    refine hK.out _ _ HS1.out (fun _ => ?_)
    clear hK K
    try simp only [Act.put, List.setIfInBounds_toArray, List.set_cons_zero, List.set_cons_succ]
    refine wpAnyH_ready (rs := [1]) (by kernel_rfl) (by simp) ?_
    refine AllReadyH.cons rfl (fun K hK => ?_) AllReadyH.nil
    go_simp
    refine hK.out _ _ HS1.out (fun _ => ?_)
    clear hK K
    try simp only [Act.put, List.setIfInBounds_toArray, List.set_cons_zero, List.set_cons_succ]
    refine wpAnyH_ready (rs := [4]) (by kernel_rfl) (by simp) ?_
    refine appendT_ready rfl (by kernel_rfl) _ _ _ _ rfl _ _ rfl rfl _ _ HR2.out HS2.out ?_
    try simp only [Act.put, List.setIfInBounds_toArray, List.set_cons_zero, List.set_cons_succ]
    refine wpAnyH_ready (rs := [6]) (by kernel_rfl) (by simp) ?_
    refine AllReadyH.cons rfl (fun K hK => ?_) AllReadyH.nil
    go_simp
    go_at_call 22
    (with_reducible refine (read1_any 9 _).mono ?_)
    rintro en w3 ⟨g3, rfl, hl3, hb3', hg3⟩
    have HB3 : Hid (Below W3.heap.size W3 w3) := Lib.hid (HB2.out.trans (hb3'.mono HB2.out.size))
    have HS3 : Hid (w3.heap[b3 + 1]? = some (.cells #[.int .i64 2, .int .i64 k, .int .i64 10, .int .i64 8, .int .i64 9, .int .i32 0, .string ⟨#[]⟩] 39 (0, 0))) := Lib.hid (HX.out _ HB3.out).2.1
    obtain ⟨C4, c4, w4, hr4, hl4, hc4, hf4⟩ := lines_push w3 C2 (0 + 3) c2 ([] ++ rdL 8) (HL2.out.below hb3') (by omega) g3 3 3 (rdL 9) hl3 (by omega) (by omega)
    have hc4b : Below W3.heap.size w3 w4 := hc4.toBelow HF2.out HB3.out.size
    have HR4 := Lib.hid hr4
    have HB4 : Hid (Below W3.heap.size W3 w4) := Lib.hid (HB3.out.trans hc4b)
    have HS4 : Hid (w4.heap[b3 + 1]? = some (.cells #[.int .i64 2, .int .i64 k, .int .i64 10, .int .i64 8, .int .i64 9, .int .i32 0, .string ⟨#[]⟩] 39 (0, 0))) := Lib.hid (HX.out _ HB4.out).2.1
    have HL4 := Lib.hid hl4
    have HF4 : Hid (∀ k ∈ blk C4, W3.heap.size ≤ k) := Lib.hid (fun k hk => by rcases hf4 k hk with q | q; exact HF2.out k q; have := HB3.out.size; omega)
    clear hl3 hb3' hg3 hr4 hl4 hc4 hf4 hc4b
    refine hK.out _ _ HS3.out (fun _ => ?_)
    clear hK K
    try simp only [Act.put, List.setIfInBounds_toArray, List.set_cons_zero, List.set_cons_succ]
    refine wpAnyH_ready (rs := [7]) (by kernel_rfl) (by simp) ?_
    refine appendT_ready rfl (by kernel_rfl) _ _ _ _ rfl _ _ rfl rfl _ _ HR4.out HS4.out ?_
    try simp only [Act.put, List.setIfInBounds_toArray, List.set_cons_zero, List.set_cons_succ]
    refine wpAnyH_ready (rs := [9]) (by kernel_rfl) (by simp) ?_
    refine AllReadyH.cons rfl (fun K hK => ?_) AllReadyH.nil
    go_simp
    go_at_call 23
    (with_reducible refine (ins_any 2 17 0 1 _).mono ?_)
    rintro en w5 ⟨rfl, hb5⟩
    have HB5 : Hid (Below W3.heap.size W3 w5) := Lib.hid (HB4.out.trans (hb5.mono HB4.out.size))
    have HS5 : Hid (w5.heap[b3 + 1]? = some (.cells #[.int .i64 2, .int .i64 k, .int .i64 10, .int .i64 8, .int .i64 9, .int .i32 0, .string ⟨#[]⟩] 39 (0, 0))) := Lib.hid (HX.out _ HB5.out).2.1
    have HL5 := Lib.hid (HL4.out.below hb5)
    clear hb5
    refine hK.out _ _ HS5.out (fun _ => ?_)
    clear hK K
    try simp only [Act.put, List.setIfInBounds_toArray, List.set_cons_zero, List.set_cons_succ]
    refine wpAnyH_ready (rs := [10]) (by kernel_rfl) (by simp) ?_
    refine AllReadyH.cons rfl (fun K hK => ?_) AllReadyH.nil
    go_simp
    go_at_call 23
    (with_reducible refine (ins_any 30 0 0 0 _).mono ?_)
    rintro en w6 ⟨rfl, hb6⟩
    have HB6 : Hid (Below W3.heap.size W3 w6) := Lib.hid (HB5.out.trans (hb6.mono HB5.out.size))
    have HS6 : Hid (w6.heap[b3 + 1]? = some (.cells #[.int .i64 2, .int .i64 k, .int .i64 10, .int .i64 8, .int .i64 9, .int .i32 0, .string ⟨#[]⟩] 39 (0, 0))) := Lib.hid (HX.out _ HB6.out).2.1
    have HL6 := Lib.hid (HL5.out.below hb6)
    clear hb6
    refine hK.out _ _ HS6.out (fun _ => ?_)
    clear hK K
    try simp only [Act.put, List.setIfInBounds_toArray, List.set_cons_zero, List.set_cons_succ]
    refine wpAnyH_ready (rs := [11]) (by kernel_rfl) (by simp) ?_
    refine AllReadyH.cons rfl (fun K hK => ?_) AllReadyH.nil
    go_simp
    go_at_call 23
    (with_reducible refine (ins_any 2 17 0 3 _).mono ?_)
    rintro en w7 ⟨rfl, hb7⟩
    have HB7 : Hid (Below W3.heap.size W3 w7) := Lib.hid (HB6.out.trans (hb7.mono HB6.out.size))
    have HS7 : Hid (w7.heap[b3 + 1]? = some (.cells #[.int .i64 2, .int .i64 k, .int .i64 10, .int .i64 8, .int .i64 9, .int .i32 0, .string ⟨#[]⟩] 39 (0, 0))) := Lib.hid (HX.out _ HB7.out).2.1
    have HL7 := Lib.hid (HL6.out.below hb7)
    clear hb7
    refine hK.out _ _ HS7.out (fun _ => ?_)
    clear hK K
    try simp only [Act.put, List.setIfInBounds_toArray, List.set_cons_zero, List.set_cons_succ]
    refine wpAnyH_ready (rs := [12]) (by kernel_rfl) (by simp) ?_
    refine AllReadyH.cons rfl (fun K hK => ?_) AllReadyH.nil
    go_simp
    go_at_call 23
    (with_reducible refine (ins_any 30 0 0 0 _).mono ?_)
    rintro en w8 ⟨rfl, hb8⟩
    have HB8 : Hid (Below W3.heap.size W3 w8) := Lib.hid (HB7.out.trans (hb8.mono HB7.out.size))
    have HS8 : Hid (w8.heap[b3 + 1]? = some (.cells #[.int .i64 2, .int .i64 k, .int .i64 10, .int .i64 8, .int .i64 9, .int .i32 0, .string ⟨#[]⟩] 39 (0, 0))) := Lib.hid (HX.out _ HB8.out).2.1
    have HL8 := Lib.hid (HL7.out.below hb8)
    clear hb8
    obtain ⟨w9, hw9⟩ : ∃ w9, w8.alloc (.cells #[.int .i64 2, .int .i64 k, .int .i64 10, .int .i64 8, .int .i64 9, .int .i32 0, .string ⟨#[]⟩, .int .i64 2, .int .i64 2, .int .i64 17, .int .i64 0, .int .i64 0, .int .i32 1, .string ⟨#[]⟩, .int .i64 2, .int .i64 30, .int .i64 0, .int .i64 0, .int .i64 0, .int .i32 0, .string ⟨#[]⟩, .int .i64 2, .int .i64 2, .int .i64 17, .int .i64 0, .int .i64 0, .int .i32 3, .string ⟨#[]⟩, .int .i64 2, .int .i64 30, .int .i64 0, .int .i64 0, .int .i64 0, .int .i32 0, .string ⟨#[]⟩] 39) = w9 := ⟨_, rfl⟩
    have hb9 : Below w8.heap.size w8 w9 := by rw [← hw9]; exact (Below.refl _ _).alloc (Nat.le_refl _) _
    have HB9 : Hid (Below W3.heap.size W3 w9) := Lib.hid (HB8.out.trans (hb9.mono HB8.out.size))
    have HS9 : Hid (w9.heap[b3 + 1]? = some (.cells #[.int .i64 2, .int .i64 k, .int .i64 10, .int .i64 8, .int .i64 9, .int .i32 0, .string ⟨#[]⟩] 39 (0, 0))) := Lib.hid (HX.out _ HB9.out).2.1
    have hl9 : SLine 7 w9 (some ⟨w8.heap.size, 0, none⟩) 5 5 ((reL k).flatMap Ln.cells) := by rw [← hw9]; exact lines_new w8 (reL k) #[.int .i64 2, .int .i64 k, .int .i64 10, .int .i64 8, .int .i64 9, .int .i32 0, .string ⟨#[]⟩, .int .i64 2, .int .i64 2, .int .i64 17, .int .i64 0, .int .i64 0, .int .i32 1, .string ⟨#[]⟩, .int .i64 2, .int .i64 30, .int .i64 0, .int .i64 0, .int .i64 0, .int .i32 0, .string ⟨#[]⟩, .int .i64 2, .int .i64 2, .int .i64 17, .int .i64 0, .int .i64 0, .int .i32 3, .string ⟨#[]⟩, .int .i64 2, .int .i64 30, .int .i64 0, .int .i64 0, .int .i64 0, .int .i32 0, .string ⟨#[]⟩] rfl (by simp [reL])
    obtain ⟨C10, c10, w10, hr10, hl10, hc10, hf10⟩ := lines_push w9 C4 (0 + 3 + 3) c4 ([] ++ rdL 8 ++ rdL 9) (HL8.out.below hb9) (by omega) w8.heap.size 5 5 (reL k) hl9 (by omega) (by omega)
    have hc10b : Below W3.heap.size w9 w10 := hc10.toBelow HF4.out HB9.out.size
    have HR10 := Lib.hid hr10
    have HB10 : Hid (Below W3.heap.size W3 w10) := Lib.hid (HB9.out.trans hc10b)
    have HS10 : Hid (w10.heap[b3 + 1]? = some (.cells #[.int .i64 2, .int .i64 k, .int .i64 10, .int .i64 8, .int .i64 9, .int .i32 0, .string ⟨#[]⟩] 39 (0, 0))) := Lib.hid (HX.out _ HB10.out).2.1
    have HL10 := Lib.hid hl10
    have HF10 : Hid (∀ k ∈ blk C10, W3.heap.size ≤ k) := Lib.hid (fun k hk => by rcases hf10 k hk with q | q; exact HF4.out k q; have := HB9.out.size; omega)
    have HW9 := Lib.hid hw9
    clear hb9 hl9 hr10 hl10 hc10 hf10 hc10b hw9
    refine hK.out _ _ HS8.out (fun _ => ?_)
    clear hK K
    try simp only [Act.put, List.setIfInBounds_toArray, List.set_cons_zero, List.set_cons_succ]
    refine wpAnyH_ready (rs := [13]) (by kernel_rfl) (by simp) ?_
    refine AllReadyH.cons rfl (fun K hK => ?_) AllReadyH.nil
    go_simp
    rw [HW9.out]
    refine hK.out _ _ HS9.out (fun _ => ?_)
    clear hK K
    try simp only [Act.put, List.setIfInBounds_toArray, List.set_cons_zero, List.set_cons_succ]
    refine wpAnyH_ready (rs := [14]) (by kernel_rfl) (by simp) ?_
    refine appendT_ready rfl (by kernel_rfl) _ _ _ _ rfl _ _ rfl rfl _ _ HR10.out HS10.out ?_
    try simp only [Act.put, List.setIfInBounds_toArray, List.set_cons_zero, List.set_cons_succ]
    refine takeH 15 35 (v := (.pointer (some ⟨b3 + 2, 2, none⟩))) rfl rfl (by kernel_rfl) (by kernel_rfl) (by kernel_rfl) (fun _ _ _ h => h) (by rfl) ?_ HS10.out ?_
    · intro w hSw
      obtain ⟨y0, y1, y2, y3, y4, y5, y6, yf⟩ := box7 hSw
      go_simp
    try simp only [Act.put, List.setIfInBounds_toArray, List.set_cons_zero, List.set_cons_succ]
    refine wpAnyH_ready (rs := [16]) (by kernel_rfl) (by simp) ?_
    refine AllReadyH.cons rfl (fun K hK => ?_) AllReadyH.nil
    have a2 : w10.cell? ⟨b3 + 2, 2, none⟩ = some (.slice none 0 0) := by rw [cell_of_row _ _ 2 _ _ (0, 0) (HX.out _ HB10.out).2.2]; rfl
    have f2 : w10.frozen? ⟨b3 + 2, 2, none⟩ = false := frozen_of_row _ _ 2 _ _ (HX.out _ HB10.out).2.2
    obtain ⟨w11, hw11⟩ : ∃ w11, w10.setCell ⟨b3 + 2, 2, none⟩ (.slice C10 (0 + 3 + 3 + 5) c10) = w11 := ⟨_, rfl⟩
    have HS11 : Hid (w11.heap[b3 + 1]? = some (.cells #[.int .i64 2, .int .i64 k, .int .i64 10, .int .i64 8, .int .i64 9, .int .i32 0, .string ⟨#[]⟩] 39 (0, 0))) := Lib.hid (by rw [← hw11]; exact (setCell_off _ _ _ _ _ (by omega)).trans HS10.out)
    have HW11 := Lib.hid hw11
    go_simp
    try rw [HW11.out]
    refine hK.out _ _ HS11.out (fun _ => ?_)
    clear hK K
    try simp only [Act.put, List.setIfInBounds_toArray, List.set_cons_zero, List.set_cons_succ]
    refine wpAnyH_done (by kernel_rfl) ?_ _
    have hw0 : Below W.heap.size W w10 := HB.out.trans (HB10.out.mono HB.out.size)
    have hz0 := HB.out.size
    have hc11 : Chg [b3 + 2] w10 w11 := by rw [← HW11.out]; exact (Chg.refl _ _).setCell (b3 + 2) 2 _ (.inl (by simp))
    have HW := Lib.hid (hw0.trans (hc11.toBelow (fun k hk => by rw [List.mem_singleton] at hk; have := HSZ.out.1; omega) hw0.size))
    have hl11 : SLine 7 w11 C10 (recL k).length c10 ((recL k).flatMap Ln.cells) := HL10.out.chg hc11 (fun q hq => by rw [List.mem_singleton]; have := HF10.out q hq; have := HSZ.out.2; omega)
    have hasm : w11.heap[b3 + 2]? = some (.cells #[.slice none 0 0, .int .i64 0, .slice C10 11 c10] 25 (0, 0)) := by rw [← HW11.out, heap_setCell_same w10 (b3 + 2) 2 _ _ _ (HX.out _ HB10.out).2.2]; rfl
    have hv0 : w11.heap[b3]? = some (.cells #[.int .i32 x, .int .i32 y] 48 (0, 0)) := (hc11.same b3 (by have := (Array.getElem?_eq_some_iff.1 (HX.out _ HB10.out).1).1; exact this) (by rw [List.mem_singleton]; omega)).trans (HX.out _ HB10.out).1
    have hv1 : w11.heap[b3 + 1]? = some (.cells #[.int .i64 2, .int .i64 k, .int .i64 10, .int .i64 8, .int .i64 9, .int .i32 0, .string ⟨#[]⟩] 39 (0, 0)) := HS11.out
    have HY : Hid (∀ V, Below w11.heap.size w11 V → V.heap[b3]? = some (.cells #[.int .i32 x, .int .i32 y] 48 (0, 0)) ∧ V.heap[b3 + 1]? = some (.cells #[.int .i64 2, .int .i64 k, .int .i64 10, .int .i64 8, .int .i64 9, .int .i32 0, .string ⟨#[]⟩] 39 (0, 0))) := Lib.hid (fun V hV => ⟨(hV.block _ (Array.getElem?_eq_some_iff.1 hv0).1).trans hv0, (hV.block _ (Array.getElem?_eq_some_iff.1 hv1).1).trans hv1⟩)
    have HLD := Lib.hid (load_plain w11 C10 11 c10 (recL k) (SLine.lnsAt hl11) (by omega) (rec_plain k HK.out.1 HK.out.2) (rec_may k HK.out.1 HK.out.2))
    have z0 : w11.cell? ⟨b3 + 2, 0, none⟩ = some (.slice none 0 0) := by rw [cell_of_row _ _ 0 _ _ (0, 0) hasm]; rfl
    have z1 : w11.cell? ⟨b3 + 2, 1, none⟩ = some (.int .i64 0) := by rw [cell_of_row _ _ 1 _ _ (0, 0) hasm]; rfl
    have z2 : w11.cell? ⟨b3 + 2, 2, none⟩ = some (.slice C10 11 c10) := by rw [cell_of_row _ _ 2 _ _ (0, 0) hasm]; rfl
    clear hw0 hz0 hc11 hl11 hasm hv0 hv1
    clear HW11 HS11 HR10 HL10 HF10 HB10 HS10 HX HB
    go_wp2_with fail
    refine (HLD.out).mono ?_
    clear HLD z0 z1 z2
    rintro e w12 ⟨m, M, A, c, n, rfl, hR⟩
    have HR := Lib.hid hR
    have hv12 := (HY.out w12 hR.below).1
    have hrow : RowK .i32 w12 (some ⟨b3, 0, none⟩) 2 [x, y] := ⟨rfl, fun _ => ⟨b3, 0, rfl, (Array.getElem?_eq_some_iff.1 hv12).1, fun i hi => by
      rw [cell_of_row _ _ _ _ _ (0, 0) hv12]
      obtain rfl | rfl : i = 0 ∨ i = 1 := by omega
      · rfl
      · rfl⟩⟩
    have HRUN := Lib.hid (run_plain w11 w12 m M A c (recL k) n hR (fun l hl => ok_of_may (rec_plain k HK.out.1 HK.out.2 l hl).k (rec_plain k HK.out.1 HK.out.2 l hl).n (rec_may k HK.out.1 HK.out.2 l hl)) (by show (11 : Nat) ≤ 1000; omega) (some ⟨b3, 0, none⟩) 2 2 [x, y] hrow (by omega) 100 (by omega))
    rw [rec_run k x y HK.out.1 HK.out.2 HXY.out.1 HXY.out.2] at HRUN
    obtain ⟨v, hv⟩ : ∃ v, reckI k x y = v := ⟨_, rfl⟩
    rw [hv] at HRUN
    have HV := Lib.hid hv
    have HRUN2 := Lib.hid (HRUN.out.mono (R' := fun e w' => ∃ g off c, e = .returned (.agg #[.int .i64 1, .int .i32 v, .slice (some ⟨g, off, none⟩) 1 c, .int .i64 11, .int .i64 2]) ∧ Below w12.heap.size w12 w' ∧ g < w'.heap.size ∧ w'.cell? ⟨g, off, none⟩ = some (.int .i32 v)) (fun e w' h => by
      obtain ⟨A, c, he, hl, hb, _⟩ := h
      obtain ⟨g, off, e1, hg, hcell, _⟩ := hl.at (by show 0 < 1; omega)
      subst e1
      refine ⟨g, off, c, he, hb, hg, ?_⟩
      have := hcell 0 (by show 0 < 1 * 1; omega)
      rw [Nat.add_zero] at this
      rw [this]
      rfl))
    clear HRUN hrow hR hv hv12
    go_wp2_with fail
    refine HRUN2.out.mono ?_
    clear HRUN2
    rintro e w13 ⟨g, off, c7, rfl, hb13, hg13, hc13⟩
    have hb11 : Below w11.heap.size w11 w13 := HR.out.below.trans (hb13.mono HR.out.below.size)
    obtain ⟨W14, hW14⟩ : ∃ W14, w13.alloc (.cells #[.int .i64 1, .int .i32 v, .slice (some ⟨g, off, none⟩) 1 c7, .int .i64 11, .int .i64 2] 57) = W14 := ⟨_, rfl⟩
    obtain ⟨b11, hb11e⟩ : ∃ b11, w13.heap.size = b11 := ⟨_, rfl⟩
    have hbn : Below w13.heap.size w13 W14 := by rw [← hW14]; exact (Below.refl _ _).alloc (Nat.le_refl _) _
    have hx14 : W14.heap[b11]? = some (.cells #[.int .i64 1, .int .i32 v, .slice (some ⟨g, off, none⟩) 1 c7, .int .i64 11, .int .i64 2] 57 (0, 0)) := by rw [← hW14, ← hb11e]; exact heap_alloc_new w13 _
    have hb14 : Below w11.heap.size w11 W14 := hb11.trans (hbn.mono hb11.size)
    have hc14 : W14.cell? ⟨g, off, none⟩ = some (.int .i32 v) := (hbn.cell (p := ⟨g, off, none⟩) hg13).trans hc13
    have hg14 : g < W14.heap.size := Nat.lt_of_lt_of_le hg13 hbn.size
    have HZ : Hid (∀ V, Below W14.heap.size W14 V → V.cell? ⟨g, off, none⟩ = some (.int .i32 v) ∧ V.heap[b11]? = some (.cells #[.int .i64 1, .int .i32 v, .slice (some ⟨g, off, none⟩) 1 c7, .int .i64 11, .int .i64 2] 57 (0, 0))) := Lib.hid (fun V hV => ⟨(hV.cell (p := ⟨g, off, none⟩) hg14).trans hc14, (hV.block _ (Array.getElem?_eq_some_iff.1 hx14).1).trans hx14⟩)
    obtain ⟨l0, l1, l2, l3, l4, l5, l6, lf⟩ := box7 (HY.out W14 hb14).2
    have hv14 := (HY.out W14 hb14).1
    have n0 : W14.cell? ⟨b3, 0, none⟩ = some (.int .i32 x) := by rw [cell_of_row _ _ 0 _ _ (0, 0) hv14]; rfl
    have n1 : W14.cell? ⟨b3, 1, none⟩ = some (.int .i32 y) := by rw [cell_of_row _ _ 1 _ _ (0, 0) hv14]; rfl
    have HB14 := Lib.hid hb14
    have HST := Lib.hid (fun V => step_any k 10 8 9 0 x y 0 (by have := HK.out.1; omega) (by have := HK.out.2; omega) ⟨#[]⟩ V)
    rw [stepI_regs HK.out.1 HK.out.2, HV.out] at HST
    dsimp only at HST
    clear hb13 hg13 hc13 hb11 hbn hx14 hb14 hc14 hg14 hv14 HR
    have hvv : (v == v) = true := by simp
    go_wp2_with (first
      | (go_at_call 16; (with_reducible refine (HST.out _).mono ?_); rintro e w15 ⟨rfl, hb15⟩; obtain ⟨q0, q1⟩ := HZ.out _ hb15; have p0 : w15.cell? ⟨b11, 0, none⟩ = some (.int .i64 1) := (by rw [cell_of_row _ _ 0 _ _ (0, 0) q1]; rfl); have p1 : w15.cell? ⟨b11, 1, none⟩ = some (.int .i32 v) := (by rw [cell_of_row _ _ 1 _ _ (0, 0) q1]; rfl); have p2 : w15.cell? ⟨b11, 2, none⟩ = some (.slice (some ⟨g, off, none⟩) 1 c7) := (by rw [cell_of_row _ _ 2 _ _ (0, 0) q1]; rfl); have p3 : w15.cell? ⟨b11, 3, none⟩ = some (.int .i64 11) := (by rw [cell_of_row _ _ 3 _ _ (0, 0) q1]; rfl); have HB15 := Lib.hid (HB14.out.trans (hb15.mono HB14.out.size)); clear hb15 q1)
      | (go_at_call 8; refine (lives18 _).mono ?_; rintro e w16 ⟨rfl, hb16⟩; have HB16 := Lib.hid (HB15.out.trans (hb16.mono HB15.out.size)); clear hb16))
    go_ret
    exact ⟨rfl, HW.out.trans (HB16.out.mono HW.out.size)⟩
end Go.Proofs.Ytadgemcpahfkoaa
