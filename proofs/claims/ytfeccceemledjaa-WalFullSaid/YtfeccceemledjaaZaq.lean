/-
  The contract of the law's lives.
  The walk of the law WalFrames: it answers true and writes nothing that was there.
-/
import Derived.Test.YtfeccceemledjaaZap
import Derived.Lib.SlBytesConst
namespace Go.Proofs.Ytfeccceemledjaa
open Go.RowKit Go.Shelf
set_option linter.unusedVariables false
set_option maxRecDepth 100000

/-- An append in a region that draws its order, its run given as an equation. -/
theorem append_ready {P : Program} {md : Region.Mode} {ops : Array Oper} {Q : Exit → Act → World → Prop} {fuel : Nat} {listed : Array Bool} {a : Act} {w : World} {i : Nat} {o : Oper} (ho : ops[i]? = some o) (hw : Region.wanted o (yielded ops a.tmps) = true)
    (s x : Operand) (t tn : TypeId) (hop : o.op = Op.call { callee := Callee.builtin Builtin.append, args := #[s, x], argTypes := #[t, tn] }) (vs vx : Value) (hs : a.eval s = vs) (hx : a.eval x = vx)
    (v' : Value) (w' : World) (hr : (Builtin.append_ #[t, tn] o.type #[vs, vx]).run P w = .ok v' w') (h : wpAny P md ops Q fuel (listed.setIfInBounds i true) (a.put o.dst v') w') : AllReady P md ops Q fuel listed a w [i] := by
  refine AllReady.cons ho (fun K' hK => ?_) AllReady.nil
  rw [if_pos hw]
  exact Lib.wp_append_run w s x t tn hop vs vx hs hx v' w' hr (hK _ _ h)
theorem new_bytes (w : World) (l : List Nat) (h : bytesN l) (hl : l.length ≤ 1000) : BLine (w.alloc (.cells (cellsZ (asZ l)).toArray 5)) (some ⟨w.heap.size, 0, none⟩) l.length l.length l := by
  have e : (cellsZ (asZ l)).length = l.length := by unfold cellsZ; rw [List.length_map, asZ_length]
  exact ⟨h, own_line (own_of_heap (B := w.heap.size) (ys := []) (by rw [List.append_nil]; exact heap_alloc_new w _) (Nat.le_refl _) e (by rw [List.append_nil]; exact e) (by omega))⟩
/-- Bytes behind a line. -/
theorem bytes_push (w : World) (A : Option Addr) (n c : Nat) (l : List Nat) (h : BLine w A n c l) (hn : n ≤ 100000) (B : Option Addr) (m d : Nat) (k : List Nat) (hk : RowN w B m k) (hm : m ≤ 100000) (hA : A = none → 0 < m) :
    ∃ A' c' w', (Builtin.append_ #[30, 30] 30 #[.slice A n c, .slice B m d]).run Try.prog w = .ok (.slice A' (n + m) c') w' ∧ BLine w' A' (n + m) c' (l ++ k) ∧ Chg (blk A) w w' ∧ (∀ k ∈ blk A', k ∈ blk A ∨ w.heap.size ≤ k) ∧ A' ≠ none := by
  obtain ⟨A', c', w', hr, hl, hc, hf, hne⟩ := sline_append 1 w 30 5 30 _ 1 Try.underlying30 info_u8 rfl (by decide) A n c _ h.2 (by omega) _ m (by omega) hA _ (hk.src (cap := d))
  exact ⟨A', c', w', hr, ⟨bytesN_append h.1 hk.bytes, by rw [asZ_append, cellsZ_append]; exact hl⟩, hc, hf, hne⟩
theorem lit_row (w : World) (l : List Nat) (fz : Nat × Nat) (h : bytesN l) : RowN (w.alloc (.cells (cellsZ (asZ l)).toArray 5 fz)) (some ⟨w.heap.size, 0, none⟩) l.length l := by
  refine ⟨asZ_length l, fun z hz => ?_, fun hn => ⟨w.heap.size, 0, rfl, by simp, fun i hi => ?_⟩⟩
  · obtain ⟨x, hx, rfl⟩ := List.mem_map.1 hz
    have := h x hx
    show (0 : Int) ≤ (x : Int) ∧ (x : Int) ≤ 255
    omega
  · have hg : (w.alloc (.cells (cellsZ (asZ l)).toArray 5 fz)).heap[w.heap.size]? = some (.cells (cellsZ (asZ l)).toArray 5 fz) := heap_alloc_new w _
    rw [cell_of_row _ _ _ _ _ fz hg, Nat.zero_add]
    simp [cellsZ, asZ, hi]
def AB : List Nat := [97, 98]
theorem AB_lt : bytesN AB := by intro x hx; simp only [AB, List.mem_cons, List.not_mem_nil, or_false] at hx; omega
theorem frameAB : (frameN AB).length = 10 := by rw [frameN_length]; rfl
theorem parseAB : parseN (frameN AB ++ (frameN AB).take 5) = [AB] := by
  have h := parse_all [AB] (fun r hr => by simp only [List.mem_singleton] at hr; rw [hr]; decide) ((frameN AB).take 5)
  have e : allN [AB] = frameN AB := by show frameN AB ++ [] = _; rw [List.append_nil]
  rw [e] at h
  rw [h, parse_small (t := (frameN AB).take 5) (by rw [List.length_take]; omega)]
  rfl
theorem goodAB : (allN [AB]).length = 10 := by show (frameN AB ++ []).length = 10; rw [List.append_nil, frameAB]
theorem frameAB0 : (frameN AB).getD 0 0 = 2 := rfl
theorem frameAB4 : (frameN AB).getD 4 0 = 97 := rfl
set_option maxHeartbeats 3200000 in
theorem lives_true (w : World) : Calls Try.prog 19 #[] w fun e w' => e = .returned (.bool true) ∧ Below w.heap.size w w' := by
  have kc := fun (w : World) (C : Array Value) (n c : Nat) => Lib.run_convert_bytes_const (P := Try.prog) w 30 5 C n c Try.underlying30 Try.underlying5
  have hnew := lit_row w AB (2, 3) AB_lt
  rw [show (cellsZ (asZ AB)).toArray = #[Value.int .u8 97, .int .u8 98] from rfl, show AB.length = 2 from rfl] at hnew
  have hb1 : Below w.heap.size w (w.alloc (.cells #[Value.int .u8 97, .int .u8 98] 5 (2, 3))) := (Below.refl _ w).alloc (Nat.le_refl _) _
  have HFR := Lib.hid (frame_any _ 2 2 AB (by omega) _ hnew)
  have HB1 := Lib.hid hb1
  clear hnew hb1
  go_enter Try.func19, Try.ntmps19
  go_wp2_with fail
  refine HFR.out.mono ?_
  rintro e w2 ⟨⟨g, c, rfl, hg, hf⟩, hb2⟩
  have hB2 := HB1.out.trans (hb2.mono HB1.out.size)
  clear HFR HB1 hb2 kc
  have hemp : BLine (w2.drew.alloc (.cells #[] 5)) (some ⟨w2.heap.size, 0, none⟩) 0 0 [] := ⟨bytesN_nil, own_emptyB w2.drew⟩
  have hbe : Below w2.heap.size w2 (w2.drew.alloc (.cells #[] 5)) := (Below.refl _ w2).drew.alloc (Nat.le_refl _) _
  obtain ⟨A3, c3, w3, hr3, hl3, hc3, hf3, hne3⟩ := bytes_push _ _ 0 0 [] hemp (by omega) (some ⟨g, 0, none⟩) 10 c (frameN AB) (hf.row.below hbe) (by omega) (fun e => by cases e)
  rw [List.nil_append] at hl3
  have hb3 : Below w2.heap.size w2 w3 := hbe.trans (hc3.toBelow (fun k hk => by obtain ⟨ad, ea, hb⟩ := mem_blk.1 hk; cases ea; rw [← hb]; exact Nat.le_refl _) hbe.size)
  have hge3 : ∀ k ∈ blk A3, w2.heap.size ≤ k := fun k hk => by
    rcases hf3 k hk with h | h
    · obtain ⟨ad, ea, hb⟩ := mem_blk.1 h; cases ea; rw [← hb]; exact Nat.le_refl _
    · have := hbe.size; omega
  obtain ⟨A4, c4, w4, hr4, hl4, hc4, hf4, hne4⟩ := bytes_push w3 A3 (0 + 10) c3 _ hl3 (by omega) (some ⟨g, 0, none⟩) 5 c ((frameN AB).take 5) ((hf.row.below hb3).take (by omega)) (by omega) (fun e => absurd e hne3)
  have hb4 : Below w2.heap.size w2 w4 := hb3.trans (hc4.toBelow hge3 hb3.size)
  rw [Nat.zero_add] at hr3 hr4 hl4
  have hcm : c4 ≤ 9223372036854775807 := by have := hl4.2.2.2.1; unfold maxLen at this; omega
  have HP := Lib.hid (parse_any w4 A4 15 c4 _ (by omega) hl4.2.2.1 hcm hl4.row)
  rw [parseAB, goodAB, show [AB].length = 1 from rfl, show ((10 : Nat) : Int) = 10 from rfl] at HP
  have hc10 : 10 ≤ c := hf.2.2.1
  have hc5 : ¬ (c : Int) < 5 := by omega
  have hc5' : (5 : Int) ≤ (c : Int) := by omega
  have hc0 : ¬ c = 0 := by omega
  have hw5 : IntKind.i64.wrap 5 = 5 := rfl
  have HF := Lib.hid (And.intro hf (And.intro hB2 hb4))
  have HR3 := Lib.hid hr3
  have HR4 := Lib.hid hr4
  clear hemp hbe hr3 hl3 hc3 hf3 hne3 hb3 hge3 hr4 hl4 hc4 hf4 hne4 hb4 hcm hf hB2
  go_wp2_with fail
  refine wp_region_any (by kernel_rfl) ?_
  change wpAny _ _ _ _ _ _ _ (World.drew _)
  refine wpAny_take (i := 1) (v := (.slice (some ⟨g, 0, none⟩) 10 c)) rfl (by kernel_rfl) (by kernel_rfl) (by kernel_rfl) (fun _ _ _ h => h) (Or.inl ⟨by rfl, (by intro w; go_simp)⟩) ?_
  refine wpAny_take (i := 3) (v := (.slice (some ⟨g, 0, none⟩) 10 c)) rfl (by kernel_rfl) (by kernel_rfl) (by kernel_rfl) (fun _ _ _ h => h) (Or.inl ⟨by rfl, (by intro w; go_simp)⟩) ?_
  refine wpAny_take (i := 4) (v := (.slice (some ⟨g, 0, none⟩) 10 c)) rfl (by kernel_rfl) (by kernel_rfl) (by kernel_rfl) (fun _ _ _ h => h) (Or.inl ⟨by rfl, (by intro w; go_simp)⟩) ?_
  refine wpAny_take (i := 5) (v := (.int .i64 10)) rfl (by kernel_rfl) (by kernel_rfl) (by kernel_rfl) (fun _ _ _ h => h) (Or.inl ⟨by rfl, (by intro w; go_simp)⟩) ?_
  refine wpAny_take (i := 6) (v := (.int .i64 5)) rfl (by kernel_rfl) (by kernel_rfl) (by kernel_rfl) (fun _ _ _ h => h) (Or.inl ⟨by rfl, (by intro w; go_simp)⟩) ?_
  refine wpAny_take (i := 7) (v := (.slice (some ⟨g, 0, none⟩) 5 c)) rfl (by kernel_rfl) (by kernel_rfl) (by kernel_rfl) (fun _ _ _ h => h) (Or.inl ⟨by rfl, (by intro w; go_simp)⟩) ?_
  refine wpAny_ready (rs := [0]) (by kernel_rfl) (by simp) ?_
  refine AllReady.cons rfl (fun K hK => ?_) AllReady.nil
  go_simp
  refine hK _ _ ?_
  clear hK K
  refine wpAny_ready (rs := [2]) (by kernel_rfl) (by simp) ?_
  refine append_ready rfl (by kernel_rfl) _ _ _ _ rfl _ _ rfl rfl _ _ HR3.out ?_
  refine wpAny_ready (rs := [8]) (by kernel_rfl) (by simp) ?_
  refine append_ready rfl (by kernel_rfl) _ _ _ _ rfl _ _ rfl rfl _ _ HR4.out ?_
  refine wpAny_ready (rs := [9]) (by kernel_rfl) (by simp) ?_
  refine AllReady.cons rfl (fun K hK => ?_) AllReady.nil
  go_simp
  go_at_call 27
  refine HP.out.mono ?_
  rintro e w5 ⟨R, c5, vs, rfl, hl5, hr5, _, hb5⟩
  refine hK _ _ ?_
  clear hK K
  refine wpAny_take (i := 10) (v := (.tuple #[.slice R 1 c5, .int .i64 10])) rfl (by kernel_rfl) (by kernel_rfl) (by kernel_rfl) (fun _ _ _ h => h) (Or.inl ⟨by rfl, (by intro w; go_simp)⟩) ?_
  refine wpAny_take (i := 11) (v := (.slice R 1 c5)) rfl (by kernel_rfl) (by kernel_rfl) (by kernel_rfl) (fun _ _ _ h => h) (Or.inl ⟨by rfl, (by intro w; go_simp)⟩) ?_
  refine wpAny_take (i := 12) (v := (.int .i64 10)) rfl (by kernel_rfl) (by kernel_rfl) (by kernel_rfl) (fun _ _ _ h => h) (Or.inl ⟨by rfl, (by intro w; go_simp)⟩) ?_
  refine wpAny_take (i := 13) (v := (.slice R 1 c5)) rfl (by kernel_rfl) (by kernel_rfl) (by kernel_rfl) (fun _ _ _ h => h) (Or.inl ⟨by rfl, (by intro w; go_simp)⟩) ?_
  refine wpAny_take (i := 14) (v := (.int .i64 10)) rfl (by kernel_rfl) (by kernel_rfl) (by kernel_rfl) (fun _ _ _ h => h) (Or.inl ⟨by rfl, (by intro w; go_simp)⟩) ?_
  refine wpAny_done (by kernel_rfl) ?_ _
  have hB5 := HF.out.2.2.trans (hb5.mono HF.out.2.2.size)
  have hf5 := HF.out.1.below hB5
  obtain ⟨_, _, eg, _, hcs⟩ := hf5.row.cells (by omega)
  cases eg
  have q0 := hcs 0 (by omega)
  have q4 := hcs 4 (by omega)
  rw [frameAB0] at q0
  rw [frameAB4] at q4
  obtain ⟨g1, o1, r, A1, d1, rfl, _, hr, hcell, _, hrow⟩ := (recs_of hl5 hr5).at (k := 0) (by omega)
  simp only [List.getElem?_cons_zero, Option.some.injEq] at hr
  subst hr
  have hcv := conv_row hrow d1
  rw [show strOfNums (asZ AB) = ⟨#[97, 98]⟩ from rfl] at hcv
  rw [show AB.length = 2 from rfl] at hcv hcell
  have HFIN : Hid (Below w.heap.size w w5) := Lib.hid (HF.out.2.1.trans (hB5.mono HF.out.2.1.size))
  have q0' : w5.cell? ⟨g, 0, none⟩ = some (.int .u8 2) := q0
  have q4' : w5.cell? ⟨g, 4, none⟩ = some (.int .u8 97) := by rw [Nat.zero_add] at q4; exact q4
  have hcell' : w5.cell? ⟨g1, o1, none⟩ = some (.slice A1 2 d1) := hcell
  clear hl5 hr5 hb5 hf5 hcs q0 q4 hcell hrow hB5 HR3 HR4 HP
  go_wp2
  go_ret
  exact ⟨rfl, HFIN.out⟩
end Go.Proofs.Ytfeccceemledjaa
namespace Go.Proofs.Ytfeccceemledjaa
open Go.RowKit Go.Shelf
set_option linter.unusedVariables false
set_option maxRecDepth 100000

/-- What is known of a slice of bytes that came in. -/
theorem came_in {W : World} {a : Option Addr} {len cap : Nat} {zs : List Int} (h : IsRow .u8 W a len cap zs) : ∃ l, RowN W a len l ∧ len ≤ cap ∧ cap ≤ 9223372036854775807 := by
  refine ⟨_, (RowZ.of_isRow h).toN, ?_⟩
  rcases h with ⟨_, rfl, rfl, _⟩ | ⟨x, _, h1, h2, _⟩
  · exact ⟨Nat.le_refl _, by omega⟩
  · exact ⟨h1, by unfold maxLen at h2; omega⟩
end Go.Proofs.Ytfeccceemledjaa
