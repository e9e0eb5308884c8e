/-
  The contract of the law's lives.
  Slices of slices of bytes that came in; contracts of the law's cut and of the document's All and Begins.
  The law's cut: its line is its own.
  The law's cut: just which records it hands back.
-/
import Derived.Test.YtihlbbpnldgenaaZaq
import Derived.Lib.SlBytesConst
namespace Go.Proofs.Ytihlbbpnldgenaa
open Go.RowKit Go.Shelf
set_option linter.unusedVariables false
set_option maxRecDepth 100000

/-- An append in a region that draws its order, its run given as an equation. -/
theorem append_ready {P : Program} {md : Region.Mode} {ops : Array Oper} {Q : Exit → Act → World → Prop} {fuel : Nat} {listed : Array Bool} {a : Act} {w : World} {i : Nat} {o : Oper} (ho : ops[i]? = some o) (hw : Region.wanted o (yielded ops a.tmps) = true)
    (s x : Operand) (t tn : TypeId) (hop : o.op = Op.call { callee := Callee.builtin Builtin.append, args := #[s, x], argTypes := #[t, tn] }) (vs vx : Value) (hs : a.eval s = vs) (hx : a.eval x = vx)
    (v' : Value) (w' : World) (hr : (Builtin.append_ #[t, tn] o.type #[vs, vx]).run P w = .ok v' w') (h : wpAny P md ops Q fuel (listed.setIfInBounds i true) (a.put o.dst v') w') : AllReady P md ops Q fuel listed a w [i] := by
  refine AllReady.cons ho (fun K' hK => ?_) AllReady.nil
  rw [if_pos hw]
  exact Lib.wp_append_run w s x t tn hop vs vx hs hx v' w' hr (hK _ _ h)
theorem new_bytes (w : World) (l : List Nat) (h : bytesN l) (hl : l.length ≤ 1000) : BLine (w.alloc (.cells (cellsZ (asZ l)).toArray 5)) (some ⟨w.heap.size, 0, none⟩) l.length l.length l := by
  have e : (cellsZ (asZ l)).length = l.length := by unfold cellsZ; rw [List.length_map, asZ_length]
  exact ⟨h, own_line (own_of_heap (B := w.heap.size) (ys := []) (by rw [List.append_nil]; exact heap_alloc_new w _) (Nat.le_refl _) e (by rw [List.append_nil]; exact e) (by omega))⟩
/-- Bytes behind a line. -/
theorem bytes_push (w : World) (A : Option Addr) (n c : Nat) (l : List Nat) (h : BLine w A n c l) (hn : n ≤ 100000) (B : Option Addr) (m d : Nat) (k : List Nat) (hk : RowN w B m k) (hm : m ≤ 100000) (hA : A = none → 0 < m) :
    ∃ A' c' w', (Builtin.append_ #[30, 30] 30 #[.slice A n c, .slice B m d]).run Try.prog w = .ok (.slice A' (n + m) c') w' ∧ BLine w' A' (n + m) c' (l ++ k) ∧ Chg (blk A) w w' ∧ (∀ k ∈ blk A', k ∈ blk A ∨ w.heap.size ≤ k) ∧ A' ≠ none := by
  obtain ⟨A', c', w', hr, hl, hc, hf, hne⟩ := sline_append 1 w 30 5 30 _ 1 Try.underlying30 info_u8 rfl (by decide) A n c _ h.2 (by omega) _ m (by omega) hA _ (hk.src (cap := d))
  exact ⟨A', c', w', hr, ⟨bytesN_append h.1 hk.bytes, by rw [asZ_append, cellsZ_append]; exact hl⟩, hc, hf, hne⟩
theorem lit_row (w : World) (l : List Nat) (fz : Nat × Nat) (h : bytesN l) : RowN (w.alloc (.cells (cellsZ (asZ l)).toArray 5 fz)) (some ⟨w.heap.size, 0, none⟩) l.length l := by
  refine ⟨asZ_length l, fun z hz => ?_, fun hn => ⟨w.heap.size, 0, rfl, by simp, fun i hi => ?_⟩⟩
  · obtain ⟨x, hx, rfl⟩ := List.mem_map.1 hz
    have := h x hx
    show (0 : Int) ≤ (x : Int) ∧ (x : Int) ≤ 255
    omega
  · have hg : (w.alloc (.cells (cellsZ (asZ l)).toArray 5 fz)).heap[w.heap.size]? = some (.cells (cellsZ (asZ l)).toArray 5 fz) := heap_alloc_new w _
    rw [cell_of_row _ _ _ _ _ fz hg, Nat.zero_add]
    simp [cellsZ, asZ, hi]
def AB : List Nat := [97, 98]
theorem AB_lt : bytesN AB := by intro x hx; simp only [AB, List.mem_cons, List.not_mem_nil, or_false] at hx; omega
theorem frameAB : (frameN AB).length = 10 := by rw [frameN_length]; rfl
theorem parseAB : parseN (frameN AB ++ (frameN AB).take 5) = [AB] := by
  have h := parse_all [AB] (fun r hr => by simp only [List.mem_singleton] at hr; rw [hr]; decide) ((frameN AB).take 5)
  have e : allN [AB] = frameN AB := by show frameN AB ++ [] = _; rw [List.append_nil]
  rw [e] at h
  rw [h, parse_small (t := (frameN AB).take 5) (by rw [List.length_take]; omega)]
  rfl
theorem goodAB : (allN [AB]).length = 10 := by show (frameN AB ++ []).length = 10; rw [List.append_nil, frameAB]
theorem frameAB0 : (frameN AB).getD 0 0 = 2 := rfl
theorem frameAB4 : (frameN AB).getD 4 0 = 97 := rfl
set_option maxHeartbeats 3200000 in
theorem lives_true (w : World) : Calls Try.prog 17 #[] w fun e w' => e = .returned (.bool true) ∧ Below w.heap.size w w' := by
  have kc := fun (w : World) (C : Array Value) (n c : Nat) => Lib.run_convert_bytes_const (P := Try.prog) w 30 5 C n c Try.underlying30 Try.underlying5
  have hnew := lit_row w AB (2, 3) AB_lt
  rw [show (cellsZ (asZ AB)).toArray = #[Value.int .u8 97, .int .u8 98] from rfl, show AB.length = 2 from rfl] at hnew
  have hb1 : Below w.heap.size w (w.alloc (.cells #[Value.int .u8 97, .int .u8 98] 5 (2, 3))) := (Below.refl _ w).alloc (Nat.le_refl _) _
  have HFR := Lib.hid (frame_any _ 2 2 AB (by omega) _ hnew)
  have HB1 := Lib.hid hb1
  clear hnew hb1
  go_enter Try.func17, Try.ntmps17
  go_wp2_with fail
  refine HFR.out.mono ?_
  rintro e w2 ⟨⟨g, c, rfl, hg, hf⟩, hb2⟩
  have hB2 := HB1.out.trans (hb2.mono HB1.out.size)
  clear HFR HB1 hb2 kc
  have hemp : BLine (w2.drew.alloc (.cells #[] 5)) (some ⟨w2.heap.size, 0, none⟩) 0 0 [] := ⟨bytesN_nil, own_emptyB w2.drew⟩
  have hbe : Below w2.heap.size w2 (w2.drew.alloc (.cells #[] 5)) := (Below.refl _ w2).drew.alloc (Nat.le_refl _) _
  obtain ⟨A3, c3, w3, hr3, hl3, hc3, hf3, hne3⟩ := bytes_push _ _ 0 0 [] hemp (by omega) (some ⟨g, 0, none⟩) 10 c (frameN AB) (hf.row.below hbe) (by omega) (fun e => by cases e)
  rw [List.nil_append] at hl3
  have hb3 : Below w2.heap.size w2 w3 := hbe.trans (hc3.toBelow (fun k hk => by obtain ⟨ad, ea, hb⟩ := mem_blk.1 hk; cases ea; rw [← hb]; exact Nat.le_refl _) hbe.size)
  have hge3 : ∀ k ∈ blk A3, w2.heap.size ≤ k := fun k hk => by
    rcases hf3 k hk with h | h
    · obtain ⟨ad, ea, hb⟩ := mem_blk.1 h; cases ea; rw [← hb]; exact Nat.le_refl _
    · have := hbe.size; omega
  obtain ⟨A4, c4, w4, hr4, hl4, hc4, hf4, hne4⟩ := bytes_push w3 A3 (0 + 10) c3 _ hl3 (by omega) (some ⟨g, 0, none⟩) 5 c ((frameN AB).take 5) ((hf.row.below hb3).take (by omega)) (by omega) (fun e => absurd e hne3)
  have hb4 : Below w2.heap.size w2 w4 := hb3.trans (hc4.toBelow hge3 hb3.size)
  rw [Nat.zero_add] at hr3 hr4 hl4
  have hcm : c4 ≤ 9223372036854775807 := by have := hl4.2.2.2.1; unfold maxLen at this; omega
  have HP := Lib.hid (parse_any w4 A4 15 c4 _ (by omega) hl4.2.2.1 hcm hl4.row)
  rw [parseAB, goodAB, show [AB].length = 1 from rfl, show ((10 : Nat) : Int) = 10 from rfl] at HP
  have hc10 : 10 ≤ c := hf.2.2.1
  have hc5 : ¬ (c : Int) < 5 := by omega
  have hc5' : (5 : Int) ≤ (c : Int) := by omega
  have hc0 : ¬ c = 0 := by omega
  have hw5 : IntKind.i64.wrap 5 = 5 := rfl
  have HF := Lib.hid (And.intro hf (And.intro hB2 hb4))
  have HR3 := Lib.hid hr3
  have HR4 := Lib.hid hr4
  clear hemp hbe hr3 hl3 hc3 hf3 hne3 hb3 hge3 hr4 hl4 hc4 hf4 hne4 hb4 hcm hf hB2
  go_wp2_with fail
  refine wp_region_any (by kernel_rfl) ?_
  change wpAny _ _ _ _ _ _ _ (World.drew _)
  refine wpAny_take (i := 1) (v := (.slice (some ⟨g, 0, none⟩) 10 c)) rfl (by kernel_rfl) (by kernel_rfl) (by kernel_rfl) (fun _ _ _ h => h) (Or.inl ⟨by rfl, (by intro w; go_simp)⟩) ?_
  refine wpAny_take (i := 3) (v := (.slice (some ⟨g, 0, none⟩) 10 c)) rfl (by kernel_rfl) (by kernel_rfl) (by kernel_rfl) (fun _ _ _ h => h) (Or.inl ⟨by rfl, (by intro w; go_simp)⟩) ?_
  refine wpAny_take (i := 4) (v := (.slice (some ⟨g, 0, none⟩) 10 c)) rfl (by kernel_rfl) (by kernel_rfl) (by kernel_rfl) (fun _ _ _ h => h) (Or.inl ⟨by rfl, (by intro w; go_simp)⟩) ?_
  refine wpAny_take (i := 5) (v := (.int .i64 10)) rfl (by kernel_rfl) (by kernel_rfl) (by kernel_rfl) (fun _ _ _ h => h) (Or.inl ⟨by rfl, (by intro w; go_simp)⟩) ?_
  refine wpAny_take (i := 6) (v := (.int .i64 5)) rfl (by kernel_rfl) (by kernel_rfl) (by kernel_rfl) (fun _ _ _ h => h) (Or.inl ⟨by rfl, (by intro w; go_simp)⟩) ?_
  refine wpAny_take (i := 7) (v := (.slice (some ⟨g, 0, none⟩) 5 c)) rfl (by kernel_rfl) (by kernel_rfl) (by kernel_rfl) (fun _ _ _ h => h) (Or.inl ⟨by rfl, (by intro w; go_simp)⟩) ?_
  refine wpAny_ready (rs := [0]) (by kernel_rfl) (by simp) ?_
  refine AllReady.cons rfl (fun K hK => ?_) AllReady.nil
  go_simp
  refine hK _ _ ?_
  clear hK K
  refine wpAny_ready (rs := [2]) (by kernel_rfl) (by simp) ?_
  refine append_ready rfl (by kernel_rfl) _ _ _ _ rfl _ _ rfl rfl _ _ HR3.out ?_
  refine wpAny_ready (rs := [8]) (by kernel_rfl) (by simp) ?_
  refine append_ready rfl (by kernel_rfl) _ _ _ _ rfl _ _ rfl rfl _ _ HR4.out ?_
  refine wpAny_ready (rs := [9]) (by kernel_rfl) (by simp) ?_
  refine AllReady.cons rfl (fun K hK => ?_) AllReady.nil
  go_simp
  go_at_call 24
  refine HP.out.mono ?_
  rintro e w5 ⟨R, c5, vs, rfl, hl5, hr5, _, hb5⟩
  refine hK _ _ ?_
  clear hK K
  refine wpAny_take (i := 10) (v := (.tuple #[.slice R 1 c5, .int .i64 10])) rfl (by kernel_rfl) (by kernel_rfl) (by kernel_rfl) (fun _ _ _ h => h) (Or.inl ⟨by rfl, (by intro w; go_simp)⟩) ?_
  refine wpAny_take (i := 11) (v := (.slice R 1 c5)) rfl (by kernel_rfl) (by kernel_rfl) (by kernel_rfl) (fun _ _ _ h => h) (Or.inl ⟨by rfl, (by intro w; go_simp)⟩) ?_
  refine wpAny_take (i := 12) (v := (.int .i64 10)) rfl (by kernel_rfl) (by kernel_rfl) (by kernel_rfl) (fun _ _ _ h => h) (Or.inl ⟨by rfl, (by intro w; go_simp)⟩) ?_
  refine wpAny_take (i := 13) (v := (.slice R 1 c5)) rfl (by kernel_rfl) (by kernel_rfl) (by kernel_rfl) (fun _ _ _ h => h) (Or.inl ⟨by rfl, (by intro w; go_simp)⟩) ?_
  refine wpAny_take (i := 14) (v := (.int .i64 10)) rfl (by kernel_rfl) (by kernel_rfl) (by kernel_rfl) (fun _ _ _ h => h) (Or.inl ⟨by rfl, (by intro w; go_simp)⟩) ?_
  refine wpAny_done (by kernel_rfl) ?_ _
  have hB5 := HF.out.2.2.trans (hb5.mono HF.out.2.2.size)
  have hf5 := HF.out.1.below hB5
  obtain ⟨_, _, eg, _, hcs⟩ := hf5.row.cells (by omega)
  cases eg
  have q0 := hcs 0 (by omega)
  have q4 := hcs 4 (by omega)
  rw [frameAB0] at q0
  rw [frameAB4] at q4
  obtain ⟨g1, o1, r, A1, d1, rfl, _, hr, hcell, _, hrow⟩ := (recs_of hl5 hr5).at (k := 0) (by omega)
  simp only [List.getElem?_cons_zero, Option.some.injEq] at hr
  subst hr
  have hcv := conv_row hrow d1
  rw [show strOfNums (asZ AB) = ⟨#[97, 98]⟩ from rfl] at hcv
  rw [show AB.length = 2 from rfl] at hcv hcell
  have HFIN : Hid (Below w.heap.size w w5) := Lib.hid (HF.out.2.1.trans (hB5.mono HF.out.2.1.size))
  have q0' : w5.cell? ⟨g, 0, none⟩ = some (.int .u8 2) := q0
  have q4' : w5.cell? ⟨g, 4, none⟩ = some (.int .u8 97) := by rw [Nat.zero_add] at q4; exact q4
  have hcell' : w5.cell? ⟨g1, o1, none⟩ = some (.slice A1 2 d1) := hcell
  clear hl5 hr5 hb5 hf5 hcs q0 q4 hcell hrow hB5 HR3 HR4 HP
  go_wp2
  go_ret
  exact ⟨rfl, HFIN.out⟩
end Go.Proofs.Ytihlbbpnldgenaa
namespace Go.Proofs.Ytihlbbpnldgenaa
open Go.RowKit Go.Shelf
set_option linter.unusedVariables false
set_option maxRecDepth 100000

/-- What a walk is told of a slice of slices of bytes that came in. -/
def RowsIn (w : World) (a : Option Addr) (len cap : Nat) : Prop :=
  (a = none ∧ len = 0 ∧ cap = 0) ∨ (len ≤ cap ∧ cap ≤ maxLen ∧ ∀ r, r < len → ∃ b off, a = some ⟨b, off, none⟩ ∧ b < w.heap.size ∧ ∃ A n c l, w.cell? ⟨b, off + r, none⟩ = some (.slice A n c) ∧ n ≤ c ∧ c ≤ maxLen ∧ RowN w A n l)
theorem rowsIn_of {w : World} {x : Addr} {len cap : Nat} (A : Nat → Option Addr) (L C : Nat → Nat) (Z : Nat → List Int) (hl : len ≤ cap) (hm : cap ≤ maxLen)
    (h : ∀ r, r < cap → w.cell? (x.add r) = some (.slice (A r) (L r) (C r)) ∧ L r ≤ C r ∧ C r ≤ maxLen ∧ (Z r).length = C r ∧ (∀ n ∈ Z r, (Lit.int .u8 n).wf = true) ∧ (A r = none → C r = 0) ∧ ∀ a', A r = some a' → ∀ c, c < C r → w.cell? (a'.add c) = some (.int .u8 ((Z r).getD c 0))) : RowsIn w (some x) len cap := by
  refine .inr ⟨hl, hm, fun r hr => ?_⟩
  obtain ⟨h1, h2, h3, h4, h5, h6, h7⟩ := h r (by omega)
  have h0 := (h 0 (by omega)).1
  have hsp : x.spot = none := World.cell?_spot (by simpa [Addr.add] using h0)
  obtain ⟨b, off, sp⟩ := x
  obtain rfl : sp = none := hsp
  have hadd : ∀ i, (⟨b, off, none⟩ : Addr).add i = ⟨b, off + i, none⟩ := fun i => by unfold Addr.add; split <;> simp_all
  have hrow : IsRow .u8 w (A r) (L r) (C r) (Z r) := by
    cases hA : A r with
    | none =>
      have hc := h6 hA
      refine .inl ⟨rfl, by omega, hc, List.eq_nil_of_length_eq_zero (by rw [h4]; exact hc)⟩
    | some a' => exact .inr ⟨a', rfl, h2, h3, h4, fun i hi => h7 a' hA i (by rw [← h4]; exact hi), h5⟩
  refine ⟨b, off, rfl, ?_, A r, L r, C r, _, by rw [← hadd]; exact h1, h2, h3, (RowZ.of_isRow hrow).toN⟩
  have := World.block_lt_of_cell? w _ h1
  simpa [hadd] using this
theorem RowsIn.below {w w' : World} {a : Option Addr} {len cap : Nat} (h : RowsIn w a len cap) (hb : Below w.heap.size w w') : RowsIn w' a len cap := by
  rcases h with h | ⟨h1, h2, h3⟩
  · exact .inl h
  · refine .inr ⟨h1, h2, fun r hr => ?_⟩
    obtain ⟨b, off, e, hlt, A, n, c, l, h4, h5, h6, h7⟩ := h3 r hr
    exact ⟨b, off, e, Nat.lt_of_lt_of_le hlt hb.size, A, n, c, l, (hb.cell (p := ⟨b, off + r, none⟩) hlt).trans h4, h5, h6, h7.below hb⟩
/-- A record that is cut has at most 300 bytes. -/
def SmallRs (rs : List (List Nat)) : Prop := rs.length ≤ 30 ∧ ∀ r ∈ rs, r.length ≤ 300 ∧ bytesN r
theorem SmallRs.short {rs : List (List Nat)} (h : SmallRs rs) : shortN rs := fun r hr => by have := (h.2 r hr).1; omega
theorem allN_small : ∀ (rs : List (List Nat)), (∀ r ∈ rs, r.length ≤ 300) → (allN rs).length ≤ 308 * rs.length
  | [], _ => by simp [allN]
  | r :: rs, h => by
    have h1 := allN_small rs (fun x hx => h x (by simp [hx]))
    have h2 := h r (by simp)
    show (frameN r ++ allN rs).length ≤ 308 * (rs.length + 1)
    rw [List.length_append, frameN_length]
    omega
theorem SmallRs.bytes {rs : List (List Nat)} (h : SmallRs rs) : (allN rs).length ≤ 9240 := by
  have := allN_small rs (fun r hr => (h.2 r hr).1)
  have := h.1
  omega
theorem Recs.take {W : World} {A : Option Addr} {n k : Nat} {rs : List (List Nat)} (h : Recs W A n rs) (hk : k ≤ n) : Recs W A k (rs.take k) := by
  obtain ⟨vs, h1, h2⟩ := h
  refine ⟨vs.take k, ⟨by rw [List.length_take, h1.1]; omega, fun hn => ?_⟩, by rw [List.length_take, List.length_take, h2.1], fun i v r hv hr => ?_⟩
  · obtain ⟨g, off, e, hg, hc⟩ := h1.2 (by omega)
    exact ⟨g, off, e, hg, fun j v hv => hc j v (by rw [List.getElem?_take] at hv; split at hv; exact hv; cases hv)⟩
  · exact h2.2 i v r (by rw [List.getElem?_take] at hv; split at hv; exact hv; cases hv) (by rw [List.getElem?_take] at hr; split at hr; exact hr; cases hr)
/-- What cut hands back. -/
def CutAns (W : World) (e : Ending) (w' : World) : Prop := ∃ R c rs, e = .returned (.slice R rs.length c) ∧ Recs w' R rs.length rs ∧ SmallRs rs ∧ rs.length ≤ c ∧ c ≤ 9223372036854775807 ∧ Below W.heap.size W w'
set_option maxHeartbeats 3200000 in
theorem cut_any (W : World) (a : Option Addr) (len cap : Nat) (h : RowsIn W a len cap) :
    Calls Try.prog 7 #[.slice a len cap] W fun e w' => CutAns W e w' := by
  have hlen : len ≤ 9223372036854775807 := by
    rcases h with ⟨_, rfl, _⟩ | ⟨h1, h2, _⟩
    · omega
    · unfold maxLen at h2; omega
  have HH := Lib.hid h
  clear h
  go_enter Try.func7, Try.ntmps7
  go_wp2
  go_loopw [3, 8] (fun v i wr => ∃ (k : Nat) (rs : List (List Nat)) (R : Option Addr) (c : Nat) (vs : List Value), k ≤ len ∧ i = .int .i64 k ∧ v = .slice R rs.length c ∧ Hid (SLine 1 wr R rs.length c vs ∧ RecsR W vs rs ∧ SmallRs rs ∧ rs.length ≤ k ∧ (∀ j ∈ blk R, W.heap.size ≤ j) ∧ Below W.heap.size W wr)) (fun _ i _ => len - (intOf i).toNat)
  case atStart => exact ⟨0, [], none, 0, [], by omega, rfl, rfl, Lib.hid ⟨SLine.nil 1 _, ⟨rfl, fun i v r h => by simp at h⟩, ⟨by simp, fun r hr => by cases hr⟩, by simp, fun j hj => (by cases hj), Below.refl _ _⟩⟩
  case round =>
    obtain ⟨k, rs, R, c, vs, hk, rfl, rfl, HI⟩ := hrel
    have hk0 : (0 : Int) ≤ (k : Int) := by omega
    rcases Nat.lt_or_ge k len with hkn | hkn
    · have hkn' : (k : Int) < (len : Int) := by omega
      obtain ⟨b, off, rfl, hlt, A, n, d, l, hc, hnd, hdm, hrow⟩ : ∃ b off, a = some ⟨b, off, none⟩ ∧ b < W.heap.size ∧ ∃ A n c l, W.cell? ⟨b, off + k, none⟩ = some (.slice A n c) ∧ n ≤ c ∧ c ≤ maxLen ∧ RowN W A n l := by
        rcases HH.out with ⟨_, h0, _⟩ | ⟨_, _, h3⟩
        · omega
        · exact h3 k hkn
      have hck : wr.cell? ⟨b, off + k, none⟩ = some (.slice A n d) := (HI.out.2.2.2.2.2.cell (p := ⟨b, off + k, none⟩) hlt).trans hc
      have HROW := Lib.hid (And.intro hrow (And.intro hnd hrow.length))
      clear hc hlt hrow hdm hnd
      by_cases hcond : k < 30 ∧ n ≤ 300
      · have hc1 : (k : Int) < 30 := by omega
        have hc2 : (n : Int) ≤ 300 := by omega
        have hr30 : rs.length ≤ 29 := by have := HI.out.2.2.2.1; omega
        obtain ⟨R', c2, w3, hr3, hl3, hc3, hf3⟩ := recs_push wr 22 R rs.length c vs HI.out.1 (by omega) A n d
        have HR3 := Lib.hid hr3
        have HNEW : Hid (SLine 1 w3 R' (rs ++ [l]).length c2 (vs ++ [.slice A n d]) ∧ RecsR W (vs ++ [.slice A n d]) (rs ++ [l]) ∧ SmallRs (rs ++ [l]) ∧ (rs ++ [l]).length ≤ k + 1 ∧ (∀ j ∈ blk R', W.heap.size ≤ j) ∧ Below W.heap.size W w3) := Lib.hid (by
          obtain ⟨i1, i2, i3, i4, i5, i6⟩ := HI.out
          obtain ⟨q1, q2, q3⟩ := HROW.out
          refine ⟨by rw [List.length_append]; exact hl3, ?_, ⟨by simp; omega, fun r hr => ?_⟩, by simp; omega, fun j hj => ?_, i6.trans (hc3.toBelow i5 i6.size)⟩
          · subst q3
            exact i2.snoc q2 q1
          · rcases List.mem_append.1 hr with h | h
            · exact i3.2 r h
            · simp only [List.mem_singleton] at h
              rw [h]
              exact ⟨by omega, q1.bytes⟩
          · rcases hf3 j hj with h | h
            · exact i5 j h
            · have := i6.size; omega)
        have HRK : Hid (rs.length + 1 = (rs ++ [l]).length) := Lib.hid (by simp)
        clear hr3 hl3 hc3 hf3 hcond
        go_wp2_with (at_builtin; refine Lib.wpList_append_run _ rfl _ _ _ _ rfl _ _ rfl rfl _ _ HR3.out ?_)
        go_roundw
        case rel => exact ⟨k + 1, rs ++ [l], R', c2, _, by omega, by go_num, by rw [HRK.out], HNEW⟩
        case measure => simp [intOf]; omega
      · have HNEW : Hid (SLine 1 wr R rs.length c vs ∧ RecsR W vs rs ∧ SmallRs rs ∧ rs.length ≤ k + 1 ∧ (∀ j ∈ blk R, W.heap.size ≤ j) ∧ Below W.heap.size W wr) := Lib.hid ⟨HI.out.1, HI.out.2.1, HI.out.2.2.1, by have := HI.out.2.2.2.1; omega, HI.out.2.2.2.2⟩
        by_cases h30 : k < 30
        · have hc1 : (k : Int) < 30 := by omega
          have hc2 : ¬ (n : Int) ≤ 300 := by omega
          clear hcond
          go_wp2
          go_roundw
          case rel => exact ⟨k + 1, rs, R, c, vs, by omega, by go_num, rfl, HNEW⟩
          case measure => simp [intOf]; omega
        · have hc1 : ¬ (k : Int) < 30 := by omega
          clear hcond
          go_wp2
          go_roundw
          case rel => exact ⟨k + 1, rs, R, c, vs, by omega, by go_num, rfl, HNEW⟩
          case measure => simp [intOf]; omega
    · obtain rfl : k = len := by omega
      have HFIN : Hid (Recs wr R rs.length rs ∧ SmallRs rs ∧ rs.length ≤ c ∧ c ≤ 9223372036854775807 ∧ Below W.heap.size W wr) := Lib.hid (by
        obtain ⟨i1, i2, i3, i4, i5, i6⟩ := HI.out
        refine ⟨⟨vs, ⟨by have := i1.1; omega, fun hn => ?_⟩, i2.below i6⟩, i3, i1.2.1, by have := i1.2.2.1; unfold maxLen at this; omega, i6⟩
        obtain ⟨g, off, e, hg, hc, _⟩ := i1.at hn
        exact ⟨g, off, e, hg, fun j v hv => by
          have := (List.getElem?_eq_some_iff.1 hv).1
          rw [hc j (by rw [← i1.1]; exact this), hv]⟩)
      go_wp2
      go_ret
      exact ⟨R, c, rs, rfl, HFIN.out⟩
set_option maxHeartbeats 1600000 in
theorem refall_any (w : World) (R : Option Addr) (n c : Nat) (rs : List (List Nat)) (hR : Recs w R n rs) (hs : SmallRs rs) :
    Calls Try.prog 12 #[.slice R n c] w fun e w' => (∃ A' c', e = .returned (.slice A' (allN rs).length c') ∧ BLine w' A' (allN rs).length c' (allN rs) ∧ ∀ k ∈ blk A', w.heap.size ≤ k) ∧ Below w.heap.size w w' := by
  have HR := Lib.hid hR
  have HS := Lib.hid hs
  have hln := hR.len
  have hn30 : n ≤ 30 := by have := hs.1; omega
  have HL := Lib.hid hln
  clear hR hs hln
  go_enter Try.func12, Try.ntmps12
  go_wp2
  go_loopw [3, 8] (fun v i wr => ∃ (k : Nat) (A' : Option Addr) (c' : Nat), k ≤ n ∧ i = .int .i64 k ∧ v = .slice A' (allN (rs.take k)).length c' ∧ Hid (BLine wr A' (allN (rs.take k)).length c' (allN (rs.take k)) ∧ (∀ j ∈ blk A', w.heap.size ≤ j) ∧ Below w.heap.size w wr)) (fun _ i _ => n - (intOf i).toNat)
  case atStart => exact ⟨0, none, 0, by omega, rfl, rfl, Lib.hid ⟨⟨bytesN_nil, SLine.nil 1 _⟩, fun j hj => (by cases hj), Below.refl _ _⟩⟩
  case round =>
    obtain ⟨k, A', c', hk, rfl, rfl, HI⟩ := hrel
    have hk0 : (0 : Int) ≤ (k : Int) := by omega
    rcases Nat.lt_or_ge k n with hkn | hkn
    · have hkn' : (k : Int) < (n : Int) := by omega
      obtain ⟨g, off, r, A1, d1, rfl, hg, hr, hc, _, hrow⟩ := (HR.out.below HI.out.2.2).at hkn
      have hrm : r ∈ rs := List.mem_of_getElem? hr
      have hr3 := HS.out.2 r hrm
      have HF := Lib.hid (refframe_any A1 r.length d1 r (by omega) wr hrow)
      have hall : (allN (rs.take k)).length ≤ 9240 := by
        have h1 := allN_small (rs.take k) (fun x hx => (HS.out.2 x (List.mem_of_mem_take hx)).1)
        have h2 : (rs.take k).length ≤ 30 := by rw [List.length_take]; omega
        omega
      have HT : Hid (rs.take (k + 1) = rs.take k ++ [r]) := Lib.hid (by rw [List.take_add_one, hr]; rfl)
      have HRL := Lib.hid hr3
      clear hrow hr hrm hr3 hg
      go_wp2_with fail
      refine HF.out.mono ?_
      rintro e w2 ⟨⟨A2, c2, rfl, hge, hb2⟩, hB⟩
      have hB2 : Below w.heap.size w w2 := HI.out.2.2.trans (hB.mono HI.out.2.2.size)
      have hf8 : (frameN r).length = r.length + 8 := frameN_length r
      obtain ⟨A3, c3, w3, hr3, hl3, hc3, hf3, _⟩ := bytes_push w2 A' (allN (rs.take k)).length c' _ (HI.out.1.below hB) (by omega) A2 (r.length + 8) c2 (frameN r) hb2.row (by have := HRL.out.1; omega) (fun _ => by omega)
      have HR3 := Lib.hid hr3
      have HNEW : Hid (BLine w3 A3 (allN (rs.take (k + 1))).length c3 (allN (rs.take (k + 1))) ∧ (∀ j ∈ blk A3, w.heap.size ≤ j) ∧ Below w.heap.size w w3) := Lib.hid (by
        have e1 : allN (rs.take (k + 1)) = allN (rs.take k) ++ frameN r := by rw [HT.out, allN_snoc]
        have e2 : (allN (rs.take (k + 1))).length = (allN (rs.take k)).length + (r.length + 8) := by rw [e1, List.length_append, hf8]
        rw [e2, e1]
        refine ⟨hl3, fun j hj => ?_, hB2.trans (hc3.toBelow HI.out.2.1 hB2.size)⟩
        rcases hf3 j hj with h | h
        · exact HI.out.2.1 j h
        · have := hB2.size; omega)
      have HRK : Hid ((allN (rs.take k)).length + (r.length + 8) = (allN (rs.take (k + 1))).length) := Lib.hid (by rw [HT.out, allN_snoc, List.length_append, hf8])
      clear hge hb2 hB hB2 hr3 hl3 hc3 hf3 hf8 HF
      go_wp2_with (at_builtin; refine Lib.wpList_append_run _ rfl _ _ _ _ rfl _ _ rfl rfl _ _ HR3.out ?_)
      go_roundw
      case rel => exact ⟨k + 1, A3, c3, by omega, by go_num, by rw [HRK.out], HNEW⟩
      case measure => simp [intOf]; omega
    · obtain rfl : k = n := by omega
      have HFIN : Hid (rs.take k = rs) := Lib.hid (List.take_of_length_le (by rw [HL.out]; exact Nat.le_refl _))
      rw [HFIN.out] at HI ⊢
      go_wp2
      go_ret
      exact ⟨⟨A', c', rfl, HI.out.1, HI.out.2.1⟩, HI.out.2.2⟩
theorem begins_true (w : World) (A : Option Addr) (n c : Nat) (rs : List (List Nat)) (B : Option Addr) (m d : Nat) (ss : List (List Nat)) (hA : Recs w A n rs) (hB : Recs w B m ss) (hp : ss <+: rs) (hn : n ≤ 100000) (hnc : n ≤ c) :
    Calls Try.prog 21 #[.slice A n c, .slice B m d] w fun e w' => e = .returned (.bool true) ∧ Below w.heap.size w w' := by
  have hm : m ≤ n := by have := hp.length_le; rw [hA.len, hB.len] at this; exact this
  have e : rs.take m = ss := by rw [← hB.len]; exact (List.prefix_iff_eq_take.1 hp).symm
  have HS := same_any w A m c (rs.take m) B m d ss (hA.take hm) hB (by omega) (by omega)
  rw [decide_eq_true e] at HS
  have HS := Lib.hid HS
  have h1 : (m : Int) ≤ (n : Int) := by omega
  have h2 : (m : Int) ≤ (c : Int) := by omega
  have h3 : (0 : Int) ≤ (m : Int) := by omega
  clear hA hB hp e
  go_enter Try.func21, Try.ntmps21
  go_wp2_with (go_at_call 9; refine HS.out.mono ?_; rintro e w1 ⟨rfl, hb⟩; have HB := Lib.hid hb; clear hb)
  go_ret
  exact ⟨rfl, HB.out⟩
end Go.Proofs.Ytihlbbpnldgenaa
namespace Go.Proofs.Ytihlbbpnldgenaa
open Go.RowKit Go.Shelf
set_option linter.unusedVariables false
set_option maxRecDepth 100000

/-- What cut hands back: a line of its own, of the very slices that came in. -/
def CutNew (W0 W : World) (e : Ending) (w' : World) : Prop := ∃ R c rs, e = .returned (.slice R rs.length c) ∧ Recs w' R rs.length rs ∧ SmallRs rs ∧ rs.length ≤ c ∧ c ≤ 9223372036854775807 ∧ Below W.heap.size W w' ∧ (∃ vs, SLine 1 w' R rs.length c vs ∧ RecsR W0 vs rs) ∧ ∀ j ∈ blk R, W.heap.size ≤ j
set_option maxHeartbeats 3200000 in
theorem cut_new (W0 W : World) (hB : Below W0.heap.size W0 W) (a : Option Addr) (len cap : Nat) (h : RowsIn W0 a len cap) :
    Calls Try.prog 7 #[.slice a len cap] W fun e w' => CutNew W0 W e w' := by
  have HB0 := Lib.hid hB
  clear hB
  have hlen : len ≤ 9223372036854775807 := by
    rcases h with ⟨_, rfl, _⟩ | ⟨h1, h2, _⟩
    · omega
    · unfold maxLen at h2; omega
  have HH := Lib.hid h
  clear h
  go_enter Try.func7, Try.ntmps7
  go_wp2
  go_loopw [3, 8] (fun v i wr => ∃ (k : Nat) (rs : List (List Nat)) (R : Option Addr) (c : Nat) (vs : List Value), k ≤ len ∧ i = .int .i64 k ∧ v = .slice R rs.length c ∧ Hid (SLine 1 wr R rs.length c vs ∧ RecsR W0 vs rs ∧ SmallRs rs ∧ rs.length ≤ k ∧ (∀ j ∈ blk R, W.heap.size ≤ j) ∧ Below W.heap.size W wr)) (fun _ i _ => len - (intOf i).toNat)
  case atStart => exact ⟨0, [], none, 0, [], by omega, rfl, rfl, Lib.hid ⟨SLine.nil 1 _, ⟨rfl, fun i v r h => by simp at h⟩, ⟨by simp, fun r hr => by cases hr⟩, by simp, fun j hj => (by cases hj), Below.refl _ _⟩⟩
  case round =>
    obtain ⟨k, rs, R, c, vs, hk, rfl, rfl, HI⟩ := hrel
    have hk0 : (0 : Int) ≤ (k : Int) := by omega
    rcases Nat.lt_or_ge k len with hkn | hkn
    · have hkn' : (k : Int) < (len : Int) := by omega
      obtain ⟨b, off, rfl, hlt, A, n, d, l, hc, hnd, hdm, hrow⟩ : ∃ b off, a = some ⟨b, off, none⟩ ∧ b < W0.heap.size ∧ ∃ A n c l, W0.cell? ⟨b, off + k, none⟩ = some (.slice A n c) ∧ n ≤ c ∧ c ≤ maxLen ∧ RowN W0 A n l := by
        rcases HH.out with ⟨_, h0, _⟩ | ⟨_, _, h3⟩
        · omega
        · exact h3 k hkn
      have hck : wr.cell? ⟨b, off + k, none⟩ = some (.slice A n d) := ((HB0.out.trans (HI.out.2.2.2.2.2.mono HB0.out.size)).cell (p := ⟨b, off + k, none⟩) hlt).trans hc
      have HROW := Lib.hid (And.intro hrow (And.intro hnd hrow.length))
      clear hc hlt hrow hdm hnd
      by_cases hcond : k < 30 ∧ n ≤ 300
      · have hc1 : (k : Int) < 30 := by omega
        have hc2 : (n : Int) ≤ 300 := by omega
        have hr30 : rs.length ≤ 29 := by have := HI.out.2.2.2.1; omega
        obtain ⟨R', c2, w3, hr3, hl3, hc3, hf3⟩ := recs_push wr 22 R rs.length c vs HI.out.1 (by omega) A n d
        have HR3 := Lib.hid hr3
        have HNEW : Hid (SLine 1 w3 R' (rs ++ [l]).length c2 (vs ++ [.slice A n d]) ∧ RecsR W0 (vs ++ [.slice A n d]) (rs ++ [l]) ∧ SmallRs (rs ++ [l]) ∧ (rs ++ [l]).length ≤ k + 1 ∧ (∀ j ∈ blk R', W.heap.size ≤ j) ∧ Below W.heap.size W w3) := Lib.hid (by
          obtain ⟨i1, i2, i3, i4, i5, i6⟩ := HI.out
          obtain ⟨q1, q2, q3⟩ := HROW.out
          refine ⟨by rw [List.length_append]; exact hl3, ?_, ⟨by simp; omega, fun r hr => ?_⟩, by simp; omega, fun j hj => ?_, i6.trans (hc3.toBelow i5 i6.size)⟩
          · subst q3
            exact i2.snoc q2 q1
          · rcases List.mem_append.1 hr with h | h
            · exact i3.2 r h
            · simp only [List.mem_singleton] at h
              rw [h]
              exact ⟨by omega, q1.bytes⟩
          · rcases hf3 j hj with h | h
            · exact i5 j h
            · have := i6.size; omega)
        have HRK : Hid (rs.length + 1 = (rs ++ [l]).length) := Lib.hid (by simp)
        clear hr3 hl3 hc3 hf3 hcond
        go_wp2_with (at_builtin; refine Lib.wpList_append_run _ rfl _ _ _ _ rfl _ _ rfl rfl _ _ HR3.out ?_)
        go_roundw
        case rel => exact ⟨k + 1, rs ++ [l], R', c2, _, by omega, by go_num, by rw [HRK.out], HNEW⟩
        case measure => simp [intOf]; omega
      · have HNEW : Hid (SLine 1 wr R rs.length c vs ∧ RecsR W0 vs rs ∧ SmallRs rs ∧ rs.length ≤ k + 1 ∧ (∀ j ∈ blk R, W.heap.size ≤ j) ∧ Below W.heap.size W wr) := Lib.hid ⟨HI.out.1, HI.out.2.1, HI.out.2.2.1, by have := HI.out.2.2.2.1; omega, HI.out.2.2.2.2⟩
        by_cases h30 : k < 30
        · have hc1 : (k : Int) < 30 := by omega
          have hc2 : ¬ (n : Int) ≤ 300 := by omega
          clear hcond
          go_wp2
          go_roundw
          case rel => exact ⟨k + 1, rs, R, c, vs, by omega, by go_num, rfl, HNEW⟩
          case measure => simp [intOf]; omega
        · have hc1 : ¬ (k : Int) < 30 := by omega
          clear hcond
          go_wp2
          go_roundw
          case rel => exact ⟨k + 1, rs, R, c, vs, by omega, by go_num, rfl, HNEW⟩
          case measure => simp [intOf]; omega
    · obtain rfl : k = len := by omega
      have HFIN : Hid (Recs wr R rs.length rs ∧ SmallRs rs ∧ rs.length ≤ c ∧ c ≤ 9223372036854775807 ∧ Below W.heap.size W wr ∧ (∃ vs, SLine 1 wr R rs.length c vs ∧ RecsR W0 vs rs) ∧ ∀ j ∈ blk R, W.heap.size ≤ j) := Lib.hid (by
        obtain ⟨i1, i2, i3, i4, i5, i6⟩ := HI.out
        refine ⟨⟨vs, ⟨by have := i1.1; omega, fun hn => ?_⟩, i2.below (HB0.out.trans (i6.mono HB0.out.size))⟩, i3, i1.2.1, by have := i1.2.2.1; unfold maxLen at this; omega, i6, ⟨vs, i1, i2⟩, i5⟩
        obtain ⟨g, off, e, hg, hc, _⟩ := i1.at hn
        exact ⟨g, off, e, hg, fun j v hv => by
          have := (List.getElem?_eq_some_iff.1 hv).1
          rw [hc j (by rw [← i1.1]; exact this), hv]⟩)
      go_wp2
      go_ret
      exact ⟨R, c, rs, rfl, HFIN.out⟩
end Go.Proofs.Ytihlbbpnldgenaa
namespace Go.Proofs.Ytihlbbpnldgenaa
open Go.RowKit Go.Shelf
set_option linter.unusedVariables false
set_option maxRecDepth 100000

/-- The rows that came in, told. -/
def RowsL (W : World) (a : Option Addr) (len : Nat) (all : List (List Nat)) : Prop :=
  all.length = len ∧ ∀ k z, all[k]? = some z → ∃ b off A c, a = some ⟨b, off, none⟩ ∧ b < W.heap.size ∧ W.cell? ⟨b, off + k, none⟩ = some (.slice A z.length c) ∧ z.length ≤ c ∧ RowN W A z.length z
theorem rowsL_upto {W : World} {a : Option Addr} {len cap : Nat} (h : RowsIn W a len cap) : ∀ n, n ≤ len → ∃ all, RowsL W a n all := by
  intro n
  induction n with
  | zero => intro _; exact ⟨[], rfl, fun k z h => by simp at h⟩
  | succ n ih =>
    intro hn
    obtain ⟨all, h1, h2⟩ := ih (by omega)
    obtain ⟨b, off, e, hlt, A, m, c, l, hc, hnd, _, hrow⟩ : ∃ b off, a = some ⟨b, off, none⟩ ∧ b < W.heap.size ∧ ∃ A n' c l, W.cell? ⟨b, off + n, none⟩ = some (.slice A n' c) ∧ n' ≤ c ∧ c ≤ maxLen ∧ RowN W A n' l := by
      rcases h with ⟨_, h0, _⟩ | ⟨_, _, h3⟩
      · omega
      · exact h3 n (by omega)
    have hl := hrow.length
    subst hl
    refine ⟨all ++ [l], by simp [h1], fun k z hz => ?_⟩
    rcases Nat.lt_or_ge k all.length with hk | hk
    · rw [List.getElem?_append_left hk] at hz
      exact h2 k z hz
    · have hk' := (List.getElem?_eq_some_iff.1 hz).1
      rw [List.length_append, List.length_singleton] at hk'
      obtain rfl : k = all.length := by omega
      rw [List.getElem?_append_right (Nat.le_refl _), Nat.sub_self] at hz
      simp only [List.getElem?_cons_zero, Option.some.injEq] at hz
      subst hz
      exact ⟨b, off, A, c, e, hlt, by rw [h1]; exact hc, hnd, hrow⟩
theorem rowsL_of {W : World} {a : Option Addr} {len cap : Nat} (h : RowsIn W a len cap) : ∃ all, RowsL W a len all := rowsL_upto h len (Nat.le_refl _)
/-- What cut takes of them. -/
def cutR (all : List (List Nat)) : List (List Nat) := (all.take 30).filter fun z => decide (z.length ≤ 300)
theorem cutR_step (all : List (List Nat)) (k : Nat) (z : List Nat) (h : all[k]? = some z) : cutR (all.take (k + 1)) = if k < 30 ∧ z.length ≤ 300 then cutR (all.take k) ++ [z] else cutR (all.take k) := by
  have hk := (List.getElem?_eq_some_iff.1 h).1
  have e : all.take (k + 1) = all.take k ++ [z] := by rw [List.take_add_one, h]; rfl
  have hl : (all.take k).length = k := by rw [List.length_take]; omega
  unfold cutR
  rw [e]
  by_cases h30 : k < 30
  · have t1 : (all.take k).take 30 = all.take k := List.take_of_length_le (by omega)
    have t2 : (all.take k ++ [z]).take 30 = all.take k ++ [z] := List.take_of_length_le (by rw [List.length_append, hl, List.length_singleton]; omega)
    rw [t2, t1, List.filter_append]
    by_cases hz : z.length ≤ 300
    · rw [if_pos ⟨h30, hz⟩]; simp [hz]
    · rw [if_neg (fun h => hz h.2)]; simp [hz]
  · rw [if_neg (fun h => h30 h.1), List.take_append_of_le_length (by omega)]
/-- What cut hands back: a line of its own, of the very slices that came in. -/
def CutOf (W0 : World) (all : List (List Nat)) (W : World) (e : Ending) (w' : World) : Prop := ∃ R c rs, rs = cutR all ∧ e = .returned (.slice R rs.length c) ∧ Recs w' R rs.length rs ∧ SmallRs rs ∧ rs.length ≤ c ∧ c ≤ 9223372036854775807 ∧ Below W.heap.size W w' ∧ (∃ vs, SLine 1 w' R rs.length c vs ∧ RecsR W0 vs rs) ∧ ∀ j ∈ blk R, W.heap.size ≤ j
set_option maxHeartbeats 3200000 in
theorem cut_of (W0 W : World) (hB : Below W0.heap.size W0 W) (a : Option Addr) (len cap : Nat) (all : List (List Nat)) (h : RowsL W0 a len all) (hlen : len ≤ 9223372036854775807) :
    Calls Try.prog 7 #[.slice a len cap] W fun e w' => CutOf W0 all W e w' := by
  have HB0 := Lib.hid hB
  clear hB
  have HH := Lib.hid h
  clear h
  go_enter Try.func7, Try.ntmps7
  go_wp2
  go_loopw [3, 8] (fun v i wr => ∃ (k : Nat) (rs : List (List Nat)) (R : Option Addr) (c : Nat) (vs : List Value), k ≤ len ∧ i = .int .i64 k ∧ v = .slice R rs.length c ∧ Hid (rs = cutR (all.take k)) ∧ Hid (SLine 1 wr R rs.length c vs ∧ RecsR W0 vs rs ∧ SmallRs rs ∧ rs.length ≤ k ∧ (∀ j ∈ blk R, W.heap.size ≤ j) ∧ Below W.heap.size W wr)) (fun _ i _ => len - (intOf i).toNat)
  case atStart => exact ⟨0, [], none, 0, [], by omega, rfl, rfl, Lib.hid rfl, Lib.hid ⟨SLine.nil 1 _, ⟨rfl, fun i v r h => by simp at h⟩, ⟨by simp, fun r hr => by cases hr⟩, by simp, fun j hj => (by cases hj), Below.refl _ _⟩⟩
  case round =>
    obtain ⟨k, rs, R, c, vs, hk, rfl, rfl, HE, HI⟩ := hrel
    have hk0 : (0 : Int) ≤ (k : Int) := by omega
    rcases Nat.lt_or_ge k len with hkn | hkn
    · have hkn' : (k : Int) < (len : Int) := by omega
      obtain ⟨b, off, rfl, hlt, A, n, d, l, hc, hnd, hal, hrow⟩ : ∃ b off, a = some ⟨b, off, none⟩ ∧ b < W0.heap.size ∧ ∃ A n c l, W0.cell? ⟨b, off + k, none⟩ = some (.slice A n c) ∧ n ≤ c ∧ all[k]? = some l ∧ RowN W0 A n l := by
        obtain ⟨z, hz⟩ : ∃ z, all[k]? = some z := ⟨_, List.getElem?_eq_getElem (by rw [HH.out.1]; exact hkn)⟩
        obtain ⟨b, off, A, c, e1, e2, e3, e4, e5⟩ := HH.out.2 k z hz
        exact ⟨b, off, e1, e2, A, z.length, c, z, e3, e4, hz, e5⟩
      have hck : wr.cell? ⟨b, off + k, none⟩ = some (.slice A n d) := ((HB0.out.trans (HI.out.2.2.2.2.2.mono HB0.out.size)).cell (p := ⟨b, off + k, none⟩) hlt).trans hc
      have HROW := Lib.hid (And.intro hrow (And.intro hnd hrow.length))
      have HST := Lib.hid (cutR_step all k l hal)
      have hnl : l.length = n := hrow.length
      have HNL := Lib.hid hnl
      clear hc hlt hrow hnd hal hnl
      by_cases hcond : k < 30 ∧ n ≤ 300
      · have hc1 : (k : Int) < 30 := by omega
        have hc2 : (n : Int) ≤ 300 := by omega
        have hr30 : rs.length ≤ 29 := by have := HI.out.2.2.2.1; omega
        obtain ⟨R', c2, w3, hr3, hl3, hc3, hf3⟩ := recs_push wr 22 R rs.length c vs HI.out.1 (by omega) A n d
        have HR3 := Lib.hid hr3
        have HNEW : Hid (SLine 1 w3 R' (rs ++ [l]).length c2 (vs ++ [.slice A n d]) ∧ RecsR W0 (vs ++ [.slice A n d]) (rs ++ [l]) ∧ SmallRs (rs ++ [l]) ∧ (rs ++ [l]).length ≤ k + 1 ∧ (∀ j ∈ blk R', W.heap.size ≤ j) ∧ Below W.heap.size W w3) := Lib.hid (by
          obtain ⟨i1, i2, i3, i4, i5, i6⟩ := HI.out
          obtain ⟨q1, q2, q3⟩ := HROW.out
          refine ⟨by rw [List.length_append]; exact hl3, ?_, ⟨by simp; omega, fun r hr => ?_⟩, by simp; omega, fun j hj => ?_, i6.trans (hc3.toBelow i5 i6.size)⟩
          · subst q3
            exact i2.snoc q2 q1
          · rcases List.mem_append.1 hr with h | h
            · exact i3.2 r h
            · simp only [List.mem_singleton] at h
              rw [h]
              exact ⟨by omega, q1.bytes⟩
          · rcases hf3 j hj with h | h
            · exact i5 j h
            · have := i6.size; omega)
        have HRK : Hid (rs.length + 1 = (rs ++ [l]).length) := Lib.hid (by simp)
        clear hr3 hl3 hc3 hf3 hcond
        go_wp2_with (at_builtin; refine Lib.wpList_append_run _ rfl _ _ _ _ rfl _ _ rfl rfl _ _ HR3.out ?_)
        go_roundw
        case rel => exact ⟨k + 1, rs ++ [l], R', c2, _, by omega, by go_num, by rw [HRK.out], Lib.hid (by rw [HST.out, if_pos ⟨by omega, by rw [HNL.out]; omega⟩, HE.out]), HNEW⟩
        case measure => simp [intOf]; omega
      · have HNEW : Hid (SLine 1 wr R rs.length c vs ∧ RecsR W0 vs rs ∧ SmallRs rs ∧ rs.length ≤ k + 1 ∧ (∀ j ∈ blk R, W.heap.size ≤ j) ∧ Below W.heap.size W wr) := Lib.hid ⟨HI.out.1, HI.out.2.1, HI.out.2.2.1, by have := HI.out.2.2.2.1; omega, HI.out.2.2.2.2⟩
        by_cases h30 : k < 30
        · have hc1 : (k : Int) < 30 := by omega
          have hc2 : ¬ (n : Int) ≤ 300 := by omega
          clear hcond
          go_wp2
          go_roundw
          case rel => exact ⟨k + 1, rs, R, c, vs, by omega, by go_num, rfl, Lib.hid (by rw [HST.out, if_neg (fun h => by have := h.2; rw [HNL.out] at this; omega), HE.out]), HNEW⟩
          case measure => simp [intOf]; omega
        · have hc1 : ¬ (k : Int) < 30 := by omega
          clear hcond
          go_wp2
          go_roundw
          case rel => exact ⟨k + 1, rs, R, c, vs, by omega, by go_num, rfl, Lib.hid (by rw [HST.out, if_neg (fun h => by have := h.1; omega), HE.out]), HNEW⟩
          case measure => simp [intOf]; omega
    · obtain rfl : k = len := by omega
      have HFIN : Hid (Recs wr R rs.length rs ∧ SmallRs rs ∧ rs.length ≤ c ∧ c ≤ 9223372036854775807 ∧ Below W.heap.size W wr ∧ (∃ vs, SLine 1 wr R rs.length c vs ∧ RecsR W0 vs rs) ∧ ∀ j ∈ blk R, W.heap.size ≤ j) := Lib.hid (by
        obtain ⟨i1, i2, i3, i4, i5, i6⟩ := HI.out
        refine ⟨⟨vs, ⟨by have := i1.1; omega, fun hn => ?_⟩, i2.below (HB0.out.trans (i6.mono HB0.out.size))⟩, i3, i1.2.1, by have := i1.2.2.1; unfold maxLen at this; omega, i6, ⟨vs, i1, i2⟩, i5⟩
        obtain ⟨g, off, e, hg, hc, _⟩ := i1.at hn
        exact ⟨g, off, e, hg, fun j v hv => by
          have := (List.getElem?_eq_some_iff.1 hv).1
          rw [hc j (by rw [← i1.1]; exact this), hv]⟩)
      go_wp2
      go_ret
      exact ⟨R, c, rs, by rw [HE.out, List.take_of_length_le (by rw [HH.out.1]; exact Nat.le_refl _)], rfl, HFIN.out⟩
end Go.Proofs.Ytihlbbpnldgenaa
