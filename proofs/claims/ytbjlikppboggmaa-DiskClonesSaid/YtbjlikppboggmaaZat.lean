/-
  The document's disk: apply, a directory with a change.
-/
import Derived.Test.YtbjlikppboggmaaZar
import Derived.Deep.CutBlock
import Derived.Deep.QuietTactic
import Derived.BigQuiet
namespace Go.Proofs.Ytbjlikppboggmaa
open Go.RowKit Go.Maps
set_option linter.unusedVariables false
set_option maxRecDepth 100000

/-- An append in a region that draws its order, its run given as an equation. -/
theorem append_ready {P : Program} {md : Region.Mode} {ops : Array Oper} {Q : Exit → Act → World → Prop} {fuel : Nat} {listed : Array Bool} {a : Act} {w : World} {i : Nat} {o : Oper} (ho : ops[i]? = some o) (hw : Region.wanted o (yielded ops a.tmps) = true)
    (s x : Operand) (t tn : TypeId) (hop : o.op = Op.call { callee := Callee.builtin Builtin.append, args := #[s, x], argTypes := #[t, tn] }) (vs vx : Value) (hs : a.eval s = vs) (hx : a.eval x = vx)
    (v' : Value) (w' : World) (hr : (Builtin.append_ #[t, tn] o.type #[vs, vx]).run P w = .ok v' w') (h : wpAny P md ops Q fuel (listed.setIfInBounds i true) (a.put o.dst v') w') : AllReady P md ops Q fuel listed a w [i] := by
  refine AllReady.cons ho (fun K' hK => ?_) AllReady.nil
  rw [if_pos hw]
  exact Lib.wp_append_run w s x t tn hop vs vx hs hx v' w' hr (hK _ _ h)
theorem new_cells (W : World) (news : List Value) (T : TypeId) : ∀ j u, news[j]? = some u → (W.alloc (.cells news.toArray T)).cell? ((⟨W.heap.size, 0, none⟩ : Addr).add j) = some u := by
  intro j u hu
  have e9 : (⟨W.heap.size, 0, none⟩ : Addr).add j = ⟨W.heap.size, j, none⟩ := by unfold Addr.add; split <;> simp_all
  rw [e9, cell_of_row _ W.heap.size j _ _ (0, 0) (heap_alloc_new W _)]
  rw [← hu]
  simp
/-- An element more, at the end of a line: in the line's own block or in a new one. -/
theorem push_s (s : Nat) (w : World) (t e ty : TypeId) (z : Value) (bytes : Nat) (ht : Try.prog.underlying t = some (.slice e)) (hinfo : (Try.prog.info? e).map (fun i => (i.zero, i.size, i.bytes)) = some (some z, s, bytes)) (hz1 : z.cells.size = s) (hby : bytes ≤ 256)
    (C : Option Addr) (n c : Nat) (xs : List Value) (h : SLine s w C n c xs) (hn : n ≤ 100000) (news : List Value) (hnl : news.length = s) (h1 : ∀ u ∈ news, u.oneCell' = true) :
    ∃ C' c' w', (Builtin.append_ #[t, t] ty #[.slice C n c, .slice (some ⟨w.heap.size, 0, none⟩) 1 1]).run Try.prog (w.alloc (.cells news.toArray e)) = .ok (.slice C' (n + 1) c') w' ∧ SLine s w' C' (n + 1) c' (xs ++ news) ∧ Chg (blk C) w w' ∧ (∀ k ∈ blk C', k ∈ blk C ∨ w.heap.size ≤ k) ∧ C' ≠ none := by
  have hb : Below w.heap.size w (w.alloc (.cells news.toArray e)) := (Below.refl _ w).alloc (Nat.le_refl _) _
  have hs : (w.alloc (.cells news.toArray e)).heap.size = w.heap.size + 1 := by simp
  have hsrc : Src Try.prog s t (.slice (some ⟨w.heap.size, 0, none⟩) 1 1) 1 news (w.alloc (.cells news.toArray e)) := Src.ofSlice _ ht ⟨w.heap.size, 0, none⟩ 1 1 news (by rw [hnl, Nat.one_mul]) (new_cells w _ _) h1
  obtain ⟨C', c', w', hr, hl, hc, hf, hne⟩ := sline_append s (w.alloc (.cells news.toArray e)) t e ty z bytes ht hinfo hz1 hby C n c xs (h.below hb) (by omega) _ 1 (by omega) (fun _ => by omega) _ hsrc
  exact ⟨C', c', w', hr, hl, (Chg.of_below hb).trans hc, fun k hk => by
    rcases hf k hk with h1 | h1
    · exact .inl h1
    · exact .inr (by omega), hne⟩
theorem infoName : (Try.prog.info? 79).map (fun i => (i.zero, i.size, i.bytes)) = some (some (.agg #[.string ⟨#[]⟩, .int .i64 0]), 2, 24) := by kernel_rfl
/-- What stays of a directory ahead of what is put. -/
def outP (ps : List (ByteArray × Value)) (g p : ByteArray) : List (ByteArray × Value) := ps.filter fun q => decide (q.1 ≠ g ∧ q.1 ≠ p)
def applyN (ps : List (ByteArray × Value)) (g p : ByteArray) (k : Nat) : List (ByteArray × Value) := if p = ⟨#[]⟩ then outP ps g p else putP ltS (outP ps g p) p (numV k)
theorem outP_snoc (ps : List (ByteArray × Value)) (g p : ByteArray) (x : ByteArray) (v : Value) : outP (ps ++ [(x, v)]) g p = if x ≠ g ∧ x ≠ p then outP ps g p ++ [(x, v)] else outP ps g p := by
  unfold outP
  rw [List.filter_append]
  by_cases h : x ≠ g ∧ x ≠ p
  · rw [if_pos h]
    congr 1
    simp [h]
  · rw [if_neg h]
    have e : decide (x ≠ g ∧ x ≠ p) = false := decide_eq_false h
    show _ ++ List.filter (fun q : ByteArray × Value => decide (q.1 ≠ g ∧ q.1 ≠ p)) [(x, v)] = _
    rw [List.filter_cons, if_neg (by show ¬ decide (x ≠ g ∧ x ≠ p) = true; rw [e]; exact fun e => by cases e)]
    simp
theorem rises_out {ps : List (ByteArray × Value)} (h : Rises ltS ps) (g p : ByteArray) : Rises ltS (outP ps g p) := List.Pairwise.filter _ h
theorem outP_len (ps : List (ByteArray × Value)) (g p : ByteArray) : (outP ps g p).length ≤ ps.length := List.length_filter_le _ _
theorem SLine.clip {s : Nat} {w : World} {A : Option Addr} {n c : Nat} {xs : List Value} (h : SLine s w A n c xs) (m : Nat) (hm : m ≤ n) : SLine s w A m m (xs.take (m * s)) := by
  obtain ⟨h1, h2, h3, h4, h5⟩ := h.shrink m hm
  refine ⟨h1, Nat.le_refl _, by omega, fun e => by have := h4 e; have := h.2.1; omega, fun ad e => ?_⟩
  obtain ⟨g, off, rfl, hg, hc, hf⟩ := h5 ad e
  exact ⟨g, off, rfl, hg, hc, fun i hi => hf i (by have := h.2.1; have : m * s ≤ c * s := Nat.mul_le_mul_right s (by omega); omega)⟩
/-- The end of a line, to be appended. -/
theorem SLine.srcFrom {s : Nat} {w : World} {g off n c : Nat} {xs : List Value} {t e : TypeId} (ht : Try.prog.underlying t = some (.slice e)) (h : SLine s w (some ⟨g, off, none⟩) n c xs) (h1 : ∀ u ∈ xs, u.oneCell' = true) (k : Nat) (hk : k ≤ n) (c' : Nat) : Src Try.prog s t (.slice (some ⟨g, off + k * s, none⟩) (n - k) c') (n - k) (xs.drop (k * s)) w := by
  obtain ⟨g', off', e', hg, hc, _⟩ := h.2.2.2.2 _ rfl
  cases e'
  have hl := h.1
  have hks : k * s ≤ n * s := Nat.mul_le_mul_right s hk
  have hms : (n - k) * s = n * s - k * s := Nat.sub_mul ..
  refine Src.ofSlice w ht _ _ _ _ (by rw [List.length_drop]; omega) (fun j u hj => ?_) (fun u hu => h1 u (List.mem_of_mem_drop hu))
  rw [List.getElem?_drop] at hj
  have hjl := (List.getElem?_eq_some_iff.1 hj).1
  have e9 : (⟨g, off + k * s, none⟩ : Addr).add j = ⟨g, off + (k * s + j), none⟩ := by unfold Addr.add; split <;> simp_all [Nat.add_assoc]
  rw [e9, hc _ (by omega), hj]
/-- Behind the loop over the names. -/
def OutAt (w : World) (ps : List (ByteArray × Value)) (g p : ByteArray) (wr : World) (A : Option Addr) (c : Nat) : Prop :=
  SLine 2 wr A (outP ps g p).length c (cellsP encS (outP ps g p)) ∧ (∀ j ∈ blk A, w.heap.size ≤ j) ∧ Below w.heap.size w wr
theorem put_spot (out : List (ByteArray × Value)) (hr : Rises ltS out) (p : ByteArray) (hno : ∀ q ∈ out, q.1 ≠ p) (j : Nat) (hj : j ≤ out.length) (h1 : ∀ i q, j ≤ i → out[i]? = some q → ltS p q.1 = true) (h2 : ∀ q, 0 < j → out[j - 1]? = some q → ltS p q.1 = false) (v : Value) : putP ltS out p v = out.take j ++ (p, v) :: out.drop j := by
  have hlt : ∀ i q, i < j → out[i]? = some q → ltS q.1 p = true := by
    intro i q hi hq
    obtain ⟨z, hz⟩ : ∃ z, out[j - 1]? = some z := ⟨_, List.getElem?_eq_getElem (by omega)⟩
    have hzp : ltS z.1 p = true := by
      have := h2 z (by omega) hz
      cases h : ltS z.1 p with
      | true => rfl
      | false => exact absurd (orders_S.tot _ _ h this) (hno z (List.mem_of_getElem? hz))
    by_cases hij : i = j - 1
    · rw [hij, hz] at hq
      cases hq
      exact hzp
    · have hp := List.pairwise_iff_getElem.1 hr
      obtain ⟨hi', e1⟩ := List.getElem?_eq_some_iff.1 hq
      obtain ⟨hz', e2⟩ := List.getElem?_eq_some_iff.1 hz
      have := hp i (j - 1) hi' hz' (by omega)
      rw [e1, e2] at this
      exact orders_S.tr _ _ _ this hzp
  exact Spot.put_new (lt := ltS) orders_S hr ⟨hj, hlt, fun i q hi hq => orders_S.asym (h1 i q hi hq)⟩ (fun q hq => h1 j q (Nat.le_refl _) hq) v
theorem out_not (ps : List (ByteArray × Value)) (g p : ByteArray) : ∀ q ∈ outP ps g p, q.1 ≠ p := fun q hq => by
  have := (List.mem_filter.1 hq).2
  exact (of_decide_eq_true this).2
theorem empty_bytes {p : ByteArray} : p.toList.isEmpty = decide (p = ⟨#[]⟩) := by
  by_cases h : p = ⟨#[]⟩
  · rw [decide_eq_true h, h]
    rw [ByteArray.toList_eq]
    rfl
  · rw [decide_eq_false h]
    cases hE : p.toList.isEmpty with
    | false => rfl
    | true =>
      refine absurd ?_ h
      rw [List.isEmpty_iff, ByteArray.toList_eq] at hE
      cases p
      congr 1
      exact Array.toList_inj.1 hE
theorem bne_bytes {a b : ByteArray} : (a.toList != b.toList) = decide (a ≠ b) := by
  unfold bne
  rw [beq_bytes]
  by_cases h : a = b <;> simp [h]
theorem below_drewN (w : World) (n : Nat) : Below w.heap.size w (w.drewN n) := ⟨rfl, rfl, rfl, Nat.le_refl _, fun _ _ => rfl⟩
theorem new_line (s : Nat) (V : World) (news : List Value) (T : TypeId) (h : news.length = s) : SLine s (V.alloc (.cells news.toArray T)) (some ⟨V.heap.size, 0, none⟩) 1 1 news := by
  refine ⟨by omega, Nat.le_refl _, by unfold maxLen; omega, (fun e => by cases e), fun ad e => ?_⟩
  cases e
  have hb := heap_alloc_new V (.cells news.toArray T)
  refine ⟨V.heap.size, 0, rfl, by simp, fun i hi => ?_, fun i hi => ⟨?_, frozen_of_row _ _ _ _ _ hb⟩⟩
  · rw [cell_of_row _ V.heap.size (0 + i) _ _ (0, 0) hb]
    simp
  · rw [cell_of_row _ V.heap.size (0 + i) _ _ (0, 0) hb]
    simp
    omega
theorem SLine.src {s : Nat} {w : World} {A : Option Addr} {n c : Nat} {xs : List Value} {t e : TypeId} (ht : Try.prog.underlying t = some (.slice e)) (h : SLine s w A n c xs) (h1 : ∀ u ∈ xs, u.oneCell' = true) (hA : A ≠ none) (c' : Nat) : Src Try.prog s t (.slice A n c') n xs w := by
  cases A with
  | none => exact absurd rfl hA
  | some ad =>
    obtain ⟨g, off, rfl, _⟩ := h.2.2.2.2 _ rfl
    have := h.srcFrom ht h1 0 (Nat.zero_le _) c'
    simpa using this
/-- A pair between two ends of a line. -/
theorem put_runs (V : World) (A59 : Option Addr) (j : Nat) (xs1 : List Value) (h59 : SLine 2 V A59 j j xs1) (p : ByteArray) (num : Nat) (X : Value) (k : Nat) (xs2 : List Value) (hX : ∀ V', Below V.heap.size V V' → Src Try.prog 2 72 X k xs2 V') (hj : j ≤ 90000) (hk : k ≤ 90000) :
    ∃ A1 c1 W1 A2 c2 W2, (Builtin.append_ #[72, 72] 72 #[.slice (some ⟨V.heap.size, 0, none⟩) 1 1, X]).run Try.prog (V.alloc (.cells #[.string p, .int .i64 (num : Int)] 79)) = .ok (.slice A1 (1 + k) c1) W1 ∧
      (Builtin.append_ #[72, 72] 72 #[.slice A59 j j, .slice A1 (1 + k) c1]).run Try.prog W1 = .ok (.slice A2 (j + (1 + k)) c2) W2 ∧ SLine 2 W2 A2 (j + (1 + k)) c2 (xs1 ++ ([.string p, .int .i64 (num : Int)] ++ xs2)) ∧ Chg (blk A59) V W2 ∧ ∀ b ∈ blk A2, b ∈ blk A59 ∨ V.heap.size ≤ b := by
  obtain ⟨Vn, hVn⟩ : ∃ Vn, V.alloc (.cells #[.string p, .int .i64 (num : Int)] 79) = Vn := ⟨_, rfl⟩
  have hBn : Below V.heap.size V Vn := by rw [← hVn]; exact (Below.refl _ V).alloc (Nat.le_refl _) _
  have hsn : Vn.heap.size = V.heap.size + 1 := by rw [← hVn]; simp
  have hL : SLine 2 Vn (some ⟨V.heap.size, 0, none⟩) 1 1 [.string p, .int .i64 (num : Int)] := by rw [← hVn]; exact new_line 2 V [.string p, .int .i64 (num : Int)] _ rfl
  have hx2 := (hX _ hBn).one
  obtain ⟨A1, c1, W1, hr1, hl1, hc1, hf1, hne1⟩ := sline_append 2 Vn 72 79 72 _ 24 Try.underlying72 infoName rfl (by decide) _ 1 1 _ hL (by omega) X k (by omega) (fun e => by cases e) xs2 (hX _ hBn)
  have hB1 : Below V.heap.size V W1 := hBn.trans (hc1.toBelow (fun b hb => by rw [blk_one hb]; exact Nat.le_refl _) (by omega))
  have hone : ∀ u ∈ [Value.string p, .int .i64 (num : Int)] ++ xs2, u.oneCell' = true := fun u hu => by
    rcases List.mem_append.1 hu with h | h
    · simp only [List.mem_cons, List.not_mem_nil, or_false] at h
      rcases h with h | h <;> (rw [h]; rfl)
    · exact hx2 u h
  obtain ⟨A2, c2, W2, hr2, hl2, hc2, hf2, _⟩ := sline_append 2 W1 72 79 72 _ 24 Try.underlying72 infoName rfl (by decide) A59 j j xs1 (h59.below hB1) (by omega) (.slice A1 (1 + k) c1) (1 + k) (by omega) (fun _ => by omega) _ (hl1.src Try.underlying72 hone hne1 c1)
  rw [hVn]
  exact ⟨A1, c1, W1, A2, c2, W2, hr1, hr2, hl2, (Chg.of_below hB1).trans hc2, fun b hb => by
    rcases hf2 b hb with h | h
    · exact .inl h
    · exact .inr (by have := hB1.size; omega)⟩
set_option maxHeartbeats 1600000 in
theorem apply_free (w : World) (A : Option Addr) (n c : Nat) (ps : List (ByteArray × Value)) (h : RowG encS ltS w A n c ps) (hn : n ≤ 90000) (hv : Nums ps) (g p : ByteArray) (num : Nat) :
    Calls Try.prog 58 #[.slice A n c, .agg #[.string g, .string p, .int .i64 (num : Int)]] w fun e w' => (∃ A' c', e = .returned (.slice A' (applyN ps g p num).length c') ∧ RowG encS ltS w' A' (applyN ps g p num).length c' (applyN ps g p num) ∧ ∀ k ∈ blk A', w.heap.size ≤ k) ∧ Below w.heap.size w w' := by
  have hl := h.len
  have HH := Lib.hid h
  have HV := Lib.hid hv
  have HL := Lib.hid hl
  clear h hv hl
  obtain ⟨W0, hW0⟩ : ∃ W0, w.alloc (.cells #[.string g, .string p, .int .i64 (num : Int)] 114) = W0 := ⟨_, rfl⟩
  have hB0 : Below w.heap.size w W0 := by rw [← hW0]; exact (Below.refl _ w).alloc (Nat.le_refl _) _
  have hs0 : W0.heap.size = w.heap.size + 1 := by rw [← hW0]; simp
  have q0 : W0.heap[w.heap.size]? = some (.cells #[.string g, .string p, .int .i64 (num : Int)] 114 (0, 0)) := by rw [← hW0]; exact heap_alloc_new w _
  have HQ0 := Lib.hid (And.intro q0 (And.intro hB0 hs0))
  obtain ⟨hw, hhw⟩ : ∃ hw, w.heap.size = hw := ⟨_, rfl⟩
  have HHW := Lib.hid hhw
  clear q0 hB0 hs0
  go_enter Try.func58, Try.ntmps58
  go_wp2
  go_loopw [5, 11] (fun v i wr => ∃ (k : Nat) (A' : Option Addr) (c' : Nat), k ≤ n ∧ i = .int .i64 k ∧ v = .slice A' (outP (ps.take k) g p).length c' ∧ Hid (SLine 2 wr A' (outP (ps.take k) g p).length c' (cellsP encS (outP (ps.take k) g p)) ∧ (∀ j ∈ blk A', W0.heap.size ≤ j) ∧ Below W0.heap.size W0 wr)) (fun _ i _ => n - (intOf i).toNat)
  case atStart => exact ⟨0, none, 0, by omega, rfl, rfl, Lib.hid ⟨SLine.nil 2 _, fun j hj => (by cases hj), Below.refl _ _⟩⟩
  case round =>
    obtain ⟨k, A', c', hk, rfl, rfl, HI⟩ := hrel
    rcases Nat.lt_or_ge k n with hkn | hkn
    · obtain ⟨q, hq⟩ : ∃ q, ps[k]? = some q := ⟨_, List.getElem?_eq_getElem (by rw [HL.out]; exact hkn)⟩
      obtain ⟨x, v⟩ := q
      obtain ⟨m, hm, hmb⟩ := HV.out _ (List.mem_of_getElem? hq)
      simp only at hm
      subst hm
      have HTK : Hid (ps.take (k + 1) = ps.take k ++ [(x, numV m)]) := Lib.hid (by rw [List.take_add_one, hq]; rfl)
      have hB : Below w.heap.size w wr := HQ0.out.2.1.trans (HI.out.2.2.mono HQ0.out.2.1.size)
      have hG := HH.out.below hB
      obtain ⟨gg, off, rfl, hg, hcs, _⟩ := hG.at (by omega)
      obtain ⟨d0, d1⟩ := hcs k _ hq
      unfold encS at d0
      unfold numV at d1
      obtain ⟨Wa, hWa⟩ : ∃ Wa, wr.alloc (.cells #[.string x, .int .i64 (m : Int)] 79) = Wa := ⟨_, rfl⟩
      have hBa : Below wr.heap.size wr Wa := by rw [← hWa]; exact (Below.refl _ wr).alloc (Nat.le_refl _) _
      have hva : Wa.heap[wr.heap.size]? = some (.cells #[.string x, .int .i64 (m : Int)] 79 (0, 0)) := by rw [← hWa]; exact heap_alloc_new wr _
      have qa : Wa.heap[hw]? = some (.cells #[.string g, .string p, .int .i64 (num : Int)] 114 (0, 0)) := by
        have h1 := HI.out.2.2.block w.heap.size (by have := HQ0.out.2.2; omega)
        have h2 := hBa.block w.heap.size (by have := HI.out.2.2.size; have := HQ0.out.2.2; omega)
        rw [← HHW.out]
        exact h2.trans (h1.trans HQ0.out.1)
      obtain ⟨va, hvae⟩ : ∃ va, wr.heap.size = va := ⟨_, rfl⟩
      rw [hvae] at hva
      have e0 : Wa.cell? ⟨va, 0, none⟩ = some (.string x) := by rw [cell_of_row _ va 0 _ _ (0, 0) hva]; rfl
      have e1 : Wa.cell? ⟨va, 1, none⟩ = some (.int .i64 (m : Int)) := by rw [cell_of_row _ va 1 _ _ (0, 0) hva]; rfl
      have f0 : Wa.cell? ⟨hw, 0, none⟩ = some (.string g) := by rw [cell_of_row _ hw 0 _ _ (0, 0) qa]; rfl
      have f1 : Wa.cell? ⟨hw, 1, none⟩ = some (.string p) := by rw [cell_of_row _ hw 1 _ _ (0, 0) qa]; rfl
      have x0 : Wa.frozen? ⟨va, 0, none⟩ = false := frozen_of_row Wa va 0 _ _ hva
      have x1 : Wa.frozen? ⟨va, 1, none⟩ = false := frozen_of_row Wa va 1 _ _ hva
      have HI2 : Hid (SLine 2 Wa A' (outP (ps.take k) g p).length c' (cellsP encS (outP (ps.take k) g p)) ∧ (∀ j ∈ blk A', W0.heap.size ≤ j) ∧ Below W0.heap.size W0 Wa) := Lib.hid ⟨HI.out.1.below hBa, HI.out.2.1, HI.out.2.2.trans (hBa.mono HI.out.2.2.size)⟩
      have hkn' : (k : Int) < (n : Int) := by omega
      have hk0 : (0 : Int) ≤ (k : Int) := by omega
      have hb1 := beq_bytes (a := x) (b := g)
      have hb2 := beq_bytes (a := x) (b := p)
      have hno : ¬ (x ≠ g ∧ x ≠ p) → outP (ps.take (k + 1)) g p = outP (ps.take k) g p := fun h => by rw [HTK.out, outP_snoc, if_neg h]
      have hyes : (x ≠ g ∧ x ≠ p) → outP (ps.take (k + 1)) g p = outP (ps.take k) g p ++ [(x, numV m)] := fun h => by rw [HTK.out, outP_snoc, if_pos h]
      have hlo : (outP (ps.take k) g p).length ≤ 90000 := by have := outP_len (ps.take k) g p; rw [List.length_take] at this; omega
      clear hB hG hg hcs hq hBa hva qa HI
      by_cases h1 : x = g
      · rw [decide_eq_true h1] at hb1
        have HNO := Lib.hid (hno (fun h => h.1 h1))
        clear h1 hno hyes hb2
        go_wp2_with fail
        go_roundw
        case rel => exact ⟨k + 1, A', c', by omega, by go_num, by rw [HNO.out], by rw [HNO.out]; exact HI2⟩
        case measure => simp [intOf]; omega
      · rw [decide_eq_false h1] at hb1
        by_cases h2 : x = p
        · rw [decide_eq_true h2] at hb2
          have HNO := Lib.hid (hno (fun h => h.2 h2))
          clear h1 h2 hno hyes
          go_wp2_with fail
          go_roundw
          case rel => exact ⟨k + 1, A', c', by omega, by go_num, by rw [HNO.out], by rw [HNO.out]; exact HI2⟩
          case measure => simp [intOf]; omega
        · rw [decide_eq_false h2] at hb2
          have HYES := Lib.hid (hyes ⟨h1, h2⟩)
          clear h1 h2 hno hyes
          obtain ⟨C', c2, W2, hr, hl2, hc2, hf2, _⟩ := push_s 2 Wa 72 79 72 _ 24 Try.underlying72 infoName rfl (by decide) A' _ c' _ HI2.out.1 (by omega) [.string x, .int .i64 (m : Int)] rfl (fun u hu => by simp only [List.mem_cons, List.not_mem_nil, or_false] at hu; rcases hu with h | h <;> (rw [h]; rfl))
          have HR : Hid ((Builtin.append_ #[72, 72] 72 #[.slice A' (outP (ps.take k) g p).length c', .slice (some ⟨Wa.heap.size, 0, none⟩) 1 1]).run Try.prog (Wa.alloc (.cells #[.string x, .int .i64 (m : Int)] 79)) = .ok (.slice C' ((outP (ps.take k) g p).length + 1) c2) W2) := Lib.hid hr
          have HI3 : Hid (SLine 2 W2 C' (outP (ps.take (k + 1)) g p).length c2 (cellsP encS (outP (ps.take (k + 1)) g p)) ∧ (∀ j ∈ blk C', W0.heap.size ≤ j) ∧ Below W0.heap.size W0 W2) := Lib.hid (by
            rw [HYES.out, cellsP_append, List.length_append]
            refine ⟨hl2, fun j hj => ?_, HI2.out.2.2.trans ⟨hc2.below.os, hc2.below.tape, hc2.below.output, hc2.size, fun i hi => hc2.same i (by have := HI2.out.2.2.size; omega) (fun hm => by have := HI2.out.2.1 i hm; omega)⟩⟩
            rcases hf2 j hj with h | h
            · exact HI2.out.2.1 j h
            · have := HI2.out.2.2.size; omega)
          have HLEN : Hid ((outP (ps.take k) g p).length + 1 = (outP (ps.take (k + 1)) g p).length) := Lib.hid (by rw [HYES.out, List.length_append]; rfl)
          clear hr hl2 hc2 hf2
          go_wp2_with (at_builtin; refine Lib.wpList_append_run _ rfl _ _ _ _ rfl _ _ rfl rfl _ _ HR.out ?_)
          go_roundw
          case rel => exact ⟨k + 1, C', c2, by omega, by go_num, by rw [HLEN.out], HI3⟩
          case measure => simp [intOf]; omega
    · obtain rfl : k = n := by omega
      have htk : ps.take k = ps := List.take_of_length_le (by rw [HL.out]; exact Nat.le_refl _)
      rw [htk] at HI
      rw [htk]
      obtain ⟨Wq, hWq⟩ : ∃ Wq, wr = Wq := ⟨_, rfl⟩
      rw [hWq] at HI ⊢
      clear hWq
      obtain ⟨out, hout⟩ : ∃ out, outP ps g p = out := ⟨_, rfl⟩
      rw [hout] at HI
      rw [hout]
      have HAP : Hid (applyN ps g p num = if p = ⟨#[]⟩ then out else putP ltS out p (numV num)) := Lib.hid (by unfold applyN; rw [hout])
      have HO : Hid (Rises ltS out ∧ (∀ q ∈ out, q.1 ≠ p) ∧ Nums out ∧ out.length ≤ 90000) := Lib.hid (by
        rw [← hout]
        exact ⟨rises_out HH.out.rises g p, out_not ps g p, fun q hq => HV.out q (List.mem_filter.1 hq).1, by have := outP_len ps g p; rw [HL.out] at this; omega⟩)
      obtain ⟨m, hm⟩ : ∃ m, out.length = m := ⟨_, rfl⟩
      rw [hm] at HI HO
      rw [hm]
      have HM := Lib.hid hm
      have qa : Wq.heap[hw]? = some (.cells #[.string g, .string p, .int .i64 (num : Int)] 114 (0, 0)) := by
        have h1 := HI.out.2.2.block w.heap.size (by have := HQ0.out.2.2; omega)
        rw [← HHW.out]
        exact h1.trans HQ0.out.1
      have f1 : Wq.cell? ⟨hw, 1, none⟩ = some (.string p) := by rw [cell_of_row _ hw 1 _ _ (0, 0) qa]; rfl
      have f2 : Wq.cell? ⟨hw, 2, none⟩ = some (.int .i64 (num : Int)) := by rw [cell_of_row _ hw 2 _ _ (0, 0) qa]; rfl
      have HQA := Lib.hid qa
      have HBW : Hid (Below w.heap.size w Wq) := Lib.hid (HQ0.out.2.1.trans (HI.out.2.2.mono HQ0.out.2.1.size))
      have hE0 := empty_bytes (p := p)
      clear htk hout hm qa
      by_cases hE : p = ⟨#[]⟩
      · rw [decide_eq_true hE] at hE0
        have HAE : Hid (applyN ps g p num = out) := Lib.hid (by rw [HAP.out, if_pos hE])
        clear hE
        go_wp2
        go_ret
        rw [HAE.out, HM.out]
        refine ⟨⟨A', c', rfl, ⟨HI.out.1, HO.out.1, fun q hq => by obtain ⟨z, e, _⟩ := HO.out.2.2.1 q hq; rw [e]; rfl⟩, fun j hj => by have := HI.out.2.1 j hj; have := HQ0.out.2.2; omega⟩, HBW.out⟩
      · rw [decide_eq_false hE] at hE0
        have HAE : Hid (applyN ps g p num = putP ltS out p (numV num)) := Lib.hid (by rw [HAP.out, if_neg hE])
        clear hE
        go_upto_block 2 with fail
        go_cut [8] from 40 to 56 (fun v wx => ∃ j : Nat, j ≤ m ∧ v = .int .i64 j ∧ Hid (putP ltS out p (numV num) = out.take j ++ (p, numV num) :: out.drop j) ∧ Hid (Below Wq.heap.size Wq wx))
        case first =>
          go_wp2_with fail
          go_loopw [8] (fun v wr => ∃ j : Nat, j ≤ m ∧ v = .int .i64 j ∧ Hid (∀ i q, j ≤ i → out[i]? = some q → ltS p q.1 = true) ∧ Hid (Below Wq.heap.size Wq wr)) (fun v _ => (intOf v).toNat)
          case atStart => exact ⟨m, Nat.le_refl _, rfl, Lib.hid (fun i q hi hq => by have := (List.getElem?_eq_some_iff.1 hq).1; rw [HM.out] at this; omega), Lib.hid (Below.refl _ _)⟩
          case round =>
            obtain ⟨j, hj, rfl, HJ, HB⟩ := hrel
            have qb : wr.heap[hw]? = some (.cells #[.string g, .string p, .int .i64 (num : Int)] 114 (0, 0)) := (HB.out.block hw (lt_of_block HQA.out)).trans HQA.out
            have b1 : wr.cell? ⟨hw, 1, none⟩ = some (.string p) := by rw [cell_of_row _ hw 1 _ _ (0, 0) qb]; rfl
            have b2 : wr.cell? ⟨hw, 2, none⟩ = some (.int .i64 (num : Int)) := by rw [cell_of_row _ hw 2 _ _ (0, 0) qb]; rfl
            have HOUT := Lib.hid (HI.out.1.below HB.out)
            clear qb f1 f2
            have HBD : ∀ n, Hid (Below Wq.heap.size Wq (wr.drewN n)) := fun n => Lib.hid (HB.out.trans ((below_drewN wr n).mono HB.out.size))
            have HBD1 : Hid (Below Wq.heap.size Wq wr.drew) := Lib.hid (HB.out.trans ((Below.refl _ wr).drew.mono HB.out.size))
            rcases Nat.eq_zero_or_pos j with rfl | hj0
            · have HPUT := Lib.hid (put_spot out HO.out.1 p HO.out.2.1 0 (Nat.zero_le _) HJ.out (fun q h => by omega) (numV num))
              go_wp2_with fail
              go_region
              go_wp2
              go_meet
              exact ⟨0, by omega, rfl, HPUT, HBD1⟩
            · obtain ⟨i, rfl⟩ : ∃ i, j = i + 1 := ⟨j - 1, by omega⟩
              obtain ⟨q, hq⟩ : ∃ q, out[i]? = some q := ⟨_, List.getElem?_eq_getElem (by rw [HM.out]; omega)⟩
              obtain ⟨y, v⟩ := q
              obtain ⟨g1, o1, rfl, hg1, hcs1, hfr1⟩ := HOUT.out.at (by omega)
              obtain ⟨x1, x2⟩ := cellsP_at encS out i _ hq
              have d0 : wr.cell? ⟨g1, o1 + i * 2, none⟩ = some (.string y) := (hcs1 (i * 2) (by omega)).trans x1
              have hi1 : ((i + 1 : Nat) : Int) - 1 = (i : Int) := by omega
              have hi2 : (0 : Int) < ((i + 1 : Nat) : Int) := by omega
              have hi3 : (i : Int) < (m : Int) := by omega
              have hi4 : (0 : Int) ≤ (i : Int) := by omega
              have hwi : IntKind.i64.wrap (i : Int) = (i : Int) := by
                have hb := HO.out.2.2.2
                rw [IntKind.wrap_i64]
                omega
              have HQ := Lib.hid hq
              clear hg1 hcs1 hfr1 x1 x2 hq
              have hne : y ≠ p := HO.out.2.1 _ (List.mem_of_getElem? HQ.out)
              have hey : (y.toList == p.toList) = false := by rw [beq_bytes]; exact decide_eq_false hne
              cases hlt : ltS p y with
              | true =>
                have HJ2 : Hid (∀ k q, i ≤ k → out[k]? = some q → ltS p q.1 = true) := Lib.hid (fun k q hk hq => by
                  rcases Nat.lt_or_ge i k with h | h
                  · exact HJ.out k q h hq
                  · obtain rfl : k = i := by omega
                    rw [HQ.out] at hq
                    cases hq
                    exact hlt)
                have hly : Op.bytesLess y.toList p.toList = false := orders_S.asym hlt
                clear hlt hne
                go_wp2_with fail
                go_quiet (fail)
                go_wp2
                go_roundw
                case rel => exact ⟨i, by omega, by go_num, HJ2, HBD _⟩
                case measure => simp [intOf] <;> omega
              | false =>
                have HPUT := Lib.hid (put_spot out HO.out.1 p HO.out.2.1 (i + 1) (by rw [HM.out]; exact hj) HJ.out (fun q _ hq => by
                  rw [Nat.add_sub_cancel, HQ.out] at hq
                  cases hq
                  exact hlt) (numV num))
                have hly : Op.bytesLess y.toList p.toList = true := by
                  cases h : ltS y p with
                  | true => exact h
                  | false => exact absurd (orders_S.tot _ _ h hlt) hne
                clear hlt hne
                go_wp2_with fail
                go_quiet (fail)
                go_wp2
                go_meet
                exact ⟨i + 1, hj, rfl, HPUT, HBD _⟩
        case rest =>
          obtain ⟨j, hj, rfl, HPUT, HB⟩ := hcut
          have qb : wc.heap[hw]? = some (.cells #[.string g, .string p, .int .i64 (num : Int)] 114 (0, 0)) := (HB.out.block hw (lt_of_block HQA.out)).trans HQA.out
          have b1 : wc.drew.cell? ⟨hw, 1, none⟩ = some (.string p) := by
            show wc.cell? ⟨hw, 1, none⟩ = _
            rw [cell_of_row _ hw 1 _ _ (0, 0) qb]; rfl
          have b2 : wc.drew.cell? ⟨hw, 2, none⟩ = some (.int .i64 (num : Int)) := by
            show wc.cell? ⟨hw, 2, none⟩ = _
            rw [cell_of_row _ hw 2 _ _ (0, 0) qb]; rfl
          have HOUT := Lib.hid ((HI.out.1.below HB.out).drew)
          clear qb f1 f2
          go_wp2_with fail
          refine wp_region_any (by kernel_rfl) ?_
          change wpAny _ _ _ _ _ _ _ (World.drew _)
          have hj0 : (0 : Int) ≤ (j : Int) := by omega
          have hjm : (j : Int) ≤ (m : Int) := by omega
          have hout := HOUT.out
          have hmc : (m : Int) ≤ (c' : Int) := by have := hout.2.1; omega
          have hjc : (j : Int) ≤ (c' : Int) := by omega
          have hm9 : m ≤ 90000 := HO.out.2.2.2
          have HFR : Hid (∀ b ∈ blk A', w.heap.size ≤ b) := Lib.hid (fun b hb => by have := HI.out.2.1 b hb; have := HQ0.out.2.2; omega)
          have HEND : Hid (∀ A2 c2 W2 A59, SLine 2 W2 A2 (j + (1 + (m - j))) c2 (cellsP encS (out.take j) ++ ([.string p, .int .i64 (num : Int)] ++ cellsP encS (out.drop j))) → Chg (blk A59) wc.drew W2 → (∀ b ∈ blk A2, b ∈ blk A59 ∨ wc.drew.heap.size ≤ b) → (∀ b ∈ blk A59, w.heap.size ≤ b) →
              ∃ A' c', Ending.returned (Value.slice A2 (j + (1 + (m - j))) c2) = .returned (.slice A' (applyN ps g p num).length c') ∧ RowG encS ltS W2 A' (applyN ps g p num).length c' (applyN ps g p num) ∧ (∀ k ∈ blk A', w.heap.size ≤ k)) := Lib.hid (by
            intro A2 c2 W2 A59 h1 h2 h3 h4
            have hap : applyN ps g p num = out.take j ++ (p, numV num) :: out.drop j := HAE.out.trans HPUT.out
            have hlen : (applyN ps g p num).length = j + (1 + (m - j)) := by
              have := HM.out
              rw [hap, List.length_append, List.length_cons, List.length_take, List.length_drop]
              omega
            refine ⟨A2, c2, by rw [hlen], ⟨?_, ?_, ?_⟩, fun b hb => ?_⟩
            · rw [hlen, hap, cellsP_append]
              exact h1
            · rw [HAE.out]
              exact rises_put orders_S HO.out.1 _
            · intro q hq
              rw [hap] at hq
              rcases List.mem_append.1 hq with h | h
              · obtain ⟨z, e, _⟩ := HO.out.2.2.1 q (List.mem_of_mem_take h); rw [e]; rfl
              · rcases List.mem_cons.1 h with h | h
                · rw [h]; rfl
                · obtain ⟨z, e, _⟩ := HO.out.2.2.1 q (List.mem_of_mem_drop h); rw [e]; rfl
            · rcases h3 b hb with h | h
              · exact h4 b h
              · have := HB.out.size
                have := HBW.out.size
                have e : wc.drew.heap.size = wc.heap.size := rfl
                omega)
          have HBEL : Hid (∀ A59 W2, Chg (blk A59) wc.drew W2 → (∀ b ∈ blk A59, w.heap.size ≤ b) → Below w.heap.size w W2) := Lib.hid (by
            intro A59 W2 h1 h2
            have h0 : Below w.heap.size w wc.drew := (HBW.out.trans (HB.out.mono HBW.out.size)).drew
            exact h0.trans (h1.toBelow h2 h0.size))
          cases A' with
          | none =>
            have hc0 : c' = 0 := hout.2.2.2.1 rfl
            have hm0 : m = 0 := by have := hout.2.1; omega
            subst hc0 hm0
            obtain rfl : j = 0 := by omega
            have hfr0 : ∀ b ∈ blk (none : Option Addr), w.heap.size ≤ b := fun b hb => by cases hb
            obtain ⟨A1, c1, W1, A2, c2, W2, hr1, hr2, hl2, hc2, hf2⟩ := put_runs wc.drew none 0 (cellsP encS (out.take 0)) (SLine.nil 2 _) p num (.slice none 0 0) 0 (cellsP encS (out.drop 0)) (fun V' _ => by
              have e : out = [] := List.eq_nil_of_length_eq_zero HM.out
              rw [e]
              exact Src.ofNil V' Try.underlying72 0) (by omega) (by omega)
            have HR1 := Lib.hid hr1
            have HR2 := Lib.hid hr2
            have HFIN := Lib.hid (And.intro (HEND.out A2 c2 W2 none hl2 hc2 hf2 hfr0) (HBEL.out none W2 hc2 hfr0))
            clear hr1 hr2 hl2 hc2 hf2 hout hj0 hjm hmc hjc
            refine wpAny_take (i := 0) (v := (.slice none 0 0)) rfl (by kernel_rfl) (by kernel_rfl) (by kernel_rfl) (fun _ _ _ h => h) (Or.inl ⟨by rfl, (by intro w; go_simp)⟩) ?_
            refine wpAny_take (i := 1) (v := (.int .i64 (0 : Int))) rfl (by kernel_rfl) (by kernel_rfl) (by kernel_rfl) (fun _ _ _ h => h) (Or.inl ⟨by rfl, (by intro w; go_simp)⟩) ?_
            refine wpAny_take (i := 2) (v := (.int .i64 (0 : Int))) rfl (by kernel_rfl) (by kernel_rfl) (by kernel_rfl) (fun _ _ _ h => h) (Or.inl ⟨by rfl, (by intro w; go_simp)⟩) ?_
            refine wpAny_take (i := 3) (v := (.slice none 0 0)) rfl (by kernel_rfl) (by kernel_rfl) (by kernel_rfl) (fun _ _ _ h => h) (Or.inl ⟨by rfl, (by intro w; go_simp)⟩) ?_
            refine wpAny_take (i := 4) (v := (.pointer (some ⟨hw, 1, none⟩))) rfl (by kernel_rfl) (by kernel_rfl) (by kernel_rfl) (fun _ _ _ h => h) (Or.inl ⟨by rfl, (by intro w; go_simp)⟩) ?_
            refine wpAny_take (i := 7) (v := (.slice none 0 0)) rfl (by kernel_rfl) (by kernel_rfl) (by kernel_rfl) (fun _ _ _ h => h) (Or.inl ⟨by rfl, (by intro w; go_simp)⟩) ?_
            refine wpAny_take (i := 8) (v := (.int .i64 (0 : Int))) rfl (by kernel_rfl) (by kernel_rfl) (by kernel_rfl) (fun _ _ _ h => h) (Or.inl ⟨by rfl, (by intro w; go_simp)⟩) ?_
            refine wpAny_take (i := 9) (v := (.slice none 0 0)) rfl (by kernel_rfl) (by kernel_rfl) (by kernel_rfl) (fun _ _ _ h => h) (Or.inl ⟨by rfl, (by intro w; go_simp)⟩) ?_
            refine wpAny_ready (rs := [5]) (by kernel_rfl) (by simp) ?_
            refine AllReady.cons rfl (fun K hK => ?_) AllReady.nil
            go_simp
            refine hK _ _ ?_
            clear hK K
            refine wpAny_ready (rs := [6]) (by kernel_rfl) (by simp) ?_
            refine AllReady.cons rfl (fun K hK => ?_) AllReady.nil
            go_simp
            refine hK _ _ ?_
            clear hK K
            refine wpAny_ready (rs := [10]) (by kernel_rfl) (by simp) ?_
            refine append_ready rfl (by kernel_rfl) _ _ _ _ rfl _ _ rfl rfl _ _ HR1.out ?_
            refine wpAny_ready (rs := [11]) (by kernel_rfl) (by simp) ?_
            refine append_ready rfl (by kernel_rfl) _ _ _ _ rfl _ _ rfl rfl _ _ HR2.out ?_
            refine wpAny_ready (rs := [12]) (by kernel_rfl) (by simp) ?_
            refine AllReady.cons rfl (fun K hK => ?_) AllReady.nil
            go_simp
            refine hK _ _ ?_
            clear hK K
            refine wpAny_done (by kernel_rfl) ?_ _
            go_wp2
            go_ret
            exact HFIN.out
          | some ad =>
            obtain ⟨g1, o1, rfl, hg1, hcs1, hfr1⟩ := hout.2.2.2.2 _ rfl
            have h59 := hout.clip j hj
            rw [← (cellsP_split encS out j (by rw [HM.out]; exact hj)).1] at h59
            have hone : ∀ u ∈ cellsP encS out, u.oneCell' = true := cellsP_one encS (fun a => rfl) out (fun q hq => by obtain ⟨z, e, _⟩ := HO.out.2.2.1 q hq; rw [e]; rfl)
            have hd2 := (cellsP_split encS out j (by rw [HM.out]; exact hj)).2
            rcases Nat.lt_or_ge j c' with hlt | hge
            · obtain ⟨A1, c1, W1, A2, c2, W2, hr1, hr2, hl2, hc2, hf2⟩ := put_runs wc.drew (some ⟨g1, o1, none⟩) j (cellsP encS (out.take j)) h59 p num (.slice (some ⟨g1, o1 + j * 2, none⟩) (m - j) (c' - j)) (m - j) (cellsP encS (out.drop j)) (fun V' hB' => by
                rw [hd2]
                exact (hout.below hB').srcFrom Try.underlying72 hone j hj _) (by omega) (by omega)
              have HR1 := Lib.hid hr1
              have HR2 := Lib.hid hr2
              have HFIN := Lib.hid (And.intro (HEND.out A2 c2 W2 _ hl2 hc2 hf2 HFR.out) (HBEL.out _ W2 hc2 HFR.out))
              have hne : ¬ c' = j := by omega
              clear hr1 hr2 hl2 hc2 hf2 hout hg1 hcs1 hfr1 h59 hone hd2 hlt
              refine wpAny_take (i := 0) (v := (.slice (some ⟨g1, o1, none⟩) m c')) rfl (by kernel_rfl) (by kernel_rfl) (by kernel_rfl) (fun _ _ _ h => h) (Or.inl ⟨by rfl, (by intro w; go_simp)⟩) ?_
              refine wpAny_take (i := 1) (v := (.int .i64 (j : Int))) rfl (by kernel_rfl) (by kernel_rfl) (by kernel_rfl) (fun _ _ _ h => h) (Or.inl ⟨by rfl, (by intro w; go_simp)⟩) ?_
              refine wpAny_take (i := 2) (v := (.int .i64 (j : Int))) rfl (by kernel_rfl) (by kernel_rfl) (by kernel_rfl) (fun _ _ _ h => h) (Or.inl ⟨by rfl, (by intro w; go_simp)⟩) ?_
              refine wpAny_take (i := 3) (v := (.slice (some ⟨g1, o1, none⟩) j j)) rfl (by kernel_rfl) (by kernel_rfl) (by kernel_rfl) (fun _ _ _ h => h) (Or.inl ⟨by rfl, (by intro w; go_simp)⟩) ?_
              refine wpAny_take (i := 4) (v := (.pointer (some ⟨hw, 1, none⟩))) rfl (by kernel_rfl) (by kernel_rfl) (by kernel_rfl) (fun _ _ _ h => h) (Or.inl ⟨by rfl, (by intro w; go_simp)⟩) ?_
              refine wpAny_take (i := 7) (v := (.slice (some ⟨g1, o1, none⟩) m c')) rfl (by kernel_rfl) (by kernel_rfl) (by kernel_rfl) (fun _ _ _ h => h) (Or.inl ⟨by rfl, (by intro w; go_simp)⟩) ?_
              refine wpAny_take (i := 8) (v := (.int .i64 (j : Int))) rfl (by kernel_rfl) (by kernel_rfl) (by kernel_rfl) (fun _ _ _ h => h) (Or.inl ⟨by rfl, (by intro w; go_simp)⟩) ?_
              refine wpAny_take (i := 9) (v := (.slice (some ⟨g1, o1 + j * 2, none⟩) (m - j) (c' - j))) rfl (by kernel_rfl) (by kernel_rfl) (by kernel_rfl) (fun _ _ _ h => h) (Or.inl ⟨by rfl, (by intro w; go_simp)⟩) ?_
              refine wpAny_ready (rs := [5]) (by kernel_rfl) (by simp) ?_
              refine AllReady.cons rfl (fun K hK => ?_) AllReady.nil
              go_simp
              refine hK _ _ ?_
              clear hK K
              refine wpAny_ready (rs := [6]) (by kernel_rfl) (by simp) ?_
              refine AllReady.cons rfl (fun K hK => ?_) AllReady.nil
              go_simp
              refine hK _ _ ?_
              clear hK K
              refine wpAny_ready (rs := [10]) (by kernel_rfl) (by simp) ?_
              refine append_ready rfl (by kernel_rfl) _ _ _ _ rfl _ _ rfl rfl _ _ HR1.out ?_
              refine wpAny_ready (rs := [11]) (by kernel_rfl) (by simp) ?_
              refine append_ready rfl (by kernel_rfl) _ _ _ _ rfl _ _ rfl rfl _ _ HR2.out ?_
              refine wpAny_ready (rs := [12]) (by kernel_rfl) (by simp) ?_
              refine AllReady.cons rfl (fun K hK => ?_) AllReady.nil
              go_simp
              refine hK _ _ ?_
              clear hK K
              refine wpAny_done (by kernel_rfl) ?_ _
              go_wp2
              go_ret
              exact HFIN.out
            · obtain rfl : j = c' := by have := hout.2.1; omega
              obtain rfl : m = j := by have := hout.2.1; omega
              obtain ⟨A1, c1, W1, A2, c2, W2, hr1, hr2, hl2, hc2, hf2⟩ := put_runs wc.drew (some ⟨g1, o1, none⟩) m (cellsP encS (out.take m)) h59 p num (.slice (some ⟨g1, o1, none⟩) 0 0) (m - m) (cellsP encS (out.drop m)) (fun V' hB' => by
                have e : out.drop m = [] := List.drop_eq_nil_of_le (by rw [HM.out]; exact Nat.le_refl _)
                rw [e, Nat.sub_self]
                exact Src.ofSlice V' Try.underlying72 _ 0 0 [] rfl (fun j u hj => by simp at hj) (fun u hu => by cases hu)) (by omega) (by omega)
              have HR1 := Lib.hid hr1
              have HR2 := Lib.hid hr2
              have HFIN := Lib.hid (And.intro (HEND.out A2 c2 W2 _ hl2 hc2 hf2 HFR.out) (HBEL.out _ W2 hc2 HFR.out))
              clear hr1 hr2 hl2 hc2 hf2 hout hg1 hcs1 hfr1 h59 hone hd2 hge
              refine wpAny_take (i := 0) (v := (.slice (some ⟨g1, o1, none⟩) m m)) rfl (by kernel_rfl) (by kernel_rfl) (by kernel_rfl) (fun _ _ _ h => h) (Or.inl ⟨by rfl, (by intro w; go_simp)⟩) ?_
              refine wpAny_take (i := 1) (v := (.int .i64 (m : Int))) rfl (by kernel_rfl) (by kernel_rfl) (by kernel_rfl) (fun _ _ _ h => h) (Or.inl ⟨by rfl, (by intro w; go_simp)⟩) ?_
              refine wpAny_take (i := 2) (v := (.int .i64 (m : Int))) rfl (by kernel_rfl) (by kernel_rfl) (by kernel_rfl) (fun _ _ _ h => h) (Or.inl ⟨by rfl, (by intro w; go_simp)⟩) ?_
              refine wpAny_take (i := 3) (v := (.slice (some ⟨g1, o1, none⟩) m m)) rfl (by kernel_rfl) (by kernel_rfl) (by kernel_rfl) (fun _ _ _ h => h) (Or.inl ⟨by rfl, (by intro w; go_simp)⟩) ?_
              refine wpAny_take (i := 4) (v := (.pointer (some ⟨hw, 1, none⟩))) rfl (by kernel_rfl) (by kernel_rfl) (by kernel_rfl) (fun _ _ _ h => h) (Or.inl ⟨by rfl, (by intro w; go_simp)⟩) ?_
              refine wpAny_take (i := 7) (v := (.slice (some ⟨g1, o1, none⟩) m m)) rfl (by kernel_rfl) (by kernel_rfl) (by kernel_rfl) (fun _ _ _ h => h) (Or.inl ⟨by rfl, (by intro w; go_simp)⟩) ?_
              refine wpAny_take (i := 8) (v := (.int .i64 (m : Int))) rfl (by kernel_rfl) (by kernel_rfl) (by kernel_rfl) (fun _ _ _ h => h) (Or.inl ⟨by rfl, (by intro w; go_simp)⟩) ?_
              refine wpAny_take (i := 9) (v := (.slice (some ⟨g1, o1, none⟩) 0 0)) rfl (by kernel_rfl) (by kernel_rfl) (by kernel_rfl) (fun _ _ _ h => h) (Or.inl ⟨by rfl, (by intro w; go_simp)⟩) ?_
              refine wpAny_ready (rs := [5]) (by kernel_rfl) (by simp) ?_
              refine AllReady.cons rfl (fun K hK => ?_) AllReady.nil
              go_simp
              refine hK _ _ ?_
              clear hK K
              refine wpAny_ready (rs := [6]) (by kernel_rfl) (by simp) ?_
              refine AllReady.cons rfl (fun K hK => ?_) AllReady.nil
              go_simp
              refine hK _ _ ?_
              clear hK K
              refine wpAny_ready (rs := [10]) (by kernel_rfl) (by simp) ?_
              refine append_ready rfl (by kernel_rfl) _ _ _ _ rfl _ _ rfl rfl _ _ HR1.out ?_
              refine wpAny_ready (rs := [11]) (by kernel_rfl) (by simp) ?_
              refine append_ready rfl (by kernel_rfl) _ _ _ _ rfl _ _ rfl rfl _ _ HR2.out ?_
              refine wpAny_ready (rs := [12]) (by kernel_rfl) (by simp) ?_
              refine AllReady.cons rfl (fun K hK => ?_) AllReady.nil
              go_simp
              refine hK _ _ ?_
              clear hK K
              refine wpAny_done (by kernel_rfl) ?_ _
              go_wp2
              go_ret
              have hF := HFIN.out
              rw [Nat.sub_self, Nat.add_zero] at hF
              exact hF
theorem apply_any (w : World) (A : Option Addr) (n c : Nat) (ps : List (ByteArray × Value)) (h : RowG encS ltS w A n c ps) (hn : n ≤ 90000) (hv : Nums ps) (g p : ByteArray) (num : Nat) (hnum : num ≤ 1000000) :
    Calls Try.prog 58 #[.slice A n c, .agg #[.string g, .string p, .int .i64 (num : Int)]] w fun e w' => (∃ A' c', e = .returned (.slice A' (applyN ps g p num).length c') ∧ RowG encS ltS w' A' (applyN ps g p num).length c' (applyN ps g p num) ∧ ∀ k ∈ blk A', w.heap.size ≤ k) ∧ Below w.heap.size w w' := apply_free w A n c ps h hn hv g p num
end Go.Proofs.Ytbjlikppboggmaa
