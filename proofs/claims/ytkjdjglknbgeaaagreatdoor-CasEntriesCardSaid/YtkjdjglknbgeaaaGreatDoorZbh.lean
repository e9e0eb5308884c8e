/-
  The document's disk: apply, a directory with a change.
  The contract of the disk's List.
-/
import Derived.Test.YtkjdjglknbgeaaaGreatDoorZbf
import Derived.Deep.CutBlock
import Derived.Deep.QuietTactic
import Derived.BigQuiet
import Derived.Test.YtkjdjglknbgeaaaGreatDoorZbb
namespace Go.Proofs.YtkjdjglknbgeaaaGreatDoor
open Go.RowKit Go.Maps
set_option linter.unusedVariables false
set_option maxRecDepth 100000

/-- An append in a region that draws its order, its run given as an equation. -/
theorem append_ready {P : Program} {md : Region.Mode} {ops : Array Oper} {Q : Exit → Act → World → Prop} {fuel : Nat} {listed : Array Bool} {a : Act} {w : World} {i : Nat} {o : Oper} (ho : ops[i]? = some o) (hw : Region.wanted o (yielded ops a.tmps) = true)
    (s x : Operand) (t tn : TypeId) (hop : o.op = Op.call { callee := Callee.builtin Builtin.append, args := #[s, x], argTypes := #[t, tn] }) (vs vx : Value) (hs : a.eval s = vs) (hx : a.eval x = vx)
    (v' : Value) (w' : World) (hr : (Builtin.append_ #[t, tn] o.type #[vs, vx]).run P w = .ok v' w') (h : wpAny P md ops Q fuel (listed.setIfInBounds i true) (a.put o.dst v') w') : AllReady P md ops Q fuel listed a w [i] := by
  refine AllReady.cons ho (fun K' hK => ?_) AllReady.nil
  rw [if_pos hw]
  exact Lib.wp_append_run w s x t tn hop vs vx hs hx v' w' hr (hK _ _ h)
theorem new_cells (W : World) (news : List Value) (T : TypeId) : ∀ j u, news[j]? = some u → (W.alloc (.cells news.toArray T)).cell? ((⟨W.heap.size, 0, none⟩ : Addr).add j) = some u := by
  intro j u hu
  have e9 : (⟨W.heap.size, 0, none⟩ : Addr).add j = ⟨W.heap.size, j, none⟩ := by unfold Addr.add; split <;> simp_all
  rw [e9, cell_of_row _ W.heap.size j _ _ (0, 0) (heap_alloc_new W _)]
  rw [← hu]
  simp
/-- An element more, at the end of a line: in the line's own block or in a new one. -/
theorem push_s (s : Nat) (w : World) (t e ty : TypeId) (z : Value) (bytes : Nat) (ht : Tryz.prog.underlying t = some (.slice e)) (hinfo : (Tryz.prog.info? e).map (fun i => (i.zero, i.size, i.bytes)) = some (some z, s, bytes)) (hz1 : z.cells.size = s) (hby : bytes ≤ 256)
    (C : Option Addr) (n c : Nat) (xs : List Value) (h : SLine s w C n c xs) (hn : n ≤ 100000) (news : List Value) (hnl : news.length = s) (h1 : ∀ u ∈ news, u.oneCell' = true) :
    ∃ C' c' w', (Builtin.append_ #[t, t] ty #[.slice C n c, .slice (some ⟨w.heap.size, 0, none⟩) 1 1]).run Tryz.prog (w.alloc (.cells news.toArray e)) = .ok (.slice C' (n + 1) c') w' ∧ SLine s w' C' (n + 1) c' (xs ++ news) ∧ Chg (blk C) w w' ∧ (∀ k ∈ blk C', k ∈ blk C ∨ w.heap.size ≤ k) ∧ C' ≠ none := by
  have hb : Below w.heap.size w (w.alloc (.cells news.toArray e)) := (Below.refl _ w).alloc (Nat.le_refl _) _
  have hs : (w.alloc (.cells news.toArray e)).heap.size = w.heap.size + 1 := by simp
  have hsrc : Src Tryz.prog s t (.slice (some ⟨w.heap.size, 0, none⟩) 1 1) 1 news (w.alloc (.cells news.toArray e)) := Src.ofSlice _ ht ⟨w.heap.size, 0, none⟩ 1 1 news (by rw [hnl, Nat.one_mul]) (new_cells w _ _) h1
  obtain ⟨C', c', w', hr, hl, hc, hf, hne⟩ := sline_append s (w.alloc (.cells news.toArray e)) t e ty z bytes ht hinfo hz1 hby C n c xs (h.below hb) (by omega) _ 1 (by omega) (fun _ => by omega) _ hsrc
  exact ⟨C', c', w', hr, hl, (Chg.of_below hb).trans hc, fun k hk => by
    rcases hf k hk with h1 | h1
    · exact .inl h1
    · exact .inr (by omega), hne⟩
/-- What stays of a directory ahead of what is put. -/
def outP (ps : List (ByteArray × Value)) (g p : ByteArray) : List (ByteArray × Value) := ps.filter fun q => decide (q.1 ≠ g ∧ q.1 ≠ p)
def applyN (ps : List (ByteArray × Value)) (g p : ByteArray) (k : Nat) : List (ByteArray × Value) := if p = ⟨#[]⟩ then outP ps g p else putP ltS (outP ps g p) p (numV k)
theorem outP_snoc (ps : List (ByteArray × Value)) (g p : ByteArray) (x : ByteArray) (v : Value) : outP (ps ++ [(x, v)]) g p = if x ≠ g ∧ x ≠ p then outP ps g p ++ [(x, v)] else outP ps g p := by
  unfold outP
  rw [List.filter_append]
  by_cases h : x ≠ g ∧ x ≠ p
  · rw [if_pos h]
    congr 1
    simp [h]
  · rw [if_neg h]
    have e : decide (x ≠ g ∧ x ≠ p) = false := decide_eq_false h
    show _ ++ List.filter (fun q : ByteArray × Value => decide (q.1 ≠ g ∧ q.1 ≠ p)) [(x, v)] = _
    rw [List.filter_cons, if_neg (by show ¬ decide (x ≠ g ∧ x ≠ p) = true; rw [e]; exact fun e => by cases e)]
    simp
theorem rises_out {ps : List (ByteArray × Value)} (h : Rises ltS ps) (g p : ByteArray) : Rises ltS (outP ps g p) := List.Pairwise.filter _ h
theorem outP_len (ps : List (ByteArray × Value)) (g p : ByteArray) : (outP ps g p).length ≤ ps.length := List.length_filter_le _ _
theorem SLine.clip {s : Nat} {w : World} {A : Option Addr} {n c : Nat} {xs : List Value} (h : SLine s w A n c xs) (m : Nat) (hm : m ≤ n) : SLine s w A m m (xs.take (m * s)) := by
  obtain ⟨h1, h2, h3, h4, h5⟩ := h.shrink m hm
  refine ⟨h1, Nat.le_refl _, by omega, fun e => by have := h4 e; have := h.2.1; omega, fun ad e => ?_⟩
  obtain ⟨g, off, rfl, hg, hc, hf⟩ := h5 ad e
  exact ⟨g, off, rfl, hg, hc, fun i hi => hf i (by have := h.2.1; have : m * s ≤ c * s := Nat.mul_le_mul_right s (by omega); omega)⟩
/-- The end of a line, to be appended. -/
theorem SLine.srcFrom {s : Nat} {w : World} {g off n c : Nat} {xs : List Value} {t e : TypeId} (ht : Tryz.prog.underlying t = some (.slice e)) (h : SLine s w (some ⟨g, off, none⟩) n c xs) (h1 : ∀ u ∈ xs, u.oneCell' = true) (k : Nat) (hk : k ≤ n) (c' : Nat) : Src Tryz.prog s t (.slice (some ⟨g, off + k * s, none⟩) (n - k) c') (n - k) (xs.drop (k * s)) w := by
  obtain ⟨g', off', e', hg, hc, _⟩ := h.2.2.2.2 _ rfl
  cases e'
  have hl := h.1
  have hks : k * s ≤ n * s := Nat.mul_le_mul_right s hk
  have hms : (n - k) * s = n * s - k * s := Nat.sub_mul ..
  refine Src.ofSlice w ht _ _ _ _ (by rw [List.length_drop]; omega) (fun j u hj => ?_) (fun u hu => h1 u (List.mem_of_mem_drop hu))
  rw [List.getElem?_drop] at hj
  have hjl := (List.getElem?_eq_some_iff.1 hj).1
  have e9 : (⟨g, off + k * s, none⟩ : Addr).add j = ⟨g, off + (k * s + j), none⟩ := by unfold Addr.add; split <;> simp_all [Nat.add_assoc]
  rw [e9, hc _ (by omega), hj]
/-- Behind the loop over the names. -/
def OutAt (w : World) (ps : List (ByteArray × Value)) (g p : ByteArray) (wr : World) (A : Option Addr) (c : Nat) : Prop :=
  SLine 2 wr A (outP ps g p).length c (cellsP encS (outP ps g p)) ∧ (∀ j ∈ blk A, w.heap.size ≤ j) ∧ Below w.heap.size w wr
theorem put_spot (out : List (ByteArray × Value)) (hr : Rises ltS out) (p : ByteArray) (hno : ∀ q ∈ out, q.1 ≠ p) (j : Nat) (hj : j ≤ out.length) (h1 : ∀ i q, j ≤ i → out[i]? = some q → ltS p q.1 = true) (h2 : ∀ q, 0 < j → out[j - 1]? = some q → ltS p q.1 = false) (v : Value) : putP ltS out p v = out.take j ++ (p, v) :: out.drop j := by
  have hlt : ∀ i q, i < j → out[i]? = some q → ltS q.1 p = true := by
    intro i q hi hq
    obtain ⟨z, hz⟩ : ∃ z, out[j - 1]? = some z := ⟨_, List.getElem?_eq_getElem (by omega)⟩
    have hzp : ltS z.1 p = true := by
      have := h2 z (by omega) hz
      cases h : ltS z.1 p with
      | true => rfl
      | false => exact absurd (orders_S.tot _ _ h this) (hno z (List.mem_of_getElem? hz))
    by_cases hij : i = j - 1
    · rw [hij, hz] at hq
      cases hq
      exact hzp
    · have hp := List.pairwise_iff_getElem.1 hr
      obtain ⟨hi', e1⟩ := List.getElem?_eq_some_iff.1 hq
      obtain ⟨hz', e2⟩ := List.getElem?_eq_some_iff.1 hz
      have := hp i (j - 1) hi' hz' (by omega)
      rw [e1, e2] at this
      exact orders_S.tr _ _ _ this hzp
  exact Spot.put_new (lt := ltS) orders_S hr ⟨hj, hlt, fun i q hi hq => orders_S.asym (h1 i q hi hq)⟩ (fun q hq => h1 j q (Nat.le_refl _) hq) v
theorem out_not (ps : List (ByteArray × Value)) (g p : ByteArray) : ∀ q ∈ outP ps g p, q.1 ≠ p := fun q hq => by
  have := (List.mem_filter.1 hq).2
  exact (of_decide_eq_true this).2
theorem empty_bytes {p : ByteArray} : p.toList.isEmpty = decide (p = ⟨#[]⟩) := by
  by_cases h : p = ⟨#[]⟩
  · rw [decide_eq_true h, h]
    rw [ByteArray.toList_eq]
    rfl
  · rw [decide_eq_false h]
    cases hE : p.toList.isEmpty with
    | false => rfl
    | true =>
      refine absurd ?_ h
      rw [List.isEmpty_iff, ByteArray.toList_eq] at hE
      cases p
      congr 1
      exact Array.toList_inj.1 hE
theorem bne_bytes {a b : ByteArray} : (a.toList != b.toList) = decide (a ≠ b) := by
  unfold bne
  rw [beq_bytes]
  by_cases h : a = b <;> simp [h]
theorem below_drewN (w : World) (n : Nat) : Below w.heap.size w (w.drewN n) := ⟨rfl, rfl, rfl, Nat.le_refl _, fun _ _ => rfl⟩
theorem new_line (s : Nat) (V : World) (news : List Value) (T : TypeId) (h : news.length = s) : SLine s (V.alloc (.cells news.toArray T)) (some ⟨V.heap.size, 0, none⟩) 1 1 news := by
  refine ⟨by omega, Nat.le_refl _, by unfold maxLen; omega, (fun e => by cases e), fun ad e => ?_⟩
  cases e
  have hb := heap_alloc_new V (.cells news.toArray T)
  refine ⟨V.heap.size, 0, rfl, by simp, fun i hi => ?_, fun i hi => ⟨?_, frozen_of_row _ _ _ _ _ hb⟩⟩
  · rw [cell_of_row _ V.heap.size (0 + i) _ _ (0, 0) hb]
    simp
  · rw [cell_of_row _ V.heap.size (0 + i) _ _ (0, 0) hb]
    simp
    omega
theorem SLine.src {s : Nat} {w : World} {A : Option Addr} {n c : Nat} {xs : List Value} {t e : TypeId} (ht : Tryz.prog.underlying t = some (.slice e)) (h : SLine s w A n c xs) (h1 : ∀ u ∈ xs, u.oneCell' = true) (hA : A ≠ none) (c' : Nat) : Src Tryz.prog s t (.slice A n c') n xs w := by
  cases A with
  | none => exact absurd rfl hA
  | some ad =>
    obtain ⟨g, off, rfl, _⟩ := h.2.2.2.2 _ rfl
    have := h.srcFrom ht h1 0 (Nat.zero_le _) c'
    simpa using this
end Go.Proofs.YtkjdjglknbgeaaaGreatDoor
namespace Go.Proofs.YtkjdjglknbgeaaaGreatDoor
open Go.RowKit Go.Shelf
attribute [local go_sem] Oper.semAt_some
set_option linter.unusedVariables false
set_option maxRecDepth 100000

theorem wpListIn_append_run {F : Fence} {n : Nat} {P : Program} (w : World) {ops : Array Oper} {rest : List Oper} {o : Oper} {a : Act} {Q : Exit → Act → World → Prop}
    (hg : o.guard = none) (s x : Operand) (t tn : TypeId) (hop : o.op = Op.call { callee := Callee.builtin Builtin.append, args := #[s, x], argTypes := #[t, tn] }) (vs vx : Value) (hs : a.eval s = vs) (hx : a.eval x = vx)
    (v' : Value) (w' : World) (hr : (Builtin.append_ #[t, tn] o.type #[vs, vx]).run P w = .ok v' w') (hK : wpListIn F n P ops Q rest (a.put o.dst v') w') : wpListIn F n P ops Q (o :: rest) a w := by
  refine wpListIn_plain hg fun K hK' => ?_
  unfold Oper.wpIn
  refine ⟨?_, ?_⟩
  · simp [Oper.about, hop, resolve, Target.leads, Sem.run_pure]
  · rw [Oper.semAt_plain F _ _ (by rw [hop]; intro c hc'; cases hc')]
    simp [execOp, hop, resolve, invoke, builtin, hs, hx, hr, Result.andThen]
    exact hK' _ _ hK
theorem infoStr : (Tryz.prog.info? 9).map (fun i => (i.zero, i.size, i.bytes)) = some (some (.string ⟨#[]⟩), 1, 16) := by kernel_rfl
def namesV (ps : List (ByteArray × Value)) : List Value := ps.map fun p => Value.string p.1
/-- The names collected so far, in block b. -/
structure ListAt (w0 : World) (b D C : Nat) (pre : List (ByteArray × Value)) (W : World) : Prop where
  chg : Chg [b] w0 W
  row : ∃ A c, W.heap[b]? = some (.cells #[.slice A pre.length c] 57 (0, 0)) ∧ SLine 1 W A pre.length c (namesV pre) ∧ ∀ j ∈ blk A, D + 2 ≤ j ∧ j ≠ C
theorem ListAt.steady {w0 : World} {b C : Nat} {pre : List (ByteArray × Value)} (hb : b < w0.heap.size) : SteadyIt w0.heap.size (ListAt w0 b w0.heap.size C pre) := by
  rintro W W' ⟨h1, A, c, h2, h3, h4⟩ hc
  exact ⟨h1.andThen hc (fun k hk => by simp only [List.mem_cons, List.not_mem_nil, or_false] at hk; omega), A, c, (hc.same b (lt_of_block h2) (by simp only [List.mem_cons, List.not_mem_nil, or_false]; omega)).trans h2, h3.chg hc (fun k hk hm => by have := (h4 k hk).1; simp only [List.mem_cons, List.not_mem_nil, or_false] at hm; omega), h4⟩
set_option maxHeartbeats 3200000 in
theorem list_any (w : World) (d : Nat) (A : Option Addr) (n c : Nat) (ps : List (ByteArray × Value)) (h : RowAtS w d 2 A n c ps) (hn : n ≤ 90000) (hsh : ∀ p ∈ ps, ∃ a : Option Addr, p.2 = .pointer a) :
    Calls Tryz.prog 30 #[.pointer (some ⟨d, 0, none⟩)] w fun e w' => (∃ A' c', e = .returned (.slice A' ps.length c') ∧ SLine 1 w' A' ps.length c' (namesV ps) ∧ ∀ k ∈ blk A', w.heap.size ≤ k) ∧ Below w.heap.size w w' := by
  have HH := Lib.hid h
  have hqs := World.block_lt_of_cell? w _ h.cell
  have HSH := Lib.hid hsh
  clear h hsh
  refine (callsIn_wide (n := 8)).1 ?_
  refine callsIn_of_wp_marks Tryz.func30 rfl trivial ?_ rfl
  simp only [Tryz.ntmps30, List.size_toArray, List.length_cons, List.length_nil, Nat.reduceAdd, Nat.reduceSub, Array.replicate_succ, Array.replicate_zero, List.push_toArray, List.append_toArray, List.nil_append, List.cons_append]
  refine wpIn_wide.2 ?_
  obtain ⟨hh, hhe⟩ : ∃ hh, w.heap.size = hh := ⟨_, rfl⟩
  obtain ⟨W2, hW2⟩ : ∃ W2, w.alloc (.cells #[.slice none 0 0] 57) = W2 := ⟨_, rfl⟩
  have hB2 : Below w.heap.size w W2 := by rw [← hW2]; exact (Below.refl _ w).alloc (Nat.le_refl _) _
  have hs2 : W2.heap.size = hh + 1 := by rw [← hW2, ← hhe]; simp
  have k0 : W2.heap[hh]? = some (.cells #[.slice none 0 0] 57 (0, 0)) := by
    have := heap_alloc_new w (.cells #[.slice none 0 0] 57 (0, 0))
    rw [hhe] at this
    rw [← hW2]
    exact this
  have y0 := cell_of_one k0
  have y1 := free_of_one k0
  have HK0 := Lib.hid k0
  have HB2 := Lib.hid hB2
  have HHE := Lib.hid hhe
  have HN := Lib.hid (dnames_any W2 d)
  have HS2 := Lib.hid hs2
  clear k0 hB2 hs2
  go_wp2_with fail
  refine HN.out.mono ?_
  rintro e w' ⟨rfl, rfl⟩
  clear y0 y1
  go_wp2_with fail
  refine (reach_S _ _).mono ?_
  rintro e w' ⟨rfl, rfl⟩
  obtain ⟨W3, hW3⟩ : ∃ W3, W2.alloc (.cells #[.pointer (some ⟨d, 2, none⟩)] 116) = W3 := ⟨_, rfl⟩
  have hs2 := HS2.out
  have hB3 : Below W2.heap.size W2 W3 := by rw [← hW3]; exact (Below.refl _ W2).alloc (Nat.le_refl _) _
  have hs3 : W3.heap.size = hh + 2 := by rw [← hW3]; simp [hs2]
  have hbx : W3.heap[hh + 1]? = some (.cells #[.pointer (some ⟨d, 2, none⟩)] 116 (0, 0)) := by
    have := heap_alloc_new W2 (.cells #[.pointer (some ⟨d, 2, none⟩)] 116 (0, 0))
    rw [hs2, hW3] at this
    exact this
  rw [hs2, hW3]
  have HBX := Lib.hid hbx
  have HB3 : Hid (Below w.heap.size w W3) := Lib.hid (HB2.out.trans (hB3.mono (by have := HB2.out.size; omega)))
  have HJ0 := Lib.hid ((hB3.block hh (by omega)).trans HK0.out)
  have hq3 : d < hh := by have := HHE.out; have h5 : d < w.heap.size := hqs; omega
  clear hW2 hW3 hbx hB3 HK0
  have HIT : Hid (∀ W1, Below W3.heap.size W3 W1 → IterOk Tryz.prog 103 #[.pointer (some ⟨hh + 1, 0, none⟩)] arS 2 ps W1) := Lib.hid (fun W1 hb => by
    have hbw := HB3.out.trans (hb.mono (by have := HHE.out; omega))
    exact each1_S W1 (hh + 1) (some ⟨d, 2, none⟩) A n c ps (cell_of_one ((hb.block _ (by omega)).trans HBX.out)) (.inr ⟨d, 2, rfl, (hbw.cell (p := ⟨d, 2, none⟩) hqs).trans HH.out.cell, HH.out.row.below hbw⟩) (by omega) HSH.out)
  go_wp2_with fail
  refine (wpIn_wide (n := 8)).1 ?_
  refine range_it 8 2 (by decide) 103 #[.pointer (some ⟨hh + 1, 0, none⟩)] arS rfl eachS_enters (fun _ => rfl) ps HIT.out (fun C pre W => ListAt W3 hh W3.heap.size C pre W) (fun _ _ _ _ => False) (fun C xs => ListAt.steady (by omega)) (fun _ _ _ _ _ h _ => h) ?h0 ?hab ?hdone (fun _ _ _ _ _ h _ => h.elim)
  case h0 =>
    intro C W1 hC hb1
    exact ⟨Chg.of_below hb1, none, 0, (hb1.block _ (by omega)).trans HJ0.out, SLine.nil 1 _, fun j hj => by cases hj⟩
  case hab =>
    apply Exists.intro
    refine ⟨?hassign, ?hbody⟩
    case hassign =>
      intro x W K hK
      unfold arS encS
      gi_wp2
      exact hK
    case hbody =>
      intro C pre x Wr hC hCW hD1 hI hpre
      obtain ⟨x, v⟩ := x
      have hmem : (x, v) ∈ ps := hpre.subset (by simp)
      obtain ⟨Ac, cc, hk1, hk2, hk3⟩ := hI.row
      have hlt2 := lt_of_block hk1
      have hlen2 : pre.length ≤ 90000 := by
        have h1 := hpre.length_le
        have h2 := HH.out.2.len
        simp only [List.length_append, List.length_cons, List.length_nil] at h1
        omega
      obtain ⟨C', c2, W6, hr, hl6, hc6, hf6, _⟩ := push_s 1 Wr 57 9 57 _ 16 Tryz.underlying57 infoStr rfl (by decide) Ac pre.length cc _ hk2 (by omega) [.string x] rfl (fun u hu => by rw [List.mem_singleton] at hu; rw [hu]; rfl)
      have HR : Hid ((Builtin.append_ #[57, 57] 57 #[.slice Ac pre.length cc, .slice (some ⟨Wr.heap.size, 0, none⟩) 1 1]).run Tryz.prog (Wr.alloc (.cells #[.string x] 9)) = .ok (.slice C' (pre.length + 1) c2) W6) := Lib.hid hr
      have hxA : hh ∉ blk Ac := fun hm => by have := (hk3 _ hm).1; omega
      have hk6 : W6.heap[hh]? = some (.cells #[.slice Ac pre.length cc] 57 (0, 0)) := (hc6.same hh hlt2 hxA).trans hk1
      have c1 := cell_of_one hk1
      have c2' := cell_of_one hk6
      have c3 := free_of_one hk6
      have HSTEP : Hid (KeepsIt W3.heap.size C Wr (W6.setCell ⟨hh, 0, none⟩ (.slice C' (pre.length + 1) c2)) ∧ ListAt W3 hh W3.heap.size C (pre ++ [(x, v)]) (W6.setCell ⟨hh, 0, none⟩ (.slice C' (pre.length + 1) c2))) := Lib.hid (by
        have hcc : Chg (hh :: blk Ac) Wr (W6.setCell ⟨hh, 0, none⟩ (.slice C' (pre.length + 1) c2)) := (hc6.weaken (fun k hk => .inl (List.mem_cons_of_mem _ hk))).setCell hh 0 _ (.inl (List.mem_cons_self ..))
        have hne : ∀ k ∈ hh :: blk Ac, k ≠ W3.heap.size ∧ k ≠ W3.heap.size + 1 ∧ k ≠ C := by
          intro k hk
          rcases List.mem_cons.1 hk with rfl | hk
          · omega
          · have := hk3 k hk; omega
        have hzr := hc6.size
        refine ⟨hcc.keepsIt (by omega) hCW (fun hm => (hne _ hm).1 rfl) (fun hm => (hne _ hm).2.1 rfl) (fun hm => (hne _ hm).2.2 rfl), hI.chg.andThen hcc (fun k hk => ?_), C', c2, ?_, ?_, fun j hj => ?_⟩
        · rcases List.mem_cons.1 hk with rfl | hk
          · exact .inl (by simp)
          · have := hk3 k hk; exact .inr (by omega)
        · rw [one_setCell hk6, List.length_append]; rfl
        · rw [List.length_append]
          have h7 : SLine 1 (W6.setCell ⟨hh, 0, none⟩ (.slice C' (pre.length + 1) c2)) C' (pre.length + 1) c2 (namesV pre ++ [.string x]) := hl6.chg ((Chg.refl [hh] W6).setCell hh 0 _ (.inl (by simp))) (fun k hk hm => by
            rw [List.mem_singleton] at hm
            rw [hm] at hk
            rcases hf6 hh hk with h | h
            · exact hxA h
            · omega)
          unfold namesV at h7 ⊢
          rw [List.map_append]
          exact h7
        · rcases hf6 j hj with h5 | h5
          · exact hk3 j h5
          · omega)
      clear hr hl6 hc6 hf6 hk1 hk2 hk3 hk6 hI hpre hlen2 hxA hmem hlt2
      gi_wp2_with (gi_at_builtin; refine wpListIn_append_run _ rfl _ _ _ _ rfl _ _ rfl rfl _ _ HR.out ?_)
      exact HSTEP.out
  case hdone =>
    intro C Wl hI hK
    have hbl := hI.chg
    obtain ⟨Ac, cc, hk1, hk2, hk3⟩ := hI.row
    have y1 := cell_of_one hk1
    have HK2 := Lib.hid (And.intro hk2 hk3)
    have HE2 : Hid (Wl.heap[W3.heap.size]? = some (.deferred (some []))) := Lib.hid hK
    have HE4 : Hid (Below hh W3 Wl) := Lib.hid (hbl.toBelow (fun k hk => by simp only [List.mem_cons, List.not_mem_nil, or_false] at hk; omega) (by omega))
    clear hI hK hbl hk1 hk2 hk3
    go_wp2_with fail
    have hcp := chg_putObjIt Wl W3.heap.size (.deferred none)
    have hsz : hh + 2 ≤ Wl.heap.size := by have := HE4.out.size; omega
    refine ⟨by simp, .inl ⟨_, _, rfl, run_takeDeferred HE2.out, ?_⟩⟩
    refine ⟨_, results_tmp rfl _ _ _, ⟨Ac, cc, rfl, HK2.out.1.chg hcp (fun k hk hm => by have := (HK2.out.2 k hk).1; rw [List.mem_singleton] at hm; omega), fun k hk => by have := (HK2.out.2 k hk).1; have := HHE.out; omega⟩, ?_⟩
    rw [HHE.out]
    have h3 := HB3.out
    rw [HHE.out] at h3
    exact h3.trans (HE4.out.trans (hcp.toBelow (fun k hk => by simp only [List.mem_cons, List.not_mem_nil, or_false] at hk; omega) (by omega)))
end Go.Proofs.YtkjdjglknbgeaaaGreatDoor
