/-
  What is read, what an Ecall does.
-/
import Derived.Test.YtadgemcpahfkoaaRxb
import Derived.Test.YtadgemcpahfkoaaDrawn
namespace Go.Proofs.Ytadgemcpahfkoaa
open Go.RowKit
set_option linter.unusedVariables false
set_option linter.unusedSimpArgs false
set_option maxRecDepth 100000
namespace Rv
/-- An append in a region that draws its order, its run given as an equation, the condition on the world kept. -/
theorem appendT_ready {P : Program} {md : Region.Mode} {ops : Array Oper} {Q : Exit → Act → World → Prop} {S : World → Prop} {fuel : Nat} {listed : Array Bool} {a : Act} {w : World} {i : Nat} {o : Oper} (ho : ops[i]? = some o) (hw : Region.wanted o (yielded ops a.tmps) = true)
    (s x : Operand) (t tn : TypeId) (hop : o.op = Op.call { callee := Callee.builtin Builtin.append, args := #[s, x], argTypes := #[t, tn] }) (vs vx : Value) (hs : a.eval s = vs) (hx : a.eval x = vx)
    (v' : Value) (w' : World) (hr : (Builtin.append_ #[t, tn] o.type #[vs, vx]).run P w = .ok v' w') (hS : S w') (h : wpAnyH P md ops Q S fuel (listed.setIfInBounds i true) (a.put o.dst v') w') : AllReadyH P md ops Q S fuel listed a w [i] := by
  refine AllReadyH.cons ho (fun K' hK => ?_) AllReadyH.nil
  rw [if_pos hw]
  exact Lib.wp_append_run w s x t tn hop vs vx hs hx v' w' hr (hK.out _ _ hS (fun _ => h))
theorem new_cellsR (W : World) (news : List Value) (T : TypeId) : ∀ j u, news[j]? = some u → (W.alloc (.cells news.toArray T)).cell? ((⟨W.heap.size, 0, none⟩ : Addr).add j) = some u := by
  intro j u hu
  have e9 : (⟨W.heap.size, 0, none⟩ : Addr).add j = ⟨W.heap.size, j, none⟩ := by unfold Addr.add; split <;> simp_all
  rw [e9, cell_of_row _ W.heap.size j _ _ (0, 0) (heap_alloc_new W _)]
  rw [← hu]
  simp
theorem push_sR (s : Nat) (w : World) (t e ty : TypeId) (z : Value) (bytes : Nat) (ht : Try.prog.underlying t = some (.slice e)) (hinfo : (Try.prog.info? e).map (fun i => (i.zero, i.size, i.bytes)) = some (some z, s, bytes)) (hz1 : z.cells.size = s) (hby : bytes ≤ 256)
    (C : Option Addr) (n c : Nat) (xs : List Value) (h : SLine s w C n c xs) (hn : n ≤ 100000) (news : List Value) (hnl : news.length = s) (h1 : ∀ u ∈ news, u.oneCell' = true) :
    ∃ C' c' w', (Builtin.append_ #[t, t] ty #[.slice C n c, .slice (some ⟨w.heap.size, 0, none⟩) 1 1]).run Try.prog (w.alloc (.cells news.toArray e)) = .ok (.slice C' (n + 1) c') w' ∧ SLine s w' C' (n + 1) c' (xs ++ news) ∧ Chg (blk C) w w' ∧ (∀ k ∈ blk C', k ∈ blk C ∨ w.heap.size ≤ k) ∧ C' ≠ none := by
  have hb : Below w.heap.size w (w.alloc (.cells news.toArray e)) := (Below.refl _ w).alloc (Nat.le_refl _) _
  have hs : (w.alloc (.cells news.toArray e)).heap.size = w.heap.size + 1 := by simp
  have hsrc : Src Try.prog s t (.slice (some ⟨w.heap.size, 0, none⟩) 1 1) 1 news (w.alloc (.cells news.toArray e)) := Src.ofSlice _ ht ⟨w.heap.size, 0, none⟩ 1 1 news (by rw [hnl, Nat.one_mul]) (new_cellsR w _ _) h1
  obtain ⟨C', c', w', hr, hl, hc, hf, hne⟩ := sline_append s (w.alloc (.cells news.toArray e)) t e ty z bytes ht hinfo hz1 hby C n c xs (h.below hb) (by omega) _ 1 (by omega) (fun _ => by omega) _ hsrc
  exact ⟨C', c', w', hr, hl, (Chg.of_below hb).trans hc, fun k hk => by
    rcases hf k hk with h1 | h1
    · exact .inl h1
    · exact .inr (by omega), hne⟩
theorem infoWord : (Try.prog.info? 21).map (fun i => (i.zero, i.size, i.bytes)) = some (some (.int .i32 0), 1, 4) := by kernel_rfl
/-- A word more at the end of a line of words. -/
theorem word_push (w : World) (A : Option Addr) (n c : Nat) (zs : List Int) (h : SLine 1 w A n c (cellsW zs)) (hn : n ≤ 100000) (v : Int) :
    ∃ A' c' w', (Builtin.append_ #[53, 53] 53 #[.slice A n c, .slice (some ⟨w.heap.size, 0, none⟩) 1 1]).run Try.prog (w.alloc (.cells #[.int .i32 v] 21)) = .ok (.slice A' (n + 1) c') w' ∧ SLine 1 w' A' (n + 1) c' (cellsW (zs ++ [v])) ∧ Chg (blk A) w w' ∧ (∀ k ∈ blk A', k ∈ blk A ∨ w.heap.size ≤ k) := by
  obtain ⟨A', c', w', h1, h2, h3, h4, _⟩ := push_sR 1 w 53 21 53 _ 4 Try.underlying53 infoWord rfl (by decide) A n c _ h hn [.int .i32 v] rfl (fun u hu => by rw [List.mem_singleton] at hu; rw [hu]; rfl)
  exact ⟨A', c', w', h1, by unfold cellsW; rw [List.map_append]; exact h2, h3, h4⟩
theorem Chg.readR {l : List Nat} {w w' : World} (h : Chg l w w') (b o : Nat) (hb : b ∉ l) {v : Value} (hv : w.cell? ⟨b, o, none⟩ = some v) : w'.cell? ⟨b, o, none⟩ = some v := by
  rw [World.cell?_of_block (w := w) (a := ⟨b, o, none⟩) (h.same b (World.block_lt_of_cell? w _ hv) hb)]
  exact hv

/-- The next word of the input. -/
def readM (inp : List Int) (s : MS) : Int × MS := if s.reads = inp.length then (0, s) else (inp.getD s.reads 0, { s with reads := s.reads + 1 })
theorem read_any {e : Env} {w : World} {s : MS} (h : MAt e w s) (hr : s.reads ≤ e.inp.length) (hi : e.inp.length ≤ 90000) :
    Calls Try.prog 86 #[.pointer (some ⟨e.p, 0, none⟩)] w fun e' w' => e' = .returned (.int .i32 (readM e.inp s).1) ∧ MAt e w' (readM e.inp s).2 := by
  have x35 := h.cell 35 (.slice e.q.iA e.q.im e.q.ic) (fun _ _ => rfl)
  have x41 := h.cell 41 (.int .i64 (s.reads : Int)) (fun _ _ => rfl)
  have f41 := h.free 41
  have him := h.inp.1
  have hi2 : (s.reads : Int) ≤ 90000 := by omega
  have hi3 : (e.q.im : Int) ≤ 90000 := by omega
  have HM := Lib.hid h
  unfold readM
  by_cases hc : s.reads = e.inp.length
  · rw [if_pos hc]
    have hb : ((s.reads : Int) == (e.q.im : Int)) = true := by simp; omega
    clear h hc
    go_enter Try.func86, Try.ntmps86
    go_wp2_with fail
    go_ret
    exact ⟨rfl, HM.out⟩
  · rw [if_neg hc]
    have hb : ((s.reads : Int) == (e.q.im : Int)) = false := by simp; omega
    obtain ⟨g, off, ei, hg, hcell⟩ := h.inp.2 (by omega)
    have hlt : (s.reads : Int) < (e.q.im : Int) := by omega
    have h0 : (0 : Int) ≤ (s.reads : Int) := by omega
    have h1 := h.put 41 (by omega) (.int .i64 ((s.reads + 1 : Nat) : Int)) { s with reads := s.reads + 1 } rfl rfl h.rlen (fun tA tc i u => cellF_reads _ _ _ _ _ i u)
    obtain ⟨W1, hW1⟩ : ∃ W1, w.setCell ⟨e.p, 41, none⟩ (.int .i64 ((s.reads : Int) + 1)) = W1 := ⟨_, rfl⟩
    have h2 : MAt e W1 { s with reads := s.reads + 1 } := by rw [← hW1]; exact h1
    have y35 := h2.cell 35 (.slice e.q.iA e.q.im e.q.ic) (fun _ _ => rfl)
    have yi : W1.cell? ⟨g, off + s.reads, none⟩ = some (.int .i32 (e.inp.getD s.reads 0)) := (h2.below.cell (p := ⟨g, off + s.reads, none⟩) hg).trans (hcell s.reads (by omega))
    rw [ei] at x35 y35
    have HM2 := Lib.hid h2
    clear h hc h1 h2 hcell ei hg him HM
    generalize e.inp.getD s.reads 0 = v at *
    go_enter Try.func86, Try.ntmps86
    go_wp2_with fail
    go_ret
    exact ⟨rfl, HM2.out⟩

/-- What a step comes to. -/
inductive MO where
  | go (s : MS)
  | fin (k : Int) (s : MS)
def Out (e : Env) : MO → Ending → World → Prop
  | .go s, en, w => en = .returned (.tuple #[]) ∧ MAt e w s
  | .fin k s, en, w => Ends k en ∧ MAt e w s
/-- What an Ecall does. -/
def callM (inp : List Int) (s : MS) : MO :=
  if s.regs.getD 17 0 = 1 then .go { s with tr := s.tr ++ [s.regs.getD 10 0] }
  else if s.regs.getD 17 0 = 2 then .go { (readM inp s).2 with regs := s.regs.set 10 (readM inp s).1 }
  else if s.regs.getD 17 0 = 3 then .fin 1 { s with v := s.regs.getD 10 0 }
  else .fin 6 s
theorem readM_regs (inp : List Int) (s : MS) : (readM inp s).2.regs = s.regs := by unfold readM; split <;> rfl

set_option maxHeartbeats 6400000 in
theorem call_print {e : Env} {w : World} {s : MS} (h : MAt e w s) (h17 : s.regs.getD 17 0 = 1) (ht : s.tr.length ≤ 100000) :
    Calls Try.prog 63 #[.pointer (some ⟨e.p, 0, none⟩)] w (Out e (callM e.inp s)) := by
  have x17 := h.reg 17 (by omega)
  rw [h17] at x17
  have hM : callM e.inp s = .go { s with tr := s.tr ++ [s.regs.getD 10 0] } := by unfold callM; rw [if_pos h17]
  rw [hM]
  obtain ⟨tA, tc, hcs, hsl, hbl⟩ := h.box
  have x10 := h.reg 10 (by omega)
  have p39 := hcs.cell 39 (.slice tA s.tr.length tc) rfl
  have f39 := hcs.free 39
  have hpt : e.p ∉ blk tA := fun hk => (hbl _ hk).2.1 rfl
  generalize hz9 : s.regs.getD 10 0 = z9 at *
  obtain ⟨A', c', w2, hr2, hl2, hc2, hf2⟩ := word_push w.drew tA s.tr.length tc s.tr hsl.drew ht z9
  have hw2 : MAt e w2 s → True := fun _ => trivial
  have hc2w : Chg (blk tA) w w2 := ((Chg.refl (blk tA) w).drew).trans hc2
  have q39 : w2.cell? ⟨e.p, 39, none⟩ = some (.slice tA s.tr.length tc) := Chg.readR hc2w e.p 39 hpt p39
  have q10 : w2.cell? ⟨e.p, 1 + 10, none⟩ = some (.int .i32 z9) := Chg.readR hc2w e.p (1 + 10) hpt x10
  have g39 : w2.frozen? ⟨e.p, 39, none⟩ = false := by
    rw [World.frozen?_of_block (w := w) (a := ⟨e.p, 39, none⟩) (hc2w.same e.p (World.block_lt_of_cell? w _ p39) hpt)]
    exact f39
  obtain ⟨w3, hw3⟩ : ∃ w3, w2.setCell ⟨e.p, 39, none⟩ (.slice A' (s.tr.length + 1) c') = w3 := ⟨_, rfl⟩
  have hM3 : MAt e w3 { s with tr := s.tr ++ [z9] } := by
    have hlt : ∀ k, k < w.heap.size → k ∉ blk tA → w2.heap[k]? = w.heap[k]? := fun k hk hn => hc2w.same k hk hn
    have hlen : (s.tr ++ [z9]).length = s.tr.length + 1 := by simp
    have hp := h.pge
    have ha := h.apart
    have hB3 : Chg (e.p :: blk tA) w w3 := by rw [← hw3]; exact (hc2w.weaken (fun k hk => .inl (List.mem_cons_of_mem _ hk))).setCell e.p 39 _ (.inl (by simp))
    have o3 : ∀ b, b < w.heap.size → b ≠ e.p → b ∉ blk tA → w3.heap[b]? = w.heap[b]? := fun b hb h1 h2 => hB3.same b hb (by simp [h1, h2])
    refine ⟨h.below.trans (hB3.toBelow (fun k hk => by rcases List.mem_cons.1 hk with rfl | hk; exact hp.1; exact (hbl k hk).1) h.below.size), hp, ha, (o3 _ (Array.getElem?_eq_some_iff.1 h.xb).1 ha.2.1.symm (fun hk => (hbl _ hk).2.2.2 rfl)).trans h.xb,
      h.mem.same (o3 _ h.mem.lt ha.1.symm (fun hk => (hbl _ hk).2.2.1 rfl)), h.mlen, h.rlen, h.lines, h.inp, A', c', ?_, ?_, ?_⟩
    · rw [← hw3]
      exact (hcs.same (hlt _ hcs.lt hpt)).set 39 _ (cellF_some _ _ _ _ _ (by omega)) _ (fun i u hu => by have := cellF_tr e.q tA tc A' c' s (s.tr ++ [z9]) i u hu; rw [hlen] at this; exact this)
    · show SLine 1 w3 A' (s.tr ++ [z9]).length c' (cellsW (s.tr ++ [z9]))
      rw [hlen, ← hw3]
      exact hl2.chg ((Chg.refl [e.p] w2).setCell e.p 39 _ (.inl (by simp))) (fun k hk => by
        rw [List.mem_singleton]
        rcases hf2 k hk with h1 | h1
        · exact (hbl k h1).2.1
        · have := hcs.lt
          have : w.drew.heap.size = w.heap.size := rfl
          omega)
    · intro k hk
      have := h.below.size
      have e0 : w.drew.heap.size = w.heap.size := rfl
      rcases hf2 k hk with h1 | h1
      · exact hbl k h1
      · have l1 := hcs.lt
        have l2 := h.mem.lt
        have l3 := (Array.getElem?_eq_some_iff.1 h.xb).1
        omega
  obtain ⟨L, hL⟩ : ∃ L, e.p :: blk tA = L := ⟨_, rfl⟩
  have HRUN := Lib.hid hr2
  have hA1 : (w.alloc (.cells #[.int .i32 z9] 21)).cell? ⟨e.p, 1 + 10, none⟩ = some (.int .i32 z9) := Chg.readR ((Chg.refl [] w).alloc _) e.p (1 + 10) (by simp) x10
  have HC2 : Hid (w2.cell? ⟨e.p, 1 + 10, none⟩ = some (.int .i32 z9)) := Lib.hid q10
  have HC3 : Hid (w3.cell? ⟨e.p, 1 + 10, none⟩ = some (.int .i32 z9)) := Lib.hid (by
    have h5 := (hcs.same (w' := w2) (hc2w.same _ hcs.lt hpt)).set 39 (.slice A' (s.tr.length + 1) c') (cellF_some _ _ _ _ _ (by omega)) (fun i => if i = 39 then none else cellF e.q tA tc s i) (fun i u hu => by
      by_cases e9 : i = 39
      · simp [e9] at hu
      · rw [if_neg e9] at hu ⊢; exact hu)
    rw [← hw3]
    exact h5.cell (1 + 10) _ (by rw [if_neg (by omega), cellF_reg _ _ _ _ 10 (by omega), hz9]))
  have HCA : Hid ((w.alloc (.cells #[.int .i32 z9] 21)).drew.cell? ⟨e.p, 1 + 10, none⟩ = some (.int .i32 z9)) := Lib.hid hA1
  have HFIN := Lib.hid hM3
  have k39 : ((w.alloc (.cells #[.int .i32 z9] 21)).drew).cell? ⟨e.p, 39, none⟩ = some (.slice tA s.tr.length tc) := Chg.readR ((Chg.refl [] w).alloc _) e.p 39 (by simp) p39
  have HX10 := Lib.hid x10
  clear h hL hr2 hl2 hc2 hf2 hz9 hcs hsl hbl hpt hw2 hc2w hM3 hA1 q10 f39 hM h17 ht x10
  go_enter Try.func63, Try.ntmps63
  go_upto_region 3 with fail
  refine wp_region_held_drew (S := fun V => V.cell? ⟨e.p, 1 + 10, none⟩ = some (.int .i32 z9)) (by kernel_rfl) HX10.out (fun _ => ?_)
  refine takeH 0 10 (v := (.pointer (some ⟨e.p, 0, none⟩))) rfl rfl (by kernel_rfl) (by kernel_rfl) (by kernel_rfl) (fun _ _ _ h => h) (by rfl) ?_ (by assumption) ?_
  · intro w hSw
    go_simp
  try simp only [Act.put, List.setIfInBounds_toArray, List.set_cons_zero, List.set_cons_succ]
  refine takeH 1 11 (v := (.pointer (some ⟨e.p, 0, none⟩))) rfl rfl (by kernel_rfl) (by kernel_rfl) (by kernel_rfl) (fun _ _ _ h => h) (by rfl) ?_ (by assumption) ?_
  · intro w hSw
    go_simp
  try simp only [Act.put, List.setIfInBounds_toArray, List.set_cons_zero, List.set_cons_succ]
  refine takeH 2 12 (v := (.pointer (some ⟨e.p, 0, none⟩))) rfl rfl (by kernel_rfl) (by kernel_rfl) (by kernel_rfl) (fun _ _ _ h => h) (by rfl) ?_ (by assumption) ?_
  · intro w hSw
    go_simp
  try simp only [Act.put, List.setIfInBounds_toArray, List.set_cons_zero, List.set_cons_succ]
  refine takeH 3 13 (v := (.pointer (some ⟨e.p, 37, none⟩))) rfl rfl (by kernel_rfl) (by kernel_rfl) (by kernel_rfl) (fun _ _ _ h => h) (by rfl) ?_ (by assumption) ?_
  · intro w hSw
    go_simp
  try simp only [Act.put, List.setIfInBounds_toArray, List.set_cons_zero, List.set_cons_succ]
  refine takeH 4 14 (v := (.pointer (some ⟨e.p, 39, none⟩))) rfl rfl (by kernel_rfl) (by kernel_rfl) (by kernel_rfl) (fun _ _ _ h => h) (by rfl) ?_ (by assumption) ?_
  · intro w hSw
    go_simp
  try simp only [Act.put, List.setIfInBounds_toArray, List.set_cons_zero, List.set_cons_succ]
  refine takeH 6 16 (v := (.pointer (some ⟨e.p, 0, none⟩))) rfl rfl (by kernel_rfl) (by kernel_rfl) (by kernel_rfl) (fun _ _ _ h => h) (by rfl) ?_ (by assumption) ?_
  · intro w hSw
    go_simp
  try simp only [Act.put, List.setIfInBounds_toArray, List.set_cons_zero, List.set_cons_succ]
  refine takeH 7 17 (v := (.pointer (some ⟨e.p, 0, none⟩))) rfl rfl (by kernel_rfl) (by kernel_rfl) (by kernel_rfl) (fun _ _ _ h => h) (by rfl) ?_ (by assumption) ?_
  · intro w hSw
    go_simp
  try simp only [Act.put, List.setIfInBounds_toArray, List.set_cons_zero, List.set_cons_succ]
  refine takeH 8 18 (v := (.pointer (some ⟨e.p, 1, none⟩))) rfl rfl (by kernel_rfl) (by kernel_rfl) (by kernel_rfl) (fun _ _ _ h => h) (by rfl) ?_ (by assumption) ?_
  · intro w hSw
    go_simp
  try simp only [Act.put, List.setIfInBounds_toArray, List.set_cons_zero, List.set_cons_succ]
  refine takeH 9 19 (v := (.pointer (some ⟨e.p, 11, none⟩))) rfl rfl (by kernel_rfl) (by kernel_rfl) (by kernel_rfl) (fun _ _ _ h => h) (by rfl) ?_ (by assumption) ?_
  · intro w hSw
    go_simp
  try simp only [Act.put, List.setIfInBounds_toArray, List.set_cons_zero, List.set_cons_succ]
  refine takeH 10 20 (v := (.int .i32 z9)) rfl rfl (by kernel_rfl) (by kernel_rfl) (by kernel_rfl) (fun _ _ _ h => h) (by rfl) ?_ (by assumption) ?_
  · intro w hSw
    go_simp
  try simp only [Act.put, List.setIfInBounds_toArray, List.set_cons_zero, List.set_cons_succ]
  refine wpAnyH_ready (rs := [5, 11]) (by kernel_rfl) (by simp) ?_
  refine AllReadyH.cons rfl (fun K hK => ?_) (AllReadyH.cons rfl (fun K hK => ?_) AllReadyH.nil)
  · go_simp
    refine hK.out _ _ (by assumption) (fun _ => ?_)
    clear hK K
    try simp only [Act.put, List.setIfInBounds_toArray, List.set_cons_zero, List.set_cons_succ]
    refine wpAnyH_ready (rs := [11]) (by kernel_rfl) (by simp) ?_
    refine AllReadyH.cons rfl (fun K hK => ?_) AllReadyH.nil
    go_simp
    refine hK.out _ _ HCA.out (fun _ => ?_)
    clear hK K
    try simp only [Act.put, List.setIfInBounds_toArray, List.set_cons_zero, List.set_cons_succ]
    refine wpAnyH_ready (rs := [12]) (by kernel_rfl) (by simp) ?_
    refine appendT_ready rfl (by kernel_rfl) _ _ _ _ rfl _ _ rfl rfl _ _ HRUN.out HC2.out ?_
    try simp only [Act.put, List.setIfInBounds_toArray, List.set_cons_zero, List.set_cons_succ]
    refine takeH 13 23 (v := (.pointer (some ⟨e.p, 0, none⟩))) rfl rfl (by kernel_rfl) (by kernel_rfl) (by kernel_rfl) (fun _ _ _ h => h) (by rfl) ?_ HC2.out ?_
    · intro w hSw
      go_simp
    try simp only [Act.put, List.setIfInBounds_toArray, List.set_cons_zero, List.set_cons_succ]
    refine takeH 14 24 (v := (.pointer (some ⟨e.p, 37, none⟩))) rfl rfl (by kernel_rfl) (by kernel_rfl) (by kernel_rfl) (fun _ _ _ h => h) (by rfl) ?_ HC2.out ?_
    · intro w hSw
      go_simp
    try simp only [Act.put, List.setIfInBounds_toArray, List.set_cons_zero, List.set_cons_succ]
    refine takeH 15 25 (v := (.pointer (some ⟨e.p, 39, none⟩))) rfl rfl (by kernel_rfl) (by kernel_rfl) (by kernel_rfl) (fun _ _ _ h => h) (by rfl) ?_ HC2.out ?_
    · intro w hSw
      go_simp
    try simp only [Act.put, List.setIfInBounds_toArray, List.set_cons_zero, List.set_cons_succ]
    refine wpAnyH_ready (rs := [16]) (by kernel_rfl) (by simp) ?_
    refine AllReadyH.cons rfl (fun K hK => ?_) AllReadyH.nil
    go_simp
    refine hK.out _ _ HC3.out (fun _ => ?_)
    clear hK K
    try simp only [Act.put, List.setIfInBounds_toArray, List.set_cons_zero, List.set_cons_succ]
    refine wpAnyH_done (by kernel_rfl) ?_ _
    go_wp2_with fail
    refine bodyPost_end (results_none rfl _ _ _) rfl ?_
    exact ⟨rfl, HFIN.out⟩
  · go_simp
    refine hK.out _ _ HCA.out (fun _ => ?_)
    clear hK K
    try simp only [Act.put, List.setIfInBounds_toArray, List.set_cons_zero, List.set_cons_succ]
    refine wpAnyH_ready (rs := [5]) (by kernel_rfl) (by simp) ?_
    refine AllReadyH.cons rfl (fun K hK => ?_) AllReadyH.nil
    go_simp
    refine hK.out _ _ HCA.out (fun _ => ?_)
    clear hK K
    try simp only [Act.put, List.setIfInBounds_toArray, List.set_cons_zero, List.set_cons_succ]
    refine wpAnyH_ready (rs := [12]) (by kernel_rfl) (by simp) ?_
    refine appendT_ready rfl (by kernel_rfl) _ _ _ _ rfl _ _ rfl rfl _ _ HRUN.out HC2.out ?_
    try simp only [Act.put, List.setIfInBounds_toArray, List.set_cons_zero, List.set_cons_succ]
    refine takeH 13 23 (v := (.pointer (some ⟨e.p, 0, none⟩))) rfl rfl (by kernel_rfl) (by kernel_rfl) (by kernel_rfl) (fun _ _ _ h => h) (by rfl) ?_ HC2.out ?_
    · intro w hSw
      go_simp
    try simp only [Act.put, List.setIfInBounds_toArray, List.set_cons_zero, List.set_cons_succ]
    refine takeH 14 24 (v := (.pointer (some ⟨e.p, 37, none⟩))) rfl rfl (by kernel_rfl) (by kernel_rfl) (by kernel_rfl) (fun _ _ _ h => h) (by rfl) ?_ HC2.out ?_
    · intro w hSw
      go_simp
    try simp only [Act.put, List.setIfInBounds_toArray, List.set_cons_zero, List.set_cons_succ]
    refine takeH 15 25 (v := (.pointer (some ⟨e.p, 39, none⟩))) rfl rfl (by kernel_rfl) (by kernel_rfl) (by kernel_rfl) (fun _ _ _ h => h) (by rfl) ?_ HC2.out ?_
    · intro w hSw
      go_simp
    try simp only [Act.put, List.setIfInBounds_toArray, List.set_cons_zero, List.set_cons_succ]
    refine wpAnyH_ready (rs := [16]) (by kernel_rfl) (by simp) ?_
    refine AllReadyH.cons rfl (fun K hK => ?_) AllReadyH.nil
    go_simp
    refine hK.out _ _ HC3.out (fun _ => ?_)
    clear hK K
    try simp only [Act.put, List.setIfInBounds_toArray, List.set_cons_zero, List.set_cons_succ]
    refine wpAnyH_done (by kernel_rfl) ?_ _
    go_wp2_with fail
    refine bodyPost_end (results_none rfl _ _ _) rfl ?_
    exact ⟨rfl, HFIN.out⟩
theorem call_end {e : Env} {w : World} {s : MS} (h : MAt e w s) (h17 : s.regs.getD 17 0 = 3) :
    Calls Try.prog 63 #[.pointer (some ⟨e.p, 0, none⟩)] w (Out e (callM e.inp s)) := by
  have x17 := h.reg 17 (by omega)
  rw [h17] at x17
  have hM : callM e.inp s = .fin 1 { s with v := s.regs.getD 10 0 } := by unfold callM; rw [if_neg (by omega), if_neg (by omega), if_pos h17]
  rw [hM]
  have x10 := h.reg 10 (by omega)
  have x38 := h.cell 38 (.int .i32 s.v) (fun _ _ => rfl)
  have f38 := h.free 38
  have HM2 := Lib.hid (h.put 38 (by omega) (.int .i32 (s.regs.getD 10 0)) { s with v := s.regs.getD 10 0 } rfl rfl h.rlen (fun tA tc i u => cellF_v _ _ _ _ _ i u))
  clear h hM h17
  generalize s.regs.getD 10 0 = z9 at *
  go_enter Try.func63, Try.ntmps63
  go_wp2_with fail
  exact ⟨rfl, rfl, HM2.out⟩
theorem call_no {e : Env} {w : World} {s : MS} (h : MAt e w s) (h1 : ¬ s.regs.getD 17 0 = 1) (h2 : ¬ s.regs.getD 17 0 = 2) (h3 : ¬ s.regs.getD 17 0 = 3) :
    Calls Try.prog 63 #[.pointer (some ⟨e.p, 0, none⟩)] w (Out e (callM e.inp s)) := by
  have x17 := h.reg 17 (by omega)
  have hM : callM e.inp s = .fin 6 s := by unfold callM; rw [if_neg h1, if_neg h2, if_neg h3]
  rw [hM]
  have HM2 := Lib.hid h
  generalize s.regs.getD 17 0 = z9 at *
  have b1 : (z9 == 1) = false := by simp [h1]
  have b2 : (z9 == 2) = false := by simp [h2]
  have b3 : (z9 == 3) = false := by simp [h3]
  clear h hM h1 h2 h3
  go_enter Try.func63, Try.ntmps63
  go_wp2_with fail
  exact ⟨rfl, rfl, HM2.out⟩
set_option maxHeartbeats 1600000 in
theorem call_read {e : Env} {w : World} {s : MS} (h : MAt e w s) (h17 : s.regs.getD 17 0 = 2) (hr : s.reads ≤ e.inp.length) (hi : e.inp.length ≤ 90000) :
    Calls Try.prog 63 #[.pointer (some ⟨e.p, 0, none⟩)] w (Out e (callM e.inp s)) := by
  have x17 := h.reg 17 (by omega)
  rw [h17] at x17
  have hM : callM e.inp s = .go { (readM e.inp s).2 with regs := s.regs.set 10 (readM e.inp s).1 } := by unfold callM; rw [if_neg (by omega), if_pos h17]
  rw [hM]
  have HR := Lib.hid (read_any h.drew hr hi)
  have HRR := Lib.hid (readM_regs e.inp s)
  generalize (readM e.inp s).1 = z9 at *
  generalize (readM e.inp s).2 = s2 at *
  clear h hM h17
  go_enter Try.func63, Try.ntmps63
  go_upto_region 5 with fail
  refine wp_region_held_drew (S := fun V => True) (by kernel_rfl) trivial (fun _ => ?_)
  refine takeH 0 28 (v := (.pointer (some ⟨e.p, 0, none⟩))) rfl rfl (by kernel_rfl) (by kernel_rfl) (by kernel_rfl) (fun _ _ _ h => h) (by rfl) ?_ trivial ?_
  · intro w hSw
    go_simp
  try simp only [Act.put, List.setIfInBounds_toArray, List.set_cons_zero, List.set_cons_succ]
  refine takeH 1 29 (v := (.pointer (some ⟨e.p, 0, none⟩))) rfl rfl (by kernel_rfl) (by kernel_rfl) (by kernel_rfl) (fun _ _ _ h => h) (by rfl) ?_ trivial ?_
  · intro w hSw
    go_simp
  try simp only [Act.put, List.setIfInBounds_toArray, List.set_cons_zero, List.set_cons_succ]
  refine takeH 3 31 (v := (.pointer (some ⟨e.p, 0, none⟩))) rfl rfl (by kernel_rfl) (by kernel_rfl) (by kernel_rfl) (fun _ _ _ h => h) (by rfl) ?_ trivial ?_
  · intro w hSw
    go_simp
  try simp only [Act.put, List.setIfInBounds_toArray, List.set_cons_zero, List.set_cons_succ]
  refine takeH 4 32 (v := (.pointer (some ⟨e.p, 1, none⟩))) rfl rfl (by kernel_rfl) (by kernel_rfl) (by kernel_rfl) (fun _ _ _ h => h) (by rfl) ?_ trivial ?_
  · intro w hSw
    go_simp
  try simp only [Act.put, List.setIfInBounds_toArray, List.set_cons_zero, List.set_cons_succ]
  refine wpAnyH_ready (rs := [2]) (by kernel_rfl) (by simp) ?_
  refine AllReadyH.cons rfl (fun K hK => ?_) AllReadyH.nil
  go_simp
  go_at_call 86
  (with_reducible refine (HR.out).mono ?_)
  rintro en w2 ⟨rfl, hM2⟩
  have x10 := hM2.reg 10 (by omega)
  have f10 := hM2.free (1 + 10)
  have HM2 := Lib.hid (hM2.put (1 + 10) (by omega) (.int .i32 z9) { s2 with regs := s2.regs.set 10 z9 } rfl rfl (by rw [← hM2.rlen]; simp) (fun tA tc i u => cellF_set _ _ _ _ 10 (by omega) hM2.rlen z9 i u))
  clear hM2
  refine hK.out _ _ trivial (fun _ => ?_)
  clear hK K
  try simp only [Act.put, List.setIfInBounds_toArray, List.set_cons_zero, List.set_cons_succ]
  refine takeH 5 33 (v := (.pointer (some ⟨e.p, 11, none⟩))) rfl rfl (by kernel_rfl) (by kernel_rfl) (by kernel_rfl) (fun _ _ _ h => h) (by rfl) ?_ trivial ?_
  · intro w hSw
    go_simp
  try simp only [Act.put, List.setIfInBounds_toArray, List.set_cons_zero, List.set_cons_succ]
  refine wpAnyH_ready (rs := [6]) (by kernel_rfl) (by simp) ?_
  refine AllReadyH.cons rfl (fun K hK => ?_) AllReadyH.nil
  go_simp
  refine hK.out _ _ trivial (fun _ => ?_)
  clear hK K
  try simp only [Act.put, List.setIfInBounds_toArray, List.set_cons_zero, List.set_cons_succ]
  refine wpAnyH_done (by kernel_rfl) ?_ _
  go_wp2_with fail
  refine bodyPost_end (results_none rfl _ _ _) rfl ?_
  refine ⟨rfl, ?_⟩
  rw [← HRR.out]
  exact HM2.out
theorem call_any {e : Env} {w : World} {s : MS} (h : MAt e w s) (ht : s.tr.length ≤ 100000) (hr : s.reads ≤ e.inp.length) (hi : e.inp.length ≤ 90000) :
    Calls Try.prog 63 #[.pointer (some ⟨e.p, 0, none⟩)] w (Out e (callM e.inp s)) := by
  by_cases h1 : s.regs.getD 17 0 = 1
  · exact call_print h h1 ht
  · by_cases h2 : s.regs.getD 17 0 = 2
    · exact call_read h h2 hr hi
    · by_cases h3 : s.regs.getD 17 0 = 3
      · exact call_end h h3
      · exact call_no h h1 h2 h3
end Rv
end Go.Proofs.Ytadgemcpahfkoaa
