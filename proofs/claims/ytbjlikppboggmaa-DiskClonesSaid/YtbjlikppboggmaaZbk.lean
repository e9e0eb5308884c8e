/-
  The contract of the disk's List.
-/
import Derived.Test.YtbjlikppboggmaaZao
import Derived.Test.YtbjlikppboggmaaZat
namespace Go.Proofs.Ytbjlikppboggmaa
open Go.RowKit Go.Shelf
attribute [local go_sem] Oper.semAt_some
set_option linter.unusedVariables false
set_option maxRecDepth 100000

theorem wpListIn_append_run {F : Fence} {n : Nat} {P : Program} (w : World) {ops : Array Oper} {rest : List Oper} {o : Oper} {a : Act} {Q : Exit → Act → World → Prop}
    (hg : o.guard = none) (s x : Operand) (t tn : TypeId) (hop : o.op = Op.call { callee := Callee.builtin Builtin.append, args := #[s, x], argTypes := #[t, tn] }) (vs vx : Value) (hs : a.eval s = vs) (hx : a.eval x = vx)
    (v' : Value) (w' : World) (hr : (Builtin.append_ #[t, tn] o.type #[vs, vx]).run P w = .ok v' w') (hK : wpListIn F n P ops Q rest (a.put o.dst v') w') : wpListIn F n P ops Q (o :: rest) a w := by
  refine wpListIn_plain hg fun K hK' => ?_
  unfold Oper.wpIn
  refine ⟨?_, ?_⟩
  · simp [Oper.about, hop, resolve, Target.leads, Sem.run_pure]
  · rw [Oper.semAt_plain F _ _ (by rw [hop]; intro c hc'; cases hc')]
    simp [execOp, hop, resolve, invoke, builtin, hs, hx, hr, Result.andThen]
    exact hK' _ _ hK
theorem infoStr : (Try.prog.info? 9).map (fun i => (i.zero, i.size, i.bytes)) = some (some (.string ⟨#[]⟩), 1, 16) := by kernel_rfl
def namesV (ps : List (ByteArray × Value)) : List Value := ps.map fun p => Value.string p.1
/-- The names collected so far, in block b. -/
structure ListAt (w0 : World) (b D C : Nat) (pre : List (ByteArray × Value)) (W : World) : Prop where
  chg : Chg [b] w0 W
  row : ∃ A c, W.heap[b]? = some (.cells #[.slice A pre.length c] 52 (0, 0)) ∧ SLine 1 W A pre.length c (namesV pre) ∧ ∀ j ∈ blk A, D + 2 ≤ j ∧ j ≠ C
theorem ListAt.steady {w0 : World} {b C : Nat} {pre : List (ByteArray × Value)} (hb : b < w0.heap.size) : SteadyIt w0.heap.size (ListAt w0 b w0.heap.size C pre) := by
  rintro W W' ⟨h1, A, c, h2, h3, h4⟩ hc
  exact ⟨h1.andThen hc (fun k hk => by simp only [List.mem_cons, List.not_mem_nil, or_false] at hk; omega), A, c, (hc.same b (lt_of_block h2) (by simp only [List.mem_cons, List.not_mem_nil, or_false]; omega)).trans h2, h3.chg hc (fun k hk hm => by have := (h4 k hk).1; simp only [List.mem_cons, List.not_mem_nil, or_false] at hm; omega), h4⟩
set_option maxHeartbeats 3200000 in
theorem list_any (w : World) (d : Nat) (A : Option Addr) (n c : Nat) (ps : List (ByteArray × Value)) (h : RowAtS w d 2 A n c ps) (hn : n ≤ 90000) (hsh : ∀ p ∈ ps, ∃ a : Option Addr, p.2 = .pointer a) :
    Calls Try.prog 24 #[.pointer (some ⟨d, 0, none⟩)] w fun e w' => (∃ A' c', e = .returned (.slice A' ps.length c') ∧ SLine 1 w' A' ps.length c' (namesV ps) ∧ ∀ k ∈ blk A', w.heap.size ≤ k) ∧ Below w.heap.size w w' := by
  have HH := Lib.hid h
  have hqs := World.block_lt_of_cell? w _ h.cell
  have HSH := Lib.hid hsh
  clear h hsh
  refine (callsIn_wide (n := 8)).1 ?_
  refine callsIn_of_wp_marks Try.func24 rfl trivial ?_ rfl
  simp only [Try.ntmps24, List.size_toArray, List.length_cons, List.length_nil, Nat.reduceAdd, Nat.reduceSub, Array.replicate_succ, Array.replicate_zero, List.push_toArray, List.append_toArray, List.nil_append, List.cons_append]
  refine wpIn_wide.2 ?_
  obtain ⟨hh, hhe⟩ : ∃ hh, w.heap.size = hh := ⟨_, rfl⟩
  obtain ⟨W2, hW2⟩ : ∃ W2, w.alloc (.cells #[.slice none 0 0] 52) = W2 := ⟨_, rfl⟩
  have hB2 : Below w.heap.size w W2 := by rw [← hW2]; exact (Below.refl _ w).alloc (Nat.le_refl _) _
  have hs2 : W2.heap.size = hh + 1 := by rw [← hW2, ← hhe]; simp
  have k0 : W2.heap[hh]? = some (.cells #[.slice none 0 0] 52 (0, 0)) := by
    have := heap_alloc_new w (.cells #[.slice none 0 0] 52 (0, 0))
    rw [hhe] at this
    rw [← hW2]
    exact this
  have y0 := cell_of_one k0
  have y1 := free_of_one k0
  have HK0 := Lib.hid k0
  have HB2 := Lib.hid hB2
  have HHE := Lib.hid hhe
  have HN := Lib.hid (dnames_any W2 d)
  have HS2 := Lib.hid hs2
  clear k0 hB2 hs2
  go_wp2_with fail
  refine HN.out.mono ?_
  rintro e w' ⟨rfl, rfl⟩
  clear y0 y1
  go_wp2_with fail
  refine (reach_S _ _).mono ?_
  rintro e w' ⟨rfl, rfl⟩
  obtain ⟨W3, hW3⟩ : ∃ W3, W2.alloc (.cells #[.pointer (some ⟨d, 2, none⟩)] 94) = W3 := ⟨_, rfl⟩
  have hs2 := HS2.out
  have hB3 : Below W2.heap.size W2 W3 := by rw [← hW3]; exact (Below.refl _ W2).alloc (Nat.le_refl _) _
  have hs3 : W3.heap.size = hh + 2 := by rw [← hW3]; simp [hs2]
  have hbx : W3.heap[hh + 1]? = some (.cells #[.pointer (some ⟨d, 2, none⟩)] 94 (0, 0)) := by
    have := heap_alloc_new W2 (.cells #[.pointer (some ⟨d, 2, none⟩)] 94 (0, 0))
    rw [hs2, hW3] at this
    exact this
  rw [hs2, hW3]
  have HBX := Lib.hid hbx
  have HB3 : Hid (Below w.heap.size w W3) := Lib.hid (HB2.out.trans (hB3.mono (by have := HB2.out.size; omega)))
  have HJ0 := Lib.hid ((hB3.block hh (by omega)).trans HK0.out)
  have hq3 : d < hh := by have := HHE.out; have h5 : d < w.heap.size := hqs; omega
  clear hW2 hW3 hbx hB3 HK0
  have HIT : Hid (∀ W1, Below W3.heap.size W3 W1 → IterOk Try.prog 66 #[.pointer (some ⟨hh + 1, 0, none⟩)] arS 2 ps W1) := Lib.hid (fun W1 hb => by
    have hbw := HB3.out.trans (hb.mono (by have := HHE.out; omega))
    exact each1_S W1 (hh + 1) (some ⟨d, 2, none⟩) A n c ps (cell_of_one ((hb.block _ (by omega)).trans HBX.out)) (.inr ⟨d, 2, rfl, (hbw.cell (p := ⟨d, 2, none⟩) hqs).trans HH.out.cell, HH.out.row.below hbw⟩) (by omega) HSH.out)
  go_wp2_with fail
  refine (wpIn_wide (n := 8)).1 ?_
  refine range_it 8 2 (by decide) 66 #[.pointer (some ⟨hh + 1, 0, none⟩)] arS rfl eachS_enters (fun _ => rfl) ps HIT.out (fun C pre W => ListAt W3 hh W3.heap.size C pre W) (fun _ _ _ _ => False) (fun C xs => ListAt.steady (by omega)) (fun _ _ _ _ _ h _ => h) ?h0 ?hab ?hdone (fun _ _ _ _ _ h _ => h.elim)
  case h0 =>
    intro C W1 hC hb1
    exact ⟨Chg.of_below hb1, none, 0, (hb1.block _ (by omega)).trans HJ0.out, SLine.nil 1 _, fun j hj => by cases hj⟩
  case hab =>
    apply Exists.intro
    refine ⟨?hassign, ?hbody⟩
    case hassign =>
      intro x W K hK
      unfold arS encS
      gi_wp2
      exact hK
    case hbody =>
      intro C pre x Wr hC hCW hD1 hI hpre
      obtain ⟨x, v⟩ := x
      have hmem : (x, v) ∈ ps := hpre.subset (by simp)
      obtain ⟨Ac, cc, hk1, hk2, hk3⟩ := hI.row
      have hlt2 := lt_of_block hk1
      have hlen2 : pre.length ≤ 90000 := by
        have h1 := hpre.length_le
        have h2 := HH.out.2.len
        simp only [List.length_append, List.length_cons, List.length_nil] at h1
        omega
      obtain ⟨C', c2, W6, hr, hl6, hc6, hf6, _⟩ := push_s 1 Wr 52 9 52 _ 16 Try.underlying52 infoStr rfl (by decide) Ac pre.length cc _ hk2 (by omega) [.string x] rfl (fun u hu => by rw [List.mem_singleton] at hu; rw [hu]; rfl)
      have HR : Hid ((Builtin.append_ #[52, 52] 52 #[.slice Ac pre.length cc, .slice (some ⟨Wr.heap.size, 0, none⟩) 1 1]).run Try.prog (Wr.alloc (.cells #[.string x] 9)) = .ok (.slice C' (pre.length + 1) c2) W6) := Lib.hid hr
      have hxA : hh ∉ blk Ac := fun hm => by have := (hk3 _ hm).1; omega
      have hk6 : W6.heap[hh]? = some (.cells #[.slice Ac pre.length cc] 52 (0, 0)) := (hc6.same hh hlt2 hxA).trans hk1
      have c1 := cell_of_one hk1
      have c2' := cell_of_one hk6
      have c3 := free_of_one hk6
      have HSTEP : Hid (KeepsIt W3.heap.size C Wr (W6.setCell ⟨hh, 0, none⟩ (.slice C' (pre.length + 1) c2)) ∧ ListAt W3 hh W3.heap.size C (pre ++ [(x, v)]) (W6.setCell ⟨hh, 0, none⟩ (.slice C' (pre.length + 1) c2))) := Lib.hid (by
        have hcc : Chg (hh :: blk Ac) Wr (W6.setCell ⟨hh, 0, none⟩ (.slice C' (pre.length + 1) c2)) := (hc6.weaken (fun k hk => .inl (List.mem_cons_of_mem _ hk))).setCell hh 0 _ (.inl (List.mem_cons_self ..))
        have hne : ∀ k ∈ hh :: blk Ac, k ≠ W3.heap.size ∧ k ≠ W3.heap.size + 1 ∧ k ≠ C := by
          intro k hk
          rcases List.mem_cons.1 hk with rfl | hk
          · omega
          · have := hk3 k hk; omega
        have hzr := hc6.size
        refine ⟨hcc.keepsIt (by omega) hCW (fun hm => (hne _ hm).1 rfl) (fun hm => (hne _ hm).2.1 rfl) (fun hm => (hne _ hm).2.2 rfl), hI.chg.andThen hcc (fun k hk => ?_), C', c2, ?_, ?_, fun j hj => ?_⟩
        · rcases List.mem_cons.1 hk with rfl | hk
          · exact .inl (by simp)
          · have := hk3 k hk; exact .inr (by omega)
        · rw [one_setCell hk6, List.length_append]; rfl
        · rw [List.length_append]
          have h7 : SLine 1 (W6.setCell ⟨hh, 0, none⟩ (.slice C' (pre.length + 1) c2)) C' (pre.length + 1) c2 (namesV pre ++ [.string x]) := hl6.chg ((Chg.refl [hh] W6).setCell hh 0 _ (.inl (by simp))) (fun k hk hm => by
            rw [List.mem_singleton] at hm
            rw [hm] at hk
            rcases hf6 hh hk with h | h
            · exact hxA h
            · omega)
          unfold namesV at h7 ⊢
          rw [List.map_append]
          exact h7
        · rcases hf6 j hj with h5 | h5
          · exact hk3 j h5
          · omega)
      clear hr hl6 hc6 hf6 hk1 hk2 hk3 hk6 hI hpre hlen2 hxA hmem hlt2
      gi_wp2_with (gi_at_builtin; refine wpListIn_append_run _ rfl _ _ _ _ rfl _ _ rfl rfl _ _ HR.out ?_)
      exact HSTEP.out
  case hdone =>
    intro C Wl hI hK
    have hbl := hI.chg
    obtain ⟨Ac, cc, hk1, hk2, hk3⟩ := hI.row
    have y1 := cell_of_one hk1
    have HK2 := Lib.hid (And.intro hk2 hk3)
    have HE2 : Hid (Wl.heap[W3.heap.size]? = some (.deferred (some []))) := Lib.hid hK
    have HE4 : Hid (Below hh W3 Wl) := Lib.hid (hbl.toBelow (fun k hk => by simp only [List.mem_cons, List.not_mem_nil, or_false] at hk; omega) (by omega))
    clear hI hK hbl hk1 hk2 hk3
    go_wp2_with fail
    have hcp := chg_putObjIt Wl W3.heap.size (.deferred none)
    have hsz : hh + 2 ≤ Wl.heap.size := by have := HE4.out.size; omega
    refine ⟨by simp, .inl ⟨_, _, rfl, run_takeDeferred HE2.out, ?_⟩⟩
    refine ⟨_, results_tmp rfl _ _ _, ⟨Ac, cc, rfl, HK2.out.1.chg hcp (fun k hk hm => by have := (HK2.out.2 k hk).1; rw [List.mem_singleton] at hm; omega), fun k hk => by have := (HK2.out.2 k hk).1; have := HHE.out; omega⟩, ?_⟩
    rw [HHE.out]
    have h3 := HB3.out
    rw [HHE.out] at h3
    exact h3.trans (HE4.out.trans (hcp.toBelow (fun k hk => by simp only [List.mem_cons, List.not_mem_nil, or_false] at hk; omega) (by omega)))
end Go.Proofs.Ytbjlikppboggmaa
