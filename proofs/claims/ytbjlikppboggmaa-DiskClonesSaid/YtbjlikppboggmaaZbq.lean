/-
  The contracts of bytes.Equal and of disk's Same, where both disks show the same; Same of what there isn't.
-/
import Derived.Test.YtbjlikppboggmaaZbk
import Derived.Test.YtbjlikppboggmaaZah
import Derived.Sort.QuietIn
namespace Go.Proofs.Ytbjlikppboggmaa
open Go.RowKit Go.Shelf
attribute [local go_sem] Oper.semAt_some
set_option linter.unusedVariables false
set_option maxRecDepth 100000

theorem equal_any (w : World) (A B : Option Addr) (n c c2 : Nat) (zs : List Int) (h1 : RowZ w A n zs) (h2 : RowZ w B n zs) : Calls Try.prog 53 #[.slice A n c, .slice B n c2] w fun e w' => e = .returned (.bool true) ∧ w = w' := by
  have k1 := conv_row h1 c
  have k2 := conv_row h2 c2
  clear h1 h2
  generalize strOfNums zs = s at *
  go_enter Try.func53, Try.ntmps53
  go_wp2
  go_ret
  exact ⟨rfl, rfl⟩
theorem results_same (tmps : Array Value) (w : World) (g : Nat) (b : Bool) (hp : tmps.getD 4 undef = .pointer (some ⟨g, 0, none⟩)) (hg : w.cell? ⟨g, 0, none⟩ = some (.bool b)) : (results Try.f27 tmps).run Try.prog w = .ok (.bool b) w := by
  have hp' : tmps[4]?.getD undef = .pointer (some ⟨g, 0, none⟩) := by simpa using hp
  simp [results, Try.results27, hp', asAddr, go_sem, hg]
theorem two_new (w : World) (x y : Obj) : ((w.alloc x).alloc y).heap[w.heap.size + 1]? = some y ∧ ((w.alloc x).alloc y).heap[w.heap.size]? = some x ∧ Below w.heap.size w ((w.alloc x).alloc y) := by
  refine ⟨?_, ?_, ((Below.refl _ w).alloc (Nat.le_refl _) _).alloc (by simp) _⟩
  · have h := heap_alloc_new (w.alloc x) y
    rw [World.size_alloc] at h
    exact h
  · exact (Below.heap_alloc _ _ _ (by simp)).trans (heap_alloc_new w x)
theorem same_none (w : World) : Calls Try.prog 27 #[.pointer none, .pointer none] w fun e w' => e = .returned (.bool true) ∧ Below w.heap.size w w' := by
  go_enter Try.func27, Try.ntmps27
  go_wp2
  exact bodyPost_ret (v := .bool true) (results_same _ _ (w.heap.size + 1) true rfl (cell_of_one (two_new w _ _).1)) rfl ⟨rfl, (two_new w _ _).2.2⟩
theorem eqlNilP (w : World) (e : Nat) : (binOp .eql 23 (.pointer none) (.pointer (some ⟨e, 0, none⟩))).run Try.prog w = .ok (.bool false) w := by kernel_rfl
theorem same_half (w : World) (e : Nat) : Calls Try.prog 27 #[.pointer none, .pointer (some ⟨e, 0, none⟩)] w fun ed w' => ed = .returned (.bool false) ∧ Below w.heap.size w w' := by
  have hq := fun (w : World) => eqlNilP w e
  go_enter Try.func27, Try.ntmps27
  go_wp2
  exact bodyPost_ret (v := .bool false) (results_same _ _ (w.heap.size + 1) false rfl (cell_of_one (two_new w _ _).1)) rfl ⟨rfl, (two_new w _ _).2.2⟩
theorem noChg_steady (w0 : World) : SteadyIt w0.heap.size (fun W => Chg [] w0 W) := fun W W' h hc => h.andThen hc (fun k hk => by simp only [List.mem_cons, List.not_mem_nil, or_false] at hk; omega)
/-- What both disks show of a name. -/
def TwoShow (w : World) (qs : List (ByteArray × Value)) (p : ByteArray × Value) : Prop :=
  ∃ (f g num num2 : Nat) (A B : Option Addr) (n c c2 sure sure2 : Nat) (zs : List Int), p.2 = .pointer (some ⟨f, 0, none⟩) ∧ lookP ltS qs p.1 = some (.pointer (some ⟨g, 0, none⟩)) ∧ FileAt w f num A n c sure ∧ FileAt w g num2 B n c2 sure2 ∧ RowZ w A n zs ∧ RowZ w B n zs
set_option maxHeartbeats 6400000 in
theorem same_any (w : World) (d e : Nat) (A B : Option Addr) (n c c2 : Nat) (ps qs : List (ByteArray × Value)) (h : RowAtS w d 2 A n c ps) (h2 : RowAtS w e 2 B n c2 qs) (hn : n ≤ 90000) (hsh : ∀ p ∈ ps, TwoShow w qs p) :
    Calls Try.prog 27 #[.pointer (some ⟨d, 0, none⟩), .pointer (some ⟨e, 0, none⟩)] w fun ed w' => ed = .returned (.bool true) ∧ Below w.heap.size w w' := by
  have HH := Lib.hid h
  have HH2 := Lib.hid h2
  have HSH := Lib.hid hsh
  have hds := World.block_lt_of_cell? w _ h.cell
  have hes := World.block_lt_of_cell? w _ h2.cell
  clear h h2 hsh
  refine (callsIn_wide (n := 8)).1 ?_
  refine callsIn_of_wp_marks Try.func27 rfl trivial ?_ rfl
  simp only [Try.ntmps27, List.size_toArray, List.length_cons, List.length_nil, Nat.reduceAdd, Nat.reduceSub, Array.replicate_succ, Array.replicate_zero, List.push_toArray, List.append_toArray, List.nil_append, List.cons_append]
  refine wpIn_wide.2 ?_
  obtain ⟨hh, hhe⟩ : ∃ hh, w.heap.size = hh := ⟨_, rfl⟩
  obtain ⟨W2, hW2⟩ : ∃ W2, (w.alloc (.cells #[.pointer (some ⟨e, 0, none⟩)] 23)).alloc (.cells #[.bool false] 4) = W2 := ⟨_, rfl⟩
  have hB2 : Below w.heap.size w W2 := by rw [← hW2]; exact (two_new w _ _).2.2
  have hs2 : W2.heap.size = hh + 2 := by rw [← hW2, ← hhe]; simp
  have k0 : W2.heap[hh]? = some (.cells #[.pointer (some ⟨e, 0, none⟩)] 23 (0, 0)) := by rw [← hW2, ← hhe]; exact (two_new w _ _).2.1
  have k1 : W2.heap[hh + 1]? = some (.cells #[.bool false] 4 (0, 0)) := by rw [← hW2, ← hhe]; exact (two_new w _ _).1
  have y0 := cell_of_one k0
  have y1 := free_of_one k1
  have HK0 := Lib.hid k0
  have HK1 := Lib.hid k1
  have HB2 := Lib.hid hB2
  have HHE := Lib.hid hhe
  have HS2 := Lib.hid hs2
  have HLA : Hid (∀ k, Calls Try.prog 44 #[.pointer (some ⟨d, 2, none⟩)] (W2.drewN k) fun e w' => e = .returned (.int .i64 (n : Int)) ∧ w' = W2.drewN k) := Lib.hid (fun k => (rlen_S (W2.drewN k) d 2 A n c ps ⟨(hB2.cell (p := ⟨d, 2, none⟩) hds).trans HH.out.cell, HH.out.row.below (hB2.trans (below_drewN W2 k |>.mono hB2.size))⟩).mono fun e w' h => ⟨h.1, h.2.symm⟩)
  have HLB : Hid (∀ k, Calls Try.prog 44 #[.pointer (some ⟨e, 2, none⟩)] (W2.drewN k) fun e w' => e = .returned (.int .i64 (n : Int)) ∧ w' = W2.drewN k) := Lib.hid (fun k => (rlen_S (W2.drewN k) e 2 B n c2 qs ⟨(hB2.cell (p := ⟨e, 2, none⟩) hes).trans HH2.out.cell, HH2.out.row.below (hB2.trans (below_drewN W2 k |>.mono hB2.size))⟩).mono fun e w' h => ⟨h.1, h.2.symm⟩)
  clear k0 k1 hB2 hs2
  go_wp2_with fail
  go_big_quiet ((first | (go_at_call 44; with_reducible exact Calls.quiet_of_same (HLA.out _)) | (go_at_call 44; with_reducible exact Calls.quiet_of_same (HLB.out _))))
  go_wp2_with fail
  obtain ⟨Wq, hWq⟩ : ∃ Wq, W2.drewN nq = Wq := ⟨_, rfl⟩
  have hBq : Below W2.heap.size W2 Wq := by rw [← hWq]; exact below_drewN W2 nq
  have hsq : Wq.heap.size = hh + 2 := by rw [← hWq]; exact HS2.out
  rw [hWq]
  refine (reach_S _ _).mono ?_
  rintro e9 w9 ⟨rfl, rfl⟩
  obtain ⟨W3, hW3⟩ : ∃ W3, Wq.alloc (.cells #[.pointer (some ⟨d, 2, none⟩)] 94) = W3 := ⟨_, rfl⟩
  have hB3 : Below Wq.heap.size Wq W3 := by rw [← hW3]; exact (Below.refl _ Wq).alloc (Nat.le_refl _) _
  have hs3 : W3.heap.size = hh + 3 := by rw [← hW3]; simp [hsq]
  have hbx : W3.heap[hh + 2]? = some (.cells #[.pointer (some ⟨d, 2, none⟩)] 94 (0, 0)) := by
    have := heap_alloc_new Wq (.cells #[.pointer (some ⟨d, 2, none⟩)] 94 (0, 0))
    rw [hsq, hW3] at this
    exact this
  rw [hsq, hW3]
  have hB23 : Below W2.heap.size W2 W3 := hBq.trans (hB3.mono hBq.size)
  have HBX := Lib.hid hbx
  have HB3 : Hid (Below w.heap.size w W3) := Lib.hid (HB2.out.trans (hB23.mono (by have := HB2.out.size; omega)))
  have HJ0 := Lib.hid ((hB23.block hh (by have := HS2.out; omega)).trans HK0.out)
  have HJ1 := Lib.hid ((hB23.block (hh + 1) (by have := HS2.out; omega)).trans HK1.out)
  have hq3 : d < hh := by have := HHE.out; omega
  have hq4 : e < hh := by have := HHE.out; omega
  clear hW2 hW3 hbx hB3 hBq hB23 HK0 HK1 HLA HLB y0 y1 hWq
  have HIT : Hid (∀ W1, Below W3.heap.size W3 W1 → IterOk Try.prog 66 #[.pointer (some ⟨hh + 2, 0, none⟩)] arS 2 ps W1) := Lib.hid (fun W1 hb => by
    have hbw := HB3.out.trans (hb.mono (by have := HHE.out; omega))
    exact each1_S W1 (hh + 2) (some ⟨d, 2, none⟩) A n c ps (cell_of_one ((hb.block _ (by omega)).trans HBX.out)) (.inr ⟨d, 2, rfl, (hbw.cell (p := ⟨d, 2, none⟩) hds).trans HH.out.cell, HH.out.row.below hbw⟩) (by omega) (fun p hp => by obtain ⟨f, _, _, _, _, _, _, _, _, _, _, _, e1, _⟩ := HSH.out p hp; exact ⟨_, e1⟩))
  go_wp2_with fail
  refine (wpIn_wide (n := 8)).1 ?_
  refine range_it 8 2 (by decide) 66 #[.pointer (some ⟨hh + 2, 0, none⟩)] arS rfl eachS_enters (fun _ => rfl) ps HIT.out (fun C pre W => Chg [] W3 W) (fun _ _ _ _ => False) (fun C xs => noChg_steady W3) (fun _ _ _ _ _ h _ => h) ?h0 ?hab ?hdone (fun _ _ _ _ _ h _ => h.elim)
  case h0 =>
    intro C W1 hC hb1
    exact Chg.of_below hb1
  case hab =>
    apply Exists.intro
    refine ⟨?hassign, ?hbody⟩
    case hassign =>
      intro x W K hK
      unfold arS encS
      gi_wp2
      exact hK
    case hbody =>
      intro C pre x Wr hC hCW hD1 hI hpre
      obtain ⟨x, v⟩ := x
      have hmem : (x, v) ∈ ps := hpre.subset (by simp)
      obtain ⟨f, g, num, num2, fA, gA, fnn, fc, gc, fsu, gsu, zs, hv, hl, hf, hg, hr1, hr2⟩ := HSH.out _ hmem
      simp only at hv hl
      subst hv
      have hbr : Below w.heap.size w Wr := HB3.out.trans (hI.toBelow (fun k hk => by cases hk) (by have := HB3.out.size; omega))
      have c0 : Wr.cell? ⟨hh, 0, none⟩ = some (.pointer (some ⟨e, 0, none⟩)) := cell_of_one ((hI.same hh (by omega) (by simp)).trans HJ0.out)
      have hhas : hasP ltS qs x = true := by unfold hasP; rw [hl]; rfl
      have hget := rget_S Wr e 2 B n c2 qs ⟨(hbr.cell (p := ⟨e, 2, none⟩) hes).trans HH2.out.cell, HH2.out.row.below hbr⟩ x (by omega)
      rw [hhas, hl] at hget
      simp only [Option.getD_some] at hget
      have HGET := Lib.hid hget
      have HFS : Hid (∀ V, Below Wr.heap.size Wr V → V.cell? ⟨f, 1, none⟩ = some (.slice fA fnn fc) ∧ V.cell? ⟨g, 1, none⟩ = some (.slice gA fnn gc) ∧ ∀ k, Calls Try.prog 53 #[.slice fA fnn fc, .slice gA fnn gc] (V.drewN k) fun e w' => e = .returned (.bool true) ∧ w' = V.drewN k) := Lib.hid (fun V hV => by
        have hb := hbr.trans (hV.mono hbr.size)
        refine ⟨(hf.same (hb.block f (lt_of_block hf))).c1, (hg.same (hb.block g (lt_of_block hg))).c1, fun k => (equal_any (V.drewN k) fA gA fnn fc gc zs ?_ ?_).mono fun e w' h => ⟨h.1, h.2.symm⟩⟩
        · exact hr1.below (hb.trans ((below_drewN V k).mono hb.size))
        · exact hr2.below (hb.trans ((below_drewN V k).mono hb.size)))
      have HSTEP : Hid (∀ V k, Below Wr.heap.size Wr V → KeepsIt W3.heap.size C Wr (V.drewN k) ∧ Chg [] W3 (V.drewN k)) := Lib.hid (fun V k hV => by
        have hc : Chg [] Wr (V.drewN k) := Chg.of_below (hV.trans ((below_drewN V k).mono hV.size))
        exact ⟨hc.keepsIt hD1 hCW (by simp) (by simp) (by simp), hI.trans hc⟩)
      clear hmem hl hf hg hr1 hr2 hhas hget hI hpre hbr
      gi_wp2_with (refine ⟨trivial, ?_⟩; gi_at_call 43; refine (CallsIn.inRound _ (callsIn_wide.2 HGET.out)).mono ?_; rintro e8 Wg ⟨rfl, hbg⟩; have HBG := Lib.hid hbg; have HF1 := Lib.hid (HFS.out Wg hbg); clear hbg)
      have k1 := HF1.out.1
      have k2 := HF1.out.2.1
      have HQ1 := Lib.hid (HF1.out.2.2 1)
      gi_region_with (refine ⟨trivial, ?_⟩; gi_at_call 53; refine (CallsIn.inRound _ (callsIn_wide.2 HQ1.out)).mono ?_; rintro e7 Wh ⟨rfl, rfl⟩)
      all_goals
        try gi_wp2
        exact HSTEP.out Wg _ HBG.out
  case hdone =>
    intro C Wl hI hK
    have hr1 := (hI.same (hh + 1) (by omega) (by simp)).trans HJ1.out
    have y1 := cell_of_one hr1
    have y1' := free_of_one hr1
    obtain ⟨Wo, hWo⟩ : ∃ Wo, Wl.setCell ⟨hh + 1, 0, none⟩ (.bool true) = Wo := ⟨_, rfl⟩
    have HE1 : Hid (Wo.heap[hh + 1]? = some (.cells #[.bool true] 4 (0, 0))) := by rw [← hWo]; exact Lib.hid (one_setCell hr1)
    have hcw : Chg [hh + 1] Wl Wo := by rw [← hWo]; exact (Chg.refl _ Wl).setCell (hh + 1) 0 _ (.inl (by simp))
    have HE2 : Hid (Wo.heap[W3.heap.size]? = some (.deferred (some []))) := Lib.hid ((hcw.same _ (lt_of_block hK) (by simp only [List.mem_cons, List.not_mem_nil, or_false]; omega)).trans hK)
    have HE4 : Hid (Below hh W3 Wo) := Lib.hid ((hI.toBelow (fun k hk => by cases hk) (by omega)).trans (hcw.toBelow (fun k hk => by simp only [List.mem_cons, List.not_mem_nil, or_false] at hk; omega) (by have := hI.size; omega)))
    clear hI hK hr1 hcw
    go_wp2_with fail
    have hcp := chg_putObjIt Wo W3.heap.size (.deferred none)
    have hsz : hh + 3 ≤ Wo.heap.size := by have := HE4.out.size; omega
    refine ⟨by simp, .inl ⟨_, _, rfl, run_takeDeferred HE2.out, ?_⟩⟩
    refine ⟨_, results_same _ _ (hh + 1) true rfl (cell_of_one ((World.putObj_heap_other (by omega)).trans HE1.out)), rfl, ?_⟩
    rw [HHE.out]
    have h3 := HB3.out
    rw [HHE.out] at h3
    exact h3.trans (HE4.out.trans (hcp.toBelow (fun k hk => by simp only [List.mem_cons, List.not_mem_nil, or_false] at hk; omega) (by omega)))
end Go.Proofs.Ytbjlikppboggmaa
