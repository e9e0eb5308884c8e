/-
  The walk of SetsLoops.
-/
import Derived.Test.YtjkcomoadpileaaDoorTx
import Derived.Test.YtjkcomoadpileaaDoorBs
import Derived.Deep.CutRange
import Derived.Deep.RegionHeld3
import Derived.Deep.RegionWith
import Derived.Sort.CutIn
namespace Go.Proofs.YtjkcomoadpileaaDoor
open Go.RowKit Go.Shelf
attribute [local go_sem] Oper.semAt_some
set_option linter.unusedVariables false

/-- Behind Wm: its blocks lie as they lay, and those of W. -/
structure Fin (W Wm w : World) : Prop where
  was : Below W.heap.size W w
  lies : Below Wm.heap.size Wm w
theorem Fin.drewN {W Wm w : World} (h : Fin W Wm w) (d : Nat) : Fin W Wm (w.drewN d) := ⟨⟨h.1.os, h.1.tape, h.1.output, h.1.size, h.1.block⟩, ⟨h.2.os, h.2.tape, h.2.output, h.2.size, h.2.block⟩⟩
theorem Fin.drew {W Wm w : World} (h : Fin W Wm w) : Fin W Wm w.drew := ⟨h.1.drew, h.2.drew⟩
theorem Fin.cell {W Wm w : World} (h : Fin W Wm w) {k : Nat} {v : Value} {t : TypeId} (hk : Wm.heap[k]? = some (.cells #[v] t (0, 0))) : w.cell? ⟨k, 0, none⟩ = some v := cell_of_one ((h.2.block k (lt_of_block hk)).trans hk)
theorem same_fin {W Wm : World} {A1 A2 : Option Addr} {n c1 c2 : Nat} {zs : List Int} (h1 : Ints Wm A1 n zs) (h2 : Ints Wm A2 n zs) (hn : n ≤ 100000) (w : World) (h : Fin W Wm w) :
    Calls Tryd.prog 14 #[.slice A1 n c1, .slice A2 n c2] w fun e w' => e = .returned (.bool true) ∧ Fin W Wm w' := by
  refine (rsame_any w A1 A2 n n c1 c2 zs zs (h1.below h.2) (h2.below h.2) hn hn).mono ?_
  rintro e w' ⟨rfl, d, rfl⟩
  exact ⟨ret_bool (by simp), h.drewN d⟩
theorem lives_fin {W Wm : World} (w : World) (h : Fin W Wm w) (hs : W.heap.size ≤ Wm.heap.size) : Calls Tryd.prog 18 #[] w fun e w' => e = .returned (.bool true) ∧ Fin W Wm w' := by
  refine (lives_any w).mono ?_
  rintro e w' ⟨rfl, hB⟩
  exact ⟨rfl, h.1.trans (hB.mono (Nat.le_trans hs h.2.size)), h.2.trans (hB.mono h.2.size)⟩
set_option maxRecDepth 100000 in
set_option maxHeartbeats 12800000 in
theorem setsLoops_walk (A : Option Addr) (len cap : Nat) (Z : List Int) (most : Int) (W : World) (hR : IsRow .i64 W A len cap Z) (hmost : (Lit.int .i64 most).wf = true) (hL : laidMetH Tryd.prog Rows.setsLoopsRow.laid W) :
    Calls Tryd.prog 5 #[.slice A len cap, .int .i64 most] W fun e W' => e = .returned (.bool true) ∧ Below W.heap.size W W' := by
  have heq := eql_func_nil
  obtain ⟨hI0, hlc, hcm⟩ := Ints.of_isRow hR
  have hT := tab_of_laid hL
  have hab := bounds_i64 hmost
  have hI : Ints W A (min len 100) ((Z.take len).take (min len 100)) := hI0.take (Nat.min_le_left _ _)
  generalize (Z.take len).take (min len 100) = L at hI
  have hm0 : min len 100 ≤ 100 := Nat.min_le_right _ _
  have HCUT := Lib.hid (fun w => cut_any w A len cap (by omega) hlc hcm)
  obtain ⟨m, hmm⟩ : ∃ m, min len 100 = m := ⟨_, rfl⟩
  rw [hmm] at HCUT
  rw [hmm] at hI hm0
  have HI := Lib.hid hI
  have HT := Lib.hid hT
  clear hI0 hR hL hT hI hmm hmost
  refine (callsIn_wide (n := 8)).1 ?_
  refine callsIn_of_wp_marks Tryd.func5 rfl trivial ?_ rfl
  simp only [Tryd.ntmps5, List.size_toArray, List.length_cons, List.length_nil, Nat.reduceAdd, Nat.reduceSub, Array.replicate_succ, Array.replicate_zero, List.push_toArray, List.append_toArray, List.nil_append, List.cons_append]
  refine wpIn_wide.2 ?_
  go_wp2_with fail
  obtain ⟨Wa, hWa⟩ : ∃ Wa, W.alloc (.cells #[.int .i64 most] 3) = Wa := ⟨_, rfl⟩
  have hBa : Below W.heap.size W Wa := by rw [← hWa]; exact (Below.refl _ W).alloc (Nat.le_refl _) _
  have hsa : Wa.heap.size = W.heap.size + 1 := by rw [← hWa]; simp
  have hca : Wa.heap[W.heap.size]? = some (.cells #[.int .i64 most] 3 (0, 0)) := by rw [← hWa]; exact heap_alloc_new W _
  rw [hWa]
  clear hWa
  refine (HCUT.out Wa).mono ?_
  rintro e w' ⟨rfl, rfl⟩
  go_wp2_with fail
  refine (of_any Wa A m cap L (HI.out.below hBa) (by omega)).mono ?_
  rintro e w1 ⟨b, v, rfl, hS1, hF1, hB1⟩
  have HS1 := Lib.hid hS1
  have HF1 := Lib.hid hF1
  have HB1 := Lib.hid (hBa.trans (hB1.mono hBa.size))
  have hc1 := (hB1.block W.heap.size (by omega)).trans hca
  have hs1 := hB1.size
  have HFL : Hid (∀ k ∈ foot b v, W.heap.size < k ∧ k < w1.heap.size) := Lib.hid (fun k hk => ⟨by have := hF1 k hk; omega, hS1.foot_lt k hk⟩)
  clear hS1 hF1 hB1 hca
  go_wp2_with fail
  obtain ⟨Wb, hWb⟩ : ∃ Wb, w1.alloc (.cells #[.pointer (some ⟨b, 0, none⟩)] 23) = Wb := ⟨_, rfl⟩
  have hBb : Below w1.heap.size w1 Wb := by rw [← hWb]; exact (Below.refl _ w1).alloc (Nat.le_refl _) _
  have hsb : Wb.heap.size = w1.heap.size + 1 := by rw [← hWb]; simp
  have hcb : Wb.heap[w1.heap.size]? = some (.cells #[.pointer (some ⟨b, 0, none⟩)] 23 (0, 0)) := by rw [← hWb]; exact heap_alloc_new w1 _
  rw [hWb]
  clear hWb
  refine (HCUT.out Wb).mono ?_
  rintro e w' ⟨rfl, rfl⟩
  go_wp2_with fail
  have HBb := Lib.hid (HB1.out.trans (hBb.mono HB1.out.size))
  refine (rof_any Wb A m cap L (HI.out.below HBb.out) (by omega)).mono ?_
  rintro e w2 ⟨A6, c6, rfl, hI6, hB2, hc6, hm6, hJ6⟩
  have hl6 := ofL_length L
  rw [HI.out.1] at hl6
  have HTW := Lib.hid (Twin.of L)
  obtain ⟨xs0, hxs⟩ : ∃ xs0, ofL L = xs0 := ⟨_, rfl⟩
  rw [hxs] at hI6 hl6 hc6 HTW
  rw [hxs]
  clear hxs
  obtain ⟨p, hp⟩ : ∃ p, xs0.length = p := ⟨_, rfl⟩
  rw [hp] at hI6 hl6 hc6
  rw [hp]
  have HP := Lib.hid hp
  clear hp
  have HI6 := Lib.hid hI6
  have HB2 := Lib.hid (HBb.out.trans (hB2.mono HBb.out.size))
  have HS2 := Lib.hid ((HS1.out.below hBb).below (hB2.mono (by omega)))
  have hc2 := (hB2.block W.heap.size (by omega)).trans ((hBb.block W.heap.size (by omega)).trans hc1)
  have hcb2 := (hB2.block w1.heap.size (by omega)).trans hcb
  have hs2 := hB2.size
  have HJ6 : Hid (∀ j ∈ blk A6, Wb.heap.size ≤ j ∧ j < w2.heap.size) := Lib.hid (fun j hj => by obtain ⟨h1 | h1, h2⟩ := hJ6 j hj; cases h1; exact ⟨h1, h2⟩)
  clear hI6 hB2 hJ6 hc1 hcb hBb
  have hcell := cell_of_one hc2
  have hfree := free_of_one hc2
  obtain ⟨M, hMp, hM⟩ : ∃ M : Nat, M ≤ p ∧ ((most < 0 ∧ M = 0) ∨ (0 ≤ most ∧ most ≤ (p : Int) ∧ most = (M : Int)) ∨ (0 ≤ most ∧ (p : Int) < most ∧ M = p)) := by
    by_cases h0 : most < 0
    · exact ⟨0, by omega, .inl ⟨h0, rfl⟩⟩
    · by_cases h1 : most ≤ (p : Int)
      · exact ⟨most.toNat, by omega, .inr (.inl ⟨by omega, h1, by omega⟩)⟩
      · exact ⟨p, by omega, .inr (.inr ⟨by omega, by omega, rfl⟩)⟩
  have HSET : Hid (∀ u : Value, Chg [W.heap.size] w2 (w2.setCell ⟨W.heap.size, 0, none⟩ u)) := Lib.hid (fun u => (Chg.refl [W.heap.size] w2).setCell W.heap.size 0 u (.inl (List.mem_cons_self ..)))
  have hF1n : W.heap.size ∉ foot b v := fun hm => by have := HF1.out _ hm; omega
  have hne : w1.heap.size ≠ W.heap.size := by omega
  go_upto_region 3 with fail
  go_cut [] from 19 to 23 (fun wx => wx = w2.setCell ⟨W.heap.size, 0, none⟩ (.int .i64 (M : Int)))
  case first =>
    rcases hM with ⟨h0, rfl⟩ | ⟨h0, h1, rfl⟩ | ⟨h0, h1, rfl⟩
    all_goals
      try have h2 : most ≤ (p : Int) := by omega
      try have h3 : most ≤ 0 := by omega
      try have h4 : ¬ most ≤ (M : Int) := by omega
      go_wp2_with fail
      all_goals
        go_meet
        first
          | exact rfl
          | exact congrArg (fun z : Int => w2.setCell ⟨W.heap.size, 0, none⟩ (.int .i64 z)) (by omega)
  case rest =>
    have hCc : Chg [W.heap.size] w2 wc := by rw [hcut]; exact HSET.out _
    have hcc : wc.heap[W.heap.size]? = some (.cells #[.int .i64 (M : Int)] 3 (0, 0)) := by rw [hcut]; exact one_setCell hc2
    have HSc := Lib.hid (HS2.out.chg hCc (fun k hk hm => by rw [List.mem_singleton] at hm; subst hm; exact hF1n hk))
    have hcbc := (hCc.same _ (by omega) (by rw [List.mem_singleton]; omega)).trans hcb2
    have HIc : Hid (Ints wc A6 p xs0) := Lib.hid (HI6.out.same hCc.size (fun bb off e hlt => hCc.same bb hlt (by rw [List.mem_singleton]; have := HJ6.out bb (mem_blk.2 ⟨_, e, rfl⟩); omega)))
    have HBc := Lib.hid (HB2.out.trans (hCc.toBelow (fun k hk => by rw [List.mem_singleton] at hk; omega) HB2.out.size))
    have hsc := hCc.size
    have hcell3 := cell_of_one hcbc
    clear hcut hCc HSET hc2 hcb2 hM hcell hfree HS1 HS2 HI6
    go_upto_region 5 with fail
    obtain ⟨Wd, hWd⟩ : ∃ Wd, (wc.alloc (.cells #[.slice none 0 0] 22)).alloc (.cells #[.slice none 0 0] 22) = Wd := ⟨_, rfl⟩
    have hBd : Below wc.heap.size wc Wd := by rw [← hWd]; exact ((Below.refl _ wc).alloc (Nat.le_refl _) _).alloc (by simp) _
    have hsd : Wd.heap.size = wc.heap.size + 2 := by rw [← hWd]; simp
    have hd7 : Wd.heap[wc.heap.size]? = some (.cells #[.slice none 0 0] 22 (0, 0)) := by rw [← hWd]; exact (Below.heap_alloc _ _ _ (by simp)).trans (heap_alloc_new wc _)
    have hd8 : Wd.heap[wc.heap.size + 1]? = some (.cells #[.slice none 0 0] 22 (0, 0)) := by
      rw [← hWd]
      have := heap_alloc_new (wc.alloc (.cells #[.slice none 0 0] 22)) (.cells #[.slice none 0 0] 22)
      rw [World.size_alloc] at this
      exact this
    rw [hWd]
    clear hWd
    have hd5 := cell_of_one ((hBd.block w1.heap.size (by omega)).trans hcbc)
    go_wp2_with fail
    refine (each_any _ _).mono ?_
    rintro e w' ⟨rfl, rfl⟩
    obtain ⟨W0, hW0⟩ : ∃ W0, Wd.alloc (.cells #[.pointer (some ⟨b, 0, none⟩)] 23) = W0 := ⟨_, rfl⟩
    have hB0 : Below Wd.heap.size Wd W0 := by rw [← hW0]; exact (Below.refl _ Wd).alloc (Nat.le_refl _) _
    have hs0 : W0.heap.size = wc.heap.size + 3 := by rw [← hW0]; simp [hsd]
    have hbx : W0.cell? ⟨wc.heap.size + 2, 0, none⟩ = some (.pointer (some ⟨b, 0, none⟩)) := by rw [← hW0, ← hsd]; exact cell_of_one (heap_alloc_new Wd _)
    rw [hsd, hW0]
    clear hW0 hd5
    have hBd0 : Below wc.heap.size wc W0 := hBd.trans (hB0.mono (by omega))
    have HB0 := Lib.hid (HBc.out.trans (hBd0.mono HBc.out.size))
    have HS0 := Lib.hid (HSc.out.below hBd0)
    have HI0 := Lib.hid (HIc.out.below hBd0)
    have h7 := (hB0.block _ (by omega)).trans hd7
    have h8 := (hB0.block _ (by omega)).trans hd8
    have h3 := (hBd0.block W.heap.size (by omega)).trans hcc
    have h5 := (hBd0.block w1.heap.size (by omega)).trans hcbc
    clear hBd hd7 hd8 hB0 hBd0 hcc hcbc hcell3 HSc HIc
    go_wp2_with fail
    have HRDY : Hid (Ready W0 wc.heap.size b v) := Lib.hid ⟨fun k hk => by have := HFL.out k hk; omega, by omega, fun hm => by have := HFL.out _ hm; omega⟩
    have hsh := HS0.out.short
    have HTAB := HT.out.1
    have hel := HTW.out.elems
    have hell : (elems (ofW L)).length = p := by have h1 := congrArg List.length hel; rw [HP.out] at h1; rw [← h1]; exact (asZ_length _).symm
    have HEL := Lib.hid hel
    clear hel
    refine (wpIn_wide (n := 8)).1 ?_
    refine range_set_ex 8 (by decide) rfl rfl (some ⟨b, 0, none⟩) v (ofW L) hbx (At.of HS0.out)
      (fun C xs W' => Turned W0 wc.heap.size b v C xs W' ∧ xs.length ≤ M)
      (fun C c xs W' => c = .exit 0 ∧ ∃ pre, pre.length = M ∧ pre <+: xs ∧ Turned W0 wc.heap.size b v C pre W') ?hI ?hIx ?hIT ?h0 ?hab ?hdone ?hstop
    case hI =>
      intro C xs W1 W2 h hc
      exact ⟨Turned.steady HRDY.out W1 W2 h.1 hc, h.2⟩
    case hIx =>
      intro C c xs W1 W2 h hc
      obtain ⟨h1, pre, h2, h3, h4⟩ := h
      exact ⟨h1, pre, h2, h3, Turned.steady HRDY.out W1 W2 h4 hc⟩
    case hIT =>
      intro C xs W1 h
      exact HT.out.below (HB0.out.trans (h.1.1.toBelow (fun k hk => by
        rcases List.mem_cons.1 hk with rfl | hk
        · omega
        · have := HFL.out k hk; omega) HB0.out.size)) HTAB
    case h0 =>
      intro C W1 hC hb1
      refine ⟨⟨Chg.of_below hb1, none, 0, 0, (hb1.block _ (by omega)).trans h7, LineAt.nil _, (fun j hj => by cases hj), v, ofW L, HS0.out.below hb1, fun j hj => ⟨.inl hj, ?_, fun hm => by cases hm⟩⟩, Nat.zero_le _⟩
      have := HFL.out j hj
      omega
    case hab =>
      apply Exists.intro
      refine ⟨?hassign, ?hbody⟩
      case hassign =>
        intro x W1 K hK
        gi_wp2
        exact hK
      case hbody =>
        intro C pre x Wr hC hCW hD1 hI hpre
        obtain ⟨hI, hlen⟩ := hI
        have hx : x < 65536 := elems_lt (ofW L) hsh x (hpre.subset (by simp))
        have hx1 : (x : Int) < 65536 := by omega
        have hx0 : (0 : Int) ≤ (x : Int) := by omega
        obtain ⟨A, c, hc1, A', c', W2, hr, hc2, hf2, hK, hI2⟩ := hI.push HRDY.out hD1 hCW hC x hx (by omega) 22
        have hne3 : W.heap.size ∉ foot b v := fun hm => by have := HFL.out _ hm; omega
        have hne5 : w1.heap.size ∉ foot b v := fun hm => by have := HFL.out _ hm; omega
        have h3r := (hI.cell (k := W.heap.size) (by omega) (by omega) hne3).trans (cell_of_one h3)
        rcases Nat.lt_or_ge pre.length M with hlt | hge
        · obtain ⟨q, hq⟩ : ∃ q, pre.length = q := ⟨_, rfl⟩
          have HLT : Hid (pre.length < M) := Lib.hid hlt
          rw [hq] at hc1 hr hc2 hK hI2 hlt
          have hneM : ((q : Int) == (M : Int)) = false := by rw [beq_eq_false_iff_ne]; omega
          have HQ := Lib.hid hq
          clear hlt hlen hpre
          have HR := Lib.hid hr
          have HK := Lib.hid hK
          have HI2 := Lib.hid hI2
          clear hr hK hI2 hI hq
          gi_upto_region 12 with (gi_at_builtin; refine wpListIn_append_run _ rfl _ _ _ _ rfl _ _ rfl rfl _ _ HR.out ?_)
          obtain ⟨W3, hW3⟩ : ∃ W3, W2.setCell ⟨wc.heap.size, 0, none⟩ (.slice A' (q + 1) c') = W3 := ⟨_, rfl⟩
          rw [hW3] at HK HI2
          rw [hW3]
          clear hW3 HR hc1 hc2 hf2 h3r
          have h5a := (HI2.out.cell (k := w1.heap.size) (by omega) (by omega) hne5).trans (cell_of_one h5)
          have hs3 := HK.out.1
          have HPUT := Lib.hid (put_turned HI2.out HRDY.out (by omega) (by omega) ((x : Int) - 1) (by omega))
          have hsub : -9223372036854775808 ≤ (x : Int) - 1 ∧ (x : Int) - 1 ≤ 9223372036854775807 := by omega
          gi_upto_region 13 with (refine ⟨trivial, ?_⟩; gi_at_call 10; refine (CallsIn.inRound _ (callsIn_wide.2 HPUT.out)).mono ?_; rintro e W4 ⟨r4, rfl, hT4, hK4⟩)
          have HT4 := Lib.hid hT4
          have HK4 := Lib.hid (HK.out.trans hK4)
          have hs4 := hK4.1
          clear hT4 hK4 h5a HPUT HI2
          have h5b := (HT4.out.cell (k := w1.heap.size) (by omega) (by omega) hne5).trans (cell_of_one h5)
          have HDROP := Lib.hid (drop_turned HT4.out HRDY.out (by omega) (by omega) (x : Int) (by omega))
          gi_wp2_with (refine ⟨trivial, ?_⟩; gi_at_call 12; refine (CallsIn.inRound _ (callsIn_wide.2 HDROP.out)).mono ?_; rintro e W5 ⟨r5, rfl, hT5, hK5⟩)
          exact ⟨HK4.out.trans hK5, hT5, by have h1 := HQ.out; have h2 := HLT.out; simp; omega⟩
        · obtain hleM : pre.length = M := by omega
          have hHI := Lib.hid hI
          clear hr hK hI2 hI hc2 hf2
          rw [hleM] at hc1
          gi_wp2
          exact ⟨⟨Nat.le_refl _, rfl, rfl, rfl⟩, rfl, pre, hleM, List.prefix_append _ _, hHI.out⟩
    case' hdone =>
      intro C Wl hI hK
      obtain ⟨hT0, hle0⟩ := hI
      obtain ⟨pre, hpl, hpp, hT⟩ : ∃ pre, pre.length = M ∧ pre <+: elems (ofW L) ∧ Turned W0 wc.heap.size b v C pre Wl := ⟨elems (ofW L), by omega, List.prefix_refl _, hT0⟩
      clear hT0 hle0
    case' hstop =>
      intro C c pre0 Wl hpre0 hI hK
      obtain ⟨rfl, pre, hpl, hpp0, hT⟩ := hI
      have hpp : pre <+: elems (ofW L) := hpp0.trans hpre0
      clear hpp0 hpre0
      refine wpIn_wide.2 ?_
    all_goals
      have HPRE : Hid (asZ pre = xs0.take M) := Lib.hid (by
        rw [← HEL.out, ← hpl]
        unfold elemsZ asZ
        rw [← List.map_take, ← List.prefix_iff_eq_take.1 hpp])
      obtain ⟨hC1, A7, q7, c7, hb7, hl7, hj7, _⟩ := hT
      obtain rfl : q7 = M := by have h1 := hl7.1; rw [cellsI_length, asZ_length] at h1; omega
      rw [HPRE.out] at hl7
      have HL7 := Lib.hid hl7
      have HJ7 := Lib.hid (fun j hj => (hj7 j hj).1)
      have hkeep : ∀ k, k < W0.heap.size → k ≠ wc.heap.size → ¬ (W.heap.size < k ∧ k < w1.heap.size) → Wl.heap[k]? = W0.heap[k]? := fun k h1 h2 h3 => hC1.same k h1 (by rw [List.mem_cons, not_or]; exact ⟨h2, fun hm => h3 (HFL.out k hm)⟩)
      have h3l := (hkeep W.heap.size (by omega) (by omega) (by omega)).trans h3
      have h8l := (hkeep (wc.heap.size + 1) (by omega) (by omega) (by omega)).trans h8
      have HIl : Hid (Ints Wl A6 p xs0) := Lib.hid (HI0.out.same hC1.size (fun bb off e hlt => by have := HJ6.out bb (mem_blk.2 ⟨_, e, rfl⟩); exact hkeep bb hlt (by omega) (by omega)))
      have hnl := hC1.size
      have hnl' := Nat.le_trans HB0.out.size hnl
      have HBl : Hid (Below W.heap.size W Wl) := Lib.hid (HB0.out.trans (hC1.toBelow (fun k hk => by
        rcases List.mem_cons.1 hk with rfl | hk
        · omega
        · have := HFL.out k hk; omega) HB0.out.size))
      clear hkeep hC1 hl7 hj7 hpp hpl h3 h5 h7 h8 hbx
      go_upto_region 14 with fail
      go_wp2_with fail
      refine (HCUT.out Wl).mono ?_
      rintro e w' ⟨rfl, rfl⟩
      go_wp2_with fail
      refine (of_any Wl A m cap L (HI.out.below HBl.out) (by omega)).mono ?_
      rintro e We ⟨b2, v2, rfl, hSe, hFe, hBe⟩
      go_wp2_with fail
      refine (each_any _ _).mono ?_
      rintro e w' ⟨rfl, rfl⟩
      obtain ⟨Wf, hWf⟩ : ∃ Wf, We.alloc (.cells #[.pointer (some ⟨b2, 0, none⟩)] 23) = Wf := ⟨_, rfl⟩
      have hBf : Below We.heap.size We Wf := by rw [← hWf]; exact (Below.refl _ We).alloc (Nat.le_refl _) _
      have hsf : Wf.heap.size = We.heap.size + 1 := by rw [← hWf]; simp
      have hbx2 : Wf.cell? ⟨We.heap.size, 0, none⟩ = some (.pointer (some ⟨b2, 0, none⟩)) := by rw [← hWf]; exact cell_of_one (heap_alloc_new We _)
      rw [hWf]
      clear hWf
      have hne := hBe.size
      have HRDY2 : Hid (Ready Wf (wc.heap.size + 1) b2 v2) := Lib.hid ⟨fun k hk => by have := hSe.foot_lt k hk; omega, by omega, fun hm => by have := hFe _ hm; omega⟩
      have HFe := Lib.hid hFe
      have HSf := Lib.hid (hSe.below hBf)
      have hBlf : Below Wl.heap.size Wl Wf := hBe.trans (hBf.mono hne)
      have HBf := Lib.hid (HBl.out.trans (hBlf.mono hnl'))
      have HIf := Lib.hid (HIl.out.below hBlf)
      have HLf := Lib.hid (HL7.out.below hBlf)
      have HLT7 := Lib.hid HL7.out.lt
      have h3f := (hBlf.block _ (by omega)).trans h3l
      have h8f := (hBlf.block _ (by omega)).trans h8l
      have h7f := (hBlf.block _ (by omega)).trans hb7
      have hKf := (hBlf.block _ (lt_of_block hK)).trans hK
      have hKl := lt_of_block hK
      clear hSe hFe hBe hBf hBlf h3l h8l hb7 hK HIl HL7
      go_wp2_with fail
      refine (wpIn_wide (n := 8)).1 ?_
      refine range_set_ex 8 (by decide) rfl rfl (some ⟨b2, 0, none⟩) v2 (ofW L) hbx2 (At.of HSf.out) (fun C xs W' => Turned Wf (wc.heap.size + 1) b2 v2 C xs W') (fun _ _ _ _ => False) ?hI2 (fun _ _ _ _ _ h _ => h) ?hIT2 ?h02 ?hab2 ?hdone2 (fun _ _ _ _ _ h _ => h.elim)
      case hI2 =>
        intro C xs
        exact Turned.steady HRDY2.out
      case hIT2 =>
        intro C xs W1 h
        exact HT.out.below (HBf.out.trans (h.1.toBelow (fun k hk => by
          rcases List.mem_cons.1 hk with rfl | hk
          · omega
          · have := HFe.out k hk; omega) HBf.out.size)) HTAB
      case h02 =>
        intro C W1 hC hb1
        refine ⟨Chg.of_below hb1, none, 0, 0, (hb1.block _ (by omega)).trans h8f, LineAt.nil _, (fun j hj => by cases hj), v2, ofW L, HSf.out.below hb1, fun j hj => ⟨.inl hj, ?_, fun hm => by cases hm⟩⟩
        have := HSf.out.foot_lt j hj
        omega
      case hab2 =>
        apply Exists.intro
        refine ⟨?hassign2, ?hbody2⟩
        case hassign2 =>
          intro x W K hK
          gi_wp2
          exact hK
        case hbody2 =>
          intro C pre x Wr hC hCW hD1 hI hpre
          have hx : x < 65536 := elems_lt (ofW L) hsh x (hpre.subset (by simp))
          have hn : pre.length ≤ 100000 := by
            have h1 := hpre.length_le
            simp only [List.length_append, List.length_cons, List.length_nil] at h1
            omega
          obtain ⟨A, c, hc1, A', c', W2, hr, hc2, hf2, hK, hI2⟩ := hI.push HRDY2.out hD1 hCW hC x hx hn 22
          have HR := Lib.hid hr
          have HK := Lib.hid hK
          have HI2 := Lib.hid hI2
          clear hr hK hI2 hI hpre
          gi_wp2_with (gi_at_builtin; refine wpListIn_append_run _ rfl _ _ _ _ rfl _ _ rfl rfl _ _ HR.out ?_)
          exact ⟨HK.out, HI2.out⟩
      case hdone2 =>
        intro C2 Wm hT2 hK2
        obtain ⟨hC2, A8, q8, c8, hb8, hl8, hj8, _⟩ := hT2
        have he8 := HEL.out
        unfold elemsZ at he8
        rw [he8] at hl8
        obtain rfl : q8 = p := by have h1 := hl8.1; rw [cellsI_length, HP.out] at h1; omega
        have hfit : Fit xs0 := HIf.out.2.1
        have HI8 := Lib.hid (hl8.ints hfit)
        have hkeep : ∀ k, k < Wl.heap.size → k ≠ wc.heap.size + 1 → Wm.heap[k]? = Wf.heap[k]? := fun k h1 h2 => hC2.same k (by omega) (by rw [List.mem_cons, not_or]; exact ⟨h2, fun hm => by have := HFe.out k hm; omega⟩)
        have h3m := (hkeep W.heap.size (by omega) (by omega)).trans h3f
        have h7m := (hkeep wc.heap.size (by omega) (by omega)).trans h7f
        have hKm := (hkeep W0.heap.size hKl (by omega)).trans hKf
        have HI7 : Hid (Ints Wm A7 q7 (xs0.take q7)) := Lib.hid ((HLf.out.same hC2.size (fun k hk => hkeep k (HLT7.out k hk) (by have := HJ7.out k hk; omega))).ints (fun z hz => hfit z (List.mem_of_mem_take hz)))
        have HI6m : Hid (Ints Wm A6 q8 xs0) := Lib.hid (HIf.out.same hC2.size (fun bb off e hlt => by have := HJ6.out bb (mem_blk.2 ⟨_, e, rfl⟩); exact hkeep bb (by omega) (by omega)))
        have HI6t := Lib.hid (HI6m.out.take hMp)
        have HBm : Hid (Below W.heap.size W Wm) := Lib.hid (HBf.out.trans (hC2.toBelow (fun k hk => by
          rcases List.mem_cons.1 hk with rfl | hk
          · omega
          · have := HFe.out k hk; omega) HBf.out.size))
        have hfin : Fin W Wm Wm := ⟨HBm.out, Below.refl _ _⟩
        have hWm : W.heap.size ≤ Wm.heap.size := HBm.out.size
        have HS1 := Lib.hid (same_fin (W := W) (c1 := c7) (c2 := c6) HI7.out HI6t.out (by omega))
        have HS2 := Lib.hid (same_fin (W := W) (c1 := c8) (c2 := c6) HI8.out HI6m.out (by omega))
        have HLV := Lib.hid (fun w h => lives_fin (W := W) (Wm := Wm) w h hWm)
        have HK1 := Lib.hid hKm
        have HK2 := Lib.hid hK2
        have H3 := Lib.hid h3m
        have H7 := Lib.hid h7m
        have H8 := Lib.hid hb8
        have hnW : W.heap.size ≤ Wf.heap.size := HBf.out.size
        have hx3 := cell_of_one h3m
        have hx7 := cell_of_one h7m
        have hx8 := cell_of_one hb8
        have hqc : (q7 : Int) ≤ (c6 : Int) := by omega
        have hWf : W0.heap.size < Wf.heap.size := by omega
        have hWW0 : W.heap.size ≤ W0.heap.size := HB0.out.size
        clear hC2 hl8 hj8 he8 hfit hkeep h3m h7m hKm hb8 hK2 hKf h3f h7f h8f hbx2
        go_upto_region 21 with fail
        clear HCUT HI HT HF1 HB1 HFL HBb HTW HP HB2 HJ6 HBc HB0 HS0 HI0 HRDY HEL HPRE HJ7 HBl HRDY2 HFe HSf HBf HIf HLf HLT7 HI8 HI7 HI6m HI6t HBm
        rcases A6 with _ | a6
        all_goals
          refine wp_region_noPanic ?_
          go_region_with (first
            | (go_at_call 14; with_reducible refine (HS1.out _ (by first | exact hfin | exact hfin.drew | exact hfin.drew.drew | exact hfin.drew.drew.drew)).mono ?_; rintro e w' ⟨rfl, hfin⟩; have hx8 := hfin.cell H8.out)
            | (go_at_call 14; with_reducible refine (HS2.out _ (by first | exact hfin | exact hfin.drew | exact hfin.drew.drew)).mono ?_; rintro e w' ⟨rfl, hfin⟩)
            | (go_at_call 18; with_reducible refine (HLV.out _ (by first | exact hfin | exact hfin.drew | exact hfin.drew.drew)).mono ?_; rintro e w' ⟨rfl, hfin⟩))
          all_goals
            refine NoPanic.normal ?_
            have hk2 := (hfin.lies.block Wf.heap.size (lt_of_block HK2.out)).trans HK2.out
            have hk1 := (hfin.lies.block W0.heap.size (lt_of_block HK1.out)).trans HK1.out
            have HEND : Hid (Fin W Wm _) := Lib.hid hfin
            rw [hsf] at hk2
            rw [hs0] at hk1
            have HKA := Lib.hid hk2
            have HKB := Lib.hid hk1
            clear hk1 hk2
            go_wp2
            refine ⟨by simp, .inl ⟨_, _, rfl, run_takeDeferred HKA.out, ?_⟩⟩
            refine ⟨by simp, .inl ⟨_, _, rfl, run_takeDeferred ((World.putObj_heap_other (by omega)).trans HKB.out), ?_⟩⟩
            have hb := (HEND.out.was.trans ((chg_putObj _ (We.heap.size + 1) (.deferred none)).toBelow (fun k hk => by rw [List.mem_singleton] at hk; omega) HEND.out.was.size))
            have hb2 := (hb.trans ((chg_putObj _ (wc.heap.size + 3) (.deferred none)).toBelow (fun k hk => by rw [List.mem_singleton] at hk; omega) hb.size))
            exact ⟨_, results_tmp rfl _ _ _, rfl, hb2⟩
end Go.Proofs.YtjkcomoadpileaaDoor
