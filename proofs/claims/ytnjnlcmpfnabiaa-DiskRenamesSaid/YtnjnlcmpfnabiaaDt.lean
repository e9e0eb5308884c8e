/-
  The contract of the disk's forget.
-/
import Derived.Test.YtnjnlcmpfnabiaaDs
namespace Go.Proofs.Ytnjnlcmpfnabiaa
open Go.RowKit Go.Shelf Go.Maps
attribute [local go_sem] Oper.semAt_some
set_option linter.unusedVariables false
set_option maxRecDepth 100000

/-- The files of a directory's pairs, each with its number. -/
def NumsIn (w : World) (nm : Value → Nat) (ps : List (ByteArray × Value)) : Prop := ∀ p ∈ ps, ∃ f A n c sure, p.2 = Value.pointer (some ⟨f, 0, none⟩) ∧ FileAt w f (nm p.2) A n c sure ∧ nm p.2 ≤ 1000000
structure MarkAt (w0 : World) (nm : Value → Nat) (M : Nat) (pre : List (ByteArray × Value)) (W : World) : Prop where
  chg : Chg [M] w0 W
  nums : NumsAt W M (pre.map fun p => nm p.2)
theorem MarkAt.steady {w0 : World} {nm : Value → Nat} {M : Nat} {pre : List (ByteArray × Value)} (hb : M < w0.heap.size) : SteadyIt w0.heap.size (MarkAt w0 nm M pre) := by
  rintro W W' ⟨h1, h2⟩ hc
  exact ⟨h1.andThen hc (fun k hk => by simp only [List.mem_cons, List.not_mem_nil, or_false] at hk; omega), h2.below (hc.same M h2.lt (by simp only [List.mem_cons, List.not_mem_nil, or_false]; omega))⟩
set_option maxHeartbeats 3200000 in
theorem forget_any (w : World) (d : Nat) (b : DBox) (hD : DBoxAt w d b) (A : Option Addr) (n c : Nat) (hnow : b.now = .slice A n c) (ps : List (ByteArray × Value)) (hR : RowG encS ltS w A n c ps) (hn : n ≤ 90000) (nm : Value → Nat) (hps : NumsIn w nm ps)
    (F : Option Addr) (fn fc : Nat) (hfi : b.files = .slice F fn fc) (fs : List Value) (hL : SLine 1 w F fn fc fs) (hfn : fn ≤ 100000) (hfs : FsIn w nm fs) (hfF : ∀ f, Value.pointer (some ⟨f, 0, none⟩) ∈ fs → f ∉ blk F) (hdF : d ∉ blk F) :
    Calls Try.prog 64 #[.pointer (some ⟨d, 0, none⟩)] w fun e w' => (∃ v, e = .returned v) ∧ ∃ k, k = (fs.filter (keepV nm (ps.map fun p => nm p.2))).length ∧ DBoxAt w' d { b with files := .slice F k fc } ∧ SLine 1 w' F k fc (fs.filter (keepV nm (ps.map fun p => nm p.2))) ∧ Chg (d :: blk F) w w' := by
  have hmm := @run_makeMap Try.prog
  have HD := Lib.hid hD
  have hdl := hD.lt
  refine (callsIn_wide (n := 8)).1 ?_
  refine callsIn_of_wp_marks Try.func64 rfl trivial ?_ rfl
  simp only [Try.ntmps64, List.size_toArray, List.length_cons, List.length_nil, Nat.reduceAdd, Nat.reduceSub, Array.replicate_succ, Array.replicate_zero, List.push_toArray, List.append_toArray, List.nil_append, List.cons_append]
  refine wpIn_wide.2 ?_
  obtain ⟨hh, hhe⟩ : ∃ hh, w.heap.size = hh := ⟨_, rfl⟩
  obtain ⟨W2, hW2⟩ : ∃ W2, (w.alloc (.map #[] 0)).alloc (.cells #[.map (some hh)] 127) = W2 := ⟨_, rfl⟩
  have hB2 : Below w.heap.size w W2 := by rw [← hW2]; exact ((Below.refl _ w).alloc (Nat.le_refl _) _).alloc (by simp) _
  have hs2 : W2.heap.size = hh + 2 := by rw [← hW2, ← hhe]; simp
  have hM2 : NumsAt W2 hh [] := by
    have h1 := NumsAt.new w
    rw [hhe] at h1
    rw [← hW2]
    exact h1.below (heap_alloc_old _ _ (by simp; omega))
  have k1 : W2.heap[hh + 1]? = some (.cells #[.map (some hh)] 127 (0, 0)) := by
    have := heap_alloc_new (w.alloc (.map #[] 0)) (.cells #[.map (some hh)] 127 (0, 0))
    rw [World.size_alloc, hhe] at this
    rw [← hW2]
    exact this
  have HH := Lib.hid (And.intro hR (And.intro hps (And.intro hL (And.intro hfs (And.intro hfF hdF)))))
  have HK1 := Lib.hid k1
  have HM2 := Lib.hid hM2
  have HB2 := Lib.hid hB2
  have HHE := Lib.hid hhe
  have HS2 := Lib.hid hs2
  have HNOW := Lib.hid (And.intro hnow hfi)
  have HSH : Hid (∀ p ∈ ps, ∃ a : Option Addr, p.2 = .pointer a) := Lib.hid fun p hp => by obtain ⟨f, _, _, _, _, e, _⟩ := hps p hp; exact ⟨_, e⟩
  have hplen : ps.length = n := hR.len
  have HPL := Lib.hid hplen
  clear hR hps hL hfs hfF hdF k1 hM2 hB2 hs2 hnow hfi hD hplen
  go_wp2_with fail
  refine (reach_S _ _).mono ?_
  rintro e w' ⟨rfl, rfl⟩
  obtain ⟨W3, hW3⟩ : ∃ W3, W2.alloc (.cells #[.pointer (some ⟨d, 2, none⟩)] 97) = W3 := ⟨_, rfl⟩
  have hs2 := HS2.out
  have hB3 : Below W2.heap.size W2 W3 := by rw [← hW3]; exact (Below.refl _ W2).alloc (Nat.le_refl _) _
  have hs3 : W3.heap.size = hh + 3 := by rw [← hW3]; simp [hs2]
  have hbx : W3.heap[hh + 2]? = some (.cells #[.pointer (some ⟨d, 2, none⟩)] 97 (0, 0)) := by
    have := heap_alloc_new W2 (.cells #[.pointer (some ⟨d, 2, none⟩)] 97 (0, 0))
    rw [hs2, hW3] at this
    exact this
  rw [hs2, hW3]
  have HBX := Lib.hid hbx
  have HB3 : Hid (Below w.heap.size w W3) := Lib.hid (HB2.out.trans (hB3.mono (by have := HB2.out.size; omega)))
  have HJ1 := Lib.hid ((hB3.block (hh + 1) (by omega)).trans HK1.out)
  have HM3 : Hid (NumsAt W3 hh []) := Lib.hid (HM2.out.below (hB3.block hh (by omega)))
  have hq3 : d < hh := by have := HHE.out; omega
  clear hW2 hW3 hbx hB3 HK1 hmm
  have HIT : Hid (∀ W1, Below W3.heap.size W3 W1 → IterOk Try.prog 69 #[.pointer (some ⟨hh + 2, 0, none⟩)] arS 2 ps W1) := Lib.hid (fun W1 hb => by
    have hbw := HB3.out.trans (hb.mono (by have := HHE.out; omega))
    have hc2 : W1.cell? ⟨d, 2, none⟩ = some b.now := (HD.out.below hbw).cell 2 _ rfl
    rw [HNOW.out.1] at hc2
    exact each1_S W1 (hh + 2) (some ⟨d, 2, none⟩) A n c ps (cell_of_one ((hb.block _ (by omega)).trans HBX.out)) (.inr ⟨d, 2, rfl, hc2, HH.out.1.below hbw⟩) (by omega) HSH.out)
  go_wp2_with fail
  refine (wpIn_wide (n := 8)).1 ?_
  refine range_it 8 2 (by decide) 69 #[.pointer (some ⟨hh + 2, 0, none⟩)] arS rfl eachS_enters (fun _ => rfl) ps HIT.out (fun C pre W => MarkAt W3 nm hh pre W) (fun _ _ _ _ => False) (fun C xs => MarkAt.steady (by omega)) (fun _ _ _ _ _ h _ => h) ?h0 ?hab ?hdone (fun _ _ _ _ _ h _ => h.elim)
  case h0 =>
    intro C W1 hC hb1
    exact ⟨Chg.of_below hb1, HM3.out.below (hb1.block _ (by omega))⟩
  case hab =>
    apply Exists.intro
    refine ⟨?hassign, ?hbody⟩
    case hassign =>
      intro x W K hK
      unfold arS encS
      gi_wp2
      exact hK
    case hbody =>
      intro C pre x Wr hC hCW hD1 hI hpre
      obtain ⟨x, v⟩ := x
      have hmem : (x, v) ∈ ps := hpre.subset (by simp)
      obtain ⟨f, fA, fn', fc', sure, hv, hf, hnum⟩ := HH.out.2.1 _ hmem
      simp only at hv hf hnum
      subst hv
      have hfl : f < hh := by have := lt_of_block hf; have := HHE.out; omega
      have hf3 := hf.same (HB3.out.block f (lt_of_block hf))
      have hfr := hf3.same (hI.chg.same f (by omega) (by simp only [List.mem_cons, List.not_mem_nil, or_false]; omega))
      have hprel : pre.length ≤ 90000 := by have h1 := hpre.length_le; have := HPL.out; simp at h1; omega
      obtain ⟨num, hnm⟩ : ∃ num, nm (.pointer (some ⟨f, 0, none⟩)) = num := ⟨_, rfl⟩
      rw [hnm] at hfr hnum
      have c0 := hfr.c0
      have c1 : Wr.cell? ⟨hh + 1, 0, none⟩ = some (.map (some hh)) := cell_of_one ((hI.chg.same (hh + 1) (by omega) (by simp)).trans HJ1.out)
      obtain ⟨w2, hrun, hN2, hC2⟩ := (show NumsAt Wr.drew hh (pre.map fun p => nm p.2) from hI.nums).put num (by omega) (by simp; omega)
      have HSTEP : Hid (KeepsIt W3.heap.size C Wr w2 ∧ MarkAt W3 nm hh (pre ++ [(x, .pointer (some ⟨f, 0, none⟩))]) w2) := Lib.hid (by
        have hcc : Chg [hh] Wr w2 := (Chg.refl _ Wr).drew.trans hC2
        refine ⟨hcc.keepsIt (by omega) hCW (by simp; omega) (by simp; omega) (by simp; omega), hI.chg.trans hcc, ?_⟩
        rw [List.map_append, List.map_cons, List.map_nil, hnm]
        exact hN2)
      clear hmem hf hf3 hfr hI hpre hN2 hC2 hnm
      gi_wp2_with fail
      gi_region
      all_goals
        try gi_wp2
        exact HSTEP.out
  case hdone =>
    intro C Wl hI hK
    rw [hs3] at hK
    have hlt : hh + 3 < Wl.heap.size := lt_of_block hK
    have hBl : Below hh W3 Wl := hI.chg.toBelow (fun k hk => by simp only [List.mem_singleton] at hk; omega) (by omega)
    have hBw : Below w.heap.size w Wl := HB3.out.trans (hBl.mono (by have := HHE.out; omega))
    obtain ⟨hR, hps, hL, hfs, hfF, hdF⟩ := HH.out
    have hFl : ∀ k ∈ blk F, k < hh := fun k hk => by have := hL.lt k hk; have := HHE.out; omega
    have c1 : Wl.cell? ⟨hh + 1, 0, none⟩ = some (.map (some hh)) := cell_of_one ((hI.chg.same (hh + 1) (by omega) (by simp)).trans HJ1.out)
    have HDEL := Lib.hid (delete_any Wl F fn fc fs (hL.below hBw) (by omega) nm (hfs.below hBw) hfF (hh + 1) hh c1 (fun hm => by have := hFl _ hm; omega) (fun hm => by have := hFl _ hm; omega) (ps.map fun p => nm p.2) hI.nums)
    have hDl := HD.out.below hBw
    have q0 : Wl.cell? ⟨d, 0, none⟩ = some b.files := hDl.cell 0 _ rfl
    rw [HNOW.out.2] at q0
    have hmf : ∀ (fn : Fn) (first cap : Array Value) (w : World), (Instr.makeFunc fn first cap).run Try.prog w = .ok (.func fn first cap) w := fun _ _ _ _ => rfl
    obtain ⟨kk, hkk⟩ : ∃ kk, (fs.filter (keepV nm (ps.map fun p => nm p.2))).length = kk := ⟨_, rfl⟩
    rw [hkk] at HDEL
    have HKK := Lib.hid hkk
    have HX := Lib.hid (And.intro hDl (And.intro hBw (And.intro hK (And.intro hFl hdF))))
    have hszl : hh + 3 ≤ Wl.heap.size := by have := hBl.size; omega
    clear hBl hBw hR hps hL hfs hfF hdF hFl hDl hK hI hkk c1
    go_wp2_with fail
    refine HDEL.out.mono ?_
    rintro e w2 ⟨rfl, hl2, hc2⟩
    obtain ⟨hDl, hBw, hK, hFl, hdF⟩ := HX.out
    have hD2 := hDl.chg hc2 hdF
    have z0 : w2.cell? ⟨d, 0, none⟩ = some b.files := hD2.cell 0 _ rfl
    have zf := hD2.free 0
    rw [HNOW.out.2] at z0
    obtain ⟨w4, hw4⟩ : ∃ w4, w2.setCell ⟨d, 0, none⟩ (.slice F kk fc) = w4 := ⟨_, rfl⟩
    have hD4 : DBoxAt w4 d { b with files := .slice F kk fc } := by rw [← hw4]; exact hD2.set 0 (.slice F kk fc) _ rfl
    have hc4 : Chg [d] w2 w4 := by rw [← hw4]; exact (Chg.refl _ w2).setCell d 0 _ (.inl (by simp))
    have hl4 := hl2.chg hc4 (fun k hk hm => by rw [List.mem_singleton] at hm; rw [hm] at hk; exact hdF hk)
    have hcp := chg_putObjIt w4 (hh + 3) (.deferred none)
    have hK4 : w4.heap[hh + 3]? = some (.deferred (some [])) := (hc4.same _ (by have := hc2.size; omega) (by simp only [List.mem_singleton]; omega)).trans ((hc2.same _ (by omega) (fun hm => by have := hFl _ hm; omega)).trans hK)
    have HFIN : Hid (DBoxAt (w4.putObj (hh + 3) (.deferred none)) d { b with files := .slice F kk fc } ∧ SLine 1 (w4.putObj (hh + 3) (.deferred none)) F kk fc (fs.filter (keepV nm (ps.map fun p => nm p.2))) ∧ Chg (d :: blk F) w (w4.putObj (hh + 3) (.deferred none))) := Lib.hid (by
      refine ⟨hD4.chg hcp (by simp only [List.mem_singleton]; omega), hl4.chg hcp (fun k hk hm => by have := hFl k hk; simp only [List.mem_singleton] at hm; omega), ?_⟩
      have := HHE.out
      refine (((Chg.of_below hBw).andThen hc2 (fun k hk => .inl (List.mem_cons_of_mem _ hk))).andThen hc4 (fun k hk => .inl (by rw [List.mem_singleton] at hk; rw [hk]; exact List.mem_cons_self ..))).andThen hcp (fun k hk => .inr (by simp only [List.mem_singleton] at hk; omega)))
    have HK4 := Lib.hid hK4
    clear hl2 hc2 hD2 hD4 hc4 hl4 hcp hK4 hDl hBw hK hFl hdF HDEL
    go_wp2_with fail
    refine ⟨by simp, .inl ⟨_, _, rfl, run_takeDeferred HK4.out, ?_⟩⟩
    exact ⟨_, results_none rfl _ _ _, ⟨_, rfl⟩, kk, HKK.out.symm, HFIN.out⟩
end Go.Proofs.Ytnjnlcmpfnabiaa
