/-
  The contract of the disk's Used.
-/
import Derived.Test.YtnjnlcmpfnabiaaDg
import Derived.Test.YtnjnlcmpfnabiaaDm
namespace Go.Proofs.Ytnjnlcmpfnabiaa
open Go.RowKit Go.Shelf
attribute [local go_sem] Oper.semAt_some
set_option linter.unusedVariables false
set_option maxRecDepth 100000

/-- The bytes of all files, by a length for each. -/
def sumLen (ln : Value → Nat) (ps : List (ByteArray × Value)) : Nat := (ps.map fun p => ln p.2).sum
theorem sumLen_snoc (ln : Value → Nat) (ps : List (ByteArray × Value)) (p : ByteArray × Value) : sumLen ln (ps ++ [p]) = sumLen ln ps + ln p.2 := by unfold sumLen; simp
theorem sumLen_prefix (ln : Value → Nat) {ps all : List (ByteArray × Value)} (h : ps <+: all) : sumLen ln ps ≤ sumLen ln all := by
  obtain ⟨t, rfl⟩ := h
  unfold sumLen
  simp
/-- Each file of a directory lies in memory, of that length. -/
def FilesIn (w : World) (ln : Value → Nat) (ps : List (ByteArray × Value)) : Prop := ∀ p ∈ ps, ∃ f num A c sure, p.2 = .pointer (some ⟨f, 0, none⟩) ∧ FileAt w f num A (ln p.2) c sure
structure SumAt (w0 : World) (ln : Value → Nat) (b : Nat) (pre : List (ByteArray × Value)) (W : World) : Prop where
  chg : Chg [b] w0 W
  cnt : W.heap[b]? = some (.cells #[.int .i64 (sumLen ln pre : Int)] 3 (0, 0))
theorem SumAt.steady {w0 : World} {ln : Value → Nat} {b : Nat} {pre : List (ByteArray × Value)} (hb : b < w0.heap.size) : SteadyIt w0.heap.size (SumAt w0 ln b pre) := by
  rintro W W' ⟨h1, h2⟩ hc
  exact ⟨h1.andThen hc (fun k hk => by simp only [List.mem_cons, List.not_mem_nil, or_false] at hk; omega), (hc.same b (lt_of_block h2) (by simp only [List.mem_cons, List.not_mem_nil, or_false]; omega)).trans h2⟩
set_option maxHeartbeats 3200000 in
theorem used_any (w : World) (d : Nat) (A : Option Addr) (n c : Nat) (ps : List (ByteArray × Value)) (h : RowAtS w d 2 A n c ps) (hn : n ≤ 90000) (ln : Value → Nat) (hfs : FilesIn w ln ps) (hsum : sumLen ln ps ≤ 1000000000000) :
    Calls Try.prog 35 #[.pointer (some ⟨d, 0, none⟩)] w fun e w' => e = .returned (.int .i64 (sumLen ln ps : Int)) ∧ Below w.heap.size w w' := by
  have HH := Lib.hid h
  have HFS := Lib.hid hfs
  have hqs := World.block_lt_of_cell? w _ h.cell
  have HSH : Hid (∀ p ∈ ps, ∃ a : Option Addr, p.2 = .pointer a) := Lib.hid fun p hp => by obtain ⟨f, _, _, _, _, e, _⟩ := hfs p hp; exact ⟨_, e⟩
  have HSUM := Lib.hid hsum
  clear h hfs hsum
  refine (callsIn_wide (n := 8)).1 ?_
  refine callsIn_of_wp_marks Try.func35 rfl trivial ?_ rfl
  simp only [Try.ntmps35, List.size_toArray, List.length_cons, List.length_nil, Nat.reduceAdd, Nat.reduceSub, Array.replicate_succ, Array.replicate_zero, List.push_toArray, List.append_toArray, List.nil_append, List.cons_append]
  refine wpIn_wide.2 ?_
  obtain ⟨hh, hhe⟩ : ∃ hh, w.heap.size = hh := ⟨_, rfl⟩
  obtain ⟨W2, hW2⟩ : ∃ W2, w.alloc (.cells #[.int .i64 0] 3) = W2 := ⟨_, rfl⟩
  have hB2 : Below w.heap.size w W2 := by rw [← hW2]; exact (Below.refl _ w).alloc (Nat.le_refl _) _
  have hs2 : W2.heap.size = hh + 1 := by rw [← hW2, ← hhe]; simp
  have k0 : W2.heap[hh]? = some (.cells #[.int .i64 0] 3 (0, 0)) := by
    have := heap_alloc_new w (.cells #[.int .i64 0] 3 (0, 0))
    rw [hhe] at this
    rw [← hW2]
    exact this
  have hid : W2.setCell ⟨hh, 0, none⟩ (.int .i64 0) = W2 := setCell_id k0 rfl
  have y0 := cell_of_one k0
  have y1 := free_of_one k0
  have HK0 := Lib.hid k0
  have HB2 := Lib.hid hB2
  have HHE := Lib.hid hhe
  have HN := Lib.hid (dnames_any W2 d)
  have HS2 := Lib.hid hs2
  clear k0 hB2 hs2
  go_wp2_with fail
  refine HN.out.mono ?_
  rintro e w' ⟨rfl, rfl⟩
  clear y0 y1 hid
  go_wp2_with fail
  refine (reach_S _ _).mono ?_
  rintro e w' ⟨rfl, rfl⟩
  obtain ⟨W3, hW3⟩ : ∃ W3, W2.alloc (.cells #[.pointer (some ⟨d, 2, none⟩)] 97) = W3 := ⟨_, rfl⟩
  have hs2 := HS2.out
  have hB3 : Below W2.heap.size W2 W3 := by rw [← hW3]; exact (Below.refl _ W2).alloc (Nat.le_refl _) _
  have hs3 : W3.heap.size = hh + 2 := by rw [← hW3]; simp [hs2]
  have hbx : W3.heap[hh + 1]? = some (.cells #[.pointer (some ⟨d, 2, none⟩)] 97 (0, 0)) := by
    have := heap_alloc_new W2 (.cells #[.pointer (some ⟨d, 2, none⟩)] 97 (0, 0))
    rw [hs2, hW3] at this
    exact this
  rw [hs2, hW3]
  have HBX := Lib.hid hbx
  have HB3 : Hid (Below w.heap.size w W3) := Lib.hid (HB2.out.trans (hB3.mono (by have := HB2.out.size; omega)))
  have HJ0 := Lib.hid ((hB3.block hh (by omega)).trans HK0.out)
  have hq3 : d < hh := by have := HHE.out; have h5 : d < w.heap.size := hqs; omega
  clear hW2 hW3 hbx hB3 HK0
  have HIT : Hid (∀ W1, Below W3.heap.size W3 W1 → IterOk Try.prog 69 #[.pointer (some ⟨hh + 1, 0, none⟩)] arS 2 ps W1) := Lib.hid (fun W1 hb => by
    have hbw := HB3.out.trans (hb.mono (by have := HHE.out; omega))
    exact each1_S W1 (hh + 1) (some ⟨d, 2, none⟩) A n c ps (cell_of_one ((hb.block _ (by omega)).trans HBX.out)) (.inr ⟨d, 2, rfl, (hbw.cell (p := ⟨d, 2, none⟩) hqs).trans HH.out.cell, HH.out.row.below hbw⟩) (by omega) HSH.out)
  go_wp2_with fail
  refine (wpIn_wide (n := 8)).1 ?_
  refine range_it 8 2 (by decide) 69 #[.pointer (some ⟨hh + 1, 0, none⟩)] arS rfl eachS_enters (fun _ => rfl) ps HIT.out (fun C pre W => SumAt W3 ln hh pre W) (fun _ _ _ _ => False) (fun C xs => SumAt.steady (by omega)) (fun _ _ _ _ _ h _ => h) ?h0 ?hab ?hdone (fun _ _ _ _ _ h _ => h.elim)
  case h0 =>
    intro C W1 hC hb1
    exact ⟨Chg.of_below hb1, (hb1.block _ (by omega)).trans HJ0.out⟩
  case hab =>
    apply Exists.intro
    refine ⟨?hassign, ?hbody⟩
    case hassign =>
      intro x W K hK
      unfold arS encS
      gi_wp2
      exact hK
    case hbody =>
      intro C pre x Wr hC hCW hD1 hI hpre
      obtain ⟨x, v⟩ := x
      have hmem : (x, v) ∈ ps := hpre.subset (by simp)
      obtain ⟨f, num, FA, fc, sure, hv, hf⟩ := HFS.out _ hmem
      have hle := Nat.le_trans (sumLen_prefix ln hpre) HSUM.out
      have hsn := sumLen_snoc ln pre (x, v)
      simp only at hv hf hsn
      subst hv
      have hfl : f < hh := by have := lt_of_block hf; have := HHE.out; omega
      have hf3 := hf.same (HB3.out.block f (lt_of_block hf))
      have hfr := hf3.same (hI.chg.same f (by omega) (by simp only [List.mem_cons, List.not_mem_nil, or_false]; omega))
      obtain ⟨L, hL⟩ : ∃ L, ln (.pointer (some ⟨f, 0, none⟩)) = L := ⟨_, rfl⟩
      obtain ⟨S, hS⟩ : ∃ S, sumLen ln pre = S := ⟨_, rfl⟩
      rw [hL] at hfr hsn
      rw [hS] at hsn
      rw [hsn] at hle
      have hcn := hI.cnt
      rw [hS] at hcn
      have c1 := hfr.c1
      have c2 := cell_of_one hcn
      have c3 := free_of_one hcn
      have hls : (L : Int) + (S : Int) ≤ 1000000000000 := by omega
      have hwr : IntKind.i64.wrap ((S : Int) + (L : Int)) = (S : Int) + (L : Int) := by rw [IntKind.wrap_i64]; omega
      have HSTEP : Hid (KeepsIt W3.heap.size C Wr (Wr.setCell ⟨hh, 0, none⟩ (.int .i64 (IntKind.i64.wrap ((S : Int) + (L : Int))))).drew ∧ SumAt W3 ln hh (pre ++ [(x, .pointer (some ⟨f, 0, none⟩))]) (Wr.setCell ⟨hh, 0, none⟩ (.int .i64 (IntKind.i64.wrap ((S : Int) + (L : Int))))).drew) := Lib.hid (by
        rw [hwr]
        have hcc : Chg [hh] Wr (Wr.setCell ⟨hh, 0, none⟩ (.int .i64 ((S : Int) + (L : Int)))).drew := ((Chg.refl _ Wr).setCell hh 0 _ (.inl (by simp))).drew
        refine ⟨hcc.keepsIt (by omega) hCW (by simp only [List.mem_cons, List.not_mem_nil, or_false]; omega) (by simp only [List.mem_cons, List.not_mem_nil, or_false]; omega) (by simp only [List.mem_cons, List.not_mem_nil, or_false]; omega), hI.chg.trans hcc, ?_⟩
        rw [hsn]
        have := one_setCell (u := .int .i64 ((S : Int) + (L : Int))) hcn
        show (Wr.setCell ⟨hh, 0, none⟩ (.int .i64 ((S : Int) + (L : Int)))).heap[hh]? = _
        rw [this]
        simp)
      clear hwr
      clear hmem hf hf3 hfr hcn hsn hle hI hpre hL hS
      gi_wp2_with fail
      gi_region
      all_goals
        try gi_wp2
        exact HSTEP.out
  case hdone =>
    intro C Wl hI hK
    have hbl := hI.chg
    have hcn := hI.cnt
    have y1 := cell_of_one hcn
    have HE2 : Hid (Wl.heap[W3.heap.size]? = some (.deferred (some []))) := Lib.hid hK
    have HE4 : Hid (Below hh W3 Wl) := Lib.hid (hbl.toBelow (fun k hk => by simp only [List.mem_cons, List.not_mem_nil, or_false] at hk; omega) (by omega))
    clear hI hK hbl hcn
    go_wp2_with fail
    have hcp := chg_putObjIt Wl W3.heap.size (.deferred none)
    have hsz : hh + 2 ≤ Wl.heap.size := by have := HE4.out.size; omega
    refine ⟨by simp, .inl ⟨_, _, rfl, run_takeDeferred HE2.out, ?_⟩⟩
    refine ⟨_, results_tmp rfl _ _ _, rfl, ?_⟩
    rw [HHE.out]
    have h3 := HB3.out
    rw [HHE.out] at h3
    exact h3.trans (HE4.out.trans (hcp.toBelow (fun k hk => by simp only [List.mem_cons, List.not_mem_nil, or_false] at hk; omega) (by omega)))
end Go.Proofs.Ytnjnlcmpfnabiaa
