/-
  The contract of the disk's Append, where it adds bytes.
-/
import Derived.Test.YtnjnlcmpfnabiaaDp
namespace Go.Proofs.Ytnjnlcmpfnabiaa
open Go.RowKit
set_option linter.unusedVariables false
set_option maxRecDepth 100000

section
variable {P : Program}
theorem sline_append_big (s : Nat) (w : World) (t e ty : TypeId) (z : Value) (bytes : Nat) (ht : P.underlying t = some (.slice e)) (hinfo : (P.info? e).map (fun i => (i.zero, i.size, i.bytes)) = some (some z, s, bytes)) (hz1 : z.cells.size = s) (hby : bytes ≤ 256)
    (A : Option Addr) (n c : Nat) (xs : List Value) (h : SLine s w A n c xs) (hn : n ≤ 1200000) (x : Value) (m : Nat) (hm : m ≤ 10000000) (hA : A = none → 0 < m) (news : List Value) (hsrc : Src P s t x m news w) :
    ∃ A' c' w', (Builtin.append_ #[t, t] ty #[.slice A n c, x]).run P w = .ok (.slice A' (n + m) c') w' ∧ SLine s w' A' (n + m) c' (xs ++ news) ∧ Chg (blk A) w w' ∧ (∀ k ∈ blk A', k ∈ blk A ∨ w.heap.size ≤ k) ∧ A' ≠ none := by
  obtain ⟨i0, hi, hz0, hs1, hs2⟩ := info_parts hinfo
  have hnl := hsrc.newsLen
  have h1 := h.1
  have hms : (n + m) * s = n * s + m * s := Nat.add_mul ..
  have hlen : (xs ++ news).length = (n + m) * s := by rw [List.length_append, h1, hnl, hms]
  by_cases hroom : n + m ≤ c
  · obtain ⟨g, off, rfl, hg, hc, hf⟩ : ∃ g off, A = some ⟨g, off, none⟩ ∧ g < w.heap.size ∧ (∀ i, i < n * s → w.cell? ⟨g, off + i, none⟩ = xs[i]?) ∧ ∀ i, i < c * s → (w.cell? ⟨g, off + i, none⟩).isSome = true ∧ w.frozen? ⟨g, off + i, none⟩ = false := by
      cases A with
      | none => have := h.2.2.2.1 rfl; have := hA rfl; omega
      | some ad =>
        obtain ⟨g, off, rfl, hg, hc, hf⟩ := h.2.2.2.2 ad rfl
        exact ⟨g, off, rfl, hg, hc, hf⟩
    have hcs : (n + m) * s ≤ c * s := Nat.mul_le_mul_right s hroom
    have hsrc' : Src P i0.size t x m news w := by rw [hs1]; exact hsrc
    have hr := run_append_room_src (P := P) w t t ty e i0 ht hi g off n c x m news hsrc' hroom
      (fun j hj => by
        rw [hs1, Nat.add_assoc]
        exact (hf _ (by omega)).1)
      (fun j hj => by
        rw [hs1, Nat.add_assoc]
        exact (hf _ (by omega)).2)
    rw [hs1] at hr
    refine ⟨_, _, _, hr, ⟨hlen, hroom, h.2.2.1, (fun e => by cases e), fun ad e => ?_⟩, (chg_cells w g (off + n * s) news).weaken (fun k hk => .inl (by simp only [List.mem_singleton] at hk; subst hk; exact mem_blk.2 ⟨_, rfl, rfl⟩)), fun k hk => .inl hk, by simp⟩
    cases e
    refine ⟨g, off, rfl, Nat.lt_of_lt_of_le hg (chg_cells w g (off + n * s) news).size, fun i hi => ?_, fun i hi => ⟨World.isSome_setCells g news (off + n * s) w _ (hf i hi).1, by rw [World.frozen?_setCells]; exact (hf i hi).2⟩⟩
    rcases Nat.lt_or_ge i (n * s) with h2 | h2
    · rw [World.cell?_setCells_out g news (off + n * s) w ⟨g, off + i, none⟩ (fun _ _ => .inl (by show off + i < off + n * s; omega)), hc i h2, List.getElem?_append_left (by omega)]
    · have := World.cell?_setCells_in g news (off + n * s) w (fun j hj => by rw [Nat.add_assoc]; exact (hf _ (by omega)).1) (i - n * s) (by omega)
      rw [show off + n * s + (i - n * s) = off + i from by omega] at this
      rw [this, List.getElem?_append_right (by omega), h1, List.getElem?_eq_getElem]
  · have hold : (Builtin.firstCells i0.size n (.slice A n c)).run P w.drew = .ok xs.toArray w.drew := by
      rw [hs1]
      cases A with
      | none =>
        have h2 := h.2.2.2.1 rfl
        have h3 := h.2.1
        obtain rfl : n = 0 := by omega
        have : xs = [] := List.eq_nil_of_length_eq_zero (by rw [h1, Nat.zero_mul])
        subst this
        exact run_firstCells_none w.drew s 0 0 c
      | some ad =>
        obtain ⟨g, off, rfl, hg, hc, hf⟩ := h.2.2.2.2 ad rfl
        refine run_firstCells_some w.drew s n ⟨g, off, none⟩ n c xs h1 (fun j v hj => ?_)
        have hjn : j < n * s := by rw [← h1]; exact (List.getElem?_eq_some_iff.1 hj).1
        have hadd : (⟨g, off, none⟩ : Addr).add j = ⟨g, off + j, none⟩ := by unfold Addr.add; split <;> simp_all
        rw [hadd]
        exact (hc j hjn).trans hj
    have hfit : Builtin.nextslicecap (n + m) c * i0.bytes ≤ 281474976710656 := growslice_fits (by omega) (by
      have h5 : (n + m) * i0.bytes ≤ 12000000 * 256 := Nat.mul_le_mul (by omega) (by rw [hs2]; exact hby)
      omega)
    have hsrc' : Src P i0.size t x m news w := by rw [hs1]; exact hsrc
    have hr := run_append_grow_src (P := P) w t t ty e i0 z ht hi hz0 A n c xs hold x m news hsrc' (by omega) (by omega) hfit
    have hge := grownCap_ge w (n + m) c e
    have hmx := grownCap_le_maxLen w (n + m) c e (by unfold maxLen; omega)
    generalize grownCap w (n + m) c e = C at *
    generalize hcur : (xs ++ news).toArray ++ Builtin.zeroCells z.cells (C - (n + m)) = cur at *
    have hcs : cur.size = C * s := by
      rw [← hcur, Array.size_append, List.size_toArray, hlen, size_zeroCells, hz1, Nat.sub_mul]
      have : (n + m) * s ≤ C * s := Nat.mul_le_mul_right s hge
      omega
    have hblock : (w.drew.alloc (.cells cur e)).heap[w.heap.size]? = some (.cells cur e (0, 0)) := heap_alloc_new w.drew _
    refine ⟨_, _, _, hr, ⟨hlen, hge, hmx, (fun e => by cases e), fun ad ea => ?_⟩, ((Chg.refl _ w).drew).alloc _, fun k hk => .inr ?_, by simp⟩
    · cases ea
      refine ⟨w.heap.size, 0, rfl, lt_of_block hblock, fun i hi => ?_, fun i hi => ?_⟩
      · rw [Nat.zero_add, cell_of_row _ w.heap.size i cur e (0, 0) hblock, ← hcur, Array.getElem?_append_left (by rw [List.size_toArray, hlen]; exact hi)]
        simp
      · rw [Nat.zero_add]
        refine ⟨?_, frozen_of_row _ w.heap.size i cur e hblock⟩
        rw [cell_of_row _ w.heap.size i cur e (0, 0) hblock, Array.getElem?_eq_getElem (by rw [hcs]; exact hi)]
        rfl
    · obtain ⟨ad, ea, hb⟩ := mem_blk.1 hk
      cases ea
      rw [← hb]
      exact Nat.le_refl _
end
section
variable {w : World} {d : Nat} {b : DBox} {RA : Option Addr} {rn rc : Nat} {ps : List (ByteArray × Value)}
theorem sline_append_all (s : Nat) (w : World) (t e ty : TypeId) (z : Value) (bytes : Nat) (ht : Try.prog.underlying t = some (.slice e)) (hinfo : (Try.prog.info? e).map (fun i => (i.zero, i.size, i.bytes)) = some (some z, s, bytes)) (hz1 : z.cells.size = s) (hby : bytes ≤ 256)
    (A : Option Addr) (n c : Nat) (xs : List Value) (h : SLine s w A n c xs) (hn : n ≤ 1200000) (x : Value) (m : Nat) (hm : m ≤ 10000000) (news : List Value) (hsrc : Src Try.prog s t x m news w) :
    ∃ A' c' w', (Builtin.append_ #[t, t] ty #[.slice A n c, x]).run Try.prog w = .ok (.slice A' (n + m) c') w' ∧ SLine s w' A' (n + m) c' (xs ++ news) ∧ Chg (blk A) w w' ∧ (∀ k ∈ blk A', k ∈ blk A ∨ w.heap.size ≤ k) ∧ True := by
  by_cases h0 : A = none ∧ m = 0
  · obtain ⟨rfl, rfl⟩ := h0
    have hnl := hsrc.newsLen
    obtain rfl : news = [] := List.eq_nil_of_length_eq_zero (by omega)
    obtain ⟨i0, hi, hz0, hs1, hs2⟩ := info_parts hinfo
    have hr := run_append_nothing (P := Try.prog) w t t ty e i0 ht hi none n c h.2.1 x (by rw [hs1]; exact hsrc)
    exact ⟨none, c, w, hr, by rw [List.append_nil]; exact h, Chg.refl _ w, fun k hk => .inl hk, trivial⟩
  · obtain ⟨A', c', w', h1, h2, h3, h4, _⟩ := sline_append_big s w t e ty z bytes ht hinfo hz1 hby A n c xs h hn x m hm (fun hA => by
      rcases Nat.eq_zero_or_pos m with hm0 | hm0
      · exact absurd ⟨hA, hm0⟩ h0
      · exact hm0) news hsrc
    exact ⟨A', c', w', h1, h2, h3, h4, trivial⟩
/-- What Append leaves. -/
def Appended (w : World) (d : Nat) (b : DBox) (f num : Nat) (A : Option Addr) (n sure : Nat) (xs : List Value) (w' : World) : Prop :=
  ∃ A' c', DBoxAt w' d b ∧ FileAt w' f num A' n c' sure ∧ SLine 1 w' A' n c' xs ∧ Chg (d :: f :: blk A) w w' ∧ ∀ k ∈ blk A', k ∈ blk A ∨ w.heap.size ≤ k
set_option maxHeartbeats 1600000 in
theorem append_ok (H : NowAt w d b RA rn rc ps) (nm : ByteArray) (hsz : nm.size ≤ 1000000) (hE : withE b [nm] ps nm = 0) (f num : Nat) (hF : withF b [nm] ps nm = .pointer (some ⟨f, 0, none⟩)) (A : Option Addr) (n c sure : Nat) (hfile : FileAt w f num A n c sure) (hfd : f ≠ d) (BA : Option Addr) (bn bc : Nat) (hn : n ≤ 10000000) (hbn : bn ≤ 10000000) (hsmall : n + bn ≤ 1048576)
    (ln : Value → Nat) (hfs : FilesIn w ln ps) (hfsd : ∀ p ∈ ps, p.2 ≠ .pointer (some ⟨d, 0, none⟩)) (hsum : sumLen ln ps ≤ 1000000000000) (hroom : (sumLen ln ps : Int) + (bn : Int) ≤ b.quota) (xs : List Value) (hline : SLine 1 w A n c xs) (hfA : f ∉ blk A) (hdA : d ∉ blk A) (news : List Value) (hsrc : ∀ W, Chg [d] w W → Src Try.prog 1 29 (.slice BA bn bc) bn news W) :
    Calls Try.prog 19 #[.pointer (some ⟨d, 0, none⟩), .string nm, .slice BA bn bc] w fun e w' => e = .returned (.int .i64 0) ∧ Appended w d (poweredB b) f num A (n + bn) sure (xs ++ news) w' := by
  have HW := Lib.hid (with1 H nm hsz)
  rw [hF, hE] at HW
  have HFI := Lib.hid hfile
  have hsm : (n : Int) + (bn : Int) ≤ 1048576 := by omega
  have HUS : Hid (∀ w1 W : World, DBoxAt w1 d (poweredB b) → Chg [d] w w1 → W.heap = w1.heap → Calls Try.prog 35 #[.pointer (some ⟨d, 0, none⟩)] W fun e w' => e = .returned (.int .i64 (sumLen ln ps : Int)) ∧ Below W.heap.size W w') := Lib.hid fun w1 W h1 hc hW => by
    have hc2 : w1.cell? ⟨d, 2, none⟩ = some (poweredB b).now := h1.cell 2 _ rfl
    rw [powered_now, H.now] at hc2
    refine used_any W d RA rn rc ps ⟨(World.cell?_of_block (w := w1) (a := ⟨d, 2, none⟩) (by rw [hW])).trans hc2, (H.row.chg hc (fun k hk hm => by rw [List.mem_singleton] at hm; rw [hm] at hk; exact H.apart hk)).same (by rw [hW]; exact Nat.le_refl _) (fun k _ => by rw [hW])⟩ (by have := H.len; omega) ln (fun p hp => ?_) hsum
    obtain ⟨g, gn, gA, gc, gs, he, hg⟩ := hfs p hp
    refine ⟨g, gn, gA, gc, gs, he, hg.same ((congrArg (·[g]?) hW).trans (hc.same g (lt_of_block hg) ?_))⟩
    rw [List.mem_singleton]
    rintro rfl
    exact hfsd p hp he
  obtain ⟨S, hS⟩ : ∃ S, sumLen ln ps = S := ⟨_, rfl⟩
  rw [hS] at HUS hroom hsum
  have HQ : Hid ((poweredB b).quota = b.quota) := Lib.hid (powered_quota b)
  obtain ⟨q, hq⟩ : ∃ q, b.quota = q := ⟨_, rfl⟩
  rw [hq] at HQ hroom
  obtain ⟨b2, hb2⟩ : ∃ b2, poweredB b = b2 := ⟨_, rfl⟩
  rw [hb2] at HW HUS HQ
  rw [hb2]
  have HL := Lib.hid (And.intro hline (And.intro hfA (And.intro hdA hsrc)))
  have hroom' : ¬ q < (S : Int) + (bn : Int) := by omega
  have HRM := Lib.hid hroom'
  have hnn : n ≤ 1000000 ∨ 1000000 < n := by omega
  have hSb : (S : Int) + (bn : Int) ≤ 2000000000000 := by omega
  clear hE hF H hfile hfs hfsd hsmall hS hq hb2 hsum hline hfA hdA hsrc hroom hroom'
  go_enter Try.func19, Try.ntmps19
  go_wp2_with fail
  refine HW.out.mono ?_
  rintro e w1 ⟨rfl, hd1, hc1⟩
  have c1 := (HFI.out.same (hc1.same f (lt_of_block HFI.out) (by simp only [List.mem_singleton]; exact hfd))).c1
  have c5 : w1.cell? ⟨d, 5, none⟩ = some (.int .i64 b2.quota) := hd1.cell 5 _ rfl
  rw [HQ.out] at c5
  have HU := Lib.hid (fun W hW => HUS.out w1 W hd1 hc1 hW)
  have HX := Lib.hid (And.intro hd1 hc1)
  clear hd1 hc1 HUS HW
  go_wp2_with fail
  have HQC : Hid (∀ W, DBoxAt W d b2 → W.cell? ⟨d, 5, none⟩ = some (.int .i64 q)) := Lib.hid fun W h => by have h5 : W.cell? ⟨d, 5, none⟩ = some (.int .i64 b2.quota) := h.cell 5 _ rfl; rw [HQ.out] at h5; exact h5
  go_region_with (go_at_call 35; go_loud (refine (HU.out w1.drew rfl).mono ?_; rintro e w2 ⟨rfl, hB⟩; have HD2 : Hid (DBoxAt w2 d b2 ∧ Chg [d] w w2) := Lib.hid ⟨(hB.block d (show d < w1.heap.size from HX.out.1.lt)).trans HX.out.1, HX.out.2.drew.trans (Chg.of_below hB)⟩; have c5' := HQC.out w2 HD2.out.1; clear hB))
  all_goals
    have hwr : IntKind.i64.wrap ((S : Int) + (bn : Int)) = (S : Int) + (bn : Int) := by rw [IntKind.wrap_i64]; omega
    have hdf : decide (q < IntKind.i64.wrap ((S : Int) + (bn : Int))) = false := by rw [hwr]; exact decide_eq_false (by have := HRM.out; omega)
    have hroom2 : ¬ q < (S : Int) + (bn : Int) := by have := HRM.out; omega
    obtain ⟨hline, hfA, hdA, hsrc⟩ := HL.out
    have hc2 : Chg [d] w w2 := HD2.out.2
    have hnd : ∀ k ∈ blk A, k ∉ [d] := fun k hk hm => by rw [List.mem_singleton] at hm; rw [hm] at hk; exact hdA hk
    have hF2 : FileAt w2 f num A n c sure := HFI.out.same (hc2.same f (lt_of_block HFI.out) (by simp only [List.mem_singleton]; exact hfd))
    obtain ⟨A', c', w3, hr, hl3, hc3, hf3, _⟩ := sline_append_all 1 w2 29 5 29 _ 1 Try.underlying29 infoB rfl (by decide) A n c xs (hline.chg hc2 hnd) (by omega) _ bn (by omega) news (hsrc w2 hc2)
    have hF3 : FileAt w3 f num A n c sure := hF2.same (hc3.same f (lt_of_block hF2) hfA)
    have d1 := hF2.c1
    have d3 := hF3.c1
    have e3 := hF3.free 1
    have hfA' : f ∉ blk A' := fun hm => by
      rcases hf3 f hm with h | h
      · exact hfA h
      · have := lt_of_block hF2; omega
    have HX2 : Hid (Appended w d b2 f num A (n + bn) sure (xs ++ news) (w3.setCell ⟨f, 1, none⟩ (.slice A' (n + bn) c'))) := Lib.hid (by
      have hcs : Chg [f] w3 (w3.setCell ⟨f, 1, none⟩ (.slice A' (n + bn) c')) := (Chg.refl _ w3).setCell f 1 _ (.inl (by simp))
      refine ⟨A', c', ?_, hF3.setData A' (n + bn) c', hl3.chg hcs (fun k hk hm => by rw [List.mem_singleton] at hm; rw [hm] at hk; exact hfA' hk), ?_, fun k hk => ?_⟩
      · refine ((HD2.out.1.chg hc3 hdA).chg hcs ?_)
        simp only [List.mem_singleton]
        exact fun h => hfd h.symm
      · refine ((hc2.weaken (fun k hk => .inl ?_)).andThen hc3 (fun k hk => .inl ?_)).andThen hcs (fun k hk => .inl ?_)
        · rw [List.mem_singleton] at hk; rw [hk]; exact List.mem_cons_self ..
        · exact List.mem_cons_of_mem _ (List.mem_cons_of_mem _ hk)
        · rw [List.mem_singleton] at hk; rw [hk]; exact List.mem_cons_of_mem _ (List.mem_cons_self ..)
      · have := hc2.size
        rcases hf3 k hk with h | h
        · exact .inl h
        · exact .inr (by omega))
    have HR := Lib.hid hr
    clear hline hfA hdA hsrc hc2 hnd hF2 hr hl3 hc3 hf3 hF3 hfA'
    go_wp2_with (at_builtin; refine Lib.wpList_append_run _ rfl _ _ _ _ rfl _ _ rfl rfl _ _ HR.out ?_)
    go_ret
    exact ⟨rfl, HX2.out⟩
end
end Go.Proofs.Ytnjnlcmpfnabiaa
