/-
  The contract of slices.DeleteFunc on the disk's files.
-/
import Derived.Test.YtnjnlcmpfnabiaaDr
import Derived.Lib.SliceRun
namespace Go.Proofs.Ytnjnlcmpfnabiaa
open Go.RowKit Go.Maps
set_option linter.unusedVariables false
set_option maxRecDepth 100000

theorem zeroFP (w : World) : (zeroValue 85).run Try.prog w = .ok (.pointer none) w := by kernel_rfl
theorem clear_from (w : World) (g off n c : Nat) (xs : List Value) (h : SLine 1 w (some ⟨g, off, none⟩) n c xs) (i : Nat) (hi : i < n) :
    (∀ ty, (Builtin.clear_ #[77] ty #[.slice (some ⟨g, off + i, none⟩) (n - i) (c - i)]).run Try.prog w = .ok (.tuple #[]) (w.setCells g (off + i) (List.replicate (n - i) (.pointer none)))) ∧ SLine 1 (w.setCells g (off + i) (List.replicate (n - i) (.pointer none))) (some ⟨g, off, none⟩) i c (xs.take i) ∧ Chg [g] w (w.setCells g (off + i) (List.replicate (n - i) (.pointer none))) := by
  have hl := h.1
  have hnc := h.2.1
  obtain ⟨_, _, e, hg, hc, hf⟩ := h.2.2.2.2 _ rfl
  cases e
  refine ⟨fun ty => ?_, ?_, chg_cells w g (off + i) _⟩
  · refine Lib.run_clear_slice w _ _ ty _ Try.underlying77 zeroFP rfl rfl g (off + i) (n - i) (c - i) (by omega) (fun j hj => ?_) (fun j hj => ?_)
    · have := (hf (i + j) (by omega)).1
      rwa [← Nat.add_assoc] at this
    · have := (hf (i + j) (by omega)).2
      rwa [← Nat.add_assoc] at this
  · have h2 := h.set i (List.replicate (n - i) (.pointer none)) (by simp; omega)
    have h3 := h2.shrink i (by omega)
    have e : (xs.take i ++ List.replicate (n - i) (Value.pointer none) ++ xs.drop (i + (List.replicate (n - i) (Value.pointer none)).length)).take (i * 1) = xs.take i := by
      rw [Nat.mul_one, List.append_assoc, List.take_append_of_le_length (by rw [List.length_take]; omega), List.take_take, Nat.min_self]
    rw [e] at h3
    exact h3
theorem drop_one (mid rest : List Value) (v : Value) (h : 0 < mid.length) : (mid ++ v :: rest).drop 1 = (mid ++ [v]).drop 1 ++ rest := by
  cases mid with
  | nil => simp at h
  | cons m mid => simp
set_option maxHeartbeats 3200000 in
theorem delete_any (w : World) (F : Option Addr) (fn fc : Nat) (fs : List Value) (hL : SLine 1 w F fn fc fs) (hn : fn ≤ 1000000) (nm : Value → Nat) (hfs : FsIn w nm fs) (hfF : ∀ f, Value.pointer (some ⟨f, 0, none⟩) ∈ fs → f ∉ blk F) (B M : Nat) (hB : w.cell? ⟨B, 0, none⟩ = some (.map (some M))) (hBF : B ∉ blk F) (hMF : M ∉ blk F) (S : List Nat) (hM : NumsAt w M S) :
    Calls Try.prog 72 #[.slice F fn fc, .func (.func 73) #[] #[.pointer (some ⟨B, 0, none⟩)]] w fun e w' => e = .returned (.slice F (fs.filter (keepV nm S)).length fc) ∧ SLine 1 w' F (fs.filter (keepV nm S)).length fc (fs.filter (keepV nm S)) ∧ Chg (blk F) w w' := by
  have hlen : fs.length = fn := by have := hL.1; omega
  have HI := Lib.hid (index_any w F fn fc fs hL hn nm hfs B M hB S hM)
  have hbl := World.block_lt_of_cell? w _ hB
  have HH := Lib.hid (And.intro hL (And.intro hfs (And.intro hfF (And.intro hB (And.intro hBF (And.intro hMF hM))))))
  have HN := Lib.hid hlen
  have hfc : fn ≤ fc := hL.2.1
  have hfc63 : fc ≤ 9223372036854775807 := by have := hL.2.2.1; unfold maxLen at this; omega
  clear hL hfs hfF hB hBF hMF hM hlen
  go_enter Try.func72, Try.ntmps72
  go_wp2_with fail
  refine HI.out.mono ?_
  rintro e w1 ⟨⟨z, rfl, hz⟩, hb1⟩
  have HB1 := Lib.hid hb1
  clear hb1 HI
  rcases hz with ⟨rfl, hall⟩ | ⟨i0, hi0, rfl, hpre, v0, hv0, hg0⟩
  · have HE : Hid (fs.filter (keepV nm S) = fs) := Lib.hid (List.filter_eq_self.2 hall)
    have HFIN : Hid (SLine 1 w1 F fn fc fs ∧ Chg (blk F) w w1) := Lib.hid ⟨HH.out.1.below HB1.out, Chg.of_below HB1.out⟩
    clear hall
    go_wp2
    go_ret
    rw [HE.out, HN.out]
    exact ⟨rfl, HFIN.out⟩
  · obtain ⟨g, off, rfl, hg, _, _⟩ := HH.out.1.at (by omega)
    have hne : ((i0 : Int) == -1) = false := by rw [beq_eq_false_iff_ne]; omega
    have hi00 : (0 : Int) ≤ (i0 : Int) := by omega
    have hi0n : (i0 : Int) < (fn : Int) := by omega
    have HPRE : Hid ((fs.take (i0 + 1)).filter (keepV nm S) = fs.take i0) := Lib.hid (by
      rw [List.take_add_one, hv0, List.filter_append, List.filter_eq_self.2 hpre]
      simp [hg0])
    clear hpre hv0 hg0
    go_wp2
    go_loopw [5, 6] (fun i j wr => ∃ (ki kj : Nat) (mid : List Value), kj ≤ fn ∧ ki < kj ∧ i = .int .i64 ki ∧ j = .int .i64 kj ∧ mid.length = kj - ki ∧ ((fs.take kj).filter (keepV nm S)).length = ki ∧ Hid (SLine 1 wr (some ⟨g, off, none⟩) fn fc ((fs.take kj).filter (keepV nm S) ++ (mid ++ fs.drop kj)) ∧ Chg (blk (some (⟨g, off, none⟩ : Addr))) w wr)) (fun _ j _ => fn - (intOf j).toNat)
    case atStart =>
      have hl0 : (fs.take i0).length = i0 := by rw [List.length_take, HN.out]; omega
      refine ⟨i0, i0 + 1, [fs.getD i0 (.pointer none)], by omega, by omega, rfl, by go_num, (by first | (simp; omega) | simp), by rw [HPRE.out, hl0], Lib.hid ⟨?_, Chg.of_below HB1.out⟩⟩
      have e : (fs.take (i0 + 1)).filter (keepV nm S) ++ ([fs.getD i0 (.pointer none)] ++ fs.drop (i0 + 1)) = fs := by
        rw [HPRE.out]
        have hi : i0 < fs.length := by rw [HN.out]; exact hi0
        conv => rhs; rw [← List.take_append_drop i0 fs, List.drop_eq_getElem_cons hi]
        simp [List.getD, hi]
      rw [e]
      exact HH.out.1.below HB1.out
    case round =>
      obtain ⟨ki, kj, mid, hkj, hij, rfl, rfl, hmid, hki, HI⟩ := hrel
      have hki0 : (0 : Int) ≤ (ki : Int) := by omega
      have hkj0 : (0 : Int) ≤ (kj : Int) := by omega
      have hijI : (ki : Int) < (kj : Int) := by omega
      rcases Nat.lt_or_ge kj fn with hkn | hkn
      · have hkn' : (kj : Int) < (fn : Int) := by omega
        obtain ⟨hL, hC⟩ := HI.out
        obtain ⟨hL0, hfs, hfF, hB, hBF, hMF, hM⟩ := HH.out
        obtain ⟨_, _, e, hg2, hc, hf⟩ := hL.at (by omega)
        cases e
        obtain ⟨v, hv⟩ : ∃ v, fs[kj]? = some v := ⟨_, List.getElem?_eq_getElem (by rw [HN.out]; exact hkn)⟩
        have hdrop : fs.drop kj = v :: fs.drop (kj + 1) := by
          obtain ⟨h1, h2⟩ := List.getElem?_eq_some_iff.1 hv
          rw [List.drop_eq_getElem_cons h1, h2]
        have hck := hc kj (by omega)
        have hat : ((fs.take kj).filter (keepV nm S) ++ (mid ++ fs.drop kj))[kj]? = some v := by
          rw [List.getElem?_append_right (by omega), hki, List.getElem?_append_right (by omega), hmid, hdrop]
          simp
        rw [hat] at hck
        obtain ⟨f, A, n, c, sure, rfl, hfile, hnum⟩ := hfs v (List.mem_of_getElem? hv)
        have hfg := hfF f (List.mem_of_getElem? hv)
        have hfile' := hfile.same (hC.same f (lt_of_block hfile) hfg)
        obtain ⟨num, hnm⟩ : ∃ num, nm (.pointer (some ⟨f, 0, none⟩)) = num := ⟨_, rfl⟩
        rw [hnm] at hfile' hnum
        have H1 := Lib.hid (forget1_any wr f num A n c sure hfile' hnum B M ((World.cell?_of_block (w := w) (a := ⟨B, 0, none⟩) (hC.same B hbl hBF)).trans hB) S (hM.below (hC.same M hM.lt hMF)))
        have hkp : keepV nm S (.pointer (some ⟨f, 0, none⟩)) = decide (num ∈ S) := by unfold keepV; rw [hnm]
        have HV := Lib.hid (And.intro hv (And.intro hkp (And.intro hdrop (And.intro hL hC))))
        obtain ⟨t, ht⟩ : ∃ t, decide (num ∈ S) = t := ⟨_, rfl⟩
        have HT := Lib.hid ht
        rw [ht] at H1
        have hkp2 : keepV nm S (.pointer (some ⟨f, 0, none⟩)) = t := by rw [hkp, ht]
        have htake : (fs.take (kj + 1)).filter (keepV nm S) = (fs.take kj).filter (keepV nm S) ++ (if t = true then [.pointer (some ⟨f, 0, none⟩)] else []) := by
          rw [List.take_add_one, hv, List.filter_append]
          cases t <;> simp [hkp2]
        have HTK := Lib.hid htake
        clear hL hC hL0 hfs hfF hB hBF hMF hM hc hv hat hfile hfile' hnum hfg hnm hkp ht hkp2 htake hdrop
        cases t with
        | true =>
          go_wp2_with fail
          refine H1.out.mono ?_
          rintro e w2 ⟨rfl, hb2⟩
          have hL2 := HV.out.2.2.2.1.below hb2
          obtain ⟨_, _, e2, hg3, hc3, hf3⟩ := hL2.at (by omega)
          cases e2
          have hxl := hL2.1
          obtain ⟨q0, qf⟩ := hf3 ki (by omega)
          obtain ⟨u, hu⟩ := Option.isSome_iff_exists.1 q0
          have hset := hL2.set ki [.pointer (some ⟨f, 0, none⟩)] (by simp; omega)
          rw [setCells_one] at hset
          have HNEW : Hid (SLine 1 (w2.setCell ⟨g, off + ki, none⟩ (.pointer (some ⟨f, 0, none⟩))) (some ⟨g, off, none⟩) fn fc ((fs.take (kj + 1)).filter (keepV nm S) ++ ((mid ++ [Value.pointer (some ⟨f, 0, none⟩)]).drop 1 ++ fs.drop (kj + 1))) ∧ Chg (blk (some (⟨g, off, none⟩ : Addr))) w (w2.setCell ⟨g, off + ki, none⟩ (.pointer (some ⟨f, 0, none⟩)))) := Lib.hid (by
            refine ⟨?_, (HV.out.2.2.2.2.trans (Chg.of_below hb2)).setCell g (off + ki) _ (.inl (mem_blk.2 ⟨_, rfl, rfl⟩))⟩
            rw [HTK.out]
            simp only [↓reduceIte]
            have e3 : ((fs.take kj).filter (keepV nm S) ++ (mid ++ fs.drop kj)).take ki ++ [Value.pointer (some ⟨f, 0, none⟩)] ++ ((fs.take kj).filter (keepV nm S) ++ (mid ++ fs.drop kj)).drop (ki + [Value.pointer (some ⟨f, 0, none⟩)].length) = (fs.take kj).filter (keepV nm S) ++ [Value.pointer (some ⟨f, 0, none⟩)] ++ ((mid ++ [Value.pointer (some ⟨f, 0, none⟩)]).drop 1 ++ fs.drop (kj + 1)) := by
              rw [List.take_left' hki]
              rw [show ki + [Value.pointer (some ⟨f, 0, none⟩)].length = ki + 1 from rfl, ← List.drop_drop, List.drop_left' hki, HV.out.2.2.1, drop_one mid _ _ (by omega)]
            rw [e3] at hset
            exact hset)
          have HK2 : Hid (((fs.take (kj + 1)).filter (keepV nm S)).length = ki + 1) := Lib.hid (by rw [HTK.out]; simp [hki])
          clear hb2 hL2 hc3 hf3 hxl hset q0 hg3
          go_wp2
          go_roundw
          case rel => exact ⟨ki + 1, kj + 1, _, by omega, by omega, by go_num, by go_num, (by first | (simp; omega) | simp), HK2.out, HNEW⟩
          case measure => simp [intOf]; omega
        | false =>
          go_wp2_with fail
          refine H1.out.mono ?_
          rintro e w2 ⟨rfl, hb2⟩
          have HNEW : Hid (SLine 1 w2 (some ⟨g, off, none⟩) fn fc ((fs.take (kj + 1)).filter (keepV nm S) ++ ((mid ++ [Value.pointer (some ⟨f, 0, none⟩)]) ++ fs.drop (kj + 1))) ∧ Chg (blk (some (⟨g, off, none⟩ : Addr))) w w2) := Lib.hid (by
            refine ⟨?_, HV.out.2.2.2.2.trans (Chg.of_below hb2)⟩
            have h := HV.out.2.2.2.1.below hb2
            rw [HV.out.2.2.1] at h
            rw [HTK.out]
            simp only [Bool.false_eq_true, ↓reduceIte, List.append_nil]
            rw [List.append_assoc mid]
            exact h)
          have HK2 : Hid (((fs.take (kj + 1)).filter (keepV nm S)).length = ki) := Lib.hid (by rw [HTK.out]; simp [hki])
          clear hb2
          go_wp2
          go_roundw
          case rel => exact ⟨ki, kj + 1, _, by omega, by omega, rfl, by go_num, (by first | (simp; omega) | simp), HK2.out, HNEW⟩
          case measure => simp [intOf]; omega
      · obtain rfl : kj = fn := by omega
        have hall : fs.take kj = fs := List.take_of_length_le (by rw [HN.out]; exact Nat.le_refl _)
        have HALL := Lib.hid hall
        rw [hall] at hki HI
        have hL := HI.out.1
        obtain ⟨hcl, hl2, hc2⟩ := clear_from wr g off kj fc _ hL ki (by omega)
        rw [List.take_left' hki] at hl2
        obtain ⟨w2, hw2⟩ : ∃ w2, wr.setCells g (off + ki) (List.replicate (kj - ki) (.pointer none)) = w2 := ⟨_, rfl⟩
        rw [hw2] at hcl hl2 hc2
        have HFIN : Hid (SLine 1 w2 (some ⟨g, off, none⟩) (fs.filter (keepV nm S)).length fc (fs.filter (keepV nm S)) ∧ Chg (blk (some (⟨g, off, none⟩ : Addr))) w w2) := Lib.hid ⟨by rw [hki]; exact hl2, HI.out.2.andThen hc2 (fun k hk => .inl (by simp only [List.mem_singleton] at hk; subst hk; exact mem_blk.2 ⟨_, rfl, rfl⟩))⟩
        have hkfc : (ki : Int) ≤ (fc : Int) := by omega
        have hkfn : (ki : Int) ≤ (kj : Int) := by omega
        have hkfc2 : ki < fc := by omega
        have HKI := Lib.hid hki
        clear hall hL hl2 hc2 hw2 hki
        go_wp2
        go_ret
        exact ⟨by rw [HKI.out]; rfl, HFIN.out⟩
end Go.Proofs.Ytnjnlcmpfnabiaa
