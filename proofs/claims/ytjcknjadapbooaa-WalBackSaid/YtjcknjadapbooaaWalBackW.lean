/-
  The walk of the law WalBack: it answers true and writes nothing that was there.
-/
import Derived.Test.YtjcknjadapbooaaWk
namespace Go.Proofs.Ytjcknjadapbooaa
open Go.RowKit Go.Shelf
set_option linter.unusedVariables false
set_option maxRecDepth 100000

set_option maxHeartbeats 6400000 in
theorem walBack_walk (a0 : Option Addr) (len0 cap0 : Nat) (a1 : Int) (a2 : Option Addr) (len2 cap2 : Nat) (z2 : List Int) (W : World) (w0 : RowsIn W a0 len0 cap0) (w1 : (Lit.int .u64 a1).wf = true) (w2 : IsRow .u8 W a2 len2 cap2 z2) :
    Calls Try.prog 4 #[.slice a0 len0 cap0, .int .u64 a1, .slice a2 len2 cap2] W fun e w' => e = .returned (.bool true) ∧ Below W.heap.size W w' := by
  obtain ⟨l2, h2, n2, c2⟩ := (by
    have h := w2
    refine (⟨_, (RowZ.of_isRow h).toN, ?_⟩ : ∃ l, RowN W a2 len2 l ∧ len2 ≤ cap2 ∧ cap2 ≤ 9223372036854775807)
    rcases h with ⟨_, rfl, rfl, _⟩ | ⟨x, _, h1, h2, _⟩
    · exact ⟨Nat.le_refl _, by omega⟩
    · exact ⟨h1, by unfold maxLen at h2; omega⟩)
  have HM := Lib.hid (h2.take (k := min len2 7) (Nat.min_le_left _ _))
  generalize l2.take (min len2 7) = more at *
  have em : (if (7 : Int) < (len2 : Int) then (7 : Int) else (len2 : Int)) = ((min len2 7 : Nat) : Int) := by split <;> omega
  have hm7 : min len2 7 ≤ 7 := by omega
  have hmc : min len2 7 ≤ cap2 := by omega
  clear h2 w2
  generalize min len2 7 = m at *
  have i0 : (0 : Int) ≤ (m : Int) := by omega
  have i2 : (m : Int) ≤ (cap2 : Int) := by omega
  have ha := bounds_u64 w1
  have HCUT := Lib.hid (cut_any W a0 len0 cap0 w0)
  clear w0 w1
  go_enter Try.func4, Try.ntmps4
  go_wp2_with fail
  refine HCUT.out.mono ?_
  rintro e w1 ⟨R, c, rs, rfl, hrec, hsm, hrc, hcc, hb⟩
  have hn30 : rs.length ≤ 30 := hsm.1
  obtain ⟨n, hn⟩ : ∃ n, rs.length = n := ⟨_, rfl⟩
  rw [hn] at hrec hrc hn30 ⊢
  have HX := Lib.hid (And.intro hrec (And.intro hsm (And.intro hb hn)))
  clear HCUT hrec hsm hb hn
  go_wp2
  clear em
  go_loopw [7, 26] (fun v i wr => ∃ (k : Nat) (A' : Option Addr) (c' : Nat), k ≤ n ∧ i = .int .i64 k ∧ v = .slice A' (allN (rs.take k)).length c' ∧ Hid (BLine wr A' (allN (rs.take k)).length c' (allN (rs.take k)) ∧ (∀ j ∈ blk A', w1.heap.size ≤ j) ∧ Below w1.heap.size w1 wr)) (fun _ i _ => n - (intOf i).toNat)
  case atStart => exact ⟨0, none, 0, by omega, rfl, rfl, Lib.hid ⟨⟨bytesN_nil, SLine.nil 1 _⟩, fun j hj => (by cases hj), Below.refl _ _⟩⟩
  case round =>
    obtain ⟨k, A', c', hk, rfl, rfl, HI⟩ := hrel
    have hk0 : (0 : Int) ≤ (k : Int) := by omega
    rcases Nat.lt_or_ge k n with hkn | hkn
    · have hkn' : (k : Int) < (n : Int) := by omega
      obtain ⟨g, off, r, A1, d1, rfl, hg, hr, hc, _, hrow⟩ := (HX.out.1.below HI.out.2.2).at hkn
      have hrm : r ∈ rs := List.mem_of_getElem? hr
      have hr3 := HX.out.2.1.2 r hrm
      have HF := Lib.hid (frame_any A1 r.length d1 r (by omega) wr hrow)
      have hall : (allN (rs.take k)).length ≤ 9240 := by
        have h1 := allN_small (rs.take k) (fun x hx => (HX.out.2.1.2 x (List.mem_of_mem_take hx)).1)
        have h2 : (rs.take k).length ≤ 30 := by rw [List.length_take]; omega
        omega
      have HT : Hid (rs.take (k + 1) = rs.take k ++ [r]) := Lib.hid (by rw [List.take_add_one, hr]; rfl)
      have HRL := Lib.hid hr3
      clear hrow hr hrm hr3 hg
      go_wp2_with fail
      refine HF.out.mono ?_
      rintro e w2 ⟨⟨g2, c2, rfl, hge, hb2⟩, hB⟩
      have hB2 : Below w1.heap.size w1 w2 := HI.out.2.2.trans (hB.mono HI.out.2.2.size)
      have hf8 : (frameN r).length = r.length + 8 := frameN_length r
      obtain ⟨A3, c3, w3, hr3, hl3, hc3, hf3, _⟩ := bytes_push w2 A' (allN (rs.take k)).length c' _ (HI.out.1.below hB) (by omega) (some ⟨g2, 0, none⟩) (r.length + 8) c2 (frameN r) hb2.row (by have := HRL.out.1; omega) (fun _ => by omega)
      have HR3 := Lib.hid hr3
      have HNEW : Hid (BLine w3 A3 (allN (rs.take (k + 1))).length c3 (allN (rs.take (k + 1))) ∧ (∀ j ∈ blk A3, w1.heap.size ≤ j) ∧ Below w1.heap.size w1 w3) := Lib.hid (by
        have e1 : allN (rs.take (k + 1)) = allN (rs.take k) ++ frameN r := by rw [HT.out, allN_snoc]
        have e2 : (allN (rs.take (k + 1))).length = (allN (rs.take k)).length + (r.length + 8) := by rw [e1, List.length_append, hf8]
        rw [e2, e1]
        have h2 := hB2.size
        refine ⟨hl3, fun j hj => ?_, hB2.trans (hc3.toBelow HI.out.2.1 (by omega))⟩
        rcases hf3 j hj with h | h
        · exact HI.out.2.1 j h
        · omega)
      have HRK : Hid ((allN (rs.take k)).length + (r.length + 8) = (allN (rs.take (k + 1))).length) := Lib.hid (by rw [HT.out, allN_snoc, List.length_append, hf8])
      clear hge hb2 hB hB2 hr3 hl3 hc3 hf3 hf8 HF
      go_wp2_with (at_builtin; refine Lib.wpList_append_run _ rfl _ _ _ _ rfl _ _ rfl rfl _ _ HR3.out ?_)
      go_roundw
      case rel => exact ⟨k + 1, A3, c3, by omega, by go_num, by rw [HRK.out], HNEW⟩
      case measure => simp [intOf]; omega
    · obtain rfl : k = n := by omega
      have HTK : Hid (rs.take k = rs) := Lib.hid (List.take_of_length_le (by rw [HX.out.2.2.2]; exact Nat.le_refl _))
      rw [HTK.out] at HI ⊢
      have hLB := HX.out.2.1.bytes
      have hemp : BLine (wr.alloc (.cells #[] 5)) (some ⟨wr.heap.size, 0, none⟩) 0 0 [] := ⟨bytesN_nil, own_emptyB wr⟩
      have hbe : Below wr.heap.size wr (wr.alloc (.cells #[] 5)) := (Below.refl _ wr).alloc (Nat.le_refl _) _
      obtain ⟨A3, c3, w3, hr3, hl3, hc3, hf3, hne3⟩ := bytes_push _ _ 0 0 [] hemp (by omega) A' (allN rs).length c' (allN rs) (HI.out.1.row.below hbe) (by omega) (fun e => by cases e)
      rw [List.nil_append] at hl3
      have hb3 : Below wr.heap.size wr w3 := hbe.trans (hc3.toBelow (fun k hk => by obtain ⟨ad, ea, hb⟩ := mem_blk.1 hk; cases ea; rw [← hb]; exact Nat.le_refl _) hbe.size)
      have hge3 : ∀ k ∈ blk A3, wr.heap.size ≤ k := fun k hk => by
        rcases hf3 k hk with h | h
        · obtain ⟨ad, ea, hb⟩ := mem_blk.1 h; cases ea; rw [← hb]; exact Nat.le_refl _
        · have := hbe.size; omega
      have hBw : Below W.heap.size W wr := HX.out.2.2.1.trans (HI.out.2.2.mono HX.out.2.2.1.size)
      obtain ⟨A4, c4, w4, hr4, hl4, hc4, hf4, hne4⟩ := bytes_push w3 A3 (0 + (allN rs).length) c3 _ hl3 (by omega) a2 m cap2 more ((HM.out.below hBw).below hb3) (by omega) (fun e => absurd e hne3)
      have hb4 : Below wr.heap.size wr w4 := hb3.trans (hc4.toBelow hge3 hb3.size)
      rw [Nat.zero_add] at hr3 hr4 hl4
      have hcm : c4 ≤ 9223372036854775807 := by have := hl4.2.2.2.1; unfold maxLen at this; omega
      have HP := Lib.hid (parse_any w4 A4 ((allN rs).length + m) c4 _ (by omega) hl4.2.2.1 hcm hl4.row)
      have hms : parseN more = [] := parse_small (by rw [HM.out.length]; omega)
      rw [parse_all rs HX.out.2.1.short more, hms, List.append_nil, HX.out.2.2.2] at HP
      have HB4 := Lib.hid (And.intro hBw hb4)
      have HR3 := Lib.hid hr3
      have HR4 := Lib.hid hr4
      clear hemp hbe hr3 hl3 hc3 hf3 hne3 hb3 hge3 hr4 hl4 hc4 hf4 hne4 hb4 hcm hms hBw
      obtain ⟨L, hL⟩ : ∃ L, (allN rs).length = L := ⟨_, rfl⟩
      have HLL := Lib.hid hL
      rw [hL] at HI HR3 HR4 HP hLB ⊢
      clear hL
      go_wp2_with (first
        | (at_builtin; refine Lib.wpList_append_run _ rfl _ _ _ _ rfl _ _ rfl rfl _ _ HR3.out ?_)
        | (at_builtin; refine Lib.wpList_append_run _ rfl _ _ _ _ rfl _ _ rfl rfl _ _ HR4.out ?_))
      refine HP.out.mono ?_
      rintro e w5 ⟨R5, c5, vs5, rfl, hl5, hr5, _, hb5⟩
      have hB5 : Below wr.heap.size wr w5 := HB4.out.2.trans (hb5.mono HB4.out.2.size)
      have hrec5 : Recs w5 R5 rs.length rs := recs_of (by rw [HX.out.2.2.2]; exact hl5) hr5
      have hrec0 : Recs w5 R k rs := (HX.out.1.below HI.out.2.2).below hB5
      rw [HX.out.2.2.2] at hrec5
      have HS := Lib.hid (same_any w5 R5 k c5 rs R k c rs hrec5 hrec0 (by omega) (by omega))
      rw [decide_eq_true rfl] at HS
      have HX5 := Lib.hid (And.intro hB5 hrec0)
      clear hl5 hr5 hb5 hB5 hrec5 hrec0 HP HR3 HR4
      go_wp2_with fail
      refine HS.out.mono ?_
      rintro e w6 ⟨rfl, hb6⟩
      have hb6' : Below wr.heap.size wr w6 := HX5.out.1.trans (hb6.mono HX5.out.1.size)
      have HX6 := Lib.hid (And.intro hb6' (HX5.out.2.below hb6))
      clear hb6 hb6' HX5 HS
      rcases Nat.eq_zero_or_pos L with hL0 | hL0
      · have hL0' : (L : Int) = 0 := by omega
        have hbe : ((L : Int) == 0) = true := by simpa using hL0
        go_wp2_with fail
        refine (lives_true w6).mono ?_
        rintro e w7 ⟨rfl, hb7⟩
        have HF : Hid (Below W.heap.size W w7) := Lib.hid (HB4.out.1.trans ((HX6.out.1.trans (hb7.mono HX6.out.1.size)).mono HB4.out.1.size))
        clear hb7
        go_wp2
        go_ret
        exact ⟨rfl, HF.out⟩
      · have hbe : ((L : Int) == 0) = false := by simp; omega
        have hL1 : (0 : Int) < (L : Int) := by omega
        have hLne : ¬ (L : Int) = 0 := by omega
        have hL9 : (L : Int) ≤ 9240 := by omega
        obtain ⟨kk, hkk⟩ : ∃ kk : Nat, a1 % (L : Int) = (kk : Int) := ⟨(a1 % (L : Int)).toNat, (Int.toNat_of_nonneg (Int.emod_nonneg _ hLne)).symm⟩
        have hkL : (kk : Int) < (L : Int) := by rw [← hkk]; exact Int.emod_lt_of_pos _ hL1
        have ek : wrap64 (a1 % (L : Int)) = (kk : Int) := by rw [hkk]; unfold wrap64; omega
        have hLc : L ≤ c' := by rw [← HLL.out]; have := HI.out.1.2.2.1; rw [← HLL.out] at this; exact this
        have hkc : (kk : Int) ≤ (c' : Int) := by omega
        have hk0' : (0 : Int) ≤ (kk : Int) := by omega
        have hkc' : kk ≤ c' := by omega
        have hcm : c' ≤ 9223372036854775807 := by have := HI.out.1.2.2.2.1; unfold maxLen at this; omega
        have HP := Lib.hid (parse_any w6 A' kk c' ((allN rs).take kk) (by omega) hkc' hcm (((HI.out.1.below HX6.out.1).row).take (by omega)))
        obtain ⟨hpre, hlt⟩ := parse_cut rs HX.out.2.1.short (fun r hr => (HX.out.2.1.2 r hr).2) kk (by rw [HLL.out]; omega)
        obtain ⟨ys, hys⟩ : ∃ ys, parseN ((allN rs).take kk) = ys := ⟨_, rfl⟩
        rw [hys] at HP hpre hlt
        rw [HX.out.2.2.2] at hlt
        have hsm : SmallRs ys := ⟨by have := HX.out.2.1.1; rw [HX.out.2.2.2] at this; omega, fun r hr => HX.out.2.1.2 r (hpre.subset hr)⟩
        have HPRE := Lib.hid (And.intro hpre hsm)
        have hlt' : (ys.length : Int) < (k : Int) := by omega
        clear hkk hys hpre hsm hLc hcm hkc'
        go_wp2_with fail
        refine HP.out.mono ?_
        rintro e w7 ⟨R7, c7, vs7, rfl, hl7, hr7, _, hb7⟩
        have hB7 : Below wr.heap.size wr w7 := HX6.out.1.trans (hb7.mono HX6.out.1.size)
        have hrec7 : Recs w7 R7 ys.length ys := recs_of hl7 hr7
        have HBG := Lib.hid (begins_true w7 R k c rs R7 ys.length c7 ys (HX6.out.2.below hb7) hrec7 HPRE.out.1 (by omega) hrc)
        have HAL := Lib.hid (fun (w8 : World) (h : Below w7.heap.size w7 w8) => refall_any w8 R7 ys.length c7 ys (hrec7.below h) HPRE.out.2)
        have HX7 := Lib.hid hB7
        obtain ⟨yl, hyl⟩ : ∃ yl, ys.length = yl := ⟨_, rfl⟩
        obtain ⟨al, hal⟩ : ∃ al, (allN ys).length = al := ⟨_, rfl⟩
        rw [hyl] at HBG HAL hlt' ⊢
        rw [hal] at HAL ⊢
        clear hl7 hr7 hb7 hB7 hrec7 HP hyl hal
        go_wp2_with fail
        refine HBG.out.mono ?_
        rintro e w8 ⟨rfl, hb8⟩
        have HX8 := Lib.hid hb8
        clear hb8 HBG
        go_wp2_with fail
        refine (HAL.out w8 HX8.out).mono ?_
        rintro e w9 ⟨⟨A9, c9, rfl, _, _⟩, hb9⟩
        have HX9 : Hid (Below wr.heap.size wr w9) := Lib.hid (HX7.out.trans ((HX8.out.trans (hb9.mono HX8.out.size)).mono HX7.out.size))
        clear hb9 HAL
        go_wp2_with fail
        refine (lives_true w9).mono ?_
        rintro e w10 ⟨rfl, hb10⟩
        have HF : Hid (Below W.heap.size W w10) := Lib.hid (HB4.out.1.trans ((HX9.out.trans (hb10.mono HX9.out.size)).mono HB4.out.1.size))
        clear hb10
        go_wp2
        go_ret
        exact ⟨rfl, HF.out⟩
end Go.Proofs.Ytjcknjadapbooaa
