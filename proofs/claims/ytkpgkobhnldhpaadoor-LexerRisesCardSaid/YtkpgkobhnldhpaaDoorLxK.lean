/-
  The contract of the document's All.
-/
import Derived.Test.YtkpgkobhnldhpaaDoorLxO
namespace Go.Proofs.YtkpgkobhnldhpaaDoor
open Go.RowKit
set_option linter.unusedVariables false
set_option maxRecDepth 100000

set_option maxHeartbeats 16000000 in
theorem rall_any (s : ByteArray) (hs : s.size ≤ 4000000000) (w : World) : Calls Tryd.prog 12 #[.string s] w (RAllOut s w) := by
  by_cases hbig : (65536 : Int) < (s.size : Int)
  · have HA : Hid (allN s.data.toList = .bad 2 0) := Lib.hid (by unfold allN; rw [if_pos (by rw [ba_length]; omega)])
    go_enter Tryd.func12, Tryd.ntmps12
    go_wp2
    go_ret3
    exact RAllOut.bad HA.out rfl rfl (Below.refl _ _)
  have HA : Hid (allN s.data.toList = allAt s.data.toList 0) := Lib.hid (by unfold allN; rw [if_neg (by rw [ba_length]; omega)])
  go_enter Tryd.func12, Tryd.ntmps12
  go_wp2_with fail
  go_loopg [5, 6] (s.size + 1) (fun kx v i wr => ∃ (q : Nat) (ts : List Tok) (A : Option Addr) (c : Nat), v = .slice A ts.length c ∧ i = .int .i64 q ∧ Hid (RHead s w wr q ts A c) ∧ s.size - q + 1 ≤ kx)
  case atStart => exact ⟨0, [], none, 0, rfl, rfl, Lib.hid ⟨Nat.zero_le _, SLine.nil 6 _, (fun k hk => by cases hk), Below.refl _ _, by rw [HA.out, Res.pre_nil, List.drop_zero], Nat.le_refl _⟩, Nat.le_refl _⟩
  case round =>
    obtain ⟨q0, ts, A, c, rfl, rfl, HI, hm⟩ := hrel
    obtain ⟨wo, hwo⟩ : ∃ wo : World, wo = wr := ⟨_, rfl⟩
    subst hwo
    have hsz : (s.size : Int) ≤ 65536 := by omega
    have HS := Lib.hid (rskip_any s hs q0 HI.out.le wo)
    have hle := skipN_le (s.data.toList.drop q0)
    rw [List.length_drop, ba_length] at hle
    have hq0 := HI.out.le
    cases hsk : (skipN (s.data.toList.drop q0)).2 with
    | false =>
      have HF : Hid (allN s.data.toList = .bad 12 s.size) := Lib.hid (by
        rw [HI.out.res, allAt_bad _ _ hsk, List.length_drop, ba_length]
        show Res.bad 12 _ = _
        congr 1
        omega)
      have hso : skipOut s.data.toList q0 = -1 := by unfold skipOut; rw [hsk, if_neg (by simp)]
      rw [hso] at HS
      clear hso hsk hle
      go_wp2_with ((with_reducible refine HS.out.mono ?_); rintro e w' ⟨rfl, rfl⟩)
      go_ret3
      exact RAllOut.bad HF.out rfl rfl HI.out.below
    | true =>
      have hso : skipOut s.data.toList q0 = ((q0 + (skipN (s.data.toList.drop q0)).1 : Nat) : Int) := by unfold skipOut; rw [hsk, if_pos rfl]
      have hend := fun (h : (skipN (s.data.toList.drop q0)).1 = s.size - q0) => allAt_end (s.data.toList.drop q0) q0 hsk (by rw [List.length_drop, ba_length]; exact h)
      have hlt := fun (h : (skipN (s.data.toList.drop q0)).1 < s.size - q0) => allAt_err (s.data.toList.drop q0) q0 hsk (by rw [List.length_drop, ba_length]; exact h)
      have htk := fun (h : (skipN (s.data.toList.drop q0)).1 < s.size - q0) => allAt_tok (s.data.toList.drop q0) q0 hsk (by rw [List.length_drop, ba_length]; exact h)
      rw [List.drop_drop] at hlt htk
      obtain ⟨n, hn⟩ : ∃ n, (skipN (s.data.toList.drop q0)).1 = n := ⟨_, rfl⟩
      rw [hn] at hso hle hend hlt htk
      obtain ⟨q, hq1⟩ : ∃ q, q0 + n = q := ⟨_, rfl⟩
      rw [hq1] at hso hlt htk
      rw [hso] at HS
      have HEND := Lib.hid hend
      have HLT := Lib.hid hlt
      have HTK := Lib.hid htk
      have HQ := Lib.hid hq1
      have hqle : q ≤ s.size := by omega
      have hqz : ¬ (q : Int) < 0 := by omega
      clear hend hlt htk hn hsk hso hle
      by_cases hfin : q = s.size
      · have HF : Hid (allN s.data.toList = .ok ts) := Lib.hid (by rw [HI.out.res, HEND.out (by have := HQ.out; omega)]; simp [Res.pre])
        subst hfin
        go_wp2_with ((with_reducible refine HS.out.mono ?_); rintro e w' ⟨rfl, rfl⟩)
        go_ret3
        exact RAllOut.ok HF.out HI.out.line HI.out.apart HI.out.below
      · have hqs : q < s.size := by omega
        have hqb : ((q : Int) == (s.size : Int)) = false := by rw [beq_eq_false_iff_ne]; omega
        have HLT2 := Lib.hid (HLT.out (by have := HQ.out; omega))
        have HTK2 := Lib.hid (HTK.out (by have := HQ.out; omega))
        clear HLT HTK HEND hfin
        have hR := runN_le (s.data.toList.drop q)
        rw [List.length_drop, ba_length] at hR
        have HRA := Lib.hid (runN_all (s.data.toList.drop q))
        obtain ⟨R, hRe⟩ : ∃ R, runN (s.data.toList.drop q) = R := ⟨_, rfl⟩
        have HRE := Lib.hid hRe
        rw [hRe] at hR HRA
        clear hRe
        go_upto_block 2 with ((with_reducible refine HS.out.mono ?_); rintro e w' ⟨rfl, rfl⟩)
        obtain ⟨P, hP⟩ : ∃ P, q + R = P := ⟨_, rfl⟩
        have HPR := Lib.hid hP
        go_cut [7] from 17 to 147 (fun v wx => v = .int .i64 (P : Int) ∧ wx = wo)
        case first =>
          subst hP
          go_wp2_with fail
          go_loop [7] (fun v => ∃ p : Nat, q ≤ p ∧ p ≤ q + R ∧ v = .int .i64 p) (fun v => q + R - (intOf v).toNat)
          case atStart => exact ⟨q, Nat.le_refl _, Nat.le_add_right _ _, rfl⟩
          case round =>
            obtain ⟨p, hp1, hp2, rfl⟩ := hrel
            by_cases hpr : p < q + R
            · have hps : p < s.size := by omega
              have hal : alnumB s[p] = true := alnum_in s q p hp1 hps (by rw [HRE.out]; omega)
              unfold alnumB at hal
              cases h2 : letterB s[p] with
              | true =>
                clear hal
                go_wp2_with (first | (go_at_call 29; refine (rdigit_any _ _).mono ?_; rintro e w' ⟨rfl, rfl⟩) | (go_at_call 28; refine (rletter_any _ _).mono ?_; rintro e w' ⟨rfl, rfl⟩))
                go_round
                case rel => exact ⟨p + 1, by omega, by omega, by go_num⟩
                case measure => simp [intOf]; omega
              | false =>
                have h3 : digitB s[p] = true := by rw [h2] at hal; simpa using hal
                clear hal
                go_wp2_with (first | (go_at_call 29; refine (rdigit_any _ _).mono ?_; rintro e w' ⟨rfl, rfl⟩) | (go_at_call 28; refine (rletter_any _ _).mono ?_; rintro e w' ⟨rfl, rfl⟩))
                go_round
                case rel => exact ⟨p + 1, by omega, by omega, by go_num⟩
                case measure => simp [intOf]; omega
            · obtain rfl : p = q + R := by omega
              by_cases hps : q + R < s.size
              · have hna : alnumB s[q + R] = false := alnum_out s q R HRE.out hps
                unfold alnumB at hna
                simp only [Bool.or_eq_false_iff] at hna
                obtain ⟨h2, h3⟩ := hna
                have hcast : ((q + R : Nat) : Int) = (q : Int) + (R : Int) := by omega
                go_wp2_with (first | (go_at_call 29; refine (rdigit_any _ _).mono ?_; rintro e w' ⟨rfl, rfl⟩) | (go_at_call 28; refine (rletter_any _ _).mono ?_; rintro e w' ⟨rfl, rfl⟩))
                go_meet
                exact ⟨by go_num, rfl⟩
              · obtain hqR : q + R = s.size := by omega
                go_wp2
                go_meet
                exact ⟨by go_num, rfl⟩
        case rest =>
          obtain ⟨rfl, hwc⟩ := hcut
          have hwc2 : wo = wc := hwc.symm
          clear hwc
          subst hwc2
          have hqP : q ≤ P := by omega
          have hPs : P ≤ s.size := by omega
          have HTX : Hid (s.extract q P = strL ((s.data.toList.drop q).take R)) := Lib.hid (by rw [extract_mid, show P - q = R from by omega])
          have hat : ∃ x y : Int, lineZ s.data.toList q = .int .i64 x ∧ colZ s.data.toList q = .int .i64 y ∧ ∀ W : World, Calls Tryd.prog 14 #[.string s, .int .i64 (q : Int)] W fun e w' => e = .returned (.agg #[.int .i64 (q : Int), .int .i64 x, .int .i64 y]) ∧ Below W.heap.size W w' := by
            refine ⟨_, _, rfl, rfl, fun W => ?_⟩
            have h := rat_any s hs (q : Int) (by omega) W
            have hc : clampO s.size (q : Int) = q := by unfold clampO; omega
            rw [hc] at h
            exact h
          have HAT := Lib.hid hat
          clear hat hP
          go_upto_region 13 with fail
          go_cut [8] from 17 to 147 (fun v wx => ∃ b : Nat, v = .pointer (some ⟨b, 0, none⟩) ∧ Hid (TBox s wo wx b 0 ((s.data.toList.drop q).take R) 0 q))
          case first =>
            obtain ⟨x, y, hx, hy, hcall⟩ := HAT.out
            have HC := Lib.hid hcall
            have HV : Hid ((tokC s.data.toList ⟨0, (s.data.toList.drop q).take R, 0, q⟩).toArray = #[.int .i64 0, .string (strL ((s.data.toList.drop q).take R)), .int .i32 0, .int .i64 (q : Int), .int .i64 x, .int .i64 y]) := Lib.hid (by
              unfold tokC
              simp only [hx, hy]
              rfl)
            clear hcall hx hy HAT
            go_region_with (go_at_call 14; (with_reducible refine (HC.out _).mono ?_); rintro e w2 ⟨rfl, hB2⟩; obtain ⟨hc, hf⟩ := bcell hB2; have hz2 := hB2.size; have HB2 := Lib.hid hB2; clear hB2)
            all_goals
              go_wp2_with fail
              go_meet
              clear hc hf
              first
              | exact ⟨w2.heap.size, rfl, Lib.hid ⟨by rw [HV.out, ← HTX.out]; exact heap_alloc_new w2 _, hz2, ((Below.refl _ wo).drew.trans HB2.out).alloc hz2 _⟩⟩
              | (have hb1 : Below wo.heap.size wo w2 := ((Below.refl _ wo).alloc (Nat.le_refl _) _).drew.trans (HB2.out.mono (by simp))
                 exact ⟨wo.heap.size, rfl, Lib.hid ⟨by rw [HV.out, ← HTX.out]; exact six_set ((HB2.out.block wo.heap.size (by simp)).trans (heap_alloc_new wo _)) _ _ _ _ _ _, Nat.le_refl _, below_six hb1 _ (Nat.le_refl _) _ _ _ _ _ _⟩⟩)
          case rest =>
            obtain ⟨b, rfl, HT0⟩ := hcut
            obtain ⟨w1, hw1⟩ : ∃ w1, w1 = wc := ⟨_, rfl⟩
            subst hw1
            obtain ⟨x, y, hx, hy, _⟩ := HAT.out
            have hcells := HT0.out.cells
            rw [show (tokC s.data.toList ⟨0, (s.data.toList.drop q).take R, 0, q⟩).toArray = #[.int .i64 0, .string (strL ((s.data.toList.drop q).take R)), .int .i32 0, .int .i64 (q : Int), .int .i64 x, .int .i64 y] from by
              unfold tokC
              simp only [hx, hy]
              rfl] at hcells
            have HXY := Lib.hid (And.intro hx hy)
            have HCELLS := Lib.hid hcells
            clear hx hy HAT hcells
            go_upto_if 58 with fail
            go_cut [10, 11, 13] from 17 to 147 (fun _ _ _ wx => Hid ((cutN (s.data.toList.drop q)).err = 0 ∧ TBox s wo wx b (cutN (s.data.toList.drop q)).kind ((s.data.toList.drop q).take (cutN (s.data.toList.drop q)).len) (cutN (s.data.toList.drop q)).num q))
            case first =>
              by_cases hR0 : R = 0
              · 
                subst hR0
                obtain rfl : q = P := by have := HPR.out; omega
                have hna := alnum_out s q 0 HRE.out (by omega)
                have hh := ba_dropHead s q hqs
                have HCS := Lib.hid (cutN_sign' (s.data.toList.drop q) (by rw [hh]; exact hna))
                have HSF := Lib.hid (signF_any (s.data.toList.drop q))
                have hbl := lt_of_block HCELLS.out
                have hbox0 : (w1.alloc (.cells signCells.toArray 9)).heap[b]? = some (.cells #[.int .i64 0, .string (strL ((s.data.toList.drop q).take 0)), .int .i32 0, .int .i64 (q : Int), .int .i64 x, .int .i64 y] 33 (0, 0)) := by
                  rw [Lib.alloc_old _ _ _ hbl]
                  exact HCELLS.out
                have HBOX0 := Lib.hid hbox0
                have hsl : ∀ k sg, signsL[k]? = some sg → (w1.alloc (.cells signCells.toArray 9)).cell? ⟨w1.heap.size, k, none⟩ = some (.string (strL sg)) := fun k sg h => sign_cell w1 k sg h
                have HSL := Lib.hid hsl
                have HB0 : Hid (Below wo.heap.size wo (w1.alloc (.cells signCells.toArray 9))) := Lib.hid (HT0.out.below.alloc HT0.out.below.size _)
                have hg : (w1.alloc (.cells signCells.toArray 9)).heap.size = w1.heap.size + 1 := by simp
                have HBEG := Lib.hid (fun (sg : List UInt8) (h : sg.length ≤ 4000000000) (W : World) => begins_any (s.extract q s.size) (strL sg) (by rw [ByteArray.size_extract]; omega) (by rw [strL_size]; exact h) W)
                have hnew := HT0.out.new
                have hpq : ((q : Int) == (q : Int)) = true := by simp
                clear hna hh hbox0 hsl
                go_wp2_with ((go_at_call 30; refine (signs_any _).mono ?_; rintro e w' ⟨rfl, rfl⟩))
                obtain ⟨W0, hW0⟩ : ∃ W0, W0 = w1.alloc (.cells signCells.toArray 9) := ⟨_, rfl⟩
                rw [← hW0] at HBOX0 HSL HB0 hg ⊢
                clear hW0
                go_loopw [61, 10] (fun i _ wx => ∃ k : Nat, k ≤ 29 ∧ i = .int .i64 k ∧ Hid (Chg [b] W0 wx ∧ wx.heap[b]? = some (.cells #[.int .i64 0, .string (strL ((curL (s.data.toList.drop q) k).getD [])), .int .i32 0, .int .i64 (q : Int), .int .i64 x, .int .i64 y] 33 (0, 0)))) (fun i _ _ => 29 - (intOf i).toNat)
                case atStart => exact ⟨0, by omega, rfl, Lib.hid ⟨Chg.refl _ _, HBOX0.out⟩⟩
                case round =>
                  obtain ⟨k, hk, rfl, HK⟩ := hrel
                  have HC := Lib.hid HK.out.1
                  have hbx := HK.out.2
                  by_cases hk9 : k < 29
                  · obtain ⟨sg, hsg⟩ : ∃ sg, signsL[k]? = some sg := ⟨_, List.getElem?_eq_getElem (by show k < 29; exact hk9)⟩
                    have hcur := curL_next (s.data.toList.drop q) k sg hsg
                    have hgc : wr.cell? ⟨w1.heap.size, k, none⟩ = some (Value.string (strL sg)) := by
                      rw [World.cell?_of_block (w := W0) (a := ⟨w1.heap.size, k, none⟩) (HC.out.same w1.heap.size (by omega) (by simp; omega))]
                      exact HSL.out k sg hsg
                    have hsgl := sign_two sg (List.mem_of_getElem? hsg)
                    clear hsg HK
                    cases hck : curL (s.data.toList.drop q) k with
                    | some z =>
                      obtain ⟨e1, e2⟩ := str_full z (curL_ne _ k z hck)
                      rw [hck] at hbx hcur
                      have HK2 : Hid (curL (s.data.toList.drop q) (k + 1) = some z) := Lib.hid hcur
                      simp only [Option.getD_some] at hbx
                      obtain ⟨c0, c1, c2, f0, f1, f2⟩ := box6 hbx
                      have HBX := Lib.hid hbx
                      clear hbx hcur hck hsgl
                      go_wp2
                      go_roundw
                      case rel => exact ⟨k + 1, by omega, by go_num, Lib.hid ⟨HC.out, by rw [HK2.out]; exact HBX.out⟩⟩
                      case measure => simp [intOf]; omega
                    | none =>
                      obtain ⟨e1, e2⟩ := str_empty
                      rw [hck] at hbx hcur
                      simp only [Option.getD_none] at hbx
                      obtain ⟨c0, c1, c2, f0, f1, f2⟩ := box6 hbx
                      have HBX := Lib.hid hbx
                      have hbeg := HBEG.out sg (by omega)
                      rw [strL_list, Lib.extract_to_end] at hbeg
                      cases hp : preB sg (s.data.toList.drop q) with
                      | true =>
                        rw [hp] at hcur hbeg
                        have HK2 : Hid (curL (s.data.toList.drop q) (k + 1) = some sg) := Lib.hid hcur
                        have HB3 := Lib.hid hbeg
                        clear hbx hcur hck hp hbeg hsgl
                        go_wp2_with ((go_at_call 31; (with_reducible refine (HB3.out _).mono ?_); rintro e w' ⟨rfl, rfl⟩))
                        go_roundw
                        case rel => exact ⟨k + 1, by omega, by go_num, Lib.hid ⟨HC.out.setCell b _ _ (.inl (by simp)), by rw [HK2.out]; exact set_one HBX.out _⟩⟩
                        case measure => simp [intOf]; omega
                      | false =>
                        rw [hp] at hcur hbeg
                        have HK2 : Hid (curL (s.data.toList.drop q) (k + 1) = none) := Lib.hid hcur
                        have HB3 := Lib.hid hbeg
                        clear hbx hcur hck hp hbeg hsgl
                        go_wp2_with ((go_at_call 31; (with_reducible refine (HB3.out _).mono ?_); rintro e w' ⟨rfl, rfl⟩))
                        go_roundw
                        case rel => exact ⟨k + 1, by omega, by go_num, Lib.hid ⟨HC.out, by rw [HK2.out]; exact HBX.out⟩⟩
                        case measure => simp [intOf]; omega
                  · obtain rfl : k = 29 := by omega
                    rw [curL_all, HSF.out] at hbx
                    have hB1 : Below wo.heap.size wo wr := HB0.out.trans (HC.out.toBelow (fun k hk => by simp only [List.mem_singleton] at hk; omega) HB0.out.size)
                    have HB1 := Lib.hid hB1
                    by_cases hs0 : signN (s.data.toList.drop q) = 0
                    · rw [if_pos hs0] at hbx
                      obtain ⟨e1, e2⟩ := str_empty
                      simp only [Option.getD_none] at hbx
                      obtain ⟨c0, c1, c2, f0, f1, f2⟩ := box6 hbx
                      have HF : Hid (allN s.data.toList = .bad 10 q) := Lib.hid (by
                        have h1 := HCS.out
                        rw [if_pos hs0] at h1
                        rw [HI.out.res, HLT2.out (by rw [h1]; decide), h1]
                        simp only [Res.pre])
                      clear hbx hs0 hB1
                      go_wp2
                      go_ret3
                      exact RAllOut.bad HF.out rfl rfl (HI.out.below.trans (HB1.out.mono HI.out.below.size))
                    · rw [if_neg hs0] at hbx
                      simp only [Option.getD_some] at hbx
                      obtain ⟨e1, e2⟩ := str_full ((s.data.toList.drop q).take (signN (s.data.toList.drop q))) (fun e => by
                        have := congrArg List.length e
                        have h2 := signN_len (s.data.toList.drop q)
                        rw [List.length_take] at this
                        simp at this
                        rcases this with h | h
                        · exact hs0 h
                        · omega)
                      obtain ⟨c0, c1, c2, f0, f1, f2⟩ := box6 hbx
                      have HBX := Lib.hid hbx
                      have HCC : Hid (cutN (s.data.toList.drop q) = ⟨0, 4, signN (s.data.toList.drop q), 0⟩) := Lib.hid (by rw [HCS.out, if_neg hs0])
                      clear hbx hs0 hB1
                      go_wp2
                      go_meet
                      exact Lib.hid (by
                        rw [HCC.out]
                        exact ⟨rfl, tbox_mk HXY.out (set_zero HBX.out _) hnew (HB1.out.setCell hnew _)⟩)
              · 
                have hRp : 0 < R := by omega
                have hpq : ((P : Int) == (q : Int)) = false := by rw [beq_eq_false_iff_ne]; have := HPR.out; omega
                have hal := alnum_in s q q (Nat.le_refl _) hqs (by rw [HRE.out]; omega)
                have hh := ba_dropHead s q hqs
                have hpl : ((s.data.toList.drop q).take R).length = R := by rw [List.length_take, List.length_drop, ba_length]; omega
                have htxs : (strL ((s.data.toList.drop q).take R)).size = R := by rw [strL_size, hpl]
                obtain ⟨c0, c1, c2, f0, f1, f2⟩ := box6 HCELLS.out
                have hnew := HT0.out.new
                have hbl := lt_of_block HCELLS.out
                cases hd : digitB s[q] with
                | true =>
                  have hln : letterB s[q] = false := by
                    cases hl : letterB s[q] with
                    | false => rfl
                    | true => have := alpha_split _ hl; rw [hd] at this; cases this
                  have HCC : Hid (cutN (s.data.toList.drop q) = if numB ((s.data.toList.drop q).take R) then ⟨0, 2, R, decVal ((s.data.toList.drop q).take R)⟩ else ⟨11, 0, 0, 0⟩) := Lib.hid (by
                    unfold cutN
                    rw [hh, if_neg (by rw [hln]; simp), if_pos hd, HRE.out])
                  have HBAD : Hid (numB ((s.data.toList.drop q).take R) = false → allN s.data.toList = .bad 11 q) := Lib.hid (fun hn => by
                    have h1 := HCC.out
                    rw [hn, if_neg (by simp)] at h1
                    rw [HI.out.res, HLT2.out (by rw [h1]; decide), h1]
                    simp only [Res.pre])
                  have htl : (strL ((s.data.toList.drop q).take R)).data.toList = (s.data.toList.drop q).take R := strL_list _
                  obtain ⟨tx, htx⟩ : ∃ tx, strL ((s.data.toList.drop q).take R) = tx := ⟨_, rfl⟩
                  have HTE := Lib.hid htx
                  obtain ⟨CAP, BW, hconv, hbw, hbc, hcap⟩ := conv_string tx
                  rw [htx] at c1 htxs HCELLS htl
                  rw [← htl] at HCC HBAD
                  clear htx hal hh hln hpl htl
                  subst htxs
                  have HBW := Lib.hid (hbw w1)
                  have HBC := Lib.hid (hbc w1)
                  obtain ⟨k0, k1, k2, g0, g1, g2⟩ := box6 (((hbw w1).block b hbl).trans HCELLS.out)
                  have hcp := hcap w1
                  clear hbw hbc hcap
                  go_upto_region 27 with (first | (go_at_call 29; refine (rdigit_any _ _).mono ?_; rintro e w' ⟨rfl, rfl⟩))
                  clear hconv c0 c1 c2 f0 f1 f2
                  generalize BW w1 = W2 at *
                  generalize CAP w1 = cap at *
                  have HB2 : Hid (Below wo.heap.size wo W2) := Lib.hid (HT0.out.below.trans (HBW.out.mono HT0.out.below.size))
                  have HKB : Hid (W2.heap[b]? = some (.cells #[.int .i64 0, .string tx, .int .i32 0, .int .i64 (q : Int), .int .i64 x, .int .i64 y] 33 (0, 0))) := Lib.hid ((HBW.out.block b hbl).trans HCELLS.out)
                  have hts : tx.size ≤ 65536 := by omega
                  clear HBW
                  go_wp2_with fail
                  go_loop [11, 91] (fun v i => ∃ k : Nat, k ≤ tx.size ∧ i = .int .i64 k ∧ v = .int .i64 (decVal (tx.data.toList.take k) : Int) ∧ Hid (∀ c ∈ tx.data.toList.take k, digitB c = true)) (fun _ i => tx.size - (intOf i).toNat)
                  case atStart => exact ⟨0, Nat.zero_le _, rfl, rfl, Lib.hid (by simp)⟩
                  case round =>
                    obtain ⟨k, hk, rfl, rfl, HDG⟩ := hrel
                    have hvle := decVal_take tx.data.toList k
                    by_cases hkl : k < tx.size
                    · have hkc := HBC.out k hkl
                      have HT := Lib.hid (ba_takeS tx k hkl)
                      have hmem := ba_mem' tx k hkl
                      cases hdk : digitB tx[k] with
                      | false =>
                        have HF := Lib.hid (HBAD.out (by unfold numB; rw [all_no _ _ _ hmem hdk]; rfl))
                        clear hvle hmem HT
                        generalize decVal (tx.data.toList.take k) = N at *
                        go_wp2_with (first | (go_at_call 29; refine (rdigit_any _ _).mono ?_; rintro e w' ⟨rfl, rfl⟩))
                        go_ret3
                        exact RAllOut.bad HF.out rfl rfl (HI.out.below.trans (HB2.out.mono HI.out.below.size))
                      | true =>
                        have hd2 : 48 ≤ tx[k].toNat ∧ tx[k].toNat ≤ 57 := by simpa [digitB] using hdk
                        have HDN : Hid (∀ c ∈ tx.data.toList.take (k + 1), digitB c = true) := Lib.hid (by
                          rw [HT.out]; intro c hc; rcases List.mem_append.1 hc with h | h; exact HDG.out c h; rw [List.mem_singleton] at h; subst h; exact hdk)
                        have HVN : Hid ((decVal (tx.data.toList.take (k + 1)) : Int) = (decVal (tx.data.toList.take k) : Int) * 10 + (tx[k].toNat : Int) - 48) := Lib.hid (by rw [HT.out, decVal_snoc]; omega)
                        have h48 : (48 : Int) ≤ (tx[k].toNat : Int) := by omega
                        have h57 : (tx[k].toNat : Int) ≤ 57 := by omega
                        by_cases hM : (2147483647 : Int) < (decVal (tx.data.toList.take k) : Int)
                        · have HF := Lib.hid (HBAD.out (by unfold numB; rw [decide_eq_false (show ¬ decVal tx.data.toList ≤ 2147483647 by omega)]; simp))
                          clear hvle hmem HT HVN HDN hd2
                          generalize decVal (tx.data.toList.take k) = N at *
                          go_wp2_with (first | (go_at_call 29; refine (rdigit_any _ _).mono ?_; rintro e w' ⟨rfl, rfl⟩))
                          go_ret3
                          exact RAllOut.bad HF.out rfl rfl (HI.out.below.trans (HB2.out.mono HI.out.below.size))
                        · have hN1 : (decVal (tx.data.toList.take k) : Int) ≤ 2147483647 := by omega
                          have hN0 : (0 : Int) ≤ (decVal (tx.data.toList.take k) : Int) := by omega
                          clear hvle hmem HT hd2
                          generalize decVal (tx.data.toList.take k) = N at *
                          go_wp2_with (first | (go_at_call 29; refine (rdigit_any _ _).mono ?_; rintro e w' ⟨rfl, rfl⟩))
                          go_round
                          case rel => exact ⟨k + 1, by omega, by go_num, by rw [HVN.out], HDN⟩
                          case measure => simp [intOf]; omega
                    · obtain rfl : k = tx.size := by omega
                      have hall : tx.data.toList.take tx.size = tx.data.toList := List.take_of_length_le (Nat.le_refl _)
                      rw [hall] at HDG ⊢
                      have htp : 0 < tx.size := by omega
                      have hnb : numB tx.data.toList = ((decide (tx.size = 1) || decide (tx[0] ≠ 48)) && decide (decVal tx.data.toList ≤ 2147483647)) := by
                        unfold numB
                        rw [List.all_eq_true.2 (fun c hc => HDG.out c hc), ba_headD tx htp, Bool.true_and]
                        rfl
                      have h48 : (decide (tx[0] ≠ 48)) = !((tx[0].toNat : Int) == 48) := by
                        rw [Bool.eq_iff_iff]
                        simp only [decide_eq_true_eq, Bool.not_eq_true', beq_eq_false_iff_ne, ne_eq]
                        refine not_congr ⟨fun e => by rw [e]; rfl, fun e => UInt8.toNat_inj.1 (by show tx[0].toNat = 48; omega)⟩
                      rw [h48] at hnb
                      have HNB := Lib.hid hnb
                      clear hnb h48 hall hvle HDG HBC
                      by_cases hM : (2147483647 : Int) < (decVal tx.data.toList : Int)
                      · have HF := Lib.hid (HBAD.out (by rw [HNB.out, decide_eq_false (show ¬ decVal tx.data.toList ≤ 2147483647 by omega)]; simp))
                        generalize decVal tx.data.toList = N at *
                        go_wp2
                        go_ret3
                        exact RAllOut.bad HF.out rfl rfl (HI.out.below.trans (HB2.out.mono HI.out.below.size))
                      · have hN1 : (decVal tx.data.toList : Int) ≤ 2147483647 := by omega
                        have hN0 : (0 : Int) ≤ (decVal tx.data.toList : Int) := by omega
                        have HGOOD : Hid (numB tx.data.toList = true → cutN (s.data.toList.drop q) = ⟨0, 2, tx.size, decVal tx.data.toList⟩) := Lib.hid (fun h => by rw [HCC.out, h, if_pos rfl])
                        have hNM : decide (decVal tx.data.toList ≤ 2147483647) = true := decide_eq_true (by omega)
                        rw [hNM] at HNB
                        clear hNM HCC
                        generalize decVal tx.data.toList = N at *
                        cases h8 : ((tx[0].toNat : Int) == 48) with
                        | true =>
                          by_cases h1 : (1 : Int) < (tx.size : Int)
                          · have HF := Lib.hid (HBAD.out (by rw [HNB.out, h8, decide_eq_false (by omega)]; rfl))
                            clear HGOOD HBAD HNB
                            go_wp2
                            go_ret3
                            exact RAllOut.bad HF.out rfl rfl (HI.out.below.trans (HB2.out.mono HI.out.below.size))
                          · have HC2 := Lib.hid (HGOOD.out (by rw [HNB.out, decide_eq_true (by omega : tx.size = 1)]; rfl))
                            clear HGOOD HBAD HNB
                            go_wp2
                            go_meet
                            exact Lib.hid (by
                              rw [HC2.out]
                              exact ⟨rfl, tbox_mk HXY.out (by dsimp only; rw [HTE.out]; exact set_two (set_zero HKB.out _) _) hnew ((HB2.out.setCell hnew _).setCell hnew _)⟩)
                        | false =>
                          have HC2 := Lib.hid (HGOOD.out (by rw [HNB.out, h8]; simp))
                          clear HGOOD HBAD HNB
                          go_wp2
                          go_meet
                          exact Lib.hid (by
                            rw [HC2.out]
                            exact ⟨rfl, tbox_mk HXY.out (by dsimp only; rw [HTE.out]; exact set_two (set_zero HKB.out _) _) hnew ((HB2.out.setCell hnew _).setCell hnew _)⟩)
                | false =>
                  have hle : letterB s[q] = true := by unfold alnumB at hal; rw [hd] at hal; simpa using hal
                  have HCC : Hid (cutN (s.data.toList.drop q) = (if 64 < R then ⟨2, 0, 0, 0⟩ else if wordB ((s.data.toList.drop q).take R) then ⟨0, 3, R, 0⟩ else ⟨0, 1, R, 0⟩)) := Lib.hid (by
                    unfold cutN
                    rw [hh, if_pos hle, HRE.out])
                  have hwd := rword_any (strL ((s.data.toList.drop q).take R)) w1
                  rw [strL_list] at hwd
                  have hwl := word_short ((s.data.toList.drop q).take R)
                  rw [hpl] at hwl
                  clear hal hle hh
                  cases hw : wordB ((s.data.toList.drop q).take R) with
                  | true =>
                    rw [hw] at hwd hwl HCC
                    have hr8 := hwl rfl
                    have HC2 : Hid (cutN (s.data.toList.drop q) = ⟨0, 3, R, 0⟩) := Lib.hid (by rw [HCC.out, if_neg (by omega), if_pos rfl])
                    have HWD := Lib.hid hwd
                    clear hwd hwl hw HCC hpl
                    obtain ⟨tx, htx⟩ : ∃ tx, strL ((s.data.toList.drop q).take R) = tx := ⟨_, rfl⟩
                    have HTE := Lib.hid htx
                    rw [htx] at c1 htxs HWD HCELLS
                    clear htx
                    go_wp2_with (first | (go_at_call 29; refine (rdigit_any _ _).mono ?_; rintro e w' ⟨rfl, rfl⟩) | ((with_reducible refine HWD.out.mono ?_); rintro e w2 ⟨rfl, hB2⟩; obtain ⟨hc, hf⟩ := bcell hB2; have HB2 := Lib.hid hB2; clear hB2))
                    go_meet
                    exact Lib.hid (by
                      rw [HC2.out]
                      exact ⟨rfl, tbox_mk HXY.out (by dsimp only; rw [HTE.out]; exact set_zero ((HB2.out.block b hbl).trans HCELLS.out) _) hnew ((HT0.out.below.trans (HB2.out.mono HT0.out.below.size)).setCell hnew _)⟩)
                  | false =>
                    rw [hw] at hwd HCC
                    have HWD := Lib.hid hwd
                    by_cases h64 : (64 : Int) < (R : Int)
                    · have HF : Hid (allN s.data.toList = .bad 2 q) := Lib.hid (by
                        have h1 := HCC.out
                        rw [if_pos (by omega)] at h1
                        rw [HI.out.res, HLT2.out (by rw [h1]; decide), h1]
                        simp only [Res.pre])
                      clear hwd hwl hw HCC hpl
                      obtain ⟨tx, htx⟩ : ∃ tx, strL ((s.data.toList.drop q).take R) = tx := ⟨_, rfl⟩
                      have HTE := Lib.hid htx
                      rw [htx] at c1 htxs HWD HCELLS
                      clear htx
                      subst htxs
                      go_wp2_with (first | (go_at_call 29; refine (rdigit_any _ _).mono ?_; rintro e w' ⟨rfl, rfl⟩) | ((with_reducible refine HWD.out.mono ?_); rintro e w2 ⟨rfl, hB2⟩; obtain ⟨hc, hf⟩ := bcell hB2; have HB2 := Lib.hid hB2; clear hB2))
                      go_ret3
                      exact RAllOut.bad HF.out rfl rfl (HI.out.below.trans ((HT0.out.below.trans (HB2.out.mono HT0.out.below.size)).mono HI.out.below.size))
                    · have HC2 : Hid (cutN (s.data.toList.drop q) = ⟨0, 1, R, 0⟩) := Lib.hid (by rw [HCC.out, if_neg (by omega), if_neg (by simp)])
                      clear hwd hwl hw HCC hpl
                      obtain ⟨tx, htx⟩ : ∃ tx, strL ((s.data.toList.drop q).take R) = tx := ⟨_, rfl⟩
                      have HTE := Lib.hid htx
                      rw [htx] at c1 htxs HWD HCELLS
                      clear htx
                      subst htxs
                      go_wp2_with (first | (go_at_call 29; refine (rdigit_any _ _).mono ?_; rintro e w' ⟨rfl, rfl⟩) | ((with_reducible refine HWD.out.mono ?_); rintro e w2 ⟨rfl, hB2⟩; obtain ⟨hc, hf⟩ := bcell hB2; have HB2 := Lib.hid hB2; clear hB2))
                      go_meet
                      exact Lib.hid (by
                        rw [HC2.out]
                        exact ⟨rfl, tbox_mk HXY.out (by dsimp only; rw [HTE.out]; exact set_zero ((HB2.out.block b hbl).trans HCELLS.out) _) hnew ((HT0.out.below.trans (HB2.out.mono HT0.out.below.size)).setCell hnew _)⟩)
            case rest =>
              obtain ⟨w2, hw2⟩ : ∃ w2, w2 = wc := ⟨_, rfl⟩
              subst hw2
              have hcl := cutN_len (s.data.toList.drop q) (fun e => by have := congrArg List.length e; rw [List.length_drop, ba_length] at this; simp at this; omega) hcut.out.1
              rw [List.length_drop, ba_length] at hcl
              have HT1 := Lib.hid hcut.out.2
              have HTK3 := Lib.hid (HTK2.out hcut.out.1)
              clear hcut
              have HWL := Lib.hid (HI.out.line.below HT1.out.below)
              have hal := HI.out.line.lt
              have hbge := HT1.out.new
              have hblt := lt_of_block HT1.out.cells
              obtain ⟨cc, hcc⟩ : ∃ cc, cc = cutN (s.data.toList.drop q) := ⟨_, rfl⟩
              rw [← hcc] at hcl HT1 HTK3
              clear hcc
              obtain ⟨T, hT⟩ : ∃ T : Tok, T = ⟨cc.kind, (s.data.toList.drop q).take cc.len, cc.num, q⟩ := ⟨_, rfl⟩
              have htc : (tokC s.data.toList T).toArray = #[.int .i64 (cc.kind : Int), .string (strL ((s.data.toList.drop q).take cc.len)), .int .i32 (cc.num : Int), .int .i64 (q : Int), .int .i64 x, .int .i64 y] := by
                rw [hT]
                unfold tokC
                simp only [HXY.out.1, HXY.out.2]
                rfl
              have hbox := HT1.out.cells
              rw [← hT] at hbox
              have hfew : ts.length ≤ 65536 := by have := HI.out.few; omega
              obtain ⟨A', c', W4, hr, hl, hc, hf, _⟩ := tok_push w2 s.data.toList A ts.length c _ HWL.out (by omega) T
              rw [htc] at hr hbox
              have htx : (strL ((s.data.toList.drop q).take cc.len)).size = cc.len := by rw [strL_size, List.length_take, List.length_drop, ba_length]; omega
              have hx4 := (hc.same b hblt (fun h => by have := hal b h; omega)).trans hbox
              obtain ⟨x0, x1, x2, x3, x4, x5⟩ := (show w2.cell? ⟨b, 0, none⟩ = some (.int .i64 (cc.kind : Int)) ∧ w2.cell? ⟨b, 1, none⟩ = some (.string (strL ((s.data.toList.drop q).take cc.len))) ∧ w2.cell? ⟨b, 2, none⟩ = some (.int .i32 (cc.num : Int)) ∧ w2.cell? ⟨b, 3, none⟩ = some (.int .i64 (q : Int)) ∧ w2.cell? ⟨b, 4, none⟩ = some (.int .i64 x) ∧ w2.cell? ⟨b, 5, none⟩ = some (.int .i64 y) from by
                refine ⟨?_, ?_, ?_, ?_, ?_, ?_⟩
                · rw [cell_of_row _ b 0 _ _ (0, 0) hbox]; rfl
                · rw [cell_of_row _ b 1 _ _ (0, 0) hbox]; rfl
                · rw [cell_of_row _ b 2 _ _ (0, 0) hbox]; rfl
                · rw [cell_of_row _ b 3 _ _ (0, 0) hbox]; rfl
                · rw [cell_of_row _ b 4 _ _ (0, 0) hbox]; rfl
                · rw [cell_of_row _ b 5 _ _ (0, 0) hbox]; rfl)
              have y1 : W4.cell? ⟨b, 1, none⟩ = some (.string (strL ((s.data.toList.drop q).take cc.len))) := by rw [cell_of_row _ b 1 _ _ (0, 0) hx4]; rfl
              have HRUN := Lib.hid hr
              have HREST : Hid (RHead s w W4 (q + cc.len) (ts ++ [T]) A' c') := Lib.hid (by
                have hb2 : Below wo.heap.size wo w2 := HT1.out.below
                have hsz := HI.out.below.size
                refine ⟨by omega, ?_, fun k hk => ?_, ?_, ?_, ?_⟩
                · rw [List.length_append, toksC_snoc]
                  exact hl
                · rcases hf k hk with h | h
                  · exact HI.out.apart k h
                  · have := hb2.size; omega
                · exact (HI.out.below.trans (hb2.mono hsz)).trans (hc.toBelow (fun k hk => HI.out.apart k hk) (by have := hb2.size; omega))
                · have e := HTK3.out
                  rw [List.drop_drop] at e
                  rw [HI.out.res, e, Res.pre_pre, hT]
                  have h3 : q0 + (n + cc.len) = q + cc.len := by have := HQ.out; omega
                  rw [h3]
                · rw [List.length_append]
                  have := HI.out.few
                  have := HQ.out
                  show ts.length + 1 ≤ _
                  omega)
              have HSN := Lib.hid (show ts.length + 1 = (ts ++ [T]).length by simp)
              have hm2 : s.size - (q + cc.len) + 1 < gk := by have := HQ.out; omega
              have hqc : q + cc.len ≤ s.size := by omega
              obtain ⟨L, hL⟩ : ∃ L, cc.len = L := ⟨_, rfl⟩
              rw [hL] at x1 y1 htx HRUN HREST hm2 hqc
              obtain ⟨tx, htx2⟩ : ∃ tx, strL ((s.data.toList.drop q).take L) = tx := ⟨_, rfl⟩
              rw [htx2] at x1 y1 htx HRUN
              clear htx2 hL hcl hr hl hc hf hx4 hbox htc hT hal HTK3 HTK2 HLT2 HRA HRE HWL
              subst htx
              go_wp2_with (at_builtin; refine Lib.wpList_append_run _ rfl _ _ _ _ rfl _ _ rfl rfl _ _ HRUN.out ?_)
              go_roundg (s.size - (q + tx.size) + 1)
              case measure => exact hm2
              case rel => exact ⟨q + tx.size, ts ++ [T], A', c', by rw [HSN.out], by go_num, HREST, Nat.le_refl _⟩
end Go.Proofs.YtkpgkobhnldhpaaDoor
