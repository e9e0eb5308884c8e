/-
  The walk of the law WalOpens (a draft: up to its last region).
-/
import Derived.Test.YtihlbbpnldgenaaZbb
import Derived.Test.YtihlbbpnldgenaaZar
import Derived.Test.YtihlbbpnldgenaaZbc
import Derived.Test.YtihlbbpnldgenaaZaa
namespace Go.Proofs.Ytihlbbpnldgenaa
open Go.RowKit Go.Shelf
set_option linter.unusedVariables false
set_option maxRecDepth 100000

/-- All that stands in memory in the law's loop. -/
def OpenLoop (w2 : World) (d : Nat) (own0 : Nat → Nat) (l : Nat) (o4 : Nat → Nat) (w4 : World) (rs : List (List Nat)) (k : Nat) (wr : World) : Prop :=
  ∃ own', LogAt w2 d own0 (logS LOG (valsN (rs.take k)) 0 1048576 false (k + 2)) l LOG 0 k (allN (rs.take k)).length own' wr ∧ Kept l o4 w4 own' wr
set_option maxHeartbeats 6400000 in
theorem walOpens_walk (a0 : Option Addr) (len0 cap0 : Nat) (a1 : Option Addr) (len1 cap1 : Nat) (W : World) (w0 : RowsIn W a0 len0 cap0) (w1 : RowsIn W a1 len1 cap1) :
    Calls Try.prog 3 #[.slice a0 len0 cap0, .slice a1 len1 cap1] W fun e w' => e = .returned (.bool true) ∧ Below W.heap.size W w' := by
  have hl0 : len0 ≤ 9223372036854775807 := by
    rcases w0 with ⟨_, rfl, _⟩ | ⟨h1, h2, _⟩
    · omega
    · unfold maxLen at h2; omega
  have hl1 : len1 ≤ 9223372036854775807 := by
    rcases w1 with ⟨_, rfl, _⟩ | ⟨h1, h2, _⟩
    · omega
    · unfold maxLen at h2; omega
  obtain ⟨all0, hal0⟩ := rowsL_of w0
  obtain ⟨all1, hal1⟩ := rowsL_of w1
  have HCUT0 := Lib.hid (fun (V : World) (hB : Below W.heap.size W V) => cut_of W V hB a0 len0 cap0 all0 hal0 hl0)
  have HCUT1 := Lib.hid (fun (V : World) (hB : Below W.heap.size W V) => cut_of W V hB a1 len1 cap1 all1 hal1 hl1)
  obtain ⟨rs, hrs⟩ : ∃ rs, cutR all0 = rs := ⟨_, rfl⟩
  obtain ⟨ps, hps⟩ : ∃ ps, cutR all1 = ps := ⟨_, rfl⟩
  unfold CutOf at HCUT0 HCUT1
  rw [hrs] at HCUT0
  rw [hps] at HCUT1
  have HNEW := Lib.hid (fun (w : World) => IsD.new 1048576 (by omega) w)
  obtain ⟨hn1, hn2⟩ := logNew LOG 1048576 log_ok
  rw [show max (1048576 : Int) 0 = 1048576 by omega] at hn1 hn2
  have HOPEN := Lib.hid (fun (w : World) (d : Nat) (own : Nat → Nat) (H : IsD w d own (RD.fresh 1048576)) => open_fresh w d own _ _ _ LOG H (by decide) log_both rfl rfl (by show 0 + 0 + 0 + 2 * 0 + 4 ≤ 80000; omega) (by show 1 + 1 + 0 + 2 * 1 + 4 ≤ 80000; omega) hn1 hn2)
  clear hn1 hn2 w0 w1 hal0 hal1 hrs hps hl0 hl1
  unfold LOG at HOPEN
  obtain ⟨Q, hQ⟩ : ∃ Q, ps.length = Q := ⟨_, rfl⟩
  have HMORE : Hid (∀ V, Below W.heap.size W V → Calls Try.prog 7 #[.slice a1 len1 cap1] V fun e w' => ∃ R c, e = .returned (.slice R Q c) ∧ Recs w' R Q ps ∧ SmallRs ps ∧ Below V.heap.size V w') := Lib.hid (fun V hB => (HCUT1.out V hB).mono fun e w' hh => by
    obtain ⟨R, c, rs2, e2, e3, e4, e6, _, _, e5, _⟩ := hh
    subst e2
    rw [hQ] at e3 e4
    exact ⟨R, c, e3, e4, e6, e5⟩)
  have HQ := Lib.hid hQ
  clear hQ HCUT1
  go_enter Try.func3, Try.ntmps3
  go_wp2_with (first
    | (go_at_call 5; refine (HNEW.out W).mono ?_; rintro e w2 ⟨rfl, own0, ho, hd, hb2⟩; have HD := Lib.hid (And.intro ho (And.intro hd hb2)); clear ho hd hb2)
    | (go_at_call 6; with_reducible refine (HOPEN.out w2 _ _ HD.out.2.1).mono ?_; rintro e w3 ⟨own3, l, R3, c3, rfl, hlog⟩; have HL := Lib.hid hlog; clear hlog)
    | (go_at_call 7; refine (HCUT0.out w3 (HD.out.2.2.trans (HL.out.only.toBelow (B := W.heap.size) (fun i hi => HD.out.1 i hi) HD.out.2.2.size))).mono ?_; rintro e w4 ⟨R, c, rs', rfl, rfl, _, hsm, hrc, hc63, hb4, ⟨vs, hsl, hrr⟩, hnew⟩; have HCUT := Lib.hid (And.intro hsm (And.intro hb4 (And.intro hsl (And.intro hrr hnew)))); clear hsm hb4 hsl hrr hnew))
  have HL' : Hid (LogAt w2 W.heap.size own0 (logS LOG (valsN []) 0 1048576 false 2) l LOG 0 0 0 own3 w4) := Lib.hid (HL.out.below HCUT.out.2.1)
  have HLT : Hid (l < w3.heap.size ∧ (∀ i, w3.heap.size ≤ i → own3 i = 0) ∧ w3.heap.size ≤ w4.heap.size) := Lib.hid ⟨HL.out.box.lt, HL.out.disk.1, HCUT.out.2.1.size⟩
  have HWB : Hid (∀ (own' : Nat → Nat) (V : World), Only own0 w2 own' V → Below W.heap.size W V) := Lib.hid (fun own' V hO => HD.out.2.2.trans (hO.toBelow (B := W.heap.size) (fun i hi => HD.out.1 i hi) HD.out.2.2.size))
  clear HL HNEW HOPEN HD
  have hr30 := HCUT.out.1.1
  go_loopw [36] (fun i wr => ∃ k : Nat, k ≤ rs'.length ∧ i = .int .i64 k ∧ Hid (OpenLoop w2 W.heap.size own0 l own3 w4 rs' k wr)) (fun i _ => rs'.length - (intOf i).toNat)
  case atStart => exact ⟨0, by omega, rfl, Lib.hid ⟨own3, HL'.out, Kept.refl _ _ _⟩⟩
  case round =>
    obtain ⟨k, hk, rfl, HI⟩ := hrel
    have hk0 : (0 : Int) ≤ (k : Int) := by omega
    rcases Nat.lt_or_ge k rs'.length with hkn | hkn
    · obtain ⟨own', hlg, hkp⟩ := HI.out
      obtain ⟨z, hz⟩ : ∃ z, rs'[k]? = some z := ⟨_, List.getElem?_eq_getElem hkn⟩
      obtain ⟨g, off, rfl, hg, hc, _⟩ := HCUT.out.2.2.1.at (by omega)
      have hvl : vs.length = rs'.length := HCUT.out.2.2.2.1.1
      obtain ⟨v, hv⟩ : ∃ v, vs[k]? = some v := ⟨_, List.getElem?_eq_getElem (by omega)⟩
      obtain ⟨Az, cz, rfl, hzc, hrow⟩ := HCUT.out.2.2.2.1.2 k v z hv hz
      have hgn := HCUT.out.2.2.2.2 g (mem_blk.2 ⟨_, rfl, rfl⟩)
      have hgk := hkp.2 g hg (HLT.out.2.1 g hgn) (by have := HLT.out.1; omega)
      have hck : wr.cell? ⟨g, off + k, none⟩ = some (.slice Az z.length cz) := (World.cell?_of_block (w := w4) (a := ⟨g, off + k, none⟩) hgk.2).trans ((hc k (by omega)).trans hv)
      have hzs := HCUT.out.1.2 z (List.mem_of_getElem? hz)
      have htk : rs'.take (k + 1) = rs'.take k ++ [z] := by rw [List.take_add_one, hz]; rfl
      have hub := HCUT.out.1.bytes
      have hut := allN_take rs' k
      have hADD := add_yes hlg (by omega) Az z.length cz z (hrow.below (HWB.out own' wr hlg.only)) (by omega) (by omega) (by omega) (by omega) (by omega)
      have e1 : ((k + 1 : Nat) : Int) = (k : Int) + 1 := by omega
      have e2 : ((allN (rs'.take (k + 1))).length : Int) = ((allN (rs'.take k)).length : Int) + ((z.length : Int) + 8) := by rw [htk, allN_snoc, List.length_append, frameN_length]; omega
      rw [← htk, ← e1, ← e2] at hADD
      have HADD := Lib.hid hADD
      have HKP := Lib.hid hkp
      have hkn' : (k : Int) < (rs'.length : Int) := by omega
      obtain ⟨zl, hzl⟩ : ∃ zl, z.length = zl := ⟨_, rfl⟩
      rw [hzl] at hck HADD
      clear hlg hkp hz hc hvl hv hzc hrow hgn hgk hzs htk hub hut hADD e1 e2 hzl hg
      go_wp2_with (go_at_call 8; refine HADD.out.mono ?_; rintro e w5 ⟨rfl, own5, h5, hk5⟩; have H5 := Lib.hid (And.intro h5 (HKP.out.trans hk5)); clear h5 hk5)
      go_roundw
      case rel => exact ⟨k + 1, by omega, by go_num, Lib.hid ⟨own5, H5.out.1, H5.out.2⟩⟩
      case measure => simp [intOf]; omega
    · obtain rfl : k = rs'.length := by omega
      obtain ⟨own', hlg, hkp⟩ := HI.out
      rw [List.take_of_length_le (Nat.le_refl _)] at hlg
      have hbw := HWB.out own' wr hlg.only
      have s := logS_sees LOG (valsN rs') 0 (rs'.length + 2) 1048576 false
      have hub := HCUT.out.1.bytes
      have HSM : Hid (SmallRs rs') := Lib.hid HCUT.out.1
      have HOP := Lib.hid (open_there wr W.heap.size own' _ LOG hlg.disk (by decide) log_both s.2.2.2.1 s.2.1 rs' HCUT.out.1.short (allN_lt (fun r hr => (HCUT.out.1.2 r hr).2)) (by omega) (by rw [s.2.2.1]; rfl))
      unfold LOG at HOP
      have HG := Lib.hid (And.intro hlg hbw)
      have HBW := Lib.hid hbw
      obtain ⟨P, hP⟩ : ∃ P, rs'.length = P := ⟨_, rfl⟩
      obtain ⟨L, hL⟩ : ∃ L, (allN rs').length = L := ⟨_, rfl⟩
      have HPL := Lib.hid (And.intro hP hL)
      have hP30 : P ≤ 30 := by omega
      have hL9 : L ≤ 9240 := by omega
      rw [hP, hL] at HOP
      have HCUT0' : Hid (∀ V, Below W.heap.size W V → Calls Try.prog 7 #[.slice a0 len0 cap0] V fun e w' => ∃ R c, e = .returned (.slice R P c) ∧ Recs w' R P rs' ∧ Below V.heap.size V w') := Lib.hid (fun V hB => (HCUT0.out V hB).mono fun e w' hh => by
        obtain ⟨R, c, rs2, e2, e3, e4, _, _, _, e5, _⟩ := hh
        subst e2
        rw [HPL.out.1] at e3 e4
        exact ⟨R, c, e3, e4, e5⟩)
      have HG' : Hid (LogAt w2 W.heap.size own0 (logS LOG (valsN rs') 0 1048576 false (P + 2)) l LOG 0 (P : Int) (L : Int) own' wr) := Lib.hid (by rw [← hP, ← hL]; exact hlg)
      have HSAME : Hid (∀ (V : World) (A : Option Addr) (cA : Nat) (B : Option Addr) (cB : Nat), Recs V A P rs' → Recs V B P rs' → Calls Try.prog 9 #[.slice A P cA, .slice B P cB] V fun e w' => e = .returned (.bool true) ∧ Below V.heap.size V w') := Lib.hid (fun V A cA B cB h1 h2 => (same_any V A P cA rs' B P cB rs' h1 h2 (by omega) (by omega)).mono fun e w' hh => ⟨by rw [hh.1, decide_eq_true rfl], hh.2⟩)
      have HALLC : Hid (∀ (V : World) (A : Option Addr) (cA : Nat), Recs V A P rs' → Calls Try.prog 12 #[.slice A P cA] V fun e w' => ∃ A' c', e = .returned (.slice A' L c') ∧ Below V.heap.size V w') := Lib.hid (fun V A cA h1 => (refall_any V A P cA rs' h1 HSM.out).mono fun e w' hh => by
        obtain ⟨⟨A', c', e1, _, _⟩, e2⟩ := hh
        rw [HPL.out.2] at e1
        exact ⟨A', c', e1, e2⟩)
      clear hlg hkp hbw s hub hP hL HL' hr30 HG HCUT HCUT0 HLT HI
      go_wp2_with (first
        | (go_at_call 6; with_reducible refine HOP.out.mono ?_; rintro e w8 ⟨l2, R8, c8, rfl, hlog8, hrec8, hb8⟩; have HB8 := Lib.hid (And.intro hlog8 (And.intro hrec8 hb8)); have HC := Lib.hid (And.intro (Below.refl w8.heap.size w8) (HBW.out.trans (hb8.mono HBW.out.size))); have HLA := Lib.hid (lcount_any (HG'.out.below hb8).box); have HLB := Lib.hid (lcount_any hlog8.box); have HLS := Lib.hid (lsize_any hlog8.box); clear hlog8 hrec8 hb8)
        | (go_at_call 7; with_reducible refine (HCUT0'.out _ HC.out.2).mono ?_; rintro e wc ⟨Rc, cc, rfl, hrcc, hbc⟩; have HR := Lib.hid hrcc; have HC := Lib.hid (And.intro (HC.out.1.trans (hbc.mono HC.out.1.size)) (HC.out.2.trans (hbc.mono HC.out.2.size))); clear hrcc hbc)
        | (go_at_call 9; with_reducible refine (HSAME.out _ R8 c8 Rc cc (HB8.out.2.1.below HC.out.1) HR.out).mono ?_; rintro e ws ⟨rfl, hbs⟩; have HC := Lib.hid (And.intro (HC.out.1.trans (hbs.mono HC.out.1.size)) (HC.out.2.trans (hbs.mono HC.out.2.size))); clear hbs)
        | (go_at_call 10; first
            | (with_reducible refine (lcount_any (HB8.out.1.below HC.out.1).box).mono ?_; rintro e wk ⟨rfl, rfl⟩)
            | (with_reducible refine (lcount_any ((HG'.out.below HB8.out.2.2).below HC.out.1).box).mono ?_; rintro e wk ⟨rfl, rfl⟩))
        | (go_at_call 11; with_reducible refine (lsize_any (HB8.out.1.below HC.out.1).box).mono ?_; rintro e wk ⟨rfl, rfl⟩)
        | (go_at_call 12; with_reducible refine (HALLC.out _ Rc cc HR.out).mono ?_; rintro e wl ⟨Al, cl, rfl, hbl⟩; have HC := Lib.hid (And.intro (HC.out.1.trans (hbl.mono HC.out.1.size)) (HC.out.2.trans (hbl.mono HC.out.2.size))); clear hbl)
        | fail "stop")
      refine (HMORE.out _ HC.out.2).mono ?_
      rintro e w9 ⟨R9, c9, rfl, hrec9, hsm9, hb9⟩
      have hq30 : Q ≤ 30 := by have := HQ.out; have := hsm9.1; omega
      obtain ⟨M, hM⟩ : ∃ M, (allN ps).length = M := ⟨_, rfl⟩
      have hM9 : M ≤ 9240 := by have := hsm9.bytes; omega
      have HPS := Lib.hid hsm9
      have HM := Lib.hid hM
      have hl9 := HB8.out.1.below (HC.out.1.trans (hb9.mono HC.out.1.size))
      have hres := reset_to hl9 (by omega) R9 Q c9 hrec9 hsm9 (by have := HPL.out.2; omega)
      rw [hM, HQ.out] at hres
      have HRES := Lib.hid hres
      have HSAMEM : Hid (∀ (V : World) (A : Option Addr) (cA : Nat) (B : Option Addr) (cB : Nat), Recs V A Q ps → Recs V B Q ps → Calls Try.prog 9 #[.slice A Q cA, .slice B Q cB] V fun e w' => e = .returned (.bool true) ∧ Below V.heap.size V w') := Lib.hid (fun V A cA B cB h1 h2 => (same_any V A Q cA ps B Q cB ps h1 h2 (by omega) (by omega)).mono fun e w' hh => ⟨by rw [hh.1, decide_eq_true rfl], hh.2⟩)
      have HALLM : Hid (∀ (V : World) (A : Option Addr) (cA : Nat), Recs V A Q ps → Calls Try.prog 12 #[.slice A Q cA] V fun e w' => ∃ A' c', e = .returned (.slice A' M c') ∧ RowN w' A' M (allN ps) ∧ Below V.heap.size V w') := Lib.hid (fun V A cA h1 => (refall_any V A Q cA ps h1 HPS.out).mono fun e w' hh => by
        obtain ⟨⟨A', c', e1, e3, _⟩, e2⟩ := hh
        rw [HM.out] at e1 e3
        exact ⟨A', c', e1, e3.row, e2⟩)
      have HWBX : Hid (∀ (o : Nat → Nat) (V : World), Only own' wr o V → Below W.heap.size W V) := Lib.hid (fun o V hO => HWB.out o V (HG'.out.only.trans hO))
      clear hrec9 hsm9 hM hl9 hres hb9 HC HR HSAME HALLC HCUT0' HLA HLB HLS HWB HG'
      go_wp2_with (first
        | (go_at_call 13; with_reducible refine HRES.out.mono ?_; rintro e w10 ⟨rfl, own10, h10, _⟩; have HB10 := Lib.hid h10; have HC := Lib.hid (And.intro (Below.refl w10.heap.size w10) (HWBX.out own10 w10 h10.only)); clear h10)
        | (go_at_call 7; with_reducible refine (HMORE.out _ HC.out.2).mono ?_; rintro e wc ⟨Rc, cc, rfl, hrcc, _, hbc⟩; have HR := Lib.hid hrcc; have HC := Lib.hid (And.intro (HC.out.1.trans (hbc.mono HC.out.1.size)) (HC.out.2.trans (hbc.mono HC.out.2.size))); clear hrcc hbc)
        | (go_at_call 10; with_reducible refine (lcount_any (HB10.out.below HC.out.1).box).mono ?_; rintro e wk ⟨rfl, rfl⟩)
        | (go_at_call 11; with_reducible refine (lsize_any (HB10.out.below HC.out.1).box).mono ?_; rintro e wk ⟨rfl, rfl⟩)
        | (go_at_call 12; with_reducible refine (HALLM.out _ Rc cc HR.out).mono ?_; rintro e wl ⟨Al, cl, rfl, _, hbl⟩; have HC := Lib.hid (And.intro (HC.out.1.trans (hbl.mono HC.out.1.size)) (HC.out.2.trans (hbl.mono HC.out.2.size))); clear hbl)
        | (go_at_call 14; with_reducible refine (sync_reset (HB10.out.below HC.out.1) (by omega)).mono ?_; rintro e w15 ⟨rfl, own15, h15, _⟩)
        | fail "stop")
      have hbw15 := HWBX.out own15 w15 h15.only
      have s := logE_sees LOG (valsN rs') (valsN ps) 0 (valsN ps).length (P + 2 + Q + 4 + 1) 1048576 false
      have hop := open_there w15 W.heap.size own15 _ LOG h15.disk (by decide) log_both s.2.2.2.1 s.2.1 ps HPS.out.short (allN_lt (fun r hr => (HPS.out.2 r hr).2)) (by have := HM.out; omega) (by rw [s.2.2.1]; rfl)
      rw [HQ.out, HM.out] at hop
      have HOP2 := Lib.hid hop
      have HDISK : Hid (∀ V, Below w15.heap.size w15 V → (Calls Try.prog 15 #[.pointer (some ⟨W.heap.size, 0, none⟩), .string LOG] V fun e w' => ∃ A' c', e = .returned (.tuple #[.slice A' M c', .int .i64 0]) ∧ RowN w' A' M (allN ps) ∧ Below V.heap.size V w') ∧ (Calls Try.prog 16 #[.pointer (some ⟨W.heap.size, 0, none⟩)] V fun e w' => ∃ A' c', e = .returned (.slice A' 1 c') ∧ Below V.heap.size V w')) := Lib.hid (fun V hV => by
        have hd := h15.disk.below hV
        refine ⟨(hd.read_yes LOG s.2.1).mono fun e w' hh => ?_, hd.list.mono fun e w' hh => ?_⟩
        · obtain ⟨⟨A', c', e1, e2, _⟩, e3⟩ := hh
          rw [s.2.2.1] at e1 e2
          have hvl : (valsN ps).length = M := (valsN_length ps).trans HM.out
          have e4 : e = .returned (.tuple #[.slice A' M c', .int .i64 0]) := by rw [e1]; show _ = _; rw [← hvl]
          have e5 : SLine 1 w' A' M c' (valsN ps) := by rw [← hvl]; exact e2
          exact ⟨A', c', e4, BLine.row ⟨allN_lt (fun r hr => (HPS.out.2 r hr).2), e5⟩, e3⟩
        · obtain ⟨⟨A', c', e1, _, _⟩, e3⟩ := hh
          rw [s.1] at e1
          exact ⟨A', c', e1, e3⟩)
      have HB15 := Lib.hid hbw15
      unfold LOG at HOP2 HDISK
      clear hbw15 s hop h15 HC HR HB10 HRES HWBX
      go_wp2_with (first
        | (go_at_call 6; with_reducible refine HOP2.out.mono ?_; rintro e w16 ⟨l3, R16, c16, rfl, _, hrec16, hb16⟩; have HR16 := Lib.hid hrec16; have HC := Lib.hid hb16; clear hrec16 hb16)
        | (go_at_call 15; with_reducible refine ((HDISK.out _ HC.out).1).mono ?_; rintro e w17 ⟨A17, c17, rfl, hrow17, hb17⟩)
        | fail "stop")
      --OPENS
      obtain ⟨TX, hTX⟩ : ∃ TX, strOfNums (asZ (allN ps)) = TX := ⟨_, rfl⟩
      have HCONV : Hid (∀ (V : World) (A : Option Addr) (cA : Nat), RowN V A M (allN ps) → (convert 30 9 (.slice A M cA)).run Try.prog V = .ok (.string TX) V) := Lib.hid (fun V A cA h => by rw [← hTX]; exact conv_row h cA)
      have hrec16 := HR16.out.below hb17
      have HCX := Lib.hid ((HB15.out.trans (HC.out.mono HB15.out.size)).trans (hb17.mono (Nat.le_trans HB15.out.size HC.out.size)))
      have HCD := Lib.hid (HC.out.trans (hb17.mono HC.out.size))
      clear hTX HC HR16 HB15 hb17 HOP2
      have HCX0 := HCX
      have HCD0 := HCD
      refine wp_region_held_drew (S := fun w' => Below w17.heap.size w17 w') (by kernel_rfl) ?_ (fun hHeld => ?_)
      · exact (Below.refl _ _).drew
      have HCX := Lib.hid (HCX0.out.drew)
      have HCD := Lib.hid (HCD0.out.drew)
      have hrow17 := hrow17.below hHeld
      have hrec16 := hrec16.below hHeld
      refine wpAnyH_mono (S' := fun w' => Below w17.drew.heap.size w17.drew w') (fun w' hw' => hHeld.trans (hw'.mono hHeld.size)) _ _ _ _ ?_
      clear hHeld HCX0 HCD0
      have hHeld : Below w17.drew.heap.size w17.drew w17.drew := Below.refl _ _
      refine wpAnyH_take (i := 0) (oi := { dst := some 122, op := Op.move (Operand.tmp 16), type := 26, pos := "law.go:109", after := #[], guard := none }) (v := (.int .i64 0)) rfl (by kernel_rfl) (by kernel_rfl) (by kernel_rfl) (fun _ _ _ h => h) (Or.inl ⟨by rfl, ?_⟩) (by assumption) ?_
      · intro w hSw
        clear hHeld HCX HCD
        go_simp
      simp only [Act.put, List.setIfInBounds_toArray, List.set_cons_zero, List.set_cons_succ]
      refine wpAnyH_take (i := 1) (oi := { dst := some 123, op := Op.binOp BinOp.eql 26 (Operand.tmp 122) (Operand.const (Value.int IntKind.i64 0)) 26, type := 4, pos := "law.go:109", after := #[{ on := 0, ground := Ground.data }], guard := none }) (v := (.bool true)) rfl (by kernel_rfl) (by kernel_rfl) (by kernel_rfl) (fun _ _ _ h => h) (Or.inl ⟨by rfl, ?_⟩) (by assumption) ?_
      · intro w hSw
        clear hHeld HCX HCD
        go_simp
      simp only [Act.put, List.setIfInBounds_toArray, List.set_cons_zero, List.set_cons_succ]
      refine wpAnyH_take (i := 2) (oi := { dst := some 124, op := Op.move (Operand.tmp 123), type := 4, pos := "law.go:109", after := #[{ on := 1, ground := Ground.data }], guard := none }) (v := (.bool true)) rfl (by kernel_rfl) (by kernel_rfl) (by kernel_rfl) (fun _ _ _ h => h) (Or.inl ⟨by rfl, ?_⟩) (by assumption) ?_
      · intro w hSw
        clear hHeld HCX HCD
        go_simp
      simp only [Act.put, List.setIfInBounds_toArray, List.set_cons_zero, List.set_cons_succ]
      refine wpAnyH_take (i := 3) (oi := { dst := some 125, op := Op.move (Operand.tmp 15), type := 22, pos := "law.go:109", after := #[{ on := 2, ground := Ground.guard }], guard := some (2, true) }) (v := (.slice R16 Q c16)) rfl (by kernel_rfl) (by kernel_rfl) (by kernel_rfl) (fun _ _ _ h => h) (Or.inl ⟨by rfl, ?_⟩) (by assumption) ?_
      · intro w hSw
        clear hHeld HCX HCD
        go_simp
      simp only [Act.put, List.setIfInBounds_toArray, List.set_cons_zero, List.set_cons_succ]
      refine wpAnyH_take (i := 4) (oi := { dst := some 126, op := Op.move (Operand.tmp 1), type := 22, pos := "law.go:109", after := #[{ on := 2, ground := Ground.guard }], guard := some (2, true) }) (v := (.slice a1 len1 cap1)) rfl (by kernel_rfl) (by kernel_rfl) (by kernel_rfl) (fun _ _ _ h => h) (Or.inl ⟨by rfl, ?_⟩) (by assumption) ?_
      · intro w hSw
        clear hHeld HCX HCD
        go_simp
      simp only [Act.put, List.setIfInBounds_toArray, List.set_cons_zero, List.set_cons_succ]
      refine wpAnyH_ready (rs := [5]) (by kernel_rfl) (by simp) ?_
      refine AllReadyH.cons (o := { dst := some 127, op := Op.call { callee := Callee.value (Operand.func 7), args := #[Operand.tmp 126], argTypes := #[22] }, type := 22, pos := "law.go:109", after := #[{ on := 4, ground := Ground.data }, { on := 2, ground := Ground.chain }, { on := 2, ground := Ground.guard }], guard := some (2, true) }) rfl (fun K hK => ?_) AllReadyH.nil
      go_simp
      go_at_call 7
      with_reducible refine (HMORE.out _ HCX.out).mono ?_
      rintro e w18 ⟨R18, c18, rfl, hrec18, _, hb⟩
      have HCX := Lib.hid (HCX.out.trans (hb.mono HCX.out.size))
      have HCD := Lib.hid (HCD.out.trans (hb.mono HCD.out.size))
      have hrow17 := hrow17.below hb
      have hrec16 := hrec16.below hb
      try go_wp2_with fail
      refine hK.out _ _ ?_ (fun hHeld2 => ?_)
      · exact hHeld.trans (hb.mono hHeld.size)
      clear hK K hHeld2
      refine wpAnyH_mono (S' := fun w' => Below w18.heap.size w18 w') (fun w' hw' => (hHeld.trans (hb.mono hHeld.size)).trans (hw'.mono (Nat.le_trans hHeld.size hb.size))) _ _ _ _ ?_
      clear hHeld hb
      have hHeld : Below w18.heap.size w18 w18 := Below.refl _ _
      try simp only [Act.put, List.setIfInBounds_toArray, List.set_cons_zero, List.set_cons_succ]
      refine wpAnyH_ready (rs := [6]) (by kernel_rfl) (by simp) ?_
      refine AllReadyH.cons (o := { dst := some 128, op := Op.call { callee := Callee.value (Operand.func 9), args := #[Operand.tmp 125, Operand.tmp 127], argTypes := #[22, 22] }, type := 4, pos := "law.go:109", after := #[{ on := 3, ground := Ground.data }, { on := 5, ground := Ground.data }, { on := 5, ground := Ground.chain }, { on := 2, ground := Ground.guard }], guard := some (2, true) }) rfl (fun K hK => ?_) AllReadyH.nil
      go_simp
      go_at_call 9
      with_reducible refine (HSAMEM.out _ R16 c16 R18 c18 hrec16 hrec18).mono ?_
      rintro e w19 ⟨rfl, hb⟩
      have HCX := Lib.hid (HCX.out.trans (hb.mono HCX.out.size))
      have HCD := Lib.hid (HCD.out.trans (hb.mono HCD.out.size))
      have hrow17 := hrow17.below hb
      try go_wp2_with fail
      refine hK.out _ _ ?_ (fun hHeld2 => ?_)
      · exact hHeld.trans (hb.mono hHeld.size)
      clear hK K hHeld2
      refine wpAnyH_mono (S' := fun w' => Below w19.heap.size w19 w') (fun w' hw' => (hHeld.trans (hb.mono hHeld.size)).trans (hw'.mono (Nat.le_trans hHeld.size hb.size))) _ _ _ _ ?_
      clear hHeld hb
      have hHeld : Below w19.heap.size w19 w19 := Below.refl _ _
      try simp only [Act.put, List.setIfInBounds_toArray, List.set_cons_zero, List.set_cons_succ]
      refine wpAnyH_take (i := 7) (oi := { dst := some 129, op := Op.pick (Operand.tmp 124) (Operand.tmp 128) (Operand.const (Value.bool false)), type := 4, pos := "law.go:109", after := #[{ on := 2, ground := Ground.data }, { on := 6, ground := Ground.data }], guard := none }) (v := (.bool true)) rfl (by kernel_rfl) (by kernel_rfl) (by kernel_rfl) (fun _ _ _ h => h) (Or.inl ⟨by rfl, ?_⟩) (by assumption) ?_
      · intro w hSw
        clear hHeld HCX HCD
        go_simp
      simp only [Act.put, List.setIfInBounds_toArray, List.set_cons_zero, List.set_cons_succ]
      refine wpAnyH_take (i := 8) (oi := { dst := some 130, op := Op.move (Operand.tmp 129), type := 4, pos := "law.go:109", after := #[{ on := 7, ground := Ground.data }, { on := 6, ground := Ground.chain }], guard := none }) (v := (.bool true)) rfl (by kernel_rfl) (by kernel_rfl) (by kernel_rfl) (fun _ _ _ h => h) (Or.inl ⟨by rfl, ?_⟩) (by assumption) ?_
      · intro w hSw
        clear hHeld HCX HCD
        go_simp
      simp only [Act.put, List.setIfInBounds_toArray, List.set_cons_zero, List.set_cons_succ]
      refine wpAnyH_take (i := 9) (oi := { dst := some 131, op := Op.move (Operand.tmp 18), type := 26, pos := "law.go:109", after := #[{ on := 8, ground := Ground.guard }], guard := some (8, true) }) (v := (.int .i64 0)) rfl (by kernel_rfl) (by kernel_rfl) (by kernel_rfl) (fun _ _ _ h => h) (Or.inl ⟨by rfl, ?_⟩) (by assumption) ?_
      · intro w hSw
        clear hHeld HCX HCD
        go_simp
      simp only [Act.put, List.setIfInBounds_toArray, List.set_cons_zero, List.set_cons_succ]
      refine wpAnyH_take (i := 10) (oi := { dst := some 132, op := Op.binOp BinOp.eql 26 (Operand.tmp 131) (Operand.const (Value.int IntKind.i64 0)) 26, type := 4, pos := "law.go:109", after := #[{ on := 9, ground := Ground.data }, { on := 8, ground := Ground.guard }], guard := some (8, true) }) (v := (.bool true)) rfl (by kernel_rfl) (by kernel_rfl) (by kernel_rfl) (fun _ _ _ h => h) (Or.inl ⟨by rfl, ?_⟩) (by assumption) ?_
      · intro w hSw
        clear hHeld HCX HCD
        go_simp
      simp only [Act.put, List.setIfInBounds_toArray, List.set_cons_zero, List.set_cons_succ]
      refine wpAnyH_take (i := 11) (oi := { dst := some 133, op := Op.pick (Operand.tmp 130) (Operand.tmp 132) (Operand.const (Value.bool false)), type := 4, pos := "law.go:109", after := #[{ on := 8, ground := Ground.data }, { on := 10, ground := Ground.data }], guard := none }) (v := (.bool true)) rfl (by kernel_rfl) (by kernel_rfl) (by kernel_rfl) (fun _ _ _ h => h) (Or.inl ⟨by rfl, ?_⟩) (by assumption) ?_
      · intro w hSw
        clear hHeld HCX HCD
        go_simp
      simp only [Act.put, List.setIfInBounds_toArray, List.set_cons_zero, List.set_cons_succ]
      refine wpAnyH_take (i := 12) (oi := { dst := some 134, op := Op.move (Operand.tmp 133), type := 4, pos := "law.go:109", after := #[{ on := 11, ground := Ground.data }, { on := 8, ground := Ground.chain }], guard := none }) (v := (.bool true)) rfl (by kernel_rfl) (by kernel_rfl) (by kernel_rfl) (fun _ _ _ h => h) (Or.inl ⟨by rfl, ?_⟩) (by assumption) ?_
      · intro w hSw
        clear hHeld HCX HCD
        go_simp
      simp only [Act.put, List.setIfInBounds_toArray, List.set_cons_zero, List.set_cons_succ]
      refine wpAnyH_take (i := 13) (oi := { dst := some 135, op := Op.move (Operand.tmp 17), type := 30, pos := "law.go:109", after := #[{ on := 12, ground := Ground.guard }], guard := some (12, true) }) (v := (.slice A17 M c17)) rfl (by kernel_rfl) (by kernel_rfl) (by kernel_rfl) (fun _ _ _ h => h) (Or.inl ⟨by rfl, ?_⟩) (by assumption) ?_
      · intro w hSw
        clear hHeld HCX HCD
        go_simp
      simp only [Act.put, List.setIfInBounds_toArray, List.set_cons_zero, List.set_cons_succ]
      refine wpAnyH_take (i := 14) (oi := { dst := some 136, op := Op.convert 30 9 (Operand.tmp 135), type := 9, pos := "law.go:109", after := #[{ on := 13, ground := Ground.data }, { on := 12, ground := Ground.guard }], guard := some (12, true) }) (v := (.string TX)) rfl (by kernel_rfl) (by kernel_rfl) (by kernel_rfl) (fun _ _ _ h => h) (Or.inl ⟨by rfl, ?_⟩) (by assumption) ?_
      · intro w hSw
        have hcv := HCONV.out w A17 c17 (hrow17.below hSw)
        clear hHeld HCX HCD
        go_simp
      simp only [Act.put, List.setIfInBounds_toArray, List.set_cons_zero, List.set_cons_succ]
      refine wpAnyH_take (i := 15) (oi := { dst := some 137, op := Op.move (Operand.tmp 1), type := 22, pos := "law.go:109", after := #[{ on := 12, ground := Ground.guard }], guard := some (12, true) }) (v := (.slice a1 len1 cap1)) rfl (by kernel_rfl) (by kernel_rfl) (by kernel_rfl) (fun _ _ _ h => h) (Or.inl ⟨by rfl, ?_⟩) (by assumption) ?_
      · intro w hSw
        clear hHeld HCX HCD
        go_simp
      simp only [Act.put, List.setIfInBounds_toArray, List.set_cons_zero, List.set_cons_succ]
      refine wpAnyH_ready (rs := [16]) (by kernel_rfl) (by simp) ?_
      refine AllReadyH.cons (o := { dst := some 138, op := Op.call { callee := Callee.value (Operand.func 7), args := #[Operand.tmp 137], argTypes := #[22] }, type := 22, pos := "law.go:109", after := #[{ on := 15, ground := Ground.data }, { on := 12, ground := Ground.chain }, { on := 12, ground := Ground.guard }], guard := some (12, true) }) rfl (fun K hK => ?_) AllReadyH.nil
      go_simp
      go_at_call 7
      with_reducible refine (HMORE.out _ HCX.out).mono ?_
      rintro e w20 ⟨R20, c20, rfl, hrec20, _, hb⟩
      have HCX := Lib.hid (HCX.out.trans (hb.mono HCX.out.size))
      have HCD := Lib.hid (HCD.out.trans (hb.mono HCD.out.size))
      have hrow17 := hrow17.below hb
      try go_wp2_with fail
      refine hK.out _ _ ?_ (fun hHeld2 => ?_)
      · exact hHeld.trans (hb.mono hHeld.size)
      clear hK K hHeld2
      refine wpAnyH_mono (S' := fun w' => Below w20.heap.size w20 w') (fun w' hw' => (hHeld.trans (hb.mono hHeld.size)).trans (hw'.mono (Nat.le_trans hHeld.size hb.size))) _ _ _ _ ?_
      clear hHeld hb
      have hHeld : Below w20.heap.size w20 w20 := Below.refl _ _
      try simp only [Act.put, List.setIfInBounds_toArray, List.set_cons_zero, List.set_cons_succ]
      refine wpAnyH_ready (rs := [17]) (by kernel_rfl) (by simp) ?_
      refine AllReadyH.cons (o := { dst := some 139, op := Op.call { callee := Callee.value (Operand.func 12), args := #[Operand.tmp 138], argTypes := #[22] }, type := 30, pos := "law.go:109", after := #[{ on := 16, ground := Ground.data }, { on := 16, ground := Ground.chain }, { on := 12, ground := Ground.guard }], guard := some (12, true) }) rfl (fun K hK => ?_) AllReadyH.nil
      go_simp
      go_at_call 12
      with_reducible refine (HALLM.out _ R20 c20 hrec20).mono ?_
      rintro e w21 ⟨A21, c21, rfl, hrow21, hb⟩
      have HCX := Lib.hid (HCX.out.trans (hb.mono HCX.out.size))
      have HCD := Lib.hid (HCD.out.trans (hb.mono HCD.out.size))
      have hrow17 := hrow17.below hb
      try go_wp2_with fail
      refine hK.out _ _ ?_ (fun hHeld2 => ?_)
      · exact hHeld.trans (hb.mono hHeld.size)
      clear hK K hHeld2
      refine wpAnyH_mono (S' := fun w' => Below w21.heap.size w21 w') (fun w' hw' => (hHeld.trans (hb.mono hHeld.size)).trans (hw'.mono (Nat.le_trans hHeld.size hb.size))) _ _ _ _ ?_
      clear hHeld hb
      have hHeld : Below w21.heap.size w21 w21 := Below.refl _ _
      try simp only [Act.put, List.setIfInBounds_toArray, List.set_cons_zero, List.set_cons_succ]
      refine wpAnyH_take (i := 18) (oi := { dst := some 140, op := Op.convert 30 9 (Operand.tmp 139), type := 9, pos := "law.go:109", after := #[{ on := 17, ground := Ground.data }, { on := 12, ground := Ground.guard }], guard := some (12, true) }) (v := (.string TX)) rfl (by kernel_rfl) (by kernel_rfl) (by kernel_rfl) (fun _ _ _ h => h) (Or.inl ⟨by rfl, ?_⟩) (by assumption) ?_
      · intro w hSw
        have hcv := HCONV.out w A21 c21 (hrow21.below hSw)
        clear hHeld HCX HCD
        go_simp
      simp only [Act.put, List.setIfInBounds_toArray, List.set_cons_zero, List.set_cons_succ]
      refine wpAnyH_take (i := 19) (oi := { dst := some 141, op := Op.binOp BinOp.eql 9 (Operand.tmp 136) (Operand.tmp 140) 9, type := 4, pos := "law.go:109", after := #[{ on := 14, ground := Ground.data }, { on := 18, ground := Ground.data }, { on := 12, ground := Ground.guard }], guard := some (12, true) }) (v := (.bool true)) rfl (by kernel_rfl) (by kernel_rfl) (by kernel_rfl) (fun _ _ _ h => h) (Or.inl ⟨by rfl, ?_⟩) (by assumption) ?_
      · intro w hSw
        clear hHeld HCX HCD
        go_simp
      simp only [Act.put, List.setIfInBounds_toArray, List.set_cons_zero, List.set_cons_succ]
      refine wpAnyH_take (i := 20) (oi := { dst := some 142, op := Op.pick (Operand.tmp 134) (Operand.tmp 141) (Operand.const (Value.bool false)), type := 4, pos := "law.go:109", after := #[{ on := 12, ground := Ground.data }, { on := 19, ground := Ground.data }], guard := none }) (v := (.bool true)) rfl (by kernel_rfl) (by kernel_rfl) (by kernel_rfl) (fun _ _ _ h => h) (Or.inl ⟨by rfl, ?_⟩) (by assumption) ?_
      · intro w hSw
        clear hHeld HCX HCD
        go_simp
      simp only [Act.put, List.setIfInBounds_toArray, List.set_cons_zero, List.set_cons_succ]
      refine wpAnyH_take (i := 21) (oi := { dst := some 143, op := Op.move (Operand.tmp 142), type := 4, pos := "law.go:109", after := #[{ on := 20, ground := Ground.data }, { on := 17, ground := Ground.chain }], guard := none }) (v := (.bool true)) rfl (by kernel_rfl) (by kernel_rfl) (by kernel_rfl) (fun _ _ _ h => h) (Or.inl ⟨by rfl, ?_⟩) (by assumption) ?_
      · intro w hSw
        clear hHeld HCX HCD
        go_simp
      simp only [Act.put, List.setIfInBounds_toArray, List.set_cons_zero, List.set_cons_succ]
      refine wpAnyH_take (i := 22) (oi := { dst := some 144, op := Op.move (Operand.tmp 5), type := 23, pos := "law.go:109", after := #[{ on := 21, ground := Ground.guard }], guard := some (21, true) }) (v := (.pointer (some ⟨W.heap.size, 0, none⟩))) rfl (by kernel_rfl) (by kernel_rfl) (by kernel_rfl) (fun _ _ _ h => h) (Or.inl ⟨by rfl, ?_⟩) (by assumption) ?_
      · intro w hSw
        clear hHeld HCX HCD
        go_simp
      simp only [Act.put, List.setIfInBounds_toArray, List.set_cons_zero, List.set_cons_succ]
      refine wpAnyH_ready (rs := [23]) (by kernel_rfl) (by simp) ?_
      refine AllReadyH.cons (o := { dst := some 145, op := Op.call { callee := Callee.value (Operand.func 16), args := #[Operand.tmp 144], argTypes := #[23] }, type := 39, pos := "law.go:109", after := #[{ on := 22, ground := Ground.data }, { on := 21, ground := Ground.chain }, { on := 21, ground := Ground.guard }], guard := some (21, true) }) rfl (fun K hK => ?_) AllReadyH.nil
      go_simp
      go_at_call 16
      with_reducible refine ((HDISK.out _ HCD.out).2).mono ?_
      rintro e w22 ⟨A22, c22, rfl, hb⟩
      have HCX := Lib.hid (HCX.out.trans (hb.mono HCX.out.size))
      have HCD := Lib.hid (HCD.out.trans (hb.mono HCD.out.size))
      have hrow17 := hrow17.below hb
      have hrow21 := hrow21.below hb
      try go_wp2_with fail
      refine hK.out _ _ ?_ (fun hHeld2 => ?_)
      · exact hHeld.trans (hb.mono hHeld.size)
      clear hK K hHeld2
      refine wpAnyH_mono (S' := fun w' => Below w22.heap.size w22 w') (fun w' hw' => (hHeld.trans (hb.mono hHeld.size)).trans (hw'.mono (Nat.le_trans hHeld.size hb.size))) _ _ _ _ ?_
      clear hHeld hb
      have hHeld : Below w22.heap.size w22 w22 := Below.refl _ _
      try simp only [Act.put, List.setIfInBounds_toArray, List.set_cons_zero, List.set_cons_succ]
      refine wpAnyH_take (i := 24) (oi := { dst := some 146, op := Op.call { callee := Callee.builtin Builtin.len, args := #[Operand.tmp 145], argTypes := #[39] }, type := 3, pos := "law.go:109", after := #[{ on := 23, ground := Ground.data }, { on := 21, ground := Ground.guard }], guard := some (21, true) }) (v := (.int .i64 1)) rfl (by kernel_rfl) (by kernel_rfl) (by kernel_rfl) (fun _ _ _ h => h) (Or.inl ⟨by rfl, ?_⟩) (by assumption) ?_
      · intro w hSw
        clear hHeld HCX HCD
        go_simp
      simp only [Act.put, List.setIfInBounds_toArray, List.set_cons_zero, List.set_cons_succ]
      refine wpAnyH_take (i := 25) (oi := { dst := some 147, op := Op.binOp BinOp.eql 3 (Operand.tmp 146) (Operand.const (Value.int IntKind.i64 1)) 3, type := 4, pos := "law.go:109", after := #[{ on := 24, ground := Ground.data }, { on := 21, ground := Ground.guard }], guard := some (21, true) }) (v := (.bool true)) rfl (by kernel_rfl) (by kernel_rfl) (by kernel_rfl) (fun _ _ _ h => h) (Or.inl ⟨by rfl, ?_⟩) (by assumption) ?_
      · intro w hSw
        clear hHeld HCX HCD
        go_simp
      simp only [Act.put, List.setIfInBounds_toArray, List.set_cons_zero, List.set_cons_succ]
      refine wpAnyH_take (i := 26) (oi := { dst := some 148, op := Op.pick (Operand.tmp 143) (Operand.tmp 147) (Operand.const (Value.bool false)), type := 4, pos := "law.go:109", after := #[{ on := 21, ground := Ground.data }, { on := 25, ground := Ground.data }], guard := none }) (v := (.bool true)) rfl (by kernel_rfl) (by kernel_rfl) (by kernel_rfl) (fun _ _ _ h => h) (Or.inl ⟨by rfl, ?_⟩) (by assumption) ?_
      · intro w hSw
        clear hHeld HCX HCD
        go_simp
      simp only [Act.put, List.setIfInBounds_toArray, List.set_cons_zero, List.set_cons_succ]
      refine wpAnyH_take (i := 27) (oi := { dst := some 149, op := Op.move (Operand.tmp 148), type := 4, pos := "law.go:109", after := #[{ on := 26, ground := Ground.data }, { on := 23, ground := Ground.chain }], guard := none }) (v := (.bool true)) rfl (by kernel_rfl) (by kernel_rfl) (by kernel_rfl) (fun _ _ _ h => h) (Or.inl ⟨by rfl, ?_⟩) (by assumption) ?_
      · intro w hSw
        clear hHeld HCX HCD
        go_simp
      simp only [Act.put, List.setIfInBounds_toArray, List.set_cons_zero, List.set_cons_succ]
      refine wpAnyH_ready (rs := [28]) (by kernel_rfl) (by simp) ?_
      refine AllReadyH.cons (o := { dst := some 150, op := Op.call { callee := Callee.value (Operand.func 17), args := #[], argTypes := #[] }, type := 4, pos := "law.go:109", after := #[{ on := 27, ground := Ground.chain }, { on := 27, ground := Ground.guard }], guard := some (27, true) }) rfl (fun K hK => ?_) AllReadyH.nil
      go_simp
      go_at_call 17
      with_reducible refine (lives_true _).mono ?_
      rintro e w23 ⟨rfl, hb⟩
      have HCX := Lib.hid (HCX.out.trans (hb.mono HCX.out.size))
      have HCD := Lib.hid (HCD.out.trans (hb.mono HCD.out.size))
      have hrow17 := hrow17.below hb
      have hrow21 := hrow21.below hb
      try go_wp2_with fail
      refine hK.out _ _ ?_ (fun hHeld2 => ?_)
      · exact hHeld.trans (hb.mono hHeld.size)
      clear hK K hHeld2
      refine wpAnyH_mono (S' := fun w' => Below w23.heap.size w23 w') (fun w' hw' => (hHeld.trans (hb.mono hHeld.size)).trans (hw'.mono (Nat.le_trans hHeld.size hb.size))) _ _ _ _ ?_
      clear hHeld hb
      have hHeld : Below w23.heap.size w23 w23 := Below.refl _ _
      try simp only [Act.put, List.setIfInBounds_toArray, List.set_cons_zero, List.set_cons_succ]
      refine wpAnyH_take (i := 29) (oi := { dst := some 151, op := Op.pick (Operand.tmp 149) (Operand.tmp 150) (Operand.const (Value.bool false)), type := 4, pos := "law.go:109", after := #[{ on := 27, ground := Ground.data }, { on := 28, ground := Ground.data }], guard := none }) (v := (.bool true)) rfl (by kernel_rfl) (by kernel_rfl) (by kernel_rfl) (fun _ _ _ h => h) (Or.inl ⟨by rfl, ?_⟩) (by assumption) ?_
      · intro w hSw
        clear hHeld HCX HCD
        go_simp
      simp only [Act.put, List.setIfInBounds_toArray, List.set_cons_zero, List.set_cons_succ]
      refine wpAnyH_take (i := 30) (oi := { dst := some 4, op := Op.assign (Operand.tmp 151), type := 4, pos := "law.go:109", after := #[{ on := 29, ground := Ground.data }, { on := 28, ground := Ground.chain }, { on := 0, ground := Ground.phase }, { on := 1, ground := Ground.phase }, { on := 2, ground := Ground.phase }, { on := 3, ground := Ground.phase }, { on := 4, ground := Ground.phase }, { on := 5, ground := Ground.phase }, { on := 6, ground := Ground.phase }, { on := 7, ground := Ground.phase }, { on := 8, ground := Ground.phase }, { on := 9, ground := Ground.phase }, { on := 10, ground := Ground.phase }, { on := 11, ground := Ground.phase }, { on := 12, ground := Ground.phase }, { on := 13, ground := Ground.phase }, { on := 14, ground := Ground.phase }, { on := 15, ground := Ground.phase }, { on := 16, ground := Ground.phase }, { on := 17, ground := Ground.phase }, { on := 18, ground := Ground.phase }, { on := 19, ground := Ground.phase }, { on := 20, ground := Ground.phase }, { on := 21, ground := Ground.phase }, { on := 22, ground := Ground.phase }, { on := 23, ground := Ground.phase }, { on := 24, ground := Ground.phase }, { on := 25, ground := Ground.phase }, { on := 26, ground := Ground.phase }, { on := 27, ground := Ground.phase }, { on := 28, ground := Ground.phase }, { on := 29, ground := Ground.phase }], guard := none }) (v := (.bool true)) rfl (by kernel_rfl) (by kernel_rfl) (by kernel_rfl) (fun _ _ _ h => h) (Or.inl ⟨by rfl, ?_⟩) (by assumption) ?_
      · intro w hSw
        clear hHeld HCX HCD
        go_simp
      simp only [Act.put, List.setIfInBounds_toArray, List.set_cons_zero, List.set_cons_succ]
      refine wpAnyH_done (by kernel_rfl) ?_ _
      go_wp2
      go_ret
      exact ⟨rfl, HCX.out⟩
end Go.Proofs.Ytihlbbpnldgenaa
