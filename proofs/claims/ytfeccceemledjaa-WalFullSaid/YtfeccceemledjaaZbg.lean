/-
  The walk of the law WalFull: it answers true and writes nothing that was there.
-/
import Derived.Test.YtfeccceemledjaaZbe
import Derived.Test.YtfeccceemledjaaZbf
import Derived.Test.YtfeccceemledjaaZaq
namespace Go.Proofs.Ytfeccceemledjaa
open Go.RowKit Go.Shelf
set_option linter.unusedVariables false
set_option maxRecDepth 100000

/-- A line of slices, and what they hold. -/
theorem recs_line {W0 W : World} {A : Option Addr} {n c : Nat} {vs : List Value} {us : List (List Nat)} (h : SLine 1 W A n c vs) (hr : RecsR W0 vs us) (hb : Below W0.heap.size W0 W) : Recs W A n us := by
  refine ⟨vs, ⟨by have := h.1; omega, fun hn => ?_⟩, hr.below hb⟩
  obtain ⟨g, off, e, hg, hc, _⟩ := h.at hn
  exact ⟨g, off, e, hg, fun j v hv => by
    have h1 := h.1
    have := (List.getElem?_eq_some_iff.1 hv).1
    rw [hc j (by omega), hv]⟩
/-- What stays of a line where all its blocks stay. -/
theorem sline_kept {W W' : World} {l : Nat} {o o' : Nat → Nat} {A : Option Addr} {n c : Nat} {vs : List Value} (h : SLine 1 W A n c vs) (hk : Kept l o W o' W') (h0 : ∀ j ∈ blk A, o j = 0 ∧ j ≠ l) : SLine 1 W' A n c vs :=
  h.same hk.1 (fun j hj => (hk.2 j (h.lt j hj) (h0 j hj).1 (h0 j hj).2).2)
theorem smallRs_snoc {us : List (List Nat)} {z : List Nat} (h : SmallRs us) (hl : us.length < 30) (hz : z.length ≤ 300) (hb : bytesN z) : SmallRs (us ++ [z]) := by
  refine ⟨by rw [List.length_append, List.length_singleton]; omega, fun r hr => ?_⟩
  rcases List.mem_append.1 hr with h' | h'
  · exact h.2 r h'
  · rw [List.mem_singleton.1 h']; exact ⟨hz, hb⟩
/-- All that stands in memory in the law's loop. -/
structure FullAt (W w2 : World) (d : Nat) (own0 : Nat → Nat) (l m : Nat) (o4 : Nat → Nat) (w4 : World) (us : List (List Nat)) (A : Option Addr) (c n k : Nat) (wr : World) : Prop where
  log : ∃ own' fl, LogAt w2 d own0 (logS LOG (valsN us) 0 (m : Int) fl n) l LOG 0 us.length (allN us).length own' wr ∧ Kept l o4 w4 own' wr ∧ ∀ j ∈ blk A, own' j = 0 ∧ j ≠ l ∧ w4.heap.size ≤ j
  line : ∃ vs, SLine 1 wr A us.length c vs ∧ RecsR W vs us
  small : SmallRs us
  len : us.length ≤ k ∧ n ≤ k + 2 ∧ (allN us).length ≤ m
/-- Reset, with or without room: the file has the same frames. -/
theorem reset_all {w W : World} {d l : Nat} {own own' : Nat → Nat} {us : List (List Nat)} {q : Int} {fl : Bool} {n : Nat} (h : LogAt w d own (logS LOG (valsN us) 0 q fl n) l LOG 0 us.length (allN us).length own' W) (hn : n ≤ 1000) (A : Option Addr) (cap : Nat) (hR : Recs W A us.length us) (hs : SmallRs us) (h0 : ((allN us).length : Int) ≤ q) (a : Int) (ha : a = 0 ∧ 2 * ((allN us).length : Int) ≤ q ∨ a = 4 ∧ ¬ 2 * ((allN us).length : Int) ≤ q) :
    Calls Try.prog 15 #[.pointer (some ⟨l, 0, none⟩), .slice A us.length cap] W fun e w' => e = .returned (.int .i64 a) ∧ ∃ own'' rZ, LogAt w d own rZ l LOG 0 us.length (allN us).length own'' w' ∧ Kept l own' W own'' w' ∧ rZ.off = false ∧ hasP ltS rZ.now LOG = true ∧ (rZ.get LOG).data = valsN us ∧ rZ.now.length = 1 := by
  rcases ha with ⟨rfl, hf⟩ | ⟨rfl, hf⟩
  · refine (reset_yes h hn A us.length cap hR hs hf).mono fun e w' hh => ⟨hh.1, ?_⟩
    obtain ⟨own'', q1, q2⟩ := hh.2
    have s := logE_sees LOG (valsN us) (valsN us) 0 (valsN us).length (n + us.length + 4) q fl
    exact ⟨own'', _, q1, q2, s.2.2.2.1, s.2.1, by rw [s.2.2.1], by rw [s.1]; rfl⟩
  · refine (reset_no h hn A us.length cap hR hs h0 hf).mono fun e w' hh => ⟨hh.1, ?_⟩
    obtain ⟨own'', zs, m, q1, q2, _⟩ := hh.2
    have s := logF_sees LOG LOGT (valsN us) zs 0 0 m q true log_lt
    exact ⟨own'', _, q1, q2, s.2.2.2.1, s.2.1, by rw [s.2.2.1], by rw [s.1]; rfl⟩
set_option maxHeartbeats 6400000 in
theorem walFull_walk (a0 : Option Addr) (len0 cap0 : Nat) (a1 : Int) (W : World) (w0 : RowsIn W a0 len0 cap0) (w1 : (Lit.int .i64 a1).wf = true) :
    Calls Try.prog 5 #[.slice a0 len0 cap0, .int .i64 a1] W fun e w' => e = .returned (.bool true) ∧ Below W.heap.size W w' := by
  have ha1 := bounds_i64 w1
  obtain ⟨m, hm, hm3⟩ : ∃ m : Nat, max 0 (min a1 3000) = (m : Int) ∧ m ≤ 3000 := ⟨(max 0 (min a1 3000)).toNat, by omega, by omega⟩
  have HNEW := Lib.hid (fun (w : World) => IsD.new (m : Int) (by omega) w)
  obtain ⟨hn1, hn2⟩ := logNew LOG (m : Int) log_ok
  rw [show max (m : Int) 0 = (m : Int) by omega] at hn1 hn2
  have HOPEN := Lib.hid (fun (w : World) (d : Nat) (own : Nat → Nat) (H : IsD w d own (RD.fresh (m : Int))) => open_fresh w d own _ _ _ LOG H (by decide) log_both rfl rfl (by show 0 + 0 + 0 + 2 * 0 + 4 ≤ 80000; omega) (by show 1 + 1 + 0 + 2 * 1 + 4 ≤ 80000; omega) hn1 hn2)
  have HROWS := Lib.hid w0
  clear hn1 hn2 w0 w1
  unfold LOG at HOPEN
  go_enter Try.func5, Try.ntmps5
  go_wp2_with (first
    | (go_at_call 7; refine (HNEW.out W).mono ?_; rintro e w2 ⟨rfl, own0, ho, hd, hb2⟩; have HD := Lib.hid (And.intro ho (And.intro hd hb2)); clear ho hd hb2)
    | (go_at_call 8; with_reducible refine (HOPEN.out w2 _ _ HD.out.2.1).mono ?_; rintro e w3 ⟨own3, l, R3, c3, rfl, hlog⟩; have HL := Lib.hid hlog; clear hlog)
    | (go_at_call 9; refine (cut_new W w3 (HD.out.2.2.trans (HL.out.only.toBelow (B := W.heap.size) (fun i hi => HD.out.1 i hi) HD.out.2.2.size)) a0 len0 cap0 HROWS.out).mono ?_; rintro e w4 ⟨R, c, rs, rfl, _, hsm, hrc, hc63, hb4, ⟨vs, hsl, hrr⟩, hnew⟩; have HCUT := Lib.hid (And.intro hsm (And.intro hb4 (And.intro hsl (And.intro hrr hnew)))); clear hsm hb4 hsl hrr hnew))
  have HL' : Hid (LogAt w2 W.heap.size own0 (logS LOG (valsN []) 0 (m : Int) false 2) l LOG 0 0 0 own3 w4) := Lib.hid (HL.out.below HCUT.out.2.1)
  have HLT : Hid (l < w3.heap.size ∧ (∀ i, w3.heap.size ≤ i → own3 i = 0) ∧ w3.heap.size ≤ w4.heap.size) := Lib.hid ⟨HL.out.box.lt, HL.out.disk.1, HCUT.out.2.1.size⟩
  have HWB : Hid (∀ (own' : Nat → Nat) (V : World), Only own0 w2 own' V → Below W.heap.size W V) := Lib.hid (fun own' V hO => HD.out.2.2.trans (hO.toBelow (B := W.heap.size) (fun i hi => HD.out.1 i hi) HD.out.2.2.size))
  have HW2 : Hid (W.heap.size ≤ w2.heap.size) := Lib.hid HD.out.2.2.size
  have hr30 : rs.length ≤ 30 := HCUT.out.1.1
  have HW42 : Hid (w2.heap.size ≤ w4.heap.size) := Lib.hid (Nat.le_trans HL.out.only.1.size HCUT.out.2.1.size)
  clear HL HNEW HOPEN HROWS HD
  go_loopw [9, 35] (fun v i wr => ∃ (k : Nat) (us : List (List Nat)) (A : Option Addr) (cA n : Nat), k ≤ rs.length ∧ i = .int .i64 k ∧ v = .slice A us.length cA ∧ Hid (FullAt W w2 W.heap.size own0 l m own3 w4 us A cA n k wr)) (fun _ i _ => rs.length - (intOf i).toNat)
  case atStart => exact ⟨0, [], none, 0, 2, by omega, rfl, rfl, Lib.hid ⟨⟨own3, false, HL'.out, Kept.refl _ _ _, fun j hj => (by cases hj)⟩, ⟨[], SLine.nil 1 _, ⟨rfl, fun i v r h => by simp at h⟩⟩, ⟨by simp, fun r hr => by cases hr⟩, ⟨by simp, by omega, by show 0 ≤ m; omega⟩⟩⟩
  case round =>
    obtain ⟨k, us, A, cA, n, hk, rfl, rfl, HI⟩ := hrel
    have hk0 : (0 : Int) ≤ (k : Int) := by omega
    rcases Nat.lt_or_ge k rs.length with hkn | hkn
    · obtain ⟨own', fl, hlg, hkp, hA0⟩ := HI.out.log
      obtain ⟨vsA, hlA, hrA⟩ := HI.out.line
      obtain ⟨hlen1, hlen2, hlen3⟩ := HI.out.len
      obtain ⟨z, hz⟩ : ∃ z, rs[k]? = some z := ⟨_, List.getElem?_eq_getElem hkn⟩
      obtain ⟨g, off, rfl, hg, hc, _⟩ := HCUT.out.2.2.1.at (by omega)
      have hvl : vs.length = rs.length := HCUT.out.2.2.2.1.1
      obtain ⟨v, hv⟩ : ∃ v, vs[k]? = some v := ⟨_, List.getElem?_eq_getElem (by omega)⟩
      obtain ⟨Az, cz, rfl, hzc, hrow⟩ := HCUT.out.2.2.2.1.2 k v z hv hz
      have hgn := HCUT.out.2.2.2.2 g (mem_blk.2 ⟨_, rfl, rfl⟩)
      have hgk := hkp.2 g hg (HLT.out.2.1 g hgn) (by have := HLT.out.1; omega)
      have hck : wr.cell? ⟨g, off + k, none⟩ = some (.slice Az z.length cz) := (World.cell?_of_block (w := w4) (a := ⟨g, off + k, none⟩) hgk.2).trans ((hc k (by omega)).trans hv)
      have hzs := HCUT.out.1.2 z (List.mem_of_getElem? hz)
      have hrowr := hrow.below (HWB.out own' wr hlg.only)
      have hub := HI.out.small.bytes
      have hkn' : (k : Int) < (rs.length : Int) := by omega
      obtain ⟨L, hLe⟩ : ∃ L, (allN us).length = L := ⟨_, rfl⟩
      obtain ⟨zl, hzl⟩ : ∃ zl, z.length = zl := ⟨_, rfl⟩
      have hL9 : L ≤ 9240 := by omega
      have hzl3 : zl ≤ 300 := by omega
      by_cases hfit : (L : Int) + (zl : Int) + 8 ≤ (m : Int)
      · have HADD := Lib.hid (add_yes hlg (by omega) Az z.length cz z hrowr (by omega) (by omega) (by omega) (by omega) (by omega))
        rw [hzl] at hck HADD
        have HX := Lib.hid (And.intro hA0 (And.intro hlA (And.intro hrA (And.intro hkp (And.intro hrow (And.intro hzc hz))))))
        have HLE := Lib.hid (And.intro hLe hzl)
        have HZS := Lib.hid (And.intro hzs (And.intro hlen1 (And.intro hlen2 hlen3)))
        clear hlg hkp hA0 hlA hrA hz hc hv hrow hgn hgk hzs hrowr hub hzl hLe hzc hg hlen1 hlen2 hlen3 hvl
        go_wp2_with (first
          | (go_at_call 10; refine HADD.out.mono ?_; rintro e w5 ⟨rfl, own5, h5, hk5⟩; have hl5 := sline_kept HX.out.2.1 hk5 (fun j hj => ⟨(HX.out.1 j hj).1, (HX.out.1 j hj).2.1⟩); have HALL := Lib.hid (refall_any w5 A us.length cA us (recs_line hl5 HX.out.2.2.1 (HWB.out own5 w5 h5.only)) HI.out.small); rw [HLE.out.1] at HALL; have H5 := Lib.hid (And.intro h5 (And.intro hk5 hl5)); clear h5 hk5 hl5)
          | (go_at_call 14; refine HALL.out.mono ?_; rintro e w6 ⟨⟨A6, c6, rfl, _, _⟩, hb6⟩; obtain ⟨A7, c7, w7, hr7, hl7, hc7, hf7⟩ := recs_push w6 22 A us.length cA vsA (H5.out.2.2.below hb6) (by have := HI.out.small.1; omega) Az zl cz; have HR7 := Lib.hid hr7; have H7 := Lib.hid (And.intro hb6 (And.intro hl7 (And.intro hc7 hf7))); clear hb6 hr7 hl7 hc7 hf7)
          | (at_builtin; refine Lib.wpList_append_run _ rfl _ _ _ _ rfl _ _ rfl rfl _ _ HR7.out ?_))
        have HNEXT : Hid (FullAt W w2 W.heap.size own0 l m own3 w4 (us ++ [z]) A7 c7 (n + 1) (k + 1) w7) := Lib.hid (by
          obtain ⟨x1, x2, x3, x4, x5, x6, x7⟩ := HX.out
          obtain ⟨y1, y2, y3⟩ := H5.out
          obtain ⟨v1, v2, v3, v4⟩ := H7.out
          obtain ⟨s1, s2, s3, s4⟩ := HZS.out
          obtain ⟨e1, e2⟩ := HLE.out
          have b1 := y2.1
          have b2 := v1.size
          have b3 := x4.1
          have b4 := HLT.out.2.2
          have b5 := HLT.out.1
          have eL : (allN (us ++ [z])).length = L + (zl + 8) := by rw [allN_snoc, List.length_append, frameN_length, e1, e2]
          have eu : (us ++ [z]).length = us.length + 1 := by simp
          have hA5 : ∀ j ∈ blk A, own5 j = 0 ∧ j ≠ l ∧ w4.heap.size ≤ j := fun j hj => ⟨(y2.2 j (x2.lt j hj) (x1 j hj).1 (x1 j hj).2.1).1, (x1 j hj).2⟩
          have hlog7 := (y1.below v1).chg v3 (fun j hj => ⟨(hA5 j hj).1, (hA5 j hj).2.1, by have := (hA5 j hj).2.2; have := y1.only.1.size; have := HW42.out; omega⟩)
          have e3 : ((us.length + 1 : Nat) : Int) = (us.length : Int) + 1 := by omega
          have e4 : ((L + (zl + 8) : Nat) : Int) = ((allN us).length : Int) + ((zl : Int) + 8) := by omega
          refine ⟨⟨own5, fl, by rw [eu, eL, e3, e4]; exact hlog7, ⟨by have := v3.size; omega, fun j hj h0 hl => ?_⟩, fun j hj => ?_⟩, ⟨vsA ++ [.slice Az zl cz], by rw [eu]; exact v2, by rw [← e2]; exact x3.snoc x6 x5⟩, smallRs_snoc HI.out.small (by omega) (by omega) s1.2, ⟨by omega, by omega, by omega⟩⟩
          · have a := (x4.trans (y2.trans (Kept.of_below l own5 v1))).2 j hj h0 hl
            exact ⟨a.1, (v3.same j (by omega) (fun hm => by have := (hA5 j hm).2.2; omega)).trans a.2⟩
          · rcases v4 j hj with hm | hm
            · exact hA5 j hm
            · exact ⟨y1.disk.1 j (by omega), by omega, by omega⟩)
        go_roundw
        case rel => exact ⟨k + 1, us ++ [z], A7, c7, n + 1, by omega, by go_num, by rw [List.length_append]; rfl, HNEXT⟩
        case measure => simp [intOf]; omega
      · have HADD := Lib.hid (add_no hlg (by omega) Az z.length cz z hrowr (by omega) (by omega) (by omega) (by omega) (by omega))
        rw [hzl] at hck HADD
        have HX := Lib.hid (And.intro hA0 (And.intro hlA (And.intro hrA hkp)))
        have HLE := Lib.hid (And.intro hLe hzl)
        have HZS := Lib.hid (And.intro hlen1 (And.intro hlen2 hlen3))
        clear hlg hkp hA0 hlA hrA hz hc hv hrow hgn hgk hzs hrowr hub hzl hLe hzc hg hlen1 hlen2 hlen3 hvl
        go_wp2_with (first
          | (go_at_call 10; refine HADD.out.mono ?_; rintro e w5 ⟨rfl, own5, h5, hk5⟩; have hl5 := sline_kept HX.out.2.1 hk5 (fun j hj => ⟨(HX.out.1 j hj).1, (HX.out.1 j hj).2.1⟩); have HALL := Lib.hid (refall_any w5 A us.length cA us (recs_line hl5 HX.out.2.2.1 (HWB.out own5 w5 h5.only)) HI.out.small); rw [HLE.out.1] at HALL; have H5 := Lib.hid (And.intro h5 (And.intro hk5 hl5)); clear h5 hk5 hl5)
          | (go_at_call 14; refine HALL.out.mono ?_; rintro e w6 ⟨⟨A6, c6, rfl, _, _⟩, hb6⟩; have H6 := Lib.hid hb6; clear hb6))
        have HNEXT : Hid (FullAt W w2 W.heap.size own0 l m own3 w4 us A cA (n + 1) (k + 1) w6) := Lib.hid (by
          obtain ⟨x1, x2, x3, x4⟩ := HX.out
          obtain ⟨y1, y2, y3⟩ := H5.out
          have v1 := H6.out
          obtain ⟨s2, s3, s4⟩ := HZS.out
          exact ⟨⟨own5, true, y1.below v1, x4.trans (y2.trans (Kept.of_below l own5 v1)), fun j hj => ⟨(y2.2 j (x2.lt j hj) (x1 j hj).1 (x1 j hj).2.1).1, (x1 j hj).2⟩⟩, ⟨vsA, y3.below v1, x3⟩, HI.out.small, ⟨by omega, by omega, s4⟩⟩)
        go_roundw
        case rel => exact ⟨k + 1, us, A, cA, n + 1, by omega, by go_num, rfl, HNEXT⟩
        case measure => simp [intOf]; omega
    · obtain rfl : k = rs.length := by omega
      obtain ⟨own', fl, hlg, hkp, hA0⟩ := HI.out.log
      obtain ⟨vsA, hlA, hrA⟩ := HI.out.line
      obtain ⟨hlen1, hlen2, hlen3⟩ := HI.out.len
      have hub := HI.out.small.bytes
      have hbw := HWB.out own' wr hlg.only
      obtain ⟨L, hLe⟩ : ∃ L, (allN us).length = L := ⟨_, rfl⟩
      have hL9 : L ≤ 9240 := by omega
      obtain ⟨a, ha⟩ : ∃ a : Int, a = 0 ∧ 2 * ((allN us).length : Int) ≤ (m : Int) ∨ a = 4 ∧ ¬ 2 * ((allN us).length : Int) ≤ (m : Int) := by
        by_cases h : 2 * ((allN us).length : Int) ≤ (m : Int)
        · exact ⟨0, .inl ⟨rfl, h⟩⟩
        · exact ⟨4, .inr ⟨rfl, h⟩⟩
      have HALL := Lib.hid (refall_any wr A us.length cA us (recs_line hlA hrA hbw) HI.out.small)
      rw [hLe] at HALL
      have HRES := Lib.hid (fun (w6 : World) (hb6 : Below wr.heap.size wr w6) => reset_all (hlg.below hb6) (by omega) A cA (recs_line (hlA.below hb6) hrA (hbw.trans (hb6.mono hbw.size))) HI.out.small (by omega) a ha)
      have HX := Lib.hid (And.intro hA0 (And.intro hlA (And.intro hrA hbw)))
      have HLE := Lib.hid hLe
      rw [hLe] at ha
      clear hlg hkp hA0 hlA hrA hbw hub hLe
      rcases ha with ⟨rfl, hf⟩ | ⟨rfl, hf⟩
      · go_wp2_with (first
          | (go_at_call 14; refine HALL.out.mono ?_; rintro e w6 ⟨⟨A6, c6, rfl, _, _⟩, hb6⟩; have HR6 := Lib.hid (HRES.out w6 hb6); have H6 := Lib.hid hb6; clear hb6)
          | (go_at_call 15; refine HR6.out.mono ?_; rintro e w7 ⟨rfl, own7, rZ, h7, hk7, z1, z2, z3, z4⟩; have HB7 := Lib.hid (lbad_any h7.box); have H7 := Lib.hid (And.intro h7 (And.intro hk7 (And.intro z1 (And.intro z2 (And.intro z3 z4))))); clear h7 hk7 z1 z2 z3 z4)
          | (go_at_call 21; refine HB7.out.mono ?_; rintro e w9 ⟨rfl, rfl⟩))
        obtain ⟨g7, gk7, z1, z2, z3, z4⟩ := H7.out
        obtain ⟨x1, x2, x3, x4⟩ := HX.out
        have hl7 := sline_kept (x2.below H6.out) gk7 (fun j hj => ⟨(x1 j hj).1, (x1 j hj).2.1⟩)
        have HOP := Lib.hid (open_there w7 W.heap.size own7 rZ LOG g7.disk (by decide) log_both z1 z2 us HI.out.small.short (allN_lt (fun r hr => (HI.out.small.2 r hr).2)) (by have := HI.out.small.bytes; omega) z3)
        unfold LOG at HOP
        have HL7 := Lib.hid hl7
        have HG7 := Lib.hid (And.intro g7 (And.intro z4 (And.intro (HWB.out own7 w7 g7.only) x3)))
        have hu30 := HI.out.small.1
        clear g7 gk7 z1 z2 z3 z4 x1 x2 x3 x4 hl7
        go_wp2_with (first
          | (go_at_call 8; with_reducible refine HOP.out.mono ?_; rintro e w8 ⟨l2, R8, c8, rfl, _, hrec8, hb8⟩; have HSA := Lib.hid (same_any w8 R8 us.length c8 us A us.length cA us hrec8 (recs_line (HL7.out.below hb8) HG7.out.2.2.2 (HG7.out.2.2.1.trans (hb8.mono HG7.out.2.2.1.size))) (by omega) (by omega)); rw [decide_eq_true rfl] at HSA; have H8 := Lib.hid hb8; clear hrec8 hb8)
          | (go_at_call 11; refine HSA.out.mono ?_; rintro e w9 ⟨rfl, hb9⟩; have H9 := Lib.hid (H8.out.trans (hb9.mono H8.out.size)); have HLI := Lib.hid ((HG7.out.1.below H9.out).disk.list); rw [HG7.out.2.1] at HLI; clear hb9)
          | (go_at_call 18; refine HLI.out.mono ?_; rintro e w10 ⟨⟨A10, c10, rfl, _, _⟩, hb10⟩; have H10 := Lib.hid (H9.out.trans (hb10.mono H9.out.size)); have HCO := Lib.hid (lcount_any (HG7.out.1.below H10.out).box); have HSI := Lib.hid (lsize_any (HG7.out.1.below H10.out).box); rw [HLE.out] at HSI; clear hb10)
          | (go_at_call 12; refine HCO.out.mono ?_; rintro e w11 ⟨rfl, rfl⟩)
          | (go_at_call 13; refine HSI.out.mono ?_; rintro e w11 ⟨rfl, rfl⟩)
          | (go_at_call 19; refine (lives_true _).mono ?_; rintro e w12 ⟨rfl, hb12⟩; have H12 := Lib.hid (HG7.out.2.2.1.trans ((H10.out.trans (hb12.mono H10.out.size)).mono HG7.out.2.2.1.size)); clear hb12))
        go_ret
        exact ⟨rfl, H12.out⟩
      · go_wp2_with (first
          | (go_at_call 14; refine HALL.out.mono ?_; rintro e w6 ⟨⟨A6, c6, rfl, _, _⟩, hb6⟩; have HR6 := Lib.hid (HRES.out w6 hb6); have H6 := Lib.hid hb6; clear hb6)
          | (go_at_call 15; refine HR6.out.mono ?_; rintro e w7 ⟨rfl, own7, rZ, h7, hk7, z1, z2, z3, z4⟩; have HB7 := Lib.hid (lbad_any h7.box); have H7 := Lib.hid (And.intro h7 (And.intro hk7 (And.intro z1 (And.intro z2 (And.intro z3 z4))))); clear h7 hk7 z1 z2 z3 z4)
          | (go_at_call 21; refine HB7.out.mono ?_; rintro e w9 ⟨rfl, rfl⟩))
        obtain ⟨g7, gk7, z1, z2, z3, z4⟩ := H7.out
        obtain ⟨x1, x2, x3, x4⟩ := HX.out
        have hl7 := sline_kept (x2.below H6.out) gk7 (fun j hj => ⟨(x1 j hj).1, (x1 j hj).2.1⟩)
        have HOP := Lib.hid (open_there w7 W.heap.size own7 rZ LOG g7.disk (by decide) log_both z1 z2 us HI.out.small.short (allN_lt (fun r hr => (HI.out.small.2 r hr).2)) (by have := HI.out.small.bytes; omega) z3)
        unfold LOG at HOP
        have HL7 := Lib.hid hl7
        have HG7 := Lib.hid (And.intro g7 (And.intro z4 (And.intro (HWB.out own7 w7 g7.only) x3)))
        have hu30 := HI.out.small.1
        clear g7 gk7 z1 z2 z3 z4 x1 x2 x3 x4 hl7
        go_wp2_with (first
          | (go_at_call 8; with_reducible refine HOP.out.mono ?_; rintro e w8 ⟨l2, R8, c8, rfl, _, hrec8, hb8⟩; have HSA := Lib.hid (same_any w8 R8 us.length c8 us A us.length cA us hrec8 (recs_line (HL7.out.below hb8) HG7.out.2.2.2 (HG7.out.2.2.1.trans (hb8.mono HG7.out.2.2.1.size))) (by omega) (by omega)); rw [decide_eq_true rfl] at HSA; have H8 := Lib.hid hb8; clear hrec8 hb8)
          | (go_at_call 11; refine HSA.out.mono ?_; rintro e w9 ⟨rfl, hb9⟩; have H9 := Lib.hid (H8.out.trans (hb9.mono H8.out.size)); have HLI := Lib.hid ((HG7.out.1.below H9.out).disk.list); rw [HG7.out.2.1] at HLI; clear hb9)
          | (go_at_call 18; refine HLI.out.mono ?_; rintro e w10 ⟨⟨A10, c10, rfl, _, _⟩, hb10⟩; have H10 := Lib.hid (H9.out.trans (hb10.mono H9.out.size)); have HCO := Lib.hid (lcount_any (HG7.out.1.below H10.out).box); have HSI := Lib.hid (lsize_any (HG7.out.1.below H10.out).box); rw [HLE.out] at HSI; clear hb10)
          | (go_at_call 12; refine HCO.out.mono ?_; rintro e w11 ⟨rfl, rfl⟩)
          | (go_at_call 13; refine HSI.out.mono ?_; rintro e w11 ⟨rfl, rfl⟩)
          | (go_at_call 19; refine (lives_true _).mono ?_; rintro e w12 ⟨rfl, hb12⟩; have H12 := Lib.hid (HG7.out.2.2.1.trans ((H10.out.trans (hb12.mono H10.out.size)).mono HG7.out.2.2.1.size)); clear hb12))
        go_ret
        exact ⟨rfl, H12.out⟩
end Go.Proofs.Ytfeccceemledjaa
