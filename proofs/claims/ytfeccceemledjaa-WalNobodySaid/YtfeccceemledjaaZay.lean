/-
  The walk of the law WalNobody: it answers true and writes nothing that was there.
-/
import Derived.Test.YtfeccceemledjaaZax
import Derived.Test.YtfeccceemledjaaZaq
namespace Go.Proofs.Ytfeccceemledjaa
open Go.RowKit Go.Shelf
set_option linter.unusedVariables false
set_option maxRecDepth 100000

theorem ladd_big (w : World) (l : Nat) (dv xv c s : Value) (h : LBox w l dv xv 0 c s) (A : Option Addr) (n cap : Nat) (hn : 65536 < n) : Calls Try.prog 10 #[.pointer (some ⟨l, 0, none⟩), .slice A n cap] w fun e w' => e = .returned (.int .i64 2) ∧ w = w' := by
  have HB := Lib.hid (lbad_any h)
  have HF := Lib.hid (frame_big A n cap hn w)
  clear h
  go_enter Try.func10, Try.ntmps10
  go_wp2_with (first
    | (go_at_call 21; refine HB.out.mono ?_; rintro e w1 ⟨rfl, rfl⟩)
    | (go_at_call 24; refine HF.out.mono ?_; rintro e w1 ⟨rfl, rfl⟩))
  go_ret
  exact ⟨rfl, rfl⟩
theorem asZ_zeros (m : Nat) : asZ (List.replicate m 0) = List.replicate m 0 := by unfold asZ; rw [List.map_replicate]; rfl
theorem zeros_row (W : World) (m : Nat) : RowN (W.alloc (.cells (cellsZ (List.replicate m 0)).toArray 5)) (some ⟨W.heap.size, 0, none⟩) m (List.replicate m 0) := by
  have h := lit_row W (List.replicate m 0) (0, 0) (fun x hx => by have := (List.mem_replicate.1 hx).2; omega)
  rw [asZ_zeros, List.length_replicate] at h
  exact h
/-- The frame of so many zeros: what goes wrong. -/
theorem frame_zeros (W : World) (m : Nat) (hm : m ≤ 100000) (E : Int) (hE : E = 0 ∧ m ≤ 65536 ∨ E = 2 ∧ 65536 < m) :
    Calls Try.prog 24 #[.slice (some ⟨W.heap.size, 0, none⟩) m m] (W.alloc (.cells (cellsZ (List.replicate m 0)).toArray 5)) fun e w' => (∃ A n c, e = .returned (.tuple #[.slice A n c, .int .i64 E])) ∧ Below W.heap.size W w' := by
  have hb : Below W.heap.size W (W.alloc (.cells (cellsZ (List.replicate m 0)).toArray 5)) := (Below.refl _ W).alloc (Nat.le_refl _) _
  rcases hE with ⟨rfl, h⟩ | ⟨rfl, h⟩
  · refine (frame_any _ m m _ h _ (zeros_row W m)).mono ?_
    rintro e w' ⟨⟨g, c, rfl, _, _⟩, hb'⟩
    exact ⟨⟨_, _, _, rfl⟩, hb.trans (hb'.mono hb.size)⟩
  · refine (frame_big _ m m h _).mono ?_
    rintro e w' ⟨rfl, rfl⟩
    exact ⟨⟨_, _, _, rfl⟩, hb⟩
/-- A new disk's first file. -/
theorem fresh_open (q : Int) (x : ByteArray) (hx : nameOk x = true) : ∃ r1 r2, (RD.fresh q).create x = (0, r1) ∧ r1.syncDir = (0, r2) ∧ (RD.fresh q).size + 4 ≤ 80000 ∧ r1.size + 4 ≤ 80000 ∧ (RD.fresh q).off = false ∧ hasP ltS (RD.fresh q).now x = false := by
  have hp : (RD.fresh q).powered = { RD.fresh q with calls := 1 } := rfl
  have hb : (RD.fresh q).begE [x] = 0 := by
    unfold RD.begE
    rw [show (RD.fresh q).on = true from rfl, if_pos rfl, if_pos (by simp [hx])]
  have hcr : (RD.fresh q).create x = (0, (⟨[⟨[], 0⟩], [], [[(x, numV 0)]], max q 0, false, false, -1, 1⟩ : RD)) := by
    unfold RD.create
    rw [hb, if_pos rfl, if_neg (by rintro ⟨_, h⟩; exact absurd h (by show ¬ 1024 ≤ 0; omega)), hp]
    rfl
  refine ⟨_, (RD.syncDir (⟨[⟨[], 0⟩], [], [[(x, numV 0)]], max q 0, false, false, -1, 1⟩ : RD)).2, hcr, ?_, by show 0 + 0 + 0 + 2 * 0 + 4 ≤ 80000; omega, by show 1 + 1 + 0 + 2 * 1 + 4 ≤ 80000; omega, rfl, rfl⟩
  have hsd : ∀ r : RD, r.on = true → r.syncDir = (0, r.syncDir.2) := fun r h => by unfold RD.syncDir; rw [if_pos h]
  exact hsd _ rfl
set_option maxHeartbeats 6400000 in
theorem walNobody_walk (a0 : ByteArray) (a1 : Int) (a2 : Option Addr) (len2 cap2 : Nat) (z2 : List Int) (W : World) (w0 : a0.size ≤ maxLen) (w1 : (Lit.int .i64 a1).wf = true) (w2 : IsRow .u8 W a2 len2 cap2 z2) :
    Calls Try.prog 6 #[.string a0, .int .i64 a1, .slice a2 len2 cap2] W fun e w' => e = .returned (.bool true) ∧ Below W.heap.size W w' := by
  have ha1 := bounds_i64 w1
  clear w1 w2
  by_cases hbig : (300 : Int) < (a0.size : Int) ∨ (300 : Int) < (len2 : Int)
  · by_cases hx : (300 : Int) < (a0.size : Int)
    · clear hbig
      go_enter Try.func6, Try.ntmps6
      go_wp2_with (go_at_call 19; refine (lives_true _).mono ?_; rintro e w7 ⟨rfl, hb7⟩; have HB7 := Lib.hid hb7; clear hb7)
      go_ret
      exact ⟨rfl, HB7.out⟩
    · have hl : (300 : Int) < (len2 : Int) := by omega
      clear hbig
      go_enter Try.func6, Try.ntmps6
      go_wp2_with (go_at_call 19; refine (lives_true _).mono ?_; rintro e w7 ⟨rfl, hb7⟩; have HB7 := Lib.hid hb7; clear hb7)
      go_ret
      exact ⟨rfl, HB7.out⟩
  obtain ⟨hx3, hl3⟩ : ¬ (300 : Int) < (a0.size : Int) ∧ ¬ (300 : Int) < (len2 : Int) := by omega
  obtain ⟨m, hm, hm1, hm2⟩ : ∃ m : Nat, max 65534 (min a1 65539) = (m : Int) ∧ 65534 ≤ m ∧ m ≤ 65539 := ⟨(max 65534 (min a1 65539)).toNat, by omega, by omega, by omega⟩
  obtain ⟨E, hE⟩ : ∃ E : Int, E = 0 ∧ m ≤ 65536 ∨ E = 2 ∧ 65536 < m := by
    rcases Nat.lt_or_ge 65536 m with h | h
    · exact ⟨2, .inr ⟨rfl, h⟩⟩
    · exact ⟨0, .inl ⟨rfl, h⟩⟩
  have HFZ := Lib.hid (fun (W : World) => frame_zeros W m (by omega) E hE)
  have hmk := make_bytes m m (Nat.le_refl _) (by omega)
  obtain ⟨zz, hzz⟩ : ∃ zz : List Int, List.replicate 65537 0 = zz := ⟨_, rfl⟩
  have hmk2 := make_bytes 65537 65537 (by omega) (by omega)
  rw [hzz, show ((65537 : Nat) : Int) = 65537 from rfl] at hmk2
  have HNEW := Lib.hid (fun (w : World) => IsD.new 1048576 (by omega) w)
  have HM := Lib.hid (mayName_any a0 (by omega))
  have HM2 := Lib.hid (mayName_any (a0 ++ spareB) (by rw [spare_size]; omega))
  have HOFF := Lib.hid (fun (w : World) => open_off w none ⟨#[108, 111, 103]⟩ (by decide) (by decide) (fun W _ => doff_nil W))
  have HADDN := Lib.hid (fun (w : World) (A : Option Addr) (n c : Nat) => ladd_nil w A n c)
  clear hbig hzz
  cases hok : logOk a0 with
  | false =>
    have HOPEN := Lib.hid (fun (w : World) (d : Option Addr) => open_arg w d a0 (by omega) hok)
    unfold logOk at hok
    cases hn1 : nameOk a0 with
    | false =>
      rw [hn1] at HM
      unfold spareB at HM2
      rcases hE with ⟨rfl, hE⟩ | ⟨rfl, hE⟩
      · go_enter Try.func6, Try.ntmps6
        go_wp2_with (first
            | (go_at_call 24; refine (HFZ.out _).mono ?_; rintro e w1 ⟨⟨A1, n1, c1, rfl⟩, hb1⟩; have HB1 := Lib.hid hb1; clear hb1)
            | (go_at_call 7; refine (HNEW.out w1).mono ?_; rintro e w2 ⟨rfl, own', ho, hd, hb2⟩; have HB2 := Lib.hid (HB1.out.trans (hb2.mono HB1.out.size)); have HD := Lib.hid (And.intro ho (And.intro hd hb2)); clear ho hd hb2)
            | (go_at_call 25; first | (with_reducible refine (HM.out _).mono ?_; rintro e w9 ⟨rfl, rfl⟩) | (with_reducible refine (HM2.out _).mono ?_; rintro e w9 ⟨rfl, rfl⟩))
            | (go_at_call 8; first
                | (with_reducible refine (HOPEN.out w2 _).mono ?_; rintro e w3 ⟨rfl, hb3⟩; have HB3 := Lib.hid (HB2.out.trans (hb3.mono HB2.out.size)); clear hb3)
                | (with_reducible refine (HOFF.out _).mono ?_; rintro e w5 ⟨rfl, hb5⟩; have HB5 := Lib.hid (HB3.out.trans (hb5.mono HB3.out.size)); clear hb5))
            | (go_at_call 10; refine (HADDN.out _ _ _ _).mono ?_; rintro e w9 ⟨rfl, rfl⟩)
            | (go_at_call 21; refine (lbad_nil _).mono ?_; rintro e w9 ⟨rfl, rfl⟩)
            | (go_at_call 12; refine (lcount_nil _).mono ?_; rintro e w9 ⟨rfl, rfl⟩)
            | (go_at_call 13; refine (lsize_nil _).mono ?_; rintro e w9 ⟨rfl, rfl⟩)
            | (go_at_call 15; refine (lreset_nil _ _ _ _).mono ?_; rintro e w9 ⟨rfl, rfl⟩)
            | (go_at_call 16; refine (lsync_nil _).mono ?_; rintro e w6 ⟨rfl, hb6⟩; have HB6 := Lib.hid (HB5.out.trans (hb6.mono HB5.out.size)); clear hb6)
            | (go_at_call 19; refine (lives_true _).mono ?_; rintro e w7 ⟨rfl, hb7⟩; have HB7 := Lib.hid (HB6.out.trans (hb7.mono HB6.out.size)); clear hb7))
        go_ret
        exact ⟨rfl, HB7.out⟩
      · go_enter Try.func6, Try.ntmps6
        go_wp2_with (first
            | (go_at_call 24; refine (HFZ.out _).mono ?_; rintro e w1 ⟨⟨A1, n1, c1, rfl⟩, hb1⟩; have HB1 := Lib.hid hb1; clear hb1)
            | (go_at_call 7; refine (HNEW.out w1).mono ?_; rintro e w2 ⟨rfl, own', ho, hd, hb2⟩; have HB2 := Lib.hid (HB1.out.trans (hb2.mono HB1.out.size)); have HD := Lib.hid (And.intro ho (And.intro hd hb2)); clear ho hd hb2)
            | (go_at_call 25; first | (with_reducible refine (HM.out _).mono ?_; rintro e w9 ⟨rfl, rfl⟩) | (with_reducible refine (HM2.out _).mono ?_; rintro e w9 ⟨rfl, rfl⟩))
            | (go_at_call 8; first
                | (with_reducible refine (HOPEN.out w2 _).mono ?_; rintro e w3 ⟨rfl, hb3⟩; have HB3 := Lib.hid (HB2.out.trans (hb3.mono HB2.out.size)); clear hb3)
                | (with_reducible refine (HOFF.out _).mono ?_; rintro e w5 ⟨rfl, hb5⟩; have HB5 := Lib.hid (HB3.out.trans (hb5.mono HB3.out.size)); clear hb5))
            | (go_at_call 10; refine (HADDN.out _ _ _ _).mono ?_; rintro e w9 ⟨rfl, rfl⟩)
            | (go_at_call 21; refine (lbad_nil _).mono ?_; rintro e w9 ⟨rfl, rfl⟩)
            | (go_at_call 12; refine (lcount_nil _).mono ?_; rintro e w9 ⟨rfl, rfl⟩)
            | (go_at_call 13; refine (lsize_nil _).mono ?_; rintro e w9 ⟨rfl, rfl⟩)
            | (go_at_call 15; refine (lreset_nil _ _ _ _).mono ?_; rintro e w9 ⟨rfl, rfl⟩)
            | (go_at_call 16; refine (lsync_nil _).mono ?_; rintro e w6 ⟨rfl, hb6⟩; have HB6 := Lib.hid (HB5.out.trans (hb6.mono HB5.out.size)); clear hb6)
            | (go_at_call 19; refine (lives_true _).mono ?_; rintro e w7 ⟨rfl, hb7⟩; have HB7 := Lib.hid (HB6.out.trans (hb7.mono HB6.out.size)); clear hb7))
        go_ret
        exact ⟨rfl, HB7.out⟩
    | true =>
      rw [hn1, Bool.true_and] at hok
      rw [hn1] at HM
      rw [hok] at HM2
      unfold spareB at HM2
      rcases hE with ⟨rfl, hE⟩ | ⟨rfl, hE⟩
      · go_enter Try.func6, Try.ntmps6
        go_wp2_with (first
            | (go_at_call 24; refine (HFZ.out _).mono ?_; rintro e w1 ⟨⟨A1, n1, c1, rfl⟩, hb1⟩; have HB1 := Lib.hid hb1; clear hb1)
            | (go_at_call 7; refine (HNEW.out w1).mono ?_; rintro e w2 ⟨rfl, own', ho, hd, hb2⟩; have HB2 := Lib.hid (HB1.out.trans (hb2.mono HB1.out.size)); have HD := Lib.hid (And.intro ho (And.intro hd hb2)); clear ho hd hb2)
            | (go_at_call 25; first | (with_reducible refine (HM.out _).mono ?_; rintro e w9 ⟨rfl, rfl⟩) | (with_reducible refine (HM2.out _).mono ?_; rintro e w9 ⟨rfl, rfl⟩))
            | (go_at_call 8; first
                | (with_reducible refine (HOPEN.out w2 _).mono ?_; rintro e w3 ⟨rfl, hb3⟩; have HB3 := Lib.hid (HB2.out.trans (hb3.mono HB2.out.size)); clear hb3)
                | (with_reducible refine (HOFF.out _).mono ?_; rintro e w5 ⟨rfl, hb5⟩; have HB5 := Lib.hid (HB3.out.trans (hb5.mono HB3.out.size)); clear hb5))
            | (go_at_call 10; refine (HADDN.out _ _ _ _).mono ?_; rintro e w9 ⟨rfl, rfl⟩)
            | (go_at_call 21; refine (lbad_nil _).mono ?_; rintro e w9 ⟨rfl, rfl⟩)
            | (go_at_call 12; refine (lcount_nil _).mono ?_; rintro e w9 ⟨rfl, rfl⟩)
            | (go_at_call 13; refine (lsize_nil _).mono ?_; rintro e w9 ⟨rfl, rfl⟩)
            | (go_at_call 15; refine (lreset_nil _ _ _ _).mono ?_; rintro e w9 ⟨rfl, rfl⟩)
            | (go_at_call 16; refine (lsync_nil _).mono ?_; rintro e w6 ⟨rfl, hb6⟩; have HB6 := Lib.hid (HB5.out.trans (hb6.mono HB5.out.size)); clear hb6)
            | (go_at_call 19; refine (lives_true _).mono ?_; rintro e w7 ⟨rfl, hb7⟩; have HB7 := Lib.hid (HB6.out.trans (hb7.mono HB6.out.size)); clear hb7))
        go_ret
        exact ⟨rfl, HB7.out⟩
      · go_enter Try.func6, Try.ntmps6
        go_wp2_with (first
            | (go_at_call 24; refine (HFZ.out _).mono ?_; rintro e w1 ⟨⟨A1, n1, c1, rfl⟩, hb1⟩; have HB1 := Lib.hid hb1; clear hb1)
            | (go_at_call 7; refine (HNEW.out w1).mono ?_; rintro e w2 ⟨rfl, own', ho, hd, hb2⟩; have HB2 := Lib.hid (HB1.out.trans (hb2.mono HB1.out.size)); have HD := Lib.hid (And.intro ho (And.intro hd hb2)); clear ho hd hb2)
            | (go_at_call 25; first | (with_reducible refine (HM.out _).mono ?_; rintro e w9 ⟨rfl, rfl⟩) | (with_reducible refine (HM2.out _).mono ?_; rintro e w9 ⟨rfl, rfl⟩))
            | (go_at_call 8; first
                | (with_reducible refine (HOPEN.out w2 _).mono ?_; rintro e w3 ⟨rfl, hb3⟩; have HB3 := Lib.hid (HB2.out.trans (hb3.mono HB2.out.size)); clear hb3)
                | (with_reducible refine (HOFF.out _).mono ?_; rintro e w5 ⟨rfl, hb5⟩; have HB5 := Lib.hid (HB3.out.trans (hb5.mono HB3.out.size)); clear hb5))
            | (go_at_call 10; refine (HADDN.out _ _ _ _).mono ?_; rintro e w9 ⟨rfl, rfl⟩)
            | (go_at_call 21; refine (lbad_nil _).mono ?_; rintro e w9 ⟨rfl, rfl⟩)
            | (go_at_call 12; refine (lcount_nil _).mono ?_; rintro e w9 ⟨rfl, rfl⟩)
            | (go_at_call 13; refine (lsize_nil _).mono ?_; rintro e w9 ⟨rfl, rfl⟩)
            | (go_at_call 15; refine (lreset_nil _ _ _ _).mono ?_; rintro e w9 ⟨rfl, rfl⟩)
            | (go_at_call 16; refine (lsync_nil _).mono ?_; rintro e w6 ⟨rfl, hb6⟩; have HB6 := Lib.hid (HB5.out.trans (hb6.mono HB5.out.size)); clear hb6)
            | (go_at_call 19; refine (lives_true _).mono ?_; rintro e w7 ⟨rfl, hb7⟩; have HB7 := Lib.hid (HB6.out.trans (hb7.mono HB6.out.size)); clear hb7))
        go_ret
        exact ⟨rfl, HB7.out⟩
  | true =>
    obtain ⟨r1, r2, hf1, hf2, hf3, hf4, hf5, hf6⟩ := fresh_open 1048576 a0 (Bool.and_eq_true_iff.1 hok).1
    have HOPEN := Lib.hid (fun (w : World) (d : Nat) (own : Nat → Nat) (H : IsD w d own (RD.fresh 1048576)) => open_fresh w d own _ r1 r2 a0 H (by omega) hok hf5 hf6 hf3 hf4 hf1 hf2)
    unfold logOk at hok
    have hn1 : nameOk a0 = true := (Bool.and_eq_true_iff.1 hok).1
    have hn2 : nameOk (a0 ++ spareB) = true := (Bool.and_eq_true_iff.1 hok).2
    rw [hn1] at HM
    rw [hn2] at HM2
    unfold spareB at HM2
    clear hf1 hf2 hf3 hf4 hf5 hf6 hn1 hn2 hok
    rcases hE with ⟨rfl, hE⟩ | ⟨rfl, hE⟩
    · go_enter Try.func6, Try.ntmps6
      go_wp2_with (first
          | (go_at_call 24; refine (HFZ.out _).mono ?_; rintro e w1 ⟨⟨A1, n1, c1, rfl⟩, hb1⟩; have HB1 := Lib.hid hb1; clear hb1)
          | (go_at_call 7; refine (HNEW.out w1).mono ?_; rintro e w2 ⟨rfl, own', ho, hd, hb2⟩; have HB2 := Lib.hid (HB1.out.trans (hb2.mono HB1.out.size)); have HD := Lib.hid (And.intro ho (And.intro hd hb2)); clear ho hd hb2)
          | (go_at_call 25; first | (with_reducible refine (HM.out _).mono ?_; rintro e w9 ⟨rfl, rfl⟩) | (with_reducible refine (HM2.out _).mono ?_; rintro e w9 ⟨rfl, rfl⟩))
          | (go_at_call 8; first
              | (with_reducible refine (HOPEN.out w2 _ _ HD.out.2.1).mono ?_; rintro e w3 ⟨own3, l, R, c3, rfl, hlog⟩; have HL := Lib.hid hlog; have hb3 : Below W.heap.size W w3 := HB2.out.trans (hlog.only.toBelow (B := W.heap.size) (fun i hi => HD.out.1 i (by have := HB1.out.size; omega)) HB2.out.size); have HB3 := Lib.hid (hb3.trans ((Below.refl W.heap.size w3).alloc (by have := hb3.size; omega) (.cells (cellsZ zz).toArray 5))); have HLB := Lib.hid (ladd_big (w3.alloc (.cells (cellsZ zz).toArray 5)) l _ _ _ _ (hlog.box.below ((Below.refl _ w3).alloc (Nat.le_refl _) _)) (some ⟨w3.heap.size, 0, none⟩) 65537 65537 (by omega)); clear hlog hb3)
              | (with_reducible refine (HOFF.out _).mono ?_; rintro e w5 ⟨rfl, hb5⟩; have HB5 := Lib.hid (HB3.out.trans (hb5.mono HB3.out.size)); clear hb5))
          | (go_at_call 10; first
              | (with_reducible refine (HADDN.out _ _ _ _).mono ?_; rintro e w9 ⟨rfl, rfl⟩)
              | (refine HLB.out.mono ?_; rintro e w9 ⟨rfl, rfl⟩))
          | (go_at_call 21; refine (lbad_nil _).mono ?_; rintro e w9 ⟨rfl, rfl⟩)
          | (go_at_call 12; refine (lcount_nil _).mono ?_; rintro e w9 ⟨rfl, rfl⟩)
          | (go_at_call 13; refine (lsize_nil _).mono ?_; rintro e w9 ⟨rfl, rfl⟩)
          | (go_at_call 15; refine (lreset_nil _ _ _ _).mono ?_; rintro e w9 ⟨rfl, rfl⟩)
          | (go_at_call 16; refine (lsync_nil _).mono ?_; rintro e w6 ⟨rfl, hb6⟩; have HB6 := Lib.hid (HB5.out.trans (hb6.mono HB5.out.size)); clear hb6)
          | (go_at_call 19; refine (lives_true _).mono ?_; rintro e w7 ⟨rfl, hb7⟩; have HB7 := Lib.hid (HB6.out.trans (hb7.mono HB6.out.size)); clear hb7))
      go_ret
      exact ⟨rfl, HB7.out⟩
    · go_enter Try.func6, Try.ntmps6
      go_wp2_with (first
          | (go_at_call 24; refine (HFZ.out _).mono ?_; rintro e w1 ⟨⟨A1, n1, c1, rfl⟩, hb1⟩; have HB1 := Lib.hid hb1; clear hb1)
          | (go_at_call 7; refine (HNEW.out w1).mono ?_; rintro e w2 ⟨rfl, own', ho, hd, hb2⟩; have HB2 := Lib.hid (HB1.out.trans (hb2.mono HB1.out.size)); have HD := Lib.hid (And.intro ho (And.intro hd hb2)); clear ho hd hb2)
          | (go_at_call 25; first | (with_reducible refine (HM.out _).mono ?_; rintro e w9 ⟨rfl, rfl⟩) | (with_reducible refine (HM2.out _).mono ?_; rintro e w9 ⟨rfl, rfl⟩))
          | (go_at_call 8; first
              | (with_reducible refine (HOPEN.out w2 _ _ HD.out.2.1).mono ?_; rintro e w3 ⟨own3, l, R, c3, rfl, hlog⟩; have HL := Lib.hid hlog; have hb3 : Below W.heap.size W w3 := HB2.out.trans (hlog.only.toBelow (B := W.heap.size) (fun i hi => HD.out.1 i (by have := HB1.out.size; omega)) HB2.out.size); have HB3 := Lib.hid (hb3.trans ((Below.refl W.heap.size w3).alloc (by have := hb3.size; omega) (.cells (cellsZ zz).toArray 5))); have HLB := Lib.hid (ladd_big (w3.alloc (.cells (cellsZ zz).toArray 5)) l _ _ _ _ (hlog.box.below ((Below.refl _ w3).alloc (Nat.le_refl _) _)) (some ⟨w3.heap.size, 0, none⟩) 65537 65537 (by omega)); clear hlog hb3)
              | (with_reducible refine (HOFF.out _).mono ?_; rintro e w5 ⟨rfl, hb5⟩; have HB5 := Lib.hid (HB3.out.trans (hb5.mono HB3.out.size)); clear hb5))
          | (go_at_call 10; first
              | (with_reducible refine (HADDN.out _ _ _ _).mono ?_; rintro e w9 ⟨rfl, rfl⟩)
              | (refine HLB.out.mono ?_; rintro e w9 ⟨rfl, rfl⟩))
          | (go_at_call 21; refine (lbad_nil _).mono ?_; rintro e w9 ⟨rfl, rfl⟩)
          | (go_at_call 12; refine (lcount_nil _).mono ?_; rintro e w9 ⟨rfl, rfl⟩)
          | (go_at_call 13; refine (lsize_nil _).mono ?_; rintro e w9 ⟨rfl, rfl⟩)
          | (go_at_call 15; refine (lreset_nil _ _ _ _).mono ?_; rintro e w9 ⟨rfl, rfl⟩)
          | (go_at_call 16; refine (lsync_nil _).mono ?_; rintro e w6 ⟨rfl, hb6⟩; have HB6 := Lib.hid (HB5.out.trans (hb6.mono HB5.out.size)); clear hb6)
          | (go_at_call 19; refine (lives_true _).mono ?_; rintro e w7 ⟨rfl, hb7⟩; have HB7 := Lib.hid (HB6.out.trans (hb7.mono HB6.out.size)); clear hb7))
      go_ret
      exact ⟨rfl, HB7.out⟩
end Go.Proofs.Ytfeccceemledjaa
