/-
  The walk of the law LexerAll: it answers true and writes nothing that was there.
-/
import Derived.Test.YtkpgkobhnldhpaaDoorLxK
import Derived.Test.YtkpgkobhnldhpaaDoorLxS
import Derived.Test.YtkpgkobhnldhpaaDoorLxU
namespace Go.Proofs.YtkpgkobhnldhpaaDoor
open Go.RowKit
set_option linter.unusedVariables false
set_option maxRecDepth 100000

theorem same_self (xs : List Tk) (k : Nat) (x y : Tk) (h1 : xs[k]? = some x) (h2 : xs[k]? = some y) : sameTk x y := by
  rw [h1] at h2
  cases h2
  exact ⟨rfl, rfl, rfl⟩
set_option maxHeartbeats 1000000 in
theorem lexerAll_bad (s : ByteArray) (hs : s.size ≤ 2000) (W : World) (hL : Laid W) (er o : Nat) (h : allN s.data.toList = .bad er o) (a0 : ByteArray) (w0 : a0.size ≤ 9223372036854775807) (hcut : a0.extract 0 (min (a0.size : Int) 2000).toNat = s) :
    Calls Tryd.prog 3 #[.string a0] W fun e w' => e = .returned (.bool true) ∧ Below W.heap.size W w' := by
  obtain ⟨hne, hol⟩ := allN_bad _ _ _ h
  rw [ba_length] at hol
  have HL := Lib.hid hL
  have h1 : ∀ W, Laid W → Calls Tryd.prog 11 #[.string s] W fun e w' => e = .returned (.tuple #[.slice none 0 0, .int .i64 (er : Int), placeV s.data.toList o]) ∧ Below W.heap.size W w' := fun W hL => (all_any s (by omega) W hL).mono fun e w' q => by
    unfold AllOut at q
    rw [h] at q
    exact q
  have h2 : ∀ W, Calls Tryd.prog 12 #[.string s] W fun e w' => e = .returned (.tuple #[.slice none 0 0, .int .i64 (er : Int), .int .i64 (o : Int)]) ∧ Below W.heap.size W w' := fun W => (rall_any s (by omega) W).mono fun e w' q => by
    unfold RAllOut at q
    rw [h] at q
    exact q
  have h3 := fun W => rat_any s (by omega) (o : Int) (by omega) W
  have hcl : clampO s.size (o : Int) = o := by unfold clampO; omega
  rw [hcl] at h3
  obtain ⟨x, y, hv⟩ : ∃ x y : Int, placeV s.data.toList o = .agg #[.int .i64 (o : Int), .int .i64 x, .int .i64 y] := ⟨_, _, rfl⟩
  rw [hv] at h1 h3
  have H1 := Lib.hid h1
  have H2 := Lib.hid h2
  have H3 := Lib.hid h3
  have hneb : ((er : Int) == 0) = false := by rw [beq_eq_false_iff_ne]; omega
  have hnei : ¬ (er : Int) = 0 := by omega
  have hneq : ((er : Int) != 0) = true := by rw [bne_iff_ne]; omega
  have HC := Lib.hid hcut
  clear h1 h2 h3 hv hcl hL h hne hcut hnei
  go_enter Tryd.func3, Tryd.ntmps3
  go_wp2_with (go_at_call 10; refine (lcut_any _ w0 _).mono ?_; rintro e w' ⟨rfl, rfl⟩)
  rw [HC.out]
  refine (H1.out _ HL.out).mono ?_
  rintro e w1 ⟨rfl, hB1⟩
  have HB1 := Lib.hid (hB1.alloc hB1.size (.cells #[.int .i64 (o : Int), .int .i64 x, .int .i64 y] 26))
  clear hB1
  go_wp2_with fail
  refine (H2.out _).mono ?_
  rintro e w2 ⟨rfl, hB2⟩
  have hbx := (hB2.block w1.heap.size (by simp)).trans (heap_alloc_new w1 (.cells #[.int .i64 (o : Int), .int .i64 x, .int .i64 y] 26))
  have HB2 := Lib.hid (HB1.out.trans (hB2.mono HB1.out.size))
  have HBX := Lib.hid hbx
  have hz : w1.heap.size < w2.heap.size := lt_of_block hbx
  clear hB2 HB1 hbx
  go_wp2_with fail
  refine (same_yes w2 none none 0 0 0 [] [] (by omega) ⟨rfl, fun k t hk => by simp at hk⟩ ⟨rfl, fun k t hk => by simp at hk⟩ (fun k x y hk => by simp at hk)).mono ?_
  rintro e w3 ⟨rfl, hB3⟩
  have HB3 := Lib.hid (HB2.out.trans (hB3.mono HB2.out.size))
  have HBX3 := Lib.hid ((hB3.block _ hz).trans HBX.out)
  have hz3 : w1.heap.size < w3.heap.size := by have := hB3.size; omega
  clear hB3 HB2 HBX hz
  go_wp2_with fail
  go_loop [36] (fun i => i = .int .i64 0) (fun _ => 0)
  case atStart => rfl
  case round =>
    obtain rfl := hrel
    go_wp2_with fail
    refine (H3.out _).mono ?_
    rintro e w4 ⟨rfl, hB4⟩
    have hal : Below w3.heap.size w3 (w3.alloc (.cells #[.int .i64 0, .int .i64 0, .int .i64 0] 26)) := (Below.refl _ _).alloc (Nat.le_refl _) _
    have hb5 := (hB4.block w3.heap.size (by simp)).trans (heap_alloc_new w3 (.cells #[.int .i64 0, .int .i64 0, .int .i64 0] 26))
    have hb6 := (hB4.block w1.heap.size (by simp; omega)).trans ((hal.block _ hz3).trans HBX3.out)
    have HB4 := Lib.hid ((HB3.out.trans (hal.mono HB3.out.size)).trans (hB4.mono (by have := HB3.out.size; simp; omega)))
    obtain ⟨⟨a0, a1, a2⟩, a3, a4, a5⟩ := box_facts hb5
    obtain ⟨⟨b0, b1, b2⟩, b3, b4, b5⟩ := box_facts hb6
    have hne13 : ¬ w1.heap.size = w3.heap.size := by omega
    have hne31 : ¬ w3.heap.size = w1.heap.size := by omega
    have hge : W.heap.size ≤ w3.heap.size := by have := HB3.out.size; omega
    clear hB4 hal hb5 hb6
    go_wp2_with fail
    have HB5 : Hid (Below W.heap.size W (((w4.setCell ⟨w3.heap.size, 0, none⟩ (.int .i64 (o : Int))).setCell ⟨w3.heap.size, 1, none⟩ (.int .i64 x)).setCell ⟨w3.heap.size, 2, none⟩ (.int .i64 y))) := Lib.hid (below_three HB4.out _ hge _ _ _)
    refine (lives_true _ (HL.out.below HB5.out)).mono ?_
    rintro e w5 ⟨rfl, hB6⟩
    have HB6 := Lib.hid (HB5.out.trans (hB6.mono HB5.out.size))
    clear hB6
    go_wp2
    go_ret
    exact ⟨rfl, HB6.out⟩
set_option maxHeartbeats 1000000 in
theorem lexerAll_ok (s : ByteArray) (hs : s.size ≤ 2000) (W : World) (hL : Laid W) (ts : List Tok) (h : allN s.data.toList = .ok ts) (hlen : ts.length ≤ 100000) (a0 : ByteArray) (w0 : a0.size ≤ 9223372036854775807) (hcut : a0.extract 0 (min (a0.size : Int) 2000).toNat = s) :
    Calls Tryd.prog 3 #[.string a0] W fun e w' => e = .returned (.bool true) ∧ Below W.heap.size W w' := by
  have HL := Lib.hid hL
  have h1 : ∀ W, Laid W → Calls Tryd.prog 11 #[.string s] W fun e w' => ∃ A c, e = .returned (.tuple #[.slice A ts.length c, .int .i64 0, .agg #[.int .i64 0, .int .i64 0, .int .i64 0]]) ∧ SLine 6 w' A ts.length c (toksC s.data.toList ts) ∧ (∀ k ∈ blk A, W.heap.size ≤ k) ∧ Below W.heap.size W w' := fun W hL => (all_any s (by omega) W hL).mono fun e w' q => by
    unfold AllOut at q
    rw [h] at q
    exact q
  have h2 : ∀ W, Calls Tryd.prog 12 #[.string s] W fun e w' => ∃ A c, e = .returned (.tuple #[.slice A ts.length c, .int .i64 0, .int .i64 0]) ∧ SLine 6 w' A ts.length c (toksC s.data.toList ts) ∧ (∀ k ∈ blk A, W.heap.size ≤ k) ∧ Below W.heap.size W w' := fun W => (rall_any s (by omega) W).mono fun e w' q => by
    unfold RAllOut at q
    rw [h] at q
    exact q
  have H1 := Lib.hid h1
  have H2 := Lib.hid h2
  have HC := Lib.hid hcut
  clear h1 h2 hL h hcut
  go_enter Tryd.func3, Tryd.ntmps3
  go_wp2_with (go_at_call 10; refine (lcut_any _ w0 _).mono ?_; rintro e w' ⟨rfl, rfl⟩)
  rw [HC.out]
  refine (H1.out _ HL.out).mono ?_
  rintro e w1 ⟨A, c, rfl, hl1, _, hB1⟩
  have HR1 := Lib.hid ((rd_of_line hl1).below ((Below.refl _ w1).alloc (Nat.le_refl _) (.cells #[.int .i64 0, .int .i64 0, .int .i64 0] 26)))
  have HB1 := Lib.hid (hB1.alloc hB1.size (.cells #[.int .i64 0, .int .i64 0, .int .i64 0] 26))
  clear hB1 hl1
  go_wp2_with fail
  refine (H2.out _).mono ?_
  rintro e w2 ⟨A2, c2, rfl, hl2, _, hB2⟩
  have hbx := (hB2.block w1.heap.size (by simp)).trans (heap_alloc_new w1 (.cells #[.int .i64 0, .int .i64 0, .int .i64 0] 26))
  have HR2 := Lib.hid (And.intro (HR1.out.below hB2) (rd_of_line hl2))
  have HB2 := Lib.hid (HB1.out.trans (hB2.mono HB1.out.size))
  have HBX := Lib.hid hbx
  have hz : w1.heap.size < w2.heap.size := lt_of_block hbx
  have hxs : (ts.map (tkOf s.data.toList)).length = ts.length := by simp
  generalize ts.map (tkOf s.data.toList) = xs at *
  generalize ts.length = n at *
  have HXL := Lib.hid hxs
  clear hB2 HB1 hbx hl2 HR1 hxs
  go_wp2_with fail
  refine (same_yes w2 A A2 n c c2 xs xs (by omega) HR2.out.1 HR2.out.2 (same_self xs)).mono ?_
  rintro e w3 ⟨rfl, hB3⟩
  have HB3 := Lib.hid (HB2.out.trans (hB3.mono HB2.out.size))
  have HBX3 := Lib.hid ((hB3.block _ hz).trans HBX.out)
  have HR3 := Lib.hid (And.intro (HR2.out.1.below hB3) (HR2.out.2.below hB3))
  have hz3 : w1.heap.size < w3.heap.size := by have := hB3.size; omega
  clear hB3 HB2 HBX hz HR2
  go_wp2_with fail
  go_loopw [36] (fun i wr => ∃ k : Nat, k ≤ n ∧ i = .int .i64 k ∧ Hid (Below w3.heap.size w3 wr)) (fun i _ => n - (intOf i).toNat)
  case atStart => exact ⟨0, Nat.zero_le _, rfl, Lib.hid (Below.refl _ _)⟩
  case round =>
    obtain ⟨k, hk, rfl, HB⟩ := hrel
    by_cases hlt : k < n
    · obtain ⟨t, ht⟩ : ∃ t, xs[k]? = some t := ⟨_, List.getElem?_eq_getElem (by have := HXL.out; omega)⟩
      obtain ⟨g, off, rfl, hg, c0, c1, c2, c3, c4, c5⟩ := (HR3.out.1.below HB.out).2 k t ht
      obtain ⟨g2, off2, rfl, hg2, d0, d1, d2, d3, d4, d5⟩ := (HR3.out.2.below HB.out).2 k t ht
      obtain ⟨kd, tx, nm, o, l, cc⟩ := t
      dsimp only at c0 c1 c2 c3 c4 c5 d0 d1 d2 d3 d4 d5
      clear ht c0 c1 c2 d0 d1 d2
      go_wp2
      go_quiet (fail)
      go_wp2
      go_roundw
      case rel => exact ⟨k + 1, by omega, by go_num, Lib.hid ⟨HB.out.os, HB.out.tape, HB.out.output, HB.out.size, HB.out.block⟩⟩
      case measure => simp [intOf]; omega
    · have hbx := (HB.out.block _ hz3).trans HBX3.out
      have HB4 := Lib.hid (HB3.out.trans (HB.out.mono HB3.out.size))
      have hzr : w1.heap.size < wr.heap.size := lt_of_block hbx
      obtain ⟨⟨b0, b1, b2⟩, b3, b4, b5⟩ := box_facts hbx
      have HB5 : Hid (Below W.heap.size W (wr.alloc (.cells #[.int .i64 0, .int .i64 0, .int .i64 0] 26))) := Lib.hid (HB4.out.alloc HB4.out.size _)
      clear hbx HB HB3 HBX3 HR3
      go_wp2_with fail
      refine (lives_true _ (HL.out.below HB5.out)).mono ?_
      rintro e w5 ⟨rfl, hB6⟩
      have HB6 := Lib.hid (HB5.out.trans (hB6.mono HB5.out.size))
      clear hB6
      go_wp2
      go_ret
      exact ⟨rfl, HB6.out⟩
theorem lexerAll_walk (a0 : ByteArray) (W : World) (w0 : a0.size ≤ maxLen) (_hs : a0.data.toList.length ≤ reachBytes) (hL : laidMetH Tryd.prog Rows.lexerAllRow.laid W) (hsh : W.ShapedOpen Tryd.prog) :
    Calls Tryd.prog 3 #[.string a0] W fun e w' => e = .returned (.bool true) ∧ Below W.heap.size W w' := by
  have hts := lcut_size a0
  unfold maxLen at w0
  cases h : allN (a0.extract 0 (min (a0.size : Int) 2000).toNat).data.toList with
  | ok ts => exact lexerAll_ok _ hts W (laid_of W hL hsh) ts h (by have := allN_few _ _ h; rw [ba_length] at this; omega) a0 (by omega) rfl
  | bad er o => exact lexerAll_bad _ hts W (laid_of W hL hsh) er o h a0 (by omega) rfl
end Go.Proofs.YtkpgkobhnldhpaaDoor
