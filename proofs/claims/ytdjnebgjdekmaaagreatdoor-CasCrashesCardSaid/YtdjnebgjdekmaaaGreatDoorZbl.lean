/- Contracts of slices.Grow of nothing, of slices.Concat of slices of bytes, and of cas's Entry and Parse. -/
import Derived.Test.YtdjnebgjdekmaaaGreatDoorZbi
import Derived.Test.YtdjnebgjdekmaaaGreatDoorZay
import Derived.Test.YtdjnebgjdekmaaaGreatDoorZba
import Derived.Test.YtdjnebgjdekmaaaGreatDoorZap
import Derived.Test.YtdjnebgjdekmaaaGreatDoorZaz
set_option linter.unusedVariables false
set_option maxRecDepth 100000
namespace Go.Proofs.YtdjnebgjdekmaaaGreatDoor
open Go.RowKit Go.Shelf
theorem grow_any (k : Nat) (hk : 0 < k) (hk2 : k ≤ 1000000) (w : World) :
 Calls Tryz.prog 89 #[.slice none 0 0, .int .i64 (k : Int)] w fun e w' => (∃ c', e = .returned (.slice (some ⟨w.heap.size, 0, none⟩) 0 c') ∧ k ≤ c' ∧ SLine 1 w' (some ⟨w.heap.size, 0, none⟩) 0 c' []) ∧ Below w.heap.size w w' := by
 obtain ⟨c', W1, ys, hr, hyl, hl, hb, hkc, hcm⟩ := sline_zeros 1 (by decide) w 40 3 40 5 _ 1 Tryz.underlying40 Tryz.underlying3 info_u8 rfl (by decide) none 0 0 [] (SLine.nil 1 w) 0 (Nat.le_refl _) k hk (by omega) (by omega)
 have hl2 := hl.shrink 0 (by omega)
 have HR := Lib.hid hr
 have HL := Lib.hid (And.intro hl2 hb)
 have hk0 : ¬ ((k : Int) < 0) := by omega
 have hk1 : (k : Int) > 0 := by omega
 have hcm' : c' ≤ 9223372036854775807 := hcm
 have hkc' : 0 + k ≤ c' := hkc
 clear hr hl hb hl2 hyl hk hkc hcm
 go_enter Tryz.func89, Tryz.ntmps89
 go_wp2_with (at_builtin; refine Lib.wpList_append_run _ rfl _ _ _ _ rfl _ _ rfl rfl _ _ HR.out ?_)
 go_ret
 exact ⟨⟨c', rfl, by omega, by simpa using HL.out.1⟩, HL.out.2⟩
def catN (ls : List (List Nat)) : List Nat := ls.flatten
theorem catN_take {ls : List (List Nat)} {k : Nat} {r : List Nat} (h : ls[k]? = some r) : catN (ls.take (k + 1)) = catN (ls.take k) ++ r := by
 obtain ⟨hk, rfl⟩ := List.getElem?_eq_some_iff.1 h
 unfold catN
 rw [List.take_succ_eq_append_getElem hk, List.flatten_append]
 simp
theorem catN_le (ls : List (List Nat)) (k : Nat) : (catN (ls.take k)).length ≤ (catN ls).length := by
 unfold catN
 conv => rhs; rw [← List.take_append_drop k ls, List.flatten_append, List.length_append]
 omega
set_option maxHeartbeats 2000000 in
theorem concat_any (w : World) (A : Option Addr) (n c : Nat) (ls : List (List Nat)) (hA : Recs w A n ls) (hn : n ≤ 100) (h0 : 0 < (catN ls).length) (hm : (catN ls).length ≤ 100000) :
 Calls Tryz.prog 61 #[.slice A n c] w fun e w' => (∃ A' c', e = .returned (.slice A' (catN ls).length c') ∧ BLine w' A' (catN ls).length c' (catN ls) ∧ ∀ k ∈ blk A', w.heap.size ≤ k) ∧ Below w.heap.size w w' := by
 have hlen := hA.len
 have HA := Lib.hid hA
 have hn' : (n : Int) ≤ 100 := by omega
 obtain ⟨M, hM⟩ : ∃ M, (catN ls).length = M := ⟨_, rfl⟩
 have HM := Lib.hid hM
 rw [hM] at h0 hm ⊢
 have HG := Lib.hid (grow_any M h0 (by omega) w)
 clear hA hM
 go_enter Tryz.func61, Tryz.ntmps61
 go_wp2
 go_loop [3, 11] (fun v i => ∃ (k S : Nat), k ≤ n ∧ i = .int .i64 k ∧ v = .int .i64 S ∧ Hid (S = (catN (ls.take k)).length)) (fun _ i => n - (intOf i).toNat)
 case atStart => exact ⟨0, 0, by omega, rfl, rfl, Lib.hid rfl⟩
 case round =>
  obtain ⟨k, S, hk, rfl, rfl, HS⟩ := hrel
  rcases Nat.lt_or_ge k n with hkn | hkn
  · obtain ⟨g, off, r, A', c', rfl, hg, hr, hc, hrc, hrow⟩ := HA.out.at hkn
    have hS1 : (catN (ls.take (k + 1))).length = S + r.length := by rw [catN_take hr, List.length_append, HS.out]
    have hSM : S + r.length ≤ M := by rw [← hS1, ← HM.out]; exact catN_le ls _
    have HS1 := Lib.hid hS1.symm
    obtain ⟨rl, hrl⟩ : ∃ rl, r.length = rl := ⟨_, rfl⟩
    rw [hrl] at hc hSM HS1
    have hkn' : (k : Int) < (n : Int) := by omega
    have hk0 : (0 : Int) ≤ (k : Int) := by omega
    have hs0 : ¬ ((S : Int) + (rl : Int) < 0) := by omega
    have hb1 : (S : Int) + (rl : Int) ≤ 100000 := by omega
    clear hr hrow hS1 hrl HS HM HG HA
    go_wp2
    go_round
    case rel => exact ⟨k + 1, S + rl, by omega, by simp, by simp, HS1⟩
    case measure => simp [intOf]; omega
  · obtain rfl : k = n := by omega
    have hSM : S = M := by rw [HS.out, ← HM.out, List.take_of_length_le (by omega)]
    subst hSM
    clear hkn HS
    go_wp2_with (with_reducible refine HG.out.mono ?_; rintro e w1 ⟨⟨c1, rfl, hkc, hl⟩, hb⟩; have HL := Lib.hid hl; have HB := Lib.hid hb; clear hl hb)
    go_loopw [6, 27] (fun v i wr => ∃ (j : Nat) (A' : Option Addr) (c' : Nat), j ≤ k ∧ i = .int .i64 j ∧ v = .slice A' (catN (ls.take j)).length c' ∧ Hid (BLine wr A' (catN (ls.take j)).length c' (catN (ls.take j)) ∧ (∀ i ∈ blk A', w.heap.size ≤ i) ∧ A' ≠ none) ∧ Hid (Below w.heap.size w wr)) (fun _ i _ => k - (intOf i).toNat)
    case atStart =>
     refine ⟨0, _, c1, by omega, rfl, rfl, Lib.hid ⟨⟨bytesN_nil, HL.out⟩, fun i hi => ?_, by simp⟩, HB⟩
     obtain ⟨ad, ea, hb⟩ := mem_blk.1 hi
     cases ea
     exact Nat.le_of_eq hb
    case round =>
     obtain ⟨j, A', c', hj, rfl, rfl, HI, HBr⟩ := hrel
     rcases Nat.lt_or_ge j k with hjk | hjk
     · obtain ⟨g, off, r, A2, c2, rfl, hg, hr, hc, hrc, hrow⟩ := (HA.out.below HBr.out).at hjk
       have hS1 : catN (ls.take (j + 1)) = catN (ls.take j) ++ r := catN_take hr
       have hle := catN_le ls (j + 1)
       rw [hS1, List.length_append, HM.out] at hle
       obtain ⟨A3, c3, W3, hrun, hl3, hch, hfr, hne⟩ := bytes_push wr A' _ c' _ HI.out.1 (by omega) A2 r.length c2 r hrow (by omega) (fun e => absurd e HI.out.2.2)
       have hbl : Below w.heap.size w W3 := HBr.out.trans (hch.toBelow (fun i hi => HI.out.2.1 i hi) HBr.out.size)
       have hfr3 : ∀ i ∈ blk A3, w.heap.size ≤ i := fun i hi => by
        rcases hfr i hi with q | q
        · exact HI.out.2.1 i q
        · have := HBr.out.size; omega
       rw [← hS1, ← List.length_append, ← hS1] at hl3
       rw [← List.length_append, ← hS1] at hrun
       have HR := Lib.hid hrun
       have HN := Lib.hid (And.intro hl3 (And.intro hfr3 hne))
       have HB3 := Lib.hid hbl
       obtain ⟨rl, hrl⟩ : ∃ rl, r.length = rl := ⟨_, rfl⟩
       rw [hrl] at hc HR
       have hjk' : (j : Int) < (k : Int) := by omega
       have hj0 : (0 : Int) ≤ (j : Int) := by omega
       clear hrun hl3 hch hfr hne hbl hfr3 hr hrow hS1 hle hrl
       go_wp2_with (at_builtin; refine Lib.wpList_append_run _ rfl _ _ _ _ rfl _ _ rfl rfl _ _ HR.out ?_)
       go_roundw
       case rel => exact ⟨j + 1, A3, c3, by omega, by simp, rfl, HN, HB3⟩
       case measure => simp [intOf]; omega
     · obtain rfl : j = k := by omega
       have hfull : catN (ls.take j) = catN ls := by rw [List.take_of_length_le (by omega)]
       rw [hfull, HM.out]
       have HN := HI.out
       rw [hfull, HM.out] at HN
       have HN := Lib.hid HN
       clear hfull HI
       go_wp2
       go_ret
       exact ⟨⟨A', c', rfl, HN.out.1, HN.out.2.1⟩, HBr.out⟩
theorem BLine.keyAt {w : World} {A : Option Addr} {n c : Nat} {l : List Nat} (h : BLine w A n c l) (hn : n ≤ 100000) : KeyAt w A n c l := ⟨⟨h.row, h.2.2.2.2.1, h.2.2.1⟩, h.2.2.2.1, hn⟩
theorem recs_two (w : World) (A B : Option Addr) (n c m c2 : Nat) (k a : List Nat) (hk : RowN w A n k) (ha : RowN w B m a) (hc : n ≤ c) (hc2 : m ≤ c2) :
 Recs (w.alloc (.cells #[.slice A n c, .slice B m c2] 40)) (some ⟨w.heap.size, 0, none⟩) 2 [k, a] := by
 have hb : Below w.heap.size w (w.alloc (.cells #[.slice A n c, .slice B m c2] 40)) := (Below.refl _ w).alloc (Nat.le_refl _) _
 have h0 := heap_alloc_new w (.cells #[.slice A n c, .slice B m c2] 40)
 have hkl := hk.length
 have hal := ha.length
 refine ⟨[.slice A n c, .slice B m c2], ⟨rfl, fun _ => ⟨w.heap.size, 0, rfl, by simp, fun j v hj => ?_⟩⟩, rfl, fun i v r hi hr => ?_⟩
 · rw [cell_of_row _ _ _ _ _ _ h0]
   rw [Nat.zero_add]
   exact (List.getElem?_toArray ..).trans hj
 · rcases i with _ | _ | i
   · cases hi; cases hr
     exact ⟨A, c, by rw [hkl], by omega, by rw [hkl]; exact hk.below hb⟩
   · cases hi; cases hr
     exact ⟨B, c2, by rw [hal], by omega, by rw [hal]; exact ha.below hb⟩
   · simp at hi
theorem entry_any (A B : Option Addr) (n c m c2 : Nat) (k a : List Nat) (hn : n ≤ 65536) (hm : m ≤ 65536) (hs : n + m + 16 ≤ 100000) (w : World) (hk : RowN w A n k) (ha : RowN w B m a) :
 Calls Tryz.prog 33 #[.slice A n c, .slice B m c2] w fun e w' => (∃ A' c', e = .returned (.tuple #[.slice A' (n + m + 16) c', .int .i64 0]) ∧ BLine w' A' (n + m + 16) c' (entryN k a) ∧ ∀ j ∈ blk A', w.heap.size ≤ j) ∧ Below w.heap.size w w' := by
 have hkl := hk.length
 have hal := ha.length
 have H1 := Lib.hid (frame_any A n c k hn w hk)
 have HA := Lib.hid ha
 have HL := Lib.hid (show (catN [frameN k, frameN a]).length = n + m + 16 by
  show (frameN k ++ (frameN a ++ [])).length = _
  rw [List.append_nil, List.length_append, frameN_length, frameN_length, hkl, hal]
  omega)
 have HE := Lib.hid (show catN [frameN k, frameN a] = entryN k a by
  show frameN k ++ (frameN a ++ []) = _
  rw [List.append_nil]
  rfl)
 clear hk ha hkl hal
 go_enter Tryz.func33, Tryz.ntmps33
 go_wp2_with (with_reducible refine H1.out.mono ?_; rintro e w1 ⟨⟨g1, d1, rfl, hg1, hl1⟩, hb1⟩; have HL1 := Lib.hid hl1; have HB1 := Lib.hid hb1; clear hl1 hb1)
 refine (frame_any B m c2 a hm w1 (HA.out.below HB1.out)).mono ?_
 rintro e w2 ⟨⟨g2, d2, rfl, hg2, hl2⟩, hb2⟩
 have hd1 : n + 8 ≤ d1 := HL1.out.2.2.1
 have hd2 : m + 8 ≤ d2 := hl2.2.2.1
 have hR := recs_two w2 _ _ (n + 8) d1 (m + 8) d2 _ _ (HL1.out.below hb2).row hl2.row hd1 hd2
 have hb3 : Below w2.heap.size w2 (w2.alloc (.cells #[.slice (some ⟨g1, 0, none⟩) (n + 8) d1, .slice (some ⟨g2, 0, none⟩) (m + 8) d2] 40)) := (Below.refl _ w2).alloc (Nat.le_refl _) _
 have hb4 : Below w.heap.size w w2 := HB1.out.trans (hb2.mono HB1.out.size)
 have HB4 := Lib.hid (hb4.trans (hb3.mono hb4.size))
 have HC := Lib.hid (concat_any _ _ 2 2 _ hR (by omega) (by rw [HL.out]; omega) (by rw [HL.out]; omega))
 rw [HL.out, HE.out] at HC
 clear hl2 hb2 hd1 hd2 hR hb3 hb4 hg1 hg2
 go_wp2_with (with_reducible refine HC.out.mono ?_; rintro e w5 ⟨⟨A5, c5, rfl, hl5, hf5⟩, hb5⟩; have HL5 := Lib.hid (And.intro hl5 hf5); have HB5 := Lib.hid hb5; clear hl5 hf5 hb5)
 go_ret2
 exact ⟨⟨A5, c5, rfl, HL5.out.1, fun j hj => Nat.le_trans HB4.out.size (HL5.out.2 j hj)⟩, HB4.out.trans (HB5.out.mono HB4.out.size)⟩
def SplitAns (w : World) (l : List Nat) (e : Ending) (w' : World) : Prop :=
 match splitE l with
 | none => e = .returned (.tuple #[.slice none 0 0, .slice none 0 0, .bool false])
 | some (k, a) => ∃ A1 c1 A2 c2, e = .returned (.tuple #[.slice A1 k.length c1, .slice A2 a.length c2, .bool true]) ∧ BLine w' A1 k.length c1 k ∧ BLine w' A2 a.length c2 a ∧ (∀ j ∈ blk A1, w.heap.size ≤ j) ∧ ∀ j ∈ blk A2, w.heap.size ≤ j
theorem two_of {rs : List (List Nat)} (h : rs.length = 2) : ∃ k a, rs = [k, a] := by
 match rs, h with
 | [k, a], _ => exact ⟨k, a, rfl⟩
set_option maxHeartbeats 1600000 in
theorem split_any (w : World) (A : Option Addr) (n cap : Nat) (l : List Nat) (hn : n ≤ 90000) (hnc : n ≤ cap) (hcm : cap ≤ 9223372036854775807) (hR : RowN w A n l) :
 Calls Tryz.prog 82 #[.slice A n cap] w fun e w' => SplitAns w l e w' ∧ Below w.heap.size w w' := by
 have HP := Lib.hid (parse_any w A n cap l hn hnc hcm hR)
 have hl := hR.length
 obtain ⟨t, ht⟩ := (all_parse l.length l (Nat.le_refl _) hR.bytes).1
 have hgl := congrArg List.length ht
 rw [List.length_append] at hgl
 clear ht hR
 by_cases h2 : (parseN l).length = 2
 · obtain ⟨k, a, hp⟩ := two_of h2
   rw [hp] at HP hgl
   obtain ⟨G, hG⟩ : ∃ G, (allN [k, a]).length = G := ⟨_, rfl⟩
   rw [hG] at HP hgl
   have hgn : (G : Int) ≤ (n : Int) := by omega
   by_cases he : n = G
   · have hsp : splitE l = some (k, a) := by
      unfold splitE
      rw [hp]
      show (if _ then _ else _) = _
      rw [if_pos (by omega)]
     have HSP : Hid (∀ e w', SplitAns w l e w' ↔ ∃ A1 c1 A2 c2, e = .returned (.tuple #[.slice A1 k.length c1, .slice A2 a.length c2, .bool true]) ∧ BLine w' A1 k.length c1 k ∧ BLine w' A2 a.length c2 a ∧ (∀ j ∈ blk A1, w.heap.size ≤ j) ∧ ∀ j ∈ blk A2, w.heap.size ≤ j) := Lib.hid (fun e w' => by unfold SplitAns; rw [hsp])
     have hge : ¬ ((G : Int) < (n : Int)) := by omega
     obtain ⟨nn, hnn⟩ : ∃ nn, n = nn := ⟨_, rfl⟩
     clear hsp hp hG hgl h2 hnn he
     go_enter Tryz.func82, Tryz.ntmps82
     go_wp2_with fail
     with_reducible refine HP.out.mono ?_
     rintro e w1 ⟨R, c, vs, rfl, hl1, hr1, hf1, hb1⟩
     obtain ⟨g, off, rfl, hg, hcs, _⟩ := hl1.at (by simp)
     obtain ⟨hvl, hv⟩ := hr1
     obtain ⟨v0, v1, rfl⟩ : ∃ v0 v1, vs = [v0, v1] := by
      match vs, hvl with
      | [v0, v1], _ => exact ⟨v0, v1, rfl⟩
     obtain ⟨A1, c1, rfl, hb1', hk1⟩ := hv 0 v0 k rfl rfl
     obtain ⟨A2, c2, rfl, hb2', hk2⟩ := hv 1 v1 a rfl rfl
     have x0 : w1.cell? ⟨g, off, none⟩ = some (.slice A1 k.length c1) := by have := hcs 0 (by simp); rw [Nat.add_zero] at this; exact this
     have x1 : w1.cell? ⟨g, off + 1, none⟩ = some (.slice A2 a.length c2) := hcs 1 (by simp)
     have HX := Lib.hid (And.intro hb1' (And.intro hb2' (And.intro (fun j hj => (hk1 j hj).1) (fun j hj => (hk2 j hj).1))))
     have HB := Lib.hid hb1
     have h22 : ([k, a] : List (List Nat)).length = 2 := rfl
     rw [h22]
     clear hl1 hf1 hb1 hcs hvl hv hb1' hb2' hk1 hk2 h22
     go_wp2
     go_region
     go_wp2
     go_ret3
     exact ⟨(HSP.out _ _).2 ⟨A1, c1, A2, c2, rfl, HX.out⟩, HB.out.drew⟩
   · have hsp : splitE l = none := by
      unfold splitE
      rw [hp]
      show (if _ then _ else _) = _
      rw [if_neg (by omega)]
     have HSP : Hid (∀ e w', SplitAns w l e w' ↔ e = .returned (.tuple #[.slice none 0 0, .slice none 0 0, .bool false])) := Lib.hid (fun e w' => by unfold SplitAns; rw [hsp])
     have hlt : (G : Int) < (n : Int) := by omega
     clear hsp hp hG hgl h2 he
     go_enter Tryz.func82, Tryz.ntmps82
     go_wp2_with fail
     with_reducible refine HP.out.mono ?_
     rintro e w1 ⟨R, c, vs, rfl, hl1, hr1, hf1, hb1⟩
     have HB := Lib.hid hb1
     have h22 : ([k, a] : List (List Nat)).length = 2 := rfl
     rw [h22]
     clear hl1 hr1 hf1 hb1 h22
     go_wp2
     go_ret3
     exact ⟨(HSP.out _ _).2 rfl, HB.out⟩
 · have hsp : splitE l = none := by
    unfold splitE
    split
    · rename_i k a hp
      rw [hp] at h2
      exact absurd rfl h2
    · rfl
   have HSP : Hid (∀ e w', SplitAns w l e w' ↔ e = .returned (.tuple #[.slice none 0 0, .slice none 0 0, .bool false])) := Lib.hid (fun e w' => by unfold SplitAns; rw [hsp])
   obtain ⟨N, hN⟩ : ∃ N, (parseN l).length = N := ⟨_, rfl⟩
   obtain ⟨G, hG⟩ : ∃ G, (allN (parseN l)).length = G := ⟨_, rfl⟩
   rw [hN] at h2 HP
   rw [hG] at HP
   have h2b : ((N : Int) == 2) = false := by simp; omega
   have h2' : ¬ (N : Int) = 2 := by omega
   clear hsp hN hG hgl
   go_enter Tryz.func82, Tryz.ntmps82
   go_wp2_with fail
   with_reducible refine HP.out.mono ?_
   rintro e w1 ⟨R, c, vs, rfl, hl1, hr1, hf1, hb1⟩
   have HB := Lib.hid hb1
   clear hl1 hr1 hf1 hb1
   go_wp2
   go_ret3
   exact ⟨(HSP.out _ _).2 rfl, HB.out⟩
def RSplit (l : List Nat) (e : Ending) (w' : World) : Prop :=
 match splitE l with
 | none => e = .returned (.tuple #[.slice none 0 0, .slice none 0 0, .bool false])
 | some (k, a) => ∃ A1 c1 A2 c2, e = .returned (.tuple #[.slice A1 k.length c1, .slice A2 a.length c2, .bool true]) ∧ RowN w' A1 k.length k ∧ RowN w' A2 a.length a
set_option maxHeartbeats 1600000 in
theorem rsplit_any (w : World) (A : Option Addr) (n cap : Nat) (l : List Nat) (hn : n ≤ 90000) (hnc : n ≤ cap) (hcm : cap ≤ 9223372036854775807) (hR : RowN w A n l) :
 Calls Tryz.prog 24 #[.slice A n cap] w fun e w' => RSplit l e w' ∧ Below w.heap.size w w' := by
 have HP := Lib.hid (refparse_any w A n cap l hn hnc hcm hR)
 have hl := hR.length
 clear hR
 by_cases h2 : (parseN l).length = 2
 · obtain ⟨k, a, hp⟩ := two_of h2
   rw [hp] at HP
   obtain ⟨G, hG⟩ : ∃ G, (allN [k, a]).length = G := ⟨_, rfl⟩
   rw [hG] at HP
   by_cases he : n = G
   · have hsp : splitE l = some (k, a) := by
      unfold splitE
      rw [hp]
      show (if _ then _ else _) = _
      rw [if_pos (by omega)]
     have HSP : Hid (∀ e w', RSplit l e w' ↔ ∃ A1 c1 A2 c2, e = .returned (.tuple #[.slice A1 k.length c1, .slice A2 a.length c2, .bool true]) ∧ RowN w' A1 k.length k ∧ RowN w' A2 a.length a) := Lib.hid (fun e w' => by unfold RSplit; rw [hsp])
     rw [← he] at HP
     clear hsp hp hG hl h2 he
     go_enter Tryz.func24, Tryz.ntmps24
     go_wp2_with fail
     refine HP.out.mono ?_
     rintro e w1 ⟨R, c, rfl, hrc, hb1⟩
     have h22 : ([k, a] : List (List Nat)).length = 2 := rfl
     rw [h22] at hrc ⊢
     obtain ⟨g, off, r, A1, c1, rfl, hg, hr, hc, hrc1, hrow⟩ := hrc.at (k := 0) (show 0 < 2 by omega)
     cases hr
     obtain ⟨g', off', r, A2, c2, ee, hg', hr, hc', hrc2, hrow2⟩ := hrc.at (k := 1) (show 1 < 2 by omega)
     cases hr
     cases ee
     rw [Nat.add_zero] at hc
     have HX := Lib.hid (And.intro hrow hrow2)
     have HB := Lib.hid hb1
     clear hrc hrow hrow2 hb1 h22 hrc1 hrc2
     go_wp2
     go_region
     go_wp2
     go_ret3
     exact ⟨(HSP.out _ _).2 ⟨A1, c1, A2, c2, rfl, HX.out.1.drew, HX.out.2.drew⟩, HB.out.drew⟩
   · have hsp : splitE l = none := by
      unfold splitE
      rw [hp]
      show (if _ then _ else _) = _
      rw [if_neg (by omega)]
     have HSP : Hid (∀ e w', RSplit l e w' ↔ e = .returned (.tuple #[.slice none 0 0, .slice none 0 0, .bool false])) := Lib.hid (fun e w' => by unfold RSplit; rw [hsp])
     have hg1 : ((G : Int) == (n : Int)) = false := by simp; omega
     have hg2 : ¬ (G : Int) = (n : Int) := by omega
     clear hsp hp hG hl h2 he
     go_enter Tryz.func24, Tryz.ntmps24
     go_wp2_with fail
     refine HP.out.mono ?_
     rintro e w1 ⟨R, c, rfl, hrc, hb1⟩
     have HB := Lib.hid hb1
     have h22 : ([k, a] : List (List Nat)).length = 2 := rfl
     rw [h22]
     clear hrc hb1 h22
     go_wp2
     go_ret3
     exact ⟨(HSP.out _ _).2 rfl, HB.out⟩
 · have hsp : splitE l = none := by
    unfold splitE
    split
    · rename_i k a hp
      rw [hp] at h2
      exact absurd rfl h2
    · rfl
   have HSP : Hid (∀ e w', RSplit l e w' ↔ e = .returned (.tuple #[.slice none 0 0, .slice none 0 0, .bool false])) := Lib.hid (fun e w' => by unfold RSplit; rw [hsp])
   obtain ⟨N, hN⟩ : ∃ N, (parseN l).length = N := ⟨_, rfl⟩
   obtain ⟨G, hG⟩ : ∃ G, (allN (parseN l)).length = G := ⟨_, rfl⟩
   rw [hN] at h2 HP
   rw [hG] at HP
   have h2b : ((N : Int) == 2) = false := by simp; omega
   have h2' : ¬ (N : Int) = 2 := by omega
   clear hsp hN hG hl
   by_cases he : n = G
   · rw [← he] at HP
     clear he
     go_enter Tryz.func24, Tryz.ntmps24
     go_wp2_with fail
     refine HP.out.mono ?_
     rintro e w1 ⟨R, c, rfl, hrc, hb1⟩
     have HB := Lib.hid hb1
     clear hrc hb1
     go_wp2
     go_ret3
     exact ⟨(HSP.out _ _).2 rfl, HB.out⟩
   · have hg1 : ((G : Int) == (n : Int)) = false := by simp; omega
     have hg2 : ¬ (G : Int) = (n : Int) := by omega
     clear he
     go_enter Tryz.func24, Tryz.ntmps24
     go_wp2_with fail
     refine HP.out.mono ?_
     rintro e w1 ⟨R, c, rfl, hrc, hb1⟩
     have HB := Lib.hid hb1
     clear hrc hb1
     go_wp2
     go_ret3
     exact ⟨(HSP.out _ _).2 rfl, HB.out⟩
end Go.Proofs.YtdjnebgjdekmaaaGreatDoor
