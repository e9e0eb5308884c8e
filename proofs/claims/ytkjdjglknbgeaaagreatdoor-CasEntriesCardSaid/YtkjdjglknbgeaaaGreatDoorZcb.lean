/-
  The walk of the law CasEntries: it answers true and writes nothing that was there.
-/
import Derived.Test.YtkjdjglknbgeaaaGreatDoorZbs
import Derived.Test.YtkjdjglknbgeaaaGreatDoorZbz
import Derived.Test.YtkjdjglknbgeaaaGreatDoorZaa
import Derived.Test.YtkjdjglknbgeaaaGreatDoorZbm
import Derived.Test.YtkjdjglknbgeaaaGreatDoorZax
namespace Go.Proofs.YtkjdjglknbgeaaaGreatDoor
open Go.RowKit Go.Shelf
set_option linter.unusedVariables false
set_option maxRecDepth 100000

set_option maxHeartbeats 1600000 in
theorem rentry_any (A B : Option Addr) (n c m c2 : Nat) (k a : List Nat) (hn : n ≤ 65536) (hm : m ≤ 65536) (w : World) (hk : RowN w A n k) (ha : RowN w B m a) :
    Calls Tryz.prog 11 #[.slice A n c, .slice B m c2] w fun e w' => (∃ A' c', e = .returned (.slice A' (n + m + 16) c') ∧ RowN w' A' (n + m + 16) (entryN k a)) ∧ Below w.heap.size w w' := by
  have H1 := Lib.hid (refframe_any A n c k hn w hk)
  have HA := Lib.hid ha
  clear hk ha
  go_enter Tryz.func11, Tryz.ntmps11
  go_wp2_with fail
  refine H1.out.mono ?_
  rintro e w1 ⟨⟨A1, d1, rfl, hf1, hl1⟩, hb1⟩
  have H2 := Lib.hid (refframe_any B m c2 a hm w1 (HA.out.below hb1))
  have HL1 := Lib.hid (And.intro hl1 (And.intro hf1 hb1))
  clear hl1 hf1 hb1 H1
  go_wp2_with fail
  refine H2.out.mono ?_
  rintro e w2 ⟨⟨A2, d2, rfl, hf2, hl2⟩, hb2⟩
  have hl1 := HL1.out.1.below hb2
  obtain ⟨A3, c3, W3, hrun, hl3, hch, hfr, hne⟩ := bytes_push w2 A1 _ d1 _ hl1 (by omega) A2 (m + 8) d2 (frameN a) hl2.row (by omega) (fun e => by omega)
  have hb3 : Below w.heap.size w W3 := (HL1.out.2.2.trans (hb2.mono HL1.out.2.2.size)).trans (hch.toBelow (fun i hi => HL1.out.2.1 i hi) (Nat.le_trans HL1.out.2.2.size hb2.size))
  have e1 : n + 8 + (m + 8) = n + m + 16 := by omega
  rw [e1] at hrun hl3
  have HR := Lib.hid hrun
  have HX := Lib.hid (And.intro hl3.row hb3)
  clear hl1 hl2 hf2 hb2 hrun hl3 hch hfr hne hb3 e1 HL1 H2
  go_wp2_with (at_builtin; refine Lib.wpList_append_run _ rfl _ _ _ _ rfl _ _ rfl rfl _ _ HR.out ?_)
  go_ret
  exact ⟨⟨A3, c3, rfl, HX.out.1⟩, HX.out.2⟩
/-- What the document's Parse hands back. -/
def RSplit (l : List Nat) (e : Ending) (w' : World) : Prop :=
  match splitE l with
  | none => e = .returned (.tuple #[.slice none 0 0, .slice none 0 0, .bool false])
  | some (k, a) => ∃ A1 c1 A2 c2, e = .returned (.tuple #[.slice A1 k.length c1, .slice A2 a.length c2, .bool true]) ∧ RowN w' A1 k.length k ∧ RowN w' A2 a.length a
set_option maxHeartbeats 1600000 in
theorem rsplit_any (w : World) (A : Option Addr) (n cap : Nat) (l : List Nat) (hn : n ≤ 90000) (hnc : n ≤ cap) (hcm : cap ≤ 9223372036854775807) (hR : RowN w A n l) :
    Calls Tryz.prog 15 #[.slice A n cap] w fun e w' => RSplit l e w' ∧ Below w.heap.size w w' := by
  have HP := Lib.hid (refparse_any w A n cap l hn hnc hcm hR)
  have hl := hR.length
  clear hR
  by_cases h2 : (parseN l).length = 2
  · obtain ⟨k, a, hp⟩ := two_of h2
    rw [hp] at HP
    obtain ⟨G, hG⟩ : ∃ G, (allN [k, a]).length = G := ⟨_, rfl⟩
    rw [hG] at HP
    by_cases he : n = G
    · have hsp : splitE l = some (k, a) := by
        unfold splitE
        rw [hp]
        show (if _ then _ else _) = _
        rw [if_pos (by omega)]
      have HSP : Hid (∀ e w', RSplit l e w' ↔ ∃ A1 c1 A2 c2, e = .returned (.tuple #[.slice A1 k.length c1, .slice A2 a.length c2, .bool true]) ∧ RowN w' A1 k.length k ∧ RowN w' A2 a.length a) := Lib.hid (fun e w' => by unfold RSplit; rw [hsp])
      rw [← he] at HP
      clear hsp hp hG hl h2 he
      go_enter Tryz.func15, Tryz.ntmps15
      go_wp2_with fail
      refine HP.out.mono ?_
      rintro e w1 ⟨R, c, rfl, hrc, hb1⟩
      have h22 : ([k, a] : List (List Nat)).length = 2 := rfl
      rw [h22] at hrc ⊢
      obtain ⟨g, off, r, A1, c1, rfl, hg, hr, hc, hrc1, hrow⟩ := hrc.at (k := 0) (show 0 < 2 by omega)
      cases hr
      obtain ⟨g', off', r, A2, c2, ee, hg', hr, hc', hrc2, hrow2⟩ := hrc.at (k := 1) (show 1 < 2 by omega)
      cases hr
      cases ee
      rw [Nat.add_zero] at hc
      have HX := Lib.hid (And.intro hrow hrow2)
      have HB := Lib.hid hb1
      clear hrc hrow hrow2 hb1 h22 hrc1 hrc2
      go_wp2
      go_region
      go_wp2
      go_ret3
      exact ⟨(HSP.out _ _).2 ⟨A1, c1, A2, c2, rfl, HX.out.1.drew, HX.out.2.drew⟩, HB.out.drew⟩
    · have hsp : splitE l = none := by
        unfold splitE
        rw [hp]
        show (if _ then _ else _) = _
        rw [if_neg (by omega)]
      have HSP : Hid (∀ e w', RSplit l e w' ↔ e = .returned (.tuple #[.slice none 0 0, .slice none 0 0, .bool false])) := Lib.hid (fun e w' => by unfold RSplit; rw [hsp])
      have hg1 : ((G : Int) == (n : Int)) = false := by simp; omega
      have hg2 : ¬ (G : Int) = (n : Int) := by omega
      clear hsp hp hG hl h2 he
      go_enter Tryz.func15, Tryz.ntmps15
      go_wp2_with fail
      refine HP.out.mono ?_
      rintro e w1 ⟨R, c, rfl, hrc, hb1⟩
      have HB := Lib.hid hb1
      have h22 : ([k, a] : List (List Nat)).length = 2 := rfl
      rw [h22]
      clear hrc hb1 h22
      go_wp2
      go_ret3
      exact ⟨(HSP.out _ _).2 rfl, HB.out⟩
  · have hsp : splitE l = none := by
      unfold splitE
      split
      · rename_i k a hp
        rw [hp] at h2
        exact absurd rfl h2
      · rfl
    have HSP : Hid (∀ e w', RSplit l e w' ↔ e = .returned (.tuple #[.slice none 0 0, .slice none 0 0, .bool false])) := Lib.hid (fun e w' => by unfold RSplit; rw [hsp])
    obtain ⟨N, hN⟩ : ∃ N, (parseN l).length = N := ⟨_, rfl⟩
    obtain ⟨G, hG⟩ : ∃ G, (allN (parseN l)).length = G := ⟨_, rfl⟩
    rw [hN] at h2 HP
    rw [hG] at HP
    have h2b : ((N : Int) == 2) = false := by simp; omega
    have h2' : ¬ (N : Int) = 2 := by omega
    clear hsp hN hG hl
    by_cases he : n = G
    · rw [← he] at HP
      clear he
      go_enter Tryz.func15, Tryz.ntmps15
      go_wp2_with fail
      refine HP.out.mono ?_
      rintro e w1 ⟨R, c, rfl, hrc, hb1⟩
      have HB := Lib.hid hb1
      clear hrc hb1
      go_wp2
      go_ret3
      exact ⟨(HSP.out _ _).2 rfl, HB.out⟩
    · have hg1 : ((G : Int) == (n : Int)) = false := by simp; omega
      have hg2 : ¬ (G : Int) = (n : Int) := by omega
      clear he
      go_enter Tryz.func15, Tryz.ntmps15
      go_wp2_with fail
      refine HP.out.mono ?_
      rintro e w1 ⟨R, c, rfl, hrc, hb1⟩
      have HB := Lib.hid hb1
      clear hrc hb1
      go_wp2
      go_ret3
      exact ⟨(HSP.out _ _).2 rfl, HB.out⟩
end Go.Proofs.YtkjdjglknbgeaaaGreatDoor
namespace Go.Proofs.YtkjdjglknbgeaaaGreatDoor
open Go.RowKit Go.Shelf
set_option linter.unusedVariables false
set_option maxRecDepth 100000

theorem held_of_isRow {w : World} {A : Option Addr} {len cap : Nat} {zs : List Int} (h : IsRow .u8 w A len cap zs) : ∃ l, Held w A len cap l ∧ cap ≤ 9223372036854775807 := by
  refine ⟨_, ⟨(RowZ.of_isRow h).toN, ?_, ?_⟩, ?_⟩
  · intro hA
    rcases h with ⟨_, _, h, _⟩ | ⟨x, rfl, _⟩
    · exact h
    · cases hA
  · rcases h with ⟨_, h1, h2, _⟩ | ⟨x, _, hl, _⟩
    · omega
    · exact hl
  · rcases h with ⟨_, h1, h2, _⟩ | ⟨x, _, hl, hm, _⟩
    · omega
    · unfold maxLen at hm; omega
theorem held_take {w : World} {A : Option Addr} {n cap k : Nat} {l : List Nat} (h : Held w A n cap l) (hk : k ≤ n) : Held w A k cap (l.take k) :=
  ⟨h.1.take hk, h.2.1, by have := h.2.2; omega⟩
theorem rootsE_laid {W : World} (hL : laidMetH Tryz.prog Rows.casEntriesRow.laid W) : RootsOk W := by
  rw [MakeChecks.laidMetH_plain _ _ _ (by kernel_rfl)] at hL
  have h : laidMet Tryz.prog [("brazier/digest.roots", Rows.laid_brazier_digest_roots)] W := hL.tail.tail.tail
  exact roots_of_laid (by rw [MakeChecks.laidMetH_plain _ _ _ (by kernel_rfl)]; exact h)
/-- FileOf and the document's FileOf answer alike. -/
theorem files_same (A : Option Addr) (n c : Nat) (l : List Nat) (d s : Int) (hn : n ≤ 3000) (hc : c ≤ 9223372036854775807) (w : World) (hK : Held w A n c l) (hR : RootsOk w) : ∃ F : ByteArray, ∀ W, Below w.heap.size w W →
    (Calls Tryz.prog 12 #[.slice A n c, .int .i64 d, .int .i64 s] W fun e w' => e = .returned (.string F) ∧ Below W.heap.size W w') ∧
    (Calls Tryz.prog 13 #[.slice A n c, .int .i64 d, .int .i64 s] W fun e w' => e = .returned (.string F) ∧ Below W.heap.size W w') := by
  by_cases h : ¬ (0 ≤ d ∧ d ≤ 64) ∨ s < 0 ∨ 8 ≤ s
  · refine ⟨⟨#[]⟩, fun W hb => ⟨(fileOf_no A n c d s h W).mono ?_, (rfileOf_no A n c d s h W).mono ?_⟩⟩
    · rintro e w' ⟨rfl, rfl⟩
      exact ⟨rfl, Below.refl _ _⟩
    · rintro e w' ⟨rfl, rfl⟩
      exact ⟨rfl, Below.refl _ _⟩
  · obtain ⟨dn, rfl⟩ : ∃ dn : Nat, d = (dn : Int) := ⟨d.toNat, by omega⟩
    obtain ⟨sn, rfl⟩ : ∃ sn : Nat, s = (sn : Int) := ⟨s.toNat, by omega⟩
    exact ⟨fileB l dn sn, fun W hb => ⟨fileOf_any A n c l dn sn (by omega) (by omega) W ⟨hK.below hb, hc, by omega⟩ (hR.below hb), rfileOf_any A n c l dn sn hn (by omega) (by omega) W (hK.below hb)⟩⟩
/-- What bytes are as an entry. -/
def pE (l : List Nat) : List Nat × List Nat × Bool := match splitE l with
  | none => ([], [], false)
  | some (k, a) => (k, a, true)
theorem nilRow (w : World) : RowN w none 0 [] := ⟨rfl, fun z hz => by simp [asZ] at hz, fun h => absurd h (by omega)⟩
theorem SplitAns.pe {w w' : World} {l : List Nat} {e : Ending} (h : SplitAns w l e w') : ∃ A1 c1 A2 c2, e = .returned (.tuple #[.slice A1 (pE l).1.length c1, .slice A2 (pE l).2.1.length c2, .bool (pE l).2.2]) ∧ RowN w' A1 (pE l).1.length (pE l).1 ∧ RowN w' A2 (pE l).2.1.length (pE l).2.1 := by
  unfold SplitAns at h
  unfold pE
  cases hs : splitE l with
  | none =>
    rw [hs] at h
    exact ⟨none, 0, none, 0, h, nilRow _, nilRow _⟩
  | some p =>
    obtain ⟨k, a⟩ := p
    rw [hs] at h
    obtain ⟨A1, c1, A2, c2, rfl, h1, h2, _, _⟩ := h
    exact ⟨A1, c1, A2, c2, rfl, h1.row, h2.row⟩
theorem RSplit.pe {w' : World} {l : List Nat} {e : Ending} (h : RSplit l e w') : ∃ A1 c1 A2 c2, e = .returned (.tuple #[.slice A1 (pE l).1.length c1, .slice A2 (pE l).2.1.length c2, .bool (pE l).2.2]) ∧ RowN w' A1 (pE l).1.length (pE l).1 ∧ RowN w' A2 (pE l).2.1.length (pE l).2.1 := by
  unfold RSplit at h
  unfold pE
  cases hs : splitE l with
  | none =>
    rw [hs] at h
    exact ⟨none, 0, none, 0, h, nilRow _, nilRow _⟩
  | some p =>
    obtain ⟨k, a⟩ := p
    rw [hs] at h
    obtain ⟨A1, c1, A2, c2, rfl, h1, h2⟩ := h
    exact ⟨A1, c1, A2, c2, rfl, h1, h2⟩
theorem pE_entry (k a : List Nat) (hk : k.length ≤ 65536) (ha : a.length ≤ 65536) : pE (entryN k a) = (k, a, true) := by
  unfold pE
  rw [split_entry k a hk ha]
set_option maxHeartbeats 6400000 in
theorem casEntries_walk (a0 : Option Addr) (len0 cap0 : Nat) (z0 : List Int) (a1 : Option Addr) (len1 cap1 : Nat) (z1 : List Int) (x y : Int) (W : World) (w0 : IsRow .u8 W a0 len0 cap0 z0) (w1 : IsRow .u8 W a1 len1 cap1 z1) (hL : laidMetH Tryz.prog Rows.casEntriesRow.laid W) :
    Calls Tryz.prog 3 #[.slice a0 len0 cap0, .slice a1 len1 cap1, .agg #[.int .i64 x, .int .i64 y]] W fun e w' => e = .returned (.bool true) ∧ Below W.heap.size W w' := by
  obtain ⟨l0, h0, c0⟩ := held_of_isRow w0
  obtain ⟨l1, h1, c1⟩ := held_of_isRow w1
  have hR := rootsE_laid hL
  have HQ := Lib.hid (held_take h0 (k := min len0 2000) (Nat.min_le_left _ _))
  have HP := Lib.hid (held_take h1 (k := min len1 2000) (Nat.min_le_left _ _))
  generalize l0.take (min len0 2000) = k at *
  generalize l1.take (min len1 2000) = a at *
  have em : min (len0 : Int) 2000 = ((min len0 2000 : Nat) : Int) := by omega
  have em1 : min (len1 : Int) 2000 = ((min len1 2000 : Nat) : Int) := by omega
  have hm : min len0 2000 ≤ 2000 := by omega
  have hm1 : min len1 2000 ≤ 2000 := by omega
  have hmc : min len0 2000 ≤ cap0 := HQ.out.2.2
  have hmc1 : min len1 2000 ≤ cap1 := HP.out.2.2
  clear h0 h1 w0 w1 hL
  generalize min len0 2000 = m at *
  generalize min len1 2000 = m1 at *
  have i0 : (0 : Int) ≤ (m : Int) := by omega
  have i1 : (0 : Int) ≤ (m1 : Int) := by omega
  have i2 : (m : Int) ≤ (cap0 : Int) := by omega
  have i3 : (m1 : Int) ≤ (cap1 : Int) := by omega
  have hkl : k.length = m := HQ.out.1.length
  have hal : a.length = m1 := HP.out.1.length
  have HPE := Lib.hid (pE_entry k a (by omega) (by omega))
  obtain ⟨F, hF⟩ := files_same a0 m cap0 k x y (by omega) c0 W HQ.out hR
  have HF := Lib.hid hF
  have HR := Lib.hid hR
  obtain ⟨q, hq⟩ : ∃ q, W.heap.size = q := ⟨_, rfl⟩
  obtain ⟨W2, hW2⟩ : ∃ W2, W.alloc (.cells #[.int .i64 x, .int .i64 y] 23) = W2 := ⟨_, rfl⟩
  have hb2 : Below W.heap.size W W2 := by rw [← hW2]; exact (Below.refl _ W).alloc (Nat.le_refl _) _
  have hx : W2.heap[q]? = some (.cells #[.int .i64 x, .int .i64 y] 23 (0, 0)) := by rw [← hW2, ← hq]; exact heap_alloc_new W _
  have HC : Hid (∀ V, Below W2.heap.size W2 V → V.cell? ⟨q, 0, none⟩ = some (.int .i64 x) ∧ V.cell? ⟨q, 1, none⟩ = some (.int .i64 y)) := Lib.hid (fun V hV => by
    have h := (hV.block q (lt_of_block hx)).trans hx
    exact ⟨by rw [cell_of_row _ _ _ _ _ _ h]; rfl, by rw [cell_of_row _ _ _ _ _ _ h]; rfl⟩)
  have HB2 := Lib.hid hb2
  have HQE := Lib.hid hq
  clear hF hR hkl hal hb2 hx
  go_enter Tryz.func3, Tryz.ntmps3
  go_wp2_with fail
  go_region
  have hdr : Below W.heap.size W W2.drew := HB2.out.drew
  have HEN := Lib.hid (entry_any a0 a1 m cap0 m1 cap1 k a (by omega) (by omega) (by omega) W2.drew (HQ.out.1.below hdr) (HP.out.1.below hdr))
  have HDR := Lib.hid (And.intro hdr (Below.refl W2.heap.size W2).drew)
  clear hdr
  go_wp2_with fail
  refine HEN.out.mono ?_
  rintro e w1 ⟨⟨A1, d1, rfl, hl1, _⟩, hb1⟩
  have hbW : Below W.heap.size W w1 := HDR.out.1.trans (hb1.mono HDR.out.1.size)
  have hb2' : Below W2.heap.size W2 w1 := HDR.out.2.trans (hb1.mono HDR.out.2.size)
  have hn16 : m + m1 + 16 ≤ 5000 := by omega
  have hN : entryN k a = entryN k a := rfl
  have HRE := Lib.hid (fun V (h : Below w1.heap.size w1 V) => rentry_any a0 a1 m cap0 m1 cap1 k a (by omega) (by omega) V (HQ.out.1.below (hbW.trans (h.mono hbW.size))) (HP.out.1.below (hbW.trans (h.mono hbW.size))))
  have HF1 := Lib.hid (fun V (h : Below w1.heap.size w1 V) => HF.out V (hbW.trans (h.mono hbW.size)))
  have HC1 := Lib.hid (fun V (h : Below w1.heap.size w1 V) => HC.out V (hb2'.trans (h.mono hb2'.size)))
  have CV := Lib.hid (fun (V : World) (A : Option Addr) (c : Nat) (h : RowN V A (m + m1 + 16) (entryN k a)) => conv_row h c)
  generalize strOfNums (asZ (entryN k a)) = u at *
  have HL1 := Lib.hid (And.intro hl1 hbW)
  clear hl1 hbW hb2' hb1 HEN HDR HC HB2 hW2 hN
  generalize m + m1 + 16 = N at *
  have HD1 := Lib.hid (Below.refl w1.heap.size w1).drew
  go_upto_region 3 with fail
  go_cut [59] from 34 to 58 (fun v wx => v = .bool false ∧ Hid (Below w1.heap.size w1 wx))
  case first =>
    refine wp_region_held_drew (S := fun w' => Below w1.heap.size w1 w') (by kernel_rfl) HD1.out (fun hHeld => ?_)
--REG
    refine wpAnyH_take (i := 0) (oi := { dst := some 34, op := Op.move (Operand.tmp 8), type := 24, pos := "law.go:45", after := #[], guard := none }) (v := (.int .i64 0)) rfl (by kernel_rfl) (by kernel_rfl) (by kernel_rfl) (fun _ _ _ h => h) (Or.inl ⟨by rfl, ?_⟩) (by assumption) ?_
    · intro w hSw
      go_simp
    try simp only [Act.put, List.setIfInBounds_toArray, List.set_cons_zero, List.set_cons_succ]
    refine wpAnyH_take (i := 1) (oi := { dst := some 35, op := Op.binOp BinOp.neq 24 (Operand.tmp 34) (Operand.const (Value.int IntKind.i64 0)) 24, type := 4, pos := "law.go:45", after := #[{ on := 0, ground := Ground.data }], guard := none }) (v := (.bool false)) rfl (by kernel_rfl) (by kernel_rfl) (by kernel_rfl) (fun _ _ _ h => h) (Or.inl ⟨by rfl, ?_⟩) (by assumption) ?_
    · intro w hSw
      go_simp
    try simp only [Act.put, List.setIfInBounds_toArray, List.set_cons_zero, List.set_cons_succ]
    refine wpAnyH_take (i := 2) (oi := { dst := some 36, op := Op.move (Operand.tmp 35), type := 4, pos := "law.go:45", after := #[{ on := 1, ground := Ground.data }], guard := none }) (v := (.bool false)) rfl (by kernel_rfl) (by kernel_rfl) (by kernel_rfl) (fun _ _ _ h => h) (Or.inl ⟨by rfl, ?_⟩) (by assumption) ?_
    · intro w hSw
      go_simp
    try simp only [Act.put, List.setIfInBounds_toArray, List.set_cons_zero, List.set_cons_succ]
    refine wpAnyH_take (i := 3) (oi := { dst := some 37, op := Op.move (Operand.tmp 7), type := 22, pos := "law.go:45", after := #[{ on := 2, ground := Ground.guard }], guard := some (2, false) }) (v := (.slice A1 N d1)) rfl (by kernel_rfl) (by kernel_rfl) (by kernel_rfl) (fun _ _ _ h => h) (Or.inl ⟨by rfl, ?_⟩) (by assumption) ?_
    · intro w hSw
      go_simp
    try simp only [Act.put, List.setIfInBounds_toArray, List.set_cons_zero, List.set_cons_succ]
    refine wpAnyH_take (i := 4) (oi := { dst := some 38, op := Op.convert 22 9 (Operand.tmp 37), type := 9, pos := "law.go:45", after := #[{ on := 3, ground := Ground.data }, { on := 2, ground := Ground.guard }], guard := some (2, false) }) (v := (.string u)) rfl (by kernel_rfl) (by kernel_rfl) (by kernel_rfl) (fun _ _ _ h => h) (Or.inl ⟨by rfl, ?_⟩) (by assumption) ?_
    · intro w hSw
      have v := CV.out w A1 d1 (HL1.out.1.row.below hSw)
      go_simp
    try simp only [Act.put, List.setIfInBounds_toArray, List.set_cons_zero, List.set_cons_succ]
    refine wpAnyH_take (i := 5) (oi := { dst := some 39, op := Op.move (Operand.tmp 0), type := 22, pos := "law.go:45", after := #[{ on := 2, ground := Ground.guard }], guard := some (2, false) }) (v := (.slice a0 m cap0)) rfl (by kernel_rfl) (by kernel_rfl) (by kernel_rfl) (fun _ _ _ h => h) (Or.inl ⟨by rfl, ?_⟩) (by assumption) ?_
    · intro w hSw
      go_simp
    try simp only [Act.put, List.setIfInBounds_toArray, List.set_cons_zero, List.set_cons_succ]
    refine wpAnyH_take (i := 6) (oi := { dst := some 40, op := Op.move (Operand.tmp 1), type := 22, pos := "law.go:45", after := #[{ on := 2, ground := Ground.guard }], guard := some (2, false) }) (v := (.slice a1 m1 cap1)) rfl (by kernel_rfl) (by kernel_rfl) (by kernel_rfl) (fun _ _ _ h => h) (Or.inl ⟨by rfl, ?_⟩) (by assumption) ?_
    · intro w hSw
      go_simp
    try simp only [Act.put, List.setIfInBounds_toArray, List.set_cons_zero, List.set_cons_succ]
    refine wpAnyH_ready (rs := [7]) (by kernel_rfl) (by simp) ?_
    refine AllReadyH.cons (o := { dst := some 41, op := Op.call { callee := Callee.value (Operand.func 11), args := #[Operand.tmp 39, Operand.tmp 40], argTypes := #[22, 22] }, type := 22, pos := "law.go:45", after := #[{ on := 5, ground := Ground.data }, { on := 6, ground := Ground.data }, { on := 2, ground := Ground.chain }, { on := 2, ground := Ground.guard }], guard := some (2, false) }) rfl (fun K hK => ?_) AllReadyH.nil
    go_simp
    go_at_call 11
    refine (HRE.out w1.drew HD1.out).mono ?_
    rintro e w2 ⟨⟨A2, d2, rfl, hr2⟩, hb⟩
    have HB2 : Hid (Below w1.heap.size w1 w2) := Lib.hid (HD1.out.trans (hb.mono HD1.out.size))
    have HR2 := Lib.hid hr2
    clear hb hr2
    try go_wp2_with fail
    refine hK.out _ _ HB2.out (fun hHeld2 => ?_)
    clear hK K hHeld
    refine wpAnyH_mono (S' := fun w' => Below w2.heap.size w2 w') (fun w' h => HB2.out.trans (h.mono HB2.out.size)) _ _ _ _ ?_
    have hHeld3 : Below w2.heap.size w2 w2 := Below.refl _ _
    try simp only [Act.put, List.setIfInBounds_toArray, List.set_cons_zero, List.set_cons_succ]
    refine wpAnyH_take (i := 8) (oi := { dst := some 42, op := Op.convert 22 9 (Operand.tmp 41), type := 9, pos := "law.go:45", after := #[{ on := 7, ground := Ground.data }, { on := 2, ground := Ground.guard }], guard := some (2, false) }) (v := (.string u)) rfl (by kernel_rfl) (by kernel_rfl) (by kernel_rfl) (fun _ _ _ h => h) (Or.inl ⟨by rfl, ?_⟩) (by assumption) ?_
    · intro w hSw
      have v := CV.out w A2 d2 (HR2.out.below hSw)
      go_simp
    try simp only [Act.put, List.setIfInBounds_toArray, List.set_cons_zero, List.set_cons_succ]
    refine wpAnyH_take (i := 9) (oi := { dst := some 43, op := Op.binOp BinOp.neq 9 (Operand.tmp 38) (Operand.tmp 42) 9, type := 4, pos := "law.go:45", after := #[{ on := 4, ground := Ground.data }, { on := 8, ground := Ground.data }, { on := 2, ground := Ground.guard }], guard := some (2, false) }) (v := (.bool false)) rfl (by kernel_rfl) (by kernel_rfl) (by kernel_rfl) (fun _ _ _ h => h) (Or.inl ⟨by rfl, ?_⟩) (by assumption) ?_
    · intro w hSw
      go_simp
    try simp only [Act.put, List.setIfInBounds_toArray, List.set_cons_zero, List.set_cons_succ]
    refine wpAnyH_take (i := 10) (oi := { dst := some 44, op := Op.pick (Operand.tmp 36) (Operand.const (Value.bool true)) (Operand.tmp 43), type := 4, pos := "law.go:45", after := #[{ on := 2, ground := Ground.data }, { on := 9, ground := Ground.data }], guard := none }) (v := (.bool false)) rfl (by kernel_rfl) (by kernel_rfl) (by kernel_rfl) (fun _ _ _ h => h) (Or.inl ⟨by rfl, ?_⟩) (by assumption) ?_
    · intro w hSw
      go_simp
    try simp only [Act.put, List.setIfInBounds_toArray, List.set_cons_zero, List.set_cons_succ]
    refine wpAnyH_take (i := 11) (oi := { dst := some 45, op := Op.move (Operand.tmp 44), type := 4, pos := "law.go:45", after := #[{ on := 10, ground := Ground.data }, { on := 7, ground := Ground.chain }], guard := none }) (v := (.bool false)) rfl (by kernel_rfl) (by kernel_rfl) (by kernel_rfl) (fun _ _ _ h => h) (Or.inl ⟨by rfl, ?_⟩) (by assumption) ?_
    · intro w hSw
      go_simp
    try simp only [Act.put, List.setIfInBounds_toArray, List.set_cons_zero, List.set_cons_succ]
    refine wpAnyH_take (i := 12) (oi := { dst := some 46, op := Op.move (Operand.tmp 0), type := 22, pos := "law.go:45", after := #[{ on := 11, ground := Ground.guard }], guard := some (11, false) }) (v := (.slice a0 m cap0)) rfl (by kernel_rfl) (by kernel_rfl) (by kernel_rfl) (fun _ _ _ h => h) (Or.inl ⟨by rfl, ?_⟩) (by assumption) ?_
    · intro w hSw
      go_simp
    try simp only [Act.put, List.setIfInBounds_toArray, List.set_cons_zero, List.set_cons_succ]
    refine wpAnyH_take (i := 13) (oi := { dst := some 47, op := Op.indexAddr 23 (Operand.tmp 5) (Operand.const (Value.int IntKind.i64 0)), type := 0, pos := "law.go:45", after := #[{ on := 11, ground := Ground.guard }], guard := some (11, false) }) (v := (.pointer (some ⟨q, 0, none⟩))) rfl (by kernel_rfl) (by kernel_rfl) (by kernel_rfl) (fun _ _ _ h => h) (Or.inl ⟨by rfl, ?_⟩) (by assumption) ?_
    · intro w hSw
      go_simp
    try simp only [Act.put, List.setIfInBounds_toArray, List.set_cons_zero, List.set_cons_succ]
    refine wpAnyH_take (i := 14) (oi := { dst := some 48, op := Op.load 3 (Operand.tmp 47), type := 3, pos := "law.go:45", after := #[{ on := 13, ground := Ground.data }, { on := 11, ground := Ground.guard }], guard := some (11, false) }) (v := (.int .i64 x)) rfl (by kernel_rfl) (by kernel_rfl) (by kernel_rfl) (fun _ _ _ h => h) (Or.inl ⟨by rfl, ?_⟩) (by assumption) ?_
    · intro w hSw
      obtain ⟨y0, y1⟩ := HC1.out w (HB2.out.trans (hSw.mono HB2.out.size))
      go_simp
    try simp only [Act.put, List.setIfInBounds_toArray, List.set_cons_zero, List.set_cons_succ]
    refine wpAnyH_take (i := 15) (oi := { dst := some 49, op := Op.indexAddr 23 (Operand.tmp 5) (Operand.const (Value.int IntKind.i64 1)), type := 0, pos := "law.go:45", after := #[{ on := 11, ground := Ground.guard }], guard := some (11, false) }) (v := (.pointer (some ⟨q, 1, none⟩))) rfl (by kernel_rfl) (by kernel_rfl) (by kernel_rfl) (fun _ _ _ h => h) (Or.inl ⟨by rfl, ?_⟩) (by assumption) ?_
    · intro w hSw
      go_simp
    try simp only [Act.put, List.setIfInBounds_toArray, List.set_cons_zero, List.set_cons_succ]
    refine wpAnyH_take (i := 16) (oi := { dst := some 50, op := Op.load 3 (Operand.tmp 49), type := 3, pos := "law.go:45", after := #[{ on := 15, ground := Ground.data }, { on := 11, ground := Ground.guard }], guard := some (11, false) }) (v := (.int .i64 y)) rfl (by kernel_rfl) (by kernel_rfl) (by kernel_rfl) (fun _ _ _ h => h) (Or.inl ⟨by rfl, ?_⟩) (by assumption) ?_
    · intro w hSw
      obtain ⟨y0, y1⟩ := HC1.out w (HB2.out.trans (hSw.mono HB2.out.size))
      go_simp
    try simp only [Act.put, List.setIfInBounds_toArray, List.set_cons_zero, List.set_cons_succ]
    refine wpAnyH_take (i := 18) (oi := { dst := some 52, op := Op.move (Operand.tmp 0), type := 22, pos := "law.go:45", after := #[{ on := 11, ground := Ground.guard }], guard := some (11, false) }) (v := (.slice a0 m cap0)) rfl (by kernel_rfl) (by kernel_rfl) (by kernel_rfl) (fun _ _ _ h => h) (Or.inl ⟨by rfl, ?_⟩) (by assumption) ?_
    · intro w hSw
      go_simp
    try simp only [Act.put, List.setIfInBounds_toArray, List.set_cons_zero, List.set_cons_succ]
    refine wpAnyH_take (i := 19) (oi := { dst := some 53, op := Op.indexAddr 23 (Operand.tmp 5) (Operand.const (Value.int IntKind.i64 0)), type := 0, pos := "law.go:45", after := #[{ on := 11, ground := Ground.guard }], guard := some (11, false) }) (v := (.pointer (some ⟨q, 0, none⟩))) rfl (by kernel_rfl) (by kernel_rfl) (by kernel_rfl) (fun _ _ _ h => h) (Or.inl ⟨by rfl, ?_⟩) (by assumption) ?_
    · intro w hSw
      go_simp
    try simp only [Act.put, List.setIfInBounds_toArray, List.set_cons_zero, List.set_cons_succ]
    refine wpAnyH_take (i := 20) (oi := { dst := some 54, op := Op.load 3 (Operand.tmp 53), type := 3, pos := "law.go:45", after := #[{ on := 19, ground := Ground.data }, { on := 11, ground := Ground.guard }], guard := some (11, false) }) (v := (.int .i64 x)) rfl (by kernel_rfl) (by kernel_rfl) (by kernel_rfl) (fun _ _ _ h => h) (Or.inl ⟨by rfl, ?_⟩) (by assumption) ?_
    · intro w hSw
      obtain ⟨y0, y1⟩ := HC1.out w (HB2.out.trans (hSw.mono HB2.out.size))
      go_simp
    try simp only [Act.put, List.setIfInBounds_toArray, List.set_cons_zero, List.set_cons_succ]
    refine wpAnyH_take (i := 21) (oi := { dst := some 55, op := Op.indexAddr 23 (Operand.tmp 5) (Operand.const (Value.int IntKind.i64 1)), type := 0, pos := "law.go:45", after := #[{ on := 11, ground := Ground.guard }], guard := some (11, false) }) (v := (.pointer (some ⟨q, 1, none⟩))) rfl (by kernel_rfl) (by kernel_rfl) (by kernel_rfl) (fun _ _ _ h => h) (Or.inl ⟨by rfl, ?_⟩) (by assumption) ?_
    · intro w hSw
      go_simp
    try simp only [Act.put, List.setIfInBounds_toArray, List.set_cons_zero, List.set_cons_succ]
    refine wpAnyH_take (i := 22) (oi := { dst := some 56, op := Op.load 3 (Operand.tmp 55), type := 3, pos := "law.go:45", after := #[{ on := 21, ground := Ground.data }, { on := 11, ground := Ground.guard }], guard := some (11, false) }) (v := (.int .i64 y)) rfl (by kernel_rfl) (by kernel_rfl) (by kernel_rfl) (fun _ _ _ h => h) (Or.inl ⟨by rfl, ?_⟩) (by assumption) ?_
    · intro w hSw
      obtain ⟨y0, y1⟩ := HC1.out w (HB2.out.trans (hSw.mono HB2.out.size))
      go_simp
    try simp only [Act.put, List.setIfInBounds_toArray, List.set_cons_zero, List.set_cons_succ]
    refine wpAnyH_ready (rs := [17]) (by kernel_rfl) (by simp) ?_
    refine AllReadyH.cons (o := { dst := some 51, op := Op.call { callee := Callee.value (Operand.func 12), args := #[Operand.tmp 46, Operand.tmp 48, Operand.tmp 50], argTypes := #[22, 3, 3] }, type := 9, pos := "law.go:45", after := #[{ on := 12, ground := Ground.data }, { on := 14, ground := Ground.data }, { on := 16, ground := Ground.data }, { on := 11, ground := Ground.chain }, { on := 11, ground := Ground.guard }], guard := some (11, false) }) rfl (fun K hK => ?_) AllReadyH.nil
    go_simp
    go_at_call 12
    refine (HF1.out w2 (HB2.out.trans (hHeld3.mono HB2.out.size))).1.mono ?_
    rintro e w3 ⟨rfl, hb⟩
    have hw3 : Below w2.heap.size w2 w3 := hHeld3.trans (hb.mono hHeld3.size)
    clear hb
    try go_wp2_with fail
    refine hK.out _ _ hw3 (fun hhw3 => ?_)
    clear hK K
    try simp only [Act.put, List.setIfInBounds_toArray, List.set_cons_zero, List.set_cons_succ]
    refine wpAnyH_ready (rs := [23]) (by kernel_rfl) (by simp) ?_
    refine AllReadyH.cons (o := { dst := some 57, op := Op.call { callee := Callee.value (Operand.func 13), args := #[Operand.tmp 52, Operand.tmp 54, Operand.tmp 56], argTypes := #[22, 3, 3] }, type := 9, pos := "law.go:45", after := #[{ on := 18, ground := Ground.data }, { on := 20, ground := Ground.data }, { on := 22, ground := Ground.data }, { on := 17, ground := Ground.chain }, { on := 11, ground := Ground.guard }], guard := some (11, false) }) rfl (fun K hK => ?_) AllReadyH.nil
    go_simp
    go_at_call 13
    refine (HF1.out w3 (HB2.out.trans (hw3.mono HB2.out.size))).2.mono ?_
    rintro e w4 ⟨rfl, hb⟩
    have hw4 : Below w2.heap.size w2 w4 := hw3.trans (hb.mono hw3.size)
    clear hb
    try go_wp2_with fail
    refine hK.out _ _ hw4 (fun hhw4 => ?_)
    clear hK K
    try simp only [Act.put, List.setIfInBounds_toArray, List.set_cons_zero, List.set_cons_succ]
    refine wpAnyH_take (i := 24) (oi := { dst := some 58, op := Op.binOp BinOp.neq 9 (Operand.tmp 51) (Operand.tmp 57) 9, type := 4, pos := "law.go:45", after := #[{ on := 17, ground := Ground.data }, { on := 23, ground := Ground.data }, { on := 11, ground := Ground.guard }], guard := some (11, false) }) (v := (.bool false)) rfl (by kernel_rfl) (by kernel_rfl) (by kernel_rfl) (fun _ _ _ h => h) (Or.inl ⟨by rfl, ?_⟩) (by assumption) ?_
    · intro w hSw
      go_simp
    try simp only [Act.put, List.setIfInBounds_toArray, List.set_cons_zero, List.set_cons_succ]
    refine wpAnyH_take (i := 25) (oi := { dst := some 59, op := Op.pick (Operand.tmp 45) (Operand.const (Value.bool true)) (Operand.tmp 58), type := 4, pos := "law.go:45", after := #[{ on := 11, ground := Ground.data }, { on := 24, ground := Ground.data }], guard := none }) (v := (.bool false)) rfl (by kernel_rfl) (by kernel_rfl) (by kernel_rfl) (fun _ _ _ h => h) (Or.inl ⟨by rfl, ?_⟩) (by assumption) ?_
    · intro w hSw
      go_simp
    try simp only [Act.put, List.setIfInBounds_toArray, List.set_cons_zero, List.set_cons_succ]
    refine wpAnyH_done (by kernel_rfl) ?_ _
    go_wp2_with fail
    go_meet
    exact ⟨rfl, Lib.hid (HB2.out.trans (hw4.mono HB2.out.size))⟩
--GER
  case rest =>
    obtain ⟨rfl, HB⟩ := hcut
    have HB1 : Hid (Below W.heap.size W wc) := Lib.hid (HL1.out.2.trans (HB.out.mono HL1.out.2.size))
    have hn90 : N ≤ 90000 := by omega
    have HSA := Lib.hid (split_any wc A1 N d1 (entryN k a) hn90 HL1.out.1.2.2.1 HL1.out.1.2.2.2.1 (HL1.out.1.row.below HB.out))
    have HPS := Lib.hid (fun V (h : Below W.heap.size W V) => split_any V a1 m1 cap1 a (by omega) hmc1 c1 (HP.out.1.below h))
    have HRS := Lib.hid (fun V (h : Below W.heap.size W V) => rsplit_any V a1 m1 cap1 a (by omega) hmc1 c1 (HP.out.1.below h))
    clear HB HF1 HC1 HRE CV HF
    go_wp2_with fail
    refine HSA.out.mono ?_
    rintro e w5 ⟨hans, hb5⟩
    have hpe := hans.pe
    rw [HPE.out] at hpe
    obtain ⟨B1, e1, B2, e2, rfl, hr1, hr2⟩ := hpe
    have hB5 : Below W.heap.size W w5 := HB1.out.trans (hb5.mono HB1.out.size)
    have v1 := conv_row hr1 e1
    have v2 := conv_row hr2 e2
    have v3 := conv_row (HQ.out.1.below hB5) cap0
    have v4 := conv_row (HP.out.1.below hB5) cap1
    have HB5 := Lib.hid hB5
    have HPA := Lib.hid (HPS.out w5 hB5)
    simp only at hr1 hr2 v1 v2
    generalize strOfNums (asZ k) = sk at *
    generalize strOfNums (asZ a) = sa at *
    clear hr1 hr2 hans hb5 hB5 HSA HB1 HPS HL1
    go_wp2_with fail
    refine HPA.out.mono ?_
    rintro e w6 ⟨hans, hb6⟩
    obtain ⟨G1, g1, G2, g2, rfl, hr1, hr2⟩ := hans.pe
    have hB6 : Below W.heap.size W w6 := HB5.out.trans (hb6.mono HB5.out.size)
    have HRP := Lib.hid (HRS.out w6 hB6)
    have HR6 := Lib.hid (And.intro hr1 (And.intro hr2 hB6))
    clear v1 v2 v3 v4 hans hb6 hr1 hr2 hB6 HB5 HPA HRS
    go_wp2_with fail
    refine HRP.out.mono ?_
    rintro e w7 ⟨hans, hb7⟩
    obtain ⟨H1, t1, H2, t2, rfl, hr3, hr4⟩ := hans.pe
    have hB7 : Below W.heap.size W w7 := HR6.out.2.2.trans (hb7.mono HR6.out.2.2.size)
    have v1 := conv_row (HR6.out.1.below hb7) g1
    have v2 := conv_row (HR6.out.2.1.below hb7) g2
    have v3 := conv_row hr3 t1
    have v4 := conv_row hr4 t2
    have HLV := Lib.hid (casLives w7 (HR.out.below hB7))
    have HB7 := Lib.hid hB7
    generalize (pE a).2.2 = ok at *
    generalize strOfNums (asZ (pE a).1) = s1 at *
    generalize strOfNums (asZ (pE a).2.1) = s2 at *
    generalize (pE a).1.length = n1 at *
    generalize (pE a).2.1.length = n2 at *
    clear hans hb7 hr3 hr4 hB7 HR6 HRP
    go_wp2_with fail
    refine HLV.out.mono ?_
    rintro e w8 ⟨rfl, hb8⟩
    have HB8 : Hid (Below W.heap.size W w8) := Lib.hid (HB7.out.trans (hb8.mono HB7.out.size))
    clear hb8 HB7 HLV v1 v2 v3 v4
    go_wp2
    go_ret
    exact ⟨rfl, HB8.out⟩
end Go.Proofs.YtkjdjglknbgeaaaGreatDoor
