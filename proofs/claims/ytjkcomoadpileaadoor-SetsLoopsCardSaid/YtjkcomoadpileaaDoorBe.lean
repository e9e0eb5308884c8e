/-
  Contracts of (*Bits).Minus.
-/
import Derived.Test.YtjkcomoadpileaaDoorBd
namespace Go.Proofs.YtjkcomoadpileaaDoor
open Go.RowKit
set_option linter.unusedVariables false

set_option maxHeartbeats 400000 in
theorem minus_any (w : World) (b b2 : Nat) (v v2 : Value) (ws us : List Nat) (hS : SetG w b v ws) (hU : SetG w b2 v2 us) (hd : ∀ k ∈ foot b2 v2, k ∉ foot b v) :
    Calls Tryd.prog 23 #[.pointer (some ⟨b, 0, none⟩), .pointer (some ⟨b2, 0, none⟩)] w fun e w' => e = .returned (.bool (minusT ws us)) ∧ SetTo w b v (minusW ws us) w' := by
  have hc1 := hS.cell
  have hc2 := hU.cell
  have hsh := hU.short
  have hsh1 := hS.short
  have HS := Lib.hid hS
  have HU := Lib.hid hU
  have HD := Lib.hid hd
  clear hS hU hd
  obtain ⟨A2, c2, rfl, hW2⟩ := HU.out.slice
  have HW2 := Lib.hid hW2
  obtain ⟨A1, c1, rfl, hW1⟩ := HS.out.slice
  have HW1 := Lib.hid hW1
  clear hW1 hW2
  obtain ⟨M, hM⟩ : ∃ M, us.length = M := ⟨_, rfl⟩
  rw [hM] at hc2 hsh
  rw [hM] at HU
  rw [hM] at HD
  rw [hM] at HW2
  have HM := Lib.hid hM
  clear hM
  obtain ⟨L, hL⟩ : ∃ L, ws.length = L := ⟨_, rfl⟩
  rw [hL] at hc1 hsh1
  rw [hL] at HS
  rw [hL] at HD
  rw [hL] at HW1
  rw [hL]
  have HL := Lib.hid hL
  clear hL
  obtain ⟨K, hK⟩ : ∃ K, min L M = K := ⟨_, rfl⟩
  have hKL : K ≤ L := by omega
  have hKM : K ≤ M := by omega
  have HK := Lib.hid hK
  clear hK
  go_enter Tryd.func23, Tryd.ntmps23
  go_wp2_with (first
    | ((with_reducible refine (held_any _ _ _ hc1).mono ?_); rintro e w' ⟨rfl, rfl⟩)
    | ((with_reducible refine (held_any _ _ _ hc2).mono ?_); rintro e w' ⟨rfl, rfl⟩))
  all_goals
    have hKe := HK.out
    first | rw [show (M : Int) = (K : Int) by omega] | rw [show (L : Int) = (K : Int) by omega]
    clear hKe
    go_loopw [7, 18] (fun t i wr => ∃ k : Nat, k ≤ K ∧ i = .int .i64 k ∧ t = .bool (anyK bothF ws us k) ∧ SetG wr b (.slice A1 L c1) (zipK lessF ws us k) ∧ Chg (foot b (.slice A1 L c1)) w wr) (fun _ i _ => K - (intOf i).toNat)
    case atStart => exact ⟨0, by omega, rfl, rfl, HS.out, Chg.refl _ _⟩
    case round =>
      obtain ⟨k, hk, rfl, rfl, hSr, hCr⟩ := hrel
      rcases Nat.lt_or_ge k K with hkn | hkn
      · have hUr := HU.out.chg hCr HD.out
        obtain ⟨g, rfl, hg, hcs⟩ := HW2.out.cells (by omega)
        obtain ⟨A2', c2', e2, hW2r⟩ := hUr.slice
        rw [HM.out] at e2 hW2r
        cases e2
        obtain ⟨g', e3, hg', hcu0⟩ := hW2r.cells (by omega)
        cases e3
        have hcu := hcu0 k (by omega)
        have hlz : (zipK lessF ws us k).length = L := by rw [zipK_length, HL.out]
        obtain ⟨A1', c1', e4, hW1r⟩ := hSr.slice
        rw [hlz] at e4 hW1r
        cases e4
        obtain ⟨g1, rfl, hg1, hcw0⟩ := hW1r.cells (by omega)
        have hcw := hcw0 k (by omega)
        rw [zipK_wd _ _ _ _ (by rw [HL.out]; omega), if_neg (by omega)] at hcw
        have hfro : wr.frozen? ⟨g1, k, none⟩ = false := by
          have := hSr.own
          rw [hlz] at this
          exact this.frozenAt k
        have hxs := wd_lt HS.out.small k
        have hus := wd_lt HU.out.small k
        have EA : Hid (anyK bothF ws us (k + 1) = (anyK bothF ws us k || bothF (wd ws k) (wd us k) != 0)) := Lib.hid (anyK_succ _ _ _ _)
        have EZ : Hid (zipK lessF ws us (k + 1) = (zipK lessF ws us k).set k (lessF (wd ws k) (wd us k))) := Lib.hid rfl
        have hor : lessF (wd ws k) (wd us k) < 18446744073709551616 := and_lt _ hxs
        have HSr := Lib.hid hSr
        have HCr := Lib.hid hCr
        have HLZ := Lib.hid hlz
        clear hSr hCr hUr hW2r hg' hcs hlz hW1r hg1 hcu0 hcw0
        obtain ⟨x, hxe⟩ : ∃ x, wd ws k = x := ⟨_, rfl⟩
        obtain ⟨u, hue⟩ : ∃ u, wd us k = u := ⟨_, rfl⟩
        rw [hxe] at hcw hxs EA EZ hor
        rw [hue] at hcu hus EA EZ hor
        clear hxe hue
        generalize anyK bothF ws us k = t at *
        have e1 := and_both x u hxs hus
        have e2 := andNot_less x u hxs hus
        have hkn' : (k : Int) < (K : Int) := by omega
        have hkL : (k : Int) < (L : Int) := by omega
        have hkM : (k : Int) < (M : Int) := by omega
        have hk0 : (0 : Int) ≤ (k : Int) := by omega
        have FIN : ∀ n : Nat, Hid (SetG ((wr.drewN n).setCell ⟨g1, k, none⟩ (.int .u64 ((lessF x u : Nat) : Int))) b (.slice (some ⟨g1, 0, none⟩) L c1) (zipK lessF ws us (k + 1)) ∧ Chg (foot b (.slice (some ⟨g1, 0, none⟩) L c1)) w ((wr.drewN n).setCell ⟨g1, k, none⟩ (.int .u64 ((lessF x u : Nat) : Int)))) := fun n => by
          have h1 := HSr.out.drewN n
          rw [← HLZ.out] at h1
          obtain ⟨h2, h3⟩ := h1.stored k _ hor
          rw [HLZ.out] at h2 h3
          rw [EZ.out]
          exact Lib.hid ⟨h2, (HCr.out.drewN n).trans h3⟩
        have HFIN := Lib.hid FIN
        clear FIN
        cases t with
        | false =>
          go_wp2
          go_quiet (fail)
          go_wp2
          go_region
          go_wp2
          go_roundw
          case rel => exact ⟨k + 1, by omega, by go_num, by rw [EA.out, int_ne0, Bool.false_or], (HFIN.out _).out.1, (HFIN.out _).out.2⟩
          case measure => simp [intOf]; omega
        | true =>
          go_wp2
          go_quiet (fail)
          go_wp2
          go_region
          go_wp2
          go_roundw
          case rel => exact ⟨k + 1, by omega, by go_num, by rw [EA.out, Bool.true_or], (HFIN.out _).out.1, (HFIN.out _).out.2⟩
          case measure => simp [intOf]; omega
      · obtain rfl : k = K := by omega
        have HSr := Lib.hid hSr
        have HCr := Lib.hid hCr
        clear hSr hCr
        go_wp2
        go_ret
        refine ⟨ret_bool ?_, ?_⟩
        · unfold minusT; rw [HM.out, HL.out, HK.out]
        · unfold minusW
          rw [HM.out, HL.out, HK.out]
          exact ⟨_, HSr.out, HCr.out, fun k hk => .inl hk⟩
theorem minus_none (w : World) (b : Nat) (v : Value) (ws : List Nat) (hS : SetG w b v ws) :
    Calls Tryd.prog 23 #[.pointer (some ⟨b, 0, none⟩), .pointer none] w fun e w' => e = .returned (.bool false) ∧ w = w' := by
  have hc1 := hS.cell
  obtain ⟨A1, c1, rfl, hW1⟩ := hS.slice
  clear hS hW1
  go_enter Tryd.func23, Tryd.ntmps23
  go_wp2_with (first
    | ((with_reducible refine (held_any _ _ _ hc1).mono ?_); rintro e w' ⟨rfl, rfl⟩)
    | ((with_reducible refine (held_nil _).mono ?_); rintro e w' ⟨rfl, rfl⟩))
  all_goals
    first | rw [show (ws.length : Int) = 0 by omega] | skip
    go_loop [7, 18] (fun n i => n = .bool false ∧ i = .int .i64 0) (fun _ i => 0)
    case atStart => exact ⟨rfl, rfl⟩
    case round =>
      obtain ⟨rfl, rfl⟩ := hrel
      go_wp2
      go_ret
      exact ⟨rfl, rfl⟩
theorem minus_nil (w : World) (b : Nat) (v : Value) (ws : List Nat) (hS : SetG w b v ws) :
    Calls Tryd.prog 23 #[.pointer none, .pointer (some ⟨b, 0, none⟩)] w fun e w' => e = .returned (.bool false) ∧ w = w' := by
  have hc1 := hS.cell
  obtain ⟨A1, c1, rfl, hW1⟩ := hS.slice
  clear hS hW1
  go_enter Tryd.func23, Tryd.ntmps23
  go_wp2_with (first
    | ((with_reducible refine (held_any _ _ _ hc1).mono ?_); rintro e w' ⟨rfl, rfl⟩)
    | ((with_reducible refine (held_nil _).mono ?_); rintro e w' ⟨rfl, rfl⟩))
  all_goals
    first | rw [show (ws.length : Int) = 0 by omega] | skip
    go_loop [7, 18] (fun n i => n = .bool false ∧ i = .int .i64 0) (fun _ i => 0)
    case atStart => exact ⟨rfl, rfl⟩
    case round =>
      obtain ⟨rfl, rfl⟩ := hrel
      go_wp2
      go_ret
      exact ⟨rfl, rfl⟩
/-- A set without itself. -/
def zerosK (ws : List Nat) (k : Nat) : List Nat := zipK lessF ws ws k
set_option maxHeartbeats 400000 in
theorem minus_self (w : World) (b : Nat) (v : Value) (ws : List Nat) (hS : SetG w b v ws) :
    Calls Tryd.prog 23 #[.pointer (some ⟨b, 0, none⟩), .pointer (some ⟨b, 0, none⟩)] w fun e w' => e = .returned (.bool (minusT ws ws)) ∧ SetTo w b v (minusW ws ws) w' := by
  have hc1 := hS.cell
  have hsh1 := hS.short
  have HS := Lib.hid hS
  clear hS
  obtain ⟨A1, c1, rfl, hW1⟩ := HS.out.slice
  clear hW1
  obtain ⟨L, hL⟩ : ∃ L, ws.length = L := ⟨_, rfl⟩
  rw [hL] at hc1 hsh1
  rw [hL] at HS
  rw [hL]
  have HL := Lib.hid hL
  clear hL
  go_enter Tryd.func23, Tryd.ntmps23
  go_wp2_with ((with_reducible refine (held_any _ _ _ hc1).mono ?_); rintro e w' ⟨rfl, rfl⟩)
  go_loopw [7, 18] (fun t i wr => ∃ k : Nat, k ≤ L ∧ i = .int .i64 k ∧ t = .bool (anyK bothF ws ws k) ∧ SetG wr b (.slice A1 L c1) (zipK lessF ws ws k) ∧ Chg (foot b (.slice A1 L c1)) w wr) (fun _ i _ => L - (intOf i).toNat)
  case atStart => exact ⟨0, by omega, rfl, rfl, HS.out, Chg.refl _ _⟩
  case round =>
    obtain ⟨k, hk, rfl, rfl, hSr, hCr⟩ := hrel
    rcases Nat.lt_or_ge k L with hkn | hkn
    · have hlz : (zipK lessF ws ws k).length = L := by rw [zipK_length, HL.out]
      obtain ⟨A1', c1', e4, hW1r⟩ := hSr.slice
      rw [hlz] at e4 hW1r
      cases e4
      obtain ⟨g1, rfl, hg1, hcw0⟩ := hW1r.cells (by omega)
      have hcw := hcw0 k (by omega)
      rw [zipK_wd _ _ _ _ (by rw [HL.out]; omega), if_neg (by omega)] at hcw
      have hfro : wr.frozen? ⟨g1, k, none⟩ = false := by
        have := hSr.own
        rw [hlz] at this
        exact this.frozenAt k
      have hxs := wd_lt HS.out.small k
      have EA : Hid (anyK bothF ws ws (k + 1) = (anyK bothF ws ws k || bothF (wd ws k) (wd ws k) != 0)) := Lib.hid (anyK_succ _ _ _ _)
      have EZ : Hid (zipK lessF ws ws (k + 1) = (zipK lessF ws ws k).set k (lessF (wd ws k) (wd ws k))) := Lib.hid rfl
      have hor : lessF (wd ws k) (wd ws k) < 18446744073709551616 := and_lt _ hxs
      have HSr := Lib.hid hSr
      have HCr := Lib.hid hCr
      have HLZ := Lib.hid hlz
      clear hSr hCr hlz hW1r hg1 hcw0
      obtain ⟨x, hxe⟩ : ∃ x, wd ws k = x := ⟨_, rfl⟩
      rw [hxe] at hcw hxs EA EZ hor
      clear hxe
      generalize anyK bothF ws ws k = t at *
      have e1 := and_both x x hxs hxs
      have e2 := andNot_less x x hxs hxs
      have hkL : (k : Int) < (L : Int) := by omega
      have hk0 : (0 : Int) ≤ (k : Int) := by omega
      have FIN : ∀ n : Nat, Hid (SetG ((wr.drewN n).setCell ⟨g1, k, none⟩ (.int .u64 ((lessF x x : Nat) : Int))) b (.slice (some ⟨g1, 0, none⟩) L c1) (zipK lessF ws ws (k + 1)) ∧ Chg (foot b (.slice (some ⟨g1, 0, none⟩) L c1)) w ((wr.drewN n).setCell ⟨g1, k, none⟩ (.int .u64 ((lessF x x : Nat) : Int)))) := fun n => by
        have h1 := HSr.out.drewN n
        rw [← HLZ.out] at h1
        obtain ⟨h2, h3⟩ := h1.stored k _ hor
        rw [HLZ.out] at h2 h3
        rw [EZ.out]
        exact Lib.hid ⟨h2, (HCr.out.drewN n).trans h3⟩
      have HFIN := Lib.hid FIN
      clear FIN
      cases t with
      | false =>
        go_wp2
        go_quiet (fail)
        go_wp2
        go_region
        go_wp2
        go_roundw
        case rel => exact ⟨k + 1, by omega, by go_num, by rw [EA.out, int_ne0, Bool.false_or], (HFIN.out _).out.1, (HFIN.out _).out.2⟩
        case measure => simp [intOf]; omega
      | true =>
        go_wp2
        go_quiet (fail)
        go_wp2
        go_region
        go_wp2
        go_roundw
        case rel => exact ⟨k + 1, by omega, by go_num, by rw [EA.out, Bool.true_or], (HFIN.out _).out.1, (HFIN.out _).out.2⟩
        case measure => simp [intOf]; omega
    · obtain rfl : k = L := by omega
      have HSr := Lib.hid hSr
      have HCr := Lib.hid hCr
      clear hSr hCr
      go_wp2
      go_ret
      refine ⟨ret_bool ?_, ?_⟩
      · unfold minusT; rw [HL.out, Nat.min_self]
      · unfold minusW
        rw [HL.out, Nat.min_self]
        exact ⟨_, HSr.out, HCr.out, fun k hk => .inl hk⟩
end Go.Proofs.YtjkcomoadpileaaDoor
