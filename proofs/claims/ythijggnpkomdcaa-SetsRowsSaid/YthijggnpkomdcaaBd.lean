/-
  Contracts of (*Bits).Join and Minus.
-/
import Derived.Test.YthijggnpkomdcaaBb
import Derived.Test.YthijggnpkomdcaaBn
namespace Go.Proofs.Ythijggnpkomdcaa
open Go.RowKit
set_option linter.unusedVariables false
set_option maxRecDepth 100000

theorem SetTo.chain {w w1 w2 : World} {b : Nat} {v v1 : Value} {ws2 : List Nat} (h1 : SetG w2 b v1 ws2) (hC : Chg (foot b v) w w1) (hF : ∀ k ∈ foot b v1, k ∈ foot b v ∨ w.heap.size ≤ k) (hC2 : Chg (foot b v1) w1 w2) : SetTo w b v ws2 w2 :=
  ⟨v1, h1, hC.andThen hC2 hF, hF⟩
theorem andNot_new (x u : Nat) (hx : x < 18446744073709551616) (hu : u < 18446744073709551616) : bits .andNot .u64 (u : Int) (x : Int) = ((newF x u : Nat) : Int) := u64_andNot_nat u x hu hx
theorem andNot_less (x u : Nat) (hx : x < 18446744073709551616) (hu : u < 18446744073709551616) : bits .andNot .u64 (x : Int) (u : Int) = ((lessF x u : Nat) : Int) := u64_andNot_nat x u hx hu
theorem or_both (x u : Nat) (hx : x < 18446744073709551616) (hu : u < 18446744073709551616) : bits .or .u64 (x : Int) (u : Int) = ((orF x u : Nat) : Int) := u64_or_nat x u hx hu
theorem and_both (x u : Nat) (hx : x < 18446744073709551616) (hu : u < 18446744073709551616) : bits .and .u64 (x : Int) (u : Int) = ((bothF x u : Nat) : Int) := u64_and_nat x u hx hu

theorem int_ne0 (n : Nat) : ((n : Int) != 0) = (n != 0) := by
  rw [Bool.eq_iff_iff]
  simp
theorem join_nil (w : World) (p : Option Addr) : Calls Try.prog 60 #[.pointer none, .pointer p] w fun e w' => e = .returned (.bool false) ∧ w = w' := by
  go_enter Try.func60, Try.ntmps60
  go_wp2
  go_ret
  exact ⟨rfl, rfl⟩
theorem join_none (w : World) (b : Nat) (v : Value) (ws : List Nat) (hS : SetG w b v ws) :
    Calls Try.prog 60 #[.pointer (some ⟨b, 0, none⟩), .pointer none] w fun e w' => e = .returned (.bool false) ∧ SetTo w b v ws w' := by
  have hg := grow_any w b v ws hS 0 (by omega)
  rw [grown_of_le ws 0 (Nat.zero_le _)] at hg
  have HG := Lib.hid hg
  clear hg hS
  go_enter Try.func60, Try.ntmps60
  go_wp2_with (first
    | ((with_reducible refine (held_nil _).mono ?_); rintro e w' ⟨rfl, rfl⟩)
    | (go_at_call 94; refine HG.out.mono ?_; rintro e w1 ⟨rfl, HT⟩))
  have H := Lib.hid HT
  clear HT
  go_loop [5, 18] (fun n i => n = .bool false ∧ i = .int .i64 0) (fun _ i => 0)
  case atStart => exact ⟨rfl, rfl⟩
  case round =>
    obtain ⟨rfl, rfl⟩ := hrel
    go_wp2
    go_ret
    exact ⟨rfl, H.out⟩
set_option maxHeartbeats 400000 in
theorem join_any (w : World) (b b2 : Nat) (v v2 : Value) (ws us : List Nat) (hS : SetG w b v ws) (hU : SetG w b2 v2 us) (hd : ∀ k ∈ foot b2 v2, k ∉ foot b v) :
    Calls Try.prog 60 #[.pointer (some ⟨b, 0, none⟩), .pointer (some ⟨b2, 0, none⟩)] w fun e w' => e = .returned (.bool (joinT ws us)) ∧ SetTo w b v (joinW ws us) w' := by
  have hg := grow_any w b v ws hS us.length hU.short
  have HG := Lib.hid hg
  have hc2 := hU.cell
  have hsh := hU.short
  have HS := Lib.hid hS
  have HU := Lib.hid hU
  have HD := Lib.hid hd
  clear hg hS hU hd
  obtain ⟨A2, c2, rfl, hW2⟩ := HU.out.slice
  have HW2 := Lib.hid hW2
  clear hW2
  obtain ⟨M, hM⟩ : ∃ M, us.length = M := ⟨_, rfl⟩
  rw [hM] at hc2 hsh
  rw [hM] at HG
  rw [hM] at HU
  rw [hM] at HD
  rw [hM] at HW2
  have HM := Lib.hid hM
  clear hM
  go_enter Try.func60, Try.ntmps60
  go_wp2_with (first
    | ((with_reducible refine (held_any _ _ _ hc2).mono ?_); rintro e w' ⟨rfl, rfl⟩)
    | (go_at_call 94; refine HG.out.mono ?_; rintro e w1 ⟨rfl, ⟨v1, hS1, hC1, hF1⟩⟩; obtain ⟨A1, c1, rfl, hW1⟩ := hS1.slice; have hU1 := HU.out.chg hC1 HD.out; have hc2' := hU1.cell; clear hc2; have HS1 := Lib.hid hS1; have HC1 := Lib.hid hC1; have HF1 := Lib.hid hF1; have HU1 := Lib.hid hU1; clear hS1 hC1 hF1 hU1 hW1)
    | ((with_reducible refine (held_any _ _ _ hc2').mono ?_); rintro e w' ⟨rfl, rfl⟩))
  have hl1 : (grown ws M).length = max ws.length M := grown_length _ _
  obtain ⟨L, hL⟩ : ∃ L, (grown ws M).length = L := ⟨_, rfl⟩
  rw [hL] at HS1 HF1 hl1
  have HL := Lib.hid hL
  clear hL
  have hML : M ≤ L := by omega
  have hapart : ∀ k ∈ foot b2 (.slice A2 M c2), k ∉ foot b (.slice A1 L c1) := fun k hk h1 => by
    rcases HF1.out k h1 with h2 | h2
    · exact HD.out k hk h2
    · have := HU.out.foot_lt k hk; omega
  have HA := Lib.hid hapart
  clear hapart hl1
  go_loopw [5, 18] (fun t i wr => ∃ k : Nat, k ≤ M ∧ i = .int .i64 k ∧ t = .bool (anyK newF (grown ws M) us k) ∧ SetG wr b (.slice A1 L c1) (zipK orF (grown ws M) us k) ∧ Chg (foot b (.slice A1 L c1)) w1 wr) (fun _ i _ => M - (intOf i).toNat)
  case atStart => exact ⟨0, by omega, rfl, rfl, HS1.out, Chg.refl _ _⟩
  case round =>
    obtain ⟨k, hk, rfl, rfl, hSr, hCr⟩ := hrel
    rcases Nat.lt_or_ge k M with hkn | hkn
    · have hUr := HU1.out.chg hCr HA.out
      obtain ⟨g, rfl, hg, hcs⟩ := HW2.out.cells (by omega)
      obtain ⟨A2', c2', e2, hW2r⟩ := hUr.slice
      rw [HM.out] at e2 hW2r
      cases e2
      obtain ⟨g', e3, hg', hcu0⟩ := hW2r.cells (by omega)
      cases e3
      have hcu := hcu0 k hkn
      have hlz : (zipK orF (grown ws M) us k).length = L := by rw [zipK_length, HL.out]
      obtain ⟨A1', c1', e4, hW1r⟩ := hSr.slice
      rw [hlz] at e4 hW1r
      cases e4
      obtain ⟨g1, rfl, hg1, hcw0⟩ := hW1r.cells (by omega)
      have hcw := hcw0 k (by omega)
      rw [zipK_wd _ _ _ _ (by rw [HL.out]; omega), if_neg (by omega)] at hcw
      have hbox := hSr.cell
      have hfro : wr.frozen? ⟨g1, k, none⟩ = false := by
        have := hSr.own
        rw [hlz] at this
        exact this.frozenAt k
      have hxs := wd_lt (ws := grown ws M) (grown_small HS.out.small M) k
      have hus := wd_lt HU.out.small k
      have EA : Hid (anyK newF (grown ws M) us (k + 1) = (anyK newF (grown ws M) us k || newF (wd (grown ws M) k) (wd us k) != 0)) := Lib.hid (anyK_succ _ _ _ _)
      have EZ : Hid (zipK orF (grown ws M) us (k + 1) = (zipK orF (grown ws M) us k).set k (orF (wd (grown ws M) k) (wd us k))) := Lib.hid rfl
      have hor : orF (wd (grown ws M) k) (wd us k) < 18446744073709551616 := or_lt hxs hus
      have HSr := Lib.hid hSr
      have HCr := Lib.hid hCr
      have HLZ := Lib.hid hlz
      clear hSr hCr hUr hW2r hg' hcs hlz hW1r hg1 hcu0 hcw0
      obtain ⟨x, hxe⟩ : ∃ x, wd (grown ws M) k = x := ⟨_, rfl⟩
      obtain ⟨u, hue⟩ : ∃ u, wd us k = u := ⟨_, rfl⟩
      rw [hxe] at hcw hxs EA EZ hor
      rw [hue] at hcu hus EA EZ hor
      clear hxe hue
      generalize anyK newF (grown ws M) us k = t at *
      have e1 := andNot_new x u hxs hus
      have e2 := or_both x u hxs hus
      have hkn' : (k : Int) < (M : Int) := by omega
      have hkL : (k : Int) < (L : Int) := by omega
      have hk0 : (0 : Int) ≤ (k : Int) := by omega
      have FIN : Hid (SetG (wr.setCell ⟨g1, k, none⟩ (.int .u64 ((orF x u : Nat) : Int))) b (.slice (some ⟨g1, 0, none⟩) L c1) (zipK orF (grown ws M) us (k + 1)) ∧ Chg (foot b (.slice (some ⟨g1, 0, none⟩) L c1)) w1 (wr.setCell ⟨g1, k, none⟩ (.int .u64 ((orF x u : Nat) : Int)))) := by
        have h1 := HSr.out
        rw [← HLZ.out] at h1
        obtain ⟨h2, h3⟩ := h1.stored k _ hor
        rw [HLZ.out] at h2 h3
        rw [EZ.out]
        exact Lib.hid ⟨h2, HCr.out.trans h3⟩
      cases t with
      | false =>
        go_wp2
        go_roundw
        case rel => exact ⟨k + 1, by omega, by go_num, by rw [EA.out, int_ne0, Bool.false_or], FIN.out.1, FIN.out.2⟩
        case measure => simp [intOf]; omega
      | true =>
        go_wp2
        go_roundw
        case rel => exact ⟨k + 1, by omega, by go_num, by rw [EA.out, Bool.true_or], FIN.out.1, FIN.out.2⟩
        case measure => simp [intOf]; omega
    · obtain rfl : k = M := by omega
      have HSr := Lib.hid hSr
      have HCr := Lib.hid hCr
      clear hSr hCr
      go_wp2
      go_ret
      refine ⟨ret_bool ?_, ?_⟩
      · unfold joinT; rw [HM.out]
      · unfold joinW
        rw [HM.out]
        exact SetTo.chain HSr.out HC1.out HF1.out HCr.out
theorem set_id (ws : List Nat) (k : Nat) : ws.set k (wd ws k) = ws := by
  apply List.ext_getElem?
  intro j
  rw [List.getElem?_set]
  by_cases e : k = j
  · subst e
    by_cases h : k < ws.length
    · simp [h, wd, List.getD]
    · simp [h]
  · rw [if_neg e]
theorem newF_self (x : Nat) (hx : x < 18446744073709551616) : newF x x = 0 := by
  apply Nat.eq_of_testBit_eq
  intro j
  unfold newF
  rw [Nat.testBit_and, Nat.zero_testBit]
  rcases Nat.lt_or_ge j 64 with hj | hj
  · rw [testBit_not64 _ _ hx hj]
    cases x.testBit j <;> rfl
  · rw [Nat.testBit_lt_two_pow (Nat.lt_of_lt_of_le (show x < 2 ^ 64 from hx) (Nat.pow_le_pow_right (by decide) hj))]
    rfl
theorem lessF_self (x : Nat) (hx : x < 18446744073709551616) : lessF x x = 0 := newF_self x hx
theorem orF_self (x : Nat) : orF x x = x := Nat.or_self x
theorem bothF_self (x : Nat) : bothF x x = x := Nat.and_self x
set_option maxHeartbeats 400000 in
theorem join_self (w : World) (b : Nat) (v : Value) (ws : List Nat) (hS : SetG w b v ws) :
    Calls Try.prog 60 #[.pointer (some ⟨b, 0, none⟩), .pointer (some ⟨b, 0, none⟩)] w fun e w' => e = .returned (.bool false) ∧ SetTo w b v ws w' := by
  have hg := grow_any w b v ws hS ws.length hS.short
  rw [grown_of_le ws _ (Nat.le_refl _)] at hg
  have HG := Lib.hid hg
  have hc2 := hS.cell
  have hsh := hS.short
  have HS := Lib.hid hS
  clear hg hS
  obtain ⟨A2, c2, rfl, hW2⟩ := HS.out.slice
  have HW2 := Lib.hid hW2
  clear hW2
  obtain ⟨M, hM⟩ : ∃ M, ws.length = M := ⟨_, rfl⟩
  rw [hM] at hc2 hsh
  rw [hM] at HG
  rw [hM] at HS
  rw [hM] at HW2
  have HM := Lib.hid hM
  have gM : Hid (SetTo w b (.slice A2 ws.length c2) = SetTo w b (.slice A2 M c2)) := Lib.hid (by rw [hM])
  clear hM
  go_enter Try.func60, Try.ntmps60
  go_wp2_with (first
    | ((with_reducible refine (held_any _ _ _ hc2).mono ?_); rintro e w' ⟨rfl, rfl⟩)
    | (go_at_call 94; refine HG.out.mono ?_; rintro e w1 ⟨rfl, ⟨v1, hS1, hC1, hF1⟩⟩; obtain ⟨A1, c1, rfl, hW1⟩ := hS1.slice; have hc2' := hS1.cell; clear hc2; rw [HM.out] at hc2'; have HS1 := Lib.hid hS1; have HC1 := Lib.hid hC1; have HF1 := Lib.hid hF1; clear hS1 hC1 hF1 hW1)
    | ((with_reducible refine (held_any _ _ _ hc2').mono ?_); rintro e w' ⟨rfl, rfl⟩))
  rw [HM.out] at HS1 HF1
  go_loopw [5, 18] (fun t i wr => ∃ k : Nat, k ≤ M ∧ i = .int .i64 k ∧ t = .bool false ∧ SetG wr b (.slice A1 M c1) ws ∧ Chg (foot b (.slice A1 M c1)) w1 wr) (fun _ i _ => M - (intOf i).toNat)
  case atStart => exact ⟨0, by omega, rfl, rfl, HS1.out, Chg.refl _ _⟩
  case round =>
    obtain ⟨k, hk, rfl, rfl, hSr, hCr⟩ := hrel
    rcases Nat.lt_or_ge k M with hkn | hkn
    · obtain ⟨A1', c1', e4, hW1r⟩ := hSr.slice
      rw [HM.out] at e4 hW1r
      cases e4
      obtain ⟨g1, rfl, hg1, hcw0⟩ := hW1r.cells (by omega)
      have hcw := hcw0 k hkn
      have hbox := hSr.cell
      have hfro : wr.frozen? ⟨g1, k, none⟩ = false := by
        have := hSr.own
        rw [HM.out] at this
        exact this.frozenAt k
      have hxs := wd_lt HS.out.small k
      have FIN : Hid (SetG (wr.setCell ⟨g1, k, none⟩ (.int .u64 ((wd ws k : Nat) : Int))) b (.slice (some ⟨g1, 0, none⟩) M c1) ws ∧ Chg (foot b (.slice (some ⟨g1, 0, none⟩) M c1)) w1 (wr.setCell ⟨g1, k, none⟩ (.int .u64 ((wd ws k : Nat) : Int)))) := by
        have h1 := hSr
        rw [← HM.out] at h1
        obtain ⟨h2, h3⟩ := h1.stored k _ hxs
        rw [HM.out, set_id] at h2
        rw [HM.out] at h3
        exact Lib.hid ⟨h2, hCr.trans h3⟩
      clear hSr hCr hW1r hg1 hcw0
      obtain ⟨x, hxe⟩ : ∃ x, wd ws k = x := ⟨_, rfl⟩
      rw [hxe] at hcw hxs FIN
      clear hxe
      have e1 := andNot_new x x hxs hxs
      rw [newF_self x hxs] at e1
      have e2 := or_both x x hxs hxs
      rw [orF_self] at e2
      have hkn' : (k : Int) < (M : Int) := by omega
      have hk0 : (0 : Int) ≤ (k : Int) := by omega
      go_wp2
      go_roundw
      case rel => exact ⟨k + 1, by omega, by go_num, rfl, FIN.out.1, FIN.out.2⟩
      case measure => simp [intOf]; omega
    · obtain rfl : k = M := by omega
      have HSr := Lib.hid hSr
      have HCr := Lib.hid hCr
      clear hSr hCr
      go_wp2
      go_ret
      refine ⟨rfl, ?_⟩
      rw [HM.out]
      exact SetTo.chain HSr.out HC1.out HF1.out HCr.out
end Go.Proofs.Ythijggnpkomdcaa
