/-
  Contracts of the document's begins and skip.
-/
import Derived.Test.YtkpgkobhnldhpaaDoorLxD
namespace Go.Proofs.YtkpgkobhnldhpaaDoor
open Go.RowKit
set_option linter.unusedVariables false
set_option maxRecDepth 100000

/-- Does l begin with p? -/
def preB (p l : List UInt8) : Bool := p.isPrefixOf l
theorem prefix_piece (s t : ByteArray) (h : t.size ≤ s.size) : ((s.extract 0 t.size).toList == t.toList) = preB t.data.toList s.data.toList := by
  unfold preB
  rw [ba_toList, ba_toList, extract_take, Bool.eq_iff_iff, beq_iff_eq, List.isPrefixOf_iff_prefix, List.prefix_iff_eq_take, ba_length]
  exact eq_comm
theorem begins_any (s t : ByteArray) (hs : s.size ≤ 4000000000) (ht : t.size ≤ 4000000000) (w : World) : Calls Tryd.prog 31 #[.string s, .string t] w fun e w' => e = .returned (.bool (preB t.data.toList s.data.toList)) ∧ w = w' := by
  by_cases h : (t.size : Int) ≤ (s.size : Int)
  · have H := Lib.hid (prefix_piece s t (by omega))
    go_enter Tryd.func31, Tryd.ntmps31
    go_wp2
    go_ret
    exact ⟨ret_bool H.out, rfl⟩
  · have H : Hid (preB t.data.toList s.data.toList = false) := Lib.hid (by
      cases hq : preB t.data.toList s.data.toList with
      | false => rfl
      | true =>
        have := (List.isPrefixOf_iff_prefix.1 hq).length_le
        rw [ba_length, ba_length] at this
        omega)
    go_enter Tryd.func31, Tryd.ntmps31
    go_wp2
    go_ret
    exact ⟨ret_bool H.out.symm, rfl⟩
theorem closeN_at (l : List UInt8) (k : Nat) (hk : k < l.length) : closeN (l.drop k) = if preB [42, 47] (l.drop k) then some 0 else (closeN (l.drop (k + 1))).map (· + 1) := by
  rw [List.drop_eq_getElem_cons hk]
  rfl
theorem closeN_end (l : List UInt8) (k : Nat) (hk : l.length ≤ k) : closeN (l.drop k) = none := by
  rw [List.drop_eq_nil_of_le hk]
  rfl
theorem ba_dropHead (s : ByteArray) (q : Nat) (h : q < s.size) : (s.data.toList.drop q).headD 0 = s[q] := by
  have e : s.data.toList[q] = s[q] := rfl
  rw [List.drop_eq_getElem_cons (by rw [ba_length]; exact h)]
  simpa using e
theorem gapN_eq (s : ByteArray) (q : Nat) (h : q < s.size) : gapN (s.data.toList.drop q) = if blankB s[q] then (1, true) else if preB [47, 47] (s.data.toList.drop q) then (lineN (s.data.toList.drop q), true)
    else if preB [47, 42] (s.data.toList.drop q) then match closeN (s.data.toList.drop (q + 2)) with | some k => (k + 4, true) | none => (s.size - q, false)
    else (0, true) := by
  have hne : s.data.toList.drop q ≠ [] := fun e => by have := congrArg List.length e; rw [List.length_drop, ba_length] at this; simp at this; omega
  unfold gapN
  rw [if_neg hne, ba_dropHead s q h, List.drop_drop, List.length_drop, ba_length]
  rfl
theorem gapN_end (s : ByteArray) (q : Nat) (h : s.size ≤ q) : gapN (s.data.toList.drop q) = (0, true) := by
  rw [List.drop_eq_nil_of_le (by rw [ba_length]; exact h)]
  rfl
theorem ba_dropGetD (s : ByteArray) (q j : Nat) (h : q + j < s.size) : (s.data.toList.drop q).getD j 0 = s[q + j] := by
  rw [List.getD_eq_getElem?_getD, List.getElem?_drop, Lib.data_getElem? s _ h]
  rfl
theorem ba_dropTake (s : ByteArray) (q j : Nat) (h : q + j < s.size) : (s.data.toList.drop q).take (j + 1) = (s.data.toList.drop q).take j ++ [s[q + j]] := by
  rw [List.take_add_one, List.getElem?_drop, Lib.data_getElem? s _ h]
  rfl
def skipOut (l : List UInt8) (k : Nat) : Int := if (skipN (l.drop k)).2 then ((k + (skipN (l.drop k)).1 : Nat) : Int) else -1
set_option maxHeartbeats 2000000 in
theorem rskip_any (s : ByteArray) (hs : s.size ≤ 4000000000) (k : Nat) (hk : k ≤ s.size) (w : World) : Calls Tryd.prog 27 #[.string s, .int .i64 (k : Int)] w fun e w' => e = .returned (.int .i64 (skipOut s.data.toList k)) ∧ w = w' := by
  go_enter Tryd.func27, Tryd.ntmps27
  go_wp2
  go_loop [1] (fun v => ∃ q : Nat, q ≤ s.size ∧ v = .int .i64 q ∧ Hid (k ≤ q ∧ skipN (s.data.toList.drop k) = (q - k + (skipN (s.data.toList.drop q)).1, (skipN (s.data.toList.drop q)).2))) (fun v => s.size - (intOf v).toNat)
  case atStart => exact ⟨k, hk, rfl, Lib.hid ⟨Nat.le_refl _, by rw [Nat.sub_self, Nat.zero_add]⟩⟩
  case round =>
    obtain ⟨q, hq, rfl, HI⟩ := hrel
    have hdone := skip_done s.data.toList k q HI.out.2 HI.out.1
    have hon := skip_on s.data.toList k q HI.out.2 HI.out.1
    have HDONE : Hid ((gapN (s.data.toList.drop q)).1 = 0 → (gapN (s.data.toList.drop q)).2 = true → skipOut s.data.toList k = (q : Int)) := Lib.hid (fun h1 h2 => by
      obtain ⟨e1, e2⟩ := hdone (.inl h1)
      unfold skipOut
      rw [← e2, h2, if_pos rfl, ← e1, h1]
      rfl)
    have HBAD : Hid ((gapN (s.data.toList.drop q)).2 = false → skipOut s.data.toList k = -1) := Lib.hid (fun h2 => by
      obtain ⟨e1, e2⟩ := hdone (.inr h2)
      unfold skipOut
      rw [← e2, h2, if_neg (by simp)])
    have HON := Lib.hid hon
    have HKQ := Lib.hid HI.out.1
    clear hdone hon HI
    by_cases hlt : q < s.size
    · have hge := gapN_eq s q hlt
      cases hb : blankB s[q] with
      | true =>
        rw [hb, if_pos rfl] at hge
        have HN : Hid (k ≤ q + 1 ∧ skipN (s.data.toList.drop k) = (q + 1 - k + (skipN (s.data.toList.drop (q + 1))).1, (skipN (s.data.toList.drop (q + 1))).2)) := Lib.hid ⟨by have := HKQ.out; omega, by
          have := HON.out (by rw [hge]; simp) (by rw [hge])
          rw [hge] at this
          exact this⟩
        unfold blankB at hb
        clear hge HDONE HBAD HON
        by_cases h1 : ((s[q].toNat : Int) == 32) = true <;> by_cases h2 : ((s[q].toNat : Int) == 9) = true <;> by_cases h3 : ((s[q].toNat : Int) == 10) = true <;> by_cases h4 : ((s[q].toNat : Int) == 13) = true
        all_goals
          first
          | (exfalso; simp only [Bool.or_eq_true, beq_iff_eq] at *; omega)
          | (clear hb
             go_wp2
             go_round
             case rel => exact ⟨q + 1, by omega, by go_num, HN⟩
             case measure => simp [intOf]; omega)
      | false =>
        rw [hb, if_neg (by simp)] at hge
        have hb1 : ((s[q].toNat : Int) == 32) = false ∧ ((s[q].toNat : Int) == 9) = false ∧ ((s[q].toNat : Int) == 10) = false ∧ ((s[q].toNat : Int) == 13) = false := by
          unfold blankB at hb
          simp only [Bool.or_eq_false_iff, beq_eq_false_iff_ne] at hb ⊢
          omega
        obtain ⟨b1, b2, b3, b4⟩ := hb1
        have P1 := begins_any (s.extract q s.size) ⟨#[47, 47]⟩ (by rw [ByteArray.size_extract]; omega) (by decide)
        have P2 := begins_any (s.extract q s.size) ⟨#[47, 42]⟩ (by rw [ByteArray.size_extract]; omega) (by decide)
        rw [Lib.extract_to_end, show (ByteArray.mk #[47, 47]).data.toList = [47, 47] from rfl] at P1
        rw [Lib.extract_to_end, show (ByteArray.mk #[47, 42]).data.toList = [47, 42] from rfl] at P2
        have hp1 : preB [47, 47] (s.data.toList.drop q) = true → ¬ (s[q].toNat = 10) := fun _ => by simp only [beq_eq_false_iff_ne] at b3; omega
        have hp2 : preB [47, 42] (s.data.toList.drop q) = true → q + 2 ≤ s.size := fun h => by
          have := (List.isPrefixOf_iff_prefix.1 h).length_le
          rw [List.length_drop, ba_length] at this
          simp at this
          omega
        have HP1 := Lib.hid P1
        have HP2 := Lib.hid P2
        have HG := Lib.hid hge
        clear P1 P2 hge hb
        generalize (preB [47, 47] (s.data.toList.drop q)) = p1 at *
        generalize (preB [47, 42] (s.data.toList.drop q)) = p2 at *
        cases p1 with
        | true =>
          have h10 : ¬ (s[q].toNat = 10) := hp1 rfl
          have hge := HG.out
          rw [if_pos rfl] at hge
          have HGE := Lib.hid hge
          have HT1 := Lib.hid (ba_dropTake s q 0 hlt)
          clear hge HG HDONE HBAD hp1 hp2 HP2 h10
          go_wp2_with ((go_at_call 31; (with_reducible refine (HP1.out _).mono ?_); rintro e w' ⟨rfl, rfl⟩))
          go_loop [1] (fun v => ∃ p : Nat, q ≤ p ∧ p ≤ s.size ∧ v = .int .i64 p ∧ Hid (∀ c ∈ (s.data.toList.drop q).take (p - q), c.toNat ≠ 10)) (fun v => s.size - (intOf v).toNat)
          case atStart => exact ⟨q, Nat.le_refl _, hq, rfl, Lib.hid (by simp)⟩
          case round =>
            obtain ⟨p, hqp, hps, rfl, HC⟩ := hrel
            have HEND : Hid ((p = s.size ∨ ∃ h : p < s.size, s[p].toNat = 10) → q < p ∧ (k ≤ p ∧ skipN (s.data.toList.drop k) = (p - k + (skipN (s.data.toList.drop p)).1, (skipN (s.data.toList.drop p)).2))) := Lib.hid (fun h => by
              have hl : lineN (s.data.toList.drop q) = p - q := lineN_of _ _ (by rw [List.length_drop, ba_length]; omega) HC.out (by
                rcases h with h | ⟨h, h'⟩
                · left; rw [List.length_drop, ba_length]; omega
                · right
                  have := ba_dropGetD s q (p - q) (by omega)
                  rw [this]
                  have e : q + (p - q) = p := by omega
                  simp only [e]
                  exact h')
              have hqp' : q < p := by
                rcases h with h | ⟨h, h'⟩
                · omega
                · rcases Nat.lt_or_ge q p with h2 | h2
                  · exact h2
                  · obtain rfl : p = q := by omega
                    simp only [beq_eq_false_iff_ne] at b3
                    omega
              refine ⟨hqp', by have := HKQ.out; omega, ?_⟩
              have := HON.out (by rw [HGE.out]; show lineN _ ≠ 0; omega) (by rw [HGE.out])
              rw [HGE.out] at this
              simp only [hl] at this
              rw [show q + (p - q) = p from by omega] at this
              exact this)
            by_cases hpl : p < s.size
            · by_cases h10 : ((s[p].toNat : Int) == 10) = true
              · have HE := Lib.hid (HEND.out (.inr ⟨hpl, by simp only [beq_iff_eq] at h10; omega⟩))
                have h10' : ((s[p].toNat : Int) != 10) = false := by rw [bne_eq_false_iff_eq]; simpa using h10
                clear HEND HC
                go_wp2
                go_round
                case rel => exact ⟨p, by omega, by go_num, HE.out.2⟩
                case measure => have := HE.out.1; simp [intOf]; omega
              · have HN : Hid (∀ c ∈ (s.data.toList.drop q).take (p + 1 - q), c.toNat ≠ 10) := Lib.hid (by
                  have e := ba_dropTake s q (p - q) (by omega)
                  rw [show p - q + 1 = p + 1 - q from by omega] at e
                  rw [e]
                  intro c hc
                  rcases List.mem_append.1 hc with h | h
                  · exact HC.out c h
                  · rw [List.mem_singleton] at h
                    subst h
                    simp only [show q + (p - q) = p from by omega]
                    simp only [beq_iff_eq] at h10
                    omega)
                simp only [Bool.not_eq_true] at h10
                have h10' : ((s[p].toNat : Int) != 10) = true := by rw [bne_iff_ne]; simpa using h10
                clear HEND HC
                go_wp2
                go_round
                case rel => exact ⟨p + 1, by omega, by omega, by go_num, HN⟩
                case measure => simp [intOf]; omega
            · have HE := Lib.hid (HEND.out (.inl (by omega)))
              clear HEND HC
              go_wp2
              go_round
              case rel => exact ⟨p, by omega, by go_num, HE.out.2⟩
              case measure => have := HE.out.1; simp [intOf]; omega
        | false =>
          have hge := HG.out
          rw [if_neg (by simp)] at hge
          cases p2 with
          | true =>
            rw [if_pos rfl] at hge
            have HGE := Lib.hid hge
            have hq2 : q + 2 ≤ s.size := hp2 rfl
            clear hge HG hp1 hp2
            go_wp2_with ((go_at_call 31; (first | ((with_reducible refine (HP1.out _).mono ?_); rintro e w' ⟨rfl, rfl⟩) | ((with_reducible refine (HP2.out _).mono ?_); rintro e w' ⟨rfl, rfl⟩))))
            go_loop [6] (fun v => ∃ p : Nat, q + 2 ≤ p ∧ p ≤ s.size ∧ v = .int .i64 p ∧ Hid (closeN (s.data.toList.drop (q + 2)) = (closeN (s.data.toList.drop p)).map (· + (p - (q + 2))))) (fun v => s.size - (intOf v).toNat)
            case atStart => exact ⟨q + 2, Nat.le_refl _, hq2, by go_num, Lib.hid (by rw [Nat.sub_self]; simp)⟩
            case round =>
              obtain ⟨p, hqp, hps, rfl, HC⟩ := hrel
              by_cases hpl : p < s.size
              · have hcl := closeN_at s.data.toList p (by rw [ba_length]; exact hpl)
                have P3 := begins_any (s.extract p s.size) ⟨#[42, 47]⟩ (by rw [ByteArray.size_extract]; omega) (by decide)
                rw [Lib.extract_to_end, show (ByteArray.mk #[42, 47]).data.toList = [42, 47] from rfl] at P3
                have hp3 : preB [42, 47] (s.data.toList.drop p) = true → p + 2 ≤ s.size := fun h => by
                  have := (List.isPrefixOf_iff_prefix.1 h).length_le
                  rw [List.length_drop, ba_length] at this
                  simp at this
                  omega
                have HP3 := Lib.hid P3
                have HCL := Lib.hid hcl
                clear P3 hcl
                generalize preB [42, 47] (s.data.toList.drop p) = p3 at *
                cases p3 with
                | true =>
                  have hp2' : p + 2 ≤ s.size := hp3 rfl
                  have HE : Hid (k ≤ p + 2 ∧ skipN (s.data.toList.drop k) = (p + 2 - k + (skipN (s.data.toList.drop (p + 2))).1, (skipN (s.data.toList.drop (p + 2))).2)) := Lib.hid (by
                    have e1 := HCL.out
                    rw [if_pos rfl] at e1
                    have e2 := HC.out
                    rw [e1, Option.map_some, Nat.zero_add] at e2
                    have e3 := HGE.out
                    rw [e2] at e3
                    refine ⟨by have := HKQ.out; omega, ?_⟩
                    have := HON.out (by rw [e3]; simp) (by rw [e3])
                    rw [e3] at this
                    simp only at this
                    rw [show q + (p - (q + 2) + 4) = p + 2 from by omega] at this
                    exact this)
                  clear HCL HC HGE HON HDONE HBAD hp3
                  go_wp2_with ((go_at_call 31; (with_reducible refine (HP3.out _).mono ?_); rintro e w' ⟨rfl, rfl⟩))
                  go_round
                  case rel => exact ⟨p + 2, by omega, by go_num, HE⟩
                  case measure => simp [intOf]; omega
                | false =>
                  have HN : Hid (closeN (s.data.toList.drop (q + 2)) = (closeN (s.data.toList.drop (p + 1))).map (· + (p + 1 - (q + 2)))) := Lib.hid (by
                    have e1 := HCL.out
                    rw [if_neg (by simp)] at e1
                    rw [HC.out, e1, Option.map_map]
                    congr 1
                    funext x
                    show x + 1 + (p - (q + 2)) = x + (p + 1 - (q + 2))
                    omega)
                  clear HCL HC hp3
                  go_wp2_with ((go_at_call 31; (with_reducible refine (HP3.out _).mono ?_); rintro e w' ⟨rfl, rfl⟩))
                  go_round
                  case rel => exact ⟨p + 1, by omega, by omega, by go_num, HN⟩
                  case measure => simp [intOf]; omega
              · have HE : Hid (skipOut s.data.toList k = -1) := Lib.hid (HBAD.out (by
                  have e2 := HC.out
                  rw [closeN_end s.data.toList p (by rw [ba_length]; omega), Option.map_none] at e2
                  rw [HGE.out, e2]))
                obtain rfl : p = s.size := by omega
                clear HC HGE HON HDONE HBAD
                go_wp2
                go_ret
                exact ⟨ret_int HE.out.symm, rfl⟩
          | false =>
            rw [if_neg (by simp)] at hge
            have HE := Lib.hid (HDONE.out (by rw [hge]) (by rw [hge]))
            clear hge HG hp1 hp2 HON HDONE HBAD
            go_wp2_with ((go_at_call 31; (first | ((with_reducible refine (HP1.out _).mono ?_); rintro e w' ⟨rfl, rfl⟩) | ((with_reducible refine (HP2.out _).mono ?_); rintro e w' ⟨rfl, rfl⟩))))
            go_ret
            exact ⟨ret_int HE.out.symm, rfl⟩
    · obtain rfl : q = s.size := by omega
      have hge := gapN_end s s.size (Nat.le_refl _)
      have HE := Lib.hid (HDONE.out (by rw [hge]) (by rw [hge]))
      clear hge HON HDONE HBAD
      go_wp2
      go_ret
      exact ⟨ret_int HE.out.symm, rfl⟩
end Go.Proofs.YtkpgkobhnldhpaaDoor
