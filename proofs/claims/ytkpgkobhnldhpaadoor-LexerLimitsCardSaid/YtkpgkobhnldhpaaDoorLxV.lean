/-
  Texts of one byte over and over, and numbers: how they are cut. Plain mathematics.
-/
import Derived.Test.YtkpgkobhnldhpaaDoorLxU
namespace Go.Proofs.YtkpgkobhnldhpaaDoor
set_option linter.unusedVariables false
set_option maxRecDepth 100000

theorem runN_rep (n : Nat) : runN (List.replicate n 120) = n := by
  refine runN_of _ _ (by simp) (fun c hc => ?_) (.inl (by simp))
  have := List.mem_of_mem_take hc
  rw [List.mem_replicate] at this
  rw [this.2]
  decide
theorem lex_x (n : Nat) (h1 : 1 ≤ n) (h2 : n ≤ 64) : allN (List.replicate n 120) = .ok [⟨1, List.replicate n 120, 0, 0⟩] := by
  have hne : List.replicate n (120 : UInt8) ≠ [] := by
    intro e
    have := congrArg List.length e
    simp at this
    omega
  have hhd : (List.replicate n (120 : UInt8)).headD 0 = 120 := by
    cases n with
    | zero => omega
    | succ n => rfl
  have hp : ∀ d, [47, d].isPrefixOf (List.replicate n (120 : UInt8)) = false := fun d => by
    cases n with
    | zero => omega
    | succ n => rfl
  have hg : gapN (List.replicate n 120) = (0, true) := (gap0 _ hne).2 ⟨by rw [hhd]; decide, hp 47, hp 42⟩
  have hs : skipN (List.replicate n 120) = (0, true) := by rw [skipN_stop _ (by rw [hg]; exact .inl rfl), hg]
  have hw : wordB (List.replicate n (120 : UInt8)) = false := by
    unfold wordB
    refine decide_eq_false (fun h => ?_)
    have key : ∀ l ∈ wordsL, l.headD 0 ≠ 120 := by decide
    exact key _ h hhd
  have hc : cutN (List.replicate n 120) = ⟨0, 1, n, 0⟩ := by
    unfold cutN
    rw [hhd, if_pos (by decide), runN_rep, if_neg (by omega), List.take_of_length_le (by simp), hw, if_neg (by simp)]
  unfold allN
  rw [if_neg (by simp; omega), allAt_tok _ _ (by rw [hs]) (by rw [hs]; simp; omega) (by rw [hs]; show (cutN ((List.replicate n (120 : UInt8)).drop 0)).err = 0; rw [List.drop_zero, hc])]
  simp only [hs, List.drop_zero, hc, Nat.zero_add, Nat.add_zero]
  have e1 : (List.replicate n (120 : UInt8)).drop n = [] := by simp
  have e2 : (List.replicate n (120 : UInt8)).take n = List.replicate n 120 := by simp
  rw [e1, e2, allAt_end [] n rfl rfl]
  rfl
theorem lex_x_big (n : Nat) (h : 64 < n) (h2 : n ≤ 65536) : allN (List.replicate n 120) = .bad 2 0 := by
  have hne : List.replicate n (120 : UInt8) ≠ [] := by
    intro e
    have := congrArg List.length e
    simp at this
    omega
  have hhd : (List.replicate n (120 : UInt8)).headD 0 = 120 := by
    cases n with
    | zero => omega
    | succ n => rfl
  have hp : ∀ d, [47, d].isPrefixOf (List.replicate n (120 : UInt8)) = false := fun d => by
    cases n with
    | zero => omega
    | succ n => rfl
  have hg : gapN (List.replicate n 120) = (0, true) := (gap0 _ hne).2 ⟨by rw [hhd]; decide, hp 47, hp 42⟩
  have hs : skipN (List.replicate n 120) = (0, true) := by rw [skipN_stop _ (by rw [hg]; exact .inl rfl), hg]
  have hc : cutN (List.replicate n 120) = ⟨2, 0, 0, 0⟩ := by
    unfold cutN
    rw [hhd, if_pos (by decide), runN_rep, if_pos h]
  unfold allN
  rw [if_neg (by simp; omega), allAt_err _ _ (by rw [hs]) (by rw [hs]; simp; omega) (by rw [hs]; show (cutN ((List.replicate n (120 : UInt8)).drop 0)).err ≠ 0; rw [List.drop_zero, hc]; decide)]
  simp only [hs, List.drop_zero, hc, Nat.zero_add]
theorem lex_x_huge (n : Nat) (c : UInt8) (h : 65536 < n) : allN (List.replicate n c) = .bad 2 0 := by
  unfold allN
  rw [if_pos (by simpa using h)]
theorem lex_semi (n : Nat) : ∀ o, ∃ ts, allAt (List.replicate n 59) o = .ok ts ∧ ts.length = n := by
  induction n with
  | zero => intro o; exact ⟨[], allAt_end [] o rfl rfl, rfl⟩
  | succ n ih =>
    intro o
    obtain ⟨ts, h1, h2⟩ := ih (o + 0 + 1)
    have hg : gapN (List.replicate (n + 1) 59) = (0, true) := (gap0 _ (by simp)).2 ⟨by rfl, by rfl, by rfl⟩
    have hs : skipN (List.replicate (n + 1) 59) = (0, true) := by rw [skipN_stop _ (by rw [hg]; exact .inl rfl), hg]
    have hc : cutN (List.replicate (n + 1) 59) = ⟨0, 4, 1, 0⟩ := by
      unfold cutN
      have hhd : (List.replicate (n + 1) (59 : UInt8)).headD 0 = 59 := rfl
      have hsg : signN (List.replicate (n + 1) (59 : UInt8)) = 1 := by
        cases n with
        | zero => rfl
        | succ n => rfl
      rw [hhd, if_neg (by decide), if_neg (by decide), hsg, if_neg (by decide)]
    refine ⟨⟨4, (List.replicate (n + 1) (59 : UInt8)).take 1, 0, o + 0⟩ :: ts, ?_, by simp [h2]⟩
    rw [allAt_tok _ _ (by rw [hs]) (by rw [hs]; simp) (by rw [hs]; show (cutN ((List.replicate (n + 1) (59 : UInt8)).drop 0)).err = 0; rw [List.drop_zero, hc])]
    simp only [hs, List.drop_zero, hc, Nat.zero_add]
    have e1 : (List.replicate (n + 1) (59 : UInt8)).drop 1 = List.replicate n 59 := rfl
    rw [e1, h1]
    rfl
theorem lex_semi_all (n : Nat) (h : n ≤ 65536) : ∃ ts, allN (List.replicate n 59) = .ok ts ∧ ts.length = n := by
  obtain ⟨ts, h1, h2⟩ := lex_semi n 0
  refine ⟨ts, ?_, h2⟩
  unfold allN
  rw [if_neg (by simp; omega)]
  exact h1
/-- A plain number's text. -/
theorem lex_num (u : Nat) (hu : u ≤ 4294967295) : allN (Lib.decDigits u) = if u ≤ 2147483647 then .ok [⟨2, Lib.decDigits u, u, 0⟩] else .bad 11 0 := by
  obtain ⟨hne, hdg, hpl⟩ := dd_plain u
  have hlen : (Lib.decDigits u).length ≤ 65536 := by
    have := dd_len (u / 10) (by omega)
    by_cases h : u < 10
    · rw [dd_lt u h]; simp
    · rw [dd_ge u (by omega), List.length_append]; simp; omega
  obtain ⟨c, r, e⟩ := List.exists_cons_of_ne_nil hne
  have hc : 48 ≤ c.toNat ∧ c.toNat ≤ 57 := hdg c (by rw [e]; simp)
  have hhd : (Lib.decDigits u).headD 0 = c := by rw [e]; rfl
  have hdig : digitB c = true := by unfold digitB; exact decide_eq_true hc
  have hlet : letterB c = false := by
    cases hl : letterB c with
    | false => rfl
    | true =>
      exfalso
      unfold letterB at hl
      simp only [Bool.or_eq_true, decide_eq_true_eq, beq_iff_eq] at hl
      omega
  have hbl : blankB c = false := by
    unfold blankB
    simp only [Bool.or_eq_false_iff, beq_eq_false_iff_ne]
    omega
  have hp : ∀ d, [47, d].isPrefixOf (Lib.decDigits u) = false := fun d => by
    rw [e]
    cases hq : [47, d].isPrefixOf (c :: r) with
    | false => rfl
    | true =>
      exfalso
      obtain ⟨q, e2⟩ := (pre2 47 d _).1 hq
      simp only [List.cons.injEq] at e2
      rw [e2.1] at hc
      exact absurd hc.1 (by decide)
  have hg : gapN (Lib.decDigits u) = (0, true) := (gap0 _ hne).2 ⟨by rw [hhd]; exact hbl, hp 47, hp 42⟩
  have hs : skipN (Lib.decDigits u) = (0, true) := by rw [skipN_stop _ (by rw [hg]; exact .inl rfl), hg]
  have hrun : runN (Lib.decDigits u) = (Lib.decDigits u).length := by
    refine runN_of _ _ (Nat.le_refl _) (fun x hx => ?_) (.inl rfl)
    have hx2 : 48 ≤ x.toNat ∧ x.toNat ≤ 57 := hdg x (List.mem_of_mem_take hx)
    unfold alnumB digitB
    rw [decide_eq_true hx2]
    simp
  have hall : (Lib.decDigits u).all digitB = true := by
    rw [List.all_eq_true]
    intro x hx
    have hx2 : 48 ≤ x.toNat ∧ x.toNat ≤ 57 := hdg x hx
    unfold digitB
    exact decide_eq_true hx2
  have hnum : numB (Lib.decDigits u) = decide (u ≤ 2147483647) := by
    unfold numB
    rw [hall, dd_val, Bool.true_and]
    have : (decide ((Lib.decDigits u).length = 1) || decide ((Lib.decDigits u).headD 0 ≠ 48)) = true := by
      rcases hpl with h | ⟨c', r', e', h⟩
      · rw [decide_eq_true h]; rfl
      · have : (Lib.decDigits u).headD 0 = c' := by rw [e']; rfl
        rw [this]
        simp [h]
    rw [this, Bool.true_and]
  have hpos := List.length_pos_iff.2 hne
  unfold allN
  rw [if_neg (by omega)]
  by_cases hb : u ≤ 2147483647
  · have hc2 : cutN (Lib.decDigits u) = ⟨0, 2, (Lib.decDigits u).length, u⟩ := by
      unfold cutN
      rw [hhd, if_neg (by rw [hlet]; simp), if_pos hdig, hrun, List.take_length, hnum, decide_eq_true hb, if_pos rfl, dd_val]
    rw [if_pos hb, allAt_tok _ _ (by rw [hs]) (by rw [hs]; exact hpos) (by rw [hs]; show (cutN ((Lib.decDigits u).drop 0)).err = 0; rw [List.drop_zero, hc2])]
    simp only [hs, List.drop_zero, hc2, Nat.zero_add, List.take_length]
    have e1 : (Lib.decDigits u).drop (Lib.decDigits u).length = [] := by simp
    rw [e1, allAt_end [] _ rfl rfl]
    rfl
  · have hc2 : cutN (Lib.decDigits u) = ⟨11, 0, 0, 0⟩ := by
      unfold cutN
      rw [hhd, if_neg (by rw [hlet]; simp), if_pos hdig, hrun, List.take_length, hnum, decide_eq_false hb, if_neg (by simp)]
    rw [if_neg hb, allAt_err _ _ (by rw [hs]) (by rw [hs]; exact hpos) (by rw [hs]; show (cutN ((Lib.decDigits u).drop 0)).err ≠ 0; rw [List.drop_zero, hc2]; decide)]
    simp only [hs, List.drop_zero, hc2, Nat.zero_add]
end Go.Proofs.YtkpgkobhnldhpaaDoor
