/-
  Tokens written side by side with gaps between are cut into the same. Plain mathematics.
-/
import Derived.Test.YtkpgkobhnldhpaaDoorLxN
namespace Go.Proofs.YtkpgkobhnldhpaaDoor
set_option linter.unusedVariables false
set_option maxRecDepth 100000

theorem skipF_after (f : Nat) : ∀ l : List UInt8, l.length < f → (skipF f l).2 = true → gapN (l.drop (skipF f l).1) = (0, true) := by
  induction f with
  | zero => intro l h; omega
  | succ f ih =>
    intro l hf h
    unfold skipF at h ⊢
    by_cases hc : (gapN l).1 = 0 ∨ (gapN l).2 = false
    · rw [if_pos hc] at h ⊢
      rcases hc with h0 | h0
      · rw [h0, List.drop_zero, ← h0, ← h]
      · rw [h0] at h; cases h
    · rw [if_neg hc] at h ⊢
      have h0 : (gapN l).1 ≠ 0 := fun e => hc (.inl e)
      have hl := gapN_le l
      have := ih (l.drop (gapN l).1) (by rw [List.length_drop]; omega) h
      rw [List.drop_drop] at this
      exact this
theorem skipN_after (l : List UInt8) (h : (skipN l).2 = true) : gapN (l.drop (skipN l).1) = (0, true) := skipF_after _ l (Nat.lt_succ_self _) h
/-- It begins with a blank. -/
def headBl (r : List UInt8) : Prop := ∃ c q, r = c :: q ∧ blankB c = true
theorem blank_val (c : UInt8) (h : blankB c = true) : c.toNat = 32 ∨ c.toNat = 9 ∨ c.toNat = 10 ∨ c.toNat = 13 := by
  unfold blankB at h
  simp only [Bool.or_eq_true, beq_iff_eq] at h
  omega
theorem blank_not_alnum (c : UInt8) (h : blankB c = true) : alnumB c = false := by
  have := blank_val c h
  unfold alnumB letterB digitB
  simp only [Bool.or_eq_false_iff, decide_eq_false_iff_not, beq_eq_false_iff_ne]
  omega
/-- A token's text, that is cut so whatever blank stands behind it. -/
structure GoodT (t : Tok) : Prop where
  ne : t.txt ≠ []
  gap : ∀ r, (r = [] ∨ headBl r) → gapN (t.txt ++ r) = (0, true)
  cut : ∀ r, (r = [] ∨ headBl r) → cutN (t.txt ++ r) = ⟨0, t.kind, t.txt.length, t.num⟩
theorem runN_app (t r : List UInt8) (ht : ∀ c ∈ t, alnumB c = true) (hr : r = [] ∨ headBl r) : runN (t ++ r) = t.length := by
  refine runN_of _ _ (by simp) (by rw [List.take_left]; exact ht) ?_
  rcases hr with rfl | ⟨c, q, rfl, hc⟩
  · left; simp
  · right
    rw [List.getD_eq_getElem?_getD, List.getElem?_append_right (Nat.le_refl _), Nat.sub_self]
    simpa using blank_not_alnum c hc
theorem gap0 (l : List UInt8) (h : l ≠ []) : gapN l = (0, true) ↔ blankB (l.headD 0) = false ∧ [47, 47].isPrefixOf l = false ∧ [47, 42].isPrefixOf l = false := by
  constructor
  · intro hg
    unfold gapN at hg
    rw [if_neg h] at hg
    cases h1 : blankB (l.headD 0) with
    | true => rw [h1, if_pos rfl] at hg; cases hg
    | false =>
      rw [h1, if_neg (by simp)] at hg
      cases h2 : [47, 47].isPrefixOf l with
      | true =>
        exfalso
        rw [h2, if_pos rfl] at hg
        obtain ⟨q, rfl⟩ := List.isPrefixOf_iff_prefix.1 h2
        have : lineN ([47, 47] ++ q) = 0 := congrArg Prod.fst hg
        simp [lineN] at this
      | false =>
        rw [h2, if_neg (by simp)] at hg
        cases h3 : [47, 42].isPrefixOf l with
        | true =>
          exfalso
          rw [h3, if_pos rfl] at hg
          cases hk : closeN (l.drop 2) with
          | none => rw [hk] at hg; exact absurd (congrArg Prod.snd hg) (by simp)
          | some k => rw [hk] at hg; simp at hg
        | false => exact ⟨rfl, rfl, rfl⟩
  · rintro ⟨h1, h2, h3⟩
    unfold gapN
    rw [if_neg h, h1, if_neg (by simp), h2, if_neg (by simp), h3, if_neg (by simp)]
theorem pre2 (a b : UInt8) (l : List UInt8) : [a, b].isPrefixOf l = true ↔ ∃ r, l = a :: b :: r := by
  rw [List.isPrefixOf_iff_prefix]
  exact ⟨fun ⟨r, h⟩ => ⟨r, h.symm⟩, fun ⟨r, h⟩ => ⟨r, h.symm⟩⟩
theorem pre2_app (a b : UInt8) (hb : b.toNat = 47 ∨ b.toNat = 42) (l : List UInt8) (n : Nat) (hn : 1 ≤ n) (hl : n ≤ l.length) (h : [a, b].isPrefixOf l = false) (r : List UInt8) (hr : r = [] ∨ headBl r) : [a, b].isPrefixOf (l.take n ++ r) = false := by
  cases hq : [a, b].isPrefixOf (l.take n ++ r) with
  | false => rfl
  | true =>
    exfalso
    obtain ⟨q, e⟩ := (pre2 a b _).1 hq
    match l, n, hl, hn with
    | [], n, hl, hn => simp at hl; omega
    | x :: l', n + 1, hl, hn =>
      simp only [List.take_succ_cons, List.cons_append, List.cons.injEq] at e
      obtain ⟨rfl, e⟩ := e
      cases n with
      | zero =>
        simp only [List.take_zero, List.nil_append] at e
        rcases hr with rfl | ⟨c, q', rfl, hc⟩
        · cases e
        · simp only [List.cons.injEq] at e
          have := blank_val c hc
          rw [e.1] at this
          omega
      | succ n =>
        match l', hl with
        | y :: l'', hl =>
          simp only [List.take_succ_cons, List.cons_append, List.cons.injEq] at e
          obtain ⟨rfl, e⟩ := e
          have : [x, y].isPrefixOf (x :: y :: l'') = true := (pre2 x y _).2 ⟨l'', rfl⟩
          rw [h] at this
          cases this
theorem headD_take (l : List UInt8) (n : Nat) (hn : 1 ≤ n) (hl : n ≤ l.length) (r : List UInt8) : (l.take n ++ r).headD 0 = l.headD 0 := by
  match l, n, hl, hn with
  | [], n, hl, hn => simp at hl; omega
  | x :: l', n + 1, hl, hn => rfl
theorem signAB_behind (a b c : Nat) (h : signAB a b ≠ 0) (hc : c = 0 ∨ c = 32 ∨ c = 9 ∨ c = 10 ∨ c = 13) : signAB a c = 1 := by
  unfold signAB at h ⊢
  simp only [List.mem_cons, List.not_mem_nil, or_false] at h ⊢
  by_cases h1 : a = 60 ∨ a = 62
  · rw [if_pos h1, if_neg (by omega)]
  · rw [if_neg h1] at h ⊢
    by_cases h2 : a = 61 ∨ a = 33
    · rw [if_pos h2, if_neg (by omega)]
    · rw [if_neg h2] at h ⊢
      by_cases h3 : a = 38 ∨ a = 124
      · rw [if_pos h3, if_neg (by omega)]
      · rw [if_neg h3] at h ⊢
        split at h
        · rename_i h4; rw [if_pos h4]
        · exact absurd rfl h
theorem sign_app (l : List UInt8) (hn : signN l ≠ 0) (r : List UInt8) (hr : r = [] ∨ headBl r) : signN (l.take (signN l) ++ r) = signN l := by
  have h2 := signN_le l
  have hl := signN_len l
  have hcase : signN l = 1 ∨ signN l = 2 := by omega
  match l with
  | [] => exact absurd rfl hn
  | [a] =>
    have h1 : signN [a] = 1 := by rcases hcase with h | h; exact h; rw [h] at hl; simp at hl
    rw [h1]
    show signN (a :: r) = 1
    rcases hr with rfl | ⟨c, q, rfl, hc⟩
    · exact h1
    · rw [signN_two]
      rw [signN_one] at hn
      exact signAB_behind _ _ _ hn (by have := blank_val c hc; omega)
  | a :: b :: l' =>
    rcases hcase with h | h
    · rw [h]
      show signN (a :: r) = 1
      rw [signN_two] at hn
      rcases hr with rfl | ⟨c, q, rfl, hc⟩
      · rw [signN_one]
        exact signAB_behind _ _ _ hn (.inl rfl)
      · rw [signN_two]
        exact signAB_behind _ _ _ hn (by have := blank_val c hc; omega)
    · rw [h]
      show signN (a :: b :: r) = 2
      rw [signN_two] at h ⊢
      exact h
theorem good_of (l : List UInt8) (hne : l ≠ []) (hg : gapN l = (0, true)) (he : (cutN l).err = 0) (o : Nat) : GoodT ⟨(cutN l).kind, l.take (cutN l).len, (cutN l).num, o⟩ := by
  obtain ⟨h1, h2⟩ := cutN_len l hne he
  obtain ⟨g1, g2, g3⟩ := (gap0 l hne).1 hg
  have htl : (l.take (cutN l).len).length = (cutN l).len := by rw [List.length_take]; omega
  refine ⟨fun e => ?_, fun r hr => ?_, fun r hr => ?_⟩
  · have := congrArg List.length e
    simp at this
    rcases this with h | h
    · omega
    · exact hne h
  · show gapN (l.take (cutN l).len ++ r) = _
    refine (gap0 _ (fun e => ?_)).2 ⟨by rw [headD_take l _ h1 h2]; exact g1, pre2_app 47 47 (.inl rfl) l _ h1 h2 g2 r hr, pre2_app 47 42 (.inr rfl) l _ h1 h2 g3 r hr⟩
    have := congrArg List.length e
    rw [List.length_append, htl] at this
    simp at this
    omega
  · show cutN (l.take (cutN l).len ++ r) = ⟨0, (cutN l).kind, (l.take (cutN l).len).length, (cutN l).num⟩
    rw [htl]
    have hhd := headD_take l _ h1 h2 r
    have key : ∀ c, cutN l = c → c.err = 0 → cutN (l.take c.len ++ r) = ⟨0, c.kind, c.len, c.num⟩ := by
      intro c hc hce
      have hhd : (l.take c.len ++ r).headD 0 = l.headD 0 := by rw [← hc]; exact hhd
      have hlc : c.len ≤ l.length := by rw [← hc]; exact h2
      unfold cutN at hc ⊢
      rw [hhd]
      by_cases hL : letterB (l.headD 0) = true
      · rw [if_pos hL] at hc ⊢
        by_cases h64 : 64 < runN l
        · rw [if_pos h64] at hc; subst hc; cases hce
        · rw [if_neg h64] at hc
          have hlen : c.len = runN l := by rw [← hc]; split <;> rfl
          have hrun : runN (l.take c.len ++ r) = runN l := by
            rw [hlen, runN_app _ r (runN_all l) hr, List.length_take]
            have := runN_le l
            omega
          have htk : (l.take c.len ++ r).take (runN l) = l.take (runN l) := by
            rw [hlen]
            exact List.take_left' (by rw [List.length_take]; have := runN_le l; omega)
          rw [hrun, if_neg h64, htk, hc]
          cases c
          simp only at hce
          rw [hce]
      · rw [if_neg hL] at hc ⊢
        by_cases hD : digitB (l.headD 0) = true
        · rw [if_pos hD] at hc ⊢
          by_cases hn : numB (l.take (runN l)) = true
          · rw [if_pos hn] at hc
            have hlen : c.len = runN l := by rw [← hc]
            have hrun : runN (l.take c.len ++ r) = runN l := by
              rw [hlen, runN_app _ r (runN_all l) hr, List.length_take]
              have := runN_le l
              omega
            have htk : (l.take c.len ++ r).take (runN l) = l.take (runN l) := by
              rw [hlen]
              exact List.take_left' (by rw [List.length_take]; have := runN_le l; omega)
            rw [hrun, htk, if_pos hn, hc]
            cases c
            simp only at hce
            rw [hce]
          · rw [if_neg hn] at hc; subst hc; cases hce
        · rw [if_neg hD] at hc ⊢
          by_cases hs : signN l = 0
          · rw [if_pos hs] at hc; subst hc; cases hce
          · rw [if_neg hs] at hc
            have hlen : c.len = signN l := by rw [← hc]
            have hsg : signN (l.take c.len ++ r) = signN l := by rw [hlen]; exact sign_app l hs r hr
            rw [hsg, if_neg hs, hc]
            cases c
            simp only at hce
            rw [hce]
    exact key _ rfl he
/-- The tokens of a text are good ones; their texts are no longer than it. -/
theorem allF_good (f : Nat) : ∀ (l : List UInt8) (o : Nat) (ts : List Tok), allF f l o = .ok ts → (∀ t ∈ ts, GoodT t) ∧ (ts.map fun t => t.txt.length).sum ≤ l.length := by
  induction f with
  | zero => intro l o ts h; cases h; exact ⟨fun t ht => (by cases ht), Nat.zero_le _⟩
  | succ f ih =>
    intro l o ts h
    unfold allF at h
    split at h
    · cases h
    · rename_i hsk
      split at h
      · cases h; exact ⟨fun t ht => (by cases ht), Nat.zero_le _⟩
      · split at h
        · cases h
        · rename_i h2 h3
          have h4 := cutN_len _ h2 (by simpa using h3)
          have hgd := good_of _ h2 (skipN_after l (by simpa using hsk)) (by simpa using h3) (o + (skipN l).1)
          rw [List.length_drop] at h4
          generalize hr : allF f (l.drop ((skipN l).1 + (cutN (l.drop (skipN l).1)).len)) (o + (skipN l).1 + (cutN (l.drop (skipN l).1)).len) = r at h
          cases r with
          | bad e' p' => cases h
          | ok us =>
            have h5 : Res.ok ([_] ++ us) = Res.ok ts := h
            cases h5
            obtain ⟨i1, i2⟩ := ih _ _ _ hr
            rw [List.length_drop] at i2
            refine ⟨fun t ht => ?_, ?_⟩
            · rcases List.mem_append.1 ht with h | h
              · rw [List.mem_singleton] at h
                subst h
                exact hgd
              · exact i1 t h
            · rw [List.map_append, List.sum_append]
              simp only [List.map_cons, List.map_nil, List.sum_cons, List.sum_nil, List.length_take, List.length_drop]
              omega
theorem allN_good (l : List UInt8) (ts : List Tok) (h : allN l = .ok ts) : (∀ t ∈ ts, GoodT t) ∧ (ts.map fun t => t.txt.length).sum ≤ l.length := by
  unfold allN at h
  split at h
  · cases h
  · exact allF_good _ _ _ _ h
theorem allF_bad (f : Nat) : ∀ (l : List UInt8) (o e p : Nat), allF f l o = .bad e p → e ≠ 0 ∧ p ≤ o + l.length := by
  induction f with
  | zero => intro l o e p h; cases h
  | succ f ih =>
    intro l o e p h
    have hle := skipN_le l
    unfold allF at h
    split at h
    · cases h; exact ⟨by decide, by omega⟩
    · split at h
      · cases h
      · split at h
        · rename_i he
          cases h
          exact ⟨he, by omega⟩
        · rename_i h1 h2 h3
          have h4 := cutN_len _ h2 (by simpa using h3)
          rw [List.length_drop] at h4
          generalize hr : allF f (l.drop ((skipN l).1 + (cutN (l.drop (skipN l).1)).len)) (o + (skipN l).1 + (cutN (l.drop (skipN l).1)).len) = r at h
          cases r with
          | ok us => cases h
          | bad e' p' =>
            have h5 : Res.bad e' p' = Res.bad e p := h
            cases h5
            have := ih _ _ _ _ hr
            rw [List.length_drop] at this
            exact ⟨this.1, by omega⟩
theorem allN_bad (l : List UInt8) (e p : Nat) (h : allN l = .bad e p) : e ≠ 0 ∧ p ≤ l.length := by
  unfold allN at h
  split at h
  · cases h; exact ⟨by decide, by omega⟩
  · have := allF_bad _ _ _ _ _ h
    omega
theorem allF_few (f : Nat) : ∀ (l : List UInt8) (o : Nat) (ts : List Tok), allF f l o = .ok ts → ts.length ≤ l.length := by
  induction f with
  | zero => intro l o ts h; cases h; exact Nat.zero_le _
  | succ f ih =>
    intro l o ts h
    unfold allF at h
    split at h
    · cases h
    · split at h
      · cases h; exact Nat.zero_le _
      · split at h
        · cases h
        · rename_i h1 h2 h3
          have h4 := cutN_len _ h2 (by simpa using h3)
          rw [List.length_drop] at h4
          generalize hr : allF f (l.drop ((skipN l).1 + (cutN (l.drop (skipN l).1)).len)) (o + (skipN l).1 + (cutN (l.drop (skipN l).1)).len) = r at h
          cases r with
          | bad e' p' => cases h
          | ok us =>
            have h5 : Res.ok ([_] ++ us) = Res.ok ts := h
            cases h5
            have := ih _ _ _ hr
            rw [List.length_drop] at this
            simp
            omega
theorem allN_few (l : List UInt8) (ts : List Tok) (h : allN l = .ok ts) : ts.length ≤ l.length := by
  unfold allN at h
  split at h
  · cases h
  · exact allF_few _ _ _ _ h
/-- Gaps alone: they are gone past, whatever stands behind. -/
def SkipS (g : List UInt8) : Prop := ∀ r, skipN (g ++ r) = (g.length + (skipN r).1, (skipN r).2)
theorem SkipS.nil : SkipS [] := fun r => by simp
theorem SkipS.app {a b : List UInt8} (ha : SkipS a) (hb : SkipS b) : SkipS (a ++ b) := fun r => by
  rw [List.append_assoc, ha, hb, List.length_append, Nat.add_assoc]
theorem SkipS.blank (c : UInt8) (h : blankB c = true) : SkipS [c] := fun r => by
  have hg : gapN ([c] ++ r) = (1, true) := by
    unfold gapN
    rw [if_neg (by simp)]
    have e : ([c] ++ r).headD 0 = c := rfl
    rw [e, h, if_pos rfl]
  rw [skipN_go _ (by rw [hg]; decide) (by rw [hg]), hg]
  rfl
theorem lineN_app (b r : List UInt8) (h : ∀ c ∈ b, c.toNat ≠ 10) : lineN (b ++ 10 :: r) = b.length := by
  refine lineN_of _ _ (by simp) (by rw [List.take_left]; exact h) (.inr ?_)
  rw [List.getD_eq_getElem?_getD, List.getElem?_append_right (Nat.le_refl _), Nat.sub_self]
  rfl
theorem SkipS.line (b : List UInt8) (h : ∀ c ∈ b, c.toNat ≠ 10) : SkipS (47 :: 47 :: b ++ [10]) := fun r => by
  have hg : gapN (47 :: 47 :: b ++ [10] ++ r) = (b.length + 2, true) := by
    unfold gapN
    rw [if_neg (by simp)]
    have e : (47 :: 47 :: b ++ [10] ++ r).headD 0 = 47 := rfl
    have hp : [47, 47].isPrefixOf (47 :: 47 :: b ++ [10] ++ r) = true := (pre2 47 47 _).2 ⟨b ++ [10] ++ r, by simp⟩
    rw [e, if_neg (by decide), hp, if_pos rfl]
    have := lineN_app (47 :: 47 :: b) r (by
      intro c hc
      simp only [List.mem_cons] at hc
      rcases hc with rfl | rfl | hc
      · decide
      · decide
      · exact h c hc)
    have e2 : 47 :: 47 :: b ++ [10] ++ r = 47 :: 47 :: b ++ 10 :: r := by simp
    rw [e2, this]
    rfl
  rw [skipN_go _ (by rw [hg]; simp) (by rw [hg]), hg]
  have hd : (47 :: 47 :: b ++ [10] ++ r).drop (b.length + 2) = [10] ++ r := by
    have e2 : 47 :: 47 :: b ++ [10] ++ r = (47 :: 47 :: b) ++ ([10] ++ r) := by simp
    rw [e2]
    exact List.drop_left' (by simp)
  rw [hd, SkipS.blank 10 (by decide) r]
  simp only [List.length_append, List.length_cons, List.length_nil]
  congr 1
  omega
theorem closeN_app (b r : List UInt8) (h : ∀ c ∈ b, c.toNat ≠ 42) : closeN (b ++ 42 :: 47 :: r) = some b.length := by
  induction b with
  | nil =>
    show closeN (42 :: 47 :: r) = some 0
    have hp : [42, 47].isPrefixOf (42 :: 47 :: r) = true := (pre2 42 47 _).2 ⟨r, rfl⟩
    rw [closeN, hp, if_pos rfl]
  | cons c b ih =>
    have hc : c.toNat ≠ 42 := h c (by simp)
    have hp : [42, 47].isPrefixOf (c :: b ++ 42 :: 47 :: r) = false := by
      cases hq : [42, 47].isPrefixOf (c :: b ++ 42 :: 47 :: r) with
      | false => rfl
      | true =>
        exfalso
        obtain ⟨q, e⟩ := (pre2 42 47 _).1 hq
        simp only [List.cons_append, List.cons.injEq] at e
        rw [e.1] at hc
        exact hc rfl
    have e : c :: b ++ 42 :: 47 :: r = c :: (b ++ 42 :: 47 :: r) := rfl
    rw [e] at hp ⊢
    rw [closeN, hp, if_neg (by simp), ih (fun x hx => h x (by simp [hx]))]
    rfl
theorem SkipS.block (b : List UInt8) (h : ∀ c ∈ b, c.toNat ≠ 42) : SkipS (47 :: 42 :: b ++ [42, 47]) := fun r => by
  have hg : gapN (47 :: 42 :: b ++ [42, 47] ++ r) = (b.length + 4, true) := by
    unfold gapN
    rw [if_neg (by simp)]
    have e : (47 :: 42 :: b ++ [42, 47] ++ r).headD 0 = 47 := rfl
    have hp1 : [47, 47].isPrefixOf (47 :: 42 :: b ++ [42, 47] ++ r) = false := by
      cases hq : [47, 47].isPrefixOf (47 :: 42 :: b ++ [42, 47] ++ r) with
      | false => rfl
      | true =>
        exfalso
        obtain ⟨q, e⟩ := (pre2 47 47 _).1 hq
        simp at e
    have hp : [47, 42].isPrefixOf (47 :: 42 :: b ++ [42, 47] ++ r) = true := (pre2 47 42 _).2 ⟨b ++ [42, 47] ++ r, by simp⟩
    rw [e, if_neg (by decide), hp1, if_neg (by simp), hp, if_pos rfl]
    have e2 : (47 :: 42 :: b ++ [42, 47] ++ r).drop 2 = b ++ 42 :: 47 :: r := by simp
    rw [e2, closeN_app b r h]
  rw [skipN_go _ (by rw [hg]; simp) (by rw [hg]), hg]
  have hd : (47 :: 42 :: b ++ [42, 47] ++ r).drop (b.length + 4) = r := by
    exact List.drop_left' (by simp)
  rw [hd]
  simp only [List.length_append, List.length_cons, List.length_nil]
theorem allAt_gap (g r : List UInt8) (hg : SkipS g) (o : Nat) : allAt (g ++ r) o = allAt r (o + g.length) := by
  have hs := hg r
  have hle := skipN_le r
  have hdr : ∀ k, (g ++ r).drop (g.length + k) = r.drop k := fun k => by
    rw [← List.drop_drop, List.drop_left]
  cases hb : (skipN r).2 with
  | false =>
    rw [allAt_bad _ _ (by rw [hs]; exact hb), allAt_bad _ _ hb, List.length_append, Nat.add_assoc]
  | true =>
    have hb2 : (skipN (g ++ r)).2 = true := by rw [hs]; exact hb
    rcases Nat.lt_or_ge (skipN r).1 r.length with hl | hl
    · by_cases he : (cutN (r.drop (skipN r).1)).err = 0
      · rw [allAt_tok r _ hb hl he, allAt_tok (g ++ r) o hb2 (by rw [hs, List.length_append]; show g.length + _ < _; omega) (by rw [hs]; show (cutN ((g ++ r).drop (g.length + _))).err = 0; rw [hdr]; exact he)]
        simp only [hs, hdr, Nat.add_assoc]
      · rw [allAt_err r _ hb hl he, allAt_err (g ++ r) o hb2 (by rw [hs, List.length_append]; show g.length + _ < _; omega) (by rw [hs]; show (cutN ((g ++ r).drop (g.length + _))).err ≠ 0; rw [hdr]; exact he)]
        simp only [hs, hdr, Nat.add_assoc]
    · rw [allAt_end r _ hb (by omega), allAt_end (g ++ r) o hb2 (by rw [hs, List.length_append]; show g.length + _ = _; omega)]
/-- Texts and gaps in turn. -/
def weave : List Tok → List (List UInt8) → List UInt8
  | t :: ts, g :: gs => t.txt ++ (g ++ weave ts gs)
  | _, _ => []
def WOK : List Tok → List (List UInt8) → Prop
  | [], [] => True
  | t :: ts, g :: gs => GoodT t ∧ SkipS g ∧ (headBl g ∨ (g = [] ∧ ts = [] ∧ gs = [])) ∧ WOK ts gs
  | _, _ => False
def sameT (a b : Tok) : Prop := a.kind = b.kind ∧ a.txt = b.txt ∧ a.num = b.num
def sameTs (a b : List Tok) : Prop := a.length = b.length ∧ ∀ (k : Nat) x y, a[k]? = some x → b[k]? = some y → sameT x y
theorem lex_weave : ∀ (ts : List Tok) (gs : List (List UInt8)), WOK ts gs → ∀ o, ∃ us, allAt (weave ts gs) o = .ok us ∧ sameTs ts us := by
  intro ts
  induction ts with
  | nil =>
    intro gs h o
    refine ⟨[], ?_, rfl, fun k x y h => by simp at h⟩
    have e : weave [] gs = [] := by cases gs <;> rfl
    rw [e]
    exact allAt_end [] o rfl rfl
  | cons t ts ih =>
    intro gs h o
    cases gs with
    | nil => exact h.elim
    | cons g gs =>
      obtain ⟨ht, hg, hgb, hrest⟩ := h
      obtain ⟨us, hu, hsame⟩ := ih gs hrest (o + t.txt.length + g.length)
      have hr : g ++ weave ts gs = [] ∨ headBl (g ++ weave ts gs) := by
        rcases hgb with ⟨c, q, rfl, hc⟩ | ⟨rfl, rfl, rfl⟩
        · exact .inr ⟨c, q ++ weave ts gs, rfl, hc⟩
        · exact .inl rfl
      have hg0 := ht.gap _ hr
      have hc0 := ht.cut _ hr
      have hsk : skipN (t.txt ++ (g ++ weave ts gs)) = (0, true) := by rw [skipN_stop _ (by rw [hg0]; exact .inl rfl), hg0]
      have hpos := List.length_pos_iff.2 ht.ne
      refine ⟨⟨t.kind, t.txt, t.num, o⟩ :: us, ?_, ?_⟩
      · show allAt (t.txt ++ (g ++ weave ts gs)) o = _
        rw [allAt_tok _ _ (by rw [hsk]) (by rw [hsk, List.length_append]; show 0 < _; omega) (by rw [hsk]; show (cutN ((t.txt ++ (g ++ weave ts gs)).drop 0)).err = 0; rw [List.drop_zero, hc0])]
        simp only [hsk, List.drop_zero, hc0, Nat.zero_add, Nat.add_zero, List.drop_left, List.take_left]
        rw [allAt_gap g _ hg, hu]
        rfl
      · refine ⟨by simp [hsame.1], fun k x y hx hy => ?_⟩
        cases k with
        | zero => simp at hx hy; subst hx hy; exact ⟨rfl, rfl, rfl⟩
        | succ k => exact hsame.2 k x y (by simpa using hx) (by simpa using hy)
end Go.Proofs.YtkpgkobhnldhpaaDoor
