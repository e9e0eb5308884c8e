/-
  Where a text's tokens stand, and what is between them. Plain mathematics.
-/
import Derived.Test.YtkpgkobhnldhpaaDoorLxU
namespace Go.Proofs.YtkpgkobhnldhpaaDoor
set_option linter.unusedVariables false
set_option maxRecDepth 100000

theorem lineN_none (l : List UInt8) : ∀ c ∈ l.take (lineN l), c.toNat ≠ 10 := by
  induction l with
  | nil => intro c hc; simp [lineN] at hc
  | cons x r ih =>
    intro c hc
    by_cases h : x.toNat = 10
    · rw [lineN, if_pos h] at hc; simp at hc
    · rw [lineN, if_neg h, List.take_succ_cons, List.mem_cons] at hc
      rcases hc with rfl | hc
      · exact h
      · exact ih c hc
theorem lineN_stop (l : List UInt8) (h : lineN l < l.length) : (l.getD (lineN l) 0).toNat = 10 := by
  induction l with
  | nil => simp [lineN] at h
  | cons x r ih =>
    by_cases hx : x.toNat = 10
    · have e : lineN (x :: r) = 0 := by rw [lineN, if_pos hx]
      rw [e]; simpa using hx
    · have e : lineN (x :: r) = lineN r + 1 := by rw [lineN, if_neg hx]
      rw [e] at h ⊢
      simpa using ih (by simpa using h)
theorem lineN_take (l : List UInt8) (n : Nat) (h : lineN l ≤ n) : lineN (l.take n) = lineN l := by
  have hle := lineN_le l
  refine lineN_of _ _ (by rw [List.length_take]; omega) (fun c hc => ?_) ?_
  · rw [List.take_take, Nat.min_eq_left h] at hc
    exact lineN_none l c hc
  · rcases Nat.lt_or_ge (lineN l) l.length with h1 | h1
    · rcases Nat.lt_or_ge (lineN l) n with h2 | h2
      · right
        rw [List.getD_eq_getElem?_getD, List.getElem?_take_of_lt h2, ← List.getD_eq_getElem?_getD]
        exact lineN_stop l h1
      · left; rw [List.length_take]; omega
    · left; rw [List.length_take]; omega
theorem closeN_take (l : List UInt8) : ∀ (k n : Nat), closeN l = some k → k + 2 ≤ n → closeN (l.take n) = some k := by
  induction l with
  | nil => intro k n h; cases h
  | cons c r ih =>
    intro k n h hn
    have hle := closeN_le _ _ h
    obtain ⟨m, rfl⟩ : ∃ m, n = m + 1 := ⟨n - 1, by omega⟩
    rw [closeN] at h
    by_cases hp : [42, 47].isPrefixOf (c :: r) = true
    · rw [if_pos hp] at h
      cases h
      obtain ⟨q, e⟩ := (pre2 42 47 _).1 hp
      obtain ⟨m2, rfl⟩ : ∃ m2, m = m2 + 1 := ⟨m - 1, by omega⟩
      have hp2 : [42, 47].isPrefixOf ((c :: r).take (m2 + 1 + 1)) = true := (pre2 42 47 _).2 ⟨q.take m2, by rw [e]; rfl⟩
      rw [List.take_succ_cons] at hp2 ⊢
      rw [closeN, if_pos hp2]
    · rw [if_neg hp] at h
      obtain ⟨j, hj, rfl⟩ := Option.map_eq_some_iff.1 h
      have hi := ih j m hj (by omega)
      have hp2 : [42, 47].isPrefixOf (c :: r.take m) = false := by
        cases hq : [42, 47].isPrefixOf (c :: r.take m) with
        | false => rfl
        | true =>
          exfalso
          obtain ⟨q, e⟩ := (pre2 42 47 _).1 hq
          simp only [List.cons.injEq] at e
          obtain ⟨rfl, e⟩ := e
          apply hp
          refine (pre2 42 47 _).2 ⟨r.drop 1, ?_⟩
          cases r with
          | nil => simp at e
          | cons x r' =>
            cases m with
            | zero => simp at e
            | succ m =>
              rw [List.take_succ_cons] at e
              simp only [List.cons.injEq] at e
              rw [e.1]
              rfl
      rw [List.take_succ_cons, closeN, if_neg (by rw [hp2]; simp), hi]
      rfl
theorem headD_take' (l : List UInt8) (n : Nat) (hn : 1 ≤ n) : (l.take n).headD 0 = l.headD 0 := by
  cases l with
  | nil => simp
  | cons c r =>
    obtain ⟨m, rfl⟩ : ∃ m, n = m + 1 := ⟨n - 1, by omega⟩
    rfl
theorem pre2_take (a b : UInt8) (l : List UInt8) (n : Nat) (hn : 2 ≤ n) : [a, b].isPrefixOf (l.take n) = [a, b].isPrefixOf l := by
  rw [Bool.eq_iff_iff, pre2, pre2]
  obtain ⟨m, rfl⟩ : ∃ m, n = m + 2 := ⟨n - 2, by omega⟩
  constructor
  · rintro ⟨r, e⟩
    match l with
    | [] => simp at e
    | [x] => simp at e
    | x :: y :: l' =>
      simp only [List.take_succ_cons, List.cons.injEq] at e
      exact ⟨l', by rw [e.1, e.2.1]⟩
  · rintro ⟨r, e⟩
    exact ⟨r.take m, by rw [e]; rfl⟩
theorem gapN_take (l : List UInt8) (n : Nat) (h0 : (gapN l).1 ≠ 0) (h1 : (gapN l).2 = true) (hn : (gapN l).1 ≤ n) : gapN (l.take n) = gapN l := by
  have hne : l ≠ [] := fun e => by rw [e] at h0; exact h0 rfl
  have hn1 : 1 ≤ n := by omega
  have hne2 : l.take n ≠ [] := fun e => by
    have := congrArg List.length e
    have h2 := List.length_pos_iff.2 hne
    rw [List.length_take, List.length_nil] at this
    omega
  unfold gapN at h0 h1 hn ⊢
  rw [if_neg hne] at h0 h1 hn
  rw [if_neg hne, if_neg hne2, headD_take' l n hn1]
  by_cases hb : blankB (l.headD 0) = true
  · rw [if_pos hb, if_pos hb]
  · rw [if_neg hb] at h0 h1 hn
    rw [if_neg hb, if_neg hb]
    by_cases hp1 : [47, 47].isPrefixOf l = true
    · rw [if_pos hp1] at h0 h1 hn
      have hl2 : 2 ≤ lineN l := by
        obtain ⟨r, e⟩ := (pre2 47 47 _).1 hp1
        rw [e]
        show 2 ≤ lineN (47 :: 47 :: r)
        rw [lineN, if_neg (by decide), lineN, if_neg (by decide)]
        omega
      have hn' : lineN l ≤ n := hn
      rw [if_pos hp1, if_pos (by rw [pre2_take 47 47 l n (by omega)]; exact hp1), lineN_take l n hn']
    · rw [if_neg hp1] at h0 h1 hn
      rw [if_neg hp1]
      by_cases hp2 : [47, 42].isPrefixOf l = true
      · rw [if_pos hp2] at h0 h1 hn
        cases hk : closeN (l.drop 2) with
        | none => rw [hk] at h1; cases h1
        | some k =>
          rw [hk] at h0 h1 hn
          have hn' : k + 4 ≤ n := hn
          have e : (l.take n).drop 2 = (l.drop 2).take (n - 2) := List.drop_take ..
          rw [if_pos hp2, if_neg (by rw [pre2_take 47 47 l n (by omega)]; exact hp1), if_pos (by rw [pre2_take 47 42 l n (by omega)]; exact hp2), e, closeN_take _ k _ hk (by omega)]
      · rw [if_neg hp2] at h0
        exact absurd rfl h0
theorem skipF_take (f : Nat) : ∀ l : List UInt8, l.length < f → (skipF f l).2 = true → skipN (l.take (skipF f l).1) = ((skipF f l).1, true) := by
  induction f with
  | zero => intro l h; omega
  | succ f ih =>
    intro l hf h
    have hle := skipF_le (f + 1) l
    by_cases hc : (gapN l).1 = 0 ∨ (gapN l).2 = false
    · have e : skipF (f + 1) l = gapN l := by unfold skipF; rw [if_pos hc]
      rw [e] at h ⊢
      rcases hc with h0 | h0
      · rw [h0, List.take_zero]; rfl
      · rw [h0] at h; cases h
    · have h0 : (gapN l).1 ≠ 0 := fun e => hc (.inl e)
      have h1 : (gapN l).2 = true := by cases hq : (gapN l).2 with | true => rfl | false => exact absurd (.inr hq) hc
      have hl := gapN_le l
      have e : skipF (f + 1) l = ((gapN l).1 + (skipF f (l.drop (gapN l).1)).1, (skipF f (l.drop (gapN l).1)).2) := by
        conv => lhs; unfold skipF
        rw [if_neg hc]
      rw [e] at h ⊢
      have hi := ih (l.drop (gapN l).1) (by rw [List.length_drop]; omega) h
      have hg := gapN_take l ((gapN l).1 + (skipF f (l.drop (gapN l).1)).1) h0 h1 (by omega)
      rw [skipN_go _ (by rw [hg]; exact h0) (by rw [hg]; exact h1), hg]
      have ed : (l.take ((gapN l).1 + (skipF f (l.drop (gapN l).1)).1)).drop (gapN l).1 = (l.drop (gapN l).1).take (skipF f (l.drop (gapN l).1)).1 := by
        rw [List.drop_take]
        congr 1
        omega
      show ((gapN l).1 + (skipN ((l.take ((gapN l).1 + (skipF f (l.drop (gapN l).1)).1)).drop (gapN l).1)).1, _) = _
      rw [ed, hi]
theorem skipN_take (l : List UInt8) (n : Nat) (h : skipN l = (n, true)) : skipN (l.take n) = (n, true) := by
  have := skipF_take (l.length + 1) l (Nat.lt_succ_self _) (by show (skipN l).2 = true; rw [h])
  have e : skipF (l.length + 1) l = (n, true) := h
  rw [e] at this
  exact this
/-- Gaps alone have no token. -/
theorem lex_gap (l : List UInt8) (n : Nat) (h : skipN l = (n, true)) (hl : n ≤ 65536) : allN (l.take n) = .ok [] := by
  have h1 := skipN_take l n h
  have hle := skipN_le l
  rw [h] at hle
  have hlen : (l.take n).length = n := by rw [List.length_take]; simp only at hle; omega
  unfold allN
  rw [if_neg (by omega)]
  exact allAt_end _ _ (by rw [h1]) (by rw [h1, hlen])
/-- One behind the other, from place e on. -/
def Chain (text : List UInt8) : Nat → List Tok → Prop
  | e, [] => skipN (text.drop e) = (text.length - e, true) ∧ e ≤ text.length
  | e, t :: ts => e ≤ t.off ∧ t.off + t.txt.length ≤ text.length ∧ (text.drop t.off).take t.txt.length = t.txt ∧ t.txt ≠ [] ∧ skipN (text.drop e) = (t.off - e, true) ∧ Chain text (t.off + t.txt.length) ts
theorem allF_chain (text : List UInt8) (f : Nat) : ∀ (e : Nat) (ts : List Tok), e ≤ text.length → text.length - e < f → allF f (text.drop e) e = .ok ts → Chain text e ts := by
  induction f with
  | zero => intro e ts h1 h2; omega
  | succ f ih =>
    intro e ts h1 h2 h
    have hle := skipN_le (text.drop e)
    rw [List.length_drop] at hle
    unfold allF at h
    split at h
    · cases h
    · rename_i hsk
      have hsk' : (skipN (text.drop e)).2 = true := by simpa using hsk
      split at h
      · rename_i hd
        cases h
        have := congrArg List.length hd
        rw [List.length_drop, List.length_drop] at this
        simp at this
        refine ⟨?_, h1⟩
        rw [← hsk']
        apply Prod.ext
        · show (skipN (text.drop e)).1 = text.length - e
          omega
        · rfl
      · split at h
        · cases h
        · rename_i h3 h4
          have h5 := cutN_len _ h3 (by simpa using h4)
          rw [List.length_drop, List.length_drop] at h5
          generalize hr : allF f ((text.drop e).drop ((skipN (text.drop e)).1 + (cutN ((text.drop e).drop (skipN (text.drop e)).1)).len)) (e + (skipN (text.drop e)).1 + (cutN ((text.drop e).drop (skipN (text.drop e)).1)).len) = r at h
          cases r with
          | bad e' p' => cases h
          | ok us =>
            have h6 : Res.ok ([_] ++ us) = Res.ok ts := h
            cases h6
            generalize hn : (skipN (text.drop e)).1 = n at *
            generalize hc : cutN ((text.drop e).drop n) = cc at *
            rw [List.drop_drop] at hr
            have hlen : (((text.drop e).drop n).take cc.len).length = cc.len := by rw [List.length_take, List.length_drop, List.length_drop]; omega
            refine ⟨by simp, ?_, ?_, ?_, ?_, ?_⟩
            · show e + n + (((text.drop e).drop n).take cc.len).length ≤ _
              rw [hlen]; omega
            · show (text.drop (e + n)).take (((text.drop e).drop n).take cc.len).length = ((text.drop e).drop n).take cc.len
              rw [hlen, List.drop_drop]
            · intro e2
              have := congrArg List.length e2
              rw [hlen] at this
              simp at this
              omega
            · show skipN (text.drop e) = (e + n - e, true)
              rw [← hsk', ← hn]
              apply Prod.ext
              · show (skipN (text.drop e)).1 = e + (skipN (text.drop e)).1 - e
                omega
              · rfl
            · show Chain text (e + n + (((text.drop e).drop n).take cc.len).length) us
              rw [hlen]
              refine ih _ us (by omega) (by omega) ?_
              rw [← hr]
              congr 2
              omega
theorem allN_chain (text : List UInt8) (ts : List Tok) (h : allN text = .ok ts) : Chain text 0 ts := by
  unfold allN at h
  split at h
  · cases h
  · exact allF_chain text (text.length + 1) 0 ts (Nat.zero_le _) (by omega) h
/-- Where the k-th token begins to be sought. -/
def endAt (ts : List Tok) : Nat → Nat
  | 0 => 0
  | k + 1 => match ts[k]? with | some t => t.off + t.txt.length | none => 0
theorem chain_at (text : List UInt8) : ∀ (ts : List Tok) (e : Nat), Chain text e ts → ∀ (k : Nat) t, ts[k]? = some t → (if k = 0 then e else endAt ts k) ≤ t.off ∧ t.off + t.txt.length ≤ text.length ∧ (text.drop t.off).take t.txt.length = t.txt ∧ t.txt ≠ [] ∧ skipN (text.drop (if k = 0 then e else endAt ts k)) = (t.off - (if k = 0 then e else endAt ts k), true) := by
  intro ts
  induction ts with
  | nil => intro e h k t hk; simp at hk
  | cons a r ih =>
    intro e h k t hk
    obtain ⟨c1, c2, c3, c4, c5, c6⟩ := h
    cases k with
    | zero =>
      simp at hk
      subst hk
      exact ⟨c1, c2, c3, c4, c5⟩
    | succ k =>
      have hr := ih _ c6 k t (by simpa using hk)
      have e1 : (if k + 1 = 0 then e else endAt (a :: r) (k + 1)) = (if k = 0 then a.off + a.txt.length else endAt r k) := by
        cases k with
        | zero => rfl
        | succ k => simp [endAt]
      rw [e1]
      exact hr
theorem chain_end (text : List UInt8) : ∀ (ts : List Tok) (e : Nat), Chain text e ts → skipN (text.drop (if ts.length = 0 then e else endAt ts ts.length)) = (text.length - (if ts.length = 0 then e else endAt ts ts.length), true) ∧ (if ts.length = 0 then e else endAt ts ts.length) ≤ text.length := by
  intro ts
  induction ts with
  | nil => intro e h; exact h
  | cons a r ih =>
    intro e h
    obtain ⟨c1, c2, c3, c4, c5, c6⟩ := h
    have hr := ih _ c6
    have e1 : (if (a :: r).length = 0 then e else endAt (a :: r) (a :: r).length) = (if r.length = 0 then a.off + a.txt.length else endAt r r.length) := by
      cases r with
      | nil => rfl
      | cons b r => simp [endAt]
    rw [e1]
    exact hr
end Go.Proofs.YtkpgkobhnldhpaaDoor
