/-
  Frames of records, on plain lists of bytes: the frame, the first frame of bytes, all frames at the front; cut, and with bits turned. No program in sight.
-/
import Derived.Test.YtjcknjadapbooaaTurnB
namespace Go.Proofs.Ytjcknjadapbooaa
open Go.RowKit
set_option linter.unusedVariables false

def le4 (n : Nat) : List Nat := [n % 256, n / 256 % 256, n / 65536 % 256, n / 16777216 % 256]
def getN (l : List Nat) (j : Nat) : Nat := l.getD j 0 + l.getD (j + 1) 0 * 256 + l.getD (j + 2) 0 * 65536 + l.getD (j + 3) 0 * 16777216
def bytesN (l : List Nat) : Prop := ∀ x ∈ l, x < 256
theorem le4_length (n : Nat) : (le4 n).length = 4 := rfl
theorem le4_lt (n : Nat) : bytesN (le4 n) := by
  intro x hx
  simp only [le4, List.mem_cons, List.not_mem_nil, or_false] at hx
  omega
theorem bytesN_append {a b : List Nat} (ha : bytesN a) (hb : bytesN b) : bytesN (a ++ b) := fun x hx => by
  rcases List.mem_append.1 hx with h | h
  · exact ha x h
  · exact hb x h
theorem bytesN_take {a : List Nat} (ha : bytesN a) (k : Nat) : bytesN (a.take k) := fun x hx => ha x (List.mem_of_mem_take hx)
theorem bytesN_drop {a : List Nat} (ha : bytesN a) (k : Nat) : bytesN (a.drop k) := fun x hx => ha x (List.mem_of_mem_drop hx)
theorem bytesN_nil : bytesN [] := fun x hx => by cases hx
theorem getN_front (a b c d : Nat) (t : List Nat) : getN (a :: b :: c :: d :: t) 0 = a + b * 256 + c * 65536 + d * 16777216 := rfl
theorem getN_le4 (n : Nat) (h : n < 4294967296) (t : List Nat) : getN (le4 n ++ t) 0 = n := by
  show getN (_ :: _ :: _ :: _ :: t) 0 = n
  rw [getN_front]
  omega
theorem getN_drop (l : List Nat) (j : Nat) : getN l j = getN (l.drop j) 0 := by
  unfold getN
  simp [List.getD, List.getElem?_drop]
theorem four_of {l : List Nat} (h : 4 ≤ l.length) : ∃ a b c d t, l = a :: b :: c :: d :: t := by
  match l, h with
  | a :: b :: c :: d :: t, _ => exact ⟨a, b, c, d, t, rfl⟩
theorem le4_getN0 {l : List Nat} (hb : bytesN l) (h : 4 ≤ l.length) : le4 (getN l 0) = l.take 4 := by
  obtain ⟨a, b, c, d, t, rfl⟩ := four_of h
  have h1 := hb a (by simp)
  have h2 := hb b (by simp)
  have h3 := hb c (by simp)
  have h4 := hb d (by simp)
  rw [getN_front]
  simp only [le4, List.take_succ_cons, List.take_zero, List.cons.injEq, and_true]
  omega
theorem le4_getN {l : List Nat} (hb : bytesN l) (j : Nat) (h : j + 4 ≤ l.length) : le4 (getN l j) = (l.drop j).take 4 := by
  rw [getN_drop]
  exact le4_getN0 (bytesN_drop hb j) (by rw [List.length_drop]; omega)
theorem getN_lt {l : List Nat} (hb : bytesN l) (j : Nat) : getN l j < 4294967296 := by
  have h : ∀ i, l.getD i 0 < 256 := fun i => by
    by_cases hi : i < l.length
    · have e : l.getD i 0 = l[i] := by simp [List.getD, hi]
      rw [e]
      exact hb _ (List.getElem_mem hi)
    · have e : l.getD i 0 = 0 := by simp [List.getD, hi]
      omega
  have h1 := h j
  have h2 := h (j + 1)
  have h3 := h (j + 2)
  have h4 := h (j + 3)
  unfold getN
  omega
/-- The frame of a record. -/
def headN (r : List Nat) : List Nat := le4 r.length ++ r
def frameN (r : List Nat) : List Nat := headN r ++ le4 (crcMore 0 (headN r))
theorem headN_length (r : List Nat) : (headN r).length = r.length + 4 := by unfold headN; rw [List.length_append, le4_length]; omega
theorem frameN_length (r : List Nat) : (frameN r).length = r.length + 8 := by unfold frameN; rw [List.length_append, headN_length, le4_length]
theorem headN_lt {r : List Nat} (h : bytesN r) : bytesN (headN r) := bytesN_append (le4_lt _) h
theorem frameN_lt {r : List Nat} (h : bytesN r) : bytesN (frameN r) := bytesN_append (headN_lt h) (le4_lt _)
/-- The record of the frame that b begins with. -/
def firstN (b : List Nat) : Option (List Nat) :=
  if b.length < 4 then none
  else if 65536 < getN b 0 then none
  else if b.length < getN b 0 + 8 then none
  else if getN b (4 + getN b 0) = crcMore 0 (b.take (4 + getN b 0)) then some ((b.drop 4).take (getN b 0)) else none
theorem first_len {b r : List Nat} (h : firstN b = some r) : r.length = getN b 0 ∧ r.length + 8 ≤ b.length ∧ r.length ≤ 65536 ∧ r = (b.drop 4).take (getN b 0) ∧ getN b (4 + getN b 0) = crcMore 0 (b.take (4 + getN b 0)) := by
  unfold firstN at h
  split at h
  · cases h
  split at h
  · cases h
  split at h
  · cases h
  split at h
  · rename_i h1 h2 h3 h4
    cases h
    have : ((b.drop 4).take (getN b 0)).length = getN b 0 := by rw [List.length_take, List.length_drop]; omega
    exact ⟨this, by omega, by omega, rfl, h4⟩
  · cases h
theorem first_some {b r : List Nat} (hb : bytesN b) (h : firstN b = some r) : r.length ≤ 65536 ∧ frameN r <+: b := by
  obtain ⟨h1, h2, h3, h4, h5⟩ := first_len h
  refine ⟨h3, ?_⟩
  have e1 : b.take 4 = le4 r.length := by rw [h1, le4_getN0 hb (by omega)]
  have e2 : b.take (4 + r.length) = headN r := by
    rw [List.take_add, e1]
    unfold headN
    rw [h1, ← h4]
  have e3 : le4 (crcMore 0 (headN r)) = (b.drop (4 + r.length)).take 4 := by
    rw [← e2, h1, ← h5, le4_getN hb _ (by omega)]
  unfold frameN
  rw [e3, ← e2, ← List.take_add]
  exact List.take_prefix _ _
theorem headN_front (r t : List Nat) (h : r.length ≤ 65536) : getN (headN r ++ t) 0 = r.length := by
  unfold headN
  rw [List.append_assoc]
  exact getN_le4 _ (by omega) _
theorem first_frame (r t : List Nat) (hl : r.length ≤ 65536) : firstN (frameN r ++ t) = some r := by
  have e0 : frameN r ++ t = headN r ++ (le4 (crcMore 0 (headN r)) ++ t) := by unfold frameN; rw [List.append_assoc]
  have hlen : (frameN r ++ t).length = r.length + 8 + t.length := by rw [List.length_append, frameN_length]
  have g0 : getN (frameN r ++ t) 0 = r.length := by rw [e0, headN_front r _ hl]
  have g1 : getN (frameN r ++ t) (4 + r.length) = crcMore 0 (headN r) := by
    rw [getN_drop, e0, List.drop_left' (by rw [headN_length]; omega)]
    exact getN_le4 _ (crcMore_lt _ _) _
  have g2 : (frameN r ++ t).take (4 + r.length) = headN r := by rw [e0, List.take_left' (by rw [headN_length]; omega)]
  have g3 : ((frameN r ++ t).drop 4).take r.length = r := by
    rw [e0]
    unfold headN
    rw [List.append_assoc, List.drop_left' (le4_length _), List.take_left' rfl]
  unfold firstN
  rw [g0, g1, g2, g3, hlen, if_neg (by omega), if_neg (by omega), if_neg (by omega), if_pos rfl]
theorem frame_inj {r r' : List Nat} {b : List Nat} (h : r.length ≤ 65536) (h' : r'.length ≤ 65536) (hp : frameN r <+: b) (hp' : frameN r' <+: b) : r = r' := by
  obtain ⟨t, rfl⟩ := hp
  obtain ⟨t', e⟩ := hp'
  have h1 := first_frame r t h
  rw [← e, first_frame r' t' h'] at h1
  injection h1 with h1
  exact h1.symm
/-- The records of the frames at the front of b. -/
def parseN (b : List Nat) : List (List Nat) :=
  match h : firstN b with
  | none => []
  | some r => r :: parseN (b.drop (r.length + 8))
termination_by b.length
decreasing_by
  have := first_len h
  rw [List.length_drop]
  omega
theorem parse_none {b : List Nat} (h : firstN b = none) : parseN b = [] := by
  rw [parseN]
  split
  · rfl
  · rename_i r h2
    rw [h] at h2
    cases h2
theorem parse_some {b r : List Nat} (h : firstN b = some r) : parseN b = r :: parseN (b.drop (r.length + 8)) := by
  rw [parseN]
  split
  · rename_i h2
    rw [h] at h2
    cases h2
  · rename_i r' h2
    rw [h] at h2
    injection h2 with h2
    rw [h2]
def allN : List (List Nat) → List Nat
  | [] => []
  | r :: rs => frameN r ++ allN rs
theorem allN_append (a b : List (List Nat)) : allN (a ++ b) = allN a ++ allN b := by
  induction a with
  | nil => rfl
  | cons r a ih => show frameN r ++ allN (a ++ b) = frameN r ++ allN a ++ allN b; rw [ih, List.append_assoc]
theorem allN_snoc (a : List (List Nat)) (r : List Nat) : allN (a ++ [r]) = allN a ++ frameN r := by rw [allN_append]; show _ ++ (frameN r ++ []) = _; rw [List.append_nil]
theorem allN_lt {rs : List (List Nat)} (h : ∀ r ∈ rs, bytesN r) : bytesN (allN rs) := by
  induction rs with
  | nil => exact bytesN_nil
  | cons r rs ih => exact bytesN_append (frameN_lt (h r (by simp))) (ih fun x hx => h x (by simp [hx]))
def shortN (rs : List (List Nat)) : Prop := ∀ r ∈ rs, r.length ≤ 65536
theorem parse_all (rs : List (List Nat)) (h : shortN rs) (t : List Nat) : parseN (allN rs ++ t) = rs ++ parseN t := by
  induction rs with
  | nil => rfl
  | cons r rs ih =>
    show parseN (frameN r ++ allN rs ++ t) = r :: (rs ++ parseN t)
    rw [List.append_assoc, parse_some (first_frame r _ (h r (by simp))), List.drop_left' (frameN_length r), ih fun x hx => h x (by simp [hx])]
theorem first_small {t : List Nat} (h : t.length < 8) : firstN t = none := by
  cases e : firstN t with
  | none => rfl
  | some r => have := first_len e; omega
theorem parse_small {t : List Nat} (h : t.length < 8) : parseN t = [] := parse_none (first_small h)
theorem all_parse : ∀ (n : Nat) (b : List Nat), b.length ≤ n → bytesN b → allN (parseN b) <+: b ∧ shortN (parseN b) := by
  intro n
  induction n with
  | zero =>
    intro b hn hb
    rw [parse_small (by omega)]
    exact ⟨List.nil_prefix, fun r hr => by cases hr⟩
  | succ n ih =>
    intro b hn hb
    cases e : firstN b with
    | none =>
      rw [parse_none e]
      exact ⟨List.nil_prefix, fun r hr => by cases hr⟩
    | some r =>
      obtain ⟨h1, h2⟩ := first_some hb e
      have h3 := (first_len e).2.1
      obtain ⟨h4, h5⟩ := ih (b.drop (r.length + 8)) (by rw [List.length_drop]; omega) (bytesN_drop hb _)
      rw [parse_some e]
      refine ⟨?_, fun x hx => ?_⟩
      · obtain ⟨t, ht⟩ := h2
        show frameN r ++ allN (parseN (b.drop (r.length + 8))) <+: b
        rw [← ht, List.drop_left' (frameN_length r)] at h4 ⊢
        exact List.prefix_append_right_inj (frameN r) |>.2 h4
      · rcases List.mem_cons.1 hx with rfl | hx
        · exact h1
        · exact h5 x hx
theorem parse_lt {b : List Nat} (hb : bytesN b) : ∀ r ∈ parseN b, bytesN r := by
  have : ∀ (n : Nat) (b : List Nat), b.length ≤ n → bytesN b → ∀ r ∈ parseN b, bytesN r := by
    intro n
    induction n with
    | zero =>
      intro b hn hb r hr
      rw [parse_small (by omega)] at hr
      cases hr
    | succ n ih =>
      intro b hn hb r hr
      cases e : firstN b with
      | none => rw [parse_none e] at hr; cases hr
      | some x =>
        have h := first_len e
        rw [parse_some e] at hr
        rcases List.mem_cons.1 hr with rfl | hr
        · rw [h.2.2.2.1]
          exact bytesN_take (bytesN_drop hb _) _
        · exact ih _ (by rw [List.length_drop]; omega) (bytesN_drop hb _) r hr
  exact this _ b (Nat.le_refl _) hb
/-- Frames cut anywhere are a beginning of these. -/
theorem parse_cut : ∀ (l : List (List Nat)), shortN l → (∀ r ∈ l, bytesN r) → ∀ k, k < (allN l).length → parseN ((allN l).take k) <+: l ∧ (parseN ((allN l).take k)).length < l.length
  | [], _, _, k, hk => absurd hk (by simp [allN])
  | r :: l, hs, hb, k, hk => by
    cases e : firstN ((allN (r :: l)).take k) with
    | none =>
      rw [parse_none e]
      exact ⟨List.nil_prefix, by simp⟩
    | some r' =>
      have hbb : bytesN (allN (r :: l)) := allN_lt hb
      obtain ⟨h1, h2⟩ := first_some (bytesN_take hbb k) e
      have hr : r' = r := frame_inj (b := allN (r :: l)) h1 (hs r (by simp)) (h2.trans (List.take_prefix _ _)) (List.prefix_append _ _)
      subst hr
      have h3 := (first_len e).2.1
      rw [List.length_take] at h3
      have e2 : ((allN (r' :: l)).take k).drop (r'.length + 8) = (allN l).take (k - (r'.length + 8)) := by
        rw [List.drop_take]
        show ((frameN r' ++ allN l).drop (r'.length + 8)).take _ = _
        rw [List.drop_left' (frameN_length r')]
      have hk2 : k < r'.length + 8 + (allN l).length := by
        have : (allN (r' :: l)).length = r'.length + 8 + (allN l).length := by show (frameN r' ++ allN l).length = _; rw [List.length_append, frameN_length]
        omega
      rw [parse_some e, e2]
      obtain ⟨i1, i2⟩ := parse_cut l (fun x hx => hs x (by simp [hx])) (fun x hx => hb x (by simp [hx])) (k - (r'.length + 8)) (by omega)
      exact ⟨List.cons_prefix_cons.2 ⟨rfl, i1⟩, by simpa using i2⟩
/-- The CRC of bytes with their CRC behind them is always the same. -/
theorem bit_le4 (s i : Nat) (h : i < 32) : (bitAt (le4 s) i = 1) ↔ s.testBit i = true := by
  unfold bitAt
  rw [bit_is]
  have hd : ∀ j t, t < 8 → (s / 2 ^ (8 * j) % 256).testBit t = s.testBit (8 * j + t) := fun j t ht => by
    rw [show (256 : Nat) = 2 ^ 8 from rfl, Nat.testBit_mod_two_pow, Nat.testBit_div_two_pow]
    simp [ht, Nat.add_comm]
  have hc : i / 8 = 0 ∨ i / 8 = 1 ∨ i / 8 = 2 ∨ i / 8 = 3 := by omega
  have ht : i % 8 < 8 := by omega
  have key : ((le4 s).getD (i / 8) 0).testBit (i % 8) = s.testBit i := by
    rcases hc with h0 | h0 | h0 | h0 <;> rw [h0]
    · have := hd 0 (i % 8) ht
      rw [show 8 * 0 + i % 8 = i from by omega] at this
      rw [← this]
      simp [le4]
    · have := hd 1 (i % 8) ht
      rw [show 8 * 1 + i % 8 = i from by omega] at this
      rw [← this]
      simp [le4]
    · have := hd 2 (i % 8) ht
      rw [show 8 * 2 + i % 8 = i from by omega] at this
      rw [← this]
      simp [le4]
    · have := hd 3 (i % 8) ht
      rw [show 8 * 3 + i % 8 = i from by omega] at this
      rw [← this]
      simp [le4]
  rw [key]
  cases s.testBit i <;> simp
theorem wnd_le4 (s : Nat) (hs : s < 4294967296) : wnd (bitAt (le4 s)) 0 32 = s := by
  apply Nat.eq_of_testBit_eq
  intro i
  rw [wnd_bit _ _ (bitAt_lt _), Nat.zero_add]
  by_cases h : i < 32
  · have := bit_le4 s i h
    cases e : s.testBit i with
    | true => simp [h, this.2 e]
    | false =>
      have : ¬ bitAt (le4 s) i = 1 := fun e2 => by rw [this.1 e2] at e; cases e
      simp [this]
  · have h2 : s < 2 ^ i := Nat.lt_of_lt_of_le hs (show (4294967296 : Nat) ≤ 2 ^ i from Nat.pow_le_pow_right (n := 2) (by decide) (show 32 ≤ i by omega))
    rw [Nat.testBit_lt_two_pow h2]
    simp [h]
theorem notN_xor (s : Nat) (hs : s < 4294967296) : notN s ^^^ s = 4294967295 := by
  apply Nat.eq_of_testBit_eq
  intro i
  have e : notN s = 2 ^ 32 - (s + 1) := by unfold notN; omega
  rw [Nat.testBit_xor, e, Nat.testBit_two_pow_sub_succ hs, show (4294967295 : Nat) = 2 ^ 32 - (0 + 1) from rfl, Nat.testBit_two_pow_sub_succ (by decide)]
  by_cases h : i < 32
  · simp [h]
  · have h2 : s < 2 ^ i := Nat.lt_of_lt_of_le hs (show (4294967296 : Nat) ≤ 2 ^ i from Nat.pow_le_pow_right (n := 2) (by decide) (show 32 ≤ i by omega))
    rw [Nat.testBit_lt_two_pow h2]
    simp [h]
theorem crc_whole (m : List Nat) : crcMore 0 (m ++ le4 (crcMore 0 m)) = notN (iter 4294967295 32) := by
  have hs := crcMore_lt 0 m
  rw [← crcMore_append]
  generalize crcMore 0 m = s at *
  unfold crcMore
  have h := crcFold_bits (notN s) (le4 s) 4 (Nat.le_refl _)
  rw [show (le4 s).take 4 = le4 s from rfl] at h
  rw [h, show 8 * 4 = 0 + 32 from rfl, feedF_wnd, wnd_le4 s hs]
  show notN (iter (notN s ^^^ s) 32) = _
  rw [notN_xor s hs]
theorem turnL_front (l : List Nat) (s p : Nat) (hs : 32 ≤ s) : ∀ i, (turnL l s p i).take 4 = l.take 4
  | 0 => rfl
  | i + 1 => by
    rw [turnL]
    split
    · unfold turnB
      rw [List.take_set_of_le (by omega), turnL_front l s p hs i]
    · exact turnL_front l s p hs i
theorem first_turned (r t : List Nat) (hr : bytesN r) (ht : bytesN t) (hl : r.length ≤ 65536) (q p i : Nat) (hi : i ≤ 32) (hq : 32 + q + i ≤ 8 * (r.length + 8)) (hp : turned p i = true) : firstN (turnL (frameN r) (32 + q) p i ++ t) = none := by
  obtain ⟨F, hF⟩ : ∃ F, turnL (frameN r) (32 + q) p i = F := ⟨_, rfl⟩
  have hFl : F.length = r.length + 8 := by rw [← hF, turnL_length, frameN_length]
  have hFb : bytesN F := by rw [← hF]; exact turnL_lt _ _ _ (frameN_lt hr) i
  have hF4 : F.take 4 = le4 r.length := by
    rw [← hF, turnL_front _ _ _ (by omega)]
    unfold frameN headN
    rw [List.append_assoc, List.take_left' (le4_length _)]
  rw [hF]
  cases e : firstN (F ++ t) with
  | none => rfl
  | some r' =>
    exfalso
    obtain ⟨h1, h2⟩ := first_some (bytesN_append hFb ht) e
    have h3 := (first_len e).1
    have h4 : getN (F ++ t) 0 = r.length := by
      have : F = le4 r.length ++ F.drop 4 := by rw [← hF4, List.take_append_drop]
      rw [this, List.append_assoc]
      exact getN_le4 _ (by omega) _
    have h5 : frameN r' = F := by
      obtain ⟨u, hu⟩ := h2
      have hlen : (frameN r').length = F.length := by rw [frameN_length, hFl]; omega
      exact (List.append_inj hu hlen).1
    have k1 : crcMore 0 F = notN (iter 4294967295 32) := by rw [← h5]; exact crc_whole _
    have k2 : crcMore 0 (frameN r) = notN (iter 4294967295 32) := crc_whole _
    have := crc_turned (frameN r) (32 + q) p i hi (by rw [frameN_length]; omega) hp
    rw [hF] at this
    exact this (k1.trans k2.symm)
end Go.Proofs.Ytjcknjadapbooaa
