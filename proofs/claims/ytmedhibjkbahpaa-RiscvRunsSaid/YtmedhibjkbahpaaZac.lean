/-
  What layer 7 says of bytes: gaps, tokens, places, over lists of bytes. Plain mathematics. No program in sight.
-/
import Derived.Test.YtmedhibjkbahpaaZab
import Derived.Lib.Index
namespace Go.Proofs.Ytmedhibjkbahpaa
open Go.Lib
set_option linter.unusedVariables false

def blankB (c : UInt8) : Bool := c.toNat == 32 || c.toNat == 9 || c.toNat == 10 || c.toNat == 13
def letterB (c : UInt8) : Bool := decide (97 ≤ c.toNat ∧ c.toNat ≤ 122) || decide (65 ≤ c.toNat ∧ c.toNat ≤ 90) || c.toNat == 95
def digitB (c : UInt8) : Bool := decide (48 ≤ c.toNat ∧ c.toNat ≤ 57)
def alnumB (c : UInt8) : Bool := letterB c || digitB c
/-- How many letters and digits are at the front. -/
def runN : List UInt8 → Nat
  | [] => 0
  | c :: r => if alnumB c then runN r + 1 else 0
def wordsL : List (List UInt8) := [[105, 110, 116], [105, 102], [101, 108, 115, 101], [119, 104, 105, 108, 101], [98, 114, 101, 97, 107], [99, 111, 110, 116, 105, 110, 117, 101], [114, 101, 116, 117, 114, 110], [112, 114, 105, 110, 116], [114, 101, 97, 100]]
def wordB (l : List UInt8) : Bool := decide (l ∈ wordsL)
def nameB (l : List UInt8) : Bool := decide (l ≠ []) && decide (l.length ≤ 64) && letterB (l.headD 0) && decide (runN l = l.length) && !wordB l
/-- How many bytes are ahead of the first line end. -/
def lineN : List UInt8 → Nat
  | [] => 0
  | c :: r => if c.toNat = 10 then 0 else lineN r + 1
/-- Where the first end of a comment is. -/
def closeN : List UInt8 → Option Nat
  | [] => none
  | c :: r => if [42, 47].isPrefixOf (c :: r) then some 0 else (closeN r).map (· + 1)
/-- The blank or the comment at the front: how many bytes, and whether it ends. -/
def gapN (l : List UInt8) : Nat × Bool :=
  if l = [] then (0, true)
  else if blankB (l.headD 0) then (1, true)
  else if [47, 47].isPrefixOf l then (lineN l, true)
  else if [47, 42].isPrefixOf l then match closeN (l.drop 2) with | some k => (k + 4, true) | none => (l.length, false)
  else (0, true)
def skipF : Nat → List UInt8 → Nat × Bool
  | 0, _ => (0, true)
  | f + 1, l => if (gapN l).1 = 0 ∨ (gapN l).2 = false then gapN l else ((gapN l).1 + (skipF f (l.drop (gapN l).1)).1, (skipF f (l.drop (gapN l).1)).2)
def skipN (l : List UInt8) : Nat × Bool := skipF (l.length + 1) l
/-- The sign at the front: how many bytes. -/
def signN (l : List UInt8) : Nat :=
  let a := (l.getD 0 0).toNat
  let b := (l.getD 1 0).toNat
  if a = 60 ∨ a = 62 then (if b = a ∨ b = 61 then 2 else 1)
  else if a = 61 ∨ a = 33 then (if b = 61 then 2 else 1)
  else if a = 38 ∨ a = 124 then (if b = a then 2 else 1)
  else if a ∈ [43, 45, 42, 47, 37, 94, 126, 40, 41, 123, 125, 91, 93, 44, 59] then 1 else 0
/-- A number's text. -/
def numB (l : List UInt8) : Bool := l.all digitB && (decide (l.length = 1) || decide (l.headD 0 ≠ 48)) && decide (decVal l ≤ 2147483647)
structure Cut where
  err : Nat
  kind : Nat
  len : Nat
  num : Nat
  deriving DecidableEq, Repr
/-- The token at the front, or what is wrong. -/
def cutLx (l : List UInt8) : Cut :=
  if letterB (l.headD 0) then (if 64 < runN l then ⟨2, 0, 0, 0⟩ else if wordB (l.take (runN l)) then ⟨0, 3, runN l, 0⟩ else ⟨0, 1, runN l, 0⟩)
  else if digitB (l.headD 0) then (if numB (l.take (runN l)) then ⟨0, 2, runN l, decVal (l.take (runN l))⟩ else ⟨11, 0, 0, 0⟩)
  else if signN l = 0 then ⟨10, 0, 0, 0⟩ else ⟨0, 4, signN l, 0⟩
structure Tok where
  kind : Nat
  txt : List UInt8
  num : Nat
  off : Nat
  deriving DecidableEq, Repr
inductive Res where
  | ok (ts : List Tok)
  | bad (e off : Nat)
  deriving DecidableEq, Repr
def Res.pre (us : List Tok) : Res → Res
  | .ok ts => .ok (us ++ ts)
  | .bad e o => .bad e o
theorem Res.pre_pre (us vs : List Tok) (r : Res) : (r.pre vs).pre us = r.pre (us ++ vs) := by cases r <;> simp [Res.pre]
theorem Res.pre_nil (r : Res) : r.pre [] = r := by cases r <;> simp [Res.pre]
def allF : Nat → List UInt8 → Nat → Res
  | 0, _, _ => .ok []
  | f + 1, l, o =>
    if (skipN l).2 = false then .bad 12 (o + (skipN l).1)
    else if l.drop (skipN l).1 = [] then .ok []
    else if (cutLx (l.drop (skipN l).1)).err ≠ 0 then .bad (cutLx (l.drop (skipN l).1)).err (o + (skipN l).1)
    else (allF f (l.drop ((skipN l).1 + (cutLx (l.drop (skipN l).1)).len)) (o + (skipN l).1 + (cutLx (l.drop (skipN l).1)).len)).pre
      [⟨(cutLx (l.drop (skipN l).1)).kind, (l.drop (skipN l).1).take (cutLx (l.drop (skipN l).1)).len, (cutLx (l.drop (skipN l).1)).num, o + (skipN l).1⟩]
/-- From a place on. -/
def allAt (l : List UInt8) (o : Nat) : Res := allF (l.length + 1) l o
/-- What All answers of a text. -/
def allN (l : List UInt8) : Res := if 65536 < l.length then .bad 2 0 else allAt l 0

theorem runN_le (l : List UInt8) : runN l ≤ l.length := by
  induction l with
  | nil => exact Nat.le_refl _
  | cons c r ih => unfold runN; split <;> simp <;> omega
theorem runN_pos (l : List UInt8) (h : l ≠ []) (ha : alnumB (l.headD 0) = true) : 1 ≤ runN l := by
  cases l with
  | nil => exact absurd rfl h
  | cons c r => unfold runN; rw [if_pos (by simpa using ha)]; omega
theorem runN_of (l : List UInt8) : ∀ k, k ≤ l.length → (∀ c ∈ l.take k, alnumB c = true) → (k = l.length ∨ alnumB (l.getD k 0) = false) → runN l = k := by
  induction l with
  | nil => intro k hk _ _; simp at hk; subst hk; rfl
  | cons c r ih =>
    intro k hk h1 h2
    unfold runN
    cases k with
    | zero =>
      rcases h2 with h2 | h2
      · simp at h2
      · simp at h2; rw [if_neg (by simp [h2])]
    | succ k =>
      rw [if_pos (h1 c (by simp)), ih k (by simpa using hk) (fun x hx => h1 x (by simp [hx])) (by rcases h2 with h2 | h2; left; simpa using h2; right; simpa using h2)]
theorem runN_all (l : List UInt8) : ∀ c ∈ l.take (runN l), alnumB c = true := by
  induction l with
  | nil => intro c hc; simp [runN] at hc
  | cons c r ih =>
    intro x hx
    by_cases h : alnumB c = true
    · rw [runN, if_pos h, List.take_succ_cons, List.mem_cons] at hx
      rcases hx with rfl | hx
      · exact h
      · exact ih x hx
    · rw [runN, if_neg h] at hx; simp at hx
theorem lineN_le (l : List UInt8) : lineN l ≤ l.length := by
  induction l with
  | nil => exact Nat.le_refl _
  | cons c r ih => unfold lineN; split <;> simp <;> omega
theorem lineN_of (l : List UInt8) : ∀ k, k ≤ l.length → (∀ c ∈ l.take k, c.toNat ≠ 10) → (k = l.length ∨ (l.getD k 0).toNat = 10) → lineN l = k := by
  induction l with
  | nil => intro k hk _ _; simp at hk; subst hk; rfl
  | cons c r ih =>
    intro k hk h1 h2
    unfold lineN
    cases k with
    | zero =>
      rcases h2 with h2 | h2
      · simp at h2
      · simp at h2; rw [if_pos h2]
    | succ k =>
      rw [if_neg (h1 c (by simp)), ih k (by simpa using hk) (fun x hx => h1 x (by simp [hx])) (by rcases h2 with h2 | h2; left; simpa using h2; right; simpa using h2)]
theorem closeN_le (l : List UInt8) : ∀ k, closeN l = some k → k + 2 ≤ l.length := by
  induction l with
  | nil => intro k h; cases h
  | cons c r ih =>
    intro k h
    unfold closeN at h
    split at h
    · rename_i hp
      cases h
      cases r with
      | nil => simp at hp
      | cons d r => simp
    · obtain ⟨j, hj, rfl⟩ := Option.map_eq_some_iff.1 h
      have := ih j hj
      simp; omega
theorem gapN_le (l : List UInt8) : (gapN l).1 ≤ l.length := by
  unfold gapN
  split
  · simp
  · rename_i h0
    have := List.length_pos_iff.2 h0
    split
    · exact this
    · split
      · exact lineN_le l
      · split
        · split
          · rename_i k hk
            have := closeN_le _ _ hk
            rw [List.length_drop] at this
            show k + 4 ≤ _
            omega
          · exact Nat.le_refl _
        · simp
theorem gapN_bad (l : List UInt8) (h : (gapN l).2 = false) : (gapN l).1 = l.length := by
  unfold gapN at h ⊢
  split <;> rename_i h0
  · rw [if_pos h0] at h; cases h
  · rw [if_neg h0] at h
    split <;> rename_i h1
    · rw [if_pos h1] at h; cases h
    · rw [if_neg h1] at h
      split <;> rename_i h2
      · rw [if_pos h2] at h; cases h
      · rw [if_neg h2] at h
        split <;> rename_i h3
        · rw [if_pos h3] at h
          cases hk : closeN (l.drop 2) with
          | none => rfl
          | some k => rw [hk] at h; cases h
        · rw [if_neg h3] at h; cases h
theorem skipF_le (f : Nat) : ∀ l : List UInt8, (skipF f l).1 ≤ l.length := by
  induction f with
  | zero => intro l; exact Nat.zero_le _
  | succ f ih =>
    intro l
    have := gapN_le l
    unfold skipF
    split
    · exact this
    · have h2 := ih (l.drop (gapN l).1)
      rw [List.length_drop] at h2
      show (gapN l).1 + _ ≤ _
      omega
theorem skipN_le (l : List UInt8) : (skipN l).1 ≤ l.length := skipF_le _ l
theorem skipF_fuel : ∀ (f g : Nat) (l : List UInt8), l.length < f → l.length < g → skipF f l = skipF g l := by
  intro f
  induction f with
  | zero => intro g l h; omega
  | succ f ih =>
    intro g l h1 h2
    cases g with
    | zero => omega
    | succ g =>
      unfold skipF
      by_cases hc : (gapN l).1 = 0 ∨ (gapN l).2 = false
      · rw [if_pos hc, if_pos hc]
      · rw [if_neg hc, if_neg hc]
        have h0 : (gapN l).1 ≠ 0 := fun e => hc (.inl e)
        have hl := gapN_le l
        rw [ih g (l.drop (gapN l).1) (by rw [List.length_drop]; omega) (by rw [List.length_drop]; omega)]
/-- One gap, and the rest. -/
theorem skipN_eq (l : List UInt8) : skipN l = if (gapN l).1 = 0 ∨ (gapN l).2 = false then gapN l else ((gapN l).1 + (skipN (l.drop (gapN l).1)).1, (skipN (l.drop (gapN l).1)).2) := by
  conv => lhs; unfold skipN skipF
  by_cases hc : (gapN l).1 = 0 ∨ (gapN l).2 = false
  · rw [if_pos hc, if_pos hc]
  · rw [if_neg hc, if_neg hc]
    have h0 : (gapN l).1 ≠ 0 := fun e => hc (.inl e)
    have hl := gapN_le l
    unfold skipN
    rw [skipF_fuel l.length ((l.drop (gapN l).1).length + 1) (l.drop (gapN l).1) (by rw [List.length_drop]; omega) (by omega)]
theorem skipN_stop (l : List UInt8) (h : (gapN l).1 = 0 ∨ (gapN l).2 = false) : skipN l = gapN l := by rw [skipN_eq, if_pos h]
theorem skipN_go (l : List UInt8) (h0 : (gapN l).1 ≠ 0) (h : (gapN l).2 = true) : skipN l = ((gapN l).1 + (skipN (l.drop (gapN l).1)).1, (skipN (l.drop (gapN l).1)).2) := by
  rw [skipN_eq, if_neg (by rw [h]; simp [h0])]
theorem skipF_bad (f : Nat) : ∀ l : List UInt8, (skipF f l).2 = false → (skipF f l).1 = l.length := by
  induction f with
  | zero => intro l h; cases h
  | succ f ih =>
    intro l h
    unfold skipF at h ⊢
    split at h <;> rename_i hc
    · rw [if_pos hc]; exact gapN_bad l h
    · rw [if_neg hc]
      have := ih _ h
      have hl := gapN_le l
      show (gapN l).1 + _ = _
      rw [this, List.length_drop]
      omega
theorem skipN_bad (l : List UInt8) (h : (skipN l).2 = false) : (skipN l).1 = l.length := skipF_bad _ l h
theorem signN_le (l : List UInt8) : signN l ≤ 2 := by
  unfold signN
  simp only
  repeat' split
  all_goals omega
theorem signN_len (l : List UInt8) : signN l ≤ l.length := by
  match l with
  | [] => decide
  | [c] =>
    unfold signN
    simp only [List.getD_cons_zero, List.getD_cons_succ, List.getD_nil, List.length_cons, List.length_nil]
    have : (0 : UInt8).toNat = 0 := rfl
    rw [this]
    repeat' split
    all_goals omega
  | c :: d :: r => have := signN_le (c :: d :: r); simp; omega
theorem cutN_len (l : List UInt8) (h : l ≠ []) (he : (cutLx l).err = 0) : 1 ≤ (cutLx l).len ∧ (cutLx l).len ≤ l.length := by
  have h1 := runN_le l
  unfold cutLx at he ⊢
  by_cases hL : letterB (l.headD 0) = true
  · rw [if_pos hL] at he ⊢
    have h2 := runN_pos l h (by unfold alnumB; rw [hL]; rfl)
    by_cases h64 : 64 < runN l
    · rw [if_pos h64] at he; cases he
    · rw [if_neg h64] at he ⊢
      split <;> exact ⟨h2, h1⟩
  · rw [if_neg hL] at he ⊢
    by_cases hD : digitB (l.headD 0) = true
    · rw [if_pos hD] at he ⊢
      have h2 := runN_pos l h (by unfold alnumB; rw [hD]; simp)
      by_cases hn : numB (l.take (runN l)) = true
      · rw [if_pos hn]; exact ⟨h2, h1⟩
      · rw [if_neg hn] at he; cases he
    · rw [if_neg hD] at he ⊢
      by_cases hs : signN l = 0
      · rw [if_pos hs] at he; cases he
      · rw [if_neg hs]
        exact ⟨by show 1 ≤ signN l; omega, signN_len l⟩
theorem allF_fuel : ∀ (f g : Nat) (l : List UInt8) (o : Nat), l.length < f → l.length < g → allF f l o = allF g l o := by
  intro f
  induction f with
  | zero => intro g l o h; omega
  | succ f ih =>
    intro g l o h1 h2
    cases g with
    | zero => omega
    | succ g =>
      unfold allF
      by_cases c1 : (skipN l).2 = false
      · rw [if_pos c1, if_pos c1]
      · rw [if_neg c1, if_neg c1]
        by_cases c2 : l.drop (skipN l).1 = []
        · rw [if_pos c2, if_pos c2]
        · rw [if_neg c2, if_neg c2]
          by_cases c3 : (cutLx (l.drop (skipN l).1)).err ≠ 0
          · rw [if_pos c3, if_pos c3]
          · rw [if_neg c3, if_neg c3]
            have h3 := cutN_len _ c2 (by simpa using c3)
            rw [List.length_drop] at h3
            rw [ih g _ _ (by rw [List.length_drop]; omega) (by rw [List.length_drop]; omega)]
theorem allAt_bad (l : List UInt8) (o : Nat) (h : (skipN l).2 = false) : allAt l o = .bad 12 (o + l.length) := by
  unfold allAt allF
  rw [if_pos h, skipN_bad l h]
theorem allAt_end (l : List UInt8) (o : Nat) (h : (skipN l).2 = true) (hd : (skipN l).1 = l.length) : allAt l o = .ok [] := by
  unfold allAt allF
  rw [if_neg (by simp [h]), if_pos (by rw [hd]; exact List.drop_length ..)]
theorem allAt_err (l : List UInt8) (o : Nat) (h : (skipN l).2 = true) (hd : (skipN l).1 < l.length) (he : (cutLx (l.drop (skipN l).1)).err ≠ 0) : allAt l o = .bad (cutLx (l.drop (skipN l).1)).err (o + (skipN l).1) := by
  unfold allAt allF
  rw [if_neg (by simp [h]), if_neg (fun e => by have := congrArg List.length e; simp at this; omega), if_pos he]
theorem allAt_tok (l : List UInt8) (o : Nat) (h : (skipN l).2 = true) (hd : (skipN l).1 < l.length) (he : (cutLx (l.drop (skipN l).1)).err = 0) :
    allAt l o = (allAt (l.drop ((skipN l).1 + (cutLx (l.drop (skipN l).1)).len)) (o + (skipN l).1 + (cutLx (l.drop (skipN l).1)).len)).pre
      [⟨(cutLx (l.drop (skipN l).1)).kind, (l.drop (skipN l).1).take (cutLx (l.drop (skipN l).1)).len, (cutLx (l.drop (skipN l).1)).num, o + (skipN l).1⟩] := by
  have hne : l.drop (skipN l).1 ≠ [] := fun e => by have := congrArg List.length e; simp at this; omega
  have h3 := cutN_len _ hne he
  rw [List.length_drop] at h3
  conv => lhs; unfold allAt allF
  rw [if_neg (by simp [h]), if_neg hne, if_neg (by simp [he])]
  unfold allAt
  rw [allF_fuel l.length _ _ _ (by rw [List.length_drop]; omega) (Nat.lt_succ_self _)]

/-- Lines and columns. -/
def lineOf (l : List UInt8) : Nat := 1 + l.countP (fun c => c.toNat == 10)
def colOf (l : List UInt8) : Nat := 1 + lineN l.reverse
theorem lineOf_snoc (l : List UInt8) (c : UInt8) : lineOf (l ++ [c]) = if c.toNat = 10 then lineOf l + 1 else lineOf l := by
  unfold lineOf
  rw [List.countP_append]
  by_cases h : c.toNat = 10
  · rw [if_pos h]; simp [h]; omega
  · rw [if_neg h]; simp [h]
theorem colOf_snoc (l : List UInt8) (c : UInt8) : colOf (l ++ [c]) = if c.toNat = 10 then 1 else colOf l + 1 := by
  unfold colOf
  rw [List.reverse_append]
  show 1 + lineN (c :: l.reverse) = _
  rw [lineN]
  split <;> omega
theorem lineOf_le (l : List UInt8) : 1 ≤ lineOf l ∧ lineOf l ≤ l.length + 1 := by
  have := List.countP_le_length (p := fun c : UInt8 => c.toNat == 10) (l := l)
  unfold lineOf; omega
theorem colOf_le (l : List UInt8) : 1 ≤ colOf l ∧ colOf l ≤ l.length + 1 := by
  have := lineN_le l.reverse
  rw [List.length_reverse] at this
  unfold colOf; omega
/-- What the library's searches find. -/
theorem index_close (l : List UInt8) : index l [42, 47] = match closeN l with | some k => (k : Int) | none => -1 := by
  induction l with
  | nil => rfl
  | cons c r ih =>
    have e1 : index (c :: r) [42, 47] = if [42, 47].isPrefixOf (c :: r) then 0 else if index r [42, 47] == -1 then -1 else index r [42, 47] + 1 := rfl
    have e2 : closeN (c :: r) = if [42, 47].isPrefixOf (c :: r) then some 0 else (closeN r).map (· + 1) := rfl
    rw [e1, e2, ih]
    by_cases h : [42, 47].isPrefixOf (c :: r) = true
    · rw [if_pos h, if_pos h]; rfl
    · rw [if_neg h, if_neg h]
      cases closeN r with
      | none => rfl
      | some k =>
        show (if ((k : Int) == -1) = true then (-1 : Int) else (k : Int) + 1) = ((k + 1 : Nat) : Int)
        have : ((k : Int) == -1) = false := by rw [beq_eq_false_iff_ne]; omega
        rw [this]
        simp
theorem indexByte_line (l : List UInt8) : indexByte l 10 = if lineN l < l.length then (lineN l : Int) else -1 := by
  induction l with
  | nil => rfl
  | cons c r ih =>
    have e1 : indexByte (c :: r) 10 = if c == 10 then 0 else if indexByte r 10 == -1 then -1 else indexByte r 10 + 1 := rfl
    have e2 : lineN (c :: r) = if c.toNat = 10 then 0 else lineN r + 1 := rfl
    rw [e1, e2]
    by_cases h : c.toNat = 10
    · have : c = 10 := UInt8.toNat_inj.1 h
      subst this
      rfl
    · have hc : (c == 10) = false := by
        rw [beq_eq_false_iff_ne]
        exact fun e => h (by rw [e]; rfl)
      rw [hc, if_neg (show ¬ (false = true) by simp), if_neg h, ih, List.length_cons]
      by_cases h2 : lineN r < r.length
      · have : ((lineN r : Int) == -1) = false := by rw [beq_eq_false_iff_ne]; omega
        rw [if_pos h2, this, if_neg (show ¬ (false = true) by simp), if_pos (by omega)]
        simp
      · rw [if_neg h2, if_neg (show ¬ (lineN r + 1 < r.length + 1) by omega)]
        rfl
theorem alnum_digit {c : UInt8} (h : digitB c = true) : digitOk c := by simpa [digitB, digitOk] using h
/-- The library's ParseInt of letters and digits that begin with a digit. -/
def valF (acc : Nat) (l : List UInt8) : Nat := l.foldl (fun a c => a * 10 + (c.toNat - 48)) acc
theorem valF_ge (l : List UInt8) : ∀ a, a ≤ valF a l := by
  induction l with
  | nil => intro a; exact Nat.le_refl _
  | cons c r ih => intro a; exact Nat.le_trans (by omega) (ih (a * 10 + (c.toNat - 48)))
theorem parse_digits (M : Nat) (hM : M < 1844674407370955161) (l : List UInt8) (h : ∀ c ∈ l, digitOk c) : ∀ acc, acc ≤ M → (valF acc l ≤ M → parseUintM M acc l = .ok (valF acc l)) ∧ (M < valF acc l → parseUintM M acc l = .range) := by
  induction l with
  | nil => intro acc ha; exact ⟨fun _ => rfl, fun hx => absurd hx (Nat.not_lt.2 ha)⟩
  | cons c r ih =>
    intro acc ha
    have hc : 48 ≤ c.toNat ∧ c.toNat ≤ 57 := h c (by simp)
    have e : valF acc (c :: r) = valF (acc * 10 + (c.toNat - 48)) r := rfl
    rw [e]
    simp only [parseUintM]
    rw [if_pos hc, if_neg (by omega)]
    have mono := valF_ge r (acc * 10 + (c.toNat - 48))
    by_cases h2 : M < acc * 10 + (c.toNat - 48)
    · rw [if_pos h2]
      exact ⟨fun hx => by omega, fun _ => rfl⟩
    · rw [if_neg h2]
      exact ih (fun x hx => h x (by simp [hx])) _ (by omega)
theorem parse_nodigit (M : Nat) (l : List UInt8) (h : ¬ ∀ c ∈ l, digitOk c) : ∀ acc, (∀ v, parseUintM M acc l ≠ .ok v) := by
  induction l with
  | nil => exact absurd (fun c hc => by cases hc) h
  | cons c r ih =>
    intro acc v
    simp only [parseUintM]
    by_cases hc : 48 ≤ c.toNat ∧ c.toNat ≤ 57
    · rw [if_pos hc]
      have hr : ¬ ∀ c ∈ r, digitOk c := fun hr => h (fun x hx => by
        rcases List.mem_cons.1 hx with rfl | hx
        · exact hc
        · exact hr x hx)
      split
      · simp
      · split
        · simp
        · exact ih hr _ v
    · rw [if_neg hc]; simp
theorem num_three {α : Type} (r : NumEnd α) : (∃ v, r = .ok v) ∨ r = Lib.NumEnd.syntax ∨ r = .range := by cases r <;> simp
theorem parseIntB_num (l : List UInt8) (hne : l ≠ []) (h0 : digitB (l.headD 0) = true) :
    (∀ v, parseIntB 32 l = .ok v → (∀ c ∈ l, digitOk c) ∧ decVal l ≤ 2147483647 ∧ v = (decVal l : Int)) ∧ ((∀ c ∈ l, digitOk c) → decVal l ≤ 2147483647 → parseIntB 32 l = .ok (decVal l : Int)) := by
  obtain ⟨c, r, rfl⟩ := List.exists_cons_of_ne_nil hne
  have hc : 48 ≤ c.toNat ∧ c.toNat ≤ 57 := by simpa [digitB] using h0
  have hs : ¬ (c.toNat = 43 ∨ c.toNat = 45) := by omega
  have hn : ¬ (c.toNat = 45) := by omega
  have hp : parseIntB 32 (c :: r) = match parseUintM (2 ^ 32 - 1) 0 (c :: r) with | .ok u => if 2 ^ 31 ≤ u then .range else .ok (u : Int) | .range => .range | _ => Lib.NumEnd.syntax := by
    simp only [parseIntB]
    rw [if_neg hs]
    unfold parseUintB
    rw [if_neg (by simp)]
    cases parseUintM (2 ^ 32 - 1) 0 (c :: r) with
    | ok u => simp [hn]
    | _ => rfl
  by_cases hd : ∀ x ∈ c :: r, digitOk x
  · obtain ⟨p1, p2⟩ := parse_digits (2 ^ 32 - 1) (by decide) (c :: r) hd 0 (by decide)
    rw [show valF 0 (c :: r) = decVal (c :: r) from rfl] at p1 p2
    rw [hp]
    by_cases hv : decVal (c :: r) ≤ 2147483647
    · rw [p1 (by omega)]
      simp only
      rw [if_neg (by omega)]
      exact ⟨fun v h => ⟨hd, hv, by cases h; rfl⟩, fun _ _ => rfl⟩
    · refine ⟨fun v h => ?_, fun _ h => absurd h hv⟩
      exfalso
      by_cases h2 : decVal (c :: r) ≤ 2 ^ 32 - 1
      · rw [p1 h2] at h
        simp only at h
        rw [if_pos (by omega)] at h
        cases h
      · rw [p2 (by omega)] at h; cases h
  · refine ⟨fun v h => ?_, fun h => absurd h hd⟩
    exfalso
    have := parse_nodigit (2 ^ 32 - 1) (c :: r) hd 0
    rw [hp] at h
    cases hq : parseUintM (2 ^ 32 - 1) 0 (c :: r) with
    | ok u => exact this u hq
    | _ => rw [hq] at h; cases h
end Go.Proofs.Ytmedhibjkbahpaa
