/-
  Plain lemmas on decimal texts: what the library's numeral of a number is, how it is read back, and which texts are numerals. No program in sight.
-/
import Derived.Lib.ParseIntB
import Derived.Lib.ParseIntBTie
import Derived.Lib.ItoaMem
import Derived.Lib.ItoaLen
namespace Go.Proofs.Ytmedhibjkbahpaa
open Go.Lib

def digitOk (c : UInt8) : Prop := 48 ≤ c.toNat ∧ c.toNat ≤ 57
def decVal (l : List UInt8) : Nat := l.foldl (fun a c => a * 10 + (c.toNat - 48)) 0
theorem decVal_snoc (l : List UInt8) (c : UInt8) : decVal (l ++ [c]) = decVal l * 10 + (c.toNat - 48) := by
  unfold decVal; rw [List.foldl_append]; rfl
theorem digit_toNat (d : Nat) (h : d < 10) : (UInt8.ofNat (48 + d)).toNat = 48 + d := by
  rw [UInt8.toNat_ofNat']; omega
theorem dd_lt (u : Nat) (h : u < 10) : decDigits u = [UInt8.ofNat (48 + u)] := by rw [decDigits, dif_pos h]
theorem dd_ge (u : Nat) (h : 10 ≤ u) : decDigits u = decDigits (u / 10) ++ [UInt8.ofNat (48 + u % 10)] := by rw [decDigits, dif_neg (by omega)]
theorem dd_ne (u : Nat) : decDigits u ≠ [] := by
  by_cases h : u < 10
  · rw [dd_lt u h]; simp
  · rw [dd_ge u (by omega)]; simp
theorem dd_ok (u : Nat) : ∀ c ∈ decDigits u, digitOk c := by
  induction u using Nat.strongRecOn with
  | _ u ih =>
    intro c hc
    by_cases h : u < 10
    · rw [dd_lt u h, List.mem_singleton] at hc
      subst hc
      unfold digitOk
      rw [digit_toNat u h]; omega
    · rw [dd_ge u (by omega), List.mem_append, List.mem_singleton] at hc
      rcases hc with hc | hc
      · exact ih (u / 10) (by omega) c hc
      · subst hc
        unfold digitOk
        rw [digit_toNat _ (by omega)]; omega
theorem dd_val (u : Nat) : decVal (decDigits u) = u := by
  induction u using Nat.strongRecOn with
  | _ u ih =>
    by_cases h : u < 10
    · rw [dd_lt u h]
      show 0 * 10 + ((UInt8.ofNat (48 + u)).toNat - 48) = u
      rw [digit_toNat u h]; omega
    · rw [dd_ge u (by omega), decVal_snoc, ih (u / 10) (by omega), digit_toNat _ (by omega)]; omega
/-- A text of digits without a 0 too many. -/
def plainNum (t : List UInt8) : Prop := t ≠ [] ∧ (∀ c ∈ t, digitOk c) ∧ (t.length = 1 ∨ ∃ c r, t = c :: r ∧ c ≠ 48)
theorem dd_head (u : Nat) : (decDigits u).length = 1 ∨ ∃ c r, decDigits u = c :: r ∧ c ≠ 48 := by
  induction u using Nat.strongRecOn with
  | _ u ih =>
    by_cases h : u < 10
    · rw [dd_lt u h]; exact .inl rfl
    · right
      rw [dd_ge u (by omega)]
      rcases ih (u / 10) (by omega) with h1 | ⟨c, r, h1, h2⟩
      · by_cases h3 : u / 10 < 10
        · rw [dd_lt _ h3]
          refine ⟨_, _, rfl, fun e => ?_⟩
          have := congrArg UInt8.toNat e
          rw [digit_toNat _ h3] at this
          have : (48 : UInt8).toNat = 48 := rfl
          omega
        · rw [dd_ge _ (by omega), List.length_append, List.length_singleton] at h1
          have := List.length_pos_iff.2 (dd_ne (u / 10 / 10))
          omega
      · rw [h1]; exact ⟨c, r ++ [_], rfl, h2⟩
theorem dd_plain (u : Nat) : plainNum (decDigits u) := ⟨dd_ne u, dd_ok u, dd_head u⟩
theorem plain_dd (t : List UInt8) (h : plainNum t) : decDigits (decVal t) = t := by
  obtain ⟨n, hn⟩ : ∃ n, n = t.length := ⟨_, rfl⟩
  induction n using Nat.strongRecOn generalizing t with
  | _ n ih =>
    obtain ⟨h1, h2, h3⟩ := h
    rcases List.eq_nil_or_concat t with rfl | ⟨l, c, rfl⟩
    · exact absurd rfl h1
    · rw [List.concat_eq_append] at *
      have hc : digitOk c := h2 c (by simp)
      have hcc : (UInt8.ofNat (48 + (c.toNat - 48))) = c := by
        obtain ⟨a, b⟩ := hc
        rw [show 48 + (c.toNat - 48) = c.toNat from by omega, UInt8.ofNat_toNat]
      by_cases hl : l = []
      · subst hl
        obtain ⟨a, b⟩ := hc
        rw [decVal_snoc]
        show decDigits (0 * 10 + (c.toNat - 48)) = [c]
        rw [dd_lt _ (by omega), show 48 + (0 * 10 + (c.toNat - 48)) = 48 + (c.toNat - 48) from by omega, hcc]
      · have hp : plainNum l := by
          refine ⟨hl, fun x hx => h2 x (by simp [hx]), ?_⟩
          rcases h3 with h3 | ⟨x, r, e, hx⟩
          · rw [List.length_append, List.length_singleton] at h3
            have := List.length_pos_iff.2 hl
            omega
          · obtain ⟨y, l', rfl⟩ := List.exists_cons_of_ne_nil hl
            right
            rw [List.cons_append, List.cons.injEq] at e
            exact ⟨y, l', rfl, by rw [e.1]; exact hx⟩
        have e := ih l.length (by rw [hn]; simp) l hp rfl
        have hpos : 1 ≤ decVal l := by
          rcases Nat.eq_zero_or_pos (decVal l) with h0 | h0
          · rw [h0, dd_lt 0 (by omega)] at e
            rcases h3 with h3 | ⟨x, r, e2, hx⟩
            · rw [← e] at h3; simp at h3
            · rw [← e, List.cons_append, List.cons.injEq] at e2
              exact absurd e2.1.symm hx
          · exact h0
        obtain ⟨a, b⟩ := hc
        rw [decVal_snoc, dd_ge _ (by omega), show (decVal l * 10 + (c.toNat - 48)) / 10 = decVal l from by omega, e,
          show (decVal l * 10 + (c.toNat - 48)) % 10 = c.toNat - 48 from by omega, hcc]
theorem dd_len (u : Nat) (h : u ≤ 2147483648) : (decDigits u).length ≤ 10 := by
  have key : ∀ k u : Nat, u < 10 ^ (k + 1) → (decDigits u).length ≤ k + 1 := by
    intro k
    induction k with
    | zero => intro u hu; rw [dd_lt u (by simpa using hu)]; simp
    | succ k ih =>
      intro u hu
      by_cases h : u < 10
      · rw [dd_lt u h]; simp
      · rw [dd_ge u (by omega), List.length_append, List.length_singleton]
        have := ih (u / 10) (by rw [Nat.pow_succ] at hu; omega)
        omega
  exact key 9 u (by omega)

def inWord (v : Int) : Prop := -2147483648 ≤ v ∧ v ≤ 2147483647
theorem itoa_pos (v : Int) (h : 0 ≤ v) : itoa v = decDigits v.toNat := by unfold itoa; rw [if_neg (by omega)]
theorem itoa_neg' (v : Int) (h : v < 0) : itoa v = 45 :: decDigits v.natAbs := by unfold itoa; rw [if_pos h]

theorem parse_snoc (M : Nat) (l : List UInt8) (c : UInt8) : ∀ acc a, parseUintM M acc l = .ok a → digitOk c → a < 1844674407370955162 → a * 10 + (c.toNat - 48) ≤ M → parseUintM M acc (l ++ [c]) = .ok (a * 10 + (c.toNat - 48)) := by
  induction l with
  | nil =>
    intro acc a h1 h2 h3 h4
    simp only [parseUintM, NumEnd.ok.injEq] at h1
    subst h1
    have h2' : 48 ≤ c.toNat ∧ c.toNat ≤ 57 := h2
    simp only [List.nil_append, parseUintM]
    rw [if_pos h2', if_neg (by omega), if_neg (by omega)]
  | cons d r ih =>
    intro acc a h1 h2 h3 h4
    simp only [List.cons_append, parseUintM] at h1 ⊢
    split at h1
    · rename_i hd
      rw [if_pos hd]
      split at h1
      · cases h1
      · rename_i hx
        rw [if_neg hx]
        split at h1
        · cases h1
        · rename_i hy
          rw [if_neg hy]
          exact ih _ _ h1 h2 h3 h4
    · cases h1
theorem parse_dd (M : Nat) (hM : M < 1844674407370955162) (u : Nat) (h : u ≤ M) : parseUintM M 0 (decDigits u) = .ok u := by
  induction u using Nat.strongRecOn with
  | _ u ih =>
    by_cases h10 : u < 10
    · have e := parse_snoc M [] (UInt8.ofNat (48 + u)) 0 0 rfl (dd_ok u _ (by rw [dd_lt u h10]; simp)) (by omega) (by rw [digit_toNat u h10]; omega)
      rw [digit_toNat u h10] at e
      rw [dd_lt u h10, show [UInt8.ofNat (48 + u)] = [] ++ [UInt8.ofNat (48 + u)] from rfl, e]
      congr 1; omega
    · have e := parse_snoc M (decDigits (u / 10)) (UInt8.ofNat (48 + u % 10)) 0 (u / 10) (ih (u / 10) (by omega) (by omega)) (by unfold digitOk; rw [digit_toNat _ (by omega)]; omega) (by omega) (by rw [digit_toNat _ (by omega)]; omega)
      rw [digit_toNat _ (by omega)] at e
      rw [dd_ge u (by omega), e]
      congr 1; omega
theorem parse_itoa (v : Int) (h : inWord v) : parseIntB 32 (itoa v) = .ok v := by
  obtain ⟨h1, h2⟩ := h
  by_cases hv : 0 ≤ v
  · rw [itoa_pos v hv]
    have hp := parse_dd 4294967295 (by omega) v.toNat (by omega)
    obtain ⟨c, r, e⟩ := List.exists_cons_of_ne_nil (dd_ne v.toNat)
    have hc : digitOk c := dd_ok v.toNat c (by rw [e]; simp)
    unfold digitOk at hc
    have hn : ¬ (c.toNat = 43 ∨ c.toNat = 45) := by omega
    have hu : parseUintB 32 (c :: r) = .ok v.toNat := by
      unfold parseUintB
      rw [if_neg (by simp), ← e]
      exact hp
    rw [e]
    simp only [parseIntB]
    rw [if_neg hn, hu]
    simp only
    rw [if_neg (by omega), if_neg (by omega), if_neg (by omega)]
    congr 1; omega
  · rw [itoa_neg' v (by omega)]
    have hp := parse_dd 4294967295 (by omega) v.natAbs (by omega)
    have hu : parseUintB 32 (decDigits v.natAbs) = .ok v.natAbs := by
      unfold parseUintB
      rw [if_neg (dd_ne _)]
      exact hp
    simp only [parseIntB]
    have e45 : (45 : UInt8).toNat = 45 := rfl
    rw [if_pos (Or.inr e45), hu]
    simp only [e45]
    rw [if_neg (by simp), if_neg (by omega), if_pos trivial]
    congr 1; omega

/-- The word whose decimal text this is. -/
def wordOf (s : List UInt8) : Option Int :=
  match parseIntB 32 s with
  | .ok v => if itoa v = s then some v else none
  | _ => none
theorem wordOf_itoa (v : Int) (h : inWord v) : wordOf (itoa v) = some v := by
  unfold wordOf; rw [parse_itoa v h]; simp
end Go.Proofs.Ytmedhibjkbahpaa
