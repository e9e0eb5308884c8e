/-
  Contracts of slices.Equal of words and sets.Same.
-/
import Derived.Test.YtjkcomoadpileaaDoorBg
namespace Go.Proofs.YtjkcomoadpileaaDoor
open Go.RowKit
set_option linter.unusedVariables false

/-- Words as they are read: the slice at A of n elements holds the words ws. -/
def WordsAt (w : World) (A : Option Addr) (n : Nat) (ws : List Nat) : Prop :=
  ws.length = n ∧ (0 < n → ∃ g off, A = some ⟨g, off, none⟩ ∧ ∀ i, i < n → w.cell? ⟨g, off + i, none⟩ = some (.int .u64 (wd ws i : Int)))
theorem WordsAt.drewN {w : World} {A : Option Addr} {n : Nat} {ws : List Nat} (h : WordsAt w A n ws) (q : Nat) : WordsAt (w.drewN q) A n ws := h
theorem Words.at {w : World} {A : Option Addr} {n c : Nat} {ws : List Nat} (h : Words w A n c ws) : WordsAt w A n ws := by
  refine ⟨h.1, fun hn => ?_⟩
  obtain ⟨g, e, hg, hc⟩ := h.cells hn
  exact ⟨g, 0, e, fun i hi => by rw [Nat.zero_add]; exact hc i hi⟩
theorem WordsAt.take {w : World} {A : Option Addr} {n k : Nat} {ws : List Nat} (h : WordsAt w A n ws) (hk : k ≤ n) : WordsAt w A k (ws.take k) := by
  refine ⟨by rw [List.length_take, h.1]; omega, fun hn => ?_⟩
  obtain ⟨g, off, e, hc⟩ := h.2 (by omega)
  refine ⟨g, off, e, fun i hi => ?_⟩
  rw [hc i (by omega)]
  congr 2
  simp [wd, List.getD, hi]
/-- The first k are alike. -/
def alike (ws us : List Nat) (k : Nat) : Bool := (List.range k).all fun j => wd ws j == wd us j
theorem alike_succ (ws us : List Nat) (k : Nat) : alike ws us (k + 1) = (alike ws us k && (wd ws k == wd us k)) := by
  unfold alike
  rw [List.range_succ, List.all_append]
  simp
theorem alike_iff (ws us : List Nat) (k : Nat) : alike ws us k = true ↔ ∀ j, j < k → wd ws j = wd us j := by
  unfold alike
  rw [List.all_eq_true]
  constructor
  · intro h j hj
    simpa using h j (List.mem_range.2 hj)
  · intro h j hj
    simpa using h j (List.mem_range.1 hj)
theorem drewN_two (w : World) (a b : Nat) : (w.drewN a).drewN b = w.drewN (a + b) := by
  simp [World.drewN, Nat.add_assoc]
theorem equal_any (w : World) (A B : Option Addr) (n c c2 : Nat) (ws us : List Nat) (hA : WordsAt w A n ws) (hB : WordsAt w B n us) (hn : n ≤ 1024) (hsw : Small ws) (hsu : Small us) :
    Calls Tryd.prog 36 #[.slice A n c, .slice B n c2] w fun e w' => e = .returned (.bool (alike ws us n)) ∧ ∃ q, w' = w.drewN q := by
  have HA := Lib.hid hA
  have HB := Lib.hid hB
  clear hA hB
  go_enter Tryd.func36, Tryd.ntmps36
  go_wp2
  go_loopw [13] (fun i wr => ∃ k : Nat, k ≤ n ∧ i = .int .i64 k ∧ alike ws us k = true ∧ ∃ q, wr = w.drewN q) (fun i _ => n - (intOf i).toNat)
  case atStart => exact ⟨0, by omega, rfl, rfl, 0, rfl⟩
  case round =>
    obtain ⟨k, hk, rfl, hal, q, rfl⟩ := hrel
    have HAL := Lib.hid hal
    clear hal
    rcases Nat.lt_or_ge k n with hkn | hkn
    · obtain ⟨g, o, rfl, hc0⟩ := HA.out.2 (by omega)
      obtain ⟨g2, o2, rfl, hd0⟩ := HB.out.2 (by omega)
      have hc : (w.drewN q).cell? ⟨g, o + k, none⟩ = some (.int .u64 (wd ws k : Int)) := hc0 k hkn
      have hd : (w.drewN q).cell? ⟨g2, o2 + k, none⟩ = some (.int .u64 (wd us k : Int)) := hd0 k hkn
      have ES : Hid (alike ws us (k + 1) = (alike ws us k && (wd ws k == wd us k))) := Lib.hid (alike_succ _ _ _)
      have HN : Hid (wd ws k ≠ wd us k → alike ws us n = false) := Lib.hid (fun hne => by
        cases h : alike ws us n with
        | false => rfl
        | true => exact absurd ((alike_iff _ _ _).1 h k hkn) hne)
      clear hc0 hd0
      obtain ⟨x, hxe⟩ : ∃ x, wd ws k = x := ⟨_, rfl⟩
      obtain ⟨u, hue⟩ : ∃ u, wd us k = u := ⟨_, rfl⟩
      rw [hxe] at hc ES HN
      rw [hue] at hd ES HN
      clear hxe hue
      generalize hWq : w.drewN q = wq at *
      have HQ := Lib.hid hWq
      clear hWq
      have hkn' : (k : Int) < (n : Int) := by omega
      have hk0 : (0 : Int) ≤ (k : Int) := by omega
      by_cases e : x = u
      · have hb : ((x : Int) != (u : Int)) = false := by subst e; simp
        have HE := Lib.hid e
        clear e
        go_wp2
        go_quiet (fail)
        go_wp2
        go_roundw
        case rel => exact ⟨k + 1, by omega, by go_num, by rw [ES.out, HAL.out, HE.out]; simp, _, by rw [← HQ.out]; exact drewN_two _ _ _⟩
        case measure => simp [intOf]; omega
      · have hb : ((x : Int) != (u : Int)) = true := by simp; omega
        have HE := Lib.hid e
        clear e
        go_wp2
        go_quiet (fail)
        go_wp2
        go_ret
        exact ⟨by rw [HN.out HE.out]; rfl, _, by rw [← HQ.out]; exact drewN_two _ _ _⟩
    · obtain rfl : k = n := by omega
      go_wp2
      go_ret
      exact ⟨by rw [HAL.out]; rfl, _, rfl⟩
/-- A pointer to a set, or to none. -/
def At (w : World) (p : Option Addr) (v : Value) (ws : List Nat) : Prop := (p = none ∧ v = .slice none 0 0 ∧ ws = []) ∨ ∃ b, p = some ⟨b, 0, none⟩ ∧ SetG w b v ws
theorem At.of {w : World} {b : Nat} {v : Value} {ws : List Nat} (h : SetG w b v ws) : At w (some ⟨b, 0, none⟩) v ws := .inr ⟨b, rfl, h⟩
theorem At.none (w : World) : At w none (.slice none 0 0) [] := .inl ⟨rfl, rfl, rfl⟩
theorem At.held {w : World} {p : Option Addr} {v : Value} {ws : List Nat} (h : At w p v ws) : Calls Tryd.prog 33 #[.pointer p] w fun e w' => e = .returned v ∧ w = w' := by
  rcases h with ⟨rfl, rfl, rfl⟩ | ⟨b, rfl, h⟩
  · exact held_nil w
  · exact held_any w b v h.cell
theorem At.slice {w : World} {p : Option Addr} {v : Value} {ws : List Nat} (h : At w p v ws) : (∃ A c, v = .slice A ws.length c ∧ Words w A ws.length c ws) ∧ Small ws ∧ ws.length ≤ 1024 := by
  rcases h with ⟨rfl, rfl, rfl⟩ | ⟨b, rfl, h⟩
  · exact ⟨⟨_, 0, rfl, rfl, Nat.le_refl _, by unfold maxLen; omega, fun _ => rfl, fun ad e => by cases e⟩, (fun x hx => by cases hx), Nat.zero_le _⟩
  · exact ⟨h.slice, h.small, h.short⟩
/-- The same numbers? -/
def sameB (ws us : List Nat) : Bool := alike ws us (max ws.length us.length)
theorem sameB_iff (ws us : List Nat) (hw : Small ws) (hu : Small us) : sameB ws us = true ↔ ∀ n, mem ws n = mem us n := by
  unfold sameB
  rw [alike_iff, sameW_iff ws us hw hu]
  constructor
  · intro h k
    rcases Nat.lt_or_ge k (max ws.length us.length) with hk | hk
    · exact h k hk
    · rw [wd_ge ws k (by omega), wd_ge us k (by omega)]
  · intro h k _
    exact h k
theorem alike_comm (ws us : List Nat) (k : Nat) : alike ws us k = alike us ws k := by
  rw [Bool.eq_iff_iff, alike_iff, alike_iff]
  exact ⟨fun h j hj => (h j hj).symm, fun h j hj => (h j hj).symm⟩
theorem alike_zero (ws us : List Nat) (L M : Nat) (hL : ws.length = L) (hle : L ≤ M) (hz : ∀ j, j < M - L → wd us (L + j) = 0) : alike ws us M = alike ws (us.take L) L := by
  rw [Bool.eq_iff_iff, alike_iff, alike_iff]
  have ht : ∀ j, j < L → wd (us.take L) j = wd us j := fun j hj => by simp [wd, List.getD, hj]
  constructor
  · intro h j hj
    rw [ht j hj]
    exact h j (by omega)
  · intro h j hj
    rcases Nat.lt_or_ge j L with h1 | h1
    · rw [h j h1, ht j h1]
    · have := hz (j - L) (by omega)
      rw [show L + (j - L) = j from by omega] at this
      rw [this, wd_ge ws j (by omega)]
theorem alike_not (ws us : List Nat) (M j : Nat) (hj : j < M) (hw : ws.length ≤ j) (hz : wd us j ≠ 0) : alike ws us M = false := by
  cases h : alike ws us M with
  | false => rfl
  | true => exact absurd (((alike_iff _ _ _).1 h j hj).symm.trans (wd_ge ws j hw)) hz
set_option maxHeartbeats 400000 in
theorem same_flat (w : World) (p p2 : Option Addr) (v v2 : Value) (ws us : List Nat) (h1 : At w p v ws) (h2 : At w p2 v2 us) (hle : ws.length = us.length) :
    Calls Tryd.prog 22 #[.pointer p, .pointer p2] w fun e w' => e = .returned (.bool (sameB ws us)) ∧ ∃ q, w' = w.drewN q := by
  have HH1 := Lib.hid h1.held
  have HH2 := Lib.hid h2.held
  obtain ⟨⟨A, c, rfl, hW⟩, hsm, hsh⟩ := h1.slice
  obtain ⟨⟨A2, c2, rfl, hW2⟩, hsm2, hsh2⟩ := h2.slice
  obtain ⟨L, hL⟩ : ∃ L, us.length = L := ⟨_, rfl⟩
  rw [hL] at hle
  rw [hL] at HH2 hW2 hsh2
  rw [hle] at HH1 hW hsh
  have HQ := Lib.hid (equal_any w A A2 L c c2 ws us hW.at hW2.at hsh hsm hsm2)
  have HSB : Hid (sameB ws us = alike ws us L) := Lib.hid (by unfold sameB; rw [hle, hL, Nat.max_self])
  have hMc : L ≤ c2 := hW2.2.1
  have hmax : c2 ≤ maxLen := hW2.2.2.1
  unfold maxLen at hmax
  have hnil : A2 = none → c2 = 0 := hW2.2.2.2.1
  clear h1 h2 hW hW2 hsm hsm2 hle hL
  by_cases hc : c2 = L
  · subst hc
    cases A2 with
    | none =>
      have h0 := hnil rfl
      subst h0
      clear hnil
      go_enter Tryd.func22, Tryd.ntmps22
      go_wp2_with (first
        | (with_reducible refine HH1.out.mono ?_; rintro e w' ⟨rfl, rfl⟩)
        | (with_reducible refine HH2.out.mono ?_; rintro e w' ⟨rfl, rfl⟩))
      go_loop [25] (fun i => i = .int .i64 0) (fun _ => 0)
      case atStart => rfl
      case round =>
        obtain rfl := hrel
        go_wp2_with (go_at_call 36; refine HQ.out.mono ?_; rintro e w1 ⟨rfl, q, rfl⟩)
        go_ret
        exact ⟨by rw [HSB.out]; rfl, q, rfl⟩
    | some ad =>
      clear hnil
      go_enter Tryd.func22, Tryd.ntmps22
      go_wp2_with (first
        | (with_reducible refine HH1.out.mono ?_; rintro e w' ⟨rfl, rfl⟩)
        | (with_reducible refine HH2.out.mono ?_; rintro e w' ⟨rfl, rfl⟩))
      go_loop [25] (fun i => i = .int .i64 0) (fun _ => 0)
      case atStart => rfl
      case round =>
        obtain rfl := hrel
        go_wp2_with (go_at_call 36; refine HQ.out.mono ?_; rintro e w1 ⟨rfl, q, rfl⟩)
        go_ret
        exact ⟨by rw [HSB.out]; rfl, q, rfl⟩
  · cases A2 with
    | none => have h0 := hnil rfl; omega
    | some ad =>
      clear hnil
      go_enter Tryd.func22, Tryd.ntmps22
      go_wp2_with (first
        | (with_reducible refine HH1.out.mono ?_; rintro e w' ⟨rfl, rfl⟩)
        | (with_reducible refine HH2.out.mono ?_; rintro e w' ⟨rfl, rfl⟩))
      go_loop [25] (fun i => i = .int .i64 0) (fun _ => 0)
      case atStart => rfl
      case round =>
        obtain rfl := hrel
        go_wp2_with (go_at_call 36; refine HQ.out.mono ?_; rintro e w1 ⟨rfl, q, rfl⟩)
        go_ret
        exact ⟨by rw [HSB.out]; rfl, q, rfl⟩
set_option maxHeartbeats 400000 in
theorem same_lt (w : World) (p p2 : Option Addr) (v v2 : Value) (ws us : List Nat) (h1 : At w p v ws) (h2 : At w p2 v2 us) (hle : ws.length < us.length) :
    Calls Tryd.prog 22 #[.pointer p, .pointer p2] w fun e w' => e = .returned (.bool (sameB ws us)) ∧ ∃ q, w' = w.drewN q := by
  have HH1 := Lib.hid h1.held
  have HH2 := Lib.hid h2.held
  obtain ⟨⟨A, c, rfl, hW⟩, hsm, hsh⟩ := h1.slice
  obtain ⟨⟨A2, c2, rfl, hW2⟩, hsm2, hsh2⟩ := h2.slice
  obtain ⟨L, hL⟩ : ∃ L, ws.length = L := ⟨_, rfl⟩
  obtain ⟨M, hM⟩ : ∃ M, us.length = M := ⟨_, rfl⟩
  obtain ⟨g, rfl, _, hcs⟩ := hW2.cells (by omega)
  rw [hL, hM] at hle
  rw [hM] at HH2 hW2 hsh2 hcs
  rw [hL] at HH1 hW hsh
  have HQ := Lib.hid (equal_any w A (some ⟨g, 0, none⟩) L c c2 ws (us.take L) hW.at (hW2.at.take (by omega)) hsh hsm (fun x hx => hsm2 x (List.mem_of_mem_take hx)))
  have HSB : Hid (sameB ws us = alike ws us M) := Lib.hid (by unfold sameB; rw [hL, hM, Nat.max_eq_right (by omega)])
  have HC := Lib.hid hcs
  have HS2 := Lib.hid hsm2
  have HL := Lib.hid hL
  have hMc : M ≤ c2 := hW2.2.1
  have hmax : c2 ≤ maxLen := hW2.2.2.1
  unfold maxLen at hmax
  clear h1 h2 hW hW2 hsm hsm2 hL hM hcs
  have hne : ¬ c2 = L := by omega
  obtain ⟨d, rfl⟩ : ∃ d, M = L + d := ⟨M - L, by omega⟩
  go_enter Tryd.func22, Tryd.ntmps22
  go_wp2_with (first
    | (with_reducible refine HH1.out.mono ?_; rintro e w' ⟨rfl, rfl⟩)
    | (with_reducible refine HH2.out.mono ?_; rintro e w' ⟨rfl, rfl⟩))
  go_loop [25] (fun i => ∃ k : Nat, k ≤ d ∧ i = .int .i64 k ∧ ∀ j, j < k → wd us (L + j) = 0) (fun i => d - (intOf i).toNat)
  case atStart => exact ⟨0, by omega, rfl, fun j hj => by omega⟩
  case round =>
    obtain ⟨k, hk, rfl, hz⟩ := hrel
    have HZ := Lib.hid hz
    clear hz
    rcases Nat.lt_or_ge k d with hkn | hkn
    · have hck := HC.out (L + k) (by omega)
      have hx := wd_lt HS2.out (L + k)
      have HNO : Hid (wd us (L + k) ≠ 0 → alike ws us (L + d) = false) := Lib.hid (fun h => alike_not ws us (L + d) (L + k) (by omega) (by rw [HL.out]; omega) h)
      have HYES : Hid (wd us (L + k) = 0 → ∀ j, j < k + 1 → wd us (L + j) = 0) := Lib.hid (fun h j hj => by
        rcases Nat.lt_or_ge j k with h1 | h1
        · exact HZ.out j h1
        · obtain rfl : j = k := by omega
          exact h)
      obtain ⟨x, hxe⟩ : ∃ x, wd us (L + k) = x := ⟨_, rfl⟩
      rw [hxe] at hck hx HNO HYES
      clear hxe
      have hkn' : (k : Int) < (d : Int) := by omega
      by_cases e : x = 0
      · subst e
        go_wp2
        go_round
        case rel => exact ⟨k + 1, by omega, by go_num, HYES.out rfl⟩
        case measure => simp [intOf]; omega
      · have hb : ((x : Int) != 0) = true := by simp; exact e
        have HE := Lib.hid e
        clear e
        go_wp2
        go_ret
        exact ⟨by rw [HSB.out, HNO.out HE.out]; rfl, 0, rfl⟩
    · obtain rfl : k = d := by omega
      have HF : Hid (sameB ws us = alike ws (us.take L) L) := Lib.hid (by rw [HSB.out]; exact alike_zero ws us L (L + k) HL.out (by omega) (fun j hj => HZ.out j (by omega)))
      go_wp2_with (go_at_call 36; refine HQ.out.mono ?_; rintro e w1 ⟨rfl, q, rfl⟩)
      go_ret
      exact ⟨by rw [HF.out]; rfl, q, rfl⟩
set_option maxHeartbeats 400000 in
theorem same_gt (w : World) (p p2 : Option Addr) (v v2 : Value) (ws us : List Nat) (h1 : At w p v ws) (h2 : At w p2 v2 us) (hle : ws.length < us.length) :
    Calls Tryd.prog 22 #[.pointer p2, .pointer p] w fun e w' => e = .returned (.bool (sameB us ws)) ∧ ∃ q, w' = w.drewN q := by
  have HH1 := Lib.hid h1.held
  have HH2 := Lib.hid h2.held
  obtain ⟨⟨A, c, rfl, hW⟩, hsm, hsh⟩ := h1.slice
  obtain ⟨⟨A2, c2, rfl, hW2⟩, hsm2, hsh2⟩ := h2.slice
  obtain ⟨L, hL⟩ : ∃ L, ws.length = L := ⟨_, rfl⟩
  obtain ⟨M, hM⟩ : ∃ M, us.length = M := ⟨_, rfl⟩
  obtain ⟨g, rfl, _, hcs⟩ := hW2.cells (by omega)
  rw [hL, hM] at hle
  rw [hM] at HH2 hW2 hsh2 hcs
  rw [hL] at HH1 hW hsh
  have HQ := Lib.hid (equal_any w A (some ⟨g, 0, none⟩) L c c2 ws (us.take L) hW.at (hW2.at.take (by omega)) hsh hsm (fun x hx => hsm2 x (List.mem_of_mem_take hx)))
  have HSB : Hid (sameB us ws = alike ws us M) := Lib.hid (by unfold sameB; rw [hL, hM, Nat.max_eq_left (by omega), alike_comm])
  have HC := Lib.hid hcs
  have HS2 := Lib.hid hsm2
  have HL := Lib.hid hL
  have hMc : M ≤ c2 := hW2.2.1
  have hmax : c2 ≤ maxLen := hW2.2.2.1
  unfold maxLen at hmax
  clear h1 h2 hW hW2 hsm hsm2 hL hM hcs
  have hne : ¬ c2 = L := by omega
  obtain ⟨d, rfl⟩ : ∃ d, M = L + d := ⟨M - L, by omega⟩
  go_enter Tryd.func22, Tryd.ntmps22
  go_wp2_with (first
    | (with_reducible refine HH1.out.mono ?_; rintro e w' ⟨rfl, rfl⟩)
    | (with_reducible refine HH2.out.mono ?_; rintro e w' ⟨rfl, rfl⟩))
  go_loop [25] (fun i => ∃ k : Nat, k ≤ d ∧ i = .int .i64 k ∧ ∀ j, j < k → wd us (L + j) = 0) (fun i => d - (intOf i).toNat)
  case atStart => exact ⟨0, by omega, rfl, fun j hj => by omega⟩
  case round =>
    obtain ⟨k, hk, rfl, hz⟩ := hrel
    have HZ := Lib.hid hz
    clear hz
    rcases Nat.lt_or_ge k d with hkn | hkn
    · have hck := HC.out (L + k) (by omega)
      have hx := wd_lt HS2.out (L + k)
      have HNO : Hid (wd us (L + k) ≠ 0 → alike ws us (L + d) = false) := Lib.hid (fun h => alike_not ws us (L + d) (L + k) (by omega) (by rw [HL.out]; omega) h)
      have HYES : Hid (wd us (L + k) = 0 → ∀ j, j < k + 1 → wd us (L + j) = 0) := Lib.hid (fun h j hj => by
        rcases Nat.lt_or_ge j k with h1 | h1
        · exact HZ.out j h1
        · obtain rfl : j = k := by omega
          exact h)
      obtain ⟨x, hxe⟩ : ∃ x, wd us (L + k) = x := ⟨_, rfl⟩
      rw [hxe] at hck hx HNO HYES
      clear hxe
      have hkn' : (k : Int) < (d : Int) := by omega
      by_cases e : x = 0
      · subst e
        go_wp2
        go_round
        case rel => exact ⟨k + 1, by omega, by go_num, HYES.out rfl⟩
        case measure => simp [intOf]; omega
      · have hb : ((x : Int) != 0) = true := by simp; exact e
        have HE := Lib.hid e
        clear e
        go_wp2
        go_ret
        exact ⟨by rw [HSB.out, HNO.out HE.out]; rfl, 0, rfl⟩
    · obtain rfl : k = d := by omega
      have HF : Hid (sameB us ws = alike ws (us.take L) L) := Lib.hid (by rw [HSB.out]; exact alike_zero ws us L (L + k) HL.out (by omega) (fun j hj => HZ.out j (by omega)))
      go_wp2_with (go_at_call 36; refine HQ.out.mono ?_; rintro e w1 ⟨rfl, q, rfl⟩)
      go_ret
      exact ⟨by rw [HF.out]; rfl, q, rfl⟩
theorem same_any (w : World) (p p2 : Option Addr) (v v2 : Value) (ws us : List Nat) (h1 : At w p v ws) (h2 : At w p2 v2 us) :
    Calls Tryd.prog 22 #[.pointer p, .pointer p2] w fun e w' => e = .returned (.bool (sameB ws us)) ∧ ∃ q, w' = w.drewN q := by
  rcases Nat.lt_trichotomy ws.length us.length with h | h | h
  · exact same_lt w p p2 v v2 ws us h1 h2 h
  · exact same_flat w p p2 v v2 ws us h1 h2 h
  · exact same_gt w p2 p v2 v us ws h2 h1 h
end Go.Proofs.YtjkcomoadpileaaDoor
