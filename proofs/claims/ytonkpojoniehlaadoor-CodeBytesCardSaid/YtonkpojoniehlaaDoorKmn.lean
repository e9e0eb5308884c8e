/-
  The document's word: Bit, lay.
-/
import Derived.Test.YtonkpojoniehlaaDoorKmb
import Derived.Lib.Hide
namespace Go.Proofs.YtonkpojoniehlaaDoor
open Go.RowKit
set_option linter.unusedVariables false
set_option linter.unusedSimpArgs false
set_option maxRecDepth 100000

theorem half_even (m : Int) (h : m.tmod 2 = 0) : m.tdiv 2 = m / 2 := by
  obtain ⟨q, rfl⟩ := Int.dvd_of_tmod_eq_zero h
  rw [Int.mul_tdiv_cancel_left _ (by decide), Int.mul_ediv_cancel_left _ (by decide)]
theorem half_neg (m : Int) (h : m.tmod 2 ≠ 0) (h0 : m < 0) : (m - 1).tdiv 2 = m / 2 := by
  have ho : m % 2 ≠ 0 := fun h2 => h (Int.tmod_eq_zero_of_dvd (Int.dvd_of_emod_eq_zero h2))
  have he : (m - 1).tmod 2 = 0 := Int.tmod_eq_zero_of_dvd (Int.dvd_of_emod_eq_zero (by omega))
  rw [half_even _ he]
  omega
theorem half_pos (m : Int) (h0 : 0 ≤ m) : m.tdiv 2 = m / 2 := Int.tdiv_eq_ediv_of_nonneg h0
theorem half_pow (n : Int) (j : Nat) : n / 2 ^ j / 2 = n / 2 ^ (j + 1) := by
  rw [Int.ediv_ediv_of_nonneg (Int.pow_nonneg (by decide))]
  rfl
theorem half_bd (n : Int) (j : Nat) (h : -1099511627776 ≤ n ∧ n ≤ 1099511627776) : -1099511627776 ≤ n / 2 ^ j ∧ n / 2 ^ j ≤ 1099511627776 := by
  induction j with
  | zero => simpa using h
  | succ j ih =>
    rw [← half_pow]
    omega

set_option maxHeartbeats 800000 in
theorem bit_any (n : Int) (i : Nat) (hn : -1099511627776 ≤ n ∧ n ≤ 1099511627776) (hi : i ≤ 64) (w : World) :
    Calls Tryd.prog 49 #[.int .i64 n, .int .i64 i] w fun e w' => e = .returned (.int .u32 (n / 2 ^ i % 2)) ∧ w = w' := by
  have HN := Lib.hid hn
  have hi63 : (i : Int) ≤ 64 := by omega
  clear hn
  go_enter Tryd.func49, Tryd.ntmps49
  go_wp2_with fail
  go_loop [0, 1] (fun a b => ∃ j : Nat, j ≤ i ∧ a = .int .i64 (n / 2 ^ j) ∧ b = .int .i64 ((i : Int) - (j : Int))) (fun _ b => (intOf b).toNat)
  case atStart => exact ⟨0, by omega, by simp, by simp⟩
  case round =>
    obtain ⟨j, hj, rfl, rfl⟩ := hrel
    obtain ⟨h1, h2⟩ := half_bd n j HN.out
    have HP := Lib.hid (half_pow n j)
    obtain ⟨m, hm⟩ : ∃ m, n / 2 ^ j = m := ⟨_, rfl⟩
    have HM := Lib.hid hm
    rw [hm] at h1 h2 HP
    simp only [hm]
    clear hm
    rcases Nat.lt_or_ge j i with hji | hji
    · have g1 : (0 : Int) < (i : Int) - (j : Int) := by omega
      by_cases hz : m.tmod 2 = 0
      · have hzb : (m.tmod 2 != 0) = false := by simp [hz]
        have HE := Lib.hid (half_even m hz)
        go_wp2_with fail
        all_goals
          go_round
          case rel => exact ⟨j + 1, by omega, by first | rw [HE.out, HP.out] | rw [HP.out], by first | go_num | (congr 1; omega)⟩
          case measure => simp [intOf] <;> omega
      · have hzb : (m.tmod 2 != 0) = true := by simp [hz]
        by_cases h0 : m < 0
        · have HE := Lib.hid (half_neg m hz h0)
          go_wp2_with fail
          all_goals
            go_round
            case rel => exact ⟨j + 1, by omega, by first | rw [HE.out, HP.out] | rw [HP.out], by first | go_num | (congr 1; omega)⟩
            case measure => simp [intOf] <;> omega
        · have HE := Lib.hid (half_pos m (by omega))
          go_wp2_with fail
          all_goals
            go_round
            case rel => exact ⟨j + 1, by omega, by first | rw [HE.out, HP.out] | rw [HP.out], by first | go_num | (congr 1; omega)⟩
            case measure => simp [intOf] <;> omega
    · obtain rfl : j = i := by omega
      have g1 : ¬ (0 : Int) < (j : Int) - (j : Int) := by omega
      by_cases hz : m.tmod 2 = 0
      · have hzb : (m.tmod 2 != 0) = false := by simp [hz]
        have HE : Hid (n / 2 ^ j % 2 = 0) := Lib.hid (by rw [HM.out]; exact Int.emod_eq_zero_of_dvd (Int.dvd_of_tmod_eq_zero hz))
        go_wp2_with fail
        go_ret
        exact ⟨by rw [HE.out]; rfl, rfl⟩
      · have hzb : (m.tmod 2 != 0) = true := by simp [hz]
        have HE : Hid (n / 2 ^ j % 2 = 1) := Lib.hid (by
          rw [HM.out]
          have : m % 2 ≠ 0 := fun h2 => hz (Int.tmod_eq_zero_of_dvd (Int.dvd_of_emod_eq_zero h2))
          omega)
        go_wp2_with fail
        go_ret
        exact ⟨by rw [HE.out]; rfl, rfl⟩

theorem bit_nat (n : Int) (k : Nat) (h : k < 32) : n / 2 ^ k % 2 = ((nat32 n / 2 ^ k % 2 : Nat) : Int) := by
  have e : ((nat32 n : Nat) : Int) = n % 4294967296 := nat32_cast n
  have h1 : ((nat32 n / 2 ^ k % 2 : Nat) : Int) = (n % 4294967296) / 2 ^ k % 2 := by rw [← e]; simp
  rw [h1]
  have hp : (2 : Int) ^ 32 = 2 ^ k * (2 * 2 ^ (31 - k)) := by
    rw [← Int.pow_succ', ← Int.pow_add]
    congr 1
    omega
  have h2 : n = n % 4294967296 + 2 ^ k * (2 * 2 ^ (31 - k)) * (n / 4294967296) := by
    rw [← hp]
    have := Int.emod_add_mul_ediv n 4294967296
    omega
  have h3 : n / 2 ^ k = (n % 4294967296) / 2 ^ k + 2 * (2 ^ (31 - k) * (n / 4294967296)) := by
    conv => lhs; rw [h2]
    rw [Int.mul_assoc, Int.add_mul_ediv_left _ _ (Int.ne_of_gt (Int.pow_pos (by decide))), Int.mul_assoc]
  rw [h3]
  omega

/-- Bits of a number, so many from one on, laid into a word at a place. -/
def layN (w N k b at' : Nat) : Nat := w ||| cutN N k b * 2 ^ at'
theorem lay_0 (w N k at' : Nat) : layN w N k 0 at' = w := by simp [layN, cutN, Nat.mod_one]
theorem bit_of (N k : Nat) : N / 2 ^ k % 2 = if N.testBit k then 1 else 0 := by
  rw [Nat.testBit_eq_decide_div_mod_eq]
  rcases Nat.mod_two_eq_zero_or_one (N / 2 ^ k) with h | h <;> simp [h]
theorem lay_no (w N k i at' : Nat) (h : N / 2 ^ (k + i) % 2 = 0) : layN w N k (i + 1) at' = layN w N k i at' := by
  have hb : N.testBit (k + i) = false := by
    rw [bit_of] at h
    cases e : N.testBit (k + i) with
    | false => rfl
    | true => rw [e] at h; cases h
  apply Nat.eq_of_testBit_eq
  intro j
  simp only [layN, cutN, Nat.testBit_or, Nat.testBit_mul_two_pow, Nat.testBit_mod_two_pow, Nat.testBit_div_two_pow]
  by_cases hj : j - at' = i
  · rw [hj, Nat.add_comm i k, hb]; simp
  · rw [show decide (j - at' < i + 1) = decide (j - at' < i) from by
      by_cases h1 : j - at' < i
      · simp [h1]; omega
      · simp [h1]; omega]
theorem lay_yes (w N k i at' : Nat) (h : N / 2 ^ (k + i) % 2 = 1) : layN w N k (i + 1) at' = layN w N k i at' ||| 2 ^ (at' + i) := by
  have hb : N.testBit (k + i) = true := by
    rw [bit_of] at h
    cases e : N.testBit (k + i) with
    | false => rw [e] at h; cases h
    | true => rfl
  apply Nat.eq_of_testBit_eq
  intro j
  simp only [layN, cutN, Nat.testBit_or, Nat.testBit_mul_two_pow, Nat.testBit_mod_two_pow, Nat.testBit_div_two_pow, Nat.testBit_two_pow]
  by_cases hj : at' + i = j
  · subst hj
    rw [show at' + i - at' = i from by omega, Nat.add_comm i k, hb]
    simp
  · by_cases h0 : at' ≤ j
    · rw [show decide (j - at' < i + 1) = decide (j - at' < i) from by
        by_cases h1 : j - at' < i
        · simp [h1]; omega
        · simp [h1]; omega]
      simp [hj]
    · simp [h0, hj]
theorem lay_lt (w N k i at' : Nat) (hw : w < 4294967296) (h : at' + i ≤ 32) : layN w N k i at' < 4294967296 := by
  refine Nat.or_lt_two_pow (n := 32) hw ?_
  have h1 : cutN N k i < 2 ^ i := Nat.mod_lt _ (Nat.pow_pos (by decide))
  have h2 : cutN N k i * 2 ^ at' < 2 ^ i * 2 ^ at' := Nat.mul_lt_mul_of_pos_right h1 (Nat.pow_pos (by decide))
  rw [← Nat.pow_add] at h2
  exact Nat.lt_of_lt_of_le h2 (Nat.pow_le_pow_right (by decide) (by omega))
theorem or_bit (w j : Nat) (hw : w < 4294967296) (hj : j < 32) : bits .or .u32 (w : Int) (2 ^ j % 4294967296) = ((w ||| 2 ^ j : Nat) : Int) := by
  have h2 : (2 : Nat) ^ j < 4294967296 := Nat.pow_lt_pow_right (by decide) hj
  have e : (2 : Int) ^ j % 4294967296 = ((2 ^ j : Nat) : Int) := by
    have : ((2 ^ j : Nat) : Int) = (2 : Int) ^ j := by simp
    rw [← this]
    exact Int.emod_eq_of_lt (Int.natCast_nonneg _) (Int.ofNat_lt.2 h2)
  rw [e, u32_or_nat _ _ hw h2]

set_option maxHeartbeats 1600000 in
theorem lay_any (w0 : Nat) (n : Int) (k many at' : Nat) (hw : w0 < 4294967296) (hn : -2147483648 ≤ n ∧ n ≤ 2147483647) (hk : k + many ≤ 32) (ha : at' + many ≤ 32) (w : World) :
    Calls Tryd.prog 29 #[.int .u32 w0, .int .i64 n, .int .i64 k, .int .i64 many, .int .i64 at'] w fun e w' => e = .returned (.int .u32 (layN w0 (nat32 n) k many at' : Nat)) ∧ w = w' := by
  have HB := Lib.hid (fun (i : Nat) (hi : i < 32) (W : World) => (bit_nat n i hi) ▸ bit_any n i (by omega) (by omega) W)
  have hk63 : (k : Int) ≤ 32 := by omega
  have ha63 : (at' : Int) ≤ 32 := by omega
  have hm63 : (many : Int) ≤ 32 := by omega
  have H0 : Hid (layN w0 (nat32 n) k 0 at' = w0) := Lib.hid (lay_0 _ _ _ _)
  clear hn
  go_enter Tryd.func29, Tryd.ntmps29
  go_wp2_with fail
  go_loop [0, 11] (fun a b => ∃ i : Nat, i ≤ many ∧ a = .int .u32 (layN w0 (nat32 n) k i at' : Nat) ∧ b = .int .i64 i) (fun _ b => many - (intOf b).toNat)
  case atStart => exact ⟨0, by omega, by rw [H0.out], rfl⟩
  case round =>
    obtain ⟨i, hi, rfl, rfl⟩ := hrel
    rcases Nat.lt_or_ge i many with him | him
    · have him' : (i : Int) < (many : Int) := by omega
      have HC := Lib.hid (HB.out (k + i) (by omega))
      have hv := lay_lt w0 (nat32 n) k i at' hw (by omega)
      have HO := Lib.hid (or_bit (layN w0 (nat32 n) k i at') (at' + i) hv (by omega))
      obtain ⟨v, hve⟩ : ∃ v, layN w0 (nat32 n) k i at' = v := ⟨_, rfl⟩
      have HV := Lib.hid hve
      rw [hve] at hv HO
      simp only [hve]
      clear hve
      have ek : ((k + i : Nat) : Int) = (k : Int) + (i : Int) := by simp
      rw [ek] at HC
      clear ek
      rcases Nat.mod_two_eq_zero_or_one (nat32 n / 2 ^ (k + i)) with hb | hb
      · rw [hb] at HC
        have HN : Hid (layN w0 (nat32 n) k (i + 1) at' = v) := Lib.hid (by rw [lay_no _ _ _ _ _ hb, HV.out])
        clear hb
        go_wp2_with fail
        refine wp_loop_rounds 1 ?_
        rw [rounds_succ]
        go_wp2_with (go_at_call 49; (with_reducible refine (HC.out _).mono ?_); rintro e w' ⟨rfl, rfl⟩)
        go_round
        case rel => exact ⟨i + 1, by omega, by rw [HN.out], by go_num⟩
        case measure => simp [intOf] <;> omega
      · rw [hb] at HC
        have HN : Hid (layN w0 (nat32 n) k (i + 1) at' = v ||| 2 ^ (at' + i)) := Lib.hid (by rw [lay_yes _ _ _ _ _ hb, HV.out])
        clear hb
        go_wp2_with fail
        refine wp_loop_rounds 2 ?_
        rw [rounds_succ]
        go_wp2_with (go_at_call 49; (with_reducible refine (HC.out _).mono ?_); rintro e w' ⟨rfl, rfl⟩)
        rw [rounds_succ]
        go_wp2_with (go_at_call 49; (with_reducible refine (HC.out _).mono ?_); rintro e w' ⟨rfl, rfl⟩)
        go_round
        case rel => exact ⟨i + 1, by omega, by rw [HN.out, HO.out], by go_num⟩
        case measure => simp [intOf] <;> omega
    · obtain rfl : i = many := by omega
      go_wp2_with fail
      go_ret
      exact ⟨rfl, rfl⟩

theorem lay_reg (D : Nat) (h : D < 32) : cutN (nat32 (D : Int)) 0 5 = D := by
  have e : ((nat32 (D : Int) : Nat) : Int) = (D : Int) % 4294967296 := nat32_cast D
  generalize nat32 (D : Int) = N at *
  simp only [cutN]
  omega

theorem cell_alloc_at (w : World) (vs : Array Value) (t : TypeId) (j : Nat) (v : Value) (h : vs[j]? = some v) : (w.alloc (.cells vs t)).cell? ⟨w.heap.size, j, none⟩ = some v := by
  rw [cell_of_row _ _ j _ _ (0, 0) (heap_alloc_new w _)]
  exact h
end Go.Proofs.YtonkpojoniehlaaDoor
