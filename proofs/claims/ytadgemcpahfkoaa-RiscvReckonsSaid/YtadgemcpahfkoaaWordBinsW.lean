/-
  The walk of the law WordBins: it answers true and writes nothing that was there.
-/
import Derived.Test.YtadgemcpahfkoaaWords
import Derived.Test.YtadgemcpahfkoaaWordMathB
import Derived.Test.YtadgemcpahfkoaaRefs
import Derived.OpenShut
import Derived.Stop.Joined
import Derived.Deep.QuietTactic
import Derived.BigQuiet
import Derived.WalkSmall
namespace Go.Proofs.Ytadgemcpahfkoaa
open Go.RowKit

theorem ret_tup {a b : Int} {c d : Bool} (h : a = b) (h' : c = d) : Ending.returned (.tuple #[.int .i32 a, .bool c]) = .returned (.tuple #[.int .i32 b, .bool d]) := by rw [h, h']

theorem bits_any (n : Int) (h : -2147483648 ≤ n ∧ n ≤ 2147483647) (w : World) :
    Calls Try.prog 83 #[.int .i32 n] w fun e w' => e = .returned (.int .i64 (n % 4294967296)) ∧ w = w' := by
  by_cases hn : n < 0
  · go_enter Try.func83, Try.ntmps83
    go_wp2
    go_ret
    exact ⟨ret_int (by omega), rfl⟩
  · go_enter Try.func83, Try.ntmps83
    go_wp2
    go_ret
    exact ⟨ret_int (by omega), rfl⟩

theorem bits_q (n : Int) (h : -2147483648 ≤ n ∧ n ≤ 2147483647) (w : World) :
    Calls Try.prog 83 #[.int .i32 n] w fun e w' => e = .returned (.int .i64 (n % 4294967296)) ∧ w' = w :=
  (bits_any n h w).mono fun _ _ ⟨he, hw⟩ => ⟨he, hw.symm⟩

theorem floor_any (a k : Int) (h : -2147483648 ≤ a ∧ a ≤ 2147483647) (hk : 1 ≤ k ∧ k ≤ 2147483648) (w : World) :
    Calls Try.prog 84 #[.int .i64 a, .int .i64 k] w fun e w' => e = .returned (.int .i64 (a / k)) ∧ w = w' := by
  have H := Lib.hid (tdiv_floor a k (by omega))
  obtain ⟨b1, b2⟩ := tdiv_mul_bd a k h (by omega)
  obtain ⟨b3, b4⟩ : -2147483648 ≤ a.tdiv k ∧ a.tdiv k ≤ 2147483648 := by
    have h1 : (a.tdiv k).natAbs = a.natAbs / k.natAbs := Int.natAbs_tdiv a k
    have h2 : a.natAbs / k.natAbs ≤ a.natAbs := Nat.div_le_self _ _
    omega
  go_enter Try.func84, Try.ntmps84
  go_wp2
  all_goals
    go_ret
    exact ⟨ret_int (by have g := H.out; omega), rfl⟩

namespace WordBins
/-- What the operators of two words answer. -/
def binV (op a b : Int) : Int × Bool :=
  if op = 1 then (wrap32 (a + b), true)
  else if op = 2 then (wrap32 (a - b), true)
  else if op = 3 then (wrap32 (a * b), true)
  else if op = 4 then (if b = 0 then (0, false) else (wrap32 (a.tdiv b), true))
  else if op = 5 then (if b = 0 then (0, false) else (a.tmod b, true))
  else if op = 6 then (wrap32 (a * 2 ^ (b % 32).toNat), true)
  else if op = 7 then (a / 2 ^ (b % 32).toNat, true)
  else if op = 8 then (bits .and .i32 a b, true)
  else if op = 9 then (bits .or .i32 a b, true)
  else if op = 10 then (bits .xor .i32 a b, true)
  else if op = 11 then (truthI (decide (a < b)), true)
  else if op = 12 then (truthI (decide (a ≤ b)), true)
  else if op = 13 then (truthI (decide (b < a)), true)
  else if op = 14 then (truthI (decide (b ≤ a)), true)
  else if op = 15 then (truthI (a == b), true)
  else if op = 16 then (truthI (!(a == b)), true)
  else if op = 17 then (truthI (a != 0 && b != 0), true)
  else if op = 18 then (truthI (a != 0 || b != 0), true)
  else (0, false)

theorem ops (op : Int) : op = 1 ∨ op = 2 ∨ op = 3 ∨ op = 4 ∨ op = 5 ∨ op = 6 ∨ op = 7 ∨ op = 8 ∨ op = 9 ∨ op = 10 ∨ op = 11 ∨ op = 12 ∨ op = 13 ∨ op = 14 ∨ op = 15 ∨ op = 16 ∨ op = 17 ∨ op = 18 ∨ (op < 1 ∨ 18 < op) := by omega

theorem bin_any (op a b : Int) (w : World) :
    Calls Try.prog 57 #[.int .i64 op, .int .i32 a, .int .i32 b] w fun e w' => e = .returned (.tuple #[.int .i32 (binV op a b).1, .bool (binV op a b).2]) ∧ w = w' := by
  rcases ops op with rfl | rfl | rfl | rfl | rfl | rfl | rfl | rfl | rfl | rfl | rfl | rfl | rfl | rfl | rfl | rfl | rfl | rfl | h
  · exact bin_add a b w
  · exact bin_sub a b w
  · exact bin_mul a b w
  · by_cases hb : b = 0
    · subst hb
      exact bin_div0 4 a (.inl rfl) w
    · have e : binV 4 a b = (wrap32 (a.tdiv b), true) := by simp [binV, hb]
      rw [e]
      exact bin_div a b hb w
  · by_cases hb : b = 0
    · subst hb
      exact bin_div0 5 a (.inr rfl) w
    · have e : binV 5 a b = (a.tmod b, true) := by simp [binV, hb]
      rw [e]
      exact bin_rem a b hb w
  · exact bin_shl a b w
  · exact bin_shr a b w
  · exact bin_and a b w
  · exact bin_or a b w
  · exact bin_xor a b w
  · exact bin_lt a b w
  · exact bin_le a b w
  · exact bin_gt a b w
  · exact bin_ge a b w
  · exact bin_eq a b w
  · exact bin_ne a b w
  · exact bin_both a b w
  · exact bin_one a b w
  · have e : binV op a b = (0, false) := by
      unfold binV
      repeat rw [if_neg (by omega)]
    rw [e]
    exact bin_other op a b h w

theorem bit_is (a : Int) (i : Nat) : (a % 4294967296 / tw i).tmod 2 = (((a % 4294967296).toNat / 2 ^ i % 2 : Nat) : Int) := by
  have h : ((a % 4294967296).toNat : Int) = a % 4294967296 := Int.toNat_of_nonneg (by omega)
  have e : tw i = ((2 ^ i : Nat) : Int) := by unfold tw; simp
  rw [← h, e, Int.tmod_eq_emod_of_nonneg (Int.ediv_nonneg (Int.natCast_nonneg _) (Int.natCast_nonneg _))]
  simp
/-- The first i places of a number. -/
def low (X i : Nat) : Int := ((X % 2 ^ i : Nat) : Int)
theorem low_bd (X i : Nat) (h : i ≤ 32) : 0 ≤ low X i ∧ low X i ≤ 4294967296 := by
  have h1 : X % 2 ^ i < 2 ^ i := Nat.mod_lt _ (Nat.pow_pos (by omega))
  have h2 : (2 : Nat) ^ i ≤ 2 ^ 32 := Nat.pow_le_pow_right (by omega) h
  unfold low
  omega
theorem low_step (X i : Nat) : low X (i + 1) = low X i + ((X / 2 ^ i % 2 : Nat) : Int) * tw i := by
  have e : tw i = ((2 ^ i : Nat) : Int) := by unfold tw; simp
  unfold low
  rw [mod_step, e]
  simp
theorem low_and (X Y i : Nat) (p q : Int) (hp : ((X / 2 ^ i % 2 : Nat) : Int) = p) (hq : ((Y / 2 ^ i % 2 : Nat) : Int) = q) : low (X &&& Y) (i + 1) = low (X &&& Y) i + p * q * tw i := by
  rw [low_step, and_bit, ← hp, ← hq]
  simp
theorem low_or (X Y i : Nat) (p q : Int) (hp : ((X / 2 ^ i % 2 : Nat) : Int) = p) (hq : ((Y / 2 ^ i % 2 : Nat) : Int) = q) : low (X ||| Y) (i + 1) = low (X ||| Y) i + (p + q - p * q) * tw i := by
  have h := or_bit X Y i
  rw [low_step]
  have e : (((X ||| Y) / 2 ^ i % 2 : Nat) : Int) = p + q - p * q := by
    rw [← hp, ← hq]
    have h' : (((X ||| Y) / 2 ^ i % 2 + X / 2 ^ i % 2 * (Y / 2 ^ i % 2) : Nat) : Int) = ((X / 2 ^ i % 2 + Y / 2 ^ i % 2 : Nat) : Int) := by rw [h]
    rw [Int.natCast_add, Int.natCast_add, Int.natCast_mul] at h'
    omega
  rw [e]

theorem rem_end (a b : Int) (ha : -2147483648 ≤ a ∧ a ≤ 2147483647) : wrap32 (wrap64 (a - wrap64 (wrap64 (a.tdiv b) * b))) = a.tmod b := by
  have t1 : (a.tdiv b).natAbs = a.natAbs / b.natAbs := Int.natAbs_tdiv a b
  have t2 : a.natAbs / b.natAbs ≤ a.natAbs := Nat.div_le_self _ _
  rw [show wrap64 (a.tdiv b) = a.tdiv b from by unfold wrap64; omega]
  have e := Int.mul_tdiv_add_tmod a b
  rw [Int.mul_comm] at e
  have h := tmod_bd a b ha
  have e2 : a.tdiv b * b = a - a.tmod b := by omega
  rw [e2]
  unfold wrap64 wrap32
  omega
theorem low_full (X : Nat) (h : X < 2 ^ 32) : low X 32 = (X : Int) := by
  unfold low; rw [Nat.mod_eq_of_lt h]
theorem nat32 (a : Int) : (a % 4294967296).toNat < 2 ^ 32 := by omega
theorem and_end (a b : Int) : wrap32 (low ((a % 4294967296).toNat &&& (b % 4294967296).toNat) 32) = bits .and .i32 a b := by
  rw [and_is, BitVec.toNat_and, bv_nat, bv_nat, low_full _ (Nat.and_lt_two_pow _ (nat32 b))]
theorem or_end (a b : Int) : wrap32 (low ((a % 4294967296).toNat ||| (b % 4294967296).toNat) 32) = bits .or .i32 a b := by
  rw [or_is, BitVec.toNat_or, bv_nat, bv_nat, low_full _ (Nat.or_lt_two_pow (nat32 a) (nat32 b))]
theorem xor_end (a b : Int) : wrap32 (low ((a % 4294967296).toNat ||| (b % 4294967296).toNat) 32 - low ((a % 4294967296).toNat &&& (b % 4294967296).toNat) 32) = bits .xor .i32 a b := by
  have h := xor_low (a % 4294967296).toNat (b % 4294967296).toNat 32
  have h2 : (a % 4294967296).toNat ^^^ (b % 4294967296).toNat < 2 ^ 32 := Nat.xor_lt_two_pow (nat32 a) (nat32 b)
  rw [Nat.mod_eq_of_lt h2] at h
  rw [xor_is, BitVec.toNat_xor, bv_nat, bv_nat]
  unfold low
  rw [← h]
  congr 1
  omega

set_option maxHeartbeats 4000000 in
set_option maxRecDepth 100000 in
theorem ref_bin (op a b : Int) (ha : -2147483648 ≤ a ∧ a ≤ 2147483647) (hb : -2147483648 ≤ b ∧ b ≤ 2147483647) (w : World) :
    Calls Try.prog 61 #[.int .i64 op, .int .i32 a, .int .i32 b] w fun e w' => e = .returned (.tuple #[.int .i32 (binV op a b).1, .bool (binV op a b).2]) ∧ ∃ n, w' = w.drewN n := by
  have HA := Lib.hid ha
  have HB := Lib.hid hb
  obtain ⟨ha1, ha2⟩ := ha
  obtain ⟨hb1, hb2⟩ := hb
  have hr1 : 0 ≤ b % 4294967296 % 32 := by omega
  have hr2 : b % 4294967296 % 32 < 32 := by omega
  go_enter Try.func61, Try.ntmps61
  go_wp2_with fail
  go_loop [10, 11] (fun m i => ∃ k : Nat, (k : Int) ≤ b % 4294967296 % 32 ∧ i = .int .i64 k ∧ m = .int .i64 (tw k)) (fun _ i => (32 - intOf i).toNat)
  case atStart => exact ⟨0, hr1, rfl, rfl⟩
  case round =>
    obtain ⟨k, hk, rfl, rfl⟩ := hrel
    obtain ⟨p1, p2⟩ := tw_bd k (by omega)
    by_cases hlt : (k : Int) < b % 4294967296 % 32
    · go_wp2_with (go_at_call 83; refine (bits_any _ HB.out _).mono ?_; rintro e w' ⟨rfl, rfl⟩)
      go_round
      case rel => exact ⟨k + 1, by omega, by go_num, by rw [tw_succ]⟩
      case measure => simp [intOf]; omega
    · have HK : Hid ((k : Int) = b % 4294967296 % 32) := Lib.hid (by omega)
      go_wp2_with (go_at_call 83; refine (bits_any _ HB.out _).mono ?_; rintro e w' ⟨rfl, rfl⟩)
      go_loopw [12, 13, 14, 15] (fun an orr pl i wr => ∃ j : Nat, j ≤ 32 ∧ i = .int .i64 j ∧ pl = .int .i64 (tw j) ∧ an = .int .i64 (low ((a % 4294967296).toNat &&& (b % 4294967296).toNat) j) ∧ orr = .int .i64 (low ((a % 4294967296).toNat ||| (b % 4294967296).toNat) j) ∧ ∃ n, wr = w.drewN n) (fun _ _ _ i _ => (32 - intOf i).toNat)
      case atStart => exact ⟨0, by omega, rfl, rfl, by simp [low, Nat.mod_one], by simp [low, Nat.mod_one], 0, rfl⟩
      case round =>
        obtain ⟨j, hj, rfl, rfl, rfl, rfl, hwr⟩ := hrel
        have HW := Lib.hid hwr
        clear hwr
        by_cases hlt : j < 32
        · obtain ⟨q1, q2⟩ := tw_bd j (by omega)
          have hA := bit_is a j
          have hB := bit_is b j
          have l1 := low_and ((a % 4294967296).toNat) ((b % 4294967296).toNat) j
          have l2 := low_or ((a % 4294967296).toNat) ((b % 4294967296).toNat) j
          obtain ⟨d1, d2⟩ := low_bd ((a % 4294967296).toNat &&& (b % 4294967296).toNat) j (by omega)
          obtain ⟨d3, d4⟩ := low_bd ((a % 4294967296).toNat ||| (b % 4294967296).toNat) j (by omega)
          have HL1 := Lib.hid l1
          have HL2 := Lib.hid l2
          clear l1 l2
          generalize low ((a % 4294967296).toNat &&& (b % 4294967296).toNat) j = an at *
          generalize low ((a % 4294967296).toNat ||| (b % 4294967296).toNat) j = orr at *
          have hp : (a % 4294967296).toNat / 2 ^ j % 2 = 0 ∨ (a % 4294967296).toNat / 2 ^ j % 2 = 1 := by omega
          have hq : (b % 4294967296).toNat / 2 ^ j % 2 = 0 ∨ (b % 4294967296).toNat / 2 ^ j % 2 = 1 := by omega
          have hplt : (j : Int) < 32 := by omega
          have hs := tw_succ j
          have HS := Lib.hid hs
          clear hs
          generalize tw j = pl at *
          rcases hp with hp | hp <;> rcases hq with hq | hq
          all_goals
            rw [hp] at hA
            rw [hq] at hB
            have G1 := HL1.out _ _ (congrArg Nat.cast hp) (congrArg Nat.cast hq)
            have G2 := HL2.out _ _ (congrArg Nat.cast hp) (congrArg Nat.cast hq)
            clear hp hq HL1 HL2
            have E1 := Lib.hid G1
            have E2 := Lib.hid G2
            clear G1 G2
            simp only [Int.natCast_zero, Int.natCast_one] at hA hB
            go_wp2_with fail
            go_quiet ((go_at_call 83; exact Calls.quiet_of_same (bits_q _ (by first | exact HA.out | exact HB.out) _)))
            go_wp2
            go_roundw
            case rel =>
              obtain ⟨n, hn⟩ := HW.out
              have g1 := E1.out
              have g2 := E2.out
              refine ⟨j + 1, by omega, by go_num, by rw [HS.out], by rw [g1]; simp, by rw [g2]; simp, ?_⟩
              exact ⟨n + nq, by rw [hn, World.drewN_drewN]⟩
            case measure => simp [intOf]; omega
        · obtain rfl : j = 32 := by omega
          clear hlt hj
          have HT : Hid (tw k = 2 ^ (b % 32).toNat) := Lib.hid (by have := HK.out; unfold tw; congr 1; omega)
          obtain ⟨m1, m2⟩ := mul_bd a b HA.out HB.out
          obtain ⟨s1, s2⟩ := low_bd ((a % 4294967296).toNat &&& (b % 4294967296).toNat) 32 (by omega)
          obtain ⟨s3, s4⟩ := low_bd ((a % 4294967296).toNat ||| (b % 4294967296).toNat) 32 (by omega)
          rcases ops op with rfl | rfl | rfl | rfl | rfl | rfl | rfl | rfl | rfl | rfl | rfl | rfl | rfl | rfl | rfl | rfl | rfl | rfl | h
          · go_wp2_with (first | (go_at_call 39; refine (round_any _ _).mono ?_; rintro e w' ⟨rfl, rfl⟩) | (go_at_call 85; refine (ref_truth _ _).mono ?_; rintro e w' ⟨rfl, rfl⟩) | (go_at_call 84; refine (floor_any _ _ HA.out ⟨p1, p2⟩ _).mono ?_; rintro e w' ⟨rfl, rfl⟩))
            go_ret2
            exact ⟨ret_tup rfl rfl, HW.out⟩
          · go_wp2_with (first | (go_at_call 39; refine (round_any _ _).mono ?_; rintro e w' ⟨rfl, rfl⟩) | (go_at_call 85; refine (ref_truth _ _).mono ?_; rintro e w' ⟨rfl, rfl⟩) | (go_at_call 84; refine (floor_any _ _ HA.out ⟨p1, p2⟩ _).mono ?_; rintro e w' ⟨rfl, rfl⟩))
            go_ret2
            exact ⟨ret_tup rfl rfl, HW.out⟩
          · go_wp2_with (first | (go_at_call 39; refine (round_any _ _).mono ?_; rintro e w' ⟨rfl, rfl⟩) | (go_at_call 85; refine (ref_truth _ _).mono ?_; rintro e w' ⟨rfl, rfl⟩) | (go_at_call 84; refine (floor_any _ _ HA.out ⟨p1, p2⟩ _).mono ?_; rintro e w' ⟨rfl, rfl⟩))
            go_ret2
            exact ⟨ret_tup rfl rfl, HW.out⟩
          · by_cases hb0 : b = 0
            · subst hb0
              go_wp2_with (first | (go_at_call 39; refine (round_any _ _).mono ?_; rintro e w' ⟨rfl, rfl⟩) | (go_at_call 85; refine (ref_truth _ _).mono ?_; rintro e w' ⟨rfl, rfl⟩) | (go_at_call 84; refine (floor_any _ _ HA.out ⟨p1, p2⟩ _).mono ?_; rintro e w' ⟨rfl, rfl⟩))
              go_ret2
              exact ⟨ret_tup rfl rfl, HW.out⟩
            · have e : binV 4 a b = (wrap32 (a.tdiv b), true) := by simp [binV, hb0]
              have E := Lib.hid e
              clear e
              have hbb : (b != 0) = true := by simpa using hb0
              go_wp2_with (first | (go_at_call 39; refine (round_any _ _).mono ?_; rintro e w' ⟨rfl, rfl⟩) | (go_at_call 85; refine (ref_truth _ _).mono ?_; rintro e w' ⟨rfl, rfl⟩) | (go_at_call 84; refine (floor_any _ _ HA.out ⟨p1, p2⟩ _).mono ?_; rintro e w' ⟨rfl, rfl⟩))
              go_ret2
              exact ⟨ret_tup (by rw [E.out, wrap32_64]) (by rw [E.out]), HW.out⟩
          · by_cases hb0 : b = 0
            · subst hb0
              go_wp2_with (first | (go_at_call 39; refine (round_any _ _).mono ?_; rintro e w' ⟨rfl, rfl⟩) | (go_at_call 85; refine (ref_truth _ _).mono ?_; rintro e w' ⟨rfl, rfl⟩) | (go_at_call 84; refine (floor_any _ _ HA.out ⟨p1, p2⟩ _).mono ?_; rintro e w' ⟨rfl, rfl⟩))
              go_ret2
              exact ⟨ret_tup rfl rfl, HW.out⟩
            · have e : binV 5 a b = (a.tmod b, true) := by simp [binV, hb0]
              have E := Lib.hid e
              clear e
              have hbb : (b != 0) = true := by simpa using hb0
              go_wp2_with (first | (go_at_call 39; refine (round_any _ _).mono ?_; rintro e w' ⟨rfl, rfl⟩) | (go_at_call 85; refine (ref_truth _ _).mono ?_; rintro e w' ⟨rfl, rfl⟩) | (go_at_call 84; refine (floor_any _ _ HA.out ⟨p1, p2⟩ _).mono ?_; rintro e w' ⟨rfl, rfl⟩))
              go_ret2
              exact ⟨ret_tup (by rw [E.out]; exact rem_end a b HA.out) (by rw [E.out]), HW.out⟩
          · go_wp2_with (first | (go_at_call 39; refine (round_any _ _).mono ?_; rintro e w' ⟨rfl, rfl⟩) | (go_at_call 85; refine (ref_truth _ _).mono ?_; rintro e w' ⟨rfl, rfl⟩) | (go_at_call 84; refine (floor_any _ _ HA.out ⟨p1, p2⟩ _).mono ?_; rintro e w' ⟨rfl, rfl⟩))
            go_ret2
            exact ⟨ret_tup (by rw [wrap32_64, HT.out]; rfl) rfl, HW.out⟩
          · obtain ⟨hd1, hd2⟩ := div_bd a (tw k) HA.out p1
            go_wp2_with (first | (go_at_call 39; refine (round_any _ _).mono ?_; rintro e w' ⟨rfl, rfl⟩) | (go_at_call 85; refine (ref_truth _ _).mono ?_; rintro e w' ⟨rfl, rfl⟩) | (go_at_call 84; refine (floor_any _ _ HA.out ⟨p1, p2⟩ _).mono ?_; rintro e w' ⟨rfl, rfl⟩))
            go_ret2
            exact ⟨ret_tup (by rw [wrap32_self _ (div_bd a (tw k) HA.out p1), HT.out]; rfl) rfl, HW.out⟩
          · go_wp2_with (first | (go_at_call 39; refine (round_any _ _).mono ?_; rintro e w' ⟨rfl, rfl⟩) | (go_at_call 85; refine (ref_truth _ _).mono ?_; rintro e w' ⟨rfl, rfl⟩) | (go_at_call 84; refine (floor_any _ _ HA.out ⟨p1, p2⟩ _).mono ?_; rintro e w' ⟨rfl, rfl⟩))
            go_ret2
            exact ⟨ret_tup (and_end a b) rfl, HW.out⟩
          · go_wp2_with (first | (go_at_call 39; refine (round_any _ _).mono ?_; rintro e w' ⟨rfl, rfl⟩) | (go_at_call 85; refine (ref_truth _ _).mono ?_; rintro e w' ⟨rfl, rfl⟩) | (go_at_call 84; refine (floor_any _ _ HA.out ⟨p1, p2⟩ _).mono ?_; rintro e w' ⟨rfl, rfl⟩))
            go_ret2
            exact ⟨ret_tup (or_end a b) rfl, HW.out⟩
          · go_wp2_with (first | (go_at_call 39; refine (round_any _ _).mono ?_; rintro e w' ⟨rfl, rfl⟩) | (go_at_call 85; refine (ref_truth _ _).mono ?_; rintro e w' ⟨rfl, rfl⟩) | (go_at_call 84; refine (floor_any _ _ HA.out ⟨p1, p2⟩ _).mono ?_; rintro e w' ⟨rfl, rfl⟩))
            go_ret2
            exact ⟨ret_tup (xor_end a b) rfl, HW.out⟩
          · go_wp2_with (first | (go_at_call 39; refine (round_any _ _).mono ?_; rintro e w' ⟨rfl, rfl⟩) | (go_at_call 85; refine (ref_truth _ _).mono ?_; rintro e w' ⟨rfl, rfl⟩) | (go_at_call 84; refine (floor_any _ _ HA.out ⟨p1, p2⟩ _).mono ?_; rintro e w' ⟨rfl, rfl⟩))
            go_ret2
            exact ⟨ret_tup rfl rfl, HW.out⟩
          · go_wp2_with (first | (go_at_call 39; refine (round_any _ _).mono ?_; rintro e w' ⟨rfl, rfl⟩) | (go_at_call 85; refine (ref_truth _ _).mono ?_; rintro e w' ⟨rfl, rfl⟩) | (go_at_call 84; refine (floor_any _ _ HA.out ⟨p1, p2⟩ _).mono ?_; rintro e w' ⟨rfl, rfl⟩))
            go_ret2
            exact ⟨ret_tup rfl rfl, HW.out⟩
          · go_wp2_with (first | (go_at_call 39; refine (round_any _ _).mono ?_; rintro e w' ⟨rfl, rfl⟩) | (go_at_call 85; refine (ref_truth _ _).mono ?_; rintro e w' ⟨rfl, rfl⟩) | (go_at_call 84; refine (floor_any _ _ HA.out ⟨p1, p2⟩ _).mono ?_; rintro e w' ⟨rfl, rfl⟩))
            go_ret2
            exact ⟨ret_tup rfl rfl, HW.out⟩
          · go_wp2_with (first | (go_at_call 39; refine (round_any _ _).mono ?_; rintro e w' ⟨rfl, rfl⟩) | (go_at_call 85; refine (ref_truth _ _).mono ?_; rintro e w' ⟨rfl, rfl⟩) | (go_at_call 84; refine (floor_any _ _ HA.out ⟨p1, p2⟩ _).mono ?_; rintro e w' ⟨rfl, rfl⟩))
            go_ret2
            exact ⟨ret_tup rfl rfl, HW.out⟩
          · go_wp2_with (first | (go_at_call 39; refine (round_any _ _).mono ?_; rintro e w' ⟨rfl, rfl⟩) | (go_at_call 85; refine (ref_truth _ _).mono ?_; rintro e w' ⟨rfl, rfl⟩) | (go_at_call 84; refine (floor_any _ _ HA.out ⟨p1, p2⟩ _).mono ?_; rintro e w' ⟨rfl, rfl⟩))
            go_ret2
            exact ⟨ret_tup rfl rfl, HW.out⟩
          · go_wp2_with (first | (go_at_call 39; refine (round_any _ _).mono ?_; rintro e w' ⟨rfl, rfl⟩) | (go_at_call 85; refine (ref_truth _ _).mono ?_; rintro e w' ⟨rfl, rfl⟩) | (go_at_call 84; refine (floor_any _ _ HA.out ⟨p1, p2⟩ _).mono ?_; rintro e w' ⟨rfl, rfl⟩))
            go_ret2
            exact ⟨ret_tup rfl rfl, HW.out⟩
          · go_wp2_with (first | (go_at_call 39; refine (round_any _ _).mono ?_; rintro e w' ⟨rfl, rfl⟩) | (go_at_call 85; refine (ref_truth _ _).mono ?_; rintro e w' ⟨rfl, rfl⟩) | (go_at_call 84; refine (floor_any _ _ HA.out ⟨p1, p2⟩ _).mono ?_; rintro e w' ⟨rfl, rfl⟩))
            go_ret2
            exact ⟨ret_tup (by rw [mul_ne]; rfl) rfl, HW.out⟩
          · by_cases ha0 : a = 0
            · subst ha0
              go_wp2_with (first | (go_at_call 39; refine (round_any _ _).mono ?_; rintro e w' ⟨rfl, rfl⟩) | (go_at_call 85; refine (ref_truth _ _).mono ?_; rintro e w' ⟨rfl, rfl⟩) | (go_at_call 84; refine (floor_any _ _ HA.out ⟨p1, p2⟩ _).mono ?_; rintro e w' ⟨rfl, rfl⟩))
              go_ret2
              exact ⟨ret_tup rfl rfl, HW.out⟩
            · have e : binV 18 a b = (truthI true, true) := by
                show (truthI (a != 0 || b != 0), true) = _
                rw [show (a != 0) = true from by simpa using ha0]
                rfl
              have E := Lib.hid e
              clear e
              go_wp2_with (first | (go_at_call 39; refine (round_any _ _).mono ?_; rintro e w' ⟨rfl, rfl⟩) | (go_at_call 85; refine (ref_truth _ _).mono ?_; rintro e w' ⟨rfl, rfl⟩) | (go_at_call 84; refine (floor_any _ _ HA.out ⟨p1, p2⟩ _).mono ?_; rintro e w' ⟨rfl, rfl⟩))
              go_ret2
              exact ⟨ret_tup (by rw [E.out]) (by rw [E.out]), HW.out⟩
          · have e : binV op a b = (0, false) := by
              unfold binV
              repeat rw [if_neg (by omega)]
            have E := Lib.hid e
            clear e
            rcases h with h | h <;>
            · go_wp2_with (first | (go_at_call 39; refine (round_any _ _).mono ?_; rintro e w' ⟨rfl, rfl⟩) | (go_at_call 85; refine (ref_truth _ _).mono ?_; rintro e w' ⟨rfl, rfl⟩) | (go_at_call 84; refine (floor_any _ _ HA.out ⟨p1, p2⟩ _).mono ?_; rintro e w' ⟨rfl, rfl⟩))
              go_ret2
              exact ⟨ret_tup (by rw [E.out]) (by rw [E.out]), HW.out⟩

end WordBins

end Go.Proofs.Ytadgemcpahfkoaa
