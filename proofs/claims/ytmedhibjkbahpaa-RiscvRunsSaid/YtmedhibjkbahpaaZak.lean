/-
  The walk of the law WordBins: it answers true and writes nothing that was there.
  Contracts of riscv.Step and of what it calls: what an instruction makes of two words, and where it goes on.
  Contract of riscv.Step.
-/
import Derived.Test.YtmedhibjkbahpaaZaf
import Derived.Test.YtmedhibjkbahpaaZad
import Derived.Test.YtmedhibjkbahpaaZag
import Derived.OpenShut
import Derived.Stop.Joined
import Derived.Deep.QuietTactic
import Derived.BigQuiet
import Derived.WalkSmall
import Derived.Below
import Derived.RegionTactic
import Derived.ChangeAlike
namespace Go.Proofs.Ytmedhibjkbahpaa
open Go.RowKit

theorem ret_tup {a b : Int} {c d : Bool} (h : a = b) (h' : c = d) : Ending.returned (.tuple #[.int .i32 a, .bool c]) = .returned (.tuple #[.int .i32 b, .bool d]) := by rw [h, h']

theorem bits_any (n : Int) (h : -2147483648 ≤ n ∧ n ≤ 2147483647) (w : World) :
    Calls Try.prog 83 #[.int .i32 n] w fun e w' => e = .returned (.int .i64 (n % 4294967296)) ∧ w = w' := by
  by_cases hn : n < 0
  · go_enter Try.func83, Try.ntmps83
    go_wp2
    go_ret
    exact ⟨ret_int (by omega), rfl⟩
  · go_enter Try.func83, Try.ntmps83
    go_wp2
    go_ret
    exact ⟨ret_int (by omega), rfl⟩

theorem bits_q (n : Int) (h : -2147483648 ≤ n ∧ n ≤ 2147483647) (w : World) :
    Calls Try.prog 83 #[.int .i32 n] w fun e w' => e = .returned (.int .i64 (n % 4294967296)) ∧ w' = w :=
  (bits_any n h w).mono fun _ _ ⟨he, hw⟩ => ⟨he, hw.symm⟩

theorem floor_any (a k : Int) (h : -2147483648 ≤ a ∧ a ≤ 2147483647) (hk : 1 ≤ k ∧ k ≤ 2147483648) (w : World) :
    Calls Try.prog 84 #[.int .i64 a, .int .i64 k] w fun e w' => e = .returned (.int .i64 (a / k)) ∧ w = w' := by
  have H := Lib.hid (tdiv_floor a k (by omega))
  obtain ⟨b1, b2⟩ := tdiv_mul_bd a k h (by omega)
  obtain ⟨b3, b4⟩ : -2147483648 ≤ a.tdiv k ∧ a.tdiv k ≤ 2147483648 := by
    have h1 : (a.tdiv k).natAbs = a.natAbs / k.natAbs := Int.natAbs_tdiv a k
    have h2 : a.natAbs / k.natAbs ≤ a.natAbs := Nat.div_le_self _ _
    omega
  go_enter Try.func84, Try.ntmps84
  go_wp2
  all_goals
    go_ret
    exact ⟨ret_int (by have g := H.out; omega), rfl⟩

namespace WordBins
/-- What the operators of two words answer. -/
def binV (op a b : Int) : Int × Bool :=
  if op = 1 then (wrap32 (a + b), true)
  else if op = 2 then (wrap32 (a - b), true)
  else if op = 3 then (wrap32 (a * b), true)
  else if op = 4 then (if b = 0 then (0, false) else (wrap32 (a.tdiv b), true))
  else if op = 5 then (if b = 0 then (0, false) else (a.tmod b, true))
  else if op = 6 then (wrap32 (a * 2 ^ (b % 32).toNat), true)
  else if op = 7 then (a / 2 ^ (b % 32).toNat, true)
  else if op = 8 then (bits .and .i32 a b, true)
  else if op = 9 then (bits .or .i32 a b, true)
  else if op = 10 then (bits .xor .i32 a b, true)
  else if op = 11 then (truthI (decide (a < b)), true)
  else if op = 12 then (truthI (decide (a ≤ b)), true)
  else if op = 13 then (truthI (decide (b < a)), true)
  else if op = 14 then (truthI (decide (b ≤ a)), true)
  else if op = 15 then (truthI (a == b), true)
  else if op = 16 then (truthI (!(a == b)), true)
  else if op = 17 then (truthI (a != 0 && b != 0), true)
  else if op = 18 then (truthI (a != 0 || b != 0), true)
  else (0, false)

theorem ops (op : Int) : op = 1 ∨ op = 2 ∨ op = 3 ∨ op = 4 ∨ op = 5 ∨ op = 6 ∨ op = 7 ∨ op = 8 ∨ op = 9 ∨ op = 10 ∨ op = 11 ∨ op = 12 ∨ op = 13 ∨ op = 14 ∨ op = 15 ∨ op = 16 ∨ op = 17 ∨ op = 18 ∨ (op < 1 ∨ 18 < op) := by omega

theorem bin_any (op a b : Int) (w : World) :
    Calls Try.prog 57 #[.int .i64 op, .int .i32 a, .int .i32 b] w fun e w' => e = .returned (.tuple #[.int .i32 (binV op a b).1, .bool (binV op a b).2]) ∧ w = w' := by
  rcases ops op with rfl | rfl | rfl | rfl | rfl | rfl | rfl | rfl | rfl | rfl | rfl | rfl | rfl | rfl | rfl | rfl | rfl | rfl | h
  · exact bin_add a b w
  · exact bin_sub a b w
  · exact bin_mul a b w
  · by_cases hb : b = 0
    · subst hb
      exact bin_div0 4 a (.inl rfl) w
    · have e : binV 4 a b = (wrap32 (a.tdiv b), true) := by simp [binV, hb]
      rw [e]
      exact bin_div a b hb w
  · by_cases hb : b = 0
    · subst hb
      exact bin_div0 5 a (.inr rfl) w
    · have e : binV 5 a b = (a.tmod b, true) := by simp [binV, hb]
      rw [e]
      exact bin_rem a b hb w
  · exact bin_shl a b w
  · exact bin_shr a b w
  · exact bin_and a b w
  · exact bin_or a b w
  · exact bin_xor a b w
  · exact bin_lt a b w
  · exact bin_le a b w
  · exact bin_gt a b w
  · exact bin_ge a b w
  · exact bin_eq a b w
  · exact bin_ne a b w
  · exact bin_both a b w
  · exact bin_one a b w
  · have e : binV op a b = (0, false) := by
      unfold binV
      repeat rw [if_neg (by omega)]
    rw [e]
    exact bin_other op a b h w

theorem bit_is (a : Int) (i : Nat) : (a % 4294967296 / tw i).tmod 2 = (((a % 4294967296).toNat / 2 ^ i % 2 : Nat) : Int) := by
  have h : ((a % 4294967296).toNat : Int) = a % 4294967296 := Int.toNat_of_nonneg (by omega)
  have e : tw i = ((2 ^ i : Nat) : Int) := by unfold tw; simp
  rw [← h, e, Int.tmod_eq_emod_of_nonneg (Int.ediv_nonneg (Int.natCast_nonneg _) (Int.natCast_nonneg _))]
  simp
/-- The first i places of a number. -/
def low (X i : Nat) : Int := ((X % 2 ^ i : Nat) : Int)
theorem low_bd (X i : Nat) (h : i ≤ 32) : 0 ≤ low X i ∧ low X i ≤ 4294967296 := by
  have h1 : X % 2 ^ i < 2 ^ i := Nat.mod_lt _ (Nat.pow_pos (by omega))
  have h2 : (2 : Nat) ^ i ≤ 2 ^ 32 := Nat.pow_le_pow_right (by omega) h
  unfold low
  omega
theorem low_step (X i : Nat) : low X (i + 1) = low X i + ((X / 2 ^ i % 2 : Nat) : Int) * tw i := by
  have e : tw i = ((2 ^ i : Nat) : Int) := by unfold tw; simp
  unfold low
  rw [mod_step, e]
  simp
theorem low_and (X Y i : Nat) (p q : Int) (hp : ((X / 2 ^ i % 2 : Nat) : Int) = p) (hq : ((Y / 2 ^ i % 2 : Nat) : Int) = q) : low (X &&& Y) (i + 1) = low (X &&& Y) i + p * q * tw i := by
  rw [low_step, and_bit, ← hp, ← hq]
  simp
theorem low_or (X Y i : Nat) (p q : Int) (hp : ((X / 2 ^ i % 2 : Nat) : Int) = p) (hq : ((Y / 2 ^ i % 2 : Nat) : Int) = q) : low (X ||| Y) (i + 1) = low (X ||| Y) i + (p + q - p * q) * tw i := by
  have h := or_bit X Y i
  rw [low_step]
  have e : (((X ||| Y) / 2 ^ i % 2 : Nat) : Int) = p + q - p * q := by
    rw [← hp, ← hq]
    have h' : (((X ||| Y) / 2 ^ i % 2 + X / 2 ^ i % 2 * (Y / 2 ^ i % 2) : Nat) : Int) = ((X / 2 ^ i % 2 + Y / 2 ^ i % 2 : Nat) : Int) := by rw [h]
    rw [Int.natCast_add, Int.natCast_add, Int.natCast_mul] at h'
    omega
  rw [e]

theorem rem_end (a b : Int) (ha : -2147483648 ≤ a ∧ a ≤ 2147483647) : wrap32 (wrap64 (a - wrap64 (wrap64 (a.tdiv b) * b))) = a.tmod b := by
  have t1 : (a.tdiv b).natAbs = a.natAbs / b.natAbs := Int.natAbs_tdiv a b
  have t2 : a.natAbs / b.natAbs ≤ a.natAbs := Nat.div_le_self _ _
  rw [show wrap64 (a.tdiv b) = a.tdiv b from by unfold wrap64; omega]
  have e := Int.mul_tdiv_add_tmod a b
  rw [Int.mul_comm] at e
  have h := tmod_bd a b ha
  have e2 : a.tdiv b * b = a - a.tmod b := by omega
  rw [e2]
  unfold wrap64 wrap32
  omega
theorem low_full (X : Nat) (h : X < 2 ^ 32) : low X 32 = (X : Int) := by
  unfold low; rw [Nat.mod_eq_of_lt h]
theorem nat32 (a : Int) : (a % 4294967296).toNat < 2 ^ 32 := by omega
theorem and_end (a b : Int) : wrap32 (low ((a % 4294967296).toNat &&& (b % 4294967296).toNat) 32) = bits .and .i32 a b := by
  rw [and_is, BitVec.toNat_and, bv_nat, bv_nat, low_full _ (Nat.and_lt_two_pow _ (nat32 b))]
theorem or_end (a b : Int) : wrap32 (low ((a % 4294967296).toNat ||| (b % 4294967296).toNat) 32) = bits .or .i32 a b := by
  rw [or_is, BitVec.toNat_or, bv_nat, bv_nat, low_full _ (Nat.or_lt_two_pow (nat32 a) (nat32 b))]
theorem xor_end (a b : Int) : wrap32 (low ((a % 4294967296).toNat ||| (b % 4294967296).toNat) 32 - low ((a % 4294967296).toNat &&& (b % 4294967296).toNat) 32) = bits .xor .i32 a b := by
  have h := xor_low (a % 4294967296).toNat (b % 4294967296).toNat 32
  have h2 : (a % 4294967296).toNat ^^^ (b % 4294967296).toNat < 2 ^ 32 := Nat.xor_lt_two_pow (nat32 a) (nat32 b)
  rw [Nat.mod_eq_of_lt h2] at h
  rw [xor_is, BitVec.toNat_xor, bv_nat, bv_nat]
  unfold low
  rw [← h]
  congr 1
  omega

set_option maxHeartbeats 4000000 in
set_option maxRecDepth 100000 in
theorem ref_bin (op a b : Int) (ha : -2147483648 ≤ a ∧ a ≤ 2147483647) (hb : -2147483648 ≤ b ∧ b ≤ 2147483647) (w : World) :
    Calls Try.prog 61 #[.int .i64 op, .int .i32 a, .int .i32 b] w fun e w' => e = .returned (.tuple #[.int .i32 (binV op a b).1, .bool (binV op a b).2]) ∧ ∃ n, w' = w.drewN n := by
  have HA := Lib.hid ha
  have HB := Lib.hid hb
  obtain ⟨ha1, ha2⟩ := ha
  obtain ⟨hb1, hb2⟩ := hb
  have hr1 : 0 ≤ b % 4294967296 % 32 := by omega
  have hr2 : b % 4294967296 % 32 < 32 := by omega
  go_enter Try.func61, Try.ntmps61
  go_wp2_with fail
  go_loop [10, 11] (fun m i => ∃ k : Nat, (k : Int) ≤ b % 4294967296 % 32 ∧ i = .int .i64 k ∧ m = .int .i64 (tw k)) (fun _ i => (32 - intOf i).toNat)
  case atStart => exact ⟨0, hr1, rfl, rfl⟩
  case round =>
    obtain ⟨k, hk, rfl, rfl⟩ := hrel
    obtain ⟨p1, p2⟩ := tw_bd k (by omega)
    by_cases hlt : (k : Int) < b % 4294967296 % 32
    · go_wp2_with (go_at_call 83; refine (bits_any _ HB.out _).mono ?_; rintro e w' ⟨rfl, rfl⟩)
      go_round
      case rel => exact ⟨k + 1, by omega, by go_num, by rw [tw_succ]⟩
      case measure => simp [intOf]; omega
    · have HK : Hid ((k : Int) = b % 4294967296 % 32) := Lib.hid (by omega)
      go_wp2_with (go_at_call 83; refine (bits_any _ HB.out _).mono ?_; rintro e w' ⟨rfl, rfl⟩)
      go_loopw [12, 13, 14, 15] (fun an orr pl i wr => ∃ j : Nat, j ≤ 32 ∧ i = .int .i64 j ∧ pl = .int .i64 (tw j) ∧ an = .int .i64 (low ((a % 4294967296).toNat &&& (b % 4294967296).toNat) j) ∧ orr = .int .i64 (low ((a % 4294967296).toNat ||| (b % 4294967296).toNat) j) ∧ ∃ n, wr = w.drewN n) (fun _ _ _ i _ => (32 - intOf i).toNat)
      case atStart => exact ⟨0, by omega, rfl, rfl, by simp [low, Nat.mod_one], by simp [low, Nat.mod_one], 0, rfl⟩
      case round =>
        obtain ⟨j, hj, rfl, rfl, rfl, rfl, hwr⟩ := hrel
        have HW := Lib.hid hwr
        clear hwr
        by_cases hlt : j < 32
        · obtain ⟨q1, q2⟩ := tw_bd j (by omega)
          have hA := bit_is a j
          have hB := bit_is b j
          have l1 := low_and ((a % 4294967296).toNat) ((b % 4294967296).toNat) j
          have l2 := low_or ((a % 4294967296).toNat) ((b % 4294967296).toNat) j
          obtain ⟨d1, d2⟩ := low_bd ((a % 4294967296).toNat &&& (b % 4294967296).toNat) j (by omega)
          obtain ⟨d3, d4⟩ := low_bd ((a % 4294967296).toNat ||| (b % 4294967296).toNat) j (by omega)
          have HL1 := Lib.hid l1
          have HL2 := Lib.hid l2
          clear l1 l2
          generalize low ((a % 4294967296).toNat &&& (b % 4294967296).toNat) j = an at *
          generalize low ((a % 4294967296).toNat ||| (b % 4294967296).toNat) j = orr at *
          have hp : (a % 4294967296).toNat / 2 ^ j % 2 = 0 ∨ (a % 4294967296).toNat / 2 ^ j % 2 = 1 := by omega
          have hq : (b % 4294967296).toNat / 2 ^ j % 2 = 0 ∨ (b % 4294967296).toNat / 2 ^ j % 2 = 1 := by omega
          have hplt : (j : Int) < 32 := by omega
          have hs := tw_succ j
          have HS := Lib.hid hs
          clear hs
          generalize tw j = pl at *
          rcases hp with hp | hp <;> rcases hq with hq | hq
          all_goals
            rw [hp] at hA
            rw [hq] at hB
            have G1 := HL1.out _ _ (congrArg Nat.cast hp) (congrArg Nat.cast hq)
            have G2 := HL2.out _ _ (congrArg Nat.cast hp) (congrArg Nat.cast hq)
            clear hp hq HL1 HL2
            have E1 := Lib.hid G1
            have E2 := Lib.hid G2
            clear G1 G2
            simp only [Int.natCast_zero, Int.natCast_one] at hA hB
            go_wp2_with fail
            go_quiet ((go_at_call 83; exact Calls.quiet_of_same (bits_q _ (by first | exact HA.out | exact HB.out) _)))
            go_wp2
            go_roundw
            case rel =>
              obtain ⟨n, hn⟩ := HW.out
              have g1 := E1.out
              have g2 := E2.out
              refine ⟨j + 1, by omega, by go_num, by rw [HS.out], by rw [g1]; simp, by rw [g2]; simp, ?_⟩
              exact ⟨n + nq, by rw [hn, World.drewN_drewN]⟩
            case measure => simp [intOf]; omega
        · obtain rfl : j = 32 := by omega
          clear hlt hj
          have HT : Hid (tw k = 2 ^ (b % 32).toNat) := Lib.hid (by have := HK.out; unfold tw; congr 1; omega)
          obtain ⟨m1, m2⟩ := mul_bd a b HA.out HB.out
          obtain ⟨s1, s2⟩ := low_bd ((a % 4294967296).toNat &&& (b % 4294967296).toNat) 32 (by omega)
          obtain ⟨s3, s4⟩ := low_bd ((a % 4294967296).toNat ||| (b % 4294967296).toNat) 32 (by omega)
          rcases ops op with rfl | rfl | rfl | rfl | rfl | rfl | rfl | rfl | rfl | rfl | rfl | rfl | rfl | rfl | rfl | rfl | rfl | rfl | h
          · go_wp2_with (first | (go_at_call 39; refine (round_any _ _).mono ?_; rintro e w' ⟨rfl, rfl⟩) | (go_at_call 85; refine (ref_truth _ _).mono ?_; rintro e w' ⟨rfl, rfl⟩) | (go_at_call 84; refine (floor_any _ _ HA.out ⟨p1, p2⟩ _).mono ?_; rintro e w' ⟨rfl, rfl⟩))
            go_ret2
            exact ⟨ret_tup rfl rfl, HW.out⟩
          · go_wp2_with (first | (go_at_call 39; refine (round_any _ _).mono ?_; rintro e w' ⟨rfl, rfl⟩) | (go_at_call 85; refine (ref_truth _ _).mono ?_; rintro e w' ⟨rfl, rfl⟩) | (go_at_call 84; refine (floor_any _ _ HA.out ⟨p1, p2⟩ _).mono ?_; rintro e w' ⟨rfl, rfl⟩))
            go_ret2
            exact ⟨ret_tup rfl rfl, HW.out⟩
          · go_wp2_with (first | (go_at_call 39; refine (round_any _ _).mono ?_; rintro e w' ⟨rfl, rfl⟩) | (go_at_call 85; refine (ref_truth _ _).mono ?_; rintro e w' ⟨rfl, rfl⟩) | (go_at_call 84; refine (floor_any _ _ HA.out ⟨p1, p2⟩ _).mono ?_; rintro e w' ⟨rfl, rfl⟩))
            go_ret2
            exact ⟨ret_tup rfl rfl, HW.out⟩
          · by_cases hb0 : b = 0
            · subst hb0
              go_wp2_with (first | (go_at_call 39; refine (round_any _ _).mono ?_; rintro e w' ⟨rfl, rfl⟩) | (go_at_call 85; refine (ref_truth _ _).mono ?_; rintro e w' ⟨rfl, rfl⟩) | (go_at_call 84; refine (floor_any _ _ HA.out ⟨p1, p2⟩ _).mono ?_; rintro e w' ⟨rfl, rfl⟩))
              go_ret2
              exact ⟨ret_tup rfl rfl, HW.out⟩
            · have e : binV 4 a b = (wrap32 (a.tdiv b), true) := by simp [binV, hb0]
              have E := Lib.hid e
              clear e
              have hbb : (b != 0) = true := by simpa using hb0
              go_wp2_with (first | (go_at_call 39; refine (round_any _ _).mono ?_; rintro e w' ⟨rfl, rfl⟩) | (go_at_call 85; refine (ref_truth _ _).mono ?_; rintro e w' ⟨rfl, rfl⟩) | (go_at_call 84; refine (floor_any _ _ HA.out ⟨p1, p2⟩ _).mono ?_; rintro e w' ⟨rfl, rfl⟩))
              go_ret2
              exact ⟨ret_tup (by rw [E.out, wrap32_64]) (by rw [E.out]), HW.out⟩
          · by_cases hb0 : b = 0
            · subst hb0
              go_wp2_with (first | (go_at_call 39; refine (round_any _ _).mono ?_; rintro e w' ⟨rfl, rfl⟩) | (go_at_call 85; refine (ref_truth _ _).mono ?_; rintro e w' ⟨rfl, rfl⟩) | (go_at_call 84; refine (floor_any _ _ HA.out ⟨p1, p2⟩ _).mono ?_; rintro e w' ⟨rfl, rfl⟩))
              go_ret2
              exact ⟨ret_tup rfl rfl, HW.out⟩
            · have e : binV 5 a b = (a.tmod b, true) := by simp [binV, hb0]
              have E := Lib.hid e
              clear e
              have hbb : (b != 0) = true := by simpa using hb0
              go_wp2_with (first | (go_at_call 39; refine (round_any _ _).mono ?_; rintro e w' ⟨rfl, rfl⟩) | (go_at_call 85; refine (ref_truth _ _).mono ?_; rintro e w' ⟨rfl, rfl⟩) | (go_at_call 84; refine (floor_any _ _ HA.out ⟨p1, p2⟩ _).mono ?_; rintro e w' ⟨rfl, rfl⟩))
              go_ret2
              exact ⟨ret_tup (by rw [E.out]; exact rem_end a b HA.out) (by rw [E.out]), HW.out⟩
          · go_wp2_with (first | (go_at_call 39; refine (round_any _ _).mono ?_; rintro e w' ⟨rfl, rfl⟩) | (go_at_call 85; refine (ref_truth _ _).mono ?_; rintro e w' ⟨rfl, rfl⟩) | (go_at_call 84; refine (floor_any _ _ HA.out ⟨p1, p2⟩ _).mono ?_; rintro e w' ⟨rfl, rfl⟩))
            go_ret2
            exact ⟨ret_tup (by rw [wrap32_64, HT.out]; rfl) rfl, HW.out⟩
          · obtain ⟨hd1, hd2⟩ := div_bd a (tw k) HA.out p1
            go_wp2_with (first | (go_at_call 39; refine (round_any _ _).mono ?_; rintro e w' ⟨rfl, rfl⟩) | (go_at_call 85; refine (ref_truth _ _).mono ?_; rintro e w' ⟨rfl, rfl⟩) | (go_at_call 84; refine (floor_any _ _ HA.out ⟨p1, p2⟩ _).mono ?_; rintro e w' ⟨rfl, rfl⟩))
            go_ret2
            exact ⟨ret_tup (by rw [wrap32_self _ (div_bd a (tw k) HA.out p1), HT.out]; rfl) rfl, HW.out⟩
          · go_wp2_with (first | (go_at_call 39; refine (round_any _ _).mono ?_; rintro e w' ⟨rfl, rfl⟩) | (go_at_call 85; refine (ref_truth _ _).mono ?_; rintro e w' ⟨rfl, rfl⟩) | (go_at_call 84; refine (floor_any _ _ HA.out ⟨p1, p2⟩ _).mono ?_; rintro e w' ⟨rfl, rfl⟩))
            go_ret2
            exact ⟨ret_tup (and_end a b) rfl, HW.out⟩
          · go_wp2_with (first | (go_at_call 39; refine (round_any _ _).mono ?_; rintro e w' ⟨rfl, rfl⟩) | (go_at_call 85; refine (ref_truth _ _).mono ?_; rintro e w' ⟨rfl, rfl⟩) | (go_at_call 84; refine (floor_any _ _ HA.out ⟨p1, p2⟩ _).mono ?_; rintro e w' ⟨rfl, rfl⟩))
            go_ret2
            exact ⟨ret_tup (or_end a b) rfl, HW.out⟩
          · go_wp2_with (first | (go_at_call 39; refine (round_any _ _).mono ?_; rintro e w' ⟨rfl, rfl⟩) | (go_at_call 85; refine (ref_truth _ _).mono ?_; rintro e w' ⟨rfl, rfl⟩) | (go_at_call 84; refine (floor_any _ _ HA.out ⟨p1, p2⟩ _).mono ?_; rintro e w' ⟨rfl, rfl⟩))
            go_ret2
            exact ⟨ret_tup (xor_end a b) rfl, HW.out⟩
          · go_wp2_with (first | (go_at_call 39; refine (round_any _ _).mono ?_; rintro e w' ⟨rfl, rfl⟩) | (go_at_call 85; refine (ref_truth _ _).mono ?_; rintro e w' ⟨rfl, rfl⟩) | (go_at_call 84; refine (floor_any _ _ HA.out ⟨p1, p2⟩ _).mono ?_; rintro e w' ⟨rfl, rfl⟩))
            go_ret2
            exact ⟨ret_tup rfl rfl, HW.out⟩
          · go_wp2_with (first | (go_at_call 39; refine (round_any _ _).mono ?_; rintro e w' ⟨rfl, rfl⟩) | (go_at_call 85; refine (ref_truth _ _).mono ?_; rintro e w' ⟨rfl, rfl⟩) | (go_at_call 84; refine (floor_any _ _ HA.out ⟨p1, p2⟩ _).mono ?_; rintro e w' ⟨rfl, rfl⟩))
            go_ret2
            exact ⟨ret_tup rfl rfl, HW.out⟩
          · go_wp2_with (first | (go_at_call 39; refine (round_any _ _).mono ?_; rintro e w' ⟨rfl, rfl⟩) | (go_at_call 85; refine (ref_truth _ _).mono ?_; rintro e w' ⟨rfl, rfl⟩) | (go_at_call 84; refine (floor_any _ _ HA.out ⟨p1, p2⟩ _).mono ?_; rintro e w' ⟨rfl, rfl⟩))
            go_ret2
            exact ⟨ret_tup rfl rfl, HW.out⟩
          · go_wp2_with (first | (go_at_call 39; refine (round_any _ _).mono ?_; rintro e w' ⟨rfl, rfl⟩) | (go_at_call 85; refine (ref_truth _ _).mono ?_; rintro e w' ⟨rfl, rfl⟩) | (go_at_call 84; refine (floor_any _ _ HA.out ⟨p1, p2⟩ _).mono ?_; rintro e w' ⟨rfl, rfl⟩))
            go_ret2
            exact ⟨ret_tup rfl rfl, HW.out⟩
          · go_wp2_with (first | (go_at_call 39; refine (round_any _ _).mono ?_; rintro e w' ⟨rfl, rfl⟩) | (go_at_call 85; refine (ref_truth _ _).mono ?_; rintro e w' ⟨rfl, rfl⟩) | (go_at_call 84; refine (floor_any _ _ HA.out ⟨p1, p2⟩ _).mono ?_; rintro e w' ⟨rfl, rfl⟩))
            go_ret2
            exact ⟨ret_tup rfl rfl, HW.out⟩
          · go_wp2_with (first | (go_at_call 39; refine (round_any _ _).mono ?_; rintro e w' ⟨rfl, rfl⟩) | (go_at_call 85; refine (ref_truth _ _).mono ?_; rintro e w' ⟨rfl, rfl⟩) | (go_at_call 84; refine (floor_any _ _ HA.out ⟨p1, p2⟩ _).mono ?_; rintro e w' ⟨rfl, rfl⟩))
            go_ret2
            exact ⟨ret_tup rfl rfl, HW.out⟩
          · go_wp2_with (first | (go_at_call 39; refine (round_any _ _).mono ?_; rintro e w' ⟨rfl, rfl⟩) | (go_at_call 85; refine (ref_truth _ _).mono ?_; rintro e w' ⟨rfl, rfl⟩) | (go_at_call 84; refine (floor_any _ _ HA.out ⟨p1, p2⟩ _).mono ?_; rintro e w' ⟨rfl, rfl⟩))
            go_ret2
            exact ⟨ret_tup (by rw [mul_ne]; rfl) rfl, HW.out⟩
          · by_cases ha0 : a = 0
            · subst ha0
              go_wp2_with (first | (go_at_call 39; refine (round_any _ _).mono ?_; rintro e w' ⟨rfl, rfl⟩) | (go_at_call 85; refine (ref_truth _ _).mono ?_; rintro e w' ⟨rfl, rfl⟩) | (go_at_call 84; refine (floor_any _ _ HA.out ⟨p1, p2⟩ _).mono ?_; rintro e w' ⟨rfl, rfl⟩))
              go_ret2
              exact ⟨ret_tup rfl rfl, HW.out⟩
            · have e : binV 18 a b = (truthI true, true) := by
                show (truthI (a != 0 || b != 0), true) = _
                rw [show (a != 0) = true from by simpa using ha0]
                rfl
              have E := Lib.hid e
              clear e
              go_wp2_with (first | (go_at_call 39; refine (round_any _ _).mono ?_; rintro e w' ⟨rfl, rfl⟩) | (go_at_call 85; refine (ref_truth _ _).mono ?_; rintro e w' ⟨rfl, rfl⟩) | (go_at_call 84; refine (floor_any _ _ HA.out ⟨p1, p2⟩ _).mono ?_; rintro e w' ⟨rfl, rfl⟩))
              go_ret2
              exact ⟨ret_tup (by rw [E.out]) (by rw [E.out]), HW.out⟩
          · have e : binV op a b = (0, false) := by
              unfold binV
              repeat rw [if_neg (by omega)]
            have E := Lib.hid e
            clear e
            rcases h with h | h <;>
            · go_wp2_with (first | (go_at_call 39; refine (round_any _ _).mono ?_; rintro e w' ⟨rfl, rfl⟩) | (go_at_call 85; refine (ref_truth _ _).mono ?_; rintro e w' ⟨rfl, rfl⟩) | (go_at_call 84; refine (floor_any _ _ HA.out ⟨p1, p2⟩ _).mono ?_; rintro e w' ⟨rfl, rfl⟩))
              go_ret2
              exact ⟨ret_tup (by rw [E.out]) (by rw [E.out]), HW.out⟩

end WordBins

end Go.Proofs.Ytmedhibjkbahpaa
namespace Go.Proofs.Ytmedhibjkbahpaa
open Go.RowKit
set_option linter.unusedVariables false
set_option linter.unusedSimpArgs false
set_option maxRecDepth 100000
namespace Rv
open WordBins

/-- Which operator of two words an instruction is; 0: none. -/
def mopN (op : Int) : Int :=
  if op = 2 ∨ op = 11 then 1 else if op = 12 then 2 else if op = 3 ∨ op = 14 then 11 else if op = 5 ∨ op = 16 then 10 else if op = 6 ∨ op = 19 then 9 else if op = 7 ∨ op = 20 then 8
  else if op = 8 ∨ op = 13 then 6 else if op = 10 ∨ op = 18 then 7 else if op = 21 then 3 else if op = 22 then 4 else if op = 23 then 5 else 0
theorem ops30 {op : Int} (h1 : 1 ≤ op) (h2 : op ≤ 30) : op = 1 ∨ op = 2 ∨ op = 3 ∨ op = 4 ∨ op = 5 ∨ op = 6 ∨ op = 7 ∨ op = 8 ∨ op = 9 ∨ op = 10 ∨ op = 11 ∨ op = 12 ∨ op = 13 ∨ op = 14 ∨ op = 15 ∨ op = 16 ∨ op = 17 ∨ op = 18 ∨ op = 19 ∨ op = 20 ∨ op = 21 ∨ op = 22 ∨ op = 23 ∨ op = 24 ∨ op = 25 ∨ op = 26 ∨ op = 27 ∨ op = 28 ∨ op = 29 ∨ op = 30 := by omega

theorem truth_riscv (b : Bool) (w : World) :
    Calls Try.prog 56 #[.bool b] w fun e w' => e = .returned (.int .i32 (truthI b)) ∧ w = w' := by
  cases b <;>
  · go_enter Try.func56, Try.ntmps56
    go_wp2
    go_ret
    exact ⟨rfl, rfl⟩
theorem operator_any (op : Int) (h1 : 1 ≤ op) (h2 : op ≤ 30) (w : World) :
    Calls Try.prog 58 #[.int .i64 op] w fun e w' => e = .returned (.int .i64 (mopN op)) ∧ w = w' := by
  rcases ops30 h1 h2 with rfl | rfl | rfl | rfl | rfl | rfl | rfl | rfl | rfl | rfl | rfl | rfl | rfl | rfl | rfl | rfl | rfl | rfl | rfl | rfl | rfl | rfl | rfl | rfl | rfl | rfl | rfl | rfl | rfl | rfl
  all_goals
    clear h1 h2
    go_enter Try.func58, Try.ntmps58
    go_wp2
    go_ret
    exact ⟨rfl, rfl⟩
theorem branched_any (is : Bool) (a1 a2 a3 a4 a5 n pc : Int) (s : ByteArray) (w : World) :
    Calls Try.prog 37 #[.bool is, .agg #[.int .i64 a1, .int .i64 a2, .int .i64 a3, .int .i64 a4, .int .i64 a5, .int .i32 n, .string s], .int .i32 pc] w fun e w' => e = .returned (.int .i32 (if is then wrap32 (pc + n) else wrap32 (pc + 4))) ∧ ∃ o, w' = w.alloc o := by
  cases is <;>
  · go_enter Try.func37, Try.ntmps37
    go_wp2
    go_ret
    exact ⟨by simp, _, rfl⟩

/-- What an instruction makes of two words. -/
def reckI (op a b : Int) : Int :=
  if op = 4 ∨ op = 15 then truthI (decide (a % 4294967296 < b % 4294967296))
  else if op = 9 ∨ op = 17 then wrap32 (a % 4294967296 / 2 ^ (b % 32).toNat)
  else if (binV (mopN op) a b).2 = false ∧ op = 22 then -1 else if (binV (mopN op) a b).2 = false ∧ op = 23 then a else (binV (mopN op) a b).1

theorem reckoned_1 (a b : Int) (w : World) :
    Calls Try.prog 38 #[.int .i64 1, .int .i32 a, .int .i32 b] w fun e w' => e = .returned (.int .i32 (reckI 1 a b)) ∧ w = w' := by
  have g1 : 0 ≤ b % 4294967296 % 32 := by omega
  have g2 : b % 4294967296 % 32 < 32 := by omega
  · have he : reckI 1 a b = (if (binV (mopN 1) a b).2 = false ∧ (1 : Int) = 22 then -1 else if (binV (mopN 1) a b).2 = false ∧ (1 : Int) = 23 then a else (binV (mopN 1) a b).1) := rfl
    rw [he]
    clear he
    generalize hr : binV (mopN 1) a b = r
    obtain ⟨v, ok⟩ := r
    have HR := Lib.hid hr
    clear hr
    go_enter Try.func38, Try.ntmps38
    cases ok
    all_goals
      go_wp2_with first
        | (go_at_call 58; refine (operator_any _ (by omega) (by omega) _).mono ?_; rintro e w' ⟨rfl, rfl⟩)
        | (go_at_call 57; refine (bin_any _ _ _ _).mono ?_; rw [HR.out]; rintro e w' ⟨rfl, rfl⟩)
      go_ret
      exact ⟨by simp, rfl⟩
theorem reckoned_2 (a b : Int) (w : World) :
    Calls Try.prog 38 #[.int .i64 2, .int .i32 a, .int .i32 b] w fun e w' => e = .returned (.int .i32 (reckI 2 a b)) ∧ w = w' := by
  have g1 : 0 ≤ b % 4294967296 % 32 := by omega
  have g2 : b % 4294967296 % 32 < 32 := by omega
  · have he : reckI 2 a b = (if (binV (mopN 2) a b).2 = false ∧ (2 : Int) = 22 then -1 else if (binV (mopN 2) a b).2 = false ∧ (2 : Int) = 23 then a else (binV (mopN 2) a b).1) := rfl
    rw [he]
    clear he
    generalize hr : binV (mopN 2) a b = r
    obtain ⟨v, ok⟩ := r
    have HR := Lib.hid hr
    clear hr
    go_enter Try.func38, Try.ntmps38
    cases ok
    all_goals
      go_wp2_with first
        | (go_at_call 58; refine (operator_any _ (by omega) (by omega) _).mono ?_; rintro e w' ⟨rfl, rfl⟩)
        | (go_at_call 57; refine (bin_any _ _ _ _).mono ?_; rw [HR.out]; rintro e w' ⟨rfl, rfl⟩)
      go_ret
      exact ⟨by simp, rfl⟩
theorem reckoned_3 (a b : Int) (w : World) :
    Calls Try.prog 38 #[.int .i64 3, .int .i32 a, .int .i32 b] w fun e w' => e = .returned (.int .i32 (reckI 3 a b)) ∧ w = w' := by
  have g1 : 0 ≤ b % 4294967296 % 32 := by omega
  have g2 : b % 4294967296 % 32 < 32 := by omega
  · have he : reckI 3 a b = (if (binV (mopN 3) a b).2 = false ∧ (3 : Int) = 22 then -1 else if (binV (mopN 3) a b).2 = false ∧ (3 : Int) = 23 then a else (binV (mopN 3) a b).1) := rfl
    rw [he]
    clear he
    generalize hr : binV (mopN 3) a b = r
    obtain ⟨v, ok⟩ := r
    have HR := Lib.hid hr
    clear hr
    go_enter Try.func38, Try.ntmps38
    cases ok
    all_goals
      go_wp2_with first
        | (go_at_call 58; refine (operator_any _ (by omega) (by omega) _).mono ?_; rintro e w' ⟨rfl, rfl⟩)
        | (go_at_call 57; refine (bin_any _ _ _ _).mono ?_; rw [HR.out]; rintro e w' ⟨rfl, rfl⟩)
      go_ret
      exact ⟨by simp, rfl⟩
theorem reckoned_4 (a b : Int) (w : World) :
    Calls Try.prog 38 #[.int .i64 4, .int .i32 a, .int .i32 b] w fun e w' => e = .returned (.int .i32 (reckI 4 a b)) ∧ w = w' := by
  have g1 : 0 ≤ b % 4294967296 % 32 := by omega
  have g2 : b % 4294967296 % 32 < 32 := by omega
  · go_enter Try.func38, Try.ntmps38
    go_wp2_with (go_at_call 56; refine (truth_riscv _ _).mono ?_; rintro e w' ⟨rfl, rfl⟩)
    go_ret
    exact ⟨rfl, rfl⟩
theorem reckoned_5 (a b : Int) (w : World) :
    Calls Try.prog 38 #[.int .i64 5, .int .i32 a, .int .i32 b] w fun e w' => e = .returned (.int .i32 (reckI 5 a b)) ∧ w = w' := by
  have g1 : 0 ≤ b % 4294967296 % 32 := by omega
  have g2 : b % 4294967296 % 32 < 32 := by omega
  · have he : reckI 5 a b = (if (binV (mopN 5) a b).2 = false ∧ (5 : Int) = 22 then -1 else if (binV (mopN 5) a b).2 = false ∧ (5 : Int) = 23 then a else (binV (mopN 5) a b).1) := rfl
    rw [he]
    clear he
    generalize hr : binV (mopN 5) a b = r
    obtain ⟨v, ok⟩ := r
    have HR := Lib.hid hr
    clear hr
    go_enter Try.func38, Try.ntmps38
    cases ok
    all_goals
      go_wp2_with first
        | (go_at_call 58; refine (operator_any _ (by omega) (by omega) _).mono ?_; rintro e w' ⟨rfl, rfl⟩)
        | (go_at_call 57; refine (bin_any _ _ _ _).mono ?_; rw [HR.out]; rintro e w' ⟨rfl, rfl⟩)
      go_ret
      exact ⟨by simp, rfl⟩
theorem reckoned_6 (a b : Int) (w : World) :
    Calls Try.prog 38 #[.int .i64 6, .int .i32 a, .int .i32 b] w fun e w' => e = .returned (.int .i32 (reckI 6 a b)) ∧ w = w' := by
  have g1 : 0 ≤ b % 4294967296 % 32 := by omega
  have g2 : b % 4294967296 % 32 < 32 := by omega
  · have he : reckI 6 a b = (if (binV (mopN 6) a b).2 = false ∧ (6 : Int) = 22 then -1 else if (binV (mopN 6) a b).2 = false ∧ (6 : Int) = 23 then a else (binV (mopN 6) a b).1) := rfl
    rw [he]
    clear he
    generalize hr : binV (mopN 6) a b = r
    obtain ⟨v, ok⟩ := r
    have HR := Lib.hid hr
    clear hr
    go_enter Try.func38, Try.ntmps38
    cases ok
    all_goals
      go_wp2_with first
        | (go_at_call 58; refine (operator_any _ (by omega) (by omega) _).mono ?_; rintro e w' ⟨rfl, rfl⟩)
        | (go_at_call 57; refine (bin_any _ _ _ _).mono ?_; rw [HR.out]; rintro e w' ⟨rfl, rfl⟩)
      go_ret
      exact ⟨by simp, rfl⟩
theorem reckoned_7 (a b : Int) (w : World) :
    Calls Try.prog 38 #[.int .i64 7, .int .i32 a, .int .i32 b] w fun e w' => e = .returned (.int .i32 (reckI 7 a b)) ∧ w = w' := by
  have g1 : 0 ≤ b % 4294967296 % 32 := by omega
  have g2 : b % 4294967296 % 32 < 32 := by omega
  · have he : reckI 7 a b = (if (binV (mopN 7) a b).2 = false ∧ (7 : Int) = 22 then -1 else if (binV (mopN 7) a b).2 = false ∧ (7 : Int) = 23 then a else (binV (mopN 7) a b).1) := rfl
    rw [he]
    clear he
    generalize hr : binV (mopN 7) a b = r
    obtain ⟨v, ok⟩ := r
    have HR := Lib.hid hr
    clear hr
    go_enter Try.func38, Try.ntmps38
    cases ok
    all_goals
      go_wp2_with first
        | (go_at_call 58; refine (operator_any _ (by omega) (by omega) _).mono ?_; rintro e w' ⟨rfl, rfl⟩)
        | (go_at_call 57; refine (bin_any _ _ _ _).mono ?_; rw [HR.out]; rintro e w' ⟨rfl, rfl⟩)
      go_ret
      exact ⟨by simp, rfl⟩
theorem reckoned_8 (a b : Int) (w : World) :
    Calls Try.prog 38 #[.int .i64 8, .int .i32 a, .int .i32 b] w fun e w' => e = .returned (.int .i32 (reckI 8 a b)) ∧ w = w' := by
  have g1 : 0 ≤ b % 4294967296 % 32 := by omega
  have g2 : b % 4294967296 % 32 < 32 := by omega
  · have he : reckI 8 a b = (if (binV (mopN 8) a b).2 = false ∧ (8 : Int) = 22 then -1 else if (binV (mopN 8) a b).2 = false ∧ (8 : Int) = 23 then a else (binV (mopN 8) a b).1) := rfl
    rw [he]
    clear he
    generalize hr : binV (mopN 8) a b = r
    obtain ⟨v, ok⟩ := r
    have HR := Lib.hid hr
    clear hr
    go_enter Try.func38, Try.ntmps38
    cases ok
    all_goals
      go_wp2_with first
        | (go_at_call 58; refine (operator_any _ (by omega) (by omega) _).mono ?_; rintro e w' ⟨rfl, rfl⟩)
        | (go_at_call 57; refine (bin_any _ _ _ _).mono ?_; rw [HR.out]; rintro e w' ⟨rfl, rfl⟩)
      go_ret
      exact ⟨by simp, rfl⟩
theorem reckoned_9 (a b : Int) (w : World) :
    Calls Try.prog 38 #[.int .i64 9, .int .i32 a, .int .i32 b] w fun e w' => e = .returned (.int .i32 (reckI 9 a b)) ∧ w = w' := by
  have g1 : 0 ≤ b % 4294967296 % 32 := by omega
  have g2 : b % 4294967296 % 32 < 32 := by omega
  · go_enter Try.func38, Try.ntmps38
    go_wp2
    go_ret
    exact ⟨rfl, rfl⟩
theorem reckoned_10 (a b : Int) (w : World) :
    Calls Try.prog 38 #[.int .i64 10, .int .i32 a, .int .i32 b] w fun e w' => e = .returned (.int .i32 (reckI 10 a b)) ∧ w = w' := by
  have g1 : 0 ≤ b % 4294967296 % 32 := by omega
  have g2 : b % 4294967296 % 32 < 32 := by omega
  · have he : reckI 10 a b = (if (binV (mopN 10) a b).2 = false ∧ (10 : Int) = 22 then -1 else if (binV (mopN 10) a b).2 = false ∧ (10 : Int) = 23 then a else (binV (mopN 10) a b).1) := rfl
    rw [he]
    clear he
    generalize hr : binV (mopN 10) a b = r
    obtain ⟨v, ok⟩ := r
    have HR := Lib.hid hr
    clear hr
    go_enter Try.func38, Try.ntmps38
    cases ok
    all_goals
      go_wp2_with first
        | (go_at_call 58; refine (operator_any _ (by omega) (by omega) _).mono ?_; rintro e w' ⟨rfl, rfl⟩)
        | (go_at_call 57; refine (bin_any _ _ _ _).mono ?_; rw [HR.out]; rintro e w' ⟨rfl, rfl⟩)
      go_ret
      exact ⟨by simp, rfl⟩
theorem reckoned_11 (a b : Int) (w : World) :
    Calls Try.prog 38 #[.int .i64 11, .int .i32 a, .int .i32 b] w fun e w' => e = .returned (.int .i32 (reckI 11 a b)) ∧ w = w' := by
  have g1 : 0 ≤ b % 4294967296 % 32 := by omega
  have g2 : b % 4294967296 % 32 < 32 := by omega
  · have he : reckI 11 a b = (if (binV (mopN 11) a b).2 = false ∧ (11 : Int) = 22 then -1 else if (binV (mopN 11) a b).2 = false ∧ (11 : Int) = 23 then a else (binV (mopN 11) a b).1) := rfl
    rw [he]
    clear he
    generalize hr : binV (mopN 11) a b = r
    obtain ⟨v, ok⟩ := r
    have HR := Lib.hid hr
    clear hr
    go_enter Try.func38, Try.ntmps38
    cases ok
    all_goals
      go_wp2_with first
        | (go_at_call 58; refine (operator_any _ (by omega) (by omega) _).mono ?_; rintro e w' ⟨rfl, rfl⟩)
        | (go_at_call 57; refine (bin_any _ _ _ _).mono ?_; rw [HR.out]; rintro e w' ⟨rfl, rfl⟩)
      go_ret
      exact ⟨by simp, rfl⟩
theorem reckoned_12 (a b : Int) (w : World) :
    Calls Try.prog 38 #[.int .i64 12, .int .i32 a, .int .i32 b] w fun e w' => e = .returned (.int .i32 (reckI 12 a b)) ∧ w = w' := by
  have g1 : 0 ≤ b % 4294967296 % 32 := by omega
  have g2 : b % 4294967296 % 32 < 32 := by omega
  · have he : reckI 12 a b = (if (binV (mopN 12) a b).2 = false ∧ (12 : Int) = 22 then -1 else if (binV (mopN 12) a b).2 = false ∧ (12 : Int) = 23 then a else (binV (mopN 12) a b).1) := rfl
    rw [he]
    clear he
    generalize hr : binV (mopN 12) a b = r
    obtain ⟨v, ok⟩ := r
    have HR := Lib.hid hr
    clear hr
    go_enter Try.func38, Try.ntmps38
    cases ok
    all_goals
      go_wp2_with first
        | (go_at_call 58; refine (operator_any _ (by omega) (by omega) _).mono ?_; rintro e w' ⟨rfl, rfl⟩)
        | (go_at_call 57; refine (bin_any _ _ _ _).mono ?_; rw [HR.out]; rintro e w' ⟨rfl, rfl⟩)
      go_ret
      exact ⟨by simp, rfl⟩
theorem reckoned_13 (a b : Int) (w : World) :
    Calls Try.prog 38 #[.int .i64 13, .int .i32 a, .int .i32 b] w fun e w' => e = .returned (.int .i32 (reckI 13 a b)) ∧ w = w' := by
  have g1 : 0 ≤ b % 4294967296 % 32 := by omega
  have g2 : b % 4294967296 % 32 < 32 := by omega
  · have he : reckI 13 a b = (if (binV (mopN 13) a b).2 = false ∧ (13 : Int) = 22 then -1 else if (binV (mopN 13) a b).2 = false ∧ (13 : Int) = 23 then a else (binV (mopN 13) a b).1) := rfl
    rw [he]
    clear he
    generalize hr : binV (mopN 13) a b = r
    obtain ⟨v, ok⟩ := r
    have HR := Lib.hid hr
    clear hr
    go_enter Try.func38, Try.ntmps38
    cases ok
    all_goals
      go_wp2_with first
        | (go_at_call 58; refine (operator_any _ (by omega) (by omega) _).mono ?_; rintro e w' ⟨rfl, rfl⟩)
        | (go_at_call 57; refine (bin_any _ _ _ _).mono ?_; rw [HR.out]; rintro e w' ⟨rfl, rfl⟩)
      go_ret
      exact ⟨by simp, rfl⟩
theorem reckoned_14 (a b : Int) (w : World) :
    Calls Try.prog 38 #[.int .i64 14, .int .i32 a, .int .i32 b] w fun e w' => e = .returned (.int .i32 (reckI 14 a b)) ∧ w = w' := by
  have g1 : 0 ≤ b % 4294967296 % 32 := by omega
  have g2 : b % 4294967296 % 32 < 32 := by omega
  · have he : reckI 14 a b = (if (binV (mopN 14) a b).2 = false ∧ (14 : Int) = 22 then -1 else if (binV (mopN 14) a b).2 = false ∧ (14 : Int) = 23 then a else (binV (mopN 14) a b).1) := rfl
    rw [he]
    clear he
    generalize hr : binV (mopN 14) a b = r
    obtain ⟨v, ok⟩ := r
    have HR := Lib.hid hr
    clear hr
    go_enter Try.func38, Try.ntmps38
    cases ok
    all_goals
      go_wp2_with first
        | (go_at_call 58; refine (operator_any _ (by omega) (by omega) _).mono ?_; rintro e w' ⟨rfl, rfl⟩)
        | (go_at_call 57; refine (bin_any _ _ _ _).mono ?_; rw [HR.out]; rintro e w' ⟨rfl, rfl⟩)
      go_ret
      exact ⟨by simp, rfl⟩
theorem reckoned_15 (a b : Int) (w : World) :
    Calls Try.prog 38 #[.int .i64 15, .int .i32 a, .int .i32 b] w fun e w' => e = .returned (.int .i32 (reckI 15 a b)) ∧ w = w' := by
  have g1 : 0 ≤ b % 4294967296 % 32 := by omega
  have g2 : b % 4294967296 % 32 < 32 := by omega
  · go_enter Try.func38, Try.ntmps38
    go_wp2_with (go_at_call 56; refine (truth_riscv _ _).mono ?_; rintro e w' ⟨rfl, rfl⟩)
    go_ret
    exact ⟨rfl, rfl⟩
theorem reckoned_16 (a b : Int) (w : World) :
    Calls Try.prog 38 #[.int .i64 16, .int .i32 a, .int .i32 b] w fun e w' => e = .returned (.int .i32 (reckI 16 a b)) ∧ w = w' := by
  have g1 : 0 ≤ b % 4294967296 % 32 := by omega
  have g2 : b % 4294967296 % 32 < 32 := by omega
  · have he : reckI 16 a b = (if (binV (mopN 16) a b).2 = false ∧ (16 : Int) = 22 then -1 else if (binV (mopN 16) a b).2 = false ∧ (16 : Int) = 23 then a else (binV (mopN 16) a b).1) := rfl
    rw [he]
    clear he
    generalize hr : binV (mopN 16) a b = r
    obtain ⟨v, ok⟩ := r
    have HR := Lib.hid hr
    clear hr
    go_enter Try.func38, Try.ntmps38
    cases ok
    all_goals
      go_wp2_with first
        | (go_at_call 58; refine (operator_any _ (by omega) (by omega) _).mono ?_; rintro e w' ⟨rfl, rfl⟩)
        | (go_at_call 57; refine (bin_any _ _ _ _).mono ?_; rw [HR.out]; rintro e w' ⟨rfl, rfl⟩)
      go_ret
      exact ⟨by simp, rfl⟩
theorem reckoned_17 (a b : Int) (w : World) :
    Calls Try.prog 38 #[.int .i64 17, .int .i32 a, .int .i32 b] w fun e w' => e = .returned (.int .i32 (reckI 17 a b)) ∧ w = w' := by
  have g1 : 0 ≤ b % 4294967296 % 32 := by omega
  have g2 : b % 4294967296 % 32 < 32 := by omega
  · go_enter Try.func38, Try.ntmps38
    go_wp2
    go_ret
    exact ⟨rfl, rfl⟩
theorem reckoned_18 (a b : Int) (w : World) :
    Calls Try.prog 38 #[.int .i64 18, .int .i32 a, .int .i32 b] w fun e w' => e = .returned (.int .i32 (reckI 18 a b)) ∧ w = w' := by
  have g1 : 0 ≤ b % 4294967296 % 32 := by omega
  have g2 : b % 4294967296 % 32 < 32 := by omega
  · have he : reckI 18 a b = (if (binV (mopN 18) a b).2 = false ∧ (18 : Int) = 22 then -1 else if (binV (mopN 18) a b).2 = false ∧ (18 : Int) = 23 then a else (binV (mopN 18) a b).1) := rfl
    rw [he]
    clear he
    generalize hr : binV (mopN 18) a b = r
    obtain ⟨v, ok⟩ := r
    have HR := Lib.hid hr
    clear hr
    go_enter Try.func38, Try.ntmps38
    cases ok
    all_goals
      go_wp2_with first
        | (go_at_call 58; refine (operator_any _ (by omega) (by omega) _).mono ?_; rintro e w' ⟨rfl, rfl⟩)
        | (go_at_call 57; refine (bin_any _ _ _ _).mono ?_; rw [HR.out]; rintro e w' ⟨rfl, rfl⟩)
      go_ret
      exact ⟨by simp, rfl⟩
theorem reckoned_19 (a b : Int) (w : World) :
    Calls Try.prog 38 #[.int .i64 19, .int .i32 a, .int .i32 b] w fun e w' => e = .returned (.int .i32 (reckI 19 a b)) ∧ w = w' := by
  have g1 : 0 ≤ b % 4294967296 % 32 := by omega
  have g2 : b % 4294967296 % 32 < 32 := by omega
  · have he : reckI 19 a b = (if (binV (mopN 19) a b).2 = false ∧ (19 : Int) = 22 then -1 else if (binV (mopN 19) a b).2 = false ∧ (19 : Int) = 23 then a else (binV (mopN 19) a b).1) := rfl
    rw [he]
    clear he
    generalize hr : binV (mopN 19) a b = r
    obtain ⟨v, ok⟩ := r
    have HR := Lib.hid hr
    clear hr
    go_enter Try.func38, Try.ntmps38
    cases ok
    all_goals
      go_wp2_with first
        | (go_at_call 58; refine (operator_any _ (by omega) (by omega) _).mono ?_; rintro e w' ⟨rfl, rfl⟩)
        | (go_at_call 57; refine (bin_any _ _ _ _).mono ?_; rw [HR.out]; rintro e w' ⟨rfl, rfl⟩)
      go_ret
      exact ⟨by simp, rfl⟩
theorem reckoned_20 (a b : Int) (w : World) :
    Calls Try.prog 38 #[.int .i64 20, .int .i32 a, .int .i32 b] w fun e w' => e = .returned (.int .i32 (reckI 20 a b)) ∧ w = w' := by
  have g1 : 0 ≤ b % 4294967296 % 32 := by omega
  have g2 : b % 4294967296 % 32 < 32 := by omega
  · have he : reckI 20 a b = (if (binV (mopN 20) a b).2 = false ∧ (20 : Int) = 22 then -1 else if (binV (mopN 20) a b).2 = false ∧ (20 : Int) = 23 then a else (binV (mopN 20) a b).1) := rfl
    rw [he]
    clear he
    generalize hr : binV (mopN 20) a b = r
    obtain ⟨v, ok⟩ := r
    have HR := Lib.hid hr
    clear hr
    go_enter Try.func38, Try.ntmps38
    cases ok
    all_goals
      go_wp2_with first
        | (go_at_call 58; refine (operator_any _ (by omega) (by omega) _).mono ?_; rintro e w' ⟨rfl, rfl⟩)
        | (go_at_call 57; refine (bin_any _ _ _ _).mono ?_; rw [HR.out]; rintro e w' ⟨rfl, rfl⟩)
      go_ret
      exact ⟨by simp, rfl⟩
theorem reckoned_21 (a b : Int) (w : World) :
    Calls Try.prog 38 #[.int .i64 21, .int .i32 a, .int .i32 b] w fun e w' => e = .returned (.int .i32 (reckI 21 a b)) ∧ w = w' := by
  have g1 : 0 ≤ b % 4294967296 % 32 := by omega
  have g2 : b % 4294967296 % 32 < 32 := by omega
  · have he : reckI 21 a b = (if (binV (mopN 21) a b).2 = false ∧ (21 : Int) = 22 then -1 else if (binV (mopN 21) a b).2 = false ∧ (21 : Int) = 23 then a else (binV (mopN 21) a b).1) := rfl
    rw [he]
    clear he
    generalize hr : binV (mopN 21) a b = r
    obtain ⟨v, ok⟩ := r
    have HR := Lib.hid hr
    clear hr
    go_enter Try.func38, Try.ntmps38
    cases ok
    all_goals
      go_wp2_with first
        | (go_at_call 58; refine (operator_any _ (by omega) (by omega) _).mono ?_; rintro e w' ⟨rfl, rfl⟩)
        | (go_at_call 57; refine (bin_any _ _ _ _).mono ?_; rw [HR.out]; rintro e w' ⟨rfl, rfl⟩)
      go_ret
      exact ⟨by simp, rfl⟩
theorem reckoned_22 (a b : Int) (w : World) :
    Calls Try.prog 38 #[.int .i64 22, .int .i32 a, .int .i32 b] w fun e w' => e = .returned (.int .i32 (reckI 22 a b)) ∧ w = w' := by
  have g1 : 0 ≤ b % 4294967296 % 32 := by omega
  have g2 : b % 4294967296 % 32 < 32 := by omega
  · have he : reckI 22 a b = (if (binV (mopN 22) a b).2 = false ∧ (22 : Int) = 22 then -1 else if (binV (mopN 22) a b).2 = false ∧ (22 : Int) = 23 then a else (binV (mopN 22) a b).1) := rfl
    rw [he]
    clear he
    generalize hr : binV (mopN 22) a b = r
    obtain ⟨v, ok⟩ := r
    have HR := Lib.hid hr
    clear hr
    go_enter Try.func38, Try.ntmps38
    cases ok
    all_goals
      go_wp2_with first
        | (go_at_call 58; refine (operator_any _ (by omega) (by omega) _).mono ?_; rintro e w' ⟨rfl, rfl⟩)
        | (go_at_call 57; refine (bin_any _ _ _ _).mono ?_; rw [HR.out]; rintro e w' ⟨rfl, rfl⟩)
      go_ret
      exact ⟨by simp, rfl⟩
theorem reckoned_23 (a b : Int) (w : World) :
    Calls Try.prog 38 #[.int .i64 23, .int .i32 a, .int .i32 b] w fun e w' => e = .returned (.int .i32 (reckI 23 a b)) ∧ w = w' := by
  have g1 : 0 ≤ b % 4294967296 % 32 := by omega
  have g2 : b % 4294967296 % 32 < 32 := by omega
  · have he : reckI 23 a b = (if (binV (mopN 23) a b).2 = false ∧ (23 : Int) = 22 then -1 else if (binV (mopN 23) a b).2 = false ∧ (23 : Int) = 23 then a else (binV (mopN 23) a b).1) := rfl
    rw [he]
    clear he
    generalize hr : binV (mopN 23) a b = r
    obtain ⟨v, ok⟩ := r
    have HR := Lib.hid hr
    clear hr
    go_enter Try.func38, Try.ntmps38
    cases ok
    all_goals
      go_wp2_with first
        | (go_at_call 58; refine (operator_any _ (by omega) (by omega) _).mono ?_; rintro e w' ⟨rfl, rfl⟩)
        | (go_at_call 57; refine (bin_any _ _ _ _).mono ?_; rw [HR.out]; rintro e w' ⟨rfl, rfl⟩)
      go_ret
      exact ⟨by simp, rfl⟩
theorem reckoned_24 (a b : Int) (w : World) :
    Calls Try.prog 38 #[.int .i64 24, .int .i32 a, .int .i32 b] w fun e w' => e = .returned (.int .i32 (reckI 24 a b)) ∧ w = w' := by
  have g1 : 0 ≤ b % 4294967296 % 32 := by omega
  have g2 : b % 4294967296 % 32 < 32 := by omega
  · have he : reckI 24 a b = (if (binV (mopN 24) a b).2 = false ∧ (24 : Int) = 22 then -1 else if (binV (mopN 24) a b).2 = false ∧ (24 : Int) = 23 then a else (binV (mopN 24) a b).1) := rfl
    rw [he]
    clear he
    generalize hr : binV (mopN 24) a b = r
    obtain ⟨v, ok⟩ := r
    have HR := Lib.hid hr
    clear hr
    go_enter Try.func38, Try.ntmps38
    cases ok
    all_goals
      go_wp2_with first
        | (go_at_call 58; refine (operator_any _ (by omega) (by omega) _).mono ?_; rintro e w' ⟨rfl, rfl⟩)
        | (go_at_call 57; refine (bin_any _ _ _ _).mono ?_; rw [HR.out]; rintro e w' ⟨rfl, rfl⟩)
      go_ret
      exact ⟨by simp, rfl⟩
theorem reckoned_25 (a b : Int) (w : World) :
    Calls Try.prog 38 #[.int .i64 25, .int .i32 a, .int .i32 b] w fun e w' => e = .returned (.int .i32 (reckI 25 a b)) ∧ w = w' := by
  have g1 : 0 ≤ b % 4294967296 % 32 := by omega
  have g2 : b % 4294967296 % 32 < 32 := by omega
  · have he : reckI 25 a b = (if (binV (mopN 25) a b).2 = false ∧ (25 : Int) = 22 then -1 else if (binV (mopN 25) a b).2 = false ∧ (25 : Int) = 23 then a else (binV (mopN 25) a b).1) := rfl
    rw [he]
    clear he
    generalize hr : binV (mopN 25) a b = r
    obtain ⟨v, ok⟩ := r
    have HR := Lib.hid hr
    clear hr
    go_enter Try.func38, Try.ntmps38
    cases ok
    all_goals
      go_wp2_with first
        | (go_at_call 58; refine (operator_any _ (by omega) (by omega) _).mono ?_; rintro e w' ⟨rfl, rfl⟩)
        | (go_at_call 57; refine (bin_any _ _ _ _).mono ?_; rw [HR.out]; rintro e w' ⟨rfl, rfl⟩)
      go_ret
      exact ⟨by simp, rfl⟩
theorem reckoned_26 (a b : Int) (w : World) :
    Calls Try.prog 38 #[.int .i64 26, .int .i32 a, .int .i32 b] w fun e w' => e = .returned (.int .i32 (reckI 26 a b)) ∧ w = w' := by
  have g1 : 0 ≤ b % 4294967296 % 32 := by omega
  have g2 : b % 4294967296 % 32 < 32 := by omega
  · have he : reckI 26 a b = (if (binV (mopN 26) a b).2 = false ∧ (26 : Int) = 22 then -1 else if (binV (mopN 26) a b).2 = false ∧ (26 : Int) = 23 then a else (binV (mopN 26) a b).1) := rfl
    rw [he]
    clear he
    generalize hr : binV (mopN 26) a b = r
    obtain ⟨v, ok⟩ := r
    have HR := Lib.hid hr
    clear hr
    go_enter Try.func38, Try.ntmps38
    cases ok
    all_goals
      go_wp2_with first
        | (go_at_call 58; refine (operator_any _ (by omega) (by omega) _).mono ?_; rintro e w' ⟨rfl, rfl⟩)
        | (go_at_call 57; refine (bin_any _ _ _ _).mono ?_; rw [HR.out]; rintro e w' ⟨rfl, rfl⟩)
      go_ret
      exact ⟨by simp, rfl⟩
theorem reckoned_27 (a b : Int) (w : World) :
    Calls Try.prog 38 #[.int .i64 27, .int .i32 a, .int .i32 b] w fun e w' => e = .returned (.int .i32 (reckI 27 a b)) ∧ w = w' := by
  have g1 : 0 ≤ b % 4294967296 % 32 := by omega
  have g2 : b % 4294967296 % 32 < 32 := by omega
  · have he : reckI 27 a b = (if (binV (mopN 27) a b).2 = false ∧ (27 : Int) = 22 then -1 else if (binV (mopN 27) a b).2 = false ∧ (27 : Int) = 23 then a else (binV (mopN 27) a b).1) := rfl
    rw [he]
    clear he
    generalize hr : binV (mopN 27) a b = r
    obtain ⟨v, ok⟩ := r
    have HR := Lib.hid hr
    clear hr
    go_enter Try.func38, Try.ntmps38
    cases ok
    all_goals
      go_wp2_with first
        | (go_at_call 58; refine (operator_any _ (by omega) (by omega) _).mono ?_; rintro e w' ⟨rfl, rfl⟩)
        | (go_at_call 57; refine (bin_any _ _ _ _).mono ?_; rw [HR.out]; rintro e w' ⟨rfl, rfl⟩)
      go_ret
      exact ⟨by simp, rfl⟩
theorem reckoned_28 (a b : Int) (w : World) :
    Calls Try.prog 38 #[.int .i64 28, .int .i32 a, .int .i32 b] w fun e w' => e = .returned (.int .i32 (reckI 28 a b)) ∧ w = w' := by
  have g1 : 0 ≤ b % 4294967296 % 32 := by omega
  have g2 : b % 4294967296 % 32 < 32 := by omega
  · have he : reckI 28 a b = (if (binV (mopN 28) a b).2 = false ∧ (28 : Int) = 22 then -1 else if (binV (mopN 28) a b).2 = false ∧ (28 : Int) = 23 then a else (binV (mopN 28) a b).1) := rfl
    rw [he]
    clear he
    generalize hr : binV (mopN 28) a b = r
    obtain ⟨v, ok⟩ := r
    have HR := Lib.hid hr
    clear hr
    go_enter Try.func38, Try.ntmps38
    cases ok
    all_goals
      go_wp2_with first
        | (go_at_call 58; refine (operator_any _ (by omega) (by omega) _).mono ?_; rintro e w' ⟨rfl, rfl⟩)
        | (go_at_call 57; refine (bin_any _ _ _ _).mono ?_; rw [HR.out]; rintro e w' ⟨rfl, rfl⟩)
      go_ret
      exact ⟨by simp, rfl⟩
theorem reckoned_29 (a b : Int) (w : World) :
    Calls Try.prog 38 #[.int .i64 29, .int .i32 a, .int .i32 b] w fun e w' => e = .returned (.int .i32 (reckI 29 a b)) ∧ w = w' := by
  have g1 : 0 ≤ b % 4294967296 % 32 := by omega
  have g2 : b % 4294967296 % 32 < 32 := by omega
  · have he : reckI 29 a b = (if (binV (mopN 29) a b).2 = false ∧ (29 : Int) = 22 then -1 else if (binV (mopN 29) a b).2 = false ∧ (29 : Int) = 23 then a else (binV (mopN 29) a b).1) := rfl
    rw [he]
    clear he
    generalize hr : binV (mopN 29) a b = r
    obtain ⟨v, ok⟩ := r
    have HR := Lib.hid hr
    clear hr
    go_enter Try.func38, Try.ntmps38
    cases ok
    all_goals
      go_wp2_with first
        | (go_at_call 58; refine (operator_any _ (by omega) (by omega) _).mono ?_; rintro e w' ⟨rfl, rfl⟩)
        | (go_at_call 57; refine (bin_any _ _ _ _).mono ?_; rw [HR.out]; rintro e w' ⟨rfl, rfl⟩)
      go_ret
      exact ⟨by simp, rfl⟩
theorem reckoned_30 (a b : Int) (w : World) :
    Calls Try.prog 38 #[.int .i64 30, .int .i32 a, .int .i32 b] w fun e w' => e = .returned (.int .i32 (reckI 30 a b)) ∧ w = w' := by
  have g1 : 0 ≤ b % 4294967296 % 32 := by omega
  have g2 : b % 4294967296 % 32 < 32 := by omega
  · have he : reckI 30 a b = (if (binV (mopN 30) a b).2 = false ∧ (30 : Int) = 22 then -1 else if (binV (mopN 30) a b).2 = false ∧ (30 : Int) = 23 then a else (binV (mopN 30) a b).1) := rfl
    rw [he]
    clear he
    generalize hr : binV (mopN 30) a b = r
    obtain ⟨v, ok⟩ := r
    have HR := Lib.hid hr
    clear hr
    go_enter Try.func38, Try.ntmps38
    cases ok
    all_goals
      go_wp2_with first
        | (go_at_call 58; refine (operator_any _ (by omega) (by omega) _).mono ?_; rintro e w' ⟨rfl, rfl⟩)
        | (go_at_call 57; refine (bin_any _ _ _ _).mono ?_; rw [HR.out]; rintro e w' ⟨rfl, rfl⟩)
      go_ret
      exact ⟨by simp, rfl⟩
theorem reckoned_any (op : Int) (h1 : 1 ≤ op) (h2 : op ≤ 30) (a b : Int) (w : World) :
    Calls Try.prog 38 #[.int .i64 op, .int .i32 a, .int .i32 b] w fun e w' => e = .returned (.int .i32 (reckI op a b)) ∧ w = w' := by
  rcases ops30 h1 h2 with rfl | rfl | rfl | rfl | rfl | rfl | rfl | rfl | rfl | rfl | rfl | rfl | rfl | rfl | rfl | rfl | rfl | rfl | rfl | rfl | rfl | rfl | rfl | rfl | rfl | rfl | rfl | rfl | rfl | rfl
  · exact reckoned_1 a b w
  · exact reckoned_2 a b w
  · exact reckoned_3 a b w
  · exact reckoned_4 a b w
  · exact reckoned_5 a b w
  · exact reckoned_6 a b w
  · exact reckoned_7 a b w
  · exact reckoned_8 a b w
  · exact reckoned_9 a b w
  · exact reckoned_10 a b w
  · exact reckoned_11 a b w
  · exact reckoned_12 a b w
  · exact reckoned_13 a b w
  · exact reckoned_14 a b w
  · exact reckoned_15 a b w
  · exact reckoned_16 a b w
  · exact reckoned_17 a b w
  · exact reckoned_18 a b w
  · exact reckoned_19 a b w
  · exact reckoned_20 a b w
  · exact reckoned_21 a b w
  · exact reckoned_22 a b w
  · exact reckoned_23 a b w
  · exact reckoned_24 a b w
  · exact reckoned_25 a b w
  · exact reckoned_26 a b w
  · exact reckoned_27 a b w
  · exact reckoned_28 a b w
  · exact reckoned_29 a b w
  · exact reckoned_30 a b w
end Rv
end Go.Proofs.Ytmedhibjkbahpaa
namespace Go.Proofs.Ytmedhibjkbahpaa
open Go.RowKit
set_option linter.unusedVariables false
set_option linter.unusedSimpArgs false
set_option maxRecDepth 100000
namespace Rv
open WordBins
theorem below_drewN1 {B : Nat} {a w : World} (h : Below B a w) (n : Nat) : Below B a (w.drewN n) := ⟨h.os, h.tape, h.output, h.size, h.block⟩

/-- What an instruction makes of two words, and where it goes on. -/
def stepI (op n a b pc : Int) : Int × Int :=
  if op = 1 then (wrap32 (n * 4096), wrap32 (pc + 4))
  else if op = 26 then (0, if a = b then wrap32 (pc + n) else wrap32 (pc + 4))
  else if op = 27 then (0, if a = b then wrap32 (pc + 4) else wrap32 (pc + n))
  else if op = 28 then (wrap32 (pc + 4), wrap32 (pc + n))
  else if op = 29 then (wrap32 (pc + 4), bits .andNot .i32 (wrap32 (a + n)) 1)
  else if op ≤ 10 then (reckI op a n, wrap32 (pc + 4))
  else (reckI op a b, wrap32 (pc + 4))

theorem step_1 (d r1 r2 n a b pc : Int) (s : ByteArray) (w : World) :
    Calls Try.prog 16 #[.agg #[.int .i64 2, .int .i64 1, .int .i64 d, .int .i64 r1, .int .i64 r2, .int .i32 n, .string s], .int .i32 a, .int .i32 b, .int .i32 pc] w fun e w' => e = .returned (.tuple #[.int .i32 (stepI 1 n a b pc).1, .int .i32 (stepI 1 n a b pc).2]) ∧ Below w.heap.size w w' := by
  go_enter Try.func16, Try.ntmps16
  go_wp2_with first
    | (go_at_call 37; refine (branched_any _ _ _ _ _ _ _ _ _ _).mono ?_; rintro e w' ⟨rfl, o, rfl⟩)
    | (go_at_call 38; refine (reckoned_any _ (by omega) (by omega) _ _ _).mono ?_; rintro e w' ⟨rfl, rfl⟩)
  all_goals
    go_ret2
    first
      | exact ⟨rfl, by first | exact (Below.refl _ _).alloc (Nat.le_refl _) _ | exact below_drewN1 ((Below.refl _ _).alloc (Nat.le_refl _) _) _ | exact ((Below.refl _ _).alloc (Nat.le_refl _) _).alloc (by simp) _⟩
      | exact ⟨Eq.trans (b := Ending.returned (.tuple #[.int .i32 0, .int .i32 (wrap32 (pc + n))])) rfl (by simp [stepI, *]), by first | exact (Below.refl _ _).alloc (Nat.le_refl _) _ | exact below_drewN1 ((Below.refl _ _).alloc (Nat.le_refl _) _) _ | exact ((Below.refl _ _).alloc (Nat.le_refl _) _).alloc (by simp) _⟩
      | exact ⟨Eq.trans (b := Ending.returned (.tuple #[.int .i32 0, .int .i32 (wrap32 (pc + 4))])) rfl (by simp [stepI, *]), by first | exact (Below.refl _ _).alloc (Nat.le_refl _) _ | exact below_drewN1 ((Below.refl _ _).alloc (Nat.le_refl _) _) _ | exact ((Below.refl _ _).alloc (Nat.le_refl _) _).alloc (by simp) _⟩
theorem step_2 (d r1 r2 n a b pc : Int) (s : ByteArray) (w : World) :
    Calls Try.prog 16 #[.agg #[.int .i64 2, .int .i64 2, .int .i64 d, .int .i64 r1, .int .i64 r2, .int .i32 n, .string s], .int .i32 a, .int .i32 b, .int .i32 pc] w fun e w' => e = .returned (.tuple #[.int .i32 (stepI 2 n a b pc).1, .int .i32 (stepI 2 n a b pc).2]) ∧ Below w.heap.size w w' := by
  go_enter Try.func16, Try.ntmps16
  go_wp2_with first
    | (go_at_call 37; refine (branched_any _ _ _ _ _ _ _ _ _ _).mono ?_; rintro e w' ⟨rfl, o, rfl⟩)
    | (go_at_call 38; refine (reckoned_any _ (by omega) (by omega) _ _ _).mono ?_; rintro e w' ⟨rfl, rfl⟩)
  all_goals
    go_ret2
    first
      | exact ⟨rfl, by first | exact (Below.refl _ _).alloc (Nat.le_refl _) _ | exact below_drewN1 ((Below.refl _ _).alloc (Nat.le_refl _) _) _ | exact ((Below.refl _ _).alloc (Nat.le_refl _) _).alloc (by simp) _⟩
      | exact ⟨Eq.trans (b := Ending.returned (.tuple #[.int .i32 0, .int .i32 (wrap32 (pc + n))])) rfl (by simp [stepI, *]), by first | exact (Below.refl _ _).alloc (Nat.le_refl _) _ | exact below_drewN1 ((Below.refl _ _).alloc (Nat.le_refl _) _) _ | exact ((Below.refl _ _).alloc (Nat.le_refl _) _).alloc (by simp) _⟩
      | exact ⟨Eq.trans (b := Ending.returned (.tuple #[.int .i32 0, .int .i32 (wrap32 (pc + 4))])) rfl (by simp [stepI, *]), by first | exact (Below.refl _ _).alloc (Nat.le_refl _) _ | exact below_drewN1 ((Below.refl _ _).alloc (Nat.le_refl _) _) _ | exact ((Below.refl _ _).alloc (Nat.le_refl _) _).alloc (by simp) _⟩
theorem step_3 (d r1 r2 n a b pc : Int) (s : ByteArray) (w : World) :
    Calls Try.prog 16 #[.agg #[.int .i64 2, .int .i64 3, .int .i64 d, .int .i64 r1, .int .i64 r2, .int .i32 n, .string s], .int .i32 a, .int .i32 b, .int .i32 pc] w fun e w' => e = .returned (.tuple #[.int .i32 (stepI 3 n a b pc).1, .int .i32 (stepI 3 n a b pc).2]) ∧ Below w.heap.size w w' := by
  go_enter Try.func16, Try.ntmps16
  go_wp2_with first
    | (go_at_call 37; refine (branched_any _ _ _ _ _ _ _ _ _ _).mono ?_; rintro e w' ⟨rfl, o, rfl⟩)
    | (go_at_call 38; refine (reckoned_any _ (by omega) (by omega) _ _ _).mono ?_; rintro e w' ⟨rfl, rfl⟩)
  all_goals
    go_ret2
    first
      | exact ⟨rfl, by first | exact (Below.refl _ _).alloc (Nat.le_refl _) _ | exact below_drewN1 ((Below.refl _ _).alloc (Nat.le_refl _) _) _ | exact ((Below.refl _ _).alloc (Nat.le_refl _) _).alloc (by simp) _⟩
      | exact ⟨Eq.trans (b := Ending.returned (.tuple #[.int .i32 0, .int .i32 (wrap32 (pc + n))])) rfl (by simp [stepI, *]), by first | exact (Below.refl _ _).alloc (Nat.le_refl _) _ | exact below_drewN1 ((Below.refl _ _).alloc (Nat.le_refl _) _) _ | exact ((Below.refl _ _).alloc (Nat.le_refl _) _).alloc (by simp) _⟩
      | exact ⟨Eq.trans (b := Ending.returned (.tuple #[.int .i32 0, .int .i32 (wrap32 (pc + 4))])) rfl (by simp [stepI, *]), by first | exact (Below.refl _ _).alloc (Nat.le_refl _) _ | exact below_drewN1 ((Below.refl _ _).alloc (Nat.le_refl _) _) _ | exact ((Below.refl _ _).alloc (Nat.le_refl _) _).alloc (by simp) _⟩
theorem step_4 (d r1 r2 n a b pc : Int) (s : ByteArray) (w : World) :
    Calls Try.prog 16 #[.agg #[.int .i64 2, .int .i64 4, .int .i64 d, .int .i64 r1, .int .i64 r2, .int .i32 n, .string s], .int .i32 a, .int .i32 b, .int .i32 pc] w fun e w' => e = .returned (.tuple #[.int .i32 (stepI 4 n a b pc).1, .int .i32 (stepI 4 n a b pc).2]) ∧ Below w.heap.size w w' := by
  go_enter Try.func16, Try.ntmps16
  go_wp2_with first
    | (go_at_call 37; refine (branched_any _ _ _ _ _ _ _ _ _ _).mono ?_; rintro e w' ⟨rfl, o, rfl⟩)
    | (go_at_call 38; refine (reckoned_any _ (by omega) (by omega) _ _ _).mono ?_; rintro e w' ⟨rfl, rfl⟩)
  all_goals
    go_ret2
    first
      | exact ⟨rfl, by first | exact (Below.refl _ _).alloc (Nat.le_refl _) _ | exact below_drewN1 ((Below.refl _ _).alloc (Nat.le_refl _) _) _ | exact ((Below.refl _ _).alloc (Nat.le_refl _) _).alloc (by simp) _⟩
      | exact ⟨Eq.trans (b := Ending.returned (.tuple #[.int .i32 0, .int .i32 (wrap32 (pc + n))])) rfl (by simp [stepI, *]), by first | exact (Below.refl _ _).alloc (Nat.le_refl _) _ | exact below_drewN1 ((Below.refl _ _).alloc (Nat.le_refl _) _) _ | exact ((Below.refl _ _).alloc (Nat.le_refl _) _).alloc (by simp) _⟩
      | exact ⟨Eq.trans (b := Ending.returned (.tuple #[.int .i32 0, .int .i32 (wrap32 (pc + 4))])) rfl (by simp [stepI, *]), by first | exact (Below.refl _ _).alloc (Nat.le_refl _) _ | exact below_drewN1 ((Below.refl _ _).alloc (Nat.le_refl _) _) _ | exact ((Below.refl _ _).alloc (Nat.le_refl _) _).alloc (by simp) _⟩
theorem step_5 (d r1 r2 n a b pc : Int) (s : ByteArray) (w : World) :
    Calls Try.prog 16 #[.agg #[.int .i64 2, .int .i64 5, .int .i64 d, .int .i64 r1, .int .i64 r2, .int .i32 n, .string s], .int .i32 a, .int .i32 b, .int .i32 pc] w fun e w' => e = .returned (.tuple #[.int .i32 (stepI 5 n a b pc).1, .int .i32 (stepI 5 n a b pc).2]) ∧ Below w.heap.size w w' := by
  go_enter Try.func16, Try.ntmps16
  go_wp2_with first
    | (go_at_call 37; refine (branched_any _ _ _ _ _ _ _ _ _ _).mono ?_; rintro e w' ⟨rfl, o, rfl⟩)
    | (go_at_call 38; refine (reckoned_any _ (by omega) (by omega) _ _ _).mono ?_; rintro e w' ⟨rfl, rfl⟩)
  all_goals
    go_ret2
    first
      | exact ⟨rfl, by first | exact (Below.refl _ _).alloc (Nat.le_refl _) _ | exact below_drewN1 ((Below.refl _ _).alloc (Nat.le_refl _) _) _ | exact ((Below.refl _ _).alloc (Nat.le_refl _) _).alloc (by simp) _⟩
      | exact ⟨Eq.trans (b := Ending.returned (.tuple #[.int .i32 0, .int .i32 (wrap32 (pc + n))])) rfl (by simp [stepI, *]), by first | exact (Below.refl _ _).alloc (Nat.le_refl _) _ | exact below_drewN1 ((Below.refl _ _).alloc (Nat.le_refl _) _) _ | exact ((Below.refl _ _).alloc (Nat.le_refl _) _).alloc (by simp) _⟩
      | exact ⟨Eq.trans (b := Ending.returned (.tuple #[.int .i32 0, .int .i32 (wrap32 (pc + 4))])) rfl (by simp [stepI, *]), by first | exact (Below.refl _ _).alloc (Nat.le_refl _) _ | exact below_drewN1 ((Below.refl _ _).alloc (Nat.le_refl _) _) _ | exact ((Below.refl _ _).alloc (Nat.le_refl _) _).alloc (by simp) _⟩
theorem step_6 (d r1 r2 n a b pc : Int) (s : ByteArray) (w : World) :
    Calls Try.prog 16 #[.agg #[.int .i64 2, .int .i64 6, .int .i64 d, .int .i64 r1, .int .i64 r2, .int .i32 n, .string s], .int .i32 a, .int .i32 b, .int .i32 pc] w fun e w' => e = .returned (.tuple #[.int .i32 (stepI 6 n a b pc).1, .int .i32 (stepI 6 n a b pc).2]) ∧ Below w.heap.size w w' := by
  go_enter Try.func16, Try.ntmps16
  go_wp2_with first
    | (go_at_call 37; refine (branched_any _ _ _ _ _ _ _ _ _ _).mono ?_; rintro e w' ⟨rfl, o, rfl⟩)
    | (go_at_call 38; refine (reckoned_any _ (by omega) (by omega) _ _ _).mono ?_; rintro e w' ⟨rfl, rfl⟩)
  all_goals
    go_ret2
    first
      | exact ⟨rfl, by first | exact (Below.refl _ _).alloc (Nat.le_refl _) _ | exact below_drewN1 ((Below.refl _ _).alloc (Nat.le_refl _) _) _ | exact ((Below.refl _ _).alloc (Nat.le_refl _) _).alloc (by simp) _⟩
      | exact ⟨Eq.trans (b := Ending.returned (.tuple #[.int .i32 0, .int .i32 (wrap32 (pc + n))])) rfl (by simp [stepI, *]), by first | exact (Below.refl _ _).alloc (Nat.le_refl _) _ | exact below_drewN1 ((Below.refl _ _).alloc (Nat.le_refl _) _) _ | exact ((Below.refl _ _).alloc (Nat.le_refl _) _).alloc (by simp) _⟩
      | exact ⟨Eq.trans (b := Ending.returned (.tuple #[.int .i32 0, .int .i32 (wrap32 (pc + 4))])) rfl (by simp [stepI, *]), by first | exact (Below.refl _ _).alloc (Nat.le_refl _) _ | exact below_drewN1 ((Below.refl _ _).alloc (Nat.le_refl _) _) _ | exact ((Below.refl _ _).alloc (Nat.le_refl _) _).alloc (by simp) _⟩
theorem step_7 (d r1 r2 n a b pc : Int) (s : ByteArray) (w : World) :
    Calls Try.prog 16 #[.agg #[.int .i64 2, .int .i64 7, .int .i64 d, .int .i64 r1, .int .i64 r2, .int .i32 n, .string s], .int .i32 a, .int .i32 b, .int .i32 pc] w fun e w' => e = .returned (.tuple #[.int .i32 (stepI 7 n a b pc).1, .int .i32 (stepI 7 n a b pc).2]) ∧ Below w.heap.size w w' := by
  go_enter Try.func16, Try.ntmps16
  go_wp2_with first
    | (go_at_call 37; refine (branched_any _ _ _ _ _ _ _ _ _ _).mono ?_; rintro e w' ⟨rfl, o, rfl⟩)
    | (go_at_call 38; refine (reckoned_any _ (by omega) (by omega) _ _ _).mono ?_; rintro e w' ⟨rfl, rfl⟩)
  all_goals
    go_ret2
    first
      | exact ⟨rfl, by first | exact (Below.refl _ _).alloc (Nat.le_refl _) _ | exact below_drewN1 ((Below.refl _ _).alloc (Nat.le_refl _) _) _ | exact ((Below.refl _ _).alloc (Nat.le_refl _) _).alloc (by simp) _⟩
      | exact ⟨Eq.trans (b := Ending.returned (.tuple #[.int .i32 0, .int .i32 (wrap32 (pc + n))])) rfl (by simp [stepI, *]), by first | exact (Below.refl _ _).alloc (Nat.le_refl _) _ | exact below_drewN1 ((Below.refl _ _).alloc (Nat.le_refl _) _) _ | exact ((Below.refl _ _).alloc (Nat.le_refl _) _).alloc (by simp) _⟩
      | exact ⟨Eq.trans (b := Ending.returned (.tuple #[.int .i32 0, .int .i32 (wrap32 (pc + 4))])) rfl (by simp [stepI, *]), by first | exact (Below.refl _ _).alloc (Nat.le_refl _) _ | exact below_drewN1 ((Below.refl _ _).alloc (Nat.le_refl _) _) _ | exact ((Below.refl _ _).alloc (Nat.le_refl _) _).alloc (by simp) _⟩
theorem step_8 (d r1 r2 n a b pc : Int) (s : ByteArray) (w : World) :
    Calls Try.prog 16 #[.agg #[.int .i64 2, .int .i64 8, .int .i64 d, .int .i64 r1, .int .i64 r2, .int .i32 n, .string s], .int .i32 a, .int .i32 b, .int .i32 pc] w fun e w' => e = .returned (.tuple #[.int .i32 (stepI 8 n a b pc).1, .int .i32 (stepI 8 n a b pc).2]) ∧ Below w.heap.size w w' := by
  go_enter Try.func16, Try.ntmps16
  go_wp2_with first
    | (go_at_call 37; refine (branched_any _ _ _ _ _ _ _ _ _ _).mono ?_; rintro e w' ⟨rfl, o, rfl⟩)
    | (go_at_call 38; refine (reckoned_any _ (by omega) (by omega) _ _ _).mono ?_; rintro e w' ⟨rfl, rfl⟩)
  all_goals
    go_ret2
    first
      | exact ⟨rfl, by first | exact (Below.refl _ _).alloc (Nat.le_refl _) _ | exact below_drewN1 ((Below.refl _ _).alloc (Nat.le_refl _) _) _ | exact ((Below.refl _ _).alloc (Nat.le_refl _) _).alloc (by simp) _⟩
      | exact ⟨Eq.trans (b := Ending.returned (.tuple #[.int .i32 0, .int .i32 (wrap32 (pc + n))])) rfl (by simp [stepI, *]), by first | exact (Below.refl _ _).alloc (Nat.le_refl _) _ | exact below_drewN1 ((Below.refl _ _).alloc (Nat.le_refl _) _) _ | exact ((Below.refl _ _).alloc (Nat.le_refl _) _).alloc (by simp) _⟩
      | exact ⟨Eq.trans (b := Ending.returned (.tuple #[.int .i32 0, .int .i32 (wrap32 (pc + 4))])) rfl (by simp [stepI, *]), by first | exact (Below.refl _ _).alloc (Nat.le_refl _) _ | exact below_drewN1 ((Below.refl _ _).alloc (Nat.le_refl _) _) _ | exact ((Below.refl _ _).alloc (Nat.le_refl _) _).alloc (by simp) _⟩
theorem step_9 (d r1 r2 n a b pc : Int) (s : ByteArray) (w : World) :
    Calls Try.prog 16 #[.agg #[.int .i64 2, .int .i64 9, .int .i64 d, .int .i64 r1, .int .i64 r2, .int .i32 n, .string s], .int .i32 a, .int .i32 b, .int .i32 pc] w fun e w' => e = .returned (.tuple #[.int .i32 (stepI 9 n a b pc).1, .int .i32 (stepI 9 n a b pc).2]) ∧ Below w.heap.size w w' := by
  go_enter Try.func16, Try.ntmps16
  go_wp2_with first
    | (go_at_call 37; refine (branched_any _ _ _ _ _ _ _ _ _ _).mono ?_; rintro e w' ⟨rfl, o, rfl⟩)
    | (go_at_call 38; refine (reckoned_any _ (by omega) (by omega) _ _ _).mono ?_; rintro e w' ⟨rfl, rfl⟩)
  all_goals
    go_ret2
    first
      | exact ⟨rfl, by first | exact (Below.refl _ _).alloc (Nat.le_refl _) _ | exact below_drewN1 ((Below.refl _ _).alloc (Nat.le_refl _) _) _ | exact ((Below.refl _ _).alloc (Nat.le_refl _) _).alloc (by simp) _⟩
      | exact ⟨Eq.trans (b := Ending.returned (.tuple #[.int .i32 0, .int .i32 (wrap32 (pc + n))])) rfl (by simp [stepI, *]), by first | exact (Below.refl _ _).alloc (Nat.le_refl _) _ | exact below_drewN1 ((Below.refl _ _).alloc (Nat.le_refl _) _) _ | exact ((Below.refl _ _).alloc (Nat.le_refl _) _).alloc (by simp) _⟩
      | exact ⟨Eq.trans (b := Ending.returned (.tuple #[.int .i32 0, .int .i32 (wrap32 (pc + 4))])) rfl (by simp [stepI, *]), by first | exact (Below.refl _ _).alloc (Nat.le_refl _) _ | exact below_drewN1 ((Below.refl _ _).alloc (Nat.le_refl _) _) _ | exact ((Below.refl _ _).alloc (Nat.le_refl _) _).alloc (by simp) _⟩
theorem step_10 (d r1 r2 n a b pc : Int) (s : ByteArray) (w : World) :
    Calls Try.prog 16 #[.agg #[.int .i64 2, .int .i64 10, .int .i64 d, .int .i64 r1, .int .i64 r2, .int .i32 n, .string s], .int .i32 a, .int .i32 b, .int .i32 pc] w fun e w' => e = .returned (.tuple #[.int .i32 (stepI 10 n a b pc).1, .int .i32 (stepI 10 n a b pc).2]) ∧ Below w.heap.size w w' := by
  go_enter Try.func16, Try.ntmps16
  go_wp2_with first
    | (go_at_call 37; refine (branched_any _ _ _ _ _ _ _ _ _ _).mono ?_; rintro e w' ⟨rfl, o, rfl⟩)
    | (go_at_call 38; refine (reckoned_any _ (by omega) (by omega) _ _ _).mono ?_; rintro e w' ⟨rfl, rfl⟩)
  all_goals
    go_ret2
    first
      | exact ⟨rfl, by first | exact (Below.refl _ _).alloc (Nat.le_refl _) _ | exact below_drewN1 ((Below.refl _ _).alloc (Nat.le_refl _) _) _ | exact ((Below.refl _ _).alloc (Nat.le_refl _) _).alloc (by simp) _⟩
      | exact ⟨Eq.trans (b := Ending.returned (.tuple #[.int .i32 0, .int .i32 (wrap32 (pc + n))])) rfl (by simp [stepI, *]), by first | exact (Below.refl _ _).alloc (Nat.le_refl _) _ | exact below_drewN1 ((Below.refl _ _).alloc (Nat.le_refl _) _) _ | exact ((Below.refl _ _).alloc (Nat.le_refl _) _).alloc (by simp) _⟩
      | exact ⟨Eq.trans (b := Ending.returned (.tuple #[.int .i32 0, .int .i32 (wrap32 (pc + 4))])) rfl (by simp [stepI, *]), by first | exact (Below.refl _ _).alloc (Nat.le_refl _) _ | exact below_drewN1 ((Below.refl _ _).alloc (Nat.le_refl _) _) _ | exact ((Below.refl _ _).alloc (Nat.le_refl _) _).alloc (by simp) _⟩
theorem step_11 (d r1 r2 n a b pc : Int) (s : ByteArray) (w : World) :
    Calls Try.prog 16 #[.agg #[.int .i64 2, .int .i64 11, .int .i64 d, .int .i64 r1, .int .i64 r2, .int .i32 n, .string s], .int .i32 a, .int .i32 b, .int .i32 pc] w fun e w' => e = .returned (.tuple #[.int .i32 (stepI 11 n a b pc).1, .int .i32 (stepI 11 n a b pc).2]) ∧ Below w.heap.size w w' := by
  go_enter Try.func16, Try.ntmps16
  go_wp2_with first
    | (go_at_call 37; refine (branched_any _ _ _ _ _ _ _ _ _ _).mono ?_; rintro e w' ⟨rfl, o, rfl⟩)
    | (go_at_call 38; refine (reckoned_any _ (by omega) (by omega) _ _ _).mono ?_; rintro e w' ⟨rfl, rfl⟩)
  all_goals
    go_ret2
    first
      | exact ⟨rfl, by first | exact (Below.refl _ _).alloc (Nat.le_refl _) _ | exact below_drewN1 ((Below.refl _ _).alloc (Nat.le_refl _) _) _ | exact ((Below.refl _ _).alloc (Nat.le_refl _) _).alloc (by simp) _⟩
      | exact ⟨Eq.trans (b := Ending.returned (.tuple #[.int .i32 0, .int .i32 (wrap32 (pc + n))])) rfl (by simp [stepI, *]), by first | exact (Below.refl _ _).alloc (Nat.le_refl _) _ | exact below_drewN1 ((Below.refl _ _).alloc (Nat.le_refl _) _) _ | exact ((Below.refl _ _).alloc (Nat.le_refl _) _).alloc (by simp) _⟩
      | exact ⟨Eq.trans (b := Ending.returned (.tuple #[.int .i32 0, .int .i32 (wrap32 (pc + 4))])) rfl (by simp [stepI, *]), by first | exact (Below.refl _ _).alloc (Nat.le_refl _) _ | exact below_drewN1 ((Below.refl _ _).alloc (Nat.le_refl _) _) _ | exact ((Below.refl _ _).alloc (Nat.le_refl _) _).alloc (by simp) _⟩
theorem step_12 (d r1 r2 n a b pc : Int) (s : ByteArray) (w : World) :
    Calls Try.prog 16 #[.agg #[.int .i64 2, .int .i64 12, .int .i64 d, .int .i64 r1, .int .i64 r2, .int .i32 n, .string s], .int .i32 a, .int .i32 b, .int .i32 pc] w fun e w' => e = .returned (.tuple #[.int .i32 (stepI 12 n a b pc).1, .int .i32 (stepI 12 n a b pc).2]) ∧ Below w.heap.size w w' := by
  go_enter Try.func16, Try.ntmps16
  go_wp2_with first
    | (go_at_call 37; refine (branched_any _ _ _ _ _ _ _ _ _ _).mono ?_; rintro e w' ⟨rfl, o, rfl⟩)
    | (go_at_call 38; refine (reckoned_any _ (by omega) (by omega) _ _ _).mono ?_; rintro e w' ⟨rfl, rfl⟩)
  all_goals
    go_ret2
    first
      | exact ⟨rfl, by first | exact (Below.refl _ _).alloc (Nat.le_refl _) _ | exact below_drewN1 ((Below.refl _ _).alloc (Nat.le_refl _) _) _ | exact ((Below.refl _ _).alloc (Nat.le_refl _) _).alloc (by simp) _⟩
      | exact ⟨Eq.trans (b := Ending.returned (.tuple #[.int .i32 0, .int .i32 (wrap32 (pc + n))])) rfl (by simp [stepI, *]), by first | exact (Below.refl _ _).alloc (Nat.le_refl _) _ | exact below_drewN1 ((Below.refl _ _).alloc (Nat.le_refl _) _) _ | exact ((Below.refl _ _).alloc (Nat.le_refl _) _).alloc (by simp) _⟩
      | exact ⟨Eq.trans (b := Ending.returned (.tuple #[.int .i32 0, .int .i32 (wrap32 (pc + 4))])) rfl (by simp [stepI, *]), by first | exact (Below.refl _ _).alloc (Nat.le_refl _) _ | exact below_drewN1 ((Below.refl _ _).alloc (Nat.le_refl _) _) _ | exact ((Below.refl _ _).alloc (Nat.le_refl _) _).alloc (by simp) _⟩
theorem step_13 (d r1 r2 n a b pc : Int) (s : ByteArray) (w : World) :
    Calls Try.prog 16 #[.agg #[.int .i64 2, .int .i64 13, .int .i64 d, .int .i64 r1, .int .i64 r2, .int .i32 n, .string s], .int .i32 a, .int .i32 b, .int .i32 pc] w fun e w' => e = .returned (.tuple #[.int .i32 (stepI 13 n a b pc).1, .int .i32 (stepI 13 n a b pc).2]) ∧ Below w.heap.size w w' := by
  go_enter Try.func16, Try.ntmps16
  go_wp2_with first
    | (go_at_call 37; refine (branched_any _ _ _ _ _ _ _ _ _ _).mono ?_; rintro e w' ⟨rfl, o, rfl⟩)
    | (go_at_call 38; refine (reckoned_any _ (by omega) (by omega) _ _ _).mono ?_; rintro e w' ⟨rfl, rfl⟩)
  all_goals
    go_ret2
    first
      | exact ⟨rfl, by first | exact (Below.refl _ _).alloc (Nat.le_refl _) _ | exact below_drewN1 ((Below.refl _ _).alloc (Nat.le_refl _) _) _ | exact ((Below.refl _ _).alloc (Nat.le_refl _) _).alloc (by simp) _⟩
      | exact ⟨Eq.trans (b := Ending.returned (.tuple #[.int .i32 0, .int .i32 (wrap32 (pc + n))])) rfl (by simp [stepI, *]), by first | exact (Below.refl _ _).alloc (Nat.le_refl _) _ | exact below_drewN1 ((Below.refl _ _).alloc (Nat.le_refl _) _) _ | exact ((Below.refl _ _).alloc (Nat.le_refl _) _).alloc (by simp) _⟩
      | exact ⟨Eq.trans (b := Ending.returned (.tuple #[.int .i32 0, .int .i32 (wrap32 (pc + 4))])) rfl (by simp [stepI, *]), by first | exact (Below.refl _ _).alloc (Nat.le_refl _) _ | exact below_drewN1 ((Below.refl _ _).alloc (Nat.le_refl _) _) _ | exact ((Below.refl _ _).alloc (Nat.le_refl _) _).alloc (by simp) _⟩
theorem step_14 (d r1 r2 n a b pc : Int) (s : ByteArray) (w : World) :
    Calls Try.prog 16 #[.agg #[.int .i64 2, .int .i64 14, .int .i64 d, .int .i64 r1, .int .i64 r2, .int .i32 n, .string s], .int .i32 a, .int .i32 b, .int .i32 pc] w fun e w' => e = .returned (.tuple #[.int .i32 (stepI 14 n a b pc).1, .int .i32 (stepI 14 n a b pc).2]) ∧ Below w.heap.size w w' := by
  go_enter Try.func16, Try.ntmps16
  go_wp2_with first
    | (go_at_call 37; refine (branched_any _ _ _ _ _ _ _ _ _ _).mono ?_; rintro e w' ⟨rfl, o, rfl⟩)
    | (go_at_call 38; refine (reckoned_any _ (by omega) (by omega) _ _ _).mono ?_; rintro e w' ⟨rfl, rfl⟩)
  all_goals
    go_ret2
    first
      | exact ⟨rfl, by first | exact (Below.refl _ _).alloc (Nat.le_refl _) _ | exact below_drewN1 ((Below.refl _ _).alloc (Nat.le_refl _) _) _ | exact ((Below.refl _ _).alloc (Nat.le_refl _) _).alloc (by simp) _⟩
      | exact ⟨Eq.trans (b := Ending.returned (.tuple #[.int .i32 0, .int .i32 (wrap32 (pc + n))])) rfl (by simp [stepI, *]), by first | exact (Below.refl _ _).alloc (Nat.le_refl _) _ | exact below_drewN1 ((Below.refl _ _).alloc (Nat.le_refl _) _) _ | exact ((Below.refl _ _).alloc (Nat.le_refl _) _).alloc (by simp) _⟩
      | exact ⟨Eq.trans (b := Ending.returned (.tuple #[.int .i32 0, .int .i32 (wrap32 (pc + 4))])) rfl (by simp [stepI, *]), by first | exact (Below.refl _ _).alloc (Nat.le_refl _) _ | exact below_drewN1 ((Below.refl _ _).alloc (Nat.le_refl _) _) _ | exact ((Below.refl _ _).alloc (Nat.le_refl _) _).alloc (by simp) _⟩
theorem step_15 (d r1 r2 n a b pc : Int) (s : ByteArray) (w : World) :
    Calls Try.prog 16 #[.agg #[.int .i64 2, .int .i64 15, .int .i64 d, .int .i64 r1, .int .i64 r2, .int .i32 n, .string s], .int .i32 a, .int .i32 b, .int .i32 pc] w fun e w' => e = .returned (.tuple #[.int .i32 (stepI 15 n a b pc).1, .int .i32 (stepI 15 n a b pc).2]) ∧ Below w.heap.size w w' := by
  go_enter Try.func16, Try.ntmps16
  go_wp2_with first
    | (go_at_call 37; refine (branched_any _ _ _ _ _ _ _ _ _ _).mono ?_; rintro e w' ⟨rfl, o, rfl⟩)
    | (go_at_call 38; refine (reckoned_any _ (by omega) (by omega) _ _ _).mono ?_; rintro e w' ⟨rfl, rfl⟩)
  all_goals
    go_ret2
    first
      | exact ⟨rfl, by first | exact (Below.refl _ _).alloc (Nat.le_refl _) _ | exact below_drewN1 ((Below.refl _ _).alloc (Nat.le_refl _) _) _ | exact ((Below.refl _ _).alloc (Nat.le_refl _) _).alloc (by simp) _⟩
      | exact ⟨Eq.trans (b := Ending.returned (.tuple #[.int .i32 0, .int .i32 (wrap32 (pc + n))])) rfl (by simp [stepI, *]), by first | exact (Below.refl _ _).alloc (Nat.le_refl _) _ | exact below_drewN1 ((Below.refl _ _).alloc (Nat.le_refl _) _) _ | exact ((Below.refl _ _).alloc (Nat.le_refl _) _).alloc (by simp) _⟩
      | exact ⟨Eq.trans (b := Ending.returned (.tuple #[.int .i32 0, .int .i32 (wrap32 (pc + 4))])) rfl (by simp [stepI, *]), by first | exact (Below.refl _ _).alloc (Nat.le_refl _) _ | exact below_drewN1 ((Below.refl _ _).alloc (Nat.le_refl _) _) _ | exact ((Below.refl _ _).alloc (Nat.le_refl _) _).alloc (by simp) _⟩
theorem step_16 (d r1 r2 n a b pc : Int) (s : ByteArray) (w : World) :
    Calls Try.prog 16 #[.agg #[.int .i64 2, .int .i64 16, .int .i64 d, .int .i64 r1, .int .i64 r2, .int .i32 n, .string s], .int .i32 a, .int .i32 b, .int .i32 pc] w fun e w' => e = .returned (.tuple #[.int .i32 (stepI 16 n a b pc).1, .int .i32 (stepI 16 n a b pc).2]) ∧ Below w.heap.size w w' := by
  go_enter Try.func16, Try.ntmps16
  go_wp2_with first
    | (go_at_call 37; refine (branched_any _ _ _ _ _ _ _ _ _ _).mono ?_; rintro e w' ⟨rfl, o, rfl⟩)
    | (go_at_call 38; refine (reckoned_any _ (by omega) (by omega) _ _ _).mono ?_; rintro e w' ⟨rfl, rfl⟩)
  all_goals
    go_ret2
    first
      | exact ⟨rfl, by first | exact (Below.refl _ _).alloc (Nat.le_refl _) _ | exact below_drewN1 ((Below.refl _ _).alloc (Nat.le_refl _) _) _ | exact ((Below.refl _ _).alloc (Nat.le_refl _) _).alloc (by simp) _⟩
      | exact ⟨Eq.trans (b := Ending.returned (.tuple #[.int .i32 0, .int .i32 (wrap32 (pc + n))])) rfl (by simp [stepI, *]), by first | exact (Below.refl _ _).alloc (Nat.le_refl _) _ | exact below_drewN1 ((Below.refl _ _).alloc (Nat.le_refl _) _) _ | exact ((Below.refl _ _).alloc (Nat.le_refl _) _).alloc (by simp) _⟩
      | exact ⟨Eq.trans (b := Ending.returned (.tuple #[.int .i32 0, .int .i32 (wrap32 (pc + 4))])) rfl (by simp [stepI, *]), by first | exact (Below.refl _ _).alloc (Nat.le_refl _) _ | exact below_drewN1 ((Below.refl _ _).alloc (Nat.le_refl _) _) _ | exact ((Below.refl _ _).alloc (Nat.le_refl _) _).alloc (by simp) _⟩
theorem step_17 (d r1 r2 n a b pc : Int) (s : ByteArray) (w : World) :
    Calls Try.prog 16 #[.agg #[.int .i64 2, .int .i64 17, .int .i64 d, .int .i64 r1, .int .i64 r2, .int .i32 n, .string s], .int .i32 a, .int .i32 b, .int .i32 pc] w fun e w' => e = .returned (.tuple #[.int .i32 (stepI 17 n a b pc).1, .int .i32 (stepI 17 n a b pc).2]) ∧ Below w.heap.size w w' := by
  go_enter Try.func16, Try.ntmps16
  go_wp2_with first
    | (go_at_call 37; refine (branched_any _ _ _ _ _ _ _ _ _ _).mono ?_; rintro e w' ⟨rfl, o, rfl⟩)
    | (go_at_call 38; refine (reckoned_any _ (by omega) (by omega) _ _ _).mono ?_; rintro e w' ⟨rfl, rfl⟩)
  all_goals
    go_ret2
    first
      | exact ⟨rfl, by first | exact (Below.refl _ _).alloc (Nat.le_refl _) _ | exact below_drewN1 ((Below.refl _ _).alloc (Nat.le_refl _) _) _ | exact ((Below.refl _ _).alloc (Nat.le_refl _) _).alloc (by simp) _⟩
      | exact ⟨Eq.trans (b := Ending.returned (.tuple #[.int .i32 0, .int .i32 (wrap32 (pc + n))])) rfl (by simp [stepI, *]), by first | exact (Below.refl _ _).alloc (Nat.le_refl _) _ | exact below_drewN1 ((Below.refl _ _).alloc (Nat.le_refl _) _) _ | exact ((Below.refl _ _).alloc (Nat.le_refl _) _).alloc (by simp) _⟩
      | exact ⟨Eq.trans (b := Ending.returned (.tuple #[.int .i32 0, .int .i32 (wrap32 (pc + 4))])) rfl (by simp [stepI, *]), by first | exact (Below.refl _ _).alloc (Nat.le_refl _) _ | exact below_drewN1 ((Below.refl _ _).alloc (Nat.le_refl _) _) _ | exact ((Below.refl _ _).alloc (Nat.le_refl _) _).alloc (by simp) _⟩
theorem step_18 (d r1 r2 n a b pc : Int) (s : ByteArray) (w : World) :
    Calls Try.prog 16 #[.agg #[.int .i64 2, .int .i64 18, .int .i64 d, .int .i64 r1, .int .i64 r2, .int .i32 n, .string s], .int .i32 a, .int .i32 b, .int .i32 pc] w fun e w' => e = .returned (.tuple #[.int .i32 (stepI 18 n a b pc).1, .int .i32 (stepI 18 n a b pc).2]) ∧ Below w.heap.size w w' := by
  go_enter Try.func16, Try.ntmps16
  go_wp2_with first
    | (go_at_call 37; refine (branched_any _ _ _ _ _ _ _ _ _ _).mono ?_; rintro e w' ⟨rfl, o, rfl⟩)
    | (go_at_call 38; refine (reckoned_any _ (by omega) (by omega) _ _ _).mono ?_; rintro e w' ⟨rfl, rfl⟩)
  all_goals
    go_ret2
    first
      | exact ⟨rfl, by first | exact (Below.refl _ _).alloc (Nat.le_refl _) _ | exact below_drewN1 ((Below.refl _ _).alloc (Nat.le_refl _) _) _ | exact ((Below.refl _ _).alloc (Nat.le_refl _) _).alloc (by simp) _⟩
      | exact ⟨Eq.trans (b := Ending.returned (.tuple #[.int .i32 0, .int .i32 (wrap32 (pc + n))])) rfl (by simp [stepI, *]), by first | exact (Below.refl _ _).alloc (Nat.le_refl _) _ | exact below_drewN1 ((Below.refl _ _).alloc (Nat.le_refl _) _) _ | exact ((Below.refl _ _).alloc (Nat.le_refl _) _).alloc (by simp) _⟩
      | exact ⟨Eq.trans (b := Ending.returned (.tuple #[.int .i32 0, .int .i32 (wrap32 (pc + 4))])) rfl (by simp [stepI, *]), by first | exact (Below.refl _ _).alloc (Nat.le_refl _) _ | exact below_drewN1 ((Below.refl _ _).alloc (Nat.le_refl _) _) _ | exact ((Below.refl _ _).alloc (Nat.le_refl _) _).alloc (by simp) _⟩
theorem step_19 (d r1 r2 n a b pc : Int) (s : ByteArray) (w : World) :
    Calls Try.prog 16 #[.agg #[.int .i64 2, .int .i64 19, .int .i64 d, .int .i64 r1, .int .i64 r2, .int .i32 n, .string s], .int .i32 a, .int .i32 b, .int .i32 pc] w fun e w' => e = .returned (.tuple #[.int .i32 (stepI 19 n a b pc).1, .int .i32 (stepI 19 n a b pc).2]) ∧ Below w.heap.size w w' := by
  go_enter Try.func16, Try.ntmps16
  go_wp2_with first
    | (go_at_call 37; refine (branched_any _ _ _ _ _ _ _ _ _ _).mono ?_; rintro e w' ⟨rfl, o, rfl⟩)
    | (go_at_call 38; refine (reckoned_any _ (by omega) (by omega) _ _ _).mono ?_; rintro e w' ⟨rfl, rfl⟩)
  all_goals
    go_ret2
    first
      | exact ⟨rfl, by first | exact (Below.refl _ _).alloc (Nat.le_refl _) _ | exact below_drewN1 ((Below.refl _ _).alloc (Nat.le_refl _) _) _ | exact ((Below.refl _ _).alloc (Nat.le_refl _) _).alloc (by simp) _⟩
      | exact ⟨Eq.trans (b := Ending.returned (.tuple #[.int .i32 0, .int .i32 (wrap32 (pc + n))])) rfl (by simp [stepI, *]), by first | exact (Below.refl _ _).alloc (Nat.le_refl _) _ | exact below_drewN1 ((Below.refl _ _).alloc (Nat.le_refl _) _) _ | exact ((Below.refl _ _).alloc (Nat.le_refl _) _).alloc (by simp) _⟩
      | exact ⟨Eq.trans (b := Ending.returned (.tuple #[.int .i32 0, .int .i32 (wrap32 (pc + 4))])) rfl (by simp [stepI, *]), by first | exact (Below.refl _ _).alloc (Nat.le_refl _) _ | exact below_drewN1 ((Below.refl _ _).alloc (Nat.le_refl _) _) _ | exact ((Below.refl _ _).alloc (Nat.le_refl _) _).alloc (by simp) _⟩
theorem step_20 (d r1 r2 n a b pc : Int) (s : ByteArray) (w : World) :
    Calls Try.prog 16 #[.agg #[.int .i64 2, .int .i64 20, .int .i64 d, .int .i64 r1, .int .i64 r2, .int .i32 n, .string s], .int .i32 a, .int .i32 b, .int .i32 pc] w fun e w' => e = .returned (.tuple #[.int .i32 (stepI 20 n a b pc).1, .int .i32 (stepI 20 n a b pc).2]) ∧ Below w.heap.size w w' := by
  go_enter Try.func16, Try.ntmps16
  go_wp2_with first
    | (go_at_call 37; refine (branched_any _ _ _ _ _ _ _ _ _ _).mono ?_; rintro e w' ⟨rfl, o, rfl⟩)
    | (go_at_call 38; refine (reckoned_any _ (by omega) (by omega) _ _ _).mono ?_; rintro e w' ⟨rfl, rfl⟩)
  all_goals
    go_ret2
    first
      | exact ⟨rfl, by first | exact (Below.refl _ _).alloc (Nat.le_refl _) _ | exact below_drewN1 ((Below.refl _ _).alloc (Nat.le_refl _) _) _ | exact ((Below.refl _ _).alloc (Nat.le_refl _) _).alloc (by simp) _⟩
      | exact ⟨Eq.trans (b := Ending.returned (.tuple #[.int .i32 0, .int .i32 (wrap32 (pc + n))])) rfl (by simp [stepI, *]), by first | exact (Below.refl _ _).alloc (Nat.le_refl _) _ | exact below_drewN1 ((Below.refl _ _).alloc (Nat.le_refl _) _) _ | exact ((Below.refl _ _).alloc (Nat.le_refl _) _).alloc (by simp) _⟩
      | exact ⟨Eq.trans (b := Ending.returned (.tuple #[.int .i32 0, .int .i32 (wrap32 (pc + 4))])) rfl (by simp [stepI, *]), by first | exact (Below.refl _ _).alloc (Nat.le_refl _) _ | exact below_drewN1 ((Below.refl _ _).alloc (Nat.le_refl _) _) _ | exact ((Below.refl _ _).alloc (Nat.le_refl _) _).alloc (by simp) _⟩
theorem step_21 (d r1 r2 n a b pc : Int) (s : ByteArray) (w : World) :
    Calls Try.prog 16 #[.agg #[.int .i64 2, .int .i64 21, .int .i64 d, .int .i64 r1, .int .i64 r2, .int .i32 n, .string s], .int .i32 a, .int .i32 b, .int .i32 pc] w fun e w' => e = .returned (.tuple #[.int .i32 (stepI 21 n a b pc).1, .int .i32 (stepI 21 n a b pc).2]) ∧ Below w.heap.size w w' := by
  go_enter Try.func16, Try.ntmps16
  go_wp2_with first
    | (go_at_call 37; refine (branched_any _ _ _ _ _ _ _ _ _ _).mono ?_; rintro e w' ⟨rfl, o, rfl⟩)
    | (go_at_call 38; refine (reckoned_any _ (by omega) (by omega) _ _ _).mono ?_; rintro e w' ⟨rfl, rfl⟩)
  all_goals
    go_ret2
    first
      | exact ⟨rfl, by first | exact (Below.refl _ _).alloc (Nat.le_refl _) _ | exact below_drewN1 ((Below.refl _ _).alloc (Nat.le_refl _) _) _ | exact ((Below.refl _ _).alloc (Nat.le_refl _) _).alloc (by simp) _⟩
      | exact ⟨Eq.trans (b := Ending.returned (.tuple #[.int .i32 0, .int .i32 (wrap32 (pc + n))])) rfl (by simp [stepI, *]), by first | exact (Below.refl _ _).alloc (Nat.le_refl _) _ | exact below_drewN1 ((Below.refl _ _).alloc (Nat.le_refl _) _) _ | exact ((Below.refl _ _).alloc (Nat.le_refl _) _).alloc (by simp) _⟩
      | exact ⟨Eq.trans (b := Ending.returned (.tuple #[.int .i32 0, .int .i32 (wrap32 (pc + 4))])) rfl (by simp [stepI, *]), by first | exact (Below.refl _ _).alloc (Nat.le_refl _) _ | exact below_drewN1 ((Below.refl _ _).alloc (Nat.le_refl _) _) _ | exact ((Below.refl _ _).alloc (Nat.le_refl _) _).alloc (by simp) _⟩
theorem step_22 (d r1 r2 n a b pc : Int) (s : ByteArray) (w : World) :
    Calls Try.prog 16 #[.agg #[.int .i64 2, .int .i64 22, .int .i64 d, .int .i64 r1, .int .i64 r2, .int .i32 n, .string s], .int .i32 a, .int .i32 b, .int .i32 pc] w fun e w' => e = .returned (.tuple #[.int .i32 (stepI 22 n a b pc).1, .int .i32 (stepI 22 n a b pc).2]) ∧ Below w.heap.size w w' := by
  go_enter Try.func16, Try.ntmps16
  go_wp2_with first
    | (go_at_call 37; refine (branched_any _ _ _ _ _ _ _ _ _ _).mono ?_; rintro e w' ⟨rfl, o, rfl⟩)
    | (go_at_call 38; refine (reckoned_any _ (by omega) (by omega) _ _ _).mono ?_; rintro e w' ⟨rfl, rfl⟩)
  all_goals
    go_ret2
    first
      | exact ⟨rfl, by first | exact (Below.refl _ _).alloc (Nat.le_refl _) _ | exact below_drewN1 ((Below.refl _ _).alloc (Nat.le_refl _) _) _ | exact ((Below.refl _ _).alloc (Nat.le_refl _) _).alloc (by simp) _⟩
      | exact ⟨Eq.trans (b := Ending.returned (.tuple #[.int .i32 0, .int .i32 (wrap32 (pc + n))])) rfl (by simp [stepI, *]), by first | exact (Below.refl _ _).alloc (Nat.le_refl _) _ | exact below_drewN1 ((Below.refl _ _).alloc (Nat.le_refl _) _) _ | exact ((Below.refl _ _).alloc (Nat.le_refl _) _).alloc (by simp) _⟩
      | exact ⟨Eq.trans (b := Ending.returned (.tuple #[.int .i32 0, .int .i32 (wrap32 (pc + 4))])) rfl (by simp [stepI, *]), by first | exact (Below.refl _ _).alloc (Nat.le_refl _) _ | exact below_drewN1 ((Below.refl _ _).alloc (Nat.le_refl _) _) _ | exact ((Below.refl _ _).alloc (Nat.le_refl _) _).alloc (by simp) _⟩
theorem step_23 (d r1 r2 n a b pc : Int) (s : ByteArray) (w : World) :
    Calls Try.prog 16 #[.agg #[.int .i64 2, .int .i64 23, .int .i64 d, .int .i64 r1, .int .i64 r2, .int .i32 n, .string s], .int .i32 a, .int .i32 b, .int .i32 pc] w fun e w' => e = .returned (.tuple #[.int .i32 (stepI 23 n a b pc).1, .int .i32 (stepI 23 n a b pc).2]) ∧ Below w.heap.size w w' := by
  go_enter Try.func16, Try.ntmps16
  go_wp2_with first
    | (go_at_call 37; refine (branched_any _ _ _ _ _ _ _ _ _ _).mono ?_; rintro e w' ⟨rfl, o, rfl⟩)
    | (go_at_call 38; refine (reckoned_any _ (by omega) (by omega) _ _ _).mono ?_; rintro e w' ⟨rfl, rfl⟩)
  all_goals
    go_ret2
    first
      | exact ⟨rfl, by first | exact (Below.refl _ _).alloc (Nat.le_refl _) _ | exact below_drewN1 ((Below.refl _ _).alloc (Nat.le_refl _) _) _ | exact ((Below.refl _ _).alloc (Nat.le_refl _) _).alloc (by simp) _⟩
      | exact ⟨Eq.trans (b := Ending.returned (.tuple #[.int .i32 0, .int .i32 (wrap32 (pc + n))])) rfl (by simp [stepI, *]), by first | exact (Below.refl _ _).alloc (Nat.le_refl _) _ | exact below_drewN1 ((Below.refl _ _).alloc (Nat.le_refl _) _) _ | exact ((Below.refl _ _).alloc (Nat.le_refl _) _).alloc (by simp) _⟩
      | exact ⟨Eq.trans (b := Ending.returned (.tuple #[.int .i32 0, .int .i32 (wrap32 (pc + 4))])) rfl (by simp [stepI, *]), by first | exact (Below.refl _ _).alloc (Nat.le_refl _) _ | exact below_drewN1 ((Below.refl _ _).alloc (Nat.le_refl _) _) _ | exact ((Below.refl _ _).alloc (Nat.le_refl _) _).alloc (by simp) _⟩
theorem step_24 (d r1 r2 n a b pc : Int) (s : ByteArray) (w : World) :
    Calls Try.prog 16 #[.agg #[.int .i64 2, .int .i64 24, .int .i64 d, .int .i64 r1, .int .i64 r2, .int .i32 n, .string s], .int .i32 a, .int .i32 b, .int .i32 pc] w fun e w' => e = .returned (.tuple #[.int .i32 (stepI 24 n a b pc).1, .int .i32 (stepI 24 n a b pc).2]) ∧ Below w.heap.size w w' := by
  go_enter Try.func16, Try.ntmps16
  go_wp2_with first
    | (go_at_call 37; refine (branched_any _ _ _ _ _ _ _ _ _ _).mono ?_; rintro e w' ⟨rfl, o, rfl⟩)
    | (go_at_call 38; refine (reckoned_any _ (by omega) (by omega) _ _ _).mono ?_; rintro e w' ⟨rfl, rfl⟩)
  all_goals
    go_ret2
    first
      | exact ⟨rfl, by first | exact (Below.refl _ _).alloc (Nat.le_refl _) _ | exact below_drewN1 ((Below.refl _ _).alloc (Nat.le_refl _) _) _ | exact ((Below.refl _ _).alloc (Nat.le_refl _) _).alloc (by simp) _⟩
      | exact ⟨Eq.trans (b := Ending.returned (.tuple #[.int .i32 0, .int .i32 (wrap32 (pc + n))])) rfl (by simp [stepI, *]), by first | exact (Below.refl _ _).alloc (Nat.le_refl _) _ | exact below_drewN1 ((Below.refl _ _).alloc (Nat.le_refl _) _) _ | exact ((Below.refl _ _).alloc (Nat.le_refl _) _).alloc (by simp) _⟩
      | exact ⟨Eq.trans (b := Ending.returned (.tuple #[.int .i32 0, .int .i32 (wrap32 (pc + 4))])) rfl (by simp [stepI, *]), by first | exact (Below.refl _ _).alloc (Nat.le_refl _) _ | exact below_drewN1 ((Below.refl _ _).alloc (Nat.le_refl _) _) _ | exact ((Below.refl _ _).alloc (Nat.le_refl _) _).alloc (by simp) _⟩
theorem step_25 (d r1 r2 n a b pc : Int) (s : ByteArray) (w : World) :
    Calls Try.prog 16 #[.agg #[.int .i64 2, .int .i64 25, .int .i64 d, .int .i64 r1, .int .i64 r2, .int .i32 n, .string s], .int .i32 a, .int .i32 b, .int .i32 pc] w fun e w' => e = .returned (.tuple #[.int .i32 (stepI 25 n a b pc).1, .int .i32 (stepI 25 n a b pc).2]) ∧ Below w.heap.size w w' := by
  go_enter Try.func16, Try.ntmps16
  go_wp2_with first
    | (go_at_call 37; refine (branched_any _ _ _ _ _ _ _ _ _ _).mono ?_; rintro e w' ⟨rfl, o, rfl⟩)
    | (go_at_call 38; refine (reckoned_any _ (by omega) (by omega) _ _ _).mono ?_; rintro e w' ⟨rfl, rfl⟩)
  all_goals
    go_ret2
    first
      | exact ⟨rfl, by first | exact (Below.refl _ _).alloc (Nat.le_refl _) _ | exact below_drewN1 ((Below.refl _ _).alloc (Nat.le_refl _) _) _ | exact ((Below.refl _ _).alloc (Nat.le_refl _) _).alloc (by simp) _⟩
      | exact ⟨Eq.trans (b := Ending.returned (.tuple #[.int .i32 0, .int .i32 (wrap32 (pc + n))])) rfl (by simp [stepI, *]), by first | exact (Below.refl _ _).alloc (Nat.le_refl _) _ | exact below_drewN1 ((Below.refl _ _).alloc (Nat.le_refl _) _) _ | exact ((Below.refl _ _).alloc (Nat.le_refl _) _).alloc (by simp) _⟩
      | exact ⟨Eq.trans (b := Ending.returned (.tuple #[.int .i32 0, .int .i32 (wrap32 (pc + 4))])) rfl (by simp [stepI, *]), by first | exact (Below.refl _ _).alloc (Nat.le_refl _) _ | exact below_drewN1 ((Below.refl _ _).alloc (Nat.le_refl _) _) _ | exact ((Below.refl _ _).alloc (Nat.le_refl _) _).alloc (by simp) _⟩
theorem step_26 (d r1 r2 n a b pc : Int) (s : ByteArray) (w : World) :
    Calls Try.prog 16 #[.agg #[.int .i64 2, .int .i64 26, .int .i64 d, .int .i64 r1, .int .i64 r2, .int .i32 n, .string s], .int .i32 a, .int .i32 b, .int .i32 pc] w fun e w' => e = .returned (.tuple #[.int .i32 (stepI 26 n a b pc).1, .int .i32 (stepI 26 n a b pc).2]) ∧ Below w.heap.size w w' := by
  go_enter Try.func16, Try.ntmps16
  go_wp2_with first
    | (go_at_call 37; refine (branched_any _ _ _ _ _ _ _ _ _ _).mono ?_; rintro e w' ⟨rfl, o, rfl⟩)
    | (go_at_call 38; refine (reckoned_any _ (by omega) (by omega) _ _ _).mono ?_; rintro e w' ⟨rfl, rfl⟩)
  all_goals
    go_ret2
    first
      | exact ⟨rfl, by first | exact (Below.refl _ _).alloc (Nat.le_refl _) _ | exact below_drewN1 ((Below.refl _ _).alloc (Nat.le_refl _) _) _ | exact ((Below.refl _ _).alloc (Nat.le_refl _) _).alloc (by simp) _⟩
      | exact ⟨Eq.trans (b := Ending.returned (.tuple #[.int .i32 0, .int .i32 (wrap32 (pc + n))])) rfl (by simp [stepI, *]), by first | exact (Below.refl _ _).alloc (Nat.le_refl _) _ | exact below_drewN1 ((Below.refl _ _).alloc (Nat.le_refl _) _) _ | exact ((Below.refl _ _).alloc (Nat.le_refl _) _).alloc (by simp) _⟩
      | exact ⟨Eq.trans (b := Ending.returned (.tuple #[.int .i32 0, .int .i32 (wrap32 (pc + 4))])) rfl (by simp [stepI, *]), by first | exact (Below.refl _ _).alloc (Nat.le_refl _) _ | exact below_drewN1 ((Below.refl _ _).alloc (Nat.le_refl _) _) _ | exact ((Below.refl _ _).alloc (Nat.le_refl _) _).alloc (by simp) _⟩
theorem step_27 (d r1 r2 n a b pc : Int) (s : ByteArray) (w : World) :
    Calls Try.prog 16 #[.agg #[.int .i64 2, .int .i64 27, .int .i64 d, .int .i64 r1, .int .i64 r2, .int .i32 n, .string s], .int .i32 a, .int .i32 b, .int .i32 pc] w fun e w' => e = .returned (.tuple #[.int .i32 (stepI 27 n a b pc).1, .int .i32 (stepI 27 n a b pc).2]) ∧ Below w.heap.size w w' := by
  go_enter Try.func16, Try.ntmps16
  go_wp2_with first
    | (go_at_call 37; refine (branched_any _ _ _ _ _ _ _ _ _ _).mono ?_; rintro e w' ⟨rfl, o, rfl⟩)
    | (go_at_call 38; refine (reckoned_any _ (by omega) (by omega) _ _ _).mono ?_; rintro e w' ⟨rfl, rfl⟩)
  all_goals
    go_ret2
    first
      | exact ⟨rfl, by first | exact (Below.refl _ _).alloc (Nat.le_refl _) _ | exact below_drewN1 ((Below.refl _ _).alloc (Nat.le_refl _) _) _ | exact ((Below.refl _ _).alloc (Nat.le_refl _) _).alloc (by simp) _⟩
      | exact ⟨Eq.trans (b := Ending.returned (.tuple #[.int .i32 0, .int .i32 (wrap32 (pc + n))])) rfl (by simp [stepI, *]), by first | exact (Below.refl _ _).alloc (Nat.le_refl _) _ | exact below_drewN1 ((Below.refl _ _).alloc (Nat.le_refl _) _) _ | exact ((Below.refl _ _).alloc (Nat.le_refl _) _).alloc (by simp) _⟩
      | exact ⟨Eq.trans (b := Ending.returned (.tuple #[.int .i32 0, .int .i32 (wrap32 (pc + 4))])) rfl (by simp [stepI, *]), by first | exact (Below.refl _ _).alloc (Nat.le_refl _) _ | exact below_drewN1 ((Below.refl _ _).alloc (Nat.le_refl _) _) _ | exact ((Below.refl _ _).alloc (Nat.le_refl _) _).alloc (by simp) _⟩
theorem step_28 (d r1 r2 n a b pc : Int) (s : ByteArray) (w : World) :
    Calls Try.prog 16 #[.agg #[.int .i64 2, .int .i64 28, .int .i64 d, .int .i64 r1, .int .i64 r2, .int .i32 n, .string s], .int .i32 a, .int .i32 b, .int .i32 pc] w fun e w' => e = .returned (.tuple #[.int .i32 (stepI 28 n a b pc).1, .int .i32 (stepI 28 n a b pc).2]) ∧ Below w.heap.size w w' := by
  go_enter Try.func16, Try.ntmps16
  go_wp2_with first
    | (go_at_call 37; refine (branched_any _ _ _ _ _ _ _ _ _ _).mono ?_; rintro e w' ⟨rfl, o, rfl⟩)
    | (go_at_call 38; refine (reckoned_any _ (by omega) (by omega) _ _ _).mono ?_; rintro e w' ⟨rfl, rfl⟩)
  go_region
  all_goals (try go_wp2)
  all_goals
    go_ret2
    first
      | exact ⟨rfl, by first | exact (Below.refl _ _).alloc (Nat.le_refl _) _ | exact below_drewN1 ((Below.refl _ _).alloc (Nat.le_refl _) _) _ | exact ((Below.refl _ _).alloc (Nat.le_refl _) _).alloc (by simp) _⟩
      | exact ⟨Eq.trans (b := Ending.returned (.tuple #[.int .i32 0, .int .i32 (wrap32 (pc + n))])) rfl (by simp [stepI, *]), by first | exact (Below.refl _ _).alloc (Nat.le_refl _) _ | exact below_drewN1 ((Below.refl _ _).alloc (Nat.le_refl _) _) _ | exact ((Below.refl _ _).alloc (Nat.le_refl _) _).alloc (by simp) _⟩
      | exact ⟨Eq.trans (b := Ending.returned (.tuple #[.int .i32 0, .int .i32 (wrap32 (pc + 4))])) rfl (by simp [stepI, *]), by first | exact (Below.refl _ _).alloc (Nat.le_refl _) _ | exact below_drewN1 ((Below.refl _ _).alloc (Nat.le_refl _) _) _ | exact ((Below.refl _ _).alloc (Nat.le_refl _) _).alloc (by simp) _⟩
theorem step_29 (d r1 r2 n a b pc : Int) (s : ByteArray) (w : World) :
    Calls Try.prog 16 #[.agg #[.int .i64 2, .int .i64 29, .int .i64 d, .int .i64 r1, .int .i64 r2, .int .i32 n, .string s], .int .i32 a, .int .i32 b, .int .i32 pc] w fun e w' => e = .returned (.tuple #[.int .i32 (stepI 29 n a b pc).1, .int .i32 (stepI 29 n a b pc).2]) ∧ Below w.heap.size w w' := by
  go_enter Try.func16, Try.ntmps16
  go_wp2_with first
    | (go_at_call 37; refine (branched_any _ _ _ _ _ _ _ _ _ _).mono ?_; rintro e w' ⟨rfl, o, rfl⟩)
    | (go_at_call 38; refine (reckoned_any _ (by omega) (by omega) _ _ _).mono ?_; rintro e w' ⟨rfl, rfl⟩)
  go_region
  all_goals (try go_wp2)
  all_goals
    go_ret2
    first
      | exact ⟨rfl, by first | exact (Below.refl _ _).alloc (Nat.le_refl _) _ | exact below_drewN1 ((Below.refl _ _).alloc (Nat.le_refl _) _) _ | exact ((Below.refl _ _).alloc (Nat.le_refl _) _).alloc (by simp) _⟩
      | exact ⟨Eq.trans (b := Ending.returned (.tuple #[.int .i32 0, .int .i32 (wrap32 (pc + n))])) rfl (by simp [stepI, *]), by first | exact (Below.refl _ _).alloc (Nat.le_refl _) _ | exact below_drewN1 ((Below.refl _ _).alloc (Nat.le_refl _) _) _ | exact ((Below.refl _ _).alloc (Nat.le_refl _) _).alloc (by simp) _⟩
      | exact ⟨Eq.trans (b := Ending.returned (.tuple #[.int .i32 0, .int .i32 (wrap32 (pc + 4))])) rfl (by simp [stepI, *]), by first | exact (Below.refl _ _).alloc (Nat.le_refl _) _ | exact below_drewN1 ((Below.refl _ _).alloc (Nat.le_refl _) _) _ | exact ((Below.refl _ _).alloc (Nat.le_refl _) _).alloc (by simp) _⟩
theorem step_30 (d r1 r2 n a b pc : Int) (s : ByteArray) (w : World) :
    Calls Try.prog 16 #[.agg #[.int .i64 2, .int .i64 30, .int .i64 d, .int .i64 r1, .int .i64 r2, .int .i32 n, .string s], .int .i32 a, .int .i32 b, .int .i32 pc] w fun e w' => e = .returned (.tuple #[.int .i32 (stepI 30 n a b pc).1, .int .i32 (stepI 30 n a b pc).2]) ∧ Below w.heap.size w w' := by
  go_enter Try.func16, Try.ntmps16
  go_wp2_with first
    | (go_at_call 37; refine (branched_any _ _ _ _ _ _ _ _ _ _).mono ?_; rintro e w' ⟨rfl, o, rfl⟩)
    | (go_at_call 38; refine (reckoned_any _ (by omega) (by omega) _ _ _).mono ?_; rintro e w' ⟨rfl, rfl⟩)
  all_goals
    go_ret2
    first
      | exact ⟨rfl, by first | exact (Below.refl _ _).alloc (Nat.le_refl _) _ | exact below_drewN1 ((Below.refl _ _).alloc (Nat.le_refl _) _) _ | exact ((Below.refl _ _).alloc (Nat.le_refl _) _).alloc (by simp) _⟩
      | exact ⟨Eq.trans (b := Ending.returned (.tuple #[.int .i32 0, .int .i32 (wrap32 (pc + n))])) rfl (by simp [stepI, *]), by first | exact (Below.refl _ _).alloc (Nat.le_refl _) _ | exact below_drewN1 ((Below.refl _ _).alloc (Nat.le_refl _) _) _ | exact ((Below.refl _ _).alloc (Nat.le_refl _) _).alloc (by simp) _⟩
      | exact ⟨Eq.trans (b := Ending.returned (.tuple #[.int .i32 0, .int .i32 (wrap32 (pc + 4))])) rfl (by simp [stepI, *]), by first | exact (Below.refl _ _).alloc (Nat.le_refl _) _ | exact below_drewN1 ((Below.refl _ _).alloc (Nat.le_refl _) _) _ | exact ((Below.refl _ _).alloc (Nat.le_refl _) _).alloc (by simp) _⟩
theorem step_any (op d r1 r2 n a b pc : Int) (h1 : 1 ≤ op) (h2 : op ≤ 30) (s : ByteArray) (w : World) :
    Calls Try.prog 16 #[.agg #[.int .i64 2, .int .i64 op, .int .i64 d, .int .i64 r1, .int .i64 r2, .int .i32 n, .string s], .int .i32 a, .int .i32 b, .int .i32 pc] w fun e w' => e = .returned (.tuple #[.int .i32 (stepI op n a b pc).1, .int .i32 (stepI op n a b pc).2]) ∧ Below w.heap.size w w' := by
  rcases ops30 h1 h2 with rfl | rfl | rfl | rfl | rfl | rfl | rfl | rfl | rfl | rfl | rfl | rfl | rfl | rfl | rfl | rfl | rfl | rfl | rfl | rfl | rfl | rfl | rfl | rfl | rfl | rfl | rfl | rfl | rfl | rfl
  · exact step_1 d r1 r2 n a b pc s w
  · exact step_2 d r1 r2 n a b pc s w
  · exact step_3 d r1 r2 n a b pc s w
  · exact step_4 d r1 r2 n a b pc s w
  · exact step_5 d r1 r2 n a b pc s w
  · exact step_6 d r1 r2 n a b pc s w
  · exact step_7 d r1 r2 n a b pc s w
  · exact step_8 d r1 r2 n a b pc s w
  · exact step_9 d r1 r2 n a b pc s w
  · exact step_10 d r1 r2 n a b pc s w
  · exact step_11 d r1 r2 n a b pc s w
  · exact step_12 d r1 r2 n a b pc s w
  · exact step_13 d r1 r2 n a b pc s w
  · exact step_14 d r1 r2 n a b pc s w
  · exact step_15 d r1 r2 n a b pc s w
  · exact step_16 d r1 r2 n a b pc s w
  · exact step_17 d r1 r2 n a b pc s w
  · exact step_18 d r1 r2 n a b pc s w
  · exact step_19 d r1 r2 n a b pc s w
  · exact step_20 d r1 r2 n a b pc s w
  · exact step_21 d r1 r2 n a b pc s w
  · exact step_22 d r1 r2 n a b pc s w
  · exact step_23 d r1 r2 n a b pc s w
  · exact step_24 d r1 r2 n a b pc s w
  · exact step_25 d r1 r2 n a b pc s w
  · exact step_26 d r1 r2 n a b pc s w
  · exact step_27 d r1 r2 n a b pc s w
  · exact step_28 d r1 r2 n a b pc s w
  · exact step_29 d r1 r2 n a b pc s w
  · exact step_30 d r1 r2 n a b pc s w
end Rv
end Go.Proofs.Ytmedhibjkbahpaa
