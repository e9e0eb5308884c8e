/-
  Words of 64 bits as a set of numbers: plain mathematics. No program in sight.
  Plain lemmas on words of 32 bits: reckoning that goes round modulo 2^32. No program in sight.
  More plain lemmas on words: powers of two, the floor of a quotient, bits one by one. No program in sight.
-/
import Derived.RowKit
import Derived.WalkKit
import Derived.Laws.BitsAllLaws
namespace Go.Proofs.Ytmedhibjkbahpaa
open Go.RowKit
set_option linter.unusedVariables false

def W64 : Nat := 18446744073709551616
theorem W64_pow : W64 = 2 ^ 64 := rfl
/-- The word at k. -/
def wd (ws : List Nat) (k : Nat) : Nat := ws.getD k 0
/-- Is n in it? -/
def mem (ws : List Nat) (n : Nat) : Bool := (wd ws (n / 64)).testBit (n % 64)
/-- So many words at least. -/
def grown (ws : List Nat) (k : Nat) : List Nat := ws ++ List.replicate (k - ws.length) 0
/-- n put in. -/
def putW (ws : List Nat) (n : Nat) : List Nat := (grown ws (n / 64 + 1)).set (n / 64) (wd ws (n / 64) ||| 2 ^ (n % 64))
/-- n taken out. -/
def dropW (ws : List Nat) (n : Nat) : List Nat := ws.set (n / 64) (wd ws (n / 64) &&& (18446744073709551615 - 2 ^ (n % 64)))
def Small (ws : List Nat) : Prop := ∀ x ∈ ws, x < 18446744073709551616

theorem wd_ge (ws : List Nat) (k : Nat) (h : ws.length ≤ k) : wd ws k = 0 := by
  unfold wd
  rw [List.getD_eq_getElem?_getD, List.getElem?_eq_none h]
  rfl
theorem wd_lt {ws : List Nat} (h : Small ws) (k : Nat) : wd ws k < 18446744073709551616 := by
  rcases Nat.lt_or_ge k ws.length with hk | hk
  · have e : wd ws k = ws[k] := by simp [wd, List.getD, hk]
    rw [e]
    exact h _ (List.getElem_mem hk)
  · rw [wd_ge ws k hk]; omega
theorem wd_append_left (a b : List Nat) (k : Nat) (h : k < a.length) : wd (a ++ b) k = wd a k := by
  simp [wd, List.getD, List.getElem?_append_left h]
theorem wd_grown (ws : List Nat) (m k : Nat) : wd (grown ws m) k = wd ws k := by
  unfold grown
  rcases Nat.lt_or_ge k ws.length with hk | hk
  · exact wd_append_left _ _ _ hk
  · rw [wd_ge ws k hk]
    unfold wd
    rw [List.getD_eq_getElem?_getD, List.getElem?_append_right hk]
    rcases Nat.lt_or_ge (k - ws.length) (m - ws.length) with h2 | h2
    · rw [List.getElem?_replicate_of_lt h2]; rfl
    · rw [List.getElem?_eq_none (by simpa using h2)]; rfl
theorem grown_length (ws : List Nat) (m : Nat) : (grown ws m).length = max ws.length m := by
  unfold grown
  rw [List.length_append, List.length_replicate]
  omega
theorem grown_of_le (ws : List Nat) (m : Nat) (h : m ≤ ws.length) : grown ws m = ws := by
  unfold grown
  rw [Nat.sub_eq_zero_of_le h]
  simp
theorem grown_small {ws : List Nat} (h : Small ws) (m : Nat) : Small (grown ws m) := by
  intro x hx
  rcases List.mem_append.1 hx with h1 | h1
  · exact h x h1
  · have := List.eq_of_mem_replicate h1; omega
theorem wd_set (ws : List Nat) (k v j : Nat) (hk : k < ws.length) : wd (ws.set k v) j = if j = k then v else wd ws j := by
  unfold wd
  rw [List.getD_eq_getElem?_getD, List.getD_eq_getElem?_getD, List.getElem?_set]
  by_cases e : k = j
  · subst e; simp [hk]
  · rw [if_neg e, if_neg (fun h => e h.symm)]
theorem set_small {ws : List Nat} (h : Small ws) (k v : Nat) (hv : v < 18446744073709551616) : Small (ws.set k v) := by
  intro x hx
  rcases List.mem_or_eq_of_mem_set hx with h1 | h1
  · exact h x h1
  · omega
theorem pow_lt (n : Nat) : 2 ^ (n % 64) < 18446744073709551616 := by
  have h : n % 64 < 64 := Nat.mod_lt _ (by decide)
  calc 2 ^ (n % 64) < 2 ^ 64 := Nat.pow_lt_pow_right (by decide) h
    _ = 18446744073709551616 := by decide
theorem or_ltB {a b : Nat} (ha : a < 18446744073709551616) (hb : b < 18446744073709551616) : a ||| b < 18446744073709551616 := Nat.or_lt_two_pow (n := 64) ha hb
theorem and_lt {a : Nat} (b : Nat) (ha : a < 18446744073709551616) : a &&& b < 18446744073709551616 := Nat.lt_of_le_of_lt Nat.and_le_left ha
theorem mem_ge (ws : List Nat) (n : Nat) (h : 64 * ws.length ≤ n) : mem ws n = false := by
  unfold mem
  rw [wd_ge ws _ (by omega)]
  exact Nat.zero_testBit _
theorem putW_length (ws : List Nat) (n : Nat) : (putW ws n).length = max ws.length (n / 64 + 1) := by
  unfold putW
  rw [List.length_set, grown_length]
theorem putW_small {ws : List Nat} (h : Small ws) (n : Nat) : Small (putW ws n) := set_small (grown_small h _) _ _ (or_ltB (wd_lt h _) (pow_lt n))
theorem dropW_small {ws : List Nat} (h : Small ws) (n : Nat) : Small (dropW ws n) := set_small h _ _ (and_lt _ (wd_lt h _))
theorem same_place (n m : Nat) (h1 : m / 64 = n / 64) (h2 : m % 64 = n % 64) : m = n := by omega
theorem mem_putW (ws : List Nat) (n m : Nat) : mem (putW ws n) m = (mem ws m || decide (m = n)) := by
  unfold mem putW
  rw [wd_set _ _ _ _ (by rw [grown_length]; omega), wd_grown]
  by_cases h : m / 64 = n / 64
  · rw [if_pos h, Nat.testBit_or, Nat.testBit_two_pow, h]
    congr 1
    by_cases h2 : n % 64 = m % 64
    · have := same_place n m h h2.symm; simp [h2, this]
    · have : ¬ m = n := fun e => h2 (by rw [e])
      simp [h2, this]
  · rw [if_neg h]
    have : ¬ m = n := fun e => h (by rw [e])
    simp [this]
theorem testBit_notpow (i j : Nat) (hi : i < 64) (hj : j < 64) : (18446744073709551615 - 2 ^ i).testBit j = !decide (j = i) := by
  have h : (2 ^ 64 - (2 ^ i + 1)).testBit j = (decide (j < 64) && !(2 ^ i).testBit j) := Nat.testBit_two_pow_sub_succ (Nat.pow_lt_pow_right (by decide) hi) j
  have e : 2 ^ 64 - (2 ^ i + 1) = 18446744073709551615 - 2 ^ i := by
    have : (2 : Nat) ^ 64 = 18446744073709551616 := by decide
    omega
  rw [e] at h
  rw [h, Nat.testBit_two_pow]
  by_cases e2 : i = j
  · simp [e2, hj]
  · have : ¬ j = i := fun h => e2 h.symm
    simp [e2, this, hj]
theorem mem_dropW (ws : List Nat) (n m : Nat) : mem (dropW ws n) m = (mem ws m && !decide (m = n)) := by
  rcases Nat.lt_or_ge (n / 64) ws.length with hn | hn
  · unfold mem dropW
    rw [wd_set _ _ _ _ hn]
    by_cases h : m / 64 = n / 64
    · rw [if_pos h, Nat.testBit_and, testBit_notpow _ _ (Nat.mod_lt _ (by decide)) (Nat.mod_lt _ (by decide)), h]
      congr 2
      by_cases h2 : m % 64 = n % 64
      · have := same_place n m h h2; simp [this]
      · have : ¬ m = n := fun e => h2 (by rw [e])
        simp [h2, this]
    · rw [if_neg h]
      have : ¬ m = n := fun e => h (by rw [e])
      simp [this]
  · have e : dropW ws n = ws := by
      unfold dropW
      exact List.set_eq_of_length_le hn
    rw [e]
    by_cases e2 : m = n
    · subst e2
      rw [mem_ge ws m (by omega)]
      rfl
    · simp [e2]
end Go.Proofs.Ytmedhibjkbahpaa
namespace Go.Proofs.Ytmedhibjkbahpaa
open Go.RowKit

theorem wrap32_ex (x : Int) : ∃ k : Int, wrap32 x = x + 4294967296 * k := by
  refine ⟨-((x + 2147483648) / 4294967296), ?_⟩
  unfold wrap32
  have := Int.emod_add_mul_ediv (x + 2147483648) 4294967296
  omega
theorem wrap32_bd (x : Int) : -2147483648 ≤ wrap32 x ∧ wrap32 x ≤ 2147483647 := by
  unfold wrap32; omega
theorem wrap32_shift (x k : Int) : wrap32 (x + 4294967296 * k) = wrap32 x := by
  unfold wrap32; omega
theorem wrap32_add_l (x y : Int) : wrap32 (wrap32 x + y) = wrap32 (x + y) := by
  unfold wrap32; omega
theorem wrap32_add_r (x y : Int) : wrap32 (x + wrap32 y) = wrap32 (x + y) := by
  unfold wrap32; omega
theorem wrap32_sub_l (x y : Int) : wrap32 (wrap32 x - y) = wrap32 (x - y) := by
  unfold wrap32; omega
theorem wrap32_sub_r (x y : Int) : wrap32 (x - wrap32 y) = wrap32 (x - y) := by
  unfold wrap32; omega
theorem wrap32_mul_l (x y : Int) : wrap32 (wrap32 x * y) = wrap32 (x * y) := by
  obtain ⟨k, hk⟩ := wrap32_ex x
  rw [hk, Int.add_mul, Int.mul_assoc, wrap32_shift]
theorem wrap32_mul_r (x y : Int) : wrap32 (x * wrap32 y) = wrap32 (x * y) := by
  rw [Int.mul_comm, wrap32_mul_l, Int.mul_comm]
theorem wrap32_self (x : Int) (h : -2147483648 ≤ x ∧ x ≤ 2147483647) : wrap32 x = x := by
  unfold wrap32; omega

theorem quot_back (a b : Int) (h : -2147483648 ≤ a ∧ a ≤ 2147483647) : wrap32 (wrap32 (wrap32 (a.tdiv b) * b) + a.tmod b) = a := by
  rw [wrap32_mul_l, wrap32_add_l]
  have := Int.mul_tdiv_add_tmod a b
  rw [Int.mul_comm] at this
  rw [this, wrap32_self a h]
theorem tmod_near (a b : Int) (hb : b ≠ 0) : (0 ≤ a.tmod b → a.tmod b < max b (-b)) ∧ (a.tmod b ≤ 0 → -(a.tmod b) < max b (-b)) := by
  have h1 : (a.tmod b).natAbs = a.natAbs % b.natAbs := Int.natAbs_tmod a b
  have h2 : a.natAbs % b.natAbs < b.natAbs := Nat.mod_lt _ (by omega)
  omega
theorem tmod_side (a b : Int) : (0 ≤ a → 0 ≤ a.tmod b) ∧ (a ≤ 0 → a.tmod b ≤ 0) := by
  refine ⟨fun h => Int.tmod_nonneg b h, fun h => ?_⟩
  have := Int.tmod_nonneg b (a := -a) (by omega)
  rw [Int.neg_tmod] at this
  omega
theorem tmod_bd (a b : Int) (h : -2147483648 ≤ a ∧ a ≤ 2147483647) : -2147483648 ≤ a.tmod b ∧ a.tmod b ≤ 2147483647 := by
  have h1 : (a.tmod b).natAbs = a.natAbs % b.natAbs := Int.natAbs_tmod a b
  have h2 : a.natAbs % b.natAbs ≤ a.natAbs := Nat.mod_le _ _
  have h3 := tmod_side a b
  omega

theorem split_lo (n : Int) : -2048 ≤ wrap32 (n * 1048576) / 1048576 ∧ wrap32 (n * 1048576) / 1048576 ≤ 2047 := by
  unfold wrap32; omega
theorem split_hi (x : Int) : 0 ≤ wrap32 x % 4294967296 / 4096 ∧ wrap32 x % 4294967296 / 4096 < 1048576 := by
  unfold wrap32; omega
theorem split_back (n : Int) : wrap32 (wrap32 (n - wrap32 (n * 1048576) / 1048576) % 4294967296 / 4096 * 4096 + wrap32 (n * 1048576) / 1048576) = wrap32 n := by
  unfold wrap32; omega

theorem bv_wrap (x : Int) : BitVec.ofInt 32 (wrap32 x) = BitVec.ofInt 32 x := by
  apply BitVec.eq_of_toNat_eq
  rw [BitVec.toNat_ofInt, BitVec.toNat_ofInt]
  unfold wrap32
  omega
theorem bv_back (z : BitVec 32) : BitVec.ofInt 32 (wrap32 (z.toNat : Int)) = z := by
  rw [bv_wrap, BitVec.ofInt_natCast, BitVec.ofNat_toNat, BitVec.setWidth_eq]
theorem and_is (a b : Int) : bits .and .i32 a b = wrap32 ((BitVec.ofInt 32 a &&& BitVec.ofInt 32 b).toNat : Int) := IntWalk.i32_left _
theorem or_is (a b : Int) : bits .or .i32 a b = wrap32 ((BitVec.ofInt 32 a ||| BitVec.ofInt 32 b).toNat : Int) := IntWalk.i32_left _
theorem xor_is (a b : Int) : bits .xor .i32 a b = wrap32 ((BitVec.ofInt 32 a ^^^ BitVec.ofInt 32 b).toNat : Int) := IntWalk.i32_left _

/-- What the five operators of the ring law answer. -/
def ringV (op a b : Int) : Int :=
  if op = 1 then wrap32 (a + b) else if op = 3 then wrap32 (a * b) else if op = 8 then bits .and .i32 a b else if op = 9 then bits .or .i32 a b else bits .xor .i32 a b
theorem ringV_comm (op a b : Int) : ringV op a b = ringV op b a := by
  unfold ringV
  rw [Int.add_comm a b, Int.mul_comm a b, and_is, and_is, or_is, or_is, xor_is, xor_is, BitVec.and_comm, BitVec.or_comm, BitVec.xor_comm]
theorem ringV_assoc (op a b c : Int) : ringV op (ringV op a b) c = ringV op a (ringV op b c) := by
  unfold ringV
  split
  · rw [wrap32_add_l, wrap32_add_r, Int.add_assoc]
  split
  · rw [wrap32_mul_l, wrap32_mul_r, Int.mul_assoc]
  split
  · simp only [and_is, bv_back, BitVec.and_assoc]
  split
  · simp only [or_is, bv_back, BitVec.or_assoc]
  · simp only [xor_is, bv_back, BitVec.xor_assoc]
theorem ring_dist (a b c : Int) : wrap32 (a * wrap32 (b + c)) = wrap32 (wrap32 (a * b) + wrap32 (a * c)) := by
  rw [wrap32_mul_r, wrap32_add_l, wrap32_add_r, Int.mul_add]
theorem ring_back (a b : Int) (h : -2147483648 ≤ a ∧ a ≤ 2147483647) : wrap32 (wrap32 (a - b) + b) = a := by
  rw [wrap32_add_l, show a - b + b = a from by omega, wrap32_self a h]
theorem inv_is (a : Int) (h : -2147483648 ≤ a ∧ a ≤ 2147483647) : bits .xor .i32 (-1) a = -1 - a := by
  rw [xor_is, show BitVec.ofInt 32 (-1) = BitVec.allOnes 32 from by decide, BitVec.allOnes_xor, BitVec.toNat_not, BitVec.toNat_ofInt]
  unfold wrap32
  omega
end Go.Proofs.Ytmedhibjkbahpaa
namespace Go.Proofs.Ytmedhibjkbahpaa
open Go.RowKit

/-- 2 to the power k, closed to the walk. -/
def tw (k : Nat) : Int := 2 ^ k
theorem tw_bd (k : Nat) (h : k ≤ 31) : 1 ≤ tw k ∧ tw k ≤ 2147483648 := by
  have h1 : (2 : Nat) ^ k ≤ 2 ^ 31 := Nat.pow_le_pow_right (by omega) h
  have h2 : 0 < (2 : Nat) ^ k := Nat.pow_pos (by omega)
  have h3 : tw k = ((2 ^ k : Nat) : Int) := by unfold tw; simp
  omega
theorem tw_succ (k : Nat) : tw (k + 1) = tw k * 2 := by unfold tw; rw [Int.pow_succ]

theorem floor_eq (a k q : Int) (hk : 0 < k) (h1 : q * k ≤ a) (h2 : a < q * k + k) : q = a / k := by
  have e := Int.emod_add_mul_ediv a k
  have b1 := Int.emod_nonneg a (b := k) (by omega)
  have b2 := Int.emod_lt_of_pos a hk
  rw [Int.mul_comm] at e
  rcases Int.lt_trichotomy q (a / k) with h | h | h
  · have := Int.mul_le_mul_of_nonneg_right (show q + 1 ≤ a / k from h) (Int.le_of_lt hk)
    rw [Int.add_mul] at this
    omega
  · exact h
  · have := Int.mul_le_mul_of_nonneg_right (show a / k + 1 ≤ q from h) (Int.le_of_lt hk)
    rw [Int.add_mul] at this
    omega
theorem tdiv_mul (a k : Int) (hk : 0 < k) : a.tdiv k * k = a - a.tmod k ∧ -k < a.tmod k ∧ a.tmod k < k ∧ (0 ≤ a → 0 ≤ a.tmod k) ∧ (a ≤ 0 → a.tmod k ≤ 0) := by
  have e := Int.mul_tdiv_add_tmod a k
  have h1 : (a.tmod k).natAbs = a.natAbs % k.natAbs := Int.natAbs_tmod a k
  have h2 : a.natAbs % k.natAbs < k.natAbs := Nat.mod_lt _ (by omega)
  have h3 := tmod_side a k
  rw [Int.mul_comm] at e
  exact ⟨by omega, by omega, by omega, h3.1, h3.2⟩
theorem tdiv_floor (a k : Int) (hk : 0 < k) : (a < a.tdiv k * k → a.tdiv k - 1 = a / k) ∧ (a.tdiv k * k ≤ a → a.tdiv k = a / k) := by
  obtain ⟨h1, h2, h3, h4, h5⟩ := tdiv_mul a k hk
  refine ⟨fun h => floor_eq a k _ hk ?_ ?_, fun h => floor_eq a k _ hk ?_ ?_⟩
  · rw [Int.sub_mul]; omega
  · rw [Int.sub_mul]; omega
  · omega
  · omega
theorem tdiv_mul_bd (a k : Int) (ha : -2147483648 ≤ a ∧ a ≤ 2147483647) (hk : 0 < k) : -2147483648 ≤ a.tdiv k * k ∧ a.tdiv k * k ≤ 2147483647 := by
  obtain ⟨h1, h2, h3, h4, h5⟩ := tdiv_mul a k hk
  have e1 := tmod_bd a k ha
  have h6 : (a.tmod k).natAbs = a.natAbs % k.natAbs := Int.natAbs_tmod a k
  have h7 : a.natAbs % k.natAbs ≤ a.natAbs := Nat.mod_le _ _
  omega
theorem wrap32_64 (x : Int) : wrap32 (wrap64 x) = wrap32 x := by
  unfold wrap32 wrap64; omega
theorem mul_bd (a b : Int) (ha : -2147483648 ≤ a ∧ a ≤ 2147483647) (hb : -2147483648 ≤ b ∧ b ≤ 2147483647) : -4611686018427387904 ≤ a * b ∧ a * b ≤ 4611686018427387904 := by
  have h : (a * b).natAbs = a.natAbs * b.natAbs := Int.natAbs_mul a b
  have h2 : a.natAbs * b.natAbs ≤ 2147483648 * 2147483648 := Nat.mul_le_mul (by omega) (by omega)
  omega
theorem mul_ne (a b : Int) : (a * b != 0) = (a != 0 && b != 0) := by
  rw [Bool.eq_iff_iff]
  simp [Int.mul_eq_zero, not_or]

/-- One place more: the bits of a number below 2^(i+1). -/
theorem mod_step (X : Nat) (i : Nat) : X % 2 ^ (i + 1) = X % 2 ^ i + (X / 2 ^ i % 2) * 2 ^ i := by
  rw [Nat.pow_succ, Nat.mod_mul, Nat.mul_comm (2 ^ i)]
theorem and_bit (X Y i : Nat) : (X &&& Y) / 2 ^ i % 2 = (X / 2 ^ i % 2) * (Y / 2 ^ i % 2) := by
  have h : ((X &&& Y).testBit i).toNat = (X.testBit i && Y.testBit i).toNat := by rw [Nat.testBit_and]
  rw [Nat.toNat_testBit] at h
  rw [h, ← Nat.toNat_testBit, ← Nat.toNat_testBit]
  cases X.testBit i <;> cases Y.testBit i <;> rfl
theorem or_bit (X Y i : Nat) : (X ||| Y) / 2 ^ i % 2 + (X / 2 ^ i % 2) * (Y / 2 ^ i % 2) = X / 2 ^ i % 2 + Y / 2 ^ i % 2 := by
  have h : ((X ||| Y).testBit i).toNat = (X.testBit i || Y.testBit i).toNat := by rw [Nat.testBit_or]
  rw [Nat.toNat_testBit] at h
  rw [h, ← Nat.toNat_testBit, ← Nat.toNat_testBit]
  cases X.testBit i <;> cases Y.testBit i <;> rfl
theorem xor_bit (X Y i : Nat) : (X ^^^ Y) / 2 ^ i % 2 + (X &&& Y) / 2 ^ i % 2 = (X ||| Y) / 2 ^ i % 2 := by
  have h1 : ((X ^^^ Y).testBit i).toNat = (X.testBit i ^^ Y.testBit i).toNat := by rw [Nat.testBit_xor]
  have h2 : ((X &&& Y).testBit i).toNat = (X.testBit i && Y.testBit i).toNat := by rw [Nat.testBit_and]
  have h3 : ((X ||| Y).testBit i).toNat = (X.testBit i || Y.testBit i).toNat := by rw [Nat.testBit_or]
  rw [Nat.toNat_testBit] at h1 h2 h3
  rw [h1, h2, h3]
  cases X.testBit i <;> cases Y.testBit i <;> rfl
theorem xor_low (X Y i : Nat) : (X ^^^ Y) % 2 ^ i + (X &&& Y) % 2 ^ i = (X ||| Y) % 2 ^ i := by
  induction i with
  | zero => simp [Nat.mod_one]
  | succ i ih =>
    rw [mod_step, mod_step, mod_step, ← ih, ← xor_bit X Y i, Nat.add_mul]
    omega
theorem div_bd (a t : Int) (ha : -2147483648 ≤ a ∧ a ≤ 2147483647) (ht : 1 ≤ t) : -2147483648 ≤ a / t ∧ a / t ≤ 2147483647 := by
  have e := Int.emod_add_mul_ediv a t
  have b1 := Int.emod_nonneg a (b := t) (by omega)
  have b2 := Int.emod_lt_of_pos a (b := t) (by omega)
  constructor
  · by_cases h : a / t < -2147483648
    · have h1 := Int.mul_le_mul_of_nonneg_left (show a / t ≤ -2147483649 from by omega) (show 0 ≤ t from by omega)
      omega
    · omega
  · by_cases h : 2147483647 < a / t
    · have h1 := Int.mul_le_mul_of_nonneg_left (show 2147483648 ≤ a / t from by omega) (show 0 ≤ t from by omega)
      omega
    · omega
theorem bv_nat (a : Int) : (BitVec.ofInt 32 a).toNat = (a % 4294967296).toNat := by
  rw [BitVec.toNat_ofInt]
  rfl
end Go.Proofs.Ytmedhibjkbahpaa
