/-
  How many bits of a word are 1: counted, and by math/bits' way. Plain mathematics.
-/
import Derived.Test.YthijggnpkomdcaaBm
namespace Go.Proofs.Ythijggnpkomdcaa
open Go.RowKit
set_option linter.unusedVariables false
set_option maxRecDepth 100000

/-- How many of x's lowest k bits are 1. -/
def cnt (x k : Nat) : Nat := (List.range k).countP x.testBit
theorem cnt_add (x a b : Nat) : cnt x (a + b) = cnt x a + cnt (x / 2 ^ a) b := by
  unfold cnt
  rw [List.range_add, List.countP_append, List.countP_map]
  congr 1
  apply List.countP_congr
  intro j hj
  rw [Nat.testBit_div_two_pow]
  simp [Nat.add_comm]
theorem cnt_mod (x k : Nat) : cnt (x % 2 ^ k) k = cnt x k := by
  unfold cnt
  apply List.countP_congr
  intro j hj
  have : j < k := List.mem_range.1 hj
  rw [Nat.testBit_mod_two_pow]
  simp [this]
theorem cnt_le (x k : Nat) : cnt x k ≤ k := by
  have := List.countP_le_length (p := x.testBit) (l := List.range k)
  unfold cnt
  simpa using this

/-- A number in base 256. -/
def v8 (a b c d e f g h : Nat) : Nat := a + 256 * (b + 256 * (c + 256 * (d + 256 * (e + 256 * (f + 256 * (g + 256 * h))))))
theorem and_split (X d M m : Nat) (hd : d < 256) (hm : m < 256) : (d + 256 * X) &&& (m + 256 * M) = (d &&& m) + 256 * (X &&& M) := by
  have hdm : d &&& m < 2 ^ 8 := Nat.lt_of_le_of_lt Nat.and_le_left hd
  apply Nat.eq_of_testBit_eq
  intro j
  rw [Nat.testBit_and, Nat.add_comm d, Nat.add_comm m, Nat.add_comm (d &&& m)]
  rw [show (256 : Nat) = 2 ^ 8 from rfl, Nat.testBit_two_pow_mul_add _ hd, Nat.testBit_two_pow_mul_add _ hm, Nat.testBit_two_pow_mul_add _ hdm]
  split
  · rw [Nat.testBit_and]
  · rw [Nat.testBit_and]
theorem and8 (a b c d e f g h m : Nat) (ha : a < 256) (hb : b < 256) (hc : c < 256) (hd : d < 256) (he : e < 256) (hf : f < 256) (hg : g < 256) (hh : h < 256) (hm : m < 256) :
    v8 a b c d e f g h &&& v8 m m m m m m m m = v8 (a &&& m) (b &&& m) (c &&& m) (d &&& m) (e &&& m) (f &&& m) (g &&& m) (h &&& m) := by
  unfold v8
  rw [and_split _ _ _ _ ha hm, and_split _ _ _ _ hb hm, and_split _ _ _ _ hc hm, and_split _ _ _ _ hd hm, and_split _ _ _ _ he hm, and_split _ _ _ _ hf hm, and_split _ _ _ _ hg hm]
def t1 (b : Nat) : Nat := (b / 2 &&& 85) + (b &&& 85)
def t2 (b : Nat) : Nat := (b / 4 &&& 51) + (b &&& 51)
def t3 (b : Nat) : Nat := (b / 16 + b) % 16
theorem and_le_mask (b m : Nat) : b &&& m ≤ m := Nat.and_le_right
theorem t1_le (b : Nat) : t1 b ≤ 170 := by unfold t1; have := and_le_mask (b / 2) 85; have := and_le_mask b 85; omega
theorem t2_le (b : Nat) : t2 b ≤ 102 := by unfold t2; have := and_le_mask (b / 4) 51; have := and_le_mask b 51; omega
theorem f1 : ∀ b, b < 256 → ∀ e, e < 2 → (b / 2 + 128 * e) &&& 85 = b / 2 &&& 85 := by decide +kernel
theorem f2 : ∀ b, b < 256 → ∀ e, e < 4 → (b / 4 + 64 * e) &&& 51 = b / 4 &&& 51 := by decide +kernel
theorem f3 : ∀ b, b < 256 → t2 (t1 b) % 16 ≤ 4 ∧ t2 (t1 b) / 16 ≤ 4 := by decide +kernel
theorem f4 : ∀ b, b < 256 → t3 (t2 (t1 b)) = cnt b 8 := by decide +kernel
theorem half8 (a b c d e f g h : Nat) : v8 a b c d e f g h / 2 = v8 (a / 2 + 128 * (b % 2)) (b / 2 + 128 * (c % 2)) (c / 2 + 128 * (d % 2)) (d / 2 + 128 * (e % 2)) (e / 2 + 128 * (f % 2)) (f / 2 + 128 * (g % 2)) (g / 2 + 128 * (h % 2)) (h / 2) := by
  unfold v8
  omega
theorem quart8 (a b c d e f g h : Nat) : v8 a b c d e f g h / 4 = v8 (a / 4 + 64 * (b % 4)) (b / 4 + 64 * (c % 4)) (c / 4 + 64 * (d % 4)) (d / 4 + 64 * (e % 4)) (e / 4 + 64 * (f % 4)) (f / 4 + 64 * (g % 4)) (g / 4 + 64 * (h % 4)) (h / 4) := by
  unfold v8
  omega
theorem six8 (a b c d e f g h : Nat) : v8 a b c d e f g h / 16 = v8 (a / 16 + 16 * (b % 16)) (b / 16 + 16 * (c % 16)) (c / 16 + 16 * (d % 16)) (d / 16 + 16 * (e % 16)) (e / 16 + 16 * (f % 16)) (f / 16 + 16 * (g % 16)) (g / 16 + 16 * (h % 16)) (h / 16) := by
  unfold v8
  omega
theorem add8 (a b c d e f g h a' b' c' d' e' f' g' h' : Nat) : v8 a b c d e f g h + v8 a' b' c' d' e' f' g' h' = v8 (a + a') (b + b') (c + c') (d + d') (e + e') (f + f') (g + g') (h + h') := by
  unfold v8
  omega
theorem step1 (a b c d e f g h : Nat) (ha : a < 256) (hb : b < 256) (hc : c < 256) (hd : d < 256) (he : e < 256) (hf : f < 256) (hg : g < 256) (hh : h < 256) :
    (v8 a b c d e f g h / 2 &&& 6148914691236517205) + (v8 a b c d e f g h &&& 6148914691236517205) = v8 (t1 a) (t1 b) (t1 c) (t1 d) (t1 e) (t1 f) (t1 g) (t1 h) := by
  have hm : (6148914691236517205 : Nat) = v8 85 85 85 85 85 85 85 85 := by decide
  have k := fun n => Nat.mod_lt n (show 0 < 2 by decide)
  rw [hm, half8, and8 _ _ _ _ _ _ _ _ 85 (by have := k b; omega) (by have := k c; omega) (by have := k d; omega) (by have := k e; omega) (by have := k f; omega) (by have := k g; omega) (by have := k h; omega) (by omega) (by decide),
    and8 _ _ _ _ _ _ _ _ 85 ha hb hc hd he hf hg hh (by decide), f1 a ha _ (k b), f1 b hb _ (k c), f1 c hc _ (k d), f1 d hd _ (k e), f1 e he _ (k f), f1 f hf _ (k g), f1 g hg _ (k h), add8]
  rfl
theorem step2 (a b c d e f g h : Nat) (ha : a < 256) (hb : b < 256) (hc : c < 256) (hd : d < 256) (he : e < 256) (hf : f < 256) (hg : g < 256) (hh : h < 256) :
    (v8 a b c d e f g h / 4 &&& 3689348814741910323) + (v8 a b c d e f g h &&& 3689348814741910323) = v8 (t2 a) (t2 b) (t2 c) (t2 d) (t2 e) (t2 f) (t2 g) (t2 h) := by
  have hm : (3689348814741910323 : Nat) = v8 51 51 51 51 51 51 51 51 := by decide
  have k := fun n => Nat.mod_lt n (show 0 < 4 by decide)
  rw [hm, quart8, and8 _ _ _ _ _ _ _ _ 51 (by have := k b; omega) (by have := k c; omega) (by have := k d; omega) (by have := k e; omega) (by have := k f; omega) (by have := k g; omega) (by have := k h; omega) (by omega) (by decide),
    and8 _ _ _ _ _ _ _ _ 51 ha hb hc hd he hf hg hh (by decide), f2 a ha _ (k b), f2 b hb _ (k c), f2 c hc _ (k d), f2 d hd _ (k e), f2 e he _ (k f), f2 f hf _ (k g), f2 g hg _ (k h), add8]
  rfl
theorem nib (x y : Nat) : (x / 16 + 16 * (y % 16) + x) &&& 15 = t3 x := by
  rw [nat_mask4]
  unfold t3
  omega
theorem nib0 (x : Nat) : (x / 16 + x) &&& 15 = t3 x := by
  rw [nat_mask4]
  rfl
def Nibs (x : Nat) : Prop := x % 16 ≤ 4 ∧ x / 16 ≤ 4
theorem step3 (a b c d e f g h : Nat) (ha : Nibs a) (hb : Nibs b) (hc : Nibs c) (hd : Nibs d) (he : Nibs e) (hf : Nibs f) (hg : Nibs g) (hh : Nibs h) :
    (v8 a b c d e f g h / 16 + v8 a b c d e f g h) &&& 1085102592571150095 = v8 (t3 a) (t3 b) (t3 c) (t3 d) (t3 e) (t3 f) (t3 g) (t3 h) := by
  have hm : (1085102592571150095 : Nat) = v8 15 15 15 15 15 15 15 15 := by decide
  unfold Nibs at *
  rw [hm, six8, add8, and8 _ _ _ _ _ _ _ _ 15 (by omega) (by omega) (by omega) (by omega) (by omega) (by omega) (by omega) (by omega) (by decide), nib, nib, nib, nib, nib, nib, nib, nib0]
theorem div1 (p r : Nat) (h : p < 256) : (p + 256 * r) / 256 = r := by omega
theorem div2 (p q r : Nat) (h : p < 256) (h2 : q < 256) : (p + 256 * (q + 256 * r)) / 65536 = r := by omega
theorem div4 (p q s t r : Nat) (h : p < 256) (h2 : q < 256) (h3 : s < 256) (h4 : t < 256) : (p + 256 * (q + 256 * (s + 256 * (t + 256 * r)))) / 4294967296 = r := by omega
theorem mod1 (p r : Nat) (h : p < 128) : (p + 256 * r) % 128 = p := by omega
theorem step4 (a b c d e f g h : Nat) (ha : a ≤ 8) (hb : b ≤ 8) (hc : c ≤ 8) (hd : d ≤ 8) (he : e ≤ 8) (hf : f ≤ 8) (hg : g ≤ 8) (hh : h ≤ 8) (x y z u : Nat) (hx : x = v8 a b c d e f g h)
    (hy : y = x + x / 256) (hz : z = y + y / 65536) (hu : u = z + z / 4294967296) : u % 128 = a + b + c + d + e + f + g + h := by
  unfold v8 at hx
  have e1 : x / 256 = b + 256 * (c + 256 * (d + 256 * (e + 256 * (f + 256 * (g + 256 * h))))) := by rw [hx]; exact div1 _ _ (by clear hx hy hz hu; omega)
  have e2 : y = (a + b) + 256 * ((b + c) + 256 * ((c + d) + 256 * ((d + e) + 256 * ((e + f) + 256 * ((f + g) + 256 * ((g + h) + 256 * h)))))) := by rw [hy, e1, hx]; clear hx hy hz hu e1; omega
  have e3 : y / 65536 = (c + d) + 256 * ((d + e) + 256 * ((e + f) + 256 * ((f + g) + 256 * ((g + h) + 256 * h)))) := by rw [e2]; exact div2 _ _ _ (by clear hx hy hz hu e1 e2; omega) (by clear hx hy hz hu e1 e2; omega)
  have e4 : z = (a + b + c + d) + 256 * ((b + c + d + e) + 256 * ((c + d + e + f) + 256 * ((d + e + f + g) + 256 * ((e + f + g + h) + 256 * ((f + g + h) + 256 * ((g + h) + 256 * h)))))) := by rw [hz, e3, e2]; clear hx hy hz hu e1 e2 e3; omega
  have e5 : z / 4294967296 = (e + f + g + h) + 256 * ((f + g + h) + 256 * ((g + h) + 256 * h)) := by
    rw [e4]
    clear hx hy hz hu e1 e2 e3 e4
    exact div4 _ _ _ _ _ (by omega) (by omega) (by omega) (by omega)
  have e6 : u = (a + b + c + d + e + f + g + h) + 256 * ((b + c + d + e) + (f + g + h) + 256 * ((c + d + e + f) + (g + h) + 256 * ((d + e + f + g) + h + 256 * ((e + f + g + h) + 256 * ((f + g + h) + 256 * ((g + h) + 256 * h)))))) := by rw [hu, e5, e4]; clear hx hy hz hu e1 e2 e3 e4 e5; omega
  rw [e6]
  clear hx hy hz hu e1 e2 e3 e4 e5 e6
  exact mod1 _ _ (by omega)
theorem bytes_of (x : Nat) (hx : x < 18446744073709551616) : x = v8 (x % 256) (x / 256 % 256) (x / 65536 % 256) (x / 16777216 % 256) (x / 4294967296 % 256) (x / 1099511627776 % 256) (x / 281474976710656 % 256) (x / 72057594037927936 % 256) := by
  unfold v8
  omega
theorem cnt_bytes (x : Nat) : cnt x 64 = cnt (x % 256) 8 + cnt (x / 256 % 256) 8 + cnt (x / 65536 % 256) 8 + cnt (x / 16777216 % 256) 8 + cnt (x / 4294967296 % 256) 8 + cnt (x / 1099511627776 % 256) 8 + cnt (x / 281474976710656 % 256) 8 + cnt (x / 72057594037927936 % 256) 8 := by
  have k : ∀ y, cnt (y % 256) 8 = cnt y 8 := fun y => cnt_mod y 8
  simp only [k]
  rw [show (64 : Nat) = 8 + 56 from rfl, cnt_add, show (56 : Nat) = 8 + 48 from rfl, cnt_add, show (48 : Nat) = 8 + 40 from rfl, cnt_add, show (40 : Nat) = 8 + 32 from rfl, cnt_add, show (32 : Nat) = 8 + 24 from rfl, cnt_add, show (24 : Nat) = 8 + 16 from rfl, cnt_add, show (16 : Nat) = 8 + 8 from rfl, cnt_add]
  simp only [Nat.div_div_eq_div_mul, Nat.reducePow, Nat.reduceMul, Nat.add_assoc]
theorem cnt8_le (x : Nat) : cnt x 8 ≤ 8 := cnt_le x 8
/-- The way of math/bits. -/
theorem swar (x y1 y2 y3 y4 y5 y6 : Nat) (hx : x < 18446744073709551616) (h1 : y1 = (x / 2 &&& 6148914691236517205) + (x &&& 6148914691236517205)) (h2 : y2 = (y1 / 4 &&& 3689348814741910323) + (y1 &&& 3689348814741910323))
    (h3 : y3 = (y2 / 16 + y2) &&& 1085102592571150095) (h4 : y4 = y3 + y3 / 256) (h5 : y5 = y4 + y4 / 65536) (h6 : y6 = y5 + y5 / 4294967296) : y6 % 128 = cnt x 64 := by
  have hb := bytes_of x hx
  have m : ∀ n, n % 256 < 256 := fun n => Nat.mod_lt _ (by decide)
  rw [cnt_bytes x]
  rw [hb, step1 _ _ _ _ _ _ _ _ (m _) (m _) (m _) (m _) (m _) (m _) (m _) (m _)] at h1
  have t : ∀ n, t1 n < 256 := fun n => by have := t1_le n; omega
  rw [h1, step2 _ _ _ _ _ _ _ _ (t _) (t _) (t _) (t _) (t _) (t _) (t _) (t _)] at h2
  rw [h2, step3 _ _ _ _ _ _ _ _ (f3 _ (m _)) (f3 _ (m _)) (f3 _ (m _)) (f3 _ (m _)) (f3 _ (m _)) (f3 _ (m _)) (f3 _ (m _)) (f3 _ (m _))] at h3
  rw [f4 _ (m _), f4 _ (m _), f4 _ (m _), f4 _ (m _), f4 _ (m _), f4 _ (m _), f4 _ (m _), f4 _ (m _)] at h3
  exact step4 _ _ _ _ _ _ _ _ (cnt8_le _) (cnt8_le _) (cnt8_le _) (cnt8_le _) (cnt8_le _) (cnt8_le _) (cnt8_le _) (cnt8_le _) y3 y4 y5 y6 h3 h4 h5 h6
end Go.Proofs.Ythijggnpkomdcaa
