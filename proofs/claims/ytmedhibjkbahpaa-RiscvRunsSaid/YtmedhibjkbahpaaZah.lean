/-
  Contracts of package code's small functions: cut, and the stamp's word.
-/
import Derived.Test.YtmedhibjkbahpaaZae
import Derived.WalkSpells
import Derived.WalkLawsBesides
import Derived.Below
import Derived.Deep.QuietTactic
import Derived.BigQuiet
import Derived.WalkSmall
namespace Go.Proofs.Ytmedhibjkbahpaa
open Go.RowKit
set_option linter.unusedVariables false
set_option linter.unusedSimpArgs false

theorem below_drewN {B : Nat} {a w : World} (h : Below B a w) (n : Nat) : Below B a (w.drewN n) := ⟨h.os, h.tape, h.output, h.size, h.block⟩

theorem and_cut (w k b : Nat) (hw : w < 4294967296) (hb : b < 32) : bits .and .u32 ((w : Int) / 2 ^ k) ((2 ^ b - 1) % 4294967296) = (cutN w k b : Nat) := by
  have hp : (2 : Nat) ^ b < 4294967296 := Nat.lt_of_le_of_lt (Nat.pow_le_pow_right (by decide) (show b ≤ 31 by omega)) (by decide)
  have hp0 : 0 < (2 : Nat) ^ b := Nat.pow_pos (by decide)
  have e1 : ((w : Int) / 2 ^ k) = ((w / 2 ^ k : Nat) : Int) := by simp
  have e2 : ((2 : Int) ^ b - 1) % 4294967296 = ((2 ^ b - 1 : Nat) : Int) := by
    have e3 : ((2 : Int) ^ b) = ((2 ^ b : Nat) : Int) := by simp
    rw [e3]
    omega
  rw [e1, e2, u32_and_nat _ _ (Nat.lt_of_le_of_lt (Nat.div_le_self _ _) hw) (by omega), Nat.and_two_pow_sub_one_eq_mod]
  rfl

theorem or_lt (x y : Nat) (hx : x < 4294967296) (hy : y < 4294967296) : x ||| y < 4294967296 := Nat.or_lt_two_pow (n := 32) hx hy
theorem up_cast (c : Nat) (k : Nat) (K : Int) (hK : ((2 ^ k : Nat) : Int) = K) : (c : Int) * K = ((c * 2 ^ k : Nat) : Int) := by rw [Int.natCast_mul, hK]

theorem or_word (lo mi hi : Nat) (h1 : lo < 4294967296) (h2 : mi * 2 ^ 12 < 4294967296) (h3 : hi * 2 ^ 25 < 4294967296) :
    bits .or .u32 (bits .or .u32 (lo : Int) ((mi : Int) * 4096)) ((hi : Int) * 33554432) = (stampW lo mi hi : Nat) := by
  rw [up_cast mi 12 4096 (by decide), up_cast hi 25 33554432 (by decide), u32_or_nat _ _ h1 h2, u32_or_nat _ _ (or_lt _ _ h1 h2) h3]
  rfl

end Go.Proofs.Ytmedhibjkbahpaa
