/-
  CRC-32 on plain numbers: the register bit by bit. No program in sight.
-/
import Derived.RowKit
import Derived.WalkKit
import Derived.Laws.BitsAllLaws
namespace Go.Proofs.Ytjcknjadapbooaa
open Go.RowKit
set_option linter.unusedVariables false

def crcStep (r : Nat) : Nat := if r % 2 = 1 then (r / 2) ^^^ 3988292384 else r / 2
/-- One bit taken in: laid over the lowest one, then shifted. -/
def crcBit (r b : Nat) : Nat := crcStep (r ^^^ b)
/-- The first k bits of a byte, the lowest first. -/
def crcBits (r x : Nat) : Nat → Nat
  | 0 => r
  | k + 1 => crcBit (crcBits r x k) (x / 2 ^ k % 2)
def crcByte (r x : Nat) : Nat := crcBits r x 8
def crcFold (r : Nat) (l : List Nat) : Nat := l.foldl crcByte r
def notN (r : Nat) : Nat := 4294967295 - r
def crcMore (s : Nat) (l : List Nat) : Nat := notN (crcFold (notN s) l)

theorem crcStep_lt (r : Nat) (h : r < 4294967296) : crcStep r < 4294967296 := by
  unfold crcStep
  split
  · exact Nat.xor_lt_two_pow (n := 32) (by omega) (by omega)
  · omega
theorem crcBit_lt (r b : Nat) (h : r < 4294967296) (hb : b < 2) : crcBit r b < 4294967296 :=
  crcStep_lt _ (Nat.xor_lt_two_pow (n := 32) h (by omega))
theorem crcBits_lt (r x : Nat) (h : r < 4294967296) : ∀ k, crcBits r x k < 4294967296
  | 0 => h
  | k + 1 => crcBit_lt _ _ (crcBits_lt r x h k) (by omega)
theorem crcByte_lt (r x : Nat) (h : r < 4294967296) : crcByte r x < 4294967296 := crcBits_lt r x h 8
theorem crcFold_lt : ∀ (l : List Nat) (r : Nat), r < 4294967296 → crcFold r l < 4294967296
  | [], r, h => h
  | x :: l, _, h => crcFold_lt l _ (crcByte_lt _ x h)
theorem crcFold_append (r : Nat) (a b : List Nat) : crcFold r (a ++ b) = crcFold (crcFold r a) b := List.foldl_append ..
theorem crcFold_snoc (r : Nat) (a : List Nat) (x : Nat) : crcFold r (a ++ [x]) = crcByte (crcFold r a) x := by rw [crcFold_append]; rfl
theorem notN_lt (r : Nat) : notN r < 4294967296 := by unfold notN; omega
theorem notN_notN (r : Nat) (h : r < 4294967296) : notN (notN r) = r := by unfold notN; omega
theorem crcMore_lt (s : Nat) (l : List Nat) : crcMore s l < 4294967296 := notN_lt _
theorem crcMore_append (s : Nat) (a b : List Nat) : crcMore (crcMore s a) b = crcMore s (a ++ b) := by
  unfold crcMore
  rw [notN_notN _ (crcFold_lt _ _ (notN_lt _)), crcFold_append]
theorem crcMore_nil (s : Nat) (h : s < 4294967296) : crcMore s [] = s := notN_notN s h
theorem xor_bit_div (r b : Nat) (hb : b < 2) : (r ^^^ b) / 2 = r / 2 := by
  have h := Nat.xor_div_two (a := r) (b := b)
  rw [h, show b / 2 = 0 from by omega, Nat.xor_zero]
theorem xor_bit_mod (r b : Nat) (hb : b < 2) : (r ^^^ b) % 2 = 1 ↔ r % 2 ≠ b := by
  have h := Nat.xor_mod_two_eq_one (a := r) (b := b)
  omega
theorem crcBit_yes (r b : Nat) (hb : b < 2) (h : r % 2 ≠ b) : crcBit r b = (r / 2) ^^^ 3988292384 := by
  unfold crcBit crcStep
  rw [if_pos ((xor_bit_mod r b hb).2 h), xor_bit_div r b hb]
theorem crcBit_no (r b : Nat) (hb : b < 2) (h : r % 2 = b) : crcBit r b = r / 2 := by
  unfold crcBit crcStep
  rw [if_neg (fun e => (xor_bit_mod r b hb).1 e h), xor_bit_div r b hb]
end Go.Proofs.Ytjcknjadapbooaa
