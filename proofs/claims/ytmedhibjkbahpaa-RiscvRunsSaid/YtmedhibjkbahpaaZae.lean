/-
  Mathematics of the machine's words (layer 19), without the program: an instruction's word, bit by bit; what is seen of it; what is read of it; no two instructions have one word.
-/
import Derived.Test.YtmedhibjkbahpaaRows
import Derived.WalkKit
namespace Go.Proofs.Ytmedhibjkbahpaa
open Go.RowKit
set_option linter.unusedVariables false
set_option linter.unusedSimpArgs false

def formL : List Nat := [0, 7, 3, 3, 3, 3, 3, 3, 4, 4, 4, 2, 2, 2, 2, 2, 2, 2, 2, 2, 2, 2, 2, 2, 3, 5, 6, 6, 8, 3, 1]
def lowL : List Nat := [0, 55, 19, 19, 19, 19, 19, 19, 19, 19, 19, 51, 51, 51, 51, 51, 51, 51, 51, 51, 51, 51, 51, 51, 3, 35, 99, 99, 111, 103, 115]
def midL : List Nat := [0, 0, 0, 2, 3, 4, 6, 7, 1, 5, 5, 0, 0, 1, 2, 3, 4, 5, 5, 6, 7, 0, 4, 6, 2, 2, 0, 1, 0, 0, 0]
def highL : List Nat := [0, 0, 0, 0, 0, 0, 0, 0, 0, 0, 32, 0, 32, 0, 0, 0, 0, 0, 32, 0, 0, 1, 1, 1, 0, 0, 0, 0, 0, 0, 0]
def formN (op : Nat) : Nat := formL.getD op 0
def lowN (op : Nat) : Nat := lowL.getD op 0
def midN (op : Nat) : Nat := midL.getD op 0
def highN (op : Nat) : Nat := highL.getD op 0

/-- So many bits of a number, from one on. -/
def cutN (w k b : Nat) : Nat := w / 2 ^ k % 2 ^ b
theorem cut_or (x y k b : Nat) : cutN (x ||| y) k b = cutN x k b ||| cutN y k b := by
  apply Nat.eq_of_testBit_eq
  intro i
  simp only [cutN, Nat.testBit_or, Nat.testBit_mod_two_pow, Nat.testBit_div_two_pow]
  by_cases h : i < b <;> simp [h]

/-- A number's bits where they lie. -/
def laidN (f N : Nat) : Nat :=
  if f = 3 then cutN N 0 12 * 2 ^ 20 else
  if f = 4 then cutN N 0 5 * 2 ^ 20 else
  if f = 5 then cutN N 0 5 * 2 ^ 7 ||| cutN N 5 7 * 2 ^ 25 else
  if f = 6 then cutN N 1 4 * 2 ^ 8 ||| cutN N 5 6 * 2 ^ 25 ||| cutN N 11 1 * 2 ^ 7 ||| cutN N 12 1 * 2 ^ 31 else
  if f = 7 then cutN N 0 20 * 2 ^ 12 else
  if f = 8 then cutN N 1 10 * 2 ^ 21 ||| cutN N 11 1 * 2 ^ 20 ||| cutN N 12 8 * 2 ^ 12 ||| cutN N 20 1 * 2 ^ 31 else
  0
theorem laid_1 (N : Nat) : laidN 1 N = 0 := by unfold laidN; rw [if_neg (by decide), if_neg (by decide), if_neg (by decide), if_neg (by decide), if_neg (by decide), if_neg (by decide)]
theorem laid_2 (N : Nat) : laidN 2 N = 0 := by unfold laidN; rw [if_neg (by decide), if_neg (by decide), if_neg (by decide), if_neg (by decide), if_neg (by decide), if_neg (by decide)]
theorem laid_3 (N : Nat) : laidN 3 N = cutN N 0 12 * 2 ^ 20 := by unfold laidN; rw [if_pos rfl]
theorem laid_4 (N : Nat) : laidN 4 N = cutN N 0 5 * 2 ^ 20 := by unfold laidN; rw [if_neg (by decide), if_pos rfl]
theorem laid_5 (N : Nat) : laidN 5 N = cutN N 0 5 * 2 ^ 7 ||| cutN N 5 7 * 2 ^ 25 := by unfold laidN; rw [if_neg (by decide), if_neg (by decide), if_pos rfl]
theorem laid_6 (N : Nat) : laidN 6 N = cutN N 1 4 * 2 ^ 8 ||| cutN N 5 6 * 2 ^ 25 ||| cutN N 11 1 * 2 ^ 7 ||| cutN N 12 1 * 2 ^ 31 := by unfold laidN; rw [if_neg (by decide), if_neg (by decide), if_neg (by decide), if_pos rfl]
theorem laid_7 (N : Nat) : laidN 7 N = cutN N 0 20 * 2 ^ 12 := by unfold laidN; rw [if_neg (by decide), if_neg (by decide), if_neg (by decide), if_neg (by decide), if_pos rfl]
theorem laid_8 (N : Nat) : laidN 8 N = cutN N 1 10 * 2 ^ 21 ||| cutN N 11 1 * 2 ^ 20 ||| cutN N 12 8 * 2 ^ 12 ||| cutN N 20 1 * 2 ^ 31 := by unfold laidN; rw [if_neg (by decide), if_neg (by decide), if_neg (by decide), if_neg (by decide), if_neg (by decide), if_pos rfl]
def stampW (lo mi hi : Nat) : Nat := lo ||| mi * 2 ^ 12 ||| hi * 2 ^ 25
def wordW (lo mi hi D A B L : Nat) : Nat := stampW lo mi hi ||| D * 2 ^ 7 ||| A * 2 ^ 15 ||| B * 2 ^ 20 ||| L
def nat32 (n : Int) : Nat := (n % 4294967296).toNat
/-- The instruction's word. -/
def encN (op : Nat) (D A B : Nat) (N : Nat) : Nat := wordW (lowN op) (midN op) (highN op) D A B (laidN (formN op) N)

/-- A number of so many bits, the highest its sign. -/
def sxN (k x : Nat) : Int := if x < 2 ^ (k - 1) then (x : Int) else (x : Int) - ((2 ^ k : Nat) : Int)
def numN (f w : Nat) : Int :=
  match f with
  | 3 => sxN 12 (cutN w 20 12)
  | 4 => (cutN w 20 5 : Nat)
  | 5 => sxN 12 (cutN w 7 5 + cutN w 25 7 * 32)
  | 6 => sxN 13 (cutN w 8 4 * 2 + cutN w 25 6 * 32 + cutN w 7 1 * 2048 + cutN w 31 1 * 4096)
  | 7 => (cutN w 12 20 : Nat)
  | 8 => sxN 21 (cutN w 21 10 * 2 + cutN w 20 1 * 2048 + cutN w 12 8 * 4096 + cutN w 31 1 * 1048576)
  | _ => 0

/-- An instruction's number, registers, number. -/
structure Ins where
  op : Int
  d : Int
  a : Int
  b : Int
  n : Int
deriving DecidableEq

def hasDN (f : Nat) : Bool := f == 2 || f == 3 || f == 4 || f == 7 || f == 8
def hasAN (f : Nat) : Bool := f == 2 || f == 3 || f == 4 || f == 5 || f == 6
def hasBN (f : Nat) : Bool := f == 2 || f == 5 || f == 6
def regOk (had : Bool) (r : Int) : Bool := if had then decide (0 ≤ r) && decide (r < 32) else r == 0
def numOk (f : Nat) (n : Int) : Bool :=
  match f with
  | 3 => decide (-2048 ≤ n) && decide (n ≤ 2047)
  | 5 => decide (-2048 ≤ n) && decide (n ≤ 2047)
  | 4 => decide (0 ≤ n) && decide (n ≤ 31)
  | 6 => decide (-4096 ≤ n) && decide (n ≤ 4095) && n % 2 == 0
  | 7 => decide (0 ≤ n) && decide (n ≤ 1048575)
  | 8 => decide (-1048576 ≤ n) && decide (n ≤ 1048575) && n % 2 == 0
  | _ => n == 0
/-- May an instruction without a symbol be? -/
def mayI (i : Ins) : Bool :=
  decide (1 ≤ i.op) && decide (i.op ≤ 30) && regOk (hasDN (formN i.op.toNat)) i.d && regOk (hasAN (formN i.op.toNat)) i.a && regOk (hasBN (formN i.op.toNat)) i.b && numOk (formN i.op.toNat) i.n
def wordI (i : Ins) : Nat := encN i.op.toNat i.d.toNat i.a.toNat i.b.toNat (nat32 i.n)
def encI (i : Ins) : Option Nat := if mayI i = true then some (wordI i) else none
/-- What is seen of a word that is of a form. -/
def seenN (f w : Nat) : Nat × Nat × Nat :=
  (w % 128, if f == 1 || f == 2 || f == 3 || f == 4 || f == 5 || f == 6 then cutN w 12 3 else 0, if f == 1 || f == 2 || f == 4 then cutN w 25 7 else 0)
def stampN (op : Nat) : Nat × Nat × Nat := (lowN op, midN op, highN op)
def readI (op w : Nat) : Ins :=
  ⟨op, if hasDN (formN op) then (cutN w 7 5 : Nat) else (0 : Nat), if hasAN (formN op) then (cutN w 15 5 : Nat) else (0 : Nat), if hasBN (formN op) then (cutN w 20 5 : Nat) else (0 : Nat), numN (formN op) w⟩
def hitI (op w : Nat) : Bool := (stampN op == seenN (formN op) w) && (encI (readI op w) == some w)
def decI (w : Nat) : Option Ins := ((List.range 31).find? fun op => hitI op w).map fun op => readI op w

theorem low7 (w : Nat) : w % 128 = cutN w 0 7 := by simp [cutN]

theorem ext_1 (lo mi hi : Nat) (hlo : lo < 2 ^ 7) (hmi : mi < 2 ^ 3) (hhi : hi < 2 ^ 7) :
    cutN ((lo ||| mi * 2 ^ 12 ||| hi * 2 ^ 25) ||| 0 * 2 ^ 7 ||| 0 * 2 ^ 15 ||| 0 * 2 ^ 20 ||| (0)) 0 7 = lo ∧ cutN ((lo ||| mi * 2 ^ 12 ||| hi * 2 ^ 25) ||| 0 * 2 ^ 7 ||| 0 * 2 ^ 15 ||| 0 * 2 ^ 20 ||| (0)) 12 3 = mi ∧ cutN ((lo ||| mi * 2 ^ 12 ||| hi * 2 ^ 25) ||| 0 * 2 ^ 7 ||| 0 * 2 ^ 15 ||| 0 * 2 ^ 20 ||| (0)) 25 7 = hi := by
  simp only [Nat.zero_mul, Nat.or_zero, Nat.zero_or]
  refine ⟨?_, ?_, ?_⟩
  · simp only [cut_or]
    rw [show cutN (lo) 0 7 = lo from by simp only [cutN]; omega]
    rw [show cutN (mi * 2 ^ 12) 0 7 = 0 from by simp only [cutN]; omega]
    rw [show cutN (hi * 2 ^ 25) 0 7 = 0 from by simp only [cutN]; omega]
    simp only [Nat.zero_or, Nat.or_zero]
  · simp only [cut_or]
    rw [show cutN (lo) 12 3 = 0 from by simp only [cutN]; omega]
    rw [show cutN (mi * 2 ^ 12) 12 3 = mi from by simp only [cutN]; omega]
    rw [show cutN (hi * 2 ^ 25) 12 3 = 0 from by simp only [cutN]; omega]
    simp only [Nat.zero_or, Nat.or_zero]
  · simp only [cut_or]
    rw [show cutN (lo) 25 7 = 0 from by simp only [cutN]; omega]
    rw [show cutN (mi * 2 ^ 12) 25 7 = 0 from by simp only [cutN]; omega]
    rw [show cutN (hi * 2 ^ 25) 25 7 = hi from by simp only [cutN]; omega]
    simp only [Nat.zero_or, Nat.or_zero]
theorem ext_2 (lo mi hi D A B : Nat) (hlo : lo < 2 ^ 7) (hmi : mi < 2 ^ 3) (hhi : hi < 2 ^ 7) (hD : D < 2 ^ 5) (hA : A < 2 ^ 5) (hB : B < 2 ^ 5) :
    cutN ((lo ||| mi * 2 ^ 12 ||| hi * 2 ^ 25) ||| D * 2 ^ 7 ||| A * 2 ^ 15 ||| B * 2 ^ 20 ||| (0)) 0 7 = lo ∧ cutN ((lo ||| mi * 2 ^ 12 ||| hi * 2 ^ 25) ||| D * 2 ^ 7 ||| A * 2 ^ 15 ||| B * 2 ^ 20 ||| (0)) 12 3 = mi ∧ cutN ((lo ||| mi * 2 ^ 12 ||| hi * 2 ^ 25) ||| D * 2 ^ 7 ||| A * 2 ^ 15 ||| B * 2 ^ 20 ||| (0)) 25 7 = hi ∧ cutN ((lo ||| mi * 2 ^ 12 ||| hi * 2 ^ 25) ||| D * 2 ^ 7 ||| A * 2 ^ 15 ||| B * 2 ^ 20 ||| (0)) 7 5 = D ∧ cutN ((lo ||| mi * 2 ^ 12 ||| hi * 2 ^ 25) ||| D * 2 ^ 7 ||| A * 2 ^ 15 ||| B * 2 ^ 20 ||| (0)) 15 5 = A ∧ cutN ((lo ||| mi * 2 ^ 12 ||| hi * 2 ^ 25) ||| D * 2 ^ 7 ||| A * 2 ^ 15 ||| B * 2 ^ 20 ||| (0)) 20 5 = B := by
  simp only [Nat.zero_mul, Nat.or_zero, Nat.zero_or]
  refine ⟨?_, ?_, ?_, ?_, ?_, ?_⟩
  · simp only [cut_or]
    rw [show cutN (lo) 0 7 = lo from by simp only [cutN]; omega]
    rw [show cutN (mi * 2 ^ 12) 0 7 = 0 from by simp only [cutN]; omega]
    rw [show cutN (hi * 2 ^ 25) 0 7 = 0 from by simp only [cutN]; omega]
    rw [show cutN (D * 2 ^ 7) 0 7 = 0 from by simp only [cutN]; omega]
    rw [show cutN (A * 2 ^ 15) 0 7 = 0 from by simp only [cutN]; omega]
    rw [show cutN (B * 2 ^ 20) 0 7 = 0 from by simp only [cutN]; omega]
    simp only [Nat.zero_or, Nat.or_zero]
  · simp only [cut_or]
    rw [show cutN (lo) 12 3 = 0 from by simp only [cutN]; omega]
    rw [show cutN (mi * 2 ^ 12) 12 3 = mi from by simp only [cutN]; omega]
    rw [show cutN (hi * 2 ^ 25) 12 3 = 0 from by simp only [cutN]; omega]
    rw [show cutN (D * 2 ^ 7) 12 3 = 0 from by simp only [cutN]; omega]
    rw [show cutN (A * 2 ^ 15) 12 3 = 0 from by simp only [cutN]; omega]
    rw [show cutN (B * 2 ^ 20) 12 3 = 0 from by simp only [cutN]; omega]
    simp only [Nat.zero_or, Nat.or_zero]
  · simp only [cut_or]
    rw [show cutN (lo) 25 7 = 0 from by simp only [cutN]; omega]
    rw [show cutN (mi * 2 ^ 12) 25 7 = 0 from by simp only [cutN]; omega]
    rw [show cutN (hi * 2 ^ 25) 25 7 = hi from by simp only [cutN]; omega]
    rw [show cutN (D * 2 ^ 7) 25 7 = 0 from by simp only [cutN]; omega]
    rw [show cutN (A * 2 ^ 15) 25 7 = 0 from by simp only [cutN]; omega]
    rw [show cutN (B * 2 ^ 20) 25 7 = 0 from by simp only [cutN]; omega]
    simp only [Nat.zero_or, Nat.or_zero]
  · simp only [cut_or]
    rw [show cutN (lo) 7 5 = 0 from by simp only [cutN]; omega]
    rw [show cutN (mi * 2 ^ 12) 7 5 = 0 from by simp only [cutN]; omega]
    rw [show cutN (hi * 2 ^ 25) 7 5 = 0 from by simp only [cutN]; omega]
    rw [show cutN (D * 2 ^ 7) 7 5 = D from by simp only [cutN]; omega]
    rw [show cutN (A * 2 ^ 15) 7 5 = 0 from by simp only [cutN]; omega]
    rw [show cutN (B * 2 ^ 20) 7 5 = 0 from by simp only [cutN]; omega]
    simp only [Nat.zero_or, Nat.or_zero]
  · simp only [cut_or]
    rw [show cutN (lo) 15 5 = 0 from by simp only [cutN]; omega]
    rw [show cutN (mi * 2 ^ 12) 15 5 = 0 from by simp only [cutN]; omega]
    rw [show cutN (hi * 2 ^ 25) 15 5 = 0 from by simp only [cutN]; omega]
    rw [show cutN (D * 2 ^ 7) 15 5 = 0 from by simp only [cutN]; omega]
    rw [show cutN (A * 2 ^ 15) 15 5 = A from by simp only [cutN]; omega]
    rw [show cutN (B * 2 ^ 20) 15 5 = 0 from by simp only [cutN]; omega]
    simp only [Nat.zero_or, Nat.or_zero]
  · simp only [cut_or]
    rw [show cutN (lo) 20 5 = 0 from by simp only [cutN]; omega]
    rw [show cutN (mi * 2 ^ 12) 20 5 = 0 from by simp only [cutN]; omega]
    rw [show cutN (hi * 2 ^ 25) 20 5 = 0 from by simp only [cutN]; omega]
    rw [show cutN (D * 2 ^ 7) 20 5 = 0 from by simp only [cutN]; omega]
    rw [show cutN (A * 2 ^ 15) 20 5 = 0 from by simp only [cutN]; omega]
    rw [show cutN (B * 2 ^ 20) 20 5 = B from by simp only [cutN]; omega]
    simp only [Nat.zero_or, Nat.or_zero]
theorem ext_3 (lo mi D A p0 : Nat) (hlo : lo < 2 ^ 7) (hmi : mi < 2 ^ 3) (hD : D < 2 ^ 5) (hA : A < 2 ^ 5) (hp0 : p0 < 2 ^ 12) :
    cutN ((lo ||| mi * 2 ^ 12 ||| 0 * 2 ^ 25) ||| D * 2 ^ 7 ||| A * 2 ^ 15 ||| 0 * 2 ^ 20 ||| (p0 * 2 ^ 20)) 0 7 = lo ∧ cutN ((lo ||| mi * 2 ^ 12 ||| 0 * 2 ^ 25) ||| D * 2 ^ 7 ||| A * 2 ^ 15 ||| 0 * 2 ^ 20 ||| (p0 * 2 ^ 20)) 12 3 = mi ∧ cutN ((lo ||| mi * 2 ^ 12 ||| 0 * 2 ^ 25) ||| D * 2 ^ 7 ||| A * 2 ^ 15 ||| 0 * 2 ^ 20 ||| (p0 * 2 ^ 20)) 7 5 = D ∧ cutN ((lo ||| mi * 2 ^ 12 ||| 0 * 2 ^ 25) ||| D * 2 ^ 7 ||| A * 2 ^ 15 ||| 0 * 2 ^ 20 ||| (p0 * 2 ^ 20)) 15 5 = A ∧ cutN ((lo ||| mi * 2 ^ 12 ||| 0 * 2 ^ 25) ||| D * 2 ^ 7 ||| A * 2 ^ 15 ||| 0 * 2 ^ 20 ||| (p0 * 2 ^ 20)) 20 12 = p0 := by
  simp only [Nat.zero_mul, Nat.or_zero, Nat.zero_or]
  refine ⟨?_, ?_, ?_, ?_, ?_⟩
  · simp only [cut_or]
    rw [show cutN (lo) 0 7 = lo from by simp only [cutN]; omega]
    rw [show cutN (mi * 2 ^ 12) 0 7 = 0 from by simp only [cutN]; omega]
    rw [show cutN (D * 2 ^ 7) 0 7 = 0 from by simp only [cutN]; omega]
    rw [show cutN (A * 2 ^ 15) 0 7 = 0 from by simp only [cutN]; omega]
    rw [show cutN (p0 * 2 ^ 20) 0 7 = 0 from by simp only [cutN]; omega]
    simp only [Nat.zero_or, Nat.or_zero]
  · simp only [cut_or]
    rw [show cutN (lo) 12 3 = 0 from by simp only [cutN]; omega]
    rw [show cutN (mi * 2 ^ 12) 12 3 = mi from by simp only [cutN]; omega]
    rw [show cutN (D * 2 ^ 7) 12 3 = 0 from by simp only [cutN]; omega]
    rw [show cutN (A * 2 ^ 15) 12 3 = 0 from by simp only [cutN]; omega]
    rw [show cutN (p0 * 2 ^ 20) 12 3 = 0 from by simp only [cutN]; omega]
    simp only [Nat.zero_or, Nat.or_zero]
  · simp only [cut_or]
    rw [show cutN (lo) 7 5 = 0 from by simp only [cutN]; omega]
    rw [show cutN (mi * 2 ^ 12) 7 5 = 0 from by simp only [cutN]; omega]
    rw [show cutN (D * 2 ^ 7) 7 5 = D from by simp only [cutN]; omega]
    rw [show cutN (A * 2 ^ 15) 7 5 = 0 from by simp only [cutN]; omega]
    rw [show cutN (p0 * 2 ^ 20) 7 5 = 0 from by simp only [cutN]; omega]
    simp only [Nat.zero_or, Nat.or_zero]
  · simp only [cut_or]
    rw [show cutN (lo) 15 5 = 0 from by simp only [cutN]; omega]
    rw [show cutN (mi * 2 ^ 12) 15 5 = 0 from by simp only [cutN]; omega]
    rw [show cutN (D * 2 ^ 7) 15 5 = 0 from by simp only [cutN]; omega]
    rw [show cutN (A * 2 ^ 15) 15 5 = A from by simp only [cutN]; omega]
    rw [show cutN (p0 * 2 ^ 20) 15 5 = 0 from by simp only [cutN]; omega]
    simp only [Nat.zero_or, Nat.or_zero]
  · simp only [cut_or]
    rw [show cutN (lo) 20 12 = 0 from by simp only [cutN]; omega]
    rw [show cutN (mi * 2 ^ 12) 20 12 = 0 from by simp only [cutN]; omega]
    rw [show cutN (D * 2 ^ 7) 20 12 = 0 from by simp only [cutN]; omega]
    rw [show cutN (A * 2 ^ 15) 20 12 = 0 from by simp only [cutN]; omega]
    rw [show cutN (p0 * 2 ^ 20) 20 12 = p0 from by simp only [cutN]; omega]
    simp only [Nat.zero_or, Nat.or_zero]
theorem ext_4 (lo mi hi D A p0 : Nat) (hlo : lo < 2 ^ 7) (hmi : mi < 2 ^ 3) (hhi : hi < 2 ^ 7) (hD : D < 2 ^ 5) (hA : A < 2 ^ 5) (hp0 : p0 < 2 ^ 5) :
    cutN ((lo ||| mi * 2 ^ 12 ||| hi * 2 ^ 25) ||| D * 2 ^ 7 ||| A * 2 ^ 15 ||| 0 * 2 ^ 20 ||| (p0 * 2 ^ 20)) 0 7 = lo ∧ cutN ((lo ||| mi * 2 ^ 12 ||| hi * 2 ^ 25) ||| D * 2 ^ 7 ||| A * 2 ^ 15 ||| 0 * 2 ^ 20 ||| (p0 * 2 ^ 20)) 12 3 = mi ∧ cutN ((lo ||| mi * 2 ^ 12 ||| hi * 2 ^ 25) ||| D * 2 ^ 7 ||| A * 2 ^ 15 ||| 0 * 2 ^ 20 ||| (p0 * 2 ^ 20)) 25 7 = hi ∧ cutN ((lo ||| mi * 2 ^ 12 ||| hi * 2 ^ 25) ||| D * 2 ^ 7 ||| A * 2 ^ 15 ||| 0 * 2 ^ 20 ||| (p0 * 2 ^ 20)) 7 5 = D ∧ cutN ((lo ||| mi * 2 ^ 12 ||| hi * 2 ^ 25) ||| D * 2 ^ 7 ||| A * 2 ^ 15 ||| 0 * 2 ^ 20 ||| (p0 * 2 ^ 20)) 15 5 = A ∧ cutN ((lo ||| mi * 2 ^ 12 ||| hi * 2 ^ 25) ||| D * 2 ^ 7 ||| A * 2 ^ 15 ||| 0 * 2 ^ 20 ||| (p0 * 2 ^ 20)) 20 5 = p0 := by
  simp only [Nat.zero_mul, Nat.or_zero, Nat.zero_or]
  refine ⟨?_, ?_, ?_, ?_, ?_, ?_⟩
  · simp only [cut_or]
    rw [show cutN (lo) 0 7 = lo from by simp only [cutN]; omega]
    rw [show cutN (mi * 2 ^ 12) 0 7 = 0 from by simp only [cutN]; omega]
    rw [show cutN (hi * 2 ^ 25) 0 7 = 0 from by simp only [cutN]; omega]
    rw [show cutN (D * 2 ^ 7) 0 7 = 0 from by simp only [cutN]; omega]
    rw [show cutN (A * 2 ^ 15) 0 7 = 0 from by simp only [cutN]; omega]
    rw [show cutN (p0 * 2 ^ 20) 0 7 = 0 from by simp only [cutN]; omega]
    simp only [Nat.zero_or, Nat.or_zero]
  · simp only [cut_or]
    rw [show cutN (lo) 12 3 = 0 from by simp only [cutN]; omega]
    rw [show cutN (mi * 2 ^ 12) 12 3 = mi from by simp only [cutN]; omega]
    rw [show cutN (hi * 2 ^ 25) 12 3 = 0 from by simp only [cutN]; omega]
    rw [show cutN (D * 2 ^ 7) 12 3 = 0 from by simp only [cutN]; omega]
    rw [show cutN (A * 2 ^ 15) 12 3 = 0 from by simp only [cutN]; omega]
    rw [show cutN (p0 * 2 ^ 20) 12 3 = 0 from by simp only [cutN]; omega]
    simp only [Nat.zero_or, Nat.or_zero]
  · simp only [cut_or]
    rw [show cutN (lo) 25 7 = 0 from by simp only [cutN]; omega]
    rw [show cutN (mi * 2 ^ 12) 25 7 = 0 from by simp only [cutN]; omega]
    rw [show cutN (hi * 2 ^ 25) 25 7 = hi from by simp only [cutN]; omega]
    rw [show cutN (D * 2 ^ 7) 25 7 = 0 from by simp only [cutN]; omega]
    rw [show cutN (A * 2 ^ 15) 25 7 = 0 from by simp only [cutN]; omega]
    rw [show cutN (p0 * 2 ^ 20) 25 7 = 0 from by simp only [cutN]; omega]
    simp only [Nat.zero_or, Nat.or_zero]
  · simp only [cut_or]
    rw [show cutN (lo) 7 5 = 0 from by simp only [cutN]; omega]
    rw [show cutN (mi * 2 ^ 12) 7 5 = 0 from by simp only [cutN]; omega]
    rw [show cutN (hi * 2 ^ 25) 7 5 = 0 from by simp only [cutN]; omega]
    rw [show cutN (D * 2 ^ 7) 7 5 = D from by simp only [cutN]; omega]
    rw [show cutN (A * 2 ^ 15) 7 5 = 0 from by simp only [cutN]; omega]
    rw [show cutN (p0 * 2 ^ 20) 7 5 = 0 from by simp only [cutN]; omega]
    simp only [Nat.zero_or, Nat.or_zero]
  · simp only [cut_or]
    rw [show cutN (lo) 15 5 = 0 from by simp only [cutN]; omega]
    rw [show cutN (mi * 2 ^ 12) 15 5 = 0 from by simp only [cutN]; omega]
    rw [show cutN (hi * 2 ^ 25) 15 5 = 0 from by simp only [cutN]; omega]
    rw [show cutN (D * 2 ^ 7) 15 5 = 0 from by simp only [cutN]; omega]
    rw [show cutN (A * 2 ^ 15) 15 5 = A from by simp only [cutN]; omega]
    rw [show cutN (p0 * 2 ^ 20) 15 5 = 0 from by simp only [cutN]; omega]
    simp only [Nat.zero_or, Nat.or_zero]
  · simp only [cut_or]
    rw [show cutN (lo) 20 5 = 0 from by simp only [cutN]; omega]
    rw [show cutN (mi * 2 ^ 12) 20 5 = 0 from by simp only [cutN]; omega]
    rw [show cutN (hi * 2 ^ 25) 20 5 = 0 from by simp only [cutN]; omega]
    rw [show cutN (D * 2 ^ 7) 20 5 = 0 from by simp only [cutN]; omega]
    rw [show cutN (A * 2 ^ 15) 20 5 = 0 from by simp only [cutN]; omega]
    rw [show cutN (p0 * 2 ^ 20) 20 5 = p0 from by simp only [cutN]; omega]
    simp only [Nat.zero_or, Nat.or_zero]
theorem ext_5 (lo mi A B p0 p1 : Nat) (hlo : lo < 2 ^ 7) (hmi : mi < 2 ^ 3) (hA : A < 2 ^ 5) (hB : B < 2 ^ 5) (hp0 : p0 < 2 ^ 5) (hp1 : p1 < 2 ^ 7) :
    cutN ((lo ||| mi * 2 ^ 12 ||| 0 * 2 ^ 25) ||| 0 * 2 ^ 7 ||| A * 2 ^ 15 ||| B * 2 ^ 20 ||| (p0 * 2 ^ 7 ||| p1 * 2 ^ 25)) 0 7 = lo ∧ cutN ((lo ||| mi * 2 ^ 12 ||| 0 * 2 ^ 25) ||| 0 * 2 ^ 7 ||| A * 2 ^ 15 ||| B * 2 ^ 20 ||| (p0 * 2 ^ 7 ||| p1 * 2 ^ 25)) 12 3 = mi ∧ cutN ((lo ||| mi * 2 ^ 12 ||| 0 * 2 ^ 25) ||| 0 * 2 ^ 7 ||| A * 2 ^ 15 ||| B * 2 ^ 20 ||| (p0 * 2 ^ 7 ||| p1 * 2 ^ 25)) 15 5 = A ∧ cutN ((lo ||| mi * 2 ^ 12 ||| 0 * 2 ^ 25) ||| 0 * 2 ^ 7 ||| A * 2 ^ 15 ||| B * 2 ^ 20 ||| (p0 * 2 ^ 7 ||| p1 * 2 ^ 25)) 20 5 = B ∧ cutN ((lo ||| mi * 2 ^ 12 ||| 0 * 2 ^ 25) ||| 0 * 2 ^ 7 ||| A * 2 ^ 15 ||| B * 2 ^ 20 ||| (p0 * 2 ^ 7 ||| p1 * 2 ^ 25)) 7 5 = p0 ∧ cutN ((lo ||| mi * 2 ^ 12 ||| 0 * 2 ^ 25) ||| 0 * 2 ^ 7 ||| A * 2 ^ 15 ||| B * 2 ^ 20 ||| (p0 * 2 ^ 7 ||| p1 * 2 ^ 25)) 25 7 = p1 := by
  simp only [Nat.zero_mul, Nat.or_zero, Nat.zero_or]
  refine ⟨?_, ?_, ?_, ?_, ?_, ?_⟩
  · simp only [cut_or]
    rw [show cutN (lo) 0 7 = lo from by simp only [cutN]; omega]
    rw [show cutN (mi * 2 ^ 12) 0 7 = 0 from by simp only [cutN]; omega]
    rw [show cutN (A * 2 ^ 15) 0 7 = 0 from by simp only [cutN]; omega]
    rw [show cutN (B * 2 ^ 20) 0 7 = 0 from by simp only [cutN]; omega]
    rw [show cutN (p0 * 2 ^ 7) 0 7 = 0 from by simp only [cutN]; omega]
    rw [show cutN (p1 * 2 ^ 25) 0 7 = 0 from by simp only [cutN]; omega]
    simp only [Nat.zero_or, Nat.or_zero]
  · simp only [cut_or]
    rw [show cutN (lo) 12 3 = 0 from by simp only [cutN]; omega]
    rw [show cutN (mi * 2 ^ 12) 12 3 = mi from by simp only [cutN]; omega]
    rw [show cutN (A * 2 ^ 15) 12 3 = 0 from by simp only [cutN]; omega]
    rw [show cutN (B * 2 ^ 20) 12 3 = 0 from by simp only [cutN]; omega]
    rw [show cutN (p0 * 2 ^ 7) 12 3 = 0 from by simp only [cutN]; omega]
    rw [show cutN (p1 * 2 ^ 25) 12 3 = 0 from by simp only [cutN]; omega]
    simp only [Nat.zero_or, Nat.or_zero]
  · simp only [cut_or]
    rw [show cutN (lo) 15 5 = 0 from by simp only [cutN]; omega]
    rw [show cutN (mi * 2 ^ 12) 15 5 = 0 from by simp only [cutN]; omega]
    rw [show cutN (A * 2 ^ 15) 15 5 = A from by simp only [cutN]; omega]
    rw [show cutN (B * 2 ^ 20) 15 5 = 0 from by simp only [cutN]; omega]
    rw [show cutN (p0 * 2 ^ 7) 15 5 = 0 from by simp only [cutN]; omega]
    rw [show cutN (p1 * 2 ^ 25) 15 5 = 0 from by simp only [cutN]; omega]
    simp only [Nat.zero_or, Nat.or_zero]
  · simp only [cut_or]
    rw [show cutN (lo) 20 5 = 0 from by simp only [cutN]; omega]
    rw [show cutN (mi * 2 ^ 12) 20 5 = 0 from by simp only [cutN]; omega]
    rw [show cutN (A * 2 ^ 15) 20 5 = 0 from by simp only [cutN]; omega]
    rw [show cutN (B * 2 ^ 20) 20 5 = B from by simp only [cutN]; omega]
    rw [show cutN (p0 * 2 ^ 7) 20 5 = 0 from by simp only [cutN]; omega]
    rw [show cutN (p1 * 2 ^ 25) 20 5 = 0 from by simp only [cutN]; omega]
    simp only [Nat.zero_or, Nat.or_zero]
  · simp only [cut_or]
    rw [show cutN (lo) 7 5 = 0 from by simp only [cutN]; omega]
    rw [show cutN (mi * 2 ^ 12) 7 5 = 0 from by simp only [cutN]; omega]
    rw [show cutN (A * 2 ^ 15) 7 5 = 0 from by simp only [cutN]; omega]
    rw [show cutN (B * 2 ^ 20) 7 5 = 0 from by simp only [cutN]; omega]
    rw [show cutN (p0 * 2 ^ 7) 7 5 = p0 from by simp only [cutN]; omega]
    rw [show cutN (p1 * 2 ^ 25) 7 5 = 0 from by simp only [cutN]; omega]
    simp only [Nat.zero_or, Nat.or_zero]
  · simp only [cut_or]
    rw [show cutN (lo) 25 7 = 0 from by simp only [cutN]; omega]
    rw [show cutN (mi * 2 ^ 12) 25 7 = 0 from by simp only [cutN]; omega]
    rw [show cutN (A * 2 ^ 15) 25 7 = 0 from by simp only [cutN]; omega]
    rw [show cutN (B * 2 ^ 20) 25 7 = 0 from by simp only [cutN]; omega]
    rw [show cutN (p0 * 2 ^ 7) 25 7 = 0 from by simp only [cutN]; omega]
    rw [show cutN (p1 * 2 ^ 25) 25 7 = p1 from by simp only [cutN]; omega]
    simp only [Nat.zero_or, Nat.or_zero]
theorem ext_6 (lo mi A B p0 p1 p2 p3 : Nat) (hlo : lo < 2 ^ 7) (hmi : mi < 2 ^ 3) (hA : A < 2 ^ 5) (hB : B < 2 ^ 5) (hp0 : p0 < 2 ^ 4) (hp1 : p1 < 2 ^ 6) (hp2 : p2 < 2 ^ 1) (hp3 : p3 < 2 ^ 1) :
    cutN ((lo ||| mi * 2 ^ 12 ||| 0 * 2 ^ 25) ||| 0 * 2 ^ 7 ||| A * 2 ^ 15 ||| B * 2 ^ 20 ||| (p0 * 2 ^ 8 ||| p1 * 2 ^ 25 ||| p2 * 2 ^ 7 ||| p3 * 2 ^ 31)) 0 7 = lo ∧ cutN ((lo ||| mi * 2 ^ 12 ||| 0 * 2 ^ 25) ||| 0 * 2 ^ 7 ||| A * 2 ^ 15 ||| B * 2 ^ 20 ||| (p0 * 2 ^ 8 ||| p1 * 2 ^ 25 ||| p2 * 2 ^ 7 ||| p3 * 2 ^ 31)) 12 3 = mi ∧ cutN ((lo ||| mi * 2 ^ 12 ||| 0 * 2 ^ 25) ||| 0 * 2 ^ 7 ||| A * 2 ^ 15 ||| B * 2 ^ 20 ||| (p0 * 2 ^ 8 ||| p1 * 2 ^ 25 ||| p2 * 2 ^ 7 ||| p3 * 2 ^ 31)) 15 5 = A ∧ cutN ((lo ||| mi * 2 ^ 12 ||| 0 * 2 ^ 25) ||| 0 * 2 ^ 7 ||| A * 2 ^ 15 ||| B * 2 ^ 20 ||| (p0 * 2 ^ 8 ||| p1 * 2 ^ 25 ||| p2 * 2 ^ 7 ||| p3 * 2 ^ 31)) 20 5 = B ∧ cutN ((lo ||| mi * 2 ^ 12 ||| 0 * 2 ^ 25) ||| 0 * 2 ^ 7 ||| A * 2 ^ 15 ||| B * 2 ^ 20 ||| (p0 * 2 ^ 8 ||| p1 * 2 ^ 25 ||| p2 * 2 ^ 7 ||| p3 * 2 ^ 31)) 8 4 = p0 ∧ cutN ((lo ||| mi * 2 ^ 12 ||| 0 * 2 ^ 25) ||| 0 * 2 ^ 7 ||| A * 2 ^ 15 ||| B * 2 ^ 20 ||| (p0 * 2 ^ 8 ||| p1 * 2 ^ 25 ||| p2 * 2 ^ 7 ||| p3 * 2 ^ 31)) 25 6 = p1 ∧ cutN ((lo ||| mi * 2 ^ 12 ||| 0 * 2 ^ 25) ||| 0 * 2 ^ 7 ||| A * 2 ^ 15 ||| B * 2 ^ 20 ||| (p0 * 2 ^ 8 ||| p1 * 2 ^ 25 ||| p2 * 2 ^ 7 ||| p3 * 2 ^ 31)) 7 1 = p2 ∧ cutN ((lo ||| mi * 2 ^ 12 ||| 0 * 2 ^ 25) ||| 0 * 2 ^ 7 ||| A * 2 ^ 15 ||| B * 2 ^ 20 ||| (p0 * 2 ^ 8 ||| p1 * 2 ^ 25 ||| p2 * 2 ^ 7 ||| p3 * 2 ^ 31)) 31 1 = p3 := by
  simp only [Nat.zero_mul, Nat.or_zero, Nat.zero_or]
  refine ⟨?_, ?_, ?_, ?_, ?_, ?_, ?_, ?_⟩
  · simp only [cut_or]
    rw [show cutN (lo) 0 7 = lo from by simp only [cutN]; omega]
    rw [show cutN (mi * 2 ^ 12) 0 7 = 0 from by simp only [cutN]; omega]
    rw [show cutN (A * 2 ^ 15) 0 7 = 0 from by simp only [cutN]; omega]
    rw [show cutN (B * 2 ^ 20) 0 7 = 0 from by simp only [cutN]; omega]
    rw [show cutN (p0 * 2 ^ 8) 0 7 = 0 from by simp only [cutN]; omega]
    rw [show cutN (p1 * 2 ^ 25) 0 7 = 0 from by simp only [cutN]; omega]
    rw [show cutN (p2 * 2 ^ 7) 0 7 = 0 from by simp only [cutN]; omega]
    rw [show cutN (p3 * 2 ^ 31) 0 7 = 0 from by simp only [cutN]; omega]
    simp only [Nat.zero_or, Nat.or_zero]
  · simp only [cut_or]
    rw [show cutN (lo) 12 3 = 0 from by simp only [cutN]; omega]
    rw [show cutN (mi * 2 ^ 12) 12 3 = mi from by simp only [cutN]; omega]
    rw [show cutN (A * 2 ^ 15) 12 3 = 0 from by simp only [cutN]; omega]
    rw [show cutN (B * 2 ^ 20) 12 3 = 0 from by simp only [cutN]; omega]
    rw [show cutN (p0 * 2 ^ 8) 12 3 = 0 from by simp only [cutN]; omega]
    rw [show cutN (p1 * 2 ^ 25) 12 3 = 0 from by simp only [cutN]; omega]
    rw [show cutN (p2 * 2 ^ 7) 12 3 = 0 from by simp only [cutN]; omega]
    rw [show cutN (p3 * 2 ^ 31) 12 3 = 0 from by simp only [cutN]; omega]
    simp only [Nat.zero_or, Nat.or_zero]
  · simp only [cut_or]
    rw [show cutN (lo) 15 5 = 0 from by simp only [cutN]; omega]
    rw [show cutN (mi * 2 ^ 12) 15 5 = 0 from by simp only [cutN]; omega]
    rw [show cutN (A * 2 ^ 15) 15 5 = A from by simp only [cutN]; omega]
    rw [show cutN (B * 2 ^ 20) 15 5 = 0 from by simp only [cutN]; omega]
    rw [show cutN (p0 * 2 ^ 8) 15 5 = 0 from by simp only [cutN]; omega]
    rw [show cutN (p1 * 2 ^ 25) 15 5 = 0 from by simp only [cutN]; omega]
    rw [show cutN (p2 * 2 ^ 7) 15 5 = 0 from by simp only [cutN]; omega]
    rw [show cutN (p3 * 2 ^ 31) 15 5 = 0 from by simp only [cutN]; omega]
    simp only [Nat.zero_or, Nat.or_zero]
  · simp only [cut_or]
    rw [show cutN (lo) 20 5 = 0 from by simp only [cutN]; omega]
    rw [show cutN (mi * 2 ^ 12) 20 5 = 0 from by simp only [cutN]; omega]
    rw [show cutN (A * 2 ^ 15) 20 5 = 0 from by simp only [cutN]; omega]
    rw [show cutN (B * 2 ^ 20) 20 5 = B from by simp only [cutN]; omega]
    rw [show cutN (p0 * 2 ^ 8) 20 5 = 0 from by simp only [cutN]; omega]
    rw [show cutN (p1 * 2 ^ 25) 20 5 = 0 from by simp only [cutN]; omega]
    rw [show cutN (p2 * 2 ^ 7) 20 5 = 0 from by simp only [cutN]; omega]
    rw [show cutN (p3 * 2 ^ 31) 20 5 = 0 from by simp only [cutN]; omega]
    simp only [Nat.zero_or, Nat.or_zero]
  · simp only [cut_or]
    rw [show cutN (lo) 8 4 = 0 from by simp only [cutN]; omega]
    rw [show cutN (mi * 2 ^ 12) 8 4 = 0 from by simp only [cutN]; omega]
    rw [show cutN (A * 2 ^ 15) 8 4 = 0 from by simp only [cutN]; omega]
    rw [show cutN (B * 2 ^ 20) 8 4 = 0 from by simp only [cutN]; omega]
    rw [show cutN (p0 * 2 ^ 8) 8 4 = p0 from by simp only [cutN]; omega]
    rw [show cutN (p1 * 2 ^ 25) 8 4 = 0 from by simp only [cutN]; omega]
    rw [show cutN (p2 * 2 ^ 7) 8 4 = 0 from by simp only [cutN]; omega]
    rw [show cutN (p3 * 2 ^ 31) 8 4 = 0 from by simp only [cutN]; omega]
    simp only [Nat.zero_or, Nat.or_zero]
  · simp only [cut_or]
    rw [show cutN (lo) 25 6 = 0 from by simp only [cutN]; omega]
    rw [show cutN (mi * 2 ^ 12) 25 6 = 0 from by simp only [cutN]; omega]
    rw [show cutN (A * 2 ^ 15) 25 6 = 0 from by simp only [cutN]; omega]
    rw [show cutN (B * 2 ^ 20) 25 6 = 0 from by simp only [cutN]; omega]
    rw [show cutN (p0 * 2 ^ 8) 25 6 = 0 from by simp only [cutN]; omega]
    rw [show cutN (p1 * 2 ^ 25) 25 6 = p1 from by simp only [cutN]; omega]
    rw [show cutN (p2 * 2 ^ 7) 25 6 = 0 from by simp only [cutN]; omega]
    rw [show cutN (p3 * 2 ^ 31) 25 6 = 0 from by simp only [cutN]; omega]
    simp only [Nat.zero_or, Nat.or_zero]
  · simp only [cut_or]
    rw [show cutN (lo) 7 1 = 0 from by simp only [cutN]; omega]
    rw [show cutN (mi * 2 ^ 12) 7 1 = 0 from by simp only [cutN]; omega]
    rw [show cutN (A * 2 ^ 15) 7 1 = 0 from by simp only [cutN]; omega]
    rw [show cutN (B * 2 ^ 20) 7 1 = 0 from by simp only [cutN]; omega]
    rw [show cutN (p0 * 2 ^ 8) 7 1 = 0 from by simp only [cutN]; omega]
    rw [show cutN (p1 * 2 ^ 25) 7 1 = 0 from by simp only [cutN]; omega]
    rw [show cutN (p2 * 2 ^ 7) 7 1 = p2 from by simp only [cutN]; omega]
    rw [show cutN (p3 * 2 ^ 31) 7 1 = 0 from by simp only [cutN]; omega]
    simp only [Nat.zero_or, Nat.or_zero]
  · simp only [cut_or]
    rw [show cutN (lo) 31 1 = 0 from by simp only [cutN]; omega]
    rw [show cutN (mi * 2 ^ 12) 31 1 = 0 from by simp only [cutN]; omega]
    rw [show cutN (A * 2 ^ 15) 31 1 = 0 from by simp only [cutN]; omega]
    rw [show cutN (B * 2 ^ 20) 31 1 = 0 from by simp only [cutN]; omega]
    rw [show cutN (p0 * 2 ^ 8) 31 1 = 0 from by simp only [cutN]; omega]
    rw [show cutN (p1 * 2 ^ 25) 31 1 = 0 from by simp only [cutN]; omega]
    rw [show cutN (p2 * 2 ^ 7) 31 1 = 0 from by simp only [cutN]; omega]
    rw [show cutN (p3 * 2 ^ 31) 31 1 = p3 from by simp only [cutN]; omega]
    simp only [Nat.zero_or, Nat.or_zero]
theorem ext_7 (lo D p0 : Nat) (hlo : lo < 2 ^ 7) (hD : D < 2 ^ 5) (hp0 : p0 < 2 ^ 20) :
    cutN ((lo ||| 0 * 2 ^ 12 ||| 0 * 2 ^ 25) ||| D * 2 ^ 7 ||| 0 * 2 ^ 15 ||| 0 * 2 ^ 20 ||| (p0 * 2 ^ 12)) 0 7 = lo ∧ cutN ((lo ||| 0 * 2 ^ 12 ||| 0 * 2 ^ 25) ||| D * 2 ^ 7 ||| 0 * 2 ^ 15 ||| 0 * 2 ^ 20 ||| (p0 * 2 ^ 12)) 7 5 = D ∧ cutN ((lo ||| 0 * 2 ^ 12 ||| 0 * 2 ^ 25) ||| D * 2 ^ 7 ||| 0 * 2 ^ 15 ||| 0 * 2 ^ 20 ||| (p0 * 2 ^ 12)) 12 20 = p0 := by
  simp only [Nat.zero_mul, Nat.or_zero, Nat.zero_or]
  refine ⟨?_, ?_, ?_⟩
  · simp only [cut_or]
    rw [show cutN (lo) 0 7 = lo from by simp only [cutN]; omega]
    rw [show cutN (D * 2 ^ 7) 0 7 = 0 from by simp only [cutN]; omega]
    rw [show cutN (p0 * 2 ^ 12) 0 7 = 0 from by simp only [cutN]; omega]
    simp only [Nat.zero_or, Nat.or_zero]
  · simp only [cut_or]
    rw [show cutN (lo) 7 5 = 0 from by simp only [cutN]; omega]
    rw [show cutN (D * 2 ^ 7) 7 5 = D from by simp only [cutN]; omega]
    rw [show cutN (p0 * 2 ^ 12) 7 5 = 0 from by simp only [cutN]; omega]
    simp only [Nat.zero_or, Nat.or_zero]
  · simp only [cut_or]
    rw [show cutN (lo) 12 20 = 0 from by simp only [cutN]; omega]
    rw [show cutN (D * 2 ^ 7) 12 20 = 0 from by simp only [cutN]; omega]
    rw [show cutN (p0 * 2 ^ 12) 12 20 = p0 from by simp only [cutN]; omega]
    simp only [Nat.zero_or, Nat.or_zero]
theorem ext_8 (lo D p0 p1 p2 p3 : Nat) (hlo : lo < 2 ^ 7) (hD : D < 2 ^ 5) (hp0 : p0 < 2 ^ 10) (hp1 : p1 < 2 ^ 1) (hp2 : p2 < 2 ^ 8) (hp3 : p3 < 2 ^ 1) :
    cutN ((lo ||| 0 * 2 ^ 12 ||| 0 * 2 ^ 25) ||| D * 2 ^ 7 ||| 0 * 2 ^ 15 ||| 0 * 2 ^ 20 ||| (p0 * 2 ^ 21 ||| p1 * 2 ^ 20 ||| p2 * 2 ^ 12 ||| p3 * 2 ^ 31)) 0 7 = lo ∧ cutN ((lo ||| 0 * 2 ^ 12 ||| 0 * 2 ^ 25) ||| D * 2 ^ 7 ||| 0 * 2 ^ 15 ||| 0 * 2 ^ 20 ||| (p0 * 2 ^ 21 ||| p1 * 2 ^ 20 ||| p2 * 2 ^ 12 ||| p3 * 2 ^ 31)) 7 5 = D ∧ cutN ((lo ||| 0 * 2 ^ 12 ||| 0 * 2 ^ 25) ||| D * 2 ^ 7 ||| 0 * 2 ^ 15 ||| 0 * 2 ^ 20 ||| (p0 * 2 ^ 21 ||| p1 * 2 ^ 20 ||| p2 * 2 ^ 12 ||| p3 * 2 ^ 31)) 21 10 = p0 ∧ cutN ((lo ||| 0 * 2 ^ 12 ||| 0 * 2 ^ 25) ||| D * 2 ^ 7 ||| 0 * 2 ^ 15 ||| 0 * 2 ^ 20 ||| (p0 * 2 ^ 21 ||| p1 * 2 ^ 20 ||| p2 * 2 ^ 12 ||| p3 * 2 ^ 31)) 20 1 = p1 ∧ cutN ((lo ||| 0 * 2 ^ 12 ||| 0 * 2 ^ 25) ||| D * 2 ^ 7 ||| 0 * 2 ^ 15 ||| 0 * 2 ^ 20 ||| (p0 * 2 ^ 21 ||| p1 * 2 ^ 20 ||| p2 * 2 ^ 12 ||| p3 * 2 ^ 31)) 12 8 = p2 ∧ cutN ((lo ||| 0 * 2 ^ 12 ||| 0 * 2 ^ 25) ||| D * 2 ^ 7 ||| 0 * 2 ^ 15 ||| 0 * 2 ^ 20 ||| (p0 * 2 ^ 21 ||| p1 * 2 ^ 20 ||| p2 * 2 ^ 12 ||| p3 * 2 ^ 31)) 31 1 = p3 := by
  simp only [Nat.zero_mul, Nat.or_zero, Nat.zero_or]
  refine ⟨?_, ?_, ?_, ?_, ?_, ?_⟩
  · simp only [cut_or]
    rw [show cutN (lo) 0 7 = lo from by simp only [cutN]; omega]
    rw [show cutN (D * 2 ^ 7) 0 7 = 0 from by simp only [cutN]; omega]
    rw [show cutN (p0 * 2 ^ 21) 0 7 = 0 from by simp only [cutN]; omega]
    rw [show cutN (p1 * 2 ^ 20) 0 7 = 0 from by simp only [cutN]; omega]
    rw [show cutN (p2 * 2 ^ 12) 0 7 = 0 from by simp only [cutN]; omega]
    rw [show cutN (p3 * 2 ^ 31) 0 7 = 0 from by simp only [cutN]; omega]
    simp only [Nat.zero_or, Nat.or_zero]
  · simp only [cut_or]
    rw [show cutN (lo) 7 5 = 0 from by simp only [cutN]; omega]
    rw [show cutN (D * 2 ^ 7) 7 5 = D from by simp only [cutN]; omega]
    rw [show cutN (p0 * 2 ^ 21) 7 5 = 0 from by simp only [cutN]; omega]
    rw [show cutN (p1 * 2 ^ 20) 7 5 = 0 from by simp only [cutN]; omega]
    rw [show cutN (p2 * 2 ^ 12) 7 5 = 0 from by simp only [cutN]; omega]
    rw [show cutN (p3 * 2 ^ 31) 7 5 = 0 from by simp only [cutN]; omega]
    simp only [Nat.zero_or, Nat.or_zero]
  · simp only [cut_or]
    rw [show cutN (lo) 21 10 = 0 from by simp only [cutN]; omega]
    rw [show cutN (D * 2 ^ 7) 21 10 = 0 from by simp only [cutN]; omega]
    rw [show cutN (p0 * 2 ^ 21) 21 10 = p0 from by simp only [cutN]; omega]
    rw [show cutN (p1 * 2 ^ 20) 21 10 = 0 from by simp only [cutN]; omega]
    rw [show cutN (p2 * 2 ^ 12) 21 10 = 0 from by simp only [cutN]; omega]
    rw [show cutN (p3 * 2 ^ 31) 21 10 = 0 from by simp only [cutN]; omega]
    simp only [Nat.zero_or, Nat.or_zero]
  · simp only [cut_or]
    rw [show cutN (lo) 20 1 = 0 from by simp only [cutN]; omega]
    rw [show cutN (D * 2 ^ 7) 20 1 = 0 from by simp only [cutN]; omega]
    rw [show cutN (p0 * 2 ^ 21) 20 1 = 0 from by simp only [cutN]; omega]
    rw [show cutN (p1 * 2 ^ 20) 20 1 = p1 from by simp only [cutN]; omega]
    rw [show cutN (p2 * 2 ^ 12) 20 1 = 0 from by simp only [cutN]; omega]
    rw [show cutN (p3 * 2 ^ 31) 20 1 = 0 from by simp only [cutN]; omega]
    simp only [Nat.zero_or, Nat.or_zero]
  · simp only [cut_or]
    rw [show cutN (lo) 12 8 = 0 from by simp only [cutN]; omega]
    rw [show cutN (D * 2 ^ 7) 12 8 = 0 from by simp only [cutN]; omega]
    rw [show cutN (p0 * 2 ^ 21) 12 8 = 0 from by simp only [cutN]; omega]
    rw [show cutN (p1 * 2 ^ 20) 12 8 = 0 from by simp only [cutN]; omega]
    rw [show cutN (p2 * 2 ^ 12) 12 8 = p2 from by simp only [cutN]; omega]
    rw [show cutN (p3 * 2 ^ 31) 12 8 = 0 from by simp only [cutN]; omega]
    simp only [Nat.zero_or, Nat.or_zero]
  · simp only [cut_or]
    rw [show cutN (lo) 31 1 = 0 from by simp only [cutN]; omega]
    rw [show cutN (D * 2 ^ 7) 31 1 = 0 from by simp only [cutN]; omega]
    rw [show cutN (p0 * 2 ^ 21) 31 1 = 0 from by simp only [cutN]; omega]
    rw [show cutN (p1 * 2 ^ 20) 31 1 = 0 from by simp only [cutN]; omega]
    rw [show cutN (p2 * 2 ^ 12) 31 1 = 0 from by simp only [cutN]; omega]
    rw [show cutN (p3 * 2 ^ 31) 31 1 = p3 from by simp only [cutN]; omega]
    simp only [Nat.zero_or, Nat.or_zero]

theorem cut_lt (w k b : Nat) : cutN w k b < 2 ^ b := Nat.mod_lt _ (Nat.pow_pos (by decide))
theorem find_some {α : Type} (p : α → Bool) (l : List α) (x : α) (hx : x ∈ l) (hp : p x = true) : ∃ y, l.find? p = some y ∧ p y = true := by
  cases h : l.find? p with
  | none => exact absurd hp (by simpa using List.find?_eq_none.1 h x hx)
  | some y => exact ⟨y, rfl, List.find?_some h⟩

theorem nat32_cast (n : Int) : ((nat32 n : Nat) : Int) = n % 4294967296 := Int.toNat_of_nonneg (by omega)
theorem sx_is (k x : Nat) (n : Int) (h : (x < 2 ^ (k - 1) ∧ (x : Int) = n) ∨ (¬ x < 2 ^ (k - 1) ∧ (x : Int) - ((2 ^ k : Nat) : Int) = n)) : sxN k x = n := by
  unfold sxN
  rcases h with ⟨h, e⟩ | ⟨h, e⟩
  · rw [if_pos h, e]
  · rw [if_neg h, e]
theorem num_3 (n : Int) (h : -2048 ≤ n ∧ n ≤ 2047) : sxN 12 (cutN (nat32 n) 0 12) = n := by
  have e := nat32_cast n
  generalize nat32 n = N at *
  apply sx_is
  simp only [cutN]
  omega
theorem num_4 (n : Int) (h : 0 ≤ n ∧ n ≤ 31) : ((cutN (nat32 n) 0 5 : Nat) : Int) = n := by
  have e := nat32_cast n
  generalize nat32 n = N at *
  simp only [cutN]
  omega
theorem num_7 (n : Int) (h : 0 ≤ n ∧ n ≤ 1048575) : ((cutN (nat32 n) 0 20 : Nat) : Int) = n := by
  have e := nat32_cast n
  generalize nat32 n = N at *
  simp only [cutN]
  omega
theorem num_5 (n : Int) (h : -2048 ≤ n ∧ n ≤ 2047) : sxN 12 (cutN (nat32 n) 0 5 + cutN (nat32 n) 5 7 * 32) = n := by
  have e := nat32_cast n
  generalize nat32 n = N at *
  apply sx_is
  simp only [cutN]
  omega
theorem num_6 (n : Int) (h : -4096 ≤ n ∧ n ≤ 4095) (h2 : n % 2 = 0) : sxN 13 (cutN (nat32 n) 1 4 * 2 + cutN (nat32 n) 5 6 * 32 + cutN (nat32 n) 11 1 * 2048 + cutN (nat32 n) 12 1 * 4096) = n := by
  have e := nat32_cast n
  generalize nat32 n = N at *
  apply sx_is
  simp only [cutN]
  omega
theorem num_8 (n : Int) (h : -1048576 ≤ n ∧ n ≤ 1048575) (h2 : n % 2 = 0) : sxN 21 (cutN (nat32 n) 1 10 * 2 + cutN (nat32 n) 11 1 * 2048 + cutN (nat32 n) 12 8 * 4096 + cutN (nat32 n) 20 1 * 1048576) = n := by
  have e := nat32_cast n
  generalize nat32 n = N at *
  apply sx_is
  simp only [cutN]
  omega

theorem reg_nat {r : Int} (h : 0 ≤ r ∧ r < 32) : r.toNat < 2 ^ 5 ∧ ((r.toNat : Nat) : Int) = r := by
  constructor <;> omega

theorem read_1 (op : Nat) (d a b n : Int) (ho : formN op = 1) (hlo : lowN op < 2 ^ 7) (hmi : midN op < 2 ^ 3) (hhi : highN op < 2 ^ 7) (hd : d = 0) (ha : a = 0) (hb : b = 0) (hn : n = 0) :
    stampN op = seenN (formN op) (encN op d.toNat a.toNat b.toNat (nat32 n)) ∧ readI op (encN op d.toNat a.toNat b.toNat (nat32 n)) = ⟨op, d, a, b, n⟩ := by
  have zd : d.toNat = 0 := by rw [hd]; rfl
  have za : a.toNat = 0 := by rw [ha]; rfl
  have zb : b.toNat = 0 := by rw [hb]; rfl
  obtain ⟨e0, em, eh⟩ := ext_1 (lowN op) (midN op) (highN op) hlo hmi hhi
  have E : encN op d.toNat a.toNat b.toNat (nat32 n) = (lowN op ||| midN op * 2 ^ 12 ||| highN op * 2 ^ 25) ||| 0 * 2 ^ 7 ||| 0 * 2 ^ 15 ||| 0 * 2 ^ 20 ||| (0) := by
    unfold encN wordW stampW
    rw [ho, zd, za, zb, laid_1]
  rw [E]
  generalize (lowN op ||| midN op * 2 ^ 12 ||| highN op * 2 ^ 25) ||| 0 * 2 ^ 7 ||| 0 * 2 ^ 15 ||| 0 * 2 ^ 20 ||| (0) = w at *
  unfold stampN seenN readI
  rw [ho, low7, e0]
  refine ⟨by simp [em, eh], ?_⟩
  have en : numN 1 w = 0 := rfl
  rw [en]
  simp [hasDN, hasAN, hasBN, hd, ha, hb, hn]
theorem read_2 (op : Nat) (d a b n : Int) (ho : formN op = 2) (hlo : lowN op < 2 ^ 7) (hmi : midN op < 2 ^ 3) (hhi : highN op < 2 ^ 7) (hd : 0 ≤ d ∧ d < 32) (ha : 0 ≤ a ∧ a < 32) (hb : 0 ≤ b ∧ b < 32) (hn : n = 0) :
    stampN op = seenN (formN op) (encN op d.toNat a.toNat b.toNat (nat32 n)) ∧ readI op (encN op d.toNat a.toNat b.toNat (nat32 n)) = ⟨op, d, a, b, n⟩ := by
  obtain ⟨d1, d2⟩ := reg_nat hd
  obtain ⟨a1, a2⟩ := reg_nat ha
  obtain ⟨b1, b2⟩ := reg_nat hb
  obtain ⟨e0, em, eh, ed, ea, eb⟩ := ext_2 (lowN op) (midN op) (highN op) d.toNat a.toNat b.toNat hlo hmi hhi d1 a1 b1
  have E : encN op d.toNat a.toNat b.toNat (nat32 n) = (lowN op ||| midN op * 2 ^ 12 ||| highN op * 2 ^ 25) ||| d.toNat * 2 ^ 7 ||| a.toNat * 2 ^ 15 ||| b.toNat * 2 ^ 20 ||| (0) := by
    unfold encN wordW stampW
    rw [ho, laid_2]
  rw [E]
  generalize (lowN op ||| midN op * 2 ^ 12 ||| highN op * 2 ^ 25) ||| d.toNat * 2 ^ 7 ||| a.toNat * 2 ^ 15 ||| b.toNat * 2 ^ 20 ||| (0) = w at *
  unfold stampN seenN readI
  rw [ho, low7, e0]
  refine ⟨by simp [em, eh], ?_⟩
  have en : numN 2 w = 0 := rfl
  rw [en]
  simp [hasDN, hasAN, hasBN, hn, ed, ea, eb]
  omega
theorem read_3 (op : Nat) (d a b n : Int) (ho : formN op = 3) (hlo : lowN op < 2 ^ 7) (hmi : midN op < 2 ^ 3) (hhi : highN op = 0) (hd : 0 ≤ d ∧ d < 32) (ha : 0 ≤ a ∧ a < 32) (hb : b = 0) (hn : -2048 ≤ n ∧ n ≤ 2047) :
    stampN op = seenN (formN op) (encN op d.toNat a.toNat b.toNat (nat32 n)) ∧ readI op (encN op d.toNat a.toNat b.toNat (nat32 n)) = ⟨op, d, a, b, n⟩ := by
  obtain ⟨d1, d2⟩ := reg_nat hd
  obtain ⟨a1, a2⟩ := reg_nat ha
  have zb : b.toNat = 0 := by rw [hb]; rfl
  obtain ⟨e0, em, ed, ea, q0⟩ := ext_3 (lowN op) (midN op) d.toNat a.toNat (cutN (nat32 n) 0 12) hlo hmi d1 a1 (cut_lt _ _ _)
  have E : encN op d.toNat a.toNat b.toNat (nat32 n) = (lowN op ||| midN op * 2 ^ 12 ||| 0 * 2 ^ 25) ||| d.toNat * 2 ^ 7 ||| a.toNat * 2 ^ 15 ||| 0 * 2 ^ 20 ||| (cutN (nat32 n) 0 12 * 2 ^ 20) := by
    unfold encN wordW stampW
    rw [ho, zb, hhi, laid_3]
  rw [E]
  generalize (lowN op ||| midN op * 2 ^ 12 ||| 0 * 2 ^ 25) ||| d.toNat * 2 ^ 7 ||| a.toNat * 2 ^ 15 ||| 0 * 2 ^ 20 ||| (cutN (nat32 n) 0 12 * 2 ^ 20) = w at *
  unfold stampN seenN readI
  rw [ho, low7, e0, hhi]
  refine ⟨by simp [em], ?_⟩
  have en : numN 3 w = n := by
    unfold numN
    simp only [q0]
    exact num_3 n hn
  rw [en]
  simp [hasDN, hasAN, hasBN, hb, ed, ea]
  omega
theorem read_4 (op : Nat) (d a b n : Int) (ho : formN op = 4) (hlo : lowN op < 2 ^ 7) (hmi : midN op < 2 ^ 3) (hhi : highN op < 2 ^ 7) (hd : 0 ≤ d ∧ d < 32) (ha : 0 ≤ a ∧ a < 32) (hb : b = 0) (hn : 0 ≤ n ∧ n ≤ 31) :
    stampN op = seenN (formN op) (encN op d.toNat a.toNat b.toNat (nat32 n)) ∧ readI op (encN op d.toNat a.toNat b.toNat (nat32 n)) = ⟨op, d, a, b, n⟩ := by
  obtain ⟨d1, d2⟩ := reg_nat hd
  obtain ⟨a1, a2⟩ := reg_nat ha
  have zb : b.toNat = 0 := by rw [hb]; rfl
  obtain ⟨e0, em, eh, ed, ea, q0⟩ := ext_4 (lowN op) (midN op) (highN op) d.toNat a.toNat (cutN (nat32 n) 0 5) hlo hmi hhi d1 a1 (cut_lt _ _ _)
  have E : encN op d.toNat a.toNat b.toNat (nat32 n) = (lowN op ||| midN op * 2 ^ 12 ||| highN op * 2 ^ 25) ||| d.toNat * 2 ^ 7 ||| a.toNat * 2 ^ 15 ||| 0 * 2 ^ 20 ||| (cutN (nat32 n) 0 5 * 2 ^ 20) := by
    unfold encN wordW stampW
    rw [ho, zb, laid_4]
  rw [E]
  generalize (lowN op ||| midN op * 2 ^ 12 ||| highN op * 2 ^ 25) ||| d.toNat * 2 ^ 7 ||| a.toNat * 2 ^ 15 ||| 0 * 2 ^ 20 ||| (cutN (nat32 n) 0 5 * 2 ^ 20) = w at *
  unfold stampN seenN readI
  rw [ho, low7, e0]
  refine ⟨by simp [em, eh], ?_⟩
  have en : numN 4 w = n := by
    unfold numN
    simp only [q0]
    exact num_4 n hn
  rw [en]
  simp [hasDN, hasAN, hasBN, hb, ed, ea]
  omega
theorem read_5 (op : Nat) (d a b n : Int) (ho : formN op = 5) (hlo : lowN op < 2 ^ 7) (hmi : midN op < 2 ^ 3) (hhi : highN op = 0) (hd : d = 0) (ha : 0 ≤ a ∧ a < 32) (hb : 0 ≤ b ∧ b < 32) (hn : -2048 ≤ n ∧ n ≤ 2047) :
    stampN op = seenN (formN op) (encN op d.toNat a.toNat b.toNat (nat32 n)) ∧ readI op (encN op d.toNat a.toNat b.toNat (nat32 n)) = ⟨op, d, a, b, n⟩ := by
  have zd : d.toNat = 0 := by rw [hd]; rfl
  obtain ⟨a1, a2⟩ := reg_nat ha
  obtain ⟨b1, b2⟩ := reg_nat hb
  obtain ⟨e0, em, ea, eb, q0, q1⟩ := ext_5 (lowN op) (midN op) a.toNat b.toNat (cutN (nat32 n) 0 5) (cutN (nat32 n) 5 7) hlo hmi a1 b1 (cut_lt _ _ _) (cut_lt _ _ _)
  have E : encN op d.toNat a.toNat b.toNat (nat32 n) = (lowN op ||| midN op * 2 ^ 12 ||| 0 * 2 ^ 25) ||| 0 * 2 ^ 7 ||| a.toNat * 2 ^ 15 ||| b.toNat * 2 ^ 20 ||| (cutN (nat32 n) 0 5 * 2 ^ 7 ||| cutN (nat32 n) 5 7 * 2 ^ 25) := by
    unfold encN wordW stampW
    rw [ho, zd, hhi, laid_5]
  rw [E]
  generalize (lowN op ||| midN op * 2 ^ 12 ||| 0 * 2 ^ 25) ||| 0 * 2 ^ 7 ||| a.toNat * 2 ^ 15 ||| b.toNat * 2 ^ 20 ||| (cutN (nat32 n) 0 5 * 2 ^ 7 ||| cutN (nat32 n) 5 7 * 2 ^ 25) = w at *
  unfold stampN seenN readI
  rw [ho, low7, e0, hhi]
  refine ⟨by simp [em], ?_⟩
  have en : numN 5 w = n := by
    unfold numN
    simp only [q0, q1]
    exact num_5 n hn
  rw [en]
  simp [hasDN, hasAN, hasBN, hd, ea, eb]
  omega
theorem read_6 (op : Nat) (d a b n : Int) (ho : formN op = 6) (hlo : lowN op < 2 ^ 7) (hmi : midN op < 2 ^ 3) (hhi : highN op = 0) (hd : d = 0) (ha : 0 ≤ a ∧ a < 32) (hb : 0 ≤ b ∧ b < 32) (hn : -4096 ≤ n ∧ n ≤ 4095) (hn2 : n % 2 = 0) :
    stampN op = seenN (formN op) (encN op d.toNat a.toNat b.toNat (nat32 n)) ∧ readI op (encN op d.toNat a.toNat b.toNat (nat32 n)) = ⟨op, d, a, b, n⟩ := by
  have zd : d.toNat = 0 := by rw [hd]; rfl
  obtain ⟨a1, a2⟩ := reg_nat ha
  obtain ⟨b1, b2⟩ := reg_nat hb
  obtain ⟨e0, em, ea, eb, q0, q1, q2, q3⟩ := ext_6 (lowN op) (midN op) a.toNat b.toNat (cutN (nat32 n) 1 4) (cutN (nat32 n) 5 6) (cutN (nat32 n) 11 1) (cutN (nat32 n) 12 1) hlo hmi a1 b1 (cut_lt _ _ _) (cut_lt _ _ _) (cut_lt _ _ _) (cut_lt _ _ _)
  have E : encN op d.toNat a.toNat b.toNat (nat32 n) = (lowN op ||| midN op * 2 ^ 12 ||| 0 * 2 ^ 25) ||| 0 * 2 ^ 7 ||| a.toNat * 2 ^ 15 ||| b.toNat * 2 ^ 20 ||| (cutN (nat32 n) 1 4 * 2 ^ 8 ||| cutN (nat32 n) 5 6 * 2 ^ 25 ||| cutN (nat32 n) 11 1 * 2 ^ 7 ||| cutN (nat32 n) 12 1 * 2 ^ 31) := by
    unfold encN wordW stampW
    rw [ho, zd, hhi, laid_6]
  rw [E]
  generalize (lowN op ||| midN op * 2 ^ 12 ||| 0 * 2 ^ 25) ||| 0 * 2 ^ 7 ||| a.toNat * 2 ^ 15 ||| b.toNat * 2 ^ 20 ||| (cutN (nat32 n) 1 4 * 2 ^ 8 ||| cutN (nat32 n) 5 6 * 2 ^ 25 ||| cutN (nat32 n) 11 1 * 2 ^ 7 ||| cutN (nat32 n) 12 1 * 2 ^ 31) = w at *
  unfold stampN seenN readI
  rw [ho, low7, e0, hhi]
  refine ⟨by simp [em], ?_⟩
  have en : numN 6 w = n := by
    unfold numN
    simp only [q0, q1, q2, q3]
    exact num_6 n hn hn2
  rw [en]
  simp [hasDN, hasAN, hasBN, hd, ea, eb]
  omega
theorem read_7 (op : Nat) (d a b n : Int) (ho : formN op = 7) (hlo : lowN op < 2 ^ 7) (hmi : midN op = 0) (hhi : highN op = 0) (hd : 0 ≤ d ∧ d < 32) (ha : a = 0) (hb : b = 0) (hn : 0 ≤ n ∧ n ≤ 1048575) :
    stampN op = seenN (formN op) (encN op d.toNat a.toNat b.toNat (nat32 n)) ∧ readI op (encN op d.toNat a.toNat b.toNat (nat32 n)) = ⟨op, d, a, b, n⟩ := by
  obtain ⟨d1, d2⟩ := reg_nat hd
  have za : a.toNat = 0 := by rw [ha]; rfl
  have zb : b.toNat = 0 := by rw [hb]; rfl
  obtain ⟨e0, ed, q0⟩ := ext_7 (lowN op) d.toNat (cutN (nat32 n) 0 20) hlo d1 (cut_lt _ _ _)
  have E : encN op d.toNat a.toNat b.toNat (nat32 n) = (lowN op ||| 0 * 2 ^ 12 ||| 0 * 2 ^ 25) ||| d.toNat * 2 ^ 7 ||| 0 * 2 ^ 15 ||| 0 * 2 ^ 20 ||| (cutN (nat32 n) 0 20 * 2 ^ 12) := by
    unfold encN wordW stampW
    rw [ho, za, zb, hmi, hhi, laid_7]
  rw [E]
  generalize (lowN op ||| 0 * 2 ^ 12 ||| 0 * 2 ^ 25) ||| d.toNat * 2 ^ 7 ||| 0 * 2 ^ 15 ||| 0 * 2 ^ 20 ||| (cutN (nat32 n) 0 20 * 2 ^ 12) = w at *
  unfold stampN seenN readI
  rw [ho, low7, e0, hmi, hhi]
  refine ⟨by simp, ?_⟩
  have en : numN 7 w = n := by
    unfold numN
    simp only [q0]
    exact num_7 n hn
  rw [en]
  simp [hasDN, hasAN, hasBN, ha, hb, ed]
  omega
theorem read_8 (op : Nat) (d a b n : Int) (ho : formN op = 8) (hlo : lowN op < 2 ^ 7) (hmi : midN op = 0) (hhi : highN op = 0) (hd : 0 ≤ d ∧ d < 32) (ha : a = 0) (hb : b = 0) (hn : -1048576 ≤ n ∧ n ≤ 1048575) (hn2 : n % 2 = 0) :
    stampN op = seenN (formN op) (encN op d.toNat a.toNat b.toNat (nat32 n)) ∧ readI op (encN op d.toNat a.toNat b.toNat (nat32 n)) = ⟨op, d, a, b, n⟩ := by
  obtain ⟨d1, d2⟩ := reg_nat hd
  have za : a.toNat = 0 := by rw [ha]; rfl
  have zb : b.toNat = 0 := by rw [hb]; rfl
  obtain ⟨e0, ed, q0, q1, q2, q3⟩ := ext_8 (lowN op) d.toNat (cutN (nat32 n) 1 10) (cutN (nat32 n) 11 1) (cutN (nat32 n) 12 8) (cutN (nat32 n) 20 1) hlo d1 (cut_lt _ _ _) (cut_lt _ _ _) (cut_lt _ _ _) (cut_lt _ _ _)
  have E : encN op d.toNat a.toNat b.toNat (nat32 n) = (lowN op ||| 0 * 2 ^ 12 ||| 0 * 2 ^ 25) ||| d.toNat * 2 ^ 7 ||| 0 * 2 ^ 15 ||| 0 * 2 ^ 20 ||| (cutN (nat32 n) 1 10 * 2 ^ 21 ||| cutN (nat32 n) 11 1 * 2 ^ 20 ||| cutN (nat32 n) 12 8 * 2 ^ 12 ||| cutN (nat32 n) 20 1 * 2 ^ 31) := by
    unfold encN wordW stampW
    rw [ho, za, zb, hmi, hhi, laid_8]
  rw [E]
  generalize (lowN op ||| 0 * 2 ^ 12 ||| 0 * 2 ^ 25) ||| d.toNat * 2 ^ 7 ||| 0 * 2 ^ 15 ||| 0 * 2 ^ 20 ||| (cutN (nat32 n) 1 10 * 2 ^ 21 ||| cutN (nat32 n) 11 1 * 2 ^ 20 ||| cutN (nat32 n) 12 8 * 2 ^ 12 ||| cutN (nat32 n) 20 1 * 2 ^ 31) = w at *
  unfold stampN seenN readI
  rw [ho, low7, e0, hmi, hhi]
  refine ⟨by simp, ?_⟩
  have en : numN 8 w = n := by
    unfold numN
    simp only [q0, q1, q2, q3]
    exact num_8 n hn hn2
  rw [en]
  simp [hasDN, hasAN, hasBN, ha, hb, ed]
  omega

theorem op_bounds : ((List.range 31).all fun op => decide (lowN op < 2 ^ 7) && decide (midN op < 2 ^ 3) && decide (highN op < 2 ^ 7)) = true := by decide
theorem op_lt {op : Nat} (h : op < 31) : lowN op < 2 ^ 7 ∧ midN op < 2 ^ 3 ∧ highN op < 2 ^ 7 := by
  have := List.all_eq_true.1 op_bounds op (List.mem_range.2 h)
  simp at this
  exact ⟨this.1.1, this.1.2, this.2⟩
theorem op_forms : ((List.range 31).all fun op => op == 0 || decide (1 ≤ formN op) && decide (formN op ≤ 8) && (decide (formN op ≤ 6) || midN op == 0) && (formN op == 1 || formN op == 2 || formN op == 4 || highN op == 0)) = true := by decide
theorem op_form {op : Nat} (h0 : 1 ≤ op) (h : op < 31) : (1 ≤ formN op ∧ formN op ≤ 8) ∧ (6 < formN op → midN op = 0) ∧ ((formN op ≠ 1 ∧ formN op ≠ 2 ∧ formN op ≠ 4) → highN op = 0) := by
  have := List.all_eq_true.1 op_forms op (List.mem_range.2 h)
  simp at this
  omega
theorem op_aparts : ((List.range 31).all fun p => (List.range 31).all fun q => p == 0 || q == 0 || p == q || !(lowN p == lowN q) || decide (formN p ≤ 6) && decide (formN q ≤ 6) && (!(midN p == midN q) || (formN p == 1 || formN p == 2 || formN p == 4) && (formN q == 1 || formN q == 2 || formN q == 4) && !(highN p == highN q))) = true := by decide
theorem op_apart {p q w : Nat} (p0 : 1 ≤ p) (p1 : p < 31) (q0 : 1 ≤ q) (q1 : q < 31) (hp : stampN p = seenN (formN p) w) (hq : stampN q = seenN (formN q) w) : p = q := by
  have h := List.all_eq_true.1 (List.all_eq_true.1 op_aparts p (List.mem_range.2 p1)) q (List.mem_range.2 q1)
  have fp := op_form p0 p1
  have fq := op_form q0 q1
  simp only [stampN, seenN, Prod.mk.injEq] at hp hq
  obtain ⟨a1, a2, a3⟩ := hp
  obtain ⟨b1, b2, b3⟩ := hq
  simp only [Bool.or_eq_true, Bool.and_eq_true, beq_iff_eq, decide_eq_true_eq, Bool.not_eq_true', beq_eq_false_iff_ne, ne_eq] at h a2 a3 b2 b3
  rcases h with ((((h | h) | h) | h) | ⟨⟨h1, h2⟩, h3⟩)
  · omega
  · omega
  · exact h
  · omega
  · rw [if_pos (by omega)] at a2 b2
    rcases h3 with h3 | ⟨⟨h3, h4⟩, h5⟩
    · omega
    · rw [if_pos h3] at a3
      rw [if_pos h4] at b3
      omega

theorem reg_ok {had : Bool} {r : Int} (h : regOk had r = true) : (had = true ∧ 0 ≤ r ∧ r < 32) ∨ (had = false ∧ r = 0) := by
  cases had <;> simp_all [regOk]

theorem read_word (i : Ins) (h : mayI i = true) : stampN i.op.toNat = seenN (formN i.op.toNat) (wordI i) ∧ readI i.op.toNat (wordI i) = i := by
  obtain ⟨op, d, a, b, n⟩ := i
  unfold mayI at h
  simp only [Bool.and_eq_true, decide_eq_true_eq] at h
  obtain ⟨⟨⟨⟨⟨h1, h2⟩, hd⟩, ha⟩, hb⟩, hn⟩ := h
  obtain ⟨k, rfl⟩ := Int.eq_ofNat_of_zero_le (show 0 ≤ op by omega)
  rw [Int.toNat_natCast] at hd ha hb hn
  unfold wordI
  simp only [Int.toNat_natCast]
  obtain ⟨l1, l2, l3⟩ := op_lt (show k < 31 by omega)
  obtain ⟨⟨f1, f2⟩, f3, f4⟩ := op_form (show 1 ≤ k by omega) (show k < 31 by omega)
  have hf : formN k = 1 ∨ formN k = 2 ∨ formN k = 3 ∨ formN k = 4 ∨ formN k = 5 ∨ formN k = 6 ∨ formN k = 7 ∨ formN k = 8 := by omega
  rcases hf with e | e | e | e | e | e | e | e <;> rw [e] at hd ha hb hn <;> simp [hasDN, hasAN, hasBN, regOk, numOk] at hd ha hb hn
  · exact read_1 k d a b n e l1 l2 l3 hd ha hb hn
  · exact read_2 k d a b n e l1 l2 l3 hd ha hb hn
  · exact read_3 k d a b n e l1 l2 (f4 (by omega)) hd ha hb hn
  · exact read_4 k d a b n e l1 l2 l3 hd ha hb hn
  · exact read_5 k d a b n e l1 l2 (f4 (by omega)) hd ha hb hn
  · exact read_6 k d a b n e l1 l2 (f4 (by omega)) hd ha hb hn.1 hn.2
  · exact read_7 k d a b n e l1 (f3 (by omega)) (f4 (by omega)) hd ha hb hn
  · exact read_8 k d a b n e l1 (f3 (by omega)) (f4 (by omega)) hd ha hb hn.1 hn.2

theorem word_apart (i j : Ins) (hi : mayI i = true) (hj : mayI j = true) (h : wordI i = wordI j) : i = j := by
  obtain ⟨a1, a2⟩ := read_word i hi
  obtain ⟨b1, b2⟩ := read_word j hj
  have bi : 1 ≤ i.op ∧ i.op ≤ 30 := by unfold mayI at hi; simp at hi; exact ⟨hi.1.1.1.1.1, hi.1.1.1.1.2⟩
  have bj : 1 ≤ j.op ∧ j.op ≤ 30 := by unfold mayI at hj; simp at hj; exact ⟨hj.1.1.1.1.1, hj.1.1.1.1.2⟩
  rw [← h] at b1 b2
  have e := op_apart (show 1 ≤ i.op.toNat by omega) (by omega) (show 1 ≤ j.op.toNat by omega) (by omega) a1 b1
  rw [← a2, ← b2, e]
theorem enc_some {i : Ins} {w : Nat} (h : encI i = some w) : mayI i = true ∧ wordI i = w := by
  unfold encI at h
  split at h
  · next g => exact ⟨g, by simpa using h⟩
  · cases h
theorem hit_some {op w : Nat} (h : hitI op w = true) : encI (readI op w) = some w := by
  unfold hitI at h
  simp at h
  exact h.2
theorem dec_enc (i : Ins) (w : Nat) (h : encI i = some w) : decI w = some i := by
  obtain ⟨hm, rfl⟩ := enc_some h
  obtain ⟨a1, a2⟩ := read_word i hm
  have bi : 1 ≤ i.op ∧ i.op ≤ 30 := by unfold mayI at hm; simp at hm; exact ⟨hm.1.1.1.1.1, hm.1.1.1.1.2⟩
  have hh : hitI i.op.toNat (wordI i) = true := by
    unfold hitI
    rw [a2, h, a1]
    simp
  obtain ⟨op, e, hp⟩ := find_some (fun op => hitI op (wordI i)) (List.range 31) i.op.toNat (List.mem_range.2 (by omega)) hh
  obtain ⟨hm2, hw⟩ := enc_some (hit_some hp)
  unfold decI
  rw [e]
  simp [word_apart _ _ hm2 hm hw]
theorem enc_dec (i : Ins) (w : Nat) (h : decI w = some i) : encI i = some w := by
  unfold decI at h
  cases e : (List.range 31).find? fun op => hitI op w with
  | none => rw [e] at h; cases h
  | some op =>
    rw [e] at h
    obtain rfl := Option.some.inj h
    exact hit_some (List.find?_some (p := fun op => hitI op w) e)
theorem enc_apart (i j : Ins) (v w : Nat) (hi : encI i = some v) (hj : encI j = some w) : v = w ↔ i = j := by
  constructor
  · rintro rfl
    obtain ⟨a, b⟩ := enc_some hi
    obtain ⟨c, d⟩ := enc_some hj
    exact word_apart i j a c (b.trans d.symm)
  · rintro rfl
    rw [hi] at hj
    exact Option.some.inj hj
end Go.Proofs.Ytmedhibjkbahpaa
