/-
  The document's disk through the calls of the law DiskRenames.
-/
import Derived.Test.YtnjnlcmpfnabiaaHa
namespace Go.Proofs.Ytnjnlcmpfnabiaa
open Go.RowKit Go.Maps
set_option linter.unusedVariables false
set_option linter.unusedSimpArgs false
set_option maxRecDepth 100000

def renR1 (o : ByteArray) : RD := ⟨[⟨[], 0⟩], [], [[(o, numV 0)]], 1048576, false, false, -1, 1⟩
def renR2 (o : ByteArray) (xs : List Value) : RD := ⟨[⟨xs, 0⟩], [], [[(o, numV 0)]], 1048576, false, false, -1, 2⟩
def renR3 (o : ByteArray) (xs : List Value) : RD := ⟨[⟨xs, xs.length⟩], [], [[(o, numV 0)]], 1048576, false, false, -1, 3⟩
def renR4 (o : ByteArray) (xs : List Value) : RD := ⟨[⟨xs, xs.length⟩], [(o, numV 0)], [], 1048576, false, false, -1, 4⟩
def renR5 (o t : ByteArray) (xs : List Value) : RD := ⟨[⟨xs, xs.length⟩, ⟨[], 0⟩], [(o, numV 0)], [[(t, numV 1)]], 1048576, false, false, -1, 5⟩
def renR6 (o t : ByteArray) (xs ys : List Value) : RD := ⟨[⟨xs, xs.length⟩, ⟨ys, 0⟩], [(o, numV 0)], [[(t, numV 1)]], 1048576, false, false, -1, 6⟩
def renR7 (o t : ByteArray) (xs ys : List Value) : RD := ⟨[⟨xs, xs.length⟩, ⟨ys, ys.length⟩], [(o, numV 0)], [[(t, numV 1)]], 1048576, false, false, -1, 7⟩
def renR8 (o t : ByteArray) (xs ys : List Value) : RD := ⟨[⟨xs, xs.length⟩, ⟨ys, ys.length⟩], [(o, numV 0)], [[(t, numV 1)], [(t, .pointer none), (o, numV 1)]], 1048576, false, false, -1, 8⟩
def renR9 (o t : ByteArray) (xs ys : List Value) : RD := ⟨[⟨xs, xs.length⟩, ⟨ys, ys.length⟩], [(o, numV 1)], [], 1048576, false, false, -1, 9⟩
/-- One file with that name and no other. -/
def renC1 (o : ByteArray) (xs : List Value) (n : Nat) : RD := ⟨[⟨xs, xs.length⟩], [(o, numV 0)], [], 1048576, false, false, -1, n⟩
def renC2 (o t : ByteArray) (xs ys : List Value) (n : Nat) : RD := ⟨[⟨xs, xs.length⟩, ⟨ys, ys.length⟩], [(o, numV 0), (t, numV 1)], [], 1048576, false, false, -1, n⟩
theorem cutF_all (zs : List Int) (i : Nat) (xs : List Value) : RD.cutF zs i ⟨xs, xs.length⟩ = ⟨xs, xs.length⟩ := by
  unfold RD.cutF
  have e : leftN xs.length xs.length (keptZ zs i) = xs.length := by unfold leftN; omega
  show Fl.mk (xs.take (leftN xs.length xs.length (keptZ zs i))) (leftN xs.length xs.length (keptZ zs i)) = _
  rw [e, List.take_length]
section
variable (o t : ByteArray) (ho : nameOk o = true) (ht : nameOk t = true) (hot : ltS o t = true) (xs ys : List Value) (hx : xs.length ≤ 300) (hy : ys.length ≤ 300)
theorem ren1 (ho : nameOk o = true) : (RD.fresh 1048576).create o = (0, renR1 o) := by
  simp [RD.fresh, renR1, RD.create, RD.begE, RD.on, RD.powered, RD.now, layAll, lookP, hasP, ho]
  omega
theorem ren2 (ho : nameOk o = true) (hx : xs.length ≤ 300) : (renR1 o).append o xs = (0, renR2 o xs) := by
  have i := orders_S.irr o
  have l1 : ¬ 1048576 < xs.length := by omega
  have l2 : ¬ (1048576 : Int) < (xs.length : Int) := by omega
  simp [l1, l2, renR1, renR2, RD.append, RD.witE, RD.begE, RD.on, RD.powered, RD.now, RD.get, RD.file, RD.num, RD.used, sumLen, layAll, layP, layOne, putP, lookP, hasP, numV, numOf, ho, i]
theorem ren3 (ho : nameOk o = true) : (renR2 o xs).sync o = (0, renR3 o xs) := by
  have i := orders_S.irr o
  simp [renR2, renR3, RD.sync, RD.witE, RD.begE, RD.on, RD.powered, RD.now, RD.get, RD.file, RD.num, layAll, layP, layOne, putP, lookP, hasP, numV, numOf, ho, i]
theorem ren4 : (renR3 o xs).syncDir = (0, renR4 o xs) := by
  simp [renR3, renR4, RD.syncDir, RD.on, RD.powered, RD.now, layAll, layP, layOne, putP, numV]
theorem ren5 (ht : nameOk t = true) : (renR4 o xs).create t = (0, renR5 o t xs) := by
  simp [renR4, renR5, RD.create, RD.begE, RD.on, RD.powered, RD.now, layAll, ht]
theorem ren6 (ht : nameOk t = true) (hot : ltS o t = true) (hx : xs.length ≤ 300) (hy : ys.length ≤ 300) : (renR5 o t xs).append t ys = (0, renR6 o t xs ys) := by
  have i := orders_S.irr o
  have j := orders_S.irr t
  have k := orders_S.asym hot
  have l1 : ¬ 1048576 < ys.length := by omega
  have l2 : ¬ (1048576 : Int) < (xs.length : Int) + (ys.length : Int) := by omega
  simp [l1, l2, renR5, renR6, RD.append, RD.witE, RD.begE, RD.on, RD.powered, RD.now, RD.get, RD.file, RD.num, RD.used, sumLen, layAll, layP, layOne, putP, lookP, hasP, numV, numOf, ht, i, j, k, hot]
theorem ren7 (ht : nameOk t = true) (hot : ltS o t = true) : (renR6 o t xs ys).sync t = (0, renR7 o t xs ys) := by
  have i := orders_S.irr o
  have j := orders_S.irr t
  have k := orders_S.asym hot
  simp [renR6, renR7, RD.sync, RD.witE, RD.begE, RD.on, RD.powered, RD.now, RD.get, RD.file, RD.num, layAll, layP, layOne, putP, lookP, hasP, numV, numOf, ht, i, j, k, hot]
theorem ren8 (ho : nameOk o = true) (ht : nameOk t = true) (hot : ltS o t = true) : (renR7 o t xs ys).rename t o = (0, renR8 o t xs ys) := by
  have i := orders_S.irr o
  have j := orders_S.irr t
  have k := orders_S.asym hot
  simp [renR7, renR8, RD.rename, RD.witE, RD.begE, RD.on, RD.powered, RD.now, RD.get, RD.file, RD.num, layAll, layP, layOne, putP, lookP, hasP, numV, numOf, ho, ht, i, j, k, hot]
theorem ren9 (hot : ltS o t = true) : (renR8 o t xs ys).syncDir = (0, renR9 o t xs ys) := by
  have i := orders_S.irr o
  have j := orders_S.irr t
  have k := orders_S.asym hot
  simp [renR8, renR9, RD.syncDir, RD.on, RD.powered, RD.now, layAll, layP, layOne, putP, dropP, numV, i, j, k, hot]
theorem renc9 (dir : Int) (zs : List Int) : (renR9 o t xs ys).crash dir zs = renC1 o ys 9 := by
  simp [renR9, renC1, RD.crash, RD.left, RD.keep, layAll, numV, numOf, List.range_succ, RD.file, cutF_all]
theorem renc8a (dir : Int) (zs : List Int) (hd : 2 ≤ dir) (hot : ltS o t = true) : (renR8 o t xs ys).crash dir zs = renC1 o ys 8 := by
  have i := orders_S.irr o
  have j := orders_S.irr t
  have k := orders_S.asym hot
  have hl : (renR8 o t xs ys).left dir = [(o, numV 1)] := by
    unfold RD.left renR8
    rw [List.take_of_length_le (by simp; omega)]
    simp [layAll, layP, layOne, putP, dropP, numV, i, j, k, hot]
  unfold RD.crash RD.keep
  rw [hl]
  simp [renR8, renC1, numV, numOf, List.range_succ, RD.file, cutF_all]
theorem renc8b (dir : Int) (zs : List Int) (hd : dir ≤ 0) : (renR8 o t xs ys).crash dir zs = renC1 o xs 8 := by
  have hl : (renR8 o t xs ys).left dir = [(o, numV 0)] := by
    unfold RD.left renR8
    rw [show dir.toNat = 0 by omega]
    rfl
  unfold RD.crash RD.keep
  rw [hl]
  simp [renR8, renC1, numV, numOf, List.range_succ, RD.file, cutF_all]
theorem renc8c (zs : List Int) (hot : ltS o t = true) : (renR8 o t xs ys).crash 1 zs = renC2 o t xs ys 8 := by
  have i := orders_S.irr o
  have j := orders_S.irr t
  have k := orders_S.asym hot
  have hl : (renR8 o t xs ys).left 1 = [(o, numV 0), (t, numV 1)] := by
    unfold RD.left renR8
    simp [layAll, layP, layOne, putP, dropP, numV, i, j, k, hot]
  unfold RD.crash RD.keep
  rw [hl]
  simp [renR8, renC2, numV, numOf, List.range_succ, RD.file, cutF_all]
theorem rend1 (n : Nat) : hasP ltS (renC1 o xs n).now o = true ∧ (renC1 o xs n).get o = ⟨xs, xs.length⟩ := by
  have i := orders_S.irr o
  constructor <;> simp [renC1, RD.now, RD.get, RD.num, RD.file, layAll, lookP, hasP, numV, numOf, i]
theorem rend1t (hot : ltS o t = true) (n : Nat) : hasP ltS (renC1 o xs n).now t = false := by
  simp [renC1, RD.now, layAll, lookP, hasP, numV, hot]
theorem rend2 (n : Nat) : hasP ltS (renC2 o t xs ys n).now o = true ∧ (renC2 o t xs ys n).get o = ⟨xs, xs.length⟩ := by
  have i := orders_S.irr o
  constructor <;> simp [renC2, RD.now, RD.get, RD.num, RD.file, layAll, lookP, hasP, numV, numOf, i]
end
end Go.Proofs.Ytnjnlcmpfnabiaa
