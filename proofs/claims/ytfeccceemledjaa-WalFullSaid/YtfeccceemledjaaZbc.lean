/-
  The document's disk through what a log does to it: one file, added to; laid anew.
-/
import Derived.Test.YtfeccceemledjaaZbb
namespace Go.Proofs.Ytfeccceemledjaa
open Go.RowKit Go.Maps
set_option linter.unusedVariables false
set_option linter.unusedSimpArgs false
set_option maxRecDepth 100000

/-- One file, sure by name. -/
def logS (o : ByteArray) (xs : List Value) (s : Nat) (q : Int) (fl : Bool) (n : Nat) : RD := ⟨[⟨xs, s⟩], [(o, numV 0)], [], q, fl, false, -1, n⟩
/-- Another one beside it, its name not sure. -/
def logC (o t : ByteArray) (xs : List Value) (s : Nat) (ys : List Value) (s2 : Nat) (q : Int) (fl : Bool) (n : Nat) : RD := ⟨[⟨xs, s⟩, ⟨ys, s2⟩], [(o, numV 0)], [[(t, numV 1)]], q, fl, false, -1, n⟩
/-- The other one in its place. -/
def logR (o t : ByteArray) (xs : List Value) (s : Nat) (ys : List Value) (s2 : Nat) (q : Int) (fl : Bool) (n : Nat) : RD := ⟨[⟨xs, s⟩, ⟨ys, s2⟩], [(o, numV 0)], [[(t, numV 1)], [(t, .pointer none), (o, numV 1)]], q, fl, false, -1, n⟩
def logE (o : ByteArray) (xs : List Value) (s : Nat) (ys : List Value) (s2 : Nat) (q : Int) (fl : Bool) (n : Nat) : RD := ⟨[⟨xs, s⟩, ⟨ys, s2⟩], [(o, numV 1)], [], q, fl, false, -1, n⟩
/-- The other one gone again. -/
def logF (o t : ByteArray) (xs : List Value) (s : Nat) (ys : List Value) (s2 : Nat) (q : Int) (fl : Bool) (n : Nat) : RD := ⟨[⟨xs, s⟩, ⟨ys, s2⟩], [(o, numV 0)], [[(t, numV 1)], [(t, .pointer none)]], q, fl, false, -1, n⟩
section
variable (o t : ByteArray) (ho : nameOk o = true) (ht : nameOk t = true) (hot : ltS o t = true) (xs ys b : List Value) (s s2 n : Nat) (q : Int) (fl : Bool)
theorem logNew (ho : nameOk o = true) : (RD.fresh q).create o = (0, ⟨[⟨[], 0⟩], [], [[(o, numV 0)]], max q 0, false, false, -1, 1⟩) ∧ RD.syncDir ⟨[⟨[], 0⟩], [], [[(o, numV 0)]], max q 0, false, false, -1, 1⟩ = (0, logS o [] 0 (max q 0) false 2) := by
  have i := orders_S.irr o
  constructor
  · simp [RD.fresh, RD.create, RD.begE, RD.on, RD.powered, RD.now, layAll, lookP, hasP, ho]
  · simp [logS, RD.syncDir, RD.on, RD.powered, RD.now, layAll, layP, layOne, putP, numV]
theorem logAdd (ho : nameOk o = true) (h1 : xs.length + b.length ≤ 1048576) (h2 : (xs.length : Int) + (b.length : Int) ≤ q) : (logS o xs s q fl n).append o b = (0, logS o (xs ++ b) s q fl (n + 1)) := by
  have i := orders_S.irr o
  have l1 : ¬ 1048576 < xs.length + b.length := by omega
  have l2 : ¬ q < (xs.length : Int) + (b.length : Int) := by omega
  simp [l1, l2, logS, RD.append, RD.witE, RD.begE, RD.on, RD.powered, RD.now, RD.get, RD.file, RD.num, RD.used, sumLen, layAll, layP, layOne, putP, lookP, hasP, numV, numOf, ho, i]
theorem logAddF (ho : nameOk o = true) (h1 : xs.length + b.length ≤ 1048576) (h2 : q < (xs.length : Int) + (b.length : Int)) : (logS o xs s q fl n).append o b = (4, logS o xs s q true (n + 1)) := by
  have i := orders_S.irr o
  have l1 : ¬ 1048576 < xs.length + b.length := by omega
  simp [l1, h2, logS, RD.append, RD.witE, RD.begE, RD.on, RD.powered, RD.now, RD.get, RD.file, RD.num, RD.used, sumLen, layAll, layP, layOne, putP, lookP, hasP, numV, numOf, ho, i]
theorem logMake (ht : nameOk t = true) : (logS o xs s q fl n).create t = (0, logC o t xs s [] 0 q fl (n + 1)) := by
  simp [logS, logC, RD.create, RD.begE, RD.on, RD.powered, RD.now, layAll, ht]
theorem logPut (ht : nameOk t = true) (hot : ltS o t = true) (h1 : ys.length + b.length ≤ 1048576) (h2 : (xs.length : Int) + ((ys.length : Int) + (b.length : Int)) ≤ q) : (logC o t xs s ys s2 q fl n).append t b = (0, logC o t xs s (ys ++ b) s2 q fl (n + 1)) := by
  have i := orders_S.irr o
  have j := orders_S.irr t
  have k := orders_S.asym hot
  have l1 : ¬ 1048576 < ys.length + b.length := by omega
  have l2 : ¬ q < (xs.length : Int) + (ys.length : Int) + (b.length : Int) := by omega
  simp [l1, l2, logC, RD.append, RD.witE, RD.begE, RD.on, RD.powered, RD.now, RD.get, RD.file, RD.num, RD.used, sumLen, layAll, layP, layOne, putP, lookP, hasP, numV, numOf, ht, i, j, k, hot]
theorem logPutF (ht : nameOk t = true) (hot : ltS o t = true) (h1 : ys.length + b.length ≤ 1048576) (h2 : q < (xs.length : Int) + ((ys.length : Int) + (b.length : Int))) : (logC o t xs s ys s2 q fl n).append t b = (4, logC o t xs s ys s2 q true (n + 1)) := by
  have i := orders_S.irr o
  have j := orders_S.irr t
  have k := orders_S.asym hot
  have l1 : ¬ 1048576 < ys.length + b.length := by omega
  have l2 : q < (xs.length : Int) + (ys.length : Int) + (b.length : Int) := by omega
  simp [l1, l2, logC, RD.append, RD.witE, RD.begE, RD.on, RD.powered, RD.now, RD.get, RD.file, RD.num, RD.used, sumLen, layAll, layP, layOne, putP, lookP, hasP, numV, numOf, ht, i, j, k, hot]
theorem logSync (ht : nameOk t = true) (hot : ltS o t = true) : (logC o t xs s ys s2 q fl n).sync t = (0, logC o t xs s ys ys.length q fl (n + 1)) := by
  have i := orders_S.irr o
  have j := orders_S.irr t
  have k := orders_S.asym hot
  simp [logC, RD.sync, RD.witE, RD.begE, RD.on, RD.powered, RD.now, RD.get, RD.file, RD.num, layAll, layP, layOne, putP, lookP, hasP, numV, numOf, ht, i, j, k, hot]
theorem logName (ho : nameOk o = true) (ht : nameOk t = true) (hot : ltS o t = true) : (logC o t xs s ys s2 q fl n).rename t o = (0, logR o t xs s ys s2 q fl (n + 1)) := by
  have i := orders_S.irr o
  have j := orders_S.irr t
  have k := orders_S.asym hot
  simp [logC, logR, RD.rename, RD.witE, RD.begE, RD.on, RD.powered, RD.now, RD.get, RD.file, RD.num, layAll, layP, layOne, putP, lookP, hasP, numV, numOf, ho, ht, i, j, k, hot]
theorem logDir (hot : ltS o t = true) : (logR o t xs s ys s2 q fl n).syncDir = (0, logE o xs s ys s2 q fl (n + 1)) := by
  have i := orders_S.irr o
  have j := orders_S.irr t
  have k := orders_S.asym hot
  simp [logR, logE, RD.syncDir, RD.on, RD.powered, RD.now, layAll, layP, layOne, putP, dropP, numV, i, j, k, hot]
theorem logGone (ht : nameOk t = true) (hot : ltS o t = true) : (logC o t xs s ys s2 q fl n).remove t = (0, logF o t xs s ys s2 q fl (n + 1)) := by
  have i := orders_S.irr o
  have j := orders_S.irr t
  have k := orders_S.asym hot
  simp [logC, logF, RD.remove, RD.witE, RD.begE, RD.on, RD.powered, RD.now, RD.get, RD.file, RD.num, layAll, layP, layOne, putP, lookP, hasP, numV, numOf, ht, i, j, k, hot]
theorem logS_sees : (logS o xs s q fl n).now = [(o, numV 0)] ∧ hasP ltS (logS o xs s q fl n).now o = true ∧ (logS o xs s q fl n).get o = ⟨xs, s⟩ ∧ (logS o xs s q fl n).off = false ∧ (logS o xs s q fl n).size = n + 2 := by
  have i := orders_S.irr o
  refine ⟨rfl, ?_, ?_, rfl, rfl⟩
  · simp [logS, RD.now, layAll, lookP, hasP, i]
  · simp [logS, RD.now, RD.get, RD.file, RD.num, layAll, lookP, numV, numOf, i]
theorem logE_sees : (logE o xs s ys s2 q fl n).now = [(o, numV 1)] ∧ hasP ltS (logE o xs s ys s2 q fl n).now o = true ∧ (logE o xs s ys s2 q fl n).get o = ⟨ys, s2⟩ ∧ (logE o xs s ys s2 q fl n).off = false ∧ (logE o xs s ys s2 q fl n).size = n + 3 := by
  have i := orders_S.irr o
  refine ⟨rfl, ?_, ?_, rfl, rfl⟩
  · simp [logE, RD.now, layAll, lookP, hasP, i]
  · simp [logE, RD.now, RD.get, RD.file, RD.num, layAll, lookP, numV, numOf, i]
theorem logF_sees (hot : ltS o t = true) : (logF o t xs s ys s2 q fl n).now = [(o, numV 0)] ∧ hasP ltS (logF o t xs s ys s2 q fl n).now o = true ∧ (logF o t xs s ys s2 q fl n).get o = ⟨xs, s⟩ ∧ (logF o t xs s ys s2 q fl n).off = false ∧ (logF o t xs s ys s2 q fl n).size = n + 7 := by
  have i := orders_S.irr o
  have j := orders_S.irr t
  have k := orders_S.asym hot
  have h : (logF o t xs s ys s2 q fl n).now = [(o, numV 0)] := by simp [logF, RD.now, layAll, layP, layOne, putP, dropP, numV, i, j, k, hot]
  refine ⟨h, ?_, ?_, rfl, rfl⟩
  · rw [h]; simp [lookP, hasP, i]
  · unfold RD.get RD.num
    rw [h]
    simp [logF, RD.file, lookP, numV, numOf, i]
/-- All the bytes of some pieces. -/
def flatV : List (List Nat) → List Value
  | [] => []
  | f :: fs => cellsZ (asZ f) ++ flatV fs
theorem logLay (ht : nameOk t = true) (hot : ltS o t = true) : ∀ (fs : List (List Nat)) (ys : List Value) (n : Nat), ys.length + (flatV fs).length ≤ 1048576 → (xs.length : Int) + ((ys.length : Int) + ((flatV fs).length : Int)) ≤ q →
    RD.writeL (logC o t xs s ys 0 q fl n) t fs = (0, logC o t xs s (ys ++ flatV fs) 0 q fl (n + fs.length)) := by
  intro fs
  induction fs with
  | nil => intro ys n _ _; unfold RD.writeL flatV; rw [List.append_nil]; rfl
  | cons f fs ih =>
    intro ys n h1 h2
    have e : flatV (f :: fs) = cellsZ (asZ f) ++ flatV fs := rfl
    rw [e, List.length_append] at h1 h2
    have hp := logPut o t xs ys (cellsZ (asZ f)) s 0 n q fl ht hot (by omega) (by omega)
    show (if ((logC o t xs s ys 0 q fl n).append t (cellsZ (asZ f))).1 = 0 then RD.writeL ((logC o t xs s ys 0 q fl n).append t (cellsZ (asZ f))).2 t fs else _) = _
    rw [hp, if_pos rfl]
    rw [ih (ys ++ cellsZ (asZ f)) (n + 1) (by rw [List.length_append]; omega) (by rw [List.length_append]; omega), e, List.append_assoc, List.length_cons]
    congr 2
    omega
theorem logLayF (ht : nameOk t = true) (hot : ltS o t = true) : ∀ (fs : List (List Nat)) (ys : List Value) (n : Nat), ys.length + (flatV fs).length ≤ 1048576 → (xs.length : Int) + (ys.length : Int) ≤ q → q < (xs.length : Int) + ((ys.length : Int) + ((flatV fs).length : Int)) →
    ∃ zs m, RD.writeL (logC o t xs s ys 0 q fl n) t fs = (4, logC o t xs s zs 0 q true m) ∧ m ≤ n + fs.length := by
  intro fs
  induction fs with
  | nil => intro ys n _ h1 h2; simp only [flatV, List.length_nil] at h2; omega
  | cons f fs ih =>
    intro ys n h1 h2 h3
    have e : flatV (f :: fs) = cellsZ (asZ f) ++ flatV fs := rfl
    rw [e, List.length_append] at h1 h3
    by_cases h4 : q < (xs.length : Int) + ((ys.length : Int) + ((cellsZ (asZ f)).length : Int))
    · have hp := logPutF o t xs ys (cellsZ (asZ f)) s 0 n q fl ht hot (by omega) h4
      refine ⟨ys, n + 1, ?_, by rw [List.length_cons]; omega⟩
      show (if ((logC o t xs s ys 0 q fl n).append t (cellsZ (asZ f))).1 = 0 then RD.writeL ((logC o t xs s ys 0 q fl n).append t (cellsZ (asZ f))).2 t fs else (logC o t xs s ys 0 q fl n).append t (cellsZ (asZ f))) = _
      rw [hp, if_neg (show ¬ (4 : Int) = 0 by decide)]
    · have hp := logPut o t xs ys (cellsZ (asZ f)) s 0 n q fl ht hot (by omega) (by omega)
      obtain ⟨zs, m, hh, hm⟩ := ih (ys ++ cellsZ (asZ f)) (n + 1) (by rw [List.length_append]; omega) (by rw [List.length_append]; omega) (by rw [List.length_append]; omega)
      refine ⟨zs, m, ?_, by rw [List.length_cons]; omega⟩
      show (if ((logC o t xs s ys 0 q fl n).append t (cellsZ (asZ f))).1 = 0 then RD.writeL ((logC o t xs s ys 0 q fl n).append t (cellsZ (asZ f))).2 t fs else _) = _
      rw [hp, if_pos rfl]
      exact hh
/-- All frames laid down beside the file. -/
theorem logWrite (ht : nameOk t = true) (hot : ltS o t = true) (fs : List (List Nat)) (h1 : (flatV fs).length ≤ 1048576) (h2 : (xs.length : Int) + ((flatV fs).length : Int) ≤ q) :
    (logS o xs s q fl n).write t fs = (0, logC o t xs s (flatV fs) (flatV fs).length q fl (n + fs.length + 2)) := by
  unfold RD.write
  rw [logMake o t xs s n q fl ht, if_pos rfl]
  have h := logLay o t xs s q fl ht hot fs [] (n + 1) (by simpa using h1) (by simpa using h2)
  rw [List.nil_append] at h
  rw [h, if_pos rfl]
  have e : n + 1 + fs.length + 1 = n + fs.length + 2 := by omega
  rw [logSync o t xs (flatV fs) s 0 (n + 1 + fs.length) q fl ht hot, e]
theorem logWriteF (ht : nameOk t = true) (hot : ltS o t = true) (fs : List (List Nat)) (h1 : (flatV fs).length ≤ 1048576) (h0 : (xs.length : Int) ≤ q) (h2 : q < (xs.length : Int) + ((flatV fs).length : Int)) :
    ∃ zs m, (logS o xs s q fl n).write t fs = (4, logC o t xs s zs 0 q true m) ∧ m ≤ n + fs.length + 1 := by
  unfold RD.write
  rw [logMake o t xs s n q fl ht, if_pos rfl]
  obtain ⟨zs, m, h, hm⟩ := logLayF o t xs s q fl ht hot fs [] (n + 1) (by simpa using h1) (by simpa using h0) (by simpa using h2)
  refine ⟨zs, m, ?_, by omega⟩
  rw [h, if_neg (show ¬ (4 : Int) = 0 by decide)]
theorem flatV_frames : ∀ rs : List (List Nat), flatV (rs.map frameN) = cellsZ (asZ (allN rs)) := by
  intro rs
  induction rs with
  | nil => rfl
  | cons r rs ih =>
    show cellsZ (asZ (frameN r)) ++ flatV (rs.map frameN) = cellsZ (asZ (frameN r ++ allN rs))
    rw [ih, asZ_append, cellsZ_append]
end
end Go.Proofs.Ytfeccceemledjaa
