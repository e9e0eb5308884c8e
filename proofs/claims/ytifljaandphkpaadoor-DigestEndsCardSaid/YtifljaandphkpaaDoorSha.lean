/-
  The contract of digest.Sha.
-/
import Derived.Test.YtifljaandphkpaaDoorEnd
namespace Go.Proofs.YtifljaandphkpaaDoor
open Go.RowKit
set_option linter.unusedVariables false

/-- SHA-256 of bytes. -/
def shaN (l : List Nat) : List Nat := outN (endS (blocksN rootsN startN l (l.length / 64)) (l.drop (64 * (l.length / 64))) l.length)
theorem shaN_lt (l : List Nat) : ∀ x ∈ shaN l, x < 256 := outN_lt _
theorem shaN_length (l : List Nat) : (shaN l).length = 32 := outN_length _

set_option maxRecDepth 100000 in
set_option maxHeartbeats 2000000 in
theorem sha_any (A : Option Addr) (n cap : Nat) (l : List Nat) (hn : n ≤ 100000) (hcm : cap ≤ 9223372036854775807) (w : World) (hR : Held w A n cap l) (hK : RootsOk w) :
    Calls Tryd.prog 13 #[.slice A n cap] w fun e w' => e = .returned (.agg (cellsK .u8 (shaN l)).toArray) ∧ Below w.heap.size w w' := by
  have HH := Lib.hid hR
  have HK := Lib.hid hK
  have HL : Hid (l.length = n) := Lib.hid hR.1.length
  clear hR hK
  have hB : Hid (Below w.heap.size w (w.alloc (.cells (cellsK .u8 (List.replicate 32 0)).toArray 28))) := Lib.hid ((Below.refl _ _).alloc (Nat.le_refl _) _)
  have h1 := Lib.hid (Row.new w .u8 28 (List.replicate 32 0))
  have hz32 : Hid ((List.replicate 32 0 : List Nat).length = 32) := Lib.hid rfl
  have hz8 : Hid ((List.replicate 8 0 : List Nat).length = 8) := Lib.hid rfl
  go_enter Tryd.func13, Tryd.ntmps13
  go_wp2_with fail
  rw [zeros28]
  generalize w.alloc (.cells (cellsK .u8 (List.replicate 32 0)).toArray 28) = w0 at *
  refine (start_any _).mono ?_
  rintro e w1 ⟨rfl, hb1⟩
  have d1 := Lib.hid (h1.out.below hb1)
  have dB := Lib.hid (hB.out.trans (hb1.mono hB.out.size))
  clear h1 hB hb1
  go_wp2_with fail
  refine (whole_any startN startN_ok A n cap l hn w1 (HH.out.below dB.out) hcm (HK.out.below dB.out)).mono ?_
  rintro e w2 ⟨⟨A', c', rfl, hc', hQ⟩, hb2⟩
  have HQ := Lib.hid hQ
  have e1 := Lib.hid (d1.out.below hb2)
  have eB := Lib.hid (dB.out.trans (hb2.mono dB.out.size))
  clear d1 dB hb2 hQ
  generalize hy : blocksN rootsN startN l (n / 64) = y at *
  have HY := Lib.hid hy
  have HYok : Hid y.ok := Lib.hid (by rw [← hy]; exact blocksN_ok _ _ _ startN_ok _)
  have HY8 : Hid (y.list.length = 8) := Lib.hid rfl
  have hq64 : n % 64 < 64 := Nat.mod_lt _ (by decide)
  generalize hqd : n % 64 = q at *
  clear hy hqd
  have f1 := Lib.hid (e1.out.alloc (.cells (cellsK .u32 (List.replicate 8 0)).toArray 43))
  have f2 := Lib.hid (Row.new w2 .u32 43 (List.replicate 8 0))
  have fB := Lib.hid (eB.out.alloc eB.out.size (.cells (cellsK .u32 (List.replicate 8 0)).toArray 43))
  have hlt : w.heap.size < w2.heap.size := e1.out.lt
  clear e1 eB
  go_wp2_with (first
    | (rw [size43z]; with_reducible refine wpList_storeK 43 (.tmp 3) (.tmp 9) rfl rfl w2.heap.size .u32 .u32 43 (List.replicate 8 0) y.list 8 f2 rfl rfl size8w HY8 hz8 ?_
       have g1 := Lib.hid (f1.out.setRowOther w2.heap.size (cellsK .u32 y.list).toArray (by omega))
       have g2 := Lib.hid (f2.out.setRow y.list)
       have gB := Lib.hid (below_setRow fB.out (g := w2.heap.size) (by omega) (cellsK .u32 y.list).toArray)
       have gQ := Lib.hid (HQ.out.below (below_setRow ((Below.refl _ _).alloc (Nat.le_refl _) (.cells (cellsK .u32 (List.replicate 8 0)).toArray 43)) (g := w2.heap.size) (Nat.le_refl _) (cellsK .u32 y.list).toArray))
       clear f1 f2 fB HQ
       generalize (w2.alloc (.cells (cellsK .u32 (List.replicate 8 0)).toArray 43)).setRow w2.heap.size (cellsK .u32 y.list).toArray = w3 at *
       generalize w2.heap.size = g3 at *)
    | (with_reducible refine wpList_loadK 43 (.tmp 3) rfl rfl g3 .u32 43 y.list 8 24 g2 rfl Tryd.underlying43 size8w HY8 ?_))
  refine (end_any y HYok.out A' q c' n _ hq64 (by omega) w3 gQ.out (HK.out.below gB.out)).mono ?_
  rintro e w4 ⟨rfl, hb4⟩
  have k1 := Lib.hid (g1.out.below hb4)
  have kB := Lib.hid (gB.out.trans (hb4.mono gB.out.size))
  clear g1 g2 gB gQ hb4
  have hS : Hid (shaN l = outN (endS y (l.drop (64 * (n / 64))) n)) := Lib.hid (by rw [shaN, HL.out, HY.out])
  have hS32 := Lib.hid (shaN_length l)
  rw [← hS.out]
  generalize hsh : shaN l = sh at *
  have HSH := Lib.hid hsh
  clear hsh
  go_wp2_with (first | (with_reducible refine wpList_storeK 28 (.tmp 2) (.tmp 15) rfl rfl w.heap.size .u8 .u8 28 (List.replicate 32 0) sh 32 k1 rfl rfl size32b hS32 hz32 ?_))
  exact bodyPost_ret (resultsK rfl _ w.heap.size .u8 28 sh 32 5 rfl (k1.out.setRow sh) Tryd.underlying28 size32b hS32) rfl ⟨by rw [HSH.out], below_setRow kB.out (Nat.le_refl _) _⟩
end Go.Proofs.YtifljaandphkpaaDoor
