/-
  Contracts of math/bits.TrailingZeros64 and of the loop over a set: (*Bits).Each, its function.
-/
import Derived.Test.YtjkcomoadpileaaDoorBi
import Derived.Test.YtjkcomoadpileaaDoorBh
import Derived.Test.YtjkcomoadpileaaDoorBc
import Derived.Shelf.Spec.TrailingZeros
import Derived.Lib.LaidTab
import Derived.Stop.LaidErr
import Derived.LaidMore
import Derived.RangeFuncNested
import Derived.RangeFuncBound
import Derived.RangeFuncCalls
import Derived.RangeFuncLeaves
import Derived.Shelf.Abstract
import Derived.Shelf.RegionOpen
import Derived.OwnWalkIn
import Derived.TacticsInMore
import Derived.LoopNIn
import Derived.LoopIn
namespace Go.Proofs.YtjkcomoadpileaaDoor
open Go.RowKit Go.Shelf
attribute [local go_sem] Oper.semAt_some
set_option linter.unusedVariables false

/-- The table of math/bits stands in the world. -/
def TabOk (w : World) : Prop := 0 < w.heap.size ∧ TabAt 0 Lib.deBruijn64tab w
theorem TabOk.below {B : Nat} {w w' : World} (h : TabOk w) (hb : Below B w w') (hB : 0 < B) : TabOk w' :=
  ⟨Nat.lt_of_lt_of_le h.1 hb.size, fun t ht => (hb.cell (p := ⟨0, t, none⟩) hB).trans (h.2 t ht)⟩
theorem TabOk.chg {l : List Nat} {w w' : World} (h : TabOk w) (hc : Chg l w w') (hl : 0 ∉ l) : TabOk w' :=
  ⟨Nat.lt_of_lt_of_le h.1 hc.size, fun t ht => (World.cell?_of_block (a := ⟨0, t, none⟩) (hc.same _ h.1 hl)).trans (h.2 t ht)⟩
theorem tab_data : Rows.laid_math_bits_deBruijn64tab (H := Unit) = Lib.tabData .u8 (Lib.deBruijn64tab.map Int.ofNat) := by kernel_rfl
theorem tab_of_laid {W : World} (h : laidMetH Tryd.prog [("math/bits.deBruijn64tab", Rows.laid_math_bits_deBruijn64tab)] W) : TabOk W := by
  rw [MakeChecks.laidMetH_plain _ _ _ (by kernel_rfl), tab_data] at h
  have hT := Lib.tabIs_of_head (P := Tryd.prog) (g := 0) (t := 70) (e := 5) (n := 64) (by kernel_rfl) (by kernel_rfl) Tryd.underlying70 Tryd.underlying5 (by kernel_rfl) (by kernel_rfl) h
  have hl : Lib.deBruijn64tab.length = 64 := by decide
  have hc : ∀ t, t < 64 → W.cell? ⟨0, t, none⟩ = some (.int .u8 ((Lib.deBruijn64tab.getD t 0 : Nat) : Int)) := fun t ht => by
    rw [hT.cell (g := 0) (by kernel_rfl) t (by rw [List.length_map, hl]; exact ht)]
    have hl' : t < Lib.deBruijn64tab.length := by omega
    simp [List.getD, hl']
  exact ⟨World.block_lt_of_cell? W _ (hc 0 (by omega)), fun t ht => hc t (by rw [hl] at ht; exact ht)⟩
theorem tz_core (x k idx : Nat) (w : World) (hx0 : ((x : Int) == 0) = false)
    (key : IntKind.u64.wrap (bits BinOp.and IntKind.u64 (x : Int) (IntKind.u64.wrap (-(x : Int))) * 285870213051353865) / 288230376151711744 = (idx : Int))
    (hi : idx < 64) (hk : k < 64) (hcell : w.cell? ⟨0, idx, none⟩ = some (.int .u8 k)) :
    Calls Tryd.prog 38 #[.int .u64 x] w fun e w' => e = .returned (.int .i64 k) ∧ w = w' := by
  go_enter Tryd.func38, Tryd.ntmps38
  go_wp2_with (simp only [key])
  go_ret
  exact ⟨rfl, rfl⟩
theorem tz_any (w : World) (x : Nat) (hx : x < 18446744073709551616) (h0 : x ≠ 0) (hT : TabOk w) :
    Calls Tryd.prog 38 #[.int .u64 (x : Int)] w fun e w' => e = .returned (.int .i64 (Lib.ctz 64 x : Int)) ∧ w = w' := by
  obtain ⟨hlow, hk⟩ := Lib.lowest_bit 64 x h0 hx
  obtain ⟨hi, htab⟩ := Lib.deBruijn64_at _ hk
  have hcell := hT.2 _ hi
  rw [htab] at hcell
  exact tz_core x _ _ w (by simp; omega) (tz64_key x _ hx h0 hlow) hi hk hcell
theorem each_any (w : World) (p : Option Addr) :
    Calls Tryd.prog 24 #[.pointer p] w fun e w' => e = .returned (.func (.func 37) #[] #[.pointer (some ⟨w.heap.size, 0, none⟩)]) ∧ w' = w.alloc (.cells #[.pointer p] 23) := by
  have hmf : ∀ (fn : Fn) (first cap : Array Value) (w : World), (Instr.makeFunc fn first cap).run Tryd.prog w = .ok (.func fn first cap) w := fun _ _ _ _ => rfl
  go_enter Tryd.func24, Tryd.ntmps24
  go_wp2
  go_ret
  exact ⟨rfl, rfl⟩
end Go.Proofs.YtjkcomoadpileaaDoor
