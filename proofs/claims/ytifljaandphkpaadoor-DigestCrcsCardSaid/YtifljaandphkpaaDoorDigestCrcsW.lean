/-
  The walk of the law DigestCrcs: it answers true and writes nothing that was there.
-/
import Derived.Test.YtifljaandphkpaaDoorCut2
namespace Go.Proofs.YtifljaandphkpaaDoor
open Go.RowKit
set_option linter.unusedVariables false

theorem digestCrcs_walk (a0 : Option Addr) (len0 cap0 : Nat) (z0 : List Int) (W : World) (w0 : IsRow .u8 W a0 len0 cap0 z0) (hL : laidMetH Tryd.prog Rows.digestCrcsRow.laid W) :
    Calls Tryd.prog 3 #[.slice a0 len0 cap0] W fun e w' => e = .returned (.bool true) ∧ Below W.heap.size W w' := by
  obtain ⟨l0, hH, hc⟩ := Held.of_isRow w0
  have HK := Lib.hid (roots_of_laid hL)
  have hle : len0 ≤ cap0 := hH.2.2
  have hH2 := hH.take (k := min len0 2000) (Nat.min_le_left _ _)
  have HQ := Lib.hid hH2
  generalize l0.take (min len0 2000) = l at *
  have hm : min len0 2000 ≤ 100000 := by omega
  have HC := Lib.hid (cut_any a0 len0 cap0 hle hc W)
  clear hH hH2 w0 hL
  generalize min len0 2000 = m at *
  go_enter Tryd.func3, Tryd.ntmps3
  go_wp2_with fail
  refine HC.out.mono ?_
  clear HC
  rintro e w' ⟨rfl, rfl⟩
  go_wp2_with fail
  refine (crc_any a0 m cap0 l hm W HQ.out.1).mono ?_
  rintro e w' ⟨rfl, rfl⟩
  go_wp2_with fail
  refine (refcrc_any a0 m cap0 l hm W HQ.out.1).mono ?_
  rintro e w' ⟨rfl, rfl⟩
  go_wp2_with fail
  refine (lives_true W HK.out).mono ?_
  rintro e w1 ⟨rfl, hb⟩
  go_wp2
  go_ret
  exact ⟨rfl, hb⟩
end Go.Proofs.YtifljaandphkpaaDoor
