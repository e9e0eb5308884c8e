/-
  The table of the first 64 primes' cube roots, as the package's variable holds it.
-/
import Derived.Test.YtifljaandphkpaaDoorSl
import Derived.Lib.LaidTab
import Derived.Stop.LaidErr
import Derived.LaidMore
import Derived.Laws.Rows
namespace Go.Proofs.YtifljaandphkpaaDoor
open Go.RowKit
set_option linter.unusedVariables false

def rootsN : List Nat := [1116352408, 1899447441, 3049323471, 3921009573, 961987163, 1508970993, 2453635748, 2870763221, 3624381080, 310598401, 607225278, 1426881987, 1925078388, 2162078206, 2614888103, 3248222580, 3835390401, 4022224774, 264347078, 604807628, 770255983, 1249150122, 1555081692, 1996064986, 2554220882, 2821834349, 2952996808, 3210313671, 3336571891, 3584528711, 113926993, 338241895, 666307205, 773529912, 1294757372, 1396182291, 1695183700, 1986661051, 2177026350, 2456956037, 2730485921, 2820302411, 3259730800, 3345764771, 3516065817, 3600352804, 4094571909, 275423344, 430227734, 506948616, 659060556, 883997877, 958139571, 1322822218, 1537002063, 1747873779, 1955562222, 2024104815, 2227730452, 2361852424, 2428436474, 2756734187, 3204031479, 3329325298]
def rootsZ : List Int := rootsN.map Int.ofNat
theorem rootsN_lt : ∀ x ∈ rootsN, x < 4294967296 := by decide
/-- The table stands in the world. -/
def RootsOk (w : World) : Prop := 0 < w.heap.size ∧ ∀ t, t < 64 → w.cell? ⟨0, t, none⟩ = some (.int .u32 ((rootsN.getD t 0 : Nat) : Int))
theorem RootsOk.below {w w' : World} (h : RootsOk w) (hb : Below w.heap.size w w') : RootsOk w' :=
  ⟨Nat.lt_of_lt_of_le h.1 hb.size, fun t ht => (hb.cell (p := ⟨0, t, none⟩) h.1).trans (h.2 t ht)⟩
theorem roots_data : Rows.laid_brazier_digest_roots (H := Unit) = Lib.tabData .u32 rootsZ := by kernel_rfl
theorem roots_of_laid {W : World} (h : laidMetH Tryd.prog [("brazier/digest.roots", Rows.laid_brazier_digest_roots)] W) : RootsOk W := by
  rw [MakeChecks.laidMetH_plain _ _ _ (by kernel_rfl), roots_data] at h
  have hT := Lib.tabIs_of_head (P := Tryd.prog) (g := 0) (t := 56) (e := 24) (n := 64) (by kernel_rfl) (by kernel_rfl) Tryd.underlying56 Tryd.underlying24 (by kernel_rfl) (by kernel_rfl) h
  have hc : ∀ t, t < 64 → W.cell? ⟨0, t, none⟩ = some (.int .u32 ((rootsN.getD t 0 : Nat) : Int)) := fun t ht => by
    have hl : rootsN.length = 64 := by decide
    rw [hT.cell (g := 0) (by kernel_rfl) t (by rw [rootsZ, List.length_map, hl]; exact ht)]
    have hl' : t < rootsN.length := by omega
    simp [rootsZ, List.getD, hl']
  exact ⟨block_lt_of_cell (hc 0 (by omega)), hc⟩
end Go.Proofs.YtifljaandphkpaaDoor
