/- The contract of digest.Name; the document's examples are as it says: the helper 'lives' of the second layer's statements. -/
import Derived.Test.YtdjnebgjdekmaaaGreatDoorZam
import Derived.Test.YtdjnebgjdekmaaaGreatDoorZai
import Derived.Lib.SlBytesConst
import Derived.Laws.IdiomStrings
set_option linter.unusedVariables false
namespace Go.Proofs.YtdjnebgjdekmaaaGreatDoor
open Go.RowKit
theorem Row.toN {w : World} {g : Nat} {T : TypeId} {ns : List Nat} (h : Row w g .u8 T ns) (hb : ∀ x ∈ ns, x < 256) : RowN w (some ⟨g, 0, none⟩) ns.length ns := by
 refine ⟨asZ_length ns, fun z hz => ?_, fun _ => ⟨g, 0, rfl, h.lt, fun i hi => ?_⟩⟩
 · obtain ⟨x, hx, rfl⟩ := List.mem_map.1 hz
   have := hb x hx
   exact ⟨Int.natCast_nonneg _, by show ((x : Nat) : Int) ≤ 255; omega⟩
 · rw [Nat.zero_add, h.cell i hi, asZ_getD]
theorem name_any (A : Option Addr) (n cap : Nat) (l : List Nat) (hn : n ≤ 100000) (hcm : cap ≤ 9223372036854775807) (w : World) (hR : Held w A n cap l) (hK : RootsOk w) :
 Calls Tryz.prog 113 #[.slice A n cap] w fun e w' => e = .returned (.string (strOfNums (hexZ (asZ (shaN l))))) ∧ Below w.heap.size w w' := by
 have HH := Lib.hid hR
 have HK := Lib.hid hK
 clear hR hK
 have hz32 : Hid ((List.replicate 32 0 : List Nat).length = 32) := Lib.hid rfl
 have hS32 := Lib.hid (shaN_length l)
 have hSlt := Lib.hid (shaN_lt l)
 go_enter Tryz.func113, Tryz.ntmps113
 go_wp2_with fail
 refine (sha_any A n cap l hn hcm w HH.out HK.out).mono ?_
 rintro e w1 ⟨rfl, hb1⟩
 generalize hsh : shaN l = sh at *
 have HSH := Lib.hid hsh
 clear hsh
 have f2 := Lib.hid (Row.new w1 .u8 176 (List.replicate 32 0))
 have fB := Lib.hid (hb1.alloc hb1.size (.cells (cellsK .u8 (List.replicate 32 0)).toArray 176))
 have hlt : w.heap.size ≤ w1.heap.size := hb1.size
 clear hb1
 go_wp2_with (first
  | (rw [zeros28]; with_reducible refine wpList_storeK 176 (.tmp 3) (.tmp 5) rfl rfl w1.heap.size .u8 .u8 176 (List.replicate 32 0) sh 32 f2 rfl rfl size32b hS32 hz32 ?_
     have g2 := Lib.hid ((f2.out.setRow sh).toN hSlt.out)
     have gB := Lib.hid (below_setRow fB.out (g := w1.heap.size) (by omega) (cellsK .u8 sh).toArray)
     rw [hS32.out] at g2
     clear f2 fB
     generalize (w1.alloc (.cells (cellsK .u8 (List.replicate 32 0)).toArray 176)).setRow w1.heap.size (cellsK .u8 sh).toArray = w3 at *
     generalize w1.heap.size = g3 at *))
 refine (hex_any (some ⟨g3, 0, none⟩) 32 32 (asZ sh) (by omega) w3 g2.out).mono ?_
 rintro e w4 ⟨rfl, hb4⟩
 have kB := Lib.hid (gB.out.trans (hb4.mono gB.out.size))
 clear hb4 gB g2
 go_wp2
 go_ret
 exact ⟨by rw [HSH.out]; rfl, kB.out⟩
end Go.Proofs.YtdjnebgjdekmaaaGreatDoor
