/-
  The walk of the law LexerNames: it answers true and writes nothing that was there.
-/
import Derived.Test.YtkpgkobhnldhpaaDoorLxH
import Derived.Test.YtkpgkobhnldhpaaDoorLxS
namespace Go.Proofs.YtkpgkobhnldhpaaDoor
open Go.RowKit
set_option linter.unusedVariables false
set_option maxRecDepth 100000

set_option maxHeartbeats 1000000 in
theorem lexerNames_walk (a0 : ByteArray) (a1 : Int) (W : World) (w0 : a0.size ≤ maxLen) (w1 : (Lit.int .i64 a1).wf = true) (_hs : a0.data.toList.length ≤ reachBytes) (hL : laidMetH Tryd.prog Rows.lexerNamesRow.laid W) (hsh : W.ShapedOpen Tryd.prog) :
    Calls Tryd.prog 4 #[.string a0, .int .i64 a1] W fun e w' => e = .returned (.bool true) ∧ Below W.heap.size W w' := by
  have HL := Lib.hid (laid_of W hL hsh)
  have hb := bounds_i64 w1
  unfold maxLen at w0
  have hts := lcut_size a0
  have HTS := Lib.hid hts
  clear hL hsh w1 _hs hts
  go_enter Tryd.func4, Tryd.ntmps4
  go_wp2_with (go_at_call 10; refine (lcut_any _ w0 _).mono ?_; rintro e w' ⟨rfl, rfl⟩)
  generalize a0.extract 0 (min (a0.size : Int) 2000).toNat = s at *
  have hs : s.size ≤ 4000000000 := by have := HTS.out; omega
  go_wp2_with (first | (go_at_call 16; refine (isName_any s hs _).mono ?_; rintro e w' ⟨rfl, rfl⟩) | (go_at_call 17; refine (risName_any s hs _).mono ?_; rintro e w1 ⟨rfl, hB1⟩))
  have HB1 := Lib.hid hB1
  have HA := at_any s hs a1 hb
  have HR := rat_any s hs a1 hb
  obtain ⟨x, y, z, hp⟩ : ∃ x y z : Int, placeV s.data.toList (clampO s.size a1) = .agg #[.int .i64 x, .int .i64 y, .int .i64 z] := ⟨_, _, _, rfl⟩
  rw [hp] at HA HR
  have HA' := Lib.hid HA
  have HR' := Lib.hid HR
  clear hB1 HA HR hp
  refine (isWord_any s _).mono ?_
  rintro e w' ⟨rfl, rfl⟩
  go_wp2_with fail
  refine (rword_any s _).mono ?_
  rintro e w2 ⟨rfl, hB2⟩
  have HB2 := Lib.hid (HB1.out.trans (hB2.mono HB1.out.size))
  clear hB2 HB1
  go_wp2_with fail
  refine (HA'.out w2).mono ?_
  rintro e w3 ⟨rfl, hB3⟩
  have HB3 := Lib.hid (HB2.out.trans (hB3.mono HB2.out.size))
  clear hB3 HB2
  go_wp2_with fail
  refine (HR'.out w3).mono ?_
  rintro e w4 ⟨rfl, hB4⟩
  have HB4 := Lib.hid (HB3.out.trans (hB4.mono HB3.out.size))
  clear hB4 HB3
  go_wp2_with fail
  refine (lives_true w4 (HL.out.below HB4.out)).mono ?_
  rintro e w5 ⟨rfl, hB5⟩
  have HB5 := Lib.hid (HB4.out.trans (hB5.mono HB4.out.size))
  clear hB5 HB4
  go_wp2
  go_ret
  exact ⟨rfl, HB5.out⟩
end Go.Proofs.YtkpgkobhnldhpaaDoor
