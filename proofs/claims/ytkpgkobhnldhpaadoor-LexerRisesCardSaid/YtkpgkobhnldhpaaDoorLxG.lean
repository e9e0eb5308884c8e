/-
  Contracts of layer 7's law helpers: lives, cut; of the document's IsWord, IsName, Same; of IsName.
-/
import Derived.Test.YtkpgkobhnldhpaaDoorLxF
namespace Go.Proofs.YtkpgkobhnldhpaaDoor
open Go.RowKit
set_option linter.unusedVariables false
set_option maxRecDepth 100000

theorem lcut_any (s : ByteArray) (hs : s.size ≤ 9223372036854775807) (w : World) :
    Calls Tryd.prog 10 #[.string s] w fun e w' => e = .returned (.string (s.extract 0 (min (s.size : Int) 2000).toNat)) ∧ w = w' := by
  by_cases h : s.size ≤ 2000 <;>
  · go_enter Tryd.func10, Tryd.ntmps10
    go_wp2
    go_ret
    exact ⟨rfl, rfl⟩
theorem lcut_size (s : ByteArray) : (s.extract 0 (min (s.size : Int) 2000).toNat).size ≤ 2000 := by
  rw [ByteArray.size_extract]; omega
def T1 : List Tok := [⟨1, [120, 49], 0, 0⟩, ⟨4, [61], 0, 3⟩, ⟨2, [49, 48], 10, 5⟩, ⟨4, [60, 60], 0, 7⟩, ⟨1, [121], 0, 9⟩, ⟨4, [59], 0, 10⟩]
theorem lex1 : allN [120, 49, 32, 61, 32, 49, 48, 60, 60, 121, 59] = .ok T1 := by decide
theorem lex2 : allN [49, 120] = .bad 11 0 := by decide
theorem lex3 : allN [97, 32, 47, 42] = .bad 12 4 := by decide
theorem lex4 : allN [97, 32, 64] = .bad 10 2 := by decide
theorem one1 (w : World) (hL : Laid w) : Calls Tryd.prog 11 #[.string ⟨#[120, 49, 32, 61, 32, 49, 48, 60, 60, 121, 59]⟩] w fun e w' => ∃ g off c, e = .returned (.tuple #[.slice (some ⟨g, off, none⟩) 6 c, .int .i64 0, .agg #[.int .i64 0, .int .i64 0, .int .i64 0]]) ∧ (w'.cell? ⟨g, off, none⟩ = some (.int .i64 1) ∧ w'.cell? ⟨g, off + 14, none⟩ = some (.int .i32 10) ∧ w'.cell? ⟨g, off + 19, none⟩ = some (.string ⟨#[60, 60]⟩)) ∧ 6 ≤ c ∧ c ≤ 9223372036854775807 ∧ w.heap.size ≤ g ∧ g < w'.heap.size ∧ Below w.heap.size w w' := by
  refine (all_any _ (by decide) w hL).mono ?_
  intro e w' h
  unfold AllOut at h
  rw [show (ByteArray.mk #[120, 49, 32, 61, 32, 49, 48, 60, 60, 121, 59]).data.toList = [120, 49, 32, 61, 32, 49, 48, 60, 60, 121, 59] from rfl, lex1] at h
  obtain ⟨A, c, rfl, hl, hA, hB⟩ := h
  obtain ⟨g, off, rfl, hg, hc, _⟩ := hl.at (by decide)
  refine ⟨g, off, c, rfl, ⟨hc 0 (by decide), hc 14 (by decide), hc 19 (by decide)⟩, hl.2.1, by have := hl.2.2.1; unfold maxLen at this; exact this, hA g (mem_blk.2 ⟨_, rfl, rfl⟩), hg, hB⟩
theorem one2 (s : ByteArray) (hs : s.size ≤ 4000000000) (er o : Nat) (ha : allN s.data.toList = .bad er o) (E O : Int) (hE : E = er) (hO : O = o) (w : World) (hL : Laid w) : Calls Tryd.prog 11 #[.string s] w fun e w' => ∃ x y : Int, e = .returned (.tuple #[.slice none 0 0, .int .i64 E, .agg #[.int .i64 O, .int .i64 x, .int .i64 y]]) ∧ Below w.heap.size w w' := by
  refine (all_any s hs w hL).mono ?_
  intro e w' h
  unfold AllOut at h
  rw [ha] at h
  rw [hE, hO]
  exact ⟨_, _, h.1, h.2⟩
theorem box_new (w : World) (x y z : Value) (t : TypeId) : (w.alloc (.cells #[x, y, z] t)).cell? ⟨w.heap.size, 0, none⟩ = some x := by rw [cell_of_row _ _ 0 _ _ (0, 0) (heap_alloc_new w _)]; rfl
set_option maxHeartbeats 1000000 in
theorem lives_true (w : World) (hL : Laid w) : Calls Tryd.prog 15 #[] w fun e w' => e = .returned (.bool true) ∧ Below w.heap.size w w' := by
  have HL := Lib.hid hL
  clear hL
  go_enter Tryd.func15, Tryd.ntmps15
  go_wp2_with fail
  refine (one1 w HL.out).mono ?_
  rintro e w1 ⟨g, off, c, rfl, ⟨c0, c1, c2⟩, hc6, hcm, hg, hg1, hB1⟩
  have hB1' : Below w.heap.size w (w1.alloc (.cells #[.int .i64 0, .int .i64 0, .int .i64 0] 26)) := hB1.alloc hB1.size _
  have HL1 : Hid (Laid (w1.alloc (.cells #[.int .i64 0, .int .i64 0, .int .i64 0] 26))) := Lib.hid (HL.out.below hB1')
  have hk : ∀ o, (w1.alloc (.cells #[.int .i64 0, .int .i64 0, .int .i64 0] 26)).cell? ⟨g, o, none⟩ = w1.cell? ⟨g, o, none⟩ := fun o => ((Below.refl w1.heap.size w1).alloc (Nat.le_refl _) _).cell (p := ⟨g, o, none⟩) hg1
  have HF := Lib.hid (And.intro ((hk _).trans c0) (And.intro ((hk _).trans c1) ((hk _).trans c2)))
  have HB := Lib.hid hB1'
  have HG : Hid (g < (w1.alloc (.cells #[.int .i64 0, .int .i64 0, .int .i64 0] 26)).heap.size) := Lib.hid (by simp; omega)
  clear hB1 hB1' hk c0 c1 c2
  go_wp2_with fail
  generalize w1.alloc (.cells #[.int .i64 0, .int .i64 0, .int .i64 0] 26) = V1 at *
  refine (one2 ⟨#[49, 120]⟩ (by decide) 11 0 lex2 11 0 rfl rfl _ HL1.out).mono ?_
  rintro e w2 ⟨x2, y2, rfl, hB2⟩
  have hB2a : Below V1.heap.size V1 (w2.alloc (.cells #[.int .i64 0, .int .i64 x2, .int .i64 y2] 26)) := hB2.alloc hB2.size _
  have HL2 : Hid (Laid (w2.alloc (.cells #[.int .i64 0, .int .i64 x2, .int .i64 y2] 26))) := Lib.hid (HL1.out.below hB2a)
  have HF2 := Lib.hid (And.intro ((hB2a.cell (p := ⟨g, off, none⟩) HG.out).trans HF.out.1) (And.intro ((hB2a.cell (p := ⟨g, off + 14, none⟩) HG.out).trans HF.out.2.1) (And.intro ((hB2a.cell (p := ⟨g, off + 19, none⟩) HG.out).trans HF.out.2.2) (box_new w2 (.int .i64 0) (.int .i64 x2) (.int .i64 y2) 26))))
  have HB2 := Lib.hid (HB.out.trans (hB2a.mono HB.out.size))
  have HG2 : Hid (g < (w2.alloc (.cells #[.int .i64 0, .int .i64 x2, .int .i64 y2] 26)).heap.size ∧ w2.heap.size < (w2.alloc (.cells #[.int .i64 0, .int .i64 x2, .int .i64 y2] 26)).heap.size) := Lib.hid ⟨by have := HG.out; have := hB2a.size; omega, by simp⟩
  clear hB2 hB2a HF HB HG HL1
  go_wp2_with fail
  obtain ⟨b2, hb2⟩ : ∃ b2, b2 = w2.heap.size := ⟨_, rfl⟩
  rw [← hb2] at HF2 HG2 ⊢
  clear hb2
  generalize w2.alloc (.cells #[.int .i64 0, .int .i64 x2, .int .i64 y2] 26) = V2 at *
  refine (one2 ⟨#[97, 32, 47, 42]⟩ (by decide) 12 4 lex3 12 4 rfl rfl _ HL2.out).mono ?_
  rintro e w3 ⟨x3, y3, rfl, hB3⟩
  have hB3a : Below V2.heap.size V2 (w3.alloc (.cells #[.int .i64 4, .int .i64 x3, .int .i64 y3] 26)) := hB3.alloc hB3.size _
  have HL3 : Hid (Laid (w3.alloc (.cells #[.int .i64 4, .int .i64 x3, .int .i64 y3] 26))) := Lib.hid (HL2.out.below hB3a)
  have HF3 := Lib.hid (And.intro ((hB3a.cell (p := ⟨g, off, none⟩) HG2.out.1).trans HF2.out.1) (And.intro ((hB3a.cell (p := ⟨g, off + 14, none⟩) HG2.out.1).trans HF2.out.2.1) (And.intro ((hB3a.cell (p := ⟨g, off + 19, none⟩) HG2.out.1).trans HF2.out.2.2.1) (And.intro ((hB3a.cell (p := ⟨b2, 0, none⟩) HG2.out.2).trans HF2.out.2.2.2) (box_new w3 (.int .i64 4) (.int .i64 x3) (.int .i64 y3) 26)))))
  have HB3 := Lib.hid (HB2.out.trans (hB3a.mono HB2.out.size))
  have HG3 : Hid (g < (w3.alloc (.cells #[.int .i64 4, .int .i64 x3, .int .i64 y3] 26)).heap.size ∧ b2 < (w3.alloc (.cells #[.int .i64 4, .int .i64 x3, .int .i64 y3] 26)).heap.size ∧ w3.heap.size < (w3.alloc (.cells #[.int .i64 4, .int .i64 x3, .int .i64 y3] 26)).heap.size) := Lib.hid ⟨by have := HG2.out.1; have := hB3a.size; omega, by have := HG2.out.2; have := hB3a.size; omega, by simp⟩
  clear hB3 hB3a HF2 HB2 HG2 HL2
  go_wp2_with fail
  obtain ⟨b3, hb3⟩ : ∃ b3, b3 = w3.heap.size := ⟨_, rfl⟩
  rw [← hb3] at HF3 HG3 ⊢
  clear hb3
  generalize w3.alloc (.cells #[.int .i64 4, .int .i64 x3, .int .i64 y3] 26) = V3 at *
  refine (one2 ⟨#[97, 32, 64]⟩ (by decide) 10 2 lex4 10 2 rfl rfl _ HL3.out).mono ?_
  rintro e w4 ⟨x4, y4, rfl, hB4⟩
  have hB4a : Below V3.heap.size V3 (w4.alloc (.cells #[.int .i64 2, .int .i64 x4, .int .i64 y4] 26)) := hB4.alloc hB4.size _
  have f0 := (hB4.cell (p := ⟨g, off, none⟩) HG3.out.1).trans HF3.out.1
  have f1 := (hB4.cell (p := ⟨g, off + 14, none⟩) HG3.out.1).trans HF3.out.2.1
  have f2 := (hB4.cell (p := ⟨g, off + 19, none⟩) HG3.out.1).trans HF3.out.2.2.1
  have f3 := (hB4.cell (p := ⟨b2, 0, none⟩) HG3.out.2.1).trans HF3.out.2.2.2.1
  have f4 := (hB4.cell (p := ⟨b3, 0, none⟩) HG3.out.2.2).trans HF3.out.2.2.2.2
  have hz := hB4.size
  have g1 : g < w4.heap.size := by have := HG3.out.1; omega
  have g2 : b2 < w4.heap.size := by have := HG3.out.2.1; omega
  have g3 : b3 < w4.heap.size := by have := HG3.out.2.2; omega
  have HB4 := Lib.hid (HB3.out.trans (hB4a.mono HB3.out.size))
  clear hB4 hB4a hz
  have hcc : ¬ (c : Int) < 6 := by omega
  go_wp2
  go_ret
  exact ⟨rfl, HB4.out⟩
end Go.Proofs.YtkpgkobhnldhpaaDoor
