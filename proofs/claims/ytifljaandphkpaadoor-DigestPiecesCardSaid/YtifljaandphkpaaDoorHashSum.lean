/-
  The contract of (*Hash).Sum.
-/
import Derived.Test.YtifljaandphkpaaDoorHash
import Derived.StillTailTactics
namespace Go.Proofs.YtifljaandphkpaaDoor
open Go.RowKit
set_option linter.unusedVariables false
attribute [local go_sem ↓] Go.wp_at_zero Go.wp_at_succ

theorem sum_nil (w : World) (hK : RootsOk w) : Calls Tryd.prog 20 #[.pointer none] w fun e w' => e = .returned (.agg (cellsK .u8 (shaN [])).toArray) ∧ Below w.heap.size w w' := by
  have HK := Lib.hid hK
  clear hK
  have hB : Hid (Below w.heap.size w (w.alloc (.cells (cellsK .u8 (List.replicate 32 0)).toArray 28))) := Lib.hid ((Below.refl _ _).alloc (Nat.le_refl _) _)
  have h1 := Lib.hid (Row.new w .u8 28 (List.replicate 32 0))
  have hz32 : Hid ((List.replicate 32 0 : List Nat).length = 32) := Lib.hid rfl
  have hS32 := Lib.hid (shaN_length [])
  go_enter Tryd.func20, Tryd.ntmps20
  go_wp2_with fail
  rw [zeros28]
  generalize w.alloc (.cells (cellsK .u8 (List.replicate 32 0)).toArray 28) = w0 at *
  refine (sha_any none 0 0 [] (by omega) (by omega) w0 ⟨RowN.nil, fun _ => rfl, by omega⟩ (HK.out.below hB.out)).mono ?_
  rintro e w1 ⟨rfl, hb1⟩
  have k1 := Lib.hid (h1.out.below hb1)
  have kB := Lib.hid (hB.out.trans (hb1.mono hB.out.size))
  clear h1 hB hb1
  generalize hsh : shaN [] = sh at *
  have HSH := Lib.hid hsh
  clear hsh
  go_wp2_with (first | (with_reducible refine wpList_storeK 28 (.tmp 2) (.tmp 5) rfl rfl w.heap.size .u8 .u8 28 (List.replicate 32 0) sh 32 k1 rfl rfl size32b hS32 hz32 ?_))
  exact bodyPost_ret (resultsK rfl _ w.heap.size .u8 28 sh 32 5 rfl (k1.out.setRow sh) Tryd.underlying28 size32b hS32) rfl ⟨by rw [HSH.out], below_setRow kB.out (Nat.le_refl _) _⟩

set_option maxHeartbeats 2000000 in
theorem sum_any (g : Nat) (l : List Nat) (hl : l.length ≤ 100000) (w : World) (hH : Holds w g l) (hK : RootsOk w) : Calls Tryd.prog 20 #[.pointer (some ⟨g, 0, none⟩)] w fun e w' => e = .returned (.agg (cellsK .u8 (shaN l)).toArray) ∧ Below w.heap.size w w' := by
  have HK := Lib.hid hK
  obtain ⟨r, hr64, hrb, hrt, hrow⟩ := hH
  have hg := hrow.lt
  have hB : Hid (Below w.heap.size w (w.alloc (.cells (cellsK .u8 (List.replicate 32 0)).toArray 28))) := Lib.hid ((Below.refl _ _).alloc (Nat.le_refl _) _)
  have h1 := Lib.hid (Row.new w .u8 28 (List.replicate 32 0))
  have hz32 : Hid ((List.replicate 32 0 : List Nat).length = 32) := Lib.hid rfl
  have hS32 := Lib.hid (shaN_length l)
  have HRW := Lib.hid (hrow.belowAt hB.out hg)
  have HS : Hid (shaN l = outN (endS (blocksN rootsN startN l (l.length / 64)) (r.take (l.length % 64)) l.length)) := Lib.hid (by rw [hrt]; rfl)
  have hok := Lib.hid (blocksN_ok rootsN startN l startN_ok (l.length / 64))
  have HR64 := Lib.hid hr64
  have HRB := Lib.hid hrb
  clear hrow hrt hr64 hrb hK
  generalize blocksN rootsN startN l (l.length / 64) = s at *
  have hq : l.length % 64 < 64 := Nat.mod_lt _ (by decide)
  have hqi : (l.length : Int) % 64 = ((l.length % 64 : Nat) : Int) := by omega
  have hqt : (l.length : Int).tmod 64 = ((l.length % 64 : Nat) : Int) := by rw [Int.tmod_eq_emod_of_nonneg (by omega)]; omega
  generalize hn : l.length = n at *
  have HN := Lib.hid hn
  clear hn
  generalize n % 64 = q at *
  have hq0 : (0 : Int) ≤ (q : Int) := by omega
  have hq64 : (q : Int) ≤ 64 := by omega
  go_enter Tryd.func20, Tryd.ntmps20
  go_wp2_with fail
  rw [zeros28]
  generalize w.alloc (.cells (cellsK .u8 (List.replicate 32 0)).toArray 28) = w0 at *
  obtain ⟨xa, xb, xc, xd, xe, xf, xg, xh⟩ := s
  have c0 : w0.cell? ⟨g, 0, none⟩ = some (.int .u32 (xa : Int)) := HRW.out.sum 0 _ rfl
  have c1 : w0.cell? ⟨g, 1, none⟩ = some (.int .u32 (xb : Int)) := HRW.out.sum 1 _ rfl
  have c2 : w0.cell? ⟨g, 2, none⟩ = some (.int .u32 (xc : Int)) := HRW.out.sum 2 _ rfl
  have c3 : w0.cell? ⟨g, 3, none⟩ = some (.int .u32 (xd : Int)) := HRW.out.sum 3 _ rfl
  have c4 : w0.cell? ⟨g, 4, none⟩ = some (.int .u32 (xe : Int)) := HRW.out.sum 4 _ rfl
  have c5 : w0.cell? ⟨g, 5, none⟩ = some (.int .u32 (xf : Int)) := HRW.out.sum 5 _ rfl
  have c6 : w0.cell? ⟨g, 6, none⟩ = some (.int .u32 (xg : Int)) := HRW.out.sum 6 _ rfl
  have c7 : w0.cell? ⟨g, 7, none⟩ = some (.int .u32 (xh : Int)) := HRW.out.sum 7 _ rfl
  have cn := HRW.out.num HR64.out
  go_still_tail 17, (by kernel_rfl)
  change wpList _ _ _ _ _ w0.drew
  have d1 := Lib.hid h1.out.drew
  have dB := Lib.hid hB.out.drew
  have dR : Hid (Held w0.drew (some ⟨g, 8, none⟩) q 64 (r.take q)) := Lib.hid ⟨HRW.out.restN HR64.out HRB.out q (by omega), (fun h => by cases h), by omega⟩
  clear c0 c1 c2 c3 c4 c5 c6 c7 cn HRW h1 hB
  generalize w0.drew = w2 at *
  have hend := Lib.hid (end_any ⟨xa, xb, xc, xd, xe, xf, xg, xh⟩ hok.out (some ⟨g, 8, none⟩) q 64 n (r.take q) hq (by omega) w2 dR.out (HK.out.below dB.out))
  go_wp2_with fail
  refine hend.out.mono ?_
  clear hend
  rintro e w3 ⟨rfl, hb3⟩
  rw [← HS.out]
  have k1 := Lib.hid (d1.out.below hb3)
  have kB := Lib.hid (dB.out.trans (hb3.mono dB.out.size))
  clear d1 dB hb3 dR
  generalize hsh : shaN l = sh at *
  have HSH := Lib.hid hsh
  clear hsh
  go_wp2_with (first | (with_reducible refine wpList_storeK 28 (.tmp 2) (.tmp 23) rfl rfl w.heap.size .u8 .u8 28 (List.replicate 32 0) sh 32 k1 rfl rfl size32b hS32 hz32 ?_))
  exact bodyPost_ret (resultsK rfl _ w.heap.size .u8 28 sh 32 5 rfl (k1.out.setRow sh) Tryd.underlying28 size32b hS32) rfl ⟨by rw [HSH.out], below_setRow kB.out (Nat.le_refl _) _⟩
end Go.Proofs.YtifljaandphkpaaDoor
