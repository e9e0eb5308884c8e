/-
  The document's examples: the contract of the laws' lives.
-/
import Derived.Test.YthijggnpkomdcaaBc
import Derived.Test.YthijggnpkomdcaaBh
import Derived.Test.YthijggnpkomdcaaQI
namespace Go.Proofs.Ythijggnpkomdcaa
open Go.RowKit
set_option linter.unusedVariables false
set_option maxRecDepth 100000

theorem lenW_313 : lenW (ofW [3, 1, 3]) = 2 := by decide +kernel
theorem has_313 : hasZ (ofW [3, 1, 3]) 1 = true ∧ hasZ (ofW [3, 1, 3]) 3 = true := by decide +kernel
theorem join_313 : joinT (ofW [3, 1, 3]) (ofW [1]) = false := by decide +kernel
theorem fits1 : FitsI 1 := by unfold FitsI; decide
theorem fits2 : FitsI 2 := by unfold FitsI; decide
set_option maxHeartbeats 800000 in
theorem lives_any (w : World) : Calls Try.prog 18 #[] w fun e w' => e = .returned (.bool true) ∧ Below w.heap.size w w' := by
  have hI : Ints (w.alloc (.cells #[.int .i64 3, .int .i64 1, .int .i64 3] 3)) (some ⟨w.heap.size, 0, none⟩) 3 [3, 1, 3] := by
    refine ⟨rfl, (fun z hz => by simp at hz; omega), fun _ => ⟨w.heap.size, 0, rfl, by simp, fun i hi => ?_⟩⟩
    rw [Nat.zero_add, cell_of_row _ w.heap.size i _ _ (0, 0) (heap_alloc_new w _)]
    rcases i with _ | _ | _ | i
    · rfl
    · rfl
    · rfl
    · omega
  have HI := Lib.hid hI
  clear hI
  go_enter Try.func18, Try.ntmps18
  go_wp2_with fail
  refine (of_any _ _ 3 3 [3, 1, 3] HI.out (by decide)).mono ?_
  rintro e w1 ⟨b, v, rfl, hS, hF, hB⟩
  have HS := Lib.hid hS
  have HF := Lib.hid hF
  have hB1 : Below w.heap.size w w1 := ((Below.refl _ w).alloc (Nat.le_refl _) _).trans (hB.mono (by simp))
  have HB1 := Lib.hid hB1
  clear hS hF hB hB1
  go_wp2_with fail
  have hQ0 := qnewI w1 w1.heap.size (Nat.le_refl _)
  refine (qpushI w1.heap.size _ w1.heap.size 0 [] hQ0 (by simp) 1 fits1 (by decide) (by decide)).mono ?_
  rintro e w2 ⟨rfl, hQ, hB⟩
  have HQ2 := Lib.hid hQ
  have HB2 := Lib.hid (((Below.refl w1.heap.size w1).alloc (Nat.le_refl _) (.cells #[.slice none 0 0, .map none] 107)).trans hB)
  clear hQ0 hQ hB
  go_wp2_with fail
  refine (qpushI w1.heap.size w2 w1.heap.size 1 [1] HQ2.out HB2.out.size 2 fits2 (by decide) (by decide)).mono ?_
  rintro e w3 ⟨rfl, hQ, hB⟩
  have HQ3 := Lib.hid hQ
  have HB3 := Lib.hid (HB2.out.trans hB)
  clear hQ hB HQ2 HB2
  go_wp2_with fail
  refine (qpushI w1.heap.size w3 w1.heap.size 2 [1, 2] HQ3.out HB3.out.size 1 fits1 (by decide) (by decide)).mono ?_
  rintro e w4 ⟨rfl, hQ, hB⟩
  have HQ4 := Lib.hid hQ
  have HB4 := Lib.hid (HB3.out.trans hB)
  clear hQ hB HQ3 HB3
  go_wp2_with fail
  refine (qpopI w1.heap.size w4 w1.heap.size 3 1 [2] HQ4.out HB4.out.size).mono ?_
  rintro e w5 ⟨rfl, hQ, hB⟩
  have HQ5 := Lib.hid hQ
  have HB5 := Lib.hid (HB4.out.trans hB)
  have HS5 := Lib.hid (HS.out.below HB5.out)
  clear hQ hB HQ4 HB4
  have ha1 : decide ((1 : Int) ∈ ([] : List Int)) = false := by decide
  have ha2 : decide ((2 : Int) ∈ ([1] : List Int)) = false := by decide
  have ha3 : decide ((1 : Int) ∈ ([1, 2] : List Int)) = true := by decide
  go_wp2_with fail
  refine (len_any w5 b v _ HS5.out).mono ?_
  rintro e w5' ⟨rfl, rfl⟩
  have hl := lenW_313
  go_wp2_with fail
  refine (has_any w5 b v _ HS5.out 1 (by decide)).mono ?_
  rintro e w5' ⟨rfl, rfl⟩
  have hh := has_313.1
  go_wp2_with fail
  refine (has_any w5 b v _ HS5.out 3 (by decide)).mono ?_
  rintro e w5' ⟨rfl, rfl⟩
  have hh2 := has_313.2
  go_wp2_with fail
  have hI2 : Ints (w5.alloc (.cells #[.int .i64 1] 3)) (some ⟨w5.heap.size, 0, none⟩) 1 [1] := by
    refine ⟨rfl, (fun z hz => by simp at hz; omega), fun _ => ⟨w5.heap.size, 0, rfl, by simp, fun i hi => ?_⟩⟩
    rw [Nat.zero_add, cell_of_row _ w5.heap.size i _ _ (0, 0) (heap_alloc_new w5 _)]
    rcases i with _ | i
    · rfl
    · omega
  refine (of_any _ _ 1 1 [1] hI2 (by decide)).mono ?_
  rintro e w6 ⟨b2, v2, rfl, hS2, hF2, hB2⟩
  have hB6 : Below w5.heap.size w5 w6 := ((Below.refl _ w5).alloc (Nat.le_refl _) _).trans (hB2.mono (by simp))
  have HS6 := Lib.hid (HS5.out.below hB6)
  have HQ6 := Lib.hid (HQ5.out.below hB6)
  have HT6 := Lib.hid hS2
  have HD : Hid (∀ k ∈ foot b2 v2, k ∉ foot b v) := Lib.hid (fun k hk hk' => by have h1 := hF2 k hk; have h2 := HS5.out.foot_lt k hk'; rw [World.size_alloc] at h1; omega)
  have HB6 := Lib.hid hB6
  clear hI2 hS2 hF2 hB2 hB6
  go_wp2_with fail
  refine (join_any w6 b b2 v v2 _ _ HS6.out HT6.out HD.out).mono ?_
  rintro e w7 ⟨rfl, v7, hS7, hC7, hF7⟩
  have HQ7 := Lib.hid (HQ6.out.chg hC7 (fun j hj => HS.out.foot_lt j hj))
  have HB7 : Hid (Below w.heap.size w w7) := Lib.hid (((HB1.out.trans (HB5.out.mono HB1.out.size)).trans (HB6.out.mono (Nat.le_trans HB1.out.size HB5.out.size))).trans (hC7.toBelow (fun k hk => by have h1 := HF.out k hk; rw [World.size_alloc] at h1; omega) (Nat.le_trans HB1.out.size (Nat.le_trans HB5.out.size HB6.out.size))))
  clear hS7 hC7 hF7
  have hj := join_313
  go_wp2_with fail
  refine (qlenBI w1.heap.size w7 w1.heap.size 3 [2] HQ7.out).mono ?_
  rintro e w7' ⟨rfl, rfl⟩
  go_wp2
  go_ret
  exact ⟨rfl, HB7.out⟩
end Go.Proofs.Ythijggnpkomdcaa
