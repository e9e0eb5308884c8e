/-
  The walk of the law DiskNames: it answers true and writes nothing that was there.
-/
import Derived.Test.YtmmjfbebelkelaaGe
namespace Go.Proofs.Ytmmjfbebelkelaa
open Go.RowKit Go.Maps
set_option linter.unusedVariables false
set_option maxRecDepth 100000

set_option maxHeartbeats 1600000 in
theorem diskNames_walk (a0 : ByteArray) (W : World) (w0 : a0.size ≤ maxLen) :
    Calls Try.prog 4 #[.string a0] W fun e w' => e = .returned (.bool true) ∧ Below W.heap.size W w' := by
  obtain ⟨m, hm, hm1, hm2⟩ : ∃ m : Nat, min (a0.size : Int) 3000 = (m : Int) ∧ m ≤ a0.size ∧ m ≤ 3000 := ⟨min a0.size 3000, by omega, by omega, by omega⟩
  have hml : (a0.size : Int) ≤ 9223372036854775807 := by unfold maxLen at w0; omega
  obtain ⟨t, ht⟩ : ∃ t, a0.extract 0 m = t := ⟨_, rfl⟩
  have hts : t.size ≤ 3000 := by rw [← ht, ByteArray.size_extract]; omega
  have HNEW := Lib.hid (DiskIn.new 0 (by omega) W (fun _ => 0) (fun _ => 0) (fun _ => 0) (fun _ => []))
  go_enter Try.func4, Try.ntmps4
  go_wp2_with fail
  refine HNEW.out.mono ?_
  rintro e w1 ⟨rfl, own1, ho1, H1, hB1⟩
  have hsz1 := hB1.size
  have HM := Lib.hid (mayName_any t (by omega))
  have HR := Lib.hid (rmayName_any t (by omega))
  have HLV := Lib.hid lives_any
  have ho1' : ∀ i, i < W.heap.size → own1 i = 0 := fun i hi => ho1 i hi
  cases hx : nameOk t with
  | true =>
    have HCR := Lib.hid (One.create t 0 (by omega) w1 W.heap.size own1 _ _ _ H1 hx (by omega))
    rw [hx] at HM HR
    have HO := Lib.hid (And.intro ho1' hB1)
    clear hx H1 ho1 ho1' hB1 hm ht HNEW
    go_wp2_with fail
    refine HCR.out.mono ?_
    rintro e w2 ⟨rfl, own2, O2, L2⟩
    have HRD := Lib.hid L2.read
    have HB2 := Lib.hid (HO.out.2.trans (O2.toBelow HO.out.1 hsz1))
    have hsz2 := HB2.out.size
    clear L2 O2 HCR
    go_wp2_with fail
    refine HRD.out.mono ?_
    rintro e w3 ⟨⟨A3, c3, rfl⟩, hB3⟩
    have HB3 := Lib.hid (HB2.out.trans (hB3.mono hsz2))
    have hsz3 := HB3.out.size
    clear hB3 HRD
    go_wp2_with fail
    refine (HM.out w3).mono ?_
    rintro e w4 ⟨rfl, rfl⟩
    go_wp2_with fail
    refine (HR.out w3).mono ?_
    rintro e w4 ⟨rfl, rfl⟩
    go_wp2_with fail
    refine (HR.out w3).mono ?_
    rintro e w4 ⟨rfl, rfl⟩
    go_wp2_with fail
    refine (HR.out w3).mono ?_
    rintro e w4 ⟨rfl, rfl⟩
    go_wp2_with fail
    refine (HLV.out w3).mono ?_
    rintro e w4 ⟨rfl, hB4⟩
    have HEND := Lib.hid (HB3.out.trans (hB4.mono hsz3))
    clear hB4
    go_wp2
    go_ret
    exact ⟨rfl, HEND.out⟩
  | false =>
    have hE : beginE (newB 0) [t] = 1 := by unfold beginE; simp [powerB, newB, hx]
    have HCR := Lib.hid (create_err H1.nowAt t (by omega) (by rw [hE]; omega))
    rw [hE] at HCR
    rw [hx] at HM HR
    have HO := Lib.hid (And.intro ho1' (And.intro hB1 H1))
    clear hx H1 ho1 ho1' hB1 hm ht HNEW hE
    go_wp2_with fail
    refine HCR.out.mono ?_
    rintro e w2 ⟨rfl, hD2, hC2⟩
    have h2 := HO.out.2.2.off1 (by show (0 : Int) < 80000; omega) hD2 hC2
    have HRD := Lib.hid (h2.2.read_no t rfl)
    have HB2 := Lib.hid (HO.out.2.1.trans (h2.1.toBelow HO.out.1 hsz1))
    have hsz2 := HB2.out.size
    clear h2 hD2 hC2 HCR
    go_wp2_with fail
    refine HRD.out.mono ?_
    rintro e w3 ⟨rfl, hB3⟩
    have HB3 := Lib.hid (HB2.out.trans (hB3.mono hsz2))
    have hsz3 := HB3.out.size
    clear hB3 HRD
    go_wp2_with fail
    refine (HM.out w3).mono ?_
    rintro e w4 ⟨rfl, rfl⟩
    go_wp2_with fail
    refine (HR.out w3).mono ?_
    rintro e w4 ⟨rfl, rfl⟩
    go_wp2_with fail
    refine (HR.out w3).mono ?_
    rintro e w4 ⟨rfl, rfl⟩
    go_wp2_with fail
    refine (HR.out w3).mono ?_
    rintro e w4 ⟨rfl, rfl⟩
    go_wp2_with fail
    refine (HLV.out w3).mono ?_
    rintro e w4 ⟨rfl, hB4⟩
    have HEND := Lib.hid (HB3.out.trans (hB4.mono hsz3))
    clear hB4
    go_wp2
    go_ret
    exact ⟨rfl, HEND.out⟩
end Go.Proofs.Ytmmjfbebelkelaa
