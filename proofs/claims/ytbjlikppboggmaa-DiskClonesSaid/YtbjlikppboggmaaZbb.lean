/-
  The law's cut: at most 60 things to do, none of them great.
-/
import Derived.Test.YtbjlikppboggmaaZau
import Derived.Test.YtbjlikppboggmaaZat
namespace Go.Proofs.Ytbjlikppboggmaa
open Go.RowKit Go.Maps
set_option linter.unusedVariables false
set_option maxRecDepth 100000

def OpR.small (o : OpR) : Bool := decide (o.a.size ≤ 300 ∧ o.b.size ≤ 300 ∧ o.dn ≤ 300 ∧ o.kn ≤ 300)
def cutL (os : List OpR) : List OpR := if (os.take 60).all OpR.small = true then os.take 60 else []
theorem cutL_len (os : List OpR) : (cutL os).length ≤ 60 := by
  unfold cutL
  split
  · rw [List.length_take]; omega
  · simp
theorem cutL_small (os : List OpR) : ∀ o ∈ cutL os, o.small = true := fun o ho => by
  unfold cutL at ho
  split at ho
  · rename_i h; exact List.all_eq_true.1 h o ho
  · cases ho
set_option maxHeartbeats 3200000 in
theorem cut_from (w0 w : World) (hB0 : Below w0.heap.size w0 w) (A : Option Addr) (n c : Nat) (os : List OpR) (h : OpsIn w0 A n os) (hnc : n ≤ c) (hcm : c ≤ maxLen) :
    Calls Try.prog 9 #[.slice A n c] w fun e w' => (∃ A' c', e = .returned (.slice A' (cutL os).length c') ∧ OpsIn w0 A' (cutL os).length (cutL os)) ∧ Below w.heap.size w w' := by
  obtain ⟨m, hm, hmn, hm60⟩ : ∃ m : Nat, min (n : Int) 60 = (m : Int) ∧ m ≤ n ∧ m ≤ 60 := ⟨min n 60, by omega, by omega, by omega⟩
  have hm1 : os.take 60 = os.take m := by
    rcases Nat.lt_or_ge 60 n with q | q
    · rw [show m = 60 by omega]
    · rw [show m = n by omega, List.take_of_length_le (by rw [h.1]; exact q), List.take_of_length_le (by rw [h.1]; exact Nat.le_refl _)]
  have hlm : (os.take m).length = m := by rw [List.length_take, h.1]; omega
  have hT := (h.below hB0).take m hmn
  have HT0 := Lib.hid (h.take m hmn)
  have HT := Lib.hid hT
  have HYES : Hid (((os.take m).all OpR.small = true) → cutL os = os.take m) := Lib.hid (fun h' => by unfold cutL; rw [hm1, if_pos h'])
  have HNO : Hid (((os.take m).all OpR.small = false) → cutL os = []) := Lib.hid (fun h' => by unfold cutL; rw [hm1, if_neg (by rw [h']; exact fun e => by cases e)])
  have HLM := Lib.hid hlm
  have hc63 : (c : Int) ≤ 9223372036854775807 := by unfold maxLen at hcm; omega
  have hmc : (m : Int) ≤ (c : Int) := by omega
  have hm0 : (0 : Int) ≤ (m : Int) := by omega
  have HMN := Lib.hid (And.intro hm (And.intro hmn hm60))
  obtain ⟨T, hTe⟩ : ∃ T, os.take m = T := ⟨_, rfl⟩
  rw [hTe] at HT HT0 HYES HNO HLM
  have hmin : min (n : Int) 60 = (m : Int) := hm
  clear h hB0 hT hm1 hlm hTe hm hnc hcm
  go_enter Try.func9, Try.ntmps9
  go_wp2
  go_loopw [12] (fun i wr => ∃ k : Nat, k ≤ m ∧ i = .int .i64 k ∧ Hid (∀ j o, j < k → T[j]? = some o → o.small = true) ∧ Hid (Below w.heap.size w wr)) (fun i _ => m - (intOf i).toNat)
  case atStart => exact ⟨0, by omega, rfl, Lib.hid (fun j o hj => by omega), Lib.hid (Below.refl _ _)⟩
  case round =>
    obtain ⟨k, hk, rfl, HI, HB⟩ := hrel
    rcases Nat.lt_or_ge k m with hkm | hkm
    · obtain ⟨o, ho⟩ : ∃ o, T[k]? = some o := ⟨_, List.getElem?_eq_getElem (by rw [HLM.out]; exact hkm)⟩
      have hNIL : o.small = false → cutL os = [] := fun h' => HNO.out (by
        cases hh : T.all OpR.small with
        | false => rfl
        | true => rw [List.all_eq_true.1 hh o (List.mem_of_getElem? ho)] at h'; cases h')
      have HNIL := Lib.hid hNIL
      obtain ⟨g, off, rfl, hg, hc⟩ := (HT.out.below HB.out).2.2 (by omega)
      have hcs := hc k o ho
      obtain ⟨kind, a, b, dA, dn, dc, dz, nn, dir, kA, kn, kc, kz⟩ := o
      have d0 := hcs 0 _ rfl
      have d1 := hcs 1 _ rfl
      have d2 := hcs 2 _ rfl
      have d3 := hcs 3 _ rfl
      have d4 := hcs 4 _ rfl
      have d5 := hcs 5 _ rfl
      have d6 := hcs 6 _ rfl
      rw [Nat.add_zero] at d0
      obtain ⟨Wa, hWa⟩ : ∃ Wa, wr.alloc (.cells #[.int .u64 (kind : Int), .string a, .string b, .slice dA dn dc, .int .i64 nn, .int .i64 dir, .slice kA kn kc] 34) = Wa := ⟨_, rfl⟩
      have hBa : Below wr.heap.size wr Wa := by rw [← hWa]; exact (Below.refl _ wr).alloc (Nat.le_refl _) _
      have hva : Wa.heap[wr.heap.size]? = some (.cells #[.int .u64 (kind : Int), .string a, .string b, .slice dA dn dc, .int .i64 nn, .int .i64 dir, .slice kA kn kc] 34 (0, 0)) := by rw [← hWa]; exact heap_alloc_new wr _
      obtain ⟨va, hvae⟩ : ∃ va, wr.heap.size = va := ⟨_, rfl⟩
      rw [hvae] at hva
      have e1 : Wa.cell? ⟨va, 1, none⟩ = some (.string a) := by rw [cell_of_row _ va 1 _ _ (0, 0) hva]; rfl
      have e2 : Wa.cell? ⟨va, 2, none⟩ = some (.string b) := by rw [cell_of_row _ va 2 _ _ (0, 0) hva]; rfl
      have e3 : Wa.cell? ⟨va, 3, none⟩ = some (.slice dA dn dc) := by rw [cell_of_row _ va 3 _ _ (0, 0) hva]; rfl
      have e6 : Wa.cell? ⟨va, 6, none⟩ = some (.slice kA kn kc) := by rw [cell_of_row _ va 6 _ _ (0, 0) hva]; rfl
      have HBA := Lib.hid (HB.out.trans (hBa.mono HB.out.size))
      have HO := Lib.hid ho
      have hkm' : (k : Int) < (m : Int) := by omega
      have hk0 : (0 : Int) ≤ (k : Int) := by omega
      have HEND : Hid ((⟨kind, a, b, dA, dn, dc, dz, nn, dir, kA, kn, kc, kz⟩ : OpR).small = false → (∃ A' c', Ending.returned (Value.slice none 0 0) = .returned (.slice A' (cutL os).length c') ∧ OpsIn w0 A' (cutL os).length (cutL os))) := Lib.hid (fun h' => by
        rw [HNIL.out h']
        exact ⟨none, 0, rfl, rfl, (fun o ho => by cases ho), fun h0 => absurd h0 (Nat.lt_irrefl 0)⟩)
      clear hNIL hg hc hcs ho hBa hva
      by_cases h1 : (300 : Int) < (a.size : Int)
      · have HE := Lib.hid (HEND.out (by unfold OpR.small; exact decide_eq_false (fun h' => by have := h'.1; simp only at this; omega)))
        go_wp2
        go_ret
        obtain ⟨A', c', q1, q2⟩ := HE.out
        exact ⟨⟨A', ⟨c', q1⟩, q2⟩, HBA.out⟩
      · by_cases h2 : (300 : Int) < (b.size : Int)
        · have HE := Lib.hid (HEND.out (by unfold OpR.small; exact decide_eq_false (fun h' => by have := h'.2.1; simp only at this; omega)))
          go_wp2
          go_ret
          obtain ⟨A', c', q1, q2⟩ := HE.out
          exact ⟨⟨A', ⟨c', q1⟩, q2⟩, HBA.out⟩
        · by_cases h3 : (300 : Int) < (dn : Int)
          · have HE := Lib.hid (HEND.out (by unfold OpR.small; exact decide_eq_false (fun h' => by have := h'.2.2.1; simp only at this; omega)))
            go_wp2
            go_ret
            obtain ⟨A', c', q1, q2⟩ := HE.out
            exact ⟨⟨A', ⟨c', q1⟩, q2⟩, HBA.out⟩
          · by_cases h4 : (300 : Int) < (kn : Int)
            · have HE := Lib.hid (HEND.out (by unfold OpR.small; exact decide_eq_false (fun h' => by have := h'.2.2.2; simp only at this; omega)))
              go_wp2
              go_ret
              obtain ⟨A', c', q1, q2⟩ := HE.out
              exact ⟨⟨A', ⟨c', q1⟩, q2⟩, HBA.out⟩
            · have HS : Hid ((⟨kind, a, b, dA, dn, dc, dz, nn, dir, kA, kn, kc, kz⟩ : OpR).small = true) := Lib.hid (by unfold OpR.small; exact decide_eq_true ⟨by simp only; omega, by simp only; omega, by simp only; omega, by simp only; omega⟩)
              go_wp2
              go_roundw
              case rel => exact ⟨k + 1, by omega, by go_num, Lib.hid (fun j o hj hjo => by
                rcases Nat.lt_or_ge j k with q | q
                · exact HI.out j o q hjo
                · obtain rfl : j = k := by omega
                  rw [HO.out] at hjo
                  cases hjo
                  exact HS.out), HBA⟩
              case measure => simp [intOf] <;> omega
    · obtain rfl : k = m := by omega
      have HE : Hid (cutL os = T) := Lib.hid (HYES.out (List.all_eq_true.2 fun o ho => by
        obtain ⟨j, hj⟩ := List.getElem?_of_mem ho
        exact HI.out j o (by have := (List.getElem?_eq_some_iff.1 hj).1; rw [HLM.out] at this; exact this) hj))
      go_wp2
      go_ret
      rw [HE.out, HLM.out]
      exact ⟨⟨A, c, rfl, HT0.out⟩, HB.out⟩
theorem cut_any (w : World) (A : Option Addr) (n c : Nat) (os : List OpR) (h : OpsIn w A n os) (hnc : n ≤ c) (hcm : c ≤ maxLen) :
    Calls Try.prog 9 #[.slice A n c] w fun e w' => (∃ A' c', e = .returned (.slice A' (cutL os).length c') ∧ OpsIn w A' (cutL os).length (cutL os)) ∧ Below w.heap.size w w' := cut_from w w (Below.refl _ _) A n c os h hnc hcm
end Go.Proofs.Ytbjlikppboggmaa
