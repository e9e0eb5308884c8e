/-
  The walk of the law DiskPlays.
-/
import Derived.Test.YtbjlikppboggmaaZbm
import Derived.Test.YtbjlikppboggmaaZas
import Derived.Test.YtbjlikppboggmaaZbi
namespace Go.Proofs.Ytbjlikppboggmaa
open Go.RowKit Go.Maps
set_option linter.unusedVariables false
set_option maxRecDepth 100000
attribute [local instance] keepNo

set_option maxHeartbeats 1600000 in
theorem diskPlays_walk (q : Int) (A : Option Addr) (n c : Nat) (os : List OpR) (W : World) (hqw : -9223372036854775808 ≤ q ∧ q ≤ 9223372036854775807) (h : OpsIn W A n os) (hnc : n ≤ c) (hcm : c ≤ maxLen) :
    Calls Try.prog 3 #[.int .i64 q, .slice A n c] W fun e w' => e = .returned (.bool true) ∧ Below W.heap.size W w' := by
  have hq : q ≤ 9223372036854775807 := hqw.2
  have HCUT := Lib.hid (fun (V : World) (hV : Below W.heap.size W V) => cut_from W V hV A n c os h hnc hcm)
  have hL60 := cutL_len os
  have HSM : Hid (∀ o ∈ cutL os, o.In W ∧ o.small = true) := Lib.hid (fun o ho => ⟨h.2.1 o (cutL_in os o ho), cutL_small os o ho⟩)
  have HLV := Lib.hid lives_any
  generalize cutL os = C at *
  obtain ⟨d, hd⟩ : ∃ d, W.heap.size = d := ⟨_, rfl⟩
  have HDE := Lib.hid hd
  rw [hd]
  clear h hnc hcm hqw hd
  go_enter Try.func3, Try.ntmps3
  go_wp2_with fail
  refine (IsD.new q hq W).mono ?_
  rintro e w2 ⟨rfl, own, ho0, hD, hB2⟩
  have HD := Lib.hid (And.intro ho0 (And.intro hD hB2))
  clear ho0 hD hB2
  go_wp2_with fail
  refine (IsR.new q hq w2).mono ?_
  rintro e w3 ⟨rfl, ox, hx0, hR, hB3⟩
  have HH := Lib.hid (both_new HD.out.1 HD.out.2.1 HD.out.2.2 hx0 hR hB3)
  clear hx0 hR hB3 HD
  generalize w2.heap.size = x at *
  rw [HDE.out] at HH ⊢
  go_wp2_with fail
  refine (HCUT.out w3 HH.out.on).mono ?_
  rintro e w4 ⟨⟨A1, c1, rfl, hO⟩, hB4⟩
  have HO := Lib.hid hO
  have HS : Hid (PlayIs W w4 d x (RD.fresh q) C 0) := Lib.hid ((PlayIs.start C HH.out rfl).below hB4)
  have HW4 := Lib.hid HS.out.on
  clear hO hB4 HCUT HH
  go_wp2_with fail
  go_loopg [16] (C.length + 1) (fun kx i wq => ∃ j : Nat, i = .int .i64 j ∧ j ≤ C.length ∧ Hid (PlayIs W wq d x (RD.fresh q) C j) ∧ C.length - j + 1 ≤ kx)
  case atStart => exact ⟨0, rfl, Nat.zero_le _, HS, Nat.le_refl _⟩
  case round =>
    obtain ⟨j, rfl, hj, HI, hm⟩ := hrel
    by_cases hlt : j < C.length
    · obtain ⟨o, ho⟩ : ∃ o, C[j]? = some o := ⟨_, List.getElem?_eq_getElem hlt⟩
      obtain ⟨g, off, rfl, hg, hc⟩ := (HO.out.below HI.out.on).2.2 (by omega)
      have hcs := hc j o ho
      obtain ⟨hin, hsm⟩ := HSM.out o (List.mem_of_getElem? ho)
      have HCE : Hid (o.cells = [.int .u64 (o.kind : Int), .string o.a, .string o.b, .slice o.dA o.dn o.dc, .int .i64 o.n, .int .i64 o.dir, .slice o.kA o.kn o.kc]) := Lib.hid rfl
      have d0 := hcs 0 _ rfl
      have d1 := hcs 1 _ rfl
      have d2 := hcs 2 _ rfl
      have d3 := hcs 3 _ rfl
      have d4 := hcs 4 _ rfl
      have d5 := hcs 5 _ rfl
      have d6 := hcs 6 _ rfl
      rw [Nat.add_zero] at d0
      have hlt' : (j : Int) < (C.length : Int) := by omega
      have hj0 : (0 : Int) ≤ (j : Int) := by omega
      obtain ⟨Wa, hWa⟩ : ∃ Wa, wr.alloc (.cells o.cells.toArray 34) = Wa := ⟨_, rfl⟩
      have hBa : Below wr.heap.size wr Wa := by rw [← hWa]; exact (Below.refl _ wr).alloc (Nat.le_refl _) _
      have hva : Wa.heap[wr.heap.size]? = some (.cells o.cells.toArray 34 (0, 0)) := by rw [← hWa]; exact heap_alloc_new wr _
      have hgo := (HI.out.below hBa).go hL60 ho hin hsm
      rw [HCE.out] at hWa hva hgo
      obtain ⟨va, hvae⟩ : ∃ va, wr.heap.size = va := ⟨_, rfl⟩
      rw [hvae] at hva
      have e0 : Wa.cell? ⟨va, 0, none⟩ = some (.int .u64 (o.kind : Int)) := by rw [cell_of_row _ va 0 _ _ (0, 0) hva]; rfl
      have e1 : Wa.cell? ⟨va, 1, none⟩ = some (.string o.a) := by rw [cell_of_row _ va 1 _ _ (0, 0) hva]; rfl
      have e2 : Wa.cell? ⟨va, 2, none⟩ = some (.string o.b) := by rw [cell_of_row _ va 2 _ _ (0, 0) hva]; rfl
      have e3 : Wa.cell? ⟨va, 3, none⟩ = some (.slice o.dA o.dn o.dc) := by rw [cell_of_row _ va 3 _ _ (0, 0) hva]; rfl
      have e4 : Wa.cell? ⟨va, 4, none⟩ = some (.int .i64 o.n) := by rw [cell_of_row _ va 4 _ _ (0, 0) hva]; rfl
      have e5 : Wa.cell? ⟨va, 5, none⟩ = some (.int .i64 o.dir) := by rw [cell_of_row _ va 5 _ _ (0, 0) hva]; rfl
      have e6 : Wa.cell? ⟨va, 6, none⟩ = some (.slice o.kA o.kn o.kc) := by rw [cell_of_row _ va 6 _ _ (0, 0) hva]; rfl
      have HGO := Lib.hid hgo
      clear hc hcs hin hsm hva hBa hgo ho hg HI
      obtain ⟨kind, a, b, dA, dn, dc, dz, nn, dir, kA, kn, kc, kz⟩ := o
      dsimp only at *
      go_wp2_with (go_at_call 10; (with_reducible refine HGO.out.mono ?_); rintro e w5 ⟨rfl, hs5⟩; have HS5 := Lib.hid hs5; have HAL := Lib.hid (hs5.alike (by omega)); clear hs5)
      with_reducible refine HAL.out.mono ?_
      rintro e w6 ⟨rfl, hb6⟩
      have HS6 := Lib.hid (HS5.out.below hb6)
      clear hb6 HAL
      go_wp2
      go_roundg (C.length - (j + 1) + 1)
      case measure => omega
      case rel => exact ⟨j + 1, by go_num, by omega, HS6, Nat.le_refl _⟩
    · obtain rfl : j = C.length := by omega
      have HAL := Lib.hid (HI.out.alike (by omega))
      go_wp2_with fail
      with_reducible refine HAL.out.mono ?_
      rintro e w6 ⟨rfl, hb6⟩
      have HON := Lib.hid (HI.out.below hb6).on
      clear hb6 HAL
      go_wp2_with fail
      refine (HLV.out _).mono ?_
      rintro e wF ⟨rfl, hBF⟩
      have hE := HON.out.trans (hBF.mono HON.out.size)
      rw [HDE.out] at hE
      have HEND := Lib.hid hE
      clear hBF hE
      go_wp2
      go_ret
      exact ⟨rfl, HEND.out⟩
end Go.Proofs.Ytbjlikppboggmaa
