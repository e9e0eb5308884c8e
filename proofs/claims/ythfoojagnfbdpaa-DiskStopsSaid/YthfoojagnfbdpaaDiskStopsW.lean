/-
  The walk of the law DiskStops.
-/
import Derived.Test.YthfoojagnfbdpaaZbf
import Derived.Test.YthfoojagnfbdpaaZbb
import Derived.Test.YthfoojagnfbdpaaOb
import Derived.Deep.Cut
import Derived.Deep.CutRange
namespace Go.Proofs.Ythfoojagnfbdpaa
open Go.RowKit Go.Maps
set_option linter.unusedVariables false
set_option maxRecDepth 100000

theorem infoOp : (Try.prog.info? 30).map (fun i => (i.zero, i.size, i.bytes)) = some (some (.agg #[.int .u64 0, .string ⟨#[]⟩, .string ⟨#[]⟩, .slice none 0 0, .int .i64 0, .int .i64 0, .slice none 0 0]), 7, 104) := by kernel_rfl
def flatO (l : List OpR) : List Value := l.flatMap OpR.cells
theorem flatO_len (l : List OpR) : (flatO l).length = 7 * l.length := by
  unfold flatO
  induction l with
  | nil => rfl
  | cons o l ih =>
    rw [List.flatMap_cons, List.length_append, ih, List.length_cons]
    show 7 + _ = _
    omega
theorem flatO_at (l : List OpR) : ∀ (i : Nat) o, l[i]? = some o → ∀ j v, o.cells[j]? = some v → (flatO l)[i * 7 + j]? = some v := by
  induction l with
  | nil => intro i o h; simp at h
  | cons a l ih =>
    intro i o h j v hv
    have hj : j < 7 := (List.getElem?_eq_some_iff.1 hv).1
    unfold flatO
    rw [List.flatMap_cons]
    cases i with
    | zero =>
      simp at h
      subst h
      rw [Nat.zero_mul, Nat.zero_add, List.getElem?_append_left (by exact hj)]
      exact hv
    | succ i =>
      rw [List.getElem?_append_right (by show 7 ≤ _; omega)]
      have e : (i + 1) * 7 + j - a.cells.length = i * 7 + j := by show (i + 1) * 7 + j - 7 = _; omega
      rw [e]
      exact ih i o (by simpa using h) j v hv
/-- Which of them are calls. -/
def callsOf (l : List OpR) : List OpR := l.filter fun o => decide (o.kind % 10 < 6)
theorem callsOf_snoc (l : List OpR) (k : Nat) (o : OpR) (h : l[k]? = some o) : callsOf (l.take (k + 1)) = if o.kind % 10 < 6 then callsOf (l.take k) ++ [o] else callsOf (l.take k) := by
  obtain ⟨hk, e⟩ := List.getElem?_eq_some_iff.1 h
  unfold callsOf
  rw [List.take_succ_eq_append_getElem hk, e, List.filter_append]
  by_cases hc : o.kind % 10 < 6
  · rw [if_pos hc]; simp [hc]
  · rw [if_neg hc]; simp [hc]
theorem callsOf_len (l : List OpR) : (callsOf l).length ≤ l.length := List.length_filter_le _ _
theorem ops_of_line {w : World} {A : Option Addr} {c : Nat} {l : List OpR} (h : SLine 7 w A l.length c (flatO l)) (hi : ∀ o ∈ l, o.In w) : OpsIn w A l.length l := by
  refine ⟨rfl, hi, fun h0 => ?_⟩
  obtain ⟨g, off, e, hg, hc, _⟩ := h.at h0
  refine ⟨g, off, e, hg, fun i o ho j v hv => ?_⟩
  have hi := (List.getElem?_eq_some_iff.1 ho).1
  have hj : j < 7 := (List.getElem?_eq_some_iff.1 hv).1
  rw [Nat.add_assoc, hc (i * 7 + j) (by omega)]
  exact flatO_at l i o ho j v hv
set_option maxHeartbeats 2000000 in
theorem diskStops_walk (A : Option Addr) (n c : Nat) (os : List OpR) (k0 : Int) (W : World) (h : OpsIn W A n os) (hnc : n ≤ c) (hcm : c ≤ maxLen) (hk0 : -9223372036854775808 ≤ k0 ∧ k0 ≤ 9223372036854775807) :
    Calls Try.prog 3 #[.slice A n c, .int .i64 k0] W fun e w' => e = .returned (.bool true) ∧ Below W.heap.size W w' := by
  have HCUT := Lib.hid (cut_any W A n c os h hnc hcm)
  have hL60 := cutL_len os
  have HSM := Lib.hid (cutL_small os)
  generalize cutL os = L at *
  clear h hnc hcm
  go_enter Try.func3, Try.ntmps3
  go_wp2_with fail
  refine HCUT.out.mono ?_
  rintro e w1 ⟨⟨A1, c1, rfl, hO⟩, hB1⟩
  have HO := Lib.hid hO
  have HB1 := Lib.hid hB1
  clear hO hB1 HCUT
  obtain ⟨K, hK⟩ : ∃ K : Nat, max 0 (min k0 70) = (K : Int) := ⟨(max 0 (min k0 70)).toNat, by omega⟩
  have hK70 : K ≤ 70 := by omega
  go_upto_region 3 with fail
  clear hK hk0
  go_wp2_with fail
  go_loopg [5, 24] (L.length + 1) (fun kx v i wr => ∃ (j : Nat) (A : Option Addr) (c : Nat), v = .slice A (callsOf (L.take j)).length c ∧ i = .int .i64 j ∧ j ≤ L.length ∧ Hid (SLine 7 wr A (callsOf (L.take j)).length c (flatO (callsOf (L.take j))) ∧ (∀ b ∈ blk A, w1.heap.size ≤ b) ∧ Below w1.heap.size w1 wr) ∧ L.length - j + 1 ≤ kx)
  case atStart => exact ⟨0, none, 0, rfl, rfl, Nat.zero_le _, Lib.hid ⟨SLine.nil 7 _, (fun b hb => by cases hb), Below.refl _ _⟩, Nat.le_refl _⟩
  case round =>
    obtain ⟨j, CA, cc, rfl, rfl, hj, HI, hm⟩ := hrel
    by_cases hlt : j < L.length
    · obtain ⟨o, ho⟩ : ∃ o, L[j]? = some o := ⟨_, List.getElem?_eq_getElem hlt⟩
      obtain ⟨g, off, rfl, hg, hc⟩ := (HO.out.below (HB1.out.trans (HI.out.2.2.mono HB1.out.size))).2.2 (by omega)
      have hcs := hc j o ho
      have HSN := Lib.hid (callsOf_snoc L j o ho)
      have hfl : (callsOf (L.take j)).length ≤ 60 := by have := callsOf_len (L.take j); rw [List.length_take] at this; omega
      have HCE : Hid (o.cells = [.int .u64 (o.kind : Int), .string o.a, .string o.b, .slice o.dA o.dn o.dc, .int .i64 o.n, .int .i64 o.dir, .slice o.kA o.kn o.kc]) := Lib.hid rfl
      have d0 := hcs 0 _ rfl
      have d1 := hcs 1 _ rfl
      have d2 := hcs 2 _ rfl
      have d3 := hcs 3 _ rfl
      have d4 := hcs 4 _ rfl
      have d5 := hcs 5 _ rfl
      have d6 := hcs 6 _ rfl
      rw [Nat.add_zero] at d0
      have hlt' : (j : Int) < (L.length : Int) := by omega
      have hj0 : (0 : Int) ≤ (j : Int) := by omega
      clear hc hcs
      obtain ⟨Wa, hWa⟩ : ∃ Wa, wr.alloc (.cells o.cells.toArray 30) = Wa := ⟨_, rfl⟩
      have hBa : Below wr.heap.size wr Wa := by rw [← hWa]; exact (Below.refl _ wr).alloc (Nat.le_refl _) _
      have hva : Wa.heap[wr.heap.size]? = some (.cells o.cells.toArray 30 (0, 0)) := by rw [← hWa]; exact heap_alloc_new wr _
      rw [HCE.out] at hWa hva
      have HBA := Lib.hid hBa
      obtain ⟨va, hvae⟩ : ∃ va, wr.heap.size = va := ⟨_, rfl⟩
      rw [hvae] at hva
      have HVA := Lib.hid hva
      have e0 : Wa.cell? ⟨va, 0, none⟩ = some (.int .u64 (o.kind : Int)) := by rw [cell_of_row _ va 0 _ _ (0, 0) hva]; rfl
      have e1 : Wa.cell? ⟨va, 1, none⟩ = some (.string o.a) := by rw [cell_of_row _ va 1 _ _ (0, 0) hva]; rfl
      have e2 : Wa.cell? ⟨va, 2, none⟩ = some (.string o.b) := by rw [cell_of_row _ va 2 _ _ (0, 0) hva]; rfl
      have e3 : Wa.cell? ⟨va, 3, none⟩ = some (.slice o.dA o.dn o.dc) := by rw [cell_of_row _ va 3 _ _ (0, 0) hva]; rfl
      have e4 : Wa.cell? ⟨va, 4, none⟩ = some (.int .i64 o.n) := by rw [cell_of_row _ va 4 _ _ (0, 0) hva]; rfl
      have e5 : Wa.cell? ⟨va, 5, none⟩ = some (.int .i64 o.dir) := by rw [cell_of_row _ va 5 _ _ (0, 0) hva]; rfl
      have e6 : Wa.cell? ⟨va, 6, none⟩ = some (.slice o.kA o.kn o.kc) := by rw [cell_of_row _ va 6 _ _ (0, 0) hva]; rfl
      by_cases h6 : o.kind % 10 < 6
      · obtain ⟨A', c', W4, hr, hl, hcg, hf, _⟩ := push_s 7 Wa 22 30 22 _ 104 Try.underlying22 infoOp rfl (by decide) CA (callsOf (L.take j)).length cc _ (HI.out.1.below hBa) (by omega) o.cells rfl (fun u hu => by rw [HCE.out] at hu; simp only [List.mem_cons, List.not_mem_nil, or_false] at hu; rcases hu with h | h | h | h | h | h | h <;> (rw [h]; rfl))
        have HRUN := Lib.hid hr
        rw [HCE.out] at HRUN
        have hsub : ∀ b ∈ blk CA, w1.heap.size ≤ b := HI.out.2.1
        have hW4 : Below w1.heap.size w1 W4 := (HI.out.2.2.trans (hBa.mono HI.out.2.2.size)).trans (hcg.toBelow hsub (Nat.le_trans HI.out.2.2.size hBa.size))
        have HW4 : Hid (SLine 7 W4 A' (callsOf (L.take (j + 1))).length c' (flatO (callsOf (L.take (j + 1)))) ∧ (∀ b ∈ blk A', w1.heap.size ≤ b) ∧ Below w1.heap.size w1 W4) := Lib.hid (by
          rw [HSN.out, if_pos h6]
          refine ⟨?_, fun b hb => ?_, hW4⟩
          · rw [List.length_append]
            unfold flatO at hl ⊢
            rw [List.flatMap_append]
            simpa using hl
          · rcases hf b hb with h1 | h1
            · exact hsub b h1
            · have := hBa.size; have := HI.out.2.2.size; omega)
        have hln : (callsOf (L.take (j + 1))).length = (callsOf (L.take j)).length + 1 := by rw [HSN.out, if_pos h6]; simp
        have HLN := Lib.hid hln
        have h6' : (o.kind : Int) % 10 < 6 := by omega
        have d6t : decide ((o.kind : Int) % 10 < 6) = true := decide_eq_true h6'
        clear hr hl hcg hf hva hBa hsub hW4 hln h6
        obtain ⟨kind, a, b, dA, dn, dc, dz, nn, dir, kA, kn, kc, kz⟩ := o
        dsimp only at *
        go_wp2_with (at_builtin; refine Lib.wpList_append_run _ rfl _ _ _ _ rfl _ _ rfl rfl _ _ HRUN.out ?_)
        go_roundg (L.length - (j + 1) + 1)
        case measure => omega
        case rel => exact ⟨j + 1, A', c', by rw [HLN.out], by go_num, by omega, HW4, Nat.le_refl _⟩
      · have hcl : callsOf (L.take (j + 1)) = callsOf (L.take j) := by rw [HSN.out, if_neg h6]
        have HCL := Lib.hid hcl
        have HW4 : Hid (SLine 7 Wa CA (callsOf (L.take (j + 1))).length cc (flatO (callsOf (L.take (j + 1)))) ∧ (∀ b ∈ blk CA, w1.heap.size ≤ b) ∧ Below w1.heap.size w1 Wa) := Lib.hid (by
          rw [hcl]
          exact ⟨HI.out.1.below hBa, HI.out.2.1, HI.out.2.2.trans (hBa.mono HI.out.2.2.size)⟩)
        have d6t : decide ((o.kind : Int) % 10 < 6) = false := decide_eq_false (by omega)
        have d6n : (6 : Int) ≤ (o.kind : Int) % 10 := by omega
        clear hva hBa hcl h6
        obtain ⟨kind, a, b, dA, dn, dc, dz, nn, dir, kA, kn, kc, kz⟩ := o
        dsimp only at *
        go_wp2
        go_roundg (L.length - (j + 1) + 1)
        case measure => omega
        case rel => exact ⟨j + 1, CA, cc, by rw [HCL.out], by go_num, by omega, HW4, Nat.le_refl _⟩
    · obtain rfl : j = L.length := by omega
      have htl : L.take L.length = L := List.take_length
      rw [htl] at HI ⊢
      have hCin : ∀ o ∈ callsOf L, o.In W ∧ o.small = true ∧ o.kind % 10 < 6 := fun o ho => by
        unfold callsOf at ho
        obtain ⟨h1, h2⟩ := List.mem_filter.1 ho
        exact ⟨HO.out.2.1 o h1, HSM.out o h1, of_decide_eq_true h2⟩
      have hBW : Below W.heap.size W wr := HB1.out.trans (HI.out.2.2.mono HB1.out.size)
      have hCO : OpsIn wr CA (callsOf L).length (callsOf L) := ops_of_line HI.out.1 (fun o ho => (hCin o ho).1.below hBW)
      have hC60 : (callsOf L).length ≤ 60 := Nat.le_trans (callsOf_len L) hL60
      have HCO := Lib.hid hCO
      have HBW := Lib.hid hBW
      have HCIN : Hid (∀ o ∈ callsOf L, o.In wr ∧ o.small = true ∧ o.kind % 10 < 6) := Lib.hid (fun o ho => ⟨(hCin o ho).1.below hBW, (hCin o ho).2⟩)
      clear HI hCin hBW hCO htl HO HSM HB1
      generalize callsOf L = C at *
      go_wp2_with fail
      refine (IsD.new 1000 (by decide) wr).mono ?_
      rintro e w2 ⟨rfl, own, ho0, hD, hB2⟩
      have HD := Lib.hid (And.intro ho0 (And.intro hD hB2))
      clear ho0 hD hB2
      go_wp2_with fail
      refine (IsR.new 1000 (by decide) w2).mono ?_
      rintro e w3 ⟨rfl, ox, hx0, hR, hB3⟩
      have hH : Half wr w3 wr.heap.size w2.heap.size own ox (RD.fresh 1000) (RD.fresh 1000) := ⟨HD.out.1, fun i hi => hx0 i (Nat.lt_of_lt_of_le hi HD.out.2.2.size), HD.out.2.2.trans (hB3.mono HD.out.2.2.size), HD.out.2.1.below hB3, hR, fun i => (Nat.lt_or_ge i w2.heap.size).elim (fun h => .inr (hx0 i h)) (fun h => .inl (HD.out.2.1.1 i h))⟩
      have HH := Lib.hid hH
      clear hx0 hR hB3 hH HD
      generalize w2.heap.size = x at *
      go_wp2_with fail
      refine (HH.out.isD.stop K (by omega)).mono ?_
      rintro e w4 ⟨⟨v, rfl⟩, hN⟩
      obtain ⟨own2, O2, H4⟩ := HH.out.disk hN
      have HF : Hid (WillStop ((RD.fresh 1000).stopAt K) K) := Lib.hid ⟨rfl, by show max (K : Int) (-1) = K; omega, rfl⟩
      have HS : Hid (StopIs wr w4 wr.heap.size x ((RD.fresh 1000).stopAt K) K C 0) := Lib.hid ⟨own2, ox, .inl ⟨Nat.zero_le _, H4, Named.fresh 1000, Nat.le_refl _⟩⟩
      clear HH hN O2 H4
      generalize (RD.fresh 1000).stopAt K = r0 at *
      go_wp2_with fail
      obtain ⟨d, hd⟩ : ∃ d, wr.heap.size = d := ⟨_, rfl⟩
      rw [hd] at HS ⊢
      have hK0 : (0 : Int) ≤ (K : Int) := by omega
      obtain ⟨wz, hwz⟩ : ∃ wz : World, wz = wr := ⟨_, rfl⟩
      subst hwz
      go_loopg [44] (C.length + 1) (fun kx i wq => ∃ j : Nat, i = .int .i64 j ∧ j ≤ C.length ∧ Hid (StopIs wz wq d x r0 K C j) ∧ C.length - j + 1 ≤ kx)
      case atStart => exact ⟨0, rfl, Nat.zero_le _, HS, Nat.le_refl _⟩
      case round =>
        obtain ⟨j, rfl, hj, HI, hm⟩ := hrel
        by_cases hlt : j < C.length
        · obtain ⟨o, ho⟩ : ∃ o, C[j]? = some o := ⟨_, List.getElem?_eq_getElem hlt⟩
          obtain ⟨g, off, rfl, hg, hc⟩ := (HCO.out.below HI.out.on).2.2 (by omega)
          have hcs := hc j o ho
          obtain ⟨hin, hsm, hkd⟩ := HCIN.out o (List.mem_of_getElem? ho)
          have HCE : Hid (o.cells = [.int .u64 (o.kind : Int), .string o.a, .string o.b, .slice o.dA o.dn o.dc, .int .i64 o.n, .int .i64 o.dir, .slice o.kA o.kn o.kc]) := Lib.hid rfl
          have d0 := hcs 0 _ rfl
          have d1 := hcs 1 _ rfl
          have d2 := hcs 2 _ rfl
          have d3 := hcs 3 _ rfl
          have d4 := hcs 4 _ rfl
          have d5 := hcs 5 _ rfl
          have d6 := hcs 6 _ rfl
          rw [Nat.add_zero] at d0
          have hlt' : (j : Int) < (C.length : Int) := by omega
          have hj0 : (0 : Int) ≤ (j : Int) := by omega
          obtain ⟨Wa, hWa⟩ : ∃ Wa, wr.alloc (.cells o.cells.toArray 30) = Wa := ⟨_, rfl⟩
          have hBa : Below wr.heap.size wr Wa := by rw [← hWa]; exact (Below.refl _ wr).alloc (Nat.le_refl _) _
          have hva : Wa.heap[wr.heap.size]? = some (.cells o.cells.toArray 30 (0, 0)) := by rw [← hWa]; exact heap_alloc_new wr _
          have HSa := Lib.hid (HI.out.below hBa)
          rw [HCE.out] at hWa hva
          obtain ⟨va, hvae⟩ : ∃ va, wr.heap.size = va := ⟨_, rfl⟩
          rw [hvae] at hva
          have e0 : Wa.cell? ⟨va, 0, none⟩ = some (.int .u64 (o.kind : Int)) := by rw [cell_of_row _ va 0 _ _ (0, 0) hva]; rfl
          have e1 : Wa.cell? ⟨va, 1, none⟩ = some (.string o.a) := by rw [cell_of_row _ va 1 _ _ (0, 0) hva]; rfl
          have e2 : Wa.cell? ⟨va, 2, none⟩ = some (.string o.b) := by rw [cell_of_row _ va 2 _ _ (0, 0) hva]; rfl
          have e3 : Wa.cell? ⟨va, 3, none⟩ = some (.slice o.dA o.dn o.dc) := by rw [cell_of_row _ va 3 _ _ (0, 0) hva]; rfl
          have e4 : Wa.cell? ⟨va, 4, none⟩ = some (.int .i64 o.n) := by rw [cell_of_row _ va 4 _ _ (0, 0) hva]; rfl
          have e5 : Wa.cell? ⟨va, 5, none⟩ = some (.int .i64 o.dir) := by rw [cell_of_row _ va 5 _ _ (0, 0) hva]; rfl
          have e6 : Wa.cell? ⟨va, 6, none⟩ = some (.slice o.kA o.kn o.kc) := by rw [cell_of_row _ va 6 _ _ (0, 0) hva]; rfl
          by_cases hjk : j < K
          · have HOFF := Lib.hid (HSa.out.off_live HF.out hj hjk)
            have hgo := HSa.out.go_live HF.out hjk (by omega) ho hin hsm hkd
            rw [HCE.out] at hgo
            have HGO := Lib.hid hgo
            have p1 : decide ((j : Int) < (K : Int)) = true := decide_eq_true (by omega)
            have p2 : decide ((K : Int) ≤ (j : Int)) = false := decide_eq_false (by omega)
            have p3 : (j : Int) < (K : Int) := by omega
            clear hc hcs hin hsm hkd hva hBa hgo ho hg
            obtain ⟨kind, a, b, dA, dn, dc, dz, nn, dir, kA, kn, kc, kz⟩ := o
            dsimp only at *
            go_wp2_with (first | (go_at_call 8; (with_reducible refine HOFF.out.mono ?_); rintro e w' ⟨rfl, rfl⟩) | (go_at_call 9; (with_reducible refine HGO.out.mono ?_); rintro e w5 ⟨rfl, hs5⟩; have HS5 := Lib.hid hs5; clear hs5))
            go_roundg (C.length - (j + 1) + 1)
            case measure => omega
            case rel => exact ⟨j + 1, by go_num, by omega, HS5, Nat.le_refl _⟩
          · have hgo := HSa.out.go_dead HF.out (by omega) (by omega) ho hin hsm hkd
            rw [HCE.out] at hgo
            have HGO := Lib.hid hgo
            have HOFF : Hid (∀ V, StopIs wz V d x r0 K C (j + 1) → Calls Try.prog 8 #[.pointer (some ⟨d, 0, none⟩)] V fun e w' => e = .returned (.bool true) ∧ V = w') := Lib.hid (fun V h => h.off_dead HF.out (by omega) (by omega))
            have p1 : decide ((j : Int) < (K : Int)) = false := decide_eq_false (by omega)
            have p2 : decide ((K : Int) ≤ (j : Int)) = true := decide_eq_true (by omega)
            have p3 : (K : Int) ≤ (j : Int) := by omega
            clear hc hcs hin hsm hkd hva hBa hgo ho hg
            obtain ⟨kind, a, b, dA, dn, dc, dz, nn, dir, kA, kn, kc, kz⟩ := o
            dsimp only at *
            go_wp2_with (first | (go_at_call 10; (with_reducible refine HGO.out.mono ?_); rintro e w5 ⟨rfl, hs5⟩; have HS5 := Lib.hid hs5; clear hs5) | (go_at_call 8; (with_reducible refine (HOFF.out _ HS5.out).mono ?_); rintro e w' ⟨rfl, rfl⟩))
            go_roundg (C.length - (j + 1) + 1)
            case measure => omega
            case rel => exact ⟨j + 1, by go_num, by omega, HS5, Nat.le_refl _⟩
        · obtain rfl : j = C.length := by omega
          obtain ⟨own3, ox3, r, r', hH3, hnow, hfiles⟩ := HI.out.fin
          obtain ⟨FA, fn, fc, NA, nn, nc, x0, x1, hx, hnn, hnb, hrow⟩ := end_at hH3 hnow hfiles
          have HLIST := Lib.hid (hH3.isD)
          have HROW := Lib.hid hrow
          clear hrow hH3 hnow hfiles
          obtain ⟨wt, hwt⟩ : ∃ wt : World, wt = wr := ⟨_, rfl⟩
          subst hwt
          have HST := Lib.hid HI.out
          have HLI : Hid (Calls Try.prog 11 #[.pointer (some ⟨d, 0, none⟩)] wt.drew fun e w' => (∃ A' c', e = .returned (.slice A' nn c')) ∧ Below wt.heap.size wt w') := Lib.hid (by
            have h2 := (HLIST.out.below (Below.refl _ wt).drew).list
            refine h2.mono fun e w' hh => ⟨?_, ?_⟩
            · obtain ⟨⟨A', c', q, _⟩, _⟩ := hh
              rw [hnn] at q
              exact ⟨A', c', q⟩
            · exact (Below.refl _ wt).drew.trans hh.2)
          clear HLIST HI hnn hm hj HS
          go_upto_region 20 with fail
          refine wp_region_held_drew (S := fun V => V.cell? ⟨x, 1, none⟩ = some (.slice NA nn nc)) (by kernel_rfl) x1 (fun hHeld => ?_)
          refine takeH 0 78 (v := (.pointer (some ⟨d, 0, none⟩))) rfl rfl (by kernel_rfl) (by kernel_rfl) (by kernel_rfl) (fun _ _ _ h => h) (by rfl) ?_ x1 ?_
          · intro w hSw
            go_simp
          refine takeH 3 81 (v := (.pointer (some ⟨x, 0, none⟩))) rfl rfl (by kernel_rfl) (by kernel_rfl) (by kernel_rfl) (fun _ _ _ h => h) (by rfl) ?_ x1 ?_
          · intro w hSw
            go_simp
          refine takeH 4 82 (v := (.pointer (some ⟨x, 0, none⟩))) rfl rfl (by kernel_rfl) (by kernel_rfl) (by kernel_rfl) (fun _ _ _ h => h) (by rfl) ?_ x1 ?_
          · intro w hSw
            go_simp
          refine takeH 5 83 (v := (.pointer (some ⟨x, 1, none⟩))) rfl rfl (by kernel_rfl) (by kernel_rfl) (by kernel_rfl) (fun _ _ _ h => h) (by rfl) ?_ x1 ?_
          · intro w hSw
            go_simp
          refine takeH 6 84 (v := (.slice NA nn nc)) rfl rfl (by kernel_rfl) (by kernel_rfl) (by kernel_rfl) (fun _ _ _ h => h) (by rfl) ?_ x1 ?_
          · intro w hSw
            go_simp
          refine takeH 7 85 (v := (.int .i64 (nn : Int))) rfl rfl (by kernel_rfl) (by kernel_rfl) (by kernel_rfl) (fun _ _ _ h => h) (by rfl) ?_ x1 ?_
          · intro w hSw
            go_simp
          refine wpAnyH_ready (rs := [1]) (by kernel_rfl) (by simp) ?_
          refine AllReadyH.cons rfl (fun K hK => ?_) AllReadyH.nil
          go_simp
          go_at_call 11
          refine HLI.out.mono ?_
          rintro e w5 ⟨⟨A5, c5, rfl⟩, hB5⟩
          have y1 : w5.cell? ⟨x, 1, none⟩ = some (.slice NA nn nc) := (hB5.cell (p := ⟨x, 1, none⟩) hx).trans x1
          have HB5 := Lib.hid hB5
          clear hB5
          refine hK.out _ _ y1 (fun _ => ?_)
          clear hK K
          refine takeH 2 80 (v := (.int .i64 (nn : Int))) rfl rfl (by kernel_rfl) (by kernel_rfl) (by kernel_rfl) (fun _ _ _ h => h) (by rfl) ?_ y1 ?_
          · intro w hSw
            go_simp
          refine takeH 8 86 (v := (.bool true)) rfl rfl (by kernel_rfl) (by kernel_rfl) (by kernel_rfl) (fun _ _ _ h => h) (by rfl) ?_ y1 ?_
          · intro w hSw
            go_simp
          refine takeH 9 12 (v := (.bool true)) rfl rfl (by kernel_rfl) (by kernel_rfl) (by kernel_rfl) (fun _ _ _ h => h) (by rfl) ?_ y1 ?_
          · intro w hSw
            go_simp
          refine wpAnyH_done (by kernel_rfl) ?_ _
          go_wp2_with fail
          obtain ⟨M, hM⟩ : ∃ M : Nat, min C.length (K + 1) = M := ⟨_, rfl⟩
          have hMi : min (C.length : Int) ((K : Int) + 1) = (M : Int) := by omega
          have HCALL : Hid (∀ V, Below wt.heap.size wt V → Calls Try.prog 13 #[.pointer (some ⟨d, 0, none⟩)] V fun e w' => e = .returned (.int .i64 (M : Int)) ∧ V = w') := Lib.hid (fun V hV => by
            have := (HST.out.below hV).calls HF.out
            rw [hM] at this
            exact this)
          have HWT := Lib.hid (HBW.out.trans (HST.out.on.mono HBW.out.size))
          clear hM HST HF HCO HCIN
          go_loopg [12, 92] (nn + 1) (fun kx sv i wq => ∃ k : Nat, sv = .bool true ∧ i = .int .i64 k ∧ k ≤ nn ∧ Hid (Below wt.heap.size wt wq) ∧ nn - k + 1 ≤ kx)
          case atStart => exact ⟨0, rfl, rfl, Nat.zero_le _, HB5, Nat.le_refl _⟩
          case round =>
            obtain ⟨k, rfl, rfl, hk, HQ, hm⟩ := hrel
            by_cases hlt : k < nn
            · obtain ⟨nm, q, g2, off2, gf, fo, A6, m6, c6, zs, rfl, rfl, hq, hg2, hgf, z0, z1, z2, hz, hread⟩ := HROW.out k hlt
              have u0 : wr.cell? ⟨g2, off2 + k * 2, none⟩ = some (.string nm) := (HQ.out.cell (p := ⟨g2, off2 + k * 2, none⟩) hg2).trans z0
              have u1 : wr.cell? ⟨g2, off2 + k * 2 + 1, none⟩ = some (.int .i64 (q : Int)) := (HQ.out.cell (p := ⟨g2, off2 + k * 2 + 1, none⟩) hg2).trans z1
              obtain ⟨Wa, hWa⟩ : ∃ Wa, wr.alloc (.cells #[.string nm, .int .i64 (q : Int)] 47) = Wa := ⟨_, rfl⟩
              have hBa : Below wr.heap.size wr Wa := by rw [← hWa]; exact (Below.refl _ wr).alloc (Nat.le_refl _) _
              have hva : Wa.heap[wr.heap.size]? = some (.cells #[.string nm, .int .i64 (q : Int)] 47 (0, 0)) := by rw [← hWa]; exact heap_alloc_new wr _
              have HBa := Lib.hid (HQ.out.trans (hBa.mono HQ.out.size))
              have HRD := Lib.hid (hread Wa HBa.out)
              obtain ⟨va, hvae⟩ : ∃ va, wr.heap.size = va := ⟨_, rfl⟩
              rw [hvae] at hva
              have v0 : Wa.cell? ⟨va, 0, none⟩ = some (.string nm) := by rw [cell_of_row _ va 0 _ _ (0, 0) hva]; rfl
              have v1 : Wa.cell? ⟨va, 1, none⟩ = some (.int .i64 (q : Int)) := by rw [cell_of_row _ va 1 _ _ (0, 0) hva]; rfl
              have hval : va < Wa.heap.size := lt_of_block hva
              have hlt' : (k : Int) < (nn : Int) := by omega
              have hk0 : (0 : Int) ≤ (k : Int) := by omega
              have hq' : (q : Int) < (fn : Int) := by omega
              have hq0 : (0 : Int) ≤ (q : Int) := by omega
              have HZ := Lib.hid (And.intro hz (And.intro z2 (And.intro x0 (And.intro hgf hx))))
              clear hread hz z0 z1 z2 hBa hva HROW HLI y1 x1 hq hg2 hgf
              go_wp2_with fail
              refine HRD.out.mono ?_
              rintro e w6 ⟨⟨A7, c7, rfl, hz7⟩, hB6⟩
              have hB7 := HBa.out.trans (hB6.mono HBa.out.size)
              have HB7 := Lib.hid hB7
              have HS6 : Hid (w6.cell? ⟨x, 0, none⟩ = some (.slice (some ⟨gf, fo, none⟩) fn fc) ∧ w6.cell? ⟨va, 1, none⟩ = some (.int .i64 (q : Int)) ∧ w6.cell? ⟨gf, fo + q * 2, none⟩ = some (.slice A6 m6 c6) ∧ RowZ w6 A7 m6 zs ∧ RowZ w6 A6 m6 zs) := Lib.hid ⟨(hB7.cell (p := ⟨x, 0, none⟩) HZ.out.2.2.2.2).trans HZ.out.2.2.1, (hB6.cell (p := ⟨va, 1, none⟩) hval).trans v1, (hB7.cell (p := ⟨gf, fo + q * 2, none⟩) HZ.out.2.2.2.1).trans HZ.out.2.1, hz7, HZ.out.1.below hB7⟩
              clear hz7 hB6 hB7 HZ HRD u0 u1 v0 v1
              obtain ⟨ss, hss⟩ : ∃ ss, strOfNums zs = ss := ⟨_, rfl⟩
              go_upto_region 25 with fail
              refine wp_region_held_drew (S := fun V => V.cell? ⟨x, 0, none⟩ = some (.slice (some ⟨gf, fo, none⟩) fn fc) ∧ V.cell? ⟨va, 1, none⟩ = some (.int .i64 (q : Int)) ∧ V.cell? ⟨gf, fo + q * 2, none⟩ = some (.slice A6 m6 c6) ∧ RowZ V A7 m6 zs ∧ RowZ V A6 m6 zs) (by kernel_rfl) HS6.out (fun _ => ?_)
              refine takeH 0 103 (v := (.bool true)) rfl rfl (by kernel_rfl) (by kernel_rfl) (by kernel_rfl) (fun _ _ _ h => h) (by rfl) ?_ HS6.out ?_
              · intro w hSw
                obtain ⟨s0, s1, s2, s3, s4⟩ := hSw
                have k1 := conv_row s3 c7
                have k2 := conv_row s4 c6
                rw [hss] at k1 k2
                go_simp
              simp only [Act.put, List.setIfInBounds_toArray, List.set_cons_zero, List.set_cons_succ]
              refine takeH 1 104 (v := (.bool true)) rfl rfl (by kernel_rfl) (by kernel_rfl) (by kernel_rfl) (fun _ _ _ h => h) (by rfl) ?_ HS6.out ?_
              · intro w hSw
                obtain ⟨s0, s1, s2, s3, s4⟩ := hSw
                have k1 := conv_row s3 c7
                have k2 := conv_row s4 c6
                rw [hss] at k1 k2
                go_simp
              simp only [Act.put, List.setIfInBounds_toArray, List.set_cons_zero, List.set_cons_succ]
              refine takeH 2 105 (v := (.int .i64 0)) rfl rfl (by kernel_rfl) (by kernel_rfl) (by kernel_rfl) (fun _ _ _ h => h) (by rfl) ?_ HS6.out ?_
              · intro w hSw
                obtain ⟨s0, s1, s2, s3, s4⟩ := hSw
                have k1 := conv_row s3 c7
                have k2 := conv_row s4 c6
                rw [hss] at k1 k2
                go_simp
              simp only [Act.put, List.setIfInBounds_toArray, List.set_cons_zero, List.set_cons_succ]
              refine takeH 3 106 (v := (.bool true)) rfl rfl (by kernel_rfl) (by kernel_rfl) (by kernel_rfl) (fun _ _ _ h => h) (by rfl) ?_ HS6.out ?_
              · intro w hSw
                obtain ⟨s0, s1, s2, s3, s4⟩ := hSw
                have k1 := conv_row s3 c7
                have k2 := conv_row s4 c6
                rw [hss] at k1 k2
                go_simp
              simp only [Act.put, List.setIfInBounds_toArray, List.set_cons_zero, List.set_cons_succ]
              refine takeH 4 107 (v := (.bool true)) rfl rfl (by kernel_rfl) (by kernel_rfl) (by kernel_rfl) (fun _ _ _ h => h) (by rfl) ?_ HS6.out ?_
              · intro w hSw
                obtain ⟨s0, s1, s2, s3, s4⟩ := hSw
                have k1 := conv_row s3 c7
                have k2 := conv_row s4 c6
                rw [hss] at k1 k2
                go_simp
              simp only [Act.put, List.setIfInBounds_toArray, List.set_cons_zero, List.set_cons_succ]
              refine takeH 5 108 (v := (.bool true)) rfl rfl (by kernel_rfl) (by kernel_rfl) (by kernel_rfl) (fun _ _ _ h => h) (by rfl) ?_ HS6.out ?_
              · intro w hSw
                obtain ⟨s0, s1, s2, s3, s4⟩ := hSw
                have k1 := conv_row s3 c7
                have k2 := conv_row s4 c6
                rw [hss] at k1 k2
                go_simp
              simp only [Act.put, List.setIfInBounds_toArray, List.set_cons_zero, List.set_cons_succ]
              refine takeH 6 109 (v := (.slice A7 m6 c7)) rfl rfl (by kernel_rfl) (by kernel_rfl) (by kernel_rfl) (fun _ _ _ h => h) (by rfl) ?_ HS6.out ?_
              · intro w hSw
                obtain ⟨s0, s1, s2, s3, s4⟩ := hSw
                have k1 := conv_row s3 c7
                have k2 := conv_row s4 c6
                rw [hss] at k1 k2
                go_simp
              simp only [Act.put, List.setIfInBounds_toArray, List.set_cons_zero, List.set_cons_succ]
              refine takeH 7 110 (v := (.string ss)) rfl rfl (by kernel_rfl) (by kernel_rfl) (by kernel_rfl) (fun _ _ _ h => h) (by rfl) ?_ HS6.out ?_
              · intro w hSw
                obtain ⟨s0, s1, s2, s3, s4⟩ := hSw
                have k1 := conv_row s3 c7
                have k2 := conv_row s4 c6
                rw [hss] at k1 k2
                go_simp
              simp only [Act.put, List.setIfInBounds_toArray, List.set_cons_zero, List.set_cons_succ]
              refine takeH 8 111 (v := (.pointer (some ⟨x, 0, none⟩))) rfl rfl (by kernel_rfl) (by kernel_rfl) (by kernel_rfl) (fun _ _ _ h => h) (by rfl) ?_ HS6.out ?_
              · intro w hSw
                obtain ⟨s0, s1, s2, s3, s4⟩ := hSw
                have k1 := conv_row s3 c7
                have k2 := conv_row s4 c6
                rw [hss] at k1 k2
                go_simp
              simp only [Act.put, List.setIfInBounds_toArray, List.set_cons_zero, List.set_cons_succ]
              refine takeH 9 112 (v := (.pointer (some ⟨x, 0, none⟩))) rfl rfl (by kernel_rfl) (by kernel_rfl) (by kernel_rfl) (fun _ _ _ h => h) (by rfl) ?_ HS6.out ?_
              · intro w hSw
                obtain ⟨s0, s1, s2, s3, s4⟩ := hSw
                have k1 := conv_row s3 c7
                have k2 := conv_row s4 c6
                rw [hss] at k1 k2
                go_simp
              simp only [Act.put, List.setIfInBounds_toArray, List.set_cons_zero, List.set_cons_succ]
              refine takeH 10 113 (v := (.pointer (some ⟨x, 0, none⟩))) rfl rfl (by kernel_rfl) (by kernel_rfl) (by kernel_rfl) (fun _ _ _ h => h) (by rfl) ?_ HS6.out ?_
              · intro w hSw
                obtain ⟨s0, s1, s2, s3, s4⟩ := hSw
                have k1 := conv_row s3 c7
                have k2 := conv_row s4 c6
                rw [hss] at k1 k2
                go_simp
              simp only [Act.put, List.setIfInBounds_toArray, List.set_cons_zero, List.set_cons_succ]
              refine takeH 11 114 (v := (.slice (some ⟨gf, fo, none⟩) fn fc)) rfl rfl (by kernel_rfl) (by kernel_rfl) (by kernel_rfl) (fun _ _ _ h => h) (by rfl) ?_ HS6.out ?_
              · intro w hSw
                obtain ⟨s0, s1, s2, s3, s4⟩ := hSw
                have k1 := conv_row s3 c7
                have k2 := conv_row s4 c6
                rw [hss] at k1 k2
                go_simp
              simp only [Act.put, List.setIfInBounds_toArray, List.set_cons_zero, List.set_cons_succ]
              refine takeH 12 115 (v := (.pointer (some ⟨va, 1, none⟩))) rfl rfl (by kernel_rfl) (by kernel_rfl) (by kernel_rfl) (fun _ _ _ h => h) (by rfl) ?_ HS6.out ?_
              · intro w hSw
                obtain ⟨s0, s1, s2, s3, s4⟩ := hSw
                have k1 := conv_row s3 c7
                have k2 := conv_row s4 c6
                rw [hss] at k1 k2
                go_simp
              simp only [Act.put, List.setIfInBounds_toArray, List.set_cons_zero, List.set_cons_succ]
              refine takeH 13 116 (v := (.int .i64 (q : Int))) rfl rfl (by kernel_rfl) (by kernel_rfl) (by kernel_rfl) (fun _ _ _ h => h) (by rfl) ?_ HS6.out ?_
              · intro w hSw
                obtain ⟨s0, s1, s2, s3, s4⟩ := hSw
                have k1 := conv_row s3 c7
                have k2 := conv_row s4 c6
                rw [hss] at k1 k2
                go_simp
              simp only [Act.put, List.setIfInBounds_toArray, List.set_cons_zero, List.set_cons_succ]
              refine takeH 14 117 (v := (.pointer (some ⟨gf, fo + q * 2, none⟩))) rfl rfl (by kernel_rfl) (by kernel_rfl) (by kernel_rfl) (fun _ _ _ h => h) (by rfl) ?_ HS6.out ?_
              · intro w hSw
                obtain ⟨s0, s1, s2, s3, s4⟩ := hSw
                have k1 := conv_row s3 c7
                have k2 := conv_row s4 c6
                rw [hss] at k1 k2
                go_simp
              simp only [Act.put, List.setIfInBounds_toArray, List.set_cons_zero, List.set_cons_succ]
              refine takeH 15 118 (v := (.pointer (some ⟨gf, fo + q * 2, none⟩))) rfl rfl (by kernel_rfl) (by kernel_rfl) (by kernel_rfl) (fun _ _ _ h => h) (by rfl) ?_ HS6.out ?_
              · intro w hSw
                obtain ⟨s0, s1, s2, s3, s4⟩ := hSw
                have k1 := conv_row s3 c7
                have k2 := conv_row s4 c6
                rw [hss] at k1 k2
                go_simp
              simp only [Act.put, List.setIfInBounds_toArray, List.set_cons_zero, List.set_cons_succ]
              refine takeH 16 119 (v := (.slice A6 m6 c6)) rfl rfl (by kernel_rfl) (by kernel_rfl) (by kernel_rfl) (fun _ _ _ h => h) (by rfl) ?_ HS6.out ?_
              · intro w hSw
                obtain ⟨s0, s1, s2, s3, s4⟩ := hSw
                have k1 := conv_row s3 c7
                have k2 := conv_row s4 c6
                rw [hss] at k1 k2
                go_simp
              simp only [Act.put, List.setIfInBounds_toArray, List.set_cons_zero, List.set_cons_succ]
              refine takeH 17 120 (v := (.string ss)) rfl rfl (by kernel_rfl) (by kernel_rfl) (by kernel_rfl) (fun _ _ _ h => h) (by rfl) ?_ HS6.out ?_
              · intro w hSw
                obtain ⟨s0, s1, s2, s3, s4⟩ := hSw
                have k1 := conv_row s3 c7
                have k2 := conv_row s4 c6
                rw [hss] at k1 k2
                go_simp
              simp only [Act.put, List.setIfInBounds_toArray, List.set_cons_zero, List.set_cons_succ]
              refine takeH 18 121 (v := (.bool true)) rfl rfl (by kernel_rfl) (by kernel_rfl) (by kernel_rfl) (fun _ _ _ h => h) (by rfl) ?_ HS6.out ?_
              · intro w hSw
                obtain ⟨s0, s1, s2, s3, s4⟩ := hSw
                have k1 := conv_row s3 c7
                have k2 := conv_row s4 c6
                rw [hss] at k1 k2
                go_simp
              simp only [Act.put, List.setIfInBounds_toArray, List.set_cons_zero, List.set_cons_succ]
              refine takeH 19 122 (v := (.bool true)) rfl rfl (by kernel_rfl) (by kernel_rfl) (by kernel_rfl) (fun _ _ _ h => h) (by rfl) ?_ HS6.out ?_
              · intro w hSw
                obtain ⟨s0, s1, s2, s3, s4⟩ := hSw
                have k1 := conv_row s3 c7
                have k2 := conv_row s4 c6
                rw [hss] at k1 k2
                go_simp
              simp only [Act.put, List.setIfInBounds_toArray, List.set_cons_zero, List.set_cons_succ]
              refine takeH 20 12 (v := (.bool true)) rfl rfl (by kernel_rfl) (by kernel_rfl) (by kernel_rfl) (fun _ _ _ h => h) (by rfl) ?_ HS6.out ?_
              · intro w hSw
                obtain ⟨s0, s1, s2, s3, s4⟩ := hSw
                have k1 := conv_row s3 c7
                have k2 := conv_row s4 c6
                rw [hss] at k1 k2
                go_simp
              simp only [Act.put, List.setIfInBounds_toArray, List.set_cons_zero, List.set_cons_succ]
              refine wpAnyH_done (by kernel_rfl) ?_ _
              go_wp2
              go_roundg (nn - (k + 1) + 1)
              case measure => omega
              case rel => exact ⟨k + 1, rfl, by go_num, by omega, Lib.hid (HB7.out.drew), Nat.le_refl _⟩
            · clear HROW HLI y1 x0 x1
              go_wp2_with (first | (go_at_call 13; (with_reducible refine (HCALL.out _ HQ.out).mono ?_); rintro e w' ⟨rfl, rfl⟩) | (go_at_call 14; (with_reducible refine (lives_any _).mono ?_); rintro e w7 ⟨rfl, hB7⟩; have HB7 := Lib.hid (HQ.out.trans (hB7.mono HQ.out.size)); clear hB7))
              go_ret
              exact ⟨rfl, HWT.out.trans (HB7.out.mono HWT.out.size)⟩
end Go.Proofs.Ythfoojagnfbdpaa
