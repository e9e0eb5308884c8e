/-
  Programs as blocks: which functions may be.
  Programs as blocks: which may be.
-/
import Derived.Test.YtcanjkjpdnbcnaaZar
import Derived.Deep.Cut
import Derived.Deep.CutRange
import Derived.Deep.QuietTactic
import Derived.BigQuiet
namespace Go.Proofs.Ytcanjkjpdnbcnaa
open Go.RowKit
set_option linter.unusedVariables false
set_option linter.unusedSimpArgs false
set_option maxRecDepth 100000

def inB (t : Int) (nb : Nat) : Bool := decide (0 ≤ t) && decide (t < (nb : Int))
def jumpB (b : MBl) (nb : Nat) : Bool := decide (b.kind = 1) && inB b.go nb && decide (b.a = 0) && decide (b.els = 0)
def branchB (b : MBl) (n : Int) (nb : Nat) : Bool := decide (b.kind = 2) && inB b.go nb && inB b.els nb && regB b.a n false
def leaveB (b : MBl) (n : Int) : Bool := decide (b.kind = 3) && decide (b.go = 0) && decide (b.els = 0) && regB b.a n false
def mayB (n : Int) (nb : Nat) (b : MBl) : Bool := b.ins.all (fun x => mayI x n) && (jumpB b nb || branchB b n nb || leaveB b n)
/-- May it be a function? -/
def mayF (f : MFn) : Bool := nameB f.name.data.toList && decide (0 ≤ f.params) && decide (f.params ≤ 8) && decide (f.params ≤ f.regs) && decide (f.regs ≤ 4096) && decide (f.blocks.length ≠ 0) && f.blocks.all (mayB f.regs f.blocks.length)
theorem all_no {α : Type} {p : α → Bool} {l : List α} {k : Nat} {a : α} (h : l[k]? = some a) (hp : p a = false) : l.all p = false := by
  rw [List.all_eq_false]
  exact ⟨a, List.mem_of_getElem? h, by simp [hp]⟩
theorem all_yes {α : Type} {p : α → Bool} {l : List α} {n : Nat} (hl : l.length = n) (h : ∀ j a, j < n → l[j]? = some a → p a = true) : l.all p = true := by
  rw [List.all_eq_true]
  intro a ha
  obtain ⟨j, hj⟩ := List.getElem?_of_mem ha
  exact h j a (by have := (List.getElem?_eq_some_iff.1 hj).1; omega) hj

set_option maxHeartbeats 6400000 in
theorem mayF_any (f0 : MFn) (w : World) (hi : f0.In w) (hs : f0.name.size ≤ 4000000000) (hx : ∀ b ∈ f0.blocks, ∀ x ∈ b.ins, x.name.size ≤ 4000000000) :
    Calls Try.prog 25 #[.agg f0.cells.toArray] w fun e w' => e = .returned (.bool (mayF f0)) ∧ Below w.heap.size w w' := by
  obtain ⟨name, params, regs, bA, bn, bc, bls⟩ := f0
  obtain ⟨R, hR⟩ : ∃ R, mayF ⟨name, params, regs, bA, bn, bc, bls⟩ = R := ⟨_, rfl⟩
  rw [hR]
  have HBL : Hid (MBls w bA bn bls) := Lib.hid hi.blocks
  have HX := Lib.hid hx
  have hbl : bls.length = bn := hi.blocks.1
  have hbn : (bn : Int) ≤ 9223372036854775807 := by have h1 := hi.blocksR.1; have h2 := hi.blocksR.2; dsimp only at h1 h2; unfold maxLen at h2; omega
  have HR : Hid (R = (nameB name.data.toList && decide (0 ≤ params) && decide (params ≤ 8) && decide (params ≤ regs) && decide (regs ≤ 4096) && decide (bls.length ≠ 0) && bls.all (mayB regs bls.length))) := Lib.hid hR.symm
  have HL := Lib.hid hbl
  change Calls Try.prog 25 #[.agg #[.string name, .int .i64 params, .int .i64 regs, .slice bA bn bc]] w _
  obtain ⟨W0, hW0⟩ : ∃ W0, w.alloc (.cells #[.string name, .int .i64 params, .int .i64 regs, .slice bA bn bc] 47) = W0 := ⟨_, rfl⟩
  have hB0 : Below w.heap.size w W0 := by rw [← hW0]; exact (Below.refl _ w).alloc (Nat.le_refl _) _
  have hv0 : W0.heap[w.heap.size]? = some (.cells #[.string name, .int .i64 params, .int .i64 regs, .slice bA bn bc] 47 (0, 0)) := by rw [← hW0]; exact heap_alloc_new w _
  have y0 : W0.cell? ⟨w.heap.size, 0, none⟩ = some (.string name) := by rw [cell_of_row _ _ 0 _ _ (0, 0) hv0]; rfl
  have y1 : W0.cell? ⟨w.heap.size, 1, none⟩ = some (.int .i64 params) := by rw [cell_of_row _ _ 1 _ _ (0, 0) hv0]; rfl
  have y2 : W0.cell? ⟨w.heap.size, 2, none⟩ = some (.int .i64 regs) := by rw [cell_of_row _ _ 2 _ _ (0, 0) hv0]; rfl
  have y3 : W0.cell? ⟨w.heap.size, 3, none⟩ = some (.slice bA bn bc) := by rw [cell_of_row _ _ 3 _ _ (0, 0) hv0]; rfl
  have hlt : w.heap.size < W0.heap.size := World.block_lt_of_cell? W0 _ y0
  obtain ⟨v0, hv0e⟩ : ∃ v0, w.heap.size = v0 := ⟨_, rfl⟩
  rw [hv0e] at y0 y1 y2 y3 hlt
  have HB := Lib.hid hB0
  clear hi hx hR hbl hv0 hB0
  go_enter Try.func25, Try.ntmps25
  go_wp2_with fail
  refine (risName_any name hs _).mono ?_
  rintro e W1 ⟨rfl, hb1⟩
  have y0 := (hb1.cell (p := ⟨v0, 0, none⟩) hlt).trans y0
  have y1 := (hb1.cell (p := ⟨v0, 1, none⟩) hlt).trans y1
  have y2 := (hb1.cell (p := ⟨v0, 2, none⟩) hlt).trans y2
  have y3 := (hb1.cell (p := ⟨v0, 3, none⟩) hlt).trans y3
  have HB := Lib.hid (HB.out.trans (hb1.mono HB.out.size))
  have hlt := Nat.lt_of_lt_of_le hlt hb1.size
  clear hb1 hW0 hs
  generalize hqn : nameB name.data.toList = qn at *
  cases qn
  case false =>
    have HF : Hid (R = false) := Lib.hid (by rw [HR.out]; simp)
    go_wp2_with fail
    go_ret
    rw [HF.out]; exact ⟨rfl, by first | exact HB.out | (rw [← hv0e]; exact HB.out)⟩
  by_cases hpA : params < 0
  · have HF : Hid (R = false) := Lib.hid (by
      have h1 : ¬ 0 ≤ params := by omega
      rw [HR.out]
      simp [h1])
    go_wp2_with fail
    go_ret
    rw [HF.out]; exact ⟨rfl, by first | exact HB.out | (rw [← hv0e]; exact HB.out)⟩
  by_cases hpB : 8 < params
  · have HF : Hid (R = false) := Lib.hid (by
      have h1 : ¬ params ≤ 8 := by omega
      rw [HR.out]
      simp [h1])
    go_wp2_with fail
    go_ret
    rw [HF.out]; exact ⟨rfl, by first | exact HB.out | (rw [← hv0e]; exact HB.out)⟩
  by_cases hpC : regs < params
  · have HF : Hid (R = false) := Lib.hid (by
      have h1 : ¬ params ≤ regs := by omega
      rw [HR.out]
      simp [h1])
    go_wp2_with fail
    go_ret
    rw [HF.out]; exact ⟨rfl, by first | exact HB.out | (rw [← hv0e]; exact HB.out)⟩
  by_cases hpD : 4096 < regs
  · have HF : Hid (R = false) := Lib.hid (by
      have h1 : ¬ regs ≤ 4096 := by omega
      rw [HR.out]
      simp [h1])
    go_wp2_with fail
    go_ret
    rw [HF.out]; exact ⟨rfl, by first | exact HB.out | (rw [← hv0e]; exact HB.out)⟩
  by_cases hb0 : bn = 0
  · have HF : Hid (R = false) := Lib.hid (by
      have h1 : bls.length = 0 := by rw [HL.out]; exact hb0
      rw [HR.out]
      simp [h1])
    subst hb0
    go_wp2_with fail
    go_ret
    rw [HF.out]; exact ⟨rfl, by first | exact HB.out | (rw [← hv0e]; exact HB.out)⟩
  have HT : Hid (R = bls.all (mayB regs bn)) := Lib.hid (by
    have h1 : bls.length ≠ 0 := by rw [HL.out]; exact hb0
    have h2 : 0 ≤ params := by omega
    have h3 : params ≤ 8 := by omega
    have h4 : params ≤ regs := by omega
    have h5 : regs ≤ 4096 := by omega
    rw [HR.out]
    simp only [h2, h3, h4, h5, decide_true, Bool.true_and, Bool.and_true]
    rw [decide_eq_true h1, HL.out, Bool.true_and])
  have hb1 : ((bn : Int) == 0) = false := by simp; omega
  have hb2 : ¬ (bn : Int) = 0 := by omega
  go_wp2_with fail
  go_loopw [51] (fun i wr => ∃ k : Nat, k ≤ bn ∧ i = .int .i64 k ∧ Hid (∀ j b, j < k → bls[j]? = some b → mayB regs bn b = true) ∧ Hid (Below w.heap.size w wr ∧ Below W1.heap.size W1 wr)) (fun i _ => bn - (intOf i).toNat)
  case atStart => exact ⟨0, by omega, rfl, Lib.hid (fun j o hj _ => by omega), Lib.hid ⟨HB.out, Below.refl _ _⟩⟩
  case round =>
    obtain ⟨kb, hkb, rfl, HIB, HBB⟩ := hrel
    have YR : Hid (W1.cell? ⟨v0, 2, none⟩ = some (.int .i64 regs)) := Lib.hid y2
    have Y3 : Hid (W1.cell? ⟨v0, 3, none⟩ = some (.slice bA bn bc)) := Lib.hid y3
    clear y0 y1 y2 y3 HB
    rcases Nat.lt_or_ge kb bn with hkmb | hkmb
    · obtain ⟨b, hb⟩ : ∃ b, bls[kb]? = some b := ⟨_, List.getElem?_eq_getElem (by have := HL.out; omega)⟩
      obtain ⟨gb, offb, rfl, hgb, hcb⟩ := (HBL.out.below HBB.out.1).2.2 (by omega)
      have hcsb := hcb kb b hb
      have db0 := hcsb 0 _ rfl
      have db1 := hcsb 1 _ rfl
      have db2 := hcsb 2 _ rfl
      have db3 := hcsb 3 _ rfl
      have db4 := hcsb 4 _ rfl
      rw [Nat.add_zero] at db0
      obtain ⟨Wb, hWb⟩ : ∃ Wb, wr.alloc (.cells #[.slice b.insA b.insn b.insc, .int .i64 b.kind, .int .i64 b.a, .int .i64 b.go, .int .i64 b.els] 41) = Wb := ⟨_, rfl⟩
      have hBb : Below wr.heap.size wr Wb := by rw [← hWb]; exact (Below.refl _ wr).alloc (Nat.le_refl _) _
      have hvb : Wb.heap[wr.heap.size]? = some (.cells #[.slice b.insA b.insn b.insc, .int .i64 b.kind, .int .i64 b.a, .int .i64 b.go, .int .i64 b.els] 41 (0, 0)) := by rw [← hWb]; exact heap_alloc_new wr _
      obtain ⟨vb, hveb⟩ : ∃ vb, wr.heap.size = vb := ⟨_, rfl⟩
      rw [hveb] at hvb
      have eb0 : Wb.cell? ⟨vb, 0, none⟩ = some (.slice b.insA b.insn b.insc) := by rw [cell_of_row _ vb 0 _ _ (0, 0) hvb]; rfl
      have hvlt : vb < Wb.heap.size := World.block_lt_of_cell? Wb _ eb0
      have HEB : Hid (∀ V, Below Wb.heap.size Wb V → V.cell? ⟨vb, 1, none⟩ = some (.int .i64 b.kind) ∧ V.cell? ⟨vb, 2, none⟩ = some (.int .i64 b.a) ∧ V.cell? ⟨vb, 3, none⟩ = some (.int .i64 b.go) ∧ V.cell? ⟨vb, 4, none⟩ = some (.int .i64 b.els)) := Lib.hid (fun V hV =>
        ⟨(hV.cell (p := ⟨vb, 1, none⟩) hvlt).trans (by rw [cell_of_row _ vb 1 _ _ (0, 0) hvb]; rfl), (hV.cell (p := ⟨vb, 2, none⟩) hvlt).trans (by rw [cell_of_row _ vb 2 _ _ (0, 0) hvb]; rfl), (hV.cell (p := ⟨vb, 3, none⟩) hvlt).trans (by rw [cell_of_row _ vb 3 _ _ (0, 0) hvb]; rfl), (hV.cell (p := ⟨vb, 4, none⟩) hvlt).trans (by rw [cell_of_row _ vb 4 _ _ (0, 0) hvb]; rfl)⟩)
      have HBb : Hid (Below w.heap.size w Wb ∧ Below W1.heap.size W1 Wb) := Lib.hid ⟨HBB.out.1.trans (hBb.mono HBB.out.1.size), HBB.out.2.trans (hBb.mono HBB.out.2.size)⟩
      have HOb := Lib.hid hb
      have hinb := HBL.out.2.1 b (List.mem_of_getElem? hb)
      have HIL : Hid (MIns w b.insA b.insn b.ins) := Lib.hid hinb.ins
      have hin9 : (b.insn : Int) ≤ 9223372036854775807 := by have h1 := hinb.insR.1; have h2 := hinb.insR.2; unfold maxLen at h2; omega
      have HXB : Hid (∀ x ∈ b.ins, x.name.size ≤ 4000000000) := Lib.hid (HX.out b (List.mem_of_getElem? hb))
      have hkmb' : (kb : Int) < (bn : Int) := by omega
      have hk0b : (0 : Int) ≤ (kb : Int) := by omega
      clear hgb hcb hcsb hb hBb hvb hinb hvlt
      go_wp2_with fail
      clear db0 db1 db2 db3 db4 eb0
      go_loopw [58] (fun i wr => ∃ k : Nat, k ≤ b.insn ∧ i = .int .i64 k ∧ Hid (∀ j x, j < k → b.ins[j]? = some x → mayI x regs = true) ∧ Hid (Below w.heap.size w wr ∧ Below W1.heap.size W1 wr ∧ Below Wb.heap.size Wb wr)) (fun i _ => b.insn - (intOf i).toNat)
      case atStart => exact ⟨0, by omega, rfl, Lib.hid (fun j o hj _ => by omega), Lib.hid ⟨HBb.out.1, HBb.out.2, Below.refl _ _⟩⟩
      case round =>
        obtain ⟨ki, hki, rfl, HII, HBI⟩ := hrel
        have yr : wr.cell? ⟨v0, 2, none⟩ = some (.int .i64 regs) := (HBI.out.2.1.cell (p := ⟨v0, 2, none⟩) hlt).trans YR.out
        rcases Nat.lt_or_ge ki b.insn with hkmi | hkmi
        · obtain ⟨x, hx⟩ : ∃ x, b.ins[ki]? = some x := ⟨_, List.getElem?_eq_getElem (by have := HIL.out.1; omega)⟩
          have hxin := HIL.out.2.1 x (List.mem_of_getElem? hx)
          obtain ⟨gi, offi, hiA, hgi, hci⟩ := (HIL.out.below HBI.out.1).2.2 (by omega)
          have hcsi := hci ki x hx
          have di0 := hcsi 0 _ rfl
          have di1 := hcsi 1 _ rfl
          have di2 := hcsi 2 _ rfl
          have di3 := hcsi 3 _ rfl
          have di4 := hcsi 4 _ rfl
          have di5 := hcsi 5 _ rfl
          have di6 := hcsi 6 _ rfl
          have di7 := hcsi 7 _ rfl
          rw [Nat.add_zero] at di0
          obtain ⟨Wi, hWi⟩ : ∃ Wi, wr.alloc (.cells #[.int .i64 x.kind, .int .i64 x.op, .int .i64 x.d, .int .i64 x.a, .int .i64 x.b, .int .i32 x.num, .string x.name, .slice x.argsA x.argsn x.argsc] 44) = Wi := ⟨_, rfl⟩
          have hBi : Below wr.heap.size wr Wi := by rw [← hWi]; exact (Below.refl _ wr).alloc (Nat.le_refl _) _
          have hvi : Wi.heap[wr.heap.size]? = some (.cells #[.int .i64 x.kind, .int .i64 x.op, .int .i64 x.d, .int .i64 x.a, .int .i64 x.b, .int .i32 x.num, .string x.name, .slice x.argsA x.argsn x.argsc] 44 (0, 0)) := by rw [← hWi]; exact heap_alloc_new wr _
          obtain ⟨vi, hvei⟩ : ∃ vi, wr.heap.size = vi := ⟨_, rfl⟩
          rw [hvei] at hvi
          have ei0 : Wi.cell? ⟨vi, 0, none⟩ = some (.int .i64 x.kind) := by rw [cell_of_row _ vi 0 _ _ (0, 0) hvi]; rfl
          have ei1 : Wi.cell? ⟨vi, 1, none⟩ = some (.int .i64 x.op) := by rw [cell_of_row _ vi 1 _ _ (0, 0) hvi]; rfl
          have ei2 : Wi.cell? ⟨vi, 2, none⟩ = some (.int .i64 x.d) := by rw [cell_of_row _ vi 2 _ _ (0, 0) hvi]; rfl
          have ei3 : Wi.cell? ⟨vi, 3, none⟩ = some (.int .i64 x.a) := by rw [cell_of_row _ vi 3 _ _ (0, 0) hvi]; rfl
          have ei4 : Wi.cell? ⟨vi, 4, none⟩ = some (.int .i64 x.b) := by rw [cell_of_row _ vi 4 _ _ (0, 0) hvi]; rfl
          have ei5 : Wi.cell? ⟨vi, 5, none⟩ = some (.int .i32 x.num) := by rw [cell_of_row _ vi 5 _ _ (0, 0) hvi]; rfl
          have ei6 : Wi.cell? ⟨vi, 6, none⟩ = some (.string x.name) := by rw [cell_of_row _ vi 6 _ _ (0, 0) hvi]; rfl
          have ei7 : Wi.cell? ⟨vi, 7, none⟩ = some (.slice x.argsA x.argsn x.argsc) := by rw [cell_of_row _ vi 7 _ _ (0, 0) hvi]; rfl
          have yri : Wi.cell? ⟨v0, 2, none⟩ = some (.int .i64 regs) := (hBi.cell (p := ⟨v0, 2, none⟩) (World.block_lt_of_cell? wr _ yr)).trans yr
          have HMI := Lib.hid (mayIns_any x regs Wi (hxin.below (HBI.out.1.trans (hBi.mono HBI.out.1.size))) (HXB.out x (List.mem_of_getElem? hx)))
          change Hid (Calls Try.prog 34 #[.agg #[.int .i64 x.kind, .int .i64 x.op, .int .i64 x.d, .int .i64 x.a, .int .i64 x.b, .int .i32 x.num, .string x.name, .slice x.argsA x.argsn x.argsc], .int .i64 regs] Wi _) at HMI
          have HBi : Hid (∀ V, Below Wi.heap.size Wi V → Below w.heap.size w V ∧ Below W1.heap.size W1 V ∧ Below Wb.heap.size Wb V) := Lib.hid (fun V hV =>
            have h1 := hBi.trans (hV.mono hBi.size)
            ⟨HBI.out.1.trans (h1.mono HBI.out.1.size), HBI.out.2.1.trans (h1.mono HBI.out.2.1.size), HBI.out.2.2.trans (h1.mono HBI.out.2.2.size)⟩)
          have HOi := Lib.hid hx
          have hkmi' : (ki : Int) < (b.insn : Int) := by omega
          have hk0i : (0 : Int) ≤ (ki : Int) := by omega
          clear hgi hci hcsi hx hBi hvi hxin
          generalize b.insA = iA at *
          subst hiA
          go_wp2_with fail
          refine HMI.out.mono ?_
          rintro e w2 ⟨rfl, hb2⟩
          have HB2 := Lib.hid (HBi.out w2 hb2)
          clear hb2
          cases hq : mayI x regs with
          | false =>
            have HF : Hid (R = false) := Lib.hid (by
              rw [HT.out]
              refine all_no HOb.out ?_
              unfold mayB
              rw [all_no HOi.out hq]
              rfl)
            go_wp2_with fail
            go_ret
            rw [HF.out]; exact ⟨rfl, by first | exact HB2.out.1 | (rw [← hv0e]; exact HB2.out.1)⟩
          | true =>
            have HST := Lib.hid (lt_succ_of (P := fun x => mayI x regs = true) HII.out HOi.out hq)
            go_wp2_with fail
            go_roundw
            case rel => exact ⟨ki + 1, by omega, by go_num, HST, HB2⟩
            case measure => simp [intOf] <;> omega
        · obtain rfl : ki = b.insn := by omega
          have HAI : Hid (b.ins.all (fun x => mayI x regs) = true) := Lib.hid (all_yes HIL.out.1 HII.out)
          obtain ⟨e1, e2, e3, e4⟩ := HEB.out wr HBI.out.2.2
          have HBW : Hid (Below w.heap.size w wr ∧ Below W1.heap.size W1 wr) := Lib.hid ⟨HBI.out.1, HBI.out.2.1⟩
          clear HII HBI
          go_upto_region 13 with fail
          obtain ⟨tb, htb⟩ : ∃ tb, inB b.go bn = tb := ⟨_, rfl⟩
          have Htb := Lib.hid htb
          clear htb
          go_cut [8] from 68 to 76 (fun v wx => v = .bool tb ∧ Hid (wr = wx))
          case first =>
            by_cases h1 : 0 ≤ b.go
            · by_cases h2 : b.go < (bn : Int)
              · go_wp2_with fail
                go_meet
                exact ⟨by rw [← Htb.out]; simp [inB, h1, h2] <;> omega, Lib.hid rfl⟩
              · have h3 : ¬ b.go < (bn : Int) := h2
                go_wp2_with fail
                go_meet
                exact ⟨by rw [← Htb.out]; simp [inB, h2] <;> omega, Lib.hid rfl⟩
            · go_wp2_with fail
              go_meet
              exact ⟨by rw [← Htb.out]; simp [inB, h1] <;> omega, Lib.hid rfl⟩
          case rest =>
          obtain ⟨rfl, hWx⟩ := hcut
          obtain rfl := hWx.out
          clear hWx
          go_upto_region 14 with fail
          obtain ⟨ob, hob⟩ : ∃ ob, inB b.els bn = ob := ⟨_, rfl⟩
          have Hob := Lib.hid hob
          clear hob
          go_cut [9] from 77 to 85 (fun v wx => v = .bool ob ∧ Hid (wr = wx))
          case first =>
            by_cases h1 : 0 ≤ b.els
            · by_cases h2 : b.els < (bn : Int)
              · go_wp2_with fail
                go_meet
                exact ⟨by rw [← Hob.out]; simp [inB, h1, h2] <;> omega, Lib.hid rfl⟩
              · have h3 : ¬ b.els < (bn : Int) := h2
                go_wp2_with fail
                go_meet
                exact ⟨by rw [← Hob.out]; simp [inB, h2] <;> omega, Lib.hid rfl⟩
            · go_wp2_with fail
              go_meet
              exact ⟨by rw [← Hob.out]; simp [inB, h1] <;> omega, Lib.hid rfl⟩
          case rest =>
          obtain ⟨rfl, hWx⟩ := hcut
          obtain rfl := hWx.out
          clear hWx
          go_upto_region 15 with fail
          obtain ⟨jb, hjb⟩ : ∃ jb, jumpB b bn = jb := ⟨_, rfl⟩
          have Hjb := Lib.hid hjb
          clear hjb
          go_cut [10] from 86 to 101 (fun v wx => v = .bool jb ∧ Hid (wr = wx))
          case first =>
            by_cases hk : b.kind = 1
            · rw [hk] at e1
              cases htb : tb
              case false =>
                subst htb
                go_wp2_with fail
                go_meet
                exact ⟨by rw [← Hjb.out]; simp [jumpB, Htb.out] <;> omega, Lib.hid rfl⟩
              case true =>
                subst htb
                by_cases ha : b.a = 0
                · rw [ha] at e2
                  by_cases he : b.els = 0
                  · rw [he] at e4
                    go_wp2_with fail
                    go_meet
                    exact ⟨by rw [← Hjb.out]; simp [jumpB, Htb.out, hk, ha, he] <;> omega, Lib.hid rfl⟩
                  · have heb : (b.els == 0) = false := by simp [he]
                    go_wp2_with fail
                    go_meet
                    exact ⟨by rw [← Hjb.out]; simp [jumpB, he] <;> omega, Lib.hid rfl⟩
                · have hab : (b.a == 0) = false := by simp [ha]
                  go_wp2_with fail
                  go_meet
                  exact ⟨by rw [← Hjb.out]; simp [jumpB, ha] <;> omega, Lib.hid rfl⟩
            · have hkb : (b.kind == 1) = false := by simp [hk]
              go_wp2_with fail
              go_meet
              exact ⟨by rw [← Hjb.out]; simp [jumpB, hk] <;> omega, Lib.hid rfl⟩
          case rest =>
          obtain ⟨rfl, hWx⟩ := hcut
          obtain rfl := hWx.out
          clear hWx
          go_upto_region 16 with fail
          obtain ⟨bb, hbb⟩ : ∃ bb, branchB b regs bn = bb := ⟨_, rfl⟩
          have Hbb := Lib.hid hbb
          clear hbb
          go_cut [11] from 102 to 117 (fun v wx => v = .bool bb ∧ Hid (wr = wx))
          case first =>
            by_cases hk : b.kind = 2
            · rw [hk] at e1
              have HKq := Lib.hid hk
              clear hk
              cases htb : tb
              case false =>
                subst htb
                go_wp2_with fail
                go_meet
                exact ⟨by rw [← Hbb.out]; simp [branchB, Htb.out] <;> omega, Lib.hid rfl⟩
              case true =>
                subst htb
                cases hob : ob
                case false =>
                  subst hob
                  go_wp2_with fail
                  go_meet
                  exact ⟨by rw [← Hbb.out]; simp [branchB, Hob.out] <;> omega, Lib.hid rfl⟩
                case true =>
                  subst hob
                  go_wp2_with fail
                  refine (reg_any _ _ _ _).mono ?_
                  rintro e w2 ⟨rfl, rfl⟩
                  have hbb : regB b.a regs false = bb := by rw [← Hbb.out]; simp [branchB, Htb.out, Hob.out, HKq.out]
                  rw [hbb]
                  go_wp2_with fail
                  go_meet
                  exact ⟨rfl, Lib.hid rfl⟩
            · have hkb : (b.kind == 2) = false := by simp [hk]
              go_wp2_with fail
              go_meet
              exact ⟨by rw [← Hbb.out]; simp [branchB, hk] <;> omega, Lib.hid rfl⟩
          case rest =>
          obtain ⟨rfl, hWx⟩ := hcut
          obtain rfl := hWx.out
          clear hWx
          go_upto_region 17 with fail
          obtain ⟨lb, hlb⟩ : ∃ lb, leaveB b regs = lb := ⟨_, rfl⟩
          have Hlb := Lib.hid hlb
          clear hlb
          go_cut [12] from 118 to 137 (fun v wx => v = .bool lb ∧ Hid (wr = wx))
          case first =>
            by_cases hk : b.kind = 3
            · rw [hk] at e1
              have HKq := Lib.hid hk
              clear hk
              by_cases hg : b.go = 0
              · rw [hg] at e3
                have HGq := Lib.hid hg
                clear hg
                by_cases he : b.els = 0
                · rw [he] at e4
                  have HEq := Lib.hid he
                  clear he
                  go_wp2_with fail
                  refine (reg_any _ _ _ _).mono ?_
                  rintro e w2 ⟨rfl, rfl⟩
                  have hlb : regB b.a regs false = lb := by rw [← Hlb.out]; simp [leaveB, HKq.out, HGq.out, HEq.out]
                  rw [hlb]
                  go_wp2_with fail
                  go_meet
                  exact ⟨rfl, Lib.hid rfl⟩
                · have heb : (b.els == 0) = false := by simp [he]
                  go_wp2_with fail
                  go_meet
                  exact ⟨by rw [← Hlb.out]; simp [leaveB, he] <;> omega, Lib.hid rfl⟩
              · have hgb : (b.go == 0) = false := by simp [hg]
                go_wp2_with fail
                go_meet
                exact ⟨by rw [← Hlb.out]; simp [leaveB, hg] <;> omega, Lib.hid rfl⟩
            · have hkb : (b.kind == 3) = false := by simp [hk]
              go_wp2_with fail
              go_meet
              exact ⟨by rw [← Hlb.out]; simp [leaveB, hk] <;> omega, Lib.hid rfl⟩
          case rest =>
          obtain ⟨rfl, hWx⟩ := hcut
          obtain rfl := hWx.out
          clear hWx
          cases hjlb : (jb || bb || lb) with
          | false =>
            have HF : Hid (R = false) := Lib.hid (by
              rw [HT.out]
              refine all_no HOb.out ?_
              unfold mayB
              rw [Hjb.out, Hbb.out, Hlb.out, hjlb, Bool.and_false])
            simp only [Bool.or_eq_false_iff] at hjlb
            obtain ⟨⟨rfl, rfl⟩, rfl⟩ := hjlb
            go_wp2_with fail
            go_ret
            rw [HF.out]; exact ⟨rfl, by first | exact HBW.out.1 | (rw [← hv0e]; exact HBW.out.1)⟩
          | true =>
            have HST := Lib.hid (lt_succ_of (P := fun b => mayB regs bn b = true) HIB.out HOb.out (by unfold mayB; rw [Hjb.out, Hbb.out, Hlb.out, hjlb, HAI.out]; rfl))
            have h3 : jb = true ∨ (jb = false ∧ bb = true) ∨ (jb = false ∧ bb = false ∧ lb = true) := by revert hjlb; cases jb <;> cases bb <;> cases lb <;> simp
            clear hjlb
            rcases h3 with rfl | ⟨rfl, rfl⟩ | ⟨rfl, rfl, rfl⟩ <;>
            · go_wp2_with fail
              go_roundw
              case rel => exact ⟨kb + 1, by omega, by go_num, HST, HBW⟩
              case measure => simp [intOf] <;> omega
    · obtain rfl : kb = bn := by omega
      have HTR : Hid (R = true) := Lib.hid (by rw [HT.out]; exact all_yes HL.out HIB.out)
      go_wp2_with fail
      go_ret
      rw [HTR.out]; exact ⟨rfl, by first | exact HBB.out.1 | (rw [← hv0e]; exact HBB.out.1)⟩
end Go.Proofs.Ytcanjkjpdnbcnaa
namespace Go.Proofs.Ytcanjkjpdnbcnaa
open Go.RowKit
set_option linter.unusedVariables false
set_option linter.unusedSimpArgs false
set_option maxRecDepth 100000

theorem below_drewM {B : Nat} {a w : World} (h : Below B a w) (n : Nat) : Below B a (w.drewN n) := ⟨h.os, h.tape, h.output, h.size, h.block⟩
def sumTo : List MGl → Nat → Int
  | _, 0 => 0
  | [], _ + 1 => 0
  | g :: gs, k + 1 => max 1 g.size + sumTo gs k
theorem sumTo_zero (gs : List MGl) : sumTo gs 0 = 0 := by cases gs <;> rfl
theorem sumTo_succ : ∀ (gs : List MGl) (k : Nat) (o : MGl), gs[k]? = some o → sumTo gs (k + 1) = sumTo gs k + max 1 o.size
  | [], k, o, h => by simp at h
  | g :: gs, 0, o, h => by
    simp only [List.getElem?_cons_zero, Option.some.injEq] at h
    subst h
    have e : sumTo gs 0 = 0 := by cases gs <;> rfl
    show max 1 g.size + sumTo gs 0 = sumTo (g :: gs) 0 + max 1 g.size
    rw [e]
    show max 1 g.size + 0 = 0 + max 1 g.size
    omega
  | g :: gs, k + 1, o, h => by
    have ih := sumTo_succ gs k o (by simpa using h)
    show max 1 g.size + sumTo gs (k + 1) = max 1 g.size + sumTo gs k + max 1 o.size
    rw [ih]
    omega
theorem sumTo_nonneg : ∀ (gs : List MGl) (k : Nat), 0 ≤ sumTo gs k
  | gs, 0 => by cases gs <;> exact Int.le_refl _
  | [], k + 1 => Int.le_refl _
  | g :: gs, k + 1 => by
    have := sumTo_nonneg gs k
    show 0 ≤ max 1 g.size + sumTo gs k
    omega
/-- Of a list: each, with its number. -/
def allIx {α : Type} (p : Nat → α → Bool) (l : List α) : Bool := (List.range l.length).all fun k => match l[k]? with | some a => p k a | none => true
theorem allIx_no {α : Type} {p : Nat → α → Bool} {l : List α} {k : Nat} {a : α} (h : l[k]? = some a) (hp : p k a = false) : allIx p l = false := by
  unfold allIx
  rw [List.all_eq_false]
  refine ⟨k, List.mem_range.2 (List.getElem?_eq_some_iff.1 h).1, ?_⟩
  rw [h]
  simp [hp]
theorem allIx_yes {α : Type} {p : Nat → α → Bool} {l : List α} {n : Nat} (hl : l.length = n) (h : ∀ j a, j < n → l[j]? = some a → p j a = true) : allIx p l = true := by
  unfold allIx
  rw [List.all_eq_true]
  intro j hj
  cases hq : l[j]? with
  | none => rfl
  | some a => exact h j a (by rw [← hl]; exact List.mem_range.1 hj) hq
theorem allIx_at {α : Type} {p : Nat → α → Bool} {l : List α} (h : allIx p l = true) {k : Nat} {a : α} (hk : l[k]? = some a) : p k a = true := by
  cases hp : p k a with
  | true => rfl
  | false => rw [allIx_no hk hp] at h; cases h
theorem lt_succ_ix {α : Type} {P : Nat → α → Prop} {l : List α} {k : Nat} {o : α} (h : ∀ j p, j < k → l[j]? = some p → P j p) (ho : l[k]? = some o) (hp : P k o) : ∀ j p, j < k + 1 → l[j]? = some p → P j p := fun j p hj hjp => by
  rcases Nat.lt_or_ge j k with q | q
  · exact h j p q hjp
  · obtain rfl : j = k := by omega
    rw [ho] at hjp
    cases hjp
    exact hp
def okG (gs : List MGl) (k : Nat) (o : MGl) : Bool := nameB o.name.data.toList && decide (0 ≤ o.size) && decide (o.size ≤ 4096) && decide (sumTo gs (k + 1) ≤ 16384) && decide (gAt gs o.name = (k : Int))
def okM (gs : List MGl) (x : MIn) : Bool := decide (0 ≤ gAt gs x.name) && (decide (0 < (gs.getD (gAt gs x.name).toNat default).size) == decide (0 ≤ x.a))
def okC (fs : List MFn) (x : MIn) : Bool := decide (0 ≤ fAt fs x.name) && decide ((fs.getD (fAt fs x.name).toNat default).params = (x.argsn : Int))
def okI (gs : List MGl) (fs : List MFn) (x : MIn) : Bool := (if x.kind = 5 ∨ x.kind = 6 then okM gs x else true) && (if x.kind = 7 then okC fs x else true)
def okF (gs : List MGl) (fs : List MFn) (k : Nat) (f : MFn) : Bool := mayF f && decide (fAt fs f.name = (k : Int)) && decide (gAt gs f.name < 0) && f.blocks.all (fun b => b.ins.all (okI gs fs))
def mainB (fs : List MFn) : Bool := decide (0 ≤ fAt fs ⟨#[109, 97, 105, 110]⟩) && decide ((fs.getD (fAt fs ⟨#[109, 97, 105, 110]⟩).toNat default).params ≤ 0)
/-- May it be a program? -/
def mayM (gs : List MGl) (fs : List MFn) : Bool := decide (gs.length ≤ 64) && allIx (okG gs) gs && mainB fs && allIx (okF gs fs) fs
theorem atN_elem {α : Type} (nm : α → ByteArray) (x : ByteArray) (l : List α) (h : 0 ≤ atN nm x l 0) : ∃ (k : Nat) (o : α), atN nm x l 0 = (k : Int) ∧ l[k]? = some o := by
  rcases atN_range nm x l 0 with h1 | h1
  · omega
  · refine ⟨(atN nm x l 0).toNat, l[(atN nm x l 0).toNat]'(by omega), by omega, List.getElem?_eq_getElem _⟩

set_option maxHeartbeats 12800000 in
theorem may_any (w : World) (GA FA : Option Addr) (gn gc fn fc : Nat) (gs : List MGl) (fs : List MFn) (hg : MGls w GA gn gs) (hf : MFns w FA fn fs) (hgn : gn ≤ 70) (hfn : fn ≤ 8) (hgl : ∀ g ∈ gs, g.name.size ≤ 100) (hfl : ∀ f ∈ fs, LightF f) :
    Calls Try.prog 15 #[.agg #[.slice GA gn gc, .slice FA fn fc]] w fun e w' => e = .returned (.bool (mayM gs fs)) ∧ Below w.heap.size w w' := by
  obtain ⟨R, hR⟩ : ∃ R, mayM gs fs = R := ⟨_, rfl⟩
  rw [hR]
  have HR : Hid (R = (decide (gs.length ≤ 64) && allIx (okG gs) gs && mainB fs && allIx (okF gs fs) fs)) := Lib.hid hR.symm
  have HG := Lib.hid hg
  have HF := Lib.hid hf
  have HGL := Lib.hid hgl
  have HFL := Lib.hid hfl
  have HL := Lib.hid (And.intro hg.1 hf.1)
  obtain ⟨W0, hW0⟩ : ∃ W0, w.alloc (.cells #[.slice GA gn gc, .slice FA fn fc] 25) = W0 := ⟨_, rfl⟩
  have hB0 : Below w.heap.size w W0 := by rw [← hW0]; exact (Below.refl _ w).alloc (Nat.le_refl _) _
  have hv0 : W0.heap[w.heap.size]? = some (.cells #[.slice GA gn gc, .slice FA fn fc] 25 (0, 0)) := by rw [← hW0]; exact heap_alloc_new w _
  have y0 : W0.cell? ⟨w.heap.size, 0, none⟩ = some (.slice GA gn gc) := by rw [cell_of_row _ _ 0 _ _ (0, 0) hv0]; rfl
  have y1 : W0.cell? ⟨w.heap.size, 1, none⟩ = some (.slice FA fn fc) := by rw [cell_of_row _ _ 1 _ _ (0, 0) hv0]; rfl
  have hlt : w.heap.size < W0.heap.size := World.block_lt_of_cell? W0 _ y0
  obtain ⟨v0, hv0e⟩ : ∃ v0, w.heap.size = v0 := ⟨_, rfl⟩
  rw [hv0e] at y0 y1 hlt
  have HY : Hid (∀ V, Below W0.heap.size W0 V → V.cell? ⟨v0, 0, none⟩ = some (.slice GA gn gc) ∧ V.cell? ⟨v0, 1, none⟩ = some (.slice FA fn fc)) := Lib.hid (fun V hV => ⟨(hV.cell (p := ⟨v0, 0, none⟩) hlt).trans y0, (hV.cell (p := ⟨v0, 1, none⟩) hlt).trans y1⟩)
  have HB : Hid (Below w.heap.size w W0 ∧ Below W0.heap.size W0 W0) := Lib.hid ⟨hB0, Below.refl _ _⟩
  -- the calls that look a name up
  have HGA : Hid (∀ V x, Below w.heap.size w V → Calls Try.prog 23 #[.agg #[.slice GA gn gc, .slice FA fn fc], .string x] V fun e w' => e = .returned (.int .i64 (gAt gs x)) ∧ Below V.heap.size V w') := Lib.hid (fun V x hV => gAt_any V GA FA gn gc fn fc gs (hg.below hV) (by omega) x)
  have HFA : Hid (∀ V x, Below w.heap.size w V → Calls Try.prog 24 #[.agg #[.slice GA gn gc, .slice FA fn fc], .string x] V fun e w' => e = .returned (.int .i64 (fAt fs x)) ∧ Below V.heap.size V w') := Lib.hid (fun V x hV => fAt_any V GA FA gn gc fn fc fs (hf.below hV) (by omega) x)
  have hgn2 : (gn : Int) ≤ 70 := by omega
  have hfn2 : (fn : Int) ≤ 8 := by omega
  clear hg hf hgl hfl hR hv0 hB0
  go_enter Try.func15, Try.ntmps15
  by_cases h64 : (64 : Int) < (gn : Int)
  · have HF : Hid (R = false) := Lib.hid (by
      have h1 : ¬ gs.length ≤ 64 := by have := HL.out.1; omega
      rw [HR.out, decide_eq_false h1]
      rfl)
    go_wp2_with fail
    go_ret
    rw [HF.out]
    exact ⟨rfl, by first | exact HB.out.1 | (rw [← hv0e]; exact HB.out.1) | exact below_drewM HB.out.1 _ | (rw [← hv0e]; exact below_drewM HB.out.1 _)⟩
  have HR2 : Hid (R = (allIx (okG gs) gs && mainB fs && allIx (okF gs fs) fs)) := Lib.hid (by
    have h1 : gs.length ≤ 64 := by have := HL.out.1; omega
    rw [HR.out, decide_eq_true h1, Bool.true_and])
  go_wp2_with fail
  go_loopw [3, 22] (fun v i wr => ∃ k : Nat, k ≤ gn ∧ v = .int .i64 (sumTo gs k) ∧ i = .int .i64 k ∧ Hid ((∀ j o, j < k → gs[j]? = some o → okG gs j o = true) ∧ sumTo gs k ≤ 16384) ∧ Hid (Below w.heap.size w wr ∧ Below W0.heap.size W0 wr)) (fun _ i _ => gn - (intOf i).toNat)
  case atStart => exact ⟨0, by omega, by rw [sumTo_zero], rfl, Lib.hid ⟨fun j o hj _ => by omega, by rw [sumTo_zero]; decide⟩, HB⟩
  case round =>
    obtain ⟨k, hk, rfl, rfl, HI, HBB⟩ := hrel
    clear HB y0 y1
    rcases Nat.lt_or_ge k gn with hkm | hkm
    · obtain ⟨o, ho⟩ : ∃ o, gs[k]? = some o := ⟨_, List.getElem?_eq_getElem (by have := HL.out.1; omega)⟩
      obtain ⟨g, off, rfl, hg, hc⟩ := (HG.out.below HBB.out.1).2.2 (by omega)
      have hcs := hc k o ho
      have d0 := hcs 0 _ rfl
      have d1 := hcs 1 _ rfl
      rw [Nat.add_zero] at d0
      obtain ⟨Wa, hWa⟩ : ∃ Wa, wr.alloc (.cells #[.string o.name, .int .i64 o.size] 63) = Wa := ⟨_, rfl⟩
      have hBa : Below wr.heap.size wr Wa := by rw [← hWa]; exact (Below.refl _ wr).alloc (Nat.le_refl _) _
      have hva : Wa.heap[wr.heap.size]? = some (.cells #[.string o.name, .int .i64 o.size] 63 (0, 0)) := by rw [← hWa]; exact heap_alloc_new wr _
      obtain ⟨va, hvae⟩ : ∃ va, wr.heap.size = va := ⟨_, rfl⟩
      rw [hvae] at hva
      have e0 : Wa.cell? ⟨va, 0, none⟩ = some (.string o.name) := by rw [cell_of_row _ va 0 _ _ (0, 0) hva]; rfl
      have e1 : Wa.cell? ⟨va, 1, none⟩ = some (.int .i64 o.size) := by rw [cell_of_row _ va 1 _ _ (0, 0) hva]; rfl
      have hval : va < Wa.heap.size := World.block_lt_of_cell? Wa _ e0
      have HBC : Hid (Below w.heap.size w Wa ∧ Below W0.heap.size W0 Wa) := Lib.hid ⟨HBB.out.1.trans (hBa.mono HBB.out.1.size), HBB.out.2.trans (hBa.mono HBB.out.2.size)⟩
      have hos := HGL.out o (List.mem_of_getElem? ho)
      have HNM := Lib.hid (risName_any o.name (by omega) Wa)
      have HSZ : Hid (sumTo gs (k + 1) = sumTo gs k + max 1 o.size ∧ 0 ≤ sumTo gs k) := Lib.hid ⟨sumTo_succ gs k o ho, sumTo_nonneg gs k⟩
      have hinb := (HG.out.2.1 o (List.mem_of_getElem? ho)).size
      have HO := Lib.hid ho
      have hkm' : (k : Int) < (gn : Int) := by omega
      have hk0 : (0 : Int) ≤ (k : Int) := by omega
      obtain ⟨mm, hmm⟩ : ∃ mm, max 1 o.size = mm := ⟨_, rfl⟩
      have hmm2 : (if o.size < 1 then 1 else o.size) = mm := by rw [← hmm]; split <;> omega
      have hmm3 : (if 1 < o.size then o.size else 1) = mm := by rw [← hmm]; split <;> omega
      have hmm4 : max o.size 1 = mm := by omega
      have HMM := Lib.hid hmm
      obtain ⟨ss, hss⟩ : ∃ ss, sumTo gs k = ss := ⟨_, rfl⟩
      have HSS := Lib.hid hss
      have hs1 : 0 ≤ ss := by rw [← hss]; exact sumTo_nonneg gs k
      have hs2 : ss ≤ 16384 := by rw [← hss]; exact HI.out.2
      rw [hss]
      have HNO : Hid (∀ (P : Prop), (okG gs k o = true → P) → ¬ P → R = false) := Lib.hid (fun P h1 h2 => by
        rw [HR2.out]
        have h3 : okG gs k o = false := by
          cases hq : okG gs k o with
          | false => rfl
          | true => exact absurd (h1 hq) h2
        rw [allIx_no ho h3]
        rfl)
      clear hg hc hcs ho hBa hva hss
      have hinb1 := hinb.1
      have hinb2 := hinb.2
      clear hinb
      by_cases hz4 : 4096 < o.size
      · have HF : Hid (R = false) := Lib.hid (HNO.out (o.size ≤ 4096) (fun h => by unfold okG at h; simp only [Bool.and_eq_true, decide_eq_true_eq] at h; exact h.1.1.2) (by omega))
        have hz0 : ¬ o.size < 0 := by omega
        clear hmm2 hmm3 hmm4
        go_wp2_with fail
        clear d0 d1
        refine HNM.out.mono ?_
        rintro e w2 ⟨rfl, hb2⟩
        have e1 := (hb2.cell (p := ⟨va, 1, none⟩) hval).trans e1
        have HB2 : Hid (Below w.heap.size w w2 ∧ Below W0.heap.size W0 w2) := Lib.hid ⟨HBC.out.1.trans (hb2.mono HBC.out.1.size), HBC.out.2.trans (hb2.mono HBC.out.2.size)⟩
        clear hb2 hval hWa
        cases hq : nameB o.name.data.toList
        · go_wp2_with fail
          go_ret
          rw [HF.out]
          exact ⟨rfl, by first | exact HB2.out.1 | (rw [← hv0e]; exact HB2.out.1)⟩
        · go_wp2_with fail
          go_ret
          rw [HF.out]
          exact ⟨rfl, by first | exact HB2.out.1 | (rw [← hv0e]; exact HB2.out.1)⟩
      have hm1 : 1 ≤ mm := by omega
      have hm2 : mm ≤ 4096 := by omega
      clear hmm2 hmm3 hmm4
      go_wp2_with fail
      clear d0 d1
      refine HNM.out.mono ?_
      rintro e w2 ⟨rfl, hb2⟩
      have e0 := (hb2.cell (p := ⟨va, 0, none⟩) hval).trans e0
      have e1 := (hb2.cell (p := ⟨va, 1, none⟩) hval).trans e1
      have HB2 : Hid (Below w.heap.size w w2 ∧ Below W0.heap.size W0 w2) := Lib.hid ⟨HBC.out.1.trans (hb2.mono HBC.out.1.size), HBC.out.2.trans (hb2.mono HBC.out.2.size)⟩
      obtain ⟨y0, y1⟩ := HY.out w2 HB2.out.2
      clear hb2 hval hWa
      cases hq : nameB o.name.data.toList
      case false =>
        have HF : Hid (R = false) := Lib.hid (HNO.out (nameB o.name.data.toList = true) (fun h => by unfold okG at h; simp only [Bool.and_eq_true] at h; exact h.1.1.1.1) (by rw [hq]; simp))
        go_wp2_with fail
        go_ret
        rw [HF.out]
        exact ⟨rfl, by first | exact HB2.out.1 | (rw [← hv0e]; exact HB2.out.1) | exact below_drewM HB2.out.1 _ | (rw [← hv0e]; exact below_drewM HB2.out.1 _)⟩
      by_cases hz : o.size < 0
      · have HF : Hid (R = false) := Lib.hid (HNO.out (0 ≤ o.size) (fun h => by unfold okG at h; simp only [Bool.and_eq_true, decide_eq_true_eq] at h; exact h.1.1.1.2) (by omega))
        go_wp2_with fail
        go_ret
        rw [HF.out]
        exact ⟨rfl, by first | exact HB2.out.1 | (rw [← hv0e]; exact HB2.out.1) | exact below_drewM HB2.out.1 _ | (rw [← hv0e]; exact below_drewM HB2.out.1 _)⟩
      have HSN : Hid (sumTo gs (k + 1) = ss + mm) := Lib.hid (by rw [HSZ.out.1, HSS.out, HMM.out])
      by_cases hz5 : 16384 < ss + mm
      · have HF : Hid (R = false) := Lib.hid (HNO.out (sumTo gs (k + 1) ≤ 16384) (fun h => by unfold okG at h; simp only [Bool.and_eq_true, decide_eq_true_eq] at h; exact h.1.2) (by rw [HSN.out]; omega))
        go_wp2_with fail
        go_ret
        rw [HF.out]
        exact ⟨rfl, by first | exact HB2.out.1 | (rw [← hv0e]; exact HB2.out.1) | exact below_drewM HB2.out.1 _ | (rw [← hv0e]; exact below_drewM HB2.out.1 _)⟩
      have HC := Lib.hid (HGA.out w2 o.name HB2.out.1)
      go_wp2_with fail
      (with_reducible refine HC.out.mono ?_)
      rintro e w3 ⟨rfl, hb3⟩
      have HB3 : Hid (Below w.heap.size w w3 ∧ Below W0.heap.size W0 w3) := Lib.hid ⟨HB2.out.1.trans (hb3.mono HB2.out.1.size), HB2.out.2.trans (hb3.mono HB2.out.2.size)⟩
      clear hb3 HC
      obtain ⟨gk, hgk⟩ : ∃ gk, gAt gs o.name = gk := ⟨_, rfl⟩
      rw [hgk]
      by_cases hgi : gk = (k : Int)
      · have HST := Lib.hid (lt_succ_ix (P := fun j o => okG gs j o = true) HI.out.1 HO.out (by
          unfold okG
          have h1 : 0 ≤ o.size := by omega
          have h2 : o.size ≤ 4096 := by omega
          have h3 : sumTo gs (k + 1) ≤ 16384 := by rw [HSN.out]; omega
          rw [hq, decide_eq_true h1, decide_eq_true h2, decide_eq_true h3, hgk, decide_eq_true hgi]
          rfl))
        have HSL : Hid (sumTo gs (k + 1) ≤ 16384) := Lib.hid (by rw [HSN.out]; omega)
        subst hgi
        clear hgk
        go_wp2_with fail
        go_roundw
        case rel => exact ⟨k + 1, by omega, by rw [HSN.out], by go_num, Lib.hid ⟨HST.out, HSL.out⟩, HB3⟩
        case measure => simp [intOf] <;> omega
      · have HF : Hid (R = false) := Lib.hid (HNO.out (gAt gs o.name = (k : Int)) (fun h => by unfold okG at h; simp only [Bool.and_eq_true, decide_eq_true_eq] at h; exact h.2) (by rw [hgk]; exact hgi))
        have hgb : (gk != (k : Int)) = true := by simp [hgi]
        clear hgk
        go_wp2_with fail
        go_ret
        rw [HF.out]
        exact ⟨rfl, by first | exact HB3.out.1 | (rw [← hv0e]; exact HB3.out.1) | exact below_drewM HB3.out.1 _ | (rw [← hv0e]; exact below_drewM HB3.out.1 _)⟩
    · obtain rfl : gn = k := by omega
      have HR3 : Hid (R = (mainB fs && allIx (okF gs fs) fs)) := Lib.hid (by rw [HR2.out, allIx_yes HL.out.1 HI.out.1, Bool.true_and])
      clear HI HR2
      obtain ⟨y0, y1⟩ := HY.out wr HBB.out.2
      have HC := Lib.hid (HFA.out wr ⟨#[109, 97, 105, 110]⟩ HBB.out.1)
      generalize sumTo gs gn = ss at *
      go_wp2_with fail
      (with_reducible refine HC.out.mono ?_)
      rintro e w2 ⟨rfl, hb2⟩
      have HB2 : Hid (Below w.heap.size w w2 ∧ Below W0.heap.size W0 w2) := Lib.hid ⟨HBB.out.1.trans (hb2.mono HBB.out.1.size), HBB.out.2.trans (hb2.mono HBB.out.2.size)⟩
      clear hb2 HC HBB
      obtain ⟨y0, y1⟩ := HY.out w2 HB2.out.2
      obtain ⟨fk, hfk⟩ : ∃ fk, fAt fs ⟨#[109, 97, 105, 110]⟩ = fk := ⟨_, rfl⟩
      rw [hfk]
      by_cases hk0 : fk < 0
      · have HF : Hid (R = false) := Lib.hid (by
          have h1 : ¬ 0 ≤ fk := by omega
          rw [HR3.out]
          unfold mainB
          rw [hfk, decide_eq_false h1]
          rfl)
        clear hfk
        go_wp2_with fail
        go_ret
        rw [HF.out]
        exact ⟨rfl, by first | exact HB2.out.1 | (rw [← hv0e]; exact HB2.out.1) | exact below_drewM HB2.out.1 _ | (rw [← hv0e]; exact below_drewM HB2.out.1 _)⟩
      obtain ⟨kk, f, hkk, hff⟩ := atN_elem MFn.name ⟨#[109, 97, 105, 110]⟩ fs (show 0 ≤ fAt fs ⟨#[109, 97, 105, 110]⟩ by omega)
      have hkf : fk = (kk : Int) := hfk.symm.trans hkk
      subst hkf
      have hkl : kk < fn := by have := (List.getElem?_eq_some_iff.1 hff).1; have := HL.out.2; omega
      obtain ⟨g, off, rfl, hg, hc⟩ := (HF.out.below HB2.out.1).2.2 (by omega)
      have df1 := hc kk f hff 1 _ rfl
      have HMB : Hid (mainB fs = decide (f.params ≤ 0)) := Lib.hid (by
        unfold mainB
        rw [hfk, Int.toNat_natCast, List.getD_eq_getElem?_getD, hff, decide_eq_true (show (0 : Int) ≤ (kk : Int) by omega)]
        rfl)
      have hkl1 : (kk : Int) < (fn : Int) := by omega
      have hkl0 : (0 : Int) ≤ (kk : Int) := by omega
      clear hfk hkk hff hg hc
      by_cases hp0 : 0 < f.params
      · have HF : Hid (R = false) := Lib.hid (by
          have h1 : ¬ f.params ≤ 0 := by omega
          rw [HR3.out, HMB.out, decide_eq_false h1]
          rfl)
        go_wp2_with fail
        go_ret
        rw [HF.out]
        exact ⟨rfl, by first | exact HB2.out.1 | (rw [← hv0e]; exact HB2.out.1) | exact below_drewM HB2.out.1 _ | (rw [← hv0e]; exact below_drewM HB2.out.1 _)⟩
      have HR4 : Hid (R = allIx (okF gs fs) fs) := Lib.hid (by
        have h1 : f.params ≤ 0 := by omega
        rw [HR3.out, HMB.out, decide_eq_true h1, Bool.true_and])
      clear HR3 HMB
      go_wp2_with fail
      clear y0 y1 df1 hk0 hkl hkl1 hkl0 hp0
      go_loopw [75] (fun i wr => ∃ kf : Nat, kf ≤ fn ∧ i = .int .i64 kf ∧ Hid (∀ j f, j < kf → fs[j]? = some f → okF gs fs j f = true) ∧ Hid (Below w.heap.size w wr ∧ Below W0.heap.size W0 wr)) (fun i _ => fn - (intOf i).toNat)
      case atStart => exact ⟨0, by omega, rfl, Lib.hid (fun j o hj _ => by omega), HB2⟩
      case round =>
        clear HB2
        obtain ⟨kf, hkf, rfl, HIF, HBF⟩ := hrel
        rcases Nat.lt_or_ge kf fn with hkmf | hkmf
        · obtain ⟨f, hf⟩ : ∃ f, fs[kf]? = some f := ⟨_, List.getElem?_eq_getElem (by have := HL.out.2; omega)⟩
          have hfin := HF.out.2.1 f (List.mem_of_getElem? hf)
          obtain ⟨gf, offf, hFA, hgf, hcf⟩ := (HF.out.below HBF.out.1).2.2 (by omega)
          have hcsf := hcf kf f hf
          have df0 := hcsf 0 _ rfl
          have df1 := hcsf 1 _ rfl
          have df2 := hcsf 2 _ rfl
          have df3 := hcsf 3 _ rfl
          rw [Nat.add_zero] at df0
          obtain ⟨Wf, hWf⟩ : ∃ Wf, wr.alloc (.cells #[.string f.name, .int .i64 f.params, .int .i64 f.regs, .slice f.blocksA f.blocksn f.blocksc] 47) = Wf := ⟨_, rfl⟩
          have hBf : Below wr.heap.size wr Wf := by rw [← hWf]; exact (Below.refl _ wr).alloc (Nat.le_refl _) _
          have hvf : Wf.heap[wr.heap.size]? = some (.cells #[.string f.name, .int .i64 f.params, .int .i64 f.regs, .slice f.blocksA f.blocksn f.blocksc] 47 (0, 0)) := by rw [← hWf]; exact heap_alloc_new wr _
          obtain ⟨vf, hvef⟩ : ∃ vf, wr.heap.size = vf := ⟨_, rfl⟩
          rw [hvef] at hvf
          have ef0 : Wf.cell? ⟨vf, 0, none⟩ = some (.string f.name) := by rw [cell_of_row _ vf 0 _ _ (0, 0) hvf]; rfl
          have ef1 : Wf.cell? ⟨vf, 1, none⟩ = some (.int .i64 f.params) := by rw [cell_of_row _ vf 1 _ _ (0, 0) hvf]; rfl
          have ef2 : Wf.cell? ⟨vf, 2, none⟩ = some (.int .i64 f.regs) := by rw [cell_of_row _ vf 2 _ _ (0, 0) hvf]; rfl
          have ef3 : Wf.cell? ⟨vf, 3, none⟩ = some (.slice f.blocksA f.blocksn f.blocksc) := by rw [cell_of_row _ vf 3 _ _ (0, 0) hvf]; rfl
          have hvl : vf < Wf.heap.size := World.block_lt_of_cell? Wf _ ef0
          have HBf : Hid (Below w.heap.size w Wf ∧ Below W0.heap.size W0 Wf) := Lib.hid ⟨HBF.out.1.trans (hBf.mono HBF.out.1.size), HBF.out.2.trans (hBf.mono HBF.out.2.size)⟩
          have hfl := HFL.out f (List.mem_of_getElem? hf)
          have HMF := Lib.hid (mayF_any f Wf (hfin.below HBf.out.1) (by have := hfl.1; omega) (fun b hb x hx => by have := (hfl.2.2 b hb).2 x hx; unfold LightI at this; omega))
          change Hid (Calls Try.prog 25 #[.agg #[.string f.name, .int .i64 f.params, .int .i64 f.regs, .slice f.blocksA f.blocksn f.blocksc]] Wf _) at HMF
          have HEF : Hid (∀ V, Below Wf.heap.size Wf V → V.cell? ⟨vf, 0, none⟩ = some (.string f.name) ∧ V.cell? ⟨vf, 3, none⟩ = some (.slice f.blocksA f.blocksn f.blocksc)) := Lib.hid (fun V hV => ⟨(hV.cell (p := ⟨vf, 0, none⟩) hvl).trans ef0, (hV.cell (p := ⟨vf, 3, none⟩) hvl).trans ef3⟩)
          have HBLK : Hid (MBls w f.blocksA f.blocksn f.blocks) := Lib.hid hfin.blocks
          have hbn9 : (f.blocksn : Int) ≤ 9223372036854775807 := by have h1 := hfin.blocksR.1; have h2 := hfin.blocksR.2; unfold maxLen at h2; omega
          have HNO : Hid (∀ (P : Prop), (okF gs fs kf f = true → P) → ¬ P → R = false) := Lib.hid (fun P h1 h2 => by
            rw [HR4.out]
            have h3 : okF gs fs kf f = false := by
              cases hq : okF gs fs kf f with
              | false => rfl
              | true => exact absurd (h1 hq) h2
            exact allIx_no hf h3)
          have HOf := Lib.hid hf
          have HFL1 := Lib.hid hfl
          have hkmf' : (kf : Int) < (fn : Int) := by omega
          have hk0f : (0 : Int) ≤ (kf : Int) := by omega
          obtain ⟨y0, y1⟩ := HY.out wr HBF.out.2
          clear hgf hcf hcsf hf hBf hvf hfin hfl hvl
          cases hFA
          go_wp2_with fail
          clear df0 df1 df2 df3 y0 y1
          refine HMF.out.mono ?_
          rintro e w2 ⟨rfl, hb2⟩
          have HB2 : Hid (Below w.heap.size w w2 ∧ Below W0.heap.size W0 w2) := Lib.hid ⟨HBf.out.1.trans (hb2.mono HBf.out.1.size), HBf.out.2.trans (hb2.mono HBf.out.2.size)⟩
          have HW2 := Lib.hid hb2
          obtain ⟨y0, y1⟩ := HY.out w2 HB2.out.2
          obtain ⟨z0, z3⟩ := HEF.out w2 hb2
          clear hb2 ef0 ef1 ef2 ef3
          cases hq : mayF f
          case false =>
            have HF : Hid (R = false) := Lib.hid (HNO.out (mayF f = true) (fun h => by unfold okF at h; simp only [Bool.and_eq_true] at h; exact h.1.1.1) (by rw [hq]; simp))
            go_wp2_with fail
            go_ret
            rw [HF.out]
            exact ⟨rfl, by first | exact HB2.out.1 | (rw [← hv0e]; exact HB2.out.1) | exact below_drewM HB2.out.1 _ | (rw [← hv0e]; exact below_drewM HB2.out.1 _)⟩
          have HC := Lib.hid (HFA.out w2 f.name HB2.out.1)
          go_wp2_with fail
          (with_reducible refine HC.out.mono ?_)
          rintro e w3 ⟨rfl, hb3⟩
          have HB3 : Hid (Below w.heap.size w w3 ∧ Below W0.heap.size W0 w3) := Lib.hid ⟨HB2.out.1.trans (hb3.mono HB2.out.1.size), HB2.out.2.trans (hb3.mono HB2.out.2.size)⟩
          have HW3 := Lib.hid (HW2.out.trans (hb3.mono HW2.out.size))
          obtain ⟨y0, y1⟩ := HY.out w3 HB3.out.2
          obtain ⟨z0, z3⟩ := HEF.out w3 HW3.out
          clear hb3 HC
          obtain ⟨fk, hfk⟩ : ∃ fk, fAt fs f.name = fk := ⟨_, rfl⟩
          rw [hfk]
          by_cases hfi : fk = (kf : Int)
          case neg =>
            have HF : Hid (R = false) := Lib.hid (HNO.out (fAt fs f.name = (kf : Int)) (fun h => by unfold okF at h; simp only [Bool.and_eq_true, decide_eq_true_eq] at h; exact h.1.1.2) (by rw [hfk]; exact hfi))
            have hgb : (fk != (kf : Int)) = true := by simp [hfi]
            clear hfk
            go_wp2_with fail
            go_ret
            rw [HF.out]
            exact ⟨rfl, by first | exact HB3.out.1 | (rw [← hv0e]; exact HB3.out.1) | exact below_drewM HB3.out.1 _ | (rw [← hv0e]; exact below_drewM HB3.out.1 _)⟩
          have HFK : Hid (fAt fs f.name = (kf : Int)) := Lib.hid (hfk.trans hfi)
          subst hfi
          clear hfk
          have HC := Lib.hid (HGA.out w3 f.name HB3.out.1)
          go_wp2_with fail
          (with_reducible refine HC.out.mono ?_)
          rintro e w4 ⟨rfl, hb4⟩
          have HB4 : Hid (Below w.heap.size w w4 ∧ Below W0.heap.size W0 w4) := Lib.hid ⟨HB3.out.1.trans (hb4.mono HB3.out.1.size), HB3.out.2.trans (hb4.mono HB3.out.2.size)⟩
          have HW4 := Lib.hid (HW3.out.trans (hb4.mono HW3.out.size))
          obtain ⟨z0, z3⟩ := HEF.out w4 HW4.out
          clear hb4 HC
          obtain ⟨gk, hgk⟩ : ∃ gk, gAt gs f.name = gk := ⟨_, rfl⟩
          rw [hgk]
          by_cases hgi : 0 ≤ gk
          · have HF : Hid (R = false) := Lib.hid (HNO.out (gAt gs f.name < 0) (fun h => by unfold okF at h; simp only [Bool.and_eq_true, decide_eq_true_eq] at h; exact h.1.2) (by rw [hgk]; omega))
            clear hgk
            go_wp2_with fail
            go_ret
            rw [HF.out]
            exact ⟨rfl, by first | exact HB4.out.1 | (rw [← hv0e]; exact HB4.out.1) | exact below_drewM HB4.out.1 _ | (rw [← hv0e]; exact below_drewM HB4.out.1 _)⟩
          have HGK : Hid (gAt gs f.name < 0) := Lib.hid (by rw [hgk]; omega)
          have hgi2 : gk < 0 := by omega
          clear hgk
          go_wp2_with fail
          clear z0 z3
          go_loopw [101] (fun i wr => ∃ kb : Nat, kb ≤ f.blocksn ∧ i = .int .i64 kb ∧ Hid (∀ j b, j < kb → f.blocks[j]? = some b → b.ins.all (okI gs fs) = true) ∧ Hid (Below w.heap.size w wr ∧ Below W0.heap.size W0 wr)) (fun i _ => f.blocksn - (intOf i).toNat)
          case atStart => exact ⟨0, by omega, rfl, Lib.hid (fun j o hj _ => by omega), HB4⟩
          case round =>
            clear HB2 HB3 HB4 HW2 HW3 HW4
            obtain ⟨kb, hkb, rfl, HIB, HBB⟩ := hrel
            rcases Nat.lt_or_ge kb f.blocksn with hkmb | hkmb
            · obtain ⟨b, hb⟩ : ∃ b, f.blocks[kb]? = some b := ⟨_, List.getElem?_eq_getElem (by have := HBLK.out.1; omega)⟩
              obtain ⟨gb, offb, hbA, hgb, hcb⟩ := (HBLK.out.below HBB.out.1).2.2 (by omega)
              have hcsb := hcb kb b hb
              have db0 := hcsb 0 _ rfl
              have db1 := hcsb 1 _ rfl
              have db2 := hcsb 2 _ rfl
              have db3 := hcsb 3 _ rfl
              have db4 := hcsb 4 _ rfl
              rw [Nat.add_zero] at db0
              obtain ⟨Wb, hWb⟩ : ∃ Wb, wr.alloc (.cells #[.slice b.insA b.insn b.insc, .int .i64 b.kind, .int .i64 b.a, .int .i64 b.go, .int .i64 b.els] 41) = Wb := ⟨_, rfl⟩
              have hBb : Below wr.heap.size wr Wb := by rw [← hWb]; exact (Below.refl _ wr).alloc (Nat.le_refl _) _
              have hvb : Wb.heap[wr.heap.size]? = some (.cells #[.slice b.insA b.insn b.insc, .int .i64 b.kind, .int .i64 b.a, .int .i64 b.go, .int .i64 b.els] 41 (0, 0)) := by rw [← hWb]; exact heap_alloc_new wr _
              obtain ⟨vb, hveb⟩ : ∃ vb, wr.heap.size = vb := ⟨_, rfl⟩
              rw [hveb] at hvb
              have eb0 : Wb.cell? ⟨vb, 0, none⟩ = some (.slice b.insA b.insn b.insc) := by rw [cell_of_row _ vb 0 _ _ (0, 0) hvb]; rfl
              have HBb : Hid (Below w.heap.size w Wb ∧ Below W0.heap.size W0 Wb) := Lib.hid ⟨HBB.out.1.trans (hBb.mono HBB.out.1.size), HBB.out.2.trans (hBb.mono HBB.out.2.size)⟩
              have HOb := Lib.hid hb
              have hinb := HBLK.out.2.1 b (List.mem_of_getElem? hb)
              have HIL : Hid (MIns w b.insA b.insn b.ins) := Lib.hid hinb.ins
              have hin9 : (b.insn : Int) ≤ 9223372036854775807 := by have h1 := hinb.insR.1; have h2 := hinb.insR.2; unfold maxLen at h2; omega
              have HLX : Hid (∀ x ∈ b.ins, LightI x) := Lib.hid ((HFL1.out.2.2 b (List.mem_of_getElem? hb)).2)
              have hkmb' : (kb : Int) < (f.blocksn : Int) := by omega
              have hk0b : (0 : Int) ≤ (kb : Int) := by omega
              clear hgb hcb hcsb hb hBb hvb hinb
              obtain ⟨fbA, hfbA⟩ : ∃ A, f.blocksA = A := ⟨_, rfl⟩
              rw [hfbA] at hbA ⊢
              subst hbA
              clear hfbA
              go_wp2_with fail
              clear db0 db1 db2 db3 db4 eb0
              go_loopw [108] (fun i wr => ∃ ki : Nat, ki ≤ b.insn ∧ i = .int .i64 ki ∧ Hid (∀ j x, j < ki → b.ins[j]? = some x → okI gs fs x = true) ∧ Hid (Below w.heap.size w wr ∧ Below W0.heap.size W0 wr)) (fun i _ => b.insn - (intOf i).toNat)
              case atStart => exact ⟨0, by omega, rfl, Lib.hid (fun j o hj _ => by omega), HBb⟩
              case round =>
                clear HBb
                obtain ⟨ki, hki, rfl, HII, HBI⟩ := hrel
                rcases Nat.lt_or_ge ki b.insn with hkmi | hkmi
                · obtain ⟨x, hx⟩ : ∃ x, b.ins[ki]? = some x := ⟨_, List.getElem?_eq_getElem (by have := HIL.out.1; omega)⟩
                  obtain ⟨gi, offi, hiA, hgi3, hci⟩ := (HIL.out.below HBI.out.1).2.2 (by omega)
                  have hcsi := hci ki x hx
                  have di0 := hcsi 0 _ rfl
                  have di1 := hcsi 1 _ rfl
                  have di2 := hcsi 2 _ rfl
                  have di3 := hcsi 3 _ rfl
                  have di4 := hcsi 4 _ rfl
                  have di5 := hcsi 5 _ rfl
                  have di6 := hcsi 6 _ rfl
                  have di7 := hcsi 7 _ rfl
                  rw [Nat.add_zero] at di0
                  obtain ⟨Wi, hWi⟩ : ∃ Wi, wr.alloc (.cells #[.int .i64 x.kind, .int .i64 x.op, .int .i64 x.d, .int .i64 x.a, .int .i64 x.b, .int .i32 x.num, .string x.name, .slice x.argsA x.argsn x.argsc] 44) = Wi := ⟨_, rfl⟩
                  have hBi : Below wr.heap.size wr Wi := by rw [← hWi]; exact (Below.refl _ wr).alloc (Nat.le_refl _) _
                  have hvi : Wi.heap[wr.heap.size]? = some (.cells #[.int .i64 x.kind, .int .i64 x.op, .int .i64 x.d, .int .i64 x.a, .int .i64 x.b, .int .i32 x.num, .string x.name, .slice x.argsA x.argsn x.argsc] 44 (0, 0)) := by rw [← hWi]; exact heap_alloc_new wr _
                  obtain ⟨vi, hvei⟩ : ∃ vi, wr.heap.size = vi := ⟨_, rfl⟩
                  rw [hvei] at hvi
                  have ei0 : Wi.cell? ⟨vi, 0, none⟩ = some (.int .i64 x.kind) := by rw [cell_of_row _ vi 0 _ _ (0, 0) hvi]; rfl
                  have ei6 : Wi.cell? ⟨vi, 6, none⟩ = some (.string x.name) := by rw [cell_of_row _ vi 6 _ _ (0, 0) hvi]; rfl
                  have hvil : vi < Wi.heap.size := World.block_lt_of_cell? Wi _ ei0
                  have HEI : Hid (∀ V, Below Wi.heap.size Wi V → V.cell? ⟨vi, 0, none⟩ = some (.int .i64 x.kind) ∧ V.cell? ⟨vi, 3, none⟩ = some (.int .i64 x.a) ∧ V.cell? ⟨vi, 7, none⟩ = some (.slice x.argsA x.argsn x.argsc)) := Lib.hid (fun V hV => ⟨(hV.cell (p := ⟨vi, 0, none⟩) hvil).trans ei0, (hV.cell (p := ⟨vi, 3, none⟩) hvil).trans (by rw [cell_of_row _ vi 3 _ _ (0, 0) hvi]; rfl), (hV.cell (p := ⟨vi, 7, none⟩) hvil).trans (by rw [cell_of_row _ vi 7 _ _ (0, 0) hvi]; rfl)⟩)
                  have HBi : Hid (Below w.heap.size w Wi ∧ Below W0.heap.size W0 Wi) := Lib.hid ⟨HBI.out.1.trans (hBi.mono HBI.out.1.size), HBI.out.2.trans (hBi.mono HBI.out.2.size)⟩
                  have HOi := Lib.hid hx
                  have HLi := Lib.hid (HLX.out x (List.mem_of_getElem? hx))
                  have HNI : Hid (okI gs fs x = false → R = false) := Lib.hid (fun h => HNO.out (f.blocks.all (fun b => b.ins.all (okI gs fs)) = true) (fun h2 => by unfold okF at h2; simp only [Bool.and_eq_true] at h2; exact h2.2) (by rw [all_no (p := fun b : MBl => b.ins.all (okI gs fs)) HOb.out (all_no hx h)]; simp))
                  have hkmi' : (ki : Int) < (b.insn : Int) := by omega
                  have hk0i : (0 : Int) ≤ (ki : Int) := by omega
                  obtain ⟨y0, y1⟩ := HY.out Wi HBi.out.2
                  clear hgi3 hci hcsi hx hBi hvi hvil
                  obtain ⟨iA, hiA2⟩ : ∃ A, b.insA = A := ⟨_, rfl⟩
                  rw [hiA2] at hiA ⊢
                  subst hiA
                  clear hiA2
                  by_cases hk56 : x.kind = 5 ∨ x.kind = 6
                  · have hk7 : ¬ x.kind = 7 := by omega
                    have HOK : Hid (okI gs fs x = okM gs x) := Lib.hid (by unfold okI; rw [if_pos hk56, if_neg hk7, Bool.and_true])
                    have HC := Lib.hid (HGA.out Wi x.name HBi.out.1)
                    have hkk : (x.kind == 5) = true ∨ ((x.kind == 5) = false ∧ (x.kind == 6) = true) := by
                      rcases hk56 with h | h
                      · exact .inl (by simp [h])
                      · exact .inr ⟨by simp [h], by simp [h]⟩
                    have hk7b : (x.kind == 7) = false := by simp [hk7]
                    have HK := Lib.hid (And.intro hk56 hk7)
                    clear hk56 hk7
                    generalize x.kind = knd at *
                    rcases hkk with hkk | ⟨hkk, hkk2⟩ <;>
                    · go_wp2_with fail
                      (with_reducible refine HC.out.mono ?_)
                      rintro e w2 ⟨rfl, hb2⟩
                      have HB2 : Hid (Below w.heap.size w w2 ∧ Below W0.heap.size W0 w2) := Lib.hid ⟨HBi.out.1.trans (hb2.mono HBi.out.1.size), HBi.out.2.trans (hb2.mono HBi.out.2.size)⟩
                      obtain ⟨y0, y1⟩ := HY.out w2 HB2.out.2
                      obtain ⟨q0, q3, q7⟩ := HEI.out w2 hb2
                      clear hb2
                      obtain ⟨gk, hgk⟩ : ∃ gk, gAt gs x.name = gk := ⟨_, rfl⟩
                      rw [hgk]
                      by_cases hg0 : gk < 0
                      · have HF : Hid (R = false) := Lib.hid (HNI.out (by
                          have h1 : ¬ 0 ≤ gk := by omega
                          rw [HOK.out]
                          unfold okM
                          rw [hgk, decide_eq_false h1]
                          rfl))
                        clear hgk
                        go_wp2_with fail
                        go_quiet (fail)
                        go_wp2_with fail
                        go_ret
                        rw [HF.out]
                        exact ⟨rfl, by first | exact HB2.out.1 | (rw [← hv0e]; exact HB2.out.1) | exact below_drewM HB2.out.1 _ | (rw [← hv0e]; exact below_drewM HB2.out.1 _)⟩
                      · obtain ⟨kk, o, hkk2, hoo⟩ := atN_elem MGl.name x.name gs (show 0 ≤ gAt gs x.name by omega)
                        have hkg : gk = (kk : Int) := hgk.symm.trans hkk2
                        subst hkg
                        have hkl : kk < gn := by have := (List.getElem?_eq_some_iff.1 hoo).1; have := HL.out.1; omega
                        obtain ⟨g, off, hGA, hg, hc⟩ := (HG.out.below HB2.out.1).2.2 (by omega)
                        have dg1 := hc kk o hoo 1 _ rfl
                        have HMB : Hid (okI gs fs x = (decide (0 < o.size) == decide (0 ≤ x.a))) := Lib.hid (by
                          rw [HOK.out]
                          unfold okM
                          rw [hgk, Int.toNat_natCast, List.getD_eq_getElem?_getD, hoo, decide_eq_true (show (0 : Int) ≤ (kk : Int) by omega), Bool.true_and]
                          rfl)
                        have hkl1 : (kk : Int) < (gn : Int) := by omega
                        have hkl0 : (0 : Int) ≤ (kk : Int) := by omega
                        have hg1 : ¬ (kk : Int) < 0 := by omega
                        clear hgk hkk2 hoo hg hc hg0
                        rw [hGA] at y0
                        clear hGA
                        generalize o.size = oz at *
                        generalize x.a = xa at *
                        obtain ⟨b1, hb1⟩ : ∃ b1, decide (0 < oz) = b1 := ⟨_, rfl⟩
                        obtain ⟨b2, hb2⟩ : ∃ b2, decide (0 ≤ xa) = b2 := ⟨_, rfl⟩
                        rw [hb1, hb2] at HMB
                        have hg1b : decide ((kk : Int) < 0) = false := by simp
                        have HB2d : Hid (∀ n, Below w.heap.size w (w2.drewN n) ∧ Below W0.heap.size W0 (w2.drewN n)) := Lib.hid (fun n => ⟨below_drewM HB2.out.1 n, below_drewM HB2.out.2 n⟩)
                        cases b1 <;> cases b2
                        case false.true =>
                          have HF : Hid (R = false) := Lib.hid (HNI.out (by rw [HMB.out]; rfl))
                          have hx1 := of_decide_eq_false hb1
                          have hx2 := of_decide_eq_true hb2
                          go_wp2_with fail
                          go_quiet (fail)
                          go_wp2_with fail
                          go_ret
                          rw [HF.out]
                          exact ⟨rfl, by first | exact HB2.out.1 | (rw [← hv0e]; exact HB2.out.1) | exact below_drewM HB2.out.1 _ | (rw [← hv0e]; exact below_drewM HB2.out.1 _)⟩
                        case true.false =>
                          have HF : Hid (R = false) := Lib.hid (HNI.out (by rw [HMB.out]; rfl))
                          have hx1 := of_decide_eq_true hb1
                          have hx2 := of_decide_eq_false hb2
                          go_wp2_with fail
                          go_quiet (fail)
                          go_wp2_with fail
                          go_ret
                          rw [HF.out]
                          exact ⟨rfl, by first | exact HB2.out.1 | (rw [← hv0e]; exact HB2.out.1) | exact below_drewM HB2.out.1 _ | (rw [← hv0e]; exact below_drewM HB2.out.1 _)⟩
                        case false.false =>
                          have HST := Lib.hid (lt_succ_of (P := fun x => okI gs fs x = true) HII.out HOi.out (by rw [HMB.out]; rfl))
                          have hx1 := of_decide_eq_false hb1
                          have hx2 := of_decide_eq_false hb2
                          go_wp2_with fail
                          go_quiet (fail)
                          go_wp2_with fail
                          go_roundw
                          case rel => exact ⟨ki + 1, by omega, by go_num, HST, Lib.hid (HB2d.out _)⟩
                          case measure => simp [intOf] <;> omega
                        case true.true =>
                          have HST := Lib.hid (lt_succ_of (P := fun x => okI gs fs x = true) HII.out HOi.out (by rw [HMB.out]; rfl))
                          have hx1 := of_decide_eq_true hb1
                          have hx2 := of_decide_eq_true hb2
                          go_wp2_with fail
                          go_quiet (fail)
                          go_wp2_with fail
                          go_roundw
                          case rel => exact ⟨ki + 1, by omega, by go_num, HST, Lib.hid (HB2d.out _)⟩
                          case measure => simp [intOf] <;> omega
                  have hk5 : ¬ x.kind = 5 := fun h => hk56 (.inl h)
                  have hk6 : ¬ x.kind = 6 := fun h => hk56 (.inr h)
                  have hk5b : (x.kind == 5) = false := by simp [hk5]
                  have hk6b : (x.kind == 6) = false := by simp [hk6]
                  by_cases hk7 : x.kind = 7
                  · have hk7b : (x.kind == 7) = true := by simp [hk7]
                    have HOK : Hid (okI gs fs x = okC fs x) := Lib.hid (by unfold okI; rw [if_neg hk56, if_pos hk7, Bool.true_and])
                    have HC := Lib.hid (HFA.out Wi x.name HBi.out.1)
                    clear hk56 hk5 hk6 hk7
                    generalize x.kind = knd at *
                    go_wp2_with fail
                    (with_reducible refine HC.out.mono ?_)
                    rintro e w2 ⟨rfl, hb2⟩
                    have HB2 : Hid (Below w.heap.size w w2 ∧ Below W0.heap.size W0 w2) := Lib.hid ⟨HBi.out.1.trans (hb2.mono HBi.out.1.size), HBi.out.2.trans (hb2.mono HBi.out.2.size)⟩
                    obtain ⟨y0, y1⟩ := HY.out w2 HB2.out.2
                    obtain ⟨q0, q3, q7⟩ := HEI.out w2 hb2
                    clear hb2
                    obtain ⟨gk, hgk⟩ : ∃ gk, fAt fs x.name = gk := ⟨_, rfl⟩
                    rw [hgk]
                    by_cases hg0 : gk < 0
                    · have HF : Hid (R = false) := Lib.hid (HNI.out (by
                        have h1 : ¬ 0 ≤ gk := by omega
                        rw [HOK.out]
                        unfold okC
                        rw [hgk, decide_eq_false h1]
                        rfl))
                      clear hgk
                      go_wp2_with fail
                      go_quiet (fail)
                      go_wp2_with fail
                      go_ret
                      rw [HF.out]
                      exact ⟨rfl, by first | exact HB2.out.1 | (rw [← hv0e]; exact HB2.out.1) | exact below_drewM HB2.out.1 _ | (rw [← hv0e]; exact below_drewM HB2.out.1 _)⟩
                    · obtain ⟨kk, f2, hkk2, hoo⟩ := atN_elem MFn.name x.name fs (show 0 ≤ fAt fs x.name by omega)
                      have hkg : gk = (kk : Int) := hgk.symm.trans hkk2
                      subst hkg
                      have hkl : kk < fn := by have := (List.getElem?_eq_some_iff.1 hoo).1; have := HL.out.2; omega
                      obtain ⟨g9, off9, hFA9, hg, hc⟩ := (HF.out.below HB2.out.1).2.2 (by omega)
                      cases hFA9
                      have dg1 := hc kk f2 hoo 1 _ rfl
                      have HMB : Hid (okI gs fs x = decide (f2.params = (x.argsn : Int))) := Lib.hid (by
                        rw [HOK.out]
                        unfold okC
                        rw [hgk, Int.toNat_natCast, List.getD_eq_getElem?_getD, hoo, decide_eq_true (show (0 : Int) ≤ (kk : Int) by omega), Bool.true_and]
                        rfl)
                      have hkl1 : (kk : Int) < (fn : Int) := by omega
                      have hkl0 : (0 : Int) ≤ (kk : Int) := by omega
                      have hg1b : decide ((kk : Int) < 0) = false := by simp
                      have HB2d : Hid (∀ n, Below w.heap.size w (w2.drewN n) ∧ Below W0.heap.size W0 (w2.drewN n)) := Lib.hid (fun n => ⟨below_drewM HB2.out.1 n, below_drewM HB2.out.2 n⟩)
                      clear hgk hkk2 hoo hg hc hg0
                      generalize f2.params = pz at *
                      generalize x.argsn = an at *
                      by_cases hA1 : pz = (an : Int)
                      · have HST := Lib.hid (lt_succ_of (P := fun x => okI gs fs x = true) HII.out HOi.out (by rw [HMB.out]; exact decide_eq_true hA1))
                        have hA1b : (pz != (an : Int)) = false := by simp [hA1]
                        clear HMB
                        subst hA1
                        go_wp2_with fail
                        go_quiet (fail)
                        go_wp2_with fail
                        go_roundw
                        case rel => exact ⟨ki + 1, by omega, by go_num, HST, Lib.hid (HB2d.out _)⟩
                        case measure => simp [intOf] <;> omega
                      · have HF : Hid (R = false) := Lib.hid (HNI.out (by rw [HMB.out]; exact decide_eq_false hA1))
                        have hA1b : (pz != (an : Int)) = true := by simp [hA1]
                        go_wp2_with fail
                        go_quiet (fail)
                        go_wp2_with fail
                        go_ret
                        rw [HF.out]
                        exact ⟨rfl, by first | exact HB2.out.1 | (rw [← hv0e]; exact HB2.out.1) | exact below_drewM HB2.out.1 _ | (rw [← hv0e]; exact below_drewM HB2.out.1 _)⟩
                  · have hk7b : (x.kind == 7) = false := by simp [hk7]
                    have HST := Lib.hid (lt_succ_of (P := fun x => okI gs fs x = true) HII.out HOi.out (by unfold okI; rw [if_neg hk56, if_neg hk7]; rfl))
                    clear hk56 hk5 hk6 hk7
                    generalize x.kind = knd at *
                    go_wp2_with fail
                    go_roundw
                    case rel => exact ⟨ki + 1, by omega, by go_num, HST, HBi⟩
                    case measure => simp [intOf] <;> omega
                · obtain rfl : b.insn = ki := by omega
                  have HST := Lib.hid (lt_succ_of (P := fun b : MBl => b.ins.all (okI gs fs) = true) HIB.out HOb.out (all_yes HIL.out.1 HII.out))
                  go_wp2_with fail
                  go_roundw
                  case rel => exact ⟨kb + 1, by omega, by go_num, HST, HBI⟩
                  case measure => simp [intOf] <;> omega
            · obtain rfl : f.blocksn = kb := by omega
              have HST := Lib.hid (lt_succ_ix (P := fun j f => okF gs fs j f = true) HIF.out HOf.out (by
                unfold okF
                rw [hq, HFK.out, decide_eq_true rfl, decide_eq_true HGK.out, all_yes HBLK.out.1 HIB.out]
                rfl))
              go_wp2_with fail
              go_roundw
              case rel => exact ⟨kf + 1, by omega, by go_num, HST, HBB⟩
              case measure => simp [intOf] <;> omega
        · obtain rfl : fn = kf := by omega
          have HTR : Hid (R = true) := Lib.hid (by rw [HR4.out]; exact allIx_yes HL.out.2 HIF.out)
          go_wp2_with fail
          go_ret
          rw [HTR.out]
          exact ⟨rfl, by first | exact HBF.out.1 | (rw [← hv0e]; exact HBF.out.1) | exact below_drewM HBF.out.1 _ | (rw [← hv0e]; exact below_drewM HBF.out.1 _)⟩
end Go.Proofs.Ytcanjkjpdnbcnaa
