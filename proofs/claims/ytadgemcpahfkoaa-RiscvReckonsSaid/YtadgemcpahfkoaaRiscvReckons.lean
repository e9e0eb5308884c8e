/-
  The statement 'Rows.RiscvReckonsSaid': for every input the law 'brazier/brazierlaw18.RiscvReckons' answers true and leaves its arguments as they were. Conditions: none.
  This file is the frame; the walk through the Go text lies in YtadgemcpahfkoaaRiscvReckonsW.
-/
import Derived.Test.YtadgemcpahfkoaaRows
import Derived.Test.YtadgemcpahfkoaaRiscvReckonsW
import Derived.ProofKit
import Derived.OpenShut
import Derived.ShutString
import Derived.ChangeOld
import Derived.Below
import Derived.Carry
import Derived.Stop.Joined
import Derived.Deep.Matrix
import Derived.ChangeSame
namespace Go.Proofs.Ytadgemcpahfkoaa.riscvReckons
open Go.ChangeShapes Go.WideShapes Go.ChangeAt Go.RowKit
open Go.ChangeMaps (open_string shut_string)
set_option linter.unusedVariables false
set_option maxRecDepth 100000

theorem own : ownKnob Try.prog.godebug = none := by kernel_rfl
theorem laidOut : laidOutB Try.prog = true := by kernel_rfl
theorem lifted (os : Os) (started : os.Started) (H : Type) (enc : TypeId × Value → H) :
    ReturnsInHanded {} Try.checked os 6 .any (Rows.riscvReckonsSpec.pre6 enc Try.prog Try.f6 Rows.riscvReckonsRow.domain false) (Rows.riscvReckonsSpec.post enc Try.prog Try.f6 false true false false) := by
  refine returnsInHanded_of_change (C := Try.checked) own started (by kernel_rfl) Try.func6
    (ChangeSpec.witness6 (enc := enc) (C := Try.checked) false ⟨#[], #[.int .u64 0, .agg #[.int .i32 0, .int .i32 0]], []⟩ 8 (by kernel_rfl) (by kernel_rfl) (by kernel_rfl) (by kernel_rfl)) ?_
  intro W base args ds gs before hval0 hW hcnd _
  have hval : ∀ (j : Nat) t v, Try.f6.params[j]? = some t → args[j]? = some v → Value.okWide Try.prog W .any base t v := hval0
  have hW' := hW
  obtain ⟨p, q, hA0, hV, rfl, hfz, hnd⟩ := hW
  have hA : DataW.TrodAll enc Try.prog W 0 (fun _ => true) true Try.f6.params.toList args.toList ds p := hA0
  rw [Try.params6] at hA hval
  obtain ⟨v0, vs0, d0, ds0, p0, q0, hargs, rfl, rfl, h0, r0⟩ := trodAll_cons hA
  obtain ⟨v1, vs1, d1, ds1, p1, q1, rfl, rfl, rfl, h1, r1⟩ := trodAll_cons r0
  obtain ⟨rfl, rfl, rfl⟩ := trodAll_nil r1
  obtain rfl : args = #[v0, v1] := by cases args; simp_all
  obtain ⟨rfl, rfl⟩ := trodVars_none hV
  obtain ⟨a0, rfl, rfl, rfl, w0⟩ := open_int Try.underlying62 (hval 0 62 v0 rfl rfl) h0
  obtain ⟨cs1, rfl, hs1⟩ : ∃ cs, v1 = .agg cs ∧ cs.size = 2 := by
    have h := hval 1 48 v1 rfl rfl
    simp only [Value.okWide, Try.underlying48] at h
    obtain ⟨cs, g1, g2, _⟩ := h
    exact ⟨cs, g1, by rw [g2]; kernel_rfl⟩
  have k1 := h1
  have lt1 : ∀ x ∈ p1, x.block < W.heap.size := by obtain ⟨m, hm⟩ := k1; exact DataW.trod_lt m _ _ _ hm
  obtain ⟨x1, y1, hc1, wx1, wy1⟩ : ∃ x y, cs1 = #[.int .i32 x, .int .i32 y] ∧ (Lit.int .i32 x).wf = true ∧ (Lit.int .i32 y).wf = true := by
    obtain ⟨fuel, hf⟩ := h1
    obtain ⟨xs, m, _, _, _, hl, he⟩ := DataW.trod_array Try.underlying48 hf
    have e0 := he 0 (by omega)
    have e1 := he 1 (by omega)
    have hc : Try.prog.cellsOf 21 = 1 := by kernel_rfl
    rw [hc] at e0 e1
    obtain ⟨x0, hx0⟩ : ∃ z, xs[0]? = some z := ⟨_, List.getElem?_eq_getElem (by omega)⟩
    obtain ⟨x1, hx1⟩ : ∃ z, xs[1]? = some z := ⟨_, List.getElem?_eq_getElem (by omega)⟩
    rw [hx0] at e0
    rw [hx1] at e1
    obtain ⟨a, ha, _, wa⟩ := DataW.trod_int Try.underlying21 e0
    obtain ⟨b, hb, _, wb⟩ := DataW.trod_int Try.underlying21 e1
    refine ⟨a, b, ?_, wa, wb⟩
    simp only [Value.cells] at ha hb
    obtain ⟨c0, c1, hcc⟩ : ∃ c0 c1, cs1.toList = [c0, c1] := by
      have hlen : cs1.toList.length = 2 := by simpa using hs1
      match h : cs1.toList, hlen with
      | [c0, c1], _ => exact ⟨c0, c1, rfl⟩
    rw [hcc] at ha hb
    simp at ha hb
    subst ha hb
    exact Array.toList_inj.1 hcc
  subst hc1
  clear hA0 hval0
  refine (riscvReckons_walk a0 x1 y1 W w0 wx1 wy1).mono fun e W' ⟨he, bel⟩ => ?_
  subst he
  exact ⟨_, rfl, _, _, _, [], _, [], hW', trodAll_mk1 (shut_bool Try.underlying4 _), (trodAll_cons_mk (shut_int Try.underlying62 w0) (trodAll_cons_mk (Below.trod laidOut (by kernel_rfl) (of_decide_eq_true (by kernel_rfl)) k1 bel lt1) trodAll_mk0)), rfl, bel.frame _, fun h => by cases h⟩

/-- The statement. -/
theorem proved : Rows.RiscvReckonsSaid :=
  OpenClaim.holds_of_wide 6 Try.f6 rfl rfl rfl rfl rfl rfl rfl ⟨rfl, rfl, rfl, rfl, rfl⟩ rfl rfl rfl rfl rfl (by kernel_rfl) Try.func6 (by kernel_rfl)
    (of_decide_eq_true (by kernel_rfl)) (by unfold Func.isWrapper; first | (rw [if_pos (by decide +kernel)]; kernel_rfl) | (rw [if_neg (by decide +kernel)]; exact ⟨rfl, rfl⟩))
    (fun os started H enc _ => lifted os started H enc)
#print axioms proved
end Go.Proofs.Ytadgemcpahfkoaa.riscvReckons
