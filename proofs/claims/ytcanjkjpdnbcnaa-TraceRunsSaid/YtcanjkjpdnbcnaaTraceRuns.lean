/-
  The statement 'Rows.TraceRunsSaid': for every input the law 'brazier/brazierlaw12.TraceRuns' answers true and leaves its arguments as they were. Conditions: none.
  This file is the frame; the walk through the Go text lies in YtcanjkjpdnbcnaaTraceRunsW.
-/
import Derived.Test.YtcanjkjpdnbcnaaRows
import Derived.Test.YtcanjkjpdnbcnaaZbe
import Derived.ProofKit
import Derived.OpenShut
import Derived.ShutString
import Derived.ChangeOld
import Derived.Below
import Derived.Carry
import Derived.Stop.Joined
import Derived.Deep.Matrix
import Derived.ChangeSame
namespace Go.Proofs.Ytcanjkjpdnbcnaa.traceRuns
open Go.ChangeShapes Go.WideShapes Go.ChangeAt Go.RowKit
open Go.ChangeMaps (open_string shut_string)
set_option linter.unusedVariables false
set_option maxRecDepth 100000

theorem own : ownKnob Try.prog.godebug = none := by kernel_rfl
theorem laidOut : laidOutB Try.prog = true := by kernel_rfl
theorem lifted (os : Os) (started : os.Started) (H : Type) (enc : TypeId × Value → H) :
    ReturnsInHanded {} Try.checked os 3 .any (Rows.traceRunsSpec.pre6 enc Try.prog Try.f3 Rows.traceRunsRow.domain false) (Rows.traceRunsSpec.post enc Try.prog Try.f3 false true false false) := by
  refine returnsInHanded_of_change (C := Try.checked) own started (by kernel_rfl) Try.func3
    (ChangeSpec.witness6 (enc := enc) (C := Try.checked) false ⟨#[], #[.agg #[.slice none 0 0, .slice none 0 0], .slice none 0 0, .int .i64 0], []⟩ 8 (by kernel_rfl) (by kernel_rfl) (by kernel_rfl) (by kernel_rfl)) ?_
  intro W base args ds gs before hval0 hW hcnd _
  have hval : ∀ (j : Nat) t v, Try.f3.params[j]? = some t → args[j]? = some v → Value.okWide Try.prog W .any base t v := hval0
  have hW' := hW
  obtain ⟨p, q, hA0, hV, rfl, hfz, hnd⟩ := hW
  have hA : DataW.TrodAll enc Try.prog W 0 (fun _ => true) true Try.f3.params.toList args.toList ds p := hA0
  rw [Try.params3] at hA hval
  obtain ⟨v0, vs0, d0, ds0, p0, q0, hargs, rfl, rfl, h0, r0⟩ := trodAll_cons hA
  obtain ⟨v1, vs1, d1, ds1, p1, q1, rfl, rfl, rfl, h1, r1⟩ := trodAll_cons r0
  obtain ⟨v2, vs2, d2, ds2, p2, q2, rfl, rfl, rfl, h2, r2⟩ := trodAll_cons r1
  obtain ⟨rfl, rfl, rfl⟩ := trodAll_nil r2
  obtain rfl : args = #[v0, v1, v2] := by cases args; simp_all
  obtain ⟨rfl, rfl⟩ := trodVars_none hV
  obtain ⟨cs0, rfl, hs0⟩ : ∃ cs, v0 = .agg cs ∧ cs.size = 2 := by
    have h := hval 0 25 v0 rfl rfl
    simp only [Value.okWide, Try.underlying25] at h
    obtain ⟨cs, g1, g2, _⟩ := h
    exact ⟨cs, g1, by rw [g2]; kernel_rfl⟩
  have k0 := h0
  have lt0 : ∀ x ∈ p0, x.block < W.heap.size := by obtain ⟨m, hm⟩ := k0; exact DataW.trod_lt m _ _ _ hm
  obtain ⟨ga0, gn0, gc0, fa0, fn0, fc0, gs0, fs0, hc0, wg0, wf0, bg0, bf0⟩ : ∃ ga gn gc fa fn fc gs fs, cs0 = #[.slice ga gn gc, .slice fa fn fc] ∧ MGls W ga gn gs ∧ MFns W fa fn fs ∧ (gn ≤ gc ∧ gc ≤ maxLen) ∧ (fn ≤ fc ∧ fc ≤ maxLen) := by
    obtain ⟨fuel, hf⟩ := h0
    obtain ⟨y0, y1, m, _, _, e0, e1⟩ := trod_struct2 Try.underlying25 hf
    have hcG : Try.prog.cellsOf 22 = 1 := by kernel_rfl
    have hcF : Try.prog.cellsOf 23 = 1 := by kernel_rfl
    obtain ⟨c0, c1, hcc⟩ : ∃ c0 c1, cs0.toList = [c0, c1] := by
      have hlen : cs0.toList.length = 2 := by simpa using hs0
      match h : cs0.toList, hlen with
      | [c0, c1], _ => exact ⟨c0, c1, rfl⟩
    simp only [Value.cells, hcc, hcG, hcF, List.drop_zero, List.drop_succ_cons, List.take_succ_cons, List.take_zero] at e0 e1
    obtain ⟨ga, gn, gc, gs, rfl, wg, g1, g2⟩ := MGls.of e0
    obtain ⟨fa, fn, fc, fs, rfl, wf, f1, f2⟩ := MFns.of e1
    exact ⟨ga, gn, gc, fa, fn, fc, gs, fs, Array.toList_inj.1 hcc, wg, wf, ⟨g1, g2⟩, f1, f2⟩
  subst hc0
  obtain ⟨a1, len1, cap1, rfl⟩ := okWide_slice Try.underlying26 (hval 1 26 v1 rfl rfl)
  have k1 := h1
  have lt1 : ∀ x ∈ p1, x.block < W.heap.size := by obtain ⟨m, hm⟩ := k1; exact DataW.trod_lt m _ _ _ hm
  obtain ⟨z1, w1⟩ : ∃ zs, IsRow .i32 W a1 len1 cap1 zs := by
    obtain ⟨fuel, hf⟩ := h1
    rcases open_ints Try.underlying26 Try.underlying21 (by kernel_rfl) hf with ⟨hcs, _⟩ | ⟨x, l, c, zs, hcs, _, hl, hm, hz, _, hcell, hwz⟩
    · simp [Value.cells] at hcs
      obtain ⟨rfl, rfl, rfl⟩ := hcs
      exact ⟨[], .inl ⟨rfl, rfl, rfl, rfl⟩⟩
    · simp [Value.cells] at hcs
      obtain ⟨rfl, rfl, rfl⟩ := hcs
      exact ⟨zs, .inr ⟨_, rfl, hl, hm, by simpa using hz, hcell, hwz⟩⟩
  obtain ⟨a2, rfl, rfl, rfl, w2⟩ := open_int Try.underlying3 (hval 2 3 v2 rfl rfl) h2
  clear hA0 hval0
  refine (traceRuns_walk ga0 gn0 gc0 fa0 fn0 fc0 gs0 fs0 a1 len1 cap1 z1 a2 W wg0 wf0 bg0 bf0 w1 w2).mono fun e W' ⟨he, bel⟩ => ?_
  subst he
  exact ⟨_, rfl, _, _, _, [], _, [], hW', trodAll_mk1 (shut_bool Try.underlying4 _), (trodAll_cons_mk (Below.trod laidOut (by kernel_rfl) (of_decide_eq_true (by kernel_rfl)) k0 bel lt0) (trodAll_cons_mk (Below.trod laidOut (by kernel_rfl) (of_decide_eq_true (by kernel_rfl)) k1 bel lt1) (trodAll_cons_mk (shut_int Try.underlying3 w2) trodAll_mk0))), rfl, bel.frame _, fun h => by cases h⟩

/-- The statement. -/
theorem proved : Rows.TraceRunsSaid :=
  OpenClaim.holds_of_wide 3 Try.f3 rfl rfl rfl rfl rfl rfl rfl ⟨rfl, rfl, rfl, rfl, rfl⟩ rfl rfl rfl rfl rfl (by kernel_rfl) Try.func3 (by kernel_rfl)
    (of_decide_eq_true (by kernel_rfl)) (by unfold Func.isWrapper; first | (rw [if_pos (by decide +kernel)]; kernel_rfl) | (rw [if_neg (by decide +kernel)]; exact ⟨rfl, rfl⟩))
    (fun os started H enc _ => lifted os started H enc)
#print axioms proved
end Go.Proofs.Ytcanjkjpdnbcnaa.traceRuns
