/-
  The statement 'Rows.DiskBeginningsSaid': for every input the law 'brazier/brazierlaw04.DiskBeginnings' answers true and leaves its arguments as they were. Conditions: none.
  This file is the frame; the walk through the Go text lies in YtbjlikppboggmaaDiskBeginningsW.
-/
import Derived.Test.YtbjlikppboggmaaRows
import Derived.Test.YtbjlikppboggmaaZbs
import Derived.ProofKit
import Derived.OpenShut
import Derived.ShutString
import Derived.ChangeOld
import Derived.Below
import Derived.Carry
import Derived.Stop.Joined
import Derived.Deep.Matrix
import Derived.ChangeSame
namespace Go.Proofs.Ytbjlikppboggmaa.diskBeginnings
open Go.ChangeShapes Go.WideShapes Go.ChangeAt Go.RowKit
open Go.ChangeMaps (open_string shut_string)
set_option linter.unusedVariables false
set_option maxRecDepth 100000

theorem own : ownKnob Try.prog.godebug = none := by kernel_rfl
theorem laidOut : laidOutB Try.prog = true := by kernel_rfl
theorem lifted (os : Os) (started : os.Started) (H : Type) (enc : TypeId × Value → H) :
    ReturnsInHanded {} Try.checked os 5 .any (Rows.diskBeginningsSpec.pre6 enc Try.prog Try.f5 Rows.diskBeginningsRow.domain false) (Rows.diskBeginningsSpec.post enc Try.prog Try.f5 false true false false) := by
  refine returnsInHanded_of_change (C := Try.checked) own started (by kernel_rfl) Try.func5
    (ChangeSpec.witness6 (enc := enc) (C := Try.checked) false ⟨#[], #[.slice none 0 0, .agg #[.int .i64 0, .slice none 0 0], .agg #[.int .i64 0, .slice none 0 0]], []⟩ 8 (by kernel_rfl) (by kernel_rfl) (by kernel_rfl) (by kernel_rfl)) ?_
  intro W base args ds gs before hval0 hW hcnd _
  have hval : ∀ (j : Nat) t v, Try.f5.params[j]? = some t → args[j]? = some v → Value.okWide Try.prog W .any base t v := hval0
  have hW' := hW
  obtain ⟨p, q, hA0, hV, rfl, hfz, hnd⟩ := hW
  have hA : DataW.TrodAll enc Try.prog W 0 (fun _ => true) true Try.f5.params.toList args.toList ds p := hA0
  rw [Try.params5] at hA hval
  obtain ⟨v0, vs0, d0, ds0, p0, q0, hargs, rfl, rfl, h0, r0⟩ := trodAll_cons hA
  obtain ⟨v1, vs1, d1, ds1, p1, q1, rfl, rfl, rfl, h1, r1⟩ := trodAll_cons r0
  obtain ⟨v2, vs2, d2, ds2, p2, q2, rfl, rfl, rfl, h2, r2⟩ := trodAll_cons r1
  obtain ⟨rfl, rfl, rfl⟩ := trodAll_nil r2
  obtain rfl : args = #[v0, v1, v2] := by cases args; simp_all
  obtain ⟨rfl, rfl⟩ := trodVars_none hV
  obtain ⟨a0, len0, cap0, rfl⟩ := okWide_slice Try.underlying22 (hval 0 22 v0 rfl rfl)
  have k0 := h0
  have lt0 : ∀ x ∈ p0, x.block < W.heap.size := by obtain ⟨m, hm⟩ := k0; exact DataW.trod_lt m _ _ _ hm
  obtain ⟨z0, w0, lc0, cm0⟩ : ∃ os, OpsIn W a0 len0 os ∧ len0 ≤ cap0 ∧ cap0 ≤ maxLen := by
    obtain ⟨fuel, hf⟩ := h0
    exact ops_of7 hf
  obtain ⟨cs1, rfl, hs1⟩ : ∃ cs, v1 = .agg cs ∧ cs.size = 2 := by
    have h := hval 1 32 v1 rfl rfl
    simp only [Value.okWide, Try.underlying32] at h
    obtain ⟨cs, g1, g2, _⟩ := h
    exact ⟨cs, g1, by rw [g2]; kernel_rfl⟩
  have k1 := h1
  have lt1 : ∀ x ∈ p1, x.block < W.heap.size := by obtain ⟨m, hm⟩ := k1; exact DataW.trod_lt m _ _ _ hm
  obtain ⟨dr1, ak1, lk1, ck1, zk1, hc1, wd1, wk1⟩ : ∃ dr ak lk ck zk, cs1 = #[.int .i64 dr, .slice ak lk ck] ∧ (Lit.int .i64 dr).wf = true ∧ IsRow .i64 W ak lk ck zk := by
    obtain ⟨fuel, hf⟩ := h1
    obtain ⟨y0, y1, m, _, _, e0, e1⟩ := trod_struct2 Try.underlying32 hf
    have hcI : Try.prog.cellsOf 3 = 1 := by kernel_rfl
    have hcS : Try.prog.cellsOf 30 = 1 := by kernel_rfl
    obtain ⟨c0, c1, hcc⟩ : ∃ c0 c1, cs1.toList = [c0, c1] := by
      have hlen : cs1.toList.length = 2 := by simpa using hs1
      match h : cs1.toList, hlen with
      | [c0, c1], _ => exact ⟨c0, c1, rfl⟩
    simp only [Value.cells, hcc, hcI, hcS, List.drop_zero, List.drop_succ_cons, List.take_succ_cons, List.take_zero] at e0 e1
    obtain ⟨dr, e0', _, wd⟩ := DataW.trod_int Try.underlying3 e0
    simp at e0'
    subst e0'
    obtain ⟨ax, lx, cx, zx, rfl, wx⟩ : ∃ a l c zs, c1 = Value.slice a l c ∧ IsRow .i64 W a l c zs := by
      rcases open_ints Try.underlying30 Try.underlying3 (by kernel_rfl) e1 with ⟨hcs, _⟩ | ⟨x, l, c, zs, hcs, _, hl, hm, hz, _, hcell, hwz⟩
      · simp at hcs
        exact ⟨none, 0, 0, [], hcs, .inl ⟨rfl, rfl, rfl, rfl⟩⟩
      · simp at hcs
        exact ⟨some x, l, c, zs, hcs, .inr ⟨_, rfl, hl, hm, by simpa using hz, hcell, hwz⟩⟩
    exact ⟨dr, ax, lx, cx, zx, Array.toList_inj.1 hcc, wd, wx⟩
  subst hc1
  obtain ⟨cs2, rfl, hs2⟩ : ∃ cs, v2 = .agg cs ∧ cs.size = 2 := by
    have h := hval 2 32 v2 rfl rfl
    simp only [Value.okWide, Try.underlying32] at h
    obtain ⟨cs, g1, g2, _⟩ := h
    exact ⟨cs, g1, by rw [g2]; kernel_rfl⟩
  have k2 := h2
  have lt2 : ∀ x ∈ p2, x.block < W.heap.size := by obtain ⟨m, hm⟩ := k2; exact DataW.trod_lt m _ _ _ hm
  obtain ⟨dr2, ak2, lk2, ck2, zk2, hc2, wd2, wk2⟩ : ∃ dr ak lk ck zk, cs2 = #[.int .i64 dr, .slice ak lk ck] ∧ (Lit.int .i64 dr).wf = true ∧ IsRow .i64 W ak lk ck zk := by
    obtain ⟨fuel, hf⟩ := h2
    obtain ⟨y0, y1, m, _, _, e0, e1⟩ := trod_struct2 Try.underlying32 hf
    have hcI : Try.prog.cellsOf 3 = 1 := by kernel_rfl
    have hcS : Try.prog.cellsOf 30 = 1 := by kernel_rfl
    obtain ⟨c0, c1, hcc⟩ : ∃ c0 c1, cs2.toList = [c0, c1] := by
      have hlen : cs2.toList.length = 2 := by simpa using hs2
      match h : cs2.toList, hlen with
      | [c0, c1], _ => exact ⟨c0, c1, rfl⟩
    simp only [Value.cells, hcc, hcI, hcS, List.drop_zero, List.drop_succ_cons, List.take_succ_cons, List.take_zero] at e0 e1
    obtain ⟨dr, e0', _, wd⟩ := DataW.trod_int Try.underlying3 e0
    simp at e0'
    subst e0'
    obtain ⟨ax, lx, cx, zx, rfl, wx⟩ : ∃ a l c zs, c1 = Value.slice a l c ∧ IsRow .i64 W a l c zs := by
      rcases open_ints Try.underlying30 Try.underlying3 (by kernel_rfl) e1 with ⟨hcs, _⟩ | ⟨x, l, c, zs, hcs, _, hl, hm, hz, _, hcell, hwz⟩
      · simp at hcs
        exact ⟨none, 0, 0, [], hcs, .inl ⟨rfl, rfl, rfl, rfl⟩⟩
      · simp at hcs
        exact ⟨some x, l, c, zs, hcs, .inr ⟨_, rfl, hl, hm, by simpa using hz, hcell, hwz⟩⟩
    exact ⟨dr, ax, lx, cx, zx, Array.toList_inj.1 hcc, wd, wx⟩
  subst hc2
  clear hA0 hval0
  refine (diskBeginnings_walk a0 len0 cap0 z0 dr1 ak1 lk1 ck1 zk1 dr2 ak2 lk2 ck2 zk2 W w0 lc0 cm0 wd1 wk1 wd2 wk2).mono fun e W' ⟨he, bel⟩ => ?_
  subst he
  exact ⟨_, rfl, _, _, _, [], _, [], hW', trodAll_mk1 (shut_bool Try.underlying4 _), (trodAll_cons_mk (Below.trod laidOut (by kernel_rfl) (of_decide_eq_true (by kernel_rfl)) k0 bel lt0) (trodAll_cons_mk (Below.trod laidOut (by kernel_rfl) (of_decide_eq_true (by kernel_rfl)) k1 bel lt1) (trodAll_cons_mk (Below.trod laidOut (by kernel_rfl) (of_decide_eq_true (by kernel_rfl)) k2 bel lt2) trodAll_mk0))), rfl, bel.frame _, fun h => by cases h⟩

/-- The statement. -/
theorem proved : Rows.DiskBeginningsSaid :=
  OpenClaim.holds_of_wide 5 Try.f5 rfl rfl rfl rfl rfl rfl rfl ⟨rfl, rfl, rfl, rfl, rfl⟩ rfl rfl rfl rfl rfl (by kernel_rfl) Try.func5 (by kernel_rfl)
    (of_decide_eq_true (by kernel_rfl)) (by unfold Func.isWrapper; first | (rw [if_pos (by decide +kernel)]; kernel_rfl) | (rw [if_neg (by decide +kernel)]; exact ⟨rfl, rfl⟩))
    (fun os started H enc _ => lifted os started H enc)
#print axioms proved
end Go.Proofs.Ytbjlikppboggmaa.diskBeginnings
