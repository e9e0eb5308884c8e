/-
  The statement 'Rows.CasCrashesCardSaid': for every input the law 'brazier/brazierlaw06.CasCrashes' answers true and leaves its arguments as they were. Conditions: none but the row's own (the listed package-level variables hold what the program's text lays).
  This file is the frame; the walk through the Go text lies in YtdjnebgjdekmaaaGreatDoorCasCrashesW.
-/
import Derived.Test.YtdjnebgjdekmaaaGreatDoorRows
import Derived.Test.YtdjnebgjdekmaaaGreatDoorTie
import Derived.Test.YtdjnebgjdekmaaaGreatDoorCards
import Derived.Test.YtdjnebgjdekmaaaGreatDoorZbs
import Derived.ProofKit
import Derived.OpenShut
import Derived.ShutString
import Derived.ChangeOld
import Derived.Below
import Derived.LaidMore
import Derived.Stop.Joined
import Derived.SevenTiedAt
import Derived.Deep.Matrix
namespace Go.Proofs.YtdjnebgjdekmaaaGreatDoor.casCrashes
open Go.ChangeShapes Go.WideShapes Go.ChangeAt Go.RowKit
open Go.ChangeMaps (open_string shut_string)
set_option linter.unusedVariables false
set_option maxRecDepth 100000

theorem own : ownKnob Tryz.prog.godebug = none := by kernel_rfl
theorem laidOut : laidOutB Tryz.prog = true := by kernel_rfl
theorem door_met (os : Os) (args : Array Value) : laidMetH Tryz.prog Rows.casCrashesRow.laid ((World.doorLaid Tryz.prog 400 os).forCall (fun _ _ => 0) ⟨#[], args, []⟩).memory :=
  laidMetH_of_parts3 (fuel := 8) (laidMet_of_run' 8 (by kernel_rfl) (by kernel_rfl)) (by kernel_rfl) (by kernel_rfl)

theorem lifted (os : Os) (started : os.Started) (H : Type) (enc : TypeId × Value → H) :
    ReturnsInHanded {} Tryz.checked os 3 .any (fun w args => (Rows.casCrashesSpec.pre enc Tryz.prog Tryz.f3 [] false w args ∧ laidMetH Tryz.prog Rows.casCrashesRow.laid w) ∧ sizedMet enc Tryz.prog Tryz.f3 (OpenSpec.ofChange Rows.casCrashesSpec) false w args)
      (Rows.casCrashesSpec.post enc Tryz.prog Tryz.f3 false true false false) := by
  refine returnsInHanded_of_change_and (C := Tryz.checked) (X := fun w _ => laidMetH Tryz.prog Rows.casCrashesRow.laid w) (fun _ _ _ hh h => h.of_heap hh) own started (by kernel_rfl) Tryz.func3
    (ChangeSpec.witness_shaped (enc := enc) (C := Tryz.checked) (os := os) (X := fun w _ => laidMetH Tryz.prog Rows.casCrashesRow.laid w) false (World.doorLaid Tryz.prog 400 os) #[.slice none 0 0, .int .i64 0, .agg #[.int .i64 0, .slice none 0 0]] 8 rfl (World.shaped_of_RefB (by kernel_rfl) (by kernel_rfl)) (by kernel_rfl) (by kernel_rfl) (by kernel_rfl) (door_met os _)) ?_
  intro W base args ds gs before hval0 hW hcnd hsz0 hL _
  have hval : ∀ (j : Nat) t v, Tryz.f3.params[j]? = some t → args[j]? = some v → Value.okWide Tryz.prog W .any base t v := hval0
  have hW' := hW
  obtain ⟨p, q, hA0, hV, rfl, hfz, hnd⟩ := hW
  have hA : DataW.TrodAll enc Tryz.prog W 0 (fun _ => true) true Tryz.f3.params.toList args.toList ds p := hA0
  rw [Tryz.params3] at hA hval
  obtain ⟨v0, vs0, d0, ds0, p0, q0, hargs, rfl, rfl, h0, r0⟩ := trodAll_cons hA
  obtain ⟨v1, vs1, d1, ds1, p1, q1, rfl, rfl, rfl, h1, r1⟩ := trodAll_cons r0
  obtain ⟨v2, vs2, d2, ds2, p2, q2, rfl, rfl, rfl, h2, r2⟩ := trodAll_cons r1
  obtain ⟨rfl, rfl, rfl⟩ := trodAll_nil r2
  obtain rfl : args = #[v0, v1, v2] := by cases args; simp_all
  obtain ⟨rfl, rfl⟩ := trodVars_none hV
  have hsz := hsz0
  rw [Tryz.params3] at hsz
  obtain ⟨a1, rfl, rfl, rfl, w1⟩ := open_int Tryz.underlying3 (hval 1 3 v1 rfl rfl) h1
  obtain ⟨a0, len0, cap0, rfl⟩ := okWide_slice Tryz.underlying22 (hval 0 22 v0 rfl rfl)
  have k0 := h0
  have lt0 : ∀ x ∈ p0, x.block < W.heap.size := by obtain ⟨m, hm⟩ := k0; exact DataW.trod_lt m _ _ _ hm
  obtain ⟨z0, w0, wl0, wm0⟩ : ∃ os, KvRs W a0 len0 os ∧ len0 ≤ cap0 ∧ cap0 ≤ maxLen := by
    obtain ⟨fuel, hf⟩ := h0
    exact KvRs.of (by simpa [Value.cells] using hf)
  obtain ⟨cs2, rfl, hs2⟩ : ∃ cs, v2 = .agg cs ∧ cs.size = 2 := by
    have h := hval 2 25 v2 rfl rfl
    simp only [Value.okWide, Tryz.underlying25] at h
    obtain ⟨cs, g1, g2, _⟩ := h
    exact ⟨cs, g1, by rw [g2]; kernel_rfl⟩
  have k2 := h2
  have lt2 : ∀ x ∈ p2, x.block < W.heap.size := by obtain ⟨m, hm⟩ := k2; exact DataW.trod_lt m _ _ _ hm
  obtain ⟨dr2, ak2, lk2, ck2, zk2, hc2, wd2, wk2⟩ : ∃ dr ak lk ck zk, cs2 = #[.int .i64 dr, .slice ak lk ck] ∧ (Lit.int .i64 dr).wf = true ∧ IsRow .i64 W ak lk ck zk := by
    obtain ⟨fuel, hf⟩ := h2
    obtain ⟨y0, y1, m, _, _, e0, e1⟩ := trod_struct2 Tryz.underlying25 hf
    have hcI : Tryz.prog.cellsOf 3 = 1 := by kernel_rfl
    have hcS : Tryz.prog.cellsOf 23 = 1 := by kernel_rfl
    obtain ⟨c0, c1, hcc⟩ : ∃ c0 c1, cs2.toList = [c0, c1] := by
      have hlen : cs2.toList.length = 2 := by simpa using hs2
      match h : cs2.toList, hlen with
      | [c0, c1], _ => exact ⟨c0, c1, rfl⟩
    simp only [Value.cells, hcc, hcI, hcS, List.drop_zero, List.drop_succ_cons, List.take_succ_cons, List.take_zero] at e0 e1
    obtain ⟨dr, e0', _, wd⟩ := DataW.trod_int Tryz.underlying3 e0
    simp at e0'
    subst e0'
    obtain ⟨ax, lx, cx, zx, rfl, wx⟩ : ∃ a l c zs, c1 = Value.slice a l c ∧ IsRow .i64 W a l c zs := by
      rcases open_ints Tryz.underlying23 Tryz.underlying3 (by kernel_rfl) e1 with ⟨hcs, _⟩ | ⟨x, l, c, zs, hcs, _, hl, hm, hz, _, hcell, hwz⟩
      · simp at hcs
        exact ⟨none, 0, 0, [], hcs, .inl ⟨rfl, rfl, rfl, rfl⟩⟩
      · simp at hcs
        exact ⟨some x, l, c, zs, hcs, .inr ⟨_, rfl, hl, hm, by simpa using hz, hcell, hwz⟩⟩
    exact ⟨dr, ax, lx, cx, zx, Array.toList_inj.1 hcc, wd, wx⟩
  subst hc2
  clear hA0 hval0
  refine (casCrashes_walk a0 len0 cap0 z0 a1 dr2 ak2 lk2 ck2 zk2 W w0 wl0 wm0 w1 wd2 wk2 hL).mono fun e W' ⟨he, bel⟩ => ?_
  subst he
  exact ⟨_, rfl, _, _, _, [], _, [], hW', trodAll_mk1 (shut_bool Tryz.underlying4 _), (trodAll_cons_mk (Below.trod laidOut (by kernel_rfl) (of_decide_eq_true (by kernel_rfl)) k0 bel lt0) (trodAll_cons_mk (shut_int Tryz.underlying3 w1) (trodAll_cons_mk (Below.trod laidOut (by kernel_rfl) (of_decide_eq_true (by kernel_rfl)) k2 bel lt2) trodAll_mk0))), rfl, bel.frame _, fun h => by cases h⟩

theorem over : Rows.CasCrashesSaid :=
  OpenClaim.holds_of_wide 3 Tryz.f3 rfl rfl rfl rfl rfl rfl rfl ⟨rfl, rfl, rfl, rfl, rfl⟩ rfl rfl rfl rfl rfl (by kernel_rfl) Tryz.func3 (by kernel_rfl)
    (of_decide_eq_true (by kernel_rfl)) (by unfold Func.isWrapper; rw [if_neg (of_decide_eq_false (by kernel_rfl))]; exact ⟨rfl, rfl⟩)
    (fun os started H enc _ => lifted os started H enc)

/-- The tied card. -/
theorem proved : Rows.CasCrashesCardSaid :=
  Claim7.holds_tied_plain_at .later [] [.data, .data, .data, .data] true (true, "235b7541a0d7419ccdcafbedf7130c4ab9274baac75a347266d35582cdac633b") false
    over (fun _ h => by cases h) (by kernel_rfl) (fun _ h => by cases h) casCrashes_row_tie rfl ⟨rfl, rfl⟩ (by kernel_rfl) rfl
    (fun f fn hf hfn => by
      obtain rfl : f = 3 := Option.some.inj ((show Tryz.prog.funcNamed "brazier/brazierlaw06.CasCrashes" = some 3 by kernel_rfl).symm.trans hf) |>.symm
      obtain rfl : fn = Tryz.f3 := (Option.some.inj (Tryz.func3.symm.trans hfn)).symm
      exact ⟨by kernel_rfl, fun j t ht => by
        rw [Tryz.params3] at ht
        have hm : t ∈ [22, 3, 25] := by simpa using Array.mem_of_getElem? ht
        have hall : ([22, 3, 25].all fun u => !Tryz.prog.wantsStandIn u) = true := by kernel_rfl
        exact (show Tryz.prog.wantsStandIn t = false by simpa using List.all_eq_true.1 hall t hm)⟩)
    (by kernel_rfl)
#print axioms proved
end Go.Proofs.YtdjnebgjdekmaaaGreatDoor.casCrashes
