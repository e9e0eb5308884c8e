/-
  The statement 'Rows.RiscvRunsSaid': for every input the law 'brazier/brazierlaw18.RiscvRuns' answers true and leaves its arguments as they were. Conditions: none.
  This file is the frame; the walk through the Go text lies in YtmedhibjkbahpaaRiscvRunsW.
-/
import Derived.Test.YtmedhibjkbahpaaRows
import Derived.Test.YtmedhibjkbahpaaZbc
import Derived.Test.YtmedhibjkbahpaaZat
import Derived.ProofKit
import Derived.OpenShut
import Derived.ShutString
import Derived.ChangeOld
import Derived.Below
import Derived.Carry
import Derived.Stop.Joined
import Derived.Deep.Matrix
import Derived.ChangeSame
namespace Go.Proofs.Ytmedhibjkbahpaa.riscvRuns
open Go.ChangeShapes Go.WideShapes Go.ChangeAt Go.RowKit
open Go.ChangeMaps (open_string shut_string)
set_option linter.unusedVariables false
set_option maxRecDepth 100000

theorem own : ownKnob Try.prog.godebug = none := by kernel_rfl
theorem laidOut : laidOutB Try.prog = true := by kernel_rfl
theorem lifted (os : Os) (started : os.Started) (H : Type) (enc : TypeId × Value → H) :
    ReturnsInHanded {} Try.checked os 5 .any (Rows.riscvRunsSpec.pre6 enc Try.prog Try.f5 Rows.riscvRunsRow.domain false) (Rows.riscvRunsSpec.post enc Try.prog Try.f5 false true false false) := by
  refine returnsInHanded_of_change (C := Try.checked) own started (by kernel_rfl) Try.func5
    (ChangeSpec.witness6 (enc := enc) (C := Try.checked) false ⟨#[], #[.agg #[.slice none 0 0, .int .i64 0, .slice none 0 0], .slice none 0 0, .int .i64 0], []⟩ 8 (by kernel_rfl) (by kernel_rfl) (by kernel_rfl) (by kernel_rfl)) ?_
  intro W base args ds gs before hval0 hW hcnd _
  have hval : ∀ (j : Nat) t v, Try.f5.params[j]? = some t → args[j]? = some v → Value.okWide Try.prog W .any base t v := hval0
  have hW' := hW
  obtain ⟨p, q, hA0, hV, rfl, hfz, hnd⟩ := hW
  have hA : DataW.TrodAll enc Try.prog W 0 (fun _ => true) true Try.f5.params.toList args.toList ds p := hA0
  rw [Try.params5] at hA hval
  obtain ⟨v0, vs0, d0, ds0, p0, q0, hargs, rfl, rfl, h0, r0⟩ := trodAll_cons hA
  obtain ⟨v1, vs1, d1, ds1, p1, q1, rfl, rfl, rfl, h1, r1⟩ := trodAll_cons r0
  obtain ⟨v2, vs2, d2, ds2, p2, q2, rfl, rfl, rfl, h2, r2⟩ := trodAll_cons r1
  obtain ⟨rfl, rfl, rfl⟩ := trodAll_nil r2
  obtain rfl : args = #[v0, v1, v2] := by cases args; simp_all
  obtain ⟨rfl, rfl⟩ := trodVars_none hV
  obtain ⟨cs0, rfl, hs0⟩ : ∃ cs, v0 = .agg cs ∧ cs.size = 3 := by
    have h := hval 0 25 v0 rfl rfl
    simp only [Value.okWide, Try.underlying25] at h
    obtain ⟨cs, g1, g2, _⟩ := h
    exact ⟨cs, g1, by rw [g2]; kernel_rfl⟩
  have k0 := h0
  have lt0 : ∀ x ∈ p0, x.block < W.heap.size := by obtain ⟨m, hm⟩ := k0; exact DataW.trod_lt m _ _ _ hm
  obtain ⟨GA0, LA0, gn0, gc0, ln0, lc0, st0, gs0, ls0, hc0, wg0, wl0, bg0, bl0, ws0, ol0, og0⟩ : ∃ (GA LA : Option Addr) (gn gc ln lc : Nat) (st : Int) (gs : List Rv.Gl) (ls : List Rv.Ln), cs0 = #[.slice GA gn gc, .int .i64 st, .slice LA ln lc] ∧ Rv.GlsAt W GA gn gs ∧ Rv.LnsAt W LA ln ls ∧ (gn ≤ gc ∧ gc ≤ maxLen) ∧ (ln ≤ lc ∧ lc ≤ maxLen) ∧
      (-9223372036854775808 ≤ st ∧ st ≤ 9223372036854775807) ∧ (∀ l ∈ ls, (-2147483648 ≤ l.n ∧ l.n ≤ 2147483647) ∧ l.s.size ≤ maxLen) ∧ ∀ g ∈ gs, g.name.size ≤ maxLen ∧ (-9223372036854775808 ≤ g.size ∧ g.size ≤ 9223372036854775807) := by
    obtain ⟨fuel, hf⟩ := h0
    obtain ⟨GA, LA, gn, gc, ln, lc, st, gs, ls, e, h1, h2, h3, h4, h5, h6, h7⟩ := Rv.asm_of (by simpa [Value.cells] using hf)
    exact ⟨GA, LA, gn, gc, ln, lc, st, gs, ls, Array.toList_inj.1 e, h1, h2, h3, h4, h5, h6, h7⟩
  subst hc0
  obtain ⟨a1, len1, cap1, rfl⟩ := okWide_slice Try.underlying53 (hval 1 53 v1 rfl rfl)
  have k1 := h1
  have lt1 : ∀ x ∈ p1, x.block < W.heap.size := by obtain ⟨m, hm⟩ := k1; exact DataW.trod_lt m _ _ _ hm
  obtain ⟨z1, w1⟩ : ∃ zs, IsRow .i32 W a1 len1 cap1 zs := by
    obtain ⟨fuel, hf⟩ := h1
    rcases open_ints Try.underlying53 Try.underlying21 (by kernel_rfl) hf with ⟨hcs, _⟩ | ⟨x, l, c, zs, hcs, _, hl, hm, hz, _, hcell, hwz⟩
    · simp [Value.cells] at hcs
      obtain ⟨rfl, rfl, rfl⟩ := hcs
      exact ⟨[], .inl ⟨rfl, rfl, rfl, rfl⟩⟩
    · simp [Value.cells] at hcs
      obtain ⟨rfl, rfl, rfl⟩ := hcs
      exact ⟨zs, .inr ⟨_, rfl, hl, hm, by simpa using hz, hcell, hwz⟩⟩
  obtain ⟨a2, rfl, rfl, rfl, w2⟩ := open_int Try.underlying3 (hval 2 3 v2 rfl rfl) h2
  clear hA0 hval0
  refine (riscvRuns_walk GA0 LA0 gn0 gc0 ln0 lc0 st0 a1 len1 cap1 z1 a2 W gs0 ls0 wg0 wl0 (by unfold maxLen at *; omega) (by unfold maxLen at *; omega) w1 w2 (fun l hl => (ol0 l hl).1)).mono fun e W' ⟨he, bel⟩ => ?_
  subst he
  exact ⟨_, rfl, _, _, _, [], _, [], hW', trodAll_mk1 (shut_bool Try.underlying4 _), (trodAll_cons_mk (Below.trod laidOut (by kernel_rfl) (of_decide_eq_true (by kernel_rfl)) k0 bel lt0) (trodAll_cons_mk (Below.trod laidOut (by kernel_rfl) (of_decide_eq_true (by kernel_rfl)) k1 bel lt1) (trodAll_cons_mk (shut_int Try.underlying3 w2) trodAll_mk0))), rfl, bel.frame _, fun h => by cases h⟩

/-- The statement. -/
theorem proved : Rows.RiscvRunsSaid :=
  OpenClaim.holds_of_wide 5 Try.f5 rfl rfl rfl rfl rfl rfl rfl ⟨rfl, rfl, rfl, rfl, rfl⟩ rfl rfl rfl rfl rfl (by kernel_rfl) Try.func5 (by kernel_rfl)
    (of_decide_eq_true (by kernel_rfl)) (by unfold Func.isWrapper; first | (rw [if_pos (by decide +kernel)]; kernel_rfl) | (rw [if_neg (by decide +kernel)]; exact ⟨rfl, rfl⟩))
    (fun os started H enc _ => lifted os started H enc)
#print axioms proved
end Go.Proofs.Ytmedhibjkbahpaa.riscvRuns
