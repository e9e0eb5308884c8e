/-
  The statement 'Rows.SetsRowsSaid': for every slice of things to do to a row and every number the law 'brazier/brazierlaw03.SetsRows' answers true and leaves its arguments as they were. Conditions: none.
  This file is the frame; the walk through the Go text lies in YthijggnpkomdcaaSetsRowsW.
-/
import Derived.Test.YthijggnpkomdcaaRows
import Derived.Test.YthijggnpkomdcaaSetsRowsW
import Derived.ProofKit
import Derived.OpenShut
import Derived.ShutString
import Derived.SliceStrings
import Derived.Deep.Slices
import Derived.ChangeOld
import Derived.Below
import Derived.Carry
import Derived.Stop.Joined
namespace Go.Proofs.Ythijggnpkomdcaa.setsRows
open Go.ChangeShapes Go.WideShapes Go.ChangeAt Go.RowKit Go.Deep
set_option linter.unusedVariables false
set_option maxRecDepth 100000

theorem own : ownKnob Try.prog.godebug = none := by kernel_rfl
theorem laidOut : laidOutB Try.prog = true := by kernel_rfl
theorem cellsOp : Try.prog.cellsOf 30 = 3 := by kernel_rfl
theorem cellsU : Try.prog.cellsOf 28 = 1 := by kernel_rfl
theorem cellsZ : Try.prog.cellsOf 3 = 1 := by kernel_rfl
theorem cellsT : Try.prog.cellsOf 9 = 1 := by kernel_rfl
/-- The things to do that came in, out of their reading. -/
theorem ops_of {H : Type} {enc : TypeId × Value → H} {w : World} {base : Nat} {spare : Nat → Bool} {held : Bool} {fuel : Nat} {A : Option Addr} {len cap : Nat} {x : DataW H × List MemPlace} (h : DataW.trod enc Try.prog w base spare held fuel 22 [.slice A len cap] = some x) :
    ∃ os, OpsAt w A len os ∧ len ≤ 9223372036854775807 := by
  rcases open_slice Try.underlying22 h with ⟨hcs, _⟩ | ⟨a, len', cap', m, n, D, Pl, hcs, hb, hl, hm, hmm, hx, hi⟩
  · cases hcs
    exact ⟨[], ⟨rfl, (fun o ho => by cases ho), fun h0 => absurd h0 (Nat.lt_irrefl 0)⟩, by omega⟩
  · cases hcs
    have hlm : len ≤ m := by rw [hmm]; split <;> omega
    have hone : ∀ i, i < len → ∃ o : Nat × Int × ByteArray, (o.1 < 18446744073709551616 ∧ FitsI o.2.1 ∧ o.2.2.size ≤ maxLen) ∧ w.cell? (a.add (i * 3)) = some (.int .u64 (o.1 : Int)) ∧ w.cell? ((a.add (i * 3)).add 1) = some (.int .i64 o.2.1) ∧ w.cell? ((a.add (i * 3)).add 2) = some (.string o.2.2) := by
      intro i hil
      obtain ⟨cs, hc, ht⟩ := hi i (by omega)
      rw [cellsOp] at hc
      obtain ⟨_, hlen, hat⟩ := World.cells?_some hc
      obtain ⟨ys, n', _, _, _, hyl, hf⟩ := DataW.trod_struct Try.underlying30 ht
      match cs, hlen with
      | [c0, c1, c2], _ =>
        have f0 := hf 0 _ rfl
        have f1 := hf 1 _ rfl
        have f2 := hf 2 _ rfl
        simp only [List.getElem_toArray, List.getElem_cons_zero, List.getElem_cons_succ, cellsU, cellsZ, cellsT, List.drop_zero, List.drop_succ_cons, List.take_succ_cons, List.take_zero] at f0 f1 f2
        have g0 : ys[0]? = some (ys[0]'(by rw [hyl]; decide)) := List.getElem?_eq_getElem _
        have g1 : ys[1]? = some (ys[1]'(by rw [hyl]; decide)) := List.getElem?_eq_getElem _
        have g2 : ys[2]? = some (ys[2]'(by rw [hyl]; decide)) := List.getElem?_eq_getElem _
        obtain ⟨u, e0, _, hu⟩ := DataW.trod_int Try.underlying28 (f0.trans g0)
        obtain ⟨z, e1, _, hz⟩ := DataW.trod_int Try.underlying3 (f1.trans g1)
        obtain ⟨s, e2, _, hs⟩ := DataW.trod_string Try.underlying9 (f2.trans g2)
        cases e0; cases e1; cases e2
        have hu2 := bounds_u64 hu
        have a0 := hat 0 (by omega)
        have a1 := hat 1 (by omega)
        have a2 := hat 2 (by omega)
        refine ⟨(u.toNat, z, s), ⟨by simp only; omega, hz, hs⟩, ?_, a1, a2⟩
        have e : ((u.toNat : Nat) : Int) = u := by omega
        show w.cell? (a.add (i * 3)) = some (.int .u64 ((u.toNat : Nat) : Int))
        rw [e]
        have h0 : (a.add (i * 3)).add 0 = a.add (i * 3) := by unfold Addr.add; split <;> simp_all
        rw [h0] at a0
        exact a0
    have hsp : 0 < len → a.spot = none := fun h0 => by
      obtain ⟨o, _, h1, _⟩ := hone 0 h0
      exact World.cell?_spot (by simpa [Addr.add] using h1)
    obtain ⟨f, hf⟩ := choose_lt (α := Nat × Int × ByteArray) hone
    refine ⟨(List.range len).map f, ⟨by simp, fun o ho => ?_, fun h0 => ?_⟩, by unfold maxLen at hm; omega⟩
    · obtain ⟨i, hi', rfl⟩ := List.mem_map.1 ho
      exact (hf i (List.mem_range.1 hi')).1
    · obtain ⟨b, off, sp⟩ := a
      obtain rfl : sp = none := hsp h0
      have hadd : ∀ i, (⟨b, off, none⟩ : Addr).add i = ⟨b, off + i, none⟩ := fun i => by unfold Addr.add; split <;> simp_all
      have hadd2 : ∀ o i, (⟨b, o, none⟩ : Addr).add i = ⟨b, o + i, none⟩ := fun o i => by unfold Addr.add; split <;> simp_all
      refine ⟨b, off, rfl, World.block_lt_of_cell? w _ (hf 0 h0).2.1, fun i o ho => ?_⟩
      have hil : i < len := by have := (List.getElem?_eq_some_iff.1 ho).1; simpa using this
      have e : f i = o := by
        rw [List.getElem?_map, List.getElem?_range hil] at ho
        simpa using ho
      obtain ⟨_, h1, h2, h3⟩ := hf i hil
      rw [e, hadd] at h1
      rw [e, hadd, hadd2] at h2 h3
      exact ⟨h1, h2, h3⟩
theorem lifted (os : Os) (started : os.Started) (H : Type) (enc : TypeId × Value → H) :
    ReturnsInHanded {} Try.checked os 3 .any (Rows.setsRowsSpec.pre6 enc Try.prog Try.f3 Rows.setsRowsRow.domain false) (Rows.setsRowsSpec.post enc Try.prog Try.f3 false true false false) := by
  refine returnsInHanded_of_change (C := Try.checked) own started (by kernel_rfl) Try.func3
    (ChangeSpec.witness6 (enc := enc) (C := Try.checked) false ⟨#[], #[.slice none 0 0, .int .i64 0], []⟩ 8 (by kernel_rfl) (by kernel_rfl) (by kernel_rfl) (by kernel_rfl)) ?_
  intro W base args ds gs before hval0 hW hcnd _
  have hval : ∀ (j : Nat) t v, Try.f3.params[j]? = some t → args[j]? = some v → Value.okWide Try.prog W .any base t v := hval0
  have hW' := hW
  obtain ⟨p, q, hA0, hV, rfl, hfz, hnd⟩ := hW
  have hA : DataW.TrodAll enc Try.prog W 0 (fun _ => true) true Try.f3.params.toList args.toList ds p := hA0
  rw [Try.params3] at hA hval
  obtain ⟨v0, vs0, d0, ds0, p0, q0, hargs, rfl, rfl, h0, r0⟩ := trodAll_cons hA
  obtain ⟨v1, vs1, d1, ds1, p1, q1, rfl, rfl, rfl, h1, r1⟩ := trodAll_cons r0
  obtain ⟨rfl, rfl, rfl⟩ := trodAll_nil r1
  obtain rfl : args = #[v0, v1] := by cases args; simp_all
  obtain ⟨rfl, rfl⟩ := trodVars_none hV
  obtain ⟨a0, len0, cap0, rfl⟩ := okWide_slice Try.underlying22 (hval 0 22 v0 rfl rfl)
  obtain ⟨n1, rfl, rfl, rfl, hn1⟩ : ∃ n, v1 = .int .i64 n ∧ d1 = .lit (.int .i64 n) ∧ p1 = [] ∧ FitsI n := by
    obtain ⟨fuel, hf⟩ := h1
    obtain ⟨n, hc, hx, hw⟩ := DataW.trod_int Try.underlying3 hf
    cases hx
    obtain ⟨k, rfl⟩ := okWide_int Try.underlying3 (hval 1 3 v1 rfl rfl)
    simp [Value.cells] at hc
    subst hc
    exact ⟨_, rfl, rfl, rfl, hw⟩
  have k0 := h0
  have lt0 : ∀ x ∈ p0, x.block < W.heap.size := by obtain ⟨m, hm⟩ := k0; exact DataW.trod_lt m _ _ _ hm
  obtain ⟨os', w0, l0⟩ : ∃ os', OpsAt W a0 len0 os' ∧ len0 ≤ 9223372036854775807 := by
    obtain ⟨fuel, hf⟩ := h0
    exact ops_of hf
  clear hA0 hval0
  refine (setsRows_walk a0 len0 cap0 os' n1 W w0 l0 hn1).mono fun e W' ⟨he, bel⟩ => ?_
  subst he
  exact ⟨_, rfl, _, _, _, [], _, [], hW', trodAll_mk1 (shut_bool Try.underlying4 _), (trodAll_cons_mk (Below.trod laidOut (by kernel_rfl) (of_decide_eq_true (by kernel_rfl)) k0 bel lt0) (trodAll_cons_mk (shut_int Try.underlying3 hn1) trodAll_mk0)), rfl, bel.frame _, fun h => by cases h⟩

/-- The statement. -/
theorem proved : Rows.SetsRowsSaid :=
  OpenClaim.holds_of_wide 3 Try.f3 rfl rfl rfl rfl rfl rfl rfl ⟨rfl, rfl, rfl, rfl, rfl⟩ rfl rfl rfl rfl rfl (by kernel_rfl) Try.func3 (by kernel_rfl)
    (of_decide_eq_true (by kernel_rfl)) (by unfold Func.isWrapper; first | (rw [if_pos (by decide +kernel)]; kernel_rfl) | (rw [if_neg (by decide +kernel)]; exact ⟨rfl, rfl⟩))
    (fun os started H enc _ => lifted os started H enc)
#print axioms proved
end Go.Proofs.Ythijggnpkomdcaa.setsRows
