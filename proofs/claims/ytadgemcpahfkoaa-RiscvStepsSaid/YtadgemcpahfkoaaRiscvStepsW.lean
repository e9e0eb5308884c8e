/-
  The walk of the law RiscvSteps: it answers true and writes nothing that was there.
-/
import Derived.Test.YtadgemcpahfkoaaRxq
import Derived.Test.YtadgemcpahfkoaaKml
namespace Go.Proofs.Ytadgemcpahfkoaa
open Go.RowKit
set_option linter.unusedVariables false
set_option linter.unusedSimpArgs false
set_option maxRecDepth 100000
open Rv in
set_option maxHeartbeats 3200000 in
theorem riscvSteps_walk (k op d a b n : Int) (s : ByteArray) (x y pc : Int) (W : World) (hn : -2147483648 ≤ n ∧ n ≤ 2147483647) (hs : s.size ≤ maxLen) (hx : (Lit.int .i32 x).wf = true) (hy : (Lit.int .i32 y).wf = true) (hp : (Lit.int .i32 pc).wf = true) :
    Calls Try.prog 4 #[.agg #[.int .i64 k, .int .i64 op, .int .i64 d, .int .i64 a, .int .i64 b, .int .i32 n, .string s], .agg #[.int .i32 x, .int .i32 y], .int .i32 pc] W fun e w' => e = .returned (.bool true) ∧ Below W.heap.size W w' := by
  have bx := bounds_i32' hx
  have by' := bounds_i32' hy
  have bp := bounds_i32' hp
  obtain ⟨v0, hv0⟩ : ∃ v0, W.heap.size = v0 := ⟨_, rfl⟩
  obtain ⟨W1, hW1⟩ : ∃ W1, W.alloc (.cells #[.int .i64 k, .int .i64 op, .int .i64 d, .int .i64 a, .int .i64 b, .int .i32 n, .string s] 39) = W1 := ⟨_, rfl⟩
  obtain ⟨W2, hW2⟩ : ∃ W2, W1.alloc (.cells #[.int .i32 x, .int .i32 y] 48) = W2 := ⟨_, rfl⟩
  have s1 : W1.heap.size = v0 + 1 := by rw [← hW1, ← hv0]; simp
  have hb1 : Below W.heap.size W W1 := by rw [← hW1]; exact (Below.refl _ _).alloc (Nat.le_refl _) _
  have hb2 : Below W1.heap.size W1 W2 := by rw [← hW2]; exact (Below.refl _ _).alloc (Nat.le_refl _) _
  have hb12 : Below W.heap.size W W2 := hb1.trans (hb2.mono hb1.size)
  have hx1 : W1.heap[v0]? = some (.cells #[.int .i64 k, .int .i64 op, .int .i64 d, .int .i64 a, .int .i64 b, .int .i32 n, .string s] 39 (0, 0)) := by rw [← hW1, ← hv0]; exact heap_alloc_new W _
  have hx2 : W2.heap[v0]? = some (.cells #[.int .i64 k, .int .i64 op, .int .i64 d, .int .i64 a, .int .i64 b, .int .i32 n, .string s] 39 (0, 0)) := (hb2.block v0 (by omega)).trans hx1
  have hy2 : W2.heap[v0 + 1]? = some (.cells #[.int .i32 x, .int .i32 y] 48 (0, 0)) := by rw [← hW2, ← s1]; exact heap_alloc_new W1 _
  have HX : Hid (∀ V, Below W2.heap.size W2 V → V.heap[v0]? = some (.cells #[.int .i64 k, .int .i64 op, .int .i64 d, .int .i64 a, .int .i64 b, .int .i32 n, .string s] 39 (0, 0)) ∧ V.cell? ⟨v0 + 1, 0, none⟩ = some (.int .i32 x) ∧ V.cell? ⟨v0 + 1, 1, none⟩ = some (.int .i32 y)) := Lib.hid (fun V hV => by
    have h5 := (hV.block (v0 + 1) (Array.getElem?_eq_some_iff.1 hy2).1).trans hy2
    exact ⟨(hV.block v0 (Array.getElem?_eq_some_iff.1 hx2).1).trans hx2, by rw [cell_of_row _ _ 0 _ _ (0, 0) h5]; rfl, by rw [cell_of_row _ _ 1 _ _ (0, 0) h5]; rfl⟩)
  obtain ⟨z0, z1, z2, z3, z4, z5, z6, -⟩ := box7 hx2
  have HML := Lib.hid (fun V => rmayLn_any ⟨k, op, d, a, b, n, s⟩ hs hn V)
  unfold Ln.val at HML
  dsimp only at HML
  have HB := Lib.hid hb12
  have HBD := Lib.hid (And.intro bx (And.intro by' (And.intro bp hn)))
  clear hb1 hb2 hb12 hx1 hx2 hy2 hx hy hp bx by' bp hn hs
  by_cases hgo : mayLn ⟨k, op, d, a, b, n, s⟩ = true ∧ k = 2 ∧ noS s = true
  · obtain ⟨hm, hk, hne⟩ := hgo
    subst hk
    obtain rfl := noS_true hne
    rw [hm] at HML
    have hmi : mayI ⟨op, d, a, b, n⟩ = true := by
      unfold mayLn Ln.ins at hm
      dsimp only at hm
      rw [if_neg (by omega), if_pos rfl] at hm
      simp only [Bool.and_eq_true] at hm
      exact hm.1
    have hop : 1 ≤ op ∧ op ≤ 30 := by
      unfold mayI at hmi
      simp only [Bool.and_eq_true, decide_eq_true_eq] at hmi
      exact hmi.1.1.1.1
    obtain ⟨o1, o2⟩ := hop
    clear hm hmi hne
    go_enter Try.func4, Try.ntmps4
    go_wp2_with (first
      | (go_at_call 15; (with_reducible refine (HML.out _).mono ?_); rintro e w3 ⟨rfl, hb3⟩; obtain ⟨p0, p1, p2, p3, p4, p5, p6, -⟩ := box7 (HX.out _ hb3).1; obtain ⟨-, q0, q1⟩ := HX.out _ hb3; have HB3 := Lib.hid hb3; clear hb3 z0 z1 z2 z3 z4 z5 z6)
      | (go_at_call 16; (with_reducible refine (step_any op d a b n x y pc o1 o2 _ _).mono ?_); rintro e w4 ⟨rfl, hb4⟩; have hb34 := HB3.out.trans (hb4.mono HB3.out.size); obtain ⟨p0, p1, p2, p3, p4, p5, p6, -⟩ := box7 (HX.out _ hb34).1; obtain ⟨-, q0, q1⟩ := HX.out _ hb34; have HB4 := Lib.hid hb34; clear hb4 hb34)
      | (go_at_call 17; (with_reducible refine (rstep_any op d a b n x y pc o1 o2 HBD.out.2.2.2 HBD.out.1 HBD.out.2.1 HBD.out.2.2.1 _ _).mono ?_); rintro e w5 ⟨rfl, hb5⟩; have HB5 := Lib.hid (HB4.out.trans (hb5.mono HB4.out.size)); clear hb5)
      | (go_at_call 8; refine (lives18 _).mono ?_; rintro e w6 ⟨rfl, hb6⟩; have HB6 := Lib.hid (HB5.out.trans (hb6.mono HB5.out.size)); clear hb6))
    go_ret
    exact ⟨rfl, HB.out.trans (HB6.out.mono HB.out.size)⟩
  · have HG := Lib.hid hgo
    cases hm : mayLn ⟨k, op, d, a, b, n, s⟩ with
    | false =>
      rw [hm] at HML
      clear hm hgo
      go_enter Try.func4, Try.ntmps4
      go_wp2_with (first
        | (go_at_call 15; (with_reducible refine (HML.out _).mono ?_); rintro e w3 ⟨rfl, hb3⟩; have HB3 := Lib.hid hb3; clear hb3 z0 z1 z2 z3 z4 z5 z6)
        | (go_at_call 8; refine (lives18 _).mono ?_; rintro e w6 ⟨rfl, hb6⟩; have HB6 := Lib.hid (HB3.out.trans (hb6.mono HB3.out.size)); clear hb6))
      all_goals
        go_ret
        exact ⟨rfl, HB.out.trans (HB6.out.mono HB.out.size)⟩
    | true =>
      rw [hm] at HML
      by_cases hk : k = 2
      · subst hk
        have hne : noS s = false := by
          cases h : noS s with
          | false => rfl
          | true => exact absurd ⟨hm, rfl, h⟩ hgo
        have e1 : s.toList.isEmpty = false := by rw [ba_toList]; exact hne
        have e2 : ¬ s.toList = [] := by rw [ba_toList]; simpa [noS] using hne
        clear hm hgo hne HG
        go_enter Try.func4, Try.ntmps4
        go_wp2_with (first
          | (go_at_call 15; (with_reducible refine (HML.out _).mono ?_); rintro e w3 ⟨rfl, hb3⟩; obtain ⟨p0, p1, p2, p3, p4, p5, p6, -⟩ := box7 (HX.out _ hb3).1; have HB3 := Lib.hid hb3; clear hb3 z0 z1 z2 z3 z4 z5 z6)
          | (go_at_call 8; refine (lives18 _).mono ?_; rintro e w6 ⟨rfl, hb6⟩; have HB6 := Lib.hid (HB3.out.trans (hb6.mono HB3.out.size)); clear hb6))
        go_ret
        exact ⟨rfl, HB.out.trans (HB6.out.mono HB.out.size)⟩
      · have hkb : (k == 2) = false := by simp [hk]
        clear hm hgo HG
        go_enter Try.func4, Try.ntmps4
        go_wp2_with (first
          | (go_at_call 15; (with_reducible refine (HML.out _).mono ?_); rintro e w3 ⟨rfl, hb3⟩; obtain ⟨p0, p1, p2, p3, p4, p5, p6, -⟩ := box7 (HX.out _ hb3).1; have HB3 := Lib.hid hb3; clear hb3 z0 z1 z2 z3 z4 z5 z6)
          | (go_at_call 8; refine (lives18 _).mono ?_; rintro e w6 ⟨rfl, hb6⟩; have HB6 := Lib.hid (HB3.out.trans (hb6.mono HB3.out.size)); clear hb6))
        go_ret
        exact ⟨rfl, HB.out.trans (HB6.out.mono HB.out.size)⟩
end Go.Proofs.Ytadgemcpahfkoaa
