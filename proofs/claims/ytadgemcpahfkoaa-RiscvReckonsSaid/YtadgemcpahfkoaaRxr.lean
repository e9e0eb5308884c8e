/-
  RiscvReckons: its program, what it comes to.
-/
import Derived.Test.YtadgemcpahfkoaaRxo
namespace Go.Proofs.Ytadgemcpahfkoaa
open Go.RowKit
set_option linter.unusedVariables false
set_option linter.unusedSimpArgs false
set_option maxRecDepth 100000
namespace Rv
def rdL (d : Int) : List Ln := [⟨2, 2, 17, 0, 0, 2, ⟨#[]⟩⟩, ⟨2, 30, 0, 0, 0, 0, ⟨#[]⟩⟩, ⟨2, 2, d, 10, 0, 0, ⟨#[]⟩⟩]
def reL (k : Int) : List Ln := [⟨2, k, 10, 8, 9, 0, ⟨#[]⟩⟩, ⟨2, 2, 17, 0, 0, 1, ⟨#[]⟩⟩, ⟨2, 30, 0, 0, 0, 0, ⟨#[]⟩⟩, ⟨2, 2, 17, 0, 0, 3, ⟨#[]⟩⟩, ⟨2, 30, 0, 0, 0, 0, ⟨#[]⟩⟩]
def recL (k : Int) : List Ln := rdL 8 ++ rdL 9 ++ reL k
def R32 (a8 a9 a10 a17 : Int) : List Int := [0, 0, 0, 0, 0, 0, 0, 0, a8, a9, a10, 0, 0, 0, 0, 0, 0, a17, 0, 0, 0, 0, 0, 0, 0, 0, 0, 0, 0, 0, 0, 0]
theorem stepI_regs {k : Int} (h1 : 11 ≤ k) (h2 : k ≤ 23) (n a b pc : Int) : stepI k n a b pc = (reckI k a b, wrap32 (pc + 4)) := by
  unfold stepI
  rw [if_neg (by omega), if_neg (by omega), if_neg (by omega), if_neg (by omega), if_neg (by omega), if_neg (by omega)]
theorem addi_0 (x pc : Int) (h : -2147483648 ≤ x ∧ x ≤ 2147483647) : (stepI 2 0 x 0 pc).1 = x := by
  have e : (stepI 2 0 x 0 pc).1 = wrap32 (x + 0) := by rfl
  rw [e, Int.add_zero, IntWalk.wrap32_in _ h]
section
variable (k x y : Int)
theorem rs0 : stepM (recL k) [x, y] 100 (newS 0 0) = .go ⟨R32 0 0 0 2, [], 4, 0, [], 1, 0⟩ := by kernel_rfl
theorem rs1 : stepM (recL k) [x, y] 100 ⟨R32 0 0 0 2, [], 4, 0, [], 1, 0⟩ = .go ⟨R32 0 0 x 2, [], 8, 0, [], 2, 1⟩ := by kernel_rfl
theorem rs2 : stepM (recL k) [x, y] 100 ⟨R32 0 0 x 2, [], 8, 0, [], 2, 1⟩ = .go ⟨R32 (stepI 2 0 x 0 8).1 0 x 2, [], 12, 0, [], 3, 1⟩ := by kernel_rfl
theorem rs3 : stepM (recL k) [x, y] 100 ⟨R32 x 0 x 2, [], 12, 0, [], 3, 1⟩ = .go ⟨R32 x 0 x 2, [], 16, 0, [], 4, 1⟩ := by kernel_rfl
theorem rs4 : stepM (recL k) [x, y] 100 ⟨R32 x 0 x 2, [], 16, 0, [], 4, 1⟩ = .go ⟨R32 x 0 y 2, [], 20, 0, [], 5, 2⟩ := by kernel_rfl
theorem rs5 : stepM (recL k) [x, y] 100 ⟨R32 x 0 y 2, [], 20, 0, [], 5, 2⟩ = .go ⟨R32 x (stepI 2 0 y 0 20).1 y 2, [], 24, 0, [], 6, 2⟩ := by kernel_rfl
theorem rs6 (h1 : 11 ≤ k) (h2 : k ≤ 23) : stepM (recL k) [x, y] 100 ⟨R32 x y y 2, [], 24, 0, [], 6, 2⟩ = .go ⟨R32 x y (reckI k x y) 2, [], 28, 0, [], 7, 2⟩ := by
  have e : stepM (recL k) [x, y] 100 ⟨R32 x y y 2, [], 24, 0, [], 6, 2⟩ = insM [x, y] ⟨2, k, 10, 8, 9, 0, ⟨#[]⟩⟩ ⟨R32 x y y 2, [], 24, 0, [], 7, 2⟩ := by kernel_rfl
  rw [e]
  unfold insM
  rw [if_neg (by show ¬ k = 24; omega), if_neg (by show ¬ k = 25; omega), if_neg (by show ¬ k = 30; omega)]
  dsimp only
  have q : ∀ pc, stepI k 0 ((R32 x y y 2).getD (Int.toNat 8) 0) ((R32 x y y 2).getD (Int.toNat 9) 0) pc = (reckI k x y, wrap32 (pc + 4)) := fun pc => stepI_regs h1 h2 0 x y pc
  rw [q]
  change MO.go (nextM _ _ _ _) = MO.go _
  kernel_rfl
theorem rs7 (v : Int) : stepM (recL k) [x, y] 100 ⟨R32 x y v 2, [], 28, 0, [], 7, 2⟩ = .go ⟨R32 x y v 1, [], 32, 0, [], 8, 2⟩ := by kernel_rfl
theorem rs8 (v : Int) : stepM (recL k) [x, y] 100 ⟨R32 x y v 1, [], 32, 0, [], 8, 2⟩ = .go ⟨R32 x y v 1, [], 36, 0, [v], 9, 2⟩ := by kernel_rfl
theorem rs9 (v : Int) : stepM (recL k) [x, y] 100 ⟨R32 x y v 1, [], 36, 0, [v], 9, 2⟩ = .go ⟨R32 x y v 3, [], 40, 0, [v], 10, 2⟩ := by kernel_rfl
theorem rs10 (v : Int) : stepM (recL k) [x, y] 100 ⟨R32 x y v 3, [], 40, 0, [v], 10, 2⟩ = .fin 1 ⟨R32 x y v 3, [], 40, v, [v], 11, 2⟩ := by kernel_rfl
theorem runM_go {ls : List Ln} {inp : List Int} {fuel : Int} {s s' : MS} (h : stepM ls inp fuel s = .go s') (n : Nat) : runM ls inp fuel (n + 1) s = runM ls inp fuel n s' := by
  show (match stepM ls inp fuel s with | .go s' => runM ls inp fuel n s' | .fin k s' => .fin k s') = _
  rw [h]
theorem runM_fin {ls : List Ln} {inp : List Int} {fuel : Int} {s s' : MS} {k : Int} (h : stepM ls inp fuel s = .fin k s') (n : Nat) : runM ls inp fuel (n + 1) s = .fin k s' := by
  show (match stepM ls inp fuel s with | .go s' => runM ls inp fuel n s' | .fin k s' => .fin k s') = _
  rw [h]
theorem rec_run (h1 : 11 ≤ k) (h2 : k ≤ 23) (hx : -2147483648 ≤ x ∧ x ≤ 2147483647) (hy : -2147483648 ≤ y ∧ y ≤ 2147483647) : runR (recL k) [x, y] 100 (newS 0 0) = ⟨1, reckI k x y, [reckI k x y], 11, 2⟩ := by
  unfold runR
  have s2 := rs2 k x y
  rw [addi_0 x 8 hx] at s2
  have s5 := rs5 k x y
  rw [addi_0 y 20 hy] at s5
  rw [show (100 : Int).toNat + 1 = 90 + 11 from rfl]
  rw [runM_go (rs0 k x y), runM_go (rs1 k x y), runM_go s2, runM_go (rs3 k x y), runM_go (rs4 k x y), runM_go s5, runM_go (rs6 k x y h1 h2), runM_go (rs7 k x y _), runM_go (rs8 k x y _), runM_go (rs9 k x y _), runM_fin (rs10 k x y _)]
  rfl
theorem rec_plain (h1 : 11 ≤ k) (h2 : k ≤ 23) : ∀ l ∈ recL k, Plain l := by
  intro l hl
  simp only [recL, rdL, reL, List.mem_append, List.mem_cons, List.not_mem_nil, or_false] at hl
  rcases hl with ((rfl | rfl | rfl) | (rfl | rfl | rfl)) | (rfl | rfl | rfl | rfl | rfl) <;> exact ⟨rfl, rfl, by simp⟩
theorem rec_may (h1 : 11 ≤ k) (h2 : k ≤ 23) : ∀ l ∈ recL k, mayI l.ins = true := by
  intro l hl
  simp only [recL, rdL, reL, List.mem_append, List.mem_cons, List.not_mem_nil, or_false] at hl
  rcases hl with ((rfl | rfl | rfl) | (rfl | rfl | rfl)) | (rfl | rfl | rfl | rfl | rfl)
  · rfl
  · rfl
  · rfl
  · rfl
  · rfl
  · rfl
  · obtain rfl | rfl | rfl | rfl | rfl | rfl | rfl | rfl | rfl | rfl | rfl | rfl | rfl : k = 11 ∨ k = 12 ∨ k = 13 ∨ k = 14 ∨ k = 15 ∨ k = 16 ∨ k = 17 ∨ k = 18 ∨ k = 19 ∨ k = 20 ∨ k = 21 ∨ k = 22 ∨ k = 23 := by omega
    all_goals rfl
  · rfl
  · rfl
  · rfl
  · rfl
end
/-- Lines behind lines. -/
theorem lines_push (w : World) (C : Option Addr) (n c : Nat) (xs : List Ln) (h : SLine 7 w C n c (xs.flatMap Ln.cells)) (hn : n ≤ 10000) (g m q : Nat) (ys : List Ln) (hy : SLine 7 w (some ⟨g, 0, none⟩) m q (ys.flatMap Ln.cells)) (hm : m ≤ 10000) (hm0 : 0 < m) :
    ∃ C' c' w', (Builtin.append_ #[23, 23] 23 #[.slice C n c, .slice (some ⟨g, 0, none⟩) m q]).run Try.prog w = .ok (.slice C' (n + m) c') w' ∧ SLine 7 w' C' (n + m) c' ((xs ++ ys).flatMap Ln.cells) ∧ Chg (blk C) w w' ∧ (∀ k ∈ blk C', k ∈ blk C ∨ w.heap.size ≤ k) := by
  obtain ⟨C', c', w', h1, h2, h3, h4, _⟩ := sline_append 7 w 23 39 23 _ 64 Try.underlying23 infoLnR rfl (by decide) C n c _ h (by omega) _ m (by omega) (fun _ => hm0) (ys.flatMap Ln.cells) (Src.ofSlice _ Try.underlying23 ⟨g, 0, none⟩ m q _ hy.1 (fun j u hu => by
    obtain ⟨g', off, e, hg, hc, -⟩ := hy.2.2.2.2 _ rfl
    injection e with e1 e2 e3
    subst e1 e2
    have hj := (List.getElem?_eq_some_iff.1 hu).1
    rw [hy.1] at hj
    have e9 : (⟨g, 0, none⟩ : Addr).add j = ⟨g, 0 + j, none⟩ := by unfold Addr.add; split <;> simp_all
    rw [e9, hc j hj]
    exact hu) (fun u hu => by
    obtain ⟨l, _, hl⟩ := List.mem_flatMap.1 hu
    simp only [Ln.cells, List.mem_cons, List.not_mem_nil, or_false] at hl
    rcases hl with h | h | h | h | h | h | h <;> (rw [h]; rfl)))
  exact ⟨C', c', w', h1, by rw [List.flatMap_append]; exact h2, h3, h4⟩
/-- A literal of lines, just laid. -/
theorem lines_new (w : World) (ls : List Ln) (arr : Array Value) (h : arr.toList = ls.flatMap Ln.cells) (hn : ls.length ≤ 1000) : SLine 7 (w.alloc (.cells arr 39)) (some ⟨w.heap.size, 0, none⟩) ls.length ls.length (ls.flatMap Ln.cells) := by
  have hlen : (ls.flatMap Ln.cells).length = ls.length * 7 := by
    clear h hn
    induction ls with
    | nil => rfl
    | cons x xs ih => rw [List.flatMap_cons, List.length_append, ih, List.length_cons]; show 7 + _ = _; omega
  refine ⟨hlen, Nat.le_refl _, by unfold maxLen; omega, fun e => (by cases e), fun ad e => ?_⟩
  cases e
  have hb := heap_alloc_new w (.cells arr 39)
  refine ⟨w.heap.size, 0, rfl, by simp, fun i hi => ?_, fun i hi => ⟨?_, frozen_of_row _ _ _ _ _ hb⟩⟩
  · rw [cell_of_row _ _ _ _ _ (0, 0) hb, Nat.zero_add, ← h]
    simp
  · rw [cell_of_row _ _ _ _ _ (0, 0) hb, Nat.zero_add]
    have : arr.size = ls.length * 7 := by rw [← hlen, ← h]; simp
    simp; omega
/-- What the law's own function read makes. -/
theorem read1_any (d : Int) (w : World) : Calls Try.prog 22 #[.int .i64 d] w fun e w' => ∃ g, e = .returned (.slice (some ⟨g, 0, none⟩) 3 3) ∧ SLine 7 w' (some ⟨g, 0, none⟩) 3 3 ((rdL d).flatMap Ln.cells) ∧ Below w.heap.size w w' ∧ w.heap.size ≤ g := by
  have HB := Lib.hid (Below.refl w.heap.size w)
  go_enter Try.func22, Try.ntmps22
  go_wp2_with (go_at_call 23; refine (ins_any _ _ _ _ _).mono ?_; rintro e w' ⟨rfl, hb'⟩; have HB := Lib.hid (HB.out.trans (hb'.mono HB.out.size)); clear hb')
  go_ret
  have hz := HB.out.size
  exact ⟨_, rfl, lines_new _ (rdL d) _ rfl (by simp [rdL]), HB.out.trans (((Below.refl _ _).alloc (Nat.le_refl _) _).mono hz), hz⟩
end Rv
end Go.Proofs.Ytadgemcpahfkoaa
