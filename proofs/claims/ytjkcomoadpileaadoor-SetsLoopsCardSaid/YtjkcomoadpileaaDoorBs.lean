/-
  A loop over a set that is turned meanwhile: what lies between two rounds.
-/
import Derived.Test.YtjkcomoadpileaaDoorAl
namespace Go.Proofs.YtjkcomoadpileaaDoor
open Go.RowKit Go.Shelf
set_option linter.unusedVariables false

/-- Numbers collected in the box Bl while the set at b is turned: w0 is the world in which the loop begins, C the loop's copy. -/
def Turned (w0 : World) (Bl b : Nat) (v0 : Value) (C : Nat) (xs : List Nat) (W : World) : Prop :=
  Chg (Bl :: foot b v0) w0 W ∧ ∃ A q c, W.heap[Bl]? = some (.cells #[.slice A q c] 22 (0, 0)) ∧ LineAt W A q c (cellsI (asZ xs)) ∧ (∀ j ∈ blk A, w0.heap.size + 2 ≤ j ∧ j ≠ C) ∧
    ∃ v ws, SetG W b v ws ∧ ∀ j ∈ foot b v, (j ∈ foot b v0 ∨ w0.heap.size + 2 ≤ j) ∧ j ≠ C ∧ j ∉ blk A
/-- What the loop's start must give. -/
structure Ready (w0 : World) (Bl b : Nat) (v0 : Value) : Prop where
  fl : ∀ k ∈ foot b v0, k < w0.heap.size
  bl : Bl < w0.heap.size
  apart : Bl ∉ foot b v0
section
variable {w0 W W' : World} {Bl b C : Nat} {v0 : Value} {xs : List Nat}
theorem Turned.cell (h : Turned w0 Bl b v0 C xs W) {k : Nat} (hk : k < w0.heap.size) (h1 : k ≠ Bl) (h2 : k ∉ foot b v0) : W.cell? ⟨k, 0, none⟩ = w0.cell? ⟨k, 0, none⟩ :=
  World.cell?_of_block (w := w0) (a := ⟨k, 0, none⟩) (h.1.same k hk (by rw [List.mem_cons, not_or]; exact ⟨h1, h2⟩))
theorem Turned.steady (hr : Ready w0 Bl b v0) : Steady w0.heap.size (Turned w0 Bl b v0 C xs) := by
  rintro W W' ⟨h1, A, q, c, h2, h3, h4, v, ws, h5, h6⟩ hc
  have hb := hr.bl
  refine ⟨h1.andThen hc (fun k hk => by simp only [List.mem_cons, List.not_mem_nil, or_false] at hk; omega), A, q, c, (hc.same _ (lt_of_block h2) (by simp only [List.mem_cons, List.not_mem_nil, or_false]; omega)).trans h2, h3.chg hc (fun k hk hm => ?_), h4, v, ws, h5.chg hc (fun k hk hm => ?_), h6⟩
  · have := h4 k hk
    simp only [List.mem_cons, List.not_mem_nil, or_false] at hm
    omega
  · simp only [List.mem_cons, List.not_mem_nil, or_false] at hm
    rcases (h6 k hk).1 with h7 | h7
    · have := hr.fl k h7
      omega
    · omega
theorem Turned.notin (hr : Ready w0 Bl b v0) {A : Option Addr} {v : Value} (h6 : ∀ j ∈ foot b v, (j ∈ foot b v0 ∨ w0.heap.size + 2 ≤ j) ∧ j ≠ C ∧ j ∉ blk A) : Bl ∉ foot b v ∧ w0.heap.size ∉ foot b v ∧ w0.heap.size + 1 ∉ foot b v ∧ C ∉ foot b v := by
  have hb := hr.bl
  refine ⟨fun hm => ?_, fun hm => ?_, fun hm => ?_, fun hm => (h6 _ hm).2.1 rfl⟩
  · rcases (h6 _ hm).1 with h7 | h7
    · exact hr.apart h7
    · omega
  · rcases (h6 _ hm).1 with h7 | h7
    · have := hr.fl _ h7; omega
    · omega
  · rcases (h6 _ hm).1 with h7 | h7
    · have := hr.fl _ h7; omega
    · omega
/-- One number more is collected. -/
theorem Turned.push (h : Turned w0 Bl b v0 C xs W) (hr : Ready w0 Bl b v0) (hD1 : w0.heap.size + 1 < W.heap.size) (hC : C < W.heap.size) (hCD : w0.heap.size + 2 ≤ C) (x : Nat) (hx : x < 65536) (hn : xs.length ≤ 100000) (ty : TypeId) :
    ∃ A c, W.cell? ⟨Bl, 0, none⟩ = some (.slice A xs.length c) ∧ ∃ A' c' W2, (Builtin.append_ #[22, 22] ty #[.slice A xs.length c, .slice (some ⟨W.heap.size, 0, none⟩) 1 1]).run Tryd.prog (W.alloc (.cells #[.int .i64 (x : Int)] 3)) = .ok (.slice A' (xs.length + 1) c') W2 ∧
      W2.cell? ⟨Bl, 0, none⟩ = some (.slice A xs.length c) ∧ W2.frozen? ⟨Bl, 0, none⟩ = false ∧ Keeps3 w0.heap.size C W (W2.setCell ⟨Bl, 0, none⟩ (.slice A' (xs.length + 1) c')) ∧ Turned w0 Bl b v0 C (xs ++ [x]) (W2.setCell ⟨Bl, 0, none⟩ (.slice A' (xs.length + 1) c')) := by
  obtain ⟨h1, A, q, c, hb, hl, hj, v, ws, hS, hf⟩ := h
  obtain rfl : q = xs.length := by have := hl.1; rw [cellsI_length, asZ_length] at this; omega
  obtain ⟨hn1, hn2, hn3, hn4⟩ := Turned.notin hr hf
  have hbD := hr.bl
  obtain ⟨A', c', W2, hrun, hl2, hc2, hf2⟩ := line_push W 22 3 ty (.int .i64 0) 8 Tryd.underlying22 info_int rfl (by decide) A xs.length c _ hl (one_I _) (by omega) (.int .i64 (x : Int)) rfl
  have hBlA : Bl ∉ blk A := fun hm => by have := (hj _ hm).1; omega
  have hb2 : W2.heap[Bl]? = some (.cells #[.slice A xs.length c] 22 (0, 0)) := (hc2.same _ (lt_of_block hb) hBlA).trans hb
  have hC3 : Chg (Bl :: blk A) W (W2.setCell ⟨Bl, 0, none⟩ (.slice A' (xs.length + 1) c')) := (hc2.weaken (fun k hk => .inl (List.mem_cons_of_mem _ hk))).setCell Bl 0 _ (.inl (List.mem_cons_self ..))
  have hBlA' : Bl ∉ blk A' := fun hm => by
    rcases hf2 _ hm with h1 | h1
    · exact hBlA h1
    · have := lt_of_block hb; omega
  refine ⟨A, c, cell_of_one hb, A', c', W2, hrun, cell_of_one hb2, free_of_one hb2, hC3.keeps3 hD1 hC ?_ ?_ ?_, h1.andThen hC3 ?_, A', xs.length + 1, c', one_setCell hb2, ?_, ?_, v, ws, hS.chg hC3 ?_, ?_⟩
  · simp only [List.mem_cons, not_or]
    exact ⟨by omega, fun hm => by have := (hj _ hm).1; omega⟩
  · simp only [List.mem_cons, not_or]
    exact ⟨by omega, fun hm => by have := (hj _ hm).1; omega⟩
  · simp only [List.mem_cons, not_or]
    exact ⟨by omega, fun hm => (hj _ hm).2 rfl⟩
  · intro k hk
    rcases List.mem_cons.1 hk with rfl | hk
    · exact .inl (List.mem_cons_self ..)
    · have := (hj k hk).1
      exact .inr (by omega)
  · rw [asZ_append, cellsI_append]
    exact hl2.same (by simp [World.setCell]) (fun k hk => heap_setCell_other W2 ⟨Bl, 0, none⟩ k _ (fun e => hBlA' (by have e' : k = Bl := e; rw [← e']; exact hk)))
  · intro k hk
    rcases hf2 k hk with h1 | h1
    · exact hj k h1
    · omega
  · intro k hk hm
    rcases List.mem_cons.1 hm with rfl | hm
    · exact hn1 hk
    · exact (hf k hk).2.2 hm
  · intro k hk
    refine ⟨(hf k hk).1, (hf k hk).2.1, fun hm => ?_⟩
    rcases hf2 k hm with h1 | h1
    · exact (hf k hk).2.2 h1
    · have := hS.foot_lt k hk
      omega
theorem Turned.turn (h1 : Chg (Bl :: foot b v0) w0 W) (hr : Ready w0 Bl b v0) (hD1 : w0.heap.size + 1 < W.heap.size) (hC : C < W.heap.size) {A : Option Addr} {q c : Nat} (hb : W.heap[Bl]? = some (.cells #[.slice A q c] 22 (0, 0))) (hl : LineAt W A q c (cellsI (asZ xs))) (hj : ∀ j ∈ blk A, w0.heap.size + 2 ≤ j ∧ j ≠ C)
    {v : Value} {ws' : List Nat} (hf : ∀ j ∈ foot b v, (j ∈ foot b v0 ∨ w0.heap.size + 2 ≤ j) ∧ j ≠ C ∧ j ∉ blk A) (hS : SetTo W b v ws' W') : Turned w0 Bl b v0 C xs W' ∧ Keeps3 w0.heap.size C W W' := by
  obtain ⟨v', hS', hC', hF'⟩ := hS
  obtain ⟨hn1, hn2, hn3, hn4⟩ := Turned.notin hr hf
  refine ⟨⟨h1.andThen hC' (fun k hk => ?_), A, q, c, (hC'.same _ (lt_of_block hb) hn1).trans hb, hl.chg hC' (fun k hk hm => (hf k hm).2.2 hk), hj, v', ws', hS', fun k hk => ?_⟩, hC'.keeps3 hD1 hC hn2 hn3 hn4⟩
  · rcases (hf k hk).1 with h7 | h7
    · exact .inl (List.mem_cons_of_mem _ h7)
    · exact .inr (by omega)
  · rcases hF' k hk with h7 | h7
    · exact hf k h7
    · exact ⟨.inr (by omega), by omega, fun hm => by have := hl.lt k hm; omega⟩
theorem put_turned (h : Turned w0 Bl b v0 C xs W) (hr : Ready w0 Bl b v0) (hD1 : w0.heap.size + 1 < W.heap.size) (hC : C < W.heap.size) (n : Int) (hn : n ≤ 9223372036854775807) :
    Calls Tryd.prog 10 #[.pointer (some ⟨b, 0, none⟩), .int .i64 n] W fun e W' => ∃ r, e = .returned (.bool r) ∧ Turned w0 Bl b v0 C xs W' ∧ Keeps3 w0.heap.size C W W' := by
  obtain ⟨h1, A, q, c, hb, hl, hj, v, ws, hS, hf⟩ := h
  refine (put_any W b v ws hS n hn).mono ?_
  rintro e W' ⟨rfl, hT⟩
  exact ⟨_, rfl, Turned.turn h1 hr hD1 hC hb hl hj hf hT⟩
theorem drop_turned (h : Turned w0 Bl b v0 C xs W) (hr : Ready w0 Bl b v0) (hD1 : w0.heap.size + 1 < W.heap.size) (hC : C < W.heap.size) (n : Int) (hn : n ≤ 9223372036854775807) :
    Calls Tryd.prog 12 #[.pointer (some ⟨b, 0, none⟩), .int .i64 n] W fun e W' => ∃ r, e = .returned (.bool r) ∧ Turned w0 Bl b v0 C xs W' ∧ Keeps3 w0.heap.size C W W' := by
  obtain ⟨h1, A, q, c, hb, hl, hj, v, ws, hS, hf⟩ := h
  refine (drop_any W b v ws hS n hn).mono ?_
  rintro e W' ⟨rfl, hT⟩
  exact ⟨_, rfl, Turned.turn h1 hr hD1 hC hb hl hj hf hT⟩
theorem Keeps3.trans {D C : Nat} {W1 W2 W3 : World} (h : Keeps3 D C W1 W2) (h2 : Keeps3 D C W2 W3) : Keeps3 D C W1 W3 :=
  ⟨Nat.le_trans h.1 h2.1, h2.2.1.trans h.2.1, h2.2.2.1.trans h.2.2.1, h2.2.2.2.trans h.2.2.2⟩
end
/-- The same, where what a round begins with is found by the walk. -/
theorem range_set_ex (n : Nat) (hn : 2 ≤ n) {g : Operand} {ps : Array Tmp} {assign body : Code} {Q : Exit → Act → World → Prop} {a : Act} {w : World} {Bx : Nat}
    (hg : a.eval g = .func (.func 37) #[] #[.pointer (some ⟨Bx, 0, none⟩)]) (hps : ps.size = 1)
    (p : Option Addr) (v : Value) (ws : List Nat) (hbx : w.cell? ⟨Bx, 0, none⟩ = some (.pointer p)) (hA : At w p v ws)
    (I : Nat → List Nat → World → Prop) (Ix : Nat → Code → List Nat → World → Prop)
    (hI : ∀ C xs, Steady w.heap.size (I C xs)) (hIx : ∀ C c xs, Steady w.heap.size (Ix C c xs)) (hIT : ∀ C xs W, I C xs W → TabOk W)
    (h0 : ∀ C W, w.heap.size + 2 ≤ C → Below w.heap.size w W → I C [] W)
    (hab : ∃ a₁ : Nat → Act, (∀ (x : Nat) (W : World) (K : Act → World → Prop), K (a₁ x) W →
      assign.wpIn (Fence.wide.inRound (w.heap.size + 1)) (n - 1 - 1) Tryd.prog (Exit.then K (fun _ _ _ => False)) { tmps := (ps.zip #[Value.int .i64 (x : Int)]).foldl (fun t (p, v) => t.setIfInBounds p v) a.tmps, defers := [] } W) ∧
      ∀ (C : Nat) (pre : List Nat) (x : Nat) (W : World), w.heap.size + 2 ≤ C → C < W.heap.size → w.heap.size + 1 < W.heap.size → I C pre W → pre ++ [x] <+: elems ws →
      body.wpIn (Fence.wide.inRound (w.heap.size + 1)) (n - 1 - 1) Tryd.prog (setPost w.heap.size C (I C) (Ix C) (pre ++ [x]) W) (a₁ x) W)
    (hdone : ∀ (C : Nat) (W : World), I C (elems ws) W → W.heap[w.heap.size]? = some (.deferred (some [])) → Q .normal { a with defers := { target := .collected w.heap.size, args := #[] } :: a.defers } W)
    (hstop : ∀ (C : Nat) (c : Code) (pre : List Nat) (W : World), pre <+: elems ws → Ix C c pre W → W.heap[w.heap.size]? = some (.deferred (some [])) → c.wpIn Fence.wide n Tryd.prog Q { a with defers := { target := .collected w.heap.size, args := #[] } :: a.defers } W) :
    (Code.rangeFunc g ps assign body).wpIn Fence.wide n Tryd.prog Q a w := by
  obtain ⟨a₁, h1, h2⟩ := hab
  exact range_set n hn hg hps p v ws hbx hA I Ix hI hIx hIT h0 a₁ h1 h2 hdone hstop
end Go.Proofs.YtjkcomoadpileaaDoor
