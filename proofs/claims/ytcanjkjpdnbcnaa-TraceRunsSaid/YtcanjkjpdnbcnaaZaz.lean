/-
  What blocks do: more steps.
  A law's programs, input and runs: what is handed in, and what Run hands back as a result in memory.
  TraceMore: with more steps a run that ended ends the same.
-/
import Derived.Test.YtcanjkjpdnbcnaaZay
import Derived.Test.YtcanjkjpdnbcnaaZar
import Derived.Test.YtcanjkjpdnbcnaaZaa
namespace Go.Proofs.Ytcanjkjpdnbcnaa
open Go.RowKit
set_option linter.unusedVariables false
set_option linter.unusedSimpArgs false
set_option maxRecDepth 100000

section
variable {F : ByteArray → Option MFn} {G : ByteArray → Prop} {inp : List Int}
theorem runP_spec (hF : ∀ x f, F x = some f → FnOk F G f) (hI : ∀ v ∈ inp, I32 v) : ∀ (n : Nat) (s : PS), Good F G inp s →
    (∃ s', runP F inp n s = .go s' ∧ s'.steps = s.steps + n ∧ s'.tr.length ≤ s'.steps ∧ ∃ l, s'.tr = s.tr ++ l) ∨
    (∃ m k v s1 s', m < n ∧ runP F inp m s = .go s1 ∧ runP F inp (m + 1) s = .fin k v s' ∧ runP F inp n s = .fin k v s' ∧ s'.steps = s.steps + m + 1 ∧ 1 ≤ k ∧ k ≤ 4 ∧ s'.tr.length ≤ s'.steps ∧ ∃ l, s'.tr = s.tr ++ l)
  | 0, s, hg => .inl ⟨s, rfl, rfl, hg.tr, [], by simp⟩
  | n + 1, s, hg => by
    obtain ⟨h1, h2⟩ := stepP_good hF hI hg
    have e : ∀ k, runP F inp (k + 1) s = match stepP F inp s with | .go s' => runP F inp k s' | .fin k v s' => .fin k v s' := fun k => rfl
    cases hs : stepP F inp s with
    | go s1 =>
      rw [hs] at h1 e
      have hg1 := h2 s1 hs
      have st : s1.steps = s.steps + 1 := h1.1
      obtain ⟨l1, hl1⟩ : ∃ l, s1.tr = s.tr ++ l := h1.2
      rcases runP_spec hF hI n s1 hg1 with ⟨s', a1, a2, a3, l, a4⟩ | ⟨m, k, v, s2, s', b1, b2, b3, b4, b5, b6, b7, b8, l, b9⟩
      · exact .inl ⟨s', (e n).trans a1, by omega, a3, l1 ++ l, by rw [a4, hl1, List.append_assoc]⟩
      · exact .inr ⟨m + 1, k, v, s2, s', by omega, (e m).trans b2, (e (m + 1)).trans b3, (e n).trans b4, by omega, b6, b7, b8, l1 ++ l, by rw [b9, hl1, List.append_assoc]⟩
    | fin k v s' =>
      rw [hs] at h1 e
      have st : s'.steps = s.steps + 1 := h1.1
      have tr : s'.tr = s.tr := h1.2.1
      have hk : 1 ≤ k ∧ k ≤ 4 := h1.2.2.2
      exact .inr ⟨0, k, v, s, s', by omega, rfl, e 0, e n, by omega, hk.1, hk.2, by rw [tr, st]; have := hg.tr; omega, [], by rw [tr, List.append_nil]⟩
end
theorem mainP_steps (gs : List MGl) (fs : List MFn) : (mainP (fnOf fs) (wdOf gs) ⟨#[109, 97, 105, 110]⟩).steps = 0 ∧ (mainP (fnOf fs) (wdOf gs) ⟨#[109, 97, 105, 110]⟩).tr = [] := by
  unfold mainP
  cases fnOf fs ⟨#[109, 97, 105, 110]⟩ <;> exact ⟨rfl, rfl⟩
/-- What more steps change. -/
theorem more_ok {gs : List MGl} {fs : List MFn} (hm : MidOk gs fs) {inp : List Int} (hi : ∀ v ∈ inp, I32 v) (f g : Nat) (hf : f ≤ g) :
    (((progR gs fs inp f).fin = 5 ∧ (progR gs fs inp f).steps = f ∧ (progR gs fs inp f).tr.length ≤ (progR gs fs inp g).tr.length ∧ (progR gs fs inp g).tr.take (progR gs fs inp f).tr.length = (progR gs fs inp f).tr) ∨
      ((progR gs fs inp f).fin ≠ 5 ∧ progR gs fs inp f = progR gs fs inp g ∧ (progR gs fs inp f).steps ≤ f)) ∧
    ((progR gs fs inp g).fin = 5 ∨ ((progR gs fs inp g).fin ≠ 5 ∧ 1 ≤ (progR gs fs inp g).steps ∧ progR gs fs inp (progR gs fs inp g).steps = progR gs fs inp g ∧ (progR gs fs inp ((progR gs fs inp g).steps - 1)).fin = 5)) ∧
    (progR gs fs inp f).tr.length ≤ f ∧ (progR gs fs inp g).tr.length ≤ g ∧ (progR gs fs inp g).steps ≤ g := by
  have hF : ∀ x f, fnOf fs x = some f → FnOk (fnOf fs) (isGl gs) f := fun x f h => hm.ok f (fnOf_mem h)
  have hg0 := main_good hm inp
  obtain ⟨z1, z2⟩ := mainP_steps gs fs
  have sf := runP_spec hF hi f _ hg0
  have sg := runP_spec hF hi g _ hg0
  unfold progR
  generalize mainP (fnOf fs) (wdOf gs) ⟨#[109, 97, 105, 110]⟩ = s0 at *
  rw [z1, z2] at sf sg
  rcases sf with ⟨s', a1, a2, a3, _⟩ | ⟨m, k, v, s1, s', b1, b2, b3, b4, b5, b6, b7, b8, _⟩
  · have hga := runP_more (fnOf fs) inp f (g - f) s0
    rw [show f + (g - f) = g by omega, a1] at hga
    dsimp only at hga
    have hg' : Good (fnOf fs) (isGl gs) inp s0 := hg0
    rcases sg with ⟨t', c1, c2, c3, _⟩ | ⟨m, k, v, s1, t', b1, b2, b3, b4, b5, b6, b7, b8, _⟩
    · have hpre : ∃ l, t'.tr = s'.tr ++ l := by
        have hgs : Good (fnOf fs) (isGl gs) inp s' := by
          have : ∀ (n : Nat) (s s' : PS), Good (fnOf fs) (isGl gs) inp s → runP (fnOf fs) inp n s = .go s' → Good (fnOf fs) (isGl gs) inp s' := by
            intro n
            induction n with
            | zero => intro s s' h1 h2; cases h2; exact h1
            | succ n ih =>
              intro s s' h1 h2
              change (match stepP (fnOf fs) inp s with | .go s' => runP (fnOf fs) inp n s' | .fin k v s' => .fin k v s') = _ at h2
              cases hs : stepP (fnOf fs) inp s with
              | go s1 => rw [hs] at h2; exact ih s1 s' ((stepP_good hF hi h1).2 s1 hs) h2
              | fin k v s1 => rw [hs] at h2; cases h2
          exact this f s0 s' hg0 a1
        rcases runP_spec hF hi (g - f) s' hgs with ⟨u, d1, d2, d3, l, d4⟩ | ⟨_, _, _, _, _, _, _, _, d, _⟩
        · rw [← hga, c1] at d1
          cases d1
          exact ⟨l, d4⟩
        · rw [← hga, c1] at d
          cases d
      obtain ⟨l, hl⟩ := hpre
      rw [a1, c1]
      simp only [PO.res]
      refine ⟨.inl ⟨trivial, by omega, by rw [hl, List.length_append]; omega, by rw [hl, List.take_left]⟩, .inl trivial, by omega, by omega, by omega⟩
    · have hpre : ∃ l, t'.tr = s'.tr ++ l := by
        have hgs : Good (fnOf fs) (isGl gs) inp s' := by
          have : ∀ (n : Nat) (s s' : PS), Good (fnOf fs) (isGl gs) inp s → runP (fnOf fs) inp n s = .go s' → Good (fnOf fs) (isGl gs) inp s' := by
            intro n
            induction n with
            | zero => intro s s' h1 h2; cases h2; exact h1
            | succ n ih =>
              intro s s' h1 h2
              change (match stepP (fnOf fs) inp s with | .go s' => runP (fnOf fs) inp n s' | .fin k v s' => .fin k v s') = _ at h2
              cases hs : stepP (fnOf fs) inp s with
              | go s1 => rw [hs] at h2; exact ih s1 s' ((stepP_good hF hi h1).2 s1 hs) h2
              | fin k v s1 => rw [hs] at h2; cases h2
          exact this f s0 s' hg0 a1
        rcases runP_spec hF hi (g - f) s' hgs with ⟨u, d1, d2, d3, l, d4⟩ | ⟨_, k2, v2, _, u, _, _, _, d, _, _, _, _, l, d4⟩
        · rw [← hga, b4] at d1
          cases d1
        · rw [← hga, b4] at d
          cases d
          exact ⟨l, d4⟩
      obtain ⟨l, hl⟩ := hpre
      rw [a1, b4]
      simp only [PO.res]
      have e1 : t'.steps = m + 1 := by omega
      refine ⟨.inl ⟨trivial, by omega, by rw [hl, List.length_append]; omega, by rw [hl, List.take_left]⟩, .inr ⟨by omega, by omega, ?_, ?_⟩, by omega, by omega, by omega⟩
      · rw [← e1] at b3
        rw [b3]
      · rw [e1, Nat.add_sub_cancel, b2]
  · have hga := runP_more (fnOf fs) inp f (g - f) s0
    rw [show f + (g - f) = g by omega, b4] at hga
    dsimp only at hga
    rw [b4, hga]
    simp only [PO.res]
    have e1 : s'.steps = m + 1 := by omega
    refine ⟨.inr ⟨by omega, trivial, by omega⟩, .inr ⟨by omega, by omega, ?_, ?_⟩, by omega, by omega, by omega⟩
    · rw [← e1] at b3
      rw [b3]
    · rw [e1, Nat.add_sub_cancel, b2]
end Go.Proofs.Ytcanjkjpdnbcnaa
namespace Go.Proofs.Ytcanjkjpdnbcnaa
open Go.RowKit
set_option linter.unusedVariables false
set_option linter.unusedSimpArgs false
set_option maxRecDepth 100000

/-- What a run came to, with its trace in memory. -/
def PR.rs (R : PR) (A : Option Addr) (c : Nat) : Rs := ⟨R.fin, R.value, A, R.tr.length, c, R.tr, R.steps, R.reads⟩
theorem RowK.of_line {w : World} {A : Option Addr} {n c : Nat} {zs : List Int} (hn : zs.length = n) (h : SLine 1 w A n c (cellsN zs)) : RowK .i32 w A n zs := by
  refine ⟨hn, fun h0 => ?_⟩
  obtain ⟨g, off, e, hg, hc, _⟩ := h.at h0
  refine ⟨g, off, e, hg, fun i hi => ?_⟩
  rw [hc i (by omega)]
  unfold cellsN
  rw [List.getElem?_map, List.getElem?_eq_getElem (by omega)]
  simp [List.getD_eq_getElem?_getD, List.getElem?_eq_getElem (show i < zs.length by omega)]
theorem SLine.a_none {s : Nat} {w : World} {A : Option Addr} {n c : Nat} {xs : List Value} (h : SLine s w A n c xs) : n ≤ c ∧ c ≤ maxLen ∧ (A = none → c = 0) := ⟨h.2.1, h.2.2.1, h.2.2.2.1⟩
theorem PR.rs_in {w : World} {R : PR} {A : Option Addr} {c : Nat} (h : SLine 1 w A R.tr.length c (cellsN R.tr)) (hl : R.tr.length ≤ 1000000) : (R.rs A c).In w := ⟨RowK.of_line rfl h, hl⟩
/-- The input of a law. -/
theorem input_of {w : World} {A : Option Addr} {n c : Nat} {zs : List Int} (h : IsRow .i32 w A n c zs) : ∃ inp : List Int, inp.length = min n 30 ∧ RowK .i32 w A (min n 30) inp ∧ (∀ v ∈ inp, I32 v) ∧ (A = none → c = 0) ∧ n ≤ c ∧ c ≤ 9223372036854775807 := by
  have hr := RowK.of_isRow h
  have ht := hr.take (min n 30) (Nat.min_le_left _ _)
  refine ⟨_, ht.1, ht, fun v hv => ?_, ?_⟩
  · have hv' := List.mem_of_mem_take (List.mem_of_mem_take hv)
    rcases h with ⟨_, _, _, rfl⟩ | ⟨x, rfl, hl, hm, hz, hc, hw⟩
    · cases hv'
    · have h2 := hw v hv'
      have h3 := Go.bounds_i32 h2
      exact h3
  · rcases h with ⟨rfl, rfl, rfl, rfl⟩ | ⟨x, rfl, hl, hm, hz, hc, hw⟩
    · exact ⟨fun _ => rfl, by omega, by omega⟩
    · refine ⟨fun e => (by cases e), hl, ?_⟩
      unfold maxLen at hm
      omega
/-- A run of a law's program. -/
theorem run_law {w : World} {GA FA : Option Addr} {gn gc fn fc : Nat} {gs : List MGl} {fs : List MFn} (hg : MGls w GA gn gs) (hf : MFns w FA fn fs) {iA : Option Addr} {ic m : Nat} {inp : List Int} (hm : inp.length = m) (hI : RowK .i32 w iA m inp) (h30 : m ≤ 30) (hi : ∀ v ∈ inp, I32 v) (hk : MidOk gs fs) (W : World) (hB : Below w.heap.size w W) (n : Nat) (hn : n ≤ 400) :
    Calls Try.prog 10 #[.agg #[.slice GA gn gc, .slice FA fn fc], .slice iA m ic, .int .i64 (n : Int)] W fun e w' => ∃ A c, e = .returned ((progR gs fs inp n).rs A c).val ∧ ((progR gs fs inp n).rs A c).In w' ∧ SLine 1 w' A (progR gs fs inp n).tr.length c (cellsN (progR gs fs inp n).tr) ∧ Below W.heap.size W w' ∧ ∀ k ∈ blk A, W.heap.size ≤ k := by
  subst hm
  refine (run_any W GA FA gn gc fn fc gs fs (hg.below hB) (hf.below hB) iA ic inp (hI.below hB) (by omega) (n : Int) (by omega) hk hi).mono fun e w' hR => ?_
  rw [Int.toNat_natCast] at hR
  obtain ⟨A, c, rfl, hl, hb, hf⟩ := hR
  have ht := (more_ok hk hi n n (Nat.le_refl _)).2.2.1
  exact ⟨A, c, rfl, PR.rs_in hl (by omega), hl, hb, hf⟩
theorem run_none {w : World} {GA FA : Option Addr} {gn gc fn fc : Nat} {gs : List MGl} {fs : List MFn} (hg : MGls w GA gn gs) (hf : MFns w FA fn fs) {iA : Option Addr} {ic m : Nat} {inp : List Int} (hm : inp.length = m) (hI : RowK .i32 w iA m inp) (h30 : m ≤ 30) (hi : ∀ v ∈ inp, I32 v) (hk : MidOk gs fs) (W : World) (hB : Below w.heap.size w W) :
    Calls Try.prog 10 #[.agg #[.slice GA gn gc, .slice FA fn fc], .slice iA m ic, .int .i64 (-1)] W fun e w' => ∃ A c, e = .returned ((progR gs fs inp 0).rs A c).val ∧ Below W.heap.size W w' := by
  subst hm
  refine (run_any W GA FA gn gc fn fc gs fs (hg.below hB) (hf.below hB) iA ic inp (hI.below hB) (by omega) (-1) (by omega) hk hi).mono fun e w' hR => ?_
  have e0 : (-1 : Int).toNat = 0 := rfl
  rw [e0] at hR
  obtain ⟨A, c, rfl, hl, hb, _⟩ := hR
  exact ⟨A, c, rfl, hb⟩
theorem sameR_rs (R S : PR) (A B : Option Addr) (c d : Nat) : sameR (R.rs A c) (S.rs B d) = (decide (R.fin = S.fin) && decide (R.value = S.value) && decide (R.reads = S.reads) && decide (R.tr = S.tr)) := by
  unfold sameR PR.rs
  have h : decide ((R.reads : Int) = (S.reads : Int)) = decide (R.reads = S.reads) := by
    by_cases e : R.reads = S.reads
    · rw [e]; simp
    · rw [decide_eq_false e, decide_eq_false (by omega)]
  dsimp only
  rw [h]
theorem sameR_self (R : PR) (A B : Option Addr) (c d : Nat) : sameR (R.rs A c) (R.rs B d) = true := by
  rw [sameR_rs]; simp
theorem beginsR_open (R S : PR) (A B : Option Addr) (c d : Nat) (h5 : S.fin = 5) (hl : S.tr.length ≤ R.tr.length) (ht : R.tr.take S.tr.length = S.tr) : beginsR (R.rs A c) (S.rs B d) = true := by
  unfold beginsR PR.rs
  rw [if_neg (by simpa using h5)]
  simp [hl, ht]
theorem beginsR_same (R : PR) (A B : Option Addr) (c d : Nat) (h5 : R.fin ≠ 5) : beginsR (R.rs A c) (R.rs B d) = true := by
  unfold beginsR
  rw [if_pos (show (R.rs B d).fin ≠ 5 from h5)]
  exact sameR_self R A B c d
theorem bel_alloc {w w' : World} (h : Below w.heap.size w w') (o : Obj) : Below w.heap.size w (w'.alloc o) := h.alloc h.size o
theorem bel_drew {w w' : World} (h : Below w.heap.size w w') : Below w.heap.size w w'.drew := h.drew
/-- A result's box. -/
def ResAt (W : World) (p : Nat) (f v : Int) (A : Option Addr) (n c : Nat) (s r : Int) : Prop :=
  p < W.heap.size ∧ W.cell? ⟨p, 0, none⟩ = some (.int .i64 f) ∧ W.cell? ⟨p, 1, none⟩ = some (.int .i32 v) ∧ W.cell? ⟨p, 2, none⟩ = some (.slice A n c) ∧ W.cell? ⟨p, 3, none⟩ = some (.int .i64 s) ∧ W.cell? ⟨p, 4, none⟩ = some (.int .i64 r)
theorem ResAt.below {W V : World} {p : Nat} {f v : Int} {A : Option Addr} {n c : Nat} {s r : Int} (h : ResAt W p f v A n c s r) (hb : Below W.heap.size W V) : ResAt V p f v A n c s r := by
  obtain ⟨h0, h1, h2, h3, h4, h5⟩ := h
  have hk : ∀ j, V.cell? ⟨p, j, none⟩ = W.cell? ⟨p, j, none⟩ := fun j => hb.cell (p := ⟨p, j, none⟩) h0
  exact ⟨Nat.lt_of_lt_of_le h0 hb.size, (hk 0).trans h1, (hk 1).trans h2, (hk 2).trans h3, (hk 3).trans h4, (hk 4).trans h5⟩
theorem ResAt.new (w : World) (f v : Int) (A : Option Addr) (n c : Nat) (s r : Int) : ∃ W p, w.alloc (.cells #[.int .i64 f, .int .i32 v, .slice A n c, .int .i64 s, .int .i64 r] 32) = W ∧ w.heap.size = p ∧ Below w.heap.size w W ∧ ResAt W p f v A n c s r := by
  have hv := heap_alloc_new w (.cells #[.int .i64 f, .int .i32 v, .slice A n c, .int .i64 s, .int .i64 r] 32)
  refine ⟨_, _, rfl, rfl, (Below.refl _ w).alloc (Nat.le_refl _) _, by simp, ?_, ?_, ?_, ?_, ?_⟩
  · rw [cell_of_row _ _ 0 _ _ (0, 0) hv]; rfl
  · rw [cell_of_row _ _ 1 _ _ (0, 0) hv]; rfl
  · rw [cell_of_row _ _ 2 _ _ (0, 0) hv]; rfl
  · rw [cell_of_row _ _ 3 _ _ (0, 0) hv]; rfl
  · rw [cell_of_row _ _ 4 _ _ (0, 0) hv]; rfl
theorem row5 {W : World} {p : Nat} {a b c d e : Value} {T : Nat} (h : W.heap[p]? = some (.cells #[a, b, c, d, e] T (0, 0))) : W.cell? ⟨p, 0, none⟩ = some a ∧ W.cell? ⟨p, 1, none⟩ = some b ∧ W.cell? ⟨p, 2, none⟩ = some c ∧ W.cell? ⟨p, 3, none⟩ = some d ∧ W.cell? ⟨p, 4, none⟩ = some e :=
  ⟨by rw [cell_of_row _ _ 0 _ _ (0, 0) h]; rfl, by rw [cell_of_row _ _ 1 _ _ (0, 0) h]; rfl, by rw [cell_of_row _ _ 2 _ _ (0, 0) h]; rfl, by rw [cell_of_row _ _ 3 _ _ (0, 0) h]; rfl, by rw [cell_of_row _ _ 4 _ _ (0, 0) h]; rfl⟩
theorem free5 {W : World} {p : Nat} {cs : Array Value} {T : Nat} (h : W.heap[p]? = some (.cells cs T (0, 0))) : W.frozen? ⟨p, 0, none⟩ = false ∧ W.frozen? ⟨p, 1, none⟩ = false ∧ W.frozen? ⟨p, 2, none⟩ = false ∧ W.frozen? ⟨p, 3, none⟩ = false ∧ W.frozen? ⟨p, 4, none⟩ = false :=
  ⟨frozen_of_row W p 0 _ _ h, frozen_of_row W p 1 _ _ h, frozen_of_row W p 2 _ _ h, frozen_of_row W p 3 _ _ h, frozen_of_row W p 4 _ _ h⟩
theorem set5 {W : World} {p T : Nat} {a b c d e : Value} (h : W.heap[p]? = some (.cells #[a, b, c, d, e] T (0, 0))) (a' b' c' d' e' : Value) :
    ∃ X, (((((W.setCell ⟨p, 0, none⟩ a').setCell ⟨p, 1, none⟩ b').setCell ⟨p, 2, none⟩ c').setCell ⟨p, 3, none⟩ d').setCell ⟨p, 4, none⟩ e') = X ∧ X.heap[p]? = some (.cells #[a', b', c', d', e'] T (0, 0)) ∧ Chg [p] W X := by
  have hm : p ∈ [p] ∨ W.heap.size ≤ p := .inl (List.mem_singleton.2 rfl)
  refine ⟨_, rfl, ?_, ((((((Chg.refl [p] W).setCell p 0 a' hm).setCell p 1 b' hm).setCell p 2 c' hm).setCell p 3 d' hm).setCell p 4 e' hm)⟩
  have h1 := heap_setCell_same W p 0 _ _ a' h
  have h2 := heap_setCell_same _ p 1 _ _ b' h1
  have h3 := heap_setCell_same _ p 2 _ _ c' h2
  have h4 := heap_setCell_same _ p 3 _ _ d' h3
  exact (heap_setCell_same _ p 4 _ _ e' h4).trans rfl
end Go.Proofs.Ytcanjkjpdnbcnaa
namespace Go.Proofs.Ytcanjkjpdnbcnaa
open Go.RowKit
set_option linter.unusedVariables false
set_option linter.unusedSimpArgs false
set_option maxRecDepth 100000

def MoreFin (w7 X : World) (RB : PR) (fB vB : Int) (nB : Nat) (sB rB : Int) (p q : Nat) : Prop :=
  Below w7.heap.size w7 X ∧ ∃ A8 c8, X.heap[p]? = some (.cells #[.int .i64 fB, .int .i32 vB, .slice A8 nB c8, .int .i64 sB, .int .i64 rB] 32 (0, 0)) ∧ SLine 1 X A8 nB c8 (cellsN RB.tr) ∧ ∃ v9 A9 n9 c9 s9 r9, X.heap[q]? = some (.cells #[.int .i64 5, .int .i32 v9, .slice A9 n9 c9, .int .i64 s9, .int .i64 r9] 32 (0, 0))
set_option maxHeartbeats 6400000 in
theorem traceMore_walk (GA : Option Addr) (gn gc : Nat) (FA : Option Addr) (fn fc : Nat) (gs : List MGl) (fs : List MFn) (iA : Option Addr) (il ic : Nat) (zs : List Int) (fuel : Int) (w : World)
    (hg : MGls w GA gn gs) (hf : MFns w FA fn fs) (bg : gn ≤ gc ∧ gc ≤ maxLen) (bf : fn ≤ fc ∧ fc ≤ maxLen) (hI0 : IsRow .i32 w iA il ic zs) (hfu : (Lit.int .i64 fuel).wf = true) :
    Calls Try.prog 4 #[.agg #[.slice GA gn gc, .slice FA fn fc], .slice iA il ic, .int .i64 fuel] w fun e w' => e = .returned (.bool true) ∧ Below w.heap.size w w' := by
  obtain ⟨inp, hin, hI, hi32, hiN, hil, hic⟩ := input_of hI0
  obtain ⟨m, hm⟩ : ∃ m, min il 30 = m := ⟨_, rfl⟩
  rw [hm] at hin hI
  have hm30 : m ≤ 30 := by omega
  obtain ⟨qn, hqn⟩ : ∃ qn : Nat, max 0 (min fuel 400) = (qn : Int) := ⟨(max 0 (min fuel 400)).toNat, by omega⟩
  have hq400 : qn ≤ 400 := by omega
  obtain ⟨W0, hW0⟩ : ∃ W0, w.alloc (.cells #[.slice GA gn gc, .slice FA fn fc] 25) = W0 := ⟨_, rfl⟩
  have hB0 : Below w.heap.size w W0 := by rw [← hW0]; exact (Below.refl _ w).alloc (Nat.le_refl _) _
  have hv0 : W0.heap[w.heap.size]? = some (.cells #[.slice GA gn gc, .slice FA fn fc] 25 (0, 0)) := by rw [← hW0]; exact heap_alloc_new w _
  have y0 : W0.cell? ⟨w.heap.size, 0, none⟩ = some (.slice GA gn gc) := by rw [cell_of_row _ _ 0 _ _ (0, 0) hv0]; rfl
  have y1 : W0.cell? ⟨w.heap.size, 1, none⟩ = some (.slice FA fn fc) := by rw [cell_of_row _ _ 1 _ _ (0, 0) hv0]; rfl
  have hlt : w.heap.size < W0.heap.size := World.block_lt_of_cell? W0 _ y0
  obtain ⟨v0, hv0e⟩ : ∃ v0, w.heap.size = v0 := ⟨_, rfl⟩
  rw [hv0e] at y0 y1 hlt
  have HM0 : Hid (∀ V, Below W0.heap.size W0 V → V.cell? ⟨v0, 0, none⟩ = some (.slice GA gn gc) ∧ V.cell? ⟨v0, 1, none⟩ = some (.slice FA fn fc)) := Lib.hid (fun V hV => ⟨(hV.cell (p := ⟨v0, 0, none⟩) hlt).trans y0, (hV.cell (p := ⟨v0, 1, none⟩) hlt).trans y1⟩)
  have HB := Lib.hid hB0
  have HRUN : Hid (MidOk gs fs → ∀ W, Below W0.heap.size W0 W → ∀ n : Nat, n ≤ 400 → Calls Try.prog 10 #[.agg #[.slice GA gn gc, .slice FA fn fc], .slice iA m ic, .int .i64 (n : Int)] W fun e w' => ∃ A c, e = .returned ((progR gs fs inp n).rs A c).val ∧ ((progR gs fs inp n).rs A c).In w' ∧ SLine 1 w' A (progR gs fs inp n).tr.length c (cellsN (progR gs fs inp n).tr) ∧ Below W.heap.size W w' ∧ ∀ k ∈ blk A, W.heap.size ≤ k) :=
    Lib.hid (fun hk W hW n hn => run_law (hg.below hB0) (hf.below hB0) hin (hI.below hB0) hm30 hi32 hk W hW n hn)
  have HMORE := Lib.hid (fun (hk : MidOk gs fs) (f g : Nat) (hfg : f ≤ g) => more_ok hk hi32 f g hfg)
  have HF := Lib.hid (fine_any W0 GA FA gn gc fn fc gs fs (hg.below hB0) (hf.below hB0) (by have := bg.2; have := bg.1; unfold maxLen at *; omega) (by have := bf.2; have := bf.1; unfold maxLen at *; omega))
  have HC : Hid (∀ W, Calls Try.prog 9 #[.slice iA il ic, .int .i64 fuel] W fun e w' => e = .returned (.tuple #[.slice iA m ic, .int .i64 (qn : Int)]) ∧ Below W.heap.size W w') := Lib.hid (fun W => by
    have := cut12_any W iA il ic fuel hiN hil hic
    rw [hm, hqn] at this
    exact this)
  have HLT := Lib.hid hlt
  clear hg hf bg bf hI0 hfu hin hI hi32 hiN hil hic hm hqn hB0 hv0 hlt
  go_enter Try.func4, Try.ntmps4
  go_wp2_with fail
  (with_reducible refine HF.out.mono ?_)
  rintro e w1 ⟨⟨b, rfl, hb⟩, hb1⟩
  obtain ⟨y0, y1⟩ := HM0.out w1 hb1
  have HB1 := Lib.hid hb1
  cases b with
  | false =>
    have HL := Lib.hid (lives12 w1)
    clear hb hb1
    go_wp2_with fail
    (refine HL.out.mono ?_)
    rintro e w2 ⟨rfl, hb2⟩
    have HB2 := Lib.hid (HB.out.trans ((HB1.out.trans (hb2.mono HB1.out.size)).mono HB.out.size))
    go_wp2_with fail
    go_ret
    exact ⟨rfl, HB2.out⟩
  | true =>
    have hk := (hb rfl).1
    have HK := Lib.hid hk
    clear hb hb1 hk
    go_wp2_with fail
    (with_reducible refine (HC.out w1).mono ?_)
    rintro e w2 ⟨rfl, hb2⟩
    have HB2 := Lib.hid (HB1.out.trans (hb2.mono HB1.out.size))
    obtain ⟨y0, y1⟩ := HM0.out w2 HB2.out
    have HR := Lib.hid (HRUN.out HK.out w2 HB2.out qn hq400)
    clear hb2 HB1
    go_wp2_with fail
    (refine HR.out.mono ?_)
    rintro e w3 ⟨A3, c3, rfl, hin3, hc3, hb3, _⟩
    have HMO := Lib.hid (HMORE.out HK.out qn 400 hq400)
    obtain ⟨RA, hRA⟩ : ∃ R, progR gs fs inp qn = R := ⟨_, rfl⟩
    rw [hRA] at hin3 hc3 HMO ⊢
    have HIN3 := Lib.hid (And.intro hin3 hc3)
    have HB3 : Hid (Below W0.heap.size W0 w3) := Lib.hid (HB2.out.trans (hb3.mono HB2.out.size))
    unfold PR.rs Rs.val
    dsimp only
    obtain ⟨fA, hfA⟩ : ∃ x, RA.fin = x := ⟨_, rfl⟩
    obtain ⟨vA, hvA⟩ : ∃ x, RA.value = x := ⟨_, rfl⟩
    obtain ⟨nA, hnA⟩ : ∃ x, RA.tr.length = x := ⟨_, rfl⟩
    obtain ⟨sA, hsA⟩ : ∃ x : Int, (RA.steps : Int) = x := ⟨_, rfl⟩
    obtain ⟨rA, hrA⟩ : ∃ x : Int, (RA.reads : Int) = x := ⟨_, rfl⟩
    have HEA : Hid (RA.fin = fA ∧ RA.value = vA ∧ RA.tr.length = nA ∧ (RA.steps : Int) = sA ∧ (RA.reads : Int) = rA) := Lib.hid ⟨hfA, hvA, hnA, hsA, hrA⟩
    rw [hfA, hvA, hnA, hsA, hrA]
    obtain ⟨W4, p4, hW4, hp4, hB4, hr4⟩ := ResAt.new w3 fA vA A3 nA c3 sA rA
    have HB4 : Hid (Below W0.heap.size W0 W4) := Lib.hid (HB3.out.trans (hB4.mono HB3.out.size))
    obtain ⟨y0, y1⟩ := HM0.out W4 HB4.out
    have HR4 := Lib.hid hr4
    have HW34 := Lib.hid hB4
    have HR := Lib.hid (HRUN.out HK.out W4 HB4.out 400 (Nat.le_refl _))
    have e400 : ((400 : Nat) : Int) = 400 := rfl
    rw [e400] at HR
    clear hin3 hc3 hb3 hRA hfA hvA hnA hsA hrA hB4 hr4 HB3 e400
    go_wp2_with fail
    (refine HR.out.mono ?_)
    rintro e w5 ⟨A5, c5, rfl, hin5, hc5, hb5, _⟩
    obtain ⟨RB, hRB⟩ : ∃ R, progR gs fs inp 400 = R := ⟨_, rfl⟩
    rw [hRB] at hin5 hc5 HMO ⊢
    have HIN5 := Lib.hid (And.intro hin5 hc5)
    have HB5 : Hid (Below W0.heap.size W0 w5) := Lib.hid (HB4.out.trans (hb5.mono HB4.out.size))
    unfold PR.rs Rs.val
    dsimp only
    obtain ⟨fB, hfB⟩ : ∃ x, RB.fin = x := ⟨_, rfl⟩
    obtain ⟨vB, hvB⟩ : ∃ x, RB.value = x := ⟨_, rfl⟩
    obtain ⟨nB, hnB⟩ : ∃ x, RB.tr.length = x := ⟨_, rfl⟩
    obtain ⟨sB, hsB⟩ : ∃ x : Int, (RB.steps : Int) = x := ⟨_, rfl⟩
    obtain ⟨rB, hrB⟩ : ∃ x : Int, (RB.reads : Int) = x := ⟨_, rfl⟩
    have HEB : Hid (RB.fin = fB ∧ RB.value = vB ∧ RB.tr.length = nB ∧ (RB.steps : Int) = sB ∧ (RB.reads : Int) = rB) := Lib.hid ⟨hfB, hvB, hnB, hsB, hrB⟩
    have HRB := Lib.hid hRB
    rw [hfB, hvB, hnB, hsB, hrB]
    obtain ⟨W6, p6, hW6, hp6, hB6, hr6⟩ := ResAt.new w5 fB vB A5 nB c5 sB rB
    have HB6 : Hid (Below W0.heap.size W0 W6) := Lib.hid (HB5.out.trans (hB6.mono HB5.out.size))
    have HB46 : Hid (Below W4.heap.size W4 W6) := Lib.hid (hb5.trans (hB6.mono hb5.size))
    have HR4 := Lib.hid (HR4.out.below HB46.out)
    have HR6 := Lib.hid hr6
    have HW56 := Lib.hid hB6
    have hbe := begins_any W6 (RB.rs A5 c5) (RA.rs A3 c3) ⟨HIN5.out.1.tr.below hB6, HIN5.out.1.small⟩ ⟨(HIN3.out.1.tr.below HW34.out).below HB46.out, HIN3.out.1.small⟩ HIN5.out.2.a_none.1 HIN5.out.2.a_none.2.1 HIN5.out.2.a_none.2.2
    have HBE : Hid (Calls Try.prog 13 #[.agg #[.int .i64 fB, .int .i32 vB, .slice A5 nB c5, .int .i64 sB, .int .i64 rB], .agg #[.int .i64 fA, .int .i32 vA, .slice A3 nA c3, .int .i64 sA, .int .i64 rA]] W6 fun e w' => e = .returned (.bool true) ∧ Below W6.heap.size W6 w') := Lib.hid (by
      have e1 : beginsR (RB.rs A5 c5) (RA.rs A3 c3) = true := by
        rcases HMO.out.1 with ⟨h1, h2, h3, h4⟩ | ⟨h1, h2, h3⟩
        · exact beginsR_open RB RA A5 A3 c5 c3 h1 h3 h4
        · rw [h2] at h1 ⊢
          exact beginsR_same RB A5 A3 c5 c3 h1
      rw [e1] at hbe
      unfold PR.rs Rs.val at hbe
      dsimp only at hbe
      rw [hfB, hvB, hnB, hsB, hrB, HEA.out.1, HEA.out.2.1, HEA.out.2.2.1, HEA.out.2.2.2.1, HEA.out.2.2.2.2] at hbe
      exact hbe)
    obtain ⟨_, a0, a1, a2, a3, a4⟩ := HR4.out
    obtain ⟨_, b0, b1, b2, b3, b4⟩ := hr6
    clear hin5 hc5 hb5 hRB hfB hvB hnB hsB hrB hB6 HB5 hbe hW4 hp4 y0 y1 HR HB2 HB46 HW34 HC HF
    go_wp2_with fail
    (with_reducible refine HBE.out.mono ?_)
    rintro e w7 ⟨rfl, hb7⟩
    have HB7 : Hid (Below W0.heap.size W0 w7) := Lib.hid (HB6.out.trans (hb7.mono HB6.out.size))
    have HR4 := Lib.hid (HR4.out.below hb7)
    have HR6 := Lib.hid (HR6.out.below hb7)
    obtain ⟨_, a0, a1, a2, a3, a4⟩ := HR4.out
    obtain ⟨_, b0, b1, b2, b3, b4⟩ := HR6.out
    have HL := Lib.hid (lives12 w7)
    have HI7 : Hid ((RB.rs A5 c5).In w7) := Lib.hid ⟨(HIN5.out.1.tr.below HW56.out).below hb7, HIN5.out.1.small⟩
    have hcase : (fA = 5 ∧ sA = (qn : Int)) ∨ (fA ≠ 5 ∧ fB ≠ 5 ∧ sA = sB ∧ sB ≤ (qn : Int)) := by
      rcases HMO.out.1 with ⟨h1, h2, h3, h4⟩ | ⟨h1, h2, h3⟩
      · exact .inl ⟨by rw [← HEA.out.1]; exact h1, by rw [← HEA.out.2.2.2.1, h2]⟩
      · exact .inr ⟨by rw [← HEA.out.1]; exact h1, by rw [← HEB.out.1, ← h2]; exact h1, by rw [← HEA.out.2.2.2.1, ← HEB.out.2.2.2.1, h2], by rw [← HEB.out.2.2.2.1, ← h2]; omega⟩
    obtain ⟨y0, y1⟩ := HM0.out w7 HB7.out
    have HEND : Hid (Below w.heap.size w w7) := Lib.hid (HB.out.trans (HB7.out.mono HB.out.size))
    clear hb7 hW6 hp6 HBE HR4
    have HRUNC : Hid (fB ≠ 5 → ∀ W, Below w7.heap.size w7 W → Calls Try.prog 10 #[.agg #[.slice GA gn gc, .slice FA fn fc], .slice iA m ic, .int .i64 sB] W fun e w' => ∃ A c, e = .returned (.agg #[.int .i64 fB, .int .i32 vB, .slice A nB c, .int .i64 sB, .int .i64 rB]) ∧ SLine 1 w' A nB c (cellsN RB.tr) ∧ Below W.heap.size W w' ∧ ∀ k ∈ blk A, W.heap.size ≤ k) := Lib.hid (fun h5 W hW => by
      rcases HMO.out.2.1 with h | ⟨h1, h2, h3, h4⟩
      · exact absurd (HEB.out.1.symm.trans h) h5
      · have hl := HMO.out.2.2.2.2
        have hr := HRUN.out HK.out W (HB7.out.trans (hW.mono HB7.out.size)) RB.steps hl
        rw [h3] at hr
        unfold PR.rs Rs.val at hr
        dsimp only at hr
        rw [HEB.out.1, HEB.out.2.1, HEB.out.2.2.1, HEB.out.2.2.2.1, HEB.out.2.2.2.2] at hr
        refine hr.mono fun e w' hq => ?_
        obtain ⟨A, c, rfl, _, hl, hb, hf⟩ := hq
        exact ⟨A, c, rfl, hl, hb, hf⟩)
    have HRUND : Hid (fB ≠ 5 → ∀ W, Below w7.heap.size w7 W → Calls Try.prog 10 #[.agg #[.slice GA gn gc, .slice FA fn fc], .slice iA m ic, .int .i64 (sB - 1)] W fun e w' => ∃ v A n c s r, e = .returned (.agg #[.int .i64 5, .int .i32 v, .slice A n c, .int .i64 s, .int .i64 r]) ∧ Below W.heap.size W w') := Lib.hid (fun h5 W hW => by
      rcases HMO.out.2.1 with h | ⟨h1, h2, h3, h4⟩
      · exact absurd (HEB.out.1.symm.trans h) h5
      · have hl := HMO.out.2.2.2.2
        have hr := HRUN.out HK.out W (HB7.out.trans (hW.mono HB7.out.size)) (RB.steps - 1) (by omega)
        have e1 : ((RB.steps - 1 : Nat) : Int) = sB - 1 := by have := HEB.out.2.2.2.1; omega
        rw [e1] at hr
        unfold PR.rs Rs.val at hr
        dsimp only at hr
        rw [h4] at hr
        refine hr.mono fun e w' hq => ?_
        obtain ⟨A, c, rfl, _, _, hb, _⟩ := hq
        exact ⟨_, A, _, c, _, _, rfl, hb⟩)
    have HSB : Hid (0 ≤ sB ∧ sB ≤ 400) := Lib.hid (by have := HEB.out.2.2.2.1; have := HMO.out.2.2.2.2; omega)
    clear HEA
    have hcase2 : (fA = 5 ∧ sA = (qn : Int) ∧ fB = 5) ∨ (fA = 5 ∧ sA = (qn : Int) ∧ fB ≠ 5) ∨ (fA ≠ 5 ∧ fB ≠ 5 ∧ sA = sB ∧ sB ≤ (qn : Int)) := by
      rcases hcase with ⟨h1, h2⟩ | ⟨h1, h2, h3, h4⟩
      · by_cases h : fB = 5
        · exact .inl ⟨h1, h2, h⟩
        · exact .inr (.inl ⟨h1, h2, h⟩)
      · exact .inr (.inr ⟨h1, h2, h3, h4⟩)
    clear hcase
    rcases hcase2 with ⟨rfl, rfl, rfl⟩ | ⟨rfl, rfl, hb5⟩ | ⟨h5, hb5, hs, hle⟩
    · go_wp2_with fail
      (refine HL.out.mono ?_)
      rintro e w8 ⟨rfl, hb8⟩
      have HB8 := Lib.hid (HEND.out.trans (hb8.mono HEND.out.size))
      go_wp2_with fail
      go_ret
      exact ⟨rfl, HB8.out⟩
    case' inr.inr =>
      have hA1 : (fA == 5) = false := by simp [h5]
      have hA2 : (fA != 5) = true := by simp [h5]
      have hA3 : (sA != sB) = false := by simp [hs]
      have hA4 : ¬ (qn : Int) < sA := by omega
      clear h5 hs hle
    all_goals
      have hbf : (fB == 5) = false := by simp [hb5]
      have HC := Lib.hid (HRUNC.out hb5)
      have HD := Lib.hid (HRUND.out hb5)
      have hs0 := HSB.out.1
      have hs1 := HSB.out.2
      have HMC := Lib.hid (fun (W : World) (hW : Below w7.heap.size w7 W) => HM0.out W (HB7.out.trans (hW.mono HB7.out.size)))
      go_upto_region 10 with fail
      go_cut [9, 10] from 65 to 75 (fun x y wx => ∃ p q, x = .pointer (some ⟨p, 0, none⟩) ∧ y = .pointer (some ⟨q, 0, none⟩) ∧ Hid (MoreFin w7 wx RB fB vB nB sB rB p q))
      case first =>
--REG
        obtain ⟨V0, hV0e⟩ : ∃ V, w7.drew = V := ⟨_, rfl⟩
        have hV0 : Below w7.heap.size w7 V0 := by rw [← hV0e]; exact (Below.refl _ _).drew
        have hsw : IntKind.i64.wrap (sB - 1) = sB - 1 := by rw [IntKind.wrap_i64]; omega
        refine wp_region_held_drew (S := fun w' => Below w7.heap.size w7 w') (by kernel_rfl) (Below.refl _ _).drew (fun _ => ?_)
        rw [hV0e]
        clear hV0e
        refine takeH 0 65 (v := (.agg #[.slice GA gn gc, .slice FA fn fc])) rfl rfl (by kernel_rfl) (by kernel_rfl) (by kernel_rfl) (fun _ _ _ h => h) (by rfl) ?_ hV0 ?_
        · intro w hSw
          obtain ⟨y0, y1⟩ := HMC.out w hSw
          go_simp
        try simp only [Act.put, List.setIfInBounds_toArray, List.set_cons_zero, List.set_cons_succ]
        refine takeH 1 66 (v := (.slice iA m ic)) rfl rfl (by kernel_rfl) (by kernel_rfl) (by kernel_rfl) (fun _ _ _ h => h) (by rfl) ?_ hV0 ?_
        · intro w hSw
          go_simp
        try simp only [Act.put, List.setIfInBounds_toArray, List.set_cons_zero, List.set_cons_succ]
        refine takeH 2 67 (v := (.pointer (some ⟨p6, 3, none⟩))) rfl rfl (by kernel_rfl) (by kernel_rfl) (by kernel_rfl) (fun _ _ _ h => h) (by rfl) ?_ hV0 ?_
        · intro w hSw
          go_simp
        try simp only [Act.put, List.setIfInBounds_toArray, List.set_cons_zero, List.set_cons_succ]
        refine takeH 3 68 (v := (.int .i64 sB)) rfl rfl (by kernel_rfl) (by kernel_rfl) (by kernel_rfl) (fun _ _ _ h => h) (by rfl) ?_ hV0 ?_
        · intro w hSw
          obtain ⟨_, _, _, _, y3, _⟩ := HR6.out.below hSw
          go_simp
        try simp only [Act.put, List.setIfInBounds_toArray, List.set_cons_zero, List.set_cons_succ]
        refine takeH 5 70 (v := (.agg #[.slice GA gn gc, .slice FA fn fc])) rfl rfl (by kernel_rfl) (by kernel_rfl) (by kernel_rfl) (fun _ _ _ h => h) (by rfl) ?_ hV0 ?_
        · intro w hSw
          obtain ⟨y0, y1⟩ := HMC.out w hSw
          go_simp
        try simp only [Act.put, List.setIfInBounds_toArray, List.set_cons_zero, List.set_cons_succ]
        refine takeH 6 71 (v := (.slice iA m ic)) rfl rfl (by kernel_rfl) (by kernel_rfl) (by kernel_rfl) (fun _ _ _ h => h) (by rfl) ?_ hV0 ?_
        · intro w hSw
          go_simp
        try simp only [Act.put, List.setIfInBounds_toArray, List.set_cons_zero, List.set_cons_succ]
        refine takeH 7 72 (v := (.pointer (some ⟨p6, 3, none⟩))) rfl rfl (by kernel_rfl) (by kernel_rfl) (by kernel_rfl) (fun _ _ _ h => h) (by rfl) ?_ hV0 ?_
        · intro w hSw
          go_simp
        try simp only [Act.put, List.setIfInBounds_toArray, List.set_cons_zero, List.set_cons_succ]
        refine takeH 8 73 (v := (.int .i64 sB)) rfl rfl (by kernel_rfl) (by kernel_rfl) (by kernel_rfl) (fun _ _ _ h => h) (by rfl) ?_ hV0 ?_
        · intro w hSw
          obtain ⟨_, _, _, _, y3, _⟩ := HR6.out.below hSw
          go_simp
        try simp only [Act.put, List.setIfInBounds_toArray, List.set_cons_zero, List.set_cons_succ]
        refine takeH 9 74 (v := (.int .i64 (sB - 1))) rfl rfl (by kernel_rfl) (by kernel_rfl) (by kernel_rfl) (fun _ _ _ h => h) (by rfl) ?_ hV0 ?_
        · intro w hSw
          go_simp
        try simp only [Act.put, List.setIfInBounds_toArray, List.set_cons_zero, List.set_cons_succ]
        clear hsw
        refine wpAnyH_ready (rs := [4, 11, 12]) (by kernel_rfl) (by simp) ?_
        refine AllReadyH.cons rfl (fun K hK => ?_) ?_
        · go_simp
          have HCALL := Lib.hid (HC.out V0 hV0)
          go_at_call 10
          with_reducible refine HCALL.out.mono ?_
          rintro e V1 ⟨A8, c8, rfl, L8, hb, F8⟩
          have lV1L8 := L8
          have hV1 := hV0.trans (hb.mono hV0.size)
          try go_wp2_with fail
          refine hK.out _ _ hV1 (fun _ => ?_)
          clear hK K HCALL
          try simp only [Act.put, List.setIfInBounds_toArray, List.set_cons_zero, List.set_cons_succ]
          refine wpAnyH_ready (rs := [10, 11, 12]) (by kernel_rfl) (by simp) ?_
          refine AllReadyH.cons rfl (fun K hK => ?_) ?_
          · go_simp
            have HCALL := Lib.hid (HD.out V1 hV1)
            go_at_call 10
            with_reducible refine HCALL.out.mono ?_
            rintro e V2 ⟨v9, A9, n9, c9, s9, r9, rfl, hb⟩
            have lV2L8 := lV1L8.below hb
            have hV2 := hV1.trans (hb.mono hV1.size)
            try go_wp2_with fail
            refine hK.out _ _ hV2 (fun _ => ?_)
            clear hK K HCALL
            try simp only [Act.put, List.setIfInBounds_toArray, List.set_cons_zero, List.set_cons_succ]
            refine wpAnyH_ready (rs := [11, 12]) (by kernel_rfl) (by simp) ?_
            refine AllReadyH.cons rfl (fun K hK => ?_) ?_
            · go_simp
              have hbA : Below V2.heap.size V2 (V2.alloc (.cells #[.int .i64 0, .int .i32 0, .slice none 0 0, .int .i64 0, .int .i64 0] 32)) := (Below.refl _ _).alloc (Nat.le_refl _) _
              have kV3a9 := heap_alloc_new V2 (.cells #[.int .i64 0, .int .i32 0, .slice none 0 0, .int .i64 0, .int .i64 0] 32)
              have mL8a9 : V2.heap.size ∉ blk A8 := fun hm => by have := lV2L8.lt _ hm; omega
              have lV3L8 := lV2L8.below hbA
              have ga9 := hV2.size
              have hV3 := hV2.trans (hbA.mono hV2.size)
              refine hK.out _ _ hV3 (fun _ => ?_)
              clear hK K hbA
              try simp only [Act.put, List.setIfInBounds_toArray, List.set_cons_zero, List.set_cons_succ]
              generalize V2.alloc (.cells #[.int .i64 0, .int .i32 0, .slice none 0 0, .int .i64 0, .int .i64 0] 32) = V3 at *
              generalize V2.heap.size = a9 at *
              refine wpAnyH_ready (rs := [12]) (by kernel_rfl) (by simp) ?_
              refine AllReadyH.cons rfl (fun K hK => ?_) ?_
              · go_simp
                have hbA : Below V3.heap.size V3 (V3.alloc (.cells #[.int .i64 0, .int .i32 0, .slice none 0 0, .int .i64 0, .int .i64 0] 32)) := (Below.refl _ _).alloc (Nat.le_refl _) _
                have kV4a10 := heap_alloc_new V3 (.cells #[.int .i64 0, .int .i32 0, .slice none 0 0, .int .i64 0, .int .i64 0] 32)
                have kV4a9 := (hbA.block _ (Array.getElem?_eq_some_iff.1 kV3a9).1).trans kV3a9
                have da10a9 : a9 ≠ V3.heap.size := by have := (Array.getElem?_eq_some_iff.1 kV3a9).1; omega
                have mL8a10 : V3.heap.size ∉ blk A8 := fun hm => by have := lV3L8.lt _ hm; omega
                have lV4L8 := lV3L8.below hbA
                have ga10 := hV3.size
                have hV4 := hV3.trans (hbA.mono hV3.size)
                refine hK.out _ _ hV4 (fun _ => ?_)
                clear hK K hbA
                try simp only [Act.put, List.setIfInBounds_toArray, List.set_cons_zero, List.set_cons_succ]
                generalize V3.alloc (.cells #[.int .i64 0, .int .i32 0, .slice none 0 0, .int .i64 0, .int .i64 0] 32) = V4 at *
                generalize V3.heap.size = a10 at *
                obtain ⟨r0, r1, r2, r3, r4⟩ := row5 kV4a9
                obtain ⟨x0, x1, x2, x3, x4⟩ := free5 kV4a9
                obtain ⟨X1, eX1, kX1, cX1⟩ := set5 kV4a9 (.int .i64 fB) (.int .i32 vB) (.slice A8 nB c8) (.int .i64 sB) (.int .i64 rB)
                have kY1 := (cX1.same a10 (Array.getElem?_eq_some_iff.1 kV4a10).1 (fun hm => da10a9 (List.mem_singleton.1 hm).symm)).trans kV4a10
                have hX1 := hV4.trans (cX1.toBelow (fun k hk => by rw [List.mem_singleton] at hk; rw [hk]; exact ga9) hV4.size)
                refine wpAnyH_ready (rs := [13]) (by kernel_rfl) (by simp) ?_
                refine AllReadyH.cons rfl (fun K hK => ?_) AllReadyH.nil
                go_simp
                try rw [eX1]
                refine hK.out _ _ hX1 (fun _ => ?_)
                clear hK K eX1 r0 r1 r2 r3 r4 x0 x1 x2 x3 x4
                try simp only [Act.put, List.setIfInBounds_toArray, List.set_cons_zero, List.set_cons_succ]
                obtain ⟨r0, r1, r2, r3, r4⟩ := row5 kY1
                obtain ⟨x0, x1, x2, x3, x4⟩ := free5 kY1
                obtain ⟨X2, eX2, kX2, cX2⟩ := set5 kY1 (.int .i64 5) (.int .i32 v9) (.slice A9 n9 c9) (.int .i64 s9) (.int .i64 r9)
                have kY2 := (cX2.same a9 (Array.getElem?_eq_some_iff.1 kX1).1 (fun hm => da10a9 (List.mem_singleton.1 hm))).trans kX1
                have hX2 := hX1.trans (cX2.toBelow (fun k hk => by rw [List.mem_singleton] at hk; rw [hk]; exact ga10) hX1.size)
                have lX2 := (lV4L8.chg cX1 (fun k hk hm => mL8a9 (by rw [← List.mem_singleton.1 hm]; exact hk))).chg cX2 (fun k hk hm => mL8a10 (by rw [← List.mem_singleton.1 hm]; exact hk))
                have FIN : MoreFin w7 X2 RB fB vB nB sB rB a9 a10 := ⟨hX2, A8, c8, kY2, lX2, v9, A9, n9, c9, s9, r9, kX2⟩
                refine wpAnyH_ready (rs := [14]) (by kernel_rfl) (by simp) ?_
                refine AllReadyH.cons rfl (fun K hK => ?_) AllReadyH.nil
                go_simp
                try rw [eX2]
                refine hK.out _ _ hX2 (fun _ => ?_)
                clear hK K eX2 r0 r1 r2 r3 r4 x0 x1 x2 x3 x4
                try simp only [Act.put, List.setIfInBounds_toArray, List.set_cons_zero, List.set_cons_succ]
                refine wpAnyH_done (by kernel_rfl) ?_ _
                go_wp2_with fail
                go_meet
                exact ⟨_, _, rfl, rfl, Lib.hid FIN⟩
              exact AllReadyH.nil
            refine AllReadyH.cons rfl (fun K hK => ?_) ?_
            · go_simp
              have hbA : Below V2.heap.size V2 (V2.alloc (.cells #[.int .i64 0, .int .i32 0, .slice none 0 0, .int .i64 0, .int .i64 0] 32)) := (Below.refl _ _).alloc (Nat.le_refl _) _
              have kV5a10 := heap_alloc_new V2 (.cells #[.int .i64 0, .int .i32 0, .slice none 0 0, .int .i64 0, .int .i64 0] 32)
              have mL8a10 : V2.heap.size ∉ blk A8 := fun hm => by have := lV2L8.lt _ hm; omega
              have lV5L8 := lV2L8.below hbA
              have ga10 := hV2.size
              have hV5 := hV2.trans (hbA.mono hV2.size)
              refine hK.out _ _ hV5 (fun _ => ?_)
              clear hK K hbA
              try simp only [Act.put, List.setIfInBounds_toArray, List.set_cons_zero, List.set_cons_succ]
              generalize V2.alloc (.cells #[.int .i64 0, .int .i32 0, .slice none 0 0, .int .i64 0, .int .i64 0] 32) = V5 at *
              generalize V2.heap.size = a10 at *
              refine wpAnyH_ready (rs := [11]) (by kernel_rfl) (by simp) ?_
              refine AllReadyH.cons rfl (fun K hK => ?_) ?_
              · go_simp
                have hbA : Below V5.heap.size V5 (V5.alloc (.cells #[.int .i64 0, .int .i32 0, .slice none 0 0, .int .i64 0, .int .i64 0] 32)) := (Below.refl _ _).alloc (Nat.le_refl _) _
                have kV6a9 := heap_alloc_new V5 (.cells #[.int .i64 0, .int .i32 0, .slice none 0 0, .int .i64 0, .int .i64 0] 32)
                have kV6a10 := (hbA.block _ (Array.getElem?_eq_some_iff.1 kV5a10).1).trans kV5a10
                have da9a10 : a10 ≠ V5.heap.size := by have := (Array.getElem?_eq_some_iff.1 kV5a10).1; omega
                have mL8a9 : V5.heap.size ∉ blk A8 := fun hm => by have := lV5L8.lt _ hm; omega
                have lV6L8 := lV5L8.below hbA
                have ga9 := hV5.size
                have hV6 := hV5.trans (hbA.mono hV5.size)
                refine hK.out _ _ hV6 (fun _ => ?_)
                clear hK K hbA
                try simp only [Act.put, List.setIfInBounds_toArray, List.set_cons_zero, List.set_cons_succ]
                generalize V5.alloc (.cells #[.int .i64 0, .int .i32 0, .slice none 0 0, .int .i64 0, .int .i64 0] 32) = V6 at *
                generalize V5.heap.size = a9 at *
                obtain ⟨r0, r1, r2, r3, r4⟩ := row5 kV6a9
                obtain ⟨x0, x1, x2, x3, x4⟩ := free5 kV6a9
                obtain ⟨X1, eX1, kX1, cX1⟩ := set5 kV6a9 (.int .i64 fB) (.int .i32 vB) (.slice A8 nB c8) (.int .i64 sB) (.int .i64 rB)
                have kY1 := (cX1.same a10 (Array.getElem?_eq_some_iff.1 kV6a10).1 (fun hm => da9a10.symm (List.mem_singleton.1 hm).symm)).trans kV6a10
                have hX1 := hV6.trans (cX1.toBelow (fun k hk => by rw [List.mem_singleton] at hk; rw [hk]; exact ga9) hV6.size)
                refine wpAnyH_ready (rs := [13]) (by kernel_rfl) (by simp) ?_
                refine AllReadyH.cons rfl (fun K hK => ?_) AllReadyH.nil
                go_simp
                try rw [eX1]
                refine hK.out _ _ hX1 (fun _ => ?_)
                clear hK K eX1 r0 r1 r2 r3 r4 x0 x1 x2 x3 x4
                try simp only [Act.put, List.setIfInBounds_toArray, List.set_cons_zero, List.set_cons_succ]
                obtain ⟨r0, r1, r2, r3, r4⟩ := row5 kY1
                obtain ⟨x0, x1, x2, x3, x4⟩ := free5 kY1
                obtain ⟨X2, eX2, kX2, cX2⟩ := set5 kY1 (.int .i64 5) (.int .i32 v9) (.slice A9 n9 c9) (.int .i64 s9) (.int .i64 r9)
                have kY2 := (cX2.same a9 (Array.getElem?_eq_some_iff.1 kX1).1 (fun hm => da9a10.symm (List.mem_singleton.1 hm))).trans kX1
                have hX2 := hX1.trans (cX2.toBelow (fun k hk => by rw [List.mem_singleton] at hk; rw [hk]; exact ga10) hX1.size)
                have lX2 := (lV6L8.chg cX1 (fun k hk hm => mL8a9 (by rw [← List.mem_singleton.1 hm]; exact hk))).chg cX2 (fun k hk hm => mL8a10 (by rw [← List.mem_singleton.1 hm]; exact hk))
                have FIN : MoreFin w7 X2 RB fB vB nB sB rB a9 a10 := ⟨hX2, A8, c8, kY2, lX2, v9, A9, n9, c9, s9, r9, kX2⟩
                refine wpAnyH_ready (rs := [14]) (by kernel_rfl) (by simp) ?_
                refine AllReadyH.cons rfl (fun K hK => ?_) AllReadyH.nil
                go_simp
                try rw [eX2]
                refine hK.out _ _ hX2 (fun _ => ?_)
                clear hK K eX2 r0 r1 r2 r3 r4 x0 x1 x2 x3 x4
                try simp only [Act.put, List.setIfInBounds_toArray, List.set_cons_zero, List.set_cons_succ]
                refine wpAnyH_done (by kernel_rfl) ?_ _
                go_wp2_with fail
                go_meet
                exact ⟨_, _, rfl, rfl, Lib.hid FIN⟩
              exact AllReadyH.nil
            exact AllReadyH.nil
          refine AllReadyH.cons rfl (fun K hK => ?_) ?_
          · go_simp
            have hbA : Below V1.heap.size V1 (V1.alloc (.cells #[.int .i64 0, .int .i32 0, .slice none 0 0, .int .i64 0, .int .i64 0] 32)) := (Below.refl _ _).alloc (Nat.le_refl _) _
            have kV7a9 := heap_alloc_new V1 (.cells #[.int .i64 0, .int .i32 0, .slice none 0 0, .int .i64 0, .int .i64 0] 32)
            have mL8a9 : V1.heap.size ∉ blk A8 := fun hm => by have := lV1L8.lt _ hm; omega
            have lV7L8 := lV1L8.below hbA
            have ga9 := hV1.size
            have hV7 := hV1.trans (hbA.mono hV1.size)
            refine hK.out _ _ hV7 (fun _ => ?_)
            clear hK K hbA
            try simp only [Act.put, List.setIfInBounds_toArray, List.set_cons_zero, List.set_cons_succ]
            generalize V1.alloc (.cells #[.int .i64 0, .int .i32 0, .slice none 0 0, .int .i64 0, .int .i64 0] 32) = V7 at *
            generalize V1.heap.size = a9 at *
            refine wpAnyH_ready (rs := [10, 12]) (by kernel_rfl) (by simp) ?_
            refine AllReadyH.cons rfl (fun K hK => ?_) ?_
            · go_simp
              have HCALL := Lib.hid (HD.out V7 hV7)
              go_at_call 10
              with_reducible refine HCALL.out.mono ?_
              rintro e V8 ⟨v9, A9, n9, c9, s9, r9, rfl, hb⟩
              have lV8L8 := lV7L8.below hb
              have hV8 := hV7.trans (hb.mono hV7.size)
              have kV8a9 := (hb.block _ (Array.getElem?_eq_some_iff.1 kV7a9).1).trans kV7a9
              try go_wp2_with fail
              refine hK.out _ _ hV8 (fun _ => ?_)
              clear hK K HCALL
              try simp only [Act.put, List.setIfInBounds_toArray, List.set_cons_zero, List.set_cons_succ]
              refine wpAnyH_ready (rs := [12]) (by kernel_rfl) (by simp) ?_
              refine AllReadyH.cons rfl (fun K hK => ?_) ?_
              · go_simp
                have hbA : Below V8.heap.size V8 (V8.alloc (.cells #[.int .i64 0, .int .i32 0, .slice none 0 0, .int .i64 0, .int .i64 0] 32)) := (Below.refl _ _).alloc (Nat.le_refl _) _
                have kV9a10 := heap_alloc_new V8 (.cells #[.int .i64 0, .int .i32 0, .slice none 0 0, .int .i64 0, .int .i64 0] 32)
                have kV9a9 := (hbA.block _ (Array.getElem?_eq_some_iff.1 kV8a9).1).trans kV8a9
                have da10a9 : a9 ≠ V8.heap.size := by have := (Array.getElem?_eq_some_iff.1 kV8a9).1; omega
                have mL8a10 : V8.heap.size ∉ blk A8 := fun hm => by have := lV8L8.lt _ hm; omega
                have lV9L8 := lV8L8.below hbA
                have ga10 := hV8.size
                have hV9 := hV8.trans (hbA.mono hV8.size)
                refine hK.out _ _ hV9 (fun _ => ?_)
                clear hK K hbA
                try simp only [Act.put, List.setIfInBounds_toArray, List.set_cons_zero, List.set_cons_succ]
                generalize V8.alloc (.cells #[.int .i64 0, .int .i32 0, .slice none 0 0, .int .i64 0, .int .i64 0] 32) = V9 at *
                generalize V8.heap.size = a10 at *
                obtain ⟨r0, r1, r2, r3, r4⟩ := row5 kV9a9
                obtain ⟨x0, x1, x2, x3, x4⟩ := free5 kV9a9
                obtain ⟨X1, eX1, kX1, cX1⟩ := set5 kV9a9 (.int .i64 fB) (.int .i32 vB) (.slice A8 nB c8) (.int .i64 sB) (.int .i64 rB)
                have kY1 := (cX1.same a10 (Array.getElem?_eq_some_iff.1 kV9a10).1 (fun hm => da10a9 (List.mem_singleton.1 hm).symm)).trans kV9a10
                have hX1 := hV9.trans (cX1.toBelow (fun k hk => by rw [List.mem_singleton] at hk; rw [hk]; exact ga9) hV9.size)
                refine wpAnyH_ready (rs := [13]) (by kernel_rfl) (by simp) ?_
                refine AllReadyH.cons rfl (fun K hK => ?_) AllReadyH.nil
                go_simp
                try rw [eX1]
                refine hK.out _ _ hX1 (fun _ => ?_)
                clear hK K eX1 r0 r1 r2 r3 r4 x0 x1 x2 x3 x4
                try simp only [Act.put, List.setIfInBounds_toArray, List.set_cons_zero, List.set_cons_succ]
                obtain ⟨r0, r1, r2, r3, r4⟩ := row5 kY1
                obtain ⟨x0, x1, x2, x3, x4⟩ := free5 kY1
                obtain ⟨X2, eX2, kX2, cX2⟩ := set5 kY1 (.int .i64 5) (.int .i32 v9) (.slice A9 n9 c9) (.int .i64 s9) (.int .i64 r9)
                have kY2 := (cX2.same a9 (Array.getElem?_eq_some_iff.1 kX1).1 (fun hm => da10a9 (List.mem_singleton.1 hm))).trans kX1
                have hX2 := hX1.trans (cX2.toBelow (fun k hk => by rw [List.mem_singleton] at hk; rw [hk]; exact ga10) hX1.size)
                have lX2 := (lV9L8.chg cX1 (fun k hk hm => mL8a9 (by rw [← List.mem_singleton.1 hm]; exact hk))).chg cX2 (fun k hk hm => mL8a10 (by rw [← List.mem_singleton.1 hm]; exact hk))
                have FIN : MoreFin w7 X2 RB fB vB nB sB rB a9 a10 := ⟨hX2, A8, c8, kY2, lX2, v9, A9, n9, c9, s9, r9, kX2⟩
                refine wpAnyH_ready (rs := [14]) (by kernel_rfl) (by simp) ?_
                refine AllReadyH.cons rfl (fun K hK => ?_) AllReadyH.nil
                go_simp
                try rw [eX2]
                refine hK.out _ _ hX2 (fun _ => ?_)
                clear hK K eX2 r0 r1 r2 r3 r4 x0 x1 x2 x3 x4
                try simp only [Act.put, List.setIfInBounds_toArray, List.set_cons_zero, List.set_cons_succ]
                refine wpAnyH_done (by kernel_rfl) ?_ _
                go_wp2_with fail
                go_meet
                exact ⟨_, _, rfl, rfl, Lib.hid FIN⟩
              exact AllReadyH.nil
            refine AllReadyH.cons rfl (fun K hK => ?_) ?_
            · go_simp
              have hbA : Below V7.heap.size V7 (V7.alloc (.cells #[.int .i64 0, .int .i32 0, .slice none 0 0, .int .i64 0, .int .i64 0] 32)) := (Below.refl _ _).alloc (Nat.le_refl _) _
              have kV10a10 := heap_alloc_new V7 (.cells #[.int .i64 0, .int .i32 0, .slice none 0 0, .int .i64 0, .int .i64 0] 32)
              have kV10a9 := (hbA.block _ (Array.getElem?_eq_some_iff.1 kV7a9).1).trans kV7a9
              have da10a9 : a9 ≠ V7.heap.size := by have := (Array.getElem?_eq_some_iff.1 kV7a9).1; omega
              have mL8a10 : V7.heap.size ∉ blk A8 := fun hm => by have := lV7L8.lt _ hm; omega
              have lV10L8 := lV7L8.below hbA
              have ga10 := hV7.size
              have hV10 := hV7.trans (hbA.mono hV7.size)
              refine hK.out _ _ hV10 (fun _ => ?_)
              clear hK K hbA
              try simp only [Act.put, List.setIfInBounds_toArray, List.set_cons_zero, List.set_cons_succ]
              generalize V7.alloc (.cells #[.int .i64 0, .int .i32 0, .slice none 0 0, .int .i64 0, .int .i64 0] 32) = V10 at *
              generalize V7.heap.size = a10 at *
              refine wpAnyH_ready (rs := [10]) (by kernel_rfl) (by simp) ?_
              refine AllReadyH.cons rfl (fun K hK => ?_) ?_
              · go_simp
                have HCALL := Lib.hid (HD.out V10 hV10)
                go_at_call 10
                with_reducible refine HCALL.out.mono ?_
                rintro e V11 ⟨v9, A9, n9, c9, s9, r9, rfl, hb⟩
                have lV11L8 := lV10L8.below hb
                have hV11 := hV10.trans (hb.mono hV10.size)
                have kV11a9 := (hb.block _ (Array.getElem?_eq_some_iff.1 kV10a9).1).trans kV10a9
                have kV11a10 := (hb.block _ (Array.getElem?_eq_some_iff.1 kV10a10).1).trans kV10a10
                try go_wp2_with fail
                refine hK.out _ _ hV11 (fun _ => ?_)
                clear hK K HCALL
                try simp only [Act.put, List.setIfInBounds_toArray, List.set_cons_zero, List.set_cons_succ]
                obtain ⟨r0, r1, r2, r3, r4⟩ := row5 kV11a9
                obtain ⟨x0, x1, x2, x3, x4⟩ := free5 kV11a9
                obtain ⟨X1, eX1, kX1, cX1⟩ := set5 kV11a9 (.int .i64 fB) (.int .i32 vB) (.slice A8 nB c8) (.int .i64 sB) (.int .i64 rB)
                have kY1 := (cX1.same a10 (Array.getElem?_eq_some_iff.1 kV11a10).1 (fun hm => da10a9 (List.mem_singleton.1 hm).symm)).trans kV11a10
                have hX1 := hV11.trans (cX1.toBelow (fun k hk => by rw [List.mem_singleton] at hk; rw [hk]; exact ga9) hV11.size)
                refine wpAnyH_ready (rs := [13]) (by kernel_rfl) (by simp) ?_
                refine AllReadyH.cons rfl (fun K hK => ?_) AllReadyH.nil
                go_simp
                try rw [eX1]
                refine hK.out _ _ hX1 (fun _ => ?_)
                clear hK K eX1 r0 r1 r2 r3 r4 x0 x1 x2 x3 x4
                try simp only [Act.put, List.setIfInBounds_toArray, List.set_cons_zero, List.set_cons_succ]
                obtain ⟨r0, r1, r2, r3, r4⟩ := row5 kY1
                obtain ⟨x0, x1, x2, x3, x4⟩ := free5 kY1
                obtain ⟨X2, eX2, kX2, cX2⟩ := set5 kY1 (.int .i64 5) (.int .i32 v9) (.slice A9 n9 c9) (.int .i64 s9) (.int .i64 r9)
                have kY2 := (cX2.same a9 (Array.getElem?_eq_some_iff.1 kX1).1 (fun hm => da10a9 (List.mem_singleton.1 hm))).trans kX1
                have hX2 := hX1.trans (cX2.toBelow (fun k hk => by rw [List.mem_singleton] at hk; rw [hk]; exact ga10) hX1.size)
                have lX2 := (lV11L8.chg cX1 (fun k hk hm => mL8a9 (by rw [← List.mem_singleton.1 hm]; exact hk))).chg cX2 (fun k hk hm => mL8a10 (by rw [← List.mem_singleton.1 hm]; exact hk))
                have FIN : MoreFin w7 X2 RB fB vB nB sB rB a9 a10 := ⟨hX2, A8, c8, kY2, lX2, v9, A9, n9, c9, s9, r9, kX2⟩
                refine wpAnyH_ready (rs := [14]) (by kernel_rfl) (by simp) ?_
                refine AllReadyH.cons rfl (fun K hK => ?_) AllReadyH.nil
                go_simp
                try rw [eX2]
                refine hK.out _ _ hX2 (fun _ => ?_)
                clear hK K eX2 r0 r1 r2 r3 r4 x0 x1 x2 x3 x4
                try simp only [Act.put, List.setIfInBounds_toArray, List.set_cons_zero, List.set_cons_succ]
                refine wpAnyH_done (by kernel_rfl) ?_ _
                go_wp2_with fail
                go_meet
                exact ⟨_, _, rfl, rfl, Lib.hid FIN⟩
              exact AllReadyH.nil
            exact AllReadyH.nil
          refine AllReadyH.cons rfl (fun K hK => ?_) ?_
          · go_simp
            have hbA : Below V1.heap.size V1 (V1.alloc (.cells #[.int .i64 0, .int .i32 0, .slice none 0 0, .int .i64 0, .int .i64 0] 32)) := (Below.refl _ _).alloc (Nat.le_refl _) _
            have kV12a10 := heap_alloc_new V1 (.cells #[.int .i64 0, .int .i32 0, .slice none 0 0, .int .i64 0, .int .i64 0] 32)
            have mL8a10 : V1.heap.size ∉ blk A8 := fun hm => by have := lV1L8.lt _ hm; omega
            have lV12L8 := lV1L8.below hbA
            have ga10 := hV1.size
            have hV12 := hV1.trans (hbA.mono hV1.size)
            refine hK.out _ _ hV12 (fun _ => ?_)
            clear hK K hbA
            try simp only [Act.put, List.setIfInBounds_toArray, List.set_cons_zero, List.set_cons_succ]
            generalize V1.alloc (.cells #[.int .i64 0, .int .i32 0, .slice none 0 0, .int .i64 0, .int .i64 0] 32) = V12 at *
            generalize V1.heap.size = a10 at *
            refine wpAnyH_ready (rs := [10, 11]) (by kernel_rfl) (by simp) ?_
            refine AllReadyH.cons rfl (fun K hK => ?_) ?_
            · go_simp
              have HCALL := Lib.hid (HD.out V12 hV12)
              go_at_call 10
              with_reducible refine HCALL.out.mono ?_
              rintro e V13 ⟨v9, A9, n9, c9, s9, r9, rfl, hb⟩
              have lV13L8 := lV12L8.below hb
              have hV13 := hV12.trans (hb.mono hV12.size)
              have kV13a10 := (hb.block _ (Array.getElem?_eq_some_iff.1 kV12a10).1).trans kV12a10
              try go_wp2_with fail
              refine hK.out _ _ hV13 (fun _ => ?_)
              clear hK K HCALL
              try simp only [Act.put, List.setIfInBounds_toArray, List.set_cons_zero, List.set_cons_succ]
              refine wpAnyH_ready (rs := [11]) (by kernel_rfl) (by simp) ?_
              refine AllReadyH.cons rfl (fun K hK => ?_) ?_
              · go_simp
                have hbA : Below V13.heap.size V13 (V13.alloc (.cells #[.int .i64 0, .int .i32 0, .slice none 0 0, .int .i64 0, .int .i64 0] 32)) := (Below.refl _ _).alloc (Nat.le_refl _) _
                have kV14a9 := heap_alloc_new V13 (.cells #[.int .i64 0, .int .i32 0, .slice none 0 0, .int .i64 0, .int .i64 0] 32)
                have kV14a10 := (hbA.block _ (Array.getElem?_eq_some_iff.1 kV13a10).1).trans kV13a10
                have da9a10 : a10 ≠ V13.heap.size := by have := (Array.getElem?_eq_some_iff.1 kV13a10).1; omega
                have mL8a9 : V13.heap.size ∉ blk A8 := fun hm => by have := lV13L8.lt _ hm; omega
                have lV14L8 := lV13L8.below hbA
                have ga9 := hV13.size
                have hV14 := hV13.trans (hbA.mono hV13.size)
                refine hK.out _ _ hV14 (fun _ => ?_)
                clear hK K hbA
                try simp only [Act.put, List.setIfInBounds_toArray, List.set_cons_zero, List.set_cons_succ]
                generalize V13.alloc (.cells #[.int .i64 0, .int .i32 0, .slice none 0 0, .int .i64 0, .int .i64 0] 32) = V14 at *
                generalize V13.heap.size = a9 at *
                obtain ⟨r0, r1, r2, r3, r4⟩ := row5 kV14a9
                obtain ⟨x0, x1, x2, x3, x4⟩ := free5 kV14a9
                obtain ⟨X1, eX1, kX1, cX1⟩ := set5 kV14a9 (.int .i64 fB) (.int .i32 vB) (.slice A8 nB c8) (.int .i64 sB) (.int .i64 rB)
                have kY1 := (cX1.same a10 (Array.getElem?_eq_some_iff.1 kV14a10).1 (fun hm => da9a10.symm (List.mem_singleton.1 hm).symm)).trans kV14a10
                have hX1 := hV14.trans (cX1.toBelow (fun k hk => by rw [List.mem_singleton] at hk; rw [hk]; exact ga9) hV14.size)
                refine wpAnyH_ready (rs := [13]) (by kernel_rfl) (by simp) ?_
                refine AllReadyH.cons rfl (fun K hK => ?_) AllReadyH.nil
                go_simp
                try rw [eX1]
                refine hK.out _ _ hX1 (fun _ => ?_)
                clear hK K eX1 r0 r1 r2 r3 r4 x0 x1 x2 x3 x4
                try simp only [Act.put, List.setIfInBounds_toArray, List.set_cons_zero, List.set_cons_succ]
                obtain ⟨r0, r1, r2, r3, r4⟩ := row5 kY1
                obtain ⟨x0, x1, x2, x3, x4⟩ := free5 kY1
                obtain ⟨X2, eX2, kX2, cX2⟩ := set5 kY1 (.int .i64 5) (.int .i32 v9) (.slice A9 n9 c9) (.int .i64 s9) (.int .i64 r9)
                have kY2 := (cX2.same a9 (Array.getElem?_eq_some_iff.1 kX1).1 (fun hm => da9a10.symm (List.mem_singleton.1 hm))).trans kX1
                have hX2 := hX1.trans (cX2.toBelow (fun k hk => by rw [List.mem_singleton] at hk; rw [hk]; exact ga10) hX1.size)
                have lX2 := (lV14L8.chg cX1 (fun k hk hm => mL8a9 (by rw [← List.mem_singleton.1 hm]; exact hk))).chg cX2 (fun k hk hm => mL8a10 (by rw [← List.mem_singleton.1 hm]; exact hk))
                have FIN : MoreFin w7 X2 RB fB vB nB sB rB a9 a10 := ⟨hX2, A8, c8, kY2, lX2, v9, A9, n9, c9, s9, r9, kX2⟩
                refine wpAnyH_ready (rs := [14]) (by kernel_rfl) (by simp) ?_
                refine AllReadyH.cons rfl (fun K hK => ?_) AllReadyH.nil
                go_simp
                try rw [eX2]
                refine hK.out _ _ hX2 (fun _ => ?_)
                clear hK K eX2 r0 r1 r2 r3 r4 x0 x1 x2 x3 x4
                try simp only [Act.put, List.setIfInBounds_toArray, List.set_cons_zero, List.set_cons_succ]
                refine wpAnyH_done (by kernel_rfl) ?_ _
                go_wp2_with fail
                go_meet
                exact ⟨_, _, rfl, rfl, Lib.hid FIN⟩
              exact AllReadyH.nil
            refine AllReadyH.cons rfl (fun K hK => ?_) ?_
            · go_simp
              have hbA : Below V12.heap.size V12 (V12.alloc (.cells #[.int .i64 0, .int .i32 0, .slice none 0 0, .int .i64 0, .int .i64 0] 32)) := (Below.refl _ _).alloc (Nat.le_refl _) _
              have kV15a9 := heap_alloc_new V12 (.cells #[.int .i64 0, .int .i32 0, .slice none 0 0, .int .i64 0, .int .i64 0] 32)
              have kV15a10 := (hbA.block _ (Array.getElem?_eq_some_iff.1 kV12a10).1).trans kV12a10
              have da9a10 : a10 ≠ V12.heap.size := by have := (Array.getElem?_eq_some_iff.1 kV12a10).1; omega
              have mL8a9 : V12.heap.size ∉ blk A8 := fun hm => by have := lV12L8.lt _ hm; omega
              have lV15L8 := lV12L8.below hbA
              have ga9 := hV12.size
              have hV15 := hV12.trans (hbA.mono hV12.size)
              refine hK.out _ _ hV15 (fun _ => ?_)
              clear hK K hbA
              try simp only [Act.put, List.setIfInBounds_toArray, List.set_cons_zero, List.set_cons_succ]
              generalize V12.alloc (.cells #[.int .i64 0, .int .i32 0, .slice none 0 0, .int .i64 0, .int .i64 0] 32) = V15 at *
              generalize V12.heap.size = a9 at *
              refine wpAnyH_ready (rs := [10]) (by kernel_rfl) (by simp) ?_
              refine AllReadyH.cons rfl (fun K hK => ?_) ?_
              · go_simp
                have HCALL := Lib.hid (HD.out V15 hV15)
                go_at_call 10
                with_reducible refine HCALL.out.mono ?_
                rintro e V16 ⟨v9, A9, n9, c9, s9, r9, rfl, hb⟩
                have lV16L8 := lV15L8.below hb
                have hV16 := hV15.trans (hb.mono hV15.size)
                have kV16a10 := (hb.block _ (Array.getElem?_eq_some_iff.1 kV15a10).1).trans kV15a10
                have kV16a9 := (hb.block _ (Array.getElem?_eq_some_iff.1 kV15a9).1).trans kV15a9
                try go_wp2_with fail
                refine hK.out _ _ hV16 (fun _ => ?_)
                clear hK K HCALL
                try simp only [Act.put, List.setIfInBounds_toArray, List.set_cons_zero, List.set_cons_succ]
                obtain ⟨r0, r1, r2, r3, r4⟩ := row5 kV16a9
                obtain ⟨x0, x1, x2, x3, x4⟩ := free5 kV16a9
                obtain ⟨X1, eX1, kX1, cX1⟩ := set5 kV16a9 (.int .i64 fB) (.int .i32 vB) (.slice A8 nB c8) (.int .i64 sB) (.int .i64 rB)
                have kY1 := (cX1.same a10 (Array.getElem?_eq_some_iff.1 kV16a10).1 (fun hm => da9a10.symm (List.mem_singleton.1 hm).symm)).trans kV16a10
                have hX1 := hV16.trans (cX1.toBelow (fun k hk => by rw [List.mem_singleton] at hk; rw [hk]; exact ga9) hV16.size)
                refine wpAnyH_ready (rs := [13]) (by kernel_rfl) (by simp) ?_
                refine AllReadyH.cons rfl (fun K hK => ?_) AllReadyH.nil
                go_simp
                try rw [eX1]
                refine hK.out _ _ hX1 (fun _ => ?_)
                clear hK K eX1 r0 r1 r2 r3 r4 x0 x1 x2 x3 x4
                try simp only [Act.put, List.setIfInBounds_toArray, List.set_cons_zero, List.set_cons_succ]
                obtain ⟨r0, r1, r2, r3, r4⟩ := row5 kY1
                obtain ⟨x0, x1, x2, x3, x4⟩ := free5 kY1
                obtain ⟨X2, eX2, kX2, cX2⟩ := set5 kY1 (.int .i64 5) (.int .i32 v9) (.slice A9 n9 c9) (.int .i64 s9) (.int .i64 r9)
                have kY2 := (cX2.same a9 (Array.getElem?_eq_some_iff.1 kX1).1 (fun hm => da9a10.symm (List.mem_singleton.1 hm))).trans kX1
                have hX2 := hX1.trans (cX2.toBelow (fun k hk => by rw [List.mem_singleton] at hk; rw [hk]; exact ga10) hX1.size)
                have lX2 := (lV16L8.chg cX1 (fun k hk hm => mL8a9 (by rw [← List.mem_singleton.1 hm]; exact hk))).chg cX2 (fun k hk hm => mL8a10 (by rw [← List.mem_singleton.1 hm]; exact hk))
                have FIN : MoreFin w7 X2 RB fB vB nB sB rB a9 a10 := ⟨hX2, A8, c8, kY2, lX2, v9, A9, n9, c9, s9, r9, kX2⟩
                refine wpAnyH_ready (rs := [14]) (by kernel_rfl) (by simp) ?_
                refine AllReadyH.cons rfl (fun K hK => ?_) AllReadyH.nil
                go_simp
                try rw [eX2]
                refine hK.out _ _ hX2 (fun _ => ?_)
                clear hK K eX2 r0 r1 r2 r3 r4 x0 x1 x2 x3 x4
                try simp only [Act.put, List.setIfInBounds_toArray, List.set_cons_zero, List.set_cons_succ]
                refine wpAnyH_done (by kernel_rfl) ?_ _
                go_wp2_with fail
                go_meet
                exact ⟨_, _, rfl, rfl, Lib.hid FIN⟩
              exact AllReadyH.nil
            exact AllReadyH.nil
          exact AllReadyH.nil
        refine AllReadyH.cons rfl (fun K hK => ?_) ?_
        · go_simp
          have hbA : Below V0.heap.size V0 (V0.alloc (.cells #[.int .i64 0, .int .i32 0, .slice none 0 0, .int .i64 0, .int .i64 0] 32)) := (Below.refl _ _).alloc (Nat.le_refl _) _
          have kV17a9 := heap_alloc_new V0 (.cells #[.int .i64 0, .int .i32 0, .slice none 0 0, .int .i64 0, .int .i64 0] 32)
          have ga9 := hV0.size
          have hV17 := hV0.trans (hbA.mono hV0.size)
          refine hK.out _ _ hV17 (fun _ => ?_)
          clear hK K hbA
          try simp only [Act.put, List.setIfInBounds_toArray, List.set_cons_zero, List.set_cons_succ]
          generalize V0.alloc (.cells #[.int .i64 0, .int .i32 0, .slice none 0 0, .int .i64 0, .int .i64 0] 32) = V17 at *
          generalize V0.heap.size = a9 at *
          refine wpAnyH_ready (rs := [4, 12]) (by kernel_rfl) (by simp) ?_
          refine AllReadyH.cons rfl (fun K hK => ?_) ?_
          · go_simp
            have HCALL := Lib.hid (HC.out V17 hV17)
            go_at_call 10
            with_reducible refine HCALL.out.mono ?_
            rintro e V18 ⟨A8, c8, rfl, L8, hb, F8⟩
            have mL8a9 : a9 ∉ blk A8 := fun hm => by have := F8 _ hm; have := (Array.getElem?_eq_some_iff.1 kV17a9).1; omega
            have lV18L8 := L8
            have hV18 := hV17.trans (hb.mono hV17.size)
            have kV18a9 := (hb.block _ (Array.getElem?_eq_some_iff.1 kV17a9).1).trans kV17a9
            try go_wp2_with fail
            refine hK.out _ _ hV18 (fun _ => ?_)
            clear hK K HCALL
            try simp only [Act.put, List.setIfInBounds_toArray, List.set_cons_zero, List.set_cons_succ]
            refine wpAnyH_ready (rs := [10, 12]) (by kernel_rfl) (by simp) ?_
            refine AllReadyH.cons rfl (fun K hK => ?_) ?_
            · go_simp
              have HCALL := Lib.hid (HD.out V18 hV18)
              go_at_call 10
              with_reducible refine HCALL.out.mono ?_
              rintro e V19 ⟨v9, A9, n9, c9, s9, r9, rfl, hb⟩
              have lV19L8 := lV18L8.below hb
              have hV19 := hV18.trans (hb.mono hV18.size)
              have kV19a9 := (hb.block _ (Array.getElem?_eq_some_iff.1 kV18a9).1).trans kV18a9
              try go_wp2_with fail
              refine hK.out _ _ hV19 (fun _ => ?_)
              clear hK K HCALL
              try simp only [Act.put, List.setIfInBounds_toArray, List.set_cons_zero, List.set_cons_succ]
              refine wpAnyH_ready (rs := [12]) (by kernel_rfl) (by simp) ?_
              refine AllReadyH.cons rfl (fun K hK => ?_) ?_
              · go_simp
                have hbA : Below V19.heap.size V19 (V19.alloc (.cells #[.int .i64 0, .int .i32 0, .slice none 0 0, .int .i64 0, .int .i64 0] 32)) := (Below.refl _ _).alloc (Nat.le_refl _) _
                have kV20a10 := heap_alloc_new V19 (.cells #[.int .i64 0, .int .i32 0, .slice none 0 0, .int .i64 0, .int .i64 0] 32)
                have kV20a9 := (hbA.block _ (Array.getElem?_eq_some_iff.1 kV19a9).1).trans kV19a9
                have da10a9 : a9 ≠ V19.heap.size := by have := (Array.getElem?_eq_some_iff.1 kV19a9).1; omega
                have mL8a10 : V19.heap.size ∉ blk A8 := fun hm => by have := lV19L8.lt _ hm; omega
                have lV20L8 := lV19L8.below hbA
                have ga10 := hV19.size
                have hV20 := hV19.trans (hbA.mono hV19.size)
                refine hK.out _ _ hV20 (fun _ => ?_)
                clear hK K hbA
                try simp only [Act.put, List.setIfInBounds_toArray, List.set_cons_zero, List.set_cons_succ]
                generalize V19.alloc (.cells #[.int .i64 0, .int .i32 0, .slice none 0 0, .int .i64 0, .int .i64 0] 32) = V20 at *
                generalize V19.heap.size = a10 at *
                obtain ⟨r0, r1, r2, r3, r4⟩ := row5 kV20a9
                obtain ⟨x0, x1, x2, x3, x4⟩ := free5 kV20a9
                obtain ⟨X1, eX1, kX1, cX1⟩ := set5 kV20a9 (.int .i64 fB) (.int .i32 vB) (.slice A8 nB c8) (.int .i64 sB) (.int .i64 rB)
                have kY1 := (cX1.same a10 (Array.getElem?_eq_some_iff.1 kV20a10).1 (fun hm => da10a9 (List.mem_singleton.1 hm).symm)).trans kV20a10
                have hX1 := hV20.trans (cX1.toBelow (fun k hk => by rw [List.mem_singleton] at hk; rw [hk]; exact ga9) hV20.size)
                refine wpAnyH_ready (rs := [13]) (by kernel_rfl) (by simp) ?_
                refine AllReadyH.cons rfl (fun K hK => ?_) AllReadyH.nil
                go_simp
                try rw [eX1]
                refine hK.out _ _ hX1 (fun _ => ?_)
                clear hK K eX1 r0 r1 r2 r3 r4 x0 x1 x2 x3 x4
                try simp only [Act.put, List.setIfInBounds_toArray, List.set_cons_zero, List.set_cons_succ]
                obtain ⟨r0, r1, r2, r3, r4⟩ := row5 kY1
                obtain ⟨x0, x1, x2, x3, x4⟩ := free5 kY1
                obtain ⟨X2, eX2, kX2, cX2⟩ := set5 kY1 (.int .i64 5) (.int .i32 v9) (.slice A9 n9 c9) (.int .i64 s9) (.int .i64 r9)
                have kY2 := (cX2.same a9 (Array.getElem?_eq_some_iff.1 kX1).1 (fun hm => da10a9 (List.mem_singleton.1 hm))).trans kX1
                have hX2 := hX1.trans (cX2.toBelow (fun k hk => by rw [List.mem_singleton] at hk; rw [hk]; exact ga10) hX1.size)
                have lX2 := (lV20L8.chg cX1 (fun k hk hm => mL8a9 (by rw [← List.mem_singleton.1 hm]; exact hk))).chg cX2 (fun k hk hm => mL8a10 (by rw [← List.mem_singleton.1 hm]; exact hk))
                have FIN : MoreFin w7 X2 RB fB vB nB sB rB a9 a10 := ⟨hX2, A8, c8, kY2, lX2, v9, A9, n9, c9, s9, r9, kX2⟩
                refine wpAnyH_ready (rs := [14]) (by kernel_rfl) (by simp) ?_
                refine AllReadyH.cons rfl (fun K hK => ?_) AllReadyH.nil
                go_simp
                try rw [eX2]
                refine hK.out _ _ hX2 (fun _ => ?_)
                clear hK K eX2 r0 r1 r2 r3 r4 x0 x1 x2 x3 x4
                try simp only [Act.put, List.setIfInBounds_toArray, List.set_cons_zero, List.set_cons_succ]
                refine wpAnyH_done (by kernel_rfl) ?_ _
                go_wp2_with fail
                go_meet
                exact ⟨_, _, rfl, rfl, Lib.hid FIN⟩
              exact AllReadyH.nil
            refine AllReadyH.cons rfl (fun K hK => ?_) ?_
            · go_simp
              have hbA : Below V18.heap.size V18 (V18.alloc (.cells #[.int .i64 0, .int .i32 0, .slice none 0 0, .int .i64 0, .int .i64 0] 32)) := (Below.refl _ _).alloc (Nat.le_refl _) _
              have kV21a10 := heap_alloc_new V18 (.cells #[.int .i64 0, .int .i32 0, .slice none 0 0, .int .i64 0, .int .i64 0] 32)
              have kV21a9 := (hbA.block _ (Array.getElem?_eq_some_iff.1 kV18a9).1).trans kV18a9
              have da10a9 : a9 ≠ V18.heap.size := by have := (Array.getElem?_eq_some_iff.1 kV18a9).1; omega
              have mL8a10 : V18.heap.size ∉ blk A8 := fun hm => by have := lV18L8.lt _ hm; omega
              have lV21L8 := lV18L8.below hbA
              have ga10 := hV18.size
              have hV21 := hV18.trans (hbA.mono hV18.size)
              refine hK.out _ _ hV21 (fun _ => ?_)
              clear hK K hbA
              try simp only [Act.put, List.setIfInBounds_toArray, List.set_cons_zero, List.set_cons_succ]
              generalize V18.alloc (.cells #[.int .i64 0, .int .i32 0, .slice none 0 0, .int .i64 0, .int .i64 0] 32) = V21 at *
              generalize V18.heap.size = a10 at *
              refine wpAnyH_ready (rs := [10]) (by kernel_rfl) (by simp) ?_
              refine AllReadyH.cons rfl (fun K hK => ?_) ?_
              · go_simp
                have HCALL := Lib.hid (HD.out V21 hV21)
                go_at_call 10
                with_reducible refine HCALL.out.mono ?_
                rintro e V22 ⟨v9, A9, n9, c9, s9, r9, rfl, hb⟩
                have lV22L8 := lV21L8.below hb
                have hV22 := hV21.trans (hb.mono hV21.size)
                have kV22a9 := (hb.block _ (Array.getElem?_eq_some_iff.1 kV21a9).1).trans kV21a9
                have kV22a10 := (hb.block _ (Array.getElem?_eq_some_iff.1 kV21a10).1).trans kV21a10
                try go_wp2_with fail
                refine hK.out _ _ hV22 (fun _ => ?_)
                clear hK K HCALL
                try simp only [Act.put, List.setIfInBounds_toArray, List.set_cons_zero, List.set_cons_succ]
                obtain ⟨r0, r1, r2, r3, r4⟩ := row5 kV22a9
                obtain ⟨x0, x1, x2, x3, x4⟩ := free5 kV22a9
                obtain ⟨X1, eX1, kX1, cX1⟩ := set5 kV22a9 (.int .i64 fB) (.int .i32 vB) (.slice A8 nB c8) (.int .i64 sB) (.int .i64 rB)
                have kY1 := (cX1.same a10 (Array.getElem?_eq_some_iff.1 kV22a10).1 (fun hm => da10a9 (List.mem_singleton.1 hm).symm)).trans kV22a10
                have hX1 := hV22.trans (cX1.toBelow (fun k hk => by rw [List.mem_singleton] at hk; rw [hk]; exact ga9) hV22.size)
                refine wpAnyH_ready (rs := [13]) (by kernel_rfl) (by simp) ?_
                refine AllReadyH.cons rfl (fun K hK => ?_) AllReadyH.nil
                go_simp
                try rw [eX1]
                refine hK.out _ _ hX1 (fun _ => ?_)
                clear hK K eX1 r0 r1 r2 r3 r4 x0 x1 x2 x3 x4
                try simp only [Act.put, List.setIfInBounds_toArray, List.set_cons_zero, List.set_cons_succ]
                obtain ⟨r0, r1, r2, r3, r4⟩ := row5 kY1
                obtain ⟨x0, x1, x2, x3, x4⟩ := free5 kY1
                obtain ⟨X2, eX2, kX2, cX2⟩ := set5 kY1 (.int .i64 5) (.int .i32 v9) (.slice A9 n9 c9) (.int .i64 s9) (.int .i64 r9)
                have kY2 := (cX2.same a9 (Array.getElem?_eq_some_iff.1 kX1).1 (fun hm => da10a9 (List.mem_singleton.1 hm))).trans kX1
                have hX2 := hX1.trans (cX2.toBelow (fun k hk => by rw [List.mem_singleton] at hk; rw [hk]; exact ga10) hX1.size)
                have lX2 := (lV22L8.chg cX1 (fun k hk hm => mL8a9 (by rw [← List.mem_singleton.1 hm]; exact hk))).chg cX2 (fun k hk hm => mL8a10 (by rw [← List.mem_singleton.1 hm]; exact hk))
                have FIN : MoreFin w7 X2 RB fB vB nB sB rB a9 a10 := ⟨hX2, A8, c8, kY2, lX2, v9, A9, n9, c9, s9, r9, kX2⟩
                refine wpAnyH_ready (rs := [14]) (by kernel_rfl) (by simp) ?_
                refine AllReadyH.cons rfl (fun K hK => ?_) AllReadyH.nil
                go_simp
                try rw [eX2]
                refine hK.out _ _ hX2 (fun _ => ?_)
                clear hK K eX2 r0 r1 r2 r3 r4 x0 x1 x2 x3 x4
                try simp only [Act.put, List.setIfInBounds_toArray, List.set_cons_zero, List.set_cons_succ]
                refine wpAnyH_done (by kernel_rfl) ?_ _
                go_wp2_with fail
                go_meet
                exact ⟨_, _, rfl, rfl, Lib.hid FIN⟩
              exact AllReadyH.nil
            exact AllReadyH.nil
          refine AllReadyH.cons rfl (fun K hK => ?_) ?_
          · go_simp
            have hbA : Below V17.heap.size V17 (V17.alloc (.cells #[.int .i64 0, .int .i32 0, .slice none 0 0, .int .i64 0, .int .i64 0] 32)) := (Below.refl _ _).alloc (Nat.le_refl _) _
            have kV23a10 := heap_alloc_new V17 (.cells #[.int .i64 0, .int .i32 0, .slice none 0 0, .int .i64 0, .int .i64 0] 32)
            have kV23a9 := (hbA.block _ (Array.getElem?_eq_some_iff.1 kV17a9).1).trans kV17a9
            have da10a9 : a9 ≠ V17.heap.size := by have := (Array.getElem?_eq_some_iff.1 kV17a9).1; omega
            have ga10 := hV17.size
            have hV23 := hV17.trans (hbA.mono hV17.size)
            refine hK.out _ _ hV23 (fun _ => ?_)
            clear hK K hbA
            try simp only [Act.put, List.setIfInBounds_toArray, List.set_cons_zero, List.set_cons_succ]
            generalize V17.alloc (.cells #[.int .i64 0, .int .i32 0, .slice none 0 0, .int .i64 0, .int .i64 0] 32) = V23 at *
            generalize V17.heap.size = a10 at *
            refine wpAnyH_ready (rs := [4]) (by kernel_rfl) (by simp) ?_
            refine AllReadyH.cons rfl (fun K hK => ?_) ?_
            · go_simp
              have HCALL := Lib.hid (HC.out V23 hV23)
              go_at_call 10
              with_reducible refine HCALL.out.mono ?_
              rintro e V24 ⟨A8, c8, rfl, L8, hb, F8⟩
              have mL8a9 : a9 ∉ blk A8 := fun hm => by have := F8 _ hm; have := (Array.getElem?_eq_some_iff.1 kV23a9).1; omega
              have mL8a10 : a10 ∉ blk A8 := fun hm => by have := F8 _ hm; have := (Array.getElem?_eq_some_iff.1 kV23a10).1; omega
              have lV24L8 := L8
              have hV24 := hV23.trans (hb.mono hV23.size)
              have kV24a9 := (hb.block _ (Array.getElem?_eq_some_iff.1 kV23a9).1).trans kV23a9
              have kV24a10 := (hb.block _ (Array.getElem?_eq_some_iff.1 kV23a10).1).trans kV23a10
              try go_wp2_with fail
              refine hK.out _ _ hV24 (fun _ => ?_)
              clear hK K HCALL
              try simp only [Act.put, List.setIfInBounds_toArray, List.set_cons_zero, List.set_cons_succ]
              refine wpAnyH_ready (rs := [10]) (by kernel_rfl) (by simp) ?_
              refine AllReadyH.cons rfl (fun K hK => ?_) ?_
              · go_simp
                have HCALL := Lib.hid (HD.out V24 hV24)
                go_at_call 10
                with_reducible refine HCALL.out.mono ?_
                rintro e V25 ⟨v9, A9, n9, c9, s9, r9, rfl, hb⟩
                have lV25L8 := lV24L8.below hb
                have hV25 := hV24.trans (hb.mono hV24.size)
                have kV25a9 := (hb.block _ (Array.getElem?_eq_some_iff.1 kV24a9).1).trans kV24a9
                have kV25a10 := (hb.block _ (Array.getElem?_eq_some_iff.1 kV24a10).1).trans kV24a10
                try go_wp2_with fail
                refine hK.out _ _ hV25 (fun _ => ?_)
                clear hK K HCALL
                try simp only [Act.put, List.setIfInBounds_toArray, List.set_cons_zero, List.set_cons_succ]
                obtain ⟨r0, r1, r2, r3, r4⟩ := row5 kV25a9
                obtain ⟨x0, x1, x2, x3, x4⟩ := free5 kV25a9
                obtain ⟨X1, eX1, kX1, cX1⟩ := set5 kV25a9 (.int .i64 fB) (.int .i32 vB) (.slice A8 nB c8) (.int .i64 sB) (.int .i64 rB)
                have kY1 := (cX1.same a10 (Array.getElem?_eq_some_iff.1 kV25a10).1 (fun hm => da10a9 (List.mem_singleton.1 hm).symm)).trans kV25a10
                have hX1 := hV25.trans (cX1.toBelow (fun k hk => by rw [List.mem_singleton] at hk; rw [hk]; exact ga9) hV25.size)
                refine wpAnyH_ready (rs := [13]) (by kernel_rfl) (by simp) ?_
                refine AllReadyH.cons rfl (fun K hK => ?_) AllReadyH.nil
                go_simp
                try rw [eX1]
                refine hK.out _ _ hX1 (fun _ => ?_)
                clear hK K eX1 r0 r1 r2 r3 r4 x0 x1 x2 x3 x4
                try simp only [Act.put, List.setIfInBounds_toArray, List.set_cons_zero, List.set_cons_succ]
                obtain ⟨r0, r1, r2, r3, r4⟩ := row5 kY1
                obtain ⟨x0, x1, x2, x3, x4⟩ := free5 kY1
                obtain ⟨X2, eX2, kX2, cX2⟩ := set5 kY1 (.int .i64 5) (.int .i32 v9) (.slice A9 n9 c9) (.int .i64 s9) (.int .i64 r9)
                have kY2 := (cX2.same a9 (Array.getElem?_eq_some_iff.1 kX1).1 (fun hm => da10a9 (List.mem_singleton.1 hm))).trans kX1
                have hX2 := hX1.trans (cX2.toBelow (fun k hk => by rw [List.mem_singleton] at hk; rw [hk]; exact ga10) hX1.size)
                have lX2 := (lV25L8.chg cX1 (fun k hk hm => mL8a9 (by rw [← List.mem_singleton.1 hm]; exact hk))).chg cX2 (fun k hk hm => mL8a10 (by rw [← List.mem_singleton.1 hm]; exact hk))
                have FIN : MoreFin w7 X2 RB fB vB nB sB rB a9 a10 := ⟨hX2, A8, c8, kY2, lX2, v9, A9, n9, c9, s9, r9, kX2⟩
                refine wpAnyH_ready (rs := [14]) (by kernel_rfl) (by simp) ?_
                refine AllReadyH.cons rfl (fun K hK => ?_) AllReadyH.nil
                go_simp
                try rw [eX2]
                refine hK.out _ _ hX2 (fun _ => ?_)
                clear hK K eX2 r0 r1 r2 r3 r4 x0 x1 x2 x3 x4
                try simp only [Act.put, List.setIfInBounds_toArray, List.set_cons_zero, List.set_cons_succ]
                refine wpAnyH_done (by kernel_rfl) ?_ _
                go_wp2_with fail
                go_meet
                exact ⟨_, _, rfl, rfl, Lib.hid FIN⟩
              exact AllReadyH.nil
            exact AllReadyH.nil
          exact AllReadyH.nil
        refine AllReadyH.cons rfl (fun K hK => ?_) ?_
        · go_simp
          have hbA : Below V0.heap.size V0 (V0.alloc (.cells #[.int .i64 0, .int .i32 0, .slice none 0 0, .int .i64 0, .int .i64 0] 32)) := (Below.refl _ _).alloc (Nat.le_refl _) _
          have kV26a10 := heap_alloc_new V0 (.cells #[.int .i64 0, .int .i32 0, .slice none 0 0, .int .i64 0, .int .i64 0] 32)
          have ga10 := hV0.size
          have hV26 := hV0.trans (hbA.mono hV0.size)
          refine hK.out _ _ hV26 (fun _ => ?_)
          clear hK K hbA
          try simp only [Act.put, List.setIfInBounds_toArray, List.set_cons_zero, List.set_cons_succ]
          generalize V0.alloc (.cells #[.int .i64 0, .int .i32 0, .slice none 0 0, .int .i64 0, .int .i64 0] 32) = V26 at *
          generalize V0.heap.size = a10 at *
          refine wpAnyH_ready (rs := [4, 11]) (by kernel_rfl) (by simp) ?_
          refine AllReadyH.cons rfl (fun K hK => ?_) ?_
          · go_simp
            have HCALL := Lib.hid (HC.out V26 hV26)
            go_at_call 10
            with_reducible refine HCALL.out.mono ?_
            rintro e V27 ⟨A8, c8, rfl, L8, hb, F8⟩
            have mL8a10 : a10 ∉ blk A8 := fun hm => by have := F8 _ hm; have := (Array.getElem?_eq_some_iff.1 kV26a10).1; omega
            have lV27L8 := L8
            have hV27 := hV26.trans (hb.mono hV26.size)
            have kV27a10 := (hb.block _ (Array.getElem?_eq_some_iff.1 kV26a10).1).trans kV26a10
            try go_wp2_with fail
            refine hK.out _ _ hV27 (fun _ => ?_)
            clear hK K HCALL
            try simp only [Act.put, List.setIfInBounds_toArray, List.set_cons_zero, List.set_cons_succ]
            refine wpAnyH_ready (rs := [10, 11]) (by kernel_rfl) (by simp) ?_
            refine AllReadyH.cons rfl (fun K hK => ?_) ?_
            · go_simp
              have HCALL := Lib.hid (HD.out V27 hV27)
              go_at_call 10
              with_reducible refine HCALL.out.mono ?_
              rintro e V28 ⟨v9, A9, n9, c9, s9, r9, rfl, hb⟩
              have lV28L8 := lV27L8.below hb
              have hV28 := hV27.trans (hb.mono hV27.size)
              have kV28a10 := (hb.block _ (Array.getElem?_eq_some_iff.1 kV27a10).1).trans kV27a10
              try go_wp2_with fail
              refine hK.out _ _ hV28 (fun _ => ?_)
              clear hK K HCALL
              try simp only [Act.put, List.setIfInBounds_toArray, List.set_cons_zero, List.set_cons_succ]
              refine wpAnyH_ready (rs := [11]) (by kernel_rfl) (by simp) ?_
              refine AllReadyH.cons rfl (fun K hK => ?_) ?_
              · go_simp
                have hbA : Below V28.heap.size V28 (V28.alloc (.cells #[.int .i64 0, .int .i32 0, .slice none 0 0, .int .i64 0, .int .i64 0] 32)) := (Below.refl _ _).alloc (Nat.le_refl _) _
                have kV29a9 := heap_alloc_new V28 (.cells #[.int .i64 0, .int .i32 0, .slice none 0 0, .int .i64 0, .int .i64 0] 32)
                have kV29a10 := (hbA.block _ (Array.getElem?_eq_some_iff.1 kV28a10).1).trans kV28a10
                have da9a10 : a10 ≠ V28.heap.size := by have := (Array.getElem?_eq_some_iff.1 kV28a10).1; omega
                have mL8a9 : V28.heap.size ∉ blk A8 := fun hm => by have := lV28L8.lt _ hm; omega
                have lV29L8 := lV28L8.below hbA
                have ga9 := hV28.size
                have hV29 := hV28.trans (hbA.mono hV28.size)
                refine hK.out _ _ hV29 (fun _ => ?_)
                clear hK K hbA
                try simp only [Act.put, List.setIfInBounds_toArray, List.set_cons_zero, List.set_cons_succ]
                generalize V28.alloc (.cells #[.int .i64 0, .int .i32 0, .slice none 0 0, .int .i64 0, .int .i64 0] 32) = V29 at *
                generalize V28.heap.size = a9 at *
                obtain ⟨r0, r1, r2, r3, r4⟩ := row5 kV29a9
                obtain ⟨x0, x1, x2, x3, x4⟩ := free5 kV29a9
                obtain ⟨X1, eX1, kX1, cX1⟩ := set5 kV29a9 (.int .i64 fB) (.int .i32 vB) (.slice A8 nB c8) (.int .i64 sB) (.int .i64 rB)
                have kY1 := (cX1.same a10 (Array.getElem?_eq_some_iff.1 kV29a10).1 (fun hm => da9a10.symm (List.mem_singleton.1 hm).symm)).trans kV29a10
                have hX1 := hV29.trans (cX1.toBelow (fun k hk => by rw [List.mem_singleton] at hk; rw [hk]; exact ga9) hV29.size)
                refine wpAnyH_ready (rs := [13]) (by kernel_rfl) (by simp) ?_
                refine AllReadyH.cons rfl (fun K hK => ?_) AllReadyH.nil
                go_simp
                try rw [eX1]
                refine hK.out _ _ hX1 (fun _ => ?_)
                clear hK K eX1 r0 r1 r2 r3 r4 x0 x1 x2 x3 x4
                try simp only [Act.put, List.setIfInBounds_toArray, List.set_cons_zero, List.set_cons_succ]
                obtain ⟨r0, r1, r2, r3, r4⟩ := row5 kY1
                obtain ⟨x0, x1, x2, x3, x4⟩ := free5 kY1
                obtain ⟨X2, eX2, kX2, cX2⟩ := set5 kY1 (.int .i64 5) (.int .i32 v9) (.slice A9 n9 c9) (.int .i64 s9) (.int .i64 r9)
                have kY2 := (cX2.same a9 (Array.getElem?_eq_some_iff.1 kX1).1 (fun hm => da9a10.symm (List.mem_singleton.1 hm))).trans kX1
                have hX2 := hX1.trans (cX2.toBelow (fun k hk => by rw [List.mem_singleton] at hk; rw [hk]; exact ga10) hX1.size)
                have lX2 := (lV29L8.chg cX1 (fun k hk hm => mL8a9 (by rw [← List.mem_singleton.1 hm]; exact hk))).chg cX2 (fun k hk hm => mL8a10 (by rw [← List.mem_singleton.1 hm]; exact hk))
                have FIN : MoreFin w7 X2 RB fB vB nB sB rB a9 a10 := ⟨hX2, A8, c8, kY2, lX2, v9, A9, n9, c9, s9, r9, kX2⟩
                refine wpAnyH_ready (rs := [14]) (by kernel_rfl) (by simp) ?_
                refine AllReadyH.cons rfl (fun K hK => ?_) AllReadyH.nil
                go_simp
                try rw [eX2]
                refine hK.out _ _ hX2 (fun _ => ?_)
                clear hK K eX2 r0 r1 r2 r3 r4 x0 x1 x2 x3 x4
                try simp only [Act.put, List.setIfInBounds_toArray, List.set_cons_zero, List.set_cons_succ]
                refine wpAnyH_done (by kernel_rfl) ?_ _
                go_wp2_with fail
                go_meet
                exact ⟨_, _, rfl, rfl, Lib.hid FIN⟩
              exact AllReadyH.nil
            refine AllReadyH.cons rfl (fun K hK => ?_) ?_
            · go_simp
              have hbA : Below V27.heap.size V27 (V27.alloc (.cells #[.int .i64 0, .int .i32 0, .slice none 0 0, .int .i64 0, .int .i64 0] 32)) := (Below.refl _ _).alloc (Nat.le_refl _) _
              have kV30a9 := heap_alloc_new V27 (.cells #[.int .i64 0, .int .i32 0, .slice none 0 0, .int .i64 0, .int .i64 0] 32)
              have kV30a10 := (hbA.block _ (Array.getElem?_eq_some_iff.1 kV27a10).1).trans kV27a10
              have da9a10 : a10 ≠ V27.heap.size := by have := (Array.getElem?_eq_some_iff.1 kV27a10).1; omega
              have mL8a9 : V27.heap.size ∉ blk A8 := fun hm => by have := lV27L8.lt _ hm; omega
              have lV30L8 := lV27L8.below hbA
              have ga9 := hV27.size
              have hV30 := hV27.trans (hbA.mono hV27.size)
              refine hK.out _ _ hV30 (fun _ => ?_)
              clear hK K hbA
              try simp only [Act.put, List.setIfInBounds_toArray, List.set_cons_zero, List.set_cons_succ]
              generalize V27.alloc (.cells #[.int .i64 0, .int .i32 0, .slice none 0 0, .int .i64 0, .int .i64 0] 32) = V30 at *
              generalize V27.heap.size = a9 at *
              refine wpAnyH_ready (rs := [10]) (by kernel_rfl) (by simp) ?_
              refine AllReadyH.cons rfl (fun K hK => ?_) ?_
              · go_simp
                have HCALL := Lib.hid (HD.out V30 hV30)
                go_at_call 10
                with_reducible refine HCALL.out.mono ?_
                rintro e V31 ⟨v9, A9, n9, c9, s9, r9, rfl, hb⟩
                have lV31L8 := lV30L8.below hb
                have hV31 := hV30.trans (hb.mono hV30.size)
                have kV31a10 := (hb.block _ (Array.getElem?_eq_some_iff.1 kV30a10).1).trans kV30a10
                have kV31a9 := (hb.block _ (Array.getElem?_eq_some_iff.1 kV30a9).1).trans kV30a9
                try go_wp2_with fail
                refine hK.out _ _ hV31 (fun _ => ?_)
                clear hK K HCALL
                try simp only [Act.put, List.setIfInBounds_toArray, List.set_cons_zero, List.set_cons_succ]
                obtain ⟨r0, r1, r2, r3, r4⟩ := row5 kV31a9
                obtain ⟨x0, x1, x2, x3, x4⟩ := free5 kV31a9
                obtain ⟨X1, eX1, kX1, cX1⟩ := set5 kV31a9 (.int .i64 fB) (.int .i32 vB) (.slice A8 nB c8) (.int .i64 sB) (.int .i64 rB)
                have kY1 := (cX1.same a10 (Array.getElem?_eq_some_iff.1 kV31a10).1 (fun hm => da9a10.symm (List.mem_singleton.1 hm).symm)).trans kV31a10
                have hX1 := hV31.trans (cX1.toBelow (fun k hk => by rw [List.mem_singleton] at hk; rw [hk]; exact ga9) hV31.size)
                refine wpAnyH_ready (rs := [13]) (by kernel_rfl) (by simp) ?_
                refine AllReadyH.cons rfl (fun K hK => ?_) AllReadyH.nil
                go_simp
                try rw [eX1]
                refine hK.out _ _ hX1 (fun _ => ?_)
                clear hK K eX1 r0 r1 r2 r3 r4 x0 x1 x2 x3 x4
                try simp only [Act.put, List.setIfInBounds_toArray, List.set_cons_zero, List.set_cons_succ]
                obtain ⟨r0, r1, r2, r3, r4⟩ := row5 kY1
                obtain ⟨x0, x1, x2, x3, x4⟩ := free5 kY1
                obtain ⟨X2, eX2, kX2, cX2⟩ := set5 kY1 (.int .i64 5) (.int .i32 v9) (.slice A9 n9 c9) (.int .i64 s9) (.int .i64 r9)
                have kY2 := (cX2.same a9 (Array.getElem?_eq_some_iff.1 kX1).1 (fun hm => da9a10.symm (List.mem_singleton.1 hm))).trans kX1
                have hX2 := hX1.trans (cX2.toBelow (fun k hk => by rw [List.mem_singleton] at hk; rw [hk]; exact ga10) hX1.size)
                have lX2 := (lV31L8.chg cX1 (fun k hk hm => mL8a9 (by rw [← List.mem_singleton.1 hm]; exact hk))).chg cX2 (fun k hk hm => mL8a10 (by rw [← List.mem_singleton.1 hm]; exact hk))
                have FIN : MoreFin w7 X2 RB fB vB nB sB rB a9 a10 := ⟨hX2, A8, c8, kY2, lX2, v9, A9, n9, c9, s9, r9, kX2⟩
                refine wpAnyH_ready (rs := [14]) (by kernel_rfl) (by simp) ?_
                refine AllReadyH.cons rfl (fun K hK => ?_) AllReadyH.nil
                go_simp
                try rw [eX2]
                refine hK.out _ _ hX2 (fun _ => ?_)
                clear hK K eX2 r0 r1 r2 r3 r4 x0 x1 x2 x3 x4
                try simp only [Act.put, List.setIfInBounds_toArray, List.set_cons_zero, List.set_cons_succ]
                refine wpAnyH_done (by kernel_rfl) ?_ _
                go_wp2_with fail
                go_meet
                exact ⟨_, _, rfl, rfl, Lib.hid FIN⟩
              exact AllReadyH.nil
            exact AllReadyH.nil
          refine AllReadyH.cons rfl (fun K hK => ?_) ?_
          · go_simp
            have hbA : Below V26.heap.size V26 (V26.alloc (.cells #[.int .i64 0, .int .i32 0, .slice none 0 0, .int .i64 0, .int .i64 0] 32)) := (Below.refl _ _).alloc (Nat.le_refl _) _
            have kV32a9 := heap_alloc_new V26 (.cells #[.int .i64 0, .int .i32 0, .slice none 0 0, .int .i64 0, .int .i64 0] 32)
            have kV32a10 := (hbA.block _ (Array.getElem?_eq_some_iff.1 kV26a10).1).trans kV26a10
            have da9a10 : a10 ≠ V26.heap.size := by have := (Array.getElem?_eq_some_iff.1 kV26a10).1; omega
            have ga9 := hV26.size
            have hV32 := hV26.trans (hbA.mono hV26.size)
            refine hK.out _ _ hV32 (fun _ => ?_)
            clear hK K hbA
            try simp only [Act.put, List.setIfInBounds_toArray, List.set_cons_zero, List.set_cons_succ]
            generalize V26.alloc (.cells #[.int .i64 0, .int .i32 0, .slice none 0 0, .int .i64 0, .int .i64 0] 32) = V32 at *
            generalize V26.heap.size = a9 at *
            refine wpAnyH_ready (rs := [4]) (by kernel_rfl) (by simp) ?_
            refine AllReadyH.cons rfl (fun K hK => ?_) ?_
            · go_simp
              have HCALL := Lib.hid (HC.out V32 hV32)
              go_at_call 10
              with_reducible refine HCALL.out.mono ?_
              rintro e V33 ⟨A8, c8, rfl, L8, hb, F8⟩
              have mL8a10 : a10 ∉ blk A8 := fun hm => by have := F8 _ hm; have := (Array.getElem?_eq_some_iff.1 kV32a10).1; omega
              have mL8a9 : a9 ∉ blk A8 := fun hm => by have := F8 _ hm; have := (Array.getElem?_eq_some_iff.1 kV32a9).1; omega
              have lV33L8 := L8
              have hV33 := hV32.trans (hb.mono hV32.size)
              have kV33a10 := (hb.block _ (Array.getElem?_eq_some_iff.1 kV32a10).1).trans kV32a10
              have kV33a9 := (hb.block _ (Array.getElem?_eq_some_iff.1 kV32a9).1).trans kV32a9
              try go_wp2_with fail
              refine hK.out _ _ hV33 (fun _ => ?_)
              clear hK K HCALL
              try simp only [Act.put, List.setIfInBounds_toArray, List.set_cons_zero, List.set_cons_succ]
              refine wpAnyH_ready (rs := [10]) (by kernel_rfl) (by simp) ?_
              refine AllReadyH.cons rfl (fun K hK => ?_) ?_
              · go_simp
                have HCALL := Lib.hid (HD.out V33 hV33)
                go_at_call 10
                with_reducible refine HCALL.out.mono ?_
                rintro e V34 ⟨v9, A9, n9, c9, s9, r9, rfl, hb⟩
                have lV34L8 := lV33L8.below hb
                have hV34 := hV33.trans (hb.mono hV33.size)
                have kV34a10 := (hb.block _ (Array.getElem?_eq_some_iff.1 kV33a10).1).trans kV33a10
                have kV34a9 := (hb.block _ (Array.getElem?_eq_some_iff.1 kV33a9).1).trans kV33a9
                try go_wp2_with fail
                refine hK.out _ _ hV34 (fun _ => ?_)
                clear hK K HCALL
                try simp only [Act.put, List.setIfInBounds_toArray, List.set_cons_zero, List.set_cons_succ]
                obtain ⟨r0, r1, r2, r3, r4⟩ := row5 kV34a9
                obtain ⟨x0, x1, x2, x3, x4⟩ := free5 kV34a9
                obtain ⟨X1, eX1, kX1, cX1⟩ := set5 kV34a9 (.int .i64 fB) (.int .i32 vB) (.slice A8 nB c8) (.int .i64 sB) (.int .i64 rB)
                have kY1 := (cX1.same a10 (Array.getElem?_eq_some_iff.1 kV34a10).1 (fun hm => da9a10.symm (List.mem_singleton.1 hm).symm)).trans kV34a10
                have hX1 := hV34.trans (cX1.toBelow (fun k hk => by rw [List.mem_singleton] at hk; rw [hk]; exact ga9) hV34.size)
                refine wpAnyH_ready (rs := [13]) (by kernel_rfl) (by simp) ?_
                refine AllReadyH.cons rfl (fun K hK => ?_) AllReadyH.nil
                go_simp
                try rw [eX1]
                refine hK.out _ _ hX1 (fun _ => ?_)
                clear hK K eX1 r0 r1 r2 r3 r4 x0 x1 x2 x3 x4
                try simp only [Act.put, List.setIfInBounds_toArray, List.set_cons_zero, List.set_cons_succ]
                obtain ⟨r0, r1, r2, r3, r4⟩ := row5 kY1
                obtain ⟨x0, x1, x2, x3, x4⟩ := free5 kY1
                obtain ⟨X2, eX2, kX2, cX2⟩ := set5 kY1 (.int .i64 5) (.int .i32 v9) (.slice A9 n9 c9) (.int .i64 s9) (.int .i64 r9)
                have kY2 := (cX2.same a9 (Array.getElem?_eq_some_iff.1 kX1).1 (fun hm => da9a10.symm (List.mem_singleton.1 hm))).trans kX1
                have hX2 := hX1.trans (cX2.toBelow (fun k hk => by rw [List.mem_singleton] at hk; rw [hk]; exact ga10) hX1.size)
                have lX2 := (lV34L8.chg cX1 (fun k hk hm => mL8a9 (by rw [← List.mem_singleton.1 hm]; exact hk))).chg cX2 (fun k hk hm => mL8a10 (by rw [← List.mem_singleton.1 hm]; exact hk))
                have FIN : MoreFin w7 X2 RB fB vB nB sB rB a9 a10 := ⟨hX2, A8, c8, kY2, lX2, v9, A9, n9, c9, s9, r9, kX2⟩
                refine wpAnyH_ready (rs := [14]) (by kernel_rfl) (by simp) ?_
                refine AllReadyH.cons rfl (fun K hK => ?_) AllReadyH.nil
                go_simp
                try rw [eX2]
                refine hK.out _ _ hX2 (fun _ => ?_)
                clear hK K eX2 r0 r1 r2 r3 r4 x0 x1 x2 x3 x4
                try simp only [Act.put, List.setIfInBounds_toArray, List.set_cons_zero, List.set_cons_succ]
                refine wpAnyH_done (by kernel_rfl) ?_ _
                go_wp2_with fail
                go_meet
                exact ⟨_, _, rfl, rfl, Lib.hid FIN⟩
              exact AllReadyH.nil
            exact AllReadyH.nil
          exact AllReadyH.nil
        exact AllReadyH.nil
--GER
      case rest =>
        obtain ⟨p, q, rfl, rfl, HM⟩ := hcut
        rename World => wx
        obtain ⟨hbx, A8, c8, k9, l8, v9, A9, n9, c9, s9, r9, k10⟩ := HM.out
        obtain ⟨d0, d1, d2, d3, d4⟩ := row5 k9
        obtain ⟨e0, e1, e2, e3, e4⟩ := row5 k10
        obtain ⟨_, b0, b1, b2, b3, b4⟩ := HR6.out.below hbx
        have hnB : nB ≤ 1000000 := by have := HEB.out.2.2.1; have := HMO.out.2.2.2.1; omega
        have hi8 : (RB.rs A8 c8).In wx := PR.rs_in (by rw [HEB.out.2.2.1]; exact l8) (by rw [HEB.out.2.2.1]; exact hnB)
        have hi5 : (RB.rs A5 c5).In wx := ⟨HI7.out.tr.below hbx, HI7.out.small⟩
        have hsm := sameR_any wx (RB.rs A8 c8) (RB.rs A5 c5) hi8 hi5
        rw [sameR_self] at hsm
        unfold PR.rs Rs.val at hsm
        dsimp only at hsm
        rw [HEB.out.1, HEB.out.2.1, HEB.out.2.2.1, HEB.out.2.2.2.1, HEB.out.2.2.2.2] at hsm
        have HSM := Lib.hid hsm
        have HBX : Hid (Below w.heap.size w wx) := Lib.hid (HEND.out.trans (hbx.mono HEND.out.size))
        have HK10 := Lib.hid k10
        clear hbx k9 k10 l8 hi8 hi5 hsm HM HL HC HD HMC a0 a1 a2 a3 a4 y0 y1
        go_wp2_with fail
        (with_reducible refine HSM.out.mono ?_)
        rintro e w8 ⟨rfl, hb8⟩
        have k10 := (hb8.block q (Array.getElem?_eq_some_iff.1 HK10.out).1).trans HK10.out
        obtain ⟨e0, e1, e2, e3, e4⟩ := row5 k10
        have HL2 := Lib.hid (lives12 w8)
        have HB8 := Lib.hid (HBX.out.trans (hb8.mono HBX.out.size))
        clear hb8 k10 HSM d0 d1 d2 d3 d4
        go_wp2_with fail
        (refine HL2.out.mono ?_)
        rintro e w9 ⟨rfl, hb9⟩
        have HB9 := Lib.hid (HB8.out.trans (hb9.mono HB8.out.size))
        go_wp2_with fail
        go_ret
        exact ⟨rfl, HB9.out⟩
end Go.Proofs.Ytcanjkjpdnbcnaa
