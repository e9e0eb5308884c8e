/-
  slices.Clone of bytes that are read alone; rows of records in memory; where a frame's record lies.
-/
import Derived.Test.YtjcknjadapbooaaWs
import Derived.Stop.RegionWithIn
namespace Go.Proofs.Ytjcknjadapbooaa
open Go.RowKit Go.Shelf
set_option linter.unusedVariables false
set_option maxRecDepth 100000

theorem eqnilN (w : World) (a : Option Addr) (n c n' c' : Nat) : (binOp .eql 22 (.slice a n c) (.slice none n' c')).run Try.prog w = .ok (.bool a.isNone) w := Lib.run_eql_slice_nil w _ _ a n c n' c' Try.underlying22
theorem own_emptyB (w : World) : SLine 1 (w.alloc (.cells #[] 5)) (some ⟨w.heap.size, 0, none⟩) 0 0 [] := ⟨rfl, Nat.le_refl _, by unfold maxLen; omega, (fun e => by cases e), fun a e => by cases e; exact ⟨w.heap.size, 0, rfl, by simp, fun i hi => by omega, fun i hi => by omega⟩⟩
set_option maxHeartbeats 800000 in
/-- A copy of bytes, in a block of its own. -/
theorem cloneN (w : World) (A : Option Addr) (n c : Nat) (l : List Nat) (h : RowN w A n l) (hn : n ≤ 10000000) :
    Calls Try.prog 18 #[.slice A n c] w fun e w' => (∃ A' c', e = .returned (.slice A' n c') ∧ BLine w' A' n c' l ∧ ∀ k ∈ blk A', w.heap.size ≤ k) ∧ Below w.heap.size w w' := by
  cases A with
  | none =>
    have h0 : n = 0 := by
      rcases Nat.eq_zero_or_pos n with h0 | h0
      · exact h0
      · obtain ⟨b, off, e, _⟩ := h.cells h0; cases e
    subst h0
    have hl : l = [] := List.eq_nil_of_length_eq_zero h.length
    subst hl
    have q := eqnilN
    clear h
    go_enter Try.func18, Try.ntmps18
    go_wp2
    go_ret
    exact ⟨⟨none, 0, rfl, ⟨bytesN_nil, SLine.nil 1 w⟩, fun k hk => by cases hk⟩, Below.refl _ _⟩
  | some ad =>
    obtain ⟨W0, hW0⟩ : ∃ W0, w.alloc (.cells #[] 5) = W0 := ⟨_, rfl⟩
    have hb0 : Below w.heap.size w W0 := by rw [← hW0]; exact (Below.refl _ w).alloc (Nat.le_refl _) _
    have hs0 : W0.heap.size = w.heap.size + 1 := by rw [← hW0]; simp
    have hd : SLine 1 W0 (some ⟨w.heap.size, 0, none⟩) 0 0 [] := by rw [← hW0]; exact own_emptyB w
    obtain ⟨A', c', w', hr, hl, hc, hf, hne⟩ := sline_append 1 W0 22 5 22 _ 1 Try.underlying22 info_u8 rfl (by decide) _ 0 0 [] hd (by omega) _ n (by omega) (fun e => by cases e) _ ((h.below hb0).src (cap := c))
    rw [Nat.zero_add] at hr hl
    rw [← hW0] at hr
    have hblk : ∀ k ∈ blk A', w.heap.size ≤ k := fun k hk => by
      rcases hf k hk with h2 | h2
      · obtain ⟨ad, ea, hb⟩ := mem_blk.1 h2
        cases ea
        rw [← hb]
        exact Nat.le_refl _
      · omega
    have hb : Below w.heap.size w w' := hb0.trans (hc.toBelow (fun k hk => by obtain ⟨ad, ea, hb⟩ := mem_blk.1 hk; cases ea; rw [← hb]; exact Nat.le_refl _) (by omega))
    have HR := Lib.hid hr
    have HL := Lib.hid (And.intro (show BLine w' A' n c' l from ⟨h.bytes, hl⟩) (And.intro hblk hb))
    clear hr hl hc hf hb hblk hd hb0 h hs0 hW0
    have q := eqnilN
    go_enter Try.func18, Try.ntmps18
    go_wp2_with (at_builtin; refine Lib.wpList_append_run _ rfl _ _ _ _ rfl _ _ rfl rfl _ _ HR.out ?_)
    go_ret
    exact ⟨⟨A', c', rfl, HL.out.1, HL.out.2.1⟩, HL.out.2.2⟩
/-- Slices of bytes as values: each holds its record, in blocks from B on, none of them in L. -/
def RecsAt (W : World) (B : Nat) (L : List Nat) (vs : List Value) (rs : List (List Nat)) : Prop :=
  vs.length = rs.length ∧ ∀ (i : Nat) (v : Value) (r : List Nat), vs[i]? = some v → rs[i]? = some r → ∃ (A : Option Addr) (c : Nat), v = Value.slice A r.length c ∧ BLine W A r.length c r ∧ ∀ k ∈ blk A, B ≤ k ∧ k ∉ L
theorem RecsAt.nil (W : World) (B : Nat) (L : List Nat) : RecsAt W B L [] [] := ⟨rfl, fun i v r h => by simp at h⟩
theorem RecsAt.chg {W W' : World} {B : Nat} {L L' M : List Nat} {vs : List Value} {rs : List (List Nat)} (h : RecsAt W B L vs rs) (hc : Chg M W W') (hM : ∀ k ∈ M, k ∈ L ∨ k < B) (hL : ∀ k ∈ L', k ∈ L ∨ W.heap.size ≤ k) : RecsAt W' B L' vs rs := by
  refine ⟨h.1, fun i v r hv hr => ?_⟩
  obtain ⟨A, c, rfl, hb, hk⟩ := h.2 i v r hv hr
  refine ⟨A, c, rfl, ⟨hb.1, hb.2.chg hc (fun k hkk hm => ?_)⟩, fun k hkk => ⟨(hk k hkk).1, fun hm => ?_⟩⟩
  · rcases hM k hm with h1 | h1
    · exact (hk k hkk).2 h1
    · have := (hk k hkk).1; omega
  · rcases hL k hm with h1 | h1
    · exact (hk k hkk).2 h1
    · have := hb.2.lt k hkk; omega
theorem RecsAt.snoc {W : World} {B : Nat} {L : List Nat} {vs : List Value} {rs : List (List Nat)} (h : RecsAt W B L vs rs) {A : Option Addr} {c : Nat} {r : List Nat} (hb : BLine W A r.length c r) (hk : ∀ k ∈ blk A, B ≤ k ∧ k ∉ L) : RecsAt W B L (vs ++ [.slice A r.length c]) (rs ++ [r]) := by
  refine ⟨by simp [h.1], fun i v r' hv hr => ?_⟩
  rcases Nat.lt_or_ge i vs.length with hi | hi
  · rw [List.getElem?_append_left hi] at hv
    rw [List.getElem?_append_left (by rw [← h.1]; exact hi)] at hr
    exact h.2 i v r' hv hr
  · rw [List.getElem?_append_right hi] at hv
    rw [List.getElem?_append_right (by rw [← h.1]; exact hi)] at hr
    rw [← h.1] at hr
    have h0 : i - vs.length = 0 := by
      have := (List.getElem?_eq_some_iff.1 hv).1
      simp at this
      omega
    rw [h0] at hv hr
    simp only [List.getElem?_cons_zero, Option.some.injEq] at hv hr
    subst hv hr
    exact ⟨A, c, rfl, hb, hk⟩
theorem infoSl : (Try.prog.info? 22).map (fun i => (i.zero, i.size, i.bytes)) = some (some (.slice none 0 0), 1, 24) := by kernel_rfl
/-- A slice of bytes behind the others. -/
theorem recs_push (w : World) (ty : TypeId) (C : Option Addr) (n c : Nat) (xs : List Value) (h : SLine 1 w C n c xs) (hn : n ≤ 100000) (P : Option Addr) (m mc : Nat) :
    ∃ C' c' w', (Builtin.append_ #[26, 26] ty #[.slice C n c, .slice (some ⟨w.heap.size, 0, none⟩) 1 1]).run Try.prog (w.alloc (.cells #[.slice P m mc] 22)) = .ok (.slice C' (n + 1) c') w' ∧ SLine 1 w' C' (n + 1) c' (xs ++ [.slice P m mc]) ∧ Chg (blk C) w w' ∧ ∀ k ∈ blk C', k ∈ blk C ∨ w.heap.size ≤ k := by
  have hb : Below w.heap.size w (w.alloc (.cells #[.slice P m mc] 22)) := (Below.refl _ w).alloc (Nat.le_refl _) _
  have hs : (w.alloc (.cells #[.slice P m mc] 22)).heap.size = w.heap.size + 1 := by simp
  have hsrc : Src Try.prog 1 26 (.slice (some ⟨w.heap.size, 0, none⟩) 1 1) 1 [.slice P m mc] (w.alloc (.cells #[.slice P m mc] 22)) := Src.ofSlice _ Try.underlying26 ⟨w.heap.size, 0, none⟩ 1 1 [.slice P m mc] rfl (new_one w _ _) (fun u hu => by simp only [List.mem_singleton] at hu; subst hu; rfl)
  obtain ⟨C', c', w', hr, hl, hc, hf, _⟩ := sline_append 1 (w.alloc (.cells #[.slice P m mc] 22)) 26 22 ty _ 24 Try.underlying26 infoSl rfl (by decide) C n c xs (h.below hb) (by omega) _ 1 (by omega) (fun _ => by omega) _ hsrc
  exact ⟨C', c', w', hr, hl, (Chg.of_below hb).trans hc, fun k hk => by
    rcases hf k hk with h1 | h1
    · exact .inl h1
    · exact .inr (by omega)⟩
/-- Where a frame's record lies. -/
theorem mark_mem : ∀ (k : Nat) (b : List Nat), b.length ≤ k → ∀ (s0 s : Nat) (r : List Nat), (s, r) ∈ markN s0 (parseN b) → s0 ≤ s ∧ (s - s0) + r.length + 8 ≤ b.length ∧ r = (b.drop (s - s0 + 4)).take r.length := by
  intro k
  induction k with
  | zero =>
    intro b hb s0 s r hm
    rw [parse_small (by omega)] at hm
    cases hm
  | succ k ih =>
    intro b hb s0 s r hm
    cases e : firstN b with
    | none => rw [parse_none e] at hm; cases hm
    | some x =>
      have hf := first_len e
      rw [parse_some e] at hm
      rcases List.mem_cons.1 hm with h | h
      · cases h
        refine ⟨Nat.le_refl _, by omega, ?_⟩
        rw [Nat.sub_self, Nat.zero_add, hf.1]
        exact hf.2.2.2.1
      · obtain ⟨h1, h2, h3⟩ := ih (b.drop (x.length + 8)) (by rw [List.length_drop]; omega) (s0 + x.length + 8) s r h
        rw [List.length_drop] at h2
        refine ⟨by omega, by omega, ?_⟩
        rw [List.drop_drop] at h3
        rw [show x.length + 8 + (s - (s0 + x.length + 8) + 4) = s - s0 + 4 from by omega] at h3
        exact h3
theorem RowN.piece {W : World} {A : Option Addr} {n : Nat} {l : List Nat} (h : RowN W A n l) (k m : Nat) (hk : k + m ≤ n) (hn : 0 < n) : RowN W (atA A k) m ((l.drop k).take m) := by
  obtain ⟨g, off, rfl, _, _⟩ := h.cells hn
  have h2 : RowN W (some ⟨g, off + k, none⟩) (n - k) (l.drop k) := by
    have := RowZ.dropAt (k := k) h (by omega)
    unfold RowN asZ at *
    rw [List.map_drop]
    exact this
  exact h2.take (by omega)
theorem setCell_keep {w : World} {b i : Nat} {cs : Array Value} {T : TypeId} {v : Value} (h : w.heap[b]? = some (.cells cs T (0, 0))) (hv : cs[i]? = some v) : w.setCell ⟨b, i, none⟩ v = w := by
  have e : (w.setCell ⟨b, i, none⟩ v).heap = w.heap := by
    apply Array.ext_getElem?
    intro j
    by_cases hj : j = b
    · subst hj
      rw [heap_setCell_same w j i cs T v h, set_same hv, h]
    · exact heap_setCell_other w ⟨b, i, none⟩ j v hj
  unfold World.setCell at e ⊢
  simp only at e
  rw [e]
theorem frames_any (w : World) (A : Option Addr) (n c : Nat) : Calls Try.prog 17 #[.slice A n c] w fun e w' => e = .returned (.func (.func 22) #[] #[.pointer (some ⟨w.heap.size, 0, none⟩)]) ∧ w' = w.alloc (.cells #[.slice A n c] 22) := by
  have hmf : ∀ (fn : Fn) (first cap : Array Value) (w : World), (Instr.makeFunc fn first cap).run Try.prog w = .ok (.func fn first cap) w := fun _ _ _ _ => rfl
  go_enter Try.func17, Try.ntmps17
  go_wp2
  go_ret
  exact ⟨rfl, rfl⟩
end Go.Proofs.Ytjcknjadapbooaa
