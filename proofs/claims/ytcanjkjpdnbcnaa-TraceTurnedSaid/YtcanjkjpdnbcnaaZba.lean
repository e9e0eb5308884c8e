/-
  A program with its functions and globals turned round does the same; the lines of both in memory.
  TraceTurned: the order of functions and globals changes nothing.
-/
import Derived.Test.YtcanjkjpdnbcnaaZaz
import Derived.Test.YtcanjkjpdnbcnaaZay
import Derived.Deep.AppendSrc
import Derived.Lib.AppendZerosOnto
namespace Go.Proofs.Ytcanjkjpdnbcnaa
open Go.RowKit
set_option linter.unusedVariables false
set_option linter.unusedSimpArgs false
set_option maxRecDepth 100000

theorem blk1 {b g o : Nat} (h : b ∈ blk (some ⟨g, o, none⟩)) : b = g := by
  unfold blk at h
  simpa using h
def rot {α : Type} (l : List α) (k : Nat) : List α := l.drop k ++ l.take k
theorem rot_len {α : Type} (l : List α) (k : Nat) (hk : k ≤ l.length) : (rot l k).length = l.length := by
  unfold rot; rw [List.length_append, List.length_drop, List.length_take]; omega
theorem rot_mem {α : Type} {l : List α} {k : Nat} {a : α} : a ∈ rot l k ↔ a ∈ l := by
  unfold rot
  rw [List.mem_append]
  constructor
  · rintro (h | h)
    · exact List.mem_of_mem_drop h
    · exact List.mem_of_mem_take h
  · intro h
    rw [← List.take_append_drop k l, List.mem_append] at h
    exact h.symm
theorem rot_get {α : Type} {l : List α} {k : Nat} (hk : k ≤ l.length) (i : Nat) (a : α) (h : (rot l k)[i]? = some a) : (i < l.length - k ∧ l[i + k]? = some a) ∨ (l.length - k ≤ i ∧ i < l.length ∧ l[i - (l.length - k)]? = some a) := by
  unfold rot at h
  rcases Nat.lt_or_ge i (l.length - k) with hi | hi
  · rw [List.getElem?_append_left (by rw [List.length_drop]; exact hi), List.getElem?_drop] at h
    exact .inl ⟨hi, by rw [Nat.add_comm]; exact h⟩
  · rw [List.getElem?_append_right (by rw [List.length_drop]; exact hi), List.length_drop] at h
    have hlt := (List.getElem?_eq_some_iff.1 h).1
    rw [List.length_take] at hlt
    rw [List.getElem?_take_of_lt (by omega)] at h
    exact .inr ⟨hi, by omega, h⟩
theorem Apart.rot {α : Type} {nm : α → ByteArray} {l : List α} (h : Apart nm l) {k : Nat} (hk : k ≤ l.length) : Apart nm (rot l k) := fun i j a b ha hb he => by
  rcases rot_get hk i a ha with ⟨h1, h2⟩ | ⟨h1, h1', h2⟩ <;> rcases rot_get hk j b hb with ⟨g1, g2⟩ | ⟨g1, g1', g2⟩ <;> (have := h _ _ a b h2 g2 he; omega)
theorem find_only {α : Type} {nm : α → ByteArray} {l l' : List α} (h : Apart nm l) (hm : ∀ a, a ∈ l' ↔ a ∈ l) (x : ByteArray) : l'.find? (fun o => decide ((nm o).data.toList = x.data.toList)) = l.find? (fun o => decide ((nm o).data.toList = x.data.toList)) := by
  cases h1 : l.find? (fun o => decide ((nm o).data.toList = x.data.toList)) with
  | none =>
    rw [List.find?_eq_none] at h1 ⊢
    exact fun a ha => h1 a ((hm a).1 ha)
  | some o =>
    have ho := List.mem_of_find?_eq_some h1
    have hp : (nm o).data.toList = x.data.toList := by simpa using List.find?_some h1
    cases h2 : l'.find? (fun o => decide ((nm o).data.toList = x.data.toList)) with
    | none =>
      rw [List.find?_eq_none] at h2
      have := h2 o ((hm o).2 ho)
      simp [hp] at this
    | some o' =>
      have ho' := (hm o').1 (List.mem_of_find?_eq_some h2)
      have hp' : (nm o').data.toList = x.data.toList := by simpa using List.find?_some h2
      obtain ⟨i, hi⟩ := List.getElem?_of_mem ho
      obtain ⟨j, hj⟩ := List.getElem?_of_mem ho'
      have hij := h j i o' o hj hi (hp'.trans hp.symm)
      rw [hij, hi] at hj
      exact hj.symm ▸ rfl
theorem fnOf_rot {gs : List MGl} {fs : List MFn} (h : MidOk gs fs) (k : Nat) : fnOf (rot fs k) = fnOf fs := funext fun x => find_only h.apF (fun _ => rot_mem) x
theorem glOf_rot {gs : List MGl} {fs : List MFn} (h : MidOk gs fs) (k : Nat) : glOf (rot gs k) = glOf gs := funext fun x => find_only h.apG (fun _ => rot_mem) x
theorem wdOf_rot {gs : List MGl} {fs : List MFn} (h : MidOk gs fs) (k : Nat) : wdOf (rot gs k) = wdOf gs := funext fun x => by unfold wdOf; rw [glOf_rot h]
theorem isGl_rot {gs : List MGl} {fs : List MFn} (h : MidOk gs fs) (k : Nat) : isGl (rot gs k) = isGl gs := funext fun x => by unfold isGl; rw [glOf_rot h]
theorem progR_rot {gs : List MGl} {fs : List MFn} (h : MidOk gs fs) (j k : Nat) (inp : List Int) (n : Nat) : progR (rot gs j) (rot fs k) inp n = progR gs fs inp n := by
  unfold progR
  rw [fnOf_rot h, wdOf_rot h]
theorem MidOk.turn {gs : List MGl} {fs : List MFn} (h : MidOk gs fs) {j k : Nat} (hj : j ≤ gs.length) (hk : k ≤ fs.length) : MidOk (rot gs j) (rot fs k) where
  apG := h.apG.rot hj
  apF := h.apF.rot hk
  gn := by rw [rot_len _ _ hj]; exact h.gn
  fn := by rw [rot_len _ _ hk]; exact h.fn
  sz := fun o ho => h.sz o (rot_mem.1 ho)
  ok := fun f hf => by rw [fnOf_rot h, isGl_rot h]; exact h.ok f (rot_mem.1 hf)
  main := by rw [fnOf_rot h]; exact h.main
theorem flat_len {α : Type} (f : α → List Value) (s : Nat) (hs : ∀ x, (f x).length = s) : ∀ l : List α, (l.flatMap f).length = l.length * s
  | [] => by simp
  | a :: l => by
    rw [List.flatMap_cons, List.length_append, hs, flat_len f s hs l, List.length_cons, Nat.add_mul, Nat.one_mul, Nat.add_comm]
theorem flat_inv {α : Type} (f : α → List Value) (s : Nat) (hs : ∀ x, (f x).length = s) : ∀ (l : List α) (j : Nat) (u : Value), (l.flatMap f)[j]? = some u → ∃ i x m, l[i]? = some x ∧ (f x)[m]? = some u ∧ j = i * s + m
  | [], j, u, h => by simp at h
  | a :: l, j, u, h => by
    rw [List.flatMap_cons] at h
    rcases Nat.lt_or_ge j s with hj | hj
    · rw [List.getElem?_append_left (by rw [hs]; exact hj)] at h
      exact ⟨0, a, j, rfl, h, by omega⟩
    · rw [List.getElem?_append_right (by rw [hs]; exact hj), hs] at h
      obtain ⟨i, x, m, h1, h2, h3⟩ := flat_inv f s hs l (j - s) u h
      refine ⟨i + 1, x, m, by simpa using h1, h2, ?_⟩
      rw [Nat.add_mul, Nat.one_mul]; omega
theorem flat_rot {α : Type} (f : α → List Value) (s : Nat) (hs : ∀ x, (f x).length = s) (l : List α) (k : Nat) (hk : k ≤ l.length) : (rot l k).flatMap f = (l.flatMap f).drop (k * s) ++ (l.flatMap f).take (k * s) := by
  have e : l.flatMap f = (l.take k).flatMap f ++ (l.drop k).flatMap f := by rw [← List.flatMap_append, List.take_append_drop]
  have el : ((l.take k).flatMap f).length = k * s := by rw [flat_len f s hs, List.length_take, Nat.min_eq_left hk]
  unfold rot
  rw [List.flatMap_append, e, ← el, List.drop_left, List.take_left]
/-- Two ends of a slice, one behind the other, in a new line. -/
theorem turn_runs (s : Nat) (hs0 : 0 < s) (V : World) (t e ty : TypeId) (z : Value) (bytes : Nat) (ht : Try.prog.underlying t = some (.slice e)) (hinfo : (Try.prog.info? e).map (fun i => (i.zero, i.size, i.bytes)) = some (some z, s, bytes)) (hz1 : z.cells.size = s) (hby : bytes ≤ 256)
    (g off n c k : Nat) (xs : List Value) (hk : k < n) (hn : n ≤ 100000) (hg : g < V.heap.size) (hl : xs.length = n * s) (hc : ∀ i u, xs[i]? = some u → V.cell? ⟨g, off + i, none⟩ = some u) (h1 : ∀ u ∈ xs, u.oneCell' = true) :
    ∃ A1 c1 W1 A2 c2 W2, (Builtin.append_ #[t, t] ty #[.slice (some ⟨V.heap.size, 0, none⟩) 0 0, .slice (some ⟨g, off + k * s, none⟩) (n - k) (c - k)]).run Try.prog (V.alloc (.cells #[] e)) = .ok (.slice A1 (n - k) c1) W1 ∧
      (Builtin.append_ #[t, t] ty #[.slice A1 (n - k) c1, .slice (some ⟨g, off, none⟩) k c]).run Try.prog W1 = .ok (.slice A2 n c2) W2 ∧ SLine s W2 A2 n c2 (xs.drop (k * s) ++ xs.take (k * s)) ∧ Below V.heap.size V W1 ∧ Below V.heap.size V W2 ∧ ∀ b ∈ blk A2, V.heap.size ≤ b := by
  obtain ⟨Vn, hVn⟩ : ∃ Vn, V.alloc (.cells #[] e) = Vn := ⟨_, rfl⟩
  have hBn : Below V.heap.size V Vn := by rw [← hVn]; exact (Below.refl _ V).alloc (Nat.le_refl _) _
  have hsn : Vn.heap.size = V.heap.size + 1 := by rw [← hVn]; simp
  have hL : SLine s Vn (some ⟨V.heap.size, 0, none⟩) 0 0 [] := by
    refine ⟨by simp, Nat.le_refl _, by unfold maxLen; omega, fun e => (by cases e), fun ad e => ?_⟩
    cases e
    exact ⟨_, _, rfl, by omega, fun i hi => by omega, fun i hi => by omega⟩
  have hks : k * s + (n - k) * s = n * s := by rw [← Nat.add_mul]; congr 1; omega
  have src : ∀ W, Below V.heap.size V W → ∀ (m d o : Nat), d * s + m * s ≤ n * s → Src Try.prog s t (.slice (some ⟨g, off + d * s, none⟩) m o) m ((xs.drop (d * s)).take (m * s)) W := fun W hW m d o hm => by
    refine Src.ofSlice W ht _ m o _ (by rw [List.length_take, List.length_drop]; omega) (fun j u hj => ?_) (fun u hu => h1 u (List.mem_of_mem_drop (List.mem_of_mem_take hu)))
    have hj2 : xs[d * s + j]? = some u := by
      have hlt := (List.getElem?_eq_some_iff.1 hj).1
      rw [List.length_take] at hlt
      rw [List.getElem?_take_of_lt (by omega), List.getElem?_drop] at hj
      exact hj
    have e9 : (⟨g, off + d * s, none⟩ : Addr).add j = ⟨g, off + (d * s + j), none⟩ := by unfold Addr.add; split <;> simp_all [Nat.add_assoc]
    rw [e9]
    exact (hW.cell (p := ⟨g, off + (d * s + j), none⟩) hg).trans (hc _ u hj2)
  have s1 := src Vn hBn (n - k) k (c - k) (by omega)
  obtain ⟨A1, c1, W1, hr1, hl1, hc1, hf1, hne1⟩ := sline_append s Vn t e ty z bytes ht hinfo hz1 hby _ 0 0 [] hL (by omega) _ (n - k) (by omega) (fun e => by cases e) _ s1
  have hB1 : Below V.heap.size V W1 := hBn.trans (hc1.toBelow (fun b hb => by rw [blk1 hb]; exact Nat.le_refl _) (by omega))
  have s2 := src W1 hB1 k 0 c (by omega)
  rw [Nat.zero_mul, Nat.add_zero, List.drop_zero] at s2
  rw [Nat.zero_add] at hr1 hl1
  obtain ⟨A2, c2, W2, hr2, hl2, hc2, hf2, _⟩ := sline_append s W1 t e ty z bytes ht hinfo hz1 hby A1 (n - k) c1 _ hl1 (by omega) _ k (by omega) (fun e => absurd e hne1) _ s2
  have e1 : n - k + k = n := by omega
  rw [e1] at hr2 hl2
  have h0 : ∀ b ∈ blk A1, V.heap.size ≤ b := fun b hb => by
    rcases hf1 b hb with h | h
    · rw [blk1 h]; exact Nat.le_refl _
    · omega
  rw [hVn]
  refine ⟨A1, c1, W1, A2, c2, W2, hr1, hr2, ?_, hB1, hB1.trans (hc2.toBelow h0 hB1.size), fun b hb => ?_⟩
  · rw [List.nil_append, show (xs.drop (k * s)).take ((n - k) * s) = xs.drop (k * s) from List.take_of_length_le (by rw [List.length_drop]; omega)] at hl2
    exact hl2
  · rcases hf2 b hb with h | h
    · exact h0 b h
    · have := hB1.size; omega
theorem MFns.of_line {W : World} {A : Option Addr} {n c : Nat} {fs : List MFn} (hn : fs.length = n) (hi : ∀ f ∈ fs, f.In W) (h : SLine 4 W A n c (fs.flatMap MFn.cells)) : MFns W A n fs := by
  refine ⟨hn, hi, fun h0 => ?_⟩
  obtain ⟨g, off, e, hg, hc, _⟩ := h.at h0
  refine ⟨g, off, e, hg, fun i o ho j v hj => ?_⟩
  have h1 := flat_at MFn.cells 4 (fun _ => rfl) fs i o j v ho hj
  have h2 := (List.getElem?_eq_some_iff.1 h1).1
  rw [Nat.add_assoc, hc (i * 4 + j) (by rw [flat_len MFn.cells 4 (fun _ => rfl)] at h2; omega)]
  exact h1
theorem MGls.of_line {W : World} {A : Option Addr} {n c : Nat} {gs : List MGl} (hn : gs.length = n) (hi : ∀ g ∈ gs, g.In W) (h : SLine 2 W A n c (gs.flatMap MGl.cells)) : MGls W A n gs := by
  refine ⟨hn, hi, fun h0 => ?_⟩
  obtain ⟨g, off, e, hg, hc, _⟩ := h.at h0
  refine ⟨g, off, e, hg, fun i o ho j v hj => ?_⟩
  have h1 := flat_at MGl.cells 2 (fun _ => rfl) gs i o j v ho hj
  have h2 := (List.getElem?_eq_some_iff.1 h1).1
  rw [Nat.add_assoc, hc (i * 2 + j) (by rw [flat_len MGl.cells 2 (fun _ => rfl)] at h2; omega)]
  exact h1
theorem MFns.flat {W : World} {A : Option Addr} {n : Nat} {fs : List MFn} (h : MFns W A n fs) (h0 : 0 < n) : ∃ g off, A = some ⟨g, off, none⟩ ∧ g < W.heap.size ∧ ∀ i u, (fs.flatMap MFn.cells)[i]? = some u → W.cell? ⟨g, off + i, none⟩ = some u := by
  obtain ⟨g, off, e, hg, hc⟩ := h.2.2 h0
  refine ⟨g, off, e, hg, fun j u hj => ?_⟩
  obtain ⟨i, x, m, h1, h2, rfl⟩ := flat_inv MFn.cells 4 (fun _ => rfl) fs j u hj
  rw [← Nat.add_assoc]
  exact hc i x h1 m u h2
theorem MGls.flat {W : World} {A : Option Addr} {n : Nat} {gs : List MGl} (h : MGls W A n gs) (h0 : 0 < n) : ∃ g off, A = some ⟨g, off, none⟩ ∧ g < W.heap.size ∧ ∀ i u, (gs.flatMap MGl.cells)[i]? = some u → W.cell? ⟨g, off + i, none⟩ = some u := by
  obtain ⟨g, off, e, hg, hc⟩ := h.2.2 h0
  refine ⟨g, off, e, hg, fun j u hj => ?_⟩
  obtain ⟨i, x, m, h1, h2, rfl⟩ := flat_inv MGl.cells 2 (fun _ => rfl) gs j u hj
  rw [← Nat.add_assoc]
  exact hc i x h1 m u h2
theorem infoFnT : (Try.prog.info? 47).map (fun i => (i.zero, i.size, i.bytes)) = some (some (.agg #[.string ⟨#[]⟩, .int .i64 0, .int .i64 0, .slice none 0 0]), 4, 56) := by kernel_rfl
theorem infoGlT : (Try.prog.info? 63).map (fun i => (i.zero, i.size, i.bytes)) = some (some (.agg #[.string ⟨#[]⟩, .int .i64 0]), 2, 24) := by kernel_rfl
theorem one_fns (fs : List MFn) : ∀ u ∈ fs.flatMap MFn.cells, u.oneCell' = true := fun u hu => by
  obtain ⟨f, _, h⟩ := List.mem_flatMap.1 hu
  unfold MFn.cells at h
  simp only [List.mem_cons, List.not_mem_nil, or_false] at h
  rcases h with rfl | rfl | rfl | rfl <;> rfl
theorem one_gls (gs : List MGl) : ∀ u ∈ gs.flatMap MGl.cells, u.oneCell' = true := fun u hu => by
  obtain ⟨f, _, h⟩ := List.mem_flatMap.1 hu
  unfold MGl.cells at h
  simp only [List.mem_cons, List.not_mem_nil, or_false] at h
  rcases h with rfl | rfl <;> rfl
/-- The functions turned round, in a new line. -/
theorem turn_fns (V : World) (A : Option Addr) (n c k : Nat) (fs : List MFn) (h : MFns V A n fs) (hk : k < n) (hn : n ≤ 100000) :
    ∃ g off, A = some ⟨g, off, none⟩ ∧ ∃ A1 c1 W1 A2 c2 W2, (Builtin.append_ #[23, 23] 23 #[.slice (some ⟨V.heap.size, 0, none⟩) 0 0, .slice (some ⟨g, off + k * 4, none⟩) (n - k) (c - k)]).run Try.prog (V.alloc (.cells #[] 47)) = .ok (.slice A1 (n - k) c1) W1 ∧
      (Builtin.append_ #[23, 23] 23 #[.slice A1 (n - k) c1, .slice (some ⟨g, off, none⟩) k c]).run Try.prog W1 = .ok (.slice A2 n c2) W2 ∧ SLine 4 W2 A2 n c2 ((rot fs k).flatMap MFn.cells) ∧ Below V.heap.size V W1 ∧ Below V.heap.size V W2 ∧ ∀ b ∈ blk A2, V.heap.size ≤ b := by
  obtain ⟨g, off, e, hg, hc⟩ := h.flat (by omega)
  have hfl : (fs.flatMap MFn.cells).length = n * 4 := by rw [flat_len MFn.cells 4 (fun _ => rfl), h.1]
  obtain ⟨A1, c1, W1, A2, c2, W2, h1, h2, h3, h4, h5, h6⟩ := turn_runs 4 (by omega) V 23 47 23 _ 56 Try.underlying23 infoFnT rfl (by decide) g off n c k _ hk hn hg hfl hc (one_fns fs)
  refine ⟨g, off, e, A1, c1, W1, A2, c2, W2, h1, h2, ?_, h4, h5, h6⟩
  rw [flat_rot MFn.cells 4 (fun _ => rfl) fs k (by rw [h.1]; omega)]
  exact h3
theorem turn_gls (V : World) (A : Option Addr) (n c k : Nat) (gs : List MGl) (h : MGls V A n gs) (hk : k < n) (hn : n ≤ 100000) :
    ∃ g off, A = some ⟨g, off, none⟩ ∧ ∃ A1 c1 W1 A2 c2 W2, (Builtin.append_ #[22, 22] 22 #[.slice (some ⟨V.heap.size, 0, none⟩) 0 0, .slice (some ⟨g, off + k * 2, none⟩) (n - k) (c - k)]).run Try.prog (V.alloc (.cells #[] 63)) = .ok (.slice A1 (n - k) c1) W1 ∧
      (Builtin.append_ #[22, 22] 22 #[.slice A1 (n - k) c1, .slice (some ⟨g, off, none⟩) k c]).run Try.prog W1 = .ok (.slice A2 n c2) W2 ∧ SLine 2 W2 A2 n c2 ((rot gs k).flatMap MGl.cells) ∧ Below V.heap.size V W1 ∧ Below V.heap.size V W2 ∧ ∀ b ∈ blk A2, V.heap.size ≤ b := by
  obtain ⟨g, off, e, hg, hc⟩ := h.flat (by omega)
  have hfl : (gs.flatMap MGl.cells).length = n * 2 := by rw [flat_len MGl.cells 2 (fun _ => rfl), h.1]
  obtain ⟨A1, c1, W1, A2, c2, W2, h1, h2, h3, h4, h5, h6⟩ := turn_runs 2 (by omega) V 22 63 22 _ 24 Try.underlying22 infoGlT rfl (by decide) g off n c k _ hk hn hg hfl hc (one_gls gs)
  refine ⟨g, off, e, A1, c1, W1, A2, c2, W2, h1, h2, ?_, h4, h5, h6⟩
  rw [flat_rot MGl.cells 2 (fun _ => rfl) gs k (by rw [h.1]; omega)]
  exact h3
end Go.Proofs.Ytcanjkjpdnbcnaa
namespace Go.Proofs.Ytcanjkjpdnbcnaa
open Go.RowKit
set_option linter.unusedVariables false
set_option linter.unusedSimpArgs false
set_option maxRecDepth 100000

theorem infoI32T : (Try.prog.info? 21).map (fun i => (i.zero, i.size, i.bytes)) = some (some (.int .i32 0), 1, 4) := by kernel_rfl
/-- What the law copies. -/
theorem copy_input {V : World} {A : Option Addr} {m c : Nat} {inp : List Int} (h : RowK .i32 V A m inp) (hA : A = none → c = 0) (hm : m ≤ 30) :
    ∃ A' c' W', (Builtin.append_ #[26, 26] 26 #[.slice (some ⟨V.heap.size, 0, none⟩) 0 0, .slice A m c]).run Try.prog (V.alloc (.cells #[] 21)) = .ok (.slice A' m c') W' ∧ RowK .i32 W' A' m inp ∧ Below V.heap.size V W' := by
  obtain ⟨Vn, hVn⟩ : ∃ Vn, V.alloc (.cells #[] 21) = Vn := ⟨_, rfl⟩
  have hBn : Below V.heap.size V Vn := by rw [← hVn]; exact (Below.refl _ V).alloc (Nat.le_refl _) _
  have hsn : Vn.heap.size = V.heap.size + 1 := by rw [← hVn]; simp
  have hL : SLine 1 Vn (some ⟨V.heap.size, 0, none⟩) 0 0 [] := by
    refine ⟨by simp, Nat.le_refl _, by unfold maxLen; omega, fun e => (by cases e), fun ad e => ?_⟩
    cases e
    exact ⟨_, _, rfl, by omega, fun i hi => by omega, fun i hi => by omega⟩
  have hcl : (cellsN inp).length = m := by unfold cellsN; rw [List.length_map, h.1]
  have hsrc : Src Try.prog 1 26 (.slice A m c) m (cellsN inp) Vn := by
    rcases Nat.eq_zero_or_pos m with rfl | h0
    · have e : cellsN inp = [] := List.eq_nil_of_length_eq_zero hcl
      rw [e]
      cases A with
      | none => exact Src.ofNil Vn Try.underlying26 c
      | some a => exact Src.ofSlice Vn Try.underlying26 a 0 c [] (by simp) (fun j u hu => by simp at hu) (fun u hu => by cases hu)
    · obtain ⟨b, off, rfl, hb, hc⟩ := h.2 h0
      refine Src.ofSlice Vn Try.underlying26 _ m c _ (by rw [hcl, Nat.mul_one]) (fun j u hu => ?_) (fun u hu => ?_)
      · have hj := (List.getElem?_eq_some_iff.1 hu).1
        rw [hcl] at hj
        have e9 : (⟨b, off, none⟩ : Addr).add j = ⟨b, off + j, none⟩ := by unfold Addr.add; split <;> simp_all
        rw [e9, (hBn.cell (p := ⟨b, off + j, none⟩) hb).trans (hc j hj), ← hu]
        unfold cellsN
        rw [List.getElem?_map, List.getElem?_eq_getElem (by rw [h.1]; exact hj)]
        simp [List.getD_eq_getElem?_getD, List.getElem?_eq_getElem (show j < inp.length by rw [h.1]; exact hj)]
      · unfold cellsN at hu
        obtain ⟨z, _, rfl⟩ := List.mem_map.1 hu
        rfl
  obtain ⟨A1, c1, W1, hr1, hl1, hc1, hf1, hne1⟩ := sline_append 1 Vn 26 21 26 _ 4 Try.underlying26 infoI32T rfl (by decide) _ 0 0 [] hL (by omega) _ m (by omega) (fun e => by cases e) _ hsrc
  rw [Nat.zero_add] at hr1 hl1
  rw [hVn]
  exact ⟨A1, c1, W1, hr1, RowK.of_line h.1 hl1, hBn.trans (hc1.toBelow (fun b hb => by rw [blk1 hb]; exact Nat.le_refl _) (by omega))⟩
/-- The functions, turned round, in q's box. -/
def TurnAt (Wb wx : World) (p : Nat) (GA : Option Addr) (gn gc fn : Nat) (fs : List MFn) : Prop :=
  Below Wb.heap.size Wb wx ∧ ∃ FA fc, wx.heap[p]? = some (.cells #[.slice GA gn gc, .slice FA fn fc] 25 (0, 0)) ∧ SLine 4 wx FA fn fc (fs.flatMap MFn.cells) ∧ p ∉ blk FA
/-- The program, turned round, in q's box. -/
def TurnAll (Wb wx : World) (p : Nat) (gn fn : Nat) (gs : List MGl) (fs : List MFn) : Prop :=
  Below Wb.heap.size Wb wx ∧ ∃ GA gc FA fc, wx.heap[p]? = some (.cells #[.slice GA gn gc, .slice FA fn fc] 25 (0, 0)) ∧ MGls wx GA gn gs ∧ MFns wx FA fn fs
theorem rot_zero {α : Type} (l : List α) : rot l 0 = l := by unfold rot; simp
set_option maxHeartbeats 6400000 in
theorem traceTurned_walk (GA : Option Addr) (gn gc : Nat) (FA : Option Addr) (fn fc : Nat) (gs : List MGl) (fs : List MFn) (iA : Option Addr) (il ic : Nat) (zs : List Int) (at0 : Int) (w : World)
    (hg : MGls w GA gn gs) (hf : MFns w FA fn fs) (bg : gn ≤ gc ∧ gc ≤ maxLen) (bf : fn ≤ fc ∧ fc ≤ maxLen) (hI0 : IsRow .i32 w iA il ic zs) (hat : (Lit.int .u64 at0).wf = true) :
    Calls Try.prog 5 #[.agg #[.slice GA gn gc, .slice FA fn fc], .slice iA il ic, .int .u64 at0] w fun e w' => e = .returned (.bool true) ∧ Below w.heap.size w w' := by
  obtain ⟨inp, hin, hI, hi32, hiN, hil, hic⟩ := input_of hI0
  obtain ⟨m, hm⟩ : ∃ m, min il 30 = m := ⟨_, rfl⟩
  rw [hm] at hin hI
  have hm30 : m ≤ 30 := by omega
  have hb0 := Go.bounds_u64 hat
  obtain ⟨W0, hW0⟩ : ∃ W0, w.alloc (.cells #[.slice GA gn gc, .slice FA fn fc] 25) = W0 := ⟨_, rfl⟩
  have hB0 : Below w.heap.size w W0 := by rw [← hW0]; exact (Below.refl _ w).alloc (Nat.le_refl _) _
  have hv0 : W0.heap[w.heap.size]? = some (.cells #[.slice GA gn gc, .slice FA fn fc] 25 (0, 0)) := by rw [← hW0]; exact heap_alloc_new w _
  have y0 : W0.cell? ⟨w.heap.size, 0, none⟩ = some (.slice GA gn gc) := by rw [cell_of_row _ _ 0 _ _ (0, 0) hv0]; rfl
  have y1 : W0.cell? ⟨w.heap.size, 1, none⟩ = some (.slice FA fn fc) := by rw [cell_of_row _ _ 1 _ _ (0, 0) hv0]; rfl
  have hlt : w.heap.size < W0.heap.size := World.block_lt_of_cell? W0 _ y0
  obtain ⟨v0, hv0e⟩ : ∃ v0, w.heap.size = v0 := ⟨_, rfl⟩
  rw [hv0e] at y0 y1 hlt
  have HM0 : Hid (∀ V, Below W0.heap.size W0 V → V.cell? ⟨v0, 0, none⟩ = some (.slice GA gn gc) ∧ V.cell? ⟨v0, 1, none⟩ = some (.slice FA fn fc)) := Lib.hid (fun V hV => ⟨(hV.cell (p := ⟨v0, 0, none⟩) hlt).trans y0, (hV.cell (p := ⟨v0, 1, none⟩) hlt).trans y1⟩)
  have HB := Lib.hid hB0
  have HRUN : Hid (MidOk gs fs → ∀ W, Below W0.heap.size W0 W → Calls Try.prog 10 #[.agg #[.slice GA gn gc, .slice FA fn fc], .slice iA m ic, .int .i64 400] W fun e w' => ∃ A c, e = .returned ((progR gs fs inp 400).rs A c).val ∧ ((progR gs fs inp 400).rs A c).In w' ∧ SLine 1 w' A (progR gs fs inp 400).tr.length c (cellsN (progR gs fs inp 400).tr) ∧ Below W.heap.size W w' ∧ ∀ k ∈ blk A, W.heap.size ≤ k) :=
    Lib.hid (fun hk W hW => run_law (hg.below hB0) (hf.below hB0) hin (hI.below hB0) hm30 hi32 hk W hW 400 (Nat.le_refl _))
  have HG := Lib.hid (hg.below hB0)
  have HFN := Lib.hid (hf.below hB0)
  have HIN := Lib.hid (And.intro hin (And.intro (hI.below hB0) hi32))
  have HI0 := Lib.hid hiN
  have HF := Lib.hid (fine_any W0 GA FA gn gc fn fc gs fs (hg.below hB0) (hf.below hB0) (by have := bg.2; have := bg.1; unfold maxLen at *; omega) (by have := bf.2; have := bf.1; unfold maxLen at *; omega))
  have HC : Hid (∀ W, Calls Try.prog 9 #[.slice iA il ic, .int .i64 0] W fun e w' => e = .returned (.tuple #[.slice iA m ic, .int .i64 0]) ∧ Below W.heap.size W w') := Lib.hid (fun W => by
    have := cut12_any W iA il ic 0 hiN hil hic
    rw [hm] at this
    exact this)
  have HBD := Lib.hid (And.intro bg bf)
  have HAT := Lib.hid hb0
  clear hg hf bg bf hI0 hat hin hI hi32 hiN hil hic hm hB0 hv0 hlt hb0
  go_enter Try.func5, Try.ntmps5
  go_wp2_with fail
  (with_reducible refine HF.out.mono ?_)
  rintro e w1 ⟨⟨b, rfl, hb⟩, hb1⟩
  obtain ⟨y0, y1⟩ := HM0.out w1 hb1
  have HB1 := Lib.hid hb1
  cases b with
  | false =>
    have HL := Lib.hid (lives12 w1)
    clear hb hb1
    go_wp2_with fail
    (refine HL.out.mono ?_)
    rintro e w2 ⟨rfl, hb2⟩
    have HB2 := Lib.hid (HB.out.trans ((HB1.out.trans (hb2.mono HB1.out.size)).mono HB.out.size))
    go_wp2_with fail
    go_ret
    exact ⟨rfl, HB2.out⟩
  | true =>
    have hk := (hb rfl)
    have HK := Lib.hid hk
    clear hb hb1 hk
    go_wp2_with fail
    (with_reducible refine (HC.out w1).mono ?_)
    rintro e w2 ⟨rfl, hb2⟩
    have HB2 := Lib.hid (HB1.out.trans (hb2.mono HB1.out.size))
    obtain ⟨y0, y1⟩ := HM0.out w2 HB2.out
    obtain ⟨A3, c3, w3, hr3, hl3, hb3⟩ := copy_input (c := ic) (HIN.out.2.1.below HB2.out) HI0.out hm30
    have HR3 := Lib.hid hr3
    clear hr3 hb2 HB1
    have HB3 : Hid (Below W0.heap.size W0 w3) := Lib.hid (HB2.out.trans (hb3.mono HB2.out.size))
    have HL3 := Lib.hid hl3
    have HR := Lib.hid (HRUN.out HK.out.1 w3 HB3.out)
    obtain ⟨y0, y1⟩ := HM0.out w3 HB3.out
    clear hl3 hb3 HC HF
    go_wp2_with (at_builtin; refine Lib.wpList_append_run _ rfl _ _ _ _ rfl _ _ rfl rfl _ _ HR3.out ?_)
    (refine HR.out.mono ?_)
    rintro e w4 ⟨A4, c4, rfl, hin4, hl4, hb4, _⟩
    obtain ⟨RA, hRA⟩ : ∃ R, progR gs fs inp 400 = R := ⟨_, rfl⟩
    rw [hRA] at hin4 hl4 ⊢
    have HRA := Lib.hid hRA
    unfold PR.rs Rs.val
    dsimp only
    obtain ⟨fA, hfA⟩ : ∃ x, RA.fin = x := ⟨_, rfl⟩
    obtain ⟨vA, hvA⟩ : ∃ x, RA.value = x := ⟨_, rfl⟩
    obtain ⟨nA, hnA⟩ : ∃ x, RA.tr.length = x := ⟨_, rfl⟩
    obtain ⟨sA, hsA⟩ : ∃ x : Int, (RA.steps : Int) = x := ⟨_, rfl⟩
    obtain ⟨rA, hrA⟩ : ∃ x : Int, (RA.reads : Int) = x := ⟨_, rfl⟩
    have HEA : Hid (RA.fin = fA ∧ RA.value = vA ∧ RA.tr.length = nA ∧ (RA.steps : Int) = sA ∧ (RA.reads : Int) = rA) := Lib.hid ⟨hfA, hvA, hnA, hsA, hrA⟩
    rw [hfA, hvA, hnA, hsA, hrA]
    obtain ⟨W5, p5, hW5, hp5, hB5, hr5⟩ := ResAt.new w4 fA vA A4 nA c4 sA rA
    have HB5 : Hid (Below W0.heap.size W0 W5) := Lib.hid ((HB3.out.trans (hb4.mono HB3.out.size)).trans (hB5.mono (HB3.out.trans (hb4.mono HB3.out.size)).size))
    have HR5 := Lib.hid hr5
    have HIN5 : Hid ((RA.rs A4 c4).In W5) := Lib.hid ⟨hin4.tr.below hB5, hin4.small⟩
    have HL5 : Hid (RowK .i32 W5 A3 m inp) := Lib.hid ((HL3.out.below hb4).below hB5)
    obtain ⟨y0, y1⟩ := HM0.out W5 HB5.out
    obtain ⟨W6, hW6⟩ : ∃ W6, W5.alloc (.cells #[.slice GA gn gc, .slice FA fn fc] 25) = W6 := ⟨_, rfl⟩
    have hB6 : Below W5.heap.size W5 W6 := by rw [← hW6]; exact (Below.refl _ W5).alloc (Nat.le_refl _) _
    have hv6 : W6.heap[W5.heap.size]? = some (.cells #[.slice GA gn gc, .slice FA fn fc] 25 (0, 0)) := by rw [← hW6]; exact heap_alloc_new W5 _
    obtain ⟨p9, hp9⟩ : ∃ p9, W5.heap.size = p9 := ⟨_, rfl⟩
    rw [hp9] at hv6
    have HV6 := Lib.hid hv6
    have HB56 := Lib.hid hB6
    have HP9 : Hid (W5.heap.size = p9) := Lib.hid hp9
    have HMB : Hid (∀ V, Below W5.heap.size W5 V → V.cell? ⟨v0, 0, none⟩ = some (.slice GA gn gc) ∧ V.cell? ⟨v0, 1, none⟩ = some (.slice FA fn fc)) := Lib.hid (fun V hV => HM0.out V (HB5.out.trans (hV.mono HB5.out.size)))
    obtain ⟨y0, y1⟩ := HMB.out W6 HB56.out
    have hfl : fs.length = fn := HFN.out.1
    have hgl : gs.length = gn := HG.out.1
    have hfn8 : fn ≤ 8 := by rw [← hfl]; exact HK.out.2.1
    have hgn70 : gn ≤ 70 := by rw [← hgl]; exact HK.out.2.2
    have hfn0 : 0 < fn := by
      obtain ⟨f, hf, _⟩ := HK.out.1.main
      rw [← hfl]
      exact List.length_pos_of_mem (fnOf_mem hf)
    have hat0 := HAT.out.1
    have hat1 := HAT.out.2
    obtain ⟨kn, hkn⟩ : ∃ kn : Nat, at0 % (fn : Int) = (kn : Int) := ⟨(at0 % (fn : Int)).toNat, by rw [Int.toNat_of_nonneg (Int.emod_nonneg _ (by omega))]⟩
    have hknf : kn < fn := by have := Int.emod_lt_of_pos at0 (show (0 : Int) < (fn : Int) by omega); omega
    have hknt : at0.tmod (fn : Int) = (kn : Int) := by rw [Int.tmod_eq_emod_of_nonneg hat0]; exact hkn
    have hz1 : ¬ (fn : Int) = 0 := by omega
    have hw1 : IntKind.u64.wrap (fn : Int) = (fn : Int) := by rw [IntKind.wrap_u64]; omega
    have hw2 : IntKind.i64.wrap (kn : Int) = (kn : Int) := by rw [IntKind.wrap_i64]; omega
    have HKN := Lib.hid (And.intro hknf (And.intro hfn8 (And.intro hgn70 (And.intro hfl hgl))))
    have HFC : Hid (fn ≤ fc ∧ fc ≤ maxLen ∧ gn ≤ gc ∧ gc ≤ maxLen) := Lib.hid ⟨HBD.out.2.1, HBD.out.2.2, HBD.out.1.1, HBD.out.1.2⟩
    clear hin4 hl4 hb4 hRA hfA hvA hnA hsA hrA hB5 hr5 hv6 hB6 hfl hgl hkn HR3 HR HRUN HL3 HBD
    go_upto_region 8 with fail
    clear hknt hw1 hat0 hat1 hz1 hW6 hW5
    go_cut [] from 36 to 47 (fun wx => Hid (TurnAt W5 wx p9 GA gn gc fn (rot fs kn)))
    case first =>
      obtain ⟨V0, hV0e⟩ : ∃ V, W6.drew = V := ⟨_, rfl⟩
      have hB06 : Below W6.heap.size W6 V0 := by rw [← hV0e]; exact (Below.refl _ _).drew
      have hV0 : Below W5.heap.size W5 V0 := HB56.out.trans (hB06.mono HB56.out.size)
      have k6 : V0.heap[p9]? = some (.cells #[.slice GA gn gc, .slice FA fn fc] 25 (0, 0)) := by rw [← hV0e]; exact HV6.out
      have hkc : kn < fc := by have := HFC.out.1; omega
      have hk1 : kn ≤ fn := by omega
      have hk2 : kn ≤ fc := by omega
      have hk3 : ¬ fc = kn := by omega
      have hk4 : ¬ fc < kn := by omega
      obtain ⟨g, off, rfl, A7, c7, W7, A8, c8, W8, hr1, hr2, hl8, hb7, hb8, hf8⟩ := turn_fns V0 FA fn fc kn fs ((HFN.out.below HB5.out).below hV0) hknf (by omega)
      have HR1 := Lib.hid hr1
      have HR2 := Lib.hid hr2
      have hS1 := hV0.trans (hb7.mono hV0.size)
      have hS2 := hV0.trans (hb8.mono hV0.size)
      have hp9V : p9 < V0.heap.size := (Array.getElem?_eq_some_iff.1 k6).1
      have k8 := (hb8.block p9 hp9V).trans k6
      have q1 : W8.cell? ⟨p9, 1, none⟩ = some (.slice (some ⟨g, off, none⟩) fn fc) := by rw [cell_of_row _ _ 1 _ _ (0, 0) k8]; rfl
      have x1 : W8.frozen? ⟨p9, 1, none⟩ = false := frozen_of_row W8 p9 1 _ _ k8
      have cX : Chg [p9] W8 (W8.setCell ⟨p9, 1, none⟩ (.slice A8 fn c8)) := (Chg.refl [p9] W8).setCell p9 1 _ (.inl (List.mem_singleton.2 rfl))
      have hS3 := hS2.trans (cX.toBelow (fun k hk => by rw [List.mem_singleton] at hk; rw [hk, HP9.out]; exact Nat.le_refl _) hS2.size)
      have hn9 : p9 ∉ blk A8 := fun hm => by have := hf8 _ hm; omega
      have FIN : TurnAt W5 (W8.setCell ⟨p9, 1, none⟩ (.slice A8 fn c8)) p9 GA gn gc fn (rot fs kn) :=
        ⟨hS3, A8, c8, (heap_setCell_same W8 p9 1 _ _ _ k8).trans rfl, hl8.chg cX (fun k hk hm => hn9 (by rw [← List.mem_singleton.1 hm]; exact hk)), hn9⟩
      clear hr1 hr2 hl8 hb7 hb8 hf8 hB06
      refine wp_region_held_drew (S := fun w' => Below W5.heap.size W5 w') (by kernel_rfl) ((HB56.out.trans ((Below.refl _ W6).drew.mono HB56.out.size))) (fun _ => ?_)
      rw [hV0e]
      clear hV0e
      refine takeH 1 37 (v := (.pointer (some ⟨v0, 1, none⟩))) rfl rfl (by kernel_rfl) (by kernel_rfl) (by kernel_rfl) (fun _ _ _ h => h) (by rfl) ?_ hV0 ?_
      · intro w hSw
        go_simp
      try simp only [Act.put, List.setIfInBounds_toArray, List.set_cons_zero, List.set_cons_succ]
      refine takeH 2 38 (v := (.slice (some ⟨g, off, none⟩) fn fc)) rfl rfl (by kernel_rfl) (by kernel_rfl) (by kernel_rfl) (fun _ _ _ h => h) (by rfl) ?_ hV0 ?_
      · intro w hSw
        obtain ⟨y0, y1⟩ := HMB.out w hSw
        go_simp
      try simp only [Act.put, List.setIfInBounds_toArray, List.set_cons_zero, List.set_cons_succ]
      refine takeH 3 39 (v := (.int .i64 (kn : Int))) rfl rfl (by kernel_rfl) (by kernel_rfl) (by kernel_rfl) (fun _ _ _ h => h) (by rfl) ?_ hV0 ?_
      · intro w hSw
        go_simp
      try simp only [Act.put, List.setIfInBounds_toArray, List.set_cons_zero, List.set_cons_succ]
      refine takeH 4 40 (v := (.slice (some ⟨g, off + kn * 4, none⟩) (fn - kn) (fc - kn))) rfl rfl (by kernel_rfl) (by kernel_rfl) (by kernel_rfl) (fun _ _ _ h => h) (by rfl) ?_ hV0 ?_
      · intro w hSw
        go_simp
      try simp only [Act.put, List.setIfInBounds_toArray, List.set_cons_zero, List.set_cons_succ]
      refine takeH 6 42 (v := (.pointer (some ⟨v0, 1, none⟩))) rfl rfl (by kernel_rfl) (by kernel_rfl) (by kernel_rfl) (fun _ _ _ h => h) (by rfl) ?_ hV0 ?_
      · intro w hSw
        go_simp
      try simp only [Act.put, List.setIfInBounds_toArray, List.set_cons_zero, List.set_cons_succ]
      refine takeH 7 43 (v := (.slice (some ⟨g, off, none⟩) fn fc)) rfl rfl (by kernel_rfl) (by kernel_rfl) (by kernel_rfl) (fun _ _ _ h => h) (by rfl) ?_ hV0 ?_
      · intro w hSw
        obtain ⟨y0, y1⟩ := HMB.out w hSw
        go_simp
      try simp only [Act.put, List.setIfInBounds_toArray, List.set_cons_zero, List.set_cons_succ]
      refine takeH 8 44 (v := (.int .i64 (kn : Int))) rfl rfl (by kernel_rfl) (by kernel_rfl) (by kernel_rfl) (fun _ _ _ h => h) (by rfl) ?_ hV0 ?_
      · intro w hSw
        go_simp
      try simp only [Act.put, List.setIfInBounds_toArray, List.set_cons_zero, List.set_cons_succ]
      refine takeH 9 45 (v := (.slice (some ⟨g, off, none⟩) kn fc)) rfl rfl (by kernel_rfl) (by kernel_rfl) (by kernel_rfl) (fun _ _ _ h => h) (by rfl) ?_ hV0 ?_
      · intro w hSw
        go_simp
      try simp only [Act.put, List.setIfInBounds_toArray, List.set_cons_zero, List.set_cons_succ]
      refine wpAnyH_ready (rs := [0]) (by kernel_rfl) (by simp) ?_
      refine AllReadyH.cons rfl (fun K hK => ?_) AllReadyH.nil
      go_simp
      refine hK.out _ _ (hV0.alloc hV0.size _) (fun _ => ?_)
      clear hK K
      try simp only [Act.put, List.setIfInBounds_toArray, List.set_cons_zero, List.set_cons_succ]
      refine wpAnyH_ready (rs := [5]) (by kernel_rfl) (by simp) ?_
      refine appendT_ready rfl (by kernel_rfl) _ _ _ _ rfl _ _ rfl rfl _ _ HR1.out hS1 ?_
      try simp only [Act.put, List.setIfInBounds_toArray, List.set_cons_zero, List.set_cons_succ]
      refine wpAnyH_ready (rs := [10]) (by kernel_rfl) (by simp) ?_
      refine appendT_ready rfl (by kernel_rfl) _ _ _ _ rfl _ _ rfl rfl _ _ HR2.out hS2 ?_
      try simp only [Act.put, List.setIfInBounds_toArray, List.set_cons_zero, List.set_cons_succ]
      refine takeH 11 47 (v := (.pointer (some ⟨p9, 1, none⟩))) rfl rfl (by kernel_rfl) (by kernel_rfl) (by kernel_rfl) (fun _ _ _ h => h) (by rfl) ?_ hS2 ?_
      · intro w hSw
        go_simp
      try simp only [Act.put, List.setIfInBounds_toArray, List.set_cons_zero, List.set_cons_succ]
      refine wpAnyH_ready (rs := [12]) (by kernel_rfl) (by simp) ?_
      refine AllReadyH.cons rfl (fun K hK => ?_) AllReadyH.nil
      go_simp
      refine hK.out _ _ hS3 (fun _ => ?_)
      clear hK K
      try simp only [Act.put, List.setIfInBounds_toArray, List.set_cons_zero, List.set_cons_succ]
      refine wpAnyH_done (by kernel_rfl) ?_ _
      go_wp2_with fail
      go_meet
      exact Lib.hid FIN
    case rest =>
      rename World => wz
      have HT := hcut
      clear hcut
      obtain ⟨y0, y1⟩ := HMB.out wz HT.out.1
      have hw3 : IntKind.u64.wrap (gn : Int) = (gn : Int) := by have := HKN.out.2.2.1; rw [IntKind.wrap_u64]; omega
      have hT : (gn = 0 ∧ rot gs 0 = gs) ∨ 0 < gn := by
        rcases Nat.eq_zero_or_pos gn with h | h
        · exact .inl ⟨h, rot_zero gs⟩
        · exact .inr h
      rcases hT with ⟨h0, hr0⟩ | hgn0
      case' inl =>
        have hng : ¬ (0 : Int) < (gn : Int) := by omega
        have hdg : decide (0 < gn) = false := decide_eq_false (by omega)
        have HALL : Hid (∃ jn, jn ≤ gs.length ∧ TurnAll W5 wz p9 gn fn (rot gs jn) (rot fs kn)) := Lib.hid (by
          obtain ⟨h1, FA2, fc2, h2, h3, h4⟩ := HT.out
          refine ⟨0, Nat.zero_le _, h1, GA, gc, FA2, fc2, h2, ?_, MFns.of_line ((rot_len _ _ (by rw [HKN.out.2.2.2.1]; omega)).trans HKN.out.2.2.2.1) (fun f hf => (HFN.out.2.1 f (rot_mem.1 hf)).below (HB5.out.trans (h1.mono HB5.out.size))) h3⟩
          rw [hr0]
          exact HG.out.below (HB5.out.trans (h1.mono HB5.out.size)))
        clear HT hr0 hknf h0
        go_upto_region 13 with fail
        clear hw3 hng
        try rw [hdg]
        clear hdg
      case' inr =>
        have hgp : (0 : Int) < (gn : Int) := by omega
        have hat0 := HAT.out.1
        have hat1 := HAT.out.2
        obtain ⟨jn, hjn⟩ : ∃ jn : Nat, at0 % (gn : Int) = (jn : Int) := ⟨(at0 % (gn : Int)).toNat, by rw [Int.toNat_of_nonneg (Int.emod_nonneg _ (by omega))]⟩
        have hjng : jn < gn := by have := Int.emod_lt_of_pos at0 hgp; omega
        have hjnt : at0.tmod (gn : Int) = (jn : Int) := by rw [Int.tmod_eq_emod_of_nonneg hat0]; exact hjn
        have hz2 : ¬ (gn : Int) = 0 := by omega
        have hw4 : IntKind.i64.wrap (jn : Int) = (jn : Int) := by have := HKN.out.2.2.1; rw [IntKind.wrap_i64]; omega
        clear hjn
        go_upto_region 12 with fail
        clear hjnt hw3 hw4 hat0 hat1 hz2 hgp
        go_cut [] from 58 to 69 (fun wx => Hid (TurnAll W5 wx p9 gn fn (rot gs jn) (rot fs kn)))
        case first =>
          obtain ⟨h1, FA2, fc2, h2, h3, h4⟩ := HT.out
          obtain ⟨V0, hV0e⟩ : ∃ V, wz.drew = V := ⟨_, rfl⟩
          have hBz : Below wz.heap.size wz V0 := by rw [← hV0e]; exact (Below.refl _ _).drew
          have hV0 : Below W5.heap.size W5 V0 := h1.trans (hBz.mono h1.size)
          have k6 : V0.heap[p9]? = some (.cells #[.slice GA gn gc, .slice FA2 fn fc2] 25 (0, 0)) := by rw [← hV0e]; exact h2
          have hkc : jn < gc := by have := HFC.out.2.2.1; omega
          have hk1 : jn ≤ gn := by omega
          have hk2 : jn ≤ gc := by omega
          have hk3 : ¬ gc = jn := by omega
          have hk4 : ¬ gc < jn := by omega
          obtain ⟨g, off, rfl, A7, c7, W7, A8, c8, W8, hr1, hr2, hl8, hb7, hb8, hf8⟩ := turn_gls V0 GA gn gc jn gs ((HG.out.below HB5.out).below hV0) hjng (by have := HKN.out.2.2.1; omega)
          have HR1 := Lib.hid hr1
          have HR2 := Lib.hid hr2
          have hS1 := hV0.trans (hb7.mono hV0.size)
          have hS2 := hV0.trans (hb8.mono hV0.size)
          have hp9V : p9 < V0.heap.size := (Array.getElem?_eq_some_iff.1 k6).1
          have k8 := (hb8.block p9 hp9V).trans k6
          have q1 : W8.cell? ⟨p9, 0, none⟩ = some (.slice (some ⟨g, off, none⟩) gn gc) := by rw [cell_of_row _ _ 0 _ _ (0, 0) k8]; rfl
          have x1 : W8.frozen? ⟨p9, 0, none⟩ = false := frozen_of_row W8 p9 0 _ _ k8
          have cX : Chg [p9] W8 (W8.setCell ⟨p9, 0, none⟩ (.slice A8 gn c8)) := (Chg.refl [p9] W8).setCell p9 0 _ (.inl (List.mem_singleton.2 rfl))
          have hS3 := hS2.trans (cX.toBelow (fun k hk => by rw [List.mem_singleton] at hk; rw [hk, HP9.out]; exact Nat.le_refl _) hS2.size)
          have hn9 : p9 ∉ blk A8 := fun hm => by have := hf8 _ hm; omega
          have hB0X := HB5.out.trans (hS3.mono HB5.out.size)
          have FIN : TurnAll W5 (W8.setCell ⟨p9, 0, none⟩ (.slice A8 gn c8)) p9 gn fn (rot gs jn) (rot fs kn) :=
            ⟨hS3, A8, c8, FA2, fc2, (heap_setCell_same W8 p9 0 _ _ _ k8).trans rfl,
              MGls.of_line ((rot_len _ _ (by rw [HKN.out.2.2.2.2]; omega)).trans HKN.out.2.2.2.2) (fun f hf => (HG.out.2.1 f (rot_mem.1 hf)).below hB0X) (hl8.chg cX (fun k hk hm => hn9 (by rw [← List.mem_singleton.1 hm]; exact hk))),
              MFns.of_line ((rot_len _ _ (by rw [HKN.out.2.2.2.1]; omega)).trans HKN.out.2.2.2.1) (fun f hf => (HFN.out.2.1 f (rot_mem.1 hf)).below hB0X) (((h3.below hBz).below hb8).chg cX (fun k hk hm => h4 (by rw [← List.mem_singleton.1 hm]; exact hk)))⟩
          clear hr1 hr2 hl8 hb7 hb8 hf8
          refine wp_region_held_drew (S := fun w' => Below W5.heap.size W5 w') (by kernel_rfl) (h1.trans ((Below.refl _ wz).drew.mono h1.size)) (fun _ => ?_)
          rw [hV0e]
          clear hV0e hBz h3 h4
          refine takeH 1 59 (v := (.pointer (some ⟨v0, 0, none⟩))) rfl rfl (by kernel_rfl) (by kernel_rfl) (by kernel_rfl) (fun _ _ _ h => h) (by rfl) ?_ hV0 ?_
          · intro w hSw
            go_simp
          try simp only [Act.put, List.setIfInBounds_toArray, List.set_cons_zero, List.set_cons_succ]
          refine takeH 2 60 (v := (.slice (some ⟨g, off, none⟩) gn gc)) rfl rfl (by kernel_rfl) (by kernel_rfl) (by kernel_rfl) (fun _ _ _ h => h) (by rfl) ?_ hV0 ?_
          · intro w hSw
            obtain ⟨y0, y1⟩ := HMB.out w hSw
            go_simp
          try simp only [Act.put, List.setIfInBounds_toArray, List.set_cons_zero, List.set_cons_succ]
          refine takeH 3 61 (v := (.int .i64 (jn : Int))) rfl rfl (by kernel_rfl) (by kernel_rfl) (by kernel_rfl) (fun _ _ _ h => h) (by rfl) ?_ hV0 ?_
          · intro w hSw
            go_simp
          try simp only [Act.put, List.setIfInBounds_toArray, List.set_cons_zero, List.set_cons_succ]
          refine takeH 4 62 (v := (.slice (some ⟨g, off + jn * 2, none⟩) (gn - jn) (gc - jn))) rfl rfl (by kernel_rfl) (by kernel_rfl) (by kernel_rfl) (fun _ _ _ h => h) (by rfl) ?_ hV0 ?_
          · intro w hSw
            go_simp
          try simp only [Act.put, List.setIfInBounds_toArray, List.set_cons_zero, List.set_cons_succ]
          refine takeH 6 64 (v := (.pointer (some ⟨v0, 0, none⟩))) rfl rfl (by kernel_rfl) (by kernel_rfl) (by kernel_rfl) (fun _ _ _ h => h) (by rfl) ?_ hV0 ?_
          · intro w hSw
            go_simp
          try simp only [Act.put, List.setIfInBounds_toArray, List.set_cons_zero, List.set_cons_succ]
          refine takeH 7 65 (v := (.slice (some ⟨g, off, none⟩) gn gc)) rfl rfl (by kernel_rfl) (by kernel_rfl) (by kernel_rfl) (fun _ _ _ h => h) (by rfl) ?_ hV0 ?_
          · intro w hSw
            obtain ⟨y0, y1⟩ := HMB.out w hSw
            go_simp
          try simp only [Act.put, List.setIfInBounds_toArray, List.set_cons_zero, List.set_cons_succ]
          refine takeH 8 66 (v := (.int .i64 (jn : Int))) rfl rfl (by kernel_rfl) (by kernel_rfl) (by kernel_rfl) (fun _ _ _ h => h) (by rfl) ?_ hV0 ?_
          · intro w hSw
            go_simp
          try simp only [Act.put, List.setIfInBounds_toArray, List.set_cons_zero, List.set_cons_succ]
          refine takeH 9 67 (v := (.slice (some ⟨g, off, none⟩) jn gc)) rfl rfl (by kernel_rfl) (by kernel_rfl) (by kernel_rfl) (fun _ _ _ h => h) (by rfl) ?_ hV0 ?_
          · intro w hSw
            go_simp
          try simp only [Act.put, List.setIfInBounds_toArray, List.set_cons_zero, List.set_cons_succ]
          refine wpAnyH_ready (rs := [0]) (by kernel_rfl) (by simp) ?_
          refine AllReadyH.cons rfl (fun K hK => ?_) AllReadyH.nil
          go_simp
          refine hK.out _ _ (hV0.alloc hV0.size _) (fun _ => ?_)
          clear hK K
          try simp only [Act.put, List.setIfInBounds_toArray, List.set_cons_zero, List.set_cons_succ]
          refine wpAnyH_ready (rs := [5]) (by kernel_rfl) (by simp) ?_
          refine appendT_ready rfl (by kernel_rfl) _ _ _ _ rfl _ _ rfl rfl _ _ HR1.out hS1 ?_
          try simp only [Act.put, List.setIfInBounds_toArray, List.set_cons_zero, List.set_cons_succ]
          refine wpAnyH_ready (rs := [10]) (by kernel_rfl) (by simp) ?_
          refine appendT_ready rfl (by kernel_rfl) _ _ _ _ rfl _ _ rfl rfl _ _ HR2.out hS2 ?_
          try simp only [Act.put, List.setIfInBounds_toArray, List.set_cons_zero, List.set_cons_succ]
          refine takeH 11 69 (v := (.pointer (some ⟨p9, 0, none⟩))) rfl rfl (by kernel_rfl) (by kernel_rfl) (by kernel_rfl) (fun _ _ _ h => h) (by rfl) ?_ hS2 ?_
          · intro w hSw
            go_simp
          try simp only [Act.put, List.setIfInBounds_toArray, List.set_cons_zero, List.set_cons_succ]
          refine wpAnyH_ready (rs := [12]) (by kernel_rfl) (by simp) ?_
          refine AllReadyH.cons rfl (fun K hK => ?_) AllReadyH.nil
          go_simp
          refine hK.out _ _ hS3 (fun _ => ?_)
          clear hK K
          try simp only [Act.put, List.setIfInBounds_toArray, List.set_cons_zero, List.set_cons_succ]
          refine wpAnyH_done (by kernel_rfl) ?_ _
          go_wp2_with fail
          go_meet
          exact Lib.hid FIN
        clear HT
        rename World => wz
        have HALL : Hid (∃ jn, jn ≤ gs.length ∧ TurnAll W5 wz p9 gn fn (rot gs jn) (rot fs kn)) := Lib.hid ⟨jn, by rw [HKN.out.2.2.2.2]; omega, hcut.out⟩
        clear hcut hjng hknf hgn0
        go_upto_region 13 with fail
      all_goals
        obtain ⟨jn, hjn, hTA⟩ := HALL.out
        obtain ⟨hSz, GA3, gc3, FA3, fc3, k9, hg3, hf3⟩ := hTA
        have HB0z : Hid (Below W0.heap.size W0 wz) := Lib.hid (HB5.out.trans (hSz.mono HB5.out.size))
        have HRQ : Hid (∀ V, Below wz.heap.size wz V → Calls Try.prog 10 #[.agg #[.slice GA3 gn gc3, .slice FA3 fn fc3], .slice iA m ic, .int .i64 400] V fun e w' => ∃ A c, e = .returned (.agg #[.int .i64 fA, .int .i32 vA, .slice A nA c, .int .i64 sA, .int .i64 rA]) ∧ (RA.rs A c).In w' ∧ Below V.heap.size V w') := Lib.hid (fun V hV => by
          have hr := run_law (gc := gc3) (fc := fc3) (ic := ic) hg3 hf3 HIN.out.1 (HIN.out.2.1.below HB0z.out) hm30 HIN.out.2.2 (HK.out.1.turn hjn (show kn ≤ fs.length by rw [HKN.out.2.2.2.1]; have := HKN.out.1; omega)) V hV 400 (Nat.le_refl _)
          rw [progR_rot HK.out.1, HRA.out] at hr
          unfold PR.rs Rs.val at hr
          dsimp only at hr
          rw [HEA.out.1, HEA.out.2.1, HEA.out.2.2.1, HEA.out.2.2.2.1, HEA.out.2.2.2.2] at hr
          refine hr.mono fun e w' hq => ?_
          obtain ⟨A, c, rfl, hi, _, hb, _⟩ := hq
          refine ⟨A, c, rfl, ?_, hb⟩
          unfold PR.rs
          rw [HEA.out.1, HEA.out.2.1, HEA.out.2.2.1, HEA.out.2.2.2.1, HEA.out.2.2.2.2]
          exact hi)
        have HSM : Hid (∀ V A c, Below wz.heap.size wz V → (RA.rs A c).In V → Calls Try.prog 12 #[.agg #[.int .i64 fA, .int .i32 vA, .slice A nA c, .int .i64 sA, .int .i64 rA], .agg #[.int .i64 fA, .int .i32 vA, .slice A4 nA c4, .int .i64 sA, .int .i64 rA]] V fun e w' => e = .returned (.bool true) ∧ Below V.heap.size V w') := Lib.hid (fun V A c hV hi => by
          have hr := sameR_any V (RA.rs A c) (RA.rs A4 c4) hi ⟨(HIN5.out.tr.below hSz).below hV, HIN5.out.small⟩
          rw [sameR_self] at hr
          unfold PR.rs Rs.val at hr
          dsimp only at hr
          rw [HEA.out.1, HEA.out.2.1, HEA.out.2.2.1, HEA.out.2.2.2.1, HEA.out.2.2.2.2] at hr
          exact hr)
        have HSW : Hid (∀ V, Below wz.heap.size wz V → Calls Try.prog 14 #[.slice iA m ic, .slice A3 m c3] V fun e w' => e = .returned (.bool true) ∧ Below V.heap.size V w') := Lib.hid (fun V hV => by
          have hr := sameWords_any V iA A3 m ic m c3 inp inp ((HIN.out.2.1.below HB0z.out).below hV) ((HL5.out.below hSz).below hV) (by omega) (by omega)
          rw [decide_eq_true rfl] at hr
          exact hr)
        have HQ : Hid (∀ V, Below wz.heap.size wz V → V.cell? ⟨p9, 0, none⟩ = some (.slice GA3 gn gc3) ∧ V.cell? ⟨p9, 1, none⟩ = some (.slice FA3 fn fc3)) := Lib.hid (fun V hV => by
          have k := (hV.block p9 (Array.getElem?_eq_some_iff.1 k9).1).trans k9
          exact ⟨by rw [cell_of_row _ _ 0 _ _ (0, 0) k]; rfl, by rw [cell_of_row _ _ 1 _ _ (0, 0) k]; rfl⟩)
        have HA5 : Hid (∀ V, Below wz.heap.size wz V → ResAt V p5 fA vA A4 nA c4 sA rA) := Lib.hid (fun V hV => (HR5.out.below hSz).below hV)
        have HSZ := Lib.hid hSz
        clear hjn hSz k9 hg3 hf3 HALL HMB y0 y1
        go_cut [6] from 70 to 82 (fun v wx => v = .bool true ∧ Hid (Below wz.heap.size wz wx))
        case first =>
          obtain ⟨V0, hV0e⟩ : ∃ V, wz.drew = V := ⟨_, rfl⟩
          have hV0 : Below wz.heap.size wz V0 := by rw [← hV0e]; exact (Below.refl _ _).drew
          refine wp_region_held_drew (S := fun w' => Below wz.heap.size wz w') (by kernel_rfl) (Below.refl _ _).drew (fun _ => ?_)
          rw [hV0e]
          clear hV0e
          refine takeH 0 70 (v := (.agg #[.slice GA3 gn gc3, .slice FA3 fn fc3])) rfl rfl (by kernel_rfl) (by kernel_rfl) (by kernel_rfl) (fun _ _ _ h => h) (by rfl) ?_ hV0 ?_
          · intro w hSw
            obtain ⟨y0, y1⟩ := HQ.out w hSw
            go_simp
          try simp only [Act.put, List.setIfInBounds_toArray, List.set_cons_zero, List.set_cons_succ]
          refine takeH 1 71 (v := (.slice iA m ic)) rfl rfl (by kernel_rfl) (by kernel_rfl) (by kernel_rfl) (fun _ _ _ h => h) (by rfl) ?_ hV0 ?_
          · intro w hSw
            go_simp
          try simp only [Act.put, List.setIfInBounds_toArray, List.set_cons_zero, List.set_cons_succ]
          refine takeH 3 73 (v := (.agg #[.int .i64 fA, .int .i32 vA, .slice A4 nA c4, .int .i64 sA, .int .i64 rA])) rfl rfl (by kernel_rfl) (by kernel_rfl) (by kernel_rfl) (fun _ _ _ h => h) (by rfl) ?_ hV0 ?_
          · intro w hSw
            obtain ⟨_, y0, y1, y2, y3, y4⟩ := HA5.out w hSw
            go_simp
          try simp only [Act.put, List.setIfInBounds_toArray, List.set_cons_zero, List.set_cons_succ]
          refine wpAnyH_ready (rs := [2]) (by kernel_rfl) (by simp) ?_
          refine AllReadyH.cons rfl (fun K hK => ?_) AllReadyH.nil
          go_simp
          have HCALL := Lib.hid (HRQ.out V0 hV0)
          go_at_call 10
          with_reducible refine HCALL.out.mono ?_
          rintro e V1 ⟨A8, c8, rfl, hi8, hb⟩
          have hV1 := hV0.trans (hb.mono hV0.size)
          try go_wp2_with fail
          refine hK.out _ _ hV1 (fun _ => ?_)
          clear hK K HCALL
          try simp only [Act.put, List.setIfInBounds_toArray, List.set_cons_zero, List.set_cons_succ]
          refine wpAnyH_ready (rs := [4]) (by kernel_rfl) (by simp) ?_
          refine AllReadyH.cons rfl (fun K hK => ?_) AllReadyH.nil
          go_simp
          have HCALL := Lib.hid (HSM.out V1 A8 c8 hV1 hi8)
          go_at_call 12
          with_reducible refine HCALL.out.mono ?_
          rintro e V2 ⟨rfl, hb⟩
          have hV2 := hV1.trans (hb.mono hV1.size)
          try go_wp2_with fail
          refine hK.out _ _ hV2 (fun _ => ?_)
          clear hK K HCALL
          try simp only [Act.put, List.setIfInBounds_toArray, List.set_cons_zero, List.set_cons_succ]
          refine takeH 5 75 (v := (.bool true)) rfl rfl (by kernel_rfl) (by kernel_rfl) (by kernel_rfl) (fun _ _ _ h => h) (by rfl) ?_ hV2 ?_
          · intro w hSw
            go_simp
          try simp only [Act.put, List.setIfInBounds_toArray, List.set_cons_zero, List.set_cons_succ]
          refine takeH 6 76 (v := (.slice iA m ic)) rfl rfl (by kernel_rfl) (by kernel_rfl) (by kernel_rfl) (fun _ _ _ h => h) (by rfl) ?_ hV2 ?_
          · intro w hSw
            go_simp
          try simp only [Act.put, List.setIfInBounds_toArray, List.set_cons_zero, List.set_cons_succ]
          refine takeH 7 77 (v := (.slice A3 m c3)) rfl rfl (by kernel_rfl) (by kernel_rfl) (by kernel_rfl) (fun _ _ _ h => h) (by rfl) ?_ hV2 ?_
          · intro w hSw
            go_simp
          try simp only [Act.put, List.setIfInBounds_toArray, List.set_cons_zero, List.set_cons_succ]
          refine wpAnyH_ready (rs := [8]) (by kernel_rfl) (by simp) ?_
          refine AllReadyH.cons rfl (fun K hK => ?_) AllReadyH.nil
          go_simp
          have HCALL := Lib.hid (HSW.out V2 hV2)
          go_at_call 14
          with_reducible refine HCALL.out.mono ?_
          rintro e V3 ⟨rfl, hb⟩
          have hV3 := hV2.trans (hb.mono hV2.size)
          try go_wp2_with fail
          refine hK.out _ _ hV3 (fun _ => ?_)
          clear hK K HCALL
          try simp only [Act.put, List.setIfInBounds_toArray, List.set_cons_zero, List.set_cons_succ]
          refine takeH 9 79 (v := (.bool true)) rfl rfl (by kernel_rfl) (by kernel_rfl) (by kernel_rfl) (fun _ _ _ h => h) (by rfl) ?_ hV3 ?_
          · intro w hSw
            go_simp
          try simp only [Act.put, List.setIfInBounds_toArray, List.set_cons_zero, List.set_cons_succ]
          refine takeH 10 80 (v := (.bool true)) rfl rfl (by kernel_rfl) (by kernel_rfl) (by kernel_rfl) (fun _ _ _ h => h) (by rfl) ?_ hV3 ?_
          · intro w hSw
            go_simp
          try simp only [Act.put, List.setIfInBounds_toArray, List.set_cons_zero, List.set_cons_succ]
          refine wpAnyH_ready (rs := [11]) (by kernel_rfl) (by simp) ?_
          refine AllReadyH.cons rfl (fun K hK => ?_) AllReadyH.nil
          go_simp
          have HCALL := Lib.hid (lives12 V3)
          go_at_call 8
          with_reducible refine HCALL.out.mono ?_
          rintro e V4 ⟨rfl, hb⟩
          have hV4 := hV3.trans (hb.mono hV3.size)
          try go_wp2_with fail
          refine hK.out _ _ hV4 (fun _ => ?_)
          clear hK K HCALL
          try simp only [Act.put, List.setIfInBounds_toArray, List.set_cons_zero, List.set_cons_succ]
          refine takeH 12 82 (v := (.bool true)) rfl rfl (by kernel_rfl) (by kernel_rfl) (by kernel_rfl) (fun _ _ _ h => h) (by rfl) ?_ hV4 ?_
          · intro w hSw
            go_simp
          try simp only [Act.put, List.setIfInBounds_toArray, List.set_cons_zero, List.set_cons_succ]
          refine takeH 13 6 (v := (.bool true)) rfl rfl (by kernel_rfl) (by kernel_rfl) (by kernel_rfl) (fun _ _ _ h => h) (by rfl) ?_ hV4 ?_
          · intro w hSw
            go_simp
          try simp only [Act.put, List.setIfInBounds_toArray, List.set_cons_zero, List.set_cons_succ]
          refine wpAnyH_done (by kernel_rfl) ?_ _
          go_wp2_with fail
          go_meet
          exact ⟨rfl, Lib.hid hV4⟩
        case rest =>
          obtain ⟨rfl, HE⟩ := hcut
          have HEND := Lib.hid (HB.out.trans ((HB0z.out.trans (HE.out.mono HB0z.out.size)).mono HB.out.size))
          go_wp2_with fail
          go_ret
          exact ⟨rfl, HEND.out⟩
end Go.Proofs.Ytcanjkjpdnbcnaa
