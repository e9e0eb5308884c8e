/-
  What a loop over a set goes over: the contract of the laws' all.
-/
import Derived.Test.YtjkcomoadpileaaDoorBl
import Derived.Test.YtjkcomoadpileaaDoorRh
import Derived.Test.YtjkcomoadpileaaDoorLn
namespace Go.Proofs.YtjkcomoadpileaaDoor
open Go.RowKit Go.Shelf
attribute [local go_sem] Oper.semAt_some
set_option linter.unusedVariables false

theorem wpListIn_append_run {F : Fence} {n : Nat} {P : Program} (w : World) {ops : Array Oper} {rest : List Oper} {o : Oper} {a : Act} {Q : Exit → Act → World → Prop}
    (hg : o.guard = none) (s x : Operand) (t tn : TypeId) (hop : o.op = Op.call { callee := Callee.builtin Builtin.append, args := #[s, x], argTypes := #[t, tn] }) (vs vx : Value) (hs : a.eval s = vs) (hx : a.eval x = vx)
    (v' : Value) (w' : World) (hr : (Builtin.append_ #[t, tn] o.type #[vs, vx]).run P w = .ok v' w') (hK : wpListIn F n P ops Q rest (a.put o.dst v') w') : wpListIn F n P ops Q (o :: rest) a w := by
  refine wpListIn_plain hg fun K hK' => ?_
  unfold Oper.wpIn
  refine ⟨?_, ?_⟩
  · simp [Oper.about, hop, resolve, Target.leads, Sem.run_pure]
  · rw [Oper.semAt_plain F _ _ (by rw [hop]; intro c hc'; cases hc')]
    simp [execOp, hop, resolve, invoke, builtin, hs, hx, hr, Result.andThen]
    exact hK' _ _ hK
def asZ (l : List Nat) : List Int := l.map Int.ofNat
theorem asZ_length (l : List Nat) : (asZ l).length = l.length := List.length_map ..
theorem asZ_append (a b : List Nat) : asZ (a ++ b) = asZ a ++ asZ b := List.map_append
theorem mem_asZ (l : List Nat) (n : Int) : n ∈ asZ l ↔ 0 ≤ n ∧ n.toNat ∈ l := by
  unfold asZ
  rw [List.mem_map]
  constructor
  · rintro ⟨x, hx, rfl⟩
    exact ⟨Int.natCast_nonneg _, hx⟩
  · rintro ⟨h1, h2⟩
    exact ⟨n.toNat, h2, by show ((n.toNat : Nat) : Int) = n; omega⟩
/-- The numbers of a set, rising, as integers. -/
def elemsZ (ws : List Nat) : List Int := asZ (elems ws)
theorem elemsZ_rises (ws : List Nat) : Rises (elemsZ ws) := by
  unfold Rises elemsZ asZ
  rw [List.pairwise_map]
  exact (upto_rises ws _).imp (fun {a b} h => by show ((a : Nat) : Int) < (b : Nat); omega)
theorem mem_elemsZ (ws : List Nat) (n : Int) : n ∈ elemsZ ws ↔ hasZ ws n = true := by
  unfold elemsZ hasZ
  rw [mem_asZ, mem_elems, Bool.and_eq_true, decide_eq_true_eq]
theorem LineAt.ints {w : World} {A : Option Addr} {n c : Nat} {zs : List Int} (h : LineAt w A n c (cellsI zs)) (hf : Fit zs) : Ints w A n zs := by
  have hl : zs.length = n := by have := h.1; rwa [cellsI_length] at this
  refine ⟨hl, hf, fun hn => ?_⟩
  obtain ⟨g, off, rfl, hg, hc, _⟩ := h.at hn
  refine ⟨g, off, rfl, hg, fun i hi => ?_⟩
  rw [hc i hi]
  simp [cellsI, List.getD, show i < zs.length from by omega]
theorem one_I (zs : List Int) : ∀ u ∈ cellsI zs, u.oneCell' = true := by
  intro u hu
  obtain ⟨z, _, rfl⟩ := List.mem_map.1 hu
  rfl
theorem elems_lt (ws : List Nat) (hsh : ws.length ≤ 1024) : ∀ x ∈ elems ws, x < 65536 := by
  intro x hx
  have h1 := (mem_upto ws _ x).1 hx
  omega
theorem fit_asZ (l : List Nat) (h : ∀ x ∈ l, x < 65536) : Fit (asZ l) := by
  intro z hz
  obtain ⟨x, hx, rfl⟩ := List.mem_map.1 hz
  have := h x hx
  exact ⟨by show -9223372036854775808 ≤ ((x : Nat) : Int); omega, by show ((x : Nat) : Int) ≤ 9223372036854775807; omega⟩
/-- Numbers collected in the box Bl, between two rounds; all of it from B on, and none of it the law's own. -/
def Coll (w : World) (B Bl D C : Nat) (xs : List Nat) (W : World) : Prop :=
  ∃ A q c, W.heap[Bl]? = some (.cells #[.slice A q c] 22 (0, 0)) ∧ LineAt W A q c (cellsI (asZ xs)) ∧ (∀ j ∈ blk A, B ≤ j ∧ j ≠ Bl ∧ j ≠ D ∧ j ≠ D + 1 ∧ j ≠ C) ∧ Below B w W ∧ TabOk W
theorem Coll.steady {w : World} {B Bl D C : Nat} {xs : List Nat} (h1 : Bl ≠ D) (h2 : Bl ≠ D + 1) (h3 : B ≤ D) (h4 : 0 < B) (h5 : B ≤ w.heap.size) : Steady D (Coll w B Bl D C xs) := by
  rintro W W' ⟨A, q, c, hb, hl, hj, hB, hT⟩ hc
  refine ⟨A, q, c, (hc.same _ (lt_of_block hb) (by simp only [List.mem_cons, List.not_mem_nil, or_false]; omega)).trans hb, hl.chg hc (fun k hk hm => ?_), hj, hB.trans (hc.toBelow (fun k hk => ?_) (Nat.le_trans h5 hB.size)), hT.chg hc (by simp only [List.mem_cons, List.not_mem_nil, or_false]; omega)⟩
  · have := hj k hk
    simp only [List.mem_cons, List.not_mem_nil, or_false] at hm
    omega
  · simp only [List.mem_cons, List.not_mem_nil, or_false] at hk
    omega
/-- One number more is collected. -/
theorem Coll.push {w W : World} {B Bl D C : Nat} {xs : List Nat} (h : Coll w B Bl D C xs W) (hBl : B ≤ Bl) (hlb : 0 < B) (hBw : B ≤ w.heap.size) (hD1 : D + 1 < W.heap.size) (hC : C < W.heap.size) (hne : Bl ≠ D ∧ Bl ≠ D + 1 ∧ Bl ≠ C) (x : Nat) (hx : x < 65536) (hn : xs.length ≤ 100000) (ty : TypeId) :
    ∃ A q c, W.cell? ⟨Bl, 0, none⟩ = some (.slice A q c) ∧ ∃ A' c' W2, (Builtin.append_ #[22, 22] ty #[.slice A q c, .slice (some ⟨W.heap.size, 0, none⟩) 1 1]).run Tryd.prog (W.alloc (.cells #[.int .i64 (x : Int)] 3)) = .ok (.slice A' (q + 1) c') W2 ∧
      W2.cell? ⟨Bl, 0, none⟩ = some (.slice A q c) ∧ W2.frozen? ⟨Bl, 0, none⟩ = false ∧ Keeps3 D C W (W2.setCell ⟨Bl, 0, none⟩ (.slice A' (q + 1) c')) ∧ Coll w B Bl D C (xs ++ [x]) (W2.setCell ⟨Bl, 0, none⟩ (.slice A' (q + 1) c')) ∧
      Chg (Bl :: blk A) W (W2.setCell ⟨Bl, 0, none⟩ (.slice A' (q + 1) c')) := by
  obtain ⟨A, q, c, hb, hl, hj, hB, hT⟩ := h
  have hq : q = xs.length := by have := hl.1; rw [cellsI_length, asZ_length] at this; omega
  obtain ⟨A', c', W2, hr, hl2, hc2, hf2⟩ := line_push W 22 3 ty (.int .i64 0) 8 Tryd.underlying22 info_int rfl (by decide) A q c _ hl (one_I _) (by omega) (.int .i64 (x : Int)) rfl
  have hBlA : Bl ∉ blk A := fun hm => (hj _ hm).2.1 rfl
  have hb2 : W2.heap[Bl]? = some (.cells #[.slice A q c] 22 (0, 0)) := (hc2.same _ (lt_of_block hb) hBlA).trans hb
  have hC3 : Chg (Bl :: blk A) W (W2.setCell ⟨Bl, 0, none⟩ (.slice A' (q + 1) c')) := (hc2.weaken (fun k hk => .inl (List.mem_cons_of_mem _ hk))).setCell Bl 0 _ (.inl (List.mem_cons_self ..))
  have hBlA' : Bl ∉ blk A' := fun hm => by
    rcases hf2 _ hm with h1 | h1
    · exact hBlA h1
    · have := lt_of_block hb; omega
  refine ⟨A, q, c, cell_of_one hb, A', c', W2, hr, cell_of_one hb2, free_of_one hb2, hC3.keeps3 hD1 hC ?_ ?_ ?_, ⟨A', q + 1, c', one_setCell hb2, ?_, ?_, hB.trans (hC3.toBelow ?_ (Nat.le_trans hBw hB.size)), hT.chg hC3 ?_⟩, hC3⟩
  · simp only [List.mem_cons, not_or]
    exact ⟨fun e => hne.1 e.symm, fun hm => (hj _ hm).2.2.1 rfl⟩
  · simp only [List.mem_cons, not_or]
    exact ⟨fun e => hne.2.1 e.symm, fun hm => (hj _ hm).2.2.2.1 rfl⟩
  · simp only [List.mem_cons, not_or]
    exact ⟨fun e => hne.2.2 e.symm, fun hm => (hj _ hm).2.2.2.2 rfl⟩
  · rw [asZ_append, cellsI_append]
    exact hl2.same (by simp [World.setCell]) (fun k hk => heap_setCell_other W2 ⟨Bl, 0, none⟩ k _ (fun e => hBlA' (by have e' : k = Bl := e; rw [← e']; exact hk)))
  · intro k hk
    rcases hf2 k hk with h1 | h1
    · exact hj k h1
    · have := hB.size
      have := lt_of_block hb
      omega
  · intro k hk
    rcases List.mem_cons.1 hk with rfl | hk
    · exact hBl
    · exact (hj k hk).1
  · simp only [List.mem_cons, not_or]
    exact ⟨by omega, fun hm => by have := (hj _ hm).1; omega⟩
theorem equalIn_func_nil (w : World) (d : Nat) (fn : Fn) (first cap : Array Value) : (Op.equalIn (d + 1) 38 (.func fn first cap) .nilFunc).run Tryd.prog w = .ok false w := by
  simp [Op.equalIn, run_underlying Tryd.underlying38]
theorem eql_func_nil (w : World) (fn : Fn) (first cap : Array Value) : (binOp .eql 38 (.func fn first cap) .nilFunc).run Tryd.prog w = .ok (.bool false) w := by
  simp only [binOp]
  simp [Op.equal, Op.maxDepth, equalIn_func_nil w 9999]
set_option maxHeartbeats 1000000 in
theorem all_any (w : World) (p : Option Addr) (v : Value) (ws : List Nat) (hA : At w p v ws) (hT : TabOk w) :
    Calls Tryd.prog 13 #[.pointer p] w fun e w' => ∃ A c, e = .returned (.tuple #[.slice A (elemsZ ws).length c, .bool true]) ∧ Ints w' A (elemsZ ws).length (elemsZ ws) ∧ Below w.heap.size w w' ∧ ∀ j ∈ blk A, w.heap.size ≤ j := by
  have heq := eql_func_nil
  refine (callsIn_wide (n := 8)).1 ?_
  have HA := Lib.hid hA
  have HT := Lib.hid hT
  clear hA hT
  refine callsIn_of_wp_marks Tryd.func13 rfl trivial ?_ rfl
  simp only [Tryd.ntmps13, List.size_toArray, List.length_cons, List.length_nil, Nat.reduceAdd, Nat.reduceSub, Array.replicate_succ, Array.replicate_zero, List.push_toArray, List.append_toArray, List.nil_append, List.cons_append]
  gi_wp2_with (refine ⟨trivial, ?_⟩; gi_at_call 24; refine (callsIn_wide.2 (each_any _ p)).mono ?_; rintro e w' ⟨rfl, rfl⟩)
  obtain ⟨W0, hW0⟩ : ∃ W0, (w.alloc (.cells #[.slice none 0 0] 22)).alloc (.cells #[.pointer p] 23) = W0 := ⟨_, rfl⟩
  have hs0 : W0.heap.size = w.heap.size + 2 := by rw [← hW0]; simp
  have hB0 : Below w.heap.size w W0 := by rw [← hW0]; exact ((Below.refl _ w).alloc (Nat.le_refl _) _).alloc (by simp) _
  have hbx : W0.cell? ⟨w.heap.size + 1, 0, none⟩ = some (.pointer p) := by
    have := heap_alloc_new (w.alloc (.cells #[.slice none 0 0] 22)) (.cells #[.pointer p] 23)
    rw [World.size_alloc, hW0] at this
    exact cell_of_one this
  have hbl : W0.heap[w.heap.size]? = some (.cells #[.slice none 0 0] 22 (0, 0)) := by
    rw [← hW0]
    exact (Below.heap_alloc _ _ _ (by simp)).trans (heap_alloc_new w _)
  have hA0 : At W0 p v ws := by
    rcases HA.out with h | ⟨b, e, h⟩
    · exact .inl h
    · exact .inr ⟨b, e, h.below hB0⟩
  have hg0 : 0 < w.heap.size := HT.out.1
  have HB0 := Lib.hid hB0
  have HBL := Lib.hid hbl
  have hT0 := HT.out.below hB0 hg0
  rw [hW0]
  refine range_set 8 (by decide) rfl rfl p v ws hbx hA0 (fun C => Coll w w.heap.size w.heap.size W0.heap.size C) (fun _ _ _ _ => False) ?hI (fun _ _ _ _ _ h _ => h) (fun C xs W h => by obtain ⟨A, q, c, _, _, _, _, ht⟩ := h; exact ht) ?h0
    (fun x => { tmps := #[.pointer p, undef, .slice none 0 0, .bool false, .pointer (some ⟨w.heap.size, 0, none⟩), .func (.func 37) #[] #[.pointer (some ⟨w.heap.size + 1, 0, none⟩)], .int .i64 (x : Int), .pointer p, .func (.func 37) #[] #[.pointer (some ⟨w.heap.size + 1, 0, none⟩)], .func (.func 37) #[] #[.pointer (some ⟨w.heap.size + 1, 0, none⟩)], .bool false, .func (.func 37) #[] #[.pointer (some ⟨w.heap.size + 1, 0, none⟩)], .int .i64 (x : Int), undef, undef, undef, undef, undef], defers := [] }) ?assign ?body ?done ?stop
  case hI =>
    intro C xs
    exact Coll.steady (by omega) (by omega) (by omega) hg0 (Nat.le_refl _)
  case h0 =>
    intro C W hC hb
    exact ⟨none, 0, 0, (hb.block _ (by omega)).trans hbl, LineAt.nil _, (fun j hj => by cases hj), hB0.trans (hb.mono (by omega)), hT0.below hb (by omega)⟩
  case assign =>
    intro x W K hK
    gi_wp2
    exact hK
  case body =>
    intro C pre x W hC hCW hD1 hI hpre
    have hx : x < 65536 := elems_lt ws (HA.out.slice).2.2 x (hpre.subset (by simp))
    have hn : pre.length ≤ 100000 := by
      have h1 := hpre.length_le
      have h2 := elems_length ws
      have h3 := (HA.out.slice).2.2
      simp only [List.length_append, List.length_cons, List.length_nil] at h1
      omega
    obtain ⟨A, q, c, hc1, A', c', W2, hr, hc2, hf2, hK, hI2, _⟩ := hI.push (Nat.le_refl _) hg0 (Nat.le_refl _) hD1 hCW ⟨by omega, by omega, by omega⟩ x hx hn 22
    have HR := Lib.hid hr
    have HK := Lib.hid hK
    have HI2 := Lib.hid hI2
    clear hr hK hI2 hI hpre
    gi_wp2_with (gi_at_builtin; refine wpListIn_append_run _ rfl _ _ _ _ rfl _ _ rfl rfl _ _ HR.out ?_)
    exact ⟨HK.out, HI2.out⟩
  case done =>
    rintro C W ⟨A, q, c, h1, h2, h3, h4, h5⟩ hK
    have hc := cell_of_one h1
    have hq : q = (elemsZ ws).length := by have := h2.1; rw [cellsI_length] at this; exact this.symm
    have HX : Hid (∀ W', Chg [W0.heap.size] W W' → Ints W' A q (elemsZ ws) ∧ Below w.heap.size w W') := Lib.hid (fun W' hc' => ⟨(h2.chg hc' (fun k hk hm => (h3 k hk).2.2.1 (by simpa using hm))).ints (fit_asZ _ (elems_lt ws (HA.out.slice).2.2)), h4.trans (hc'.toBelow (fun k hk => by simp only [List.mem_singleton] at hk; omega) h4.size)⟩)
    have HJ := Lib.hid (fun j hj => (h3 j hj).1)
    have HQ := Lib.hid hq
    have HKD := Lib.hid hK
    clear h1 h2 h3 h4 h5 hq hK
    gi_wp2
    refine ⟨by simp, .inl ⟨_, _, rfl, run_takeDeferred HKD.out, ?_⟩⟩
    obtain ⟨hX, hY⟩ := HX.out _ (chg_putObj W W0.heap.size (.deferred none))
    rw [← HQ.out]
    exact ⟨_, results_tmp2 rfl _ _ _, A, c, rfl, hX, hY, HJ.out⟩
  case stop =>
    intro C c pre W _ h _
    exact h.elim
end Go.Proofs.YtjkcomoadpileaaDoor
