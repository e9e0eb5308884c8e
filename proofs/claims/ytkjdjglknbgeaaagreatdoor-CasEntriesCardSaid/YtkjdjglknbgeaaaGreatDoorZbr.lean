/-
  The recovery of a store's files: the contract of cas's recovered, told of the abstract disk.
  The contract of cas's Open; stores that there aren't; records that are too long.
-/
import Derived.Test.YtkjdjglknbgeaaaGreatDoorZbp
import Derived.Test.YtkjdjglknbgeaaaGreatDoorZbq
import Derived.Test.YtkjdjglknbgeaaaGreatDoorZbk
namespace Go.Proofs.YtkjdjglknbgeaaaGreatDoor
open Go.RowKit Go.Shelf Go.Maps
attribute [local go_sem] Oper.semAt_some
set_option linter.unusedVariables false
set_option maxRecDepth 100000

theorem RootsOk.same {w w' : World} (h : RootsOk w) (hz : w.heap.size ≤ w'.heap.size) (hs : w'.heap[2]? = w.heap[2]?) : RootsOk w' :=
  ⟨Nat.lt_of_lt_of_le h.1 hz, fun t ht => (World.cell?_of_block (w := w) (a := ⟨2, t, none⟩) hs).trans (h.2 t ht)⟩
theorem RootsOk.only {w w' : World} {own own' : Nat → Nat} (h : RootsOk w) (hO : Only own w own' w') (h0 : own 2 = 0) : RootsOk w' := h.same hO.1.size (hO.2.2 _ h.1 h0)
/-- What a loop over a disk goes over, with the names in order. -/
theorem IsD.each2 {w : World} {d : Nat} {own : Nat → Nat} {r : RD} (h : IsD w d own r) : ∃ (A : Option Addr) (n c : Nat) (ps : List (ByteArray × Value)) (zf : Value → List Int), RowAtS w d 2 A n c ps ∧ n ≤ 90000 ∧ FilesZ w zf ps ∧ ps.map (·.1) = r.now.map (·.1) ∧ ∀ p ∈ ps, hasP ltS r.now p.1 = true ∧ (r.get p.1).data = cellsZ (zf p.2) := by
  obtain ⟨_, b, F, fn, fc, RA, rn, rc, SA, sn, sc, C, cn, cc, fs, ps, ss, css, chl, nm, dt, su, H, R⟩ := h
  refine ⟨RA, rn, rc, ps, fun v => (dt v).map zOf, H.nowAt.rowAt, H.nowAt.len, fun p hp => ?_, by rw [H.rnow R]; unfold mapT; rw [List.map_map]; rfl, fun p hp => ?_⟩
  · obtain ⟨f, A, n, c, ef, _, hfa, hsl, _, hn1, _⟩ := H.file p.2 (H.nin p hp)
    obtain ⟨z1, z2⟩ := zOf_cells (dt p.2) (H.bytes p.2 (H.nin p hp))
    exact ⟨f, _, A, n, c, _, ef, hfa, by rw [← z1]; exact hsl, by omega, z2⟩
  · obtain ⟨x, v⟩ := p
    have hlk : lookP ltS ps x = some v := (look_some orders_S H.nrow.rises).2 hp
    refine ⟨by rw [H.rnow R, has_tag]; unfold hasP; rw [hlk]; rfl, ?_⟩
    rw [(H.rnum R x v hlk).2]
    exact (zOf_cells (dt v) (H.bytes v (H.nin _ hp))).1
/-- The recovery's steps: file by file; then the directory, if some went. -/
def recL (dn : Nat) : List (ByteArray × List Nat) → Bool → RD → Int × RD
  | [], sm, r => if sm = true then r.syncDir else (0, r)
  | (x, b) :: t, sm, r => if namedB x = true ∧ soundN x b dn = none then (if (r.remove x).1 = 0 then recL dn t true (r.remove x).2 else r.remove x) else recL dn t sm r
def filesR (r : RD) : List (ByteArray × List Nat) := (r.now.map (·.1)).map fun x => (x, natsV (r.get x).data)
def recR (r : RD) (dn : Nat) : Int × RD := recL dn (filesR r) false r
/-- All but the blocks of L are as they were, of those that are nobody's. -/
def OnlyX (L : List Nat) (own : Nat → Nat) (w : World) (own' : Nat → Nat) (w' : World) : Prop := Below 0 w w' ∧ (∀ i, i < w.heap.size → own' i = own i) ∧ ∀ i, i < w.heap.size → own i = 0 → i ∉ L → w'.heap[i]? = w.heap[i]?
/-- Names and bytes, copied into blocks of nobody's. -/
def HeldO (own : Nat → Nat) (B C : Nat) (zf : Value → List Int) (ps ys : List (ByteArray × Value)) (W : World) : Prop :=
  ys.length = ps.length ∧ ∀ (i : Nat) (p : ByteArray × Value), ps[i]? = some p → ∃ (A : Option Addr) (c : Nat), ys[i]? = some (p.1, .slice A (zf p.2).length c) ∧ RowZ W A (zf p.2).length (zf p.2) ∧ ((zf p.2).length ≤ c ∧ c ≤ 9223372036854775807) ∧ ∀ k ∈ blk A, B ≤ k ∧ k < W.heap.size ∧ k ≠ C ∧ own k = 0
theorem HeldO.only {own own' : Nat → Nat} {B C : Nat} {zf : Value → List Int} {ps ys : List (ByteArray × Value)} {W W' : World} (h : HeldO own B C zf ps ys W) (hO : Only own W own' W') : HeldO own' B C zf ps ys W' := by
  refine ⟨h.1, fun i p hp => ?_⟩
  obtain ⟨A, c, e, hr, hc, hb⟩ := h.2 i p hp
  have hz := hO.1.size
  exact ⟨A, c, e, rowZ_same hr hz (fun k hk => hO.2.2 k (hb k hk).2.1 (hb k hk).2.2.2), hc, fun k hk => ⟨(hb k hk).1, by have := (hb k hk).2.1; omega, (hb k hk).2.2.1, (hO.2.1 k (hb k hk).2.1).trans (hb k hk).2.2.2⟩⟩
theorem HeldO.chg {own : Nat → Nat} {B C : Nat} {zf : Value → List Int} {ps ys : List (ByteArray × Value)} {W W' : World} {L : List Nat} (h : HeldO own B C zf ps ys W) (hc : Chg L W W') (hL : ∀ k ∈ L, k < B) : HeldO own B C zf ps ys W' := by
  refine ⟨h.1, fun i p hp => ?_⟩
  obtain ⟨A, c, e, hr, hcc, hb⟩ := h.2 i p hp
  have hz := hc.size
  exact ⟨A, c, e, rowZ_same hr hz (fun k hk => hc.same k (hb k hk).2.1 (fun hm => by have := hL k hm; have := (hb k hk).1; omega)), hcc, fun k hk => ⟨(hb k hk).1, by have := (hb k hk).2.1; omega, (hb k hk).2.2⟩⟩
/-- The loop's state. -/
structure RecI (dn : Nat) (W3 : World) (hh d : Nat) (own : Nat → Nat) (r : RD) (zf : Value → List Int) (ps : List (ByteArray × Value)) (lst : List (ByteArray × List Nat)) (out : Int × RD) (C : Nat) (ys pre : List (ByteArray × Value)) (W : World) (own' : Nat → Nat) (r' : RD) (sm : Bool) : Prop where
  only : OnlyX [hh + 2, hh + 3] own W3 own' W
  disk : IsD W d own' r'
  size : r'.size ≤ r.size + 4 * pre.length
  held : HeldO own' (W3.heap.size + 2) C zf ps ys W
  le : pre.length ≤ ps.length
  zero : own' W3.heap.size = 0 ∧ own' (W3.heap.size + 1) = 0 ∧ own' C = 0
  res : W.heap[hh + 2]? = some (.cells #[.int .i64 0] 24 (0, 0))
  some_ : W.heap[hh + 3]? = some (.cells #[.bool sm] 4 (0, 0))
  run : out = recL dn (lst.drop pre.length) sm r'
def RecS (dn : Nat) (W3 : World) (hh d : Nat) (own : Nat → Nat) (r : RD) (zf : Value → List Int) (ps : List (ByteArray × Value)) (lst : List (ByteArray × List Nat)) (out : Int × RD) (C : Nat) (ys pre : List (ByteArray × Value)) (W : World) : Prop := ∃ own' r' sm, RecI dn W3 hh d own r zf ps lst out C ys pre W own' r' sm
def RecX (w : World) (hh d : Nat) (own : Nat → Nat) (D : Nat) (out : Int × RD) (cc : Code) (W : World) : Prop := cc = Code.ret ∧ W.heap[hh + 2]? = some (.cells #[.int .i64 out.1] 24 (0, 0)) ∧ ∃ own', Only own w own' W ∧ IsD W d own' out.2 ∧ own' D = 0 ∧ own' (D + 1) = 0
theorem results_rec (tmps : Array Value) (w : World) (g : Nat) (v : Value) (hp : tmps.getD 4 undef = .pointer (some ⟨g, 0, none⟩)) (hv : w.cell? ⟨g, 0, none⟩ = some v) : (results Tryz.f53 tmps).run Tryz.prog w = .ok v w := by
  have hp' : tmps[4]?.getD undef = .pointer (some ⟨g, 0, none⟩) := by simpa using hp
  simp [results, Tryz.results53, hp', asAddr, go_sem, hv]
theorem OnlyX.trans {L : List Nat} {own own' own2 : Nat → Nat} {w w' w2 : World} (h : OnlyX L own w own' w') (hO : Only own' w' own2 w2) : OnlyX L own w own2 w2 := by
  have hz := h.1.size
  refine ⟨h.1.trans hO.1, fun i hi => (hO.2.1 i (by omega)).trans (h.2.1 i hi), fun i hi h0 hl => (hO.2.2 i (by omega) ((h.2.1 i hi).trans h0)).trans (h.2.2 i hi h0 hl)⟩
theorem OnlyX.chg {L M : List Nat} {own own' : Nat → Nat} {w w' w2 : World} (h : OnlyX L own w own' w') (hc : Chg M w' w2) (hM : ∀ k ∈ M, k ∈ L ∨ w.heap.size ≤ k) : OnlyX L own w own' w2 := by
  have hz := h.1.size
  refine ⟨h.1.trans (hc.toBelow (fun k hk => Nat.zero_le _) (Nat.zero_le _)), h.2.1, fun i hi h0 hl => (hc.same i (by omega) (fun hm => ?_)).trans (h.2.2 i hi h0 hl)⟩
  rcases hM i hm with q | q
  · exact hl q
  · omega
theorem recL_go {dn : Nat} {x : ByteArray} {b : List Nat} {t : List (ByteArray × List Nat)} {sm : Bool} {r : RD} (h : ¬ (namedB x = true ∧ soundN x b dn = none)) : recL dn ((x, b) :: t) sm r = recL dn t sm r := by
  show (if _ then _ else _) = _
  rw [if_neg h]
theorem recL_rem {dn : Nat} {x : ByteArray} {b : List Nat} {t : List (ByteArray × List Nat)} {sm : Bool} {r : RD} (h : namedB x = true ∧ soundN x b dn = none) : recL dn ((x, b) :: t) sm r = if (r.remove x).1 = 0 then recL dn t true (r.remove x).2 else r.remove x := by
  show (if _ then _ else _) = _
  rw [if_pos h]
section
variable {dn : Nat} {W3 W W' W2 : World} {hh d : Nat} {own own' own2 : Nat → Nat} {r r' r2 : RD} {zf : Value → List Int} {ps ys pre : List (ByteArray × Value)} {lst : List (ByteArray × List Nat)} {out : Int × RD} {C : Nat} {sm : Bool}
theorem RecI.own0 (h : RecI dn W3 hh d own r zf ps lst out C ys pre W own' r' sm) (hz : W3.heap.size = hh + 5) (hO : ∀ i, hh ≤ i → own i = 0) (i : Nat) (h1 : hh ≤ i) (h2 : i < hh + 5) : own' i = 0 := (h.only.2.1 i (by omega)).trans (hO i h1)
theorem RecI.still (h : RecI dn W3 hh d own r zf ps lst out C ys pre W own' r' sm) (hz : W3.heap.size = hh + 5) (hc : Chg [W3.heap.size, W3.heap.size + 1] W W') : RecI dn W3 hh d own r zf ps lst out C ys pre W' own' r' sm := by
  have nE : ∀ k, k < hh + 5 → k ∉ [W3.heap.size, W3.heap.size + 1] := fun k hk hm => by simp only [List.mem_cons, List.not_mem_nil, or_false] at hm; omega
  exact { h with
    only := h.only.chg hc (fun k hk => by simp only [List.mem_cons, List.not_mem_nil, or_false] at hk; exact .inr (by omega))
    disk := h.disk.chg hc (fun k hk => by
      simp only [List.mem_cons, List.not_mem_nil, or_false] at hk
      rcases hk with rfl | rfl
      · exact h.zero.1
      · exact h.zero.2.1)
    held := h.held.chg hc (fun k hk => by simp only [List.mem_cons, List.not_mem_nil, or_false] at hk; omega)
    res := (hc.same _ (lt_of_block h.res) (nE _ (by omega))).trans h.res
    some_ := (hc.same _ (lt_of_block h.some_) (nE _ (by omega))).trans h.some_ }
theorem RecI.more (h : RecI dn W3 hh d own r zf ps lst out C ys pre W own' r' sm) (x : ByteArray × Value) (hl : pre.length < ps.length) (hrun : out = recL dn (lst.drop (pre.length + 1)) sm r') : RecI dn W3 hh d own r zf ps lst out C ys (pre ++ [x]) W own' r' sm := by
  have e : (pre ++ [x]).length = pre.length + 1 := by simp
  exact { h with
    size := by rw [e]; have := h.size; omega
    le := by rw [e]; omega
    run := by rw [e]; exact hrun }
/-- A file was removed, and so it is noted. -/
theorem RecI.gone (h : RecI dn W3 hh d own r zf ps lst out C ys pre W own' r' sm) (hz : W3.heap.size = hh + 5) (hO : ∀ i, hh ≤ i → own i = 0) (hC : C < W.heap.size) (hD : W3.heap.size + 1 < W.heap.size) (hOn : Only own' W own2 W2) (hI : IsD W2 d own2 r2) (hs : r2.size ≤ r'.size + 4) (x : ByteArray × Value) (hl : pre.length < ps.length) (hrun : out = recL dn (lst.drop (pre.length + 1)) true r2) (hCn : W3.heap.size + 2 ≤ C) :
    RecI dn W3 hh d own r zf ps lst out C ys (pre ++ [x]) (W2.setCell ⟨hh + 3, 0, none⟩ (.bool true)) own2 r2 true ∧ KeepsIt W3.heap.size C W (W2.setCell ⟨hh + 3, 0, none⟩ (.bool true)) := by
  have e : (pre ++ [x]).length = pre.length + 1 := by simp
  have hzW := h.only.1.size
  have o2 : ∀ k, k < W.heap.size → own' k = 0 → W2.heap[k]? = W.heap[k]? := fun k h1 h2 => hOn.2.2 k h1 h2
  have x2 : W2.heap[hh + 2]? = some (.cells #[.int .i64 0] 24 (0, 0)) := (o2 _ (by omega) (h.own0 hz hO _ (by omega) (by omega))).trans h.res
  have x3 : W2.heap[hh + 3]? = some (.cells #[.bool sm] 4 (0, 0)) := (o2 _ (by omega) (h.own0 hz hO _ (by omega) (by omega))).trans h.some_
  have hc : Chg [hh + 3] W2 (W2.setCell ⟨hh + 3, 0, none⟩ (.bool true)) := (Chg.refl _ _).setCell (hh + 3) 0 _ (.inl (by simp))
  have ho3 : own2 (hh + 3) = 0 := (hOn.2.1 _ (by omega)).trans (h.own0 hz hO _ (by omega) (by omega))
  have nE : ∀ k, k ≠ hh + 3 → k ∉ [hh + 3] := fun k hk hm => hk (by rw [List.mem_singleton] at hm; exact hm)
  have hz2 := hOn.1.size
  have kp : ∀ k, k < W.heap.size → own' k = 0 → k ≠ hh + 3 → (W2.setCell ⟨hh + 3, 0, none⟩ (.bool true)).heap[k]? = W.heap[k]? := fun k h1 h2 h3 => (hc.same k (by omega) (nE k h3)).trans (o2 k h1 h2)
  refine ⟨⟨(h.only.trans hOn).chg hc (fun k hk => .inl (by rw [List.mem_singleton] at hk; rw [hk]; simp)), hI.chg hc (fun k hk => by rw [List.mem_singleton] at hk; rw [hk]; exact ho3), by rw [e]; have := h.size; omega, (h.held.only hOn).chg hc (fun k hk => by rw [List.mem_singleton] at hk; omega), by rw [e]; omega, ⟨(hOn.2.1 _ (by omega)).trans h.zero.1, (hOn.2.1 _ hD).trans h.zero.2.1, (hOn.2.1 _ hC).trans h.zero.2.2⟩, (hc.same _ (lt_of_block x2) (nE _ (by omega))).trans x2, one_setCell x3, by rw [e]; exact hrun⟩, ?_⟩
  exact ⟨by have := hc.size; omega, kp _ (by omega) h.zero.1 (by omega), kp _ hD h.zero.2.1 (by omega), kp _ hC h.zero.2.2 (by omega)⟩
end
theorem KeepsIt.of_below {D C : Nat} {W W' : World} (hb : Below W.heap.size W W') (h1 : D + 1 < W.heap.size) (h2 : C < W.heap.size) : KeepsIt D C W W' := (Chg.of_below (l := []) hb).keepsIt h1 h2 (by simp) (by simp) (by simp)
set_option maxHeartbeats 3200000 in
theorem recovered_any (w : World) (d dn : Nat) (own : Nat → Nat) (r : RD) (hD : IsD w d own r) (hsm : SmallD r) (hdn : dn ≤ 64) (hR : RootsOk w) (hro : own 2 = 0) (hnm : ∀ p ∈ r.now, p.1.size ≤ 1000) (hsz : r.size + 4 * r.now.length + 40 ≤ 80000) :
    Calls Tryz.prog 53 #[.pointer (some ⟨d, 0, none⟩), .int .i64 (dn : Int)] w fun e w' => e = .returned (.int .i64 (recR r dn).1) ∧ DNext w d own (recR r dn).2 w' := by
  refine (callsIn_wide (n := 8)).1 ?_
  refine callsIn_of_wp_marks Tryz.func53 rfl trivial ?_ rfl
  simp only [Tryz.ntmps53, List.size_toArray, List.length_cons, List.length_nil, Nat.reduceAdd, Nat.reduceSub, Array.replicate_succ, Array.replicate_zero, List.push_toArray, List.append_toArray, List.nil_append, List.cons_append]
  refine wpIn_wide.2 ?_
  obtain ⟨hh, hhe⟩ : ∃ hh, w.heap.size = hh := ⟨_, rfl⟩
  obtain ⟨out, hout⟩ : ∃ out, recR r dn = out := ⟨_, rfl⟩
  rw [hout]
  obtain ⟨W2, hW2⟩ : ∃ W2, (((w.alloc (.cells #[.pointer (some ⟨d, 0, none⟩)] 35)).alloc (.cells #[.int .i64 (dn : Int)] 3)).alloc (.cells #[.int .i64 0] 24)).alloc (.cells #[.bool false] 4) = W2 := ⟨_, rfl⟩
  have hWW := hW2
  have hb1 : Below w.heap.size w ((w.alloc (.cells #[.pointer (some ⟨d, 0, none⟩)] 35)).alloc (.cells #[.int .i64 (dn : Int)] 3)) := (two_new w _ _).2.2
  have hs1 : ((w.alloc (.cells #[.pointer (some ⟨d, 0, none⟩)] 35)).alloc (.cells #[.int .i64 (dn : Int)] 3)).heap.size = hh + 2 := by rw [← hhe]; simp
  have k0 := (two_new w (.cells #[.pointer (some ⟨d, 0, none⟩)] 35) (.cells #[.int .i64 (dn : Int)] 3)).2.1
  have k1 := (two_new w (.cells #[.pointer (some ⟨d, 0, none⟩)] 35) (.cells #[.int .i64 (dn : Int)] 3)).1
  generalize (w.alloc (.cells #[.pointer (some ⟨d, 0, none⟩)] 35)).alloc (.cells #[.int .i64 (dn : Int)] 3) = W1 at hb1 hs1 k0 k1 hW2
  have hb2 : Below W1.heap.size W1 W2 := by rw [← hW2]; exact (two_new W1 _ _).2.2
  have hs2 : W2.heap.size = hh + 4 := by rw [← hW2]; simp [hs1]
  have k2 : W2.heap[hh + 2]? = some (.cells #[.int .i64 0] 24 (0, 0)) := by rw [← hW2, ← hs1]; exact (two_new W1 _ _).2.1
  have k3 : W2.heap[hh + 3]? = some (.cells #[.bool false] 4 (0, 0)) := by rw [← hW2, show hh + 3 = W1.heap.size + 1 by omega]; exact (two_new W1 _ _).1
  rw [hhe] at k0 k1
  have k0 := (hb2.block hh (by omega)).trans k0
  have k1 := (hb2.block (hh + 1) (by omega)).trans k1
  have hbw2 : Below w.heap.size w W2 := hb1.trans (hb2.mono hb1.size)
  have y0 := cell_of_one k0
  have y3 := cell_of_one k3
  have f3 := free_of_one k3
  have hsc : W2.setCell ⟨hh + 3, 0, none⟩ (.bool false) = W2 := setCell_keep k3 rfl
  have HK0 := Lib.hid k0
  have HK1 := Lib.hid k1
  have HK2 := Lib.hid k2
  have HK3 := Lib.hid k3
  have HB2 := Lib.hid hbw2
  have HHE := Lib.hid hhe
  have HS2 := Lib.hid hs2
  have HD := Lib.hid hD
  have HRO := Lib.hid hR
  have HOUT := Lib.hid hout
  have HSM := Lib.hid hsm
  have HNM := Lib.hid hnm
  clear hb1 hs1 k0 k1 k2 k3 hb2 hs2 hbw2 hD hR hout
  go_wp2_with fail
  refine (eachD _ (some ⟨d, 0, none⟩)).mono ?_
  rintro e9 w9 ⟨rfl, rfl⟩
  obtain ⟨W3, hW3⟩ : ∃ W3, W2.alloc (.cells #[.pointer (some ⟨d, 0, none⟩)] 35) = W3 := ⟨_, rfl⟩
  have hs2 := HS2.out
  have hb3 : Below W2.heap.size W2 W3 := by rw [← hW3]; exact (Below.refl _ W2).alloc (Nat.le_refl _) _
  have hs3 : W3.heap.size = hh + 5 := by rw [← hW3]; simp [hs2]
  have k4 : W3.heap[hh + 4]? = some (.cells #[.pointer (some ⟨d, 0, none⟩)] 35 (0, 0)) := by rw [← hW3, ← hs2]; exact heap_alloc_new W2 _
  rw [hs2, hW3]
  have HJ0 := Lib.hid ((hb3.block hh (by omega)).trans HK0.out)
  have HJ1 := Lib.hid ((hb3.block (hh + 1) (by omega)).trans HK1.out)
  have HJ2 := Lib.hid ((hb3.block (hh + 2) (by omega)).trans HK2.out)
  have HJ3 := Lib.hid ((hb3.block (hh + 3) (by omega)).trans HK3.out)
  have HJ4 := Lib.hid k4
  have HB3 : Hid (Below w.heap.size w W3) := Lib.hid (HB2.out.trans (hb3.mono HB2.out.size))
  have HS3 := Lib.hid hs3
  have HD3 := Lib.hid (HD.out.below HB3.out)
  obtain ⟨RA, rn, rc, ps, zf, hrow, hrn, hfz, hpl, hps⟩ := HD3.out.each2
  have hdl : d < W3.heap.size := World.block_lt_of_cell? W3 _ hrow.cell
  have HIT : Hid (∀ W1, Below W3.heap.size W3 W1 → IterX Tryz.prog 97 #[.pointer (some ⟨hh + 4, 0, none⟩)] arS 1 (fun B C ys V => HeldX B [C] zf ps ys V ∧ (C < V.heap.size ∨ ys = [])) W1) := Lib.hid (fun W1 hb => eachD1 W1 (hh + 4) d RA rn rc ps (cell_of_one ((hb.block (hh + 4) (by have := HS3.out; omega)).trans HJ4.out)) ⟨(hb.cell (p := ⟨d, 2, none⟩) hdl).trans hrow.cell, hrow.row.below hb⟩ hrn zf (hfz.below hb))
  have HZ : Hid (∀ i, hh ≤ i → own i = 0) := Lib.hid (fun i hi => HD.out.1 i (by have := HHE.out; omega))
  obtain ⟨lst, hlst⟩ : ∃ lst, filesR r = lst := ⟨_, rfl⟩
  have HLST : Hid (∀ (i : Nat) (p : ByteArray × Value), ps[i]? = some p → lst.drop i = (p.1, (zf p.2).map Int.toNat) :: lst.drop (i + 1) ∧ (zf p.2).length ≤ 90000 ∧ p.1.size ≤ 1000) := Lib.hid (fun i p hp => by
    obtain ⟨h1, h2⟩ := hps p (List.mem_of_getElem? hp)
    have hn : (r.now.map (·.1))[i]? = some p.1 := by rw [← hpl, List.getElem?_map, hp]; rfl
    have hl : lst[i]? = some (p.1, (zf p.2).map Int.toNat) := by
      rw [← hlst]
      unfold filesR
      rw [List.getElem?_map, hn]
      show some (p.1, natsV (r.get p.1).data) = _
      rw [h2]
      unfold natsV cellsZ
      rw [List.map_map]
      rfl
    obtain ⟨hi, e⟩ := List.getElem?_eq_some_iff.1 hl
    refine ⟨by rw [List.drop_eq_getElem_cons hi, e], ?_, ?_⟩
    · have h3 := HSM.out p.1 h1
      rw [h2, cellsZ_length] at h3
      exact h3
    · obtain ⟨q, hq, e2⟩ := List.mem_map.1 (List.mem_of_getElem? hn)
      rw [← e2]
      exact HNM.out q hq)
  have HLL : Hid (lst.length = ps.length ∧ ps.length = r.now.length) := Lib.hid (by
    have h := congrArg List.length hpl
    rw [List.length_map, List.length_map] at h
    refine ⟨?_, h⟩
    rw [← hlst]
    unfold filesR
    rw [List.length_map, List.length_map]
    exact h.symm)
  have HRUN0 : Hid (out = recL dn (lst.drop 0) false r) := Lib.hid (by rw [List.drop_zero, ← hlst]; exact HOUT.out.symm)
  clear hW2 hWW hW3 hb3 hs3 k4 HK0 HK1 HK2 HK3 HB2 HS2 hs2 y0 y3 f3 hsc hrow hrn hfz hpl hps hlst hsm hnm
  have hqro : 2 < hh := by have := HRO.out.1; omega
  go_wp2_with fail
  refine (wpIn_wide (n := 8)).1 ?_
  refine range_itX 8 1 (by decide) 97 #[.pointer (some ⟨hh + 4, 0, none⟩)] arS rfl eachD_enters (fun _ => rfl) _ HIT.out (fun C ys pre V => RecS dn W3 hh d own r zf ps lst out C ys pre V) (fun _ _ cc _ V => RecX w hh d own W3.heap.size out cc V) ?hI ?hIx ?h0 ?hab ?hdone ?hstop
  case hI =>
    rintro C ys pre V V' ⟨own', r', sm, h⟩ hc
    exact ⟨own', r', sm, h.still HS3.out hc⟩
  case hIx =>
    rintro C ys cc pre V V' ⟨rfl, h1, own', h2, h3, h4, h5⟩ hc
    have hz := HS3.out
    refine ⟨rfl, (hc.same _ (lt_of_block h1) (fun hm => by simp only [List.mem_cons, List.not_mem_nil, or_false] at hm; omega)).trans h1, own', ?_, h3.chg hc (fun k hk => by
      simp only [List.mem_cons, List.not_mem_nil, or_false] at hk
      rcases hk with rfl | rfl
      · exact h4
      · exact h5), h4, h5⟩
    have hq := HHE.out
    refine ⟨h2.1.trans (hc.toBelow (fun k hk => Nat.zero_le _) (Nat.zero_le _)), h2.2.1, fun i hi h0 => (hc.same i (by have := h2.1.size; omega) (fun hm => by simp only [List.mem_cons, List.not_mem_nil, or_false] at hm; omega)).trans (h2.2.2 i hi h0)⟩
  case h0 =>
    intro B C ys V hB hC hVs hb hX
    have hz := HS3.out
    refine ⟨own, r, false, ⟨hb.mono (Nat.zero_le _), fun _ _ => rfl, fun i hi _ _ => hb.block i hi⟩, HD3.out.below hb, by simp, ⟨hX.1.1, fun i p hp => ?_⟩, by simp, ⟨HZ.out _ (by omega), HZ.out _ (by omega), HZ.out _ (by omega)⟩, (hb.block _ (by omega)).trans HJ2.out, (hb.block _ (by omega)).trans HJ3.out, HRUN0.out⟩
    obtain ⟨A', c', e1, e2, e3, e4⟩ := hX.1.2 i p hp
    exact ⟨A', c', e1, e2, e3, fun k hk => ⟨by have := (e4 k hk).1; omega, (e4 k hk).2.1, fun e => (e4 k hk).2.2 (by rw [e]; simp), HZ.out _ (by have := (e4 k hk).1; omega)⟩⟩
  case hab =>
    apply Exists.intro
    refine ⟨?hassign, ?hbody⟩
    case hassign =>
      intro x W K hK
      unfold arS encS
      gi_wp2
      exact hK
    case hbody =>
      intro C ys pre x' Wr hC hCW hD1 hI hpre
      obtain ⟨nm, v⟩ := x'
      obtain ⟨own', r', sm, hR⟩ := hI
      have hz3 := HS3.out
      have hyx : ys[pre.length]? = some (nm, v) := by
        obtain ⟨t, rfl⟩ := hpre
        rw [List.append_assoc, List.getElem?_append_right (Nat.le_refl _), Nat.sub_self]
        rfl
      have hpl := (List.getElem?_eq_some_iff.1 hyx).1
      have hpl2 : pre.length < ps.length := by have := hR.held.1; omega
      obtain ⟨p, hp⟩ : ∃ p, ps[pre.length]? = some p := ⟨_, List.getElem?_eq_getElem hpl2⟩
      obtain ⟨FA, fc, e1, hrz, ⟨hcz1, hcz2⟩, _⟩ := hR.held.2 _ p hp
      rw [hyx] at e1
      obtain ⟨hl1, hl2, hl3⟩ := HLST.out _ p hp
      obtain ⟨px, pv⟩ := p
      obtain ⟨zs, hzs⟩ : ∃ zs, zf pv = zs := ⟨_, rfl⟩
      obtain ⟨L, hL⟩ : ∃ L, zs.length = L := ⟨_, rfl⟩
      simp only [Option.some.injEq, Prod.mk.injEq, hzs, hL] at e1
      simp only [hzs, hL] at hrz hl1 hl2 hl3 hcz1
      obtain ⟨rfl, rfl⟩ := e1
      obtain ⟨b, hb⟩ : ∃ b, zs.map Int.toNat = b := ⟨_, rfl⟩
      have hrow := hrz.toN
      rw [hb] at hrow hl1
      have hrun := hR.run
      rw [hl1] at hrun
      have hroot : RootsOk Wr := HRO.out.same (by have := HB3.out.size; have := hR.only.1.size; omega) ((hR.only.2.2 _ (by omega) hro (fun hm => by simp only [List.mem_cons, List.not_mem_nil, or_false] at hm; omega)).trans (HB3.out.block _ (by have := HHE.out; omega)))
      have y0 := cell_of_one ((hR.only.2.2 hh (by omega) (HZ.out _ (by omega)) (fun hm => by simp only [List.mem_cons, List.not_mem_nil, or_false] at hm; omega)).trans HJ0.out)
      have y1 := cell_of_one ((hR.only.2.2 (hh + 1) (by omega) (HZ.out _ (by omega)) (fun hm => by simp only [List.mem_cons, List.not_mem_nil, or_false] at hm; omega)).trans HJ1.out)
      have HSO := Lib.hid (sound_any Wr nm FA L fc b dn hdn hroot hl2 hcz1 hcz2 hrow)
      have HR := Lib.hid hR
      have HRUN := Lib.hid hrun
      have HPL := Lib.hid hpl2
      have HCW := Lib.hid hCW
      have HD1 := Lib.hid hD1
      clear hyx hpl hpl2 hp hrz hcz1 hcz2 hl1 hzs hL hb hrow hrun hroot hR hpre
      cases hs : soundN nm b dn with
      | some k =>
        gi_wp2
        refine ⟨trivial, ?_⟩
        gi_at_call 61
        refine (CallsIn.inRound _ (callsIn_wide.2 HSO.out)).mono ?_
        rintro e8 Wg ⟨ha, hbg⟩
        unfold SoundAns at ha
        rw [hs] at ha
        simp only at ha
        obtain ⟨A', c', rfl, _, _⟩ := ha
        have HFI := Lib.hid (And.intro (KeepsIt.of_below hbg HD1.out HCW.out) (show RecS dn W3 hh d own r zf ps lst out C ys (pre ++ [(nm, .slice FA L fc)]) Wg from ⟨own', r', sm, (HR.out.still HS3.out (Chg.of_below hbg)).more _ HPL.out (by rw [HRUN.out, recL_go (by rw [hs]; simp)])⟩))
        clear hbg
        gi_wp2
        refine ⟨trivial, ?_⟩
        gi_wp2
        exact HFI.out
      | none =>
        gi_wp2
        refine ⟨trivial, ?_⟩
        gi_at_call 61
        refine (CallsIn.inRound _ (callsIn_wide.2 HSO.out)).mono ?_
        rintro e8 Wg ⟨ha, hbg⟩
        unfold SoundAns at ha
        rw [hs] at ha
        simp only at ha
        subst ha
        have hRg := HR.out.still HS3.out (Chg.of_below hbg)
        have HNB := Lib.hid (named_any nm Wg)
        cases hnb : namedB nm with
        | false =>
          rw [hnb] at HNB
          have HFI := Lib.hid (And.intro (KeepsIt.of_below hbg HD1.out HCW.out) (show RecS dn W3 hh d own r zf ps lst out C ys (pre ++ [(nm, .slice FA L fc)]) Wg from ⟨own', r', sm, hRg.more _ HPL.out (by rw [HRUN.out, recL_go (by rw [hnb]; simp)])⟩))
          clear hbg hRg
          gi_wp2_with (refine ⟨trivial, ?_⟩; gi_at_call 89; refine (CallsIn.inRound _ (callsIn_wide.2 HNB.out)).mono ?_; rintro e9 Wn ⟨rfl, rfl⟩)
          exact HFI.out
        | true =>
          rw [hnb] at HNB
          have hgone := recL_rem (dn := dn) (x := nm) (b := b) (t := lst.drop (pre.length + 1)) (sm := sm) (r := r') ⟨hnb, hs⟩
          obtain ⟨a2, r2, hp⟩ : ∃ a2 r2, r'.remove nm = (a2, r2) := ⟨_, _, rfl⟩
          have hz2 : r2.size ≤ r'.size + 4 := by have h := size_remove (r := r') nm; rw [hp] at h; exact h
          have hsz' : r'.size + 4 ≤ 80000 := by have h1 := HR.out.size; have h2 := HLL.out; have h3 := HPL.out; omega
          have hrm := hRg.disk.remove hsz' nm (by omega)
          rw [hp] at hrm hgone
          simp only at hgone
          have HRM : Hid (Calls Tryz.prog 55 #[.pointer (some ⟨d, 0, none⟩), .string nm] Wg (LayK Wg d own' a2 r2)) := Lib.hid (hrm.mono fun e w' h => ⟨h.1, h.2⟩)
          have y0g := (hbg.cell (p := ⟨hh, 0, none⟩) (World.block_lt_of_cell? Wr _ y0)).trans y0
          have HRG := Lib.hid hRg
          have HGN := Lib.hid (HRUN.out.trans hgone)
          have HBG := Lib.hid hbg
          have HZ2 := Lib.hid hz2
          clear hbg hRg hgone hp hz2 hsz' hrm
          have hzg : C < Wg.heap.size ∧ W3.heap.size + 1 < Wg.heap.size := by have := HBG.out.size; have := HCW.out; have := HD1.out; omega
          have HZG := Lib.hid hzg
          clear hzg
          gi_wp2_with (first
            | (refine ⟨trivial, ?_⟩; gi_at_call 89; refine (CallsIn.inRound _ (callsIn_wide.2 HNB.out)).mono ?_; rintro e9 Wn ⟨rfl, rfl⟩)
            | fail)
          refine ⟨trivial, ?_⟩
          gi_at_call 55
          refine (CallsIn.inRound _ (callsIn_wide.2 HRM.out)).mono ?_
          rintro e9 Wm ⟨rfl, own2, hO2, hD2⟩
          have hz3' := HS3.out
          have hz9 := HRG.out.only.1.size
          have g0 := HRG.out.own0 HS3.out HZ.out
          have x2 : Wm.heap[hh + 2]? = some (.cells #[.int .i64 0] 24 (0, 0)) := (hO2.2.2 _ (by omega) (g0 _ (by omega) (by omega))).trans HRG.out.res
          have x3 : Wm.heap[hh + 3]? = some (.cells #[.bool sm] 4 (0, 0)) := (hO2.2.2 _ (by omega) (g0 _ (by omega) (by omega))).trans HRG.out.some_
          have c2 := cell_of_one x2
          have c3 := cell_of_one x3
          have f2 := free_of_one x2
          have f3 := free_of_one x3
          by_cases h0 : a2 = 0
          · subst h0
            have hg := HGN.out
            rw [if_pos rfl] at hg
            have hfin := HRG.out.gone HS3.out HZ.out HZG.out.1 HZG.out.2 hO2 hD2 HZ2.out (nm, .slice FA L fc) HPL.out hg hC
            have HFI := Lib.hid (And.intro (show KeepsIt W3.heap.size C Wr (Wm.setCell ⟨hh + 3, 0, none⟩ (.bool true)) from (KeepsIt.of_below HBG.out HD1.out HCW.out).trans hfin.2) (show RecS dn W3 hh d own r zf ps lst out C ys (pre ++ [(nm, .slice FA L fc)]) (Wm.setCell ⟨hh + 3, 0, none⟩ (.bool true)) from ⟨own2, r2, true, hfin.1⟩))
            clear hO2 hD2 x2 x3 hg hfin
            gi_wp2
            exact HFI.out
          · have hg := HGN.out
            rw [if_neg h0] at hg
            have h0b : (a2 == 0) = false := by rw [beq_eq_false_iff_ne]; exact h0
            have hc : Chg [hh + 2] Wm (Wm.setCell ⟨hh + 2, 0, none⟩ (.int .i64 a2)) := (Chg.refl _ _).setCell (hh + 2) 0 _ (.inl (by simp))
            have ho2 : own2 (hh + 2) = 0 := (hO2.2.1 _ (by omega)).trans (g0 _ (by omega) (by omega))
            have hzm := hO2.1.size
            have hX : KeepsIt W3.heap.size C Wr (Wm.setCell ⟨hh + 2, 0, none⟩ (.int .i64 a2)) ∧ RecX w hh d own W3.heap.size out Code.ret (Wm.setCell ⟨hh + 2, 0, none⟩ (.int .i64 a2)) := by
              have kp : ∀ k, k < Wg.heap.size → own' k = 0 → k ≠ hh + 2 → (Wm.setCell ⟨hh + 2, 0, none⟩ (.int .i64 a2)).heap[k]? = Wg.heap[k]? := fun k h1 h2 h3 => (hc.same k (by omega) (fun hm => h3 (by rw [List.mem_singleton] at hm; exact hm))).trans (hO2.2.2 k h1 h2)
              refine ⟨(KeepsIt.of_below HBG.out HD1.out HCW.out).trans ⟨by have := hc.size; omega, kp _ (by have := HZG.out.2; omega) HRG.out.zero.1 (by omega), kp _ HZG.out.2 HRG.out.zero.2.1 (by omega), kp _ HZG.out.1 HRG.out.zero.2.2 (by omega)⟩, rfl, by rw [hg]; exact one_setCell x2, own2, ?_, by rw [hg]; exact hD2.chg hc (fun k hk => by rw [List.mem_singleton] at hk; rw [hk]; exact ho2), (hO2.2.1 _ (by have := HZG.out.2; omega)).trans HRG.out.zero.1, (hO2.2.1 _ HZG.out.2).trans HRG.out.zero.2.1⟩
              have hox := (HRG.out.only.trans hO2).chg hc (fun k hk => .inl (by rw [List.mem_singleton] at hk; rw [hk]; simp))
              have hzw := HHE.out
              have hb3 := HB3.out
              refine ⟨(hb3.mono (Nat.zero_le _)).trans hox.1, fun i hi => hox.2.1 i (by omega), fun i hi h0 => (hox.2.2 i (by omega) h0 (fun hm => by simp only [List.mem_cons, List.not_mem_nil, or_false] at hm; omega)).trans (hb3.block i hi)⟩
            have HX := Lib.hid hX
            clear hO2 hD2 x2 x3 hg hc hX
            gi_wp2
            exact HX.out
  case hdone =>
    rintro C ys W ⟨own', r', sm, hR⟩ hKd
    have hz3 := HS3.out
    have hq := HHE.out
    have g0 := hR.own0 HS3.out HZ.out
    have hzW := hR.only.1.size
    have hdone : out = if sm = true then r'.syncDir else (0, r') := by
      have h1 := hR.run
      rw [List.drop_of_length_le (by have h2 := HLL.out.1; have h3 := hR.held.1; omega)] at h1
      exact h1
    have hrs : r'.size + 4 ≤ 80000 := by have h1 := hR.size; have h2 := HLL.out; have h3 := hR.held.1; omega
    have y0 := cell_of_one ((hR.only.2.2 hh (by omega) (HZ.out _ (by omega)) (fun hm => by simp only [List.mem_cons, List.not_mem_nil, or_false] at hm; omega)).trans HJ0.out)
    have c2 := cell_of_one hR.res
    have c3 := cell_of_one hR.some_
    have f2 := free_of_one hR.res
    have HR := Lib.hid hR
    have HKD := Lib.hid hKd
    have HOX : Hid (∀ own2 W2, Only own' W own2 W2 → Only own w own2 (W2.setCell ⟨hh + 2, 0, none⟩ (.int .i64 out.1))) := Lib.hid (fun own2 W2 hO => by
      have hc : Chg [hh + 2] W2 (W2.setCell ⟨hh + 2, 0, none⟩ (.int .i64 out.1)) := (Chg.refl _ _).setCell (hh + 2) 0 _ (.inl (by simp))
      have hox := (HR.out.only.trans hO).chg hc (fun k hk => .inl (by rw [List.mem_singleton] at hk; rw [hk]; simp))
      have hb3 := HB3.out
      exact ⟨(hb3.mono (Nat.zero_le _)).trans hox.1, fun i hi => hox.2.1 i (by omega), fun i hi h0 => (hox.2.2 i (by omega) h0 (fun hm => by simp only [List.mem_cons, List.not_mem_nil, or_false] at hm; omega)).trans (hb3.block i hi)⟩)
    have HFIN : Hid (∀ own2 W2, Only own' W own2 W2 → IsD W2 d own2 out.2 → (W2.setCell ⟨hh + 2, 0, none⟩ (.int .i64 out.1)).heap[W3.heap.size]? = some (.deferred (some [])) ∧ ((W2.setCell ⟨hh + 2, 0, none⟩ (.int .i64 out.1)).putObj W3.heap.size (.deferred none)).cell? ⟨hh + 2, 0, none⟩ = some (.int .i64 out.1) ∧ DNext w d own out.2 ((W2.setCell ⟨hh + 2, 0, none⟩ (.int .i64 out.1)).putObj W3.heap.size (.deferred none))) := Lib.hid (fun own2 W2 hO hD2 => by
      have hc : Chg [hh + 2] W2 (W2.setCell ⟨hh + 2, 0, none⟩ (.int .i64 out.1)) := (Chg.refl _ _).setCell (hh + 2) 0 _ (.inl (by simp))
      have hlt := lt_of_block HKD.out
      have hz2 := hO.1.size
      have x2 : W2.heap[hh + 2]? = some (.cells #[.int .i64 0] 24 (0, 0)) := (hO.2.2 _ (by omega) (HR.out.own0 HS3.out HZ.out _ (by omega) (by omega))).trans HR.out.res
      have ho2 : own2 (hh + 2) = 0 := (hO.2.1 _ (by omega)).trans (HR.out.own0 HS3.out HZ.out _ (by omega) (by omega))
      have hoD : own2 W3.heap.size = 0 := (hO.2.1 _ hlt).trans HR.out.zero.1
      have hcp := chg_putObjIt (W2.setCell ⟨hh + 2, 0, none⟩ (.int .i64 out.1)) W3.heap.size (.deferred none)
      refine ⟨(hc.same _ (by omega) (fun hm => by rw [List.mem_singleton] at hm; omega)).trans ((hO.2.2 _ hlt HR.out.zero.1).trans HKD.out), cell_of_one ((hcp.same _ (by have := hc.size; omega) (fun hm => by rw [List.mem_singleton] at hm; omega)).trans (one_setCell x2)), own2, ?_, ?_⟩
      · have h4 := HOX.out own2 W2 hO
        refine ⟨h4.1.trans (hcp.toBelow (fun k hk => Nat.zero_le _) (Nat.zero_le _)), h4.2.1, fun i hi h0 => (hcp.same i (by have := h4.1.size; omega) (fun hm => by rw [List.mem_singleton] at hm; omega)).trans (h4.2.2 i hi h0)⟩
      · exact (hD2.chg hc (fun k hk => by rw [List.mem_singleton] at hk; rw [hk]; exact ho2)).chg hcp (fun k hk => by rw [List.mem_singleton] at hk; rw [hk]; exact hoD))
    clear hR hKd g0
    cases sm with
    | false =>
      have hd : out = (0, r') := hdone
      have HQ := Lib.hid (HFIN.out own' W (Only.refl own' W) (by rw [hd]; exact HR.out.disk))
      have HDD := Lib.hid hd
      rw [hd, HS3.out] at HQ
      clear hdone hd HFIN HOX
      go_wp2_with fail
      refine ⟨by simp, .inl ⟨_, _, rfl, run_takeDeferred HQ.out.1, ?_⟩⟩
      exact ⟨_, results_rec _ _ (hh + 2) _ rfl HQ.out.2.1, by rw [HDD.out], by rw [HDD.out]; exact HQ.out.2.2⟩
    | true =>
      have hd : out = r'.syncDir := hdone
      have HSD : Hid (Calls Tryz.prog 56 #[.pointer (some ⟨d, 0, none⟩)] W (LayK W d own' out.1 out.2)) := Lib.hid (by rw [hd]; exact (HR.out.disk.syncDir hrs).mono fun e w' h => ⟨h.1, h.2⟩)
      clear hdone hd
      go_wp2_with fail
      refine HSD.out.mono ?_
      rintro e9 Wm ⟨rfl, own2, hO2, hD2⟩
      have HQ := Lib.hid (HFIN.out own2 Wm hO2 hD2)
      rw [HS3.out] at HQ
      have x2 : Wm.heap[hh + 2]? = some (.cells #[.int .i64 0] 24 (0, 0)) := (hO2.2.2 _ (by omega) (HR.out.own0 HS3.out HZ.out _ (by omega) (by omega))).trans HR.out.res
      have c2' := cell_of_one x2
      have f2' := free_of_one x2
      clear hO2 hD2 x2 HFIN HOX
      go_wp2_with fail
      refine ⟨by simp, .inl ⟨_, _, rfl, run_takeDeferred HQ.out.1, ?_⟩⟩
      exact ⟨_, results_rec _ _ (hh + 2) _ rfl HQ.out.2.1, rfl, HQ.out.2.2⟩
  case hstop =>
    rintro C ys cc pre W hpre ⟨rfl, h1, own', h2, h3, h4, h5⟩ hKd
    have hz3 := HS3.out
    have hq := HHE.out
    gi_wp2
    have hcp := chg_putObjIt W W3.heap.size (.deferred none)
    refine ⟨by simp, .inl ⟨_, _, rfl, run_takeDeferred hKd, ?_⟩⟩
    refine ⟨_, results_rec _ _ (hh + 2) _ rfl (cell_of_one ((hcp.same _ (lt_of_block h1) (fun hm => by rw [List.mem_singleton] at hm; omega)).trans h1)), rfl, own', ?_, h3.chg hcp (fun k hk => by rw [List.mem_singleton] at hk; rw [hk]; exact h4)⟩
    exact ⟨h2.1.trans (hcp.toBelow (fun k hk => Nat.zero_le _) (Nat.zero_le _)), h2.2.1, fun i hi h0 => (hcp.same i (by have := h2.1.size; omega) (fun hm => by rw [List.mem_singleton] at hm; omega)).trans (h2.2.2 i hi h0)⟩
end Go.Proofs.YtkjdjglknbgeaaaGreatDoor
namespace Go.Proofs.YtkjdjglknbgeaaaGreatDoor
open Go.RowKit Go.Shelf
attribute [local go_sem] Oper.semAt_some
set_option linter.unusedVariables false
set_option maxRecDepth 100000

/-- A store over a disk, opened since w. -/
def OpenOk (w : World) (d dn : Nat) (own : Nat → Nat) (r : RD) (e : Ending) (w' : World) : Prop := ∃ s own', e = .returned (.tuple #[.pointer (some ⟨s, 0, none⟩), .int .i64 0]) ∧ w.heap.size ≤ s ∧ SBox w' s d dn ∧ own' s = 0 ∧ Only own w own' w' ∧ IsD w' d own' r
theorem open_arg (w : World) (dv : Option Addr) (d : Int) (h : ¬ (0 ≤ d ∧ d ≤ 64)) : Calls Tryz.prog 18 #[.pointer dv, .int .i64 d] w fun e w' => e = .returned (.tuple #[.pointer none, .int .i64 1]) ∧ w = w' := by
  have HM := Lib.hid (mayDigits_any d w)
  rw [decide_eq_false h] at HM
  clear h
  go_enter Tryz.func18, Tryz.ntmps18
  go_wp2_with ((with_reducible refine HM.out.mono ?_); rintro e w1 ⟨rfl, rfl⟩)
  go_ret2
  exact ⟨rfl, rfl⟩
theorem open_nil (w : World) (d : Int) (h : 0 ≤ d ∧ d ≤ 64) : Calls Tryz.prog 18 #[.pointer none, .int .i64 d] w fun e w' => e = .returned (.tuple #[.pointer none, .int .i64 5]) ∧ w = w' := by
  have HM := Lib.hid (mayDigits_any d w)
  rw [decide_eq_true h] at HM
  have HO := Lib.hid (doff_nil w)
  clear h
  go_enter Tryz.func18, Tryz.ntmps18
  go_wp2_with (first
    | ((with_reducible refine HM.out.mono ?_); rintro e w1 ⟨rfl, rfl⟩)
    | ((with_reducible refine HO.out.mono ?_); rintro e w1 ⟨rfl, rfl⟩))
  go_ret2
  exact ⟨rfl, rfl⟩
theorem open_ok (w : World) (d dn : Nat) (own : Nat → Nat) (r r' : RD) (hD : IsD w d own r) (hsm : SmallD r) (hdn : dn ≤ 64) (hR : RootsOk w) (hro : own 2 = 0) (hnm : ∀ p ∈ r.now, p.1.size ≤ 1000) (hsz : r.size + 4 * r.now.length + 40 ≤ 80000) (hoff : r.off = false) (hrec : recR r dn = (0, r')) :
    Calls Tryz.prog 18 #[.pointer (some ⟨d, 0, none⟩), .int .i64 (dn : Int)] w (OpenOk w d dn own r') := by
  have HM := Lib.hid (mayDigits_any (dn : Int) w)
  rw [decide_eq_true (show 0 ≤ (dn : Int) ∧ (dn : Int) ≤ 64 by omega)] at HM
  have HO := hD.isOff
  rw [hoff] at HO
  have HO := Lib.hid HO
  have HRV := recovered_any w d dn own r hD hsm hdn hR hro hnm hsz
  rw [hrec] at HRV
  have HRV := Lib.hid HRV
  clear hD hR hrec hsm hnm
  go_enter Tryz.func18, Tryz.ntmps18
  go_wp2_with (first
    | ((with_reducible refine HM.out.mono ?_); rintro e w1 ⟨rfl, rfl⟩)
    | ((with_reducible refine HO.out.mono ?_); rintro e w1 ⟨rfl, rfl⟩)
    | fail)
  refine HRV.out.mono ?_
  rintro e w2 ⟨rfl, own', hO, hD'⟩
  have HX := Lib.hid (And.intro hO hD')
  clear hO hD'
  go_wp2
  go_ret2
  have hb : Below w2.heap.size w2 (w2.alloc (.cells #[.pointer (some ⟨d, 0, none⟩), .int .i64 (dn : Int)] 98)) := (Below.refl _ w2).alloc (Nat.le_refl _) _
  exact ⟨w2.heap.size, own', rfl, HX.out.1.1.size, heap_alloc_new w2 _, HX.out.2.1 _ (Nat.le_refl _), HX.out.1.trans (Only.of_below own' hb), HX.out.2.below hb⟩
theorem slots1_nil (w : World) (B1 B2 : Nat) (Arg : Nat → List Nat → Nat → Array Value → World → Prop) :
    IterY Tryz.prog 121 #[.pointer (some ⟨B1, 0, none⟩), .pointer (some ⟨B2, 0, none⟩)] Arg 3 ([] : List Nat) (fun W => W.cell? ⟨B1, 0, none⟩ = some (.pointer none)) w := by
  intro nn hd L J Jx hJ hJs hJxs hK h0 hY
  have HJ := Lib.hid hJ
  have HK := Lib.hid hK
  have H0 := Lib.hid h0
  clear hJ hJs hJxs hK h0 hY
  refine callsIn_of_wp_marks Tryz.func121 rfl trivial ?_ rfl
  simp only [Tryz.ntmps121, List.size_toArray, List.length_cons, List.length_nil, Nat.reduceAdd, Nat.reduceSub, Array.replicate_succ, Array.replicate_zero, List.push_toArray, List.append_toArray, List.nil_append, List.cons_append]
  refine wpIn_wide.2 ?_
  obtain ⟨W2, hW2⟩ : ∃ W2, w.alloc (.cells #[.func (.yield L) #[] #[]] 178) = W2 := ⟨_, rfl⟩
  have hB2 : Below w.heap.size w W2 := by rw [← hW2]; exact (Below.refl _ w).alloc (Nat.le_refl _) _
  have HJ2 := Lib.hid (HJ.out _ _ _ H0.out hB2)
  have y1 := HK.out _ _ HJ2.out
  clear hB2
  go_wp2_with fail
  exact ⟨_, results_none rfl _ _ _, ⟨_, rfl⟩, .inl HJ2.out⟩
theorem find_nil_ (w : World) (A : Option Addr) (n c : Nat) :
    Calls Tryz.prog 54 #[.pointer none, .slice A n c] w fun e w' => e = .returned (.tuple #[.string ⟨#[]⟩, .slice none 0 0, .bool false]) ∧ Below w.heap.size w w' := by
  refine (callsIn_wide (n := 8)).1 ?_
  refine callsIn_of_wp_marks Tryz.func54 rfl trivial ?_ rfl
  simp only [Tryz.ntmps54, List.size_toArray, List.length_cons, List.length_nil, Nat.reduceAdd, Nat.reduceSub, Array.replicate_succ, Array.replicate_zero, List.push_toArray, List.append_toArray, List.nil_append, List.cons_append]
  refine wpIn_wide.2 ?_
  obtain ⟨hh, hhe⟩ : ∃ hh, w.heap.size = hh := ⟨_, rfl⟩
  obtain ⟨W2, hW2⟩ : ∃ W2, (((w.alloc (.cells #[.slice A n c] 22)).alloc (.cells #[.string ⟨#[]⟩] 9)).alloc (.cells #[.slice none 0 0] 22)).alloc (.cells #[.bool false] 4) = W2 := ⟨_, rfl⟩
  have hWW := hW2
  have hb1 : Below w.heap.size w ((w.alloc (.cells #[.slice A n c] 22)).alloc (.cells #[.string ⟨#[]⟩] 9)) := (two_new w _ _).2.2
  have hs1 : ((w.alloc (.cells #[.slice A n c] 22)).alloc (.cells #[.string ⟨#[]⟩] 9)).heap.size = hh + 2 := by rw [← hhe]; simp
  have k0 := (two_new w (.cells #[.slice A n c] 22) (.cells #[.string ⟨#[]⟩] 9)).2.1
  have k1 := (two_new w (.cells #[.slice A n c] 22) (.cells #[.string ⟨#[]⟩] 9)).1
  generalize (w.alloc (.cells #[.slice A n c] 22)).alloc (.cells #[.string ⟨#[]⟩] 9) = W1 at hb1 hs1 k0 k1 hW2
  have hb2 : Below W1.heap.size W1 W2 := by rw [← hW2]; exact (two_new W1 _ _).2.2
  have hs2 : W2.heap.size = hh + 4 := by rw [← hW2]; simp [hs1]
  have k2 : W2.heap[hh + 2]? = some (.cells #[.slice none 0 0] 22 (0, 0)) := by rw [← hW2, ← hs1]; exact (two_new W1 _ _).2.1
  have k3 : W2.heap[hh + 3]? = some (.cells #[.bool false] 4 (0, 0)) := by rw [← hW2, show hh + 3 = W1.heap.size + 1 by omega]; exact (two_new W1 _ _).1
  rw [hhe] at k0 k1
  have k0 := (hb2.block hh (by omega)).trans k0
  have k1 := (hb2.block (hh + 1) (by omega)).trans k1
  have hbw2 : Below w.heap.size w W2 := hb1.trans (hb2.mono hb1.size)
  have y0 := cell_of_one k0
  have HK1 := Lib.hid k1
  have HK2 := Lib.hid k2
  have HK3 := Lib.hid k3
  have HB2 := Lib.hid hbw2
  have HHE := Lib.hid hhe
  have HS2 := Lib.hid hs2
  clear hb1 hs1 k0 k1 k2 k3 hb2 hs2 hbw2
  go_wp2_with fail
  refine (slots_any _ none A n c).mono ?_
  rintro e9 w9 ⟨rfl, rfl⟩
  obtain ⟨W3, hW3⟩ : ∃ W3, (W2.alloc (.cells #[.pointer none] 37)).alloc (.cells #[.slice A n c] 22) = W3 := ⟨_, rfl⟩
  have hs2 := HS2.out
  have hb3 : Below W2.heap.size W2 W3 := by rw [← hW3]; exact (two_new W2 _ _).2.2
  have hs3 : W3.heap.size = hh + 6 := by rw [← hW3]; simp [hs2]
  have k4 : W3.heap[hh + 4]? = some (.cells #[.pointer none] 37 (0, 0)) := by rw [← hW3, ← hs2]; exact (two_new W2 _ _).2.1
  rw [hs2, hW3]
  have HJ1 := Lib.hid ((hb3.block (hh + 1) (by omega)).trans HK1.out)
  have HJ2 := Lib.hid ((hb3.block (hh + 2) (by omega)).trans HK2.out)
  have HJ3 := Lib.hid ((hb3.block (hh + 3) (by omega)).trans HK3.out)
  have HJ4 := Lib.hid k4
  have HB3 : Hid (Below w.heap.size w W3) := Lib.hid (HB2.out.trans (hb3.mono HB2.out.size))
  have HS3 := Lib.hid hs3
  clear hW2 hWW hW3 hb3 hs3 k4 HK1 HK2 HK3 HB2 HS2 hs2 y0
  go_wp2_with fail
  refine (wpIn_wide (n := 8)).1 ?_
  refine range_z 8 3 (by decide) 121 #[.pointer (some ⟨hh + 4, 0, none⟩), .pointer (some ⟨hh + 5, 0, none⟩)] (fun _ _ _ _ _ => False) rfl slots_enters ?hps ([] : List Nat) (fun W => W.cell? ⟨hh + 4, 0, none⟩ = some (.pointer none)) (fun W1 _ _ => slots1_nil W1 (hh + 4) (hh + 5) _) (fun _ W => Below W3.heap.size W3 W) (fun _ _ _ _ => False) (fun _ _ _ _ => False) ?hAsg ?hA ?hAb ?hI ?hIb ?hIx ?hkeep ?h0 ?hassign ?hbody ?hdone ?hstop
  case hps =>
    intro E pre x args W h
    exact h.elim
  case hAsg => exact fun _ _ _ _ h => h.elim
  case hA => exact fun _ _ _ _ _ _ _ h _ => h
  case hAb => exact fun _ _ _ _ _ _ h _ => h
  case hI =>
    intro xs D hD W W' h2 hc
    exact h2.trans (hc.toBelow (fun k hk => by simp only [List.mem_cons, List.not_mem_nil, or_false] at hk; omega) h2.size)
  case hIb => exact fun xs W W' h2 hb => h2.trans (hb.mono h2.size)
  case hIx => exact fun _ _ _ _ _ _ _ _ h _ => h
  case hkeep =>
    intro xs W hb
    have hz := HS3.out
    exact cell_of_one ((hb.block _ (by omega)).trans HJ4.out)
  case h0 => exact fun W hb => hb
  case hassign =>
    intro E pre x args W K hD1 h
    exact h.elim
  case hbody =>
    intro E pre x args W0 W' a1 W hE hD1 h
    exact h.elim
  case hdone =>
    intro W hI2 hKd
    have hz3 := HS3.out
    have hzq := HHE.out
    have x1 := (hI2.block (hh + 1) (by omega)).trans HJ1.out
    have x2 := (hI2.block (hh + 2) (by omega)).trans HJ2.out
    have x3 := (hI2.block (hh + 3) (by omega)).trans HJ3.out
    have z1 := cell_of_one x1
    have z2 := cell_of_one x2
    have z3 := cell_of_one x3
    have y1 := free_of_one x1
    have y2 := free_of_one x2
    have y3 := free_of_one x3
    have HI2 := Lib.hid hI2
    have HKD := Lib.hid hKd
    clear hI2 x1 x2 x3 hKd
    go_wp2_with fail
    obtain ⟨q1, q2, q3, q4⟩ := three_one (W := W) (va := .string ⟨#[]⟩) (vb := .slice none 0 0) (vc := .bool false) ((HI2.out.block (hh + 1) (by omega)).trans HJ1.out) ((HI2.out.block (hh + 2) (by omega)).trans HJ2.out) ((HI2.out.block (hh + 3) (by omega)).trans HJ3.out) (by omega) (by omega) (by omega)
    have nE : ∀ k, hh + 6 ≤ k → k ∉ [hh + 1, hh + 2, hh + 3] := fun k hk hm => by simp only [List.mem_cons, List.not_mem_nil, or_false] at hm; omega
    refine ⟨by simp, .inl ⟨_, _, rfl, run_takeDeferred ((q4.same _ (lt_of_block HKD.out) (nE _ (by omega))).trans HKD.out), ?_⟩⟩
    refine ⟨_, results_find _ _ (hh + 1) (hh + 2) (hh + 3) _ _ _ rfl rfl rfl (cell_of_one ((World.putObj_heap_other (by omega)).trans q1)) (cell_of_one ((World.putObj_heap_other (by omega)).trans q2)) (cell_of_one ((World.putObj_heap_other (by omega)).trans q3)), rfl, ?_⟩
    have h3 := HB3.out
    have h4 := HI2.out.size
    rw [HHE.out] at h3 ⊢
    exact h3.trans ((HI2.out.mono (by omega)).trans ((q4.toBelow (fun k hk => by simp only [List.mem_cons, List.not_mem_nil, or_false] at hk; omega) (by omega)).trans ((chg_putObjIt _ W3.heap.size (.deferred none)).toBelow (fun k hk => by simp only [List.mem_cons, List.not_mem_nil, or_false] at hk; omega) (by have := q4.size; omega))))
  case hstop => exact fun _ _ _ _ _ _ h => h.elim
theorem cget_nil (w : World) (A : Option Addr) (n c : Nat) : Calls Tryz.prog 22 #[.pointer none, .slice A n c] w fun e w' => e = .returned (.tuple #[.slice none 0 0, .bool false]) ∧ Below w.heap.size w w' := by
  have HF := Lib.hid (find_nil_ w A n c)
  go_enter Tryz.func22, Tryz.ntmps22
  go_wp2_with ((with_reducible refine HF.out.mono ?_); rintro e w1 ⟨rfl, hb⟩; have HB := Lib.hid hb; clear hb)
  go_ret2
  exact ⟨rfl, HB.out⟩
theorem cdrop_nil (w : World) (A : Option Addr) (n c : Nat) : Calls Tryz.prog 20 #[.pointer none, .slice A n c] w fun e w' => e = .returned (.int .i64 5) ∧ w = w' := by
  go_enter Tryz.func20, Tryz.ntmps20
  go_wp2
  go_ret
  exact ⟨rfl, rfl⟩
theorem cput_nil (w : World) (A B : Option Addr) (n c m c2 : Nat) : Calls Tryz.prog 24 #[.pointer none, .slice A n c, .slice B m c2] w fun e w' => e = .returned (.int .i64 5) ∧ w = w' := by
  go_enter Tryz.func24, Tryz.ntmps24
  go_wp2
  go_ret
  exact ⟨rfl, rfl⟩
theorem cput_big (w : World) (s : Nat) (A B : Option Addr) (n c m c2 : Nat) (k : List Nat) (hn : n ≤ 65536) (hm : 65536 < m) (hk : RowN w A n k) : Calls Tryz.prog 24 #[.pointer (some ⟨s, 0, none⟩), .slice A n c, .slice B m c2] w fun e w' => e = .returned (.int .i64 2) ∧ Below w.heap.size w w' := by
  have HE := Lib.hid (entry_big2 A B n c m c2 k hn hm w hk)
  clear hk
  go_enter Tryz.func24, Tryz.ntmps24
  go_wp2_with ((with_reducible refine HE.out.mono ?_); rintro e w1 ⟨rfl, hb⟩; have HB := Lib.hid hb; clear hb)
  go_ret
  exact ⟨rfl, HB.out⟩
theorem ckeys_nil (w : World) : Calls Tryz.prog 28 #[.pointer none] w fun e w' => e = .returned (.slice none 0 0) ∧ Below w.heap.size w w' := by
  refine (callsIn_wide (n := 8)).1 ?_
  refine callsIn_of_wp_marks Tryz.func28 rfl trivial ?_ rfl
  simp only [Tryz.ntmps28, List.size_toArray, List.length_cons, List.length_nil, Nat.reduceAdd, Nat.reduceSub, Array.replicate_succ, Array.replicate_zero, List.push_toArray, List.append_toArray, List.nil_append, List.cons_append]
  refine wpIn_wide.2 ?_
  obtain ⟨W2, hW2⟩ : ∃ W2, w.alloc (.cells #[.pointer none] 37) = W2 := ⟨_, rfl⟩
  have hB2 : Below w.heap.size w W2 := by rw [← hW2]; exact (Below.refl _ w).alloc (Nat.le_refl _) _
  have k0 : W2.heap[w.heap.size]? = some (.cells #[.pointer none] 37 (0, 0)) := by rw [← hW2]; exact heap_alloc_new w _
  have y0 := cell_of_one k0
  have HB2 := Lib.hid hB2
  clear k0 hB2
  go_wp2_with fail
  exact ⟨_, results_tmp rfl _ _ _, rfl, HB2.out⟩
theorem clen_nil (w : World) : Calls Tryz.prog 29 #[.pointer none] w fun e w' => e = .returned (.int .i64 0) ∧ Below w.heap.size w w' := by
  have HF := Lib.hid (ckeys_nil w)
  go_enter Tryz.func29, Tryz.ntmps29
  go_wp2_with ((with_reducible refine HF.out.mono ?_); rintro e w1 ⟨rfl, hb⟩; have HB := Lib.hid hb; clear hb)
  go_ret
  exact ⟨rfl, HB.out⟩
end Go.Proofs.YtkjdjglknbgeaaaGreatDoor
