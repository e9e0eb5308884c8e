/- The contract of wal.Parse. -/
import Derived.Test.YtdjnebgjdekmaaaGreatDoorZaw
import Derived.Laws.Rows
import Derived.Deep.RegionHeld3
import Derived.Deep.RegionWith
import Derived.Sort.CutIn
set_option linter.unusedVariables false
set_option maxRecDepth 100000
namespace Go.Proofs.YtdjnebgjdekmaaaGreatDoor
attribute [local go_sem] Oper.semAt_some
open Go.RowKit Go.Shelf
structure ParseAt (w0 : World) (hh D : Nat) (rs : List (List Nat)) (W : World) : Prop where
 chg : Chg [hh, hh + 1] w0 W
 good : W.heap[hh + 1]? = some (.cells #[.int .i64 ((allN rs).length : Int)] 3 (0, 0))
 row : ∃ R c vs, W.heap[hh]? = some (.cells #[.slice R rs.length c] 54 (0, 0)) ∧ SLine 1 W R rs.length c vs ∧ RecsAt W (D + 2) (blk R) vs rs ∧ ∀ k ∈ blk R, D + 2 ≤ k
theorem not_two {a b k : Nat} (h1 : k ≠ a) (h2 : k ≠ b) : k ∉ [a, b] := fun hm => by simp only [List.mem_cons, List.not_mem_nil, or_false] at hm; omega
theorem ParseAt.steady {w0 : World} {hh D : Nat} {rs : List (List Nat)} (h0 : hh + 1 < D) (hw : w0.heap.size ≤ D) : SteadyIt D (ParseAt w0 hh D rs) := by
 rintro W W' ⟨h1, h2, R, c, vs, h3, h4, h5, h6⟩ hc
 refine ⟨?_, (hc.same _ (lt_of_block h2) (not_two (by omega) (by omega))).trans h2, R, c, vs, (hc.same _ (lt_of_block h3) (not_two (by omega) (by omega))).trans h3, h4.chg hc (fun k hk => by have := h6 k hk; exact not_two (by omega) (by omega)), h5.chg hc (fun k hk => .inr (by simp only [List.mem_cons, List.not_mem_nil, or_false] at hk; omega)) (fun k hk => .inl hk), h6⟩
 exact h1.andThen hc (fun k hk => .inr (by simp only [List.mem_cons, List.not_mem_nil, or_false] at hk; omega))
theorem markN_snd (xs : List (List Nat)) : ∀ s, (markN s xs).map Prod.snd = xs := by
 induction xs with
 | nil => intro s; rfl
 | cons r xs ih => intro s; show r :: (markN _ xs).map Prod.snd = r :: xs; rw [ih]
theorem mark_next {rs xs : List (List Nat)} {s : Nat} {r : List Nat} (h : markN 0 rs ++ [(s, r)] <+: markN 0 xs) : rs ++ [r] <+: xs ∧ s = (allN rs).length := by
 have h1 : rs ++ [r] <+: xs := by
  have := List.IsPrefix.map Prod.snd h
  rw [List.map_append, markN_snd, markN_snd] at this
  exact this
 refine ⟨h1, ?_⟩
 obtain ⟨t, ht⟩ := h1
 have h2 : markN 0 rs ++ [((allN rs).length, r)] <+: markN 0 xs := by
  rw [← ht, List.append_assoc, markN_append, Nat.zero_add]
  exact ⟨markN ((allN rs).length + r.length + 8) t, by rw [List.append_assoc]; rfl⟩
 have h3 := List.prefix_of_prefix_length_le h h2 (by simp)
 have h4 := List.IsPrefix.eq_of_length h3 (by simp)
 have h5 := List.append_cancel_left h4
 simp only [List.cons.injEq, Prod.mk.injEq, and_true] at h5
 exact h5
theorem allN_long (rs : List (List Nat)) : 8 * rs.length ≤ (allN rs).length := by
 induction rs with
 | nil => simp
 | cons r rs ih => show 8 * (rs.length + 1) ≤ (frameN r ++ allN rs).length; rw [List.length_append, frameN_length]; omega
theorem parse_long {l : List Nat} (h : bytesN l) : (allN (parseN l)).length ≤ l.length ∧ 8 * (parseN l).length ≤ l.length := by
 have h1 := (all_parse _ l (Nat.le_refl _) h).1.length_le
 have h2 := allN_long (parseN l)
 omega
theorem RowN.heapEq {w w' : World} {A : Option Addr} {n : Nat} {l : List Nat} (h : RowN w A n l) (e : w'.heap = w.heap) : RowN w' A n l := by
 refine ⟨h.1, h.2.1, fun hn => ?_⟩
 obtain ⟨b, off, ea, hlt, hc⟩ := h.2.2 hn
 exact ⟨b, off, ea, by rw [e]; exact hlt, fun i hi => (World.cell?_of_block (w := w) (a := ⟨b, off + i, none⟩) (by rw [e])).trans (hc i hi)⟩
theorem frames_enters (args : Array Value) (w : World) : (callFunc 116 args).run Tryz.prog w = .ok (.enter 116 args) w := enters_of Tryz.func116 (by kernel_rfl) rfl args w
theorem results_parse (tmps : Array Value) (w : World) (g h : Nat) (v u : Value) (hp : tmps.getD 2 undef = .pointer (some ⟨g, 0, none⟩)) (hq : tmps.getD 3 undef = .pointer (some ⟨h, 0, none⟩)) (hv : w.cell? ⟨g, 0, none⟩ = some v) (hu : w.cell? ⟨h, 0, none⟩ = some u) : (results Tryz.f100 tmps).run Tryz.prog w = .ok (.tuple #[v, u]) w := by
 have hp' : tmps[2]?.getD undef = .pointer (some ⟨g, 0, none⟩) := by simpa using hp
 have hq' : tmps[3]?.getD undef = .pointer (some ⟨h, 0, none⟩) := by simpa using hq
 simp [results, Tryz.results100, hp', hq', asAddr, go_sem, hv, hu]
def ParseI (w0 : World) (hh D : Nat) (pre : List (Nat × List Nat)) (W : World) : Prop := ∃ rs, pre = markN 0 rs ∧ ParseAt w0 hh D rs W
theorem appendIn_ready {F : Fence} {n : Nat} {P : Program} {md : Region.Mode} {ops : Array Oper} {Q : Exit → Act → World → Prop} {fuel : Nat} {listed : Array Bool} {a : Act} {w : World} {i : Nat} {o : Oper} (ho : ops[i]? = some o) (hw : Region.wanted o (yielded ops a.tmps) = true)
 (s x : Operand) (t tn : TypeId) (hop : o.op = Op.call { callee := Callee.builtin Builtin.append, args := #[s, x], argTypes := #[t, tn] }) (vs vx : Value) (hs : a.eval s = vs) (hx : a.eval x = vx)
 (v' : Value) (w' : World) (hr : (Builtin.append_ #[t, tn] o.type #[vs, vx]).run P w = .ok v' w') (h : wpAnyIn F n P md ops Q fuel (listed.setIfInBounds i true) (a.put o.dst v') w') : AllReadyIn F n P md ops Q fuel listed a w [i] := by
 refine AllReadyIn.cons ho (fun K' hK => ?_) AllReadyIn.nil
 rw [if_pos hw]
 unfold Oper.wpIn
 refine ⟨?_, ?_⟩
 · simp [Oper.about, hop, resolve, Target.leads, Sem.run_pure]
 · rw [Oper.semAt_plain F _ _ (by rw [hop]; intro c hc'; cases hc')]
   simp [execOp, hop, resolve, invoke, builtin, hs, hx, hr, Result.andThen]
   exact hK _ _ h
theorem parse_round (ty : TypeId) {w0 Wr w2 : World} {hh D : Nat} (hD : hh + 2 < D) (hD0 : w0.heap.size ≤ D) (hh0 : hh + 1 < w0.heap.size) (hD1 : D + 1 < Wr.heap.size) {rs : List (List Nat)} {r : List Nat} {R : Option Addr} {rk c rl S : Nat} {vs : List Value} (hS : (allN rs).length = S) (hrl : r.length = rl) (hrk : rs.length = rk) (hk90 : rk ≤ 90000)
 (hchg : Chg [hh, hh + 1] w0 Wr) (hgood : Wr.heap[hh + 1]? = some (.cells #[.int .i64 (S : Int)] 3 (0, 0)))
 (hbox : Wr.heap[hh]? = some (.cells #[.slice R rk c] 54 (0, 0))) (hline : SLine 1 Wr R rk c vs) (hrecs : RecsAt Wr (D + 2) (blk R) vs rs) (hblk : ∀ k ∈ blk R, D + 2 ≤ k)
 {A' : Option Addr} {c' : Nat} (hbc : Below Wr.heap.size Wr w2) (hb : BLine w2 A' rl c' r) (hkb : ∀ k ∈ blk A', Wr.heap.size ≤ k) :
 ∃ R' c2 w3, w2.cell? ⟨hh, 0, none⟩ = some (.slice R rk c) ∧ (w2.alloc (.cells #[.slice A' rl c'] 40)).cell? ⟨hh, 0, none⟩ = some (.slice R rk c) ∧ (Builtin.append_ #[54, 54] ty #[.slice R rk c, .slice (some ⟨w2.heap.size, 0, none⟩) 1 1]).run Tryz.prog (w2.alloc (.cells #[.slice A' rl c'] 40)) = .ok (.slice R' (rk + 1) c2) w3 ∧
  w3.cell? ⟨hh, 0, none⟩ = some (.slice R rk c) ∧ w3.frozen? ⟨hh, 0, none⟩ = false ∧ ∃ w4, w3.setCell ⟨hh, 0, none⟩ (.slice R' (rk + 1) c2) = w4 ∧ w4.cell? ⟨hh + 1, 0, none⟩ = some (.int .i64 (S : Int)) ∧ w4.frozen? ⟨hh + 1, 0, none⟩ = false ∧
  SizedK D Wr (w4.setCell ⟨hh + 1, 0, none⟩ (.int .i64 ((S : Int) + (rl : Int) + 8))) ∧ ParseAt w0 hh D (rs ++ [r]) (w4.setCell ⟨hh + 1, 0, none⟩ (.int .i64 ((S : Int) + (rl : Int) + 8))) := by
 have hh2 : hh + 1 < Wr.heap.size := lt_of_block hgood
 have hRl : ∀ k ∈ blk R, k < Wr.heap.size := hline.lt
 have hline2 := hline.below hbc
 obtain ⟨R', c2, w3, hr, hl3, hc3, hf3⟩ := recs_push w2 ty R rk c vs hline2 (by omega) A' rl c'
 have hnR : ∀ k, k < D → k ∉ blk R := fun k hk hm => by have := hblk k hm; omega
 have hbox2 := (hbc.block hh (by omega)).trans hbox
 have hgood2 := (hbc.block (hh + 1) hh2).trans hgood
 have hbox3 := (hc3.same hh (lt_of_block hbox2) (hnR _ (by omega))).trans hbox2
 have hgood3 := (hc3.same (hh + 1) (lt_of_block hgood2) (hnR _ (by omega))).trans hgood2
 obtain ⟨w4, hw4⟩ : ∃ w4, w3.setCell ⟨hh, 0, none⟩ (.slice R' (rk + 1) c2) = w4 := ⟨_, rfl⟩
 have hc4 : Chg [hh] w3 w4 := by rw [← hw4]; exact (Chg.refl _ w3).setCell hh 0 _ (.inl (by simp))
 have hbox4 : w4.heap[hh]? = some (.cells #[.slice R' (rk + 1) c2] 54 (0, 0)) := by
  have := one_setCell (u := .slice R' (rk + 1) c2) hbox3
  rw [hw4] at this
  rw [this]
 have hgood4 := (hc4.same (hh + 1) (lt_of_block hgood3) (by simp)).trans hgood3
 obtain ⟨w5, hw5⟩ : ∃ w5, w4.setCell ⟨hh + 1, 0, none⟩ (.int .i64 ((S : Int) + (rl : Int) + 8)) = w5 := ⟨_, rfl⟩
 have hc5 : Chg [hh + 1] w4 w5 := by rw [← hw5]; exact (Chg.refl _ w4).setCell (hh + 1) 0 _ (.inl (by simp))
 have hgood5 : w5.heap[hh + 1]? = some (.cells #[.int .i64 ((S : Int) + (rl : Int) + 8)] 3 (0, 0)) := by
  have := one_setCell (u := .int .i64 ((S : Int) + (rl : Int) + 8)) hgood4
  rw [hw5] at this
  rw [this]
 have hbox5 := (hc5.same hh (lt_of_block hbox4) (by simp)).trans hbox4
 have hz2 := hbc.size
 have hz3 := hc3.size
 have hR'ge : ∀ k ∈ blk R', D + 2 ≤ k := fun k hk => by rcases hf3 k hk with h | h; exact hblk k h; omega
 have hall : Chg (hh :: (hh + 1) :: blk R) Wr w5 := by
  refine (((Chg.of_below (l := hh :: (hh + 1) :: blk R) hbc).andThen hc3 (fun k hk => .inl (by simp [hk]))).andThen hc4 (fun k hk => .inl ?_)).andThen hc5 (fun k hk => .inl ?_)
  · simp only [List.mem_singleton] at hk; simp [hk]
  · simp only [List.mem_singleton] at hk; simp [hk]
 have hnall : ∀ k, hh + 1 < k → k < D + 2 → k ∉ hh :: (hh + 1) :: blk R := fun k h1 h2 hm => by
  simp only [List.mem_cons] at hm
  rcases hm with h | h | h
  · omega
  · omega
  · have := hblk k h; omega
 refine ⟨R', c2, w3, cell_of_one hbox2, cell_of_one ((Below.heap_alloc _ _ _ (lt_of_block hbox2)).trans hbox2), hr, cell_of_one hbox3, free_of_one hbox3, w4, hw4, cell_of_one hgood4, free_of_one hgood4, ?_⟩
 rw [hw5]
 refine ⟨hall.sizedK hD1 (hnall _ (by omega) (by omega)) (hnall _ (by omega) (by omega)), ?_, ?_, R', c2, vs ++ [.slice A' rl c'], ?_, ?_, ?_, hR'ge⟩
 · refine hchg.andThen hall (fun k hk => ?_)
   simp only [List.mem_cons] at hk
   rcases hk with h | h | h
   · exact .inl (by simp [h])
   · exact .inl (by simp [h])
   · have := hblk k h; exact .inr (by omega)
 · rw [hgood5, allN_snoc, List.length_append, frameN_length, hS, hrl]
   congr 4
 · rw [hbox5, List.length_append, hrk]; rfl
 · have h45 : Chg [hh, hh + 1] w3 w5 := (hc4.weaken (fun k hk => .inl (by simp only [List.mem_singleton] at hk; simp [hk]))).andThen hc5 (fun k hk => .inl (by simp only [List.mem_singleton] at hk; simp [hk]))
   have := hl3.chg h45 (fun k hk => by have := hR'ge k hk; exact not_two (by omega) (by omega))
   rw [List.length_append, hrk]
   exact this
 · have h1 : RecsAt w2 (D + 2) (blk R) vs rs := hrecs.chg (Chg.of_below (l := []) hbc) (fun k hk => by cases hk) (fun k hk => .inl hk)
   have h2 : RecsAt w2 (D + 2) (blk R) (vs ++ [.slice A' rl c']) (rs ++ [r]) := by
    subst hrl
    exact h1.snoc hb (fun k hk => ⟨by have := hkb k hk; omega, fun hm => by have := hRl k hm; have := hkb k hk; omega⟩)
   have h3 : Chg (blk R) w2 w3 := hc3
   have h4 := h2.chg (L' := blk R') h3 (fun k hk => .inl hk) (fun k hk => hf3 k hk)
   have h45 : Chg [hh, hh + 1] w3 w5 := (hc4.weaken (fun k hk => .inl (by simp only [List.mem_singleton] at hk; simp [hk]))).andThen hc5 (fun k hk => .inl (by simp only [List.mem_singleton] at hk; simp [hk]))
   exact h4.chg h45 (fun k hk => .inr (by simp only [List.mem_cons, List.not_mem_nil, or_false] at hk; omega)) (fun k hk => .inl hk)
set_option maxHeartbeats 6400000 in
theorem parse_any (w : World) (A : Option Addr) (n cap : Nat) (l : List Nat) (hn : n ≤ 90000) (hnc : n ≤ cap) (hcm : cap ≤ 9223372036854775807) (hR : RowN w A n l) :
 Calls Tryz.prog 100 #[.slice A n cap] w fun e w' => ∃ R c vs, e = .returned (.tuple #[.slice R (parseN l).length c, .int .i64 ((allN (parseN l)).length : Int)]) ∧ SLine 1 w' R (parseN l).length c vs ∧ RecsAt w' w.heap.size (blk R) vs (parseN l) ∧ (∀ k ∈ blk R, w.heap.size ≤ k) ∧ Below w.heap.size w w' := by
 have hln := hR.length
 have HLONG := Lib.hid (parse_long hR.bytes)
 have HR := Lib.hid hR
 clear hR
 refine (callsIn_wide (n := 8)).1 ?_
 refine callsIn_of_wp_marks Tryz.func100 rfl trivial ?_ rfl
 simp only [Tryz.ntmps100, List.size_toArray, List.length_cons, List.length_nil, Nat.reduceAdd, Nat.reduceSub, Array.replicate_succ, Array.replicate_zero, List.push_toArray, List.append_toArray, List.nil_append, List.cons_append]
 refine wpIn_wide.2 ?_
 obtain ⟨hh, hhe⟩ : ∃ hh, w.heap.size = hh := ⟨_, rfl⟩
 obtain ⟨W2, hW2⟩ : ∃ W2, (w.alloc (.cells #[.slice none 0 0] 54)).alloc (.cells #[.int .i64 0] 3) = W2 := ⟨_, rfl⟩
 have hB2 : Below w.heap.size w W2 := by rw [← hW2]; exact ((Below.refl _ w).alloc (Nat.le_refl _) _).alloc (by simp) _
 have hs2 : W2.heap.size = hh + 2 := by rw [← hW2, ← hhe]; simp
 have k0 : W2.heap[hh]? = some (.cells #[.slice none 0 0] 54 (0, 0)) := by
  have := heap_alloc_new w (.cells #[.slice none 0 0] 54 (0, 0))
  rw [hhe] at this
  rw [← hW2]
  exact (Below.heap_alloc _ _ _ (by simp; omega)).trans this
 have k1 : W2.heap[hh + 1]? = some (.cells #[.int .i64 0] 3 (0, 0)) := by
  have := heap_alloc_new (w.alloc (.cells #[.slice none 0 0] 54)) (.cells #[.int .i64 0] 3 (0, 0))
  rw [World.size_alloc, hhe] at this
  rw [← hW2]
  exact this
 have HK0 := Lib.hid k0
 have HK1 := Lib.hid k1
 have HB2 := Lib.hid hB2
 have HHE := Lib.hid hhe
 have HS2 := Lib.hid hs2
 clear k0 k1 hB2 hs2
 go_wp2_with fail
 refine (frames_any _ A n cap).mono ?_
 rintro e w' ⟨rfl, rfl⟩
 obtain ⟨W3, hW3⟩ : ∃ W3, W2.alloc (.cells #[.slice A n cap] 40) = W3 := ⟨_, rfl⟩
 have hs2 := HS2.out
 have hB3 : Below W2.heap.size W2 W3 := by rw [← hW3]; exact (Below.refl _ W2).alloc (Nat.le_refl _) _
 have hs3 : W3.heap.size = hh + 3 := by rw [← hW3]; simp [hs2]
 have hbx : W3.heap[hh + 2]? = some (.cells #[.slice A n cap] 40 (0, 0)) := by
  have := heap_alloc_new W2 (.cells #[.slice A n cap] 40 (0, 0))
  rw [hs2, hW3] at this
  exact this
 rw [hs2, hW3]
 have HBX := Lib.hid hbx
 have HB3 : Hid (Below w.heap.size w W3) := Lib.hid (HB2.out.trans (hB3.mono (by have := HB2.out.size; omega)))
 have HJ0 := Lib.hid ((hB3.block hh (by omega)).trans HK0.out)
 have HJ1 := Lib.hid ((hB3.block (hh + 1) (by omega)).trans HK1.out)
 have HKEEP : Hid (∀ pre W, ParseI W3 hh W3.heap.size pre W → KeepF (hh + 2) A n cap l W) := Lib.hid (by
  rintro pre W ⟨rs, _, h1, _, _⟩
  refine ⟨cell_of_one ((h1.same _ (by omega) (not_two (by omega) (by omega))).trans HBX.out), HR.out.below (HB3.out.trans (h1.toBelow (fun k hk => by have := HHE.out; simp only [List.mem_cons, List.not_mem_nil, or_false] at hk; omega) (by have := HHE.out; omega)))⟩)
 clear hW2 hW3 hbx hB3 HK0 HK1
 go_wp2_with fail
 refine (wpIn_wide (n := 8)).1 ?_
 refine range_k 8 1 (by decide) 116 #[.pointer (some ⟨hh + 2, 0, none⟩)] (arF A cap) rfl frames_enters (fun _ => rfl) (markN 0 (parseN l)) (KeepF (hh + 2) A n cap l) (fun W1 _ => frames1_any W1 (hh + 2) A n cap l hn hnc hcm hln) (ParseI W3 hh W3.heap.size) (fun _ _ _ => False) (fun xs => ?hst) (fun _ _ _ _ h _ => h) HKEEP.out ?h0 ?hab ?hdone (fun _ _ _ _ h _ => h.elim)
 case hst =>
  rintro W W' ⟨rs, e, h⟩ hc
  exact ⟨rs, e, ParseAt.steady (by omega) (Nat.le_refl _) W W' h hc⟩
 case h0 =>
  intro W1 hb1
  exact ⟨[], rfl, Chg.of_below hb1, (hb1.block _ (by omega)).trans HJ1.out, none, 0, [], (hb1.block _ (by omega)).trans HJ0.out, SLine.nil 1 _, RecsAt.nil _ _ _, fun k hk => by cases hk⟩
 case hab =>
  apply Exists.intro
  refine ⟨?hassign, ?hbody⟩
  case hassign =>
   intro x W K hK
   unfold arF
   gi_wp2
   exact hK
  case hbody =>
   intro pre x Wr hD1 hI hpre
   obtain ⟨s, r⟩ := x
   have hkeep := HKEEP.out pre Wr hI
   obtain ⟨rs, rfl, hI⟩ := hI
   obtain ⟨hp1, hp2⟩ := mark_next hpre
   have hmem : (s, r) ∈ markN 0 (parseN l) := hpre.subset (by simp)
   obtain ⟨_, hm2, hm3⟩ := mark_mem _ l (Nat.le_refl _) 0 s r hmem
   rw [Nat.sub_zero] at hm2 hm3
   have hrow : RowN Wr (atA A (s + 4)) r.length r := by
    have := hkeep.2.piece (s + 4) r.length (by omega) (by omega)
    rw [← hm3] at this
    exact this
   have hrl : rs.length ≤ 90000 := by have h1 := hp1.length_le; have := HLONG.out.2; simp at h1; omega
   obtain ⟨R, c, vs, hk1, hk2, hk3, hk4⟩ := hI.row
   have y0 := cell_of_one hk1
   have y0f := free_of_one hk1
   have y1 := cell_of_one hI.good
   have HCL := Lib.hid (fun (W : World) (hW : W.heap = Wr.heap) => cloneN W (atA A (s + 4)) r.length (cap - s - 4) r (hrow.heapEq hW) (by omega))
   have HI := Lib.hid hI
   have HK2 := Lib.hid (And.intro hk2 (And.intro hk3 (And.intro hk4 hk1)))
   obtain ⟨S, hS⟩ : ∃ S, (allN rs).length = S := ⟨_, rfl⟩
   have HPP := Lib.hid (And.intro hp2 hS)
   have hsl : s + r.length + 8 ≤ 90000 := by omega
   obtain rfl : S = s := hS.symm.trans hp2.symm
   have HM2 : Hid (markN 0 rs ++ [(S, r)] = markN 0 (rs ++ [r])) := Lib.hid (by rw [markN_append, Nat.zero_add, hS]; rfl)
   obtain ⟨rl, hrl⟩ : ∃ rl, r.length = rl := ⟨_, rfl⟩
   obtain ⟨rk, hrk⟩ : ∃ rk, rs.length = rk := ⟨_, rfl⟩
   have HRL := Lib.hid (And.intro hrl hrk)
   rw [hrl] at HCL hsl ⊢
   rw [hrk] at y0
   clear hI hpre hkeep hmem hrow hm3 hp1 hm2 hp2 hS hk1 hk2 hk3 hk4 hrl hrk
   gi_wp2_with fail
   have hk90 : rk ≤ 90000 := by have := HRL.out.2; omega
   have HRND := Lib.hid (fun (A' : Option Addr) (c' : Nat) (w2 : World) (hbc : Below Wr.heap.size Wr w2) (hb : BLine w2 A' rl c' r) (hkb : ∀ k ∈ blk A', Wr.heap.size ≤ k) => parse_round 54 (w0 := W3) (hh := hh) (D := W3.heap.size) (by omega) (Nat.le_refl _) (by omega) hD1 (S := S) HPP.out.2 HRL.out.1 HRL.out.2 hk90 HI.out.chg (by rw [← HPP.out.2]; exact HI.out.good) (by rw [← HRL.out.2]; exact HK2.out.2.2.2) (by rw [← HRL.out.2]; exact HK2.out.1) HK2.out.2.1 HK2.out.2.2.1 hbc hb hkb)
   refine wpIn_region_any (by kernel_rfl) ?_
   change wpAnyIn _ _ _ _ _ _ _ _ _ (World.drew _)
   refine wpAnyIn_ready (rs := [0, 1]) (by kernel_rfl) (by simp) ?_
   refine AllReadyIn.cons rfl (fun K hK => ?_) (AllReadyIn.cons rfl (fun K hK => ?_) AllReadyIn.nil)
   · go_simp
     refine hK _ _ ?_
     clear hK K
     refine wpAnyIn_ready (rs := [1]) (by kernel_rfl) (by simp) ?_
     refine AllReadyIn.cons rfl (fun K hK => ?_) AllReadyIn.nil
     go_simp
     refine hK _ _ ?_
     clear hK K
     refine wpAnyIn_ready (rs := [2]) (by kernel_rfl) (by simp) ?_
     refine AllReadyIn.cons rfl (fun K hK => ?_) AllReadyIn.nil
     go_simp
     refine ⟨trivial, ?_⟩
     gi_at_call 40
     refine (CallsIn.inRound _ (callsIn_wide.2 (HCL.out Wr.drew rfl))).mono ?_
     rintro e w2 ⟨⟨A', c', rfl, hb, hkb⟩, hbc⟩
     obtain ⟨R', c2, w3, z0, z0b, hr, z1, z2, w4, hw4, z3, z4, hfin⟩ := HRND.out A' c' w2 ((Below.refl _ Wr).drew.trans hbc) hb hkb
     have HFIN := Lib.hid hfin
     have HRR := Lib.hid hr
     clear hb hkb hbc hfin hr
     refine hK _ _ ?_
     clear hK K
     refine wpAnyIn_ready (rs := [3]) (by kernel_rfl) (by simp) ?_
     refine AllReadyIn.cons rfl (fun K hK => ?_) AllReadyIn.nil
     go_simp
     refine hK _ _ ?_
     clear hK K
     refine wpAnyIn_ready (rs := [4]) (by kernel_rfl) (by simp) ?_
     refine appendIn_ready rfl (by kernel_rfl) _ _ _ _ rfl _ _ rfl rfl _ _ HRR.out ?_
     refine wpAnyIn_ready (rs := [5]) (by kernel_rfl) (by simp) ?_
     refine AllReadyIn.cons rfl (fun K hK => ?_) AllReadyIn.nil
     go_simp
     refine hK _ _ ?_
     clear hK K
     refine wpAnyIn_done (by kernel_rfl) ?_ _
     gi_wp2
     exact ⟨HFIN.out.1, _, HM2.out, HFIN.out.2⟩
   · go_simp
     refine hK _ _ ?_
     clear hK K
     refine wpAnyIn_ready (rs := [0, 2]) (by kernel_rfl) (by simp) ?_
     refine AllReadyIn.cons rfl (fun K hK => ?_) (AllReadyIn.cons rfl (fun K hK => ?_) AllReadyIn.nil)
     · go_simp
       refine hK _ _ ?_
       clear hK K
       refine wpAnyIn_ready (rs := [2]) (by kernel_rfl) (by simp) ?_
       refine AllReadyIn.cons rfl (fun K hK => ?_) AllReadyIn.nil
       go_simp
       refine ⟨trivial, ?_⟩
       gi_at_call 40
       refine (CallsIn.inRound _ (callsIn_wide.2 (HCL.out Wr.drew rfl))).mono ?_
       rintro e w2 ⟨⟨A', c', rfl, hb, hkb⟩, hbc⟩
       obtain ⟨R', c2, w3, z0, z0b, hr, z1, z2, w4, hw4, z3, z4, hfin⟩ := HRND.out A' c' w2 ((Below.refl _ Wr).drew.trans hbc) hb hkb
       have HFIN := Lib.hid hfin
       have HRR := Lib.hid hr
       clear hb hkb hbc hfin hr
       refine hK _ _ ?_
       clear hK K
       refine wpAnyIn_ready (rs := [3]) (by kernel_rfl) (by simp) ?_
       refine AllReadyIn.cons rfl (fun K hK => ?_) AllReadyIn.nil
       go_simp
       refine hK _ _ ?_
       clear hK K
       refine wpAnyIn_ready (rs := [4]) (by kernel_rfl) (by simp) ?_
       refine appendIn_ready rfl (by kernel_rfl) _ _ _ _ rfl _ _ rfl rfl _ _ HRR.out ?_
       refine wpAnyIn_ready (rs := [5]) (by kernel_rfl) (by simp) ?_
       refine AllReadyIn.cons rfl (fun K hK => ?_) AllReadyIn.nil
       go_simp
       refine hK _ _ ?_
       clear hK K
       refine wpAnyIn_done (by kernel_rfl) ?_ _
       gi_wp2
       exact ⟨HFIN.out.1, _, HM2.out, HFIN.out.2⟩
     · go_simp
       refine ⟨trivial, ?_⟩
       gi_at_call 40
       refine (CallsIn.inRound _ (callsIn_wide.2 (HCL.out Wr.drew rfl))).mono ?_
       rintro e w2 ⟨⟨A', c', rfl, hb, hkb⟩, hbc⟩
       obtain ⟨R', c2, w3, z0, z0b, hr, z1, z2, w4, hw4, z3, z4, hfin⟩ := HRND.out A' c' w2 ((Below.refl _ Wr).drew.trans hbc) hb hkb
       have HFIN := Lib.hid hfin
       have HRR := Lib.hid hr
       clear hb hkb hbc hfin hr
       refine hK _ _ ?_
       clear hK K
       refine wpAnyIn_ready (rs := [0, 3]) (by kernel_rfl) (by simp) ?_
       refine AllReadyIn.cons rfl (fun K hK => ?_) (AllReadyIn.cons rfl (fun K hK => ?_) AllReadyIn.nil)
       · go_simp
         refine hK _ _ ?_
         clear hK K
         refine wpAnyIn_ready (rs := [3]) (by kernel_rfl) (by simp) ?_
         refine AllReadyIn.cons rfl (fun K hK => ?_) AllReadyIn.nil
         go_simp
         refine hK _ _ ?_
         clear hK K
         refine wpAnyIn_ready (rs := [4]) (by kernel_rfl) (by simp) ?_
         refine appendIn_ready rfl (by kernel_rfl) _ _ _ _ rfl _ _ rfl rfl _ _ HRR.out ?_
         refine wpAnyIn_ready (rs := [5]) (by kernel_rfl) (by simp) ?_
         refine AllReadyIn.cons rfl (fun K hK => ?_) AllReadyIn.nil
         go_simp
         refine hK _ _ ?_
         clear hK K
         refine wpAnyIn_done (by kernel_rfl) ?_ _
         gi_wp2
         exact ⟨HFIN.out.1, _, HM2.out, HFIN.out.2⟩
       · go_simp
         refine hK _ _ ?_
         clear hK K
         refine wpAnyIn_ready (rs := [0]) (by kernel_rfl) (by simp) ?_
         refine AllReadyIn.cons rfl (fun K hK => ?_) AllReadyIn.nil
         go_simp
         refine hK _ _ ?_
         clear hK K
         refine wpAnyIn_ready (rs := [4]) (by kernel_rfl) (by simp) ?_
         refine appendIn_ready rfl (by kernel_rfl) _ _ _ _ rfl _ _ rfl rfl _ _ HRR.out ?_
         refine wpAnyIn_ready (rs := [5]) (by kernel_rfl) (by simp) ?_
         refine AllReadyIn.cons rfl (fun K hK => ?_) AllReadyIn.nil
         go_simp
         refine hK _ _ ?_
         clear hK K
         refine wpAnyIn_done (by kernel_rfl) ?_ _
         gi_wp2
         exact ⟨HFIN.out.1, _, HM2.out, HFIN.out.2⟩
 case hdone =>
  intro Wl hI hK
  obtain ⟨rs, he, hI⟩ := hI
  have hrs : rs = parseN l := by have := congrArg (List.map Prod.snd) he; rw [markN_snd, markN_snd] at this; exact this.symm
  subst hrs
  obtain ⟨R, c, vs, hk1, hk2, hk3, hk4⟩ := hI.row
  have y0 := cell_of_one hk1
  have y1 := cell_of_one hI.good
  have y0f := free_of_one hk1
  have y1f := free_of_one hI.good
  have e0 : Wl.drew.setCell ⟨hh, 0, none⟩ (.slice R (parseN l).length c) = Wl.drew := setCell_keep (w := Wl.drew) hk1 rfl
  have e1 : Wl.drew.setCell ⟨hh + 1, 0, none⟩ (.int .i64 ((allN (parseN l)).length : Int)) = Wl.drew := setCell_keep (w := Wl.drew) hI.good rfl
  obtain ⟨P, hP⟩ : ∃ P, (parseN l).length = P := ⟨_, rfl⟩
  obtain ⟨G, hG⟩ : ∃ G, (allN (parseN l)).length = G := ⟨_, rfl⟩
  have HI := Lib.hid (And.intro hI (And.intro hK (And.intro hk1 (And.intro hk2 (And.intro hk3 hk4)))))
  have HPG := Lib.hid (And.intro hP hG)
  rw [hP] at y0 e0
  rw [hG] at y1 e1
  clear hI hK hk1 hk2 hk3 hk4 hP hG he
  go_wp2_with fail
  refine wp_region_noPanic ?_
  go_region
  refine NoPanic.normal ?_
  have HE2 : Hid (Wl.drew.heap[W3.heap.size]? = some (.deferred (some []))) := Lib.hid HI.out.2.1
  have hcp := chg_putObjIt Wl.drew W3.heap.size (.deferred none)
  obtain ⟨Wf, hWf⟩ : ∃ Wf, Wl.drew.putObj W3.heap.size (.deferred none) = Wf := ⟨_, rfl⟩
  rw [hWf] at hcp
  have hcp : Chg [W3.heap.size] Wl Wf := (Chg.refl _ Wl).drew.trans hcp
  have hne : ∀ k, k ≠ W3.heap.size → Wf.heap[k]? = Wl.heap[k]? := fun k hk => by rw [← hWf]; exact World.putObj_heap_other hk
  have f0 := cell_of_one ((hne hh (by omega)).trans HI.out.2.2.1)
  have f1 := cell_of_one ((hne (hh + 1) (by omega)).trans HI.out.1.good)
  rw [HPG.out.1] at f0
  rw [HPG.out.2] at f1
  have F0 := Lib.hid f0
  have F1 := Lib.hid f1
  have HW := Lib.hid hWf
  have hr := HI.out.2.2.2.2.1.chg (L' := blk R) hcp (fun k hk => .inr (by simp only [List.mem_singleton] at hk; omega)) (fun k hk => .inl hk)
  have HFIN : Hid (SLine 1 Wf R P c vs ∧ RecsAt Wf w.heap.size (blk R) vs (parseN l) ∧ (∀ k ∈ blk R, w.heap.size ≤ k) ∧ Below w.heap.size w Wf) := Lib.hid (by
   have hB := HI.out.1.chg.size
   have hq := HHE.out
   have hl := HI.out.2.2.2.1
   rw [HPG.out.1] at hl
   refine ⟨hl.chg hcp (fun k hk hm => by have := HI.out.2.2.2.2.2 k hk; simp only [List.mem_singleton] at hm; omega), ⟨hr.1, fun i v r hv hr' => ?_⟩, fun k hk => by have := HI.out.2.2.2.2.2 k hk; omega, ?_⟩
   · obtain ⟨A', c', e1, e2, e3⟩ := hr.2 i v r hv hr'
     exact ⟨A', c', e1, e2, fun k hk => ⟨by have := (e3 k hk).1; omega, (e3 k hk).2⟩⟩
   · exact HB3.out.trans ((HI.out.1.chg.toBelow (fun k hk => by simp only [List.mem_cons, List.not_mem_nil, or_false] at hk; omega) (by omega)).trans (hcp.toBelow (fun k hk => by simp only [List.mem_singleton] at hk; omega) (by omega))))
  clear e0 e1 y0 y1 y0f y1f hcp hne hr f0 f1 hWf
  go_wp2_with fail
  refine ⟨by simp, .inl ⟨_, _, rfl, run_takeDeferred HE2.out, ?_⟩⟩
  rw [HW.out]
  refine ⟨_, results_parse _ _ hh (hh + 1) _ _ rfl rfl F0.out F1.out, ?_⟩
  rw [HPG.out.1, HPG.out.2]
  exact ⟨R, c, vs, rfl, HFIN.out⟩
end Go.Proofs.YtdjnebgjdekmaaaGreatDoor
