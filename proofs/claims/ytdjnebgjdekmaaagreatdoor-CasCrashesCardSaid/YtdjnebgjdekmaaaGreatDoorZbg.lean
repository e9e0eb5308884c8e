/- The document's disk: apply, a directory with a change. -/
import Derived.Test.YtdjnebgjdekmaaaGreatDoorZbe
import Derived.Deep.CutBlock
import Derived.Deep.QuietTactic
import Derived.BigQuiet
import Derived.Test.YtdjnebgjdekmaaaGreatDoorZbd
import Derived.Test.YtdjnebgjdekmaaaGreatDoorZaa
set_option linter.unusedSimpArgs false
set_option linter.unusedVariables false
set_option maxRecDepth 100000
namespace Go.Proofs.YtdjnebgjdekmaaaGreatDoor
section
open Go.RowKit Go.Maps
theorem append_ready {P : Program} {md : Region.Mode} {ops : Array Oper} {Q : Exit → Act → World → Prop} {fuel : Nat} {listed : Array Bool} {a : Act} {w : World} {i : Nat} {o : Oper} (ho : ops[i]? = some o) (hw : Region.wanted o (yielded ops a.tmps) = true)
 (s x : Operand) (t tn : TypeId) (hop : o.op = Op.call { callee := Callee.builtin Builtin.append, args := #[s, x], argTypes := #[t, tn] }) (vs vx : Value) (hs : a.eval s = vs) (hx : a.eval x = vx)
 (v' : Value) (w' : World) (hr : (Builtin.append_ #[t, tn] o.type #[vs, vx]).run P w = .ok v' w') (h : wpAny P md ops Q fuel (listed.setIfInBounds i true) (a.put o.dst v') w') : AllReady P md ops Q fuel listed a w [i] := by
 refine AllReady.cons ho (fun K' hK => ?_) AllReady.nil
 rw [if_pos hw]
 exact Lib.wp_append_run w s x t tn hop vs vx hs hx v' w' hr (hK _ _ h)
theorem new_cells (W : World) (news : List Value) (T : TypeId) : ∀ j u, news[j]? = some u → (W.alloc (.cells news.toArray T)).cell? ((⟨W.heap.size, 0, none⟩ : Addr).add j) = some u := by
 intro j u hu
 have e9 : (⟨W.heap.size, 0, none⟩ : Addr).add j = ⟨W.heap.size, j, none⟩ := by unfold Addr.add; split <;> simp_all
 rw [e9, cell_of_row _ W.heap.size j _ _ (0, 0) (heap_alloc_new W _)]
 rw [← hu]
 simp
theorem push_s (s : Nat) (w : World) (t e ty : TypeId) (z : Value) (bytes : Nat) (ht : Tryz.prog.underlying t = some (.slice e)) (hinfo : (Tryz.prog.info? e).map (fun i => (i.zero, i.size, i.bytes)) = some (some z, s, bytes)) (hz1 : z.cells.size = s) (hby : bytes ≤ 256)
 (C : Option Addr) (n c : Nat) (xs : List Value) (h : SLine s w C n c xs) (hn : n ≤ 100000) (news : List Value) (hnl : news.length = s) (h1 : ∀ u ∈ news, u.oneCell' = true) :
 ∃ C' c' w', (Builtin.append_ #[t, t] ty #[.slice C n c, .slice (some ⟨w.heap.size, 0, none⟩) 1 1]).run Tryz.prog (w.alloc (.cells news.toArray e)) = .ok (.slice C' (n + 1) c') w' ∧ SLine s w' C' (n + 1) c' (xs ++ news) ∧ Chg (blk C) w w' ∧ (∀ k ∈ blk C', k ∈ blk C ∨ w.heap.size ≤ k) ∧ C' ≠ none := by
 have hb : Below w.heap.size w (w.alloc (.cells news.toArray e)) := (Below.refl _ w).alloc (Nat.le_refl _) _
 have hs : (w.alloc (.cells news.toArray e)).heap.size = w.heap.size + 1 := by simp
 have hsrc : Src Tryz.prog s t (.slice (some ⟨w.heap.size, 0, none⟩) 1 1) 1 news (w.alloc (.cells news.toArray e)) := Src.ofSlice _ ht ⟨w.heap.size, 0, none⟩ 1 1 news (by rw [hnl, Nat.one_mul]) (new_cells w _ _) h1
 obtain ⟨C', c', w', hr, hl, hc, hf, hne⟩ := sline_append s (w.alloc (.cells news.toArray e)) t e ty z bytes ht hinfo hz1 hby C n c xs (h.below hb) (by omega) _ 1 (by omega) (fun _ => by omega) _ hsrc
 exact ⟨C', c', w', hr, hl, (Chg.of_below hb).trans hc, fun k hk => by
  rcases hf k hk with h1 | h1
  · exact .inl h1
  · exact .inr (by omega), hne⟩
theorem SLine.srcFrom {s : Nat} {w : World} {g off n c : Nat} {xs : List Value} {t e : TypeId} (ht : Tryz.prog.underlying t = some (.slice e)) (h : SLine s w (some ⟨g, off, none⟩) n c xs) (h1 : ∀ u ∈ xs, u.oneCell' = true) (k : Nat) (hk : k ≤ n) (c' : Nat) : Src Tryz.prog s t (.slice (some ⟨g, off + k * s, none⟩) (n - k) c') (n - k) (xs.drop (k * s)) w := by
 obtain ⟨g', off', e', hg, hc, _⟩ := h.2.2.2.2 _ rfl
 cases e'
 have hl := h.1
 have hks : k * s ≤ n * s := Nat.mul_le_mul_right s hk
 have hms : (n - k) * s = n * s - k * s := Nat.sub_mul ..
 refine Src.ofSlice w ht _ _ _ _ (by rw [List.length_drop]; omega) (fun j u hj => ?_) (fun u hu => h1 u (List.mem_of_mem_drop hu))
 rw [List.getElem?_drop] at hj
 have hjl := (List.getElem?_eq_some_iff.1 hj).1
 have e9 : (⟨g, off + k * s, none⟩ : Addr).add j = ⟨g, off + (k * s + j), none⟩ := by unfold Addr.add; split <;> simp_all [Nat.add_assoc]
 rw [e9, hc _ (by omega), hj]
theorem below_drewN (w : World) (n : Nat) : Below w.heap.size w (w.drewN n) := ⟨rfl, rfl, rfl, Nat.le_refl _, fun _ _ => rfl⟩
theorem SLine.src {s : Nat} {w : World} {A : Option Addr} {n c : Nat} {xs : List Value} {t e : TypeId} (ht : Tryz.prog.underlying t = some (.slice e)) (h : SLine s w A n c xs) (h1 : ∀ u ∈ xs, u.oneCell' = true) (hA : A ≠ none) (c' : Nat) : Src Tryz.prog s t (.slice A n c') n xs w := by
 cases A with
 | none => exact absurd rfl hA
 | some ad =>
  obtain ⟨g, off, rfl, _⟩ := h.2.2.2.2 _ rfl
  have := h.srcFrom ht h1 0 (Nat.zero_le _) c'
  simpa using this
end
section
attribute [local go_sem] Oper.semAt_some
open Go.RowKit Go.Shelf
theorem wpListIn_append_run {F : Fence} {n : Nat} {P : Program} (w : World) {ops : Array Oper} {rest : List Oper} {o : Oper} {a : Act} {Q : Exit → Act → World → Prop}
 (hg : o.guard = none) (s x : Operand) (t tn : TypeId) (hop : o.op = Op.call { callee := Callee.builtin Builtin.append, args := #[s, x], argTypes := #[t, tn] }) (vs vx : Value) (hs : a.eval s = vs) (hx : a.eval x = vx)
 (v' : Value) (w' : World) (hr : (Builtin.append_ #[t, tn] o.type #[vs, vx]).run P w = .ok v' w') (hK : wpListIn F n P ops Q rest (a.put o.dst v') w') : wpListIn F n P ops Q (o :: rest) a w := by
 refine wpListIn_plain hg fun K hK' => ?_
 unfold Oper.wpIn
 refine ⟨?_, ?_⟩
 · simp [Oper.about, hop, resolve, Target.leads, Sem.run_pure]
 · rw [Oper.semAt_plain F _ _ (by rw [hop]; intro c hc'; cases hc')]
   simp [execOp, hop, resolve, invoke, builtin, hs, hx, hr, Result.andThen]
   exact hK' _ _ hK
theorem infoStr : (Tryz.prog.info? 9).map (fun i => (i.zero, i.size, i.bytes)) = some (some (.string ⟨#[]⟩), 1, 16) := by kernel_rfl
def namesV (ps : List (ByteArray × Value)) : List Value := ps.map fun p => Value.string p.1
structure ListAt (w0 : World) (b D C : Nat) (pre : List (ByteArray × Value)) (W : World) : Prop where
 chg : Chg [b] w0 W
 row : ∃ A c, W.heap[b]? = some (.cells #[.slice A pre.length c] 59 (0, 0)) ∧ SLine 1 W A pre.length c (namesV pre) ∧ ∀ j ∈ blk A, D + 2 ≤ j ∧ j ≠ C
theorem ListAt.steady {w0 : World} {b C : Nat} {pre : List (ByteArray × Value)} (hb : b < w0.heap.size) : SteadyIt w0.heap.size (ListAt w0 b w0.heap.size C pre) := by
 rintro W W' ⟨h1, A, c, h2, h3, h4⟩ hc
 exact ⟨h1.andThen hc (fun k hk => by simp only [List.mem_cons, List.not_mem_nil, or_false] at hk; omega), A, c, (hc.same b (lt_of_block h2) (by simp only [List.mem_cons, List.not_mem_nil, or_false]; omega)).trans h2, h3.chg hc (fun k hk hm => by have := (h4 k hk).1; simp only [List.mem_cons, List.not_mem_nil, or_false] at hm; omega), h4⟩
set_option maxHeartbeats 3200000 in
theorem list_any (w : World) (d : Nat) (A : Option Addr) (n c : Nat) (ps : List (ByteArray × Value)) (h : RowAtS w d 2 A n c ps) (hn : n ≤ 90000) (hsh : ∀ p ∈ ps, ∃ a : Option Addr, p.2 = .pointer a) :
 Calls Tryz.prog 22 #[.pointer (some ⟨d, 0, none⟩)] w fun e w' => (∃ A' c', e = .returned (.slice A' ps.length c') ∧ SLine 1 w' A' ps.length c' (namesV ps) ∧ ∀ k ∈ blk A', w.heap.size ≤ k) ∧ Below w.heap.size w w' := by
 have HH := Lib.hid h
 have hqs := World.block_lt_of_cell? w _ h.cell
 have HSH := Lib.hid hsh
 clear h hsh
 refine (callsIn_wide (n := 8)).1 ?_
 refine callsIn_of_wp_marks Tryz.func22 rfl trivial ?_ rfl
 simp only [Tryz.ntmps22, List.size_toArray, List.length_cons, List.length_nil, Nat.reduceAdd, Nat.reduceSub, Array.replicate_succ, Array.replicate_zero, List.push_toArray, List.append_toArray, List.nil_append, List.cons_append]
 refine wpIn_wide.2 ?_
 obtain ⟨hh, hhe⟩ : ∃ hh, w.heap.size = hh := ⟨_, rfl⟩
 obtain ⟨W2, hW2⟩ : ∃ W2, w.alloc (.cells #[.slice none 0 0] 59) = W2 := ⟨_, rfl⟩
 have hB2 : Below w.heap.size w W2 := by rw [← hW2]; exact (Below.refl _ w).alloc (Nat.le_refl _) _
 have hs2 : W2.heap.size = hh + 1 := by rw [← hW2, ← hhe]; simp
 have k0 : W2.heap[hh]? = some (.cells #[.slice none 0 0] 59 (0, 0)) := by
  have := heap_alloc_new w (.cells #[.slice none 0 0] 59 (0, 0))
  rw [hhe] at this
  rw [← hW2]
  exact this
 have y0 := cell_of_one k0
 have y1 := free_of_one k0
 have HK0 := Lib.hid k0
 have HB2 := Lib.hid hB2
 have HHE := Lib.hid hhe
 have HN := Lib.hid (dnames_any W2 d)
 have HS2 := Lib.hid hs2
 clear k0 hB2 hs2
 go_wp2_with fail
 refine HN.out.mono ?_
 rintro e w' ⟨rfl, rfl⟩
 clear y0 y1
 go_wp2_with fail
 refine (reach_S _ _).mono ?_
 rintro e w' ⟨rfl, rfl⟩
 obtain ⟨W3, hW3⟩ : ∃ W3, W2.alloc (.cells #[.pointer (some ⟨d, 2, none⟩)] 95) = W3 := ⟨_, rfl⟩
 have hs2 := HS2.out
 have hB3 : Below W2.heap.size W2 W3 := by rw [← hW3]; exact (Below.refl _ W2).alloc (Nat.le_refl _) _
 have hs3 : W3.heap.size = hh + 2 := by rw [← hW3]; simp [hs2]
 have hbx : W3.heap[hh + 1]? = some (.cells #[.pointer (some ⟨d, 2, none⟩)] 95 (0, 0)) := by
  have := heap_alloc_new W2 (.cells #[.pointer (some ⟨d, 2, none⟩)] 95 (0, 0))
  rw [hs2, hW3] at this
  exact this
 rw [hs2, hW3]
 have HBX := Lib.hid hbx
 have HB3 : Hid (Below w.heap.size w W3) := Lib.hid (HB2.out.trans (hB3.mono (by have := HB2.out.size; omega)))
 have HJ0 := Lib.hid ((hB3.block hh (by omega)).trans HK0.out)
 have hq3 : d < hh := by have := HHE.out; have h5 : d < w.heap.size := hqs; omega
 clear hW2 hW3 hbx hB3 HK0
 have HIT : Hid (∀ W1, Below W3.heap.size W3 W1 → IterOk Tryz.prog 74 #[.pointer (some ⟨hh + 1, 0, none⟩)] arS 2 ps W1) := Lib.hid (fun W1 hb => by
  have hbw := HB3.out.trans (hb.mono (by have := HHE.out; omega))
  exact each1_S W1 (hh + 1) (some ⟨d, 2, none⟩) A n c ps (cell_of_one ((hb.block _ (by omega)).trans HBX.out)) (.inr ⟨d, 2, rfl, (hbw.cell (p := ⟨d, 2, none⟩) hqs).trans HH.out.cell, HH.out.row.below hbw⟩) (by omega) HSH.out)
 go_wp2_with fail
 refine (wpIn_wide (n := 8)).1 ?_
 refine range_it 8 2 (by decide) 74 #[.pointer (some ⟨hh + 1, 0, none⟩)] arS rfl eachS_enters (fun _ => rfl) ps HIT.out (fun C pre W => ListAt W3 hh W3.heap.size C pre W) (fun _ _ _ _ => False) (fun C xs => ListAt.steady (by omega)) (fun _ _ _ _ _ h _ => h) ?h0 ?hab ?hdone (fun _ _ _ _ _ h _ => h.elim)
 case h0 =>
  intro C W1 hC hb1
  exact ⟨Chg.of_below hb1, none, 0, (hb1.block _ (by omega)).trans HJ0.out, SLine.nil 1 _, fun j hj => by cases hj⟩
 case hab =>
  apply Exists.intro
  refine ⟨?hassign, ?hbody⟩
  case hassign =>
   intro x W K hK
   unfold arS encS
   gi_wp2
   exact hK
  case hbody =>
   intro C pre x Wr hC hCW hD1 hI hpre
   obtain ⟨x, v⟩ := x
   have hmem : (x, v) ∈ ps := hpre.subset (by simp)
   obtain ⟨Ac, cc, hk1, hk2, hk3⟩ := hI.row
   have hlt2 := lt_of_block hk1
   have hlen2 : pre.length ≤ 90000 := by
    have h1 := hpre.length_le
    have h2 := HH.out.2.len
    simp only [List.length_append, List.length_cons, List.length_nil] at h1
    omega
   obtain ⟨C', c2, W6, hr, hl6, hc6, hf6, _⟩ := push_s 1 Wr 59 9 59 _ 16 Tryz.underlying59 infoStr rfl (by decide) Ac pre.length cc _ hk2 (by omega) [.string x] rfl (fun u hu => by rw [List.mem_singleton] at hu; rw [hu]; rfl)
   have HR : Hid ((Builtin.append_ #[59, 59] 59 #[.slice Ac pre.length cc, .slice (some ⟨Wr.heap.size, 0, none⟩) 1 1]).run Tryz.prog (Wr.alloc (.cells #[.string x] 9)) = .ok (.slice C' (pre.length + 1) c2) W6) := Lib.hid hr
   have hxA : hh ∉ blk Ac := fun hm => by have := (hk3 _ hm).1; omega
   have hk6 : W6.heap[hh]? = some (.cells #[.slice Ac pre.length cc] 59 (0, 0)) := (hc6.same hh hlt2 hxA).trans hk1
   have c1 := cell_of_one hk1
   have c2' := cell_of_one hk6
   have c3 := free_of_one hk6
   have HSTEP : Hid (KeepsIt W3.heap.size C Wr (W6.setCell ⟨hh, 0, none⟩ (.slice C' (pre.length + 1) c2)) ∧ ListAt W3 hh W3.heap.size C (pre ++ [(x, v)]) (W6.setCell ⟨hh, 0, none⟩ (.slice C' (pre.length + 1) c2))) := Lib.hid (by
    have hcc : Chg (hh :: blk Ac) Wr (W6.setCell ⟨hh, 0, none⟩ (.slice C' (pre.length + 1) c2)) := (hc6.weaken (fun k hk => .inl (List.mem_cons_of_mem _ hk))).setCell hh 0 _ (.inl (List.mem_cons_self ..))
    have hne : ∀ k ∈ hh :: blk Ac, k ≠ W3.heap.size ∧ k ≠ W3.heap.size + 1 ∧ k ≠ C := by
     intro k hk
     rcases List.mem_cons.1 hk with rfl | hk
     · omega
     · have := hk3 k hk; omega
    have hzr := hc6.size
    refine ⟨hcc.keepsIt (by omega) hCW (fun hm => (hne _ hm).1 rfl) (fun hm => (hne _ hm).2.1 rfl) (fun hm => (hne _ hm).2.2 rfl), hI.chg.andThen hcc (fun k hk => ?_), C', c2, ?_, ?_, fun j hj => ?_⟩
    · rcases List.mem_cons.1 hk with rfl | hk
      · exact .inl (by simp)
      · have := hk3 k hk; exact .inr (by omega)
    · rw [one_setCell hk6, List.length_append]; rfl
    · rw [List.length_append]
      have h7 : SLine 1 (W6.setCell ⟨hh, 0, none⟩ (.slice C' (pre.length + 1) c2)) C' (pre.length + 1) c2 (namesV pre ++ [.string x]) := hl6.chg ((Chg.refl [hh] W6).setCell hh 0 _ (.inl (by simp))) (fun k hk hm => by
       rw [List.mem_singleton] at hm
       rw [hm] at hk
       rcases hf6 hh hk with h | h
       · exact hxA h
       · omega)
      unfold namesV at h7 ⊢
      rw [List.map_append]
      exact h7
    · rcases hf6 j hj with h5 | h5
      · exact hk3 j h5
      · omega)
   clear hr hl6 hc6 hf6 hk1 hk2 hk3 hk6 hI hpre hlen2 hxA hmem hlt2
   gi_wp2_with (gi_at_builtin; refine wpListIn_append_run _ rfl _ _ _ _ rfl _ _ rfl rfl _ _ HR.out ?_)
   exact HSTEP.out
 case hdone =>
  intro C Wl hI hK
  have hbl := hI.chg
  obtain ⟨Ac, cc, hk1, hk2, hk3⟩ := hI.row
  have y1 := cell_of_one hk1
  have HK2 := Lib.hid (And.intro hk2 hk3)
  have HE2 : Hid (Wl.heap[W3.heap.size]? = some (.deferred (some []))) := Lib.hid hK
  have HE4 : Hid (Below hh W3 Wl) := Lib.hid (hbl.toBelow (fun k hk => by simp only [List.mem_cons, List.not_mem_nil, or_false] at hk; omega) (by omega))
  clear hI hK hbl hk1 hk2 hk3
  go_wp2_with fail
  have hcp := chg_putObjIt Wl W3.heap.size (.deferred none)
  have hsz : hh + 2 ≤ Wl.heap.size := by have := HE4.out.size; omega
  refine ⟨by simp, .inl ⟨_, _, rfl, run_takeDeferred HE2.out, ?_⟩⟩
  refine ⟨_, results_tmp rfl _ _ _, ⟨Ac, cc, rfl, HK2.out.1.chg hcp (fun k hk hm => by have := (HK2.out.2 k hk).1; rw [List.mem_singleton] at hm; omega), fun k hk => by have := (HK2.out.2 k hk).1; have := HHE.out; omega⟩, ?_⟩
  rw [HHE.out]
  have h3 := HB3.out
  rw [HHE.out] at h3
  exact h3.trans (HE4.out.trans (hcp.toBelow (fun k hk => by simp only [List.mem_cons, List.not_mem_nil, or_false] at hk; omega) (by omega)))
end
section
open Go.RowKit Go.Maps
def twE : Value → Option (DataW Unit × List MemPlace)
 | .pointer none => some (.lit (.int .i64 (-1)), [])
 | .pointer (some ⟨b, 0, none⟩) => some (.lit (.int .i64 (b : Int)), [])
 | _ => none
theorem twE_some (b : Nat) : twE (.pointer (some ⟨b, 0, none⟩)) = some (.lit (.int .i64 (b : Int)), []) := rfl
theorem twE_inv {b : Nat} {v : Value} {ps : List MemPlace} (h : twE v = some (.lit (.int .i64 (b : Int)), ps)) : v = .pointer (some ⟨b, 0, none⟩) := by
 unfold twE at h
 split at h
 · simp at h
 · rename_i b'
   simp at h
   obtain ⟨h, _⟩ := h
   have : b' = b := by omega
   rw [this]
 · cases h
def TwinsAt (w : World) (M : Nat) (L : List (Nat × Nat)) : Prop := ∃ D, w.ownsMap Tryz.prog 3 twE M L.length D ∧ ∀ p ∈ L, ∀ z, D.atKey (.int .i64 (p.1 : Int)) z = .lit (.int .i64 (p.2 : Int))
theorem TwinsAt.new (w : World) : TwinsAt (w.alloc (.map #[] 0)) w.heap.size [] := ⟨_, World.ownsMap_made _ _ _ _, fun p hp => by cases hp⟩
theorem TwinsAt.same {w w' : World} {M : Nat} {L : List (Nat × Nat)} (h : TwinsAt w M L) (hb : w'.heap[M]? = w.heap[M]?) : TwinsAt w' M L := by
 obtain ⟨D, ⟨es, clock, h1, h2⟩, h3⟩ := h
 exact ⟨D, ⟨es, clock, hb.trans h1, h2⟩, h3⟩
theorem TwinsAt.lt {w : World} {M : Nat} {L : List (Nat × Nat)} (h : TwinsAt w M L) : M < w.heap.size := by
 obtain ⟨D, h1, _⟩ := h
 exact World.ownsMap.lt h1
theorem TwinsAt.put {w : World} {M : Nat} {L : List (Nat × Nat)} (h : TwinsAt w M L) (n b : Nat) (hn : n ≤ 9000000) (hL : L.length ≤ 1000000) (hnew : ∀ p ∈ L, p.1 ≠ n) :
 ∃ w', (Instr.mapUpdate 91 (.map (some M)) (.int .i64 (n : Int)) (.pointer (some ⟨b, 0, none⟩))).run Tryz.prog w = .ok () w' ∧ TwinsAt w' M (L ++ [(n, b)]) ∧ Chg [M] w w' := by
 obtain ⟨D, hD, hL2⟩ := h
 obtain ⟨w', h1, h2, h3⟩ := World.ownsMap.update (P := Tryz.prog) hD keyI Tryz.underlying91 (by unfold maxLen; omega) (keyOf_num n hn) (twE_some b)
 refine ⟨w', h1, ⟨_, by rw [List.length_append]; exact h2, fun p hp z => ?_⟩, (Chg.refl _ w).grown h3 (fun k hk => by injection hk with hk; subst hk; exact .inl (by simp))⟩
 rcases List.mem_append.1 hp with hp | hp
 · have hne : p.1 ≠ n := hnew p hp
   rw [atKey_put_other (by intro e; simp at e; omega)]
   exact hL2 p hp z
 · rw [List.mem_singleton] at hp
   subst hp
   exact atKey_put_same hD.isMap (show WideAt.IsKeyLit (Lit.int .i64 (n : Int)) from trivial) _ z
theorem TwinsAt.get {w : World} {M : Nat} {L : List (Nat × Nat)} (h : TwinsAt w M L) {n b : Nat} (hp : (n, b) ∈ L) (hn : n ≤ 9000000) :
 (Instr.lookup 91 (.map (some M)) (.int .i64 (n : Int)) false).run Tryz.prog w = .ok (.pointer (some ⟨b, 0, none⟩)) w := by
 obtain ⟨D, hD, hL⟩ := h
 obtain ⟨v, ps, h1, h2⟩ := World.ownsMap.lookup (P := Tryz.prog) hD keyI Tryz.underlying91 (zeroFP w) (show twE (.pointer none) = some (.lit (.int .i64 (-1)), []) from rfl) (keyOf_num n hn)
 rw [hL (n, b) hp] at h2
 rw [h1, twE_inv h2]
set_option maxHeartbeats 1600000 in
theorem twin_any (w : World) (f num : Nat) (A : Option Addr) (n c sure : Nat) (hF : FileAt w f num A n c sure) (hnum : num ≤ 1000000) (B M : Nat) (hB : w.cell? ⟨B, 0, none⟩ = some (.map (some M))) (L : List (Nat × Nat)) (hM : TwinsAt w M L) (b : Nat) (hp : (num, b) ∈ L) :
 Calls Tryz.prog 41 #[.pointer (some ⟨f, 0, none⟩), .pointer (some ⟨B, 0, none⟩)] w fun e w' => e = .returned (.pointer (some ⟨b, 0, none⟩)) ∧ Below w.heap.size w w' := by
 have c0 := hF.c0
 have hrun := (hM.same (w' := w.drew) rfl).get hp (by omega)
 have hrun' := hM.get hp (by omega)
 clear hM hF hp
 go_enter Tryz.func41, Tryz.ntmps41
 go_wp2_with fail
 go_region
 go_wp2
 go_ret
 exact ⟨rfl, (Below.refl _ w).drew⟩
theorem twin_nil (w : World) (B : Nat) : Calls Tryz.prog 41 #[.pointer none, .pointer (some ⟨B, 0, none⟩)] w fun e w' => e = .returned (.pointer none) ∧ Below w.heap.size w w' := by
 go_enter Tryz.func41, Tryz.ntmps41
 go_wp2
 go_ret
 exact ⟨rfl, Below.refl _ _⟩
theorem clone1_enters (args : Array Value) (w : World) : (callFunc 41 args).run Tryz.prog w = .ok (.enter 41 args) w := enters_of Tryz.func41 (by kernel_rfl) rfl args w
theorem infoPair : (Tryz.prog.info? 109).map (fun i => (i.zero, i.size, i.bytes)) = some (some (.agg #[.string ⟨#[]⟩, .pointer none]), 2, 24) := by kernel_rfl
theorem mapF_append (φ : Option Addr → Option Addr) (a b : List (ByteArray × Value)) : mapF φ (a ++ b) = mapF φ a ++ mapF φ b := by unfold mapF; rw [List.map_append]
theorem mapF_length (φ : Option Addr → Option Addr) (a : List (ByteArray × Value)) : (mapF φ a).length = a.length := by unfold mapF; rw [List.length_map]
theorem appendR_ready {P : Program} {md : Region.Mode} {ops : Array Oper} {Q : Exit → Act → World → Prop} {S : World → Prop} {fuel : Nat} {listed : Array Bool} {a : Act} {w : World} {i : Nat} {o : Oper} (ho : ops[i]? = some o) (hw : Region.wanted o (yielded ops a.tmps) = true)
 (s x : Operand) (t tn : TypeId) (hop : o.op = Op.call { callee := Callee.builtin Builtin.append, args := #[s, x], argTypes := #[t, tn] }) (vs vx : Value) (hs : a.eval s = vs) (hx : a.eval x = vx)
 (v' : Value) (w' : World) (hr : (Builtin.append_ #[t, tn] o.type #[vs, vx]).run P w = .ok v' w') (hS : S w') (h : wpAnyH P md ops Q S fuel (listed.setIfInBounds i true) (a.put o.dst v') w') : AllReadyH P md ops Q S fuel listed a w [i] := by
 refine AllReadyH.cons ho (fun K' hK => ?_) AllReadyH.nil
 rw [if_pos hw]
 exact Lib.wp_append_run w s x t tn hop vs vx hs hx v' w' hr (hK.out _ _ hS (fun _ => h))
theorem Chg.cell_new {w w2 w3 : World} {l : List Nat} {b i : Nat} (hc : Chg l w2 w3) (hb : Below w.heap.size w w2) (h0 : b ∉ l) (hl : b < w.heap.size) : w3.cell? ⟨b, i, none⟩ = w.cell? ⟨b, i, none⟩ :=
 (World.cell?_of_block (w := w2) (a := ⟨b, i, none⟩) (hc.same b (by have := hb.size; omega) h0)).trans (hb.cell (p := ⟨b, i, none⟩) hl)
set_option maxHeartbeats 3200000 in
theorem copiedChange_any (w : World) (P : Option Addr) (m c : Nat) (chs : List (ByteArray × Value)) (hP : SLine 2 w P m c (cellsP encS chs)) (hsh : ∀ p ∈ chs, ∃ a : Option Addr, p.2 = .pointer a) (hm : m ≤ 90000) (tb : Nat) (φ : Option Addr → Option Addr)
 (hother : ∀ W, Below w.heap.size w W → ∀ p ∈ chs, ∀ a, p.2 = .pointer a → Calls Tryz.prog 41 #[.pointer a, .pointer (some ⟨tb, 0, none⟩)] W fun e W' => e = .returned (.pointer (φ a)) ∧ Below W.heap.size W W') :
 Calls Tryz.prog 43 #[.slice P m c, .func (.func 41) #[] #[.pointer (some ⟨tb, 0, none⟩)]] w fun e w' => (∃ A' c', e = .returned (.slice A' m c') ∧ SLine 2 w' A' m c' (cellsP encS (mapF φ chs)) ∧ ∀ k ∈ blk A', w.heap.size ≤ k) ∧ Below w.heap.size w w' := by
 have hlen : chs.length = m := by have := hP.1; rw [cellsP_length] at this; omega
 have hmc : m ≤ c := hP.2.1
 have HP := Lib.hid hP
 have HSH := Lib.hid hsh
 have HO := Lib.hid hother
 have HLEN := Lib.hid hlen
 clear hP hsh hother hlen
 go_enter Tryz.func43, Tryz.ntmps43
 go_wp2_with fail
 go_loopw [5, 10] (fun v i wr => ∃ (j : Nat) (A : Option Addr) (c' : Nat), j ≤ m ∧ i = .int .i64 j ∧ v = .slice A j c' ∧ Hid (SLine 2 wr A j c' (cellsP encS (mapF φ (chs.take j))) ∧ (∀ k ∈ blk A, w.heap.size ≤ k) ∧ Below w.heap.size w wr)) (fun _ i _ => m - (intOf i).toNat)
 case atStart => exact ⟨0, none, 0, by omega, rfl, rfl, Lib.hid ⟨SLine.nil 2 _, fun k hk => (by cases hk), Below.refl _ _⟩⟩
 case round =>
  obtain ⟨j, A, c', hj, rfl, rfl, HI⟩ := hrel
  rcases Nat.lt_or_ge j m with hlt | hge
  · obtain ⟨⟨x, v⟩, hq⟩ : ∃ p, chs[j]? = some p := ⟨_, List.getElem?_eq_getElem (by have := HLEN.out; omega)⟩
    obtain ⟨a, ha⟩ := HSH.out _ (List.mem_of_getElem? hq)
    dsimp only at ha
    subst ha
    obtain ⟨g, off, rfl, hg, hcs, _⟩ := (HP.out.below HI.out.2.2).at (by omega)
    obtain ⟨p1, p2⟩ := cellsP_at encS chs j _ hq
    have d0 := (hcs (j * 2) (by omega)).trans p1
    have d1 : wr.cell? ⟨g, off + j * 2 + 1, none⟩ = some (.pointer a) := by rw [Nat.add_assoc]; exact (hcs (j * 2 + 1) (by omega)).trans p2
    unfold encS at d0
    obtain ⟨Wa, hWa⟩ : ∃ Wa, wr.alloc (.cells #[.string x, .pointer a] 109) = Wa := ⟨_, rfl⟩
    have hBa : Below wr.heap.size wr Wa := by rw [← hWa]; exact (Below.refl _ wr).alloc (Nat.le_refl _) _
    have hva : Wa.heap[wr.heap.size]? = some (.cells #[.string x, .pointer a] 109 (0, 0)) := by rw [← hWa]; exact heap_alloc_new wr _
    have hwr := HI.out.2.2.size
    have hvA : wr.heap.size ∉ blk A := fun hm => by have := HI.out.1.lt _ hm; omega
    have HBw : Hid (Below w.heap.size w Wa.drew) := Lib.hid (HI.out.2.2.trans (hBa.mono hwr)).drew
    have HL2 : Hid (∀ V, Below Wa.drew.heap.size Wa.drew V → SLine 2 V A j c' (cellsP encS (mapF φ (chs.take j)))) := Lib.hid (fun V hV => (HI.out.1.below hBa).drew.below hV)
    have HOT := Lib.hid (HO.out Wa.drew HBw.out _ (List.mem_of_getElem? hq) a rfl)
    have HSTEP : Hid (∀ (w2 : World), Below Wa.drew.heap.size Wa.drew w2 → ∀ (C2 : Option Addr) (c2 : Nat) (w3 : World), SLine 2 w3 C2 (j + 1) c2 (cellsP encS (mapF φ (chs.take j)) ++ [.string x, .pointer (φ a)]) → Chg (blk A) w2 w3 → (∀ k ∈ blk C2, k ∈ blk A ∨ w2.heap.size ≤ k) →
     SLine 2 w3 C2 (j + 1) c2 (cellsP encS (mapF φ (chs.take (j + 1)))) ∧ (∀ k ∈ blk C2, w.heap.size ≤ k) ∧ Below w.heap.size w w3) := Lib.hid (fun w2 hb2 C2 c2 w3 hl hc hf => by
     have hz := HBw.out.size
     have hz2 := hb2.size
     have hbw := HBw.out.trans (hb2.mono hz)
     refine ⟨?_, fun k hk => ?_, hbw.trans (hc.toBelow HI.out.2.1 (by omega))⟩
     · rw [List.take_add_one, hq, mapF_append, cellsP_append]
       exact hl
     · rcases hf k hk with h | h
       · exact HI.out.2.1 k h
       · omega)
    obtain ⟨va, hvae⟩ : ∃ va, wr.heap.size = va := ⟨_, rfl⟩
    rw [hvae] at hva hvA
    have HSa : Hid (Wa.drew.cell? ⟨va, 0, none⟩ = some (.string x) ∧ Wa.drew.cell? ⟨va, 1, none⟩ = some (.pointer a)) := Lib.hid ⟨by rw [cell_of_row Wa.drew va 0 _ _ (0, 0) hva]; rfl, by rw [cell_of_row Wa.drew va 1 _ _ (0, 0) hva]; rfl⟩
    have hval : va < Wa.drew.heap.size := lt_of_block hva
    have hlt' : (j : Int) < (m : Int) := by omega
    have hj0 : (0 : Int) ≤ (j : Int) := by omega
    clear hBa hva hcs p1 p2 hwr hq
    go_upto_region 5 with fail
    refine wp_region_held_drew (S := fun V => V.cell? ⟨va, 0, none⟩ = some (.string x) ∧ V.cell? ⟨va, 1, none⟩ = some (.pointer a)) (by kernel_rfl) HSa.out (fun _ => ?_)
    refine ty9 0 14 (v := (.slice A j c')) rfl rfl ?_ HSa.out ?_
    · intro w hSw
      go_simp
    simp only [Act.put, List.setIfInBounds_toArray, List.set_cons_zero, List.set_cons_succ]
    refine ty9 1 15 (v := (.pointer (some ⟨va, 0, none⟩))) rfl rfl ?_ HSa.out ?_
    · intro w hSw
      go_simp
    simp only [Act.put, List.setIfInBounds_toArray, List.set_cons_zero, List.set_cons_succ]
    refine ty9 2 16 (v := (.string x)) rfl rfl ?_ HSa.out ?_
    · intro w hSw
      obtain ⟨s0, s1⟩ := hSw
      go_simp
    simp only [Act.put, List.setIfInBounds_toArray, List.set_cons_zero, List.set_cons_succ]
    refine ty9 3 17 (v := (.func (.func 41) #[] #[.pointer (some ⟨tb, 0, none⟩)])) rfl rfl ?_ HSa.out ?_
    · intro w hSw
      go_simp
    simp only [Act.put, List.setIfInBounds_toArray, List.set_cons_zero, List.set_cons_succ]
    refine ty9 4 18 (v := (.pointer (some ⟨va, 1, none⟩))) rfl rfl ?_ HSa.out ?_
    · intro w hSw
      go_simp
    simp only [Act.put, List.setIfInBounds_toArray, List.set_cons_zero, List.set_cons_succ]
    refine ty9 5 19 (v := (.pointer a)) rfl rfl ?_ HSa.out ?_
    · intro w hSw
      obtain ⟨s0, s1⟩ := hSw
      go_simp
    simp only [Act.put, List.setIfInBounds_toArray, List.set_cons_zero, List.set_cons_succ]
    refine wpAnyH_ready (rs := [6]) (by kernel_rfl) (by simp) ?_
    refine AllReadyH.cons rfl (fun K hK => ?_) AllReadyH.nil
    go_simp
    go_at_call 41
    with_reducible refine HOT.out.mono ?_
    rintro e w2 ⟨rfl, hb2⟩
    obtain ⟨C2, c2, w3, hr, hl, hc, hf, _⟩ := push_s 2 w2 97 109 97 _ 24 Tryz.underlying97 infoPair rfl (by decide) A j c' _ (HL2.out w2 hb2) (by omega) [.string x, .pointer (φ a)] rfl (fun u hu => by simp only [List.mem_cons, List.not_mem_nil, or_false] at hu; rcases hu with h | h <;> (rw [h]; rfl))
    have HR := Lib.hid hr
    have HNEW := Lib.hid (HSTEP.out w2 hb2 C2 c2 w3 hl hc hf)
    have HS2 : Hid (w2.cell? ⟨va, 0, none⟩ = some (.string x) ∧ w2.cell? ⟨va, 1, none⟩ = some (.pointer a)) := Lib.hid ⟨(hb2.cell (p := ⟨va, 0, none⟩) hval).trans HSa.out.1, (hb2.cell (p := ⟨va, 1, none⟩) hval).trans HSa.out.2⟩
    have HS2b : Hid (w3.cell? ⟨va, 0, none⟩ = some (.string x) ∧ w3.cell? ⟨va, 1, none⟩ = some (.pointer a)) := Lib.hid ⟨(hc.cell_new hb2 hvA hval).trans HSa.out.1, (hc.cell_new hb2 hvA hval).trans HSa.out.2⟩
    have hb2a : Below w2.heap.size w2 (w2.alloc (.cells #[.string x, .pointer (φ a)] 109)) := (Below.refl _ w2).alloc (Nat.le_refl _) _
    have HS2a : Hid ((w2.alloc (.cells #[.string x, .pointer (φ a)] 109)).cell? ⟨va, 0, none⟩ = some (.string x) ∧ (w2.alloc (.cells #[.string x, .pointer (φ a)] 109)).cell? ⟨va, 1, none⟩ = some (.pointer a)) := Lib.hid ⟨(hb2a.cell (p := ⟨va, 0, none⟩) (by have := hb2.size; show va < _; omega)).trans HS2.out.1, (hb2a.cell (p := ⟨va, 1, none⟩) (by have := hb2.size; show va < _; omega)).trans HS2.out.2⟩
    clear hb2 hr hl hc hf hb2a
    refine hK.out _ _ HS2.out (fun _ => ?_)
    clear hK K
    try simp only [Act.put, List.setIfInBounds_toArray, List.set_cons_zero, List.set_cons_succ]
    refine ty9 7 21 (v := (.agg #[.string x, .pointer (φ a)])) rfl rfl ?_ HS2.out ?_
    · intro w hSw
      go_simp
    simp only [Act.put, List.setIfInBounds_toArray, List.set_cons_zero, List.set_cons_succ]
    refine wpAnyH_ready (rs := [8]) (by kernel_rfl) (by simp) ?_
    refine AllReadyH.cons rfl (fun K hK => ?_) AllReadyH.nil
    go_simp
    refine hK.out _ _ HS2a.out (fun _ => ?_)
    clear hK K
    try simp only [Act.put, List.setIfInBounds_toArray, List.set_cons_zero, List.set_cons_succ]
    refine wpAnyH_ready (rs := [9]) (by kernel_rfl) (by simp) ?_
    refine appendR_ready rfl (by kernel_rfl) _ _ _ _ rfl _ _ rfl rfl _ _ HR.out HS2b.out ?_
    try simp only [Act.put, List.setIfInBounds_toArray, List.set_cons_zero, List.set_cons_succ]
    refine ty9 10 5 (v := (.slice C2 (j + 1) c2)) rfl rfl ?_ HS2b.out ?_
    · intro w hSw
      go_simp
    simp only [Act.put, List.setIfInBounds_toArray, List.set_cons_zero, List.set_cons_succ]
    refine wpAnyH_done (by kernel_rfl) ?_ _
    go_wp2
    go_roundw
    case rel => exact ⟨j + 1, C2, c2, by omega, by go_num, rfl, HNEW⟩
    case measure => simp [intOf]; omega
  · obtain rfl : j = m := by omega
    have HE := HI
    rw [← HLEN.out, List.take_length, HLEN.out] at HE
    clear HI
    go_wp2
    go_ret
    exact ⟨⟨A, c', rfl, HE.out.1, HE.out.2.1⟩, HE.out.2.2⟩
structure TwIn (w wr : World) (cb M tb : Nat) (own2 : Nat → Nat) (b : DBox) (GA : Option Addr) (j gc : Nat) (fs gs : List Value) (L : List (Nat × Nat)) (nm su : Value → Nat) (dt : Value → List Value) : Prop where
 below : Below w.heap.size w wr
 box : DBoxAt wr cb { b with files := .slice GA j gc }
 var : wr.heap[tb]? = some (.cells #[.map (some M)] 91 (0, 0))
 twins : TwinsAt wr M L
 line : SLine 1 wr GA j gc gs
 o1 : own2 cb = 1
 oM : own2 M = 0
 oT : own2 tb = 0
 o0 : ∀ i, i < w.heap.size → own2 i = 0
 oN : ∀ i, wr.heap.size ≤ i → own2 i = 0
 oF : ∀ k ∈ blk GA, own2 k = 2
 two : ∀ i f, fs[i]? = some f → i < j → ∃ tf : Nat, gs[i]? = some (.pointer (some ⟨tf, 0, none⟩)) ∧ (nm f, tf) ∈ L ∧ FileO wr own2 (.pointer (some ⟨tf, 0, none⟩)) (nm f) (dt f) (su f)
 num : ∀ p ∈ L, ∃ f ∈ fs.take j, p.1 = nm f
 len : L.length = j
section
variable {w wr : World} {cb M tb : Nat} {own2 : Nat → Nat} {b : DBox} {GA : Option Addr} {j gc : Nat} {fs gs : List Value} {L : List (Nat × Nat)} {nm su : Value → Nat} {dt : Value → List Value}
theorem TwIn.glen (T : TwIn w wr cb M tb own2 b GA j gc fs gs L nm su dt) : gs.length = j := by have := T.line.1; omega
theorem TwIn.step (T : TwIn w wr cb M tb own2 b GA j gc fs gs L nm su dt) (hM : M < w.heap.size + 3 ∧ w.heap.size ≤ M) (hMt : M ≠ tb) (hMc : M ≠ cb) (htc : tb ≠ cb) (v : Value) (hv : fs[j]? = some v) (n : Nat) (A' : Option Addr) (c' : Nat) (w2 : World) (hB2 : Below wr.heap.size wr w2)
 (hl2 : SLine 1 w2 A' n c' (dt v)) (hA' : ∀ k ∈ blk A', wr.heap.size ≤ k) (hn : n ≤ 1048576) (hs : su v ≤ n) (w3 : World) (hw3 : w2.alloc (.cells #[.int .i64 (nm v : Int), .slice A' n c', .int .i64 (su v : Int)] 90) = w3) (w4 : World) (hT4 : TwinsAt w4 M (L ++ [(nm v, w2.heap.size)])) (hc4 : Chg [M] w3 w4)
 (C2 : Option Addr) (c2 : Nat) (w5 : World) (hl5 : SLine 1 w5 C2 (j + 1) c2 (gs ++ [.pointer (some ⟨w2.heap.size, 0, none⟩)])) (hc5 : Chg (blk GA) w4 w5) (hf5 : ∀ k ∈ blk C2, k ∈ blk GA ∨ w4.heap.size ≤ k) :
 ∃ own', TwIn w (w5.setCell ⟨cb, 0, none⟩ (.slice C2 (j + 1) c2)) cb M tb own' b C2 (j + 1) c2 fs (gs ++ [.pointer (some ⟨w2.heap.size, 0, none⟩)]) (L ++ [(nm v, w2.heap.size)]) nm su dt := by
 have z2 := hB2.size
 have z3 : w3.heap.size = w2.heap.size + 1 := by rw [← hw3]; simp
 have hB3 : Below w2.heap.size w2 w3 := by rw [← hw3]; exact (Below.refl _ w2).alloc (Nat.le_refl _) _
 have hf3 : w3.heap[w2.heap.size]? = some (.cells #[.int .i64 (nm v : Int), .slice A' n c', .int .i64 (su v : Int)] 90 (0, 0)) := by rw [← hw3]; exact heap_alloc_new w2 _
 have z4 := hc4.size
 have z5 := hc5.size
 have hcbl := T.box.lt
 have htl := lt_of_block T.var
 have hMl := T.twins.lt
 have hGl := T.line.lt
 have zw := T.below.size
 have hc6 : Chg [cb] w5 (w5.setCell ⟨cb, 0, none⟩ (.slice C2 (j + 1) c2)) := (Chg.refl _ w5).setCell cb 0 _ (.inl (by simp))
 have z6 := hc6.size
 obtain ⟨w6, hw6⟩ : ∃ w6, w5.setCell ⟨cb, 0, none⟩ (.slice C2 (j + 1) c2) = w6 := ⟨_, rfl⟩
 have hcbG : cb ∉ blk GA := fun hm => by have := T.oF cb hm; have := T.o1; omega
 have htG : tb ∉ blk GA := fun hm => by have := T.oF tb hm; have := T.oT; omega
 have hMG : M ∉ blk GA := fun hm => by have := T.oF M hm; have := T.oM; omega
 have hGw : ∀ k ∈ blk GA, w.heap.size ≤ k := fun k hk => by
  rcases Nat.lt_or_ge k w.heap.size with q | q
  · have := T.o0 k q
    have := T.oF k hk
    omega
  · exact q
 have hcw : w.heap.size ≤ cb := by
  rcases Nat.lt_or_ge cb w.heap.size with q | q
  · have := T.o0 cb q
    have := T.o1
    omega
  · exact q
 have hk5 : ∀ k, k < wr.heap.size → k ≠ M → k ∉ blk GA → w5.heap[k]? = wr.heap[k]? := fun k h1 h2 h3 => (hc5.same k (by omega) h3).trans ((hc4.same k (by omega) (by simp only [List.mem_singleton]; exact h2)).trans ((hB3.block k (by omega)).trans (hB2.block k h1)))
 have hk6 : ∀ k, k < w5.heap.size → k ≠ cb → w6.heap[k]? = w5.heap[k]? := fun k h1 h2 => by rw [← hw6]; exact hc6.same k h1 (by simp only [List.mem_singleton]; exact h2)
 have hbox5 : DBoxAt w5 cb { b with files := .slice GA j gc } := (hk5 cb hcbl hMc.symm hcbG).trans T.box
 have hbox6 : DBoxAt w6 cb { b with files := .slice C2 (j + 1) c2 } := by rw [← hw6]; exact hbox5.set 0 _ _ rfl
 rw [hw6]
 rw [hw6] at z6
 have hfb5 : w5.heap[w2.heap.size]? = w3.heap[w2.heap.size]? := (hc5.same _ (by omega) (fun hm => by have := hGl _ hm; omega)).trans (hc4.same _ (by omega) (by simp only [List.mem_singleton]; omega))
 obtain ⟨own', hown⟩ : ∃ own' : Nat → Nat, own' = fun k => if k ∈ blk A' then 8 + nm v else if k = w2.heap.size then 7 else if k ∈ blk C2 then 2 else own2 k := ⟨_, rfl⟩
 have hA2 : ∀ k ∈ blk A', k < w2.heap.size := hl2.lt
 have hold : ∀ k, k < wr.heap.size → own' k = own2 k := fun k hk => by
  rw [hown]
  simp only [show ¬ k ∈ blk A' from fun hm => by have := hA' k hm; omega, if_false, show ¬ k = w2.heap.size by omega]
  by_cases hm : k ∈ blk C2
  · rw [if_pos hm]
    rcases hf5 k hm with h | h
    · exact (T.oF k h).symm
    · omega
  · rw [if_neg hm]
 refine ⟨own', ?_, hbox6, ?_, ?_, ?_, ?_, ?_, ?_, ?_, ?_, ?_, ?_, ?_, ?_⟩
 · exact ((((T.below.trans (hB2.mono zw)).trans (hB3.mono (by omega))).trans (hc4.toBelow (fun k hk => by simp only [List.mem_singleton] at hk; omega) (by omega))).trans (hc5.toBelow hGw (by omega))).trans (by rw [← hw6]; exact hc6.toBelow (fun k hk => by rw [List.mem_singleton] at hk; omega) (by omega))
 · exact (hk6 tb (by omega) htc).trans ((hk5 tb htl hMt.symm htG).trans T.var)
 · exact (hT4.same (hc5.same M (by omega) hMG)).same (hk6 M (by omega) hMc)
 · exact hl5.same z6 (fun k hk => hk6 k (hl5.lt k hk) (fun e => by
    rw [e] at hk
    rcases hf5 cb hk with h | h
    · exact hcbG h
    · omega))
 · rw [hold cb hcbl]; exact T.o1
 · rw [hold M hMl]; exact T.oM
 · rw [hold tb htl]; exact T.oT
 · exact fun i hi => (hold i (by omega)).trans (T.o0 i hi)
 · intro i hi
   rw [hown]
   simp only [show ¬ i ∈ blk A' from fun hm => by have := hA2 i hm; omega, if_false, show ¬ i = w2.heap.size by omega, show ¬ i ∈ blk C2 from fun hm => by have := hl5.lt i hm; omega]
   exact T.oN i (by omega)
 · intro k hk
   rcases hf5 k hk with h | h
   · exact (hold k (hGl k h)).trans (T.oF k h)
   · rw [hown]
     simp only [show ¬ k ∈ blk A' from fun hm => by have := hA2 k hm; omega, if_false, show ¬ k = w2.heap.size by omega, hk, if_true]
 · intro i f hf hi
   rcases Nat.lt_or_ge i j with hij | hij
   · obtain ⟨tf, h1, h2, h3⟩ := T.two i f hf hij
     refine ⟨tf, by rw [List.getElem?_append_left (by rw [T.glen]; exact hij)]; exact h1, List.mem_append_left _ h2, ?_⟩
     refine h3.carry (by omega) hold (fun k hk ho => ?_)
     have hkc : k ≠ cb := fun e => by rw [e, T.o1] at ho; omega
     exact (hk6 k (by omega) hkc).trans (hk5 k hk (fun e => by rw [e, T.oM] at ho; omega) (fun hm => by have := T.oF k hm; omega))
   · obtain rfl : i = j := by omega
     rw [hv] at hf
     cases hf
     refine ⟨w2.heap.size, by rw [List.getElem?_append_right (by rw [T.glen]; exact Nat.le_refl _), T.glen, Nat.sub_self]; rfl, List.mem_append_right _ (by simp), w2.heap.size, A', n, c', rfl, ?_, ?_, ?_, ?_, hn, hs⟩
     · rw [hown]
       simp only [show ¬ w2.heap.size ∈ blk A' from fun hm => by have := hA2 _ hm; omega, if_false, if_true]
     · exact (hk6 _ (by omega) (by omega)).trans (hfb5.trans hf3)
     · refine hl2.same (by omega) (fun k hk => ?_)
       have h1 := hA2 k hk
       have h2 := hA' k hk
       exact (hk6 k (by omega) (by omega)).trans ((hc5.same k (by omega) (fun hm => by have := hGl k hm; omega)).trans ((hc4.same k (by omega) (by simp only [List.mem_singleton]; omega)).trans (hB3.block k h1)))
     · intro k hk
       rw [hown]
       simp only [hk, if_true]
 · intro p hp
   rcases List.mem_append.1 hp with h | h
   · obtain ⟨f, h1, h2⟩ := T.num p h
     exact ⟨f, List.mem_of_mem_take (i := j) (by rw [List.take_take, Nat.min_eq_left (Nat.le_succ j)]; exact h1), h2⟩
   · rw [List.mem_singleton] at h
     exact ⟨v, by rw [List.take_add_one, hv]; simp, by rw [h]⟩
 · rw [List.length_append, T.len]; rfl
end
structure Pairs (fs gs : List Value) : Prop where
 len : gs.length = fs.length
 fi : ∀ (i k : Nat) (v : Value), fs[i]? = some v → fs[k]? = some v → i = k
 gi : ∀ (i k : Nat) (v : Value), gs[i]? = some v → gs[k]? = some v → i = k
 fp : ∀ v ∈ fs, ∃ f : Nat, v = .pointer (some ⟨f, 0, none⟩)
 gp : ∀ v ∈ gs, ∃ g : Nat, v = .pointer (some ⟨g, 0, none⟩)
theorem Pairs.symm {fs gs : List Value} (P : Pairs fs gs) : Pairs gs fs := ⟨P.len.symm, P.gi, P.fi, P.gp, P.fp⟩
def sameP (u v : Value) : Bool := match u, v with | .pointer (some a), .pointer (some b) => a.block == b.block | _, _ => false
def mateV (fs gs : List Value) (v : Value) : Value := match (fs.zip gs).find? (fun p => sameP p.1 v) with | some p => p.2 | none => .pointer none
theorem mate_at {fs gs : List Value} (P : Pairs fs gs) {i : Nat} {v u : Value} (h1 : fs[i]? = some v) (h2 : gs[i]? = some u) : mateV fs gs v = u := by
 obtain ⟨f, rfl⟩ := P.fp v (List.mem_of_getElem? h1)
 have hz : (fs.zip gs)[i]? = some (.pointer (some ⟨f, 0, none⟩), u) := by rw [List.getElem?_zip_eq_some]; exact ⟨h1, h2⟩
 unfold mateV
 cases hf : (fs.zip gs).find? (fun p => sameP p.1 (.pointer (some ⟨f, 0, none⟩))) with
 | none =>
  have := List.find?_eq_none.1 hf _ (List.mem_of_getElem? hz)
  simp [sameP] at this
 | some p =>
  have h3 := List.find?_some hf
  obtain ⟨k, hk, e⟩ := List.mem_iff_getElem.1 (List.mem_of_find?_eq_some hf)
  have hk' : (fs.zip gs)[k]? = some p := by rw [List.getElem?_eq_getElem hk, e]
  obtain ⟨p1, p2⟩ := p
  rw [List.getElem?_zip_eq_some] at hk'
  obtain ⟨f', rfl⟩ := P.fp p1 (List.mem_of_getElem? hk'.1)
  have hff : f' = f := by simpa [sameP] using h3
  rw [hff] at hk'
  have := P.fi k i _ hk'.1 h1
  rw [this, h2] at hk'
  exact (Option.some.inj hk'.2).symm
theorem mate_nil (fs gs : List Value) : mateV fs gs (.pointer none) = .pointer none := by
 unfold mateV
 rw [List.find?_eq_none.2 (fun p _ => by unfold sameP; split <;> simp_all)]
theorem mate_mem {fs gs : List Value} (P : Pairs fs gs) {v : Value} (h : v ∈ fs) : mateV fs gs v ∈ gs ∧ mateV gs fs (mateV fs gs v) = v ∧ ∃ g : Nat, mateV fs gs v = .pointer (some ⟨g, 0, none⟩) := by
 obtain ⟨i, hi, e⟩ := List.mem_iff_getElem.1 h
 have h1 : fs[i]? = some v := by rw [List.getElem?_eq_getElem hi, e]
 obtain ⟨u, h2⟩ : ∃ u, gs[i]? = some u := ⟨_, List.getElem?_eq_getElem (by rw [P.len]; exact hi)⟩
 rw [mate_at P h1 h2]
 exact ⟨List.mem_of_getElem? h2, mate_at P.symm h2 h1, P.gp u (List.mem_of_getElem? h2)⟩
def phi (fs gs : List Value) (a : Option Addr) : Option Addr := match mateV fs gs (.pointer a) with | .pointer g => g | _ => none
theorem phi_nil (fs gs : List Value) : phi fs gs none = none := by unfold phi; rw [mate_nil]
theorem phi_at {fs gs : List Value} (P : Pairs fs gs) {i f g : Nat} (h1 : fs[i]? = some (.pointer (some ⟨f, 0, none⟩))) (h2 : gs[i]? = some (.pointer (some ⟨g, 0, none⟩))) : phi fs gs (some ⟨f, 0, none⟩) = some ⟨g, 0, none⟩ := by
 unfold phi
 rw [mate_at P h1 h2]
def mapG (g : Value → Value) (ps : List (ByteArray × Value)) : List (ByteArray × Value) := ps.map fun p => (p.1, g p.2)
theorem mapF_mate {fs gs : List Value} (P : Pairs fs gs) (ps : List (ByteArray × Value)) (h : ∀ p ∈ ps, p.2 = .pointer none ∨ p.2 ∈ fs) : mapF (phi fs gs) ps = mapG (mateV fs gs) ps := by
 unfold mapF mapG
 refine List.map_congr_left fun p hp => ?_
 rcases h p hp with e | e
 · rw [e, mate_nil]
   show (p.1, Value.pointer (phi fs gs none)) = _
   rw [phi_nil]
 · obtain ⟨f, ef⟩ := P.fp _ e
   obtain ⟨_, _, g, eg⟩ := mate_mem P e
   rw [ef] at eg ⊢
   show (p.1, Value.pointer (phi fs gs (some ⟨f, 0, none⟩))) = _
   unfold phi
   rw [eg]
theorem mapG_put (g : Value → Value) (ps : List (ByteArray × Value)) (k : ByteArray) (v : Value) : mapG g (putP ltS ps k v) = putP ltS (mapG g ps) k (g v) := by
 unfold mapG putP
 rw [List.map_append, List.map_cons, List.filter_map, List.filter_map]
 rfl
theorem mapG_drop (g : Value → Value) (ps : List (ByteArray × Value)) (k : ByteArray) : mapG g (dropP ltS ps k) = dropP ltS (mapG g ps) k := by
 unfold mapG dropP
 rw [List.map_append, List.filter_map, List.filter_map]
 rfl
theorem layOne_G {g : Value → Value} (h0 : g (.pointer none) = .pointer none) (ps : List (ByteArray × Value)) (c : ByteArray × Value) (h1 : c.2 ≠ .pointer none → g c.2 ≠ .pointer none) : mapG g (layOne ps c) = layOne (mapG g ps) (c.1, g c.2) := by
 obtain ⟨k, v⟩ := c
 by_cases h : v = .pointer none
 · subst h
   show mapG g (dropP ltS ps k) = layOne (mapG g ps) (k, g (.pointer none))
   rw [h0, layOne_drop]
   exact mapG_drop g ps k
 · rw [layOne_put _ _ h, mapG_put, layOne_put _ _ (h1 h)]
theorem layP_G {g : Value → Value} (h0 : g (.pointer none) = .pointer none) (cs : List (ByteArray × Value)) : ∀ ps : List (ByteArray × Value), (∀ c ∈ cs, c.2 ≠ .pointer none → g c.2 ≠ .pointer none) → mapG g (layP ps cs) = layP (mapG g ps) (mapG g cs) := by
 induction cs with
 | nil => exact fun ps _ => rfl
 | cons c l ih =>
  intro ps h
  show mapG g (layP (layOne ps c) l) = layP (layOne (mapG g ps) (c.1, g c.2)) (mapG g l)
  rw [ih _ (fun x hx => h x (List.mem_cons_of_mem _ hx)), layOne_G h0 _ _ (h c (List.mem_cons_self ..))]
theorem layAll_G {g : Value → Value} (h0 : g (.pointer none) = .pointer none) (chl : List (List (ByteArray × Value))) : ∀ ps : List (ByteArray × Value), (∀ cs ∈ chl, ∀ c ∈ cs, c.2 ≠ .pointer none → g c.2 ≠ .pointer none) → mapG g (layAll ps chl) = layAll (mapG g ps) (chl.map (mapG g)) := by
 induction chl with
 | nil => exact fun ps _ => rfl
 | cons c l ih =>
  intro ps h
  show mapG g (layAll (layP ps c) l) = layAll (layP (mapG g ps) (mapG g c)) (l.map (mapG g))
  rw [ih _ (fun x hx => h x (List.mem_cons_of_mem _ hx)), layP_G h0 _ _ (h c (List.mem_cons_self ..))]
theorem mapT_G {nm nm2 : Value → Nat} {g : Value → Value} (ps : List (ByteArray × Value)) (h : ∀ p ∈ ps, tag nm2 (g p.2) = tag nm p.2) : mapT nm2 (mapG g ps) = mapT nm ps := by
 unfold mapT mapG
 rw [List.map_map]
 refine List.map_congr_left fun p hp => ?_
 show (p.1, tag nm2 (g p.2)) = _
 rw [h p hp]
theorem mem_take_at' {l : List Value} {j : Nat} {v : Value} (h : v ∈ l.take j) : ∃ i, i < j ∧ l[i]? = some v := by
 obtain ⟨i, hi, e⟩ := List.mem_iff_getElem.1 h
 rw [List.length_take] at hi
 exact ⟨i, by omega, by rw [List.getElem_take] at e; rw [List.getElem?_eq_getElem (by omega), e]⟩
section
variable {w : World} {d : Nat} {own : Nat → Nat} {b : DBox} {F RA SA C : Option Addr} {fn fc rn rc sn sc cn cc : Nat} {fs css : List Value} {ps ss : List (ByteArray × Value)} {chl : List (List (ByteArray × Value))} {nm su : Value → Nat} {dt : Value → List Value} {r : RD}
theorem DiskIn.fi (H : DiskIn w d own b F fn fc RA rn rc SA sn sc C cn cc fs ps ss css chl nm dt su) : ∀ (i k : Nat) (v : Value), fs[i]? = some v → fs[k]? = some v → i = k := by
 intro i k v h1 h2
 obtain ⟨hi, e1⟩ := List.getElem?_eq_some_iff.1 h1
 obtain ⟨hk, e2⟩ := List.getElem?_eq_some_iff.1 h2
 have hp := List.pairwise_iff_getElem.1 H.rises
 rcases Nat.lt_trichotomy i k with q | q | q
 · have := hp i k hi hk q; rw [e1, e2] at this; omega
 · exact q
 · have := hp k i hk hi q; rw [e1, e2] at this; omega
theorem DiskIn.pairs (H : DiskIn w d own b F fn fc RA rn rc SA sn sc C cn cc fs ps ss css chl nm dt su) {W' : World} {own2 : Nat → Nat} {gs : List Value} (hlen : gs.length = fs.length) (hfile : ∀ (i : Nat) (f : Value), fs[i]? = some f → ∃ tf : Nat, gs[i]? = some (.pointer (some ⟨tf, 0, none⟩)) ∧ FileO W' own2 (.pointer (some ⟨tf, 0, none⟩)) (nm f) (dt f) (su f)) : Pairs fs gs := by
 refine ⟨hlen, H.fi, fun i k v h1 h2 => ?_, H.ptr, fun v hv => ?_⟩
 · obtain ⟨hi, _⟩ := List.getElem?_eq_some_iff.1 h1
   obtain ⟨hk, _⟩ := List.getElem?_eq_some_iff.1 h2
   have f1 : fs[i]? = some (fs[i]'(by omega)) := List.getElem?_eq_getElem _
   have f2 : fs[k]? = some (fs[k]'(by omega)) := List.getElem?_eq_getElem _
   obtain ⟨t1, g1, o1⟩ := hfile i _ f1
   obtain ⟨t2, g2, o2⟩ := hfile k _ f2
   rw [h1] at g1
   rw [h2] at g2
   cases g1
   cases g2
   obtain ⟨b1, _, _, _, e1, _, q1, _⟩ := o1
   obtain ⟨b2, _, _, _, e2, _, q2, _⟩ := o2
   cases e1
   cases e2
   have h3 := q1.c0
   rw [q2.c0] at h3
   have hnm : nm (fs[k]'(by omega)) = nm (fs[i]'(by omega)) := by
    injection h3 with h3
    injection h3 with _ h3
    omega
   have := rises_inj H.rises (List.getElem_mem _) (List.getElem_mem _) hnm
   rw [this] at f2
   exact H.fi i k _ f1 f2
 · obtain ⟨i, hi, e⟩ := List.mem_iff_getElem.1 hv
   obtain ⟨tf, h1, _⟩ := hfile i _ (List.getElem?_eq_getElem (by omega))
   rw [List.getElem?_eq_getElem hi, e] at h1
   exact ⟨tf, Option.some.inj h1⟩
theorem DiskIn.twin (H : DiskIn w d own b F fn fc RA rn rc SA sn sc C cn cc fs ps ss css chl nm dt su) (R : Reads r b fs ss chl nm dt su) {W' : World} {cb : Nat} {own2 : Nat → Nat} {gs : List Value} (P : Pairs fs gs)
 (hfile : ∀ (i : Nat) (f : Value), fs[i]? = some f → ∃ tf : Nat, gs[i]? = some (.pointer (some ⟨tf, 0, none⟩)) ∧ FileO W' own2 (.pointer (some ⟨tf, 0, none⟩)) (nm f) (dt f) (su f)) {GA RA2 SA2 CA2 : Option Addr} {gc rn2 rc2 sn2 sc2 cc2 : Nat} {css2 : List Value}
 (hbox : DBoxAt W' cb { b with files := .slice GA fn gc, now := .slice RA2 rn2 rc2, sure := .slice SA2 sn2 sc2, changes := .slice CA2 cn cc2 }) (o1 : own2 cb = 1) (hl : SLine 1 W' GA fn gc gs) (oF : ∀ k ∈ blk GA, own2 k = 2)
 (hnow : RowG encS ltS W' RA2 rn2 rc2 (mapF (phi fs gs) ps)) (oR : ∀ k ∈ blk RA2, own2 k = 3) (hsure : RowG encS ltS W' SA2 sn2 sc2 (mapF (phi fs gs) ss)) (oS : ∀ k ∈ blk SA2, own2 k = 4)
 (hcl : SLine 1 W' CA2 cn cc2 css2) (oC : ∀ k ∈ blk CA2, own2 k = 5) (hchs : ChsO W' own2 css2 (chl.map (mapF (phi fs gs)))) (oN : ∀ i, W'.heap.size ≤ i → own2 i = 0) : IsD W' cb own2 r := by
 have hps : mapF (phi fs gs) ps = mapG (mateV fs gs) ps := mapF_mate P ps (fun p hp => .inr (H.nin p hp))
 have hss : mapF (phi fs gs) ss = mapG (mateV fs gs) ss := mapF_mate P ss (fun p hp => .inr (H.sin p hp))
 have hcc : chl.map (mapF (phi fs gs)) = chl.map (mapG (mateV fs gs)) := List.map_congr_left fun c hc => mapF_mate P c (fun p hp => H.cin c hc p hp)
 rw [hps] at hnow
 rw [hss] at hsure
 rw [hcc] at hchs
 have hnm2 : ∀ v ∈ fs, nm (mateV gs fs (mateV fs gs v)) = nm v := fun v hv => by rw [(mate_mem P hv).2.1]
 have hback : ∀ v ∈ gs, ∃ (i : Nat) (f : Value), fs[i]? = some f ∧ gs[i]? = some v ∧ mateV gs fs v = f ∧ f ∈ fs := fun v hv => by
  obtain ⟨i, hi, e⟩ := List.mem_iff_getElem.1 hv
  have h1 : gs[i]? = some v := by rw [List.getElem?_eq_getElem hi, e]
  obtain ⟨f, h2⟩ : ∃ f, fs[i]? = some f := ⟨_, List.getElem?_eq_getElem (by rw [← P.len]; exact hi)⟩
  exact ⟨i, f, h2, h1, mate_at P.symm h1 h2, List.mem_of_getElem? h2⟩
 have htag : ∀ v, (v = .pointer none ∨ v ∈ fs) → tag (fun u => nm (mateV gs fs u)) (mateV fs gs v) = tag nm v := fun v hv => by
  rcases hv with e | e
  · rw [e, mate_nil]; rfl
  · obtain ⟨_, h2, g, h3⟩ := mate_mem P e
    rw [tag_some _ _ (by rw [h3]; exact fun e => by cases e), tag_some _ _ (H.ne v e), h2]
 have hne : ∀ c ∈ chl, ∀ p ∈ c, p.2 ≠ .pointer none → mateV fs gs p.2 ≠ .pointer none := fun c hc p hp h0 => by
  rcases H.cin c hc p hp with e | e
  · exact absurd e h0
  · obtain ⟨_, _, g, h3⟩ := mate_mem P e
    rw [h3]
    exact fun e => by cases e
 have hsn : sn2 = sn := by
  have h1 := hsure.len
  have h2 := H.srow.len
  unfold mapG at h1
  rw [List.length_map] at h1
  omega
 refine ⟨oN, { b with files := .slice GA fn gc, now := .slice RA2 rn2 rc2, sure := .slice SA2 sn2 sc2, changes := .slice CA2 cn cc2 }, GA, fn, gc, RA2, rn2, rc2, SA2, sn2, sc2, CA2, cn, cc2, gs, mapG (mateV fs gs) ps, mapG (mateV fs gs) ss, css2, chl.map (mapG (mateV fs gs)), fun u => nm (mateV gs fs u), fun u => dt (mateV gs fs u), fun u => su (mateV gs fs u), ?_, ?_⟩
 · exact {
    box := hbox, od := o1, files := rfl, line := hl, oF := oF, now := rfl, nrow := hnow, oR := oR, sure := rfl, srow := hsure, oS := oS, changes := rfl, cline := hcl, oC := oC, chs := hchs
    file := fun v hv => by
     obtain ⟨i, f, h1, h2, h3, h4⟩ := hback v hv
     obtain ⟨tf, h5, h6⟩ := hfile i f h1
     rw [h2] at h5
     cases h5
     show FileO W' own2 _ (nm (mateV gs fs _)) (dt (mateV gs fs _)) (su (mateV gs fs _))
     rw [h3]
     exact h6
    num := fun v hv => by
     obtain ⟨i, f, h1, h2, h3, h4⟩ := hback v hv
     show ((nm (mateV gs fs v) : Nat) : Int) < b.made
     rw [h3]
     exact H.num f h4
    bytes := fun v hv => by
     obtain ⟨i, f, h1, h2, h3, h4⟩ := hback v hv
     show ∀ u ∈ dt (mateV gs fs v), _
     rw [h3]
     exact H.bytes f h4
    rises := by
     rw [List.pairwise_iff_getElem]
     intro i k hi hk hik
     show nm (mateV gs fs _) < nm (mateV gs fs _)
     rw [mate_at P.symm (List.getElem?_eq_getElem hi) (List.getElem?_eq_getElem (by rw [← P.len]; exact hi)), mate_at P.symm (List.getElem?_eq_getElem hk) (List.getElem?_eq_getElem (by rw [← P.len]; exact hk))]
     exact List.pairwise_iff_getElem.1 H.rises i k _ _ hik
    lay := by rw [H.lay]; exact layAll_G (mate_nil fs gs) chl ss hne
    sin := fun p hp => by
     obtain ⟨q, hq, rfl⟩ := List.mem_map.1 hp
     exact (mate_mem P (H.sin q hq)).1
    cin := fun c hc p hp => by
     obtain ⟨c', hc', rfl⟩ := List.mem_map.1 hc
     obtain ⟨q, hq, rfl⟩ := List.mem_map.1 hp
     rcases H.cin c' hc' q hq with e | e
     · exact .inl (by show mateV fs gs q.2 = _; rw [e, mate_nil])
     · exact .inr (mate_mem P e).1
    made := H.made, quota := H.quota, calls := H.calls, ahead := H.ahead, lenF := H.lenF
    lenC := by rw [hsn]; exact H.lenC }
 · exact {
    files := fun v hv => by
     obtain ⟨i, f, h1, h2, h3, h4⟩ := hback v hv
     show r.files[nm (mateV gs fs v)]? = some ⟨dt (mateV gs fs v), su (mateV gs fs v)⟩
     rw [h3]
     exact R.files f h4
    sure := by rw [R.sure]; exact (mapT_G ss (fun p hp => htag p.2 (.inr (H.sin p hp)))).symm
    chs := by
     rw [R.chs, List.map_map]
     exact List.map_congr_left fun c hc => (mapT_G c (fun p hp => htag p.2 (H.cin c hc p hp))).symm
    made := R.made, quota := R.quota, full := R.full, off := R.off, stop := R.stop, calls := R.calls }
end
structure ChIn (w1 wr : World) (n0 : Nat) (φ : Option Addr → Option Addr) (b : DBox) (CA : Option Addr) (k cc2 : Nat) (css2 : List Value) (chl : List (List (ByteArray × Value))) : Prop where
 chg : Chg [n0] w1 wr
 lt : n0 < w1.heap.size
 box : DBoxAt wr n0 { b with changes := .slice CA k cc2 }
 line : SLine 1 wr CA k cc2 css2
 new : ∀ j ∈ blk CA, w1.heap.size ≤ j
 chs : ∀ (i : Nat) (v : Value) (c : List (ByteArray × Value)), css2[i]? = some v → chl[i]? = some c → ∃ (pA : Option Addr) (pc : Nat), v = Value.slice pA c.length pc ∧ SLine 2 wr pA c.length pc (cellsP encS (mapF φ c)) ∧ ∀ j ∈ blk pA, w1.heap.size ≤ j ∧ j ∉ blk CA
theorem ChIn.drew {w1 wr : World} {n0 : Nat} {φ : Option Addr → Option Addr} {b : DBox} {CA : Option Addr} {k cc2 : Nat} {css2 : List Value} {chl : List (List (ByteArray × Value))} (T : ChIn w1 wr n0 φ b CA k cc2 css2 chl) : ChIn w1 wr.drew n0 φ b CA k cc2 css2 chl :=
 ⟨T.chg.drew, T.lt, T.box, T.line.drew, T.new, T.chs⟩
theorem ChIn.step {w1 wr : World} {n0 : Nat} {φ : Option Addr → Option Addr} {b : DBox} {CA : Option Addr} {k cc2 : Nat} {css2 : List Value} {chl : List (List (ByteArray × Value))} (T : ChIn w1 wr n0 φ b CA k cc2 css2 chl) (hk : k ≤ 90000) (c : List (ByteArray × Value)) (hc : chl[k]? = some c) (w2 : World) (hB : Below wr.heap.size wr w2) (A' : Option Addr) (c' : Nat)
 (hl : SLine 2 w2 A' c.length c' (cellsP encS (mapF φ c))) (hA : ∀ j ∈ blk A', wr.heap.size ≤ j) :
 ∃ w2a C2 c2 w3, w2.alloc (.cells #[.slice A' c.length c'] 97) = w2a ∧ (Builtin.append_ #[71, 71] 71 #[.slice CA k cc2, .slice (some ⟨w2.heap.size, 0, none⟩) 1 1]).run Tryz.prog w2a = .ok (.slice C2 (k + 1) c2) w3 ∧
  w2.cell? ⟨n0, 4, none⟩ = some (.slice CA k cc2) ∧ w2a.cell? ⟨n0, 4, none⟩ = some (.slice CA k cc2) ∧ w3.cell? ⟨n0, 4, none⟩ = some (.slice CA k cc2) ∧ w3.frozen? ⟨n0, 4, none⟩ = false ∧ ChIn w1 (w3.setCell ⟨n0, 4, none⟩ (.slice C2 (k + 1) c2)) n0 φ b C2 (k + 1) c2 (css2 ++ [.slice A' c.length c']) chl := by
 have hz := T.chg.size
 have hz2 := hB.size
 have hlt := T.lt
 have hb2 := T.box.below hB
 have hL2 := T.line.below hB
 have hCl := T.line.lt
 obtain ⟨w2a, hw2a⟩ : ∃ w2a, w2.alloc (.cells #[.slice A' c.length c'] 97) = w2a := ⟨_, rfl⟩
 obtain ⟨C2, c2, w3, hr, hl3, hc3, hf3⟩ := changes_push w2 71 CA k cc2 css2 hL2 (by omega) A' c.length c'
 rw [hw2a] at hr
 have hBa : Below w2.heap.size w2 w2a := by rw [← hw2a]; exact (Below.refl _ w2).alloc (Nat.le_refl _) _
 have hn0 : n0 ∉ blk CA := fun hm => by have := T.new n0 hm; omega
 have hb3 := hb2.chg hc3 hn0
 have hz3 := hc3.size
 have hc4 : Chg [n0] w3 (w3.setCell ⟨n0, 4, none⟩ (.slice C2 (k + 1) c2)) := (Chg.refl _ w3).setCell n0 4 _ (.inl (by simp))
 have hC2l := hl3.lt
 have hn2 : n0 ∉ blk C2 := fun hm => by rcases hf3 n0 hm with h | h; exact hn0 h; omega
 have hAn : ∀ j ∈ blk A', j ∉ blk CA := fun j hj hm => by have := hCl j hm; have := hA j hj; omega
 refine ⟨w2a, C2, c2, w3, hw2a, hr, hb2.cell 4 _ rfl, (hb2.below hBa).cell 4 _ rfl, hb3.cell 4 _ rfl, hb3.free 4, ?_, T.lt, ?_, ?_, ?_, ?_⟩
 · exact ((T.chg.trans (Chg.of_below hB)).andThen hc3 (fun j hj => .inr (T.new j hj))).andThen hc4 (fun j hj => .inl hj)
 · exact hb3.set 4 _ _ rfl
 · exact hl3.chg hc4 (fun j hj hm => by rw [List.mem_singleton] at hm; rw [hm] at hj; exact hn2 hj)
 · intro j hj
   rcases hf3 j hj with h | h
   · exact T.new j h
   · omega
 · intro i v cx hv hcx
   have hlen : css2.length = k := by have := T.line.1; omega
   rcases Nat.lt_or_ge i css2.length with h | h
   · rw [List.getElem?_append_left h] at hv
     obtain ⟨pA, pc, e, h1, h2⟩ := T.chs i v cx hv hcx
     refine ⟨pA, pc, e, ?_, fun j hj => ⟨(h2 j hj).1, fun hm => ?_⟩⟩
     · exact ((h1.below hB).chg hc3 (fun j hj => (h2 j hj).2)).chg hc4 (fun j hj hm => by rw [List.mem_singleton] at hm; have := (h2 j hj).1; omega)
     · rcases hf3 j hm with h | h
       · exact (h2 j hj).2 h
       · have := h1.lt j hj; omega
   · have hi : i = k := by
      have := (List.getElem?_eq_some_iff.1 hv).1
      simp at this
      omega
     subst hi
     rw [List.getElem?_append_right h, hlen, Nat.sub_self] at hv
     rw [hc] at hcx
     cases hv
     cases hcx
     refine ⟨A', c', rfl, ?_, fun j hj => ⟨by have := hA j hj; omega, fun hm => ?_⟩⟩
     · exact (hl.chg hc3 hAn).chg hc4 (fun j hj hm => by rw [List.mem_singleton] at hm; have := hA j hj; omega)
     · rcases hf3 j hm with h | h
       · exact hAn j hj h
       · have := hl.lt j hj; omega
theorem twin_end {w : World} {d : Nat} {own : Nat → Nat} {b : DBox} {F RA SA C : Option Addr} {fn fc rn rc sn sc cn cc : Nat} {fs css : List Value} {ps ss : List (ByteArray × Value)} {chl : List (List (ByteArray × Value))} {nm su : Value → Nat} {dt : Value → List Value} {r : RD} (H : DiskIn w d own b F fn fc RA rn rc SA sn sc C cn cc fs ps ss css chl nm dt su) (R : Reads r b fs ss chl nm dt su)
 {wr : World} {n0 M tb : Nat} {own2 : Nat → Nat} {GA : Option Addr} {gc : Nat} {gs : List Value} {L : List (Nat × Nat)} (T : TwIn w wr n0 M tb own2 b GA fn gc fs gs L nm su dt) (P : Pairs fs gs) {w6 : World} (hB6 : Below wr.heap.size wr w6) {A2 A3 : Option Addr} {n2 c2 n3 c3 : Nat}
 (h2 : RowG encS ltS w6 A2 n2 c2 (mapF (phi fs gs) ps)) (h2b : ∀ k ∈ blk A2, wr.heap.size ≤ k) (h3 : RowG encS ltS w6 A3 n3 c3 (mapF (phi fs gs) ss)) (h3b : ∀ k ∈ blk A3, wr.heap.size ≤ k) (h23 : ∀ k ∈ blk A2, k ∉ blk A3) {w9 : World} (h69 : Chg [n0] w6 w9) {wf : World} {CA : Option Addr} {cc2 : Nat} {css2 : List Value}
 (K : ChIn w9 wf n0 (phi fs gs) { b with files := .slice GA fn gc, now := .slice A2 n2 c2, sure := .slice A3 n3 c3 } CA cn cc2 css2 chl) : ∃ own3, (∀ i, i < w.heap.size → own3 i = 0) ∧ IsD wf n0 own3 r ∧ Below w.heap.size w wf := by
 have hn0 := T.box.lt
 have zw := T.below.size
 have z6 := hB6.size
 have z9 := h69.size
 have zf := K.chg.size
 have hGl := T.line.lt
 have h2l := h2.lt'
 have h3l := h3.lt'
 have hcw : w.heap.size ≤ n0 := by
  rcases Nat.lt_or_ge n0 w.heap.size with q | q
  · have := T.o0 n0 q
    have := T.o1
    omega
  · exact q
 obtain ⟨own3, hown⟩ : ∃ own3 : Nat → Nat, own3 = fun k => if k ∈ blk CA then 5 else if w9.heap.size ≤ k ∧ k < wf.heap.size then 6 else if k ∈ blk A2 then 3 else if k ∈ blk A3 then 4 else own2 k := ⟨_, rfl⟩
 have hold : ∀ k, k < wr.heap.size → own3 k = own2 k := fun k hk => by
  rw [hown]
  simp only [show ¬ k ∈ blk CA from fun hm => by have := K.new k hm; omega, if_false, show ¬ (w9.heap.size ≤ k ∧ k < wf.heap.size) by omega, show ¬ k ∈ blk A2 from fun hm => by have := h2b k hm; omega, show ¬ k ∈ blk A3 from fun hm => by have := h3b k hm; omega]
 have hsame : ∀ k, k < w6.heap.size → k ≠ n0 → wf.heap[k]? = w6.heap[k]? := fun k h1 h2 => (K.chg.same k (by omega) (by simp only [List.mem_singleton]; exact h2)).trans (h69.same k h1 (by simp only [List.mem_singleton]; exact h2))
 have hsr : ∀ k, k < wr.heap.size → k ≠ n0 → wf.heap[k]? = wr.heap[k]? := fun k h1 h2 => (hsame k (by omega) h2).trans (hB6.block k h1)
 have hfile : ∀ (i : Nat) (f : Value), fs[i]? = some f → ∃ tf : Nat, gs[i]? = some (.pointer (some ⟨tf, 0, none⟩)) ∧ FileO wf own3 (.pointer (some ⟨tf, 0, none⟩)) (nm f) (dt f) (su f) := fun i f hf => by
  obtain ⟨tf, t1, t2, t3⟩ := T.two i f hf (by have := (List.getElem?_eq_some_iff.1 hf).1; have := H.line.1; omega)
  exact ⟨tf, t1, t3.carry (by omega) hold (fun k hk ho => hsr k hk (fun e => by rw [e, T.o1] at ho; omega))⟩
 refine ⟨own3, fun i hi => (hold i (by omega)).trans (T.o0 i hi), ?_, ?_⟩
 · refine H.twin R P hfile K.box ?_ (T.line.same (by omega) (fun k hk => hsr k (hGl k hk) (fun e => by rw [e] at hk; have := T.oF n0 hk; have := T.o1; omega))) (fun k hk => (hold k (hGl k hk)).trans (T.oF k hk)) (h2.same (by omega) (fun k hk => hsame k (h2l k hk) (fun e => by have := h2b k hk; omega))) ?_ (h3.same (by omega) (fun k hk => hsame k (h3l k hk) (fun e => by have := h3b k hk; omega))) ?_ K.line ?_ ?_ ?_
   · rw [hold n0 hn0]; exact T.o1
   · intro k hk
     rw [hown]
     have := h2l k hk
     simp only [show ¬ k ∈ blk CA from fun hm => by have := K.new k hm; omega, if_false, show ¬ (w9.heap.size ≤ k ∧ k < wf.heap.size) by omega, hk, if_true]
   · intro k hk
     rw [hown]
     have := h3l k hk
     simp only [show ¬ k ∈ blk CA from fun hm => by have := K.new k hm; omega, if_false, show ¬ (w9.heap.size ≤ k ∧ k < wf.heap.size) by omega, show ¬ k ∈ blk A2 from fun hm => h23 k hm hk, hk, if_true]
   · intro k hk
     rw [hown]
     simp only [hk, if_true]
   · refine ⟨?_, fun i v c hv hc => ?_⟩
     · rw [List.length_map]
       have h1 := K.line.1
       have h4 := H.chs.1
       have h5 := H.cline.1
       omega
     · rw [List.getElem?_map] at hc
       obtain ⟨c0, hc0, rfl⟩ := Option.map_eq_some_iff.1 hc
       obtain ⟨pA, pc, e, h1, h4⟩ := K.chs i v c0 hv hc0
       have hml := mapF_length (phi fs gs) c0
       refine ⟨pA, pc, by rw [hml]; exact e, by rw [hml]; exact h1, fun j hj => ?_, ?_, fun p hp => ?_⟩
       · rw [hown]
         simp only [show ¬ j ∈ blk CA from (h4 j hj).2, if_false, show w9.heap.size ≤ j ∧ j < wf.heap.size from ⟨(h4 j hj).1, h1.lt j hj⟩, and_self, if_true]
       · rw [hml]
         exact H.chs.two c0 (List.mem_of_getElem? hc0)
       · obtain ⟨q, hq, rfl⟩ := List.mem_map.1 hp
         rcases H.cin c0 (List.mem_of_getElem? hc0) q hq with e | e
         · exact ⟨phi fs gs none, by rw [e]⟩
         · obtain ⟨a, ea⟩ := P.fp _ e
           exact ⟨phi fs gs (some ⟨a, 0, none⟩), by rw [ea]⟩
   · intro i hi
     rw [hown]
     simp only [show ¬ i ∈ blk CA from fun hm => by have := K.line.lt i hm; omega, if_false, show ¬ (w9.heap.size ≤ i ∧ i < wf.heap.size) by omega, show ¬ i ∈ blk A2 from fun hm => by have := h2l i hm; omega, show ¬ i ∈ blk A3 from fun hm => by have := h3l i hm; omega]
     exact T.oN i (by omega)
 · exact ((T.below.trans (hB6.mono zw)).trans (h69.toBelow (fun k hk => by rw [List.mem_singleton] at hk; omega) (by omega))).trans (K.chg.toBelow (fun k hk => by rw [List.mem_singleton] at hk; omega) (by omega))
section
variable {w : World} {d : Nat} {own : Nat → Nat} {F RA SA C : Option Addr} {fn fc rn rc sn sc cn cc : Nat} {fs css : List Value} {ps ss : List (ByteArray × Value)} {chl : List (List (ByteArray × Value))} {nm su : Value → Nat} {dt : Value → List Value} {r : RD}
set_option maxHeartbeats 6400000 in
theorem DiskIn.clone {made quota ahead calls : Int} {full off : Bool} (H : DiskIn w d own ⟨.slice F fn fc, made, .slice RA rn rc, .slice SA sn sc, .slice C cn cc, quota, full, ahead, off, calls⟩ F fn fc RA rn rc SA sn sc C cn cc fs ps ss css chl nm dt su) (R : Reads r ⟨.slice F fn fc, made, .slice RA rn rc, .slice SA sn sc, .slice C cn cc, quota, full, ahead, off, calls⟩ fs ss chl nm dt su) :
 Calls Tryz.prog 18 #[.pointer (some ⟨d, 0, none⟩)] w fun e w' => ∃ c own2, e = .returned (.pointer (some ⟨c, 0, none⟩)) ∧ (∀ i, i < w.heap.size → own2 i = 0) ∧ IsD w' c own2 r ∧ Below w.heap.size w w' := by
 have x0 : w.cell? ⟨d, 0, none⟩ = some (.slice F fn fc) := H.box.cell 0 _ rfl
 have x1 : w.cell? ⟨d, 1, none⟩ = some (.int .i64 made) := H.box.cell 1 _ rfl
 have x2 : w.cell? ⟨d, 2, none⟩ = some (.slice RA rn rc) := H.box.cell 2 _ rfl
 have x3 : w.cell? ⟨d, 3, none⟩ = some (.slice SA sn sc) := H.box.cell 3 _ rfl
 have x4 : w.cell? ⟨d, 4, none⟩ = some (.slice C cn cc) := H.box.cell 4 _ rfl
 have x5 : w.cell? ⟨d, 5, none⟩ = some (.int .i64 quota) := H.box.cell 5 _ rfl
 have x6 : w.cell? ⟨d, 6, none⟩ = some (.bool full) := H.box.cell 6 _ rfl
 have x7 : w.cell? ⟨d, 7, none⟩ = some (.int .i64 ahead) := H.box.cell 7 _ rfl
 have x8 : w.cell? ⟨d, 8, none⟩ = some (.bool off) := H.box.cell 8 _ rfl
 have x9 : w.cell? ⟨d, 9, none⟩ = some (.int .i64 calls) := H.box.cell 9 _ rfl
 have hdl := H.box.lt
 have HH := Lib.hid H
 have HR := Lib.hid R
 have hfn : fn ≤ 80000 := H.lenF
 have hfc : fn ≤ fc := H.line.2.1
 have hflen : fs.length = fn := by have := H.line.1; omega
 have HFL := Lib.hid hflen
 obtain ⟨n0, hn0⟩ : ∃ n0, w.heap.size = n0 := ⟨_, rfl⟩
 obtain ⟨W1, hW1⟩ : ∃ W1, w.alloc (.cells #[.slice F fn fc, .int .i64 made, .slice RA rn rc, .slice SA sn sc, .slice C cn cc, .int .i64 quota, .bool full, .int .i64 ahead, .bool off, .int .i64 calls] 73) = W1 := ⟨_, rfl⟩
 have hs1 : W1.heap.size = n0 + 1 := by rw [← hW1, ← hn0]; simp
 have hB1 : Below w.heap.size w W1 := by rw [← hW1]; exact (Below.refl _ w).alloc (Nat.le_refl _) _
 have hb1 : W1.heap[n0]? = some (.cells #[.slice F fn fc, .int .i64 made, .slice RA rn rc, .slice SA sn sc, .slice C cn cc, .int .i64 quota, .bool full, .int .i64 ahead, .bool off, .int .i64 calls] 73 (0, 0)) := by rw [← hW1, ← hn0]; exact heap_alloc_new w _
 obtain ⟨W2, hW2⟩ : ∃ W2, W1.alloc (.map #[] 0) = W2 := ⟨_, rfl⟩
 have hs2 : W2.heap.size = n0 + 2 := by rw [← hW2]; simp [hs1]
 have hB2 : Below w.heap.size w W2 := by rw [← hW2]; exact hB1.alloc (by omega) _
 have hT2 : TwinsAt W2 (n0 + 1) [] := by rw [← hW2, ← hs1]; exact TwinsAt.new W1
 have hb2 : W2.heap[n0]? = W1.heap[n0]? := by rw [← hW2]; exact Below.heap_alloc _ _ _ (by omega)
 obtain ⟨W3, hW3⟩ : ∃ W3, W2.alloc (.cells #[.map (some (n0 + 1))] 91) = W3 := ⟨_, rfl⟩
 have hs3 : W3.heap.size = n0 + 3 := by rw [← hW3]; simp [hs2]
 have hB3 : Below w.heap.size w W3 := by rw [← hW3]; exact hB2.alloc (by omega) _
 have hT3 : TwinsAt W3 (n0 + 1) [] := hT2.same (by rw [← hW3]; exact Below.heap_alloc _ _ _ (by omega))
 have hb3 : W3.heap[n0]? = some (.cells #[.slice F fn fc, .int .i64 made, .slice RA rn rc, .slice SA sn sc, .slice C cn cc, .int .i64 quota, .bool full, .int .i64 ahead, .bool off, .int .i64 calls] 73 (0, 0)) := ((by rw [← hW3]; exact Below.heap_alloc _ _ _ (by omega) : W3.heap[n0]? = W2.heap[n0]?).trans hb2).trans hb1
 have hv3 : W3.heap[n0 + 2]? = some (.cells #[.map (some (n0 + 1))] 91 (0, 0)) := by rw [← hW3, ← hs2]; exact heap_alloc_new W2 _
 have hbx3 : DBoxAt W3 n0 ⟨.slice F fn fc, made, .slice RA rn rc, .slice SA sn sc, .slice C cn cc, quota, full, ahead, off, calls⟩ := hb3
 obtain ⟨W4, hW4⟩ : ∃ W4, W3.setCell ⟨n0, 0, none⟩ (.slice none 0 0) = W4 := ⟨_, rfl⟩
 have hc4 : Chg [n0] W3 W4 := by rw [← hW4]; exact (Chg.refl _ W3).setCell n0 0 _ (.inl (by simp))
 have hbx4 : DBoxAt W4 n0 ⟨.slice none 0 0, made, .slice RA rn rc, .slice SA sn sc, .slice C cn cc, quota, full, ahead, off, calls⟩ := by rw [← hW4]; exact hbx3.set 0 _ _ rfl
 have hs4 : W4.heap.size = n0 + 3 := (show W4.heap.size = W3.heap.size by rw [← hW4]; simp [World.setCell]).trans hs3
 have y0 : W3.cell? ⟨n0, 0, none⟩ = some (.slice F fn fc) := hbx3.cell 0 _ rfl
 have y0f := hbx3.free 0
 have hB4 : Below w.heap.size w W4 := hB3.trans (hc4.toBelow (fun k hk => by rw [List.mem_singleton] at hk; omega) (by omega))
 have z0 : W4.cell? ⟨d, 0, none⟩ = some (.slice F fn fc) := (hB4.cell (p := ⟨d, 0, none⟩) hdl).trans x0
 have hmm := @run_makeMap Tryz.prog
 clear H R hB1 hb1 hB2 hT2 hb2 hb3 hB3
 go_enter Tryz.func18, Tryz.ntmps18
 go_wp2_with fail
 have HST : Hid (TwIn w W4 n0 (n0 + 1) (n0 + 2) (fun k => if k = n0 then 1 else 0) ⟨.slice F fn fc, made, .slice RA rn rc, .slice SA sn sc, .slice C cn cc, quota, full, ahead, off, calls⟩ none 0 0 fs [] [] nm su dt) := Lib.hid (by
  refine ⟨hB4, hbx4, (hc4.same (n0 + 2) (by omega) (by simp)).trans hv3, hT3.same (hc4.same (n0 + 1) (by omega) (by simp)), SLine.nil 1 _, by simp, by simp, by simp, fun i hi => if_neg (by omega), fun i hi => if_neg (by omega), fun k hk => (by cases hk), fun i f hf hi => (by omega), fun p hp => (by cases hp), rfl⟩)
 clear x0 x1 x2 x3 x4 x5 x6 x7 x8 x9 hW1 hs1 hW2 hs2 hW3 hs3 hT3 hv3 hbx3 hW4 hc4 hbx4 y0 y0f hs4 z0 hmm
 go_loopg [22] (fn + 1) (fun kx i wq => ∃ j : Nat, i = .int .i64 j ∧ j ≤ fn ∧ Hid (∃ own2 GA gc gs L, TwIn w wq n0 (n0 + 1) (n0 + 2) own2 ⟨.slice F fn fc, made, .slice RA rn rc, .slice SA sn sc, .slice C cn cc, quota, full, ahead, off, calls⟩ GA j gc fs gs L nm su dt) ∧ fn - j + 1 ≤ kx)
 case atStart => exact ⟨0, rfl, Nat.zero_le _, Lib.hid ⟨_, _, _, _, _, HST.out⟩, Nat.le_refl _⟩
 case round =>
  clear HST hB4
  obtain ⟨j, rfl, hj, HI, hm⟩ := hrel
  obtain ⟨own2, GA, gc, gs, L, T⟩ := HI.out
  rcases Nat.lt_or_ge j fn with hlt | hge
  · obtain ⟨v, hv⟩ : ∃ v, fs[j]? = some v := ⟨_, List.getElem?_eq_getElem (by have := HFL.out; omega)⟩
    have hmem := List.mem_of_getElem? hv
    obtain ⟨f, A, n, c, rfl, hof, hfa, hsl, hoA, hn1, hsu⟩ := HH.out.file v hmem
    obtain ⟨g, o, rfl, hg, hgc, _⟩ := (HH.out.line.below T.below).at (by omega)
    have d0 := (hgc j (by omega)).trans hv
    obtain ⟨num, hnm⟩ : ∃ num, nm (.pointer (some ⟨f, 0, none⟩)) = num := ⟨_, rfl⟩
    obtain ⟨sure, hsu2⟩ : ∃ sure, su (.pointer (some ⟨f, 0, none⟩)) = sure := ⟨_, rfl⟩
    rw [hnm, hsu2] at hfa
    rw [hsu2] at hsu
    have hnumb := HH.out.num _ hmem
    rw [hnm] at hnumb
    have hmade := HH.out.made.2
    have hn80 : num ≤ 80000 := by dsimp only at hnumb hmade; omega
    have hfl : f < w.heap.size := lt_of_block hfa
    have hzw := T.below.size
    have HFM : Hid (f < n0) := Lib.hid (by omega)
    have HS9 : Hid (wr.drew.cell? ⟨n0 + 2, 0, none⟩ = some (.map (some (n0 + 1))) ∧ FileAt wr.drew f num A n c sure) := Lib.hid ⟨cell_of_one T.var, hfa.same (T.below.block f hfl)⟩
    have HLT : Hid (n0 + 2 < wr.drew.heap.size ∧ f < wr.drew.heap.size) := Lib.hid ⟨lt_of_block T.var, by show f < wr.heap.size; omega⟩
    have HCL := Lib.hid (cloneB wr.drew A n c _ (hsl.below T.below).drew (by omega) (fun u hu => by obtain ⟨z, _, _, e⟩ := HH.out.bytes _ hmem u hu; rw [e]; rfl))
    have HTW : Hid (∀ V, Below wr.drew.heap.size wr.drew V → TwinsAt V (n0 + 1) L) := Lib.hid (fun V hV => T.twins.same (hV.block (n0 + 1) T.twins.lt))
    have HLL := Lib.hid T.len
    have HNEW : Hid (∀ p ∈ L, p.1 ≠ num) := Lib.hid (fun p hp e => by
     obtain ⟨f', h1, h2⟩ := T.num p hp
     obtain ⟨i, hi, h3⟩ := mem_take_at' h1
     have h4 := rises_inj HH.out.rises (List.mem_of_getElem? h3) hmem (by rw [← h2, e, hnm])
     rw [h4] at h3
     have := HH.out.fi i j _ h3 hv
     omega)
    have HV := Lib.hid (And.intro hv (And.intro hnm (And.intro hsu2 (And.intro hn1 hsu))))
    have HT := Lib.hid T
    have hlt' : (j : Int) < (fn : Int) := by omega
    have hj0 : (0 : Int) ≤ (j : Int) := by omega
    clear T HI hgc hfa hsl hoA hn1 hsu hnumb hmade hfl hzw hnm hsu2 hmem hof
    go_upto_region 9 with fail
    refine wp_region_held_drew (S := fun V => V.cell? ⟨n0 + 2, 0, none⟩ = some (.map (some (n0 + 1))) ∧ FileAt V f num A n c sure) (by kernel_rfl) HS9.out (fun _ => ?_)
    refine ty9 0 26 (v := (.map (some (n0 + 1)))) rfl rfl ?_ HS9.out ?_
    · intro w hSw
      have q0 := hSw.1
      have q1 := hSw.2.c0
      have q2 := hSw.2.c1
      have q3 := hSw.2.c2
      go_simp
    simp only [Act.put, List.setIfInBounds_toArray, List.set_cons_zero, List.set_cons_succ]
    refine ty9 1 27 (v := (.pointer (some ⟨f, 0, none⟩))) rfl rfl ?_ HS9.out ?_
    · intro w hSw
      go_simp
    simp only [Act.put, List.setIfInBounds_toArray, List.set_cons_zero, List.set_cons_succ]
    refine ty9 2 28 (v := (.pointer (some ⟨f, 0, none⟩))) rfl rfl ?_ HS9.out ?_
    · intro w hSw
      go_simp
    simp only [Act.put, List.setIfInBounds_toArray, List.set_cons_zero, List.set_cons_succ]
    refine ty9 3 29 (v := (.pointer (some ⟨f, 0, none⟩))) rfl rfl ?_ HS9.out ?_
    · intro w hSw
      go_simp
    simp only [Act.put, List.setIfInBounds_toArray, List.set_cons_zero, List.set_cons_succ]
    refine ty9 4 30 (v := (.int .i64 (num : Int))) rfl rfl ?_ HS9.out ?_
    · intro w hSw
      have q0 := hSw.1
      have q1 := hSw.2.c0
      have q2 := hSw.2.c1
      have q3 := hSw.2.c2
      go_simp
    simp only [Act.put, List.setIfInBounds_toArray, List.set_cons_zero, List.set_cons_succ]
    refine ty9 5 31 (v := (.pointer (some ⟨f, 0, none⟩))) rfl rfl ?_ HS9.out ?_
    · intro w hSw
      go_simp
    simp only [Act.put, List.setIfInBounds_toArray, List.set_cons_zero, List.set_cons_succ]
    refine ty9 6 32 (v := (.pointer (some ⟨f, 0, none⟩))) rfl rfl ?_ HS9.out ?_
    · intro w hSw
      go_simp
    simp only [Act.put, List.setIfInBounds_toArray, List.set_cons_zero, List.set_cons_succ]
    refine ty9 7 33 (v := (.pointer (some ⟨f, 0, none⟩))) rfl rfl ?_ HS9.out ?_
    · intro w hSw
      go_simp
    simp only [Act.put, List.setIfInBounds_toArray, List.set_cons_zero, List.set_cons_succ]
    refine ty9 8 34 (v := (.int .i64 (num : Int))) rfl rfl ?_ HS9.out ?_
    · intro w hSw
      have q0 := hSw.1
      have q1 := hSw.2.c0
      have q2 := hSw.2.c1
      have q3 := hSw.2.c2
      go_simp
    simp only [Act.put, List.setIfInBounds_toArray, List.set_cons_zero, List.set_cons_succ]
    refine ty9 9 35 (v := (.pointer (some ⟨f, 0, none⟩))) rfl rfl ?_ HS9.out ?_
    · intro w hSw
      go_simp
    simp only [Act.put, List.setIfInBounds_toArray, List.set_cons_zero, List.set_cons_succ]
    refine ty9 10 36 (v := (.pointer (some ⟨f, 0, none⟩))) rfl rfl ?_ HS9.out ?_
    · intro w hSw
      go_simp
    simp only [Act.put, List.setIfInBounds_toArray, List.set_cons_zero, List.set_cons_succ]
    refine ty9 11 37 (v := (.pointer (some ⟨f, 1, none⟩))) rfl rfl ?_ HS9.out ?_
    · intro w hSw
      go_simp
    simp only [Act.put, List.setIfInBounds_toArray, List.set_cons_zero, List.set_cons_succ]
    refine ty9 12 38 (v := (.slice A n c)) rfl rfl ?_ HS9.out ?_
    · intro w hSw
      have q0 := hSw.1
      have q1 := hSw.2.c0
      have q2 := hSw.2.c1
      have q3 := hSw.2.c2
      go_simp
    simp only [Act.put, List.setIfInBounds_toArray, List.set_cons_zero, List.set_cons_succ]
    refine ty9 14 40 (v := (.pointer (some ⟨f, 0, none⟩))) rfl rfl ?_ HS9.out ?_
    · intro w hSw
      go_simp
    simp only [Act.put, List.setIfInBounds_toArray, List.set_cons_zero, List.set_cons_succ]
    refine ty9 15 41 (v := (.pointer (some ⟨f, 0, none⟩))) rfl rfl ?_ HS9.out ?_
    · intro w hSw
      go_simp
    simp only [Act.put, List.setIfInBounds_toArray, List.set_cons_zero, List.set_cons_succ]
    refine ty9 16 42 (v := (.pointer (some ⟨f, 2, none⟩))) rfl rfl ?_ HS9.out ?_
    · intro w hSw
      go_simp
    simp only [Act.put, List.setIfInBounds_toArray, List.set_cons_zero, List.set_cons_succ]
    refine ty9 17 43 (v := (.int .i64 (sure : Int))) rfl rfl ?_ HS9.out ?_
    · intro w hSw
      have q0 := hSw.1
      have q1 := hSw.2.c0
      have q2 := hSw.2.c1
      have q3 := hSw.2.c2
      go_simp
    simp only [Act.put, List.setIfInBounds_toArray, List.set_cons_zero, List.set_cons_succ]
    refine wpAnyH_ready (rs := [13]) (by kernel_rfl) (by simp) ?_
    refine AllReadyH.cons rfl (fun K hK => ?_) AllReadyH.nil
    go_simp
    go_at_call 40
    with_reducible refine HCL.out.mono ?_
    rintro e w2 ⟨⟨A2, c2, rfl, hl2, hA2⟩, hB2⟩
    have HX2 := Lib.hid (And.intro hl2 (And.intro hA2 hB2))
    have HS2 : Hid (w2.cell? ⟨n0 + 2, 0, none⟩ = some (.map (some (n0 + 1))) ∧ FileAt w2 f num A n c sure) := Lib.hid ⟨(hB2.cell (p := ⟨n0 + 2, 0, none⟩) HLT.out.1).trans HS9.out.1, HS9.out.2.same (hB2.block f HLT.out.2)⟩
    obtain ⟨w3, hw3⟩ : ∃ w3, w2.alloc (.cells #[.int .i64 (num : Int), .slice A2 n c2, .int .i64 (sure : Int)] 90) = w3 := ⟨_, rfl⟩
    have hB3 : Below w2.heap.size w2 w3 := by rw [← hw3]; exact (Below.refl _ w2).alloc (Nat.le_refl _) _
    have HB3 := Lib.hid hB3
    have HW3 := Lib.hid hw3
    have hz2 : Below wr.drew.heap.size wr.drew w3 := hB2.trans (hB3.mono hB2.size)
    have HS3 : Hid (w3.cell? ⟨n0 + 2, 0, none⟩ = some (.map (some (n0 + 1))) ∧ FileAt w3 f num A n c sure) := Lib.hid ⟨(hz2.cell (p := ⟨n0 + 2, 0, none⟩) HLT.out.1).trans HS9.out.1, HS9.out.2.same (hz2.block f HLT.out.2)⟩
    obtain ⟨w4, hrun4, hT4, hc4⟩ := (HTW.out w3 hz2).put num w2.heap.size (by omega) (by have := HLL.out; omega) HNEW.out
    have HS4 : Hid (w4.cell? ⟨n0 + 2, 0, none⟩ = some (.map (some (n0 + 1))) ∧ FileAt w4 f num A n c sure) := Lib.hid ⟨(World.cell?_of_block (w := w3) (a := ⟨n0 + 2, 0, none⟩) (hc4.same (n0 + 2) (by have := hz2.size; have := HLT.out.1; omega) (by simp))).trans HS3.out.1, HS3.out.2.same (hc4.same f (lt_of_block HS3.out.2) (by simp only [List.mem_singleton]; have := HFM.out; omega))⟩
    have HX4 := Lib.hid (And.intro hT4 hc4)
    clear hl2 hA2 hB2 hz2 hT4 hc4 hB3
    refine hK.out _ _ HS2.out (fun _ => ?_)
    clear hK K
    try simp only [Act.put, List.setIfInBounds_toArray, List.set_cons_zero, List.set_cons_succ]
    refine ty9 18 44 (v := (.agg #[.int .i64 (num : Int), .slice A2 n c2, .int .i64 (sure : Int)])) rfl rfl ?_ HS2.out ?_
    · intro w hSw
      go_simp
    simp only [Act.put, List.setIfInBounds_toArray, List.set_cons_zero, List.set_cons_succ]
    refine wpAnyH_ready (rs := [19]) (by kernel_rfl) (by simp) ?_
    refine AllReadyH.cons rfl (fun K hK => ?_) AllReadyH.nil
    go_simp
    refine hK.out _ _ HS3.out (fun _ => ?_)
    clear hK K
    try simp only [Act.put, List.setIfInBounds_toArray, List.set_cons_zero, List.set_cons_succ]
    refine wpAnyH_ready (rs := [20]) (by kernel_rfl) (by simp) ?_
    refine AllReadyH.cons rfl (fun K hK => ?_) AllReadyH.nil
    go_simp
    refine hK.out _ _ HS4.out (fun _ => ?_)
    clear hK K
    try simp only [Act.put, List.setIfInBounds_toArray, List.set_cons_zero, List.set_cons_succ]
    refine wpAnyH_done (by kernel_rfl) ?_ _
    have hzr := HX2.out.2.2.size
    have hz3 := HB3.out.size
    have hz4 := HX4.out.2.size
    have hk4 : ∀ k, k < wr.heap.size → k ≠ n0 + 1 → w4.heap[k]? = wr.heap[k]? := fun k h1 h2 => (HX4.out.2.same k (by have : wr.drew.heap.size = wr.heap.size := rfl; omega) (by simp only [List.mem_singleton]; exact h2)).trans ((HB3.out.block k (by have : wr.drew.heap.size = wr.heap.size := rfl; omega)).trans (HX2.out.2.2.block k h1))
    have hn0w : n0 < wr.heap.size := HT.out.box.lt
    have hb4 : DBoxAt w4.drew n0 ⟨.slice GA j gc, made, .slice RA rn rc, .slice SA sn sc, .slice C cn cc, quota, full, ahead, off, calls⟩ := (hk4 n0 hn0w (by omega)).trans HT.out.box
    have hL4 : SLine 1 w4.drew GA j gc gs := HT.out.line.same (by show wr.heap.size ≤ w4.heap.size; have : wr.drew.heap.size = wr.heap.size := rfl; omega) (fun k hk => hk4 k (HT.out.line.lt k hk) (fun e => by have := HT.out.oF k hk; rw [e] at this; have := HT.out.oM; omega))
    obtain ⟨C2, c5, w5, hr5, hl5, hc5, hf5, _⟩ := push_s 1 w4.drew 67 87 67 _ 8 Tryz.underlying67 infoFileP rfl (by decide) GA j gc gs hL4 (by omega) [(.pointer (some ⟨w2.heap.size, 0, none⟩))] rfl (fun u hu => by rw [List.mem_singleton] at hu; rw [hu]; rfl)
    have hG0 : n0 ∉ blk GA := fun hm => by have := HT.out.oF n0 hm; have := HT.out.o1; omega
    have hG2 : n0 + 2 ∉ blk GA := fun hm => by have := HT.out.oF _ hm; have := HT.out.oT; omega
    have hG1 : n0 + 1 ∉ blk GA := fun hm => by have := HT.out.oF _ hm; have := HT.out.oM; omega
    have hGf : f ∉ blk GA := fun hm => by have := HT.out.oF _ hm; have := HT.out.o0 f (by have := HFM.out; omega); omega
    have hb5 : DBoxAt w5 n0 ⟨.slice GA j gc, made, .slice RA rn rc, .slice SA sn sc, .slice C cn cc, quota, full, ahead, off, calls⟩ := hb4.chg hc5 hG0
    have e0 : w4.drew.cell? ⟨n0, 0, none⟩ = some (.slice GA j gc) := hb4.cell 0 _ rfl
    obtain ⟨w4a, hw4a⟩ : ∃ w4a, w4.drew.alloc (.cells #[(.pointer (some ⟨w2.heap.size, 0, none⟩))] 87) = w4a := ⟨_, rfl⟩
    have hba : Below w4.drew.heap.size w4.drew w4a := by rw [← hw4a]; exact (Below.refl _ _).alloc (Nat.le_refl _) _
    have hb4a := hb4.below hba
    have e0a : w4a.cell? ⟨n0, 0, none⟩ = some (.slice GA j gc) := hb4a.cell 0 _ rfl
    have e5 : w5.cell? ⟨n0, 0, none⟩ = some (.slice GA j gc) := hb5.cell 0 _ rfl
    have e5f := hb5.free 0
    have HR5 : Hid ((Builtin.append_ #[67, 67] 67 #[.slice GA j gc, .slice (some ⟨w4.drew.heap.size, 0, none⟩) 1 1]).run Tryz.prog w4a = .ok (.slice C2 (j + 1) c5) w5) := Lib.hid (by rw [← hw4a]; exact hr5)
    have HS10 : Hid (w4.drew.cell? ⟨n0 + 2, 0, none⟩ = some (.map (some (n0 + 1))) ∧ FileAt w4.drew f num A n c sure ∧ TwinsAt w4.drew (n0 + 1) (L ++ [(num, w2.heap.size)])) := Lib.hid ⟨HS4.out.1, HS4.out.2, HX4.out.1⟩
    have HS10a : Hid (w4a.cell? ⟨n0 + 2, 0, none⟩ = some (.map (some (n0 + 1))) ∧ FileAt w4a f num A n c sure ∧ TwinsAt w4a (n0 + 1) (L ++ [(num, w2.heap.size)])) := Lib.hid ⟨(hba.cell (p := ⟨n0 + 2, 0, none⟩) (World.block_lt_of_cell? w4.drew _ HS10.out.1)).trans HS10.out.1, HS10.out.2.1.same (hba.block f (lt_of_block HS10.out.2.1)), HS10.out.2.2.same (hba.block _ HS10.out.2.2.lt)⟩
    have HS10b : Hid (w5.cell? ⟨n0 + 2, 0, none⟩ = some (.map (some (n0 + 1))) ∧ FileAt w5 f num A n c sure ∧ TwinsAt w5 (n0 + 1) (L ++ [(num, w2.heap.size)])) := Lib.hid ⟨(World.cell?_of_block (w := w4.drew) (a := ⟨n0 + 2, 0, none⟩) (hc5.same (n0 + 2) (World.block_lt_of_cell? w4.drew _ HS10.out.1) hG2)).trans HS10.out.1, HS10.out.2.1.same (hc5.same f (lt_of_block HS10.out.2.1) hGf), HS10.out.2.2.same (hc5.same _ HS10.out.2.2.lt hG1)⟩
    have hc6 : Chg [n0] w5 (w5.setCell ⟨n0, 0, none⟩ (.slice C2 (j + 1) c5)) := (Chg.refl _ w5).setCell n0 0 _ (.inl (by simp))
    have HS10c : Hid ((w5.setCell ⟨n0, 0, none⟩ (.slice C2 (j + 1) c5)).cell? ⟨n0 + 2, 0, none⟩ = some (.map (some (n0 + 1))) ∧ FileAt (w5.setCell ⟨n0, 0, none⟩ (.slice C2 (j + 1) c5)) f num A n c sure ∧ TwinsAt (w5.setCell ⟨n0, 0, none⟩ (.slice C2 (j + 1) c5)) (n0 + 1) (L ++ [(num, w2.heap.size)])) := Lib.hid ⟨(World.cell?_of_block (w := w5) (a := ⟨n0 + 2, 0, none⟩) (hc6.same (n0 + 2) (World.block_lt_of_cell? w5 _ HS10b.out.1) (by simp))).trans HS10b.out.1, HS10b.out.2.1.same (hc6.same f (lt_of_block HS10b.out.2.1) (by rw [List.mem_singleton]; have := HFM.out; omega)), HS10b.out.2.2.same (hc6.same _ HS10b.out.2.2.lt (by simp))⟩
    have HSTEP : Hid (∃ own2 GA gc gs L, TwIn w (w5.setCell ⟨n0, 0, none⟩ (.slice C2 (j + 1) c5)) n0 (n0 + 1) (n0 + 2) own2 ⟨.slice (some ⟨g, o, none⟩) fn fc, made, .slice RA rn rc, .slice SA sn sc, .slice C cn cc, quota, full, ahead, off, calls⟩ GA (j + 1) gc fs gs L nm su dt) := Lib.hid (by
     have hnm := HV.out.2.1
     have hsu := HV.out.2.2.1
     obtain ⟨own', T'⟩ := HT.out.step ⟨by omega, by omega⟩ (by omega) (by omega) (by omega) _ HV.out.1 n A2 c2 w2 ((Below.refl _ wr).drew.trans HX2.out.2.2) HX2.out.1 HX2.out.2.1 HV.out.2.2.2.1 (by rw [hsu]; exact HV.out.2.2.2.2) w3 (by rw [hnm, hsu]; exact HW3.out) w4.drew (by rw [hnm]; exact HX4.out.1) HX4.out.2.drew C2 c5 w5 hl5 hc5 hf5
     exact ⟨own', _, _, _, _, T'⟩)
    clear hzr hz3 hz4 hk4 hb4 hL4 hr5 hl5 hc5 hf5 hG0 hG1 hG2 hGf hb5 hba hb4a hc6
    go_upto_region 10 with fail
    refine wp_region_held_drew (S := fun V => V.cell? ⟨n0 + 2, 0, none⟩ = some (.map (some (n0 + 1))) ∧ FileAt V f num A n c sure ∧ TwinsAt V (n0 + 1) (L ++ [(num, w2.heap.size)])) (by kernel_rfl) HS10.out (fun _ => ?_)
    refine ty9 0 46 (v := (.pointer (some ⟨n0, 0, none⟩))) rfl rfl ?_ HS10.out ?_
    · intro w hSw
      go_simp
    simp only [Act.put, List.setIfInBounds_toArray, List.set_cons_zero, List.set_cons_succ]
    refine ty9 2 48 (v := (.map (some (n0 + 1)))) rfl rfl ?_ HS10.out ?_
    · intro w hSw
      have q0 := hSw.1
      have q1 := hSw.2.1.c0
      have q2 := hSw.2.2.get (n := num) (b := w2.heap.size) (by simp) (by omega)
      go_simp
    simp only [Act.put, List.setIfInBounds_toArray, List.set_cons_zero, List.set_cons_succ]
    refine ty9 3 49 (v := (.pointer (some ⟨f, 0, none⟩))) rfl rfl ?_ HS10.out ?_
    · intro w hSw
      go_simp
    simp only [Act.put, List.setIfInBounds_toArray, List.set_cons_zero, List.set_cons_succ]
    refine ty9 4 50 (v := (.pointer (some ⟨f, 0, none⟩))) rfl rfl ?_ HS10.out ?_
    · intro w hSw
      go_simp
    simp only [Act.put, List.setIfInBounds_toArray, List.set_cons_zero, List.set_cons_succ]
    refine ty9 5 51 (v := (.pointer (some ⟨f, 0, none⟩))) rfl rfl ?_ HS10.out ?_
    · intro w hSw
      go_simp
    simp only [Act.put, List.setIfInBounds_toArray, List.set_cons_zero, List.set_cons_succ]
    refine ty9 6 52 (v := (.int .i64 (num : Int))) rfl rfl ?_ HS10.out ?_
    · intro w hSw
      have q0 := hSw.1
      have q1 := hSw.2.1.c0
      have q2 := hSw.2.2.get (n := num) (b := w2.heap.size) (by simp) (by omega)
      go_simp
    simp only [Act.put, List.setIfInBounds_toArray, List.set_cons_zero, List.set_cons_succ]
    refine ty9 7 53 (v := (.pointer (some ⟨w2.heap.size, 0, none⟩))) rfl rfl ?_ HS10.out ?_
    · intro w hSw
      have q0 := hSw.1
      have q1 := hSw.2.1.c0
      have q2 := hSw.2.2.get (n := num) (b := w2.heap.size) (by simp) (by omega)
      go_simp
    simp only [Act.put, List.setIfInBounds_toArray, List.set_cons_zero, List.set_cons_succ]
    refine wpAnyH_ready (rs := [1, 8]) (by kernel_rfl) (by simp) ?_
    refine AllReadyH.cons rfl (fun K hK => ?_) (AllReadyH.cons rfl (fun K hK => ?_) AllReadyH.nil)
    · go_simp
      refine hK.out _ _ HS10.out (fun _ => ?_)
      clear hK K
      try simp only [Act.put, List.setIfInBounds_toArray, List.set_cons_zero, List.set_cons_succ]
      refine wpAnyH_ready (rs := [8]) (by kernel_rfl) (by simp) ?_
      refine AllReadyH.cons rfl (fun K hK => ?_) AllReadyH.nil
      go_simp
      refine hK.out _ _ HS10a.out (fun _ => ?_)
      clear hK K
      try simp only [Act.put, List.setIfInBounds_toArray, List.set_cons_zero, List.set_cons_succ]
      refine wpAnyH_ready (rs := [9]) (by kernel_rfl) (by simp) ?_
      refine appendR_ready rfl (by kernel_rfl) _ _ _ _ rfl _ _ rfl rfl _ _ HR5.out HS10b.out ?_
      try simp only [Act.put, List.setIfInBounds_toArray, List.set_cons_zero, List.set_cons_succ]
      refine ty9 10 56 (v := (.pointer (some ⟨n0, 0, none⟩))) rfl rfl ?_ HS10b.out ?_
      · intro w hSw
        go_simp
      simp only [Act.put, List.setIfInBounds_toArray, List.set_cons_zero, List.set_cons_succ]
      refine wpAnyH_ready (rs := [11]) (by kernel_rfl) (by simp) ?_
      refine AllReadyH.cons rfl (fun K hK => ?_) AllReadyH.nil
      go_simp
      refine hK.out _ _ HS10c.out (fun _ => ?_)
      clear hK K
      try simp only [Act.put, List.setIfInBounds_toArray, List.set_cons_zero, List.set_cons_succ]
      refine wpAnyH_done (by kernel_rfl) ?_ _
      go_wp2
      go_roundg (fn - (j + 1) + 1)
      case measure => omega
      case rel => exact ⟨j + 1, by go_num, by omega, HSTEP, Nat.le_refl _⟩
    · go_simp
      refine hK.out _ _ HS10a.out (fun _ => ?_)
      clear hK K
      try simp only [Act.put, List.setIfInBounds_toArray, List.set_cons_zero, List.set_cons_succ]
      refine wpAnyH_ready (rs := [1]) (by kernel_rfl) (by simp) ?_
      refine AllReadyH.cons rfl (fun K hK => ?_) AllReadyH.nil
      go_simp
      refine hK.out _ _ HS10a.out (fun _ => ?_)
      clear hK K
      try simp only [Act.put, List.setIfInBounds_toArray, List.set_cons_zero, List.set_cons_succ]
      refine wpAnyH_ready (rs := [9]) (by kernel_rfl) (by simp) ?_
      refine appendR_ready rfl (by kernel_rfl) _ _ _ _ rfl _ _ rfl rfl _ _ HR5.out HS10b.out ?_
      try simp only [Act.put, List.setIfInBounds_toArray, List.set_cons_zero, List.set_cons_succ]
      refine ty9 10 56 (v := (.pointer (some ⟨n0, 0, none⟩))) rfl rfl ?_ HS10b.out ?_
      · intro w hSw
        go_simp
      simp only [Act.put, List.setIfInBounds_toArray, List.set_cons_zero, List.set_cons_succ]
      refine wpAnyH_ready (rs := [11]) (by kernel_rfl) (by simp) ?_
      refine AllReadyH.cons rfl (fun K hK => ?_) AllReadyH.nil
      go_simp
      refine hK.out _ _ HS10c.out (fun _ => ?_)
      clear hK K
      try simp only [Act.put, List.setIfInBounds_toArray, List.set_cons_zero, List.set_cons_succ]
      refine wpAnyH_done (by kernel_rfl) ?_ _
      go_wp2
      go_roundg (fn - (j + 1) + 1)
      case measure => omega
      case rel => exact ⟨j + 1, by go_num, by omega, HSTEP, Nat.le_refl _⟩
  · obtain rfl : fn = j := by omega
    rename World => wo
    have hP : Pairs fs gs := HH.out.pairs (by have := T.glen; omega) (fun i f hf => by
     obtain ⟨tf, t1, t2, t3⟩ := T.two i f hf (by have := (List.getElem?_eq_some_iff.1 hf).1; omega)
     exact ⟨tf, t1, t3⟩)
    have HP := Lib.hid hP
    have HT := Lib.hid T
    have HO : Hid (∀ V, Below w.heap.size w V → V.heap[n0 + 2]? = wo.heap[n0 + 2]? → V.heap[n0 + 1]? = wo.heap[n0 + 1]? → ∀ a, (a = none ∨ Value.pointer a ∈ fs) → Calls Tryz.prog 41 #[.pointer a, .pointer (some ⟨n0 + 2, 0, none⟩)] V fun e W' => e = .returned (.pointer (phi fs gs a)) ∧ Below V.heap.size V W') := Lib.hid (fun V hbw hV2 hV1 a ha => by
     rcases ha with rfl | ha
     · rw [phi_nil]
       exact twin_nil V (n0 + 2)
     · obtain ⟨i, hi, e⟩ := List.mem_iff_getElem.1 ha
       have hf : fs[i]? = some (.pointer a) := by rw [List.getElem?_eq_getElem hi, e]
       obtain ⟨f, A, n, c, ef, hof, hfa, hsl, hoA, hn1, hsu⟩ := HH.out.file _ ha
       cases ef
       obtain ⟨tf, t1, t2, t3⟩ := HT.out.two i _ hf (by omega)
       have hm := HH.out.num _ ha
       have hmd := HH.out.made.2
       rw [phi_at HP.out hf t1]
       exact twin_any V f _ A n c _ (hfa.same (hbw.block f (lt_of_block hfa))) (by dsimp only at hm hmd; omega) (n0 + 2) (n0 + 1) (cell_of_one (hV2.trans HT.out.var)) L (HT.out.twins.same hV1) tf t2)
    have hwo : ∀ W, Below wo.drew.heap.size wo.drew W → Below w.heap.size w W := fun W hW => T.below.drew.trans (hW.mono T.below.size)
    have hwo2 : ∀ W, Below wo.drew.heap.size wo.drew W → W.heap[n0 + 2]? = wo.heap[n0 + 2]? ∧ W.heap[n0 + 1]? = wo.heap[n0 + 1]? := fun W hW => ⟨hW.block (n0 + 2) (lt_of_block T.var), hW.block (n0 + 1) T.twins.lt⟩
    have HBX : Hid (DBoxAt wo.drew n0 ⟨.slice GA fn gc, made, .slice RA rn rc, .slice SA sn sc, .slice C cn cc, quota, full, ahead, off, calls⟩) := Lib.hid T.box
    have HDL : Hid (d < n0 ∧ d < wo.drew.heap.size) := Lib.hid ⟨by omega, by have := T.below.size; show d < wo.heap.size; omega⟩
    have hrow : ∀ V, Below wo.drew.heap.size wo.drew V → RowAtS V d 2 RA rn rc ps ∧ RowAtS V d 3 SA sn sc ss := fun V hV => by
     have hbw := (T.below.drew).trans (hV.mono T.below.size)
     have hbd := HH.out.box.below hbw
     exact ⟨⟨hbd.cell 2 _ rfl, HH.out.nrow.below hbw⟩, ⟨hbd.cell 3 _ rfl, HH.out.srow.below hbw⟩⟩
    have hlen := HH.out.rlen HR.out
    have hsz := HH.out.lenC
    have hnowl := (layAll_len chl ss HH.out.srow.rises HH.out.chs.two).2
    have hchl := HH.out.chs.1
    have hcll := HH.out.cline.1
    have hssl := HH.out.srow.len
    have hpsl := HH.out.nrow.len
    have hlay := HH.out.lay
    have hrn : rn ≤ 100000 := by rw [← hpsl, hlay]; omega
    have hcn : cn ≤ 40000 := by omega
    have hccc : cn ≤ cc := HH.out.cline.2.1
    have HCL : Hid (chl.length = cn) := Lib.hid (by omega)
    have HC1 := Lib.hid (copied_any wo.drew d 2 RA rn rc ps (hrow _ (Below.refl _ _)).1 hrn (fun p hp => by obtain ⟨f, e⟩ := HH.out.ptr _ (HH.out.nin p hp); exact ⟨_, e⟩) 41 #[.pointer (some ⟨n0 + 2, 0, none⟩)] clone1_enters (phi fs gs) (fun W hW p hp a ha => HO.out W (hwo W hW) (hwo2 W hW).1 (hwo2 W hW).2 a (.inr (by rw [← ha]; exact HH.out.nin p hp))))
    have HC2 : Hid (∀ V, Below wo.drew.heap.size wo.drew V → _) := Lib.hid (fun V hV => copied_any V d 3 SA sn sc ss (hrow V hV).2 (by omega) (fun p hp => by obtain ⟨f, e⟩ := HH.out.ptr _ (HH.out.sin p hp); exact ⟨_, e⟩) 41 #[.pointer (some ⟨n0 + 2, 0, none⟩)] clone1_enters (phi fs gs) (fun W hW p hp a ha => HO.out W (hwo W (hV.trans (hW.mono hV.size))) (hwo2 W (hV.trans (hW.mono hV.size))).1 (hwo2 W (hV.trans (hW.mono hV.size))).2 a (.inr (by rw [← ha]; exact HH.out.sin p hp))))
    clear T hP HI hrow hwo hwo2 hlen hsz hnowl hchl hcll hssl hpsl hlay hrn
    go_upto_region 13 with fail
    refine wp_region_held_drew (S := fun V => True) (by kernel_rfl) trivial (fun _ => ?_)
    refine ty9 0 59 (v := (.pointer (some ⟨d, 0, none⟩))) rfl rfl ?_ trivial ?_
    · intro w hSw
      go_simp
    simp only [Act.put, List.setIfInBounds_toArray, List.set_cons_zero, List.set_cons_succ]
    refine ty9 1 60 (v := (.pointer (some ⟨d, 0, none⟩))) rfl rfl ?_ trivial ?_
    · intro w hSw
      go_simp
    simp only [Act.put, List.setIfInBounds_toArray, List.set_cons_zero, List.set_cons_succ]
    refine ty9 2 61 (v := (.pointer (some ⟨d, 2, none⟩))) rfl rfl ?_ trivial ?_
    · intro w hSw
      go_simp
    simp only [Act.put, List.setIfInBounds_toArray, List.set_cons_zero, List.set_cons_succ]
    refine ty9 3 62 (v := (.func (.func 41) #[] #[.pointer (some ⟨n0 + 2, 0, none⟩)])) rfl rfl ?_ trivial ?_
    · intro w hSw
      go_simp
    simp only [Act.put, List.setIfInBounds_toArray, List.set_cons_zero, List.set_cons_succ]
    refine ty9 5 64 (v := (.pointer (some ⟨d, 0, none⟩))) rfl rfl ?_ trivial ?_
    · intro w hSw
      go_simp
    simp only [Act.put, List.setIfInBounds_toArray, List.set_cons_zero, List.set_cons_succ]
    refine ty9 6 65 (v := (.pointer (some ⟨d, 0, none⟩))) rfl rfl ?_ trivial ?_
    · intro w hSw
      go_simp
    simp only [Act.put, List.setIfInBounds_toArray, List.set_cons_zero, List.set_cons_succ]
    refine ty9 7 66 (v := (.pointer (some ⟨d, 3, none⟩))) rfl rfl ?_ trivial ?_
    · intro w hSw
      go_simp
    simp only [Act.put, List.setIfInBounds_toArray, List.set_cons_zero, List.set_cons_succ]
    refine ty9 8 67 (v := (.func (.func 41) #[] #[.pointer (some ⟨n0 + 2, 0, none⟩)])) rfl rfl ?_ trivial ?_
    · intro w hSw
      go_simp
    simp only [Act.put, List.setIfInBounds_toArray, List.set_cons_zero, List.set_cons_succ]
    refine wpAnyH_ready (rs := [4]) (by kernel_rfl) (by simp) ?_
    refine AllReadyH.cons rfl (fun K hK => ?_) AllReadyH.nil
    go_simp
    go_at_call 42
    with_reducible refine HC1.out.mono ?_
    rintro e w5 ⟨⟨A2, n2, c2, rfl, hR2, hN2⟩, hB5⟩
    have HX5 := Lib.hid (And.intro hR2 (And.intro hN2 hB5))
    have HC2w := Lib.hid (HC2.out w5 hB5)
    clear hR2 hN2 hB5
    refine hK.out _ _ trivial (fun _ => ?_)
    clear hK K
    try simp only [Act.put, List.setIfInBounds_toArray, List.set_cons_zero, List.set_cons_succ]
    refine wpAnyH_ready (rs := [9]) (by kernel_rfl) (by simp) ?_
    refine AllReadyH.cons rfl (fun K hK => ?_) AllReadyH.nil
    go_simp
    go_at_call 42
    with_reducible refine HC2w.out.mono ?_
    rintro e w6 ⟨⟨A3, n3, c3, rfl, hR3, hN3⟩, hB6⟩
    have hB06 := HX5.out.2.2.trans (hB6.mono HX5.out.2.2.size)
    have hbx6 : DBoxAt w6 n0 ⟨.slice GA fn gc, made, .slice RA rn rc, .slice SA sn sc, .slice C cn cc, quota, full, ahead, off, calls⟩ := HBX.out.below hB06
    obtain ⟨w7, hw7⟩ : ∃ w7, w6.setCell ⟨n0, 2, none⟩ (.slice A2 n2 c2) = w7 := ⟨_, rfl⟩
    have hbx7 : DBoxAt w7 n0 ⟨.slice GA fn gc, made, .slice A2 n2 c2, .slice SA sn sc, .slice C cn cc, quota, full, ahead, off, calls⟩ := by rw [← hw7]; exact hbx6.set 2 _ _ rfl
    obtain ⟨w8, hw8⟩ : ∃ w8, w7.setCell ⟨n0, 3, none⟩ (.slice A3 n3 c3) = w8 := ⟨_, rfl⟩
    have hbx8 : DBoxAt w8 n0 ⟨.slice GA fn gc, made, .slice A2 n2 c2, .slice A3 n3 c3, .slice C cn cc, quota, full, ahead, off, calls⟩ := by rw [← hw8]; exact hbx7.set 3 _ _ rfl
    obtain ⟨w9, hw9⟩ : ∃ w9, w8.setCell ⟨n0, 4, none⟩ (.slice none 0 0) = w9 := ⟨_, rfl⟩
    have hbx9 : DBoxAt w9 n0 ⟨.slice GA fn gc, made, .slice A2 n2 c2, .slice A3 n3 c3, .slice none 0 0, quota, full, ahead, off, calls⟩ := by rw [← hw9]; exact hbx8.set 4 _ _ rfl
    have hc7 : Chg [n0] w6 w7 := by rw [← hw7]; exact (Chg.refl _ w6).setCell n0 2 _ (.inl (by simp))
    have hc8 : Chg [n0] w6 w8 := by rw [← hw8]; exact hc7.setCell n0 3 _ (.inl (by simp))
    have hc9 : Chg [n0] w6 w9 := by rw [← hw9]; exact hc8.setCell n0 4 _ (.inl (by simp))
    have g2 : w6.cell? ⟨n0, 2, none⟩ = some (.slice RA rn rc) := hbx6.cell 2 _ rfl
    have g2f := hbx6.free 2
    have g3 : w7.cell? ⟨n0, 3, none⟩ = some (.slice SA sn sc) := hbx7.cell 3 _ rfl
    have g3f := hbx7.free 3
    have g4 : w8.cell? ⟨n0, 4, none⟩ = some (.slice C cn cc) := hbx8.cell 4 _ rfl
    have g4f := hbx8.free 4
    have hd9 : w9.heap[d]? = w.heap[d]? := (hc9.same d (by have := hB06.size; have := HDL.out.2; show d < _; omega) (by rw [List.mem_singleton]; have := HDL.out.1; omega)).trans ((hB06.block d HDL.out.2).trans (HT.out.below.block d hdl))
    have x4 : w9.cell? ⟨d, 4, none⟩ = some (.slice C cn cc) := (World.cell?_of_block (w := w) (a := ⟨d, 4, none⟩) hd9).trans (HH.out.box.cell 4 _ rfl)
    have HK0 : Hid (ChIn w9 w9 n0 (phi fs gs) ⟨.slice GA fn gc, made, .slice A2 n2 c2, .slice A3 n3 c3, .slice none 0 0, quota, full, ahead, off, calls⟩ none 0 0 [] chl) := Lib.hid ⟨Chg.refl _ _, hbx9.lt, hbx9, SLine.nil 1 _, fun j hj => (by cases hj), fun i v c hv => (by simp at hv)⟩
    have HX6 := Lib.hid (And.intro hR3 (And.intro hN3 (And.intro hB06 hB6)))
    have HC9 := Lib.hid hc9
    clear hR3 hN3 hB6 hB06 hbx6 hbx7 hbx8 hbx9 hc7 hc8 hc9 hd9
    refine hK.out _ _ trivial (fun _ => ?_)
    clear hK K
    try simp only [Act.put, List.setIfInBounds_toArray, List.set_cons_zero, List.set_cons_succ]
    refine ty9 10 69 (v := (.pointer (some ⟨n0, 2, none⟩))) rfl rfl ?_ trivial ?_
    · intro w hSw
      go_simp
    simp only [Act.put, List.setIfInBounds_toArray, List.set_cons_zero, List.set_cons_succ]
    refine wpAnyH_ready (rs := [11]) (by kernel_rfl) (by simp) ?_
    refine AllReadyH.cons rfl (fun K hK => ?_) AllReadyH.nil
    go_simp
    refine hK.out _ _ trivial (fun _ => ?_)
    clear hK K
    try simp only [Act.put, List.setIfInBounds_toArray, List.set_cons_zero, List.set_cons_succ]
    refine ty9 12 70 (v := (.pointer (some ⟨n0, 3, none⟩))) rfl rfl ?_ trivial ?_
    · intro w hSw
      go_simp
    simp only [Act.put, List.setIfInBounds_toArray, List.set_cons_zero, List.set_cons_succ]
    refine wpAnyH_ready (rs := [13]) (by kernel_rfl) (by simp) ?_
    refine AllReadyH.cons rfl (fun K hK => ?_) AllReadyH.nil
    go_simp
    refine hK.out _ _ trivial (fun _ => ?_)
    clear hK K
    try simp only [Act.put, List.setIfInBounds_toArray, List.set_cons_zero, List.set_cons_succ]
    refine wpAnyH_done (by kernel_rfl) ?_ _
    go_wp2_with fail
    clear g2 g2f g3 g3f g4 g4f x4 hw7 hw8 hw9
    go_loopg [77] (cn + 1) (fun kx i wq => ∃ k : Nat, i = .int .i64 k ∧ k ≤ cn ∧ Hid (∃ CA cc2 css2, ChIn w9 wq n0 (phi fs gs) ⟨.slice GA fn gc, made, .slice A2 n2 c2, .slice A3 n3 c3, .slice none 0 0, quota, full, ahead, off, calls⟩ CA k cc2 css2 chl) ∧ cn - k + 1 ≤ kx)
    case atStart => exact ⟨0, rfl, Nat.zero_le _, Lib.hid ⟨_, _, _, HK0.out⟩, Nat.le_refl _⟩
    case round =>
     clear HK0 HC1 HC2 HC2w
     obtain ⟨k, rfl, hk, HI, hm⟩ := hrel
     obtain ⟨CA, cc2, css2, hT⟩ := HI.out
     rcases Nat.lt_or_ge k cn with hlt | hge
     · have hbw9 : Below w.heap.size w w9 := ((HT.out.below.trans (((Below.refl _ wo).drew.trans HX6.out.2.2.1).mono HT.out.below.size))).trans (HC9.out.toBelow (fun j hj => by rw [List.mem_singleton] at hj; omega) (by have := HT.out.below.size; have := HX6.out.2.2.1.size; have : wo.drew.heap.size = wo.heap.size := rfl; omega))
       have hbw : Below w.heap.size w wr := hbw9.trans (hT.chg.toBelow (fun j hj => by rw [List.mem_singleton] at hj; omega) (by have := hbw9.size; omega))
       obtain ⟨v, hv⟩ : ∃ v, css[k]? = some v := ⟨_, List.getElem?_eq_getElem (by have := HH.out.cline.1; omega)⟩
       obtain ⟨c, hc⟩ : ∃ c, chl[k]? = some c := ⟨_, List.getElem?_eq_getElem (by have := HCL.out; omega)⟩
       obtain ⟨qA, qc, rfl, hline, hoq, hc2, hsh⟩ := HH.out.chs.2 k v c hv hc
       obtain ⟨g, o, rfl, hg, hgc, _⟩ := (HH.out.cline.below hbw).at (by omega)
       have d0 := (hgc k (by omega)).trans hv
       have e4 : wr.drew.cell? ⟨n0, 4, none⟩ = some (.slice CA k cc2) := hT.box.cell 4 _ rfl
       have hwz := hT.chg.size
       have hw9 : Below wo.heap.size wo w6 := (Below.refl _ wo).drew.trans HX6.out.2.2.1
       have hM : ∀ i, i < wo.heap.size → i ≠ n0 → wr.heap[i]? = wo.heap[i]? := fun i hi hn => (hT.chg.same i (by have := hw9.size; have := HC9.out.size; omega) (by simp only [List.mem_singleton]; exact hn)).trans ((HC9.out.same i (by have := hw9.size; omega) (by simp only [List.mem_singleton]; exact hn)).trans (hw9.block i hi))
       have h2lt : n0 + 2 < wo.heap.size := lt_of_block HT.out.var
       have hHO : ∀ W, Below wr.drew.heap.size wr.drew W → ∀ p ∈ c, ∀ a, p.2 = .pointer a → Calls Tryz.prog 41 #[.pointer a, .pointer (some ⟨n0 + 2, 0, none⟩)] W fun e W' => e = .returned (.pointer (phi fs gs a)) ∧ Below W.heap.size W W' := fun W hW p hp a ha => by
        refine HO.out W (hbw.drew.trans (hW.mono (by have := hbw.size; exact this))) ((hW.block (n0 + 2) (by have := hM (n0 + 2) h2lt (by omega); show _ < wr.heap.size; have := hw9.size; have := HC9.out.size; omega)).trans (hM (n0 + 2) h2lt (by omega))) ((hW.block (n0 + 1) (by show _ < wr.heap.size; have := hw9.size; have := HC9.out.size; omega)).trans (hM (n0 + 1) (by omega) (by omega))) a ?_
        rcases HH.out.cin c (List.mem_of_getElem? hc) p hp with h | h
        · rw [ha] at h; exact .inl (by injection h)
        · exact .inr (by rw [← ha]; exact h)
       have HCC := Lib.hid (copiedChange_any wr.drew qA c.length qc c (hline.below hbw).drew hsh (by omega) (n0 + 2) (phi fs gs) hHO)
       have HSTEP := Lib.hid (hT.drew.step (by omega) c hc)
       have HT2 := Lib.hid hT
       obtain ⟨m, hm2⟩ : ∃ m, c.length = m := ⟨_, rfl⟩
       rw [hm2] at HCC HSTEP d0
       have hlt2 : (k : Int) < (cn : Int) := by omega
       have hk0 : (0 : Int) ≤ (k : Int) := by omega
       clear hT HI hline hoq hgc hv hc hsh hHO hM hbw hbw9 hw9 hm2 hwz hc2 hg h2lt
       go_upto_region 18 with fail
       refine wp_region_held_drew (S := fun V => True) (by kernel_rfl) trivial (fun _ => ?_)
       refine ty9 0 81 (v := (.pointer (some ⟨n0, 4, none⟩))) rfl rfl ?_ trivial ?_
       · intro w hSw
         go_simp
       simp only [Act.put, List.setIfInBounds_toArray, List.set_cons_zero, List.set_cons_succ]
       refine ty9 2 83 (v := (.slice qA m qc)) rfl rfl ?_ trivial ?_
       · intro w hSw
         go_simp
       simp only [Act.put, List.setIfInBounds_toArray, List.set_cons_zero, List.set_cons_succ]
       refine ty9 3 84 (v := (.func (.func 41) #[] #[.pointer (some ⟨n0 + 2, 0, none⟩)])) rfl rfl ?_ trivial ?_
       · intro w hSw
         go_simp
       simp only [Act.put, List.setIfInBounds_toArray, List.set_cons_zero, List.set_cons_succ]
       refine wpAnyH_ready (rs := [1, 4]) (by kernel_rfl) (by simp) ?_
       refine AllReadyH.cons rfl (fun K hK => ?_) (AllReadyH.cons rfl (fun K hK => ?_) AllReadyH.nil)
       · go_simp
         refine hK.out _ _ trivial (fun _ => ?_)
         clear hK K
         try simp only [Act.put, List.setIfInBounds_toArray, List.set_cons_zero, List.set_cons_succ]
         refine wpAnyH_ready (rs := [4]) (by kernel_rfl) (by simp) ?_
         refine AllReadyH.cons rfl (fun K hK => ?_) AllReadyH.nil
         go_simp
         go_at_call 43
         with_reducible refine HCC.out.mono ?_
         rintro e v2 ⟨⟨B2, b2, rfl, hl2, hn2⟩, hb2⟩
         obtain ⟨v2a, C2, d2, v3, hv2a, hr3, f1, f1a, f3, f3f, hK3⟩ := HSTEP.out v2 hb2 B2 b2 hl2 hn2
         have HR3 := Lib.hid hr3
         have HK3 := Lib.hid hK3
         clear hl2 hn2 hb2 hr3 hK3
         refine hK.out _ _ trivial (fun _ => ?_)
         clear hK K
         try simp only [Act.put, List.setIfInBounds_toArray, List.set_cons_zero, List.set_cons_succ]
         refine wpAnyH_ready (rs := [5]) (by kernel_rfl) (by simp) ?_
         refine AllReadyH.cons rfl (fun K hK => ?_) AllReadyH.nil
         go_simp
         refine hK.out _ _ trivial (fun _ => ?_)
         clear hK K
         try simp only [Act.put, List.setIfInBounds_toArray, List.set_cons_zero, List.set_cons_succ]
         refine wpAnyH_ready (rs := [6]) (by kernel_rfl) (by simp) ?_
         refine appendR_ready rfl (by kernel_rfl) _ _ _ _ rfl _ _ rfl rfl _ _ HR3.out trivial ?_
         try simp only [Act.put, List.setIfInBounds_toArray, List.set_cons_zero, List.set_cons_succ]
         refine ty9 7 88 (v := (.pointer (some ⟨n0, 4, none⟩))) rfl rfl ?_ trivial ?_
         · intro w hSw
           go_simp
         simp only [Act.put, List.setIfInBounds_toArray, List.set_cons_zero, List.set_cons_succ]
         refine wpAnyH_ready (rs := [8]) (by kernel_rfl) (by simp) ?_
         refine AllReadyH.cons rfl (fun K hK => ?_) AllReadyH.nil
         go_simp
         refine hK.out _ _ trivial (fun _ => ?_)
         clear hK K
         try simp only [Act.put, List.setIfInBounds_toArray, List.set_cons_zero, List.set_cons_succ]
         refine wpAnyH_done (by kernel_rfl) ?_ _
         go_wp2
         go_roundg (cn - (k + 1) + 1)
         case measure => omega
         case rel => exact ⟨k + 1, by go_num, by omega, Lib.hid ⟨_, _, _, HK3.out⟩, Nat.le_refl _⟩
       · skip
         go_simp
         go_at_call 43
         with_reducible refine HCC.out.mono ?_
         rintro e v2 ⟨⟨B2, b2, rfl, hl2, hn2⟩, hb2⟩
         obtain ⟨v2a, C2, d2, v3, hv2a, hr3, f1, f1a, f3, f3f, hK3⟩ := HSTEP.out v2 hb2 B2 b2 hl2 hn2
         have HR3 := Lib.hid hr3
         have HK3 := Lib.hid hK3
         clear hl2 hn2 hb2 hr3 hK3
         refine hK.out _ _ trivial (fun _ => ?_)
         clear hK K
         try simp only [Act.put, List.setIfInBounds_toArray, List.set_cons_zero, List.set_cons_succ]
         refine wpAnyH_ready (rs := [1, 5]) (by kernel_rfl) (by simp) ?_
         refine AllReadyH.cons rfl (fun K hK => ?_) (AllReadyH.cons rfl (fun K hK => ?_) AllReadyH.nil)
         · go_simp
           refine hK.out _ _ trivial (fun _ => ?_)
           clear hK K
           try simp only [Act.put, List.setIfInBounds_toArray, List.set_cons_zero, List.set_cons_succ]
           refine wpAnyH_ready (rs := [5]) (by kernel_rfl) (by simp) ?_
           refine AllReadyH.cons rfl (fun K hK => ?_) AllReadyH.nil
           go_simp
           refine hK.out _ _ trivial (fun _ => ?_)
           clear hK K
           try simp only [Act.put, List.setIfInBounds_toArray, List.set_cons_zero, List.set_cons_succ]
           refine wpAnyH_ready (rs := [6]) (by kernel_rfl) (by simp) ?_
           refine appendR_ready rfl (by kernel_rfl) _ _ _ _ rfl _ _ rfl rfl _ _ HR3.out trivial ?_
           try simp only [Act.put, List.setIfInBounds_toArray, List.set_cons_zero, List.set_cons_succ]
           refine ty9 7 88 (v := (.pointer (some ⟨n0, 4, none⟩))) rfl rfl ?_ trivial ?_
           · intro w hSw
             go_simp
           simp only [Act.put, List.setIfInBounds_toArray, List.set_cons_zero, List.set_cons_succ]
           refine wpAnyH_ready (rs := [8]) (by kernel_rfl) (by simp) ?_
           refine AllReadyH.cons rfl (fun K hK => ?_) AllReadyH.nil
           go_simp
           refine hK.out _ _ trivial (fun _ => ?_)
           clear hK K
           try simp only [Act.put, List.setIfInBounds_toArray, List.set_cons_zero, List.set_cons_succ]
           refine wpAnyH_done (by kernel_rfl) ?_ _
           go_wp2
           go_roundg (cn - (k + 1) + 1)
           case measure => omega
           case rel => exact ⟨k + 1, by go_num, by omega, Lib.hid ⟨_, _, _, HK3.out⟩, Nat.le_refl _⟩
         · go_simp
           refine hK.out _ _ trivial (fun _ => ?_)
           clear hK K
           try simp only [Act.put, List.setIfInBounds_toArray, List.set_cons_zero, List.set_cons_succ]
           refine wpAnyH_ready (rs := [1]) (by kernel_rfl) (by simp) ?_
           refine AllReadyH.cons rfl (fun K hK => ?_) AllReadyH.nil
           go_simp
           refine hK.out _ _ trivial (fun _ => ?_)
           clear hK K
           try simp only [Act.put, List.setIfInBounds_toArray, List.set_cons_zero, List.set_cons_succ]
           refine wpAnyH_ready (rs := [6]) (by kernel_rfl) (by simp) ?_
           refine appendR_ready rfl (by kernel_rfl) _ _ _ _ rfl _ _ rfl rfl _ _ HR3.out trivial ?_
           try simp only [Act.put, List.setIfInBounds_toArray, List.set_cons_zero, List.set_cons_succ]
           refine ty9 7 88 (v := (.pointer (some ⟨n0, 4, none⟩))) rfl rfl ?_ trivial ?_
           · intro w hSw
             go_simp
           simp only [Act.put, List.setIfInBounds_toArray, List.set_cons_zero, List.set_cons_succ]
           refine wpAnyH_ready (rs := [8]) (by kernel_rfl) (by simp) ?_
           refine AllReadyH.cons rfl (fun K hK => ?_) AllReadyH.nil
           go_simp
           refine hK.out _ _ trivial (fun _ => ?_)
           clear hK K
           try simp only [Act.put, List.setIfInBounds_toArray, List.set_cons_zero, List.set_cons_succ]
           refine wpAnyH_done (by kernel_rfl) ?_ _
           go_wp2
           go_roundg (cn - (k + 1) + 1)
           case measure => omega
           case rel => exact ⟨k + 1, by go_num, by omega, Lib.hid ⟨_, _, _, HK3.out⟩, Nat.le_refl _⟩
     · obtain rfl : cn = k := by omega
       have hw6 : Below wo.heap.size wo w6 := (Below.refl _ wo).drew.trans HX6.out.2.2.1
       obtain ⟨own3, q1, q2, q3⟩ := twin_end HH.out HR.out HT.out HP.out hw6 (HX5.out.1.below HX6.out.2.2.2) HX5.out.2.1 HX6.out.1 (fun i hi => by have h1 := HX6.out.2.1 i hi; have h2 := HX5.out.2.2.size; have h3 : wo.drew.heap.size = wo.heap.size := rfl; omega) (fun i hi hm => by have h1 := HX5.out.1.lt' i hi; have h2 := HX6.out.2.1 i hm; omega) HC9.out ⟨hT.chg, hT.lt, hT.box, hT.line, hT.new, hT.chs⟩
       have HEND := Lib.hid (And.intro q1 (And.intro q2 q3))
       clear q1 q2 q3 hT HI hw6
       go_wp2
       exact bodyPost_ret (v := .pointer (some ⟨n0, 0, none⟩)) (by simp [results, Tryz.results18, go_sem]) rfl ⟨n0, own3, rfl, HEND.out⟩
end
end
end Go.Proofs.YtdjnebgjdekmaaaGreatDoor
