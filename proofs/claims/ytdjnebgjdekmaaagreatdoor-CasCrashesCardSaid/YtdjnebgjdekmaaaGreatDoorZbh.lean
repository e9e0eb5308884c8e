/- Slices of bytes: where their block stays, and out of a line of bytes. -/
import Derived.Test.YtdjnebgjdekmaaaGreatDoorZbg
import Derived.Test.YtdjnebgjdekmaaaGreatDoorZbf
import Derived.Test.YtdjnebgjdekmaaaGreatDoorZbe
import Derived.Test.YtdjnebgjdekmaaaGreatDoorZag
import Derived.Sort.QuietIn
import Derived.Test.YtdjnebgjdekmaaaGreatDoorZav
set_option linter.unusedVariables false
set_option maxRecDepth 100000
namespace Go.Proofs.YtdjnebgjdekmaaaGreatDoor
section
open Go.RowKit Go.Shelf
theorem RowZ.blk {w V : World} {A : Option Addr} {n : Nat} {zs : List Int} (h : RowZ w A n zs) (hz : w.heap.size ≤ V.heap.size) (hs : 0 < n → ∀ b off, A = some ⟨b, off, none⟩ → b < w.heap.size → V.heap[b]? = w.heap[b]?) : RowZ V A n zs := by
 refine ⟨h.1, h.2.1, fun hn => ?_⟩
 obtain ⟨b, off, e, hlt, hcc⟩ := h.2.2 hn
 exact ⟨b, off, e, by omega, fun i hi => (World.cell?_of_block (w := w) (a := ⟨b, off + i, none⟩) (hs hn b off e hlt)).trans (hcc i hi)⟩
theorem SLine.toRowZ {w : World} {A : Option Addr} {n c : Nat} {zs : List Int} (h : SLine 1 w A n c (cellsZ zs)) (hz : ∀ z ∈ zs, 0 ≤ z ∧ z ≤ 255) : RowZ w A n zs := by
 have hl := h.1
 rw [cellsZ_length] at hl
 refine ⟨by omega, hz, fun h0 => ?_⟩
 obtain ⟨g, off, e, hg, hc, _⟩ := h.at h0
 refine ⟨g, off, e, hg, fun i hi => ?_⟩
 rw [hc i (by omega)]
 unfold cellsZ
 rw [List.getElem?_map, List.getElem?_eq_getElem (by omega), List.getD_eq_getElem?_getD, List.getElem?_eq_getElem (by omega)]
 rfl
end
section
open Go.RowKit Go.Maps
structure Fct (r : RD) : Prop where
 rn : Rises ltS r.now
 rs : Rises ltS r.sure
 nn : ∀ p ∈ r.now, ∃ k : Nat, p.2 = numV k ∧ k < r.files.length
 ns : ∀ p ∈ r.sure, ∃ k : Nat, p.2 = numV k ∧ k < r.files.length
 two : ∀ c ∈ r.chs, c.length ≤ 2
 data : ∀ p ∈ r.now, (r.file (numOf p.2)).data.length ≤ 1048576
 used : r.used ≤ 1000000000000
 quota : 0 ≤ r.quota ∧ r.quota ≤ 9223372036854775807
 stop : r.stop ≤ 9223372036854775807
section
variable {r : RD}
theorem Fct.len (F : Fct r) (hs : r.size ≤ 80000) : r.now.length ≤ 80000 := by
 have h := (layAll_len r.chs r.sure F.rs F.two).2
 unfold RD.size at hs
 unfold RD.now
 omega
end
theorem IsD.fct {w : World} {d : Nat} {own : Nat → Nat} {r : RD} (h : IsD w d own r) : Fct r ∧ ∀ x, hasP ltS r.now x = true → ∀ u ∈ (r.get x).data, u.oneCell' = true := by
 have hsh := h.shape
 have h0 := h
 obtain ⟨hF, b, F, fn, fc, RA, rn, rc, SA, sn, sc, C, cn, cc, fs, ps, ss, css, chl, nm, dt, su, H, R⟩ := h
 have hnum : ∀ l : List (ByteArray × Value), (∀ p ∈ l, p.2 ∈ fs) → ∀ p ∈ mapT nm l, ∃ k : Nat, p.2 = numV k ∧ k < r.files.length := by
  intro l hl p hp
  obtain ⟨q, hq, rfl⟩ := List.mem_map.1 hp
  have hm := hl q hq
  exact ⟨nm q.2, tag_some _ _ (H.ne _ hm), (List.getElem?_eq_some_iff.1 (R.files _ hm)).1⟩
 refine ⟨⟨hsh.2.2, hsh.1, ?_, ?_, hsh.2.1, ?_, ?_, by rw [← R.quota]; exact H.quota, by have h1 := R.stop; have h2 := H.ahead; omega⟩, fun x hx u hu => ?_⟩
 · rw [H.rnow R]
   exact hnum ps H.nin
 · rw [R.sure]
   exact hnum ss H.sin
 · intro p hp
   rw [H.rnow R] at hp
   obtain ⟨q, hq, rfl⟩ := List.mem_map.1 hp
   have hm := H.nin q hq
   show (r.file (numOf (tag nm q.2))).data.length ≤ _
   obtain ⟨f, A, n, c, e, h7, hfa, hsl, hoA, hn, _⟩ := H.file _ hm
   have hlen := hsl.1
   unfold RD.file
   rw [tag_some _ _ (H.ne _ hm), numOf_numV, List.getD_eq_getElem?_getD, R.files _ hm]
   show (dt q.2).length ≤ _
   omega
 · rw [H.rused R]
   exact H.usedLe
 · obtain ⟨z, _, _, e⟩ := (h0.bytes x hx).1 u hu
   rw [e]
   rfl
section
variable {r : RD}
theorem size_create (x : ByteArray) : (r.create x).2.size ≤ r.size + 4 := by
 have hp := r.powered_size
 have hc := r.powered_calls
 unfold RD.create
 split
 · split
   · show r.powered.size ≤ _; omega
   · unfold RD.size at *
     show r.powered.calls + (r.files ++ [_]).length + r.powered.sure.length + 2 * (r.chs ++ [_]).length ≤ _
     rw [List.length_append, List.length_append, r.powered_sure]
     simp only [List.length_cons, List.length_nil]
     omega
 · show r.powered.size ≤ _; omega
theorem size_append (x : ByteArray) (bs : List Value) : (r.append x bs).2.size ≤ r.size + 4 := by
 have hp := r.powered_size
 have hc := r.powered_calls
 unfold RD.append
 split
 · split
   · show r.powered.size ≤ _; omega
   · split
     · show r.powered.size ≤ _; omega
     · unfold RD.size at *
       show r.powered.calls + (r.files.set _ _).length + r.powered.sure.length + 2 * r.powered.chs.length ≤ _
       rw [List.length_set, r.powered_sure, r.powered_chs]
       omega
 · show r.powered.size ≤ _; omega
theorem size_sync (x : ByteArray) : (r.sync x).2.size ≤ r.size + 4 := by
 have hp := r.powered_size
 have hc := r.powered_calls
 unfold RD.sync
 split
 · unfold RD.size at *
   show r.powered.calls + (r.files.set _ _).length + r.powered.sure.length + 2 * r.powered.chs.length ≤ _
   rw [List.length_set, r.powered_sure, r.powered_chs]
   omega
 · show r.powered.size ≤ _; omega
theorem size_syncDir (F : Fct r) : r.syncDir.2.size ≤ r.size + 4 := by
 have hp := r.powered_size
 have hc := r.powered_calls
 unfold RD.syncDir
 split
 · have h := (layAll_len r.chs r.sure F.rs F.two).2
   unfold RD.size at *
   show r.powered.calls + r.powered.files.length + r.now.length + 2 * 0 ≤ _
   rw [r.powered_files]
   unfold RD.now
   omega
 · show r.powered.size ≤ _; omega
theorem size_rename (x y : ByteArray) : (r.rename x y).2.size ≤ r.size + 4 := by
 have hp := r.powered_size
 have hc := r.powered_calls
 unfold RD.rename
 split
 · unfold RD.size at *
   show r.powered.calls + r.powered.files.length + r.powered.sure.length + 2 * (r.chs ++ [_]).length ≤ _
   rw [List.length_append, r.powered_sure, r.powered_files]
   simp only [List.length_cons, List.length_nil]
   omega
 · show r.powered.size ≤ _; omega
theorem size_remove (x : ByteArray) : (r.remove x).2.size ≤ r.size + 4 := by
 have hp := r.powered_size
 have hc := r.powered_calls
 unfold RD.remove
 split
 · unfold RD.size at *
   show r.powered.calls + r.powered.files.length + r.powered.sure.length + 2 * (r.chs ++ [_]).length ≤ _
   rw [List.length_append, r.powered_sure, r.powered_files]
   simp only [List.length_cons, List.length_nil]
   omega
 · show r.powered.size ≤ _; omega
end
end
section
attribute [local go_sem] Oper.semAt_some
open Go.RowKit Go.Shelf
theorem equal_any (w : World) (A B : Option Addr) (n c c2 : Nat) (zs : List Int) (h1 : RowZ w A n zs) (h2 : RowZ w B n zs) : Calls Tryz.prog 47 #[.slice A n c, .slice B n c2] w fun e w' => e = .returned (.bool true) ∧ w = w' := by
 have k1 := conv_row h1 c
 have k2 := conv_row h2 c2
 clear h1 h2
 generalize strOfNums zs = s at *
 go_enter Tryz.func47, Tryz.ntmps47
 go_wp2
 go_ret
 exact ⟨rfl, rfl⟩
theorem results_same (tmps : Array Value) (w : World) (g : Nat) (b : Bool) (hp : tmps.getD 4 undef = .pointer (some ⟨g, 0, none⟩)) (hg : w.cell? ⟨g, 0, none⟩ = some (.bool b)) : (results Tryz.f19 tmps).run Tryz.prog w = .ok (.bool b) w := by
 have hp' : tmps[4]?.getD undef = .pointer (some ⟨g, 0, none⟩) := by simpa using hp
 simp [results, Tryz.results19, hp', asAddr, go_sem, hg]
theorem two_new (w : World) (x y : Obj) : ((w.alloc x).alloc y).heap[w.heap.size + 1]? = some y ∧ ((w.alloc x).alloc y).heap[w.heap.size]? = some x ∧ Below w.heap.size w ((w.alloc x).alloc y) := by
 refine ⟨?_, ?_, ((Below.refl _ w).alloc (Nat.le_refl _) _).alloc (by simp) _⟩
 · have h := heap_alloc_new (w.alloc x) y
   rw [World.size_alloc] at h
   exact h
 · exact (Below.heap_alloc _ _ _ (by simp)).trans (heap_alloc_new w x)
theorem noChg_steady (w0 : World) : SteadyIt w0.heap.size (fun W => Chg [] w0 W) := fun W W' h hc => h.andThen hc (fun k hk => by simp only [List.mem_cons, List.not_mem_nil, or_false] at hk; omega)
def TwoShow (w : World) (qs : List (ByteArray × Value)) (p : ByteArray × Value) : Prop :=
 ∃ (f g num num2 : Nat) (A B : Option Addr) (n c c2 sure sure2 : Nat) (zs : List Int), p.2 = .pointer (some ⟨f, 0, none⟩) ∧ lookP ltS qs p.1 = some (.pointer (some ⟨g, 0, none⟩)) ∧ FileAt w f num A n c sure ∧ FileAt w g num2 B n c2 sure2 ∧ RowZ w A n zs ∧ RowZ w B n zs
set_option maxHeartbeats 6400000 in
theorem dsame_any (w : World) (d e : Nat) (A B : Option Addr) (n c c2 : Nat) (ps qs : List (ByteArray × Value)) (h : RowAtS w d 2 A n c ps) (h2 : RowAtS w e 2 B n c2 qs) (hn : n ≤ 90000) (hsh : ∀ p ∈ ps, TwoShow w qs p) :
 Calls Tryz.prog 19 #[.pointer (some ⟨d, 0, none⟩), .pointer (some ⟨e, 0, none⟩)] w fun ed w' => ed = .returned (.bool true) ∧ Below w.heap.size w w' := by
 have HH := Lib.hid h
 have HH2 := Lib.hid h2
 have HSH := Lib.hid hsh
 have hds := World.block_lt_of_cell? w _ h.cell
 have hes := World.block_lt_of_cell? w _ h2.cell
 clear h h2 hsh
 refine (callsIn_wide (n := 8)).1 ?_
 refine callsIn_of_wp_marks Tryz.func19 rfl trivial ?_ rfl
 simp only [Tryz.ntmps19, List.size_toArray, List.length_cons, List.length_nil, Nat.reduceAdd, Nat.reduceSub, Array.replicate_succ, Array.replicate_zero, List.push_toArray, List.append_toArray, List.nil_append, List.cons_append]
 refine wpIn_wide.2 ?_
 obtain ⟨hh, hhe⟩ : ∃ hh, w.heap.size = hh := ⟨_, rfl⟩
 obtain ⟨W2, hW2⟩ : ∃ W2, (w.alloc (.cells #[.pointer (some ⟨e, 0, none⟩)] 28)).alloc (.cells #[.bool false] 4) = W2 := ⟨_, rfl⟩
 have hB2 : Below w.heap.size w W2 := by rw [← hW2]; exact (two_new w _ _).2.2
 have hs2 : W2.heap.size = hh + 2 := by rw [← hW2, ← hhe]; simp
 have k0 : W2.heap[hh]? = some (.cells #[.pointer (some ⟨e, 0, none⟩)] 28 (0, 0)) := by rw [← hW2, ← hhe]; exact (two_new w _ _).2.1
 have k1 : W2.heap[hh + 1]? = some (.cells #[.bool false] 4 (0, 0)) := by rw [← hW2, ← hhe]; exact (two_new w _ _).1
 have y0 := cell_of_one k0
 have y1 := free_of_one k1
 have HK0 := Lib.hid k0
 have HK1 := Lib.hid k1
 have HB2 := Lib.hid hB2
 have HHE := Lib.hid hhe
 have HS2 := Lib.hid hs2
 have HLA : Hid (∀ k, Calls Tryz.prog 44 #[.pointer (some ⟨d, 2, none⟩)] (W2.drewN k) fun e w' => e = .returned (.int .i64 (n : Int)) ∧ w' = W2.drewN k) := Lib.hid (fun k => (rlen_S (W2.drewN k) d 2 A n c ps ⟨(hB2.cell (p := ⟨d, 2, none⟩) hds).trans HH.out.cell, HH.out.row.below (hB2.trans (below_drewN W2 k |>.mono hB2.size))⟩).mono fun e w' h => ⟨h.1, h.2.symm⟩)
 have HLB : Hid (∀ k, Calls Tryz.prog 44 #[.pointer (some ⟨e, 2, none⟩)] (W2.drewN k) fun e w' => e = .returned (.int .i64 (n : Int)) ∧ w' = W2.drewN k) := Lib.hid (fun k => (rlen_S (W2.drewN k) e 2 B n c2 qs ⟨(hB2.cell (p := ⟨e, 2, none⟩) hes).trans HH2.out.cell, HH2.out.row.below (hB2.trans (below_drewN W2 k |>.mono hB2.size))⟩).mono fun e w' h => ⟨h.1, h.2.symm⟩)
 clear k0 k1 hB2 hs2
 go_wp2_with fail
 go_big_quiet ((first | (go_at_call 44; with_reducible exact Calls.quiet_of_same (HLA.out _)) | (go_at_call 44; with_reducible exact Calls.quiet_of_same (HLB.out _))))
 go_wp2_with fail
 obtain ⟨Wq, hWq⟩ : ∃ Wq, W2.drewN nq = Wq := ⟨_, rfl⟩
 have hBq : Below W2.heap.size W2 Wq := by rw [← hWq]; exact below_drewN W2 nq
 have hsq : Wq.heap.size = hh + 2 := by rw [← hWq]; exact HS2.out
 rw [hWq]
 refine (reach_S _ _).mono ?_
 rintro e9 w9 ⟨rfl, rfl⟩
 obtain ⟨W3, hW3⟩ : ∃ W3, Wq.alloc (.cells #[.pointer (some ⟨d, 2, none⟩)] 95) = W3 := ⟨_, rfl⟩
 have hB3 : Below Wq.heap.size Wq W3 := by rw [← hW3]; exact (Below.refl _ Wq).alloc (Nat.le_refl _) _
 have hs3 : W3.heap.size = hh + 3 := by rw [← hW3]; simp [hsq]
 have hbx : W3.heap[hh + 2]? = some (.cells #[.pointer (some ⟨d, 2, none⟩)] 95 (0, 0)) := by
  have := heap_alloc_new Wq (.cells #[.pointer (some ⟨d, 2, none⟩)] 95 (0, 0))
  rw [hsq, hW3] at this
  exact this
 rw [hsq, hW3]
 have hB23 : Below W2.heap.size W2 W3 := hBq.trans (hB3.mono hBq.size)
 have HBX := Lib.hid hbx
 have HB3 : Hid (Below w.heap.size w W3) := Lib.hid (HB2.out.trans (hB23.mono (by have := HB2.out.size; omega)))
 have HJ0 := Lib.hid ((hB23.block hh (by have := HS2.out; omega)).trans HK0.out)
 have HJ1 := Lib.hid ((hB23.block (hh + 1) (by have := HS2.out; omega)).trans HK1.out)
 have hq3 : d < hh := by have := HHE.out; omega
 have hq4 : e < hh := by have := HHE.out; omega
 clear hW2 hW3 hbx hB3 hBq hB23 HK0 HK1 HLA HLB y0 y1 hWq
 have HIT : Hid (∀ W1, Below W3.heap.size W3 W1 → IterOk Tryz.prog 74 #[.pointer (some ⟨hh + 2, 0, none⟩)] arS 2 ps W1) := Lib.hid (fun W1 hb => by
  have hbw := HB3.out.trans (hb.mono (by have := HHE.out; omega))
  exact each1_S W1 (hh + 2) (some ⟨d, 2, none⟩) A n c ps (cell_of_one ((hb.block _ (by omega)).trans HBX.out)) (.inr ⟨d, 2, rfl, (hbw.cell (p := ⟨d, 2, none⟩) hds).trans HH.out.cell, HH.out.row.below hbw⟩) (by omega) (fun p hp => by obtain ⟨f, _, _, _, _, _, _, _, _, _, _, _, e1, _⟩ := HSH.out p hp; exact ⟨_, e1⟩))
 go_wp2_with fail
 refine (wpIn_wide (n := 8)).1 ?_
 refine range_it 8 2 (by decide) 74 #[.pointer (some ⟨hh + 2, 0, none⟩)] arS rfl eachS_enters (fun _ => rfl) ps HIT.out (fun C pre W => Chg [] W3 W) (fun _ _ _ _ => False) (fun C xs => noChg_steady W3) (fun _ _ _ _ _ h _ => h) ?h0 ?hab ?hdone (fun _ _ _ _ _ h _ => h.elim)
 case h0 =>
  intro C W1 hC hb1
  exact Chg.of_below hb1
 case hab =>
  apply Exists.intro
  refine ⟨?hassign, ?hbody⟩
  case hassign =>
   intro x W K hK
   unfold arS encS
   gi_wp2
   exact hK
  case hbody =>
   intro C pre x Wr hC hCW hD1 hI hpre
   obtain ⟨x, v⟩ := x
   have hmem : (x, v) ∈ ps := hpre.subset (by simp)
   obtain ⟨f, g, num, num2, fA, gA, fnn, fc, gc, fsu, gsu, zs, hv, hl, hf, hg, hr1, hr2⟩ := HSH.out _ hmem
   simp only at hv hl
   subst hv
   have hbr : Below w.heap.size w Wr := HB3.out.trans (hI.toBelow (fun k hk => by cases hk) (by have := HB3.out.size; omega))
   have c0 : Wr.cell? ⟨hh, 0, none⟩ = some (.pointer (some ⟨e, 0, none⟩)) := cell_of_one ((hI.same hh (by omega) (by simp)).trans HJ0.out)
   have hhas : hasP ltS qs x = true := by unfold hasP; rw [hl]; rfl
   have hget := rget_S Wr e 2 B n c2 qs ⟨(hbr.cell (p := ⟨e, 2, none⟩) hes).trans HH2.out.cell, HH2.out.row.below hbr⟩ x (by omega)
   rw [hhas, hl] at hget
   simp only [Option.getD_some] at hget
   have HGET := Lib.hid hget
   have HFS : Hid (∀ V, Below Wr.heap.size Wr V → V.cell? ⟨f, 1, none⟩ = some (.slice fA fnn fc) ∧ V.cell? ⟨g, 1, none⟩ = some (.slice gA fnn gc) ∧ ∀ k, Calls Tryz.prog 47 #[.slice fA fnn fc, .slice gA fnn gc] (V.drewN k) fun e w' => e = .returned (.bool true) ∧ w' = V.drewN k) := Lib.hid (fun V hV => by
    have hb := hbr.trans (hV.mono hbr.size)
    refine ⟨(hf.same (hb.block f (lt_of_block hf))).c1, (hg.same (hb.block g (lt_of_block hg))).c1, fun k => (equal_any (V.drewN k) fA gA fnn fc gc zs ?_ ?_).mono fun e w' h => ⟨h.1, h.2.symm⟩⟩
    · exact hr1.below (hb.trans ((below_drewN V k).mono hb.size))
    · exact hr2.below (hb.trans ((below_drewN V k).mono hb.size)))
   have HSTEP : Hid (∀ V k, Below Wr.heap.size Wr V → KeepsIt W3.heap.size C Wr (V.drewN k) ∧ Chg [] W3 (V.drewN k)) := Lib.hid (fun V k hV => by
    have hc : Chg [] Wr (V.drewN k) := Chg.of_below (hV.trans ((below_drewN V k).mono hV.size))
    exact ⟨hc.keepsIt hD1 hCW (by simp) (by simp) (by simp), hI.trans hc⟩)
   clear hmem hl hf hg hr1 hr2 hhas hget hI hpre hbr
   gi_wp2_with (refine ⟨trivial, ?_⟩; gi_at_call 46; refine (CallsIn.inRound _ (callsIn_wide.2 HGET.out)).mono ?_; rintro e8 Wg ⟨rfl, hbg⟩; have HBG := Lib.hid hbg; have HF1 := Lib.hid (HFS.out Wg hbg); clear hbg)
   have k1 := HF1.out.1
   have k2 := HF1.out.2.1
   have HQ1 := Lib.hid (HF1.out.2.2 1)
   gi_region_with (refine ⟨trivial, ?_⟩; gi_at_call 47; refine (CallsIn.inRound _ (callsIn_wide.2 HQ1.out)).mono ?_; rintro e7 Wh ⟨rfl, rfl⟩)
   all_goals
    try gi_wp2
    exact HSTEP.out Wg _ HBG.out
 case hdone =>
  intro C Wl hI hK
  have hr1 := (hI.same (hh + 1) (by omega) (by simp)).trans HJ1.out
  have y1 := cell_of_one hr1
  have y1' := free_of_one hr1
  obtain ⟨Wo, hWo⟩ : ∃ Wo, Wl.setCell ⟨hh + 1, 0, none⟩ (.bool true) = Wo := ⟨_, rfl⟩
  have HE1 : Hid (Wo.heap[hh + 1]? = some (.cells #[.bool true] 4 (0, 0))) := by rw [← hWo]; exact Lib.hid (one_setCell hr1)
  have hcw : Chg [hh + 1] Wl Wo := by rw [← hWo]; exact (Chg.refl _ Wl).setCell (hh + 1) 0 _ (.inl (by simp))
  have HE2 : Hid (Wo.heap[W3.heap.size]? = some (.deferred (some []))) := Lib.hid ((hcw.same _ (lt_of_block hK) (by simp only [List.mem_cons, List.not_mem_nil, or_false]; omega)).trans hK)
  have HE4 : Hid (Below hh W3 Wo) := Lib.hid ((hI.toBelow (fun k hk => by cases hk) (by omega)).trans (hcw.toBelow (fun k hk => by simp only [List.mem_cons, List.not_mem_nil, or_false] at hk; omega) (by have := hI.size; omega)))
  clear hI hK hr1 hcw
  go_wp2_with fail
  have hcp := chg_putObjIt Wo W3.heap.size (.deferred none)
  have hsz : hh + 3 ≤ Wo.heap.size := by have := HE4.out.size; omega
  refine ⟨by simp, .inl ⟨_, _, rfl, run_takeDeferred HE2.out, ?_⟩⟩
  refine ⟨_, results_same _ _ (hh + 1) true rfl (cell_of_one ((World.putObj_heap_other (by omega)).trans HE1.out)), rfl, ?_⟩
  rw [HHE.out]
  have h3 := HB3.out
  rw [HHE.out] at h3
  exact h3.trans (HE4.out.trans (hcp.toBelow (fun k hk => by simp only [List.mem_cons, List.not_mem_nil, or_false] at hk; omega) (by omega)))
end
section
open Go.RowKit Go.Maps Go.Shelf
def Puts (r : RD) : Prop := ∀ c ∈ r.chs, ∀ p ∈ c, p.2 = .pointer none ∨ ∃ k : Nat, p.2 = numV k ∧ k < r.files.length
theorem layP_nums {n : Nat} : ∀ (cs ps : List (ByteArray × Value)), (∀ p ∈ ps, ∃ k : Nat, p.2 = numV k ∧ k < n) → (∀ p ∈ cs, p.2 = .pointer none ∨ ∃ k : Nat, p.2 = numV k ∧ k < n) → ∀ p ∈ layP ps cs, ∃ k : Nat, p.2 = numV k ∧ k < n := by
 intro cs
 induction cs with
 | nil => exact fun ps h _ => h
 | cons c l ih =>
  intro ps h hc
  refine ih (layOne ps c) (fun p hp => ?_) (fun p hp => hc p (List.mem_cons_of_mem _ hp))
  by_cases e : c.2 = .pointer none
  · have e2 : layOne ps c = dropP ltS ps c.1 := by obtain ⟨a, b⟩ := c; dsimp only at e; subst e; rfl
    rw [e2] at hp
    exact h p ((mem_dropP orders_S).1 hp).1
  · rw [layOne_put _ _ e] at hp
    rcases (mem_putP orders_S).1 hp with q | q
    · rw [q]; exact (hc c (List.mem_cons_self ..)).resolve_left e
    · exact h p q.1
theorem layAll_nums {n : Nat} : ∀ (chl : List (List (ByteArray × Value))) (ps : List (ByteArray × Value)), (∀ p ∈ ps, ∃ k : Nat, p.2 = numV k ∧ k < n) → (∀ c ∈ chl, ∀ p ∈ c, p.2 = .pointer none ∨ ∃ k : Nat, p.2 = numV k ∧ k < n) → ∀ p ∈ layAll ps chl, ∃ k : Nat, p.2 = numV k ∧ k < n := by
 intro chl
 induction chl with
 | nil => exact fun ps h _ => h
 | cons c l ih => exact fun ps h hc => ih (layP ps c) (layP_nums c ps h (hc c (List.mem_cons_self ..))) (fun c' h' => hc c' (List.mem_cons_of_mem _ h'))
theorem rank_at : ∀ (l : List Nat) (k : Nat), l.Pairwise (· < ·) → k ∈ l → l[(l.filter fun u => decide (u < k)).length]? = some k := by
 intro l
 induction l with
 | nil => intro k _ h; cases h
 | cons a l ih =>
  intro k hp hk
  obtain ⟨h1, h2⟩ := List.pairwise_cons.1 hp
  rcases List.mem_cons.1 hk with e | e
  · subst e
    have hz : (k :: l).filter (fun u => decide (u < k)) = [] := List.filter_eq_nil_iff.2 fun u hu => by
     rcases List.mem_cons.1 hu with q | q
     · rw [q]; simp
     · have := h1 u q; simp; omega
    rw [hz]
    rfl
  · have ha := h1 k e
    rw [List.filter_cons_of_pos (by simp; exact ha), List.length_cons, List.getElem?_cons_succ]
    exact ih k h2 e
theorem look_map (g : Value → Value) (x : ByteArray) (ps : List (ByteArray × Value)) : lookP ltS (ps.map fun p => (p.1, g p.2)) x = (lookP ltS ps x).map g := by
 unfold lookP
 rw [List.find?_map]
 simp only [Option.map_map]
 rfl
theorem cellsZ_from : ∀ l : List Value, (∀ u ∈ l, ∃ z : Int, 0 ≤ z ∧ z < 256 ∧ u = .int .u8 z) → ∃ zs : List Int, l = cellsZ zs ∧ ∀ z ∈ zs, 0 ≤ z ∧ z ≤ 255 := by
 intro l
 induction l with
 | nil => intro _; exact ⟨[], rfl, fun z hz => by cases hz⟩
 | cons u l ih =>
  intro h
  obtain ⟨zs, h1, h2⟩ := ih fun v hv => h v (by simp [hv])
  obtain ⟨z, z0, z1, rfl⟩ := h u (by simp)
  refine ⟨z :: zs, by rw [h1]; rfl, fun y hy => ?_⟩
  rcases List.mem_cons.1 hy with rfl | hy
  · omega
  · exact h2 y hy
theorem IsD.puts {w : World} {d : Nat} {own : Nat → Nat} {r : RD} (h : IsD w d own r) : Puts r := by
 obtain ⟨hF, b, F, fn, fc, RA, rn, rc, SA, sn, sc, C, cn, cc, fs, ps, ss, css, chl, nm, dt, su, H, R⟩ := h
 intro c hc p hp
 rw [R.chs] at hc
 obtain ⟨c', hc', rfl⟩ := List.mem_map.1 hc
 obtain ⟨q, hq, rfl⟩ := List.mem_map.1 hp
 rcases H.cin c' hc' q hq with e | e
 · exact .inl (by show tag nm q.2 = _; rw [e]; rfl)
 · exact .inr ⟨nm q.2, tag_some _ _ (H.ne _ e), (List.getElem?_eq_some_iff.1 (R.files _ e)).1⟩
section
variable {r : RD}
theorem lost_get (dir : Int) (zs : List Int) (hr : Rises ltS (r.left dir)) {x : ByteArray} {i : Nat} (hl : lookP ltS (r.left dir) x = some (numV i)) (hi : i < r.files.length) : hasP ltS (r.crash dir zs).now x = true ∧ (r.crash dir zs).get x = RD.cutF zs i (r.file i) := by
 have hmem := (look_some orders_S hr).1 hl
 have hk : i ∈ r.keep dir := by
  unfold RD.keep
  rw [List.mem_filter, List.mem_range, decide_eq_true_eq]
  exact ⟨hi, List.mem_map.2 ⟨_, hmem, numOf_numV i⟩⟩
 have hnow : (r.crash dir zs).now = (r.left dir).map fun p => (p.1, numV ((r.keep dir).filter fun u => decide (u < numOf p.2)).length) := rfl
 have hl2 : lookP ltS (r.crash dir zs).now x = some (numV ((r.keep dir).filter fun u => decide (u < i)).length) := by
  rw [hnow, look_map (fun v => numV ((r.keep dir).filter fun u => decide (u < numOf v)).length), hl]
  show some (numV ((r.keep dir).filter fun u => decide (u < numOf (numV i))).length) = _
  rw [numOf_numV]
 have hp : (r.keep dir).Pairwise (· < ·) := by unfold RD.keep; exact List.pairwise_lt_range.filter _
 refine ⟨by unfold hasP; rw [hl2]; rfl, ?_⟩
 unfold RD.get RD.num
 rw [hl2, Option.getD_some, numOf_numV]
 show (r.crash dir zs).file _ = _
 unfold RD.file
 rw [List.getD_eq_getElem?_getD]
 have hfl : (r.crash dir zs).files = (r.keep dir).map fun i => RD.cutF zs i (r.file i) := rfl
 rw [hfl, List.getElem?_map, rank_at _ i hp hk]
 rfl
theorem has_crash (dir : Int) (zs : List Int) (x : ByteArray) : hasP ltS (r.crash dir zs).now x = hasP ltS (r.left dir) x := by
 have hnow : (r.crash dir zs).now = (r.left dir).map fun p => (p.1, numV ((r.keep dir).filter fun u => decide (u < numOf p.2)).length) := rfl
 unfold hasP
 rw [hnow, look_map (fun v => numV ((r.keep dir).filter fun u => decide (u < numOf v)).length), Option.isSome_map]
theorem left_rises (F : Fct r) (dir : Int) : Rises ltS (r.left dir) := (layAll_len _ _ F.rs (fun c hc => F.two c (List.mem_of_mem_take hc))).1
theorem left_numsB (F : Fct r) (P : Puts r) (dir : Int) : ∀ p ∈ r.left dir, ∃ k : Nat, p.2 = numV k ∧ k < r.files.length := layAll_nums _ _ F.ns (fun c hc => P c (List.mem_of_mem_take hc))
end
section
variable {w W : World} {d e : Nat} {own own' : Nat → Nat} {r r' : RD}
theorem IsD.clone (h : IsD w d own r) : Calls Tryz.prog 18 #[.pointer (some ⟨d, 0, none⟩)] w fun e w' => ∃ c own2, e = .returned (.pointer (some ⟨c, 0, none⟩)) ∧ (∀ i, i < w.heap.size → own2 i = 0) ∧ IsD w' c own2 r ∧ Below w.heap.size w w' := by
 obtain ⟨hF, b, F, fn, fc, RA, rn, rc, SA, sn, sc, C, cn, cc, fs, ps, ss, css, chl, nm, dt, su, H, R⟩ := h
 obtain ⟨files, made, now, sure, changes, quota, full, ahead, off, calls⟩ := b
 have e1 := H.files
 have e2 := H.now
 have e3 := H.sure
 have e4 := H.changes
 dsimp only at e1 e2 e3 e4
 subst e1 e2 e3 e4
 exact H.clone R
theorem IsD.same (h : IsD w d own r) (h' : IsD w e own' r') (hn : r.now.map (·.1) = r'.now.map (·.1)) (hd : ∀ x, hasP ltS r.now x = true → (r.get x).data = (r'.get x).data) :
 Calls Tryz.prog 19 #[.pointer (some ⟨d, 0, none⟩), .pointer (some ⟨e, 0, none⟩)] w fun ed w' => ed = .returned (.bool true) ∧ Below w.heap.size w w' := by
 have hF := h.fct.1
 have hF' := h'.fct.1
 have hb := h.bytes
 obtain ⟨_, b, F, fn, fc, RA, rn, rc, SA, sn, sc, C, cn, cc, fs, ps, ss, css, chl, nm, dt, su, H, R⟩ := h
 obtain ⟨_, b', F', fn', fc', RA', rn', rc', SA', sn', sc', C', cn', cc', fs', ps', ss', css', chl', nm', dt', su', H', R'⟩ := h'
 have hk : ps.map (·.1) = ps'.map (·.1) := by
  rw [H.rnow R, H'.rnow R'] at hn
  unfold mapT at hn
  rw [List.map_map, List.map_map] at hn
  exact hn
 have hlen : rn = rn' := by
  have h1 := H.nrow.len
  have h2 := H'.nrow.len
  have h3 := congrArg List.length hk
  rw [List.length_map, List.length_map] at h3
  omega
 subst hlen
 refine dsame_any w d e RA RA' rn rc rc' ps ps' H.nowAt.rowAt H'.nowAt.rowAt H.nowAt.len fun p hp => ?_
 obtain ⟨x, v⟩ := p
 have hlk : lookP ltS ps x = some v := (look_some orders_S H.nrow.rises).2 hp
 have hx : x ∈ ps'.map (·.1) := by rw [← hk]; exact List.mem_map.2 ⟨_, hp, rfl⟩
 obtain ⟨⟨x2, v'⟩, hp', ex⟩ := List.mem_map.1 hx
 dsimp only at ex
 subst ex
 have hlk' : lookP ltS ps' x2 = some v' := (look_some orders_S H'.nrow.rises).2 hp'
 have hm := H.nin _ hp
 have hm' := H'.nin _ hp'
 obtain ⟨f, A, n, c, ef, _, hfa, hsl, _, _, _⟩ := H.file v hm
 obtain ⟨g, A', n', c', eg, _, hfa', hsl', _, _, _⟩ := H'.file v' hm'
 have hhas : hasP ltS r.now x2 = true := by rw [H.rnow R, has_tag]; unfold hasP; rw [hlk]; rfl
 have hdat := hd x2 hhas
 rw [(H.rnum R x2 v hlk).2, (H'.rnum R' x2 v' hlk').2] at hdat
 dsimp only at hdat
 have hby := H.bytes v hm
 obtain ⟨zs, hzs, hz1⟩ := cellsZ_from _ hby
 have hnn : n = zs.length := by have h1 := hsl.1; rw [hzs, cellsZ_length] at h1; omega
 have hnn' : n' = zs.length := by have h1 := hsl'.1; rw [← hdat, hzs, cellsZ_length] at h1; omega
 subst hnn hnn'
 rw [hzs] at hsl
 rw [← hdat, hzs] at hsl'
 exact ⟨f, g, _, _, A, A', _, c, c', _, _, zs, ef, by rw [hlk', eg], hfa, hfa', hsl.toRowZ hz1, hsl'.toRowZ hz1⟩
end
end
section
attribute [local go_sem] Oper.semAt_some
open Go.RowKit Go.Shelf
theorem infoApiF : (Tryz.prog.info? 56).map (fun i => (i.zero, i.size, i.bytes)) = some (some (.agg #[.string ⟨#[]⟩, .slice none 0 0]), 2, 40) := by kernel_rfl
theorem appendIn_ready {F : Fence} {n : Nat} {P : Program} {md : Region.Mode} {ops : Array Oper} {Q : Exit → Act → World → Prop} {fuel : Nat} {listed : Array Bool} {a : Act} {w : World} {i : Nat} {o : Oper} (ho : ops[i]? = some o) (hw : Region.wanted o (yielded ops a.tmps) = true)
 (s x : Operand) (t tn : TypeId) (hop : o.op = Op.call { callee := Callee.builtin Builtin.append, args := #[s, x], argTypes := #[t, tn] }) (vs vx : Value) (hs : a.eval s = vs) (hx : a.eval x = vx)
 (v' : Value) (w' : World) (hr : (Builtin.append_ #[t, tn] o.type #[vs, vx]).run P w = .ok v' w') (h : wpAnyIn F n P md ops Q fuel (listed.setIfInBounds i true) (a.put o.dst v') w') : AllReadyIn F n P md ops Q fuel listed a w [i] := by
 refine AllReadyIn.cons ho (fun K' hK => ?_) AllReadyIn.nil
 rw [if_pos hw]
 unfold Oper.wpIn
 refine ⟨?_, ?_⟩
 · simp [Oper.about, hop, resolve, Target.leads, Sem.run_pure]
 · rw [Oper.semAt_plain F _ _ (by rw [hop]; intro c hc'; cases hc')]
   simp [execOp, hop, resolve, invoke, builtin, hs, hx, hr, Result.andThen]
   exact hK _ _ h
def FilesZ (w : World) (zf : Value → List Int) (ps : List (ByteArray × Value)) : Prop := ∀ p ∈ ps, ∃ (f num : Nat) (A : Option Addr) (n c sure : Nat), p.2 = .pointer (some ⟨f, 0, none⟩) ∧ FileAt w f num A n c sure ∧ SLine 1 w A n c (cellsZ (zf p.2)) ∧ n ≤ 10000000 ∧ ∀ z ∈ zf p.2, 0 ≤ z ∧ z ≤ 255
def HeldX (B : Nat) (L : List Nat) (zf : Value → List Int) (ps xs : List (ByteArray × Value)) (W : World) : Prop :=
 xs.length = ps.length ∧ ∀ (i : Nat) (p : ByteArray × Value), ps[i]? = some p → ∃ (A : Option Addr) (c : Nat), xs[i]? = some (p.1, .slice A (zf p.2).length c) ∧ RowZ W A (zf p.2).length (zf p.2) ∧ ((zf p.2).length ≤ c ∧ c ≤ 9223372036854775807) ∧ ∀ k ∈ blk A, B ≤ k ∧ k < W.heap.size ∧ k ∉ L
theorem rowZ_same {w w' : World} {A : Option Addr} {n : Nat} {zs : List Int} (h : RowZ w A n zs) (hz : w.heap.size ≤ w'.heap.size) (hs : ∀ k ∈ blk A, w'.heap[k]? = w.heap[k]?) : RowZ w' A n zs :=
 h.blk hz (fun hn b off e hlt => hs b (mem_blk.2 ⟨_, e, rfl⟩))
theorem HeldX.keep {B : Nat} {L L' : List Nat} {zf : Value → List Int} {ps xs : List (ByteArray × Value)} {W W' : World} (h : HeldX B L zf ps xs W) (hz : W.heap.size ≤ W'.heap.size) (hs : ∀ k, B ≤ k → k < W.heap.size → k ∉ L → W'.heap[k]? = W.heap[k]?) (hL : ∀ k ∈ L', k ∈ L ∨ W.heap.size ≤ k) : HeldX B L' zf ps xs W' := by
 refine ⟨h.1, fun i p hp => ?_⟩
 obtain ⟨A, c, e, hr, hcc, hb⟩ := h.2 i p hp
 exact ⟨A, c, e, rowZ_same hr hz (fun k hk => hs k (hb k hk).1 (hb k hk).2.1 (hb k hk).2.2), hcc, fun k hk => ⟨(hb k hk).1, by have := (hb k hk).2.1; omega, fun hm => by rcases hL k hm with q | q; exact (hb k hk).2.2 q; have := (hb k hk).2.1; omega⟩⟩
theorem HeldX.snoc {B : Nat} {L : List Nat} {zf : Value → List Int} {ps xs : List (ByteArray × Value)} {W : World} (h : HeldX B L zf ps xs W) (p : ByteArray × Value) (A : Option Addr) (c : Nat) (hr : RowZ W A (zf p.2).length (zf p.2)) (hcc : (zf p.2).length ≤ c ∧ c ≤ 9223372036854775807) (hb : ∀ k ∈ blk A, B ≤ k ∧ k < W.heap.size ∧ k ∉ L) : HeldX B L zf (ps ++ [p]) (xs ++ [(p.1, .slice A (zf p.2).length c)]) W := by
 refine ⟨by rw [List.length_append, List.length_append, h.1]; rfl, fun i q hq => ?_⟩
 rcases Nat.lt_or_ge i ps.length with hi | hi
 · rw [List.getElem?_append_left hi] at hq
   obtain ⟨A', c', e, h2, h3⟩ := h.2 i q hq
   exact ⟨A', c', by rw [List.getElem?_append_left (by rw [h.1]; exact hi)]; exact e, h2, h3⟩
 · have hi2 : i = ps.length := by
    have := (List.getElem?_eq_some_iff.1 hq).1
    simp at this
    omega
   subst hi2
   rw [List.getElem?_append_right (Nat.le_refl _), Nat.sub_self] at hq
   cases hq
   exact ⟨A, c, by rw [← h.1, List.getElem?_append_right (Nat.le_refl _), Nat.sub_self]; rfl, hr, hcc, hb⟩
structure HeldAt (w0 : World) (zf : Value → List Int) (b D C : Nat) (pre : List (ByteArray × Value)) (W : World) : Prop where
 chg : Chg [b] w0 W
 row : ∃ A c xs, W.heap[b]? = some (.cells #[.slice A pre.length c] 36 (0, 0)) ∧ SLine 2 W A pre.length c (cellsP encS xs) ∧ (∀ j ∈ blk A, D + 2 ≤ j ∧ j ≠ C) ∧ HeldX (D + 2) (b :: C :: blk A) zf pre xs W
theorem HeldAt.steady {w0 : World} {zf : Value → List Int} {b C : Nat} {pre : List (ByteArray × Value)} (hb : b < w0.heap.size) : SteadyIt w0.heap.size (HeldAt w0 zf b w0.heap.size C pre) := by
 rintro W W' ⟨h1, A, c, xs, h2, h3, h4, h5⟩ hc
 exact ⟨h1.andThen hc (fun k hk => by simp only [List.mem_cons, List.not_mem_nil, or_false] at hk; omega), A, c, xs, (hc.same b (lt_of_block h2) (by simp only [List.mem_cons, List.not_mem_nil, or_false]; omega)).trans h2, h3.chg hc (fun k hk hm => by have := (h4 k hk).1; simp only [List.mem_cons, List.not_mem_nil, or_false] at hm; omega), h4,
  h5.keep hc.size (fun k hk hl _ => hc.same k hl (by simp only [List.mem_cons, List.not_mem_nil, or_false]; omega)) (fun k hk => .inl hk)⟩
section
variable {F : Fence} {n : Nat} {P : Program} {md : Region.Mode} {ops : Array Oper} {Q : Exit → Act → World → Prop}
theorem rz (i : Nat) {o : Oper} {fuel : Nat} {listed : Array Bool} {a : Act} {w : World} (hr : Region.ready md ops listed = [i]) (ho : ops[i]? = some o)
 (h : ∀ K' : Act → World → Prop, (∀ a w, wpAnyIn F n P md ops Q fuel (listed.setIfInBounds i true) a w → K' a w) → if Region.wanted o (yielded ops a.tmps) = true then Oper.wpIn F n P o a w K' Q else (∀ f, o.about P w a.eval = some f → F.fn f) ∧ K' (a.put o.dst undef) w) : wpAnyIn F n P md ops Q (fuel + 1) listed a w :=
 wpAnyIn_ready hr (by simp) (AllReadyIn.cons ho h AllReadyIn.nil)
theorem r2 (i j : Nat) {o p : Oper} {fuel : Nat} {listed : Array Bool} {a : Act} {w : World} (hr : Region.ready md ops listed = [i, j]) (ho : ops[i]? = some o) (hp : ops[j]? = some p)
 (h : ∀ K' : Act → World → Prop, (∀ a w, wpAnyIn F n P md ops Q fuel (listed.setIfInBounds i true) a w → K' a w) → if Region.wanted o (yielded ops a.tmps) = true then Oper.wpIn F n P o a w K' Q else (∀ f, o.about P w a.eval = some f → F.fn f) ∧ K' (a.put o.dst undef) w)
 (h2 : ∀ K' : Act → World → Prop, (∀ a w, wpAnyIn F n P md ops Q fuel (listed.setIfInBounds j true) a w → K' a w) → if Region.wanted p (yielded ops a.tmps) = true then Oper.wpIn F n P p a w K' Q else (∀ f, p.about P w a.eval = some f → F.fn f) ∧ K' (a.put p.dst undef) w) : wpAnyIn F n P md ops Q (fuel + 1) listed a w :=
 wpAnyIn_ready hr (by simp) (AllReadyIn.cons ho h (AllReadyIn.cons hp h2 AllReadyIn.nil))
theorem r3 (i j k : Nat) {o p q : Oper} {fuel : Nat} {listed : Array Bool} {a : Act} {w : World} (hr : Region.ready md ops listed = [i, j, k]) (ho : ops[i]? = some o) (hp : ops[j]? = some p) (hq : ops[k]? = some q)
 (h : ∀ K' : Act → World → Prop, (∀ a w, wpAnyIn F n P md ops Q fuel (listed.setIfInBounds i true) a w → K' a w) → if Region.wanted o (yielded ops a.tmps) = true then Oper.wpIn F n P o a w K' Q else (∀ f, o.about P w a.eval = some f → F.fn f) ∧ K' (a.put o.dst undef) w)
 (h2 : ∀ K' : Act → World → Prop, (∀ a w, wpAnyIn F n P md ops Q fuel (listed.setIfInBounds j true) a w → K' a w) → if Region.wanted p (yielded ops a.tmps) = true then Oper.wpIn F n P p a w K' Q else (∀ f, p.about P w a.eval = some f → F.fn f) ∧ K' (a.put p.dst undef) w)
 (h3 : ∀ K' : Act → World → Prop, (∀ a w, wpAnyIn F n P md ops Q fuel (listed.setIfInBounds k true) a w → K' a w) → if Region.wanted q (yielded ops a.tmps) = true then Oper.wpIn F n P q a w K' Q else (∀ f, q.about P w a.eval = some f → F.fn f) ∧ K' (a.put q.dst undef) w) : wpAnyIn F n P md ops Q (fuel + 1) listed a w :=
 wpAnyIn_ready hr (by simp) (AllReadyIn.cons ho h (AllReadyIn.cons hp h2 (AllReadyIn.cons hq h3 AllReadyIn.nil)))
end
set_option maxHeartbeats 6400000 in
theorem held_any (w : World) (d : Nat) (A : Option Addr) (n c : Nat) (ps : List (ByteArray × Value)) (h : RowAtS w d 2 A n c ps) (hn : n ≤ 90000) (zf : Value → List Int) (hfs : FilesZ w zf ps) :
 Calls Tryz.prog 81 #[.pointer (some ⟨d, 0, none⟩)] w fun e w' => (∃ A' c' xs, e = .returned (.slice A' ps.length c') ∧ SLine 2 w' A' ps.length c' (cellsP encS xs) ∧ (∀ k ∈ blk A', w.heap.size ≤ k) ∧ HeldX w.heap.size (blk A') zf ps xs w') ∧ Below w.heap.size w w' := by
 have HH := Lib.hid h; have HFS := Lib.hid hfs
 have hqs := World.block_lt_of_cell? w _ h.cell
 have HSH : Hid (∀ p ∈ ps, ∃ a : Option Addr, p.2 = .pointer a) := Lib.hid fun p hp => by obtain ⟨f, _, _, _, _, _, e, _⟩ := hfs p hp; exact ⟨_, e⟩
 clear h hfs
 refine (callsIn_wide (n := 8)).1 ?_
 refine callsIn_of_wp_marks Tryz.func81 rfl trivial ?_ rfl
 simp only [Tryz.ntmps81, List.size_toArray, List.length_cons, List.length_nil, Nat.reduceAdd, Nat.reduceSub, Array.replicate_succ, Array.replicate_zero, List.push_toArray, List.append_toArray, List.nil_append, List.cons_append]
 refine wpIn_wide.2 ?_
 obtain ⟨hh, hhe⟩ : ∃ hh, w.heap.size = hh := ⟨_, rfl⟩
 obtain ⟨W2, hW2⟩ : ∃ W2, w.alloc (.cells #[.slice none 0 0] 36) = W2 := ⟨_, rfl⟩
 have hB2 : Below w.heap.size w W2 := by rw [← hW2]; exact (Below.refl _ w).alloc (Nat.le_refl _) _
 have hs2 : W2.heap.size = hh + 1 := by rw [← hW2, ← hhe]; simp
 have k0 : W2.heap[hh]? = some (.cells #[.slice none 0 0] 36 (0, 0)) := by
  have := heap_alloc_new w (.cells #[.slice none 0 0] 36 (0, 0))
  rw [hhe] at this
  rw [← hW2]
  exact this
 have y0 := cell_of_one k0
 have y1 := free_of_one k0
 have HK0 := Lib.hid k0; have HB2 := Lib.hid hB2; have HHE := Lib.hid hhe
 have HN := Lib.hid (dnames_any W2 d)
 have HS2 := Lib.hid hs2; clear k0 hB2 hs2
 go_wp2_with fail
 refine HN.out.mono ?_
 rintro e w' ⟨rfl, rfl⟩; clear y0 y1
 go_wp2_with fail
 refine (reach_S _ _).mono ?_
 rintro e w' ⟨rfl, rfl⟩
 obtain ⟨W3, hW3⟩ : ∃ W3, W2.alloc (.cells #[.pointer (some ⟨d, 2, none⟩)] 95) = W3 := ⟨_, rfl⟩
 have hs2 := HS2.out
 have hB3 : Below W2.heap.size W2 W3 := by rw [← hW3]; exact (Below.refl _ W2).alloc (Nat.le_refl _) _
 have hs3 : W3.heap.size = hh + 2 := by rw [← hW3]; simp [hs2]
 have hbx : W3.heap[hh + 1]? = some (.cells #[.pointer (some ⟨d, 2, none⟩)] 95 (0, 0)) := by
  have := heap_alloc_new W2 (.cells #[.pointer (some ⟨d, 2, none⟩)] 95 (0, 0))
  rw [hs2, hW3] at this
  exact this
 rw [hs2, hW3]
 have HBX := Lib.hid hbx
 have HB3 : Hid (Below w.heap.size w W3) := Lib.hid (HB2.out.trans (hB3.mono (by have := HB2.out.size; omega)))
 have HJ0 := Lib.hid ((hB3.block hh (by omega)).trans HK0.out)
 have hq3 : d < hh := by have := HHE.out; have h5 : d < w.heap.size := hqs; omega
 clear hW2 hW3 hbx hB3 HK0
 have HIT : Hid (∀ W1, Below W3.heap.size W3 W1 → IterOk Tryz.prog 74 #[.pointer (some ⟨hh + 1, 0, none⟩)] arS 2 ps W1) := Lib.hid (fun W1 hb => by
  have hbw := HB3.out.trans (hb.mono (by have := HHE.out; omega))
  exact each1_S W1 (hh + 1) (some ⟨d, 2, none⟩) A n c ps (cell_of_one ((hb.block _ (by omega)).trans HBX.out)) (.inr ⟨d, 2, rfl, (hbw.cell (p := ⟨d, 2, none⟩) hqs).trans HH.out.cell, HH.out.row.below hbw⟩) (by omega) HSH.out)
 go_wp2_with fail
 refine (wpIn_wide (n := 8)).1 ?_
 refine range_it 8 2 (by decide) 74 #[.pointer (some ⟨hh + 1, 0, none⟩)] arS rfl eachS_enters (fun _ => rfl) ps HIT.out (fun C pre W => HeldAt W3 zf hh W3.heap.size C pre W) (fun _ _ _ _ => False) (fun C xs => HeldAt.steady (by omega)) (fun _ _ _ _ _ h _ => h) ?h0 ?hab ?hdone (fun _ _ _ _ _ h _ => h.elim)
 case h0 =>
  intro C W1 hC hb1
  exact ⟨Chg.of_below hb1, none, 0, [], (hb1.block _ (by omega)).trans HJ0.out, SLine.nil 2 _, fun j hj => (by cases hj), rfl, fun i p hp => (by simp at hp)⟩
 case hab =>
  apply Exists.intro
  refine ⟨?hassign, ?hbody⟩
  case hassign =>
   intro x W K hK
   unfold arS encS
   gi_wp2
   exact hK
  case hbody =>
   intro C pre x Wr hC hCW hD1 hI hpre
   obtain ⟨x, v⟩ := x
   have hmem : (x, v) ∈ ps := hpre.subset (by simp)
   obtain ⟨f, num, FA, m, fc, sure, hv, hf, hsl, hm, hz⟩ := HFS.out _ hmem
   simp only at hv hf hsl hz
   have hzl : (zf v).length = m := by have := hsl.1; rw [cellsZ_length] at this; omega
   obtain ⟨zs, hzs⟩ : ∃ zs, zf v = zs := ⟨_, rfl⟩
   rw [hzs] at hsl hz hzl
   have HZS := Lib.hid hzs; have HVF := Lib.hid hv
   subst hv
   have hbr : Below w.heap.size w Wr := HB3.out.trans (hI.chg.toBelow (fun k hk => by simp only [List.mem_cons, List.not_mem_nil, or_false] at hk; have := HHE.out; omega) (by have := HHE.out; omega))
   obtain ⟨Ac, cc, xs, hk1, hk2, hk3, hk4⟩ := hI.row
   have hlt2 := lt_of_block hk1
   have hlen2 : pre.length ≤ 90000 := by
    have h1 := hpre.length_le
    have h2 := HH.out.row.len
    simp only [List.length_append, List.length_cons, List.length_nil] at h1
    omega
   have c1 := cell_of_one hk1
   have f1 := (hf.same (hbr.block f (lt_of_block hf))).c1
   have HCL := Lib.hid (cloneB Wr.drew FA m fc (cellsZ zs) (hsl.below hbr).drew hm (one_u8 zs))
   have hxA : hh ∉ blk Ac := fun hm => by have := (hk3 _ hm).1; omega
   have hCr := hI.chg.size
   have HSTEP : Hid (∀ w2, Below Wr.drew.heap.size Wr.drew w2 → ∀ (A2 : Option Addr) (c2 : Nat), SLine 1 w2 A2 m c2 (cellsZ zs) → (∀ k ∈ blk A2, Wr.drew.heap.size ≤ k) → ∃ w2a C' c' W6, w2.alloc (.cells #[.string x, .slice A2 m c2] 56) = w2a ∧
    (Builtin.append_ #[36, 36] 36 #[.slice Ac pre.length cc, .slice (some ⟨w2.heap.size, 0, none⟩) 1 1]).run Tryz.prog w2a = .ok (.slice C' (pre.length + 1) c') W6 ∧ w2.cell? ⟨hh, 0, none⟩ = some (.slice Ac pre.length cc) ∧ w2a.cell? ⟨hh, 0, none⟩ = some (.slice Ac pre.length cc) ∧ W6.cell? ⟨hh, 0, none⟩ = some (.slice Ac pre.length cc) ∧ W6.frozen? ⟨hh, 0, none⟩ = false ∧
    KeepsIt W3.heap.size C Wr (W6.setCell ⟨hh, 0, none⟩ (.slice C' (pre.length + 1) c')) ∧ HeldAt W3 zf hh W3.heap.size C (pre ++ [(x, .pointer (some ⟨f, 0, none⟩))]) (W6.setCell ⟨hh, 0, none⟩ (.slice C' (pre.length + 1) c'))) := Lib.hid (by
    intro w2 hb2 A2 c2 hl2 hn2
    have hb2' : Below Wr.heap.size Wr w2 := (Below.refl _ Wr).drew.trans hb2
    have hz2 := hb2'.size
    have hn2' : ∀ k ∈ blk A2, Wr.heap.size ≤ k := hn2
    obtain ⟨C', c', W6, hr, hl6, hc6, hf6, _⟩ := push_s 2 w2 36 56 36 _ 40 Tryz.underlying36 infoApiF rfl (by decide) Ac pre.length cc _ (hk2.below hb2') (by omega) [.string x, .slice A2 m c2] rfl (fun u hu => by simp only [List.mem_cons, List.not_mem_nil, or_false] at hu; rcases hu with h | h <;> (rw [h]; rfl))
    obtain ⟨w2a, hw2a⟩ : ∃ w2a, w2.alloc (.cells #[.string x, .slice A2 m c2] 56) = w2a := ⟨_, rfl⟩
    have hBa : Below w2.heap.size w2 w2a := by rw [← hw2a]; exact (Below.refl _ w2).alloc (Nat.le_refl _) _
    have q2 : w2.heap[hh]? = some (.cells #[.slice Ac pre.length cc] 36 (0, 0)) := (hb2'.block hh hlt2).trans hk1
    have q2a := (hBa.block hh (by omega)).trans q2
    have q6 : W6.heap[hh]? = some (.cells #[.slice Ac pre.length cc] 36 (0, 0)) := (hc6.same hh (by omega) hxA).trans q2
    have hz6 := hc6.size
    have hA2A : ∀ k ∈ blk A2, k ∉ blk Ac := fun k hk hm => by have := hk2.lt k hm; have := hn2' k hk; omega
    have hlr : RowZ w2 A2 zs.length zs := by rw [hzl]; exact hl2.toRowZ hz
    have hc7 : Chg [hh] W6 (W6.setCell ⟨hh, 0, none⟩ (.slice C' (pre.length + 1) c')) := (Chg.refl _ W6).setCell hh 0 _ (.inl (by simp))
    have hcc : Chg (hh :: blk Ac) Wr (W6.setCell ⟨hh, 0, none⟩ (.slice C' (pre.length + 1) c')) := (((Chg.of_below hb2').trans (hc6.weaken (fun k hk => .inl (List.mem_cons_of_mem _ hk)))).trans (hc7.weaken (fun k hk => .inl (by rw [List.mem_singleton] at hk; rw [hk]; exact List.mem_cons_self ..))))
    have hne : ∀ k ∈ hh :: blk Ac, k ≠ W3.heap.size ∧ k ≠ W3.heap.size + 1 ∧ k ≠ C := by
     intro k hk
     rcases List.mem_cons.1 hk with rfl | hk
     · omega
     · have := hk3 k hk; omega
    have hC'2 : ∀ k ∈ blk C', W3.heap.size + 2 ≤ k ∧ k ≠ C := fun k hk => by
     rcases hf6 k hk with q | q
     · exact hk3 k q
     · omega
    have hhC' : hh ∉ blk C' := fun hm => by have := (hC'2 _ hm).1; omega
    refine ⟨w2a, C', c', W6, hw2a, by rw [← hw2a]; exact hr, cell_of_one q2, cell_of_one q2a, cell_of_one q6, free_of_one q6, hcc.keepsIt (by omega) hCW (fun hm => (hne _ hm).1 rfl) (fun hm => (hne _ hm).2.1 rfl) (fun hm => (hne _ hm).2.2 rfl), hI.chg.andThen hcc (fun k hk => ?_), C', c', xs ++ [(x, .slice A2 (zf (.pointer (some ⟨f, 0, none⟩))).length c2)], ?_, ?_, hC'2, ?_⟩
    · rcases List.mem_cons.1 hk with rfl | hk
      · exact .inl (by simp)
      · have := hk3 k hk; exact .inr (by omega)
    · rw [one_setCell q6, List.length_append]; rfl
    · rw [List.length_append, cellsP_append, HZS.out, hzl]
      exact hl6.chg hc7 (fun k hk hm => by rw [List.mem_singleton] at hm; rw [hm] at hk; exact hhC' hk)
    · have hkeep : HeldX (W3.heap.size + 2) (hh :: C :: blk C') zf pre xs (W6.setCell ⟨hh, 0, none⟩ (.slice C' (pre.length + 1) c')) := hk4.keep hcc.size (fun k h1 h2 h3 => hcc.same k h2 (fun hm => by
       rcases List.mem_cons.1 hm with q | q
       · exact h3 (by rw [q]; exact List.mem_cons_self ..)
       · exact h3 (List.mem_cons_of_mem _ (List.mem_cons_of_mem _ q)))) (fun k hk => by
       rcases List.mem_cons.1 hk with q | q
       · exact .inl (by rw [q]; exact List.mem_cons_self ..)
       · rcases List.mem_cons.1 q with q | q
         · exact .inl (by rw [q]; exact List.mem_cons_of_mem _ (List.mem_cons_self ..))
         · rcases hf6 k q with q | q
           · exact .inl (List.mem_cons_of_mem _ (List.mem_cons_of_mem _ q))
           · exact .inr (by omega))
      refine hkeep.snoc (x, .pointer (some ⟨f, 0, none⟩)) A2 c2 ?_ ⟨by show (zf (.pointer (some ⟨f, 0, none⟩))).length ≤ c2; rw [HZS.out, hzl]; exact hl2.2.1, hl2.2.2.1⟩ (fun k hk => ?_)
      · show RowZ _ A2 (zf (.pointer (some ⟨f, 0, none⟩))).length (zf (.pointer (some ⟨f, 0, none⟩)))
        rw [HZS.out]
        exact rowZ_same hlr (by have := hc7.size; omega) (fun k hk => (hc7.same k (by have := hl2.lt k hk; omega) (by rw [List.mem_singleton]; have := hn2' k hk; omega)).trans (hc6.same k (hl2.lt k hk) (hA2A k hk)))
      · have h8 := hl2.lt k hk
        have h9 := hn2' k hk
        have h10 := hc7.size
        refine ⟨by omega, by omega, fun hm => ?_⟩
        rcases List.mem_cons.1 hm with q | q
        · omega
        · rcases List.mem_cons.1 q with q | q
          · omega
          · rcases hf6 k q with q | q
            · exact hA2A k hk q
            · omega)
   clear hk1 hk2 hk3 hk4 hI hpre hlen2 hxA hmem hlt2 hf hsl hm hz hzl hbr hCr hzs
   gi_wp2_with fail
   refine wpIn_region_any (by kernel_rfl) ?_
   change wpAnyIn _ _ _ _ _ _ _ _ _ (World.drew _)
   refine r3 0 1 2 (by kernel_rfl) rfl rfl rfl (fun K hK => ?_) (fun K hK => ?_) (fun K hK => ?_) <;> (go_simp; refine hK _ _ ?_; clear hK K)
   refine r2 1 2 (by kernel_rfl) rfl rfl (fun K hK => ?_) (fun K hK => ?_) <;> (go_simp; refine hK _ _ ?_; clear hK K)
   refine rz 2 (by kernel_rfl) rfl fun K hK => ?_; go_simp; refine hK _ _ ?_; clear hK K; refine rz 3 (by kernel_rfl) rfl fun K hK => ?_; go_simp; refine hK _ _ ?_; clear hK K; refine rz 4 (by kernel_rfl) rfl fun K hK => ?_; go_simp; refine hK _ _ ?_; clear hK K; refine rz 5 (by kernel_rfl) rfl fun K hK => ?_; go_simp; refine hK _ _ ?_; clear hK K; refine rz 6 (by kernel_rfl) rfl fun K hK => ?_; go_simp; rotate_left
   refine r2 1 3 (by kernel_rfl) rfl rfl (fun K hK => ?_) (fun K hK => ?_) <;> (go_simp; refine hK _ _ ?_; clear hK K)
   refine rz 3 (by kernel_rfl) rfl fun K hK => ?_; go_simp; refine hK _ _ ?_; clear hK K; refine rz 4 (by kernel_rfl) rfl fun K hK => ?_; go_simp; refine hK _ _ ?_; clear hK K; refine rz 5 (by kernel_rfl) rfl fun K hK => ?_; go_simp; refine hK _ _ ?_; clear hK K; refine rz 6 (by kernel_rfl) rfl fun K hK => ?_; go_simp; rotate_left
   refine r2 1 4 (by kernel_rfl) rfl rfl (fun K hK => ?_) (fun K hK => ?_) <;> (go_simp; refine hK _ _ ?_; clear hK K)
   refine rz 4 (by kernel_rfl) rfl fun K hK => ?_; go_simp; refine hK _ _ ?_; clear hK K; refine rz 5 (by kernel_rfl) rfl fun K hK => ?_; go_simp; refine hK _ _ ?_; clear hK K; refine rz 6 (by kernel_rfl) rfl fun K hK => ?_; go_simp; rotate_left
   refine r2 1 5 (by kernel_rfl) rfl rfl (fun K hK => ?_) (fun K hK => ?_) <;> (go_simp; refine hK _ _ ?_; clear hK K)
   refine rz 5 (by kernel_rfl) rfl fun K hK => ?_; go_simp; refine hK _ _ ?_; clear hK K; refine rz 6 (by kernel_rfl) rfl fun K hK => ?_; go_simp; rotate_left
   refine r2 1 6 (by kernel_rfl) rfl rfl (fun K hK => ?_) (fun K hK => ?_) <;> (go_simp; try (refine hK _ _ ?_; clear hK K))
   refine rz 6 (by kernel_rfl) rfl fun K hK => ?_; go_simp; rotate_left
   rotate_left
   refine r2 0 2 (by kernel_rfl) rfl rfl (fun K hK => ?_) (fun K hK => ?_) <;> (go_simp; refine hK _ _ ?_; clear hK K)
   refine rz 2 (by kernel_rfl) rfl fun K hK => ?_; go_simp; refine hK _ _ ?_; clear hK K; refine rz 3 (by kernel_rfl) rfl fun K hK => ?_; go_simp; refine hK _ _ ?_; clear hK K; refine rz 4 (by kernel_rfl) rfl fun K hK => ?_; go_simp; refine hK _ _ ?_; clear hK K; refine rz 5 (by kernel_rfl) rfl fun K hK => ?_; go_simp; refine hK _ _ ?_; clear hK K; refine rz 6 (by kernel_rfl) rfl fun K hK => ?_; go_simp; rotate_left
   refine r2 0 3 (by kernel_rfl) rfl rfl (fun K hK => ?_) (fun K hK => ?_) <;> (go_simp; refine hK _ _ ?_; clear hK K)
   refine rz 3 (by kernel_rfl) rfl fun K hK => ?_; go_simp; refine hK _ _ ?_; clear hK K; refine rz 4 (by kernel_rfl) rfl fun K hK => ?_; go_simp; refine hK _ _ ?_; clear hK K; refine rz 5 (by kernel_rfl) rfl fun K hK => ?_; go_simp; refine hK _ _ ?_; clear hK K; refine rz 6 (by kernel_rfl) rfl fun K hK => ?_; go_simp; rotate_left
   refine r2 0 4 (by kernel_rfl) rfl rfl (fun K hK => ?_) (fun K hK => ?_) <;> (go_simp; refine hK _ _ ?_; clear hK K)
   refine rz 4 (by kernel_rfl) rfl fun K hK => ?_; go_simp; refine hK _ _ ?_; clear hK K; refine rz 5 (by kernel_rfl) rfl fun K hK => ?_; go_simp; refine hK _ _ ?_; clear hK K; refine rz 6 (by kernel_rfl) rfl fun K hK => ?_; go_simp; rotate_left
   refine r2 0 5 (by kernel_rfl) rfl rfl (fun K hK => ?_) (fun K hK => ?_) <;> (go_simp; refine hK _ _ ?_; clear hK K)
   refine rz 5 (by kernel_rfl) rfl fun K hK => ?_; go_simp; refine hK _ _ ?_; clear hK K; refine rz 6 (by kernel_rfl) rfl fun K hK => ?_; go_simp; rotate_left
   refine r2 0 6 (by kernel_rfl) rfl rfl (fun K hK => ?_) (fun K hK => ?_) <;> (go_simp; try (refine hK _ _ ?_; clear hK K))
   refine rz 6 (by kernel_rfl) rfl fun K hK => ?_; go_simp; rotate_left
   rotate_left
   refine r3 0 1 3 (by kernel_rfl) rfl rfl rfl (fun K hK => ?_) (fun K hK => ?_) (fun K hK => ?_) <;> (go_simp; refine hK _ _ ?_; clear hK K)
   refine r2 1 3 (by kernel_rfl) rfl rfl (fun K hK => ?_) (fun K hK => ?_) <;> (go_simp; refine hK _ _ ?_; clear hK K)
   refine rz 3 (by kernel_rfl) rfl fun K hK => ?_; go_simp; refine hK _ _ ?_; clear hK K; refine rz 4 (by kernel_rfl) rfl fun K hK => ?_; go_simp; refine hK _ _ ?_; clear hK K; refine rz 5 (by kernel_rfl) rfl fun K hK => ?_; go_simp; refine hK _ _ ?_; clear hK K; refine rz 6 (by kernel_rfl) rfl fun K hK => ?_; go_simp; rotate_left
   refine r2 1 4 (by kernel_rfl) rfl rfl (fun K hK => ?_) (fun K hK => ?_) <;> (go_simp; refine hK _ _ ?_; clear hK K)
   refine rz 4 (by kernel_rfl) rfl fun K hK => ?_; go_simp; refine hK _ _ ?_; clear hK K; refine rz 5 (by kernel_rfl) rfl fun K hK => ?_; go_simp; refine hK _ _ ?_; clear hK K; refine rz 6 (by kernel_rfl) rfl fun K hK => ?_; go_simp; rotate_left
   refine r2 1 5 (by kernel_rfl) rfl rfl (fun K hK => ?_) (fun K hK => ?_) <;> (go_simp; refine hK _ _ ?_; clear hK K)
   refine rz 5 (by kernel_rfl) rfl fun K hK => ?_; go_simp; refine hK _ _ ?_; clear hK K; refine rz 6 (by kernel_rfl) rfl fun K hK => ?_; go_simp; rotate_left
   refine r2 1 6 (by kernel_rfl) rfl rfl (fun K hK => ?_) (fun K hK => ?_) <;> (go_simp; try (refine hK _ _ ?_; clear hK K))
   refine rz 6 (by kernel_rfl) rfl fun K hK => ?_; go_simp; rotate_left
   rotate_left
   refine r2 0 3 (by kernel_rfl) rfl rfl (fun K hK => ?_) (fun K hK => ?_) <;> (go_simp; refine hK _ _ ?_; clear hK K)
   refine rz 3 (by kernel_rfl) rfl fun K hK => ?_; go_simp; refine hK _ _ ?_; clear hK K; refine rz 4 (by kernel_rfl) rfl fun K hK => ?_; go_simp; refine hK _ _ ?_; clear hK K; refine rz 5 (by kernel_rfl) rfl fun K hK => ?_; go_simp; refine hK _ _ ?_; clear hK K; refine rz 6 (by kernel_rfl) rfl fun K hK => ?_; go_simp; rotate_left
   refine r2 0 4 (by kernel_rfl) rfl rfl (fun K hK => ?_) (fun K hK => ?_) <;> (go_simp; refine hK _ _ ?_; clear hK K)
   refine rz 4 (by kernel_rfl) rfl fun K hK => ?_; go_simp; refine hK _ _ ?_; clear hK K; refine rz 5 (by kernel_rfl) rfl fun K hK => ?_; go_simp; refine hK _ _ ?_; clear hK K; refine rz 6 (by kernel_rfl) rfl fun K hK => ?_; go_simp; rotate_left
   refine r2 0 5 (by kernel_rfl) rfl rfl (fun K hK => ?_) (fun K hK => ?_) <;> (go_simp; refine hK _ _ ?_; clear hK K)
   refine rz 5 (by kernel_rfl) rfl fun K hK => ?_; go_simp; refine hK _ _ ?_; clear hK K; refine rz 6 (by kernel_rfl) rfl fun K hK => ?_; go_simp; rotate_left
   refine r2 0 6 (by kernel_rfl) rfl rfl (fun K hK => ?_) (fun K hK => ?_) <;> (go_simp; try (refine hK _ _ ?_; clear hK K))
   refine rz 6 (by kernel_rfl) rfl fun K hK => ?_; go_simp; rotate_left
   rotate_left
   refine r3 0 1 4 (by kernel_rfl) rfl rfl rfl (fun K hK => ?_) (fun K hK => ?_) (fun K hK => ?_) <;> (go_simp; refine hK _ _ ?_; clear hK K)
   refine r2 1 4 (by kernel_rfl) rfl rfl (fun K hK => ?_) (fun K hK => ?_) <;> (go_simp; refine hK _ _ ?_; clear hK K)
   refine rz 4 (by kernel_rfl) rfl fun K hK => ?_; go_simp; refine hK _ _ ?_; clear hK K; refine rz 5 (by kernel_rfl) rfl fun K hK => ?_; go_simp; refine hK _ _ ?_; clear hK K; refine rz 6 (by kernel_rfl) rfl fun K hK => ?_; go_simp; rotate_left
   refine r2 1 5 (by kernel_rfl) rfl rfl (fun K hK => ?_) (fun K hK => ?_) <;> (go_simp; refine hK _ _ ?_; clear hK K)
   refine rz 5 (by kernel_rfl) rfl fun K hK => ?_; go_simp; refine hK _ _ ?_; clear hK K; refine rz 6 (by kernel_rfl) rfl fun K hK => ?_; go_simp; rotate_left
   refine r2 1 6 (by kernel_rfl) rfl rfl (fun K hK => ?_) (fun K hK => ?_) <;> (go_simp; try (refine hK _ _ ?_; clear hK K))
   refine rz 6 (by kernel_rfl) rfl fun K hK => ?_; go_simp; rotate_left
   rotate_left
   refine r2 0 4 (by kernel_rfl) rfl rfl (fun K hK => ?_) (fun K hK => ?_) <;> (go_simp; refine hK _ _ ?_; clear hK K)
   refine rz 4 (by kernel_rfl) rfl fun K hK => ?_; go_simp; refine hK _ _ ?_; clear hK K; refine rz 5 (by kernel_rfl) rfl fun K hK => ?_; go_simp; refine hK _ _ ?_; clear hK K; refine rz 6 (by kernel_rfl) rfl fun K hK => ?_; go_simp; rotate_left
   refine r2 0 5 (by kernel_rfl) rfl rfl (fun K hK => ?_) (fun K hK => ?_) <;> (go_simp; refine hK _ _ ?_; clear hK K)
   refine rz 5 (by kernel_rfl) rfl fun K hK => ?_; go_simp; refine hK _ _ ?_; clear hK K; refine rz 6 (by kernel_rfl) rfl fun K hK => ?_; go_simp; rotate_left
   refine r2 0 6 (by kernel_rfl) rfl rfl (fun K hK => ?_) (fun K hK => ?_) <;> (go_simp; try (refine hK _ _ ?_; clear hK K))
   refine rz 6 (by kernel_rfl) rfl fun K hK => ?_; go_simp; rotate_left
   rotate_left
   refine r3 0 1 5 (by kernel_rfl) rfl rfl rfl (fun K hK => ?_) (fun K hK => ?_) (fun K hK => ?_) <;> (go_simp; refine hK _ _ ?_; clear hK K)
   refine r2 1 5 (by kernel_rfl) rfl rfl (fun K hK => ?_) (fun K hK => ?_) <;> (go_simp; refine hK _ _ ?_; clear hK K)
   refine rz 5 (by kernel_rfl) rfl fun K hK => ?_; go_simp; refine hK _ _ ?_; clear hK K; refine rz 6 (by kernel_rfl) rfl fun K hK => ?_; go_simp; rotate_left
   refine r2 1 6 (by kernel_rfl) rfl rfl (fun K hK => ?_) (fun K hK => ?_) <;> (go_simp; try (refine hK _ _ ?_; clear hK K))
   refine rz 6 (by kernel_rfl) rfl fun K hK => ?_; go_simp; rotate_left
   rotate_left
   refine r2 0 5 (by kernel_rfl) rfl rfl (fun K hK => ?_) (fun K hK => ?_) <;> (go_simp; refine hK _ _ ?_; clear hK K)
   refine rz 5 (by kernel_rfl) rfl fun K hK => ?_; go_simp; refine hK _ _ ?_; clear hK K; refine rz 6 (by kernel_rfl) rfl fun K hK => ?_; go_simp; rotate_left
   refine r2 0 6 (by kernel_rfl) rfl rfl (fun K hK => ?_) (fun K hK => ?_) <;> (go_simp; try (refine hK _ _ ?_; clear hK K))
   refine rz 6 (by kernel_rfl) rfl fun K hK => ?_; go_simp; rotate_left
   rotate_left
   refine r3 0 1 6 (by kernel_rfl) rfl rfl rfl (fun K hK => ?_) (fun K hK => ?_) (fun K hK => ?_) <;> (go_simp; try (refine hK _ _ ?_; clear hK K))
   refine r2 1 6 (by kernel_rfl) rfl rfl (fun K hK => ?_) (fun K hK => ?_) <;> (go_simp; try (refine hK _ _ ?_; clear hK K))
   refine rz 6 (by kernel_rfl) rfl fun K hK => ?_; go_simp; rotate_left
   rotate_left
   refine r2 0 6 (by kernel_rfl) rfl rfl (fun K hK => ?_) (fun K hK => ?_) <;> (go_simp; try (refine hK _ _ ?_; clear hK K))
   refine rz 6 (by kernel_rfl) rfl fun K hK => ?_; go_simp; rotate_left
   rotate_left
   rotate_left
   all_goals (refine ⟨trivial, ?_⟩; gi_at_call 40; refine (CallsIn.inRound _ (callsIn_wide.2 HCL.out)).mono ?_; rintro e7 w2 ⟨⟨A2, c2, rfl, hl2, hn2⟩, hb2⟩; obtain ⟨w2a, C', c', W6, hw2a, hr, g1, g2, g3, g4, hfin⟩ := HSTEP.out w2 hb2 A2 c2 hl2 hn2; have HFIN := Lib.hid hfin; have HR := Lib.hid hr; clear hl2 hn2 hb2 hfin hr; refine hK _ _ ?_; clear hK K)
   iterate 5 rotate_left
   refine rz 1 (by kernel_rfl) rfl fun K hK => ?_; go_simp; refine hK _ _ ?_; clear hK K; rotate_left
   iterate 5 rotate_left
   refine r2 0 7 (by kernel_rfl) rfl rfl (fun K hK => ?_) (fun K hK => ?_) <;> (go_simp; refine hK _ _ ?_; clear hK K)
   rotate_left
   refine r2 0 8 (by kernel_rfl) rfl rfl (fun K hK => ?_) (fun K hK => ?_) <;> (go_simp; refine hK _ _ ?_; clear hK K)
   refine rz 8 (by kernel_rfl) rfl fun K hK => ?_; go_simp; refine hK _ _ ?_; clear hK K; refine wpAnyIn_ready (rs := [9]) (by kernel_rfl) (by simp) ?_; refine appendIn_ready rfl (by kernel_rfl) _ _ _ _ rfl _ _ rfl rfl _ _ HR.out ?_; refine rz 10 (by kernel_rfl) rfl fun K hK => ?_; go_simp; refine hK _ _ ?_; clear hK K; refine wpAnyIn_done (by kernel_rfl) ?_ _; gi_wp2; exact HFIN.out
   refine rz 0 (by kernel_rfl) rfl fun K hK => ?_; go_simp; refine hK _ _ ?_; clear hK K; refine wpAnyIn_ready (rs := [9]) (by kernel_rfl) (by simp) ?_; refine appendIn_ready rfl (by kernel_rfl) _ _ _ _ rfl _ _ rfl rfl _ _ HR.out ?_; refine rz 10 (by kernel_rfl) rfl fun K hK => ?_; go_simp; refine hK _ _ ?_; clear hK K; refine wpAnyIn_done (by kernel_rfl) ?_ _; gi_wp2; exact HFIN.out
   iterate 4 rotate_left
   refine rz 1 (by kernel_rfl) rfl fun K hK => ?_; go_simp; refine hK _ _ ?_; clear hK K; rotate_left
   iterate 4 rotate_left
   refine r2 0 7 (by kernel_rfl) rfl rfl (fun K hK => ?_) (fun K hK => ?_) <;> (go_simp; refine hK _ _ ?_; clear hK K)
   rotate_left
   refine r2 0 8 (by kernel_rfl) rfl rfl (fun K hK => ?_) (fun K hK => ?_) <;> (go_simp; refine hK _ _ ?_; clear hK K)
   refine rz 8 (by kernel_rfl) rfl fun K hK => ?_; go_simp; refine hK _ _ ?_; clear hK K; refine wpAnyIn_ready (rs := [9]) (by kernel_rfl) (by simp) ?_; refine appendIn_ready rfl (by kernel_rfl) _ _ _ _ rfl _ _ rfl rfl _ _ HR.out ?_; refine rz 10 (by kernel_rfl) rfl fun K hK => ?_; go_simp; refine hK _ _ ?_; clear hK K; refine wpAnyIn_done (by kernel_rfl) ?_ _; gi_wp2; exact HFIN.out
   refine rz 0 (by kernel_rfl) rfl fun K hK => ?_; go_simp; refine hK _ _ ?_; clear hK K; refine wpAnyIn_ready (rs := [9]) (by kernel_rfl) (by simp) ?_; refine appendIn_ready rfl (by kernel_rfl) _ _ _ _ rfl _ _ rfl rfl _ _ HR.out ?_; refine rz 10 (by kernel_rfl) rfl fun K hK => ?_; go_simp; refine hK _ _ ?_; clear hK K; refine wpAnyIn_done (by kernel_rfl) ?_ _; gi_wp2; exact HFIN.out
   iterate 3 rotate_left
   refine rz 1 (by kernel_rfl) rfl fun K hK => ?_; go_simp; refine hK _ _ ?_; clear hK K; rotate_left
   iterate 3 rotate_left
   refine r2 0 7 (by kernel_rfl) rfl rfl (fun K hK => ?_) (fun K hK => ?_) <;> (go_simp; refine hK _ _ ?_; clear hK K)
   rotate_left
   refine r2 0 8 (by kernel_rfl) rfl rfl (fun K hK => ?_) (fun K hK => ?_) <;> (go_simp; refine hK _ _ ?_; clear hK K)
   refine rz 8 (by kernel_rfl) rfl fun K hK => ?_; go_simp; refine hK _ _ ?_; clear hK K; refine wpAnyIn_ready (rs := [9]) (by kernel_rfl) (by simp) ?_; refine appendIn_ready rfl (by kernel_rfl) _ _ _ _ rfl _ _ rfl rfl _ _ HR.out ?_; refine rz 10 (by kernel_rfl) rfl fun K hK => ?_; go_simp; refine hK _ _ ?_; clear hK K; refine wpAnyIn_done (by kernel_rfl) ?_ _; gi_wp2; exact HFIN.out
   refine rz 0 (by kernel_rfl) rfl fun K hK => ?_; go_simp; refine hK _ _ ?_; clear hK K; refine wpAnyIn_ready (rs := [9]) (by kernel_rfl) (by simp) ?_; refine appendIn_ready rfl (by kernel_rfl) _ _ _ _ rfl _ _ rfl rfl _ _ HR.out ?_; refine rz 10 (by kernel_rfl) rfl fun K hK => ?_; go_simp; refine hK _ _ ?_; clear hK K; refine wpAnyIn_done (by kernel_rfl) ?_ _; gi_wp2; exact HFIN.out
   iterate 2 rotate_left
   refine rz 1 (by kernel_rfl) rfl fun K hK => ?_; go_simp; refine hK _ _ ?_; clear hK K; rotate_left
   iterate 2 rotate_left
   refine r2 0 7 (by kernel_rfl) rfl rfl (fun K hK => ?_) (fun K hK => ?_) <;> (go_simp; refine hK _ _ ?_; clear hK K)
   rotate_left
   refine r2 0 8 (by kernel_rfl) rfl rfl (fun K hK => ?_) (fun K hK => ?_) <;> (go_simp; refine hK _ _ ?_; clear hK K)
   refine rz 8 (by kernel_rfl) rfl fun K hK => ?_; go_simp; refine hK _ _ ?_; clear hK K; refine wpAnyIn_ready (rs := [9]) (by kernel_rfl) (by simp) ?_; refine appendIn_ready rfl (by kernel_rfl) _ _ _ _ rfl _ _ rfl rfl _ _ HR.out ?_; refine rz 10 (by kernel_rfl) rfl fun K hK => ?_; go_simp; refine hK _ _ ?_; clear hK K; refine wpAnyIn_done (by kernel_rfl) ?_ _; gi_wp2; exact HFIN.out
   refine rz 0 (by kernel_rfl) rfl fun K hK => ?_; go_simp; refine hK _ _ ?_; clear hK K; refine wpAnyIn_ready (rs := [9]) (by kernel_rfl) (by simp) ?_; refine appendIn_ready rfl (by kernel_rfl) _ _ _ _ rfl _ _ rfl rfl _ _ HR.out ?_; refine rz 10 (by kernel_rfl) rfl fun K hK => ?_; go_simp; refine hK _ _ ?_; clear hK K; refine wpAnyIn_done (by kernel_rfl) ?_ _; gi_wp2; exact HFIN.out
   rotate_left
   refine rz 1 (by kernel_rfl) rfl fun K hK => ?_; go_simp; refine hK _ _ ?_; clear hK K; rotate_left
   rotate_left
   refine r2 0 7 (by kernel_rfl) rfl rfl (fun K hK => ?_) (fun K hK => ?_) <;> (go_simp; refine hK _ _ ?_; clear hK K)
   rotate_left
   refine r2 0 8 (by kernel_rfl) rfl rfl (fun K hK => ?_) (fun K hK => ?_) <;> (go_simp; refine hK _ _ ?_; clear hK K)
   refine rz 8 (by kernel_rfl) rfl fun K hK => ?_; go_simp; refine hK _ _ ?_; clear hK K; refine wpAnyIn_ready (rs := [9]) (by kernel_rfl) (by simp) ?_; refine appendIn_ready rfl (by kernel_rfl) _ _ _ _ rfl _ _ rfl rfl _ _ HR.out ?_; refine rz 10 (by kernel_rfl) rfl fun K hK => ?_; go_simp; refine hK _ _ ?_; clear hK K; refine wpAnyIn_done (by kernel_rfl) ?_ _; gi_wp2; exact HFIN.out
   refine rz 0 (by kernel_rfl) rfl fun K hK => ?_; go_simp; refine hK _ _ ?_; clear hK K; refine wpAnyIn_ready (rs := [9]) (by kernel_rfl) (by simp) ?_; refine appendIn_ready rfl (by kernel_rfl) _ _ _ _ rfl _ _ rfl rfl _ _ HR.out ?_; refine rz 10 (by kernel_rfl) rfl fun K hK => ?_; go_simp; refine hK _ _ ?_; clear hK K; refine wpAnyIn_done (by kernel_rfl) ?_ _; gi_wp2; exact HFIN.out
   refine r2 0 1 (by kernel_rfl) rfl rfl (fun K hK => ?_) (fun K hK => ?_) <;> (go_simp; refine hK _ _ ?_; clear hK K)
   refine rz 1 (by kernel_rfl) rfl fun K hK => ?_; go_simp; refine hK _ _ ?_; clear hK K; rotate_left
   refine r2 0 7 (by kernel_rfl) rfl rfl (fun K hK => ?_) (fun K hK => ?_) <;> (go_simp; refine hK _ _ ?_; clear hK K)
   rotate_left
   refine r2 0 8 (by kernel_rfl) rfl rfl (fun K hK => ?_) (fun K hK => ?_) <;> (go_simp; refine hK _ _ ?_; clear hK K)
   refine rz 8 (by kernel_rfl) rfl fun K hK => ?_; go_simp; refine hK _ _ ?_; clear hK K; refine wpAnyIn_ready (rs := [9]) (by kernel_rfl) (by simp) ?_; refine appendIn_ready rfl (by kernel_rfl) _ _ _ _ rfl _ _ rfl rfl _ _ HR.out ?_; refine rz 10 (by kernel_rfl) rfl fun K hK => ?_; go_simp; refine hK _ _ ?_; clear hK K; refine wpAnyIn_done (by kernel_rfl) ?_ _; gi_wp2; exact HFIN.out
   refine rz 0 (by kernel_rfl) rfl fun K hK => ?_; go_simp; refine hK _ _ ?_; clear hK K; refine wpAnyIn_ready (rs := [9]) (by kernel_rfl) (by simp) ?_; refine appendIn_ready rfl (by kernel_rfl) _ _ _ _ rfl _ _ rfl rfl _ _ HR.out ?_; refine rz 10 (by kernel_rfl) rfl fun K hK => ?_; go_simp; refine hK _ _ ?_; clear hK K; refine wpAnyIn_done (by kernel_rfl) ?_ _; gi_wp2; exact HFIN.out
   all_goals (refine rz 7 (by kernel_rfl) rfl fun K hK => ?_; go_simp; refine hK _ _ ?_; clear hK K; refine rz 8 (by kernel_rfl) rfl fun K hK => ?_; go_simp; refine hK _ _ ?_; clear hK K; refine wpAnyIn_ready (rs := [9]) (by kernel_rfl) (by simp) ?_; refine appendIn_ready rfl (by kernel_rfl) _ _ _ _ rfl _ _ rfl rfl _ _ HR.out ?_; refine rz 10 (by kernel_rfl) rfl fun K hK => ?_; go_simp; refine hK _ _ ?_; clear hK K; refine wpAnyIn_done (by kernel_rfl) ?_ _; gi_wp2; exact HFIN.out)
 case hdone =>
  intro C Wl hI hK
  have hbl := hI.chg
  obtain ⟨Ac, cc, xs, hk1, hk2, hk3, hk4⟩ := hI.row
  have y1 := cell_of_one hk1
  have HK2 := Lib.hid (And.intro hk2 (And.intro hk3 hk4))
  have HE2 : Hid (Wl.heap[W3.heap.size]? = some (.deferred (some []))) := Lib.hid hK
  have HE4 : Hid (Below hh W3 Wl) := Lib.hid (hbl.toBelow (fun k hk => by simp only [List.mem_cons, List.not_mem_nil, or_false] at hk; omega) (by omega))
  clear hI hK hbl hk1 hk2 hk3 hk4
  go_wp2_with fail
  have hcp := chg_putObjIt Wl W3.heap.size (.deferred none)
  have hsz : hh + 2 ≤ Wl.heap.size := by have := HE4.out.size; omega
  refine ⟨by simp, .inl ⟨_, _, rfl, run_takeDeferred HE2.out, ?_⟩⟩
  refine ⟨_, results_tmp rfl _ _ _, ⟨Ac, cc, xs, rfl, HK2.out.1.chg hcp (fun k hk hm => by have := (HK2.out.2.1 k hk).1; rw [List.mem_singleton] at hm; omega), fun k hk => by have := (HK2.out.2.1 k hk).1; have := HHE.out; omega, ?_⟩, ?_⟩
  · have h6 := HK2.out.2.2.keep (L' := blk Ac) hcp.size (fun k h1 h2 _ => hcp.same k h2 (by rw [List.mem_singleton]; omega)) (fun k hk => .inl (List.mem_cons_of_mem _ (List.mem_cons_of_mem _ hk)))
    exact ⟨h6.1, fun i p hp => by
     obtain ⟨A', c', e1, e2, e0, e3⟩ := h6.2 i p hp
     exact ⟨A', c', e1, e2, e0, fun k hk => ⟨by have := (e3 k hk).1; have := HHE.out; omega, (e3 k hk).2⟩⟩⟩
  rw [HHE.out]
  have h3 := HB3.out
  rw [HHE.out] at h3
  exact h3.trans (HE4.out.trans (hcp.toBelow (fun k hk => by simp only [List.mem_cons, List.not_mem_nil, or_false] at hk; omega) (by omega)))
theorem eachD (w : World) (p : Option Addr) :
 Calls Tryz.prog 56 #[.pointer p] w fun e w' => e = .returned (.func (.func 80) #[] #[.pointer (some ⟨w.heap.size, 0, none⟩)]) ∧ w' = w.alloc (.cells #[.pointer p] 28) := by
 have hmf : ∀ (fn : Fn) (first cap : Array Value) (w : World), (Instr.makeFunc fn first cap).run Tryz.prog w = .ok (.func fn first cap) w := fun _ _ _ _ => rfl
 go_enter Tryz.func56, Tryz.ntmps56
 go_wp2
 go_ret
 exact ⟨rfl, rfl⟩
theorem eachD_enters (args : Array Value) (w : World) : (callFunc 80 args).run Tryz.prog w = .ok (.enter 80 args) w := enters_of Tryz.func80 (by kernel_rfl) rfl args w
set_option maxHeartbeats 3200000 in
theorem eachD1 (w : World) (Bx d : Nat) (A : Option Addr) (n c : Nat) (ps : List (ByteArray × Value)) (hbx : w.cell? ⟨Bx, 0, none⟩ = some (.pointer (some ⟨d, 0, none⟩))) (h : RowAtS w d 2 A n c ps) (hn : n ≤ 90000) (zf : Value → List Int) (hfs : FilesZ w zf ps) :
 IterX Tryz.prog 80 #[.pointer (some ⟨Bx, 0, none⟩)] arS 1 (fun B C ys W => HeldX B [C] zf ps ys W ∧ (C < W.heap.size ∨ ys = [])) w := by
 intro n2 hn2 l J Jx hJ h0 hY
 have HC := Lib.hid (held_any w d A n c ps h hn zf hfs)
 have hlen := h.row.len
 have HJ := Lib.hid hJ
 have H0 := Lib.hid h0
 have HY := Lib.hid hY
 obtain ⟨m, hm⟩ : ∃ m, ps.length = m := ⟨_, rfl⟩
 have hm90 : m ≤ 90000 := by omega
 have HM := Lib.hid hm
 rw [hm] at HC
 clear h hfs hJ h0 hY hlen hm
 simp only [List.append_toArray, List.cons_append, List.nil_append]
 refine callsIn_of_wp Tryz.func80 rfl trivial ?_ rfl
 simp only [Tryz.ntmps80, List.size_toArray, List.length_cons, List.length_nil, Nat.reduceAdd, Nat.reduceSub, Array.replicate_succ, Array.replicate_zero, List.push_toArray, List.append_toArray, List.nil_append, List.cons_append]
 gi_wp2_with (refine ⟨trivial, ?_⟩; gi_at_call 81; refine (callsIn_wide.2 HC.out).mono ?_; rintro e W1 ⟨⟨A', c', xs, rfl, hl, hf, hx⟩, hb⟩; have HL := Lib.hid hl; have HF := Lib.hid hf; have HB := Lib.hid hb; have HX := Lib.hid hx; clear hl hf hb hx)
 have hxl : xs.length = m := by have := HL.out.1; rw [cellsP_length] at this; omega
 have HXL := Lib.hid hxl
 have hmc : m ≤ c' := HL.out.2.1
 obtain ⟨C, hWC0, hA0, hX0⟩ : ∃ C, w.heap.size ≤ C ∧ (0 < m → ∃ off, A' = some ⟨C, off, none⟩ ∧ C < W1.heap.size) ∧ HeldX w.heap.size [C] zf ps xs W1 ∧ (C < W1.heap.size ∨ xs = []) := by
  cases A' with
  | none =>
   have h1 := HL.out.2.2.2.1 rfl
   have h2 := HL.out.2.1
   refine ⟨w.heap.size, Nat.le_refl _, fun h => by omega, ⟨HX.out.1, fun i p hp => ?_⟩, .inr (List.eq_nil_of_length_eq_zero (by omega))⟩
   have h3 := (List.getElem?_eq_some_iff.1 hp).1
   have h4 := HM.out
   omega
  | some ad =>
   obtain ⟨g, off, rfl, hg, _⟩ := HL.out.2.2.2.2 ad rfl
   refine ⟨g, HF.out g (mem_blk.2 ⟨_, rfl, rfl⟩), fun _ => ⟨off, rfl, hg⟩, HX.out.keep (Nat.le_refl _) (fun _ _ _ _ => rfl) (fun k hk => ?_), .inl hg⟩
   rw [List.mem_singleton] at hk
   exact .inl (mem_blk.2 ⟨_, rfl, hk.symm⟩)
 have HWC := Lib.hid hWC0
 have HA := Lib.hid hA0
 have HX0 := Lib.hid hX0
 clear hWC0 hA0 hxl hX0
 gi_loopw [8] (fun i wr => ∃ k : Nat, k ≤ m ∧ i = .int .i64 k ∧ J C xs (xs.take k) wr ∧ wr.heap[C]? = W1.heap[C]? ∧ (0 < m → C < wr.heap.size)) (fun i _ => m - (intOf i).toNat)
 case atStart => exact ⟨0, by omega, rfl, H0.out C xs W1 HWC.out HB.out HX0.out, rfl, fun h => by obtain ⟨_, _, h2⟩ := HA.out h; exact h2⟩
 case round =>
  obtain ⟨k, hk, rfl, hJ, hC, hlt0⟩ := hrel
  rcases Nat.lt_or_ge k m with hkn | hkn
  · have hlt := hlt0 (by omega)
    obtain ⟨off, rfl, _⟩ := HA.out (by omega)
    clear hlt0
    obtain ⟨p, hp⟩ : ∃ p, xs[k]? = some p := ⟨_, List.getElem?_eq_getElem (by have := HXL.out; omega)⟩
    obtain ⟨q, hq⟩ : ∃ q, ps[k]? = some q := ⟨_, List.getElem?_eq_getElem (by have := HM.out; omega)⟩
    obtain ⟨FA, fc, ex, _⟩ := HX0.out.1.2 k q hq
    rw [hp] at ex
    obtain ⟨_, _, eg, _, hcs, _⟩ := HL.out.at (by omega)
    cases eg
    have hat := cellsP_at encS xs k p hp
    have hcell1 : wr.cell? ⟨C, off + k * 2, none⟩ = some (encS p.1) := ((World.cell?_of_block (w := W1) (a := ⟨C, off + k * 2, none⟩) hC).trans (hcs (k * 2) (by omega))).trans hat.1
    have hcell2 : wr.cell? ⟨C, off + k * 2 + 1, none⟩ = some p.2 := ((World.cell?_of_block (w := W1) (a := ⟨C, off + k * 2 + 1, none⟩) hC).trans (by rw [Nat.add_assoc]; exact hcs (k * 2 + 1) (by omega))).trans hat.2
    have HP := Lib.hid hp
    obtain ⟨x, v⟩ := p
    obtain ⟨qx, qv⟩ := q
    obtain ⟨fl, hfl⟩ : ∃ fl, (zf qv).length = fl := ⟨_, rfl⟩
    simp only [Option.some.injEq, Prod.mk.injEq, hfl] at ex
    obtain ⟨rfl, rfl⟩ := ex
    simp only at hcell1 hcell2
    unfold encS at hcell1
    have HT : Hid (xs.take (k + 1) = xs.take k ++ [(x, .slice FA fl fc)]) := Lib.hid (by rw [List.take_add_one, HP.out]; rfl)
    have HC2 := Lib.hid hC
    have HJ2 := Lib.hid hJ
    clear hcs hp hat hJ hC hq hfl
    obtain ⟨Wa, hWa⟩ : ∃ Wa, wr.alloc (.cells #[.string x, .slice FA fl fc] 56) = Wa := ⟨_, rfl⟩
    have hbW : Below wr.heap.size wr Wa := by rw [← hWa]; exact (Below.refl _ wr).alloc (Nat.le_refl _) _
    have hsW : wr.heap.size ≤ Wa.heap.size := hbW.size
    have HCa : Hid (Wa.heap[C]? = W1.heap[C]?) := Lib.hid ((hbW.block C hlt).trans HC2.out)
    have hltW : C < Wa.heap.size := by omega
    have HJa := Lib.hid (HJ.out C xs _ wr Wa HJ2.out hbW)
    obtain ⟨fn, tmps, assign, body, hyl, hR⟩ := HY.out C xs (xs.take k) (x, .slice FA fl fc) Wa HWC.out hltW HJa.out (by rw [← HT.out]; exact List.take_prefix _ _)
    unfold arS encS at hyl
    simp only at hyl
    have HR := Lib.hid hR
    rw [← hWa] at hyl
    have HWA := Lib.hid hWa
    have hkn' : (k : Int) < (m : Int) := by omega
    have hk0 : (0 : Int) ≤ (k : Int) := by omega
    clear hR hbW hsW hWa
    gi_wp2
    rw [HWA.out]
    refine HR.out.mono ?_
    rintro e W3 (⟨rfl, hJ3, hC3, hs3⟩ | ⟨rfl, hJ3⟩)
    · have HJ3 := Lib.hid hJ3
      have HC3 := Lib.hid (hC3.trans HCa.out)
      have hlt3 : C < W3.heap.size := Nat.lt_of_lt_of_le hltW hs3
      clear hJ3 hC3 hs3 hyl
      gi_wp2
      go_roundw
      case rel => exact ⟨k + 1, by omega, by go_num, by rw [HT.out]; exact HJ3.out, HC3.out, fun _ => hlt3⟩
      case measure => simp [intOf]; omega
    · have HX1 : Hid (∃ pre, pre <+: xs ∧ Jx C xs pre W3) := Lib.hid ⟨_, by rw [← HT.out]; exact List.take_prefix _ _, hJ3⟩
      clear hJ3 hyl
      gi_wp2
      refine bodyPost_ret (results_none rfl _ _ _) rfl ?_
      exact ⟨⟨_, rfl⟩, C, xs, HWC.out, .inr HX1.out⟩
  · obtain rfl : k = m := by omega
    have HE : Hid (J C xs xs wr) := by rw [List.take_of_length_le (by rw [HXL.out]; exact Nat.le_refl _)] at hJ; exact Lib.hid hJ
    clear hJ hC
    gi_wp2
    go_end0
    exact ⟨⟨_, rfl⟩, C, xs, HWC.out, .inl HE.out⟩
end
section
open Go.RowKit Go.Maps
def zOf (v : Value) : Int := match v with | .int _ z => z | _ => 0
theorem zOf_cells : ∀ l : List Value, (∀ u ∈ l, ∃ z : Int, 0 ≤ z ∧ z < 256 ∧ u = .int .u8 z) → l = cellsZ (l.map zOf) ∧ ∀ z ∈ l.map zOf, 0 ≤ z ∧ z ≤ 255 := by
 intro l h
 constructor
 · unfold cellsZ
   rw [List.map_map]
   conv => lhs; rw [← List.map_id l]
   refine List.map_congr_left fun u hu => ?_
   obtain ⟨z, _, _, rfl⟩ := h u hu
   rfl
 · intro z hz
   obtain ⟨u, hu, rfl⟩ := List.mem_map.1 hz
   obtain ⟨z, h0, h1, rfl⟩ := h u hu
   exact ⟨h0, by show z ≤ 255; omega⟩
theorem FilesZ.below {w w' : World} {zf : Value → List Int} {ps : List (ByteArray × Value)} (h : FilesZ w zf ps) (hb : Below w.heap.size w w') : FilesZ w' zf ps := fun p hp => by
 obtain ⟨f, num, A, n, c, su, e, h1, h2, h3⟩ := h p hp
 exact ⟨f, num, A, n, c, su, e, h1.same (hb.block f (lt_of_block h1)), h2.below hb, h3⟩
section
variable {w W : World} {d x : Nat} {own ox : Nat → Nat} {r : RD}
end
section
variable {w : World} {d : Nat} {b : DBox} {RA C F : Option Addr} {rn rc cn cc fn fc : Nat} {ps : List (ByteArray × Value)} {css fs : List Value}
end
section
variable {w w' : World} {d : Nat} {own own' : Nat → Nat} {b : DBox} {F RA SA C : Option Addr} {fn fc rn rc sn sc cn cc : Nat} {fs css : List Value} {ps ss : List (ByteArray × Value)} {chl : List (List (ByteArray × Value))} {nm su : Value → Nat} {dt : Value → List Value} {r : RD}
end
theorem names_tag (nm : Value → Nat) (ps : List (ByteArray × Value)) : namesV (mapT nm ps) = namesV ps := by
 unfold namesV mapT
 rw [List.map_map]
 rfl
theorem IsD.list {w : World} {d : Nat} {own : Nat → Nat} {r : RD} (h : IsD w d own r) :
 Calls Tryz.prog 22 #[.pointer (some ⟨d, 0, none⟩)] w fun e w' => (∃ A' c', e = .returned (.slice A' r.now.length c') ∧ SLine 1 w' A' r.now.length c' (namesV r.now) ∧ ∀ k ∈ blk A', w.heap.size ≤ k) ∧ Below w.heap.size w w' := by
 obtain ⟨hF, b, F, fn, fc, RA, rn, rc, SA, sn, sc, C, cn, cc, fs, ps, ss, css, chl, nm, dt, su, H, R⟩ := h
 rw [H.rnow R, names_tag, show (mapT nm ps).length = ps.length from by unfold mapT; rw [List.length_map]]
 refine list_any w d RA rn rc ps H.nowAt.rowAt H.nowAt.len fun p hp => ?_
 obtain ⟨f, num, A, c, sure, e, _⟩ := H.filesIn p hp
 exact ⟨_, e⟩
end
end Go.Proofs.YtdjnebgjdekmaaaGreatDoor
