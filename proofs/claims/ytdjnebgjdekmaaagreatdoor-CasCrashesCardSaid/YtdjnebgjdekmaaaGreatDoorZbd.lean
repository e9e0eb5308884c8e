/- The contract of disk's copied: a directory that goes on alone, with another file for each. -/
import Derived.Test.YtdjnebgjdekmaaaGreatDoorZar
import Derived.Test.YtdjnebgjdekmaaaGreatDoorZbc
import Derived.Deep.CutRange
import Derived.Laws.Rows
import Derived.Deep.RegionHeld3
import Derived.Deep.RegionWith
import Derived.Sort.CutIn
import Derived.Test.YtdjnebgjdekmaaaGreatDoorZau
import Derived.Maps.OwnSet
import Derived.Maps.Views
import Derived.Lib.SliceRun
set_option linter.unusedVariables false
set_option maxRecDepth 100000
namespace Go.Proofs.YtdjnebgjdekmaaaGreatDoor
section
attribute [local go_sem] Oper.semAt_some
open Go.RowKit Go.Shelf
theorem settleId (w : World) (a : Option Addr) : Calls Tryz.prog 70 #[.pointer a] w fun e w' => e = .returned (.pointer a) ∧ w = w' := by
 go_enter Tryz.func70, Tryz.ntmps70
 go_wp2
 go_ret
 exact ⟨rfl, rfl⟩
theorem putP_last {ps : List (ByteArray × Value)} {k : ByteArray} (h : ∀ p ∈ ps, ltS p.1 k = true) (v : Value) : putP ltS ps k v = ps ++ [(k, v)] := by
 unfold putP
 rw [List.filter_eq_self.2 h, List.filter_eq_nil_iff.2 (fun p hp => by rw [orders_S.asym (h p hp)]; simp)]
def mapF (φ : Option Addr → Option Addr) (ps : List (ByteArray × Value)) : List (ByteArray × Value) := ps.map fun p => (p.1, match p.2 with | .pointer a => .pointer (φ a) | v => v)
theorem mapF_snoc (φ : Option Addr → Option Addr) (ps : List (ByteArray × Value)) (k : ByteArray) (a : Option Addr) : mapF φ (ps ++ [(k, .pointer a)]) = mapF φ ps ++ [(k, .pointer (φ a))] := by unfold mapF; rw [List.map_append]; rfl
theorem mapF_last {φ : Option Addr → Option Addr} {ps all : List (ByteArray × Value)} {k : ByteArray} {a : Option Addr} (hr : Rises ltS all) (hp : ps ++ [(k, .pointer a)] <+: all) : putP ltS (mapF φ ps) k (.pointer (φ a)) = mapF φ (ps ++ [(k, .pointer a)]) := by
 rw [mapF_snoc]
 refine putP_last (fun p hpm => ?_) _
 have h1 : Rises ltS (ps ++ [(k, .pointer a)]) := List.Pairwise.sublist hp.sublist hr
 have h2 := (List.pairwise_append.1 h1).2.2
 unfold mapF at hpm
 obtain ⟨x, hx, rfl⟩ := List.mem_map.1 hpm
 exact h2 x hx (k, .pointer a) (by simp)
theorem eachS_enters (args : Array Value) (w : World) : (callFunc 74 args).run Tryz.prog w = .ok (.enter 74 args) w := enters_of Tryz.func74 (by kernel_rfl) rfl args w
structure CopyAt (w0 : World) (φ : Option Addr → Option Addr) (b D C : Nat) (pre : List (ByteArray × Value)) (W : World) : Prop where
 chg : Chg [b] w0 W
 row : ∃ A n c, W.heap[b]? = some (.cells #[.slice A n c] 70 (0, 0)) ∧ RowG encS ltS W A n c (mapF φ pre) ∧ ∀ j ∈ blk A, D + 2 ≤ j ∧ j ≠ C
theorem CopyAt.steady {w0 : World} {φ : Option Addr → Option Addr} {b C : Nat} {pre : List (ByteArray × Value)} (hb : b < w0.heap.size) : SteadyIt w0.heap.size (CopyAt w0 φ b w0.heap.size C pre) := by
 rintro W W' ⟨h1, A, n, c, h2, h3, h4⟩ hc
 exact ⟨h1.andThen hc (fun k hk => by simp only [List.mem_cons, List.not_mem_nil, or_false] at hk; omega), A, n, c, (hc.same b (lt_of_block h2) (by simp only [List.mem_cons, List.not_mem_nil, or_false]; omega)).trans h2, h3.chg hc (fun k hk hm => by have := (h4 k hk).1; simp only [List.mem_cons, List.not_mem_nil, or_false] at hm; omega), h4⟩
set_option maxHeartbeats 6400000 in
theorem copied_any (w : World) (q o : Nat) (A : Option Addr) (n c : Nat) (ps : List (ByteArray × Value)) (h : RowAtS w q o A n c ps) (hn : n ≤ 100000) (hsh : ∀ p ∈ ps, ∃ a : Option Addr, p.2 = .pointer a)
 (g : FuncId) (caps : Array Value) (hent : ∀ (args : Array Value) (w : World), (callFunc g args).run Tryz.prog w = .ok (.enter g args) w) (φ : Option Addr → Option Addr) (hother : ∀ W, Below w.heap.size w W → ∀ p ∈ ps, ∀ a, p.2 = .pointer a → Calls Tryz.prog g (#[.pointer a] ++ caps) W fun e W' => e = .returned (.pointer (φ a)) ∧ Below W.heap.size W W') :
 Calls Tryz.prog 42 #[.pointer (some ⟨q, o, none⟩), .func (.func g) #[] caps] w fun e w' => (∃ A' n' c', e = .returned (.agg #[.slice A' n' c']) ∧ RowG encS ltS w' A' n' c' (mapF φ ps) ∧ ∀ k ∈ blk A', w.heap.size ≤ k) ∧ Below w.heap.size w w' := by
 have HH := Lib.hid h
 have HSH := Lib.hid hsh
 have HO := Lib.hid hother
 have HENT := Lib.hid hent
 have hlen := h.row.len
 have HR := Lib.hid h.row.rises
 have hqs := World.block_lt_of_cell? w _ h.cell
 clear h hsh hother hent
 refine (callsIn_wide (n := 8)).1 ?_
 refine callsIn_of_wp_marks Tryz.func42 rfl trivial ?_ rfl
 simp only [Tryz.ntmps42, List.size_toArray, List.length_cons, List.length_nil, Nat.reduceAdd, Nat.reduceSub, Array.replicate_succ, Array.replicate_zero, List.push_toArray, List.append_toArray, List.nil_append, List.cons_append]
 refine wpIn_wide.2 ?_
 obtain ⟨hh, hhe⟩ : ∃ hh, w.heap.size = hh := ⟨_, rfl⟩
 obtain ⟨W2, hW2⟩ : ∃ W2, ((w.alloc (.cells #[.func (.func g) #[] caps] 93)).alloc (.cells #[.slice none 0 0] 70)).alloc (.cells #[.slice none 0 0] 70) = W2 := ⟨_, rfl⟩
 have hB2 : Below w.heap.size w W2 := by rw [← hW2]; exact (((Below.refl _ w).alloc (Nat.le_refl _) _).alloc (by simp) _).alloc (by simp; omega) _
 have hs2 : W2.heap.size = hh + 3 := by rw [← hW2, ← hhe]; simp
 have k0 : W2.heap[hh]? = some (.cells #[.func (.func g) #[] caps] 93 (0, 0)) := by
  have := heap_alloc_new w (.cells #[.func (.func g) #[] caps] 93 (0, 0))
  rw [hhe] at this
  rw [← hW2]
  exact (Below.heap_alloc _ _ _ (by simp; omega)).trans ((Below.heap_alloc _ _ _ (by simp; omega)).trans this)
 have k1 : W2.heap[hh + 1]? = some (.cells #[.slice none 0 0] 70 (0, 0)) := by
  have := heap_alloc_new (w.alloc (.cells #[.func (.func g) #[] caps] 93)) (.cells #[.slice none 0 0] 70 (0, 0))
  rw [World.size_alloc, hhe] at this
  rw [← hW2]
  exact (Below.heap_alloc _ _ _ (by simp; omega)).trans this
 have k2 : W2.heap[hh + 2]? = some (.cells #[.slice none 0 0] 70 (0, 0)) := by
  have := heap_alloc_new ((w.alloc (.cells #[.func (.func g) #[] caps] 93)).alloc (.cells #[.slice none 0 0] 70)) (.cells #[.slice none 0 0] 70 (0, 0))
  rw [World.size_alloc, World.size_alloc, hhe] at this
  rw [← hW2]
  exact this
 have HK0 := Lib.hid k0
 have HK1 := Lib.hid k1
 have HK2 := Lib.hid k2
 have HB2 := Lib.hid hB2
 have HHE := Lib.hid hhe
 clear k0 k1 k2 hB2
 go_wp2_with fail
 refine (reach_S _ _).mono ?_
 rintro e w' ⟨rfl, rfl⟩
 obtain ⟨W3, hW3⟩ : ∃ W3, W2.alloc (.cells #[.pointer (some ⟨q, o, none⟩)] 95) = W3 := ⟨_, rfl⟩
 have hB3 : Below W2.heap.size W2 W3 := by rw [← hW3]; exact (Below.refl _ W2).alloc (Nat.le_refl _) _
 have hs3 : W3.heap.size = hh + 4 := by rw [← hW3]; simp [hs2]
 have hbx : W3.heap[hh + 3]? = some (.cells #[.pointer (some ⟨q, o, none⟩)] 95 (0, 0)) := by
  have := heap_alloc_new W2 (.cells #[.pointer (some ⟨q, o, none⟩)] 95 (0, 0))
  rw [hs2, hW3] at this
  exact this
 rw [hs2, hW3]
 have HBX := Lib.hid hbx
 have HB3 : Hid (Below w.heap.size w W3) := Lib.hid (HB2.out.trans (hB3.mono (by have := HB2.out.size; omega)))
 have j0 := (hB3.block hh (by omega)).trans HK0.out
 have j1 := (hB3.block (hh + 1) (by omega)).trans HK1.out
 have j2 := (hB3.block (hh + 2) (by omega)).trans HK2.out
 have HJ0 := Lib.hid j0
 have HJ1 := Lib.hid j1
 have HJ2 := Lib.hid j2
 have hq3 : q < hh := by have := HHE.out; have h5 : q < w.heap.size := hqs; omega
 clear hW2 hW3 hbx hB3 j0 j1 j2 HK0 HK1 HK2
 have HIT : Hid (∀ W1, Below W3.heap.size W3 W1 → IterOk Tryz.prog 74 #[.pointer (some ⟨hh + 3, 0, none⟩)] arS 2 ps W1) := Lib.hid (fun W1 hb => by
  have hbw := HB3.out.trans (hb.mono (by have := HHE.out; omega))
  exact each1_S W1 (hh + 3) (some ⟨q, o, none⟩) A n c ps (cell_of_one ((hb.block _ (by omega)).trans HBX.out)) (.inr ⟨q, o, rfl, (hbw.cell (p := ⟨q, o, none⟩) hqs).trans HH.out.cell, HH.out.row.below hbw⟩) (by omega) HSH.out)
 go_wp2_with fail
 refine (wpIn_wide (n := 8)).1 ?_
 refine range_it 8 2 (by decide) 74 #[.pointer (some ⟨hh + 3, 0, none⟩)] arS rfl eachS_enters (fun _ => rfl) ps HIT.out (fun C pre W => CopyAt W3 φ (hh + 2) W3.heap.size C pre W) (fun _ _ _ _ => False) (fun C xs => CopyAt.steady (by omega)) (fun _ _ _ _ _ h _ => h) ?h0 ?hab ?hdone (fun _ _ _ _ _ h _ => h.elim)
 case h0 =>
  intro C W1 hC hb1
  exact ⟨Chg.of_below hb1, none, 0, 0, (hb1.block _ (by omega)).trans HJ2.out, RowG.nil _, fun j hj => by cases hj⟩
 case hab =>
  apply Exists.intro
  refine ⟨?hassign, ?hbody⟩
  case hassign =>
   intro x W K hK
   unfold arS encS
   gi_wp2
   exact hK
  case hbody =>
   intro C pre x Wr hC hCW hD1 hI hpre
   obtain ⟨x, v⟩ := x
   have hmem : (x, v) ∈ ps := hpre.subset (by simp)
   obtain ⟨a, ha⟩ := HSH.out _ hmem
   simp only at ha
   subst ha
   have hlow : ∀ k, k < W3.heap.size → k ≠ hh + 2 → Wr.heap[k]? = W3.heap[k]? := fun k h1 h2 => hI.chg.same k h1 (by simp only [List.mem_cons, List.not_mem_nil, or_false]; omega)
   have c0 : Wr.cell? ⟨hh, 0, none⟩ = some (.func (.func g) #[] caps) := cell_of_one ((hlow _ (by omega) (by omega)).trans HJ0.out)
   have hbr : Below w.heap.size w Wr := HB3.out.trans (hI.chg.toBelow (fun k hk => by simp only [List.mem_cons, List.not_mem_nil, or_false] at hk; have := HHE.out; omega) (by have := HHE.out; omega))
   have HOT := Lib.hid (HO.out Wr hbr _ hmem a rfl)
   have hlen2 : (mapF φ pre).length ≤ 100000 := by
    have h1 := hpre.length_le
    have h3 : (mapF φ pre).length = pre.length := by unfold mapF; simp
    simp only [List.length_append, List.length_cons, List.length_nil] at h1
    omega
   have HI := Lib.hid hI
   have HPRE := Lib.hid hpre
   clear hlow hbr hmem hI hpre
   gi_wp2_with fail
   refine ⟨trivial, ?_⟩
   rw [show Sem.run Tryz.prog (callFunc g (#[Value.pointer a] ++ caps)) Wr = _ from HENT.out _ _, Oper.uponIn_enter]
   refine ⟨fun _ => by omega, ?_⟩
   refine (CallsIn.inRound _ (callsIn_wide.2 HOT.out)).mono ?_
   rintro e Wc ⟨rfl, hbc⟩
   obtain ⟨Ac, nc, cc, hk1, hk2, hk3⟩ := HI.out.row
   have hlt2 := lt_of_block hk1
   have hn2 := hk2.len
   have HK1 := Lib.hid hk1
   have HPUT := Lib.hid (rput_S Wc (hh + 2) 0 #[.slice Ac nc cc] 70 Ac nc cc (mapF φ pre) ((hbc.block _ hlt2).trans hk1) rfl (fun hm => by have := (hk3 _ hm).1; omega) (hk2.below hbc) x (φ a) (by omega))
   have HK3 := Lib.hid hk3
   have HBC := Lib.hid hbc
   clear hk1 hk2 hk3 hbc hn2 hlen2
   have hfin : Hid (∀ Wp, RowTo encS ltS Wc (hh + 2) 0 #[.slice Ac nc cc] 70 Ac (putP ltS (mapF φ pre) x (.pointer (φ a))) Wp → KeepsIt W3.heap.size C Wr Wp ∧ CopyAt W3 φ (hh + 2) W3.heap.size C (pre ++ [(x, .pointer a)]) Wp) := Lib.hid (by
    rintro Wp ⟨A2, n2, c2, hb2, hR2, hC2, hF2⟩
    have hCr : Chg ((hh + 2) :: blk Ac) Wr Wp := (Chg.of_below HBC.out).trans hC2
    have hne : ∀ k ∈ (hh + 2) :: blk Ac, k ≠ W3.heap.size ∧ k ≠ W3.heap.size + 1 ∧ k ≠ C := by
     intro k hk
     rcases List.mem_cons.1 hk with rfl | hk
     · omega
     · have := HK3.out k hk; omega
    refine ⟨hCr.keepsIt (by omega) hCW (fun hm => (hne _ hm).1 rfl) (fun hm => (hne _ hm).2.1 rfl) (fun hm => (hne _ hm).2.2 rfl), HI.out.chg.andThen hCr (fun k hk => ?_), A2, n2, c2, ?_, ?_, fun j hj => ?_⟩
    · rcases List.mem_cons.1 hk with rfl | hk
      · exact .inl (by simp)
      · have := HK3.out k hk; exact .inr (by omega)
    · rw [hb2]; rfl
    · rw [← mapF_last HR.out HPRE.out]; exact hR2
    · rcases hF2 j hj with h5 | h5
      · exact HK3.out j h5
      · have := HBC.out.size; omega)
   gi_wp2_with (refine ⟨trivial, ?_⟩; gi_at_call 72; refine (CallsIn.inRound _ (callsIn_wide.2 HPUT.out)).mono ?_; rintro e Wp ⟨rfl, hT⟩)
   exact hfin.out _ hT
 case hdone =>
  intro C Wl hI hK
  obtain ⟨Ac, nc, cc, hk1, hk2, hk3⟩ := hI.row
  have hbl := hI.chg
  have hr1 := (hbl.same (hh + 1) (by omega) (by simp only [List.mem_cons, List.not_mem_nil, or_false]; omega)).trans HJ1.out
  have y1 := cell_of_one hr1
  have y1' := free_of_one hr1
  have y2 := cell_of_one hk1
  obtain ⟨Wo, hWo⟩ : ∃ Wo, Wl.setCell ⟨hh + 1, 0, none⟩ (.slice Ac nc cc) = Wo := ⟨_, rfl⟩
  have HE1 : Hid (Wo.heap[hh + 1]? = some (.cells #[.slice Ac nc cc] 70 (0, 0))) := by rw [← hWo]; exact Lib.hid (one_setCell hr1)
  have hcw : Chg [hh + 1] Wl Wo := by rw [← hWo]; exact (Chg.refl _ Wl).setCell (hh + 1) 0 _ (.inl (by simp))
  have HE2 : Hid (Wo.heap[W3.heap.size]? = some (.deferred (some []))) := Lib.hid ((hcw.same _ (lt_of_block hK) (by simp only [List.mem_cons, List.not_mem_nil, or_false]; omega)).trans hK)
  have HE3 : Hid (RowG encS ltS Wo Ac nc cc (mapF φ ps) ∧ ∀ j ∈ blk Ac, W3.heap.size + 2 ≤ j) := Lib.hid ⟨hk2.chg hcw (fun k hk hm => by have := (hk3 k hk).1; simp only [List.mem_cons, List.not_mem_nil, or_false] at hm; omega), fun j hj => (hk3 j hj).1⟩
  have HE4 : Hid (Below hh W3 Wo) := Lib.hid ((hbl.toBelow (fun k hk => by simp only [List.mem_cons, List.not_mem_nil, or_false] at hk; omega) (by omega)).trans (hcw.toBelow (fun k hk => by simp only [List.mem_cons, List.not_mem_nil, or_false] at hk; omega) (by have := hbl.size; omega)))
  have HK1 := Lib.hid hk1
  clear hk2 hk3 hI hK hbl hr1 hcw
  go_wp2_with fail
  have hcp := chg_putObjIt Wo W3.heap.size (.deferred none)
  have hsz : hh + 4 ≤ Wo.heap.size := by have := HE4.out.size; omega
  refine ⟨by simp, .inl ⟨_, _, rfl, run_takeDeferred HE2.out, ?_⟩⟩
  refine ⟨_, results_cell_row rfl _ _ (hh + 1) _ _ _ _ rfl ((World.putObj_heap_other (by omega)).trans HE1.out) rfl rfl rfl, ⟨Ac, nc, cc, rfl, HE3.out.1.chg hcp (fun k hk hm => ?_), fun k hk => ?_⟩, ?_⟩
  · have := HE3.out.2 k hk
    simp only [List.mem_cons, List.not_mem_nil, or_false] at hm
    omega
  · have := HE3.out.2 k hk
    have := HHE.out
    omega
  · rw [HHE.out]
    have h3 := HB3.out
    rw [HHE.out] at h3
    exact h3.trans (HE4.out.trans (hcp.toBelow (fun k hk => by simp only [List.mem_cons, List.not_mem_nil, or_false] at hk; omega) (by omega)))
def sumLen (ln : Value → Nat) (ps : List (ByteArray × Value)) : Nat := (ps.map fun p => ln p.2).sum
theorem sumLen_snoc (ln : Value → Nat) (ps : List (ByteArray × Value)) (p : ByteArray × Value) : sumLen ln (ps ++ [p]) = sumLen ln ps + ln p.2 := by unfold sumLen; simp
theorem sumLen_prefix (ln : Value → Nat) {ps all : List (ByteArray × Value)} (h : ps <+: all) : sumLen ln ps ≤ sumLen ln all := by
 obtain ⟨t, rfl⟩ := h
 unfold sumLen
 simp
def FilesIn (w : World) (ln : Value → Nat) (ps : List (ByteArray × Value)) : Prop := ∀ p ∈ ps, ∃ f num A c sure, p.2 = .pointer (some ⟨f, 0, none⟩) ∧ FileAt w f num A (ln p.2) c sure
structure SumAt (w0 : World) (ln : Value → Nat) (b : Nat) (pre : List (ByteArray × Value)) (W : World) : Prop where
 chg : Chg [b] w0 W
 cnt : W.heap[b]? = some (.cells #[.int .i64 (sumLen ln pre : Int)] 3 (0, 0))
theorem SumAt.steady {w0 : World} {ln : Value → Nat} {b : Nat} {pre : List (ByteArray × Value)} (hb : b < w0.heap.size) : SteadyIt w0.heap.size (SumAt w0 ln b pre) := by
 rintro W W' ⟨h1, h2⟩ hc
 exact ⟨h1.andThen hc (fun k hk => by simp only [List.mem_cons, List.not_mem_nil, or_false] at hk; omega), (hc.same b (lt_of_block h2) (by simp only [List.mem_cons, List.not_mem_nil, or_false]; omega)).trans h2⟩
set_option maxHeartbeats 3200000 in
theorem used_any (w : World) (d : Nat) (A : Option Addr) (n c : Nat) (ps : List (ByteArray × Value)) (h : RowAtS w d 2 A n c ps) (hn : n ≤ 90000) (ln : Value → Nat) (hfs : FilesIn w ln ps) (hsum : sumLen ln ps ≤ 1000000000000) :
 Calls Tryz.prog 51 #[.pointer (some ⟨d, 0, none⟩)] w fun e w' => e = .returned (.int .i64 (sumLen ln ps : Int)) ∧ Below w.heap.size w w' := by
 have HH := Lib.hid h
 have HFS := Lib.hid hfs
 have hqs := World.block_lt_of_cell? w _ h.cell
 have HSH : Hid (∀ p ∈ ps, ∃ a : Option Addr, p.2 = .pointer a) := Lib.hid fun p hp => by obtain ⟨f, _, _, _, _, e, _⟩ := hfs p hp; exact ⟨_, e⟩
 have HSUM := Lib.hid hsum
 clear h hfs hsum
 refine (callsIn_wide (n := 8)).1 ?_
 refine callsIn_of_wp_marks Tryz.func51 rfl trivial ?_ rfl
 simp only [Tryz.ntmps51, List.size_toArray, List.length_cons, List.length_nil, Nat.reduceAdd, Nat.reduceSub, Array.replicate_succ, Array.replicate_zero, List.push_toArray, List.append_toArray, List.nil_append, List.cons_append]
 refine wpIn_wide.2 ?_
 obtain ⟨hh, hhe⟩ : ∃ hh, w.heap.size = hh := ⟨_, rfl⟩
 obtain ⟨W2, hW2⟩ : ∃ W2, w.alloc (.cells #[.int .i64 0] 3) = W2 := ⟨_, rfl⟩
 have hB2 : Below w.heap.size w W2 := by rw [← hW2]; exact (Below.refl _ w).alloc (Nat.le_refl _) _
 have hs2 : W2.heap.size = hh + 1 := by rw [← hW2, ← hhe]; simp
 have k0 : W2.heap[hh]? = some (.cells #[.int .i64 0] 3 (0, 0)) := by
  have := heap_alloc_new w (.cells #[.int .i64 0] 3 (0, 0))
  rw [hhe] at this
  rw [← hW2]
  exact this
 have hid : W2.setCell ⟨hh, 0, none⟩ (.int .i64 0) = W2 := setCell_id k0 rfl
 have y0 := cell_of_one k0
 have y1 := free_of_one k0
 have HK0 := Lib.hid k0
 have HB2 := Lib.hid hB2
 have HHE := Lib.hid hhe
 have HN := Lib.hid (dnames_any W2 d)
 have HS2 := Lib.hid hs2
 clear k0 hB2 hs2
 go_wp2_with fail
 refine HN.out.mono ?_
 rintro e w' ⟨rfl, rfl⟩
 clear y0 y1 hid
 go_wp2_with fail
 refine (reach_S _ _).mono ?_
 rintro e w' ⟨rfl, rfl⟩
 obtain ⟨W3, hW3⟩ : ∃ W3, W2.alloc (.cells #[.pointer (some ⟨d, 2, none⟩)] 95) = W3 := ⟨_, rfl⟩
 have hs2 := HS2.out
 have hB3 : Below W2.heap.size W2 W3 := by rw [← hW3]; exact (Below.refl _ W2).alloc (Nat.le_refl _) _
 have hs3 : W3.heap.size = hh + 2 := by rw [← hW3]; simp [hs2]
 have hbx : W3.heap[hh + 1]? = some (.cells #[.pointer (some ⟨d, 2, none⟩)] 95 (0, 0)) := by
  have := heap_alloc_new W2 (.cells #[.pointer (some ⟨d, 2, none⟩)] 95 (0, 0))
  rw [hs2, hW3] at this
  exact this
 rw [hs2, hW3]
 have HBX := Lib.hid hbx
 have HB3 : Hid (Below w.heap.size w W3) := Lib.hid (HB2.out.trans (hB3.mono (by have := HB2.out.size; omega)))
 have HJ0 := Lib.hid ((hB3.block hh (by omega)).trans HK0.out)
 have hq3 : d < hh := by have := HHE.out; have h5 : d < w.heap.size := hqs; omega
 clear hW2 hW3 hbx hB3 HK0
 have HIT : Hid (∀ W1, Below W3.heap.size W3 W1 → IterOk Tryz.prog 74 #[.pointer (some ⟨hh + 1, 0, none⟩)] arS 2 ps W1) := Lib.hid (fun W1 hb => by
  have hbw := HB3.out.trans (hb.mono (by have := HHE.out; omega))
  exact each1_S W1 (hh + 1) (some ⟨d, 2, none⟩) A n c ps (cell_of_one ((hb.block _ (by omega)).trans HBX.out)) (.inr ⟨d, 2, rfl, (hbw.cell (p := ⟨d, 2, none⟩) hqs).trans HH.out.cell, HH.out.row.below hbw⟩) (by omega) HSH.out)
 go_wp2_with fail
 refine (wpIn_wide (n := 8)).1 ?_
 refine range_it 8 2 (by decide) 74 #[.pointer (some ⟨hh + 1, 0, none⟩)] arS rfl eachS_enters (fun _ => rfl) ps HIT.out (fun C pre W => SumAt W3 ln hh pre W) (fun _ _ _ _ => False) (fun C xs => SumAt.steady (by omega)) (fun _ _ _ _ _ h _ => h) ?h0 ?hab ?hdone (fun _ _ _ _ _ h _ => h.elim)
 case h0 =>
  intro C W1 hC hb1
  exact ⟨Chg.of_below hb1, (hb1.block _ (by omega)).trans HJ0.out⟩
 case hab =>
  apply Exists.intro
  refine ⟨?hassign, ?hbody⟩
  case hassign =>
   intro x W K hK
   unfold arS encS
   gi_wp2
   exact hK
  case hbody =>
   intro C pre x Wr hC hCW hD1 hI hpre
   obtain ⟨x, v⟩ := x
   have hmem : (x, v) ∈ ps := hpre.subset (by simp)
   obtain ⟨f, num, FA, fc, sure, hv, hf⟩ := HFS.out _ hmem
   have hle := Nat.le_trans (sumLen_prefix ln hpre) HSUM.out
   have hsn := sumLen_snoc ln pre (x, v)
   simp only at hv hf hsn
   subst hv
   have hfl : f < hh := by have := lt_of_block hf; have := HHE.out; omega
   have hf3 := hf.same (HB3.out.block f (lt_of_block hf))
   have hfr := hf3.same (hI.chg.same f (by omega) (by simp only [List.mem_cons, List.not_mem_nil, or_false]; omega))
   obtain ⟨L, hL⟩ : ∃ L, ln (.pointer (some ⟨f, 0, none⟩)) = L := ⟨_, rfl⟩
   obtain ⟨S, hS⟩ : ∃ S, sumLen ln pre = S := ⟨_, rfl⟩
   rw [hL] at hfr hsn
   rw [hS] at hsn
   rw [hsn] at hle
   have hcn := hI.cnt
   rw [hS] at hcn
   have c1 := hfr.c1
   have c2 := cell_of_one hcn
   have c3 := free_of_one hcn
   have hls : (L : Int) + (S : Int) ≤ 1000000000000 := by omega
   have hwr : IntKind.i64.wrap ((S : Int) + (L : Int)) = (S : Int) + (L : Int) := by rw [IntKind.wrap_i64]; omega
   have HSTEP : Hid (KeepsIt W3.heap.size C Wr (Wr.setCell ⟨hh, 0, none⟩ (.int .i64 (IntKind.i64.wrap ((S : Int) + (L : Int))))).drew ∧ SumAt W3 ln hh (pre ++ [(x, .pointer (some ⟨f, 0, none⟩))]) (Wr.setCell ⟨hh, 0, none⟩ (.int .i64 (IntKind.i64.wrap ((S : Int) + (L : Int))))).drew) := Lib.hid (by
    rw [hwr]
    have hcc : Chg [hh] Wr (Wr.setCell ⟨hh, 0, none⟩ (.int .i64 ((S : Int) + (L : Int)))).drew := ((Chg.refl _ Wr).setCell hh 0 _ (.inl (by simp))).drew
    refine ⟨hcc.keepsIt (by omega) hCW (by simp only [List.mem_cons, List.not_mem_nil, or_false]; omega) (by simp only [List.mem_cons, List.not_mem_nil, or_false]; omega) (by simp only [List.mem_cons, List.not_mem_nil, or_false]; omega), hI.chg.trans hcc, ?_⟩
    rw [hsn]
    have := one_setCell (u := .int .i64 ((S : Int) + (L : Int))) hcn
    show (Wr.setCell ⟨hh, 0, none⟩ (.int .i64 ((S : Int) + (L : Int)))).heap[hh]? = _
    rw [this]
    simp)
   clear hwr
   clear hmem hf hf3 hfr hcn hsn hle hI hpre hL hS
   gi_wp2_with fail
   gi_region
   all_goals
    try gi_wp2
    exact HSTEP.out
 case hdone =>
  intro C Wl hI hK
  have hbl := hI.chg
  have hcn := hI.cnt
  have y1 := cell_of_one hcn
  have HE2 : Hid (Wl.heap[W3.heap.size]? = some (.deferred (some []))) := Lib.hid hK
  have HE4 : Hid (Below hh W3 Wl) := Lib.hid (hbl.toBelow (fun k hk => by simp only [List.mem_cons, List.not_mem_nil, or_false] at hk; omega) (by omega))
  clear hI hK hbl hcn
  go_wp2_with fail
  have hcp := chg_putObjIt Wl W3.heap.size (.deferred none)
  have hsz : hh + 2 ≤ Wl.heap.size := by have := HE4.out.size; omega
  refine ⟨by simp, .inl ⟨_, _, rfl, run_takeDeferred HE2.out, ?_⟩⟩
  refine ⟨_, results_tmp rfl _ _ _, rfl, ?_⟩
  rw [HHE.out]
  have h3 := HB3.out
  rw [HHE.out] at h3
  exact h3.trans (HE4.out.trans (hcp.toBelow (fun k hk => by simp only [List.mem_cons, List.not_mem_nil, or_false] at hk; omega) (by omega)))
end
section
open Go.RowKit
section
variable {w : World} {d : Nat} {b : DBox} {RA : Option Addr} {rn rc : Nat} {ps : List (ByteArray × Value)}
set_option maxHeartbeats 800000 in
theorem append_no (H : NowAt w d b RA rn rc ps) (nm : ByteArray) (hsz : nm.size ≤ 1000000) (hE : withE b [nm] ps nm ≠ 0) (BA : Option Addr) (bn bc : Nat) :
 Calls Tryz.prog 21 #[.pointer (some ⟨d, 0, none⟩), .string nm, .slice BA bn bc] w fun e w' => e = .returned (.int .i64 (withE b [nm] ps nm)) ∧ DBoxAt w' d (poweredB b) ∧ Chg [d] w w' := by
 have HW := Lib.hid (with1 H nm hsz)
 have hF : withF b [nm] ps nm = .pointer none := by unfold withF; rw [if_neg hE]
 rw [hF] at HW
 obtain ⟨E, hEE⟩ : ∃ E, withE b [nm] ps nm = E := ⟨_, rfl⟩
 rw [hEE] at HW hE ⊢
 clear hEE hF H
 have hEb : (E == 0) = false := by simpa using hE
 go_enter Tryz.func21, Tryz.ntmps21
 go_wp2_with fail
 refine HW.out.mono ?_
 rintro e w1 ⟨rfl, hd1, hc1⟩
 have HX := Lib.hid (And.intro hd1 hc1)
 clear hd1 hc1
 go_wp2
 go_ret
 exact ⟨rfl, HX.out⟩
set_option maxHeartbeats 800000 in
theorem append_big (H : NowAt w d b RA rn rc ps) (nm : ByteArray) (hsz : nm.size ≤ 1000000) (hE : withE b [nm] ps nm = 0) (f num : Nat) (hF : withF b [nm] ps nm = .pointer (some ⟨f, 0, none⟩)) (A : Option Addr) (n c sure : Nat) (hfile : FileAt w f num A n c sure) (hfd : f ≠ d) (BA : Option Addr) (bn bc : Nat) (hn : n ≤ 10000000) (hbn : bn ≤ 10000000) (hbig : 1048576 < n + bn) :
 Calls Tryz.prog 21 #[.pointer (some ⟨d, 0, none⟩), .string nm, .slice BA bn bc] w fun e w' => e = .returned (.int .i64 2) ∧ DBoxAt w' d (poweredB b) ∧ Chg [d] w w' := by
 have HW := Lib.hid (with1 H nm hsz)
 rw [hF, hE] at HW
 have HFI := Lib.hid hfile
 have hbig' : (1048576 : Int) < (n : Int) + (bn : Int) := by omega
 clear hE hF H hfile hbig
 go_enter Tryz.func21, Tryz.ntmps21
 go_wp2_with fail
 refine HW.out.mono ?_
 rintro e w1 ⟨rfl, hd1, hc1⟩
 have c1 := (HFI.out.same (hc1.same f (lt_of_block HFI.out) (by simp only [List.mem_singleton]; exact hfd))).c1
 have HX := Lib.hid (And.intro hd1 hc1)
 clear hd1 hc1
 go_wp2
 go_ret
 exact ⟨rfl, HX.out⟩
set_option maxHeartbeats 1600000 in
theorem append_full (H : NowAt w d b RA rn rc ps) (nm : ByteArray) (hsz : nm.size ≤ 1000000) (hE : withE b [nm] ps nm = 0) (f num : Nat) (hF : withF b [nm] ps nm = .pointer (some ⟨f, 0, none⟩)) (A : Option Addr) (n c sure : Nat) (hfile : FileAt w f num A n c sure) (hfd : f ≠ d) (BA : Option Addr) (bn bc : Nat) (hn : n ≤ 10000000) (hbn : bn ≤ 10000000) (hsmall : n + bn ≤ 1048576)
 (ln : Value → Nat) (hfs : FilesIn w ln ps) (hfsd : ∀ p ∈ ps, p.2 ≠ .pointer (some ⟨d, 0, none⟩)) (hsum : sumLen ln ps ≤ 1000000000000) (hfull : b.quota < (sumLen ln ps : Int) + (bn : Int)) :
 Calls Tryz.prog 21 #[.pointer (some ⟨d, 0, none⟩), .string nm, .slice BA bn bc] w fun e w' => e = .returned (.int .i64 4) ∧ DBoxAt w' d { poweredB b with full := true } ∧ Chg [d] w w' := by
 have HW := Lib.hid (with1 H nm hsz)
 rw [hF, hE] at HW
 have HFI := Lib.hid hfile
 have hsm : (n : Int) + (bn : Int) ≤ 1048576 := by omega
 have HUS : Hid (∀ w1 W : World, DBoxAt w1 d (poweredB b) → Chg [d] w w1 → W.heap = w1.heap → Calls Tryz.prog 51 #[.pointer (some ⟨d, 0, none⟩)] W fun e w' => e = .returned (.int .i64 (sumLen ln ps : Int)) ∧ Below W.heap.size W w') := Lib.hid fun w1 W h1 hc hW => by
  have hc2 : w1.cell? ⟨d, 2, none⟩ = some (poweredB b).now := h1.cell 2 _ rfl
  rw [powered_now, H.now] at hc2
  refine used_any W d RA rn rc ps ⟨(World.cell?_of_block (w := w1) (a := ⟨d, 2, none⟩) (by rw [hW])).trans hc2, (H.row.chg hc (fun k hk hm => by rw [List.mem_singleton] at hm; rw [hm] at hk; exact H.apart hk)).same (by rw [hW]; exact Nat.le_refl _) (fun k _ => by rw [hW])⟩ (by have := H.len; omega) ln (fun p hp => ?_) hsum
  obtain ⟨g, gn, gA, gc, gs, he, hg⟩ := hfs p hp
  refine ⟨g, gn, gA, gc, gs, he, hg.same ((congrArg (·[g]?) hW).trans (hc.same g (lt_of_block hg) ?_))⟩
  rw [List.mem_singleton]
  rintro rfl
  exact hfsd p hp he
 obtain ⟨S, hS⟩ : ∃ S, sumLen ln ps = S := ⟨_, rfl⟩
 rw [hS] at HUS hfull hsum
 have HQ : Hid ((poweredB b).quota = b.quota) := Lib.hid (powered_quota b)
 obtain ⟨q, hq⟩ : ∃ q, b.quota = q := ⟨_, rfl⟩
 rw [hq] at HQ hfull
 obtain ⟨b2, hb2⟩ : ∃ b2, poweredB b = b2 := ⟨_, rfl⟩
 rw [hb2] at HW HUS HQ
 rw [hb2]
 have hSb : (S : Int) + (bn : Int) ≤ 2000000000000 := by omega
 clear hE hF H hfile hfs hfsd hsmall hS hq hb2 hsum
 go_enter Tryz.func21, Tryz.ntmps21
 go_wp2_with fail
 refine HW.out.mono ?_
 rintro e w1 ⟨rfl, hd1, hc1⟩
 have c1 := (HFI.out.same (hc1.same f (lt_of_block HFI.out) (by simp only [List.mem_singleton]; exact hfd))).c1
 have c5 : w1.cell? ⟨d, 5, none⟩ = some (.int .i64 b2.quota) := hd1.cell 5 _ rfl
 rw [HQ.out] at c5
 have HU := Lib.hid (fun W hW => HUS.out w1 W hd1 hc1 hW)
 have HX := Lib.hid (And.intro hd1 hc1)
 clear hd1 hc1 HUS HW
 go_wp2_with fail
 have HQC : Hid (∀ W, DBoxAt W d b2 → W.cell? ⟨d, 5, none⟩ = some (.int .i64 q)) := Lib.hid fun W h => by have h5 : W.cell? ⟨d, 5, none⟩ = some (.int .i64 b2.quota) := h.cell 5 _ rfl; rw [HQ.out] at h5; exact h5
 go_region_with (go_at_call 51; go_loud (refine (HU.out w1.drew rfl).mono ?_; rintro e w2 ⟨rfl, hB⟩; have HD2 : Hid (DBoxAt w2 d b2 ∧ Chg [d] w w2) := Lib.hid ⟨(hB.block d (show d < w1.heap.size from HX.out.1.lt)).trans HX.out.1, HX.out.2.drew.trans (Chg.of_below hB)⟩; have c5' := HQC.out w2 HD2.out.1; clear hB))
 all_goals
  have hwr : IntKind.i64.wrap ((S : Int) + (bn : Int)) = (S : Int) + (bn : Int) := by rw [IntKind.wrap_i64]; omega
  have hdf : decide (q < IntKind.i64.wrap ((S : Int) + (bn : Int))) = true := by rw [hwr]; exact decide_eq_true hfull
  have c6 : w2.cell? ⟨d, 6, none⟩ = some (.bool b2.full) := HD2.out.1.cell 6 _ rfl
  have f6 : w2.frozen? ⟨d, 6, none⟩ = false := HD2.out.1.free 6
  have HX2 : Hid (DBoxAt (w2.setCell ⟨d, 6, none⟩ (.bool true)) d { b2 with full := true } ∧ Chg [d] w (w2.setCell ⟨d, 6, none⟩ (.bool true))) := Lib.hid ⟨HD2.out.1.set 6 (.bool true) _ rfl, HD2.out.2.setCell d 6 _ (.inl (by simp))⟩
  go_wp2
  go_ret
  exact ⟨rfl, HX2.out⟩
end
section
variable {P : Program}
theorem sline_append_big (s : Nat) (w : World) (t e ty : TypeId) (z : Value) (bytes : Nat) (ht : P.underlying t = some (.slice e)) (hinfo : (P.info? e).map (fun i => (i.zero, i.size, i.bytes)) = some (some z, s, bytes)) (hz1 : z.cells.size = s) (hby : bytes ≤ 256)
 (A : Option Addr) (n c : Nat) (xs : List Value) (h : SLine s w A n c xs) (hn : n ≤ 1200000) (x : Value) (m : Nat) (hm : m ≤ 10000000) (hA : A = none → 0 < m) (news : List Value) (hsrc : Src P s t x m news w) :
 ∃ A' c' w', (Builtin.append_ #[t, t] ty #[.slice A n c, x]).run P w = .ok (.slice A' (n + m) c') w' ∧ SLine s w' A' (n + m) c' (xs ++ news) ∧ Chg (blk A) w w' ∧ (∀ k ∈ blk A', k ∈ blk A ∨ w.heap.size ≤ k) ∧ A' ≠ none := by
 obtain ⟨i0, hi, hz0, hs1, hs2⟩ := info_parts hinfo
 have hnl := hsrc.newsLen
 have h1 := h.1
 have hms : (n + m) * s = n * s + m * s := Nat.add_mul ..
 have hlen : (xs ++ news).length = (n + m) * s := by rw [List.length_append, h1, hnl, hms]
 by_cases hroom : n + m ≤ c
 · obtain ⟨g, off, rfl, hg, hc, hf⟩ : ∃ g off, A = some ⟨g, off, none⟩ ∧ g < w.heap.size ∧ (∀ i, i < n * s → w.cell? ⟨g, off + i, none⟩ = xs[i]?) ∧ ∀ i, i < c * s → (w.cell? ⟨g, off + i, none⟩).isSome = true ∧ w.frozen? ⟨g, off + i, none⟩ = false := by
    cases A with
    | none => have := h.2.2.2.1 rfl; have := hA rfl; omega
    | some ad =>
     obtain ⟨g, off, rfl, hg, hc, hf⟩ := h.2.2.2.2 ad rfl
     exact ⟨g, off, rfl, hg, hc, hf⟩
   have hcs : (n + m) * s ≤ c * s := Nat.mul_le_mul_right s hroom
   have hsrc' : Src P i0.size t x m news w := by rw [hs1]; exact hsrc
   have hr := run_append_room_src (P := P) w t t ty e i0 ht hi g off n c x m news hsrc' hroom
    (fun j hj => by
     rw [hs1, Nat.add_assoc]
     exact (hf _ (by omega)).1)
    (fun j hj => by
     rw [hs1, Nat.add_assoc]
     exact (hf _ (by omega)).2)
   rw [hs1] at hr
   refine ⟨_, _, _, hr, ⟨hlen, hroom, h.2.2.1, (fun e => by cases e), fun ad e => ?_⟩, (chg_cells w g (off + n * s) news).weaken (fun k hk => .inl (by simp only [List.mem_singleton] at hk; subst hk; exact mem_blk.2 ⟨_, rfl, rfl⟩)), fun k hk => .inl hk, by simp⟩
   cases e
   refine ⟨g, off, rfl, Nat.lt_of_lt_of_le hg (chg_cells w g (off + n * s) news).size, fun i hi => ?_, fun i hi => ⟨World.isSome_setCells g news (off + n * s) w _ (hf i hi).1, by rw [World.frozen?_setCells]; exact (hf i hi).2⟩⟩
   rcases Nat.lt_or_ge i (n * s) with h2 | h2
   · rw [World.cell?_setCells_out g news (off + n * s) w ⟨g, off + i, none⟩ (fun _ _ => .inl (by show off + i < off + n * s; omega)), hc i h2, List.getElem?_append_left (by omega)]
   · have := World.cell?_setCells_in g news (off + n * s) w (fun j hj => by rw [Nat.add_assoc]; exact (hf _ (by omega)).1) (i - n * s) (by omega)
     rw [show off + n * s + (i - n * s) = off + i from by omega] at this
     rw [this, List.getElem?_append_right (by omega), h1, List.getElem?_eq_getElem]
 · have hold : (Builtin.firstCells i0.size n (.slice A n c)).run P w.drew = .ok xs.toArray w.drew := by
    rw [hs1]
    cases A with
    | none =>
     have h2 := h.2.2.2.1 rfl
     have h3 := h.2.1
     obtain rfl : n = 0 := by omega
     have : xs = [] := List.eq_nil_of_length_eq_zero (by rw [h1, Nat.zero_mul])
     subst this
     exact run_firstCells_none w.drew s 0 0 c
    | some ad =>
     obtain ⟨g, off, rfl, hg, hc, hf⟩ := h.2.2.2.2 ad rfl
     refine run_firstCells_some w.drew s n ⟨g, off, none⟩ n c xs h1 (fun j v hj => ?_)
     have hjn : j < n * s := by rw [← h1]; exact (List.getElem?_eq_some_iff.1 hj).1
     have hadd : (⟨g, off, none⟩ : Addr).add j = ⟨g, off + j, none⟩ := by unfold Addr.add; split <;> simp_all
     rw [hadd]
     exact (hc j hjn).trans hj
   have hfit : Builtin.nextslicecap (n + m) c * i0.bytes ≤ 281474976710656 := growslice_fits (by omega) (by
    have h5 : (n + m) * i0.bytes ≤ 12000000 * 256 := Nat.mul_le_mul (by omega) (by rw [hs2]; exact hby)
    omega)
   have hsrc' : Src P i0.size t x m news w := by rw [hs1]; exact hsrc
   have hr := run_append_grow_src (P := P) w t t ty e i0 z ht hi hz0 A n c xs hold x m news hsrc' (by omega) (by omega) hfit
   have hge := grownCap_ge w (n + m) c e
   have hmx := grownCap_le_maxLen w (n + m) c e (by unfold maxLen; omega)
   generalize grownCap w (n + m) c e = C at *
   generalize hcur : (xs ++ news).toArray ++ Builtin.zeroCells z.cells (C - (n + m)) = cur at *
   have hcs : cur.size = C * s := by
    rw [← hcur, Array.size_append, List.size_toArray, hlen, size_zeroCells, hz1, Nat.sub_mul]
    have : (n + m) * s ≤ C * s := Nat.mul_le_mul_right s hge
    omega
   have hblock : (w.drew.alloc (.cells cur e)).heap[w.heap.size]? = some (.cells cur e (0, 0)) := heap_alloc_new w.drew _
   refine ⟨_, _, _, hr, ⟨hlen, hge, hmx, (fun e => by cases e), fun ad ea => ?_⟩, ((Chg.refl _ w).drew).alloc _, fun k hk => .inr ?_, by simp⟩
   · cases ea
     refine ⟨w.heap.size, 0, rfl, lt_of_block hblock, fun i hi => ?_, fun i hi => ?_⟩
     · rw [Nat.zero_add, cell_of_row _ w.heap.size i cur e (0, 0) hblock, ← hcur, Array.getElem?_append_left (by rw [List.size_toArray, hlen]; exact hi)]
       simp
     · rw [Nat.zero_add]
       refine ⟨?_, frozen_of_row _ w.heap.size i cur e hblock⟩
       rw [cell_of_row _ w.heap.size i cur e (0, 0) hblock, Array.getElem?_eq_getElem (by rw [hcs]; exact hi)]
       rfl
   · obtain ⟨ad, ea, hb⟩ := mem_blk.1 hk
     cases ea
     rw [← hb]
     exact Nat.le_refl _
end
section
variable {w : World} {d : Nat} {b : DBox} {RA : Option Addr} {rn rc : Nat} {ps : List (ByteArray × Value)}
theorem sline_append_all (s : Nat) (w : World) (t e ty : TypeId) (z : Value) (bytes : Nat) (ht : Tryz.prog.underlying t = some (.slice e)) (hinfo : (Tryz.prog.info? e).map (fun i => (i.zero, i.size, i.bytes)) = some (some z, s, bytes)) (hz1 : z.cells.size = s) (hby : bytes ≤ 256)
 (A : Option Addr) (n c : Nat) (xs : List Value) (h : SLine s w A n c xs) (hn : n ≤ 1200000) (x : Value) (m : Nat) (hm : m ≤ 10000000) (news : List Value) (hsrc : Src Tryz.prog s t x m news w) :
 ∃ A' c' w', (Builtin.append_ #[t, t] ty #[.slice A n c, x]).run Tryz.prog w = .ok (.slice A' (n + m) c') w' ∧ SLine s w' A' (n + m) c' (xs ++ news) ∧ Chg (blk A) w w' ∧ (∀ k ∈ blk A', k ∈ blk A ∨ w.heap.size ≤ k) ∧ True := by
 by_cases h0 : A = none ∧ m = 0
 · obtain ⟨rfl, rfl⟩ := h0
   have hnl := hsrc.newsLen
   obtain rfl : news = [] := List.eq_nil_of_length_eq_zero (by omega)
   obtain ⟨i0, hi, hz0, hs1, hs2⟩ := info_parts hinfo
   have hr := run_append_nothing (P := Tryz.prog) w t t ty e i0 ht hi none n c h.2.1 x (by rw [hs1]; exact hsrc)
   exact ⟨none, c, w, hr, by rw [List.append_nil]; exact h, Chg.refl _ w, fun k hk => .inl hk, trivial⟩
 · obtain ⟨A', c', w', h1, h2, h3, h4, _⟩ := sline_append_big s w t e ty z bytes ht hinfo hz1 hby A n c xs h hn x m hm (fun hA => by
    rcases Nat.eq_zero_or_pos m with hm0 | hm0
    · exact absurd ⟨hA, hm0⟩ h0
    · exact hm0) news hsrc
   exact ⟨A', c', w', h1, h2, h3, h4, trivial⟩
def Appended (w : World) (d : Nat) (b : DBox) (f num : Nat) (A : Option Addr) (n sure : Nat) (xs : List Value) (w' : World) : Prop :=
 ∃ A' c', DBoxAt w' d b ∧ FileAt w' f num A' n c' sure ∧ SLine 1 w' A' n c' xs ∧ Chg (d :: f :: blk A) w w' ∧ ∀ k ∈ blk A', k ∈ blk A ∨ w.heap.size ≤ k
set_option maxHeartbeats 1600000 in
theorem append_ok (H : NowAt w d b RA rn rc ps) (nm : ByteArray) (hsz : nm.size ≤ 1000000) (hE : withE b [nm] ps nm = 0) (f num : Nat) (hF : withF b [nm] ps nm = .pointer (some ⟨f, 0, none⟩)) (A : Option Addr) (n c sure : Nat) (hfile : FileAt w f num A n c sure) (hfd : f ≠ d) (BA : Option Addr) (bn bc : Nat) (hn : n ≤ 10000000) (hbn : bn ≤ 10000000) (hsmall : n + bn ≤ 1048576)
 (ln : Value → Nat) (hfs : FilesIn w ln ps) (hfsd : ∀ p ∈ ps, p.2 ≠ .pointer (some ⟨d, 0, none⟩)) (hsum : sumLen ln ps ≤ 1000000000000) (hroom : (sumLen ln ps : Int) + (bn : Int) ≤ b.quota) (xs : List Value) (hline : SLine 1 w A n c xs) (hfA : f ∉ blk A) (hdA : d ∉ blk A) (news : List Value) (hsrc : ∀ W, Chg [d] w W → Src Tryz.prog 1 40 (.slice BA bn bc) bn news W) :
 Calls Tryz.prog 21 #[.pointer (some ⟨d, 0, none⟩), .string nm, .slice BA bn bc] w fun e w' => e = .returned (.int .i64 0) ∧ Appended w d (poweredB b) f num A (n + bn) sure (xs ++ news) w' := by
 have HW := Lib.hid (with1 H nm hsz)
 rw [hF, hE] at HW
 have HFI := Lib.hid hfile
 have hsm : (n : Int) + (bn : Int) ≤ 1048576 := by omega
 have HUS : Hid (∀ w1 W : World, DBoxAt w1 d (poweredB b) → Chg [d] w w1 → W.heap = w1.heap → Calls Tryz.prog 51 #[.pointer (some ⟨d, 0, none⟩)] W fun e w' => e = .returned (.int .i64 (sumLen ln ps : Int)) ∧ Below W.heap.size W w') := Lib.hid fun w1 W h1 hc hW => by
  have hc2 : w1.cell? ⟨d, 2, none⟩ = some (poweredB b).now := h1.cell 2 _ rfl
  rw [powered_now, H.now] at hc2
  refine used_any W d RA rn rc ps ⟨(World.cell?_of_block (w := w1) (a := ⟨d, 2, none⟩) (by rw [hW])).trans hc2, (H.row.chg hc (fun k hk hm => by rw [List.mem_singleton] at hm; rw [hm] at hk; exact H.apart hk)).same (by rw [hW]; exact Nat.le_refl _) (fun k _ => by rw [hW])⟩ (by have := H.len; omega) ln (fun p hp => ?_) hsum
  obtain ⟨g, gn, gA, gc, gs, he, hg⟩ := hfs p hp
  refine ⟨g, gn, gA, gc, gs, he, hg.same ((congrArg (·[g]?) hW).trans (hc.same g (lt_of_block hg) ?_))⟩
  rw [List.mem_singleton]
  rintro rfl
  exact hfsd p hp he
 obtain ⟨S, hS⟩ : ∃ S, sumLen ln ps = S := ⟨_, rfl⟩
 rw [hS] at HUS hroom hsum
 have HQ : Hid ((poweredB b).quota = b.quota) := Lib.hid (powered_quota b)
 obtain ⟨q, hq⟩ : ∃ q, b.quota = q := ⟨_, rfl⟩
 rw [hq] at HQ hroom
 obtain ⟨b2, hb2⟩ : ∃ b2, poweredB b = b2 := ⟨_, rfl⟩
 rw [hb2] at HW HUS HQ
 rw [hb2]
 have HL := Lib.hid (And.intro hline (And.intro hfA (And.intro hdA hsrc)))
 have hroom' : ¬ q < (S : Int) + (bn : Int) := by omega
 have HRM := Lib.hid hroom'
 have hnn : n ≤ 1000000 ∨ 1000000 < n := by omega
 have hSb : (S : Int) + (bn : Int) ≤ 2000000000000 := by omega
 clear hE hF H hfile hfs hfsd hsmall hS hq hb2 hsum hline hfA hdA hsrc hroom hroom'
 go_enter Tryz.func21, Tryz.ntmps21
 go_wp2_with fail
 refine HW.out.mono ?_
 rintro e w1 ⟨rfl, hd1, hc1⟩
 have c1 := (HFI.out.same (hc1.same f (lt_of_block HFI.out) (by simp only [List.mem_singleton]; exact hfd))).c1
 have c5 : w1.cell? ⟨d, 5, none⟩ = some (.int .i64 b2.quota) := hd1.cell 5 _ rfl
 rw [HQ.out] at c5
 have HU := Lib.hid (fun W hW => HUS.out w1 W hd1 hc1 hW)
 have HX := Lib.hid (And.intro hd1 hc1)
 clear hd1 hc1 HUS HW
 go_wp2_with fail
 have HQC : Hid (∀ W, DBoxAt W d b2 → W.cell? ⟨d, 5, none⟩ = some (.int .i64 q)) := Lib.hid fun W h => by have h5 : W.cell? ⟨d, 5, none⟩ = some (.int .i64 b2.quota) := h.cell 5 _ rfl; rw [HQ.out] at h5; exact h5
 go_region_with (go_at_call 51; go_loud (refine (HU.out w1.drew rfl).mono ?_; rintro e w2 ⟨rfl, hB⟩; have HD2 : Hid (DBoxAt w2 d b2 ∧ Chg [d] w w2) := Lib.hid ⟨(hB.block d (show d < w1.heap.size from HX.out.1.lt)).trans HX.out.1, HX.out.2.drew.trans (Chg.of_below hB)⟩; have c5' := HQC.out w2 HD2.out.1; clear hB))
 all_goals
  have hwr : IntKind.i64.wrap ((S : Int) + (bn : Int)) = (S : Int) + (bn : Int) := by rw [IntKind.wrap_i64]; omega
  have hdf : decide (q < IntKind.i64.wrap ((S : Int) + (bn : Int))) = false := by rw [hwr]; exact decide_eq_false (by have := HRM.out; omega)
  have hroom2 : ¬ q < (S : Int) + (bn : Int) := by have := HRM.out; omega
  obtain ⟨hline, hfA, hdA, hsrc⟩ := HL.out
  have hc2 : Chg [d] w w2 := HD2.out.2
  have hnd : ∀ k ∈ blk A, k ∉ [d] := fun k hk hm => by rw [List.mem_singleton] at hm; rw [hm] at hk; exact hdA hk
  have hF2 : FileAt w2 f num A n c sure := HFI.out.same (hc2.same f (lt_of_block HFI.out) (by simp only [List.mem_singleton]; exact hfd))
  obtain ⟨A', c', w3, hr, hl3, hc3, hf3, _⟩ := sline_append_all 1 w2 40 5 40 _ 1 Tryz.underlying40 infoB rfl (by decide) A n c xs (hline.chg hc2 hnd) (by omega) _ bn (by omega) news (hsrc w2 hc2)
  have hF3 : FileAt w3 f num A n c sure := hF2.same (hc3.same f (lt_of_block hF2) hfA)
  have d1 := hF2.c1
  have d3 := hF3.c1
  have e3 := hF3.free 1
  have hfA' : f ∉ blk A' := fun hm => by
   rcases hf3 f hm with h | h
   · exact hfA h
   · have := lt_of_block hF2; omega
  have HX2 : Hid (Appended w d b2 f num A (n + bn) sure (xs ++ news) (w3.setCell ⟨f, 1, none⟩ (.slice A' (n + bn) c'))) := Lib.hid (by
   have hcs : Chg [f] w3 (w3.setCell ⟨f, 1, none⟩ (.slice A' (n + bn) c')) := (Chg.refl _ w3).setCell f 1 _ (.inl (by simp))
   refine ⟨A', c', ?_, hF3.setData A' (n + bn) c', hl3.chg hcs (fun k hk hm => by rw [List.mem_singleton] at hm; rw [hm] at hk; exact hfA' hk), ?_, fun k hk => ?_⟩
   · refine ((HD2.out.1.chg hc3 hdA).chg hcs ?_)
     simp only [List.mem_singleton]
     exact fun h => hfd h.symm
   · refine ((hc2.weaken (fun k hk => .inl ?_)).andThen hc3 (fun k hk => .inl ?_)).andThen hcs (fun k hk => .inl ?_)
     · rw [List.mem_singleton] at hk; rw [hk]; exact List.mem_cons_self ..
     · exact List.mem_cons_of_mem _ (List.mem_cons_of_mem _ hk)
     · rw [List.mem_singleton] at hk; rw [hk]; exact List.mem_cons_of_mem _ (List.mem_cons_self ..)
   · have := hc2.size
     rcases hf3 k hk with h | h
     · exact .inl h
     · exact .inr (by omega))
  have HR := Lib.hid hr
  clear hline hfA hdA hsrc hc2 hnd hF2 hr hl3 hc3 hf3 hF3 hfA'
  go_wp2_with (at_builtin; refine Lib.wpList_append_run _ rfl _ _ _ _ rfl _ _ rfl rfl _ _ HR.out ?_)
  go_ret
  exact ⟨rfl, HX2.out⟩
end
end
section
open Go.RowKit Go.Maps
theorem keyI : Keyed Tryz.prog 3 := int_keyed Tryz.underlying3
theorem zeroU (w : World) : (zeroValue 155).run Tryz.prog w = .ok (.agg #[]) w := by kernel_rfl
def litsN (S : List Nat) : List Lit := S.map fun (n : Nat) => Lit.int .i64 (n : Int)
theorem lits_key (S : List Nat) : ∀ x ∈ litsN S, WideAt.IsKeyLit x := by
 intro x hx
 obtain ⟨n, _, rfl⟩ := List.mem_map.1 hx
 trivial
theorem has_lits (S : List Nat) (n : Nat) : Maps.has (setOf (H := Unit) (.agg []) (litsN S)) (.int .i64 (n : Int)) = decide (n ∈ S) := by
 rw [has_setOf _ _ _ (lits_key S)]
 unfold litsN
 rw [List.any_map]
 induction S with
 | nil => simp
 | cons a S ih =>
  rw [List.any_cons, ih]
  have : (Lit.int .i64 (a : Int)).sameKey (.int .i64 (n : Int)) = decide (n = a) := by
   simp only [Lit.sameKey]
   by_cases h : n = a
   · subst h; simp
   · have : ¬ (a : Int) = (n : Int) := by omega
     simp [h, this]
  simp only [Function.comp, this, List.mem_cons]
  by_cases h : n = a <;> simp [h]
theorem keyOf_num (n : Nat) (h : n ≤ 9000000) : keyOf Tryz.prog 3 (.int .i64 (n : Int)) = some (.int .i64 (n : Int)) := keyOf_int_mk Tryz.underlying3 (WalkArith.wf_i64 (by omega))
def NumsAt (w : World) (M : Nat) (S : List Nat) : Prop := w.ownsMap Tryz.prog 3 (unitElem (H := Unit)) M S.length (setOf (.agg []) (litsN S))
theorem NumsAt.below {w w' : World} {M : Nat} {S : List Nat} (h : NumsAt w M S) (hb : w'.heap[M]? = w.heap[M]?) : NumsAt w' M S := by
 obtain ⟨es, clock, h1, h2⟩ := h
 exact ⟨es, clock, hb.trans h1, h2⟩
theorem NumsAt.lt {w : World} {M : Nat} {S : List Nat} (h : NumsAt w M S) : M < w.heap.size := World.ownsMap.lt h
theorem NumsAt.new (w : World) : NumsAt (w.alloc (.map #[] 0)) w.heap.size [] := World.ownsMap_made _ _ _ _
theorem NumsAt.put {w : World} {M : Nat} {S : List Nat} (h : NumsAt w M S) (n : Nat) (hn : n ≤ 9000000) (hS : S.length ≤ 1000000) :
 ∃ w', (Instr.mapUpdate 154 (.map (some M)) (.int .i64 (n : Int)) (.agg #[])).run Tryz.prog w = .ok () w' ∧ NumsAt w' M (S ++ [n]) ∧ Chg [M] w w' := by
 obtain ⟨w', h1, h2, h3⟩ := World.ownsMap.update (P := Tryz.prog) h keyI Tryz.underlying154 (by unfold maxLen; omega) (keyOf_num n hn) (unitElem_mk (H := Unit))
 refine ⟨w', h1, ?_, ?_⟩
 · unfold NumsAt
   rw [List.length_append]
   have : litsN (S ++ [n]) = litsN S ++ [.int .i64 (n : Int)] := by unfold litsN; rw [List.map_append]; rfl
   rw [this, setOf_snoc]
   exact h2
 · exact (Chg.refl _ w).grown h3 (fun k hk => by injection hk with hk; subst hk; exact .inl (by simp))
set_option maxHeartbeats 1600000 in
theorem forget1_any (w : World) (f num : Nat) (A : Option Addr) (n c sure : Nat) (hF : FileAt w f num A n c sure) (hnum : num ≤ 1000000) (B M : Nat) (hB : w.cell? ⟨B, 0, none⟩ = some (.map (some M))) (S : List Nat) (hM : NumsAt w M S) :
 Calls Tryz.prog 94 #[.pointer (some ⟨f, 0, none⟩), .pointer (some ⟨B, 0, none⟩)] w fun e w' => e = .returned (.bool (!decide (num ∈ S))) ∧ Below w.heap.size w w' := by
 obtain ⟨W1, hW1⟩ : ∃ W1, w.alloc (.cells #[] 155) = W1 := ⟨_, rfl⟩
 have hb1 : Below w.heap.size w W1 := by rw [← hW1]; exact (Below.refl _ w).alloc (Nat.le_refl _) _
 have hF1 := hF.same (hb1.block f (lt_of_block hF))
 have c0 := hF1.c0
 have c0' := hF.c0
 have hB1 : W1.cell? ⟨B, 0, none⟩ = some (.map (some M)) := (hb1.cell (p := ⟨B, 0, none⟩) (World.block_lt_of_cell? w _ hB)).trans hB
 have hM1 : NumsAt W1 M S := hM.below (hb1.block M hM.lt)
 obtain ⟨v, ps, hrun, hv⟩ := World.ownsMap.look_ok (P := Tryz.prog) (w := W1.drew) (World.ownsMap.drew hM1) keyI Tryz.underlying154 (zeroU _) (unitElem_mk (H := Unit)) (keyOf_num num (by omega))
 obtain ⟨rfl, _⟩ := unitElem_inv hv
 obtain ⟨v', ps', hrun', hv'⟩ := World.ownsMap.look_ok (P := Tryz.prog) (w := w.drew) (World.ownsMap.drew hM) keyI Tryz.underlying154 (zeroU _) (unitElem_mk (H := Unit)) (keyOf_num num (by omega))
 obtain ⟨rfl, _⟩ := unitElem_inv hv'
 rw [has_lits] at hrun hrun'
 obtain ⟨t, ht⟩ : ∃ t, decide (num ∈ S) = t := ⟨_, rfl⟩
 rw [ht] at hrun hrun' ⊢
 have HB := Lib.hid hb1
 clear hF hM hv hv' ht hF1 hM1 hb1
 go_enter Tryz.func94, Tryz.ntmps94
 go_wp2_with fail
 go_region
 go_wp2
 go_ret
 exact ⟨rfl, HB.out.drew⟩
def FsIn (w : World) (nm : Value → Nat) (fs : List Value) : Prop := ∀ v ∈ fs, ∃ f A n c sure, v = Value.pointer (some ⟨f, 0, none⟩) ∧ FileAt w f (nm v) A n c sure ∧ nm v ≤ 1000000
theorem FsIn.below {w w' : World} {nm : Value → Nat} {fs : List Value} (h : FsIn w nm fs) (hb : Below w.heap.size w w') : FsIn w' nm fs := fun v hv => by
 obtain ⟨f, A, n, c, sure, e, h1, h2⟩ := h v hv
 exact ⟨f, A, n, c, sure, e, h1.same (hb.block f (lt_of_block h1)), h2⟩
def keepV (nm : Value → Nat) (S : List Nat) (v : Value) : Bool := decide (nm v ∈ S)
set_option maxHeartbeats 1600000 in
theorem index_any (w : World) (F : Option Addr) (fn fc : Nat) (fs : List Value) (hL : SLine 1 w F fn fc fs) (hn : fn ≤ 1000000) (nm : Value → Nat) (hfs : FsIn w nm fs) (B M : Nat) (hB : w.cell? ⟨B, 0, none⟩ = some (.map (some M))) (S : List Nat) (hM : NumsAt w M S) :
 Calls Tryz.prog 108 #[.slice F fn fc, .func (.func 94) #[] #[.pointer (some ⟨B, 0, none⟩)]] w fun e w' => (∃ z : Int, e = .returned (.int .i64 z) ∧ ((z = -1 ∧ ∀ v ∈ fs, keepV nm S v = true) ∨ ∃ k : Nat, k < fn ∧ z = (k : Int) ∧ (∀ v ∈ fs.take k, keepV nm S v = true) ∧ ∃ v, fs[k]? = some v ∧ keepV nm S v = false)) ∧ Below w.heap.size w w' := by
 have hlen : fs.length = fn := by have := hL.1; omega
 have HL := Lib.hid hL
 have HF := Lib.hid hfs
 have HB := Lib.hid hB
 have HM := Lib.hid hM
 have HN := Lib.hid hlen
 have hbl := World.block_lt_of_cell? w _ hB
 clear hL hfs hB hM hlen
 go_enter Tryz.func108, Tryz.ntmps108
 go_wp2
 go_loopw [8] (fun i wr => ∃ k : Nat, k ≤ fn ∧ i = .int .i64 k ∧ Hid ((∀ v ∈ fs.take k, keepV nm S v = true) ∧ Below w.heap.size w wr)) (fun i _ => fn - (intOf i).toNat)
 case atStart => exact ⟨0, by omega, rfl, Lib.hid ⟨fun v hv => by simp at hv, Below.refl _ _⟩⟩
 case round =>
  obtain ⟨k, hk, rfl, HI⟩ := hrel
  rcases Nat.lt_or_ge k fn with hkn | hkn
  · have hb := HI.out.2
    obtain ⟨g, off, rfl, hg, hc, _⟩ := (HL.out.below hb).at (by omega)
    obtain ⟨v, hv⟩ : ∃ v, fs[k]? = some v := ⟨_, List.getElem?_eq_getElem (by rw [HN.out]; exact hkn)⟩
    have hck := hc k (by omega)
    rw [hv] at hck
    obtain ⟨f, A, n, c, sure, rfl, hf, hnum⟩ := (HF.out.below hb) v (List.mem_of_getElem? hv)
    obtain ⟨num, hnm⟩ : ∃ num, nm (.pointer (some ⟨f, 0, none⟩)) = num := ⟨_, rfl⟩
    rw [hnm] at hf hnum
    have H1 := Lib.hid (forget1_any wr f num A n c sure hf hnum B M ((hb.cell (p := ⟨B, 0, none⟩) hbl).trans HB.out) S (HM.out.below (hb.block M HM.out.lt)))
    have hkp : keepV nm S (.pointer (some ⟨f, 0, none⟩)) = decide (num ∈ S) := by unfold keepV; rw [hnm]
    have HV := Lib.hid (And.intro hv (And.intro hb hkp))
    obtain ⟨t, ht⟩ : ∃ t, decide (num ∈ S) = t := ⟨_, rfl⟩
    have HT := Lib.hid ht
    rw [ht] at H1
    have hkn' : (k : Int) < (fn : Int) := by omega
    have hk0 : (0 : Int) ≤ (k : Int) := by omega
    clear hc hv hf hnum hnm hb hkp ht hg
    cases t with
    | true =>
     go_wp2_with (go_at_call 94; refine H1.out.mono ?_; rintro e w2 ⟨rfl, hb2⟩; have HB2 : Hid (Below w.heap.size w w2) := Lib.hid (HV.out.2.1.trans (hb2.mono HV.out.2.1.size)); clear hb2)
     go_roundw
     case rel => exact ⟨k + 1, by omega, by go_num, Lib.hid ⟨fun v hv => by
      rw [List.take_add_one, HV.out.1] at hv
      rcases List.mem_append.1 hv with h | h
      · exact HI.out.1 v h
      · simp at h
        subst h
        rw [HV.out.2.2, HT.out], HB2.out⟩⟩
     case measure => simp [intOf]; omega
    | false =>
     go_wp2_with (go_at_call 94; refine H1.out.mono ?_; rintro e w2 ⟨rfl, hb2⟩; have HB2 : Hid (Below w.heap.size w w2) := Lib.hid (HV.out.2.1.trans (hb2.mono HV.out.2.1.size)); clear hb2)
     go_ret
     exact ⟨⟨_, rfl, .inr ⟨k, hkn, rfl, HI.out.1, _, HV.out.1, by rw [HV.out.2.2, HT.out]⟩⟩, HB2.out⟩
  · obtain rfl : k = fn := by omega
    have HE : Hid (∀ v ∈ fs, keepV nm S v = true) := Lib.hid (by
     have := HI.out.1
     rw [List.take_of_length_le (by rw [HN.out]; exact Nat.le_refl _)] at this
     exact this)
    go_wp2
    go_ret
    exact ⟨⟨_, rfl, .inl ⟨rfl, HE.out⟩⟩, HI.out.2⟩
theorem zeroFP (w : World) : (zeroValue 87).run Tryz.prog w = .ok (.pointer none) w := by kernel_rfl
theorem clear_from (w : World) (g off n c : Nat) (xs : List Value) (h : SLine 1 w (some ⟨g, off, none⟩) n c xs) (i : Nat) (hi : i < n) :
 (∀ ty, (Builtin.clear_ #[67] ty #[.slice (some ⟨g, off + i, none⟩) (n - i) (c - i)]).run Tryz.prog w = .ok (.tuple #[]) (w.setCells g (off + i) (List.replicate (n - i) (.pointer none)))) ∧ SLine 1 (w.setCells g (off + i) (List.replicate (n - i) (.pointer none))) (some ⟨g, off, none⟩) i c (xs.take i) ∧ Chg [g] w (w.setCells g (off + i) (List.replicate (n - i) (.pointer none))) := by
 have hl := h.1
 have hnc := h.2.1
 obtain ⟨_, _, e, hg, hc, hf⟩ := h.2.2.2.2 _ rfl
 cases e
 refine ⟨fun ty => ?_, ?_, chg_cells w g (off + i) _⟩
 · refine Lib.run_clear_slice w _ _ ty _ Tryz.underlying67 zeroFP rfl rfl g (off + i) (n - i) (c - i) (by omega) (fun j hj => ?_) (fun j hj => ?_)
   · have := (hf (i + j) (by omega)).1
     rwa [← Nat.add_assoc] at this
   · have := (hf (i + j) (by omega)).2
     rwa [← Nat.add_assoc] at this
 · have h2 := h.set i (List.replicate (n - i) (.pointer none)) (by simp; omega)
   have h3 := h2.shrink i (by omega)
   have e : (xs.take i ++ List.replicate (n - i) (Value.pointer none) ++ xs.drop (i + (List.replicate (n - i) (Value.pointer none)).length)).take (i * 1) = xs.take i := by
    rw [Nat.mul_one, List.append_assoc, List.take_append_of_le_length (by rw [List.length_take]; omega), List.take_take, Nat.min_self]
   rw [e] at h3
   exact h3
theorem drop_one (mid rest : List Value) (v : Value) (h : 0 < mid.length) : (mid ++ v :: rest).drop 1 = (mid ++ [v]).drop 1 ++ rest := by
 cases mid with
 | nil => simp at h
 | cons m mid => simp
set_option maxHeartbeats 3200000 in
theorem delete_any (w : World) (F : Option Addr) (fn fc : Nat) (fs : List Value) (hL : SLine 1 w F fn fc fs) (hn : fn ≤ 1000000) (nm : Value → Nat) (hfs : FsIn w nm fs) (hfF : ∀ f, Value.pointer (some ⟨f, 0, none⟩) ∈ fs → f ∉ blk F) (B M : Nat) (hB : w.cell? ⟨B, 0, none⟩ = some (.map (some M))) (hBF : B ∉ blk F) (hMF : M ∉ blk F) (S : List Nat) (hM : NumsAt w M S) :
 Calls Tryz.prog 93 #[.slice F fn fc, .func (.func 94) #[] #[.pointer (some ⟨B, 0, none⟩)]] w fun e w' => e = .returned (.slice F (fs.filter (keepV nm S)).length fc) ∧ SLine 1 w' F (fs.filter (keepV nm S)).length fc (fs.filter (keepV nm S)) ∧ Chg (blk F) w w' := by
 have hlen : fs.length = fn := by have := hL.1; omega
 have HI := Lib.hid (index_any w F fn fc fs hL hn nm hfs B M hB S hM)
 have hbl := World.block_lt_of_cell? w _ hB
 have HH := Lib.hid (And.intro hL (And.intro hfs (And.intro hfF (And.intro hB (And.intro hBF (And.intro hMF hM))))))
 have HN := Lib.hid hlen
 have hfc : fn ≤ fc := hL.2.1
 have hfc63 : fc ≤ 9223372036854775807 := by have := hL.2.2.1; unfold maxLen at this; omega
 clear hL hfs hfF hB hBF hMF hM hlen
 go_enter Tryz.func93, Tryz.ntmps93
 go_wp2_with fail
 refine HI.out.mono ?_
 rintro e w1 ⟨⟨z, rfl, hz⟩, hb1⟩
 have HB1 := Lib.hid hb1
 clear hb1 HI
 rcases hz with ⟨rfl, hall⟩ | ⟨i0, hi0, rfl, hpre, v0, hv0, hg0⟩
 · have HE : Hid (fs.filter (keepV nm S) = fs) := Lib.hid (List.filter_eq_self.2 hall)
   have HFIN : Hid (SLine 1 w1 F fn fc fs ∧ Chg (blk F) w w1) := Lib.hid ⟨HH.out.1.below HB1.out, Chg.of_below HB1.out⟩
   clear hall
   go_wp2
   go_ret
   rw [HE.out, HN.out]
   exact ⟨rfl, HFIN.out⟩
 · obtain ⟨g, off, rfl, hg, _, _⟩ := HH.out.1.at (by omega)
   have hne : ((i0 : Int) == -1) = false := by rw [beq_eq_false_iff_ne]; omega
   have hi00 : (0 : Int) ≤ (i0 : Int) := by omega
   have hi0n : (i0 : Int) < (fn : Int) := by omega
   have HPRE : Hid ((fs.take (i0 + 1)).filter (keepV nm S) = fs.take i0) := Lib.hid (by
    rw [List.take_add_one, hv0, List.filter_append, List.filter_eq_self.2 hpre]
    simp [hg0])
   clear hpre hv0 hg0
   go_wp2
   go_loopw [5, 6] (fun i j wr => ∃ (ki kj : Nat) (mid : List Value), kj ≤ fn ∧ ki < kj ∧ i = .int .i64 ki ∧ j = .int .i64 kj ∧ mid.length = kj - ki ∧ ((fs.take kj).filter (keepV nm S)).length = ki ∧ Hid (SLine 1 wr (some ⟨g, off, none⟩) fn fc ((fs.take kj).filter (keepV nm S) ++ (mid ++ fs.drop kj)) ∧ Chg (blk (some (⟨g, off, none⟩ : Addr))) w wr)) (fun _ j _ => fn - (intOf j).toNat)
   case atStart =>
    have hl0 : (fs.take i0).length = i0 := by rw [List.length_take, HN.out]; omega
    refine ⟨i0, i0 + 1, [fs.getD i0 (.pointer none)], by omega, by omega, rfl, by go_num, (by first | (simp; omega) | simp), by rw [HPRE.out, hl0], Lib.hid ⟨?_, Chg.of_below HB1.out⟩⟩
    have e : (fs.take (i0 + 1)).filter (keepV nm S) ++ ([fs.getD i0 (.pointer none)] ++ fs.drop (i0 + 1)) = fs := by
     rw [HPRE.out]
     have hi : i0 < fs.length := by rw [HN.out]; exact hi0
     conv => rhs; rw [← List.take_append_drop i0 fs, List.drop_eq_getElem_cons hi]
     simp [List.getD, hi]
    rw [e]
    exact HH.out.1.below HB1.out
   case round =>
    obtain ⟨ki, kj, mid, hkj, hij, rfl, rfl, hmid, hki, HI⟩ := hrel
    have hki0 : (0 : Int) ≤ (ki : Int) := by omega
    have hkj0 : (0 : Int) ≤ (kj : Int) := by omega
    have hijI : (ki : Int) < (kj : Int) := by omega
    rcases Nat.lt_or_ge kj fn with hkn | hkn
    · have hkn' : (kj : Int) < (fn : Int) := by omega
      obtain ⟨hL, hC⟩ := HI.out
      obtain ⟨hL0, hfs, hfF, hB, hBF, hMF, hM⟩ := HH.out
      obtain ⟨_, _, e, hg2, hc, hf⟩ := hL.at (by omega)
      cases e
      obtain ⟨v, hv⟩ : ∃ v, fs[kj]? = some v := ⟨_, List.getElem?_eq_getElem (by rw [HN.out]; exact hkn)⟩
      have hdrop : fs.drop kj = v :: fs.drop (kj + 1) := by
       obtain ⟨h1, h2⟩ := List.getElem?_eq_some_iff.1 hv
       rw [List.drop_eq_getElem_cons h1, h2]
      have hck := hc kj (by omega)
      have hat : ((fs.take kj).filter (keepV nm S) ++ (mid ++ fs.drop kj))[kj]? = some v := by
       rw [List.getElem?_append_right (by omega), hki, List.getElem?_append_right (by omega), hmid, hdrop]
       simp
      rw [hat] at hck
      obtain ⟨f, A, n, c, sure, rfl, hfile, hnum⟩ := hfs v (List.mem_of_getElem? hv)
      have hfg := hfF f (List.mem_of_getElem? hv)
      have hfile' := hfile.same (hC.same f (lt_of_block hfile) hfg)
      obtain ⟨num, hnm⟩ : ∃ num, nm (.pointer (some ⟨f, 0, none⟩)) = num := ⟨_, rfl⟩
      rw [hnm] at hfile' hnum
      have H1 := Lib.hid (forget1_any wr f num A n c sure hfile' hnum B M ((World.cell?_of_block (w := w) (a := ⟨B, 0, none⟩) (hC.same B hbl hBF)).trans hB) S (hM.below (hC.same M hM.lt hMF)))
      have hkp : keepV nm S (.pointer (some ⟨f, 0, none⟩)) = decide (num ∈ S) := by unfold keepV; rw [hnm]
      have HV := Lib.hid (And.intro hv (And.intro hkp (And.intro hdrop (And.intro hL hC))))
      obtain ⟨t, ht⟩ : ∃ t, decide (num ∈ S) = t := ⟨_, rfl⟩
      have HT := Lib.hid ht
      rw [ht] at H1
      have hkp2 : keepV nm S (.pointer (some ⟨f, 0, none⟩)) = t := by rw [hkp, ht]
      have htake : (fs.take (kj + 1)).filter (keepV nm S) = (fs.take kj).filter (keepV nm S) ++ (if t = true then [.pointer (some ⟨f, 0, none⟩)] else []) := by
       rw [List.take_add_one, hv, List.filter_append]
       cases t <;> simp [hkp2]
      have HTK := Lib.hid htake
      clear hL hC hL0 hfs hfF hB hBF hMF hM hc hv hat hfile hfile' hnum hfg hnm hkp ht hkp2 htake hdrop
      cases t with
      | true =>
       go_wp2_with fail
       refine H1.out.mono ?_
       rintro e w2 ⟨rfl, hb2⟩
       have hL2 := HV.out.2.2.2.1.below hb2
       obtain ⟨_, _, e2, hg3, hc3, hf3⟩ := hL2.at (by omega)
       cases e2
       have hxl := hL2.1
       obtain ⟨q0, qf⟩ := hf3 ki (by omega)
       obtain ⟨u, hu⟩ := Option.isSome_iff_exists.1 q0
       have hset := hL2.set ki [.pointer (some ⟨f, 0, none⟩)] (by simp; omega)
       rw [setCells_one] at hset
       have HNEW : Hid (SLine 1 (w2.setCell ⟨g, off + ki, none⟩ (.pointer (some ⟨f, 0, none⟩))) (some ⟨g, off, none⟩) fn fc ((fs.take (kj + 1)).filter (keepV nm S) ++ ((mid ++ [Value.pointer (some ⟨f, 0, none⟩)]).drop 1 ++ fs.drop (kj + 1))) ∧ Chg (blk (some (⟨g, off, none⟩ : Addr))) w (w2.setCell ⟨g, off + ki, none⟩ (.pointer (some ⟨f, 0, none⟩)))) := Lib.hid (by
        refine ⟨?_, (HV.out.2.2.2.2.trans (Chg.of_below hb2)).setCell g (off + ki) _ (.inl (mem_blk.2 ⟨_, rfl, rfl⟩))⟩
        rw [HTK.out]
        simp only [↓reduceIte]
        have e3 : ((fs.take kj).filter (keepV nm S) ++ (mid ++ fs.drop kj)).take ki ++ [Value.pointer (some ⟨f, 0, none⟩)] ++ ((fs.take kj).filter (keepV nm S) ++ (mid ++ fs.drop kj)).drop (ki + [Value.pointer (some ⟨f, 0, none⟩)].length) = (fs.take kj).filter (keepV nm S) ++ [Value.pointer (some ⟨f, 0, none⟩)] ++ ((mid ++ [Value.pointer (some ⟨f, 0, none⟩)]).drop 1 ++ fs.drop (kj + 1)) := by
         rw [List.take_left' hki]
         rw [show ki + [Value.pointer (some ⟨f, 0, none⟩)].length = ki + 1 from rfl, ← List.drop_drop, List.drop_left' hki, HV.out.2.2.1, drop_one mid _ _ (by omega)]
        rw [e3] at hset
        exact hset)
       have HK2 : Hid (((fs.take (kj + 1)).filter (keepV nm S)).length = ki + 1) := Lib.hid (by rw [HTK.out]; simp [hki])
       clear hb2 hL2 hc3 hf3 hxl hset q0 hg3
       go_wp2
       go_roundw
       case rel => exact ⟨ki + 1, kj + 1, _, by omega, by omega, by go_num, by go_num, (by first | (simp; omega) | simp), HK2.out, HNEW⟩
       case measure => simp [intOf]; omega
      | false =>
       go_wp2_with fail
       refine H1.out.mono ?_
       rintro e w2 ⟨rfl, hb2⟩
       have HNEW : Hid (SLine 1 w2 (some ⟨g, off, none⟩) fn fc ((fs.take (kj + 1)).filter (keepV nm S) ++ ((mid ++ [Value.pointer (some ⟨f, 0, none⟩)]) ++ fs.drop (kj + 1))) ∧ Chg (blk (some (⟨g, off, none⟩ : Addr))) w w2) := Lib.hid (by
        refine ⟨?_, HV.out.2.2.2.2.trans (Chg.of_below hb2)⟩
        have h := HV.out.2.2.2.1.below hb2
        rw [HV.out.2.2.1] at h
        rw [HTK.out]
        simp only [Bool.false_eq_true, ↓reduceIte, List.append_nil]
        rw [List.append_assoc mid]
        exact h)
       have HK2 : Hid (((fs.take (kj + 1)).filter (keepV nm S)).length = ki) := Lib.hid (by rw [HTK.out]; simp [hki])
       clear hb2
       go_wp2
       go_roundw
       case rel => exact ⟨ki, kj + 1, _, by omega, by omega, rfl, by go_num, (by first | (simp; omega) | simp), HK2.out, HNEW⟩
       case measure => simp [intOf]; omega
    · obtain rfl : kj = fn := by omega
      have hall : fs.take kj = fs := List.take_of_length_le (by rw [HN.out]; exact Nat.le_refl _)
      have HALL := Lib.hid hall
      rw [hall] at hki HI
      have hL := HI.out.1
      obtain ⟨hcl, hl2, hc2⟩ := clear_from wr g off kj fc _ hL ki (by omega)
      rw [List.take_left' hki] at hl2
      obtain ⟨w2, hw2⟩ : ∃ w2, wr.setCells g (off + ki) (List.replicate (kj - ki) (.pointer none)) = w2 := ⟨_, rfl⟩
      rw [hw2] at hcl hl2 hc2
      have HFIN : Hid (SLine 1 w2 (some ⟨g, off, none⟩) (fs.filter (keepV nm S)).length fc (fs.filter (keepV nm S)) ∧ Chg (blk (some (⟨g, off, none⟩ : Addr))) w w2) := Lib.hid ⟨by rw [hki]; exact hl2, HI.out.2.andThen hc2 (fun k hk => .inl (by simp only [List.mem_singleton] at hk; subst hk; exact mem_blk.2 ⟨_, rfl, rfl⟩))⟩
      have hkfc : (ki : Int) ≤ (fc : Int) := by omega
      have hkfn : (ki : Int) ≤ (kj : Int) := by omega
      have hkfc2 : ki < fc := by omega
      have HKI := Lib.hid hki
      clear hall hL hl2 hc2 hw2 hki
      go_wp2
      go_ret
      exact ⟨by rw [HKI.out]; rfl, HFIN.out⟩
end
section
attribute [local go_sem] Oper.semAt_some
open Go.RowKit Go.Shelf Go.Maps
def NumsIn (w : World) (nm : Value → Nat) (ps : List (ByteArray × Value)) : Prop := ∀ p ∈ ps, ∃ f A n c sure, p.2 = Value.pointer (some ⟨f, 0, none⟩) ∧ FileAt w f (nm p.2) A n c sure ∧ nm p.2 ≤ 1000000
structure MarkAt (w0 : World) (nm : Value → Nat) (M : Nat) (pre : List (ByteArray × Value)) (W : World) : Prop where
 chg : Chg [M] w0 W
 nums : NumsAt W M (pre.map fun p => nm p.2)
theorem MarkAt.steady {w0 : World} {nm : Value → Nat} {M : Nat} {pre : List (ByteArray × Value)} (hb : M < w0.heap.size) : SteadyIt w0.heap.size (MarkAt w0 nm M pre) := by
 rintro W W' ⟨h1, h2⟩ hc
 exact ⟨h1.andThen hc (fun k hk => by simp only [List.mem_cons, List.not_mem_nil, or_false] at hk; omega), h2.below (hc.same M h2.lt (by simp only [List.mem_cons, List.not_mem_nil, or_false]; omega))⟩
set_option maxHeartbeats 3200000 in
theorem forget_any (w : World) (d : Nat) (b : DBox) (hD : DBoxAt w d b) (A : Option Addr) (n c : Nat) (hnow : b.now = .slice A n c) (ps : List (ByteArray × Value)) (hR : RowG encS ltS w A n c ps) (hn : n ≤ 90000) (nm : Value → Nat) (hps : NumsIn w nm ps)
 (F : Option Addr) (fn fc : Nat) (hfi : b.files = .slice F fn fc) (fs : List Value) (hL : SLine 1 w F fn fc fs) (hfn : fn ≤ 100000) (hfs : FsIn w nm fs) (hfF : ∀ f, Value.pointer (some ⟨f, 0, none⟩) ∈ fs → f ∉ blk F) (hdF : d ∉ blk F) :
 Calls Tryz.prog 71 #[.pointer (some ⟨d, 0, none⟩)] w fun e w' => (∃ v, e = .returned v) ∧ ∃ k, k = (fs.filter (keepV nm (ps.map fun p => nm p.2))).length ∧ DBoxAt w' d { b with files := .slice F k fc } ∧ SLine 1 w' F k fc (fs.filter (keepV nm (ps.map fun p => nm p.2))) ∧ Chg (d :: blk F) w w' := by
 have hmm := @run_makeMap Tryz.prog
 have HD := Lib.hid hD
 have hdl := hD.lt
 refine (callsIn_wide (n := 8)).1 ?_
 refine callsIn_of_wp_marks Tryz.func71 rfl trivial ?_ rfl
 simp only [Tryz.ntmps71, List.size_toArray, List.length_cons, List.length_nil, Nat.reduceAdd, Nat.reduceSub, Array.replicate_succ, Array.replicate_zero, List.push_toArray, List.append_toArray, List.nil_append, List.cons_append]
 refine wpIn_wide.2 ?_
 obtain ⟨hh, hhe⟩ : ∃ hh, w.heap.size = hh := ⟨_, rfl⟩
 obtain ⟨W2, hW2⟩ : ∃ W2, (w.alloc (.map #[] 0)).alloc (.cells #[.map (some hh)] 154) = W2 := ⟨_, rfl⟩
 have hB2 : Below w.heap.size w W2 := by rw [← hW2]; exact ((Below.refl _ w).alloc (Nat.le_refl _) _).alloc (by simp) _
 have hs2 : W2.heap.size = hh + 2 := by rw [← hW2, ← hhe]; simp
 have hM2 : NumsAt W2 hh [] := by
  have h1 := NumsAt.new w
  rw [hhe] at h1
  rw [← hW2]
  exact h1.below (heap_alloc_old _ _ (by simp; omega))
 have k1 : W2.heap[hh + 1]? = some (.cells #[.map (some hh)] 154 (0, 0)) := by
  have := heap_alloc_new (w.alloc (.map #[] 0)) (.cells #[.map (some hh)] 154 (0, 0))
  rw [World.size_alloc, hhe] at this
  rw [← hW2]
  exact this
 have HH := Lib.hid (And.intro hR (And.intro hps (And.intro hL (And.intro hfs (And.intro hfF hdF)))))
 have HK1 := Lib.hid k1
 have HM2 := Lib.hid hM2
 have HB2 := Lib.hid hB2
 have HHE := Lib.hid hhe
 have HS2 := Lib.hid hs2
 have HNOW := Lib.hid (And.intro hnow hfi)
 have HSH : Hid (∀ p ∈ ps, ∃ a : Option Addr, p.2 = .pointer a) := Lib.hid fun p hp => by obtain ⟨f, _, _, _, _, e, _⟩ := hps p hp; exact ⟨_, e⟩
 have hplen : ps.length = n := hR.len
 have HPL := Lib.hid hplen
 clear hR hps hL hfs hfF hdF k1 hM2 hB2 hs2 hnow hfi hD hplen
 go_wp2_with fail
 refine (reach_S _ _).mono ?_
 rintro e w' ⟨rfl, rfl⟩
 obtain ⟨W3, hW3⟩ : ∃ W3, W2.alloc (.cells #[.pointer (some ⟨d, 2, none⟩)] 95) = W3 := ⟨_, rfl⟩
 have hs2 := HS2.out
 have hB3 : Below W2.heap.size W2 W3 := by rw [← hW3]; exact (Below.refl _ W2).alloc (Nat.le_refl _) _
 have hs3 : W3.heap.size = hh + 3 := by rw [← hW3]; simp [hs2]
 have hbx : W3.heap[hh + 2]? = some (.cells #[.pointer (some ⟨d, 2, none⟩)] 95 (0, 0)) := by
  have := heap_alloc_new W2 (.cells #[.pointer (some ⟨d, 2, none⟩)] 95 (0, 0))
  rw [hs2, hW3] at this
  exact this
 rw [hs2, hW3]
 have HBX := Lib.hid hbx
 have HB3 : Hid (Below w.heap.size w W3) := Lib.hid (HB2.out.trans (hB3.mono (by have := HB2.out.size; omega)))
 have HJ1 := Lib.hid ((hB3.block (hh + 1) (by omega)).trans HK1.out)
 have HM3 : Hid (NumsAt W3 hh []) := Lib.hid (HM2.out.below (hB3.block hh (by omega)))
 have hq3 : d < hh := by have := HHE.out; omega
 clear hW2 hW3 hbx hB3 HK1 hmm
 have HIT : Hid (∀ W1, Below W3.heap.size W3 W1 → IterOk Tryz.prog 74 #[.pointer (some ⟨hh + 2, 0, none⟩)] arS 2 ps W1) := Lib.hid (fun W1 hb => by
  have hbw := HB3.out.trans (hb.mono (by have := HHE.out; omega))
  have hc2 : W1.cell? ⟨d, 2, none⟩ = some b.now := (HD.out.below hbw).cell 2 _ rfl
  rw [HNOW.out.1] at hc2
  exact each1_S W1 (hh + 2) (some ⟨d, 2, none⟩) A n c ps (cell_of_one ((hb.block _ (by omega)).trans HBX.out)) (.inr ⟨d, 2, rfl, hc2, HH.out.1.below hbw⟩) (by omega) HSH.out)
 go_wp2_with fail
 refine (wpIn_wide (n := 8)).1 ?_
 refine range_it 8 2 (by decide) 74 #[.pointer (some ⟨hh + 2, 0, none⟩)] arS rfl eachS_enters (fun _ => rfl) ps HIT.out (fun C pre W => MarkAt W3 nm hh pre W) (fun _ _ _ _ => False) (fun C xs => MarkAt.steady (by omega)) (fun _ _ _ _ _ h _ => h) ?h0 ?hab ?hdone (fun _ _ _ _ _ h _ => h.elim)
 case h0 =>
  intro C W1 hC hb1
  exact ⟨Chg.of_below hb1, HM3.out.below (hb1.block _ (by omega))⟩
 case hab =>
  apply Exists.intro
  refine ⟨?hassign, ?hbody⟩
  case hassign =>
   intro x W K hK
   unfold arS encS
   gi_wp2
   exact hK
  case hbody =>
   intro C pre x Wr hC hCW hD1 hI hpre
   obtain ⟨x, v⟩ := x
   have hmem : (x, v) ∈ ps := hpre.subset (by simp)
   obtain ⟨f, fA, fn', fc', sure, hv, hf, hnum⟩ := HH.out.2.1 _ hmem
   simp only at hv hf hnum
   subst hv
   have hfl : f < hh := by have := lt_of_block hf; have := HHE.out; omega
   have hf3 := hf.same (HB3.out.block f (lt_of_block hf))
   have hfr := hf3.same (hI.chg.same f (by omega) (by simp only [List.mem_cons, List.not_mem_nil, or_false]; omega))
   have hprel : pre.length ≤ 90000 := by have h1 := hpre.length_le; have := HPL.out; simp at h1; omega
   obtain ⟨num, hnm⟩ : ∃ num, nm (.pointer (some ⟨f, 0, none⟩)) = num := ⟨_, rfl⟩
   rw [hnm] at hfr hnum
   have c0 := hfr.c0
   have c1 : Wr.cell? ⟨hh + 1, 0, none⟩ = some (.map (some hh)) := cell_of_one ((hI.chg.same (hh + 1) (by omega) (by simp)).trans HJ1.out)
   obtain ⟨w2, hrun, hN2, hC2⟩ := (show NumsAt Wr.drew hh (pre.map fun p => nm p.2) from hI.nums).put num (by omega) (by simp; omega)
   have HSTEP : Hid (KeepsIt W3.heap.size C Wr w2 ∧ MarkAt W3 nm hh (pre ++ [(x, .pointer (some ⟨f, 0, none⟩))]) w2) := Lib.hid (by
    have hcc : Chg [hh] Wr w2 := (Chg.refl _ Wr).drew.trans hC2
    refine ⟨hcc.keepsIt (by omega) hCW (by simp; omega) (by simp; omega) (by simp; omega), hI.chg.trans hcc, ?_⟩
    rw [List.map_append, List.map_cons, List.map_nil, hnm]
    exact hN2)
   clear hmem hf hf3 hfr hI hpre hN2 hC2 hnm
   gi_wp2_with fail
   gi_region
   all_goals
    try gi_wp2
    exact HSTEP.out
 case hdone =>
  intro C Wl hI hK
  rw [hs3] at hK
  have hlt : hh + 3 < Wl.heap.size := lt_of_block hK
  have hBl : Below hh W3 Wl := hI.chg.toBelow (fun k hk => by simp only [List.mem_singleton] at hk; omega) (by omega)
  have hBw : Below w.heap.size w Wl := HB3.out.trans (hBl.mono (by have := HHE.out; omega))
  obtain ⟨hR, hps, hL, hfs, hfF, hdF⟩ := HH.out
  have hFl : ∀ k ∈ blk F, k < hh := fun k hk => by have := hL.lt k hk; have := HHE.out; omega
  have c1 : Wl.cell? ⟨hh + 1, 0, none⟩ = some (.map (some hh)) := cell_of_one ((hI.chg.same (hh + 1) (by omega) (by simp)).trans HJ1.out)
  have HDEL := Lib.hid (delete_any Wl F fn fc fs (hL.below hBw) (by omega) nm (hfs.below hBw) hfF (hh + 1) hh c1 (fun hm => by have := hFl _ hm; omega) (fun hm => by have := hFl _ hm; omega) (ps.map fun p => nm p.2) hI.nums)
  have hDl := HD.out.below hBw
  have q0 : Wl.cell? ⟨d, 0, none⟩ = some b.files := hDl.cell 0 _ rfl
  rw [HNOW.out.2] at q0
  have hmf : ∀ (fn : Fn) (first cap : Array Value) (w : World), (Instr.makeFunc fn first cap).run Tryz.prog w = .ok (.func fn first cap) w := fun _ _ _ _ => rfl
  obtain ⟨kk, hkk⟩ : ∃ kk, (fs.filter (keepV nm (ps.map fun p => nm p.2))).length = kk := ⟨_, rfl⟩
  rw [hkk] at HDEL
  have HKK := Lib.hid hkk
  have HX := Lib.hid (And.intro hDl (And.intro hBw (And.intro hK (And.intro hFl hdF))))
  have hszl : hh + 3 ≤ Wl.heap.size := by have := hBl.size; omega
  clear hBl hBw hR hps hL hfs hfF hdF hFl hDl hK hI hkk c1
  go_wp2_with fail
  refine HDEL.out.mono ?_
  rintro e w2 ⟨rfl, hl2, hc2⟩
  obtain ⟨hDl, hBw, hK, hFl, hdF⟩ := HX.out
  have hD2 := hDl.chg hc2 hdF
  have z0 : w2.cell? ⟨d, 0, none⟩ = some b.files := hD2.cell 0 _ rfl
  have zf := hD2.free 0
  rw [HNOW.out.2] at z0
  obtain ⟨w4, hw4⟩ : ∃ w4, w2.setCell ⟨d, 0, none⟩ (.slice F kk fc) = w4 := ⟨_, rfl⟩
  have hD4 : DBoxAt w4 d { b with files := .slice F kk fc } := by rw [← hw4]; exact hD2.set 0 (.slice F kk fc) _ rfl
  have hc4 : Chg [d] w2 w4 := by rw [← hw4]; exact (Chg.refl _ w2).setCell d 0 _ (.inl (by simp))
  have hl4 := hl2.chg hc4 (fun k hk hm => by rw [List.mem_singleton] at hm; rw [hm] at hk; exact hdF hk)
  have hcp := chg_putObjIt w4 (hh + 3) (.deferred none)
  have hK4 : w4.heap[hh + 3]? = some (.deferred (some [])) := (hc4.same _ (by have := hc2.size; omega) (by simp only [List.mem_singleton]; omega)).trans ((hc2.same _ (by omega) (fun hm => by have := hFl _ hm; omega)).trans hK)
  have HFIN : Hid (DBoxAt (w4.putObj (hh + 3) (.deferred none)) d { b with files := .slice F kk fc } ∧ SLine 1 (w4.putObj (hh + 3) (.deferred none)) F kk fc (fs.filter (keepV nm (ps.map fun p => nm p.2))) ∧ Chg (d :: blk F) w (w4.putObj (hh + 3) (.deferred none))) := Lib.hid (by
   refine ⟨hD4.chg hcp (by simp only [List.mem_singleton]; omega), hl4.chg hcp (fun k hk hm => by have := hFl k hk; simp only [List.mem_singleton] at hm; omega), ?_⟩
   have := HHE.out
   refine (((Chg.of_below hBw).andThen hc2 (fun k hk => .inl (List.mem_cons_of_mem _ hk))).andThen hc4 (fun k hk => .inl (by rw [List.mem_singleton] at hk; rw [hk]; exact List.mem_cons_self ..))).andThen hcp (fun k hk => .inr (by simp only [List.mem_singleton] at hk; omega)))
  have HK4 := Lib.hid hK4
  clear hl2 hc2 hD2 hD4 hc4 hl4 hcp hK4 hDl hBw hK hFl hdF HDEL
  go_wp2_with fail
  refine ⟨by simp, .inl ⟨_, _, rfl, run_takeDeferred HK4.out, ?_⟩⟩
  exact ⟨_, results_none rfl _ _ _, ⟨_, rfl⟩, kk, HKK.out.symm, HFIN.out⟩
end
section
open Go.RowKit Go.Maps
def layAll (ps : List (ByteArray × Value)) (chl : List (List (ByteArray × Value))) : List (ByteArray × Value) := chl.foldl layP ps
theorem layAll_snoc (ps : List (ByteArray × Value)) (chl : List (List (ByteArray × Value))) (c : List (ByteArray × Value)) : layAll ps (chl ++ [c]) = layP (layAll ps chl) c := by unfold layAll; rw [List.foldl_append]; rfl
def ChsIn (w : World) (L : List Nat) (css : List Value) (chl : List (List (ByteArray × Value))) : Prop :=
 css.length = chl.length ∧ ∀ (i : Nat) (v : Value) (chs : List (ByteArray × Value)), css[i]? = some v → chl[i]? = some chs → ∃ (pA : Option Addr) (pc : Nat), v = Value.slice pA chs.length pc ∧ SLine 2 w pA chs.length pc (cellsP encS chs) ∧ (∀ k ∈ blk pA, k ∉ L) ∧ chs.length ≤ 2 ∧ ∀ p ∈ chs, ∃ a : Option Addr, p.2 = .pointer a
theorem mapF_id (ps : List (ByteArray × Value)) (h : ∀ p ∈ ps, ∃ a : Option Addr, p.2 = .pointer a) : mapF (fun a => a) ps = ps := by
 unfold mapF
 conv => rhs; rw [← List.map_id ps]
 apply List.map_congr_left
 rintro ⟨x, v⟩ hp
 obtain ⟨a, ha⟩ := h _ hp
 simp only at ha
 subst ha
 rfl
theorem settle_enters (args : Array Value) (w : World) : (callFunc 70 args).run Tryz.prog w = .ok (.enter 70 args) w := enters_of Tryz.func70 (by kernel_rfl) rfl args w
def Settled (w : World) (d : Nat) (b : DBox) (SA F : Option Addr) (fc : Nat) (fs : List Value) (nm : Value → Nat) (R : List (ByteArray × Value)) (w' : World) : Prop :=
 ∃ A2 n2 c2 A3 n3 c3 kf, DBoxAt w' d { b with files := .slice F kf fc, now := .slice A3 n3 c3, sure := .slice A2 n2 c2, changes := .slice none 0 0 } ∧ RowG encS ltS w' A2 n2 c2 R ∧ RowG encS ltS w' A3 n3 c3 R ∧
  kf = (fs.filter (keepV nm (R.map fun p => nm p.2))).length ∧ SLine 1 w' F kf fc (fs.filter (keepV nm (R.map fun p => nm p.2))) ∧ Chg (d :: (blk SA ++ blk F)) w w' ∧ (∀ k ∈ blk A2, k ∈ blk SA ∨ w.heap.size ≤ k) ∧ (∀ k ∈ blk A3, w.heap.size ≤ k) ∧ ∀ k ∈ blk A2, k ∉ blk A3
set_option maxHeartbeats 3200000 in
theorem settle_any (w : World) (d : Nat) (b : DBox) (hD : DBoxAt w d b) (SA : Option Addr) (sn sc : Nat) (hsure : b.sure = .slice SA sn sc) (ss : List (ByteArray × Value)) (hS : RowG encS ltS w SA sn sc ss) (hdS : d ∉ blk SA)
 (C : Option Addr) (cn cc : Nat) (hch : b.changes = .slice C cn cc) (css : List Value) (hC : SLine 1 w C cn cc css) (hdC : d ∉ blk C) (hCS : ∀ k ∈ blk C, k ∉ blk SA) (chl : List (List (ByteArray × Value))) (hcl : ChsIn w (d :: blk SA) css chl) (hcn : cn ≤ 90000)
 (k : Nat) (hk : k ≤ cn) (hlen : ∀ j, j ≤ k → (layAll ss (chl.take j)).length ≤ 90000)
 (F : Option Addr) (fn fc : Nat) (hfi : b.files = .slice F fn fc) (fs : List Value) (hL : SLine 1 w F fn fc fs) (hfn : fn ≤ 100000) (nm : Value → Nat) (hfs : FsIn w nm fs) (hfF : ∀ f, Value.pointer (some ⟨f, 0, none⟩) ∈ fs → f ∉ blk F) (hdF : d ∉ blk F) (hFS : ∀ j ∈ blk F, j ∉ blk SA)
 (hfa : ∀ f, Value.pointer (some ⟨f, 0, none⟩) ∈ fs → f ≠ d ∧ f ∉ blk SA) (hin : ∀ p ∈ layAll ss (chl.take k), p.2 ∈ fs) :
 Calls Tryz.prog 37 #[.pointer (some ⟨d, 0, none⟩), .int .i64 (k : Int)] w fun e w' => (∃ v, e = .returned v) ∧ Settled w d b SA F fc fs nm (layAll ss (chl.take k)) w' := by
 have hcl1 := hcl.1
 have hcs1 : css.length = cn := by have := hC.1; omega
 have c4 : w.cell? ⟨d, 4, none⟩ = some b.changes := hD.cell 4 _ rfl
 rw [hch] at c4
 have hcc : cn ≤ cc := hC.2.1
 have hcc63 : cc ≤ 9223372036854775807 := by have := hC.2.2.1; unfold maxLen at this; omega
 have hk0 : (0 : Int) ≤ (k : Int) := by omega
 have hkc : (k : Int) ≤ (cc : Int) := by omega
 have HH := Lib.hid (And.intro hD (And.intro hsure (And.intro hS (And.intro hdS (And.intro hC (And.intro hdC (And.intro hCS (And.intro hcl hlen))))))))
 have HF := Lib.hid (And.intro hfi (And.intro hL (And.intro hfs (And.intro hfF (And.intro hdF (And.intro hFS (And.intro hfa hin)))))))
 have HN := Lib.hid (And.intro hcl1 hcs1)
 clear hD hsure hS hdS hC hdC hCS hcl hlen hfi hL hfs hfF hdF hFS hfa hin hcl1 hcs1
 go_enter Tryz.func37, Tryz.ntmps37
 go_wp2
 clear c4
 go_loopw [13] (fun i wr => ∃ j : Nat, j ≤ k ∧ i = .int .i64 j ∧ Hid (∃ A' n' c', DBoxAt wr d { b with sure := .slice A' n' c' } ∧ RowG encS ltS wr A' n' c' (layAll ss (chl.take j)) ∧ Chg (d :: blk SA) w wr ∧ ∀ x ∈ blk A', x ∈ blk SA ∨ w.heap.size ≤ x)) (fun i _ => k - (intOf i).toNat)
 case atStart =>
  refine ⟨0, by omega, rfl, Lib.hid ⟨SA, sn, sc, ?_, HH.out.2.2.1, Chg.refl _ _, fun x hx => .inl hx⟩⟩
  have := HH.out.1
  have e : { b with sure := .slice SA sn sc } = b := by rw [← HH.out.2.1]
  rw [e]
  exact this
 case round =>
  obtain ⟨j, hj, rfl, HI⟩ := hrel
  obtain ⟨A', n', c', hD', hR', hC', hA'⟩ := HI.out
  obtain ⟨hD, hsure, hS, hdS, hCl, hdC, hCS, hcl, hlen⟩ := HH.out
  have hdl := hD.lt
  have hdA' : d ∉ blk A' := fun hm => by
   rcases hA' d hm with h | h
   · exact hdS h
   · omega
  rcases Nat.lt_or_ge j k with hjk | hjk
  · have hjc : j < cn := by omega
    have hCw : SLine 1 wr C cn cc css := hCl.chg hC' (fun x hx hm => by
     rcases List.mem_cons.1 hm with h | h
     · rw [h] at hx; exact hdC hx
     · exact hCS x hx h)
    obtain ⟨g, off, rfl, hg, hcs, _⟩ := hCw.at (by omega)
    obtain ⟨v, hv⟩ : ∃ v, css[j]? = some v := ⟨_, List.getElem?_eq_getElem (by rw [HN.out.2]; exact hjc)⟩
    obtain ⟨chs, hchs⟩ : ∃ chs, chl[j]? = some chs := ⟨_, List.getElem?_eq_getElem (by rw [← HN.out.1, HN.out.2]; exact hjc)⟩
    obtain ⟨pA, pc, rfl, hline, hpb, h2, hsh⟩ := hcl.2 j v chs hv hchs
    have hck := hcs j (by omega)
    rw [hv] at hck
    have hline' : SLine 2 wr pA chs.length pc (cellsP encS chs) := hline.chg hC' hpb
    have hn' : n' ≤ 90000 := by rw [← hR'.len]; exact hlen j (by omega)
    have HLAY := Lib.hid (lay_any wr d 3 ({ b with sure := .slice A' n' c' } : DBox).cells 73 A' n' c' _ hD' rfl hdA' hR' pA chs.length pc chs hline' hsh (fun hm => hpb d hm (List.mem_cons_self ..)) (fun x hx hm => by
     rcases hA' x hm with h | h
     · exact hpb x hx (List.mem_cons_of_mem _ h)
     · have := hline.lt x hx; omega) (by omega))
    have hT : layAll ss (chl.take (j + 1)) = layP (layAll ss (chl.take j)) chs := by rw [List.take_add_one, hchs]; exact layAll_snoc _ _ _
    have HT := Lib.hid hT
    have HX := Lib.hid (And.intro hC' (And.intro hA' hdA'))
    obtain ⟨m, hm⟩ : ∃ m, chs.length = m := ⟨_, rfl⟩
    rw [hm] at hck HLAY
    have hjk' : (j : Int) < (k : Int) := by omega
    have hj0 : (0 : Int) ≤ (j : Int) := by omega
    clear hD' hR' hC' hA' hdA' hD hsure hS hdS hCl hdC hCS hcl hlen hCw hcs hv hchs hline hpb hsh hline' hT hm hg
    go_wp2_with fail
    refine HLAY.out.mono ?_
    rintro e w2 ⟨⟨v2, rfl⟩, A2, n2, c2, hb2, hR2, hC2, hF2⟩
    have HNEW : Hid (∃ A' n' c', DBoxAt w2 d { b with sure := .slice A' n' c' } ∧ RowG encS ltS w2 A' n' c' (layAll ss (chl.take (j + 1))) ∧ Chg (d :: blk SA) w w2 ∧ ∀ x ∈ blk A', x ∈ blk SA ∨ w.heap.size ≤ x) := Lib.hid (by
     refine ⟨A2, n2, c2, hb2, by rw [HT.out]; exact hR2, HX.out.1.andThen hC2 (fun x hx => ?_), fun x hx => ?_⟩
     · rcases List.mem_cons.1 hx with h | h
       · exact .inl (by rw [h]; exact List.mem_cons_self ..)
       · rcases HX.out.2.1 x h with h | h
         · exact .inl (List.mem_cons_of_mem _ h)
         · exact .inr h
     · have := HX.out.1.size
       rcases hF2 x hx with h | h
       · exact HX.out.2.1 x h
       · exact .inr (by omega))
    clear hb2 hR2 hC2 hF2
    go_wp2
    go_roundw
    case rel => exact ⟨j + 1, by omega, by go_num, HNEW⟩
    case measure => simp [intOf]; omega
  · obtain rfl : j = k := by omega
    have c4 : wr.cell? ⟨d, 4, none⟩ = some b.changes := hD'.cell 4 _ rfl
    have f4 := hD'.free 4
    obtain ⟨w4, hw4⟩ : ∃ w4, wr.setCell ⟨d, 4, none⟩ (.slice none 0 0) = w4 := ⟨_, rfl⟩
    have hD4 : DBoxAt w4 d { b with sure := .slice A' n' c', changes := .slice none 0 0 } := by rw [← hw4]; exact hD'.set 4 (.slice none 0 0) _ rfl
    have hC4 : Chg [d] wr w4 := by rw [← hw4]; exact (Chg.refl _ wr).setCell d 4 _ (.inl (by simp))
    have hndA : ∀ x ∈ blk A', x ∉ [d] := fun x hx hm => by rw [List.mem_singleton] at hm; rw [hm] at hx; exact hdA' hx
    have hR4 := hR'.chg hC4 hndA
    have hCw4 : Chg (d :: blk SA) w w4 := hC'.andThen hC4 (fun x hx => .inl (by rw [List.mem_singleton] at hx; rw [hx]; exact List.mem_cons_self ..))
    obtain ⟨hfi, hL, hfs, hfF, hdF, hFS, hfa, hin⟩ := HF.out
    obtain ⟨R, hRe⟩ : ∃ R, layAll ss (chl.take j) = R := ⟨_, rfl⟩
    have hn' : n' ≤ 90000 := by rw [← hR'.len]; exact hlen j (by omega)
    rw [hRe] at hR4 hin
    have hsh : ∀ p ∈ R, ∃ a : Option Addr, p.2 = .pointer a := fun p hp => by
     obtain ⟨f, _, _, _, _, e, _⟩ := hfs _ (hin p hp)
     exact ⟨_, e⟩
    have hc3 : w4.cell? ⟨d, 3, none⟩ = some (.slice A' n' c') := hD4.cell 3 _ rfl
    have HCP := Lib.hid (copied_any w4 d 3 A' n' c' R ⟨hc3, hR4⟩ (by omega) hsh 70 #[] settle_enters (fun a => a) (fun W hW p hp a ha => (settleId W a).mono (by rintro e w' ⟨rfl, rfl⟩; exact ⟨rfl, Below.refl _ _⟩)))
    rw [mapF_id R hsh] at HCP
    have HX := Lib.hid (And.intro hD4 (And.intro hR4 (And.intro hCw4 (And.intro hA' (And.intro hdA' hdl)))))
    have HR := Lib.hid hRe
    clear hD' hR' hC' hA' hdA' hD hsure hS hdS hCl hdC hCS hcl hlen hD4 hC4 hndA hR4 hCw4 hfi hL hfs hfF hdF hFS hfa hin hRe hsh hc3 hdl
    go_wp2_with fail
    refine HCP.out.mono ?_
    rintro e w5 ⟨⟨A3, n3, c3, rfl, hR5, hf5⟩, hB5⟩
    obtain ⟨hD4, hR4, hCw4, hA', hdA', hdl⟩ := HX.out
    obtain ⟨hfi, hL, hfs, hfF, hdF, hFS, hfa, hin⟩ := HF.out
    rw [HR.out] at hin
    have hsz4 := hCw4.size
    have hD5 := hD4.below hB5
    have c2 : w5.cell? ⟨d, 2, none⟩ = some b.now := hD5.cell 2 _ rfl
    have f2 := hD5.free 2
    obtain ⟨w6, hw6⟩ : ∃ w6, w5.setCell ⟨d, 2, none⟩ (.slice A3 n3 c3) = w6 := ⟨_, rfl⟩
    have hD6 : DBoxAt w6 d { b with now := .slice A3 n3 c3, sure := .slice A' n' c', changes := .slice none 0 0 } := by rw [← hw6]; exact hD5.set 2 (.slice A3 n3 c3) _ rfl
    have hc6 : Chg [d] w5 w6 := by rw [← hw6]; exact (Chg.refl _ w5).setCell d 2 _ (.inl (by simp))
    have hall : Chg (d :: blk SA) w w6 := (hCw4.trans (Chg.of_below hB5)).andThen hc6 (fun x hx => .inl (by rw [List.mem_singleton] at hx; rw [hx]; exact List.mem_cons_self ..))
    have hdA3 : ∀ x ∈ blk A3, x ∉ [d] := fun x hx hm => by rw [List.mem_singleton] at hm; have := hf5 x hx; omega
    have hR6 := hR5.chg hc6 hdA3
    have hRA6 : RowG encS ltS w6 A' n' c' R := (hR4.below hB5).chg hc6 (fun x hx hm => by rw [List.mem_singleton] at hm; rw [hm] at hx; exact hdA' hx)
    have hL6 : SLine 1 w6 F fn fc fs := hL.chg hall (fun x hx hm => by
     rcases List.mem_cons.1 hm with h | h
     · rw [h] at hx; exact hdF hx
     · exact hFS x hx h)
    have hfs6 : FsIn w6 nm fs := fun v hv => by
     obtain ⟨f, A, n, c, sure, e, h1, h2⟩ := hfs v hv
     refine ⟨f, A, n, c, sure, e, h1.same (hall.same f (lt_of_block h1) (fun hm => ?_)), h2⟩
     rw [e] at hv
     rcases List.mem_cons.1 hm with h | h
     · exact (hfa f hv).1 h
     · exact (hfa f hv).2 h
    have hps6 : NumsIn w6 nm R := fun p hp => hfs6 _ (hin p hp)
    have hFG := Lib.hid (forget_any w6 d _ hD6 A3 n3 c3 rfl R hR6 (by rw [← hR6.len, hR4.len]; exact hn') nm hps6 F fn fc hfi fs hL6 hfn hfs6 hfF hdF)
    have HY4 := Lib.hid hR4.lt'
    have HY := Lib.hid (And.intro hall (And.intro hRA6 (And.intro hR6 (And.intro hf5 (And.intro hsz4 (And.intro hA' (And.intro hdA' (And.intro hdl (And.intro hL (And.intro hFS hB5.size))))))))))
    clear hD4 hR4 hCw4 hA' hdA' hdl hfi hL hfs hfF hdF hFS hfa hin hsz4 hD5 hD6 hc6 hall hdA3 hR6 hRA6 hL6 hfs6 hps6 hR5 hf5 hB5
    go_wp2_with fail
    refine hFG.out.mono ?_
    rintro e w7 ⟨⟨v7, rfl⟩, kf, hkf, hD7, hL7, hc7⟩
    obtain ⟨hall, hRA6, hR6, hf5, hsz4, hA', hdA', hdl, hL, hFS, hs5⟩ := HY.out
    have hA4 := HY4.out
    have HEND : Hid (Settled w d b SA F fc fs nm (layAll ss (chl.take j)) w7) := Lib.hid (by
     rw [HR.out]
     have hapA : ∀ x ∈ blk A', x ∉ d :: blk F := fun x hx hm => by
      rcases List.mem_cons.1 hm with h | h
      · rw [h] at hx; exact hdA' hx
      · rcases hA' x hx with h' | h'
        · exact hFS x h h'
        · have := hL.lt x h; omega
     have hapB : ∀ x ∈ blk A3, x ∉ d :: blk F := fun x hx hm => by
      have := hf5 x hx
      rcases List.mem_cons.1 hm with h | h
      · omega
      · have := hL.lt x h; omega
     refine ⟨A', n', c', A3, n3, c3, kf, hD7, hRA6.chg hc7 hapA, hR6.chg hc7 hapB, hkf, hL7, ?_, hA', fun x hx => by have := hf5 x hx; omega, fun x hx hx3 => ?_⟩
     · refine (hall.weaken (fun x hx => .inl ?_)).andThen hc7 (fun x hx => .inl ?_)
       · rcases List.mem_cons.1 hx with h | h
         · rw [h]; exact List.mem_cons_self ..
         · exact List.mem_cons_of_mem _ (List.mem_append_left _ h)
       · rcases List.mem_cons.1 hx with h | h
         · rw [h]; exact List.mem_cons_self ..
         · exact List.mem_cons_of_mem _ (List.mem_append_right _ h)
     · have h3 := hf5 x hx3
       have := hA4 x hx
       omega)
    clear hall hRA6 hR6 hf5 hsz4 hA' hdA' hdl hL hFS hs5 hD7 hL7 hc7 hkf
    go_wp2_with fail
    go_end0
    exact ⟨⟨_, rfl⟩, HEND.out⟩
theorem layOne_len (ps : List (ByteArray × Value)) (h : Rises ltS ps) (p : ByteArray × Value) : Rises ltS (layOne ps p) ∧ (layOne ps p).length ≤ ps.length + 1 := by
 unfold layOne
 split
 · exact ⟨rises_drop orders_S h, by have := dropP_length ps p.1; omega⟩
 · exact ⟨rises_put orders_S h _, putP_length ps h p.1 _⟩
theorem layP_len (chs : List (ByteArray × Value)) : ∀ ps : List (ByteArray × Value), Rises ltS ps → Rises ltS (layP ps chs) ∧ (layP ps chs).length ≤ ps.length + chs.length := by
 induction chs with
 | nil => exact fun ps h => ⟨h, by simp [layP]⟩
 | cons c l ih =>
  intro ps h
  obtain ⟨h1, h2⟩ := layOne_len ps h c
  obtain ⟨h3, h4⟩ := ih _ h1
  have e : layP ps (c :: l) = layP (layOne ps c) l := rfl
  rw [e]
  exact ⟨h3, by rw [List.length_cons]; omega⟩
theorem layAll_len (chl : List (List (ByteArray × Value))) : ∀ ps : List (ByteArray × Value), Rises ltS ps → (∀ c ∈ chl, c.length ≤ 2) → Rises ltS (layAll ps chl) ∧ (layAll ps chl).length ≤ ps.length + 2 * chl.length := by
 induction chl with
 | nil => exact fun ps h _ => ⟨h, by simp [layAll]⟩
 | cons c l ih =>
  intro ps h hc
  obtain ⟨h1, h2⟩ := layP_len c ps h
  obtain ⟨h3, h4⟩ := ih _ h1 (fun x hx => hc x (List.mem_cons_of_mem _ hx))
  have e : layAll ps (c :: l) = layAll (layP ps c) l := rfl
  have := hc c (List.mem_cons_self ..)
  rw [e]
  exact ⟨h3, by rw [List.length_cons]; omega⟩
theorem layOne_in {S : List Value} (ps : List (ByteArray × Value)) (hp : ∀ p ∈ ps, p.2 ∈ S) (c : ByteArray × Value) (hc : c.2 = .pointer none ∨ c.2 ∈ S) : ∀ p ∈ layOne ps c, p.2 ∈ S := by
 intro p hm
 unfold layOne at hm
 split at hm
 · exact hp p ((mem_dropP orders_S).1 hm).1
 · rename_i hne
   rcases (mem_putP orders_S).1 hm with h | h
   · rw [h]
     rcases hc with h | h
     · exact absurd h hne
     · exact h
   · exact hp p h.1
theorem layP_in {S : List Value} (chs : List (ByteArray × Value)) : ∀ ps : List (ByteArray × Value), (∀ p ∈ ps, p.2 ∈ S) → (∀ c ∈ chs, c.2 = .pointer none ∨ c.2 ∈ S) → ∀ p ∈ layP ps chs, p.2 ∈ S := by
 induction chs with
 | nil => exact fun ps h _ => h
 | cons c l ih => exact fun ps h hc => ih _ (layOne_in ps h c (hc c (List.mem_cons_self ..))) (fun x hx => hc x (List.mem_cons_of_mem _ hx))
theorem layAll_in {S : List Value} (chl : List (List (ByteArray × Value))) : ∀ ps : List (ByteArray × Value), (∀ p ∈ ps, p.2 ∈ S) → (∀ c ∈ chl, ∀ p ∈ c, p.2 = .pointer none ∨ p.2 ∈ S) → ∀ p ∈ layAll ps chl, p.2 ∈ S := by
 induction chl with
 | nil => exact fun ps h _ => h
 | cons c l ih => exact fun ps h hc => ih _ (layP_in c ps h (hc c (List.mem_cons_self ..))) (fun x hx => hc x (List.mem_cons_of_mem _ hx))
def ChsO (w : World) (own : Nat → Nat) (css : List Value) (chl : List (List (ByteArray × Value))) : Prop :=
 css.length = chl.length ∧ ∀ (i : Nat) (v : Value) (chs : List (ByteArray × Value)), css[i]? = some v → chl[i]? = some chs → ∃ (pA : Option Addr) (pc : Nat), v = Value.slice pA chs.length pc ∧ SLine 2 w pA chs.length pc (cellsP encS chs) ∧ (∀ k ∈ blk pA, own k = 6) ∧ chs.length ≤ 2 ∧ ∀ p ∈ chs, ∃ a : Option Addr, p.2 = .pointer a
def FileO (w : World) (own : Nat → Nat) (v : Value) (num : Nat) (xs : List Value) (sure : Nat) : Prop :=
 ∃ f A n c, v = Value.pointer (some ⟨f, 0, none⟩) ∧ own f = 7 ∧ FileAt w f num A n c sure ∧ SLine 1 w A n c xs ∧ (∀ k ∈ blk A, own k = 8 + num) ∧ n ≤ 1048576 ∧ sure ≤ n
structure DiskIn (w : World) (d : Nat) (own : Nat → Nat) (b : DBox) (F : Option Addr) (fn fc : Nat) (RA : Option Addr) (rn rc : Nat) (SA : Option Addr) (sn sc : Nat) (C : Option Addr) (cn cc : Nat)
 (fs : List Value) (ps ss : List (ByteArray × Value)) (css : List Value) (chl : List (List (ByteArray × Value))) (nm : Value → Nat) (dt : Value → List Value) (su : Value → Nat) : Prop where
 box : DBoxAt w d b
 od : own d = 1
 files : b.files = .slice F fn fc
 line : SLine 1 w F fn fc fs
 oF : ∀ k ∈ blk F, own k = 2
 now : b.now = .slice RA rn rc
 nrow : RowG encS ltS w RA rn rc ps
 oR : ∀ k ∈ blk RA, own k = 3
 sure : b.sure = .slice SA sn sc
 srow : RowG encS ltS w SA sn sc ss
 oS : ∀ k ∈ blk SA, own k = 4
 changes : b.changes = .slice C cn cc
 cline : SLine 1 w C cn cc css
 oC : ∀ k ∈ blk C, own k = 5
 chs : ChsO w own css chl
 file : ∀ v ∈ fs, FileO w own v (nm v) (dt v) (su v)
 num : ∀ v ∈ fs, (nm v : Int) < b.made
 bytes : ∀ v ∈ fs, ∀ u ∈ dt v, ∃ z : Int, 0 ≤ z ∧ z < 256 ∧ u = .int .u8 z
 rises : fs.Pairwise fun u v => nm u < nm v
 lay : ps = layAll ss chl
 sin : ∀ p ∈ ss, p.2 ∈ fs
 cin : ∀ c ∈ chl, ∀ p ∈ c, p.2 = .pointer none ∨ p.2 ∈ fs
 made : 0 ≤ b.made ∧ b.made ≤ 80000
 quota : 0 ≤ b.quota ∧ b.quota ≤ 9223372036854775807
 calls : 0 ≤ b.calls ∧ b.calls ≤ 80000
 ahead : b.ahead ≤ 9223372036854775807
 lenF : fn ≤ 80000
 lenC : sn + 2 * cn ≤ 80000
section
variable {w w' : World} {d : Nat} {own own' : Nat → Nat} {b : DBox} {F RA SA C : Option Addr} {fn fc rn rc sn sc cn cc : Nat} {fs css : List Value} {ps ss : List (ByteArray × Value)} {chl : List (List (ByteArray × Value))} {nm su : Value → Nat} {dt : Value → List Value}
theorem FileO.carry {v : Value} {num sure : Nat} {xs : List Value} (h : FileO w own v num xs sure) (hz : w.heap.size ≤ w'.heap.size) (ho : ∀ k, k < w.heap.size → own' k = own k) (hs : ∀ k, k < w.heap.size → (own k = 7 ∨ own k = 8 + num) → w'.heap[k]? = w.heap[k]?) : FileO w' own' v num xs sure := by
 obtain ⟨f, A, n, c, e, h1, h2, h3, h4, h5⟩ := h
 have hf := lt_of_block h2
 exact ⟨f, A, n, c, e, (ho f hf).trans h1, h2.same (hs f hf (.inl h1)), h3.same hz (fun k hk => hs k (h3.lt k hk) (.inr (h4 k hk))), fun k hk => (ho k (h3.lt k hk)).trans (h4 k hk), h5⟩
theorem ChsO.carry (h : ChsO w own css chl) (hz : w.heap.size ≤ w'.heap.size) (ho : ∀ k, k < w.heap.size → own' k = own k) (hs : ∀ k, k < w.heap.size → own k = 6 → w'.heap[k]? = w.heap[k]?) : ChsO w' own' css chl := by
 refine ⟨h.1, fun i v chs h1 h2 => ?_⟩
 obtain ⟨pA, pc, e, h3, h4, h5⟩ := h.2 i v chs h1 h2
 exact ⟨pA, pc, e, h3.same hz (fun k hk => hs k (h3.lt k hk) (h4 k hk)), fun k hk => (ho k (h3.lt k hk)).trans (h4 k hk), h5⟩
theorem DiskIn.carry (H : DiskIn w d own b F fn fc RA rn rc SA sn sc C cn cc fs ps ss css chl nm dt su) (hz : w.heap.size ≤ w'.heap.size) (ho : ∀ k, k < w.heap.size → own' k = own k) (hs : ∀ k, k < w.heap.size → own k ≠ 0 → w'.heap[k]? = w.heap[k]?) :
 DiskIn w' d own' b F fn fc RA rn rc SA sn sc C cn cc fs ps ss css chl nm dt su where
 box := (hs d H.box.lt (by rw [H.od]; omega)).trans H.box
 od := (ho d H.box.lt).trans H.od
 files := H.files
 line := H.line.same hz fun k hk => hs k (H.line.lt k hk) (by rw [H.oF k hk]; omega)
 oF := fun k hk => (ho k (H.line.lt k hk)).trans (H.oF k hk)
 now := H.now
 nrow := H.nrow.same hz fun k hk => hs k (H.nrow.lt' k hk) (by rw [H.oR k hk]; omega)
 oR := fun k hk => (ho k (H.nrow.lt' k hk)).trans (H.oR k hk)
 sure := H.sure
 srow := H.srow.same hz fun k hk => hs k (H.srow.lt' k hk) (by rw [H.oS k hk]; omega)
 oS := fun k hk => (ho k (H.srow.lt' k hk)).trans (H.oS k hk)
 changes := H.changes
 cline := H.cline.same hz fun k hk => hs k (H.cline.lt k hk) (by rw [H.oC k hk]; omega)
 oC := fun k hk => (ho k (H.cline.lt k hk)).trans (H.oC k hk)
 chs := H.chs.carry hz ho fun k hk h => hs k hk (by rw [h]; omega)
 file := fun v hv => (H.file v hv).carry hz ho fun k hk h => hs k hk (by omega)
 num := H.num
 bytes := H.bytes
 rises := H.rises
 lay := H.lay
 sin := H.sin
 cin := H.cin
 made := H.made
 quota := H.quota
 calls := H.calls
 ahead := H.ahead
 lenF := H.lenF
 lenC := H.lenC
theorem DiskIn.boxed (H : DiskIn w d own b F fn fc RA rn rc SA sn sc C cn cc fs ps ss css chl nm dt su) (hc : Chg [d] w w') (b' : DBox) (hb : DBoxAt w' d b') (e1 : b'.files = b.files) (e2 : b'.now = b.now) (e3 : b'.sure = b.sure) (e4 : b'.changes = b.changes) (e5 : b'.made = b.made)
 (h6 : 0 ≤ b'.quota ∧ b'.quota ≤ 9223372036854775807) (h7 : 0 ≤ b'.calls ∧ b'.calls ≤ 80000) (h8 : b'.ahead ≤ 9223372036854775807) :
 DiskIn w' d own b' F fn fc RA rn rc SA sn sc C cn cc fs ps ss css chl nm dt su := by
 have hs : ∀ k, k < w.heap.size → own k ≠ 1 → w'.heap[k]? = w.heap[k]? := fun k hk h => hc.same k hk (fun hm => by rw [List.mem_singleton] at hm; rw [hm] at h; exact h H.od)
 exact {
  box := hb, od := H.od, files := e1.trans H.files
  line := H.line.same hc.size fun k hk => hs k (H.line.lt k hk) (by rw [H.oF k hk]; omega)
  oF := H.oF, now := e2.trans H.now
  nrow := H.nrow.same hc.size fun k hk => hs k (H.nrow.lt' k hk) (by rw [H.oR k hk]; omega)
  oR := H.oR, sure := e3.trans H.sure
  srow := H.srow.same hc.size fun k hk => hs k (H.srow.lt' k hk) (by rw [H.oS k hk]; omega)
  oS := H.oS, changes := e4.trans H.changes
  cline := H.cline.same hc.size fun k hk => hs k (H.cline.lt k hk) (by rw [H.oC k hk]; omega)
  oC := H.oC
  chs := H.chs.carry hc.size (fun _ _ => rfl) fun k hk h => hs k hk (by rw [h]; omega)
  file := fun v hv => (H.file v hv).carry hc.size (fun _ _ => rfl) fun k hk h => hs k hk (by omega)
  num := fun v hv => by rw [e5]; exact H.num v hv
  bytes := H.bytes, rises := H.rises, lay := H.lay, sin := H.sin, cin := H.cin
  made := by rw [e5]; exact H.made
  quota := h6, calls := h7, ahead := h8, lenF := H.lenF, lenC := H.lenC }
end
def Only (own : Nat → Nat) (w : World) (own' : Nat → Nat) (w' : World) : Prop :=
 Below 0 w w' ∧ (∀ i, i < w.heap.size → own' i = own i) ∧ ∀ i, i < w.heap.size → own i = 0 → w'.heap[i]? = w.heap[i]?
theorem Only.refl (own : Nat → Nat) (w : World) : Only own w own w := ⟨Below.refl _ _, fun _ _ => rfl, fun _ _ _ => rfl⟩
theorem Only.trans {own own' own'' : Nat → Nat} {w w' w'' : World} (h : Only own w own' w') (h2 : Only own' w' own'' w'') : Only own w own'' w'' :=
 ⟨h.1.trans h2.1, fun i hi => (h2.2.1 i (by have := h.1.size; omega)).trans (h.2.1 i hi), fun i hi h0 => (h2.2.2 i (by have := h.1.size; omega) (by rw [h.2.1 i hi]; exact h0)).trans (h.2.2 i hi h0)⟩
theorem Only.of_chg {own : Nat → Nat} {w w' : World} {l : List Nat} (hc : Chg l w w') (hl : ∀ k ∈ l, own k ≠ 0 ∨ w.heap.size ≤ k) : Only own w own w' :=
 ⟨hc.below, fun _ _ => rfl, fun i hi h0 => hc.same i hi (fun hm => by rcases hl i hm with h | h; exact h h0; omega)⟩
theorem ChsO.two {w : World} {own : Nat → Nat} {css : List Value} {chl : List (List (ByteArray × Value))} (h : ChsO w own css chl) : ∀ c ∈ chl, c.length ≤ 2 := by
 intro c hc
 obtain ⟨i, hi, e⟩ := List.mem_iff_getElem.1 hc
 obtain ⟨pA, pc, _, _, _, h2, _⟩ := h.2 i (css[i]'(by rw [h.1]; exact hi)) c (List.getElem?_eq_getElem _) (by rw [List.getElem?_eq_getElem hi, e])
 exact h2
section
variable {w w' : World} {d : Nat} {own own' : Nat → Nat} {b : DBox} {F RA SA C : Option Addr} {fn fc rn rc sn sc cn cc : Nat} {fs css : List Value} {ps ss : List (ByteArray × Value)} {chl : List (List (ByteArray × Value))} {nm su : Value → Nat} {dt : Value → List Value}
theorem DiskIn.fsIn (H : DiskIn w d own b F fn fc RA rn rc SA sn sc C cn cc fs ps ss css chl nm dt su) : FsIn w nm fs := fun v hv => by
 obtain ⟨f, A, n, c, e, _, h2, _⟩ := H.file v hv
 have := H.num v hv
 have := H.made
 exact ⟨f, A, n, c, _, e, h2, by omega⟩
theorem DiskIn.ownf (H : DiskIn w d own b F fn fc RA rn rc SA sn sc C cn cc fs ps ss css chl nm dt su) (f : Nat) (hf : Value.pointer (some ⟨f, 0, none⟩) ∈ fs) : own f = 7 := by
 obtain ⟨f', A, n, c, e, h1, _⟩ := H.file _ hf
 cases e
 exact h1
def SettledO (w : World) (d : Nat) (own : Nat → Nat) (b : DBox) (F : Option Addr) (fc : Nat) (fs : List Value) (nm : Value → Nat) (dt : Value → List Value) (su : Value → Nat) (R : List (ByteArray × Value)) (w' : World) : Prop :=
 ∃ own' A2 n2 c2 A3 n3 c3 kf, Only own w own' w' ∧ DiskIn w' d own' { b with files := .slice F kf fc, now := .slice A3 n3 c3, sure := .slice A2 n2 c2, changes := .slice none 0 0 } F kf fc A3 n3 c3 A2 n2 c2 none 0 0 (fs.filter (keepV nm (R.map fun p => nm p.2))) R R [] [] nm dt su
theorem DiskIn.of_settled (H : DiskIn w d own b F fn fc RA rn rc SA sn sc C cn cc fs ps ss css chl nm dt su) (k : Nat) (hk : k ≤ cn) (hS : Settled w d b SA F fc fs nm (layAll ss (chl.take k)) w') : SettledO w d own b F fc fs nm dt su (layAll ss (chl.take k)) w' := by
 obtain ⟨A2, n2, c2, A3, n3, c3, kf, hD, hR2, hR3, hkf, hL, hC, hA2, hA3, hA23⟩ := hS
 have hin : ∀ p ∈ layAll ss (chl.take k), p.2 ∈ fs := layAll_in _ _ H.sin (fun c hc => H.cin c (List.mem_of_mem_take hc))
 have hlen := (layAll_len (chl.take k) ss H.srow.rises (fun c hc => H.chs.two c (List.mem_of_mem_take hc))).2
 have hss := H.srow.len
 have htk : (chl.take k).length ≤ k := by rw [List.length_take]; omega
 have hlC := H.lenC
 have hn2 := hR2.len
 generalize layAll ss (chl.take k) = R at *
 obtain ⟨own', hown⟩ : ∃ own' : Nat → Nat, own' = fun i => if i < w.heap.size then own i else if i ∈ blk A3 then 3 else if i ∈ blk A2 then 4 else 0 := ⟨_, rfl⟩
 have ho : ∀ i, i < w.heap.size → own' i = own i := fun i hi => by rw [hown]; simp only [hi, if_true]
 have hsz := hC.size
 have hs : ∀ i, i < w.heap.size → own i ≠ 1 → own i ≠ 4 → own i ≠ 2 → w'.heap[i]? = w.heap[i]? := fun i hi h1 h4 h2 => hC.same i hi (fun hm => by
  rcases List.mem_cons.1 hm with h | h
  · rw [h] at h1; exact h1 H.od
  · rcases List.mem_append.1 h with h | h
    · exact h4 (H.oS i h)
    · exact h2 (H.oF i h))
 have hsub : ∀ v ∈ fs.filter (keepV nm (R.map fun p => nm p.2)), v ∈ fs := fun v hv => (List.mem_filter.1 hv).1
 have hfl : (fs.filter (keepV nm (R.map fun p => nm p.2))).length ≤ fs.length := List.length_filter_le _ _
 have hfs := H.line.1
 have hlF := H.lenF
 refine ⟨own', A2, n2, c2, A3, n3, c3, kf, ⟨hC.below, ho, fun i hi h0 => hs i hi (by omega) (by omega) (by omega)⟩, ?_⟩
 exact {
  box := hD
  od := (ho d H.box.lt).trans H.od
  files := rfl
  line := hL
  oF := fun i hi => (ho i (H.line.lt i hi)).trans (H.oF i hi)
  now := rfl
  nrow := hR3
  oR := fun i hi => by have := hA3 i hi; rw [hown]; simp only [show ¬ i < w.heap.size by omega, if_false, hi, if_true]
  sure := rfl
  srow := hR2
  oS := fun i hi => by
   rcases Nat.lt_or_ge i w.heap.size with h | h
   · rw [ho i h]
     rcases hA2 i hi with h' | h'
     · exact H.oS i h'
     · omega
   · rw [hown]; simp only [show ¬ i < w.heap.size by omega, if_false, hA23 i hi, hi, if_true]
  changes := rfl
  cline := SLine.nil 1 _
  oC := fun i hi => by obtain ⟨ad, ea, _⟩ := mem_blk.1 hi; cases ea
  chs := ⟨rfl, fun i v c h => by simp at h⟩
  file := fun v hv => (H.file v (hsub v hv)).carry hsz ho fun i hi h => hs i hi (by omega) (by omega) (by omega)
  num := fun v hv => H.num v (hsub v hv)
  bytes := fun v hv => H.bytes v (hsub v hv)
  rises := List.Pairwise.filter _ H.rises
  lay := rfl
  sin := fun p hp => List.mem_filter.2 ⟨hin p hp, by unfold keepV; exact decide_eq_true (List.mem_map.2 ⟨p, hp, rfl⟩)⟩
  cin := fun c hc => by cases hc
  made := H.made
  quota := H.quota
  calls := H.calls
  ahead := H.ahead
  lenF := by omega
  lenC := by omega }
theorem DiskIn.settle (H : DiskIn w d own b F fn fc RA rn rc SA sn sc C cn cc fs ps ss css chl nm dt su) (k : Nat) (hk : k ≤ cn) :
 Calls Tryz.prog 37 #[.pointer (some ⟨d, 0, none⟩), .int .i64 (k : Int)] w fun e w' => (∃ v, e = .returned v) ∧ SettledO w d own b F fc fs nm dt su (layAll ss (chl.take k)) w' := by
 have hlC := H.lenC
 have hss := H.srow.len
 have hlF := H.lenF
 have hcl : ChsIn w (d :: blk SA) css chl := ⟨H.chs.1, fun i v c h1 h2 => by
  obtain ⟨pA, pc, e, h3, h4, h5⟩ := H.chs.2 i v c h1 h2
  refine ⟨pA, pc, e, h3, fun k hk hm => ?_, h5⟩
  have h4 := h4 k hk
  rcases List.mem_cons.1 hm with h | h
  · rw [h, H.od] at h4; omega
  · rw [H.oS k h] at h4; omega⟩
 refine (settle_any w d b H.box SA sn sc H.sure ss H.srow (fun hm => by have := H.oS d hm; have := H.od; omega) C cn cc H.changes css H.cline (fun hm => by have := H.oC d hm; have := H.od; omega) (fun i h1 h2 => by have := H.oC i h1; have := H.oS i h2; omega) chl hcl (by omega) k hk (fun j hj => ?_) F fn fc H.files fs H.line (by omega) nm H.fsIn
  (fun f hf hm => by have := H.ownf f hf; have := H.oF f hm; omega) (fun hm => by have := H.oF d hm; have := H.od; omega) (fun i h1 h2 => by have := H.oF i h1; have := H.oS i h2; omega) (fun f hf => ⟨fun e => by have := H.ownf f hf; rw [e, H.od] at this; omega, fun hm => by have := H.ownf f hf; have := H.oS f hm; omega⟩) (layAll_in _ _ H.sin (fun c hc => H.cin c (List.mem_of_mem_take hc)))).mono ?_
 · have hlen := (layAll_len (chl.take j) ss H.srow.rises (fun c hc => H.chs.two c (List.mem_of_mem_take hc))).2
   have htk : (chl.take j).length ≤ j := by rw [List.length_take]; omega
   omega
 · rintro e w' ⟨h1, h2⟩
   exact ⟨h1, H.of_settled k hk h2⟩
end
theorem powered_calls (b : DBox) : b.calls ≤ (poweredB b).calls ∧ (poweredB b).calls ≤ b.calls + 1 := by unfold poweredB; split; omega; split; simp only; omega; split <;> (simp only; omega)
theorem powered_ahead (b : DBox) : (poweredB b).ahead ≤ b.ahead := by unfold poweredB; split; omega; split; simp only; omega; split <;> (simp only; omega)
theorem names0 (w : World) : NamesAt w none 0 [] := ⟨rfl, fun s hs => (by cases hs), fun h => (by omega)⟩
section
variable {w w' : World} {d : Nat} {own own' : Nat → Nat} {b : DBox} {F RA SA C : Option Addr} {fn fc rn rc sn sc cn cc : Nat} {fs css : List Value} {ps ss : List (ByteArray × Value)} {chl : List (List (ByteArray × Value))} {nm su : Value → Nat} {dt : Value → List Value}
theorem DiskIn.powered (H : DiskIn w d own b F fn fc RA rn rc SA sn sc C cn cc fs ps ss css chl nm dt su) (hb : b.calls < 80000) (hD : DBoxAt w' d (poweredB b)) (hc : Chg [d] w w') : DiskIn w' d own (poweredB b) F fn fc RA rn rc SA sn sc C cn cc fs ps ss css chl nm dt su :=
 H.boxed hc _ hD (powered_files b) (powered_now b) (powered_sure b) (powered_changes b) (powered_made b) (by rw [powered_quota]; exact H.quota) (by have := powered_calls b; have := H.calls; omega) (by have := powered_ahead b; have := H.ahead; omega)
set_option maxHeartbeats 1600000 in
theorem DiskIn.syncDir_off (H : DiskIn w d own b F fn fc RA rn rc SA sn sc C cn cc fs ps ss css chl nm dt su) (hb : b.calls < 80000) (hp : powerB b = false) :
 Calls Tryz.prog 31 #[.pointer (some ⟨d, 0, none⟩)] w fun e w' => e = .returned (.int .i64 5) ∧ Only own w own w' ∧ DiskIn w' d own (poweredB b) F fn fc RA rn rc SA sn sc C cn cc fs ps ss css chl nm dt su := by
 have hE : beginE b [] = 5 := by unfold beginE; rw [hp]; rfl
 have HB := Lib.hid (begin_any w d b H.box (by have := H.calls; omega) H.ahead none 0 0 [] (names0 w) (by omega) (by simp [blk]))
 rw [hE] at HB
 have HH := Lib.hid (And.intro H hb)
 clear H hb hp hE
 go_enter Tryz.func31, Tryz.ntmps31
 go_wp2_with fail
 refine HB.out.mono ?_
 rintro e w1 ⟨rfl, hd1, hc1⟩
 have HX := Lib.hid (And.intro (Only.of_chg (own := own) hc1 (fun k hk => by rw [List.mem_singleton] at hk; rw [hk, HH.out.1.od]; exact .inl (by omega))) (HH.out.1.powered HH.out.2 hd1 hc1))
 clear hd1 hc1
 go_wp2
 go_ret
 exact ⟨rfl, HX.out⟩
set_option maxHeartbeats 1600000 in
theorem DiskIn.syncDir_on (H : DiskIn w d own b F fn fc RA rn rc SA sn sc C cn cc fs ps ss css chl nm dt su) (hb : b.calls < 80000) (hp : powerB b = true) :
 Calls Tryz.prog 31 #[.pointer (some ⟨d, 0, none⟩)] w fun e w' => e = .returned (.int .i64 0) ∧ ∃ own' A2 n2 c2 A3 n3 c3 kf, Only own w own' w' ∧ DiskIn w' d own' { poweredB b with files := .slice F kf fc, now := .slice A3 n3 c3, sure := .slice A2 n2 c2, changes := .slice none 0 0 } F kf fc A3 n3 c3 A2 n2 c2 none 0 0 (fs.filter (keepV nm (ps.map fun p => nm p.2))) ps ps [] [] nm dt su := by
 have hE : beginE b [] = 0 := by unfold beginE; rw [hp]; rfl
 have HB := Lib.hid (begin_any w d b H.box (by have := H.calls; omega) H.ahead none 0 0 [] (names0 w) (by omega) (by simp [blk]))
 rw [hE] at HB
 have HH := Lib.hid (And.intro H hb)
 clear H hb hp hE
 go_enter Tryz.func31, Tryz.ntmps31
 go_wp2_with fail
 refine HB.out.mono ?_
 rintro e w1 ⟨rfl, hd1, hc1⟩
 have h1 := HH.out.1.powered HH.out.2 hd1 hc1
 have ho := Only.of_chg (own := own) hc1 (fun k hk => by rw [List.mem_singleton] at hk; rw [hk, HH.out.1.od]; exact .inl (by omega))
 have c4 : w1.cell? ⟨d, 4, none⟩ = some (poweredB b).changes := h1.box.cell 4 _ rfl
 rw [h1.changes] at c4
 have hcl : chl.take cn = chl := List.take_of_length_le (by have := h1.cline.1; have := h1.chs.1; omega)
 have HS := Lib.hid (h1.settle cn (Nat.le_refl _))
 rw [hcl, ← h1.lay] at HS
 have HO := Lib.hid ho
 clear h1 ho hd1 hc1 hcl
 go_wp2_with fail
 refine HS.out.mono ?_
 rintro e w2 ⟨⟨v, rfl⟩, own', A2, n2, c2, A3, n3, c3, kf, h2, h3⟩
 have HX := Lib.hid (And.intro (HO.out.trans h2) h3)
 clear h2 h3
 go_wp2
 go_ret
 exact ⟨rfl, own', A2, n2, c2, A3, n3, c3, kf, HX.out⟩
end
end
end Go.Proofs.YtdjnebgjdekmaaaGreatDoor
