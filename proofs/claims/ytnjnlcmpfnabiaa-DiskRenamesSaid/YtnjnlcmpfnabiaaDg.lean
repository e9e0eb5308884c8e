/-
  The contract of disk's copied: a directory that goes on alone, with another file for each.
-/
import Derived.Test.YtnjnlcmpfnabiaaDf
import Derived.Test.YtnjnlcmpfnabiaaRSE
import Derived.Deep.CutRange
import Derived.Laws.Rows
import Derived.Deep.RegionHeld3
import Derived.Deep.RegionWith
import Derived.Sort.CutIn
namespace Go.Proofs.Ytnjnlcmpfnabiaa
open Go.RowKit Go.Shelf
attribute [local go_sem] Oper.semAt_some
set_option linter.unusedVariables false
set_option maxRecDepth 100000

theorem settleId (w : World) (a : Option Addr) : Calls Try.prog 63 #[.pointer a] w fun e w' => e = .returned (.pointer a) ∧ w = w' := by
  go_enter Try.func63, Try.ntmps63
  go_wp2
  go_ret
  exact ⟨rfl, rfl⟩
/-- A key behind all others. -/
theorem putP_last {ps : List (ByteArray × Value)} {k : ByteArray} (h : ∀ p ∈ ps, ltS p.1 k = true) (v : Value) : putP ltS ps k v = ps ++ [(k, v)] := by
  unfold putP
  rw [List.filter_eq_self.2 h, List.filter_eq_nil_iff.2 (fun p hp => by rw [orders_S.asym (h p hp)]; simp)]
/-- Another file for each. -/
def mapF (φ : Option Addr → Option Addr) (ps : List (ByteArray × Value)) : List (ByteArray × Value) := ps.map fun p => (p.1, match p.2 with | .pointer a => .pointer (φ a) | v => v)
theorem mapF_keys (φ : Option Addr → Option Addr) (ps : List (ByteArray × Value)) (h : Rises ltS ps) : Rises ltS (mapF φ ps) := by
  unfold Rises mapF
  rw [List.pairwise_map]
  exact h
theorem mapF_snoc (φ : Option Addr → Option Addr) (ps : List (ByteArray × Value)) (k : ByteArray) (a : Option Addr) : mapF φ (ps ++ [(k, .pointer a)]) = mapF φ ps ++ [(k, .pointer (φ a))] := by unfold mapF; rw [List.map_append]; rfl
theorem mapF_last {φ : Option Addr → Option Addr} {ps all : List (ByteArray × Value)} {k : ByteArray} {a : Option Addr} (hr : Rises ltS all) (hp : ps ++ [(k, .pointer a)] <+: all) : putP ltS (mapF φ ps) k (.pointer (φ a)) = mapF φ (ps ++ [(k, .pointer a)]) := by
  rw [mapF_snoc]
  refine putP_last (fun p hpm => ?_) _
  have h1 : Rises ltS (ps ++ [(k, .pointer a)]) := List.Pairwise.sublist hp.sublist hr
  have h2 := (List.pairwise_append.1 h1).2.2
  unfold mapF at hpm
  obtain ⟨x, hx, rfl⟩ := List.mem_map.1 hpm
  exact h2 x hx (k, .pointer a) (by simp)
theorem eachS_enters (args : Array Value) (w : World) : (callFunc 69 args).run Try.prog w = .ok (.enter 69 args) w := enters_of Try.func69 (by kernel_rfl) rfl args w
/-- What lies in memory while a directory is copied: the copy in block b. -/
structure CopyAt (w0 : World) (φ : Option Addr → Option Addr) (b D C : Nat) (pre : List (ByteArray × Value)) (W : World) : Prop where
  chg : Chg [b] w0 W
  row : ∃ A n c, W.heap[b]? = some (.cells #[.slice A n c] 80 (0, 0)) ∧ RowG encS ltS W A n c (mapF φ pre) ∧ ∀ j ∈ blk A, D + 2 ≤ j ∧ j ≠ C
theorem CopyAt.steady {w0 : World} {φ : Option Addr → Option Addr} {b C : Nat} {pre : List (ByteArray × Value)} (hb : b < w0.heap.size) : SteadyIt w0.heap.size (CopyAt w0 φ b w0.heap.size C pre) := by
  rintro W W' ⟨h1, A, n, c, h2, h3, h4⟩ hc
  exact ⟨h1.andThen hc (fun k hk => by simp only [List.mem_cons, List.not_mem_nil, or_false] at hk; omega), A, n, c, (hc.same b (lt_of_block h2) (by simp only [List.mem_cons, List.not_mem_nil, or_false]; omega)).trans h2, h3.chg hc (fun k hk hm => by have := (h4 k hk).1; simp only [List.mem_cons, List.not_mem_nil, or_false] at hm; omega), h4⟩
set_option maxHeartbeats 6400000 in
theorem copied_any (w : World) (q o : Nat) (A : Option Addr) (n c : Nat) (ps : List (ByteArray × Value)) (h : RowAtS w q o A n c ps) (hn : n ≤ 100000) (hsh : ∀ p ∈ ps, ∃ a : Option Addr, p.2 = .pointer a)
    (g : FuncId) (caps : Array Value) (hent : ∀ (args : Array Value) (w : World), (callFunc g args).run Try.prog w = .ok (.enter g args) w) (φ : Option Addr → Option Addr) (hother : ∀ W, Below w.heap.size w W → ∀ p ∈ ps, ∀ a, p.2 = .pointer a → Calls Try.prog g (#[.pointer a] ++ caps) W fun e W' => e = .returned (.pointer (φ a)) ∧ Below W.heap.size W W') :
    Calls Try.prog 53 #[.pointer (some ⟨q, o, none⟩), .func (.func g) #[] caps] w fun e w' => (∃ A' n' c', e = .returned (.agg #[.slice A' n' c']) ∧ RowG encS ltS w' A' n' c' (mapF φ ps) ∧ ∀ k ∈ blk A', w.heap.size ≤ k) ∧ Below w.heap.size w w' := by
  have HH := Lib.hid h
  have HSH := Lib.hid hsh
  have HO := Lib.hid hother
  have HENT := Lib.hid hent
  have hlen := h.row.len
  have HR := Lib.hid h.row.rises
  have hqs := World.block_lt_of_cell? w _ h.cell
  clear h hsh hother hent
  refine (callsIn_wide (n := 8)).1 ?_
  refine callsIn_of_wp_marks Try.func53 rfl trivial ?_ rfl
  simp only [Try.ntmps53, List.size_toArray, List.length_cons, List.length_nil, Nat.reduceAdd, Nat.reduceSub, Array.replicate_succ, Array.replicate_zero, List.push_toArray, List.append_toArray, List.nil_append, List.cons_append]
  refine wpIn_wide.2 ?_
  obtain ⟨hh, hhe⟩ : ∃ hh, w.heap.size = hh := ⟨_, rfl⟩
  obtain ⟨W2, hW2⟩ : ∃ W2, ((w.alloc (.cells #[.func (.func g) #[] caps] 101)).alloc (.cells #[.slice none 0 0] 80)).alloc (.cells #[.slice none 0 0] 80) = W2 := ⟨_, rfl⟩
  have hB2 : Below w.heap.size w W2 := by rw [← hW2]; exact (((Below.refl _ w).alloc (Nat.le_refl _) _).alloc (by simp) _).alloc (by simp; omega) _
  have hs2 : W2.heap.size = hh + 3 := by rw [← hW2, ← hhe]; simp
  have k0 : W2.heap[hh]? = some (.cells #[.func (.func g) #[] caps] 101 (0, 0)) := by
    have := heap_alloc_new w (.cells #[.func (.func g) #[] caps] 101 (0, 0))
    rw [hhe] at this
    rw [← hW2]
    exact (Below.heap_alloc _ _ _ (by simp; omega)).trans ((Below.heap_alloc _ _ _ (by simp; omega)).trans this)
  have k1 : W2.heap[hh + 1]? = some (.cells #[.slice none 0 0] 80 (0, 0)) := by
    have := heap_alloc_new (w.alloc (.cells #[.func (.func g) #[] caps] 101)) (.cells #[.slice none 0 0] 80 (0, 0))
    rw [World.size_alloc, hhe] at this
    rw [← hW2]
    exact (Below.heap_alloc _ _ _ (by simp; omega)).trans this
  have k2 : W2.heap[hh + 2]? = some (.cells #[.slice none 0 0] 80 (0, 0)) := by
    have := heap_alloc_new ((w.alloc (.cells #[.func (.func g) #[] caps] 101)).alloc (.cells #[.slice none 0 0] 80)) (.cells #[.slice none 0 0] 80 (0, 0))
    rw [World.size_alloc, World.size_alloc, hhe] at this
    rw [← hW2]
    exact this
  have HK0 := Lib.hid k0
  have HK1 := Lib.hid k1
  have HK2 := Lib.hid k2
  have HB2 := Lib.hid hB2
  have HHE := Lib.hid hhe
  clear k0 k1 k2 hB2
  go_wp2_with fail
  refine (reach_S _ _).mono ?_
  rintro e w' ⟨rfl, rfl⟩
  obtain ⟨W3, hW3⟩ : ∃ W3, W2.alloc (.cells #[.pointer (some ⟨q, o, none⟩)] 97) = W3 := ⟨_, rfl⟩
  have hB3 : Below W2.heap.size W2 W3 := by rw [← hW3]; exact (Below.refl _ W2).alloc (Nat.le_refl _) _
  have hs3 : W3.heap.size = hh + 4 := by rw [← hW3]; simp [hs2]
  have hbx : W3.heap[hh + 3]? = some (.cells #[.pointer (some ⟨q, o, none⟩)] 97 (0, 0)) := by
    have := heap_alloc_new W2 (.cells #[.pointer (some ⟨q, o, none⟩)] 97 (0, 0))
    rw [hs2, hW3] at this
    exact this
  rw [hs2, hW3]
  have HBX := Lib.hid hbx
  have HB3 : Hid (Below w.heap.size w W3) := Lib.hid (HB2.out.trans (hB3.mono (by have := HB2.out.size; omega)))
  have j0 := (hB3.block hh (by omega)).trans HK0.out
  have j1 := (hB3.block (hh + 1) (by omega)).trans HK1.out
  have j2 := (hB3.block (hh + 2) (by omega)).trans HK2.out
  have HJ0 := Lib.hid j0
  have HJ1 := Lib.hid j1
  have HJ2 := Lib.hid j2
  have hq3 : q < hh := by have := HHE.out; have h5 : q < w.heap.size := hqs; omega
  clear hW2 hW3 hbx hB3 j0 j1 j2 HK0 HK1 HK2
  have HIT : Hid (∀ W1, Below W3.heap.size W3 W1 → IterOk Try.prog 69 #[.pointer (some ⟨hh + 3, 0, none⟩)] arS 2 ps W1) := Lib.hid (fun W1 hb => by
    have hbw := HB3.out.trans (hb.mono (by have := HHE.out; omega))
    exact each1_S W1 (hh + 3) (some ⟨q, o, none⟩) A n c ps (cell_of_one ((hb.block _ (by omega)).trans HBX.out)) (.inr ⟨q, o, rfl, (hbw.cell (p := ⟨q, o, none⟩) hqs).trans HH.out.cell, HH.out.row.below hbw⟩) (by omega) HSH.out)
  go_wp2_with fail
  refine (wpIn_wide (n := 8)).1 ?_
  refine range_it 8 2 (by decide) 69 #[.pointer (some ⟨hh + 3, 0, none⟩)] arS rfl eachS_enters (fun _ => rfl) ps HIT.out (fun C pre W => CopyAt W3 φ (hh + 2) W3.heap.size C pre W) (fun _ _ _ _ => False) (fun C xs => CopyAt.steady (by omega)) (fun _ _ _ _ _ h _ => h) ?h0 ?hab ?hdone (fun _ _ _ _ _ h _ => h.elim)
  case h0 =>
    intro C W1 hC hb1
    exact ⟨Chg.of_below hb1, none, 0, 0, (hb1.block _ (by omega)).trans HJ2.out, RowG.nil _, fun j hj => by cases hj⟩
  case hab =>
    apply Exists.intro
    refine ⟨?hassign, ?hbody⟩
    case hassign =>
      intro x W K hK
      unfold arS encS
      gi_wp2
      exact hK
    case hbody =>
      intro C pre x Wr hC hCW hD1 hI hpre
      obtain ⟨x, v⟩ := x
      have hmem : (x, v) ∈ ps := hpre.subset (by simp)
      obtain ⟨a, ha⟩ := HSH.out _ hmem
      simp only at ha
      subst ha
      have hlow : ∀ k, k < W3.heap.size → k ≠ hh + 2 → Wr.heap[k]? = W3.heap[k]? := fun k h1 h2 => hI.chg.same k h1 (by simp only [List.mem_cons, List.not_mem_nil, or_false]; omega)
      have c0 : Wr.cell? ⟨hh, 0, none⟩ = some (.func (.func g) #[] caps) := cell_of_one ((hlow _ (by omega) (by omega)).trans HJ0.out)
      have hbr : Below w.heap.size w Wr := HB3.out.trans (hI.chg.toBelow (fun k hk => by simp only [List.mem_cons, List.not_mem_nil, or_false] at hk; have := HHE.out; omega) (by have := HHE.out; omega))
      have HOT := Lib.hid (HO.out Wr hbr _ hmem a rfl)
      have hlen2 : (mapF φ pre).length ≤ 100000 := by
        have h1 := hpre.length_le
        have h3 : (mapF φ pre).length = pre.length := by unfold mapF; simp
        simp only [List.length_append, List.length_cons, List.length_nil] at h1
        omega
      have HI := Lib.hid hI
      have HPRE := Lib.hid hpre
      clear hlow hbr hmem hI hpre
      gi_wp2_with fail
      refine ⟨trivial, ?_⟩
      rw [show Sem.run Try.prog (callFunc g (#[Value.pointer a] ++ caps)) Wr = _ from HENT.out _ _, Oper.uponIn_enter]
      refine ⟨fun _ => by omega, ?_⟩
      refine (CallsIn.inRound _ (callsIn_wide.2 HOT.out)).mono ?_
      rintro e Wc ⟨rfl, hbc⟩
      obtain ⟨Ac, nc, cc, hk1, hk2, hk3⟩ := HI.out.row
      have hlt2 := lt_of_block hk1
      have hn2 := hk2.len
      have HK1 := Lib.hid hk1
      have HPUT := Lib.hid (rput_S Wc (hh + 2) 0 #[.slice Ac nc cc] 80 Ac nc cc (mapF φ pre) ((hbc.block _ hlt2).trans hk1) rfl (fun hm => by have := (hk3 _ hm).1; omega) (hk2.below hbc) x (φ a) (by omega))
      have HK3 := Lib.hid hk3
      have HBC := Lib.hid hbc
      clear hk1 hk2 hk3 hbc hn2 hlen2
      have hfin : Hid (∀ Wp, RowTo encS ltS Wc (hh + 2) 0 #[.slice Ac nc cc] 80 Ac (putP ltS (mapF φ pre) x (.pointer (φ a))) Wp → KeepsIt W3.heap.size C Wr Wp ∧ CopyAt W3 φ (hh + 2) W3.heap.size C (pre ++ [(x, .pointer a)]) Wp) := Lib.hid (by
        rintro Wp ⟨A2, n2, c2, hb2, hR2, hC2, hF2⟩
        have hCr : Chg ((hh + 2) :: blk Ac) Wr Wp := (Chg.of_below HBC.out).trans hC2
        have hne : ∀ k ∈ (hh + 2) :: blk Ac, k ≠ W3.heap.size ∧ k ≠ W3.heap.size + 1 ∧ k ≠ C := by
          intro k hk
          rcases List.mem_cons.1 hk with rfl | hk
          · omega
          · have := HK3.out k hk; omega
        refine ⟨hCr.keepsIt (by omega) hCW (fun hm => (hne _ hm).1 rfl) (fun hm => (hne _ hm).2.1 rfl) (fun hm => (hne _ hm).2.2 rfl), HI.out.chg.andThen hCr (fun k hk => ?_), A2, n2, c2, ?_, ?_, fun j hj => ?_⟩
        · rcases List.mem_cons.1 hk with rfl | hk
          · exact .inl (by simp)
          · have := HK3.out k hk; exact .inr (by omega)
        · rw [hb2]; rfl
        · rw [← mapF_last HR.out HPRE.out]; exact hR2
        · rcases hF2 j hj with h5 | h5
          · exact HK3.out j h5
          · have := HBC.out.size; omega)
      gi_wp2_with (refine ⟨trivial, ?_⟩; gi_at_call 68; refine (CallsIn.inRound _ (callsIn_wide.2 HPUT.out)).mono ?_; rintro e Wp ⟨rfl, hT⟩)
      exact hfin.out _ hT
  case hdone =>
    intro C Wl hI hK
    obtain ⟨Ac, nc, cc, hk1, hk2, hk3⟩ := hI.row
    have hbl := hI.chg
    have hr1 := (hbl.same (hh + 1) (by omega) (by simp only [List.mem_cons, List.not_mem_nil, or_false]; omega)).trans HJ1.out
    have y1 := cell_of_one hr1
    have y1' := free_of_one hr1
    have y2 := cell_of_one hk1
    obtain ⟨Wo, hWo⟩ : ∃ Wo, Wl.setCell ⟨hh + 1, 0, none⟩ (.slice Ac nc cc) = Wo := ⟨_, rfl⟩
    have HE1 : Hid (Wo.heap[hh + 1]? = some (.cells #[.slice Ac nc cc] 80 (0, 0))) := by rw [← hWo]; exact Lib.hid (one_setCell hr1)
    have hcw : Chg [hh + 1] Wl Wo := by rw [← hWo]; exact (Chg.refl _ Wl).setCell (hh + 1) 0 _ (.inl (by simp))
    have HE2 : Hid (Wo.heap[W3.heap.size]? = some (.deferred (some []))) := Lib.hid ((hcw.same _ (lt_of_block hK) (by simp only [List.mem_cons, List.not_mem_nil, or_false]; omega)).trans hK)
    have HE3 : Hid (RowG encS ltS Wo Ac nc cc (mapF φ ps) ∧ ∀ j ∈ blk Ac, W3.heap.size + 2 ≤ j) := Lib.hid ⟨hk2.chg hcw (fun k hk hm => by have := (hk3 k hk).1; simp only [List.mem_cons, List.not_mem_nil, or_false] at hm; omega), fun j hj => (hk3 j hj).1⟩
    have HE4 : Hid (Below hh W3 Wo) := Lib.hid ((hbl.toBelow (fun k hk => by simp only [List.mem_cons, List.not_mem_nil, or_false] at hk; omega) (by omega)).trans (hcw.toBelow (fun k hk => by simp only [List.mem_cons, List.not_mem_nil, or_false] at hk; omega) (by have := hbl.size; omega)))
    have HK1 := Lib.hid hk1
    clear hk2 hk3 hI hK hbl hr1 hcw
    go_wp2_with fail
    have hcp := chg_putObjIt Wo W3.heap.size (.deferred none)
    have hsz : hh + 4 ≤ Wo.heap.size := by have := HE4.out.size; omega
    refine ⟨by simp, .inl ⟨_, _, rfl, run_takeDeferred HE2.out, ?_⟩⟩
    refine ⟨_, results_cell_row rfl _ _ (hh + 1) _ _ _ _ rfl ((World.putObj_heap_other (by omega)).trans HE1.out) rfl rfl rfl, ⟨Ac, nc, cc, rfl, HE3.out.1.chg hcp (fun k hk hm => ?_), fun k hk => ?_⟩, ?_⟩
    · have := HE3.out.2 k hk
      simp only [List.mem_cons, List.not_mem_nil, or_false] at hm
      omega
    · have := HE3.out.2 k hk
      have := HHE.out
      omega
    · rw [HHE.out]
      have h3 := HB3.out
      rw [HHE.out] at h3
      exact h3.trans (HE4.out.trans (hcp.toBelow (fun k hk => by simp only [List.mem_cons, List.not_mem_nil, or_false] at hk; omega) (by omega)))
end Go.Proofs.Ytnjnlcmpfnabiaa
