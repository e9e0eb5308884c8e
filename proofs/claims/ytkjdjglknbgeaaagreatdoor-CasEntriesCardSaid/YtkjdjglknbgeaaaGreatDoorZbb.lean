/-
  The contract of disk's copied: a directory that goes on alone, with another file for each.
  The contract of the disk's Used.
  The contract of the disk's Append, where it adds nothing.
  The contract of the disk's Append, where it adds bytes.
  The contract of the disk's forget$1: whether a file is none of the numbers in a map.
-/
import Derived.Test.YtkjdjglknbgeaaaGreatDoorZar
import Derived.Test.YtkjdjglknbgeaaaGreatDoorZba
import Derived.Deep.CutRange
import Derived.Laws.Rows
import Derived.Deep.RegionHeld3
import Derived.Deep.RegionWith
import Derived.Sort.CutIn
import Derived.Test.YtkjdjglknbgeaaaGreatDoorZas
import Derived.Maps.OwnSet
import Derived.Maps.Views
namespace Go.Proofs.YtkjdjglknbgeaaaGreatDoor
open Go.RowKit Go.Shelf
attribute [local go_sem] Oper.semAt_some
set_option linter.unusedVariables false
set_option maxRecDepth 100000

theorem settleId (w : World) (a : Option Addr) : Calls Tryz.prog 107 #[.pointer a] w fun e w' => e = .returned (.pointer a) ∧ w = w' := by
  go_enter Tryz.func107, Tryz.ntmps107
  go_wp2
  go_ret
  exact ⟨rfl, rfl⟩
/-- A key behind all others. -/
theorem putP_last {ps : List (ByteArray × Value)} {k : ByteArray} (h : ∀ p ∈ ps, ltS p.1 k = true) (v : Value) : putP ltS ps k v = ps ++ [(k, v)] := by
  unfold putP
  rw [List.filter_eq_self.2 h, List.filter_eq_nil_iff.2 (fun p hp => by rw [orders_S.asym (h p hp)]; simp)]
/-- Another file for each. -/
def mapF (φ : Option Addr → Option Addr) (ps : List (ByteArray × Value)) : List (ByteArray × Value) := ps.map fun p => (p.1, match p.2 with | .pointer a => .pointer (φ a) | v => v)
theorem mapF_keys (φ : Option Addr → Option Addr) (ps : List (ByteArray × Value)) (h : Rises ltS ps) : Rises ltS (mapF φ ps) := by
  unfold Rises mapF
  rw [List.pairwise_map]
  exact h
theorem mapF_snoc (φ : Option Addr → Option Addr) (ps : List (ByteArray × Value)) (k : ByteArray) (a : Option Addr) : mapF φ (ps ++ [(k, .pointer a)]) = mapF φ ps ++ [(k, .pointer (φ a))] := by unfold mapF; rw [List.map_append]; rfl
theorem mapF_last {φ : Option Addr → Option Addr} {ps all : List (ByteArray × Value)} {k : ByteArray} {a : Option Addr} (hr : Rises ltS all) (hp : ps ++ [(k, .pointer a)] <+: all) : putP ltS (mapF φ ps) k (.pointer (φ a)) = mapF φ (ps ++ [(k, .pointer a)]) := by
  rw [mapF_snoc]
  refine putP_last (fun p hpm => ?_) _
  have h1 : Rises ltS (ps ++ [(k, .pointer a)]) := List.Pairwise.sublist hp.sublist hr
  have h2 := (List.pairwise_append.1 h1).2.2
  unfold mapF at hpm
  obtain ⟨x, hx, rfl⟩ := List.mem_map.1 hpm
  exact h2 x hx (k, .pointer a) (by simp)
theorem eachS_enters (args : Array Value) (w : World) : (callFunc 103 args).run Tryz.prog w = .ok (.enter 103 args) w := enters_of Tryz.func103 (by kernel_rfl) rfl args w
/-- What lies in memory while a directory is copied: the copy in block b. -/
structure CopyAt (w0 : World) (φ : Option Addr → Option Addr) (b D C : Nat) (pre : List (ByteArray × Value)) (W : World) : Prop where
  chg : Chg [b] w0 W
  row : ∃ A n c, W.heap[b]? = some (.cells #[.slice A n c] 92 (0, 0)) ∧ RowG encS ltS W A n c (mapF φ pre) ∧ ∀ j ∈ blk A, D + 2 ≤ j ∧ j ≠ C
theorem CopyAt.steady {w0 : World} {φ : Option Addr → Option Addr} {b C : Nat} {pre : List (ByteArray × Value)} (hb : b < w0.heap.size) : SteadyIt w0.heap.size (CopyAt w0 φ b w0.heap.size C pre) := by
  rintro W W' ⟨h1, A, n, c, h2, h3, h4⟩ hc
  exact ⟨h1.andThen hc (fun k hk => by simp only [List.mem_cons, List.not_mem_nil, or_false] at hk; omega), A, n, c, (hc.same b (lt_of_block h2) (by simp only [List.mem_cons, List.not_mem_nil, or_false]; omega)).trans h2, h3.chg hc (fun k hk hm => by have := (h4 k hk).1; simp only [List.mem_cons, List.not_mem_nil, or_false] at hm; omega), h4⟩
set_option maxHeartbeats 6400000 in
theorem copied_any (w : World) (q o : Nat) (A : Option Addr) (n c : Nat) (ps : List (ByteArray × Value)) (h : RowAtS w q o A n c ps) (hn : n ≤ 100000) (hsh : ∀ p ∈ ps, ∃ a : Option Addr, p.2 = .pointer a)
    (g : FuncId) (caps : Array Value) (hent : ∀ (args : Array Value) (w : World), (callFunc g args).run Tryz.prog w = .ok (.enter g args) w) (φ : Option Addr → Option Addr) (hother : ∀ W, Below w.heap.size w W → ∀ p ∈ ps, ∀ a, p.2 = .pointer a → Calls Tryz.prog g (#[.pointer a] ++ caps) W fun e W' => e = .returned (.pointer (φ a)) ∧ Below W.heap.size W W') :
    Calls Tryz.prog 73 #[.pointer (some ⟨q, o, none⟩), .func (.func g) #[] caps] w fun e w' => (∃ A' n' c', e = .returned (.agg #[.slice A' n' c']) ∧ RowG encS ltS w' A' n' c' (mapF φ ps) ∧ ∀ k ∈ blk A', w.heap.size ≤ k) ∧ Below w.heap.size w w' := by
  have HH := Lib.hid h
  have HSH := Lib.hid hsh
  have HO := Lib.hid hother
  have HENT := Lib.hid hent
  have hlen := h.row.len
  have HR := Lib.hid h.row.rises
  have hqs := World.block_lt_of_cell? w _ h.cell
  clear h hsh hother hent
  refine (callsIn_wide (n := 8)).1 ?_
  refine callsIn_of_wp_marks Tryz.func73 rfl trivial ?_ rfl
  simp only [Tryz.ntmps73, List.size_toArray, List.length_cons, List.length_nil, Nat.reduceAdd, Nat.reduceSub, Array.replicate_succ, Array.replicate_zero, List.push_toArray, List.append_toArray, List.nil_append, List.cons_append]
  refine wpIn_wide.2 ?_
  obtain ⟨hh, hhe⟩ : ∃ hh, w.heap.size = hh := ⟨_, rfl⟩
  obtain ⟨W2, hW2⟩ : ∃ W2, ((w.alloc (.cells #[.func (.func g) #[] caps] 124)).alloc (.cells #[.slice none 0 0] 92)).alloc (.cells #[.slice none 0 0] 92) = W2 := ⟨_, rfl⟩
  have hB2 : Below w.heap.size w W2 := by rw [← hW2]; exact (((Below.refl _ w).alloc (Nat.le_refl _) _).alloc (by simp) _).alloc (by simp; omega) _
  have hs2 : W2.heap.size = hh + 3 := by rw [← hW2, ← hhe]; simp
  have k0 : W2.heap[hh]? = some (.cells #[.func (.func g) #[] caps] 124 (0, 0)) := by
    have := heap_alloc_new w (.cells #[.func (.func g) #[] caps] 124 (0, 0))
    rw [hhe] at this
    rw [← hW2]
    exact (Below.heap_alloc _ _ _ (by simp; omega)).trans ((Below.heap_alloc _ _ _ (by simp; omega)).trans this)
  have k1 : W2.heap[hh + 1]? = some (.cells #[.slice none 0 0] 92 (0, 0)) := by
    have := heap_alloc_new (w.alloc (.cells #[.func (.func g) #[] caps] 124)) (.cells #[.slice none 0 0] 92 (0, 0))
    rw [World.size_alloc, hhe] at this
    rw [← hW2]
    exact (Below.heap_alloc _ _ _ (by simp; omega)).trans this
  have k2 : W2.heap[hh + 2]? = some (.cells #[.slice none 0 0] 92 (0, 0)) := by
    have := heap_alloc_new ((w.alloc (.cells #[.func (.func g) #[] caps] 124)).alloc (.cells #[.slice none 0 0] 92)) (.cells #[.slice none 0 0] 92 (0, 0))
    rw [World.size_alloc, World.size_alloc, hhe] at this
    rw [← hW2]
    exact this
  have HK0 := Lib.hid k0
  have HK1 := Lib.hid k1
  have HK2 := Lib.hid k2
  have HB2 := Lib.hid hB2
  have HHE := Lib.hid hhe
  clear k0 k1 k2 hB2
  go_wp2_with fail
  refine (reach_S _ _).mono ?_
  rintro e w' ⟨rfl, rfl⟩
  obtain ⟨W3, hW3⟩ : ∃ W3, W2.alloc (.cells #[.pointer (some ⟨q, o, none⟩)] 116) = W3 := ⟨_, rfl⟩
  have hB3 : Below W2.heap.size W2 W3 := by rw [← hW3]; exact (Below.refl _ W2).alloc (Nat.le_refl _) _
  have hs3 : W3.heap.size = hh + 4 := by rw [← hW3]; simp [hs2]
  have hbx : W3.heap[hh + 3]? = some (.cells #[.pointer (some ⟨q, o, none⟩)] 116 (0, 0)) := by
    have := heap_alloc_new W2 (.cells #[.pointer (some ⟨q, o, none⟩)] 116 (0, 0))
    rw [hs2, hW3] at this
    exact this
  rw [hs2, hW3]
  have HBX := Lib.hid hbx
  have HB3 : Hid (Below w.heap.size w W3) := Lib.hid (HB2.out.trans (hB3.mono (by have := HB2.out.size; omega)))
  have j0 := (hB3.block hh (by omega)).trans HK0.out
  have j1 := (hB3.block (hh + 1) (by omega)).trans HK1.out
  have j2 := (hB3.block (hh + 2) (by omega)).trans HK2.out
  have HJ0 := Lib.hid j0
  have HJ1 := Lib.hid j1
  have HJ2 := Lib.hid j2
  have hq3 : q < hh := by have := HHE.out; have h5 : q < w.heap.size := hqs; omega
  clear hW2 hW3 hbx hB3 j0 j1 j2 HK0 HK1 HK2
  have HIT : Hid (∀ W1, Below W3.heap.size W3 W1 → IterOk Tryz.prog 103 #[.pointer (some ⟨hh + 3, 0, none⟩)] arS 2 ps W1) := Lib.hid (fun W1 hb => by
    have hbw := HB3.out.trans (hb.mono (by have := HHE.out; omega))
    exact each1_S W1 (hh + 3) (some ⟨q, o, none⟩) A n c ps (cell_of_one ((hb.block _ (by omega)).trans HBX.out)) (.inr ⟨q, o, rfl, (hbw.cell (p := ⟨q, o, none⟩) hqs).trans HH.out.cell, HH.out.row.below hbw⟩) (by omega) HSH.out)
  go_wp2_with fail
  refine (wpIn_wide (n := 8)).1 ?_
  refine range_it 8 2 (by decide) 103 #[.pointer (some ⟨hh + 3, 0, none⟩)] arS rfl eachS_enters (fun _ => rfl) ps HIT.out (fun C pre W => CopyAt W3 φ (hh + 2) W3.heap.size C pre W) (fun _ _ _ _ => False) (fun C xs => CopyAt.steady (by omega)) (fun _ _ _ _ _ h _ => h) ?h0 ?hab ?hdone (fun _ _ _ _ _ h _ => h.elim)
  case h0 =>
    intro C W1 hC hb1
    exact ⟨Chg.of_below hb1, none, 0, 0, (hb1.block _ (by omega)).trans HJ2.out, RowG.nil _, fun j hj => by cases hj⟩
  case hab =>
    apply Exists.intro
    refine ⟨?hassign, ?hbody⟩
    case hassign =>
      intro x W K hK
      unfold arS encS
      gi_wp2
      exact hK
    case hbody =>
      intro C pre x Wr hC hCW hD1 hI hpre
      obtain ⟨x, v⟩ := x
      have hmem : (x, v) ∈ ps := hpre.subset (by simp)
      obtain ⟨a, ha⟩ := HSH.out _ hmem
      simp only at ha
      subst ha
      have hlow : ∀ k, k < W3.heap.size → k ≠ hh + 2 → Wr.heap[k]? = W3.heap[k]? := fun k h1 h2 => hI.chg.same k h1 (by simp only [List.mem_cons, List.not_mem_nil, or_false]; omega)
      have c0 : Wr.cell? ⟨hh, 0, none⟩ = some (.func (.func g) #[] caps) := cell_of_one ((hlow _ (by omega) (by omega)).trans HJ0.out)
      have hbr : Below w.heap.size w Wr := HB3.out.trans (hI.chg.toBelow (fun k hk => by simp only [List.mem_cons, List.not_mem_nil, or_false] at hk; have := HHE.out; omega) (by have := HHE.out; omega))
      have HOT := Lib.hid (HO.out Wr hbr _ hmem a rfl)
      have hlen2 : (mapF φ pre).length ≤ 100000 := by
        have h1 := hpre.length_le
        have h3 : (mapF φ pre).length = pre.length := by unfold mapF; simp
        simp only [List.length_append, List.length_cons, List.length_nil] at h1
        omega
      have HI := Lib.hid hI
      have HPRE := Lib.hid hpre
      clear hlow hbr hmem hI hpre
      gi_wp2_with fail
      refine ⟨trivial, ?_⟩
      rw [show Sem.run Tryz.prog (callFunc g (#[Value.pointer a] ++ caps)) Wr = _ from HENT.out _ _, Oper.uponIn_enter]
      refine ⟨fun _ => by omega, ?_⟩
      refine (CallsIn.inRound _ (callsIn_wide.2 HOT.out)).mono ?_
      rintro e Wc ⟨rfl, hbc⟩
      obtain ⟨Ac, nc, cc, hk1, hk2, hk3⟩ := HI.out.row
      have hlt2 := lt_of_block hk1
      have hn2 := hk2.len
      have HK1 := Lib.hid hk1
      have HPUT := Lib.hid (rput_S Wc (hh + 2) 0 #[.slice Ac nc cc] 92 Ac nc cc (mapF φ pre) ((hbc.block _ hlt2).trans hk1) rfl (fun hm => by have := (hk3 _ hm).1; omega) (hk2.below hbc) x (φ a) (by omega))
      have HK3 := Lib.hid hk3
      have HBC := Lib.hid hbc
      clear hk1 hk2 hk3 hbc hn2 hlen2
      have hfin : Hid (∀ Wp, RowTo encS ltS Wc (hh + 2) 0 #[.slice Ac nc cc] 92 Ac (putP ltS (mapF φ pre) x (.pointer (φ a))) Wp → KeepsIt W3.heap.size C Wr Wp ∧ CopyAt W3 φ (hh + 2) W3.heap.size C (pre ++ [(x, .pointer a)]) Wp) := Lib.hid (by
        rintro Wp ⟨A2, n2, c2, hb2, hR2, hC2, hF2⟩
        have hCr : Chg ((hh + 2) :: blk Ac) Wr Wp := (Chg.of_below HBC.out).trans hC2
        have hne : ∀ k ∈ (hh + 2) :: blk Ac, k ≠ W3.heap.size ∧ k ≠ W3.heap.size + 1 ∧ k ≠ C := by
          intro k hk
          rcases List.mem_cons.1 hk with rfl | hk
          · omega
          · have := HK3.out k hk; omega
        refine ⟨hCr.keepsIt (by omega) hCW (fun hm => (hne _ hm).1 rfl) (fun hm => (hne _ hm).2.1 rfl) (fun hm => (hne _ hm).2.2 rfl), HI.out.chg.andThen hCr (fun k hk => ?_), A2, n2, c2, ?_, ?_, fun j hj => ?_⟩
        · rcases List.mem_cons.1 hk with rfl | hk
          · exact .inl (by simp)
          · have := HK3.out k hk; exact .inr (by omega)
        · rw [hb2]; rfl
        · rw [← mapF_last HR.out HPRE.out]; exact hR2
        · rcases hF2 j hj with h5 | h5
          · exact HK3.out j h5
          · have := HBC.out.size; omega)
      gi_wp2_with (refine ⟨trivial, ?_⟩; gi_at_call 109; refine (CallsIn.inRound _ (callsIn_wide.2 HPUT.out)).mono ?_; rintro e Wp ⟨rfl, hT⟩)
      exact hfin.out _ hT
  case hdone =>
    intro C Wl hI hK
    obtain ⟨Ac, nc, cc, hk1, hk2, hk3⟩ := hI.row
    have hbl := hI.chg
    have hr1 := (hbl.same (hh + 1) (by omega) (by simp only [List.mem_cons, List.not_mem_nil, or_false]; omega)).trans HJ1.out
    have y1 := cell_of_one hr1
    have y1' := free_of_one hr1
    have y2 := cell_of_one hk1
    obtain ⟨Wo, hWo⟩ : ∃ Wo, Wl.setCell ⟨hh + 1, 0, none⟩ (.slice Ac nc cc) = Wo := ⟨_, rfl⟩
    have HE1 : Hid (Wo.heap[hh + 1]? = some (.cells #[.slice Ac nc cc] 92 (0, 0))) := by rw [← hWo]; exact Lib.hid (one_setCell hr1)
    have hcw : Chg [hh + 1] Wl Wo := by rw [← hWo]; exact (Chg.refl _ Wl).setCell (hh + 1) 0 _ (.inl (by simp))
    have HE2 : Hid (Wo.heap[W3.heap.size]? = some (.deferred (some []))) := Lib.hid ((hcw.same _ (lt_of_block hK) (by simp only [List.mem_cons, List.not_mem_nil, or_false]; omega)).trans hK)
    have HE3 : Hid (RowG encS ltS Wo Ac nc cc (mapF φ ps) ∧ ∀ j ∈ blk Ac, W3.heap.size + 2 ≤ j) := Lib.hid ⟨hk2.chg hcw (fun k hk hm => by have := (hk3 k hk).1; simp only [List.mem_cons, List.not_mem_nil, or_false] at hm; omega), fun j hj => (hk3 j hj).1⟩
    have HE4 : Hid (Below hh W3 Wo) := Lib.hid ((hbl.toBelow (fun k hk => by simp only [List.mem_cons, List.not_mem_nil, or_false] at hk; omega) (by omega)).trans (hcw.toBelow (fun k hk => by simp only [List.mem_cons, List.not_mem_nil, or_false] at hk; omega) (by have := hbl.size; omega)))
    have HK1 := Lib.hid hk1
    clear hk2 hk3 hI hK hbl hr1 hcw
    go_wp2_with fail
    have hcp := chg_putObjIt Wo W3.heap.size (.deferred none)
    have hsz : hh + 4 ≤ Wo.heap.size := by have := HE4.out.size; omega
    refine ⟨by simp, .inl ⟨_, _, rfl, run_takeDeferred HE2.out, ?_⟩⟩
    refine ⟨_, results_cell_row rfl _ _ (hh + 1) _ _ _ _ rfl ((World.putObj_heap_other (by omega)).trans HE1.out) rfl rfl rfl, ⟨Ac, nc, cc, rfl, HE3.out.1.chg hcp (fun k hk hm => ?_), fun k hk => ?_⟩, ?_⟩
    · have := HE3.out.2 k hk
      simp only [List.mem_cons, List.not_mem_nil, or_false] at hm
      omega
    · have := HE3.out.2 k hk
      have := HHE.out
      omega
    · rw [HHE.out]
      have h3 := HB3.out
      rw [HHE.out] at h3
      exact h3.trans (HE4.out.trans (hcp.toBelow (fun k hk => by simp only [List.mem_cons, List.not_mem_nil, or_false] at hk; omega) (by omega)))
end Go.Proofs.YtkjdjglknbgeaaaGreatDoor
namespace Go.Proofs.YtkjdjglknbgeaaaGreatDoor
open Go.RowKit Go.Shelf
attribute [local go_sem] Oper.semAt_some
set_option linter.unusedVariables false
set_option maxRecDepth 100000

/-- The bytes of all files, by a length for each. -/
def sumLen (ln : Value → Nat) (ps : List (ByteArray × Value)) : Nat := (ps.map fun p => ln p.2).sum
theorem sumLen_snoc (ln : Value → Nat) (ps : List (ByteArray × Value)) (p : ByteArray × Value) : sumLen ln (ps ++ [p]) = sumLen ln ps + ln p.2 := by unfold sumLen; simp
theorem sumLen_prefix (ln : Value → Nat) {ps all : List (ByteArray × Value)} (h : ps <+: all) : sumLen ln ps ≤ sumLen ln all := by
  obtain ⟨t, rfl⟩ := h
  unfold sumLen
  simp
/-- Each file of a directory lies in memory, of that length. -/
def FilesIn (w : World) (ln : Value → Nat) (ps : List (ByteArray × Value)) : Prop := ∀ p ∈ ps, ∃ f num A c sure, p.2 = .pointer (some ⟨f, 0, none⟩) ∧ FileAt w f num A (ln p.2) c sure
structure SumAt (w0 : World) (ln : Value → Nat) (b : Nat) (pre : List (ByteArray × Value)) (W : World) : Prop where
  chg : Chg [b] w0 W
  cnt : W.heap[b]? = some (.cells #[.int .i64 (sumLen ln pre : Int)] 3 (0, 0))
theorem SumAt.steady {w0 : World} {ln : Value → Nat} {b : Nat} {pre : List (ByteArray × Value)} (hb : b < w0.heap.size) : SteadyIt w0.heap.size (SumAt w0 ln b pre) := by
  rintro W W' ⟨h1, h2⟩ hc
  exact ⟨h1.andThen hc (fun k hk => by simp only [List.mem_cons, List.not_mem_nil, or_false] at hk; omega), (hc.same b (lt_of_block h2) (by simp only [List.mem_cons, List.not_mem_nil, or_false]; omega)).trans h2⟩
set_option maxHeartbeats 3200000 in
theorem used_any (w : World) (d : Nat) (A : Option Addr) (n c : Nat) (ps : List (ByteArray × Value)) (h : RowAtS w d 2 A n c ps) (hn : n ≤ 90000) (ln : Value → Nat) (hfs : FilesIn w ln ps) (hsum : sumLen ln ps ≤ 1000000000000) :
    Calls Tryz.prog 40 #[.pointer (some ⟨d, 0, none⟩)] w fun e w' => e = .returned (.int .i64 (sumLen ln ps : Int)) ∧ Below w.heap.size w w' := by
  have HH := Lib.hid h
  have HFS := Lib.hid hfs
  have hqs := World.block_lt_of_cell? w _ h.cell
  have HSH : Hid (∀ p ∈ ps, ∃ a : Option Addr, p.2 = .pointer a) := Lib.hid fun p hp => by obtain ⟨f, _, _, _, _, e, _⟩ := hfs p hp; exact ⟨_, e⟩
  have HSUM := Lib.hid hsum
  clear h hfs hsum
  refine (callsIn_wide (n := 8)).1 ?_
  refine callsIn_of_wp_marks Tryz.func40 rfl trivial ?_ rfl
  simp only [Tryz.ntmps40, List.size_toArray, List.length_cons, List.length_nil, Nat.reduceAdd, Nat.reduceSub, Array.replicate_succ, Array.replicate_zero, List.push_toArray, List.append_toArray, List.nil_append, List.cons_append]
  refine wpIn_wide.2 ?_
  obtain ⟨hh, hhe⟩ : ∃ hh, w.heap.size = hh := ⟨_, rfl⟩
  obtain ⟨W2, hW2⟩ : ∃ W2, w.alloc (.cells #[.int .i64 0] 3) = W2 := ⟨_, rfl⟩
  have hB2 : Below w.heap.size w W2 := by rw [← hW2]; exact (Below.refl _ w).alloc (Nat.le_refl _) _
  have hs2 : W2.heap.size = hh + 1 := by rw [← hW2, ← hhe]; simp
  have k0 : W2.heap[hh]? = some (.cells #[.int .i64 0] 3 (0, 0)) := by
    have := heap_alloc_new w (.cells #[.int .i64 0] 3 (0, 0))
    rw [hhe] at this
    rw [← hW2]
    exact this
  have hid : W2.setCell ⟨hh, 0, none⟩ (.int .i64 0) = W2 := setCell_id k0 rfl
  have y0 := cell_of_one k0
  have y1 := free_of_one k0
  have HK0 := Lib.hid k0
  have HB2 := Lib.hid hB2
  have HHE := Lib.hid hhe
  have HN := Lib.hid (dnames_any W2 d)
  have HS2 := Lib.hid hs2
  clear k0 hB2 hs2
  go_wp2_with fail
  refine HN.out.mono ?_
  rintro e w' ⟨rfl, rfl⟩
  clear y0 y1 hid
  go_wp2_with fail
  refine (reach_S _ _).mono ?_
  rintro e w' ⟨rfl, rfl⟩
  obtain ⟨W3, hW3⟩ : ∃ W3, W2.alloc (.cells #[.pointer (some ⟨d, 2, none⟩)] 116) = W3 := ⟨_, rfl⟩
  have hs2 := HS2.out
  have hB3 : Below W2.heap.size W2 W3 := by rw [← hW3]; exact (Below.refl _ W2).alloc (Nat.le_refl _) _
  have hs3 : W3.heap.size = hh + 2 := by rw [← hW3]; simp [hs2]
  have hbx : W3.heap[hh + 1]? = some (.cells #[.pointer (some ⟨d, 2, none⟩)] 116 (0, 0)) := by
    have := heap_alloc_new W2 (.cells #[.pointer (some ⟨d, 2, none⟩)] 116 (0, 0))
    rw [hs2, hW3] at this
    exact this
  rw [hs2, hW3]
  have HBX := Lib.hid hbx
  have HB3 : Hid (Below w.heap.size w W3) := Lib.hid (HB2.out.trans (hB3.mono (by have := HB2.out.size; omega)))
  have HJ0 := Lib.hid ((hB3.block hh (by omega)).trans HK0.out)
  have hq3 : d < hh := by have := HHE.out; have h5 : d < w.heap.size := hqs; omega
  clear hW2 hW3 hbx hB3 HK0
  have HIT : Hid (∀ W1, Below W3.heap.size W3 W1 → IterOk Tryz.prog 103 #[.pointer (some ⟨hh + 1, 0, none⟩)] arS 2 ps W1) := Lib.hid (fun W1 hb => by
    have hbw := HB3.out.trans (hb.mono (by have := HHE.out; omega))
    exact each1_S W1 (hh + 1) (some ⟨d, 2, none⟩) A n c ps (cell_of_one ((hb.block _ (by omega)).trans HBX.out)) (.inr ⟨d, 2, rfl, (hbw.cell (p := ⟨d, 2, none⟩) hqs).trans HH.out.cell, HH.out.row.below hbw⟩) (by omega) HSH.out)
  go_wp2_with fail
  refine (wpIn_wide (n := 8)).1 ?_
  refine range_it 8 2 (by decide) 103 #[.pointer (some ⟨hh + 1, 0, none⟩)] arS rfl eachS_enters (fun _ => rfl) ps HIT.out (fun C pre W => SumAt W3 ln hh pre W) (fun _ _ _ _ => False) (fun C xs => SumAt.steady (by omega)) (fun _ _ _ _ _ h _ => h) ?h0 ?hab ?hdone (fun _ _ _ _ _ h _ => h.elim)
  case h0 =>
    intro C W1 hC hb1
    exact ⟨Chg.of_below hb1, (hb1.block _ (by omega)).trans HJ0.out⟩
  case hab =>
    apply Exists.intro
    refine ⟨?hassign, ?hbody⟩
    case hassign =>
      intro x W K hK
      unfold arS encS
      gi_wp2
      exact hK
    case hbody =>
      intro C pre x Wr hC hCW hD1 hI hpre
      obtain ⟨x, v⟩ := x
      have hmem : (x, v) ∈ ps := hpre.subset (by simp)
      obtain ⟨f, num, FA, fc, sure, hv, hf⟩ := HFS.out _ hmem
      have hle := Nat.le_trans (sumLen_prefix ln hpre) HSUM.out
      have hsn := sumLen_snoc ln pre (x, v)
      simp only at hv hf hsn
      subst hv
      have hfl : f < hh := by have := lt_of_block hf; have := HHE.out; omega
      have hf3 := hf.same (HB3.out.block f (lt_of_block hf))
      have hfr := hf3.same (hI.chg.same f (by omega) (by simp only [List.mem_cons, List.not_mem_nil, or_false]; omega))
      obtain ⟨L, hL⟩ : ∃ L, ln (.pointer (some ⟨f, 0, none⟩)) = L := ⟨_, rfl⟩
      obtain ⟨S, hS⟩ : ∃ S, sumLen ln pre = S := ⟨_, rfl⟩
      rw [hL] at hfr hsn
      rw [hS] at hsn
      rw [hsn] at hle
      have hcn := hI.cnt
      rw [hS] at hcn
      have c1 := hfr.c1
      have c2 := cell_of_one hcn
      have c3 := free_of_one hcn
      have hls : (L : Int) + (S : Int) ≤ 1000000000000 := by omega
      have hwr : IntKind.i64.wrap ((S : Int) + (L : Int)) = (S : Int) + (L : Int) := by rw [IntKind.wrap_i64]; omega
      have HSTEP : Hid (KeepsIt W3.heap.size C Wr (Wr.setCell ⟨hh, 0, none⟩ (.int .i64 (IntKind.i64.wrap ((S : Int) + (L : Int))))).drew ∧ SumAt W3 ln hh (pre ++ [(x, .pointer (some ⟨f, 0, none⟩))]) (Wr.setCell ⟨hh, 0, none⟩ (.int .i64 (IntKind.i64.wrap ((S : Int) + (L : Int))))).drew) := Lib.hid (by
        rw [hwr]
        have hcc : Chg [hh] Wr (Wr.setCell ⟨hh, 0, none⟩ (.int .i64 ((S : Int) + (L : Int)))).drew := ((Chg.refl _ Wr).setCell hh 0 _ (.inl (by simp))).drew
        refine ⟨hcc.keepsIt (by omega) hCW (by simp only [List.mem_cons, List.not_mem_nil, or_false]; omega) (by simp only [List.mem_cons, List.not_mem_nil, or_false]; omega) (by simp only [List.mem_cons, List.not_mem_nil, or_false]; omega), hI.chg.trans hcc, ?_⟩
        rw [hsn]
        have := one_setCell (u := .int .i64 ((S : Int) + (L : Int))) hcn
        show (Wr.setCell ⟨hh, 0, none⟩ (.int .i64 ((S : Int) + (L : Int)))).heap[hh]? = _
        rw [this]
        simp)
      clear hwr
      clear hmem hf hf3 hfr hcn hsn hle hI hpre hL hS
      gi_wp2_with fail
      gi_region
      all_goals
        try gi_wp2
        exact HSTEP.out
  case hdone =>
    intro C Wl hI hK
    have hbl := hI.chg
    have hcn := hI.cnt
    have y1 := cell_of_one hcn
    have HE2 : Hid (Wl.heap[W3.heap.size]? = some (.deferred (some []))) := Lib.hid hK
    have HE4 : Hid (Below hh W3 Wl) := Lib.hid (hbl.toBelow (fun k hk => by simp only [List.mem_cons, List.not_mem_nil, or_false] at hk; omega) (by omega))
    clear hI hK hbl hcn
    go_wp2_with fail
    have hcp := chg_putObjIt Wl W3.heap.size (.deferred none)
    have hsz : hh + 2 ≤ Wl.heap.size := by have := HE4.out.size; omega
    refine ⟨by simp, .inl ⟨_, _, rfl, run_takeDeferred HE2.out, ?_⟩⟩
    refine ⟨_, results_tmp rfl _ _ _, rfl, ?_⟩
    rw [HHE.out]
    have h3 := HB3.out
    rw [HHE.out] at h3
    exact h3.trans (HE4.out.trans (hcp.toBelow (fun k hk => by simp only [List.mem_cons, List.not_mem_nil, or_false] at hk; omega) (by omega)))
end Go.Proofs.YtkjdjglknbgeaaaGreatDoor
namespace Go.Proofs.YtkjdjglknbgeaaaGreatDoor
open Go.RowKit
set_option linter.unusedVariables false
set_option maxRecDepth 100000

section
variable {w : World} {d : Nat} {b : DBox} {RA : Option Addr} {rn rc : Nat} {ps : List (ByteArray × Value)}
set_option maxHeartbeats 800000 in
theorem append_no (H : NowAt w d b RA rn rc ps) (nm : ByteArray) (hsz : nm.size ≤ 1000000) (hE : withE b [nm] ps nm ≠ 0) (BA : Option Addr) (bn bc : Nat) :
    Calls Tryz.prog 39 #[.pointer (some ⟨d, 0, none⟩), .string nm, .slice BA bn bc] w fun e w' => e = .returned (.int .i64 (withE b [nm] ps nm)) ∧ DBoxAt w' d (poweredB b) ∧ Chg [d] w w' := by
  have HW := Lib.hid (with1 H nm hsz)
  have hF : withF b [nm] ps nm = .pointer none := by unfold withF; rw [if_neg hE]
  rw [hF] at HW
  obtain ⟨E, hEE⟩ : ∃ E, withE b [nm] ps nm = E := ⟨_, rfl⟩
  rw [hEE] at HW hE ⊢
  clear hEE hF H
  have hEb : (E == 0) = false := by simpa using hE
  go_enter Tryz.func39, Tryz.ntmps39
  go_wp2_with fail
  refine HW.out.mono ?_
  rintro e w1 ⟨rfl, hd1, hc1⟩
  have HX := Lib.hid (And.intro hd1 hc1)
  clear hd1 hc1
  go_wp2
  go_ret
  exact ⟨rfl, HX.out⟩
set_option maxHeartbeats 800000 in
theorem append_big (H : NowAt w d b RA rn rc ps) (nm : ByteArray) (hsz : nm.size ≤ 1000000) (hE : withE b [nm] ps nm = 0) (f num : Nat) (hF : withF b [nm] ps nm = .pointer (some ⟨f, 0, none⟩)) (A : Option Addr) (n c sure : Nat) (hfile : FileAt w f num A n c sure) (hfd : f ≠ d) (BA : Option Addr) (bn bc : Nat) (hn : n ≤ 10000000) (hbn : bn ≤ 10000000) (hbig : 1048576 < n + bn) :
    Calls Tryz.prog 39 #[.pointer (some ⟨d, 0, none⟩), .string nm, .slice BA bn bc] w fun e w' => e = .returned (.int .i64 2) ∧ DBoxAt w' d (poweredB b) ∧ Chg [d] w w' := by
  have HW := Lib.hid (with1 H nm hsz)
  rw [hF, hE] at HW
  have HFI := Lib.hid hfile
  have hbig' : (1048576 : Int) < (n : Int) + (bn : Int) := by omega
  clear hE hF H hfile hbig
  go_enter Tryz.func39, Tryz.ntmps39
  go_wp2_with fail
  refine HW.out.mono ?_
  rintro e w1 ⟨rfl, hd1, hc1⟩
  have c1 := (HFI.out.same (hc1.same f (lt_of_block HFI.out) (by simp only [List.mem_singleton]; exact hfd))).c1
  have HX := Lib.hid (And.intro hd1 hc1)
  clear hd1 hc1
  go_wp2
  go_ret
  exact ⟨rfl, HX.out⟩
set_option maxHeartbeats 1600000 in
theorem append_full (H : NowAt w d b RA rn rc ps) (nm : ByteArray) (hsz : nm.size ≤ 1000000) (hE : withE b [nm] ps nm = 0) (f num : Nat) (hF : withF b [nm] ps nm = .pointer (some ⟨f, 0, none⟩)) (A : Option Addr) (n c sure : Nat) (hfile : FileAt w f num A n c sure) (hfd : f ≠ d) (BA : Option Addr) (bn bc : Nat) (hn : n ≤ 10000000) (hbn : bn ≤ 10000000) (hsmall : n + bn ≤ 1048576)
    (ln : Value → Nat) (hfs : FilesIn w ln ps) (hfsd : ∀ p ∈ ps, p.2 ≠ .pointer (some ⟨d, 0, none⟩)) (hsum : sumLen ln ps ≤ 1000000000000) (hfull : b.quota < (sumLen ln ps : Int) + (bn : Int)) :
    Calls Tryz.prog 39 #[.pointer (some ⟨d, 0, none⟩), .string nm, .slice BA bn bc] w fun e w' => e = .returned (.int .i64 4) ∧ DBoxAt w' d { poweredB b with full := true } ∧ Chg [d] w w' := by
  have HW := Lib.hid (with1 H nm hsz)
  rw [hF, hE] at HW
  have HFI := Lib.hid hfile
  have hsm : (n : Int) + (bn : Int) ≤ 1048576 := by omega
  have HUS : Hid (∀ w1 W : World, DBoxAt w1 d (poweredB b) → Chg [d] w w1 → W.heap = w1.heap → Calls Tryz.prog 40 #[.pointer (some ⟨d, 0, none⟩)] W fun e w' => e = .returned (.int .i64 (sumLen ln ps : Int)) ∧ Below W.heap.size W w') := Lib.hid fun w1 W h1 hc hW => by
    have hc2 : w1.cell? ⟨d, 2, none⟩ = some (poweredB b).now := h1.cell 2 _ rfl
    rw [powered_now, H.now] at hc2
    refine used_any W d RA rn rc ps ⟨(World.cell?_of_block (w := w1) (a := ⟨d, 2, none⟩) (by rw [hW])).trans hc2, (H.row.chg hc (fun k hk hm => by rw [List.mem_singleton] at hm; rw [hm] at hk; exact H.apart hk)).same (by rw [hW]; exact Nat.le_refl _) (fun k _ => by rw [hW])⟩ (by have := H.len; omega) ln (fun p hp => ?_) hsum
    obtain ⟨g, gn, gA, gc, gs, he, hg⟩ := hfs p hp
    refine ⟨g, gn, gA, gc, gs, he, hg.same ((congrArg (·[g]?) hW).trans (hc.same g (lt_of_block hg) ?_))⟩
    rw [List.mem_singleton]
    rintro rfl
    exact hfsd p hp he
  obtain ⟨S, hS⟩ : ∃ S, sumLen ln ps = S := ⟨_, rfl⟩
  rw [hS] at HUS hfull hsum
  have HQ : Hid ((poweredB b).quota = b.quota) := Lib.hid (powered_quota b)
  obtain ⟨q, hq⟩ : ∃ q, b.quota = q := ⟨_, rfl⟩
  rw [hq] at HQ hfull
  obtain ⟨b2, hb2⟩ : ∃ b2, poweredB b = b2 := ⟨_, rfl⟩
  rw [hb2] at HW HUS HQ
  rw [hb2]
  have hSb : (S : Int) + (bn : Int) ≤ 2000000000000 := by omega
  clear hE hF H hfile hfs hfsd hsmall hS hq hb2 hsum
  go_enter Tryz.func39, Tryz.ntmps39
  go_wp2_with fail
  refine HW.out.mono ?_
  rintro e w1 ⟨rfl, hd1, hc1⟩
  have c1 := (HFI.out.same (hc1.same f (lt_of_block HFI.out) (by simp only [List.mem_singleton]; exact hfd))).c1
  have c5 : w1.cell? ⟨d, 5, none⟩ = some (.int .i64 b2.quota) := hd1.cell 5 _ rfl
  rw [HQ.out] at c5
  have HU := Lib.hid (fun W hW => HUS.out w1 W hd1 hc1 hW)
  have HX := Lib.hid (And.intro hd1 hc1)
  clear hd1 hc1 HUS HW
  go_wp2_with fail
  have HQC : Hid (∀ W, DBoxAt W d b2 → W.cell? ⟨d, 5, none⟩ = some (.int .i64 q)) := Lib.hid fun W h => by have h5 : W.cell? ⟨d, 5, none⟩ = some (.int .i64 b2.quota) := h.cell 5 _ rfl; rw [HQ.out] at h5; exact h5
  go_region_with (go_at_call 40; go_loud (refine (HU.out w1.drew rfl).mono ?_; rintro e w2 ⟨rfl, hB⟩; have HD2 : Hid (DBoxAt w2 d b2 ∧ Chg [d] w w2) := Lib.hid ⟨(hB.block d (show d < w1.heap.size from HX.out.1.lt)).trans HX.out.1, HX.out.2.drew.trans (Chg.of_below hB)⟩; have c5' := HQC.out w2 HD2.out.1; clear hB))
  all_goals
    have hwr : IntKind.i64.wrap ((S : Int) + (bn : Int)) = (S : Int) + (bn : Int) := by rw [IntKind.wrap_i64]; omega
    have hdf : decide (q < IntKind.i64.wrap ((S : Int) + (bn : Int))) = true := by rw [hwr]; exact decide_eq_true hfull
    have c6 : w2.cell? ⟨d, 6, none⟩ = some (.bool b2.full) := HD2.out.1.cell 6 _ rfl
    have f6 : w2.frozen? ⟨d, 6, none⟩ = false := HD2.out.1.free 6
    have HX2 : Hid (DBoxAt (w2.setCell ⟨d, 6, none⟩ (.bool true)) d { b2 with full := true } ∧ Chg [d] w (w2.setCell ⟨d, 6, none⟩ (.bool true))) := Lib.hid ⟨HD2.out.1.set 6 (.bool true) _ rfl, HD2.out.2.setCell d 6 _ (.inl (by simp))⟩
    go_wp2
    go_ret
    exact ⟨rfl, HX2.out⟩
end
end Go.Proofs.YtkjdjglknbgeaaaGreatDoor
namespace Go.Proofs.YtkjdjglknbgeaaaGreatDoor
open Go.RowKit
set_option linter.unusedVariables false
set_option maxRecDepth 100000

section
variable {P : Program}
theorem sline_append_big (s : Nat) (w : World) (t e ty : TypeId) (z : Value) (bytes : Nat) (ht : P.underlying t = some (.slice e)) (hinfo : (P.info? e).map (fun i => (i.zero, i.size, i.bytes)) = some (some z, s, bytes)) (hz1 : z.cells.size = s) (hby : bytes ≤ 256)
    (A : Option Addr) (n c : Nat) (xs : List Value) (h : SLine s w A n c xs) (hn : n ≤ 1200000) (x : Value) (m : Nat) (hm : m ≤ 10000000) (hA : A = none → 0 < m) (news : List Value) (hsrc : Src P s t x m news w) :
    ∃ A' c' w', (Builtin.append_ #[t, t] ty #[.slice A n c, x]).run P w = .ok (.slice A' (n + m) c') w' ∧ SLine s w' A' (n + m) c' (xs ++ news) ∧ Chg (blk A) w w' ∧ (∀ k ∈ blk A', k ∈ blk A ∨ w.heap.size ≤ k) ∧ A' ≠ none := by
  obtain ⟨i0, hi, hz0, hs1, hs2⟩ := info_parts hinfo
  have hnl := hsrc.newsLen
  have h1 := h.1
  have hms : (n + m) * s = n * s + m * s := Nat.add_mul ..
  have hlen : (xs ++ news).length = (n + m) * s := by rw [List.length_append, h1, hnl, hms]
  by_cases hroom : n + m ≤ c
  · obtain ⟨g, off, rfl, hg, hc, hf⟩ : ∃ g off, A = some ⟨g, off, none⟩ ∧ g < w.heap.size ∧ (∀ i, i < n * s → w.cell? ⟨g, off + i, none⟩ = xs[i]?) ∧ ∀ i, i < c * s → (w.cell? ⟨g, off + i, none⟩).isSome = true ∧ w.frozen? ⟨g, off + i, none⟩ = false := by
      cases A with
      | none => have := h.2.2.2.1 rfl; have := hA rfl; omega
      | some ad =>
        obtain ⟨g, off, rfl, hg, hc, hf⟩ := h.2.2.2.2 ad rfl
        exact ⟨g, off, rfl, hg, hc, hf⟩
    have hcs : (n + m) * s ≤ c * s := Nat.mul_le_mul_right s hroom
    have hsrc' : Src P i0.size t x m news w := by rw [hs1]; exact hsrc
    have hr := run_append_room_src (P := P) w t t ty e i0 ht hi g off n c x m news hsrc' hroom
      (fun j hj => by
        rw [hs1, Nat.add_assoc]
        exact (hf _ (by omega)).1)
      (fun j hj => by
        rw [hs1, Nat.add_assoc]
        exact (hf _ (by omega)).2)
    rw [hs1] at hr
    refine ⟨_, _, _, hr, ⟨hlen, hroom, h.2.2.1, (fun e => by cases e), fun ad e => ?_⟩, (chg_cells w g (off + n * s) news).weaken (fun k hk => .inl (by simp only [List.mem_singleton] at hk; subst hk; exact mem_blk.2 ⟨_, rfl, rfl⟩)), fun k hk => .inl hk, by simp⟩
    cases e
    refine ⟨g, off, rfl, Nat.lt_of_lt_of_le hg (chg_cells w g (off + n * s) news).size, fun i hi => ?_, fun i hi => ⟨World.isSome_setCells g news (off + n * s) w _ (hf i hi).1, by rw [World.frozen?_setCells]; exact (hf i hi).2⟩⟩
    rcases Nat.lt_or_ge i (n * s) with h2 | h2
    · rw [World.cell?_setCells_out g news (off + n * s) w ⟨g, off + i, none⟩ (fun _ _ => .inl (by show off + i < off + n * s; omega)), hc i h2, List.getElem?_append_left (by omega)]
    · have := World.cell?_setCells_in g news (off + n * s) w (fun j hj => by rw [Nat.add_assoc]; exact (hf _ (by omega)).1) (i - n * s) (by omega)
      rw [show off + n * s + (i - n * s) = off + i from by omega] at this
      rw [this, List.getElem?_append_right (by omega), h1, List.getElem?_eq_getElem]
  · have hold : (Builtin.firstCells i0.size n (.slice A n c)).run P w.drew = .ok xs.toArray w.drew := by
      rw [hs1]
      cases A with
      | none =>
        have h2 := h.2.2.2.1 rfl
        have h3 := h.2.1
        obtain rfl : n = 0 := by omega
        have : xs = [] := List.eq_nil_of_length_eq_zero (by rw [h1, Nat.zero_mul])
        subst this
        exact run_firstCells_none w.drew s 0 0 c
      | some ad =>
        obtain ⟨g, off, rfl, hg, hc, hf⟩ := h.2.2.2.2 ad rfl
        refine run_firstCells_some w.drew s n ⟨g, off, none⟩ n c xs h1 (fun j v hj => ?_)
        have hjn : j < n * s := by rw [← h1]; exact (List.getElem?_eq_some_iff.1 hj).1
        have hadd : (⟨g, off, none⟩ : Addr).add j = ⟨g, off + j, none⟩ := by unfold Addr.add; split <;> simp_all
        rw [hadd]
        exact (hc j hjn).trans hj
    have hfit : Builtin.nextslicecap (n + m) c * i0.bytes ≤ 281474976710656 := growslice_fits (by omega) (by
      have h5 : (n + m) * i0.bytes ≤ 12000000 * 256 := Nat.mul_le_mul (by omega) (by rw [hs2]; exact hby)
      omega)
    have hsrc' : Src P i0.size t x m news w := by rw [hs1]; exact hsrc
    have hr := run_append_grow_src (P := P) w t t ty e i0 z ht hi hz0 A n c xs hold x m news hsrc' (by omega) (by omega) hfit
    have hge := grownCap_ge w (n + m) c e
    have hmx := grownCap_le_maxLen w (n + m) c e (by unfold maxLen; omega)
    generalize grownCap w (n + m) c e = C at *
    generalize hcur : (xs ++ news).toArray ++ Builtin.zeroCells z.cells (C - (n + m)) = cur at *
    have hcs : cur.size = C * s := by
      rw [← hcur, Array.size_append, List.size_toArray, hlen, size_zeroCells, hz1, Nat.sub_mul]
      have : (n + m) * s ≤ C * s := Nat.mul_le_mul_right s hge
      omega
    have hblock : (w.drew.alloc (.cells cur e)).heap[w.heap.size]? = some (.cells cur e (0, 0)) := heap_alloc_new w.drew _
    refine ⟨_, _, _, hr, ⟨hlen, hge, hmx, (fun e => by cases e), fun ad ea => ?_⟩, ((Chg.refl _ w).drew).alloc _, fun k hk => .inr ?_, by simp⟩
    · cases ea
      refine ⟨w.heap.size, 0, rfl, lt_of_block hblock, fun i hi => ?_, fun i hi => ?_⟩
      · rw [Nat.zero_add, cell_of_row _ w.heap.size i cur e (0, 0) hblock, ← hcur, Array.getElem?_append_left (by rw [List.size_toArray, hlen]; exact hi)]
        simp
      · rw [Nat.zero_add]
        refine ⟨?_, frozen_of_row _ w.heap.size i cur e hblock⟩
        rw [cell_of_row _ w.heap.size i cur e (0, 0) hblock, Array.getElem?_eq_getElem (by rw [hcs]; exact hi)]
        rfl
    · obtain ⟨ad, ea, hb⟩ := mem_blk.1 hk
      cases ea
      rw [← hb]
      exact Nat.le_refl _
end
section
variable {w : World} {d : Nat} {b : DBox} {RA : Option Addr} {rn rc : Nat} {ps : List (ByteArray × Value)}
theorem sline_append_all (s : Nat) (w : World) (t e ty : TypeId) (z : Value) (bytes : Nat) (ht : Tryz.prog.underlying t = some (.slice e)) (hinfo : (Tryz.prog.info? e).map (fun i => (i.zero, i.size, i.bytes)) = some (some z, s, bytes)) (hz1 : z.cells.size = s) (hby : bytes ≤ 256)
    (A : Option Addr) (n c : Nat) (xs : List Value) (h : SLine s w A n c xs) (hn : n ≤ 1200000) (x : Value) (m : Nat) (hm : m ≤ 10000000) (news : List Value) (hsrc : Src Tryz.prog s t x m news w) :
    ∃ A' c' w', (Builtin.append_ #[t, t] ty #[.slice A n c, x]).run Tryz.prog w = .ok (.slice A' (n + m) c') w' ∧ SLine s w' A' (n + m) c' (xs ++ news) ∧ Chg (blk A) w w' ∧ (∀ k ∈ blk A', k ∈ blk A ∨ w.heap.size ≤ k) ∧ True := by
  by_cases h0 : A = none ∧ m = 0
  · obtain ⟨rfl, rfl⟩ := h0
    have hnl := hsrc.newsLen
    obtain rfl : news = [] := List.eq_nil_of_length_eq_zero (by omega)
    obtain ⟨i0, hi, hz0, hs1, hs2⟩ := info_parts hinfo
    have hr := run_append_nothing (P := Tryz.prog) w t t ty e i0 ht hi none n c h.2.1 x (by rw [hs1]; exact hsrc)
    exact ⟨none, c, w, hr, by rw [List.append_nil]; exact h, Chg.refl _ w, fun k hk => .inl hk, trivial⟩
  · obtain ⟨A', c', w', h1, h2, h3, h4, _⟩ := sline_append_big s w t e ty z bytes ht hinfo hz1 hby A n c xs h hn x m hm (fun hA => by
      rcases Nat.eq_zero_or_pos m with hm0 | hm0
      · exact absurd ⟨hA, hm0⟩ h0
      · exact hm0) news hsrc
    exact ⟨A', c', w', h1, h2, h3, h4, trivial⟩
/-- What Append leaves. -/
def Appended (w : World) (d : Nat) (b : DBox) (f num : Nat) (A : Option Addr) (n sure : Nat) (xs : List Value) (w' : World) : Prop :=
  ∃ A' c', DBoxAt w' d b ∧ FileAt w' f num A' n c' sure ∧ SLine 1 w' A' n c' xs ∧ Chg (d :: f :: blk A) w w' ∧ ∀ k ∈ blk A', k ∈ blk A ∨ w.heap.size ≤ k
set_option maxHeartbeats 1600000 in
theorem append_ok (H : NowAt w d b RA rn rc ps) (nm : ByteArray) (hsz : nm.size ≤ 1000000) (hE : withE b [nm] ps nm = 0) (f num : Nat) (hF : withF b [nm] ps nm = .pointer (some ⟨f, 0, none⟩)) (A : Option Addr) (n c sure : Nat) (hfile : FileAt w f num A n c sure) (hfd : f ≠ d) (BA : Option Addr) (bn bc : Nat) (hn : n ≤ 10000000) (hbn : bn ≤ 10000000) (hsmall : n + bn ≤ 1048576)
    (ln : Value → Nat) (hfs : FilesIn w ln ps) (hfsd : ∀ p ∈ ps, p.2 ≠ .pointer (some ⟨d, 0, none⟩)) (hsum : sumLen ln ps ≤ 1000000000000) (hroom : (sumLen ln ps : Int) + (bn : Int) ≤ b.quota) (xs : List Value) (hline : SLine 1 w A n c xs) (hfA : f ∉ blk A) (hdA : d ∉ blk A) (news : List Value) (hsrc : ∀ W, Chg [d] w W → Src Tryz.prog 1 22 (.slice BA bn bc) bn news W) :
    Calls Tryz.prog 39 #[.pointer (some ⟨d, 0, none⟩), .string nm, .slice BA bn bc] w fun e w' => e = .returned (.int .i64 0) ∧ Appended w d (poweredB b) f num A (n + bn) sure (xs ++ news) w' := by
  have HW := Lib.hid (with1 H nm hsz)
  rw [hF, hE] at HW
  have HFI := Lib.hid hfile
  have hsm : (n : Int) + (bn : Int) ≤ 1048576 := by omega
  have HUS : Hid (∀ w1 W : World, DBoxAt w1 d (poweredB b) → Chg [d] w w1 → W.heap = w1.heap → Calls Tryz.prog 40 #[.pointer (some ⟨d, 0, none⟩)] W fun e w' => e = .returned (.int .i64 (sumLen ln ps : Int)) ∧ Below W.heap.size W w') := Lib.hid fun w1 W h1 hc hW => by
    have hc2 : w1.cell? ⟨d, 2, none⟩ = some (poweredB b).now := h1.cell 2 _ rfl
    rw [powered_now, H.now] at hc2
    refine used_any W d RA rn rc ps ⟨(World.cell?_of_block (w := w1) (a := ⟨d, 2, none⟩) (by rw [hW])).trans hc2, (H.row.chg hc (fun k hk hm => by rw [List.mem_singleton] at hm; rw [hm] at hk; exact H.apart hk)).same (by rw [hW]; exact Nat.le_refl _) (fun k _ => by rw [hW])⟩ (by have := H.len; omega) ln (fun p hp => ?_) hsum
    obtain ⟨g, gn, gA, gc, gs, he, hg⟩ := hfs p hp
    refine ⟨g, gn, gA, gc, gs, he, hg.same ((congrArg (·[g]?) hW).trans (hc.same g (lt_of_block hg) ?_))⟩
    rw [List.mem_singleton]
    rintro rfl
    exact hfsd p hp he
  obtain ⟨S, hS⟩ : ∃ S, sumLen ln ps = S := ⟨_, rfl⟩
  rw [hS] at HUS hroom hsum
  have HQ : Hid ((poweredB b).quota = b.quota) := Lib.hid (powered_quota b)
  obtain ⟨q, hq⟩ : ∃ q, b.quota = q := ⟨_, rfl⟩
  rw [hq] at HQ hroom
  obtain ⟨b2, hb2⟩ : ∃ b2, poweredB b = b2 := ⟨_, rfl⟩
  rw [hb2] at HW HUS HQ
  rw [hb2]
  have HL := Lib.hid (And.intro hline (And.intro hfA (And.intro hdA hsrc)))
  have hroom' : ¬ q < (S : Int) + (bn : Int) := by omega
  have HRM := Lib.hid hroom'
  have hnn : n ≤ 1000000 ∨ 1000000 < n := by omega
  have hSb : (S : Int) + (bn : Int) ≤ 2000000000000 := by omega
  clear hE hF H hfile hfs hfsd hsmall hS hq hb2 hsum hline hfA hdA hsrc hroom hroom'
  go_enter Tryz.func39, Tryz.ntmps39
  go_wp2_with fail
  refine HW.out.mono ?_
  rintro e w1 ⟨rfl, hd1, hc1⟩
  have c1 := (HFI.out.same (hc1.same f (lt_of_block HFI.out) (by simp only [List.mem_singleton]; exact hfd))).c1
  have c5 : w1.cell? ⟨d, 5, none⟩ = some (.int .i64 b2.quota) := hd1.cell 5 _ rfl
  rw [HQ.out] at c5
  have HU := Lib.hid (fun W hW => HUS.out w1 W hd1 hc1 hW)
  have HX := Lib.hid (And.intro hd1 hc1)
  clear hd1 hc1 HUS HW
  go_wp2_with fail
  have HQC : Hid (∀ W, DBoxAt W d b2 → W.cell? ⟨d, 5, none⟩ = some (.int .i64 q)) := Lib.hid fun W h => by have h5 : W.cell? ⟨d, 5, none⟩ = some (.int .i64 b2.quota) := h.cell 5 _ rfl; rw [HQ.out] at h5; exact h5
  go_region_with (go_at_call 40; go_loud (refine (HU.out w1.drew rfl).mono ?_; rintro e w2 ⟨rfl, hB⟩; have HD2 : Hid (DBoxAt w2 d b2 ∧ Chg [d] w w2) := Lib.hid ⟨(hB.block d (show d < w1.heap.size from HX.out.1.lt)).trans HX.out.1, HX.out.2.drew.trans (Chg.of_below hB)⟩; have c5' := HQC.out w2 HD2.out.1; clear hB))
  all_goals
    have hwr : IntKind.i64.wrap ((S : Int) + (bn : Int)) = (S : Int) + (bn : Int) := by rw [IntKind.wrap_i64]; omega
    have hdf : decide (q < IntKind.i64.wrap ((S : Int) + (bn : Int))) = false := by rw [hwr]; exact decide_eq_false (by have := HRM.out; omega)
    have hroom2 : ¬ q < (S : Int) + (bn : Int) := by have := HRM.out; omega
    obtain ⟨hline, hfA, hdA, hsrc⟩ := HL.out
    have hc2 : Chg [d] w w2 := HD2.out.2
    have hnd : ∀ k ∈ blk A, k ∉ [d] := fun k hk hm => by rw [List.mem_singleton] at hm; rw [hm] at hk; exact hdA hk
    have hF2 : FileAt w2 f num A n c sure := HFI.out.same (hc2.same f (lt_of_block HFI.out) (by simp only [List.mem_singleton]; exact hfd))
    obtain ⟨A', c', w3, hr, hl3, hc3, hf3, _⟩ := sline_append_all 1 w2 22 5 22 _ 1 Tryz.underlying22 infoB rfl (by decide) A n c xs (hline.chg hc2 hnd) (by omega) _ bn (by omega) news (hsrc w2 hc2)
    have hF3 : FileAt w3 f num A n c sure := hF2.same (hc3.same f (lt_of_block hF2) hfA)
    have d1 := hF2.c1
    have d3 := hF3.c1
    have e3 := hF3.free 1
    have hfA' : f ∉ blk A' := fun hm => by
      rcases hf3 f hm with h | h
      · exact hfA h
      · have := lt_of_block hF2; omega
    have HX2 : Hid (Appended w d b2 f num A (n + bn) sure (xs ++ news) (w3.setCell ⟨f, 1, none⟩ (.slice A' (n + bn) c'))) := Lib.hid (by
      have hcs : Chg [f] w3 (w3.setCell ⟨f, 1, none⟩ (.slice A' (n + bn) c')) := (Chg.refl _ w3).setCell f 1 _ (.inl (by simp))
      refine ⟨A', c', ?_, hF3.setData A' (n + bn) c', hl3.chg hcs (fun k hk hm => by rw [List.mem_singleton] at hm; rw [hm] at hk; exact hfA' hk), ?_, fun k hk => ?_⟩
      · refine ((HD2.out.1.chg hc3 hdA).chg hcs ?_)
        simp only [List.mem_singleton]
        exact fun h => hfd h.symm
      · refine ((hc2.weaken (fun k hk => .inl ?_)).andThen hc3 (fun k hk => .inl ?_)).andThen hcs (fun k hk => .inl ?_)
        · rw [List.mem_singleton] at hk; rw [hk]; exact List.mem_cons_self ..
        · exact List.mem_cons_of_mem _ (List.mem_cons_of_mem _ hk)
        · rw [List.mem_singleton] at hk; rw [hk]; exact List.mem_cons_of_mem _ (List.mem_cons_self ..)
      · have := hc2.size
        rcases hf3 k hk with h | h
        · exact .inl h
        · exact .inr (by omega))
    have HR := Lib.hid hr
    clear hline hfA hdA hsrc hc2 hnd hF2 hr hl3 hc3 hf3 hF3 hfA'
    go_wp2_with (at_builtin; refine Lib.wpList_append_run _ rfl _ _ _ _ rfl _ _ rfl rfl _ _ HR.out ?_)
    go_ret
    exact ⟨rfl, HX2.out⟩
end
end Go.Proofs.YtkjdjglknbgeaaaGreatDoor
namespace Go.Proofs.YtkjdjglknbgeaaaGreatDoor
open Go.RowKit Go.Maps
set_option linter.unusedVariables false
set_option maxRecDepth 100000

theorem keyI : Keyed Tryz.prog 3 := int_keyed Tryz.underlying3
theorem zeroU (w : World) : (zeroValue 191).run Tryz.prog w = .ok (.agg #[]) w := by kernel_rfl
def litsN (S : List Nat) : List Lit := S.map fun (n : Nat) => Lit.int .i64 (n : Int)
theorem lits_key (S : List Nat) : ∀ x ∈ litsN S, WideAt.IsKeyLit x := by
  intro x hx
  obtain ⟨n, _, rfl⟩ := List.mem_map.1 hx
  trivial
theorem has_lits (S : List Nat) (n : Nat) : Maps.has (setOf (H := Unit) (.agg []) (litsN S)) (.int .i64 (n : Int)) = decide (n ∈ S) := by
  rw [has_setOf _ _ _ (lits_key S)]
  unfold litsN
  rw [List.any_map]
  induction S with
  | nil => simp
  | cons a S ih =>
    rw [List.any_cons, ih]
    have : (Lit.int .i64 (a : Int)).sameKey (.int .i64 (n : Int)) = decide (n = a) := by
      simp only [Lit.sameKey]
      by_cases h : n = a
      · subst h; simp
      · have : ¬ (a : Int) = (n : Int) := by omega
        simp [h, this]
    simp only [Function.comp, this, List.mem_cons]
    by_cases h : n = a <;> simp [h]
theorem keyOf_num (n : Nat) (h : n ≤ 9000000) : keyOf Tryz.prog 3 (.int .i64 (n : Int)) = some (.int .i64 (n : Int)) := keyOf_int_mk Tryz.underlying3 (WalkArith.wf_i64 (by omega))
/-- The map in block M holds the numbers S. -/
def NumsAt (w : World) (M : Nat) (S : List Nat) : Prop := w.ownsMap Tryz.prog 3 (unitElem (H := Unit)) M S.length (setOf (.agg []) (litsN S))
theorem NumsAt.below {w w' : World} {M : Nat} {S : List Nat} (h : NumsAt w M S) (hb : w'.heap[M]? = w.heap[M]?) : NumsAt w' M S := by
  obtain ⟨es, clock, h1, h2⟩ := h
  exact ⟨es, clock, hb.trans h1, h2⟩
theorem NumsAt.lt {w : World} {M : Nat} {S : List Nat} (h : NumsAt w M S) : M < w.heap.size := World.ownsMap.lt h
theorem NumsAt.new (w : World) : NumsAt (w.alloc (.map #[] 0)) w.heap.size [] := World.ownsMap_made _ _ _ _
/-- One number more. -/
theorem NumsAt.put {w : World} {M : Nat} {S : List Nat} (h : NumsAt w M S) (n : Nat) (hn : n ≤ 9000000) (hS : S.length ≤ 1000000) :
    ∃ w', (Instr.mapUpdate 190 (.map (some M)) (.int .i64 (n : Int)) (.agg #[])).run Tryz.prog w = .ok () w' ∧ NumsAt w' M (S ++ [n]) ∧ Chg [M] w w' := by
  obtain ⟨w', h1, h2, h3⟩ := World.ownsMap.update (P := Tryz.prog) h keyI Tryz.underlying190 (by unfold maxLen; omega) (keyOf_num n hn) (unitElem_mk (H := Unit))
  refine ⟨w', h1, ?_, ?_⟩
  · unfold NumsAt
    rw [List.length_append]
    have : litsN (S ++ [n]) = litsN S ++ [.int .i64 (n : Int)] := by unfold litsN; rw [List.map_append]; rfl
    rw [this, setOf_snoc]
    exact h2
  · exact (Chg.refl _ w).grown h3 (fun k hk => by injection hk with hk; subst hk; exact .inl (by simp))
set_option maxHeartbeats 1600000 in
theorem forget1_any (w : World) (f num : Nat) (A : Option Addr) (n c sure : Nat) (hF : FileAt w f num A n c sure) (hnum : num ≤ 1000000) (B M : Nat) (hB : w.cell? ⟨B, 0, none⟩ = some (.map (some M))) (S : List Nat) (hM : NumsAt w M S) :
    Calls Tryz.prog 137 #[.pointer (some ⟨f, 0, none⟩), .pointer (some ⟨B, 0, none⟩)] w fun e w' => e = .returned (.bool (!decide (num ∈ S))) ∧ Below w.heap.size w w' := by
  obtain ⟨W1, hW1⟩ : ∃ W1, w.alloc (.cells #[] 191) = W1 := ⟨_, rfl⟩
  have hb1 : Below w.heap.size w W1 := by rw [← hW1]; exact (Below.refl _ w).alloc (Nat.le_refl _) _
  have hF1 := hF.same (hb1.block f (lt_of_block hF))
  have c0 := hF1.c0
  have c0' := hF.c0
  have hB1 : W1.cell? ⟨B, 0, none⟩ = some (.map (some M)) := (hb1.cell (p := ⟨B, 0, none⟩) (World.block_lt_of_cell? w _ hB)).trans hB
  have hM1 : NumsAt W1 M S := hM.below (hb1.block M hM.lt)
  obtain ⟨v, ps, hrun, hv⟩ := World.ownsMap.look_ok (P := Tryz.prog) (w := W1.drew) (World.ownsMap.drew hM1) keyI Tryz.underlying190 (zeroU _) (unitElem_mk (H := Unit)) (keyOf_num num (by omega))
  obtain ⟨rfl, _⟩ := unitElem_inv hv
  obtain ⟨v', ps', hrun', hv'⟩ := World.ownsMap.look_ok (P := Tryz.prog) (w := w.drew) (World.ownsMap.drew hM) keyI Tryz.underlying190 (zeroU _) (unitElem_mk (H := Unit)) (keyOf_num num (by omega))
  obtain ⟨rfl, _⟩ := unitElem_inv hv'
  rw [has_lits] at hrun hrun'
  obtain ⟨t, ht⟩ : ∃ t, decide (num ∈ S) = t := ⟨_, rfl⟩
  rw [ht] at hrun hrun' ⊢
  have HB := Lib.hid hb1
  clear hF hM hv hv' ht hF1 hM1 hb1
  go_enter Tryz.func137, Tryz.ntmps137
  go_wp2_with fail
  go_region
  go_wp2
  go_ret
  exact ⟨rfl, HB.out.drew⟩
/-- Files in a slice: each with its number. -/
def FsIn (w : World) (nm : Value → Nat) (fs : List Value) : Prop := ∀ v ∈ fs, ∃ f A n c sure, v = Value.pointer (some ⟨f, 0, none⟩) ∧ FileAt w f (nm v) A n c sure ∧ nm v ≤ 1000000
theorem FsIn.below {w w' : World} {nm : Value → Nat} {fs : List Value} (h : FsIn w nm fs) (hb : Below w.heap.size w w') : FsIn w' nm fs := fun v hv => by
  obtain ⟨f, A, n, c, sure, e, h1, h2⟩ := h v hv
  exact ⟨f, A, n, c, sure, e, h1.same (hb.block f (lt_of_block h1)), h2⟩
def keepV (nm : Value → Nat) (S : List Nat) (v : Value) : Bool := decide (nm v ∈ S)
set_option maxHeartbeats 1600000 in
theorem index_any (w : World) (F : Option Addr) (fn fc : Nat) (fs : List Value) (hL : SLine 1 w F fn fc fs) (hn : fn ≤ 1000000) (nm : Value → Nat) (hfs : FsIn w nm fs) (B M : Nat) (hB : w.cell? ⟨B, 0, none⟩ = some (.map (some M))) (S : List Nat) (hM : NumsAt w M S) :
    Calls Tryz.prog 157 #[.slice F fn fc, .func (.func 137) #[] #[.pointer (some ⟨B, 0, none⟩)]] w fun e w' => (∃ z : Int, e = .returned (.int .i64 z) ∧ ((z = -1 ∧ ∀ v ∈ fs, keepV nm S v = true) ∨ ∃ k : Nat, k < fn ∧ z = (k : Int) ∧ (∀ v ∈ fs.take k, keepV nm S v = true) ∧ ∃ v, fs[k]? = some v ∧ keepV nm S v = false)) ∧ Below w.heap.size w w' := by
  have hlen : fs.length = fn := by have := hL.1; omega
  have HL := Lib.hid hL
  have HF := Lib.hid hfs
  have HB := Lib.hid hB
  have HM := Lib.hid hM
  have HN := Lib.hid hlen
  have hbl := World.block_lt_of_cell? w _ hB
  clear hL hfs hB hM hlen
  go_enter Tryz.func157, Tryz.ntmps157
  go_wp2
  go_loopw [8] (fun i wr => ∃ k : Nat, k ≤ fn ∧ i = .int .i64 k ∧ Hid ((∀ v ∈ fs.take k, keepV nm S v = true) ∧ Below w.heap.size w wr)) (fun i _ => fn - (intOf i).toNat)
  case atStart => exact ⟨0, by omega, rfl, Lib.hid ⟨fun v hv => by simp at hv, Below.refl _ _⟩⟩
  case round =>
    obtain ⟨k, hk, rfl, HI⟩ := hrel
    rcases Nat.lt_or_ge k fn with hkn | hkn
    · have hb := HI.out.2
      obtain ⟨g, off, rfl, hg, hc, _⟩ := (HL.out.below hb).at (by omega)
      obtain ⟨v, hv⟩ : ∃ v, fs[k]? = some v := ⟨_, List.getElem?_eq_getElem (by rw [HN.out]; exact hkn)⟩
      have hck := hc k (by omega)
      rw [hv] at hck
      obtain ⟨f, A, n, c, sure, rfl, hf, hnum⟩ := (HF.out.below hb) v (List.mem_of_getElem? hv)
      obtain ⟨num, hnm⟩ : ∃ num, nm (.pointer (some ⟨f, 0, none⟩)) = num := ⟨_, rfl⟩
      rw [hnm] at hf hnum
      have H1 := Lib.hid (forget1_any wr f num A n c sure hf hnum B M ((hb.cell (p := ⟨B, 0, none⟩) hbl).trans HB.out) S (HM.out.below (hb.block M HM.out.lt)))
      have hkp : keepV nm S (.pointer (some ⟨f, 0, none⟩)) = decide (num ∈ S) := by unfold keepV; rw [hnm]
      have HV := Lib.hid (And.intro hv (And.intro hb hkp))
      obtain ⟨t, ht⟩ : ∃ t, decide (num ∈ S) = t := ⟨_, rfl⟩
      have HT := Lib.hid ht
      rw [ht] at H1
      have hkn' : (k : Int) < (fn : Int) := by omega
      have hk0 : (0 : Int) ≤ (k : Int) := by omega
      clear hc hv hf hnum hnm hb hkp ht hg
      cases t with
      | true =>
        go_wp2_with (go_at_call 137; refine H1.out.mono ?_; rintro e w2 ⟨rfl, hb2⟩; have HB2 : Hid (Below w.heap.size w w2) := Lib.hid (HV.out.2.1.trans (hb2.mono HV.out.2.1.size)); clear hb2)
        go_roundw
        case rel => exact ⟨k + 1, by omega, by go_num, Lib.hid ⟨fun v hv => by
          rw [List.take_add_one, HV.out.1] at hv
          rcases List.mem_append.1 hv with h | h
          · exact HI.out.1 v h
          · simp at h
            subst h
            rw [HV.out.2.2, HT.out], HB2.out⟩⟩
        case measure => simp [intOf]; omega
      | false =>
        go_wp2_with (go_at_call 137; refine H1.out.mono ?_; rintro e w2 ⟨rfl, hb2⟩; have HB2 : Hid (Below w.heap.size w w2) := Lib.hid (HV.out.2.1.trans (hb2.mono HV.out.2.1.size)); clear hb2)
        go_ret
        exact ⟨⟨_, rfl, .inr ⟨k, hkn, rfl, HI.out.1, _, HV.out.1, by rw [HV.out.2.2, HT.out]⟩⟩, HB2.out⟩
    · obtain rfl : k = fn := by omega
      have HE : Hid (∀ v ∈ fs, keepV nm S v = true) := Lib.hid (by
        have := HI.out.1
        rw [List.take_of_length_le (by rw [HN.out]; exact Nat.le_refl _)] at this
        exact this)
      go_wp2
      go_ret
      exact ⟨⟨_, rfl, .inl ⟨rfl, HE.out⟩⟩, HI.out.2⟩
end Go.Proofs.YtkjdjglknbgeaaaGreatDoor
