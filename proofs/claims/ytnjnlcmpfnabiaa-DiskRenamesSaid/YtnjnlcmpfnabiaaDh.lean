/-
  The contract of the disk's turnNames: one change more of the directory.
-/
import Derived.Test.YtnjnlcmpfnabiaaDb
import Derived.Test.YtnjnlcmpfnabiaaDf
namespace Go.Proofs.Ytnjnlcmpfnabiaa
open Go.RowKit
set_option linter.unusedVariables false
set_option maxRecDepth 100000

theorem infoChange : (Try.prog.info? 104).map (fun i => (i.zero, i.size, i.bytes)) = some (some (.slice none 0 0), 1, 24) := by kernel_rfl
/-- A change behind the others: in the line's own block or in a new one. -/
theorem changes_push (w : World) (ty : TypeId) (C : Option Addr) (n c : Nat) (xs : List Value) (h : SLine 1 w C n c xs) (hn : n ≤ 100000) (P : Option Addr) (m mc : Nat) :
    ∃ C' c' w', (Builtin.append_ #[81, 81] ty #[.slice C n c, .slice (some ⟨w.heap.size, 0, none⟩) 1 1]).run Try.prog (w.alloc (.cells #[.slice P m mc] 104)) = .ok (.slice C' (n + 1) c') w' ∧ SLine 1 w' C' (n + 1) c' (xs ++ [.slice P m mc]) ∧ Chg (blk C) w w' ∧ ∀ k ∈ blk C', k ∈ blk C ∨ w.heap.size ≤ k := by
  have hb : Below w.heap.size w (w.alloc (.cells #[.slice P m mc] 104)) := (Below.refl _ w).alloc (Nat.le_refl _) _
  have hs : (w.alloc (.cells #[.slice P m mc] 104)).heap.size = w.heap.size + 1 := by simp
  have hsrc : Src Try.prog 1 81 (.slice (some ⟨w.heap.size, 0, none⟩) 1 1) 1 [.slice P m mc] (w.alloc (.cells #[.slice P m mc] 104)) := Src.ofSlice _ Try.underlying81 ⟨w.heap.size, 0, none⟩ 1 1 [.slice P m mc] rfl (new_one w _ _) (fun u hu => by simp only [List.mem_singleton] at hu; subst hu; rfl)
  obtain ⟨C', c', w', hr, hl, hc, hf, _⟩ := sline_append 1 (w.alloc (.cells #[.slice P m mc] 104)) 81 104 ty _ 24 Try.underlying81 infoChange rfl (by decide) C n c xs (h.below hb) (by omega) _ 1 (by omega) (fun _ => by omega) _ hsrc
  exact ⟨C', c', w', hr, hl, (Chg.of_below hb).trans hc, fun k hk => by
    rcases hf k hk with h1 | h1
    · exact .inl h1
    · exact .inr (by omega)⟩
/-- What turnNames leaves. -/
def Turns (w : World) (d : Nat) (b : DBox) (A C : Option Addr) (cn : Nat) (ps : List (ByteArray × Value)) (css : List Value) (w' : World) : Prop :=
  ∃ A' n' c' C' cc', DBoxAt w' d { b with now := .slice A' n' c', changes := .slice C' (cn + 1) cc' } ∧ RowG encS ltS w' A' n' c' ps ∧ SLine 1 w' C' (cn + 1) cc' css ∧ Chg (d :: (blk A ++ blk C)) w w' ∧
    (∀ k ∈ blk A', k ∈ blk A ∨ w.heap.size ≤ k) ∧ (∀ k ∈ blk C', k ∈ blk C ∨ w.heap.size ≤ k) ∧ ∀ k ∈ blk C', k ∉ blk A'
set_option maxHeartbeats 1600000 in
theorem turnNames_any (w : World) (d : Nat) (b : DBox) (hD : DBoxAt w d b) (A : Option Addr) (n c : Nat) (hnow : b.now = .slice A n c) (ps : List (ByteArray × Value)) (h : RowG encS ltS w A n c ps) (C : Option Addr) (cn cc : Nat) (hchs : b.changes = .slice C cn cc) (css : List Value) (hC : SLine 1 w C cn cc css)
    (P : Option Addr) (m mc : Nat) (chs : List (ByteArray × Value)) (hP : SLine 2 w P m mc (cellsP encS chs)) (hsh : ∀ p ∈ chs, ∃ a : Option Addr, p.2 = .pointer a) (hdA : d ∉ blk A) (hdC : d ∉ blk C) (hdP : d ∉ blk P) (hPA : ∀ k ∈ blk P, k ∉ blk A) (hCA : ∀ k ∈ blk C, k ∉ blk A) (hn : n + m ≤ 100000) (hcn : cn ≤ 100000) :
    Calls Try.prog 48 #[.pointer (some ⟨d, 0, none⟩), .slice P m mc] w fun e w' => (∃ v, e = .returned v) ∧ Turns w d b A C cn (layP ps chs) (css ++ [.slice P m mc]) w' := by
  have HL := Lib.hid (lay_any w d 2 b.cells 83 A n c ps hD (by show some b.now = _; rw [hnow]) hdA h P m mc chs hP hsh hdP hPA hn)
  have hdl := hD.lt
  have hCl : ∀ k ∈ blk C, k < w.heap.size := hC.lt
  have HX := Lib.hid (And.intro hC (And.intro hdC (And.intro hCA hCl)))
  have HDA := Lib.hid hdA
  clear hP hsh hdP hPA hn h hC hdC hCA hCl hdA
  obtain ⟨files, made, now, sure, changes, quota, full, ahead, off, calls⟩ := b
  simp only at hnow hchs
  subst hnow hchs
  clear hD
  go_enter Try.func48, Try.ntmps48
  go_wp2_with fail
  refine HL.out.mono ?_
  rintro e w1 ⟨⟨v, rfl⟩, A1, n1, c1, hb1, hR1, hC1, hF1⟩
  have hD1 : DBoxAt w1 d ⟨files, made, .slice A1 n1 c1, sure, .slice C cn cc, quota, full, ahead, off, calls⟩ := hb1
  have hap1 : ∀ k ∈ blk C, k ∉ d :: blk A := fun k hk hm => by
    rcases List.mem_cons.1 hm with rfl | hm
    · exact HX.out.2.1 hk
    · exact HX.out.2.2.1 k hk hm
  have hL1 : SLine 1 w1 C cn cc css := HX.out.1.chg hC1 hap1
  obtain ⟨C2, c2, w2, hr, hL2, hC2, hF2⟩ := changes_push w1 81 C cn cc css hL1 hcn P m mc
  have hD2 : DBoxAt w2 d ⟨files, made, .slice A1 n1 c1, sure, .slice C cn cc, quota, full, ahead, off, calls⟩ := hD1.chg hC2 HX.out.2.1
  have hz1 := hC1.size
  have hz2 := hC2.size
  have hA1l : ∀ k ∈ blk A1, k < w1.heap.size := hR1.lt'
  have hdA1 : d ∉ blk A1 := fun hm => by rcases hF1 d hm with h1 | h1; exact HDA.out h1; omega
  have hdC2 : d ∉ blk C2 := fun hm => by rcases hF2 d hm with h1 | h1; exact HX.out.2.1 h1; omega
  have hCA1 : ∀ k ∈ blk C, k ∉ blk A1 := fun k hk hm => by
    have := HX.out.2.2.2 k hk
    rcases hF1 k hm with h1 | h1
    · exact HX.out.2.2.1 k hk h1
    · omega
  have hCA2 : ∀ k ∈ blk C2, k ∉ blk A1 := fun k hk hm => by
    rcases hF2 k hk with h1 | h1
    · exact hCA1 k h1 hm
    · have := hA1l k hm; omega
  have hcs : Chg [d] w2 (w2.setCell ⟨d, 4, none⟩ (.slice C2 (cn + 1) c2)) := (Chg.refl _ w2).setCell d 4 _ (.inl (by simp))
  have hfin : Turns w d ⟨files, made, .slice A n c, sure, .slice C cn cc, quota, full, ahead, off, calls⟩ A C cn (layP ps chs) (css ++ [.slice P m mc]) (w2.setCell ⟨d, 4, none⟩ (.slice C2 (cn + 1) c2)) := by
    refine ⟨A1, n1, c1, C2, c2, hD2.set 4 _ _ rfl, (hR1.chg hC2 (fun k hk hm => hCA1 k hm hk)).chg hcs (fun k hk hm => hdA1 (by rw [List.mem_singleton] at hm; rw [← hm]; exact hk)), hL2.chg hcs (fun k hk hm => hdC2 (by rw [List.mem_singleton] at hm; rw [← hm]; exact hk)), ?_, hF1, fun k hk => ?_, hCA2⟩
    · refine (hC1.weaken (fun k hk => .inl ?_)).andThen ((hC2.weaken (l' := d :: (blk A ++ blk C)) (fun k hk => .inl ?_)).andThen hcs (fun k hk => .inl ?_)) (fun k hk => .inl hk)
      · rcases List.mem_cons.1 hk with rfl | hk
        · exact List.mem_cons_self ..
        · exact List.mem_cons_of_mem _ (List.mem_append_left _ hk)
      · exact List.mem_cons_of_mem _ (List.mem_append_right _ hk)
      · rw [List.mem_singleton] at hk
        rw [hk]
        exact List.mem_cons_self ..
    · rcases hF2 k hk with h1 | h1
      · exact .inl h1
      · exact .inr (by omega)
  have y0 := hD1.cell 4 _ rfl
  have y1 := hD2.cell 4 _ rfl
  have y2 := hD2.free 4
  have HFIN := Lib.hid hfin
  have HR := Lib.hid hr
  clear hfin hr hb1 hR1 hC1 hF1 hD1 hap1 hL1 hL2 hC2 hF2 hD2 hz1 hz2 hA1l hdA1 hdC2 hCA1 hCA2 hcs HX HL HDA
  go_wp2_with (at_builtin; refine Lib.wpList_append_run _ rfl _ _ _ _ rfl _ _ rfl rfl _ _ HR.out ?_)
  go_end0
  exact ⟨⟨_, rfl⟩, HFIN.out⟩
end Go.Proofs.Ytnjnlcmpfnabiaa
