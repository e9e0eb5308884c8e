/-
  The contract of disk's (*file).lose.
-/
import Derived.Test.YtnjnlcmpfnabiaaDd
namespace Go.Proofs.Ytnjnlcmpfnabiaa
open Go.RowKit
set_option linter.unusedVariables false
set_option maxRecDepth 100000

/-- A file's box. -/
def FileAt (w : World) (f : Nat) (num : Nat) (A : Option Addr) (n c sure : Nat) : Prop := w.heap[f]? = some (.cells #[.int .i64 (num : Int), .slice A n c, .int .i64 (sure : Int)] 88 (0, 0))
section
variable {w w' : World} {f num n c sure : Nat} {A : Option Addr}
theorem FileAt.c0 (h : FileAt w f num A n c sure) : w.cell? ⟨f, 0, none⟩ = some (.int .i64 (num : Int)) := by rw [cell_of_row w f 0 _ _ (0, 0) h]; rfl
theorem FileAt.c1 (h : FileAt w f num A n c sure) : w.cell? ⟨f, 1, none⟩ = some (.slice A n c) := by rw [cell_of_row w f 1 _ _ (0, 0) h]; rfl
theorem FileAt.c2 (h : FileAt w f num A n c sure) : w.cell? ⟨f, 2, none⟩ = some (.int .i64 (sure : Int)) := by rw [cell_of_row w f 2 _ _ (0, 0) h]; rfl
theorem FileAt.free (h : FileAt w f num A n c sure) (i : Nat) : w.frozen? ⟨f, i, none⟩ = false := frozen_of_row w f i _ _ h
theorem FileAt.same (h : FileAt w f num A n c sure) (hb : w'.heap[f]? = w.heap[f]?) : FileAt w' f num A n c sure := hb.trans h
theorem FileAt.setSure (h : FileAt w f num A n c sure) (s : Nat) : FileAt (w.setCell ⟨f, 2, none⟩ (.int .i64 (s : Int))) f num A n c s := by
  unfold FileAt
  rw [heap_setCell_same w f 2 _ _ _ h]
  rfl
theorem FileAt.setData (h : FileAt w f num A n c sure) (A' : Option Addr) (n' c' : Nat) : FileAt (w.setCell ⟨f, 1, none⟩ (.slice A' n' c')) f num A' n' c' sure := by
  unfold FileAt
  rw [heap_setCell_same w f 1 _ _ _ h]
  rfl
theorem FileAt.setNum (h : FileAt w f num A n c sure) (m : Nat) : FileAt (w.setCell ⟨f, 0, none⟩ (.int .i64 (m : Int))) f m A n c sure := by
  unfold FileAt
  rw [heap_setCell_same w f 0 _ _ _ h]
  rfl
end
/-- How many bytes a loss leaves a file. -/
def leftN (n sure : Nat) (others : Int) : Nat := sure + (min (max others 0) ((n : Int) - (sure : Int))).toNat
set_option maxHeartbeats 1600000 in
theorem lose_any (w : World) (f num : Nat) (A : Option Addr) (n c sure : Nat) (xs : List Value) (others : Int) (hF : FileAt w f num A n c sure) (hl : SLine 1 w A n c xs) (hn : n ≤ 10000000) (h1 : ∀ u ∈ xs, u.oneCell' = true) (hs : sure ≤ n) (hf : f ∉ blk A) (hob : others ≤ 9223372036854775807) :
    Calls Try.prog 43 #[.pointer (some ⟨f, 0, none⟩), .int .i64 others] w fun e w' => (∃ v, e = .returned v) ∧ ∃ A' c', FileAt w' f num A' (leftN n sure others) c' (leftN n sure others) ∧ SLine 1 w' A' (leftN n sure others) c' (xs.take (leftN n sure others)) ∧ (∀ k ∈ blk A', w.heap.size ≤ k) ∧ Chg [f] w w' := by
  obtain ⟨s, hse⟩ : ∃ s, leftN n sure others = s := ⟨_, rfl⟩
  have hE : (sure : Int) + min (max others 0) ((n : Int) - (sure : Int)) = (s : Int) := by unfold leftN at hse; omega
  have hsn : s ≤ n := by omega
  rw [hse]
  clear hse
  have hfl := lt_of_block hF
  have c0 := hF.c0
  have c1 := hF.c1
  have c2 := hF.c2
  have f1 := hF.free 1
  have f2 := hF.free 2
  have hnc := hl.2.1
  have hc63 : c ≤ 9223372036854775807 := by have := hl.2.2.1; unfold maxLen at this; omega
  have HE := Lib.hid hE
  have hF2 := hF.setSure s
  have hC2 : Chg [f] w (w.setCell ⟨f, 2, none⟩ (.int .i64 (s : Int))) := (Chg.refl _ w).setCell f 2 _ (.inl (List.mem_cons_self ..))
  obtain ⟨w1, hw1⟩ : ∃ w1, w.setCell ⟨f, 2, none⟩ (.int .i64 (s : Int)) = w1 := ⟨_, rfl⟩
  rw [hw1] at hF2 hC2
  have HF2 := Lib.hid hF2
  have HC2 := Lib.hid hC2
  have HL2 := Lib.hid ((hl.chg hC2 (fun k hk hm => by rw [List.mem_singleton] at hm; subst hm; exact hf hk)).shrink s hsn)
  rw [Nat.mul_one] at HL2
  have HCL := Lib.hid (fun (W : World) (hW : W.heap = w1.heap) => cloneB W A s c (xs.take s) ((HL2.out).same (by rw [hW]; exact Nat.le_refl _) (fun k _ => by rw [hW])) (by omega) (fun u hu => h1 u (List.mem_of_mem_take hu)))
  have HW1 := Lib.hid hw1
  have hsn' : (s : Int) ≤ (n : Int) := by omega
  have hsc : s ≤ c := by omega
  have hsc' : (s : Int) ≤ (c : Int) := by omega
  have hs0 : (0 : Int) ≤ (s : Int) := by omega
  clear hF hF2 hC2 hl h1 hf hw1
  go_enter Try.func43, Try.ntmps43
  go_wp2_with fail
  go_region
  simp only [HW1.out]
  clear hE
  have c0 := HF2.out.c0
  have c1 := HF2.out.c1
  have c2 := HF2.out.c2
  have f1 := HF2.out.free 1
  go_wp2_with fail
  go_region_with (go_at_call 51; refine (HCL.out w1.drew.drew rfl).mono ?_; rintro e w2 ⟨⟨A', c', rfl, hl2, hb2⟩, hB⟩; have hF3 := HF2.out.same (hB.block f (by show f < w1.heap.size; have := HC2.out.size; omega)); have d1 := hF3.c1; have e1 := hF3.free 1)
  all_goals
    have hz : w.heap.size ≤ w1.heap.size := HC2.out.size
    have hfA : ∀ k ∈ blk A', k ≠ f := fun k hk e => by have h5 : w1.heap.size ≤ k := hb2 k hk; omega
    have HX : Hid (FileAt (w2.setCell ⟨f, 1, none⟩ (.slice A' s c')) f num A' s c' s ∧ SLine 1 (w2.setCell ⟨f, 1, none⟩ (.slice A' s c')) A' s c' (xs.take s) ∧ (∀ k ∈ blk A', w.heap.size ≤ k) ∧ Chg [f] w (w2.setCell ⟨f, 1, none⟩ (.slice A' s c'))) :=
      Lib.hid ⟨hF3.setData A' s c', hl2.same (by simp [World.setCell]) (fun k hk => heap_setCell_other w2 ⟨f, 1, none⟩ k _ (hfA k hk)), fun k hk => Nat.le_trans hz (hb2 k hk), ((HC2.out.drew.drew).trans (Chg.of_below hB)).setCell f 1 _ (.inl (List.mem_cons_self ..))⟩
    go_end0
    exact ⟨⟨_, rfl⟩, A', c', HX.out⟩
end Go.Proofs.Ytnjnlcmpfnabiaa
