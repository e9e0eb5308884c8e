/-
  Contracts of sets.Row[string,*brazier/disk.file]: Put and Drop, wherever the row lies.
-/
import Derived.Test.YtnjnlcmpfnabiaaRSP
namespace Go.Proofs.Ytnjnlcmpfnabiaa
open Go.RowKit
set_option linter.unusedVariables false

set_option maxHeartbeats 1600000 in
set_option maxRecDepth 100000 in
theorem rput_old_S (w : World) (q o : Nat) (cs : Array Value) (T : TypeId) (A : Option Addr) (n c : Nat) (ps : List (ByteArray × Value)) (hb : w.heap[q]? = some (.cells cs T (0, 0))) (hco : cs[o]? = some (.slice A n c)) (hap : q ∉ blk A) (h : RowG encS ltS w A n c ps) (k : ByteArray) (p : Option Addr) (hn : n ≤ 100000) (hin : hasP ltS ps k = true) :
    Calls Try.prog 68 #[.pointer (some ⟨q, o, none⟩), .string k, (.pointer p)] w fun e w' => e = .returned (.bool false) ∧ RowTo encS ltS w q o cs T A (putP ltS ps k (.pointer p)) w' := by
  have hcell : w.cell? ⟨q, o, none⟩ = some (.slice A n c) := by rw [cell_of_row w q o _ _ (0, 0) hb]; exact hco
  have hq := lt_of_block hb
  have HF := Lib.hid (rfind_S w q o A n c ps ⟨hcell, h⟩ k (by omega))
  have HG := Lib.hid h
  have HBL := Lib.hid hb
  have HCO := Lib.hid hco
  have HIN := Lib.hid hin
  clear h hb hco hin
  go_enter Try.func68, Try.ntmps68
  go_wp2_with fail
  refine HF.out.mono ?_
  rintro e w1 ⟨⟨i, hs, rfl⟩, hbl⟩
  rcases any_there orders_S hs with ⟨ht, u, hu⟩ | ⟨ht, hn'⟩
  · have HG1 := Lib.hid (HG.out.below hbl)
    have hil := (List.getElem?_eq_some_iff.1 hu).1
    have hl := HG.out.len
    obtain ⟨g, off, rfl, hg, hcs, hfr⟩ := HG1.out.at (by omega)
    have hc1 := (hbl.cell (p := ⟨q, o, none⟩) hq).trans hcell
    have hnc := HG.out.line.2.1
    have hc63 : c ≤ 9223372036854775807 := by have := HG.out.line.2.2.1; unfold maxLen at this; omega
    have hcv := (hcs i _ hu).2
    have hfv := (hfr (i * 2 + 1) (by omega)).2
    rw [← Nat.add_assoc] at hfv
    simp only at hcv
    rw [ht]
    have hin : i < n := by omega
    have HS := Lib.hid hs
    have HU := Lib.hid hu
    have HB := Lib.hid hbl
    have HAP := Lib.hid hap
    clear hs hu hbl hcs hfr ht hl hil hap
    go_wp2
    go_ret
    refine ⟨rfl, some ⟨g, off, none⟩, n, c, ?_, ?_, ?_, fun k hk => .inl hk⟩
    · rw [set_same HCO.out]
      exact ((heap_setCell_other _ ⟨g, off + i * 2 + 1, none⟩ q _ (fun e => HAP.out (mem_blk.2 ⟨_, rfl, e.symm⟩))).trans (HB.out.block q hq)).trans HBL.out
    · have hset := HG1.out.line.set (i * 2 + 1) [(.pointer p)] (by simp; omega)
      rw [setCells_one, ← Nat.add_assoc] at hset
      rw [HS.out.put_old orders_S HG.out.rises HU.out (.pointer p)]
      refine ⟨by rw [cellsP_set encS ps i k u (.pointer p) HU.out]; exact hset, ?_, ?_⟩
      · rw [← HS.out.put_old orders_S HG.out.rises HU.out (.pointer p)]
        exact rises_put orders_S HG.out.rises (.pointer p)
      · intro p hp
        rcases List.mem_or_eq_of_mem_set hp with h1 | h1
        · exact HG.out.one p h1
        · rw [h1]; rfl
    · exact ((Chg.of_below HB.out).setCell g _ _ (.inl (List.mem_cons_of_mem _ (mem_blk.2 ⟨_, rfl, rfl⟩))))
  · have := hs.look_new orders_S HG.out.rises hn'
    have h1 := HIN.out
    unfold hasP at h1
    rw [this] at h1
    cases h1
set_option maxHeartbeats 1600000 in
set_option maxRecDepth 100000 in
theorem rput_new_S (w : World) (q o : Nat) (cs : Array Value) (T : TypeId) (A : Option Addr) (n c : Nat) (ps : List (ByteArray × Value)) (hb : w.heap[q]? = some (.cells cs T (0, 0))) (hco : cs[o]? = some (.slice A n c)) (hap : q ∉ blk A) (h : RowG encS ltS w A n c ps) (k : ByteArray) (p : Option Addr) (hn : n ≤ 100000) (hno : hasP ltS ps k = false) :
    Calls Try.prog 68 #[.pointer (some ⟨q, o, none⟩), .string k, (.pointer p)] w fun e w' => e = .returned (.bool true) ∧ RowTo encS ltS w q o cs T A (putP ltS ps k (.pointer p)) w' := by
  have hcell : w.cell? ⟨q, o, none⟩ = some (.slice A n c) := by rw [cell_of_row w q o _ _ (0, 0) hb]; exact hco
  have hq := lt_of_block hb
  have HF := Lib.hid (rfind_S w q o A n c ps ⟨hcell, h⟩ k (by omega))
  have HG := Lib.hid h
  have HBL := Lib.hid hb
  have HNO := Lib.hid hno
  clear h hb hco hno
  go_enter Try.func68, Try.ntmps68
  go_wp2_with fail
  refine HF.out.mono ?_
  rintro e w1 ⟨⟨i, hs, rfl⟩, hbl⟩
  rcases any_there orders_S hs with ⟨ht, u, hu⟩ | ⟨ht, hn'⟩
  · have := hs.look_old orders_S hu
    have h1 := HNO.out
    unfold hasP at h1
    rw [this] at h1
    cases h1
  · have hl := HG.out.len
    have hG1 := HG.out.below hbl
    have hc1 := (hbl.cell (p := ⟨q, o, none⟩) hq).trans hcell
    have hbl2 := (hbl.block q hq).trans HBL.out
    have hin : i ≤ n := by have := hs.1; omega
    have hA : w1.heap.size ∉ blk A := fun hm => by have := hG1.lt' _ hm; omega
    obtain ⟨W, hW⟩ : ∃ W, w1.alloc (.cells #[.string k, (.pointer p)] 123) = W := ⟨_, rfl⟩
    have hBW : Below w1.heap.size w1 W := by rw [← hW]; exact (Below.refl _ w1).alloc (Nat.le_refl _) _
    have hOne : OneS W w1.heap.size (.string k) (.pointer p) := ⟨by rw [← hW]; exact heap_alloc_new w1 _, rfl, rfl⟩
    have HINS := Lib.hid (insert_S W A n c _ (hG1.line.below hBW) hn i hin (cellsP_one encS one_encS ps HG.out.one) w1.heap.size _ _ hOne hA)
    have HPOST : Hid (∀ e w2, InsToS W A n ((cellsP encS ps).take (i * 2) ++ [.string k, (.pointer p)] ++ (cellsP encS ps).drop (i * 2)) e w2 → ∃ A' c', e = .returned (.slice A' (n + 1) c') ∧ w2.cell? ⟨q, o, none⟩ = some (.slice A n c) ∧ w2.frozen? ⟨q, o, none⟩ = false ∧ RowTo encS ltS w q o cs T A (putP ltS ps k (.pointer p)) (w2.setCell ⟨q, o, none⟩ (.slice A' (n + 1) c'))) := Lib.hid (by
      rintro e w2 ⟨A', c', rfl, hl2, hc2, hf2⟩
      have hqW : q < W.heap.size := Nat.lt_of_lt_of_le (Nat.lt_of_lt_of_le hq hbl.size) hBW.size
      have hqb : w2.heap[q]? = some (.cells cs T (0, 0)) := ((hc2.same q hqW hap).trans (hBW.block q (Nat.lt_of_lt_of_le hq hbl.size))).trans hbl2
      have hap' : q ∉ blk A' := fun hm => by rcases hf2 q hm with h1 | h1; exact hap h1; omega
      refine ⟨A', c', rfl, ?_, frozen_of_row w2 q o _ _ hqb, A', n + 1, c', heap_setCell_same w2 q o cs T _ hqb, ?_, ?_, fun j hj => ?_⟩
      · rw [cell_of_row w2 q o _ _ (0, 0) hqb, ← cell_of_row w1 q o _ _ (0, 0) hbl2]
        exact hc1
      · refine ⟨?_, rises_put orders_S HG.out.rises (.pointer p), fun p hp => ?_⟩
        · have := hl2.same (w' := w2.setCell ⟨q, o, none⟩ (.slice A' (n + 1) c')) (by simp [World.setCell]) (fun j hj => heap_setCell_other w2 ⟨q, o, none⟩ j _ (fun e => hap' (by have e' : j = q := e; rw [← e']; exact hj)))
          rw [hs.put_new orders_S HG.out.rises hn' (.pointer p), cellsP_append, (cellsP_split encS ps i (by omega)).1]
          have e1 : cellsP encS ((k, (.pointer p)) :: ps.drop i) = [.string k, (.pointer p)] ++ (cellsP encS ps).drop (i * 2) := by
            rw [← (cellsP_split encS ps i (by omega)).2]
            rfl
          rw [e1, ← List.append_assoc]
          exact this
        · rcases (mem_putP orders_S).1 hp with rfl | ⟨h1, _⟩
          · rfl
          · exact HG.out.one p h1
      · exact (((Chg.of_below hbl).trans (Chg.of_below (hBW))).trans (hc2.weaken (fun j hj => .inl (List.mem_cons_of_mem _ hj)))).setCell q o _ (.inl (List.mem_cons_self ..))
      · rcases hf2 j hj with h1 | h1
        · exact .inl h1
        · exact .inr (Nat.le_trans hbl.size (Nat.le_trans hBW.size h1)))
    rw [ht]
    clear hs hbl hbl2 ht hn' hBW hOne hG1 hap hA hl
    go_wp2_with fail
    refine HINS.out.mono ?_
    intro e w2 hi2
    obtain ⟨A', c', rfl, hcq, hfq, hT⟩ := HPOST.out e w2 hi2
    have HT := Lib.hid hT
    clear hi2 hT HINS HPOST
    go_wp2
    go_ret
    exact ⟨rfl, HT.out⟩
theorem rput_S (w : World) (q o : Nat) (cs : Array Value) (T : TypeId) (A : Option Addr) (n c : Nat) (ps : List (ByteArray × Value)) (hb : w.heap[q]? = some (.cells cs T (0, 0))) (hco : cs[o]? = some (.slice A n c)) (hap : q ∉ blk A) (h : RowG encS ltS w A n c ps) (k : ByteArray) (p : Option Addr) (hn : n ≤ 100000) :
    Calls Try.prog 68 #[.pointer (some ⟨q, o, none⟩), .string k, (.pointer p)] w fun e w' => e = .returned (.bool (!hasP ltS ps k)) ∧ RowTo encS ltS w q o cs T A (putP ltS ps k (.pointer p)) w' := by
  cases e : hasP ltS ps k with
  | true => exact rput_old_S w q o cs T A n c ps hb hco hap h k p hn e
  | false => exact rput_new_S w q o cs T A n c ps hb hco hap h k p hn e
set_option maxHeartbeats 1600000 in
set_option maxRecDepth 100000 in
theorem rdrop_S (w : World) (q o : Nat) (cs : Array Value) (T : TypeId) (A : Option Addr) (n c : Nat) (ps : List (ByteArray × Value)) (hb : w.heap[q]? = some (.cells cs T (0, 0))) (hco : cs[o]? = some (.slice A n c)) (hap : q ∉ blk A) (h : RowG encS ltS w A n c ps) (k : ByteArray) (hn : n ≤ 100000) :
    Calls Try.prog 71 #[.pointer (some ⟨q, o, none⟩), .string k] w fun e w' => e = .returned (.bool (hasP ltS ps k)) ∧ RowTo encS ltS w q o cs T A (dropP ltS ps k) w' := by
  have hcell : w.cell? ⟨q, o, none⟩ = some (.slice A n c) := by rw [cell_of_row w q o _ _ (0, 0) hb]; exact hco
  have hq := lt_of_block hb
  have HF := Lib.hid (rfind_S w q o A n c ps ⟨hcell, h⟩ k (by omega))
  have HG := Lib.hid h
  have HBL := Lib.hid hb
  have HCO := Lib.hid hco
  clear h hb hco
  go_enter Try.func71, Try.ntmps71
  go_wp2_with fail
  refine HF.out.mono ?_
  rintro e w1 ⟨⟨i, hs, rfl⟩, hbl⟩
  have hl := HG.out.len
  have hG1 := HG.out.below hbl
  have hc1 := (hbl.cell (p := ⟨q, o, none⟩) hq).trans hcell
  have hbl2 := (hbl.block q hq).trans HBL.out
  rcases any_there orders_S hs with ⟨ht, u, hu⟩ | ⟨ht, hn'⟩
  · have hil := (List.getElem?_eq_some_iff.1 hu).1
    obtain ⟨g, off, rfl, hg, hcs, hfr⟩ := hG1.at (by omega)
    have HDEL := Lib.hid (delete_S w1 g off n c _ hG1.line (by omega) i (by omega) (cellsP_one encS one_encS ps HG.out.one))
    have HPOST : Hid (∀ w2, SLine 2 w2 (some ⟨g, off, none⟩) (n - 1) c ((cellsP encS ps).take (i * 2) ++ (cellsP encS ps).drop (i * 2 + 2)) → Chg [g] w1 w2 → w2.cell? ⟨q, o, none⟩ = some (.slice (some ⟨g, off, none⟩) n c) ∧ w2.frozen? ⟨q, o, none⟩ = false ∧ RowTo encS ltS w q o cs T (some ⟨g, off, none⟩) (dropP ltS ps k) (w2.setCell ⟨q, o, none⟩ (.slice (some ⟨g, off, none⟩) (n - 1) c))) := Lib.hid (by
      intro w2 hl2 hc2
      have hqg : q ≠ g := fun e => hap (mem_blk.2 ⟨_, rfl, e.symm⟩)
      have hqb : w2.heap[q]? = some (.cells cs T (0, 0)) := (hc2.same q (Nat.lt_of_lt_of_le hq hbl.size) (by simp [hqg])).trans hbl2
      refine ⟨?_, frozen_of_row w2 q o _ _ hqb, _, n - 1, c, heap_setCell_same w2 q o cs T _ hqb, ?_, ?_, fun j hj => .inl hj⟩
      · rw [cell_of_row w2 q o _ _ (0, 0) hqb, ← cell_of_row w1 q o _ _ (0, 0) hbl2]
        exact hc1
      · refine ⟨?_, rises_drop orders_S HG.out.rises, fun p hp => HG.out.one p ((mem_dropP orders_S).1 hp).1⟩
        have := hl2.same (w' := w2.setCell ⟨q, o, none⟩ (.slice (some ⟨g, off, none⟩) (n - 1) c)) (by simp [World.setCell]) (fun j hj => heap_setCell_other w2 ⟨q, o, none⟩ j _ (fun e => hap (by have e' : j = q := e; rw [← e']; exact hj)))
        rw [hs.drop_old orders_S HG.out.rises hu, cellsP_append, (cellsP_split encS ps i (by omega)).1, (cellsP_split encS ps (i + 1) (by omega)).2, show (i + 1) * 2 = i * 2 + 2 from by omega]
        exact this
      · exact ((Chg.of_below hbl).trans (hc2.weaken (fun j hj => .inl (by simp only [List.mem_singleton] at hj; subst hj; exact List.mem_cons_of_mem _ (mem_blk.2 ⟨_, rfl, rfl⟩))))).setCell q o _ (.inl (List.mem_cons_self ..)))
    have hhas : hasP ltS ps k = true := by unfold hasP; rw [hs.look_old orders_S hu]; rfl
    rw [ht]
    have HHAS := Lib.hid hhas
    have hin : i < n := by omega
    clear hs hbl hbl2 ht hG1 hap hl hcs hfr hil hu hhas
    go_wp2_with fail
    refine HDEL.out.mono ?_
    rintro e w2 ⟨rfl, hl2, hc2⟩
    obtain ⟨hcq, hfq, hT⟩ := HPOST.out w2 hl2 hc2
    have HT := Lib.hid hT
    clear hl2 hc2 hT HDEL HPOST
    go_wp2
    go_ret
    exact ⟨ret_bool HHAS.out.symm, HT.out⟩
  · have hhas : hasP ltS ps k = false := by unfold hasP; rw [hs.look_new orders_S HG.out.rises hn']; rfl
    have hT : RowTo encS ltS w q o cs T A (dropP ltS ps k) w1 := by
      refine ⟨A, n, c, ?_, by rw [hs.drop_new orders_S HG.out.rises hn']; exact hG1, Chg.of_below hbl, fun j hj => .inl hj⟩
      rw [hbl2, set_same HCO.out]
    rw [ht]
    have HHAS := Lib.hid hhas
    have HT := Lib.hid hT
    clear hs hbl hbl2 ht hG1 hap hl hn' hhas hT
    go_wp2
    go_ret
    exact ⟨ret_bool HHAS.out.symm, HT.out⟩

end Go.Proofs.Ytnjnlcmpfnabiaa
