/-
  The contract of disk's lay: a change is laid over a directory.
-/
import Derived.Test.YtnjnlcmpfnabiaaRSQ
namespace Go.Proofs.Ytnjnlcmpfnabiaa
open Go.RowKit
set_option linter.unusedVariables false
set_option maxRecDepth 100000

/-- A directory with one pair more laid over it. -/
def layOne (ps : List (ByteArray × Value)) (p : ByteArray × Value) : List (ByteArray × Value) := match p.2 with | .pointer none => dropP ltS ps p.1 | v => putP ltS ps p.1 v
def layP (ps chs : List (ByteArray × Value)) : List (ByteArray × Value) := chs.foldl layOne ps
theorem layP_snoc (ps chs : List (ByteArray × Value)) (p : ByteArray × Value) : layP ps (chs ++ [p]) = layOne (layP ps chs) p := by unfold layP; rw [List.foldl_append]; rfl
theorem putP_length (ps : List (ByteArray × Value)) (hr : Rises ltS ps) (k : ByteArray) (v : Value) : (putP ltS ps k v).length ≤ ps.length + 1 := by
  unfold putP
  rw [List.length_append, List.length_cons]
  have h1 : ∀ l : List (ByteArray × Value), (l.filter (fun p => ltS p.1 k)).length + (l.filter (fun p => ltS k p.1)).length ≤ l.length := by
    intro l
    induction l with
    | nil => simp
    | cons a l ih =>
      simp only [List.filter_cons, List.length_cons]
      cases h2 : ltS a.1 k with
      | true =>
        rw [orders_S.asym h2]
        simp
        omega
      | false =>
        cases h3 : ltS k a.1 <;> simp <;> omega
  have := h1 ps
  omega
theorem dropP_length (ps : List (ByteArray × Value)) (k : ByteArray) : (dropP ltS ps k).length ≤ ps.length := by
  unfold dropP
  rw [List.length_append]
  have h1 : ∀ l : List (ByteArray × Value), (l.filter (fun p => ltS p.1 k)).length + (l.filter (fun p => ltS k p.1)).length ≤ l.length := by
    intro l
    induction l with
    | nil => simp
    | cons a l ih =>
      simp only [List.filter_cons, List.length_cons]
      cases h2 : ltS a.1 k with
      | true =>
        rw [orders_S.asym h2]
        simp
        omega
      | false =>
        cases h3 : ltS k a.1 <;> simp <;> omega
  exact h1 ps
/-- A cell that holds the value already. -/
theorem setCell_id {w : World} {b i : Nat} {cs : Array Value} {T : TypeId} {v : Value} (h : w.heap[b]? = some (.cells cs T (0, 0))) (hv : cs[i]? = some v) : w.setCell ⟨b, i, none⟩ v = w := by
  have e : (w.setCell ⟨b, i, none⟩ v).heap = w.heap := by
    apply Array.ext_getElem?
    intro j
    by_cases hj : j = b
    · subst hj
      rw [heap_setCell_same w j i cs T v h, set_same hv, h]
    · exact heap_setCell_other w ⟨b, i, none⟩ j v hj
  unfold World.setCell at e ⊢
  simp only at e
  rw [e]
/-- One turn behind another. -/
theorem RowTo.next {w w1 w2 : World} {q o : Nat} {cs : Array Value} {T : TypeId} {A A1 : Option Addr} {n1 c1 : Nat} {ps : List (ByteArray × Value)} (hC : Chg (q :: blk A) w w1) (hF : ∀ k ∈ blk A1, k ∈ blk A ∨ w.heap.size ≤ k)
    (h : RowTo encS ltS w1 q o (cs.setIfInBounds o (.slice A1 n1 c1)) T A1 ps w2) : RowTo encS ltS w q o cs T A ps w2 := by
  obtain ⟨A2, n2, c2, hb, hR, hC2, hF2⟩ := h
  refine ⟨A2, n2, c2, ?_, hR, hC.andThen hC2 (fun k hk => ?_), fun k hk => ?_⟩
  · rw [hb]
    congr 2
    apply Array.ext_getElem?
    intro i
    simp only [Array.getElem?_setIfInBounds, Array.size_setIfInBounds]
    split <;> rfl
  · rcases List.mem_cons.1 hk with rfl | hk
    · exact .inl (List.mem_cons_self ..)
    · rcases hF k hk with h1 | h1
      · exact .inl (List.mem_cons_of_mem _ h1)
      · exact .inr h1
  · rcases hF2 k hk with h1 | h1
    · exact hF k h1
    · exact .inr (Nat.le_trans hC.size h1)
set_option maxHeartbeats 3200000 in
theorem lay_any (w : World) (q o : Nat) (cs : Array Value) (T : TypeId) (A : Option Addr) (n c : Nat) (ps : List (ByteArray × Value)) (hb : w.heap[q]? = some (.cells cs T (0, 0))) (hco : cs[o]? = some (.slice A n c)) (hap : q ∉ blk A) (h : RowG encS ltS w A n c ps)
    (P : Option Addr) (m mc : Nat) (chs : List (ByteArray × Value)) (hP : SLine 2 w P m mc (cellsP encS chs)) (hsh : ∀ p ∈ chs, ∃ a : Option Addr, p.2 = .pointer a) (hPq : q ∉ blk P) (hPA : ∀ k ∈ blk P, k ∉ blk A) (hn : n + m ≤ 100000) :
    Calls Try.prog 62 #[.pointer (some ⟨q, o, none⟩), .slice P m mc] w fun e w' => (∃ v, e = .returned v) ∧ RowTo encS ltS w q o cs T A (layP ps chs) w' := by
  have hol : o < cs.size := (Array.getElem?_eq_some_iff.1 hco).1
  have hql := lt_of_block hb
  have hcl : chs.length = m := by have := hP.1; rw [cellsP_length] at this; omega
  have hT0 : RowTo encS ltS w q o cs T A ps w := ⟨A, n, c, by rw [set_same hco]; exact hb, h, Chg.refl _ _, fun k hk => .inl hk⟩
  have hpl := h.len
  have HT0 := Lib.hid hT0
  have HP := Lib.hid hP
  have HSH := Lib.hid hsh
  have HPQ := Lib.hid hPq
  have HPA := Lib.hid hPA
  have HPL : Hid (∀ k ∈ blk P, k < w.heap.size) := Lib.hid hP.lt
  have HAP := Lib.hid hap
  have HAL : Hid (∀ k ∈ blk A, k < w.heap.size) := Lib.hid h.lt'
  have HR0 := Lib.hid h.rises
  have HCL := Lib.hid hcl
  have HOL := Lib.hid hol
  clear hb hco hap h hP hsh hPq hPA hcl hT0 hol
  go_enter Try.func62, Try.ntmps62
  go_wp2
  go_loopw [8] (fun i wr => ∃ k : Nat, k ≤ m ∧ i = .int .i64 k ∧ Hid (RowTo encS ltS w q o cs T A (layP ps (chs.take k)) wr ∧ Rises ltS (layP ps (chs.take k)) ∧ (layP ps (chs.take k)).length ≤ n + k)) (fun i _ => m - (intOf i).toNat)
  case atStart => exact ⟨0, by omega, rfl, Lib.hid ⟨HT0.out, HR0.out, by simp only [List.take_zero]; unfold layP; simp only [List.foldl_nil]; omega⟩⟩
  case round =>
    obtain ⟨k, hk, rfl, HI⟩ := hrel
    rcases Nat.lt_or_ge k m with hkm | hkm
    · obtain ⟨hT, hrise, hlen⟩ := HI.out
      obtain ⟨A1, n1, c1, hb1, hR1, hC1, hF1⟩ := hT
      have hn1 : n1 ≤ 100000 := by have := hR1.len; omega
      obtain ⟨p, hp⟩ : ∃ p, chs[k]? = some p := ⟨_, List.getElem?_eq_getElem (by rw [HCL.out]; exact hkm)⟩
      obtain ⟨a, ha⟩ := HSH.out p (List.mem_of_getElem? hp)
      obtain ⟨nm, v⟩ := p
      simp only at ha
      subst ha
      have hPr : SLine 2 wr P m mc (cellsP encS chs) := HP.out.chg hC1 (fun j hj hm => by
        rcases List.mem_cons.1 hm with rfl | hm
        · exact HPQ.out hj
        · exact HPA.out j hj hm)
      obtain ⟨g, off, rfl, hg, hcs, _⟩ := hPr.at (by omega)
      obtain ⟨x1, x2⟩ := cellsP_at encS chs k _ hp
      have d0 : wr.cell? ⟨g, off + k * 2, none⟩ = some (.string nm) := (hcs (k * 2) (by omega)).trans x1
      have d1 : wr.cell? ⟨g, off + k * 2 + 1, none⟩ = some (.pointer a) := by rw [Nat.add_assoc]; exact (hcs (k * 2 + 1) (by omega)).trans x2
      have HTK : Hid (chs.take (k + 1) = chs.take k ++ [(nm, .pointer a)]) := Lib.hid (by rw [List.take_add_one, hp]; rfl)
      -- the pair's own variable
      obtain ⟨Wa, hWa⟩ : ∃ Wa, wr.alloc (.cells #[.string nm, .pointer a] 94) = Wa := ⟨_, rfl⟩
      have hbW : Below wr.heap.size wr Wa := by rw [← hWa]; exact (Below.refl _ wr).alloc (Nat.le_refl _) _
      have hva : Wa.heap[wr.heap.size]? = some (.cells #[.string nm, .pointer a] 94 (0, 0)) := by rw [← hWa]; exact heap_alloc_new wr _
      obtain ⟨va, hvae⟩ : ∃ va, wr.heap.size = va := ⟨_, rfl⟩
      rw [hvae] at hva
      have e0 : Wa.cell? ⟨va, 0, none⟩ = some (.string nm) := by rw [cell_of_row _ va 0 _ _ (0, 0) hva]; rfl
      have e1 : Wa.cell? ⟨va, 1, none⟩ = some (.pointer a) := by rw [cell_of_row _ va 1 _ _ (0, 0) hva]; rfl
      have HVA := Lib.hid hva
      have hq1 : q < wr.heap.size := Nat.lt_of_lt_of_le hql hC1.size
      have hbq : Wa.heap[q]? = some (.cells (cs.setIfInBounds o (.slice A1 n1 c1)) T (0, 0)) := (hbW.block q hq1).trans hb1
      have hco1 : (cs.setIfInBounds o (.slice A1 n1 c1))[o]? = some (.slice A1 n1 c1) := by simp [HOL.out]
      have hap1 : q ∉ blk A1 := fun hm => by rcases hF1 q hm with h1 | h1; exact HAP.out h1; omega
      have HC2 := Lib.hid (hC1.trans (Chg.of_below (l := q :: blk A) hbW))
      have HF1 := Lib.hid hF1
      have HRISE := Lib.hid hrise
      have HLEN := Lib.hid hlen
      have HPUT := Lib.hid (rput_S Wa q o _ T A1 n1 c1 _ hbq hco1 hap1 (hR1.below hbW) nm a hn1)
      have HDROP := Lib.hid (rdrop_S Wa q o _ T A1 n1 c1 _ hbq hco1 hap1 (hR1.below hbW) nm hn1)
      have hkm' : (k : Int) < (m : Int) := by omega
      clear hb1 hR1 hC1 hF1 hp hPr hcs x1 x2 hva hbq hco1 hap1 hrise hlen HI hbW
      cases a with
      | none =>
        have HL : Hid (layP ps (chs.take (k + 1)) = dropP ltS (layP ps (chs.take k)) nm) := Lib.hid (by rw [HTK.out, layP_snoc]; rfl)
        have hid : Wa.setCell ⟨va, 1, none⟩ (.pointer none) = Wa := setCell_id HVA.out rfl
        have x0 : Wa.frozen? ⟨va, 0, none⟩ = false := frozen_of_row Wa va 0 _ _ HVA.out
        have x1 : Wa.frozen? ⟨va, 1, none⟩ = false := frozen_of_row Wa va 1 _ _ HVA.out
        clear HPUT
        go_wp2_with (go_at_call 71; refine HDROP.out.mono ?_; rintro e w2 ⟨rfl, hT2⟩; have HT2 := Lib.hid (RowTo.next HC2.out HF1.out hT2); clear hT2)
        go_roundw
        case rel => exact ⟨k + 1, by omega, by go_num, Lib.hid (by rw [HL.out]; exact ⟨HT2.out, rises_drop orders_S HRISE.out, by have := dropP_length (layP ps (chs.take k)) nm; have := HLEN.out; omega⟩)⟩
        case measure => simp [intOf]; omega
      | some a =>
        have HL : Hid (layP ps (chs.take (k + 1)) = putP ltS (layP ps (chs.take k)) nm (.pointer (some a))) := Lib.hid (by rw [HTK.out, layP_snoc]; rfl)
        clear HDROP
        go_wp2_with (go_at_call 68; refine HPUT.out.mono ?_; rintro e w2 ⟨rfl, hT2⟩; have HT2 := Lib.hid (RowTo.next HC2.out HF1.out hT2); clear hT2)
        go_roundw
        case rel => exact ⟨k + 1, by omega, by go_num, Lib.hid (by rw [HL.out]; exact ⟨HT2.out, rises_put orders_S HRISE.out _, by have := putP_length (layP ps (chs.take k)) HRISE.out nm (.pointer (some a)); have := HLEN.out; omega⟩)⟩
        case measure => simp [intOf]; omega
    · obtain rfl : k = m := by omega
      have HX : Hid (RowTo encS ltS w q o cs T A (layP ps chs) wr) := Lib.hid (by
        have h1 := HI.out.1
        rw [List.take_of_length_le (by rw [HCL.out]; exact Nat.le_refl _)] at h1
        exact h1)
      clear HI
      go_wp2
      go_end0
      exact ⟨⟨_, rfl⟩, HX.out⟩
end Go.Proofs.Ytnjnlcmpfnabiaa
