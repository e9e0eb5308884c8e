/-
  Contracts of layer 7's reader: open, rest, read, pass, At.
-/
import Derived.Test.YtcanjkjpdnbcnaaZan
import Derived.Test.YtcanjkjpdnbcnaaZag
import Derived.Deep.LoopGhost
namespace Go.Proofs.Ytcanjkjpdnbcnaa
open Go.RowKit
set_option linter.unusedVariables false

/-- Block b is a reader of s, k bytes of which were read. -/
structure IsRd (w : World) (b : Nat) (s : ByteArray) (k : Nat) : Prop where
  lt : b < w.heap.size
  le : k ≤ s.size
  off : w.cell? ⟨b, 0, none⟩ = some (.int .i64 (k : Int))
  line : w.cell? ⟨b, 1, none⟩ = some (.int .i64 (lineOf (s.data.toList.take k) : Int))
  col : w.cell? ⟨b, 2, none⟩ = some (.int .i64 (colOf (s.data.toList.take k) : Int))
  txt : w.cell? ⟨b, 3, none⟩ = some (.string s)
  f0 : w.frozen? ⟨b, 0, none⟩ = false
  f1 : w.frozen? ⟨b, 1, none⟩ = false
  f2 : w.frozen? ⟨b, 2, none⟩ = false
theorem IsRd.drew {w : World} {b : Nat} {s : ByteArray} {k : Nat} (h : IsRd w b s k) : IsRd w.drew b s k := ⟨h.lt, h.le, h.off, h.line, h.col, h.txt, h.f0, h.f1, h.f2⟩
theorem IsRd.same {w w' : World} {b : Nat} {s : ByteArray} {k : Nat} (h : IsRd w b s k) (hz : w.heap.size ≤ w'.heap.size) (hb : w'.heap[b]? = w.heap[b]?) : IsRd w' b s k := by
  have hc : ∀ o, w'.cell? ⟨b, o, none⟩ = w.cell? ⟨b, o, none⟩ := fun o => World.cell?_of_block (w := w) (a := ⟨b, o, none⟩) hb
  have hf : ∀ o, w'.frozen? ⟨b, o, none⟩ = w.frozen? ⟨b, o, none⟩ := fun o => World.frozen?_of_block (w := w) (a := ⟨b, o, none⟩) hb
  exact ⟨Nat.lt_of_lt_of_le h.lt hz, h.le, (hc 0).trans h.off, (hc 1).trans h.line, (hc 2).trans h.col, (hc 3).trans h.txt, (hf 0).trans h.f0, (hf 1).trans h.f1, (hf 2).trans h.f2⟩
theorem IsRd.below {w w' : World} {b : Nat} {s : ByteArray} {k : Nat} (h : IsRd w b s k) (hb : Below w.heap.size w w') : IsRd w' b s k := h.same hb.size (hb.block b h.lt)
theorem IsRd.chg {w w' : World} {b : Nat} {s : ByteArray} {k : Nat} {l : List Nat} (h : IsRd w b s k) (hc : Chg l w w') (hl : b ∉ l) : IsRd w' b s k := h.same hc.size (hc.same b h.lt hl)
theorem IsRd.mk' {w : World} {b : Nat} {s : ByteArray} {k j : Nat} (h : IsRd w b s k) (e : k = j) : IsRd w b s j := by subst e; exact h
theorem cell_here {w : World} {b o : Nat} {u : Value} (v : Value) (h : w.cell? ⟨b, o, none⟩ = some u) : (w.setCell ⟨b, o, none⟩ v).cell? ⟨b, o, none⟩ = some v := World.cell?_setCell_same _ _ _ h
theorem IsRd.line_end {w : World} {b : Nat} {s : ByteArray} {k : Nat} (h : IsRd w b s k) (hk : k < s.size) (h10 : s[k].toNat = 10) {L K : Int} (hL : L = (lineOf (s.data.toList.take k) : Int) + 1) (hK : K = (k : Int) + 1) :
    IsRd (((w.setCell ⟨b, 1, none⟩ (.int .i64 L)).setCell ⟨b, 2, none⟩ (.int .i64 1)).setCell ⟨b, 0, none⟩ (.int .i64 K)) b s (k + 1) := by
  have e1 : lineOf (s.data.toList.take (k + 1)) = lineOf (s.data.toList.take k) + 1 := by rw [ba_takeS s k hk, lineOf_snoc, if_pos h10]
  have e2 : colOf (s.data.toList.take (k + 1)) = 1 := by rw [ba_takeS s k hk, colOf_snoc, if_pos h10]
  obtain ⟨lt, le, off, line, col, txt, f0, f1, f2⟩ := h
  subst hL hK
  refine ⟨by simpa using lt, by omega, ?_, ?_, ?_, ?_, ?_, ?_, ?_⟩
  · rw [cell_here (u := .int .i64 (k : Int)) _ (by rw [cell_beside _ _ _ _ _ (by decide), cell_beside _ _ _ _ _ (by decide)]; exact off)]; congr 2
  · rw [cell_beside _ _ _ _ _ (by decide), cell_beside _ _ _ _ _ (by decide), cell_here _ line, e1]; congr 2
  · rw [cell_beside _ _ _ _ _ (by decide), cell_here (u := .int .i64 (colOf (s.data.toList.take k) : Int)) _ (by rw [cell_beside _ _ _ _ _ (by decide)]; exact col), e2]; rfl
  · rw [cell_beside _ _ _ _ _ (by decide), cell_beside _ _ _ _ _ (by decide), cell_beside _ _ _ _ _ (by decide)]; exact txt
  · simpa [go_sem] using f0
  · simpa [go_sem] using f1
  · simpa [go_sem] using f2
theorem IsRd.line_on {w : World} {b : Nat} {s : ByteArray} {k : Nat} (h : IsRd w b s k) (hk : k < s.size) (h10 : ¬ s[k].toNat = 10) {L K : Int} (hL : L = (colOf (s.data.toList.take k) : Int) + 1) (hK : K = (k : Int) + 1) :
    IsRd ((w.setCell ⟨b, 2, none⟩ (.int .i64 L)).setCell ⟨b, 0, none⟩ (.int .i64 K)) b s (k + 1) := by
  have e1 : lineOf (s.data.toList.take (k + 1)) = lineOf (s.data.toList.take k) := by rw [ba_takeS s k hk, lineOf_snoc, if_neg h10]
  have e2 : colOf (s.data.toList.take (k + 1)) = colOf (s.data.toList.take k) + 1 := by rw [ba_takeS s k hk, colOf_snoc, if_neg h10]
  obtain ⟨lt, le, off, line, col, txt, f0, f1, f2⟩ := h
  subst hL hK
  refine ⟨by simpa using lt, by omega, ?_, ?_, ?_, ?_, ?_, ?_, ?_⟩
  · rw [cell_here (u := .int .i64 (k : Int)) _ (by rw [cell_beside _ _ _ _ _ (by decide)]; exact off)]; congr 2
  · rw [cell_beside _ _ _ _ _ (by decide), cell_beside _ _ _ _ _ (by decide), e1]; exact line
  · rw [cell_beside _ _ _ _ _ (by decide), cell_here _ col, e2]; congr 2
  · rw [cell_beside _ _ _ _ _ (by decide), cell_beside _ _ _ _ _ (by decide)]; exact txt
  · simpa [go_sem] using f0
  · simpa [go_sem] using f1
  · simpa [go_sem] using f2
theorem chg_env {w0 w w' : World} {b : Nat} (hB : Below w0.heap.size w0 w) (hb : w0.heap.size ≤ b) (hc : Chg [b] w w') : Below w0.heap.size w0 w' :=
  hB.trans (hc.toBelow (fun k hk => by simp only [List.mem_singleton] at hk; subst hk; exact hb) hB.size)
theorem skip_done (l : List UInt8) (k q : Nat) (hI : skipN (l.drop k) = (q - k + (skipN (l.drop q)).1, (skipN (l.drop q)).2)) (hk : k ≤ q) (hG : (gapN (l.drop q)).1 = 0 ∨ (gapN (l.drop q)).2 = false) : q + (gapN (l.drop q)).1 = k + (skipN (l.drop k)).1 ∧ (gapN (l.drop q)).2 = (skipN (l.drop k)).2 := by
  rw [hI, skipN_stop _ hG]
  exact ⟨by show _ = k + (q - k + _); omega, rfl⟩
theorem skip_on (l : List UInt8) (k q : Nat) (hI : skipN (l.drop k) = (q - k + (skipN (l.drop q)).1, (skipN (l.drop q)).2)) (hk : k ≤ q) (h0 : (gapN (l.drop q)).1 ≠ 0) (h1 : (gapN (l.drop q)).2 = true) : skipN (l.drop k) = (q + (gapN (l.drop q)).1 - k + (skipN (l.drop (q + (gapN (l.drop q)).1))).1, (skipN (l.drop (q + (gapN (l.drop q)).1))).2) := by
  rw [hI, skipN_go _ h0 h1, List.drop_drop]
  congr 1
  show _ + (_ + _) = _
  omega
end Go.Proofs.Ytcanjkjpdnbcnaa
