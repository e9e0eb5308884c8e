/-
  Tokens in memory: a line of six cells each; one more token behind them.
-/
import Derived.Test.YtkpgkobhnldhpaaDoorLxD
import Derived.Test.YtkpgkobhnldhpaaDoorSz
namespace Go.Proofs.YtkpgkobhnldhpaaDoor
open Go.RowKit
set_option linter.unusedVariables false

theorem new_cells (W : World) (news : List Value) (T : TypeId) : ∀ j u, news[j]? = some u → (W.alloc (.cells news.toArray T)).cell? ((⟨W.heap.size, 0, none⟩ : Addr).add j) = some u := by
  intro j u hu
  have e9 : (⟨W.heap.size, 0, none⟩ : Addr).add j = ⟨W.heap.size, j, none⟩ := by unfold Addr.add; split <;> simp_all
  rw [e9, cell_of_row _ W.heap.size j _ _ (0, 0) (heap_alloc_new W _)]
  rw [← hu]
  simp
/-- An element more, at the end of a line: in the line's own block or in a new one. -/
theorem push_s (s : Nat) (w : World) (t e ty : TypeId) (z : Value) (bytes : Nat) (ht : Tryd.prog.underlying t = some (.slice e)) (hinfo : (Tryd.prog.info? e).map (fun i => (i.zero, i.size, i.bytes)) = some (some z, s, bytes)) (hz1 : z.cells.size = s) (hby : bytes ≤ 256)
    (C : Option Addr) (n c : Nat) (xs : List Value) (h : SLine s w C n c xs) (hn : n ≤ 100000) (news : List Value) (hnl : news.length = s) (h1 : ∀ u ∈ news, u.oneCell' = true) :
    ∃ C' c' w', (Builtin.append_ #[t, t] ty #[.slice C n c, .slice (some ⟨w.heap.size, 0, none⟩) 1 1]).run Tryd.prog (w.alloc (.cells news.toArray e)) = .ok (.slice C' (n + 1) c') w' ∧ SLine s w' C' (n + 1) c' (xs ++ news) ∧ Chg (blk C) w w' ∧ (∀ k ∈ blk C', k ∈ blk C ∨ w.heap.size ≤ k) ∧ C' ≠ none := by
  have hb : Below w.heap.size w (w.alloc (.cells news.toArray e)) := (Below.refl _ w).alloc (Nat.le_refl _) _
  have hs : (w.alloc (.cells news.toArray e)).heap.size = w.heap.size + 1 := by simp
  have hsrc : Src Tryd.prog s t (.slice (some ⟨w.heap.size, 0, none⟩) 1 1) 1 news (w.alloc (.cells news.toArray e)) := Src.ofSlice _ ht ⟨w.heap.size, 0, none⟩ 1 1 news (by rw [hnl, Nat.one_mul]) (new_cells w _ _) h1
  obtain ⟨C', c', w', hr, hl, hc, hf, hne⟩ := sline_append s (w.alloc (.cells news.toArray e)) t e ty z bytes ht hinfo hz1 hby C n c xs (h.below hb) (by omega) _ 1 (by omega) (fun _ => by omega) _ hsrc
  exact ⟨C', c', w', hr, hl, (Chg.of_below hb).trans hc, fun k hk => by
    rcases hf k hk with h1 | h1
    · exact .inl h1
    · exact .inr (by omega), hne⟩
theorem infoTok : (Tryd.prog.info? 33).map (fun i => (i.zero, i.size, i.bytes)) = some (some (.agg #[.int .i64 0, .string ⟨#[]⟩, .int .i32 0, .int .i64 0, .int .i64 0, .int .i64 0]), 6, 56) := by kernel_rfl
/-- The bytes of a list, as a string. -/
def strL (l : List UInt8) : ByteArray := ⟨l.toArray⟩
theorem strL_list (l : List UInt8) : (strL l).data.toList = l := by simp [strL]
theorem strL_size (l : List UInt8) : (strL l).size = l.length := by rw [← ba_length, strL_list]
theorem strL_back (s : ByteArray) : strL s.data.toList = s := by apply ByteArray.ext; simp [strL]
theorem strL_piece (s : ByteArray) (q n : Nat) : (s.extract q s.size).extract 0 n = strL ((s.data.toList.drop q).take n) := by
  have := extract_take (s.extract q s.size) n
  rw [Lib.extract_to_end] at this
  rw [← this, strL_back]
/-- A place of a text. -/
def offZ (o : Nat) : Value := .int .i64 (o : Int)
def lineZ (l : List UInt8) (o : Nat) : Value := .int .i64 (lineOf (l.take o) : Int)
def colZ (l : List UInt8) (o : Nat) : Value := .int .i64 (colOf (l.take o) : Int)
def placeV (l : List UInt8) (o : Nat) : Value := .agg #[offZ o, lineZ l o, colZ l o]
/-- The cells of a token of the text l. -/
def tokC (l : List UInt8) (t : Tok) : List Value := [.int .i64 (t.kind : Int), .string (strL t.txt), .int .i32 (t.num : Int), offZ t.off, lineZ l t.off, colZ l t.off]
def toksC (l : List UInt8) (ts : List Tok) : List Value := ts.flatMap (tokC l)
theorem toksC_snoc (l : List UInt8) (ts : List Tok) (t : Tok) : toksC l (ts ++ [t]) = toksC l ts ++ tokC l t := by simp [toksC]
theorem tokC_one (l : List UInt8) (t : Tok) : ∀ u ∈ tokC l t, u.oneCell' = true := by
  intro u hu
  simp only [tokC, List.mem_cons, List.not_mem_nil, or_false] at hu
  rcases hu with h | h | h | h | h | h <;> (rw [h]; rfl)
theorem tok_push (w : World) (l : List UInt8) (A : Option Addr) (n c : Nat) (xs : List Value) (h : SLine 6 w A n c xs) (hn : n ≤ 100000) (t : Tok) :
    ∃ A' c' w', (Builtin.append_ #[23, 23] 23 #[.slice A n c, .slice (some ⟨w.heap.size, 0, none⟩) 1 1]).run Tryd.prog (w.alloc (.cells (tokC l t).toArray 33)) = .ok (.slice A' (n + 1) c') w' ∧ SLine 6 w' A' (n + 1) c' (xs ++ tokC l t) ∧ Chg (blk A) w w' ∧ (∀ k ∈ blk A', k ∈ blk A ∨ w.heap.size ≤ k) ∧ A' ≠ none :=
  push_s 6 w 23 33 23 _ 56 Tryd.underlying23 infoTok rfl (by decide) A n c xs h hn (tokC l t) rfl (tokC_one l t)
end Go.Proofs.YtkpgkobhnldhpaaDoor
