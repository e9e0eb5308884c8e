/-
  Tokens in memory: a line of six cells each; one more token behind them.
  The contract of layer 7's All.
-/
import Derived.Test.YtcanjkjpdnbcnaaZao
import Derived.Test.YtcanjkjpdnbcnaaZah
import Derived.Laws.Rows
namespace Go.Proofs.Ytcanjkjpdnbcnaa
open Go.RowKit
set_option linter.unusedVariables false

theorem new_cells (W : World) (news : List Value) (T : TypeId) : ∀ j u, news[j]? = some u → (W.alloc (.cells news.toArray T)).cell? ((⟨W.heap.size, 0, none⟩ : Addr).add j) = some u := by
  intro j u hu
  have e9 : (⟨W.heap.size, 0, none⟩ : Addr).add j = ⟨W.heap.size, j, none⟩ := by unfold Addr.add; split <;> simp_all
  rw [e9, cell_of_row _ W.heap.size j _ _ (0, 0) (heap_alloc_new W _)]
  rw [← hu]
  simp
/-- An element more, at the end of a line: in the line's own block or in a new one. -/
theorem push_s (s : Nat) (w : World) (t e ty : TypeId) (z : Value) (bytes : Nat) (ht : Try.prog.underlying t = some (.slice e)) (hinfo : (Try.prog.info? e).map (fun i => (i.zero, i.size, i.bytes)) = some (some z, s, bytes)) (hz1 : z.cells.size = s) (hby : bytes ≤ 256)
    (C : Option Addr) (n c : Nat) (xs : List Value) (h : SLine s w C n c xs) (hn : n ≤ 100000) (news : List Value) (hnl : news.length = s) (h1 : ∀ u ∈ news, u.oneCell' = true) :
    ∃ C' c' w', (Builtin.append_ #[t, t] ty #[.slice C n c, .slice (some ⟨w.heap.size, 0, none⟩) 1 1]).run Try.prog (w.alloc (.cells news.toArray e)) = .ok (.slice C' (n + 1) c') w' ∧ SLine s w' C' (n + 1) c' (xs ++ news) ∧ Chg (blk C) w w' ∧ (∀ k ∈ blk C', k ∈ blk C ∨ w.heap.size ≤ k) ∧ C' ≠ none := by
  have hb : Below w.heap.size w (w.alloc (.cells news.toArray e)) := (Below.refl _ w).alloc (Nat.le_refl _) _
  have hs : (w.alloc (.cells news.toArray e)).heap.size = w.heap.size + 1 := by simp
  have hsrc : Src Try.prog s t (.slice (some ⟨w.heap.size, 0, none⟩) 1 1) 1 news (w.alloc (.cells news.toArray e)) := Src.ofSlice _ ht ⟨w.heap.size, 0, none⟩ 1 1 news (by rw [hnl, Nat.one_mul]) (new_cells w _ _) h1
  obtain ⟨C', c', w', hr, hl, hc, hf, hne⟩ := sline_append s (w.alloc (.cells news.toArray e)) t e ty z bytes ht hinfo hz1 hby C n c xs (h.below hb) (by omega) _ 1 (by omega) (fun _ => by omega) _ hsrc
  exact ⟨C', c', w', hr, hl, (Chg.of_below hb).trans hc, fun k hk => by
    rcases hf k hk with h1 | h1
    · exact .inl h1
    · exact .inr (by omega), hne⟩
/-- The bytes of a list, as a string. -/
def strL (l : List UInt8) : ByteArray := ⟨l.toArray⟩
theorem strL_list (l : List UInt8) : (strL l).data.toList = l := by simp [strL]
theorem strL_size (l : List UInt8) : (strL l).size = l.length := by rw [← ba_length, strL_list]
theorem strL_back (s : ByteArray) : strL s.data.toList = s := by apply ByteArray.ext; simp [strL]
theorem strL_piece (s : ByteArray) (q n : Nat) : (s.extract q s.size).extract 0 n = strL ((s.data.toList.drop q).take n) := by
  have := extract_take (s.extract q s.size) n
  rw [Lib.extract_to_end] at this
  rw [← this, strL_back]
/-- A place of a text. -/
def offZ (o : Nat) : Value := .int .i64 (o : Int)
def lineZ (l : List UInt8) (o : Nat) : Value := .int .i64 (lineOf (l.take o) : Int)
def colZ (l : List UInt8) (o : Nat) : Value := .int .i64 (colOf (l.take o) : Int)
def placeV (l : List UInt8) (o : Nat) : Value := .agg #[offZ o, lineZ l o, colZ l o]
/-- The cells of a token of the text l. -/
def tokC (l : List UInt8) (t : Tok) : List Value := [.int .i64 (t.kind : Int), .string (strL t.txt), .int .i32 (t.num : Int), offZ t.off, lineZ l t.off, colZ l t.off]
def toksC (l : List UInt8) (ts : List Tok) : List Value := ts.flatMap (tokC l)
theorem toksC_snoc (l : List UInt8) (ts : List Tok) (t : Tok) : toksC l (ts ++ [t]) = toksC l ts ++ tokC l t := by simp [toksC]
theorem tokC_one (l : List UInt8) (t : Tok) : ∀ u ∈ tokC l t, u.oneCell' = true := by
  intro u hu
  simp only [tokC, List.mem_cons, List.not_mem_nil, or_false] at hu
  rcases hu with h | h | h | h | h | h <;> (rw [h]; rfl)
end Go.Proofs.Ytcanjkjpdnbcnaa
namespace Go.Proofs.Ytcanjkjpdnbcnaa
open Go.RowKit
set_option linter.unusedVariables false
set_option maxRecDepth 100000

/-- What All answers of a text s. -/
def AllRes (s : ByteArray) (w : World) (e : Ending) (w' : World) : Res → Prop
  | .ok ts => ∃ A c, e = .returned (.tuple #[.slice A ts.length c, .int .i64 0, .agg #[.int .i64 0, .int .i64 0, .int .i64 0]]) ∧ SLine 6 w' A ts.length c (toksC s.data.toList ts) ∧ (∀ k ∈ blk A, w.heap.size ≤ k) ∧ Below w.heap.size w w'
  | .bad er o => e = .returned (.tuple #[.slice none 0 0, .int .i64 (er : Int), placeV s.data.toList o]) ∧ Below w.heap.size w w'
def AllOut (s : ByteArray) (w : World) (e : Ending) (w' : World) : Prop := AllRes s w e w' (allN s.data.toList)
theorem AllOut.bad {s : ByteArray} {w w' : World} {er o : Nat} (h : allN s.data.toList = .bad er o) (hb : Below w.heap.size w w') : AllOut s w (.returned (.tuple #[.slice none 0 0, .int .i64 (er : Int), placeV s.data.toList o])) w' := by
  unfold AllOut; rw [h]; exact ⟨rfl, hb⟩
theorem AllOut.ok {s : ByteArray} {w w' : World} {ts : List Tok} {A : Option Addr} {c : Nat} (h : allN s.data.toList = .ok ts) (hl : SLine 6 w' A ts.length c (toksC s.data.toList ts)) (hA : ∀ k ∈ blk A, w.heap.size ≤ k) (hb : Below w.heap.size w w') : AllOut s w (.returned (.tuple #[.slice A ts.length c, .int .i64 0, .agg #[.int .i64 0, .int .i64 0, .int .i64 0]])) w' := by
  unfold AllOut; rw [h]; exact ⟨A, c, rfl, hl, hA, hb⟩
theorem place_facts {w : World} {b k : Nat} {s : ByteArray} (h : IsRd w b s k) : ∃ x y z : Int, w.cell? ⟨b, 0, none⟩ = some (.int .i64 x) ∧ w.cell? ⟨b, 1, none⟩ = some (.int .i64 y) ∧ w.cell? ⟨b, 2, none⟩ = some (.int .i64 z) ∧ placeV s.data.toList k = .agg #[.int .i64 x, .int .i64 y, .int .i64 z] ∧ offZ k = .int .i64 x ∧ lineZ s.data.toList k = .int .i64 y ∧ colZ s.data.toList k = .int .i64 z := ⟨_, _, _, h.off, h.line, h.col, rfl, rfl, rfl, rfl⟩
theorem box_facts {w : World} {b : Nat} {x y z : Value} {t : TypeId} (h : w.heap[b]? = some (.cells #[x, y, z] t (0, 0))) : (w.cell? ⟨b, 0, none⟩ = some x ∧ w.cell? ⟨b, 1, none⟩ = some y ∧ w.cell? ⟨b, 2, none⟩ = some z) ∧ w.frozen? ⟨b, 0, none⟩ = false ∧ w.frozen? ⟨b, 1, none⟩ = false ∧ w.frozen? ⟨b, 2, none⟩ = false := by
  refine ⟨⟨?_, ?_, ?_⟩, ?_, ?_, ?_⟩
  · rw [cell_of_row _ b 0 _ t (0, 0) h]; rfl
  · rw [cell_of_row _ b 1 _ t (0, 0) h]; rfl
  · rw [cell_of_row _ b 2 _ t (0, 0) h]; rfl
  · exact frozen_of_row _ b 0 _ t h
  · exact frozen_of_row _ b 1 _ t h
  · exact frozen_of_row _ b 2 _ t h
theorem below_three {B : Nat} {w W1 : World} (h : Below B w W1) (b : Nat) (hb : B ≤ b) (v0 v1 v2 : Value) : Below B w (((W1.setCell ⟨b, 0, none⟩ v0).setCell ⟨b, 1, none⟩ v1).setCell ⟨b, 2, none⟩ v2) :=
  ((h.setCell hb v0).setCell hb v1).setCell hb v2
end Go.Proofs.Ytcanjkjpdnbcnaa
