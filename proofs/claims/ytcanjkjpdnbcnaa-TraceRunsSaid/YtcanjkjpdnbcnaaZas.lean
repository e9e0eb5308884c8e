/-
  Maps from names to whatever values; a line of elements of one cell, one more; fewer.
-/
import Derived.Test.YtcanjkjpdnbcnaaZar
import Derived.Maps.Own
import Derived.Maps.OwnSet
import Derived.Maps.Views
namespace Go.Proofs.Ytcanjkjpdnbcnaa
open Go.RowKit Go.Maps
set_option linter.unusedVariables false
set_option linter.unusedSimpArgs false
set_option maxRecDepth 100000

/-- A value, read as itself. -/
def rdV (v : Value) : Option (DataW Value × List MemPlace) := some (.held v, [])
theorem keyN : Keyed Try.prog 9 := string_keyed Try.underlying9
theorem keyOfN {x : ByteArray} (h : x.size ≤ maxLen) : keyOf Try.prog 9 (.string x) = some (.string x.data.toList) := WideMaps.keyOf_string_mk Try.underlying9 h
/-- The map in block M takes each name to what f says. -/
def MapAt (w : World) (M n : Nat) (f : ByteArray → Option Value) : Prop := ∃ D, w.ownsMap Try.prog 9 rdV M n D ∧ ∀ (x : ByteArray) v, f x = some v → ∀ z, D.atKey (.string x.data.toList) z = .held v
theorem MapAt.new (w : World) : MapAt (w.alloc (.map #[] 0)) w.heap.size 0 (fun _ => none) := ⟨_, World.ownsMap_made _ _ _ _, fun x v h => by cases h⟩
theorem MapAt.same {w w' : World} {M n : Nat} {f : ByteArray → Option Value} (h : MapAt w M n f) (hb : w'.heap[M]? = w.heap[M]?) : MapAt w' M n f := by
  obtain ⟨D, ⟨es, clock, h1, h2⟩, h3⟩ := h
  exact ⟨D, ⟨es, clock, hb.trans h1, h2⟩, h3⟩
theorem MapAt.lt {w : World} {M n : Nat} {f : ByteArray → Option Value} (h : MapAt w M n f) : M < w.heap.size := by
  obtain ⟨D, h1, _⟩ := h
  exact World.ownsMap.lt h1
theorem MapAt.put {w : World} {M n : Nat} {f : ByteArray → Option Value} (h : MapAt w M n f) (T E : TypeId) (hT : Try.prog.underlying T = some (.map 9 E)) (x : ByteArray) (hx : x.size ≤ maxLen) (v : Value) (hn : n ≤ 1000000) :
    ∃ w', (Instr.mapUpdate T (.map (some M)) (.string x) v).run Try.prog w = .ok () w' ∧ MapAt w' M (n + 1) (fun y => if y.data.toList = x.data.toList then some v else f y) ∧ Chg [M] w w' := by
  obtain ⟨D, hD, hf⟩ := h
  obtain ⟨w', h1, h2, h3⟩ := World.ownsMap.update (P := Try.prog) hD keyN hT (by unfold maxLen; omega) (keyOfN hx) (show rdV v = some (.held v, []) from rfl)
  refine ⟨w', h1, ⟨_, h2, fun y u hy z => ?_⟩, (Chg.refl _ w).grown h3 (fun k hk => by injection hk with hk; subst hk; exact .inl (by simp))⟩
  dsimp only at hy
  by_cases hyx : y.data.toList = x.data.toList
  · rw [if_pos hyx] at hy
    cases hy
    rw [hyx]
    exact atKey_put_same hD.isMap (show WideAt.IsKeyLit (Lit.string x.data.toList) from trivial) _ z
  · rw [if_neg hyx] at hy
    rw [atKey_put_other (by intro e; injection e with e; exact hyx e)]
    exact hf y u hy z
theorem MapAt.get {w : World} {M n : Nat} {f : ByteArray → Option Value} (h : MapAt w M n f) (T E : TypeId) (hT : Try.prog.underlying T = some (.map 9 E)) (z : Value) (hz : (zeroValue E).run Try.prog w = .ok z w) (x : ByteArray) (hx : x.size ≤ maxLen) {v : Value} (hv : f x = some v) :
    (Instr.lookup T (.map (some M)) (.string x) false).run Try.prog w = .ok v w := by
  obtain ⟨D, hD, hf⟩ := h
  obtain ⟨u, ps, h1, h2⟩ := World.ownsMap.lookup (P := Try.prog) hD keyN hT hz (show rdV z = some (.held z, []) from rfl) (keyOfN hx)
  rw [hf x v hv] at h2
  unfold rdV at h2
  cases h2
  exact h1
/-- An element more, at the end of a line: in the line's own block or in a new one. -/
theorem push_line (s : Nat) (w : World) (t e ty : TypeId) (z : Value) (bytes : Nat) (ht : Try.prog.underlying t = some (.slice e)) (hinfo : (Try.prog.info? e).map (fun i => (i.zero, i.size, i.bytes)) = some (some z, s, bytes)) (hz1 : z.cells.size = s) (hby : bytes ≤ 256)
    (C : Option Addr) (n c : Nat) (xs : List Value) (h : SLine s w C n c xs) (hn : n ≤ 100000) (news : List Value) (hnl : news.length = s) (h1 : ∀ u ∈ news, u.oneCell' = true) :
    ∃ C' c' w', (Builtin.append_ #[t, t] ty #[.slice C n c, .slice (some ⟨w.heap.size, 0, none⟩) 1 1]).run Try.prog (w.alloc (.cells news.toArray e)) = .ok (.slice C' (n + 1) c') w' ∧ SLine s w' C' (n + 1) c' (xs ++ news) ∧ Chg (blk C) w w' ∧ (∀ k ∈ blk C', k ∈ blk C ∨ w.heap.size ≤ k) ∧ C' ≠ none := by
  have hb : Below w.heap.size w (w.alloc (.cells news.toArray e)) := (Below.refl _ w).alloc (Nat.le_refl _) _
  have hs : (w.alloc (.cells news.toArray e)).heap.size = w.heap.size + 1 := by simp
  have hsrc : Src Try.prog s t (.slice (some ⟨w.heap.size, 0, none⟩) 1 1) 1 news (w.alloc (.cells news.toArray e)) := Src.ofSlice _ ht ⟨w.heap.size, 0, none⟩ 1 1 news (by rw [hnl, Nat.one_mul]) (new_cells w _ _) h1
  obtain ⟨C', c', w', hr, hl, hc, hf, hne⟩ := sline_append s (w.alloc (.cells news.toArray e)) t e ty z bytes ht hinfo hz1 hby C n c xs (h.below hb) (by omega) _ 1 (by omega) (fun _ => by omega) _ hsrc
  exact ⟨C', c', w', hr, hl, (Chg.of_below hb).trans hc, fun k hk => by
    rcases hf k hk with h1 | h1
    · exact .inl h1
    · exact .inr (by omega), hne⟩
end Go.Proofs.Ytcanjkjpdnbcnaa
