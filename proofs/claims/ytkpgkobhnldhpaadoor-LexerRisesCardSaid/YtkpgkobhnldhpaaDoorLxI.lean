/-
  The contract of the document's Same, where the tokens are the same; tokens of All as tokens that may be read.
-/
import Derived.Test.YtkpgkobhnldhpaaDoorLxF
import Derived.Deep.QuietTactic
import Derived.BigQuiet
namespace Go.Proofs.YtkpgkobhnldhpaaDoor
open Go.RowKit
set_option linter.unusedVariables false
set_option maxRecDepth 100000

def sameTk (x y : Tk) : Prop := x.kd = y.kd ∧ x.tx = y.tx ∧ x.nm = y.nm
set_option maxHeartbeats 1000000 in
theorem same_yes (w : World) (A B : Option Addr) (n c d : Nat) (xs ys : List Tk) (hn : n ≤ 1000000) (hX : Rd6 w A n xs) (hY : Rd6 w B n ys) (hs : ∀ (k : Nat) x y, xs[k]? = some x → ys[k]? = some y → sameTk x y) :
    Calls Tryd.prog 13 #[.slice A n c, .slice B n d] w fun e w' => e = .returned (.bool true) ∧ Below w.heap.size w w' := by
  have HX := Lib.hid hX
  have HY := Lib.hid hY
  have HS := Lib.hid hs
  clear hX hY hs
  go_enter Tryd.func13, Tryd.ntmps13
  go_wp2
  go_loopw [13] (fun i wr => ∃ k : Nat, k ≤ n ∧ i = .int .i64 k ∧ Hid (Below w.heap.size w wr)) (fun i _ => n - (intOf i).toNat)
  case atStart => exact ⟨0, Nat.zero_le _, rfl, Lib.hid (Below.refl _ _)⟩
  case round =>
    obtain ⟨k, hk, rfl, HB⟩ := hrel
    by_cases hlt : k < n
    · obtain ⟨x, hx⟩ : ∃ x, xs[k]? = some x := ⟨_, List.getElem?_eq_getElem (by have := HX.out.1; omega)⟩
      obtain ⟨y, hy⟩ : ∃ y, ys[k]? = some y := ⟨_, List.getElem?_eq_getElem (by have := HY.out.1; omega)⟩
      obtain ⟨g, off, rfl, hg, c0, c1, c2, _⟩ := (HX.out.below HB.out).2 k x hx
      obtain ⟨g2, off2, rfl, hg2, d0, d1, d2, _⟩ := (HY.out.below HB.out).2 k y hy
      obtain ⟨s0, s1, s2⟩ := HS.out k x y hx hy
      rw [← s0] at d0
      rw [← s1] at d1
      rw [← s2] at d2
      obtain ⟨kd, tx, nm, o, l, cc⟩ := x
      dsimp only at c0 c1 c2 d0 d1 d2
      clear hx hy s0 s1 s2
      have HB2 := Lib.hid HB.out
      go_wp2
      go_quiet (fail)
      go_wp2
      go_roundw
      case rel => exact ⟨k + 1, by omega, by go_num, Lib.hid ⟨HB2.out.os, HB2.out.tape, HB2.out.output, HB2.out.size, HB2.out.block⟩⟩
      case measure => simp [intOf]; omega
    · go_wp2
      go_ret
      exact ⟨rfl, HB.out⟩
/-- A token of All as one that is read. -/
def tkOf (l : List UInt8) (t : Tok) : Tk := ⟨t.kind, strL t.txt, t.num, t.off, lineOf (l.take t.off), colOf (l.take t.off)⟩
theorem toks_at (l : List UInt8) (ts : List Tok) : ∀ (k : Nat) t (j : Nat), ts[k]? = some t → j < 6 → (toksC l ts)[k * 6 + j]? = (tokC l t)[j]? := by
  induction ts with
  | nil => intro k t j h; simp at h
  | cons a r ih =>
    intro k t j h hj
    have e : toksC l (a :: r) = tokC l a ++ toksC l r := by simp [toksC]
    have hl : (tokC l a).length = 6 := rfl
    rw [e]
    cases k with
    | zero =>
      simp at h
      subst h
      rw [Nat.zero_mul, Nat.zero_add, List.getElem?_append_left (by omega)]
    | succ k =>
      rw [List.getElem?_append_right (by omega), hl, show (k + 1) * 6 + j - 6 = k * 6 + j from by omega]
      exact ih k t j (by simpa using h) hj
theorem rd_of_line {w : World} {A : Option Addr} {c : Nat} {l : List UInt8} {ts : List Tok} (h : SLine 6 w A ts.length c (toksC l ts)) : Rd6 w A ts.length (ts.map (tkOf l)) := by
  refine ⟨by simp, fun k t hk => ?_⟩
  rw [List.getElem?_map] at hk
  obtain ⟨t0, ht0, rfl⟩ := Option.map_eq_some_iff.1 hk
  have hkl := (List.getElem?_eq_some_iff.1 ht0).1
  obtain ⟨g, off, e, hg, hc, _⟩ := h.at (by omega)
  have hcc : ∀ j v, j < 6 → (tokC l t0)[j]? = some v → w.cell? ⟨g, off + k * 6 + j, none⟩ = some v := fun j v hj hv => by
    rw [Nat.add_assoc, hc _ (by omega), toks_at l ts k t0 j ht0 hj, hv]
  exact ⟨g, off, e, hg, hcc 0 _ (by omega) rfl, hcc 1 _ (by omega) rfl, hcc 2 _ (by omega) rfl, hcc 3 _ (by omega) rfl, hcc 4 _ (by omega) rfl, hcc 5 _ (by omega) rfl⟩
end Go.Proofs.YtkpgkobhnldhpaaDoor
