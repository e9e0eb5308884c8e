/-
  A queue of texts beside a line of texts: what the walk of SetsQueues keeps between two rounds.
-/
import Derived.Test.YtjkcomoadpileaaQS
namespace Go.Proofs.Ytjkcomoadpileaa
open Go.RowKit
set_option linter.unusedVariables false

def cellsS (ys : List ByteArray) : List Value := ys.map Value.string
theorem one_S (ys : List ByteArray) : ∀ u ∈ cellsS ys, u.oneCell' = true := by
  intro u hu
  obtain ⟨z, _, rfl⟩ := List.mem_map.1 hu
  rfl
/-- The queue at q holds xs, the slice A of n texts, of c at most, holds ys; they lie apart, from block B on; nothing below B was written. -/
structure QX (B : Nat) (w0 w : World) (q k : Nat) (xs : List ByteArray) (A : Option Addr) (n c : Nat) (ys : List ByteArray) : Prop where
  queue : ∃ qA qn qc mp, QS w q qA qn qc mp k xs ∧ (∀ j ∈ qfootS q qA mp, B ≤ j) ∧ ∀ j ∈ blk A, B ≤ j ∧ j ∉ qfootS q qA mp
  line : LineAt w A n c (cellsS ys)
  below : Below B w0 w
  base : B ≤ w0.heap.size
section
variable {B : Nat} {w0 w w' : World} {q k : Nat} {xs : List ByteArray} {A : Option Addr} {n c : Nat} {ys : List ByteArray}
theorem QX.size (h : QX B w0 w q k xs A n c ys) : B ≤ w.heap.size := Nat.le_trans h.base h.below.size
theorem QX.turn (hl : LineAt w A n c (cellsS ys)) (hb : Below B w0 w) (h0 : B ≤ w0.heap.size) {qA : Option Addr} {mp : Option Nat} (hF : ∀ j ∈ qfootS q qA mp, B ≤ j) (hA : ∀ j ∈ blk A, B ≤ j ∧ j ∉ qfootS q qA mp) (hT : QToS w q qA mp k xs w') : QX B w0 w' q k xs A n c ys := by
  obtain ⟨qA', qn', qc', mp', hQ', hC, hF'⟩ := hT
  have hs := hb.size
  refine ⟨⟨qA', qn', qc', mp', hQ', fun j hj => ?_, fun j hj => ⟨(hA j hj).1, fun hm => ?_⟩⟩, hl.chg hC (fun j hj => (hA j hj).2), hb.trans (hC.toBelow hF (Nat.le_trans h0 hs)), h0⟩
  · rcases hF' j hj with h1 | h1
    · exact hF j h1
    · omega
  · rcases hF' j hm with h1 | h1
    · exact (hA j hj).2 h1
    · have := hl.lt j hj
      omega
theorem QX.later (h : QX B w0 w q k xs A n c ys) : QX B w0 w q (k + 1) xs A n c ys := by
  obtain ⟨⟨qA, qn, qc, mp, hQ, hF, hA⟩, hl, hb, h0⟩ := h
  exact ⟨⟨qA, qn, qc, mp, hQ.later (Nat.le_succ k), hF, hA⟩, hl, hb, h0⟩
theorem qx_len (h : QX B w0 w q k xs A n c ys) : Calls Try.prog 15 #[.pointer (some ⟨q, 0, none⟩)] w fun e w' => e = .returned (.int .i64 (xs.length : Int)) ∧ w = w' := by
  obtain ⟨⟨qA, qn, qc, mp, hQ, hF, hA⟩, hl, hb, h0⟩ := h
  obtain rfl : qn = xs.length := by have := hQ.line.1; simpa using this.symm
  exact qlenS w q qA _ qc mp k xs hQ
theorem qx_pop0 (h : QX B w0 w q k [] A n c ys) : Calls Try.prog 13 #[.pointer (some ⟨q, 0, none⟩)] w fun e w' => e = .returned (.tuple #[.string ⟨#[]⟩, .bool false]) ∧ w = w' := by
  obtain ⟨⟨qA, qn, qc, mp, hQ, hF, hA⟩, hl, hb, h0⟩ := h
  exact pop_noneS w q qA qn qc mp k hQ
theorem qx_pop {x : ByteArray} {r : List ByteArray} (h : QX B w0 w q k (x :: r) A n c ys) : Calls Try.prog 13 #[.pointer (some ⟨q, 0, none⟩)] w fun e w' => e = .returned (.tuple #[.string x, .bool true]) ∧ QX B w0 w' q k r A n c ys := by
  obtain ⟨⟨qA, qn, qc, mp, hQ, hF, hA⟩, hl, hb, h0⟩ := h
  refine (pop_someS w q qA qn qc mp k x r hQ).mono ?_
  rintro e w' ⟨rfl, hT⟩
  exact ⟨rfl, QX.turn hl hb h0 hF hA hT⟩
theorem qx_push (h : QX B w0 w q k xs A n c ys) (x : ByteArray) (hx : FitsS x) (hn : xs.length ≤ 100000) (hk : k ≤ 100000) :
    Calls Try.prog 14 #[.pointer (some ⟨q, 0, none⟩), .string x] w fun e w' => e = .returned (.bool (!decide (x ∈ xs))) ∧ QX B w0 w' q (k + 1) (pushLS xs x) A n c ys := by
  obtain ⟨⟨qA, qn, qc, mp, hQ, hF, hA⟩, hl, hb, h0⟩ := h
  have hqn : qn = xs.length := by have := hQ.line.1; simpa using this.symm
  have hs : B ≤ w.heap.size := Nat.le_trans h0 hb.size
  unfold pushLS
  by_cases hin : x ∈ xs
  · rw [if_pos hin, decide_eq_true hin]
    refine (push_oldS w q qA qn qc mp k xs hQ x hx hin).mono ?_
    rintro e w' ⟨rfl, hb'⟩
    exact ⟨rfl, (⟨⟨qA, qn, qc, mp, hQ.below hb', hF, hA⟩, hl.below hb', hb.trans (hb'.mono hs), h0⟩ : QX B w0 w' q k xs A n c ys).later⟩
  · rw [if_neg hin, decide_eq_false hin]
    cases mp with
    | some m =>
      refine (push_newS w q qA qn qc m k xs hQ x hx hin (by omega) hk).mono ?_
      rintro e w' ⟨rfl, hT⟩
      exact ⟨rfl, QX.turn hl hb h0 hF hA hT⟩
    | none =>
      have e : xs = [] := by
        rcases hQ.keys with ⟨_, e⟩ | ⟨m, D, e, _⟩
        · exact e
        · cases e
      subst e
      refine (push_firstS w q qA qn qc k hQ x hx (by omega) hk).mono ?_
      rintro e w' ⟨rfl, hT⟩
      exact ⟨rfl, QX.turn hl hb h0 hF hA hT⟩
/-- The first text is left out. -/
theorem QX.rest {g off d e : Nat} {y : ByteArray} {r : List ByteArray} (h : QX B w0 w q k xs (some ⟨g, off, none⟩) (d + 1) (e + 1) (y :: r)) (A' : Option Addr) (hA' : A' = if e = 0 then some ⟨g, off, none⟩ else some ⟨g, off + 1, none⟩) : QX B w0 w q k xs A' d e r := by
  obtain ⟨⟨qA, qn, qc, mp, hQ, hF, hA⟩, hl, hb, h0⟩ := h
  have hblk : ∀ j ∈ blk A', j ∈ blk (some (⟨g, off, none⟩ : Addr)) := by
    intro j hj
    obtain ⟨ad, ea, hb⟩ := mem_blk.1 hj
    rw [hA'] at ea
    split at ea <;> (cases ea; exact mem_blk.2 ⟨_, rfl, hb⟩)
  obtain ⟨g', off', eg, hg, hcl, hfr⟩ := hl.at (by omega)
  cases eg
  have h1 : (r.map Value.string).length = d := by have := hl.1; simp [cellsS] at this; simpa using this
  have h2 := hl.2.1
  have h3 := hl.2.2.1
  unfold maxLen at h3
  refine ⟨⟨qA, qn, qc, mp, hQ, hF, fun j hj => hA j (hblk j hj)⟩, ⟨h1, by omega, by unfold maxLen; omega, fun ea => ?_, fun ad ea => ?_⟩, hb, h0⟩
  · rw [hA'] at ea
    split at ea <;> cases ea
  · by_cases he : e = 0
    · rw [hA', if_pos he] at ea
      cases ea
      exact ⟨g, off, rfl, hg, fun i hi => by omega, fun i hi => by omega⟩
    · rw [hA', if_neg he] at ea
      cases ea
      refine ⟨g, off + 1, rfl, hg, fun i hi => ?_, fun i hi => ?_⟩
      · have := hcl (i + 1) (by omega)
        rw [show off + 1 + i = off + (i + 1) from by omega, this]
        rfl
      · have := hfr (i + 1) (by omega)
        rw [show off + 1 + i = off + (i + 1) from by omega]
        exact this
theorem infoS' : (Try.prog.info? 9).map (fun i => (i.zero, i.size, i.bytes)) = some (some (.string ⟨#[]⟩), 1, 16) := infoS
/-- One text more behind the line, its room cut to its length. -/
theorem QX.push (h : QX B w0 w q k xs A n c ys) (hn : n ≤ 100000) (x : ByteArray) (ty : TypeId) :
    ∃ A' c' w', (Builtin.append_ #[43, 43] ty #[.slice A n n, .slice (some ⟨w.heap.size, 0, none⟩) 1 1]).run Try.prog (w.alloc (.cells #[.string x] 9)) = .ok (.slice A' (n + 1) c') w' ∧ QX B w0 w' q k xs A' (n + 1) c' (ys ++ [x]) := by
  obtain ⟨⟨qA, qn, qc, mp, hQ, hF, hA⟩, hl, hb, h0⟩ := h
  have hs : B ≤ w.heap.size := Nat.le_trans h0 hb.size
  have h2 := hl.2.1
  have h3 := hl.2.2.1
  have hl' : LineAt w A n n (cellsS ys) := by
    exact ⟨hl.1, Nat.le_refl _, by omega, fun ea => by have := hl.2.2.2.1 ea; omega, fun ad ea => by
      obtain ⟨g, off, rfl, hg, hcl, hfr⟩ := hl.2.2.2.2 ad ea
      exact ⟨g, off, rfl, hg, hcl, fun i hi => hfr i (by omega)⟩⟩
  obtain ⟨A', c', w', hr, hl2, hc2, hf2⟩ := line_push w 43 9 ty (.string ⟨#[]⟩) 16 Try.underlying43 infoS' rfl (by decide) A n n _ hl' (one_S _) (by omega) (.string x) rfl
  refine ⟨A', c', w', hr, ⟨qA, qn, qc, mp, hQ.chg hc2 (fun j hj hm => (hA j hm).2 hj), hF, fun j hj => ?_⟩, ?_, hb.trans (hc2.toBelow (fun j hj => (hA j hj).1) hs), h0⟩
  · rcases hf2 j hj with h1 | h1
    · exact hA j h1
    · exact ⟨by omega, fun hm => by have := hQ.lt j hm; omega⟩
  · unfold cellsS at hl2 ⊢
    rw [List.map_append]
    exact hl2
end
end Go.Proofs.Ytjkcomoadpileaa
