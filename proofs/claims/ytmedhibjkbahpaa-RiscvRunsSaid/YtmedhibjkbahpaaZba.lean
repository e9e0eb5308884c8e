/-
  What is loaded may be run: its instructions, its words, where it begins.
-/
import Derived.Test.YtmedhibjkbahpaaZay
namespace Go.Proofs.Ytmedhibjkbahpaa
open Go.RowKit
set_option linter.unusedVariables false
set_option linter.unusedSimpArgs false
set_option maxRecDepth 100000
namespace Rv
theorem numI_rng (f : ByteArray → Option Int) (l : Ln) (c : Nat) : -2147483648 ≤ numI f l c ∧ numI f l c ≤ 2147483647 := by
  unfold numI
  split
  · have := split_hi ((f l.s).getD 0 - splitLo ((f l.s).getD 0)); unfold splitHi; omega
  · split
    · have := split_lo ((f l.s).getD 0); unfold splitLo; omega
    · exact wrap_rng _
theorem fixL_ok {f : ByteArray → Option Int} {l : Ln} {c : Nat} (h : l.Ok) : (fixL f l c).Ok := by
  unfold fixL
  split
  · exact h
  · exact ⟨h.k, h.op, h.d, h.a, h.b, numI_rng f l c, h.sys⟩
theorem resI_ok (f : ByteArray → Option Int) : ∀ (ls acc out : List Ln), (∀ l ∈ acc, l.Ok) → (∀ l ∈ ls, mayLn l = true ∧ -2147483648 ≤ l.n ∧ l.n ≤ 2147483647) → resI f acc ls = some out → ∀ l ∈ out, l.Ok
  | [], acc, out, ha, _, h => by rw [resI] at h; cases h; exact ha
  | l :: ls, acc, out, ha, hm, h => by
    rw [resI] at h
    have hr := fun x hx => hm x (List.mem_cons_of_mem _ hx)
    split at h
    · next hk =>
      split at h
      · have hl := hm l (List.mem_cons_self ..)
        have h1 := hl.1
        unfold mayLn at h1
        rw [if_neg (by omega), if_pos hk, Bool.and_eq_true] at h1
        refine resI_ok f ls _ out (fun x hx => ?_) hr h
        rcases List.mem_append.1 hx with q | q
        · exact ha x q
        · rw [List.mem_singleton] at q
          subst q
          exact fixL_ok (ok_of_may hk hl.2 h1.1)
      · cases h
    · exact resI_ok f ls acc out ha hr h
theorem load_more {gs : List Gl} {st : Int} {ls L : List Ln} {f : ByteArray → Option Int} {words : Int} (hn : ∀ l ∈ ls, -2147483648 ≤ l.n ∧ l.n ≤ 2147483647) (hst : st ≤ 65536) (h : loadI mayGl mayLn gs st ls = .ok L f words) :
    (∀ l ∈ L, l.Ok) ∧ 0 ≤ words ∧ words ≤ 40000 ∧ mayA mayGl mayLn gs st ls = true := by
  unfold loadI at h
  split at h
  · next hm =>
    obtain ⟨q1, q2, q3, q4⟩ := mayA_parts hm
    split at h
    · split at h
      · split at h
        · cases h
        · next acc hacc =>
          split at h
          · cases h
          · next hw =>
            cases h
            refine ⟨resI_ok _ ls [] L (fun x hx => (by cases hx)) (fun l hl => ⟨q4 l hl, hn l hl⟩) hacc, ?_, ?_, hm⟩
            · omega
            · have hc : (layG ls gs).cnt = wordsG gs := by unfold layG; rw [foldl_words]; rfl
              rw [hc]
              omega
      · cases h
    · cases h
  · cases h
theorem load_pos {b : Bool} {gs : List Gl} {st : Int} {ls L : List Ln} {ss : List Sy} {words : Int} (hm : mayA mayGl mayLn gs st ls = true) (h : loadR b gs st ls = .ok L ss words) (h1 : gs.length ≤ 70) (h2 : ls.length ≤ 300) : ∀ t ∈ ss, 0 ≤ t.pos ∧ t.pos ≤ 2000000 := by
  obtain ⟨q1, q2, q3, q4⟩ := mayA_parts hm
  have hg0 : ∀ g ∈ gs, 0 ≤ g.size ∧ g.size ≤ 4096 := fun g hg => by have := q2 g hg; unfold mayGl at this; simp at this; omega
  rw [load_ss h]
  intro t ht
  rcases List.mem_append.1 ht with q | q
  · obtain ⟨d, d1, d2, d3⟩ := datF_pos gs 0 (by omega) hg0 t q
    omega
  · obtain ⟨d, d1, d2⟩ := labF_pos ls 0 t q
    omega
end Rv
end Go.Proofs.Ytmedhibjkbahpaa
