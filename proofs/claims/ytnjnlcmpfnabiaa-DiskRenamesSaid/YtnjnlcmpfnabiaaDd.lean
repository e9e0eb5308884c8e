/-
  Contracts: slices.Clone of bytes, disk's kept, (*file).lose.
-/
import Derived.Test.YtnjnlcmpfnabiaaSy
import Derived.Lib.SliceRun
import Derived.Deep.RegionWith
namespace Go.Proofs.Ytnjnlcmpfnabiaa
open Go.RowKit
set_option linter.unusedVariables false
set_option maxRecDepth 100000

theorem infoB : (Try.prog.info? 5).map (fun i => (i.zero, i.size, i.bytes)) = some (some (.int .u8 0), 1, 1) := by kernel_rfl
theorem eqnilB (w : World) (a : Option Addr) (n c n' c' : Nat) : (binOp .eql 29 (.slice a n c) (.slice none n' c')).run Try.prog w = .ok (.bool a.isNone) w := Lib.run_eql_slice_nil w _ _ a n c n' c' Try.underlying29
theorem cloneB_nil (w : World) (n c : Nat) : Calls Try.prog 51 #[.slice none n c] w fun e w' => e = .returned (.slice none 0 0) ∧ w = w' := by
  have q := eqnilB
  go_enter Try.func51, Try.ntmps51
  go_wp2
  go_ret
  exact ⟨rfl, rfl⟩
set_option maxHeartbeats 800000 in
/-- A copy of a line's bytes, in a block of its own. -/
theorem cloneB (w : World) (A : Option Addr) (n c : Nat) (xs : List Value) (h : SLine 1 w A n c xs) (hn : n ≤ 10000000) (h1 : ∀ u ∈ xs, u.oneCell' = true) :
    Calls Try.prog 51 #[.slice A n c] w fun e w' => (∃ A' c', e = .returned (.slice A' n c') ∧ SLine 1 w' A' n c' xs ∧ ∀ k ∈ blk A', w.heap.size ≤ k) ∧ Below w.heap.size w w' := by
  cases A with
  | none =>
    have hc0 := h.2.2.2.1 rfl
    have hnc := h.2.1
    obtain rfl : n = 0 := by omega
    refine (cloneB_nil w 0 c).mono ?_
    rintro e w' ⟨rfl, rfl⟩
    have hx : xs = [] := List.eq_nil_of_length_eq_zero (by simpa using h.1)
    subst hx
    exact ⟨⟨none, 0, rfl, SLine.nil 1 w, fun k hk => by cases hk⟩, Below.refl _ _⟩
  | some ad =>
    obtain ⟨g, off, rfl, hg, hcs, hfr⟩ := h.2.2.2.2 _ rfl
    obtain ⟨W0, hW0⟩ : ∃ W0, w.alloc (.cells #[] 5) = W0 := ⟨_, rfl⟩
    have hb0 : Below w.heap.size w W0 := by rw [← hW0]; exact (Below.refl _ w).alloc (Nat.le_refl _) _
    have hs0 : W0.heap.size = w.heap.size + 1 := by rw [← hW0]; simp
    have hd : SLine 1 W0 (some ⟨w.heap.size, 0, none⟩) 0 0 [] := ⟨rfl, Nat.le_refl _, by unfold maxLen; omega, (fun e => by cases e), fun a e => by cases e; exact ⟨w.heap.size, 0, rfl, by omega, fun i hi => by omega, fun i hi => by omega⟩⟩
    have hh := h.below hb0
    have hsrc : Src Try.prog 1 29 (.slice (some ⟨g, off, none⟩) n c) n xs W0 := Src.ofSlice W0 Try.underlying29 ⟨g, off, none⟩ n c xs h.1 (fun j u hj => by
      have hadd : (⟨g, off, none⟩ : Addr).add j = ⟨g, off + j, none⟩ := by unfold Addr.add; split <;> simp_all
      have hjl := (List.getElem?_eq_some_iff.1 hj).1
      rw [hadd]
      exact ((hb0.cell (p := ⟨g, off + j, none⟩) hg).trans (hcs j (by rw [← h.1]; exact hjl))).trans hj) h1
    obtain ⟨A', c', w', hr, hl, hc, hf, hne⟩ := sline_append 1 W0 29 5 29 _ 1 Try.underlying29 infoB rfl (by decide) _ 0 0 [] hd (by omega) _ n (by omega) (fun e => by cases e) xs hsrc
    rw [Nat.zero_add] at hr hl
    rw [← hW0] at hr
    have hblk : ∀ k ∈ blk A', w.heap.size ≤ k := fun k hk => by
      rcases hf k hk with h2 | h2
      · obtain ⟨ad, ea, hb⟩ := mem_blk.1 h2
        cases ea
        rw [← hb]
        exact Nat.le_refl _
      · omega
    have hb : Below w.heap.size w w' := hb0.trans (hc.toBelow (fun k hk => by obtain ⟨ad, ea, hb⟩ := mem_blk.1 hk; cases ea; rw [← hb]; exact Nat.le_refl _) (by omega))
    have HR := Lib.hid hr
    have HL := Lib.hid (And.intro hl (And.intro hblk hb))
    clear hr hl hc hf hb hblk hd hh hsrc hb0 hcs hfr h h1 hs0 hW0
    have q := eqnilB
    go_enter Try.func51, Try.ntmps51
    go_wp2_with (at_builtin; refine Lib.wpList_append_run _ rfl _ _ _ _ rfl _ _ rfl rfl _ _ HR.out ?_)
    go_ret
    exact ⟨⟨A', c', rfl, HL.out.1, HL.out.2.1⟩, HL.out.2.2⟩
/-- The slice A of n integers holds zs. -/
def ZsAt (w : World) (A : Option Addr) (n : Nat) (zs : List Int) : Prop :=
  zs.length = n ∧ (0 < n → ∃ g off, A = some ⟨g, off, none⟩ ∧ g < w.heap.size ∧ ∀ j z, zs[j]? = some z → w.cell? ⟨g, off + j, none⟩ = some (.int .i64 z))
theorem ZsAt.same {w w' : World} {A : Option Addr} {n : Nat} {zs : List Int} (h : ZsAt w A n zs) (hz : w.heap.size ≤ w'.heap.size) (hs : ∀ k ∈ blk A, k < w.heap.size → w'.heap[k]? = w.heap[k]?) : ZsAt w' A n zs := by
  refine ⟨h.1, fun h0 => ?_⟩
  obtain ⟨g, off, rfl, hg, hc⟩ := h.2 h0
  exact ⟨g, off, rfl, Nat.lt_of_lt_of_le hg hz, fun j z hj => (World.cell?_of_block (w := w) (a := ⟨g, off + j, none⟩) (hs g (mem_blk.2 ⟨_, rfl, rfl⟩) hg)).trans (hc j z hj)⟩
/-- How many bytes, beside the sure ones, a loss leaves. -/
def keptZ (zs : List Int) (num : Nat) : Int := if zs.length = 0 then 0 else zs.getD (num % zs.length) 0
theorem kept_any (w : World) (A : Option Addr) (n c : Nat) (zs : List Int) (h : ZsAt w A n zs) (hn : n ≤ 1000000) (num : Nat) (hnum : num ≤ 1000000) :
    Calls Try.prog 44 #[.slice A n c, .int .i64 (num : Int)] w fun e w' => e = .returned (.int .i64 (keptZ zs num)) ∧ w = w' := by
  rcases Nat.eq_zero_or_pos n with h0 | h0
  · subst h0
    have hz : keptZ zs num = 0 := by unfold keptZ; rw [if_pos h.1]
    rw [hz]
    clear h hz
    go_enter Try.func44, Try.ntmps44
    go_wp2
    go_ret
    exact ⟨rfl, rfl⟩
  · obtain ⟨g, off, rfl, hg, hcs⟩ := h.2 h0
    have hlt : num % n < n := Nat.mod_lt _ h0
    have hl := h.1
    have hz : keptZ zs num = zs.getD (num % n) 0 := by unfold keptZ; rw [if_neg (by omega), hl]
    have hc : w.cell? ⟨g, off + num % n, none⟩ = some (.int .i64 (zs.getD (num % n) 0)) := hcs _ _ (by simp [List.getD, List.getElem?_eq_getElem (show num % n < zs.length by omega)])
    rw [hz]
    obtain ⟨z, hzz⟩ : ∃ z, zs.getD (num % n) 0 = z := ⟨_, rfl⟩
    rw [hzz] at hc ⊢
    obtain ⟨r, hr⟩ : ∃ r, num % n = r := ⟨_, rfl⟩
    rw [hr] at hc hlt
    have hm : Int.tmod (num : Int) (n : Int) = (r : Int) := by
      rw [← hr, Int.ofNat_tmod]
    have hn0 : (n : Int) ≠ 0 := by omega
    have hn1 : ¬ (n : Int) = 0 := by omega
    have hr0 : (0 : Int) ≤ (r : Int) := by omega
    have hr1 : (r : Int) < (n : Int) := by omega
    clear h hcs hz hzz
    go_enter Try.func44, Try.ntmps44
    go_wp2
    go_ret
    exact ⟨rfl, rfl⟩
end Go.Proofs.Ytnjnlcmpfnabiaa
