/-
  The walk of the law CodeBytes: it answers true and writes nothing that was there. Lines out of their reading.
-/
import Derived.Test.YtonkpojoniehlaaDoorCbya
import Derived.Test.YtonkpojoniehlaaDoorCbyb
import Derived.Test.YtonkpojoniehlaaDoorCbyc
import Derived.Test.YtonkpojoniehlaaDoorCbyd
import Derived.ProofKit
import Derived.OpenShut
import Derived.ShutString
import Derived.SliceStrings
import Derived.Deep.Slices
import Derived.ChangeOld
import Derived.Carry
import Derived.Stop.Joined
import Derived.ChangeSame
namespace Go.Proofs.YtonkpojoniehlaaDoor
open Go.RowKit
open Go.ChangeShapes Go.WideShapes Go.ChangeAt Go.Deep
set_option linter.unusedVariables false
set_option linter.unusedSimpArgs false
set_option maxRecDepth 100000

theorem codeBytes_walk (A : Option Addr) (n c : Nat) (ls : List Ln) (B : Option Addr) (m mc : Nat) (zs : List Int) (w : World) (hl : LnsAt w A n ls) (hn : n ≤ c) (hc : c ≤ maxLen) (hz : IsRow .u8 w B m mc zs) (hLd : laidMetH Tryd.prog Rows.codeBytesRow.laid w) :
    Calls Tryd.prog 7 #[.slice A n c, .slice B m mc] w fun e w' => e = .returned (.bool true) ∧ Below w.heap.size w w' := by
  have hR := rows_of_laid hLd
  have hr := RowZ.of_isRow hz
  obtain ⟨hm, hmc⟩ : m ≤ mc ∧ mc ≤ maxLen := by
    rcases hz with ⟨-, rfl, rfl, -⟩ | ⟨_, _, h1, h2, _⟩
    · exact ⟨Nat.le_refl _, Nat.zero_le _⟩
    · exact ⟨h1, h2⟩
  rcases Nat.lt_or_ge 60 n with h60 | h60
  · rcases Nat.lt_or_ge 300 m with h300 | h300
    · exact bytes_d w A B n c m mc _ _ hn hc hm hmc h60 h300 (hl.take (by omega)) (hr.take (by omega)) hR
    · exact bytes_c w A B n c m mc _ _ hn hc hm hmc h60 h300 (hl.take (by omega)) hr hR
  · rcases Nat.lt_or_ge 300 m with h300 | h300
    · exact bytes_b w A B n c m mc _ _ hn hc hm hmc h60 h300 hl (hr.take (by omega)) hR
    · exact bytes_a w A B n c m mc _ _ hn hc hm hmc h60 h300 hl hr hR

instance : Inhabited Ln := ⟨⟨0, 0, 0, 0, 0, 0, ⟨#[]⟩⟩⟩
/-- Lines out of their reading. -/
theorem lines_of_reading {H : Type} {enc : TypeId × Value → H} {w : World} {base : Nat} {held : Bool} {fuel : Nat} {A : Option Addr} {len cap : Nat} {x : DataW H × List MemPlace}
    (h : DataW.trod enc Tryd.prog w base (fun _ => true) held fuel 36 [.slice A len cap] = some x) : ∃ ls, LnsAt w A len ls ∧ len ≤ cap ∧ cap ≤ maxLen := by
  have cellsL : Tryd.prog.cellsOf 23 = 7 := by kernel_rfl
  rcases open_slice Tryd.underlying36 h with ⟨hcs, _⟩ | ⟨a, len', cap', m, n, D, Pl, hcs, hb, hl, hm, hmm, hx, hi⟩
  · cases hcs
    exact ⟨[], ⟨rfl, (fun l h => by cases h), fun h => absurd h (by omega)⟩, by omega, by unfold maxLen; omega⟩
  · cases hcs
    have hlm : len ≤ m := by rw [hmm]; split <;> omega
    have hone : ∀ i, i < len → ∃ l : Ln, l.ok ∧ ∀ j v, l.cells[j]? = some v → w.cell? ((a.add (i * 7)).add j) = some v := by
      intro i hil
      obtain ⟨cs, hc, ht⟩ := hi i (by omega)
      rw [cellsL] at hc
      obtain ⟨_, hlen, hat⟩ := World.cells?_some hc
      obtain ⟨k, op, d, a', b, n', s, rfl, hn, -⟩ := line_of ht
      exact ⟨⟨k, op, d, a', b, n', s⟩, hn, fun j v hv => by
        have hj := (List.getElem?_eq_some_iff.1 hv).1
        simp only [Ln.cells, List.length_cons, List.length_nil] at hj
        have := hat j hj
        rw [this, ← hv]
        rfl⟩
    have hsp : 0 < len → a.spot = none := fun h0 => by
      obtain ⟨o, _, h1⟩ := hone 0 h0
      have h2 := h1 0 _ rfl
      exact World.cell?_spot (by simpa [Addr.add] using h2)
    obtain ⟨f, hf⟩ := choose_lt (α := Ln) hone
    refine ⟨(List.range len).map f, ⟨by simp, fun l hl2 => ?_, fun h0 => ?_⟩, by omega, hm⟩
    · obtain ⟨i, hi', rfl⟩ := List.mem_map.1 hl2
      exact (hf i (List.mem_range.1 hi')).1
    · obtain ⟨b, off, sp⟩ := a
      obtain rfl : sp = none := hsp h0
      have hadd : ∀ o i, (⟨b, o, none⟩ : Addr).add i = ⟨b, o + i, none⟩ := fun o i => by unfold Addr.add; split <;> simp_all
      have hcl : ∀ k, k < len → ∀ j v, (f k).cells[j]? = some v → w.cell? ⟨b, off + k * 7 + j, none⟩ = some v := fun k hk j v hv => by
        have h2 := (hf k hk).2 j v hv
        rw [hadd, hadd] at h2
        exact h2
      refine ⟨b, off, rfl, World.block_lt_of_cell? w _ (hcl 0 h0 0 _ rfl), fun k l hk j v hv => ?_⟩
      have hil : k < len := by have := (List.getElem?_eq_some_iff.1 hk).1; simpa using this
      have e : f k = l := by
        rw [List.getElem?_map, List.getElem?_range hil] at hk
        simpa using hk
      exact hcl k hil j v (by rw [e]; exact hv)
end Go.Proofs.YtonkpojoniehlaaDoor
