/- Layer 6's arguments: slices of files, and of things to do, that came in: how they lie in memory, out of their reading. -/
import Derived.Test.YtdjnebgjdekmaaaGreatDoorZag
import Derived.ProofKit
import Derived.OpenShut
import Derived.ShutString
import Derived.SliceStrings
import Derived.Deep.Slices
import Derived.ChangeOld
import Derived.Below
import Derived.Carry
import Derived.Stop.Joined
import Derived.ChangeSame
set_option linter.unusedVariables false
set_option maxRecDepth 100000
namespace Go.Proofs.YtdjnebgjdekmaaaGreatDoor
open Go.ChangeShapes Go.WideShapes Go.ChangeAt Go.RowKit Go.Deep
theorem bytes_in {H : Type} {enc : TypeId × Value → H} {w : World} {base : Nat} {held : Bool} {fuel : Nat} {c : Value} {x : DataW H × List MemPlace} (h : DataW.trod enc Tryz.prog w base (fun _ => true) held fuel 40 [c] = some x) : ∃ a l cap zs, c = Value.slice a l cap ∧ IsRow .u8 w a l cap zs := by
 rcases open_ints Tryz.underlying40 Tryz.underlying5 (by kernel_rfl) h with ⟨hcs, _⟩ | ⟨x, l, cc, zs, hcs, _, hl, hm, hz, _, hcell, hwz⟩
 · simp at hcs
   exact ⟨none, 0, 0, [], hcs, .inl ⟨rfl, rfl, rfl, rfl⟩⟩
 · simp at hcs
   exact ⟨some x, l, cc, zs, hcs, .inr ⟨_, rfl, hl, hm, by simpa using hz, hcell, hwz⟩⟩
theorem cellsT6 : Tryz.prog.cellsOf 9 = 1 := by kernel_rfl
theorem cellsB6 : Tryz.prog.cellsOf 40 = 1 := by kernel_rfl
theorem cellsU6 : Tryz.prog.cellsOf 39 = 1 := by kernel_rfl
theorem row_below {k : IntKind} {w w' : World} {A : Option Addr} {n c : Nat} {zs : List Int} (h : IsRow k w A n c zs) (hB : Below w.heap.size w w') : IsRow k w' A n c zs := by
 rcases h with h | ⟨x, e, h1, h2, h3, h4, h5⟩
 · exact .inl h
 · exact .inr ⟨x, e, h1, h2, h3, fun j hj => (hB.cell (p := x.add j) (block_lt_of_cell (h4 j hj))).trans (h4 j hj), h5⟩
structure KvR where
 kind : Nat
 kA : Option Addr
 kn : Nat
 kc : Nat
 kz : List Int
 aA : Option Addr
 an : Nat
 ac : Nat
 az : List Int
instance : Inhabited KvR := ⟨⟨0, none, 0, 0, [], none, 0, 0, []⟩⟩
def KvR.cells (o : KvR) : List Value := [.int .u64 (o.kind : Int), .slice o.kA o.kn o.kc, .slice o.aA o.an o.ac]
structure KvR.In (w : World) (o : KvR) : Prop where
 kind : o.kind < 18446744073709551616
 key : IsRow .u8 w o.kA o.kn o.kc o.kz
 art : IsRow .u8 w o.aA o.an o.ac o.az
theorem KvR.In.below {w w' : World} {o : KvR} (h : o.In w) (hB : Below w.heap.size w w') : o.In w' := ⟨h.kind, row_below h.key hB, row_below h.art hB⟩
def KvRs (w : World) (A : Option Addr) (n : Nat) (os : List KvR) : Prop :=
 os.length = n ∧ (∀ o ∈ os, o.In w) ∧ (0 < n → ∃ g off, A = some ⟨g, off, none⟩ ∧ g < w.heap.size ∧ ∀ i o, os[i]? = some o → ∀ j v, o.cells[j]? = some v → w.cell? ⟨g, off + i * 3 + j, none⟩ = some v)
theorem KvRs.below {w w' : World} {A : Option Addr} {n : Nat} {os : List KvR} (h : KvRs w A n os) (hB : Below w.heap.size w w') : KvRs w' A n os := by
 refine ⟨h.1, fun o ho => (h.2.1 o ho).below hB, fun hn => ?_⟩
 obtain ⟨g, off, e, hg, hc⟩ := h.2.2 hn
 exact ⟨g, off, e, Nat.lt_of_lt_of_le hg hB.size, fun i o ho j v hv => (hB.cell (p := ⟨g, off + i * 3 + j, none⟩) hg).trans (hc i o ho j v hv)⟩
theorem cellsKvR : Tryz.prog.cellsOf 42 = 3 := by kernel_rfl
theorem KvRs.of {H : Type} {enc : TypeId × Value → H} {w : World} {base : Nat} {held : Bool} {fuel : Nat} {A : Option Addr} {len cap : Nat} {x : DataW H × List MemPlace} (h : DataW.trod enc Tryz.prog w base (fun _ => true) held fuel 22 [.slice A len cap] = some x) :
 ∃ os, KvRs w A len os ∧ len ≤ cap ∧ cap ≤ maxLen := by
 rcases open_slice Tryz.underlying22 h with ⟨hcs, _⟩ | ⟨a, len', cap', m, n, D, Pl, hcs, hb, hl, hm, hmm, hx, hi⟩
 · cases hcs
   exact ⟨[], ⟨rfl, (fun o ho => by cases ho), fun h0 => absurd h0 (Nat.lt_irrefl 0)⟩, by omega, by unfold maxLen; omega⟩
 · cases hcs
   have hlm : len ≤ m := by rw [hmm]; split <;> omega
   have hone : ∀ i, i < len → ∃ o : KvR, o.In w ∧ ∀ j v, o.cells[j]? = some v → w.cell? ((a.add (i * 3)).add j) = some v := by
    intro i hil
    obtain ⟨cs, hc, ht⟩ := hi i (by omega)
    rw [cellsKvR] at hc
    obtain ⟨_, hlen, hat⟩ := World.cells?_some hc
    obtain ⟨ys, n', _, _, _, hyl, hf⟩ := DataW.trod_struct Tryz.underlying42 ht
    match cs, hlen with
    | [c0, c1, c2], _ =>
     have f0 := hf 0 _ rfl
     have f1 := hf 1 _ rfl
     have f2 := hf 2 _ rfl
     simp only [List.getElem_toArray, List.getElem_cons_zero, List.getElem_cons_succ, cellsU6, cellsB6, List.drop_zero, List.drop_succ_cons, List.take_succ_cons, List.take_zero] at f0 f1 f2
     have gg : ∀ j, j < 3 → ∃ y, ys[j]? = some y := fun j hj => ⟨_, List.getElem?_eq_getElem (by rw [hyl]; exact hj)⟩
     obtain ⟨y0, g0⟩ := gg 0 (by omega)
     obtain ⟨y1, g1⟩ := gg 1 (by omega)
     obtain ⟨y2, g2⟩ := gg 2 (by omega)
     obtain ⟨u, e0, _, hu⟩ := DataW.trod_int Tryz.underlying39 (f0.trans g0)
     obtain ⟨kA, kn, kc, kz, rfl, hk⟩ := bytes_in (f1.trans g1)
     obtain ⟨aA, an, ac, az, rfl, ha⟩ := bytes_in (f2.trans g2)
     cases e0
     have hu2 := bounds_u64 hu
     refine ⟨⟨u.toNat, kA, kn, kc, kz, aA, an, ac, az⟩, ⟨by show u.toNat < _; omega, hk, ha⟩, fun j v hv => ?_⟩
     have e : ((u.toNat : Nat) : Int) = u := by omega
     unfold KvR.cells at hv
     simp only [e] at hv
     have hj := (List.getElem?_eq_some_iff.1 hv).1
     simp only [List.length_cons, List.length_nil] at hj
     have := hat j hj
     rw [this, ← hv]
   have hsp : 0 < len → a.spot = none := fun h0 => by
    obtain ⟨o, _, h1⟩ := hone 0 h0
    have h2 := h1 0 _ rfl
    exact World.cell?_spot (by simpa [Addr.add] using h2)
   obtain ⟨f, hf⟩ := choose_lt (α := KvR) hone
   refine ⟨(List.range len).map f, ⟨by simp, fun o ho => ?_, fun h0 => ?_⟩, by omega, hm⟩
   · obtain ⟨i, hi', rfl⟩ := List.mem_map.1 ho
     exact (hf i (List.mem_range.1 hi')).1
   · obtain ⟨b, off, sp⟩ := a
     obtain rfl : sp = none := hsp h0
     have hadd : ∀ o i, (⟨b, o, none⟩ : Addr).add i = ⟨b, o + i, none⟩ := fun o i => by unfold Addr.add; split <;> simp_all
     have hc0 := (hf 0 h0).2 0 _ rfl
     rw [hadd, hadd] at hc0
     refine ⟨b, off, rfl, World.block_lt_of_cell? w _ hc0, fun i o ho j v hv => ?_⟩
     have hil : i < len := by have := (List.getElem?_eq_some_iff.1 ho).1; simpa using this
     have e : f i = o := by
      rw [List.getElem?_map, List.getElem?_range hil] at ho
      simpa using ho
     have h2 := (hf i hil).2 j v (by rw [e]; exact hv)
     rw [hadd, hadd] at h2
     exact h2
end Go.Proofs.YtdjnebgjdekmaaaGreatDoor
