/- A disk behind calls, in a world that has gone on from w0: what was there at w0 is as it was. Bytes that came in. -/
import Derived.Test.YtdjnebgjdekmaaaGreatDoorZbe
import Derived.Test.YtdjnebgjdekmaaaGreatDoorZag
set_option linter.unusedVariables false
set_option maxRecDepth 100000
namespace Go.Proofs.YtdjnebgjdekmaaaGreatDoor
open Go.RowKit Go.Maps
section
variable {w0 W W' : World} {d : Nat} {own own' : Nat → Nat} {r r' : RD} {x y : ByteArray} {a : Int}
theorem RowZ.toSrc {w : World} {A : Option Addr} {n : Nat} {zs : List Int} (h : RowZ w A n zs) (c : Nat) : Src Tryz.prog 1 40 (.slice A n c) n (cellsZ zs) w := by
 cases A with
 | none =>
  rcases Nat.eq_zero_or_pos n with h0 | h0
  · subst h0
    have e : zs = [] := List.eq_nil_of_length_eq_zero h.1
    subst e
    exact Src.ofNil w Tryz.underlying40 c
  · obtain ⟨_, _, e, _⟩ := h.2.2 h0
    cases e
 | some ad =>
  refine Src.ofSlice w Tryz.underlying40 ad n c _ ?_ (fun j u hj => ?_) (one_u8 zs)
  · unfold cellsZ
    rw [List.length_map, h.1, Nat.mul_one]
  · have hn : 0 < n := by
     have h1 := (List.getElem?_eq_some_iff.1 hj).1
     unfold cellsZ at h1
     rw [List.length_map, h.1] at h1
     omega
    obtain ⟨ad', e, hc⟩ := h.src hn
    cases e
    exact hc j u hj
theorem RowZ.chg {w w' : World} {A : Option Addr} {n : Nat} {zs : List Int} {l : List Nat} (h : RowZ w A n zs) (hc : Chg l w w') (hl : ∀ k ∈ l, ∀ ad, A = some ad → ad.block ≠ k) : RowZ w' A n zs := by
 refine ⟨h.1, h.2.1, fun hn => ?_⟩
 obtain ⟨b, off, e, hlt, hcc⟩ := h.2.2 hn
 have hb : w'.heap[b]? = w.heap[b]? := hc.same b hlt (fun hm => hl b hm _ e rfl)
 exact ⟨b, off, e, by have := hc.size; omega, fun i hi => (World.cell?_of_block (w := w) (a := ⟨b, off + i, none⟩) hb).trans (hcc i hi)⟩
theorem RowZ.only {w w' : World} {A : Option Addr} {n : Nat} {zs : List Int} {own own' : Nat → Nat} (h : RowZ w A n zs) (hO : Only own w own' w') (hl : ∀ ad, A = some ad → own ad.block = 0) : RowZ w' A n zs := by
 refine ⟨h.1, h.2.1, fun hn => ?_⟩
 obtain ⟨b, off, e, hlt, hcc⟩ := h.2.2 hn
 have hb : w'.heap[b]? = w.heap[b]? := hO.2.2 b hlt (hl _ e)
 exact ⟨b, off, e, by have := hO.1.size; omega, fun i hi => (World.cell?_of_block (w := w) (a := ⟨b, off + i, none⟩) hb).trans (hcc i hi)⟩
theorem bytes_cellsZ {zs : List Int} (h : ∀ z ∈ zs, 0 ≤ z ∧ z ≤ 255) : ∀ u ∈ cellsZ zs, ∃ z : Int, 0 ≤ z ∧ z < 256 ∧ u = .int .u8 z := fun u hu => by
 obtain ⟨z, hz, rfl⟩ := List.mem_map.1 hu
 have := h z hz
 exact ⟨z, by omega, by omega, rfl⟩
theorem cellsZ_length (zs : List Int) : (cellsZ zs).length = zs.length := by unfold cellsZ; rw [List.length_map]
theorem ZsAt.below {w w' : World} {A : Option Addr} {n : Nat} {zs : List Int} (h : ZsAt w A n zs) (hB : Below w.heap.size w w') : ZsAt w' A n zs := h.same hB.size (fun k _ hk => hB.block k hk)
end
end Go.Proofs.YtdjnebgjdekmaaaGreatDoor
