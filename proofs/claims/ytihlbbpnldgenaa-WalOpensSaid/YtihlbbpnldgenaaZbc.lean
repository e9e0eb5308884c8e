/-
  The disk's List, told of the abstract disk.
-/
import Derived.Test.YtihlbbpnldgenaaZba
import Derived.Test.YtihlbbpnldgenaaZay
namespace Go.Proofs.Ytihlbbpnldgenaa
open Go.RowKit Go.Maps
set_option linter.unusedVariables false
set_option maxRecDepth 100000

theorem names_tag (nm : Value → Nat) (ps : List (ByteArray × Value)) : namesV (mapT nm ps) = namesV ps := by
  unfold namesV mapT
  rw [List.map_map]
  rfl
theorem IsD.list {w : World} {d : Nat} {own : Nat → Nat} {r : RD} (h : IsD w d own r) :
    Calls Try.prog 16 #[.pointer (some ⟨d, 0, none⟩)] w fun e w' => (∃ A' c', e = .returned (.slice A' r.now.length c') ∧ SLine 1 w' A' r.now.length c' (namesV r.now) ∧ ∀ k ∈ blk A', w.heap.size ≤ k) ∧ Below w.heap.size w w' := by
  obtain ⟨hF, b, F, fn, fc, RA, rn, rc, SA, sn, sc, C, cn, cc, fs, ps, ss, css, chl, nm, dt, su, H, R⟩ := h
  rw [H.rnow R, names_tag, show (mapT nm ps).length = ps.length from by unfold mapT; rw [List.length_map]]
  refine list_any w d RA rn rc ps H.nowAt.rowAt H.nowAt.len fun p hp => ?_
  obtain ⟨f, num, A, c, sure, e, _⟩ := H.filesIn p hp
  exact ⟨_, e⟩
end Go.Proofs.Ytihlbbpnldgenaa
