/-
  Slices of bytes: where their block stays, and out of a line of bytes.
  What holds of a disk that calls have made; how great a call leaves it.
-/
import Derived.Test.YtkjdjglknbgeaaaGreatDoorZbh
import Derived.Test.YtkjdjglknbgeaaaGreatDoorZbg
import Derived.Test.YtkjdjglknbgeaaaGreatDoorZbf
namespace Go.Proofs.YtkjdjglknbgeaaaGreatDoor
open Go.RowKit Go.Shelf
set_option linter.unusedVariables false
set_option maxRecDepth 100000

theorem RowZ.blk {w V : World} {A : Option Addr} {n : Nat} {zs : List Int} (h : RowZ w A n zs) (hz : w.heap.size ≤ V.heap.size) (hs : 0 < n → ∀ b off, A = some ⟨b, off, none⟩ → b < w.heap.size → V.heap[b]? = w.heap[b]?) : RowZ V A n zs := by
  refine ⟨h.1, h.2.1, fun hn => ?_⟩
  obtain ⟨b, off, e, hlt, hcc⟩ := h.2.2 hn
  exact ⟨b, off, e, by omega, fun i hi => (World.cell?_of_block (w := w) (a := ⟨b, off + i, none⟩) (hs hn b off e hlt)).trans (hcc i hi)⟩
theorem SLine.toRowZ {w : World} {A : Option Addr} {n c : Nat} {zs : List Int} (h : SLine 1 w A n c (cellsZ zs)) (hz : ∀ z ∈ zs, 0 ≤ z ∧ z ≤ 255) : RowZ w A n zs := by
  have hl := h.1
  rw [cellsZ_length] at hl
  refine ⟨by omega, hz, fun h0 => ?_⟩
  obtain ⟨g, off, e, hg, hc, _⟩ := h.at h0
  refine ⟨g, off, e, hg, fun i hi => ?_⟩
  rw [hc i (by omega)]
  unfold cellsZ
  rw [List.getElem?_map, List.getElem?_eq_getElem (by omega), List.getD_eq_getElem?_getD, List.getElem?_eq_getElem (by omega)]
  rfl
end Go.Proofs.YtkjdjglknbgeaaaGreatDoor
namespace Go.Proofs.YtkjdjglknbgeaaaGreatDoor
open Go.RowKit Go.Maps
set_option linter.unusedVariables false
set_option maxRecDepth 100000

/-- What holds of a disk that calls have made. -/
structure Fct (r : RD) : Prop where
  rn : Rises ltS r.now
  rs : Rises ltS r.sure
  nn : ∀ p ∈ r.now, ∃ k : Nat, p.2 = numV k ∧ k < r.files.length
  ns : ∀ p ∈ r.sure, ∃ k : Nat, p.2 = numV k ∧ k < r.files.length
  two : ∀ c ∈ r.chs, c.length ≤ 2
  data : ∀ p ∈ r.now, (r.file (numOf p.2)).data.length ≤ 1048576
  used : r.used ≤ 1000000000000
  quota : 0 ≤ r.quota ∧ r.quota ≤ 9223372036854775807
  stop : r.stop ≤ 9223372036854775807
section
variable {r : RD}
theorem Fct.len (F : Fct r) (hs : r.size ≤ 80000) : r.now.length ≤ 80000 := by
  have h := (layAll_len r.chs r.sure F.rs F.two).2
  unfold RD.size at hs
  unfold RD.now
  omega
end
theorem IsD.fct {w : World} {d : Nat} {own : Nat → Nat} {r : RD} (h : IsD w d own r) : Fct r ∧ ∀ x, hasP ltS r.now x = true → ∀ u ∈ (r.get x).data, u.oneCell' = true := by
  have hsh := h.shape
  have h0 := h
  obtain ⟨hF, b, F, fn, fc, RA, rn, rc, SA, sn, sc, C, cn, cc, fs, ps, ss, css, chl, nm, dt, su, H, R⟩ := h
  have hnum : ∀ l : List (ByteArray × Value), (∀ p ∈ l, p.2 ∈ fs) → ∀ p ∈ mapT nm l, ∃ k : Nat, p.2 = numV k ∧ k < r.files.length := by
    intro l hl p hp
    obtain ⟨q, hq, rfl⟩ := List.mem_map.1 hp
    have hm := hl q hq
    exact ⟨nm q.2, tag_some _ _ (H.ne _ hm), (List.getElem?_eq_some_iff.1 (R.files _ hm)).1⟩
  refine ⟨⟨hsh.2.2, hsh.1, ?_, ?_, hsh.2.1, ?_, ?_, by rw [← R.quota]; exact H.quota, by have h1 := R.stop; have h2 := H.ahead; omega⟩, fun x hx u hu => ?_⟩
  · rw [H.rnow R]
    exact hnum ps H.nin
  · rw [R.sure]
    exact hnum ss H.sin
  · intro p hp
    rw [H.rnow R] at hp
    obtain ⟨q, hq, rfl⟩ := List.mem_map.1 hp
    have hm := H.nin q hq
    show (r.file (numOf (tag nm q.2))).data.length ≤ _
    obtain ⟨f, A, n, c, e, h7, hfa, hsl, hoA, hn, _⟩ := H.file _ hm
    have hlen := hsl.1
    unfold RD.file
    rw [tag_some _ _ (H.ne _ hm), numOf_numV, List.getD_eq_getElem?_getD, R.files _ hm]
    show (dt q.2).length ≤ _
    omega
  · rw [H.rused R]
    exact H.usedLe
  · obtain ⟨z, _, _, e⟩ := (h0.bytes x hx).1 u hu
    rw [e]
    rfl
section
variable {r : RD}
theorem begE_ok {ns : List ByteArray} (h : r.begE ns = 0) : ∀ n ∈ ns, nameOk n = true := by
  unfold RD.begE at h
  split at h
  · split at h
    · rename_i e; exact List.all_eq_true.1 e
    · omega
  · omega
theorem witE_beg {ns : List ByteArray} {x : ByteArray} (h : r.witE ns x = 0) : r.begE ns = 0 := by
  unfold RD.witE at h
  split at h
  · assumption
  · exact h
/-- How great a call leaves a disk. -/
theorem size_create (x : ByteArray) : (r.create x).2.size ≤ r.size + 4 := by
  have hp := r.powered_size
  have hc := r.powered_calls
  unfold RD.create
  split
  · split
    · show r.powered.size ≤ _; omega
    · unfold RD.size at *
      show r.powered.calls + (r.files ++ [_]).length + r.powered.sure.length + 2 * (r.chs ++ [_]).length ≤ _
      rw [List.length_append, List.length_append, r.powered_sure]
      simp only [List.length_cons, List.length_nil]
      omega
  · show r.powered.size ≤ _; omega
theorem size_append (x : ByteArray) (bs : List Value) : (r.append x bs).2.size ≤ r.size + 4 := by
  have hp := r.powered_size
  have hc := r.powered_calls
  unfold RD.append
  split
  · split
    · show r.powered.size ≤ _; omega
    · split
      · show r.powered.size ≤ _; omega
      · unfold RD.size at *
        show r.powered.calls + (r.files.set _ _).length + r.powered.sure.length + 2 * r.powered.chs.length ≤ _
        rw [List.length_set, r.powered_sure, r.powered_chs]
        omega
  · show r.powered.size ≤ _; omega
theorem size_sync (x : ByteArray) : (r.sync x).2.size ≤ r.size + 4 := by
  have hp := r.powered_size
  have hc := r.powered_calls
  unfold RD.sync
  split
  · unfold RD.size at *
    show r.powered.calls + (r.files.set _ _).length + r.powered.sure.length + 2 * r.powered.chs.length ≤ _
    rw [List.length_set, r.powered_sure, r.powered_chs]
    omega
  · show r.powered.size ≤ _; omega
theorem size_syncDir (F : Fct r) : r.syncDir.2.size ≤ r.size + 4 := by
  have hp := r.powered_size
  have hc := r.powered_calls
  unfold RD.syncDir
  split
  · have h := (layAll_len r.chs r.sure F.rs F.two).2
    unfold RD.size at *
    show r.powered.calls + r.powered.files.length + r.now.length + 2 * 0 ≤ _
    rw [r.powered_files]
    unfold RD.now
    omega
  · show r.powered.size ≤ _; omega
theorem size_rename (x y : ByteArray) : (r.rename x y).2.size ≤ r.size + 4 := by
  have hp := r.powered_size
  have hc := r.powered_calls
  unfold RD.rename
  split
  · unfold RD.size at *
    show r.powered.calls + r.powered.files.length + r.powered.sure.length + 2 * (r.chs ++ [_]).length ≤ _
    rw [List.length_append, r.powered_sure, r.powered_files]
    simp only [List.length_cons, List.length_nil]
    omega
  · show r.powered.size ≤ _; omega
theorem size_remove (x : ByteArray) : (r.remove x).2.size ≤ r.size + 4 := by
  have hp := r.powered_size
  have hc := r.powered_calls
  unfold RD.remove
  split
  · unfold RD.size at *
    show r.powered.calls + r.powered.files.length + r.powered.sure.length + 2 * (r.chs ++ [_]).length ≤ _
    rw [List.length_append, r.powered_sure, r.powered_files]
    simp only [List.length_cons, List.length_nil]
    omega
  · show r.powered.size ≤ _; omega
end
end Go.Proofs.YtkjdjglknbgeaaaGreatDoor
