/- Rows of records that are read; the contract of the document's Same. -/
import Derived.Test.YtdjnebgjdekmaaaGreatDoorZaw
import Derived.Lib.Bytes
import Derived.BigQuiet
set_option linter.unusedVariables false
set_option maxRecDepth 100000
namespace Go.Proofs.YtdjnebgjdekmaaaGreatDoor
open Go.RowKit Go.Shelf
def txt (l : List Nat) : ByteArray := strOfNums (asZ l)
theorem txt_list (l : List Nat) : (txt l).toList = l.map UInt8.ofNat := by
 unfold txt
 rw [Lib.strOfNums_toList]
 unfold Lib.bytesOf asZ
 rw [List.map_map]
 apply List.map_congr_left
 intro x _
 simp
theorem ofNat_inj {a b : List Nat} (ha : bytesN a) (hb : bytesN b) (h1 : a.map UInt8.ofNat = b.map UInt8.ofNat) : a = b := by
 have h2 : ∀ l, bytesN l → (l.map UInt8.ofNat).map UInt8.toNat = l := fun l hl => by
  rw [List.map_map]
  conv => rhs; rw [← List.map_id l]
  apply List.map_congr_left
  intro x hx
  have := hl x hx
  simp only [Function.comp, id_eq, UInt8.toNat_ofNat']
  omega
 rw [← h2 a ha, ← h2 b hb, h1]
theorem txt_beq {a b : List Nat} (ha : bytesN a) (hb : bytesN b) : ((txt a).toList == (txt b).toList) = decide (a = b) := by
 rw [txt_list, txt_list]
 by_cases h : a = b
 · subst h; simp
 · have : ¬ a.map UInt8.ofNat = b.map UInt8.ofNat := fun e => h (ofNat_inj ha hb e)
   rw [decide_eq_false h]
   exact beq_eq_false_iff_ne.2 this
def RowV (W : World) (A : Option Addr) (n : Nat) (vs : List Value) : Prop := vs.length = n ∧ (0 < n → ∃ g off, A = some ⟨g, off, none⟩ ∧ g < W.heap.size ∧ ∀ (j : Nat) (v : Value), vs[j]? = some v → W.cell? ⟨g, off + j, none⟩ = some v)
def RecsR (W : World) (vs : List Value) (rs : List (List Nat)) : Prop := vs.length = rs.length ∧ ∀ (i : Nat) (v : Value) (r : List Nat), vs[i]? = some v → rs[i]? = some r → ∃ (A : Option Addr) (c : Nat), v = Value.slice A r.length c ∧ r.length ≤ c ∧ RowN W A r.length r
def Recs (W : World) (A : Option Addr) (n : Nat) (rs : List (List Nat)) : Prop := ∃ vs, RowV W A n vs ∧ RecsR W vs rs
theorem RowV.below {W W' : World} {A : Option Addr} {n : Nat} {vs : List Value} (h : RowV W A n vs) (hb : Below W.heap.size W W') : RowV W' A n vs := by
 refine ⟨h.1, fun hn => ?_⟩
 obtain ⟨g, off, e, hg, hc⟩ := h.2 hn
 exact ⟨g, off, e, Nat.lt_of_lt_of_le hg hb.size, fun j v hv => (hb.cell (p := ⟨g, off + j, none⟩) hg).trans (hc j v hv)⟩
theorem RecsR.below {W W' : World} {vs : List Value} {rs : List (List Nat)} (h : RecsR W vs rs) (hb : Below W.heap.size W W') : RecsR W' vs rs := by
 refine ⟨h.1, fun i v r hv hr => ?_⟩
 obtain ⟨A, c, e, h1, h2⟩ := h.2 i v r hv hr
 exact ⟨A, c, e, h1, h2.below hb⟩
theorem Recs.below {W W' : World} {A : Option Addr} {n : Nat} {rs : List (List Nat)} (h : Recs W A n rs) (hb : Below W.heap.size W W') : Recs W' A n rs := by
 obtain ⟨vs, h1, h2⟩ := h
 exact ⟨vs, h1.below hb, h2.below hb⟩
theorem Recs.len {W : World} {A : Option Addr} {n : Nat} {rs : List (List Nat)} (h : Recs W A n rs) : rs.length = n := by
 obtain ⟨vs, h1, h2⟩ := h
 rw [← h2.1, h1.1]
theorem Recs.at {W : World} {A : Option Addr} {n : Nat} {rs : List (List Nat)} (h : Recs W A n rs) {k : Nat} (hk : k < n) : ∃ g off r A' c', A = some ⟨g, off, none⟩ ∧ g < W.heap.size ∧ rs[k]? = some r ∧ W.cell? ⟨g, off + k, none⟩ = some (Value.slice A' r.length c') ∧ r.length ≤ c' ∧ RowN W A' r.length r := by
 obtain ⟨vs, h1, h2⟩ := h
 obtain ⟨g, off, e, hg, hc⟩ := h1.2 (by omega)
 have hv : vs[k]? = some (vs[k]'(by rw [h1.1]; exact hk)) := List.getElem?_eq_getElem _
 have hr : rs[k]? = some (rs[k]'(by rw [← h2.1, h1.1]; exact hk)) := List.getElem?_eq_getElem _
 obtain ⟨A', c', e2, h3, h4⟩ := h2.2 k _ _ hv hr
 refine ⟨g, off, _, A', c', e, hg, hr, ?_, h3, h4⟩
 rw [hc k _ hv, e2]
end Go.Proofs.YtdjnebgjdekmaaaGreatDoor
