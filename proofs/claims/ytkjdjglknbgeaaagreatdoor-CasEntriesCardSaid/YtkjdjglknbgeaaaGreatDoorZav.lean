/-
  Rows of records that are read; the contract of the document's Same.
-/
import Derived.Test.YtkjdjglknbgeaaaGreatDoorZau
import Derived.Lib.Bytes
import Derived.BigQuiet
namespace Go.Proofs.YtkjdjglknbgeaaaGreatDoor
open Go.RowKit Go.Shelf
set_option linter.unusedVariables false
set_option maxRecDepth 100000

/-- The text of bytes. -/
def txt (l : List Nat) : ByteArray := strOfNums (asZ l)
theorem txt_list (l : List Nat) : (txt l).toList = l.map UInt8.ofNat := by
  unfold txt
  rw [Lib.strOfNums_toList]
  unfold Lib.bytesOf asZ
  rw [List.map_map]
  apply List.map_congr_left
  intro x _
  simp
theorem ofNat_inj {a b : List Nat} (ha : bytesN a) (hb : bytesN b) (h1 : a.map UInt8.ofNat = b.map UInt8.ofNat) : a = b := by
  have h2 : ∀ l, bytesN l → (l.map UInt8.ofNat).map UInt8.toNat = l := fun l hl => by
    rw [List.map_map]
    conv => rhs; rw [← List.map_id l]
    apply List.map_congr_left
    intro x hx
    have := hl x hx
    simp only [Function.comp, id_eq, UInt8.toNat_ofNat']
    omega
  rw [← h2 a ha, ← h2 b hb, h1]
theorem txt_beq {a b : List Nat} (ha : bytesN a) (hb : bytesN b) : ((txt a).toList == (txt b).toList) = decide (a = b) := by
  rw [txt_list, txt_list]
  by_cases h : a = b
  · subst h; simp
  · have : ¬ a.map UInt8.ofNat = b.map UInt8.ofNat := fun e => h (ofNat_inj ha hb e)
    rw [decide_eq_false h]
    exact beq_eq_false_iff_ne.2 this
/-- A slice of slices of bytes, to be read: rs. -/
def RowV (W : World) (A : Option Addr) (n : Nat) (vs : List Value) : Prop := vs.length = n ∧ (0 < n → ∃ g off, A = some ⟨g, off, none⟩ ∧ g < W.heap.size ∧ ∀ (j : Nat) (v : Value), vs[j]? = some v → W.cell? ⟨g, off + j, none⟩ = some v)
def RecsR (W : World) (vs : List Value) (rs : List (List Nat)) : Prop := vs.length = rs.length ∧ ∀ (i : Nat) (v : Value) (r : List Nat), vs[i]? = some v → rs[i]? = some r → ∃ (A : Option Addr) (c : Nat), v = Value.slice A r.length c ∧ r.length ≤ c ∧ RowN W A r.length r
def Recs (W : World) (A : Option Addr) (n : Nat) (rs : List (List Nat)) : Prop := ∃ vs, RowV W A n vs ∧ RecsR W vs rs
theorem RowV.below {W W' : World} {A : Option Addr} {n : Nat} {vs : List Value} (h : RowV W A n vs) (hb : Below W.heap.size W W') : RowV W' A n vs := by
  refine ⟨h.1, fun hn => ?_⟩
  obtain ⟨g, off, e, hg, hc⟩ := h.2 hn
  exact ⟨g, off, e, Nat.lt_of_lt_of_le hg hb.size, fun j v hv => (hb.cell (p := ⟨g, off + j, none⟩) hg).trans (hc j v hv)⟩
theorem RecsR.below {W W' : World} {vs : List Value} {rs : List (List Nat)} (h : RecsR W vs rs) (hb : Below W.heap.size W W') : RecsR W' vs rs := by
  refine ⟨h.1, fun i v r hv hr => ?_⟩
  obtain ⟨A, c, e, h1, h2⟩ := h.2 i v r hv hr
  exact ⟨A, c, e, h1, h2.below hb⟩
theorem Recs.below {W W' : World} {A : Option Addr} {n : Nat} {rs : List (List Nat)} (h : Recs W A n rs) (hb : Below W.heap.size W W') : Recs W' A n rs := by
  obtain ⟨vs, h1, h2⟩ := h
  exact ⟨vs, h1.below hb, h2.below hb⟩
theorem Recs.len {W : World} {A : Option Addr} {n : Nat} {rs : List (List Nat)} (h : Recs W A n rs) : rs.length = n := by
  obtain ⟨vs, h1, h2⟩ := h
  rw [← h2.1, h1.1]
theorem Recs.nil {W : World} {A : Option Addr} : Recs W A 0 [] := ⟨[], ⟨rfl, fun h => absurd h (by omega)⟩, rfl, fun i v r h => by simp at h⟩
/-- The slice at place k. -/
theorem Recs.at {W : World} {A : Option Addr} {n : Nat} {rs : List (List Nat)} (h : Recs W A n rs) {k : Nat} (hk : k < n) : ∃ g off r A' c', A = some ⟨g, off, none⟩ ∧ g < W.heap.size ∧ rs[k]? = some r ∧ W.cell? ⟨g, off + k, none⟩ = some (Value.slice A' r.length c') ∧ r.length ≤ c' ∧ RowN W A' r.length r := by
  obtain ⟨vs, h1, h2⟩ := h
  obtain ⟨g, off, e, hg, hc⟩ := h1.2 (by omega)
  have hv : vs[k]? = some (vs[k]'(by rw [h1.1]; exact hk)) := List.getElem?_eq_getElem _
  have hr : rs[k]? = some (rs[k]'(by rw [← h2.1, h1.1]; exact hk)) := List.getElem?_eq_getElem _
  obtain ⟨A', c', e2, h3, h4⟩ := h2.2 k _ _ hv hr
  refine ⟨g, off, _, A', c', e, hg, hr, ?_, h3, h4⟩
  rw [hc k _ hv, e2]
theorem recs_of {W : World} {B : Nat} {L : List Nat} {R : Option Addr} {n c : Nat} {vs : List Value} {rs : List (List Nat)} (h : SLine 1 W R n c vs) (hr : RecsAt W B L vs rs) : Recs W R n rs := by
  refine ⟨vs, ⟨by have := h.1; omega, fun hn => ?_⟩, hr.1, fun i v r hv hrr => ?_⟩
  · obtain ⟨g, off, e, hg, hc, _⟩ := h.at hn
    exact ⟨g, off, e, hg, fun j v hv => by
      have := (List.getElem?_eq_some_iff.1 hv).1
      rw [hc j (by rw [← h.1]; exact this), hv]⟩
  · obtain ⟨A, c, e, hb, _⟩ := hr.2 i v r hv hrr
    exact ⟨A, c, e, hb.2.2.1, hb.row⟩
set_option maxHeartbeats 800000 in
theorem same_any (w : World) (A : Option Addr) (n c : Nat) (rs : List (List Nat)) (B : Option Addr) (m d : Nat) (ss : List (List Nat)) (hA : Recs w A n rs) (hB : Recs w B m ss) (hn : n ≤ 100000) (hm : m ≤ 100000) :
    Calls Tryz.prog 27 #[.slice A n c, .slice B m d] w fun e w' => e = .returned (.bool (decide (rs = ss))) ∧ Below w.heap.size w w' := by
  have hl := hA.len
  have hl2 := hB.len
  by_cases hnm : n = m
  · subst hnm
    have HA := Lib.hid hA
    have HB := Lib.hid hB
    have HL := Lib.hid (And.intro hl hl2)
    clear hA hB hl hl2
    go_enter Tryz.func27, Tryz.ntmps27
    go_wp2
    go_loopw [13] (fun i wr => ∃ k : Nat, k ≤ n ∧ i = .int .i64 k ∧ Hid (rs.take k = ss.take k) ∧ Below w.heap.size w wr) (fun i _ => n - (intOf i).toNat)
    case atStart => exact ⟨0, by omega, rfl, Lib.hid rfl, Below.refl _ _⟩
    case round =>
      obtain ⟨k, hk, rfl, HE, hb⟩ := hrel
      rcases Nat.lt_or_ge k n with hkn | hkn
      · obtain ⟨g, off, r, A1, c1, rfl, hg, hr, hc, _, hrow⟩ := (HA.out.below hb).at hkn
        obtain ⟨g2, off2, s, B1, d1, rfl, hg2, hs, hc2, _, hrow2⟩ := (HB.out.below hb).at hkn
        have v1 := conv_row (w := wr.drew) hrow.drew c1
        have v2 := conv_row (w := wr.drew) hrow2.drew d1
        have hbq := txt_beq hrow.bytes hrow2.bytes
        unfold txt at hbq
        have HBB := Lib.hid (And.intro hb (And.intro hr hs))
        have hkn' : (k : Int) < (n : Int) := by omega
        have hk0 : (0 : Int) ≤ (k : Int) := by omega
        clear hrow hrow2 hb hr hs hg hg2
        by_cases he : r = s
        · rw [decide_eq_true he] at hbq
          have HES := Lib.hid he
          clear he
          go_wp2_with fail
          go_region
          go_wp2
          go_roundw
          case rel => exact ⟨k + 1, by omega, by go_num, Lib.hid (by rw [List.take_add_one, List.take_add_one, HE.out, HBB.out.2.1, HBB.out.2.2, HES.out]), HBB.out.1.drew⟩
          case measure => simp [intOf]; omega
        · rw [decide_eq_false he] at hbq
          have HR : Hid (decide (rs = ss) = false) := Lib.hid (decide_eq_false (fun e => by
            subst e
            have h1 := HBB.out.2.1.symm.trans HBB.out.2.2
            injection h1 with h1
            exact he h1))
          clear he
          go_wp2_with fail
          go_region
          go_wp2
          go_ret
          exact ⟨by rw [HR.out]; rfl, HBB.out.1.drew⟩
      · obtain rfl : k = n := by omega
        have HR : Hid (decide (rs = ss) = true) := Lib.hid (decide_eq_true (by
          have := HE.out
          rw [List.take_of_length_le (by rw [HL.out.1]; exact Nat.le_refl _), List.take_of_length_le (by rw [HL.out.2]; exact Nat.le_refl _)] at this
          exact this))
        have HBB := Lib.hid hb
        clear hb
        go_wp2
        go_ret
        exact ⟨by rw [HR.out]; rfl, HBB.out⟩
  · have HR : Hid (decide (rs = ss) = false) := Lib.hid (decide_eq_false (fun e => hnm (by rw [← hl, ← hl2, e])))
    have hne : ((n : Int) != (m : Int)) = true := by rw [bne_iff_ne]; omega
    clear hA hB hl hl2
    go_enter Tryz.func27, Tryz.ntmps27
    go_wp2
    go_ret
    exact ⟨by rw [HR.out]; rfl, Below.refl _ _⟩
end Go.Proofs.YtkjdjglknbgeaaaGreatDoor
