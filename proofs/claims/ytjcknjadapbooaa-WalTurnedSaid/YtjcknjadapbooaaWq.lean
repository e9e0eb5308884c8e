/-
  Contracts of wal.Frame and wal.first, on plain lists of bytes.
-/
import Derived.Test.YtjcknjadapbooaaWm
import Derived.Test.YtjcknjadapbooaaWp
import Derived.Lib.SliceRun
import Derived.Deep.RegionWith
namespace Go.Proofs.Ytjcknjadapbooaa
open Go.RowKit
set_option linter.unusedVariables false
set_option maxRecDepth 100000

/-- The slice A of n bytes, of c at most, holds l, and may be appended to. -/
def BLine (w : World) (A : Option Addr) (n c : Nat) (l : List Nat) : Prop := bytesN l ∧ SLine 1 w A n c (cellsZ (asZ l))
section
variable {w w' : World} {A : Option Addr} {n c cap : Nat} {l : List Nat}
theorem RowN.nil : RowN w A 0 [] := ⟨rfl, fun z hz => by simp [asZ] at hz, fun h => absurd h (by omega)⟩
theorem RowN.bytes (h : RowN w A n l) : bytesN l := h.lt
theorem RowN.src (h : RowN w A n l) : Src Try.prog 1 22 (.slice A n cap) n (cellsZ (asZ l)) w := by
  have hl : (cellsZ (asZ l)).length = n := by unfold cellsZ; rw [List.length_map, asZ_length]; exact h.length
  cases A with
  | none =>
    have h0 : n = 0 := by
      rcases Nat.eq_zero_or_pos n with h0 | h0
      · exact h0
      · obtain ⟨b, off, e, _⟩ := h.cells h0; cases e
    subst h0
    have : cellsZ (asZ l) = [] := List.eq_nil_of_length_eq_zero hl
    rw [this]
    exact Src.ofNil w Try.underlying22 cap
  | some ad =>
    refine Src.ofSlice w Try.underlying22 ad n cap _ (by rw [hl, Nat.mul_one]) (fun j u hj => ?_) (one_u8 _)
    have hjl := (List.getElem?_eq_some_iff.1 hj).1
    obtain ⟨ad', e, hc⟩ := RowZ.src h (by omega)
    cases e
    exact hc j u hj
theorem BLine.row (h : BLine w A n c l) : RowN w A n l := by
  have hl : l.length = n := by have := h.2.1; unfold cellsZ at this; rw [List.length_map, asZ_length, Nat.mul_one] at this; exact this
  refine ⟨by rw [asZ_length]; exact hl, fun z hz => ?_, fun hn => ?_⟩
  · obtain ⟨x, hx, rfl⟩ := List.mem_map.1 hz
    have := h.1 x hx
    show (0 : Int) ≤ (x : Int) ∧ (x : Int) ≤ 255
    omega
  · obtain ⟨g, off, rfl, hg, hc, _⟩ := h.2.at hn
    refine ⟨g, off, rfl, hg, fun i hi => ?_⟩
    rw [hc i (by omega)]
    have hi' : i < l.length := by omega
    simp [cellsZ, asZ, hi']
theorem BLine.below (h : BLine w A n c l) (hb : Below w.heap.size w w') : BLine w' A n c l := ⟨h.1, h.2.below hb⟩
theorem BLine.len (h : BLine w A n c l) : l.length = n := h.row.length
theorem word4_of (N : Int) (m : Nat) (hm : m < 4294967296) (h : N % 4294967296 = (m : Int)) : word4 N = asZ (le4 m) := by
  unfold word4 le4 asZ
  have h0 : N % 256 = ((m % 256 : Nat) : Int) := by omega
  have h3 : m / 16777216 % 256 = m / 16777216 := Nat.mod_eq_of_lt (by omega)
  rw [h, h0, h3]
  simp only [List.map_cons, List.map_nil]
  rfl
theorem put_N (N : Int) (m : Nat) (hm : m < 4294967296) (hN : N % 4294967296 = (m : Int)) (hn : n ≤ 90000) (w : World) (hR : RowN w A n l) :
    Calls Try.prog 15 #[.slice A n cap, .int .i32 N] w fun e w' => (∃ g, e = .returned (.slice (some ⟨g, 0, none⟩) (n + 4) (n + 4)) ∧ w.heap.size ≤ g ∧ BLine w' (some ⟨g, 0, none⟩) (n + 4) (n + 4) (l ++ le4 m)) ∧ Below w.heap.size w w' := by
  refine (put_any A n cap (asZ l) N hn w hR).mono ?_
  rintro e w' ⟨⟨g, rfl, hg, hr, hl⟩, hb⟩
  rw [word4_of N m hm hN, ← asZ_append] at hl
  exact ⟨⟨g, rfl, hg, bytesN_append hR.bytes (le4_lt m), hl⟩, hb⟩
theorem getV_N (l : List Nat) (j : Nat) : getV ((asZ l).getD j 0) ((asZ l).getD (j + 1) 0) ((asZ l).getD (j + 2) 0) ((asZ l).getD (j + 3) 0) = wrap32 (getN l j : Int) := by
  unfold getV getN
  rw [asZ_getD, asZ_getD, asZ_getD, asZ_getD]
  congr 1
theorem get_N (j : Nat) (hj : j + 4 ≤ n) (hn : n ≤ 90000) (w : World) (hR : RowN w A n l) :
    Calls Try.prog 25 #[.slice A n cap, .int .i64 j] w fun e w' => e = .returned (.tuple #[.int .i32 (wrap32 (getN l j : Int)), .bool true]) ∧ w = w' := by
  have h := get_yes A n cap (asZ l) j hj hn w hR
  rw [getV_N] at h
  exact h
end
set_option maxHeartbeats 1600000 in
theorem frame_any (A : Option Addr) (n cap : Nat) (l : List Nat) (hn : n ≤ 65536) (w : World) (hR : RowN w A n l) :
    Calls Try.prog 6 #[.slice A n cap] w fun e w' => (∃ g c, e = .returned (.tuple #[.slice (some ⟨g, 0, none⟩) (n + 8) c, .int .i64 0]) ∧ w.heap.size ≤ g ∧ BLine w' (some ⟨g, 0, none⟩) (n + 8) c (frameN l)) ∧ Below w.heap.size w w' := by
  have hlen := hR.length
  have HP1 := Lib.hid (put_N (A := none) (n := 0) (cap := 0) (l := []) (n : Int) n (by omega) (by omega) (by omega) w RowN.nil)
  have HR := Lib.hid hR
  have HL := Lib.hid hlen
  have hn' : (n : Int) ≤ 65536 := by omega
  clear hR hlen
  go_enter Try.func6, Try.ntmps6
  go_wp2_with fail
  refine HP1.out.mono ?_
  rintro e w1 ⟨⟨g, rfl, hg, hl1⟩, hb1⟩
  rw [List.nil_append] at hl1
  obtain ⟨A2, c2, w2, hr, hl2, hc2, hf2, hne⟩ := sline_append 1 w1 22 5 22 _ 1 Try.underlying22 info_u8 rfl (by decide) _ 4 4 _ hl1.2 (by omega) _ n (by omega) (fun e => by cases e) _ ((HR.out.below hb1).src (cap := cap))
  have hB2 : Below w.heap.size w w2 := hb1.trans (hc2.toBelow (fun k hk => by obtain ⟨ad, ea, hb⟩ := mem_blk.1 hk; cases ea; rw [← hb]; exact hg) hb1.size)
  have hL2 : BLine w2 A2 (4 + n) c2 (headN l) := ⟨headN_lt HR.out.bytes, by
    have e : cellsZ (asZ (headN l)) = cellsZ (asZ (le4 n)) ++ cellsZ (asZ l) := by unfold headN; rw [HL.out, asZ_append, cellsZ_append]
    rw [e]; exact hl2⟩
  have HR2 := Lib.hid hr
  have HX := Lib.hid (And.intro hL2 hB2)
  obtain ⟨cc, hcc⟩ : ∃ cc, crcMore 0 (headN l) = cc := ⟨_, rfl⟩
  have hcl : cc < 4294967296 := by rw [← hcc]; exact crcMore_lt _ _
  have HC := Lib.hid (crc_any A2 (4 + n) c2 (headN l) (by omega) w2 hL2.row)
  rw [hcc] at HC
  have HCC := Lib.hid hcc
  clear hl1 hb1 hr hl2 hc2 hf2 hne hB2 hL2 hcc
  go_wp2_with (first
    | (at_builtin; refine Lib.wpList_append_run _ rfl _ _ _ _ rfl _ _ rfl rfl _ _ HR2.out ?_)
    | (go_at_call 16; refine HC.out.mono ?_; rintro e w' ⟨rfl, rfl⟩))
  refine (put_N (wrap32 (cc : Int)) cc hcl (by unfold wrap32; omega) (by omega) w2 HX.out.1.row).mono ?_
  rintro e w3 ⟨⟨g3, rfl, hg3, hl3⟩, hb3⟩
  rw [← HCC.out] at hl3
  have e8 : 4 + n + 4 = n + 8 := by omega
  rw [e8] at hl3 ⊢
  have HF := Lib.hid (And.intro hl3 (And.intro hg3 hb3))
  clear hl3 hg3 hb3
  go_wp2
  go_ret2
  exact ⟨⟨g3, n + 8, rfl, Nat.le_trans HX.out.2.size HF.out.2.1, HF.out.1⟩, HX.out.2.trans (HF.out.2.2.mono HX.out.2.size)⟩
theorem frame_big (A : Option Addr) (n cap : Nat) (hn : 65536 < n) (w : World) :
    Calls Try.prog 6 #[.slice A n cap] w fun e w' => e = .returned (.tuple #[.slice none 0 0, .int .i64 2]) ∧ w = w' := by
  have hn' : (65536 : Int) < (n : Int) := by omega
  go_enter Try.func6, Try.ntmps6
  go_wp2
  go_ret2
  exact ⟨rfl, rfl⟩
end Go.Proofs.Ytjcknjadapbooaa
