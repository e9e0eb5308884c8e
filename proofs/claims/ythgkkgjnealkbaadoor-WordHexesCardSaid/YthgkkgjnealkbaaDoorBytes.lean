/-
  Slices of bytes as lists of numbers; contracts of word.Put, word.Get and the document's Put.
-/
import Derived.Test.YthgkkgjnealkbaaDoorLives
import Derived.Test.YthgkkgjnealkbaaDoorWordMathB
import Derived.Test.YthgkkgjnealkbaaDoorRefs
import Derived.Stop.Joined
import Derived.WalkSmall
import Derived.OpenShut
import Derived.Laws.BytesArg
import Derived.Laws.BitsAllLaws
import Derived.Laws.MakeOwn
import Derived.Laws.OwnMore
import Derived.Laws.CopyOwn
import Derived.Laws.BytesString
import Derived.LoopN
namespace Go.Proofs.YthgkkgjnealkbaaDoor
open Go.RowKit

/-- WHAT A WALK IS TOLD OF A SLICE OF INTEGERS THAT CAME IN: it is nil; or it leads to a row of 'cap' cells, the numbers 'zs', the first 'len' of which are its elements; each fits its kind. -/
def IsRow (k : IntKind) (w : World) (a : Option Addr) (len cap : Nat) (zs : List Int) : Prop :=
  (a = none ∧ len = 0 ∧ cap = 0 ∧ zs = []) ∨
  ∃ x, a = some x ∧ len ≤ cap ∧ cap ≤ maxLen ∧ zs.length = cap ∧ (∀ i, i < zs.length → w.cell? (x.add i) = some (.int k (zs.getD i 0))) ∧ ∀ n ∈ zs, (Lit.int k n).wf = true

/-- The slice at A of n elements holds the bytes zs. -/
def RowZ (w : World) (A : Option Addr) (n : Nat) (zs : List Int) : Prop :=
  zs.length = n ∧ (∀ z ∈ zs, 0 ≤ z ∧ z ≤ 255) ∧ (0 < n → ∃ b off, A = some ⟨b, off, none⟩ ∧ b < w.heap.size ∧ ∀ i, i < n → w.cell? ⟨b, off + i, none⟩ = some (.int .u8 (zs.getD i 0)))
theorem RowZ.below {w w' : World} {A : Option Addr} {n : Nat} {zs : List Int} (h : RowZ w A n zs) (hb : Below w.heap.size w w') : RowZ w' A n zs := by
  refine ⟨h.1, h.2.1, fun hn => ?_⟩
  obtain ⟨b, off, e, hlt, hc⟩ := h.2.2 hn
  exact ⟨b, off, e, Nat.lt_of_lt_of_le hlt hb.size, fun i hi => (hb.cell (p := ⟨b, off + i, none⟩) hlt).trans (hc i hi)⟩
theorem RowZ.drew {w : World} {A : Option Addr} {n : Nat} {zs : List Int} (h : RowZ w A n zs) : RowZ w.drew A n zs := ⟨h.1, h.2.1, fun hn => h.2.2 hn⟩
theorem RowZ.take {w : World} {A : Option Addr} {n k : Nat} {zs : List Int} (h : RowZ w A n zs) (hk : k ≤ n) : RowZ w A k (zs.take k) := by
  refine ⟨by rw [List.length_take, h.1]; omega, fun z hz => h.2.1 z (List.mem_of_mem_take hz), fun hn => ?_⟩
  obtain ⟨b, off, e, hlt, hc⟩ := h.2.2 (by omega)
  refine ⟨b, off, e, hlt, fun i hi => ?_⟩
  rw [hc i (by omega)]
  congr 2
  simp [hi]
theorem RowZ.drop {w : World} {b : Nat} {n k : Nat} {zs : List Int} (h : RowZ w (some ⟨b, 0, none⟩) n zs) (hk : k ≤ n) : RowZ w (some ⟨b, k, none⟩) (n - k) (zs.drop k) := by
  refine ⟨by rw [List.length_drop, h.1], fun z hz => h.2.1 z (List.mem_of_mem_drop hz), fun hn => ?_⟩
  obtain ⟨b', off, e, hlt, hc⟩ := h.2.2 (by omega)
  injection e with e
  injection e with e1 e2
  subst e1
  subst e2
  refine ⟨_, k, rfl, hlt, fun i hi => ?_⟩
  have := hc (k + i) (by omega)
  rw [Nat.zero_add] at this
  rw [this]
  simp
theorem RowZ.dropAt {w : World} {b off : Nat} {n k : Nat} {zs : List Int} (h : RowZ w (some ⟨b, off, none⟩) n zs) (hk : k ≤ n) : RowZ w (some ⟨b, off + k, none⟩) (n - k) (zs.drop k) := by
  refine ⟨by rw [List.length_drop, h.1], fun z hz => h.2.1 z (List.mem_of_mem_drop hz), fun hn => ?_⟩
  obtain ⟨b', off', e, hlt, hc⟩ := h.2.2 (by omega)
  injection e with e
  injection e with e1 e2
  subst e1
  subst e2
  refine ⟨_, _, rfl, hlt, fun i hi => ?_⟩
  have := hc (k + i) (by omega)
  rw [← Nat.add_assoc] at this
  rw [this]
  simp
theorem RowZ.of_isRow {w : World} {A : Option Addr} {len cap : Nat} {zs : List Int} (h : IsRow .u8 w A len cap zs) : RowZ w A len (zs.take len) := by
  rcases h with ⟨rfl, rfl, rfl, rfl⟩ | ⟨x, rfl, hl, hm, hz, hc, hw⟩
  · exact ⟨rfl, fun z hz => by simp at hz, fun hn => absurd hn (by omega)⟩
  · refine ⟨by rw [List.length_take, hz]; omega, fun z hz => bounds_u8 (hw z (List.mem_of_mem_take hz)), fun hn => ?_⟩
    have h0 := hc 0 (by omega)
    have hsp : x.spot = none := World.cell?_spot (by simpa [Addr.add] using h0)
    obtain ⟨b, off, sp⟩ := x
    obtain rfl : sp = none := hsp
    have hadd : ∀ i, (⟨b, off, none⟩ : Addr).add i = ⟨b, off + i, none⟩ := fun i => by unfold Addr.add; split <;> simp_all
    refine ⟨b, off, rfl, ?_, fun i hi => ?_⟩
    · rcases Nat.lt_or_ge b w.heap.size with hlt | hge
      · exact hlt
      · simp [World.cell?, Addr.add, Array.getElem?_eq_none hge] at h0
    · rw [← hadd i, hc i (by omega)]
      congr 2
      simp [hi]
theorem conv_zero (w : World) (p : Option Addr) (c : Nat) : (convert 41 9 (.slice p 0 c)).run Tryd.prog w = .ok (.string ByteArray.empty) w := by
  rw [run_convert_bytes_string w 41 9 5 p 0 c Tryd.underlying41 Tryd.underlying5 Tryd.underlying9]
  cases p <;> simp [Conv.bytesToString, loadCells]
  all_goals rfl
/-- 'string(b)' at such a slice. -/
theorem conv_row {w : World} {A : Option Addr} {n : Nat} {zs : List Int} (h : RowZ w A n zs) (cap : Nat) :
    (convert 41 9 (.slice A n cap)).run Tryd.prog w = .ok (.string (strOfNums zs)) w := by
  rcases Nat.eq_zero_or_pos n with h0 | h0
  · subst h0
    have e : zs = [] := List.eq_nil_of_length_eq_zero h.1
    subst e
    exact conv_zero w A cap
  · obtain ⟨b, off, rfl, hlt, hc⟩ := h.2.2 h0
    exact run_convert_bytes_arg w 41 5 Tryd.underlying41 Tryd.underlying5 b off n cap zs h.1 hc 9 Tryd.underlying9

/-- The four bytes of a word, the lowest first. -/
def word4 (n : Int) : List Int := [n % 256, n % 4294967296 / 256 % 256, n % 4294967296 / 65536 % 256, n % 4294967296 / 16777216]
/-- The word of four bytes. -/
def getV (a b c d : Int) : Int := wrap32 (a + b * 256 + c * 65536 + d * 16777216)
theorem getV_word4 (n : Int) (h : -2147483648 ≤ n ∧ n ≤ 2147483647) : getV (n % 256) (n % 4294967296 / 256 % 256) (n % 4294967296 / 65536 % 256) (n % 4294967296 / 16777216) = n := by
  unfold getV wrap32; omega
theorem word4_getV (a b c d : Int) (ha : 0 ≤ a ∧ a ≤ 255) (hb : 0 ≤ b ∧ b ≤ 255) (hc : 0 ≤ c ∧ c ≤ 255) (hd : 0 ≤ d ∧ d ≤ 255) : word4 (getV a b c d) = [a, b, c, d] := by
  unfold word4 getV wrap32
  simp only [List.cons.injEq, and_true]
  omega

theorem info_u8 : (Tryd.prog.info? 5).map (fun i => (i.zero, i.size, i.bytes)) = some (some (.int .u8 0), 1, 1) := by kernel_rfl
def cellsZ (zs : List Int) : List Value := zs.map (Value.int .u8)
theorem cellsZ_append (a b : List Int) : cellsZ (a ++ b) = cellsZ a ++ cellsZ b := List.map_append
theorem make_bytes (n c : Nat) (hnc : n ≤ c) (hc : c ≤ 100000) (W : World) :
    (Instr.makeSlice 41 (.int .i64 (n : Int)) (.int .i64 (c : Int))).run Tryd.prog W = .ok (.slice (some ⟨W.heap.size, 0, none⟩) n c) (W.alloc (.cells (cellsZ (List.replicate c 0)).toArray 5)) := by
  obtain ⟨i0, hi, hz0, hz1, hz2⟩ := info_parts info_u8
  have h := run_make (P := Tryd.prog) W 41 5 i0 (.int .u8 0) Tryd.underlying41 hi hz0 .i64 .i64 n c (by omega) (by omega) (by rw [hz2]; omega) (by omega)
  rw [h]
  congr 3
  rw [hz1, Int.toNat_natCast, Nat.mul_one]
  apply Array.toList_inj.1
  show (madeCells #[.int .u8 0] c).toList = _
  rw [toList_madeCells_one]
  simp [cellsZ]

theorem one_u8 (zs : List Int) : ∀ u ∈ cellsZ zs, u.oneCell' = true := by
  intro u hu
  obtain ⟨z, _, rfl⟩ := List.mem_map.1 hu
  rfl
theorem RowZ.src {w : World} {A : Option Addr} {n : Nat} {zs : List Int} (h : RowZ w A n zs) (hn : 0 < n) : ∃ ad, A = some ad ∧ ∀ j v, (cellsZ zs)[j]? = some v → w.cell? (ad.add j) = some v := by
  obtain ⟨b, off, e, hlt, hc⟩ := h.2.2 hn
  refine ⟨_, e, fun j v hv => ?_⟩
  have hj : j < n := by
    have := (List.getElem?_eq_some_iff.1 hv).1
    simpa [cellsZ, h.1] using this
  have hadd : (⟨b, off, none⟩ : Addr).add j = ⟨b, off + j, none⟩ := by unfold Addr.add; split <;> simp_all
  rw [hadd, hc j hj, ← hv]
  have hj' : j < zs.length := by rw [h.1]; exact hj
  simp [cellsZ, hj']
theorem own_of_heap {w : World} {g n c : Nat} {xs ys : List Value} {B : Nat} (h : w.heap[g]? = some (.cells (xs ++ ys).toArray 5 (0, 0))) (hB : B ≤ g) (hx : xs.length = n) (hc : (xs ++ ys).length = c) (hm : c ≤ 100000) : w.ownsRow B 5 1 (.slice (some ⟨g, 0, none⟩) n c) n xs := by
  refine ⟨by omega, .inr ⟨g, c, _, rfl, hB, h, by rw [List.length_append] at hc; omega, by unfold maxLen; omega, by simp; rw [List.length_append] at hc; omega, ?_⟩⟩
  simp [hx ▸ (List.take_left' (l₁ := xs) (l₂ := ys) rfl)]
theorem new_cell (W : World) (x : Value) (T : TypeId) : ∀ j u, ([x] : List Value)[j]? = some u → (W.alloc (.cells #[x] T)).cell? ((⟨W.heap.size, 0, none⟩ : Addr).add j) = some u := by
  intro j u hu
  have hj : j = 0 := by
    have := (List.getElem?_eq_some_iff.1 hu).1
    simpa using this
  subst hj
  simp only [List.getElem?_cons_zero, Option.some.injEq] at hu
  subst hu
  simp [Addr.add]
theorem row_of_own {w : World} {B g n c : Nat} {zs : List Int} (h : w.ownsRow B 5 1 (.slice (some ⟨g, 0, none⟩) n c) n (cellsZ zs)) (hz : ∀ z ∈ zs, 0 ≤ z ∧ z ≤ 255) (hl : zs.length = n) : RowZ w (some ⟨g, 0, none⟩) n zs := by
  refine ⟨hl, hz, fun hn => ?_⟩
  have hlt : g < w.heap.size := by
    rcases h.2 with ⟨e, _⟩ | ⟨g', cap, cur, e, _, hh, _⟩
    · cases e
    · injection e with e
      injection e with e
      injection e with e
      subst e
      rcases Nat.lt_or_ge g w.heap.size with h1 | h1
      · exact h1
      · rw [Array.getElem?_eq_none h1] at hh; cases hh
  refine ⟨g, 0, rfl, hlt, fun i hi => ?_⟩
  rw [Nat.zero_add, h.cellAt i (by omega)]
  have hi' : i < zs.length := by omega
  simp [cellsZ, hi']
/-- Byte k of a word. -/
def byteI (N : Int) (k : Nat) : Int := N % 4294967296 / 256 ^ k % 256
theorem word4_bd (N : Int) : ∀ z ∈ word4 N, 0 ≤ z ∧ z ≤ 255 := by
  intro z hz
  simp only [word4, List.mem_cons, List.not_mem_nil, or_false] at hz
  omega

theorem copy_run (A : Option Addr) (n c cap : Nat) (zs Z : List Int) (w : World) (hR : RowZ w A n zs) (hZ : Z.length = c) (hnc : n ≤ c) :
    ∃ W2, (Builtin.copy_ #[41, 41] 3 #[.slice (some ⟨w.heap.size, 0, none⟩) n c, .slice A n cap]).run Tryd.prog (w.alloc (.cells (cellsZ Z).toArray 5)) = .ok (.int .i64 (n : Int)) W2 ∧
      W2.heap[w.heap.size]? = some (.cells (cellsZ zs ++ cellsZ (Z.drop n)).toArray 5 (0, 0)) ∧ Below w.heap.size w W2 := by
  have hl : (cellsZ zs).length = n := by simp [cellsZ, hR.1]
  have hB : Below w.heap.size w (w.alloc (.cells (cellsZ Z).toArray 5)) := (Below.refl _ _).alloc (Nat.le_refl _) _
  rcases Nat.eq_zero_or_pos n with h0 | h0
  · subst h0
    have e : zs = [] := List.eq_nil_of_length_eq_zero hR.1
    subst e
    refine ⟨_, run_copy_none (P := Tryd.prog) _ 41 41 3 5 _ A 0 c 0 cap Tryd.underlying41 (by kernel_rfl) rfl, ?_, hB⟩
    exact heap_alloc_new w _
  · obtain ⟨ad, rfl, hc⟩ := (hR.below hB).src h0
    have hrun := run_copy_row (P := Tryd.prog) (w.alloc (.cells (cellsZ Z).toArray 5)) 41 41 3 5 w.heap.size 0 n c ad n cap (cellsZ Z).toArray 5 (cellsZ zs) Tryd.underlying41 (by kernel_rfl) (heap_alloc_new w _) (by rw [hl]; simp) hc (by simp [cellsZ, hR.1, hZ]; omega) (one_u8 zs)
    rw [hl] at hrun
    refine ⟨_, hrun, ?_, below_setRow hB (Nat.le_refl _) _⟩
    rw [setRow_heap (w.alloc (.cells (cellsZ Z).toArray 5)) w.heap.size (cellsZ Z).toArray _ 5 (0, 0) (heap_alloc_new w _)]
    simp [cellsZ]

set_option maxHeartbeats 1000000 in
theorem put_any (A : Option Addr) (n cap : Nat) (zs : List Int) (N : Int) (hn : n ≤ 3000) (w : World) (hR : RowZ w A n zs) :
    Calls Tryd.prog 24 #[.slice A n cap, .int .i32 N] w fun e w' => (∃ g, e = .returned (.slice (some ⟨g, 0, none⟩) (n + 4) (n + 4)) ∧ RowZ w' (some ⟨g, 0, none⟩) (n + 4) (zs ++ word4 N)) ∧ Below w.heap.size w w' := by
  have hmk := make_bytes n (n + 4) (by omega) (by omega)
  rw [show ((n + 4 : Nat) : Int) = (n : Int) + 4 from by omega] at hmk
  obtain ⟨W2, hcopy, hg2, hb2⟩ := copy_run A n (n + 4) cap zs (List.replicate (n + 4) 0) w hR (by simp) (by omega)
  have HR := Lib.hid hR
  have HG := Lib.hid hg2
  obtain ⟨i0, hi, hz0, hz1, hz2⟩ := info_parts info_u8
  have HI := Lib.hid hi
  have HZ1 := Lib.hid hz1
  clear hR hi hz0 hz1 hz2 hg2
  go_enter Tryd.func24, Tryd.ntmps24
  go_wp2_with fail
  have HO : Hid (W2.ownsRow w.heap.size 5 1 (.slice (some ⟨w.heap.size, 0, none⟩) n (n + 4)) n (cellsZ zs)) :=
    Lib.hid (own_of_heap HG.out (Nat.le_refl _) (by simp [cellsZ, HR.out.1]) (by simp [cellsZ, HR.out.1]) (by omega))
  go_loopw [5, 16] (fun v i wr => ∃ k : Nat, k ≤ 4 ∧ i = .int .i64 k ∧ v = .slice (some ⟨w.heap.size, 0, none⟩) (n + k) (n + 4) ∧ Hid (wr.ownsRow w.heap.size 5 1 (.slice (some ⟨w.heap.size, 0, none⟩) (n + k) (n + 4)) (n + k) (cellsZ (zs ++ (word4 N).take k))) ∧ Below w.heap.size w wr) (fun _ i _ => 4 - (intOf i).toNat)
  case atStart => exact ⟨0, by omega, rfl, rfl, by simpa using HO, hb2⟩
  case round =>
    obtain ⟨k, hk, rfl, rfl, HO2, hbr⟩ := hrel
    have hcases : k = 0 ∨ k = 1 ∨ k = 2 ∨ k = 3 ∨ k = 4 := by omega
    rcases hcases with rfl | rfl | rfl | rfl | rfl
    · have hown := (HO2.out.alloc (.cells #[.int .u8 (N % 256)] 5))
      have HW := Lib.hid hown
      have HN := Lib.hid (new_cell wr (.int .u8 (N % 256)) 5)
      clear hown
      go_wp2_with (at_builtin; go_loud (refine wpList_append_fits _ (by rfl) (.tmp 19) (.tmp 27) 41 (by rfl) w.heap.size 5 i0 1 Tryd.underlying41 HI.out HZ1.out w.heap.size (n + 0) (n + 4) _ (by rfl) HW.out ⟨wr.heap.size, 0, none⟩ 1 1 [.int .u8 (N % 256)] (by rfl) rfl HN.out (one_u8 [N % 256]) (by omega) ?_); intro w3 hown3 hgrow3)
      have H3 : Hid (w3.ownsRow w.heap.size 5 1 (.slice (some ⟨w.heap.size, 0, none⟩) (n + 1) (n + 4)) (n + 1) (cellsZ (zs ++ (word4 N).take 1))) := by
        have e : cellsZ (zs ++ (word4 N).take 1) = cellsZ (zs ++ (word4 N).take 0) ++ [.int .u8 (N % 256)] := by simp [cellsZ, word4]
        rw [e]
        exact Lib.hid hown3
      have hb3 : Below w.heap.size w w3 := (hbr.alloc hbr.size _).grown hgrow3 (by have := hbr.size; simp; omega) (fun q hq => by injection hq with hq; omega)
      clear hown3 hgrow3
      go_wp2
      go_roundw
      case rel => exact ⟨1, by omega, rfl, rfl, H3, hb3⟩
      case measure => simp [intOf]
    · have hown := (HO2.out.alloc (.cells #[.int .u8 (N % 4294967296 / 256 % 256)] 5))
      have HW := Lib.hid hown
      have HN := Lib.hid (new_cell wr (.int .u8 (N % 4294967296 / 256 % 256)) 5)
      clear hown
      go_wp2_with (at_builtin; go_loud (refine wpList_append_fits _ (by rfl) (.tmp 19) (.tmp 27) 41 (by rfl) w.heap.size 5 i0 1 Tryd.underlying41 HI.out HZ1.out w.heap.size (n + 1) (n + 4) _ (by rfl) HW.out ⟨wr.heap.size, 0, none⟩ 1 1 [.int .u8 (N % 4294967296 / 256 % 256)] (by rfl) rfl HN.out (one_u8 [N % 4294967296 / 256 % 256]) (by omega) ?_); intro w3 hown3 hgrow3)
      have H3 : Hid (w3.ownsRow w.heap.size 5 1 (.slice (some ⟨w.heap.size, 0, none⟩) (n + 2) (n + 4)) (n + 2) (cellsZ (zs ++ (word4 N).take 2))) := by
        have e : cellsZ (zs ++ (word4 N).take 2) = cellsZ (zs ++ (word4 N).take 1) ++ [.int .u8 (N % 4294967296 / 256 % 256)] := by simp [cellsZ, word4]
        rw [e]
        exact Lib.hid hown3
      have hb3 : Below w.heap.size w w3 := (hbr.alloc hbr.size _).grown hgrow3 (by have := hbr.size; simp; omega) (fun q hq => by injection hq with hq; omega)
      clear hown3 hgrow3
      go_wp2
      go_roundw
      case rel => exact ⟨2, by omega, rfl, rfl, H3, hb3⟩
      case measure => simp [intOf]
    · have hown := (HO2.out.alloc (.cells #[.int .u8 (N % 4294967296 / 65536 % 256)] 5))
      have HW := Lib.hid hown
      have HN := Lib.hid (new_cell wr (.int .u8 (N % 4294967296 / 65536 % 256)) 5)
      clear hown
      go_wp2_with (at_builtin; go_loud (refine wpList_append_fits _ (by rfl) (.tmp 19) (.tmp 27) 41 (by rfl) w.heap.size 5 i0 1 Tryd.underlying41 HI.out HZ1.out w.heap.size (n + 2) (n + 4) _ (by rfl) HW.out ⟨wr.heap.size, 0, none⟩ 1 1 [.int .u8 (N % 4294967296 / 65536 % 256)] (by rfl) rfl HN.out (one_u8 [N % 4294967296 / 65536 % 256]) (by omega) ?_); intro w3 hown3 hgrow3)
      have H3 : Hid (w3.ownsRow w.heap.size 5 1 (.slice (some ⟨w.heap.size, 0, none⟩) (n + 3) (n + 4)) (n + 3) (cellsZ (zs ++ (word4 N).take 3))) := by
        have e : cellsZ (zs ++ (word4 N).take 3) = cellsZ (zs ++ (word4 N).take 2) ++ [.int .u8 (N % 4294967296 / 65536 % 256)] := by simp [cellsZ, word4]
        rw [e]
        exact Lib.hid hown3
      have hb3 : Below w.heap.size w w3 := (hbr.alloc hbr.size _).grown hgrow3 (by have := hbr.size; simp; omega) (fun q hq => by injection hq with hq; omega)
      clear hown3 hgrow3
      go_wp2
      go_roundw
      case rel => exact ⟨3, by omega, rfl, rfl, H3, hb3⟩
      case measure => simp [intOf]
    · have hown := (HO2.out.alloc (.cells #[.int .u8 (N % 4294967296 / 16777216)] 5))
      have HW := Lib.hid hown
      have HN := Lib.hid (new_cell wr (.int .u8 (N % 4294967296 / 16777216)) 5)
      clear hown
      go_wp2_with (at_builtin; go_loud (refine wpList_append_fits _ (by rfl) (.tmp 19) (.tmp 27) 41 (by rfl) w.heap.size 5 i0 1 Tryd.underlying41 HI.out HZ1.out w.heap.size (n + 3) (n + 4) _ (by rfl) HW.out ⟨wr.heap.size, 0, none⟩ 1 1 [.int .u8 (N % 4294967296 / 16777216)] (by rfl) rfl HN.out (one_u8 [N % 4294967296 / 16777216]) (by omega) ?_); intro w3 hown3 hgrow3)
      have H3 : Hid (w3.ownsRow w.heap.size 5 1 (.slice (some ⟨w.heap.size, 0, none⟩) (n + 4) (n + 4)) (n + 4) (cellsZ (zs ++ (word4 N).take 4))) := by
        have e : cellsZ (zs ++ (word4 N).take 4) = cellsZ (zs ++ (word4 N).take 3) ++ [.int .u8 (N % 4294967296 / 16777216)] := by simp [cellsZ, word4]
        rw [e]
        exact Lib.hid hown3
      have hb3 : Below w.heap.size w w3 := (hbr.alloc hbr.size _).grown hgrow3 (by have := hbr.size; simp; omega) (fun q hq => by injection hq with hq; omega)
      clear hown3 hgrow3
      go_wp2
      go_roundw
      case rel => exact ⟨4, by omega, rfl, rfl, H3, hb3⟩
      case measure => simp [intOf]
    · go_wp2
      go_ret
      have hl : (zs ++ word4 N).length = n + 4 := by rw [List.length_append, HR.out.1]; rfl
      have ho := HO2.out
      rw [show (word4 N).take 4 = word4 N from rfl] at ho
      exact ⟨⟨w.heap.size, rfl, row_of_own ho (fun z hz => by
        rcases List.mem_append.1 hz with hz | hz
        · exact HR.out.2.1 z hz
        · exact word4_bd N z hz) hl⟩, hbr⟩

theorem bits_put (n : Int) (h : -2147483648 ≤ n ∧ n ≤ 2147483647) (w : World) :
    Calls Tryd.prog 36 #[.int .i32 n] w fun e w' => e = .returned (.int .i64 (n % 4294967296)) ∧ w = w' := by
  by_cases hn : n < 0
  · go_enter Tryd.func36, Tryd.ntmps36
    go_wp2
    go_ret
    exact ⟨ret_int (by omega), rfl⟩
  · go_enter Tryd.func36, Tryd.ntmps36
    go_wp2
    go_ret
    exact ⟨ret_int (by omega), rfl⟩
theorem ref_put (N : Int) (hN : -2147483648 ≤ N ∧ N ≤ 2147483647) (w : World) :
    Calls Tryd.prog 25 #[.int .i32 N] w fun e w' => (∃ g, e = .returned (.slice (some ⟨g, 0, none⟩) 4 4) ∧ RowZ w' (some ⟨g, 0, none⟩) 4 (word4 N)) ∧ Below w.heap.size w w' := by
  have hB : Below w.heap.size w (w.alloc (.cells (cellsZ (word4 N)).toArray 5)) := (Below.refl _ _).alloc (Nat.le_refl _) _
  have hR : RowZ (w.alloc (.cells (cellsZ (word4 N)).toArray 5)) (some ⟨w.heap.size, 0, none⟩) 4 (word4 N) := by
    have ho : (w.alloc (.cells (cellsZ (word4 N)).toArray 5)).ownsRow w.heap.size 5 1 (.slice (some ⟨w.heap.size, 0, none⟩) 4 4) 4 (cellsZ (word4 N)) :=
      own_of_heap (ys := []) (by rw [List.append_nil]; exact heap_alloc_new w _) (Nat.le_refl _) rfl rfl (by omega)
    exact row_of_own ho (word4_bd N) rfl
  have HR := Lib.hid hR
  have HBB := Lib.hid hB
  clear hR hB
  go_enter Tryd.func25, Tryd.ntmps25
  go_wp2_with (go_at_call 36; refine (bits_put N hN _).mono ?_; rintro e w' ⟨rfl, rfl⟩)
  go_ret
  exact ⟨⟨w.heap.size, rfl, HR.out⟩, HBB.out⟩

theorem get_no (A : Option Addr) (n cap : Nat) (at_ : Int) (hat : at_ < 0 ∨ (n : Int) - 4 < at_) (hn : n ≤ 4000) (w : World) :
    Calls Tryd.prog 26 #[.slice A n cap, .int .i64 at_] w fun e w' => e = .returned (.tuple #[.int .i32 0, .bool false]) ∧ w = w' := by
  rcases hat with h | h
  · go_enter Tryd.func26, Tryd.ntmps26
    go_wp2
    go_ret2
    exact ⟨rfl, rfl⟩
  · by_cases h2 : at_ < 0
    · go_enter Tryd.func26, Tryd.ntmps26
      go_wp2
      go_ret2
      exact ⟨rfl, rfl⟩
    · go_enter Tryd.func26, Tryd.ntmps26
      go_wp2
      go_ret2
      exact ⟨rfl, rfl⟩
theorem or_join (i : Nat) (x y : Int) (hx : 0 ≤ x) (hx2 : x < ((2 ^ i : Nat) : Int)) (hy : 0 ≤ y) (hy2 : y * ((2 ^ i : Nat) : Int) < 4294967296) (hi : ((2 ^ i : Nat) : Int) ≤ 4294967296) : bits .or .u32 x (y * ((2 ^ i : Nat) : Int)) = x + y * ((2 ^ i : Nat) : Int) := by
  have hp : 0 ≤ y * ((2 ^ i : Nat) : Int) := Int.mul_nonneg hy (by omega)
  rw [u32_or x _ hx (by omega) hp hy2]
  obtain ⟨a, rfl⟩ := Int.eq_ofNat_of_zero_le hx
  obtain ⟨b, rfl⟩ := Int.eq_ofNat_of_zero_le hy
  have e : ((b : Int) * ((2 ^ i : Nat) : Int)).toNat = b * 2 ^ i := by rw [← Int.natCast_mul, Int.toNat_natCast]
  rw [e, Int.toNat_natCast, Nat.or_comm, nat_join i (b * 2 ^ i) a (Nat.mul_mod_left _ _) (by omega), Int.natCast_add, Int.natCast_mul]
  omega
theorem get_yes (A : Option Addr) (n cap : Nat) (zs : List Int) (j : Nat) (hj : j + 4 ≤ n) (hn : n ≤ 4000) (w : World) (hR : RowZ w A n zs) :
    Calls Tryd.prog 26 #[.slice A n cap, .int .i64 j] w fun e w' => e = .returned (.tuple #[.int .i32 (getV (zs.getD j 0) (zs.getD (j + 1) 0) (zs.getD (j + 2) 0) (zs.getD (j + 3) 0)), .bool true]) ∧ w = w' := by
  obtain ⟨b, off, rfl, hlt, hc⟩ := hR.2.2 (by omega)
  have c0 := hc j (by omega)
  have c1 := hc (j + 1) (by omega)
  have c2 := hc (j + 2) (by omega)
  have c3 := hc (j + 3) (by omega)
  have hz : ∀ i, i < n → 0 ≤ zs.getD i 0 ∧ zs.getD i 0 ≤ 255 := fun i hi => by
    have hi' : i < zs.length := by rw [hR.1]; exact hi
    have e : zs.getD i 0 = zs[i] := by simp [List.getD, hi']
    rw [e]
    exact hR.2.1 _ (List.getElem_mem hi')
  obtain ⟨a0, a1⟩ := hz j (by omega)
  obtain ⟨b0, b1⟩ := hz (j + 1) (by omega)
  obtain ⟨d0, d1⟩ := hz (j + 2) (by omega)
  obtain ⟨e0, e1⟩ := hz (j + 3) (by omega)
  clear hz hc hR
  generalize zs.getD j 0 = x0 at *
  generalize zs.getD (j + 1) 0 = x1 at *
  generalize zs.getD (j + 2) 0 = x2 at *
  generalize zs.getD (j + 3) 0 = x3 at *
  have o0 : bits .or .u32 0 x0 = x0 := by
    have h := or_join 0 0 x0 (by omega) (by decide) a0 (by simp; omega) (by decide)
    simpa using h
  have o1 : bits .or .u32 x0 (x1 * 256) = x0 + x1 * 256 := or_join 8 x0 x1 a0 (by simp; omega) b0 (by simp; omega) (by decide)
  have o2 : bits .or .u32 (x0 + x1 * 256) (x2 * 65536) = x0 + x1 * 256 + x2 * 65536 := or_join 16 _ x2 (by omega) (by simp; omega) d0 (by simp; omega) (by decide)
  have o3 : bits .or .u32 (x0 + x1 * 256 + x2 * 65536) (x3 * 16777216) = x0 + x1 * 256 + x2 * 65536 + x3 * 16777216 := or_join 24 _ x3 (by omega) (by simp; omega) e0 (by simp; omega) (by decide)
  go_enter Tryd.func26, Tryd.ntmps26
  go_wp2_with fail
  refine wp_loop_rounds 5 ?_
  rw [rounds_succ]
  go_wp2
  rw [rounds_succ]
  go_wp2
  rw [rounds_succ]
  go_wp2
  rw [rounds_succ]
  go_wp2
  rw [rounds_succ]
  go_wp2
  go_ret2
  exact ⟨rfl, rfl⟩

theorem getV_bd (a b c d : Int) : -2147483648 ≤ getV a b c d ∧ getV a b c d ≤ 2147483647 := wrap32_bd _
theorem word4_at {zs : List Int} {n j : Nat} (hl : zs.length = n) (hz : ∀ z ∈ zs, 0 ≤ z ∧ z ≤ 255) (hj : j + 4 ≤ n) :
    word4 (getV (zs.getD j 0) (zs.getD (j + 1) 0) (zs.getD (j + 2) 0) (zs.getD (j + 3) 0)) = (zs.drop j).take 4 := by
  have hb : ∀ i, i < n → 0 ≤ zs.getD i 0 ∧ zs.getD i 0 ≤ 255 := fun i hi => by
    have hi' : i < zs.length := by omega
    have e : zs.getD i 0 = zs[i] := by simp [List.getD, hi']
    rw [e]
    exact hz _ (List.getElem_mem hi')
  rw [word4_getV _ _ _ _ (hb _ (by omega)) (hb _ (by omega)) (hb _ (by omega)) (hb _ (by omega))]
  apply List.ext_getElem?
  intro i
  have hd : ∀ k, k < 4 → zs[j + k]? = some (zs.getD (j + k) 0) := fun k hk => by
    have hk' : j + k < zs.length := by omega
    simp [List.getD, hk']
  rw [List.getElem?_take, List.getElem?_drop]
  by_cases h4 : i < 4
  · rw [if_pos h4, hd i h4]
    have hc : i = 0 ∨ i = 1 ∨ i = 2 ∨ i = 3 := by omega
    rcases hc with rfl | rfl | rfl | rfl <;> rfl
  · rw [if_neg h4]
    exact List.getElem?_eq_none (by simp; omega)
end Go.Proofs.YthgkkgjnealkbaaDoor
