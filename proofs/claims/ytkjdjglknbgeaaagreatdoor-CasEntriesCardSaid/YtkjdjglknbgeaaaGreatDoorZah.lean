/-
  Slices of bytes as lists of numbers: reading, making, copying, growing them. No function of the program in sight.
  Contracts of digest.More, digest.Crc and the document's Crc.
  Contracts of word.Put, word.Get and the document's Put, where bytes may be many.
  Contracts of wal.Frame and wal.first, on plain lists of bytes.
  The contract of wal.first.
-/
import Derived.Test.YtkjdjglknbgeaaaGreatDoorZag
import Derived.WalkKit
import Derived.WalkSpells
import Derived.WalkLawsBesides
import Derived.IntWalk
import Derived.Lib.Hide
import Derived.Below
import Derived.Stop.Joined
import Derived.WalkSmall
import Derived.OpenShut
import Derived.Laws.BytesArg
import Derived.Laws.BitsAllLaws
import Derived.Laws.MakeOwn
import Derived.Laws.OwnMore
import Derived.Laws.CopyOwn
import Derived.Laws.BytesString
import Derived.LoopN
import Derived.Test.YtkjdjglknbgeaaaGreatDoorZab
import Derived.Lib.SliceRun
import Derived.Deep.RegionWith
namespace Go.Proofs.YtkjdjglknbgeaaaGreatDoor
open Go.RowKit
set_option linter.unusedVariables false
set_option maxRecDepth 100000

/-- WHAT A WALK IS TOLD OF A SLICE OF INTEGERS THAT CAME IN: it is nil; or it leads to a row of 'cap' cells, the numbers 'zs', the first 'len' of which are its elements; each fits its kind. -/
def IsRow (k : IntKind) (w : World) (a : Option Addr) (len cap : Nat) (zs : List Int) : Prop :=
  (a = none ∧ len = 0 ∧ cap = 0 ∧ zs = []) ∨
  ∃ x, a = some x ∧ len ≤ cap ∧ cap ≤ maxLen ∧ zs.length = cap ∧ (∀ i, i < zs.length → w.cell? (x.add i) = some (.int k (zs.getD i 0))) ∧ ∀ n ∈ zs, (Lit.int k n).wf = true

/-- The slice at A of n elements holds the bytes zs. -/
def RowZ (w : World) (A : Option Addr) (n : Nat) (zs : List Int) : Prop :=
  zs.length = n ∧ (∀ z ∈ zs, 0 ≤ z ∧ z ≤ 255) ∧ (0 < n → ∃ b off, A = some ⟨b, off, none⟩ ∧ b < w.heap.size ∧ ∀ i, i < n → w.cell? ⟨b, off + i, none⟩ = some (.int .u8 (zs.getD i 0)))
theorem RowZ.below {w w' : World} {A : Option Addr} {n : Nat} {zs : List Int} (h : RowZ w A n zs) (hb : Below w.heap.size w w') : RowZ w' A n zs := by
  refine ⟨h.1, h.2.1, fun hn => ?_⟩
  obtain ⟨b, off, e, hlt, hc⟩ := h.2.2 hn
  exact ⟨b, off, e, Nat.lt_of_lt_of_le hlt hb.size, fun i hi => (hb.cell (p := ⟨b, off + i, none⟩) hlt).trans (hc i hi)⟩
theorem RowZ.drew {w : World} {A : Option Addr} {n : Nat} {zs : List Int} (h : RowZ w A n zs) : RowZ w.drew A n zs := ⟨h.1, h.2.1, fun hn => h.2.2 hn⟩
theorem RowZ.take {w : World} {A : Option Addr} {n k : Nat} {zs : List Int} (h : RowZ w A n zs) (hk : k ≤ n) : RowZ w A k (zs.take k) := by
  refine ⟨by rw [List.length_take, h.1]; omega, fun z hz => h.2.1 z (List.mem_of_mem_take hz), fun hn => ?_⟩
  obtain ⟨b, off, e, hlt, hc⟩ := h.2.2 (by omega)
  refine ⟨b, off, e, hlt, fun i hi => ?_⟩
  rw [hc i (by omega)]
  congr 2
  simp [hi]
theorem RowZ.drop {w : World} {b : Nat} {n k : Nat} {zs : List Int} (h : RowZ w (some ⟨b, 0, none⟩) n zs) (hk : k ≤ n) : RowZ w (some ⟨b, k, none⟩) (n - k) (zs.drop k) := by
  refine ⟨by rw [List.length_drop, h.1], fun z hz => h.2.1 z (List.mem_of_mem_drop hz), fun hn => ?_⟩
  obtain ⟨b', off, e, hlt, hc⟩ := h.2.2 (by omega)
  injection e with e
  injection e with e1 e2
  subst e1
  subst e2
  refine ⟨_, k, rfl, hlt, fun i hi => ?_⟩
  have := hc (k + i) (by omega)
  rw [Nat.zero_add] at this
  rw [this]
  simp
theorem RowZ.dropAt {w : World} {b off : Nat} {n k : Nat} {zs : List Int} (h : RowZ w (some ⟨b, off, none⟩) n zs) (hk : k ≤ n) : RowZ w (some ⟨b, off + k, none⟩) (n - k) (zs.drop k) := by
  refine ⟨by rw [List.length_drop, h.1], fun z hz => h.2.1 z (List.mem_of_mem_drop hz), fun hn => ?_⟩
  obtain ⟨b', off', e, hlt, hc⟩ := h.2.2 (by omega)
  injection e with e
  injection e with e1 e2
  subst e1
  subst e2
  refine ⟨_, _, rfl, hlt, fun i hi => ?_⟩
  have := hc (k + i) (by omega)
  rw [← Nat.add_assoc] at this
  rw [this]
  simp
theorem RowZ.of_isRow {w : World} {A : Option Addr} {len cap : Nat} {zs : List Int} (h : IsRow .u8 w A len cap zs) : RowZ w A len (zs.take len) := by
  rcases h with ⟨rfl, rfl, rfl, rfl⟩ | ⟨x, rfl, hl, hm, hz, hc, hw⟩
  · exact ⟨rfl, fun z hz => by simp at hz, fun hn => absurd hn (by omega)⟩
  · refine ⟨by rw [List.length_take, hz]; omega, fun z hz => bounds_u8 (hw z (List.mem_of_mem_take hz)), fun hn => ?_⟩
    have h0 := hc 0 (by omega)
    have hsp : x.spot = none := World.cell?_spot (by simpa [Addr.add] using h0)
    obtain ⟨b, off, sp⟩ := x
    obtain rfl : sp = none := hsp
    have hadd : ∀ i, (⟨b, off, none⟩ : Addr).add i = ⟨b, off + i, none⟩ := fun i => by unfold Addr.add; split <;> simp_all
    refine ⟨b, off, rfl, ?_, fun i hi => ?_⟩
    · rcases Nat.lt_or_ge b w.heap.size with hlt | hge
      · exact hlt
      · simp [World.cell?, Addr.add, Array.getElem?_eq_none hge] at h0
    · rw [← hadd i, hc i (by omega)]
      congr 2
      simp [hi]
theorem conv_zero (w : World) (p : Option Addr) (c : Nat) : (convert 22 9 (.slice p 0 c)).run Tryz.prog w = .ok (.string ByteArray.empty) w := by
  rw [run_convert_bytes_string w 22 9 5 p 0 c Tryz.underlying22 Tryz.underlying5 Tryz.underlying9]
  cases p <;> simp [Conv.bytesToString, loadCells]
  all_goals rfl
/-- 'string(b)' at such a slice. -/
theorem conv_row {w : World} {A : Option Addr} {n : Nat} {zs : List Int} (h : RowZ w A n zs) (cap : Nat) :
    (convert 22 9 (.slice A n cap)).run Tryz.prog w = .ok (.string (strOfNums zs)) w := by
  rcases Nat.eq_zero_or_pos n with h0 | h0
  · subst h0
    have e : zs = [] := List.eq_nil_of_length_eq_zero h.1
    subst e
    exact conv_zero w A cap
  · obtain ⟨b, off, rfl, hlt, hc⟩ := h.2.2 h0
    exact run_convert_bytes_arg w 22 5 Tryz.underlying22 Tryz.underlying5 b off n cap zs h.1 hc 9 Tryz.underlying9

theorem info_u8 : (Tryz.prog.info? 5).map (fun i => (i.zero, i.size, i.bytes)) = some (some (.int .u8 0), 1, 1) := by kernel_rfl
def cellsZ (zs : List Int) : List Value := zs.map (Value.int .u8)
theorem cellsZ_append (a b : List Int) : cellsZ (a ++ b) = cellsZ a ++ cellsZ b := List.map_append
theorem make_bytes (n c : Nat) (hnc : n ≤ c) (hc : c ≤ 100000) (W : World) :
    (Instr.makeSlice 22 (.int .i64 (n : Int)) (.int .i64 (c : Int))).run Tryz.prog W = .ok (.slice (some ⟨W.heap.size, 0, none⟩) n c) (W.alloc (.cells (cellsZ (List.replicate c 0)).toArray 5)) := by
  obtain ⟨i0, hi, hz0, hz1, hz2⟩ := info_parts info_u8
  have h := run_make (P := Tryz.prog) W 22 5 i0 (.int .u8 0) Tryz.underlying22 hi hz0 .i64 .i64 n c (by omega) (by omega) (by rw [hz2]; omega) (by omega)
  rw [h]
  congr 3
  rw [hz1, Int.toNat_natCast, Nat.mul_one]
  apply Array.toList_inj.1
  show (madeCells #[.int .u8 0] c).toList = _
  rw [toList_madeCells_one]
  simp [cellsZ]

theorem one_u8 (zs : List Int) : ∀ u ∈ cellsZ zs, u.oneCell' = true := by
  intro u hu
  obtain ⟨z, _, rfl⟩ := List.mem_map.1 hu
  rfl
theorem RowZ.src {w : World} {A : Option Addr} {n : Nat} {zs : List Int} (h : RowZ w A n zs) (hn : 0 < n) : ∃ ad, A = some ad ∧ ∀ j v, (cellsZ zs)[j]? = some v → w.cell? (ad.add j) = some v := by
  obtain ⟨b, off, e, hlt, hc⟩ := h.2.2 hn
  refine ⟨_, e, fun j v hv => ?_⟩
  have hj : j < n := by
    have := (List.getElem?_eq_some_iff.1 hv).1
    simpa [cellsZ, h.1] using this
  have hadd : (⟨b, off, none⟩ : Addr).add j = ⟨b, off + j, none⟩ := by unfold Addr.add; split <;> simp_all
  rw [hadd, hc j hj, ← hv]
  have hj' : j < zs.length := by rw [h.1]; exact hj
  simp [cellsZ, hj']
theorem own_of_heap {w : World} {g n c : Nat} {xs ys : List Value} {B : Nat} (h : w.heap[g]? = some (.cells (xs ++ ys).toArray 5 (0, 0))) (hB : B ≤ g) (hx : xs.length = n) (hc : (xs ++ ys).length = c) (hm : c ≤ 100000) : w.ownsRow B 5 1 (.slice (some ⟨g, 0, none⟩) n c) n xs := by
  refine ⟨by omega, .inr ⟨g, c, _, rfl, hB, h, by rw [List.length_append] at hc; omega, by unfold maxLen; omega, by simp; rw [List.length_append] at hc; omega, ?_⟩⟩
  simp [hx ▸ (List.take_left' (l₁ := xs) (l₂ := ys) rfl)]
theorem new_cell (W : World) (x : Value) (T : TypeId) : ∀ j u, ([x] : List Value)[j]? = some u → (W.alloc (.cells #[x] T)).cell? ((⟨W.heap.size, 0, none⟩ : Addr).add j) = some u := by
  intro j u hu
  have hj : j = 0 := by
    have := (List.getElem?_eq_some_iff.1 hu).1
    simpa using this
  subst hj
  simp only [List.getElem?_cons_zero, Option.some.injEq] at hu
  subst hu
  simp [Addr.add]
theorem row_of_own {w : World} {B g n c : Nat} {zs : List Int} (h : w.ownsRow B 5 1 (.slice (some ⟨g, 0, none⟩) n c) n (cellsZ zs)) (hz : ∀ z ∈ zs, 0 ≤ z ∧ z ≤ 255) (hl : zs.length = n) : RowZ w (some ⟨g, 0, none⟩) n zs := by
  refine ⟨hl, hz, fun hn => ?_⟩
  have hlt : g < w.heap.size := by
    rcases h.2 with ⟨e, _⟩ | ⟨g', cap, cur, e, _, hh, _⟩
    · cases e
    · injection e with e
      injection e with e
      injection e with e
      subst e
      rcases Nat.lt_or_ge g w.heap.size with h1 | h1
      · exact h1
      · rw [Array.getElem?_eq_none h1] at hh; cases hh
  refine ⟨g, 0, rfl, hlt, fun i hi => ?_⟩
  rw [Nat.zero_add, h.cellAt i (by omega)]
  have hi' : i < zs.length := by omega
  simp [cellsZ, hi']
theorem copy_run (A : Option Addr) (n c cap : Nat) (zs Z : List Int) (w : World) (hR : RowZ w A n zs) (hZ : Z.length = c) (hnc : n ≤ c) :
    ∃ W2, (Builtin.copy_ #[22, 22] 3 #[.slice (some ⟨w.heap.size, 0, none⟩) n c, .slice A n cap]).run Tryz.prog (w.alloc (.cells (cellsZ Z).toArray 5)) = .ok (.int .i64 (n : Int)) W2 ∧
      W2.heap[w.heap.size]? = some (.cells (cellsZ zs ++ cellsZ (Z.drop n)).toArray 5 (0, 0)) ∧ Below w.heap.size w W2 := by
  have hl : (cellsZ zs).length = n := by simp [cellsZ, hR.1]
  have hB : Below w.heap.size w (w.alloc (.cells (cellsZ Z).toArray 5)) := (Below.refl _ _).alloc (Nat.le_refl _) _
  rcases Nat.eq_zero_or_pos n with h0 | h0
  · subst h0
    have e : zs = [] := List.eq_nil_of_length_eq_zero hR.1
    subst e
    refine ⟨_, run_copy_none (P := Tryz.prog) _ 22 22 3 5 _ A 0 c 0 cap Tryz.underlying22 (by kernel_rfl) rfl, ?_, hB⟩
    exact heap_alloc_new w _
  · obtain ⟨ad, rfl, hc⟩ := (hR.below hB).src h0
    have hrun := run_copy_row (P := Tryz.prog) (w.alloc (.cells (cellsZ Z).toArray 5)) 22 22 3 5 w.heap.size 0 n c ad n cap (cellsZ Z).toArray 5 (cellsZ zs) Tryz.underlying22 (by kernel_rfl) (heap_alloc_new w _) (by rw [hl]; simp) hc (by simp [cellsZ, hR.1, hZ]; omega) (one_u8 zs)
    rw [hl] at hrun
    refine ⟨_, hrun, ?_, below_setRow hB (Nat.le_refl _) _⟩
    rw [setRow_heap (w.alloc (.cells (cellsZ Z).toArray 5)) w.heap.size (cellsZ Z).toArray _ 5 (0, 0) (heap_alloc_new w _)]
    simp [cellsZ]

end Go.Proofs.YtkjdjglknbgeaaaGreatDoor
namespace Go.Proofs.YtkjdjglknbgeaaaGreatDoor
open Go.RowKit
set_option linter.unusedVariables false

/-- A list of numbers as integers. -/
def asZ (l : List Nat) : List Int := l.map Int.ofNat
/-- The slice at A of n elements holds the bytes l. -/
def RowN (w : World) (A : Option Addr) (n : Nat) (l : List Nat) : Prop := RowZ w A n (asZ l)
theorem asZ_append (a b : List Nat) : asZ (a ++ b) = asZ a ++ asZ b := List.map_append
theorem asZ_take (a : List Nat) (k : Nat) : asZ (a.take k) = (asZ a).take k := List.map_take
theorem asZ_length (a : List Nat) : (asZ a).length = a.length := List.length_map ..
theorem asZ_getD (l : List Nat) (i : Nat) : (asZ l).getD i 0 = ((l.getD i 0 : Nat) : Int) := by
  unfold asZ
  by_cases h : i < l.length
  · simp [List.getD, h]
  · simp [List.getD, h]
theorem RowN.length {w : World} {A : Option Addr} {n : Nat} {l : List Nat} (h : RowN w A n l) : l.length = n := by
  have := h.1
  rwa [asZ_length] at this
theorem RowN.lt {w : World} {A : Option Addr} {n : Nat} {l : List Nat} (h : RowN w A n l) : ∀ x ∈ l, x < 256 := fun x hx => by
  have := h.2.1 (x : Int) (List.mem_map.2 ⟨x, hx, rfl⟩)
  omega
theorem getD_lt {l : List Nat} {b : Nat} (hb : 0 < b) (h : ∀ x ∈ l, x < b) (i : Nat) : l.getD i 0 < b := by
  by_cases hi : i < l.length
  · have e : l.getD i 0 = l[i] := by simp [List.getD, hi]
    rw [e]
    exact h _ (List.getElem_mem hi)
  · have e : l.getD i 0 = 0 := by simp [List.getD, hi]
    omega
theorem RowN.below {w w' : World} {A : Option Addr} {n : Nat} {l : List Nat} (h : RowN w A n l) (hb : Below w.heap.size w w') : RowN w' A n l := RowZ.below h hb
theorem RowN.take {w : World} {A : Option Addr} {n k : Nat} {l : List Nat} (h : RowN w A n l) (hk : k ≤ n) : RowN w A k (l.take k) := by
  unfold RowN
  rw [asZ_take]
  exact RowZ.take h hk
theorem RowZ.toN {w : World} {A : Option Addr} {n : Nat} {zs : List Int} (h : RowZ w A n zs) : RowN w A n (zs.map Int.toNat) := by
  have e : asZ (zs.map Int.toNat) = zs := by
    unfold asZ
    rw [List.map_map]
    conv => rhs; rw [← List.map_id zs]
    apply List.map_congr_left
    intro z hz
    have := h.2.1 z hz
    show ((z.toNat : Nat) : Int) = z
    omega
  unfold RowN
  rwa [e]
/-- Where the elements lie. -/
theorem RowN.cells {w : World} {A : Option Addr} {n : Nat} {l : List Nat} (h : RowN w A n l) (hn : 0 < n) : ∃ b off, A = some ⟨b, off, none⟩ ∧ b < w.heap.size ∧ ∀ i, i < n → w.cell? ⟨b, off + i, none⟩ = some (.int .u8 ((l.getD i 0 : Nat) : Int)) := by
  obtain ⟨b, off, e, hlt, hc⟩ := h.2.2 hn
  exact ⟨b, off, e, hlt, fun i hi => by rw [hc i hi, asZ_getD]⟩
theorem take_succ_getDN {l : List Nat} {k : Nat} (hk : k < l.length) : l.take (k + 1) = l.take k ++ [l.getD k 0] := by
  rw [List.take_add_one]
  simp [hk]

theorem and_one (x m : Nat) (hx : x < 256) : bits .and .u32 ((x : Int) / 2 ^ m % 4294967296) 1 = ((x / 2 ^ m % 2 : Nat) : Int) := by
  have h1 : x / 2 ^ m ≤ x := Nat.div_le_self _ _
  have e : (x : Int) / 2 ^ m % 4294967296 = ((x / 2 ^ m : Nat) : Int) := by
    have : ((x / 2 ^ m : Nat) : Int) = (x : Int) / 2 ^ m := by simp
    rw [← this]
    exact Int.emod_eq_of_lt (Int.natCast_nonneg _) (show ((x / 2 ^ m : Nat) : Int) < ((4294967296 : Nat) : Int) from Int.ofNat_lt.2 (by omega))
  rw [e]
  have h := u32_and_nat (x / 2 ^ m) 1 (by omega) (by decide)
  rw [nat_mask1] at h
  exact h
theorem not_u32 (s : Nat) (hs : s < 4294967296) : bits .xor .u32 IntKind.u32.max (s : Int) = ((notN s : Nat) : Int) := by
  have h1 : bits .xor .u32 IntKind.u32.max (s : Int) = IntKind.u32.wrap ((BitVec.ofInt 32 4294967295 ^^^ BitVec.ofInt 32 (s : Int)).toNat : Int) := rfl
  rw [h1, show BitVec.ofInt 32 4294967295 = BitVec.allOnes 32 from by decide, BitVec.allOnes_xor, BitVec.toNat_not, ofInt_u32 s hs, IntKind.wrap_u32']
  unfold notN
  omega
theorem and_low (q : Nat) (hq : q < 4294967296) : bits .and .u32 (q : Int) 1 = ((q % 2 : Nat) : Int) := by
  have h := u32_and_nat q 1 hq (by decide)
  rwa [nat_mask1] at h
theorem poly_of (q : Nat) (hq : q < 4294967296) (ho : q % 2 = 1) : bits .xor .u32 ((q : Int) / 2) 3988292384 = ((crcStep q : Nat) : Int) := by
  have h := u32_xor_nat (q / 2) 3988292384 (by omega) (by decide)
  unfold crcStep
  rw [if_pos ho]
  exact h

set_option maxHeartbeats 400000 in
theorem more_any (A : Option Addr) (n cap : Nat) (l : List Nat) (s : Nat) (hs : s < 4294967296) (hn : n ≤ 100000) (w : World) (hR : RowN w A n l) :
    Calls Tryz.prog 113 #[.int .u32 s, .slice A n cap] w fun e w' => e = .returned (.int .u32 (crcMore s l)) ∧ w = w' := by
  have HR := Lib.hid hR
  clear hR
  have h0 := not_u32 s hs
  have h9 := not_u32 (crcFold (notN s) l) (crcFold_lt _ _ (notN_lt s))
  go_enter Tryz.func113, Tryz.ntmps113
  go_wp2
  go_loop [5, 14] (fun r i => ∃ k : Nat, k ≤ n ∧ i = .int .i64 k ∧ r = .int .u32 (crcFold (notN s) (l.take k))) (fun _ i => n - (intOf i).toNat)
  case atStart => exact ⟨0, by omega, rfl, rfl⟩
  case round =>
    obtain ⟨k, hk, rfl, rfl⟩ := hrel
    clear h0
    rcases Nat.lt_or_ge k n with hkn | hkn
    · obtain ⟨b, off, rfl, hlt, hc⟩ := HR.out.cells (by omega)
      have hck := hc k hkn
      have ET : Hid (crcFold (notN s) (l.take (k + 1)) = crcByte (crcFold (notN s) (l.take k)) (l.getD k 0)) := Lib.hid (by rw [take_succ_getDN (by rw [HR.out.length]; exact hkn), crcFold_snoc])
      have hr := crcFold_lt (l.take k) (notN s) (notN_lt s)
      have hx := getD_lt (by decide) HR.out.lt k
      clear hc hlt h9
      generalize crcFold (notN s) (l.take k) = r at *
      generalize l.getD k 0 = x at *
      have hkn' : (k : Int) < (n : Int) := by omega
      have hk0 : (0 : Int) ≤ (k : Int) := by omega
      go_wp2
      go_loop [5, 18] (fun q j => ∃ m : Nat, m ≤ 8 ∧ j = .int .i64 m ∧ q = .int .u32 (crcBits r x m)) (fun _ i => 8 - (intOf i).toNat)
      case atStart => exact ⟨0, by omega, rfl, rfl⟩
      case round =>
        obtain ⟨m, hm, rfl, rfl⟩ := hrel
        by_cases hm8 : m < 8
        · have hq := crcBits_lt r x hr m
          have hm8' : (m : Int) < 8 := by omega
          have h1 := and_one x m hx
          have h2 := u32_xor_nat (crcBits r x m) (x / 2 ^ m % 2) hq (by omega)
          have hq' : crcBits r x m ^^^ (x / 2 ^ m % 2) < 4294967296 := Nat.xor_lt_two_pow (n := 32) hq (by omega)
          have ES : Hid (crcBits r x (m + 1) = crcStep (crcBits r x m ^^^ (x / 2 ^ m % 2))) := Lib.hid rfl
          generalize x / 2 ^ m % 2 = bt at *
          generalize crcBits r x m ^^^ bt = q at *
          have h3 := and_low q hq'
          by_cases ho : q % 2 = 1
          · have h4 := poly_of q hq' ho
            rw [ho] at h3
            have h3' : bits .and .u32 (q : Int) 1 = 1 := h3
            clear h3 ho
            go_wp2
            go_round
            case rel => exact ⟨m + 1, by omega, by go_num, by rw [ES.out]⟩
            case measure => simp [intOf]; omega
          · have h5 : q % 2 = 0 := by omega
            rw [h5] at h3
            have h3' : bits .and .u32 (q : Int) 1 = 0 := h3
            have HN := Lib.hid ho
            clear h3 h5 ho
            go_wp2
            go_round
            case rel => exact ⟨m + 1, by omega, by go_num, by rw [ES.out]; unfold crcStep; rw [if_neg HN.out]; rfl⟩
            case measure => simp [intOf]; omega
        · obtain rfl : m = 8 := by omega
          go_wp2
          go_round
          case rel => exact ⟨k + 1, by omega, by go_num, by rw [ET.out]; rfl⟩
          case measure => simp [intOf]; omega
    · obtain rfl : k = n := by omega
      have EL : Hid (l.take k = l) := Lib.hid (List.take_of_length_le (by rw [HR.out.length]; omega))
      rw [EL.out]
      go_wp2
      go_ret
      exact ⟨rfl, rfl⟩

theorem crc_any (A : Option Addr) (n cap : Nat) (l : List Nat) (hn : n ≤ 100000) (w : World) (hR : RowN w A n l) :
    Calls Tryz.prog 81 #[.slice A n cap] w fun e w' => e = .returned (.int .u32 (crcMore 0 l)) ∧ w = w' := by
  have HR := Lib.hid hR
  clear hR
  go_enter Tryz.func81, Tryz.ntmps81
  go_wp2_with (go_at_call 113; refine (more_any A n cap l 0 (by decide) hn _ HR.out).mono ?_; rintro e w' ⟨rfl, rfl⟩)
  go_ret
  exact ⟨rfl, rfl⟩

theorem bne_no (q x m : Nat) (h : q % 2 = x / 2 ^ m % 2) : ((q : Int) % 2 != (x : Int) / 2 ^ m % 2) = false := by
  have e : (q : Int) % 2 = (x : Int) / 2 ^ m % 2 := by
    have := congrArg (Int.ofNat) h
    simpa using this
  rw [e]
  simp
theorem bne_yes (q x m : Nat) (h : ¬ q % 2 = x / 2 ^ m % 2) : ((q : Int) % 2 != (x : Int) / 2 ^ m % 2) = true := by
  rw [bne_iff_ne]
  intro e
  apply h
  have e1 : ((q % 2 : Nat) : Int) = ((x / 2 ^ m % 2 : Nat) : Int) := by simpa using e
  exact Int.ofNat.inj e1

set_option maxHeartbeats 400000 in
theorem refcrc_any (A : Option Addr) (n cap : Nat) (l : List Nat) (hn : n ≤ 100000) (w : World) (hR : RowN w A n l) :
    Calls Tryz.prog 84 #[.slice A n cap] w fun e w' => e = .returned (.int .u32 (crcMore 0 l)) ∧ w = w' := by
  have HR := Lib.hid hR
  clear hR
  have h9 := crcFold_lt l 4294967295 (by decide)
  go_enter Tryz.func84, Tryz.ntmps84
  go_wp2
  go_loop [3, 10] (fun r i => ∃ k : Nat, k ≤ n ∧ i = .int .i64 k ∧ r = .int .u32 (crcFold 4294967295 (l.take k))) (fun _ i => n - (intOf i).toNat)
  case atStart => exact ⟨0, by omega, rfl, rfl⟩
  case round =>
    obtain ⟨k, hk, rfl, rfl⟩ := hrel
    rcases Nat.lt_or_ge k n with hkn | hkn
    · obtain ⟨b, off, rfl, hlt, hc⟩ := HR.out.cells (by omega)
      have hck := hc k hkn
      have ET : Hid (crcFold 4294967295 (l.take (k + 1)) = crcByte (crcFold 4294967295 (l.take k)) (l.getD k 0)) := Lib.hid (by rw [take_succ_getDN (by rw [HR.out.length]; exact hkn), crcFold_snoc])
      have hr := crcFold_lt (l.take k) 4294967295 (by decide)
      have hx := getD_lt (by decide) HR.out.lt k
      clear hc hlt h9
      generalize crcFold 4294967295 (l.take k) = r at *
      generalize l.getD k 0 = x at *
      have hkn' : (k : Int) < (n : Int) := by omega
      have hk0 : (0 : Int) ≤ (k : Int) := by omega
      go_wp2
      go_loop [3, 6] (fun q j => ∃ m : Nat, m ≤ 8 ∧ j = .int .i64 m ∧ q = .int .u32 (crcBits r x m)) (fun _ i => 8 - (intOf i).toNat)
      case atStart => exact ⟨0, by omega, rfl, rfl⟩
      case round =>
        obtain ⟨m, hm, rfl, rfl⟩ := hrel
        by_cases hm8 : m < 8
        · have hq := crcBits_lt r x hr m
          have hm8' : (m : Int) < 8 := by omega
          by_cases ho : crcBits r x m % 2 = x / 2 ^ m % 2
          · have ES : Hid (crcBits r x (m + 1) = crcBits r x m / 2) := Lib.hid (crcBit_no _ _ (by omega) ho)
            have hne := bne_no _ _ _ ho
            clear ho
            generalize crcBits r x m = q at *
            go_wp2
            go_round
            case rel => exact ⟨m + 1, by omega, by go_num, by rw [ES.out]; rfl⟩
            case measure => simp [intOf]; omega
          · have ES : Hid (crcBits r x (m + 1) = (crcBits r x m / 2) ^^^ 3988292384) := Lib.hid (crcBit_yes _ _ (by omega) ho)
            have hne := bne_yes _ _ _ ho
            clear ho
            generalize crcBits r x m = q at *
            have HX : Hid (bits .xor .u32 ((q : Int) / 2) 3988292384 = (((q / 2) ^^^ 3988292384 : Nat) : Int)) := Lib.hid (u32_xor_nat (q / 2) 3988292384 (by omega) (by decide))
            go_wp2
            go_round
            case rel => exact ⟨m + 1, by omega, by go_num, by rw [ES.out, HX.out]⟩
            case measure => simp [intOf]; omega
        · obtain rfl : m = 8 := by omega
          go_wp2
          go_round
          case rel => exact ⟨k + 1, by omega, by go_num, by rw [ET.out]; rfl⟩
          case measure => simp [intOf]; omega
    · obtain rfl : k = n := by omega
      have EL : Hid (l.take k = l) := Lib.hid (List.take_of_length_le (by rw [HR.out.length]; omega))
      rw [EL.out]
      go_wp2
      go_ret
      exact ⟨ret_int (by unfold crcMore notN; rw [show 4294967295 - 0 = 4294967295 from rfl]; omega), rfl⟩
end Go.Proofs.YtkjdjglknbgeaaaGreatDoor
namespace Go.Proofs.YtkjdjglknbgeaaaGreatDoor
open Go.RowKit
set_option linter.unusedVariables false

/-- The four bytes of a word, the lowest first. -/
def word4 (n : Int) : List Int := [n % 256, n % 4294967296 / 256 % 256, n % 4294967296 / 65536 % 256, n % 4294967296 / 16777216]
/-- The word of four bytes. -/
def getV (a b c d : Int) : Int := wrap32 (a + b * 256 + c * 65536 + d * 16777216)
theorem getV_word4 (n : Int) (h : -2147483648 ≤ n ∧ n ≤ 2147483647) : getV (n % 256) (n % 4294967296 / 256 % 256) (n % 4294967296 / 65536 % 256) (n % 4294967296 / 16777216) = n := by
  unfold getV wrap32; omega
theorem word4_getV (a b c d : Int) (ha : 0 ≤ a ∧ a ≤ 255) (hb : 0 ≤ b ∧ b ≤ 255) (hc : 0 ≤ c ∧ c ≤ 255) (hd : 0 ≤ d ∧ d ≤ 255) : word4 (getV a b c d) = [a, b, c, d] := by
  unfold word4 getV wrap32
  simp only [List.cons.injEq, and_true]
  omega

/-- Byte k of a word. -/
def byteI (N : Int) (k : Nat) : Int := N % 4294967296 / 256 ^ k % 256
theorem word4_bd (N : Int) : ∀ z ∈ word4 N, 0 ≤ z ∧ z ≤ 255 := by
  intro z hz
  simp only [word4, List.mem_cons, List.not_mem_nil, or_false] at hz
  omega

theorem own_line {w : World} {B g n c : Nat} {e : TypeId} {xs : List Value} (h : w.ownsRow B e 1 (.slice (some ⟨g, 0, none⟩) n c) n xs) : SLine 1 w (some ⟨g, 0, none⟩) n c xs := by
  rcases h.2 with ⟨e, _⟩ | ⟨g', cap, cur, e1, _, hh, h1, h2, h3, h4⟩
  · cases e
  · injection e1 with e1 _ e3
    injection e1 with e1
    injection e1 with e1
    subst e1 e3
    rw [Nat.mul_one] at h3 h4
    refine ⟨h.1, h1, h2, (fun e => by cases e), fun ad e => ?_⟩
    cases e
    have hc : ∀ i, w.cell? ⟨g, 0 + i, none⟩ = cur[i]? := fun i => by rw [Nat.zero_add, cell_of_row w g i cur _ (0, 0) hh]
    refine ⟨g, 0, rfl, lt_of_block hh, fun i hi => ?_, fun i hi => ⟨?_, ?_⟩⟩
    · rw [hc, ← h4, List.getElem?_take, if_pos (by omega)]
      simp
    · rw [hc]
      simp [show i < cur.size by omega]
    · rw [Nat.zero_add]
      exact frozen_of_row w g i cur _ hh
set_option maxHeartbeats 1000000 in
theorem put_any (A : Option Addr) (n cap : Nat) (zs : List Int) (N : Int) (hn : n ≤ 90000) (w : World) (hR : RowZ w A n zs) :
    Calls Tryz.prog 80 #[.slice A n cap, .int .i32 N] w fun e w' => (∃ g, e = .returned (.slice (some ⟨g, 0, none⟩) (n + 4) (n + 4)) ∧ w.heap.size ≤ g ∧ RowZ w' (some ⟨g, 0, none⟩) (n + 4) (zs ++ word4 N) ∧ SLine 1 w' (some ⟨g, 0, none⟩) (n + 4) (n + 4) (cellsZ (zs ++ word4 N))) ∧ Below w.heap.size w w' := by
  have hmk := make_bytes n (n + 4) (by omega) (by omega)
  rw [show ((n + 4 : Nat) : Int) = (n : Int) + 4 from by omega] at hmk
  obtain ⟨W2, hcopy, hg2, hb2⟩ := copy_run A n (n + 4) cap zs (List.replicate (n + 4) 0) w hR (by simp) (by omega)
  have HR := Lib.hid hR
  have HG := Lib.hid hg2
  obtain ⟨i0, hi, hz0, hz1, hz2⟩ := info_parts info_u8
  have HI := Lib.hid hi
  have HZ1 := Lib.hid hz1
  clear hR hi hz0 hz1 hz2 hg2
  go_enter Tryz.func80, Tryz.ntmps80
  go_wp2_with fail
  have HO : Hid (W2.ownsRow w.heap.size 5 1 (.slice (some ⟨w.heap.size, 0, none⟩) n (n + 4)) n (cellsZ zs)) :=
    Lib.hid (own_of_heap HG.out (Nat.le_refl _) (by simp [cellsZ, HR.out.1]) (by simp [cellsZ, HR.out.1]) (by omega))
  go_loopw [5, 16] (fun v i wr => ∃ k : Nat, k ≤ 4 ∧ i = .int .i64 k ∧ v = .slice (some ⟨w.heap.size, 0, none⟩) (n + k) (n + 4) ∧ Hid (wr.ownsRow w.heap.size 5 1 (.slice (some ⟨w.heap.size, 0, none⟩) (n + k) (n + 4)) (n + k) (cellsZ (zs ++ (word4 N).take k))) ∧ Below w.heap.size w wr) (fun _ i _ => 4 - (intOf i).toNat)
  case atStart => exact ⟨0, by omega, rfl, rfl, by simpa using HO, hb2⟩
  case round =>
    obtain ⟨k, hk, rfl, rfl, HO2, hbr⟩ := hrel
    have hcases : k = 0 ∨ k = 1 ∨ k = 2 ∨ k = 3 ∨ k = 4 := by omega
    rcases hcases with rfl | rfl | rfl | rfl | rfl
    · have hown := (HO2.out.alloc (.cells #[.int .u8 (N % 256)] 5))
      have HW := Lib.hid hown
      have HN := Lib.hid (new_cell wr (.int .u8 (N % 256)) 5)
      clear hown
      go_wp2_with (at_builtin; go_loud (refine wpList_append_fits _ (by rfl) (.tmp 19) (.tmp 27) 22 (by rfl) w.heap.size 5 i0 1 Tryz.underlying22 HI.out HZ1.out w.heap.size (n + 0) (n + 4) _ (by rfl) HW.out ⟨wr.heap.size, 0, none⟩ 1 1 [.int .u8 (N % 256)] (by rfl) rfl HN.out (one_u8 [N % 256]) (by omega) ?_); intro w3 hown3 hgrow3)
      have H3 : Hid (w3.ownsRow w.heap.size 5 1 (.slice (some ⟨w.heap.size, 0, none⟩) (n + 1) (n + 4)) (n + 1) (cellsZ (zs ++ (word4 N).take 1))) := by
        have e : cellsZ (zs ++ (word4 N).take 1) = cellsZ (zs ++ (word4 N).take 0) ++ [.int .u8 (N % 256)] := by simp [cellsZ, word4]
        rw [e]
        exact Lib.hid hown3
      have hb3 : Below w.heap.size w w3 := (hbr.alloc hbr.size _).grown hgrow3 (by have := hbr.size; simp; omega) (fun q hq => by injection hq with hq; omega)
      clear hown3 hgrow3
      go_wp2
      go_roundw
      case rel => exact ⟨1, by omega, rfl, rfl, H3, hb3⟩
      case measure => simp [intOf]
    · have hown := (HO2.out.alloc (.cells #[.int .u8 (N % 4294967296 / 256 % 256)] 5))
      have HW := Lib.hid hown
      have HN := Lib.hid (new_cell wr (.int .u8 (N % 4294967296 / 256 % 256)) 5)
      clear hown
      go_wp2_with (at_builtin; go_loud (refine wpList_append_fits _ (by rfl) (.tmp 19) (.tmp 27) 22 (by rfl) w.heap.size 5 i0 1 Tryz.underlying22 HI.out HZ1.out w.heap.size (n + 1) (n + 4) _ (by rfl) HW.out ⟨wr.heap.size, 0, none⟩ 1 1 [.int .u8 (N % 4294967296 / 256 % 256)] (by rfl) rfl HN.out (one_u8 [N % 4294967296 / 256 % 256]) (by omega) ?_); intro w3 hown3 hgrow3)
      have H3 : Hid (w3.ownsRow w.heap.size 5 1 (.slice (some ⟨w.heap.size, 0, none⟩) (n + 2) (n + 4)) (n + 2) (cellsZ (zs ++ (word4 N).take 2))) := by
        have e : cellsZ (zs ++ (word4 N).take 2) = cellsZ (zs ++ (word4 N).take 1) ++ [.int .u8 (N % 4294967296 / 256 % 256)] := by simp [cellsZ, word4]
        rw [e]
        exact Lib.hid hown3
      have hb3 : Below w.heap.size w w3 := (hbr.alloc hbr.size _).grown hgrow3 (by have := hbr.size; simp; omega) (fun q hq => by injection hq with hq; omega)
      clear hown3 hgrow3
      go_wp2
      go_roundw
      case rel => exact ⟨2, by omega, rfl, rfl, H3, hb3⟩
      case measure => simp [intOf]
    · have hown := (HO2.out.alloc (.cells #[.int .u8 (N % 4294967296 / 65536 % 256)] 5))
      have HW := Lib.hid hown
      have HN := Lib.hid (new_cell wr (.int .u8 (N % 4294967296 / 65536 % 256)) 5)
      clear hown
      go_wp2_with (at_builtin; go_loud (refine wpList_append_fits _ (by rfl) (.tmp 19) (.tmp 27) 22 (by rfl) w.heap.size 5 i0 1 Tryz.underlying22 HI.out HZ1.out w.heap.size (n + 2) (n + 4) _ (by rfl) HW.out ⟨wr.heap.size, 0, none⟩ 1 1 [.int .u8 (N % 4294967296 / 65536 % 256)] (by rfl) rfl HN.out (one_u8 [N % 4294967296 / 65536 % 256]) (by omega) ?_); intro w3 hown3 hgrow3)
      have H3 : Hid (w3.ownsRow w.heap.size 5 1 (.slice (some ⟨w.heap.size, 0, none⟩) (n + 3) (n + 4)) (n + 3) (cellsZ (zs ++ (word4 N).take 3))) := by
        have e : cellsZ (zs ++ (word4 N).take 3) = cellsZ (zs ++ (word4 N).take 2) ++ [.int .u8 (N % 4294967296 / 65536 % 256)] := by simp [cellsZ, word4]
        rw [e]
        exact Lib.hid hown3
      have hb3 : Below w.heap.size w w3 := (hbr.alloc hbr.size _).grown hgrow3 (by have := hbr.size; simp; omega) (fun q hq => by injection hq with hq; omega)
      clear hown3 hgrow3
      go_wp2
      go_roundw
      case rel => exact ⟨3, by omega, rfl, rfl, H3, hb3⟩
      case measure => simp [intOf]
    · have hown := (HO2.out.alloc (.cells #[.int .u8 (N % 4294967296 / 16777216)] 5))
      have HW := Lib.hid hown
      have HN := Lib.hid (new_cell wr (.int .u8 (N % 4294967296 / 16777216)) 5)
      clear hown
      go_wp2_with (at_builtin; go_loud (refine wpList_append_fits _ (by rfl) (.tmp 19) (.tmp 27) 22 (by rfl) w.heap.size 5 i0 1 Tryz.underlying22 HI.out HZ1.out w.heap.size (n + 3) (n + 4) _ (by rfl) HW.out ⟨wr.heap.size, 0, none⟩ 1 1 [.int .u8 (N % 4294967296 / 16777216)] (by rfl) rfl HN.out (one_u8 [N % 4294967296 / 16777216]) (by omega) ?_); intro w3 hown3 hgrow3)
      have H3 : Hid (w3.ownsRow w.heap.size 5 1 (.slice (some ⟨w.heap.size, 0, none⟩) (n + 4) (n + 4)) (n + 4) (cellsZ (zs ++ (word4 N).take 4))) := by
        have e : cellsZ (zs ++ (word4 N).take 4) = cellsZ (zs ++ (word4 N).take 3) ++ [.int .u8 (N % 4294967296 / 16777216)] := by simp [cellsZ, word4]
        rw [e]
        exact Lib.hid hown3
      have hb3 : Below w.heap.size w w3 := (hbr.alloc hbr.size _).grown hgrow3 (by have := hbr.size; simp; omega) (fun q hq => by injection hq with hq; omega)
      clear hown3 hgrow3
      go_wp2
      go_roundw
      case rel => exact ⟨4, by omega, rfl, rfl, H3, hb3⟩
      case measure => simp [intOf]
    · go_wp2
      go_ret
      have hl : (zs ++ word4 N).length = n + 4 := by rw [List.length_append, HR.out.1]; rfl
      have ho := HO2.out
      rw [show (word4 N).take 4 = word4 N from rfl] at ho
      exact ⟨⟨w.heap.size, rfl, Nat.le_refl _, row_of_own ho (fun z hz => by
        rcases List.mem_append.1 hz with hz | hz
        · exact HR.out.2.1 z hz
        · exact word4_bd N z hz) hl, own_line ho⟩, hbr⟩

theorem bits_put (n : Int) (h : -2147483648 ≤ n ∧ n ≤ 2147483647) (w : World) :
    Calls Tryz.prog 114 #[.int .i32 n] w fun e w' => e = .returned (.int .i64 (n % 4294967296)) ∧ w = w' := by
  by_cases hn : n < 0
  · go_enter Tryz.func114, Tryz.ntmps114
    go_wp2
    go_ret
    exact ⟨ret_int (by omega), rfl⟩
  · go_enter Tryz.func114, Tryz.ntmps114
    go_wp2
    go_ret
    exact ⟨ret_int (by omega), rfl⟩
theorem ref_put (N : Int) (hN : -2147483648 ≤ N ∧ N ≤ 2147483647) (w : World) :
    Calls Tryz.prog 83 #[.int .i32 N] w fun e w' => (∃ g, e = .returned (.slice (some ⟨g, 0, none⟩) 4 4) ∧ w.heap.size ≤ g ∧ RowZ w' (some ⟨g, 0, none⟩) 4 (word4 N) ∧ SLine 1 w' (some ⟨g, 0, none⟩) 4 4 (cellsZ (word4 N))) ∧ Below w.heap.size w w' := by
  have hB : Below w.heap.size w (w.alloc (.cells (cellsZ (word4 N)).toArray 5)) := (Below.refl _ _).alloc (Nat.le_refl _) _
  have hR : RowZ (w.alloc (.cells (cellsZ (word4 N)).toArray 5)) (some ⟨w.heap.size, 0, none⟩) 4 (word4 N) := by
    have ho : (w.alloc (.cells (cellsZ (word4 N)).toArray 5)).ownsRow w.heap.size 5 1 (.slice (some ⟨w.heap.size, 0, none⟩) 4 4) 4 (cellsZ (word4 N)) :=
      own_of_heap (ys := []) (by rw [List.append_nil]; exact heap_alloc_new w _) (Nat.le_refl _) rfl rfl (by omega)
    exact row_of_own ho (word4_bd N) rfl
  have hL : SLine 1 (w.alloc (.cells (cellsZ (word4 N)).toArray 5)) (some ⟨w.heap.size, 0, none⟩) 4 4 (cellsZ (word4 N)) := by
    have ho : (w.alloc (.cells (cellsZ (word4 N)).toArray 5)).ownsRow w.heap.size 5 1 (.slice (some ⟨w.heap.size, 0, none⟩) 4 4) 4 (cellsZ (word4 N)) :=
      own_of_heap (ys := []) (by rw [List.append_nil]; exact heap_alloc_new w _) (Nat.le_refl _) rfl rfl (by omega)
    exact own_line ho
  have HR := Lib.hid (And.intro hR hL)
  have HBB := Lib.hid hB
  clear hR hB hL
  go_enter Tryz.func83, Tryz.ntmps83
  go_wp2_with (go_at_call 114; refine (bits_put N hN _).mono ?_; rintro e w' ⟨rfl, rfl⟩)
  go_ret
  exact ⟨⟨w.heap.size, rfl, Nat.le_refl _, HR.out⟩, HBB.out⟩

theorem get_no (A : Option Addr) (n cap : Nat) (at_ : Int) (hat : at_ < 0 ∨ (n : Int) - 4 < at_) (hn : n ≤ 90000) (w : World) :
    Calls Tryz.prog 149 #[.slice A n cap, .int .i64 at_] w fun e w' => e = .returned (.tuple #[.int .i32 0, .bool false]) ∧ w = w' := by
  rcases hat with h | h
  · go_enter Tryz.func149, Tryz.ntmps149
    go_wp2
    go_ret2
    exact ⟨rfl, rfl⟩
  · by_cases h2 : at_ < 0
    · go_enter Tryz.func149, Tryz.ntmps149
      go_wp2
      go_ret2
      exact ⟨rfl, rfl⟩
    · go_enter Tryz.func149, Tryz.ntmps149
      go_wp2
      go_ret2
      exact ⟨rfl, rfl⟩
theorem or_join (i : Nat) (x y : Int) (hx : 0 ≤ x) (hx2 : x < ((2 ^ i : Nat) : Int)) (hy : 0 ≤ y) (hy2 : y * ((2 ^ i : Nat) : Int) < 4294967296) (hi : ((2 ^ i : Nat) : Int) ≤ 4294967296) : bits .or .u32 x (y * ((2 ^ i : Nat) : Int)) = x + y * ((2 ^ i : Nat) : Int) := by
  have hp : 0 ≤ y * ((2 ^ i : Nat) : Int) := Int.mul_nonneg hy (by omega)
  rw [u32_or x _ hx (by omega) hp hy2]
  obtain ⟨a, rfl⟩ := Int.eq_ofNat_of_zero_le hx
  obtain ⟨b, rfl⟩ := Int.eq_ofNat_of_zero_le hy
  have e : ((b : Int) * ((2 ^ i : Nat) : Int)).toNat = b * 2 ^ i := by rw [← Int.natCast_mul, Int.toNat_natCast]
  rw [e, Int.toNat_natCast, Nat.or_comm, nat_join i (b * 2 ^ i) a (Nat.mul_mod_left _ _) (by omega), Int.natCast_add, Int.natCast_mul]
  omega
theorem get_yes (A : Option Addr) (n cap : Nat) (zs : List Int) (j : Nat) (hj : j + 4 ≤ n) (hn : n ≤ 90000) (w : World) (hR : RowZ w A n zs) :
    Calls Tryz.prog 149 #[.slice A n cap, .int .i64 j] w fun e w' => e = .returned (.tuple #[.int .i32 (getV (zs.getD j 0) (zs.getD (j + 1) 0) (zs.getD (j + 2) 0) (zs.getD (j + 3) 0)), .bool true]) ∧ w = w' := by
  obtain ⟨b, off, rfl, hlt, hc⟩ := hR.2.2 (by omega)
  have c0 := hc j (by omega)
  have c1 := hc (j + 1) (by omega)
  have c2 := hc (j + 2) (by omega)
  have c3 := hc (j + 3) (by omega)
  have hz : ∀ i, i < n → 0 ≤ zs.getD i 0 ∧ zs.getD i 0 ≤ 255 := fun i hi => by
    have hi' : i < zs.length := by rw [hR.1]; exact hi
    have e : zs.getD i 0 = zs[i] := by simp [List.getD, hi']
    rw [e]
    exact hR.2.1 _ (List.getElem_mem hi')
  obtain ⟨a0, a1⟩ := hz j (by omega)
  obtain ⟨b0, b1⟩ := hz (j + 1) (by omega)
  obtain ⟨d0, d1⟩ := hz (j + 2) (by omega)
  obtain ⟨e0, e1⟩ := hz (j + 3) (by omega)
  clear hz hc hR
  generalize zs.getD j 0 = x0 at *
  generalize zs.getD (j + 1) 0 = x1 at *
  generalize zs.getD (j + 2) 0 = x2 at *
  generalize zs.getD (j + 3) 0 = x3 at *
  have o0 : bits .or .u32 0 x0 = x0 := by
    have h := or_join 0 0 x0 (by omega) (by decide) a0 (by simp; omega) (by decide)
    simpa using h
  have o1 : bits .or .u32 x0 (x1 * 256) = x0 + x1 * 256 := or_join 8 x0 x1 a0 (by simp; omega) b0 (by simp; omega) (by decide)
  have o2 : bits .or .u32 (x0 + x1 * 256) (x2 * 65536) = x0 + x1 * 256 + x2 * 65536 := or_join 16 _ x2 (by omega) (by simp; omega) d0 (by simp; omega) (by decide)
  have o3 : bits .or .u32 (x0 + x1 * 256 + x2 * 65536) (x3 * 16777216) = x0 + x1 * 256 + x2 * 65536 + x3 * 16777216 := or_join 24 _ x3 (by omega) (by simp; omega) e0 (by simp; omega) (by decide)
  go_enter Tryz.func149, Tryz.ntmps149
  go_wp2_with fail
  refine wp_loop_rounds 5 ?_
  rw [rounds_succ]
  go_wp2
  rw [rounds_succ]
  go_wp2
  rw [rounds_succ]
  go_wp2
  rw [rounds_succ]
  go_wp2
  rw [rounds_succ]
  go_wp2
  go_ret2
  exact ⟨rfl, rfl⟩

end Go.Proofs.YtkjdjglknbgeaaaGreatDoor
namespace Go.Proofs.YtkjdjglknbgeaaaGreatDoor
open Go.RowKit
set_option linter.unusedVariables false
set_option maxRecDepth 100000

/-- The slice A of n bytes, of c at most, holds l, and may be appended to. -/
def BLine (w : World) (A : Option Addr) (n c : Nat) (l : List Nat) : Prop := bytesN l ∧ SLine 1 w A n c (cellsZ (asZ l))
section
variable {w w' : World} {A : Option Addr} {n c cap : Nat} {l : List Nat}
theorem RowN.nil : RowN w A 0 [] := ⟨rfl, fun z hz => by simp [asZ] at hz, fun h => absurd h (by omega)⟩
theorem RowN.bytes (h : RowN w A n l) : bytesN l := h.lt
theorem RowN.src (h : RowN w A n l) : Src Tryz.prog 1 22 (.slice A n cap) n (cellsZ (asZ l)) w := by
  have hl : (cellsZ (asZ l)).length = n := by unfold cellsZ; rw [List.length_map, asZ_length]; exact h.length
  cases A with
  | none =>
    have h0 : n = 0 := by
      rcases Nat.eq_zero_or_pos n with h0 | h0
      · exact h0
      · obtain ⟨b, off, e, _⟩ := h.cells h0; cases e
    subst h0
    have : cellsZ (asZ l) = [] := List.eq_nil_of_length_eq_zero hl
    rw [this]
    exact Src.ofNil w Tryz.underlying22 cap
  | some ad =>
    refine Src.ofSlice w Tryz.underlying22 ad n cap _ (by rw [hl, Nat.mul_one]) (fun j u hj => ?_) (one_u8 _)
    have hjl := (List.getElem?_eq_some_iff.1 hj).1
    obtain ⟨ad', e, hc⟩ := RowZ.src h (by omega)
    cases e
    exact hc j u hj
theorem BLine.row (h : BLine w A n c l) : RowN w A n l := by
  have hl : l.length = n := by have := h.2.1; unfold cellsZ at this; rw [List.length_map, asZ_length, Nat.mul_one] at this; exact this
  refine ⟨by rw [asZ_length]; exact hl, fun z hz => ?_, fun hn => ?_⟩
  · obtain ⟨x, hx, rfl⟩ := List.mem_map.1 hz
    have := h.1 x hx
    show (0 : Int) ≤ (x : Int) ∧ (x : Int) ≤ 255
    omega
  · obtain ⟨g, off, rfl, hg, hc, _⟩ := h.2.at hn
    refine ⟨g, off, rfl, hg, fun i hi => ?_⟩
    rw [hc i (by omega)]
    have hi' : i < l.length := by omega
    simp [cellsZ, asZ, hi']
theorem BLine.below (h : BLine w A n c l) (hb : Below w.heap.size w w') : BLine w' A n c l := ⟨h.1, h.2.below hb⟩
theorem BLine.len (h : BLine w A n c l) : l.length = n := h.row.length
theorem word4_of (N : Int) (m : Nat) (hm : m < 4294967296) (h : N % 4294967296 = (m : Int)) : word4 N = asZ (le4 m) := by
  unfold word4 le4 asZ
  have h0 : N % 256 = ((m % 256 : Nat) : Int) := by omega
  have h3 : m / 16777216 % 256 = m / 16777216 := Nat.mod_eq_of_lt (by omega)
  rw [h, h0, h3]
  simp only [List.map_cons, List.map_nil]
  rfl
theorem put_N (N : Int) (m : Nat) (hm : m < 4294967296) (hN : N % 4294967296 = (m : Int)) (hn : n ≤ 90000) (w : World) (hR : RowN w A n l) :
    Calls Tryz.prog 80 #[.slice A n cap, .int .i32 N] w fun e w' => (∃ g, e = .returned (.slice (some ⟨g, 0, none⟩) (n + 4) (n + 4)) ∧ w.heap.size ≤ g ∧ BLine w' (some ⟨g, 0, none⟩) (n + 4) (n + 4) (l ++ le4 m)) ∧ Below w.heap.size w w' := by
  refine (put_any A n cap (asZ l) N hn w hR).mono ?_
  rintro e w' ⟨⟨g, rfl, hg, hr, hl⟩, hb⟩
  rw [word4_of N m hm hN, ← asZ_append] at hl
  exact ⟨⟨g, rfl, hg, bytesN_append hR.bytes (le4_lt m), hl⟩, hb⟩
theorem getV_N (l : List Nat) (j : Nat) : getV ((asZ l).getD j 0) ((asZ l).getD (j + 1) 0) ((asZ l).getD (j + 2) 0) ((asZ l).getD (j + 3) 0) = wrap32 (getN l j : Int) := by
  unfold getV getN
  rw [asZ_getD, asZ_getD, asZ_getD, asZ_getD]
  congr 1
theorem get_N (j : Nat) (hj : j + 4 ≤ n) (hn : n ≤ 90000) (w : World) (hR : RowN w A n l) :
    Calls Tryz.prog 149 #[.slice A n cap, .int .i64 j] w fun e w' => e = .returned (.tuple #[.int .i32 (wrap32 (getN l j : Int)), .bool true]) ∧ w = w' := by
  have h := get_yes A n cap (asZ l) j hj hn w hR
  rw [getV_N] at h
  exact h
end
set_option maxHeartbeats 1600000 in
theorem frame_any (A : Option Addr) (n cap : Nat) (l : List Nat) (hn : n ≤ 65536) (w : World) (hR : RowN w A n l) :
    Calls Tryz.prog 42 #[.slice A n cap] w fun e w' => (∃ g c, e = .returned (.tuple #[.slice (some ⟨g, 0, none⟩) (n + 8) c, .int .i64 0]) ∧ w.heap.size ≤ g ∧ BLine w' (some ⟨g, 0, none⟩) (n + 8) c (frameN l)) ∧ Below w.heap.size w w' := by
  have hlen := hR.length
  have HP1 := Lib.hid (put_N (A := none) (n := 0) (cap := 0) (l := []) (n : Int) n (by omega) (by omega) (by omega) w RowN.nil)
  have HR := Lib.hid hR
  have HL := Lib.hid hlen
  have hn' : (n : Int) ≤ 65536 := by omega
  clear hR hlen
  go_enter Tryz.func42, Tryz.ntmps42
  go_wp2_with fail
  refine HP1.out.mono ?_
  rintro e w1 ⟨⟨g, rfl, hg, hl1⟩, hb1⟩
  rw [List.nil_append] at hl1
  obtain ⟨A2, c2, w2, hr, hl2, hc2, hf2, hne⟩ := sline_append 1 w1 22 5 22 _ 1 Tryz.underlying22 info_u8 rfl (by decide) _ 4 4 _ hl1.2 (by omega) _ n (by omega) (fun e => by cases e) _ ((HR.out.below hb1).src (cap := cap))
  have hB2 : Below w.heap.size w w2 := hb1.trans (hc2.toBelow (fun k hk => by obtain ⟨ad, ea, hb⟩ := mem_blk.1 hk; cases ea; rw [← hb]; exact hg) hb1.size)
  have hL2 : BLine w2 A2 (4 + n) c2 (headN l) := ⟨headN_lt HR.out.bytes, by
    have e : cellsZ (asZ (headN l)) = cellsZ (asZ (le4 n)) ++ cellsZ (asZ l) := by unfold headN; rw [HL.out, asZ_append, cellsZ_append]
    rw [e]; exact hl2⟩
  have HR2 := Lib.hid hr
  have HX := Lib.hid (And.intro hL2 hB2)
  obtain ⟨cc, hcc⟩ : ∃ cc, crcMore 0 (headN l) = cc := ⟨_, rfl⟩
  have hcl : cc < 4294967296 := by rw [← hcc]; exact crcMore_lt _ _
  have HC := Lib.hid (crc_any A2 (4 + n) c2 (headN l) (by omega) w2 hL2.row)
  rw [hcc] at HC
  have HCC := Lib.hid hcc
  clear hl1 hb1 hr hl2 hc2 hf2 hne hB2 hL2 hcc
  go_wp2_with (first
    | (at_builtin; refine Lib.wpList_append_run _ rfl _ _ _ _ rfl _ _ rfl rfl _ _ HR2.out ?_)
    | (go_at_call 81; refine HC.out.mono ?_; rintro e w' ⟨rfl, rfl⟩))
  refine (put_N (wrap32 (cc : Int)) cc hcl (by unfold wrap32; omega) (by omega) w2 HX.out.1.row).mono ?_
  rintro e w3 ⟨⟨g3, rfl, hg3, hl3⟩, hb3⟩
  rw [← HCC.out] at hl3
  have e8 : 4 + n + 4 = n + 8 := by omega
  rw [e8] at hl3 ⊢
  have HF := Lib.hid (And.intro hl3 (And.intro hg3 hb3))
  clear hl3 hg3 hb3
  go_wp2
  go_ret2
  exact ⟨⟨g3, n + 8, rfl, Nat.le_trans HX.out.2.size HF.out.2.1, HF.out.1⟩, HX.out.2.trans (HF.out.2.2.mono HX.out.2.size)⟩
theorem frame_big (A : Option Addr) (n cap : Nat) (hn : 65536 < n) (w : World) :
    Calls Tryz.prog 42 #[.slice A n cap] w fun e w' => e = .returned (.tuple #[.slice none 0 0, .int .i64 2]) ∧ w = w' := by
  have hn' : (65536 : Int) < (n : Int) := by omega
  go_enter Tryz.func42, Tryz.ntmps42
  go_wp2
  go_ret2
  exact ⟨rfl, rfl⟩
end Go.Proofs.YtkjdjglknbgeaaaGreatDoor
namespace Go.Proofs.YtkjdjglknbgeaaaGreatDoor
open Go.RowKit
set_option linter.unusedVariables false
set_option maxRecDepth 100000

/-- What first hands back. -/
def firstV (A : Option Addr) (cap : Nat) (l : List Nat) : Value := match firstN l with | none => .slice none 0 0 | some r => .slice (A.map fun a => ⟨a.block, a.off + 4, none⟩) r.length (cap - 4)
theorem wrap_back (v : Nat) (h : v < 4294967296) : wrap32 (v : Int) % 4294967296 = (v : Int) := by
  obtain ⟨k, hk⟩ := wrap32_ex (v : Int)
  rw [hk, Int.add_mul_emod_self_left]
  omega
theorem firstN_len {l : List Nat} (h : l.length < 4) : firstN l = none := by unfold firstN; rw [if_pos h]
section
variable {A : Option Addr} {n cap : Nat} {l : List Nat} {w : World}
theorem first_no0 (hn : n ≤ 90000) (hs : n < 4) : Calls Tryz.prog 119 #[.slice A n cap] w fun e w' => e = .returned (.tuple #[.slice none 0 0, .bool false]) ∧ w = w' := by
  have HG := Lib.hid (get_no A n cap 0 (.inr (by omega)) hn w)
  go_enter Tryz.func119, Tryz.ntmps119
  go_wp2_with (go_at_call 149; refine HG.out.mono ?_; rintro e w' ⟨rfl, rfl⟩)
  go_ret2
  exact ⟨rfl, rfl⟩
theorem first_no1 (hn : n ≤ 90000) (hs : 4 ≤ n) (hR : RowN w A n l) (hm : 65536 < getN l 0) : Calls Tryz.prog 119 #[.slice A n cap] w fun e w' => e = .returned (.tuple #[.slice none 0 0, .bool false]) ∧ w = w' := by
  have HG := Lib.hid (get_N (cap := cap) 0 (by omega) hn w hR)
  have hlt := getN_lt hR.bytes 0
  obtain ⟨m, hmm⟩ : ∃ m, getN l 0 = m := ⟨_, rfl⟩
  rw [hmm] at HG hm hlt
  clear hR hmm
  obtain ⟨z, hz⟩ : ∃ z, wrap32 (m : Int) = z := ⟨_, rfl⟩
  have hz' : z < 0 ∨ (0 ≤ z ∧ 65536 < z) := by unfold wrap32 at hz; omega
  rw [hz] at HG
  clear hz hm hlt
  rcases hz' with h | ⟨h0, h⟩
  · go_enter Tryz.func119, Tryz.ntmps119
    go_wp2_with (go_at_call 149; refine HG.out.mono ?_; rintro e w' ⟨rfl, rfl⟩)
    go_ret2
    exact ⟨rfl, rfl⟩
  · have h0' : ¬ z < 0 := by omega
    go_enter Tryz.func119, Tryz.ntmps119
    go_wp2_with (go_at_call 149; refine HG.out.mono ?_; rintro e w' ⟨rfl, rfl⟩)
    go_ret2
    exact ⟨rfl, rfl⟩
theorem first_no2 (hn : n ≤ 90000) (hs : 4 ≤ n) (hR : RowN w A n l) (hm : getN l 0 ≤ 65536) (h8 : n < getN l 0 + 8) : Calls Tryz.prog 119 #[.slice A n cap] w fun e w' => e = .returned (.tuple #[.slice none 0 0, .bool false]) ∧ w = w' := by
  have HG := Lib.hid (get_N (cap := cap) 0 (by omega) hn w hR)
  obtain ⟨m, hmm⟩ : ∃ m, getN l 0 = m := ⟨_, rfl⟩
  rw [hmm] at HG hm h8
  clear hR hmm
  rw [show wrap32 (m : Int) = (m : Int) from wrap32_self _ (by omega)] at HG
  have HG2 := Lib.hid (get_no A n cap (4 + (m : Int)) (.inr (by omega)) hn w)
  have hm' : (m : Int) ≤ 65536 := by omega
  have hm0 : (0 : Int) ≤ (m : Int) := by omega
  go_enter Tryz.func119, Tryz.ntmps119
  go_wp2_with fail
  refine HG.out.mono ?_
  rintro e w' ⟨rfl, rfl⟩
  go_wp2_with fail
  refine HG2.out.mono ?_
  rintro e w' ⟨rfl, rfl⟩
  go_wp2
  go_ret2
  exact ⟨rfl, rfl⟩
end
section
variable {n cap m vv cc : Nat} {g off : Nat} {w : World}
set_option maxHeartbeats 800000 in
theorem first_ends (hm' : (m : Int) ≤ 65536) (hs : (m : Int) + 8 ≤ (n : Int)) (hnc : n ≤ cap) (hcm : cap ≤ 9223372036854775807) (hw : wrap32 (vv : Int) % 4294967296 = (vv : Int)) (b : Bool) (hb : ((vv : Int) != (cc : Int)) = !b)
    (HG : Calls Tryz.prog 149 #[.slice (some ⟨g, off, none⟩) n cap, .int .i64 0] w fun e w' => e = .returned (.tuple #[.int .i32 (m : Int), .bool true]) ∧ w = w')
    (HG2 : Calls Tryz.prog 149 #[.slice (some ⟨g, off, none⟩) n cap, .int .i64 (4 + (m : Int))] w fun e w' => e = .returned (.tuple #[.int .i32 (wrap32 (vv : Int)), .bool true]) ∧ w = w')
    (HC : Calls Tryz.prog 81 #[.slice (some ⟨g, off, none⟩) (4 + m) cap] w fun e w' => e = .returned (.int .u32 (cc : Int)) ∧ w = w') :
    Calls Tryz.prog 119 #[.slice (some ⟨g, off, none⟩) n cap] w fun e w' => e = .returned (.tuple #[if b = true then .slice (some ⟨g, off + 4, none⟩) m (cap - 4) else .slice none 0 0, .bool b]) ∧ w = w' := by
  have HG := Lib.hid HG
  have HG2 := Lib.hid HG2
  have HC := Lib.hid HC
  have hm0 : (0 : Int) ≤ (m : Int) := by omega
  have hcap : (4 : Int) + (m : Int) ≤ (cap : Int) := by omega
  cases b with
  | false =>
    have hb' : ((vv : Int) != (cc : Int)) = true := hb
    clear hb
    simp only [Bool.false_eq_true, ↓reduceIte]
    go_enter Tryz.func119, Tryz.ntmps119
    go_wp2_with fail
    refine HG.out.mono ?_
    rintro e w' ⟨rfl, rfl⟩
    go_wp2_with fail
    refine HG2.out.mono ?_
    rintro e w' ⟨rfl, rfl⟩
    go_wp2_with fail
    refine HC.out.mono ?_
    rintro e w' ⟨rfl, rfl⟩
    go_wp2
    go_ret2
    exact ⟨rfl, rfl⟩
  | true =>
    have hb' : ((vv : Int) != (cc : Int)) = false := hb
    clear hb
    simp only [↓reduceIte]
    go_enter Tryz.func119, Tryz.ntmps119
    go_wp2_with fail
    refine HG.out.mono ?_
    rintro e w' ⟨rfl, rfl⟩
    go_wp2_with fail
    refine HG2.out.mono ?_
    rintro e w' ⟨rfl, rfl⟩
    go_wp2_with fail
    refine HC.out.mono ?_
    rintro e w' ⟨rfl, rfl⟩
    go_wp2
    go_ret2
    refine ⟨?_, rfl⟩
    show Ending.returned (.tuple #[.slice (some ⟨g, off + 4, none⟩) (4 + m - 4) (cap - 4), .bool true]) = _
    rw [Nat.add_sub_cancel_left]
end
theorem first_fin {n cap g off : Nat} {l : List Nat} {w : World} (m vv cc : Nat) (hf : firstN l = if vv = cc then some ((l.drop 4).take m) else none) (hlen : ((l.drop 4).take m).length = m)
    (hm' : (m : Int) ≤ 65536) (hs : (m : Int) + 8 ≤ (n : Int)) (hnc : n ≤ cap) (hcm : cap ≤ 9223372036854775807) (hw : wrap32 (vv : Int) % 4294967296 = (vv : Int))
    (HG : Calls Tryz.prog 149 #[.slice (some ⟨g, off, none⟩) n cap, .int .i64 0] w fun e w' => e = .returned (.tuple #[.int .i32 (m : Int), .bool true]) ∧ w = w')
    (HG2 : Calls Tryz.prog 149 #[.slice (some ⟨g, off, none⟩) n cap, .int .i64 (4 + (m : Int))] w fun e w' => e = .returned (.tuple #[.int .i32 (wrap32 (vv : Int)), .bool true]) ∧ w = w')
    (HC : Calls Tryz.prog 81 #[.slice (some ⟨g, off, none⟩) (4 + m) cap] w fun e w' => e = .returned (.int .u32 (cc : Int)) ∧ w = w') :
    Calls Tryz.prog 119 #[.slice (some ⟨g, off, none⟩) n cap] w fun e w' => e = .returned (.tuple #[firstV (some ⟨g, off, none⟩) cap l, .bool (firstN l).isSome]) ∧ w = w' := by
  cases hb : decide (vv = cc) with
  | true =>
    have he := of_decide_eq_true hb
    rw [if_pos he] at hf
    have e : firstV (some ⟨g, off, none⟩) cap l = .slice (some ⟨g, off + 4, none⟩) m (cap - 4) := by
      unfold firstV
      rw [hf]
      show Value.slice _ _ _ = _
      rw [hlen]
      rfl
    rw [e, hf]
    refine (first_ends hm' hs hnc hcm hw true ?_ HG HG2 HC).mono ?_
    · subst he; simp
    · rintro e w' ⟨rfl, rfl⟩
      exact ⟨rfl, rfl⟩
  | false =>
    have he := of_decide_eq_false hb
    rw [if_neg he] at hf
    have e : firstV (some ⟨g, off, none⟩) cap l = .slice none 0 0 := by
      unfold firstV
      rw [hf]
    rw [e, hf]
    refine (first_ends hm' hs hnc hcm hw false ?_ HG HG2 HC).mono ?_
    · rw [Bool.not_false, bne_iff_ne]
      intro h
      exact he (by omega)
    · rintro e w' ⟨rfl, rfl⟩
      exact ⟨rfl, rfl⟩
theorem first_any (A : Option Addr) (n cap : Nat) (l : List Nat) (hn : n ≤ 90000) (hnc : n ≤ cap) (hcm : cap ≤ 9223372036854775807) (w : World) (hR : RowN w A n l) :
    Calls Tryz.prog 119 #[.slice A n cap] w fun e w' => e = .returned (.tuple #[firstV A cap l, .bool (firstN l).isSome]) ∧ w = w' := by
  have hl := hR.length
  by_cases h4 : n < 4
  · have e : firstN l = none := firstN_len (by omega)
    unfold firstV
    rw [e]
    exact first_no0 hn h4
  by_cases hm : 65536 < getN l 0
  · have e : firstN l = none := by unfold firstN; rw [if_neg (by omega), if_pos hm]
    unfold firstV
    rw [e]
    exact first_no1 hn (by omega) hR hm
  by_cases h8 : n < getN l 0 + 8
  · have e : firstN l = none := by unfold firstN; rw [if_neg (by omega), if_neg hm, if_pos (by omega)]
    unfold firstV
    rw [e]
    exact first_no2 hn (by omega) hR (by omega) h8
  obtain ⟨g, off, rfl, _, _⟩ := hR.cells (by omega)
  obtain ⟨m, hmm⟩ : ∃ m, getN l 0 = m := ⟨_, rfl⟩
  have HG := get_N (cap := cap) 0 (by omega) hn w hR
  rw [hmm] at hm h8 HG
  obtain ⟨vv, hvv⟩ : ∃ vv, getN l (4 + m) = vv := ⟨_, rfl⟩
  obtain ⟨cc, hcc⟩ : ∃ cc, crcMore 0 (l.take (4 + m)) = cc := ⟨_, rfl⟩
  have HG2 := get_N (cap := cap) (4 + m) (by omega) hn w hR
  have HC := crc_any (some ⟨g, off, none⟩) (4 + m) cap (l.take (4 + m)) (by omega) w (hR.take (by omega))
  have hv := getN_lt hR.bytes (4 + m)
  rw [hvv] at hv HG2
  rw [hcc] at HC
  have hlen : ((l.drop 4).take m).length = m := by rw [List.length_take, List.length_drop]; omega
  have hf : firstN l = if vv = cc then some ((l.drop 4).take m) else none := by
    conv => lhs; unfold firstN
    rw [hmm, hvv, hcc, if_neg (by omega), if_neg hm, if_neg (by omega)]
  have e1 : wrap32 (m : Int) = (m : Int) := wrap32_self _ (by omega)
  have e2 : ((4 + m : Nat) : Int) = 4 + (m : Int) := by omega
  have e3 := wrap_back vv hv
  have e0 : ((0 : Nat) : Int) = 0 := rfl
  rw [e1, e0] at HG
  rw [e2] at HG2
  clear hvv hcc hmm hR
  exact first_fin m vv cc hf hlen (by omega) (by omega) hnc hcm e3 HG HG2 HC
end Go.Proofs.YtkjdjglknbgeaaaGreatDoor
