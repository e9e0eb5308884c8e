/- Slices of bytes as lists of numbers: reading, making, copying, growing them. No function of the program in sight. -/
import Derived.Test.YtdjnebgjdekmaaaGreatDoorZaf
import Derived.WalkKit
import Derived.WalkSpells
import Derived.WalkLawsBesides
import Derived.IntWalk
import Derived.Lib.Hide
import Derived.Below
import Derived.Stop.Joined
import Derived.WalkSmall
import Derived.OpenShut
import Derived.Laws.BytesArg
import Derived.Laws.BitsAllLaws
import Derived.Laws.MakeOwn
import Derived.Laws.OwnMore
import Derived.Laws.CopyOwn
import Derived.Laws.BytesString
import Derived.LoopN
import Derived.Test.YtdjnebgjdekmaaaGreatDoorZab
import Derived.Lib.SliceRun
import Derived.Deep.RegionWith
import Derived.Deep.QuietTactic
import Derived.BigQuiet
import Derived.Laws.Rows
import Derived.Laws.Tables
import Derived.RegionTactic
import Derived.ChangeAlike
import Derived.OwnWalk
set_option linter.unusedVariables false
set_option maxRecDepth 100000
namespace Go.Proofs.YtdjnebgjdekmaaaGreatDoor
open Go.RowKit
def IsRow (k : IntKind) (w : World) (a : Option Addr) (len cap : Nat) (zs : List Int) : Prop :=
 (a = none ∧ len = 0 ∧ cap = 0 ∧ zs = []) ∨
 ∃ x, a = some x ∧ len ≤ cap ∧ cap ≤ maxLen ∧ zs.length = cap ∧ (∀ i, i < zs.length → w.cell? (x.add i) = some (.int k (zs.getD i 0))) ∧ ∀ n ∈ zs, (Lit.int k n).wf = true
def RowZ (w : World) (A : Option Addr) (n : Nat) (zs : List Int) : Prop :=
 zs.length = n ∧ (∀ z ∈ zs, 0 ≤ z ∧ z ≤ 255) ∧ (0 < n → ∃ b off, A = some ⟨b, off, none⟩ ∧ b < w.heap.size ∧ ∀ i, i < n → w.cell? ⟨b, off + i, none⟩ = some (.int .u8 (zs.getD i 0)))
theorem RowZ.below {w w' : World} {A : Option Addr} {n : Nat} {zs : List Int} (h : RowZ w A n zs) (hb : Below w.heap.size w w') : RowZ w' A n zs := by
 refine ⟨h.1, h.2.1, fun hn => ?_⟩
 obtain ⟨b, off, e, hlt, hc⟩ := h.2.2 hn
 exact ⟨b, off, e, Nat.lt_of_lt_of_le hlt hb.size, fun i hi => (hb.cell (p := ⟨b, off + i, none⟩) hlt).trans (hc i hi)⟩
theorem RowZ.drew {w : World} {A : Option Addr} {n : Nat} {zs : List Int} (h : RowZ w A n zs) : RowZ w.drew A n zs := ⟨h.1, h.2.1, fun hn => h.2.2 hn⟩
theorem RowZ.take {w : World} {A : Option Addr} {n k : Nat} {zs : List Int} (h : RowZ w A n zs) (hk : k ≤ n) : RowZ w A k (zs.take k) := by
 refine ⟨by rw [List.length_take, h.1]; omega, fun z hz => h.2.1 z (List.mem_of_mem_take hz), fun hn => ?_⟩
 obtain ⟨b, off, e, hlt, hc⟩ := h.2.2 (by omega)
 refine ⟨b, off, e, hlt, fun i hi => ?_⟩
 rw [hc i (by omega)]
 congr 2
 simp [hi]
theorem RowZ.drop {w : World} {b : Nat} {n k : Nat} {zs : List Int} (h : RowZ w (some ⟨b, 0, none⟩) n zs) (hk : k ≤ n) : RowZ w (some ⟨b, k, none⟩) (n - k) (zs.drop k) := by
 refine ⟨by rw [List.length_drop, h.1], fun z hz => h.2.1 z (List.mem_of_mem_drop hz), fun hn => ?_⟩
 obtain ⟨b', off, e, hlt, hc⟩ := h.2.2 (by omega)
 injection e with e
 injection e with e1 e2
 subst e1
 subst e2
 refine ⟨_, k, rfl, hlt, fun i hi => ?_⟩
 have := hc (k + i) (by omega)
 rw [Nat.zero_add] at this
 rw [this]
 simp
theorem RowZ.dropAt {w : World} {b off : Nat} {n k : Nat} {zs : List Int} (h : RowZ w (some ⟨b, off, none⟩) n zs) (hk : k ≤ n) : RowZ w (some ⟨b, off + k, none⟩) (n - k) (zs.drop k) := by
 refine ⟨by rw [List.length_drop, h.1], fun z hz => h.2.1 z (List.mem_of_mem_drop hz), fun hn => ?_⟩
 obtain ⟨b', off', e, hlt, hc⟩ := h.2.2 (by omega)
 injection e with e
 injection e with e1 e2
 subst e1
 subst e2
 refine ⟨_, _, rfl, hlt, fun i hi => ?_⟩
 have := hc (k + i) (by omega)
 rw [← Nat.add_assoc] at this
 rw [this]
 simp
theorem RowZ.of_isRow {w : World} {A : Option Addr} {len cap : Nat} {zs : List Int} (h : IsRow .u8 w A len cap zs) : RowZ w A len (zs.take len) := by
 rcases h with ⟨rfl, rfl, rfl, rfl⟩ | ⟨x, rfl, hl, hm, hz, hc, hw⟩
 · exact ⟨rfl, fun z hz => by simp at hz, fun hn => absurd hn (by omega)⟩
 · refine ⟨by rw [List.length_take, hz]; omega, fun z hz => bounds_u8 (hw z (List.mem_of_mem_take hz)), fun hn => ?_⟩
   have h0 := hc 0 (by omega)
   have hsp : x.spot = none := World.cell?_spot (by simpa [Addr.add] using h0)
   obtain ⟨b, off, sp⟩ := x
   obtain rfl : sp = none := hsp
   have hadd : ∀ i, (⟨b, off, none⟩ : Addr).add i = ⟨b, off + i, none⟩ := fun i => by unfold Addr.add; split <;> simp_all
   refine ⟨b, off, rfl, ?_, fun i hi => ?_⟩
   · rcases Nat.lt_or_ge b w.heap.size with hlt | hge
     · exact hlt
     · simp [World.cell?, Addr.add, Array.getElem?_eq_none hge] at h0
   · rw [← hadd i, hc i (by omega)]
     congr 2
     simp [hi]
theorem conv_zero (w : World) (p : Option Addr) (c : Nat) : (convert 40 9 (.slice p 0 c)).run Tryz.prog w = .ok (.string ByteArray.empty) w := by
 rw [run_convert_bytes_string w 40 9 5 p 0 c Tryz.underlying40 Tryz.underlying5 Tryz.underlying9]
 cases p <;> simp [Conv.bytesToString, loadCells]
 all_goals rfl
theorem conv_row {w : World} {A : Option Addr} {n : Nat} {zs : List Int} (h : RowZ w A n zs) (cap : Nat) :
 (convert 40 9 (.slice A n cap)).run Tryz.prog w = .ok (.string (strOfNums zs)) w := by
 rcases Nat.eq_zero_or_pos n with h0 | h0
 · subst h0
   have e : zs = [] := List.eq_nil_of_length_eq_zero h.1
   subst e
   exact conv_zero w A cap
 · obtain ⟨b, off, rfl, hlt, hc⟩ := h.2.2 h0
   exact run_convert_bytes_arg w 40 5 Tryz.underlying40 Tryz.underlying5 b off n cap zs h.1 hc 9 Tryz.underlying9
theorem info_u8 : (Tryz.prog.info? 5).map (fun i => (i.zero, i.size, i.bytes)) = some (some (.int .u8 0), 1, 1) := by kernel_rfl
def cellsZ (zs : List Int) : List Value := zs.map (Value.int .u8)
theorem cellsZ_append (a b : List Int) : cellsZ (a ++ b) = cellsZ a ++ cellsZ b := List.map_append
theorem make_bytes (n c : Nat) (hnc : n ≤ c) (hc : c ≤ 100000) (W : World) :
 (Instr.makeSlice 40 (.int .i64 (n : Int)) (.int .i64 (c : Int))).run Tryz.prog W = .ok (.slice (some ⟨W.heap.size, 0, none⟩) n c) (W.alloc (.cells (cellsZ (List.replicate c 0)).toArray 5)) := by
 obtain ⟨i0, hi, hz0, hz1, hz2⟩ := info_parts info_u8
 have h := run_make (P := Tryz.prog) W 40 5 i0 (.int .u8 0) Tryz.underlying40 hi hz0 .i64 .i64 n c (by omega) (by omega) (by rw [hz2]; omega) (by omega)
 rw [h]
 congr 3
 rw [hz1, Int.toNat_natCast, Nat.mul_one]
 apply Array.toList_inj.1
 show (madeCells #[.int .u8 0] c).toList = _
 rw [toList_madeCells_one]
 simp [cellsZ]
theorem one_u8 (zs : List Int) : ∀ u ∈ cellsZ zs, u.oneCell' = true := by
 intro u hu
 obtain ⟨z, _, rfl⟩ := List.mem_map.1 hu
 rfl
theorem RowZ.src {w : World} {A : Option Addr} {n : Nat} {zs : List Int} (h : RowZ w A n zs) (hn : 0 < n) : ∃ ad, A = some ad ∧ ∀ j v, (cellsZ zs)[j]? = some v → w.cell? (ad.add j) = some v := by
 obtain ⟨b, off, e, hlt, hc⟩ := h.2.2 hn
 refine ⟨_, e, fun j v hv => ?_⟩
 have hj : j < n := by
  have := (List.getElem?_eq_some_iff.1 hv).1
  simpa [cellsZ, h.1] using this
 have hadd : (⟨b, off, none⟩ : Addr).add j = ⟨b, off + j, none⟩ := by unfold Addr.add; split <;> simp_all
 rw [hadd, hc j hj, ← hv]
 have hj' : j < zs.length := by rw [h.1]; exact hj
 simp [cellsZ, hj']
theorem own_of_heap {w : World} {g n c : Nat} {xs ys : List Value} {B : Nat} (h : w.heap[g]? = some (.cells (xs ++ ys).toArray 5 (0, 0))) (hB : B ≤ g) (hx : xs.length = n) (hc : (xs ++ ys).length = c) (hm : c ≤ 100000) : w.ownsRow B 5 1 (.slice (some ⟨g, 0, none⟩) n c) n xs := by
 refine ⟨by omega, .inr ⟨g, c, _, rfl, hB, h, by rw [List.length_append] at hc; omega, by unfold maxLen; omega, by simp; rw [List.length_append] at hc; omega, ?_⟩⟩
 simp [hx ▸ (List.take_left' (l₁ := xs) (l₂ := ys) rfl)]
theorem new_cell (W : World) (x : Value) (T : TypeId) : ∀ j u, ([x] : List Value)[j]? = some u → (W.alloc (.cells #[x] T)).cell? ((⟨W.heap.size, 0, none⟩ : Addr).add j) = some u := by
 intro j u hu
 have hj : j = 0 := by
  have := (List.getElem?_eq_some_iff.1 hu).1
  simpa using this
 subst hj
 simp only [List.getElem?_cons_zero, Option.some.injEq] at hu
 subst hu
 simp [Addr.add]
theorem row_of_own {w : World} {B g n c : Nat} {zs : List Int} (h : w.ownsRow B 5 1 (.slice (some ⟨g, 0, none⟩) n c) n (cellsZ zs)) (hz : ∀ z ∈ zs, 0 ≤ z ∧ z ≤ 255) (hl : zs.length = n) : RowZ w (some ⟨g, 0, none⟩) n zs := by
 refine ⟨hl, hz, fun hn => ?_⟩
 have hlt : g < w.heap.size := by
  rcases h.2 with ⟨e, _⟩ | ⟨g', cap, cur, e, _, hh, _⟩
  · cases e
  · injection e with e
    injection e with e
    injection e with e
    subst e
    rcases Nat.lt_or_ge g w.heap.size with h1 | h1
    · exact h1
    · rw [Array.getElem?_eq_none h1] at hh; cases hh
 refine ⟨g, 0, rfl, hlt, fun i hi => ?_⟩
 rw [Nat.zero_add, h.cellAt i (by omega)]
 have hi' : i < zs.length := by omega
 simp [cellsZ, hi']
theorem copy_run (A : Option Addr) (n c cap : Nat) (zs Z : List Int) (w : World) (hR : RowZ w A n zs) (hZ : Z.length = c) (hnc : n ≤ c) :
 ∃ W2, (Builtin.copy_ #[40, 40] 3 #[.slice (some ⟨w.heap.size, 0, none⟩) n c, .slice A n cap]).run Tryz.prog (w.alloc (.cells (cellsZ Z).toArray 5)) = .ok (.int .i64 (n : Int)) W2 ∧
  W2.heap[w.heap.size]? = some (.cells (cellsZ zs ++ cellsZ (Z.drop n)).toArray 5 (0, 0)) ∧ Below w.heap.size w W2 := by
 have hl : (cellsZ zs).length = n := by simp [cellsZ, hR.1]
 have hB : Below w.heap.size w (w.alloc (.cells (cellsZ Z).toArray 5)) := (Below.refl _ _).alloc (Nat.le_refl _) _
 rcases Nat.eq_zero_or_pos n with h0 | h0
 · subst h0
   have e : zs = [] := List.eq_nil_of_length_eq_zero hR.1
   subst e
   refine ⟨_, run_copy_none (P := Tryz.prog) _ 40 40 3 5 _ A 0 c 0 cap Tryz.underlying40 (by kernel_rfl) rfl, ?_, hB⟩
   exact heap_alloc_new w _
 · obtain ⟨ad, rfl, hc⟩ := (hR.below hB).src h0
   have hrun := run_copy_row (P := Tryz.prog) (w.alloc (.cells (cellsZ Z).toArray 5)) 40 40 3 5 w.heap.size 0 n c ad n cap (cellsZ Z).toArray 5 (cellsZ zs) Tryz.underlying40 (by kernel_rfl) (heap_alloc_new w _) (by rw [hl]; simp) hc (by simp [cellsZ, hR.1, hZ]; omega) (one_u8 zs)
   rw [hl] at hrun
   refine ⟨_, hrun, ?_, below_setRow hB (Nat.le_refl _) _⟩
   rw [setRow_heap (w.alloc (.cells (cellsZ Z).toArray 5)) w.heap.size (cellsZ Z).toArray _ 5 (0, 0) (heap_alloc_new w _)]
   simp [cellsZ]
def asZ (l : List Nat) : List Int := l.map Int.ofNat
def RowN (w : World) (A : Option Addr) (n : Nat) (l : List Nat) : Prop := RowZ w A n (asZ l)
theorem asZ_append (a b : List Nat) : asZ (a ++ b) = asZ a ++ asZ b := List.map_append
theorem asZ_take (a : List Nat) (k : Nat) : asZ (a.take k) = (asZ a).take k := List.map_take
theorem asZ_length (a : List Nat) : (asZ a).length = a.length := List.length_map ..
theorem asZ_getD (l : List Nat) (i : Nat) : (asZ l).getD i 0 = ((l.getD i 0 : Nat) : Int) := by
 unfold asZ
 by_cases h : i < l.length
 · simp [List.getD, h]
 · simp [List.getD, h]
theorem RowN.length {w : World} {A : Option Addr} {n : Nat} {l : List Nat} (h : RowN w A n l) : l.length = n := by
 have := h.1
 rwa [asZ_length] at this
theorem RowN.lt {w : World} {A : Option Addr} {n : Nat} {l : List Nat} (h : RowN w A n l) : ∀ x ∈ l, x < 256 := fun x hx => by
 have := h.2.1 (x : Int) (List.mem_map.2 ⟨x, hx, rfl⟩)
 omega
theorem getD_lt {l : List Nat} {b : Nat} (hb : 0 < b) (h : ∀ x ∈ l, x < b) (i : Nat) : l.getD i 0 < b := by
 by_cases hi : i < l.length
 · have e : l.getD i 0 = l[i] := by simp [List.getD, hi]
   rw [e]
   exact h _ (List.getElem_mem hi)
 · have e : l.getD i 0 = 0 := by simp [List.getD, hi]
   omega
theorem RowN.below {w w' : World} {A : Option Addr} {n : Nat} {l : List Nat} (h : RowN w A n l) (hb : Below w.heap.size w w') : RowN w' A n l := RowZ.below h hb
theorem RowN.take {w : World} {A : Option Addr} {n k : Nat} {l : List Nat} (h : RowN w A n l) (hk : k ≤ n) : RowN w A k (l.take k) := by
 unfold RowN
 rw [asZ_take]
 exact RowZ.take h hk
theorem RowZ.toN {w : World} {A : Option Addr} {n : Nat} {zs : List Int} (h : RowZ w A n zs) : RowN w A n (zs.map Int.toNat) := by
 have e : asZ (zs.map Int.toNat) = zs := by
  unfold asZ
  rw [List.map_map]
  conv => rhs; rw [← List.map_id zs]
  apply List.map_congr_left
  intro z hz
  have := h.2.1 z hz
  show ((z.toNat : Nat) : Int) = z
  omega
 unfold RowN
 rwa [e]
theorem RowN.cells {w : World} {A : Option Addr} {n : Nat} {l : List Nat} (h : RowN w A n l) (hn : 0 < n) : ∃ b off, A = some ⟨b, off, none⟩ ∧ b < w.heap.size ∧ ∀ i, i < n → w.cell? ⟨b, off + i, none⟩ = some (.int .u8 ((l.getD i 0 : Nat) : Int)) := by
 obtain ⟨b, off, e, hlt, hc⟩ := h.2.2 hn
 exact ⟨b, off, e, hlt, fun i hi => by rw [hc i hi, asZ_getD]⟩
theorem take_succ_getDN {l : List Nat} {k : Nat} (hk : k < l.length) : l.take (k + 1) = l.take k ++ [l.getD k 0] := by
 rw [List.take_add_one]
 simp [hk]
theorem and_one (x m : Nat) (hx : x < 256) : bits .and .u32 ((x : Int) / 2 ^ m % 4294967296) 1 = ((x / 2 ^ m % 2 : Nat) : Int) := by
 have h1 : x / 2 ^ m ≤ x := Nat.div_le_self _ _
 have e : (x : Int) / 2 ^ m % 4294967296 = ((x / 2 ^ m : Nat) : Int) := by
  have : ((x / 2 ^ m : Nat) : Int) = (x : Int) / 2 ^ m := by simp
  rw [← this]
  exact Int.emod_eq_of_lt (Int.natCast_nonneg _) (show ((x / 2 ^ m : Nat) : Int) < ((4294967296 : Nat) : Int) from Int.ofNat_lt.2 (by omega))
 rw [e]
 have h := u32_and_nat (x / 2 ^ m) 1 (by omega) (by decide)
 rw [nat_mask1] at h
 exact h
theorem not_u32 (s : Nat) (hs : s < 4294967296) : bits .xor .u32 IntKind.u32.max (s : Int) = ((notN s : Nat) : Int) := by
 have h1 : bits .xor .u32 IntKind.u32.max (s : Int) = IntKind.u32.wrap ((BitVec.ofInt 32 4294967295 ^^^ BitVec.ofInt 32 (s : Int)).toNat : Int) := rfl
 rw [h1, show BitVec.ofInt 32 4294967295 = BitVec.allOnes 32 from by decide, BitVec.allOnes_xor, BitVec.toNat_not, ofInt_u32 s hs, IntKind.wrap_u32']
 unfold notN
 omega
theorem and_low (q : Nat) (hq : q < 4294967296) : bits .and .u32 (q : Int) 1 = ((q % 2 : Nat) : Int) := by
 have h := u32_and_nat q 1 hq (by decide)
 rwa [nat_mask1] at h
theorem poly_of (q : Nat) (hq : q < 4294967296) (ho : q % 2 = 1) : bits .xor .u32 ((q : Int) / 2) 3988292384 = ((crcStep q : Nat) : Int) := by
 have h := u32_xor_nat (q / 2) 3988292384 (by omega) (by decide)
 unfold crcStep
 rw [if_pos ho]
 exact h
set_option maxHeartbeats 400000 in
theorem more_any (A : Option Addr) (n cap : Nat) (l : List Nat) (s : Nat) (hs : s < 4294967296) (hn : n ≤ 100000) (w : World) (hR : RowN w A n l) :
 Calls Tryz.prog 105 #[.int .u32 s, .slice A n cap] w fun e w' => e = .returned (.int .u32 (crcMore s l)) ∧ w = w' := by
 have HR := Lib.hid hR
 clear hR
 have h0 := not_u32 s hs
 have h9 := not_u32 (crcFold (notN s) l) (crcFold_lt _ _ (notN_lt s))
 go_enter Tryz.func105, Tryz.ntmps105
 go_wp2
 go_loop [5, 14] (fun r i => ∃ k : Nat, k ≤ n ∧ i = .int .i64 k ∧ r = .int .u32 (crcFold (notN s) (l.take k))) (fun _ i => n - (intOf i).toNat)
 case atStart => exact ⟨0, by omega, rfl, rfl⟩
 case round =>
  obtain ⟨k, hk, rfl, rfl⟩ := hrel
  clear h0
  rcases Nat.lt_or_ge k n with hkn | hkn
  · obtain ⟨b, off, rfl, hlt, hc⟩ := HR.out.cells (by omega)
    have hck := hc k hkn
    have ET : Hid (crcFold (notN s) (l.take (k + 1)) = crcByte (crcFold (notN s) (l.take k)) (l.getD k 0)) := Lib.hid (by rw [take_succ_getDN (by rw [HR.out.length]; exact hkn), crcFold_snoc])
    have hr := crcFold_lt (l.take k) (notN s) (notN_lt s)
    have hx := getD_lt (by decide) HR.out.lt k
    clear hc hlt h9
    generalize crcFold (notN s) (l.take k) = r at *
    generalize l.getD k 0 = x at *
    have hkn' : (k : Int) < (n : Int) := by omega
    have hk0 : (0 : Int) ≤ (k : Int) := by omega
    go_wp2
    go_loop [5, 18] (fun q j => ∃ m : Nat, m ≤ 8 ∧ j = .int .i64 m ∧ q = .int .u32 (crcBits r x m)) (fun _ i => 8 - (intOf i).toNat)
    case atStart => exact ⟨0, by omega, rfl, rfl⟩
    case round =>
     obtain ⟨m, hm, rfl, rfl⟩ := hrel
     by_cases hm8 : m < 8
     · have hq := crcBits_lt r x hr m
       have hm8' : (m : Int) < 8 := by omega
       have h1 := and_one x m hx
       have h2 := u32_xor_nat (crcBits r x m) (x / 2 ^ m % 2) hq (by omega)
       have hq' : crcBits r x m ^^^ (x / 2 ^ m % 2) < 4294967296 := Nat.xor_lt_two_pow (n := 32) hq (by omega)
       have ES : Hid (crcBits r x (m + 1) = crcStep (crcBits r x m ^^^ (x / 2 ^ m % 2))) := Lib.hid rfl
       generalize x / 2 ^ m % 2 = bt at *
       generalize crcBits r x m ^^^ bt = q at *
       have h3 := and_low q hq'
       by_cases ho : q % 2 = 1
       · have h4 := poly_of q hq' ho
         rw [ho] at h3
         have h3' : bits .and .u32 (q : Int) 1 = 1 := h3
         clear h3 ho
         go_wp2
         go_round
         case rel => exact ⟨m + 1, by omega, by go_num, by rw [ES.out]⟩
         case measure => simp [intOf]; omega
       · have h5 : q % 2 = 0 := by omega
         rw [h5] at h3
         have h3' : bits .and .u32 (q : Int) 1 = 0 := h3
         have HN := Lib.hid ho
         clear h3 h5 ho
         go_wp2
         go_round
         case rel => exact ⟨m + 1, by omega, by go_num, by rw [ES.out]; unfold crcStep; rw [if_neg HN.out]; rfl⟩
         case measure => simp [intOf]; omega
     · obtain rfl : m = 8 := by omega
       go_wp2
       go_round
       case rel => exact ⟨k + 1, by omega, by go_num, by rw [ET.out]; rfl⟩
       case measure => simp [intOf]; omega
  · obtain rfl : k = n := by omega
    have EL : Hid (l.take k = l) := Lib.hid (List.take_of_length_le (by rw [HR.out.length]; omega))
    rw [EL.out]
    go_wp2
    go_ret
    exact ⟨rfl, rfl⟩
theorem crc_any (A : Option Addr) (n cap : Nat) (l : List Nat) (hn : n ≤ 100000) (w : World) (hR : RowN w A n l) :
 Calls Tryz.prog 88 #[.slice A n cap] w fun e w' => e = .returned (.int .u32 (crcMore 0 l)) ∧ w = w' := by
 have HR := Lib.hid hR
 clear hR
 go_enter Tryz.func88, Tryz.ntmps88
 go_wp2_with (go_at_call 105; refine (more_any A n cap l 0 (by decide) hn _ HR.out).mono ?_; rintro e w' ⟨rfl, rfl⟩)
 go_ret
 exact ⟨rfl, rfl⟩
theorem bne_no (q x m : Nat) (h : q % 2 = x / 2 ^ m % 2) : ((q : Int) % 2 != (x : Int) / 2 ^ m % 2) = false := by
 have e : (q : Int) % 2 = (x : Int) / 2 ^ m % 2 := by
  have := congrArg (Int.ofNat) h
  simpa using this
 rw [e]
 simp
theorem bne_yes (q x m : Nat) (h : ¬ q % 2 = x / 2 ^ m % 2) : ((q : Int) % 2 != (x : Int) / 2 ^ m % 2) = true := by
 rw [bne_iff_ne]
 intro e
 apply h
 have e1 : ((q % 2 : Nat) : Int) = ((x / 2 ^ m % 2 : Nat) : Int) := by simpa using e
 exact Int.ofNat.inj e1
set_option maxHeartbeats 400000 in
theorem refcrc_any (A : Option Addr) (n cap : Nat) (l : List Nat) (hn : n ≤ 100000) (w : World) (hR : RowN w A n l) :
 Calls Tryz.prog 91 #[.slice A n cap] w fun e w' => e = .returned (.int .u32 (crcMore 0 l)) ∧ w = w' := by
 have HR := Lib.hid hR
 clear hR
 have h9 := crcFold_lt l 4294967295 (by decide)
 go_enter Tryz.func91, Tryz.ntmps91
 go_wp2
 go_loop [3, 10] (fun r i => ∃ k : Nat, k ≤ n ∧ i = .int .i64 k ∧ r = .int .u32 (crcFold 4294967295 (l.take k))) (fun _ i => n - (intOf i).toNat)
 case atStart => exact ⟨0, by omega, rfl, rfl⟩
 case round =>
  obtain ⟨k, hk, rfl, rfl⟩ := hrel
  rcases Nat.lt_or_ge k n with hkn | hkn
  · obtain ⟨b, off, rfl, hlt, hc⟩ := HR.out.cells (by omega)
    have hck := hc k hkn
    have ET : Hid (crcFold 4294967295 (l.take (k + 1)) = crcByte (crcFold 4294967295 (l.take k)) (l.getD k 0)) := Lib.hid (by rw [take_succ_getDN (by rw [HR.out.length]; exact hkn), crcFold_snoc])
    have hr := crcFold_lt (l.take k) 4294967295 (by decide)
    have hx := getD_lt (by decide) HR.out.lt k
    clear hc hlt h9
    generalize crcFold 4294967295 (l.take k) = r at *
    generalize l.getD k 0 = x at *
    have hkn' : (k : Int) < (n : Int) := by omega
    have hk0 : (0 : Int) ≤ (k : Int) := by omega
    go_wp2
    go_loop [3, 6] (fun q j => ∃ m : Nat, m ≤ 8 ∧ j = .int .i64 m ∧ q = .int .u32 (crcBits r x m)) (fun _ i => 8 - (intOf i).toNat)
    case atStart => exact ⟨0, by omega, rfl, rfl⟩
    case round =>
     obtain ⟨m, hm, rfl, rfl⟩ := hrel
     by_cases hm8 : m < 8
     · have hq := crcBits_lt r x hr m
       have hm8' : (m : Int) < 8 := by omega
       by_cases ho : crcBits r x m % 2 = x / 2 ^ m % 2
       · have ES : Hid (crcBits r x (m + 1) = crcBits r x m / 2) := Lib.hid (crcBit_no _ _ (by omega) ho)
         have hne := bne_no _ _ _ ho
         clear ho
         generalize crcBits r x m = q at *
         go_wp2
         go_round
         case rel => exact ⟨m + 1, by omega, by go_num, by rw [ES.out]; rfl⟩
         case measure => simp [intOf]; omega
       · have ES : Hid (crcBits r x (m + 1) = (crcBits r x m / 2) ^^^ 3988292384) := Lib.hid (crcBit_yes _ _ (by omega) ho)
         have hne := bne_yes _ _ _ ho
         clear ho
         generalize crcBits r x m = q at *
         have HX : Hid (bits .xor .u32 ((q : Int) / 2) 3988292384 = (((q / 2) ^^^ 3988292384 : Nat) : Int)) := Lib.hid (u32_xor_nat (q / 2) 3988292384 (by omega) (by decide))
         go_wp2
         go_round
         case rel => exact ⟨m + 1, by omega, by go_num, by rw [ES.out, HX.out]⟩
         case measure => simp [intOf]; omega
     · obtain rfl : m = 8 := by omega
       go_wp2
       go_round
       case rel => exact ⟨k + 1, by omega, by go_num, by rw [ET.out]; rfl⟩
       case measure => simp [intOf]; omega
  · obtain rfl : k = n := by omega
    have EL : Hid (l.take k = l) := Lib.hid (List.take_of_length_le (by rw [HR.out.length]; omega))
    rw [EL.out]
    go_wp2
    go_ret
    exact ⟨ret_int (by unfold crcMore notN; rw [show 4294967295 - 0 = 4294967295 from rfl]; omega), rfl⟩
def word4 (n : Int) : List Int := [n % 256, n % 4294967296 / 256 % 256, n % 4294967296 / 65536 % 256, n % 4294967296 / 16777216]
def getV (a b c d : Int) : Int := wrap32 (a + b * 256 + c * 65536 + d * 16777216)
theorem word4_bd (N : Int) : ∀ z ∈ word4 N, 0 ≤ z ∧ z ≤ 255 := by
 intro z hz
 simp only [word4, List.mem_cons, List.not_mem_nil, or_false] at hz
 omega
theorem own_line {w : World} {B g n c : Nat} {e : TypeId} {xs : List Value} (h : w.ownsRow B e 1 (.slice (some ⟨g, 0, none⟩) n c) n xs) : SLine 1 w (some ⟨g, 0, none⟩) n c xs := by
 rcases h.2 with ⟨e, _⟩ | ⟨g', cap, cur, e1, _, hh, h1, h2, h3, h4⟩
 · cases e
 · injection e1 with e1 _ e3
   injection e1 with e1
   injection e1 with e1
   subst e1 e3
   rw [Nat.mul_one] at h3 h4
   refine ⟨h.1, h1, h2, (fun e => by cases e), fun ad e => ?_⟩
   cases e
   have hc : ∀ i, w.cell? ⟨g, 0 + i, none⟩ = cur[i]? := fun i => by rw [Nat.zero_add, cell_of_row w g i cur _ (0, 0) hh]
   refine ⟨g, 0, rfl, lt_of_block hh, fun i hi => ?_, fun i hi => ⟨?_, ?_⟩⟩
   · rw [hc, ← h4, List.getElem?_take, if_pos (by omega)]
     simp
   · rw [hc]
     simp [show i < cur.size by omega]
   · rw [Nat.zero_add]
     exact frozen_of_row w g i cur _ hh
set_option maxHeartbeats 1000000 in
theorem put_any (A : Option Addr) (n cap : Nat) (zs : List Int) (N : Int) (hn : n ≤ 90000) (w : World) (hR : RowZ w A n zs) :
 Calls Tryz.prog 87 #[.slice A n cap, .int .i32 N] w fun e w' => (∃ g, e = .returned (.slice (some ⟨g, 0, none⟩) (n + 4) (n + 4)) ∧ w.heap.size ≤ g ∧ RowZ w' (some ⟨g, 0, none⟩) (n + 4) (zs ++ word4 N) ∧ SLine 1 w' (some ⟨g, 0, none⟩) (n + 4) (n + 4) (cellsZ (zs ++ word4 N))) ∧ Below w.heap.size w w' := by
 have hmk := make_bytes n (n + 4) (by omega) (by omega)
 rw [show ((n + 4 : Nat) : Int) = (n : Int) + 4 from by omega] at hmk
 obtain ⟨W2, hcopy, hg2, hb2⟩ := copy_run A n (n + 4) cap zs (List.replicate (n + 4) 0) w hR (by simp) (by omega)
 have HR := Lib.hid hR
 have HG := Lib.hid hg2
 obtain ⟨i0, hi, hz0, hz1, hz2⟩ := info_parts info_u8
 have HI := Lib.hid hi
 have HZ1 := Lib.hid hz1
 clear hR hi hz0 hz1 hz2 hg2
 go_enter Tryz.func87, Tryz.ntmps87
 go_wp2_with fail
 have HO : Hid (W2.ownsRow w.heap.size 5 1 (.slice (some ⟨w.heap.size, 0, none⟩) n (n + 4)) n (cellsZ zs)) :=
  Lib.hid (own_of_heap HG.out (Nat.le_refl _) (by simp [cellsZ, HR.out.1]) (by simp [cellsZ, HR.out.1]) (by omega))
 go_loopw [5, 16] (fun v i wr => ∃ k : Nat, k ≤ 4 ∧ i = .int .i64 k ∧ v = .slice (some ⟨w.heap.size, 0, none⟩) (n + k) (n + 4) ∧ Hid (wr.ownsRow w.heap.size 5 1 (.slice (some ⟨w.heap.size, 0, none⟩) (n + k) (n + 4)) (n + k) (cellsZ (zs ++ (word4 N).take k))) ∧ Below w.heap.size w wr) (fun _ i _ => 4 - (intOf i).toNat)
 case atStart => exact ⟨0, by omega, rfl, rfl, by simpa using HO, hb2⟩
 case round =>
  obtain ⟨k, hk, rfl, rfl, HO2, hbr⟩ := hrel
  have hcases : k = 0 ∨ k = 1 ∨ k = 2 ∨ k = 3 ∨ k = 4 := by omega
  rcases hcases with rfl | rfl | rfl | rfl | rfl
  · have hown := (HO2.out.alloc (.cells #[.int .u8 (N % 256)] 5))
    have HW := Lib.hid hown
    have HN := Lib.hid (new_cell wr (.int .u8 (N % 256)) 5)
    clear hown
    go_wp2_with (at_builtin; go_loud (refine wpList_append_fits _ (by rfl) (.tmp 19) (.tmp 27) 40 (by rfl) w.heap.size 5 i0 1 Tryz.underlying40 HI.out HZ1.out w.heap.size (n + 0) (n + 4) _ (by rfl) HW.out ⟨wr.heap.size, 0, none⟩ 1 1 [.int .u8 (N % 256)] (by rfl) rfl HN.out (one_u8 [N % 256]) (by omega) ?_); intro w3 hown3 hgrow3)
    have H3 : Hid (w3.ownsRow w.heap.size 5 1 (.slice (some ⟨w.heap.size, 0, none⟩) (n + 1) (n + 4)) (n + 1) (cellsZ (zs ++ (word4 N).take 1))) := by
     have e : cellsZ (zs ++ (word4 N).take 1) = cellsZ (zs ++ (word4 N).take 0) ++ [.int .u8 (N % 256)] := by simp [cellsZ, word4]
     rw [e]
     exact Lib.hid hown3
    have hb3 : Below w.heap.size w w3 := (hbr.alloc hbr.size _).grown hgrow3 (by have := hbr.size; simp; omega) (fun q hq => by injection hq with hq; omega)
    clear hown3 hgrow3
    go_wp2
    go_roundw
    case rel => exact ⟨1, by omega, rfl, rfl, H3, hb3⟩
    case measure => simp [intOf]
  · have hown := (HO2.out.alloc (.cells #[.int .u8 (N % 4294967296 / 256 % 256)] 5))
    have HW := Lib.hid hown
    have HN := Lib.hid (new_cell wr (.int .u8 (N % 4294967296 / 256 % 256)) 5)
    clear hown
    go_wp2_with (at_builtin; go_loud (refine wpList_append_fits _ (by rfl) (.tmp 19) (.tmp 27) 40 (by rfl) w.heap.size 5 i0 1 Tryz.underlying40 HI.out HZ1.out w.heap.size (n + 1) (n + 4) _ (by rfl) HW.out ⟨wr.heap.size, 0, none⟩ 1 1 [.int .u8 (N % 4294967296 / 256 % 256)] (by rfl) rfl HN.out (one_u8 [N % 4294967296 / 256 % 256]) (by omega) ?_); intro w3 hown3 hgrow3)
    have H3 : Hid (w3.ownsRow w.heap.size 5 1 (.slice (some ⟨w.heap.size, 0, none⟩) (n + 2) (n + 4)) (n + 2) (cellsZ (zs ++ (word4 N).take 2))) := by
     have e : cellsZ (zs ++ (word4 N).take 2) = cellsZ (zs ++ (word4 N).take 1) ++ [.int .u8 (N % 4294967296 / 256 % 256)] := by simp [cellsZ, word4]
     rw [e]
     exact Lib.hid hown3
    have hb3 : Below w.heap.size w w3 := (hbr.alloc hbr.size _).grown hgrow3 (by have := hbr.size; simp; omega) (fun q hq => by injection hq with hq; omega)
    clear hown3 hgrow3
    go_wp2
    go_roundw
    case rel => exact ⟨2, by omega, rfl, rfl, H3, hb3⟩
    case measure => simp [intOf]
  · have hown := (HO2.out.alloc (.cells #[.int .u8 (N % 4294967296 / 65536 % 256)] 5))
    have HW := Lib.hid hown
    have HN := Lib.hid (new_cell wr (.int .u8 (N % 4294967296 / 65536 % 256)) 5)
    clear hown
    go_wp2_with (at_builtin; go_loud (refine wpList_append_fits _ (by rfl) (.tmp 19) (.tmp 27) 40 (by rfl) w.heap.size 5 i0 1 Tryz.underlying40 HI.out HZ1.out w.heap.size (n + 2) (n + 4) _ (by rfl) HW.out ⟨wr.heap.size, 0, none⟩ 1 1 [.int .u8 (N % 4294967296 / 65536 % 256)] (by rfl) rfl HN.out (one_u8 [N % 4294967296 / 65536 % 256]) (by omega) ?_); intro w3 hown3 hgrow3)
    have H3 : Hid (w3.ownsRow w.heap.size 5 1 (.slice (some ⟨w.heap.size, 0, none⟩) (n + 3) (n + 4)) (n + 3) (cellsZ (zs ++ (word4 N).take 3))) := by
     have e : cellsZ (zs ++ (word4 N).take 3) = cellsZ (zs ++ (word4 N).take 2) ++ [.int .u8 (N % 4294967296 / 65536 % 256)] := by simp [cellsZ, word4]
     rw [e]
     exact Lib.hid hown3
    have hb3 : Below w.heap.size w w3 := (hbr.alloc hbr.size _).grown hgrow3 (by have := hbr.size; simp; omega) (fun q hq => by injection hq with hq; omega)
    clear hown3 hgrow3
    go_wp2
    go_roundw
    case rel => exact ⟨3, by omega, rfl, rfl, H3, hb3⟩
    case measure => simp [intOf]
  · have hown := (HO2.out.alloc (.cells #[.int .u8 (N % 4294967296 / 16777216)] 5))
    have HW := Lib.hid hown
    have HN := Lib.hid (new_cell wr (.int .u8 (N % 4294967296 / 16777216)) 5)
    clear hown
    go_wp2_with (at_builtin; go_loud (refine wpList_append_fits _ (by rfl) (.tmp 19) (.tmp 27) 40 (by rfl) w.heap.size 5 i0 1 Tryz.underlying40 HI.out HZ1.out w.heap.size (n + 3) (n + 4) _ (by rfl) HW.out ⟨wr.heap.size, 0, none⟩ 1 1 [.int .u8 (N % 4294967296 / 16777216)] (by rfl) rfl HN.out (one_u8 [N % 4294967296 / 16777216]) (by omega) ?_); intro w3 hown3 hgrow3)
    have H3 : Hid (w3.ownsRow w.heap.size 5 1 (.slice (some ⟨w.heap.size, 0, none⟩) (n + 4) (n + 4)) (n + 4) (cellsZ (zs ++ (word4 N).take 4))) := by
     have e : cellsZ (zs ++ (word4 N).take 4) = cellsZ (zs ++ (word4 N).take 3) ++ [.int .u8 (N % 4294967296 / 16777216)] := by simp [cellsZ, word4]
     rw [e]
     exact Lib.hid hown3
    have hb3 : Below w.heap.size w w3 := (hbr.alloc hbr.size _).grown hgrow3 (by have := hbr.size; simp; omega) (fun q hq => by injection hq with hq; omega)
    clear hown3 hgrow3
    go_wp2
    go_roundw
    case rel => exact ⟨4, by omega, rfl, rfl, H3, hb3⟩
    case measure => simp [intOf]
  · go_wp2
    go_ret
    have hl : (zs ++ word4 N).length = n + 4 := by rw [List.length_append, HR.out.1]; rfl
    have ho := HO2.out
    rw [show (word4 N).take 4 = word4 N from rfl] at ho
    exact ⟨⟨w.heap.size, rfl, Nat.le_refl _, row_of_own ho (fun z hz => by
     rcases List.mem_append.1 hz with hz | hz
     · exact HR.out.2.1 z hz
     · exact word4_bd N z hz) hl, own_line ho⟩, hbr⟩
theorem bits_put (n : Int) (h : -2147483648 ≤ n ∧ n ≤ 2147483647) (w : World) :
 Calls Tryz.prog 106 #[.int .i32 n] w fun e w' => e = .returned (.int .i64 (n % 4294967296)) ∧ w = w' := by
 by_cases hn : n < 0
 · go_enter Tryz.func106, Tryz.ntmps106
   go_wp2
   go_ret
   exact ⟨ret_int (by omega), rfl⟩
 · go_enter Tryz.func106, Tryz.ntmps106
   go_wp2
   go_ret
   exact ⟨ret_int (by omega), rfl⟩
theorem ref_put (N : Int) (hN : -2147483648 ≤ N ∧ N ≤ 2147483647) (w : World) :
 Calls Tryz.prog 90 #[.int .i32 N] w fun e w' => (∃ g, e = .returned (.slice (some ⟨g, 0, none⟩) 4 4) ∧ w.heap.size ≤ g ∧ RowZ w' (some ⟨g, 0, none⟩) 4 (word4 N) ∧ SLine 1 w' (some ⟨g, 0, none⟩) 4 4 (cellsZ (word4 N))) ∧ Below w.heap.size w w' := by
 have hB : Below w.heap.size w (w.alloc (.cells (cellsZ (word4 N)).toArray 5)) := (Below.refl _ _).alloc (Nat.le_refl _) _
 have hR : RowZ (w.alloc (.cells (cellsZ (word4 N)).toArray 5)) (some ⟨w.heap.size, 0, none⟩) 4 (word4 N) := by
  have ho : (w.alloc (.cells (cellsZ (word4 N)).toArray 5)).ownsRow w.heap.size 5 1 (.slice (some ⟨w.heap.size, 0, none⟩) 4 4) 4 (cellsZ (word4 N)) :=
   own_of_heap (ys := []) (by rw [List.append_nil]; exact heap_alloc_new w _) (Nat.le_refl _) rfl rfl (by omega)
  exact row_of_own ho (word4_bd N) rfl
 have hL : SLine 1 (w.alloc (.cells (cellsZ (word4 N)).toArray 5)) (some ⟨w.heap.size, 0, none⟩) 4 4 (cellsZ (word4 N)) := by
  have ho : (w.alloc (.cells (cellsZ (word4 N)).toArray 5)).ownsRow w.heap.size 5 1 (.slice (some ⟨w.heap.size, 0, none⟩) 4 4) 4 (cellsZ (word4 N)) :=
   own_of_heap (ys := []) (by rw [List.append_nil]; exact heap_alloc_new w _) (Nat.le_refl _) rfl rfl (by omega)
  exact own_line ho
 have HR := Lib.hid (And.intro hR hL)
 have HBB := Lib.hid hB
 clear hR hB hL
 go_enter Tryz.func90, Tryz.ntmps90
 go_wp2_with (go_at_call 106; refine (bits_put N hN _).mono ?_; rintro e w' ⟨rfl, rfl⟩)
 go_ret
 exact ⟨⟨w.heap.size, rfl, Nat.le_refl _, HR.out⟩, HBB.out⟩
theorem get_no (A : Option Addr) (n cap : Nat) (at_ : Int) (hat : at_ < 0 ∨ (n : Int) - 4 < at_) (hn : n ≤ 90000) (w : World) :
 Calls Tryz.prog 122 #[.slice A n cap, .int .i64 at_] w fun e w' => e = .returned (.tuple #[.int .i32 0, .bool false]) ∧ w = w' := by
 rcases hat with h | h
 · go_enter Tryz.func122, Tryz.ntmps122
   go_wp2
   go_ret2
   exact ⟨rfl, rfl⟩
 · by_cases h2 : at_ < 0
   · go_enter Tryz.func122, Tryz.ntmps122
     go_wp2
     go_ret2
     exact ⟨rfl, rfl⟩
   · go_enter Tryz.func122, Tryz.ntmps122
     go_wp2
     go_ret2
     exact ⟨rfl, rfl⟩
theorem or_join (i : Nat) (x y : Int) (hx : 0 ≤ x) (hx2 : x < ((2 ^ i : Nat) : Int)) (hy : 0 ≤ y) (hy2 : y * ((2 ^ i : Nat) : Int) < 4294967296) (hi : ((2 ^ i : Nat) : Int) ≤ 4294967296) : bits .or .u32 x (y * ((2 ^ i : Nat) : Int)) = x + y * ((2 ^ i : Nat) : Int) := by
 have hp : 0 ≤ y * ((2 ^ i : Nat) : Int) := Int.mul_nonneg hy (by omega)
 rw [u32_or x _ hx (by omega) hp hy2]
 obtain ⟨a, rfl⟩ := Int.eq_ofNat_of_zero_le hx
 obtain ⟨b, rfl⟩ := Int.eq_ofNat_of_zero_le hy
 have e : ((b : Int) * ((2 ^ i : Nat) : Int)).toNat = b * 2 ^ i := by rw [← Int.natCast_mul, Int.toNat_natCast]
 rw [e, Int.toNat_natCast, Nat.or_comm, nat_join i (b * 2 ^ i) a (Nat.mul_mod_left _ _) (by omega), Int.natCast_add, Int.natCast_mul]
 omega
theorem get_yes (A : Option Addr) (n cap : Nat) (zs : List Int) (j : Nat) (hj : j + 4 ≤ n) (hn : n ≤ 90000) (w : World) (hR : RowZ w A n zs) :
 Calls Tryz.prog 122 #[.slice A n cap, .int .i64 j] w fun e w' => e = .returned (.tuple #[.int .i32 (getV (zs.getD j 0) (zs.getD (j + 1) 0) (zs.getD (j + 2) 0) (zs.getD (j + 3) 0)), .bool true]) ∧ w = w' := by
 obtain ⟨b, off, rfl, hlt, hc⟩ := hR.2.2 (by omega)
 have c0 := hc j (by omega)
 have c1 := hc (j + 1) (by omega)
 have c2 := hc (j + 2) (by omega)
 have c3 := hc (j + 3) (by omega)
 have hz : ∀ i, i < n → 0 ≤ zs.getD i 0 ∧ zs.getD i 0 ≤ 255 := fun i hi => by
  have hi' : i < zs.length := by rw [hR.1]; exact hi
  have e : zs.getD i 0 = zs[i] := by simp [List.getD, hi']
  rw [e]
  exact hR.2.1 _ (List.getElem_mem hi')
 obtain ⟨a0, a1⟩ := hz j (by omega)
 obtain ⟨b0, b1⟩ := hz (j + 1) (by omega)
 obtain ⟨d0, d1⟩ := hz (j + 2) (by omega)
 obtain ⟨e0, e1⟩ := hz (j + 3) (by omega)
 clear hz hc hR
 generalize zs.getD j 0 = x0 at *
 generalize zs.getD (j + 1) 0 = x1 at *
 generalize zs.getD (j + 2) 0 = x2 at *
 generalize zs.getD (j + 3) 0 = x3 at *
 have o0 : bits .or .u32 0 x0 = x0 := by
  have h := or_join 0 0 x0 (by omega) (by decide) a0 (by simp; omega) (by decide)
  simpa using h
 have o1 : bits .or .u32 x0 (x1 * 256) = x0 + x1 * 256 := or_join 8 x0 x1 a0 (by simp; omega) b0 (by simp; omega) (by decide)
 have o2 : bits .or .u32 (x0 + x1 * 256) (x2 * 65536) = x0 + x1 * 256 + x2 * 65536 := or_join 16 _ x2 (by omega) (by simp; omega) d0 (by simp; omega) (by decide)
 have o3 : bits .or .u32 (x0 + x1 * 256 + x2 * 65536) (x3 * 16777216) = x0 + x1 * 256 + x2 * 65536 + x3 * 16777216 := or_join 24 _ x3 (by omega) (by simp; omega) e0 (by simp; omega) (by decide)
 go_enter Tryz.func122, Tryz.ntmps122
 go_wp2_with fail
 refine wp_loop_rounds 5 ?_
 rw [rounds_succ]
 go_wp2
 rw [rounds_succ]
 go_wp2
 rw [rounds_succ]
 go_wp2
 rw [rounds_succ]
 go_wp2
 rw [rounds_succ]
 go_wp2
 go_ret2
 exact ⟨rfl, rfl⟩
def BLine (w : World) (A : Option Addr) (n c : Nat) (l : List Nat) : Prop := bytesN l ∧ SLine 1 w A n c (cellsZ (asZ l))
section
variable {w w' : World} {A : Option Addr} {n c cap : Nat} {l : List Nat}
theorem RowN.nil : RowN w A 0 [] := ⟨rfl, fun z hz => by simp [asZ] at hz, fun h => absurd h (by omega)⟩
theorem RowN.bytes (h : RowN w A n l) : bytesN l := h.lt
theorem RowN.src (h : RowN w A n l) : Src Tryz.prog 1 40 (.slice A n cap) n (cellsZ (asZ l)) w := by
 have hl : (cellsZ (asZ l)).length = n := by unfold cellsZ; rw [List.length_map, asZ_length]; exact h.length
 cases A with
 | none =>
  have h0 : n = 0 := by
   rcases Nat.eq_zero_or_pos n with h0 | h0
   · exact h0
   · obtain ⟨b, off, e, _⟩ := h.cells h0; cases e
  subst h0
  have : cellsZ (asZ l) = [] := List.eq_nil_of_length_eq_zero hl
  rw [this]
  exact Src.ofNil w Tryz.underlying40 cap
 | some ad =>
  refine Src.ofSlice w Tryz.underlying40 ad n cap _ (by rw [hl, Nat.mul_one]) (fun j u hj => ?_) (one_u8 _)
  have hjl := (List.getElem?_eq_some_iff.1 hj).1
  obtain ⟨ad', e, hc⟩ := RowZ.src h (by omega)
  cases e
  exact hc j u hj
theorem BLine.row (h : BLine w A n c l) : RowN w A n l := by
 have hl : l.length = n := by have := h.2.1; unfold cellsZ at this; rw [List.length_map, asZ_length, Nat.mul_one] at this; exact this
 refine ⟨by rw [asZ_length]; exact hl, fun z hz => ?_, fun hn => ?_⟩
 · obtain ⟨x, hx, rfl⟩ := List.mem_map.1 hz
   have := h.1 x hx
   show (0 : Int) ≤ (x : Int) ∧ (x : Int) ≤ 255
   omega
 · obtain ⟨g, off, rfl, hg, hc, _⟩ := h.2.at hn
   refine ⟨g, off, rfl, hg, fun i hi => ?_⟩
   rw [hc i (by omega)]
   have hi' : i < l.length := by omega
   simp [cellsZ, asZ, hi']
theorem BLine.below (h : BLine w A n c l) (hb : Below w.heap.size w w') : BLine w' A n c l := ⟨h.1, h.2.below hb⟩
theorem word4_of (N : Int) (m : Nat) (hm : m < 4294967296) (h : N % 4294967296 = (m : Int)) : word4 N = asZ (le4 m) := by
 unfold word4 le4 asZ
 have h0 : N % 256 = ((m % 256 : Nat) : Int) := by omega
 have h3 : m / 16777216 % 256 = m / 16777216 := Nat.mod_eq_of_lt (by omega)
 rw [h, h0, h3]
 simp only [List.map_cons, List.map_nil]
 rfl
theorem put_N (N : Int) (m : Nat) (hm : m < 4294967296) (hN : N % 4294967296 = (m : Int)) (hn : n ≤ 90000) (w : World) (hR : RowN w A n l) :
 Calls Tryz.prog 87 #[.slice A n cap, .int .i32 N] w fun e w' => (∃ g, e = .returned (.slice (some ⟨g, 0, none⟩) (n + 4) (n + 4)) ∧ w.heap.size ≤ g ∧ BLine w' (some ⟨g, 0, none⟩) (n + 4) (n + 4) (l ++ le4 m)) ∧ Below w.heap.size w w' := by
 refine (put_any A n cap (asZ l) N hn w hR).mono ?_
 rintro e w' ⟨⟨g, rfl, hg, hr, hl⟩, hb⟩
 rw [word4_of N m hm hN, ← asZ_append] at hl
 exact ⟨⟨g, rfl, hg, bytesN_append hR.bytes (le4_lt m), hl⟩, hb⟩
theorem getV_N (l : List Nat) (j : Nat) : getV ((asZ l).getD j 0) ((asZ l).getD (j + 1) 0) ((asZ l).getD (j + 2) 0) ((asZ l).getD (j + 3) 0) = wrap32 (getN l j : Int) := by
 unfold getV getN
 rw [asZ_getD, asZ_getD, asZ_getD, asZ_getD]
 congr 1
theorem get_N (j : Nat) (hj : j + 4 ≤ n) (hn : n ≤ 90000) (w : World) (hR : RowN w A n l) :
 Calls Tryz.prog 122 #[.slice A n cap, .int .i64 j] w fun e w' => e = .returned (.tuple #[.int .i32 (wrap32 (getN l j : Int)), .bool true]) ∧ w = w' := by
 have h := get_yes A n cap (asZ l) j hj hn w hR
 rw [getV_N] at h
 exact h
end
set_option maxHeartbeats 1600000 in
theorem frame_any (A : Option Addr) (n cap : Nat) (l : List Nat) (hn : n ≤ 65536) (w : World) (hR : RowN w A n l) :
 Calls Tryz.prog 60 #[.slice A n cap] w fun e w' => (∃ g c, e = .returned (.tuple #[.slice (some ⟨g, 0, none⟩) (n + 8) c, .int .i64 0]) ∧ w.heap.size ≤ g ∧ BLine w' (some ⟨g, 0, none⟩) (n + 8) c (frameN l)) ∧ Below w.heap.size w w' := by
 have hlen := hR.length
 have HP1 := Lib.hid (put_N (A := none) (n := 0) (cap := 0) (l := []) (n : Int) n (by omega) (by omega) (by omega) w RowN.nil)
 have HR := Lib.hid hR
 have HL := Lib.hid hlen
 have hn' : (n : Int) ≤ 65536 := by omega
 clear hR hlen
 go_enter Tryz.func60, Tryz.ntmps60
 go_wp2_with fail
 refine HP1.out.mono ?_
 rintro e w1 ⟨⟨g, rfl, hg, hl1⟩, hb1⟩
 rw [List.nil_append] at hl1
 obtain ⟨A2, c2, w2, hr, hl2, hc2, hf2, hne⟩ := sline_append 1 w1 40 5 40 _ 1 Tryz.underlying40 info_u8 rfl (by decide) _ 4 4 _ hl1.2 (by omega) _ n (by omega) (fun e => by cases e) _ ((HR.out.below hb1).src (cap := cap))
 have hB2 : Below w.heap.size w w2 := hb1.trans (hc2.toBelow (fun k hk => by obtain ⟨ad, ea, hb⟩ := mem_blk.1 hk; cases ea; rw [← hb]; exact hg) hb1.size)
 have hL2 : BLine w2 A2 (4 + n) c2 (headN l) := ⟨headN_lt HR.out.bytes, by
  have e : cellsZ (asZ (headN l)) = cellsZ (asZ (le4 n)) ++ cellsZ (asZ l) := by unfold headN; rw [HL.out, asZ_append, cellsZ_append]
  rw [e]; exact hl2⟩
 have HR2 := Lib.hid hr
 have HX := Lib.hid (And.intro hL2 hB2)
 obtain ⟨cc, hcc⟩ : ∃ cc, crcMore 0 (headN l) = cc := ⟨_, rfl⟩
 have hcl : cc < 4294967296 := by rw [← hcc]; exact crcMore_lt _ _
 have HC := Lib.hid (crc_any A2 (4 + n) c2 (headN l) (by omega) w2 hL2.row)
 rw [hcc] at HC
 have HCC := Lib.hid hcc
 clear hl1 hb1 hr hl2 hc2 hf2 hne hB2 hL2 hcc
 go_wp2_with (first
  | (at_builtin; refine Lib.wpList_append_run _ rfl _ _ _ _ rfl _ _ rfl rfl _ _ HR2.out ?_)
  | (go_at_call 88; refine HC.out.mono ?_; rintro e w' ⟨rfl, rfl⟩))
 refine (put_N (wrap32 (cc : Int)) cc hcl (by unfold wrap32; omega) (by omega) w2 HX.out.1.row).mono ?_
 rintro e w3 ⟨⟨g3, rfl, hg3, hl3⟩, hb3⟩
 rw [← HCC.out] at hl3
 have e8 : 4 + n + 4 = n + 8 := by omega
 rw [e8] at hl3 ⊢
 have HF := Lib.hid (And.intro hl3 (And.intro hg3 hb3))
 clear hl3 hg3 hb3
 go_wp2
 go_ret2
 exact ⟨⟨g3, n + 8, rfl, Nat.le_trans HX.out.2.size HF.out.2.1, HF.out.1⟩, HX.out.2.trans (HF.out.2.2.mono HX.out.2.size)⟩
def firstV (A : Option Addr) (cap : Nat) (l : List Nat) : Value := match firstN l with | none => .slice none 0 0 | some r => .slice (A.map fun a => ⟨a.block, a.off + 4, none⟩) r.length (cap - 4)
theorem wrap_back (v : Nat) (h : v < 4294967296) : wrap32 (v : Int) % 4294967296 = (v : Int) := by
 obtain ⟨k, hk⟩ := wrap32_ex (v : Int)
 rw [hk, Int.add_mul_emod_self_left]
 omega
theorem firstN_len {l : List Nat} (h : l.length < 4) : firstN l = none := by unfold firstN; rw [if_pos h]
section
variable {A : Option Addr} {n cap : Nat} {l : List Nat} {w : World}
theorem first_no0 (hn : n ≤ 90000) (hs : n < 4) : Calls Tryz.prog 117 #[.slice A n cap] w fun e w' => e = .returned (.tuple #[.slice none 0 0, .bool false]) ∧ w = w' := by
 have HG := Lib.hid (get_no A n cap 0 (.inr (by omega)) hn w)
 go_enter Tryz.func117, Tryz.ntmps117
 go_wp2_with (go_at_call 122; refine HG.out.mono ?_; rintro e w' ⟨rfl, rfl⟩)
 go_ret2
 exact ⟨rfl, rfl⟩
theorem first_no1 (hn : n ≤ 90000) (hs : 4 ≤ n) (hR : RowN w A n l) (hm : 65536 < getN l 0) : Calls Tryz.prog 117 #[.slice A n cap] w fun e w' => e = .returned (.tuple #[.slice none 0 0, .bool false]) ∧ w = w' := by
 have HG := Lib.hid (get_N (cap := cap) 0 (by omega) hn w hR)
 have hlt := getN_lt hR.bytes 0
 obtain ⟨m, hmm⟩ : ∃ m, getN l 0 = m := ⟨_, rfl⟩
 rw [hmm] at HG hm hlt
 clear hR hmm
 obtain ⟨z, hz⟩ : ∃ z, wrap32 (m : Int) = z := ⟨_, rfl⟩
 have hz' : z < 0 ∨ (0 ≤ z ∧ 65536 < z) := by unfold wrap32 at hz; omega
 rw [hz] at HG
 clear hz hm hlt
 rcases hz' with h | ⟨h0, h⟩
 · go_enter Tryz.func117, Tryz.ntmps117
   go_wp2_with (go_at_call 122; refine HG.out.mono ?_; rintro e w' ⟨rfl, rfl⟩)
   go_ret2
   exact ⟨rfl, rfl⟩
 · have h0' : ¬ z < 0 := by omega
   go_enter Tryz.func117, Tryz.ntmps117
   go_wp2_with (go_at_call 122; refine HG.out.mono ?_; rintro e w' ⟨rfl, rfl⟩)
   go_ret2
   exact ⟨rfl, rfl⟩
theorem first_no2 (hn : n ≤ 90000) (hs : 4 ≤ n) (hR : RowN w A n l) (hm : getN l 0 ≤ 65536) (h8 : n < getN l 0 + 8) : Calls Tryz.prog 117 #[.slice A n cap] w fun e w' => e = .returned (.tuple #[.slice none 0 0, .bool false]) ∧ w = w' := by
 have HG := Lib.hid (get_N (cap := cap) 0 (by omega) hn w hR)
 obtain ⟨m, hmm⟩ : ∃ m, getN l 0 = m := ⟨_, rfl⟩
 rw [hmm] at HG hm h8
 clear hR hmm
 rw [show wrap32 (m : Int) = (m : Int) from wrap32_self _ (by omega)] at HG
 have HG2 := Lib.hid (get_no A n cap (4 + (m : Int)) (.inr (by omega)) hn w)
 have hm' : (m : Int) ≤ 65536 := by omega
 have hm0 : (0 : Int) ≤ (m : Int) := by omega
 go_enter Tryz.func117, Tryz.ntmps117
 go_wp2_with fail
 refine HG.out.mono ?_
 rintro e w' ⟨rfl, rfl⟩
 go_wp2_with fail
 refine HG2.out.mono ?_
 rintro e w' ⟨rfl, rfl⟩
 go_wp2
 go_ret2
 exact ⟨rfl, rfl⟩
end
section
variable {n cap m vv cc : Nat} {g off : Nat} {w : World}
set_option maxHeartbeats 800000 in
theorem first_ends (hm' : (m : Int) ≤ 65536) (hs : (m : Int) + 8 ≤ (n : Int)) (hnc : n ≤ cap) (hcm : cap ≤ 9223372036854775807) (hw : wrap32 (vv : Int) % 4294967296 = (vv : Int)) (b : Bool) (hb : ((vv : Int) != (cc : Int)) = !b)
 (HG : Calls Tryz.prog 122 #[.slice (some ⟨g, off, none⟩) n cap, .int .i64 0] w fun e w' => e = .returned (.tuple #[.int .i32 (m : Int), .bool true]) ∧ w = w')
 (HG2 : Calls Tryz.prog 122 #[.slice (some ⟨g, off, none⟩) n cap, .int .i64 (4 + (m : Int))] w fun e w' => e = .returned (.tuple #[.int .i32 (wrap32 (vv : Int)), .bool true]) ∧ w = w')
 (HC : Calls Tryz.prog 88 #[.slice (some ⟨g, off, none⟩) (4 + m) cap] w fun e w' => e = .returned (.int .u32 (cc : Int)) ∧ w = w') :
 Calls Tryz.prog 117 #[.slice (some ⟨g, off, none⟩) n cap] w fun e w' => e = .returned (.tuple #[if b = true then .slice (some ⟨g, off + 4, none⟩) m (cap - 4) else .slice none 0 0, .bool b]) ∧ w = w' := by
 have HG := Lib.hid HG
 have HG2 := Lib.hid HG2
 have HC := Lib.hid HC
 have hm0 : (0 : Int) ≤ (m : Int) := by omega
 have hcap : (4 : Int) + (m : Int) ≤ (cap : Int) := by omega
 cases b with
 | false =>
  have hb' : ((vv : Int) != (cc : Int)) = true := hb
  clear hb
  simp only [Bool.false_eq_true, ↓reduceIte]
  go_enter Tryz.func117, Tryz.ntmps117
  go_wp2_with fail
  refine HG.out.mono ?_
  rintro e w' ⟨rfl, rfl⟩
  go_wp2_with fail
  refine HG2.out.mono ?_
  rintro e w' ⟨rfl, rfl⟩
  go_wp2_with fail
  refine HC.out.mono ?_
  rintro e w' ⟨rfl, rfl⟩
  go_wp2
  go_ret2
  exact ⟨rfl, rfl⟩
 | true =>
  have hb' : ((vv : Int) != (cc : Int)) = false := hb
  clear hb
  simp only [↓reduceIte]
  go_enter Tryz.func117, Tryz.ntmps117
  go_wp2_with fail
  refine HG.out.mono ?_
  rintro e w' ⟨rfl, rfl⟩
  go_wp2_with fail
  refine HG2.out.mono ?_
  rintro e w' ⟨rfl, rfl⟩
  go_wp2_with fail
  refine HC.out.mono ?_
  rintro e w' ⟨rfl, rfl⟩
  go_wp2
  go_ret2
  refine ⟨?_, rfl⟩
  show Ending.returned (.tuple #[.slice (some ⟨g, off + 4, none⟩) (4 + m - 4) (cap - 4), .bool true]) = _
  rw [Nat.add_sub_cancel_left]
end
theorem first_fin {n cap g off : Nat} {l : List Nat} {w : World} (m vv cc : Nat) (hf : firstN l = if vv = cc then some ((l.drop 4).take m) else none) (hlen : ((l.drop 4).take m).length = m)
 (hm' : (m : Int) ≤ 65536) (hs : (m : Int) + 8 ≤ (n : Int)) (hnc : n ≤ cap) (hcm : cap ≤ 9223372036854775807) (hw : wrap32 (vv : Int) % 4294967296 = (vv : Int))
 (HG : Calls Tryz.prog 122 #[.slice (some ⟨g, off, none⟩) n cap, .int .i64 0] w fun e w' => e = .returned (.tuple #[.int .i32 (m : Int), .bool true]) ∧ w = w')
 (HG2 : Calls Tryz.prog 122 #[.slice (some ⟨g, off, none⟩) n cap, .int .i64 (4 + (m : Int))] w fun e w' => e = .returned (.tuple #[.int .i32 (wrap32 (vv : Int)), .bool true]) ∧ w = w')
 (HC : Calls Tryz.prog 88 #[.slice (some ⟨g, off, none⟩) (4 + m) cap] w fun e w' => e = .returned (.int .u32 (cc : Int)) ∧ w = w') :
 Calls Tryz.prog 117 #[.slice (some ⟨g, off, none⟩) n cap] w fun e w' => e = .returned (.tuple #[firstV (some ⟨g, off, none⟩) cap l, .bool (firstN l).isSome]) ∧ w = w' := by
 cases hb : decide (vv = cc) with
 | true =>
  have he := of_decide_eq_true hb
  rw [if_pos he] at hf
  have e : firstV (some ⟨g, off, none⟩) cap l = .slice (some ⟨g, off + 4, none⟩) m (cap - 4) := by
   unfold firstV
   rw [hf]
   show Value.slice _ _ _ = _
   rw [hlen]
   rfl
  rw [e, hf]
  refine (first_ends hm' hs hnc hcm hw true ?_ HG HG2 HC).mono ?_
  · subst he; simp
  · rintro e w' ⟨rfl, rfl⟩
    exact ⟨rfl, rfl⟩
 | false =>
  have he := of_decide_eq_false hb
  rw [if_neg he] at hf
  have e : firstV (some ⟨g, off, none⟩) cap l = .slice none 0 0 := by
   unfold firstV
   rw [hf]
  rw [e, hf]
  refine (first_ends hm' hs hnc hcm hw false ?_ HG HG2 HC).mono ?_
  · rw [Bool.not_false, bne_iff_ne]
    intro h
    exact he (by omega)
  · rintro e w' ⟨rfl, rfl⟩
    exact ⟨rfl, rfl⟩
theorem first_any (A : Option Addr) (n cap : Nat) (l : List Nat) (hn : n ≤ 90000) (hnc : n ≤ cap) (hcm : cap ≤ 9223372036854775807) (w : World) (hR : RowN w A n l) :
 Calls Tryz.prog 117 #[.slice A n cap] w fun e w' => e = .returned (.tuple #[firstV A cap l, .bool (firstN l).isSome]) ∧ w = w' := by
 have hl := hR.length
 by_cases h4 : n < 4
 · have e : firstN l = none := firstN_len (by omega)
   unfold firstV
   rw [e]
   exact first_no0 hn h4
 by_cases hm : 65536 < getN l 0
 · have e : firstN l = none := by unfold firstN; rw [if_neg (by omega), if_pos hm]
   unfold firstV
   rw [e]
   exact first_no1 hn (by omega) hR hm
 by_cases h8 : n < getN l 0 + 8
 · have e : firstN l = none := by unfold firstN; rw [if_neg (by omega), if_neg hm, if_pos (by omega)]
   unfold firstV
   rw [e]
   exact first_no2 hn (by omega) hR (by omega) h8
 obtain ⟨g, off, rfl, _, _⟩ := hR.cells (by omega)
 obtain ⟨m, hmm⟩ : ∃ m, getN l 0 = m := ⟨_, rfl⟩
 have HG := get_N (cap := cap) 0 (by omega) hn w hR
 rw [hmm] at hm h8 HG
 obtain ⟨vv, hvv⟩ : ∃ vv, getN l (4 + m) = vv := ⟨_, rfl⟩
 obtain ⟨cc, hcc⟩ : ∃ cc, crcMore 0 (l.take (4 + m)) = cc := ⟨_, rfl⟩
 have HG2 := get_N (cap := cap) (4 + m) (by omega) hn w hR
 have HC := crc_any (some ⟨g, off, none⟩) (4 + m) cap (l.take (4 + m)) (by omega) w (hR.take (by omega))
 have hv := getN_lt hR.bytes (4 + m)
 rw [hvv] at hv HG2
 rw [hcc] at HC
 have hlen : ((l.drop 4).take m).length = m := by rw [List.length_take, List.length_drop]; omega
 have hf : firstN l = if vv = cc then some ((l.drop 4).take m) else none := by
  conv => lhs; unfold firstN
  rw [hmm, hvv, hcc, if_neg (by omega), if_neg hm, if_neg (by omega)]
 have e1 : wrap32 (m : Int) = (m : Int) := wrap32_self _ (by omega)
 have e2 : ((4 + m : Nat) : Int) = 4 + (m : Int) := by omega
 have e3 := wrap_back vv hv
 have e0 : ((0 : Nat) : Int) = 0 := rfl
 rw [e1, e0] at HG
 rw [e2] at HG2
 clear hvv hcc hmm hR
 exact first_fin m vv cc hf hlen (by omega) (by omega) hnc hcm e3 HG HG2 HC
def isK (k : Nat) : Prop := k = 2 ∨ k = 6 ∨ k = 7 ∨ k = 11 ∨ k = 13 ∨ k = 17 ∨ k = 18 ∨ k = 19 ∨ k = 22 ∨ k = 25
theorem quiet_left {P : Program} {f : FuncId} {args : Array Value} {w : World} {n : Nat} {v : Value}
 (h : Calls P f args (w.drewN n) fun e w' => e = .returned v ∧ w.drewN n = w') : Calls P f args (w.drewN n) fun e w'' => e = .returned v ∧ ∃ m, w'' = w.drewN m :=
 h.mono fun _ _ ⟨he, hm⟩ => ⟨he, n, hm.symm⟩
theorem below_drewNS {B : Nat} {a w : World} (h : Below B a w) (n : Nat) : Below B a (w.drewN n) := ⟨h.os, h.tape, h.output, h.size, h.block⟩
theorem or_dn (x k : Nat) (hx : x < 4294967296) : bits .or .u32 ((x / 2 ^ k : Nat) : Int) ((x * 2 ^ (32 - k) % 4294967296 : Nat) : Int) = (dn x k : Int) :=
 u32_or_nat _ _ (Nat.lt_of_le_of_lt (Nat.div_le_self _ _) hx) (Nat.mod_lt _ (by decide))
theorem or_dn' (x k : Nat) (hx : x < 4294967296) : bits .or .u32 ((x * 2 ^ (32 - k) % 4294967296 : Nat) : Int) ((x / 2 ^ k : Nat) : Int) = (dn x k : Int) := by
 rw [u32_or_nat _ _ (Nat.mod_lt _ (by decide)) (Nat.lt_of_le_of_lt (Nat.div_le_self _ _) hx), Nat.or_comm]
 rfl
theorem rot_2 (x : Nat) (hx : x < 4294967296) (w : World) :
 Calls Tryz.prog 141 #[.int .u32 x, .int .i64 (-2)] w fun e w' => e = .returned (.int .u32 (dn x 2)) ∧ w = w' := by
 have h1 : bits .and .u64 (IntKind.u64.wrap (-2)) 31 = 30 := by decide
 have h2 : bits .or .u32 ((x : Int) * 1073741824 % 4294967296) ((x : Int) / 4) = (dn x 2 : Int) := or_dn' x 2 hx
 go_enter Tryz.func141, Tryz.ntmps141
 go_wp2
 go_ret
 exact ⟨rfl, rfl⟩
theorem rotr_2 (x : Nat) (hx : x < 4294967296) (w : World) :
 Calls Tryz.prog 79 #[.int .u32 x, .int .i64 2] w fun e w' => e = .returned (.int .u32 (dn x 2)) ∧ ∃ n, w' = w.drewN n := by
 have h2 : bits .or .u32 ((x : Int) / 4) ((x : Int) * 1073741824 % 4294967296) = (dn x 2 : Int) := or_dn x 2 hx
 go_enter Tryz.func79, Tryz.ntmps79
 go_wp2
 go_quiet (fail)
 go_wp2
 go_ret
 exact ⟨rfl, _, rfl⟩
theorem rot_6 (x : Nat) (hx : x < 4294967296) (w : World) :
 Calls Tryz.prog 141 #[.int .u32 x, .int .i64 (-6)] w fun e w' => e = .returned (.int .u32 (dn x 6)) ∧ w = w' := by
 have h1 : bits .and .u64 (IntKind.u64.wrap (-6)) 31 = 26 := by decide
 have h2 : bits .or .u32 ((x : Int) * 67108864 % 4294967296) ((x : Int) / 64) = (dn x 6 : Int) := or_dn' x 6 hx
 go_enter Tryz.func141, Tryz.ntmps141
 go_wp2
 go_ret
 exact ⟨rfl, rfl⟩
theorem rotr_6 (x : Nat) (hx : x < 4294967296) (w : World) :
 Calls Tryz.prog 79 #[.int .u32 x, .int .i64 6] w fun e w' => e = .returned (.int .u32 (dn x 6)) ∧ ∃ n, w' = w.drewN n := by
 have h2 : bits .or .u32 ((x : Int) / 64) ((x : Int) * 67108864 % 4294967296) = (dn x 6 : Int) := or_dn x 6 hx
 go_enter Tryz.func79, Tryz.ntmps79
 go_wp2
 go_quiet (fail)
 go_wp2
 go_ret
 exact ⟨rfl, _, rfl⟩
theorem rot_7 (x : Nat) (hx : x < 4294967296) (w : World) :
 Calls Tryz.prog 141 #[.int .u32 x, .int .i64 (-7)] w fun e w' => e = .returned (.int .u32 (dn x 7)) ∧ w = w' := by
 have h1 : bits .and .u64 (IntKind.u64.wrap (-7)) 31 = 25 := by decide
 have h2 : bits .or .u32 ((x : Int) * 33554432 % 4294967296) ((x : Int) / 128) = (dn x 7 : Int) := or_dn' x 7 hx
 go_enter Tryz.func141, Tryz.ntmps141
 go_wp2
 go_ret
 exact ⟨rfl, rfl⟩
theorem rotr_7 (x : Nat) (hx : x < 4294967296) (w : World) :
 Calls Tryz.prog 79 #[.int .u32 x, .int .i64 7] w fun e w' => e = .returned (.int .u32 (dn x 7)) ∧ ∃ n, w' = w.drewN n := by
 have h2 : bits .or .u32 ((x : Int) / 128) ((x : Int) * 33554432 % 4294967296) = (dn x 7 : Int) := or_dn x 7 hx
 go_enter Tryz.func79, Tryz.ntmps79
 go_wp2
 go_quiet (fail)
 go_wp2
 go_ret
 exact ⟨rfl, _, rfl⟩
theorem rot_11 (x : Nat) (hx : x < 4294967296) (w : World) :
 Calls Tryz.prog 141 #[.int .u32 x, .int .i64 (-11)] w fun e w' => e = .returned (.int .u32 (dn x 11)) ∧ w = w' := by
 have h1 : bits .and .u64 (IntKind.u64.wrap (-11)) 31 = 21 := by decide
 have h2 : bits .or .u32 ((x : Int) * 2097152 % 4294967296) ((x : Int) / 2048) = (dn x 11 : Int) := or_dn' x 11 hx
 go_enter Tryz.func141, Tryz.ntmps141
 go_wp2
 go_ret
 exact ⟨rfl, rfl⟩
theorem rotr_11 (x : Nat) (hx : x < 4294967296) (w : World) :
 Calls Tryz.prog 79 #[.int .u32 x, .int .i64 11] w fun e w' => e = .returned (.int .u32 (dn x 11)) ∧ ∃ n, w' = w.drewN n := by
 have h2 : bits .or .u32 ((x : Int) / 2048) ((x : Int) * 2097152 % 4294967296) = (dn x 11 : Int) := or_dn x 11 hx
 go_enter Tryz.func79, Tryz.ntmps79
 go_wp2
 go_quiet (fail)
 go_wp2
 go_ret
 exact ⟨rfl, _, rfl⟩
theorem rot_13 (x : Nat) (hx : x < 4294967296) (w : World) :
 Calls Tryz.prog 141 #[.int .u32 x, .int .i64 (-13)] w fun e w' => e = .returned (.int .u32 (dn x 13)) ∧ w = w' := by
 have h1 : bits .and .u64 (IntKind.u64.wrap (-13)) 31 = 19 := by decide
 have h2 : bits .or .u32 ((x : Int) * 524288 % 4294967296) ((x : Int) / 8192) = (dn x 13 : Int) := or_dn' x 13 hx
 go_enter Tryz.func141, Tryz.ntmps141
 go_wp2
 go_ret
 exact ⟨rfl, rfl⟩
theorem rotr_13 (x : Nat) (hx : x < 4294967296) (w : World) :
 Calls Tryz.prog 79 #[.int .u32 x, .int .i64 13] w fun e w' => e = .returned (.int .u32 (dn x 13)) ∧ ∃ n, w' = w.drewN n := by
 have h2 : bits .or .u32 ((x : Int) / 8192) ((x : Int) * 524288 % 4294967296) = (dn x 13 : Int) := or_dn x 13 hx
 go_enter Tryz.func79, Tryz.ntmps79
 go_wp2
 go_quiet (fail)
 go_wp2
 go_ret
 exact ⟨rfl, _, rfl⟩
theorem rot_17 (x : Nat) (hx : x < 4294967296) (w : World) :
 Calls Tryz.prog 141 #[.int .u32 x, .int .i64 (-17)] w fun e w' => e = .returned (.int .u32 (dn x 17)) ∧ w = w' := by
 have h1 : bits .and .u64 (IntKind.u64.wrap (-17)) 31 = 15 := by decide
 have h2 : bits .or .u32 ((x : Int) * 32768 % 4294967296) ((x : Int) / 131072) = (dn x 17 : Int) := or_dn' x 17 hx
 go_enter Tryz.func141, Tryz.ntmps141
 go_wp2
 go_ret
 exact ⟨rfl, rfl⟩
theorem rotr_17 (x : Nat) (hx : x < 4294967296) (w : World) :
 Calls Tryz.prog 79 #[.int .u32 x, .int .i64 17] w fun e w' => e = .returned (.int .u32 (dn x 17)) ∧ ∃ n, w' = w.drewN n := by
 have h2 : bits .or .u32 ((x : Int) / 131072) ((x : Int) * 32768 % 4294967296) = (dn x 17 : Int) := or_dn x 17 hx
 go_enter Tryz.func79, Tryz.ntmps79
 go_wp2
 go_quiet (fail)
 go_wp2
 go_ret
 exact ⟨rfl, _, rfl⟩
theorem rot_18 (x : Nat) (hx : x < 4294967296) (w : World) :
 Calls Tryz.prog 141 #[.int .u32 x, .int .i64 (-18)] w fun e w' => e = .returned (.int .u32 (dn x 18)) ∧ w = w' := by
 have h1 : bits .and .u64 (IntKind.u64.wrap (-18)) 31 = 14 := by decide
 have h2 : bits .or .u32 ((x : Int) * 16384 % 4294967296) ((x : Int) / 262144) = (dn x 18 : Int) := or_dn' x 18 hx
 go_enter Tryz.func141, Tryz.ntmps141
 go_wp2
 go_ret
 exact ⟨rfl, rfl⟩
theorem rotr_18 (x : Nat) (hx : x < 4294967296) (w : World) :
 Calls Tryz.prog 79 #[.int .u32 x, .int .i64 18] w fun e w' => e = .returned (.int .u32 (dn x 18)) ∧ ∃ n, w' = w.drewN n := by
 have h2 : bits .or .u32 ((x : Int) / 262144) ((x : Int) * 16384 % 4294967296) = (dn x 18 : Int) := or_dn x 18 hx
 go_enter Tryz.func79, Tryz.ntmps79
 go_wp2
 go_quiet (fail)
 go_wp2
 go_ret
 exact ⟨rfl, _, rfl⟩
theorem rot_19 (x : Nat) (hx : x < 4294967296) (w : World) :
 Calls Tryz.prog 141 #[.int .u32 x, .int .i64 (-19)] w fun e w' => e = .returned (.int .u32 (dn x 19)) ∧ w = w' := by
 have h1 : bits .and .u64 (IntKind.u64.wrap (-19)) 31 = 13 := by decide
 have h2 : bits .or .u32 ((x : Int) * 8192 % 4294967296) ((x : Int) / 524288) = (dn x 19 : Int) := or_dn' x 19 hx
 go_enter Tryz.func141, Tryz.ntmps141
 go_wp2
 go_ret
 exact ⟨rfl, rfl⟩
theorem rotr_19 (x : Nat) (hx : x < 4294967296) (w : World) :
 Calls Tryz.prog 79 #[.int .u32 x, .int .i64 19] w fun e w' => e = .returned (.int .u32 (dn x 19)) ∧ ∃ n, w' = w.drewN n := by
 have h2 : bits .or .u32 ((x : Int) / 524288) ((x : Int) * 8192 % 4294967296) = (dn x 19 : Int) := or_dn x 19 hx
 go_enter Tryz.func79, Tryz.ntmps79
 go_wp2
 go_quiet (fail)
 go_wp2
 go_ret
 exact ⟨rfl, _, rfl⟩
theorem rot_22 (x : Nat) (hx : x < 4294967296) (w : World) :
 Calls Tryz.prog 141 #[.int .u32 x, .int .i64 (-22)] w fun e w' => e = .returned (.int .u32 (dn x 22)) ∧ w = w' := by
 have h1 : bits .and .u64 (IntKind.u64.wrap (-22)) 31 = 10 := by decide
 have h2 : bits .or .u32 ((x : Int) * 1024 % 4294967296) ((x : Int) / 4194304) = (dn x 22 : Int) := or_dn' x 22 hx
 go_enter Tryz.func141, Tryz.ntmps141
 go_wp2
 go_ret
 exact ⟨rfl, rfl⟩
theorem rotr_22 (x : Nat) (hx : x < 4294967296) (w : World) :
 Calls Tryz.prog 79 #[.int .u32 x, .int .i64 22] w fun e w' => e = .returned (.int .u32 (dn x 22)) ∧ ∃ n, w' = w.drewN n := by
 have h2 : bits .or .u32 ((x : Int) / 4194304) ((x : Int) * 1024 % 4294967296) = (dn x 22 : Int) := or_dn x 22 hx
 go_enter Tryz.func79, Tryz.ntmps79
 go_wp2
 go_quiet (fail)
 go_wp2
 go_ret
 exact ⟨rfl, _, rfl⟩
theorem rot_25 (x : Nat) (hx : x < 4294967296) (w : World) :
 Calls Tryz.prog 141 #[.int .u32 x, .int .i64 (-25)] w fun e w' => e = .returned (.int .u32 (dn x 25)) ∧ w = w' := by
 have h1 : bits .and .u64 (IntKind.u64.wrap (-25)) 31 = 7 := by decide
 have h2 : bits .or .u32 ((x : Int) * 128 % 4294967296) ((x : Int) / 33554432) = (dn x 25 : Int) := or_dn' x 25 hx
 go_enter Tryz.func141, Tryz.ntmps141
 go_wp2
 go_ret
 exact ⟨rfl, rfl⟩
theorem rotr_25 (x : Nat) (hx : x < 4294967296) (w : World) :
 Calls Tryz.prog 79 #[.int .u32 x, .int .i64 25] w fun e w' => e = .returned (.int .u32 (dn x 25)) ∧ ∃ n, w' = w.drewN n := by
 have h2 : bits .or .u32 ((x : Int) / 33554432) ((x : Int) * 128 % 4294967296) = (dn x 25 : Int) := or_dn x 25 hx
 go_enter Tryz.func79, Tryz.ntmps79
 go_wp2
 go_quiet (fail)
 go_wp2
 go_ret
 exact ⟨rfl, _, rfl⟩
theorem rot_any (x k : Nat) (hk : isK k) (hx : x < 4294967296) (w : World) :
 Calls Tryz.prog 141 #[.int .u32 x, .int .i64 (-(k : Int))] w fun e w' => e = .returned (.int .u32 (dn x k)) ∧ w = w' := by
 rcases hk with rfl | rfl | rfl | rfl | rfl | rfl | rfl | rfl | rfl | rfl
 · exact rot_2 x hx w
 · exact rot_6 x hx w
 · exact rot_7 x hx w
 · exact rot_11 x hx w
 · exact rot_13 x hx w
 · exact rot_17 x hx w
 · exact rot_18 x hx w
 · exact rot_19 x hx w
 · exact rot_22 x hx w
 · exact rot_25 x hx w
theorem rdown_any (x k : Nat) (hk : isK k) (hx : x < 4294967296) (w : World) :
 Calls Tryz.prog 79 #[.int .u32 x, .int .i64 (k : Int)] w fun e w' => e = .returned (.int .u32 (dn x k)) ∧ ∃ n, w' = w.drewN n := by
 rcases hk with rfl | rfl | rfl | rfl | rfl | rfl | rfl | rfl | rfl | rfl
 · exact rotr_2 x hx w
 · exact rotr_6 x hx w
 · exact rotr_7 x hx w
 · exact rotr_11 x hx w
 · exact rotr_13 x hx w
 · exact rotr_17 x hx w
 · exact rotr_18 x hx w
 · exact rotr_19 x hx w
 · exact rotr_22 x hx w
 · exact rotr_25 x hx w
theorem down_any (x k : Nat) (hk : isK k) (hx : x < 4294967296) (w : World) :
 Calls Tryz.prog 138 #[.int .u32 x, .int .i64 (k : Int)] w fun e w' => e = .returned (.int .u32 (dn x k)) ∧ w = w' := by
 have hk31 : k ≤ 31 := by rcases hk with rfl | rfl | rfl | rfl | rfl | rfl | rfl | rfl | rfl | rfl <;> omega
 have HK := Lib.hid hk
 clear hk
 go_enter Tryz.func138, Tryz.ntmps138
 go_wp2_with (go_at_call 141; refine (rot_any x k HK.out hx _).mono ?_; rintro e w' ⟨rfl, rfl⟩)
 go_ret
 exact ⟨rfl, rfl⟩
theorem down_2 (x : Nat) (hx : x < 4294967296) (w : World) : Calls Tryz.prog 138 #[.int .u32 x, .int .i64 2] w fun e w' => e = .returned (.int .u32 (dn x 2)) ∧ w = w' := down_any x 2 (.inl rfl) hx w
theorem down_6 (x : Nat) (hx : x < 4294967296) (w : World) : Calls Tryz.prog 138 #[.int .u32 x, .int .i64 6] w fun e w' => e = .returned (.int .u32 (dn x 6)) ∧ w = w' := down_any x 6 (.inr (.inl rfl)) hx w
theorem down_7 (x : Nat) (hx : x < 4294967296) (w : World) : Calls Tryz.prog 138 #[.int .u32 x, .int .i64 7] w fun e w' => e = .returned (.int .u32 (dn x 7)) ∧ w = w' := down_any x 7 (.inr (.inr (.inl rfl))) hx w
theorem down_11 (x : Nat) (hx : x < 4294967296) (w : World) : Calls Tryz.prog 138 #[.int .u32 x, .int .i64 11] w fun e w' => e = .returned (.int .u32 (dn x 11)) ∧ w = w' := down_any x 11 (.inr (.inr (.inr (.inl rfl)))) hx w
theorem down_13 (x : Nat) (hx : x < 4294967296) (w : World) : Calls Tryz.prog 138 #[.int .u32 x, .int .i64 13] w fun e w' => e = .returned (.int .u32 (dn x 13)) ∧ w = w' := down_any x 13 (.inr (.inr (.inr (.inr (.inl rfl))))) hx w
theorem down_17 (x : Nat) (hx : x < 4294967296) (w : World) : Calls Tryz.prog 138 #[.int .u32 x, .int .i64 17] w fun e w' => e = .returned (.int .u32 (dn x 17)) ∧ w = w' := down_any x 17 (.inr (.inr (.inr (.inr (.inr (.inl rfl)))))) hx w
theorem down_18 (x : Nat) (hx : x < 4294967296) (w : World) : Calls Tryz.prog 138 #[.int .u32 x, .int .i64 18] w fun e w' => e = .returned (.int .u32 (dn x 18)) ∧ w = w' := down_any x 18 (.inr (.inr (.inr (.inr (.inr (.inr (.inl rfl))))))) hx w
theorem down_19 (x : Nat) (hx : x < 4294967296) (w : World) : Calls Tryz.prog 138 #[.int .u32 x, .int .i64 19] w fun e w' => e = .returned (.int .u32 (dn x 19)) ∧ w = w' := down_any x 19 (.inr (.inr (.inr (.inr (.inr (.inr (.inr (.inl rfl)))))))) hx w
theorem down_22 (x : Nat) (hx : x < 4294967296) (w : World) : Calls Tryz.prog 138 #[.int .u32 x, .int .i64 22] w fun e w' => e = .returned (.int .u32 (dn x 22)) ∧ w = w' := down_any x 22 (.inr (.inr (.inr (.inr (.inr (.inr (.inr (.inr (.inl rfl))))))))) hx w
theorem down_25 (x : Nat) (hx : x < 4294967296) (w : World) : Calls Tryz.prog 138 #[.int .u32 x, .int .i64 25] w fun e w' => e = .returned (.int .u32 (dn x 25)) ∧ w = w' := down_any x 25 (.inr (.inr (.inr (.inr (.inr (.inr (.inr (.inr (.inr (rfl)))))))))) hx w
def cellsK (k : IntKind) (ns : List Nat) : List Value := ns.map fun x => .int k (Int.ofNat x)
theorem cellsK_append (k : IntKind) (a b : List Nat) : cellsK k (a ++ b) = cellsK k a ++ cellsK k b := List.map_append
theorem cellsK_length (k : IntKind) (a : List Nat) : (cellsK k a).length = a.length := List.length_map ..
theorem cellsK_size (k : IntKind) (a : List Nat) : (cellsK k a).toArray.size = a.length := by simp [cellsK]
theorem cellsK_set (k : IntKind) (a : List Nat) (i x : Nat) : cellsK k (a.set i x) = (cellsK k a).set i (.int k (Int.ofNat x)) := List.map_set
theorem one_K (k : IntKind) (ns : List Nat) : ∀ u ∈ cellsK k ns, u.oneCell' = true := by
 intro u hu
 obtain ⟨z, _, rfl⟩ := List.mem_map.1 hu
 rfl
theorem one_Ka (k : IntKind) (ns : List Nat) : (cellsK k ns).toArray.all (·.oneCell') = true := by
 rw [Array.all_eq_true_iff_forall_mem]
 intro u hu
 exact one_K k ns u (by simpa using hu)
def Row (w : World) (g : Nat) (k : IntKind) (T : TypeId) (ns : List Nat) : Prop := w.heap[g]? = some (.cells (cellsK k ns).toArray T (0, 0))
section
variable {w w' : World} {g : Nat} {k : IntKind} {T : TypeId} {ns : List Nat}
theorem Row.cell (h : Row w g k T ns) (i : Nat) (hi : i < ns.length) : w.cell? ⟨g, i, none⟩ = some (.int k ((ns.getD i 0 : Nat) : Int)) := by
 rw [cell_of_row w g i _ T (0, 0) h]
 simp [cellsK, hi, List.getD]
theorem Row.free (h : Row w g k T ns) (i : Nat) : w.frozen? ⟨g, i, none⟩ = false := frozen_of_row w g i _ T h
theorem Row.set (h : Row w g k T ns) (i x : Nat) : Row (w.setCell ⟨g, i, none⟩ (.int k (x : Int))) g k T (ns.set i x) := by
 unfold Row
 rw [heap_setCell_same w g i _ T _ h, cellsK_set]
 simp
theorem Row.other (h : Row w g k T ns) (a : Addr) (v : Value) (ha : g ≠ a.block) : Row (w.setCell a v) g k T ns := by
 unfold Row
 rw [heap_setCell_other w a g v ha]
 exact h
theorem Row.lt (h : Row w g k T ns) : g < w.heap.size := by
 rcases Nat.lt_or_ge g w.heap.size with h1 | h1
 · exact h1
 · unfold Row at h
   rw [Array.getElem?_eq_none h1] at h
   cases h
theorem Row.drew (h : Row w g k T ns) : Row w.drew g k T ns := h
theorem Row.drewN (h : Row w g k T ns) (n : Nat) : Row (w.drewN n) g k T ns := h
theorem Row.alloc (h : Row w g k T ns) (o : Obj) : Row (w.alloc o) g k T ns := (heap_alloc_old w o h.lt).trans h
theorem Row.below (h : Row w g k T ns) (hb : Below w.heap.size w w') : Row w' g k T ns := (hb.block g h.lt).trans h
theorem Row.new (w : World) (k : IntKind) (T : TypeId) (ns : List Nat) : Row (w.alloc (.cells (cellsK k ns).toArray T)) w.heap.size k T ns := heap_alloc_new w _
theorem Row.setRow (h : Row w g k T ns) (ms : List Nat) : Row (w.setRow g (cellsK k ms).toArray) g k T ms := setRow_heap w g _ _ T (0, 0) h
theorem Row.setRowOther (h : Row w g k T ns) (g' : Nat) (cs : Array Value) (hg : g ≠ g') : Row (w.setRow g' cs) g k T ns := (setRow_other w g' g cs hg).trans h
end
section
variable {P : Program} {ops : Array Oper} {rest : List Oper} {o : Oper} {a : Act} {w : World} {Q : Exit → Act → World → Prop}
theorem wpList_loadK (ty : TypeId) (x : Operand) (hgd : o.guard = none) (ho : o.op = .load ty x) (g : Nat) (k : IntKind) (T : TypeId) (ns : List Nat) (n : Nat) (e : TypeId) (hR : Hid (Row w g k T ns))
 (hx : a.eval x = .pointer (some ⟨g, 0, none⟩)) (hu : P.underlying ty = some (.array n e)) (hi : Hid ((P.info? ty).map (·.size) = some n)) (hn : Hid (ns.length = n))
 (h : wpList P ops Q rest (a.put o.dst (.agg (cellsK k ns).toArray)) w) : wpList P ops Q (o :: rest) a w :=
 wpList_load_row hgd ty x ho g hx T _ (0, 0) _ hR hu rfl (by rw [hi.out, cellsK_size, hn.out]) h
theorem wpList_storeK (ty : TypeId) (x y : Operand) (hgd : o.guard = none) (ho : o.op = .store ty x y) (g : Nat) (k k' : IntKind) (T : TypeId) (old ns : List Nat) (n : Nat) (hR : Hid (Row w g k' T old))
 (hx : a.eval x = .pointer (some ⟨g, 0, none⟩)) (hy : a.eval y = .agg (cellsK k ns).toArray) (hi : Hid ((P.info? ty).map (·.size) = some n)) (hn : Hid (ns.length = n)) (hn' : Hid (old.length = n))
 (h : wpList P ops Q rest (a.put o.dst undef) (w.setRow g (cellsK k ns).toArray)) : wpList P ops Q (o :: rest) a w :=
 wpList_store_row hgd ty x y ho g _ hx hy T _ hR (by rw [hi.out, cellsK_size, hn.out]) (by rw [cellsK_size, cellsK_size, hn.out, hn'.out]) (one_Ka k ns) h
theorem resultsK {fn : Func} {p : Tmp} {ty : TypeId} (h : fn.results = #[.cell p ty]) (tmps : Array Value) (g : Nat) (k : IntKind) (T : TypeId) (ns : List Nat) (n : Nat) (e : TypeId) (hp : tmps.getD p undef = .pointer (some ⟨g, 0, none⟩)) (hR : Row w g k T ns)
 (hu : P.underlying ty = some (.array n e)) (hi : Hid ((P.info? ty).map (·.size) = some n)) (hn : Hid (ns.length = n)) : (results fn tmps).run P w = .ok (.agg (cellsK k ns).toArray) w :=
 results_cell_row h tmps w g T _ (0, 0) _ hp hR hu rfl (by rw [hi.out, cellsK_size, hn.out])
end
theorem size64w : Hid ((Tryz.prog.info? 198).map (·.size) = some 64) := Lib.hid (by kernel_rfl)
theorem size8w : Hid ((Tryz.prog.info? 182).map (·.size) = some 8) := Lib.hid (by kernel_rfl)
theorem size32b : Hid ((Tryz.prog.info? 176).map (·.size) = some 32) := Lib.hid (by kernel_rfl)
theorem zeros56 : (#[.int .u32 0, .int .u32 0, .int .u32 0, .int .u32 0, .int .u32 0, .int .u32 0, .int .u32 0, .int .u32 0, .int .u32 0, .int .u32 0, .int .u32 0, .int .u32 0, .int .u32 0, .int .u32 0, .int .u32 0, .int .u32 0,
 .int .u32 0, .int .u32 0, .int .u32 0, .int .u32 0, .int .u32 0, .int .u32 0, .int .u32 0, .int .u32 0, .int .u32 0, .int .u32 0, .int .u32 0, .int .u32 0, .int .u32 0, .int .u32 0, .int .u32 0, .int .u32 0,
 .int .u32 0, .int .u32 0, .int .u32 0, .int .u32 0, .int .u32 0, .int .u32 0, .int .u32 0, .int .u32 0, .int .u32 0, .int .u32 0, .int .u32 0, .int .u32 0, .int .u32 0, .int .u32 0, .int .u32 0, .int .u32 0,
 .int .u32 0, .int .u32 0, .int .u32 0, .int .u32 0, .int .u32 0, .int .u32 0, .int .u32 0, .int .u32 0, .int .u32 0, .int .u32 0, .int .u32 0, .int .u32 0, .int .u32 0, .int .u32 0, .int .u32 0, .int .u32 0] : Array Value) = (cellsK .u32 (List.replicate 64 0)).toArray := by kernel_rfl
theorem row_alloc2a (w : World) (a b : List Nat) (k k' : IntKind) (T T' : TypeId) : Row ((w.alloc (.cells (cellsK k a).toArray T)).alloc (.cells (cellsK k' b).toArray T')) w.heap.size k T a :=
 (Row.new w k T a).alloc _
theorem row_alloc2b (w : World) (a b : List Nat) (k k' : IntKind) (T T' : TypeId) : Row ((w.alloc (.cells (cellsK k a).toArray T)).alloc (.cells (cellsK k' b).toArray T')) (w.heap.size + 1) k' T' b := by
 have h := Row.new (w.alloc (.cells (cellsK k a).toArray T)) k' T' b
 have e : (w.alloc (.cells (cellsK k a).toArray T)).heap.size = w.heap.size + 1 := by
  show (w.heap.push _).size = _
  simp
 rwa [e] at h
theorem or_shl8 (p x : Nat) (hp : p < 16777216) (hx : x < 256) : bits .or .u32 ((p : Int) * 256) (x : Int) = ((p * 256 + x : Nat) : Int) := by
 have h := u32_or_nat (p * 256) x (by omega) (by omega)
 rw [nat_join 8 (p * 256) x (Nat.mul_mod_left _ _) hx] at h
 exact h
theorem wrap_add (a b : Nat) : IntKind.u32.wrap ((a : Int) + (b : Int)) = ((addM a b : Nat) : Int) := by
 rw [IntKind.wrap_u32']
 unfold addM
 omega
theorem xor_sig0 (x : Nat) (h : x < 4294967296) : bits .xor .u32 (bits .xor .u32 (dn x 7 : Int) (dn x 18 : Int)) ((x : Int) / 8) = (sig0 x : Int) := by
 rw [u32_xor_nat _ _ (dn_lt _ _ h) (dn_lt _ _ h)]
 exact u32_xor_nat _ (x / 8) (Nat.xor_lt_two_pow (n := 32) (dn_lt _ _ h) (dn_lt _ _ h)) (by omega)
theorem xor_sig1 (x : Nat) (h : x < 4294967296) : bits .xor .u32 (bits .xor .u32 (dn x 17 : Int) (dn x 19 : Int)) ((x : Int) / 1024) = (sig1 x : Int) := by
 rw [u32_xor_nat _ _ (dn_lt _ _ h) (dn_lt _ _ h)]
 exact u32_xor_nat _ (x / 1024) (Nat.xor_lt_two_pow (n := 32) (dn_lt _ _ h) (dn_lt _ _ h)) (by omega)
set_option maxRecDepth 100000 in
set_option maxHeartbeats 1000000 in
theorem spread_any (A : Option Addr) (cap : Nat) (l : List Nat) (w : World) (hR : RowN w A 64 l) :
 Calls Tryz.prog 137 #[.slice A 64 cap] w fun e w' => e = .returned (.agg (cellsK .u32 (sched (words l) 48)).toArray) ∧ Below w.heap.size w w' := by
 have HR := Lib.hid hR
 clear hR
 obtain ⟨b, off, rfl, hlt, hc⟩ := HR.out.cells (by omega)
 have HC := Lib.hid hc
 clear hc
 go_enter Tryz.func137, Tryz.ntmps137
 go_wp2
 rw [zeros56]
 have hB : Below w.heap.size w ((w.alloc (.cells (cellsK .u32 (List.replicate 64 0)).toArray 198)).alloc (.cells (cellsK .u32 (List.replicate 64 0)).toArray 198)) := ((Below.refl _ _).alloc (Nat.le_refl _) _).alloc (by simp) _
 have h1 := Lib.hid (row_alloc2a w (List.replicate 64 0) (List.replicate 64 0) .u32 .u32 198 198)
 have h2 := Lib.hid (row_alloc2b w (List.replicate 64 0) (List.replicate 64 0) .u32 .u32 198 198)
 generalize (w.alloc (.cells (cellsK .u32 (List.replicate 64 0)).toArray 198)).alloc (.cells (cellsK .u32 (List.replicate 64 0)).toArray 198) = w0 at *
 go_loopw [11] (fun i wr => ∃ k : Nat, k ≤ 64 ∧ i = .int .i64 k ∧ Hid (Row wr w.heap.size .u32 198 (List.replicate 64 0)) ∧ Hid (Row wr (w.heap.size + 1) .u32 198 (partial_ l k)) ∧ Below w.heap.size w wr) (fun i _ => 64 - (intOf i).toNat)
 case atStart => exact ⟨0, by omega, rfl, h1, by rw [partial_zero]; exact h2, hB⟩
 case round =>
  obtain ⟨k, hk, rfl, HA, HB, hbr⟩ := hrel
  clear h1 h2 hB
  by_cases hkn : k < 64
  · have hck := (hbr.cell (p := ⟨b, off + k, none⟩) hlt).trans (HC.out k hkn)
    have hj : k / 4 < 64 := by omega
    have hcw := HB.out.cell (k / 4) (by rw [partial_length]; exact hj)
    have hfw := HB.out.free (k / 4)
    rw [partial_getD l k _ hj] at hcw
    have hx := getD_lt (by decide) HR.out.lt k
    have hp := partW_lt l k HR.out.lt
    have HN := Lib.hid (HB.out.set (k / 4) (partW l k (k / 4) * 256 + l.getD k 0))
    have hkn' : (k : Int) < 64 := by omega
    have HS := Lib.hid (partial_set l k (by rw [HR.out.length]; exact hkn) hkn)
    generalize l.getD k 0 = x at *
    have hor := or_shl8 (partW l k (k / 4)) x hp hx
    obtain ⟨v, hv⟩ : ∃ v : Nat, v = partW l k (k / 4) * 256 + x := ⟨_, rfl⟩
    rw [← hv] at hor HN
    have HV := Lib.hid hv
    clear hv
    go_wp2
    go_roundw
    case rel =>
     refine ⟨k + 1, by omega, by go_num, Lib.hid (HA.out.other _ _ (by simp)), ?_, hbr.setCell (by simp) _⟩
     rw [← HS.out]
     rw [← HV.out]
     exact HN
    case measure => simp [intOf]; omega
  · obtain rfl : k = 64 := by omega
    rw [partial_end l HR.out.length] at HB
    have hB0 : Hid (Row wr (w.heap.size + 1) .u32 198 (schedA (words l) 0)) := HB
    clear HB
    go_wp2
    have hwl := Lib.hid (words_length l)
    have hwb := Lib.hid (words_lt l HR.out.lt)
    generalize hws : words l = ws at *
    have HWS := Lib.hid hws
    clear hws
    go_loopw [6] (fun i wr => ∃ m : Nat, m ≤ 48 ∧ i = .int .i64 ((m : Int) + 16) ∧ Hid (Row wr w.heap.size .u32 198 (List.replicate 64 0)) ∧ Hid (Row wr (w.heap.size + 1) .u32 198 (schedA ws m)) ∧ Below w.heap.size w wr) (fun i _ => 64 - (intOf i).toNat)
    case atStart => exact ⟨0, by omega, rfl, HA, hB0, hbr⟩
    case round =>
     obtain ⟨m, hm, rfl, HA2, HB2, hbq⟩ := hrel
     clear HA hB0 hbr
     by_cases hmn : m < 48
     · have hx0 := sched_getD_lt ws hwb.out m m
       have hx1 := sched_getD_lt ws hwb.out m (m + 1)
       have hx9 := sched_getD_lt ws hwb.out m (m + 9)
       have hx14 := sched_getD_lt ws hwb.out m (m + 14)
       have hc0 := HB2.out.cell m (by rw [schedA_length _ hwl.out _ hm]; omega)
       have hc1 := HB2.out.cell (m + 1) (by rw [schedA_length _ hwl.out _ hm]; omega)
       have hc9 := HB2.out.cell (m + 9) (by rw [schedA_length _ hwl.out _ hm]; omega)
       have hc14 := HB2.out.cell (m + 14) (by rw [schedA_length _ hwl.out _ hm]; omega)
       have hc16 := HB2.out.cell (m + 16) (by rw [schedA_length _ hwl.out _ hm]; omega)
       rw [schedA_getD _ hwl.out _ _ (by omega)] at hc0 hc1 hc9 hc14
       generalize (schedA ws m).getD (m + 16) 0 = x16 at *
       have hf := HB2.out.free (m + 16)
       have HN := Lib.hid (HB2.out.set (m + 16) (nextW (sched ws m)))
       have HE := Lib.hid (nextW_is ws hwl.out m)
       rw [schedA_set ws hwl.out m hmn] at HN
       generalize nextW (sched ws m) = nx at *
       generalize (sched ws m).getD m 0 = x0 at *
       generalize (sched ws m).getD (m + 1) 0 = x1 at *
       generalize (sched ws m).getD (m + 9) 0 = x9 at *
       generalize (sched ws m).getD (m + 14) 0 = x14 at *
       have hmn' : (m : Int) < 48 := by omega
       go_wp2
       have e1 : IntKind.i64.wrap ((m : Int) + 16 - 15) = (m : Int) + 1 := by rw [IntWalk.i64_in _ (by omega)]; omega
       have e2 : IntKind.i64.wrap ((m : Int) + 16 - 2) = (m : Int) + 14 := by rw [IntWalk.i64_in _ (by omega)]; omega
       have n1 : ((m : Int) + 1).toNat = m + 1 := by omega
       have n2 : ((m : Int) + 14).toNat = m + 14 := by omega
       have p1 : (0 : Int) ≤ (m : Int) + 1 := by omega
       have p2 : (0 : Int) ≤ (m : Int) + 14 := by omega
       have l1 : (m : Int) + 1 < 64 := by omega
       have l2 : (m : Int) + 14 < 64 := by omega
       have b1 := xor_sig0 x1 hx1
       have b2 := xor_sig1 x14 hx14
       go_quiet ((first | (go_at_call 138; exact quiet_left (down_7 x1 hx1 _)) | (go_at_call 138; exact quiet_left (down_18 x1 hx1 _))))
       have K0 := Lib.hid (show Row (wr.drewN nq) _ _ _ _ from HA2.out)
       have K1 := Lib.hid (show Row (wr.drewN nq) _ _ _ _ from HB2.out)
       have K2 := Lib.hid (below_drewNS hbq nq)
       have K3 := Lib.hid (show Row ((wr.drewN nq).setCell _ _) _ _ _ _ from HN.out)
       have c0 : (wr.drewN nq).cell? _ = _ := hc0
       have c1 : (wr.drewN nq).cell? _ = _ := hc1
       have c9 : (wr.drewN nq).cell? _ = _ := hc9
       have c14 : (wr.drewN nq).cell? _ = _ := hc14
       have c16 : (wr.drewN nq).cell? _ = _ := hc16
       have cf : (wr.drewN nq).frozen? _ = _ := hf
       clear hc0 hc1 hc9 hc14 hc16 hf HA2 HB2 hbq HN
       generalize wr.drewN nq = w2 at *
       go_wp2
       go_quiet ((first | (go_at_call 138; exact quiet_left (down_17 x14 hx14 _)) | (go_at_call 138; exact quiet_left (down_19 x14 hx14 _))))
       have J0 := Lib.hid (show Row (w2.drewN nq) _ _ _ _ from K0.out)
       have J2 := Lib.hid (below_drewNS K2.out nq)
       have J3 := Lib.hid (show Row ((w2.drewN nq).setCell _ _) _ _ _ _ from K3.out)
       have d0 : (w2.drewN nq).cell? _ = _ := c0
       have d9 : (w2.drewN nq).cell? _ = _ := c9
       have d16 : (w2.drewN nq).cell? _ = _ := c16
       have df : (w2.drewN nq).frozen? _ = _ := cf
       clear c0 c1 c9 c14 c16 cf K0 K1 K2 K3 b1 b2 e1 e2 n1 n2 p1 p2 l1 l2 hx1 hx14 HC hlt
       generalize w2.drewN nq = w3 at *
       generalize sig0 x1 = sa at *
       generalize sig1 x14 = sb at *
       go_wp2
       have e1 : IntKind.i64.wrap ((m : Int) + 16 - 16) = (m : Int) := by rw [IntWalk.i64_in _ (by omega)]; omega
       have e2 : IntKind.i64.wrap ((m : Int) + 16 - 7) = (m : Int) + 9 := by rw [IntWalk.i64_in _ (by omega)]; omega
       have n1 : ((m : Int) + 9).toNat = m + 9 := by omega
       have n2 : ((m : Int) + 16).toNat = m + 16 := by omega
       have p1 : (0 : Int) ≤ (m : Int) + 9 := by omega
       have p2 : (0 : Int) ≤ (m : Int) + 16 := by omega
       have p3 : (0 : Int) ≤ (m : Int) := by omega
       have l1 : (m : Int) + 9 < 64 := by omega
       have l2 : (m : Int) + 16 < 64 := by omega
       have l3 : (m : Int) < 64 := by omega
       have q1 : IntKind.u32.wrap ((x0 : Int) + (sa : Int)) = ((addM x0 sa : Nat) : Int) := wrap_add x0 sa
       have q2 : IntKind.u32.wrap (((addM x0 sa : Nat) : Int) + (x9 : Int)) = ((addM (addM x0 sa) x9 : Nat) : Int) := wrap_add _ _
       have q3 : IntKind.u32.wrap (((addM (addM x0 sa) x9 : Nat) : Int) + (sb : Int)) = (nx : Int) := by rw [HE.out]; exact wrap_add _ _
       go_region
       have L0 : Hid (Row ((w3.setCell ⟨w.heap.size + 1, m + 16, none⟩ (.int .u32 (nx : Int))).drew) w.heap.size .u32 198 (List.replicate 64 0)) := Lib.hid (J0.out.other _ _ (by simp)).drew
       have L1 : Hid (Row ((w3.setCell ⟨w.heap.size + 1, m + 16, none⟩ (.int .u32 (nx : Int))).drew) (w.heap.size + 1) .u32 198 (schedA ws (m + 1))) := Lib.hid (show Row (w3.setCell _ _).drew _ _ _ _ from J3.out.drew)
       have L2 : Hid (Below w.heap.size w ((w3.setCell ⟨w.heap.size + 1, m + 16, none⟩ (.int .u32 (nx : Int))).drew)) := Lib.hid (J2.out.setCell (by simp) _).drew
       clear J0 J2 J3 d0 d9 d16 df e1 e2 n1 n2 p1 p2 p3 l1 l2 l3 q1 q2 q3 HE
       generalize (w3.setCell ⟨w.heap.size + 1, m + 16, none⟩ (.int .u32 (nx : Int))).drew = w4 at *
       go_wp2
       go_roundw
       case rel => exact ⟨m + 1, by omega, by go_num, L0, L1, L2.out⟩
       case measure => simp [intOf]; omega
     · obtain rfl : m = 48 := by omega
       have hz : 48 - 48 = 0 := rfl
       have HS : Hid (schedA ws 48 = sched ws 48) := Lib.hid (by unfold schedA; simp)
       rw [HS.out] at HB2
       have hl48 : Hid ((sched ws 48).length = 64) := Lib.hid (by rw [sched_length, hwl.out])
       generalize hfin : sched ws 48 = fin at *
       have HF := Lib.hid hfin
       clear hfin
       have hz64 : Hid ((List.replicate 64 0 : List Nat).length = 64) := Lib.hid (List.length_replicate ..)
       go_wp2_with (first | (with_reducible refine wpList_loadK 198 (.tmp 3) rfl rfl (w.heap.size + 1) .u32 198 fin 64 138 HB2 rfl Tryz.underlying198 size64w hl48 ?_) | (with_reducible refine wpList_storeK 198 (.tmp 2) (.tmp 81) rfl rfl w.heap.size .u32 .u32 198 (List.replicate 64 0) fin 64 HA2 rfl rfl size64w hl48 hz64 ?_))
       exact bodyPost_ret (resultsK rfl _ w.heap.size .u32 198 fin 64 138 rfl (HA2.out.setRow fin) Tryz.underlying198 size64w hl48) rfl ⟨by rw [HWS.out, HF.out], below_setRow hbq (Nat.le_refl _) _⟩
def zc (m : Nat) : Nat := if m ≤ 55 then 55 - m else 119 - m
def lenBytes (n : Nat) : List Nat := (List.range 8).map fun i => 8 * n / 2 ^ (56 - 8 * i) % 256
def tailN (l : List Nat) (n : Nat) : List Nat := l ++ ([128] ++ (List.replicate (zc l.length) 0 ++ lenBytes n))
theorem lenBytes_length (n : Nat) : (lenBytes n).length = 8 := by simp [lenBytes]
theorem lenBytes_take (n j : Nat) (hj : j < 8) : (lenBytes n).take (j + 1) = (lenBytes n).take j ++ [8 * n / 2 ^ (56 - 8 * j) % 256] := by
 rw [List.take_add_one]
 congr 1
 simp [lenBytes, hj]
theorem zc_no (m j : Nat) (hm : m < 64) (hj : j < zc m) : (m + 1 + j) % 64 ≠ 56 := by
 unfold zc at hj
 split at hj <;> omega
theorem zc_yes (m : Nat) (hm : m < 64) : (m + 1 + zc m) % 64 = 56 := by
 unfold zc
 split <;> omega
theorem zc_le (m : Nat) (hm : m < 64) : m + 1 + zc m ≤ 120 := by
 unfold zc
 split <;> omega
theorem tailN_lt (l : List Nat) (n : Nat) (h : ∀ x ∈ l, x < 256) : ∀ x ∈ tailN l n, x < 256 := by
 intro x hx
 unfold tailN at hx
 rcases List.mem_append.1 hx with hx | hx
 · exact h x hx
 · rcases List.mem_append.1 hx with hx | hx
   · simp only [List.mem_cons, List.not_mem_nil, or_false] at hx; omega
   · rcases List.mem_append.1 hx with hx | hx
     · have := List.eq_of_mem_replicate hx; omega
     · unfold lenBytes at hx
       obtain ⟨i, _, rfl⟩ := List.mem_map.1 hx
       exact Nat.mod_lt _ (by decide)
theorem tailN_length (l : List Nat) (n : Nat) : (tailN l n).length = l.length + 1 + zc l.length + 8 := by
 unfold tailN
 rw [List.length_append, List.length_append, List.length_append, List.length_replicate, lenBytes_length, List.length_singleton]
 omega
theorem cells_snoc (l : List Nat) (x : Nat) : cellsZ (asZ (l ++ [x])) = cellsZ (asZ l) ++ [.int .u8 (x : Int)] := by
 rw [asZ_append, cellsZ_append]
 rfl
theorem RowN.of_own {w : World} {B g n c : Nat} {l : List Nat} (h : w.ownsRow B 5 1 (.slice (some ⟨g, 0, none⟩) n c) n (cellsZ (asZ l))) (hz : ∀ x ∈ l, x < 256) (hl : l.length = n) : RowN w (some ⟨g, 0, none⟩) n l :=
 row_of_own h (fun z hz' => by
  obtain ⟨x, hx, rfl⟩ := List.mem_map.1 hz'
  have := hz x hx
  exact ⟨Int.natCast_nonneg _, by show ((x : Nat) : Int) ≤ 255; omega⟩) (by rw [asZ_length, hl])
theorem RowN.srcAny {w : World} {A : Option Addr} {n : Nat} {l : List Nat} (h : RowN w A n l) : ∀ ad, A = some ad → ∀ j u, (cellsZ (asZ l))[j]? = some u → w.cell? (ad.add j) = some u := by
 intro ad had j u hu
 have hj : j < n := by
  have := (List.getElem?_eq_some_iff.1 hu).1
  simpa [cellsZ, h.1] using this
 obtain ⟨ad', e, hc⟩ := RowZ.src h (by omega)
 rw [had] at e
 obtain rfl := Option.some.inj e
 exact hc j u hu
set_option maxHeartbeats 2000000 in
theorem tail_any (A : Option Addr) (m cap n : Nat) (l : List Nat) (hm : m < 64) (hn : n ≤ 1000000) (hA : A = none → cap = 0) (w : World) (hR : RowN w A m l) :
 Calls Tryz.prog 131 #[.slice A m cap, .int .i64 n] w fun e w' => (∃ g k, e = .returned (.slice (some ⟨g, 0, none⟩) k 128) ∧ RowN w' (some ⟨g, 0, none⟩) k (tailN l n)) ∧ Below w.heap.size w w' := by
 have hmk := make_bytes 0 128 (by omega) (by omega)
 rw [show ((0 : Nat) : Int) = 0 from rfl, show ((128 : Nat) : Int) = 128 from rfl] at hmk
 have HR := Lib.hid hR
 have HM : Hid (l.length = m) := Lib.hid hR.length
 have HL := Lib.hid hR.lt
 obtain ⟨i0, hi, hz0, hz1, hz2⟩ := info_parts info_u8
 have HI := Lib.hid hi
 have HZ1 := Lib.hid hz1
 have HO : Hid ((w.alloc (.cells (cellsZ (List.replicate 128 0)).toArray 5)).ownsRow w.heap.size 5 1 (.slice (some ⟨w.heap.size, 0, none⟩) 0 128) 0 []) :=
  Lib.hid (own_of_heap (xs := []) (ys := cellsZ (List.replicate 128 0)) (by rw [List.nil_append]; exact heap_alloc_new w _) (Nat.le_refl _) rfl (by simp [cellsZ]) (by omega))
 have hB0 : Below w.heap.size w (w.alloc (.cells (cellsZ (List.replicate 128 0)).toArray 5)) := (Below.refl _ _).alloc (Nat.le_refl _) _
 have HS := Lib.hid (RowN.srcAny (hR.below hB0))
 have HAN : Hid (A = none → m = 0 ∧ cap = 0) := Lib.hid (fun h => ⟨(by
  rcases Nat.eq_zero_or_pos m with h0 | h0
  · exact h0
  · obtain ⟨b, off, e, _⟩ := hR.2.2 h0
    rw [h] at e
    cases e), hA h⟩)
 have HCL : Hid ((cellsZ (asZ l)).length = m * 1) := Lib.hid (by rw [cellsZ, List.length_map, hR.1]; omega)
 clear hR hi hz0 hz1 hz2 hA
 have hzle := zc_le m hm
 go_enter Tryz.func131, Tryz.ntmps131
 go_wp2_with (first
  | (at_builtin; refine wpList_append_fits_any _ (by rfl) (.tmp 9) (.tmp 10) 40 (by rfl) w.heap.size 5 i0 1 Tryz.underlying40 HI.out HZ1.out w.heap.size 0 128 _ (by rfl) HO.out A m cap (cellsZ (asZ l)) (by rfl) HCL.out HAN.out HS.out (one_u8 _) (by omega) ?_; intro w1 hown1 hgrow1
     have hb1 : Below w.heap.size w w1 := hB0.grown hgrow1 (by simp) (fun q hq => by injection hq with hq; omega)
     rw [Nat.zero_add, List.nil_append] at hown1
     have H1 := Lib.hid (hown1.alloc (.cells #[.int .u8 128] 5))
     have N1 := Lib.hid (new_cell w1 (.int .u8 128) 5)
     clear hown1 hgrow1 HO hB0 HS HCL HAN hmk
     rw [Nat.zero_add])
  | (at_builtin; refine wpList_append_fits _ (by rfl) (.tmp 12) (.tmp 13) 40 (by rfl) w.heap.size 5 i0 1 Tryz.underlying40 HI.out HZ1.out w.heap.size m 128 _ (by rfl) H1.out ⟨w1.heap.size, 0, none⟩ 1 1 [.int .u8 128] (by rfl) rfl N1.out (one_u8 [128]) (by omega) ?_; intro w2 hown2 hgrow2))
 have hb2 : Below w.heap.size w w2 := (hb1.alloc hb1.size _).grown hgrow2 (by have := hb1.size; simp; omega) (fun q hq => by injection hq with hq; omega)
 have H2 : Hid (w2.ownsRow w.heap.size 5 1 (.slice (some ⟨w.heap.size, 0, none⟩) (m + 1 + 0) 128) (m + 1 + 0) (cellsZ (asZ (l ++ ([128] ++ List.replicate 0 0))))) := by
  rw [List.replicate_zero, List.append_nil, cells_snoc]
  exact Lib.hid hown2
 clear hown2 hgrow2 hb1 H1 N1
 go_wp2
 go_loopw [5] (fun v wr => ∃ j : Nat, j ≤ zc m ∧ v = .slice (some ⟨w.heap.size, 0, none⟩) (m + 1 + j) 128 ∧ Hid (wr.ownsRow w.heap.size 5 1 (.slice (some ⟨w.heap.size, 0, none⟩) (m + 1 + j) 128) (m + 1 + j) (cellsZ (asZ (l ++ ([128] ++ List.replicate j 0))))) ∧ Below w.heap.size w wr) (fun v _ => match v with | .slice _ k _ => 128 - k | _ => 0)
 case atStart => exact ⟨0, by omega, rfl, H2, hb2⟩
 case round =>
  obtain ⟨j, hj, rfl, HO2, hbr⟩ := hrel
  clear H2 hb2
  rcases Nat.lt_or_ge j (zc m) with hjz | hjz
  · have hmod := zc_no m j hm hjz
    have ht : ((m : Int) + 1 + (j : Int)).tmod 64 = ((m : Int) + 1 + (j : Int)) % 64 := by rw [Int.tmod_eq_emod_of_nonneg (by omega)]
    have H3 := Lib.hid (HO2.out.alloc (.cells #[.int .u8 0] 5))
    have N3 := Lib.hid (new_cell wr (.int .u8 0) 5)
    have hne : (((m : Int) + 1 + (j : Int)) % 64 != 56) = true := by rw [bne_iff_ne]; omega
    clear hmod
    go_wp2_with (at_builtin; go_loud (refine wpList_append_fits _ (by rfl) (.tmp 19) (.tmp 20) 40 (by rfl) w.heap.size 5 i0 1 Tryz.underlying40 HI.out HZ1.out w.heap.size (m + 1 + j) 128 _ (by rfl) H3.out ⟨wr.heap.size, 0, none⟩ 1 1 [.int .u8 0] (by rfl) rfl N3.out (one_u8 [0]) (by omega) ?_); intro w3 hown3 hgrow3)
    have hb3 : Below w.heap.size w w3 := (hbr.alloc hbr.size _).grown hgrow3 (by have := hbr.size; simp; omega) (fun q hq => by injection hq with hq; omega)
    have H4 : Hid (w3.ownsRow w.heap.size 5 1 (.slice (some ⟨w.heap.size, 0, none⟩) (m + 1 + (j + 1)) 128) (m + 1 + (j + 1)) (cellsZ (asZ (l ++ ([128] ++ List.replicate (j + 1) 0))))) := by
     have e : l ++ ([128] ++ List.replicate (j + 1) 0) = (l ++ ([128] ++ List.replicate j 0)) ++ [0] := by
      rw [List.replicate_succ', List.append_assoc, List.append_assoc]
     rw [e, cells_snoc]
     exact Lib.hid hown3
    clear hown3 hgrow3 H3 N3
    go_wp2
    go_roundw
    case rel => exact ⟨j + 1, by omega, rfl, H4, hb3⟩
    case measure => simp; omega
  · obtain rfl : j = zc m := by omega
    have hmod := zc_yes m hm
    have ht : ((m : Int) + 1 + (zc m : Int)).tmod 64 = ((m : Int) + 1 + (zc m : Int)) % 64 := by rw [Int.tmod_eq_emod_of_nonneg (by omega)]
    have hne : (((m : Int) + 1 + (zc m : Int)) % 64 != 56) = false := by rw [bne_eq_false_iff_eq]; omega
    clear hmod
    have HZC := Lib.hid (show ∃ q, q = m + 1 + zc m from ⟨_, rfl⟩)
    have HO3 : Hid (wr.ownsRow w.heap.size 5 1 (.slice (some ⟨w.heap.size, 0, none⟩) (m + 1 + zc m + 0) 128) (m + 1 + zc m + 0) (cellsZ (asZ (l ++ ([128] ++ (List.replicate (zc m) 0 ++ (lenBytes n).take 0)))))) := by
     rw [List.take_zero, List.append_nil]
     exact HO2
    clear HO2
    go_wp2
    go_loopw [5, 25] (fun v i wr => ∃ j : Nat, j ≤ 8 ∧ i = .int .i64 j ∧ v = .slice (some ⟨w.heap.size, 0, none⟩) (m + 1 + zc m + j) 128 ∧ Hid (wr.ownsRow w.heap.size 5 1 (.slice (some ⟨w.heap.size, 0, none⟩) (m + 1 + zc m + j) 128) (m + 1 + zc m + j) (cellsZ (asZ (l ++ ([128] ++ (List.replicate (zc m) 0 ++ (lenBytes n).take j)))))) ∧ Below w.heap.size w wr) (fun _ i _ => 8 - (intOf i).toNat)
    case atStart => exact ⟨0, by omega, rfl, rfl, HO3, hbr⟩
    case round =>
     obtain ⟨j, hj, rfl, rfl, HO4, hbq⟩ := hrel
     clear HO3 hbr hne ht
     by_cases hj8 : j < 8
     · have hj8' : (j : Int) < 8 := by omega
       have H5 := Lib.hid (HO4.out.alloc (.cells #[.int .u8 (8 * (n : Int) / 2 ^ (56 - 8 * j) % 256)] 5))
       have N5 := Lib.hid (new_cell wr (.int .u8 (8 * (n : Int) / 2 ^ (56 - 8 * j) % 256)) 5)
       go_wp2_with (at_builtin; go_loud (refine wpList_append_fits _ (by rfl) (.tmp 28) (.tmp 36) 40 (by rfl) w.heap.size 5 i0 1 Tryz.underlying40 HI.out HZ1.out w.heap.size (m + 1 + zc m + j) 128 _ (by rfl) H5.out ⟨wr.heap.size, 0, none⟩ 1 1 [.int .u8 (8 * (n : Int) / 2 ^ (56 - 8 * j) % 256)] (by rfl) rfl N5.out (one_u8 [8 * (n : Int) / 2 ^ (56 - 8 * j) % 256]) (by omega) ?_); intro w3 hown3 hgrow3)
       have hb3 : Below w.heap.size w w3 := (hbq.alloc hbq.size _).grown hgrow3 (by have := hbq.size; simp; omega) (fun q hq => by injection hq with hq; omega)
       have H6 : Hid (w3.ownsRow w.heap.size 5 1 (.slice (some ⟨w.heap.size, 0, none⟩) (m + 1 + zc m + (j + 1)) 128) (m + 1 + zc m + (j + 1)) (cellsZ (asZ (l ++ ([128] ++ (List.replicate (zc m) 0 ++ (lenBytes n).take (j + 1))))))) := by
        have e : l ++ ([128] ++ (List.replicate (zc m) 0 ++ (lenBytes n).take (j + 1))) = (l ++ ([128] ++ (List.replicate (zc m) 0 ++ (lenBytes n).take j))) ++ [8 * n / 2 ^ (56 - 8 * j) % 256] := by
         rw [lenBytes_take n j hj8, List.append_assoc, List.append_assoc, List.append_assoc]
        rw [e, cells_snoc]
        have ec : (((8 * n / 2 ^ (56 - 8 * j) % 256 : Nat)) : Int) = 8 * (n : Int) / 2 ^ (56 - 8 * j) % 256 := by simp
        rw [ec]
        exact Lib.hid hown3
       clear hown3 hgrow3 H5 N5
       go_wp2
       go_roundw
       case rel => exact ⟨j + 1, by omega, by go_num, rfl, H6, hb3⟩
       case measure => simp [intOf]; omega
     · obtain rfl : j = 8 := by omega
       have e : l ++ ([128] ++ (List.replicate (zc m) 0 ++ (lenBytes n).take 8)) = tailN l n := by
        rw [List.take_of_length_le (by rw [lenBytes_length]; omega), tailN, HM.out]
       rw [e] at HO4
       have hR4 := Lib.hid (RowN.of_own HO4.out (tailN_lt l n HL.out) (by
        rw [← e, List.length_append, List.length_append, List.length_append, List.length_replicate, List.length_take, lenBytes_length, HM.out, List.length_singleton]
        omega))
       clear HO4 e
       go_wp2
       go_ret
       exact ⟨⟨w.heap.size, m + 1 + zc m + 8, rfl, hR4.out⟩, hbq⟩
def startN : St := ⟨1779033703, 3144134277, 1013904242, 2773480762, 1359893119, 2600822924, 528734635, 1541459225⟩
theorem startN_ok : startN.ok := by unfold St.ok startN; decide
theorem size43z' : (#[.int .u32 0, .int .u32 0, .int .u32 0, .int .u32 0, .int .u32 0, .int .u32 0, .int .u32 0, .int .u32 0] : Array Value) = (cellsK .u32 (List.replicate 8 0)).toArray := by kernel_rfl
theorem start_any (w : World) :
 Calls Tryz.prog 124 #[] w fun e w' => e = .returned (.agg (cellsK .u32 startN.list).toArray) ∧ Below w.heap.size w w' := by
 have hz8 : Hid ((List.replicate 8 0 : List Nat).length = 8) := Lib.hid rfl
 have hl8 : Hid (startN.list.length = 8) := Lib.hid rfl
 have h1 := Lib.hid (Row.new w .u32 182 (List.replicate 8 0))
 go_enter Tryz.func124, Tryz.ntmps124
 go_wp2_with (rw [size43z']; refine wpList_storeK 182 (.tmp 0) (.tmp 1) rfl rfl w.heap.size .u32 .u32 182 (List.replicate 8 0) startN.list 8 h1 rfl rfl size8w hl8 hz8 ?_)
 exact bodyPost_ret (resultsK rfl _ w.heap.size .u32 182 startN.list 8 138 rfl (h1.out.setRow startN.list) Tryz.underlying182 size8w hl8) rfl ⟨rfl, below_setRow ((Below.refl _ _).alloc (Nat.le_refl _) _) (Nat.le_refl _) _⟩
def outN (s : St) : List Nat := (List.range 32).map fun p => s.list.getD (p / 4) 0 / 2 ^ (24 - 8 * (p % 4)) % 256
def outPS (s : St) (p : Nat) : List Nat := (outN s).take p ++ List.replicate (32 - p) 0
theorem outN_length (s : St) : (outN s).length = 32 := by simp [outN]
theorem outP_length (s : St) (p : Nat) (h : p ≤ 32) : (outPS s p).length = 32 := by
 unfold outPS
 rw [List.length_append, List.length_take, outN_length, List.length_replicate]
 omega
theorem outN_lt (s : St) : ∀ x ∈ outN s, x < 256 := by
 intro x hx
 obtain ⟨i, _, rfl⟩ := List.mem_map.1 hx
 exact Nat.mod_lt _ (by decide)
theorem outP_set (s : St) (i j : Nat) (hi : i < 8) (hj : j < 4) : (outPS s (4 * i + j)).set (4 * i + j) (s.list.getD i 0 / 2 ^ (24 - 8 * j) % 256) = outPS s (4 * i + (j + 1)) := by
 have hp : 4 * i + j < 32 := by omega
 have hl : ((outN s).take (4 * i + j)).length = 4 * i + j := by rw [List.length_take, outN_length]; omega
 have e : List.replicate (32 - (4 * i + j)) 0 = 0 :: List.replicate (32 - (4 * i + (j + 1))) 0 := by
  rw [show 32 - (4 * i + j) = (32 - (4 * i + (j + 1))) + 1 from by omega, List.replicate_succ]
 have et : (outN s).take (4 * i + (j + 1)) = (outN s).take (4 * i + j) ++ [s.list.getD i 0 / 2 ^ (24 - 8 * j) % 256] := by
  rw [show 4 * i + (j + 1) = (4 * i + j) + 1 from by omega, List.take_add_one]
  congr 1
  have h1 : (4 * i + j) / 4 = i := by omega
  have h2 : (4 * i + j) % 4 = j := by omega
  unfold outN
  rw [List.getElem?_map, List.getElem?_range hp]
  simp only [Option.map_some, h1, h2]
  rfl
 unfold outPS
 rw [e, et, List.set_append_right _ _ (by omega), hl, Nat.sub_self, List.set_cons_zero, List.append_assoc]
 rfl
end Go.Proofs.YtdjnebgjdekmaaaGreatDoor
