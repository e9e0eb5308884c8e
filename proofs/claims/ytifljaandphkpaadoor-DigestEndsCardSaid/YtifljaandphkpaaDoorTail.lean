/-
  The contract of digest.tail: what is laid behind all bytes.
-/
import Derived.Test.YtifljaandphkpaaDoorCrc
import Derived.Test.YtifljaandphkpaaDoorDn
import Derived.OwnWalk
namespace Go.Proofs.YtifljaandphkpaaDoor
open Go.RowKit
set_option linter.unusedVariables false

/-- How many bytes 0 are laid behind m bytes (of the last block) and the byte 128. -/
def zc (m : Nat) : Nat := if m ≤ 55 then 55 - m else 119 - m
def lenBytes (n : Nat) : List Nat := (List.range 8).map fun i => 8 * n / 2 ^ (56 - 8 * i) % 256
/-- What stands behind the whole blocks, and what is laid behind it. -/
def tailN (l : List Nat) (n : Nat) : List Nat := l ++ ([128] ++ (List.replicate (zc l.length) 0 ++ lenBytes n))
theorem lenBytes_length (n : Nat) : (lenBytes n).length = 8 := by simp [lenBytes]
theorem lenBytes_take (n j : Nat) (hj : j < 8) : (lenBytes n).take (j + 1) = (lenBytes n).take j ++ [8 * n / 2 ^ (56 - 8 * j) % 256] := by
  rw [List.take_add_one]
  congr 1
  simp [lenBytes, hj]
theorem zc_no (m j : Nat) (hm : m < 64) (hj : j < zc m) : (m + 1 + j) % 64 ≠ 56 := by
  unfold zc at hj
  split at hj <;> omega
theorem zc_yes (m : Nat) (hm : m < 64) : (m + 1 + zc m) % 64 = 56 := by
  unfold zc
  split <;> omega
theorem zc_le (m : Nat) (hm : m < 64) : m + 1 + zc m ≤ 120 := by
  unfold zc
  split <;> omega
theorem tailN_lt (l : List Nat) (n : Nat) (h : ∀ x ∈ l, x < 256) : ∀ x ∈ tailN l n, x < 256 := by
  intro x hx
  unfold tailN at hx
  rcases List.mem_append.1 hx with hx | hx
  · exact h x hx
  · rcases List.mem_append.1 hx with hx | hx
    · simp only [List.mem_cons, List.not_mem_nil, or_false] at hx; omega
    · rcases List.mem_append.1 hx with hx | hx
      · have := List.eq_of_mem_replicate hx; omega
      · unfold lenBytes at hx
        obtain ⟨i, _, rfl⟩ := List.mem_map.1 hx
        exact Nat.mod_lt _ (by decide)
theorem tailN_length (l : List Nat) (n : Nat) : (tailN l n).length = l.length + 1 + zc l.length + 8 := by
  unfold tailN
  rw [List.length_append, List.length_append, List.length_append, List.length_replicate, lenBytes_length, List.length_singleton]
  omega
theorem asZ_cells (l : List Nat) : cellsZ (asZ l) = l.map fun x => .int .u8 (Int.ofNat x) := by
  unfold cellsZ asZ
  rw [List.map_map]
  rfl
theorem cells_snoc (l : List Nat) (x : Nat) : cellsZ (asZ (l ++ [x])) = cellsZ (asZ l) ++ [.int .u8 (x : Int)] := by
  rw [asZ_append, cellsZ_append]
  rfl
theorem RowN.of_own {w : World} {B g n c : Nat} {l : List Nat} (h : w.ownsRow B 5 1 (.slice (some ⟨g, 0, none⟩) n c) n (cellsZ (asZ l))) (hz : ∀ x ∈ l, x < 256) (hl : l.length = n) : RowN w (some ⟨g, 0, none⟩) n l :=
  row_of_own h (fun z hz' => by
    obtain ⟨x, hx, rfl⟩ := List.mem_map.1 hz'
    have := hz x hx
    exact ⟨Int.natCast_nonneg _, by show ((x : Nat) : Int) ≤ 255; omega⟩) (by rw [asZ_length, hl])
theorem RowN.srcAny {w : World} {A : Option Addr} {n : Nat} {l : List Nat} (h : RowN w A n l) : ∀ ad, A = some ad → ∀ j u, (cellsZ (asZ l))[j]? = some u → w.cell? (ad.add j) = some u := by
  intro ad had j u hu
  have hj : j < n := by
    have := (List.getElem?_eq_some_iff.1 hu).1
    simpa [cellsZ, h.1] using this
  obtain ⟨ad', e, hc⟩ := RowZ.src h (by omega)
  rw [had] at e
  obtain rfl := Option.some.inj e
  exact hc j u hu

set_option maxHeartbeats 2000000 in
theorem tail_any (A : Option Addr) (m cap n : Nat) (l : List Nat) (hm : m < 64) (hn : n ≤ 1000000) (hA : A = none → cap = 0) (w : World) (hR : RowN w A m l) :
    Calls Tryd.prog 28 #[.slice A m cap, .int .i64 n] w fun e w' => (∃ g k, e = .returned (.slice (some ⟨g, 0, none⟩) k 128) ∧ RowN w' (some ⟨g, 0, none⟩) k (tailN l n)) ∧ Below w.heap.size w w' := by
  have hmk := make_bytes 0 128 (by omega) (by omega)
  rw [show ((0 : Nat) : Int) = 0 from rfl, show ((128 : Nat) : Int) = 128 from rfl] at hmk
  have HR := Lib.hid hR
  have HM : Hid (l.length = m) := Lib.hid hR.length
  have HL := Lib.hid hR.lt
  obtain ⟨i0, hi, hz0, hz1, hz2⟩ := info_parts info_u8
  have HI := Lib.hid hi
  have HZ1 := Lib.hid hz1
  have HO : Hid ((w.alloc (.cells (cellsZ (List.replicate 128 0)).toArray 5)).ownsRow w.heap.size 5 1 (.slice (some ⟨w.heap.size, 0, none⟩) 0 128) 0 []) :=
    Lib.hid (own_of_heap (xs := []) (ys := cellsZ (List.replicate 128 0)) (by rw [List.nil_append]; exact heap_alloc_new w _) (Nat.le_refl _) rfl (by simp [cellsZ]) (by omega))
  have hB0 : Below w.heap.size w (w.alloc (.cells (cellsZ (List.replicate 128 0)).toArray 5)) := (Below.refl _ _).alloc (Nat.le_refl _) _
  have HS := Lib.hid (RowN.srcAny (hR.below hB0))
  have HAN : Hid (A = none → m = 0 ∧ cap = 0) := Lib.hid (fun h => ⟨(by
    rcases Nat.eq_zero_or_pos m with h0 | h0
    · exact h0
    · obtain ⟨b, off, e, _⟩ := hR.2.2 h0
      rw [h] at e
      cases e), hA h⟩)
  have HCL : Hid ((cellsZ (asZ l)).length = m * 1) := Lib.hid (by rw [cellsZ, List.length_map, hR.1]; omega)
  clear hR hi hz0 hz1 hz2 hA
  have hzle := zc_le m hm
  go_enter Tryd.func28, Tryd.ntmps28
  go_wp2_with (first
    | (at_builtin; refine wpList_append_fits_any _ (by rfl) (.tmp 9) (.tmp 10) 22 (by rfl) w.heap.size 5 i0 1 Tryd.underlying22 HI.out HZ1.out w.heap.size 0 128 _ (by rfl) HO.out A m cap (cellsZ (asZ l)) (by rfl) HCL.out HAN.out HS.out (one_u8 _) (by omega) ?_; intro w1 hown1 hgrow1
       have hb1 : Below w.heap.size w w1 := hB0.grown hgrow1 (by simp) (fun q hq => by injection hq with hq; omega)
       rw [Nat.zero_add, List.nil_append] at hown1
       have H1 := Lib.hid (hown1.alloc (.cells #[.int .u8 128] 5))
       have N1 := Lib.hid (new_cell w1 (.int .u8 128) 5)
       clear hown1 hgrow1 HO hB0 HS HCL HAN hmk
       rw [Nat.zero_add])
    | (at_builtin; refine wpList_append_fits _ (by rfl) (.tmp 12) (.tmp 13) 22 (by rfl) w.heap.size 5 i0 1 Tryd.underlying22 HI.out HZ1.out w.heap.size m 128 _ (by rfl) H1.out ⟨w1.heap.size, 0, none⟩ 1 1 [.int .u8 128] (by rfl) rfl N1.out (one_u8 [128]) (by omega) ?_; intro w2 hown2 hgrow2))
  have hb2 : Below w.heap.size w w2 := (hb1.alloc hb1.size _).grown hgrow2 (by have := hb1.size; simp; omega) (fun q hq => by injection hq with hq; omega)
  have H2 : Hid (w2.ownsRow w.heap.size 5 1 (.slice (some ⟨w.heap.size, 0, none⟩) (m + 1 + 0) 128) (m + 1 + 0) (cellsZ (asZ (l ++ ([128] ++ List.replicate 0 0))))) := by
    rw [List.replicate_zero, List.append_nil, cells_snoc]
    exact Lib.hid hown2
  clear hown2 hgrow2 hb1 H1 N1
  go_wp2
  go_loopw [5] (fun v wr => ∃ j : Nat, j ≤ zc m ∧ v = .slice (some ⟨w.heap.size, 0, none⟩) (m + 1 + j) 128 ∧ Hid (wr.ownsRow w.heap.size 5 1 (.slice (some ⟨w.heap.size, 0, none⟩) (m + 1 + j) 128) (m + 1 + j) (cellsZ (asZ (l ++ ([128] ++ List.replicate j 0))))) ∧ Below w.heap.size w wr) (fun v _ => match v with | .slice _ k _ => 128 - k | _ => 0)
  case atStart => exact ⟨0, by omega, rfl, H2, hb2⟩
  case round =>
    obtain ⟨j, hj, rfl, HO2, hbr⟩ := hrel
    clear H2 hb2
    rcases Nat.lt_or_ge j (zc m) with hjz | hjz
    · have hmod := zc_no m j hm hjz
      have ht : ((m : Int) + 1 + (j : Int)).tmod 64 = ((m : Int) + 1 + (j : Int)) % 64 := by rw [Int.tmod_eq_emod_of_nonneg (by omega)]
      have H3 := Lib.hid (HO2.out.alloc (.cells #[.int .u8 0] 5))
      have N3 := Lib.hid (new_cell wr (.int .u8 0) 5)
      have hne : (((m : Int) + 1 + (j : Int)) % 64 != 56) = true := by rw [bne_iff_ne]; omega
      clear hmod
      go_wp2_with (at_builtin; go_loud (refine wpList_append_fits _ (by rfl) (.tmp 19) (.tmp 20) 22 (by rfl) w.heap.size 5 i0 1 Tryd.underlying22 HI.out HZ1.out w.heap.size (m + 1 + j) 128 _ (by rfl) H3.out ⟨wr.heap.size, 0, none⟩ 1 1 [.int .u8 0] (by rfl) rfl N3.out (one_u8 [0]) (by omega) ?_); intro w3 hown3 hgrow3)
      have hb3 : Below w.heap.size w w3 := (hbr.alloc hbr.size _).grown hgrow3 (by have := hbr.size; simp; omega) (fun q hq => by injection hq with hq; omega)
      have H4 : Hid (w3.ownsRow w.heap.size 5 1 (.slice (some ⟨w.heap.size, 0, none⟩) (m + 1 + (j + 1)) 128) (m + 1 + (j + 1)) (cellsZ (asZ (l ++ ([128] ++ List.replicate (j + 1) 0))))) := by
        have e : l ++ ([128] ++ List.replicate (j + 1) 0) = (l ++ ([128] ++ List.replicate j 0)) ++ [0] := by
          rw [List.replicate_succ', List.append_assoc, List.append_assoc]
        rw [e, cells_snoc]
        exact Lib.hid hown3
      clear hown3 hgrow3 H3 N3
      go_wp2
      go_roundw
      case rel => exact ⟨j + 1, by omega, rfl, H4, hb3⟩
      case measure => simp; omega
    · obtain rfl : j = zc m := by omega
      have hmod := zc_yes m hm
      have ht : ((m : Int) + 1 + (zc m : Int)).tmod 64 = ((m : Int) + 1 + (zc m : Int)) % 64 := by rw [Int.tmod_eq_emod_of_nonneg (by omega)]
      have hne : (((m : Int) + 1 + (zc m : Int)) % 64 != 56) = false := by rw [bne_eq_false_iff_eq]; omega
      clear hmod
      have HZC := Lib.hid (show ∃ q, q = m + 1 + zc m from ⟨_, rfl⟩)
      have HO3 : Hid (wr.ownsRow w.heap.size 5 1 (.slice (some ⟨w.heap.size, 0, none⟩) (m + 1 + zc m + 0) 128) (m + 1 + zc m + 0) (cellsZ (asZ (l ++ ([128] ++ (List.replicate (zc m) 0 ++ (lenBytes n).take 0)))))) := by
        rw [List.take_zero, List.append_nil]
        exact HO2
      clear HO2
      go_wp2
      go_loopw [5, 25] (fun v i wr => ∃ j : Nat, j ≤ 8 ∧ i = .int .i64 j ∧ v = .slice (some ⟨w.heap.size, 0, none⟩) (m + 1 + zc m + j) 128 ∧ Hid (wr.ownsRow w.heap.size 5 1 (.slice (some ⟨w.heap.size, 0, none⟩) (m + 1 + zc m + j) 128) (m + 1 + zc m + j) (cellsZ (asZ (l ++ ([128] ++ (List.replicate (zc m) 0 ++ (lenBytes n).take j)))))) ∧ Below w.heap.size w wr) (fun _ i _ => 8 - (intOf i).toNat)
      case atStart => exact ⟨0, by omega, rfl, rfl, HO3, hbr⟩
      case round =>
        obtain ⟨j, hj, rfl, rfl, HO4, hbq⟩ := hrel
        clear HO3 hbr hne ht
        by_cases hj8 : j < 8
        · have hj8' : (j : Int) < 8 := by omega
          have H5 := Lib.hid (HO4.out.alloc (.cells #[.int .u8 (8 * (n : Int) / 2 ^ (56 - 8 * j) % 256)] 5))
          have N5 := Lib.hid (new_cell wr (.int .u8 (8 * (n : Int) / 2 ^ (56 - 8 * j) % 256)) 5)
          go_wp2_with (at_builtin; go_loud (refine wpList_append_fits _ (by rfl) (.tmp 28) (.tmp 36) 22 (by rfl) w.heap.size 5 i0 1 Tryd.underlying22 HI.out HZ1.out w.heap.size (m + 1 + zc m + j) 128 _ (by rfl) H5.out ⟨wr.heap.size, 0, none⟩ 1 1 [.int .u8 (8 * (n : Int) / 2 ^ (56 - 8 * j) % 256)] (by rfl) rfl N5.out (one_u8 [8 * (n : Int) / 2 ^ (56 - 8 * j) % 256]) (by omega) ?_); intro w3 hown3 hgrow3)
          have hb3 : Below w.heap.size w w3 := (hbq.alloc hbq.size _).grown hgrow3 (by have := hbq.size; simp; omega) (fun q hq => by injection hq with hq; omega)
          have H6 : Hid (w3.ownsRow w.heap.size 5 1 (.slice (some ⟨w.heap.size, 0, none⟩) (m + 1 + zc m + (j + 1)) 128) (m + 1 + zc m + (j + 1)) (cellsZ (asZ (l ++ ([128] ++ (List.replicate (zc m) 0 ++ (lenBytes n).take (j + 1))))))) := by
            have e : l ++ ([128] ++ (List.replicate (zc m) 0 ++ (lenBytes n).take (j + 1))) = (l ++ ([128] ++ (List.replicate (zc m) 0 ++ (lenBytes n).take j))) ++ [8 * n / 2 ^ (56 - 8 * j) % 256] := by
              rw [lenBytes_take n j hj8, List.append_assoc, List.append_assoc, List.append_assoc]
            rw [e, cells_snoc]
            have ec : (((8 * n / 2 ^ (56 - 8 * j) % 256 : Nat)) : Int) = 8 * (n : Int) / 2 ^ (56 - 8 * j) % 256 := by simp
            rw [ec]
            exact Lib.hid hown3
          clear hown3 hgrow3 H5 N5
          go_wp2
          go_roundw
          case rel => exact ⟨j + 1, by omega, by go_num, rfl, H6, hb3⟩
          case measure => simp [intOf]; omega
        · obtain rfl : j = 8 := by omega
          have e : l ++ ([128] ++ (List.replicate (zc m) 0 ++ (lenBytes n).take 8)) = tailN l n := by
            rw [List.take_of_length_le (by rw [lenBytes_length]; omega), tailN, HM.out]
          rw [e] at HO4
          have hR4 := Lib.hid (RowN.of_own HO4.out (tailN_lt l n HL.out) (by
            rw [← e, List.length_append, List.length_append, List.length_append, List.length_replicate, List.length_take, lenBytes_length, HM.out, List.length_singleton]
            omega))
          clear HO4 e
          go_wp2
          go_ret
          exact ⟨⟨w.heap.size, m + 1 + zc m + 8, rfl, hR4.out⟩, hbq⟩
end Go.Proofs.YtifljaandphkpaaDoor
