/- Contracts of word.Hex and the document's Hex. -/
import Derived.Test.YtdjnebgjdekmaaaGreatDoorZag
import Derived.RegionTactic
import Derived.ChangeAlike
import Derived.Deep.RegionWith
import Derived.Deep.RegionHeld3
import Derived.Deep.DrawnRows
import Derived.Deep.AppendLies
import Derived.Test.YtdjnebgjdekmaaaGreatDoorZaa
import Derived.Deep.QuietTactic
import Derived.BigQuiet
set_option linter.unusedVariables false
namespace Go.Proofs.YtdjnebgjdekmaaaGreatDoor
attribute [local go_sem ↓] Go.wp_at_zero Go.wp_at_succ
open Go.RowKit
def hexD (d : Int) : Int := if d < 10 then 48 + d else 87 + d
def hexZ : List Int → List Int
 | [] => []
 | z :: r => hexD (z / 16) :: hexD (z % 16) :: hexZ r
theorem hexZ_length : ∀ zs : List Int, (hexZ zs).length = 2 * zs.length
 | [] => rfl
 | z :: r => by simp only [hexZ, List.length_cons, hexZ_length r]; omega
theorem hexZ_append : ∀ a b : List Int, hexZ (a ++ b) = hexZ a ++ hexZ b
 | [], b => rfl
 | z :: r, b => by simp only [hexZ, List.cons_append, hexZ_append r b]
theorem take_succ_getD {zs : List Int} {k : Nat} (hk : k < zs.length) : zs.take (k + 1) = zs.take k ++ [zs.getD k 0] := by
 rw [List.take_add_one]
 simp [hk]
theorem hexZ_take {zs : List Int} {k : Nat} (hk : k < zs.length) : hexZ (zs.take (k + 1)) = hexZ (zs.take k) ++ [hexD (zs.getD k 0 / 16), hexD (zs.getD k 0 % 16)] := by
 rw [take_succ_getD hk, hexZ_append]
 rfl
theorem hexD_bd (d : Int) (h : 0 ≤ d ∧ d < 16) : 0 ≤ hexD d ∧ hexD d ≤ 255 := by
 unfold hexD; split <;> omega
theorem hexZ_bd : ∀ {zs : List Int}, (∀ z ∈ zs, 0 ≤ z ∧ z ≤ 255) → ∀ y ∈ hexZ zs, 0 ≤ y ∧ y ≤ 255
 | [], _, y, hy => by simp [hexZ] at hy
 | z :: r, h, y, hy => by
  have hz := h z (List.mem_cons_self ..)
  simp only [hexZ, List.mem_cons] at hy
  rcases hy with rfl | rfl | hy
  · exact hexD_bd _ ⟨by omega, by omega⟩
  · exact hexD_bd _ ⟨by omega, by omega⟩
  · exact hexZ_bd (fun x hx => h x (List.mem_cons_of_mem _ hx)) y hy
theorem digit_at (d : Int) (h : 0 ≤ d ∧ d < 16) (p : d.toNat < (⟨#[48, 49, 50, 51, 52, 53, 54, 55, 56, 57, 97, 98, 99, 100, 101, 102]⟩ : ByteArray).size) : ((((⟨#[48, 49, 50, 51, 52, 53, 54, 55, 56, 57, 97, 98, 99, 100, 101, 102]⟩ : ByteArray)[d.toNat]'p).toNat : Nat) : Int) = hexD d := by
 obtain ⟨e, rfl⟩ := Int.eq_ofNat_of_zero_le h.1
 have hc : e = 0 ∨ e = 1 ∨ e = 2 ∨ e = 3 ∨ e = 4 ∨ e = 5 ∨ e = 6 ∨ e = 7 ∨ e = 8 ∨ e = 9 ∨ e = 10 ∨ e = 11 ∨ e = 12 ∨ e = 13 ∨ e = 14 ∨ e = 15 := by omega
 rcases hc with rfl | rfl | rfl | rfl | rfl | rfl | rfl | rfl | rfl | rfl | rfl | rfl | rfl | rfl | rfl | rfl <;> rfl
theorem and15_all : ((List.range 256).all fun e => decide (bits .and .u8 (e : Int) 15 = (e : Int) % 16)) = true := by kernel_rfl
theorem and15 (z : Int) (h : 0 ≤ z ∧ z ≤ 255) : bits .and .u8 z 15 = z % 16 := by
 obtain ⟨e, rfl⟩ := Int.eq_ofNat_of_zero_le h.1
 exact of_decide_eq_true (List.all_eq_true.1 and15_all e (List.mem_range.2 (by omega)))
theorem step_fits {P : Program} {w : World} {ops : Array Oper} {o : Oper} {a : Act} {K : Act → World → Prop} {Q : Exit → Act → World → Prop} {E : Prop} (hgd : o.guard = none) (s x : Operand) (t : TypeId)
 (ho : o.op = .call { callee := .builtin .append, args := #[s, x], argTypes := #[t, t] })
 (base : Nat) (e : TypeId) (i : TypeInfo) (size : Nat) (ht : P.underlying t = some (.slice e)) (hi : P.info? e = some i) (hsize : i.size = size)
 (g n cap : Nat) (xs : List Value) (hs : a.eval s = .slice (some ⟨g, 0, none⟩) n cap) (hown : w.ownsRow base e size (.slice (some ⟨g, 0, none⟩) n cap) n xs)
 (ad : Addr) (m c : Nat) (news : List Value) (hx : a.eval x = .slice (some ad) m c) (hl : news.length = m * size) (hnews : ∀ j u, news[j]? = some u → w.cell? (ad.add j) = some u) (h1 : ∀ u ∈ news, u.oneCell' = true)
 (hroom : n + m ≤ cap)
 (h : ∀ w', w'.ownsRow base e size (.slice (some ⟨g, 0, none⟩) (n + m) cap) (n + m) (xs ++ news) → w.grownBy w' (some g) → K (a.put o.dst (.slice (some ⟨g, 0, none⟩) (n + m) cap)) w') :
 if Region.wanted o (yielded ops a.tmps) = true then Oper.wp P o a w K Q else E := by
 have hw : Region.wanted o (yielded ops a.tmps) = true := by simp [Region.wanted, hgd]
 rw [if_pos hw]
 obtain ⟨w', hr, h2, h3⟩ := run_append_fits (P := P) w base t o.type e i size ht hi hsize g n cap xs hown ad m c news hl hnews h1 hroom
 unfold Oper.wp execOp
 simp only [ho, resolve, invoke, builtin, Sem.run_bind, Sem.run_pure, Result.andThen_ok, List.map_toArray, List.map_cons, List.map_nil, hs, hx, hr]
 exact h w' h2 h3
set_option maxHeartbeats 1000000 in
theorem hex_any (A : Option Addr) (n cap : Nat) (zs : List Int) (hn : n ≤ 3000) (w : World) (hR : RowZ w A n zs) :
 Calls Tryz.prog 119 #[.slice A n cap] w fun e w' => e = .returned (.string (strOfNums (hexZ zs))) ∧ Below w.heap.size w w' := by
 have hmk := make_bytes 0 (2 * n) (by omega) (by omega)
 rw [show ((2 * n : Nat) : Int) = 2 * (n : Int) from by omega, show ((0 : Nat) : Int) = 0 from rfl] at hmk
 have HR := Lib.hid hR
 obtain ⟨i0, hi, hz0, hz1, hz2⟩ := info_parts info_u8
 have HI := Lib.hid hi
 have HZ1 := Lib.hid hz1
 clear hR hi hz0 hz1 hz2
 go_enter Tryz.func119, Tryz.ntmps119
 go_wp2_with fail
 have HO : Hid ((w.alloc (.cells (cellsZ (List.replicate (2 * n) 0)).toArray 5)).ownsRow w.heap.size 5 1 (.slice (some ⟨w.heap.size, 0, none⟩) 0 (2 * n)) 0 (cellsZ (hexZ []))) :=
  Lib.hid (own_of_heap (xs := []) (ys := cellsZ (List.replicate (2 * n) 0)) (by rw [List.nil_append]; exact heap_alloc_new w _) (Nat.le_refl _) rfl (by simp [cellsZ]) (by omega))
 have hB0 : Below w.heap.size w (w.alloc (.cells (cellsZ (List.replicate (2 * n) 0)).toArray 5)) := (Below.refl _ _).alloc (Nat.le_refl _) _
 go_loopw [3, 12] (fun v i wr => ∃ k : Nat, k ≤ n ∧ i = .int .i64 k ∧ v = .slice (some ⟨w.heap.size, 0, none⟩) (2 * k) (2 * n) ∧ Hid (wr.ownsRow w.heap.size 5 1 (.slice (some ⟨w.heap.size, 0, none⟩) (2 * k) (2 * n)) (2 * k) (cellsZ (hexZ (zs.take k)))) ∧ Below w.heap.size w wr) (fun _ i _ => n - (intOf i).toNat)
 case atStart => exact ⟨0, by omega, rfl, rfl, by simpa using HO, hB0⟩
 case round =>
  obtain ⟨k, hk, rfl, rfl, HO2, hbr⟩ := hrel
  clear HO hB0 hmk
  rcases Nat.lt_or_ge k n with hkn | hkn
  · obtain ⟨b, off, rfl, hlt, hc⟩ := (HR.out.below hbr).2.2 (by omega)
    have hck := hc k hkn
    have hzb : 0 ≤ zs.getD k 0 ∧ zs.getD k 0 ≤ 255 := by
     have hi' : k < zs.length := by rw [HR.out.1]; exact hkn
     have e : zs.getD k 0 = zs[k] := by simp [List.getD, hi']
     rw [e]
     exact HR.out.2.1 _ (List.getElem_mem hi')
    have ET := Lib.hid (hexZ_take (zs := zs) (k := k) (by rw [HR.out.1]; exact hkn))
    clear hc hlt
    generalize zs.getD k 0 = z at *
    have hkn' : (k : Int) < (n : Int) := by omega
    have hk0 : (0 : Int) ≤ (k : Int) := by omega
    go_wp2_with fail
    have hand := and15 z hzb
    refine wp_region_held_drew (S := fun _ => True) (by kernel_rfl) trivial (fun _ => ?_)
    refine ty9 0 16 (v := ?va0) rfl rfl ?ha0 trivial ?ra0
    case ha0 => (intro w hSw; (try dsimp only at hSw); go_simp; try with_reducible rfl)
    simp only [Act.put, List.setIfInBounds_toArray, List.set_cons_zero, List.set_cons_succ]
    refine ty9 1 17 (v := ?va1) rfl rfl ?ha1 trivial ?ra1
    case ha1 => (intro w hSw; (try dsimp only at hSw); go_simp; try with_reducible rfl)
    simp only [Act.put, List.setIfInBounds_toArray, List.set_cons_zero, List.set_cons_succ]
    refine ty9 2 18 (v := ?va2) rfl rfl ?ha2 trivial ?ra2
    case ha2 => (intro w hSw; (try dsimp only at hSw); go_simp; try with_reducible rfl)
    simp only [Act.put, List.setIfInBounds_toArray, List.set_cons_zero, List.set_cons_succ]
    refine ty9 3 19 (v := (.int .u8 (hexD (z / 16)))) rfl rfl ?ha3 trivial ?ra3
    case ha3 => (intro w hSw; (try dsimp only at hSw); go_simp; rw [dif_pos ⟨by omega, by omega⟩, digit_at _ ⟨by omega, by omega⟩]; rfl)
    simp only [Act.put, List.setIfInBounds_toArray, List.set_cons_zero, List.set_cons_succ]
    refine ty9 4 20 (v := ?va4) rfl rfl ?ha4 trivial ?ra4
    case ha4 => (intro w hSw; (try dsimp only at hSw); go_simp; try with_reducible rfl)
    simp only [Act.put, List.setIfInBounds_toArray, List.set_cons_zero, List.set_cons_succ]
    refine ty9 5 21 (v := ?va5) rfl rfl ?ha5 trivial ?ra5
    case ha5 => (intro w hSw; (try dsimp only at hSw); go_simp; try with_reducible rfl)
    simp only [Act.put, List.setIfInBounds_toArray, List.set_cons_zero, List.set_cons_succ]
    refine ty9 6 22 (v := (.int .u8 (hexD (z % 16)))) rfl rfl ?ha6 trivial ?ra6
    case ha6 => (intro w hSw; (try dsimp only at hSw); go_simp; rw [dif_pos ⟨by omega, by omega⟩, digit_at _ ⟨by omega, by omega⟩]; rfl)
    simp only [Act.put, List.setIfInBounds_toArray, List.set_cons_zero, List.set_cons_succ]
    refine wpAnyH_ready (rs := [7]) (by kernel_rfl) (by simp) ?_
    refine AllReadyH.cons rfl (fun K hK => ?_) AllReadyH.nil
    go_simp
    refine hK.out _ _ trivial (fun _ => ?_)
    clear hK K
    refine wpAnyH_ready (rs := [8]) (by kernel_rfl) (by simp) ?_
    refine AllReadyH.cons rfl (fun K hK => ?_) AllReadyH.nil
    have HW : Hid (((wr.alloc (.cells #[.int .u8 (hexD (z / 16)), .int .u8 (hexD (z % 16))] 5)).drew).ownsRow w.heap.size 5 1 (.slice (some ⟨w.heap.size, 0, none⟩) (2 * k) (2 * n)) (2 * k) (cellsZ (hexZ (zs.take k)))) := Lib.hid (HO2.out.alloc _)
    refine step_fits rfl (.tmp 16) (.tmp 23) 40 rfl w.heap.size 5 i0 1 Tryz.underlying40 HI.out HZ1.out w.heap.size (2 * k) (2 * n) _ (by rfl) HW.out ⟨wr.heap.size, 0, none⟩ 2 2 [.int .u8 (hexD (z / 16)), .int .u8 (hexD (z % 16))] (by rfl) rfl (World.news_of_block (heap_alloc_new wr _)) (one_u8 [hexD (z / 16), hexD (z % 16)]) (by omega) ?_
    intro w3 hown3 hgrow3
    refine hK.out _ _ trivial (fun _ => ?_)
    clear hK K
    simp only [Act.put, List.setIfInBounds_toArray]
    refine ty9 9 3 (v := ?vb9) rfl rfl ?hb9 trivial ?rb9
    case hb9 => (intro w hSw; (try dsimp only at hSw); go_simp; try with_reducible rfl)
    refine wpAnyH_done (by kernel_rfl) ?_ _
    have H3 : Hid (w3.ownsRow w.heap.size 5 1 (.slice (some ⟨w.heap.size, 0, none⟩) (2 * (k + 1)) (2 * n)) (2 * (k + 1)) (cellsZ (hexZ (zs.take (k + 1))))) := by
     rw [ET.out, cellsZ_append]
     exact Lib.hid hown3
    have hb3 : Below w.heap.size w w3 := ((hbr.alloc hbr.size _).drew).grown hgrow3 (by have := hbr.size; simp; omega) (fun q hq => by injection hq with hq; omega)
    clear hown3 hgrow3
    go_wp2
    go_roundw
    case rel => exact ⟨k + 1, by omega, by simp, by congr 1 <;> omega, H3, hb3⟩
    case measure => simp [intOf]; omega
  · obtain rfl : k = n := by omega
    have hRr := row_of_own HO2.out (hexZ_bd (fun z hz => HR.out.2.1 z (List.mem_of_mem_take hz))) (by rw [hexZ_length, List.length_take, HR.out.1]; omega)
    rw [List.take_of_length_le (by rw [HR.out.1]; omega)] at hRr
    have hcv := conv_row hRr (2 * k)
    clear hRr HO2
    go_wp2
    go_ret
    exact ⟨rfl, hbr⟩
theorem digit_slice (d : Int) (h : 0 ≤ d ∧ d < 16) : (⟨#[48, 49, 50, 51, 52, 53, 54, 55, 56, 57, 97, 98, 99, 100, 101, 102]⟩ : ByteArray).extract d.toNat (d + 1).toNat = strOfNums [hexD d] := by
 obtain ⟨e, rfl⟩ := Int.eq_ofNat_of_zero_le h.1
 have hc : e = 0 ∨ e = 1 ∨ e = 2 ∨ e = 3 ∨ e = 4 ∨ e = 5 ∨ e = 6 ∨ e = 7 ∨ e = 8 ∨ e = 9 ∨ e = 10 ∨ e = 11 ∨ e = 12 ∨ e = 13 ∨ e = 14 ∨ e = 15 := by omega
 rcases hc with rfl | rfl | rfl | rfl | rfl | rfl | rfl | rfl | rfl | rfl | rfl | rfl | rfl | rfl | rfl | rfl <;> decide
theorem son_append (a b : List Int) : strOfNums a ++ strOfNums b = strOfNums (a ++ b) := by
 apply ByteArray.ext
 simp [strOfNums, ByteArray.data_append]
set_option maxHeartbeats 1000000 in
theorem ref_hex (A : Option Addr) (n cap : Nat) (zs : List Int) (hn : n ≤ 3000) (w : World) (hR : RowZ w A n zs) :
 Calls Tryz.prog 54 #[.slice A n cap] w fun e w' => e = .returned (.string (strOfNums (hexZ zs))) ∧ Below w.heap.size w w' := by
 have HR := Lib.hid hR
 clear hR
 go_enter Tryz.func54, Tryz.ntmps54
 go_wp2_with fail
 have hB0 : Below w.heap.size w w := Below.refl _ _
 go_loopw [4, 9] (fun v i wr => ∃ k : Nat, k ≤ n ∧ i = .int .i64 k ∧ v = .string (strOfNums (hexZ (zs.take k))) ∧ Below w.heap.size w wr) (fun _ i _ => n - (intOf i).toNat)
 case atStart => exact ⟨0, by omega, rfl, rfl, hB0⟩
 case round =>
  obtain ⟨k, hk, rfl, rfl, hbr⟩ := hrel
  clear hB0
  rcases Nat.lt_or_ge k n with hkn | hkn
  · obtain ⟨b, off, rfl, hlt, hc⟩ := (HR.out.below hbr).2.2 (by omega)
    have hck := hc k hkn
    have hzb : 0 ≤ zs.getD k 0 ∧ zs.getD k 0 ≤ 255 := by
     have hi' : k < zs.length := by rw [HR.out.1]; exact hkn
     have e : zs.getD k 0 = zs[k] := by simp [List.getD, hi']
     rw [e]
     exact HR.out.2.1 _ (List.getElem_mem hi')
    have ET := Lib.hid (hexZ_take (zs := zs) (k := k) (by rw [HR.out.1]; exact hkn))
    have hq : (hexZ (zs.take k)).length ≤ 6000 := by rw [hexZ_length, List.length_take]; omega
    clear hc hlt
    generalize zs.getD k 0 = z at *
    generalize hexZ (zs.take k) = q at *
    have hkn' : (k : Int) < (n : Int) := by omega
    have hk0 : (0 : Int) ≤ (k : Int) := by omega
    have htd : z.tdiv 16 = z / 16 := by rw [Int.tdiv_eq_ediv_of_nonneg hzb.1]
    have htm : z.tmod 16 = z % 16 := by rw [Int.tmod_eq_emod_of_nonneg hzb.1]
    have hw0 : IntKind.u8.wrap (z / 16) = z / 16 := IntWalk.u8_in _ (by omega)
    have hw1 : IntKind.u8.wrap (z / 16 + 1) = z / 16 + 1 := IntWalk.u8_in _ (by omega)
    have hw2 : IntKind.u8.wrap (z % 16 + 1) = z % 16 + 1 := IntWalk.u8_in _ (by omega)
    have hs1 := digit_slice (z / 16) (by omega)
    have hs2 := digit_slice (z % 16) (by omega)
    have hs3 : (strOfNums [hexD (z / 16)]).size + (strOfNums [hexD (z % 16)]).size ≤ 9223372036854775807 := by simp [strOfNums_size]
    have hs4 : (strOfNums q).size + (strOfNums [hexD (z / 16), hexD (z % 16)]).size ≤ 9223372036854775807 := by simp only [strOfNums_size, List.length_cons, List.length_nil]; omega
    have hs5 := son_append [hexD (z / 16)] [hexD (z % 16)]
    have hs6 := son_append q [hexD (z / 16), hexD (z % 16)]
    rw [List.singleton_append] at hs5
    go_wp2_with fail
    refine wp_region_held_drew (S := fun _ => True) (by kernel_rfl) trivial (fun _ => ?_)
    refine ty9 0 13 (v := ?va0) rfl rfl ?ha0 trivial ?ra0
    case ha0 => (intro w hSw; (try dsimp only at hSw); go_simp; try with_reducible rfl)
    simp only [Act.put, List.setIfInBounds_toArray, List.set_cons_zero, List.set_cons_succ]
    refine ty9 1 14 (v := ?va1) rfl rfl ?ha1 trivial ?ra1
    case ha1 => (intro w hSw; (try dsimp only at hSw); go_simp; try with_reducible rfl)
    simp only [Act.put, List.setIfInBounds_toArray, List.set_cons_zero, List.set_cons_succ]
    refine ty9 2 15 (v := ?va2) rfl rfl ?ha2 trivial ?ra2
    case ha2 => (intro w hSw; (try dsimp only at hSw); go_simp; try with_reducible rfl)
    simp only [Act.put, List.setIfInBounds_toArray, List.set_cons_zero, List.set_cons_succ]
    refine ty9 3 16 (v := ?va3) rfl rfl ?ha3 trivial ?ra3
    case ha3 => (intro w hSw; (try dsimp only at hSw); go_simp; try with_reducible rfl)
    simp only [Act.put, List.setIfInBounds_toArray, List.set_cons_zero, List.set_cons_succ]
    refine ty9 4 17 (v := ?va4) rfl rfl ?ha4 trivial ?ra4
    case ha4 => (intro w hSw; (try dsimp only at hSw); go_simp; try with_reducible rfl)
    simp only [Act.put, List.setIfInBounds_toArray, List.set_cons_zero, List.set_cons_succ]
    refine ty9 5 18 (v := ?va5) rfl rfl ?ha5 trivial ?ra5
    case ha5 => (intro w hSw; (try dsimp only at hSw); go_simp; try with_reducible rfl)
    simp only [Act.put, List.setIfInBounds_toArray, List.set_cons_zero, List.set_cons_succ]
    refine ty9 6 19 (v := ?va6) rfl rfl ?ha6 trivial ?ra6
    case ha6 => (intro w hSw; (try dsimp only at hSw); go_simp; try with_reducible rfl)
    simp only [Act.put, List.setIfInBounds_toArray, List.set_cons_zero, List.set_cons_succ]
    refine ty9 7 20 (v := (.string (strOfNums [hexD (z / 16)]))) rfl rfl ?ha7 trivial ?ra7
    case ha7 => (intro w hSw; (try dsimp only at hSw); go_simp; rw [if_pos ⟨by omega, by omega⟩, if_pos ⟨by omega, by omega⟩])
    simp only [Act.put, List.setIfInBounds_toArray, List.set_cons_zero, List.set_cons_succ]
    refine ty9 8 21 (v := ?va8) rfl rfl ?ha8 trivial ?ra8
    case ha8 => (intro w hSw; (try dsimp only at hSw); go_simp; try with_reducible rfl)
    simp only [Act.put, List.setIfInBounds_toArray, List.set_cons_zero, List.set_cons_succ]
    refine ty9 9 22 (v := ?va9) rfl rfl ?ha9 trivial ?ra9
    case ha9 => (intro w hSw; (try dsimp only at hSw); go_simp; try with_reducible rfl)
    simp only [Act.put, List.setIfInBounds_toArray, List.set_cons_zero, List.set_cons_succ]
    refine ty9 10 23 (v := ?va10) rfl rfl ?ha10 trivial ?ra10
    case ha10 => (intro w hSw; (try dsimp only at hSw); go_simp; try with_reducible rfl)
    simp only [Act.put, List.setIfInBounds_toArray, List.set_cons_zero, List.set_cons_succ]
    refine ty9 11 24 (v := ?va11) rfl rfl ?ha11 trivial ?ra11
    case ha11 => (intro w hSw; (try dsimp only at hSw); go_simp; try with_reducible rfl)
    simp only [Act.put, List.setIfInBounds_toArray, List.set_cons_zero, List.set_cons_succ]
    refine ty9 12 25 (v := ?va12) rfl rfl ?ha12 trivial ?ra12
    case ha12 => (intro w hSw; (try dsimp only at hSw); go_simp; try with_reducible rfl)
    simp only [Act.put, List.setIfInBounds_toArray, List.set_cons_zero, List.set_cons_succ]
    refine ty9 13 26 (v := ?va13) rfl rfl ?ha13 trivial ?ra13
    case ha13 => (intro w hSw; (try dsimp only at hSw); go_simp; try with_reducible rfl)
    simp only [Act.put, List.setIfInBounds_toArray, List.set_cons_zero, List.set_cons_succ]
    refine ty9 14 27 (v := (.string (strOfNums [hexD (z % 16)]))) rfl rfl ?ha14 trivial ?ra14
    case ha14 => (intro w hSw; (try dsimp only at hSw); go_simp; rw [if_pos ⟨by omega, by omega⟩, if_pos ⟨by omega, by omega⟩])
    simp only [Act.put, List.setIfInBounds_toArray, List.set_cons_zero, List.set_cons_succ]
    refine ty9 15 28 (v := (.string (strOfNums [hexD (z / 16), hexD (z % 16)]))) rfl rfl ?ha15 trivial ?ra15
    case ha15 => (intro w hSw; (try dsimp only at hSw); go_simp; done)
    simp only [Act.put, List.setIfInBounds_toArray, List.set_cons_zero, List.set_cons_succ]
    refine ty9 16 29 (v := (.string (strOfNums (q ++ [hexD (z / 16), hexD (z % 16)])))) rfl rfl ?ha16 trivial ?ra16
    case ha16 => (intro w hSw; (try dsimp only at hSw); go_simp; done)
    simp only [Act.put, List.setIfInBounds_toArray, List.set_cons_zero, List.set_cons_succ]
    refine ty9 17 4 (v := ?va17) rfl rfl ?ha17 trivial ?ra17
    case ha17 => (intro w hSw; (try dsimp only at hSw); go_simp; try with_reducible rfl)
    simp only [Act.put, List.setIfInBounds_toArray, List.set_cons_zero, List.set_cons_succ]
    refine wpAnyH_done (by kernel_rfl) ?_ _
    have hb3 : Below w.heap.size w wr.drew := hbr.drew
    go_wp2
    go_roundw
    case rel => exact ⟨k + 1, by omega, by simp, by rw [ET.out], hb3⟩
    case measure => simp [intOf]; omega
  · obtain rfl : k = n := by omega
    rw [List.take_of_length_le (by rw [HR.out.1]; omega)]
    go_wp2
    go_ret
    exact ⟨rfl, hbr⟩
end Go.Proofs.YtdjnebgjdekmaaaGreatDoor
