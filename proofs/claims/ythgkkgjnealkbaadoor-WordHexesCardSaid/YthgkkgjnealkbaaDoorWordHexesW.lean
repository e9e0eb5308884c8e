/-
  The walk of the law WordHexes: it answers true and writes nothing that was there.
-/
import Derived.Test.YthgkkgjnealkbaaDoorHexes
namespace Go.Proofs.YthgkkgjnealkbaaDoor
open Go.RowKit

attribute [local go_sem ↓] Go.wp_at_zero Go.wp_at_succ

theorem hexD_inj {a b : Int} (ha : 0 ≤ a ∧ a < 16) (hb : 0 ≤ b ∧ b < 16) (h : hexD a = hexD b) : a = b := by
  unfold hexD at h
  split at h <;> split at h <;> omega
theorem hexZ_inj : ∀ {a b : List Int}, (∀ z ∈ a, 0 ≤ z ∧ z ≤ 255) → (∀ z ∈ b, 0 ≤ z ∧ z ≤ 255) → hexZ a = hexZ b → a = b
  | [], [], _, _, _ => rfl
  | [], _ :: _, _, _, h => by simp [hexZ] at h
  | _ :: _, [], _, _, h => by simp [hexZ] at h
  | x :: r, y :: q, hx, hy, h => by
    simp only [hexZ, List.cons.injEq] at h
    have h1 := hx x (List.mem_cons_self ..)
    have h2 := hy y (List.mem_cons_self ..)
    have e1 := hexD_inj ⟨by omega, by omega⟩ ⟨by omega, by omega⟩ h.1
    have e2 := hexD_inj ⟨by omega, by omega⟩ ⟨by omega, by omega⟩ h.2.1
    have e3 := hexZ_inj (fun z hz => hx z (List.mem_cons_of_mem _ hz)) (fun z hz => hy z (List.mem_cons_of_mem _ hz)) h.2.2
    rw [e3, show x = y from by omega]
theorem hexZ_dig : ∀ {zs : List Int}, (∀ z ∈ zs, 0 ≤ z ∧ z ≤ 255) → ∀ y ∈ hexZ zs, digV y ≠ none
  | [], _, y, hy => by simp [hexZ] at hy
  | z :: r, h, y, hy => by
    have hz := h z (List.mem_cons_self ..)
    simp only [hexZ, List.mem_cons] at hy
    rcases hy with rfl | rfl | hy
    · rw [digV_hexD ⟨by omega, by omega⟩]; simp
    · rw [digV_hexD ⟨by omega, by omega⟩]; simp
    · exact hexZ_dig (fun x hx => h x (List.mem_cons_of_mem _ hx)) y hy
theorem numS_strOfNums : ∀ {l : List Int}, (∀ z ∈ l, 0 ≤ z ∧ z ≤ 255) → numS (strOfNums l) = l := by
  intro l h
  unfold numS
  rw [strOfNums_data, List.map_map]
  conv => rhs; rw [← List.map_id l]
  apply List.map_congr_left
  intro z hz
  have := h z hz
  simp only [Function.comp, id, UInt8.toNat_ofNat']
  omega
theorem strOfNums_numS (s : ByteArray) : strOfNums (numS s) = s := by
  apply ByteArray.ext
  apply Array.toList_inj.1
  rw [strOfNums_data]
  unfold numS
  rw [List.map_map]
  conv => rhs; rw [← List.map_id s.data.toList]
  apply List.map_congr_left
  intro x _
  simp
theorem UnAns.hex {zs : List Int} {n : Nat} {e : Ending} {w' : World} (hl : zs.length = n) (hz : ∀ z ∈ zs, 0 ≤ z ∧ z ≤ 255) (h : UnAns (strOfNums (hexZ zs)) e w') :
    ∃ g, e = .returned (.tuple #[.slice (some ⟨g, 0, none⟩) n n, .bool true]) ∧ RowZ w' (some ⟨g, 0, none⟩) n zs := by
  rcases h with ⟨g, k, ys, he, hR, hn⟩ | ⟨_, h | ⟨i, hi, h⟩⟩
  · rw [numS_strOfNums (hexZ_bd hz)] at hn
    have e := hexZ_inj hz hR.2.1 hn
    subst e
    obtain rfl : k = n := by rw [← hl, hR.1]
    exact ⟨g, he, hR⟩
  · rw [strOfNums_size, hexZ_length] at h
    omega
  · exfalso
    refine hexZ_dig hz ((((strOfNums (hexZ zs))[i]'hi).toNat : Nat) : Int) ?_ h
    have hm : ((((strOfNums (hexZ zs))[i]'hi).toNat : Nat) : Int) ∈ numS (strOfNums (hexZ zs)) := List.mem_map.2 ⟨_, ba_mem _ i hi, rfl⟩
    rwa [numS_strOfNums (hexZ_bd hz)] at hm

namespace WordHexes
set_option maxHeartbeats 1000000 in
set_option maxRecDepth 100000 in
theorem walk (A : Option Addr) (n0 cap : Nat) (z0 : List Int) (s0 : ByteArray) (hs : s0.size ≤ 9223372036854775807) (W : World) (hI : IsRow .u8 W A n0 cap z0) :
    Calls Tryd.prog 10 #[.slice A n0 cap, .string s0] W fun e w' => e = .returned (.bool true) ∧ Below W.heap.size W w' := by
  have hlc : n0 ≤ cap := by
    rcases hI with ⟨_, rfl, rfl, _⟩ | ⟨_, _, h, _⟩
    · exact Nat.le_refl _
    · exact h
  obtain ⟨n, hn⟩ : ∃ n : Nat, n = (min (n0 : Int) 3000).toNat := ⟨_, rfl⟩
  have hn3 : n ≤ 3000 := by omega
  have HR : Hid (RowZ W A n (z0.take n)) := Lib.hid (by
    have h := (RowZ.of_isRow hI).take (k := n) (by omega)
    rwa [List.take_take, Nat.min_eq_left (by omega)] at h)
  have HN := Lib.hid hn
  clear hI
  generalize z0.take n = zs at *
  have hm0 : (0 : Int) ≤ min (n0 : Int) 3000 := by omega
  have hm1 : min (n0 : Int) 3000 ≤ (cap : Int) := by omega
  have HC := Lib.hid (cut_any s0 hs)
  have hcs := cut_size s0
  clear hn
  go_enter Tryd.func10, Tryd.ntmps10
  go_wp2_with fail
  refine wp_region_held_drew (S := fun _ => True) (by kernel_rfl) trivial (fun _ => ?_)
  refine takeH 0 11 (v := ?va0) rfl rfl (by kernel_rfl) (by kernel_rfl) (by kernel_rfl) (fun _ _ _ h => h) (by rfl) ?ha0 trivial ?ra0
  case ha0 => (intro w hSw; (try dsimp only at hSw); go_simp; try with_reducible rfl)
  simp only [Act.put, List.setIfInBounds_toArray, List.set_cons_zero, List.set_cons_succ]
  refine takeH 1 12 (v := ?va1) rfl rfl (by kernel_rfl) (by kernel_rfl) (by kernel_rfl) (fun _ _ _ h => h) (by rfl) ?ha1 trivial ?ra1
  case ha1 => (intro w hSw; (try dsimp only at hSw); go_simp; try with_reducible rfl)
  simp only [Act.put, List.setIfInBounds_toArray, List.set_cons_zero, List.set_cons_succ]
  refine takeH 2 13 (v := ?va2) rfl rfl (by kernel_rfl) (by kernel_rfl) (by kernel_rfl) (fun _ _ _ h => h) (by rfl) ?ha2 trivial ?ra2
  case ha2 => (intro w hSw; (try dsimp only at hSw); go_simp; try with_reducible rfl)
  simp only [Act.put, List.setIfInBounds_toArray, List.set_cons_zero, List.set_cons_succ]
  refine takeH 3 14 (v := ?va3) rfl rfl (by kernel_rfl) (by kernel_rfl) (by kernel_rfl) (fun _ _ _ h => h) (by rfl) ?ha3 trivial ?ra3
  case ha3 => (intro w hSw; (try dsimp only at hSw); go_simp; try with_reducible rfl)
  simp only [Act.put, List.setIfInBounds_toArray, List.set_cons_zero, List.set_cons_succ]
  refine takeH 4 15 (v := (.slice A n cap)) rfl rfl (by kernel_rfl) (by kernel_rfl) (by kernel_rfl) (fun _ _ _ h => h) (by rfl) ?ha4 trivial ?ra4
  case ha4 => (intro w hSw; (try dsimp only at hSw); go_simp; rw [← HN.out])
  simp only [Act.put, List.setIfInBounds_toArray, List.set_cons_zero, List.set_cons_succ]
  refine takeH 5 16 (v := ?va5) rfl rfl (by kernel_rfl) (by kernel_rfl) (by kernel_rfl) (fun _ _ _ h => h) (by rfl) ?ha5 trivial ?ra5
  case ha5 => (intro w hSw; (try dsimp only at hSw); go_simp; try with_reducible rfl)
  simp only [Act.put, List.setIfInBounds_toArray, List.set_cons_zero, List.set_cons_succ]
  refine wpAnyH_ready (rs := [6]) (by kernel_rfl) (by simp) ?_
  refine AllReadyH.cons rfl (fun K hK => ?_) AllReadyH.nil
  go_simp
  go_at_call 19
  refine (HC.out _).mono ?_
  clear HC
  generalize s0.extract 0 (min (s0.size : Int) 3000).toNat = s at *
  rintro e w' ⟨rfl, rfl⟩
  refine hK.out _ _ trivial (fun _ => ?_)
  clear hK K hm0 hm1
  refine takeH 7 0 (v := ?va7) rfl rfl (by kernel_rfl) (by kernel_rfl) (by kernel_rfl) (fun _ _ _ h => h) (by rfl) ?ha7 trivial ?ra7
  case ha7 => (intro w hSw; (try dsimp only at hSw); go_simp; try with_reducible rfl)
  simp only [Act.put, List.setIfInBounds_toArray, List.set_cons_zero]
  refine takeH 8 1 (v := ?va8) rfl rfl (by kernel_rfl) (by kernel_rfl) (by kernel_rfl) (fun _ _ _ h => h) (by rfl) ?ha8 trivial ?ra8
  case ha8 => (intro w hSw; (try dsimp only at hSw); go_simp; try with_reducible rfl)
  simp only [Act.put, List.setIfInBounds_toArray, List.set_cons_zero, List.set_cons_succ]
  refine wpAnyH_done (by kernel_rfl) ?_ _
  have hB0 : Below W.heap.size W W.drew := (Below.refl _ _).drew
  have HRd := Lib.hid HR.out.drew
  generalize W.drew = w0 at *
  go_wp2_with fail
  refine (hex_any A n cap zs hn3 _ HRd.out).mono ?_
  rintro e w1 ⟨rfl, hb1⟩
  have HR1 := Lib.hid (HRd.out.below hb1)
  have hB1 := hB0.trans (hb1.mono hB0.size)
  clear hb1 hB0
  have HT : Hid ((strOfNums (hexZ zs)).size ≤ 6000) := Lib.hid (by rw [strOfNums_size, hexZ_length, HR.out.1]; omega)
  go_wp2_with fail
  refine (unhex_any _ HT.out _).mono ?_
  rintro e w2 ⟨hu, hb2⟩
  obtain ⟨g, rfl, hX⟩ := hu.hex HR.out.1 HR.out.2.1
  have HR2 := Lib.hid (HR1.out.below hb2)
  have HX := Lib.hid hX
  have hB2 := hB1.trans (hb2.mono hB1.size)
  clear hb2 hB1 hu hX
  go_wp2_with fail
  refine (ref_hex A n cap zs hn3 _ HR2.out).mono ?_
  rintro e w3 ⟨rfl, hb3⟩
  have k1 := conv_row (HX.out.below hb3) n
  have k2 := conv_row (HR2.out.below hb3) cap
  have hB3 := hB2.trans (hb3.mono hB2.size)
  clear hb3 hB2
  go_wp2_with fail
  clear k1 k2 HX HR2 HR1 HRd HT HR HN
  refine (unhex_any s (by omega) _).mono ?_
  rintro e w4 ⟨hu, hb4⟩
  have hB4 := hB3.trans (hb4.mono hB3.size)
  clear hb4 hB3
  rcases hu with ⟨g2, m, ys, rfl, hY, hny⟩ | ⟨rfl, hno⟩
  · have hm : m ≤ 3000 := by
      have h := congrArg List.length hny
      rw [numS_length, hexZ_length, hY.1] at h
      omega
    have HY := Lib.hid hY
    have HS : Hid (strOfNums (hexZ ys) = s) := Lib.hid (by rw [← hny, strOfNums_numS])
    clear hY hny
    go_wp2_with fail
    refine (ref_hex _ m m ys hm _ HY.out).mono ?_
    rintro e w5 ⟨rfl, hb5⟩
    rw [HS.out]
    have hB5 := hB4.trans (hb5.mono hB4.size)
    clear hb5 hB4
    go_wp2_with fail
    refine (lives_true _).mono ?_
    rintro e w6 ⟨rfl, hb6⟩
    have hB6 := hB5.trans (hb6.mono hB5.size)
    clear hb6 hB5
    go_wp2
    go_ret
    exact ⟨rfl, hB6⟩
  · have HNO := Lib.hid hno
    clear hno
    go_wp2_with fail
    go_loop [49] (fun i => ∃ k : Nat, k ≤ s.size ∧ i = .int .i64 k ∧ Hid (∀ j (hj : j < s.size), j < k → digV ((s[j]'hj).toNat : Int) ≠ none)) (fun i => s.size - (intOf i).toNat)
    case atStart => exact ⟨0, by omega, rfl, Lib.hid (fun j hj h => absurd h (by omega))⟩
    case round =>
      obtain ⟨k, hk, rfl, HD⟩ := hrel
      by_cases hlt : k < s.size
      · have hend : ∀ c : Int, c = (s[k].toNat : Int) → digV c ≠ none → Hid (∀ j (hj : j < s.size), j < k + 1 → digV ((s[j]'hj).toNat : Int) ≠ none) := fun c hc h => Lib.hid (fun j hj hjk => by
          rcases Nat.lt_or_ge j k with h1 | h1
          · exact HD.out j hj h1
          · obtain rfl : j = k := by omega
            rw [← hc]
            exact h)
        have HE := Lib.hid hend
        clear hend
        by_cases h1 : (s[k].toNat : Int) < 48
        · go_wp2_with fail
          refine (lives_true _).mono ?_
          rintro e w6 ⟨rfl, hb6⟩
          have hB6 := hB4.trans (hb6.mono hB4.size)
          clear hb6 hB4
          go_wp2
          go_ret
          exact ⟨rfl, hB6⟩
        · by_cases h2 : (57 : Int) < (s[k].toNat : Int)
          · by_cases h3 : (s[k].toNat : Int) < 97
            · go_wp2_with fail
              refine (lives_true _).mono ?_
              rintro e w6 ⟨rfl, hb6⟩
              have hB6 := hB4.trans (hb6.mono hB4.size)
              clear hb6 hB4
              go_wp2
              go_ret
              exact ⟨rfl, hB6⟩
            · by_cases h4 : (102 : Int) < (s[k].toNat : Int)
              · go_wp2_with fail
                refine (lives_true _).mono ?_
                rintro e w6 ⟨rfl, hb6⟩
                have hB6 := hB4.trans (hb6.mono hB4.size)
                clear hb6 hB4
                go_wp2
                go_ret
                exact ⟨rfl, hB6⟩
              · have HK := HE.out _ rfl (by unfold digV; rw [if_neg (by omega), if_pos (by omega)]; simp)
                clear HE
                go_wp2
                go_round
                case rel => exact ⟨k + 1, by omega, by go_num, HK⟩
                case measure => simp [intOf]; omega
          · have HK := HE.out _ rfl (by unfold digV; rw [if_pos (by omega)]; simp)
            clear HE
            have h4 : ¬ (102 : Int) < (s[k].toNat : Int) := by omega
            go_wp2
            go_round
            case rel => exact ⟨k + 1, by omega, by go_num, HK⟩
            case measure => simp [intOf]; omega
      · obtain rfl : k = s.size := by omega
        have hod : s.size % 2 = 1 := by
          rcases HNO.out with h | ⟨i, hi, h⟩
          · exact h
          · exact absurd h (HD.out i hi hi)
        have hr : (s.size : Int).tmod 2 = 1 := by rw [Int.tmod_eq_emod_of_nonneg (by omega)]; omega
        clear hod HNO HD
        go_wp2_with fail
        refine (lives_true _).mono ?_
        rintro e w6 ⟨rfl, hb6⟩
        have hB6 := hB4.trans (hb6.mono hB4.size)
        clear hb6 hB4
        go_wp2
        go_ret
        exact ⟨rfl, hB6⟩
end WordHexes

theorem wordHexes_walk (a0 : Option Addr) (len0 cap0 : Nat) (z0 : List Int) (a1 : ByteArray) (W : World) (w0 : IsRow .u8 W a0 len0 cap0 z0) (w1 : a1.size ≤ maxLen) (_hs : a1.data.toList.length ≤ reachBytes) (_hL : laidMetH Tryd.prog Rows.wordHexesRow.laid W) :
    Calls Tryd.prog 10 #[.slice a0 len0 cap0, .string a1] W fun e w' => e = .returned (.bool true) ∧ Below W.heap.size W w' :=
  WordHexes.walk a0 len0 cap0 z0 a1 w1 W w0
end Go.Proofs.YthgkkgjnealkbaaDoor
