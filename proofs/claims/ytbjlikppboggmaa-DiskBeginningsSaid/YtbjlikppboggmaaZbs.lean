/-
  The walk of the law DiskBeginnings.
-/
import Derived.Test.YtbjlikppboggmaaZbr
import Derived.Test.YtbjlikppboggmaaZbh
import Derived.Test.YtbjlikppboggmaaZas
import Derived.Test.YtbjlikppboggmaaZau
import Derived.Test.YtbjlikppboggmaaZbi
import Derived.Test.YtbjlikppboggmaaZbl
import Derived.Test.YtbjlikppboggmaaZaa
namespace Go.Proofs.Ytbjlikppboggmaa
open Go.RowKit Go.Maps
set_option linter.unusedVariables false
set_option linter.unusedSimpArgs false
set_option maxRecDepth 100000
attribute [local instance] keepNo

theorem cellsZ_inj {a b : List Int} (h : cellsZ a = cellsZ b) : a = b := by
  unfold cellsZ at h
  exact (List.map_inj_right (fun x y e => by injection e)).1 h
theorem cellsZ_takeB (a : List Int) (l : Nat) : (cellsZ a).take l = cellsZ (a.take l) := by unfold cellsZ; rw [List.map_take]
section
variable (A : Option Addr) (n c : Nat) (os : List OpR) (d1 : Int) (kA : Option Addr) (kl kc : Nat) (kz : List Int) (d2 : Int) (jA : Option Addr) (jl jc : Nat) (jz : List Int) (W : World)
theorem beg_start (h : OpsIn W A n os) (hnc : n ≤ c) (hcm : c ≤ maxLen) : ∃ W2, (W.alloc (.cells #[.int .i64 d1, .slice kA kl kc] 32)).alloc (.cells #[.int .i64 d2, .slice jA jl jc] 32) = W2 ∧ Below W.heap.size W W2 ∧ W2.heap.size = W.heap.size + 2 ∧
    W2.heap[W.heap.size]? = some (.cells #[.int .i64 d1, .slice kA kl kc] 32 (0, 0)) ∧ W2.heap[W.heap.size + 1]? = some (.cells #[.int .i64 d2, .slice jA jl jc] 32 (0, 0)) ∧
    Calls Try.prog 13 #[.int .i64 1048576, .slice A n c] W2 fun e w' => ∃ d x own ox, e = .returned (.tuple #[.pointer (some ⟨d, 0, none⟩), .pointer (some ⟨x, 0, none⟩), .bool true]) ∧ Both W2 w' d x own ox ((RD.fresh 1048576).doAll (cutL os)) ∧ ((RD.fresh 1048576).doAll (cutL os)).size ≤ 240 := by
  obtain ⟨h1, h2, h3⟩ := two_new W (.cells #[.int .i64 d1, .slice kA kl kc] 32) (.cells #[.int .i64 d2, .slice jA jl jc] 32)
  exact ⟨_, rfl, h3, by simp, h2, h1, play_any A n c os 1048576 _ (h.below h3) hnc hcm (by omega)⟩
set_option maxHeartbeats 6400000 in
theorem beg_long (h : OpsIn W A n os) (hnc : n ≤ c) (hcm : c ≤ maxLen) (hlong : 300 < kl ∨ 300 < jl) :
    Calls Try.prog 5 #[.slice A n c, .agg #[.int .i64 d1, .slice kA kl kc], .agg #[.int .i64 d2, .slice jA jl jc]] W fun e w' => e = .returned (.bool true) ∧ Below W.heap.size W w' := by
  obtain ⟨W2, hW2, hB2, hs2, q0, q1, hplay⟩ := beg_start A n c os d1 kA kl kc d2 jA jl jc W h hnc hcm
  have HPLAY := Lib.hid hplay
  have HLV := Lib.hid lives_any
  have HB2 := Lib.hid hB2
  have HQ := Lib.hid (And.intro q0 (And.intro q1 hs2))
  clear h hnc hcm hB2 hs2 q0 q1 hplay
  go_enter Try.func5, Try.ntmps5
  go_wp2_with fail
  refine HPLAY.out.mono ?_
  rintro e w1 ⟨d, x, own, ox, rfl, hBo, hsz⟩
  have HON := Lib.hid (HB2.out.trans (hBo.on.mono HB2.out.size))
  have m3 : w1.cell? ⟨W.heap.size, 1, none⟩ = some (.slice kA kl kc) := by
    have hq := (hBo.on.block W.heap.size (by have := HQ.out.2.2; omega)).trans HQ.out.1
    rw [cell_of_row w1 W.heap.size 1 _ _ (0, 0) hq]; rfl
  have m4 : w1.cell? ⟨W.heap.size + 1, 1, none⟩ = some (.slice jA jl jc) := by
    have hq := (hBo.on.block (W.heap.size + 1) (by have := HQ.out.2.2; omega)).trans HQ.out.2.1
    rw [cell_of_row w1 (W.heap.size + 1) 1 _ _ (0, 0) hq]; rfl
  clear hBo hsz HPLAY
  rcases (show (300 : Int) < (kl : Int) ∨ (¬ (300 : Int) < (kl : Int) ∧ (300 : Int) < (jl : Int)) by omega) with g1 | ⟨g1, g2⟩
  all_goals
    clear hlong
    go_wp2_with fail
    refine (HLV.out _).mono ?_
    rintro e wF ⟨rfl, hBF⟩
    have HEND := Lib.hid (HON.out.trans (hBF.mono HON.out.size))
    clear hBF
    go_wp2
    go_ret
    exact ⟨rfl, HEND.out⟩
set_option maxHeartbeats 12800000 in
theorem beg_main (h : OpsIn W A n os) (hnc : n ≤ c) (hcm : c ≤ maxLen) (hd1 : -9223372036854775808 ≤ d1 ∧ d1 ≤ 9223372036854775807) (hk : ZsAt W kA kl kz) (hkz : ∀ z ∈ kz, z ≤ 9223372036854775807) (hd2 : -9223372036854775808 ≤ d2 ∧ d2 ≤ 9223372036854775807) (hj : ZsAt W jA jl jz) (hjz : ∀ z ∈ jz, z ≤ 9223372036854775807) (h1 : kl ≤ 300) (h2 : jl ≤ 300) :
    Calls Try.prog 5 #[.slice A n c, .agg #[.int .i64 d1, .slice kA kl kc], .agg #[.int .i64 d2, .slice jA jl jc]] W fun e w' => e = .returned (.bool true) ∧ Below W.heap.size W w' := by
  have g1 : ¬ (300 : Int) < (kl : Int) := by omega
  have g2 : ¬ (300 : Int) < (jl : Int) := by omega
  obtain ⟨W2, hW2, hB2, hs2, q0, q1, hplay⟩ := beg_start A n c os d1 kA kl kc d2 jA jl jc W h hnc hcm
  have HPLAY := Lib.hid hplay
  have HLV := Lib.hid lives_any
  have HB2 := Lib.hid hB2
  have HQ := Lib.hid (And.intro q0 (And.intro q1 hs2))
  have HK := Lib.hid (And.intro (hk.below hB2) (And.intro hkz hd1))
  have HJ := Lib.hid (And.intro (hj.below hB2) (And.intro hjz hd2))
  have HSO0 := Lib.hid (fun (V : World) (hV : Below W.heap.size W V) (nm : ByteArray) => sole_from W V hV A n c os h hnc hcm nm)
  clear h hnc hcm hB2 hs2 q0 q1 hplay hk hkz hj hjz hd1 hd2
  obtain ⟨b0, hb0⟩ : ∃ b0, W.heap.size = b0 := ⟨_, rfl⟩
  have HB0 := Lib.hid hb0
  rw [hb0] at HQ
  rw [hb0]
  go_enter Try.func5, Try.ntmps5
  go_wp2_with fail
  refine HPLAY.out.mono ?_
  rintro e w1 ⟨d, x, own, ox, rfl, hBo, hsz⟩
  clear HPLAY hb0
  have HBOX : Hid (∀ V, Below W2.heap.size W2 V → V.cell? ⟨b0, 0, none⟩ = some (.int .i64 d1) ∧ V.cell? ⟨b0, 1, none⟩ = some (.slice kA kl kc) ∧ V.cell? ⟨b0 + 1, 0, none⟩ = some (.int .i64 d2) ∧ V.cell? ⟨b0 + 1, 1, none⟩ = some (.slice jA jl jc)) := Lib.hid (fun V hV => by
    have ha := (hV.block b0 (by have := HQ.out.2.2; omega)).trans HQ.out.1
    have hb := (hV.block (b0 + 1) (by have := HQ.out.2.2; omega)).trans HQ.out.2.1
    refine ⟨?_, ?_, ?_, ?_⟩
    · rw [cell_of_row V b0 0 _ _ (0, 0) ha]; rfl
    · rw [cell_of_row V b0 1 _ _ (0, 0) ha]; rfl
    · rw [cell_of_row V (b0 + 1) 0 _ _ (0, 0) hb]; rfl
    · rw [cell_of_row V (b0 + 1) 1 _ _ (0, 0) hb]; rfl)
  have m3 := (HBOX.out w1 hBo.on).2.1
  have m4 := (HBOX.out w1 hBo.on).2.2.2
  obtain ⟨r, hr⟩ : ∃ r, (RD.fresh 1048576).doAll (cutL os) = r := ⟨_, rfl⟩
  rw [hr] at hBo hsz
  have D1 : DF W2 w1 d own r := ⟨hBo.d0, hBo.on, hBo.isD⟩
  have hnm : NmOk r := by rw [← hr]; exact NmOk.doAll _ _ (AllQ.fresh _)
  have HP1 := Lib.hid (And.intro hBo.fct (And.intro hBo.isD.puts (And.intro hnm hr.symm)))
  have HCL := Lib.hid D1.2.2.clone
  have HD1 := Lib.hid D1
  clear hr hBo hsz D1 hnm
  go_wp2_with fail
  with_reducible refine HCL.out.mono ?_
  rintro e w2 ⟨cb, own2, rfl, hz2, hI2, hb2⟩
  have D2 := HD1.out.below hb2
  have m0 := (HBOX.out w2 D2.2.1).1
  have m1 := (HBOX.out w2 D2.2.1).2.1
  have HC2 := Lib.hid (D2.crash0 (KA := kA) (kn := kl) (kc := kc) (dir := d1) (zs := kz) rfl HK.out.2.2 HK.out.1 (by omega) HK.out.2.1)
  have HI2 := Lib.hid (And.intro hz2 (And.intro hI2 hb2))
  clear hz2 hI2 hb2 D2 HCL m3 m4
  go_wp2_with fail
  with_reducible refine HC2.out.mono ?_
  rintro e w3 ⟨⟨v3, rfl⟩, own3, O3, D3⟩
  have hI3 : IsD w3 cb own2 r := HI2.out.2.1.carry O3.1.size (fun _ _ => rfl) (fun k hk hne => O3.2.2 k hk (by
    rcases Nat.lt_or_ge k w1.heap.size with q | q
    · exact absurd (HI2.out.1 k q) hne
    · exact HD1.out.2.2.1 k q)) (fun i hi => HI2.out.2.1.1 i (by have := O3.1.size; omega))
  obtain ⟨r1, hr1⟩ : ∃ r1, r.crash d1 kz = r1 := ⟨_, rfl⟩
  have HR1 := Lib.hid hr1
  rw [hr1] at D3
  have ho : r1.off = false := by rw [← hr1]; rfl
  have hfu : r1.full = false := by rw [← hr1]; rfl
  have HOF := Lib.hid D3.2.2.isOff
  have HFU := Lib.hid D3.2.2.isFull
  rw [ho] at HOF
  rw [hfu] at HFU
  have HLI := Lib.hid D3.2.2.list
  obtain ⟨nn, hnn⟩ : ∃ nn, r1.now.length = nn := ⟨_, rfl⟩
  rw [hnn] at HLI
  have HNN := Lib.hid hnn
  have HD3 := Lib.hid (And.intro D3 hI3)
  clear O3 D3 hI3 hr1 ho hfu hnn HC2 m0 m1
  go_wp2_with (first
    | (go_at_call 22; (with_reducible refine HOF.out.mono ?_); rintro e w3' ⟨rfl, rfl⟩)
    | (go_at_call 23; (with_reducible refine HFU.out.mono ?_); rintro e w3' ⟨rfl, rfl⟩))
  with_reducible refine HLI.out.mono ?_
  rintro e w4 ⟨⟨A1, c1, rfl, hl1, hf1⟩, hb4⟩
  have HL1 := Lib.hid (And.intro hl1 hb4)
  clear hl1 hf1 hb4 HOF HFU HLI
  go_wp2_with fail
  go_loopg [60] (nn + 1) (fun kx i wq => ∃ k : Nat, i = .int .i64 k ∧ k ≤ nn ∧ Hid (Below w4.heap.size w4 wq) ∧ nn - k + 1 ≤ kx)
  case atStart => exact ⟨0, rfl, Nat.zero_le _, Lib.hid (Below.refl _ _), Nat.le_refl _⟩
  case round =>
    obtain ⟨k, rfl, hk, HQ4, hm⟩ := hrel
    by_cases hlt : k < nn
    · obtain ⟨⟨nm, v⟩, hp⟩ : ∃ p, r1.now[k]? = some p := ⟨_, List.getElem?_eq_getElem (by have := HNN.out; omega)⟩
      have hnk : (namesV r1.now)[k]? = some (.string nm) := by unfold namesV; rw [List.getElem?_map, hp]; rfl
      have hmemp := List.mem_of_getElem? hp
      have hhas1 : hasP ltS r1.now nm = true := by unfold hasP; rw [(look_some orders_S HD3.out.1.2.2.fct.1.rn).2 hmemp]; rfl
      have hok : nameOk nm = true := by
        have h5 := AllQ.crash (Q := fun q => nameOk q.1 = true) HP1.out.2.2.1 (fun _ _ _ h => h) d1 kz
        rw [HR1.out] at h5
        exact h5.now (nm, v) hmemp
      have hsz : nm.size ≤ 80 := by
        have h6 := hok
        unfold nameOk at h6
        simp only [Bool.and_eq_true, decide_eq_true_eq] at h6
        exact h6.2
      obtain ⟨zs1, hz1, hz1l, hread1⟩ := HD3.out.1.2.2.readZ nm hhas1
      have hb3r : Below w3.heap.size w3 wr := HL1.out.2.trans (HQ4.out.mono HL1.out.2.size)
      obtain ⟨gA, oA, rfl, hgA, hcs, _⟩ := (HL1.out.1.below HQ4.out).at (by omega)
      have l0 := (hcs k (by omega)).trans hnk
      have hcc1 := HL1.out.1.2.1
      have hmx : c1 ≤ 9223372036854775807 := by have := HL1.out.1.2.2.1; unfold maxLen at this; omega
      have HRD1 := Lib.hid (hread1 wr hb3r)
      have HMN : Hid (∀ V, Calls Try.prog 25 #[.string nm] V fun e w' => e = .returned (.bool true) ∧ V = w') := Lib.hid (fun V => by
        have h7 := mayName_any nm (by omega) V
        rw [hok] at h7
        exact h7)
      have HB3R := Lib.hid hb3r
      have HX1 := Lib.hid (And.intro hhas1 hz1)
      have hlt' : (k : Int) < (nn : Int) := by omega
      have hk0 : (0 : Int) ≤ (k : Int) := by omega
      have hW3 : Below W.heap.size W w3 := HB2.out.trans (HD3.out.1.2.1.mono HB2.out.size)
      have HW3 := Lib.hid hW3
      obtain ⟨L1, hL1⟩ : ∃ L1, zs1.length = L1 := ⟨_, rfl⟩
      rw [hL1] at HRD1
      clear hp hnk hmemp hhas1 hok hsz hz1 hread1 hb3r hcs hgA hW3
      by_cases hh : hasP ltS r.now nm = true
      · obtain ⟨zs2, hz2, hz2l, hread2⟩ := HD3.out.2.readZ nm hh
        obtain ⟨sb, hsb⟩ : ∃ sb, soleB (cutL os) nm = sb := ⟨_, rfl⟩
        obtain ⟨L2, hL2⟩ : ∃ L2, zs2.length = L2 := ⟨_, rfl⟩
        rw [hL2] at hread2
        have HRD2 := Lib.hid hread2
        have HCUT : Hid (sb = true → ∃ m, zs1 = zs2.take m) := Lib.hid (fun e => by
          rw [e] at hsb
          unfold soleB at hsb
          rw [Bool.and_eq_true, Bool.not_eq_true', decide_eq_true_eq] at hsb
          obtain ⟨k', hk'⟩ := OnlyF.doAll nm (cutL os) (RD.fresh 1048576) none (AllQ.fresh _) hsb.1 (by rw [if_pos rfl]; omega)
          rw [← HP1.out.2.2.2] at hk'
          have h9 := HX1.out.1
          rw [← HR1.out] at h9
          obtain ⟨m, hm⟩ := sole_cut HP1.out.1 HP1.out.2.1 hk' d1 kz hh h9
          rw [HR1.out, HX1.out.2, hz2, cellsZ_takeB] at hm
          exact ⟨m, cellsZ_inj hm⟩)
        have HSO1 : Hid (∀ V, Below W.heap.size W V → Calls Try.prog 26 #[.slice A n c, .string nm] V fun e w' => e = .returned (.bool sb) ∧ Below V.heap.size V w') := Lib.hid (fun V hV => by have h8 := HSO0.out V hV nm; rw [hsb] at h8; exact h8)
        clear hz2 hz2l hread2 hsb
        go_wp2_with fail
        with_reducible refine HRD1.out.mono ?_
        rintro e w5 ⟨⟨A7, c7, rfl, hz7, hc7⟩, hb5⟩
        have HX5 := Lib.hid (And.intro hz7 (And.intro hc7 hb5))
        have HRD2b := Lib.hid (HRD2.out w5 (HB3R.out.trans (hb5.mono HB3R.out.size)))
        clear hz7 hb5 hc7
        go_wp2_with (go_at_call 25; (with_reducible refine (HMN.out _).mono ?_); rintro e w5' ⟨rfl, rfl⟩)
        with_reducible refine HRD2b.out.mono ?_
        rintro e w7 ⟨⟨A8, c8, rfl, hz8, hc8⟩, hb7⟩
        have hb57 : Below wr.heap.size wr w7 := HX5.out.2.2.trans (hb7.mono HX5.out.2.2.size)
        have HB7 : Hid (Below w4.heap.size w4 w7) := Lib.hid (HQ4.out.trans (hb57.mono HQ4.out.size))
        have HS6 : Hid (RowZ w7.drew A7 L1 zs1 ∧ RowZ w7.drew A8 L2 zs2) := Lib.hid ⟨(HX5.out.1.below hb7).drew, hz8.drew⟩
        have HSO := Lib.hid (HSO1.out w7.drew (HW3.out.trans ((HB3R.out.trans (hb57.mono HB3R.out.size)).mono HW3.out.size)).drew)
        clear hz8 hb7 hb57 HRD2b HRD2 HX5 HRD1 l0 HMN
        cases sb with
        | false =>
          clear HCUT HS6
          go_upto_region 15 with fail
          refine wp_region_held_drew (S := fun V => True) (by kernel_rfl) trivial (fun _ => ?_)
          refine takeH 0 83 (v := (.int .i64 0)) rfl rfl (by kernel_rfl) (by kernel_rfl) (by kernel_rfl) (fun _ _ _ h => h) (by rfl) ?_ trivial ?_
          · intro w hSw
            go_simp
          simp only [Act.put, List.setIfInBounds_toArray, List.set_cons_zero, List.set_cons_succ]
          refine takeH 1 84 (v := (.bool true)) rfl rfl (by kernel_rfl) (by kernel_rfl) (by kernel_rfl) (fun _ _ _ h => h) (by rfl) ?_ trivial ?_
          · intro w hSw
            go_simp
          simp only [Act.put, List.setIfInBounds_toArray, List.set_cons_zero, List.set_cons_succ]
          refine takeH 2 85 (v := (.bool true)) rfl rfl (by kernel_rfl) (by kernel_rfl) (by kernel_rfl) (fun _ _ _ h => h) (by rfl) ?_ trivial ?_
          · intro w hSw
            go_simp
          simp only [Act.put, List.setIfInBounds_toArray, List.set_cons_zero, List.set_cons_succ]
          refine takeH 3 86 (v := (.slice A n c)) rfl rfl (by kernel_rfl) (by kernel_rfl) (by kernel_rfl) (fun _ _ _ h => h) (by rfl) ?_ trivial ?_
          · intro w hSw
            go_simp
          simp only [Act.put, List.setIfInBounds_toArray, List.set_cons_zero, List.set_cons_succ]
          refine takeH 4 87 (v := (.string nm)) rfl rfl (by kernel_rfl) (by kernel_rfl) (by kernel_rfl) (fun _ _ _ h => h) (by rfl) ?_ trivial ?_
          · intro w hSw
            go_simp
          simp only [Act.put, List.setIfInBounds_toArray, List.set_cons_zero, List.set_cons_succ]
          refine wpAnyH_ready (rs := [5]) (by kernel_rfl) (by simp) ?_
          refine AllReadyH.cons rfl (fun K hK => ?_) AllReadyH.nil
          go_simp
          go_at_call 26
          with_reducible refine HSO.out.mono ?_
          rintro e w8 ⟨rfl, hb8⟩
          have HB8 := Lib.hid (HB7.out.trans (((Below.refl _ w7).drew.trans hb8).mono HB7.out.size))
          clear hb8
          refine hK.out _ _ trivial (fun _ => ?_)
          clear hK K
          try simp only [Act.put, List.setIfInBounds_toArray, List.set_cons_zero, List.set_cons_succ]
          refine takeH 6 89 (v := (.bool false)) rfl rfl (by kernel_rfl) (by kernel_rfl) (by kernel_rfl) (fun _ _ _ h => h) (by rfl) ?_ trivial ?_
          · intro w hSw
            go_simp
          simp only [Act.put, List.setIfInBounds_toArray, List.set_cons_zero, List.set_cons_succ]
          refine takeH 7 90 (v := (.bool false)) rfl rfl (by kernel_rfl) (by kernel_rfl) (by kernel_rfl) (fun _ _ _ h => h) (by rfl) ?_ trivial ?_
          · intro w hSw
            go_simp
          simp only [Act.put, List.setIfInBounds_toArray, List.set_cons_zero, List.set_cons_succ]
          refine takeU 8 91 rfl rfl (by kernel_rfl) (by kernel_rfl) (by kernel_rfl) (fun _ _ _ h => h) (by rfl) trivial ?_
          simp only [Act.put, List.setIfInBounds_toArray, List.set_cons_zero, List.set_cons_succ]
          refine takeU 9 92 rfl rfl (by kernel_rfl) (by kernel_rfl) (by kernel_rfl) (fun _ _ _ h => h) (by rfl) trivial ?_
          simp only [Act.put, List.setIfInBounds_toArray, List.set_cons_zero, List.set_cons_succ]
          refine takeU 10 93 rfl rfl (by kernel_rfl) (by kernel_rfl) (by kernel_rfl) (fun _ _ _ h => h) (by rfl) trivial ?_
          simp only [Act.put, List.setIfInBounds_toArray, List.set_cons_zero, List.set_cons_succ]
          refine takeU 11 94 rfl rfl (by kernel_rfl) (by kernel_rfl) (by kernel_rfl) (fun _ _ _ h => h) (by rfl) trivial ?_
          simp only [Act.put, List.setIfInBounds_toArray, List.set_cons_zero, List.set_cons_succ]
          refine takeU 12 95 rfl rfl (by kernel_rfl) (by kernel_rfl) (by kernel_rfl) (fun _ _ _ h => h) (by rfl) trivial ?_
          simp only [Act.put, List.setIfInBounds_toArray, List.set_cons_zero, List.set_cons_succ]
          refine takeU 13 96 rfl rfl (by kernel_rfl) (by kernel_rfl) (by kernel_rfl) (fun _ _ _ h => h) (by rfl) trivial ?_
          simp only [Act.put, List.setIfInBounds_toArray, List.set_cons_zero, List.set_cons_succ]
          refine takeU 14 97 rfl rfl (by kernel_rfl) (by kernel_rfl) (by kernel_rfl) (fun _ _ _ h => h) (by rfl) trivial ?_
          simp only [Act.put, List.setIfInBounds_toArray, List.set_cons_zero, List.set_cons_succ]
          refine takeU 15 98 rfl rfl (by kernel_rfl) (by kernel_rfl) (by kernel_rfl) (fun _ _ _ h => h) (by rfl) trivial ?_
          simp only [Act.put, List.setIfInBounds_toArray, List.set_cons_zero, List.set_cons_succ]
          refine takeU 16 99 rfl rfl (by kernel_rfl) (by kernel_rfl) (by kernel_rfl) (fun _ _ _ h => h) (by rfl) trivial ?_
          simp only [Act.put, List.setIfInBounds_toArray, List.set_cons_zero, List.set_cons_succ]
          refine takeU 17 100 rfl rfl (by kernel_rfl) (by kernel_rfl) (by kernel_rfl) (fun _ _ _ h => h) (by rfl) trivial ?_
          simp only [Act.put, List.setIfInBounds_toArray, List.set_cons_zero, List.set_cons_succ]
          refine takeU 18 101 rfl rfl (by kernel_rfl) (by kernel_rfl) (by kernel_rfl) (fun _ _ _ h => h) (by rfl) trivial ?_
          simp only [Act.put, List.setIfInBounds_toArray, List.set_cons_zero, List.set_cons_succ]
          refine takeU 19 102 rfl rfl (by kernel_rfl) (by kernel_rfl) (by kernel_rfl) (fun _ _ _ h => h) (by rfl) trivial ?_
          simp only [Act.put, List.setIfInBounds_toArray, List.set_cons_zero, List.set_cons_succ]
          refine takeU 20 103 rfl rfl (by kernel_rfl) (by kernel_rfl) (by kernel_rfl) (fun _ _ _ h => h) (by rfl) trivial ?_
          simp only [Act.put, List.setIfInBounds_toArray, List.set_cons_zero, List.set_cons_succ]
          refine takeU 21 104 rfl rfl (by kernel_rfl) (by kernel_rfl) (by kernel_rfl) (fun _ _ _ h => h) (by rfl) trivial ?_
          simp only [Act.put, List.setIfInBounds_toArray, List.set_cons_zero, List.set_cons_succ]
          refine takeU 22 105 rfl rfl (by kernel_rfl) (by kernel_rfl) (by kernel_rfl) (fun _ _ _ h => h) (by rfl) trivial ?_
          simp only [Act.put, List.setIfInBounds_toArray, List.set_cons_zero, List.set_cons_succ]
          refine takeH 23 106 (v := (.bool false)) rfl rfl (by kernel_rfl) (by kernel_rfl) (by kernel_rfl) (fun _ _ _ h => h) (by rfl) ?_ trivial ?_
          · intro w hSw
            go_simp
          simp only [Act.put, List.setIfInBounds_toArray, List.set_cons_zero, List.set_cons_succ]
          refine wpAnyH_done (by kernel_rfl) ?_ _
          go_wp2
          go_roundg (nn - (k + 1) + 1)
          case measure => omega
          case rel => exact ⟨k + 1, by go_num, by omega, Lib.hid HB8.out, Nat.le_refl _⟩
        | true =>
          obtain ⟨m, hzm⟩ := HCUT.out rfl
          have hL12 : L1 ≤ L2 := by rw [← hL1, ← hL2, hzm, List.length_take]; omega
          have hzt : zs2.take L1 = zs1 := by
            rw [← hL1, hzm, List.length_take]
            rcases Nat.le_total m zs2.length with q | q
            · rw [Nat.min_eq_left q]
            · rw [Nat.min_eq_right q, List.take_length, List.take_of_length_le q]
          obtain ⟨ss, hss⟩ : ∃ ss, strOfNums zs1 = ss := ⟨_, rfl⟩
          have y1 : (L1 : Int) ≤ (L2 : Int) := by omega
          have y2 : (L1 : Int) ≤ (c8 : Int) := by omega
          have y0 : (0 : Int) ≤ (L1 : Int) := by omega
          clear HCUT hzm hL1 hL2
          go_upto_region 15 with fail
          refine wp_region_held_drew (S := fun V => RowZ V A7 L1 zs1 ∧ RowZ V A8 L2 zs2) (by kernel_rfl) HS6.out (fun _ => ?_)
          refine takeH 0 83 (v := (.int .i64 0)) rfl rfl (by kernel_rfl) (by kernel_rfl) (by kernel_rfl) (fun _ _ _ h => h) (by rfl) ?_ HS6.out ?_
          · intro w hSw
            go_simp
          simp only [Act.put, List.setIfInBounds_toArray, List.set_cons_zero, List.set_cons_succ]
          refine takeH 1 84 (v := (.bool true)) rfl rfl (by kernel_rfl) (by kernel_rfl) (by kernel_rfl) (fun _ _ _ h => h) (by rfl) ?_ HS6.out ?_
          · intro w hSw
            go_simp
          simp only [Act.put, List.setIfInBounds_toArray, List.set_cons_zero, List.set_cons_succ]
          refine takeH 2 85 (v := (.bool true)) rfl rfl (by kernel_rfl) (by kernel_rfl) (by kernel_rfl) (fun _ _ _ h => h) (by rfl) ?_ HS6.out ?_
          · intro w hSw
            go_simp
          simp only [Act.put, List.setIfInBounds_toArray, List.set_cons_zero, List.set_cons_succ]
          refine takeH 3 86 (v := (.slice A n c)) rfl rfl (by kernel_rfl) (by kernel_rfl) (by kernel_rfl) (fun _ _ _ h => h) (by rfl) ?_ HS6.out ?_
          · intro w hSw
            go_simp
          simp only [Act.put, List.setIfInBounds_toArray, List.set_cons_zero, List.set_cons_succ]
          refine takeH 4 87 (v := (.string nm)) rfl rfl (by kernel_rfl) (by kernel_rfl) (by kernel_rfl) (fun _ _ _ h => h) (by rfl) ?_ HS6.out ?_
          · intro w hSw
            go_simp
          simp only [Act.put, List.setIfInBounds_toArray, List.set_cons_zero, List.set_cons_succ]
          refine wpAnyH_ready (rs := [5]) (by kernel_rfl) (by simp) ?_
          refine AllReadyH.cons rfl (fun K hK => ?_) AllReadyH.nil
          go_simp
          go_at_call 26
          with_reducible refine HSO.out.mono ?_
          rintro e w8 ⟨rfl, hb8⟩
          have HB8 := Lib.hid (HB7.out.trans (((Below.refl _ w7).drew.trans hb8).mono HB7.out.size))
          have HS6 := Lib.hid (And.intro (HS6.out.1.below hb8) (HS6.out.2.below hb8))
          clear hb8
          refine hK.out _ _ HS6.out (fun _ => ?_)
          clear hK K
          try simp only [Act.put, List.setIfInBounds_toArray, List.set_cons_zero, List.set_cons_succ]
          refine takeH 6 89 (v := (.bool true)) rfl rfl (by kernel_rfl) (by kernel_rfl) (by kernel_rfl) (fun _ _ _ h => h) (by rfl) ?_ HS6.out ?_
          · intro w hSw
            go_simp
          simp only [Act.put, List.setIfInBounds_toArray, List.set_cons_zero, List.set_cons_succ]
          refine takeH 7 90 (v := (.bool true)) rfl rfl (by kernel_rfl) (by kernel_rfl) (by kernel_rfl) (fun _ _ _ h => h) (by rfl) ?_ HS6.out ?_
          · intro w hSw
            go_simp
          simp only [Act.put, List.setIfInBounds_toArray, List.set_cons_zero, List.set_cons_succ]
          refine takeH 8 91 (v := (.slice A7 L1 c7)) rfl rfl (by kernel_rfl) (by kernel_rfl) (by kernel_rfl) (fun _ _ _ h => h) (by rfl) ?_ HS6.out ?_
          · intro w hSw
            go_simp
          simp only [Act.put, List.setIfInBounds_toArray, List.set_cons_zero, List.set_cons_succ]
          refine takeH 9 92 (v := (.int .i64 (L1 : Int))) rfl rfl (by kernel_rfl) (by kernel_rfl) (by kernel_rfl) (fun _ _ _ h => h) (by rfl) ?_ HS6.out ?_
          · intro w hSw
            go_simp
          simp only [Act.put, List.setIfInBounds_toArray, List.set_cons_zero, List.set_cons_succ]
          refine takeH 10 93 (v := (.slice A8 L2 c8)) rfl rfl (by kernel_rfl) (by kernel_rfl) (by kernel_rfl) (fun _ _ _ h => h) (by rfl) ?_ HS6.out ?_
          · intro w hSw
            go_simp
          simp only [Act.put, List.setIfInBounds_toArray, List.set_cons_zero, List.set_cons_succ]
          refine takeH 11 94 (v := (.int .i64 (L2 : Int))) rfl rfl (by kernel_rfl) (by kernel_rfl) (by kernel_rfl) (fun _ _ _ h => h) (by rfl) ?_ HS6.out ?_
          · intro w hSw
            go_simp
          simp only [Act.put, List.setIfInBounds_toArray, List.set_cons_zero, List.set_cons_succ]
          refine takeH 12 95 (v := (.bool false)) rfl rfl (by kernel_rfl) (by kernel_rfl) (by kernel_rfl) (fun _ _ _ h => h) (by rfl) ?_ HS6.out ?_
          · intro w hSw
            go_simp
          simp only [Act.put, List.setIfInBounds_toArray, List.set_cons_zero, List.set_cons_succ]
          refine takeH 13 96 (v := (.bool false)) rfl rfl (by kernel_rfl) (by kernel_rfl) (by kernel_rfl) (fun _ _ _ h => h) (by rfl) ?_ HS6.out ?_
          · intro w hSw
            go_simp
          simp only [Act.put, List.setIfInBounds_toArray, List.set_cons_zero, List.set_cons_succ]
          refine takeH 14 97 (v := (.slice A8 L2 c8)) rfl rfl (by kernel_rfl) (by kernel_rfl) (by kernel_rfl) (fun _ _ _ h => h) (by rfl) ?_ HS6.out ?_
          · intro w hSw
            go_simp
          simp only [Act.put, List.setIfInBounds_toArray, List.set_cons_zero, List.set_cons_succ]
          refine takeH 15 98 (v := (.slice A7 L1 c7)) rfl rfl (by kernel_rfl) (by kernel_rfl) (by kernel_rfl) (fun _ _ _ h => h) (by rfl) ?_ HS6.out ?_
          · intro w hSw
            go_simp
          simp only [Act.put, List.setIfInBounds_toArray, List.set_cons_zero, List.set_cons_succ]
          refine takeH 16 99 (v := (.int .i64 (L1 : Int))) rfl rfl (by kernel_rfl) (by kernel_rfl) (by kernel_rfl) (fun _ _ _ h => h) (by rfl) ?_ HS6.out ?_
          · intro w hSw
            go_simp
          simp only [Act.put, List.setIfInBounds_toArray, List.set_cons_zero, List.set_cons_succ]
          refine takeH 17 100 (v := (.slice A8 L1 c8)) rfl rfl (by kernel_rfl) (by kernel_rfl) (by kernel_rfl) (fun _ _ _ h => h) (by rfl) ?_ HS6.out ?_
          · intro w hSw
            go_simp
          simp only [Act.put, List.setIfInBounds_toArray, List.set_cons_zero, List.set_cons_succ]
          refine takeH 18 101 (v := (.string ss)) rfl rfl (by kernel_rfl) (by kernel_rfl) (by kernel_rfl) (fun _ _ _ h => h) (by rfl) ?_ HS6.out ?_
          · intro w hSw
            obtain ⟨s0, s1⟩ := hSw
            have k1 := conv_row s0 c7
            have k2 := conv_row (s1.take hL12) c8
            rw [hss] at k1
            rw [hzt, hss] at k2
            go_simp
          simp only [Act.put, List.setIfInBounds_toArray, List.set_cons_zero, List.set_cons_succ]
          refine takeH 19 102 (v := (.slice A7 L1 c7)) rfl rfl (by kernel_rfl) (by kernel_rfl) (by kernel_rfl) (fun _ _ _ h => h) (by rfl) ?_ HS6.out ?_
          · intro w hSw
            go_simp
          simp only [Act.put, List.setIfInBounds_toArray, List.set_cons_zero, List.set_cons_succ]
          refine takeH 20 103 (v := (.string ss)) rfl rfl (by kernel_rfl) (by kernel_rfl) (by kernel_rfl) (fun _ _ _ h => h) (by rfl) ?_ HS6.out ?_
          · intro w hSw
            obtain ⟨s0, s1⟩ := hSw
            have k1 := conv_row s0 c7
            have k2 := conv_row (s1.take hL12) c8
            rw [hss] at k1
            rw [hzt, hss] at k2
            go_simp
          simp only [Act.put, List.setIfInBounds_toArray, List.set_cons_zero, List.set_cons_succ]
          refine takeH 21 104 (v := (.bool false)) rfl rfl (by kernel_rfl) (by kernel_rfl) (by kernel_rfl) (fun _ _ _ h => h) (by rfl) ?_ HS6.out ?_
          · intro w hSw
            go_simp
          simp only [Act.put, List.setIfInBounds_toArray, List.set_cons_zero, List.set_cons_succ]
          refine takeH 22 105 (v := (.bool false)) rfl rfl (by kernel_rfl) (by kernel_rfl) (by kernel_rfl) (fun _ _ _ h => h) (by rfl) ?_ HS6.out ?_
          · intro w hSw
            go_simp
          simp only [Act.put, List.setIfInBounds_toArray, List.set_cons_zero, List.set_cons_succ]
          refine takeH 23 106 (v := (.bool false)) rfl rfl (by kernel_rfl) (by kernel_rfl) (by kernel_rfl) (fun _ _ _ h => h) (by rfl) ?_ HS6.out ?_
          · intro w hSw
            go_simp
          simp only [Act.put, List.setIfInBounds_toArray, List.set_cons_zero, List.set_cons_succ]
          refine wpAnyH_done (by kernel_rfl) ?_ _
          go_wp2
          go_roundg (nn - (k + 1) + 1)
          case measure => omega
          case rel => exact ⟨k + 1, by go_num, by omega, Lib.hid HB8.out, Nat.le_refl _⟩
      · have hh2 : hasP ltS r.now nm = false := by cases e : hasP ltS r.now nm with | false => rfl | true => exact absurd e hh
        have HRD2 : Hid (∀ V, Below w3.heap.size w3 V → Calls Try.prog 20 #[.pointer (some ⟨cb, 0, none⟩), .string nm] V fun e w' => e = .returned (.tuple #[.slice none 0 0, .int .i64 3]) ∧ Below V.heap.size V w') := Lib.hid (fun V hV => (HD3.out.2.below hV).read_no nm hh2)
        clear hh hh2
        go_wp2_with fail
        with_reducible refine HRD1.out.mono ?_
        rintro e w5 ⟨⟨A7, c7, rfl, hz7, hc7⟩, hb5⟩
        have HX5 := Lib.hid (And.intro hz7 (And.intro hc7 hb5))
        have HRD2b := Lib.hid (HRD2.out w5 (HB3R.out.trans (hb5.mono HB3R.out.size)))
        clear hz7 hb5 hc7
        go_wp2_with (go_at_call 25; (with_reducible refine (HMN.out _).mono ?_); rintro e w5' ⟨rfl, rfl⟩)
        with_reducible refine HRD2b.out.mono ?_
        rintro e w7 ⟨rfl, hb7⟩
        have hb57 : Below wr.heap.size wr w7 := HX5.out.2.2.trans (hb7.mono HX5.out.2.2.size)
        have HB7 : Hid (Below w4.heap.size w4 w7) := Lib.hid (HQ4.out.trans (hb57.mono HQ4.out.size))
        clear hb7 hb57 HRD2b HRD2 HX5 HRD1 l0 HMN
        go_upto_region 15 with fail
        refine wp_region_held_drew (S := fun V => True) (by kernel_rfl) trivial (fun _ => ?_)
        refine takeH 0 83 (v := (.int .i64 3)) rfl rfl (by kernel_rfl) (by kernel_rfl) (by kernel_rfl) (fun _ _ _ h => h) (by rfl) ?_ trivial ?_
        · intro w hSw
          go_simp
        simp only [Act.put, List.setIfInBounds_toArray, List.set_cons_zero, List.set_cons_succ]
        refine takeH 1 84 (v := (.bool false)) rfl rfl (by kernel_rfl) (by kernel_rfl) (by kernel_rfl) (fun _ _ _ h => h) (by rfl) ?_ trivial ?_
        · intro w hSw
          go_simp
        simp only [Act.put, List.setIfInBounds_toArray, List.set_cons_zero, List.set_cons_succ]
        refine takeH 2 85 (v := (.bool false)) rfl rfl (by kernel_rfl) (by kernel_rfl) (by kernel_rfl) (fun _ _ _ h => h) (by rfl) ?_ trivial ?_
        · intro w hSw
          go_simp
        simp only [Act.put, List.setIfInBounds_toArray, List.set_cons_zero, List.set_cons_succ]
        refine takeU 3 86 rfl rfl (by kernel_rfl) (by kernel_rfl) (by kernel_rfl) (fun _ _ _ h => h) (by rfl) trivial ?_
        simp only [Act.put, List.setIfInBounds_toArray, List.set_cons_zero, List.set_cons_succ]
        refine takeU 4 87 rfl rfl (by kernel_rfl) (by kernel_rfl) (by kernel_rfl) (fun _ _ _ h => h) (by rfl) trivial ?_
        simp only [Act.put, List.setIfInBounds_toArray, List.set_cons_zero, List.set_cons_succ]
        refine takeU 5 88 rfl rfl (by kernel_rfl) (by kernel_rfl) (by kernel_rfl) (fun _ _ _ h => h) (by rfl) trivial ?_
        simp only [Act.put, List.setIfInBounds_toArray, List.set_cons_zero, List.set_cons_succ]
        refine takeH 6 89 (v := (.bool false)) rfl rfl (by kernel_rfl) (by kernel_rfl) (by kernel_rfl) (fun _ _ _ h => h) (by rfl) ?_ trivial ?_
        · intro w hSw
          go_simp
        simp only [Act.put, List.setIfInBounds_toArray, List.set_cons_zero, List.set_cons_succ]
        refine takeH 7 90 (v := (.bool false)) rfl rfl (by kernel_rfl) (by kernel_rfl) (by kernel_rfl) (fun _ _ _ h => h) (by rfl) ?_ trivial ?_
        · intro w hSw
          go_simp
        simp only [Act.put, List.setIfInBounds_toArray, List.set_cons_zero, List.set_cons_succ]
        refine takeU 8 91 rfl rfl (by kernel_rfl) (by kernel_rfl) (by kernel_rfl) (fun _ _ _ h => h) (by rfl) trivial ?_
        simp only [Act.put, List.setIfInBounds_toArray, List.set_cons_zero, List.set_cons_succ]
        refine takeU 9 92 rfl rfl (by kernel_rfl) (by kernel_rfl) (by kernel_rfl) (fun _ _ _ h => h) (by rfl) trivial ?_
        simp only [Act.put, List.setIfInBounds_toArray, List.set_cons_zero, List.set_cons_succ]
        refine takeU 10 93 rfl rfl (by kernel_rfl) (by kernel_rfl) (by kernel_rfl) (fun _ _ _ h => h) (by rfl) trivial ?_
        simp only [Act.put, List.setIfInBounds_toArray, List.set_cons_zero, List.set_cons_succ]
        refine takeU 11 94 rfl rfl (by kernel_rfl) (by kernel_rfl) (by kernel_rfl) (fun _ _ _ h => h) (by rfl) trivial ?_
        simp only [Act.put, List.setIfInBounds_toArray, List.set_cons_zero, List.set_cons_succ]
        refine takeU 12 95 rfl rfl (by kernel_rfl) (by kernel_rfl) (by kernel_rfl) (fun _ _ _ h => h) (by rfl) trivial ?_
        simp only [Act.put, List.setIfInBounds_toArray, List.set_cons_zero, List.set_cons_succ]
        refine takeU 13 96 rfl rfl (by kernel_rfl) (by kernel_rfl) (by kernel_rfl) (fun _ _ _ h => h) (by rfl) trivial ?_
        simp only [Act.put, List.setIfInBounds_toArray, List.set_cons_zero, List.set_cons_succ]
        refine takeU 14 97 rfl rfl (by kernel_rfl) (by kernel_rfl) (by kernel_rfl) (fun _ _ _ h => h) (by rfl) trivial ?_
        simp only [Act.put, List.setIfInBounds_toArray, List.set_cons_zero, List.set_cons_succ]
        refine takeU 15 98 rfl rfl (by kernel_rfl) (by kernel_rfl) (by kernel_rfl) (fun _ _ _ h => h) (by rfl) trivial ?_
        simp only [Act.put, List.setIfInBounds_toArray, List.set_cons_zero, List.set_cons_succ]
        refine takeU 16 99 rfl rfl (by kernel_rfl) (by kernel_rfl) (by kernel_rfl) (fun _ _ _ h => h) (by rfl) trivial ?_
        simp only [Act.put, List.setIfInBounds_toArray, List.set_cons_zero, List.set_cons_succ]
        refine takeU 17 100 rfl rfl (by kernel_rfl) (by kernel_rfl) (by kernel_rfl) (fun _ _ _ h => h) (by rfl) trivial ?_
        simp only [Act.put, List.setIfInBounds_toArray, List.set_cons_zero, List.set_cons_succ]
        refine takeU 18 101 rfl rfl (by kernel_rfl) (by kernel_rfl) (by kernel_rfl) (fun _ _ _ h => h) (by rfl) trivial ?_
        simp only [Act.put, List.setIfInBounds_toArray, List.set_cons_zero, List.set_cons_succ]
        refine takeU 19 102 rfl rfl (by kernel_rfl) (by kernel_rfl) (by kernel_rfl) (fun _ _ _ h => h) (by rfl) trivial ?_
        simp only [Act.put, List.setIfInBounds_toArray, List.set_cons_zero, List.set_cons_succ]
        refine takeU 20 103 rfl rfl (by kernel_rfl) (by kernel_rfl) (by kernel_rfl) (fun _ _ _ h => h) (by rfl) trivial ?_
        simp only [Act.put, List.setIfInBounds_toArray, List.set_cons_zero, List.set_cons_succ]
        refine takeU 21 104 rfl rfl (by kernel_rfl) (by kernel_rfl) (by kernel_rfl) (fun _ _ _ h => h) (by rfl) trivial ?_
        simp only [Act.put, List.setIfInBounds_toArray, List.set_cons_zero, List.set_cons_succ]
        refine takeU 22 105 rfl rfl (by kernel_rfl) (by kernel_rfl) (by kernel_rfl) (fun _ _ _ h => h) (by rfl) trivial ?_
        simp only [Act.put, List.setIfInBounds_toArray, List.set_cons_zero, List.set_cons_succ]
        refine takeH 23 106 (v := (.bool false)) rfl rfl (by kernel_rfl) (by kernel_rfl) (by kernel_rfl) (fun _ _ _ h => h) (by rfl) ?_ trivial ?_
        · intro w hSw
          go_simp
        simp only [Act.put, List.setIfInBounds_toArray, List.set_cons_zero, List.set_cons_succ]
        refine wpAnyH_done (by kernel_rfl) ?_ _
        go_wp2
        go_roundg (nn - (k + 1) + 1)
        case measure => omega
        case rel => exact ⟨k + 1, by go_num, by omega, Lib.hid HB7.out.drew, Nat.le_refl _⟩
    · have hb3r : Below w3.heap.size w3 wr := HL1.out.2.trans (HQ4.out.mono HL1.out.2.size)
      have D4 := HD3.out.1.below hb3r
      have HCL := Lib.hid D4.2.2.clone
      have HD4 := Lib.hid D4
      clear hb3r D4
      go_wp2_with fail
      with_reducible refine HCL.out.mono ?_
      rintro e w5 ⟨cw, own4, rfl, hz5, hI5, hb5⟩
      have D5 := HD4.out.below hb5
      have m0 := (HBOX.out w5 D5.2.1).2.2.1
      have m1 := (HBOX.out w5 D5.2.1).2.2.2
      have HC5 := Lib.hid (D5.crash0 (KA := jA) (kn := jl) (kc := jc) (dir := d2) (zs := jz) rfl HJ.out.2.2 HJ.out.1 (by omega) HJ.out.2.1)
      have HI5 := Lib.hid (And.intro hz5 hI5)
      clear hz5 hI5 hb5 D5 HCL
      go_wp2_with fail
      with_reducible refine HC5.out.mono ?_
      rintro e w6 ⟨⟨v6, rfl⟩, own6, O6, D6⟩
      have hI6 : IsD w6 cw own4 r1 := HI5.out.2.carry O6.1.size (fun _ _ => rfl) (fun i hi hne => O6.2.2 i hi (by
        rcases Nat.lt_or_ge i wr.heap.size with q | q
        · exact absurd (HI5.out.1 i q) hne
        · exact HD4.out.2.2.1 i q)) (fun i hi => HI5.out.2.1 i (by have := O6.1.size; omega))
      have hag := again_same HD4.out.2.2.fct.1 HD4.out.2.2.puts (by rw [← HR1.out]; rfl) (by rw [← HR1.out]; exact crash_sure d1 kz (HD1.out.2.2.sureLe d1)) d2 jz
      have HSA := Lib.hid (D6.2.2.same hI6 hag.1 hag.2)
      have HON := Lib.hid (HB2.out.trans (D6.2.1.mono HB2.out.size))
      clear O6 D6 hI6 hag HC5 m0 m1
      go_wp2_with fail
      with_reducible refine HSA.out.mono ?_
      rintro e w8 ⟨rfl, hb8⟩
      have HON8 := Lib.hid (HON.out.trans (hb8.mono HON.out.size))
      clear hb8 HSA
      go_wp2_with fail
      refine (HLV.out _).mono ?_
      rintro e wF ⟨rfl, hBF⟩
      have hE := HON8.out.trans (hBF.mono HON8.out.size)
      rw [HB0.out] at hE
      have HEND := Lib.hid hE
      clear hBF hE
      go_wp2
      go_ret
      exact ⟨rfl, HEND.out⟩
end
theorem diskBeginnings_walk (A : Option Addr) (n c : Nat) (os : List OpR) (d1 : Int) (kA : Option Addr) (kl kc : Nat) (kz : List Int) (d2 : Int) (jA : Option Addr) (jl jc : Nat) (jz : List Int) (W : World) (h : OpsIn W A n os) (hnc : n ≤ c) (hcm : c ≤ maxLen) (hd1 : (Lit.int .i64 d1).wf = true) (hk : IsRow .i64 W kA kl kc kz) (hd2 : (Lit.int .i64 d2).wf = true) (hj : IsRow .i64 W jA jl jc jz) :
    Calls Try.prog 5 #[.slice A n c, .agg #[.int .i64 d1, .slice kA kl kc], .agg #[.int .i64 d2, .slice jA jl jc]] W fun e w' => e = .returned (.bool true) ∧ Below W.heap.size W w' := by
  by_cases hlong : 300 < kl ∨ 300 < jl
  · exact beg_long A n c os d1 kA kl kc d2 jA jl jc W h hnc hcm hlong
  · obtain ⟨k1, k2⟩ := ZsAt.of_isRow hk
    obtain ⟨j1, j2⟩ := ZsAt.of_isRow hj
    exact beg_main A n c os d1 kA kl kc _ d2 jA jl jc _ W h hnc hcm (bounds_i64 hd1) k1 k2 (bounds_i64 hd2) j1 j2 (by omega) (by omega)
end Go.Proofs.Ytbjlikppboggmaa
