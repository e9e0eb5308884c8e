/-
  The walk of the law DigestTurned: it answers true and writes nothing that was there.
-/
import Derived.Test.YtifljaandphkpaaDoorApp
import Derived.Test.YtifljaandphkpaaDoorTurnB
namespace Go.Proofs.YtifljaandphkpaaDoor
open Go.RowKit
set_option linter.unusedVariables false

theorem own_set {w : World} {B g n c : Nat} {e : TypeId} {xs : List Value} (h : w.ownsRow B e 1 (.slice (some ⟨g, 0, none⟩) n c) n xs) (j : Nat) (v : Value) :
    (w.setCell ⟨g, j, none⟩ v).ownsRow B e 1 (.slice (some ⟨g, 0, none⟩) n c) n (xs.set j v) := by
  refine ⟨by rw [List.length_set]; exact h.1, ?_⟩
  rcases h.2 with ⟨h', _⟩ | ⟨g', cap', cur, h', hb, hg, hnc, hcm, hcs, htake⟩
  · simp at h'
  · simp only [Value.slice.injEq, Option.some.injEq, Addr.mk.injEq, and_true, true_and] at h'
    obtain ⟨rfl, rfl⟩ := h'
    refine .inr ⟨g, c, _, rfl, hb, heap_setCell_same w g j cur e v hg, hnc, hcm, by simpa using hcs, ?_⟩
    rw [Array.toList_setIfInBounds, List.take_set, htake]
theorem own_form {w : World} {B n : Nat} {e : TypeId} {v : Value} {xs : List Value} (h : w.ownsRow B e 1 v n xs) (hn : 0 < n) : ∃ g c, v = .slice (some ⟨g, 0, none⟩) n c ∧ B ≤ g ∧ n ≤ c := by
  rcases h.2 with ⟨_, h0⟩ | ⟨g, cap, cur, rfl, hb, hg, hnc, _⟩
  · omega
  · exact ⟨g, cap, rfl, hb, hnc⟩
theorem own_free {w : World} {B g n c : Nat} {e : TypeId} {xs : List Value} (h : w.ownsRow B e 1 (.slice (some ⟨g, 0, none⟩) n c) n xs) (j : Nat) : w.frozen? ⟨g, j, none⟩ = false := by
  rcases h.2 with ⟨h', _⟩ | ⟨g', cap', cur, h', hb, hg, _⟩
  · simp at h'
  · simp only [Value.slice.injEq, Option.some.injEq, Addr.mk.injEq, and_true, true_and] at h'
    obtain ⟨rfl, rfl⟩ := h'
    exact frozen_of_row w g j cur e hg
theorem own_cellN {w : World} {B g n c : Nat} {l : List Nat} (h : w.ownsRow B 5 1 (.slice (some ⟨g, 0, none⟩) n c) n (cellsZ (asZ l))) (j : Nat) (hj : j < n) : w.cell? ⟨g, j, none⟩ = some (.int .u8 ((l.getD j 0 : Nat) : Int)) := by
  rw [h.cellAt j (by omega)]
  have hl : j < l.length := by
    have := h.1
    rw [cellsZ, List.length_map, asZ_length] at this
    omega
  simp [cellsZ, asZ, hl, List.getD]
theorem cells_set (l : List Nat) (j x : Nat) : cellsZ (asZ (l.set j x)) = (cellsZ (asZ l)).set j (.int .u8 (x : Int)) := by
  unfold cellsZ asZ
  rw [List.map_set, List.map_set]
  rfl

theorem xor_pow (x q : Nat) (hx : x < 256) : bits .xor .u8 (x : Int) (2 ^ (q % 8) % 256) = ((x ^^^ 2 ^ (q % 8) : Nat) : Int) := by
  have h1 : 2 ^ (q % 8) ≤ 2 ^ 7 := Nat.pow_le_pow_right (by decide) (by omega)
  have h := u8_xor_nat x (2 ^ (q % 8)) hx (by omega)
  rw [← h]
  congr 1
  have e : ((2 ^ (q % 8) : Nat) : Int) = (2 : Int) ^ (q % 8) := by simp
  rw [← e]
  exact Int.emod_eq_of_lt (Int.natCast_nonneg _) (show ((2 ^ (q % 8) : Nat) : Int) < ((256 : Nat) : Int) from Int.ofNat_lt.2 (by omega))
theorem pbit_is (p j : Nat) (hp : p < 4294967296) : bits .and .u32 ((p : Int) / 2 ^ j) 1 = ((pbit p j : Nat) : Int) := by
  have h1 : p / 2 ^ j ≤ p := Nat.div_le_self _ _
  have h := u32_and_nat (p / 2 ^ j) 1 (by omega) (by decide)
  rw [nat_mask1] at h
  have e : ((p / 2 ^ j : Nat) : Int) = (p : Int) / 2 ^ j := by simp
  rw [e] at h
  exact h

set_option maxHeartbeats 2000000 in
theorem digestTurned_walk (a0 : Option Addr) (len0 cap0 : Nat) (z0 : List Int) (a1 : Int) (a2 : Int) (W : World) (w0 : IsRow .u8 W a0 len0 cap0 z0) (w1 : (Lit.int .u64 a1).wf = true) (w2 : (Lit.int .u32 a2).wf = true) (hL : laidMetH Tryd.prog Rows.digestTurnedRow.laid W) :
    Calls Tryd.prog 8 #[.slice a0 len0 cap0, .int .u64 a1, .int .u32 a2] W fun e w' => e = .returned (.bool true) ∧ Below W.heap.size W w' := by
  obtain ⟨l0, hH, hc⟩ := Held.of_isRow w0
  obtain ⟨p, hp, rfl⟩ : ∃ s : Nat, s < 4294967296 ∧ a2 = (s : Int) := by
    have := bounds_u32 w2
    exact ⟨a2.toNat, by omega, by omega⟩
  obtain ⟨at_, hat, rfl⟩ : ∃ s : Nat, s < 18446744073709551616 ∧ a1 = (s : Int) := by
    have := bounds_u64 w1
    exact ⟨a1.toNat, by omega, by omega⟩
  have HAT := Lib.hid hat
  have HK := Lib.hid (roots_of_laid hL)
  have hle : len0 ≤ cap0 := hH.2.2
  have HQ := Lib.hid (hH.take (k := min len0 2000) (Nat.min_le_left _ _))
  generalize l0.take (min len0 2000) = l at *
  have hm : min len0 2000 ≤ 2000 := by omega
  have HC := Lib.hid (cut_any a0 len0 cap0 hle hc W)
  clear hH w0 w1 w2 hL hat
  generalize min len0 2000 = m at *
  rcases Nat.eq_zero_or_pos m with h0 | h0
  · subst h0
    go_enter Tryd.func8, Tryd.ntmps8
    go_wp2_with fail
    refine HC.out.mono ?_
    clear HC
    rintro e w' ⟨rfl, rfl⟩
    go_wp2_with fail
    refine (lives_true W HK.out).mono ?_
    rintro e w1 ⟨rfl, hb⟩
    go_wp2
    go_ret
    exact ⟨rfl, hb⟩
  · have hmi : ((m : Int) == 0) = false := by
      rw [beq_eq_false_iff_ne]
      omega
    go_enter Tryd.func8, Tryd.ntmps8
    go_wp2_with fail
    refine HC.out.mono ?_
    clear HC
    rintro e w' ⟨rfl, rfl⟩
    have HO := Lib.hid (own_empty W)
    have HB : Hid (Below W.heap.size W (W.alloc (.cells #[] 5))) := Lib.hid ((Below.refl _ _).alloc (Nat.le_refl _) _)
    have HQ1 := Lib.hid (HQ.out.below HB.out)
    go_wp2_with (first
      | (at_builtin; refine wpList_appendN (.tmp 18) (.tmp 19) rfl rfl W.heap.size (.slice (some ⟨W.heap.size, 0, none⟩) 0 0) 0 [] (by rfl) HO a0 m cap0 l (by rfl) HQ1 (by omega) (by simp) ?_; intro v3 w3 HO3 HB3
         rw [Nat.zero_add, List.nil_append] at HO3
         have HB4 := Lib.hid (HB.out.trans HB3.out)
         obtain ⟨g, c3, rfl, hbg, hmc⟩ := own_form HO3.out h0
         clear HO HB HQ1 HB3))
    obtain ⟨s, hsd⟩ : ∃ s : Nat, s = at_ % (8 * m) := ⟨_, rfl⟩
    have hs : s < 8 * m := by rw [hsd]; exact Nat.mod_lt _ (by omega)
    have hmod : (at_ : Int) % (8 * (m : Int)) = (s : Int) := by rw [hsd]; simp
    clear hsd
    have HS0 : Hid (w3.ownsRow W.heap.size 5 1 (.slice (some ⟨g, 0, none⟩) m c3) m (cellsZ (asZ (turnL l s p 0)))) := HO3
    clear HO3
    go_loopw [9, 10] (fun v i wr => ∃ j : Nat, j ≤ 32 ∧ s + j ≤ 8 * m ∧ i = .int .u64 j ∧ v = .bool (turned p j) ∧ Hid (wr.ownsRow W.heap.size 5 1 (.slice (some ⟨g, 0, none⟩) m c3) m (cellsZ (asZ (turnL l s p j)))) ∧ Hid (Below W.heap.size W wr)) (fun _ i _ => 32 - (intOf i).toNat)
    case atStart => exact ⟨0, by omega, by omega, rfl, rfl, HS0, HB4⟩
    case round =>
      obtain ⟨j, hj, hsj, rfl, rfl, HO4, hbr⟩ := hrel
      clear HS0 HB4
      by_cases hgo : j < 32 ∧ s + j < 8 * m
      · obtain ⟨hj32, hlt⟩ := hgo
        have hj32' : (j : Int) < 32 := by omega
        have hlt' : (s : Int) + (j : Int) < 8 * (m : Int) := by omega
        have hc := own_cellN HO4.out ((s + j) / 8) (by omega)
        have hf := own_free HO4.out ((s + j) / 8)
        have hx : (turnL l s p j).getD ((s + j) / 8) 0 < 256 := getD_lt (by decide) (turnL_lt l s p HQ.out.1.lt j) _
        have HN := Lib.hid (own_set HO4.out ((s + j) / 8) (.int .u8 (((turnL l s p j).getD ((s + j) / 8) 0 ^^^ 2 ^ ((s + j) % 8) : Nat) : Int)))
        rw [← cells_set] at HN
        have HT : Hid (turnL l s p (j + 1) = if pbit p j = 1 then turnB (turnL l s p j) (s + j) else turnL l s p j) := Lib.hid rfl
        have HU : Hid (turned p (j + 1) = if pbit p j = 1 then true else turned p j) := Lib.hid rfl
        have HW : Hid ((turnL l s p j).set ((s + j) / 8) ((turnL l s p j).getD ((s + j) / 8) 0 ^^^ 2 ^ ((s + j) % 8)) = turnB (turnL l s p j) (s + j)) := Lib.hid rfl
        generalize (turnL l s p j).getD ((s + j) / 8) 0 = x at *
        have hxr := xor_pow x (s + j) hx
        generalize hnx : x ^^^ 2 ^ ((s + j) % 8) = nx at *
        have hpb := pbit_is p j hp
        by_cases hb : pbit p j = 1
        · rw [hb] at hpb
          have hpb' : bits .and .u32 ((p : Int) / 2 ^ j) 1 = 1 := hpb
          have HB1 := Lib.hid hb
          clear hpb hb hnx
          go_wp2
          go_roundw
          case rel =>
            refine ⟨j + 1, by omega, by omega, by go_num, by rw [HU.out, if_pos HB1.out], ?_, Lib.hid (hbr.out.setCell hbg _)⟩
            rw [HT.out, if_pos HB1.out, ← HW.out]
            exact HN
          case measure => simp [intOf]; omega
        · have h01 : pbit p j = 0 := by
            have : pbit p j < 2 := Nat.mod_lt _ (by decide)
            omega
          rw [h01] at hpb
          have hpb' : bits .and .u32 ((p : Int) / 2 ^ j) 1 = 0 := hpb
          have HB1 := Lib.hid hb
          clear hpb hb h01 hnx hc hf
          go_wp2
          go_roundw
          case rel =>
            refine ⟨j + 1, by omega, by omega, by go_num, by rw [HU.out, if_neg HB1.out], ?_, hbr⟩
            rw [HT.out, if_neg HB1.out]
            exact HO4
          case measure => simp [intOf]; omega
      · have hR := RowN.of_own HO4.out (turnL_lt l s p HQ.out.1.lt j) (by rw [turnL_length]; exact HQ.out.1.length)
        have HR := Lib.hid hR
        have HQ4 := Lib.hid (HQ.out.below hbr.out)
        have HK4 := Lib.hid (HK.out.below hbr.out)
        clear hR HO4 HQ HK
        have HD : Hid ((turned p j = true → crcMore 0 (turnL l s p j) ≠ crcMore 0 l) ∧ (turned p j = false → turnL l s p j = l)) :=
          Lib.hid ⟨crc_turned l s p j hj (by rw [HQ4.out.1.length]; exact hsj), turned_no l s p j⟩
        have hno : ¬ (j : Int) < 32 ∨ ((j : Int) < 32 ∧ ¬ (s : Int) + (j : Int) < 8 * (m : Int)) := by omega
        clear hgo
        generalize turnL l s p j = l4 at *
        rcases hno with h | ⟨h, h'⟩
        all_goals
          go_wp2_with fail
          refine (crc_any (some ⟨g, 0, none⟩) m c3 l4 (by omega) wr HR.out).mono ?_
          rintro e w' ⟨rfl, rfl⟩
          go_wp2_with fail
          refine (crc_any a0 m cap0 l (by omega) wr HQ4.out.1).mono ?_
          rintro e w' ⟨rfl, rfl⟩
          generalize hx4 : crcMore 0 l4 = x4 at *
          generalize hxl : crcMore 0 l = xl at *
          have HX4 := Lib.hid hx4
          have HXL := Lib.hid hxl
          clear hx4 hxl
          cases ht : turned p j with
          | true =>
            have hne : ((x4 : Int) == (xl : Int)) = false := by
              rw [beq_eq_false_iff_ne]
              intro e
              exact HD.out.1 ht (Int.ofNat.inj e)
            clear ht
            go_wp2_with fail
            refine (lives_true wr HK4.out).mono ?_
            rintro e w1 ⟨rfl, hb⟩
            go_wp2
            go_ret
            exact ⟨rfl, hbr.out.trans (hb.mono hbr.out.size)⟩
          | false =>
            have heq : x4 = xl := by
              rw [← HX4.out, ← HXL.out, HD.out.2 ht]
            subst heq
            clear ht
            go_wp2_with fail
            refine (lives_true wr HK4.out).mono ?_
            rintro e w1 ⟨rfl, hb⟩
            go_wp2
            go_ret
            exact ⟨rfl, hbr.out.trans (hb.mono hbr.out.size)⟩
end Go.Proofs.YtifljaandphkpaaDoor
