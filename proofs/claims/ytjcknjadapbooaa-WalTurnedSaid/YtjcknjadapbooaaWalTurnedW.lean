/-
  The walk of the law WalTurned: it answers true and writes nothing that was there.
-/
import Derived.Test.YtjcknjadapbooaaWk
namespace Go.Proofs.Ytjcknjadapbooaa
open Go.RowKit Go.Shelf
set_option linter.unusedVariables false
set_option maxRecDepth 100000

theorem cells_set (l : List Nat) (j x : Nat) : cellsZ (asZ (l.set j x)) = (cellsZ (asZ l)).set j (.int .u8 (x : Int)) := by
  unfold cellsZ asZ
  rw [List.map_set, List.map_set]
  rfl
theorem bytesN_set {l : List Nat} (h : bytesN l) (j x : Nat) (hx : x < 256) : bytesN (l.set j x) := fun y hy => by
  rcases List.mem_or_eq_of_mem_set hy with h1 | h1
  · exact h y h1
  · rw [h1]; exact hx
theorem BLine.set {w : World} {g off n c : Nat} {l : List Nat} (h : BLine w (some ⟨g, off, none⟩) n c l) (j x : Nat) (hj : j < n) (hx : x < 256) : BLine (w.setCell ⟨g, off + j, none⟩ (.int .u8 (x : Int))) (some ⟨g, off, none⟩) n c (l.set j x) := by
  refine ⟨bytesN_set h.1 j x hx, ?_⟩
  have := h.2.set j [.int .u8 (x : Int)] (by simp; omega)
  rw [setCells_one] at this
  have hl : (cellsZ (asZ l)).length = n := by have := h.2.1; omega
  rw [cells_set, List.set_eq_take_append_cons_drop, if_pos (by omega)]
  simpa using this
theorem BLine.cell {w : World} {g off n c : Nat} {l : List Nat} (h : BLine w (some ⟨g, off, none⟩) n c l) (j : Nat) (hj : j < n) : w.cell? ⟨g, off + j, none⟩ = some (.int .u8 ((l.getD j 0 : Nat) : Int)) ∧ w.frozen? ⟨g, off + j, none⟩ = false := by
  obtain ⟨_, _, e, _, hc⟩ := h.row.cells (by omega)
  cases e
  refine ⟨hc j hj, ?_⟩
  obtain ⟨_, _, e, _, _, hf⟩ := h.2.2.2.2.2 _ rfl
  cases e
  exact (hf j (by have := h.2.2.1; omega)).2
theorem set_mid (P Q T : List Nat) (i x : Nat) (hi : i < Q.length) : (P ++ Q ++ T).set (P.length + i) x = P ++ Q.set i x ++ T := by
  rw [List.append_assoc, List.set_append_right _ _ (by omega), Nat.add_sub_cancel_left, List.set_append_left _ _ hi, List.append_assoc]
theorem getD_mid (P Q T : List Nat) (i : Nat) (hi : i < Q.length) : (P ++ Q ++ T).getD (P.length + i) 0 = Q.getD i 0 := by
  rw [List.append_assoc]
  simp [List.getD, List.getElem?_append_right, List.getElem?_append_left hi]
theorem xor_pow (x q : Nat) (hx : x < 256) : bits .xor .u8 (x : Int) (2 ^ (q % 8) % 256) = ((x ^^^ 2 ^ (q % 8) : Nat) : Int) := by
  have h1 : 2 ^ (q % 8) ≤ 2 ^ 7 := Nat.pow_le_pow_right (by decide) (by omega)
  have h := u8_xor_nat x (2 ^ (q % 8)) hx (by omega)
  rw [← h]
  congr 1
  have e : ((2 ^ (q % 8) : Nat) : Int) = (2 : Int) ^ (q % 8) := by simp
  rw [← e]
  exact Int.emod_eq_of_lt (Int.natCast_nonneg _) (show ((2 ^ (q % 8) : Nat) : Int) < ((256 : Nat) : Int) from Int.ofNat_lt.2 (by omega))
theorem pbit_is (p j : Nat) (hp : p < 4294967296) : bits .and .u32 ((p : Int) / 2 ^ j) 1 = ((pbit p j : Nat) : Int) := by
  have h1 : p / 2 ^ j ≤ p := Nat.div_le_self _ _
  have h := u32_and_nat (p / 2 ^ j) 1 (by omega) (by decide)
  rw [nat_mask1] at h
  have e : ((p / 2 ^ j : Nat) : Int) = (p : Int) / 2 ^ j := by simp
  rw [e] at h
  exact h
theorem allN_split {rs : List (List Nat)} {k : Nat} {r : List Nat} (h : rs[k]? = some r) : allN rs = allN (rs.take k) ++ frameN r ++ allN (rs.drop (k + 1)) := by
  obtain ⟨hk, he⟩ := List.getElem?_eq_some_iff.1 h
  conv => lhs; rw [← List.take_append_drop k rs, List.drop_eq_getElem_cons hk, he]
  rw [allN_append, List.append_assoc]
  rfl
set_option maxHeartbeats 6400000 in
theorem walTurned_walk (a0 : Option Addr) (len0 cap0 : Nat) (x y : Int) (a2 : Int) (W : World) (w0 : RowsIn W a0 len0 cap0) (hx : (Lit.int .u64 x).wf = true) (hy : (Lit.int .u64 y).wf = true) (w2 : (Lit.int .u32 a2).wf = true) :
    Calls Try.prog 5 #[.slice a0 len0 cap0, .agg #[.int .u64 x, .int .u64 y], .int .u32 a2] W fun e w' => e = .returned (.bool true) ∧ Below W.heap.size W w' := by
  obtain ⟨p, hp, rfl⟩ : ∃ s : Nat, s < 4294967296 ∧ a2 = (s : Int) := by
    have := bounds_u32 w2
    exact ⟨a2.toNat, by omega, by omega⟩
  obtain ⟨at_, hat, rfl⟩ : ∃ s : Nat, s < 18446744073709551616 ∧ y = (s : Int) := by
    have := bounds_u64 hy
    exact ⟨y.toNat, by omega, by omega⟩
  obtain ⟨wh, hwh, rfl⟩ : ∃ s : Nat, s < 18446744073709551616 ∧ x = (s : Int) := by
    have := bounds_u64 hx
    exact ⟨x.toNat, by omega, by omega⟩
  obtain ⟨W1, hW1⟩ : ∃ W1, W.alloc (.cells #[.int .u64 (wh : Int), .int .u64 (at_ : Int)] 37) = W1 := ⟨_, rfl⟩
  have hb1 : Below W.heap.size W W1 := by rw [← hW1]; exact (Below.refl _ W).alloc (Nat.le_refl _) _
  have k0 : W1.heap[W.heap.size]? = some (.cells #[.int .u64 (wh : Int), .int .u64 (at_ : Int)] 37 (0, 0)) := by rw [← hW1]; exact heap_alloc_new W _
  have y0 : W1.cell? ⟨W.heap.size, 0, none⟩ = some (.int .u64 (wh : Int)) := by rw [cell_of_row W1 _ 0 _ _ (0, 0) k0]; rfl
  have y1 : W1.cell? ⟨W.heap.size, 1, none⟩ = some (.int .u64 (at_ : Int)) := by rw [cell_of_row W1 _ 1 _ _ (0, 0) k0]; rfl
  have hb1d : Below W.heap.size W W1.drew := hb1.drew
  have HCUT := Lib.hid (cut_any W1.drew a0 len0 cap0 (w0.below hb1d))
  have HB1 := Lib.hid hb1d
  have HP := Lib.hid (And.intro hp (And.intro hat hwh))
  clear w0 hx hy w2 hb1 hb1d k0 hp hat hwh
  go_enter Try.func5, Try.ntmps5
  go_wp2_with fail
  go_region
  clear y0 y1 hW1
  go_wp2_with fail
  refine HCUT.out.mono ?_
  rintro e w1 ⟨R, c, rs, rfl, hrec, hsm, hrc, hcc, hb⟩
  have hn30 : rs.length ≤ 30 := hsm.1
  obtain ⟨n, hn⟩ : ∃ n, rs.length = n := ⟨_, rfl⟩
  rw [hn] at hrec hrc hn30 ⊢
  have HX := Lib.hid (And.intro hrec (And.intro hsm (And.intro (HB1.out.trans (hb.mono HB1.out.size)) hn)))
  clear HCUT hrec hsm hb hn HB1
  rcases Nat.eq_zero_or_pos n with hn0 | hn0
  · subst hn0
    go_wp2_with fail
    refine (lives_true w1).mono ?_
    rintro e w2 ⟨rfl, hb⟩
    have HF : Hid (Below W.heap.size W w2) := Lib.hid (HX.out.2.2.1.trans (hb.mono HX.out.2.2.1.size))
    clear hb
    go_wp2
    go_ret
    exact ⟨rfl, HF.out⟩
  have hnb : ((n : Int) == 0) = false := by simp; omega
  by_cases hp0 : p = 0
  · subst hp0
    go_wp2_with fail
    refine (lives_true w1).mono ?_
    rintro e w2 ⟨rfl, hb⟩
    have HF : Hid (Below W.heap.size W w2) := Lib.hid (HX.out.2.2.1.trans (hb.mono HX.out.2.2.1.size))
    clear hb
    go_wp2
    go_ret
    exact ⟨rfl, HF.out⟩
  have hpb : ((p : Int) == 0) = false := by simp; omega
  have hn1 : (0 : Int) < (n : Int) := by omega
  have hne : ¬ (n : Int) = 0 := by omega
  obtain ⟨kk, hkk⟩ : ∃ kk : Nat, (wh : Int) % (n : Int) = (kk : Int) := ⟨wh % n, by simp⟩
  have hkn : kk < n := by have := Int.emod_lt_of_pos (wh : Int) hn1; omega
  have ek : wrap64 ((wh : Int) % (n : Int)) = (kk : Int) := by rw [hkk]; unfold wrap64; omega
  have hkn' : (kk : Int) < (n : Int) := by omega
  have hkc : (kk : Int) ≤ (c : Int) := by omega
  have hk0 : (0 : Int) ≤ (kk : Int) := by omega
  have hsk : SmallRs (rs.take kk) := ⟨by rw [List.length_take]; omega, fun r hr => HX.out.2.1.2 r (List.mem_of_mem_take hr)⟩
  have HA1 := Lib.hid (refall_any w1 R kk c (rs.take kk) (HX.out.1.take (by omega)) hsk)
  have HSK := Lib.hid hsk
  clear hkk hp0 hsk
  go_wp2_with fail
  refine HA1.out.mono ?_
  rintro e w2 ⟨⟨A2, c2, rfl, _, _⟩, hb2⟩
  obtain ⟨ah, hah⟩ : ∃ ah, (allN (rs.take kk)).length = ah := ⟨_, rfl⟩
  have HAH := Lib.hid hah
  have hbe : Below w2.heap.size w2 (w2.alloc (.cells #[] 5)) := (Below.refl _ w2).alloc (Nat.le_refl _) _
  have hb12 : Below w1.heap.size w1 (w2.alloc (.cells #[] 5)) := hb2.trans (hbe.mono hb2.size)
  have HA2 := Lib.hid (refall_any _ R n c rs (HX.out.1.below hb12) HX.out.2.1)
  rw [hah]
  clear HA1 hah
  go_wp2_with fail
  refine HA2.out.mono ?_
  rintro e w3 ⟨⟨A3, c3, rfl, hl3, hf3⟩, hb3⟩
  have hemp : BLine (w2.alloc (.cells #[] 5)) (some ⟨w2.heap.size, 0, none⟩) 0 0 [] := ⟨bytesN_nil, own_emptyB w2⟩
  have hLB := HX.out.2.1.bytes
  obtain ⟨A4, c4, w4, hr4, hl4, hc4, hf4, hne4⟩ := bytes_push w3 _ 0 0 [] (hemp.below hb3) (by omega) A3 (allN rs).length c3 (allN rs) hl3.row (by omega) (fun e => by cases e)
  have hb23 : Below w2.heap.size w2 w3 := hbe.trans (hb3.mono hbe.size)
  have hb24 : Below w2.heap.size w2 w4 := hb23.trans (hc4.toBelow (fun k hk => by obtain ⟨ad, ea, hb⟩ := mem_blk.1 hk; cases ea; rw [← hb]; exact Nat.le_refl _) hb23.size)
  have hge4 : ∀ k ∈ blk A4, w2.heap.size ≤ k := fun k hk => by
    rcases hf4 k hk with h | h
    · obtain ⟨ad, ea, hb⟩ := mem_blk.1 h; cases ea; rw [← hb]; exact Nat.le_refl _
    · have := hb23.size; omega
  rw [List.nil_append, Nat.zero_add] at hl4
  rw [Nat.zero_add] at hr4
  have HR4 := Lib.hid hr4
  have hb14 : Below w1.heap.size w1 w4 := hb2.trans (hb24.mono hb2.size)
  obtain ⟨L, hL⟩ : ∃ L, (allN rs).length = L := ⟨_, rfl⟩
  have HL := Lib.hid hL
  rw [hL] at hl4 HR4 hLB ⊢
  obtain ⟨ad, rfl⟩ : ∃ ad, A4 = some ad := by cases A4 with | none => exact absurd rfl hne4 | some ad => exact ⟨ad, rfl⟩
  obtain ⟨g, off, e4, _, _, _⟩ := hl4.2.2.2.2.2 _ rfl
  subst e4
  have hgw : w2.heap.size ≤ g := hge4 g (mem_blk.2 ⟨_, rfl, rfl⟩)
  obtain ⟨gR, oR, r, A1, d1, rfl, _, hr, hcell, _, _⟩ := (HX.out.1.below hb14).at hkn
  have hr300 := (HX.out.2.1.2 r (List.mem_of_getElem? hr)).1
  have hrby := (HX.out.2.1.2 r (List.mem_of_getElem? hr)).2
  obtain ⟨rl, hrl⟩ : ∃ rl, r.length = rl := ⟨_, rfl⟩
  have HRR := Lib.hid (And.intro hr (And.intro hrby hrl))
  have HX4 := Lib.hid (And.intro hl4 (And.intro hb14 (And.intro hgw hb2.size)))
  rw [hrl] at hcell hr300
  clear HA2 hl3 hf3 hb3 hemp hr4 hc4 hf4 hne4 hb23 hb24 hge4 hb14 hL hl4 hb2 hbe hb12 hr hrby hrl hgw
  go_wp2_with (at_builtin; refine Lib.wpList_append_run _ rfl _ _ _ _ rfl _ _ rfl rfl _ _ HR4.out ?_)
  clear HR4
  obtain ⟨s, hs, hmod⟩ : ∃ s : Nat, s < 8 * (rl + 4) ∧ (at_ : Int) % (8 * ((rl : Int) + 4)) = (s : Int) := ⟨at_ % (8 * (rl + 4)), Nat.mod_lt _ (by omega), by simp⟩
  obtain ⟨P, hP⟩ : ∃ P, allN (rs.take kk) = P := ⟨_, rfl⟩
  obtain ⟨F, hF⟩ : ∃ F, frameN r = F := ⟨_, rfl⟩
  obtain ⟨T, hT⟩ : ∃ T, allN (rs.drop (kk + 1)) = T := ⟨_, rfl⟩
  have hsp : allN rs = P ++ F ++ T := by rw [allN_split HRR.out.1, hP, hF, hT]
  have hPl : P.length = ah := by rw [← hP]; exact HAH.out
  have hFl : F.length = rl + 8 := by rw [← hF, frameN_length, HRR.out.2.2]
  have hFb : bytesN F := by rw [← hF]; exact frameN_lt HRR.out.2.1
  have hLl : L = ah + (rl + 8) + T.length := by rw [← HL.out, hsp, List.length_append, List.length_append, hPl, hFl]
  have HS := Lib.hid (And.intro hsp (And.intro hPl (And.intro hFl (And.intro hFb (And.intro hP (And.intro hF hT))))))
  have HB0 : Hid (BLine w4 (some ⟨g, off, none⟩) L c4 (P ++ turnL F (32 + s) p 0 ++ T)) := Lib.hid (by have := HX4.out.1; rw [hsp] at this; exact this)
  have hrlI : (rl : Int) ≤ 300 := by omega
  have hsI : (s : Int) < 8 * ((rl : Int) + 4) := by omega
  clear hsp hPl hFl hFb hP hF hT
  go_loopw [13, 14] (fun v i wr => ∃ j : Nat, j ≤ 32 ∧ s + j ≤ 8 * (rl + 4) ∧ i = .int .u64 j ∧ v = .bool (turned p j) ∧ Hid (BLine wr (some ⟨g, off, none⟩) L c4 (P ++ turnL F (32 + s) p j ++ T)) ∧ Hid (Below w2.heap.size w4 wr)) (fun _ i _ => 32 - (intOf i).toNat)
  case atStart => exact ⟨0, by omega, by omega, rfl, rfl, HB0, Lib.hid (Below.refl _ _)⟩
  case round =>
    obtain ⟨j, hj, hsj, rfl, rfl, HO, hbr⟩ := hrel
    clear HB0
    by_cases hgo : j < 32 ∧ s + j < 8 * (rl + 4)
    · obtain ⟨hj32, hlt⟩ := hgo
      have hj32' : (j : Int) < 32 := by omega
      have hlt' : (s : Int) + (j : Int) < 8 * ((rl : Int) + 4) := by omega
      have hpb := pbit_is p j HP.out.1
      obtain ⟨hsp, hPl, hFl, hFb, hP, hF, hT⟩ := HS.out
      have hql : (turnL F (32 + s) p j).length = rl + 8 := by rw [turnL_length, hFl]
      have hi : 4 + (s + j) / 8 < rl + 8 := by omega
      have hiL : ah + 4 + (s + j) / 8 < L := by omega
      have hidx : (ah : Int) + 4 + ((s : Int) + (j : Int)) / 8 < (L : Int) := by omega
      obtain ⟨q0, qf⟩ := HO.out.cell (ah + 4 + (s + j) / 8) hiL
      have hget : (P ++ turnL F (32 + s) p j ++ T).getD (ah + 4 + (s + j) / 8) 0 = (turnL F (32 + s) p j).getD (4 + (s + j) / 8) 0 := by
        rw [show ah + 4 + (s + j) / 8 = P.length + (4 + (s + j) / 8) from by omega]
        exact getD_mid P _ T _ (by omega)
      rw [hget] at q0
      have hx : (turnL F (32 + s) p j).getD (4 + (s + j) / 8) 0 < 256 := getD_lt (by decide) (turnL_lt F (32 + s) p hFb j) _
      have hTB : turnB (turnL F (32 + s) p j) (32 + s + j) = (turnL F (32 + s) p j).set (4 + (s + j) / 8) ((turnL F (32 + s) p j).getD (4 + (s + j) / 8) 0 ^^^ 2 ^ ((s + j) % 8)) := by
        unfold turnB
        rw [show (32 + s + j) / 8 = 4 + (s + j) / 8 from by omega, show (32 + s + j) % 8 = (s + j) % 8 from by omega]
      have hTL : turnL F (32 + s) p (j + 1) = if pbit p j = 1 then turnB (turnL F (32 + s) p j) (32 + s + j) else turnL F (32 + s) p j := rfl
      have HU : Hid (turned p (j + 1) = if pbit p j = 1 then true else turned p j) := Lib.hid rfl
      have hnx256 : (turnL F (32 + s) p j).getD (4 + (s + j) / 8) 0 ^^^ 2 ^ ((s + j) % 8) < 256 := turn_byte_lt _ _ hx
      have HN : Hid (pbit p j = 1 → BLine (wr.setCell ⟨g, off + (ah + 4 + (s + j) / 8), none⟩ (.int .u8 (((turnL F (32 + s) p j).getD (4 + (s + j) / 8) 0 ^^^ 2 ^ ((s + j) % 8) : Nat) : Int))) (some ⟨g, off, none⟩) L c4 (P ++ turnL F (32 + s) p (j + 1) ++ T)) := Lib.hid (fun hb => by
        have h1 := HO.out.set (ah + 4 + (s + j) / 8) _ hiL hnx256
        rw [hTL, if_pos hb, hTB]
        rw [show (P ++ turnL F (32 + s) p j ++ T).set (ah + 4 + (s + j) / 8) ((turnL F (32 + s) p j).getD (4 + (s + j) / 8) 0 ^^^ 2 ^ ((s + j) % 8)) = P ++ (turnL F (32 + s) p j).set (4 + (s + j) / 8) ((turnL F (32 + s) p j).getD (4 + (s + j) / 8) 0 ^^^ 2 ^ ((s + j) % 8)) ++ T from by
          rw [show ah + 4 + (s + j) / 8 = P.length + (4 + (s + j) / 8) from by omega]
          exact set_mid P _ T _ _ (by omega)] at h1
        exact h1)
      have HNO : Hid (¬ pbit p j = 1 → BLine wr (some ⟨g, off, none⟩) L c4 (P ++ turnL F (32 + s) p (j + 1) ++ T)) := Lib.hid (fun hb => by rw [hTL, if_neg hb]; exact HO.out)
      clear hsp hPl hFl hFb hP hF hT hql hget hTB hTL hnx256
      generalize (turnL F (32 + s) p j).getD (4 + (s + j) / 8) 0 = x at *
      have hxr := xor_pow x (s + j) hx
      generalize hnx : x ^^^ 2 ^ ((s + j) % 8) = nx at *
      by_cases hb : pbit p j = 1
      · rw [hb] at hpb
        have hpb' : bits .and .u32 ((p : Int) / 2 ^ j) 1 = 1 := hpb
        have HB1 := Lib.hid hb
        clear hpb hb hnx
        go_wp2
        go_roundw
        case rel =>
          refine ⟨j + 1, by omega, by omega, by go_num, by rw [HU.out, if_pos HB1.out], Lib.hid (HN.out HB1.out), Lib.hid (hbr.out.setCell HX4.out.2.2.1 _)⟩
        case measure => simp [intOf]; omega
      · have h01 : pbit p j = 0 := by
          have : pbit p j < 2 := Nat.mod_lt _ (by decide)
          omega
        rw [h01] at hpb
        have hpb' : bits .and .u32 ((p : Int) / 2 ^ j) 1 = 0 := hpb
        have HB1 := Lib.hid hb
        clear hpb hb h01 hnx q0 qf
        go_wp2
        go_roundw
        case rel => refine ⟨j + 1, by omega, by omega, by go_num, by rw [HU.out, if_neg HB1.out], Lib.hid (HNO.out HB1.out), hbr⟩
        case measure => simp [intOf]; omega
    · have hno : ¬ (j : Int) < 32 ∨ ((j : Int) < 32 ∧ ¬ (s : Int) + (j : Int) < 8 * ((rl : Int) + 4)) := by omega
      obtain ⟨hsp, hPl, hFl, hFb, hP, hF, hT⟩ := HS.out
      have hcm : c4 ≤ 9223372036854775807 := by have := HO.out.2.2.2.1; unfold maxLen at this; omega
      have HPA := Lib.hid (parse_any wr (some ⟨g, off, none⟩) L c4 _ (by omega) HO.out.2.2.1 hcm HO.out.row)
      have hTb : bytesN T := by
        rw [← hT]
        exact allN_lt (fun r hr => (HX.out.2.1.2 r (List.mem_of_mem_drop hr)).2)
      have hparse : (turned p j = true → parseN (P ++ turnL F (32 + s) p j ++ T) = rs.take kk) ∧ (turned p j = false → parseN (P ++ turnL F (32 + s) p j ++ T) = rs) := by
        refine ⟨fun ht => ?_, fun ht => ?_⟩
        · rw [List.append_assoc, ← hP, parse_all _ HSK.out.short, ← hF, parse_none (first_turned r T HRR.out.2.1 hTb (by rw [HRR.out.2.2]; omega) s p j hj (by rw [HRR.out.2.2]; omega) ht), List.append_nil]
        · rw [turned_no F (32 + s) p j ht, ← hsp]
          have := parse_all rs HX.out.2.1.short []
          rw [List.append_nil, parse_small (t := []) (by decide), List.append_nil] at this
          exact this
      have hb1r : Below w1.heap.size w1 wr := HX4.out.2.1.trans (hbr.out.mono HX4.out.2.2.2)
      have HBW : Hid (Below W.heap.size W wr) := Lib.hid (HX.out.2.2.1.trans (hb1r.mono HX.out.2.2.1.size))
      have HREC := Lib.hid (HX.out.1.below hb1r)
      have HAL := HAH.out
      obtain ⟨X, hX⟩ : ∃ X, P ++ turnL F (32 + s) p j ++ T = X := ⟨_, rfl⟩
      rw [hX] at HPA hparse
      have HPS := Lib.hid hparse
      clear hsp hPl hFl hFb hP hF hT hgo hcm hTb HO hb1r hX hparse hLl
      cases ht : turned p j with
      | true =>
        have hys := HPS.out.1 ht
        rw [hys, HAL] at HPA
        have hkl : (rs.take kk).length = kk := by rw [List.length_take, HX.out.2.2.2]; omega
        rw [hkl] at HPA
        clear ht hys hkl
        rcases hno with h | ⟨h, h'⟩
        all_goals
          go_wp2_with fail
          with_reducible refine HPA.out.mono ?_
          rintro e w5 ⟨R5, c5, vs5, rfl, hl5, hr5, _, hb5⟩
          have hrec5 : Recs w5 R5 kk (rs.take kk) := recs_of hl5 hr5
          have HS5 := Lib.hid (same_any w5 R5 kk c5 (rs.take kk) (some ⟨gR, oR, none⟩) kk c (rs.take kk) hrec5 ((HREC.out.below hb5).take (by omega)) (by omega) (by omega))
          rw [decide_eq_true rfl] at HS5
          have HB5 := Lib.hid hb5
          clear hl5 hr5 hb5 hrec5
          go_wp2_with fail
          with_reducible refine HS5.out.mono ?_
          rintro e w6 ⟨rfl, hb6⟩
          have HB6 := Lib.hid (HB5.out.trans (hb6.mono HB5.out.size))
          clear hb6
          go_wp2_with fail
          with_reducible refine (lives_true w6).mono ?_
          rintro e w7 ⟨rfl, hb7⟩
          have HF : Hid (Below W.heap.size W w7) := Lib.hid (HBW.out.trans ((HB6.out.trans (hb7.mono HB6.out.size)).mono HBW.out.size))
          clear hb7
          go_wp2
          go_ret
          exact ⟨rfl, HF.out⟩
      | false =>
        have hys := HPS.out.2 ht
        rw [hys, HX.out.2.2.2] at HPA
        clear ht hys
        rcases hno with h | ⟨h, h'⟩
        all_goals
          go_wp2_with fail
          with_reducible refine HPA.out.mono ?_
          rintro e w5 ⟨R5, c5, vs5, rfl, hl5, hr5, _, hb5⟩
          have hrec5 : Recs w5 R5 n rs := recs_of (n := n) hl5 hr5
          have HS5 := Lib.hid (same_any w5 R5 n c5 rs (some ⟨gR, oR, none⟩) n c rs hrec5 (HREC.out.below hb5) (by omega) (by omega))
          rw [decide_eq_true rfl] at HS5
          have HB5 := Lib.hid hb5
          clear hl5 hr5 hb5 hrec5
          go_wp2_with fail
          with_reducible refine HS5.out.mono ?_
          rintro e w6 ⟨rfl, hb6⟩
          have HB6 := Lib.hid (HB5.out.trans (hb6.mono HB5.out.size))
          clear hb6
          go_wp2_with fail
          with_reducible refine (lives_true w6).mono ?_
          rintro e w7 ⟨rfl, hb7⟩
          have HF : Hid (Below W.heap.size W w7) := Lib.hid (HBW.out.trans ((HB6.out.trans (hb7.mono HB6.out.size)).mono HBW.out.size))
          clear hb7
          go_wp2
          go_ret
          exact ⟨rfl, HF.out⟩
end Go.Proofs.Ytjcknjadapbooaa
