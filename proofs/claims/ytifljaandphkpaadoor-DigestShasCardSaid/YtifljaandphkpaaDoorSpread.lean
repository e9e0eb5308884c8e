/-
  The contract of digest.spread: a block's sixteen words, and those that they make.
-/
import Derived.Test.YtifljaandphkpaaDoorDn
import Derived.Test.YtifljaandphkpaaDoorCrc
import Derived.Test.YtifljaandphkpaaDoorArr
import Derived.RegionTactic
import Derived.ChangeAlike
namespace Go.Proofs.YtifljaandphkpaaDoor
open Go.RowKit
set_option linter.unusedVariables false

theorem zeros56 : (#[.int .u32 0, .int .u32 0, .int .u32 0, .int .u32 0, .int .u32 0, .int .u32 0, .int .u32 0, .int .u32 0, .int .u32 0, .int .u32 0, .int .u32 0, .int .u32 0, .int .u32 0, .int .u32 0, .int .u32 0, .int .u32 0,
   .int .u32 0, .int .u32 0, .int .u32 0, .int .u32 0, .int .u32 0, .int .u32 0, .int .u32 0, .int .u32 0, .int .u32 0, .int .u32 0, .int .u32 0, .int .u32 0, .int .u32 0, .int .u32 0, .int .u32 0, .int .u32 0,
   .int .u32 0, .int .u32 0, .int .u32 0, .int .u32 0, .int .u32 0, .int .u32 0, .int .u32 0, .int .u32 0, .int .u32 0, .int .u32 0, .int .u32 0, .int .u32 0, .int .u32 0, .int .u32 0, .int .u32 0, .int .u32 0,
   .int .u32 0, .int .u32 0, .int .u32 0, .int .u32 0, .int .u32 0, .int .u32 0, .int .u32 0, .int .u32 0, .int .u32 0, .int .u32 0, .int .u32 0, .int .u32 0, .int .u32 0, .int .u32 0, .int .u32 0, .int .u32 0] : Array Value) = (cellsK .u32 (List.replicate 64 0)).toArray := by kernel_rfl

theorem row_alloc2a (w : World) (a b : List Nat) (k k' : IntKind) (T T' : TypeId) : Row ((w.alloc (.cells (cellsK k a).toArray T)).alloc (.cells (cellsK k' b).toArray T')) w.heap.size k T a :=
  (Row.new w k T a).alloc _
theorem row_alloc2b (w : World) (a b : List Nat) (k k' : IntKind) (T T' : TypeId) : Row ((w.alloc (.cells (cellsK k a).toArray T)).alloc (.cells (cellsK k' b).toArray T')) (w.heap.size + 1) k' T' b := by
  have h := Row.new (w.alloc (.cells (cellsK k a).toArray T)) k' T' b
  have e : (w.alloc (.cells (cellsK k a).toArray T)).heap.size = w.heap.size + 1 := by
    show (w.heap.push _).size = _
    simp
  rwa [e] at h

theorem or_shl8 (p x : Nat) (hp : p < 16777216) (hx : x < 256) : bits .or .u32 ((p : Int) * 256) (x : Int) = ((p * 256 + x : Nat) : Int) := by
  have h := u32_or_nat (p * 256) x (by omega) (by omega)
  rw [nat_join 8 (p * 256) x (Nat.mul_mod_left _ _) hx] at h
  exact h

theorem wrap_add (a b : Nat) : IntKind.u32.wrap ((a : Int) + (b : Int)) = ((addM a b : Nat) : Int) := by
  rw [IntKind.wrap_u32']
  unfold addM
  omega
theorem xor_sig0 (x : Nat) (h : x < 4294967296) : bits .xor .u32 (bits .xor .u32 (dn x 7 : Int) (dn x 18 : Int)) ((x : Int) / 8) = (sig0 x : Int) := by
  rw [u32_xor_nat _ _ (dn_lt _ _ h) (dn_lt _ _ h)]
  exact u32_xor_nat _ (x / 8) (Nat.xor_lt_two_pow (n := 32) (dn_lt _ _ h) (dn_lt _ _ h)) (by omega)
theorem xor_sig1 (x : Nat) (h : x < 4294967296) : bits .xor .u32 (bits .xor .u32 (dn x 17 : Int) (dn x 19 : Int)) ((x : Int) / 1024) = (sig1 x : Int) := by
  rw [u32_xor_nat _ _ (dn_lt _ _ h) (dn_lt _ _ h)]
  exact u32_xor_nat _ (x / 1024) (Nat.xor_lt_two_pow (n := 32) (dn_lt _ _ h) (dn_lt _ _ h)) (by omega)

set_option maxRecDepth 100000 in
set_option maxHeartbeats 1000000 in
theorem spread_any (A : Option Addr) (cap : Nat) (l : List Nat) (w : World) (hR : RowN w A 64 l) :
    Calls Tryd.prog 29 #[.slice A 64 cap] w fun e w' => e = .returned (.agg (cellsK .u32 (sched (words l) 48)).toArray) ∧ Below w.heap.size w w' := by
  have HR := Lib.hid hR
  clear hR
  obtain ⟨b, off, rfl, hlt, hc⟩ := HR.out.cells (by omega)
  have HC := Lib.hid hc
  clear hc
  go_enter Tryd.func29, Tryd.ntmps29
  go_wp2
  rw [zeros56]
  have hB : Below w.heap.size w ((w.alloc (.cells (cellsK .u32 (List.replicate 64 0)).toArray 56)).alloc (.cells (cellsK .u32 (List.replicate 64 0)).toArray 56)) := ((Below.refl _ _).alloc (Nat.le_refl _) _).alloc (by simp) _
  have h1 := Lib.hid (row_alloc2a w (List.replicate 64 0) (List.replicate 64 0) .u32 .u32 56 56)
  have h2 := Lib.hid (row_alloc2b w (List.replicate 64 0) (List.replicate 64 0) .u32 .u32 56 56)
  generalize (w.alloc (.cells (cellsK .u32 (List.replicate 64 0)).toArray 56)).alloc (.cells (cellsK .u32 (List.replicate 64 0)).toArray 56) = w0 at *
  go_loopw [11] (fun i wr => ∃ k : Nat, k ≤ 64 ∧ i = .int .i64 k ∧ Hid (Row wr w.heap.size .u32 56 (List.replicate 64 0)) ∧ Hid (Row wr (w.heap.size + 1) .u32 56 (partial_ l k)) ∧ Below w.heap.size w wr) (fun i _ => 64 - (intOf i).toNat)
  case atStart => exact ⟨0, by omega, rfl, h1, by rw [partial_zero]; exact h2, hB⟩
  case round =>
    obtain ⟨k, hk, rfl, HA, HB, hbr⟩ := hrel
    clear h1 h2 hB
    by_cases hkn : k < 64
    · have hck := (hbr.cell (p := ⟨b, off + k, none⟩) hlt).trans (HC.out k hkn)
      have hj : k / 4 < 64 := by omega
      have hcw := HB.out.cell (k / 4) (by rw [partial_length]; exact hj)
      have hfw := HB.out.free (k / 4)
      rw [partial_getD l k _ hj] at hcw
      have hx := getD_lt (by decide) HR.out.lt k
      have hp := partW_lt l k HR.out.lt
      have HN := Lib.hid (HB.out.set (k / 4) (partW l k (k / 4) * 256 + l.getD k 0))
      have hkn' : (k : Int) < 64 := by omega
      have HS := Lib.hid (partial_set l k (by rw [HR.out.length]; exact hkn) hkn)
      generalize l.getD k 0 = x at *
      have hor := or_shl8 (partW l k (k / 4)) x hp hx
      obtain ⟨v, hv⟩ : ∃ v : Nat, v = partW l k (k / 4) * 256 + x := ⟨_, rfl⟩
      rw [← hv] at hor HN
      have HV := Lib.hid hv
      clear hv
      go_wp2
      go_roundw
      case rel =>
        refine ⟨k + 1, by omega, by go_num, Lib.hid (HA.out.other _ _ (by simp)), ?_, hbr.setCell (by simp) _⟩
        rw [← HS.out]
        rw [← HV.out]
        exact HN
      case measure => simp [intOf]; omega
    · obtain rfl : k = 64 := by omega
      rw [partial_end l HR.out.length] at HB
      have hB0 : Hid (Row wr (w.heap.size + 1) .u32 56 (schedA (words l) 0)) := HB
      clear HB
      go_wp2
      have hwl := Lib.hid (words_length l)
      have hwb := Lib.hid (words_lt l HR.out.lt)
      generalize hws : words l = ws at *
      have HWS := Lib.hid hws
      clear hws
      go_loopw [6] (fun i wr => ∃ m : Nat, m ≤ 48 ∧ i = .int .i64 ((m : Int) + 16) ∧ Hid (Row wr w.heap.size .u32 56 (List.replicate 64 0)) ∧ Hid (Row wr (w.heap.size + 1) .u32 56 (schedA ws m)) ∧ Below w.heap.size w wr) (fun i _ => 64 - (intOf i).toNat)
      case atStart => exact ⟨0, by omega, rfl, HA, hB0, hbr⟩
      case round =>
        obtain ⟨m, hm, rfl, HA2, HB2, hbq⟩ := hrel
        clear HA hB0 hbr
        by_cases hmn : m < 48
        · have hx0 := sched_getD_lt ws hwb.out m m
          have hx1 := sched_getD_lt ws hwb.out m (m + 1)
          have hx9 := sched_getD_lt ws hwb.out m (m + 9)
          have hx14 := sched_getD_lt ws hwb.out m (m + 14)
          have hc0 := HB2.out.cell m (by rw [schedA_length _ hwl.out _ hm]; omega)
          have hc1 := HB2.out.cell (m + 1) (by rw [schedA_length _ hwl.out _ hm]; omega)
          have hc9 := HB2.out.cell (m + 9) (by rw [schedA_length _ hwl.out _ hm]; omega)
          have hc14 := HB2.out.cell (m + 14) (by rw [schedA_length _ hwl.out _ hm]; omega)
          have hc16 := HB2.out.cell (m + 16) (by rw [schedA_length _ hwl.out _ hm]; omega)
          rw [schedA_getD _ hwl.out _ _ (by omega)] at hc0 hc1 hc9 hc14
          generalize (schedA ws m).getD (m + 16) 0 = x16 at *
          have hf := HB2.out.free (m + 16)
          have HN := Lib.hid (HB2.out.set (m + 16) (nextW (sched ws m)))
          have HE := Lib.hid (nextW_is ws hwl.out m)
          rw [schedA_set ws hwl.out m hmn] at HN
          generalize nextW (sched ws m) = nx at *
          generalize (sched ws m).getD m 0 = x0 at *
          generalize (sched ws m).getD (m + 1) 0 = x1 at *
          generalize (sched ws m).getD (m + 9) 0 = x9 at *
          generalize (sched ws m).getD (m + 14) 0 = x14 at *
          have hmn' : (m : Int) < 48 := by omega
          go_wp2
          have e1 : IntKind.i64.wrap ((m : Int) + 16 - 15) = (m : Int) + 1 := by rw [IntWalk.i64_in _ (by omega)]; omega
          have e2 : IntKind.i64.wrap ((m : Int) + 16 - 2) = (m : Int) + 14 := by rw [IntWalk.i64_in _ (by omega)]; omega
          have n1 : ((m : Int) + 1).toNat = m + 1 := by omega
          have n2 : ((m : Int) + 14).toNat = m + 14 := by omega
          have p1 : (0 : Int) ≤ (m : Int) + 1 := by omega
          have p2 : (0 : Int) ≤ (m : Int) + 14 := by omega
          have l1 : (m : Int) + 1 < 64 := by omega
          have l2 : (m : Int) + 14 < 64 := by omega
          have b1 := xor_sig0 x1 hx1
          have b2 := xor_sig1 x14 hx14
          go_quiet ((first | (go_at_call 30; exact quiet_left (down_7 x1 hx1 _)) | (go_at_call 30; exact quiet_left (down_18 x1 hx1 _))))
          have K0 := Lib.hid (show Row (wr.drewN nq) _ _ _ _ from HA2.out)
          have K1 := Lib.hid (show Row (wr.drewN nq) _ _ _ _ from HB2.out)
          have K2 := Lib.hid (below_drewN hbq nq)
          have K3 := Lib.hid (show Row ((wr.drewN nq).setCell _ _) _ _ _ _ from HN.out)
          have c0 : (wr.drewN nq).cell? _ = _ := hc0
          have c1 : (wr.drewN nq).cell? _ = _ := hc1
          have c9 : (wr.drewN nq).cell? _ = _ := hc9
          have c14 : (wr.drewN nq).cell? _ = _ := hc14
          have c16 : (wr.drewN nq).cell? _ = _ := hc16
          have cf : (wr.drewN nq).frozen? _ = _ := hf
          clear hc0 hc1 hc9 hc14 hc16 hf HA2 HB2 hbq HN
          generalize wr.drewN nq = w2 at *
          go_wp2
          go_quiet ((first | (go_at_call 30; exact quiet_left (down_17 x14 hx14 _)) | (go_at_call 30; exact quiet_left (down_19 x14 hx14 _))))
          have J0 := Lib.hid (show Row (w2.drewN nq) _ _ _ _ from K0.out)
          have J2 := Lib.hid (below_drewN K2.out nq)
          have J3 := Lib.hid (show Row ((w2.drewN nq).setCell _ _) _ _ _ _ from K3.out)
          have d0 : (w2.drewN nq).cell? _ = _ := c0
          have d9 : (w2.drewN nq).cell? _ = _ := c9
          have d16 : (w2.drewN nq).cell? _ = _ := c16
          have df : (w2.drewN nq).frozen? _ = _ := cf
          clear c0 c1 c9 c14 c16 cf K0 K1 K2 K3 b1 b2 e1 e2 n1 n2 p1 p2 l1 l2 hx1 hx14 HC hlt
          generalize w2.drewN nq = w3 at *
          generalize sig0 x1 = sa at *
          generalize sig1 x14 = sb at *
          go_wp2
          have e1 : IntKind.i64.wrap ((m : Int) + 16 - 16) = (m : Int) := by rw [IntWalk.i64_in _ (by omega)]; omega
          have e2 : IntKind.i64.wrap ((m : Int) + 16 - 7) = (m : Int) + 9 := by rw [IntWalk.i64_in _ (by omega)]; omega
          have n1 : ((m : Int) + 9).toNat = m + 9 := by omega
          have n2 : ((m : Int) + 16).toNat = m + 16 := by omega
          have p1 : (0 : Int) ≤ (m : Int) + 9 := by omega
          have p2 : (0 : Int) ≤ (m : Int) + 16 := by omega
          have p3 : (0 : Int) ≤ (m : Int) := by omega
          have l1 : (m : Int) + 9 < 64 := by omega
          have l2 : (m : Int) + 16 < 64 := by omega
          have l3 : (m : Int) < 64 := by omega
          have q1 : IntKind.u32.wrap ((x0 : Int) + (sa : Int)) = ((addM x0 sa : Nat) : Int) := wrap_add x0 sa
          have q2 : IntKind.u32.wrap (((addM x0 sa : Nat) : Int) + (x9 : Int)) = ((addM (addM x0 sa) x9 : Nat) : Int) := wrap_add _ _
          have q3 : IntKind.u32.wrap (((addM (addM x0 sa) x9 : Nat) : Int) + (sb : Int)) = (nx : Int) := by rw [HE.out]; exact wrap_add _ _
          go_region
          have L0 : Hid (Row ((w3.setCell ⟨w.heap.size + 1, m + 16, none⟩ (.int .u32 (nx : Int))).drew) w.heap.size .u32 56 (List.replicate 64 0)) := Lib.hid (J0.out.other _ _ (by simp)).drew
          have L1 : Hid (Row ((w3.setCell ⟨w.heap.size + 1, m + 16, none⟩ (.int .u32 (nx : Int))).drew) (w.heap.size + 1) .u32 56 (schedA ws (m + 1))) := Lib.hid (show Row (w3.setCell _ _).drew _ _ _ _ from J3.out.drew)
          have L2 : Hid (Below w.heap.size w ((w3.setCell ⟨w.heap.size + 1, m + 16, none⟩ (.int .u32 (nx : Int))).drew)) := Lib.hid (J2.out.setCell (by simp) _).drew
          clear J0 J2 J3 d0 d9 d16 df e1 e2 n1 n2 p1 p2 p3 l1 l2 l3 q1 q2 q3 HE
          generalize (w3.setCell ⟨w.heap.size + 1, m + 16, none⟩ (.int .u32 (nx : Int))).drew = w4 at *
          go_wp2
          go_roundw
          case rel => exact ⟨m + 1, by omega, by go_num, L0, L1, L2.out⟩
          case measure => simp [intOf]; omega
        · obtain rfl : m = 48 := by omega
          have hz : 48 - 48 = 0 := rfl
          have HS : Hid (schedA ws 48 = sched ws 48) := Lib.hid (by unfold schedA; simp)
          rw [HS.out] at HB2
          have hl48 : Hid ((sched ws 48).length = 64) := Lib.hid (by rw [sched_length, hwl.out])
          generalize hfin : sched ws 48 = fin at *
          have HF := Lib.hid hfin
          clear hfin
          have hz64 : Hid ((List.replicate 64 0 : List Nat).length = 64) := Lib.hid (List.length_replicate ..)
          go_wp2_with (first | (with_reducible refine wpList_loadK 56 (.tmp 3) rfl rfl (w.heap.size + 1) .u32 56 fin 64 24 HB2 rfl Tryd.underlying56 size64w hl48 ?_) | (with_reducible refine wpList_storeK 56 (.tmp 2) (.tmp 81) rfl rfl w.heap.size .u32 .u32 56 (List.replicate 64 0) fin 64 HA2 rfl rfl size64w hl48 hz64 ?_))
          exact bodyPost_ret (resultsK rfl _ w.heap.size .u32 56 fin 64 24 rfl (HA2.out.setRow fin) Tryd.underlying56 size64w hl48) rfl ⟨by rw [HWS.out, HF.out], below_setRow hbq (Nat.le_refl _) _⟩
end Go.Proofs.YtifljaandphkpaaDoor
