/-
  The contract of the function that (*Bits).Each hands back: it goes over a copy of the words.
-/
import Derived.Test.YtjkcomoadpileaaDoorBj
namespace Go.Proofs.YtjkcomoadpileaaDoor
open Go.RowKit Go.Shelf
attribute [local go_sem] Oper.semAt_some
set_option linter.unusedVariables false

/-- What a round owes the loop: its own state carried on, the copy at C left alone. -/
def RoundsOk (n l : Nat) (ws : List Nat) (B : Nat) (J Jx : Nat → List Nat → World → Prop) : Prop :=
  ∀ C pre x W1, B ≤ C → C < W1.heap.size → J C pre W1 → pre ++ [x] <+: elems ws →
    YieldAt Fence.wide (n - 1) Tryd.prog l #[.int .i64 ((x : Nat) : Int)] W1 fun e W' =>
      (e = .returned (.bool true) ∧ J C (pre ++ [x]) W' ∧ W'.heap[C]? = W1.heap[C]? ∧ W1.heap.size ≤ W'.heap.size) ∨ (e = .returned (.bool false) ∧ Jx C (pre ++ [x]) W')
set_option maxHeartbeats 1000000 in
theorem each1_any (n : Nat) (hn : 1 ≤ n) (l Bx : Nat) (p : Option Addr) (v : Value) (ws : List Nat) (J Jx : Nat → List Nat → World → Prop) (W : World)
    (hbx : W.cell? ⟨Bx, 0, none⟩ = some (.pointer p)) (hheld : Calls Tryd.prog 33 #[.pointer p] W fun e w' => e = .returned v ∧ W = w')
    (hclone : Calls Tryd.prog 35 #[v] W fun e w' => (∃ v', e = .returned v' ∧ w'.ownsRow W.heap.size 51 1 v' ws.length (cellsW ws)) ∧ Below W.heap.size W w')
    (hsm : Small ws) (hsh : ws.length ≤ 1024)
    (hJT : ∀ C pre W', J C pre W' → TabOk W') (h0 : ∀ C W1, W.heap.size ≤ C → Below W.heap.size W W1 → J C [] W1) (hY : RoundsOk n l ws W.heap.size J Jx) :
    CallsIn Fence.wide n Tryd.prog 37 #[.func (.yield l) #[] #[], .pointer (some ⟨Bx, 0, none⟩)] W fun e W' => (∃ v, e = .returned v) ∧ ∃ C, W.heap.size ≤ C ∧ (J C (elems ws) W' ∨ ∃ pre, pre <+: elems ws ∧ Jx C pre W') := by
  have HH := Lib.hid hheld
  have HC := Lib.hid hclone
  have HSM := Lib.hid hsm
  have HJT := Lib.hid hJT
  have H0 := Lib.hid h0
  have HY := Lib.hid hY
  clear hheld hclone hsm hJT h0 hY
  obtain ⟨L, hL⟩ : ∃ L, ws.length = L := ⟨_, rfl⟩
  rw [hL] at HC hsh
  have HL := Lib.hid hL
  clear hL
  refine callsIn_of_wp Tryd.func37 rfl trivial ?_ rfl
  simp only [Tryd.ntmps37, List.size_toArray, List.length_cons, List.length_nil, Nat.reduceAdd, Nat.reduceSub, Array.replicate_succ, Array.replicate_zero, List.push_toArray, List.append_toArray, List.nil_append, List.cons_append]
  gi_wp2_with (first
    | (refine ⟨trivial, ?_⟩; gi_at_call 33; refine (callsIn_wide.2 HH.out).mono ?_; rintro e w' ⟨rfl, rfl⟩)
    | (refine ⟨trivial, ?_⟩; gi_at_call 35; refine (callsIn_wide.2 HC.out).mono ?_; rintro e W1 ⟨⟨v', rfl, ho⟩, hb⟩; obtain ⟨A', c, rfl⟩ := own_shape ho; have HO := Lib.hid ho; have HB := Lib.hid hb; clear ho hb))
  obtain ⟨C, hWC0, hA0⟩ : ∃ C, W.heap.size ≤ C ∧ (0 < L → A' = some ⟨C, 0, none⟩ ∧ C < W1.heap.size) := by
    rcases HO.out.2 with ⟨e, hz⟩ | ⟨C, cap, cur, e, hb, hg, _⟩
    · exact ⟨W.heap.size, Nat.le_refl _, fun h => by omega⟩
    · injection e with e1
      exact ⟨C, hb, fun _ => ⟨e1, lt_of_block hg⟩⟩
  have HWC := Lib.hid hWC0
  have HA := Lib.hid hA0
  clear hWC0 hA0
  gi_loopw [9] (fun i wr => ∃ k : Nat, k ≤ L ∧ i = .int .i64 k ∧ J C (upto ws (64 * k)) wr ∧ wr.heap[C]? = W1.heap[C]? ∧ (0 < L → C < wr.heap.size)) (fun i _ => L - (intOf i).toNat)
  case atStart => exact ⟨0, by omega, rfl, H0.out C W1 HWC.out HB.out, rfl, fun h => (HA.out h).2⟩
  case round =>
    obtain ⟨k, hk, rfl, hJ, hC, hlt0⟩ := hrel
    rcases Nat.lt_or_ge k L with hkn | hkn
    · have hlt := hlt0 (by omega)
      obtain ⟨rfl, _⟩ := HA.out (by omega)
      clear hlt0
      have hown : wr.ownsRow W.heap.size 51 1 (.slice (some ⟨C, 0, none⟩) L c) L (cellsW ws) := own_same HO.out (fun j hj => by cases hj; exact hC)
      have hcell : wr.cell? ⟨C, k, none⟩ = some (.int .u64 (wd ws k : Int)) := by rw [hown.cellAt k (by omega), cellsW_at ws k (by rw [HL.out]; exact hkn)]
      have hxs := wd_lt HSM.out k
      have hst := left_start ws HSM.out k
      have HJ := Lib.hid hJ
      have HCC := Lib.hid hC
      have HST := Lib.hid hst
      clear hown hJ hC hst
      obtain ⟨x, hxe⟩ : ∃ x, wd ws k = x := ⟨_, rfl⟩
      rw [hxe] at hcell hxs HST
      clear hxe
      have hkn' : (k : Int) < (L : Int) := by omega
      have hk0 : (0 : Int) ≤ (k : Int) := by omega
      obtain ⟨wo, rfl⟩ : ∃ wo : World, wo = wr := ⟨_, rfl⟩
      gi_wp2
      gi_loopw [4] (fun u wi => ∃ j y : Nat, u = .int .u64 (y : Int) ∧ LeftOf ws k j y ∧ J C (upto ws (64 * k + j)) wi ∧ wi.heap[C]? = W1.heap[C]? ∧ C < wi.heap.size) (fun u _ => (intOf u).toNat)
      case atStart => exact ⟨0, x, rfl, HST.out, HJ.out, HCC.out, hlt⟩
      case round =>
        obtain ⟨j, y, rfl, hLf, hJ, hC, hlt2⟩ := hrel
        have HLF := Lib.hid hLf
        have HJ2 := Lib.hid hJ
        have HC2 := Lib.hid hC
        have hy := hLf.1
        have HT := Lib.hid (HJT.out C _ wr hJ)
        clear hLf hJ hC
        by_cases h0 : y = 0
        · have HE := Lib.hid (left_end ws k j y HLF.out h0)
          subst h0
          gi_wp2
          go_roundw
          case rel => exact ⟨k + 1, by omega, by go_num, by rw [← HE.out]; exact HJ2.out, HC2.out, fun _ => hlt2⟩
          case measure => simp [intOf]; omega
        · have HN := Lib.hid (left_next ws k j y HLF.out h0)
          have htz := tz_any wr y hy h0 HT.out
          have hb : ((y : Int) != 0) = true := by simp; exact h0
          have e2 : bits .and .u64 (y : Int) ((y : Int) - 1) = ((y &&& (y - 1) : Nat) : Int) := by
            have := u64_and_nat y (y - 1) hy (by omega)
            rw [show (((y - 1 : Nat)) : Int) = (y : Int) - 1 from by omega] at this
            exact this
          have hm : y &&& (y - 1) < y := by
            have : y &&& (y - 1) ≤ y - 1 := Nat.and_le_right
            omega
          obtain ⟨t, ht⟩ : ∃ t, Lib.ctz 64 y = t := ⟨_, rfl⟩
          rw [ht] at HN htz
          obtain ⟨fn, tmps, assign, body, hyl, hR⟩ := HY.out C (upto ws (64 * k + j)) (64 * k + t) wr HWC.out hlt2 HJ2.out (by rw [← HN.out.2.1]; unfold elems; refine upto_le ws ?_; have := HN.out.2.2.2; rw [HL.out]; omega)
          rw [show ((64 * k + t : Nat) : Int) = (k : Int) * 64 + (t : Int) from by omega] at hyl
          have HR := Lib.hid hR
          have HTZ := Lib.hid htz
          have ht0 : (0 : Int) ≤ (t : Int) := by omega
          have ht1 : (t : Int) < 64 := by have := HN.out.2.2.2; omega
          have hk1 : (k : Int) ≤ 1024 := by omega
          have hy1 : (1 : Int) ≤ (y : Int) := by omega
          clear hR htz ht h0
          gi_wp2_with (refine ⟨trivial, ?_⟩; gi_at_call 38; refine (callsIn_wide.2 HTZ.out).mono ?_; rintro e w' ⟨rfl, rfl⟩)
          refine HR.out.mono ?_
          rintro e W3 (⟨rfl, hJ3, hC3, hs3⟩ | ⟨rfl, hJ3⟩)
          · have HJ3 := Lib.hid hJ3
            have HC3 := Lib.hid (hC3.trans HC2.out)
            have hlt3 : C < W3.heap.size := Nat.lt_of_lt_of_le hlt2 hs3
            clear hJ3 hC3 hs3
            gi_wp2
            go_roundw
            case rel => exact ⟨t + 1, y &&& (y - 1), rfl, HN.out.1, by rw [HN.out.2.1]; exact HJ3.out, HC3.out, hlt3⟩
            case measure => simp [intOf]; omega
          · have HX : Hid (∃ pre, pre <+: elems ws ∧ Jx C pre W3) := Lib.hid ⟨_, by rw [← HN.out.2.1]; unfold elems; refine upto_le ws ?_; have := HN.out.2.2.2; rw [HL.out]; omega, hJ3⟩
            clear hJ3
            gi_wp2
            refine bodyPost_ret (results_none rfl _ _ _) rfl ?_
            exact ⟨⟨_, rfl⟩, C, HWC.out, .inr HX.out⟩
    · obtain rfl : k = L := by omega
      have HE : Hid (J C (elems ws) wr) := by unfold elems; rw [HL.out]; exact Lib.hid hJ
      clear hJ hC
      gi_wp2
      go_end0
      exact ⟨⟨_, rfl⟩, C, HWC.out, .inl HE.out⟩
/-- The contract at a set, or none. -/
theorem each1_at (n : Nat) (hn : 1 ≤ n) (l Bx : Nat) (p : Option Addr) (v : Value) (ws : List Nat) (J Jx : Nat → List Nat → World → Prop) (W : World)
    (hbx : W.cell? ⟨Bx, 0, none⟩ = some (.pointer p)) (hA : At W p v ws)
    (hJT : ∀ C pre W', J C pre W' → TabOk W') (h0 : ∀ C W1, W.heap.size ≤ C → Below W.heap.size W W1 → J C [] W1) (hY : RoundsOk n l ws W.heap.size J Jx) :
    CallsIn Fence.wide n Tryd.prog 37 #[.func (.yield l) #[] #[], .pointer (some ⟨Bx, 0, none⟩)] W fun e W' => (∃ v, e = .returned v) ∧ ∃ C, W.heap.size ≤ C ∧ (J C (elems ws) W' ∨ ∃ pre, pre <+: elems ws ∧ Jx C pre W') := by
  obtain ⟨_, hsm, hsh⟩ := hA.slice
  refine each1_any n hn l Bx p v ws J Jx W hbx hA.held ?_ hsm hsh hJT h0 hY
  rcases hA with ⟨rfl, rfl, rfl⟩ | ⟨b, rfl, hS⟩
  · refine (cloneW_nil W).mono ?_
    rintro e w' ⟨rfl, rfl⟩
    exact ⟨⟨_, rfl, own_nil _ _⟩, Below.refl _ _⟩
  · rcases hS.own.2 with ⟨rfl, hn⟩ | ⟨g, cap, cur, rfl, _⟩
    · have e : ws = [] := List.eq_nil_of_length_eq_zero hn
      subst e
      refine (cloneW_nil W).mono ?_
      rintro e w' ⟨rfl, rfl⟩
      exact ⟨⟨_, rfl, own_nil _ _⟩, Below.refl _ _⟩
    · exact cloneW_any W g ws.length cap ws hS.own hsh
end Go.Proofs.YtjkcomoadpileaaDoor
