/-
  The walk of the law LexerPrints: it answers true and writes nothing that was there.
-/
import Derived.Test.YtkpgkobhnldhpaaDoorLxG
import Derived.Test.YtkpgkobhnldhpaaDoorLxS
import Derived.Deep.Cut
namespace Go.Proofs.YtkpgkobhnldhpaaDoor
open Go.RowKit
set_option linter.unusedVariables false
set_option maxRecDepth 100000

theorem strL_add (a b : List UInt8) : strL a ++ strL b = strL (a ++ b) := by
  apply ByteArray.ext
  simp [strL]
theorem strL_blank : strL [32] = ⟨#[32]⟩ := rfl
theorem Rd6.take {w : World} {A : Option Addr} {n : Nat} {xs : List Tk} (h : Rd6 w A n xs) (m : Nat) (hm : m ≤ n) : Rd6 w A m (xs.take m) := by
  refine ⟨by rw [List.length_take, h.1]; omega, fun k t hk => ?_⟩
  have hk' := (List.getElem?_eq_some_iff.1 hk).1
  rw [List.length_take] at hk'
  rw [List.getElem?_take_of_lt (by omega)] at hk
  exact h.2 k t hk
theorem printL_bd (xs : List Tk) (h : ∀ t ∈ xs, t.tx.size ≤ 300) : (printL (txs xs)).length ≤ 301 * xs.length := by
  have key : ∀ r : List Tk, (∀ t ∈ r, t.tx.size ≤ 300) → ((txs r).flatMap (fun y => 32 :: y)).length ≤ 301 * r.length := by
    intro r
    induction r with
    | nil => intro _; simp [txs]
    | cons t r ih =>
      intro hr
      have h1 := ih (fun x hx => hr x (by simp [hx]))
      have h2 := hr t (by simp)
      have e : (txs (t :: r)).flatMap (fun y => 32 :: y) = (32 :: t.tx.data.toList) ++ (txs r).flatMap (fun y => 32 :: y) := by simp [txs]
      rw [e, List.length_append, List.length_cons, ba_length, List.length_cons]
      omega
  cases xs with
  | nil => simp [txs, printL]
  | cons t r =>
    have h1 := key r (fun x hx => h x (by simp [hx]))
    have h2 := h t (by simp)
    have e : printL (txs (t :: r)) = t.tx.data.toList ++ (txs r).flatMap (fun y => 32 :: y) := by simp [txs, printL]
    rw [e, List.length_append, ba_length, List.length_cons]
    omega
set_option maxHeartbeats 1000000 in
theorem lexerPrints_walk (a0 : Option Addr) (len0 cap0 : Nat) (xs : List Tk) (W : World) (hR0 : Rd6 W a0 len0 xs) (hxs : ∀ t ∈ xs, t.tx.size ≤ maxLen) (hlc : len0 ≤ cap0) (hcm : cap0 ≤ maxLen) (hL : laidMetH Tryd.prog Rows.lexerPrintsRow.laid W) (hsh : W.ShapedOpen Tryd.prog) :
    Calls Tryd.prog 8 #[.slice a0 len0 cap0] W fun e w' => e = .returned (.bool true) ∧ Below W.heap.size W w' := by
  have HL := Lib.hid (laid_of W hL hsh)
  unfold maxLen at hcm hxs
  have hlm : (len0 : Int) ≤ (cap0 : Int) := by omega
  have hcm' : (cap0 : Int) ≤ 9223372036854775807 := by omega
  have HR0 := Lib.hid hR0
  have HXS := Lib.hid hxs
  clear hL hsh hR0 hxs
  go_enter Tryd.func8, Tryd.ntmps8
  go_upto_region 3 with fail
  obtain ⟨m, hm⟩ : ∃ m : Nat, (min (len0 : Int) 60).toNat = m := ⟨_, rfl⟩
  rw [hm]
  have hm60 : (m : Int) ≤ 60 := by omega
  have hmc : (m : Int) ≤ (cap0 : Int) := by omega
  have HR := Lib.hid (HR0.out.take m (by omega))
  have HXM : Hid (∀ t ∈ xs.take m, t.tx.size ≤ 9223372036854775807) := Lib.hid (fun t ht => by have := HXS.out t (List.mem_of_mem_take ht); omega)
  generalize xs.take m = ys at *
  clear hm HR0 HXS hlm hlc
  go_wp2
  go_loopw [3, 13] (fun v i wr => ∃ k : Nat, k ≤ m ∧ i = .int .i64 k ∧ v = .string (strL (printL (txs (ys.take k)))) ∧ Hid (Below W.heap.size W wr ∧ ∀ t ∈ ys.take k, t.tx.size ≤ 300)) (fun _ i _ => m - (intOf i).toNat)
  case atStart => exact ⟨0, Nat.zero_le _, rfl, rfl, Lib.hid ⟨Below.refl _ _, by simp⟩⟩
  case round =>
    obtain ⟨k, hk, rfl, rfl, HI⟩ := hrel
    have hpb := printL_bd (ys.take k) HI.out.2
    rw [List.length_take, HR.out.1] at hpb
    have hpb2 : (strL (printL (txs (ys.take k)))).size ≤ 20000 := by rw [strL_size]; omega
    by_cases hlt : k < m
    · obtain ⟨t, ht⟩ : ∃ t, ys[k]? = some t := ⟨_, List.getElem?_eq_getElem (by have := HR.out.1; omega)⟩
      obtain ⟨g, off, rfl, hg, c0, c1, c2, c3, c4, c5⟩ := (HR.out.below HI.out.1).2 k t ht
      have HT := Lib.hid (take_snoc' ys k t ht)
      have htm := HXM.out t (List.mem_of_getElem? ht)
      obtain ⟨kd, tx, nm, o, l, cc⟩ := t
      dsimp only at c0 c1 c2 c3 c4 c5 htm
      have HB := Lib.hid (HI.out.1.alloc HI.out.1.size (.cells #[.int .i64 kd, .string tx, .int .i32 nm, .int .i64 o, .int .i64 l, .int .i64 cc] 33))
      have HI2 := Lib.hid HI.out.2
      clear ht hpb HI
      by_cases h300 : (300 : Int) < (tx.size : Int)
      · go_wp2_with fail
        refine (lives_true _ (HL.out.below HB.out)).mono ?_
        rintro e w5 ⟨rfl, hB5⟩
        have HB5 := Lib.hid (HB.out.trans (hB5.mono HB.out.size))
        clear hB5
        go_wp2
        go_ret
        exact ⟨rfl, HB5.out⟩
      · have HN : Hid (∀ t ∈ ys.take (k + 1), t.tx.size ≤ 300) := Lib.hid (by
          rw [HT.out]
          intro t ht
          rcases List.mem_append.1 ht with h | h
          · exact HI2.out t h
          · rw [List.mem_singleton] at h
            subst h
            show tx.size ≤ 300
            omega)
        by_cases h0 : (0 : Int) < (k : Int)
        · have HP : Hid ((strL (printL (txs (ys.take k))) ++ ⟨#[32]⟩) ++ tx = strL (printL (txs (ys.take (k + 1))))) := Lib.hid (by
            rw [HT.out, txs_snoc, printL_snoc _ _ (fun e => by have := congrArg List.length e; unfold txs at this; rw [List.length_map, List.length_take, HR.out.1] at this; simp at this; omega), ← strL_blank, strL_add]
            conv => lhs; rhs; rw [← strL_back tx]
            rw [strL_add])
          clear HT HI2
          generalize strL (printL (txs (ys.take k))) = S at *
          go_wp2
          go_roundw
          case rel => exact ⟨k + 1, by omega, by go_num, by rw [HP.out], Lib.hid ⟨HB.out, HN.out⟩⟩
          case measure => simp [intOf]; omega
        · obtain rfl : k = 0 := by omega
          simp only [Nat.zero_mul, Nat.add_zero] at c0 c1 c2 c3 c4 c5
          have HP : Hid (strL (printL (txs (ys.take 0))) ++ tx = strL (printL (txs (ys.take (0 + 1))))) := Lib.hid (by
            rw [HT.out, txs_snoc]
            conv => lhs; rhs; rw [← strL_back tx]
            rw [strL_add]
            simp [txs, printL])
          clear HT HI2
          generalize strL (printL (txs (ys.take 0))) = S at *
          go_wp2
          go_roundw
          case rel => exact ⟨0 + 1, by omega, by go_num, by rw [HP.out], Lib.hid ⟨HB.out, HN.out⟩⟩
          case measure => simp [intOf]; omega
    · obtain rfl : k = m := by omega
      have HE : Hid (ys.take k = ys) := Lib.hid (List.take_of_length_le (by rw [HR.out.1]; exact Nat.le_refl _))
      have hb300 : ∀ t ∈ ys, t.tx.size ≤ 300 := fun t ht => HI.out.2 t (by rw [HE.out]; exact ht)
      have hpl := printL_bd ys hb300
      rw [HR.out.1] at hpl
      have HP := Lib.hid (print_any wr a0 k cap0 ys (HR.out.below HI.out.1) (by omega) (by omega) (by omega) (fun t ht => by have := hb300 t ht; omega))
      have HB := Lib.hid HI.out.1
      rw [HE.out] at hpb2 ⊢
      clear hpb hpl hb300 HI HE hpb2
      go_wp2_with fail
      refine HP.out.mono ?_
      rintro e w4 ⟨rfl, hB4⟩
      have HB4 := Lib.hid (HB.out.trans (hB4.mono HB.out.size))
      clear hB4
      go_wp2_with fail
      refine (lives_true _ (HL.out.below HB4.out)).mono ?_
      rintro e w5 ⟨rfl, hB5⟩
      have HB5 := Lib.hid (HB4.out.trans (hB5.mono HB4.out.size))
      clear hB5
      go_wp2
      go_ret
      exact ⟨rfl, HB5.out⟩
end Go.Proofs.YtkpgkobhnldhpaaDoor
