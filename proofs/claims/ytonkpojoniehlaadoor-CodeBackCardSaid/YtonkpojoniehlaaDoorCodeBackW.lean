/-
  The walk of the law CodeBack: it answers true and writes nothing that was there.
-/
import Derived.Test.YtonkpojoniehlaaDoorKmu
import Derived.Test.YtonkpojoniehlaaDoorKmp
namespace Go.Proofs.YtonkpojoniehlaaDoor
open Go.RowKit
set_option linter.unusedVariables false
set_option linter.unusedSimpArgs false
set_option maxRecDepth 100000

theorem set_same19 {cs : Array Value} {i : Nat} {v : Value} (h : cs[i]? = some v) : cs.setIfInBounds i v = cs := by
  apply Array.ext_getElem?
  intro j
  rw [Array.getElem?_setIfInBounds]
  split
  · next e =>
    subst e
    split
    · exact h.symm
    · next h2 => rw [Array.getElem?_eq_none (by omega)]
  · rfl
theorem setCell_id19 {w : World} {b i : Nat} {cs : Array Value} {T : TypeId} {v : Value} (h : w.heap[b]? = some (.cells cs T (0, 0))) (hv : cs[i]? = some v) : w.setCell ⟨b, i, none⟩ v = w := by
  have e : (w.setCell ⟨b, i, none⟩ v).heap = w.heap := by
    apply Array.ext_getElem?
    intro j
    by_cases hj : j = b
    · subst hj
      rw [heap_setCell_same w j i cs T v h, set_same19 hv, h]
    · exact heap_setCell_other w ⟨b, i, none⟩ j v hj
  unfold World.setCell at e ⊢
  simp only at e
  rw [e]
/-- One turn behind another. -/
theorem reg_up (x : Nat) (h : x < 32) : x * 2 ^ 7 < 4294967296 ∧ x * 2 ^ 15 < 4294967296 ∧ x * 2 ^ 20 < 4294967296 := by omega
theorem word_lt (op D A B N : Nat) (ho : op < 31) (hD : D < 32) (hA : A < 32) (hB : B < 32) : encN op D A B N < 4294967296 := by
  have h1 := reg_up D hD
  have h2 := reg_up A hA
  have h3 := reg_up B hB
  have hs := stamp_lt op ho
  have hl := laid_lt (formN op) N
  have hS : stampW (lowN op) (midN op) (highN op) < 4294967296 := or_lt _ _ (or_lt _ _ hs.1 hs.2.1) hs.2.2
  unfold encN wordW
  exact or_lt _ _ (or_lt _ _ (or_lt _ _ (or_lt _ _ hS h1.1) h2.2.1) h3.2.2) hl
theorem enc_lt {i : Ins} {v : Nat} (h : encI i = some v) : v < 4294967296 := by
  obtain ⟨hm, hv⟩ := enc_some h
  obtain ⟨ho, hd, ha, hb⟩ := may_nat _ hm
  rw [← hv]
  exact word_lt _ _ _ _ _ (by omega) (by omega) (by omega) (by omega)
theorem enc_num {i : Ins} {v : Nat} (h : encI i = some v) : -2147483648 ≤ i.n ∧ i.n ≤ 2147483647 := by
  have hd := dec_enc i v h
  unfold decI at hd
  cases e : (List.range 31).find? fun op => hitI op v with
  | none => rw [e] at hd; cases hd
  | some op =>
    rw [e] at hd
    obtain rfl := Option.some.inj hd
    exact num_bd _ _


set_option maxHeartbeats 6400000 in
theorem codeBack_walk (k op d a b n : Int) (s : ByteArray) (wz : Int) (w : World) (bn : -2147483648 ≤ n ∧ n ≤ 2147483647) (hs : s.size ≤ maxLen) (hwz : (Lit.int .u32 wz).wf = true) (hLd : laidMetH Tryd.prog Rows.codeBackRow.laid w) :
    Calls Tryd.prog 5 #[.agg #[.int .i64 k, .int .i64 op, .int .i64 d, .int .i64 a, .int .i64 b, .int .i32 n, .string s], .int .u32 wz] w
      fun e w' => e = .returned (.bool true) ∧ Below w.heap.size w w' := by
  have hR := rows_of_laid hLd
  have hwb : 0 ≤ wz ∧ wz ≤ 4294967295 := by
    simp only [Lit.wf, Bool.and_eq_true, decide_eq_true_eq] at hwz
    exact hwz
  obtain ⟨wd, rfl⟩ := Int.eq_ofNat_of_zero_le hwb.1
  have hwd : wd < 4294967296 := by omega
  obtain ⟨p, hp⟩ : ∃ p, w.heap.size = p := ⟨_, rfl⟩
  obtain ⟨W0, hW0⟩ : ∃ W0, w.alloc (.cells #[.int .i64 k, .int .i64 op, .int .i64 d, .int .i64 a, .int .i64 b, .int .i32 n, .string s] 23) = W0 := ⟨_, rfl⟩
  have B0 : Below w.heap.size w W0 := by rw [← hW0]; exact (Below.refl _ _).alloc (Nat.le_refl _) _
  have L0 : LnAt W0 p k op d a b n s := by
    have h := LnAt.new w k op d a b n s 23
    rw [hW0, hp] at h
    exact h
  have HL := Lib.hid (And.intro L0 (And.intro B0 (hR.below B0)))
  obtain ⟨-, x0, x1, x2, x3, x4, x5, x6⟩ := L0
  by_cases hz : (200 : Int) < (s.size : Int)
  · go_enter Tryd.func5, Tryd.ntmps5
    go_wp2_with (go_at_call 12; (with_reducible refine (lives19 _ HL.out.2.2).mono ?_); rintro e w3 ⟨rfl, hb⟩; have HB := Lib.hid (HL.out.2.1.trans (hb.mono HL.out.2.1.size)); clear hb)
    go_ret
    exact ⟨rfl, HB.out⟩
  have K1 := fun w hR => encode_any k op d a b n s bn.1 bn.2 w hR
  have KD := fun W hR => decode_any wd hwd W hR
  cases hE : encV k s ⟨op, d, a, b, n⟩ with
  | none =>
    rw [hE] at K1
    simp only [Option.getD_none, Option.isSome_none] at K1
    have H1 := Lib.hid K1
    cases hD : decI wd with
    | none =>
      rw [hD] at KD
      have hz0 : decV none = .agg #[.int .i64 0, .int .i64 0, .int .i64 0, .int .i64 0, .int .i64 0, .int .i32 0, .string ⟨#[]⟩] := rfl
      simp only [hz0, Option.isSome_none] at KD
      have HDw := Lib.hid KD
      clear K1 KD hz0 hE hD hR hLd B0 hwb hwz bn
      go_enter Tryd.func5, Tryd.ntmps5
      go_wp2_with (first
        | (go_at_call 13; (with_reducible refine (H1.out _ HL.out.2.2).mono ?_); rintro e w1 ⟨rfl, hb⟩
           have HL1 := Lib.hid (And.intro (HL.out.1.below hb) (And.intro (HL.out.2.1.trans (hb.mono HL.out.2.1.size)) (HL.out.2.2.below hb)))
           have HP1 := Lib.hid (And.intro (HL.out.2.1.trans (hb.mono HL.out.2.1.size)) (HL.out.2.2.below hb)); clear hb
           obtain ⟨-, u0, u1, u2, u3, u4, u5, u6⟩ := HL1.out.1)
        | (go_at_call 15; (with_reducible refine (HDw.out _ HP1.out.2).mono ?_); rintro e w5 ⟨rfl, hb⟩
           have HP5 := Lib.hid (And.intro (HP1.out.1.trans (hb.mono HP1.out.1.size)) (HP1.out.2.below hb)); clear hb
           obtain ⟨q5, hq5⟩ : ∃ q, w5.heap.size = q := ⟨_, rfl⟩
           obtain ⟨X5, hX5⟩ : ∃ X, w5.alloc (.cells #[.int .i64 0, .int .i64 0, .int .i64 0, .int .i64 0, .int .i64 0, .int .i32 0, .string ⟨#[]⟩] 23) = X := ⟨_, rfl⟩
           have hbX : Below w5.heap.size w5 X5 := by rw [← hX5]; exact (Below.refl _ _).alloc (Nat.le_refl _) _
           have hLn : LnAt X5 q5 0 0 0 0 0 0 ⟨#[]⟩ := by rw [← hX5, ← hq5]; exact LnAt.new _ _ _ _ _ _ _ _ _
           have HX5 := Lib.hid (And.intro hLn (And.intro (HP5.out.1.trans (hbX.mono HP5.out.1.size)) (HP5.out.2.below hbX)))
           obtain ⟨-, t0, t1, t2, t3, t4, t5, t6⟩ := hLn; 
           have gX : X5.heap[q5]? = some (.cells #[.int .i64 0, .int .i64 0, .int .i64 0, .int .i64 0, .int .i64 0, .int .i32 0, .string ⟨#[]⟩] 23 (0, 0)) := by rw [← hX5, ← hq5]; exact heap_alloc_new w5 _
           have i0 : X5.setCell ⟨q5, 0, none⟩ (.int .i64 0) = X5 := setCell_id19 gX rfl
           have fz0 := frozen_of_row _ q5 0 _ _ gX
           have i1 : X5.setCell ⟨q5, 1, none⟩ (.int .i64 0) = X5 := setCell_id19 gX rfl
           have fz1 := frozen_of_row _ q5 1 _ _ gX
           have i2 : X5.setCell ⟨q5, 2, none⟩ (.int .i64 0) = X5 := setCell_id19 gX rfl
           have fz2 := frozen_of_row _ q5 2 _ _ gX
           have i3 : X5.setCell ⟨q5, 3, none⟩ (.int .i64 0) = X5 := setCell_id19 gX rfl
           have fz3 := frozen_of_row _ q5 3 _ _ gX
           have i4 : X5.setCell ⟨q5, 4, none⟩ (.int .i64 0) = X5 := setCell_id19 gX rfl
           have fz4 := frozen_of_row _ q5 4 _ _ gX
           have i5 : X5.setCell ⟨q5, 5, none⟩ (.int .i32 0) = X5 := setCell_id19 gX rfl
           have fz5 := frozen_of_row _ q5 5 _ _ gX
           have i6 : X5.setCell ⟨q5, 6, none⟩ (.string ⟨#[]⟩) = X5 := setCell_id19 gX rfl
           have fz6 := frozen_of_row _ q5 6 _ _ gX
           clear hbX gX)
        | (go_at_call 12; (with_reducible refine (lives19 _ HX5.out.2.2).mono ?_); rintro e w9 ⟨rfl, hb⟩; have HB := Lib.hid (HX5.out.2.1.trans (hb.mono HX5.out.2.1.size)); clear hb))
      go_ret
      exact ⟨rfl, HB.out⟩
    | some j =>
      rw [hD] at KD
      have hz0 : decV (some j) = .agg #[.int .i64 2, .int .i64 j.op, .int .i64 j.d, .int .i64 j.a, .int .i64 j.b, .int .i32 j.n, .string ⟨#[]⟩] := rfl
      simp only [hz0, Option.isSome_some] at KD
      have HDw := Lib.hid KD
      have hj := enc_dec j wd hD
      have hjn := enc_num hj
      have KE : ∀ w, RowsOk w → _ := fun w hR => encode_any 2 j.op j.d j.a j.b j.n ⟨#[]⟩ hjn.1 hjn.2 w hR
      rw [show encV 2 ⟨#[]⟩ ⟨j.op, j.d, j.a, j.b, j.n⟩ = some wd from by rw [← hj]; exact if_pos ⟨rfl, by rw [ba_toList19]⟩] at KE
      simp only [Option.getD_some, Option.isSome_some] at KE
      have HEj := Lib.hid KE
      have KM := rmayLine_any j.op j.d j.a j.b j.n hjn.1 hjn.2
      rw [show mayI ⟨j.op, j.d, j.a, j.b, j.n⟩ = true from (enc_some hj).1] at KM
      have HMj := Lib.hid KM
      clear K1 KD KE KM hz0 hE hD hR hLd B0 hwb hwz bn hj hjn
      go_enter Tryd.func5, Tryd.ntmps5
      go_wp2_with (first
        | (go_at_call 13; (with_reducible refine (H1.out _ HL.out.2.2).mono ?_); rintro e w1 ⟨rfl, hb⟩
           have HL1 := Lib.hid (And.intro (HL.out.1.below hb) (And.intro (HL.out.2.1.trans (hb.mono HL.out.2.1.size)) (HL.out.2.2.below hb)))
           have HP1 := Lib.hid (And.intro (HL.out.2.1.trans (hb.mono HL.out.2.1.size)) (HL.out.2.2.below hb)); clear hb
           obtain ⟨-, u0, u1, u2, u3, u4, u5, u6⟩ := HL1.out.1)
        | (go_at_call 15; (with_reducible refine (HDw.out _ HP1.out.2).mono ?_); rintro e w5 ⟨rfl, hb⟩
           have HP5 := Lib.hid (And.intro (HP1.out.1.trans (hb.mono HP1.out.1.size)) (HP1.out.2.below hb)); clear hb
           obtain ⟨q5, hq5⟩ : ∃ q, w5.heap.size = q := ⟨_, rfl⟩
           obtain ⟨X5, hX5⟩ : ∃ X, w5.alloc (.cells #[.int .i64 2, .int .i64 j.op, .int .i64 j.d, .int .i64 j.a, .int .i64 j.b, .int .i32 j.n, .string ⟨#[]⟩] 23) = X := ⟨_, rfl⟩
           have hbX : Below w5.heap.size w5 X5 := by rw [← hX5]; exact (Below.refl _ _).alloc (Nat.le_refl _) _
           have hLn : LnAt X5 q5 2 j.op j.d j.a j.b j.n ⟨#[]⟩ := by rw [← hX5, ← hq5]; exact LnAt.new _ _ _ _ _ _ _ _ _
           have HX5 := Lib.hid (And.intro hLn (And.intro (HP5.out.1.trans (hbX.mono HP5.out.1.size)) (HP5.out.2.below hbX)))
           obtain ⟨-, t0, t1, t2, t3, t4, t5, t6⟩ := hLn; 
           have gX : X5.heap[q5]? = some (.cells #[.int .i64 2, .int .i64 j.op, .int .i64 j.d, .int .i64 j.a, .int .i64 j.b, .int .i32 j.n, .string ⟨#[]⟩] 23 (0, 0)) := by rw [← hX5, ← hq5]; exact heap_alloc_new w5 _
           have i6 : X5.setCell ⟨q5, 6, none⟩ (.string ⟨#[]⟩) = X5 := setCell_id19 gX rfl
           have fz6 := frozen_of_row _ q5 6 _ _ gX
           clear hbX gX)
        | (go_at_call 13; (with_reducible refine (HEj.out _ HX5.out.2.2).mono ?_); rintro e w6 ⟨rfl, hb⟩
           have HP6 := Lib.hid (And.intro (HX5.out.1.below hb) (And.intro (HX5.out.2.1.trans (hb.mono HX5.out.2.1.size)) (HX5.out.2.2.below hb))); clear hb
           obtain ⟨-, s0, s1, s2, s3, s4, s5, s6⟩ := HP6.out.1)
        | (go_at_call 10; (with_reducible refine (HMj.out _).mono ?_); rintro e w7 ⟨rfl, hb⟩
           have HP7 := Lib.hid (And.intro (HP6.out.2.1.trans (hb.mono HP6.out.2.1.size)) (HP6.out.2.2.below hb)); clear hb)
        | (go_at_call 12; (with_reducible refine (lives19 _ HP7.out.2).mono ?_); rintro e w9 ⟨rfl, hb⟩; have HB := Lib.hid (HP7.out.1.trans (hb.mono HP7.out.1.size)); clear hb))
      go_ret
      exact ⟨rfl, HB.out⟩
  | some v =>
    obtain ⟨⟨rfl, hs0⟩, hEi⟩ : (k = 2 ∧ s.toList = []) ∧ encI ⟨op, d, a, b, n⟩ = some v := by
      unfold encV at hE
      split at hE
      · next g => exact ⟨g, hE⟩
      · cases hE
    obtain rfl : s = ⟨#[]⟩ := by
      have h1 : s.data.toList = [] := by rw [← ba_toList19 s]; exact hs0
      obtain ⟨⟨l⟩⟩ := s
      simp at h1
      subst h1
      rfl
    rw [hE] at K1
    simp only [Option.getD_some, Option.isSome_some] at K1
    have H1 := Lib.hid K1
    have KV := fun W hR => decode_any v (enc_lt hEi) W hR
    rw [dec_enc _ _ hEi] at KV
    have hv0 : decV (some ⟨op, d, a, b, n⟩) = .agg #[.int .i64 2, .int .i64 op, .int .i64 d, .int .i64 a, .int .i64 b, .int .i32 n, .string ⟨#[]⟩] := rfl
    simp only [hv0, Option.isSome_some] at KV
    have HDv := Lib.hid KV
    cases hD : decI wd with
    | none =>
      rw [hD] at KD
      have hz0 : decV none = .agg #[.int .i64 0, .int .i64 0, .int .i64 0, .int .i64 0, .int .i64 0, .int .i32 0, .string ⟨#[]⟩] := rfl
      simp only [hz0, Option.isSome_none] at KD
      have HDw := Lib.hid KD
      clear K1 KD KV hv0 hz0 hE hD hEi hs0 hR hLd B0 hwb hwz bn
      go_enter Tryd.func5, Tryd.ntmps5
      go_wp2_with (first
        | (go_at_call 13; (with_reducible refine (H1.out _ HL.out.2.2).mono ?_); rintro e w1 ⟨rfl, hb⟩
           have HL1 := Lib.hid (And.intro (HL.out.1.below hb) (And.intro (HL.out.2.1.trans (hb.mono HL.out.2.1.size)) (HL.out.2.2.below hb)))
           have HP1 := Lib.hid (And.intro (HL.out.2.1.trans (hb.mono HL.out.2.1.size)) (HL.out.2.2.below hb)); clear hb
           obtain ⟨-, u0, u1, u2, u3, u4, u5, u6⟩ := HL1.out.1)
        | (go_at_call 15; (with_reducible refine (HDv.out _ HL1.out.2.2).mono ?_); rintro e w2 ⟨rfl, hb⟩
           have hL2 := HL1.out.1.below hb
           have hP2 := HL1.out.2.1.trans (hb.mono HL1.out.2.1.size)
           have hR2 := HL1.out.2.2.below hb; clear hb
           obtain ⟨q2, hq2⟩ : ∃ q, w2.heap.size = q := ⟨_, rfl⟩
           obtain ⟨X2, hX2⟩ : ∃ X, w2.alloc (.cells #[.int .i64 2, .int .i64 op, .int .i64 d, .int .i64 a, .int .i64 b, .int .i32 n, .string ⟨#[]⟩] 23) = X := ⟨_, rfl⟩
           have hbX : Below w2.heap.size w2 X2 := by rw [← hX2]; exact (Below.refl _ _).alloc (Nat.le_refl _) _
           have hLn : LnAt X2 q2 2 op d a b n ⟨#[]⟩ := by rw [← hX2, ← hq2]; exact LnAt.new _ _ _ _ _ _ _ _ _
           have HP2 := Lib.hid (And.intro (hP2.trans (hbX.mono hP2.size)) (hR2.below hbX))
           obtain ⟨-, m0, m1, m2, m3, m4, m5, m6⟩ := hLn
           obtain ⟨-, n0, n1, n2, n3, n4, n5, n6⟩ := hL2.below hbX
           have gX : X2.heap[q2]? = some (.cells #[.int .i64 2, .int .i64 op, .int .i64 d, .int .i64 a, .int .i64 b, .int .i32 n, .string ⟨#[]⟩] 23 (0, 0)) := by rw [← hX2, ← hq2]; exact heap_alloc_new w2 _
           have i2 : X2.setCell ⟨q2, 6, none⟩ (.string ⟨#[]⟩) = X2 := setCell_id19 gX rfl
           have fz2 := frozen_of_row _ q2 6 _ _ gX
           clear hbX hP2 hR2 gX)
        | (go_at_call 15; (with_reducible refine (HDw.out _ HP2.out.2).mono ?_); rintro e w5 ⟨rfl, hb⟩
           have HP5 := Lib.hid (And.intro (HP2.out.1.trans (hb.mono HP2.out.1.size)) (HP2.out.2.below hb)); clear hb
           obtain ⟨q5, hq5⟩ : ∃ q, w5.heap.size = q := ⟨_, rfl⟩
           obtain ⟨X5, hX5⟩ : ∃ X, w5.alloc (.cells #[.int .i64 0, .int .i64 0, .int .i64 0, .int .i64 0, .int .i64 0, .int .i32 0, .string ⟨#[]⟩] 23) = X := ⟨_, rfl⟩
           have hbX : Below w5.heap.size w5 X5 := by rw [← hX5]; exact (Below.refl _ _).alloc (Nat.le_refl _) _
           have hLn : LnAt X5 q5 0 0 0 0 0 0 ⟨#[]⟩ := by rw [← hX5, ← hq5]; exact LnAt.new _ _ _ _ _ _ _ _ _
           have HX5 := Lib.hid (And.intro hLn (And.intro (HP5.out.1.trans (hbX.mono HP5.out.1.size)) (HP5.out.2.below hbX)))
           obtain ⟨-, t0, t1, t2, t3, t4, t5, t6⟩ := hLn; 
           have gX : X5.heap[q5]? = some (.cells #[.int .i64 0, .int .i64 0, .int .i64 0, .int .i64 0, .int .i64 0, .int .i32 0, .string ⟨#[]⟩] 23 (0, 0)) := by rw [← hX5, ← hq5]; exact heap_alloc_new w5 _
           have i0 : X5.setCell ⟨q5, 0, none⟩ (.int .i64 0) = X5 := setCell_id19 gX rfl
           have fz0 := frozen_of_row _ q5 0 _ _ gX
           have i1 : X5.setCell ⟨q5, 1, none⟩ (.int .i64 0) = X5 := setCell_id19 gX rfl
           have fz1 := frozen_of_row _ q5 1 _ _ gX
           have i2 : X5.setCell ⟨q5, 2, none⟩ (.int .i64 0) = X5 := setCell_id19 gX rfl
           have fz2 := frozen_of_row _ q5 2 _ _ gX
           have i3 : X5.setCell ⟨q5, 3, none⟩ (.int .i64 0) = X5 := setCell_id19 gX rfl
           have fz3 := frozen_of_row _ q5 3 _ _ gX
           have i4 : X5.setCell ⟨q5, 4, none⟩ (.int .i64 0) = X5 := setCell_id19 gX rfl
           have fz4 := frozen_of_row _ q5 4 _ _ gX
           have i5 : X5.setCell ⟨q5, 5, none⟩ (.int .i32 0) = X5 := setCell_id19 gX rfl
           have fz5 := frozen_of_row _ q5 5 _ _ gX
           have i6 : X5.setCell ⟨q5, 6, none⟩ (.string ⟨#[]⟩) = X5 := setCell_id19 gX rfl
           have fz6 := frozen_of_row _ q5 6 _ _ gX
           clear hbX gX)
        | (go_at_call 12; (with_reducible refine (lives19 _ HX5.out.2.2).mono ?_); rintro e w9 ⟨rfl, hb⟩; have HB := Lib.hid (HX5.out.2.1.trans (hb.mono HX5.out.2.1.size)); clear hb))
      go_ret
      exact ⟨rfl, HB.out⟩
    | some j =>
      rw [hD] at KD
      have hz0 : decV (some j) = .agg #[.int .i64 2, .int .i64 j.op, .int .i64 j.d, .int .i64 j.a, .int .i64 j.b, .int .i32 j.n, .string ⟨#[]⟩] := rfl
      simp only [hz0, Option.isSome_some] at KD
      have HDw := Lib.hid KD
      have hj := enc_dec j wd hD
      have hjn := enc_num hj
      have KE : ∀ w, RowsOk w → _ := fun w hR => encode_any 2 j.op j.d j.a j.b j.n ⟨#[]⟩ hjn.1 hjn.2 w hR
      rw [show encV 2 ⟨#[]⟩ ⟨j.op, j.d, j.a, j.b, j.n⟩ = some wd from by rw [← hj]; exact if_pos ⟨rfl, by rw [ba_toList19]⟩] at KE
      simp only [Option.getD_some, Option.isSome_some] at KE
      have HEj := Lib.hid KE
      have KM := rmayLine_any j.op j.d j.a j.b j.n hjn.1 hjn.2
      rw [show mayI ⟨j.op, j.d, j.a, j.b, j.n⟩ = true from (enc_some hj).1] at KM
      have HMj := Lib.hid KM
      clear K1 KD KE KM KV hv0 hz0 hE hD hEi hs0 hR hLd B0 hwb hwz bn hj hjn
      go_enter Tryd.func5, Tryd.ntmps5
      go_wp2_with (first
        | (go_at_call 13; (with_reducible refine (H1.out _ HL.out.2.2).mono ?_); rintro e w1 ⟨rfl, hb⟩
           have HL1 := Lib.hid (And.intro (HL.out.1.below hb) (And.intro (HL.out.2.1.trans (hb.mono HL.out.2.1.size)) (HL.out.2.2.below hb)))
           have HP1 := Lib.hid (And.intro (HL.out.2.1.trans (hb.mono HL.out.2.1.size)) (HL.out.2.2.below hb)); clear hb
           obtain ⟨-, u0, u1, u2, u3, u4, u5, u6⟩ := HL1.out.1)
        | (go_at_call 15; (with_reducible refine (HDv.out _ HL1.out.2.2).mono ?_); rintro e w2 ⟨rfl, hb⟩
           have hL2 := HL1.out.1.below hb
           have hP2 := HL1.out.2.1.trans (hb.mono HL1.out.2.1.size)
           have hR2 := HL1.out.2.2.below hb; clear hb
           obtain ⟨q2, hq2⟩ : ∃ q, w2.heap.size = q := ⟨_, rfl⟩
           obtain ⟨X2, hX2⟩ : ∃ X, w2.alloc (.cells #[.int .i64 2, .int .i64 op, .int .i64 d, .int .i64 a, .int .i64 b, .int .i32 n, .string ⟨#[]⟩] 23) = X := ⟨_, rfl⟩
           have hbX : Below w2.heap.size w2 X2 := by rw [← hX2]; exact (Below.refl _ _).alloc (Nat.le_refl _) _
           have hLn : LnAt X2 q2 2 op d a b n ⟨#[]⟩ := by rw [← hX2, ← hq2]; exact LnAt.new _ _ _ _ _ _ _ _ _
           have HP2 := Lib.hid (And.intro (hP2.trans (hbX.mono hP2.size)) (hR2.below hbX))
           obtain ⟨-, m0, m1, m2, m3, m4, m5, m6⟩ := hLn
           obtain ⟨-, n0, n1, n2, n3, n4, n5, n6⟩ := hL2.below hbX
           have gX : X2.heap[q2]? = some (.cells #[.int .i64 2, .int .i64 op, .int .i64 d, .int .i64 a, .int .i64 b, .int .i32 n, .string ⟨#[]⟩] 23 (0, 0)) := by rw [← hX2, ← hq2]; exact heap_alloc_new w2 _
           have i2 : X2.setCell ⟨q2, 6, none⟩ (.string ⟨#[]⟩) = X2 := setCell_id19 gX rfl
           have fz2 := frozen_of_row _ q2 6 _ _ gX
           clear hbX hP2 hR2 gX)
        | (go_at_call 15; (with_reducible refine (HDw.out _ HP2.out.2).mono ?_); rintro e w5 ⟨rfl, hb⟩
           have HP5 := Lib.hid (And.intro (HP2.out.1.trans (hb.mono HP2.out.1.size)) (HP2.out.2.below hb)); clear hb
           obtain ⟨q5, hq5⟩ : ∃ q, w5.heap.size = q := ⟨_, rfl⟩
           obtain ⟨X5, hX5⟩ : ∃ X, w5.alloc (.cells #[.int .i64 2, .int .i64 j.op, .int .i64 j.d, .int .i64 j.a, .int .i64 j.b, .int .i32 j.n, .string ⟨#[]⟩] 23) = X := ⟨_, rfl⟩
           have hbX : Below w5.heap.size w5 X5 := by rw [← hX5]; exact (Below.refl _ _).alloc (Nat.le_refl _) _
           have hLn : LnAt X5 q5 2 j.op j.d j.a j.b j.n ⟨#[]⟩ := by rw [← hX5, ← hq5]; exact LnAt.new _ _ _ _ _ _ _ _ _
           have HX5 := Lib.hid (And.intro hLn (And.intro (HP5.out.1.trans (hbX.mono HP5.out.1.size)) (HP5.out.2.below hbX)))
           obtain ⟨-, t0, t1, t2, t3, t4, t5, t6⟩ := hLn; 
           have gX : X5.heap[q5]? = some (.cells #[.int .i64 2, .int .i64 j.op, .int .i64 j.d, .int .i64 j.a, .int .i64 j.b, .int .i32 j.n, .string ⟨#[]⟩] 23 (0, 0)) := by rw [← hX5, ← hq5]; exact heap_alloc_new w5 _
           have i6 : X5.setCell ⟨q5, 6, none⟩ (.string ⟨#[]⟩) = X5 := setCell_id19 gX rfl
           have fz6 := frozen_of_row _ q5 6 _ _ gX
           clear hbX gX)
        | (go_at_call 13; (with_reducible refine (HEj.out _ HX5.out.2.2).mono ?_); rintro e w6 ⟨rfl, hb⟩
           have HP6 := Lib.hid (And.intro (HX5.out.1.below hb) (And.intro (HX5.out.2.1.trans (hb.mono HX5.out.2.1.size)) (HX5.out.2.2.below hb))); clear hb
           obtain ⟨-, s0, s1, s2, s3, s4, s5, s6⟩ := HP6.out.1)
        | (go_at_call 10; (with_reducible refine (HMj.out _).mono ?_); rintro e w7 ⟨rfl, hb⟩
           have HP7 := Lib.hid (And.intro (HP6.out.2.1.trans (hb.mono HP6.out.2.1.size)) (HP6.out.2.2.below hb)); clear hb)
        | (go_at_call 12; (with_reducible refine (lives19 _ HP7.out.2).mono ?_); rintro e w9 ⟨rfl, hb⟩; have HB := Lib.hid (HP7.out.1.trans (hb.mono HP7.out.1.size)); clear hb))
      go_ret
      exact ⟨rfl, HB.out⟩
end Go.Proofs.YtonkpojoniehlaaDoor
