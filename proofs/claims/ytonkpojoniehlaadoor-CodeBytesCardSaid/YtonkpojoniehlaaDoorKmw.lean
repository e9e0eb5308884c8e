/-
  Contract of code.Lines: the lines of the words that stand in some bytes.
-/
import Derived.Test.YtonkpojoniehlaaDoorKmv
namespace Go.Proofs.YtonkpojoniehlaaDoor
open Go.RowKit
set_option linter.unusedVariables false
set_option linter.unusedSimpArgs false
set_option maxRecDepth 100000
theorem set_same20 {cs : Array Value} {i : Nat} {v : Value} (h : cs[i]? = some v) : cs.setIfInBounds i v = cs := by
  apply Array.ext_getElem?
  intro j
  rw [Array.getElem?_setIfInBounds]
  split
  · next e =>
    subst e
    split
    · exact h.symm
    · next h2 => rw [Array.getElem?_eq_none (by omega)]
  · rfl
theorem setCell_id20 {w : World} {b i : Nat} {cs : Array Value} {T : TypeId} {v : Value} (h : w.heap[b]? = some (.cells cs T (0, 0))) (hv : cs[i]? = some v) : w.setCell ⟨b, i, none⟩ v = w := by
  have e : (w.setCell ⟨b, i, none⟩ v).heap = w.heap := by
    apply Array.ext_getElem?
    intro j
    by_cases hj : j = b
    · subst hj
      rw [heap_setCell_same w j i cs T v h, set_same20 hv, h]
    · exact heap_setCell_other w ⟨b, i, none⟩ j v hj
  unfold World.setCell at e ⊢
  simp only at e
  rw [e]
/-- One turn behind another. -/

def word4 (a b c d : Int) : Nat := (a + b * 256 + c * 65536 + d * 16777216).toNat
/-- The lines of the words of some bytes, from the front on. -/
def linesN : List Int → List Ins
  | a :: b :: c :: d :: r => match decI (word4 a b c d) with
    | some i => i :: linesN r
    | none => []
  | _ => []
def insC (i : Ins) : List Value := [.int .i64 2, .int .i64 i.op, .int .i64 i.d, .int .i64 i.a, .int .i64 i.b, .int .i32 i.n, .string ⟨#[]⟩]
theorem lines_short (zs : List Int) (h : zs.length < 4) : linesN zs = [] := by
  match zs, h with
  | [], _ => rfl
  | [_], _ => rfl
  | [_, _], _ => rfl
  | [_, _, _], _ => rfl
theorem drop4 (zs : List Int) (q : Nat) (h : q + 4 ≤ zs.length) : zs.drop q = zs.getD q 0 :: zs.getD (q + 1) 0 :: zs.getD (q + 2) 0 :: zs.getD (q + 3) 0 :: zs.drop (q + 4) := by
  have e : ∀ i, i < zs.length → zs.drop i = zs.getD i 0 :: zs.drop (i + 1) := fun i hi => by
    rw [List.drop_eq_getElem_cons hi]
    simp [List.getD, hi]
  rw [e q (by omega), e (q + 1) (by omega), e (q + 2) (by omega), e (q + 3) (by omega)]
theorem lines_some (zs : List Int) (q : Nat) (h : q + 4 ≤ zs.length) (i : Ins) (hd : decI (word4 (zs.getD q 0) (zs.getD (q + 1) 0) (zs.getD (q + 2) 0) (zs.getD (q + 3) 0)) = some i) : linesN (zs.drop q) = i :: linesN (zs.drop (q + 4)) := by
  rw [drop4 zs q h]
  simp only [linesN, hd]
theorem lines_none (zs : List Int) (q : Nat) (h : q + 4 ≤ zs.length) (hd : decI (word4 (zs.getD q 0) (zs.getD (q + 1) 0) (zs.getD (q + 2) 0) (zs.getD (q + 3) 0)) = none) : linesN (zs.drop q) = [] := by
  rw [drop4 zs q h]
  simp only [linesN, hd]
theorem drop_cons {α : Type} {l : List α} {k : Nat} {x : α} {r : List α} (h : l.drop k = x :: r) : l[k]? = some x ∧ l.drop (k + 1) = r ∧ k < l.length := by
  have hk : k < l.length := by
    rcases Nat.lt_or_ge k l.length with h1 | h1
    · exact h1
    · rw [List.drop_eq_nil_of_le h1] at h; cases h
  rw [List.drop_eq_getElem_cons hk] at h
  simp only [List.cons.injEq] at h
  exact ⟨by rw [List.getElem?_eq_getElem hk, h.1], h.2, hk⟩
theorem or4 (x0 x1 x2 x3 : Int) (a0 : 0 ≤ x0) (a1 : x0 ≤ 255) (b0 : 0 ≤ x1) (b1 : x1 ≤ 255) (d0 : 0 ≤ x2) (d1 : x2 ≤ 255) (e0 : 0 ≤ x3) (e1 : x3 ≤ 255) :
    bits .or .u32 0 x0 = x0 ∧ bits .or .u32 x0 (x1 * 256) = x0 + x1 * 256 ∧ bits .or .u32 (x0 + x1 * 256) (x2 * 65536) = x0 + x1 * 256 + x2 * 65536 ∧ bits .or .u32 (x0 + x1 * 256 + x2 * 65536) (x3 * 16777216) = x0 + x1 * 256 + x2 * 65536 + x3 * 16777216 := by
  obtain ⟨y0, rfl⟩ := Int.eq_ofNat_of_zero_le a0
  obtain ⟨y1, rfl⟩ := Int.eq_ofNat_of_zero_le b0
  obtain ⟨y2, rfl⟩ := Int.eq_ofNat_of_zero_le d0
  obtain ⟨y3, rfl⟩ := Int.eq_ofNat_of_zero_le e0
  have oj : ∀ (x c k : Nat) (K : Int), ((2 ^ k : Nat) : Int) = K → x < 2 ^ k → x < 4294967296 → c * 2 ^ k < 4294967296 → bits .or .u32 (x : Int) ((c : Int) * K) = (x : Int) + (c : Int) * K := fun x c k K hK hx hx2 hc => by
    have h := or_add x c k K hK hx hx2 hc
    rw [up_cast c k K hK] at h ⊢
    rw [Int.emod_eq_of_lt (by omega) (by omega)] at h
    rw [h]
    omega
  refine ⟨?_, ?_, ?_, ?_⟩
  · have h := or_zero0 y0 (by omega)
    rwa [Int.emod_eq_of_lt (by omega) (by omega)] at h
  · exact oj y0 y1 8 256 (by simp) (by omega) (by omega) (by omega)
  · have h := oj (y0 + y1 * 256) y2 16 65536 (by simp) (by omega) (by omega) (by omega)
    have e : (((y0 + y1 * 256 : Nat)) : Int) = (y0 : Int) + (y1 : Int) * 256 := by omega
    rwa [e] at h
  · have h := oj (y0 + y1 * 256 + y2 * 65536) y3 24 16777216 (by simp) (by omega) (by omega) (by omega)
    have e : (((y0 + y1 * 256 + y2 * 65536 : Nat)) : Int) = (y0 : Int) + (y1 : Int) * 256 + (y2 : Int) * 65536 := by omega
    rwa [e] at h

/-- What Lines hands back. -/
def LinesOut (zs : List Int) (w w' : World) (e : Ending) : Prop :=
  ∃ O c, e = .returned (.tuple #[.slice O (linesN zs).length c, .int .i64 (((linesN zs).length : Int) * 4)]) ∧ SLine 7 w' O (linesN zs).length c ((linesN zs).flatMap insC) ∧ ∀ k ∈ blk O, w.heap.size ≤ k
set_option maxHeartbeats 6400000 in
theorem lines_any (w : World) (A : Option Addr) (n c : Nat) (zs : List Int) (h : RowZ w A n zs) (hn : n ≤ 1000) (hR : RowsOk w) :
    Calls Tryd.prog 17 #[.slice A n c] w fun e w' => LinesOut zs w w' e ∧ Below w.heap.size w w' := by
  have HL := Lib.hid h
  have HR := Lib.hid hR
  have HN := Lib.hid h.1
  have hn2 : (n : Int) ≤ 1000 := by omega
  clear h hR
  go_enter Tryd.func17, Tryd.ntmps17
  go_wp2_with fail
  go_loopw [4, 5] (fun v i wr => ∃ (k q : Nat) (O : Option Addr) (oc : Nat), q = 4 * k ∧ q ≤ n ∧ i = .int .i64 q ∧ v = .slice O k oc ∧ Hid (SLine 7 wr O k oc (((linesN zs).take k).flatMap insC) ∧ (∀ b ∈ blk O, w.heap.size ≤ b) ∧ Below w.heap.size w wr ∧ (linesN zs).drop k = linesN (zs.drop q) ∧ k ≤ (linesN zs).length)) (fun _ i _ => n - (intOf i).toNat)
  case atStart => exact ⟨0, 0, none, 0, rfl, by omega, rfl, rfl, Lib.hid ⟨SLine.nil 7 _, fun k hk => (by cases hk), Below.refl _ _, rfl, by omega⟩⟩
  case round =>
    obtain ⟨k, q, O, oc, hq, hqn, rfl, rfl, HI⟩ := hrel
    have hqi : (q : Int) ≤ 1000 := by omega
    have HQ := Lib.hid hq
    have hkn : k ≤ 250 := by omega
    have hki : (k : Int) ≤ 250 := by omega
    have hfin : (linesN zs).drop k = [] → ∀ W', Below wr.heap.size wr W' → LinesOut zs w W' (.returned (.tuple #[.slice O k oc, .int .i64 ((k : Int) * 4)])) ∧ Below w.heap.size w W' := fun hd W' hb => by
      have hk : k = (linesN zs).length := by
        have h1 := congrArg List.length hd
        have h2 := HI.out.2.2.2.2
        simp at h1
        omega
      have hs := HI.out.1.below hb
      rw [List.take_of_length_le (by omega)] at hs
      subst hk
      exact ⟨⟨O, oc, rfl, hs, HI.out.2.1⟩, HI.out.2.2.1.trans (hb.mono HI.out.2.2.1.size)⟩
    have HF := Lib.hid hfin
    clear hfin hq
    rcases Nat.lt_or_ge n (q + 4) with hge | hlt
    · have hcond : ¬ ((q : Int) + 4 ≤ (n : Int)) := by omega
      have HE := Lib.hid (HF.out (by rw [HI.out.2.2.2.1]; exact lines_short _ (by rw [List.length_drop, HN.out]; omega)) wr (Below.refl _ _))
      clear HI
      go_wp2_with fail
      go_ret2
      exact HE.out
    · have hcond : (q : Int) + 4 ≤ (n : Int) := by omega
      obtain ⟨g, off, rfl, hg, hc⟩ := (HL.out.below HI.out.2.2.1).2.2 (by omega)
      have y0 := hc q (by omega)
      have y1 := hc (q + 1) (by omega)
      have y2 := hc (q + 2) (by omega)
      have y3 := hc (q + 3) (by omega)
      have hz : ∀ i, i < n → 0 ≤ zs.getD i 0 ∧ zs.getD i 0 ≤ 255 := fun i hi => by
        have hi' : i < zs.length := by rw [HN.out]; exact hi
        have e : zs.getD i 0 = zs[i] := by simp [List.getD, hi']
        rw [e]
        exact HL.out.2.1 _ (List.getElem_mem hi')
      obtain ⟨a0, a1⟩ := hz q (by omega)
      obtain ⟨b0, b1⟩ := hz (q + 1) (by omega)
      obtain ⟨d0, d1⟩ := hz (q + 2) (by omega)
      obtain ⟨e0, e1⟩ := hz (q + 3) (by omega)
      have hSome := lines_some zs q (by rw [HN.out]; omega)
      have hNone := lines_none zs q (by rw [HN.out]; omega)
      have HS := Lib.hid hSome
      have HNo := Lib.hid hNone
      clear hz hc hg hSome hNone
      generalize zs.getD q 0 = x0 at *
      generalize zs.getD (q + 1) 0 = x1 at *
      generalize zs.getD (q + 2) 0 = x2 at *
      generalize zs.getD (q + 3) 0 = x3 at *
      obtain ⟨o0, o1, o2, o3⟩ := or4 x0 x1 x2 x3 a0 a1 b0 b1 d0 d1 e0 e1
      have hwd : ((word4 x0 x1 x2 x3 : Nat) : Int) = x0 + x1 * 256 + x2 * 65536 + x3 * 16777216 := Int.toNat_of_nonneg (by omega)
      have KD := fun W hR => decode_any (word4 x0 x1 x2 x3) (by omega) W hR
      rw [hwd] at KD
      clear hwd
      generalize word4 x0 x1 x2 x3 = wd at *
      cases hD : decI wd with
      | none =>
        rw [hD] at KD
        have hz0 : decV none = .agg #[.int .i64 0, .int .i64 0, .int .i64 0, .int .i64 0, .int .i64 0, .int .i32 0, .string ⟨#[]⟩] := rfl
        simp only [hz0, Option.isSome_none] at KD
        have HDw := Lib.hid KD
        have HE := Lib.hid (HF.out (by rw [HI.out.2.2.2.1]; exact HNo.out hD))
        have HBB := Lib.hid (HR.out.below HI.out.2.2.1)
        clear KD hz0 hD HI
        go_wp2_with fail
        refine wp_loop_rounds 5 ?_
        rw [rounds_succ]
        go_wp2_with fail
        rw [rounds_succ]
        go_wp2_with fail
        rw [rounds_succ]
        go_wp2_with fail
        rw [rounds_succ]
        go_wp2_with fail
        rw [rounds_succ]
        go_wp2_with fail
        refine (HDw.out _ HBB.out).mono ?_
        rintro e w5 ⟨rfl, hb5⟩
        obtain ⟨q5, hq5⟩ : ∃ q, w5.heap.size = q := ⟨_, rfl⟩
        obtain ⟨X5, hX5⟩ : ∃ X, w5.alloc (.cells #[.int .i64 0, .int .i64 0, .int .i64 0, .int .i64 0, .int .i64 0, .int .i32 0, .string ⟨#[]⟩] 23) = X := ⟨_, rfl⟩
        have hbX : Below w5.heap.size w5 X5 := by rw [← hX5]; exact (Below.refl _ _).alloc (Nat.le_refl _) _
        have hLn : LnAt X5 q5 0 0 0 0 0 0 ⟨#[]⟩ := by rw [← hX5, ← hq5]; exact LnAt.new _ _ _ _ _ _ _ _ _
        have gX : X5.heap[q5]? = some (.cells #[.int .i64 0, .int .i64 0, .int .i64 0, .int .i64 0, .int .i64 0, .int .i32 0, .string ⟨#[]⟩] 23 (0, 0)) := by rw [← hX5, ← hq5]; exact heap_alloc_new w5 _
        obtain ⟨-, t0, t1, t2, t3, t4, t5, t6⟩ := hLn
        have i0 : X5.setCell ⟨q5, 0, none⟩ (.int .i64 0) = X5 := setCell_id20 gX rfl
        have fz0 := frozen_of_row _ q5 0 _ _ gX
        have i1 : X5.setCell ⟨q5, 1, none⟩ (.int .i64 0) = X5 := setCell_id20 gX rfl
        have fz1 := frozen_of_row _ q5 1 _ _ gX
        have i2 : X5.setCell ⟨q5, 2, none⟩ (.int .i64 0) = X5 := setCell_id20 gX rfl
        have fz2 := frozen_of_row _ q5 2 _ _ gX
        have i3 : X5.setCell ⟨q5, 3, none⟩ (.int .i64 0) = X5 := setCell_id20 gX rfl
        have fz3 := frozen_of_row _ q5 3 _ _ gX
        have i4 : X5.setCell ⟨q5, 4, none⟩ (.int .i64 0) = X5 := setCell_id20 gX rfl
        have fz4 := frozen_of_row _ q5 4 _ _ gX
        have i5 : X5.setCell ⟨q5, 5, none⟩ (.int .i32 0) = X5 := setCell_id20 gX rfl
        have fz5 := frozen_of_row _ q5 5 _ _ gX
        have i6 : X5.setCell ⟨q5, 6, none⟩ (.string ⟨#[]⟩) = X5 := setCell_id20 gX rfl
        have fz6 := frozen_of_row _ q5 6 _ _ gX
        have HE5 := Lib.hid (HE.out X5 (hb5.trans (hbX.mono hb5.size)))
        clear hb5 hbX gX
        go_wp2_with fail
        go_ret2
        exact HE5.out
      | some i =>
        rw [hD] at KD
        have hz0 : decV (some i) = .agg #[.int .i64 2, .int .i64 i.op, .int .i64 i.d, .int .i64 i.a, .int .i64 i.b, .int .i32 i.n, .string ⟨#[]⟩] := rfl
        simp only [hz0, Option.isSome_some] at KD
        have HDw := Lib.hid KD
        have HBB := Lib.hid (HR.out.below HI.out.2.2.1)
        have HD2 := Lib.hid (HS.out i hD)
        clear KD hz0 hD
        go_wp2_with fail
        refine wp_loop_rounds 5 ?_
        rw [rounds_succ]
        go_wp2_with fail
        rw [rounds_succ]
        go_wp2_with fail
        rw [rounds_succ]
        go_wp2_with fail
        rw [rounds_succ]
        go_wp2_with fail
        rw [rounds_succ]
        go_wp2_with fail
        refine (HDw.out _ HBB.out).mono ?_
        rintro e w5 ⟨rfl, hb5⟩
        obtain ⟨q5, hq5⟩ : ∃ q, w5.heap.size = q := ⟨_, rfl⟩
        obtain ⟨X5, hX5⟩ : ∃ X, w5.alloc (.cells #[.int .i64 2, .int .i64 i.op, .int .i64 i.d, .int .i64 i.a, .int .i64 i.b, .int .i32 i.n, .string ⟨#[]⟩] 23) = X := ⟨_, rfl⟩
        have hbX : Below w5.heap.size w5 X5 := by rw [← hX5]; exact (Below.refl _ _).alloc (Nat.le_refl _) _
        have hLn : LnAt X5 q5 2 i.op i.d i.a i.b i.n ⟨#[]⟩ := by rw [← hX5, ← hq5]; exact LnAt.new _ _ _ _ _ _ _ _ _
        have gX : X5.heap[q5]? = some (.cells #[.int .i64 2, .int .i64 i.op, .int .i64 i.d, .int .i64 i.a, .int .i64 i.b, .int .i32 i.n, .string ⟨#[]⟩] 23 (0, 0)) := by rw [← hX5, ← hq5]; exact heap_alloc_new w5 _
        obtain ⟨-, t0, t1, t2, t3, t4, t5, t6⟩ := hLn
        have i6 : X5.setCell ⟨q5, 6, none⟩ (.string ⟨#[]⟩) = X5 := setCell_id20 gX rfl
        have fz6 := frozen_of_row _ q5 6 _ _ gX
        have hb6 := hb5.trans (hbX.mono hb5.size)
        have hdr := HI.out.2.2.2.1
        rw [HD2.out] at hdr
        obtain ⟨g1, g2, g3⟩ := drop_cons hdr
        obtain ⟨O1, c1, w6, r1, s6, f6, b6⟩ := ln_push w.heap.size w X5 O k oc _ (HI.out.1.below hb6) HI.out.2.1 (HI.out.2.2.1.trans (hb6.mono HI.out.2.2.1.size)) (Nat.le_trans HI.out.2.2.1.size hb6.size) (by omega) ⟨2, i.op, i.d, i.a, i.b, i.n, ⟨#[]⟩⟩
        have e2 : ((linesN zs).take k).flatMap insC ++ (Ln.mk 2 i.op i.d i.a i.b i.n ⟨#[]⟩).cells = ((linesN zs).take (k + 1)).flatMap insC := by
          rw [List.take_add_one, g1, List.flatMap_append]
          simp [insC, Ln.cells]
        rw [e2] at s6
        have HN6 : Hid (SLine 7 w6 O1 (k + 1) c1 (((linesN zs).take (k + 1)).flatMap insC) ∧ (∀ b ∈ blk O1, w.heap.size ≤ b) ∧ Below w.heap.size w w6 ∧ (linesN zs).drop (k + 1) = linesN (zs.drop (q + 4)) ∧ k + 1 ≤ (linesN zs).length) := Lib.hid ⟨s6, f6, b6, g2, g3⟩
        have R1 := Lib.hid r1
        clear hb5 hbX hb6 hdr g1 g2 g3 r1 s6 f6 b6 e2 gX HI
        go_wp2_with (at_builtin; refine Lib.wpList_append_run _ rfl _ _ _ _ rfl _ _ rfl rfl _ _ R1.out ?_)
        go_roundw
        case rel => exact ⟨k + 1, q + 4, O1, c1, by have := HQ.out; omega, by omega, by go_num, by first | rfl | go_num, HN6⟩
        case measure => simp [intOf] <;> omega
end Go.Proofs.YtonkpojoniehlaaDoor
