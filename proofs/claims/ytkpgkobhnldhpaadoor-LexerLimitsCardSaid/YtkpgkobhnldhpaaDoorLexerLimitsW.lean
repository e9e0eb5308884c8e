/-
  The walk of the law LexerLimits: it answers true and writes nothing that was there.
-/
import Derived.Test.YtkpgkobhnldhpaaDoorLexerBackW
import Derived.Test.YtkpgkobhnldhpaaDoorLxV
import Derived.Test.YtkpgkobhnldhpaaDoorSlw
import Derived.Deep.Cut
import Derived.Deep.CutRange
namespace Go.Proofs.YtkpgkobhnldhpaaDoor
open Go.RowKit
set_option linter.unusedVariables false
set_option maxRecDepth 100000

def fillC (k n : Nat) (a b : Int) : List Value := List.replicate k (Value.int .u8 a) ++ List.replicate (n - k) (Value.int .u8 b)
theorem fill_step {w : World} {g k n : Nat} {a b : Int} {T : TypeId} {fr : Nat × Nat} (h : w.heap[g]? = some (.cells (fillC k n a b).toArray T fr)) (hk : k < n) :
    (w.setCell ⟨g, k, none⟩ (.int .u8 a)).heap[g]? = some (.cells (fillC (k + 1) n a b).toArray T fr) := by
  have e : (fillC k n a b).toArray.set! k (.int .u8 a) = (fillC (k + 1) n a b).toArray := by
    apply Array.ext'
    unfold fillC
    have e1 : n - k = (n - (k + 1)) + 1 := by omega
    rw [e1, List.replicate_succ]
    simp only [Array.set!_eq_setIfInBounds, List.setIfInBounds_toArray]
    rw [List.set_append_right _ _ (by simp), List.length_replicate, Nat.sub_self, List.set_cons_zero, List.replicate_succ']
    simp
  rw [← e]
  simp [World.setCell, Array.getElem?_modify, h]
theorem fill_cell {w : World} {g k n : Nat} {a b : Int} {T : TypeId} (h : w.heap[g]? = some (.cells (fillC k n a b).toArray T (0, 0))) (j : Nat) (hj : j < n) (hk : k ≤ n) : (∃ v, w.cell? ⟨g, j, none⟩ = some (.int .u8 v)) ∧ w.frozen? ⟨g, j, none⟩ = false := by
  refine ⟨?_, frozen_of_row _ g j _ T h⟩
  rw [cell_of_row _ g j _ _ (0, 0) h]
  unfold fillC
  rcases Nat.lt_or_ge j k with h1 | h1
  · exact ⟨a, by simp [List.getElem?_append, h1]⟩
  · refine ⟨b, ?_⟩
    have e : (List.replicate k (Value.int .u8 a) ++ List.replicate (n - k) (Value.int .u8 b))[j]? = some (Value.int .u8 b) := by
      rw [List.getElem?_append_right (by simpa using h1), List.length_replicate, List.getElem?_replicate_of_lt (by omega)]
    simpa using e
theorem fill_row {w : World} {g n : Nat} {a b : Int} {T : TypeId} (h : w.heap[g]? = some (.cells (fillC n n a b).toArray T (0, 0))) (ha : 0 ≤ a ∧ a ≤ 255) : RowZ w (some ⟨g, 0, none⟩) n (List.replicate n a) := by
  refine ⟨by simp, fun z hz => by rw [List.mem_replicate] at hz; rw [hz.2]; exact ha, fun hn => ⟨g, 0, rfl, lt_of_block h, fun i hi => ?_⟩⟩
  rw [Nat.zero_add, cell_of_row _ g i _ _ (0, 0) h]
  unfold fillC
  simp [hi]
theorem str_rep (n : Nat) (c : UInt8) (a : Int) (h : a = (c.toNat : Int)) : strOfNums (List.replicate n a) = strL (List.replicate n c) := by
  subst h
  unfold strOfNums strL
  simp
theorem make_n (n : Nat) (hn : n ≤ 65539) (W : World) : (Instr.makeSlice 44 (.int .i64 (n : Int)) (.int .i64 (n : Int))).run Tryd.prog W = .ok (.slice (some ⟨W.heap.size, 0, none⟩) n n) (W.alloc (.cells (fillC 0 n 120 0).toArray 5)) := by
  obtain ⟨i0, hi, hz0, hz1, hz2⟩ := info_parts info_u8
  have h := run_make (P := Tryd.prog) W 44 5 i0 (.int .u8 0) Tryd.underlying44 hi hz0 .i64 .i64 n n (by omega) (by omega) (by rw [hz2]; omega) (by omega)
  rw [h]
  congr 3
  rw [hz1, Int.toNat_natCast, Nat.mul_one]
  apply Array.toList_inj.1
  show (madeCells #[.int .u8 0] n).toList = _
  rw [toList_madeCells_one]
  unfold fillC
  simp
theorem fill_turn (n : Nat) (a b c : Int) : fillC n n a b = fillC 0 n c a := by unfold fillC; simp
/-- What All answers of so many x. -/
def OneX (n : Nat) (W : World) (e : Ending) (w' : World) : Prop := ∃ (A : Option Addr) (m c : Nat) (er x y z : Int), e = .returned (.tuple #[.slice A m c, .int .i64 er, .agg #[.int .i64 x, .int .i64 y, .int .i64 z]]) ∧ (n ≤ 64 → er = 0 ∧ m = 1 ∧ 1 ≤ c ∧ ∃ g off, A = some ⟨g, off, none⟩ ∧ g < w'.heap.size ∧ w'.cell? ⟨g, off, none⟩ = some (.int .i64 1)) ∧ (64 < n → er = 2) ∧ Below W.heap.size W w'
theorem all_x (n : Nat) (h1 : 1 ≤ n) (h2 : n ≤ 65539) (W : World) (hL : Laid W) : Calls Tryd.prog 11 #[.string (strL (List.replicate n 120))] W (OneX n W) := by
  have hs : (strL (List.replicate n 120)).size ≤ 4000000000 := by rw [strL_size]; simp; omega
  rcases Nat.lt_or_ge 64 n with h | h
  · have hb : allN (strL (List.replicate n 120)).data.toList = .bad 2 0 := by
      rw [strL_list]
      rcases Nat.lt_or_ge 65536 n with h3 | h3
      · exact lex_x_huge n 120 h3
      · exact lex_x_big n h h3
    refine (one2 _ hs 2 0 hb 2 0 rfl rfl W hL).mono ?_
    rintro e w' ⟨x, y, rfl, hB⟩
    exact ⟨none, 0, 0, 2, 0, x, y, rfl, fun h3 => by omega, fun _ => rfl, hB⟩
  · have hb : allN (strL (List.replicate n 120)).data.toList = .ok [⟨1, List.replicate n 120, 0, 0⟩] := by
      rw [strL_list]
      exact lex_x n h1 h
    refine (all_ok _ hs _ hb W hL).mono ?_
    rintro e w' ⟨A, c, rfl, hr, hc, hB⟩
    obtain ⟨g, off, rfl, hg, c0, _⟩ := hr.2 0 _ rfl
    rw [Nat.zero_mul, Nat.add_zero] at c0
    exact ⟨_, 1, c, 0, 0, 0, 0, rfl, fun _ => ⟨rfl, rfl, hc, g, off, rfl, hg, c0⟩, fun h3 => by omega, hB⟩
def OneS (n : Nat) (W : World) (e : Ending) (w' : World) : Prop := ∃ (A : Option Addr) (m c : Nat) (er x y z : Int), e = .returned (.tuple #[.slice A m c, .int .i64 er, .agg #[.int .i64 x, .int .i64 y, .int .i64 z]]) ∧ (n ≤ 65536 → er = 0 ∧ m = n) ∧ (65536 < n → er = 2) ∧ Below W.heap.size W w'
theorem all_s (n : Nat) (h2 : n ≤ 65539) (W : World) (hL : Laid W) : Calls Tryd.prog 11 #[.string (strL (List.replicate n 59))] W (OneS n W) := by
  have hs : (strL (List.replicate n 59)).size ≤ 4000000000 := by rw [strL_size]; simp; omega
  rcases Nat.lt_or_ge 65536 n with h | h
  · refine (one2 _ hs 2 0 (by rw [strL_list]; exact lex_x_huge n 59 h) 2 0 rfl rfl W hL).mono ?_
    rintro e w' ⟨x, y, rfl, hB⟩
    exact ⟨none, 0, 0, 2, 0, x, y, rfl, fun h3 => by omega, fun _ => rfl, hB⟩
  · obtain ⟨ts, ht, hl⟩ := lex_semi_all n h
    refine (all_ok _ hs ts (by rw [strL_list]; exact ht) W hL).mono ?_
    rintro e w' ⟨A, c, rfl, hr, hc, hB⟩
    exact ⟨A, ts.length, c, 0, 0, 0, 0, rfl, fun _ => ⟨rfl, hl⟩, fun h3 => by omega, hB⟩
def OneN (k : Nat) (W : World) (e : Ending) (w' : World) : Prop := ∃ (A : Option Addr) (m c : Nat) (er x y z : Int), e = .returned (.tuple #[.slice A m c, .int .i64 er, .agg #[.int .i64 x, .int .i64 y, .int .i64 z]]) ∧ (k ≤ 2147483647 → er = 0 ∧ m = 1 ∧ 1 ≤ c ∧ ∃ g off, A = some ⟨g, off, none⟩ ∧ g < w'.heap.size ∧ w'.cell? ⟨g, off + 2, none⟩ = some (.int .i32 (k : Int))) ∧ (2147483647 < k → er = 11) ∧ Below W.heap.size W w'
theorem all_n (k : Nat) (hk : k ≤ 4294967295) (W : World) (hL : Laid W) : Calls Tryd.prog 11 #[.string (strL (Lib.decDigits k))] W (OneN k W) := by
  have hln := lex_num k hk
  have hs : (strL (Lib.decDigits k)).size ≤ 4000000000 := by
    rw [strL_size]
    have := dd_len (k / 10) (by omega)
    by_cases h : k < 10
    · rw [dd_lt k h]; simp
    · rw [dd_ge k (by omega), List.length_append]; simp; omega
  by_cases h : k ≤ 2147483647
  · rw [if_pos h] at hln
    refine (all_ok _ hs _ (by rw [strL_list]; exact hln) W hL).mono ?_
    rintro e w' ⟨A, c, rfl, hr, hc, hB⟩
    obtain ⟨g, off, rfl, hg, c0, c1, c2, _⟩ := hr.2 0 _ rfl
    rw [Nat.zero_mul, Nat.add_zero] at c2
    exact ⟨_, 1, c, 0, 0, 0, 0, rfl, fun _ => ⟨rfl, rfl, hc, g, off, rfl, hg, c2⟩, fun h3 => by omega, hB⟩
  · rw [if_neg h] at hln
    refine (one2 _ hs 11 0 (by rw [strL_list]; exact hln) 11 0 rfl rfl W hL).mono ?_
    rintro e w' ⟨x, y, rfl, hB⟩
    exact ⟨none, 0, 0, 11, 0, x, y, rfl, fun h3 => by omega, fun _ => rfl, hB⟩
theorem str_empty' : (strL []).toList.isEmpty = true ∧ (strL []).toList = [] := by rw [ba_toList]; exact ⟨rfl, rfl⟩
theorem str_full' (l : List UInt8) (h : l ≠ []) : (strL l).toList.isEmpty = false ∧ ¬ (strL l).toList = [] := by
  rw [ba_toList, strL_list]
  cases l with
  | nil => exact absurd rfl h
  | cons => exact ⟨rfl, by simp⟩
theorem dd_long (k : Nat) (h : k ≤ 4294967295) : (Lib.decDigits k).length ≤ 11 := by
  have := dd_len (k / 10) (by omega)
  by_cases h1 : k < 10
  · rw [dd_lt k h1]; simp
  · rw [dd_ge k (by omega), List.length_append]; simp; omega
theorem strL_add (a b : List UInt8) : strL a ++ strL b = strL (a ++ b) := by
  apply ByteArray.ext
  simp [strL]
set_option maxHeartbeats 4000000 in
theorem lexerLimits_walk (a0 a1 : Int) (W : World) (w0 : (Lit.int .i64 a0).wf = true) (w1 : (Lit.int .u32 a1).wf = true) (hL : laidMetH Tryd.prog Rows.lexerLimitsRow.laid W) (hsh : W.ShapedOpen Tryd.prog) :
    Calls Tryd.prog 9 #[.int .i64 a0, .int .u32 a1] W fun e w' => e = .returned (.bool true) ∧ Below W.heap.size W w' := by
  have HL := Lib.hid (laid_of W hL hsh)
  obtain ⟨b0, b1⟩ := bounds_i64 w0
  obtain ⟨d0, d1⟩ := bounds_u32 w1
  clear hL hsh w0 w1
  go_enter Tryd.func9, Tryd.ntmps9
  go_upto_region 2 with fail
  obtain ⟨N, hN⟩ : ∃ N : Nat, max 1 (min a0 65539) = (N : Int) := ⟨(max 1 (min a0 65539)).toNat, by omega⟩
  rw [hN]
  have hN1 : 1 ≤ N := by omega
  have hN2 : N ≤ 65539 := by omega
  have hN1i : (1 : Int) ≤ (N : Int) := by omega
  have hN2i : (N : Int) ≤ 65539 := by omega
  obtain ⟨K, hK⟩ : ∃ K : Nat, (K : Int) = a1 := ⟨a1.toNat, by omega⟩
  subst hK
  have hK1 : K ≤ 4294967295 := by omega
  clear hN b0 b1
  have hmk := make_n N hN2
  go_wp2_with fail
  obtain ⟨g, hg⟩ : ∃ g, g = W.heap.size := ⟨_, rfl⟩
  have hV0 : (W.alloc (.cells (fillC 0 N 120 0).toArray 5)).heap[g]? = some (.cells (fillC 0 N 120 0).toArray 5 (0, 0)) := by rw [hg]; exact heap_alloc_new W _
  have hB0 : Below g W (W.alloc (.cells (fillC 0 N 120 0).toArray 5)) := by rw [hg]; exact (Below.refl _ _).alloc (Nat.le_refl _) _
  rw [← hg]
  have HV0 := Lib.hid (And.intro hV0 hB0)
  have HGE := Lib.hid hg
  clear hV0 hB0 hmk hg
  go_loopw [26] (fun i wr => ∃ k : Nat, k ≤ N ∧ i = .int .i64 k ∧ Hid (wr.heap[g]? = some (.cells (fillC k N 120 0).toArray 5 (0, 0)) ∧ Below g W wr)) (fun i _ => N - (intOf i).toNat)
  case atStart => exact ⟨0, Nat.zero_le _, rfl, HV0⟩
  case round =>
    obtain ⟨k, hk, rfl, HI⟩ := hrel
    by_cases hlt : k < N
    · obtain ⟨⟨v, hc⟩, hf⟩ := fill_cell HI.out.1 k hlt hk
      go_wp2
      go_roundw
      case rel => exact ⟨k + 1, by omega, by go_num, Lib.hid ⟨fill_step HI.out.1 hlt, HI.out.2.setCell (Nat.le_refl g) _⟩⟩
      case measure => simp [intOf]; omega
    · obtain rfl : k = N := by omega
      have hcv := conv_row (fill_row HI.out.1 ⟨by decide, by decide⟩) k
      rw [str_rep k 120 120 rfl] at hcv
      have HX := Lib.hid (all_x k hN1 hN2 wr (HL.out.below (by rw [← HGE.out]; exact HI.out.2)))
      have HI2 := Lib.hid HI.out
      generalize strL (List.replicate k 120) = sx at *
      clear HI HV0
      go_wp2_with fail
      refine HX.out.mono ?_
      rintro e w1 ⟨A, m, c, er, x, y, z, rfl, hx1, hx2, hB1⟩
      have HX1 := Lib.hid (And.intro hx1 hx2)
      have hgl : g < wr.heap.size := lt_of_block HI2.out.1
      have HW1 := Lib.hid (And.intro ((hB1.block g hgl).trans HI2.out.1) (HI2.out.2.trans (hB1.mono (Nat.le_of_lt hgl))))
      clear hx1 hx2 hB1 hcv HX
      have hV := (Below.refl w1.heap.size w1).alloc (Nat.le_refl _) (.cells #[.int .i64 x, .int .i64 y, .int .i64 z] 26)
      have HV1 : Hid ((w1.alloc (.cells #[.int .i64 x, .int .i64 y, .int .i64 z] 26)).heap[g]? = some (.cells (fillC k k 120 0).toArray 5 (0, 0)) ∧ Below g W (w1.alloc (.cells #[.int .i64 x, .int .i64 y, .int .i64 z] 26)) ∧ (k ≤ 64 → er = 0 ∧ m = 1 ∧ 1 ≤ c ∧ ∃ gg off, A = some ⟨gg, off, none⟩ ∧ (w1.alloc (.cells #[.int .i64 x, .int .i64 y, .int .i64 z] 26)).cell? ⟨gg, off, none⟩ = some (.int .i64 1)) ∧ (64 < k → er = 2)) := Lib.hid ⟨(hV.block g (lt_of_block HW1.out.1)).trans HW1.out.1, HW1.out.2.alloc (Nat.le_of_lt (lt_of_block HW1.out.1)) _, fun h => by
        obtain ⟨q1, q2, q3, gg, off, q4, q5, q6⟩ := HX1.out.1 h
        exact ⟨q1, q2, q3, gg, off, q4, (hV.cell (p := ⟨gg, off, none⟩) q5).trans q6⟩, HX1.out.2⟩
      clear hV HX1 HW1 HI2
      go_upto_region 9 with fail
      generalize w1.alloc (.cells #[.int .i64 x, .int .i64 y, .int .i64 z] 26) = V1 at *
      go_cut [65] from 40 to 64 (fun v wx => v = .bool false ∧ wx = V1)
      case first =>
        by_cases h64 : (64 : Int) < (k : Int)
        · have her := HV1.out.2.2.2 (by omega)
          subst her
          go_wp2
          go_meet
          exact ⟨rfl, rfl⟩
        · obtain ⟨her, hm1, hc1, gg, off, rfl, hcc⟩ := HV1.out.2.2.1 (by omega)
          subst her hm1
          go_wp2
          go_meet
          exact ⟨rfl, rfl⟩
      case rest =>
        obtain ⟨rfl, hwc⟩ := hcut
        have hwc2 : V1 = wc := hwc.symm
        subst hwc2
        have hvb := HV1.out.1
        rw [fill_turn k 120 0 59] at hvb
        have HV2 := Lib.hid (And.intro hvb HV1.out.2.1)
        clear hvb hwc HV1
        go_wp2_with fail
        go_loopw [68] (fun i wx => ∃ j : Nat, j ≤ k ∧ i = .int .i64 j ∧ Hid (wx.heap[g]? = some (.cells (fillC j k 59 120).toArray 5 (0, 0)) ∧ Below g W wx)) (fun i _ => k - (intOf i).toNat)
        case atStart => exact ⟨0, Nat.zero_le _, rfl, HV2⟩
        case round =>
          obtain ⟨j, hj, rfl, HJ⟩ := hrel
          by_cases hjl : j < k
          · obtain ⟨⟨v, hc⟩, hf⟩ := fill_cell HJ.out.1 j hjl hj
            go_wp2
            go_roundw
            case rel => exact ⟨j + 1, by omega, by go_num, Lib.hid ⟨fill_step HJ.out.1 hjl, HJ.out.2.setCell (Nat.le_refl g) _⟩⟩
            case measure => simp [intOf]; omega
          · obtain rfl : j = k := by omega
            have hcv := conv_row (fill_row HJ.out.1 ⟨by decide, by decide⟩) j
            rw [str_rep j 59 59 rfl] at hcv
            have HX := Lib.hid (all_s j hN2 wr (HL.out.below (by rw [← HGE.out]; exact HJ.out.2)))
            have HJ2 := Lib.hid HJ.out
            generalize strL (List.replicate j 59) = sx at *
            clear HJ HV2
            go_wp2_with fail
            refine HX.out.mono ?_
            rintro e w2 ⟨A2, m2, c2, er2, x2, y2, z2, rfl, hx1, hx2, hB2⟩
            have hgl : g < wr.heap.size := lt_of_block HJ2.out.1
            have hB5 : Below g W w2 := HJ2.out.2.trans (hB2.mono (Nat.le_of_lt hgl))
            have HB5 : Hid (Below g W (w2.alloc (.cells #[.int .i64 x2, .int .i64 y2, .int .i64 z2] 26)) ∧ g ≤ (w2.alloc (.cells #[.int .i64 x2, .int .i64 y2, .int .i64 z2] 26)).heap.size) := Lib.hid ⟨hB5.alloc (by have := hB2.size; omega) _, by have := hB2.size; simp; omega⟩
            clear hB2 hB5 hcv HX HJ2 hgl
            go_upto_region 17 with fail
            generalize w2.alloc (.cells #[.int .i64 x2, .int .i64 y2, .int .i64 z2] 26) = V2 at *
            go_cut [101] from 82 to 100 (fun v wx => v = .bool false ∧ wx = V2)
            case first =>
              by_cases hbig : (65536 : Int) < (j : Int)
              · have her := hx2 (by omega)
                subst her
                clear hx1 hx2
                go_wp2
                go_meet
                exact ⟨rfl, rfl⟩
              · obtain ⟨her, hm1⟩ := hx1 (by omega)
                subst her hm1
                clear hx1 hx2
                go_wp2
                go_meet
                exact ⟨rfl, rfl⟩
            case rest =>
              obtain ⟨rfl, hwc⟩ := hcut
              have hwc2 : V2 = wc := hwc.symm
              subst hwc2
              clear hwc hx1 hx2
              go_wp2_with fail
              go_loopw [14, 15] (fun v xx wx => ∃ (X : Nat) (l : List UInt8), xx = .int .u32 X ∧ v = .string (strL l) ∧ X ≤ 4294967295 ∧ Hid ((0 < X → Lib.decDigits K = Lib.decDigits X ++ l) ∧ (X = 0 → (K = 0 ∧ l = []) ∨ (0 < K ∧ Lib.decDigits K = l)) ∧ Below g W wx ∧ g ≤ wx.heap.size)) (fun _ xx _ => (intOf xx).toNat)
              case atStart => exact ⟨K, [], rfl, rfl, hK1, Lib.hid ⟨fun _ => by rw [List.append_nil], fun h => .inl ⟨h, rfl⟩, HB5.out.1, HB5.out.2⟩⟩
              case round =>
                obtain ⟨X, l, rfl, rfl, hX, HD⟩ := hrel
                by_cases hX0 : 0 < X
                · have hdd := HD.out.1 hX0
                  have hln : l.length ≤ 11 := by
                    have h1 := congrArg List.length hdd
                    rw [List.length_append] at h1
                    have h2 := dd_long K hK1
                    omega
                  obtain ⟨r, hr⟩ : ∃ r, r = X % 10 := ⟨_, rfl⟩
                  have hri : (X : Int) % 10 = (r : Int) := by omega
                  have hr0 : (0 : Int) ≤ (r : Int) := by omega
                  have hr9 : (r : Int) ≤ 9 := by omega
                  have hXi : (0 : Int) < (X : Int) := by omega
                  have hXn : (X : Int) ≤ 4294967295 := by omega
                  have hrow : RowZ (wr.alloc (.cells #[.int .u8 (48 + (r : Int))] 5)) (some ⟨wr.heap.size, 0, none⟩) 1 [48 + (r : Int)] := by
                    refine ⟨rfl, fun z hz => ?_, fun _ => ⟨wr.heap.size, 0, rfl, by simp, fun i hi => ?_⟩⟩
                    · rw [List.mem_singleton] at hz; omega
                    · obtain rfl : i = 0 := by omega
                      rw [cell_of_row _ _ _ _ _ (0, 0) (heap_alloc_new wr _)]
                      rfl
                  have hcv := conv_row hrow 1
                  have hst : strOfNums [48 + (r : Int)] = strL [UInt8.ofNat (48 + r)] := by
                    unfold strOfNums strL
                    simp only [List.map_cons, List.map_nil]
                    rw [show (48 + (r : Int)).toNat = 48 + r from by omega]
                  rw [hst] at hcv
                  have hadd : strL [UInt8.ofNat (48 + r)] ++ strL l = strL (UInt8.ofNat (48 + r) :: l) := by rw [strL_add]; rfl
                  have HADD := Lib.hid hadd
                  have hz1 : (strL l).size ≤ 11 := by rw [strL_size]; exact hln
                  have hz2 : (strL [UInt8.ofNat (48 + r)]).size ≤ 1 := by rw [strL_size]; simp
                  have HN : Hid ((0 < X / 10 → Lib.decDigits K = Lib.decDigits (X / 10) ++ (UInt8.ofNat (48 + r) :: l)) ∧ (X / 10 = 0 → (K = 0 ∧ (UInt8.ofNat (48 + r) :: l) = []) ∨ (0 < K ∧ Lib.decDigits K = UInt8.ofNat (48 + r) :: l)) ∧ Below g W (wr.alloc (.cells #[.int .u8 (48 + (r : Int))] 5)) ∧ g ≤ (wr.alloc (.cells #[.int .u8 (48 + (r : Int))] 5)).heap.size) := Lib.hid (by
                    have hgs := HD.out.2.2.2
                    refine ⟨fun h => ?_, fun h => .inr ?_, HD.out.2.2.1.alloc hgs _, by simp; omega⟩
                    · rw [hdd, dd_ge X (by omega), ← hr]
                      simp
                    · rw [hdd, dd_lt X (by omega)]
                      refine ⟨?_, ?_⟩
                      · rcases Nat.eq_zero_or_pos K with h0 | h0
                        · exfalso
                          rw [h0, dd_lt 0 (by omega), dd_lt X (by omega)] at hdd
                          have h5 := congrArg List.head? hdd
                          simp only [List.head?_cons, List.cons_append] at h5
                          have h6 := congrArg UInt8.toNat (Option.some.inj h5)
                          rw [digit_toNat 0 (by omega), digit_toNat X (by omega)] at h6
                          omega
                        · exact h0
                      · have : r = X := by omega
                        rw [this]
                        rfl)
                  clear hadd hst hrow hdd hln HD hr
                  generalize strL [UInt8.ofNat (48 + r)] = s1 at *
                  go_wp2
                  go_roundw
                  case rel => exact ⟨X / 10, UInt8.ofNat (48 + r) :: l, by go_num, by rw [HADD.out], by omega, HN⟩
                  case measure => simp [intOf]; omega
                · obtain rfl : X = 0 := by omega
                  have HBW : Hid (Below W.heap.size W wr) := Lib.hid (by rw [← HGE.out]; exact HD.out.2.2.1)
                  have HN := Lib.hid (all_n K hK1 wr (HL.out.below HBW.out))
                  rcases HD.out.2.1 rfl with ⟨hK0, hl0⟩ | ⟨hKp, hl0⟩
                  · subst hK0 hl0
                    rw [show strL (Lib.decDigits 0) = ⟨#[48]⟩ from by rw [dd_lt 0 (by omega)]; rfl] at HN
                    obtain ⟨e1, e2⟩ := str_empty'
                    clear HD
                    go_wp2_with fail
                    refine HN.out.mono ?_
                    rintro e w3 ⟨A3, m3, c3, er3, x3, y3, z3, rfl, hn1, hn2, hB3⟩
                    obtain ⟨her, hm3, hc3, gg, off, rfl, hgg, hcc⟩ := hn1 (by omega)
                    subst her hm3
                    have hc5 := ((Below.refl w3.heap.size w3).alloc (Nat.le_refl _) (.cells #[.int .i64 x3, .int .i64 y3, .int .i64 z3] 26)).cell (p := ⟨gg, off + 2, none⟩) hgg
                    rw [hcc] at hc5
                    have HB6 : Hid (Below W.heap.size W (w3.alloc (.cells #[.int .i64 x3, .int .i64 y3, .int .i64 z3] 26))) := Lib.hid ((HBW.out.trans (hB3.mono HBW.out.size)).alloc (HBW.out.trans (hB3.mono HBW.out.size)).size _)
                    clear hn1 hn2 hB3
                    go_wp2_with fail
                    refine (lives_true _ (HL.out.below HB6.out)).mono ?_
                    rintro e w7 ⟨rfl, hB7⟩
                    have HB7 := Lib.hid (HB6.out.trans (hB7.mono HB6.out.size))
                    clear hB7
                    go_wp2
                    go_ret
                    exact ⟨rfl, HB7.out⟩
                  · rw [← hl0]
                    have hne := dd_ne K
                    obtain ⟨e1, e2⟩ := str_full' (Lib.decDigits K) hne
                    clear hne hl0 HD
                    by_cases hKb : (2147483647 : Int) < (K : Int)
                    · generalize strL (Lib.decDigits K) = sk at *
                      go_wp2_with fail
                      refine HN.out.mono ?_
                      rintro e w3 ⟨A3, m3, c3, er3, x3, y3, z3, rfl, hn1, hn2, hB3⟩
                      have her := hn2 (by omega)
                      subst her
                      have HB6 : Hid (Below W.heap.size W (w3.alloc (.cells #[.int .i64 x3, .int .i64 y3, .int .i64 z3] 26))) := Lib.hid ((HBW.out.trans (hB3.mono HBW.out.size)).alloc (HBW.out.trans (hB3.mono HBW.out.size)).size _)
                      clear hn1 hn2 hB3
                      go_wp2_with fail
                      refine (lives_true _ (HL.out.below HB6.out)).mono ?_
                      rintro e w7 ⟨rfl, hB7⟩
                      have HB7 := Lib.hid (HB6.out.trans (hB7.mono HB6.out.size))
                      clear hB7
                      go_wp2
                      go_ret
                      exact ⟨rfl, HB7.out⟩
                    · generalize strL (Lib.decDigits K) = sk at *
                      have hKs : (K : Int) ≤ 2147483647 := by omega
                      go_wp2_with fail
                      refine HN.out.mono ?_
                      rintro e w3 ⟨A3, m3, c3, er3, x3, y3, z3, rfl, hn1, hn2, hB3⟩
                      obtain ⟨her, hm3, hc3, gg, off, rfl, hgg, hcc⟩ := hn1 (by omega)
                      subst her hm3
                      have hc5 := ((Below.refl w3.heap.size w3).alloc (Nat.le_refl _) (.cells #[.int .i64 x3, .int .i64 y3, .int .i64 z3] 26)).cell (p := ⟨gg, off + 2, none⟩) hgg
                      rw [hcc] at hc5
                      have HB6 : Hid (Below W.heap.size W (w3.alloc (.cells #[.int .i64 x3, .int .i64 y3, .int .i64 z3] 26))) := Lib.hid ((HBW.out.trans (hB3.mono HBW.out.size)).alloc (HBW.out.trans (hB3.mono HBW.out.size)).size _)
                      clear hn1 hn2 hB3
                      go_wp2_with fail
                      refine (lives_true _ (HL.out.below HB6.out)).mono ?_
                      rintro e w7 ⟨rfl, hB7⟩
                      have HB7 := Lib.hid (HB6.out.trans (hB7.mono HB6.out.size))
                      clear hB7
                      go_wp2
                      go_ret
                      exact ⟨rfl, HB7.out⟩
end Go.Proofs.YtkpgkobhnldhpaaDoor
