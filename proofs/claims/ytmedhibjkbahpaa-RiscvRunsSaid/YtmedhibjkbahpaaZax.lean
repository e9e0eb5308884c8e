/-
  The document's May of a program; the laws' Light and small.
  The document's At and Split of layer 18.
  The document's image of layer 18 in memory, while it is laid.
  The document's Load of layer 18.
  Loading, the program's way and the document's way: the symbols.
-/
import Derived.Test.YtmedhibjkbahpaaZaw
namespace Go.Proofs.Ytmedhibjkbahpaa
open Go.RowKit
set_option linter.unusedVariables false
set_option linter.unusedSimpArgs false
set_option maxRecDepth 100000
namespace Rv
theorem box3 {V : World} {v : Nat} {a b c : Value} {T : TypeId} (h : V.heap[v]? = some (.cells #[a, b, c] T (0, 0))) : V.cell? ⟨v, 0, none⟩ = some a ∧ V.cell? ⟨v, 1, none⟩ = some b ∧ V.cell? ⟨v, 2, none⟩ = some c := by
  refine ⟨?_, ?_, ?_⟩ <;> (rw [cell_of_row _ v _ _ _ (0, 0) h]; rfl)
def lightG (g : Gl) : Bool := decide (g.name.size ≤ 200)
def lightL (l : Ln) : Bool := decide (l.s.size ≤ 200)
def lightB (gs : List Gl) (ls : List Ln) : Bool := decide (ls.length ≤ 300) && decide (gs.length ≤ 70) && gs.all lightG && ls.all lightL
def smallB (gs : List Gl) (st : Int) (ls : List Ln) : Bool := lightB gs ls && decide (st ≤ 65536)

set_option maxHeartbeats 6400000 in
theorem light_any (w : World) (GA LA : Option Addr) (gn gc ln lc : Nat) (st : Int) (gs : List Gl) (ls : List Ln) (hG : GlsAt w GA gn gs) (hL : LnsAt w LA ln ls) (hgn : gn ≤ 9223372036854775807) (hln : ln ≤ 9223372036854775807) :
    Calls Try.prog 24 #[.agg #[.slice GA gn gc, .int .i64 st, .slice LA ln lc]] w fun e w' => e = .returned (.bool (lightB gs ls)) ∧ Below w.heap.size w w' := by
  obtain ⟨v, hv⟩ : ∃ v, w.heap.size = v := ⟨_, rfl⟩
  obtain ⟨W1, hW1⟩ : ∃ W1, w.alloc (.cells #[.slice GA gn gc, .int .i64 st, .slice LA ln lc] 25) = W1 := ⟨_, rfl⟩
  have hb1 : Below w.heap.size w W1 := by rw [← hW1]; exact (Below.refl _ _).alloc (Nat.le_refl _) _
  have hbx : W1.heap[v]? = some (.cells #[.slice GA gn gc, .int .i64 st, .slice LA ln lc] 25 (0, 0)) := by rw [← hW1, ← hv]; exact heap_alloc_new w _
  have hvl : v < W1.heap.size := (Array.getElem?_eq_some_iff.1 hbx).1
  have HX : Hid (∀ V, Below W1.heap.size W1 V → V.cell? ⟨v, 0, none⟩ = some (.slice GA gn gc) ∧ V.cell? ⟨v, 1, none⟩ = some (.int .i64 st) ∧ V.cell? ⟨v, 2, none⟩ = some (.slice LA ln lc)) := Lib.hid (fun V hV => box3 ((hV.block v hvl).trans hbx))
  obtain ⟨x0, x1, x2⟩ := HX.out W1 (Below.refl _ _)
  have HB1 : Hid (w.heap.size = v ∧ Below w.heap.size w W1) := Lib.hid ⟨hv, hb1⟩
  have HG := Lib.hid (hG.below hb1)
  have HL := Lib.hid (hL.below hb1)
  have HN := Lib.hid (And.intro hL.1 hG.1)
  have hgn2 : (gn : Int) ≤ 9223372036854775807 := by omega
  have hln2 : (ln : Int) ≤ 9223372036854775807 := by omega
  clear hb1 hbx hvl hG hL
  by_cases h300 : 300 < ln
  · have e300 : (300 : Int) < (ln : Int) := by omega
    have HF : Hid (lightB gs ls = false) := Lib.hid (by unfold lightB; rw [HN.out.1, show decide (ln ≤ 300) = false from by simp; omega]; rfl)
    go_enter Try.func24, Try.ntmps24
    go_wp2_with fail
    go_ret
    exact ⟨by rw [HF.out]; rfl, by first | exact HB1.out.2 | (rw [← HB1.out.1]; exact HB1.out.2)⟩
  · have e300 : ¬ (300 : Int) < (ln : Int) := by omega
    by_cases h70 : 70 < gn
    · have e70 : (70 : Int) < (gn : Int) := by omega
      have HF : Hid (lightB gs ls = false) := Lib.hid (by unfold lightB; rw [HN.out.2, show decide (gn ≤ 70) = false from by simp; omega]; simp)
      go_enter Try.func24, Try.ntmps24
      go_wp2_with fail
      go_ret
      exact ⟨by rw [HF.out]; rfl, by first | exact HB1.out.2 | (rw [← HB1.out.1]; exact HB1.out.2)⟩
    · have e70 : ¬ (70 : Int) < (gn : Int) := by omega
      have HLE : Hid (lightB gs ls = (gs.all lightG && ls.all lightL)) := Lib.hid (by unfold lightB; rw [HN.out.1, HN.out.2, show decide (ln ≤ 300) = true from by simp; omega, show decide (gn ≤ 70) = true from by simp; omega]; rfl)
      have HC := Lib.hid (Below.refl W1.heap.size W1)
      go_enter Try.func24, Try.ntmps24
      go_wp2_with fail
      clear x0 x1 x2 hv hW1
      go_loopw [20] (fun i wr => ∃ k : Nat, k ≤ gn ∧ i = .int .i64 k ∧ Hid (Below W1.heap.size W1 wr ∧ ∀ j l, j < k → gs[j]? = some l → lightG l = true)) (fun i _ => gn - (intOf i).toNat)
      case atStart => exact ⟨0, by omega, rfl, Lib.hid ⟨HC.out, fun j l hj => by omega⟩⟩
      case round =>
        clear HC
        obtain ⟨k, hk, rfl, HI⟩ := hrel
        rcases Nat.lt_or_ge k gn with hlt | hge
        · have hlt' : (k : Int) < (gn : Int) := by omega
          have hk0 : (0 : Int) ≤ (k : Int) := by omega
          obtain ⟨l, hl⟩ : ∃ l, gs[k]? = some l := ⟨_, List.getElem?_eq_getElem (by have := HN.out; omega)⟩
          obtain ⟨g, off, rfl, hg, hc⟩ := HG.out.2 (by omega)
          have hcell := fun j u hj => (HI.out.1.cell (p := ⟨g, off + k * 2 + j, none⟩) hg).trans (hc k _ hl j u hj)
          have hmem := List.mem_of_getElem? hl
          obtain ⟨nm, gz⟩ := l
          have d0 := hcell 0 _ rfl
          have d1 := hcell 1 _ rfl
          rw [Nat.add_zero] at d0
          obtain ⟨W4, hW4⟩ : ∃ W4, wr.alloc (.cells #[.string nm, .int .i64 gz] 72) = W4 := ⟨_, rfl⟩
          obtain ⟨bx, hbx⟩ : ∃ bx, wr.heap.size = bx := ⟨_, rfl⟩
          have hb4 : Below wr.heap.size wr W4 := by rw [← hW4]; exact (Below.refl _ _).alloc (Nat.le_refl _) _
          have hn4 : W4.heap[bx]? = some (.cells #[.string nm, .int .i64 gz] 72 (0, 0)) := by rw [← hW4, ← hbx]; exact heap_alloc_new wr _
          have u0 : W4.cell? ⟨bx, 0, none⟩ = some (.string nm) := by rw [cell_of_row _ _ 0 _ _ (0, 0) hn4]; rfl
          have u1 : W4.cell? ⟨bx, 1, none⟩ = some (.int .i64 gz) := by rw [cell_of_row _ _ 1 _ _ (0, 0) hn4]; rfl
          have HB4 := Lib.hid (HI.out.1.trans (hb4.mono HI.out.1.size))
          have HLL := Lib.hid hl
          have HMM := Lib.hid hmem
          have HALL := Lib.hid HI.out.2
          clear hc hg hl hcell hb4 hn4 HI hmem
          cases hm : lightG ⟨nm, gz⟩ with
          | true =>
            have hs : ¬ (200 : Int) < (nm.size : Int) := by unfold lightG at hm; simp at hm; omega
            have HM := Lib.hid hm
            have HB5 := HB4
            clear hm
            go_wp2_with fail
            go_roundw
            case rel => exact ⟨k + 1, by omega, by go_num, Lib.hid ⟨HB5.out, fun j l hj hjl => by
              rcases Nat.lt_or_ge j k with q | q
              · exact HALL.out j l q hjl
              · obtain rfl : j = k := by omega
                rw [HLL.out] at hjl
                cases hjl
                exact HM.out⟩⟩
            case measure => simp [intOf] <;> omega
          | false =>
            have hs : (200 : Int) < (nm.size : Int) := by unfold lightG at hm; simp at hm; omega
            have HF : Hid (lightB gs ls = false) := Lib.hid (by rw [HLE.out, all_no HLL.out hm]; simp)
            clear hm
            go_wp2_with fail
            go_ret
            exact ⟨by rw [HF.out]; rfl, HB1.out.2.trans (HB4.out.mono HB1.out.2.size)⟩
        · obtain rfl : gn = k := by omega
          have HGA : Hid (gs.all lightG = true) := Lib.hid (all_yes fun j l hj => HI.out.2 j l (by have := HN.out; have := (List.getElem?_eq_some_iff.1 hj).1; omega) hj)
          obtain ⟨x0, x1, x2⟩ := HX.out wr HI.out.1
          have HC := Lib.hid HI.out.1
          clear HI
          go_wp2_with fail
          clear x0 x1 x2
          go_loopw [32] (fun i wr => ∃ k : Nat, k ≤ ln ∧ i = .int .i64 k ∧ Hid (Below W1.heap.size W1 wr ∧ ∀ j l, j < k → ls[j]? = some l → lightL l = true)) (fun i _ => ln - (intOf i).toNat)
          case atStart => exact ⟨0, by omega, rfl, Lib.hid ⟨HC.out, fun j l hj => by omega⟩⟩
          case round =>
            clear HC
            obtain ⟨k, hk, rfl, HI⟩ := hrel
            rcases Nat.lt_or_ge k ln with hlt | hge
            · have hlt' : (k : Int) < (ln : Int) := by omega
              have hk0 : (0 : Int) ≤ (k : Int) := by omega
              obtain ⟨l, hl⟩ : ∃ l, ls[k]? = some l := ⟨_, List.getElem?_eq_getElem (by have := HN.out; omega)⟩
              obtain ⟨g, off, rfl, hg, hc⟩ := HL.out.2 (by omega)
              have hcell := fun j u hj => (HI.out.1.cell (p := ⟨g, off + k * 7 + j, none⟩) hg).trans (hc k _ hl j u hj)
              have hmem := List.mem_of_getElem? hl
              obtain ⟨lk, lo, ld, la, lb, lnn, lsym⟩ := l
              have d0 := hcell 0 _ rfl
              have d1 := hcell 1 _ rfl
              have d2 := hcell 2 _ rfl
              have d3 := hcell 3 _ rfl
              have d4 := hcell 4 _ rfl
              have d5 := hcell 5 _ rfl
              have d6 := hcell 6 _ rfl
              rw [Nat.add_zero] at d0
              obtain ⟨W4, hW4⟩ : ∃ W4, wr.alloc (.cells #[.int .i64 lk, .int .i64 lo, .int .i64 ld, .int .i64 la, .int .i64 lb, .int .i32 lnn, .string lsym] 39) = W4 := ⟨_, rfl⟩
              obtain ⟨bx, hbx⟩ : ∃ bx, wr.heap.size = bx := ⟨_, rfl⟩
              have hb4 : Below wr.heap.size wr W4 := by rw [← hW4]; exact (Below.refl _ _).alloc (Nat.le_refl _) _
              have hn4 : W4.heap[bx]? = some (.cells #[.int .i64 lk, .int .i64 lo, .int .i64 ld, .int .i64 la, .int .i64 lb, .int .i32 lnn, .string lsym] 39 (0, 0)) := by rw [← hW4, ← hbx]; exact heap_alloc_new wr _
              have u0 : W4.cell? ⟨bx, 0, none⟩ = some (.int .i64 lk) := by rw [cell_of_row _ _ 0 _ _ (0, 0) hn4]; rfl
              have u1 : W4.cell? ⟨bx, 1, none⟩ = some (.int .i64 lo) := by rw [cell_of_row _ _ 1 _ _ (0, 0) hn4]; rfl
              have u2 : W4.cell? ⟨bx, 2, none⟩ = some (.int .i64 ld) := by rw [cell_of_row _ _ 2 _ _ (0, 0) hn4]; rfl
              have u3 : W4.cell? ⟨bx, 3, none⟩ = some (.int .i64 la) := by rw [cell_of_row _ _ 3 _ _ (0, 0) hn4]; rfl
              have u4 : W4.cell? ⟨bx, 4, none⟩ = some (.int .i64 lb) := by rw [cell_of_row _ _ 4 _ _ (0, 0) hn4]; rfl
              have u5 : W4.cell? ⟨bx, 5, none⟩ = some (.int .i32 lnn) := by rw [cell_of_row _ _ 5 _ _ (0, 0) hn4]; rfl
              have u6 : W4.cell? ⟨bx, 6, none⟩ = some (.string lsym) := by rw [cell_of_row _ _ 6 _ _ (0, 0) hn4]; rfl
              have HB4 := Lib.hid (HI.out.1.trans (hb4.mono HI.out.1.size))
              have HLL := Lib.hid hl
              have HMM := Lib.hid hmem
              have HALL := Lib.hid HI.out.2
              clear hc hg hl hcell hb4 hn4 HI hmem
              cases hm : lightL ⟨lk, lo, ld, la, lb, lnn, lsym⟩ with
              | true =>
                have hs : ¬ (200 : Int) < (lsym.size : Int) := by unfold lightL at hm; simp at hm; omega
                have HM := Lib.hid hm
                have HB5 := HB4
                clear hm
                go_wp2_with fail
                go_roundw
                case rel => exact ⟨k + 1, by omega, by go_num, Lib.hid ⟨HB5.out, fun j l hj hjl => by
                  rcases Nat.lt_or_ge j k with q | q
                  · exact HALL.out j l q hjl
                  · obtain rfl : j = k := by omega
                    rw [HLL.out] at hjl
                    cases hjl
                    exact HM.out⟩⟩
                case measure => simp [intOf] <;> omega
              | false =>
                have hs : (200 : Int) < (lsym.size : Int) := by unfold lightL at hm; simp at hm; omega
                have HF : Hid (lightB gs ls = false) := Lib.hid (by rw [HLE.out, all_no HLL.out hm]; simp)
                clear hm
                go_wp2_with fail
                go_ret
                exact ⟨by rw [HF.out]; rfl, HB1.out.2.trans (HB4.out.mono HB1.out.2.size)⟩
            · obtain rfl : ln = k := by omega
              have HF : Hid (lightB gs ls = true) := Lib.hid (by rw [HLE.out, HGA.out, all_yes (may := lightL) fun j l hj => HI.out.2 j l (by have := HN.out; have := (List.getElem?_eq_some_iff.1 hj).1; omega) hj]; rfl)
              have HC := Lib.hid HI.out.1
              clear HI
              go_wp2_with fail
              go_ret
              exact ⟨by rw [HF.out]; rfl, HB1.out.2.trans (HC.out.mono HB1.out.2.size)⟩
theorem small_any (w : World) (GA LA : Option Addr) (gn gc ln lc : Nat) (st : Int) (gs : List Gl) (ls : List Ln) (hG : GlsAt w GA gn gs) (hL : LnsAt w LA ln ls) (hgn : gn ≤ 9223372036854775807) (hln : ln ≤ 9223372036854775807) :
    Calls Try.prog 7 #[.agg #[.slice GA gn gc, .int .i64 st, .slice LA ln lc]] w fun e w' => e = .returned (.bool (smallB gs st ls)) ∧ Below w.heap.size w w' := by
  obtain ⟨v, hv⟩ : ∃ v, w.heap.size = v := ⟨_, rfl⟩
  obtain ⟨W1, hW1⟩ : ∃ W1, w.alloc (.cells #[.slice GA gn gc, .int .i64 st, .slice LA ln lc] 25) = W1 := ⟨_, rfl⟩
  have hb1 : Below w.heap.size w W1 := by rw [← hW1]; exact (Below.refl _ _).alloc (Nat.le_refl _) _
  have hbx : W1.heap[v]? = some (.cells #[.slice GA gn gc, .int .i64 st, .slice LA ln lc] 25 (0, 0)) := by rw [← hW1, ← hv]; exact heap_alloc_new w _
  have hvl : v < W1.heap.size := (Array.getElem?_eq_some_iff.1 hbx).1
  have HX : Hid (∀ V, Below W1.heap.size W1 V → V.cell? ⟨v, 0, none⟩ = some (.slice GA gn gc) ∧ V.cell? ⟨v, 1, none⟩ = some (.int .i64 st) ∧ V.cell? ⟨v, 2, none⟩ = some (.slice LA ln lc)) := Lib.hid (fun V hV => box3 ((hV.block v hvl).trans hbx))
  obtain ⟨x0, x1, x2⟩ := HX.out W1 (Below.refl _ _)
  have HB1 : Hid (w.heap.size = v ∧ Below w.heap.size w W1) := Lib.hid ⟨hv, hb1⟩
  have HG := Lib.hid (hG.below hb1)
  have HL := Lib.hid (hL.below hb1)
  have HN := Lib.hid (And.intro hL.1 hG.1)
  have HLT := Lib.hid (light_any W1 GA LA gn gc ln lc st gs ls (hG.below hb1) (hL.below hb1) hgn hln)
  have HSM : Hid (smallB gs st ls = (lightB gs ls && decide (st ≤ 65536))) := Lib.hid rfl
  clear hb1 hbx hvl hG hL
  generalize lightB gs ls = q at *
  cases q
  · go_enter Try.func7, Try.ntmps7
    go_wp2_with (go_at_call 24; (with_reducible refine HLT.out.mono ?_); rintro e w2 ⟨rfl, hb2⟩; have HB2 := Lib.hid hb2; clear hb2)
    go_ret
    exact ⟨by rw [HSM.out]; rfl, HB1.out.2.trans (HB2.out.mono HB1.out.2.size)⟩
  · by_cases hst : st ≤ 65536
    · go_enter Try.func7, Try.ntmps7
      go_wp2_with (go_at_call 24; (with_reducible refine HLT.out.mono ?_); rintro e w2 ⟨rfl, hb2⟩; obtain ⟨y0, y1, y2⟩ := HX.out w2 hb2; have HB2 := Lib.hid hb2; clear hb2 x0 x1 x2)
      go_ret
      exact ⟨by rw [HSM.out]; simp [hst], HB1.out.2.trans (HB2.out.mono HB1.out.2.size)⟩
    · go_enter Try.func7, Try.ntmps7
      go_wp2_with (go_at_call 24; (with_reducible refine HLT.out.mono ?_); rintro e w2 ⟨rfl, hb2⟩; obtain ⟨y0, y1, y2⟩ := HX.out w2 hb2; have HB2 := Lib.hid hb2; clear hb2 x0 x1 x2)
      go_ret
      exact ⟨by rw [HSM.out]; simp [hst], HB1.out.2.trans (HB2.out.mono HB1.out.2.size)⟩
set_option maxHeartbeats 6400000 in
theorem rmay_any (w : World) (GA LA : Option Addr) (gn gc ln lc : Nat) (st : Int) (gs : List Gl) (ls : List Ln) (hG : GlsAt w GA gn gs) (hL : LnsAt w LA ln ls) (hgn : gn ≤ 1000) (hln : ln ≤ 1000)
    (hgs : ∀ g ∈ gs, g.name.size ≤ 1000000) (hls : ∀ l ∈ ls, l.s.size ≤ 1000000) (hnn : ∀ l ∈ ls, -2147483648 ≤ l.n ∧ l.n ≤ 2147483647) :
    Calls Try.prog 30 #[.agg #[.slice GA gn gc, .int .i64 st, .slice LA ln lc]] w fun e w' => e = .returned (.bool (mayA mayGl mayLn gs st ls)) ∧ Below w.heap.size w w' := by
  obtain ⟨v, hv⟩ : ∃ v, w.heap.size = v := ⟨_, rfl⟩
  obtain ⟨W1, hW1⟩ : ∃ W1, w.alloc (.cells #[.slice GA gn gc, .int .i64 st, .slice LA ln lc] 25) = W1 := ⟨_, rfl⟩
  have hb1 : Below w.heap.size w W1 := by rw [← hW1]; exact (Below.refl _ _).alloc (Nat.le_refl _) _
  have hbx : W1.heap[v]? = some (.cells #[.slice GA gn gc, .int .i64 st, .slice LA ln lc] 25 (0, 0)) := by rw [← hW1, ← hv]; exact heap_alloc_new w _
  have hvl : v < W1.heap.size := (Array.getElem?_eq_some_iff.1 hbx).1
  have HX : Hid (∀ V, Below W1.heap.size W1 V → V.cell? ⟨v, 0, none⟩ = some (.slice GA gn gc) ∧ V.cell? ⟨v, 1, none⟩ = some (.int .i64 st) ∧ V.cell? ⟨v, 2, none⟩ = some (.slice LA ln lc)) := Lib.hid (fun V hV => box3 ((hV.block v hvl).trans hbx))
  obtain ⟨x0, x1, x2⟩ := HX.out W1 (Below.refl _ _)
  have HB1 : Hid (w.heap.size = v ∧ Below w.heap.size w W1) := Lib.hid ⟨hv, hb1⟩
  have HG := Lib.hid (hG.below hb1)
  have HL := Lib.hid (hL.below hb1)
  have HN := Lib.hid (And.intro hL.1 hG.1)
  have HGS := Lib.hid hgs
  have HLS := Lib.hid (And.intro hls hnn)
  clear hb1 hbx hvl hG hL hgs hls hnn
  have hgn2 : (gn : Int) ≤ 1000 := by omega
  have hln2 : (ln : Int) ≤ 1000 := by omega
  by_cases hst : 0 ≤ st ∧ st ≤ 16777216
  · obtain ⟨st1, st2⟩ := hst
    have s1 : decide (st < 0) = false := by simp; omega
    have s2 : ¬ (16777216 : Int) < st := by omega
    by_cases h64 : gn ≤ 64
    · have e64 : ¬ (64 : Int) < (gn : Int) := by omega
      have HLE : Hid (mayA mayGl mayLn gs st ls = (gs.all mayGl && ls.all mayLn)) := Lib.hid (by unfold mayA; rw [HN.out.2, show decide (gn ≤ 64) = true from by simp; omega, show decide (0 ≤ st ∧ st ≤ 16777216) = true from by simp; omega]; simp)
      have HC := Lib.hid (Below.refl W1.heap.size W1)
      go_enter Try.func30, Try.ntmps30
      go_wp2_with fail
      clear x0 x1 x2 hv hW1
      go_loopw [24] (fun i wr => ∃ k : Nat, k ≤ gn ∧ i = .int .i64 k ∧ Hid (Below W1.heap.size W1 wr ∧ ∀ j l, j < k → gs[j]? = some l → mayGl l = true)) (fun i _ => gn - (intOf i).toNat)
      case atStart => exact ⟨0, by omega, rfl, Lib.hid ⟨HC.out, fun j l hj => by omega⟩⟩
      case round =>
        clear HC
        obtain ⟨k, hk, rfl, HI⟩ := hrel
        rcases Nat.lt_or_ge k gn with hlt | hge
        · have hlt' : (k : Int) < (gn : Int) := by omega
          have hk0 : (0 : Int) ≤ (k : Int) := by omega
          obtain ⟨l, hl⟩ : ∃ l, gs[k]? = some l := ⟨_, List.getElem?_eq_getElem (by have := HN.out; omega)⟩
          obtain ⟨g, off, rfl, hg, hc⟩ := HG.out.2 (by omega)
          have hcell := fun j u hj => (HI.out.1.cell (p := ⟨g, off + k * 2 + j, none⟩) hg).trans (hc k _ hl j u hj)
          have hmem := List.mem_of_getElem? hl
          obtain ⟨nm, gz⟩ := l
          have d0 := hcell 0 _ rfl
          have d1 := hcell 1 _ rfl
          rw [Nat.add_zero] at d0
          obtain ⟨W4, hW4⟩ : ∃ W4, wr.alloc (.cells #[.string nm, .int .i64 gz] 72) = W4 := ⟨_, rfl⟩
          obtain ⟨bx, hbx⟩ : ∃ bx, wr.heap.size = bx := ⟨_, rfl⟩
          have hb4 : Below wr.heap.size wr W4 := by rw [← hW4]; exact (Below.refl _ _).alloc (Nat.le_refl _) _
          have hn4 : W4.heap[bx]? = some (.cells #[.string nm, .int .i64 gz] 72 (0, 0)) := by rw [← hW4, ← hbx]; exact heap_alloc_new wr _
          have u0 : W4.cell? ⟨bx, 0, none⟩ = some (.string nm) := by rw [cell_of_row _ _ 0 _ _ (0, 0) hn4]; rfl
          have u1 : W4.cell? ⟨bx, 1, none⟩ = some (.int .i64 gz) := by rw [cell_of_row _ _ 1 _ _ (0, 0) hn4]; rfl
          have HB4 := Lib.hid (HI.out.1.trans (hb4.mono HI.out.1.size))
          have HLL := Lib.hid hl
          have HMM := Lib.hid hmem
          have HALL := Lib.hid HI.out.2
          clear hc hg hl hcell hb4 hn4 HI hmem
          cases hm : mayGl ⟨nm, gz⟩ with
          | true =>
            have HNM := Lib.hid (risName_any nm (by have := HGS.out _ HMM.out; dsimp only at this; omega))
            have HBX : Hid (bx < W4.heap.size) := Lib.hid (World.block_lt_of_cell? W4 _ u0)
            have hmm : nameB nm.data.toList = true ∧ 0 ≤ gz ∧ gz ≤ 4096 := by unfold mayGl at hm; simp at hm; exact ⟨hm.1.1, hm.1.2, hm.2⟩
            obtain ⟨m1, m2, m3⟩ := hmm
            rw [m1] at HNM
            have z1 : decide (gz < 0) = false := by simp; omega
            have z2 : ¬ (4096 : Int) < gz := by omega
            have HM := Lib.hid hm
            clear hm m1
            go_wp2_with (go_at_call 55; (with_reducible refine (HNM.out _).mono ?_); rintro e w5 ⟨rfl, hb5⟩; have y0 := (hb5.cell (p := ⟨bx, 0, none⟩) HBX.out).trans u0; have y1 := (hb5.cell (p := ⟨bx, 1, none⟩) HBX.out).trans u1; have HB5 := Lib.hid (HB4.out.trans (hb5.mono HB4.out.size)); clear hb5 u0 u1)
            go_roundw
            case rel => exact ⟨k + 1, by omega, by go_num, Lib.hid ⟨HB5.out, fun j l hj hjl => by
              rcases Nat.lt_or_ge j k with q | q
              · exact HALL.out j l q hjl
              · obtain rfl : j = k := by omega
                rw [HLL.out] at hjl
                cases hjl
                exact HM.out⟩⟩
            case measure => simp [intOf] <;> omega
          | false =>
            have HNM := Lib.hid (risName_any nm (by have := HGS.out _ HMM.out; dsimp only at this; omega))
            have HBX : Hid (bx < W4.heap.size) := Lib.hid (World.block_lt_of_cell? W4 _ u0)
            have HF : Hid (mayA mayGl mayLn gs st ls = false) := Lib.hid (by rw [HLE.out, all_no HLL.out hm]; rfl)
            cases m1 : nameB nm.data.toList with
            | false =>
              rw [m1] at HNM
              clear hm m1
              go_wp2_with (go_at_call 55; (with_reducible refine (HNM.out _).mono ?_); rintro e w5 ⟨rfl, hb5⟩; have y0 := (hb5.cell (p := ⟨bx, 0, none⟩) HBX.out).trans u0; have y1 := (hb5.cell (p := ⟨bx, 1, none⟩) HBX.out).trans u1; have HB5 := Lib.hid (HB4.out.trans (hb5.mono HB4.out.size)); clear hb5 u0 u1)
              go_ret
              exact ⟨by rw [HF.out]; rfl, HB1.out.2.trans (HB5.out.mono HB1.out.2.size)⟩
            | true =>
              rw [m1] at HNM
              by_cases m2 : gz < 0
              · have z1 : decide (gz < 0) = true := by simp; omega
                clear hm m1
                go_wp2_with (go_at_call 55; (with_reducible refine (HNM.out _).mono ?_); rintro e w5 ⟨rfl, hb5⟩; have y0 := (hb5.cell (p := ⟨bx, 0, none⟩) HBX.out).trans u0; have y1 := (hb5.cell (p := ⟨bx, 1, none⟩) HBX.out).trans u1; have HB5 := Lib.hid (HB4.out.trans (hb5.mono HB4.out.size)); clear hb5 u0 u1)
                go_ret
                exact ⟨by rw [HF.out]; rfl, HB1.out.2.trans (HB5.out.mono HB1.out.2.size)⟩
              · have z1 : decide (gz < 0) = false := by simp; omega
                have z2 : (4096 : Int) < gz := by unfold mayGl at hm; rw [m1] at hm; simp at hm; omega
                clear hm m1
                go_wp2_with (go_at_call 55; (with_reducible refine (HNM.out _).mono ?_); rintro e w5 ⟨rfl, hb5⟩; have y0 := (hb5.cell (p := ⟨bx, 0, none⟩) HBX.out).trans u0; have y1 := (hb5.cell (p := ⟨bx, 1, none⟩) HBX.out).trans u1; have HB5 := Lib.hid (HB4.out.trans (hb5.mono HB4.out.size)); clear hb5 u0 u1)
                go_ret
                exact ⟨by rw [HF.out]; rfl, HB1.out.2.trans (HB5.out.mono HB1.out.2.size)⟩
        · obtain rfl : gn = k := by omega
          have HGA : Hid (gs.all mayGl = true) := Lib.hid (all_yes fun j l hj => HI.out.2 j l (by have := HN.out; have := (List.getElem?_eq_some_iff.1 hj).1; omega) hj)
          obtain ⟨x0, x1, x2⟩ := HX.out wr HI.out.1
          have HC := Lib.hid HI.out.1
          clear HI
          go_wp2_with fail
          clear x0 x1 x2
          go_loopw [46] (fun i wr => ∃ k : Nat, k ≤ ln ∧ i = .int .i64 k ∧ Hid (Below W1.heap.size W1 wr ∧ ∀ j l, j < k → ls[j]? = some l → mayLn l = true)) (fun i _ => ln - (intOf i).toNat)
          case atStart => exact ⟨0, by omega, rfl, Lib.hid ⟨HC.out, fun j l hj => by omega⟩⟩
          case round =>
            clear HC
            obtain ⟨k, hk, rfl, HI⟩ := hrel
            rcases Nat.lt_or_ge k ln with hlt | hge
            · have hlt' : (k : Int) < (ln : Int) := by omega
              have hk0 : (0 : Int) ≤ (k : Int) := by omega
              obtain ⟨l, hl⟩ : ∃ l, ls[k]? = some l := ⟨_, List.getElem?_eq_getElem (by have := HN.out; omega)⟩
              obtain ⟨g, off, rfl, hg, hc⟩ := HL.out.2 (by omega)
              have hcell := fun j u hj => (HI.out.1.cell (p := ⟨g, off + k * 7 + j, none⟩) hg).trans (hc k _ hl j u hj)
              have hmem := List.mem_of_getElem? hl
              obtain ⟨lk, lo, ld, la, lb, lnn, lsym⟩ := l
              have d0 := hcell 0 _ rfl
              have d1 := hcell 1 _ rfl
              have d2 := hcell 2 _ rfl
              have d3 := hcell 3 _ rfl
              have d4 := hcell 4 _ rfl
              have d5 := hcell 5 _ rfl
              have d6 := hcell 6 _ rfl
              rw [Nat.add_zero] at d0
              obtain ⟨W4, hW4⟩ : ∃ W4, wr.alloc (.cells #[.int .i64 lk, .int .i64 lo, .int .i64 ld, .int .i64 la, .int .i64 lb, .int .i32 lnn, .string lsym] 39) = W4 := ⟨_, rfl⟩
              obtain ⟨bx, hbx⟩ : ∃ bx, wr.heap.size = bx := ⟨_, rfl⟩
              have hb4 : Below wr.heap.size wr W4 := by rw [← hW4]; exact (Below.refl _ _).alloc (Nat.le_refl _) _
              have hn4 : W4.heap[bx]? = some (.cells #[.int .i64 lk, .int .i64 lo, .int .i64 ld, .int .i64 la, .int .i64 lb, .int .i32 lnn, .string lsym] 39 (0, 0)) := by rw [← hW4, ← hbx]; exact heap_alloc_new wr _
              have u0 : W4.cell? ⟨bx, 0, none⟩ = some (.int .i64 lk) := by rw [cell_of_row _ _ 0 _ _ (0, 0) hn4]; rfl
              have u1 : W4.cell? ⟨bx, 1, none⟩ = some (.int .i64 lo) := by rw [cell_of_row _ _ 1 _ _ (0, 0) hn4]; rfl
              have u2 : W4.cell? ⟨bx, 2, none⟩ = some (.int .i64 ld) := by rw [cell_of_row _ _ 2 _ _ (0, 0) hn4]; rfl
              have u3 : W4.cell? ⟨bx, 3, none⟩ = some (.int .i64 la) := by rw [cell_of_row _ _ 3 _ _ (0, 0) hn4]; rfl
              have u4 : W4.cell? ⟨bx, 4, none⟩ = some (.int .i64 lb) := by rw [cell_of_row _ _ 4 _ _ (0, 0) hn4]; rfl
              have u5 : W4.cell? ⟨bx, 5, none⟩ = some (.int .i32 lnn) := by rw [cell_of_row _ _ 5 _ _ (0, 0) hn4]; rfl
              have u6 : W4.cell? ⟨bx, 6, none⟩ = some (.string lsym) := by rw [cell_of_row _ _ 6 _ _ (0, 0) hn4]; rfl
              have HB4 := Lib.hid (HI.out.1.trans (hb4.mono HI.out.1.size))
              have HLL := Lib.hid hl
              have HMM := Lib.hid hmem
              have HALL := Lib.hid HI.out.2
              clear hc hg hl hcell hb4 hn4 HI hmem
              cases hm : mayLn ⟨lk, lo, ld, la, lb, lnn, lsym⟩ with
              | true =>
                have HML := Lib.hid (rmayLn_any ⟨lk, lo, ld, la, lb, lnn, lsym⟩ (by have := HLS.out.1 _ HMM.out; dsimp only at this ⊢; omega) (HLS.out.2 _ HMM.out))
                unfold Ln.val at HML
                dsimp only at HML
                rw [hm] at HML
                have HM := Lib.hid hm
                clear hm
                go_wp2_with (go_at_call 15; (with_reducible refine (HML.out _).mono ?_); rintro e w5 ⟨rfl, hb5⟩; have HB5 := Lib.hid (HB4.out.trans (hb5.mono HB4.out.size)); clear hb5)
                go_roundw
                case rel => exact ⟨k + 1, by omega, by go_num, Lib.hid ⟨HB5.out, fun j l hj hjl => by
                  rcases Nat.lt_or_ge j k with q | q
                  · exact HALL.out j l q hjl
                  · obtain rfl : j = k := by omega
                    rw [HLL.out] at hjl
                    cases hjl
                    exact HM.out⟩⟩
                case measure => simp [intOf] <;> omega
              | false =>
                have HML := Lib.hid (rmayLn_any ⟨lk, lo, ld, la, lb, lnn, lsym⟩ (by have := HLS.out.1 _ HMM.out; dsimp only at this ⊢; omega) (HLS.out.2 _ HMM.out))
                unfold Ln.val at HML
                dsimp only at HML
                rw [hm] at HML
                have HF : Hid (mayA mayGl mayLn gs st ls = false) := Lib.hid (by rw [HLE.out, all_no HLL.out hm]; simp)
                clear hm
                go_wp2_with (go_at_call 15; (with_reducible refine (HML.out _).mono ?_); rintro e w5 ⟨rfl, hb5⟩; have HB5 := Lib.hid (HB4.out.trans (hb5.mono HB4.out.size)); clear hb5)
                go_ret
                exact ⟨by rw [HF.out]; rfl, HB1.out.2.trans (HB5.out.mono HB1.out.2.size)⟩
            · obtain rfl : ln = k := by omega
              have HF : Hid (mayA mayGl mayLn gs st ls = true) := Lib.hid (by rw [HLE.out, HGA.out, all_yes (may := mayLn) fun j l hj => HI.out.2 j l (by have := HN.out; have := (List.getElem?_eq_some_iff.1 hj).1; omega) hj]; rfl)
              have HC := Lib.hid HI.out.1
              clear HI
              go_wp2_with fail
              go_ret
              exact ⟨by rw [HF.out]; rfl, HB1.out.2.trans (HC.out.mono HB1.out.2.size)⟩
    · have e64 : (64 : Int) < (gn : Int) := by omega
      have HF : Hid (mayA mayGl mayLn gs st ls = false) := Lib.hid (by unfold mayA; rw [HN.out.2, show decide (gn ≤ 64) = false from by simp; omega]; rfl)
      go_enter Try.func30, Try.ntmps30
      go_wp2_with fail
      go_ret
      exact ⟨by rw [HF.out]; rfl, by first | exact HB1.out.2 | (rw [← HB1.out.1]; exact HB1.out.2)⟩
  · have HF : Hid (mayA mayGl mayLn gs st ls = false) := Lib.hid (by unfold mayA; rw [show decide (0 ≤ st ∧ st ≤ 16777216) = false from by simpa using hst]; simp)
    by_cases h1 : st < 0
    · have s1 : decide (st < 0) = true := by simp [h1]
      go_enter Try.func30, Try.ntmps30
      go_wp2_with fail
      go_ret
      exact ⟨by rw [HF.out]; rfl, by first | exact HB1.out.2 | (rw [← HB1.out.1]; exact HB1.out.2)⟩
    · have s1 : decide (st < 0) = false := by simp; omega
      have s2 : (16777216 : Int) < st := by omega
      clear hst
      go_enter Try.func30, Try.ntmps30
      go_wp2_with fail
      go_ret
      exact ⟨by rw [HF.out]; rfl, by first | exact HB1.out.2 | (rw [← HB1.out.1]; exact HB1.out.2)⟩
end Rv
end Go.Proofs.Ytmedhibjkbahpaa
namespace Go.Proofs.Ytmedhibjkbahpaa
open Go.RowKit
set_option linter.unusedVariables false
set_option linter.unusedSimpArgs false
set_option maxRecDepth 100000
namespace Rv
/-- A symbol and its address, as the document's Load lays them. -/
structure Sy where
  name : ByteArray
  pos : Int
def Sy.cells (s : Sy) : List Value := [.string s.name, .int .i32 s.pos]
def SysAt (w : World) (A : Option Addr) (n : Nat) (ls : List Sy) : Prop :=
  ls.length = n ∧ (0 < n → ∃ g off, A = some ⟨g, off, none⟩ ∧ g < w.heap.size ∧ ∀ k s, ls[k]? = some s → ∀ (j : Nat) u, s.cells[j]? = some u → w.cell? ⟨g, off + k * 2 + j, none⟩ = some u)
theorem SysAt.below {w w' : World} {A : Option Addr} {n : Nat} {ls : List Sy} (h : SysAt w A n ls) (hb : Below w.heap.size w w') : SysAt w' A n ls := by
  refine ⟨h.1, fun hn => ?_⟩
  obtain ⟨g, off, h1, h2, h3⟩ := h.2 hn
  exact ⟨g, off, h1, Nat.lt_of_lt_of_le h2 hb.size, fun k s hk j u hj => (hb.cell (p := ⟨g, off + k * 2 + j, none⟩) h2).trans (h3 k s hk j u hj)⟩
/-- Where a symbol is among some. -/
def posO (ls : List Sy) (x : ByteArray) : Option Nat := ls.findIdx? fun s => decide (s.name = x)
def posI (ls : List Sy) (x : ByteArray) : Int := match posO ls x with | some k => (k : Int) | none => -1
theorem posI_some {ls : List Sy} {x : ByteArray} {k : Nat} {s : Sy} (h : ls[k]? = some s) (hx : s.name = x) (hb : ∀ j t, j < k → ls[j]? = some t → t.name ≠ x) : posI ls x = (k : Int) := by
  unfold posI
  have : posO ls x = some k := by
    unfold posO
    rw [List.findIdx?_eq_some_iff_getElem]
    obtain ⟨hk, he⟩ := List.getElem?_eq_some_iff.1 h
    refine ⟨hk, by rw [he]; simpa using hx, fun j hj => ?_⟩
    have := hb j _ hj (List.getElem?_eq_getElem (by omega))
    simpa using this
  rw [this]
theorem posI_none {ls : List Sy} {x : ByteArray} (hb : ∀ (j : Nat) t, ls[j]? = some t → t.name ≠ x) : posI ls x = -1 := by
  unfold posI
  have : posO ls x = none := by
    unfold posO
    rw [List.findIdx?_eq_none_iff]
    intro t ht
    obtain ⟨j, hj⟩ := List.getElem?_of_mem ht
    simpa using hb j t hj
  rw [this]
set_option maxHeartbeats 3200000 in
theorem refAt_any (w : World) (A : Option Addr) (n c : Nat) (ls : List Sy) (hS : SysAt w A n ls) (hn : n ≤ 100000) (x : ByteArray) (hx : x.size ≤ 9223372036854775807) :
    Calls Try.prog 14 #[.slice A n c, .string x] w fun e w' => e = .returned (.int .i64 (posI ls x)) ∧ Below w.heap.size w w' := by
  have HS := Lib.hid hS
  have HN := Lib.hid hS.1
  have hn2 : (n : Int) ≤ 100000 := by omega
  have HC := Lib.hid (Below.refl w.heap.size w)
  clear hS
  go_enter Try.func14, Try.ntmps14
  go_wp2_with fail
  go_loopw [9] (fun i wr => ∃ k : Nat, k ≤ n ∧ i = .int .i64 k ∧ Hid (Below w.heap.size w wr ∧ ∀ j t, j < k → ls[j]? = some t → t.name ≠ x)) (fun i _ => n - (intOf i).toNat)
  case atStart => exact ⟨0, by omega, rfl, Lib.hid ⟨HC.out, fun j l hj => by omega⟩⟩
  case round =>
    clear HC
    obtain ⟨k, hk, rfl, HI⟩ := hrel
    rcases Nat.lt_or_ge k n with hlt | hge
    · have hlt' : (k : Int) < (n : Int) := by omega
      have hk0 : (0 : Int) ≤ (k : Int) := by omega
      obtain ⟨l, hl⟩ : ∃ l, ls[k]? = some l := ⟨_, List.getElem?_eq_getElem (by have := HN.out; omega)⟩
      obtain ⟨g, off, rfl, hg, hc⟩ := HS.out.2 (by omega)
      have hcell := fun j u hj => (HI.out.1.cell (p := ⟨g, off + k * 2 + j, none⟩) hg).trans (hc k _ hl j u hj)
      obtain ⟨sn, sp⟩ := l
      have d0 := hcell 0 _ rfl
      have d1 := hcell 1 _ rfl
      rw [Nat.add_zero] at d0
      obtain ⟨W4, hW4⟩ : ∃ W4, wr.alloc (.cells #[.string sn, .int .i32 sp] 43) = W4 := ⟨_, rfl⟩
      obtain ⟨bx, hbx⟩ : ∃ bx, wr.heap.size = bx := ⟨_, rfl⟩
      have hb4 : Below wr.heap.size wr W4 := by rw [← hW4]; exact (Below.refl _ _).alloc (Nat.le_refl _) _
      have hn4 : W4.heap[bx]? = some (.cells #[.string sn, .int .i32 sp] 43 (0, 0)) := by rw [← hW4, ← hbx]; exact heap_alloc_new wr _
      have u0 : W4.cell? ⟨bx, 0, none⟩ = some (.string sn) := by rw [cell_of_row _ _ 0 _ _ (0, 0) hn4]; rfl
      have HB4 := Lib.hid (HI.out.1.trans (hb4.mono HI.out.1.size))
      have HLL := Lib.hid hl
      have HALL := Lib.hid HI.out.2
      clear hc hg hl hcell hb4 hn4 HI
      by_cases hm : sn = x
      · have e1 : (sn.toList == x.toList) = true := by simp [hm]
        have HM := Lib.hid hm
        clear hm
        go_wp2_with fail
        go_ret
        exact ⟨by rw [posI_some HLL.out HM.out HALL.out]; rfl, HB4.out⟩
      · have e1 : (sn.toList == x.toList) = false := by rw [ba_toList, ba_toList]; simp; exact fun h => hm (ba_ext (by rw [h]))
        have HM := Lib.hid hm
        clear hm
        go_wp2_with fail
        go_roundw
        case rel => exact ⟨k + 1, by omega, by go_num, Lib.hid ⟨HB4.out, fun j l hj hjl => by
          rcases Nat.lt_or_ge j k with q | q
          · exact HALL.out j l q hjl
          · obtain rfl : j = k := by omega
            rw [HLL.out] at hjl
            cases hjl
            exact HM.out⟩⟩
        case measure => simp [intOf] <;> omega
    · obtain rfl : n = k := by omega
      have HF : Hid (posI ls x = -1) := Lib.hid (posI_none fun j l hj => HI.out.2 j l (by have := HN.out; have := (List.getElem?_eq_some_iff.1 hj).1; omega) hj)
      have HC := Lib.hid HI.out.1
      clear HI
      go_wp2_with fail
      go_ret
      exact ⟨by rw [HF.out]; rfl, HC.out⟩
theorem refSplit_any (n : Int) (h0 : 0 ≤ n) (h1 : n ≤ 2000000) (w : World) :
    Calls Try.prog 31 #[.int .i32 n] w fun e w' => e = .returned (.tuple #[.int .i32 (splitHi n), .int .i32 (splitLo n)]) ∧ w = w' := by
  obtain ⟨lo, hlo⟩ : ∃ lo, splitLo n = lo := ⟨_, rfl⟩
  obtain ⟨hi, hhi⟩ : ∃ hi, splitHi n = hi := ⟨_, rfl⟩
  have t0 : Int.tmod n 4096 = n % 4096 := Int.tmod_eq_emod_of_nonneg h0
  have t1 : Int.tmod (n % 4096 + 4096) 4096 = n % 4096 := by rw [Int.tmod_eq_emod_of_nonneg (by omega)]; omega
  rw [hlo, hhi]
  unfold splitLo wrap32 at hlo
  by_cases hc : 2048 ≤ n % 4096
  · have hl : lo = n % 4096 - 4096 := by omega
    have t2 : Int.tdiv (n - (n % 4096 - 4096)) 4096 = hi := by
      rw [Int.tdiv_eq_ediv_of_nonneg (by omega), ← hhi]; unfold splitHi splitLo wrap32; omega
    have hhb : 0 ≤ hi ∧ hi < 1048576 := by rw [← t2, Int.tdiv_eq_ediv_of_nonneg (by omega)]; omega
    have t3 : Int.tmod (hi + 1048576) 1048576 = hi := by rw [Int.tmod_eq_emod_of_nonneg (by omega)]; omega
    subst hl
    go_enter Try.func31, Try.ntmps31
    go_wp2_with fail
    go_ret2
    exact ⟨rfl, rfl⟩
  · have hl : lo = n % 4096 := by omega
    have t2 : Int.tdiv (n - n % 4096) 4096 = hi := by
      rw [Int.tdiv_eq_ediv_of_nonneg (by omega), ← hhi]; unfold splitHi splitLo wrap32; omega
    have hhb : 0 ≤ hi ∧ hi < 1048576 := by rw [← t2, Int.tdiv_eq_ediv_of_nonneg (by omega)]; omega
    have t3 : Int.tmod (hi + 1048576) 1048576 = hi := by rw [Int.tmod_eq_emod_of_nonneg (by omega)]; omega
    subst hl
    go_enter Try.func31, Try.ntmps31
    go_wp2_with fail
    go_ret2
    exact ⟨rfl, rfl⟩
end Rv
end Go.Proofs.Ytmedhibjkbahpaa
namespace Go.Proofs.Ytmedhibjkbahpaa
open Go.RowKit
set_option linter.unusedVariables false
set_option linter.unusedSimpArgs false
set_option maxRecDepth 100000
namespace Rv
theorem infoSyR : (Try.prog.info? 43).map (fun i => (i.zero, i.size, i.bytes)) = some (some (.agg #[.string ⟨#[]⟩, .int .i32 0]), 2, 24) := by kernel_rfl
structure RAt (w0 : World) (r m : Nat) (w : World) (LA : Option Addr) (lc : Nat) (ls : List Ln) (SA : Option Addr) (sc : Nat) (ss : List Sy) (words : Int) : Prop where
  below : Below w0.heap.size w0 w
  rge : w0.heap.size ≤ r
  mge : w0.heap.size ≤ m
  ne : r ≠ m
  rz : w.heap[r]? = some (.cells #[.slice none 0 0, .slice none 0 0, .int .i64 0] 34 (0, 0))
  im : w.heap[m]? = some (.cells #[.slice LA ls.length lc, .slice SA ss.length sc, .int .i64 words] 34 (0, 0))
  line : SLine 7 w LA ls.length lc (ls.flatMap Ln.cells)
  sym : SLine 2 w SA ss.length sc (ss.flatMap Sy.cells)
  bl : ∀ k ∈ blk LA, w0.heap.size ≤ k ∧ k ≠ r ∧ k ≠ m
  bs : ∀ k ∈ blk SA, w0.heap.size ≤ k ∧ k ≠ r ∧ k ≠ m ∧ k ∉ blk LA
theorem RAt.mlt {w0 : World} {r m : Nat} {w : World} {LA : Option Addr} {lc : Nat} {ls : List Ln} {SA : Option Addr} {sc : Nat} {ss : List Sy} {words : Int} (h : RAt w0 r m w LA lc ls SA sc ss words) : m < w.heap.size := (Array.getElem?_eq_some_iff.1 h.im).1
theorem RAt.rlt {w0 : World} {r m : Nat} {w : World} {LA : Option Addr} {lc : Nat} {ls : List Ln} {SA : Option Addr} {sc : Nat} {ss : List Sy} {words : Int} (h : RAt w0 r m w LA lc ls SA sc ss words) : r < w.heap.size := (Array.getElem?_eq_some_iff.1 h.rz).1
theorem RAt.cells {w0 : World} {r m : Nat} {w : World} {LA : Option Addr} {lc : Nat} {ls : List Ln} {SA : Option Addr} {sc : Nat} {ss : List Sy} {words : Int} (h : RAt w0 r m w LA lc ls SA sc ss words) : w.cell? ⟨m, 0, none⟩ = some (.slice LA ls.length lc) ∧ w.cell? ⟨m, 1, none⟩ = some (.slice SA ss.length sc) ∧ w.cell? ⟨m, 2, none⟩ = some (.int .i64 words) ∧ ∀ j, w.frozen? ⟨m, j, none⟩ = false := by
  refine ⟨?_, ?_, ?_, fun j => frozen_of_row _ m j _ _ h.im⟩ <;> (rw [cell_of_row _ m _ _ _ (0, 0) h.im]; rfl)
theorem RAt.rcells {w0 : World} {r m : Nat} {w : World} {LA : Option Addr} {lc : Nat} {ls : List Ln} {SA : Option Addr} {sc : Nat} {ss : List Sy} {words : Int} (h : RAt w0 r m w LA lc ls SA sc ss words) : w.cell? ⟨r, 0, none⟩ = some (.slice none 0 0) ∧ w.cell? ⟨r, 1, none⟩ = some (.slice none 0 0) ∧ w.cell? ⟨r, 2, none⟩ = some (.int .i64 0) ∧ ∀ j, w.frozen? ⟨r, j, none⟩ = false := by
  refine ⟨?_, ?_, ?_, fun j => frozen_of_row _ r j _ _ h.rz⟩ <;> (rw [cell_of_row _ r _ _ _ (0, 0) h.rz]; rfl)
theorem RAt.grow {w0 : World} {r m : Nat} {w : World} {LA : Option Addr} {lc : Nat} {ls : List Ln} {SA : Option Addr} {sc : Nat} {ss : List Sy} {words : Int} {w' : World} (h : RAt w0 r m w LA lc ls SA sc ss words) (hb : Below w.heap.size w w') : RAt w0 r m w' LA lc ls SA sc ss words :=
  ⟨h.below.trans (hb.mono h.below.size), h.rge, h.mge, h.ne, (hb.block r h.rlt).trans h.rz, (hb.block m h.mlt).trans h.im, h.line.below hb, h.sym.below hb, h.bl, h.bs⟩
theorem RAt.words' {w0 : World} {r m : Nat} {w : World} {LA : Option Addr} {lc : Nat} {ls : List Ln} {SA : Option Addr} {sc : Nat} {ss : List Sy} {words : Int} (h : RAt w0 r m w LA lc ls SA sc ss words) (z : Int) : RAt w0 r m (w.setCell ⟨m, 2, none⟩ (.int .i64 z)) LA lc ls SA sc ss z := by
  have hc : Chg [m] w (w.setCell ⟨m, 2, none⟩ (.int .i64 z)) := (Chg.refl _ w).setCell m 2 _ (.inl (by simp))
  refine ⟨h.below.trans (hc.toBelow (fun k hk => by rw [List.mem_singleton] at hk; subst hk; exact h.mge) h.below.size), h.rge, h.mge, h.ne, (setCell_off _ _ _ _ _ h.ne).trans h.rz, ?_, h.line.chg hc (fun k hk => by rw [List.mem_singleton]; exact (h.bl k hk).2.2), h.sym.chg hc (fun k hk => by rw [List.mem_singleton]; exact (h.bs k hk).2.2.1), h.bl, h.bs⟩
  rw [heap_setCell_same w m 2 _ _ _ h.im]
  rfl
/-- Another block is another. -/
theorem RAt.far {w0 : World} {r m : Nat} {w : World} {LA : Option Addr} {lc : Nat} {ls : List Ln} {SA : Option Addr} {sc : Nat} {ss : List Sy} {words : Int} {w' : World} (h : RAt w0 r m w LA lc ls SA sc ss words) {b : Nat} (hc : Chg [b] w w') (h0 : w0.heap.size ≤ b) (h1 : b ≠ r) (h2 : b ≠ m) (h3 : b ∉ blk LA) (h4 : b ∉ blk SA) : RAt w0 r m w' LA lc ls SA sc ss words :=
  ⟨h.below.trans (hc.toBelow (fun k hk => by rw [List.mem_singleton] at hk; subst hk; exact h0) h.below.size), h.rge, h.mge, h.ne, (hc.same r h.rlt (by rw [List.mem_singleton]; exact h1.symm)).trans h.rz, (hc.same m h.mlt (by rw [List.mem_singleton]; exact h2.symm)).trans h.im,
    h.line.chg hc (fun k hk => by rw [List.mem_singleton]; intro e; subst e; exact h3 hk), h.sym.chg hc (fun k hk => by rw [List.mem_singleton]; intro e; subst e; exact h4 hk), h.bl, h.bs⟩
/-- A block new since is far. -/
theorem RAt.fresh {w0 : World} {r m : Nat} {w : World} {LA : Option Addr} {lc : Nat} {ls : List Ln} {SA : Option Addr} {sc : Nat} {ss : List Sy} {words : Int} (h : RAt w0 r m w LA lc ls SA sc ss words) : w0.heap.size ≤ w.heap.size ∧ w.heap.size ≠ r ∧ w.heap.size ≠ m ∧ w.heap.size ∉ blk LA ∧ w.heap.size ∉ blk SA := by
  have h1 := h.mlt
  have h2 := h.rlt
  refine ⟨h.below.size, by omega, by omega, fun hk => ?_, fun hk => ?_⟩
  · have := h.line.lt _ hk; omega
  · have := h.sym.lt _ hk; omega
/-- A symbol more. -/
theorem RAt.symPush {w0 : World} {r m : Nat} {w : World} {LA : Option Addr} {lc : Nat} {ls : List Ln} {SA : Option Addr} {sc : Nat} {ss : List Sy} {words : Int} (h : RAt w0 r m w LA lc ls SA sc ss words) (hl : ss.length ≤ 10000) (nm : ByteArray) (z : Int) :
    ∃ A' c' w2, (Builtin.append_ #[32, 32] 32 #[.slice SA ss.length sc, .slice (some ⟨w.heap.size, 0, none⟩) 1 1]).run Try.prog (w.alloc (.cells #[.string nm, .int .i32 z] 43)) = .ok (.slice A' (ss.length + 1) c') w2 ∧
      Chg (blk SA) w w2 ∧ RAt w0 r m (w2.setCell ⟨m, 1, none⟩ (.slice A' (ss.length + 1) c')) LA lc ls A' c' (ss ++ [⟨nm, z⟩]) words := by
  obtain ⟨A', c', w2, h1, h2, h3, h4, _⟩ := push_sR 2 w 32 43 32 _ 24 Try.underlying32 infoSyR rfl (by decide) SA ss.length sc _ h.sym (by omega) (Sy.mk nm z).cells rfl (by
    intro u hu
    simp only [Sy.cells, List.mem_cons, List.not_mem_nil, or_false] at hu
    rcases hu with h | h <;> (rw [h]; rfl))
  have hm := h.mlt
  have hr := h.rlt
  have hmA : m ∉ blk SA := fun hk => (h.bs _ hk).2.2.1 rfl
  have hrA : r ∉ blk SA := fun hk => (h.bs _ hk).2.1 rfl
  have hB := h.below.size
  have hc3 : Chg (m :: blk SA) w (w2.setCell ⟨m, 1, none⟩ (.slice A' (ss.length + 1) c')) := (h3.weaken (fun k hk => .inl (List.mem_cons_of_mem _ hk))).setCell m 1 _ (.inl (by simp))
  have hlen : (ss ++ [(⟨nm, z⟩ : Sy)]).length = ss.length + 1 := by simp
  have hbs : ∀ k ∈ blk A', w0.heap.size ≤ k ∧ k ≠ r ∧ k ≠ m ∧ k ∉ blk LA := fun k hk => by
    rcases h4 k hk with q | q
    · exact h.bs k q
    · exact ⟨by omega, by omega, by omega, fun hk2 => by have := h.line.lt _ hk2; omega⟩
  refine ⟨A', c', w2, h1, h3, ⟨h.below.trans (hc3.toBelow (fun k hk => by rcases List.mem_cons.1 hk with rfl | hk; exact h.mge; exact (h.bs k hk).1) hB), h.rge, h.mge, h.ne, ?_, ?_, ?_, ?_, h.bl, hbs⟩⟩
  · exact (hc3.same r hr (by simp only [List.mem_cons, not_or]; exact ⟨h.ne, hrA⟩)).trans h.rz
  · rw [heap_setCell_same w2 m 1 _ _ _ ((h3.same m hm hmA).trans h.im), hlen]
    rfl
  · exact h.line.chg hc3 (fun k hk => by simp only [List.mem_cons, not_or]; exact ⟨(h.bl k hk).2.2, fun q => (h.bs k q).2.2.2 hk⟩)
  · rw [hlen, List.flatMap_append]
    have h2' : SLine 2 w2 A' (ss.length + 1) c' (ss.flatMap Sy.cells ++ [(⟨nm, z⟩ : Sy)].flatMap Sy.cells) := by simpa using h2
    exact h2'.chg ((Chg.refl [m] w2).setCell m 1 _ (.inl (by simp))) (fun k hk => by rw [List.mem_singleton]; exact (hbs k hk).2.2.1)
/-- A line more. -/
theorem RAt.linePush {w0 : World} {r m : Nat} {w : World} {LA : Option Addr} {lc : Nat} {ls : List Ln} {SA : Option Addr} {sc : Nat} {ss : List Sy} {words : Int} (h : RAt w0 r m w LA lc ls SA sc ss words) (hl : ls.length ≤ 10000) (lk lo ld la lb lnn : Int) (lsym : ByteArray) :
    ∃ A' c' w2, (Builtin.append_ #[23, 23] 23 #[.slice LA ls.length lc, .slice (some ⟨w.heap.size, 0, none⟩) 1 1]).run Try.prog (w.alloc (.cells #[.int .i64 lk, .int .i64 lo, .int .i64 ld, .int .i64 la, .int .i64 lb, .int .i32 lnn, .string lsym] 39)) = .ok (.slice A' (ls.length + 1) c') w2 ∧
      Chg (blk LA) w w2 ∧ RAt w0 r m (w2.setCell ⟨m, 0, none⟩ (.slice A' (ls.length + 1) c')) A' c' (ls ++ [⟨lk, lo, ld, la, lb, lnn, lsym⟩]) SA sc ss words := by
  obtain ⟨A', c', w2, h1, h2, h3, h4, _⟩ := push_sR 7 w 23 39 23 _ 64 Try.underlying23 infoLnR rfl (by decide) LA ls.length lc _ h.line (by omega) (Ln.mk lk lo ld la lb lnn lsym).cells rfl (by
    intro u hu
    simp only [Ln.cells, List.mem_cons, List.not_mem_nil, or_false] at hu
    rcases hu with h | h | h | h | h | h | h <;> (rw [h]; rfl))
  have hm := h.mlt
  have hr := h.rlt
  have hmA : m ∉ blk LA := fun hk => (h.bl _ hk).2.2 rfl
  have hrA : r ∉ blk LA := fun hk => (h.bl _ hk).2.1 rfl
  have hB := h.below.size
  have hc3 : Chg (m :: blk LA) w (w2.setCell ⟨m, 0, none⟩ (.slice A' (ls.length + 1) c')) := (h3.weaken (fun k hk => .inl (List.mem_cons_of_mem _ hk))).setCell m 0 _ (.inl (by simp))
  have hlen : (ls ++ [(⟨lk, lo, ld, la, lb, lnn, lsym⟩ : Ln)]).length = ls.length + 1 := by simp
  have hbl : ∀ k ∈ blk A', w0.heap.size ≤ k ∧ k ≠ r ∧ k ≠ m := fun k hk => by
    rcases h4 k hk with q | q
    · exact h.bl k q
    · exact ⟨by omega, by omega, by omega⟩
  refine ⟨A', c', w2, h1, h3, ⟨h.below.trans (hc3.toBelow (fun k hk => by rcases List.mem_cons.1 hk with rfl | hk; exact h.mge; exact (h.bl k hk).1) hB), h.rge, h.mge, h.ne, ?_, ?_, ?_, ?_, hbl, fun k hk => ⟨(h.bs k hk).1, (h.bs k hk).2.1, (h.bs k hk).2.2.1, fun q => ?_⟩⟩⟩
  · exact (hc3.same r hr (by simp only [List.mem_cons, not_or]; exact ⟨h.ne, hrA⟩)).trans h.rz
  · rw [heap_setCell_same w2 m 0 _ _ _ ((h3.same m hm hmA).trans h.im), hlen]
    rfl
  · rw [hlen, List.flatMap_append]
    have h2' : SLine 7 w2 A' (ls.length + 1) c' (ls.flatMap Ln.cells ++ [(⟨lk, lo, ld, la, lb, lnn, lsym⟩ : Ln)].flatMap Ln.cells) := by simpa using h2
    exact h2'.chg ((Chg.refl [m] w2).setCell m 0 _ (.inl (by simp))) (fun k hk => by rw [List.mem_singleton]; exact (hbl k hk).2.2)
  · exact h.sym.chg hc3 (fun k hk => by simp only [List.mem_cons, not_or]; exact ⟨(h.bs k hk).2.2.1, (h.bs k hk).2.2.2⟩)
  · rcases h4 k q with q | q
    · exact (h.bs k hk).2.2.2 q
    · have := h.sym.lt k hk; omega

theorem flatL_set (l' : Ln) : ∀ (ls : List Ln) (k : Nat), k < ls.length → (ls.set k l').flatMap Ln.cells = (ls.flatMap Ln.cells).take (k * 7) ++ l'.cells ++ (ls.flatMap Ln.cells).drop (k * 7 + 7)
  | x :: xs, 0, _ => by
    have hx : x.cells.length = 7 := rfl
    rw [List.set_cons_zero, List.flatMap_cons, List.flatMap_cons, Nat.zero_mul, List.take_zero, List.nil_append, Nat.zero_add, List.drop_append_of_le_length (by omega), List.drop_eq_nil_of_le (by omega), List.nil_append]
  | x :: xs, k + 1, h => by
    have hx : x.cells.length = 7 := rfl
    have ih := flatL_set l' xs k (by simpa using h)
    rw [List.set_cons_succ, List.flatMap_cons, List.flatMap_cons, ih, List.take_append, List.drop_append, hx]
    rw [List.take_of_length_le (l := x.cells) (by omega), show List.drop ((k + 1) * 7 + 7) x.cells = [] from List.drop_eq_nil_of_le (by omega), List.nil_append, show (k + 1) * 7 - 7 = k * 7 from by omega, show (k + 1) * 7 + 7 - 7 = k * 7 + 7 from by omega, List.append_assoc, List.append_assoc, List.append_assoc]
/-- A line anew. -/
theorem RAt.linePut {w0 : World} {r m : Nat} {w : World} {g off : Nat} {lc : Nat} {ls : List Ln} {SA : Option Addr} {sc : Nat} {ss : List Sy} {words : Int} (h : RAt w0 r m w (some ⟨g, off, none⟩) lc ls SA sc ss words) (k : Nat) (hk : k < ls.length) (l' : Ln) :
    RAt w0 r m (w.setCells g (off + k * 7) l'.cells) (some ⟨g, off, none⟩) lc (ls.set k l') SA sc ss words := by
  have hg : g ∈ blk (some (⟨g, off, none⟩ : Addr)) := mem_blk.2 ⟨_, rfl, rfl⟩
  have hc : Chg [g] w (w.setCells g (off + k * 7) l'.cells) := chg_cells w g _ _
  have h7 : l'.cells.length = 7 := rfl
  have hlen : (ls.set k l').length = ls.length := by simp
  refine ⟨h.below.trans (hc.toBelow (fun k hk => by rw [List.mem_singleton] at hk; subst hk; exact (h.bl _ hg).1) h.below.size), h.rge, h.mge, h.ne, (hc.same r h.rlt (by rw [List.mem_singleton]; exact fun e => (h.bl _ hg).2.1 e.symm)).trans h.rz, ?_, ?_, ?_, h.bl, h.bs⟩
  · rw [hlen]
    exact (hc.same m h.mlt (by rw [List.mem_singleton]; exact fun e => (h.bl _ hg).2.2 e.symm)).trans h.im
  · have := SLine.set h.line (k * 7) l'.cells (by rw [h7]; omega)
    rw [hlen, flatL_set l' ls k hk]
    rw [h7] at this
    exact this
  · exact h.sym.chg hc (fun k hk => by rw [List.mem_singleton]; intro e; subst e; exact (h.bs k hk).2.2.2 hg)
/-- What the document's Load lays: symbols and words of the globals; lines and symbols of the lines. -/
def stepGR (s : List Sy × Int) (g : Gl) : List Sy × Int := (s.1 ++ [⟨g.name, 65536 + 4 * s.2⟩], s.2 + max 1 g.size)
def stepLR (s : List Ln × List Sy) (l : Ln) : List Ln × List Sy := if l.k = 1 then (s.1, s.2 ++ [⟨l.s, 4 * (s.1.length : Int)⟩]) else (s.1 ++ [l], s.2)
def twiceB (ss : List Sy) : Bool := (List.range ss.length).all fun j => match ss[j]? with | some t => decide (posI ss t.name = (j : Int)) | none => true
def symAt (ss : List Sy) (x : ByteArray) : Int := match posO ss x with | some k => (match ss[k]? with | some t => t.pos | none => 0) | none => 0
def fixR (ss : List Sy) (i : Nat) (l : Ln) : Ln :=
  if noS l.s then l else { l with n := if l.op = 1 then splitHi (symAt ss l.s) else if l.op = 2 then splitLo (symAt ss l.s) else symAt ss l.s - 4 * (i : Int), s := ⟨#[]⟩ }
def bigR (ss : List Sy) (i : Nat) (l : Ln) : Bool := !noS l.s && !(l.op == 1) && !(l.op == 2) && (decide ((fixR ss i l).n < -1048576) || decide (1048574 < (fixR ss i l).n))
def resR (ss : List Sy) : List Ln → List Ln → Bool → Option (List Ln × Bool)
  | acc, [], b => some (acc, b)
  | acc, l :: ls, b => if noS l.s = false ∧ posO ss l.s = none then none else resR ss (acc ++ [fixR ss acc.length l]) ls (b || bigR ss acc.length l)
inductive RR where
  | err (k : Int)
  | ok (ls : List Ln) (ss : List Sy) (words : Int)
def loadR (may : Bool) (gs : List Gl) (st : Int) (ls : List Ln) : RR :=
  if may = true then
    let g := gs.foldl stepGR ([], 0)
    let q := ls.foldl stepLR ([], g.1)
    if twiceB q.2 = true then
      match resR q.2 [] q.1 (decide (16384 < g.2)) with
      | none => .err 21
      | some (l, b) => if b = true then .err 2 else .ok l q.2 (g.2 + (st + 3) / 4)
    else .err 20
  else .err 1
end Rv
end Go.Proofs.Ytmedhibjkbahpaa
namespace Go.Proofs.Ytmedhibjkbahpaa
open Go.RowKit
set_option linter.unusedVariables false
set_option linter.unusedSimpArgs false
set_option maxRecDepth 100000
namespace Rv
theorem SLine.sysAt {w : World} {A : Option Addr} {c : Nat} {ls : List Sy} (h : SLine 2 w A ls.length c (ls.flatMap Sy.cells)) : SysAt w A ls.length ls := by
  refine ⟨rfl, fun hn => ?_⟩
  obtain ⟨g, off, e, hg, hc, -⟩ := h.at hn
  refine ⟨g, off, e, hg, fun i l hi j v hj => ?_⟩
  have hj7 : j < 2 := (List.getElem?_eq_some_iff.1 hj).1
  have hi7 : i < ls.length := (List.getElem?_eq_some_iff.1 hi).1
  rw [Nat.add_assoc, hc (i * 2 + j) (by omega)]
  have flat : ∀ (ls : List Sy) (i : Nat), ls[i]? = some l → (ls.flatMap Sy.cells)[i * 2 + j]? = l.cells[j]? := by
    intro ls
    induction ls with
    | nil => intro i h; cases h
    | cons x xs ih =>
      intro i h
      have hx : x.cells.length = 2 := rfl
      rw [List.flatMap_cons]
      cases i with
      | zero =>
        cases h
        rw [List.getElem?_append_left (by rw [hx]; omega), Nat.zero_mul, Nat.zero_add]
      | succ i =>
        rw [List.getElem?_append_right (by rw [hx]; omega), hx, show (i + 1) * 2 + j - 2 = i * 2 + j from by omega]
        exact ih i (by simpa using h)
  rw [flat ls i hi]
  exact hj
theorem twice_yes {ss : List Sy} (h : ∀ (j : Nat) t, ss[j]? = some t → posI ss t.name = (j : Int)) : twiceB ss = true := by
  unfold twiceB
  rw [List.all_eq_true]
  intro j hj
  cases e : ss[j]? with
  | none => rfl
  | some t => simpa using h j t e
theorem twice_no {ss : List Sy} {j : Nat} {t : Sy} (h : ss[j]? = some t) (hn : posI ss t.name ≠ (j : Int)) : twiceB ss = false := by
  unfold twiceB
  rw [List.all_eq_false]
  refine ⟨j, List.mem_range.2 (List.getElem?_eq_some_iff.1 h).1, ?_⟩
  rw [h]
  simpa using hn
theorem posO_at {ss : List Sy} {x : ByteArray} {j : Nat} (h : posO ss x = some j) : ∃ t, ss[j]? = some t ∧ symAt ss x = t.pos := by
  unfold posO at h
  obtain ⟨hj, -⟩ := List.findIdx?_eq_some_iff_getElem.1 h
  refine ⟨ss[j], List.getElem?_eq_getElem hj, ?_⟩
  unfold symAt posO
  rw [h]
  dsimp only
  rw [List.getElem?_eq_getElem hj]
theorem resR_some {ss : List Sy} {acc rest : List Ln} {l : Ln} {b : Bool} {j : Nat} (h : posO ss l.s = some j) : resR ss acc (l :: rest) b = resR ss (acc ++ [fixR ss acc.length l]) rest (b || bigR ss acc.length l) := by
  rw [resR, if_neg (by rw [h]; simp)]
theorem resR_no {ss : List Sy} {acc rest : List Ln} {l : Ln} {b : Bool} (h : noS l.s = true) : resR ss acc (l :: rest) b = resR ss (acc ++ [l]) rest b := by
  rw [resR, if_neg (by rw [h]; simp)]
  have e1 : fixR ss acc.length l = l := by unfold fixR; rw [if_pos h]
  have e2 : bigR ss acc.length l = false := by unfold bigR; rw [h]; rfl
  rw [e1, e2, Bool.or_false]
theorem resR_none {ss : List Sy} {acc rest : List Ln} {l : Ln} {b : Bool} (h : posO ss l.s = none) (hn : noS l.s = false) : resR ss acc (l :: rest) b = none := by
  rw [resR, if_pos ⟨hn, h⟩]
theorem RAt.lineCells {w0 : World} {r m : Nat} {w : World} {g off : Nat} {lc : Nat} {ls : List Ln} {SA : Option Addr} {sc : Nat} {ss : List Sy} {words : Int} (h : RAt w0 r m w (some ⟨g, off, none⟩) lc ls SA sc ss words) (k : Nat) (l : Ln) (hl : ls[k]? = some l) :
    (∀ (i : Nat) u, l.cells[i]? = some u → w.cell? ⟨g, off + k * 7 + i, none⟩ = some u) ∧ ∀ i, i < 7 → w.frozen? ⟨g, off + k * 7 + i, none⟩ = false := by
  have hk := (List.getElem?_eq_some_iff.1 hl).1
  constructor
  · intro i u hu
    obtain ⟨g', off', e, hg, hc⟩ := (SLine.lnsAt h.line).2 (by omega)
    cases e
    exact hc k l hl i u hu
  · intro i hi
    obtain ⟨g', off', e, hg, hc, hf⟩ := h.line.2.2.2.2 _ rfl
    cases e
    have := h.line.2.1
    rw [Nat.add_assoc]
    exact (hf (k * 7 + i) (by omega)).2
theorem setCells7 (w : World) (b o : Nat) (l : Ln) : w.setCells b o l.cells = ((((((w.setCell ⟨b, o, none⟩ (.int .i64 l.k)).setCell ⟨b, o + 1, none⟩ (.int .i64 l.op)).setCell ⟨b, o + 2, none⟩ (.int .i64 l.d)).setCell ⟨b, o + 3, none⟩ (.int .i64 l.a)).setCell ⟨b, o + 4, none⟩ (.int .i64 l.b)).setCell ⟨b, o + 5, none⟩ (.int .i32 l.n)).setCell ⟨b, o + 6, none⟩ (.string l.s) := by
  simp only [Ln.cells, World.setCells, Nat.add_assoc, Nat.reduceAdd]
theorem set_mid (acc rest : List Ln) (l l' : Ln) (k : Nat) (h : acc.length = k) : (acc ++ l :: rest).set k l' = (acc ++ [l']) ++ rest := by
  subst h
  simp
def ROut (w : World) (q : RR) (e : Ending) (w' : World) : Prop :=
  match q with
  | .err k => e = .returned (.tuple #[.agg #[.slice none 0 0, .slice none 0 0, .int .i64 0], .int .i64 k]) ∧ Below w.heap.size w w'
  | .ok ls ss words => ∃ LA lc SA sc, e = .returned (.tuple #[.agg #[.slice LA ls.length lc, .slice SA ss.length sc, .int .i64 words], .int .i64 0]) ∧ Below w.heap.size w w' ∧ LnsAt w' LA ls.length ls ∧ SysAt w' SA ss.length ss
/-- Symbols as they may be. -/
def SyOk (t : Sy) : Prop := 0 ≤ t.pos ∧ t.pos ≤ 2000000 ∧ t.name.size ≤ 1000000
def LnOk (l : Ln) : Prop := l.s.size ≤ 1000000 ∧ -2147483648 ≤ l.n ∧ l.n ≤ 2147483647
theorem wrap_small (z : Int) (h0 : 0 ≤ z) (h1 : z ≤ 1000) : wrap32 z = z ∧ wrap32 (4 * z) = 4 * z := ⟨IntWalk.wrap32_in _ (by omega), IntWalk.wrap32_in _ (by omega)⟩
theorem RAt.idr {w0 : World} {r m : Nat} {w : World} {LA : Option Addr} {lc : Nat} {ls : List Ln} {SA : Option Addr} {sc : Nat} {ss : List Sy} {words : Int} (h : RAt w0 r m w LA lc ls SA sc ss words) :
    w.setCell ⟨r, 0, none⟩ (.slice none 0 0) = w ∧ w.setCell ⟨r, 1, none⟩ (.slice none 0 0) = w ∧ w.setCell ⟨r, 2, none⟩ (.int .i64 0) = w :=
  ⟨setCell_idR h.rz rfl, setCell_idR h.rz rfl, setCell_idR h.rz rfl⟩
theorem results_load (tmps : Array Value) (w : World) (g : Nat) (cs : Array Value) (e : Value) (hp : tmps.getD 2 undef = .pointer (some ⟨g, 0, none⟩)) (he : tmps.getD 3 undef = e) (hg : w.heap[g]? = some (.cells cs 34 (0, 0))) (hs : cs.size = 3) :
    (results Try.f10 tmps).run Try.prog w = .ok (.tuple #[.agg cs, e]) w := by
  have hp' : tmps[2]?.getD undef = .pointer (some ⟨g, 0, none⟩) := by simpa using hp
  have he' : tmps[3]?.getD undef = e := by simpa using he
  simp [results, Try.results10, hp', he', asAddr, run_loadVar_row w g 34 34 cs (0, 0) _ hg Try.underlying34 rfl (by rw [hs]; kernel_rfl)]
set_option maxHeartbeats 1600000 in
theorem refLoad_any (w : World) (GA LA : Option Addr) (gn gc ln lc : Nat) (st : Int) (gs : List Gl) (ls : List Ln) (hG : GlsAt w GA gn gs) (hL : LnsAt w LA ln ls) (hgn : gn ≤ 1000) (hln : ln ≤ 1000)
    (hgs : ∀ g ∈ gs, g.name.size ≤ 1000000) (hls : ∀ l ∈ ls, l.s.size ≤ 1000000) (hnn : ∀ l ∈ ls, -2147483648 ≤ l.n ∧ l.n ≤ 2147483647) :
    Calls Try.prog 10 #[.agg #[.slice GA gn gc, .int .i64 st, .slice LA ln lc]] w (ROut w (loadR (mayA mayGl mayLn gs st ls) gs st ls)) := by
  obtain ⟨v, hv⟩ : ∃ v, w.heap.size = v := ⟨_, rfl⟩
  obtain ⟨W1, hW1⟩ : ∃ W1, w.alloc (.cells #[.slice GA gn gc, .int .i64 st, .slice LA ln lc] 25) = W1 := ⟨_, rfl⟩
  have hb1 : Below w.heap.size w W1 := by rw [← hW1]; exact (Below.refl _ _).alloc (Nat.le_refl _) _
  have hbx : W1.heap[v]? = some (.cells #[.slice GA gn gc, .int .i64 st, .slice LA ln lc] 25 (0, 0)) := by rw [← hW1, ← hv]; exact heap_alloc_new w _
  have hvl : v < W1.heap.size := (Array.getElem?_eq_some_iff.1 hbx).1
  obtain ⟨r, hr⟩ : ∃ r, W1.heap.size = r := ⟨_, rfl⟩
  obtain ⟨W2, hW2⟩ : ∃ W2, W1.alloc (.cells #[.slice none 0 0, .slice none 0 0, .int .i64 0] 34) = W2 := ⟨_, rfl⟩
  have s2 : W2.heap.size = r + 1 := by rw [← hW2, ← hr]; simp
  obtain ⟨W3, hW3⟩ : ∃ W3, W2.alloc (.cells #[.slice none 0 0, .slice none 0 0, .int .i64 0] 34) = W3 := ⟨_, rfl⟩
  have hb2 : Below W1.heap.size W1 W2 := by rw [← hW2]; exact (Below.refl _ _).alloc (Nat.le_refl _) _
  have hb3 : Below W2.heap.size W2 W3 := by rw [← hW3]; exact (Below.refl _ _).alloc (Nat.le_refl _) _
  have hR3 : RAt W1 r (r + 1) W3 none 0 [] none 0 [] 0 := by
    refine ⟨hb2.trans (hb3.mono hb2.size), by omega, by omega, by omega, ?_, ?_, SLine.nil 7 _, SLine.nil 2 _, fun k hk => (by cases hk), fun k hk => (by cases hk)⟩
    · rw [hb3.block r (by omega), ← hW2, ← hr]; exact heap_alloc_new W1 _
    · rw [← hW3, ← s2]; exact heap_alloc_new W2 _
  have HX : Hid (∀ V, Below W1.heap.size W1 V → V.cell? ⟨v, 0, none⟩ = some (.slice GA gn gc) ∧ V.cell? ⟨v, 1, none⟩ = some (.int .i64 st) ∧ V.cell? ⟨v, 2, none⟩ = some (.slice LA ln lc)) := Lib.hid (fun V hV => box3 ((hV.block v hvl).trans hbx))
  obtain ⟨x0, x1, x2⟩ := HX.out W3 hR3.below
  have HMAY := Lib.hid (rmay_any W3 GA LA gn gc ln lc st gs ls ((hG.below hb1).below hR3.below) ((hL.below hb1).below hR3.below) hgn hln hgs hls hnn)
  have HG := Lib.hid (hG.below hb1)
  have HL := Lib.hid (hL.below hb1)
  have HN := Lib.hid (And.intro hL.1 hG.1)
  have HGS := Lib.hid hgs
  have HLS := Lib.hid (fun l hl => (⟨hls l hl, hnn l hl⟩ : LnOk l))
  have HB1 := Lib.hid hb1
  have HR3 := Lib.hid hR3
  have hgn2 : (gn : Int) ≤ 1000 := by omega
  have hln2 : (ln : Int) ≤ 1000 := by omega
  obtain ⟨m, hm⟩ : ∃ m, W2.heap.size = m := ⟨_, rfl⟩
  have em : r + 1 = m := by omega
  rw [em] at HR3 hR3
  obtain ⟨n0, n1, n2, nf⟩ := hR3.cells
  obtain ⟨z0, z1, z2, zf⟩ := hR3.rcells
  clear hb1 hbx hvl hG hL hgs hls hnn hb2 hb3 hR3 s2 em
  cases hmay : mayA mayGl mayLn gs st ls with
  | false =>
    rw [hmay] at HMAY
    clear hmay
    go_enter Try.func10, Try.ntmps10
    go_wp2_with (go_at_call 30; (with_reducible refine HMAY.out.mono ?_); rintro e w4 ⟨rfl, hb4⟩; have hR4 := HR3.out.grow hb4; obtain ⟨n0', n1', n2', nf'⟩ := hR4.cells; obtain ⟨z0', z1', z2', zf'⟩ := hR4.rcells; have HR4 := Lib.hid hR4; clear hb4 hR4 n0 n1 n2 nf z0 z1 z2 zf x0 x1 x2)
    rw [HR4.out.idr.1, HR4.out.idr.2.1, HR4.out.idr.2.2]
    try simp only [Exit.inBlock, Exit.then]
    refine bodyPost_ret (results_load _ _ r _ _ rfl rfl HR4.out.rz rfl) rfl ?_
    show ROut w (loadR false gs st ls) _ _
    exact ⟨rfl, HB1.out.trans (HR4.out.below.mono HB1.out.size)⟩
  | true =>
    rw [hmay] at HMAY
    obtain ⟨q1, q2, q3, q4⟩ := mayA_parts hmay
    have hgn64 : gn ≤ 64 := by rw [← HN.out.2]; exact q1
    have HQ : Hid (∀ g ∈ gs, 0 ≤ g.size ∧ g.size ≤ 4096) := Lib.hid (fun g hg => by have := q2 g hg; unfold mayGl at this; simp at this; omega)
    obtain ⟨st1, st2⟩ := q3
    clear q1 q2 q4 hmay
    go_enter Try.func10, Try.ntmps10
    go_upto_region 5 with (go_at_call 30; (with_reducible refine HMAY.out.mono ?_); rintro e w4 ⟨rfl, hb4⟩; have hR4 := HR3.out.grow hb4; obtain ⟨y0, y1, y2⟩ := HX.out _ hR4.below; have HR4 := Lib.hid hR4; clear hb4 hR4 n0 n1 n2 nf z0 z1 z2 zf x0 x1 x2)
    clear y0 y1 y2 hW1 hW2 hW3 HR3 HMAY
    go_loopw [24] (fun i wr => ∃ k : Nat, k ≤ gn ∧ i = .int .i64 k ∧ Hid (∃ SA sc s, s = (gs.take k).foldl stepGR ([], 0) ∧ s.1.length = k ∧ 0 ≤ s.2 ∧ s.2 ≤ 4096 * (k : Int) ∧ (∀ t ∈ s.1, SyOk t) ∧ RAt W1 r m wr none 0 [] SA sc s.1 s.2)) (fun i _ => gn - (intOf i).toNat)
    case atStart => exact ⟨0, by omega, rfl, Lib.hid ⟨none, 0, ([], 0), rfl, rfl, by simp, by simp, fun t ht => (by cases ht), HR4.out⟩⟩
    case round =>
      clear HR4
      obtain ⟨k, hk, rfl, HI⟩ := hrel
      rcases Nat.lt_or_ge k gn with hlt | hge
      · have hlt' : (k : Int) < (gn : Int) := by omega
        have hk0 : (0 : Int) ≤ (k : Int) := by omega
        obtain ⟨l, hl⟩ : ∃ l, gs[k]? = some l := ⟨_, List.getElem?_eq_getElem (by have := HN.out; omega)⟩
        obtain ⟨g, off, rfl, hg, hc⟩ := HG.out.2 (by omega)
        obtain ⟨SA, sc, s, hs, hsl, hw0, hw1, hps, hR⟩ := HI.out
        obtain ⟨ss, words⟩ := s
        dsimp only at hsl hw0 hw1 hps hR
        have hcell := fun j u hj => (hR.below.cell (p := ⟨g, off + k * 2 + j, none⟩) hg).trans (hc k _ hl j u hj)
        have hsz := HQ.out l (List.mem_of_getElem? hl)
        have hnm := HGS.out l (List.mem_of_getElem? hl)
        have hnx : (gs.take (k + 1)).foldl stepGR ([], 0) = stepGR (ss, words) l := by rw [foldl_take _ _ hl, ← hs]
        obtain ⟨nm, gz⟩ := l
        dsimp only at hsz hnm
        have d0 := hcell 0 _ rfl
        have d1 := hcell 1 _ rfl
        rw [Nat.add_zero] at d0
        obtain ⟨W4, hW4⟩ : ∃ W4, wr.alloc (.cells #[.string nm, .int .i64 gz] 72) = W4 := ⟨_, rfl⟩
        obtain ⟨bx, hbx⟩ : ∃ bx, wr.heap.size = bx := ⟨_, rfl⟩
        have hb4 : Below wr.heap.size wr W4 := by rw [← hW4]; exact (Below.refl _ _).alloc (Nat.le_refl _) _
        have hn4 : W4.heap[bx]? = some (.cells #[.string nm, .int .i64 gz] 72 (0, 0)) := by rw [← hW4, ← hbx]; exact heap_alloc_new wr _
        have u0 : W4.cell? ⟨bx, 0, none⟩ = some (.string nm) := by rw [cell_of_row _ _ 0 _ _ (0, 0) hn4]; rfl
        have hR4 := hR.grow hb4
        have hfr := hR.fresh
        rw [hbx] at hfr
        obtain ⟨n0, n1, n2, nf⟩ := hR4.cells
        obtain ⟨A', c', w7, hrun, hc7, hR7⟩ := hR4.symPush (by omega) nm (65536 + 4 * words)
        have hn7 : w7.heap[bx]? = _ := (hc7.same bx (Array.getElem?_eq_some_iff.1 hn4).1 hfr.2.2.2.2).trans hn4
        have hmA : m ∉ blk SA := fun hk => (hR4.bs _ hk).2.2.1 rfl
        have q1 : w7.cell? ⟨m, 1, none⟩ = some (.slice SA ss.length sc) := Chg.readR hc7 m 1 hmA n1
        have g1 : w7.frozen? ⟨m, 1, none⟩ = false := by
          rw [World.frozen?_of_block (w := W4) (a := ⟨m, 1, none⟩) (hc7.same m hR4.mlt hmA)]
          exact nf 1
        obtain ⟨W8, hW8⟩ : ∃ W8, w7.setCell ⟨m, 1, none⟩ (.slice A' (ss.length + 1) c') = W8 := ⟨_, rfl⟩
        rw [hW8] at hR7
        have hn8 : W8.heap[bx]? = some (.cells #[.string nm, .int .i64 gz] 72 (0, 0)) := by rw [← hW8]; exact (setCell_off _ _ _ _ _ hfr.2.2.1).trans hn7
        have u8 : W8.cell? ⟨bx, 1, none⟩ = some (.int .i64 gz) := by rw [cell_of_row _ _ 1 _ _ (0, 0) hn8]; rfl
        obtain ⟨p0, p1, p2, pf⟩ := hR7.cells
        obtain ⟨mz, hmz⟩ : ∃ mz, (if 1 < gz then gz else 1) = mz := ⟨_, rfl⟩
        have hmx : max 1 gz = mz := by rw [← hmz]; split <;> omega
        have mz1 : 1 ≤ mz := by omega
        have mz2 : mz ≤ 4096 := by omega
        have HR9 := Lib.hid (hR7.words' (words + mz))
        have a1 : wrap32 words = words := IntWalk.wrap32_in _ (by omega)
        have a2 : wrap32 (4 * words) = 4 * words := IntWalk.wrap32_in _ (by omega)
        have a3 : wrap32 (65536 + 4 * words) = 65536 + 4 * words := IntWalk.wrap32_in _ (by omega)
        have hwb : words ≤ 300000 := by omega
        have HRUN := Lib.hid hrun
        have HREL : Hid ((gs.take (k + 1)).foldl stepGR ([], 0) = (ss ++ [⟨nm, 65536 + 4 * words⟩], words + mz) ∧ ss.length = k ∧ words ≤ 4096 * (k : Int) ∧ (∀ t ∈ ss, SyOk t) ∧ nm.size ≤ 1000000) := Lib.hid ⟨by rw [hnx, ← hmx]; rfl, hsl, hw1, hps, hnm⟩
        clear hc hg hl hcell hb4 hn4 HI hR hR4 hR7 hc7 hn7 hn8 hmA hfr hrun hnx hps hs hsl hnm hsz hw1 hmx
        go_wp2_with (at_builtin; refine Lib.wpList_append_run _ rfl _ _ _ _ rfl _ _ rfl rfl _ _ HRUN.out ?_)
        go_roundw
        case rel => exact ⟨k + 1, by omega, by go_num, Lib.hid ⟨A', c', (ss ++ [⟨nm, 65536 + 4 * words⟩], words + mz), HREL.out.1.symm, by have := HREL.out.2.1; simp; omega, by dsimp only; omega, by have := HREL.out.2.2.1; dsimp only; omega, fun t ht => by
          rcases List.mem_append.1 ht with q | q
          · exact HREL.out.2.2.2.1 t q
          · rw [List.mem_singleton] at q
            subst q
            exact ⟨by dsimp only; omega, by dsimp only; omega, HREL.out.2.2.2.2⟩, HR9.out⟩⟩
        case measure => simp [intOf] <;> omega
      · obtain rfl : gn = k := by omega
        obtain ⟨SA, sc, s, hs, hsl, hw0, hw1, hps, hR⟩ := HI.out
        obtain ⟨ss0, words⟩ := s
        dsimp only at hsl hw0 hw1 hps hR
        have HS1 : Hid (gs.foldl stepGR ([], 0) = (ss0, words) ∧ ss0.length ≤ 64 ∧ ∀ t ∈ ss0, SyOk t) := Lib.hid ⟨by rw [hs, List.take_of_length_le (by rw [HN.out.2]; exact Nat.le_refl _)], by omega, hps⟩
        obtain ⟨b0, hb0⟩ : ∃ b0, decide (16384 < words) = b0 := ⟨_, rfl⟩
        obtain ⟨wd, hwd⟩ : ∃ wd, words + (st + 3) / 4 = wd := ⟨_, rfl⟩
        have td : Int.tdiv (st + 3) 4 = (st + 3) / 4 := Int.tdiv_eq_ediv_of_nonneg (by omega)
        have hq0 : 0 ≤ (st + 3) / 4 := by omega
        have hq1 : (st + 3) / 4 ≤ 16777216 := by omega
        have hwb : words ≤ 300000 := by omega
        obtain ⟨n0, n1, n2, nf⟩ := hR.cells
        obtain ⟨x0, x1, x2⟩ := HX.out wr hR.below
        obtain ⟨W5, hW5⟩ : ∃ W5, wr.setCell ⟨m, 2, none⟩ (.int .i64 wd) = W5 := ⟨_, rfl⟩
        have hR5 := hR.words' wd
        rw [hW5] at hR5
        obtain ⟨y0, y1, y2⟩ := HX.out W5 hR5.below
        have HR5 := Lib.hid hR5
        have HBW := Lib.hid (And.intro hb0 hwd)
        clear HI hs hsl hw1 hps hR hR5
        go_upto_region 13 with fail
        clear n0 n1 n2 nf x0 x1 x2 y0 y1 y2 hW5 td hq0 hq1 hb0 hwd
        go_loopw [63] (fun i wr => ∃ k : Nat, k ≤ ln ∧ i = .int .i64 k ∧ Hid (∃ LA2 lc2 SA sc s, s = (ls.take k).foldl stepLR ([], ss0) ∧ s.1.length ≤ k ∧ s.2.length ≤ 64 + k ∧ (∀ t ∈ s.2, SyOk t) ∧ (∀ l ∈ s.1, LnOk l) ∧ RAt W1 r m wr LA2 lc2 s.1 SA sc s.2 wd)) (fun i _ => ln - (intOf i).toNat)
        case atStart => exact ⟨0, by omega, rfl, Lib.hid ⟨none, 0, SA, sc, ([], ss0), rfl, by simp, by have := HS1.out.2.1; dsimp only; omega, HS1.out.2.2, fun l hl => (by cases hl), HR5.out⟩⟩
        case round =>
          clear HR5
          obtain ⟨k, hk, rfl, HI⟩ := hrel
          rcases Nat.lt_or_ge k ln with hlt | hge
          · have hlt' : (k : Int) < (ln : Int) := by omega
            have hk0 : (0 : Int) ≤ (k : Int) := by omega
            obtain ⟨l, hl⟩ : ∃ l, ls[k]? = some l := ⟨_, List.getElem?_eq_getElem (by have := HN.out; omega)⟩
            obtain ⟨g, off, rfl, hg, hc⟩ := HL.out.2 (by omega)
            obtain ⟨LA2, lc2, SA, sc, s, hs, hl1, hl2, hps, hlo, hR⟩ := HI.out
            obtain ⟨la2, ss⟩ := s
            dsimp only at hl1 hl2 hps hlo hR
            have hcell := fun j u hj => (hR.below.cell (p := ⟨g, off + k * 7 + j, none⟩) hg).trans (hc k _ hl j u hj)
            have hok := HLS.out l (List.mem_of_getElem? hl)
            have hnx : (ls.take (k + 1)).foldl stepLR ([], ss0) = stepLR (la2, ss) l := by rw [foldl_take _ _ hl, ← hs]
            obtain ⟨lk, lo, ld, la, lb, lnn, lsym⟩ := l
            have d0 := hcell 0 _ rfl
            have d1 := hcell 1 _ rfl
            have d2 := hcell 2 _ rfl
            have d3 := hcell 3 _ rfl
            have d4 := hcell 4 _ rfl
            have d5 := hcell 5 _ rfl
            have d6 := hcell 6 _ rfl
            rw [Nat.add_zero] at d0
            obtain ⟨W4, hW4⟩ : ∃ W4, wr.alloc (.cells #[.int .i64 lk, .int .i64 lo, .int .i64 ld, .int .i64 la, .int .i64 lb, .int .i32 lnn, .string lsym] 39) = W4 := ⟨_, rfl⟩
            obtain ⟨bx, hbx⟩ : ∃ bx, wr.heap.size = bx := ⟨_, rfl⟩
            have hb4 : Below wr.heap.size wr W4 := by rw [← hW4]; exact (Below.refl _ _).alloc (Nat.le_refl _) _
            have hn4 : W4.heap[bx]? = some (.cells #[.int .i64 lk, .int .i64 lo, .int .i64 ld, .int .i64 la, .int .i64 lb, .int .i32 lnn, .string lsym] 39 (0, 0)) := by rw [← hW4, ← hbx]; exact heap_alloc_new wr _
            obtain ⟨u0, u1, u2, u3, u4, u5, u6, uf⟩ := box7 hn4
            have hR4 := hR.grow hb4
            obtain ⟨n0, n1, n2, nf⟩ := hR4.cells
            have lb0 : (0 : Int) ≤ (la2.length : Int) := by omega
            have lb1 : (la2.length : Int) ≤ 1000 := by omega
            have HW := Lib.hid (And.intro hl1 (And.intro hl2 (And.intro hps (And.intro hlo hok))))
            have HNX := Lib.hid hnx
            by_cases hk1 : lk = 1
            · have b1 : (lk == 1) = true := by simp [hk1]
              obtain ⟨q, hq⟩ : ∃ q, la2.length = q := ⟨_, rfl⟩
              rw [hq] at lb0 lb1 n0
              have HQL := Lib.hid hq
              have hss : ss.length ≤ 10000 := by omega
              clear hq
              obtain ⟨Q, hQ⟩ : ∃ Q : Int, (q : Int) = Q := ⟨_, rfl⟩
              have HQQ := Lib.hid hQ
              have lq0 : 0 ≤ Q := by rw [← hQ]; exact lb0
              have lq1 : Q ≤ 1000 := by rw [← hQ]; exact lb1
              clear lb0 lb1
              obtain ⟨A', c', w7, hrun, hc7, hR7⟩ := hR4.symPush hss lsym (4 * Q)
              have hmA : m ∉ blk SA := fun hk => (hR4.bs _ hk).2.2.1 rfl
              have q1 : w7.cell? ⟨m, 1, none⟩ = some (.slice SA ss.length sc) := Chg.readR hc7 m 1 hmA n1
              have g1 : w7.frozen? ⟨m, 1, none⟩ = false := by
                rw [World.frozen?_of_block (w := W4) (a := ⟨m, 1, none⟩) (hc7.same m hR4.mlt hmA)]
                exact nf 1
              obtain ⟨a1, a2⟩ := wrap_small _ lq0 lq1
              have HR7 := Lib.hid hR7
              have HRUN := Lib.hid hrun
              have HK1 := Lib.hid hk1
              clear hc hg hl hcell hb4 hn4 HI hR hR4 hR7 hc7 hmA hrun hnx hps hs hl1 hl2 hlo hok hk1
              go_wp2_with (at_builtin; refine Lib.wpList_append_run _ rfl _ _ _ _ rfl _ _ rfl rfl _ _ HRUN.out ?_)
              go_roundw
              case rel => exact ⟨k + 1, by omega, by go_num, Lib.hid ⟨LA2, lc2, A', c', (la2, ss ++ [⟨lsym, 4 * Q⟩]), by rw [HNX.out]; unfold stepLR; rw [if_pos HK1.out]; dsimp only; rw [HQL.out, HQQ.out], by have := HW.out.1; dsimp only; omega, by have := HW.out.2.1; simp; omega, fun t ht => by
                rcases List.mem_append.1 ht with q | q
                · exact HW.out.2.2.1 t q
                · rw [List.mem_singleton] at q
                  subst q
                  exact ⟨by dsimp only; omega, by dsimp only; omega, HW.out.2.2.2.2.1⟩, HW.out.2.2.2.1, HR7.out⟩⟩
              case measure => simp [intOf] <;> omega
            · have b1 : (lk == 1) = false := by simp [hk1]
              obtain ⟨A', c', w7, hrun, hc7, hR7⟩ := hR4.linePush (by omega) lk lo ld la lb lnn lsym
              have hmA : m ∉ blk LA2 := fun hk => (hR4.bl _ hk).2.2 rfl
              have q1 : w7.cell? ⟨m, 0, none⟩ = some (.slice LA2 la2.length lc2) := Chg.readR hc7 m 0 hmA n0
              have g1 : w7.frozen? ⟨m, 0, none⟩ = false := by
                rw [World.frozen?_of_block (w := W4) (a := ⟨m, 0, none⟩) (hc7.same m hR4.mlt hmA)]
                exact nf 0
              have HR7 := Lib.hid hR7
              have HRUN := Lib.hid hrun
              have HK1 := Lib.hid hk1
              clear hc hg hl hcell hb4 hn4 HI hR hR4 hR7 hc7 hmA hrun hnx hps hs hl1 hl2 hlo hok hk1
              go_wp2_with (at_builtin; refine Lib.wpList_append_run _ rfl _ _ _ _ rfl _ _ rfl rfl _ _ HRUN.out ?_)
              go_roundw
              case rel => exact ⟨k + 1, by omega, by go_num, Lib.hid ⟨A', c', SA, sc, (la2 ++ [⟨lk, lo, ld, la, lb, lnn, lsym⟩], ss), by rw [HNX.out]; unfold stepLR; rw [if_neg HK1.out], by have := HW.out.1; simp; omega, by have := HW.out.2.1; dsimp only; omega, HW.out.2.2.1, fun t ht => by
                rcases List.mem_append.1 ht with q | q
                · exact HW.out.2.2.2.1 t q
                · rw [List.mem_singleton] at q
                  subst q
                  exact HW.out.2.2.2.2, HR7.out⟩⟩
              case measure => simp [intOf] <;> omega
          · obtain rfl : ln = k := by omega
            obtain ⟨LA2, lc2, SA, sc, s, hs, hl1, hl2, hps, hlo, hR⟩ := HI.out
            obtain ⟨ls2, ss⟩ := s
            dsimp only at hl1 hl2 hps hlo hR
            have HS2 : Hid (ls.foldl stepLR ([], ss0) = (ls2, ss)) := Lib.hid (by rw [hs, List.take_of_length_le (by rw [HN.out.1]; exact Nat.le_refl _)])
            have HW := Lib.hid (And.intro hl1 (And.intro hl2 (And.intro hps hlo)))
            obtain ⟨sn, hsn⟩ : ∃ sn, ss.length = sn := ⟨_, rfl⟩
            obtain ⟨l2, hl2'⟩ : ∃ l2, ls2.length = l2 := ⟨_, rfl⟩
            have HLEN := Lib.hid (And.intro hsn hl2')
            have hsn2 : (sn : Int) ≤ 2000 := by omega
            have hl22 : (l2 : Int) ≤ 1000 := by omega
            have hRcells := fun (V : World) (h : RAt W1 r m V LA2 lc2 ls2 SA sc ss wd) => h.cells
            rw [hsn, hl2'] at hRcells
            have HCE := Lib.hid hRcells
            obtain ⟨n0, n1, n2, nf⟩ := hRcells _ hR
            have HR6 := Lib.hid hR
            have HSY := Lib.hid (SLine.sysAt hR.sym)
            have HSAT := Lib.hid (fun (V : World) (h : RAt W1 r m V LA2 lc2 ls2 SA sc ss wd) => SLine.sysAt h.sym)
            rw [hsn] at HSY HSAT
            clear HI hs hl1 hl2 hps hlo hR hsn hl2' hRcells
            go_upto_region 20 with fail
            clear n0 n1 n2 nf
            go_loopw [93] (fun i wr => ∃ k : Nat, k ≤ sn ∧ i = .int .i64 k ∧ Hid (RAt W1 r m wr LA2 lc2 ls2 SA sc ss wd ∧ ∀ j t, j < k → ss[j]? = some t → posI ss t.name = (j : Int))) (fun i _ => sn - (intOf i).toNat)
            case atStart => exact ⟨0, by omega, rfl, Lib.hid ⟨HR6.out, fun j t hj => by omega⟩⟩
            case round =>
              clear HR6
              obtain ⟨k, hk, rfl, HI⟩ := hrel
              rcases Nat.lt_or_ge k sn with hlt | hge
              · have hlt' : (k : Int) < (sn : Int) := by omega
                have hk0 : (0 : Int) ≤ (k : Int) := by omega
                obtain ⟨l, hl⟩ : ∃ l, ss[k]? = some l := ⟨_, List.getElem?_eq_getElem (by have := HLEN.out.1; omega)⟩
                obtain ⟨hR, hall⟩ := HI.out
                obtain ⟨g, off, rfl, hg, hc⟩ := (HSAT.out _ hR).2 (by omega)
                have hcell := fun j u hj => hc k _ hl j u hj
                have hok := HW.out.2.2.1 l (List.mem_of_getElem? hl)
                obtain ⟨nm, z⟩ := l
                have d0 := hcell 0 _ rfl
                have d1 := hcell 1 _ rfl
                rw [Nat.add_zero] at d0
                obtain ⟨W4, hW4⟩ : ∃ W4, wr.alloc (.cells #[.string nm, .int .i32 z] 43) = W4 := ⟨_, rfl⟩
                obtain ⟨bx, hbx⟩ : ∃ bx, wr.heap.size = bx := ⟨_, rfl⟩
                have hb4 : Below wr.heap.size wr W4 := by rw [← hW4]; exact (Below.refl _ _).alloc (Nat.le_refl _) _
                have hn4 : W4.heap[bx]? = some (.cells #[.string nm, .int .i32 z] 43 (0, 0)) := by rw [← hW4, ← hbx]; exact heap_alloc_new wr _
                have u0 : W4.cell? ⟨bx, 0, none⟩ = some (.string nm) := by rw [cell_of_row _ _ 0 _ _ (0, 0) hn4]; rfl
                have hR4 := hR.grow hb4
                obtain ⟨n0, n1, n2, nf⟩ := HCE.out _ hR4
                have HR4 := Lib.hid hR4
                have HAT := Lib.hid (refAt_any W4 (some ⟨g, off, none⟩) sn sc ss (HSAT.out _ hR4) (by omega) nm (by have := hok.2.2; dsimp only at this; omega))
                obtain ⟨ps, hps⟩ : ∃ ps, posI ss nm = ps := ⟨_, rfl⟩
                rw [hps] at HAT
                have HLL := Lib.hid hl
                have HALL := Lib.hid hall
                have HPS := Lib.hid hps
                clear hc hg hl hcell hb4 hn4 HI hR hR4 hall hok hps
                by_cases hpk : ps = (k : Int)
                · have e1 : (ps == (k : Int)) = true := by simp [hpk]
                  have HPK := Lib.hid hpk
                  clear hpk
                  go_wp2_with (go_at_call 14; (with_reducible refine HAT.out.mono ?_); rintro e w5 ⟨rfl, hb5⟩; have HR5 := Lib.hid (HR4.out.grow hb5); clear hb5 u0 n0 n1 n2 nf)
                  go_roundw
                  case rel => exact ⟨k + 1, by omega, by go_num, Lib.hid ⟨HR5.out, fun j t hj hjt => by
                    rcases Nat.lt_or_ge j k with q | q
                    · exact HALL.out j t q hjt
                    · obtain rfl : j = k := by omega
                      rw [HLL.out] at hjt
                      cases hjt
                      exact HPS.out.trans HPK.out⟩⟩
                  case measure => simp [intOf] <;> omega
                · have e1 : (ps == (k : Int)) = false := by simp [hpk]
                  have HTW : Hid (twiceB ss = false) := Lib.hid (twice_no HLL.out (by dsimp only; rw [HPS.out]; exact hpk))
                  clear hpk
                  go_wp2_with (go_at_call 14; (with_reducible refine HAT.out.mono ?_); rintro e w5 ⟨rfl, hb5⟩; have hR5 := HR4.out.grow hb5; obtain ⟨z0, z1, z2, zf⟩ := hR5.rcells; have HR5 := Lib.hid hR5; clear hb5 hR5 u0 n0 n1 n2 nf)
                  rw [HR5.out.idr.1, HR5.out.idr.2.1, HR5.out.idr.2.2]
                  try simp only [Exit.inBlock, Exit.then]
                  refine bodyPost_ret (results_load _ _ r _ _ rfl rfl HR5.out.rz rfl) rfl ?_
                  show ROut w (loadR true gs st ls) _ _
                  have hz : loadR true gs st ls = .err 20 := by
                    unfold loadR
                    rw [if_pos rfl]
                    dsimp only
                    rw [HS1.out.1]
                    dsimp only
                    rw [HS2.out]
                    dsimp only
                    rw [HTW.out]
                    rfl
                  rw [hz]
                  exact ⟨rfl, HB1.out.trans (HR5.out.below.mono HB1.out.size)⟩
              · obtain rfl : sn = k := by omega
                obtain ⟨hR, hall⟩ := HI.out
                have HTW : Hid (twiceB ss = true) := Lib.hid (twice_yes fun j t hj => hall j t (by have := HLEN.out.1; have := (List.getElem?_eq_some_iff.1 hj).1; omega) hj)
                obtain ⟨n0, n1, n2, nf⟩ := HCE.out _ hR
                have HR7 := Lib.hid hR
                clear HI hR hall HCE HSAT HSY
                go_upto_region 26 with fail
                clear n0 n1 n2 nf
                go_loopw [7, 110] (fun bv i wr => ∃ k : Nat, k ≤ l2 ∧ i = .int .i64 k ∧ ∃ bb, bv = .bool bb ∧ Hid (∃ acc, acc.length = k ∧ resR ss [] ls2 b0 = resR ss acc (ls2.drop k) bb ∧ RAt W1 r m wr LA2 lc2 (acc ++ ls2.drop k) SA sc ss wd)) (fun _ i _ => l2 - (intOf i).toNat)
                case atStart => exact ⟨0, by omega, rfl, b0, rfl, Lib.hid ⟨[], rfl, rfl, HR7.out⟩⟩
                case round =>
                  clear HR7
                  obtain ⟨k, hk, rfl, bb, rfl, HI⟩ := hrel
                  rcases Nat.lt_or_ge k l2 with hlt | hge
                  · have hlt' : (k : Int) < (l2 : Int) := by omega
                    have hk0 : (0 : Int) ≤ (k : Int) := by omega
                    obtain ⟨acc, hacc, hres, hR⟩ := HI.out
                    obtain ⟨l, hl⟩ : ∃ l, ls2[k]? = some l := ⟨_, List.getElem?_eq_getElem (by have := HLEN.out.2; omega)⟩
                    have hok := HW.out.2.2.2 l (List.mem_of_getElem? hl)
                    have hdrop : ls2.drop k = l :: ls2.drop (k + 1) := by
                      rw [List.drop_eq_getElem_cons (by have := HLEN.out.2; omega)]
                      congr 1
                      exact Option.some.inj ((List.getElem?_eq_getElem (by have := HLEN.out.2; omega)).symm.trans hl)
                    rw [hdrop] at hres hR
                    have hLl : (acc ++ l :: ls2.drop (k + 1)).length = l2 := by have := HLEN.out.2; simp; omega
                    have hLk : (acc ++ l :: ls2.drop (k + 1))[k]? = some l := by rw [List.getElem?_append_right (by omega), hacc, Nat.sub_self]; rfl
                    have hCE := hR.cells
                    have hln0 := SLine.lnsAt hR.line
                    rw [hLl, HLEN.out.1] at hCE
                    rw [hLl] at hln0
                    obtain ⟨g, off, rfl, hg, hc⟩ := hln0.2 (by omega)
                    have hcell := fun j u hj => hc k _ hLk j u hj
                    obtain ⟨lk, lo, ld, la, lb, lnn, lsym⟩ := l
                    have d0 := hcell 0 _ rfl
                    have d1 := hcell 1 _ rfl
                    have d2 := hcell 2 _ rfl
                    have d3 := hcell 3 _ rfl
                    have d4 := hcell 4 _ rfl
                    have d5 := hcell 5 _ rfl
                    have d6 := hcell 6 _ rfl
                    rw [Nat.add_zero] at d0
                    obtain ⟨W4, hW4⟩ : ∃ W4, wr.alloc (.cells #[.int .i64 lk, .int .i64 lo, .int .i64 ld, .int .i64 la, .int .i64 lb, .int .i32 lnn, .string lsym] 39) = W4 := ⟨_, rfl⟩
                    obtain ⟨bx, hbx⟩ : ∃ bx, wr.heap.size = bx := ⟨_, rfl⟩
                    have hb4 : Below wr.heap.size wr W4 := by rw [← hW4]; exact (Below.refl _ _).alloc (Nat.le_refl _) _
                    have hn4 : W4.heap[bx]? = some (.cells #[.int .i64 lk, .int .i64 lo, .int .i64 ld, .int .i64 la, .int .i64 lb, .int .i32 lnn, .string lsym] 39 (0, 0)) := by rw [← hW4, ← hbx]; exact heap_alloc_new wr _
                    obtain ⟨u0, u1, u2, u3, u4, u5, u6, uf⟩ := box7 hn4
                    have hfr := hR.fresh
                    rw [hbx] at hfr
                    have hR4 := hR.grow hb4
                    have hCE4 := hR4.cells
                    rw [hLl, HLEN.out.1] at hCE4
                    obtain ⟨n0, n1, n2, nf⟩ := hCE4
                    have HR4 := Lib.hid hR4
                    have HN4 := Lib.hid hn4
                    have HFR := Lib.hid hfr
                    have HACC := Lib.hid (And.intro hacc hLl)
                    have HRES := Lib.hid hres
                    have HNMS : Hid (lsym.size ≤ 1000000) := Lib.hid hok.1
                    clear HI hacc hres hR hl hdrop hLl hLk hCE hln0 hg hc hcell hb4 hn4 hfr hR4 hok
                    cases hne : noS lsym with
                    | true =>
                      have e1 : lsym.toList.isEmpty = true := by rw [ba_toList]; exact hne
                      have e2 : lsym.toList = [] := by rw [ba_toList]; simpa [noS] using hne
                      have HNE := Lib.hid hne
                      clear hne
                      go_wp2_with fail
                      go_roundw
                      case rel => exact ⟨k + 1, by omega, by go_num, bb, rfl, Lib.hid ⟨acc ++ [⟨lk, lo, ld, la, lb, lnn, lsym⟩], by have := HACC.out.1; simp; omega, by rw [HRES.out]; exact resR_no HNE.out, by rw [List.append_assoc]; exact HR4.out⟩⟩
                      case measure => simp [intOf] <;> omega
                    | false =>
                      have e1 : lsym.toList.isEmpty = false := by rw [ba_toList]; exact hne
                      have e2 : ¬ lsym.toList = [] := by rw [ba_toList]; simpa [noS] using hne
                      have HNE := Lib.hid hne
                      have HAT := Lib.hid (refAt_any W4 SA sn sc ss (by have := SLine.sysAt HR4.out.sym; rw [HLEN.out.1] at this; exact this) (by omega) lsym (by have := HNMS.out; omega))
                      clear hne
                      cases hpo : posO ss lsym with
                      | none =>
                        have hpi : posI ss lsym = -1 := by unfold posI; rw [hpo]
                        rw [hpi] at HAT
                        have HRN : Hid (resR ss [] ls2 b0 = none) := Lib.hid (by rw [HRES.out]; exact resR_none hpo HNE.out)
                        clear hpo hpi
                        go_wp2_with (go_at_call 14; (with_reducible refine HAT.out.mono ?_); rintro e w5 ⟨rfl, hb5⟩; have hR5 := HR4.out.grow hb5; obtain ⟨z0, z1, z2, zf⟩ := hR5.rcells; have HR5 := Lib.hid hR5; clear hb5 hR5 u0 u1 u2 u3 u4 u5 u6 uf n0 n1 n2 nf)
                        rw [HR5.out.idr.1, HR5.out.idr.2.1, HR5.out.idr.2.2]
                        try simp only [Exit.inBlock, Exit.then]
                        refine bodyPost_ret (results_load _ _ r _ _ rfl rfl HR5.out.rz rfl) rfl ?_
                        show ROut w (loadR true gs st ls) _ _
                        have hz : loadR true gs st ls = .err 21 := by
                          unfold loadR
                          rw [if_pos rfl]
                          dsimp only
                          rw [HS1.out.1]
                          dsimp only
                          rw [HS2.out]
                          dsimp only
                          rw [HTW.out, if_pos rfl, HBW.out.1, HRN.out]
                        rw [hz]
                        exact ⟨rfl, HB1.out.trans (HR5.out.below.mono HB1.out.size)⟩
                      | some j =>
                        obtain ⟨t, hjt, hsy⟩ := posO_at hpo
                        have hpi : posI ss lsym = (j : Int) := by unfold posI; rw [hpo]
                        rw [hpi] at HAT
                        have hjl := (List.getElem?_eq_some_iff.1 hjt).1
                        obtain ⟨gS, offS, rfl, hgS, hcS⟩ := (SLine.sysAt HR4.out.sym).2 (by omega)
                        have hok := HW.out.2.2.1 t (List.mem_of_getElem? hjt)
                        have q1 := hcS j t hjt 1 _ rfl
                        obtain ⟨nm, z⟩ := t
                        dsimp only at hsy q1
                        obtain ⟨zz0, zz1, -⟩ := hok
                        dsimp only at zz0 zz1
                        have hj0 : (0 : Int) ≤ (j : Int) := by omega
                        have hjn : (j : Int) < (sn : Int) := by have := HLEN.out.1; omega
                        have HGS2 := Lib.hid (And.intro hgS q1)
                        have HPO := Lib.hid hpo
                        have HSYM := Lib.hid hsy
                        have HSP := Lib.hid (fun w => refSplit_any z zz0 zz1 w)
                        have hib : -2147483648 ≤ splitHi z ∧ splitHi z ≤ 2147483647 := by have := split_hi (z - splitLo z); unfold splitHi; omega
                        have HLK : Hid ((acc ++ ⟨lk, lo, ld, la, lb, lnn, lsym⟩ :: ls2.drop (k + 1))[k]? = some ⟨lk, lo, ld, la, lb, lnn, lsym⟩) := Lib.hid (by rw [List.getElem?_append_right (by have := HACC.out.1; omega), HACC.out.1, Nat.sub_self]; rfl)
                        obtain ⟨hi, hhi⟩ : ∃ hi, splitHi z = hi := ⟨_, rfl⟩
                        obtain ⟨lw, hlw⟩ : ∃ lw, splitLo z = lw := ⟨_, rfl⟩
                        rw [hhi, hlw] at HSP
                        have HSV := Lib.hid (And.intro hhi hlw)
                        clear hpo hjt hsy hpi hjl hgS hcS q1 hib hhi hlw
                        go_upto_region 33 with (first | (go_at_call 14; (with_reducible refine HAT.out.mono ?_); rintro e w5 ⟨rfl, hb5⟩; have hn5 := (hb5.block bx (Array.getElem?_eq_some_iff.1 HN4.out).1).trans HN4.out; have hR5 := HR4.out.grow hb5; have hCE5 := hR5.cells; rw [HACC.out.2, HLEN.out.1] at hCE5; obtain ⟨m0, m1, m2, mf⟩ := hCE5; obtain ⟨v0, v1, v2, v3, v4, v5, v6, vf⟩ := box7 hn5; have q5 := (hb5.cell (p := ⟨gS, offS + j * 2 + 1, none⟩) HGS2.out.1).trans HGS2.out.2; have HN5 := Lib.hid hn5; have HR5 := Lib.hid hR5; clear hb5 hn5 hR5 u0 u1 u2 u3 u4 u5 u6 uf n0 n1 n2 nf) | (go_at_call 31; (with_reducible refine (HSP.out _).mono ?_); rintro e w6 ⟨rfl, rfl⟩))
                        by_cases h1 : lo = 1
                        · have b1 : (lo == 1) = true := by simp [h1]
                          obtain ⟨nv, rfl⟩ : ∃ nv, nv = hi := ⟨_, rfl⟩
                          have HFX : Hid (fixR ss acc.length ⟨lk, lo, ld, la, lb, lnn, lsym⟩ = ⟨lk, lo, ld, la, lb, nv, ⟨#[]⟩⟩) := Lib.hid (by unfold fixR; rw [if_neg (by rw [HNE.out]; simp)]; dsimp only; rw [if_pos h1, HSYM.out, HSV.out.1])
                          have HBG : Hid ((bb || bigR ss acc.length ⟨lk, lo, ld, la, lb, lnn, lsym⟩) = bb) := Lib.hid (by unfold bigR; dsimp only; rw [b1]; simp)
                          clear h1
                          obtain ⟨W6, hW6⟩ : ∃ W6, w5.setCell ⟨bx, 5, none⟩ (.int .i32 nv) = W6 := ⟨_, rfl⟩
                          obtain ⟨W7, hW7⟩ : ∃ W7, W6.setCell ⟨bx, 6, none⟩ (.string ⟨#[]⟩) = W7 := ⟨_, rfl⟩
                          have hn6 : W6.heap[bx]? = some (.cells #[.int .i64 lk, .int .i64 lo, .int .i64 ld, .int .i64 la, .int .i64 lb, .int .i32 nv, .string lsym] 39 (0, 0)) := by rw [← hW6, heap_setCell_same w5 bx 5 _ _ _ HN5.out]; rfl
                          have hn7 : W7.heap[bx]? = some (.cells #[.int .i64 lk, .int .i64 lo, .int .i64 ld, .int .i64 la, .int .i64 lb, .int .i32 nv, .string ⟨#[]⟩] 39 (0, 0)) := by rw [← hW7, heap_setCell_same W6 bx 6 _ _ _ hn6]; rfl
                          have hc7 : Chg [bx] w5 W7 := by rw [← hW7, ← hW6]; exact ((Chg.refl [bx] w5).setCell bx 5 _ (.inl (by simp))).setCell bx 6 _ (.inl (by simp))
                          have hR7 := HR5.out.far hc7 HFR.out.1 HFR.out.2.1 HFR.out.2.2.1 HFR.out.2.2.2.1 HFR.out.2.2.2.2
                          have hCE7 := hR7.cells
                          rw [HACC.out.2, HLEN.out.1] at hCE7
                          obtain ⟨r0, r1, r2, rf⟩ := hCE7
                          obtain ⟨p0, p1, p2, p3, p4, p5, p6, pf⟩ := box7 hn6
                          obtain ⟨t0, t1, t2, t3, t4, t5, t6, tf⟩ := box7 hn7
                          obtain ⟨lc7, lf7⟩ := hR7.lineCells k _ HLK.out
                          have l0 := lc7 0 _ rfl
                          have l1 := lc7 1 _ rfl
                          have l2 := lc7 2 _ rfl
                          have l3 := lc7 3 _ rfl
                          have l4 := lc7 4 _ rfl
                          have l5 := lc7 5 _ rfl
                          have l6 := lc7 6 _ rfl
                          have f0 := lf7 0 (by omega)
                          have f1 := lf7 1 (by omega)
                          have f2 := lf7 2 (by omega)
                          have f3 := lf7 3 (by omega)
                          have f4 := lf7 4 (by omega)
                          have f5 := lf7 5 (by omega)
                          have f6 := lf7 6 (by omega)
                          rw [Nat.add_zero] at l0 f0
                          have HR8 := Lib.hid (hR7.linePut k (by rw [HACC.out.2]; omega) ⟨lk, lo, ld, la, lb, nv, ⟨#[]⟩⟩)
                          rw [set_mid acc _ _ _ k HACC.out.1, setCells7] at HR8
                          clear hn6 hn7 hc7 hR7 lc7 lf7
                          go_wp2_with fail
                          go_roundw
                          case rel => exact ⟨k + 1, by omega, by go_num, bb, rfl, Lib.hid ⟨acc ++ [⟨lk, lo, ld, la, lb, nv, ⟨#[]⟩⟩], by have := HACC.out.1; simp; omega, by rw [HRES.out, resR_some HPO.out, HFX.out, HBG.out], HR8.out⟩⟩
                          case measure => simp [intOf] <;> omega
                        · have b1 : (lo == 1) = false := by simp [h1]
                          by_cases h2 : lo = 2
                          · have b2 : (lo == 2) = true := by simp [h2]
                            obtain ⟨nv, rfl⟩ : ∃ nv, nv = lw := ⟨_, rfl⟩
                            have HFX : Hid (fixR ss acc.length ⟨lk, lo, ld, la, lb, lnn, lsym⟩ = ⟨lk, lo, ld, la, lb, nv, ⟨#[]⟩⟩) := Lib.hid (by unfold fixR; rw [if_neg (by rw [HNE.out]; simp)]; dsimp only; rw [if_neg h1, if_pos h2, HSYM.out, HSV.out.2])
                            have HBG : Hid ((bb || bigR ss acc.length ⟨lk, lo, ld, la, lb, lnn, lsym⟩) = bb) := Lib.hid (by unfold bigR; dsimp only; rw [b1, b2]; simp)
                            clear h1 h2
                            obtain ⟨W6, hW6⟩ : ∃ W6, w5.setCell ⟨bx, 5, none⟩ (.int .i32 nv) = W6 := ⟨_, rfl⟩
                            obtain ⟨W7, hW7⟩ : ∃ W7, W6.setCell ⟨bx, 6, none⟩ (.string ⟨#[]⟩) = W7 := ⟨_, rfl⟩
                            have hn6 : W6.heap[bx]? = some (.cells #[.int .i64 lk, .int .i64 lo, .int .i64 ld, .int .i64 la, .int .i64 lb, .int .i32 nv, .string lsym] 39 (0, 0)) := by rw [← hW6, heap_setCell_same w5 bx 5 _ _ _ HN5.out]; rfl
                            have hn7 : W7.heap[bx]? = some (.cells #[.int .i64 lk, .int .i64 lo, .int .i64 ld, .int .i64 la, .int .i64 lb, .int .i32 nv, .string ⟨#[]⟩] 39 (0, 0)) := by rw [← hW7, heap_setCell_same W6 bx 6 _ _ _ hn6]; rfl
                            have hc7 : Chg [bx] w5 W7 := by rw [← hW7, ← hW6]; exact ((Chg.refl [bx] w5).setCell bx 5 _ (.inl (by simp))).setCell bx 6 _ (.inl (by simp))
                            have hR7 := HR5.out.far hc7 HFR.out.1 HFR.out.2.1 HFR.out.2.2.1 HFR.out.2.2.2.1 HFR.out.2.2.2.2
                            have hCE7 := hR7.cells
                            rw [HACC.out.2, HLEN.out.1] at hCE7
                            obtain ⟨r0, r1, r2, rf⟩ := hCE7
                            obtain ⟨p0, p1, p2, p3, p4, p5, p6, pf⟩ := box7 hn6
                            obtain ⟨t0, t1, t2, t3, t4, t5, t6, tf⟩ := box7 hn7
                            obtain ⟨lc7, lf7⟩ := hR7.lineCells k _ HLK.out
                            have l0 := lc7 0 _ rfl
                            have l1 := lc7 1 _ rfl
                            have l2 := lc7 2 _ rfl
                            have l3 := lc7 3 _ rfl
                            have l4 := lc7 4 _ rfl
                            have l5 := lc7 5 _ rfl
                            have l6 := lc7 6 _ rfl
                            have f0 := lf7 0 (by omega)
                            have f1 := lf7 1 (by omega)
                            have f2 := lf7 2 (by omega)
                            have f3 := lf7 3 (by omega)
                            have f4 := lf7 4 (by omega)
                            have f5 := lf7 5 (by omega)
                            have f6 := lf7 6 (by omega)
                            rw [Nat.add_zero] at l0 f0
                            have HR8 := Lib.hid (hR7.linePut k (by rw [HACC.out.2]; omega) ⟨lk, lo, ld, la, lb, nv, ⟨#[]⟩⟩)
                            rw [set_mid acc _ _ _ k HACC.out.1, setCells7] at HR8
                            clear hn6 hn7 hc7 hR7 lc7 lf7
                            go_wp2_with fail
                            go_roundw
                            case rel => exact ⟨k + 1, by omega, by go_num, bb, rfl, Lib.hid ⟨acc ++ [⟨lk, lo, ld, la, lb, nv, ⟨#[]⟩⟩], by have := HACC.out.1; simp; omega, by rw [HRES.out, resR_some HPO.out, HFX.out, HBG.out], HR8.out⟩⟩
                            case measure => simp [intOf] <;> omega
                          · have b2 : (lo == 2) = false := by simp [h2]
                            have hkk : k ≤ 1000 := by omega
                            obtain ⟨K, hK⟩ : ∃ K : Int, (k : Int) = K := ⟨_, rfl⟩
                            have kK0 : 0 ≤ K := by rw [← hK]; exact hk0
                            have kK1 : K ≤ 1000 := by rw [← hK]; exact Int.ofNat_le.2 hkk
                            have HKK : Hid ((k : Int) = K) := Lib.hid hK
                            have HLT := Lib.hid (And.intro hlt' hk0)
                            obtain ⟨nv, hnv⟩ : ∃ nv, z - 4 * K = nv := ⟨_, rfl⟩
                            have HNV := Lib.hid hnv
                            obtain ⟨a1, a2⟩ := wrap_small _ kK0 kK1
                            have a3 : wrap32 nv = nv := IntWalk.wrap32_in _ (by omega)
                            have HFX : Hid (fixR ss acc.length ⟨lk, lo, ld, la, lb, lnn, lsym⟩ = ⟨lk, lo, ld, la, lb, nv, ⟨#[]⟩⟩) := Lib.hid (by unfold fixR; rw [if_neg (by rw [HNE.out]; simp)]; dsimp only; rw [if_neg h1, if_neg h2, HSYM.out, HACC.out.1, HKK.out, HNV.out])
                            have HBR : Hid (bigR ss acc.length ⟨lk, lo, ld, la, lb, lnn, lsym⟩ = (decide (nv < -1048576) || decide (1048574 < nv))) := Lib.hid (by unfold bigR; dsimp only; rw [b1, b2, HNE.out, HFX.out]; rfl)
                            clear h1 h2 hlt' hk0 hK
                            obtain ⟨W6, hW6⟩ : ∃ W6, w5.setCell ⟨bx, 5, none⟩ (.int .i32 nv) = W6 := ⟨_, rfl⟩
                            obtain ⟨W7, hW7⟩ : ∃ W7, W6.setCell ⟨bx, 6, none⟩ (.string ⟨#[]⟩) = W7 := ⟨_, rfl⟩
                            have hn6 : W6.heap[bx]? = some (.cells #[.int .i64 lk, .int .i64 lo, .int .i64 ld, .int .i64 la, .int .i64 lb, .int .i32 nv, .string lsym] 39 (0, 0)) := by rw [← hW6, heap_setCell_same w5 bx 5 _ _ _ HN5.out]; rfl
                            have hn7 : W7.heap[bx]? = some (.cells #[.int .i64 lk, .int .i64 lo, .int .i64 ld, .int .i64 la, .int .i64 lb, .int .i32 nv, .string ⟨#[]⟩] 39 (0, 0)) := by rw [← hW7, heap_setCell_same W6 bx 6 _ _ _ hn6]; rfl
                            have hc7 : Chg [bx] w5 W7 := by rw [← hW7, ← hW6]; exact ((Chg.refl [bx] w5).setCell bx 5 _ (.inl (by simp))).setCell bx 6 _ (.inl (by simp))
                            have hR7 := HR5.out.far hc7 HFR.out.1 HFR.out.2.1 HFR.out.2.2.1 HFR.out.2.2.2.1 HFR.out.2.2.2.2
                            have hCE7 := hR7.cells
                            rw [HACC.out.2, HLEN.out.1] at hCE7
                            obtain ⟨r0, r1, r2, rf⟩ := hCE7
                            obtain ⟨p0, p1, p2, p3, p4, p5, p6, pf⟩ := box7 hn6
                            obtain ⟨t0, t1, t2, t3, t4, t5, t6, tf⟩ := box7 hn7
                            obtain ⟨lc7, lf7⟩ := hR7.lineCells k _ HLK.out
                            have l0 := lc7 0 _ rfl
                            have l1 := lc7 1 _ rfl
                            have l2 := lc7 2 _ rfl
                            have l3 := lc7 3 _ rfl
                            have l4 := lc7 4 _ rfl
                            have l5 := lc7 5 _ rfl
                            have l6 := lc7 6 _ rfl
                            have f0 := lf7 0 (by omega)
                            have f1 := lf7 1 (by omega)
                            have f2 := lf7 2 (by omega)
                            have f3 := lf7 3 (by omega)
                            have f4 := lf7 4 (by omega)
                            have f5 := lf7 5 (by omega)
                            have f6 := lf7 6 (by omega)
                            rw [Nat.add_zero] at l0 f0
                            have HR8 := Lib.hid (hR7.linePut k (by rw [HACC.out.2]; omega) ⟨lk, lo, ld, la, lb, nv, ⟨#[]⟩⟩)
                            rw [set_mid acc _ _ _ k HACC.out.1, setCells7] at HR8
                            clear hn6 hn7 hc7 hR7 lc7 lf7
                            go_upto_region 37 with fail
                            rw [HKK.out]
                            go_upto_region 38 with fail
                            clear a1 a2 a3 kK0 kK1 hnv
                            have hK := HKK.out
                            subst hK
                            obtain ⟨hlt', hk0⟩ := HLT.out
                            cases bb with
                            | true =>
                              have HBG : Hid ((true || bigR ss acc.length ⟨lk, lo, ld, la, lb, lnn, lsym⟩) = true) := Lib.hid rfl
                              go_wp2_with fail
                              go_roundw
                              case rel => exact ⟨k + 1, by omega, by go_num, true, rfl, Lib.hid ⟨acc ++ [⟨lk, lo, ld, la, lb, nv, ⟨#[]⟩⟩], by have := HACC.out.1; simp; omega, by rw [HRES.out, resR_some HPO.out, HFX.out, HBG.out], HR8.out⟩⟩
                              case measure => simp [intOf] <;> omega
                            | false =>
                              by_cases g1 : nv < -1048576
                              · have HBG : Hid ((false || bigR ss acc.length ⟨lk, lo, ld, la, lb, lnn, lsym⟩) = true) := Lib.hid (by rw [HBR.out]; simp [g1])
                                go_wp2_with fail
                                go_roundw
                                case rel => exact ⟨k + 1, by omega, by go_num, true, rfl, Lib.hid ⟨acc ++ [⟨lk, lo, ld, la, lb, nv, ⟨#[]⟩⟩], by have := HACC.out.1; simp; omega, by rw [HRES.out, resR_some HPO.out, HFX.out, HBG.out], HR8.out⟩⟩
                                case measure => simp [intOf] <;> omega
                              · by_cases g2 : 1048574 < nv
                                · have HBG : Hid ((false || bigR ss acc.length ⟨lk, lo, ld, la, lb, lnn, lsym⟩) = true) := Lib.hid (by rw [HBR.out]; simp [g2])
                                  go_wp2_with fail
                                  go_roundw
                                  case rel => exact ⟨k + 1, by omega, by go_num, true, rfl, Lib.hid ⟨acc ++ [⟨lk, lo, ld, la, lb, nv, ⟨#[]⟩⟩], by have := HACC.out.1; simp; omega, by rw [HRES.out, resR_some HPO.out, HFX.out, HBG.out], HR8.out⟩⟩
                                  case measure => simp [intOf] <;> omega
                                · have HBG : Hid ((false || bigR ss acc.length ⟨lk, lo, ld, la, lb, lnn, lsym⟩) = false) := Lib.hid (by rw [HBR.out]; simp [g1, g2])
                                  go_wp2_with fail
                                  go_roundw
                                  case rel => exact ⟨k + 1, by omega, by go_num, false, rfl, Lib.hid ⟨acc ++ [⟨lk, lo, ld, la, lb, nv, ⟨#[]⟩⟩], by have := HACC.out.1; simp; omega, by rw [HRES.out, resR_some HPO.out, HFX.out, HBG.out], HR8.out⟩⟩
                                  case measure => simp [intOf] <;> omega
                  · obtain rfl : l2 = k := by omega
                    obtain ⟨acc, hacc, hres, hR⟩ := HI.out
                    rw [List.drop_eq_nil_of_le (by rw [HLEN.out.2]; exact Nat.le_refl _)] at hres hR
                    rw [List.append_nil] at hR
                    have HLD : Hid (loadR true gs st ls = if bb = true then .err 2 else .ok acc ss wd) := Lib.hid (by
                      unfold loadR
                      rw [if_pos rfl]
                      dsimp only
                      rw [HS1.out.1]
                      dsimp only
                      rw [HS2.out]
                      dsimp only
                      rw [HTW.out, if_pos rfl, HBW.out.1, hres, HBW.out.2]
                      rfl)
                    have hCE := hR.cells
                    rw [hacc, HLEN.out.1] at hCE
                    obtain ⟨n0, n1, n2, nf⟩ := hCE
                    obtain ⟨z0, z1, z2, zf⟩ := hR.rcells
                    have HR9 := Lib.hid hR
                    have HACC := Lib.hid hacc
                    clear HI hacc hres hR
                    cases bb with
                    | true =>
                      go_wp2_with fail
                      rw [HR9.out.idr.1, HR9.out.idr.2.1, HR9.out.idr.2.2]
                      try simp only [Exit.inBlock, Exit.then]
                      refine bodyPost_ret (results_load _ _ r _ _ rfl rfl HR9.out.rz rfl) rfl ?_
                      show ROut w (loadR true gs st ls) _ _
                      have hz : loadR true gs st ls = .err 2 := by simpa using HLD.out
                      rw [hz]
                      exact ⟨rfl, HB1.out.trans (HR9.out.below.mono HB1.out.size)⟩
                    | false =>
                      have e9 : (((wr.setCell ⟨r, 0, none⟩ (.slice LA2 l2 lc2)).setCell ⟨r, 1, none⟩ (.slice SA sn sc)).setCell ⟨r, 2, none⟩ (.int .i64 wd)).heap[r]? = some (.cells #[.slice LA2 l2 lc2, .slice SA sn sc, .int .i64 wd] 34 (0, 0)) := by
                        rw [heap_setCell_same _ r 2 _ _ _ (heap_setCell_same _ r 1 _ _ _ (heap_setCell_same wr r 0 _ _ _ HR9.out.rz))]
                        rfl
                      have hc9 : Chg [r] wr (((wr.setCell ⟨r, 0, none⟩ (.slice LA2 l2 lc2)).setCell ⟨r, 1, none⟩ (.slice SA sn sc)).setCell ⟨r, 2, none⟩ (.int .i64 wd)) := (((Chg.refl [r] wr).setCell r 0 _ (.inl (by simp))).setCell r 1 _ (.inl (by simp))).setCell r 2 _ (.inl (by simp))
                      have HE9 := Lib.hid e9
                      have HC9 := Lib.hid hc9
                      clear e9 hc9
                      go_wp2_with fail
                      try simp only [Exit.inBlock, Exit.then]
                      refine bodyPost_ret (results_load _ _ r _ _ rfl rfl HE9.out rfl) rfl ?_
                      show ROut w (loadR true gs st ls) _ _
                      have hz : loadR true gs st ls = .ok acc ss wd := by simpa using HLD.out
                      rw [hz]
                      have hL9 := SLine.lnsAt (HR9.out.line.chg HC9.out (fun k hk => by rw [List.mem_singleton]; exact (HR9.out.bl k hk).2.1))
                      have hS9 := SLine.sysAt (HR9.out.sym.chg HC9.out (fun k hk => by rw [List.mem_singleton]; exact (HR9.out.bs k hk).2.1))
                      refine ⟨LA2, lc2, SA, sc, by rw [HACC.out, HLEN.out.1]; rfl, HB1.out.trans ((HR9.out.below.trans (HC9.out.toBelow (fun k hk => by rw [List.mem_singleton] at hk; subst hk; exact HR9.out.rge) HR9.out.below.size)).mono HB1.out.size), hL9, hS9⟩
end Rv
end Go.Proofs.Ytmedhibjkbahpaa
namespace Go.Proofs.Ytmedhibjkbahpaa
open Go.RowKit
set_option linter.unusedVariables false
set_option linter.unusedSimpArgs false
namespace Rv
/-- The symbols of the lines, so many instructions ahead; of the globals, so many words ahead. -/
def labF : Nat → List Ln → List Sy
  | _, [] => []
  | c, l :: ls => if l.k = 1 then ⟨l.s, 4 * (c : Int)⟩ :: labF c ls else labF (c + 1) ls
def datF : Int → List Gl → List Sy
  | _, [] => []
  | c, g :: gs => ⟨g.name, 65536 + 4 * c⟩ :: datF (c + max 1 g.size) gs
def sumG : List Gl → Int
  | [] => 0
  | g :: gs => max 1 g.size + sumG gs
def insL (ls : List Ln) : List Ln := ls.filter fun l => !(l.k == 1)
theorem foldl_GR : ∀ (gs : List Gl) (s : List Sy × Int), gs.foldl stepGR s = (s.1 ++ datF s.2 gs, s.2 + sumG gs)
  | [], s => by simp [datF, sumG]
  | g :: gs, s => by
    rw [List.foldl_cons, foldl_GR gs, stepGR]
    simp only [datF, sumG, List.append_assoc, List.singleton_append, Prod.mk.injEq, true_and]
    omega
theorem foldl_LR : ∀ (ls : List Ln) (s : List Ln × List Sy), ls.foldl stepLR s = (s.1 ++ insL ls, s.2 ++ labF s.1.length ls)
  | [], s => by simp [labF, insL]
  | l :: ls, s => by
    rw [List.foldl_cons, foldl_LR ls]
    by_cases h : l.k = 1
    · simp [stepLR, insL, labF, h]
    · simp [stepLR, insL, labF, h]
def putAll (s : LS) (l : List Sy) : LS := l.foldl (fun s t => s.put t.name t.pos) s
theorem foldl_L : ∀ (ls : List Ln) (s : LS), (∀ l ∈ ls, l.k = 1 ∨ l.k = 2) → (ls.foldl stepL s).f = (putAll s (labF s.cnt ls)).f ∧ (ls.foldl stepL s).ok = (putAll s (labF s.cnt ls)).ok
  | [], s, _ => ⟨rfl, rfl⟩
  | l :: ls, s, h => by
    have hr := fun x hx => h x (List.mem_cons_of_mem _ hx)
    rcases h l (List.mem_cons_self ..) with hk | hk
    · have e : stepL s l = s.put l.s (4 * (s.cnt : Int)) := by unfold stepL; rw [if_neg (by omega)]
      have ih := foldl_L ls (stepL s l) hr
      rw [List.foldl_cons]
      rw [e] at ih ⊢
      have e2 : labF s.cnt (l :: ls) = ⟨l.s, 4 * (s.cnt : Int)⟩ :: labF s.cnt ls := by rw [labF, if_pos hk]
      rw [e2]
      exact ih
    · have e : stepL s l = { s with cnt := s.cnt + 1 } := by unfold stepL; rw [if_pos hk]
      have ih := foldl_L ls (stepL s l) hr
      rw [List.foldl_cons]
      rw [e] at ih ⊢
      have e2 : labF s.cnt (l :: ls) = labF (s.cnt + 1) ls := by rw [labF, if_neg (by omega)]
      rw [e2]
      have cnt_any : ∀ (L : List Sy) (a b : LS), a.f = b.f → a.ok = b.ok → (putAll a L).f = (putAll b L).f ∧ (putAll a L).ok = (putAll b L).ok := by
        intro L
        induction L with
        | nil => intro a b h1 h2; exact ⟨h1, h2⟩
        | cons t L ih =>
          intro a b h1 h2
          exact ih _ _ (by simp only [LS.put, h1]) (by simp only [LS.put, h1, h2])
      have q := cnt_any (labF (s.cnt + 1) ls) { s with cnt := s.cnt + 1 } s rfl rfl
      exact ⟨ih.1.trans q.1, ih.2.trans q.2⟩
theorem put_cnt : ∀ (L : List Sy) (a b : LS), a.f = b.f → a.ok = b.ok → (putAll a L).f = (putAll b L).f ∧ (putAll a L).ok = (putAll b L).ok
  | [], a, b, h1, h2 => ⟨h1, h2⟩
  | t :: L, a, b, h1, h2 => put_cnt L _ _ (by simp only [LS.put, h1]) (by simp only [LS.put, h1, h2])
theorem foldl_G : ∀ (gs : List Gl) (s : LS) (c : Int), (s.cnt : Int) = c → (∀ g ∈ gs, 0 ≤ g.size) → (gs.foldl stepG s).f = (putAll s (datF c gs)).f ∧ (gs.foldl stepG s).ok = (putAll s (datF c gs)).ok
  | [], s, c, _, _ => ⟨rfl, rfl⟩
  | g :: gs, s, c, hc, h => by
    have h0 := h g (List.mem_cons_self ..)
    have ih := foldl_G gs (stepG s g) (c + max 1 g.size) (by show ((s.cnt + g.words : Nat) : Int) = _; unfold Gl.words; omega) (fun x hx => h x (List.mem_cons_of_mem _ hx))
    rw [List.foldl_cons, datF]
    have q := put_cnt (datF (c + max 1 g.size) gs) (stepG s g) (s.put g.name (65536 + 4 * c)) (by unfold stepG; rw [hc]) (by unfold stepG; rw [hc])
    exact ⟨ih.1.trans q.1, ih.2.trans q.2⟩
/-- Puts one after another: all names differ, or not; and what is found then. -/
theorem putAll_ok : ∀ (L : List Sy) (s : LS), (putAll s L).ok = true ↔ s.ok = true ∧ (L.map Sy.name).Nodup ∧ ∀ t ∈ L, s.f t.name = none
  | [], s => by simp [putAll]
  | t :: L, s => by
    show (putAll (s.put t.name t.pos) L).ok = true ↔ _
    rw [putAll_ok L]
    simp only [LS.put, List.map_cons, List.nodup_cons, Bool.and_eq_true, Bool.not_eq_true', Option.isSome_eq_false_iff, Option.isNone_iff_eq_none, List.mem_cons, forall_eq_or_imp, List.mem_map, not_exists, not_and]
    constructor
    · rintro ⟨⟨a, b⟩, c, d⟩
      refine ⟨a, ⟨fun x hx e => ?_, c⟩, b, fun x hx => ?_⟩
      · have := d x hx
        rw [e] at this
        simp [putS] at this
      · have := d x hx
        by_cases e : x.name = t.name
        · rw [e] at this; simp [putS] at this
        · simpa [putS, e] using this
    · rintro ⟨a, ⟨b, c⟩, d, e⟩
      refine ⟨⟨a, d⟩, c, fun x hx => ?_⟩
      have : x.name ≠ t.name := b x hx
      simpa [putS, this] using e x hx
theorem putAll_f : ∀ (L : List Sy) (s : LS) (x : ByteArray) (z : Int), (putAll s L).ok = true → ((putAll s L).f x = some z ↔ s.f x = some z ∨ ∃ t ∈ L, t.name = x ∧ t.pos = z)
  | [], s, x, z, _ => by simp [putAll]
  | t :: L, s, x, z, h => by
    have h' : (putAll (s.put t.name t.pos) L).ok = true := h
    show (putAll (s.put t.name t.pos) L).f x = some z ↔ _
    rw [putAll_f L _ x z h']
    have hk := (putAll_ok (t :: L) s).1 h
    have hn := hk.2.2 t (List.mem_cons_self ..)
    simp only [LS.put, putS, List.mem_cons, exists_eq_or_imp]
    by_cases e : x = t.name
    · subst e
      simp only [if_true, Option.some.injEq, hn, true_and, reduceCtorEq, false_or]
    · simp only [if_neg e, fun q : t.name = x => e q.symm]
      have : ¬ t.name = x := fun q => e q.symm
      simp [this]
end Rv
end Go.Proofs.Ytmedhibjkbahpaa
