/-
  The walk of the law RiscvRuns: it answers true and writes nothing that was there.
-/
import Derived.Test.YtmedhibjkbahpaaZbb
import Derived.Deep.CutRange
namespace Go.Proofs.Ytmedhibjkbahpaa
open Go.RowKit
set_option linter.unusedVariables false
set_option linter.unusedSimpArgs false
set_option maxRecDepth 100000
namespace Rv
def RunsFin (w2 X : World) (R : Res) (f v : Int) (n : Nat) (s r : Int) (p q : Nat) : Prop :=
  Below w2.heap.size w2 X ∧ ∃ A8 c8 A9 c9, X.heap[p]? = some (.cells #[.int .i64 f, .int .i32 v, .slice A8 n c8, .int .i64 s, .int .i64 r] 57 (0, 0)) ∧ SLine 1 X A8 n c8 (cellsW R.tr) ∧ X.heap[q]? = some (.cells #[.int .i64 f, .int .i32 v, .slice A9 n c9, .int .i64 s, .int .i64 r] 57 (0, 0)) ∧ SLine 1 X A9 n c9 (cellsW R.tr)
theorem sym_same {f : ByteArray → Option Int} {ss : List Sy} (hf : ∀ x z, f x = some z ↔ ∃ t ∈ ss, t.name = x ∧ t.pos = z) (x : ByteArray) : (f x).getD 0 = symAt ss x := by
  cases hp : posO ss x with
  | none => rw [f_none hf hp]; unfold symAt; rw [hp]; rfl
  | some j => rw [f_some hf hp]; rfl
theorem loadR_ne {b : Bool} {gs : List Gl} {st : Int} {ls : List Ln} {k : Int} (h : loadR b gs st ls = .err k) : k ≠ 0 := by
  unfold loadR at h
  dsimp only at h
  split at h
  · split at h
    · split at h
      · cases h; decide
      · split at h
        · cases h; decide
        · cases h
    · cases h; decide
  · cases h; decide
set_option maxHeartbeats 12800000 in
theorem runs_walk (GA LA : Option Addr) (gn gc ln lc : Nat) (st : Int) (iA : Option Addr) (il ic : Nat) (zs : List Int) (fuel : Int) (W : World) (gs : List Gl) (ls : List Ln) (hG : GlsAt W GA gn gs) (hL : LnsAt W LA ln ls) (hgn : gn ≤ 9223372036854775807) (hln : ln ≤ 9223372036854775807) (hI0 : IsRow .i32 W iA il ic zs) (hfu : (Lit.int .i64 fuel).wf = true) (hnn : ∀ l ∈ ls, -2147483648 ≤ l.n ∧ l.n ≤ 2147483647) :
    Calls Try.prog 5 #[.agg #[.slice GA gn gc, .int .i64 st, .slice LA ln lc], .slice iA il ic, .int .i64 fuel] W fun e w' => e = .returned (.bool true) ∧ Below W.heap.size W w' := by
  obtain ⟨inp, hin, hI, hi32, hiN, hil, hic⟩ := Rv.input_of hI0
  obtain ⟨m, hm⟩ : ∃ m, min il 30 = m := ⟨_, rfl⟩
  rw [hm] at hin hI
  have hm30 : m ≤ 30 := by omega
  obtain ⟨qn, hqn⟩ : ∃ qn : Nat, max 0 (min fuel 400) = (qn : Int) := ⟨(max 0 (min fuel 400)).toNat, by omega⟩
  have hq400 : qn ≤ 400 := by omega
  obtain ⟨v, hv⟩ : ∃ v, W.heap.size = v := ⟨_, rfl⟩
  obtain ⟨W1, hW1⟩ : ∃ W1, W.alloc (.cells #[.slice GA gn gc, .int .i64 st, .slice LA ln lc] 25) = W1 := ⟨_, rfl⟩
  have hb1 : Below W.heap.size W W1 := by rw [← hW1]; exact (Below.refl _ _).alloc (Nat.le_refl _) _
  have hbx : W1.heap[v]? = some (.cells #[.slice GA gn gc, .int .i64 st, .slice LA ln lc] 25 (0, 0)) := by rw [← hW1, ← hv]; exact heap_alloc_new W _
  have hvl : v < W1.heap.size := (Array.getElem?_eq_some_iff.1 hbx).1
  have HX : Hid (∀ V, Below W1.heap.size W1 V → V.cell? ⟨v, 0, none⟩ = some (.slice GA gn gc) ∧ V.cell? ⟨v, 1, none⟩ = some (.int .i64 st) ∧ V.cell? ⟨v, 2, none⟩ = some (.slice LA ln lc)) := Lib.hid (fun V hV => box3 ((hV.block v hvl).trans hbx))
  obtain ⟨x0, x1, x2⟩ := HX.out W1 (Below.refl _ _)
  have HSM := Lib.hid (small_any W1 GA LA gn gc ln lc st gs ls (hG.below hb1) (hL.below hb1) hgn hln)
  have HB1 := Lib.hid hb1
  have HG := Lib.hid (hG.below hb1)
  have HL := Lib.hid (hL.below hb1)
  have HNN := Lib.hid hnn
  have HIN := Lib.hid (And.intro hin (And.intro (hI.below hb1) (And.intro hi32 (And.intro hm30 hq400))))
  have HC : Hid (∀ W, Calls Try.prog 18 #[.slice iA il ic, .int .i64 fuel] W fun e w' => e = .returned (.tuple #[.slice iA m ic, .int .i64 (qn : Int)]) ∧ Below W.heap.size W w') := Lib.hid (fun W => by
    have := cut12_any W iA il ic fuel hiN hil hic
    rw [hm, hqn] at this
    exact this)
  clear hb1 hbx hvl hG hL hnn hI0 hfu hin hI hi32 hiN hil hic hm hqn hm30 hq400
  cases hsm : smallB gs st ls with
  | false =>
    rw [hsm] at HSM
    clear hsm hgn hln
    go_enter Try.func5, Try.ntmps5
    go_wp2_with (first | (go_at_call 7; (with_reducible refine HSM.out.mono ?_); rintro e w2 ⟨rfl, hb2⟩; have HB2 := Lib.hid (HB1.out.trans (hb2.mono HB1.out.size)); clear hb2) | (go_at_call 8; refine (lives18 _).mono ?_; rintro e w9 ⟨rfl, hb9⟩; have HB9 := Lib.hid (HB2.out.trans (hb9.mono (HB2.out).size)); clear hb9))
    go_ret
    exact ⟨rfl, HB9.out⟩
  | true =>
    rw [hsm] at HSM
    obtain ⟨m1, m2, m3, m4, m5⟩ := small_of hsm
    rw [HL.out.1] at m1
    rw [HG.out.1] at m2
    have HLD := Lib.hid (fun V (hV : Below W1.heap.size W1 V) => load_any mayGl mayLn V GA LA gn gc ln lc st gs ls (HG.out.below hV) (HL.out.below hV) (by omega) (by omega) (fun g hg U => mayGl_any g (by have := m3 g hg; omega) U) (fun l hl U => mayLnP_any l (by have := m4 l hl; omega) (HNN.out l hl) U) (fun g _ h => by unfold mayGl at h; simp at h; omega) (fun g hg => by have := m3 g hg; omega) (fun l hl => by have := m4 l hl; omega) HNN.out)
    have HRD := Lib.hid (fun V (hV : Below W1.heap.size W1 V) => refLoad_any V GA LA gn gc ln lc st gs ls (HG.out.below hV) (HL.out.below hV) (by omega) (by omega) (fun g hg => by have := m3 g hg; omega) (fun l hl => by have := m4 l hl; omega) HNN.out)
    have hls : ls.length ≤ 1000 := by have := HL.out.1; omega
    have HLS := Lib.hid hls
    have HNM : Hid (gs.length ≤ 70 ∧ ls.length ≤ 300 ∧ (∀ g ∈ gs, g.name.size ≤ 200) ∧ (∀ l ∈ ls, l.s.size ≤ 200) ∧ st ≤ 65536) := Lib.hid ⟨by have := HG.out.1; omega, by have := HL.out.1; omega, m3, m4, m5⟩
    clear m1 m2 m3 m4 m5 hgn hln hsm hls
    have hsame : mayA mayGl mayLn gs st ls = false ∧ loadI mayGl mayLn gs st ls = .err 1 ∧ loadR (mayA mayGl mayLn gs st ls) gs st ls = .err 1 ∨ mayA mayGl mayLn gs st ls = true ∧ SameLoad gs st ls (loadR (mayA mayGl mayLn gs st ls) gs st ls) := by
      cases hm : mayA mayGl mayLn gs st ls with
      | false => exact .inl ⟨rfl, by unfold loadI; rw [hm]; rfl, rfl⟩
      | true => exact .inr ⟨rfl, load_same gs st ls hm HLS.out⟩
    have herr : (∃ k, k ≠ 0 ∧ loadI mayGl mayLn gs st ls = .err k ∧ loadR (mayA mayGl mayLn gs st ls) gs st ls = .err k) ∨ ∃ L ss words, loadR (mayA mayGl mayLn gs st ls) gs st ls = .ok L ss words ∧ loadI mayGl mayLn gs st ls = .ok L (layG ls gs).f words ∧ L.length ≤ ls.length ∧ ∀ x z, (layG ls gs).f x = some z ↔ ∃ t ∈ ss, t.name = x ∧ t.pos = z := by
      rcases hsame with ⟨-, h1, h2⟩ | ⟨-, h⟩
      · exact .inl ⟨1, by decide, h1, h2⟩
      · cases hr : loadR (mayA mayGl mayLn gs st ls) gs st ls with
        | err k => rw [hr] at h; exact .inl ⟨k, loadR_ne hr, h, rfl⟩
        | ok L ss words => rw [hr] at h; exact .inr ⟨L, ss, words, rfl, h.1, h.2.1, h.2.2⟩
    clear hsame
    rcases herr with ⟨k, hk0, h1, h2⟩ | ⟨L, ss, words, h1, h2, hLl, hf⟩
    · rw [h1] at HLD
      rw [h2] at HRD
      clear h1 h2
      have hkb : (k == 0) = false := by simp [hk0]
      have hfd : ∀ (W : World), (Instr.field 57 (.agg #[.int .i64 6, .int .i32 0, .slice none 0 0, .int .i64 0, .int .i64 0]) 0).run Try.prog W = .ok (.int .i64 6) W := fun _ => by kernel_rfl
      have hkb2 : (k != 0) = true := by simp [hk0]
      clear hk0
      go_enter Try.func5, Try.ntmps5
      go_wp2_with (first
        | (go_at_call 7; (with_reducible refine HSM.out.mono ?_); rintro e w2 ⟨rfl, hb2⟩; have HB2 := Lib.hid hb2; clear hb2 x0 x1 x2)
        | (go_at_call 18; (with_reducible refine (HC.out _).mono ?_); rintro e w3 ⟨rfl, hb3⟩; have hb13 := HB2.out.trans (hb3.mono HB2.out.size); obtain ⟨z0, z1, z2⟩ := HX.out w3 hb13; have HB3 := Lib.hid hb13; clear hb3 hb13)
        | (go_at_call 9; (with_reducible refine (HLD.out _ HB3.out).mono ?_); rintro e w4 ⟨rfl, hb4⟩; have hb14 := HB3.out.trans (hb4.mono HB3.out.size); obtain ⟨y0, y1, y2⟩ := HX.out w4 hb14; have HB4 := Lib.hid hb14; clear hb4 hb14 z0 z1 z2)
        | (go_at_call 10; (with_reducible refine (HRD.out _ HB4.out).mono ?_); rintro e w5 ⟨rfl, hb4⟩; have hb04 := HB4.out.trans (hb4.mono HB4.out.size); obtain ⟨bi, hbi⟩ : ∃ bi, w5.heap.size = bi := ⟨_, rfl⟩; obtain ⟨W5, hW5⟩ : ∃ W5, w5.alloc (.cells #[.slice none 0 0, .slice none 0 0, .int .i64 0] 34) = W5 := ⟨_, rfl⟩; have hn5 : W5.heap[bi]? = some (.cells #[.slice none 0 0, .slice none 0 0, .int .i64 0] 34 (0, 0)) := (by rw [← hW5, ← hbi]; exact heap_alloc_new w5 _); have hb45 : Below w5.heap.size w5 W5 := (by rw [← hW5]; exact (Below.refl _ _).alloc (Nat.le_refl _) _); have HB6 := Lib.hid (hb04.trans (hb45.mono hb04.size)); have HI := Lib.hid (fun V (hV : Below W5.heap.size W5 V) => box3 ((hV.block bi (Array.getElem?_eq_some_iff.1 hn5).1).trans hn5)); obtain ⟨i0, i1, i2⟩ := HI.out W5 (Below.refl _ _); have fz := fun j => frozen_of_row _ bi j _ _ hn5; have e0 := setCell_idR (i := 0) (v := .slice none 0 0) hn5 rfl; have e1 := setCell_idR (i := 1) (v := .slice none 0 0) hn5 rfl; have e2 := setCell_idR (i := 2) (v := .int .i64 0) hn5 rfl; clear hb4 hb04 hb45 hn5 y0 y1 y2)
        | (go_at_call 19; refine (run_nil _ _ _ _ _).mono ?_; rintro e w7 ⟨rfl, hb7⟩; have HB7 := Lib.hid (HB6.out.trans (hb7.mono HB6.out.size)); clear hb7)
        | (go_at_call 8; refine (lives18 _).mono ?_; rintro e w13 ⟨rfl, hb13⟩; have HB13 := Lib.hid (HB7.out.trans (hb13.mono HB7.out.size)); clear hb13))
      go_ret
      exact ⟨rfl, HB1.out.trans (HB13.out.mono HB1.out.size)⟩
    · obtain ⟨hok, hw0, hw1, hmay⟩ := load_more HNN.out HNM.out.2.2.2.2 h2
      have hpos := load_pos hmay h1 HNM.out.1 HNM.out.2.1
      have hsyn := load_syms h1 HNM.out.1 HNM.out.2.1
      have hst0 := sym_same hf startB
      rw [h2] at HLD
      rw [h1] at HRD
      obtain ⟨wn, rfl⟩ : ∃ wn : Nat, words = (wn : Int) := ⟨words.toNat, by omega⟩
      have hpr : R32 (symAt ss startB) := by
        unfold symAt
        cases posO ss startB with
        | none => exact zero_rng
        | some j =>
          dsimp only
          cases e : ss[j]? with
          | none => exact zero_rng
          | some t => have := hpos t (List.mem_of_getElem? e); exact ⟨by dsimp only; omega, by dsimp only; omega⟩
      obtain ⟨pc0, hpc0⟩ : ∃ pc0, symAt ss startB = pc0 := ⟨_, rfl⟩
      rw [hpc0] at hst0 hpr
      obtain ⟨RB, hRB⟩ : ∃ R, runR L inp (qn : Int) (newS wn pc0) = R := ⟨_, rfl⟩
      have hRL : RB.tr.length ≤ 1000000 := by rw [← hRB]; exact runR_len HIN.out.2.2.2.2 _ _ hpr
      obtain ⟨fB, hfB⟩ : ∃ x, RB.fin = x := ⟨_, rfl⟩
      obtain ⟨vB, hvB⟩ : ∃ x, RB.v = x := ⟨_, rfl⟩
      obtain ⟨nB, hnB⟩ : ∃ x, RB.tr.length = x := ⟨_, rfl⟩
      obtain ⟨sB, hsB⟩ : ∃ x : Int, (RB.steps : Int) = x := ⟨_, rfl⟩
      obtain ⟨rB, hrB⟩ : ∃ x : Int, (RB.reads : Int) = x := ⟨_, rfl⟩
      have HNB : Hid (RB.tr.length = nB ∧ nB ≤ 1000000) := Lib.hid ⟨hnB, by omega⟩
      obtain ⟨ql, hql⟩ : ∃ ql, L.length = ql := ⟨_, rfl⟩
      obtain ⟨qs, hqs⟩ : ∃ qs, ss.length = qs := ⟨_, rfl⟩
      have HQL : Hid (L.length = ql ∧ ss.length = qs ∧ L.length ≤ 1000 ∧ ss.length ≤ 1000) := Lib.hid ⟨hql, hqs, by have := HLS.out; omega, hsyn⟩
      have HOKL := Lib.hid (And.intro hok (And.intro (fun (t : Sy) (ht : t ∈ ss) => (show R32 t.pos from ⟨by have := hpos t ht; omega, by have := hpos t ht; omega⟩)) (And.intro hst0 (And.intro hpr (show wn ≤ 100000 by omega)))))
      have HRB := Lib.hid (And.intro hpc0 (And.intro hRB (And.intro hfB (And.intro hvB (And.intro hnB (And.intro hsB hrB))))))
      clear h1 h2 hf hLl hok hw0 hw1 hmay hpos hsyn hst0 hpr hpc0 hRB hRL hfB hvB hnB hsB hrB
      have b0 : ((0 : Int) != 0) = false := rfl
      go_enter Try.func5, Try.ntmps5
      go_upto_region 10 with (first
        | (go_at_call 7; (with_reducible refine HSM.out.mono ?_); rintro e w2 ⟨rfl, hb2⟩; have HB2 := Lib.hid hb2; clear hb2 x0 x1 x2)
        | (go_at_call 18; (with_reducible refine (HC.out _).mono ?_); rintro e w3 ⟨rfl, hb3⟩; have hb13 := HB2.out.trans (hb3.mono HB2.out.size); obtain ⟨z0, z1, z2⟩ := HX.out w3 hb13; have HB3 := Lib.hid hb13; clear hb3 hb13)
        | (go_at_call 9; (with_reducible refine (HLD.out _ HB3.out).mono ?_); rintro e w4 ⟨mi, M, A, c, n, rfl, hR4⟩; have hb14 := HB3.out.trans (hR4.below.mono HB3.out.size); obtain ⟨y0, y1, y2⟩ := HX.out w4 hb14; have HB4 := Lib.hid hb14; have HR4 := Lib.hid hR4; clear hR4 hb14 z0 z1 z2)
        | (go_at_call 10; (with_reducible refine (HRD.out _ HB4.out).mono ?_); rintro e w5 ⟨LA2, lc2, SA, sc, he, hb4, hL4, hS4⟩; rw [hql, hqs] at he; rw [hql] at hL4; rw [hqs] at hS4; subst he; have hb04 := HB4.out.trans (hb4.mono HB4.out.size); obtain ⟨bi, hbi⟩ : ∃ bi, w5.heap.size = bi := ⟨_, rfl⟩; obtain ⟨W5, hW5⟩ : ∃ W5, w5.alloc (.cells #[.slice none 0 0, .slice none 0 0, .int .i64 0] 34) = W5 := ⟨_, rfl⟩; have hn5 : W5.heap[bi]? = some (.cells #[.slice none 0 0, .slice none 0 0, .int .i64 0] 34 (0, 0)) := (by rw [← hW5, ← hbi]; exact heap_alloc_new w5 _); have hb45 : Below w5.heap.size w5 W5 := (by rw [← hW5]; exact (Below.refl _ _).alloc (Nat.le_refl _) _); obtain ⟨W6, hW6⟩ : ∃ W6, ((W5.setCell ⟨bi, 0, none⟩ (.slice LA2 ql lc2)).setCell ⟨bi, 1, none⟩ (.slice SA qs sc)).setCell ⟨bi, 2, none⟩ (.int .i64 (wn : Int)) = W6 := ⟨_, rfl⟩; have hn6 : W6.heap[bi]? = some (.cells #[.slice LA2 ql lc2, .slice SA qs sc, .int .i64 (wn : Int)] 34 (0, 0)) := (by rw [← hW6, heap_setCell_same _ bi 2 _ _ _ (heap_setCell_same _ bi 1 _ _ _ (heap_setCell_same W5 bi 0 _ _ _ hn5))]; rfl); have hc6 : Chg [bi] W5 W6 := (by rw [← hW6]; exact (((Chg.refl [bi] W5).setCell bi 0 _ (.inl (by simp))).setCell bi 1 _ (.inl (by simp))).setCell bi 2 _ (.inl (by simp))); have hb46 : Below w5.heap.size w5 W6 := hb45.trans (hc6.toBelow (fun k hk => by rw [List.mem_singleton] at hk; omega) hb45.size); have HB6 := Lib.hid (hb04.trans (hb46.mono hb04.size)); have HI := Lib.hid (fun V (hV : Below W6.heap.size W6 V) => box3 ((hV.block bi (Array.getElem?_eq_some_iff.1 hn6).1).trans hn6)); obtain ⟨k0, k1, k2⟩ := box3 hn5; obtain ⟨i0, i1, i2⟩ := HI.out W6 (Below.refl _ _); have fz := fun j => frozen_of_row _ bi j _ _ hn5; have HR6 := Lib.hid ((HR4.out.grow hb4).grow hb46); have HL6 := Lib.hid (hL4.below hb46); have HS6 := Lib.hid (hS4.below hb46); clear hb4 hb04 hb45 hb46 hc6 hn5 hn6 hL4 hS4 y0 y1 y2))
      have HIMG : Hid (∀ V, Below W6.heap.size W6 V → V.cell? ⟨bi, 0, none⟩ = some (.slice LA2 ql lc2) ∧ V.cell? ⟨bi, 1, none⟩ = some (.slice SA qs sc) ∧ V.cell? ⟨bi, 2, none⟩ = some (.int .i64 (wn : Int))) := HI
      have HCC : Hid (∀ V, Below W6.heap.size W6 V → Calls Try.prog 19 #[.pointer (some ⟨mi, 0, none⟩), .slice iA m ic, .int .i64 (qn : Int)] V fun e w' => ∃ A c, e = .returned (.agg #[.int .i64 fB, .int .i32 vB, .slice A nB c, .int .i64 sB, .int .i64 rB]) ∧ SLine 1 w' A nB c (cellsW RB.tr) ∧ Below V.heap.size V w' ∧ ∀ k ∈ blk A, V.heap.size ≤ k) := Lib.hid (fun V hV => by
        have hr := HR6.out.grow hV
        have hB := HB6.out.trans (hV.mono HB6.out.size)
        have hrun := run_any V mi A L.length c M n wn (layG ls gs).f hr.im hr.sym HOKL.out.2.2.2.2 L (SLine.lnsAt hr.line) HOKL.out.1 (by have := HQL.out.2.2.1; omega) (by have := HOKL.out.2.2.1; unfold startB at this; rw [this]; exact HOKL.out.2.2.2.1) iA m ic inp (HIN.out.2.1.below hB) (by have := HIN.out.2.2.2.1; omega) (qn : Int) (by have := HIN.out.2.2.2.2; omega)
        have h3 := HOKL.out.2.2.1
        unfold startB at h3
        rw [h3] at hrun
        rw [HRB.out.2.1] at hrun
        refine hrun.mono fun e w' hq => ?_
        obtain ⟨A', c', rfl, hl, hb, hf⟩ := hq
        rw [HRB.out.2.2.1, HRB.out.2.2.2.1, HRB.out.2.2.2.2.2.1, HRB.out.2.2.2.2.2.2]
        rw [HRB.out.2.2.2.2.1] at hl ⊢
        exact ⟨A', c', rfl, hl, hb, hf⟩)
      have HDD : Hid (∀ V, Below W6.heap.size W6 V → Calls Try.prog 20 #[.agg #[.slice LA2 ql lc2, .slice SA qs sc, .int .i64 (wn : Int)], .slice iA m ic, .int .i64 (qn : Int)] V fun e w' => ∃ A c, e = .returned (.agg #[.int .i64 fB, .int .i32 vB, .slice A nB c, .int .i64 sB, .int .i64 rB]) ∧ SLine 1 w' A nB c (cellsW RB.tr) ∧ Below V.heap.size V w' ∧ ∀ k ∈ blk A, V.heap.size ≤ k) := Lib.hid (fun V hV => by
        have hB := HB6.out.trans (hV.mono HB6.out.size)
        have hrun := rrun_any V LA2 SA ql lc2 qs sc wn L ss (HL6.out.below hV) HOKL.out.1 (by have := HQL.out.2.2.1; omega) (HS6.out.below hV) (by have := HQL.out; omega) HOKL.out.2.1 HOKL.out.2.2.2.2 iA m ic inp (HIN.out.2.1.below hB) HIN.out.2.2.1 (by have := HIN.out.2.2.2.1; omega) (qn : Int) (by have := HIN.out.2.2.2.2; omega)
        rw [HRB.out.1, HRB.out.2.1] at hrun
        refine hrun.mono fun e w' hq => ?_
        obtain ⟨A', c', rfl, hl, hb, hf⟩ := hq
        rw [HRB.out.2.2.1, HRB.out.2.2.2.1, HRB.out.2.2.2.2.2.1, HRB.out.2.2.2.2.2.2]
        rw [HRB.out.2.2.2.2.1] at hl ⊢
        exact ⟨A', c', rfl, hl, hb, hf⟩)
      have HC := HCC
      have HD := HDD
      have HMC := HIMG
      clear HCC HDD HIMG i0 i1 i2 k0 k1 k2 fz hW5 hW6 hbi HI
      go_cut [11, 12] from 47 to 54 (fun x y wx => ∃ p q, x = .pointer (some ⟨p, 0, none⟩) ∧ y = .pointer (some ⟨q, 0, none⟩) ∧ Hid (RunsFin W6 wx RB fB vB nB sB rB p q))
      case first =>
        obtain ⟨V0, hV0e⟩ : ∃ V, W6.drew = V := ⟨_, rfl⟩
        have hV0 : Below W6.heap.size W6 V0 := by rw [← hV0e]; exact (Below.refl _ _).drew
        refine wp_region_held_drew (S := fun w' => Below W6.heap.size W6 w') (by kernel_rfl) (Below.refl _ _).drew (fun _ => ?_)
        rw [hV0e]
        clear hV0e
        refine takeH 0 47 (v := (.pointer (some ⟨mi, 0, none⟩))) rfl rfl (by kernel_rfl) (by kernel_rfl) (by kernel_rfl) (fun _ _ _ h => h) (by rfl) ?_ hV0 ?_
        · intro w hSw
          go_simp
        try simp only [Act.put, List.setIfInBounds_toArray, List.set_cons_zero, List.set_cons_succ]
        refine takeH 1 48 (v := (.slice iA m ic)) rfl rfl (by kernel_rfl) (by kernel_rfl) (by kernel_rfl) (fun _ _ _ h => h) (by rfl) ?_ hV0 ?_
        · intro w hSw
          go_simp
        try simp only [Act.put, List.setIfInBounds_toArray, List.set_cons_zero, List.set_cons_succ]
        refine takeH 2 49 (v := (.int .i64 (qn : Int))) rfl rfl (by kernel_rfl) (by kernel_rfl) (by kernel_rfl) (fun _ _ _ h => h) (by rfl) ?_ hV0 ?_
        · intro w hSw
          go_simp
        try simp only [Act.put, List.setIfInBounds_toArray, List.set_cons_zero, List.set_cons_succ]
        refine takeH 4 51 (v := (.agg #[.slice LA2 ql lc2, .slice SA qs sc, .int .i64 (wn : Int)])) rfl rfl (by kernel_rfl) (by kernel_rfl) (by kernel_rfl) (fun _ _ _ h => h) (by rfl) ?_ hV0 ?_
        · intro w hSw
          obtain ⟨y0, y1, y2⟩ := HMC.out w hSw
          go_simp
        try simp only [Act.put, List.setIfInBounds_toArray, List.set_cons_zero, List.set_cons_succ]
        refine takeH 5 52 (v := (.slice iA m ic)) rfl rfl (by kernel_rfl) (by kernel_rfl) (by kernel_rfl) (fun _ _ _ h => h) (by rfl) ?_ hV0 ?_
        · intro w hSw
          go_simp
        try simp only [Act.put, List.setIfInBounds_toArray, List.set_cons_zero, List.set_cons_succ]
        refine takeH 6 53 (v := (.int .i64 (qn : Int))) rfl rfl (by kernel_rfl) (by kernel_rfl) (by kernel_rfl) (fun _ _ _ h => h) (by rfl) ?_ hV0 ?_
        · intro w hSw
          go_simp
        try simp only [Act.put, List.setIfInBounds_toArray, List.set_cons_zero, List.set_cons_succ]
        refine wpAnyH_ready (rs := [3, 8, 9]) (by kernel_rfl) (by simp) ?_
        refine AllReadyH.cons rfl (fun K hK => ?_) ?_
        · go_simp
          have HCALL := Lib.hid (HC.out V0 hV0)
          go_at_call 19
          with_reducible refine HCALL.out.mono ?_
          rintro e V1 ⟨A8, c8, rfl, L8, hb, F8⟩
          have lV1L8 := L8
          have hV1 := hV0.trans (hb.mono hV0.size)
          try go_wp2_with fail
          refine hK.out _ _ hV1 (fun _ => ?_)
          clear hK K HCALL
          try simp only [Act.put, List.setIfInBounds_toArray, List.set_cons_zero, List.set_cons_succ]
          refine wpAnyH_ready (rs := [7, 8, 9]) (by kernel_rfl) (by simp) ?_
          refine AllReadyH.cons rfl (fun K hK => ?_) ?_
          · go_simp
            have HCALL := Lib.hid (HD.out V1 hV1)
            go_at_call 20
            with_reducible refine HCALL.out.mono ?_
            rintro e V2 ⟨A9, c9, rfl, L9, hb, F9⟩
            have lV2L9 := L9
            have lV2L8 := lV1L8.below hb
            have hV2 := hV1.trans (hb.mono hV1.size)
            try go_wp2_with fail
            refine hK.out _ _ hV2 (fun _ => ?_)
            clear hK K HCALL
            try simp only [Act.put, List.setIfInBounds_toArray, List.set_cons_zero, List.set_cons_succ]
            refine wpAnyH_ready (rs := [8, 9]) (by kernel_rfl) (by simp) ?_
            refine AllReadyH.cons rfl (fun K hK => ?_) ?_
            · go_simp
              have hbA : Below V2.heap.size V2 (V2.alloc (.cells #[.int .i64 0, .int .i32 0, .slice none 0 0, .int .i64 0, .int .i64 0] 57)) := (Below.refl _ _).alloc (Nat.le_refl _) _
              have kV3a9 := heap_alloc_new V2 (.cells #[.int .i64 0, .int .i32 0, .slice none 0 0, .int .i64 0, .int .i64 0] 57)
              have mL8a9 : V2.heap.size ∉ blk A8 := fun hm => by have := lV2L8.lt _ hm; omega
              have mL9a9 : V2.heap.size ∉ blk A9 := fun hm => by have := lV2L9.lt _ hm; omega
              have lV3L8 := lV2L8.below hbA
              have lV3L9 := lV2L9.below hbA
              have ga9 := hV2.size
              have hV3 := hV2.trans (hbA.mono hV2.size)
              refine hK.out _ _ hV3 (fun _ => ?_)
              clear hK K hbA
              try simp only [Act.put, List.setIfInBounds_toArray, List.set_cons_zero, List.set_cons_succ]
              generalize V2.alloc (.cells #[.int .i64 0, .int .i32 0, .slice none 0 0, .int .i64 0, .int .i64 0] 57) = V3 at *
              generalize V2.heap.size = a9 at *
              refine wpAnyH_ready (rs := [9]) (by kernel_rfl) (by simp) ?_
              refine AllReadyH.cons rfl (fun K hK => ?_) ?_
              · go_simp
                have hbA : Below V3.heap.size V3 (V3.alloc (.cells #[.int .i64 0, .int .i32 0, .slice none 0 0, .int .i64 0, .int .i64 0] 57)) := (Below.refl _ _).alloc (Nat.le_refl _) _
                have kV4a10 := heap_alloc_new V3 (.cells #[.int .i64 0, .int .i32 0, .slice none 0 0, .int .i64 0, .int .i64 0] 57)
                have kV4a9 := (hbA.block _ (Array.getElem?_eq_some_iff.1 kV3a9).1).trans kV3a9
                have da10a9 : a9 ≠ V3.heap.size := by have := (Array.getElem?_eq_some_iff.1 kV3a9).1; omega
                have mL8a10 : V3.heap.size ∉ blk A8 := fun hm => by have := lV3L8.lt _ hm; omega
                have mL9a10 : V3.heap.size ∉ blk A9 := fun hm => by have := lV3L9.lt _ hm; omega
                have lV4L8 := lV3L8.below hbA
                have lV4L9 := lV3L9.below hbA
                have ga10 := hV3.size
                have hV4 := hV3.trans (hbA.mono hV3.size)
                refine hK.out _ _ hV4 (fun _ => ?_)
                clear hK K hbA
                try simp only [Act.put, List.setIfInBounds_toArray, List.set_cons_zero, List.set_cons_succ]
                generalize V3.alloc (.cells #[.int .i64 0, .int .i32 0, .slice none 0 0, .int .i64 0, .int .i64 0] 57) = V4 at *
                generalize V3.heap.size = a10 at *
                obtain ⟨r0, r1, r2, r3, r4⟩ := row5 kV4a9
                obtain ⟨x0, x1, x2, x3, x4⟩ := free5 kV4a9
                obtain ⟨X1, eX1, kX1, cX1⟩ := set5 kV4a9 (.int .i64 fB) (.int .i32 vB) (.slice A8 nB c8) (.int .i64 sB) (.int .i64 rB)
                have kY1 := (cX1.same a10 (Array.getElem?_eq_some_iff.1 kV4a10).1 (fun hm => da10a9 (List.mem_singleton.1 hm).symm)).trans kV4a10
                have hX1 := hV4.trans (cX1.toBelow (fun k hk => by rw [List.mem_singleton] at hk; rw [hk]; exact ga9) hV4.size)
                refine wpAnyH_ready (rs := [10]) (by kernel_rfl) (by simp) ?_
                refine AllReadyH.cons rfl (fun K hK => ?_) AllReadyH.nil
                go_simp
                try rw [eX1]
                refine hK.out _ _ hX1 (fun _ => ?_)
                clear hK K eX1 r0 r1 r2 r3 r4 x0 x1 x2 x3 x4
                try simp only [Act.put, List.setIfInBounds_toArray, List.set_cons_zero, List.set_cons_succ]
                obtain ⟨r0, r1, r2, r3, r4⟩ := row5 kY1
                obtain ⟨x0, x1, x2, x3, x4⟩ := free5 kY1
                obtain ⟨X2, eX2, kX2, cX2⟩ := set5 kY1 (.int .i64 fB) (.int .i32 vB) (.slice A9 nB c9) (.int .i64 sB) (.int .i64 rB)
                have kY2 := (cX2.same a9 (Array.getElem?_eq_some_iff.1 kX1).1 (fun hm => da10a9 (List.mem_singleton.1 hm))).trans kX1
                have hX2 := hX1.trans (cX2.toBelow (fun k hk => by rw [List.mem_singleton] at hk; rw [hk]; exact ga10) hX1.size)
                have l2L8 := (lV4L8.chg cX1 (fun k hk hm => mL8a9 (by rw [← List.mem_singleton.1 hm]; exact hk))).chg cX2 (fun k hk hm => mL8a10 (by rw [← List.mem_singleton.1 hm]; exact hk))
                have l2L9 := (lV4L9.chg cX1 (fun k hk hm => mL9a9 (by rw [← List.mem_singleton.1 hm]; exact hk))).chg cX2 (fun k hk hm => mL9a10 (by rw [← List.mem_singleton.1 hm]; exact hk))
                have FIN : RunsFin W6 X2 RB fB vB nB sB rB a9 a10 := ⟨hX2, A8, c8, A9, c9, kY2, l2L8, kX2, l2L9⟩
                refine wpAnyH_ready (rs := [11]) (by kernel_rfl) (by simp) ?_
                refine AllReadyH.cons rfl (fun K hK => ?_) AllReadyH.nil
                go_simp
                try rw [eX2]
                refine hK.out _ _ hX2 (fun _ => ?_)
                clear hK K eX2 r0 r1 r2 r3 r4 x0 x1 x2 x3 x4
                try simp only [Act.put, List.setIfInBounds_toArray, List.set_cons_zero, List.set_cons_succ]
                refine wpAnyH_done (by kernel_rfl) ?_ _
                go_wp2_with fail
                go_meet
                exact ⟨_, _, rfl, rfl, Lib.hid FIN⟩
              exact AllReadyH.nil
            refine AllReadyH.cons rfl (fun K hK => ?_) ?_
            · go_simp
              have hbA : Below V2.heap.size V2 (V2.alloc (.cells #[.int .i64 0, .int .i32 0, .slice none 0 0, .int .i64 0, .int .i64 0] 57)) := (Below.refl _ _).alloc (Nat.le_refl _) _
              have kV5a10 := heap_alloc_new V2 (.cells #[.int .i64 0, .int .i32 0, .slice none 0 0, .int .i64 0, .int .i64 0] 57)
              have mL8a10 : V2.heap.size ∉ blk A8 := fun hm => by have := lV2L8.lt _ hm; omega
              have mL9a10 : V2.heap.size ∉ blk A9 := fun hm => by have := lV2L9.lt _ hm; omega
              have lV5L8 := lV2L8.below hbA
              have lV5L9 := lV2L9.below hbA
              have ga10 := hV2.size
              have hV5 := hV2.trans (hbA.mono hV2.size)
              refine hK.out _ _ hV5 (fun _ => ?_)
              clear hK K hbA
              try simp only [Act.put, List.setIfInBounds_toArray, List.set_cons_zero, List.set_cons_succ]
              generalize V2.alloc (.cells #[.int .i64 0, .int .i32 0, .slice none 0 0, .int .i64 0, .int .i64 0] 57) = V5 at *
              generalize V2.heap.size = a10 at *
              refine wpAnyH_ready (rs := [8]) (by kernel_rfl) (by simp) ?_
              refine AllReadyH.cons rfl (fun K hK => ?_) ?_
              · go_simp
                have hbA : Below V5.heap.size V5 (V5.alloc (.cells #[.int .i64 0, .int .i32 0, .slice none 0 0, .int .i64 0, .int .i64 0] 57)) := (Below.refl _ _).alloc (Nat.le_refl _) _
                have kV6a9 := heap_alloc_new V5 (.cells #[.int .i64 0, .int .i32 0, .slice none 0 0, .int .i64 0, .int .i64 0] 57)
                have kV6a10 := (hbA.block _ (Array.getElem?_eq_some_iff.1 kV5a10).1).trans kV5a10
                have da9a10 : a10 ≠ V5.heap.size := by have := (Array.getElem?_eq_some_iff.1 kV5a10).1; omega
                have mL8a9 : V5.heap.size ∉ blk A8 := fun hm => by have := lV5L8.lt _ hm; omega
                have mL9a9 : V5.heap.size ∉ blk A9 := fun hm => by have := lV5L9.lt _ hm; omega
                have lV6L8 := lV5L8.below hbA
                have lV6L9 := lV5L9.below hbA
                have ga9 := hV5.size
                have hV6 := hV5.trans (hbA.mono hV5.size)
                refine hK.out _ _ hV6 (fun _ => ?_)
                clear hK K hbA
                try simp only [Act.put, List.setIfInBounds_toArray, List.set_cons_zero, List.set_cons_succ]
                generalize V5.alloc (.cells #[.int .i64 0, .int .i32 0, .slice none 0 0, .int .i64 0, .int .i64 0] 57) = V6 at *
                generalize V5.heap.size = a9 at *
                obtain ⟨r0, r1, r2, r3, r4⟩ := row5 kV6a9
                obtain ⟨x0, x1, x2, x3, x4⟩ := free5 kV6a9
                obtain ⟨X1, eX1, kX1, cX1⟩ := set5 kV6a9 (.int .i64 fB) (.int .i32 vB) (.slice A8 nB c8) (.int .i64 sB) (.int .i64 rB)
                have kY1 := (cX1.same a10 (Array.getElem?_eq_some_iff.1 kV6a10).1 (fun hm => da9a10.symm (List.mem_singleton.1 hm).symm)).trans kV6a10
                have hX1 := hV6.trans (cX1.toBelow (fun k hk => by rw [List.mem_singleton] at hk; rw [hk]; exact ga9) hV6.size)
                refine wpAnyH_ready (rs := [10]) (by kernel_rfl) (by simp) ?_
                refine AllReadyH.cons rfl (fun K hK => ?_) AllReadyH.nil
                go_simp
                try rw [eX1]
                refine hK.out _ _ hX1 (fun _ => ?_)
                clear hK K eX1 r0 r1 r2 r3 r4 x0 x1 x2 x3 x4
                try simp only [Act.put, List.setIfInBounds_toArray, List.set_cons_zero, List.set_cons_succ]
                obtain ⟨r0, r1, r2, r3, r4⟩ := row5 kY1
                obtain ⟨x0, x1, x2, x3, x4⟩ := free5 kY1
                obtain ⟨X2, eX2, kX2, cX2⟩ := set5 kY1 (.int .i64 fB) (.int .i32 vB) (.slice A9 nB c9) (.int .i64 sB) (.int .i64 rB)
                have kY2 := (cX2.same a9 (Array.getElem?_eq_some_iff.1 kX1).1 (fun hm => da9a10.symm (List.mem_singleton.1 hm))).trans kX1
                have hX2 := hX1.trans (cX2.toBelow (fun k hk => by rw [List.mem_singleton] at hk; rw [hk]; exact ga10) hX1.size)
                have l2L8 := (lV6L8.chg cX1 (fun k hk hm => mL8a9 (by rw [← List.mem_singleton.1 hm]; exact hk))).chg cX2 (fun k hk hm => mL8a10 (by rw [← List.mem_singleton.1 hm]; exact hk))
                have l2L9 := (lV6L9.chg cX1 (fun k hk hm => mL9a9 (by rw [← List.mem_singleton.1 hm]; exact hk))).chg cX2 (fun k hk hm => mL9a10 (by rw [← List.mem_singleton.1 hm]; exact hk))
                have FIN : RunsFin W6 X2 RB fB vB nB sB rB a9 a10 := ⟨hX2, A8, c8, A9, c9, kY2, l2L8, kX2, l2L9⟩
                refine wpAnyH_ready (rs := [11]) (by kernel_rfl) (by simp) ?_
                refine AllReadyH.cons rfl (fun K hK => ?_) AllReadyH.nil
                go_simp
                try rw [eX2]
                refine hK.out _ _ hX2 (fun _ => ?_)
                clear hK K eX2 r0 r1 r2 r3 r4 x0 x1 x2 x3 x4
                try simp only [Act.put, List.setIfInBounds_toArray, List.set_cons_zero, List.set_cons_succ]
                refine wpAnyH_done (by kernel_rfl) ?_ _
                go_wp2_with fail
                go_meet
                exact ⟨_, _, rfl, rfl, Lib.hid FIN⟩
              exact AllReadyH.nil
            exact AllReadyH.nil
          refine AllReadyH.cons rfl (fun K hK => ?_) ?_
          · go_simp
            have hbA : Below V1.heap.size V1 (V1.alloc (.cells #[.int .i64 0, .int .i32 0, .slice none 0 0, .int .i64 0, .int .i64 0] 57)) := (Below.refl _ _).alloc (Nat.le_refl _) _
            have kV7a9 := heap_alloc_new V1 (.cells #[.int .i64 0, .int .i32 0, .slice none 0 0, .int .i64 0, .int .i64 0] 57)
            have mL8a9 : V1.heap.size ∉ blk A8 := fun hm => by have := lV1L8.lt _ hm; omega
            have lV7L8 := lV1L8.below hbA
            have ga9 := hV1.size
            have hV7 := hV1.trans (hbA.mono hV1.size)
            refine hK.out _ _ hV7 (fun _ => ?_)
            clear hK K hbA
            try simp only [Act.put, List.setIfInBounds_toArray, List.set_cons_zero, List.set_cons_succ]
            generalize V1.alloc (.cells #[.int .i64 0, .int .i32 0, .slice none 0 0, .int .i64 0, .int .i64 0] 57) = V7 at *
            generalize V1.heap.size = a9 at *
            refine wpAnyH_ready (rs := [7, 9]) (by kernel_rfl) (by simp) ?_
            refine AllReadyH.cons rfl (fun K hK => ?_) ?_
            · go_simp
              have HCALL := Lib.hid (HD.out V7 hV7)
              go_at_call 20
              with_reducible refine HCALL.out.mono ?_
              rintro e V8 ⟨A9, c9, rfl, L9, hb, F9⟩
              have mL9a9 : a9 ∉ blk A9 := fun hm => by have := F9 _ hm; have := (Array.getElem?_eq_some_iff.1 kV7a9).1; omega
              have lV8L9 := L9
              have lV8L8 := lV7L8.below hb
              have hV8 := hV7.trans (hb.mono hV7.size)
              have kV8a9 := (hb.block _ (Array.getElem?_eq_some_iff.1 kV7a9).1).trans kV7a9
              try go_wp2_with fail
              refine hK.out _ _ hV8 (fun _ => ?_)
              clear hK K HCALL
              try simp only [Act.put, List.setIfInBounds_toArray, List.set_cons_zero, List.set_cons_succ]
              refine wpAnyH_ready (rs := [9]) (by kernel_rfl) (by simp) ?_
              refine AllReadyH.cons rfl (fun K hK => ?_) ?_
              · go_simp
                have hbA : Below V8.heap.size V8 (V8.alloc (.cells #[.int .i64 0, .int .i32 0, .slice none 0 0, .int .i64 0, .int .i64 0] 57)) := (Below.refl _ _).alloc (Nat.le_refl _) _
                have kV9a10 := heap_alloc_new V8 (.cells #[.int .i64 0, .int .i32 0, .slice none 0 0, .int .i64 0, .int .i64 0] 57)
                have kV9a9 := (hbA.block _ (Array.getElem?_eq_some_iff.1 kV8a9).1).trans kV8a9
                have da10a9 : a9 ≠ V8.heap.size := by have := (Array.getElem?_eq_some_iff.1 kV8a9).1; omega
                have mL8a10 : V8.heap.size ∉ blk A8 := fun hm => by have := lV8L8.lt _ hm; omega
                have mL9a10 : V8.heap.size ∉ blk A9 := fun hm => by have := lV8L9.lt _ hm; omega
                have lV9L8 := lV8L8.below hbA
                have lV9L9 := lV8L9.below hbA
                have ga10 := hV8.size
                have hV9 := hV8.trans (hbA.mono hV8.size)
                refine hK.out _ _ hV9 (fun _ => ?_)
                clear hK K hbA
                try simp only [Act.put, List.setIfInBounds_toArray, List.set_cons_zero, List.set_cons_succ]
                generalize V8.alloc (.cells #[.int .i64 0, .int .i32 0, .slice none 0 0, .int .i64 0, .int .i64 0] 57) = V9 at *
                generalize V8.heap.size = a10 at *
                obtain ⟨r0, r1, r2, r3, r4⟩ := row5 kV9a9
                obtain ⟨x0, x1, x2, x3, x4⟩ := free5 kV9a9
                obtain ⟨X1, eX1, kX1, cX1⟩ := set5 kV9a9 (.int .i64 fB) (.int .i32 vB) (.slice A8 nB c8) (.int .i64 sB) (.int .i64 rB)
                have kY1 := (cX1.same a10 (Array.getElem?_eq_some_iff.1 kV9a10).1 (fun hm => da10a9 (List.mem_singleton.1 hm).symm)).trans kV9a10
                have hX1 := hV9.trans (cX1.toBelow (fun k hk => by rw [List.mem_singleton] at hk; rw [hk]; exact ga9) hV9.size)
                refine wpAnyH_ready (rs := [10]) (by kernel_rfl) (by simp) ?_
                refine AllReadyH.cons rfl (fun K hK => ?_) AllReadyH.nil
                go_simp
                try rw [eX1]
                refine hK.out _ _ hX1 (fun _ => ?_)
                clear hK K eX1 r0 r1 r2 r3 r4 x0 x1 x2 x3 x4
                try simp only [Act.put, List.setIfInBounds_toArray, List.set_cons_zero, List.set_cons_succ]
                obtain ⟨r0, r1, r2, r3, r4⟩ := row5 kY1
                obtain ⟨x0, x1, x2, x3, x4⟩ := free5 kY1
                obtain ⟨X2, eX2, kX2, cX2⟩ := set5 kY1 (.int .i64 fB) (.int .i32 vB) (.slice A9 nB c9) (.int .i64 sB) (.int .i64 rB)
                have kY2 := (cX2.same a9 (Array.getElem?_eq_some_iff.1 kX1).1 (fun hm => da10a9 (List.mem_singleton.1 hm))).trans kX1
                have hX2 := hX1.trans (cX2.toBelow (fun k hk => by rw [List.mem_singleton] at hk; rw [hk]; exact ga10) hX1.size)
                have l2L8 := (lV9L8.chg cX1 (fun k hk hm => mL8a9 (by rw [← List.mem_singleton.1 hm]; exact hk))).chg cX2 (fun k hk hm => mL8a10 (by rw [← List.mem_singleton.1 hm]; exact hk))
                have l2L9 := (lV9L9.chg cX1 (fun k hk hm => mL9a9 (by rw [← List.mem_singleton.1 hm]; exact hk))).chg cX2 (fun k hk hm => mL9a10 (by rw [← List.mem_singleton.1 hm]; exact hk))
                have FIN : RunsFin W6 X2 RB fB vB nB sB rB a9 a10 := ⟨hX2, A8, c8, A9, c9, kY2, l2L8, kX2, l2L9⟩
                refine wpAnyH_ready (rs := [11]) (by kernel_rfl) (by simp) ?_
                refine AllReadyH.cons rfl (fun K hK => ?_) AllReadyH.nil
                go_simp
                try rw [eX2]
                refine hK.out _ _ hX2 (fun _ => ?_)
                clear hK K eX2 r0 r1 r2 r3 r4 x0 x1 x2 x3 x4
                try simp only [Act.put, List.setIfInBounds_toArray, List.set_cons_zero, List.set_cons_succ]
                refine wpAnyH_done (by kernel_rfl) ?_ _
                go_wp2_with fail
                go_meet
                exact ⟨_, _, rfl, rfl, Lib.hid FIN⟩
              exact AllReadyH.nil
            refine AllReadyH.cons rfl (fun K hK => ?_) ?_
            · go_simp
              have hbA : Below V7.heap.size V7 (V7.alloc (.cells #[.int .i64 0, .int .i32 0, .slice none 0 0, .int .i64 0, .int .i64 0] 57)) := (Below.refl _ _).alloc (Nat.le_refl _) _
              have kV10a10 := heap_alloc_new V7 (.cells #[.int .i64 0, .int .i32 0, .slice none 0 0, .int .i64 0, .int .i64 0] 57)
              have kV10a9 := (hbA.block _ (Array.getElem?_eq_some_iff.1 kV7a9).1).trans kV7a9
              have da10a9 : a9 ≠ V7.heap.size := by have := (Array.getElem?_eq_some_iff.1 kV7a9).1; omega
              have mL8a10 : V7.heap.size ∉ blk A8 := fun hm => by have := lV7L8.lt _ hm; omega
              have lV10L8 := lV7L8.below hbA
              have ga10 := hV7.size
              have hV10 := hV7.trans (hbA.mono hV7.size)
              refine hK.out _ _ hV10 (fun _ => ?_)
              clear hK K hbA
              try simp only [Act.put, List.setIfInBounds_toArray, List.set_cons_zero, List.set_cons_succ]
              generalize V7.alloc (.cells #[.int .i64 0, .int .i32 0, .slice none 0 0, .int .i64 0, .int .i64 0] 57) = V10 at *
              generalize V7.heap.size = a10 at *
              refine wpAnyH_ready (rs := [7]) (by kernel_rfl) (by simp) ?_
              refine AllReadyH.cons rfl (fun K hK => ?_) ?_
              · go_simp
                have HCALL := Lib.hid (HD.out V10 hV10)
                go_at_call 20
                with_reducible refine HCALL.out.mono ?_
                rintro e V11 ⟨A9, c9, rfl, L9, hb, F9⟩
                have mL9a9 : a9 ∉ blk A9 := fun hm => by have := F9 _ hm; have := (Array.getElem?_eq_some_iff.1 kV10a9).1; omega
                have mL9a10 : a10 ∉ blk A9 := fun hm => by have := F9 _ hm; have := (Array.getElem?_eq_some_iff.1 kV10a10).1; omega
                have lV11L9 := L9
                have lV11L8 := lV10L8.below hb
                have hV11 := hV10.trans (hb.mono hV10.size)
                have kV11a9 := (hb.block _ (Array.getElem?_eq_some_iff.1 kV10a9).1).trans kV10a9
                have kV11a10 := (hb.block _ (Array.getElem?_eq_some_iff.1 kV10a10).1).trans kV10a10
                try go_wp2_with fail
                refine hK.out _ _ hV11 (fun _ => ?_)
                clear hK K HCALL
                try simp only [Act.put, List.setIfInBounds_toArray, List.set_cons_zero, List.set_cons_succ]
                obtain ⟨r0, r1, r2, r3, r4⟩ := row5 kV11a9
                obtain ⟨x0, x1, x2, x3, x4⟩ := free5 kV11a9
                obtain ⟨X1, eX1, kX1, cX1⟩ := set5 kV11a9 (.int .i64 fB) (.int .i32 vB) (.slice A8 nB c8) (.int .i64 sB) (.int .i64 rB)
                have kY1 := (cX1.same a10 (Array.getElem?_eq_some_iff.1 kV11a10).1 (fun hm => da10a9 (List.mem_singleton.1 hm).symm)).trans kV11a10
                have hX1 := hV11.trans (cX1.toBelow (fun k hk => by rw [List.mem_singleton] at hk; rw [hk]; exact ga9) hV11.size)
                refine wpAnyH_ready (rs := [10]) (by kernel_rfl) (by simp) ?_
                refine AllReadyH.cons rfl (fun K hK => ?_) AllReadyH.nil
                go_simp
                try rw [eX1]
                refine hK.out _ _ hX1 (fun _ => ?_)
                clear hK K eX1 r0 r1 r2 r3 r4 x0 x1 x2 x3 x4
                try simp only [Act.put, List.setIfInBounds_toArray, List.set_cons_zero, List.set_cons_succ]
                obtain ⟨r0, r1, r2, r3, r4⟩ := row5 kY1
                obtain ⟨x0, x1, x2, x3, x4⟩ := free5 kY1
                obtain ⟨X2, eX2, kX2, cX2⟩ := set5 kY1 (.int .i64 fB) (.int .i32 vB) (.slice A9 nB c9) (.int .i64 sB) (.int .i64 rB)
                have kY2 := (cX2.same a9 (Array.getElem?_eq_some_iff.1 kX1).1 (fun hm => da10a9 (List.mem_singleton.1 hm))).trans kX1
                have hX2 := hX1.trans (cX2.toBelow (fun k hk => by rw [List.mem_singleton] at hk; rw [hk]; exact ga10) hX1.size)
                have l2L8 := (lV11L8.chg cX1 (fun k hk hm => mL8a9 (by rw [← List.mem_singleton.1 hm]; exact hk))).chg cX2 (fun k hk hm => mL8a10 (by rw [← List.mem_singleton.1 hm]; exact hk))
                have l2L9 := (lV11L9.chg cX1 (fun k hk hm => mL9a9 (by rw [← List.mem_singleton.1 hm]; exact hk))).chg cX2 (fun k hk hm => mL9a10 (by rw [← List.mem_singleton.1 hm]; exact hk))
                have FIN : RunsFin W6 X2 RB fB vB nB sB rB a9 a10 := ⟨hX2, A8, c8, A9, c9, kY2, l2L8, kX2, l2L9⟩
                refine wpAnyH_ready (rs := [11]) (by kernel_rfl) (by simp) ?_
                refine AllReadyH.cons rfl (fun K hK => ?_) AllReadyH.nil
                go_simp
                try rw [eX2]
                refine hK.out _ _ hX2 (fun _ => ?_)
                clear hK K eX2 r0 r1 r2 r3 r4 x0 x1 x2 x3 x4
                try simp only [Act.put, List.setIfInBounds_toArray, List.set_cons_zero, List.set_cons_succ]
                refine wpAnyH_done (by kernel_rfl) ?_ _
                go_wp2_with fail
                go_meet
                exact ⟨_, _, rfl, rfl, Lib.hid FIN⟩
              exact AllReadyH.nil
            exact AllReadyH.nil
          refine AllReadyH.cons rfl (fun K hK => ?_) ?_
          · go_simp
            have hbA : Below V1.heap.size V1 (V1.alloc (.cells #[.int .i64 0, .int .i32 0, .slice none 0 0, .int .i64 0, .int .i64 0] 57)) := (Below.refl _ _).alloc (Nat.le_refl _) _
            have kV12a10 := heap_alloc_new V1 (.cells #[.int .i64 0, .int .i32 0, .slice none 0 0, .int .i64 0, .int .i64 0] 57)
            have mL8a10 : V1.heap.size ∉ blk A8 := fun hm => by have := lV1L8.lt _ hm; omega
            have lV12L8 := lV1L8.below hbA
            have ga10 := hV1.size
            have hV12 := hV1.trans (hbA.mono hV1.size)
            refine hK.out _ _ hV12 (fun _ => ?_)
            clear hK K hbA
            try simp only [Act.put, List.setIfInBounds_toArray, List.set_cons_zero, List.set_cons_succ]
            generalize V1.alloc (.cells #[.int .i64 0, .int .i32 0, .slice none 0 0, .int .i64 0, .int .i64 0] 57) = V12 at *
            generalize V1.heap.size = a10 at *
            refine wpAnyH_ready (rs := [7, 8]) (by kernel_rfl) (by simp) ?_
            refine AllReadyH.cons rfl (fun K hK => ?_) ?_
            · go_simp
              have HCALL := Lib.hid (HD.out V12 hV12)
              go_at_call 20
              with_reducible refine HCALL.out.mono ?_
              rintro e V13 ⟨A9, c9, rfl, L9, hb, F9⟩
              have mL9a10 : a10 ∉ blk A9 := fun hm => by have := F9 _ hm; have := (Array.getElem?_eq_some_iff.1 kV12a10).1; omega
              have lV13L9 := L9
              have lV13L8 := lV12L8.below hb
              have hV13 := hV12.trans (hb.mono hV12.size)
              have kV13a10 := (hb.block _ (Array.getElem?_eq_some_iff.1 kV12a10).1).trans kV12a10
              try go_wp2_with fail
              refine hK.out _ _ hV13 (fun _ => ?_)
              clear hK K HCALL
              try simp only [Act.put, List.setIfInBounds_toArray, List.set_cons_zero, List.set_cons_succ]
              refine wpAnyH_ready (rs := [8]) (by kernel_rfl) (by simp) ?_
              refine AllReadyH.cons rfl (fun K hK => ?_) ?_
              · go_simp
                have hbA : Below V13.heap.size V13 (V13.alloc (.cells #[.int .i64 0, .int .i32 0, .slice none 0 0, .int .i64 0, .int .i64 0] 57)) := (Below.refl _ _).alloc (Nat.le_refl _) _
                have kV14a9 := heap_alloc_new V13 (.cells #[.int .i64 0, .int .i32 0, .slice none 0 0, .int .i64 0, .int .i64 0] 57)
                have kV14a10 := (hbA.block _ (Array.getElem?_eq_some_iff.1 kV13a10).1).trans kV13a10
                have da9a10 : a10 ≠ V13.heap.size := by have := (Array.getElem?_eq_some_iff.1 kV13a10).1; omega
                have mL8a9 : V13.heap.size ∉ blk A8 := fun hm => by have := lV13L8.lt _ hm; omega
                have mL9a9 : V13.heap.size ∉ blk A9 := fun hm => by have := lV13L9.lt _ hm; omega
                have lV14L8 := lV13L8.below hbA
                have lV14L9 := lV13L9.below hbA
                have ga9 := hV13.size
                have hV14 := hV13.trans (hbA.mono hV13.size)
                refine hK.out _ _ hV14 (fun _ => ?_)
                clear hK K hbA
                try simp only [Act.put, List.setIfInBounds_toArray, List.set_cons_zero, List.set_cons_succ]
                generalize V13.alloc (.cells #[.int .i64 0, .int .i32 0, .slice none 0 0, .int .i64 0, .int .i64 0] 57) = V14 at *
                generalize V13.heap.size = a9 at *
                obtain ⟨r0, r1, r2, r3, r4⟩ := row5 kV14a9
                obtain ⟨x0, x1, x2, x3, x4⟩ := free5 kV14a9
                obtain ⟨X1, eX1, kX1, cX1⟩ := set5 kV14a9 (.int .i64 fB) (.int .i32 vB) (.slice A8 nB c8) (.int .i64 sB) (.int .i64 rB)
                have kY1 := (cX1.same a10 (Array.getElem?_eq_some_iff.1 kV14a10).1 (fun hm => da9a10.symm (List.mem_singleton.1 hm).symm)).trans kV14a10
                have hX1 := hV14.trans (cX1.toBelow (fun k hk => by rw [List.mem_singleton] at hk; rw [hk]; exact ga9) hV14.size)
                refine wpAnyH_ready (rs := [10]) (by kernel_rfl) (by simp) ?_
                refine AllReadyH.cons rfl (fun K hK => ?_) AllReadyH.nil
                go_simp
                try rw [eX1]
                refine hK.out _ _ hX1 (fun _ => ?_)
                clear hK K eX1 r0 r1 r2 r3 r4 x0 x1 x2 x3 x4
                try simp only [Act.put, List.setIfInBounds_toArray, List.set_cons_zero, List.set_cons_succ]
                obtain ⟨r0, r1, r2, r3, r4⟩ := row5 kY1
                obtain ⟨x0, x1, x2, x3, x4⟩ := free5 kY1
                obtain ⟨X2, eX2, kX2, cX2⟩ := set5 kY1 (.int .i64 fB) (.int .i32 vB) (.slice A9 nB c9) (.int .i64 sB) (.int .i64 rB)
                have kY2 := (cX2.same a9 (Array.getElem?_eq_some_iff.1 kX1).1 (fun hm => da9a10.symm (List.mem_singleton.1 hm))).trans kX1
                have hX2 := hX1.trans (cX2.toBelow (fun k hk => by rw [List.mem_singleton] at hk; rw [hk]; exact ga10) hX1.size)
                have l2L8 := (lV14L8.chg cX1 (fun k hk hm => mL8a9 (by rw [← List.mem_singleton.1 hm]; exact hk))).chg cX2 (fun k hk hm => mL8a10 (by rw [← List.mem_singleton.1 hm]; exact hk))
                have l2L9 := (lV14L9.chg cX1 (fun k hk hm => mL9a9 (by rw [← List.mem_singleton.1 hm]; exact hk))).chg cX2 (fun k hk hm => mL9a10 (by rw [← List.mem_singleton.1 hm]; exact hk))
                have FIN : RunsFin W6 X2 RB fB vB nB sB rB a9 a10 := ⟨hX2, A8, c8, A9, c9, kY2, l2L8, kX2, l2L9⟩
                refine wpAnyH_ready (rs := [11]) (by kernel_rfl) (by simp) ?_
                refine AllReadyH.cons rfl (fun K hK => ?_) AllReadyH.nil
                go_simp
                try rw [eX2]
                refine hK.out _ _ hX2 (fun _ => ?_)
                clear hK K eX2 r0 r1 r2 r3 r4 x0 x1 x2 x3 x4
                try simp only [Act.put, List.setIfInBounds_toArray, List.set_cons_zero, List.set_cons_succ]
                refine wpAnyH_done (by kernel_rfl) ?_ _
                go_wp2_with fail
                go_meet
                exact ⟨_, _, rfl, rfl, Lib.hid FIN⟩
              exact AllReadyH.nil
            refine AllReadyH.cons rfl (fun K hK => ?_) ?_
            · go_simp
              have hbA : Below V12.heap.size V12 (V12.alloc (.cells #[.int .i64 0, .int .i32 0, .slice none 0 0, .int .i64 0, .int .i64 0] 57)) := (Below.refl _ _).alloc (Nat.le_refl _) _
              have kV15a9 := heap_alloc_new V12 (.cells #[.int .i64 0, .int .i32 0, .slice none 0 0, .int .i64 0, .int .i64 0] 57)
              have kV15a10 := (hbA.block _ (Array.getElem?_eq_some_iff.1 kV12a10).1).trans kV12a10
              have da9a10 : a10 ≠ V12.heap.size := by have := (Array.getElem?_eq_some_iff.1 kV12a10).1; omega
              have mL8a9 : V12.heap.size ∉ blk A8 := fun hm => by have := lV12L8.lt _ hm; omega
              have lV15L8 := lV12L8.below hbA
              have ga9 := hV12.size
              have hV15 := hV12.trans (hbA.mono hV12.size)
              refine hK.out _ _ hV15 (fun _ => ?_)
              clear hK K hbA
              try simp only [Act.put, List.setIfInBounds_toArray, List.set_cons_zero, List.set_cons_succ]
              generalize V12.alloc (.cells #[.int .i64 0, .int .i32 0, .slice none 0 0, .int .i64 0, .int .i64 0] 57) = V15 at *
              generalize V12.heap.size = a9 at *
              refine wpAnyH_ready (rs := [7]) (by kernel_rfl) (by simp) ?_
              refine AllReadyH.cons rfl (fun K hK => ?_) ?_
              · go_simp
                have HCALL := Lib.hid (HD.out V15 hV15)
                go_at_call 20
                with_reducible refine HCALL.out.mono ?_
                rintro e V16 ⟨A9, c9, rfl, L9, hb, F9⟩
                have mL9a10 : a10 ∉ blk A9 := fun hm => by have := F9 _ hm; have := (Array.getElem?_eq_some_iff.1 kV15a10).1; omega
                have mL9a9 : a9 ∉ blk A9 := fun hm => by have := F9 _ hm; have := (Array.getElem?_eq_some_iff.1 kV15a9).1; omega
                have lV16L9 := L9
                have lV16L8 := lV15L8.below hb
                have hV16 := hV15.trans (hb.mono hV15.size)
                have kV16a10 := (hb.block _ (Array.getElem?_eq_some_iff.1 kV15a10).1).trans kV15a10
                have kV16a9 := (hb.block _ (Array.getElem?_eq_some_iff.1 kV15a9).1).trans kV15a9
                try go_wp2_with fail
                refine hK.out _ _ hV16 (fun _ => ?_)
                clear hK K HCALL
                try simp only [Act.put, List.setIfInBounds_toArray, List.set_cons_zero, List.set_cons_succ]
                obtain ⟨r0, r1, r2, r3, r4⟩ := row5 kV16a9
                obtain ⟨x0, x1, x2, x3, x4⟩ := free5 kV16a9
                obtain ⟨X1, eX1, kX1, cX1⟩ := set5 kV16a9 (.int .i64 fB) (.int .i32 vB) (.slice A8 nB c8) (.int .i64 sB) (.int .i64 rB)
                have kY1 := (cX1.same a10 (Array.getElem?_eq_some_iff.1 kV16a10).1 (fun hm => da9a10.symm (List.mem_singleton.1 hm).symm)).trans kV16a10
                have hX1 := hV16.trans (cX1.toBelow (fun k hk => by rw [List.mem_singleton] at hk; rw [hk]; exact ga9) hV16.size)
                refine wpAnyH_ready (rs := [10]) (by kernel_rfl) (by simp) ?_
                refine AllReadyH.cons rfl (fun K hK => ?_) AllReadyH.nil
                go_simp
                try rw [eX1]
                refine hK.out _ _ hX1 (fun _ => ?_)
                clear hK K eX1 r0 r1 r2 r3 r4 x0 x1 x2 x3 x4
                try simp only [Act.put, List.setIfInBounds_toArray, List.set_cons_zero, List.set_cons_succ]
                obtain ⟨r0, r1, r2, r3, r4⟩ := row5 kY1
                obtain ⟨x0, x1, x2, x3, x4⟩ := free5 kY1
                obtain ⟨X2, eX2, kX2, cX2⟩ := set5 kY1 (.int .i64 fB) (.int .i32 vB) (.slice A9 nB c9) (.int .i64 sB) (.int .i64 rB)
                have kY2 := (cX2.same a9 (Array.getElem?_eq_some_iff.1 kX1).1 (fun hm => da9a10.symm (List.mem_singleton.1 hm))).trans kX1
                have hX2 := hX1.trans (cX2.toBelow (fun k hk => by rw [List.mem_singleton] at hk; rw [hk]; exact ga10) hX1.size)
                have l2L8 := (lV16L8.chg cX1 (fun k hk hm => mL8a9 (by rw [← List.mem_singleton.1 hm]; exact hk))).chg cX2 (fun k hk hm => mL8a10 (by rw [← List.mem_singleton.1 hm]; exact hk))
                have l2L9 := (lV16L9.chg cX1 (fun k hk hm => mL9a9 (by rw [← List.mem_singleton.1 hm]; exact hk))).chg cX2 (fun k hk hm => mL9a10 (by rw [← List.mem_singleton.1 hm]; exact hk))
                have FIN : RunsFin W6 X2 RB fB vB nB sB rB a9 a10 := ⟨hX2, A8, c8, A9, c9, kY2, l2L8, kX2, l2L9⟩
                refine wpAnyH_ready (rs := [11]) (by kernel_rfl) (by simp) ?_
                refine AllReadyH.cons rfl (fun K hK => ?_) AllReadyH.nil
                go_simp
                try rw [eX2]
                refine hK.out _ _ hX2 (fun _ => ?_)
                clear hK K eX2 r0 r1 r2 r3 r4 x0 x1 x2 x3 x4
                try simp only [Act.put, List.setIfInBounds_toArray, List.set_cons_zero, List.set_cons_succ]
                refine wpAnyH_done (by kernel_rfl) ?_ _
                go_wp2_with fail
                go_meet
                exact ⟨_, _, rfl, rfl, Lib.hid FIN⟩
              exact AllReadyH.nil
            exact AllReadyH.nil
          exact AllReadyH.nil
        refine AllReadyH.cons rfl (fun K hK => ?_) ?_
        · go_simp
          have hbA : Below V0.heap.size V0 (V0.alloc (.cells #[.int .i64 0, .int .i32 0, .slice none 0 0, .int .i64 0, .int .i64 0] 57)) := (Below.refl _ _).alloc (Nat.le_refl _) _
          have kV17a9 := heap_alloc_new V0 (.cells #[.int .i64 0, .int .i32 0, .slice none 0 0, .int .i64 0, .int .i64 0] 57)
          have ga9 := hV0.size
          have hV17 := hV0.trans (hbA.mono hV0.size)
          refine hK.out _ _ hV17 (fun _ => ?_)
          clear hK K hbA
          try simp only [Act.put, List.setIfInBounds_toArray, List.set_cons_zero, List.set_cons_succ]
          generalize V0.alloc (.cells #[.int .i64 0, .int .i32 0, .slice none 0 0, .int .i64 0, .int .i64 0] 57) = V17 at *
          generalize V0.heap.size = a9 at *
          refine wpAnyH_ready (rs := [3, 9]) (by kernel_rfl) (by simp) ?_
          refine AllReadyH.cons rfl (fun K hK => ?_) ?_
          · go_simp
            have HCALL := Lib.hid (HC.out V17 hV17)
            go_at_call 19
            with_reducible refine HCALL.out.mono ?_
            rintro e V18 ⟨A8, c8, rfl, L8, hb, F8⟩
            have mL8a9 : a9 ∉ blk A8 := fun hm => by have := F8 _ hm; have := (Array.getElem?_eq_some_iff.1 kV17a9).1; omega
            have lV18L8 := L8
            have hV18 := hV17.trans (hb.mono hV17.size)
            have kV18a9 := (hb.block _ (Array.getElem?_eq_some_iff.1 kV17a9).1).trans kV17a9
            try go_wp2_with fail
            refine hK.out _ _ hV18 (fun _ => ?_)
            clear hK K HCALL
            try simp only [Act.put, List.setIfInBounds_toArray, List.set_cons_zero, List.set_cons_succ]
            refine wpAnyH_ready (rs := [7, 9]) (by kernel_rfl) (by simp) ?_
            refine AllReadyH.cons rfl (fun K hK => ?_) ?_
            · go_simp
              have HCALL := Lib.hid (HD.out V18 hV18)
              go_at_call 20
              with_reducible refine HCALL.out.mono ?_
              rintro e V19 ⟨A9, c9, rfl, L9, hb, F9⟩
              have mL9a9 : a9 ∉ blk A9 := fun hm => by have := F9 _ hm; have := (Array.getElem?_eq_some_iff.1 kV18a9).1; omega
              have lV19L9 := L9
              have lV19L8 := lV18L8.below hb
              have hV19 := hV18.trans (hb.mono hV18.size)
              have kV19a9 := (hb.block _ (Array.getElem?_eq_some_iff.1 kV18a9).1).trans kV18a9
              try go_wp2_with fail
              refine hK.out _ _ hV19 (fun _ => ?_)
              clear hK K HCALL
              try simp only [Act.put, List.setIfInBounds_toArray, List.set_cons_zero, List.set_cons_succ]
              refine wpAnyH_ready (rs := [9]) (by kernel_rfl) (by simp) ?_
              refine AllReadyH.cons rfl (fun K hK => ?_) ?_
              · go_simp
                have hbA : Below V19.heap.size V19 (V19.alloc (.cells #[.int .i64 0, .int .i32 0, .slice none 0 0, .int .i64 0, .int .i64 0] 57)) := (Below.refl _ _).alloc (Nat.le_refl _) _
                have kV20a10 := heap_alloc_new V19 (.cells #[.int .i64 0, .int .i32 0, .slice none 0 0, .int .i64 0, .int .i64 0] 57)
                have kV20a9 := (hbA.block _ (Array.getElem?_eq_some_iff.1 kV19a9).1).trans kV19a9
                have da10a9 : a9 ≠ V19.heap.size := by have := (Array.getElem?_eq_some_iff.1 kV19a9).1; omega
                have mL8a10 : V19.heap.size ∉ blk A8 := fun hm => by have := lV19L8.lt _ hm; omega
                have mL9a10 : V19.heap.size ∉ blk A9 := fun hm => by have := lV19L9.lt _ hm; omega
                have lV20L8 := lV19L8.below hbA
                have lV20L9 := lV19L9.below hbA
                have ga10 := hV19.size
                have hV20 := hV19.trans (hbA.mono hV19.size)
                refine hK.out _ _ hV20 (fun _ => ?_)
                clear hK K hbA
                try simp only [Act.put, List.setIfInBounds_toArray, List.set_cons_zero, List.set_cons_succ]
                generalize V19.alloc (.cells #[.int .i64 0, .int .i32 0, .slice none 0 0, .int .i64 0, .int .i64 0] 57) = V20 at *
                generalize V19.heap.size = a10 at *
                obtain ⟨r0, r1, r2, r3, r4⟩ := row5 kV20a9
                obtain ⟨x0, x1, x2, x3, x4⟩ := free5 kV20a9
                obtain ⟨X1, eX1, kX1, cX1⟩ := set5 kV20a9 (.int .i64 fB) (.int .i32 vB) (.slice A8 nB c8) (.int .i64 sB) (.int .i64 rB)
                have kY1 := (cX1.same a10 (Array.getElem?_eq_some_iff.1 kV20a10).1 (fun hm => da10a9 (List.mem_singleton.1 hm).symm)).trans kV20a10
                have hX1 := hV20.trans (cX1.toBelow (fun k hk => by rw [List.mem_singleton] at hk; rw [hk]; exact ga9) hV20.size)
                refine wpAnyH_ready (rs := [10]) (by kernel_rfl) (by simp) ?_
                refine AllReadyH.cons rfl (fun K hK => ?_) AllReadyH.nil
                go_simp
                try rw [eX1]
                refine hK.out _ _ hX1 (fun _ => ?_)
                clear hK K eX1 r0 r1 r2 r3 r4 x0 x1 x2 x3 x4
                try simp only [Act.put, List.setIfInBounds_toArray, List.set_cons_zero, List.set_cons_succ]
                obtain ⟨r0, r1, r2, r3, r4⟩ := row5 kY1
                obtain ⟨x0, x1, x2, x3, x4⟩ := free5 kY1
                obtain ⟨X2, eX2, kX2, cX2⟩ := set5 kY1 (.int .i64 fB) (.int .i32 vB) (.slice A9 nB c9) (.int .i64 sB) (.int .i64 rB)
                have kY2 := (cX2.same a9 (Array.getElem?_eq_some_iff.1 kX1).1 (fun hm => da10a9 (List.mem_singleton.1 hm))).trans kX1
                have hX2 := hX1.trans (cX2.toBelow (fun k hk => by rw [List.mem_singleton] at hk; rw [hk]; exact ga10) hX1.size)
                have l2L8 := (lV20L8.chg cX1 (fun k hk hm => mL8a9 (by rw [← List.mem_singleton.1 hm]; exact hk))).chg cX2 (fun k hk hm => mL8a10 (by rw [← List.mem_singleton.1 hm]; exact hk))
                have l2L9 := (lV20L9.chg cX1 (fun k hk hm => mL9a9 (by rw [← List.mem_singleton.1 hm]; exact hk))).chg cX2 (fun k hk hm => mL9a10 (by rw [← List.mem_singleton.1 hm]; exact hk))
                have FIN : RunsFin W6 X2 RB fB vB nB sB rB a9 a10 := ⟨hX2, A8, c8, A9, c9, kY2, l2L8, kX2, l2L9⟩
                refine wpAnyH_ready (rs := [11]) (by kernel_rfl) (by simp) ?_
                refine AllReadyH.cons rfl (fun K hK => ?_) AllReadyH.nil
                go_simp
                try rw [eX2]
                refine hK.out _ _ hX2 (fun _ => ?_)
                clear hK K eX2 r0 r1 r2 r3 r4 x0 x1 x2 x3 x4
                try simp only [Act.put, List.setIfInBounds_toArray, List.set_cons_zero, List.set_cons_succ]
                refine wpAnyH_done (by kernel_rfl) ?_ _
                go_wp2_with fail
                go_meet
                exact ⟨_, _, rfl, rfl, Lib.hid FIN⟩
              exact AllReadyH.nil
            refine AllReadyH.cons rfl (fun K hK => ?_) ?_
            · go_simp
              have hbA : Below V18.heap.size V18 (V18.alloc (.cells #[.int .i64 0, .int .i32 0, .slice none 0 0, .int .i64 0, .int .i64 0] 57)) := (Below.refl _ _).alloc (Nat.le_refl _) _
              have kV21a10 := heap_alloc_new V18 (.cells #[.int .i64 0, .int .i32 0, .slice none 0 0, .int .i64 0, .int .i64 0] 57)
              have kV21a9 := (hbA.block _ (Array.getElem?_eq_some_iff.1 kV18a9).1).trans kV18a9
              have da10a9 : a9 ≠ V18.heap.size := by have := (Array.getElem?_eq_some_iff.1 kV18a9).1; omega
              have mL8a10 : V18.heap.size ∉ blk A8 := fun hm => by have := lV18L8.lt _ hm; omega
              have lV21L8 := lV18L8.below hbA
              have ga10 := hV18.size
              have hV21 := hV18.trans (hbA.mono hV18.size)
              refine hK.out _ _ hV21 (fun _ => ?_)
              clear hK K hbA
              try simp only [Act.put, List.setIfInBounds_toArray, List.set_cons_zero, List.set_cons_succ]
              generalize V18.alloc (.cells #[.int .i64 0, .int .i32 0, .slice none 0 0, .int .i64 0, .int .i64 0] 57) = V21 at *
              generalize V18.heap.size = a10 at *
              refine wpAnyH_ready (rs := [7]) (by kernel_rfl) (by simp) ?_
              refine AllReadyH.cons rfl (fun K hK => ?_) ?_
              · go_simp
                have HCALL := Lib.hid (HD.out V21 hV21)
                go_at_call 20
                with_reducible refine HCALL.out.mono ?_
                rintro e V22 ⟨A9, c9, rfl, L9, hb, F9⟩
                have mL9a9 : a9 ∉ blk A9 := fun hm => by have := F9 _ hm; have := (Array.getElem?_eq_some_iff.1 kV21a9).1; omega
                have mL9a10 : a10 ∉ blk A9 := fun hm => by have := F9 _ hm; have := (Array.getElem?_eq_some_iff.1 kV21a10).1; omega
                have lV22L9 := L9
                have lV22L8 := lV21L8.below hb
                have hV22 := hV21.trans (hb.mono hV21.size)
                have kV22a9 := (hb.block _ (Array.getElem?_eq_some_iff.1 kV21a9).1).trans kV21a9
                have kV22a10 := (hb.block _ (Array.getElem?_eq_some_iff.1 kV21a10).1).trans kV21a10
                try go_wp2_with fail
                refine hK.out _ _ hV22 (fun _ => ?_)
                clear hK K HCALL
                try simp only [Act.put, List.setIfInBounds_toArray, List.set_cons_zero, List.set_cons_succ]
                obtain ⟨r0, r1, r2, r3, r4⟩ := row5 kV22a9
                obtain ⟨x0, x1, x2, x3, x4⟩ := free5 kV22a9
                obtain ⟨X1, eX1, kX1, cX1⟩ := set5 kV22a9 (.int .i64 fB) (.int .i32 vB) (.slice A8 nB c8) (.int .i64 sB) (.int .i64 rB)
                have kY1 := (cX1.same a10 (Array.getElem?_eq_some_iff.1 kV22a10).1 (fun hm => da10a9 (List.mem_singleton.1 hm).symm)).trans kV22a10
                have hX1 := hV22.trans (cX1.toBelow (fun k hk => by rw [List.mem_singleton] at hk; rw [hk]; exact ga9) hV22.size)
                refine wpAnyH_ready (rs := [10]) (by kernel_rfl) (by simp) ?_
                refine AllReadyH.cons rfl (fun K hK => ?_) AllReadyH.nil
                go_simp
                try rw [eX1]
                refine hK.out _ _ hX1 (fun _ => ?_)
                clear hK K eX1 r0 r1 r2 r3 r4 x0 x1 x2 x3 x4
                try simp only [Act.put, List.setIfInBounds_toArray, List.set_cons_zero, List.set_cons_succ]
                obtain ⟨r0, r1, r2, r3, r4⟩ := row5 kY1
                obtain ⟨x0, x1, x2, x3, x4⟩ := free5 kY1
                obtain ⟨X2, eX2, kX2, cX2⟩ := set5 kY1 (.int .i64 fB) (.int .i32 vB) (.slice A9 nB c9) (.int .i64 sB) (.int .i64 rB)
                have kY2 := (cX2.same a9 (Array.getElem?_eq_some_iff.1 kX1).1 (fun hm => da10a9 (List.mem_singleton.1 hm))).trans kX1
                have hX2 := hX1.trans (cX2.toBelow (fun k hk => by rw [List.mem_singleton] at hk; rw [hk]; exact ga10) hX1.size)
                have l2L8 := (lV22L8.chg cX1 (fun k hk hm => mL8a9 (by rw [← List.mem_singleton.1 hm]; exact hk))).chg cX2 (fun k hk hm => mL8a10 (by rw [← List.mem_singleton.1 hm]; exact hk))
                have l2L9 := (lV22L9.chg cX1 (fun k hk hm => mL9a9 (by rw [← List.mem_singleton.1 hm]; exact hk))).chg cX2 (fun k hk hm => mL9a10 (by rw [← List.mem_singleton.1 hm]; exact hk))
                have FIN : RunsFin W6 X2 RB fB vB nB sB rB a9 a10 := ⟨hX2, A8, c8, A9, c9, kY2, l2L8, kX2, l2L9⟩
                refine wpAnyH_ready (rs := [11]) (by kernel_rfl) (by simp) ?_
                refine AllReadyH.cons rfl (fun K hK => ?_) AllReadyH.nil
                go_simp
                try rw [eX2]
                refine hK.out _ _ hX2 (fun _ => ?_)
                clear hK K eX2 r0 r1 r2 r3 r4 x0 x1 x2 x3 x4
                try simp only [Act.put, List.setIfInBounds_toArray, List.set_cons_zero, List.set_cons_succ]
                refine wpAnyH_done (by kernel_rfl) ?_ _
                go_wp2_with fail
                go_meet
                exact ⟨_, _, rfl, rfl, Lib.hid FIN⟩
              exact AllReadyH.nil
            exact AllReadyH.nil
          refine AllReadyH.cons rfl (fun K hK => ?_) ?_
          · go_simp
            have hbA : Below V17.heap.size V17 (V17.alloc (.cells #[.int .i64 0, .int .i32 0, .slice none 0 0, .int .i64 0, .int .i64 0] 57)) := (Below.refl _ _).alloc (Nat.le_refl _) _
            have kV23a10 := heap_alloc_new V17 (.cells #[.int .i64 0, .int .i32 0, .slice none 0 0, .int .i64 0, .int .i64 0] 57)
            have kV23a9 := (hbA.block _ (Array.getElem?_eq_some_iff.1 kV17a9).1).trans kV17a9
            have da10a9 : a9 ≠ V17.heap.size := by have := (Array.getElem?_eq_some_iff.1 kV17a9).1; omega
            have ga10 := hV17.size
            have hV23 := hV17.trans (hbA.mono hV17.size)
            refine hK.out _ _ hV23 (fun _ => ?_)
            clear hK K hbA
            try simp only [Act.put, List.setIfInBounds_toArray, List.set_cons_zero, List.set_cons_succ]
            generalize V17.alloc (.cells #[.int .i64 0, .int .i32 0, .slice none 0 0, .int .i64 0, .int .i64 0] 57) = V23 at *
            generalize V17.heap.size = a10 at *
            refine wpAnyH_ready (rs := [3]) (by kernel_rfl) (by simp) ?_
            refine AllReadyH.cons rfl (fun K hK => ?_) ?_
            · go_simp
              have HCALL := Lib.hid (HC.out V23 hV23)
              go_at_call 19
              with_reducible refine HCALL.out.mono ?_
              rintro e V24 ⟨A8, c8, rfl, L8, hb, F8⟩
              have mL8a9 : a9 ∉ blk A8 := fun hm => by have := F8 _ hm; have := (Array.getElem?_eq_some_iff.1 kV23a9).1; omega
              have mL8a10 : a10 ∉ blk A8 := fun hm => by have := F8 _ hm; have := (Array.getElem?_eq_some_iff.1 kV23a10).1; omega
              have lV24L8 := L8
              have hV24 := hV23.trans (hb.mono hV23.size)
              have kV24a9 := (hb.block _ (Array.getElem?_eq_some_iff.1 kV23a9).1).trans kV23a9
              have kV24a10 := (hb.block _ (Array.getElem?_eq_some_iff.1 kV23a10).1).trans kV23a10
              try go_wp2_with fail
              refine hK.out _ _ hV24 (fun _ => ?_)
              clear hK K HCALL
              try simp only [Act.put, List.setIfInBounds_toArray, List.set_cons_zero, List.set_cons_succ]
              refine wpAnyH_ready (rs := [7]) (by kernel_rfl) (by simp) ?_
              refine AllReadyH.cons rfl (fun K hK => ?_) ?_
              · go_simp
                have HCALL := Lib.hid (HD.out V24 hV24)
                go_at_call 20
                with_reducible refine HCALL.out.mono ?_
                rintro e V25 ⟨A9, c9, rfl, L9, hb, F9⟩
                have mL9a9 : a9 ∉ blk A9 := fun hm => by have := F9 _ hm; have := (Array.getElem?_eq_some_iff.1 kV24a9).1; omega
                have mL9a10 : a10 ∉ blk A9 := fun hm => by have := F9 _ hm; have := (Array.getElem?_eq_some_iff.1 kV24a10).1; omega
                have lV25L9 := L9
                have lV25L8 := lV24L8.below hb
                have hV25 := hV24.trans (hb.mono hV24.size)
                have kV25a9 := (hb.block _ (Array.getElem?_eq_some_iff.1 kV24a9).1).trans kV24a9
                have kV25a10 := (hb.block _ (Array.getElem?_eq_some_iff.1 kV24a10).1).trans kV24a10
                try go_wp2_with fail
                refine hK.out _ _ hV25 (fun _ => ?_)
                clear hK K HCALL
                try simp only [Act.put, List.setIfInBounds_toArray, List.set_cons_zero, List.set_cons_succ]
                obtain ⟨r0, r1, r2, r3, r4⟩ := row5 kV25a9
                obtain ⟨x0, x1, x2, x3, x4⟩ := free5 kV25a9
                obtain ⟨X1, eX1, kX1, cX1⟩ := set5 kV25a9 (.int .i64 fB) (.int .i32 vB) (.slice A8 nB c8) (.int .i64 sB) (.int .i64 rB)
                have kY1 := (cX1.same a10 (Array.getElem?_eq_some_iff.1 kV25a10).1 (fun hm => da10a9 (List.mem_singleton.1 hm).symm)).trans kV25a10
                have hX1 := hV25.trans (cX1.toBelow (fun k hk => by rw [List.mem_singleton] at hk; rw [hk]; exact ga9) hV25.size)
                refine wpAnyH_ready (rs := [10]) (by kernel_rfl) (by simp) ?_
                refine AllReadyH.cons rfl (fun K hK => ?_) AllReadyH.nil
                go_simp
                try rw [eX1]
                refine hK.out _ _ hX1 (fun _ => ?_)
                clear hK K eX1 r0 r1 r2 r3 r4 x0 x1 x2 x3 x4
                try simp only [Act.put, List.setIfInBounds_toArray, List.set_cons_zero, List.set_cons_succ]
                obtain ⟨r0, r1, r2, r3, r4⟩ := row5 kY1
                obtain ⟨x0, x1, x2, x3, x4⟩ := free5 kY1
                obtain ⟨X2, eX2, kX2, cX2⟩ := set5 kY1 (.int .i64 fB) (.int .i32 vB) (.slice A9 nB c9) (.int .i64 sB) (.int .i64 rB)
                have kY2 := (cX2.same a9 (Array.getElem?_eq_some_iff.1 kX1).1 (fun hm => da10a9 (List.mem_singleton.1 hm))).trans kX1
                have hX2 := hX1.trans (cX2.toBelow (fun k hk => by rw [List.mem_singleton] at hk; rw [hk]; exact ga10) hX1.size)
                have l2L8 := (lV25L8.chg cX1 (fun k hk hm => mL8a9 (by rw [← List.mem_singleton.1 hm]; exact hk))).chg cX2 (fun k hk hm => mL8a10 (by rw [← List.mem_singleton.1 hm]; exact hk))
                have l2L9 := (lV25L9.chg cX1 (fun k hk hm => mL9a9 (by rw [← List.mem_singleton.1 hm]; exact hk))).chg cX2 (fun k hk hm => mL9a10 (by rw [← List.mem_singleton.1 hm]; exact hk))
                have FIN : RunsFin W6 X2 RB fB vB nB sB rB a9 a10 := ⟨hX2, A8, c8, A9, c9, kY2, l2L8, kX2, l2L9⟩
                refine wpAnyH_ready (rs := [11]) (by kernel_rfl) (by simp) ?_
                refine AllReadyH.cons rfl (fun K hK => ?_) AllReadyH.nil
                go_simp
                try rw [eX2]
                refine hK.out _ _ hX2 (fun _ => ?_)
                clear hK K eX2 r0 r1 r2 r3 r4 x0 x1 x2 x3 x4
                try simp only [Act.put, List.setIfInBounds_toArray, List.set_cons_zero, List.set_cons_succ]
                refine wpAnyH_done (by kernel_rfl) ?_ _
                go_wp2_with fail
                go_meet
                exact ⟨_, _, rfl, rfl, Lib.hid FIN⟩
              exact AllReadyH.nil
            exact AllReadyH.nil
          exact AllReadyH.nil
        refine AllReadyH.cons rfl (fun K hK => ?_) ?_
        · go_simp
          have hbA : Below V0.heap.size V0 (V0.alloc (.cells #[.int .i64 0, .int .i32 0, .slice none 0 0, .int .i64 0, .int .i64 0] 57)) := (Below.refl _ _).alloc (Nat.le_refl _) _
          have kV26a10 := heap_alloc_new V0 (.cells #[.int .i64 0, .int .i32 0, .slice none 0 0, .int .i64 0, .int .i64 0] 57)
          have ga10 := hV0.size
          have hV26 := hV0.trans (hbA.mono hV0.size)
          refine hK.out _ _ hV26 (fun _ => ?_)
          clear hK K hbA
          try simp only [Act.put, List.setIfInBounds_toArray, List.set_cons_zero, List.set_cons_succ]
          generalize V0.alloc (.cells #[.int .i64 0, .int .i32 0, .slice none 0 0, .int .i64 0, .int .i64 0] 57) = V26 at *
          generalize V0.heap.size = a10 at *
          refine wpAnyH_ready (rs := [3, 8]) (by kernel_rfl) (by simp) ?_
          refine AllReadyH.cons rfl (fun K hK => ?_) ?_
          · go_simp
            have HCALL := Lib.hid (HC.out V26 hV26)
            go_at_call 19
            with_reducible refine HCALL.out.mono ?_
            rintro e V27 ⟨A8, c8, rfl, L8, hb, F8⟩
            have mL8a10 : a10 ∉ blk A8 := fun hm => by have := F8 _ hm; have := (Array.getElem?_eq_some_iff.1 kV26a10).1; omega
            have lV27L8 := L8
            have hV27 := hV26.trans (hb.mono hV26.size)
            have kV27a10 := (hb.block _ (Array.getElem?_eq_some_iff.1 kV26a10).1).trans kV26a10
            try go_wp2_with fail
            refine hK.out _ _ hV27 (fun _ => ?_)
            clear hK K HCALL
            try simp only [Act.put, List.setIfInBounds_toArray, List.set_cons_zero, List.set_cons_succ]
            refine wpAnyH_ready (rs := [7, 8]) (by kernel_rfl) (by simp) ?_
            refine AllReadyH.cons rfl (fun K hK => ?_) ?_
            · go_simp
              have HCALL := Lib.hid (HD.out V27 hV27)
              go_at_call 20
              with_reducible refine HCALL.out.mono ?_
              rintro e V28 ⟨A9, c9, rfl, L9, hb, F9⟩
              have mL9a10 : a10 ∉ blk A9 := fun hm => by have := F9 _ hm; have := (Array.getElem?_eq_some_iff.1 kV27a10).1; omega
              have lV28L9 := L9
              have lV28L8 := lV27L8.below hb
              have hV28 := hV27.trans (hb.mono hV27.size)
              have kV28a10 := (hb.block _ (Array.getElem?_eq_some_iff.1 kV27a10).1).trans kV27a10
              try go_wp2_with fail
              refine hK.out _ _ hV28 (fun _ => ?_)
              clear hK K HCALL
              try simp only [Act.put, List.setIfInBounds_toArray, List.set_cons_zero, List.set_cons_succ]
              refine wpAnyH_ready (rs := [8]) (by kernel_rfl) (by simp) ?_
              refine AllReadyH.cons rfl (fun K hK => ?_) ?_
              · go_simp
                have hbA : Below V28.heap.size V28 (V28.alloc (.cells #[.int .i64 0, .int .i32 0, .slice none 0 0, .int .i64 0, .int .i64 0] 57)) := (Below.refl _ _).alloc (Nat.le_refl _) _
                have kV29a9 := heap_alloc_new V28 (.cells #[.int .i64 0, .int .i32 0, .slice none 0 0, .int .i64 0, .int .i64 0] 57)
                have kV29a10 := (hbA.block _ (Array.getElem?_eq_some_iff.1 kV28a10).1).trans kV28a10
                have da9a10 : a10 ≠ V28.heap.size := by have := (Array.getElem?_eq_some_iff.1 kV28a10).1; omega
                have mL8a9 : V28.heap.size ∉ blk A8 := fun hm => by have := lV28L8.lt _ hm; omega
                have mL9a9 : V28.heap.size ∉ blk A9 := fun hm => by have := lV28L9.lt _ hm; omega
                have lV29L8 := lV28L8.below hbA
                have lV29L9 := lV28L9.below hbA
                have ga9 := hV28.size
                have hV29 := hV28.trans (hbA.mono hV28.size)
                refine hK.out _ _ hV29 (fun _ => ?_)
                clear hK K hbA
                try simp only [Act.put, List.setIfInBounds_toArray, List.set_cons_zero, List.set_cons_succ]
                generalize V28.alloc (.cells #[.int .i64 0, .int .i32 0, .slice none 0 0, .int .i64 0, .int .i64 0] 57) = V29 at *
                generalize V28.heap.size = a9 at *
                obtain ⟨r0, r1, r2, r3, r4⟩ := row5 kV29a9
                obtain ⟨x0, x1, x2, x3, x4⟩ := free5 kV29a9
                obtain ⟨X1, eX1, kX1, cX1⟩ := set5 kV29a9 (.int .i64 fB) (.int .i32 vB) (.slice A8 nB c8) (.int .i64 sB) (.int .i64 rB)
                have kY1 := (cX1.same a10 (Array.getElem?_eq_some_iff.1 kV29a10).1 (fun hm => da9a10.symm (List.mem_singleton.1 hm).symm)).trans kV29a10
                have hX1 := hV29.trans (cX1.toBelow (fun k hk => by rw [List.mem_singleton] at hk; rw [hk]; exact ga9) hV29.size)
                refine wpAnyH_ready (rs := [10]) (by kernel_rfl) (by simp) ?_
                refine AllReadyH.cons rfl (fun K hK => ?_) AllReadyH.nil
                go_simp
                try rw [eX1]
                refine hK.out _ _ hX1 (fun _ => ?_)
                clear hK K eX1 r0 r1 r2 r3 r4 x0 x1 x2 x3 x4
                try simp only [Act.put, List.setIfInBounds_toArray, List.set_cons_zero, List.set_cons_succ]
                obtain ⟨r0, r1, r2, r3, r4⟩ := row5 kY1
                obtain ⟨x0, x1, x2, x3, x4⟩ := free5 kY1
                obtain ⟨X2, eX2, kX2, cX2⟩ := set5 kY1 (.int .i64 fB) (.int .i32 vB) (.slice A9 nB c9) (.int .i64 sB) (.int .i64 rB)
                have kY2 := (cX2.same a9 (Array.getElem?_eq_some_iff.1 kX1).1 (fun hm => da9a10.symm (List.mem_singleton.1 hm))).trans kX1
                have hX2 := hX1.trans (cX2.toBelow (fun k hk => by rw [List.mem_singleton] at hk; rw [hk]; exact ga10) hX1.size)
                have l2L8 := (lV29L8.chg cX1 (fun k hk hm => mL8a9 (by rw [← List.mem_singleton.1 hm]; exact hk))).chg cX2 (fun k hk hm => mL8a10 (by rw [← List.mem_singleton.1 hm]; exact hk))
                have l2L9 := (lV29L9.chg cX1 (fun k hk hm => mL9a9 (by rw [← List.mem_singleton.1 hm]; exact hk))).chg cX2 (fun k hk hm => mL9a10 (by rw [← List.mem_singleton.1 hm]; exact hk))
                have FIN : RunsFin W6 X2 RB fB vB nB sB rB a9 a10 := ⟨hX2, A8, c8, A9, c9, kY2, l2L8, kX2, l2L9⟩
                refine wpAnyH_ready (rs := [11]) (by kernel_rfl) (by simp) ?_
                refine AllReadyH.cons rfl (fun K hK => ?_) AllReadyH.nil
                go_simp
                try rw [eX2]
                refine hK.out _ _ hX2 (fun _ => ?_)
                clear hK K eX2 r0 r1 r2 r3 r4 x0 x1 x2 x3 x4
                try simp only [Act.put, List.setIfInBounds_toArray, List.set_cons_zero, List.set_cons_succ]
                refine wpAnyH_done (by kernel_rfl) ?_ _
                go_wp2_with fail
                go_meet
                exact ⟨_, _, rfl, rfl, Lib.hid FIN⟩
              exact AllReadyH.nil
            refine AllReadyH.cons rfl (fun K hK => ?_) ?_
            · go_simp
              have hbA : Below V27.heap.size V27 (V27.alloc (.cells #[.int .i64 0, .int .i32 0, .slice none 0 0, .int .i64 0, .int .i64 0] 57)) := (Below.refl _ _).alloc (Nat.le_refl _) _
              have kV30a9 := heap_alloc_new V27 (.cells #[.int .i64 0, .int .i32 0, .slice none 0 0, .int .i64 0, .int .i64 0] 57)
              have kV30a10 := (hbA.block _ (Array.getElem?_eq_some_iff.1 kV27a10).1).trans kV27a10
              have da9a10 : a10 ≠ V27.heap.size := by have := (Array.getElem?_eq_some_iff.1 kV27a10).1; omega
              have mL8a9 : V27.heap.size ∉ blk A8 := fun hm => by have := lV27L8.lt _ hm; omega
              have lV30L8 := lV27L8.below hbA
              have ga9 := hV27.size
              have hV30 := hV27.trans (hbA.mono hV27.size)
              refine hK.out _ _ hV30 (fun _ => ?_)
              clear hK K hbA
              try simp only [Act.put, List.setIfInBounds_toArray, List.set_cons_zero, List.set_cons_succ]
              generalize V27.alloc (.cells #[.int .i64 0, .int .i32 0, .slice none 0 0, .int .i64 0, .int .i64 0] 57) = V30 at *
              generalize V27.heap.size = a9 at *
              refine wpAnyH_ready (rs := [7]) (by kernel_rfl) (by simp) ?_
              refine AllReadyH.cons rfl (fun K hK => ?_) ?_
              · go_simp
                have HCALL := Lib.hid (HD.out V30 hV30)
                go_at_call 20
                with_reducible refine HCALL.out.mono ?_
                rintro e V31 ⟨A9, c9, rfl, L9, hb, F9⟩
                have mL9a10 : a10 ∉ blk A9 := fun hm => by have := F9 _ hm; have := (Array.getElem?_eq_some_iff.1 kV30a10).1; omega
                have mL9a9 : a9 ∉ blk A9 := fun hm => by have := F9 _ hm; have := (Array.getElem?_eq_some_iff.1 kV30a9).1; omega
                have lV31L9 := L9
                have lV31L8 := lV30L8.below hb
                have hV31 := hV30.trans (hb.mono hV30.size)
                have kV31a10 := (hb.block _ (Array.getElem?_eq_some_iff.1 kV30a10).1).trans kV30a10
                have kV31a9 := (hb.block _ (Array.getElem?_eq_some_iff.1 kV30a9).1).trans kV30a9
                try go_wp2_with fail
                refine hK.out _ _ hV31 (fun _ => ?_)
                clear hK K HCALL
                try simp only [Act.put, List.setIfInBounds_toArray, List.set_cons_zero, List.set_cons_succ]
                obtain ⟨r0, r1, r2, r3, r4⟩ := row5 kV31a9
                obtain ⟨x0, x1, x2, x3, x4⟩ := free5 kV31a9
                obtain ⟨X1, eX1, kX1, cX1⟩ := set5 kV31a9 (.int .i64 fB) (.int .i32 vB) (.slice A8 nB c8) (.int .i64 sB) (.int .i64 rB)
                have kY1 := (cX1.same a10 (Array.getElem?_eq_some_iff.1 kV31a10).1 (fun hm => da9a10.symm (List.mem_singleton.1 hm).symm)).trans kV31a10
                have hX1 := hV31.trans (cX1.toBelow (fun k hk => by rw [List.mem_singleton] at hk; rw [hk]; exact ga9) hV31.size)
                refine wpAnyH_ready (rs := [10]) (by kernel_rfl) (by simp) ?_
                refine AllReadyH.cons rfl (fun K hK => ?_) AllReadyH.nil
                go_simp
                try rw [eX1]
                refine hK.out _ _ hX1 (fun _ => ?_)
                clear hK K eX1 r0 r1 r2 r3 r4 x0 x1 x2 x3 x4
                try simp only [Act.put, List.setIfInBounds_toArray, List.set_cons_zero, List.set_cons_succ]
                obtain ⟨r0, r1, r2, r3, r4⟩ := row5 kY1
                obtain ⟨x0, x1, x2, x3, x4⟩ := free5 kY1
                obtain ⟨X2, eX2, kX2, cX2⟩ := set5 kY1 (.int .i64 fB) (.int .i32 vB) (.slice A9 nB c9) (.int .i64 sB) (.int .i64 rB)
                have kY2 := (cX2.same a9 (Array.getElem?_eq_some_iff.1 kX1).1 (fun hm => da9a10.symm (List.mem_singleton.1 hm))).trans kX1
                have hX2 := hX1.trans (cX2.toBelow (fun k hk => by rw [List.mem_singleton] at hk; rw [hk]; exact ga10) hX1.size)
                have l2L8 := (lV31L8.chg cX1 (fun k hk hm => mL8a9 (by rw [← List.mem_singleton.1 hm]; exact hk))).chg cX2 (fun k hk hm => mL8a10 (by rw [← List.mem_singleton.1 hm]; exact hk))
                have l2L9 := (lV31L9.chg cX1 (fun k hk hm => mL9a9 (by rw [← List.mem_singleton.1 hm]; exact hk))).chg cX2 (fun k hk hm => mL9a10 (by rw [← List.mem_singleton.1 hm]; exact hk))
                have FIN : RunsFin W6 X2 RB fB vB nB sB rB a9 a10 := ⟨hX2, A8, c8, A9, c9, kY2, l2L8, kX2, l2L9⟩
                refine wpAnyH_ready (rs := [11]) (by kernel_rfl) (by simp) ?_
                refine AllReadyH.cons rfl (fun K hK => ?_) AllReadyH.nil
                go_simp
                try rw [eX2]
                refine hK.out _ _ hX2 (fun _ => ?_)
                clear hK K eX2 r0 r1 r2 r3 r4 x0 x1 x2 x3 x4
                try simp only [Act.put, List.setIfInBounds_toArray, List.set_cons_zero, List.set_cons_succ]
                refine wpAnyH_done (by kernel_rfl) ?_ _
                go_wp2_with fail
                go_meet
                exact ⟨_, _, rfl, rfl, Lib.hid FIN⟩
              exact AllReadyH.nil
            exact AllReadyH.nil
          refine AllReadyH.cons rfl (fun K hK => ?_) ?_
          · go_simp
            have hbA : Below V26.heap.size V26 (V26.alloc (.cells #[.int .i64 0, .int .i32 0, .slice none 0 0, .int .i64 0, .int .i64 0] 57)) := (Below.refl _ _).alloc (Nat.le_refl _) _
            have kV32a9 := heap_alloc_new V26 (.cells #[.int .i64 0, .int .i32 0, .slice none 0 0, .int .i64 0, .int .i64 0] 57)
            have kV32a10 := (hbA.block _ (Array.getElem?_eq_some_iff.1 kV26a10).1).trans kV26a10
            have da9a10 : a10 ≠ V26.heap.size := by have := (Array.getElem?_eq_some_iff.1 kV26a10).1; omega
            have ga9 := hV26.size
            have hV32 := hV26.trans (hbA.mono hV26.size)
            refine hK.out _ _ hV32 (fun _ => ?_)
            clear hK K hbA
            try simp only [Act.put, List.setIfInBounds_toArray, List.set_cons_zero, List.set_cons_succ]
            generalize V26.alloc (.cells #[.int .i64 0, .int .i32 0, .slice none 0 0, .int .i64 0, .int .i64 0] 57) = V32 at *
            generalize V26.heap.size = a9 at *
            refine wpAnyH_ready (rs := [3]) (by kernel_rfl) (by simp) ?_
            refine AllReadyH.cons rfl (fun K hK => ?_) ?_
            · go_simp
              have HCALL := Lib.hid (HC.out V32 hV32)
              go_at_call 19
              with_reducible refine HCALL.out.mono ?_
              rintro e V33 ⟨A8, c8, rfl, L8, hb, F8⟩
              have mL8a10 : a10 ∉ blk A8 := fun hm => by have := F8 _ hm; have := (Array.getElem?_eq_some_iff.1 kV32a10).1; omega
              have mL8a9 : a9 ∉ blk A8 := fun hm => by have := F8 _ hm; have := (Array.getElem?_eq_some_iff.1 kV32a9).1; omega
              have lV33L8 := L8
              have hV33 := hV32.trans (hb.mono hV32.size)
              have kV33a10 := (hb.block _ (Array.getElem?_eq_some_iff.1 kV32a10).1).trans kV32a10
              have kV33a9 := (hb.block _ (Array.getElem?_eq_some_iff.1 kV32a9).1).trans kV32a9
              try go_wp2_with fail
              refine hK.out _ _ hV33 (fun _ => ?_)
              clear hK K HCALL
              try simp only [Act.put, List.setIfInBounds_toArray, List.set_cons_zero, List.set_cons_succ]
              refine wpAnyH_ready (rs := [7]) (by kernel_rfl) (by simp) ?_
              refine AllReadyH.cons rfl (fun K hK => ?_) ?_
              · go_simp
                have HCALL := Lib.hid (HD.out V33 hV33)
                go_at_call 20
                with_reducible refine HCALL.out.mono ?_
                rintro e V34 ⟨A9, c9, rfl, L9, hb, F9⟩
                have mL9a10 : a10 ∉ blk A9 := fun hm => by have := F9 _ hm; have := (Array.getElem?_eq_some_iff.1 kV33a10).1; omega
                have mL9a9 : a9 ∉ blk A9 := fun hm => by have := F9 _ hm; have := (Array.getElem?_eq_some_iff.1 kV33a9).1; omega
                have lV34L9 := L9
                have lV34L8 := lV33L8.below hb
                have hV34 := hV33.trans (hb.mono hV33.size)
                have kV34a10 := (hb.block _ (Array.getElem?_eq_some_iff.1 kV33a10).1).trans kV33a10
                have kV34a9 := (hb.block _ (Array.getElem?_eq_some_iff.1 kV33a9).1).trans kV33a9
                try go_wp2_with fail
                refine hK.out _ _ hV34 (fun _ => ?_)
                clear hK K HCALL
                try simp only [Act.put, List.setIfInBounds_toArray, List.set_cons_zero, List.set_cons_succ]
                obtain ⟨r0, r1, r2, r3, r4⟩ := row5 kV34a9
                obtain ⟨x0, x1, x2, x3, x4⟩ := free5 kV34a9
                obtain ⟨X1, eX1, kX1, cX1⟩ := set5 kV34a9 (.int .i64 fB) (.int .i32 vB) (.slice A8 nB c8) (.int .i64 sB) (.int .i64 rB)
                have kY1 := (cX1.same a10 (Array.getElem?_eq_some_iff.1 kV34a10).1 (fun hm => da9a10.symm (List.mem_singleton.1 hm).symm)).trans kV34a10
                have hX1 := hV34.trans (cX1.toBelow (fun k hk => by rw [List.mem_singleton] at hk; rw [hk]; exact ga9) hV34.size)
                refine wpAnyH_ready (rs := [10]) (by kernel_rfl) (by simp) ?_
                refine AllReadyH.cons rfl (fun K hK => ?_) AllReadyH.nil
                go_simp
                try rw [eX1]
                refine hK.out _ _ hX1 (fun _ => ?_)
                clear hK K eX1 r0 r1 r2 r3 r4 x0 x1 x2 x3 x4
                try simp only [Act.put, List.setIfInBounds_toArray, List.set_cons_zero, List.set_cons_succ]
                obtain ⟨r0, r1, r2, r3, r4⟩ := row5 kY1
                obtain ⟨x0, x1, x2, x3, x4⟩ := free5 kY1
                obtain ⟨X2, eX2, kX2, cX2⟩ := set5 kY1 (.int .i64 fB) (.int .i32 vB) (.slice A9 nB c9) (.int .i64 sB) (.int .i64 rB)
                have kY2 := (cX2.same a9 (Array.getElem?_eq_some_iff.1 kX1).1 (fun hm => da9a10.symm (List.mem_singleton.1 hm))).trans kX1
                have hX2 := hX1.trans (cX2.toBelow (fun k hk => by rw [List.mem_singleton] at hk; rw [hk]; exact ga10) hX1.size)
                have l2L8 := (lV34L8.chg cX1 (fun k hk hm => mL8a9 (by rw [← List.mem_singleton.1 hm]; exact hk))).chg cX2 (fun k hk hm => mL8a10 (by rw [← List.mem_singleton.1 hm]; exact hk))
                have l2L9 := (lV34L9.chg cX1 (fun k hk hm => mL9a9 (by rw [← List.mem_singleton.1 hm]; exact hk))).chg cX2 (fun k hk hm => mL9a10 (by rw [← List.mem_singleton.1 hm]; exact hk))
                have FIN : RunsFin W6 X2 RB fB vB nB sB rB a9 a10 := ⟨hX2, A8, c8, A9, c9, kY2, l2L8, kX2, l2L9⟩
                refine wpAnyH_ready (rs := [11]) (by kernel_rfl) (by simp) ?_
                refine AllReadyH.cons rfl (fun K hK => ?_) AllReadyH.nil
                go_simp
                try rw [eX2]
                refine hK.out _ _ hX2 (fun _ => ?_)
                clear hK K eX2 r0 r1 r2 r3 r4 x0 x1 x2 x3 x4
                try simp only [Act.put, List.setIfInBounds_toArray, List.set_cons_zero, List.set_cons_succ]
                refine wpAnyH_done (by kernel_rfl) ?_ _
                go_wp2_with fail
                go_meet
                exact ⟨_, _, rfl, rfl, Lib.hid FIN⟩
              exact AllReadyH.nil
            exact AllReadyH.nil
          exact AllReadyH.nil
        exact AllReadyH.nil
      case rest =>
        obtain ⟨p, q, rfl, rfl, HM⟩ := hcut
        rename World => wx
        obtain ⟨hbx, A8, c8, A9, c9, k9, l8, k10, l9⟩ := HM.out
        obtain ⟨d0, d1, d2, d3, d4⟩ := row5 k9
        obtain ⟨e0, e1, e2, e3, e4⟩ := row5 k10
        have hsm := sameR_any wx ⟨fB, vB, A8, nB, c8, RB.tr, sB, rB⟩ ⟨fB, vB, A9, nB, c9, RB.tr, sB, rB⟩ ⟨RowK.of_line HNB.out.1 l8, HNB.out.2⟩ ⟨RowK.of_line HNB.out.1 l9, HNB.out.2⟩
        rw [sameR_self ⟨fB, vB, A8, nB, c8, RB.tr, sB, rB⟩ ⟨fB, vB, A9, nB, c9, RB.tr, sB, rB⟩ rfl rfl rfl rfl] at hsm
        unfold Rs.val at hsm
        dsimp only at hsm
        have HSM2 := Lib.hid hsm
        have HK9 := Lib.hid (And.intro k9 k10)
        have HBX : Hid (Below W.heap.size W wx) := Lib.hid (HB1.out.trans ((HB6.out.trans (hbx.mono HB6.out.size)).mono HB1.out.size))
        clear hsm k9 k10 l8 l9 hbx HM HC HD HMC
        go_wp2_with (go_at_call 21; (with_reducible refine HSM2.out.mono ?_); rintro e w7 ⟨rfl, hb7⟩; obtain ⟨d0, d1, d2, d3, d4⟩ := row5 ((hb7.block p (Array.getElem?_eq_some_iff.1 HK9.out.1).1).trans HK9.out.1); obtain ⟨e0, e1, e2, e3, e4⟩ := row5 ((hb7.block q (Array.getElem?_eq_some_iff.1 HK9.out.2).1).trans HK9.out.2); have HB7 := Lib.hid (HBX.out.trans (hb7.mono HBX.out.size)); clear hb7)
        (refine (lives18 _).mono ?_)
        rintro e w8 ⟨rfl, hb8⟩
        have HB8 := Lib.hid (HB7.out.trans (hb8.mono HB7.out.size))
        go_wp2_with fail
        go_ret
        exact ⟨rfl, HB8.out⟩
end Rv
open Rv in
theorem riscvRuns_walk (GA LA : Option Addr) (gn gc ln lc : Nat) (st : Int) (iA : Option Addr) (il ic : Nat) (zs : List Int) (fuel : Int) (W : World) (gs : List Gl) (ls : List Ln) (hG : GlsAt W GA gn gs) (hL : LnsAt W LA ln ls) (hgn : gn ≤ 9223372036854775807) (hln : ln ≤ 9223372036854775807) (hI0 : IsRow .i32 W iA il ic zs) (hfu : (Lit.int .i64 fuel).wf = true) (hnn : ∀ l ∈ ls, -2147483648 ≤ l.n ∧ l.n ≤ 2147483647) :
    Calls Try.prog 5 #[.agg #[.slice GA gn gc, .int .i64 st, .slice LA ln lc], .slice iA il ic, .int .i64 fuel] W fun e w' => e = .returned (.bool true) ∧ Below W.heap.size W w' :=
  Rv.runs_walk GA LA gn gc ln lc st iA il ic zs fuel W gs ls hG hL hgn hln hI0 hfu hnn
end Go.Proofs.Ytmedhibjkbahpaa
