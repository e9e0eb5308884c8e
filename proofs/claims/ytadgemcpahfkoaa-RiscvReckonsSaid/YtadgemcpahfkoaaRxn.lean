/-
  Contract of riscv.Load.
-/
import Derived.Test.YtadgemcpahfkoaaRxm
namespace Go.Proofs.Ytadgemcpahfkoaa
open Go.RowKit
set_option linter.unusedVariables false
set_option linter.unusedSimpArgs false
set_option maxRecDepth 100000
namespace Rv
/-- What loading comes to. -/
inductive LR where
  | err (k : Int)
  | ok (acc : List Ln) (f : ByteArray → Option Int) (words : Int)
def loadI (mg : Gl → Bool) (ml : Ln → Bool) (gs : List Gl) (st : Int) (ls : List Ln) : LR :=
  if mayA mg ml gs st ls = true then
    if (layG ls gs).ok = true then
      if knowsB (layG ls gs).f ls = true then
        match resI (layG ls gs).f [] ls with
        | none => .err 2
        | some acc => if 16384 < wordsG gs then .err 2 else .ok acc (layG ls gs).f ((layG ls gs).cnt + (st + 3) / 4)
      else .err 21
    else .err 20
  else .err 1
def LoadOut (w : World) (r : LR) (e : Ending) (w' : World) : Prop :=
  match r with
  | .err k => e = .returned (.tuple #[.pointer none, .int .i64 k]) ∧ Below w.heap.size w w'
  | .ok acc f words => ∃ m M A c n, e = .returned (.tuple #[.pointer (some ⟨m, 0, none⟩), .int .i64 0]) ∧ ResAt w m M w' A c acc words n f
theorem mayA_parts {mg : Gl → Bool} {ml : Ln → Bool} {gs : List Gl} {st : Int} {ls : List Ln} (h : mayA mg ml gs st ls = true) : gs.length ≤ 64 ∧ (∀ g ∈ gs, mg g = true) ∧ (0 ≤ st ∧ st ≤ 16777216) ∧ ∀ l ∈ ls, ml l = true := by
  unfold mayA at h
  simp only [Bool.and_eq_true, decide_eq_true_eq, List.all_eq_true] at h
  exact ⟨h.1.1.1, h.1.1.2, h.1.2, h.2⟩
set_option maxHeartbeats 6400000 in
theorem load_any (mg : Gl → Bool) (ml : Ln → Bool) (w : World) (GA LA : Option Addr) (gn gc ln lc : Nat) (st : Int) (gs : List Gl) (ls : List Ln) (hG : GlsAt w GA gn gs) (hL : LnsAt w LA ln ls) (hgn : gn ≤ 1000) (hln : ln ≤ 1000)
    (HG : ∀ l ∈ gs, ∀ W, Calls Try.prog 47 #[l.val] W fun e w' => e = .returned (.bool (mg l)) ∧ Below W.heap.size W w')
    (HL : ∀ l ∈ ls, ∀ W, Calls Try.prog 50 #[l.val] W fun e w' => e = .returned (.bool (ml l)) ∧ Below W.heap.size W w')
    (hmg : ∀ g ∈ gs, mg g = true → 0 ≤ g.size ∧ g.size ≤ 4096) (hgs : ∀ g ∈ gs, g.name.size ≤ 1000000) (hls : ∀ l ∈ ls, l.s.size ≤ 1000000) (hnn : ∀ l ∈ ls, -2147483648 ≤ l.n ∧ l.n ≤ 2147483647) :
    Calls Try.prog 9 #[.agg #[.slice GA gn gc, .int .i64 st, .slice LA ln lc]] w (LoadOut w (loadI mg ml gs st ls)) := by
  have hmm := @run_makeMap Try.prog
  obtain ⟨v, hv⟩ : ∃ v, w.heap.size = v := ⟨_, rfl⟩
  obtain ⟨W1, hW1⟩ : ∃ W1, w.alloc (.cells #[.slice GA gn gc, .int .i64 st, .slice LA ln lc] 25) = W1 := ⟨_, rfl⟩
  have hb1 : Below w.heap.size w W1 := by rw [← hW1]; exact (Below.refl _ _).alloc (Nat.le_refl _) _
  have hbx : W1.heap[v]? = some (.cells #[.slice GA gn gc, .int .i64 st, .slice LA ln lc] 25 (0, 0)) := by rw [← hW1, ← hv]; exact heap_alloc_new w _
  have x0 : W1.cell? ⟨v, 0, none⟩ = some (.slice GA gn gc) := by rw [cell_of_row _ v 0 _ _ (0, 0) hbx]; rfl
  have x1 : W1.cell? ⟨v, 1, none⟩ = some (.int .i64 st) := by rw [cell_of_row _ v 1 _ _ (0, 0) hbx]; rfl
  have x2 : W1.cell? ⟨v, 2, none⟩ = some (.slice LA ln lc) := by rw [cell_of_row _ v 2 _ _ (0, 0) hbx]; rfl
  have HM := Lib.hid (may_any mg ml W1 GA LA gn gc ln lc st gs ls (hG.below hb1) (hL.below hb1) hgn hln HG HL)
  have HV : Hid (v < W1.heap.size ∧ w.heap.size = v) := Lib.hid ⟨(Array.getElem?_eq_some_iff.1 hbx).1, hv⟩
  have HBX := Lib.hid hbx
  have HB1 := Lib.hid hb1
  have HGL := Lib.hid (And.intro hG (And.intro hL (And.intro hmg (And.intro hgs (And.intro hls hnn)))))
  clear hb1 hbx hG hL HG HL hmg hgs hls hnn
  by_cases hmay : mayA mg ml gs st ls = true
  · rw [hmay] at HM
    have HMY := Lib.hid hmay
    obtain ⟨q1, q2, q3, q4⟩ := mayA_parts hmay
    have hgn64 : gn ≤ 64 := by rw [← HGL.out.1.1]; exact q1
    have HQ := Lib.hid (And.intro q2 q3)
    clear q1 q2 q3 q4 hmay
    go_enter Try.func9, Try.ntmps9
    go_upto_region 4 with (go_at_call 25; (with_reducible refine HM.out.mono ?_); rintro e w2 ⟨rfl, hb2⟩; have HB2 := Lib.hid hb2; clear hb2 x0 x1 x2)
    obtain ⟨M, hM⟩ : ∃ M, w2.heap.size = M := ⟨_, rfl⟩
    obtain ⟨W3, hW3⟩ : ∃ W3, w2.alloc (.map #[] 0) = W3 := ⟨_, rfl⟩
    obtain ⟨W4, hW4⟩ : ∃ W4, W3.alloc (.cells #[.slice none 0 0, .map (some M), .int .i64 0] 68) = W4 := ⟨_, rfl⟩
    have s3 : W3.heap.size = M + 1 := by rw [← hW3, ← hM]; simp
    have hb3 : Below w2.heap.size w2 W3 := by rw [← hW3]; exact (Below.refl _ _).alloc (Nat.le_refl _) _
    have hb4 : Below W3.heap.size W3 W4 := by rw [← hW4]; exact (Below.refl _ _).alloc (Nat.le_refl _) _
    have hb24 : Below W1.heap.size W1 W4 := HB2.out.trans ((hb3.trans (hb4.mono hb3.size)).mono HB2.out.size)
    have hb04 : Below w.heap.size w W4 := HB1.out.trans (hb24.mono HB1.out.size)
    have hz1 := HB1.out.size
    have hz2 := HB2.out.size
    have hlay : LayAt W1 (M + 1) M W4 0 0 (fun _ => none) := by
      refine ⟨hb24, by omega, by omega, by omega, ?_, ?_⟩
      · unfold ImAt
        rw [← hW4, ← s3]
        exact heap_alloc_new W3 _
      · have : SymAt W3 M 0 (fun _ => none) := by rw [← hW3, ← hM]; exact SymAt.new w2
        exact this.same (hb4.block M (by omega))
    -- the parameter's box, wherever a run has gone on since
    have HX : Hid (∀ V, Below W1.heap.size W1 V → V.cell? ⟨v, 0, none⟩ = some (.slice GA gn gc) ∧ V.cell? ⟨v, 1, none⟩ = some (.int .i64 st) ∧ V.cell? ⟨v, 2, none⟩ = some (.slice LA ln lc)) := Lib.hid (fun V hV => by
      have h5 := (hV.block v HV.out.1).trans HBX.out
      refine ⟨?_, ?_, ?_⟩ <;> (rw [cell_of_row _ v _ _ _ (0, 0) h5]; rfl))
    obtain ⟨x0, x1, x2⟩ := HX.out W4 hb24
    have HLY := Lib.hid (lay_any W1 W4 (M + 1) M hlay GA LA gn gc ln lc st gs ls (HGL.out.1.below HB1.out) (HGL.out.2.1.below HB1.out) hgn64 hln HGL.out.2.2.2.2.1 (fun g hg => ⟨HGL.out.2.2.2.1 g hg, HGL.out.2.2.1 g hg (HQ.out.1 g hg)⟩) HQ.out.2)
    clear hb3 hb4 hb24 hb04 hlay hz1 hz2
    rw [hM, hW3, hW4]
    clear hW4 hW3 s3 hM hW1
    cases hok : (layG ls gs).ok with
    | false =>
      rw [hok] at HLY
      have HR : Hid (loadI mg ml gs st ls = .err 20) := Lib.hid (by unfold loadI; rw [if_pos HMY.out, if_neg (by rw [hok]; exact Bool.false_ne_true)])
      clear hok
      go_wp2_with (go_at_call 26; (with_reducible refine HLY.out.mono ?_); rintro e w5 ⟨rfl, h5⟩; have H5 := Lib.hid h5.below; clear h5 x0 x1 x2)
      go_ret2
      show LoadOut w (loadI mg ml gs st ls) _ _
      rw [HR.out]
      exact ⟨rfl, HB1.out.trans (H5.out.mono HB1.out.size)⟩
    | true =>
      rw [hok] at HLY
      have HOK := Lib.hid hok
      clear hok
      go_upto_region 6 with (go_at_call 26; (with_reducible refine HLY.out.mono ?_); rintro e w5 ⟨rfl, h5⟩; obtain ⟨y0, y1, y2⟩ := HX.out _ h5.below; have H5 := Lib.hid h5; have HK := Lib.hid (knows_any W1 w5 (M + 1) M _ _ _ h5 LA ln lc ls (HGL.out.2.1.below HB1.out) hln HGL.out.2.2.2.2.1); clear h5 x0 x1 x2)
      cases hkn : knowsB (layG ls gs).f ls with
      | false =>
        have HR : Hid (loadI mg ml gs st ls = .err 21) := Lib.hid (by unfold loadI; rw [if_pos HMY.out, if_pos HOK.out, if_neg (by rw [hkn]; exact Bool.false_ne_true)])
        rw [hkn] at HK
        clear hkn
        go_wp2_with (go_at_call 27; (with_reducible refine HK.out.mono ?_); rintro e w6 ⟨rfl, h6⟩; have H6 := Lib.hid h6.below; clear h6 y0 y1 y2)
        go_ret2
        show LoadOut w (loadI mg ml gs st ls) _ _
        rw [HR.out]
        exact ⟨rfl, HB1.out.trans (H6.out.mono HB1.out.size)⟩
      | true =>
        have HKN := Lib.hid hkn
        rw [hkn] at HK
        clear hkn
        go_upto_region 8 with (go_at_call 27; (with_reducible refine HK.out.mono ?_); rintro e w6 ⟨rfl, h6⟩; obtain ⟨z0, z1, z2⟩ := HX.out _ h6.below; have HRS := Lib.hid (resolve_any W1 w6 (M + 1) M _ _ _ h6 LA ln lc ls (HGL.out.2.1.below HB1.out) hln HGL.out.2.2.2.2.1 HGL.out.2.2.2.2.2); clear h6 y0 y1 y2)
        cases hrs : resI (layG ls gs).f [] ls with
        | none =>
          have HR : Hid (loadI mg ml gs st ls = .err 2) := Lib.hid (by unfold loadI; rw [if_pos HMY.out, if_pos HOK.out, if_pos HKN.out, hrs])
          rw [hrs] at HRS
          clear hrs
          go_wp2_with (go_at_call 28; (with_reducible refine HRS.out.mono ?_); rintro e w7 ⟨rfl, h7⟩; have H7 := Lib.hid h7; clear h7 z0 z1 z2)
          go_ret2
          show LoadOut w (loadI mg ml gs st ls) _ _
          rw [HR.out]
          exact ⟨rfl, HB1.out.trans (H7.out.mono HB1.out.size)⟩
        | some acc =>
          have HR0 : Hid (loadI mg ml gs st ls = if 16384 < wordsG gs then .err 2 else .ok acc (layG ls gs).f ((layG ls gs).cnt + (st + 3) / 4)) := Lib.hid (by unfold loadI; rw [if_pos HMY.out, if_pos HOK.out, if_pos HKN.out, hrs])
          rw [hrs] at HRS
          clear hrs
          have HDW := Lib.hid (fun (V : World) (hV : Below W1.heap.size W1 V) => dataWords_any V GA gn gc gs ((HGL.out.1.below HB1.out).below hV) hgn64 (fun g hg => HGL.out.2.2.1 g hg (HQ.out.1 g hg)))
          by_cases hbig : 16384 < wordsG gs
          · have HR : Hid (loadI mg ml gs st ls = .err 2) := Lib.hid (by rw [HR0.out, if_pos hbig])
            have hb2 : (16384 : Int) < (wordsG gs : Int) := by omega
            generalize (wordsG gs : Int) = wg at *
            go_wp2_with (first
              | (go_at_call 28; (with_reducible refine HRS.out.mono ?_); rintro e w7 ⟨rfl, A7, c7, h7⟩; obtain ⟨t0, t1, t2⟩ := HX.out _ h7.below; have H7 := Lib.hid h7; clear h7 z0 z1 z2)
              | (go_at_call 29; (with_reducible refine (HDW.out _ H7.out.below).mono ?_); rintro e w8 ⟨rfl, h8⟩; have H8 := Lib.hid (H7.out.below.trans (h8.mono H7.out.below.size)); clear h8))
            go_ret2
            show LoadOut w (loadI mg ml gs st ls) _ _
            rw [HR.out]
            exact ⟨rfl, HB1.out.trans (H8.out.mono HB1.out.size)⟩
          · have HR : Hid (loadI mg ml gs st ls = .ok acc (layG ls gs).f ((layG ls gs).cnt + (st + 3) / 4)) := Lib.hid (by rw [HR0.out, if_neg hbig])
            have hb2 : ¬ (16384 : Int) < (wordsG gs : Int) := by omega
            generalize (wordsG gs : Int) = wg at *
            go_wp2_with (first
              | (go_at_call 28; (with_reducible refine HRS.out.mono ?_); rintro e w7 ⟨rfl, A7, c7, h7⟩; obtain ⟨t0, t1, t2⟩ := HX.out _ h7.below; have H7 := Lib.hid h7; clear h7 z0 z1 z2)
              | (go_at_call 29; (with_reducible refine (HDW.out _ H7.out.below).mono ?_); rintro e w8 ⟨rfl, h8⟩; have H8 := Lib.hid (H7.out.grow h8); clear h8))
            go_ret2
            show LoadOut w (loadI mg ml gs st ls) _ _
            rw [HR.out]
            have h9 := H8.out
            have hz := HB1.out.size
            refine ⟨M + 1, M, A7, c7, _, rfl, ⟨HB1.out.trans (h9.below.mono hz), ?_, ?_, h9.ne, h9.im, h9.sym, h9.line, fun k hk => ⟨?_, (h9.bl k hk).2⟩⟩⟩
            · have := h9.mge; omega
            · have := h9.Mge; omega
            · have := (h9.bl k hk).1; omega
  · simp only [Bool.not_eq_true] at hmay
    have HR : Hid (loadI mg ml gs st ls = .err 1) := Lib.hid (by unfold loadI; rw [if_neg (by rw [hmay]; exact Bool.false_ne_true)])
    rw [hmay] at HM
    go_enter Try.func9, Try.ntmps9
    go_wp2_with (go_at_call 25; (with_reducible refine HM.out.mono ?_); rintro e w2 ⟨rfl, hb2⟩; have HB2 := Lib.hid hb2; clear hb2)
    go_ret2
    show LoadOut w (loadI mg ml gs st ls) _ _
    rw [HR.out]
    exact ⟨rfl, HB1.out.trans (HB2.out.mono HB1.out.size)⟩
end Rv
end Go.Proofs.Ytadgemcpahfkoaa
