/-
  The document's disk: Call 1 (Append) with power and room.
  The document's disk: what Call answers and leaves, kind by kind.
-/
import Derived.Test.YtbjlikppboggmaaZbc
import Derived.Test.YtbjlikppboggmaaZaa
import Derived.Test.YtbjlikppboggmaaZav
import Derived.Test.YtbjlikppboggmaaZax
import Derived.Test.YtbjlikppboggmaaZay
import Derived.Test.YtbjlikppboggmaaZaz
import Derived.Test.YtbjlikppboggmaaZba
namespace Go.Proofs.Ytbjlikppboggmaa
open Go.RowKit Go.Maps
set_option linter.unusedVariables false
set_option maxRecDepth 100000

theorem SLine.srcN {s : Nat} {w : World} {A : Option Addr} {n c : Nat} {xs : List Value} {t e : TypeId} (ht : Try.prog.underlying t = some (.slice e)) (h : SLine s w A n c xs) (h1 : ∀ u ∈ xs, u.oneCell' = true) (c' : Nat) : Src Try.prog s t (.slice A n c') n xs w := by
  cases A with
  | none =>
    have hc := h.2.2.2.1 rfl
    have hn : n = 0 := by have := h.2.1; omega
    subst hn
    have hx : xs = [] := List.eq_nil_of_length_eq_zero (by have := h.1; omega)
    subst hx
    exact Src.ofNil w ht c'
  | some ad => exact h.src ht h1 (by simp) c'
theorem empty_line (V : World) : SLine 1 (V.alloc (.cells #[] 5)) (some ⟨V.heap.size, 0, none⟩) 0 0 [] := by
  refine ⟨rfl, Nat.le_refl _, by unfold maxLen; omega, (fun e => by cases e), fun ad e => ?_⟩
  cases e
  exact ⟨V.heap.size, 0, rfl, by simp, fun i hi => by omega, fun i hi => by omega⟩
theorem data_runs (V : World) (A9 : Option Addr) (L c9 : Nat) (data : List Value) (hl : SLine 1 V A9 L c9 data) (h1 : ∀ u ∈ data, u.oneCell' = true) (hL : L ≤ 1048576) (X : Value) (bn : Nat) (news : List Value) (hbn : bn ≤ 10000000) (hX : ∀ V', Below V.heap.size V V' → Src Try.prog 1 29 X bn news V') :
    ∃ A1 c1 W1 A2 c2 W2, (Builtin.append_ #[29, 29] 29 #[.slice (some ⟨V.heap.size, 0, none⟩) 0 0, .slice A9 L c9]).run Try.prog (V.alloc (.cells #[] 5)) = .ok (.slice A1 L c1) W1 ∧
      (Builtin.append_ #[29, 29] 29 #[.slice A1 L c1, X]).run Try.prog W1 = .ok (.slice A2 (L + bn) c2) W2 ∧ SLine 1 W2 A2 (L + bn) c2 (data ++ news) ∧ Below V.heap.size V W1 ∧ Below V.heap.size V W2 ∧ ∀ k ∈ blk A2, V.heap.size ≤ k := by
  have hBn : Below V.heap.size V (V.alloc (.cells #[] 5)) := (Below.refl _ V).alloc (Nat.le_refl _) _
  have hsn : (V.alloc (.cells #[] 5)).heap.size = V.heap.size + 1 := by simp
  obtain ⟨A1, c1, W1, hr1, hl1, hc1, hf1, _⟩ := sline_append_all 1 (V.alloc (.cells #[] 5)) 29 5 29 _ 1 Try.underlying29 infoB rfl (by decide) _ 0 0 [] (empty_line V) (by omega) (.slice A9 L c9) L (by omega) data ((hl.below hBn).srcN Try.underlying29 h1 c9)
  rw [Nat.zero_add, List.nil_append] at hl1
  rw [Nat.zero_add] at hr1
  have hB1 : Below V.heap.size V W1 := hBn.trans (hc1.toBelow (fun b hb => by rw [blk_one hb]; exact Nat.le_refl _) (by omega))
  have hA1 : ∀ k ∈ blk A1, V.heap.size ≤ k := fun k hk => by
    rcases hf1 k hk with h | h
    · rw [blk_one h]; exact Nat.le_refl _
    · omega
  obtain ⟨A2, c2, W2, hr2, hl2, hc2, hf2, _⟩ := sline_append_all 1 W1 29 5 29 _ 1 Try.underlying29 infoB rfl (by decide) A1 L c1 data hl1 (by omega) X bn hbn news (hX W1 hB1)
  exact ⟨A1, c1, W1, A2, c2, W2, hr1, hr2, hl2, hB1, hB1.trans (hc2.toBelow hA1 hB1.size), fun k hk => by
    rcases hf2 k hk with h | h
    · exact hA1 k h
    · have := hB1.size; omega⟩
theorem appendH_ready {P : Program} {md : Region.Mode} {ops : Array Oper} {Q : Exit → Act → World → Prop} {S : World → Prop} {fuel : Nat} {listed : Array Bool} {a : Act} {w : World} {i : Nat} {o : Oper} (ho : ops[i]? = some o) (hw : Region.wanted o (yielded ops a.tmps) = true)
    (s x : Operand) (t tn : TypeId) (hop : o.op = Op.call { callee := Callee.builtin Builtin.append, args := #[s, x], argTypes := #[t, tn] }) (vs vx : Value) (hs : a.eval s = vs) (hx : a.eval x = vx)
    (v' : Value) (w' : World) (hr : (Builtin.append_ #[t, tn] o.type #[vs, vx]).run P w = .ok v' w') (hS : S w') (h : wpAnyH P md ops Q S fuel (listed.setIfInBounds i true) (a.put o.dst v') w') : AllReadyH P md ops Q S fuel listed a w [i] := by
  refine AllReadyH.cons ho (fun K' hK => ?_) AllReadyH.nil
  rw [if_pos hw]
  exact Lib.wp_append_run w s x t tn hop vs vx hs hx v' w' hr (hK.out _ _ hS (fun _ => h))
section
variable {w w' : World} {x : Nat} {ox ox' : Nat → Nat} {b : XBox} {FA NA SA CA : Option Addr} {fn fc nn nc sn sc cn cc : Nat} {vs : List (Value × Nat)} {cs : List (ByteArray × ByteArray × Nat)} {r : RD}
set_option maxHeartbeats 3200000 in
theorem RefIn.append_on (H : RefIn w x ox b FA fn fc NA nn nc SA sn sc CA cn cc vs cs r) (hF : ∀ i, w.heap.size ≤ i → ox i = 0) (F : Fct r) (hs : r.size ≤ 79000) (hon : r.on = true) (nm : ByteArray) (BA : Option Addr) (bn bc : Nat) (hbn : bn ≤ 10000000) (hsz : nm.size ≤ 1000000) (hmay : nameOk nm = true) (hhas : hasP ltS r.now nm = true) (news : List Value) (hsrcLen : news.length = bn) (hone : ∀ u ∈ (r.get nm).data, u.oneCell' = true) (hsrc : ∀ V : World, (∀ k, k < w.heap.size → ox k = 0 → V.heap[k]? = w.heap[k]?) → w.heap.size ≤ V.heap.size → Src Try.prog 1 29 (.slice BA bn bc) bn news V) (hsmall : (r.get nm).data.length + bn ≤ 1048576) (hroom : ¬ r.quota < (r.used : Int) + (bn : Int)) :
    Calls Try.prog 33 #[.pointer (some ⟨x, 0, none⟩), .int .i64 1, .string nm, .string ⟨#[]⟩, .slice BA bn bc] w fun e w' => e = .returned (.int .i64 0) ∧ RNext w x ox { r.powered with files := r.files.set (r.num nm) ⟨(r.get nm).data ++ news, (r.get nm).sure⟩ } w' := by
  have hcl : b.calls = (r.calls : Int) := H.calls
  have hcb : 0 ≤ b.calls ∧ b.calls ≤ 80000 := by unfold RD.size at hs; omega
  have hqb := F.stop
  have HF := Lib.hid F
  have HH := Lib.hid (And.intro H hF)
  have HS := Lib.hid hs
  have hof := H.off
  have hst := H.stop
  unfold RD.on at hon
  rw [← hof, ← hst] at hon
  rw [← hst] at hqb
  have c6 : w.cell? ⟨x, 6, none⟩ = some (.bool false) := by
    have h : w.cell? ⟨x, 6, none⟩ = some (.bool b.off) := H.box.cell 6 _ rfl
    have h2 : b.off = false := by cases h : b.off with | false => rfl | true => rw [h] at hon; cases hon
    rw [h, h2]
  have hoff : b.off = false := by cases h : b.off with | false => rfl | true => rw [h] at hon; cases hon
  have hne : b.stop ≠ 0 := by rw [hoff] at hon; simpa using hon
  have c7 : w.cell? ⟨x, 7, none⟩ = some (.int .i64 b.stop) := H.box.cell 7 _ rfl
  have c8 : w.cell? ⟨x, 8, none⟩ = some (.int .i64 b.calls) := H.box.cell 8 _ rfl
  have f8 := H.box.free 8
  obtain ⟨wA, hwA⟩ : ∃ wA, w.setCell ⟨x, 8, none⟩ (.int .i64 (b.calls + 1)) = wA := ⟨_, rfl⟩
  have hbA : XBoxAt wA x { b with calls := b.calls + 1 } := by rw [← hwA]; exact H.box.set 8 _ _ rfl
  have a7 : wA.cell? ⟨x, 7, none⟩ = some (.int .i64 b.stop) := hbA.cell 7 _ rfl
  have g7 := hbA.free 7
  have hcA : Chg [x] w wA := by rw [← hwA]; exact (Chg.refl _ w).setCell x 8 _ (.inl (by simp))
  rcases (show 0 < b.stop ∨ b.stop < 0 by omega) with hway | hway
  · have hne2 : (b.stop == 0) = false := by simpa using hne
    obtain ⟨wB, hwB⟩ : ∃ wB, wA.setCell ⟨x, 7, none⟩ (.int .i64 (b.stop - 1)) = wB := ⟨_, rfl⟩
    have hbB : XBoxAt wB x (poweredX b) := by
      have e : poweredX b = { b with calls := b.calls + 1, stop := b.stop - 1 } := by unfold poweredX; rw [if_neg (by rw [hoff]; exact fun e => by cases e), if_neg hne, if_pos hway]
      rw [e, ← hwB]; exact hbA.set 7 _ _ rfl
    have hcB : Chg [x] w wB := by rw [← hwB]; exact hcA.setCell x 7 _ (.inl (by simp))
    have HB := Lib.hid (OnW.mk hbB hcB)
    clear H F hF hs hof hst hon hcl hbA hbB hcB hcA
    have HMAY := Lib.hid (rmayName_any nm hsz)
    rw [hmay] at HMAY
    have hfound := (atN_num HF.out nm).resolve_left (fun h => by rw [hhas] at h; cases h.2)
    have hat0 : ¬ (r.num nm : Int) < 0 := by omega
    have H1 := HH.out.1.powered HB.out.chg HB.out.box
    have hen : r.powered.now = r.now := by unfold RD.now; rw [r.powered_sure, r.powered_chs]
    have b1 : wB.cell? ⟨x, 1, none⟩ = some (.slice NA nn nc) := HB.out.box.cell 1 _ (by show some (poweredX b).now = _; rw [H1.now])
    have hnr := H1.nrow
    rw [hen] at hnr
    have hnl := HF.out.len (by have := HS.out; omega)
    have hnn : nn ≤ 80000 := by have := hnr.len; omega
    have HAT := Lib.hid (at_any wB NA nn nc r.now hnr (by omega) (HF.out.nums (by have := HS.out; omega)) nm)
    have H1h := Lib.hid H1
    clear H1 hnr hnl
    rw [hfound.1] at HAT
    have HLK := Lib.hid hfound.2.2.2
    obtain ⟨num, hnum⟩ : ∃ num, r.num nm = num := ⟨_, rfl⟩
    have HNUM := Lib.hid hnum
    rw [hnum] at hfound hat0 HAT
    have HNF := Lib.hid hfound.2.2.1
    clear hfound hnum
    go_enter Try.func33, Try.ntmps33
    go_wp2_with fail
    refine (HMAY.out _).mono ?_
    rintro e wm ⟨rfl, rfl⟩
    go_wp2_with fail
    refine HAT.out.mono ?_
    rintro e w2 ⟨rfl, hB2⟩
    have H2 := H1h.out.below hB2
    obtain ⟨w3, hw3⟩ : ∃ w3, w2.alloc (.cells #[.string ⟨#[]⟩, .string ⟨#[]⟩, .int .i64 0] 114) = w3 := ⟨_, rfl⟩
    have hB3 : Below w2.heap.size w2 w3 := by rw [← hw3]; exact (Below.refl _ w2).alloc (Nat.le_refl _) _
    have hva : w3.heap[w2.heap.size]? = some (.cells #[.string ⟨#[]⟩, .string ⟨#[]⟩, .int .i64 0] 114 (0, 0)) := by rw [← hw3]; exact heap_alloc_new w2 _
    obtain ⟨va, hvae⟩ : ∃ va, w2.heap.size = va := ⟨_, rfl⟩
    rw [hvae] at hva
    have i0 : w3.cell? ⟨va, 0, none⟩ = some (.string ⟨#[]⟩) := by rw [cell_of_row _ va 0 _ _ (0, 0) hva]; rfl
    have i1 : w3.cell? ⟨va, 1, none⟩ = some (.string ⟨#[]⟩) := by rw [cell_of_row _ va 1 _ _ (0, 0) hva]; rfl
    have i2 : w3.cell? ⟨va, 2, none⟩ = some (.int .i64 0) := by rw [cell_of_row _ va 2 _ _ (0, 0) hva]; rfl
    have k0 : w3.frozen? ⟨va, 0, none⟩ = false := frozen_of_row w3 va 0 _ _ hva
    have k1 : w3.frozen? ⟨va, 1, none⟩ = false := frozen_of_row w3 va 1 _ _ hva
    have k2 : w3.frozen? ⟨va, 2, none⟩ = false := frozen_of_row w3 va 2 _ _ hva
    have j0 : w3.setCell ⟨va, 0, none⟩ (.string ⟨#[]⟩) = w3 := setCell_id hva rfl
    have j1 : w3.setCell ⟨va, 1, none⟩ (.string ⟨#[]⟩) = w3 := setCell_id hva rfl
    have j2 : w3.setCell ⟨va, 2, none⟩ (.int .i64 0) = w3 := setCell_id hva rfl
    have HVA := Lib.hid hva
    have hnf := HNF.out
    have H3 := H2.below hB3
    have hfv0 : num < vs.length := by rw [H3.fdata.1, r.powered_files]; exact hnf
    obtain ⟨fv, hfv⟩ : ∃ fv, vs[num]? = some fv := ⟨_, List.getElem?_eq_getElem hfv0⟩
    obtain ⟨hsu9, A9, c9, e9, hl9, ho9⟩ := H3.fdata.2 num fv (r.get nm) hfv (by rw [r.powered_files]; unfold RD.get RD.file; rw [HNUM.out, List.getD_eq_getElem?_getD, List.getElem?_eq_getElem hnf]; rfl)
    obtain ⟨y0, y1⟩ := flatF_at vs num fv hfv
    rw [e9] at y0
    obtain ⟨g2, o2, rfl, hg2, hcs2, hfr2⟩ := H3.fline.at (by have := H3.fline.1; rw [flatF_length] at this; omega)
    have hfnl : fn = vs.length := by have := H3.fline.1; rw [flatF_length] at this; omega
    have hfc := H3.fline.2.1
    have z0 : w3.cell? ⟨x, 0, none⟩ = some (.slice (some ⟨g2, o2, none⟩) fn fc) := H3.box.cell 0 _ (by show some (poweredX b).files = _; rw [H3.files])
    have z1 : w3.cell? ⟨g2, o2 + num * 2, none⟩ = some (.slice A9 (r.get nm).data.length c9) := (hcs2 (num * 2) (by omega)).trans y0
    have z2 : w3.cell? ⟨g2, o2 + num * 2 + 1, none⟩ = some (.int .i64 (fv.2 : Int)) := by rw [Nat.add_assoc]; exact (hcs2 (num * 2 + 1) (by omega)).trans y1
    have z1f : w3.frozen? ⟨g2, o2 + num * 2, none⟩ = false := (hfr2 (num * 2) (by omega)).2
    have z2f : w3.frozen? ⟨g2, o2 + num * 2 + 1, none⟩ = false := by rw [Nat.add_assoc]; exact (hfr2 (num * 2 + 1) (by omega)).2
    have hn1 : (num : Int) < (fn : Int) := by omega
    have hn0 : (0 : Int) ≤ (num : Int) := by omega
    obtain ⟨L, hL⟩ : ∃ L, (r.get nm).data.length = L := ⟨_, rfl⟩
    have HLL := Lib.hid hL
    rw [hL] at z1
    have hLb : L ≤ 1048576 := by
      have h1 := HF.out.data _ ((look_some orders_S HF.out.rn).1 HLK.out)
      simp only [numOf_numV] at h1
      rw [← hL]
      exact h1
    have hwr : IntKind.i64.wrap ((L : Int) + (bn : Int)) = (L : Int) + (bn : Int) := by rw [IntKind.wrap_i64]; omega
    have HUSED := Lib.hid (fun (W : World) (hW : Below w3.heap.size w3 W) => (H3.below hW).isUsed HF.out.powered (by have := HS.out; have := r.powered_size; omega))
    have husd : r.powered.used = r.used := by unfold RD.used RD.file RD.now; rw [r.powered_files, r.powered_sure, r.powered_chs]
    rw [husd] at HUSED
    obtain ⟨U, hU⟩ : ∃ U, r.used = U := ⟨_, rfl⟩
    have hub := HF.out.used
    have hqb4 := HF.out.quota
    rw [hU] at HUSED hub
    obtain ⟨Q, hQ⟩ : ∃ Q, r.quota = Q := ⟨_, rfl⟩
    have hqq : (poweredX b).quota = Q := by rw [H3.quota, r.powered_quota]; exact hQ
    rw [hQ] at hqb4
    have z4 : w3.cell? ⟨x, 4, none⟩ = some (.int .i64 Q) := H3.box.cell 4 _ (by show some (Value.int .i64 (poweredX b).quota) = _; rw [hqq])
    have HB4 : Hid (∀ W, Below w3.heap.size w3 W → W.cell? ⟨x, 4, none⟩ = some (.int .i64 Q)) := Lib.hid (fun W hW => (hW.cell (p := ⟨x, 4, none⟩) H3.box.lt).trans z4)
    have HUQ := Lib.hid (And.intro hU hQ)
    clear husd hU hQ hqq
    have hbg : ¬ (1048576 : Int) < (L : Int) + (bn : Int) := by rw [← hL]; omega
    have hfl2 : ¬ Q < (U : Int) + (bn : Int) := by rw [← HUQ.out.1, ← HUQ.out.2]; omega
    have hwu : IntKind.i64.wrap ((U : Int) + (bn : Int)) = (U : Int) + (bn : Int) := by rw [IntKind.wrap_i64]; omega
    have H3h := Lib.hid (And.intro H3 (And.intro (hB2.trans (hB3.mono hB2.size)) (And.intro hfv0 (And.intro hfv (And.intro hl9 (And.intro ho9 (And.intro hsu9 (And.intro hg2 (And.intro hfnl (And.intro hcs2 hfr2))))))))))
    clear H2 H3 hB2 hB3 hva hL hfv0 hfv hl9 hcs2 hfr2 y0 y1 hg2 hen hfnl hfc hroom ho9 hsu9
    go_upto_region 25 with fail
    go_cut [135] from 126 to 135 (fun c wx => c = .bool false ∧ Hid (Below w3.heap.size w3 wx))
    case first =>
      go_region_with (go_at_call 38; refine (HUSED.out w3.drew (Below.refl _ w3).drew).mono ?_; rintro e w5 ⟨rfl, hB5⟩; have hB6 := (Below.refl _ w3).drew.trans hB5; have z5 := HB4.out w5 hB6; have HB6 := Lib.hid hB6; clear hB5 hB6)
      all_goals
        go_wp2_with fail
        go_meet
        exact ⟨by simp <;> omega, HB6⟩
    case rest =>
      obtain ⟨rfl, HBc⟩ := hcut
      obtain ⟨H3, hB23, hfv0, hfv, hl9, ho9, hsu9, hg2, hfnl, hcs2, hfr2⟩ := H3h.out
      have Hc := H3.below HBc.out
      have hlc : SLine 1 wc A9 L c9 (r.get nm).data := by rw [← HLL.out]; exact hl9.below HBc.out
      have HSS : Hid (wc.drew.cell? ⟨x, 0, none⟩ = some (.slice (some ⟨g2, o2, none⟩) fn fc)) := Lib.hid (Hc.box.cell 0 _ (by show some (poweredX b).files = _; rw [Hc.files]))
      have u1 : wc.drew.cell? ⟨g2, o2 + num * 2, none⟩ = some (.slice A9 L c9) := (HBc.out.cell (p := ⟨g2, o2 + num * 2, none⟩) hg2).trans z1
      have u1b : (wc.alloc (.cells #[] 5)).cell? ⟨g2, o2 + num * 2, none⟩ = some (.slice A9 L c9) := (((Below.refl _ wc).alloc (Nat.le_refl _) _).cell (p := ⟨g2, o2 + num * 2, none⟩) (Nat.lt_of_lt_of_le hg2 HBc.out.size)).trans u1
      have u1c : (wc.alloc (.cells #[] 5)).drew.cell? ⟨g2, o2 + num * 2, none⟩ = some (.slice A9 L c9) := u1b
      have HSA : Hid ((wc.drew.alloc (.cells #[] 5)).cell? ⟨x, 0, none⟩ = some (.slice (some ⟨g2, o2, none⟩) fn fc)) := Lib.hid ((((Below.refl _ wc.drew).alloc (Nat.le_refl _) _).cell (p := ⟨x, 0, none⟩) Hc.box.lt).trans HSS.out)
      obtain ⟨A1, c1, W1, A2, c2, W2, hr1, hr2, hl2, hB1, hB2, hA2⟩ := data_runs wc.drew A9 L c9 _ hlc.drew (fun u hu => hone u hu) hLb (.slice BA bn bc) bn news hbn (fun V' hV' => hsrc V' (by
        have h1 := HB.out.chg
        have h2 : Below w3.heap.size w3 V' := (HBc.out.trans ((Below.refl _ wc).drew.mono HBc.out.size)).trans (hV'.mono HBc.out.size)
        exact (((HH.out.1.only1 h1).trans (Only.of_below ox hB23)).trans (Only.of_below ox h2)).2.2) (by
        have h1 := HB.out.chg.size
        have h2 := hB23.size
        have h3 := HBc.out.size
        have h4 := hV'.size
        have e : wc.drew.heap.size = wc.heap.size := rfl
        omega))
      have HR1 : Hid ((Builtin.append_ #[29, 29] 29 #[.slice (some ⟨wc.heap.size, 0, none⟩) 0 0, .slice A9 L c9]).run Try.prog (wc.drew.alloc (.cells #[] 5)) = .ok (.slice A1 L c1) W1) := Lib.hid hr1
      have HR2 := Lib.hid hr2
      have HS1 : Hid (W1.cell? ⟨x, 0, none⟩ = some (.slice (some ⟨g2, o2, none⟩) fn fc)) := Lib.hid ((hB1.cell (p := ⟨x, 0, none⟩) Hc.box.lt).trans HSS.out)
      have HS2 : Hid (W2.cell? ⟨x, 0, none⟩ = some (.slice (some ⟨g2, o2, none⟩) fn fc)) := Lib.hid ((hB2.cell (p := ⟨x, 0, none⟩) Hc.box.lt).trans HSS.out)
      have hg2c : g2 < wc.heap.size := Nat.lt_of_lt_of_le hg2 HBc.out.size
      have t1 : W2.cell? ⟨g2, o2 + num * 2, none⟩ = some (.slice A9 L c9) := (hB2.cell (p := ⟨g2, o2 + num * 2, none⟩) hg2c).trans u1
      have t1f : W2.frozen? ⟨g2, o2 + num * 2, none⟩ = false := by
        rw [World.frozen?_of_block (w := wc.drew) (a := ⟨g2, o2 + num * 2, none⟩) (hB2.block g2 hg2c)]
        exact (World.frozen?_of_block (w := w3) (a := ⟨g2, o2 + num * 2, none⟩) (HBc.out.block g2 hg2)).trans z1f
      obtain ⟨V7, hV7⟩ : ∃ V7, W2.setCell ⟨g2, o2 + num * 2, none⟩ (.slice A2 (L + bn) c2) = V7 := ⟨_, rfl⟩
      have hc7 : Chg [g2] W2 V7 := by rw [← hV7]; exact (Chg.refl _ _).setCell g2 _ _ (.inl (by simp))
      have hxg : x ≠ g2 := fun e => by have h1 := Hc.ob; have h2 := Hc.oF g2 (mem_blk.2 ⟨_, rfl, rfl⟩); rw [e] at h1; omega
      have HS3 : Hid (V7.cell? ⟨x, 0, none⟩ = some (.slice (some ⟨g2, o2, none⟩) fn fc)) := Lib.hid ((World.cell?_of_block (w := W2) (a := ⟨x, 0, none⟩) (hc7.same x (by have := hB2.size; have := Hc.box.lt; have e : wc.drew.heap.size = wc.heap.size := rfl; omega) (by rw [List.mem_singleton]; exact hxg))).trans HS2.out)
      have HFIN : Hid (RNext w x ox { r.powered with files := r.files.set num ⟨(r.get nm).data ++ news, (r.get nm).sure⟩ } V7) := Lib.hid (by
        have hBw : Below wc.heap.size wc W2 := (Below.refl _ wc).drew.trans hB2
        have hlen : ((r.get nm).data ++ news).length = L + bn := by rw [List.length_append, HLL.out]; have := (hsrcLen); omega
        have hl7 : SLine 2 V7 (some ⟨g2, o2, none⟩) fn fc (flatF (vs.set num (.slice A2 ((r.get nm).data ++ news).length c2, fv.2))) := by
          have h := (Hc.fline.below hBw).set (num * 2) [.slice A2 (L + bn) c2] (by simp; omega)
          rw [setCells_one, hV7] at h
          rw [flatF_set0 vs num fv _ hfv, hlen]
          exact h
        rw [hsu9] at hl7
        have hl6 : SLine 1 W2 A2 ((r.get nm).data ++ news).length c2 ((r.get nm).data ++ news) := by rw [hlen]; exact hl2
        obtain ⟨ox', hO, hfin⟩ := Hc.anew num hfv0 A2 c2 ⟨(r.get nm).data ++ news, (r.get nm).sure⟩ hBw hl6 (fun i hi => .inr (hA2 i hi)) g2 o2 rfl V7 hc7 hl7
        rw [r.powered_files] at hfin
        exact RNext.of HH.out.2 ((((HH.out.1.only1 HB.out.chg).trans (Only.of_below ox hB23)).trans (Only.of_below ox HBc.out)).trans hO) hfin)
      have hW : wc.drew.heap.size = wc.heap.size := rfl
      clear H3 hB23 hfv0 hfv hl9 ho9 hsu9 hg2 hfnl hcs2 hfr2 Hc hlc hr1 hr2 hl2 hB1 hB2 hA2 hc7 hxg hg2c
      go_upto_region 28 with fail
      refine wp_region_held_drew (S := fun W => W.cell? ⟨x, 0, none⟩ = some (.slice (some ⟨g2, o2, none⟩) fn fc)) (by kernel_rfl) HSS.out (fun _ => ?_)
      refine takeH 0 139 (v := (.pointer (some ⟨x, 0, none⟩))) rfl rfl (by kernel_rfl) (by kernel_rfl) (by kernel_rfl) (fun _ _ _ h => h) (by rfl) ?_ HSS.out ?_
      · intro w hSw
        go_simp
      refine takeH 1 140 (v := (.pointer (some ⟨x, 0, none⟩))) rfl rfl (by kernel_rfl) (by kernel_rfl) (by kernel_rfl) (fun _ _ _ h => h) (by rfl) ?_ HSS.out ?_
      · intro w hSw
        go_simp
      refine takeH 2 141 (v := (.pointer (some ⟨x, 0, none⟩))) rfl rfl (by kernel_rfl) (by kernel_rfl) (by kernel_rfl) (fun _ _ _ h => h) (by rfl) ?_ HSS.out ?_
      · intro w hSw
        go_simp
      refine takeH 3 142 (v := (.slice (some ⟨g2, o2, none⟩) fn fc)) rfl rfl (by kernel_rfl) (by kernel_rfl) (by kernel_rfl) (fun _ _ _ h => h) (by rfl) ?_ HSS.out ?_
      · intro w hSw
        go_simp
      refine takeH 4 143 (v := (.int .i64 (num : Int))) rfl rfl (by kernel_rfl) (by kernel_rfl) (by kernel_rfl) (fun _ _ _ h => h) (by rfl) ?_ HSS.out ?_
      · intro w hSw
        go_simp
      refine takeH 6 145 (v := (.pointer (some ⟨x, 0, none⟩))) rfl rfl (by kernel_rfl) (by kernel_rfl) (by kernel_rfl) (fun _ _ _ h => h) (by rfl) ?_ HSS.out ?_
      · intro w hSw
        go_simp
      refine takeH 7 146 (v := (.pointer (some ⟨x, 0, none⟩))) rfl rfl (by kernel_rfl) (by kernel_rfl) (by kernel_rfl) (fun _ _ _ h => h) (by rfl) ?_ HSS.out ?_
      · intro w hSw
        go_simp
      refine takeH 8 147 (v := (.pointer (some ⟨x, 0, none⟩))) rfl rfl (by kernel_rfl) (by kernel_rfl) (by kernel_rfl) (fun _ _ _ h => h) (by rfl) ?_ HSS.out ?_
      · intro w hSw
        go_simp
      refine takeH 9 148 (v := (.slice (some ⟨g2, o2, none⟩) fn fc)) rfl rfl (by kernel_rfl) (by kernel_rfl) (by kernel_rfl) (fun _ _ _ h => h) (by rfl) ?_ HSS.out ?_
      · intro w hSw
        go_simp
      refine takeH 10 149 (v := (.int .i64 (num : Int))) rfl rfl (by kernel_rfl) (by kernel_rfl) (by kernel_rfl) (fun _ _ _ h => h) (by rfl) ?_ HSS.out ?_
      · intro w hSw
        go_simp
      refine takeH 11 150 (v := (.pointer (some ⟨g2, o2 + num * 2, none⟩))) rfl rfl (by kernel_rfl) (by kernel_rfl) (by kernel_rfl) (fun _ _ _ h => h) (by rfl) ?_ HSS.out ?_
      · intro w hSw
        go_simp
      refine takeH 12 151 (v := (.pointer (some ⟨g2, o2 + num * 2, none⟩))) rfl rfl (by kernel_rfl) (by kernel_rfl) (by kernel_rfl) (fun _ _ _ h => h) (by rfl) ?_ HSS.out ?_
      · intro w hSw
        go_simp
      refine takeH 15 154 (v := (.slice BA bn bc)) rfl rfl (by kernel_rfl) (by kernel_rfl) (by kernel_rfl) (fun _ _ _ h => h) (by rfl) ?_ HSS.out ?_
      · intro w hSw
        go_simp
      refine wpAnyH_ready (rs := [5, 13]) (by kernel_rfl) (by simp) ?_
      refine AllReadyH.cons rfl (fun K hK => ?_) (AllReadyH.cons rfl (fun K hK => ?_) AllReadyH.nil)
      · go_simp
        refine hK.out _ _ HSA.out (fun _ => ?_)
        clear hK K
        refine wpAnyH_ready (rs := [13]) (by kernel_rfl) (by simp) ?_
        refine AllReadyH.cons rfl (fun K hK => ?_) AllReadyH.nil
        go_simp
        refine hK.out _ _ HSA.out (fun _ => ?_)
        clear hK K
        refine wpAnyH_ready (rs := [14]) (by kernel_rfl) (by simp) ?_
        refine appendH_ready rfl (by kernel_rfl) _ _ _ _ rfl _ _ rfl rfl _ _ HR1.out HS1.out ?_
        refine wpAnyH_ready (rs := [16]) (by kernel_rfl) (by simp) ?_
        refine appendH_ready rfl (by kernel_rfl) _ _ _ _ rfl _ _ rfl rfl _ _ HR2.out HS2.out ?_
        refine takeH 17 156 (v := (.pointer (some ⟨g2, o2 + num * 2, none⟩))) rfl rfl (by kernel_rfl) (by kernel_rfl) (by kernel_rfl) (fun _ _ _ h => h) (by rfl) ?_ HS2.out ?_
        · intro w hSw
          go_simp
        refine takeH 18 157 (v := (.pointer (some ⟨g2, o2 + num * 2, none⟩))) rfl rfl (by kernel_rfl) (by kernel_rfl) (by kernel_rfl) (fun _ _ _ h => h) (by rfl) ?_ HS2.out ?_
        · intro w hSw
          go_simp
        refine wpAnyH_ready (rs := [19]) (by kernel_rfl) (by simp) ?_
        refine AllReadyH.cons rfl (fun K hK => ?_) AllReadyH.nil
        go_simp
        refine hK.out _ _ HS3.out (fun _ => ?_)
        clear hK K
        refine wpAnyH_done (by kernel_rfl) ?_ _
        go_wp2
        go_ret
        refine ⟨rfl, ?_⟩
        rw [HNUM.out]
        exact HFIN.out
      · go_simp
        refine hK.out _ _ HSS.out (fun _ => ?_)
        clear hK K
        refine wpAnyH_ready (rs := [5]) (by kernel_rfl) (by simp) ?_
        refine AllReadyH.cons rfl (fun K hK => ?_) AllReadyH.nil
        go_simp
        refine hK.out _ _ HSA.out (fun _ => ?_)
        clear hK K
        refine wpAnyH_ready (rs := [14]) (by kernel_rfl) (by simp) ?_
        refine appendH_ready rfl (by kernel_rfl) _ _ _ _ rfl _ _ rfl rfl _ _ HR1.out HS1.out ?_
        refine wpAnyH_ready (rs := [16]) (by kernel_rfl) (by simp) ?_
        refine appendH_ready rfl (by kernel_rfl) _ _ _ _ rfl _ _ rfl rfl _ _ HR2.out HS2.out ?_
        refine takeH 17 156 (v := (.pointer (some ⟨g2, o2 + num * 2, none⟩))) rfl rfl (by kernel_rfl) (by kernel_rfl) (by kernel_rfl) (fun _ _ _ h => h) (by rfl) ?_ HS2.out ?_
        · intro w hSw
          go_simp
        refine takeH 18 157 (v := (.pointer (some ⟨g2, o2 + num * 2, none⟩))) rfl rfl (by kernel_rfl) (by kernel_rfl) (by kernel_rfl) (fun _ _ _ h => h) (by rfl) ?_ HS2.out ?_
        · intro w hSw
          go_simp
        refine wpAnyH_ready (rs := [19]) (by kernel_rfl) (by simp) ?_
        refine AllReadyH.cons rfl (fun K hK => ?_) AllReadyH.nil
        go_simp
        refine hK.out _ _ HS3.out (fun _ => ?_)
        clear hK K
        refine wpAnyH_done (by kernel_rfl) ?_ _
        go_wp2
        go_ret
        refine ⟨rfl, ?_⟩
        rw [HNUM.out]
        exact HFIN.out
  · have hne2 : (b.stop == 0) = false := by simpa using hne
    have hway2 : ¬ (0 : Int) < b.stop := by omega
    obtain ⟨wB, hwB⟩ : ∃ wB, wA = wB := ⟨_, rfl⟩
    subst hwB
    have hbB : XBoxAt wA x (poweredX b) := by
      have e : poweredX b = { b with calls := b.calls + 1 } := by unfold poweredX; rw [if_neg (by rw [hoff]; exact fun e => by cases e), if_neg hne, if_neg hway2]
      rw [e]; exact hbA
    have HB := Lib.hid (OnW.mk hbB hcA)
    clear H F hF hs hof hst hon hcl hbA hbB hcA
    have HMAY := Lib.hid (rmayName_any nm hsz)
    rw [hmay] at HMAY
    have hfound := (atN_num HF.out nm).resolve_left (fun h => by rw [hhas] at h; cases h.2)
    have hat0 : ¬ (r.num nm : Int) < 0 := by omega
    have H1 := HH.out.1.powered HB.out.chg HB.out.box
    have hen : r.powered.now = r.now := by unfold RD.now; rw [r.powered_sure, r.powered_chs]
    have b1 : wA.cell? ⟨x, 1, none⟩ = some (.slice NA nn nc) := HB.out.box.cell 1 _ (by show some (poweredX b).now = _; rw [H1.now])
    have hnr := H1.nrow
    rw [hen] at hnr
    have hnl := HF.out.len (by have := HS.out; omega)
    have hnn : nn ≤ 80000 := by have := hnr.len; omega
    have HAT := Lib.hid (at_any wA NA nn nc r.now hnr (by omega) (HF.out.nums (by have := HS.out; omega)) nm)
    have H1h := Lib.hid H1
    clear H1 hnr hnl
    rw [hfound.1] at HAT
    have HLK := Lib.hid hfound.2.2.2
    obtain ⟨num, hnum⟩ : ∃ num, r.num nm = num := ⟨_, rfl⟩
    have HNUM := Lib.hid hnum
    rw [hnum] at hfound hat0 HAT
    have HNF := Lib.hid hfound.2.2.1
    clear hfound hnum
    go_enter Try.func33, Try.ntmps33
    go_wp2_with fail
    refine (HMAY.out _).mono ?_
    rintro e wm ⟨rfl, rfl⟩
    go_wp2_with fail
    refine HAT.out.mono ?_
    rintro e w2 ⟨rfl, hB2⟩
    have H2 := H1h.out.below hB2
    obtain ⟨w3, hw3⟩ : ∃ w3, w2.alloc (.cells #[.string ⟨#[]⟩, .string ⟨#[]⟩, .int .i64 0] 114) = w3 := ⟨_, rfl⟩
    have hB3 : Below w2.heap.size w2 w3 := by rw [← hw3]; exact (Below.refl _ w2).alloc (Nat.le_refl _) _
    have hva : w3.heap[w2.heap.size]? = some (.cells #[.string ⟨#[]⟩, .string ⟨#[]⟩, .int .i64 0] 114 (0, 0)) := by rw [← hw3]; exact heap_alloc_new w2 _
    obtain ⟨va, hvae⟩ : ∃ va, w2.heap.size = va := ⟨_, rfl⟩
    rw [hvae] at hva
    have i0 : w3.cell? ⟨va, 0, none⟩ = some (.string ⟨#[]⟩) := by rw [cell_of_row _ va 0 _ _ (0, 0) hva]; rfl
    have i1 : w3.cell? ⟨va, 1, none⟩ = some (.string ⟨#[]⟩) := by rw [cell_of_row _ va 1 _ _ (0, 0) hva]; rfl
    have i2 : w3.cell? ⟨va, 2, none⟩ = some (.int .i64 0) := by rw [cell_of_row _ va 2 _ _ (0, 0) hva]; rfl
    have k0 : w3.frozen? ⟨va, 0, none⟩ = false := frozen_of_row w3 va 0 _ _ hva
    have k1 : w3.frozen? ⟨va, 1, none⟩ = false := frozen_of_row w3 va 1 _ _ hva
    have k2 : w3.frozen? ⟨va, 2, none⟩ = false := frozen_of_row w3 va 2 _ _ hva
    have j0 : w3.setCell ⟨va, 0, none⟩ (.string ⟨#[]⟩) = w3 := setCell_id hva rfl
    have j1 : w3.setCell ⟨va, 1, none⟩ (.string ⟨#[]⟩) = w3 := setCell_id hva rfl
    have j2 : w3.setCell ⟨va, 2, none⟩ (.int .i64 0) = w3 := setCell_id hva rfl
    have HVA := Lib.hid hva
    have hnf := HNF.out
    have H3 := H2.below hB3
    have hfv0 : num < vs.length := by rw [H3.fdata.1, r.powered_files]; exact hnf
    obtain ⟨fv, hfv⟩ : ∃ fv, vs[num]? = some fv := ⟨_, List.getElem?_eq_getElem hfv0⟩
    obtain ⟨hsu9, A9, c9, e9, hl9, ho9⟩ := H3.fdata.2 num fv (r.get nm) hfv (by rw [r.powered_files]; unfold RD.get RD.file; rw [HNUM.out, List.getD_eq_getElem?_getD, List.getElem?_eq_getElem hnf]; rfl)
    obtain ⟨y0, y1⟩ := flatF_at vs num fv hfv
    rw [e9] at y0
    obtain ⟨g2, o2, rfl, hg2, hcs2, hfr2⟩ := H3.fline.at (by have := H3.fline.1; rw [flatF_length] at this; omega)
    have hfnl : fn = vs.length := by have := H3.fline.1; rw [flatF_length] at this; omega
    have hfc := H3.fline.2.1
    have z0 : w3.cell? ⟨x, 0, none⟩ = some (.slice (some ⟨g2, o2, none⟩) fn fc) := H3.box.cell 0 _ (by show some (poweredX b).files = _; rw [H3.files])
    have z1 : w3.cell? ⟨g2, o2 + num * 2, none⟩ = some (.slice A9 (r.get nm).data.length c9) := (hcs2 (num * 2) (by omega)).trans y0
    have z2 : w3.cell? ⟨g2, o2 + num * 2 + 1, none⟩ = some (.int .i64 (fv.2 : Int)) := by rw [Nat.add_assoc]; exact (hcs2 (num * 2 + 1) (by omega)).trans y1
    have z1f : w3.frozen? ⟨g2, o2 + num * 2, none⟩ = false := (hfr2 (num * 2) (by omega)).2
    have z2f : w3.frozen? ⟨g2, o2 + num * 2 + 1, none⟩ = false := by rw [Nat.add_assoc]; exact (hfr2 (num * 2 + 1) (by omega)).2
    have hn1 : (num : Int) < (fn : Int) := by omega
    have hn0 : (0 : Int) ≤ (num : Int) := by omega
    obtain ⟨L, hL⟩ : ∃ L, (r.get nm).data.length = L := ⟨_, rfl⟩
    have HLL := Lib.hid hL
    rw [hL] at z1
    have hLb : L ≤ 1048576 := by
      have h1 := HF.out.data _ ((look_some orders_S HF.out.rn).1 HLK.out)
      simp only [numOf_numV] at h1
      rw [← hL]
      exact h1
    have hwr : IntKind.i64.wrap ((L : Int) + (bn : Int)) = (L : Int) + (bn : Int) := by rw [IntKind.wrap_i64]; omega
    have HUSED := Lib.hid (fun (W : World) (hW : Below w3.heap.size w3 W) => (H3.below hW).isUsed HF.out.powered (by have := HS.out; have := r.powered_size; omega))
    have husd : r.powered.used = r.used := by unfold RD.used RD.file RD.now; rw [r.powered_files, r.powered_sure, r.powered_chs]
    rw [husd] at HUSED
    obtain ⟨U, hU⟩ : ∃ U, r.used = U := ⟨_, rfl⟩
    have hub := HF.out.used
    have hqb4 := HF.out.quota
    rw [hU] at HUSED hub
    obtain ⟨Q, hQ⟩ : ∃ Q, r.quota = Q := ⟨_, rfl⟩
    have hqq : (poweredX b).quota = Q := by rw [H3.quota, r.powered_quota]; exact hQ
    rw [hQ] at hqb4
    have z4 : w3.cell? ⟨x, 4, none⟩ = some (.int .i64 Q) := H3.box.cell 4 _ (by show some (Value.int .i64 (poweredX b).quota) = _; rw [hqq])
    have HB4 : Hid (∀ W, Below w3.heap.size w3 W → W.cell? ⟨x, 4, none⟩ = some (.int .i64 Q)) := Lib.hid (fun W hW => (hW.cell (p := ⟨x, 4, none⟩) H3.box.lt).trans z4)
    have HUQ := Lib.hid (And.intro hU hQ)
    clear husd hU hQ hqq
    have hbg : ¬ (1048576 : Int) < (L : Int) + (bn : Int) := by rw [← hL]; omega
    have hfl2 : ¬ Q < (U : Int) + (bn : Int) := by rw [← HUQ.out.1, ← HUQ.out.2]; omega
    have hwu : IntKind.i64.wrap ((U : Int) + (bn : Int)) = (U : Int) + (bn : Int) := by rw [IntKind.wrap_i64]; omega
    have H3h := Lib.hid (And.intro H3 (And.intro (hB2.trans (hB3.mono hB2.size)) (And.intro hfv0 (And.intro hfv (And.intro hl9 (And.intro ho9 (And.intro hsu9 (And.intro hg2 (And.intro hfnl (And.intro hcs2 hfr2))))))))))
    clear H2 H3 hB2 hB3 hva hL hfv0 hfv hl9 hcs2 hfr2 y0 y1 hg2 hen hfnl hfc hroom ho9 hsu9
    go_upto_region 25 with fail
    go_cut [135] from 126 to 135 (fun c wx => c = .bool false ∧ Hid (Below w3.heap.size w3 wx))
    case first =>
      go_region_with (go_at_call 38; refine (HUSED.out w3.drew (Below.refl _ w3).drew).mono ?_; rintro e w5 ⟨rfl, hB5⟩; have hB6 := (Below.refl _ w3).drew.trans hB5; have z5 := HB4.out w5 hB6; have HB6 := Lib.hid hB6; clear hB5 hB6)
      all_goals
        go_wp2_with fail
        go_meet
        exact ⟨by simp <;> omega, HB6⟩
    case rest =>
      obtain ⟨rfl, HBc⟩ := hcut
      obtain ⟨H3, hB23, hfv0, hfv, hl9, ho9, hsu9, hg2, hfnl, hcs2, hfr2⟩ := H3h.out
      have Hc := H3.below HBc.out
      have hlc : SLine 1 wc A9 L c9 (r.get nm).data := by rw [← HLL.out]; exact hl9.below HBc.out
      have HSS : Hid (wc.drew.cell? ⟨x, 0, none⟩ = some (.slice (some ⟨g2, o2, none⟩) fn fc)) := Lib.hid (Hc.box.cell 0 _ (by show some (poweredX b).files = _; rw [Hc.files]))
      have u1 : wc.drew.cell? ⟨g2, o2 + num * 2, none⟩ = some (.slice A9 L c9) := (HBc.out.cell (p := ⟨g2, o2 + num * 2, none⟩) hg2).trans z1
      have u1b : (wc.alloc (.cells #[] 5)).cell? ⟨g2, o2 + num * 2, none⟩ = some (.slice A9 L c9) := (((Below.refl _ wc).alloc (Nat.le_refl _) _).cell (p := ⟨g2, o2 + num * 2, none⟩) (Nat.lt_of_lt_of_le hg2 HBc.out.size)).trans u1
      have u1c : (wc.alloc (.cells #[] 5)).drew.cell? ⟨g2, o2 + num * 2, none⟩ = some (.slice A9 L c9) := u1b
      have HSA : Hid ((wc.drew.alloc (.cells #[] 5)).cell? ⟨x, 0, none⟩ = some (.slice (some ⟨g2, o2, none⟩) fn fc)) := Lib.hid ((((Below.refl _ wc.drew).alloc (Nat.le_refl _) _).cell (p := ⟨x, 0, none⟩) Hc.box.lt).trans HSS.out)
      obtain ⟨A1, c1, W1, A2, c2, W2, hr1, hr2, hl2, hB1, hB2, hA2⟩ := data_runs wc.drew A9 L c9 _ hlc.drew (fun u hu => hone u hu) hLb (.slice BA bn bc) bn news hbn (fun V' hV' => hsrc V' (by
        have h1 := HB.out.chg
        have h2 : Below w3.heap.size w3 V' := (HBc.out.trans ((Below.refl _ wc).drew.mono HBc.out.size)).trans (hV'.mono HBc.out.size)
        exact (((HH.out.1.only1 h1).trans (Only.of_below ox hB23)).trans (Only.of_below ox h2)).2.2) (by
        have h1 := HB.out.chg.size
        have h2 := hB23.size
        have h3 := HBc.out.size
        have h4 := hV'.size
        have e : wc.drew.heap.size = wc.heap.size := rfl
        omega))
      have HR1 : Hid ((Builtin.append_ #[29, 29] 29 #[.slice (some ⟨wc.heap.size, 0, none⟩) 0 0, .slice A9 L c9]).run Try.prog (wc.drew.alloc (.cells #[] 5)) = .ok (.slice A1 L c1) W1) := Lib.hid hr1
      have HR2 := Lib.hid hr2
      have HS1 : Hid (W1.cell? ⟨x, 0, none⟩ = some (.slice (some ⟨g2, o2, none⟩) fn fc)) := Lib.hid ((hB1.cell (p := ⟨x, 0, none⟩) Hc.box.lt).trans HSS.out)
      have HS2 : Hid (W2.cell? ⟨x, 0, none⟩ = some (.slice (some ⟨g2, o2, none⟩) fn fc)) := Lib.hid ((hB2.cell (p := ⟨x, 0, none⟩) Hc.box.lt).trans HSS.out)
      have hg2c : g2 < wc.heap.size := Nat.lt_of_lt_of_le hg2 HBc.out.size
      have t1 : W2.cell? ⟨g2, o2 + num * 2, none⟩ = some (.slice A9 L c9) := (hB2.cell (p := ⟨g2, o2 + num * 2, none⟩) hg2c).trans u1
      have t1f : W2.frozen? ⟨g2, o2 + num * 2, none⟩ = false := by
        rw [World.frozen?_of_block (w := wc.drew) (a := ⟨g2, o2 + num * 2, none⟩) (hB2.block g2 hg2c)]
        exact (World.frozen?_of_block (w := w3) (a := ⟨g2, o2 + num * 2, none⟩) (HBc.out.block g2 hg2)).trans z1f
      obtain ⟨V7, hV7⟩ : ∃ V7, W2.setCell ⟨g2, o2 + num * 2, none⟩ (.slice A2 (L + bn) c2) = V7 := ⟨_, rfl⟩
      have hc7 : Chg [g2] W2 V7 := by rw [← hV7]; exact (Chg.refl _ _).setCell g2 _ _ (.inl (by simp))
      have hxg : x ≠ g2 := fun e => by have h1 := Hc.ob; have h2 := Hc.oF g2 (mem_blk.2 ⟨_, rfl, rfl⟩); rw [e] at h1; omega
      have HS3 : Hid (V7.cell? ⟨x, 0, none⟩ = some (.slice (some ⟨g2, o2, none⟩) fn fc)) := Lib.hid ((World.cell?_of_block (w := W2) (a := ⟨x, 0, none⟩) (hc7.same x (by have := hB2.size; have := Hc.box.lt; have e : wc.drew.heap.size = wc.heap.size := rfl; omega) (by rw [List.mem_singleton]; exact hxg))).trans HS2.out)
      have HFIN : Hid (RNext w x ox { r.powered with files := r.files.set num ⟨(r.get nm).data ++ news, (r.get nm).sure⟩ } V7) := Lib.hid (by
        have hBw : Below wc.heap.size wc W2 := (Below.refl _ wc).drew.trans hB2
        have hlen : ((r.get nm).data ++ news).length = L + bn := by rw [List.length_append, HLL.out]; have := (hsrcLen); omega
        have hl7 : SLine 2 V7 (some ⟨g2, o2, none⟩) fn fc (flatF (vs.set num (.slice A2 ((r.get nm).data ++ news).length c2, fv.2))) := by
          have h := (Hc.fline.below hBw).set (num * 2) [.slice A2 (L + bn) c2] (by simp; omega)
          rw [setCells_one, hV7] at h
          rw [flatF_set0 vs num fv _ hfv, hlen]
          exact h
        rw [hsu9] at hl7
        have hl6 : SLine 1 W2 A2 ((r.get nm).data ++ news).length c2 ((r.get nm).data ++ news) := by rw [hlen]; exact hl2
        obtain ⟨ox', hO, hfin⟩ := Hc.anew num hfv0 A2 c2 ⟨(r.get nm).data ++ news, (r.get nm).sure⟩ hBw hl6 (fun i hi => .inr (hA2 i hi)) g2 o2 rfl V7 hc7 hl7
        rw [r.powered_files] at hfin
        exact RNext.of HH.out.2 ((((HH.out.1.only1 HB.out.chg).trans (Only.of_below ox hB23)).trans (Only.of_below ox HBc.out)).trans hO) hfin)
      have hW : wc.drew.heap.size = wc.heap.size := rfl
      clear H3 hB23 hfv0 hfv hl9 ho9 hsu9 hg2 hfnl hcs2 hfr2 Hc hlc hr1 hr2 hl2 hB1 hB2 hA2 hc7 hxg hg2c
      go_upto_region 28 with fail
      refine wp_region_held_drew (S := fun W => W.cell? ⟨x, 0, none⟩ = some (.slice (some ⟨g2, o2, none⟩) fn fc)) (by kernel_rfl) HSS.out (fun _ => ?_)
      refine takeH 0 139 (v := (.pointer (some ⟨x, 0, none⟩))) rfl rfl (by kernel_rfl) (by kernel_rfl) (by kernel_rfl) (fun _ _ _ h => h) (by rfl) ?_ HSS.out ?_
      · intro w hSw
        go_simp
      refine takeH 1 140 (v := (.pointer (some ⟨x, 0, none⟩))) rfl rfl (by kernel_rfl) (by kernel_rfl) (by kernel_rfl) (fun _ _ _ h => h) (by rfl) ?_ HSS.out ?_
      · intro w hSw
        go_simp
      refine takeH 2 141 (v := (.pointer (some ⟨x, 0, none⟩))) rfl rfl (by kernel_rfl) (by kernel_rfl) (by kernel_rfl) (fun _ _ _ h => h) (by rfl) ?_ HSS.out ?_
      · intro w hSw
        go_simp
      refine takeH 3 142 (v := (.slice (some ⟨g2, o2, none⟩) fn fc)) rfl rfl (by kernel_rfl) (by kernel_rfl) (by kernel_rfl) (fun _ _ _ h => h) (by rfl) ?_ HSS.out ?_
      · intro w hSw
        go_simp
      refine takeH 4 143 (v := (.int .i64 (num : Int))) rfl rfl (by kernel_rfl) (by kernel_rfl) (by kernel_rfl) (fun _ _ _ h => h) (by rfl) ?_ HSS.out ?_
      · intro w hSw
        go_simp
      refine takeH 6 145 (v := (.pointer (some ⟨x, 0, none⟩))) rfl rfl (by kernel_rfl) (by kernel_rfl) (by kernel_rfl) (fun _ _ _ h => h) (by rfl) ?_ HSS.out ?_
      · intro w hSw
        go_simp
      refine takeH 7 146 (v := (.pointer (some ⟨x, 0, none⟩))) rfl rfl (by kernel_rfl) (by kernel_rfl) (by kernel_rfl) (fun _ _ _ h => h) (by rfl) ?_ HSS.out ?_
      · intro w hSw
        go_simp
      refine takeH 8 147 (v := (.pointer (some ⟨x, 0, none⟩))) rfl rfl (by kernel_rfl) (by kernel_rfl) (by kernel_rfl) (fun _ _ _ h => h) (by rfl) ?_ HSS.out ?_
      · intro w hSw
        go_simp
      refine takeH 9 148 (v := (.slice (some ⟨g2, o2, none⟩) fn fc)) rfl rfl (by kernel_rfl) (by kernel_rfl) (by kernel_rfl) (fun _ _ _ h => h) (by rfl) ?_ HSS.out ?_
      · intro w hSw
        go_simp
      refine takeH 10 149 (v := (.int .i64 (num : Int))) rfl rfl (by kernel_rfl) (by kernel_rfl) (by kernel_rfl) (fun _ _ _ h => h) (by rfl) ?_ HSS.out ?_
      · intro w hSw
        go_simp
      refine takeH 11 150 (v := (.pointer (some ⟨g2, o2 + num * 2, none⟩))) rfl rfl (by kernel_rfl) (by kernel_rfl) (by kernel_rfl) (fun _ _ _ h => h) (by rfl) ?_ HSS.out ?_
      · intro w hSw
        go_simp
      refine takeH 12 151 (v := (.pointer (some ⟨g2, o2 + num * 2, none⟩))) rfl rfl (by kernel_rfl) (by kernel_rfl) (by kernel_rfl) (fun _ _ _ h => h) (by rfl) ?_ HSS.out ?_
      · intro w hSw
        go_simp
      refine takeH 15 154 (v := (.slice BA bn bc)) rfl rfl (by kernel_rfl) (by kernel_rfl) (by kernel_rfl) (fun _ _ _ h => h) (by rfl) ?_ HSS.out ?_
      · intro w hSw
        go_simp
      refine wpAnyH_ready (rs := [5, 13]) (by kernel_rfl) (by simp) ?_
      refine AllReadyH.cons rfl (fun K hK => ?_) (AllReadyH.cons rfl (fun K hK => ?_) AllReadyH.nil)
      · go_simp
        refine hK.out _ _ HSA.out (fun _ => ?_)
        clear hK K
        refine wpAnyH_ready (rs := [13]) (by kernel_rfl) (by simp) ?_
        refine AllReadyH.cons rfl (fun K hK => ?_) AllReadyH.nil
        go_simp
        refine hK.out _ _ HSA.out (fun _ => ?_)
        clear hK K
        refine wpAnyH_ready (rs := [14]) (by kernel_rfl) (by simp) ?_
        refine appendH_ready rfl (by kernel_rfl) _ _ _ _ rfl _ _ rfl rfl _ _ HR1.out HS1.out ?_
        refine wpAnyH_ready (rs := [16]) (by kernel_rfl) (by simp) ?_
        refine appendH_ready rfl (by kernel_rfl) _ _ _ _ rfl _ _ rfl rfl _ _ HR2.out HS2.out ?_
        refine takeH 17 156 (v := (.pointer (some ⟨g2, o2 + num * 2, none⟩))) rfl rfl (by kernel_rfl) (by kernel_rfl) (by kernel_rfl) (fun _ _ _ h => h) (by rfl) ?_ HS2.out ?_
        · intro w hSw
          go_simp
        refine takeH 18 157 (v := (.pointer (some ⟨g2, o2 + num * 2, none⟩))) rfl rfl (by kernel_rfl) (by kernel_rfl) (by kernel_rfl) (fun _ _ _ h => h) (by rfl) ?_ HS2.out ?_
        · intro w hSw
          go_simp
        refine wpAnyH_ready (rs := [19]) (by kernel_rfl) (by simp) ?_
        refine AllReadyH.cons rfl (fun K hK => ?_) AllReadyH.nil
        go_simp
        refine hK.out _ _ HS3.out (fun _ => ?_)
        clear hK K
        refine wpAnyH_done (by kernel_rfl) ?_ _
        go_wp2
        go_ret
        refine ⟨rfl, ?_⟩
        rw [HNUM.out]
        exact HFIN.out
      · go_simp
        refine hK.out _ _ HSS.out (fun _ => ?_)
        clear hK K
        refine wpAnyH_ready (rs := [5]) (by kernel_rfl) (by simp) ?_
        refine AllReadyH.cons rfl (fun K hK => ?_) AllReadyH.nil
        go_simp
        refine hK.out _ _ HSA.out (fun _ => ?_)
        clear hK K
        refine wpAnyH_ready (rs := [14]) (by kernel_rfl) (by simp) ?_
        refine appendH_ready rfl (by kernel_rfl) _ _ _ _ rfl _ _ rfl rfl _ _ HR1.out HS1.out ?_
        refine wpAnyH_ready (rs := [16]) (by kernel_rfl) (by simp) ?_
        refine appendH_ready rfl (by kernel_rfl) _ _ _ _ rfl _ _ rfl rfl _ _ HR2.out HS2.out ?_
        refine takeH 17 156 (v := (.pointer (some ⟨g2, o2 + num * 2, none⟩))) rfl rfl (by kernel_rfl) (by kernel_rfl) (by kernel_rfl) (fun _ _ _ h => h) (by rfl) ?_ HS2.out ?_
        · intro w hSw
          go_simp
        refine takeH 18 157 (v := (.pointer (some ⟨g2, o2 + num * 2, none⟩))) rfl rfl (by kernel_rfl) (by kernel_rfl) (by kernel_rfl) (fun _ _ _ h => h) (by rfl) ?_ HS2.out ?_
        · intro w hSw
          go_simp
        refine wpAnyH_ready (rs := [19]) (by kernel_rfl) (by simp) ?_
        refine AllReadyH.cons rfl (fun K hK => ?_) AllReadyH.nil
        go_simp
        refine hK.out _ _ HS3.out (fun _ => ?_)
        clear hK K
        refine wpAnyH_done (by kernel_rfl) ?_ _
        go_wp2
        go_ret
        refine ⟨rfl, ?_⟩
        rw [HNUM.out]
        exact HFIN.out
end
end Go.Proofs.Ytbjlikppboggmaa
namespace Go.Proofs.Ytbjlikppboggmaa
open Go.RowKit Go.Maps
set_option linter.unusedVariables false
set_option maxRecDepth 100000

theorem name_some {nm : ByteArray} (h : nameOk nm = true) : nm ≠ ⟨#[]⟩ := fun e => by rw [e] at h; exact absurd h (by decide)
/-- The names in the directories are not empty. -/
def Named (r : RD) : Prop := (∀ q ∈ r.sure, q.1 ≠ ⟨#[]⟩) ∧ ∀ c ∈ r.chs, ∀ q ∈ c, q.1 ≠ ⟨#[]⟩
theorem lay_named : ∀ (chl : List (List (ByteArray × Value))) (ps : List (ByteArray × Value)), (∀ q ∈ ps, q.1 ≠ ⟨#[]⟩) → (∀ c ∈ chl, ∀ q ∈ c, q.1 ≠ ⟨#[]⟩) → ∀ q ∈ layAll ps chl, q.1 ≠ ⟨#[]⟩ := by
  have one : ∀ (ps : List (ByteArray × Value)) (c : ByteArray × Value), (∀ q ∈ ps, q.1 ≠ ⟨#[]⟩) → c.1 ≠ ⟨#[]⟩ → ∀ q ∈ layOne ps c, q.1 ≠ ⟨#[]⟩ := by
    intro ps c h1 h2 q hq
    by_cases e : c.2 = .pointer none
    · unfold layOne at hq
      rw [e] at hq
      exact h1 q ((mem_dropP orders_S).1 hq).1
    · rw [layOne_put _ _ e] at hq
      rcases (mem_putP orders_S).1 hq with h | h
      · rw [h]; exact h2
      · exact h1 q h.1
  have many : ∀ (c ps : List (ByteArray × Value)), (∀ q ∈ ps, q.1 ≠ ⟨#[]⟩) → (∀ q ∈ c, q.1 ≠ ⟨#[]⟩) → ∀ q ∈ layP ps c, q.1 ≠ ⟨#[]⟩ := by
    intro c
    induction c with
    | nil => exact fun ps h _ => h
    | cons a l ih => exact fun ps h hc => ih _ (one ps a h (hc a (List.mem_cons_self ..))) (fun q hq => hc q (List.mem_cons_of_mem _ hq))
  intro chl
  induction chl with
  | nil => exact fun ps h _ => h
  | cons a l ih => exact fun ps h hc => ih _ (many a ps h (hc a (List.mem_cons_self ..))) (fun c h' => hc c (List.mem_cons_of_mem _ h'))
theorem Named.now {r : RD} (h : Named r) : ∀ q ∈ r.now, q.1 ≠ ⟨#[]⟩ := lay_named r.chs r.sure h.1 h.2
section
variable {w : World} {x : Nat} {ox : Nat → Nat} {r : RD}
theorem begE_off (ns : List ByteArray) (h : r.on = false) : r.begE ns = 5 := by unfold RD.begE; rw [h]; rfl
theorem begE_on (ns : List ByteArray) (h : r.on = true) : r.begE ns = if ns.all nameOk = true then 0 else 1 := by unfold RD.begE; rw [h]; rfl
theorem IsR.syncDir (h : IsR w x ox r) (F : Fct r) (hs : r.size ≤ 79000) :
    Calls Try.prog 33 #[.pointer (some ⟨x, 0, none⟩), .int .i64 3, .string ⟨#[]⟩, .string ⟨#[]⟩, .slice none 0 0] w fun e w' => e = .returned (.int .i64 r.syncDir.1) ∧ RNext w x ox r.syncDir.2 w' := by
  obtain ⟨hF, b, FA, fn, fc, NA, nn, nc, SA, sn, sc, CA, cn, cc, vs, cs, H⟩ := h
  cases hon : r.on with
  | false =>
    have e : r.syncDir = (5, r.powered) := by unfold RD.syncDir; rw [hon]; rfl
    rw [e]
    exact H.call_off hF hs hon 3 ⟨#[]⟩ ⟨#[]⟩ none 0 0
  | true =>
    have e : r.syncDir = (0, { r.powered with sure := r.now, chs := [] }) := by unfold RD.syncDir; rw [hon]; rfl
    rw [e]
    exact H.syncDir_on hF F hs hon
theorem IsR.create (h : IsR w x ox r) (F : Fct r) (hs : r.size ≤ 79000) (he : Named r) (nm : ByteArray) (hsz : nm.size ≤ 1000000) :
    Calls Try.prog 33 #[.pointer (some ⟨x, 0, none⟩), .int .i64 0, .string nm, .string ⟨#[]⟩, .slice none 0 0] w fun e w' => e = .returned (.int .i64 (r.create nm).1) ∧ RNext w x ox (r.create nm).2 w' := by
  obtain ⟨hF, b, FA, fn, fc, NA, nn, nc, SA, sn, sc, CA, cn, cc, vs, cs, H⟩ := h
  cases hon : r.on with
  | false =>
    have e : r.create nm = (5, r.powered) := by unfold RD.create; rw [begE_off _ hon]; rfl
    rw [e]
    exact H.call_off hF hs hon 0 nm ⟨#[]⟩ none 0 0
  | true =>
    have hb := begE_on [nm] hon
    cases hmay : nameOk nm with
    | false =>
      have e : r.create nm = (1, r.powered) := by unfold RD.create; rw [hb]; simp [hmay]
      rw [e]
      exact H.bad0 hF F hs hon nm hsz hmay
    | true =>
      have hb0 : r.begE [nm] = 0 := by rw [hb]; simp [hmay]
      have hfn : fn = r.files.length := by have h1 := H.fline.1; rw [flatF_length, H.fdata.1] at h1; omega
      have hp : pairs (⟨#[]⟩, nm, fn) = [(nm, numV r.files.length)] := by
        unfold pairs
        simp only [if_true, List.nil_append]
        rw [if_neg (name_some hmay), hfn]
      by_cases hbig : hasP ltS r.now nm = false ∧ 1024 ≤ r.now.length
      · have e : r.create nm = (2, r.powered) := by unfold RD.create; rw [if_pos hb0, if_pos hbig]
        rw [e]
        exact H.create_big hF F hs hon nm hsz hmay hbig.1 hbig.2
      · have e : r.create nm = (0, { ({ r.powered with files := r.files ++ [⟨[], 0⟩] } : RD) with chs := r.powered.chs ++ [pairs (⟨#[]⟩, nm, fn)] }) := by
          unfold RD.create
          rw [if_pos hb0, if_neg hbig, hp, r.powered_chs]
        rw [e]
        cases hh : hasP ltS r.now nm with
        | true => exact H.create_old hF F hs hon nm hsz hmay hh he.now
        | false => exact H.create_new hF F hs hon nm hsz hmay hh (by rcases Nat.lt_or_ge r.now.length 1024 with q | q; exact q; exact absurd ⟨hh, q⟩ hbig) he.now
theorem IsR.sync (h : IsR w x ox r) (F : Fct r) (hs : r.size ≤ 79000) (nm : ByteArray) (hsz : nm.size ≤ 1000000) :
    Calls Try.prog 33 #[.pointer (some ⟨x, 0, none⟩), .int .i64 2, .string nm, .string ⟨#[]⟩, .slice none 0 0] w fun e w' => e = .returned (.int .i64 (r.sync nm).1) ∧ RNext w x ox (r.sync nm).2 w' := by
  obtain ⟨hF, b, FA, fn, fc, NA, nn, nc, SA, sn, sc, CA, cn, cc, vs, cs, H⟩ := h
  cases hon : r.on with
  | false =>
    have e : r.sync nm = (5, r.powered) := by unfold RD.sync RD.witE; rw [begE_off _ hon]; rfl
    rw [e]
    exact H.call_off hF hs hon 2 nm ⟨#[]⟩ none 0 0
  | true =>
    have hb := begE_on [nm] hon
    cases hmay : nameOk nm with
    | false =>
      have e : r.sync nm = (1, r.powered) := by unfold RD.sync RD.witE; rw [hb]; simp [hmay]
      rw [e]
      exact H.bad2 hF F hs hon nm hsz hmay
    | true =>
      cases hh : hasP ltS r.now nm with
      | false =>
        have e : r.sync nm = (3, r.powered) := by unfold RD.sync RD.witE; rw [hb]; simp [hmay, hh]
        rw [e]
        exact H.none2 hF F hs hon nm hsz hmay hh
      | true =>
        have e : r.sync nm = (0, { r.powered with files := r.files.set (r.num nm) ⟨(r.get nm).data, (r.get nm).data.length⟩ }) := by unfold RD.sync RD.witE; rw [hb]; simp [hmay, hh]
        rw [e]
        exact H.sync_on hF F hs hon nm hsz hmay hh
theorem IsR.remove (h : IsR w x ox r) (F : Fct r) (hs : r.size ≤ 79000) (he : Named r) (nm : ByteArray) (hsz : nm.size ≤ 1000000) :
    Calls Try.prog 33 #[.pointer (some ⟨x, 0, none⟩), .int .i64 5, .string nm, .string ⟨#[]⟩, .slice none 0 0] w fun e w' => e = .returned (.int .i64 (r.remove nm).1) ∧ RNext w x ox (r.remove nm).2 w' := by
  obtain ⟨hF, b, FA, fn, fc, NA, nn, nc, SA, sn, sc, CA, cn, cc, vs, cs, H⟩ := h
  cases hon : r.on with
  | false =>
    have e : r.remove nm = (5, r.powered) := by unfold RD.remove RD.witE; rw [begE_off _ hon]; rfl
    rw [e]
    exact H.call_off hF hs hon 5 nm ⟨#[]⟩ none 0 0
  | true =>
    have hb := begE_on [nm] hon
    cases hmay : nameOk nm with
    | false =>
      have e : r.remove nm = (1, r.powered) := by unfold RD.remove RD.witE; rw [hb]; simp [hmay]
      rw [e]
      exact H.bad5 hF F hs hon nm hsz hmay
    | true =>
      cases hh : hasP ltS r.now nm with
      | false =>
        have e : r.remove nm = (3, r.powered) := by unfold RD.remove RD.witE; rw [hb]; simp [hmay, hh]
        rw [e]
        exact H.none5 hF F hs hon nm hsz hmay hh
      | true =>
        have e : r.remove nm = (0, { r.powered with chs := r.powered.chs ++ [pairs (nm, ⟨#[]⟩, 0)] }) := by
          unfold RD.remove RD.witE
          rw [hb]
          simp [hmay, hh, pairs, name_some hmay, r.powered_chs]
        rw [e]
        exact H.remove_on hF F hs hon nm hsz hmay hh he.now
theorem IsR.rename (h : IsR w x ox r) (F : Fct r) (hs : r.size ≤ 79000) (he : Named r) (nm to_ : ByteArray) (hsz : nm.size ≤ 1000000) (hsz2 : to_.size ≤ 1000000) :
    Calls Try.prog 33 #[.pointer (some ⟨x, 0, none⟩), .int .i64 4, .string nm, .string to_, .slice none 0 0] w fun e w' => e = .returned (.int .i64 (r.rename nm to_).1) ∧ RNext w x ox (r.rename nm to_).2 w' := by
  obtain ⟨hF, b, FA, fn, fc, NA, nn, nc, SA, sn, sc, CA, cn, cc, vs, cs, H⟩ := h
  cases hon : r.on with
  | false =>
    have e : r.rename nm to_ = (5, r.powered) := by unfold RD.rename RD.witE; rw [begE_off _ hon]; rfl
    rw [e]
    exact H.call_off hF hs hon 4 nm to_ none 0 0
  | true =>
    have hb := begE_on [nm, to_] hon
    cases hmay : nameOk nm with
    | false =>
      have e : r.rename nm to_ = (1, r.powered) := by unfold RD.rename RD.witE; rw [hb]; simp [hmay]
      rw [e]
      exact H.bad4 hF F hs hon nm to_ hsz hmay
    | true =>
      cases hmay2 : nameOk to_ with
      | false =>
        have e : r.rename nm to_ = (1, r.powered) := by unfold RD.rename RD.witE; rw [hb]; simp [hmay, hmay2]
        rw [e]
        exact H.bad4b hF F hs hon nm to_ hsz hsz2 hmay hmay2
      | true =>
        cases hh : hasP ltS r.now nm with
        | false =>
          have e : r.rename nm to_ = (3, r.powered) := by unfold RD.rename RD.witE; rw [hb]; simp [hmay, hmay2, hh]
          rw [e]
          exact H.none4 hF F hs hon nm to_ hsz hsz2 hmay hmay2 hh
        | true =>
          have e : r.rename nm to_ = (0, { r.powered with chs := r.powered.chs ++ [pairs (nm, to_, r.num nm)] }) := by
            unfold RD.rename RD.witE
            rw [hb]
            simp [hmay, hmay2, hh, pairs, name_some hmay, name_some hmay2, r.powered_chs]
          rw [e]
          exact H.rename_on hF F hs hon nm to_ hsz hsz2 hmay hmay2 hh he.now
theorem IsR.append (h : IsR w x ox r) (F : Fct r) (hs : r.size ≤ 79000) (nm : ByteArray) (hsz : nm.size ≤ 1000000) (BA : Option Addr) (bn bc : Nat) (hbn : bn ≤ 10000000) (news : List Value) (hnl : news.length = bn) (hone : hasP ltS r.now nm = true → ∀ u ∈ (r.get nm).data, u.oneCell' = true)
    (hsrc : ∀ V : World, (∀ k, k < w.heap.size → ox k = 0 → V.heap[k]? = w.heap[k]?) → w.heap.size ≤ V.heap.size → Src Try.prog 1 29 (.slice BA bn bc) bn news V) :
    Calls Try.prog 33 #[.pointer (some ⟨x, 0, none⟩), .int .i64 1, .string nm, .string ⟨#[]⟩, .slice BA bn bc] w fun e w' => e = .returned (.int .i64 (r.append nm news).1) ∧ RNext w x ox (r.append nm news).2 w' := by
  obtain ⟨hF, b, FA, fn, fc, NA, nn, nc, SA, sn, sc, CA, cn, cc, vs, cs, H⟩ := h
  cases hon : r.on with
  | false =>
    have e : r.append nm news = (5, r.powered) := by unfold RD.append RD.witE; rw [begE_off _ hon]; rfl
    rw [e]
    exact H.call_off hF hs hon 1 nm ⟨#[]⟩ BA bn bc
  | true =>
    have hb := begE_on [nm] hon
    cases hmay : nameOk nm with
    | false =>
      have e : r.append nm news = (1, r.powered) := by unfold RD.append RD.witE; rw [hb]; simp [hmay]
      rw [e]
      exact H.bad1 hF F hs hon nm BA bn bc hsz hmay
    | true =>
      cases hh : hasP ltS r.now nm with
      | false =>
        have e : r.append nm news = (3, r.powered) := by unfold RD.append RD.witE; rw [hb]; simp [hmay, hh]
        rw [e]
        exact H.none1 hF F hs hon nm BA bn bc hsz hmay hh
      | true =>
        have hw0 : r.witE [nm] nm = 0 := by unfold RD.witE; rw [hb]; simp [hmay, hh]
        by_cases hbig : 1048576 < (r.get nm).data.length + news.length
        · have e : r.append nm news = (2, r.powered) := by unfold RD.append; rw [if_pos hw0, if_pos hbig]
          rw [e]
          exact H.append_big hF F hs hon nm BA bn bc hbn hsz hmay hh (by omega)
        · by_cases hfull : r.quota < (r.used : Int) + (news.length : Int)
          · have e : r.append nm news = (4, { r.powered with full := true }) := by unfold RD.append; rw [if_pos hw0, if_neg hbig, if_pos hfull]
            rw [e]
            exact H.append_full hF F hs hon nm BA bn bc hbn hsz hmay hh (by omega) (by rw [← hnl]; exact hfull)
          · have e : r.append nm news = (0, { r.powered with files := r.files.set (r.num nm) ⟨(r.get nm).data ++ news, (r.get nm).sure⟩ }) := by unfold RD.append; rw [if_pos hw0, if_neg hbig, if_neg hfull]
            rw [e]
            exact H.append_on hF F hs hon nm BA bn bc hbn hsz hmay hh news hnl (hone hh) hsrc (by omega) (by rw [← hnl]; exact hfull)
end
end Go.Proofs.Ytbjlikppboggmaa
