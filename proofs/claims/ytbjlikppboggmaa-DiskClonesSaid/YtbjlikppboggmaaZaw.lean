/-
  The document's disk: Call 5 (Remove) with power, where the name is there.
-/
import Derived.Test.YtbjlikppboggmaaZav
namespace Go.Proofs.Ytbjlikppboggmaa
open Go.RowKit Go.Maps
set_option linter.unusedVariables false
set_option maxRecDepth 100000

theorem infoChg : (Try.prog.info? 114).map (fun i => (i.zero, i.size, i.bytes)) = some (some (.agg #[.string ⟨#[]⟩, .string ⟨#[]⟩, .int .i64 0]), 3, 40) := by kernel_rfl
section
variable {w w' : World} {x : Nat} {ox ox' : Nat → Nat} {b : XBox} {FA NA SA CA : Option Addr} {fn fc nn nc sn sc cn cc : Nat} {vs : List (Value × Nat)} {cs : List (ByteArray × ByteArray × Nat)} {r : RD}
set_option maxHeartbeats 3200000 in
theorem RefIn.remove_on (H : RefIn w x ox b FA fn fc NA nn nc SA sn sc CA cn cc vs cs r) (hF : ∀ i, w.heap.size ≤ i → ox i = 0) (F : Fct r) (hs : r.size ≤ 79000) (hon : r.on = true) (nm : ByteArray) (hsz : nm.size ≤ 1000000) (hmay : nameOk nm = true) (hhas : hasP ltS r.now nm = true) (he : ∀ q ∈ r.now, q.1 ≠ ⟨#[]⟩) :
    Calls Try.prog 33 #[.pointer (some ⟨x, 0, none⟩), .int .i64 5, .string nm, .string ⟨#[]⟩, .slice none 0 0] w fun e w' => e = .returned (.int .i64 0) ∧ RNext w x ox { r.powered with chs := r.powered.chs ++ [pairs (nm, ⟨#[]⟩, 0)] } w' := by
  have hcl : b.calls = (r.calls : Int) := H.calls
  have hcb : 0 ≤ b.calls ∧ b.calls ≤ 80000 := by unfold RD.size at hs; omega
  have hqb := F.stop
  have HF := Lib.hid F
  have HH := Lib.hid (And.intro H hF)
  have HS := Lib.hid hs
  have hof := H.off
  have hst := H.stop
  unfold RD.on at hon
  rw [← hof, ← hst] at hon
  rw [← hst] at hqb
  have c6 : w.cell? ⟨x, 6, none⟩ = some (.bool false) := by
    have h : w.cell? ⟨x, 6, none⟩ = some (.bool b.off) := H.box.cell 6 _ rfl
    have h2 : b.off = false := by cases h : b.off with | false => rfl | true => rw [h] at hon; cases hon
    rw [h, h2]
  have hoff : b.off = false := by cases h : b.off with | false => rfl | true => rw [h] at hon; cases hon
  have hne : b.stop ≠ 0 := by rw [hoff] at hon; simpa using hon
  have c7 : w.cell? ⟨x, 7, none⟩ = some (.int .i64 b.stop) := H.box.cell 7 _ rfl
  have c8 : w.cell? ⟨x, 8, none⟩ = some (.int .i64 b.calls) := H.box.cell 8 _ rfl
  have f8 := H.box.free 8
  obtain ⟨wA, hwA⟩ : ∃ wA, w.setCell ⟨x, 8, none⟩ (.int .i64 (b.calls + 1)) = wA := ⟨_, rfl⟩
  have hbA : XBoxAt wA x { b with calls := b.calls + 1 } := by rw [← hwA]; exact H.box.set 8 _ _ rfl
  have a7 : wA.cell? ⟨x, 7, none⟩ = some (.int .i64 b.stop) := hbA.cell 7 _ rfl
  have g7 := hbA.free 7
  have hcA : Chg [x] w wA := by rw [← hwA]; exact (Chg.refl _ w).setCell x 8 _ (.inl (by simp))
  rcases (show 0 < b.stop ∨ b.stop < 0 by omega) with hway | hway
  · have hne2 : (b.stop == 0) = false := by simpa using hne
    obtain ⟨wB, hwB⟩ : ∃ wB, wA.setCell ⟨x, 7, none⟩ (.int .i64 (b.stop - 1)) = wB := ⟨_, rfl⟩
    have hbB : XBoxAt wB x (poweredX b) := by
      have e : poweredX b = { b with calls := b.calls + 1, stop := b.stop - 1 } := by unfold poweredX; rw [if_neg (by rw [hoff]; exact fun e => by cases e), if_neg hne, if_pos hway]
      rw [e, ← hwB]; exact hbA.set 7 _ _ rfl
    have hcB : Chg [x] w wB := by rw [← hwB]; exact hcA.setCell x 7 _ (.inl (by simp))
    have HB := Lib.hid (OnW.mk hbB hcB)
    clear H F hF hs hof hst hon hcl hbA hbB hcB hcA
    have hemp := he
    have HMAY := Lib.hid (rmayName_any nm hsz)
    rw [hmay] at HMAY
    have hfound := (atN_num HF.out nm).resolve_left (fun h => by rw [hhas] at h; cases h.2)
    have hat0 : ¬ (r.num nm : Int) < 0 := by omega
    have H1 := HH.out.1.powered HB.out.chg HB.out.box
    have hen : r.powered.now = r.now := by unfold RD.now; rw [r.powered_sure, r.powered_chs]
    have b1 : wB.cell? ⟨x, 1, none⟩ = some (.slice NA nn nc) := HB.out.box.cell 1 _ (by show some (poweredX b).now = _; rw [H1.now])
    have hnr := H1.nrow
    rw [hen] at hnr
    have hnl := HF.out.len (by have := HS.out; omega)
    have hnn : nn ≤ 80000 := by have := hnr.len; omega
    have HAT := Lib.hid (at_any wB NA nn nc r.now hnr (by omega) (HF.out.nums (by have := HS.out; omega)) nm)
    have H1h := Lib.hid H1
    clear H1 hnr hnl
    rw [hfound.1] at HAT
    clear hfound
    go_enter Try.func33, Try.ntmps33
    go_wp2_with fail
    refine (HMAY.out _).mono ?_
    rintro e wm ⟨rfl, rfl⟩
    go_wp2_with fail
    refine HAT.out.mono ?_
    rintro e w2 ⟨rfl, hB2⟩
    have H2 := H1h.out.below hB2
    obtain ⟨w3, hw3⟩ : ∃ w3, w2.alloc (.cells #[.string ⟨#[]⟩, .string ⟨#[]⟩, .int .i64 0] 114) = w3 := ⟨_, rfl⟩
    have hB3 : Below w2.heap.size w2 w3 := by rw [← hw3]; exact (Below.refl _ w2).alloc (Nat.le_refl _) _
    have hva : w3.heap[w2.heap.size]? = some (.cells #[.string ⟨#[]⟩, .string ⟨#[]⟩, .int .i64 0] 114 (0, 0)) := by rw [← hw3]; exact heap_alloc_new w2 _
    obtain ⟨va, hvae⟩ : ∃ va, w2.heap.size = va := ⟨_, rfl⟩
    rw [hvae] at hva
    have i0 : w3.cell? ⟨va, 0, none⟩ = some (.string ⟨#[]⟩) := by rw [cell_of_row _ va 0 _ _ (0, 0) hva]; rfl
    have i1 : w3.cell? ⟨va, 1, none⟩ = some (.string ⟨#[]⟩) := by rw [cell_of_row _ va 1 _ _ (0, 0) hva]; rfl
    have i2 : w3.cell? ⟨va, 2, none⟩ = some (.int .i64 0) := by rw [cell_of_row _ va 2 _ _ (0, 0) hva]; rfl
    have k0 : w3.frozen? ⟨va, 0, none⟩ = false := frozen_of_row w3 va 0 _ _ hva
    have k1 : w3.frozen? ⟨va, 1, none⟩ = false := frozen_of_row w3 va 1 _ _ hva
    have k2 : w3.frozen? ⟨va, 2, none⟩ = false := frozen_of_row w3 va 2 _ _ hva
    have j0 : w3.setCell ⟨va, 0, none⟩ (.string ⟨#[]⟩) = w3 := setCell_id hva rfl
    have j1 : w3.setCell ⟨va, 1, none⟩ (.string ⟨#[]⟩) = w3 := setCell_id hva rfl
    have j2 : w3.setCell ⟨va, 2, none⟩ (.int .i64 0) = w3 := setCell_id hva rfl
    have HVA := Lib.hid hva
    obtain ⟨w4, hw4⟩ : ∃ w4, w3.setCell ⟨va, 0, none⟩ (.string nm) = w4 := ⟨_, rfl⟩
    have hv4 : w4.heap[va]? = some (.cells #[.string nm, .string ⟨#[]⟩, .int .i64 ((0 : Nat) : Int)] 114 (0, 0)) := by rw [← hw4, heap_setCell_same w3 va 0 _ _ _ hva]; rfl
    have hB4 : Below w2.heap.size w2 w4 := by rw [← hw4]; exact hB3.trans (((Chg.refl [va] w3).setCell va 0 _ (.inl (by simp))).toBelow (fun k hk => by rw [List.mem_singleton] at hk; omega) hB3.size)
    have H4 := H2.below hB4
    have HO4 := Lib.hid (((HH.out.1.only1 HB.out.chg).trans (Only.of_below ox (hB2.trans (hB4.mono hB2.size)))))
    have hnum : 0 ≤ 1000000 := by omega
    clear H2 hB2 hB3 hB4 hva
    have hap4 : ∀ W, W.heap = w4.heap → Calls Try.prog 58 #[.slice NA nn nc, .agg #[.string (nm), .string (⟨#[]⟩), .int .i64 ((0 : Nat) : Int)]] W fun e w' => (∃ A' c', e = .returned (.slice A' (applyN r.now (nm) (⟨#[]⟩) (0)).length c') ∧ RowG encS ltS w' A' (applyN r.now (nm) (⟨#[]⟩) (0)).length c' (applyN r.now (nm) (⟨#[]⟩) (0)) ∧ ∀ k ∈ blk A', W.heap.size ≤ k) ∧ Below W.heap.size W w' := fun W hW => by
      have hr4 : RowG encS ltS w4 NA nn nc r.now := by rw [← hen]; exact H4.nrow
      exact apply_any W NA nn nc r.now (hr4.same (by rw [hW]; exact Nat.le_refl _) (fun k hk => by rw [hW])) (by omega) (HF.out.nums (by have := HS.out; omega)) (nm) (⟨#[]⟩) (0) hnum
    have HAP := Lib.hid hap4
    have q1 : w4.cell? ⟨x, 1, none⟩ = some (.slice NA nn nc) := H4.box.cell 1 _ (by show some (poweredX b).now = _; rw [H4.now])
    have v0 : w4.cell? ⟨va, 0, none⟩ = some (.string (nm)) := by rw [cell_of_row _ va 0 _ _ (0, 0) hv4]; rfl
    have v1 : w4.cell? ⟨va, 1, none⟩ = some (.string (⟨#[]⟩)) := by rw [cell_of_row _ va 1 _ _ (0, 0) hv4]; rfl
    have v2 : w4.cell? ⟨va, 2, none⟩ = some (.int .i64 ((0 : Nat) : Int)) := by rw [cell_of_row _ va 2 _ _ (0, 0) hv4]; rfl
    have H4h := Lib.hid (And.intro H4 hv4)
    obtain ⟨ap, hapn⟩ : ∃ ap, applyN r.now (nm) (⟨#[]⟩) (0) = ap := ⟨_, rfl⟩
    have HAPN := Lib.hid hapn
    rw [hapn] at HAP
    clear hap4 H4 hv4 hapn hen
    go_upto_region 39 with fail
    go_cut [] from 195 to 203 (fun wx => Hid (∃ V3 A' c', Below w4.heap.size w4 V3 ∧ RowG encS ltS V3 A' ap.length c' ap ∧ (∀ k ∈ blk A', w4.heap.size ≤ k) ∧ V3.setCell ⟨x, 1, none⟩ (.slice A' ap.length c') = wx))
    case first =>
      go_region_with (go_at_call 58; refine (HAP.out w4.drew rfl).mono ?_; rintro e w5 ⟨⟨A5, c5, rfl, hrow5, hfr5⟩, hB5⟩; have H5 := H4h.out.1.below ((Below.refl _ w4).drew.trans hB5); have s1 : w5.cell? ⟨x, 1, none⟩ = some (.slice NA nn nc) := H5.box.cell 1 _ (by show some (poweredX b).now = _; rw [H5.now]); have s2 := H5.box.free 1; have HR5 := Lib.hid (And.intro ((Below.refl _ w4).drew.trans hB5) (And.intro hrow5 hfr5)); clear hrow5 hfr5 hB5 H5)
      all_goals
        go_wp2_with fail
        go_meet
        exact Lib.hid ⟨_, _, _, HR5.out.1, HR5.out.2.1, HR5.out.2.2, rfl⟩
    case rest =>
      obtain ⟨V3, A5, c5, hB5, hrow5, hfr5, hV4⟩ := hcut.out
      have H5 := H4h.out.1.below hB5
      have hbx : XBoxAt wc x { (poweredX b) with now := .slice A5 ap.length c5 } := by rw [← hV4]; exact H5.box.set 1 _ _ rfl
      have hc45 : Chg [x] V3 wc := by rw [← hV4]; exact (Chg.refl _ V3).setCell x 1 _ (.inl (by simp))
      have hvax : va ≠ x := fun e => by have h := H4h.out.2; rw [e] at h; have h2 := H4h.out.1.box; unfold XBoxAt at h2; have h3 := Option.some.inj (h2.symm.trans h); injection h3 with e1 e2 e3; exact absurd e2 (by decide)
      have hvc : wc.heap[va]? = some (.cells #[.string (nm), .string (⟨#[]⟩), .int .i64 ((0 : Nat) : Int)] 114 (0, 0)) := by
        have h1 := hB5.block va (lt_of_block H4h.out.2)
        have h2 := hc45.same va (by have := hB5.size; have := lt_of_block H4h.out.2; omega) (by rw [List.mem_singleton]; exact hvax)
        exact h2.trans (h1.trans H4h.out.2)
      have v0 : wc.drew.cell? ⟨va, 0, none⟩ = some (.string (nm)) := by
        show wc.cell? ⟨va, 0, none⟩ = _
        rw [cell_of_row _ va 0 _ _ (0, 0) hvc]; rfl
      have v1 : wc.drew.cell? ⟨va, 1, none⟩ = some (.string (⟨#[]⟩)) := by
        show wc.cell? ⟨va, 1, none⟩ = _
        rw [cell_of_row _ va 1 _ _ (0, 0) hvc]; rfl
      have v2 : wc.drew.cell? ⟨va, 2, none⟩ = some (.int .i64 ((0 : Nat) : Int)) := by
        show wc.cell? ⟨va, 2, none⟩ = _
        rw [cell_of_row _ va 2 _ _ (0, 0) hvc]; rfl
      have u3 : wc.drew.cell? ⟨x, 3, none⟩ = some (.slice CA cn cc) := hbx.cell 3 _ (by show some (poweredX b).changes = _; rw [H5.changes])
      have u3b : (wc.drew.alloc (.cells #[.string (nm), .string (⟨#[]⟩), .int .i64 ((0 : Nat) : Int)] 114)).cell? ⟨x, 3, none⟩ = some (.slice CA cn cc) := by
        rw [World.cell?_of_block (w := wc.drew) (a := ⟨x, 3, none⟩) (((Below.refl _ wc.drew).alloc (Nat.le_refl _) _).block x hbx.lt)]
        exact u3
      have u3c : (wc.alloc (.cells #[.string (nm), .string (⟨#[]⟩), .int .i64 0] 114)).cell? ⟨x, 3, none⟩ = some (.slice CA cn cc) := u3b
      have u3d : (wc.alloc (.cells #[.string (nm), .string (⟨#[]⟩), .int .i64 0] 114)).drew.cell? ⟨x, 3, none⟩ = some (.slice CA cn cc) := u3b
      have hcl5 : SLine 3 wc.drew CA cn cc (flatC cs) := (H5.cline.chg hc45 (fun k hk hm => by rw [List.mem_singleton] at hm; rw [hm] at hk; have := H5.oC x hk; have := H5.ob; omega)).drew
      have hcn : cn ≤ 80000 := by
        have h1 := H5.cline.1
        rw [flatC_length] at h1
        have h2 : cs.length = r.chs.length := by rw [← r.powered_chs, H5.chs, List.length_map]
        have := HS.out
        unfold RD.size at this
        omega
      obtain ⟨C', c2, V6, hr6, hl6, hc6, hf6, _⟩ := push_s 3 wc.drew 73 114 73 _ 40 Try.underlying73 infoChg rfl (by decide) CA cn cc _ hcl5 (by omega) [.string (nm), .string (⟨#[]⟩), .int .i64 ((0 : Nat) : Int)] rfl (fun u hu => by simp only [List.mem_cons, List.not_mem_nil, or_false] at hu; rcases hu with h | h | h <;> (rw [h]; rfl))
      have HR6 : Hid ((Builtin.append_ #[73, 73] 73 #[.slice CA cn cc, .slice (some ⟨wc.heap.size, 0, none⟩) 1 1]).run Try.prog (wc.drew.alloc (.cells #[.string (nm), .string (⟨#[]⟩), .int .i64 ((0 : Nat) : Int)] 114)) = .ok (.slice C' (cn + 1) c2) V6) := Lib.hid hr6
      have hbx6 : XBoxAt V6 x { (poweredX b) with now := .slice A5 ap.length c5 } := by
        have h1 : XBoxAt wc.drew x { (poweredX b) with now := .slice A5 ap.length c5 } := hbx
        exact h1.chg hc6 (fun hm => by have := H5.oC x hm; have := H5.ob; omega)
      have t3 : V6.cell? ⟨x, 3, none⟩ = some (.slice CA cn cc) := hbx6.cell 3 _ (by show some (poweredX b).changes = _; rw [H5.changes])
      have t3f := hbx6.free 3
      obtain ⟨V7, hV7⟩ : ∃ V7, V6.setCell ⟨x, 3, none⟩ (.slice C' (cn + 1) c2) = V7 := ⟨_, rfl⟩
      have HFIN : Hid (RNext w x ox { r.powered with chs := r.powered.chs ++ [pairs (nm, ⟨#[]⟩, 0)] } V7) := Lib.hid (by
        have hlay : ap = layP (RD.now r.powered) (pairs (nm, ⟨#[]⟩, 0)) := by
          rw [← HAPN.out, show r.powered.now = r.now from by unfold RD.now; rw [r.powered_sure, r.powered_chs]]
          exact applyN_lay HF.out.rn hemp (nm) (⟨#[]⟩) (0)
        obtain ⟨ox', hO, hfin⟩ := H4h.out.1.turned (nm, ⟨#[]⟩, 0) hB5 A5 _ c5 (by rw [← hlay]; exact hrow5) hfr5 hV4 (Below.refl _ wc).drew C' c2 (by rw [flatC_snoc]; exact hl6) hc6 hf6 hV7
        exact RNext.of HH.out.2 (HO4.out.trans hO) hfin)
      have hW : wc.drew.heap.size = wc.heap.size := rfl
      clear hbx hc45 hvc hcl5 hr6 hl6 hc6 hf6 hbx6 hrow5 hfr5 hB5 H5 hvax
      go_wp2_with fail
      refine wp_region_any (by kernel_rfl) ?_
      change wpAny _ _ _ _ _ _ _ (World.drew _)
      refine wpAny_take (i := 0) (v := (.pointer (some ⟨x, 0, none⟩))) rfl (by kernel_rfl) (by kernel_rfl) (by kernel_rfl) (fun _ _ _ h => h) (Or.inl ⟨by rfl, (by intro w; go_simp)⟩) ?_
      refine wpAny_take (i := 1) (v := (.pointer (some ⟨x, 0, none⟩))) rfl (by kernel_rfl) (by kernel_rfl) (by kernel_rfl) (fun _ _ _ h => h) (Or.inl ⟨by rfl, (by intro w; go_simp)⟩) ?_
      refine wpAny_take (i := 2) (v := (.pointer (some ⟨x, 0, none⟩))) rfl (by kernel_rfl) (by kernel_rfl) (by kernel_rfl) (fun _ _ _ h => h) (Or.inl ⟨by rfl, (by intro w; go_simp)⟩) ?_
      refine wpAny_take (i := 3) (v := (.pointer (some ⟨x, 3, none⟩))) rfl (by kernel_rfl) (by kernel_rfl) (by kernel_rfl) (fun _ _ _ h => h) (Or.inl ⟨by rfl, (by intro w; go_simp)⟩) ?_
      refine wpAny_ready (rs := [4, 5]) (by kernel_rfl) (by simp) ?_
      refine AllReady.cons rfl (fun K hK => ?_) (AllReady.cons rfl (fun K hK => ?_) AllReady.nil)
      · go_simp
        refine hK _ _ ?_
        clear hK K
        refine wpAny_ready (rs := [5]) (by kernel_rfl) (by simp) ?_
        refine AllReady.cons rfl (fun K hK => ?_) AllReady.nil
        go_simp
        refine hK _ _ ?_
        clear hK K
        refine wpAny_ready (rs := [6]) (by kernel_rfl) (by simp) ?_
        refine AllReady.cons rfl (fun K hK => ?_) AllReady.nil
        go_simp
        refine hK _ _ ?_
        clear hK K
        refine wpAny_ready (rs := [7]) (by kernel_rfl) (by simp) ?_
        refine append_ready rfl (by kernel_rfl) _ _ _ _ rfl _ _ rfl rfl _ _ HR6.out ?_
        refine wpAny_take (i := 8) (v := (.pointer (some ⟨x, 0, none⟩))) rfl (by kernel_rfl) (by kernel_rfl) (by kernel_rfl) (fun _ _ _ h => h) (Or.inl ⟨by rfl, (by intro w; go_simp)⟩) ?_
        refine wpAny_take (i := 9) (v := (.pointer (some ⟨x, 3, none⟩))) rfl (by kernel_rfl) (by kernel_rfl) (by kernel_rfl) (fun _ _ _ h => h) (Or.inl ⟨by rfl, (by intro w; go_simp)⟩) ?_
        refine wpAny_ready (rs := [10]) (by kernel_rfl) (by simp) ?_
        refine AllReady.cons rfl (fun K hK => ?_) AllReady.nil
        go_simp
        refine hK _ _ ?_
        clear hK K
        refine wpAny_done (by kernel_rfl) ?_ _
        go_wp2
        go_ret
        exact ⟨rfl, HFIN.out⟩
      · go_simp
        refine hK _ _ ?_
        clear hK K
        refine wpAny_ready (rs := [4, 6]) (by kernel_rfl) (by simp) ?_
        refine AllReady.cons rfl (fun K hK => ?_) (AllReady.cons rfl (fun K hK => ?_) AllReady.nil)
        · go_simp
          refine hK _ _ ?_
          clear hK K
          refine wpAny_ready (rs := [6]) (by kernel_rfl) (by simp) ?_
          refine AllReady.cons rfl (fun K hK => ?_) AllReady.nil
          go_simp
          refine hK _ _ ?_
          clear hK K
          refine wpAny_ready (rs := [7]) (by kernel_rfl) (by simp) ?_
          refine append_ready rfl (by kernel_rfl) _ _ _ _ rfl _ _ rfl rfl _ _ HR6.out ?_
          refine wpAny_take (i := 8) (v := (.pointer (some ⟨x, 0, none⟩))) rfl (by kernel_rfl) (by kernel_rfl) (by kernel_rfl) (fun _ _ _ h => h) (Or.inl ⟨by rfl, (by intro w; go_simp)⟩) ?_
          refine wpAny_take (i := 9) (v := (.pointer (some ⟨x, 3, none⟩))) rfl (by kernel_rfl) (by kernel_rfl) (by kernel_rfl) (fun _ _ _ h => h) (Or.inl ⟨by rfl, (by intro w; go_simp)⟩) ?_
          refine wpAny_ready (rs := [10]) (by kernel_rfl) (by simp) ?_
          refine AllReady.cons rfl (fun K hK => ?_) AllReady.nil
          go_simp
          refine hK _ _ ?_
          clear hK K
          refine wpAny_done (by kernel_rfl) ?_ _
          go_wp2
          go_ret
          exact ⟨rfl, HFIN.out⟩
        · go_simp
          refine hK _ _ ?_
          clear hK K
          refine wpAny_ready (rs := [4]) (by kernel_rfl) (by simp) ?_
          refine AllReady.cons rfl (fun K hK => ?_) AllReady.nil
          go_simp
          refine hK _ _ ?_
          clear hK K
          refine wpAny_ready (rs := [7]) (by kernel_rfl) (by simp) ?_
          refine append_ready rfl (by kernel_rfl) _ _ _ _ rfl _ _ rfl rfl _ _ HR6.out ?_
          refine wpAny_take (i := 8) (v := (.pointer (some ⟨x, 0, none⟩))) rfl (by kernel_rfl) (by kernel_rfl) (by kernel_rfl) (fun _ _ _ h => h) (Or.inl ⟨by rfl, (by intro w; go_simp)⟩) ?_
          refine wpAny_take (i := 9) (v := (.pointer (some ⟨x, 3, none⟩))) rfl (by kernel_rfl) (by kernel_rfl) (by kernel_rfl) (fun _ _ _ h => h) (Or.inl ⟨by rfl, (by intro w; go_simp)⟩) ?_
          refine wpAny_ready (rs := [10]) (by kernel_rfl) (by simp) ?_
          refine AllReady.cons rfl (fun K hK => ?_) AllReady.nil
          go_simp
          refine hK _ _ ?_
          clear hK K
          refine wpAny_done (by kernel_rfl) ?_ _
          go_wp2
          go_ret
          exact ⟨rfl, HFIN.out⟩
  · have hne2 : (b.stop == 0) = false := by simpa using hne
    have hway2 : ¬ (0 : Int) < b.stop := by omega
    obtain ⟨wB, hwB⟩ : ∃ wB, wA = wB := ⟨_, rfl⟩
    subst hwB
    have hbB : XBoxAt wA x (poweredX b) := by
      have e : poweredX b = { b with calls := b.calls + 1 } := by unfold poweredX; rw [if_neg (by rw [hoff]; exact fun e => by cases e), if_neg hne, if_neg hway2]
      rw [e]; exact hbA
    have HB := Lib.hid (OnW.mk hbB hcA)
    clear H F hF hs hof hst hon hcl hbA hbB hcA
    have hemp := he
    have HMAY := Lib.hid (rmayName_any nm hsz)
    rw [hmay] at HMAY
    have hfound := (atN_num HF.out nm).resolve_left (fun h => by rw [hhas] at h; cases h.2)
    have hat0 : ¬ (r.num nm : Int) < 0 := by omega
    have H1 := HH.out.1.powered HB.out.chg HB.out.box
    have hen : r.powered.now = r.now := by unfold RD.now; rw [r.powered_sure, r.powered_chs]
    have b1 : wA.cell? ⟨x, 1, none⟩ = some (.slice NA nn nc) := HB.out.box.cell 1 _ (by show some (poweredX b).now = _; rw [H1.now])
    have hnr := H1.nrow
    rw [hen] at hnr
    have hnl := HF.out.len (by have := HS.out; omega)
    have hnn : nn ≤ 80000 := by have := hnr.len; omega
    have HAT := Lib.hid (at_any wA NA nn nc r.now hnr (by omega) (HF.out.nums (by have := HS.out; omega)) nm)
    have H1h := Lib.hid H1
    clear H1 hnr hnl
    rw [hfound.1] at HAT
    clear hfound
    go_enter Try.func33, Try.ntmps33
    go_wp2_with fail
    refine (HMAY.out _).mono ?_
    rintro e wm ⟨rfl, rfl⟩
    go_wp2_with fail
    refine HAT.out.mono ?_
    rintro e w2 ⟨rfl, hB2⟩
    have H2 := H1h.out.below hB2
    obtain ⟨w3, hw3⟩ : ∃ w3, w2.alloc (.cells #[.string ⟨#[]⟩, .string ⟨#[]⟩, .int .i64 0] 114) = w3 := ⟨_, rfl⟩
    have hB3 : Below w2.heap.size w2 w3 := by rw [← hw3]; exact (Below.refl _ w2).alloc (Nat.le_refl _) _
    have hva : w3.heap[w2.heap.size]? = some (.cells #[.string ⟨#[]⟩, .string ⟨#[]⟩, .int .i64 0] 114 (0, 0)) := by rw [← hw3]; exact heap_alloc_new w2 _
    obtain ⟨va, hvae⟩ : ∃ va, w2.heap.size = va := ⟨_, rfl⟩
    rw [hvae] at hva
    have i0 : w3.cell? ⟨va, 0, none⟩ = some (.string ⟨#[]⟩) := by rw [cell_of_row _ va 0 _ _ (0, 0) hva]; rfl
    have i1 : w3.cell? ⟨va, 1, none⟩ = some (.string ⟨#[]⟩) := by rw [cell_of_row _ va 1 _ _ (0, 0) hva]; rfl
    have i2 : w3.cell? ⟨va, 2, none⟩ = some (.int .i64 0) := by rw [cell_of_row _ va 2 _ _ (0, 0) hva]; rfl
    have k0 : w3.frozen? ⟨va, 0, none⟩ = false := frozen_of_row w3 va 0 _ _ hva
    have k1 : w3.frozen? ⟨va, 1, none⟩ = false := frozen_of_row w3 va 1 _ _ hva
    have k2 : w3.frozen? ⟨va, 2, none⟩ = false := frozen_of_row w3 va 2 _ _ hva
    have j0 : w3.setCell ⟨va, 0, none⟩ (.string ⟨#[]⟩) = w3 := setCell_id hva rfl
    have j1 : w3.setCell ⟨va, 1, none⟩ (.string ⟨#[]⟩) = w3 := setCell_id hva rfl
    have j2 : w3.setCell ⟨va, 2, none⟩ (.int .i64 0) = w3 := setCell_id hva rfl
    have HVA := Lib.hid hva
    obtain ⟨w4, hw4⟩ : ∃ w4, w3.setCell ⟨va, 0, none⟩ (.string nm) = w4 := ⟨_, rfl⟩
    have hv4 : w4.heap[va]? = some (.cells #[.string nm, .string ⟨#[]⟩, .int .i64 ((0 : Nat) : Int)] 114 (0, 0)) := by rw [← hw4, heap_setCell_same w3 va 0 _ _ _ hva]; rfl
    have hB4 : Below w2.heap.size w2 w4 := by rw [← hw4]; exact hB3.trans (((Chg.refl [va] w3).setCell va 0 _ (.inl (by simp))).toBelow (fun k hk => by rw [List.mem_singleton] at hk; omega) hB3.size)
    have H4 := H2.below hB4
    have HO4 := Lib.hid (((HH.out.1.only1 HB.out.chg).trans (Only.of_below ox (hB2.trans (hB4.mono hB2.size)))))
    have hnum : 0 ≤ 1000000 := by omega
    clear H2 hB2 hB3 hB4 hva
    have hap4 : ∀ W, W.heap = w4.heap → Calls Try.prog 58 #[.slice NA nn nc, .agg #[.string (nm), .string (⟨#[]⟩), .int .i64 ((0 : Nat) : Int)]] W fun e w' => (∃ A' c', e = .returned (.slice A' (applyN r.now (nm) (⟨#[]⟩) (0)).length c') ∧ RowG encS ltS w' A' (applyN r.now (nm) (⟨#[]⟩) (0)).length c' (applyN r.now (nm) (⟨#[]⟩) (0)) ∧ ∀ k ∈ blk A', W.heap.size ≤ k) ∧ Below W.heap.size W w' := fun W hW => by
      have hr4 : RowG encS ltS w4 NA nn nc r.now := by rw [← hen]; exact H4.nrow
      exact apply_any W NA nn nc r.now (hr4.same (by rw [hW]; exact Nat.le_refl _) (fun k hk => by rw [hW])) (by omega) (HF.out.nums (by have := HS.out; omega)) (nm) (⟨#[]⟩) (0) hnum
    have HAP := Lib.hid hap4
    have q1 : w4.cell? ⟨x, 1, none⟩ = some (.slice NA nn nc) := H4.box.cell 1 _ (by show some (poweredX b).now = _; rw [H4.now])
    have v0 : w4.cell? ⟨va, 0, none⟩ = some (.string (nm)) := by rw [cell_of_row _ va 0 _ _ (0, 0) hv4]; rfl
    have v1 : w4.cell? ⟨va, 1, none⟩ = some (.string (⟨#[]⟩)) := by rw [cell_of_row _ va 1 _ _ (0, 0) hv4]; rfl
    have v2 : w4.cell? ⟨va, 2, none⟩ = some (.int .i64 ((0 : Nat) : Int)) := by rw [cell_of_row _ va 2 _ _ (0, 0) hv4]; rfl
    have H4h := Lib.hid (And.intro H4 hv4)
    obtain ⟨ap, hapn⟩ : ∃ ap, applyN r.now (nm) (⟨#[]⟩) (0) = ap := ⟨_, rfl⟩
    have HAPN := Lib.hid hapn
    rw [hapn] at HAP
    clear hap4 H4 hv4 hapn hen
    go_upto_region 39 with fail
    go_cut [] from 195 to 203 (fun wx => Hid (∃ V3 A' c', Below w4.heap.size w4 V3 ∧ RowG encS ltS V3 A' ap.length c' ap ∧ (∀ k ∈ blk A', w4.heap.size ≤ k) ∧ V3.setCell ⟨x, 1, none⟩ (.slice A' ap.length c') = wx))
    case first =>
      go_region_with (go_at_call 58; refine (HAP.out w4.drew rfl).mono ?_; rintro e w5 ⟨⟨A5, c5, rfl, hrow5, hfr5⟩, hB5⟩; have H5 := H4h.out.1.below ((Below.refl _ w4).drew.trans hB5); have s1 : w5.cell? ⟨x, 1, none⟩ = some (.slice NA nn nc) := H5.box.cell 1 _ (by show some (poweredX b).now = _; rw [H5.now]); have s2 := H5.box.free 1; have HR5 := Lib.hid (And.intro ((Below.refl _ w4).drew.trans hB5) (And.intro hrow5 hfr5)); clear hrow5 hfr5 hB5 H5)
      all_goals
        go_wp2_with fail
        go_meet
        exact Lib.hid ⟨_, _, _, HR5.out.1, HR5.out.2.1, HR5.out.2.2, rfl⟩
    case rest =>
      obtain ⟨V3, A5, c5, hB5, hrow5, hfr5, hV4⟩ := hcut.out
      have H5 := H4h.out.1.below hB5
      have hbx : XBoxAt wc x { (poweredX b) with now := .slice A5 ap.length c5 } := by rw [← hV4]; exact H5.box.set 1 _ _ rfl
      have hc45 : Chg [x] V3 wc := by rw [← hV4]; exact (Chg.refl _ V3).setCell x 1 _ (.inl (by simp))
      have hvax : va ≠ x := fun e => by have h := H4h.out.2; rw [e] at h; have h2 := H4h.out.1.box; unfold XBoxAt at h2; have h3 := Option.some.inj (h2.symm.trans h); injection h3 with e1 e2 e3; exact absurd e2 (by decide)
      have hvc : wc.heap[va]? = some (.cells #[.string (nm), .string (⟨#[]⟩), .int .i64 ((0 : Nat) : Int)] 114 (0, 0)) := by
        have h1 := hB5.block va (lt_of_block H4h.out.2)
        have h2 := hc45.same va (by have := hB5.size; have := lt_of_block H4h.out.2; omega) (by rw [List.mem_singleton]; exact hvax)
        exact h2.trans (h1.trans H4h.out.2)
      have v0 : wc.drew.cell? ⟨va, 0, none⟩ = some (.string (nm)) := by
        show wc.cell? ⟨va, 0, none⟩ = _
        rw [cell_of_row _ va 0 _ _ (0, 0) hvc]; rfl
      have v1 : wc.drew.cell? ⟨va, 1, none⟩ = some (.string (⟨#[]⟩)) := by
        show wc.cell? ⟨va, 1, none⟩ = _
        rw [cell_of_row _ va 1 _ _ (0, 0) hvc]; rfl
      have v2 : wc.drew.cell? ⟨va, 2, none⟩ = some (.int .i64 ((0 : Nat) : Int)) := by
        show wc.cell? ⟨va, 2, none⟩ = _
        rw [cell_of_row _ va 2 _ _ (0, 0) hvc]; rfl
      have u3 : wc.drew.cell? ⟨x, 3, none⟩ = some (.slice CA cn cc) := hbx.cell 3 _ (by show some (poweredX b).changes = _; rw [H5.changes])
      have u3b : (wc.drew.alloc (.cells #[.string (nm), .string (⟨#[]⟩), .int .i64 ((0 : Nat) : Int)] 114)).cell? ⟨x, 3, none⟩ = some (.slice CA cn cc) := by
        rw [World.cell?_of_block (w := wc.drew) (a := ⟨x, 3, none⟩) (((Below.refl _ wc.drew).alloc (Nat.le_refl _) _).block x hbx.lt)]
        exact u3
      have u3c : (wc.alloc (.cells #[.string (nm), .string (⟨#[]⟩), .int .i64 0] 114)).cell? ⟨x, 3, none⟩ = some (.slice CA cn cc) := u3b
      have u3d : (wc.alloc (.cells #[.string (nm), .string (⟨#[]⟩), .int .i64 0] 114)).drew.cell? ⟨x, 3, none⟩ = some (.slice CA cn cc) := u3b
      have hcl5 : SLine 3 wc.drew CA cn cc (flatC cs) := (H5.cline.chg hc45 (fun k hk hm => by rw [List.mem_singleton] at hm; rw [hm] at hk; have := H5.oC x hk; have := H5.ob; omega)).drew
      have hcn : cn ≤ 80000 := by
        have h1 := H5.cline.1
        rw [flatC_length] at h1
        have h2 : cs.length = r.chs.length := by rw [← r.powered_chs, H5.chs, List.length_map]
        have := HS.out
        unfold RD.size at this
        omega
      obtain ⟨C', c2, V6, hr6, hl6, hc6, hf6, _⟩ := push_s 3 wc.drew 73 114 73 _ 40 Try.underlying73 infoChg rfl (by decide) CA cn cc _ hcl5 (by omega) [.string (nm), .string (⟨#[]⟩), .int .i64 ((0 : Nat) : Int)] rfl (fun u hu => by simp only [List.mem_cons, List.not_mem_nil, or_false] at hu; rcases hu with h | h | h <;> (rw [h]; rfl))
      have HR6 : Hid ((Builtin.append_ #[73, 73] 73 #[.slice CA cn cc, .slice (some ⟨wc.heap.size, 0, none⟩) 1 1]).run Try.prog (wc.drew.alloc (.cells #[.string (nm), .string (⟨#[]⟩), .int .i64 ((0 : Nat) : Int)] 114)) = .ok (.slice C' (cn + 1) c2) V6) := Lib.hid hr6
      have hbx6 : XBoxAt V6 x { (poweredX b) with now := .slice A5 ap.length c5 } := by
        have h1 : XBoxAt wc.drew x { (poweredX b) with now := .slice A5 ap.length c5 } := hbx
        exact h1.chg hc6 (fun hm => by have := H5.oC x hm; have := H5.ob; omega)
      have t3 : V6.cell? ⟨x, 3, none⟩ = some (.slice CA cn cc) := hbx6.cell 3 _ (by show some (poweredX b).changes = _; rw [H5.changes])
      have t3f := hbx6.free 3
      obtain ⟨V7, hV7⟩ : ∃ V7, V6.setCell ⟨x, 3, none⟩ (.slice C' (cn + 1) c2) = V7 := ⟨_, rfl⟩
      have HFIN : Hid (RNext w x ox { r.powered with chs := r.powered.chs ++ [pairs (nm, ⟨#[]⟩, 0)] } V7) := Lib.hid (by
        have hlay : ap = layP (RD.now r.powered) (pairs (nm, ⟨#[]⟩, 0)) := by
          rw [← HAPN.out, show r.powered.now = r.now from by unfold RD.now; rw [r.powered_sure, r.powered_chs]]
          exact applyN_lay HF.out.rn hemp (nm) (⟨#[]⟩) (0)
        obtain ⟨ox', hO, hfin⟩ := H4h.out.1.turned (nm, ⟨#[]⟩, 0) hB5 A5 _ c5 (by rw [← hlay]; exact hrow5) hfr5 hV4 (Below.refl _ wc).drew C' c2 (by rw [flatC_snoc]; exact hl6) hc6 hf6 hV7
        exact RNext.of HH.out.2 (HO4.out.trans hO) hfin)
      have hW : wc.drew.heap.size = wc.heap.size := rfl
      clear hbx hc45 hvc hcl5 hr6 hl6 hc6 hf6 hbx6 hrow5 hfr5 hB5 H5 hvax
      go_wp2_with fail
      refine wp_region_any (by kernel_rfl) ?_
      change wpAny _ _ _ _ _ _ _ (World.drew _)
      refine wpAny_take (i := 0) (v := (.pointer (some ⟨x, 0, none⟩))) rfl (by kernel_rfl) (by kernel_rfl) (by kernel_rfl) (fun _ _ _ h => h) (Or.inl ⟨by rfl, (by intro w; go_simp)⟩) ?_
      refine wpAny_take (i := 1) (v := (.pointer (some ⟨x, 0, none⟩))) rfl (by kernel_rfl) (by kernel_rfl) (by kernel_rfl) (fun _ _ _ h => h) (Or.inl ⟨by rfl, (by intro w; go_simp)⟩) ?_
      refine wpAny_take (i := 2) (v := (.pointer (some ⟨x, 0, none⟩))) rfl (by kernel_rfl) (by kernel_rfl) (by kernel_rfl) (fun _ _ _ h => h) (Or.inl ⟨by rfl, (by intro w; go_simp)⟩) ?_
      refine wpAny_take (i := 3) (v := (.pointer (some ⟨x, 3, none⟩))) rfl (by kernel_rfl) (by kernel_rfl) (by kernel_rfl) (fun _ _ _ h => h) (Or.inl ⟨by rfl, (by intro w; go_simp)⟩) ?_
      refine wpAny_ready (rs := [4, 5]) (by kernel_rfl) (by simp) ?_
      refine AllReady.cons rfl (fun K hK => ?_) (AllReady.cons rfl (fun K hK => ?_) AllReady.nil)
      · go_simp
        refine hK _ _ ?_
        clear hK K
        refine wpAny_ready (rs := [5]) (by kernel_rfl) (by simp) ?_
        refine AllReady.cons rfl (fun K hK => ?_) AllReady.nil
        go_simp
        refine hK _ _ ?_
        clear hK K
        refine wpAny_ready (rs := [6]) (by kernel_rfl) (by simp) ?_
        refine AllReady.cons rfl (fun K hK => ?_) AllReady.nil
        go_simp
        refine hK _ _ ?_
        clear hK K
        refine wpAny_ready (rs := [7]) (by kernel_rfl) (by simp) ?_
        refine append_ready rfl (by kernel_rfl) _ _ _ _ rfl _ _ rfl rfl _ _ HR6.out ?_
        refine wpAny_take (i := 8) (v := (.pointer (some ⟨x, 0, none⟩))) rfl (by kernel_rfl) (by kernel_rfl) (by kernel_rfl) (fun _ _ _ h => h) (Or.inl ⟨by rfl, (by intro w; go_simp)⟩) ?_
        refine wpAny_take (i := 9) (v := (.pointer (some ⟨x, 3, none⟩))) rfl (by kernel_rfl) (by kernel_rfl) (by kernel_rfl) (fun _ _ _ h => h) (Or.inl ⟨by rfl, (by intro w; go_simp)⟩) ?_
        refine wpAny_ready (rs := [10]) (by kernel_rfl) (by simp) ?_
        refine AllReady.cons rfl (fun K hK => ?_) AllReady.nil
        go_simp
        refine hK _ _ ?_
        clear hK K
        refine wpAny_done (by kernel_rfl) ?_ _
        go_wp2
        go_ret
        exact ⟨rfl, HFIN.out⟩
      · go_simp
        refine hK _ _ ?_
        clear hK K
        refine wpAny_ready (rs := [4, 6]) (by kernel_rfl) (by simp) ?_
        refine AllReady.cons rfl (fun K hK => ?_) (AllReady.cons rfl (fun K hK => ?_) AllReady.nil)
        · go_simp
          refine hK _ _ ?_
          clear hK K
          refine wpAny_ready (rs := [6]) (by kernel_rfl) (by simp) ?_
          refine AllReady.cons rfl (fun K hK => ?_) AllReady.nil
          go_simp
          refine hK _ _ ?_
          clear hK K
          refine wpAny_ready (rs := [7]) (by kernel_rfl) (by simp) ?_
          refine append_ready rfl (by kernel_rfl) _ _ _ _ rfl _ _ rfl rfl _ _ HR6.out ?_
          refine wpAny_take (i := 8) (v := (.pointer (some ⟨x, 0, none⟩))) rfl (by kernel_rfl) (by kernel_rfl) (by kernel_rfl) (fun _ _ _ h => h) (Or.inl ⟨by rfl, (by intro w; go_simp)⟩) ?_
          refine wpAny_take (i := 9) (v := (.pointer (some ⟨x, 3, none⟩))) rfl (by kernel_rfl) (by kernel_rfl) (by kernel_rfl) (fun _ _ _ h => h) (Or.inl ⟨by rfl, (by intro w; go_simp)⟩) ?_
          refine wpAny_ready (rs := [10]) (by kernel_rfl) (by simp) ?_
          refine AllReady.cons rfl (fun K hK => ?_) AllReady.nil
          go_simp
          refine hK _ _ ?_
          clear hK K
          refine wpAny_done (by kernel_rfl) ?_ _
          go_wp2
          go_ret
          exact ⟨rfl, HFIN.out⟩
        · go_simp
          refine hK _ _ ?_
          clear hK K
          refine wpAny_ready (rs := [4]) (by kernel_rfl) (by simp) ?_
          refine AllReady.cons rfl (fun K hK => ?_) AllReady.nil
          go_simp
          refine hK _ _ ?_
          clear hK K
          refine wpAny_ready (rs := [7]) (by kernel_rfl) (by simp) ?_
          refine append_ready rfl (by kernel_rfl) _ _ _ _ rfl _ _ rfl rfl _ _ HR6.out ?_
          refine wpAny_take (i := 8) (v := (.pointer (some ⟨x, 0, none⟩))) rfl (by kernel_rfl) (by kernel_rfl) (by kernel_rfl) (fun _ _ _ h => h) (Or.inl ⟨by rfl, (by intro w; go_simp)⟩) ?_
          refine wpAny_take (i := 9) (v := (.pointer (some ⟨x, 3, none⟩))) rfl (by kernel_rfl) (by kernel_rfl) (by kernel_rfl) (fun _ _ _ h => h) (Or.inl ⟨by rfl, (by intro w; go_simp)⟩) ?_
          refine wpAny_ready (rs := [10]) (by kernel_rfl) (by simp) ?_
          refine AllReady.cons rfl (fun K hK => ?_) AllReady.nil
          go_simp
          refine hK _ _ ?_
          clear hK K
          refine wpAny_done (by kernel_rfl) ?_ _
          go_wp2
          go_ret
          exact ⟨rfl, HFIN.out⟩
end
end Go.Proofs.Ytbjlikppboggmaa
