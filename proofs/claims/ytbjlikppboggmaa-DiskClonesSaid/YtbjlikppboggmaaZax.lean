/-
  The document's disk: Call 4 (Rename) with power, where the name is there.
  The document's disk in memory: a file more, one file anew (no walk here).
-/
import Derived.Test.YtbjlikppboggmaaZaw
import Derived.Test.YtbjlikppboggmaaZav
namespace Go.Proofs.Ytbjlikppboggmaa
open Go.RowKit Go.Maps
set_option linter.unusedVariables false
set_option maxRecDepth 100000

section
variable {w w' : World} {x : Nat} {ox ox' : Nat → Nat} {b : XBox} {FA NA SA CA : Option Addr} {fn fc nn nc sn sc cn cc : Nat} {vs : List (Value × Nat)} {cs : List (ByteArray × ByteArray × Nat)} {r : RD}
set_option maxHeartbeats 3200000 in
theorem RefIn.rename_on (H : RefIn w x ox b FA fn fc NA nn nc SA sn sc CA cn cc vs cs r) (hF : ∀ i, w.heap.size ≤ i → ox i = 0) (F : Fct r) (hs : r.size ≤ 79000) (hon : r.on = true) (nm to_ : ByteArray) (hsz : nm.size ≤ 1000000) (hsz2 : to_.size ≤ 1000000) (hmay : nameOk nm = true) (hmay2 : nameOk to_ = true) (hhas : hasP ltS r.now nm = true) (he : ∀ q ∈ r.now, q.1 ≠ ⟨#[]⟩) :
    Calls Try.prog 33 #[.pointer (some ⟨x, 0, none⟩), .int .i64 4, .string nm, .string to_, .slice none 0 0] w fun e w' => e = .returned (.int .i64 0) ∧ RNext w x ox { r.powered with chs := r.powered.chs ++ [pairs (nm, to_, r.num nm)] } w' := by
  have hcl : b.calls = (r.calls : Int) := H.calls
  have hcb : 0 ≤ b.calls ∧ b.calls ≤ 80000 := by unfold RD.size at hs; omega
  have hqb := F.stop
  have HF := Lib.hid F
  have HH := Lib.hid (And.intro H hF)
  have HS := Lib.hid hs
  have hof := H.off
  have hst := H.stop
  unfold RD.on at hon
  rw [← hof, ← hst] at hon
  rw [← hst] at hqb
  have c6 : w.cell? ⟨x, 6, none⟩ = some (.bool false) := by
    have h : w.cell? ⟨x, 6, none⟩ = some (.bool b.off) := H.box.cell 6 _ rfl
    have h2 : b.off = false := by cases h : b.off with | false => rfl | true => rw [h] at hon; cases hon
    rw [h, h2]
  have hoff : b.off = false := by cases h : b.off with | false => rfl | true => rw [h] at hon; cases hon
  have hne : b.stop ≠ 0 := by rw [hoff] at hon; simpa using hon
  have c7 : w.cell? ⟨x, 7, none⟩ = some (.int .i64 b.stop) := H.box.cell 7 _ rfl
  have c8 : w.cell? ⟨x, 8, none⟩ = some (.int .i64 b.calls) := H.box.cell 8 _ rfl
  have f8 := H.box.free 8
  obtain ⟨wA, hwA⟩ : ∃ wA, w.setCell ⟨x, 8, none⟩ (.int .i64 (b.calls + 1)) = wA := ⟨_, rfl⟩
  have hbA : XBoxAt wA x { b with calls := b.calls + 1 } := by rw [← hwA]; exact H.box.set 8 _ _ rfl
  have a7 : wA.cell? ⟨x, 7, none⟩ = some (.int .i64 b.stop) := hbA.cell 7 _ rfl
  have g7 := hbA.free 7
  have hcA : Chg [x] w wA := by rw [← hwA]; exact (Chg.refl _ w).setCell x 8 _ (.inl (by simp))
  rcases (show 0 < b.stop ∨ b.stop < 0 by omega) with hway | hway
  · have hne2 : (b.stop == 0) = false := by simpa using hne
    obtain ⟨wB, hwB⟩ : ∃ wB, wA.setCell ⟨x, 7, none⟩ (.int .i64 (b.stop - 1)) = wB := ⟨_, rfl⟩
    have hbB : XBoxAt wB x (poweredX b) := by
      have e : poweredX b = { b with calls := b.calls + 1, stop := b.stop - 1 } := by unfold poweredX; rw [if_neg (by rw [hoff]; exact fun e => by cases e), if_neg hne, if_pos hway]
      rw [e, ← hwB]; exact hbA.set 7 _ _ rfl
    have hcB : Chg [x] w wB := by rw [← hwB]; exact hcA.setCell x 7 _ (.inl (by simp))
    have HB := Lib.hid (OnW.mk hbB hcB)
    clear H F hF hs hof hst hon hcl hbA hbB hcB hcA
    have HMAY2 := Lib.hid (rmayName_any to_ hsz2)
    rw [hmay2] at HMAY2
    have hemp := he
    have HMAY := Lib.hid (rmayName_any nm hsz)
    rw [hmay] at HMAY
    have hfound := (atN_num HF.out nm).resolve_left (fun h => by rw [hhas] at h; cases h.2)
    have hat0 : ¬ (r.num nm : Int) < 0 := by omega
    have H1 := HH.out.1.powered HB.out.chg HB.out.box
    have hen : r.powered.now = r.now := by unfold RD.now; rw [r.powered_sure, r.powered_chs]
    have b1 : wB.cell? ⟨x, 1, none⟩ = some (.slice NA nn nc) := HB.out.box.cell 1 _ (by show some (poweredX b).now = _; rw [H1.now])
    have hnr := H1.nrow
    rw [hen] at hnr
    have hnl := HF.out.len (by have := HS.out; omega)
    have hnn : nn ≤ 80000 := by have := hnr.len; omega
    have HAT := Lib.hid (at_any wB NA nn nc r.now hnr (by omega) (HF.out.nums (by have := HS.out; omega)) nm)
    have H1h := Lib.hid H1
    clear H1 hnr hnl
    rw [hfound.1] at HAT
    have hnum : r.num nm ≤ 1000000 := by have := hfound.2.2.1; have := HS.out; unfold RD.size at this; omega
    clear hfound
    go_enter Try.func33, Try.ntmps33
    go_wp2_with fail
    refine (HMAY.out _).mono ?_
    rintro e wm ⟨rfl, rfl⟩
    go_wp2_with fail
    refine (HMAY2.out _).mono ?_
    rintro e wm ⟨rfl, rfl⟩
    go_wp2_with fail
    refine HAT.out.mono ?_
    rintro e w2 ⟨rfl, hB2⟩
    have H2 := H1h.out.below hB2
    obtain ⟨w3, hw3⟩ : ∃ w3, w2.alloc (.cells #[.string ⟨#[]⟩, .string ⟨#[]⟩, .int .i64 0] 114) = w3 := ⟨_, rfl⟩
    have hB3 : Below w2.heap.size w2 w3 := by rw [← hw3]; exact (Below.refl _ w2).alloc (Nat.le_refl _) _
    have hva : w3.heap[w2.heap.size]? = some (.cells #[.string ⟨#[]⟩, .string ⟨#[]⟩, .int .i64 0] 114 (0, 0)) := by rw [← hw3]; exact heap_alloc_new w2 _
    obtain ⟨va, hvae⟩ : ∃ va, w2.heap.size = va := ⟨_, rfl⟩
    rw [hvae] at hva
    have i0 : w3.cell? ⟨va, 0, none⟩ = some (.string ⟨#[]⟩) := by rw [cell_of_row _ va 0 _ _ (0, 0) hva]; rfl
    have i1 : w3.cell? ⟨va, 1, none⟩ = some (.string ⟨#[]⟩) := by rw [cell_of_row _ va 1 _ _ (0, 0) hva]; rfl
    have i2 : w3.cell? ⟨va, 2, none⟩ = some (.int .i64 0) := by rw [cell_of_row _ va 2 _ _ (0, 0) hva]; rfl
    have k0 : w3.frozen? ⟨va, 0, none⟩ = false := frozen_of_row w3 va 0 _ _ hva
    have k1 : w3.frozen? ⟨va, 1, none⟩ = false := frozen_of_row w3 va 1 _ _ hva
    have k2 : w3.frozen? ⟨va, 2, none⟩ = false := frozen_of_row w3 va 2 _ _ hva
    have j0 : w3.setCell ⟨va, 0, none⟩ (.string ⟨#[]⟩) = w3 := setCell_id hva rfl
    have j1 : w3.setCell ⟨va, 1, none⟩ (.string ⟨#[]⟩) = w3 := setCell_id hva rfl
    have j2 : w3.setCell ⟨va, 2, none⟩ (.int .i64 0) = w3 := setCell_id hva rfl
    have HVA := Lib.hid hva
    obtain ⟨w4a, hw4a⟩ : ∃ w4a, w3.setCell ⟨va, 0, none⟩ (.string nm) = w4a := ⟨_, rfl⟩
    have hv4a : w4a.heap[va]? = some (.cells #[.string nm, .string ⟨#[]⟩, .int .i64 0] 114 (0, 0)) := by rw [← hw4a, heap_setCell_same w3 va 0 _ _ _ hva]; rfl
    have l1 : w4a.cell? ⟨va, 1, none⟩ = some (.string ⟨#[]⟩) := by rw [cell_of_row _ va 1 _ _ (0, 0) hv4a]; rfl
    have l1f : w4a.frozen? ⟨va, 1, none⟩ = false := frozen_of_row w4a va 1 _ _ hv4a
    obtain ⟨w4b, hw4b⟩ : ∃ w4b, w4a.setCell ⟨va, 1, none⟩ (.string to_) = w4b := ⟨_, rfl⟩
    have hv4b : w4b.heap[va]? = some (.cells #[.string nm, .string to_, .int .i64 0] 114 (0, 0)) := by rw [← hw4b, heap_setCell_same w4a va 1 _ _ _ hv4a]; rfl
    have l2 : w4b.cell? ⟨va, 2, none⟩ = some (.int .i64 0) := by rw [cell_of_row _ va 2 _ _ (0, 0) hv4b]; rfl
    have l2f : w4b.frozen? ⟨va, 2, none⟩ = false := frozen_of_row w4b va 2 _ _ hv4b
    obtain ⟨w4, hw4⟩ : ∃ w4, w4b.setCell ⟨va, 2, none⟩ (.int .i64 (r.num nm : Int)) = w4 := ⟨_, rfl⟩
    have hv4 : w4.heap[va]? = some (.cells #[.string nm, .string to_, .int .i64 ((r.num nm : Nat) : Int)] 114 (0, 0)) := by rw [← hw4, heap_setCell_same w4b va 2 _ _ _ hv4b]; rfl
    have hB4 : Below w2.heap.size w2 w4 := by rw [← hw4, ← hw4b, ← hw4a]; exact hB3.trans (((((Chg.refl [va] w3).setCell va 0 _ (.inl (by simp))).setCell va 1 _ (.inl (by simp))).setCell va 2 _ (.inl (by simp))).toBelow (fun k hk => by rw [List.mem_singleton] at hk; omega) hB3.size)
    have H4 := H2.below hB4
    have HO4 := Lib.hid (((HH.out.1.only1 HB.out.chg).trans (Only.of_below ox (hB2.trans (hB4.mono hB2.size)))))
    clear H2 hB2 hB3 hB4 hva hv4a hv4b
    have hap4 : ∀ W, W.heap = w4.heap → Calls Try.prog 58 #[.slice NA nn nc, .agg #[.string (nm), .string (to_), .int .i64 ((r.num nm : Nat) : Int)]] W fun e w' => (∃ A' c', e = .returned (.slice A' (applyN r.now (nm) (to_) (r.num nm)).length c') ∧ RowG encS ltS w' A' (applyN r.now (nm) (to_) (r.num nm)).length c' (applyN r.now (nm) (to_) (r.num nm)) ∧ ∀ k ∈ blk A', W.heap.size ≤ k) ∧ Below W.heap.size W w' := fun W hW => by
      have hr4 : RowG encS ltS w4 NA nn nc r.now := by rw [← hen]; exact H4.nrow
      exact apply_any W NA nn nc r.now (hr4.same (by rw [hW]; exact Nat.le_refl _) (fun k hk => by rw [hW])) (by omega) (HF.out.nums (by have := HS.out; omega)) (nm) (to_) (r.num nm) hnum
    have HAP := Lib.hid hap4
    have q1 : w4.cell? ⟨x, 1, none⟩ = some (.slice NA nn nc) := H4.box.cell 1 _ (by show some (poweredX b).now = _; rw [H4.now])
    have v0 : w4.cell? ⟨va, 0, none⟩ = some (.string (nm)) := by rw [cell_of_row _ va 0 _ _ (0, 0) hv4]; rfl
    have v1 : w4.cell? ⟨va, 1, none⟩ = some (.string (to_)) := by rw [cell_of_row _ va 1 _ _ (0, 0) hv4]; rfl
    have v2 : w4.cell? ⟨va, 2, none⟩ = some (.int .i64 ((r.num nm : Nat) : Int)) := by rw [cell_of_row _ va 2 _ _ (0, 0) hv4]; rfl
    have H4h := Lib.hid (And.intro H4 hv4)
    obtain ⟨ap, hapn⟩ : ∃ ap, applyN r.now (nm) (to_) (r.num nm) = ap := ⟨_, rfl⟩
    have HAPN := Lib.hid hapn
    rw [hapn] at HAP
    clear hap4 H4 hv4 hapn hen
    go_upto_region 39 with fail
    go_cut [] from 195 to 203 (fun wx => Hid (∃ V3 A' c', Below w4.heap.size w4 V3 ∧ RowG encS ltS V3 A' ap.length c' ap ∧ (∀ k ∈ blk A', w4.heap.size ≤ k) ∧ V3.setCell ⟨x, 1, none⟩ (.slice A' ap.length c') = wx))
    case first =>
      go_region_with (go_at_call 58; refine (HAP.out w4.drew rfl).mono ?_; rintro e w5 ⟨⟨A5, c5, rfl, hrow5, hfr5⟩, hB5⟩; have H5 := H4h.out.1.below ((Below.refl _ w4).drew.trans hB5); have s1 : w5.cell? ⟨x, 1, none⟩ = some (.slice NA nn nc) := H5.box.cell 1 _ (by show some (poweredX b).now = _; rw [H5.now]); have s2 := H5.box.free 1; have HR5 := Lib.hid (And.intro ((Below.refl _ w4).drew.trans hB5) (And.intro hrow5 hfr5)); clear hrow5 hfr5 hB5 H5)
      all_goals
        go_wp2_with fail
        go_meet
        exact Lib.hid ⟨_, _, _, HR5.out.1, HR5.out.2.1, HR5.out.2.2, rfl⟩
    case rest =>
      obtain ⟨V3, A5, c5, hB5, hrow5, hfr5, hV4⟩ := hcut.out
      have H5 := H4h.out.1.below hB5
      have hbx : XBoxAt wc x { (poweredX b) with now := .slice A5 ap.length c5 } := by rw [← hV4]; exact H5.box.set 1 _ _ rfl
      have hc45 : Chg [x] V3 wc := by rw [← hV4]; exact (Chg.refl _ V3).setCell x 1 _ (.inl (by simp))
      have hvax : va ≠ x := fun e => by have h := H4h.out.2; rw [e] at h; have h2 := H4h.out.1.box; unfold XBoxAt at h2; have h3 := Option.some.inj (h2.symm.trans h); injection h3 with e1 e2 e3; exact absurd e2 (by decide)
      have hvc : wc.heap[va]? = some (.cells #[.string (nm), .string (to_), .int .i64 ((r.num nm : Nat) : Int)] 114 (0, 0)) := by
        have h1 := hB5.block va (lt_of_block H4h.out.2)
        have h2 := hc45.same va (by have := hB5.size; have := lt_of_block H4h.out.2; omega) (by rw [List.mem_singleton]; exact hvax)
        exact h2.trans (h1.trans H4h.out.2)
      have v0 : wc.drew.cell? ⟨va, 0, none⟩ = some (.string (nm)) := by
        show wc.cell? ⟨va, 0, none⟩ = _
        rw [cell_of_row _ va 0 _ _ (0, 0) hvc]; rfl
      have v1 : wc.drew.cell? ⟨va, 1, none⟩ = some (.string (to_)) := by
        show wc.cell? ⟨va, 1, none⟩ = _
        rw [cell_of_row _ va 1 _ _ (0, 0) hvc]; rfl
      have v2 : wc.drew.cell? ⟨va, 2, none⟩ = some (.int .i64 ((r.num nm : Nat) : Int)) := by
        show wc.cell? ⟨va, 2, none⟩ = _
        rw [cell_of_row _ va 2 _ _ (0, 0) hvc]; rfl
      have u3 : wc.drew.cell? ⟨x, 3, none⟩ = some (.slice CA cn cc) := hbx.cell 3 _ (by show some (poweredX b).changes = _; rw [H5.changes])
      have u3b : (wc.drew.alloc (.cells #[.string (nm), .string (to_), .int .i64 ((r.num nm : Nat) : Int)] 114)).cell? ⟨x, 3, none⟩ = some (.slice CA cn cc) := by
        rw [World.cell?_of_block (w := wc.drew) (a := ⟨x, 3, none⟩) (((Below.refl _ wc.drew).alloc (Nat.le_refl _) _).block x hbx.lt)]
        exact u3
      have u3c : (wc.alloc (.cells #[.string (nm), .string (to_), .int .i64 ((r.num nm : Nat) : Int)] 114)).cell? ⟨x, 3, none⟩ = some (.slice CA cn cc) := u3b
      have u3d : (wc.alloc (.cells #[.string (nm), .string (to_), .int .i64 ((r.num nm : Nat) : Int)] 114)).drew.cell? ⟨x, 3, none⟩ = some (.slice CA cn cc) := u3b
      have hcl5 : SLine 3 wc.drew CA cn cc (flatC cs) := (H5.cline.chg hc45 (fun k hk hm => by rw [List.mem_singleton] at hm; rw [hm] at hk; have := H5.oC x hk; have := H5.ob; omega)).drew
      have hcn : cn ≤ 80000 := by
        have h1 := H5.cline.1
        rw [flatC_length] at h1
        have h2 : cs.length = r.chs.length := by rw [← r.powered_chs, H5.chs, List.length_map]
        have := HS.out
        unfold RD.size at this
        omega
      obtain ⟨C', c2, V6, hr6, hl6, hc6, hf6, _⟩ := push_s 3 wc.drew 73 114 73 _ 40 Try.underlying73 infoChg rfl (by decide) CA cn cc _ hcl5 (by omega) [.string (nm), .string (to_), .int .i64 ((r.num nm : Nat) : Int)] rfl (fun u hu => by simp only [List.mem_cons, List.not_mem_nil, or_false] at hu; rcases hu with h | h | h <;> (rw [h]; rfl))
      have HR6 : Hid ((Builtin.append_ #[73, 73] 73 #[.slice CA cn cc, .slice (some ⟨wc.heap.size, 0, none⟩) 1 1]).run Try.prog (wc.drew.alloc (.cells #[.string (nm), .string (to_), .int .i64 ((r.num nm : Nat) : Int)] 114)) = .ok (.slice C' (cn + 1) c2) V6) := Lib.hid hr6
      have hbx6 : XBoxAt V6 x { (poweredX b) with now := .slice A5 ap.length c5 } := by
        have h1 : XBoxAt wc.drew x { (poweredX b) with now := .slice A5 ap.length c5 } := hbx
        exact h1.chg hc6 (fun hm => by have := H5.oC x hm; have := H5.ob; omega)
      have t3 : V6.cell? ⟨x, 3, none⟩ = some (.slice CA cn cc) := hbx6.cell 3 _ (by show some (poweredX b).changes = _; rw [H5.changes])
      have t3f := hbx6.free 3
      obtain ⟨V7, hV7⟩ : ∃ V7, V6.setCell ⟨x, 3, none⟩ (.slice C' (cn + 1) c2) = V7 := ⟨_, rfl⟩
      have HFIN : Hid (RNext w x ox { r.powered with chs := r.powered.chs ++ [pairs (nm, to_, r.num nm)] } V7) := Lib.hid (by
        have hlay : ap = layP (RD.now r.powered) (pairs (nm, to_, r.num nm)) := by
          rw [← HAPN.out, show r.powered.now = r.now from by unfold RD.now; rw [r.powered_sure, r.powered_chs]]
          exact applyN_lay HF.out.rn hemp (nm) (to_) (r.num nm)
        obtain ⟨ox', hO, hfin⟩ := H4h.out.1.turned (nm, to_, r.num nm) hB5 A5 _ c5 (by rw [← hlay]; exact hrow5) hfr5 hV4 (Below.refl _ wc).drew C' c2 (by rw [flatC_snoc]; exact hl6) hc6 hf6 hV7
        exact RNext.of HH.out.2 (HO4.out.trans hO) hfin)
      have hW : wc.drew.heap.size = wc.heap.size := rfl
      clear hbx hc45 hvc hcl5 hr6 hl6 hc6 hf6 hbx6 hrow5 hfr5 hB5 H5 hvax
      go_wp2_with fail
      refine wp_region_any (by kernel_rfl) ?_
      change wpAny _ _ _ _ _ _ _ (World.drew _)
      refine wpAny_take (i := 0) (v := (.pointer (some ⟨x, 0, none⟩))) rfl (by kernel_rfl) (by kernel_rfl) (by kernel_rfl) (fun _ _ _ h => h) (Or.inl ⟨by rfl, (by intro w; go_simp)⟩) ?_
      refine wpAny_take (i := 1) (v := (.pointer (some ⟨x, 0, none⟩))) rfl (by kernel_rfl) (by kernel_rfl) (by kernel_rfl) (fun _ _ _ h => h) (Or.inl ⟨by rfl, (by intro w; go_simp)⟩) ?_
      refine wpAny_take (i := 2) (v := (.pointer (some ⟨x, 0, none⟩))) rfl (by kernel_rfl) (by kernel_rfl) (by kernel_rfl) (fun _ _ _ h => h) (Or.inl ⟨by rfl, (by intro w; go_simp)⟩) ?_
      refine wpAny_take (i := 3) (v := (.pointer (some ⟨x, 3, none⟩))) rfl (by kernel_rfl) (by kernel_rfl) (by kernel_rfl) (fun _ _ _ h => h) (Or.inl ⟨by rfl, (by intro w; go_simp)⟩) ?_
      refine wpAny_ready (rs := [4, 5]) (by kernel_rfl) (by simp) ?_
      refine AllReady.cons rfl (fun K hK => ?_) (AllReady.cons rfl (fun K hK => ?_) AllReady.nil)
      · go_simp
        refine hK _ _ ?_
        clear hK K
        refine wpAny_ready (rs := [5]) (by kernel_rfl) (by simp) ?_
        refine AllReady.cons rfl (fun K hK => ?_) AllReady.nil
        go_simp
        refine hK _ _ ?_
        clear hK K
        refine wpAny_ready (rs := [6]) (by kernel_rfl) (by simp) ?_
        refine AllReady.cons rfl (fun K hK => ?_) AllReady.nil
        go_simp
        refine hK _ _ ?_
        clear hK K
        refine wpAny_ready (rs := [7]) (by kernel_rfl) (by simp) ?_
        refine append_ready rfl (by kernel_rfl) _ _ _ _ rfl _ _ rfl rfl _ _ HR6.out ?_
        refine wpAny_take (i := 8) (v := (.pointer (some ⟨x, 0, none⟩))) rfl (by kernel_rfl) (by kernel_rfl) (by kernel_rfl) (fun _ _ _ h => h) (Or.inl ⟨by rfl, (by intro w; go_simp)⟩) ?_
        refine wpAny_take (i := 9) (v := (.pointer (some ⟨x, 3, none⟩))) rfl (by kernel_rfl) (by kernel_rfl) (by kernel_rfl) (fun _ _ _ h => h) (Or.inl ⟨by rfl, (by intro w; go_simp)⟩) ?_
        refine wpAny_ready (rs := [10]) (by kernel_rfl) (by simp) ?_
        refine AllReady.cons rfl (fun K hK => ?_) AllReady.nil
        go_simp
        refine hK _ _ ?_
        clear hK K
        refine wpAny_done (by kernel_rfl) ?_ _
        go_wp2
        go_ret
        exact ⟨rfl, HFIN.out⟩
      · go_simp
        refine hK _ _ ?_
        clear hK K
        refine wpAny_ready (rs := [4, 6]) (by kernel_rfl) (by simp) ?_
        refine AllReady.cons rfl (fun K hK => ?_) (AllReady.cons rfl (fun K hK => ?_) AllReady.nil)
        · go_simp
          refine hK _ _ ?_
          clear hK K
          refine wpAny_ready (rs := [6]) (by kernel_rfl) (by simp) ?_
          refine AllReady.cons rfl (fun K hK => ?_) AllReady.nil
          go_simp
          refine hK _ _ ?_
          clear hK K
          refine wpAny_ready (rs := [7]) (by kernel_rfl) (by simp) ?_
          refine append_ready rfl (by kernel_rfl) _ _ _ _ rfl _ _ rfl rfl _ _ HR6.out ?_
          refine wpAny_take (i := 8) (v := (.pointer (some ⟨x, 0, none⟩))) rfl (by kernel_rfl) (by kernel_rfl) (by kernel_rfl) (fun _ _ _ h => h) (Or.inl ⟨by rfl, (by intro w; go_simp)⟩) ?_
          refine wpAny_take (i := 9) (v := (.pointer (some ⟨x, 3, none⟩))) rfl (by kernel_rfl) (by kernel_rfl) (by kernel_rfl) (fun _ _ _ h => h) (Or.inl ⟨by rfl, (by intro w; go_simp)⟩) ?_
          refine wpAny_ready (rs := [10]) (by kernel_rfl) (by simp) ?_
          refine AllReady.cons rfl (fun K hK => ?_) AllReady.nil
          go_simp
          refine hK _ _ ?_
          clear hK K
          refine wpAny_done (by kernel_rfl) ?_ _
          go_wp2
          go_ret
          exact ⟨rfl, HFIN.out⟩
        · go_simp
          refine hK _ _ ?_
          clear hK K
          refine wpAny_ready (rs := [4]) (by kernel_rfl) (by simp) ?_
          refine AllReady.cons rfl (fun K hK => ?_) AllReady.nil
          go_simp
          refine hK _ _ ?_
          clear hK K
          refine wpAny_ready (rs := [7]) (by kernel_rfl) (by simp) ?_
          refine append_ready rfl (by kernel_rfl) _ _ _ _ rfl _ _ rfl rfl _ _ HR6.out ?_
          refine wpAny_take (i := 8) (v := (.pointer (some ⟨x, 0, none⟩))) rfl (by kernel_rfl) (by kernel_rfl) (by kernel_rfl) (fun _ _ _ h => h) (Or.inl ⟨by rfl, (by intro w; go_simp)⟩) ?_
          refine wpAny_take (i := 9) (v := (.pointer (some ⟨x, 3, none⟩))) rfl (by kernel_rfl) (by kernel_rfl) (by kernel_rfl) (fun _ _ _ h => h) (Or.inl ⟨by rfl, (by intro w; go_simp)⟩) ?_
          refine wpAny_ready (rs := [10]) (by kernel_rfl) (by simp) ?_
          refine AllReady.cons rfl (fun K hK => ?_) AllReady.nil
          go_simp
          refine hK _ _ ?_
          clear hK K
          refine wpAny_done (by kernel_rfl) ?_ _
          go_wp2
          go_ret
          exact ⟨rfl, HFIN.out⟩
  · have hne2 : (b.stop == 0) = false := by simpa using hne
    have hway2 : ¬ (0 : Int) < b.stop := by omega
    obtain ⟨wB, hwB⟩ : ∃ wB, wA = wB := ⟨_, rfl⟩
    subst hwB
    have hbB : XBoxAt wA x (poweredX b) := by
      have e : poweredX b = { b with calls := b.calls + 1 } := by unfold poweredX; rw [if_neg (by rw [hoff]; exact fun e => by cases e), if_neg hne, if_neg hway2]
      rw [e]; exact hbA
    have HB := Lib.hid (OnW.mk hbB hcA)
    clear H F hF hs hof hst hon hcl hbA hbB hcA
    have HMAY2 := Lib.hid (rmayName_any to_ hsz2)
    rw [hmay2] at HMAY2
    have hemp := he
    have HMAY := Lib.hid (rmayName_any nm hsz)
    rw [hmay] at HMAY
    have hfound := (atN_num HF.out nm).resolve_left (fun h => by rw [hhas] at h; cases h.2)
    have hat0 : ¬ (r.num nm : Int) < 0 := by omega
    have H1 := HH.out.1.powered HB.out.chg HB.out.box
    have hen : r.powered.now = r.now := by unfold RD.now; rw [r.powered_sure, r.powered_chs]
    have b1 : wA.cell? ⟨x, 1, none⟩ = some (.slice NA nn nc) := HB.out.box.cell 1 _ (by show some (poweredX b).now = _; rw [H1.now])
    have hnr := H1.nrow
    rw [hen] at hnr
    have hnl := HF.out.len (by have := HS.out; omega)
    have hnn : nn ≤ 80000 := by have := hnr.len; omega
    have HAT := Lib.hid (at_any wA NA nn nc r.now hnr (by omega) (HF.out.nums (by have := HS.out; omega)) nm)
    have H1h := Lib.hid H1
    clear H1 hnr hnl
    rw [hfound.1] at HAT
    have hnum : r.num nm ≤ 1000000 := by have := hfound.2.2.1; have := HS.out; unfold RD.size at this; omega
    clear hfound
    go_enter Try.func33, Try.ntmps33
    go_wp2_with fail
    refine (HMAY.out _).mono ?_
    rintro e wm ⟨rfl, rfl⟩
    go_wp2_with fail
    refine (HMAY2.out _).mono ?_
    rintro e wm ⟨rfl, rfl⟩
    go_wp2_with fail
    refine HAT.out.mono ?_
    rintro e w2 ⟨rfl, hB2⟩
    have H2 := H1h.out.below hB2
    obtain ⟨w3, hw3⟩ : ∃ w3, w2.alloc (.cells #[.string ⟨#[]⟩, .string ⟨#[]⟩, .int .i64 0] 114) = w3 := ⟨_, rfl⟩
    have hB3 : Below w2.heap.size w2 w3 := by rw [← hw3]; exact (Below.refl _ w2).alloc (Nat.le_refl _) _
    have hva : w3.heap[w2.heap.size]? = some (.cells #[.string ⟨#[]⟩, .string ⟨#[]⟩, .int .i64 0] 114 (0, 0)) := by rw [← hw3]; exact heap_alloc_new w2 _
    obtain ⟨va, hvae⟩ : ∃ va, w2.heap.size = va := ⟨_, rfl⟩
    rw [hvae] at hva
    have i0 : w3.cell? ⟨va, 0, none⟩ = some (.string ⟨#[]⟩) := by rw [cell_of_row _ va 0 _ _ (0, 0) hva]; rfl
    have i1 : w3.cell? ⟨va, 1, none⟩ = some (.string ⟨#[]⟩) := by rw [cell_of_row _ va 1 _ _ (0, 0) hva]; rfl
    have i2 : w3.cell? ⟨va, 2, none⟩ = some (.int .i64 0) := by rw [cell_of_row _ va 2 _ _ (0, 0) hva]; rfl
    have k0 : w3.frozen? ⟨va, 0, none⟩ = false := frozen_of_row w3 va 0 _ _ hva
    have k1 : w3.frozen? ⟨va, 1, none⟩ = false := frozen_of_row w3 va 1 _ _ hva
    have k2 : w3.frozen? ⟨va, 2, none⟩ = false := frozen_of_row w3 va 2 _ _ hva
    have j0 : w3.setCell ⟨va, 0, none⟩ (.string ⟨#[]⟩) = w3 := setCell_id hva rfl
    have j1 : w3.setCell ⟨va, 1, none⟩ (.string ⟨#[]⟩) = w3 := setCell_id hva rfl
    have j2 : w3.setCell ⟨va, 2, none⟩ (.int .i64 0) = w3 := setCell_id hva rfl
    have HVA := Lib.hid hva
    obtain ⟨w4a, hw4a⟩ : ∃ w4a, w3.setCell ⟨va, 0, none⟩ (.string nm) = w4a := ⟨_, rfl⟩
    have hv4a : w4a.heap[va]? = some (.cells #[.string nm, .string ⟨#[]⟩, .int .i64 0] 114 (0, 0)) := by rw [← hw4a, heap_setCell_same w3 va 0 _ _ _ hva]; rfl
    have l1 : w4a.cell? ⟨va, 1, none⟩ = some (.string ⟨#[]⟩) := by rw [cell_of_row _ va 1 _ _ (0, 0) hv4a]; rfl
    have l1f : w4a.frozen? ⟨va, 1, none⟩ = false := frozen_of_row w4a va 1 _ _ hv4a
    obtain ⟨w4b, hw4b⟩ : ∃ w4b, w4a.setCell ⟨va, 1, none⟩ (.string to_) = w4b := ⟨_, rfl⟩
    have hv4b : w4b.heap[va]? = some (.cells #[.string nm, .string to_, .int .i64 0] 114 (0, 0)) := by rw [← hw4b, heap_setCell_same w4a va 1 _ _ _ hv4a]; rfl
    have l2 : w4b.cell? ⟨va, 2, none⟩ = some (.int .i64 0) := by rw [cell_of_row _ va 2 _ _ (0, 0) hv4b]; rfl
    have l2f : w4b.frozen? ⟨va, 2, none⟩ = false := frozen_of_row w4b va 2 _ _ hv4b
    obtain ⟨w4, hw4⟩ : ∃ w4, w4b.setCell ⟨va, 2, none⟩ (.int .i64 (r.num nm : Int)) = w4 := ⟨_, rfl⟩
    have hv4 : w4.heap[va]? = some (.cells #[.string nm, .string to_, .int .i64 ((r.num nm : Nat) : Int)] 114 (0, 0)) := by rw [← hw4, heap_setCell_same w4b va 2 _ _ _ hv4b]; rfl
    have hB4 : Below w2.heap.size w2 w4 := by rw [← hw4, ← hw4b, ← hw4a]; exact hB3.trans (((((Chg.refl [va] w3).setCell va 0 _ (.inl (by simp))).setCell va 1 _ (.inl (by simp))).setCell va 2 _ (.inl (by simp))).toBelow (fun k hk => by rw [List.mem_singleton] at hk; omega) hB3.size)
    have H4 := H2.below hB4
    have HO4 := Lib.hid (((HH.out.1.only1 HB.out.chg).trans (Only.of_below ox (hB2.trans (hB4.mono hB2.size)))))
    clear H2 hB2 hB3 hB4 hva hv4a hv4b
    have hap4 : ∀ W, W.heap = w4.heap → Calls Try.prog 58 #[.slice NA nn nc, .agg #[.string (nm), .string (to_), .int .i64 ((r.num nm : Nat) : Int)]] W fun e w' => (∃ A' c', e = .returned (.slice A' (applyN r.now (nm) (to_) (r.num nm)).length c') ∧ RowG encS ltS w' A' (applyN r.now (nm) (to_) (r.num nm)).length c' (applyN r.now (nm) (to_) (r.num nm)) ∧ ∀ k ∈ blk A', W.heap.size ≤ k) ∧ Below W.heap.size W w' := fun W hW => by
      have hr4 : RowG encS ltS w4 NA nn nc r.now := by rw [← hen]; exact H4.nrow
      exact apply_any W NA nn nc r.now (hr4.same (by rw [hW]; exact Nat.le_refl _) (fun k hk => by rw [hW])) (by omega) (HF.out.nums (by have := HS.out; omega)) (nm) (to_) (r.num nm) hnum
    have HAP := Lib.hid hap4
    have q1 : w4.cell? ⟨x, 1, none⟩ = some (.slice NA nn nc) := H4.box.cell 1 _ (by show some (poweredX b).now = _; rw [H4.now])
    have v0 : w4.cell? ⟨va, 0, none⟩ = some (.string (nm)) := by rw [cell_of_row _ va 0 _ _ (0, 0) hv4]; rfl
    have v1 : w4.cell? ⟨va, 1, none⟩ = some (.string (to_)) := by rw [cell_of_row _ va 1 _ _ (0, 0) hv4]; rfl
    have v2 : w4.cell? ⟨va, 2, none⟩ = some (.int .i64 ((r.num nm : Nat) : Int)) := by rw [cell_of_row _ va 2 _ _ (0, 0) hv4]; rfl
    have H4h := Lib.hid (And.intro H4 hv4)
    obtain ⟨ap, hapn⟩ : ∃ ap, applyN r.now (nm) (to_) (r.num nm) = ap := ⟨_, rfl⟩
    have HAPN := Lib.hid hapn
    rw [hapn] at HAP
    clear hap4 H4 hv4 hapn hen
    go_upto_region 39 with fail
    go_cut [] from 195 to 203 (fun wx => Hid (∃ V3 A' c', Below w4.heap.size w4 V3 ∧ RowG encS ltS V3 A' ap.length c' ap ∧ (∀ k ∈ blk A', w4.heap.size ≤ k) ∧ V3.setCell ⟨x, 1, none⟩ (.slice A' ap.length c') = wx))
    case first =>
      go_region_with (go_at_call 58; refine (HAP.out w4.drew rfl).mono ?_; rintro e w5 ⟨⟨A5, c5, rfl, hrow5, hfr5⟩, hB5⟩; have H5 := H4h.out.1.below ((Below.refl _ w4).drew.trans hB5); have s1 : w5.cell? ⟨x, 1, none⟩ = some (.slice NA nn nc) := H5.box.cell 1 _ (by show some (poweredX b).now = _; rw [H5.now]); have s2 := H5.box.free 1; have HR5 := Lib.hid (And.intro ((Below.refl _ w4).drew.trans hB5) (And.intro hrow5 hfr5)); clear hrow5 hfr5 hB5 H5)
      all_goals
        go_wp2_with fail
        go_meet
        exact Lib.hid ⟨_, _, _, HR5.out.1, HR5.out.2.1, HR5.out.2.2, rfl⟩
    case rest =>
      obtain ⟨V3, A5, c5, hB5, hrow5, hfr5, hV4⟩ := hcut.out
      have H5 := H4h.out.1.below hB5
      have hbx : XBoxAt wc x { (poweredX b) with now := .slice A5 ap.length c5 } := by rw [← hV4]; exact H5.box.set 1 _ _ rfl
      have hc45 : Chg [x] V3 wc := by rw [← hV4]; exact (Chg.refl _ V3).setCell x 1 _ (.inl (by simp))
      have hvax : va ≠ x := fun e => by have h := H4h.out.2; rw [e] at h; have h2 := H4h.out.1.box; unfold XBoxAt at h2; have h3 := Option.some.inj (h2.symm.trans h); injection h3 with e1 e2 e3; exact absurd e2 (by decide)
      have hvc : wc.heap[va]? = some (.cells #[.string (nm), .string (to_), .int .i64 ((r.num nm : Nat) : Int)] 114 (0, 0)) := by
        have h1 := hB5.block va (lt_of_block H4h.out.2)
        have h2 := hc45.same va (by have := hB5.size; have := lt_of_block H4h.out.2; omega) (by rw [List.mem_singleton]; exact hvax)
        exact h2.trans (h1.trans H4h.out.2)
      have v0 : wc.drew.cell? ⟨va, 0, none⟩ = some (.string (nm)) := by
        show wc.cell? ⟨va, 0, none⟩ = _
        rw [cell_of_row _ va 0 _ _ (0, 0) hvc]; rfl
      have v1 : wc.drew.cell? ⟨va, 1, none⟩ = some (.string (to_)) := by
        show wc.cell? ⟨va, 1, none⟩ = _
        rw [cell_of_row _ va 1 _ _ (0, 0) hvc]; rfl
      have v2 : wc.drew.cell? ⟨va, 2, none⟩ = some (.int .i64 ((r.num nm : Nat) : Int)) := by
        show wc.cell? ⟨va, 2, none⟩ = _
        rw [cell_of_row _ va 2 _ _ (0, 0) hvc]; rfl
      have u3 : wc.drew.cell? ⟨x, 3, none⟩ = some (.slice CA cn cc) := hbx.cell 3 _ (by show some (poweredX b).changes = _; rw [H5.changes])
      have u3b : (wc.drew.alloc (.cells #[.string (nm), .string (to_), .int .i64 ((r.num nm : Nat) : Int)] 114)).cell? ⟨x, 3, none⟩ = some (.slice CA cn cc) := by
        rw [World.cell?_of_block (w := wc.drew) (a := ⟨x, 3, none⟩) (((Below.refl _ wc.drew).alloc (Nat.le_refl _) _).block x hbx.lt)]
        exact u3
      have u3c : (wc.alloc (.cells #[.string (nm), .string (to_), .int .i64 ((r.num nm : Nat) : Int)] 114)).cell? ⟨x, 3, none⟩ = some (.slice CA cn cc) := u3b
      have u3d : (wc.alloc (.cells #[.string (nm), .string (to_), .int .i64 ((r.num nm : Nat) : Int)] 114)).drew.cell? ⟨x, 3, none⟩ = some (.slice CA cn cc) := u3b
      have hcl5 : SLine 3 wc.drew CA cn cc (flatC cs) := (H5.cline.chg hc45 (fun k hk hm => by rw [List.mem_singleton] at hm; rw [hm] at hk; have := H5.oC x hk; have := H5.ob; omega)).drew
      have hcn : cn ≤ 80000 := by
        have h1 := H5.cline.1
        rw [flatC_length] at h1
        have h2 : cs.length = r.chs.length := by rw [← r.powered_chs, H5.chs, List.length_map]
        have := HS.out
        unfold RD.size at this
        omega
      obtain ⟨C', c2, V6, hr6, hl6, hc6, hf6, _⟩ := push_s 3 wc.drew 73 114 73 _ 40 Try.underlying73 infoChg rfl (by decide) CA cn cc _ hcl5 (by omega) [.string (nm), .string (to_), .int .i64 ((r.num nm : Nat) : Int)] rfl (fun u hu => by simp only [List.mem_cons, List.not_mem_nil, or_false] at hu; rcases hu with h | h | h <;> (rw [h]; rfl))
      have HR6 : Hid ((Builtin.append_ #[73, 73] 73 #[.slice CA cn cc, .slice (some ⟨wc.heap.size, 0, none⟩) 1 1]).run Try.prog (wc.drew.alloc (.cells #[.string (nm), .string (to_), .int .i64 ((r.num nm : Nat) : Int)] 114)) = .ok (.slice C' (cn + 1) c2) V6) := Lib.hid hr6
      have hbx6 : XBoxAt V6 x { (poweredX b) with now := .slice A5 ap.length c5 } := by
        have h1 : XBoxAt wc.drew x { (poweredX b) with now := .slice A5 ap.length c5 } := hbx
        exact h1.chg hc6 (fun hm => by have := H5.oC x hm; have := H5.ob; omega)
      have t3 : V6.cell? ⟨x, 3, none⟩ = some (.slice CA cn cc) := hbx6.cell 3 _ (by show some (poweredX b).changes = _; rw [H5.changes])
      have t3f := hbx6.free 3
      obtain ⟨V7, hV7⟩ : ∃ V7, V6.setCell ⟨x, 3, none⟩ (.slice C' (cn + 1) c2) = V7 := ⟨_, rfl⟩
      have HFIN : Hid (RNext w x ox { r.powered with chs := r.powered.chs ++ [pairs (nm, to_, r.num nm)] } V7) := Lib.hid (by
        have hlay : ap = layP (RD.now r.powered) (pairs (nm, to_, r.num nm)) := by
          rw [← HAPN.out, show r.powered.now = r.now from by unfold RD.now; rw [r.powered_sure, r.powered_chs]]
          exact applyN_lay HF.out.rn hemp (nm) (to_) (r.num nm)
        obtain ⟨ox', hO, hfin⟩ := H4h.out.1.turned (nm, to_, r.num nm) hB5 A5 _ c5 (by rw [← hlay]; exact hrow5) hfr5 hV4 (Below.refl _ wc).drew C' c2 (by rw [flatC_snoc]; exact hl6) hc6 hf6 hV7
        exact RNext.of HH.out.2 (HO4.out.trans hO) hfin)
      have hW : wc.drew.heap.size = wc.heap.size := rfl
      clear hbx hc45 hvc hcl5 hr6 hl6 hc6 hf6 hbx6 hrow5 hfr5 hB5 H5 hvax
      go_wp2_with fail
      refine wp_region_any (by kernel_rfl) ?_
      change wpAny _ _ _ _ _ _ _ (World.drew _)
      refine wpAny_take (i := 0) (v := (.pointer (some ⟨x, 0, none⟩))) rfl (by kernel_rfl) (by kernel_rfl) (by kernel_rfl) (fun _ _ _ h => h) (Or.inl ⟨by rfl, (by intro w; go_simp)⟩) ?_
      refine wpAny_take (i := 1) (v := (.pointer (some ⟨x, 0, none⟩))) rfl (by kernel_rfl) (by kernel_rfl) (by kernel_rfl) (fun _ _ _ h => h) (Or.inl ⟨by rfl, (by intro w; go_simp)⟩) ?_
      refine wpAny_take (i := 2) (v := (.pointer (some ⟨x, 0, none⟩))) rfl (by kernel_rfl) (by kernel_rfl) (by kernel_rfl) (fun _ _ _ h => h) (Or.inl ⟨by rfl, (by intro w; go_simp)⟩) ?_
      refine wpAny_take (i := 3) (v := (.pointer (some ⟨x, 3, none⟩))) rfl (by kernel_rfl) (by kernel_rfl) (by kernel_rfl) (fun _ _ _ h => h) (Or.inl ⟨by rfl, (by intro w; go_simp)⟩) ?_
      refine wpAny_ready (rs := [4, 5]) (by kernel_rfl) (by simp) ?_
      refine AllReady.cons rfl (fun K hK => ?_) (AllReady.cons rfl (fun K hK => ?_) AllReady.nil)
      · go_simp
        refine hK _ _ ?_
        clear hK K
        refine wpAny_ready (rs := [5]) (by kernel_rfl) (by simp) ?_
        refine AllReady.cons rfl (fun K hK => ?_) AllReady.nil
        go_simp
        refine hK _ _ ?_
        clear hK K
        refine wpAny_ready (rs := [6]) (by kernel_rfl) (by simp) ?_
        refine AllReady.cons rfl (fun K hK => ?_) AllReady.nil
        go_simp
        refine hK _ _ ?_
        clear hK K
        refine wpAny_ready (rs := [7]) (by kernel_rfl) (by simp) ?_
        refine append_ready rfl (by kernel_rfl) _ _ _ _ rfl _ _ rfl rfl _ _ HR6.out ?_
        refine wpAny_take (i := 8) (v := (.pointer (some ⟨x, 0, none⟩))) rfl (by kernel_rfl) (by kernel_rfl) (by kernel_rfl) (fun _ _ _ h => h) (Or.inl ⟨by rfl, (by intro w; go_simp)⟩) ?_
        refine wpAny_take (i := 9) (v := (.pointer (some ⟨x, 3, none⟩))) rfl (by kernel_rfl) (by kernel_rfl) (by kernel_rfl) (fun _ _ _ h => h) (Or.inl ⟨by rfl, (by intro w; go_simp)⟩) ?_
        refine wpAny_ready (rs := [10]) (by kernel_rfl) (by simp) ?_
        refine AllReady.cons rfl (fun K hK => ?_) AllReady.nil
        go_simp
        refine hK _ _ ?_
        clear hK K
        refine wpAny_done (by kernel_rfl) ?_ _
        go_wp2
        go_ret
        exact ⟨rfl, HFIN.out⟩
      · go_simp
        refine hK _ _ ?_
        clear hK K
        refine wpAny_ready (rs := [4, 6]) (by kernel_rfl) (by simp) ?_
        refine AllReady.cons rfl (fun K hK => ?_) (AllReady.cons rfl (fun K hK => ?_) AllReady.nil)
        · go_simp
          refine hK _ _ ?_
          clear hK K
          refine wpAny_ready (rs := [6]) (by kernel_rfl) (by simp) ?_
          refine AllReady.cons rfl (fun K hK => ?_) AllReady.nil
          go_simp
          refine hK _ _ ?_
          clear hK K
          refine wpAny_ready (rs := [7]) (by kernel_rfl) (by simp) ?_
          refine append_ready rfl (by kernel_rfl) _ _ _ _ rfl _ _ rfl rfl _ _ HR6.out ?_
          refine wpAny_take (i := 8) (v := (.pointer (some ⟨x, 0, none⟩))) rfl (by kernel_rfl) (by kernel_rfl) (by kernel_rfl) (fun _ _ _ h => h) (Or.inl ⟨by rfl, (by intro w; go_simp)⟩) ?_
          refine wpAny_take (i := 9) (v := (.pointer (some ⟨x, 3, none⟩))) rfl (by kernel_rfl) (by kernel_rfl) (by kernel_rfl) (fun _ _ _ h => h) (Or.inl ⟨by rfl, (by intro w; go_simp)⟩) ?_
          refine wpAny_ready (rs := [10]) (by kernel_rfl) (by simp) ?_
          refine AllReady.cons rfl (fun K hK => ?_) AllReady.nil
          go_simp
          refine hK _ _ ?_
          clear hK K
          refine wpAny_done (by kernel_rfl) ?_ _
          go_wp2
          go_ret
          exact ⟨rfl, HFIN.out⟩
        · go_simp
          refine hK _ _ ?_
          clear hK K
          refine wpAny_ready (rs := [4]) (by kernel_rfl) (by simp) ?_
          refine AllReady.cons rfl (fun K hK => ?_) AllReady.nil
          go_simp
          refine hK _ _ ?_
          clear hK K
          refine wpAny_ready (rs := [7]) (by kernel_rfl) (by simp) ?_
          refine append_ready rfl (by kernel_rfl) _ _ _ _ rfl _ _ rfl rfl _ _ HR6.out ?_
          refine wpAny_take (i := 8) (v := (.pointer (some ⟨x, 0, none⟩))) rfl (by kernel_rfl) (by kernel_rfl) (by kernel_rfl) (fun _ _ _ h => h) (Or.inl ⟨by rfl, (by intro w; go_simp)⟩) ?_
          refine wpAny_take (i := 9) (v := (.pointer (some ⟨x, 3, none⟩))) rfl (by kernel_rfl) (by kernel_rfl) (by kernel_rfl) (fun _ _ _ h => h) (Or.inl ⟨by rfl, (by intro w; go_simp)⟩) ?_
          refine wpAny_ready (rs := [10]) (by kernel_rfl) (by simp) ?_
          refine AllReady.cons rfl (fun K hK => ?_) AllReady.nil
          go_simp
          refine hK _ _ ?_
          clear hK K
          refine wpAny_done (by kernel_rfl) ?_ _
          go_wp2
          go_ret
          exact ⟨rfl, HFIN.out⟩
end
end Go.Proofs.Ytbjlikppboggmaa
namespace Go.Proofs.Ytbjlikppboggmaa
open Go.RowKit Go.Maps
set_option linter.unusedVariables false
set_option maxRecDepth 100000

theorem infoFile : (Try.prog.info? 81).map (fun i => (i.zero, i.size, i.bytes)) = some (some (.agg #[.slice none 0 0, .int .i64 0]), 2, 32) := by kernel_rfl
theorem Only.andChg {own own' : Nat → Nat} {w w1 w2 : World} {l : List Nat} (h : Only own w own' w1) (hc : Chg l w1 w2) (hl : ∀ k ∈ l, w.heap.size ≤ k ∨ own' k ≠ 0) : Only own w own' w2 :=
  ⟨h.1.trans hc.below, h.2.1, fun i hi h0 => (hc.same i (by have := h.1.size; omega) (fun hm => by
    rcases hl i hm with h' | h'
    · omega
    · rw [h.2.1 i hi] at h'; exact h' h0)).trans (h.2.2 i hi h0)⟩
theorem flatF_set : ∀ (vs : List (Value × Nat)) (k : Nat) (v : Value × Nat), k < vs.length → flatF (vs.set k v) = (flatF vs).take (k * 2) ++ [v.1, .int .i64 (v.2 : Int)] ++ (flatF vs).drop (k * 2 + 2) := by
  intro vs
  induction vs with
  | nil => intro k v h; simp at h
  | cons u l ih =>
    intro k v h
    have e : flatF (u :: l) = u.1 :: .int .i64 (u.2 : Int) :: flatF l := rfl
    cases k with
    | zero =>
      have e2 : flatF ((u :: l).set 0 v) = v.1 :: .int .i64 (v.2 : Int) :: flatF l := rfl
      rw [e, e2]
      simp
    | succ k =>
      have e2 : flatF ((u :: l).set (k + 1) v) = u.1 :: .int .i64 (u.2 : Int) :: flatF (l.set k v) := rfl
      rw [e, e2, ih k v (by simpa using h)]
      have h1 : (k + 1) * 2 = k * 2 + 1 + 1 := by omega
      have h2 : (k + 1) * 2 + 2 = (k * 2 + 2) + 1 + 1 := by omega
      rw [h2, h1]
      simp
section
variable {w w' : World} {x : Nat} {ox ox' : Nat → Nat} {b : XBox} {FA NA SA CA : Option Addr} {fn fc nn nc sn sc cn cc : Nat} {vs : List (Value × Nat)} {cs : List (ByteArray × ByteArray × Nat)} {r : RD}
/-- A file more. -/
theorem RefIn.made (H : RefIn w x ox b FA fn fc NA nn nc SA sn sc CA cn cc vs cs r) {V6 V7 : World} (F' : Option Addr) (fc' : Nat) (hl : SLine 2 V6 F' (fn + 1) fc' (flatF (vs ++ [(.slice none 0 0, 0)]))) (hc6 : Chg (blk FA) w V6) (hF' : ∀ k ∈ blk F', k ∈ blk FA ∨ w.heap.size ≤ k) (e7 : V6.setCell ⟨x, 0, none⟩ (.slice F' (fn + 1) fc') = V7) :
    ∃ ox', Only ox w ox' V7 ∧ RefIn V7 x ox' { b with files := .slice F' (fn + 1) fc' } F' (fn + 1) fc' NA nn nc SA sn sc CA cn cc (vs ++ [(.slice none 0 0, 0)]) cs { r with files := r.files ++ [⟨[], 0⟩] } := by
  have hx := H.box.lt
  have hxF : x ∉ blk FA := fun hm => by have := H.oF x hm; have := H.ob; omega
  have hb6 := H.box.chg hc6 hxF
  have hc7 : Chg [x] V6 V7 := by rw [← e7]; exact (Chg.refl _ V6).setCell x 0 _ (.inl (by simp))
  have hb7 : XBoxAt V7 x { b with files := .slice F' (fn + 1) fc' } := by rw [← e7]; exact hb6.set 0 _ _ rfl
  have hz6 := hc6.size
  have hz7 := hc7.size
  have hxF' : x ∉ blk F' := fun hm => by rcases hF' x hm with h | h; exact hxF h; omega
  have hsame : ∀ k, k < w.heap.size → k ≠ x → k ∉ blk FA → V7.heap[k]? = w.heap[k]? := fun k hk h1 h3 => (hc7.same k (by omega) (by rw [List.mem_singleton]; exact h1)).trans (hc6.same k hk h3)
  obtain ⟨ox', hox⟩ : ∃ ox' : Nat → Nat, ox' = fun i => if i < w.heap.size then ox i else if i ∈ blk F' then 2 else 0 := ⟨_, rfl⟩
  have ho : ∀ i, i < w.heap.size → ox' i = ox i := fun i hi => by rw [hox]; simp only [hi, if_true]
  have hs : ∀ i, i < w.heap.size → ox i ≠ 1 → ox i ≠ 2 → V7.heap[i]? = w.heap[i]? := fun i hi h1 h3 => hsame i hi (fun e => h1 (by rw [e]; exact H.ob)) (fun hm => h3 (H.oF i hm))
  refine ⟨ox', ⟨hc6.below.trans hc7.below, ho, fun i hi h0 => hs i hi (by omega) (by omega)⟩, ?_⟩
  exact {
    box := hb7
    ob := (ho x hx).trans H.ob
    files := rfl
    fline := hl.chg hc7 (fun k hk hm => hxF' (by rw [List.mem_singleton] at hm; rw [← hm]; exact hk))
    oF := fun i hi => by
      rcases Nat.lt_or_ge i w.heap.size with h | h
      · rw [ho i h]
        rcases hF' i hi with h' | h'
        · exact H.oF i h'
        · omega
      · rw [hox]; simp only [show ¬ i < w.heap.size by omega, if_false, hi, if_true]
    fdata := by
      have h0 := H.fdata.carry (by omega) ho fun k hk h => hs k hk (by omega) (by omega)
      refine ⟨by rw [List.length_append, h0.1, List.length_append]; rfl, fun i v f hv hf => ?_⟩
      rcases Nat.lt_or_ge i vs.length with h | h
      · rw [List.getElem?_append_left h] at hv
        rw [List.getElem?_append_left (by rw [← h0.1]; exact h)] at hf
        exact h0.2 i v f hv hf
      · have hi : i = vs.length := by
          have := (List.getElem?_eq_some_iff.1 hv).1
          simp at this
          omega
        subst hi
        rw [List.getElem?_append_right (Nat.le_refl _), Nat.sub_self] at hv
        rw [h0.1, List.getElem?_append_right (Nat.le_refl _), Nat.sub_self] at hf
        cases hv
        cases hf
        exact ⟨rfl, none, 0, rfl, SLine.nil 1 _, fun k hk => by obtain ⟨ad, ea, _⟩ := mem_blk.1 hk; cases ea⟩
    now := H.now
    nrow := H.nrow.same (by omega) fun k hk => hs k (H.nrow.lt' k hk) (by rw [H.oN k hk]; omega) (by rw [H.oN k hk]; omega)
    oN := fun k hk => (ho k (H.nrow.lt' k hk)).trans (H.oN k hk)
    sure := H.sure
    srow := H.srow.same (by omega) fun k hk => hs k (H.srow.lt' k hk) (by rw [H.oS k hk]; omega) (by rw [H.oS k hk]; omega)
    oS := fun k hk => (ho k (H.srow.lt' k hk)).trans (H.oS k hk)
    changes := H.changes
    cline := H.cline.same (by omega) fun k hk => hs k (H.cline.lt k hk) (by rw [H.oC k hk]; omega) (by rw [H.oC k hk]; omega)
    oC := fun k hk => (ho k (H.cline.lt k hk)).trans (H.oC k hk)
    chs := H.chs
    quota := H.quota, full := H.full, off := H.off, stop := H.stop, calls := H.calls }
/-- One file anew: its slice, or how many of its bytes are sure. -/
theorem RefIn.refiled (H : RefIn w x ox b FA fn fc NA nn nc SA sn sc CA cn cc vs cs r) {V6 : World} (k : Nat) (hk : k < vs.length) (A' : Option Addr) (c' : Nat) (f : Fl) (hB6 : Below w.heap.size w V6) (hl6 : SLine 1 V6 A' f.data.length c' f.data) (hA' : ∀ i ∈ blk A', ox i = 4 ∧ i < w.heap.size ∨ w.heap.size ≤ i)
    (g o : Nat) (hg : FA = some ⟨g, o, none⟩) (V7 : World) (e7 : V6.setCells g (o + k * 2) [.slice A' f.data.length c', .int .i64 (f.sure : Int)] = V7) :
    ∃ ox', Only ox w ox' V7 ∧ RefIn V7 x ox' b FA fn fc NA nn nc SA sn sc CA cn cc (vs.set k (.slice A' f.data.length c', f.sure)) cs { r with files := r.files.set k f } := by
  subst hg
  have hx := H.box.lt
  have hgo : ox g = 2 := H.oF g (mem_blk.2 ⟨_, rfl, rfl⟩)
  have hgl : g < w.heap.size := H.fline.lt g (mem_blk.2 ⟨_, rfl, rfl⟩)
  have hz6 := hB6.size
  have hc7 : Chg [g] V6 V7 := by rw [← e7]; exact chg_cells V6 g _ _
  have hz7 := hc7.size
  have hfn : fn = vs.length := by have := H.fline.1; rw [flatF_length] at this; omega
  obtain ⟨ox', hox⟩ : ∃ ox' : Nat → Nat, ox' = fun i => if i < w.heap.size then ox i else if i ∈ blk A' then 4 else 0 := ⟨_, rfl⟩
  have ho : ∀ i, i < w.heap.size → ox' i = ox i := fun i hi => by rw [hox]; simp only [hi, if_true]
  have hs : ∀ i, i < w.heap.size → ox i ≠ 2 → V7.heap[i]? = w.heap[i]? := fun i hi h2 => (hc7.same i (by omega) (by rw [List.mem_singleton]; intro e; rw [e] at h2; exact h2 hgo)).trans (hB6.block i hi)
  refine ⟨ox', ⟨(hB6.mono (Nat.zero_le _)).trans hc7.below, ho, fun i hi h0 => hs i hi (by omega)⟩, ?_⟩
  exact {
    box := (hs x hx (by rw [H.ob]; omega)).trans H.box
    ob := (ho x hx).trans H.ob
    files := H.files
    fline := by
      have h := (H.fline.below hB6).set (k * 2) [.slice A' f.data.length c', .int .i64 (f.sure : Int)] (by simp; omega)
      rw [e7] at h
      rw [flatF_set vs k _ hk]
      exact h
    oF := fun i hi => (ho i (H.fline.lt i hi)).trans (H.oF i hi)
    fdata := by
      have h0 := H.fdata.carry (by omega) ho fun i hi h => hs i hi (by omega)
      refine ⟨by rw [List.length_set, List.length_set]; exact h0.1, fun i v f' hv hf => ?_⟩
      by_cases hik : i = k
      · subst hik
        rw [List.getElem?_set_self hk] at hv
        rw [List.getElem?_set_self (by rw [← h0.1]; exact hk)] at hf
        cases hv
        cases hf
        refine ⟨rfl, A', c', rfl, hl6.chg hc7 (fun i hi hm => ?_), fun i hi => ?_⟩
        · rw [List.mem_singleton] at hm
          rcases hA' i hi with h | h
          · rw [hm] at h; omega
          · omega
        · rcases hA' i hi with h | h
          · rw [ho i h.2]; exact h.1
          · rw [hox]; simp only [show ¬ i < w.heap.size by omega, if_false, hi, if_true]
      · rw [List.getElem?_set_ne (fun e => hik e.symm)] at hv hf
        exact h0.2 i v f' hv hf
    now := H.now
    nrow := H.nrow.same (by omega) fun i hi => hs i (H.nrow.lt' i hi) (by rw [H.oN i hi]; omega)
    oN := fun i hi => (ho i (H.nrow.lt' i hi)).trans (H.oN i hi)
    sure := H.sure
    srow := H.srow.same (by omega) fun i hi => hs i (H.srow.lt' i hi) (by rw [H.oS i hi]; omega)
    oS := fun i hi => (ho i (H.srow.lt' i hi)).trans (H.oS i hi)
    changes := H.changes
    cline := H.cline.same (by omega) fun i hi => hs i (H.cline.lt i hi) (by rw [H.oC i hi]; omega)
    oC := fun i hi => (ho i (H.cline.lt i hi)).trans (H.oC i hi)
    chs := H.chs
    quota := H.quota, full := H.full, off := H.off, stop := H.stop, calls := H.calls }
end
end Go.Proofs.Ytbjlikppboggmaa
