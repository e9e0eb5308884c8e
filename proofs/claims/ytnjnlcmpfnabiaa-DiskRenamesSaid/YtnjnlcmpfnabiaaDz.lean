/-
  The contract of the disk's Crash.
-/
import Derived.Test.YtnjnlcmpfnabiaaDy
import Derived.Sort.CutIn
namespace Go.Proofs.Ytnjnlcmpfnabiaa
open Go.RowKit Go.Maps
set_option linter.unusedVariables false
set_option maxRecDepth 100000

section
variable {w w' : World} {d : Nat} {own own' : Nat → Nat} {b : DBox} {F RA SA C : Option Addr} {fn fc rn rc sn sc cn cc : Nat} {fs css : List Value} {ps ss : List (ByteArray × Value)} {chl : List (List (ByteArray × Value))} {nm su : Value → Nat} {dt : Value → List Value}
theorem DiskIn.heapEq (H : DiskIn w d own b F fn fc RA rn rc SA sn sc C cn cc fs ps ss css chl nm dt su) (h : w'.heap = w.heap) : DiskIn w' d own b F fn fc RA rn rc SA sn sc C cn cc fs ps ss css chl nm dt su := H.carry (by rw [h]; exact Nat.le_refl _) (fun _ _ => rfl) (fun k _ _ => by rw [h])
/-- What a loss of power leaves of a whole disk. -/
def CrashedO (w : World) (d : Nat) (own : Nat → Nat) (b : DBox) (F : Option Addr) (fc : Nat) (fs1 : List Value) (R : List (ByteArray × Value)) (zs : List Int) (nm : Value → Nat) (dt : Value → List Value) (su : Value → Nat) (w' : World) : Prop :=
  ∃ own' A2 n2 c2 A3 n3 c3 kf, Only own w own' w' ∧ DiskIn w' d own' { b with files := .slice F kf fc, now := .slice A3 n3 c3, sure := .slice A2 n2 c2, changes := .slice none 0 0, made := (kf : Int), full := false, ahead := -1, off := false } F kf fc A3 n3 c3 A2 n2 c2 none 0 0 fs1 R R [] [] (standN fs1 nm) (fun v => (dt v).take (leftV zs nm dt su v)) (leftV zs nm dt su)
set_option maxHeartbeats 3200000 in
theorem DiskIn.crash (H : DiskIn w d own b F fn fc RA rn rc SA sn sc C cn cc fs ps ss css chl nm dt su) (dir : Int) (hdir : -9223372036854775808 ≤ dir ∧ dir ≤ 9223372036854775807) (KA : Option Addr) (kn kc : Nat) (zs : List Int) (hK : ZsAt w KA kn zs) (hkn : kn ≤ 1000000) (hKo : 0 < kn → ∀ k ∈ blk KA, own k = 0) (hzs : ∀ z ∈ zs, z ≤ 9223372036854775807)
    (R : List (ByteArray × Value)) (hR : layAll ss (chl.take (min (max dir 0) (cn : Int)).toNat) = R) (fs1 : List Value) (hfs1 : fs.filter (keepV nm (R.map fun p => nm p.2)) = fs1) :
    Calls Try.prog 16 #[.pointer (some ⟨d, 0, none⟩), .agg #[.int .i64 dir, .slice KA kn kc]] w fun e w' => (∃ v, e = .returned v) ∧ CrashedO w d own b F fc fs1 R zs nm dt su w' := by
  obtain ⟨k, hk⟩ : ∃ k : Nat, (min (max dir 0) (cn : Int)).toNat = k := ⟨_, rfl⟩
  have hkZ : min (max dir 0) (cn : Int) = (k : Int) := by omega
  have hkc : k ≤ cn := by omega
  rw [hk] at hR
  obtain ⟨w0, hw0⟩ : ∃ w0, w.alloc (.cells #[.int .i64 dir, .slice KA kn kc] 32) = w0 := ⟨_, rfl⟩
  have hB0 : Below w.heap.size w w0 := by rw [← hw0]; exact (Below.refl _ w).alloc (Nat.le_refl _) _
  have hs0 : w0.heap.size = w.heap.size + 1 := by rw [← hw0]; simp
  have q0 : w0.heap[w.heap.size]? = some (.cells #[.int .i64 dir, .slice KA kn kc] 32 (0, 0)) := by rw [← hw0]; show (w.heap.push _)[w.heap.size]? = _; rw [Array.getElem?_push_size]
  have q1 : w0.cell? ⟨w.heap.size, 0, none⟩ = some (.int .i64 dir) := by rw [cell_of_row w0 w.heap.size 0 _ _ (0, 0) q0]; rfl
  obtain ⟨own0, hown0⟩ : ∃ own0 : Nat → Nat, own0 = fun i => if i < w.heap.size then own i else 0 := ⟨_, rfl⟩
  have ho0 : ∀ i, i < w.heap.size → own0 i = own i := fun i hi => by rw [hown0]; simp only [hi, if_true]
  have hoq : own0 w.heap.size = 0 := by rw [hown0]; simp only [Nat.lt_irrefl, if_false]
  have H0 := H.carry (own' := own0) hB0.size ho0 (fun i hi _ => hB0.block i hi)
  have O0 : Only own w own0 w0 := ⟨hB0.mono (Nat.zero_le _), ho0, fun i hi _ => hB0.block i hi⟩
  have HQ := Lib.hid (And.intro q0 (And.intro hoq (And.intro hs0 (And.intro ho0 (And.intro O0 hB0)))))
  have c4 : w0.cell? ⟨d, 4, none⟩ = some b.changes := H0.box.cell 4 _ rfl
  rw [H.changes] at c4
  have HS := Lib.hid (fun (W : World) (hW : W.heap = w0.heap) => (H0.heapEq hW).settle k hkc)
  rw [hR] at HS
  have HK := Lib.hid (And.intro hK (And.intro hKo hzs))
  have HFS := Lib.hid hfs1
  have hdl := H.box.lt
  clear hk hR q0 hown0 ho0 hoq H0 O0 hB0 hs0 hK hKo hzs hfs1 H
  go_enter Try.func16, Try.ntmps16
  go_upto_region 2 with fail
  go_cut [] from 8 to 18 (fun wx => Hid (SettledO w0 d own0 b F fc fs nm dt su R wx))
  case first =>
    go_region_with (go_at_call 42; refine (HS.out w0.drew rfl).mono ?_; rintro e w1 ⟨⟨v, rfl⟩, own1, A2, n2, c2, A3, n3, c3, kf, ho1, H1⟩; have HR1 : Hid (SettledO w0 d own0 b F fc fs nm dt su R w1) := Lib.hid ⟨own1, A2, n2, c2, A3, n3, c3, kf, (Only.of_chg ((Chg.refl [] w0).drew) (by simp)).trans ho1, H1⟩; clear ho1 H1)
    all_goals
      go_wp2_with fail
      go_meet
      exact HR1
  case rest =>
    obtain ⟨own1, A2, n2, c2, A3, n3, c3, kf, ho1, H1⟩ := hcut.out
    rw [HFS.out] at H1
    have x0 : wc.cell? ⟨d, 0, none⟩ = some (.slice F kf fc) := H1.box.cell 0 _ rfl
    have HD := Lib.hid (And.intro H1 ho1)
    have hcc : kf ≤ fc := H1.line.2.1
    have hcc63 : fc ≤ 9223372036854775807 := by have := H1.line.2.2.1; unfold maxLen at this; omega
    clear ho1 H1 hcut q1 c4 HS
    go_wp2_with fail
    go_loopw [24] (fun i wr => ∃ j : Nat, j ≤ kf ∧ i = .int .i64 j ∧ Hid (∃ own2, LostAt wc own1 fs1 zs nm dt su j own2 wr)) (fun i _ => kf - (intOf i).toNat)
    case atStart => exact ⟨0, by omega, rfl, Lib.hid ⟨own1, LostAt.start HD.out.1.file⟩⟩
    case round =>
      obtain ⟨j, hj, rfl, HI⟩ := hrel
      obtain ⟨own2, hL⟩ := HI.out
      obtain ⟨H1, ho1⟩ := HD.out
      obtain ⟨hq0, hoq, hs0, ho0, hO0, hB0⟩ := HQ.out
      have hfl1 : fs1.length = kf := by have := H1.line.1; omega
      have hz1 := ho1.1.size
      have hz2 := hL.below.size
      rcases Nat.lt_or_ge j kf with hjk | hjk
      · obtain ⟨v, hv⟩ : ∃ v, fs1[j]? = some v := ⟨_, List.getElem?_eq_getElem (by omega)⟩
        have hvm := List.mem_of_getElem? hv
        obtain ⟨f, A, n, c, e, hf7, hfa, hsl, hoA, hn1, hsu⟩ := hL.still j v hv (Nat.le_refl _)
        obtain rfl : n = (dt v).length := by have := hsl.1; omega
        obtain ⟨f', _, _, _, e', hf7', hfa', _⟩ := H1.file v hvm
        rw [e] at e'
        cases e'
        have hfw := lt_of_block hfa'
        have hflr := lt_of_block hfa
        have hline : SLine 1 wr F kf fc fs1 := H1.line.same hz2 fun x hx => hL.same x (H1.line.lt x hx) (by rw [H1.oF x hx]; omega)
        obtain ⟨g, off, rfl, hg, hcs, _⟩ := hline.at (by omega)
        have hck := hcs j (by omega)
        rw [hv, e] at hck
        have hq1 : own1 w.heap.size = 0 := (ho1.2.1 _ (by omega)).trans hoq
        have hqr : wr.heap[w.heap.size]? = some (.cells #[.int .i64 dir, .slice KA kn kc] 32 (0, 0)) := (hL.same _ (by omega) (by omega)).trans ((ho1.2.2 _ (by omega) hoq).trans hq0)
        have hq2 : wr.cell? ⟨w.heap.size, 1, none⟩ = some (.slice KA kn kc) := by rw [cell_of_row wr w.heap.size 1 _ _ (0, 0) hqr]; rfl
        have hKr : ZsAt wr KA kn zs := by
          rcases Nat.eq_zero_or_pos kn with hk0 | hk0
          · exact ⟨HK.out.1.1, fun hlt => by omega⟩
          · exact HK.out.1.same (by omega) (fun x hx hxl => by
              have hx0 := HK.out.2.1 hk0 x hx
              have hx1 : own0 x = 0 := (ho0 x hxl).trans hx0
              have hx2 : own1 x = 0 := (ho1.2.1 x (by omega)).trans hx1
              exact (hL.same x (by omega) (by omega)).trans ((ho1.2.2 x (by omega) hx1).trans (hB0.block x hxl)))
        have hnum : nm v ≤ 1000000 := by have := H1.num v hvm; have h := H1.made; dsimp only at this h; omega
        have hc0 := hfa.c0
        have HKEPT := Lib.hid (fun (W : World) (hW : W.heap = wr.heap) => kept_any W KA kn kc zs (hKr.same (by rw [hW]; exact Nat.le_refl _) (fun _ _ _ => by rw [hW])) hkn (nm v) hnum)
        have hkz : keptZ zs (nm v) ≤ 9223372036854775807 := by
          unfold keptZ
          split
          · omega
          · rename_i h0
            have hm : nm v % zs.length < zs.length := Nat.mod_lt _ (by omega)
            rw [List.getD_eq_getElem?_getD, List.getElem?_eq_getElem hm, Option.getD_some]
            exact HK.out.2.2 _ (List.getElem_mem hm)
        have HLOSE := Lib.hid (fun (W : World) (hW : W.heap = wr.heap) => lose_any W f (nm v) A (dt v).length c (su v) (dt v) (keptZ zs (nm v)) (hfa.same (by rw [hW])) (hsl.same (by rw [hW]; exact Nat.le_refl _) (fun _ _ => by rw [hW])) (by omega) (fun u hu => by obtain ⟨z, _, _, ez⟩ := H1.bytes v hvm u hu; rw [ez]; rfl) hsu (fun hm => by have := hoA f hm; omega) hkz)
        have HX := Lib.hid (And.intro hL (And.intro H1.rises (And.intro hv (And.intro e (And.intro hf7 (And.intro hfw (And.intro hf7' (And.intro hflr (And.intro hn1 hsu)))))))))
        obtain ⟨num, hnm⟩ : ∃ num, nm v = num := ⟨_, rfl⟩
        obtain ⟨kz, hkze⟩ : ∃ kz, keptZ zs (nm v) = kz := ⟨_, rfl⟩
        have HLV : Hid (leftN (dt v).length (su v) kz = leftV zs nm dt su v) := Lib.hid (by rw [← hkze]; rfl)
        rw [hkze] at HKEPT HLOSE
        rw [hnm] at hc0 HKEPT HLOSE
        have hjk' : (j : Int) < (kf : Int) := by omega
        have hj0 : (0 : Int) ≤ (j : Int) := by omega
        clear hL H1 ho1 hq0 hoq hs0 ho0 hO0 hB0 hfl1 hvm hfa hsl hoA hfa' hfw hflr hline hg hcs hq1 hqr hKr hnum hkz hnm hkze hn1 hsu hf7 hf7' hv e HI
        go_wp2_with fail
        go_region_with (first
          | (go_at_call 44; refine (HKEPT.out wr.drew rfl).mono ?_; rintro e w2 ⟨rfl, rfl⟩)
          | (go_at_call 43; refine (HLOSE.out wr.drew rfl).mono ?_; rintro e w5 ⟨⟨v5, rfl⟩, A5, c5, hf5, hl5, ha5, hc5⟩; have z0 := hf5.c0; have zf := hf5.free 0; have H5 := Lib.hid (And.intro hf5 (And.intro hl5 (And.intro ha5 hc5))); clear hf5 hl5 ha5 hc5))
        all_goals
          obtain ⟨w6, hw6⟩ : ∃ w6, w5.setCell ⟨f, 0, none⟩ (.int .i64 (j : Int)) = w6 := ⟨_, rfl⟩
          have HNEW : Hid (∃ own2, LostAt wc own1 fs1 zs nm dt su (j + 1) own2 w6) := Lib.hid (by
            obtain ⟨hL, hr1, hv, e, hf7, hfw, hf7', hflr, hn1, hsu⟩ := HX.out
            obtain ⟨hf5, hl5, ha5, hc5⟩ := H5.out
            rw [HLV.out] at hf5 hl5
            have hA5 : ∀ x ∈ blk A5, x ≠ f := fun x hx ex => by have h5 : wr.heap.size ≤ x := ha5 x hx; omega
            have hc6 : Chg [f] w5 w6 := by rw [← hw6]; exact (Chg.refl _ w5).setCell f 0 _ (.inl (by simp))
            refine hL.step hr1 v hv e hf7 hfw hf7' hflr hn1 hsu A5 c5 (by rw [← hw6]; exact hf5.setNum j) (hl5.chg hc6 (fun x hx hm => hA5 x hx (List.mem_singleton.1 hm))) (fun x hx => ha5 x hx) ?_
            exact ((Chg.refl _ wr).drew.trans hc5).trans hc6)
          clear H5 HX HLOSE HKEPT
          go_wp2
          go_roundw
          case rel => exact ⟨j + 1, by omega, by go_num, HNEW⟩
          case measure => simp [intOf]; omega
      · obtain rfl : j = kf := by omega
        have hdr : own1 d = 1 := H1.od
        have hDr : DBoxAt wr d _ := (hL.same d H1.box.lt (by omega)).trans H1.box
        have x0r : wr.cell? ⟨d, 0, none⟩ = some (.slice F j fc) := hDr.cell 0 _ rfl
        have x1r : wr.cell? ⟨d, 1, none⟩ = some (.int .i64 b.made) := hDr.cell 1 _ rfl
        have f1r := hDr.free 1
        obtain ⟨wA, hwA⟩ : ∃ wA, wr.setCell ⟨d, 1, none⟩ (.int .i64 (j : Int)) = wA := ⟨_, rfl⟩
        have hDA : DBoxAt wA d { files := .slice F j fc, made := (j : Int), now := .slice A3 n3 c3, sure := .slice A2 n2 c2, changes := .slice none 0 0, quota := b.quota, full := b.full, ahead := b.ahead, off := b.off, calls := b.calls } := by rw [← hwA]; exact hDr.set 1 _ _ rfl
        have x6 : wA.cell? ⟨d, 6, none⟩ = some (.bool b.full) := hDA.cell 6 _ rfl
        have f6 := hDA.free 6
        obtain ⟨wB, hwB⟩ : ∃ wB, wA.setCell ⟨d, 6, none⟩ (.bool false) = wB := ⟨_, rfl⟩
        have hDB : DBoxAt wB d { files := .slice F j fc, made := (j : Int), now := .slice A3 n3 c3, sure := .slice A2 n2 c2, changes := .slice none 0 0, quota := b.quota, full := false, ahead := b.ahead, off := b.off, calls := b.calls } := by rw [← hwB]; exact hDA.set 6 _ _ rfl
        have x8 : wB.cell? ⟨d, 8, none⟩ = some (.bool b.off) := hDB.cell 8 _ rfl
        have f8 := hDB.free 8
        obtain ⟨wC, hwC⟩ : ∃ wC, wB.setCell ⟨d, 8, none⟩ (.bool false) = wC := ⟨_, rfl⟩
        have hDC : DBoxAt wC d { files := .slice F j fc, made := (j : Int), now := .slice A3 n3 c3, sure := .slice A2 n2 c2, changes := .slice none 0 0, quota := b.quota, full := false, ahead := b.ahead, off := false, calls := b.calls } := by rw [← hwC]; exact hDB.set 8 _ _ rfl
        have x7 : wC.cell? ⟨d, 7, none⟩ = some (.int .i64 b.ahead) := hDC.cell 7 _ rfl
        have f7 := hDC.free 7
        obtain ⟨wD, hwD⟩ : ∃ wD, wC.setCell ⟨d, 7, none⟩ (.int .i64 (-1)) = wD := ⟨_, rfl⟩
        have hDD : DBoxAt wD d { files := .slice F j fc, made := (j : Int), now := .slice A3 n3 c3, sure := .slice A2 n2 c2, changes := .slice none 0 0, quota := b.quota, full := false, ahead := -1, off := false, calls := b.calls } := by rw [← hwD]; exact hDC.set 7 _ _ rfl
        have hcD : Chg [d] wr wD := by
          rw [← hwD, ← hwC, ← hwB, ← hwA]
          exact ((((Chg.refl _ wr).setCell d 1 _ (.inl (by simp))).setCell d 6 _ (.inl (by simp))).setCell d 8 _ (.inl (by simp))).setCell d 7 _ (.inl (by simp))
        have h9 := LostAt.disk H1 hL hcD hDD
        have HEND : Hid (CrashedO w d own b F fc fs1 R zs nm dt su wD) := Lib.hid ⟨own2, A2, n2, c2, A3, n3, c3, j, (hO0.trans ho1).trans h9.1, h9.2⟩
        clear hL H1 ho1 hq0 hoq hs0 ho0 hO0 hB0 hfl1 hDr hDA hDB hDC hDD hcD HI h9
        go_wp2
        go_end0
        exact ⟨⟨_, rfl⟩, HEND.out⟩
end
end Go.Proofs.Ytnjnlcmpfnabiaa
