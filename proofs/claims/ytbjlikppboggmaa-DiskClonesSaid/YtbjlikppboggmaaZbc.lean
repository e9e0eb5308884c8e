/-
  The document's disk in memory: one file anew; Call 2 (Sync) with power.
  The document's disk: Call 2 (Sync) with power, where the name is there.
  The document's disk: Call 1 (Append) with power, where there is no room.
-/
import Derived.Test.YtbjlikppboggmaaZax
import Derived.Deep.QuietTactic
import Derived.BigQuiet
import Derived.StillTailTactics
namespace Go.Proofs.Ytbjlikppboggmaa
open Go.RowKit Go.Maps
set_option linter.unusedVariables false
set_option maxRecDepth 100000

theorem flatF_set1 : ∀ (vs : List (Value × Nat)) (k : Nat) (v : Value × Nat) (s : Nat), vs[k]? = some v → flatF (vs.set k (v.1, s)) = (flatF vs).take (k * 2 + 1) ++ [.int .i64 (s : Int)] ++ (flatF vs).drop (k * 2 + 1 + 1) := by
  intro vs
  induction vs with
  | nil => intro k v s h; simp at h
  | cons u l ih =>
    intro k v s h
    have e : flatF (u :: l) = u.1 :: .int .i64 (u.2 : Int) :: flatF l := rfl
    cases k with
    | zero =>
      simp at h
      subst h
      have e2 : flatF ((u :: l).set 0 (u.1, s)) = u.1 :: .int .i64 (s : Int) :: flatF l := rfl
      rw [e, e2]
      simp
    | succ k =>
      have e2 : flatF ((u :: l).set (k + 1) (v.1, s)) = u.1 :: .int .i64 (u.2 : Int) :: flatF (l.set k (v.1, s)) := rfl
      rw [e, e2, ih k v s (by simpa using h)]
      have h1 : (k + 1) * 2 + 1 = (k * 2 + 1) + 1 + 1 := by omega
      rw [h1]
      simp
theorem flatF_set0 : ∀ (vs : List (Value × Nat)) (k : Nat) (v : Value × Nat) (u : Value), vs[k]? = some v → flatF (vs.set k (u, v.2)) = (flatF vs).take (k * 2) ++ [u] ++ (flatF vs).drop (k * 2 + 1) := by
  intro vs
  induction vs with
  | nil => intro k v s h; simp at h
  | cons a l ih =>
    intro k v u h
    have e : flatF (a :: l) = a.1 :: .int .i64 (a.2 : Int) :: flatF l := rfl
    cases k with
    | zero =>
      simp at h
      subst h
      have e2 : flatF ((a :: l).set 0 (u, a.2)) = u :: .int .i64 (a.2 : Int) :: flatF l := rfl
      rw [e, e2]
      simp
    | succ k =>
      have e2 : flatF ((a :: l).set (k + 1) (u, v.2)) = a.1 :: .int .i64 (a.2 : Int) :: flatF (l.set k (u, v.2)) := rfl
      rw [e, e2, ih k v u (by simpa using h)]
      have h1 : (k + 1) * 2 = (k * 2) + 1 + 1 := by omega
      rw [h1]
      simp
section
variable {w w' : World} {x : Nat} {ox ox' : Nat → Nat} {b : XBox} {FA NA SA CA : Option Addr} {fn fc nn nc sn sc cn cc : Nat} {vs : List (Value × Nat)} {cs : List (ByteArray × ByteArray × Nat)} {r : RD}
/-- One file anew: its slice, or how many of its bytes are sure. -/
theorem RefIn.anew (H : RefIn w x ox b FA fn fc NA nn nc SA sn sc CA cn cc vs cs r) {V6 : World} (k : Nat) (hk : k < vs.length) (A' : Option Addr) (c' : Nat) (f : Fl) (hB6 : Below w.heap.size w V6) (hl6 : SLine 1 V6 A' f.data.length c' f.data) (hA' : ∀ i ∈ blk A', ox i = 4 ∧ i < w.heap.size ∨ w.heap.size ≤ i)
    (g o : Nat) (hg : FA = some ⟨g, o, none⟩) (V7 : World) (hc7 : Chg [g] V6 V7) (hl7 : SLine 2 V7 (some ⟨g, o, none⟩) fn fc (flatF (vs.set k (.slice A' f.data.length c', f.sure)))) :
    ∃ ox', Only ox w ox' V7 ∧ RefIn V7 x ox' b FA fn fc NA nn nc SA sn sc CA cn cc (vs.set k (.slice A' f.data.length c', f.sure)) cs { r with files := r.files.set k f } := by
  subst hg
  have hx := H.box.lt
  have hgo : ox g = 2 := H.oF g (mem_blk.2 ⟨_, rfl, rfl⟩)
  have hgl : g < w.heap.size := H.fline.lt g (mem_blk.2 ⟨_, rfl, rfl⟩)
  have hz6 := hB6.size
  have hz7 := hc7.size
  have hfn : fn = vs.length := by have := H.fline.1; rw [flatF_length] at this; omega
  obtain ⟨ox', hox⟩ : ∃ ox' : Nat → Nat, ox' = fun i => if i < w.heap.size then ox i else if i ∈ blk A' then 4 else 0 := ⟨_, rfl⟩
  have ho : ∀ i, i < w.heap.size → ox' i = ox i := fun i hi => by rw [hox]; simp only [hi, if_true]
  have hs : ∀ i, i < w.heap.size → ox i ≠ 2 → V7.heap[i]? = w.heap[i]? := fun i hi h2 => (hc7.same i (by omega) (by rw [List.mem_singleton]; intro e; rw [e] at h2; exact h2 hgo)).trans (hB6.block i hi)
  refine ⟨ox', ⟨(hB6.mono (Nat.zero_le _)).trans hc7.below, ho, fun i hi h0 => hs i hi (by omega)⟩, ?_⟩
  exact {
    box := (hs x hx (by rw [H.ob]; omega)).trans H.box
    ob := (ho x hx).trans H.ob
    files := H.files
    fline := hl7
    oF := fun i hi => (ho i (H.fline.lt i hi)).trans (H.oF i hi)
    fdata := by
      have h0 := H.fdata.carry (by omega) ho fun i hi h => hs i hi (by omega)
      refine ⟨by rw [List.length_set, List.length_set]; exact h0.1, fun i v f' hv hf => ?_⟩
      by_cases hik : i = k
      · subst hik
        rw [List.getElem?_set_self hk] at hv
        rw [List.getElem?_set_self (by rw [← h0.1]; exact hk)] at hf
        cases hv
        cases hf
        refine ⟨rfl, A', c', rfl, hl6.chg hc7 (fun i hi hm => ?_), fun i hi => ?_⟩
        · rw [List.mem_singleton] at hm
          rcases hA' i hi with h | h
          · rw [hm] at h; omega
          · omega
        · rcases hA' i hi with h | h
          · rw [ho i h.2]; exact h.1
          · rw [hox]; simp only [show ¬ i < w.heap.size by omega, if_false, hi, if_true]
      · rw [List.getElem?_set_ne (fun e => hik e.symm)] at hv hf
        exact h0.2 i v f' hv hf
    now := H.now
    nrow := H.nrow.same (by omega) fun i hi => hs i (H.nrow.lt' i hi) (by rw [H.oN i hi]; omega)
    oN := fun i hi => (ho i (H.nrow.lt' i hi)).trans (H.oN i hi)
    sure := H.sure
    srow := H.srow.same (by omega) fun i hi => hs i (H.srow.lt' i hi) (by rw [H.oS i hi]; omega)
    oS := fun i hi => (ho i (H.srow.lt' i hi)).trans (H.oS i hi)
    changes := H.changes
    cline := H.cline.same (by omega) fun i hi => hs i (H.cline.lt i hi) (by rw [H.oC i hi]; omega)
    oC := fun i hi => (ho i (H.cline.lt i hi)).trans (H.oC i hi)
    chs := H.chs
    quota := H.quota, full := H.full, off := H.off, stop := H.stop, calls := H.calls }
end
end Go.Proofs.Ytbjlikppboggmaa
namespace Go.Proofs.Ytbjlikppboggmaa
open Go.RowKit Go.Maps
set_option linter.unusedVariables false
set_option maxRecDepth 100000

section
variable {w w' : World} {x : Nat} {ox ox' : Nat → Nat} {b : XBox} {FA NA SA CA : Option Addr} {fn fc nn nc sn sc cn cc : Nat} {vs : List (Value × Nat)} {cs : List (ByteArray × ByteArray × Nat)} {r : RD}
set_option maxHeartbeats 3200000 in
theorem RefIn.sync_on (H : RefIn w x ox b FA fn fc NA nn nc SA sn sc CA cn cc vs cs r) (hF : ∀ i, w.heap.size ≤ i → ox i = 0) (F : Fct r) (hs : r.size ≤ 79000) (hon : r.on = true) (nm : ByteArray) (hsz : nm.size ≤ 1000000) (hmay : nameOk nm = true) (hhas : hasP ltS r.now nm = true) :
    Calls Try.prog 33 #[.pointer (some ⟨x, 0, none⟩), .int .i64 2, .string nm, .string ⟨#[]⟩, .slice none 0 0] w fun e w' => e = .returned (.int .i64 0) ∧ RNext w x ox { r.powered with files := r.files.set (r.num nm) ⟨(r.get nm).data, (r.get nm).data.length⟩ } w' := by
  have hcl : b.calls = (r.calls : Int) := H.calls
  have hcb : 0 ≤ b.calls ∧ b.calls ≤ 80000 := by unfold RD.size at hs; omega
  have hqb := F.stop
  have HF := Lib.hid F
  have HH := Lib.hid (And.intro H hF)
  have HS := Lib.hid hs
  have hof := H.off
  have hst := H.stop
  unfold RD.on at hon
  rw [← hof, ← hst] at hon
  rw [← hst] at hqb
  have c6 : w.cell? ⟨x, 6, none⟩ = some (.bool false) := by
    have h : w.cell? ⟨x, 6, none⟩ = some (.bool b.off) := H.box.cell 6 _ rfl
    have h2 : b.off = false := by cases h : b.off with | false => rfl | true => rw [h] at hon; cases hon
    rw [h, h2]
  have hoff : b.off = false := by cases h : b.off with | false => rfl | true => rw [h] at hon; cases hon
  have hne : b.stop ≠ 0 := by rw [hoff] at hon; simpa using hon
  have c7 : w.cell? ⟨x, 7, none⟩ = some (.int .i64 b.stop) := H.box.cell 7 _ rfl
  have c8 : w.cell? ⟨x, 8, none⟩ = some (.int .i64 b.calls) := H.box.cell 8 _ rfl
  have f8 := H.box.free 8
  obtain ⟨wA, hwA⟩ : ∃ wA, w.setCell ⟨x, 8, none⟩ (.int .i64 (b.calls + 1)) = wA := ⟨_, rfl⟩
  have hbA : XBoxAt wA x { b with calls := b.calls + 1 } := by rw [← hwA]; exact H.box.set 8 _ _ rfl
  have a7 : wA.cell? ⟨x, 7, none⟩ = some (.int .i64 b.stop) := hbA.cell 7 _ rfl
  have g7 := hbA.free 7
  have hcA : Chg [x] w wA := by rw [← hwA]; exact (Chg.refl _ w).setCell x 8 _ (.inl (by simp))
  rcases (show 0 < b.stop ∨ b.stop < 0 by omega) with hway | hway
  · have hne2 : (b.stop == 0) = false := by simpa using hne
    obtain ⟨wB, hwB⟩ : ∃ wB, wA.setCell ⟨x, 7, none⟩ (.int .i64 (b.stop - 1)) = wB := ⟨_, rfl⟩
    have hbB : XBoxAt wB x (poweredX b) := by
      have e : poweredX b = { b with calls := b.calls + 1, stop := b.stop - 1 } := by unfold poweredX; rw [if_neg (by rw [hoff]; exact fun e => by cases e), if_neg hne, if_pos hway]
      rw [e, ← hwB]; exact hbA.set 7 _ _ rfl
    have hcB : Chg [x] w wB := by rw [← hwB]; exact hcA.setCell x 7 _ (.inl (by simp))
    have HB := Lib.hid (OnW.mk hbB hcB)
    clear H F hF hs hof hst hon hcl hbA hbB hcB hcA
    have HMAY := Lib.hid (rmayName_any nm hsz)
    rw [hmay] at HMAY
    have hfound := (atN_num HF.out nm).resolve_left (fun h => by rw [hhas] at h; cases h.2)
    have hat0 : ¬ (r.num nm : Int) < 0 := by omega
    have H1 := HH.out.1.powered HB.out.chg HB.out.box
    have hen : r.powered.now = r.now := by unfold RD.now; rw [r.powered_sure, r.powered_chs]
    have b1 : wB.cell? ⟨x, 1, none⟩ = some (.slice NA nn nc) := HB.out.box.cell 1 _ (by show some (poweredX b).now = _; rw [H1.now])
    have hnr := H1.nrow
    rw [hen] at hnr
    have hnl := HF.out.len (by have := HS.out; omega)
    have hnn : nn ≤ 80000 := by have := hnr.len; omega
    have HAT := Lib.hid (at_any wB NA nn nc r.now hnr (by omega) (HF.out.nums (by have := HS.out; omega)) nm)
    have H1h := Lib.hid H1
    clear H1 hnr hnl
    rw [hfound.1] at HAT
    obtain ⟨num, hnum⟩ : ∃ num, r.num nm = num := ⟨_, rfl⟩
    have HNUM := Lib.hid hnum
    rw [hnum] at hfound hat0 HAT
    have HNF := Lib.hid hfound.2.2.1
    clear hfound hnum
    go_enter Try.func33, Try.ntmps33
    go_wp2_with fail
    refine (HMAY.out _).mono ?_
    rintro e wm ⟨rfl, rfl⟩
    go_wp2_with fail
    refine HAT.out.mono ?_
    rintro e w2 ⟨rfl, hB2⟩
    have H2 := H1h.out.below hB2
    obtain ⟨w3, hw3⟩ : ∃ w3, w2.alloc (.cells #[.string ⟨#[]⟩, .string ⟨#[]⟩, .int .i64 0] 114) = w3 := ⟨_, rfl⟩
    have hB3 : Below w2.heap.size w2 w3 := by rw [← hw3]; exact (Below.refl _ w2).alloc (Nat.le_refl _) _
    have hva : w3.heap[w2.heap.size]? = some (.cells #[.string ⟨#[]⟩, .string ⟨#[]⟩, .int .i64 0] 114 (0, 0)) := by rw [← hw3]; exact heap_alloc_new w2 _
    obtain ⟨va, hvae⟩ : ∃ va, w2.heap.size = va := ⟨_, rfl⟩
    rw [hvae] at hva
    have i0 : w3.cell? ⟨va, 0, none⟩ = some (.string ⟨#[]⟩) := by rw [cell_of_row _ va 0 _ _ (0, 0) hva]; rfl
    have i1 : w3.cell? ⟨va, 1, none⟩ = some (.string ⟨#[]⟩) := by rw [cell_of_row _ va 1 _ _ (0, 0) hva]; rfl
    have i2 : w3.cell? ⟨va, 2, none⟩ = some (.int .i64 0) := by rw [cell_of_row _ va 2 _ _ (0, 0) hva]; rfl
    have k0 : w3.frozen? ⟨va, 0, none⟩ = false := frozen_of_row w3 va 0 _ _ hva
    have k1 : w3.frozen? ⟨va, 1, none⟩ = false := frozen_of_row w3 va 1 _ _ hva
    have k2 : w3.frozen? ⟨va, 2, none⟩ = false := frozen_of_row w3 va 2 _ _ hva
    have j0 : w3.setCell ⟨va, 0, none⟩ (.string ⟨#[]⟩) = w3 := setCell_id hva rfl
    have j1 : w3.setCell ⟨va, 1, none⟩ (.string ⟨#[]⟩) = w3 := setCell_id hva rfl
    have j2 : w3.setCell ⟨va, 2, none⟩ (.int .i64 0) = w3 := setCell_id hva rfl
    have HVA := Lib.hid hva
    have hnf := HNF.out
    have H3 := H2.below hB3
    have hfv0 : num < vs.length := by rw [H3.fdata.1, r.powered_files]; exact hnf
    obtain ⟨fv, hfv⟩ : ∃ fv, vs[num]? = some fv := ⟨_, List.getElem?_eq_getElem hfv0⟩
    obtain ⟨hsu9, A9, c9, e9, hl9, ho9⟩ := H3.fdata.2 num fv (r.get nm) hfv (by rw [r.powered_files]; unfold RD.get RD.file; rw [HNUM.out, List.getD_eq_getElem?_getD, List.getElem?_eq_getElem hnf]; rfl)
    obtain ⟨y0, y1⟩ := flatF_at vs num fv hfv
    rw [e9] at y0
    obtain ⟨g2, o2, rfl, hg2, hcs2, hfr2⟩ := H3.fline.at (by have := H3.fline.1; rw [flatF_length] at this; omega)
    have hfnl : fn = vs.length := by have := H3.fline.1; rw [flatF_length] at this; omega
    have hfc := H3.fline.2.1
    have z0 : w3.cell? ⟨x, 0, none⟩ = some (.slice (some ⟨g2, o2, none⟩) fn fc) := H3.box.cell 0 _ (by show some (poweredX b).files = _; rw [H3.files])
    have z1 : w3.cell? ⟨g2, o2 + num * 2, none⟩ = some (.slice A9 (r.get nm).data.length c9) := (hcs2 (num * 2) (by omega)).trans y0
    have z2 : w3.cell? ⟨g2, o2 + num * 2 + 1, none⟩ = some (.int .i64 (fv.2 : Int)) := by rw [Nat.add_assoc]; exact (hcs2 (num * 2 + 1) (by omega)).trans y1
    have z1f : w3.frozen? ⟨g2, o2 + num * 2, none⟩ = false := (hfr2 (num * 2) (by omega)).2
    have z2f : w3.frozen? ⟨g2, o2 + num * 2 + 1, none⟩ = false := by rw [Nat.add_assoc]; exact (hfr2 (num * 2 + 1) (by omega)).2
    have hn1 : (num : Int) < (fn : Int) := by omega
    have hn0 : (0 : Int) ≤ (num : Int) := by omega
    obtain ⟨L, hL⟩ : ∃ L, (r.get nm).data.length = L := ⟨_, rfl⟩
    have HLL := Lib.hid hL
    obtain ⟨V7, hV7⟩ : ∃ V7, w3.drew.setCell ⟨g2, o2 + num * 2 + 1, none⟩ (.int .i64 (L : Int)) = V7 := ⟨_, rfl⟩
    have hc7 : Chg [g2] w3.drew V7 := by rw [← hV7]; exact (Chg.refl _ _).setCell g2 _ _ (.inl (by simp))
    have HFIN : Hid (RNext w x ox { r.powered with files := r.files.set num ⟨(r.get nm).data, (r.get nm).data.length⟩ } V7) := Lib.hid (by
      have hl7 : SLine 2 V7 (some ⟨g2, o2, none⟩) fn fc (flatF (vs.set num (fv.1, (r.get nm).data.length))) := by
        have h := H3.fline.drew.set (num * 2 + 1) [.int .i64 (L : Int)] (by simp; omega)
        rw [setCells_one, ← Nat.add_assoc, hV7] at h
        rw [flatF_set1 vs num fv _ hfv, hL]
        exact h
      rw [e9] at hl7
      obtain ⟨ox', hO, hfin⟩ := H3.anew num hfv0 A9 c9 ⟨(r.get nm).data, (r.get nm).data.length⟩ (Below.refl _ w3).drew hl9.drew (fun i hi => .inl ⟨ho9 i hi, hl9.lt i hi⟩) g2 o2 rfl V7 hc7 hl7
      rw [r.powered_files] at hfin
      exact RNext.of HH.out.2 (((HH.out.1.only1 HB.out.chg).trans (Only.of_below ox (hB2.trans (hB3.mono hB2.size)))).trans hO) hfin)
    rw [hL] at z1
    clear H2 H3 hB2 hB3 hva hL hfv0 hfv hl9 hcs2 hfr2 y0 y1 hc7 hg2 hen hfnl hfc
    go_upto_region 31 with fail
    go_still_tail 16, (by kernel_rfl)
    change wpList _ _ _ _ _ (World.drew _)
    go_wp2
    go_ret
    refine ⟨rfl, ?_⟩
    rw [HNUM.out]
    exact HFIN.out
  · have hne2 : (b.stop == 0) = false := by simpa using hne
    have hway2 : ¬ (0 : Int) < b.stop := by omega
    obtain ⟨wB, hwB⟩ : ∃ wB, wA = wB := ⟨_, rfl⟩
    subst hwB
    have hbB : XBoxAt wA x (poweredX b) := by
      have e : poweredX b = { b with calls := b.calls + 1 } := by unfold poweredX; rw [if_neg (by rw [hoff]; exact fun e => by cases e), if_neg hne, if_neg hway2]
      rw [e]; exact hbA
    have HB := Lib.hid (OnW.mk hbB hcA)
    clear H F hF hs hof hst hon hcl hbA hbB hcA
    have HMAY := Lib.hid (rmayName_any nm hsz)
    rw [hmay] at HMAY
    have hfound := (atN_num HF.out nm).resolve_left (fun h => by rw [hhas] at h; cases h.2)
    have hat0 : ¬ (r.num nm : Int) < 0 := by omega
    have H1 := HH.out.1.powered HB.out.chg HB.out.box
    have hen : r.powered.now = r.now := by unfold RD.now; rw [r.powered_sure, r.powered_chs]
    have b1 : wA.cell? ⟨x, 1, none⟩ = some (.slice NA nn nc) := HB.out.box.cell 1 _ (by show some (poweredX b).now = _; rw [H1.now])
    have hnr := H1.nrow
    rw [hen] at hnr
    have hnl := HF.out.len (by have := HS.out; omega)
    have hnn : nn ≤ 80000 := by have := hnr.len; omega
    have HAT := Lib.hid (at_any wA NA nn nc r.now hnr (by omega) (HF.out.nums (by have := HS.out; omega)) nm)
    have H1h := Lib.hid H1
    clear H1 hnr hnl
    rw [hfound.1] at HAT
    obtain ⟨num, hnum⟩ : ∃ num, r.num nm = num := ⟨_, rfl⟩
    have HNUM := Lib.hid hnum
    rw [hnum] at hfound hat0 HAT
    have HNF := Lib.hid hfound.2.2.1
    clear hfound hnum
    go_enter Try.func33, Try.ntmps33
    go_wp2_with fail
    refine (HMAY.out _).mono ?_
    rintro e wm ⟨rfl, rfl⟩
    go_wp2_with fail
    refine HAT.out.mono ?_
    rintro e w2 ⟨rfl, hB2⟩
    have H2 := H1h.out.below hB2
    obtain ⟨w3, hw3⟩ : ∃ w3, w2.alloc (.cells #[.string ⟨#[]⟩, .string ⟨#[]⟩, .int .i64 0] 114) = w3 := ⟨_, rfl⟩
    have hB3 : Below w2.heap.size w2 w3 := by rw [← hw3]; exact (Below.refl _ w2).alloc (Nat.le_refl _) _
    have hva : w3.heap[w2.heap.size]? = some (.cells #[.string ⟨#[]⟩, .string ⟨#[]⟩, .int .i64 0] 114 (0, 0)) := by rw [← hw3]; exact heap_alloc_new w2 _
    obtain ⟨va, hvae⟩ : ∃ va, w2.heap.size = va := ⟨_, rfl⟩
    rw [hvae] at hva
    have i0 : w3.cell? ⟨va, 0, none⟩ = some (.string ⟨#[]⟩) := by rw [cell_of_row _ va 0 _ _ (0, 0) hva]; rfl
    have i1 : w3.cell? ⟨va, 1, none⟩ = some (.string ⟨#[]⟩) := by rw [cell_of_row _ va 1 _ _ (0, 0) hva]; rfl
    have i2 : w3.cell? ⟨va, 2, none⟩ = some (.int .i64 0) := by rw [cell_of_row _ va 2 _ _ (0, 0) hva]; rfl
    have k0 : w3.frozen? ⟨va, 0, none⟩ = false := frozen_of_row w3 va 0 _ _ hva
    have k1 : w3.frozen? ⟨va, 1, none⟩ = false := frozen_of_row w3 va 1 _ _ hva
    have k2 : w3.frozen? ⟨va, 2, none⟩ = false := frozen_of_row w3 va 2 _ _ hva
    have j0 : w3.setCell ⟨va, 0, none⟩ (.string ⟨#[]⟩) = w3 := setCell_id hva rfl
    have j1 : w3.setCell ⟨va, 1, none⟩ (.string ⟨#[]⟩) = w3 := setCell_id hva rfl
    have j2 : w3.setCell ⟨va, 2, none⟩ (.int .i64 0) = w3 := setCell_id hva rfl
    have HVA := Lib.hid hva
    have hnf := HNF.out
    have H3 := H2.below hB3
    have hfv0 : num < vs.length := by rw [H3.fdata.1, r.powered_files]; exact hnf
    obtain ⟨fv, hfv⟩ : ∃ fv, vs[num]? = some fv := ⟨_, List.getElem?_eq_getElem hfv0⟩
    obtain ⟨hsu9, A9, c9, e9, hl9, ho9⟩ := H3.fdata.2 num fv (r.get nm) hfv (by rw [r.powered_files]; unfold RD.get RD.file; rw [HNUM.out, List.getD_eq_getElem?_getD, List.getElem?_eq_getElem hnf]; rfl)
    obtain ⟨y0, y1⟩ := flatF_at vs num fv hfv
    rw [e9] at y0
    obtain ⟨g2, o2, rfl, hg2, hcs2, hfr2⟩ := H3.fline.at (by have := H3.fline.1; rw [flatF_length] at this; omega)
    have hfnl : fn = vs.length := by have := H3.fline.1; rw [flatF_length] at this; omega
    have hfc := H3.fline.2.1
    have z0 : w3.cell? ⟨x, 0, none⟩ = some (.slice (some ⟨g2, o2, none⟩) fn fc) := H3.box.cell 0 _ (by show some (poweredX b).files = _; rw [H3.files])
    have z1 : w3.cell? ⟨g2, o2 + num * 2, none⟩ = some (.slice A9 (r.get nm).data.length c9) := (hcs2 (num * 2) (by omega)).trans y0
    have z2 : w3.cell? ⟨g2, o2 + num * 2 + 1, none⟩ = some (.int .i64 (fv.2 : Int)) := by rw [Nat.add_assoc]; exact (hcs2 (num * 2 + 1) (by omega)).trans y1
    have z1f : w3.frozen? ⟨g2, o2 + num * 2, none⟩ = false := (hfr2 (num * 2) (by omega)).2
    have z2f : w3.frozen? ⟨g2, o2 + num * 2 + 1, none⟩ = false := by rw [Nat.add_assoc]; exact (hfr2 (num * 2 + 1) (by omega)).2
    have hn1 : (num : Int) < (fn : Int) := by omega
    have hn0 : (0 : Int) ≤ (num : Int) := by omega
    obtain ⟨L, hL⟩ : ∃ L, (r.get nm).data.length = L := ⟨_, rfl⟩
    have HLL := Lib.hid hL
    obtain ⟨V7, hV7⟩ : ∃ V7, w3.drew.setCell ⟨g2, o2 + num * 2 + 1, none⟩ (.int .i64 (L : Int)) = V7 := ⟨_, rfl⟩
    have hc7 : Chg [g2] w3.drew V7 := by rw [← hV7]; exact (Chg.refl _ _).setCell g2 _ _ (.inl (by simp))
    have HFIN : Hid (RNext w x ox { r.powered with files := r.files.set num ⟨(r.get nm).data, (r.get nm).data.length⟩ } V7) := Lib.hid (by
      have hl7 : SLine 2 V7 (some ⟨g2, o2, none⟩) fn fc (flatF (vs.set num (fv.1, (r.get nm).data.length))) := by
        have h := H3.fline.drew.set (num * 2 + 1) [.int .i64 (L : Int)] (by simp; omega)
        rw [setCells_one, ← Nat.add_assoc, hV7] at h
        rw [flatF_set1 vs num fv _ hfv, hL]
        exact h
      rw [e9] at hl7
      obtain ⟨ox', hO, hfin⟩ := H3.anew num hfv0 A9 c9 ⟨(r.get nm).data, (r.get nm).data.length⟩ (Below.refl _ w3).drew hl9.drew (fun i hi => .inl ⟨ho9 i hi, hl9.lt i hi⟩) g2 o2 rfl V7 hc7 hl7
      rw [r.powered_files] at hfin
      exact RNext.of HH.out.2 (((HH.out.1.only1 HB.out.chg).trans (Only.of_below ox (hB2.trans (hB3.mono hB2.size)))).trans hO) hfin)
    rw [hL] at z1
    clear H2 H3 hB2 hB3 hva hL hfv0 hfv hl9 hcs2 hfr2 y0 y1 hc7 hg2 hen hfnl hfc
    go_upto_region 31 with fail
    go_still_tail 16, (by kernel_rfl)
    change wpList _ _ _ _ _ (World.drew _)
    go_wp2
    go_ret
    refine ⟨rfl, ?_⟩
    rw [HNUM.out]
    exact HFIN.out
end
end Go.Proofs.Ytbjlikppboggmaa
namespace Go.Proofs.Ytbjlikppboggmaa
open Go.RowKit Go.Maps
set_option linter.unusedVariables false
set_option maxRecDepth 100000

theorem Fct.powered {r : RD} (F : Fct r) : Fct r.powered := by
  have hn : r.powered.now = r.now := by unfold RD.now; rw [r.powered_sure, r.powered_chs]
  have hf : ∀ k, r.powered.file k = r.file k := fun k => by unfold RD.file; rw [r.powered_files]
  refine ⟨by rw [hn]; exact F.rn, by rw [r.powered_sure]; exact F.rs, by rw [hn, r.powered_files]; exact F.nn, by rw [r.powered_sure, r.powered_files]; exact F.ns, by rw [r.powered_chs]; exact F.two, ?_, ?_, by rw [r.powered_quota]; exact F.quota, ?_⟩
  · rw [hn]
    intro p hp
    rw [hf]
    exact F.data p hp
  · have h := F.used
    unfold RD.used at h ⊢
    rw [hn]
    simp only [hf]
    exact h
  · have h := F.stop
    unfold RD.powered
    split
    · exact h
    · split
      · exact h
      · split
        · show r.stop - 1 ≤ _; omega
        · exact h
section
variable {w w' : World} {x : Nat} {ox ox' : Nat → Nat} {b : XBox} {FA NA SA CA : Option Addr} {fn fc nn nc sn sc cn cc : Nat} {vs : List (Value × Nat)} {cs : List (ByteArray × ByteArray × Nat)} {r : RD}
set_option maxHeartbeats 3200000 in
theorem RefIn.append_big (H : RefIn w x ox b FA fn fc NA nn nc SA sn sc CA cn cc vs cs r) (hF : ∀ i, w.heap.size ≤ i → ox i = 0) (F : Fct r) (hs : r.size ≤ 79000) (hon : r.on = true) (nm : ByteArray) (BA : Option Addr) (bn bc : Nat) (hbn : bn ≤ 10000000) (hsz : nm.size ≤ 1000000) (hmay : nameOk nm = true) (hhas : hasP ltS r.now nm = true) (hbig : 1048576 < (r.get nm).data.length + bn) :
    Calls Try.prog 33 #[.pointer (some ⟨x, 0, none⟩), .int .i64 1, .string nm, .string ⟨#[]⟩, .slice BA bn bc] w fun e w' => e = .returned (.int .i64 2) ∧ RNext w x ox r.powered w' := by
  have hcl : b.calls = (r.calls : Int) := H.calls
  have hcb : 0 ≤ b.calls ∧ b.calls ≤ 80000 := by unfold RD.size at hs; omega
  have hqb := F.stop
  have HF := Lib.hid F
  have HH := Lib.hid (And.intro H hF)
  have HS := Lib.hid hs
  have hof := H.off
  have hst := H.stop
  unfold RD.on at hon
  rw [← hof, ← hst] at hon
  rw [← hst] at hqb
  have c6 : w.cell? ⟨x, 6, none⟩ = some (.bool false) := by
    have h : w.cell? ⟨x, 6, none⟩ = some (.bool b.off) := H.box.cell 6 _ rfl
    have h2 : b.off = false := by cases h : b.off with | false => rfl | true => rw [h] at hon; cases hon
    rw [h, h2]
  have hoff : b.off = false := by cases h : b.off with | false => rfl | true => rw [h] at hon; cases hon
  have hne : b.stop ≠ 0 := by rw [hoff] at hon; simpa using hon
  have c7 : w.cell? ⟨x, 7, none⟩ = some (.int .i64 b.stop) := H.box.cell 7 _ rfl
  have c8 : w.cell? ⟨x, 8, none⟩ = some (.int .i64 b.calls) := H.box.cell 8 _ rfl
  have f8 := H.box.free 8
  obtain ⟨wA, hwA⟩ : ∃ wA, w.setCell ⟨x, 8, none⟩ (.int .i64 (b.calls + 1)) = wA := ⟨_, rfl⟩
  have hbA : XBoxAt wA x { b with calls := b.calls + 1 } := by rw [← hwA]; exact H.box.set 8 _ _ rfl
  have a7 : wA.cell? ⟨x, 7, none⟩ = some (.int .i64 b.stop) := hbA.cell 7 _ rfl
  have g7 := hbA.free 7
  have hcA : Chg [x] w wA := by rw [← hwA]; exact (Chg.refl _ w).setCell x 8 _ (.inl (by simp))
  rcases (show 0 < b.stop ∨ b.stop < 0 by omega) with hway | hway
  · have hne2 : (b.stop == 0) = false := by simpa using hne
    obtain ⟨wB, hwB⟩ : ∃ wB, wA.setCell ⟨x, 7, none⟩ (.int .i64 (b.stop - 1)) = wB := ⟨_, rfl⟩
    have hbB : XBoxAt wB x (poweredX b) := by
      have e : poweredX b = { b with calls := b.calls + 1, stop := b.stop - 1 } := by unfold poweredX; rw [if_neg (by rw [hoff]; exact fun e => by cases e), if_neg hne, if_pos hway]
      rw [e, ← hwB]; exact hbA.set 7 _ _ rfl
    have hcB : Chg [x] w wB := by rw [← hwB]; exact hcA.setCell x 7 _ (.inl (by simp))
    have HB := Lib.hid (OnW.mk hbB hcB)
    clear H F hF hs hof hst hon hcl hbA hbB hcB hcA
    have HMAY := Lib.hid (rmayName_any nm hsz)
    rw [hmay] at HMAY
    have hfound := (atN_num HF.out nm).resolve_left (fun h => by rw [hhas] at h; cases h.2)
    have hat0 : ¬ (r.num nm : Int) < 0 := by omega
    have H1 := HH.out.1.powered HB.out.chg HB.out.box
    have hen : r.powered.now = r.now := by unfold RD.now; rw [r.powered_sure, r.powered_chs]
    have b1 : wB.cell? ⟨x, 1, none⟩ = some (.slice NA nn nc) := HB.out.box.cell 1 _ (by show some (poweredX b).now = _; rw [H1.now])
    have hnr := H1.nrow
    rw [hen] at hnr
    have hnl := HF.out.len (by have := HS.out; omega)
    have hnn : nn ≤ 80000 := by have := hnr.len; omega
    have HAT := Lib.hid (at_any wB NA nn nc r.now hnr (by omega) (HF.out.nums (by have := HS.out; omega)) nm)
    have H1h := Lib.hid H1
    clear H1 hnr hnl
    rw [hfound.1] at HAT
    have HLK := Lib.hid hfound.2.2.2
    obtain ⟨num, hnum⟩ : ∃ num, r.num nm = num := ⟨_, rfl⟩
    have HNUM := Lib.hid hnum
    rw [hnum] at hfound hat0 HAT
    have HNF := Lib.hid hfound.2.2.1
    clear hfound hnum
    go_enter Try.func33, Try.ntmps33
    go_wp2_with fail
    refine (HMAY.out _).mono ?_
    rintro e wm ⟨rfl, rfl⟩
    go_wp2_with fail
    refine HAT.out.mono ?_
    rintro e w2 ⟨rfl, hB2⟩
    have H2 := H1h.out.below hB2
    obtain ⟨w3, hw3⟩ : ∃ w3, w2.alloc (.cells #[.string ⟨#[]⟩, .string ⟨#[]⟩, .int .i64 0] 114) = w3 := ⟨_, rfl⟩
    have hB3 : Below w2.heap.size w2 w3 := by rw [← hw3]; exact (Below.refl _ w2).alloc (Nat.le_refl _) _
    have hva : w3.heap[w2.heap.size]? = some (.cells #[.string ⟨#[]⟩, .string ⟨#[]⟩, .int .i64 0] 114 (0, 0)) := by rw [← hw3]; exact heap_alloc_new w2 _
    obtain ⟨va, hvae⟩ : ∃ va, w2.heap.size = va := ⟨_, rfl⟩
    rw [hvae] at hva
    have i0 : w3.cell? ⟨va, 0, none⟩ = some (.string ⟨#[]⟩) := by rw [cell_of_row _ va 0 _ _ (0, 0) hva]; rfl
    have i1 : w3.cell? ⟨va, 1, none⟩ = some (.string ⟨#[]⟩) := by rw [cell_of_row _ va 1 _ _ (0, 0) hva]; rfl
    have i2 : w3.cell? ⟨va, 2, none⟩ = some (.int .i64 0) := by rw [cell_of_row _ va 2 _ _ (0, 0) hva]; rfl
    have k0 : w3.frozen? ⟨va, 0, none⟩ = false := frozen_of_row w3 va 0 _ _ hva
    have k1 : w3.frozen? ⟨va, 1, none⟩ = false := frozen_of_row w3 va 1 _ _ hva
    have k2 : w3.frozen? ⟨va, 2, none⟩ = false := frozen_of_row w3 va 2 _ _ hva
    have j0 : w3.setCell ⟨va, 0, none⟩ (.string ⟨#[]⟩) = w3 := setCell_id hva rfl
    have j1 : w3.setCell ⟨va, 1, none⟩ (.string ⟨#[]⟩) = w3 := setCell_id hva rfl
    have j2 : w3.setCell ⟨va, 2, none⟩ (.int .i64 0) = w3 := setCell_id hva rfl
    have HVA := Lib.hid hva
    have hnf := HNF.out
    have H3 := H2.below hB3
    have hfv0 : num < vs.length := by rw [H3.fdata.1, r.powered_files]; exact hnf
    obtain ⟨fv, hfv⟩ : ∃ fv, vs[num]? = some fv := ⟨_, List.getElem?_eq_getElem hfv0⟩
    obtain ⟨hsu9, A9, c9, e9, hl9, ho9⟩ := H3.fdata.2 num fv (r.get nm) hfv (by rw [r.powered_files]; unfold RD.get RD.file; rw [HNUM.out, List.getD_eq_getElem?_getD, List.getElem?_eq_getElem hnf]; rfl)
    obtain ⟨y0, y1⟩ := flatF_at vs num fv hfv
    rw [e9] at y0
    obtain ⟨g2, o2, rfl, hg2, hcs2, hfr2⟩ := H3.fline.at (by have := H3.fline.1; rw [flatF_length] at this; omega)
    have hfnl : fn = vs.length := by have := H3.fline.1; rw [flatF_length] at this; omega
    have hfc := H3.fline.2.1
    have z0 : w3.cell? ⟨x, 0, none⟩ = some (.slice (some ⟨g2, o2, none⟩) fn fc) := H3.box.cell 0 _ (by show some (poweredX b).files = _; rw [H3.files])
    have z1 : w3.cell? ⟨g2, o2 + num * 2, none⟩ = some (.slice A9 (r.get nm).data.length c9) := (hcs2 (num * 2) (by omega)).trans y0
    have z2 : w3.cell? ⟨g2, o2 + num * 2 + 1, none⟩ = some (.int .i64 (fv.2 : Int)) := by rw [Nat.add_assoc]; exact (hcs2 (num * 2 + 1) (by omega)).trans y1
    have z1f : w3.frozen? ⟨g2, o2 + num * 2, none⟩ = false := (hfr2 (num * 2) (by omega)).2
    have z2f : w3.frozen? ⟨g2, o2 + num * 2 + 1, none⟩ = false := by rw [Nat.add_assoc]; exact (hfr2 (num * 2 + 1) (by omega)).2
    have hn1 : (num : Int) < (fn : Int) := by omega
    have hn0 : (0 : Int) ≤ (num : Int) := by omega
    obtain ⟨L, hL⟩ : ∃ L, (r.get nm).data.length = L := ⟨_, rfl⟩
    have HLL := Lib.hid hL
    rw [hL] at z1
    have hLb : L ≤ 1048576 := by
      have h1 := HF.out.data _ ((look_some orders_S HF.out.rn).1 HLK.out)
      simp only [numOf_numV] at h1
      rw [← hL]
      exact h1
    have hwr : IntKind.i64.wrap ((L : Int) + (bn : Int)) = (L : Int) + (bn : Int) := by rw [IntKind.wrap_i64]; omega
    have hbg : (1048576 : Int) < (L : Int) + (bn : Int) := by rw [← hL]; omega
    have HB3 := Lib.hid (hB2.trans (hB3.mono hB2.size))
    clear H2 H3 hB2 hB3 hva hL hfv0 hfv hl9 hcs2 hfr2 y0 y1 hg2 hen hfnl hfc
    go_wp2
    go_ret
    exact ⟨rfl, RNext.of HH.out.2 ((HH.out.1.only1 HB.out.chg).trans (Only.of_below ox HB3.out)) (H1h.out.below HB3.out)⟩
  · have hne2 : (b.stop == 0) = false := by simpa using hne
    have hway2 : ¬ (0 : Int) < b.stop := by omega
    obtain ⟨wB, hwB⟩ : ∃ wB, wA = wB := ⟨_, rfl⟩
    subst hwB
    have hbB : XBoxAt wA x (poweredX b) := by
      have e : poweredX b = { b with calls := b.calls + 1 } := by unfold poweredX; rw [if_neg (by rw [hoff]; exact fun e => by cases e), if_neg hne, if_neg hway2]
      rw [e]; exact hbA
    have HB := Lib.hid (OnW.mk hbB hcA)
    clear H F hF hs hof hst hon hcl hbA hbB hcA
    have HMAY := Lib.hid (rmayName_any nm hsz)
    rw [hmay] at HMAY
    have hfound := (atN_num HF.out nm).resolve_left (fun h => by rw [hhas] at h; cases h.2)
    have hat0 : ¬ (r.num nm : Int) < 0 := by omega
    have H1 := HH.out.1.powered HB.out.chg HB.out.box
    have hen : r.powered.now = r.now := by unfold RD.now; rw [r.powered_sure, r.powered_chs]
    have b1 : wA.cell? ⟨x, 1, none⟩ = some (.slice NA nn nc) := HB.out.box.cell 1 _ (by show some (poweredX b).now = _; rw [H1.now])
    have hnr := H1.nrow
    rw [hen] at hnr
    have hnl := HF.out.len (by have := HS.out; omega)
    have hnn : nn ≤ 80000 := by have := hnr.len; omega
    have HAT := Lib.hid (at_any wA NA nn nc r.now hnr (by omega) (HF.out.nums (by have := HS.out; omega)) nm)
    have H1h := Lib.hid H1
    clear H1 hnr hnl
    rw [hfound.1] at HAT
    have HLK := Lib.hid hfound.2.2.2
    obtain ⟨num, hnum⟩ : ∃ num, r.num nm = num := ⟨_, rfl⟩
    have HNUM := Lib.hid hnum
    rw [hnum] at hfound hat0 HAT
    have HNF := Lib.hid hfound.2.2.1
    clear hfound hnum
    go_enter Try.func33, Try.ntmps33
    go_wp2_with fail
    refine (HMAY.out _).mono ?_
    rintro e wm ⟨rfl, rfl⟩
    go_wp2_with fail
    refine HAT.out.mono ?_
    rintro e w2 ⟨rfl, hB2⟩
    have H2 := H1h.out.below hB2
    obtain ⟨w3, hw3⟩ : ∃ w3, w2.alloc (.cells #[.string ⟨#[]⟩, .string ⟨#[]⟩, .int .i64 0] 114) = w3 := ⟨_, rfl⟩
    have hB3 : Below w2.heap.size w2 w3 := by rw [← hw3]; exact (Below.refl _ w2).alloc (Nat.le_refl _) _
    have hva : w3.heap[w2.heap.size]? = some (.cells #[.string ⟨#[]⟩, .string ⟨#[]⟩, .int .i64 0] 114 (0, 0)) := by rw [← hw3]; exact heap_alloc_new w2 _
    obtain ⟨va, hvae⟩ : ∃ va, w2.heap.size = va := ⟨_, rfl⟩
    rw [hvae] at hva
    have i0 : w3.cell? ⟨va, 0, none⟩ = some (.string ⟨#[]⟩) := by rw [cell_of_row _ va 0 _ _ (0, 0) hva]; rfl
    have i1 : w3.cell? ⟨va, 1, none⟩ = some (.string ⟨#[]⟩) := by rw [cell_of_row _ va 1 _ _ (0, 0) hva]; rfl
    have i2 : w3.cell? ⟨va, 2, none⟩ = some (.int .i64 0) := by rw [cell_of_row _ va 2 _ _ (0, 0) hva]; rfl
    have k0 : w3.frozen? ⟨va, 0, none⟩ = false := frozen_of_row w3 va 0 _ _ hva
    have k1 : w3.frozen? ⟨va, 1, none⟩ = false := frozen_of_row w3 va 1 _ _ hva
    have k2 : w3.frozen? ⟨va, 2, none⟩ = false := frozen_of_row w3 va 2 _ _ hva
    have j0 : w3.setCell ⟨va, 0, none⟩ (.string ⟨#[]⟩) = w3 := setCell_id hva rfl
    have j1 : w3.setCell ⟨va, 1, none⟩ (.string ⟨#[]⟩) = w3 := setCell_id hva rfl
    have j2 : w3.setCell ⟨va, 2, none⟩ (.int .i64 0) = w3 := setCell_id hva rfl
    have HVA := Lib.hid hva
    have hnf := HNF.out
    have H3 := H2.below hB3
    have hfv0 : num < vs.length := by rw [H3.fdata.1, r.powered_files]; exact hnf
    obtain ⟨fv, hfv⟩ : ∃ fv, vs[num]? = some fv := ⟨_, List.getElem?_eq_getElem hfv0⟩
    obtain ⟨hsu9, A9, c9, e9, hl9, ho9⟩ := H3.fdata.2 num fv (r.get nm) hfv (by rw [r.powered_files]; unfold RD.get RD.file; rw [HNUM.out, List.getD_eq_getElem?_getD, List.getElem?_eq_getElem hnf]; rfl)
    obtain ⟨y0, y1⟩ := flatF_at vs num fv hfv
    rw [e9] at y0
    obtain ⟨g2, o2, rfl, hg2, hcs2, hfr2⟩ := H3.fline.at (by have := H3.fline.1; rw [flatF_length] at this; omega)
    have hfnl : fn = vs.length := by have := H3.fline.1; rw [flatF_length] at this; omega
    have hfc := H3.fline.2.1
    have z0 : w3.cell? ⟨x, 0, none⟩ = some (.slice (some ⟨g2, o2, none⟩) fn fc) := H3.box.cell 0 _ (by show some (poweredX b).files = _; rw [H3.files])
    have z1 : w3.cell? ⟨g2, o2 + num * 2, none⟩ = some (.slice A9 (r.get nm).data.length c9) := (hcs2 (num * 2) (by omega)).trans y0
    have z2 : w3.cell? ⟨g2, o2 + num * 2 + 1, none⟩ = some (.int .i64 (fv.2 : Int)) := by rw [Nat.add_assoc]; exact (hcs2 (num * 2 + 1) (by omega)).trans y1
    have z1f : w3.frozen? ⟨g2, o2 + num * 2, none⟩ = false := (hfr2 (num * 2) (by omega)).2
    have z2f : w3.frozen? ⟨g2, o2 + num * 2 + 1, none⟩ = false := by rw [Nat.add_assoc]; exact (hfr2 (num * 2 + 1) (by omega)).2
    have hn1 : (num : Int) < (fn : Int) := by omega
    have hn0 : (0 : Int) ≤ (num : Int) := by omega
    obtain ⟨L, hL⟩ : ∃ L, (r.get nm).data.length = L := ⟨_, rfl⟩
    have HLL := Lib.hid hL
    rw [hL] at z1
    have hLb : L ≤ 1048576 := by
      have h1 := HF.out.data _ ((look_some orders_S HF.out.rn).1 HLK.out)
      simp only [numOf_numV] at h1
      rw [← hL]
      exact h1
    have hwr : IntKind.i64.wrap ((L : Int) + (bn : Int)) = (L : Int) + (bn : Int) := by rw [IntKind.wrap_i64]; omega
    have hbg : (1048576 : Int) < (L : Int) + (bn : Int) := by rw [← hL]; omega
    have HB3 := Lib.hid (hB2.trans (hB3.mono hB2.size))
    clear H2 H3 hB2 hB3 hva hL hfv0 hfv hl9 hcs2 hfr2 y0 y1 hg2 hen hfnl hfc
    go_wp2
    go_ret
    exact ⟨rfl, RNext.of HH.out.2 ((HH.out.1.only1 HB.out.chg).trans (Only.of_below ox HB3.out)) (H1h.out.below HB3.out)⟩
set_option maxHeartbeats 3200000 in
theorem RefIn.append_full (H : RefIn w x ox b FA fn fc NA nn nc SA sn sc CA cn cc vs cs r) (hF : ∀ i, w.heap.size ≤ i → ox i = 0) (F : Fct r) (hs : r.size ≤ 79000) (hon : r.on = true) (nm : ByteArray) (BA : Option Addr) (bn bc : Nat) (hbn : bn ≤ 10000000) (hsz : nm.size ≤ 1000000) (hmay : nameOk nm = true) (hhas : hasP ltS r.now nm = true) (hsmall : (r.get nm).data.length + bn ≤ 1048576) (hfull : r.quota < (r.used : Int) + (bn : Int)) :
    Calls Try.prog 33 #[.pointer (some ⟨x, 0, none⟩), .int .i64 1, .string nm, .string ⟨#[]⟩, .slice BA bn bc] w fun e w' => e = .returned (.int .i64 4) ∧ RNext w x ox { r.powered with full := true } w' := by
  have hcl : b.calls = (r.calls : Int) := H.calls
  have hcb : 0 ≤ b.calls ∧ b.calls ≤ 80000 := by unfold RD.size at hs; omega
  have hqb := F.stop
  have HF := Lib.hid F
  have HH := Lib.hid (And.intro H hF)
  have HS := Lib.hid hs
  have hof := H.off
  have hst := H.stop
  unfold RD.on at hon
  rw [← hof, ← hst] at hon
  rw [← hst] at hqb
  have c6 : w.cell? ⟨x, 6, none⟩ = some (.bool false) := by
    have h : w.cell? ⟨x, 6, none⟩ = some (.bool b.off) := H.box.cell 6 _ rfl
    have h2 : b.off = false := by cases h : b.off with | false => rfl | true => rw [h] at hon; cases hon
    rw [h, h2]
  have hoff : b.off = false := by cases h : b.off with | false => rfl | true => rw [h] at hon; cases hon
  have hne : b.stop ≠ 0 := by rw [hoff] at hon; simpa using hon
  have c7 : w.cell? ⟨x, 7, none⟩ = some (.int .i64 b.stop) := H.box.cell 7 _ rfl
  have c8 : w.cell? ⟨x, 8, none⟩ = some (.int .i64 b.calls) := H.box.cell 8 _ rfl
  have f8 := H.box.free 8
  obtain ⟨wA, hwA⟩ : ∃ wA, w.setCell ⟨x, 8, none⟩ (.int .i64 (b.calls + 1)) = wA := ⟨_, rfl⟩
  have hbA : XBoxAt wA x { b with calls := b.calls + 1 } := by rw [← hwA]; exact H.box.set 8 _ _ rfl
  have a7 : wA.cell? ⟨x, 7, none⟩ = some (.int .i64 b.stop) := hbA.cell 7 _ rfl
  have g7 := hbA.free 7
  have hcA : Chg [x] w wA := by rw [← hwA]; exact (Chg.refl _ w).setCell x 8 _ (.inl (by simp))
  rcases (show 0 < b.stop ∨ b.stop < 0 by omega) with hway | hway
  · have hne2 : (b.stop == 0) = false := by simpa using hne
    obtain ⟨wB, hwB⟩ : ∃ wB, wA.setCell ⟨x, 7, none⟩ (.int .i64 (b.stop - 1)) = wB := ⟨_, rfl⟩
    have hbB : XBoxAt wB x (poweredX b) := by
      have e : poweredX b = { b with calls := b.calls + 1, stop := b.stop - 1 } := by unfold poweredX; rw [if_neg (by rw [hoff]; exact fun e => by cases e), if_neg hne, if_pos hway]
      rw [e, ← hwB]; exact hbA.set 7 _ _ rfl
    have hcB : Chg [x] w wB := by rw [← hwB]; exact hcA.setCell x 7 _ (.inl (by simp))
    have HB := Lib.hid (OnW.mk hbB hcB)
    clear H F hF hs hof hst hon hcl hbA hbB hcB hcA
    have HMAY := Lib.hid (rmayName_any nm hsz)
    rw [hmay] at HMAY
    have hfound := (atN_num HF.out nm).resolve_left (fun h => by rw [hhas] at h; cases h.2)
    have hat0 : ¬ (r.num nm : Int) < 0 := by omega
    have H1 := HH.out.1.powered HB.out.chg HB.out.box
    have hen : r.powered.now = r.now := by unfold RD.now; rw [r.powered_sure, r.powered_chs]
    have b1 : wB.cell? ⟨x, 1, none⟩ = some (.slice NA nn nc) := HB.out.box.cell 1 _ (by show some (poweredX b).now = _; rw [H1.now])
    have hnr := H1.nrow
    rw [hen] at hnr
    have hnl := HF.out.len (by have := HS.out; omega)
    have hnn : nn ≤ 80000 := by have := hnr.len; omega
    have HAT := Lib.hid (at_any wB NA nn nc r.now hnr (by omega) (HF.out.nums (by have := HS.out; omega)) nm)
    have H1h := Lib.hid H1
    clear H1 hnr hnl
    rw [hfound.1] at HAT
    have HLK := Lib.hid hfound.2.2.2
    obtain ⟨num, hnum⟩ : ∃ num, r.num nm = num := ⟨_, rfl⟩
    have HNUM := Lib.hid hnum
    rw [hnum] at hfound hat0 HAT
    have HNF := Lib.hid hfound.2.2.1
    clear hfound hnum
    go_enter Try.func33, Try.ntmps33
    go_wp2_with fail
    refine (HMAY.out _).mono ?_
    rintro e wm ⟨rfl, rfl⟩
    go_wp2_with fail
    refine HAT.out.mono ?_
    rintro e w2 ⟨rfl, hB2⟩
    have H2 := H1h.out.below hB2
    obtain ⟨w3, hw3⟩ : ∃ w3, w2.alloc (.cells #[.string ⟨#[]⟩, .string ⟨#[]⟩, .int .i64 0] 114) = w3 := ⟨_, rfl⟩
    have hB3 : Below w2.heap.size w2 w3 := by rw [← hw3]; exact (Below.refl _ w2).alloc (Nat.le_refl _) _
    have hva : w3.heap[w2.heap.size]? = some (.cells #[.string ⟨#[]⟩, .string ⟨#[]⟩, .int .i64 0] 114 (0, 0)) := by rw [← hw3]; exact heap_alloc_new w2 _
    obtain ⟨va, hvae⟩ : ∃ va, w2.heap.size = va := ⟨_, rfl⟩
    rw [hvae] at hva
    have i0 : w3.cell? ⟨va, 0, none⟩ = some (.string ⟨#[]⟩) := by rw [cell_of_row _ va 0 _ _ (0, 0) hva]; rfl
    have i1 : w3.cell? ⟨va, 1, none⟩ = some (.string ⟨#[]⟩) := by rw [cell_of_row _ va 1 _ _ (0, 0) hva]; rfl
    have i2 : w3.cell? ⟨va, 2, none⟩ = some (.int .i64 0) := by rw [cell_of_row _ va 2 _ _ (0, 0) hva]; rfl
    have k0 : w3.frozen? ⟨va, 0, none⟩ = false := frozen_of_row w3 va 0 _ _ hva
    have k1 : w3.frozen? ⟨va, 1, none⟩ = false := frozen_of_row w3 va 1 _ _ hva
    have k2 : w3.frozen? ⟨va, 2, none⟩ = false := frozen_of_row w3 va 2 _ _ hva
    have j0 : w3.setCell ⟨va, 0, none⟩ (.string ⟨#[]⟩) = w3 := setCell_id hva rfl
    have j1 : w3.setCell ⟨va, 1, none⟩ (.string ⟨#[]⟩) = w3 := setCell_id hva rfl
    have j2 : w3.setCell ⟨va, 2, none⟩ (.int .i64 0) = w3 := setCell_id hva rfl
    have HVA := Lib.hid hva
    have hnf := HNF.out
    have H3 := H2.below hB3
    have hfv0 : num < vs.length := by rw [H3.fdata.1, r.powered_files]; exact hnf
    obtain ⟨fv, hfv⟩ : ∃ fv, vs[num]? = some fv := ⟨_, List.getElem?_eq_getElem hfv0⟩
    obtain ⟨hsu9, A9, c9, e9, hl9, ho9⟩ := H3.fdata.2 num fv (r.get nm) hfv (by rw [r.powered_files]; unfold RD.get RD.file; rw [HNUM.out, List.getD_eq_getElem?_getD, List.getElem?_eq_getElem hnf]; rfl)
    obtain ⟨y0, y1⟩ := flatF_at vs num fv hfv
    rw [e9] at y0
    obtain ⟨g2, o2, rfl, hg2, hcs2, hfr2⟩ := H3.fline.at (by have := H3.fline.1; rw [flatF_length] at this; omega)
    have hfnl : fn = vs.length := by have := H3.fline.1; rw [flatF_length] at this; omega
    have hfc := H3.fline.2.1
    have z0 : w3.cell? ⟨x, 0, none⟩ = some (.slice (some ⟨g2, o2, none⟩) fn fc) := H3.box.cell 0 _ (by show some (poweredX b).files = _; rw [H3.files])
    have z1 : w3.cell? ⟨g2, o2 + num * 2, none⟩ = some (.slice A9 (r.get nm).data.length c9) := (hcs2 (num * 2) (by omega)).trans y0
    have z2 : w3.cell? ⟨g2, o2 + num * 2 + 1, none⟩ = some (.int .i64 (fv.2 : Int)) := by rw [Nat.add_assoc]; exact (hcs2 (num * 2 + 1) (by omega)).trans y1
    have z1f : w3.frozen? ⟨g2, o2 + num * 2, none⟩ = false := (hfr2 (num * 2) (by omega)).2
    have z2f : w3.frozen? ⟨g2, o2 + num * 2 + 1, none⟩ = false := by rw [Nat.add_assoc]; exact (hfr2 (num * 2 + 1) (by omega)).2
    have hn1 : (num : Int) < (fn : Int) := by omega
    have hn0 : (0 : Int) ≤ (num : Int) := by omega
    obtain ⟨L, hL⟩ : ∃ L, (r.get nm).data.length = L := ⟨_, rfl⟩
    have HLL := Lib.hid hL
    rw [hL] at z1
    have hLb : L ≤ 1048576 := by
      have h1 := HF.out.data _ ((look_some orders_S HF.out.rn).1 HLK.out)
      simp only [numOf_numV] at h1
      rw [← hL]
      exact h1
    have hwr : IntKind.i64.wrap ((L : Int) + (bn : Int)) = (L : Int) + (bn : Int) := by rw [IntKind.wrap_i64]; omega
    have HUSED := Lib.hid (fun (W : World) (hW : Below w3.heap.size w3 W) => (H3.below hW).isUsed HF.out.powered (by have := HS.out; have := r.powered_size; omega))
    have husd : r.powered.used = r.used := by unfold RD.used RD.file RD.now; rw [r.powered_files, r.powered_sure, r.powered_chs]
    rw [husd] at HUSED
    obtain ⟨U, hU⟩ : ∃ U, r.used = U := ⟨_, rfl⟩
    have hub := HF.out.used
    have hqb4 := HF.out.quota
    rw [hU] at HUSED hub
    obtain ⟨Q, hQ⟩ : ∃ Q, r.quota = Q := ⟨_, rfl⟩
    have hqq : (poweredX b).quota = Q := by rw [H3.quota, r.powered_quota]; exact hQ
    rw [hQ] at hqb4
    have z4 : w3.cell? ⟨x, 4, none⟩ = some (.int .i64 Q) := H3.box.cell 4 _ (by show some (Value.int .i64 (poweredX b).quota) = _; rw [hqq])
    have HB4 : Hid (∀ W, Below w3.heap.size w3 W → W.cell? ⟨x, 4, none⟩ = some (.int .i64 Q)) := Lib.hid (fun W hW => (hW.cell (p := ⟨x, 4, none⟩) H3.box.lt).trans z4)
    have HUQ := Lib.hid (And.intro hU hQ)
    clear husd hU hQ hqq
    have hbg : ¬ (1048576 : Int) < (L : Int) + (bn : Int) := by rw [← hL]; omega
    have hfl2 : Q < (U : Int) + (bn : Int) := by rw [← HUQ.out.1, ← HUQ.out.2]; exact hfull
    have hwu : IntKind.i64.wrap ((U : Int) + (bn : Int)) = (U : Int) + (bn : Int) := by rw [IntKind.wrap_i64]; omega
    have HB3 := Lib.hid (hB2.trans (hB3.mono hB2.size))
    have HFULL : Hid (∀ W V, Below w3.heap.size w3 W → W.setCell ⟨x, 5, none⟩ (.bool true) = V → (∃ u, W.cell? ⟨x, 5, none⟩ = some (.bool u)) ∧ W.frozen? ⟨x, 5, none⟩ = false ∧ RNext w x ox { r.powered with full := true } V) := Lib.hid (by
      intro W V hW hV
      have H4 := H3.below hW
      have hc : Chg [x] W V := by rw [← hV]; exact (Chg.refl _ W).setCell x 5 _ (.inl (by simp))
      have hb : XBoxAt V x { poweredX b with full := true } := by rw [← hV]; exact H4.box.set 5 _ _ rfl
      refine ⟨⟨(poweredX b).full, H4.box.cell 5 _ rfl⟩, H4.box.free 5, ?_⟩
      exact RNext.of HH.out.2 ((((HH.out.1.only1 HB.out.chg).trans (Only.of_below ox (hB2.trans (hB3.mono hB2.size)))).trans (Only.of_below ox hW)).trans (H4.only1 hc)) (H4.boxed hc _ hb { r.powered with full := true } rfl rfl rfl rfl rfl rfl rfl H4.quota rfl H4.off H4.stop H4.calls))
    clear H2 H3 hB2 hB3 hva hL hfv0 hfv hl9 hcs2 hfr2 y0 y1 hg2 hen hfnl hfc hfull
    go_upto_region 25 with fail
    go_cut [135] from 126 to 135 (fun c wx => c = .bool true ∧ Hid (Below w3.heap.size w3 wx))
    case first =>
      go_region_with (go_at_call 38; refine (HUSED.out w3.drew (Below.refl _ w3).drew).mono ?_; rintro e w5 ⟨rfl, hB5⟩; have hB6 := (Below.refl _ w3).drew.trans hB5; have z5 := HB4.out w5 hB6; have HB6 := Lib.hid hB6; clear hB5 hB6)
      all_goals
        go_wp2_with fail
        go_meet
        exact ⟨by simp <;> omega, HB6⟩
    case rest =>
      obtain ⟨rfl, HBc⟩ := hcut
      obtain ⟨V, hV⟩ : ∃ V, wc.setCell ⟨x, 5, none⟩ (.bool true) = V := ⟨_, rfl⟩
      obtain ⟨⟨u, t5⟩, t5f, hfin⟩ := HFULL.out wc V HBc.out hV
      have HFIN := Lib.hid hfin
      clear hfin
      go_wp2
      go_ret
      exact ⟨rfl, HFIN.out⟩
  · have hne2 : (b.stop == 0) = false := by simpa using hne
    have hway2 : ¬ (0 : Int) < b.stop := by omega
    obtain ⟨wB, hwB⟩ : ∃ wB, wA = wB := ⟨_, rfl⟩
    subst hwB
    have hbB : XBoxAt wA x (poweredX b) := by
      have e : poweredX b = { b with calls := b.calls + 1 } := by unfold poweredX; rw [if_neg (by rw [hoff]; exact fun e => by cases e), if_neg hne, if_neg hway2]
      rw [e]; exact hbA
    have HB := Lib.hid (OnW.mk hbB hcA)
    clear H F hF hs hof hst hon hcl hbA hbB hcA
    have HMAY := Lib.hid (rmayName_any nm hsz)
    rw [hmay] at HMAY
    have hfound := (atN_num HF.out nm).resolve_left (fun h => by rw [hhas] at h; cases h.2)
    have hat0 : ¬ (r.num nm : Int) < 0 := by omega
    have H1 := HH.out.1.powered HB.out.chg HB.out.box
    have hen : r.powered.now = r.now := by unfold RD.now; rw [r.powered_sure, r.powered_chs]
    have b1 : wA.cell? ⟨x, 1, none⟩ = some (.slice NA nn nc) := HB.out.box.cell 1 _ (by show some (poweredX b).now = _; rw [H1.now])
    have hnr := H1.nrow
    rw [hen] at hnr
    have hnl := HF.out.len (by have := HS.out; omega)
    have hnn : nn ≤ 80000 := by have := hnr.len; omega
    have HAT := Lib.hid (at_any wA NA nn nc r.now hnr (by omega) (HF.out.nums (by have := HS.out; omega)) nm)
    have H1h := Lib.hid H1
    clear H1 hnr hnl
    rw [hfound.1] at HAT
    have HLK := Lib.hid hfound.2.2.2
    obtain ⟨num, hnum⟩ : ∃ num, r.num nm = num := ⟨_, rfl⟩
    have HNUM := Lib.hid hnum
    rw [hnum] at hfound hat0 HAT
    have HNF := Lib.hid hfound.2.2.1
    clear hfound hnum
    go_enter Try.func33, Try.ntmps33
    go_wp2_with fail
    refine (HMAY.out _).mono ?_
    rintro e wm ⟨rfl, rfl⟩
    go_wp2_with fail
    refine HAT.out.mono ?_
    rintro e w2 ⟨rfl, hB2⟩
    have H2 := H1h.out.below hB2
    obtain ⟨w3, hw3⟩ : ∃ w3, w2.alloc (.cells #[.string ⟨#[]⟩, .string ⟨#[]⟩, .int .i64 0] 114) = w3 := ⟨_, rfl⟩
    have hB3 : Below w2.heap.size w2 w3 := by rw [← hw3]; exact (Below.refl _ w2).alloc (Nat.le_refl _) _
    have hva : w3.heap[w2.heap.size]? = some (.cells #[.string ⟨#[]⟩, .string ⟨#[]⟩, .int .i64 0] 114 (0, 0)) := by rw [← hw3]; exact heap_alloc_new w2 _
    obtain ⟨va, hvae⟩ : ∃ va, w2.heap.size = va := ⟨_, rfl⟩
    rw [hvae] at hva
    have i0 : w3.cell? ⟨va, 0, none⟩ = some (.string ⟨#[]⟩) := by rw [cell_of_row _ va 0 _ _ (0, 0) hva]; rfl
    have i1 : w3.cell? ⟨va, 1, none⟩ = some (.string ⟨#[]⟩) := by rw [cell_of_row _ va 1 _ _ (0, 0) hva]; rfl
    have i2 : w3.cell? ⟨va, 2, none⟩ = some (.int .i64 0) := by rw [cell_of_row _ va 2 _ _ (0, 0) hva]; rfl
    have k0 : w3.frozen? ⟨va, 0, none⟩ = false := frozen_of_row w3 va 0 _ _ hva
    have k1 : w3.frozen? ⟨va, 1, none⟩ = false := frozen_of_row w3 va 1 _ _ hva
    have k2 : w3.frozen? ⟨va, 2, none⟩ = false := frozen_of_row w3 va 2 _ _ hva
    have j0 : w3.setCell ⟨va, 0, none⟩ (.string ⟨#[]⟩) = w3 := setCell_id hva rfl
    have j1 : w3.setCell ⟨va, 1, none⟩ (.string ⟨#[]⟩) = w3 := setCell_id hva rfl
    have j2 : w3.setCell ⟨va, 2, none⟩ (.int .i64 0) = w3 := setCell_id hva rfl
    have HVA := Lib.hid hva
    have hnf := HNF.out
    have H3 := H2.below hB3
    have hfv0 : num < vs.length := by rw [H3.fdata.1, r.powered_files]; exact hnf
    obtain ⟨fv, hfv⟩ : ∃ fv, vs[num]? = some fv := ⟨_, List.getElem?_eq_getElem hfv0⟩
    obtain ⟨hsu9, A9, c9, e9, hl9, ho9⟩ := H3.fdata.2 num fv (r.get nm) hfv (by rw [r.powered_files]; unfold RD.get RD.file; rw [HNUM.out, List.getD_eq_getElem?_getD, List.getElem?_eq_getElem hnf]; rfl)
    obtain ⟨y0, y1⟩ := flatF_at vs num fv hfv
    rw [e9] at y0
    obtain ⟨g2, o2, rfl, hg2, hcs2, hfr2⟩ := H3.fline.at (by have := H3.fline.1; rw [flatF_length] at this; omega)
    have hfnl : fn = vs.length := by have := H3.fline.1; rw [flatF_length] at this; omega
    have hfc := H3.fline.2.1
    have z0 : w3.cell? ⟨x, 0, none⟩ = some (.slice (some ⟨g2, o2, none⟩) fn fc) := H3.box.cell 0 _ (by show some (poweredX b).files = _; rw [H3.files])
    have z1 : w3.cell? ⟨g2, o2 + num * 2, none⟩ = some (.slice A9 (r.get nm).data.length c9) := (hcs2 (num * 2) (by omega)).trans y0
    have z2 : w3.cell? ⟨g2, o2 + num * 2 + 1, none⟩ = some (.int .i64 (fv.2 : Int)) := by rw [Nat.add_assoc]; exact (hcs2 (num * 2 + 1) (by omega)).trans y1
    have z1f : w3.frozen? ⟨g2, o2 + num * 2, none⟩ = false := (hfr2 (num * 2) (by omega)).2
    have z2f : w3.frozen? ⟨g2, o2 + num * 2 + 1, none⟩ = false := by rw [Nat.add_assoc]; exact (hfr2 (num * 2 + 1) (by omega)).2
    have hn1 : (num : Int) < (fn : Int) := by omega
    have hn0 : (0 : Int) ≤ (num : Int) := by omega
    obtain ⟨L, hL⟩ : ∃ L, (r.get nm).data.length = L := ⟨_, rfl⟩
    have HLL := Lib.hid hL
    rw [hL] at z1
    have hLb : L ≤ 1048576 := by
      have h1 := HF.out.data _ ((look_some orders_S HF.out.rn).1 HLK.out)
      simp only [numOf_numV] at h1
      rw [← hL]
      exact h1
    have hwr : IntKind.i64.wrap ((L : Int) + (bn : Int)) = (L : Int) + (bn : Int) := by rw [IntKind.wrap_i64]; omega
    have HUSED := Lib.hid (fun (W : World) (hW : Below w3.heap.size w3 W) => (H3.below hW).isUsed HF.out.powered (by have := HS.out; have := r.powered_size; omega))
    have husd : r.powered.used = r.used := by unfold RD.used RD.file RD.now; rw [r.powered_files, r.powered_sure, r.powered_chs]
    rw [husd] at HUSED
    obtain ⟨U, hU⟩ : ∃ U, r.used = U := ⟨_, rfl⟩
    have hub := HF.out.used
    have hqb4 := HF.out.quota
    rw [hU] at HUSED hub
    obtain ⟨Q, hQ⟩ : ∃ Q, r.quota = Q := ⟨_, rfl⟩
    have hqq : (poweredX b).quota = Q := by rw [H3.quota, r.powered_quota]; exact hQ
    rw [hQ] at hqb4
    have z4 : w3.cell? ⟨x, 4, none⟩ = some (.int .i64 Q) := H3.box.cell 4 _ (by show some (Value.int .i64 (poweredX b).quota) = _; rw [hqq])
    have HB4 : Hid (∀ W, Below w3.heap.size w3 W → W.cell? ⟨x, 4, none⟩ = some (.int .i64 Q)) := Lib.hid (fun W hW => (hW.cell (p := ⟨x, 4, none⟩) H3.box.lt).trans z4)
    have HUQ := Lib.hid (And.intro hU hQ)
    clear husd hU hQ hqq
    have hbg : ¬ (1048576 : Int) < (L : Int) + (bn : Int) := by rw [← hL]; omega
    have hfl2 : Q < (U : Int) + (bn : Int) := by rw [← HUQ.out.1, ← HUQ.out.2]; exact hfull
    have hwu : IntKind.i64.wrap ((U : Int) + (bn : Int)) = (U : Int) + (bn : Int) := by rw [IntKind.wrap_i64]; omega
    have HB3 := Lib.hid (hB2.trans (hB3.mono hB2.size))
    have HFULL : Hid (∀ W V, Below w3.heap.size w3 W → W.setCell ⟨x, 5, none⟩ (.bool true) = V → (∃ u, W.cell? ⟨x, 5, none⟩ = some (.bool u)) ∧ W.frozen? ⟨x, 5, none⟩ = false ∧ RNext w x ox { r.powered with full := true } V) := Lib.hid (by
      intro W V hW hV
      have H4 := H3.below hW
      have hc : Chg [x] W V := by rw [← hV]; exact (Chg.refl _ W).setCell x 5 _ (.inl (by simp))
      have hb : XBoxAt V x { poweredX b with full := true } := by rw [← hV]; exact H4.box.set 5 _ _ rfl
      refine ⟨⟨(poweredX b).full, H4.box.cell 5 _ rfl⟩, H4.box.free 5, ?_⟩
      exact RNext.of HH.out.2 ((((HH.out.1.only1 HB.out.chg).trans (Only.of_below ox (hB2.trans (hB3.mono hB2.size)))).trans (Only.of_below ox hW)).trans (H4.only1 hc)) (H4.boxed hc _ hb { r.powered with full := true } rfl rfl rfl rfl rfl rfl rfl H4.quota rfl H4.off H4.stop H4.calls))
    clear H2 H3 hB2 hB3 hva hL hfv0 hfv hl9 hcs2 hfr2 y0 y1 hg2 hen hfnl hfc hfull
    go_upto_region 25 with fail
    go_cut [135] from 126 to 135 (fun c wx => c = .bool true ∧ Hid (Below w3.heap.size w3 wx))
    case first =>
      go_region_with (go_at_call 38; refine (HUSED.out w3.drew (Below.refl _ w3).drew).mono ?_; rintro e w5 ⟨rfl, hB5⟩; have hB6 := (Below.refl _ w3).drew.trans hB5; have z5 := HB4.out w5 hB6; have HB6 := Lib.hid hB6; clear hB5 hB6)
      all_goals
        go_wp2_with fail
        go_meet
        exact ⟨by simp <;> omega, HB6⟩
    case rest =>
      obtain ⟨rfl, HBc⟩ := hcut
      obtain ⟨V, hV⟩ : ∃ V, wc.setCell ⟨x, 5, none⟩ (.bool true) = V := ⟨_, rfl⟩
      obtain ⟨⟨u, t5⟩, t5f, hfin⟩ := HFULL.out wc V HBc.out hV
      have HFIN := Lib.hid hfin
      clear hfin
      go_wp2
      go_ret
      exact ⟨rfl, HFIN.out⟩
end
end Go.Proofs.Ytbjlikppboggmaa
