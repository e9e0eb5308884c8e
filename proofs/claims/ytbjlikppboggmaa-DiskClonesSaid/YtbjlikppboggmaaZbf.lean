/-
  The law's Do, kinds 5: both disks answer alike, and both are as the document's disk behind it.
  The document's disk: Turn.
  What a loss leaves of the document's disk, without addresses: the kept files, the names' numbers turned one by one.
  The document's disk: Crash.
-/
import Derived.Test.YtbjlikppboggmaaZbe
import Derived.Test.YtbjlikppboggmaaZbd
namespace Go.Proofs.Ytbjlikppboggmaa
open Go.RowKit Go.Maps
set_option linter.unusedVariables false
set_option maxRecDepth 100000

section
variable [Keep] {w0 W W' : World} {d x : Nat} {own ox : Nat → Nat} {r r' q : RD}
set_option maxHeartbeats 3200000 in
theorem do5_two (h : Half w0 W d x own ox q r) (hNm : Named q) (hFc : Fct q) (hs : r.size + 4 ≤ 79000) (hq : q.size ≤ 79000) (A B : ByteArray) (hA : A.size ≤ 1000000) (hB : B.size ≤ 1000000) (DA : Option Addr) (dn dc : Nat) (N dir : Int) (KA : Option Addr) (kn kc : Nat) (kind : Nat) (hk : kind % 10 = 5) (he : (r.remove A).1 = (q.remove A).1) :
    Calls Try.prog 10 #[.pointer (some ⟨d, 0, none⟩), .pointer (some ⟨x, 0, none⟩), .agg #[.int .u64 (kind : Int), .string A, .string B, .slice DA dn dc, .int .i64 N, .int .i64 dir, .slice KA kn kc]] W fun e w' => e = .returned (.bool true) ∧ ∃ own' ox', Half w0 w' d x own' ox' (q.remove A).2 (r.remove A).2 := by
  have hk' : (kind : Int) % 10 = 5 := by omega
  obtain ⟨W1, hW1⟩ : ∃ W1, W.alloc (.cells #[.int .u64 (kind : Int), .string A, .string B, .slice DA dn dc, .int .i64 N, .int .i64 dir, .slice KA kn kc] 34) = W1 := ⟨_, rfl⟩
  have hB1 : Below W.heap.size W W1 := by rw [← hW1]; exact (Below.refl _ W).alloc (Nat.le_refl _) _
  have hbx : W1.heap[W.heap.size]? = some (.cells #[.int .u64 (kind : Int), .string A, .string B, .slice DA dn dc, .int .i64 N, .int .i64 dir, .slice KA kn kc] 34 (0, 0)) := by rw [← hW1]; exact heap_alloc_new W _
  obtain ⟨bx, hbxe⟩ : ∃ bx, W.heap.size = bx := ⟨_, rfl⟩
  have hbo : own bx = 0 ∧ ox bx = 0 := ⟨h.isD.1 bx (by omega), h.isR.1 bx (by omega)⟩
  have h1 : Half w0 W1.drew d x own ox q r := (h.below hB1).below (Below.refl _ W1).drew
  rw [hbxe] at hbx
  have b0 : W1.cell? ⟨bx, 0, none⟩ = some (.int .u64 (kind : Int)) := by rw [cell_of_row _ bx 0 _ _ (0, 0) hbx]; rfl
  have HBX := Lib.hid (And.intro hbx hbo)
  have HF := Lib.hid hFc
  have HSZ := Lib.hid hq
  have HNM := Lib.hid hNm
  have HC1 := Lib.hid ((h1.isD.remove (by omega) A hA).mono fun e w' hh => (⟨hh.1, h1.disk hh.2⟩ : e = .returned (.int .i64 (r.remove A).1) ∧ ∃ own', Only own W1.drew own' w' ∧ Half w0 w' d x own' ox q (r.remove A).2))
  obtain ⟨z, hz⟩ : ∃ z, (r.remove A).1 = z := ⟨_, rfl⟩
  have HZ := Lib.hid (he.symm.trans hz)
  obtain ⟨rn, hrn⟩ : ∃ rn, (r.remove A).2 = rn := ⟨_, rfl⟩
  obtain ⟨qn, hqn⟩ : ∃ qn, (q.remove A).2 = qn := ⟨_, rfl⟩
  have HQN := Lib.hid hqn
  rw [hz, hrn] at HC1
  rw [hrn, hqn]
  clear h hs hq he hB1 hbx hbo h1 hz hrn hqn hk hNm hFc
  go_enter Try.func10, Try.ntmps10
  go_upto_region 15 with fail
  have HSS : Hid (W1.drew.heap[bx]? = some (.cells #[.int .u64 (kind : Int), .string A, .string B, .slice DA dn dc, .int .i64 N, .int .i64 dir, .slice KA kn kc] 34 (0, 0))) := Lib.hid HBX.out.1
  refine wp_region_held_drew (S := fun V => V.heap[bx]? = some (.cells #[.int .u64 (kind : Int), .string A, .string B, .slice DA dn dc, .int .i64 N, .int .i64 dir, .slice KA kn kc] 34 (0, 0))) (by kernel_rfl) HSS.out (fun _ => ?_)
  refine takeH 0 100 (v := (.pointer (some ⟨d, 0, none⟩))) rfl rfl (by kernel_rfl) (by kernel_rfl) (by kernel_rfl) (fun _ _ _ h => h) (by rfl) ?_ HSS.out ?_
  · intro w hSw
    go_simp
  refine takeH 1 101 (v := (.pointer (some ⟨bx, 1, none⟩))) rfl rfl (by kernel_rfl) (by kernel_rfl) (by kernel_rfl) (fun _ _ _ h => h) (by rfl) ?_ HSS.out ?_
  · intro w hSw
    go_simp
  refine takeH 2 102 (v := (.string A)) rfl rfl (by kernel_rfl) (by kernel_rfl) (by kernel_rfl) (fun _ _ _ h => h) (by rfl) ?_ HSS.out ?_
  · intro w hSw
    have q1 : w.cell? ⟨bx, 1, none⟩ = some (.string A) := by rw [cell_of_row w bx 1 _ _ (0, 0) hSw]; rfl
    have q2 : w.cell? ⟨bx, 2, none⟩ = some (.string B) := by rw [cell_of_row w bx 2 _ _ (0, 0) hSw]; rfl
    have q3 : w.cell? ⟨bx, 3, none⟩ = some (.slice DA dn dc) := by rw [cell_of_row w bx 3 _ _ (0, 0) hSw]; rfl
    go_simp
  refine takeH 4 104 (v := (.pointer (some ⟨x, 0, none⟩))) rfl rfl (by kernel_rfl) (by kernel_rfl) (by kernel_rfl) (fun _ _ _ h => h) (by rfl) ?_ HSS.out ?_
  · intro w hSw
    go_simp
  refine takeH 5 105 (v := (.int .i64 5)) rfl rfl (by kernel_rfl) (by kernel_rfl) (by kernel_rfl) (fun _ _ _ h => h) (by rfl) ?_ HSS.out ?_
  · intro w hSw
    go_simp
  refine takeH 6 106 (v := (.pointer (some ⟨bx, 1, none⟩))) rfl rfl (by kernel_rfl) (by kernel_rfl) (by kernel_rfl) (fun _ _ _ h => h) (by rfl) ?_ HSS.out ?_
  · intro w hSw
    go_simp
  refine takeH 7 107 (v := (.string A)) rfl rfl (by kernel_rfl) (by kernel_rfl) (by kernel_rfl) (fun _ _ _ h => h) (by rfl) ?_ HSS.out ?_
  · intro w hSw
    have q1 : w.cell? ⟨bx, 1, none⟩ = some (.string A) := by rw [cell_of_row w bx 1 _ _ (0, 0) hSw]; rfl
    have q2 : w.cell? ⟨bx, 2, none⟩ = some (.string B) := by rw [cell_of_row w bx 2 _ _ (0, 0) hSw]; rfl
    have q3 : w.cell? ⟨bx, 3, none⟩ = some (.slice DA dn dc) := by rw [cell_of_row w bx 3 _ _ (0, 0) hSw]; rfl
    go_simp
  refine wpAnyH_ready (rs := [3]) (by kernel_rfl) (by simp) ?_
  refine AllReadyH.cons rfl (fun K hK => ?_) AllReadyH.nil
  go_simp
  go_at_call 35
  refine HC1.out.mono ?_
  rintro e w2 ⟨rfl, own2, O2, h2⟩
  have HS2 : Hid (w2.heap[bx]? = some (.cells #[.int .u64 (kind : Int), .string A, .string B, .slice DA dn dc, .int .i64 N, .int .i64 dir, .slice KA kn kc] 34 (0, 0))) := Lib.hid ((O2.2.2 bx (lt_of_block HSS.out) HBX.out.2.1).trans HSS.out)
  have HC2 := Lib.hid ((h2.isR.remove HF.out HSZ.out HNM.out A hA).mono fun e w' hh => (by rw [HZ.out, HQN.out] at hh; exact ⟨hh.1, h2.other hh.2⟩ : e = .returned (.int .i64 z) ∧ ∃ ox', Only ox w2 ox' w' ∧ Half w0 w' d x own2 ox' qn rn))
  clear h2 O2
  refine hK.out _ _ HS2.out (fun _ => ?_)
  clear hK K
  refine wpAnyH_ready (rs := [8]) (by kernel_rfl) (by simp) ?_
  refine AllReadyH.cons rfl (fun K hK => ?_) AllReadyH.nil
  go_simp
  go_at_call 33
  refine HC2.out.mono ?_
  rintro e w3 ⟨rfl, ox3, O3, h3⟩
  have HS3 : Hid (w3.heap[bx]? = some (.cells #[.int .u64 (kind : Int), .string A, .string B, .slice DA dn dc, .int .i64 N, .int .i64 dir, .slice KA kn kc] 34 (0, 0))) := Lib.hid ((O3.2.2 bx (lt_of_block HS2.out) HBX.out.2.2).trans HS2.out)
  have H3 := Lib.hid h3
  clear h3 O3
  refine hK.out _ _ HS3.out (fun _ => ?_)
  clear hK K
  refine takeH 9 109 (v := (.bool true)) rfl rfl (by kernel_rfl) (by kernel_rfl) (by kernel_rfl) (fun _ _ _ h => h) (by rfl) ?_ HS3.out ?_
  · intro w hSw
    go_simp
  refine takeH 10 6 (v := (.bool true)) rfl rfl (by kernel_rfl) (by kernel_rfl) (by kernel_rfl) (fun _ _ _ h => h) (by rfl) ?_ HS3.out ?_
  · intro w hSw
    go_simp
  refine wpAnyH_done (by kernel_rfl) ?_ _
  go_wp2
  go_ret
  exact ⟨rfl, own2, ox3, H3.out⟩
theorem do5_any (h : Both w0 W d x own ox r) (hs : r.size + 4 ≤ 79000) (A B : ByteArray) (hA : A.size ≤ 1000000) (hB : B.size ≤ 1000000) (DA : Option Addr) (dn dc : Nat) (N dir : Int) (KA : Option Addr) (kn kc : Nat) (kind : Nat) (hk : kind % 10 = 5) :
    Calls Try.prog 10 #[.pointer (some ⟨d, 0, none⟩), .pointer (some ⟨x, 0, none⟩), .agg #[.int .u64 (kind : Int), .string A, .string B, .slice DA dn dc, .int .i64 N, .int .i64 dir, .slice KA kn kc]] W fun e w' => e = .returned (.bool true) ∧ ∃ own' ox', Both w0 w' d x own' ox' (r.remove A).2 ∧ RD.size (r.remove A).2 ≤ r.size + 4 :=
  (do5_two h.half h.named h.fct hs (by omega) A B hA hB DA dn dc N dir KA kn kc kind hk rfl).mono fun e w' ⟨he, own', ox', h'⟩ => ⟨he, own', ox', ⟨h'.d0, h'.x0, h'.on, h'.isD, h'.isR, h'.apart, h.named.remove A, h'.kp⟩, size_remove A⟩
end
end Go.Proofs.Ytbjlikppboggmaa
namespace Go.Proofs.Ytbjlikppboggmaa
open Go.RowKit Go.Maps
set_option linter.unusedVariables false
set_option maxRecDepth 100000

section
variable {w w' : World} {x : Nat} {ox ox' : Nat → Nat} {b : XBox} {FA NA SA CA : Option Addr} {fn fc nn nc sn sc cn cc : Nat} {vs : List (Value × Nat)} {cs : List (ByteArray × ByteArray × Nat)} {r : RD}
/-- Where a file lies. -/
structure FileR (w : World) (x : Nat) (ox : Nat → Nat) (fn fc : Nat) (vs : List (Value × Nat)) (num : Nat) (f : Fl) (g2 o2 : Nat) (A9 : Option Addr) (c9 : Nat) : Prop where
  at_ : vs[num]? = some (.slice A9 f.data.length c9, f.sure)
  line : SLine 1 w A9 f.data.length c9 f.data
  own : ∀ k ∈ blk A9, ox k = 4
  ltg : g2 < w.heap.size
  og : ox g2 = 2
  ltn : num < fn
  eqn : fn = vs.length
  lefc : fn ≤ fc
  c0 : w.cell? ⟨x, 0, none⟩ = some (.slice (some ⟨g2, o2, none⟩) fn fc)
  z1 : w.cell? ⟨g2, o2 + num * 2, none⟩ = some (.slice A9 f.data.length c9)
  z2 : w.cell? ⟨g2, o2 + num * 2 + 1, none⟩ = some (.int .i64 (f.sure : Int))
  f1 : w.frozen? ⟨g2, o2 + num * 2, none⟩ = false
theorem RefIn.fileAt (H : RefIn w x ox b FA fn fc NA nn nc SA sn sc CA cn cc vs cs r) (num : Nat) (f : Fl) (hf : r.files[num]? = some f) : ∃ g2 o2 A9 c9, FA = some ⟨g2, o2, none⟩ ∧ FileR w x ox fn fc vs num f g2 o2 A9 c9 := by
  have hnf := (List.getElem?_eq_some_iff.1 hf).1
  have hfv0 : num < vs.length := by rw [H.fdata.1]; exact hnf
  obtain ⟨fv, hfv⟩ : ∃ fv, vs[num]? = some fv := ⟨_, List.getElem?_eq_getElem hfv0⟩
  obtain ⟨hsu9, A9, c9, e9, hl9, ho9⟩ := H.fdata.2 num fv f hfv hf
  obtain ⟨v1, v2⟩ := fv
  simp only at hsu9 e9
  subst hsu9 e9
  obtain ⟨y0, y1⟩ := flatF_at vs num _ hfv
  obtain ⟨g2, o2, rfl, hg2, hcs2, hfr2⟩ := H.fline.at (by have := H.fline.1; rw [flatF_length] at this; omega)
  have hfnl : fn = vs.length := by have := H.fline.1; rw [flatF_length] at this; omega
  have hfc := H.fline.2.1
  exact ⟨g2, o2, A9, c9, rfl, {
    at_ := hfv
    line := hl9
    own := ho9
    ltg := hg2
    og := H.oF g2 (mem_blk.2 ⟨_, rfl, rfl⟩)
    ltn := by omega
    eqn := hfnl
    lefc := hfc
    c0 := H.box.cell 0 _ (by show some b.files = _; rw [H.files])
    z1 := (hcs2 (num * 2) (by omega)).trans y0
    z2 := by rw [Nat.add_assoc]; exact (hcs2 (num * 2 + 1) (by omega)).trans y1
    f1 := (hfr2 (num * 2) (by omega)).2 }⟩
theorem RefIn.hat (H : RefIn w x ox b FA fn fc NA nn nc SA sn sc CA cn cc vs cs r) (F : Fct r) (hs : r.size ≤ 79000) (nm : ByteArray) : w.cell? ⟨x, 1, none⟩ = some (.slice NA nn nc) ∧
    Calls Try.prog 57 #[.slice NA nn nc, .string nm] w fun e w' => e = .returned (.int .i64 (atN r.now nm)) ∧ Below w.heap.size w w' := by
  have hnl := F.len (by omega)
  have hnn : nn ≤ 80000 := by have := H.nrow.len; omega
  exact ⟨H.box.cell 1 _ (by show some b.now = _; rw [H.now]), at_any w NA nn nc r.now H.nrow (by omega) (F.nums (by omega)) nm⟩
theorem RefIn.turn_no (H : RefIn w x ox b FA fn fc NA nn nc SA sn sc CA cn cc vs cs r) (F : Fct r) (hs : r.size ≤ 79000) (nm : ByteArray) (hno : hasP ltS r.now nm = false) (at_ : Int) (mask : Nat) :
    Calls Try.prog 37 #[.pointer (some ⟨x, 0, none⟩), .string nm, .int .i64 at_, .int .u8 (mask : Int)] w fun e w' => e = .returned (.bool false) ∧ Below w.heap.size w w' := by
  obtain ⟨c1, hat⟩ := H.hat F hs nm
  rcases atN_num F nm with ⟨e, _⟩ | ⟨_, e, _⟩
  · rw [e] at hat
    have HAT := Lib.hid hat
    clear e F H hat hno hs
    go_enter Try.func37, Try.ntmps37
    go_wp2_with fail
    refine HAT.out.mono ?_
    rintro e w2 ⟨rfl, hB2⟩
    have HB2 := Lib.hid hB2
    clear hB2
    go_wp2_with fail
    go_ret
    exact ⟨rfl, HB2.out⟩
  · rw [hno] at e; cases e
set_option maxHeartbeats 1600000 in
theorem RefIn.turn_out (H : RefIn w x ox b FA fn fc NA nn nc SA sn sc CA cn cc vs cs r) (F : Fct r) (hs : r.size ≤ 79000) (nm : ByteArray) (hyes : hasP ltS r.now nm = true) (at_ : Int) (hout : at_ < 0 ∨ ((r.get nm).data.length : Int) ≤ at_) (mask : Nat) :
    Calls Try.prog 37 #[.pointer (some ⟨x, 0, none⟩), .string nm, .int .i64 at_, .int .u8 (mask : Int)] w fun e w' => e = .returned (.bool false) ∧ Below w.heap.size w w' := by
  obtain ⟨c1, hat⟩ := H.hat F hs nm
  obtain ⟨e, _, hnf, _⟩ := (atN_num F nm).resolve_left (fun h => by rw [hyes] at h; cases h.2)
  rw [e] at hat
  have hf : r.files[r.num nm]? = some (r.get nm) := by unfold RD.get RD.file; rw [List.getD_eq_getElem?_getD, List.getElem?_eq_getElem hnf]; rfl
  obtain ⟨g2, o2, A9, c9, _, HR⟩ := H.fileAt _ _ hf
  obtain ⟨num, hnum⟩ : ∃ num, r.num nm = num := ⟨_, rfl⟩
  obtain ⟨f, hfe⟩ : ∃ f, r.get nm = f := ⟨_, rfl⟩
  rw [hnum, hfe] at HR
  rw [hfe] at hout
  rw [hnum] at hat
  obtain ⟨L, hL⟩ : ∃ L, f.data.length = L := ⟨_, rfl⟩
  have hx := H.box.lt
  have hg2 := HR.ltg
  have z0 := HR.c0
  have z1 := HR.z1
  have hn1 : (num : Int) < (fn : Int) := by have := HR.ltn; omega
  have hfc := HR.lefc
  rw [hL] at z1 hout
  have hn0 : ¬ (num : Int) < 0 := by omega
  have hn2 : (0 : Int) ≤ (num : Int) := by omega
  have HAT := Lib.hid hat
  have HZ := Lib.hid (And.intro hx (And.intro hg2 (And.intro z0 z1)))
  clear e F H hat hyes hs hnf hf HR hnum hfe hL hx hg2 z0 z1
  rcases (show at_ < 0 ∨ (0 ≤ at_ ∧ (L : Int) ≤ at_) by omega) with ha | ⟨ha, hb⟩
  · clear hout
    go_enter Try.func37, Try.ntmps37
    go_wp2_with fail
    refine HAT.out.mono ?_
    rintro e w2 ⟨rfl, hB2⟩
    have HB2 := Lib.hid hB2
    clear hB2
    go_wp2_with fail
    go_ret
    exact ⟨rfl, HB2.out⟩
  · clear hout
    go_enter Try.func37, Try.ntmps37
    go_wp2_with fail
    refine HAT.out.mono ?_
    rintro e w2 ⟨rfl, hB2⟩
    have z0 := (hB2.cell (p := ⟨x, 0, none⟩) HZ.out.1).trans HZ.out.2.2.1
    have z1 := (hB2.cell (p := ⟨g2, o2 + num * 2, none⟩) HZ.out.2.1).trans HZ.out.2.2.2
    have HB2 := Lib.hid hB2
    clear hB2
    go_wp2_with fail
    go_ret
    exact ⟨rfl, HB2.out⟩
set_option maxHeartbeats 3200000 in
theorem RefIn.turn_yes (H : RefIn w x ox b FA fn fc NA nn nc SA sn sc CA cn cc vs cs r) (hF : ∀ i, w.heap.size ≤ i → ox i = 0) (F : Fct r) (hs : r.size ≤ 79000) (nm : ByteArray) (hyes : hasP ltS r.now nm = true) (k : Nat) (hk : k < (r.get nm).data.length) (mask : Nat) (hmask : mask < 256) (y : Nat) (hy : y < 256) (hg : (r.get nm).data[k]? = some (.int .u8 (y : Int))) (hone : ∀ u ∈ (r.get nm).data, u.oneCell' = true) :
    Calls Try.prog 37 #[.pointer (some ⟨x, 0, none⟩), .string nm, .int .i64 (k : Int), .int .u8 (mask : Int)] w fun e w' => e = .returned (.bool true) ∧ RNext w x ox { r with files := r.files.set (r.num nm) ⟨(r.get nm).data.set k (.int .u8 ((y ^^^ mask : Nat) : Int)), (r.get nm).sure⟩ } w' := by
  obtain ⟨c1, hat⟩ := H.hat F hs nm
  obtain ⟨e, _, hnf, _⟩ := (atN_num F nm).resolve_left (fun h => by rw [hyes] at h; cases h.2)
  rw [e] at hat
  have hLb : (r.get nm).data.length ≤ 1048576 := by
    have hlk := (atN_num F nm).resolve_left (fun h => by rw [hyes] at h; cases h.2)
    have h1 := F.data _ ((look_some orders_S F.rn).1 hlk.2.2.2)
    simp only [numOf_numV] at h1
    exact h1
  have hf : r.files[r.num nm]? = some (r.get nm) := by unfold RD.get RD.file; rw [List.getD_eq_getElem?_getD, List.getElem?_eq_getElem hnf]; rfl
  obtain ⟨g2, o2, A9, c9, hFA, HR⟩ := H.fileAt _ _ hf
  obtain ⟨num, hnum⟩ : ∃ num, r.num nm = num := ⟨_, rfl⟩
  obtain ⟨f, hfe⟩ : ∃ f, r.get nm = f := ⟨_, rfl⟩
  rw [hnum, hfe] at HR ⊢
  rw [hfe] at hk hg hone hLb
  rw [hnum] at hat
  have hx := H.box.lt
  have hxg : x ≠ g2 := fun e => by have h1 := H.ob; have h2 := HR.og; rw [e] at h1; omega
  have hxr := u8_xor_nat y mask hy hmask
  obtain ⟨nx, hnx⟩ : ∃ nx, y ^^^ mask = nx := ⟨_, rfl⟩
  rw [hnx] at hxr ⊢
  obtain ⟨L, hL⟩ : ∃ L, f.data.length = L := ⟨_, rfl⟩
  have hn1 : (num : Int) < (fn : Int) := by have := HR.ltn; omega
  have hfc := HR.lefc
  have hn0 : ¬ (num : Int) < 0 := by omega
  have hn2 : (0 : Int) ≤ (num : Int) := by omega
  have hk1 : (k : Int) < (L : Int) := by omega
  have hk0 : (0 : Int) ≤ (k : Int) := by omega
  have hk2 : ¬ (k : Int) < 0 := by omega
  have hk3 : ¬ (L : Int) ≤ (k : Int) := by omega
  have HAT := Lib.hid hat
  -- what is left behind the two stores
  have HALL : Hid (∀ w2, Below w.heap.size w w2 → ∃ g1 o1 c1 W1 V6 V7, w2.cell? ⟨x, 0, none⟩ = some (.slice (some ⟨g2, o2, none⟩) fn fc) ∧ w2.cell? ⟨g2, o2 + num * 2, none⟩ = some (.slice A9 L c9) ∧
      (w2.alloc (.cells #[] 5)).cell? ⟨x, 0, none⟩ = some (.slice (some ⟨g2, o2, none⟩) fn fc) ∧ (w2.alloc (.cells #[] 5)).cell? ⟨g2, o2 + num * 2, none⟩ = some (.slice A9 L c9) ∧
      (Builtin.append_ #[29, 29] 29 #[.slice (some ⟨w2.heap.size, 0, none⟩) 0 0, .slice A9 L c9]).run Try.prog (w2.alloc (.cells #[] 5)) = .ok (.slice (some ⟨g1, o1, none⟩) L c1) W1 ∧
      W1.cell? ⟨g1, o1 + k, none⟩ = some (.int .u8 (y : Int)) ∧ W1.frozen? ⟨g1, o1 + k, none⟩ = false ∧ W1.setCell ⟨g1, o1 + k, none⟩ (.int .u8 (nx : Int)) = V6 ∧ V6.cell? ⟨x, 0, none⟩ = some (.slice (some ⟨g2, o2, none⟩) fn fc) ∧
      V6.cell? ⟨g2, o2 + num * 2, none⟩ = some (.slice A9 L c9) ∧ V6.frozen? ⟨g2, o2 + num * 2, none⟩ = false ∧ V6.setCell ⟨g2, o2 + num * 2, none⟩ (.slice (some ⟨g1, o1, none⟩) L c1) = V7 ∧ L ≤ c1 ∧ RNext w x ox { r with files := r.files.set num ⟨f.data.set k (.int .u8 (nx : Int)), f.sure⟩ } V7) := Lib.hid (by
    intro w2 hB2
    have hBn : Below w2.heap.size w2 (w2.alloc (.cells #[] 5)) := (Below.refl _ w2).alloc (Nat.le_refl _) _
    have hl2 := HR.line.below hB2
    rw [hL] at hl2
    obtain ⟨A1, c1, W1, hr1, hl1, hc1, hf1, _⟩ := sline_append_all 1 (w2.alloc (.cells #[] 5)) 29 5 29 _ 1 Try.underlying29 infoB rfl (by decide) _ 0 0 [] (empty_line w2) (by omega) (.slice A9 L c9) L (by omega) f.data ((hl2.below hBn).srcN Try.underlying29 hone c9)
    rw [Nat.zero_add, List.nil_append] at hl1
    rw [Nat.zero_add] at hr1
    have hB1 : Below w2.heap.size w2 W1 := hBn.trans (hc1.toBelow (fun b hb => by rw [blk_one hb]; exact Nat.le_refl _) (by simp))
    have hA1 : ∀ k ∈ blk A1, w2.heap.size ≤ k := fun k hk => by
      rcases hf1 k hk with h | h
      · rw [blk_one h]; exact Nat.le_refl _
      · simp at h; omega
    obtain ⟨g1, o1, rfl, hg1, hcs1, hfr1⟩ := hl1.at (by omega)
    have hg1w := hA1 g1 (mem_blk.2 ⟨_, rfl, rfl⟩)
    have hx2 : x < w2.heap.size := Nat.lt_of_lt_of_le hx hB2.size
    have hg22 : g2 < w2.heap.size := Nat.lt_of_lt_of_le HR.ltg hB2.size
    have z0 := (hB2.cell (p := ⟨x, 0, none⟩) hx).trans HR.c0
    have z1 := (hB2.cell (p := ⟨g2, o2 + num * 2, none⟩) HR.ltg).trans HR.z1
    have zf : w2.frozen? ⟨g2, o2 + num * 2, none⟩ = false := (World.frozen?_of_block (w := w) (a := ⟨g2, o2 + num * 2, none⟩) (hB2.block g2 HR.ltg)).trans HR.f1
    rw [hL] at z1
    have hc6 : Chg [g1] W1 (W1.setCell ⟨g1, o1 + k, none⟩ (.int .u8 (nx : Int))) := (Chg.refl _ W1).setCell g1 _ _ (.inl (by simp))
    have hc := hcs1 k (by omega)
    rw [hg] at hc
    have hfr := (hfr1 k (by have := hl1.2.1; omega)).2
    have hB6 : Below w2.heap.size w2 (W1.setCell ⟨g1, o1 + k, none⟩ (.int .u8 (nx : Int))) := hB1.trans (hc6.toBelow (fun b hb => by rw [List.mem_singleton] at hb; rw [hb]; exact hg1w) hB1.size)
    have hl6 := hl1.set k [.int .u8 (nx : Int)] (by simp; omega)
    rw [setCells_one] at hl6
    have hset : f.data.take k ++ [.int .u8 (nx : Int)] ++ f.data.drop (k + [Value.int .u8 (nx : Int)].length) = f.data.set k (.int .u8 (nx : Int)) := by
      rw [List.set_eq_take_append_cons_drop, if_pos hk]
      simp
    rw [hset] at hl6
    obtain ⟨V6, hV6⟩ : ∃ V6, W1.setCell ⟨g1, o1 + k, none⟩ (.int .u8 (nx : Int)) = V6 := ⟨_, rfl⟩
    rw [hV6] at hB6 hl6 hc6
    obtain ⟨V7, hV7⟩ : ∃ V7, V6.setCell ⟨g2, o2 + num * 2, none⟩ (.slice (some ⟨g1, o1, none⟩) L c1) = V7 := ⟨_, rfl⟩
    have hc7 : Chg [g2] V6 V7 := by rw [← hV7]; exact (Chg.refl _ V6).setCell g2 _ _ (.inl (by simp))
    have hlen : (f.data.set k (.int .u8 (nx : Int))).length = L := by rw [List.length_set]; exact hL
    have hB6w : Below w.heap.size w V6 := hB2.trans (hB6.mono hB2.size)
    have H6 := H.fline.below hB6w
    rw [hFA] at H6
    have hl7 : SLine 2 V7 (some ⟨g2, o2, none⟩) fn fc (flatF (vs.set num (.slice (some ⟨g1, o1, none⟩) (f.data.set k (.int .u8 (nx : Int))).length c1, f.sure))) := by
      have h := H6.set (num * 2) [.slice (some ⟨g1, o1, none⟩) L c1] (by have := HR.ltn; simp; omega)
      rw [setCells_one, hV7] at h
      rw [flatF_set0 vs num _ _ HR.at_, hlen]
      exact h
    have hfin : RNext w x ox { r with files := r.files.set num ⟨f.data.set k (.int .u8 (nx : Int)), f.sure⟩ } V7 := by
      obtain ⟨ox', hO, hfin⟩ := H.anew num (by have h1 := HR.ltn; have h2 := HR.eqn; omega) (some ⟨g1, o1, none⟩) c1 ⟨f.data.set k (.int .u8 (nx : Int)), f.sure⟩ hB6w (by rw [hlen]; exact hl6) (fun i hi => .inr (by have := hA1 i hi; have := hB2.size; omega)) g2 o2 hFA V7 hc7 hl7
      exact RNext.of hF hO hfin
    exact ⟨g1, o1, c1, W1, V6, V7, z0, z1, (hBn.cell (p := ⟨x, 0, none⟩) hx2).trans z0, (hBn.cell (p := ⟨g2, o2 + num * 2, none⟩) hg22).trans z1, hr1, hc, hfr, hV6, (hB6.cell (p := ⟨x, 0, none⟩) hx2).trans z0, (hB6.cell (p := ⟨g2, o2 + num * 2, none⟩) hg22).trans z1, (World.frozen?_of_block (w := w2) (a := ⟨g2, o2 + num * 2, none⟩) (hB6.block g2 hg22)).trans zf, hV7, hl1.2.1, hfin⟩)
  clear e F H hF hat hyes hs hnf hf HR hnum hfe hL hx hg hone hFA hLb hmask hy hxg hnx hk
  go_enter Try.func37, Try.ntmps37
  go_wp2_with fail
  refine HAT.out.mono ?_
  rintro e w2 ⟨rfl, hB2⟩
  obtain ⟨g1, o1, c1, W1, V6, V7, z0, z1, b0, b1, hr1, hc, hfr, hV6, y0, y1, yf, hV7, hlc, hfin⟩ := HALL.out w2 hB2
  have HR1 := Lib.hid hr1
  have HFIN := Lib.hid hfin
  clear hB2 hr1 hfin
  obtain ⟨Wb, hWb⟩ : ∃ Wb, w2.alloc (.cells #[] 5) = Wb := ⟨_, rfl⟩
  rw [hWb] at b0 b1 HR1
  go_wp2_with (at_builtin; refine Lib.wpList_append_run _ rfl _ _ _ _ rfl _ _ rfl rfl _ _ HR1.out ?_)
  go_ret
  exact ⟨rfl, HFIN.out⟩
end
theorem IsR.turn {w : World} {x : Nat} {ox : Nat → Nat} {r : RD} (h : IsR w x ox r) (F : Fct r) (hs : r.size ≤ 79000) (nm : ByteArray) (at_ : Int) (mask : Nat) (hmask : mask < 256) (hone : hasP ltS r.now nm = true → ∀ u ∈ (r.get nm).data, ∃ z : Int, 0 ≤ z ∧ z < 256 ∧ u = .int .u8 z) :
    Calls Try.prog 37 #[.pointer (some ⟨x, 0, none⟩), .string nm, .int .i64 at_, .int .u8 (mask : Int)] w fun e w' => e = .returned (.bool (r.turns nm at_)) ∧ RNext w x ox (r.turn nm at_ mask) w' := by
  have still : ∀ w', Below w.heap.size w w' → RNext w x ox r w' := fun w' hB => ⟨ox, Only.of_below ox hB, h.below hB⟩
  have h0 := h
  obtain ⟨hF, b, FA, fn, fc, NA, nn, nc, SA, sn, sc, CA, cn, cc, vs, cs, H⟩ := h
  cases hh : hasP ltS r.now nm with
  | false =>
    have e : r.turns nm at_ = false := by unfold RD.turns; rw [hh]; rfl
    have e2 : r.turn nm at_ mask = r := by unfold RD.turn; rw [e]; exact if_neg (fun h => by cases h)
    rw [e, e2]
    exact (H.turn_no F hs nm hh at_ mask).mono fun e w' ⟨he, hB⟩ => ⟨he, still w' hB⟩
  | true =>
    by_cases hout : at_ < 0 ∨ ((r.get nm).data.length : Int) ≤ at_
    · have e : r.turns nm at_ = false := by
        unfold RD.turns
        rw [hh, Bool.true_and, decide_eq_false_iff_not]
        omega
      have e2 : r.turn nm at_ mask = r := by unfold RD.turn; rw [e]; exact if_neg (fun h => by cases h)
      rw [e, e2]
      exact (H.turn_out F hs nm hh at_ hout mask).mono fun e w' ⟨he, hB⟩ => ⟨he, still w' hB⟩
    · obtain ⟨k, rfl⟩ : ∃ k : Nat, at_ = (k : Int) := ⟨at_.toNat, by omega⟩
      have hk : k < (r.get nm).data.length := by omega
      obtain ⟨z, hz0, hz1, hz⟩ := hone hh _ (List.getElem_mem hk)
      obtain ⟨y, rfl⟩ : ∃ y : Nat, z = (y : Int) := ⟨z.toNat, by omega⟩
      have hg := List.getElem?_eq_getElem hk
      rw [hz] at hg
      have e : r.turns nm (k : Int) = true := by
        unfold RD.turns
        rw [hh, Bool.true_and, decide_eq_true_eq]
        omega
      have e2 : r.turn nm (k : Int) mask = { r with files := r.files.set (r.num nm) ⟨(r.get nm).data.set k (.int .u8 ((y ^^^ mask : Nat) : Int)), (r.get nm).sure⟩ } := by
        unfold RD.turn
        rw [if_pos e]
        show { r with files := r.files.set _ ⟨(r.get nm).data.set ((k : Int)).toNat (xorV mask ((r.get nm).data.getD ((k : Int)).toNat (.int .u8 0))), _⟩ } = _
        rw [Int.toNat_natCast, List.getD_eq_getElem?_getD, hg]
        show { r with files := r.files.set _ ⟨(r.get nm).data.set k (.int .u8 ((((y : Int)).toNat ^^^ mask : Nat) : Int)), _⟩ } = _
        rw [Int.toNat_natCast]
      rw [e, e2]
      exact H.turn_yes hF F hs nm hh k hk mask hmask y (by omega) hg (fun u hu => by obtain ⟨z, _, _, e⟩ := hone hh u hu; rw [e]; rfl)
end Go.Proofs.Ytbjlikppboggmaa
namespace Go.Proofs.Ytbjlikppboggmaa
open Go.RowKit Go.Maps
set_option linter.unusedVariables false
set_option maxRecDepth 100000

/-- The names, of which those with a number below i, and those with i among the first k, are told by their rank. -/
def renN (rk : Nat → Nat) (L : List (ByteArray × Value)) (i k : Nat) : List (ByteArray × Value) := L.mapIdx fun j p => (p.1, numV (if numOf p.2 < i ∨ (numOf p.2 = i ∧ j < k) then rk (numOf p.2) else numOf p.2))
section
variable {rk : Nat → Nat} {L : List (ByteArray × Value)} {i k j : Nat} {p : ByteArray × Value}
theorem renN_len : (renN rk L i k).length = L.length := by unfold renN; simp
theorem renN_at (h : L[j]? = some p) : (renN rk L i k)[j]? = some (p.1, numV (if numOf p.2 < i ∨ (numOf p.2 = i ∧ j < k) then rk (numOf p.2) else numOf p.2)) := by
  unfold renN
  rw [List.getElem?_mapIdx, h]
  rfl
theorem renN_none (h : L[j]? = none) : (renN rk L i k)[j]? = none := by
  unfold renN
  rw [List.getElem?_mapIdx, h]
  rfl
theorem renN_ext {M : List (ByteArray × Value)} (h : ∀ j : Nat, (renN rk L i k)[j]? = M[j]?) : renN rk L i k = M := List.ext_getElem? h
theorem renN_step (h : L[k]? = some p) (e : numOf p.2 = i) : renN rk L i (k + 1) = (renN rk L i k).set k (p.1, numV (rk i)) := by
  refine renN_ext fun j => ?_
  by_cases hj : j = k
  · subst hj
    rw [renN_at h, List.getElem?_set_self (by rw [renN_len]; exact (List.getElem?_eq_some_iff.1 h).1), if_pos (.inr ⟨e, Nat.lt_succ_self _⟩), e]
  · rw [List.getElem?_set_ne (fun e => hj e.symm)]
    cases hL : L[j]? with
    | none => rw [renN_none hL, renN_none hL]
    | some q =>
      rw [renN_at hL, renN_at hL]
      have : (numOf q.2 < i ∨ (numOf q.2 = i ∧ j < k + 1)) ↔ (numOf q.2 < i ∨ (numOf q.2 = i ∧ j < k)) := by omega
      simp only [this]
theorem renN_skip (h : L[k]? = some p) (e : numOf p.2 ≠ i) : renN rk L i (k + 1) = renN rk L i k := by
  refine renN_ext fun j => ?_
  cases hL : L[j]? with
  | none => rw [renN_none hL, renN_none hL]
  | some q =>
    rw [renN_at hL, renN_at hL]
    have : (numOf q.2 < i ∨ (numOf q.2 = i ∧ j < k + 1)) ↔ (numOf q.2 < i ∨ (numOf q.2 = i ∧ j < k)) := by
      by_cases hj : j = k
      · subst hj
        rw [h] at hL
        cases hL
        omega
      · omega
    simp only [this]
theorem renN_end : renN rk L i L.length = renN rk L (i + 1) 0 := by
  refine renN_ext fun j => ?_
  cases hL : L[j]? with
  | none => rw [renN_none hL, renN_none hL]
  | some q =>
    have hj := (List.getElem?_eq_some_iff.1 hL).1
    rw [renN_at hL, renN_at hL]
    have : (numOf q.2 < i ∨ (numOf q.2 = i ∧ j < L.length)) ↔ (numOf q.2 < i + 1 ∨ (numOf q.2 = i + 1 ∧ j < 0)) := by omega
    simp only [this]
theorem renN_zero (h : ∀ p ∈ L, ∃ k : Nat, p.2 = numV k) : renN rk L 0 0 = L := by
  refine renN_ext fun j => ?_
  cases hL : L[j]? with
  | none => rw [renN_none hL]
  | some q =>
    obtain ⟨m, hm⟩ := h q (List.mem_of_getElem? hL)
    rw [renN_at hL, if_neg (by omega), hm, numOf_numV, ← hm]
theorem renN_all (n : Nat) (h : ∀ p ∈ L, numOf p.2 < n) : renN rk L n 0 = L.map fun p => (p.1, numV (rk (numOf p.2))) := by
  refine renN_ext fun j => ?_
  rw [List.getElem?_map]
  cases hL : L[j]? with
  | none => rw [renN_none hL]; rfl
  | some q =>
    rw [renN_at hL, if_pos (.inl (h q (List.mem_of_getElem? hL)))]
    rfl
end
/-- Is it one of those that are named? -/
def namedN (L : List (ByteArray × Value)) (i : Nat) : Bool := decide (i ∈ L.map fun p => numOf p.2)
/-- Of the first i files those that stay. -/
def keptF (r : RD) (zs : List Int) (L : List (ByteArray × Value)) (i : Nat) : List Fl := ((List.range i).filter (namedN L)).map fun i => RD.cutF zs i (r.file i)
theorem keptF_yes (r : RD) (zs : List Int) (L : List (ByteArray × Value)) (i : Nat) (h : namedN L i = true) : keptF r zs L (i + 1) = keptF r zs L i ++ [RD.cutF zs i (r.file i)] := by
  unfold keptF
  rw [List.range_succ, List.filter_append, List.map_append]
  simp [h]
theorem keptF_no (r : RD) (zs : List Int) (L : List (ByteArray × Value)) (i : Nat) (h : namedN L i = false) : keptF r zs L (i + 1) = keptF r zs L i := by
  unfold keptF
  rw [List.range_succ, List.filter_append, List.map_append]
  simp [h]
theorem keptF_len (r : RD) (zs : List Int) (L : List (ByteArray × Value)) (i : Nat) : (keptF r zs L i).length ≤ i := by
  unfold keptF
  rw [List.length_map]
  exact Nat.le_trans (List.length_filter_le _ _) (by simp)
/-- How many files that stay there are ahead of one. -/
def rankN (r : RD) (dir : Int) (u : Nat) : Nat := ((r.keep dir).filter fun i => decide (i < u)).length
theorem keptF_rank (r : RD) (dir : Int) (zs : List Int) (i : Nat) (h : i ≤ r.files.length) : (keptF r zs (r.left dir) i).length = rankN r dir i := by
  unfold keptF rankN
  rw [List.length_map]
  congr 1
  refine rises_eq _ _ (List.pairwise_lt_range.filter _) ?_ fun u => ?_
  · unfold RD.keep
    exact (List.pairwise_lt_range.filter _).filter _
  · unfold RD.keep namedN
    rw [List.mem_filter, List.mem_filter, List.mem_filter, List.mem_range, List.mem_range, decide_eq_true_eq, decide_eq_true_eq]
    constructor
    · rintro ⟨h1, h2⟩
      exact ⟨⟨by omega, h2⟩, h1⟩
    · rintro ⟨⟨_, h2⟩, h1⟩
      exact ⟨h1, h2⟩
theorem keptF_all (r : RD) (dir : Int) (zs : List Int) : keptF r zs (r.left dir) r.files.length = (r.crash dir zs).files := rfl
theorem left_all (r : RD) (dir : Int) (zs : List Int) (h : ∀ p ∈ r.left dir, numOf p.2 < r.files.length) : renN (rankN r dir) (r.left dir) r.files.length 0 = (r.crash dir zs).sure := renN_all _ h
theorem keep_of (r : RD) (dir : Int) (i : Nat) (h : i < r.files.length) (hn : namedN (r.left dir) i = true) : i ∈ r.keep dir := by
  unfold RD.keep
  rw [List.mem_filter, List.mem_range]
  exact ⟨h, hn⟩
/-- What the first changes leave. -/
def laidN (r : RD) (k : Nat) : List (ByteArray × Value) := layAll r.sure (r.chs.take k)
theorem laidN_zero (r : RD) : laidN r 0 = r.sure := rfl
theorem laidN_snoc (r : RD) (k : Nat) (c : List (ByteArray × Value)) (h : r.chs[k]? = some c) : laidN r (k + 1) = layP (laidN r k) c := by
  obtain ⟨hk, e⟩ := List.getElem?_eq_some_iff.1 h
  unfold laidN
  rw [List.take_succ_eq_append_getElem hk, e, layAll_snoc]
theorem laidN_left (r : RD) (dir : Int) (cn : Nat) (h : cn = r.chs.length) : laidN r (min cn dir.toNat) = r.left dir := by
  unfold laidN RD.left
  congr 1
  rcases Nat.le_total cn dir.toNat with q | q
  · rw [Nat.min_eq_left q, h, List.take_length, List.take_of_length_le (by omega)]
  · rw [Nat.min_eq_right q]
theorem laidN_named {r : RD} (h : Named r) (k : Nat) : ∀ q ∈ laidN r k, q.1 ≠ ⟨#[]⟩ := lay_named _ _ h.1 (fun c hc => h.2 c (List.mem_of_mem_take hc))
theorem laidN_len {r : RD} (F : Fct r) (k : Nat) : Rises ltS (laidN r k) ∧ (laidN r k).length ≤ r.sure.length + 2 * r.chs.length := ⟨(layAll_len _ _ F.rs (fun c hc => F.two c (List.mem_of_mem_take hc))).1, lay_len r F.rs F.two k⟩
theorem layP_nums {n : Nat} : ∀ (cs ps : List (ByteArray × Value)), (∀ p ∈ ps, ∃ k : Nat, p.2 = numV k ∧ k < n) → (∀ p ∈ cs, p.2 = .pointer none ∨ ∃ k : Nat, p.2 = numV k ∧ k < n) → ∀ p ∈ layP ps cs, ∃ k : Nat, p.2 = numV k ∧ k < n := by
  intro cs
  induction cs with
  | nil => exact fun ps h _ => h
  | cons c l ih =>
    intro ps h hc
    refine ih (layOne ps c) (fun p hp => ?_) (fun p hp => hc p (List.mem_cons_of_mem _ hp))
    by_cases e : c.2 = .pointer none
    · have e2 : layOne ps c = dropP ltS ps c.1 := by obtain ⟨a, b⟩ := c; dsimp only at e; subst e; rfl
      rw [e2] at hp
      exact h p ((mem_dropP orders_S).1 hp).1
    · rw [layOne_put _ _ e] at hp
      rcases (mem_putP orders_S).1 hp with q | q
      · rw [q]; exact (hc c (List.mem_cons_self ..)).resolve_left e
      · exact h p q.1
/-- The files that a disk's changes put are there. -/
def Puts (r : RD) : Prop := ∀ c ∈ r.chs, ∀ p ∈ c, p.2 = .pointer none ∨ ∃ k : Nat, p.2 = numV k ∧ k < r.files.length
theorem layAll_nums {n : Nat} : ∀ (chl : List (List (ByteArray × Value))) (ps : List (ByteArray × Value)), (∀ p ∈ ps, ∃ k : Nat, p.2 = numV k ∧ k < n) → (∀ c ∈ chl, ∀ p ∈ c, p.2 = .pointer none ∨ ∃ k : Nat, p.2 = numV k ∧ k < n) → ∀ p ∈ layAll ps chl, ∃ k : Nat, p.2 = numV k ∧ k < n := by
  intro chl
  induction chl with
  | nil => exact fun ps h _ => h
  | cons c l ih => exact fun ps h hc => ih (layP ps c) (layP_nums c ps h (hc c (List.mem_cons_self ..))) (fun c' h' => hc c' (List.mem_cons_of_mem _ h'))
theorem laidN_nums {r : RD} (F : Fct r) (P : Puts r) (k : Nat) : ∀ p ∈ laidN r k, ∃ k : Nat, p.2 = numV k ∧ k < r.files.length := layAll_nums _ _ F.ns (fun c hc => P c (List.mem_of_mem_take hc))
theorem left_nums {r : RD} (F : Fct r) (P : Puts r) (dir : Int) : ∀ p ∈ r.left dir, ∃ k : Nat, p.2 = numV k ∧ k < r.files.length := laidN_nums F P dir.toNat
/-- A change as it lies. -/
theorem flatC_at : ∀ (cs : List (ByteArray × ByteArray × Nat)) (j : Nat) (c : ByteArray × ByteArray × Nat), cs[j]? = some c → (flatC cs)[j * 3]? = some (.string c.1) ∧ (flatC cs)[j * 3 + 1]? = some (.string c.2.1) ∧ (flatC cs)[j * 3 + 2]? = some (.int .i64 (c.2.2 : Int)) := by
  intro cs
  induction cs with
  | nil => intro j c h; simp at h
  | cons u l ih =>
    intro j c h
    have e : flatC (u :: l) = .string u.1 :: .string u.2.1 :: .int .i64 (u.2.2 : Int) :: flatC l := rfl
    cases j with
    | zero => simp at h; subst h; rw [e]; exact ⟨rfl, rfl, rfl⟩
    | succ k =>
      rw [List.getElem?_cons_succ] at h
      obtain ⟨h1, h2, h3⟩ := ih k c h
      rw [e, show (k + 1) * 3 = k * 3 + 1 + 1 + 1 by omega]
      exact ⟨h1, h2, h3⟩
end Go.Proofs.Ytbjlikppboggmaa
namespace Go.Proofs.Ytbjlikppboggmaa
open Go.RowKit Go.Maps
set_option linter.unusedVariables false
set_option maxRecDepth 100000

section
variable {w w' : World} {x : Nat} {ox ox' : Nat → Nat} {b : XBox} {FA NA SA CA : Option Addr} {fn fc nn nc sn sc cn cc : Nat} {vs : List (Value × Nat)} {cs : List (ByteArray × ByteArray × Nat)} {r : RD}
theorem FilesR.snoc {fs : List Fl} (h : FilesR w ox vs fs) (A : Option Addr) (c : Nat) (f : Fl) (hl : SLine 1 w A f.data.length c f.data) (ho : ∀ k ∈ blk A, ox k = 4) : FilesR w ox (vs ++ [(.slice A f.data.length c, f.sure)]) (fs ++ [f]) := by
  refine ⟨by rw [List.length_append, List.length_append, h.1]; rfl, fun i v g hv hg => ?_⟩
  rcases Nat.lt_or_ge i vs.length with hi | hi
  · rw [List.getElem?_append_left hi] at hv
    rw [List.getElem?_append_left (by rw [← h.1]; exact hi)] at hg
    exact h.2 i v g hv hg
  · rw [List.getElem?_append_right hi] at hv
    rw [List.getElem?_append_right (by rw [← h.1]; exact hi), ← h.1] at hg
    have h0 : i - vs.length = 0 := by
      have := (List.getElem?_eq_some_iff.1 hv).1
      simp at this
      omega
    rw [h0] at hv hg
    simp at hv hg
    subst hv hg
    exact ⟨rfl, A, c, rfl, hl, ho⟩
/-- Was one of the first k names the file's? -/
def SawN (L : List (ByteArray × Value)) (i k : Nat) (b : Bool) : Prop := b = true ↔ ∃ j p, j < k ∧ L[j]? = some p ∧ numOf p.2 = i
/-- The changes laid so far. -/
structure LaidR (w w0 wr : World) (ox : Nat → Nat) (r : RD) (k : Nat) (A : Option Addr) (n c : Nat) : Prop where
  row : RowG encS ltS wr A n c (laidN r k)
  at_ : ∀ i ∈ blk A, (ox i = 4 ∧ i < w.heap.size) ∨ w0.heap.size ≤ i
  on : Below w0.heap.size w0 wr
/-- The files and names told so far. -/
structure TurnR (w w8 wr : World) (ox : Nat → Nat) (r : RD) (zs : List Int) (dir : Int) (i k : Nat) (a8 : Option Addr) (n8 c8 : Nat) (FA' : Option Addr) (c' : Nat) (vs' : List (Value × Nat)) : Prop where
  chg : Chg (blk a8) w8 wr
  line : SLine 2 wr FA' vs'.length c' (flatF vs')
  new : ∀ i ∈ blk FA', w8.heap.size ≤ i
  files : FilesR w ox vs' (keptF r zs (r.left dir) i)
  names : SLine 2 wr a8 n8 c8 (cellsP encS (renN (rankN r dir) (r.left dir) i k))
theorem TurnR.below {w8 wr wq : World} {zs : List Int} {dir : Int} {i k : Nat} {a8 : Option Addr} {n8 c8 : Nat} {FA' : Option Addr} {c' : Nat} {vs' : List (Value × Nat)} (h : TurnR w w8 wr ox r zs dir i k a8 n8 c8 FA' c' vs') (hB : Below wr.heap.size wr wq) : TurnR w w8 wq ox r zs dir i k a8 n8 c8 FA' c' vs' :=
  ⟨h.chg.trans (Chg.of_below hB), h.line.below hB, h.new, h.files, h.names.below hB⟩
theorem TurnR.skip {w8 wr : World} {zs : List Int} {dir : Int} {i k : Nat} {a8 : Option Addr} {n8 c8 : Nat} {FA' : Option Addr} {c' : Nat} {vs' : List (Value × Nat)} (h : TurnR w w8 wr ox r zs dir i k a8 n8 c8 FA' c' vs') {p : ByteArray × Value} (hp : (r.left dir)[k]? = some p) (e : numOf p.2 ≠ i) : TurnR w w8 wr ox r zs dir i (k + 1) a8 n8 c8 FA' c' vs' :=
  ⟨h.chg, h.line, h.new, h.files, by rw [renN_skip hp e]; exact h.names⟩
theorem TurnR.step {w8 wr : World} {zs : List Int} {dir : Int} {i k g8 o8 : Nat} {n8 c8 : Nat} {FA' : Option Addr} {c' : Nat} {vs' : List (Value × Nat)} (h : TurnR w w8 wr ox r zs dir i k (some ⟨g8, o8, none⟩) n8 c8 FA' c' vs') (hg8 : g8 < w8.heap.size) (hi : i ≤ r.files.length) {p : ByteArray × Value} (hp : (r.left dir)[k]? = some p) (hn : (r.left dir).length = n8) (e : numOf p.2 = i) :
    TurnR w w8 (wr.setCell ⟨g8, o8 + k * 2 + 1, none⟩ (.int .i64 (vs'.length : Int))) ox r zs dir i (k + 1) (some ⟨g8, o8, none⟩) n8 c8 FA' c' vs' := by
  have hk := (List.getElem?_eq_some_iff.1 hp).1
  have hc : Chg [g8] wr (wr.setCell ⟨g8, o8 + k * 2 + 1, none⟩ (.int .i64 (vs'.length : Int))) := (Chg.refl _ wr).setCell g8 _ _ (.inl (by simp))
  have hc' : Chg (blk (some (⟨g8, o8, none⟩ : Addr))) wr (wr.setCell ⟨g8, o8 + k * 2 + 1, none⟩ (.int .i64 (vs'.length : Int))) := hc
  have hlen : vs'.length = rankN r dir i := by rw [h.files.1]; exact keptF_rank r dir zs i hi
  refine ⟨h.chg.trans hc', h.line.chg hc (fun b hb hm => ?_), h.new, h.files, ?_⟩
  · rw [List.mem_singleton] at hm
    have := h.new b hb
    omega
  · have h1 := h.names.set (k * 2 + 1) [.int .i64 (vs'.length : Int)] (by simp; omega)
    rw [setCells_one, ← Nat.add_assoc] at h1
    rw [renN_step hp e, cellsP_set encS _ k p.1 _ _ (renN_at hp)]
    rw [← hlen]
    exact h1
theorem TurnR.next {w8 wr : World} {zs : List Int} {dir : Int} {i k : Nat} {a8 : Option Addr} {n8 c8 : Nat} {FA' : Option Addr} {c' : Nat} {vs' : List (Value × Nat)} (h : TurnR w w8 wr ox r zs dir i k a8 n8 c8 FA' c' vs') (hk : (r.left dir).length = k) (hn : namedN (r.left dir) i = false) : TurnR w w8 wr ox r zs dir (i + 1) 0 a8 n8 c8 FA' c' vs' :=
  ⟨h.chg, h.line, h.new, by rw [keptF_no _ _ _ _ hn]; exact h.files, by rw [← renN_end, hk]; exact h.names⟩
theorem TurnR.more {w8 wr V : World} {zs : List Int} {dir : Int} {i k : Nat} {a8 : Option Addr} {n8 c8 : Nat} {FA' FA2 : Option Addr} {c' c2 : Nat} {vs' : List (Value × Nat)} (h : TurnR w w8 wr ox r zs dir i k a8 n8 c8 FA' c' vs') (hk : (r.left dir).length = k) (hn : namedN (r.left dir) i = true)
    (ha8 : ∀ i ∈ blk a8, i < w8.heap.size) (A9 : Option Addr) (c9 : Nat) (hl : SLine 1 w A9 (r.file i).data.length c9 (r.file i).data) (ho : ∀ k ∈ blk A9, ox k = 4) (hsu : (r.file i).sure ≤ (r.file i).data.length) (m : Nat) (hm : m = leftN (r.file i).data.length (r.file i).sure (keptZ zs i))
    (hC : Chg (blk FA') wr V) (hl2 : SLine 2 V FA2 (vs'.length + 1) c2 (flatF vs' ++ [.slice A9 m c9, .int .i64 (m : Int)])) (hf2 : ∀ k ∈ blk FA2, k ∈ blk FA' ∨ wr.heap.size ≤ k) :
    ∃ vs2, vs2.length = vs'.length + 1 ∧ TurnR w w8 V ox r zs dir (i + 1) 0 a8 n8 c8 FA2 c2 vs2 := by
  have hml : m ≤ (r.file i).data.length := by rw [hm]; exact leftN_le _ _ _ hsu
  have hd : ((r.file i).data.take m).length = m := by rw [List.length_take]; omega
  refine ⟨vs' ++ [(.slice A9 m c9, m)], by rw [List.length_append]; rfl, ?_, ?_, ?_, ?_, ?_⟩
  · exact h.chg.andThen hC (fun k hk => .inr (h.new k hk))
  · rw [flatF_snoc, List.length_append]
    exact hl2
  · intro k hk
    rcases hf2 k hk with q | q
    · exact h.new k q
    · have := h.chg.size; omega
  · rw [keptF_yes _ _ _ _ hn]
    have hcut : RD.cutF zs i (r.file i) = ⟨(r.file i).data.take m, m⟩ := by unfold RD.cutF; rw [← hm]
    rw [hcut]
    have h1 := hl.shrink m hml
    rw [Nat.mul_one] at h1
    have h2 := h.files.snoc A9 c9 ⟨(r.file i).data.take m, m⟩ (by show SLine 1 w A9 ((r.file i).data.take m).length c9 _; rw [hd]; exact h1) ho
    have h3 : (Value.slice A9 ((r.file i).data.take m).length c9, m) = (Value.slice A9 m c9, m) := by rw [hd]
    have h4 : (vs' ++ [(Value.slice A9 (⟨(r.file i).data.take m, m⟩ : Fl).data.length c9, (⟨(r.file i).data.take m, m⟩ : Fl).sure)]) = vs' ++ [(.slice A9 m c9, m)] := by rw [← h3]
    rw [h4] at h2
    exact h2
  · rw [← renN_end, hk]
    exact h.names.chg hC (fun k hk hm' => by have := h.new k hm'; have := ha8 k hk; omega)
end
end Go.Proofs.Ytbjlikppboggmaa
