/-
  The law's Do, kinds 6 to 9: both disks are as the document's disk behind it.
  Anything that is done, in one; the law's play.
  What so many things leave of the files' lengths; a file that is synced, through a loss.
-/
import Derived.Test.YtbjlikppboggmaaZbe
import Derived.Test.YtbjlikppboggmaaZbg
import Derived.Test.YtbjlikppboggmaaZbf
import Derived.Test.YtbjlikppboggmaaZbb
namespace Go.Proofs.Ytbjlikppboggmaa
open Go.RowKit Go.Maps
set_option linter.unusedVariables false
set_option maxRecDepth 100000

theorem IsD.puts {w : World} {d : Nat} {own : Nat → Nat} {r : RD} (h : IsD w d own r) : Puts r := by
  obtain ⟨hF, b, F, fn, fc, RA, rn, rc, SA, sn, sc, C, cn, cc, fs, ps, ss, css, chl, nm, dt, su, H, R⟩ := h
  intro c hc p hp
  rw [R.chs] at hc
  obtain ⟨c', hc', rfl⟩ := List.mem_map.1 hc
  obtain ⟨q, hq, rfl⟩ := List.mem_map.1 hp
  rcases H.cin c' hc' q hq with e | e
  · exact .inl (by show tag nm q.2 = _; rw [e]; rfl)
  · exact .inr ⟨nm q.2, tag_some _ _ (H.ne _ e), (List.getElem?_eq_some_iff.1 (R.files _ e)).1⟩
theorem IsD.sureLe {w : World} {d : Nat} {own : Nat → Nat} {r : RD} (h : IsD w d own r) (dir : Int) : ∀ i ∈ r.keep dir, (r.file i).sure ≤ (r.file i).data.length := by
  obtain ⟨hF, b, F, fn, fc, RA, rn, rc, SA, sn, sc, C, cn, cc, fs, ps, ss, css, chl, nm, dt, su, H, R⟩ := h
  intro i hi
  unfold RD.keep at hi
  rw [List.mem_filter, decide_eq_true_eq, List.mem_map] at hi
  obtain ⟨_, p, hp, e⟩ := hi
  have hleft : r.left dir = mapT nm (layAll ss (chl.take dir.toNat)) := by
    unfold RD.left
    rw [R.sure, R.chs, ← List.map_take, ← layAll_tag]
  rw [hleft] at hp
  obtain ⟨q, hq, rfl⟩ := List.mem_map.1 hp
  have hm : q.2 ∈ fs := layAll_in _ _ H.sin (fun c hc => H.cin c (List.mem_of_mem_take hc)) q hq
  have e2 : nm q.2 = i := by
    have h1 : numOf (tag nm q.2) = i := e
    rw [tag_some _ _ (H.ne _ hm), numOf_numV] at h1
    exact h1
  obtain ⟨f, A, n, c, rfl', hf7, hfa, hsl, hoA, hn1, hsu⟩ := H.file _ hm
  have h1 := hsl.1
  unfold RD.file
  rw [List.getD_eq_getElem?_getD, ← e2, R.files _ hm]
  show su q.2 ≤ (dt q.2).length
  omega
theorem IsR.crash {w : World} {x : Nat} {ox : Nat → Nat} {r : RD} (h : IsR w x ox r) (F : Fct r) (N : Named r) (P : Puts r) (hs : r.size ≤ 79000) (dir : Int) (hdir : -9223372036854775808 ≤ dir ∧ dir ≤ 9223372036854775807) (KA : Option Addr) (kn kc : Nat) (zs : List Int) (hK : ZsAt w KA kn zs) (hkn : kn ≤ 1000000)
    (hzs : ∀ z ∈ zs, z ≤ 9223372036854775807) (hsu : ∀ i ∈ r.keep dir, (r.file i).sure ≤ (r.file i).data.length) :
    Calls Try.prog 36 #[.pointer (some ⟨x, 0, none⟩), .agg #[.int .i64 dir, .slice KA kn kc]] w fun e w' => (∃ v, e = .returned v) ∧ RNext w x ox (r.crash dir zs) w' := by
  obtain ⟨hF, b, FA, fn, fc, NA, nn, nc, SA, sn, sc, CA, cn, cc, vs, cs, H⟩ := h
  exact H.crash hF F N P hs dir hdir KA kn kc zs hK hkn hzs hsu
theorem Named.quotaTo {r : RD} (h : Named r) (n : Int) : Named (r.quotaTo n) := h
theorem Named.stopAt {r : RD} (h : Named r) (n : Int) : Named (r.stopAt n) := h
theorem size_crash {r : RD} (F : Fct r) (dir : Int) (zs : List Int) : (r.crash dir zs).size ≤ r.size := by
  unfold RD.size
  show r.calls + ((r.keep dir).map _).length + ((r.left dir).map _).length + 2 * 0 ≤ _
  rw [List.length_map, List.length_map]
  have h1 : (r.keep dir).length ≤ r.files.length := by unfold RD.keep; exact Nat.le_trans (List.length_filter_le _ _) (by simp)
  have h2 := (laidN_len F dir.toNat).2
  show r.calls + _ + (laidN r dir.toNat).length + 2 * 0 ≤ _
  omega
theorem size_turn {r : RD} (x : ByteArray) (a : Int) (m : Nat) : (r.turn x a m).size = r.size := by
  unfold RD.turn
  split
  · unfold RD.size
    show r.calls + (r.files.set _ _).length + r.sure.length + 2 * r.chs.length = _
    rw [List.length_set]
  · rfl
section
variable [Keep] {w0 W W' : World} {d x : Nat} {own ox : Nat → Nat} {r r' q : RD}
theorem Half.stored (h : Half w0 W d x own ox q r) (q' : RD) (f : ∀ b FA fn fc NA nn nc SA sn sc CA cn cc vs cs, RefIn W x ox b FA fn fc NA nn nc SA sn sc CA cn cc vs cs q → RefIn W' x ox { b with quota := q'.quota, full := q'.full, stop := q'.stop } FA fn fc NA nn nc SA sn sc CA cn cc vs cs q') (hc : Chg [x] W W') : Half w0 W' d x own ox q' r := by
  obtain ⟨hF, b, FA, fn, fc, NA, nn, nc, SA, sn, sc, CA, cn, cc, vs, cs, H⟩ := h.isR
  have hx := H.ob
  have hz := hc.size
  have hxl := H.box.lt
  refine ⟨h.d0, h.x0, h.on.trans (hc.toBelow (fun k hk => ?_) h.on.size), ?_, ⟨fun i hi => hF i (by omega), _, FA, fn, fc, NA, nn, nc, SA, sn, sc, CA, cn, cc, vs, cs, f _ _ _ _ _ _ _ _ _ _ _ _ _ _ _ H⟩, h.apart, fun i o hi => ⟨(h.kp i o hi).1, (h.kp i o hi).2.1, (hc.same i (Array.getElem?_eq_some_iff.1 (h.kp i o hi).2.2).1 (fun hm => by rw [List.mem_singleton] at hm; have := (h.kp i o hi).2.1; rw [hm, hx] at this; omega)).trans (h.kp i o hi).2.2⟩⟩
  · rw [List.mem_singleton] at hk
    rcases Nat.lt_or_ge x w0.heap.size with q1 | q1
    · have := h.x0 x q1; omega
    · omega
  · refine h.isD.carry hz (fun _ _ => rfl) (fun k hk hx' => hc.same k hk (fun hm => ?_)) (fun i hi => h.isD.1 i (by omega))
    rw [List.mem_singleton] at hm
    rw [hm] at hx'
    rcases h.apart x with h1 | h1
    · exact hx' h1
    · omega
theorem Half.both (h : Half w0 W d x own ox r r) (hN : Named r) : Both w0 W d x own ox r := ⟨h.d0, h.x0, h.on, h.isD, h.isR, h.apart, hN, h.kp⟩
set_option maxHeartbeats 3200000 in
theorem do6_any (h : Both w0 W d x own ox r) (hs : r.size + 4 ≤ 79000) (A B : ByteArray) (hA : A.size ≤ 1000000) (DA : Option Addr) (dn dc : Nat) (N dir : Int) (hN : -9223372036854775808 ≤ N ∧ N ≤ 9223372036854775807) (hdir : -9223372036854775808 ≤ dir ∧ dir ≤ 9223372036854775807) (KA : Option Addr) (kn kc : Nat) (zs : List Int) (hK : ZsAt w0 KA kn zs) (hkn : kn ≤ 1000000) (hzs : ∀ z ∈ zs, z ≤ 9223372036854775807) (kind : Nat) (hk : kind % 10 = 6) :
    Calls Try.prog 10 #[.pointer (some ⟨d, 0, none⟩), .pointer (some ⟨x, 0, none⟩), .agg #[.int .u64 (kind : Int), .string A, .string B, .slice DA dn dc, .int .i64 N, .int .i64 dir, .slice KA kn kc]] W fun e w' => e = .returned (.bool true) ∧ ∃ own' ox', Both w0 w' d x own' ox' (r.quotaTo N) ∧ RD.size (r.quotaTo N) ≤ r.size + 4 := by
  have hk' : (kind : Int) % 10 = 6 := by omega
  obtain ⟨W1, hW1⟩ : ∃ W1, W.alloc (.cells #[.int .u64 (kind : Int), .string A, .string B, .slice DA dn dc, .int .i64 N, .int .i64 dir, .slice KA kn kc] 34) = W1 := ⟨_, rfl⟩
  have hB1 : Below W.heap.size W W1 := by rw [← hW1]; exact (Below.refl _ W).alloc (Nat.le_refl _) _
  have hbx : W1.heap[W.heap.size]? = some (.cells #[.int .u64 (kind : Int), .string A, .string B, .slice DA dn dc, .int .i64 N, .int .i64 dir, .slice KA kn kc] 34 (0, 0)) := by rw [← hW1]; exact heap_alloc_new W _
  obtain ⟨bx, hbxe⟩ : ∃ bx, W.heap.size = bx := ⟨_, rfl⟩
  have hbo : own bx = 0 ∧ ox bx = 0 := ⟨h.isD.1 bx (by omega), h.isR.1 bx (by omega)⟩
  have h1 : Half w0 W1 d x own ox r r := h.half.below hB1
  rw [hbxe] at hbx
  have b0 : W1.cell? ⟨bx, 0, none⟩ = some (.int .u64 (kind : Int)) := by rw [cell_of_row _ bx 0 _ _ (0, 0) hbx]; rfl
  have HBX := Lib.hid (And.intro hbx hbo)
  have hF := h.fct
  have HSZ := Lib.hid (And.intro hs (And.intro hF h.named))
  have b4 : W1.cell? ⟨bx, 4, none⟩ = some (.int .i64 N) := by rw [cell_of_row _ bx 4 _ _ (0, 0) hbx]; rfl
  have HC1 := Lib.hid ((h1.isD.quotaTo N hN).mono fun e w' hh => (⟨hh.1, h1.disk hh.2⟩ : (∃ v, e = .returned v) ∧ ∃ own', Only own W1 own' w' ∧ Half w0 w' d x own' ox r (r.quotaTo N)))
  obtain ⟨M, hM⟩ : ∃ M : Int, max N 0 = M := ⟨_, rfl⟩
  have HFIN : Hid (∀ own2 w2, Half w0 w2 d x own2 ox r (r.quotaTo N) → ∀ V1 V2, w2.setCell ⟨x, 4, none⟩ (.int .i64 M) = V1 → V2 = V1.setCell ⟨x, 5, none⟩ (.bool false) → Both w0 V2 d x own2 ox (r.quotaTo N) ∧ RD.size (r.quotaTo N) ≤ r.size + 4) := Lib.hid (by
    rintro own2 w2 h2 V1 V2 rfl rfl
    have hc1 : Chg [x] w2 (w2.setCell ⟨x, 4, none⟩ (.int .i64 M)) := (Chg.refl _ w2).setCell x _ _ (.inl (by simp))
    have hc2 : Chg [x] w2 ((w2.setCell ⟨x, 4, none⟩ (.int .i64 M)).setCell ⟨x, 5, none⟩ (.bool false)) := hc1.setCell x _ _ (.inl (by simp))
    refine ⟨(h2.stored (r.quotaTo N) (fun b FA fn fc NA nn nc SA sn sc CA cn cc vs cs H => H.boxed hc2 _ ?_ (r.quotaTo N) rfl rfl rfl rfl rfl rfl rfl rfl rfl H.off rfl H.calls) hc2).both (h.named.quotaTo N), by show r.size ≤ _; omega⟩
    exact (show XBoxAt _ x { b with quota := max N 0, full := false, stop := r.stop } from by rw [hM, ← H.stop]; exact (H.box.set 4 _ { b with quota := M } rfl).set 5 _ _ rfl))
  have HXB : Hid (∀ own2 w2, Half w0 w2 d x own2 ox r (r.quotaTo N) → ∃ b : XBox, XBoxAt w2 x b) := Lib.hid (fun own2 w2 h2 => by
    obtain ⟨hF, b, FA, fn, fc, NA, nn, nc, SA, sn, sc, CA, cn, cc, vs, cs, H⟩ := h2.isR
    exact ⟨b, H.box⟩)
  clear h hs hK hzs hB1 hbx hbo h1 hk hF
  · rw [← hM] at HFIN
    clear hM
    go_enter Try.func10, Try.ntmps10
    go_wp2_with fail
    refine HC1.out.mono ?_
    rintro e w2 ⟨⟨v, rfl⟩, own2, O2, h2⟩
    obtain ⟨xb, hxb⟩ := HXB.out own2 w2 h2
    have b4' : w2.cell? ⟨bx, 4, none⟩ = some (.int .i64 N) := by rw [cell_of_row w2 bx 4 _ _ (0, 0) ((O2.2.2 bx (lt_of_block HBX.out.1) HBX.out.2.1).trans HBX.out.1)]; rfl
    have x4 := hxb.cell 4 _ rfl
    have x4f := hxb.free 4
    have H2 := Lib.hid h2
    obtain ⟨V1, hV1⟩ : ∃ V1, w2.setCell ⟨x, 4, none⟩ (.int .i64 (max N 0)) = V1 := ⟨_, rfl⟩
    have hy := hxb.set 4 (.int .i64 (max N 0)) { xb with quota := (max N 0) } rfl
    rw [hV1] at hy
    have y5 := hy.cell 5 _ rfl
    have y5f := hy.free 5
    clear h2 O2 hxb HC1 b4 b0
    go_wp2
    go_ret
    exact ⟨rfl, own2, ox, HFIN.out own2 w2 H2.out V1 _ hV1 rfl⟩
set_option maxHeartbeats 3200000 in
theorem do7_any (h : Both w0 W d x own ox r) (hs : r.size + 4 ≤ 79000) (A B : ByteArray) (hA : A.size ≤ 1000000) (DA : Option Addr) (dn dc : Nat) (N dir : Int) (hN : -9223372036854775808 ≤ N ∧ N ≤ 9223372036854775807) (hdir : -9223372036854775808 ≤ dir ∧ dir ≤ 9223372036854775807) (KA : Option Addr) (kn kc : Nat) (zs : List Int) (hK : ZsAt w0 KA kn zs) (hkn : kn ≤ 1000000) (hzs : ∀ z ∈ zs, z ≤ 9223372036854775807) (kind : Nat) (hk : kind % 10 = 7) :
    Calls Try.prog 10 #[.pointer (some ⟨d, 0, none⟩), .pointer (some ⟨x, 0, none⟩), .agg #[.int .u64 (kind : Int), .string A, .string B, .slice DA dn dc, .int .i64 N, .int .i64 dir, .slice KA kn kc]] W fun e w' => e = .returned (.bool true) ∧ ∃ own' ox', Both w0 w' d x own' ox' (r.stopAt N) ∧ RD.size (r.stopAt N) ≤ r.size + 4 := by
  have hk' : (kind : Int) % 10 = 7 := by omega
  obtain ⟨W1, hW1⟩ : ∃ W1, W.alloc (.cells #[.int .u64 (kind : Int), .string A, .string B, .slice DA dn dc, .int .i64 N, .int .i64 dir, .slice KA kn kc] 34) = W1 := ⟨_, rfl⟩
  have hB1 : Below W.heap.size W W1 := by rw [← hW1]; exact (Below.refl _ W).alloc (Nat.le_refl _) _
  have hbx : W1.heap[W.heap.size]? = some (.cells #[.int .u64 (kind : Int), .string A, .string B, .slice DA dn dc, .int .i64 N, .int .i64 dir, .slice KA kn kc] 34 (0, 0)) := by rw [← hW1]; exact heap_alloc_new W _
  obtain ⟨bx, hbxe⟩ : ∃ bx, W.heap.size = bx := ⟨_, rfl⟩
  have hbo : own bx = 0 ∧ ox bx = 0 := ⟨h.isD.1 bx (by omega), h.isR.1 bx (by omega)⟩
  have h1 : Half w0 W1 d x own ox r r := h.half.below hB1
  rw [hbxe] at hbx
  have b0 : W1.cell? ⟨bx, 0, none⟩ = some (.int .u64 (kind : Int)) := by rw [cell_of_row _ bx 0 _ _ (0, 0) hbx]; rfl
  have HBX := Lib.hid (And.intro hbx hbo)
  have hF := h.fct
  have HSZ := Lib.hid (And.intro hs (And.intro hF h.named))
  have b4 : W1.cell? ⟨bx, 4, none⟩ = some (.int .i64 N) := by rw [cell_of_row _ bx 4 _ _ (0, 0) hbx]; rfl
  have HC1 := Lib.hid ((h1.isD.stop N hN.2).mono fun e w' hh => (⟨hh.1, h1.disk hh.2⟩ : (∃ v, e = .returned v) ∧ ∃ own', Only own W1 own' w' ∧ Half w0 w' d x own' ox r (r.stopAt N)))
  obtain ⟨M, hM⟩ : ∃ M : Int, max N (-1) = M := ⟨_, rfl⟩
  have HFIN : Hid (∀ own2 w2, Half w0 w2 d x own2 ox r (r.stopAt N) → ∀ V1 V2, w2.setCell ⟨x, 7, none⟩ (.int .i64 M) = V1 → V2 = V1 → Both w0 V2 d x own2 ox (r.stopAt N) ∧ RD.size (r.stopAt N) ≤ r.size + 4) := Lib.hid (by
    rintro own2 w2 h2 V1 V2 rfl rfl
    have hc1 : Chg [x] w2 (w2.setCell ⟨x, 7, none⟩ (.int .i64 M)) := (Chg.refl _ w2).setCell x _ _ (.inl (by simp))
    have hc2 : Chg [x] w2 (w2.setCell ⟨x, 7, none⟩ (.int .i64 M)) := hc1
    refine ⟨(h2.stored (r.stopAt N) (fun b FA fn fc NA nn nc SA sn sc CA cn cc vs cs H => H.boxed hc2 _ ?_ (r.stopAt N) rfl rfl rfl rfl rfl rfl rfl rfl rfl H.off rfl H.calls) hc2).both (h.named.stopAt N), by show r.size ≤ _; omega⟩
    exact (show XBoxAt _ x { b with quota := r.quota, full := r.full, stop := max N (-1) } from by rw [hM, ← H.quota, ← H.full]; exact H.box.set 7 _ _ rfl))
  have HXB : Hid (∀ own2 w2, Half w0 w2 d x own2 ox r (r.stopAt N) → ∃ b : XBox, XBoxAt w2 x b) := Lib.hid (fun own2 w2 h2 => by
    obtain ⟨hF, b, FA, fn, fc, NA, nn, nc, SA, sn, sc, CA, cn, cc, vs, cs, H⟩ := h2.isR
    exact ⟨b, H.box⟩)
  clear h hs hK hzs hB1 hbx hbo h1 hk hF
  · rw [← hM] at HFIN
    clear hM
    go_enter Try.func10, Try.ntmps10
    go_wp2_with fail
    refine HC1.out.mono ?_
    rintro e w2 ⟨⟨v, rfl⟩, own2, O2, h2⟩
    obtain ⟨xb, hxb⟩ := HXB.out own2 w2 h2
    have b4' : w2.cell? ⟨bx, 4, none⟩ = some (.int .i64 N) := by rw [cell_of_row w2 bx 4 _ _ (0, 0) ((O2.2.2 bx (lt_of_block HBX.out.1) HBX.out.2.1).trans HBX.out.1)]; rfl
    have x4 := hxb.cell 7 _ rfl
    have x4f := hxb.free 7
    have H2 := Lib.hid h2
    obtain ⟨V1, hV1⟩ : ∃ V1, w2.setCell ⟨x, 7, none⟩ (.int .i64 (max N (-1))) = V1 := ⟨_, rfl⟩
    clear h2 O2 hxb HC1 b4 b0
    go_wp2
    go_ret
    exact ⟨rfl, own2, ox, HFIN.out own2 w2 H2.out V1 _ hV1 rfl⟩
set_option maxHeartbeats 3200000 in
theorem do8_any (h : Both w0 W d x own ox r) (hs : r.size + 4 ≤ 79000) (A B : ByteArray) (hA : A.size ≤ 1000000) (DA : Option Addr) (dn dc : Nat) (N dir : Int) (hN : -9223372036854775808 ≤ N ∧ N ≤ 9223372036854775807) (hdir : -9223372036854775808 ≤ dir ∧ dir ≤ 9223372036854775807) (KA : Option Addr) (kn kc : Nat) (zs : List Int) (hK : ZsAt w0 KA kn zs) (hkn : kn ≤ 1000000) (hzs : ∀ z ∈ zs, z ≤ 9223372036854775807) (kind : Nat) (hk : kind % 10 = 8) :
    Calls Try.prog 10 #[.pointer (some ⟨d, 0, none⟩), .pointer (some ⟨x, 0, none⟩), .agg #[.int .u64 (kind : Int), .string A, .string B, .slice DA dn dc, .int .i64 N, .int .i64 dir, .slice KA kn kc]] W fun e w' => e = .returned (.bool true) ∧ ∃ own' ox', Both w0 w' d x own' ox' (r.crash dir zs) ∧ RD.size (r.crash dir zs) ≤ r.size + 4 := by
  have hk' : (kind : Int) % 10 = 8 := by omega
  obtain ⟨W1, hW1⟩ : ∃ W1, W.alloc (.cells #[.int .u64 (kind : Int), .string A, .string B, .slice DA dn dc, .int .i64 N, .int .i64 dir, .slice KA kn kc] 34) = W1 := ⟨_, rfl⟩
  have hB1 : Below W.heap.size W W1 := by rw [← hW1]; exact (Below.refl _ W).alloc (Nat.le_refl _) _
  have hbx : W1.heap[W.heap.size]? = some (.cells #[.int .u64 (kind : Int), .string A, .string B, .slice DA dn dc, .int .i64 N, .int .i64 dir, .slice KA kn kc] 34 (0, 0)) := by rw [← hW1]; exact heap_alloc_new W _
  obtain ⟨bx, hbxe⟩ : ∃ bx, W.heap.size = bx := ⟨_, rfl⟩
  have hbo : own bx = 0 ∧ ox bx = 0 := ⟨h.isD.1 bx (by omega), h.isR.1 bx (by omega)⟩
  have h1 : Half w0 W1 d x own ox r r := h.half.below hB1
  rw [hbxe] at hbx
  have b0 : W1.cell? ⟨bx, 0, none⟩ = some (.int .u64 (kind : Int)) := by rw [cell_of_row _ bx 0 _ _ (0, 0) hbx]; rfl
  have HBX := Lib.hid (And.intro hbx hbo)
  have hF := h.fct
  have HSZ := Lib.hid (And.intro hs (And.intro hF h.named))
  have b56 : W1.cell? ⟨bx, 5, none⟩ = some (.int .i64 dir) ∧ W1.cell? ⟨bx, 6, none⟩ = some (.slice KA kn kc) := ⟨by rw [cell_of_row _ bx 5 _ _ (0, 0) hbx]; rfl, by rw [cell_of_row _ bx 6 _ _ (0, 0) hbx]; rfl⟩
  obtain ⟨b5, b6⟩ := b56
  have hblk : ∀ k ∈ blk KA, 0 < kn → k < w0.heap.size := fun k hk h0 => by
    obtain ⟨g, off, e, hg, _⟩ := hK.2 h0
    rw [e] at hk
    obtain ⟨ad, e', e2⟩ := mem_blk.1 hk
    cases e'
    rw [← e2]
    exact hg
  have hZ : ∀ V, Below w0.heap.size w0 V → ZsAt V KA kn zs := fun V hV => hK.same hV.size (fun k _ hk => hV.block k hk)
  have HC1 := Lib.hid ((h1.isD.crash dir hdir KA kn kc zs (hZ _ h1.on) hkn (fun h0 k hk => h.d0 k (hblk k hk h0)) hzs).mono fun e w' hh => (⟨hh.1, h1.disk hh.2⟩ : (∃ v, e = .returned v) ∧ ∃ own', Only own W1 own' w' ∧ Half w0 w' d x own' ox r (r.crash dir zs)))
  have HC2 : Hid (∀ own2 w2, Half w0 w2 d x own2 ox r (r.crash dir zs) → Calls Try.prog 36 #[.pointer (some ⟨x, 0, none⟩), .agg #[.int .i64 dir, .slice KA kn kc]] w2 fun e w' => (∃ v, e = .returned v) ∧ ∃ ox', Only ox w2 ox' w' ∧ Half w0 w' d x own2 ox' (r.crash dir zs) (r.crash dir zs)) := Lib.hid (fun own2 w2 h2 => (h2.isR.crash hF h.named h.isD.puts (by omega) dir hdir KA kn kc zs (hZ _ h2.on) hkn hzs (h.isD.sureLe dir)).mono fun e w' hh => ⟨hh.1, h2.other hh.2⟩)
  have HEND := Lib.hid (And.intro (h.named.crash dir zs) (size_crash hF dir zs))
  clear h hs hK hzs hB1 hbx hbo h1 hk hF hblk hZ
  go_enter Try.func10, Try.ntmps10
  go_wp2_with fail
  refine HC1.out.mono ?_
  rintro e w2 ⟨⟨v, rfl⟩, own2, O2, h2⟩
  have hb2 := (O2.2.2 bx (lt_of_block HBX.out.1) HBX.out.2.1).trans HBX.out.1
  have e5 : w2.cell? ⟨bx, 5, none⟩ = some (.int .i64 dir) := by rw [cell_of_row w2 bx 5 _ _ (0, 0) hb2]; rfl
  have e6 : w2.cell? ⟨bx, 6, none⟩ = some (.slice KA kn kc) := by rw [cell_of_row w2 bx 6 _ _ (0, 0) hb2]; rfl
  have H2 := Lib.hid h2
  clear h2 O2 hb2 HC1
  go_wp2_with fail
  refine (HC2.out own2 w2 H2.out).mono ?_
  rintro e w3 ⟨⟨v, rfl⟩, ox3, O3, h3⟩
  have H3 := Lib.hid h3
  clear h3 O3
  go_wp2
  go_ret
  exact ⟨rfl, own2, ox3, H3.out.both HEND.out.1, by have := HEND.out.2; omega⟩
set_option maxHeartbeats 3200000 in
theorem do9_any (h : Both w0 W d x own ox r) (hs : r.size + 4 ≤ 79000) (A B : ByteArray) (hA : A.size ≤ 1000000) (DA : Option Addr) (dn dc : Nat) (N dir : Int) (hN : -9223372036854775808 ≤ N ∧ N ≤ 9223372036854775807) (hdir : -9223372036854775808 ≤ dir ∧ dir ≤ 9223372036854775807) (KA : Option Addr) (kn kc : Nat) (zs : List Int) (hK : ZsAt w0 KA kn zs) (hkn : kn ≤ 1000000) (hzs : ∀ z ∈ zs, z ≤ 9223372036854775807) (kind : Nat) (hk : kind % 10 = 9) (mask : Nat) (hmask : mask < 256) (hmk : N / 256 % 256 = (mask : Int)) :
    Calls Try.prog 10 #[.pointer (some ⟨d, 0, none⟩), .pointer (some ⟨x, 0, none⟩), .agg #[.int .u64 (kind : Int), .string A, .string B, .slice DA dn dc, .int .i64 N, .int .i64 dir, .slice KA kn kc]] W fun e w' => e = .returned (.bool true) ∧ ∃ own' ox', Both w0 w' d x own' ox' (r.turn A N mask) ∧ RD.size (r.turn A N mask) ≤ r.size + 4 := by
  have hk' : (kind : Int) % 10 = 9 := by omega
  obtain ⟨W1, hW1⟩ : ∃ W1, W.alloc (.cells #[.int .u64 (kind : Int), .string A, .string B, .slice DA dn dc, .int .i64 N, .int .i64 dir, .slice KA kn kc] 34) = W1 := ⟨_, rfl⟩
  have hB1 : Below W.heap.size W W1 := by rw [← hW1]; exact (Below.refl _ W).alloc (Nat.le_refl _) _
  have hbx : W1.heap[W.heap.size]? = some (.cells #[.int .u64 (kind : Int), .string A, .string B, .slice DA dn dc, .int .i64 N, .int .i64 dir, .slice KA kn kc] 34 (0, 0)) := by rw [← hW1]; exact heap_alloc_new W _
  obtain ⟨bx, hbxe⟩ : ∃ bx, W.heap.size = bx := ⟨_, rfl⟩
  have hbo : own bx = 0 ∧ ox bx = 0 := ⟨h.isD.1 bx (by omega), h.isR.1 bx (by omega)⟩
  have h1 : Half w0 W1 d x own ox r r := h.half.below hB1
  rw [hbxe] at hbx
  have b0 : W1.cell? ⟨bx, 0, none⟩ = some (.int .u64 (kind : Int)) := by rw [cell_of_row _ bx 0 _ _ (0, 0) hbx]; rfl
  have HBX := Lib.hid (And.intro hbx hbo)
  have hF := h.fct
  have HSZ := Lib.hid (And.intro hs (And.intro hF h.named))
  have hone : hasP ltS r.now A = true → ∀ u ∈ (r.get A).data, ∃ z : Int, 0 ≤ z ∧ z < 256 ∧ u = .int .u8 z := fun hx => (h.isD.bytes A hx).1
  have h1d : Half w0 W1.drew d x own ox r r := h1.below (Below.refl _ W1).drew
  have HC1 := Lib.hid ((h1d.isD.turn A N hN mask hmask).mono fun e w' hh => (⟨hh.1, h1d.disk hh.2⟩ : e = .returned (.bool (r.turns A N)) ∧ ∃ own', Only own W1.drew own' w' ∧ Half w0 w' d x own' ox r (r.turn A N mask)))
  have HC2 : Hid (∀ own2 w2, Half w0 w2 d x own2 ox r (r.turn A N mask) → Calls Try.prog 37 #[.pointer (some ⟨x, 0, none⟩), .string A, .int .i64 N, .int .u8 (mask : Int)] w2 fun e w' => e = .returned (.bool (r.turns A N)) ∧ ∃ ox', Only ox w2 ox' w' ∧ Half w0 w' d x own2 ox' (r.turn A N mask) (r.turn A N mask)) := Lib.hid (fun own2 w2 h2 => (h2.isR.turn hF (by omega) A N mask hmask hone).mono fun e w' hh => ⟨hh.1, h2.other hh.2⟩)
  have HEND := Lib.hid (And.intro (h.named.turn A N mask) (size_turn (r := r) A N mask))
  have hmk2 : IntKind.u8.wrap (N / 256) = (mask : Int) := by rw [IntKind.wrap_u8]; exact hmk
  clear h hs hK hzs hB1 hbx hbo h1 hk hF hone h1d
  go_enter Try.func10, Try.ntmps10
  go_upto_region 3 with fail
  have HSS : Hid (W1.drew.heap[bx]? = some (.cells #[.int .u64 (kind : Int), .string A, .string B, .slice DA dn dc, .int .i64 N, .int .i64 dir, .slice KA kn kc] 34 (0, 0))) := Lib.hid HBX.out.1
  refine wp_region_held_drew (S := fun V => V.heap[bx]? = some (.cells #[.int .u64 (kind : Int), .string A, .string B, .slice DA dn dc, .int .i64 N, .int .i64 dir, .slice KA kn kc] 34 (0, 0))) (by kernel_rfl) HSS.out (fun _ => ?_)
  refine takeH 0 13 (v := (.pointer (some ⟨d, 0, none⟩))) rfl rfl (by kernel_rfl) (by kernel_rfl) (by kernel_rfl) (fun _ _ _ h => h) (by rfl) ?_ HSS.out ?_
  · intro w hSw
    go_simp
  refine takeH 1 14 (v := (.pointer (some ⟨bx, 1, none⟩))) rfl rfl (by kernel_rfl) (by kernel_rfl) (by kernel_rfl) (fun _ _ _ h => h) (by rfl) ?_ HSS.out ?_
  · intro w hSw
    go_simp
  refine takeH 2 15 (v := (.string A)) rfl rfl (by kernel_rfl) (by kernel_rfl) (by kernel_rfl) (fun _ _ _ h => h) (by rfl) ?_ HSS.out ?_
  · intro w hSw
    have q1 : w.cell? ⟨bx, 1, none⟩ = some (.string A) := by rw [cell_of_row w bx 1 _ _ (0, 0) hSw]; rfl
    have q4 : w.cell? ⟨bx, 4, none⟩ = some (.int .i64 N) := by rw [cell_of_row w bx 4 _ _ (0, 0) hSw]; rfl
    go_simp
  refine takeH 3 16 (v := (.pointer (some ⟨bx, 4, none⟩))) rfl rfl (by kernel_rfl) (by kernel_rfl) (by kernel_rfl) (fun _ _ _ h => h) (by rfl) ?_ HSS.out ?_
  · intro w hSw
    go_simp
  refine takeH 4 17 (v := (.int .i64 N)) rfl rfl (by kernel_rfl) (by kernel_rfl) (by kernel_rfl) (fun _ _ _ h => h) (by rfl) ?_ HSS.out ?_
  · intro w hSw
    have q1 : w.cell? ⟨bx, 1, none⟩ = some (.string A) := by rw [cell_of_row w bx 1 _ _ (0, 0) hSw]; rfl
    have q4 : w.cell? ⟨bx, 4, none⟩ = some (.int .i64 N) := by rw [cell_of_row w bx 4 _ _ (0, 0) hSw]; rfl
    go_simp
  refine takeH 5 18 (v := (.pointer (some ⟨bx, 4, none⟩))) rfl rfl (by kernel_rfl) (by kernel_rfl) (by kernel_rfl) (fun _ _ _ h => h) (by rfl) ?_ HSS.out ?_
  · intro w hSw
    go_simp
  refine takeH 6 19 (v := (.int .i64 N)) rfl rfl (by kernel_rfl) (by kernel_rfl) (by kernel_rfl) (fun _ _ _ h => h) (by rfl) ?_ HSS.out ?_
  · intro w hSw
    have q1 : w.cell? ⟨bx, 1, none⟩ = some (.string A) := by rw [cell_of_row w bx 1 _ _ (0, 0) hSw]; rfl
    have q4 : w.cell? ⟨bx, 4, none⟩ = some (.int .i64 N) := by rw [cell_of_row w bx 4 _ _ (0, 0) hSw]; rfl
    go_simp
  refine takeH 7 20 (v := (.int .i64 (N / 256))) rfl rfl (by kernel_rfl) (by kernel_rfl) (by kernel_rfl) (fun _ _ _ h => h) (by rfl) ?_ HSS.out ?_
  · intro w hSw
    go_simp
  refine takeH 8 21 (v := (.int .u8 (mask : Int))) rfl rfl (by kernel_rfl) (by kernel_rfl) (by kernel_rfl) (fun _ _ _ h => h) (by rfl) ?_ HSS.out ?_
  · intro w hSw
    go_simp
  refine takeH 10 23 (v := (.pointer (some ⟨x, 0, none⟩))) rfl rfl (by kernel_rfl) (by kernel_rfl) (by kernel_rfl) (fun _ _ _ h => h) (by rfl) ?_ HSS.out ?_
  · intro w hSw
    go_simp
  refine takeH 11 24 (v := (.pointer (some ⟨bx, 1, none⟩))) rfl rfl (by kernel_rfl) (by kernel_rfl) (by kernel_rfl) (fun _ _ _ h => h) (by rfl) ?_ HSS.out ?_
  · intro w hSw
    go_simp
  refine takeH 12 25 (v := (.string A)) rfl rfl (by kernel_rfl) (by kernel_rfl) (by kernel_rfl) (fun _ _ _ h => h) (by rfl) ?_ HSS.out ?_
  · intro w hSw
    have q1 : w.cell? ⟨bx, 1, none⟩ = some (.string A) := by rw [cell_of_row w bx 1 _ _ (0, 0) hSw]; rfl
    have q4 : w.cell? ⟨bx, 4, none⟩ = some (.int .i64 N) := by rw [cell_of_row w bx 4 _ _ (0, 0) hSw]; rfl
    go_simp
  refine takeH 13 26 (v := (.pointer (some ⟨bx, 4, none⟩))) rfl rfl (by kernel_rfl) (by kernel_rfl) (by kernel_rfl) (fun _ _ _ h => h) (by rfl) ?_ HSS.out ?_
  · intro w hSw
    go_simp
  refine takeH 14 27 (v := (.int .i64 N)) rfl rfl (by kernel_rfl) (by kernel_rfl) (by kernel_rfl) (fun _ _ _ h => h) (by rfl) ?_ HSS.out ?_
  · intro w hSw
    have q1 : w.cell? ⟨bx, 1, none⟩ = some (.string A) := by rw [cell_of_row w bx 1 _ _ (0, 0) hSw]; rfl
    have q4 : w.cell? ⟨bx, 4, none⟩ = some (.int .i64 N) := by rw [cell_of_row w bx 4 _ _ (0, 0) hSw]; rfl
    go_simp
  refine takeH 15 28 (v := (.pointer (some ⟨bx, 4, none⟩))) rfl rfl (by kernel_rfl) (by kernel_rfl) (by kernel_rfl) (fun _ _ _ h => h) (by rfl) ?_ HSS.out ?_
  · intro w hSw
    go_simp
  refine takeH 16 29 (v := (.int .i64 N)) rfl rfl (by kernel_rfl) (by kernel_rfl) (by kernel_rfl) (fun _ _ _ h => h) (by rfl) ?_ HSS.out ?_
  · intro w hSw
    have q1 : w.cell? ⟨bx, 1, none⟩ = some (.string A) := by rw [cell_of_row w bx 1 _ _ (0, 0) hSw]; rfl
    have q4 : w.cell? ⟨bx, 4, none⟩ = some (.int .i64 N) := by rw [cell_of_row w bx 4 _ _ (0, 0) hSw]; rfl
    go_simp
  refine takeH 17 30 (v := (.int .i64 (N / 256))) rfl rfl (by kernel_rfl) (by kernel_rfl) (by kernel_rfl) (fun _ _ _ h => h) (by rfl) ?_ HSS.out ?_
  · intro w hSw
    go_simp
  refine takeH 18 31 (v := (.int .u8 (mask : Int))) rfl rfl (by kernel_rfl) (by kernel_rfl) (by kernel_rfl) (fun _ _ _ h => h) (by rfl) ?_ HSS.out ?_
  · intro w hSw
    go_simp
  refine wpAnyH_ready (rs := [9]) (by kernel_rfl) (by simp) ?_
  refine AllReadyH.cons rfl (fun K hK => ?_) AllReadyH.nil
  go_simp
  go_at_call 32
  refine HC1.out.mono ?_
  rintro e w2 ⟨rfl, own2, O2, h2⟩
  have HS2 : Hid (w2.heap[bx]? = some (.cells #[.int .u64 (kind : Int), .string A, .string B, .slice DA dn dc, .int .i64 N, .int .i64 dir, .slice KA kn kc] 34 (0, 0))) := Lib.hid ((O2.2.2 bx (lt_of_block HSS.out) HBX.out.2.1).trans HSS.out)
  have H2 := Lib.hid h2
  clear h2 O2
  refine hK.out _ _ HS2.out (fun _ => ?_)
  clear hK K
  refine wpAnyH_ready (rs := [19]) (by kernel_rfl) (by simp) ?_
  refine AllReadyH.cons rfl (fun K hK => ?_) AllReadyH.nil
  go_simp
  go_at_call 37
  refine (HC2.out own2 w2 H2.out).mono ?_
  rintro e w3 ⟨rfl, ox3, O3, h3⟩
  have HS3 : Hid (w3.heap[bx]? = some (.cells #[.int .u64 (kind : Int), .string A, .string B, .slice DA dn dc, .int .i64 N, .int .i64 dir, .slice KA kn kc] 34 (0, 0))) := Lib.hid ((O3.2.2 bx (lt_of_block HS2.out) HBX.out.2.2).trans HS2.out)
  have H3 := Lib.hid h3
  clear h3 O3
  refine hK.out _ _ HS3.out (fun _ => ?_)
  clear hK K
  refine takeH 20 33 (v := (.bool true)) rfl rfl (by kernel_rfl) (by kernel_rfl) (by kernel_rfl) (fun _ _ _ h => h) (by rfl) ?_ HS3.out ?_
  · intro w hSw
    go_simp
  refine takeH 21 6 (v := (.bool true)) rfl rfl (by kernel_rfl) (by kernel_rfl) (by kernel_rfl) (fun _ _ _ h => h) (by rfl) ?_ HS3.out ?_
  · intro w hSw
    go_simp
  refine wpAnyH_done (by kernel_rfl) ?_ _
  go_wp2
  go_ret
  exact ⟨rfl, own2, ox3, H3.out.both HEND.out.1, by have := HEND.out.2; omega⟩
end
end Go.Proofs.Ytbjlikppboggmaa
namespace Go.Proofs.Ytbjlikppboggmaa
open Go.RowKit Go.Maps
set_option linter.unusedVariables false
set_option maxRecDepth 100000

def maskN (n : Int) : Nat := (n / 256 % 256).toNat
theorem maskN_lt (n : Int) : maskN n < 256 := by unfold maskN; omega
theorem maskN_eq (n : Int) : n / 256 % 256 = (maskN n : Int) := by unfold maskN; omega
/-- What anything that is done leaves. -/
def RD.doOp (r : RD) (o : OpR) : RD :=
  if o.kind % 10 = 0 then (r.create o.a).2 else if o.kind % 10 = 1 then (r.append o.a (cellsZ o.dz)).2 else if o.kind % 10 = 2 then (r.sync o.a).2 else if o.kind % 10 = 3 then r.syncDir.2 else if o.kind % 10 = 4 then (r.rename o.a o.b).2 else if o.kind % 10 = 5 then (r.remove o.a).2 else if o.kind % 10 = 6 then r.quotaTo o.n else if o.kind % 10 = 7 then r.stopAt o.n else if o.kind % 10 = 8 then r.crash o.dir o.kz else r.turn o.a o.n (maskN o.n)
def RD.doAll (r : RD) (l : List OpR) : RD := l.foldl RD.doOp r
theorem doAll_snoc (r : RD) (l : List OpR) (o : OpR) : r.doAll (l ++ [o]) = (r.doAll l).doOp o := by
  unfold RD.doAll
  rw [List.foldl_append]
  rfl
theorem small_all {o : OpR} (h : o.small = true) : o.a.size ≤ 300 ∧ o.b.size ≤ 300 ∧ o.dn ≤ 300 ∧ o.kn ≤ 300 := by
  unfold OpR.small at h
  exact of_decide_eq_true h
section
variable [Keep] {w0 W W' : World} {d x : Nat} {own ox : Nat → Nat} {r : RD}
theorem do_all (h : Both w0 W d x own ox r) (hs : r.size + 4 ≤ 79000) (o : OpR) (hi : o.In w0) (hm : o.small = true) :
    Calls Try.prog 10 #[.pointer (some ⟨d, 0, none⟩), .pointer (some ⟨x, 0, none⟩), .agg o.cells.toArray] W fun e w' => e = .returned (.bool true) ∧ ∃ own' ox', Both w0 w' d x own' ox' (r.doOp o) ∧ (r.doOp o).size ≤ r.size + 4 := by
  obtain ⟨ha, hb, hdn, hkn⟩ := small_all hm
  obtain ⟨i1, i2, i3, hD, hn, hdir, hk, hkz, _⟩ := hi
  obtain ⟨kind, a, b, dA, dn, dc, dz, n, dir, kA, kn, kc, kz⟩ := o
  dsimp only at ha hb hdn hkn hD hn hdir hk hkz
  unfold OpR.cells RD.doOp
  dsimp only
  by_cases h0 : kind % 10 = 0
  · simp only [if_pos h0]
    exact do0_any h hs a b (by omega) (by omega) dA dn dc n dir kA kn kc kind h0
  simp only [if_neg h0]
  by_cases h1 : kind % 10 = 1
  · simp only [if_pos h1]
    exact do1_any h hs a b (by omega) (by omega) dA dn dc n dir kA kn kc kind h1 dz hD (by omega)
  simp only [if_neg h1]
  by_cases h2 : kind % 10 = 2
  · simp only [if_pos h2]
    exact do2_any h hs a b (by omega) (by omega) dA dn dc n dir kA kn kc kind h2
  simp only [if_neg h2]
  by_cases h3 : kind % 10 = 3
  · simp only [if_pos h3]
    exact do3_any h hs a b (by omega) (by omega) dA dn dc n dir kA kn kc kind h3
  simp only [if_neg h3]
  by_cases h4 : kind % 10 = 4
  · simp only [if_pos h4]
    exact do4_any h hs a b (by omega) (by omega) dA dn dc n dir kA kn kc kind h4
  simp only [if_neg h4]
  by_cases h5 : kind % 10 = 5
  · simp only [if_pos h5]
    exact do5_any h hs a b (by omega) (by omega) dA dn dc n dir kA kn kc kind h5
  simp only [if_neg h5]
  by_cases h6 : kind % 10 = 6
  · simp only [if_pos h6]
    exact do6_any h hs a b (by omega) dA dn dc n dir hn hdir kA kn kc kz hk (by omega) hkz kind h6
  simp only [if_neg h6]
  by_cases h7 : kind % 10 = 7
  · simp only [if_pos h7]
    exact do7_any h hs a b (by omega) dA dn dc n dir hn hdir kA kn kc kz hk (by omega) hkz kind h7
  simp only [if_neg h7]
  by_cases h8 : kind % 10 = 8
  · simp only [if_pos h8]
    exact do8_any h hs a b (by omega) dA dn dc n dir hn hdir kA kn kc kz hk (by omega) hkz kind h8
  simp only [if_neg h8]
  exact do9_any h hs a b (by omega) dA dn dc n dir hn hdir kA kn kc kz hk (by omega) hkz kind (by omega) (maskN n) (maskN_lt n) (maskN_eq n)
end
theorem cutL_in (os : List OpR) : ∀ o ∈ cutL os, o ∈ os := fun o ho => by
  unfold cutL at ho
  split at ho
  · exact List.mem_of_mem_take ho
  · cases ho
section
attribute [local instance] keepNo
/-- Both new disks, side by side. -/
theorem both_new {W w2 w3 : World} {q : Int} {own ox : Nat → Nat} (ho0 : ∀ i, i < W.heap.size → own i = 0) (hD : IsD w2 W.heap.size own (RD.fresh q)) (hB2 : Below W.heap.size W w2) (hx0 : ∀ i, i < w2.heap.size → ox i = 0) (hR : IsR w3 w2.heap.size ox (RD.fresh q)) (hB3 : Below w2.heap.size w2 w3) : Both W w3 W.heap.size w2.heap.size own ox (RD.fresh q) :=
  ⟨ho0, fun i hi => hx0 i (Nat.lt_of_lt_of_le hi hB2.size), hB2.trans (hB3.mono hB2.size), hD.below hB3, hR, fun i => (Nat.lt_or_ge i w2.heap.size).elim (fun h => .inr (hx0 i h)) (fun h => .inl (hD.1 i h)), Named.fresh q, fun i o hi => by cases hi⟩
end
/-- Both disks behind so many things. -/
def PlayIs [Keep] (w0 W : World) (d x : Nat) (r0 : RD) (C : List OpR) (j : Nat) : Prop := ∃ own ox, Both w0 W d x own ox (r0.doAll (C.take j)) ∧ (r0.doAll (C.take j)).size ≤ 4 * j
theorem PlayIs.start [Keep] {w0 W : World} {d x : Nat} {own ox : Nat → Nat} {r0 : RD} (C : List OpR) (h : Both w0 W d x own ox r0) (hs : r0.size = 0) : PlayIs w0 W d x r0 C 0 := ⟨own, ox, h, by show r0.size ≤ _; omega⟩
theorem PlayIs.below [Keep] {w0 W W' : World} {d x : Nat} {r0 : RD} {C : List OpR} {j : Nat} (h : PlayIs w0 W d x r0 C j) (hB : Below W.heap.size W W') : PlayIs w0 W' d x r0 C j := by
  obtain ⟨own, ox, h, hs⟩ := h
  exact ⟨own, ox, (h.half.below hB).both h.named, hs⟩
theorem PlayIs.on [Keep] {w0 W : World} {d x : Nat} {r0 : RD} {C : List OpR} {j : Nat} (h : PlayIs w0 W d x r0 C j) : Below w0.heap.size w0 W := by
  obtain ⟨own, ox, h, hs⟩ := h
  exact h.on
theorem PlayIs.go [Keep] {w0 W : World} {d x : Nat} {r0 : RD} {C : List OpR} {j : Nat} (h : PlayIs w0 W d x r0 C j) (hC : C.length ≤ 60) {o : OpR} (ho : C[j]? = some o) (hi : o.In w0) (hm : o.small = true) :
    Calls Try.prog 10 #[.pointer (some ⟨d, 0, none⟩), .pointer (some ⟨x, 0, none⟩), .agg o.cells.toArray] W fun e w' => e = .returned (.bool true) ∧ PlayIs w0 w' d x r0 C (j + 1) := by
  obtain ⟨own, ox, h, hs⟩ := h
  obtain ⟨hj, e⟩ := List.getElem?_eq_some_iff.1 ho
  refine (do_all h (by omega) o hi hm).mono ?_
  rintro e' w' ⟨he, own', ox', h', hs'⟩
  refine ⟨he, own', ox', ?_⟩
  rw [List.take_succ_eq_append_getElem hj, e, doAll_snoc]
  exact ⟨h', by omega⟩
section
attribute [local instance] keepNo
set_option maxHeartbeats 1600000 in
theorem play_any (A : Option Addr) (n c : Nat) (os : List OpR) (q : Int) (W : World) (h : OpsIn W A n os) (hnc : n ≤ c) (hcm : c ≤ maxLen) (hq : q ≤ 9223372036854775807) :
    Calls Try.prog 13 #[.int .i64 q, .slice A n c] W fun e w' => ∃ d x own ox, e = .returned (.tuple #[.pointer (some ⟨d, 0, none⟩), .pointer (some ⟨x, 0, none⟩), .bool true]) ∧ Both W w' d x own ox ((RD.fresh q).doAll (cutL os)) ∧ ((RD.fresh q).doAll (cutL os)).size ≤ 240 := by
  have HCUT := Lib.hid (fun (V : World) (hV : Below W.heap.size W V) => cut_from W V hV A n c os h hnc hcm)
  have hL60 := cutL_len os
  have HSM : Hid (∀ o ∈ cutL os, o.In W ∧ o.small = true) := Lib.hid (fun o ho => ⟨h.2.1 o (cutL_in os o ho), cutL_small os o ho⟩)
  generalize cutL os = C at *
  clear h hnc hcm
  go_enter Try.func13, Try.ntmps13
  go_wp2_with fail
  refine (IsD.new q hq W).mono ?_
  rintro e w2 ⟨rfl, own, ho0, hD, hB2⟩
  have HD := Lib.hid (And.intro ho0 (And.intro hD hB2))
  clear ho0 hD hB2
  go_wp2_with fail
  refine (IsR.new q hq w2).mono ?_
  rintro e w3 ⟨rfl, ox, hx0, hR, hB3⟩
  have HH := Lib.hid (both_new HD.out.1 HD.out.2.1 HD.out.2.2 hx0 hR hB3)
  clear hx0 hR hB3 HD
  generalize w2.heap.size = x at *
  obtain ⟨d, hd⟩ : ∃ d, W.heap.size = d := ⟨_, rfl⟩
  rw [hd] at HH ⊢
  clear hd
  go_wp2_with fail
  refine (HCUT.out w3 HH.out.on).mono ?_
  rintro e w4 ⟨⟨A1, c1, rfl, hO⟩, hB4⟩
  have HO := Lib.hid hO
  have HS : Hid (PlayIs W w4 d x (RD.fresh q) C 0) := Lib.hid ((PlayIs.start C HH.out rfl).below hB4)
  have HW4 := Lib.hid HS.out.on
  clear hO hB4 HCUT HH
  go_wp2_with fail
  go_loopg [18] (C.length + 1) (fun kx i wq => ∃ j : Nat, i = .int .i64 j ∧ j ≤ C.length ∧ Hid (PlayIs W wq d x (RD.fresh q) C j) ∧ C.length - j + 1 ≤ kx)
  case atStart => exact ⟨0, rfl, Nat.zero_le _, HS, Nat.le_refl _⟩
  case round =>
    obtain ⟨j, rfl, hj, HI, hm⟩ := hrel
    by_cases hlt : j < C.length
    · obtain ⟨o, ho⟩ : ∃ o, C[j]? = some o := ⟨_, List.getElem?_eq_getElem hlt⟩
      obtain ⟨g, off, rfl, hg, hc⟩ := (HO.out.below HI.out.on).2.2 (by omega)
      have hcs := hc j o ho
      obtain ⟨hin, hsm⟩ := HSM.out o (List.mem_of_getElem? ho)
      have HCE : Hid (o.cells = [.int .u64 (o.kind : Int), .string o.a, .string o.b, .slice o.dA o.dn o.dc, .int .i64 o.n, .int .i64 o.dir, .slice o.kA o.kn o.kc]) := Lib.hid rfl
      have d0 := hcs 0 _ rfl
      have d1 := hcs 1 _ rfl
      have d2 := hcs 2 _ rfl
      have d3 := hcs 3 _ rfl
      have d4 := hcs 4 _ rfl
      have d5 := hcs 5 _ rfl
      have d6 := hcs 6 _ rfl
      rw [Nat.add_zero] at d0
      have hlt' : (j : Int) < (C.length : Int) := by omega
      have hj0 : (0 : Int) ≤ (j : Int) := by omega
      obtain ⟨Wa, hWa⟩ : ∃ Wa, wr.alloc (.cells o.cells.toArray 34) = Wa := ⟨_, rfl⟩
      have hBa : Below wr.heap.size wr Wa := by rw [← hWa]; exact (Below.refl _ wr).alloc (Nat.le_refl _) _
      have hva : Wa.heap[wr.heap.size]? = some (.cells o.cells.toArray 34 (0, 0)) := by rw [← hWa]; exact heap_alloc_new wr _
      have hgo := (HI.out.below hBa).go hL60 ho hin hsm
      rw [HCE.out] at hWa hva hgo
      obtain ⟨va, hvae⟩ : ∃ va, wr.heap.size = va := ⟨_, rfl⟩
      rw [hvae] at hva
      have e0 : Wa.cell? ⟨va, 0, none⟩ = some (.int .u64 (o.kind : Int)) := by rw [cell_of_row _ va 0 _ _ (0, 0) hva]; rfl
      have e1 : Wa.cell? ⟨va, 1, none⟩ = some (.string o.a) := by rw [cell_of_row _ va 1 _ _ (0, 0) hva]; rfl
      have e2 : Wa.cell? ⟨va, 2, none⟩ = some (.string o.b) := by rw [cell_of_row _ va 2 _ _ (0, 0) hva]; rfl
      have e3 : Wa.cell? ⟨va, 3, none⟩ = some (.slice o.dA o.dn o.dc) := by rw [cell_of_row _ va 3 _ _ (0, 0) hva]; rfl
      have e4 : Wa.cell? ⟨va, 4, none⟩ = some (.int .i64 o.n) := by rw [cell_of_row _ va 4 _ _ (0, 0) hva]; rfl
      have e5 : Wa.cell? ⟨va, 5, none⟩ = some (.int .i64 o.dir) := by rw [cell_of_row _ va 5 _ _ (0, 0) hva]; rfl
      have e6 : Wa.cell? ⟨va, 6, none⟩ = some (.slice o.kA o.kn o.kc) := by rw [cell_of_row _ va 6 _ _ (0, 0) hva]; rfl
      have HGO := Lib.hid hgo
      clear hc hcs hin hsm hva hBa hgo ho hg HI
      obtain ⟨kind, a, b, dA, dn, dc, dz, nn, dir, kA, kn, kc, kz⟩ := o
      dsimp only at *
      go_wp2_with (go_at_call 10; (with_reducible refine HGO.out.mono ?_); rintro e w5 ⟨rfl, hs5⟩; have HS5 := Lib.hid hs5; clear hs5)
      go_roundg (C.length - (j + 1) + 1)
      case measure => omega
      case rel => exact ⟨j + 1, by go_num, by omega, HS5, Nat.le_refl _⟩
    · obtain rfl : j = C.length := by omega
      obtain ⟨own', ox', hB, hs⟩ := HI.out
      rw [List.take_length] at hB hs
      have hs2 : ((RD.fresh q).doAll C).size ≤ 240 := by omega
      have HEND := Lib.hid (And.intro hB hs2)
      clear hB hs hs2
      go_wp2
      exact bodyPost_ret (v := .tuple #[.pointer (some ⟨d, 0, none⟩), .pointer (some ⟨x, 0, none⟩), .bool true]) (by simp [results, Try.results13, go_sem]) rfl ⟨d, x, own', ox', rfl, HEND.out⟩
end
end Go.Proofs.Ytbjlikppboggmaa
namespace Go.Proofs.Ytbjlikppboggmaa
open Go.RowKit Go.Maps
set_option linter.unusedVariables false
set_option maxRecDepth 100000

/-- No file is longer. -/
def LenLe (m : Nat) (r : RD) : Prop := ∀ f ∈ r.files, f.data.length ≤ m
section
variable {m k : Nat} {r r' : RD}
end
/-- A disk with power and room in which a name has a file. -/
structure HasF (r : RD) (s : ByteArray) (n : Nat) (f : Fl) : Prop where
  off : r.off = false
  stop : r.stop = -1
  quota : r.quota = 1073741824
  look : lookP ltS r.now s = some (numV n)
  file : r.files[n]? = some f
  now : r.now.length ≤ 1000
  len : LenLe 100000 r
section
variable {r : RD} {s : ByteArray} {n : Nat} {f : Fl}
theorem on_of (h1 : r.off = false) (h2 : r.stop = -1) : r.on = true ∧ r.powered = { r with calls := r.calls + 1 } := by
  constructor
  · unfold RD.on; rw [h1, h2]; rfl
  · unfold RD.powered
    rw [if_neg (by rw [h1]; exact fun e => by cases e), if_neg (by omega), if_neg (by omega)]
/-- A new name on a disk behind a loss. -/
theorem made (h1 : r.off = false) (h2 : r.stop = -1) (h3 : r.quota = 1073741824) (h4 : r.chs = []) (hs : nameOk s = true) (hr : Rises ltS r.sure) (hz : r.sure.length ≤ 900) (hl : LenLe 100000 r) : (r.create s).1 = 0 ∧ HasF (r.create s).2 s r.files.length ⟨[], 0⟩ := by
  have hn : r.now = r.sure := by unfold RD.now; rw [h4]; rfl
  have hb : r.begE [s] = 0 := by unfold RD.begE; rw [(on_of h1 h2).1]; simp [hs]
  have e : r.create s = (0, { r.powered with files := r.files ++ [⟨[], 0⟩], chs := r.chs ++ [[(s, numV r.files.length)]] }) := by
    unfold RD.create
    rw [if_pos hb, if_neg (by rw [hn]; omega)]
  have hlook : lookP ltS (putP ltS r.sure s (numV r.files.length)) s = some (numV r.files.length) := by
    rw [look_put orders_S hr]
    exact if_pos rfl
  have hlen : (putP ltS r.sure s (numV r.files.length)).length ≤ 1000 := by
    have h := (layAll_len [[(s, numV r.files.length)]] r.sure hr (fun c hc => by rw [List.mem_singleton] at hc; rw [hc]; exact Nat.le_succ _)).2
    have e : layAll r.sure [[(s, numV r.files.length)]] = putP ltS r.sure s (numV r.files.length) := by
      show layOne r.sure (s, numV r.files.length) = _
      exact layOne_put _ _ (fun e => by cases e)
    rw [e] at h
    simp only [List.length_cons, List.length_nil] at h
    omega
  rw [e, (on_of h1 h2).2]
  have hnow : RD.now { r with calls := r.calls + 1, files := r.files ++ [⟨[], 0⟩], chs := r.chs ++ [[(s, numV r.files.length)]] } = putP ltS r.sure s (numV r.files.length) := by
    unfold RD.now
    rw [h4]
    show layOne r.sure (s, numV r.files.length) = _
    exact layOne_put _ _ (fun e => by cases e)
  refine ⟨rfl, ⟨h1, h2, h3, by rw [hnow]; exact hlook, ?_, by rw [hnow]; exact hlen, ?_⟩⟩
  · show (r.files ++ [_])[r.files.length]? = _
    rw [List.getElem?_append_right (Nat.le_refl _), Nat.sub_self]
    rfl
  · intro g hg
    rcases List.mem_append.1 hg with q | q
    · exact hl g q
    · rw [List.mem_singleton] at q; rw [q]; exact Nat.zero_le _
end
end Go.Proofs.Ytbjlikppboggmaa
