/-
  The disk's calls, told of the document's disk: Create, Append, Sync, SyncDir, Rename, Remove, Stop, Quota, New.
  The disk's calls, told of the document's disk: Crash, Turn, Read, Used, Full, Off, Calls.
  A disk with one file: what the calls of the document's example answer there.
  The document's example (lives).
-/
import Derived.Test.YtbjlikppboggmaaZar
import Derived.Test.YtbjlikppboggmaaZaq
namespace Go.Proofs.Ytbjlikppboggmaa
open Go.RowKit Go.Maps
set_option linter.unusedVariables false
set_option maxRecDepth 100000

section
variable {w w' : World} {d : Nat} {own own' : Nat → Nat} {b : DBox} {F RA SA C : Option Addr} {fn fc rn rc sn sc cn cc : Nat} {fs css : List Value} {ps ss : List (ByteArray × Value)} {chl : List (List (ByteArray × Value))} {nm su : Value → Nat} {dt : Value → List Value} {r : RD}
theorem DiskIn.made_reads (H : DiskIn w d own b F fn fc RA rn rc SA sn sc C cn cc fs ps ss css chl nm dt su) (R : Reads r b fs ss chl nm dt su) (x : ByteArray) (fb : Nat) (b' : DBox) (hne : ∀ v ∈ fs, v ≠ .pointer (some ⟨fb, 0, none⟩))
    (e1 : b'.made = (r.files.length : Int) + 1) (e2 : b'.quota = (poweredB b).quota) (e3 : b'.full = (poweredB b).full) (e4 : b'.off = (poweredB b).off) (e5 : b'.ahead = (poweredB b).ahead) (e6 : b'.calls = (poweredB b).calls) :
    Reads { r.powered with files := r.files ++ [⟨[], 0⟩], chs := r.chs ++ [[(x, numV r.files.length)]] } b' (fs ++ [.pointer (some ⟨fb, 0, none⟩)]) ss (chl ++ [[(x, .pointer (some ⟨fb, 0, none⟩))]]) (updP nm fb r.files.length) (updP dt fb []) (updP su fb 0) := by
  have Rp := R.powered
  refine ⟨fun v hv => ?_, ?_, ?_, ?_, e2.trans Rp.quota, e3.trans Rp.full, e4.trans Rp.off, (by rw [e5]; exact Rp.stop), e6.trans Rp.calls⟩
  · show (r.files ++ [(⟨[], 0⟩ : Fl)])[_]? = _
    rcases List.mem_append.1 hv with h | h
    · rw [updP_ne _ _ _ _ (hne v h), updP_ne _ _ _ _ (hne v h), updP_ne _ _ _ _ (hne v h), List.getElem?_append_left (List.getElem?_eq_some_iff.1 (R.files v h)).1]
      exact R.files v h
    · rw [List.mem_singleton] at h
      rw [h, updP_same, updP_same, updP_same, List.getElem?_append_right (Nat.le_refl _), Nat.sub_self]
      rfl
  · show r.powered.sure = _
    rw [r.powered_sure, R.sure]
    exact (mapT_congr _ _ _ fun p hp _ => updP_ne _ _ _ _ (hne _ (H.sin p hp))).symm
  · show r.chs ++ _ = _
    rw [List.map_append, R.chs]
    congr 1
    · refine List.map_congr_left fun c hc => (mapT_congr _ _ _ fun p hp h => updP_ne _ _ _ _ (hne _ ?_)).symm
      rcases H.cin c hc p hp with h' | h'
      · exact absurd h' h
      · exact h'
    · show _ = [[(x, numV (updP nm fb r.files.length (.pointer (some ⟨fb, 0, none⟩))))]]
      rw [updP_same]
  · rw [e1]
    show _ = ((r.files ++ [(⟨[], 0⟩ : Fl)]).length : Int)
    rw [List.length_append]
    simp
theorem DiskIn.filed_reads (H : DiskIn w d own b F fn fc RA rn rc SA sn sc C cn cc fs ps ss css chl nm dt su) (R : Reads r b fs ss chl nm dt su) (f : Nat) (hf : Value.pointer (some ⟨f, 0, none⟩) ∈ fs) (xs : List Value) (s : Nat) (b' : DBox) (r' : RD) (Rp : Reads r' b' fs ss chl nm dt su) (hr : r'.files = r.files) :
    Reads { r' with files := r.files.set (nm (.pointer (some ⟨f, 0, none⟩))) ⟨xs, s⟩ } b' fs ss chl nm (updP dt f xs) (updP su f s) := by
  refine ⟨fun v hv => ?_, Rp.sure, Rp.chs, ?_, Rp.quota, Rp.full, Rp.off, Rp.stop, Rp.calls⟩
  · show (r.files.set _ _)[_]? = _
    by_cases e : v = .pointer (some ⟨f, 0, none⟩)
    · subst e
      rw [updP_same, updP_same, List.getElem?_set_self (List.getElem?_eq_some_iff.1 (R.files _ hf)).1]
    · rw [updP_ne _ _ _ _ e, updP_ne _ _ _ _ e, List.getElem?_set_ne (fun e' => e (rises_inj H.rises hf hv e').symm)]
      exact R.files v hv
  · rw [Rp.made, hr]
    show _ = ((r.files.set _ _).length : Int)
    rw [List.length_set]
theorem DiskIn.turned_reads (R : Reads r b fs ss chl nm dt su) (chs chs' : List (ByteArray × Value)) (he : mapT nm chs = chs') (b' : DBox)
    (e1 : b'.made = (poweredB b).made) (e2 : b'.quota = (poweredB b).quota) (e3 : b'.full = (poweredB b).full) (e4 : b'.off = (poweredB b).off) (e5 : b'.ahead = (poweredB b).ahead) (e6 : b'.calls = (poweredB b).calls) :
    Reads { r.powered with chs := r.chs ++ [chs'] } b' fs ss (chl ++ [chs]) nm dt su := by
  have Rp := R.powered
  refine ⟨Rp.files, Rp.sure, ?_, e1.trans Rp.made, e2.trans Rp.quota, e3.trans Rp.full, e4.trans Rp.off, (by rw [e5]; exact Rp.stop), e6.trans Rp.calls⟩
  show r.chs ++ _ = _
  rw [List.map_append, R.chs, ← he]
  rfl
end
section
variable {w w' : World} {d : Nat} {own own' : Nat → Nat} {r : RD}
theorem IsD.create (h : IsD w d own r) (hs : r.size + 4 ≤ 80000) (x : ByteArray) (hsz : x.size ≤ 1000000) :
    Calls Try.prog 16 #[.pointer (some ⟨d, 0, none⟩), .string x] w fun e w' => e = .returned (.int .i64 (r.create x).1) ∧ DNext w d own (r.create x).2 w' := by
  obtain ⟨hF, b, F, fn, fc, RA, rn, rc, SA, sn, sc, C, cn, cc, fs, ps, ss, css, chl, nm, dt, su, H, R⟩ := h
  obtain ⟨l1, l2, l3, l4⟩ := H.rlen R
  have hcl := R.calls
  unfold RD.size at hs
  have hb : b.calls < 80000 := by omega
  have hE := R.begE [x]
  have hh : hasP ltS r.now x = hasP ltS ps x := by rw [H.rnow R, has_tag]
  by_cases h0 : beginE b [x] = 0
  · have h0' : r.begE [x] = 0 := by rw [← hE]; exact h0
    by_cases hbig : hasP ltS ps x = false ∧ 1024 ≤ rn
    · have e : r.create x = (2, r.powered) := by
        unfold RD.create
        rw [if_pos h0', if_pos ⟨hh.trans hbig.1, by omega⟩]
      rw [e]
      refine (H.create_big hb x hsz h0 hbig.1 hbig.2).mono ?_
      rintro e' w' ⟨rfl, O, H'⟩
      exact ⟨rfl, DNext.of hF O H' R.powered⟩
    · have e : r.create x = (0, { r.powered with files := r.files ++ [⟨[], 0⟩], chs := r.chs ++ [[(x, numV r.files.length)]] }) := by
        unfold RD.create
        rw [if_pos h0', if_neg]
        rintro ⟨q1, q2⟩
        exact hbig ⟨hh.symm.trans q1, by omega⟩
      rw [e]
      refine (H.create_yes hb r.files.length R.made (by omega) (by omega) (by omega) x hsz h0 (by
        cases hq : hasP ltS ps x with
        | true => exact .inl rfl
        | false => exact .inr (by rcases Nat.lt_or_ge rn 1024 with q | q; exact q; exact absurd ⟨hq, q⟩ hbig))).mono ?_
      rintro e' w' ⟨rfl, own', F', fc', fb, A', n', c', C', cc', pb, O, H'⟩
      refine ⟨rfl, DNext.of hF O H' (H.made_reads R x fb _ (fun v hv e => ?_) rfl rfl rfl rfl rfl rfl)⟩
      have := (List.pairwise_append.1 H'.rises).2.2 v hv _ (List.mem_singleton.2 rfl)
      rw [e] at this
      omega
  · have e : r.create x = (r.begE [x], r.powered) := by
      unfold RD.create
      rw [if_neg (by rw [← hE]; exact h0)]
    rw [e, ← hE]
    refine (H.create_no hb x hsz h0).mono ?_
    rintro e' w' ⟨rfl, O, H'⟩
    exact ⟨rfl, DNext.of hF O H' R.powered⟩
theorem IsD.append (h : IsD w d own r) (hs : r.size + 4 ≤ 80000) (x : ByteArray) (hsz : x.size ≤ 1000000) (BA : Option Addr) (bn bc : Nat) (hbn : bn ≤ 10000000) (news : List Value) (hnl : news.length = bn) (hnews : ∀ u ∈ news, ∃ z : Int, 0 ≤ z ∧ z < 256 ∧ u = .int .u8 z) (hsrc : ∀ W, Chg [d] w W → Src Try.prog 1 29 (.slice BA bn bc) bn news W) :
    Calls Try.prog 17 #[.pointer (some ⟨d, 0, none⟩), .string x, .slice BA bn bc] w fun e w' => e = .returned (.int .i64 (r.append x news).1) ∧ DNext w d own (r.append x news).2 w' := by
  obtain ⟨hF, b, F, fn, fc, RA, rn, rc, SA, sn, sc, C, cn, cc, fs, ps, ss, css, chl, nm, dt, su, H, R⟩ := h
  obtain ⟨l1, l2, l3, l4⟩ := H.rlen R
  have hcl := R.calls
  unfold RD.size at hs
  have hb : b.calls < 80000 := by omega
  have hE := H.rwit R [x] x
  by_cases h0 : withE b [x] ps x = 0
  · have h0' : r.witE [x] x = 0 := by rw [← hE]; exact h0
    have hlk := withF_look b [x] ps x h0
    have hm := H.look x _ hlk
    obtain ⟨f, hf⟩ := H.ptr _ hm
    obtain ⟨n1, n2⟩ := H.rnum R x _ hlk
    rw [hf] at n1 n2 hm
    by_cases hbig : 1048576 < (dt (.pointer (some ⟨f, 0, none⟩))).length + bn
    · have e : r.append x news = (2, r.powered) := by
        unfold RD.append
        rw [if_pos h0', if_pos (by rw [n2, hnl]; exact hbig)]
      rw [e]
      refine (H.append_big hb x hsz h0 f hf BA bn bc hbn hbig).mono ?_
      rintro e' w' ⟨rfl, O, H'⟩
      exact ⟨rfl, DNext.of hF O H' R.powered⟩
    · by_cases hfull : b.quota < (usedO dt ps : Int) + (bn : Int)
      · have e : r.append x news = (4, { r.powered with full := true }) := by
          unfold RD.append
          rw [if_pos h0', if_neg (by rw [n2, hnl]; exact hbig), if_pos (by rw [← R.quota, H.rused R, hnl]; exact hfull)]
        rw [e]
        refine (H.append_full hb x hsz h0 f hf BA bn bc (by omega) hfull).mono ?_
        rintro e' w' ⟨rfl, O, H'⟩
        have Rp := R.powered
        exact ⟨rfl, DNext.of hF O H' ⟨Rp.files, Rp.sure, Rp.chs, Rp.made, Rp.quota, rfl, Rp.off, Rp.stop, Rp.calls⟩⟩
      · have e : r.append x news = (0, { r.powered with files := r.files.set (r.num x) ⟨(r.get x).data ++ news, (r.get x).sure⟩ }) := by
          unfold RD.append
          rw [if_pos h0', if_neg (by rw [n2, hnl]; exact hbig), if_neg (by rw [← R.quota, H.rused R, hnl]; exact hfull)]
        rw [e, n1, n2]
        refine (H.append_yes hb x hsz h0 f hf BA bn bc (by omega) (by omega) news hnews hsrc).mono ?_
        rintro e' w' ⟨rfl, own', O, H'⟩
        exact ⟨rfl, DNext.of hF O H' (H.filed_reads R f hm _ _ _ _ R.powered r.powered_files)⟩
  · have e : r.append x news = (r.witE [x] x, r.powered) := by
      unfold RD.append
      rw [if_neg (by rw [← hE]; exact h0)]
    rw [e, ← hE]
    refine (H.append_no hb x hsz h0 BA bn bc).mono ?_
    rintro e' w' ⟨rfl, O, H'⟩
    exact ⟨rfl, DNext.of hF O H' R.powered⟩
theorem IsD.sync (h : IsD w d own r) (hs : r.size + 4 ≤ 80000) (x : ByteArray) (hsz : x.size ≤ 1000000) :
    Calls Try.prog 18 #[.pointer (some ⟨d, 0, none⟩), .string x] w fun e w' => e = .returned (.int .i64 (r.sync x).1) ∧ DNext w d own (r.sync x).2 w' := by
  obtain ⟨hF, b, F, fn, fc, RA, rn, rc, SA, sn, sc, C, cn, cc, fs, ps, ss, css, chl, nm, dt, su, H, R⟩ := h
  have hcl := R.calls
  unfold RD.size at hs
  have hb : b.calls < 80000 := by omega
  have hE := H.rwit R [x] x
  by_cases h0 : withE b [x] ps x = 0
  · have h0' : r.witE [x] x = 0 := by rw [← hE]; exact h0
    have hlk := withF_look b [x] ps x h0
    have hm := H.look x _ hlk
    obtain ⟨f, hf⟩ := H.ptr _ hm
    obtain ⟨n1, n2⟩ := H.rnum R x _ hlk
    rw [hf] at n1 n2 hm
    have e : r.sync x = (0, { r.powered with files := r.files.set (r.num x) ⟨(r.get x).data, (r.get x).data.length⟩ }) := by
      unfold RD.sync
      rw [if_pos h0']
    rw [e, n1, n2]
    refine (H.sync_yes hb x hsz h0 f hf).mono ?_
    rintro e' w' ⟨rfl, own', O, H'⟩
    exact ⟨rfl, DNext.of hF O H' (H.filed_reads R f hm _ _ _ _ R.powered r.powered_files)⟩
  · have e : r.sync x = (r.witE [x] x, r.powered) := by
      unfold RD.sync
      rw [if_neg (by rw [← hE]; exact h0)]
    rw [e, ← hE]
    refine (H.sync_no hb x hsz h0).mono ?_
    rintro e' w' ⟨rfl, O, H'⟩
    exact ⟨rfl, DNext.of hF O H' R.powered⟩
theorem IsD.syncDir (h : IsD w d own r) (hs : r.size + 4 ≤ 80000) :
    Calls Try.prog 19 #[.pointer (some ⟨d, 0, none⟩)] w fun e w' => e = .returned (.int .i64 r.syncDir.1) ∧ DNext w d own r.syncDir.2 w' := by
  obtain ⟨hF, b, F, fn, fc, RA, rn, rc, SA, sn, sc, C, cn, cc, fs, ps, ss, css, chl, nm, dt, su, H, R⟩ := h
  have hcl := R.calls
  unfold RD.size at hs
  have hb : b.calls < 80000 := by omega
  have hE := R.on
  cases hp : powerB b with
  | true =>
    have e : r.syncDir = (0, { r.powered with sure := r.now, chs := [] }) := by
      unfold RD.syncDir
      rw [if_pos (by rw [← hE]; exact hp)]
    rw [e]
    refine (H.syncDir_on hb hp).mono ?_
    rintro e' w' ⟨rfl, own', A2, n2, c2, A3, n3, c3, kf, O, H'⟩
    have Rp := R.powered
    exact ⟨rfl, DNext.of hF O H' ⟨fun v hv => Rp.files v (List.mem_filter.1 hv).1, H.rnow R, rfl, Rp.made, Rp.quota, Rp.full, Rp.off, Rp.stop, Rp.calls⟩⟩
  | false =>
    have e : r.syncDir = (5, r.powered) := by
      unfold RD.syncDir
      rw [if_neg (by rw [← hE, hp]; exact fun e => by cases e)]
    rw [e]
    refine (H.syncDir_off hb hp).mono ?_
    rintro e' w' ⟨rfl, O, H'⟩
    exact ⟨rfl, DNext.of hF O H' R.powered⟩
theorem IsD.rename (h : IsD w d own r) (hs : r.size + 4 ≤ 80000) (x y : ByteArray) (hsz : x.size ≤ 1000000) (hsz2 : y.size ≤ 1000000) :
    Calls Try.prog 34 #[.pointer (some ⟨d, 0, none⟩), .string x, .string y] w fun e w' => e = .returned (.int .i64 (r.rename x y).1) ∧ DNext w d own (r.rename x y).2 w' := by
  obtain ⟨hF, b, F, fn, fc, RA, rn, rc, SA, sn, sc, C, cn, cc, fs, ps, ss, css, chl, nm, dt, su, H, R⟩ := h
  obtain ⟨l1, l2, l3, l4⟩ := H.rlen R
  have hcl := R.calls
  unfold RD.size at hs
  have hb : b.calls < 80000 := by omega
  have hE := H.rwit R [x, y] x
  by_cases h0 : withE b [x, y] ps x = 0
  · have h0' : r.witE [x, y] x = 0 := by rw [← hE]; exact h0
    have hlk := withF_look b [x, y] ps x h0
    have hm := H.look x _ hlk
    obtain ⟨n1, n2⟩ := H.rnum R x _ hlk
    have e : r.rename x y = (0, { r.powered with chs := r.chs ++ [[(x, .pointer none), (y, numV (r.num x))]] }) := by
      unfold RD.rename
      rw [if_pos h0']
    rw [e]
    refine (H.rename_yes hb (by omega) x y hsz hsz2 h0).mono ?_
    rintro e' w' ⟨rfl, own', A', n', c', C', cc', pb, O, H'⟩
    refine ⟨rfl, DNext.of hF O H' (DiskIn.turned_reads R _ _ ?_ _ rfl rfl rfl rfl rfl rfl)⟩
    show [(x, Value.pointer none), (y, tag nm _)] = _
    rw [tag_some _ _ (H.ne _ hm), ← n1]
  · have e : r.rename x y = (r.witE [x, y] x, r.powered) := by
      unfold RD.rename
      rw [if_neg (by rw [← hE]; exact h0)]
    rw [e, ← hE]
    refine (H.rename_no hb x y hsz hsz2 h0).mono ?_
    rintro e' w' ⟨rfl, O, H'⟩
    exact ⟨rfl, DNext.of hF O H' R.powered⟩
theorem IsD.remove (h : IsD w d own r) (hs : r.size + 4 ≤ 80000) (x : ByteArray) (hsz : x.size ≤ 1000000) :
    Calls Try.prog 35 #[.pointer (some ⟨d, 0, none⟩), .string x] w fun e w' => e = .returned (.int .i64 (r.remove x).1) ∧ DNext w d own (r.remove x).2 w' := by
  obtain ⟨hF, b, F, fn, fc, RA, rn, rc, SA, sn, sc, C, cn, cc, fs, ps, ss, css, chl, nm, dt, su, H, R⟩ := h
  obtain ⟨l1, l2, l3, l4⟩ := H.rlen R
  have hcl := R.calls
  unfold RD.size at hs
  have hb : b.calls < 80000 := by omega
  have hE := H.rwit R [x] x
  by_cases h0 : withE b [x] ps x = 0
  · have h0' : r.witE [x] x = 0 := by rw [← hE]; exact h0
    have e : r.remove x = (0, { r.powered with chs := r.chs ++ [[(x, .pointer none)]] }) := by
      unfold RD.remove
      rw [if_pos h0']
    rw [e]
    refine (H.remove_yes hb (by omega) x hsz h0).mono ?_
    rintro e' w' ⟨rfl, own', A', n', c', C', cc', pb, O, H'⟩
    exact ⟨rfl, DNext.of hF O H' (DiskIn.turned_reads R [(x, .pointer none)] [(x, .pointer none)] rfl _ rfl rfl rfl rfl rfl rfl)⟩
  · have e : r.remove x = (r.witE [x] x, r.powered) := by
      unfold RD.remove
      rw [if_neg (by rw [← hE]; exact h0)]
    rw [e, ← hE]
    refine (H.remove_no hb x hsz h0).mono ?_
    rintro e' w' ⟨rfl, O, H'⟩
    exact ⟨rfl, DNext.of hF O H' R.powered⟩
theorem IsD.stop (h : IsD w d own r) (k : Int) (hk : k ≤ 9223372036854775807) :
    Calls Try.prog 29 #[.pointer (some ⟨d, 0, none⟩), .int .i64 k] w fun e w' => (∃ v, e = .returned v) ∧ DNext w d own (r.stopAt k) w' := by
  obtain ⟨hF, b, F, fn, fc, RA, rn, rc, SA, sn, sc, C, cn, cc, fs, ps, ss, css, chl, nm, dt, su, H, R⟩ := h
  refine (H.stop k hk).mono ?_
  rintro e w' ⟨he, O, H'⟩
  exact ⟨he, DNext.of hF O H' ⟨R.files, R.sure, R.chs, R.made, R.quota, R.full, R.off, rfl, R.calls⟩⟩
theorem IsD.quotaTo (h : IsD w d own r) (n : Int) (hn : -9223372036854775808 ≤ n ∧ n ≤ 9223372036854775807) :
    Calls Try.prog 15 #[.pointer (some ⟨d, 0, none⟩), .int .i64 n] w fun e w' => (∃ v, e = .returned v) ∧ DNext w d own (r.quotaTo n) w' := by
  obtain ⟨hF, b, F, fn, fc, RA, rn, rc, SA, sn, sc, C, cn, cc, fs, ps, ss, css, chl, nm, dt, su, H, R⟩ := h
  refine (H.quotaTo n hn).mono ?_
  rintro e w' ⟨he, O, H'⟩
  exact ⟨he, DNext.of hF O H' ⟨R.files, R.sure, R.chs, R.made, rfl, rfl, R.off, R.stop, R.calls⟩⟩
end
theorem IsD.new (q : Int) (hq : q ≤ 9223372036854775807) (w : World) : Calls Try.prog 7 #[.int .i64 q] w fun e w' =>
    e = .returned (.pointer (some ⟨w.heap.size, 0, none⟩)) ∧ ∃ own', (∀ i, i < w.heap.size → own' i = 0) ∧ IsD w' w.heap.size own' (RD.fresh q) ∧ Below w.heap.size w w' := by
  refine (DiskIn.new q hq w (fun _ => 0) (fun _ => 0) (fun _ => 0) (fun _ => [])).mono ?_
  rintro e w' ⟨rfl, own', ho, H, hB⟩
  refine ⟨rfl, fun i => if i < w'.heap.size then own' i else 0, fun i hi => (if_pos (by have := hB.size; omega)).trans (ho i hi), ?_, hB⟩
  exact ⟨fun i hi => if_neg (by omega), _, _, _, _, _, _, _, _, _, _, _, _, _, _, _, _, _, _, _, _, _, H.carry (Nat.le_refl _) (fun i hi => if_pos hi) (fun i hi _ => rfl), ⟨fun v hv => (by cases hv), rfl, rfl, rfl, rfl, rfl, rfl, rfl, rfl⟩⟩
end Go.Proofs.Ytbjlikppboggmaa
namespace Go.Proofs.Ytbjlikppboggmaa
open Go.RowKit Go.Maps
set_option linter.unusedVariables false
set_option maxRecDepth 100000

theorem Only.of_below {w w' : World} (own : Nat → Nat) (hB : Below w.heap.size w w') : Only own w own w' := ⟨hB.mono (Nat.zero_le _), fun _ _ => rfl, fun i hi _ => hB.block i hi⟩
theorem DNext.still {w w' : World} {d : Nat} {own : Nat → Nat} {r : RD} (h : IsD w d own r) (hB : Below w.heap.size w w') : DNext w d own r w' := ⟨own, Only.of_below own hB, h.below hB⟩
section
variable {w w' : World} {d : Nat} {own own' : Nat → Nat} {r : RD}
theorem IsD.crash (h : IsD w d own r) (dir : Int) (hdir : -9223372036854775808 ≤ dir ∧ dir ≤ 9223372036854775807) (KA : Option Addr) (kn kc : Nat) (zs : List Int) (hK : ZsAt w KA kn zs) (hkn : kn ≤ 1000000) (hKo : 0 < kn → ∀ k ∈ blk KA, own k = 0) (hzs : ∀ z ∈ zs, z ≤ 9223372036854775807) :
    Calls Try.prog 14 #[.pointer (some ⟨d, 0, none⟩), .agg #[.int .i64 dir, .slice KA kn kc]] w fun e w' => (∃ v, e = .returned v) ∧ DNext w d own (r.crash dir zs) w' := by
  obtain ⟨hF, b, F, fn, fc, RA, rn, rc, SA, sn, sc, C, cn, cc, fs, ps, ss, css, chl, nm, dt, su, H, R⟩ := h
  obtain ⟨Rr, hRr⟩ : ∃ Rr, layAll ss (chl.take (min (max dir 0) (cn : Int)).toNat) = Rr := ⟨_, rfl⟩
  have hcl : chl.length = cn := by have := H.chs.1; have := H.cline.1; omega
  have htk : chl.take dir.toNat = chl.take (min (max dir 0) (cn : Int)).toNat := by
    rcases Nat.lt_or_ge dir.toNat cn with q | q
    · congr 1
      omega
    · rw [List.take_of_length_le (by omega), List.take_of_length_le (by omega)]
  have hleft : r.left dir = mapT nm Rr := by
    unfold RD.left
    rw [R.sure, R.chs, ← List.map_take, ← layAll_tag, htk, hRr]
  have hin : ∀ p ∈ Rr, p.2 ∈ fs := by
    rw [← hRr]
    exact layAll_in _ _ H.sin (fun c hc => H.cin c (List.mem_of_mem_take hc))
  have hnums : (r.left dir).map (fun p => numOf p.2) = Rr.map fun p => nm p.2 := by
    rw [hleft]
    unfold mapT
    rw [List.map_map]
    refine List.map_congr_left fun p hp => ?_
    show numOf (tag nm p.2) = _
    rw [tag_some _ _ (H.ne _ (hin p hp)), numOf_numV]
  obtain ⟨fs1, hfs1⟩ : ∃ fs1, fs.filter (keepV nm (Rr.map fun p => nm p.2)) = fs1 := ⟨_, rfl⟩
  have hkeep : fs1.map nm = r.keep dir := by
    refine rises_eq _ _ ?_ ?_ fun i => ?_
    · rw [← hfs1]
      exact List.pairwise_map.2 (H.rises.filter _)
    · unfold RD.keep
      exact List.pairwise_lt_range.filter _
    · unfold RD.keep
      rw [List.mem_filter, List.mem_range, decide_eq_true_eq, hnums, List.mem_map]
      constructor
      · rintro ⟨v, hv, rfl⟩
        rw [← hfs1, List.mem_filter] at hv
        obtain ⟨h1, h2⟩ := hv
        unfold keepV at h2
        exact ⟨(List.getElem?_eq_some_iff.1 (R.files v h1)).1, of_decide_eq_true h2⟩
      · rintro ⟨h1, h2⟩
        obtain ⟨p, hp, e⟩ := List.mem_map.1 h2
        refine ⟨p.2, ?_, e⟩
        rw [← hfs1, List.mem_filter]
        unfold keepV
        exact ⟨hin p hp, decide_eq_true (List.mem_map.2 ⟨p, hp, rfl⟩)⟩
  refine (H.crash dir hdir KA kn kc zs hK hkn hKo hzs Rr hRr fs1 hfs1).mono ?_
  rintro e w' ⟨he, own', A2, n2, c2, A3, n3, c3, kf, O, H'⟩
  have hr1 : fs1.Pairwise fun u v => nm u < nm v := by rw [← hfs1]; exact H.rises.filter _
  refine ⟨he, DNext.of hF O H' ⟨fun v hv => ?_, ?_, rfl, ?_, R.quota, rfl, rfl, rfl, R.calls⟩⟩
  · obtain ⟨i, hi, ei⟩ := List.mem_iff_getElem.1 hv
    have hi' : fs1[i]? = some v := by rw [List.getElem?_eq_getElem hi, ei]
    rw [standN_eq nm v fs1 hr1 i hi']
    have hk : (r.keep dir)[i]? = some (nm v) := by rw [← hkeep, List.getElem?_map, hi']; rfl
    have hvf : v ∈ fs := by rw [← hfs1] at hv; exact (List.mem_filter.1 hv).1
    show ((r.keep dir).map _)[i]? = _
    rw [List.getElem?_map, hk]
    have hfile : r.file (nm v) = ⟨dt v, su v⟩ := by unfold RD.file; rw [List.getD_eq_getElem?_getD, R.files v hvf]; rfl
    show some (RD.cutF zs (nm v) (r.file (nm v))) = _
    rw [hfile]
    rfl
  · show (r.left dir).map _ = _
    rw [hleft]
    unfold mapT
    rw [List.map_map]
    refine List.map_congr_left fun p hp => ?_
    have hne := H.ne _ (hin p hp)
    show (p.1, numV ((r.keep dir).filter fun u => decide (u < numOf (tag nm p.2))).length) = (p.1, tag (standN fs1 nm) p.2)
    rw [tag_some _ _ hne, tag_some _ _ hne, numOf_numV, ← hkeep, List.filter_map, List.length_map]
    rfl
  · have h1 := H'.line.1
    show (kf : Int) = (((r.keep dir).map _).length : Int)
    rw [List.length_map, ← hkeep, List.length_map]
    omega
theorem IsD.turn (h : IsD w d own r) (x : ByteArray) (at_ : Int) (hat : -9223372036854775808 ≤ at_ ∧ at_ ≤ 9223372036854775807) (mask : Nat) (hmask : mask < 256) :
    Calls Try.prog 32 #[.pointer (some ⟨d, 0, none⟩), .string x, .int .i64 at_, .int .u8 (mask : Int)] w fun e w' => e = .returned (.bool (r.turns x at_)) ∧ DNext w d own (r.turn x at_ mask) w' := by
  have h0 := h
  obtain ⟨hF, b, F, fn, fc, RA, rn, rc, SA, sn, sc, C, cn, cc, fs, ps, ss, css, chl, nm, dt, su, H, R⟩ := h
  have hh : hasP ltS r.now x = hasP ltS ps x := by rw [H.rnow R, has_tag]
  cases hl : lookP ltS ps x with
  | none =>
    have hno : hasP ltS ps x = false := by unfold hasP; rw [hl]; rfl
    have e : r.turns x at_ = false := by unfold RD.turns; rw [hh, hno]; rfl
    have e2 : r.turn x at_ mask = r := by unfold RD.turn; rw [e]; exact if_neg (fun h => by cases h)
    rw [e, e2]
    refine (H.turn_no x hno at_ hat mask).mono ?_
    rintro e w' ⟨rfl, hB⟩
    exact ⟨rfl, DNext.still h0 hB⟩
  | some v =>
    have hyes : hasP ltS ps x = true := by unfold hasP; rw [hl]; rfl
    have hm := H.look x _ hl
    obtain ⟨f, rfl⟩ := H.ptr _ hm
    obtain ⟨n1, n2⟩ := H.rnum R x _ hl
    by_cases hout : at_ < 0 ∨ ((dt (.pointer (some ⟨f, 0, none⟩))).length : Int) ≤ at_
    · have e : r.turns x at_ = false := by
        unfold RD.turns
        rw [hh, hyes, n2, Bool.true_and, decide_eq_false_iff_not]
        show ¬ (0 ≤ at_ ∧ at_ < ((dt _).length : Int))
        omega
      have e2 : r.turn x at_ mask = r := by unfold RD.turn; rw [e]; exact if_neg (fun h => by cases h)
      rw [e, e2]
      refine (H.turn_out x _ hl at_ hat hout mask).mono ?_
      rintro e w' ⟨rfl, hB⟩
      exact ⟨rfl, DNext.still h0 hB⟩
    · obtain ⟨k, rfl⟩ : ∃ k : Nat, at_ = (k : Int) := ⟨at_.toNat, by omega⟩
      have e : r.turns x (k : Int) = true := by
        unfold RD.turns
        rw [hh, hyes, n2, Bool.true_and, decide_eq_true_eq]
        show 0 ≤ (k : Int) ∧ (k : Int) < ((dt _).length : Int)
        omega
      refine (H.turn_yes x f hl k (by omega) mask hmask).mono ?_
      rintro e' w' ⟨rfl, u, hu, hu2, own', O, H'⟩
      rw [e]
      have e2 : r.turn x (k : Int) mask = { r with files := r.files.set (nm (.pointer (some ⟨f, 0, none⟩))) ⟨(dt (.pointer (some ⟨f, 0, none⟩))).set k (.int .u8 ((u ^^^ mask : Nat) : Int)), su (.pointer (some ⟨f, 0, none⟩))⟩ } := by
        unfold RD.turn
        rw [if_pos e, n1, n2]
        show { r with files := r.files.set _ ⟨(dt (.pointer (some ⟨f, 0, none⟩))).set ((k : Int)).toNat (xorV mask ((dt (.pointer (some ⟨f, 0, none⟩))).getD ((k : Int)).toNat (.int .u8 0))), _⟩ } = _
        rw [Int.toNat_natCast, List.getD_eq_getElem?_getD, hu]
        show { r with files := r.files.set _ ⟨(dt (.pointer (some ⟨f, 0, none⟩))).set k (.int .u8 ((((u : Int)).toNat ^^^ mask : Nat) : Int)), _⟩ } = _
        rw [Int.toNat_natCast]
      rw [e2]
      exact ⟨rfl, DNext.of hF O H' (H.filed_reads R f hm _ _ _ _ R rfl)⟩
theorem IsD.bytes (h : IsD w d own r) (x : ByteArray) (hx : hasP ltS r.now x = true) : (∀ u ∈ (r.get x).data, ∃ z : Int, 0 ≤ z ∧ z < 256 ∧ u = .int .u8 z) ∧ (r.get x).data.length ≤ 1048576 ∧ (r.get x).sure ≤ (r.get x).data.length := by
  obtain ⟨hF, b, F, fn, fc, RA, rn, rc, SA, sn, sc, C, cn, cc, fs, ps, ss, css, chl, nm, dt, su, H, R⟩ := h
  have hh : hasP ltS r.now x = hasP ltS ps x := by rw [H.rnow R, has_tag]
  rw [hh] at hx
  unfold hasP at hx
  obtain ⟨v, hv⟩ := Option.isSome_iff_exists.1 hx
  obtain ⟨n1, n2⟩ := H.rnum R x _ hv
  have hm := H.look x _ hv
  obtain ⟨f, A, n, c, rfl, hf7, hfa, hsl, hoA, hn1, hsu⟩ := H.file _ hm
  have h1 := hsl.1
  rw [n2]
  exact ⟨H.bytes _ hm, by show (dt _).length ≤ _; omega, by show su _ ≤ (dt _).length; omega⟩
theorem IsD.read_yes (h : IsD w d own r) (x : ByteArray) (hx : hasP ltS r.now x = true) :
    Calls Try.prog 20 #[.pointer (some ⟨d, 0, none⟩), .string x] w fun e w' => (∃ A' c', e = .returned (.tuple #[.slice A' (r.get x).data.length c', .int .i64 0]) ∧ SLine 1 w' A' (r.get x).data.length c' (r.get x).data ∧ (∀ k ∈ blk A', w.heap.size ≤ k)) ∧ Below w.heap.size w w' := by
  obtain ⟨hF, b, F, fn, fc, RA, rn, rc, SA, sn, sc, C, cn, cc, fs, ps, ss, css, chl, nm, dt, su, H, R⟩ := h
  have hh : hasP ltS r.now x = hasP ltS ps x := by rw [H.rnow R, has_tag]
  rw [hh] at hx
  unfold hasP at hx
  obtain ⟨v, hv⟩ := Option.isSome_iff_exists.1 hx
  obtain ⟨n1, n2⟩ := H.rnum R x _ hv
  rw [n2]
  refine (H.read_yes x v hv).mono ?_
  rintro e w' ⟨A', c', h1, h2, h3, h4⟩
  exact ⟨⟨A', c', h1, h2, h3⟩, h4⟩
theorem IsD.read_no (h : IsD w d own r) (x : ByteArray) (hx : hasP ltS r.now x = false) :
    Calls Try.prog 20 #[.pointer (some ⟨d, 0, none⟩), .string x] w fun e w' => e = .returned (.tuple #[.slice none 0 0, .int .i64 3]) ∧ Below w.heap.size w w' := by
  obtain ⟨hF, b, F, fn, fc, RA, rn, rc, SA, sn, sc, C, cn, cc, fs, ps, ss, css, chl, nm, dt, su, H, R⟩ := h
  have hh : hasP ltS r.now x = hasP ltS ps x := by rw [H.rnow R, has_tag]
  exact H.read_no x (hh.symm.trans hx)
theorem IsD.isOff (h : IsD w d own r) : Calls Try.prog 22 #[.pointer (some ⟨d, 0, none⟩)] w fun e w' => e = .returned (.bool r.off) ∧ w = w' := by
  obtain ⟨hF, b, F, fn, fc, RA, rn, rc, SA, sn, sc, C, cn, cc, fs, ps, ss, css, chl, nm, dt, su, H, R⟩ := h
  rw [← R.off]
  exact doff_any w d b H.box
theorem IsD.isFull (h : IsD w d own r) : Calls Try.prog 23 #[.pointer (some ⟨d, 0, none⟩)] w fun e w' => e = .returned (.bool r.full) ∧ w = w' := by
  obtain ⟨hF, b, F, fn, fc, RA, rn, rc, SA, sn, sc, C, cn, cc, fs, ps, ss, css, chl, nm, dt, su, H, R⟩ := h
  rw [← R.full]
  exact dfull_any w d b H.box
theorem IsD.allCalls (h : IsD w d own r) : Calls Try.prog 31 #[.pointer (some ⟨d, 0, none⟩)] w fun e w' => e = .returned (.int .i64 (r.calls : Int)) ∧ w = w' := by
  obtain ⟨hF, b, F, fn, fc, RA, rn, rc, SA, sn, sc, C, cn, cc, fs, ps, ss, css, chl, nm, dt, su, H, R⟩ := h
  rw [← R.calls]
  exact dcalls_any w d b H.box
theorem IsD.isUsed (h : IsD w d own r) : Calls Try.prog 30 #[.pointer (some ⟨d, 0, none⟩)] w fun e w' => e = .returned (.int .i64 (r.used : Int)) ∧ Below w.heap.size w w' := by
  obtain ⟨hF, b, F, fn, fc, RA, rn, rc, SA, sn, sc, C, cn, cc, fs, ps, ss, css, chl, nm, dt, su, H, R⟩ := h
  rw [H.rused R]
  exact used_any w d RA rn rc ps H.nowAt.rowAt (by have := H.nowAt.len; omega) _ H.filesIn H.usedLe
end
/-- How great a call leaves a disk. -/
theorem RD.powered_size (r : RD) : r.powered.size ≤ r.size + 1 := by unfold RD.size; rw [r.powered_files, r.powered_sure, r.powered_chs]; have := r.powered_calls; omega
theorem lay_len (r : RD) (hr : Rises ltS r.sure) (hc : ∀ c ∈ r.chs, c.length ≤ 2) (k : Nat) : (layAll r.sure (r.chs.take k)).length ≤ r.sure.length + 2 * r.chs.length := by
  have h := (layAll_len (r.chs.take k) r.sure hr (fun c h => hc c (List.mem_of_mem_take h))).2
  have : (r.chs.take k).length ≤ r.chs.length := by rw [List.length_take]; omega
  omega
theorem IsD.shape {w : World} {d : Nat} {own : Nat → Nat} {r : RD} (h : IsD w d own r) : Rises ltS r.sure ∧ (∀ c ∈ r.chs, c.length ≤ 2) ∧ Rises ltS r.now := by
  obtain ⟨hF, b, F, fn, fc, RA, rn, rc, SA, sn, sc, C, cn, cc, fs, ps, ss, css, chl, nm, dt, su, H, R⟩ := h
  have hm : ∀ l : List (ByteArray × Value), Rises ltS l → Rises ltS (mapT nm l) := fun l hl => List.pairwise_map.2 hl
  refine ⟨by rw [R.sure]; exact hm _ H.srow.rises, fun c hc => ?_, by rw [H.rnow R]; exact hm _ H.nrow.rises⟩
  rw [R.chs] at hc
  obtain ⟨c', h1, rfl⟩ := List.mem_map.1 hc
  unfold mapT
  rw [List.length_map]
  exact H.chs.two c' h1
end Go.Proofs.Ytbjlikppboggmaa
namespace Go.Proofs.Ytbjlikppboggmaa
open Go.RowKit Go.Maps
set_option linter.unusedVariables false
set_option maxRecDepth 100000

theorem look_one (x : ByteArray) (v : Value) : lookP ltS [(x, v)] x = some v := by
  unfold lookP
  rw [List.find?_cons_of_pos (by simp [orders_S.irr])]
  rfl
theorem put_nil (x : ByteArray) (v : Value) : putP ltS [] x v = [(x, v)] := rfl
/-- A disk with one file, x, of n bytes, s of them sure; its power on. -/
def One (x : ByteArray) (q : Int) (w : World) (d : Nat) (own : Nat → Nat) (k n s : Nat) (st : Bool) : Prop :=
  ∃ b F fc RA rc SA sn sc C cn cc f ss css chl nm dt su, DiskIn w d own b F 1 fc RA 1 rc SA sn sc C cn cc [.pointer (some ⟨f, 0, none⟩)] [(x, .pointer (some ⟨f, 0, none⟩))] ss css chl nm dt su ∧
    b.calls = (k : Int) ∧ b.ahead = -1 ∧ b.off = false ∧ b.quota = q ∧ (dt (.pointer (some ⟨f, 0, none⟩))).length = n ∧ su (.pointer (some ⟨f, 0, none⟩)) = s ∧ nm (.pointer (some ⟨f, 0, none⟩)) = 0 ∧ (st = true → ss = [(x, .pointer (some ⟨f, 0, none⟩))] ∧ cn = 0)
theorem One.below {x : ByteArray} {q : Int} {w w' : World} {d k n s : Nat} {own : Nat → Nat} {st : Bool} (h : One x q w d own k n s st) (hB : Below w.heap.size w w') (own' : Nat → Nat) (ho : ∀ i, i < w.heap.size → own' i = own i) : One x q w' d own' k n s st := by
  obtain ⟨b, F, fc, RA, rc, SA, sn, sc, C, cn, cc, f, ss, css, chl, nm, dt, su, H, h⟩ := h
  exact ⟨b, F, fc, RA, rc, SA, sn, sc, C, cn, cc, f, ss, css, chl, nm, dt, su, H.carry hB.size ho (fun i hi _ => hB.block i hi), h⟩
theorem begin_one (b : DBox) (x : ByteArray) (hx : nameOk x = true) (ha : b.ahead = -1) (ho : b.off = false) : beginE b [x] = 0 := by unfold beginE powerB; rw [ha, ho]; simp [hx]
theorem with_one (b : DBox) (x : ByteArray) (v : Value) (hx : nameOk x = true) (ha : b.ahead = -1) (ho : b.off = false) : withE b [x] [(x, v)] x = 0 ∧ withF b [x] [(x, v)] x = v := by
  have h : withE b [x] [(x, v)] x = 0 := by unfold withE hasP; rw [begin_one b x hx ha ho, look_one]; rfl
  refine ⟨h, ?_⟩
  have := withF_look b [x] [(x, v)] x h
  rw [look_one] at this
  exact (Option.some.inj this).symm
theorem powered_on (b : DBox) (ha : b.ahead = -1) (ho : b.off = false) : poweredB b = { b with calls := b.calls + 1 } := by unfold poweredB; rw [ha, ho]; rfl
section
variable {x : ByteArray} {q : Int} {w w' : World} {d k n s : Nat} {own : Nat → Nat} {st : Bool}
theorem One.full (h : One x q w d own k n s st) (hx : nameOk x = true) (hsz : x.size ≤ 1000000) (hk : k < 80000) (BA : Option Addr) (bn bc : Nat) (h1 : n + bn ≤ 1048576) (h2 : q < ((n + bn : Nat) : Int)) :
    Calls Try.prog 17 #[.pointer (some ⟨d, 0, none⟩), .string x, .slice BA bn bc] w fun e w' => e = .returned (.int .i64 4) ∧ ∃ own', Only own w own' w' ∧ One x q w' d own' (k + 1) n s st := by
  obtain ⟨b, F, fc, RA, rc, SA, sn, sc, C, cn, cc, f, ss, css, chl, nm, dt, su, H, e1, e2, e3, e4, e5, e6, e7, e8⟩ := h
  obtain ⟨hE, hF⟩ := with_one b x (.pointer (some ⟨f, 0, none⟩)) hx e2 e3
  have hu : usedO dt [(x, Value.pointer (some ⟨f, 0, none⟩))] = n := by unfold usedO sumLen; simp [e5]
  refine (H.append_full (by omega) x hsz hE f hF BA bn bc (by omega) (by rw [hu, e4]; omega)).mono ?_
  rintro e w' ⟨rfl, O, H'⟩
  rw [powered_on b e2 e3] at H'
  exact ⟨rfl, own, O, _, F, fc, RA, rc, SA, sn, sc, C, cn, cc, f, ss, css, chl, nm, dt, su, H', by show b.calls + 1 = _; omega, e2, e3, e4, e5, e6, e7, e8⟩
theorem One.append (h : One x q w d own k n s st) (hx : nameOk x = true) (hsz : x.size ≤ 1000000) (hk : k < 80000) (BA : Option Addr) (bn bc : Nat) (h1 : n + bn ≤ 1048576) (h2 : ((n + bn : Nat) : Int) ≤ q)
    (news : List Value) (hnl : news.length = bn) (hnews : ∀ u ∈ news, ∃ z : Int, 0 ≤ z ∧ z < 256 ∧ u = .int .u8 z) (hsrc : ∀ W, Chg [d] w W → Src Try.prog 1 29 (.slice BA bn bc) bn news W) :
    Calls Try.prog 17 #[.pointer (some ⟨d, 0, none⟩), .string x, .slice BA bn bc] w fun e w' => e = .returned (.int .i64 0) ∧ ∃ own', Only own w own' w' ∧ One x q w' d own' (k + 1) (n + bn) s st := by
  obtain ⟨b, F, fc, RA, rc, SA, sn, sc, C, cn, cc, f, ss, css, chl, nm, dt, su, H, e1, e2, e3, e4, e5, e6, e7, e8⟩ := h
  obtain ⟨hE, hF⟩ := with_one b x (.pointer (some ⟨f, 0, none⟩)) hx e2 e3
  have hu : usedO dt [(x, Value.pointer (some ⟨f, 0, none⟩))] = n := by unfold usedO sumLen; simp [e5]
  refine (H.append_yes (by omega) x hsz hE f hF BA bn bc (by omega) (by rw [hu, e4]; omega) news hnews hsrc).mono ?_
  rintro e w' ⟨rfl, own', O, H'⟩
  rw [powered_on b e2 e3] at H'
  exact ⟨rfl, own', O, _, F, fc, RA, rc, SA, sn, sc, C, cn, cc, f, ss, css, chl, nm, _, _, H', by show b.calls + 1 = _; omega, e2, e3, e4, by rw [updP_same, List.length_append]; omega, by rw [updP_same]; exact e6, e7, e8⟩
theorem One.sync (h : One x q w d own k n s st) (hx : nameOk x = true) (hsz : x.size ≤ 1000000) (hk : k < 80000) :
    Calls Try.prog 18 #[.pointer (some ⟨d, 0, none⟩), .string x] w fun e w' => e = .returned (.int .i64 0) ∧ ∃ own', Only own w own' w' ∧ One x q w' d own' (k + 1) n n st := by
  obtain ⟨b, F, fc, RA, rc, SA, sn, sc, C, cn, cc, f, ss, css, chl, nm, dt, su, H, e1, e2, e3, e4, e5, e6, e7, e8⟩ := h
  obtain ⟨hE, hF⟩ := with_one b x (.pointer (some ⟨f, 0, none⟩)) hx e2 e3
  refine (H.sync_yes (by omega) x hsz hE f hF).mono ?_
  rintro e w' ⟨rfl, own', O, H'⟩
  rw [powered_on b e2 e3] at H'
  exact ⟨rfl, own', O, _, F, fc, RA, rc, SA, sn, sc, C, cn, cc, f, ss, css, chl, nm, _, _, H', by show b.calls + 1 = _; omega, e2, e3, e4, by rw [updP_same]; exact e5, by rw [updP_same]; exact e5, e7, e8⟩
theorem One.syncDir (h : One x q w d own k n s st) (hk : k < 80000) :
    Calls Try.prog 19 #[.pointer (some ⟨d, 0, none⟩)] w fun e w' => e = .returned (.int .i64 0) ∧ ∃ own', Only own w own' w' ∧ One x q w' d own' (k + 1) n s true := by
  obtain ⟨b, F, fc, RA, rc, SA, sn, sc, C, cn, cc, f, ss, css, chl, nm, dt, su, H, e1, e2, e3, e4, e5, e6, e7, e8⟩ := h
  refine (H.syncDir_on (by omega) (by unfold powerB; rw [e2, e3]; rfl)).mono ?_
  rintro e w' ⟨rfl, own', A2, n2, c2, A3, n3, c3, kf, O, H'⟩
  rw [powered_on b e2 e3] at H'
  have hfl : [Value.pointer (some ⟨f, 0, none⟩)].filter (keepV nm ([(x, Value.pointer (some ⟨f, 0, none⟩))].map fun p => nm p.2)) = [Value.pointer (some ⟨f, 0, none⟩)] := by simp [keepV]
  rw [hfl] at H'
  obtain rfl : kf = 1 := by have := H'.line.1; simp at this; omega
  obtain rfl : n3 = 1 := by have := H'.nrow.len; simp at this; omega
  exact ⟨rfl, own', O, _, F, fc, A3, c3, A2, n2, c2, none, 0, 0, f, _, [], [], nm, dt, su, H', by show b.calls + 1 = _; omega, e2, e3, e4, e5, e6, e7, fun _ => ⟨rfl, rfl⟩⟩
theorem One.crash (h : One x q w d own k n s true) (dir : Int) (hdir : -9223372036854775808 ≤ dir ∧ dir ≤ 9223372036854775807) (KA : Option Addr) (kn kc : Nat) (zs : List Int) (hK : ZsAt w KA kn zs) (hkn : kn ≤ 1000000) (hKo : ∀ k ∈ blk KA, own k = 0) (hzs : ∀ z ∈ zs, z ≤ 9223372036854775807) :
    Calls Try.prog 14 #[.pointer (some ⟨d, 0, none⟩), .agg #[.int .i64 dir, .slice KA kn kc]] w fun e w' => (∃ v, e = .returned v) ∧ ∃ own', Only own w own' w' ∧ One x q w' d own' k (leftN n s (keptZ zs 0)) (leftN n s (keptZ zs 0)) true := by
  obtain ⟨b, F, fc, RA, rc, SA, sn, sc, C, cn, cc, f, ss, css, chl, nm, dt, su, H, e1, e2, e3, e4, e5, e6, e7, e8⟩ := h
  obtain ⟨rfl, rfl⟩ := e8 rfl
  have hchl : chl = [] := by have := H.chs.1; have := H.cline.1; exact List.eq_nil_of_length_eq_zero (by omega)
  subst hchl
  have hfl : [Value.pointer (some ⟨f, 0, none⟩)].filter (keepV nm ([(x, Value.pointer (some ⟨f, 0, none⟩))].map fun p => nm p.2)) = [Value.pointer (some ⟨f, 0, none⟩)] := by simp [keepV]
  have hsu : s ≤ n := by
    obtain ⟨_, _, m, _, _, _, _, h4, _, _, h7⟩ := H.file _ (List.mem_singleton.2 rfl)
    have := h4.1
    omega
  refine (H.crash dir hdir KA kn kc zs hK hkn (fun _ => hKo) hzs [(x, .pointer (some ⟨f, 0, none⟩))] (by rw [List.take_nil]; rfl) _ hfl).mono ?_
  rintro e w' ⟨h0, own', A2, n2, c2, A3, n3, c3, kf, O, H'⟩
  obtain rfl : kf = 1 := by have := H'.line.1; simp at this; omega
  obtain rfl : n3 = 1 := by have := H'.nrow.len; simp at this; omega
  have hlv : leftV zs nm dt su (.pointer (some ⟨f, 0, none⟩)) = leftN n s (keptZ zs 0) := by unfold leftV; rw [e5, e6, e7]
  refine ⟨h0, own', O, _, F, fc, A3, c3, A2, n2, c2, none, 0, 0, f, _, [], [], _, _, _, H', e1, rfl, rfl, e4, ?_, hlv, ?_, fun _ => ⟨rfl, rfl⟩⟩
  · have := leftN_le n s (keptZ zs 0) hsu
    rw [List.length_take, hlv, e5]
    omega
  · exact standN_eq nm _ _ H.rises 0 rfl
theorem One.read (h : One x q w d own k n s st) :
    Calls Try.prog 20 #[.pointer (some ⟨d, 0, none⟩), .string x] w fun e w' => (∃ A' c', e = .returned (.tuple #[.slice A' n c', .int .i64 0])) ∧ Below w.heap.size w w' := by
  obtain ⟨b, F, fc, RA, rc, SA, sn, sc, C, cn, cc, f, ss, css, chl, nm, dt, su, H, e1, e2, e3, e4, e5, e6, e7, e8⟩ := h
  refine (H.read_yes x _ (look_one x _)).mono ?_
  rintro e w' ⟨A', c', h1, _, _, hB⟩
  rw [e5] at h1
  exact ⟨⟨A', c', h1⟩, hB⟩
end
theorem One.create (x : ByteArray) (q : Int) (hq : 0 ≤ q) (w : World) (d : Nat) (own : Nat → Nat) (nm su : Value → Nat) (dt : Value → List Value) (H : DiskIn w d own (newB q) none 0 0 none 0 0 none 0 0 none 0 0 [] [] [] [] [] nm dt su) (hx : nameOk x = true) (hsz : x.size ≤ 1000000) :
    Calls Try.prog 16 #[.pointer (some ⟨d, 0, none⟩), .string x] w fun e w' => e = .returned (.int .i64 0) ∧ ∃ own', Only own w own' w' ∧ One x q w' d own' 1 0 0 false := by
  refine (H.create_yes (by show (0 : Int) < 80000; omega) 0 rfl (by omega) (by omega) (by omega) x hsz (begin_one _ x hx rfl rfl) (.inr (by omega))).mono ?_
  rintro e w' ⟨rfl, own', F', fc', fb, A', n', c', C', cc', pb, O, H'⟩
  have hlp : layP [] [(x, Value.pointer (some ⟨fb, 0, none⟩))] = [(x, Value.pointer (some ⟨fb, 0, none⟩))] := rfl
  rw [hlp] at H'
  obtain rfl : n' = 1 := by have := H'.nrow.len; simp at this; omega
  refine ⟨rfl, own', O, _, F', fc', A', c', none, 0, 0, C', 1, cc', fb, _, _, _, _, _, _, H', rfl, rfl, rfl, ?_, by rw [updP_same]; rfl, by rw [updP_same], by rw [updP_same], fun h => by cases h⟩
  show max q 0 = q
  omega
end Go.Proofs.Ytbjlikppboggmaa
namespace Go.Proofs.Ytbjlikppboggmaa
open Go.RowKit Go.Maps
set_option linter.unusedVariables false
set_option maxRecDepth 100000

theorem Only.toBelow {B : Nat} {own own' : Nat → Nat} {w w' : World} (h : Only own w own' w') (h0 : ∀ i, i < B → own i = 0) (hB : B ≤ w.heap.size) : Below B w w' := ⟨h.1.os, h.1.tape, h.1.output, h.1.size, fun k hk => h.2.2 k (by omega) (h0 k hk)⟩
/-- Blocks that there are not yet are nobody's. -/
def Fresh0 (own : Nat → Nat) (W : World) : Prop := ∀ i, W.heap.size ≤ i → own i = 0
/-- A disk with one file, in a world that has gone on from w0. -/
def OneF (B : Nat) (w0 : World) (x : ByteArray) (q : Int) (W : World) (d : Nat) (own : Nat → Nat) (k n s : Nat) (st : Bool) : Prop := Fresh0 own W ∧ (∀ i, i < B → own i = 0) ∧ B ≤ w0.heap.size ∧ Below B w0 W ∧ One x q W d own k n s st
/-- Bytes of nobody's. -/
def ByteO (W : World) (own : Nat → Nat) (g : Nat) (us : List Value) : Prop := own g = 0 ∧ ∃ cs : Array Value, cs.toList = us ∧ W.heap[g]? = some (.cells cs 5 (0, 0))
section
variable {B : Nat} {w0 W W' : World} {x : ByteArray} {q : Int} {d k n s g : Nat} {own own' : Nat → Nat} {st : Bool} {us : List Value}
theorem OneF.below (h : OneF B w0 x q W d own k n s st) (hB : Below W.heap.size W W') : OneF B w0 x q W' d own k n s st :=
  ⟨fun i hi => h.1 i (by have := hB.size; omega), h.2.1, h.2.2.1, h.2.2.2.1.trans (hB.mono (by have := h.2.2.2.1.size; have := h.2.2.1; omega)), h.2.2.2.2.below hB own (fun _ _ => rfl)⟩
theorem ByteO.below (h : ByteO W own g us) (hB : Below W.heap.size W W') : ByteO W' own g us := by
  obtain ⟨h0, cs, e, h1⟩ := h
  exact ⟨h0, cs, e, (hB.block g (lt_of_block h1)).trans h1⟩
theorem ByteO.only (h : ByteO W own g us) (hO : Only own W own' W') : ByteO W' own' g us := by
  obtain ⟨h0, cs, e, h1⟩ := h
  have hl := lt_of_block h1
  exact ⟨(hO.2.1 g hl).trans h0, cs, e, (hO.2.2 g hl h0).trans h1⟩
theorem ByteO.new (hF : Fresh0 own W) (cs : Array Value) (e : cs.toList = us) (hg : g = W.heap.size) : ByteO (W.alloc (.cells cs 5)) own g us := by
  subst hg
  exact ⟨hF _ (Nat.le_refl _), cs, e, by show (W.heap.push _)[W.heap.size]? = _; rw [Array.getElem?_push_size]⟩
theorem ByteO.src (h : ByteO W own g us) (hd : own d ≠ 0) (hu : ∀ u ∈ us, ∃ z : Int, 0 ≤ z ∧ z < 256 ∧ u = .int .u8 z) (m : Nat) (hm : us.length = m) (c : Nat) : ∀ W', Chg [d] W W' → Src Try.prog 1 29 (.slice (some ⟨g, 0, none⟩) m c) m us W' := by
  intro W' hc
  obtain ⟨h0, cs, e, h1⟩ := h
  have h2 : W'.heap[g]? = some (.cells cs 5 (0, 0)) := (hc.same g (lt_of_block h1) (fun hm => by rw [List.mem_singleton] at hm; rw [hm] at h0; exact hd h0)).trans h1
  refine Src.ofSlice W' Try.underlying29 ⟨g, 0, none⟩ m c us (by omega) (fun j u hj => ?_) (fun u hu' => by obtain ⟨z, _, _, ez⟩ := hu u hu'; rw [ez]; rfl)
  have h3 := cell_of_row W' g j cs _ (0, 0) h2
  have e9 : (⟨g, 0, none⟩ : Addr).add j = ⟨g, j, none⟩ := by unfold Addr.add; split <;> simp_all
  rw [e9, h3, ← hj, ← e, Array.getElem?_toList]
theorem One.od (h : One x q W d own k n s st) : own d ≠ 0 := by
  obtain ⟨b, F, fc, RA, rc, SA, sn, sc, C, cn, cc, f, ss, css, chl, nm, dt, su, H, _⟩ := h
  rw [H.od]
  omega
/-- Behind a call. -/
theorem OneF.next (h : OneF B w0 x q W d own k n s st) {k' n' s' : Nat} {st' : Bool} (hO : Only own W own' W') (h1 : One x q W' d own' k' n' s' st') : ∃ own'', Only own W own'' W' ∧ OneF B w0 x q W' d own'' k' n' s' st' := by
  have hz := hO.1.size
  have hBW : B ≤ W.heap.size := by have := h.2.2.2.1.size; have := h.2.2.1; omega
  refine ⟨fun i => if i < W'.heap.size then own' i else 0, ⟨hO.1, fun i hi => (if_pos (by omega)).trans (hO.2.1 i hi), hO.2.2⟩, fun i hi => if_neg (by omega), fun i hi => (if_pos (by omega)).trans ((hO.2.1 i (by omega)).trans (h.2.1 i hi)), h.2.2.1, h.2.2.2.1.trans (hO.toBelow h.2.1 hBW), ?_⟩
  exact h1.below (Below.refl _ _) _ (fun i hi => if_pos hi)
end
theorem OneF.first {B : Nat} {w0 W W' : World} {x : ByteArray} {q : Int} {d k n s : Nat} {own own' : Nat → Nat} {st : Bool} (h1 : Below B w0 W) (h2 : ∀ i, i < B → own i = 0) (hB : B ≤ w0.heap.size) (hO : Only own W own' W') (h3 : One x q W' d own' k n s st) : ∃ own'', Only own W own'' W' ∧ OneF B w0 x q W' d own'' k n s st := by
  have hz := hO.1.size
  have hBW : B ≤ W.heap.size := by have := h1.size; omega
  refine ⟨fun i => if i < W'.heap.size then own' i else 0, ⟨hO.1, fun i hi => (if_pos (by omega)).trans (hO.2.1 i hi), hO.2.2⟩, fun i hi => if_neg (by omega), fun i hi => (if_pos (by omega)).trans ((hO.2.1 i (by omega)).trans (h2 i hi)), hB, h1.trans (hO.toBelow h2 hBW), ?_⟩
  exact h3.below (Below.refl _ _) _ (fun i hi => if_pos hi)
theorem Fresh0.alloc {own : Nat → Nat} {W : World} (h : Fresh0 own W) (o : Obj) : Fresh0 own (W.alloc o) := fun i hi => by
  have h2 : (W.alloc o).heap.size = W.heap.size + 1 := by simp
  exact h i (by omega)
section
variable {B : Nat} {w0 W W' : World} {x : ByteArray} {q : Int} {d k n s g : Nat} {own own' : Nat → Nat} {st : Bool} {us : List Value}
theorem OneF.full (h : OneF B w0 x q W d own k n s st) (hx : nameOk x = true) (hsz : x.size ≤ 1000000) (hk : k < 80000) (BA : Option Addr) (bn bc : Nat) (h1 : n + bn ≤ 1048576) (h2 : q < ((n + bn : Nat) : Int)) :
    Calls Try.prog 17 #[.pointer (some ⟨d, 0, none⟩), .string x, .slice BA bn bc] W fun e w' => e = .returned (.int .i64 4) ∧ ∃ own', Only own W own' w' ∧ OneF B w0 x q w' d own' (k + 1) n s st :=
  (h.2.2.2.2.full hx hsz hk BA bn bc h1 h2).mono fun e w' hh => ⟨hh.1, by obtain ⟨_, o, O, h3⟩ := hh; exact h.next O h3⟩
theorem OneF.append (h : OneF B w0 x q W d own k n s st) (hx : nameOk x = true) (hsz : x.size ≤ 1000000) (hk : k < 80000) (bn bc : Nat) (h1 : n + bn ≤ 1048576) (h2 : ((n + bn : Nat) : Int) ≤ q) (hb : ByteO W own g us) (hl : us.length = bn) (hu : ∀ u ∈ us, ∃ z : Int, 0 ≤ z ∧ z < 256 ∧ u = .int .u8 z) :
    Calls Try.prog 17 #[.pointer (some ⟨d, 0, none⟩), .string x, .slice (some ⟨g, 0, none⟩) bn bc] W fun e w' => e = .returned (.int .i64 0) ∧ ∃ own', Only own W own' w' ∧ OneF B w0 x q w' d own' (k + 1) (n + bn) s st :=
  (h.2.2.2.2.append hx hsz hk _ bn bc h1 h2 us hl hu (hb.src h.2.2.2.2.od hu bn hl bc)).mono fun e w' hh => ⟨hh.1, by obtain ⟨_, o, O, h3⟩ := hh; exact h.next O h3⟩
theorem OneF.sync (h : OneF B w0 x q W d own k n s st) (hx : nameOk x = true) (hsz : x.size ≤ 1000000) (hk : k < 80000) :
    Calls Try.prog 18 #[.pointer (some ⟨d, 0, none⟩), .string x] W fun e w' => e = .returned (.int .i64 0) ∧ ∃ own', Only own W own' w' ∧ OneF B w0 x q w' d own' (k + 1) n n st :=
  (h.2.2.2.2.sync hx hsz hk).mono fun e w' hh => ⟨hh.1, by obtain ⟨_, o, O, h3⟩ := hh; exact h.next O h3⟩
theorem OneF.syncDir (h : OneF B w0 x q W d own k n s st) (hk : k < 80000) :
    Calls Try.prog 19 #[.pointer (some ⟨d, 0, none⟩)] W fun e w' => e = .returned (.int .i64 0) ∧ ∃ own', Only own W own' w' ∧ OneF B w0 x q w' d own' (k + 1) n s true :=
  (h.2.2.2.2.syncDir hk).mono fun e w' hh => ⟨hh.1, by obtain ⟨_, o, O, h3⟩ := hh; exact h.next O h3⟩
theorem OneF.crash1 (h : OneF B w0 x q W d own k n s true) (g1 : Nat) (c1 : Nat) (T : TypeId) (hg : own g1 = 0) (hb : W.heap[g1]? = some (.cells #[.int .i64 1] T (0, 0))) (hns : s < n) :
    Calls Try.prog 14 #[.pointer (some ⟨d, 0, none⟩), .agg #[.int .i64 0, .slice (some ⟨g1, 0, none⟩) 1 c1]] W fun e w' => (∃ v, e = .returned v) ∧ ∃ own', Only own W own' w' ∧ OneF B w0 x q w' d own' k (s + 1) (s + 1) true := by
  have hK : ZsAt W (some ⟨g1, 0, none⟩) 1 [1] := ⟨rfl, fun _ => ⟨g1, 0, rfl, lt_of_block hb, fun j z hj => by
    have hj1 := (List.getElem?_eq_some_iff.1 hj).1
    simp only [List.length_cons, List.length_nil] at hj1
    obtain rfl : j = 0 := by omega
    cases hj
    rw [cell_of_row W g1 (0 + 0) _ _ (0, 0) hb]
    rfl⟩⟩
  have e1 : leftN n s (keptZ [1] 0) = s + 1 := by
    have : keptZ [1] 0 = 1 := rfl
    rw [this]
    unfold leftN
    omega
  refine (h.2.2.2.2.crash 0 (by omega) (some ⟨g1, 0, none⟩) 1 c1 [1] hK (by omega) (fun k hk => by rw [blk_one hk]; exact hg) (fun z hz => by rw [List.mem_singleton] at hz; omega)).mono fun e w' hh => ⟨hh.1, by
    obtain ⟨_, o, O, h3⟩ := hh
    rw [e1] at h3
    exact h.next O h3⟩
end
theorem info_u8g : (Try.prog.info? 5).map (fun i => (i.zero, i.size, i.bytes)) = some (some (.int .u8 0), 1, 1) := by kernel_rfl
theorem make_g (n : Nat) (hn : n ≤ 1000) (W : World) : (Instr.makeSlice 29 (.int .i64 (n : Int)) (.int .i64 (n : Int))).run Try.prog W = .ok (.slice (some ⟨W.heap.size, 0, none⟩) n n) (W.alloc (.cells (List.replicate n (Value.int .u8 0)).toArray 5)) := by
  obtain ⟨i0, hi, hz0, hz1, hz2⟩ := info_parts info_u8g
  have h := run_make (P := Try.prog) W 29 5 i0 (.int .u8 0) Try.underlying29 hi hz0 .i64 .i64 n n (by omega) (by omega) (by rw [hz2]; omega) (by omega)
  rw [h]
  congr 3
  rw [hz1, Int.toNat_natCast, Nat.mul_one]
  apply Array.toList_inj.1
  show (madeCells #[.int .u8 0] n).toList = _
  rw [toList_madeCells_one]
set_option maxHeartbeats 1600000 in
theorem lives_any (w : World) : Calls Try.prog 12 #[] w fun e w' => e = .returned (.bool true) ∧ Below w.heap.size w w' := by
  have HNEW := Lib.hid (DiskIn.new 10 (by omega) w (fun _ => 0) (fun _ => 0) (fun _ => 0) (fun _ => []))
  go_enter Try.func12, Try.ntmps12
  go_wp2_with fail
  refine HNEW.out.mono ?_
  rintro e w1 ⟨rfl, own1, ho1, H1, hB1⟩
  obtain ⟨own2, hown2⟩ : ∃ own2 : Nat → Nat, own2 = fun i => if i < w1.heap.size then own1 i else 0 := ⟨_, rfl⟩
  have hF2 : Fresh0 own2 w1 := fun i hi => by rw [hown2]; exact if_neg (by omega)
  have h20 : ∀ i, i < w.heap.size → own2 i = 0 := fun i hi => by rw [hown2]; exact (if_pos (by have := hB1.size; omega)).trans (ho1 i hi)
  have H2 := H1.carry (own' := own2) (Nat.le_refl _) (fun i hi => by rw [hown2]; exact if_pos hi) (fun i hi _ => rfl)
  have hax : nameOk ⟨#[97]⟩ = true := by decide
  have HAX := Lib.hid hax
  have HF2 : Hid (Fresh0 own2 w1.drew) := Lib.hid hF2
  have HCR := Lib.hid (fun (W : World) (hB : Below w1.heap.size w1 W) => (One.create ⟨#[97]⟩ 10 (by omega) W w.heap.size own2 _ _ _ (H2.below hB) hax (by decide)).mono (fun e w' h => (⟨h.1, by
    obtain ⟨own', O, h1⟩ := h.2
    exact OneF.first (hB1.trans (hB.mono (by have := hB1.size; omega))) h20 (Nat.le_refl _) O h1⟩ : e = .returned (.int .i64 0) ∧ ∃ own'', Only own2 W own'' w' ∧ OneF w.heap.size w ⟨#[97]⟩ 10 w' w.heap.size own'' 1 0 0 false)))
  clear ho1 H1 hB1 hown2 hF2 h20 H2 hax HNEW
  obtain ⟨Z12, hZ12⟩ : ∃ Z : Array Value, (List.replicate 12 (Value.int .u8 0)).toArray = Z := ⟨_, rfl⟩
  obtain ⟨Z5, hZ5⟩ : ∃ Z : Array Value, (List.replicate 5 (Value.int .u8 0)).toArray = Z := ⟨_, rfl⟩
  have hmk12 : ∀ W : World, (Instr.makeSlice 29 (.int .i64 12) (.int .i64 12)).run Try.prog W = .ok (.slice (some ⟨W.heap.size, 0, none⟩) 12 12) (W.alloc (.cells (List.replicate 12 (Value.int .u8 0)).toArray 5)) := make_g 12 (by omega)
  have hmk5 : ∀ W : World, (Instr.makeSlice 29 (.int .i64 5) (.int .i64 5)).run Try.prog W = .ok (.slice (some ⟨W.heap.size, 0, none⟩) 5 5) (W.alloc (.cells (List.replicate 5 (Value.int .u8 0)).toArray 5)) := make_g 5 (by omega)
  rw [hZ12] at hmk12
  rw [hZ5] at hmk5
  have HZ5 : Hid (Z5.toList = List.replicate 5 (Value.int .u8 0)) := Lib.hid (by rw [← hZ5])
  clear hZ12 hZ5
  go_upto_region 2 with fail
  go_cut [2, 3, 4] from 11 to 18 (fun a b c wx => a = .int .i64 0 ∧ b = .int .i64 4 ∧ c = .int .i64 0 ∧ Hid (∃ own', OneF w.heap.size w ⟨#[97]⟩ 10 wx w.heap.size own' 3 5 0 false))
  case first =>
    go_region_with (first
      | (go_at_call 16; refine (HCR.out _ (by (first | exact Below.refl _ _ | exact (Below.refl _ _).drew | exact (Below.refl _ _).alloc (Nat.le_refl _) _ | exact (Below.refl _ _).drew.alloc (Nat.le_refl _) _ | exact ((Below.refl _ _).alloc (Nat.le_refl _) _).alloc (by simp) _ | exact ((Below.refl _ _).drew.alloc (Nat.le_refl _) _).alloc (by simp) _))).mono ?_; rintro e w2 ⟨rfl, own3, O2, L2⟩; have HO2 := Lib.hid O2; have HL2 := Lib.hid L2; have HN2 := Lib.hid L2.1; clear O2 L2)
      | (go_at_call 17; refine (OneF.full (HL2.out.below (by (first | exact Below.refl _ _ | exact (Below.refl _ _).drew | exact (Below.refl _ _).alloc (Nat.le_refl _) _ | exact (Below.refl _ _).drew.alloc (Nat.le_refl _) _ | exact ((Below.refl _ _).alloc (Nat.le_refl _) _).alloc (by simp) _ | exact ((Below.refl _ _).drew.alloc (Nat.le_refl _) _).alloc (by simp) _))) HAX.out (by decide) (by omega) _ 12 12 (by omega) (by omega)).mono ?_; rintro e w3 ⟨rfl, own4, O3, L3⟩; have HO3 := Lib.hid O3; have HL3 := Lib.hid L3; clear O3 L3 HL2)
      | (go_at_call 17; refine (OneF.append (HL3.out.below (by (first | exact Below.refl _ _ | exact (Below.refl _ _).drew | exact (Below.refl _ _).alloc (Nat.le_refl _) _ | exact (Below.refl _ _).drew.alloc (Nat.le_refl _) _ | exact ((Below.refl _ _).alloc (Nat.le_refl _) _).alloc (by simp) _ | exact ((Below.refl _ _).drew.alloc (Nat.le_refl _) _).alloc (by simp) _))) HAX.out (by decide) (by omega) 5 5 (by omega) (by omega) (us := List.replicate 5 (Value.int .u8 0)) (by (first | exact ByteO.new HL3.out.1 _ HZ5.out rfl | (refine ByteO.only ?_ HO3.out; first | (first | exact ByteO.new HN2.out _ HZ5.out rfl | exact ByteO.new (HN2.out.alloc _) _ HZ5.out (by simp) | exact (ByteO.new HN2.out _ HZ5.out rfl).below (by (first | exact Below.refl _ _ | exact (Below.refl _ _).drew | exact (Below.refl _ _).alloc (Nat.le_refl _) _ | exact (Below.refl _ _).drew.alloc (Nat.le_refl _) _ | exact ((Below.refl _ _).alloc (Nat.le_refl _) _).alloc (by simp) _ | exact ((Below.refl _ _).drew.alloc (Nat.le_refl _) _).alloc (by simp) _))) | (refine ByteO.below (W := w2) (ByteO.only ?_ HO2.out) (by (first | exact Below.refl _ _ | exact (Below.refl _ _).drew | exact (Below.refl _ _).alloc (Nat.le_refl _) _ | exact (Below.refl _ _).drew.alloc (Nat.le_refl _) _ | exact ((Below.refl _ _).alloc (Nat.le_refl _) _).alloc (by simp) _ | exact ((Below.refl _ _).drew.alloc (Nat.le_refl _) _).alloc (by simp) _)); (first | exact ByteO.new HF2.out _ HZ5.out rfl | exact ByteO.new (HF2.out.alloc _) _ HZ5.out (by simp) | exact (ByteO.new HF2.out _ HZ5.out rfl).below (by (first | exact Below.refl _ _ | exact (Below.refl _ _).drew | exact (Below.refl _ _).alloc (Nat.le_refl _) _ | exact (Below.refl _ _).drew.alloc (Nat.le_refl _) _ | exact ((Below.refl _ _).alloc (Nat.le_refl _) _).alloc (by simp) _ | exact ((Below.refl _ _).drew.alloc (Nat.le_refl _) _).alloc (by simp) _))))))) (by rfl) (fun u hu => ⟨0, by omega, by omega, List.eq_of_mem_replicate hu⟩)).mono ?_; rintro e w4 ⟨rfl, own5, O4, L4⟩; have HL4 := Lib.hid L4; clear O4 L4))
    all_goals
      go_wp2_with fail
      go_meet
      exact ⟨rfl, rfl, rfl, Lib.hid ⟨_, HL4.out⟩⟩
  case rest =>
    obtain ⟨rfl, rfl, rfl, HL⟩ := hcut
    obtain ⟨own5, hl5⟩ := HL.out
    have HSY := Lib.hid (hl5.sync HAX.out (by decide) (by omega))
    clear hl5 HL HCR HF2 hmk12 hmk5 HZ5
    go_wp2_with fail
    refine HSY.out.mono ?_
    rintro e w6 ⟨rfl, own6, O6, L6⟩
    have HAP := Lib.hid ((L6.below ((Below.refl _ _).alloc (Nat.le_refl _) (.cells #[.int .u8 1, .int .u8 2] 5))).append HAX.out (by decide) (by omega) 2 2 (by omega) (by omega) (ByteO.new L6.1 #[.int .u8 1, .int .u8 2] (us := [.int .u8 1, .int .u8 2]) rfl rfl) rfl (fun u hu => by
      simp only [List.mem_cons, List.not_mem_nil, or_false] at hu
      rcases hu with h | h
      · exact ⟨1, by omega, by omega, h⟩
      · exact ⟨2, by omega, by omega, h⟩))
    clear O6 L6 HSY
    go_wp2_with fail
    refine HAP.out.mono ?_
    rintro e w7 ⟨rfl, own7, O7, L7⟩
    have HSD := Lib.hid (L7.syncDir (by omega))
    clear O7 L7 HAP
    go_wp2_with fail
    refine HSD.out.mono ?_
    rintro e w8 ⟨rfl, own8, O8, L8⟩
    have HCS := Lib.hid ((L8.below ((Below.refl _ _).alloc (Nat.le_refl _) (.cells #[.int .i64 1] 3))).crash1 w8.heap.size 1 3 (L8.1 _ (Nat.le_refl _)) (by show (w8.heap.push _)[w8.heap.size]? = _; rw [Array.getElem?_push_size]) (by omega))
    clear O8 L8 HSD
    go_wp2_with fail
    refine HCS.out.mono ?_
    rintro e w9 ⟨⟨v9, rfl⟩, own9, O9, L9⟩
    have HRD := Lib.hid L9.2.2.2.2.read
    have HBW := Lib.hid L9.2.2.2.1
    have hz9 := L9.2.2.2.1.size
    clear O9 L9 HCS
    go_wp2_with fail
    refine HRD.out.mono ?_
    rintro e w10 ⟨⟨A10, c10, rfl⟩, hB10⟩
    have HEND := Lib.hid (HBW.out.trans (hB10.mono hz9))
    clear hB10 HRD HBW hz9
    go_wp2
    go_ret
    exact ⟨rfl, HEND.out⟩
end Go.Proofs.Ytbjlikppboggmaa
