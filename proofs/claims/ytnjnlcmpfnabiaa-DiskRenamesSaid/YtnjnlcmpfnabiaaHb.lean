/-
  The disk's calls, told of the document's disk: Create, Append, Sync, SyncDir, Rename, Remove, Stop, Quota, New.
-/
import Derived.Test.YtnjnlcmpfnabiaaHa
namespace Go.Proofs.Ytnjnlcmpfnabiaa
open Go.RowKit Go.Maps
set_option linter.unusedVariables false
set_option maxRecDepth 100000

section
variable {w w' : World} {d : Nat} {own own' : Nat → Nat} {b : DBox} {F RA SA C : Option Addr} {fn fc rn rc sn sc cn cc : Nat} {fs css : List Value} {ps ss : List (ByteArray × Value)} {chl : List (List (ByteArray × Value))} {nm su : Value → Nat} {dt : Value → List Value} {r : RD}
theorem DiskIn.made_reads (H : DiskIn w d own b F fn fc RA rn rc SA sn sc C cn cc fs ps ss css chl nm dt su) (R : Reads r b fs ss chl nm dt su) (x : ByteArray) (fb : Nat) (b' : DBox) (hne : ∀ v ∈ fs, v ≠ .pointer (some ⟨fb, 0, none⟩))
    (e1 : b'.made = (r.files.length : Int) + 1) (e2 : b'.quota = (poweredB b).quota) (e3 : b'.full = (poweredB b).full) (e4 : b'.off = (poweredB b).off) (e5 : b'.ahead = (poweredB b).ahead) (e6 : b'.calls = (poweredB b).calls) :
    Reads { r.powered with files := r.files ++ [⟨[], 0⟩], chs := r.chs ++ [[(x, numV r.files.length)]] } b' (fs ++ [.pointer (some ⟨fb, 0, none⟩)]) ss (chl ++ [[(x, .pointer (some ⟨fb, 0, none⟩))]]) (updP nm fb r.files.length) (updP dt fb []) (updP su fb 0) := by
  have Rp := R.powered
  refine ⟨fun v hv => ?_, ?_, ?_, ?_, e2.trans Rp.quota, e3.trans Rp.full, e4.trans Rp.off, e5.trans Rp.stop, e6.trans Rp.calls⟩
  · show (r.files ++ [(⟨[], 0⟩ : Fl)])[_]? = _
    rcases List.mem_append.1 hv with h | h
    · rw [updP_ne _ _ _ _ (hne v h), updP_ne _ _ _ _ (hne v h), updP_ne _ _ _ _ (hne v h), List.getElem?_append_left (List.getElem?_eq_some_iff.1 (R.files v h)).1]
      exact R.files v h
    · rw [List.mem_singleton] at h
      rw [h, updP_same, updP_same, updP_same, List.getElem?_append_right (Nat.le_refl _), Nat.sub_self]
      rfl
  · show r.powered.sure = _
    rw [r.powered_sure, R.sure]
    exact (mapT_congr _ _ _ fun p hp _ => updP_ne _ _ _ _ (hne _ (H.sin p hp))).symm
  · show r.chs ++ _ = _
    rw [List.map_append, R.chs]
    congr 1
    · refine List.map_congr_left fun c hc => (mapT_congr _ _ _ fun p hp h => updP_ne _ _ _ _ (hne _ ?_)).symm
      rcases H.cin c hc p hp with h' | h'
      · exact absurd h' h
      · exact h'
    · show _ = [[(x, numV (updP nm fb r.files.length (.pointer (some ⟨fb, 0, none⟩))))]]
      rw [updP_same]
  · rw [e1]
    show _ = ((r.files ++ [(⟨[], 0⟩ : Fl)]).length : Int)
    rw [List.length_append]
    simp
theorem DiskIn.filed_reads (H : DiskIn w d own b F fn fc RA rn rc SA sn sc C cn cc fs ps ss css chl nm dt su) (R : Reads r b fs ss chl nm dt su) (f : Nat) (hf : Value.pointer (some ⟨f, 0, none⟩) ∈ fs) (xs : List Value) (s : Nat) (b' : DBox) (r' : RD) (Rp : Reads r' b' fs ss chl nm dt su) (hr : r'.files = r.files) :
    Reads { r' with files := r.files.set (nm (.pointer (some ⟨f, 0, none⟩))) ⟨xs, s⟩ } b' fs ss chl nm (updP dt f xs) (updP su f s) := by
  refine ⟨fun v hv => ?_, Rp.sure, Rp.chs, ?_, Rp.quota, Rp.full, Rp.off, Rp.stop, Rp.calls⟩
  · show (r.files.set _ _)[_]? = _
    by_cases e : v = .pointer (some ⟨f, 0, none⟩)
    · subst e
      rw [updP_same, updP_same, List.getElem?_set_self (List.getElem?_eq_some_iff.1 (R.files _ hf)).1]
    · rw [updP_ne _ _ _ _ e, updP_ne _ _ _ _ e, List.getElem?_set_ne (fun e' => e (rises_inj H.rises hf hv e').symm)]
      exact R.files v hv
  · rw [Rp.made, hr]
    show _ = ((r.files.set _ _).length : Int)
    rw [List.length_set]
theorem DiskIn.turned_reads (R : Reads r b fs ss chl nm dt su) (chs chs' : List (ByteArray × Value)) (he : mapT nm chs = chs') (b' : DBox)
    (e1 : b'.made = (poweredB b).made) (e2 : b'.quota = (poweredB b).quota) (e3 : b'.full = (poweredB b).full) (e4 : b'.off = (poweredB b).off) (e5 : b'.ahead = (poweredB b).ahead) (e6 : b'.calls = (poweredB b).calls) :
    Reads { r.powered with chs := r.chs ++ [chs'] } b' fs ss (chl ++ [chs]) nm dt su := by
  have Rp := R.powered
  refine ⟨Rp.files, Rp.sure, ?_, e1.trans Rp.made, e2.trans Rp.quota, e3.trans Rp.full, e4.trans Rp.off, e5.trans Rp.stop, e6.trans Rp.calls⟩
  show r.chs ++ _ = _
  rw [List.map_append, R.chs, ← he]
  rfl
end
section
variable {w w' : World} {d : Nat} {own own' : Nat → Nat} {r : RD}
theorem IsD.create (h : IsD w d own r) (hs : r.size + 4 ≤ 80000) (x : ByteArray) (hsz : x.size ≤ 1000000) :
    Calls Try.prog 18 #[.pointer (some ⟨d, 0, none⟩), .string x] w fun e w' => e = .returned (.int .i64 (r.create x).1) ∧ DNext w d own (r.create x).2 w' := by
  obtain ⟨hF, b, F, fn, fc, RA, rn, rc, SA, sn, sc, C, cn, cc, fs, ps, ss, css, chl, nm, dt, su, H, R⟩ := h
  obtain ⟨l1, l2, l3, l4⟩ := H.rlen R
  have hcl := R.calls
  unfold RD.size at hs
  have hb : b.calls < 80000 := by omega
  have hE := R.begE [x]
  have hh : hasP ltS r.now x = hasP ltS ps x := by rw [H.rnow R, has_tag]
  by_cases h0 : beginE b [x] = 0
  · have h0' : r.begE [x] = 0 := by rw [← hE]; exact h0
    by_cases hbig : hasP ltS ps x = false ∧ 1024 ≤ rn
    · have e : r.create x = (2, r.powered) := by
        unfold RD.create
        rw [if_pos h0', if_pos ⟨hh.trans hbig.1, by omega⟩]
      rw [e]
      refine (H.create_big hb x hsz h0 hbig.1 hbig.2).mono ?_
      rintro e' w' ⟨rfl, O, H'⟩
      exact ⟨rfl, DNext.of hF O H' R.powered⟩
    · have e : r.create x = (0, { r.powered with files := r.files ++ [⟨[], 0⟩], chs := r.chs ++ [[(x, numV r.files.length)]] }) := by
        unfold RD.create
        rw [if_pos h0', if_neg]
        rintro ⟨q1, q2⟩
        exact hbig ⟨hh.symm.trans q1, by omega⟩
      rw [e]
      refine (H.create_yes hb r.files.length R.made (by omega) (by omega) (by omega) x hsz h0 (by
        cases hq : hasP ltS ps x with
        | true => exact .inl rfl
        | false => exact .inr (by rcases Nat.lt_or_ge rn 1024 with q | q; exact q; exact absurd ⟨hq, q⟩ hbig))).mono ?_
      rintro e' w' ⟨rfl, own', F', fc', fb, A', n', c', C', cc', pb, O, H'⟩
      refine ⟨rfl, DNext.of hF O H' (H.made_reads R x fb _ (fun v hv e => ?_) rfl rfl rfl rfl rfl rfl)⟩
      have := (List.pairwise_append.1 H'.rises).2.2 v hv _ (List.mem_singleton.2 rfl)
      rw [e] at this
      omega
  · have e : r.create x = (r.begE [x], r.powered) := by
      unfold RD.create
      rw [if_neg (by rw [← hE]; exact h0)]
    rw [e, ← hE]
    refine (H.create_no hb x hsz h0).mono ?_
    rintro e' w' ⟨rfl, O, H'⟩
    exact ⟨rfl, DNext.of hF O H' R.powered⟩
theorem IsD.append (h : IsD w d own r) (hs : r.size + 4 ≤ 80000) (x : ByteArray) (hsz : x.size ≤ 1000000) (BA : Option Addr) (bn bc : Nat) (hbn : bn ≤ 10000000) (news : List Value) (hnl : news.length = bn) (hnews : ∀ u ∈ news, ∃ z : Int, 0 ≤ z ∧ z < 256 ∧ u = .int .u8 z) (hsrc : ∀ W, Chg [d] w W → Src Try.prog 1 29 (.slice BA bn bc) bn news W) :
    Calls Try.prog 19 #[.pointer (some ⟨d, 0, none⟩), .string x, .slice BA bn bc] w fun e w' => e = .returned (.int .i64 (r.append x news).1) ∧ DNext w d own (r.append x news).2 w' := by
  obtain ⟨hF, b, F, fn, fc, RA, rn, rc, SA, sn, sc, C, cn, cc, fs, ps, ss, css, chl, nm, dt, su, H, R⟩ := h
  obtain ⟨l1, l2, l3, l4⟩ := H.rlen R
  have hcl := R.calls
  unfold RD.size at hs
  have hb : b.calls < 80000 := by omega
  have hE := H.rwit R [x] x
  by_cases h0 : withE b [x] ps x = 0
  · have h0' : r.witE [x] x = 0 := by rw [← hE]; exact h0
    have hlk := withF_look b [x] ps x h0
    have hm := H.look x _ hlk
    obtain ⟨f, hf⟩ := H.ptr _ hm
    obtain ⟨n1, n2⟩ := H.rnum R x _ hlk
    rw [hf] at n1 n2 hm
    by_cases hbig : 1048576 < (dt (.pointer (some ⟨f, 0, none⟩))).length + bn
    · have e : r.append x news = (2, r.powered) := by
        unfold RD.append
        rw [if_pos h0', if_pos (by rw [n2, hnl]; exact hbig)]
      rw [e]
      refine (H.append_big hb x hsz h0 f hf BA bn bc hbn hbig).mono ?_
      rintro e' w' ⟨rfl, O, H'⟩
      exact ⟨rfl, DNext.of hF O H' R.powered⟩
    · by_cases hfull : b.quota < (usedO dt ps : Int) + (bn : Int)
      · have e : r.append x news = (4, { r.powered with full := true }) := by
          unfold RD.append
          rw [if_pos h0', if_neg (by rw [n2, hnl]; exact hbig), if_pos (by rw [← R.quota, H.rused R, hnl]; exact hfull)]
        rw [e]
        refine (H.append_full hb x hsz h0 f hf BA bn bc (by omega) hfull).mono ?_
        rintro e' w' ⟨rfl, O, H'⟩
        have Rp := R.powered
        exact ⟨rfl, DNext.of hF O H' ⟨Rp.files, Rp.sure, Rp.chs, Rp.made, Rp.quota, rfl, Rp.off, Rp.stop, Rp.calls⟩⟩
      · have e : r.append x news = (0, { r.powered with files := r.files.set (r.num x) ⟨(r.get x).data ++ news, (r.get x).sure⟩ }) := by
          unfold RD.append
          rw [if_pos h0', if_neg (by rw [n2, hnl]; exact hbig), if_neg (by rw [← R.quota, H.rused R, hnl]; exact hfull)]
        rw [e, n1, n2]
        refine (H.append_yes hb x hsz h0 f hf BA bn bc (by omega) (by omega) news hnews hsrc).mono ?_
        rintro e' w' ⟨rfl, own', O, H'⟩
        exact ⟨rfl, DNext.of hF O H' (H.filed_reads R f hm _ _ _ _ R.powered r.powered_files)⟩
  · have e : r.append x news = (r.witE [x] x, r.powered) := by
      unfold RD.append
      rw [if_neg (by rw [← hE]; exact h0)]
    rw [e, ← hE]
    refine (H.append_no hb x hsz h0 BA bn bc).mono ?_
    rintro e' w' ⟨rfl, O, H'⟩
    exact ⟨rfl, DNext.of hF O H' R.powered⟩
theorem IsD.sync (h : IsD w d own r) (hs : r.size + 4 ≤ 80000) (x : ByteArray) (hsz : x.size ≤ 1000000) :
    Calls Try.prog 20 #[.pointer (some ⟨d, 0, none⟩), .string x] w fun e w' => e = .returned (.int .i64 (r.sync x).1) ∧ DNext w d own (r.sync x).2 w' := by
  obtain ⟨hF, b, F, fn, fc, RA, rn, rc, SA, sn, sc, C, cn, cc, fs, ps, ss, css, chl, nm, dt, su, H, R⟩ := h
  have hcl := R.calls
  unfold RD.size at hs
  have hb : b.calls < 80000 := by omega
  have hE := H.rwit R [x] x
  by_cases h0 : withE b [x] ps x = 0
  · have h0' : r.witE [x] x = 0 := by rw [← hE]; exact h0
    have hlk := withF_look b [x] ps x h0
    have hm := H.look x _ hlk
    obtain ⟨f, hf⟩ := H.ptr _ hm
    obtain ⟨n1, n2⟩ := H.rnum R x _ hlk
    rw [hf] at n1 n2 hm
    have e : r.sync x = (0, { r.powered with files := r.files.set (r.num x) ⟨(r.get x).data, (r.get x).data.length⟩ }) := by
      unfold RD.sync
      rw [if_pos h0']
    rw [e, n1, n2]
    refine (H.sync_yes hb x hsz h0 f hf).mono ?_
    rintro e' w' ⟨rfl, own', O, H'⟩
    exact ⟨rfl, DNext.of hF O H' (H.filed_reads R f hm _ _ _ _ R.powered r.powered_files)⟩
  · have e : r.sync x = (r.witE [x] x, r.powered) := by
      unfold RD.sync
      rw [if_neg (by rw [← hE]; exact h0)]
    rw [e, ← hE]
    refine (H.sync_no hb x hsz h0).mono ?_
    rintro e' w' ⟨rfl, O, H'⟩
    exact ⟨rfl, DNext.of hF O H' R.powered⟩
theorem IsD.syncDir (h : IsD w d own r) (hs : r.size + 4 ≤ 80000) :
    Calls Try.prog 21 #[.pointer (some ⟨d, 0, none⟩)] w fun e w' => e = .returned (.int .i64 r.syncDir.1) ∧ DNext w d own r.syncDir.2 w' := by
  obtain ⟨hF, b, F, fn, fc, RA, rn, rc, SA, sn, sc, C, cn, cc, fs, ps, ss, css, chl, nm, dt, su, H, R⟩ := h
  have hcl := R.calls
  unfold RD.size at hs
  have hb : b.calls < 80000 := by omega
  have hE := R.on
  cases hp : powerB b with
  | true =>
    have e : r.syncDir = (0, { r.powered with sure := r.now, chs := [] }) := by
      unfold RD.syncDir
      rw [if_pos (by rw [← hE]; exact hp)]
    rw [e]
    refine (H.syncDir_on hb hp).mono ?_
    rintro e' w' ⟨rfl, own', A2, n2, c2, A3, n3, c3, kf, O, H'⟩
    have Rp := R.powered
    exact ⟨rfl, DNext.of hF O H' ⟨fun v hv => Rp.files v (List.mem_filter.1 hv).1, H.rnow R, rfl, Rp.made, Rp.quota, Rp.full, Rp.off, Rp.stop, Rp.calls⟩⟩
  | false =>
    have e : r.syncDir = (5, r.powered) := by
      unfold RD.syncDir
      rw [if_neg (by rw [← hE, hp]; exact fun e => by cases e)]
    rw [e]
    refine (H.syncDir_off hb hp).mono ?_
    rintro e' w' ⟨rfl, O, H'⟩
    exact ⟨rfl, DNext.of hF O H' R.powered⟩
theorem IsD.rename (h : IsD w d own r) (hs : r.size + 4 ≤ 80000) (x y : ByteArray) (hsz : x.size ≤ 1000000) (hsz2 : y.size ≤ 1000000) :
    Calls Try.prog 30 #[.pointer (some ⟨d, 0, none⟩), .string x, .string y] w fun e w' => e = .returned (.int .i64 (r.rename x y).1) ∧ DNext w d own (r.rename x y).2 w' := by
  obtain ⟨hF, b, F, fn, fc, RA, rn, rc, SA, sn, sc, C, cn, cc, fs, ps, ss, css, chl, nm, dt, su, H, R⟩ := h
  obtain ⟨l1, l2, l3, l4⟩ := H.rlen R
  have hcl := R.calls
  unfold RD.size at hs
  have hb : b.calls < 80000 := by omega
  have hE := H.rwit R [x, y] x
  by_cases h0 : withE b [x, y] ps x = 0
  · have h0' : r.witE [x, y] x = 0 := by rw [← hE]; exact h0
    have hlk := withF_look b [x, y] ps x h0
    have hm := H.look x _ hlk
    obtain ⟨n1, n2⟩ := H.rnum R x _ hlk
    have e : r.rename x y = (0, { r.powered with chs := r.chs ++ [[(x, .pointer none), (y, numV (r.num x))]] }) := by
      unfold RD.rename
      rw [if_pos h0']
    rw [e]
    refine (H.rename_yes hb (by omega) x y hsz hsz2 h0).mono ?_
    rintro e' w' ⟨rfl, own', A', n', c', C', cc', pb, O, H'⟩
    refine ⟨rfl, DNext.of hF O H' (DiskIn.turned_reads R _ _ ?_ _ rfl rfl rfl rfl rfl rfl)⟩
    show [(x, Value.pointer none), (y, tag nm _)] = _
    rw [tag_some _ _ (H.ne _ hm), ← n1]
  · have e : r.rename x y = (r.witE [x, y] x, r.powered) := by
      unfold RD.rename
      rw [if_neg (by rw [← hE]; exact h0)]
    rw [e, ← hE]
    refine (H.rename_no hb x y hsz hsz2 h0).mono ?_
    rintro e' w' ⟨rfl, O, H'⟩
    exact ⟨rfl, DNext.of hF O H' R.powered⟩
theorem IsD.remove (h : IsD w d own r) (hs : r.size + 4 ≤ 80000) (x : ByteArray) (hsz : x.size ≤ 1000000) :
    Calls Try.prog 38 #[.pointer (some ⟨d, 0, none⟩), .string x] w fun e w' => e = .returned (.int .i64 (r.remove x).1) ∧ DNext w d own (r.remove x).2 w' := by
  obtain ⟨hF, b, F, fn, fc, RA, rn, rc, SA, sn, sc, C, cn, cc, fs, ps, ss, css, chl, nm, dt, su, H, R⟩ := h
  obtain ⟨l1, l2, l3, l4⟩ := H.rlen R
  have hcl := R.calls
  unfold RD.size at hs
  have hb : b.calls < 80000 := by omega
  have hE := H.rwit R [x] x
  by_cases h0 : withE b [x] ps x = 0
  · have h0' : r.witE [x] x = 0 := by rw [← hE]; exact h0
    have e : r.remove x = (0, { r.powered with chs := r.chs ++ [[(x, .pointer none)]] }) := by
      unfold RD.remove
      rw [if_pos h0']
    rw [e]
    refine (H.remove_yes hb (by omega) x hsz h0).mono ?_
    rintro e' w' ⟨rfl, own', A', n', c', C', cc', pb, O, H'⟩
    exact ⟨rfl, DNext.of hF O H' (DiskIn.turned_reads R [(x, .pointer none)] [(x, .pointer none)] rfl _ rfl rfl rfl rfl rfl rfl)⟩
  · have e : r.remove x = (r.witE [x] x, r.powered) := by
      unfold RD.remove
      rw [if_neg (by rw [← hE]; exact h0)]
    rw [e, ← hE]
    refine (H.remove_no hb x hsz h0).mono ?_
    rintro e' w' ⟨rfl, O, H'⟩
    exact ⟨rfl, DNext.of hF O H' R.powered⟩
theorem IsD.stop (h : IsD w d own r) (k : Int) (hk : k ≤ 9223372036854775807) :
    Calls Try.prog 31 #[.pointer (some ⟨d, 0, none⟩), .int .i64 k] w fun e w' => (∃ v, e = .returned v) ∧ DNext w d own (r.stopAt k) w' := by
  obtain ⟨hF, b, F, fn, fc, RA, rn, rc, SA, sn, sc, C, cn, cc, fs, ps, ss, css, chl, nm, dt, su, H, R⟩ := h
  refine (H.stop k hk).mono ?_
  rintro e w' ⟨he, O, H'⟩
  exact ⟨he, DNext.of hF O H' ⟨R.files, R.sure, R.chs, R.made, R.quota, R.full, R.off, rfl, R.calls⟩⟩
theorem IsD.quotaTo (h : IsD w d own r) (n : Int) (hn : -9223372036854775808 ≤ n ∧ n ≤ 9223372036854775807) :
    Calls Try.prog 17 #[.pointer (some ⟨d, 0, none⟩), .int .i64 n] w fun e w' => (∃ v, e = .returned v) ∧ DNext w d own (r.quotaTo n) w' := by
  obtain ⟨hF, b, F, fn, fc, RA, rn, rc, SA, sn, sc, C, cn, cc, fs, ps, ss, css, chl, nm, dt, su, H, R⟩ := h
  refine (H.quotaTo n hn).mono ?_
  rintro e w' ⟨he, O, H'⟩
  exact ⟨he, DNext.of hF O H' ⟨R.files, R.sure, R.chs, R.made, rfl, rfl, R.off, R.stop, R.calls⟩⟩
end
theorem IsD.new (q : Int) (hq : q ≤ 9223372036854775807) (w : World) : Calls Try.prog 9 #[.int .i64 q] w fun e w' =>
    e = .returned (.pointer (some ⟨w.heap.size, 0, none⟩)) ∧ ∃ own', (∀ i, i < w.heap.size → own' i = 0) ∧ IsD w' w.heap.size own' (RD.fresh q) ∧ Below w.heap.size w w' := by
  refine (DiskIn.new q hq w (fun _ => 0) (fun _ => 0) (fun _ => 0) (fun _ => [])).mono ?_
  rintro e w' ⟨rfl, own', ho, H, hB⟩
  refine ⟨rfl, fun i => if i < w'.heap.size then own' i else 0, fun i hi => (if_pos (by have := hB.size; omega)).trans (ho i hi), ?_, hB⟩
  exact ⟨fun i hi => if_neg (by omega), _, _, _, _, _, _, _, _, _, _, _, _, _, _, _, _, _, _, _, _, _, H.carry (Nat.le_refl _) (fun i hi => if_pos hi) (fun i hi _ => rfl), ⟨fun v hv => (by cases hv), rfl, rfl, rfl, rfl, rfl, rfl, rfl, rfl⟩⟩
end Go.Proofs.Ytnjnlcmpfnabiaa
