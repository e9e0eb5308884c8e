/-
  The disk's calls, told of the document's disk: Crash, Turn, Read, Used, Full, Off, Calls.
-/
import Derived.Test.YtnjnlcmpfnabiaaHb
namespace Go.Proofs.Ytnjnlcmpfnabiaa
open Go.RowKit Go.Maps
set_option linter.unusedVariables false
set_option maxRecDepth 100000

theorem Only.of_below {w w' : World} (own : Nat → Nat) (hB : Below w.heap.size w w') : Only own w own w' := ⟨hB.mono (Nat.zero_le _), fun _ _ => rfl, fun i hi _ => hB.block i hi⟩
theorem DNext.still {w w' : World} {d : Nat} {own : Nat → Nat} {r : RD} (h : IsD w d own r) (hB : Below w.heap.size w w') : DNext w d own r w' := ⟨own, Only.of_below own hB, h.below hB⟩
section
variable {w w' : World} {d : Nat} {own own' : Nat → Nat} {r : RD}
theorem IsD.crash (h : IsD w d own r) (dir : Int) (hdir : -9223372036854775808 ≤ dir ∧ dir ≤ 9223372036854775807) (KA : Option Addr) (kn kc : Nat) (zs : List Int) (hK : ZsAt w KA kn zs) (hkn : kn ≤ 1000000) (hKo : 0 < kn → ∀ k ∈ blk KA, own k = 0) (hzs : ∀ z ∈ zs, z ≤ 9223372036854775807) :
    Calls Try.prog 16 #[.pointer (some ⟨d, 0, none⟩), .agg #[.int .i64 dir, .slice KA kn kc]] w fun e w' => (∃ v, e = .returned v) ∧ DNext w d own (r.crash dir zs) w' := by
  obtain ⟨hF, b, F, fn, fc, RA, rn, rc, SA, sn, sc, C, cn, cc, fs, ps, ss, css, chl, nm, dt, su, H, R⟩ := h
  obtain ⟨Rr, hRr⟩ : ∃ Rr, layAll ss (chl.take (min (max dir 0) (cn : Int)).toNat) = Rr := ⟨_, rfl⟩
  have hcl : chl.length = cn := by have := H.chs.1; have := H.cline.1; omega
  have htk : chl.take dir.toNat = chl.take (min (max dir 0) (cn : Int)).toNat := by
    rcases Nat.lt_or_ge dir.toNat cn with q | q
    · congr 1
      omega
    · rw [List.take_of_length_le (by omega), List.take_of_length_le (by omega)]
  have hleft : r.left dir = mapT nm Rr := by
    unfold RD.left
    rw [R.sure, R.chs, ← List.map_take, ← layAll_tag, htk, hRr]
  have hin : ∀ p ∈ Rr, p.2 ∈ fs := by
    rw [← hRr]
    exact layAll_in _ _ H.sin (fun c hc => H.cin c (List.mem_of_mem_take hc))
  have hnums : (r.left dir).map (fun p => numOf p.2) = Rr.map fun p => nm p.2 := by
    rw [hleft]
    unfold mapT
    rw [List.map_map]
    refine List.map_congr_left fun p hp => ?_
    show numOf (tag nm p.2) = _
    rw [tag_some _ _ (H.ne _ (hin p hp)), numOf_numV]
  obtain ⟨fs1, hfs1⟩ : ∃ fs1, fs.filter (keepV nm (Rr.map fun p => nm p.2)) = fs1 := ⟨_, rfl⟩
  have hkeep : fs1.map nm = r.keep dir := by
    refine rises_eq _ _ ?_ ?_ fun i => ?_
    · rw [← hfs1]
      exact List.pairwise_map.2 (H.rises.filter _)
    · unfold RD.keep
      exact List.pairwise_lt_range.filter _
    · unfold RD.keep
      rw [List.mem_filter, List.mem_range, decide_eq_true_eq, hnums, List.mem_map]
      constructor
      · rintro ⟨v, hv, rfl⟩
        rw [← hfs1, List.mem_filter] at hv
        obtain ⟨h1, h2⟩ := hv
        unfold keepV at h2
        exact ⟨(List.getElem?_eq_some_iff.1 (R.files v h1)).1, of_decide_eq_true h2⟩
      · rintro ⟨h1, h2⟩
        obtain ⟨p, hp, e⟩ := List.mem_map.1 h2
        refine ⟨p.2, ?_, e⟩
        rw [← hfs1, List.mem_filter]
        unfold keepV
        exact ⟨hin p hp, decide_eq_true (List.mem_map.2 ⟨p, hp, rfl⟩)⟩
  refine (H.crash dir hdir KA kn kc zs hK hkn hKo hzs Rr hRr fs1 hfs1).mono ?_
  rintro e w' ⟨he, own', A2, n2, c2, A3, n3, c3, kf, O, H'⟩
  have hr1 : fs1.Pairwise fun u v => nm u < nm v := by rw [← hfs1]; exact H.rises.filter _
  refine ⟨he, DNext.of hF O H' ⟨fun v hv => ?_, ?_, rfl, ?_, R.quota, rfl, rfl, rfl, R.calls⟩⟩
  · obtain ⟨i, hi, ei⟩ := List.mem_iff_getElem.1 hv
    have hi' : fs1[i]? = some v := by rw [List.getElem?_eq_getElem hi, ei]
    rw [standN_eq nm v fs1 hr1 i hi']
    have hk : (r.keep dir)[i]? = some (nm v) := by rw [← hkeep, List.getElem?_map, hi']; rfl
    have hvf : v ∈ fs := by rw [← hfs1] at hv; exact (List.mem_filter.1 hv).1
    show ((r.keep dir).map _)[i]? = _
    rw [List.getElem?_map, hk]
    have hfile : r.file (nm v) = ⟨dt v, su v⟩ := by unfold RD.file; rw [List.getD_eq_getElem?_getD, R.files v hvf]; rfl
    show some (RD.cutF zs (nm v) (r.file (nm v))) = _
    rw [hfile]
    rfl
  · show (r.left dir).map _ = _
    rw [hleft]
    unfold mapT
    rw [List.map_map]
    refine List.map_congr_left fun p hp => ?_
    have hne := H.ne _ (hin p hp)
    show (p.1, numV ((r.keep dir).filter fun u => decide (u < numOf (tag nm p.2))).length) = (p.1, tag (standN fs1 nm) p.2)
    rw [tag_some _ _ hne, tag_some _ _ hne, numOf_numV, ← hkeep, List.filter_map, List.length_map]
    rfl
  · have h1 := H'.line.1
    show (kf : Int) = (((r.keep dir).map _).length : Int)
    rw [List.length_map, ← hkeep, List.length_map]
    omega
theorem IsD.turn (h : IsD w d own r) (x : ByteArray) (at_ : Int) (hat : -9223372036854775808 ≤ at_ ∧ at_ ≤ 9223372036854775807) (mask : Nat) (hmask : mask < 256) :
    Calls Try.prog 36 #[.pointer (some ⟨d, 0, none⟩), .string x, .int .i64 at_, .int .u8 (mask : Int)] w fun e w' => e = .returned (.bool (r.turns x at_)) ∧ DNext w d own (r.turn x at_ mask) w' := by
  have h0 := h
  obtain ⟨hF, b, F, fn, fc, RA, rn, rc, SA, sn, sc, C, cn, cc, fs, ps, ss, css, chl, nm, dt, su, H, R⟩ := h
  have hh : hasP ltS r.now x = hasP ltS ps x := by rw [H.rnow R, has_tag]
  cases hl : lookP ltS ps x with
  | none =>
    have hno : hasP ltS ps x = false := by unfold hasP; rw [hl]; rfl
    have e : r.turns x at_ = false := by unfold RD.turns; rw [hh, hno]; rfl
    have e2 : r.turn x at_ mask = r := by unfold RD.turn; rw [e]; exact if_neg (fun h => by cases h)
    rw [e, e2]
    refine (H.turn_no x hno at_ hat mask).mono ?_
    rintro e w' ⟨rfl, hB⟩
    exact ⟨rfl, DNext.still h0 hB⟩
  | some v =>
    have hyes : hasP ltS ps x = true := by unfold hasP; rw [hl]; rfl
    have hm := H.look x _ hl
    obtain ⟨f, rfl⟩ := H.ptr _ hm
    obtain ⟨n1, n2⟩ := H.rnum R x _ hl
    by_cases hout : at_ < 0 ∨ ((dt (.pointer (some ⟨f, 0, none⟩))).length : Int) ≤ at_
    · have e : r.turns x at_ = false := by
        unfold RD.turns
        rw [hh, hyes, n2, Bool.true_and, decide_eq_false_iff_not]
        show ¬ (0 ≤ at_ ∧ at_ < ((dt _).length : Int))
        omega
      have e2 : r.turn x at_ mask = r := by unfold RD.turn; rw [e]; exact if_neg (fun h => by cases h)
      rw [e, e2]
      refine (H.turn_out x _ hl at_ hat hout mask).mono ?_
      rintro e w' ⟨rfl, hB⟩
      exact ⟨rfl, DNext.still h0 hB⟩
    · obtain ⟨k, rfl⟩ : ∃ k : Nat, at_ = (k : Int) := ⟨at_.toNat, by omega⟩
      have e : r.turns x (k : Int) = true := by
        unfold RD.turns
        rw [hh, hyes, n2, Bool.true_and, decide_eq_true_eq]
        show 0 ≤ (k : Int) ∧ (k : Int) < ((dt _).length : Int)
        omega
      refine (H.turn_yes x f hl k (by omega) mask hmask).mono ?_
      rintro e' w' ⟨rfl, u, hu, hu2, own', O, H'⟩
      rw [e]
      have e2 : r.turn x (k : Int) mask = { r with files := r.files.set (nm (.pointer (some ⟨f, 0, none⟩))) ⟨(dt (.pointer (some ⟨f, 0, none⟩))).set k (.int .u8 ((u ^^^ mask : Nat) : Int)), su (.pointer (some ⟨f, 0, none⟩))⟩ } := by
        unfold RD.turn
        rw [if_pos e, n1, n2]
        show { r with files := r.files.set _ ⟨(dt (.pointer (some ⟨f, 0, none⟩))).set ((k : Int)).toNat (xorV mask ((dt (.pointer (some ⟨f, 0, none⟩))).getD ((k : Int)).toNat (.int .u8 0))), _⟩ } = _
        rw [Int.toNat_natCast, List.getD_eq_getElem?_getD, hu]
        show { r with files := r.files.set _ ⟨(dt (.pointer (some ⟨f, 0, none⟩))).set k (.int .u8 ((((u : Int)).toNat ^^^ mask : Nat) : Int)), _⟩ } = _
        rw [Int.toNat_natCast]
      rw [e2]
      exact ⟨rfl, DNext.of hF O H' (H.filed_reads R f hm _ _ _ _ R rfl)⟩
theorem IsD.bytes (h : IsD w d own r) (x : ByteArray) (hx : hasP ltS r.now x = true) : (∀ u ∈ (r.get x).data, ∃ z : Int, 0 ≤ z ∧ z < 256 ∧ u = .int .u8 z) ∧ (r.get x).data.length ≤ 1048576 ∧ (r.get x).sure ≤ (r.get x).data.length := by
  obtain ⟨hF, b, F, fn, fc, RA, rn, rc, SA, sn, sc, C, cn, cc, fs, ps, ss, css, chl, nm, dt, su, H, R⟩ := h
  have hh : hasP ltS r.now x = hasP ltS ps x := by rw [H.rnow R, has_tag]
  rw [hh] at hx
  unfold hasP at hx
  obtain ⟨v, hv⟩ := Option.isSome_iff_exists.1 hx
  obtain ⟨n1, n2⟩ := H.rnum R x _ hv
  have hm := H.look x _ hv
  obtain ⟨f, A, n, c, rfl, hf7, hfa, hsl, hoA, hn1, hsu⟩ := H.file _ hm
  have h1 := hsl.1
  rw [n2]
  exact ⟨H.bytes _ hm, by show (dt _).length ≤ _; omega, by show su _ ≤ (dt _).length; omega⟩
theorem IsD.read_yes (h : IsD w d own r) (x : ByteArray) (hx : hasP ltS r.now x = true) :
    Calls Try.prog 22 #[.pointer (some ⟨d, 0, none⟩), .string x] w fun e w' => (∃ A' c', e = .returned (.tuple #[.slice A' (r.get x).data.length c', .int .i64 0]) ∧ SLine 1 w' A' (r.get x).data.length c' (r.get x).data ∧ (∀ k ∈ blk A', w.heap.size ≤ k)) ∧ Below w.heap.size w w' := by
  obtain ⟨hF, b, F, fn, fc, RA, rn, rc, SA, sn, sc, C, cn, cc, fs, ps, ss, css, chl, nm, dt, su, H, R⟩ := h
  have hh : hasP ltS r.now x = hasP ltS ps x := by rw [H.rnow R, has_tag]
  rw [hh] at hx
  unfold hasP at hx
  obtain ⟨v, hv⟩ := Option.isSome_iff_exists.1 hx
  obtain ⟨n1, n2⟩ := H.rnum R x _ hv
  rw [n2]
  refine (H.read_yes x v hv).mono ?_
  rintro e w' ⟨A', c', h1, h2, h3, h4⟩
  exact ⟨⟨A', c', h1, h2, h3⟩, h4⟩
theorem IsD.read_no (h : IsD w d own r) (x : ByteArray) (hx : hasP ltS r.now x = false) :
    Calls Try.prog 22 #[.pointer (some ⟨d, 0, none⟩), .string x] w fun e w' => e = .returned (.tuple #[.slice none 0 0, .int .i64 3]) ∧ Below w.heap.size w w' := by
  obtain ⟨hF, b, F, fn, fc, RA, rn, rc, SA, sn, sc, C, cn, cc, fs, ps, ss, css, chl, nm, dt, su, H, R⟩ := h
  have hh : hasP ltS r.now x = hasP ltS ps x := by rw [H.rnow R, has_tag]
  exact H.read_no x (hh.symm.trans hx)
theorem IsD.isOff (h : IsD w d own r) : Calls Try.prog 24 #[.pointer (some ⟨d, 0, none⟩)] w fun e w' => e = .returned (.bool r.off) ∧ w = w' := by
  obtain ⟨hF, b, F, fn, fc, RA, rn, rc, SA, sn, sc, C, cn, cc, fs, ps, ss, css, chl, nm, dt, su, H, R⟩ := h
  rw [← R.off]
  exact doff_any w d b H.box
theorem IsD.isFull (h : IsD w d own r) : Calls Try.prog 25 #[.pointer (some ⟨d, 0, none⟩)] w fun e w' => e = .returned (.bool r.full) ∧ w = w' := by
  obtain ⟨hF, b, F, fn, fc, RA, rn, rc, SA, sn, sc, C, cn, cc, fs, ps, ss, css, chl, nm, dt, su, H, R⟩ := h
  rw [← R.full]
  exact dfull_any w d b H.box
theorem IsD.allCalls (h : IsD w d own r) : Calls Try.prog 33 #[.pointer (some ⟨d, 0, none⟩)] w fun e w' => e = .returned (.int .i64 (r.calls : Int)) ∧ w = w' := by
  obtain ⟨hF, b, F, fn, fc, RA, rn, rc, SA, sn, sc, C, cn, cc, fs, ps, ss, css, chl, nm, dt, su, H, R⟩ := h
  rw [← R.calls]
  exact dcalls_any w d b H.box
theorem IsD.isUsed (h : IsD w d own r) : Calls Try.prog 35 #[.pointer (some ⟨d, 0, none⟩)] w fun e w' => e = .returned (.int .i64 (r.used : Int)) ∧ Below w.heap.size w w' := by
  obtain ⟨hF, b, F, fn, fc, RA, rn, rc, SA, sn, sc, C, cn, cc, fs, ps, ss, css, chl, nm, dt, su, H, R⟩ := h
  rw [H.rused R]
  exact used_any w d RA rn rc ps H.nowAt.rowAt (by have := H.nowAt.len; omega) _ H.filesIn H.usedLe
end
/-- How great a call leaves a disk. -/
theorem RD.powered_size (r : RD) : r.powered.size ≤ r.size + 1 := by unfold RD.size; rw [r.powered_files, r.powered_sure, r.powered_chs]; have := r.powered_calls; omega
theorem lay_len (r : RD) (hr : Rises ltS r.sure) (hc : ∀ c ∈ r.chs, c.length ≤ 2) (k : Nat) : (layAll r.sure (r.chs.take k)).length ≤ r.sure.length + 2 * r.chs.length := by
  have h := (layAll_len (r.chs.take k) r.sure hr (fun c h => hc c (List.mem_of_mem_take h))).2
  have : (r.chs.take k).length ≤ r.chs.length := by rw [List.length_take]; omega
  omega
theorem IsD.shape {w : World} {d : Nat} {own : Nat → Nat} {r : RD} (h : IsD w d own r) : Rises ltS r.sure ∧ (∀ c ∈ r.chs, c.length ≤ 2) ∧ Rises ltS r.now := by
  obtain ⟨hF, b, F, fn, fc, RA, rn, rc, SA, sn, sc, C, cn, cc, fs, ps, ss, css, chl, nm, dt, su, H, R⟩ := h
  have hm : ∀ l : List (ByteArray × Value), Rises ltS l → Rises ltS (mapT nm l) := fun l hl => List.pairwise_map.2 hl
  refine ⟨by rw [R.sure]; exact hm _ H.srow.rises, fun c hc => ?_, by rw [H.rnow R]; exact hm _ H.nrow.rises⟩
  rw [R.chs] at hc
  obtain ⟨c', h1, rfl⟩ := List.mem_map.1 hc
  unfold mapT
  rw [List.length_map]
  exact H.chs.two c' h1
end Go.Proofs.Ytnjnlcmpfnabiaa
