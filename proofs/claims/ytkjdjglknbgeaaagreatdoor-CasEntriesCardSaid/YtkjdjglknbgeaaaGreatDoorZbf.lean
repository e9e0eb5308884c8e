/-
  The disk's calls, told of the document's disk: Crash, Turn, Read, Used, Full, Off, Calls.
  A disk with one file: what the calls of the document's example answer there.
  The document's example (lives).
  The document's disk: At, a name's file.
-/
import Derived.Test.YtkjdjglknbgeaaaGreatDoorZbe
import Derived.Test.YtkjdjglknbgeaaaGreatDoorZbd
namespace Go.Proofs.YtkjdjglknbgeaaaGreatDoor
open Go.RowKit Go.Maps
set_option linter.unusedVariables false
set_option maxRecDepth 100000

theorem Only.of_below {w w' : World} (own : Nat → Nat) (hB : Below w.heap.size w w') : Only own w own w' := ⟨hB.mono (Nat.zero_le _), fun _ _ => rfl, fun i hi _ => hB.block i hi⟩
theorem DNext.still {w w' : World} {d : Nat} {own : Nat → Nat} {r : RD} (h : IsD w d own r) (hB : Below w.heap.size w w') : DNext w d own r w' := ⟨own, Only.of_below own hB, h.below hB⟩
section
variable {w w' : World} {d : Nat} {own own' : Nat → Nat} {r : RD}
theorem IsD.crash (h : IsD w d own r) (dir : Int) (hdir : -9223372036854775808 ≤ dir ∧ dir ≤ 9223372036854775807) (KA : Option Addr) (kn kc : Nat) (zs : List Int) (hK : ZsAt w KA kn zs) (hkn : kn ≤ 1000000) (hKo : 0 < kn → ∀ k ∈ blk KA, own k = 0) (hzs : ∀ z ∈ zs, z ≤ 9223372036854775807) :
    Calls Tryz.prog 32 #[.pointer (some ⟨d, 0, none⟩), .agg #[.int .i64 dir, .slice KA kn kc]] w fun e w' => (∃ v, e = .returned v) ∧ DNext w d own (r.crash dir zs) w' := by
  obtain ⟨hF, b, F, fn, fc, RA, rn, rc, SA, sn, sc, C, cn, cc, fs, ps, ss, css, chl, nm, dt, su, H, R⟩ := h
  obtain ⟨Rr, hRr⟩ : ∃ Rr, layAll ss (chl.take (min (max dir 0) (cn : Int)).toNat) = Rr := ⟨_, rfl⟩
  have hcl : chl.length = cn := by have := H.chs.1; have := H.cline.1; omega
  have htk : chl.take dir.toNat = chl.take (min (max dir 0) (cn : Int)).toNat := by
    rcases Nat.lt_or_ge dir.toNat cn with q | q
    · congr 1
      omega
    · rw [List.take_of_length_le (by omega), List.take_of_length_le (by omega)]
  have hleft : r.left dir = mapT nm Rr := by
    unfold RD.left
    rw [R.sure, R.chs, ← List.map_take, ← layAll_tag, htk, hRr]
  have hin : ∀ p ∈ Rr, p.2 ∈ fs := by
    rw [← hRr]
    exact layAll_in _ _ H.sin (fun c hc => H.cin c (List.mem_of_mem_take hc))
  have hnums : (r.left dir).map (fun p => numOf p.2) = Rr.map fun p => nm p.2 := by
    rw [hleft]
    unfold mapT
    rw [List.map_map]
    refine List.map_congr_left fun p hp => ?_
    show numOf (tag nm p.2) = _
    rw [tag_some _ _ (H.ne _ (hin p hp)), numOf_numV]
  obtain ⟨fs1, hfs1⟩ : ∃ fs1, fs.filter (keepV nm (Rr.map fun p => nm p.2)) = fs1 := ⟨_, rfl⟩
  have hkeep : fs1.map nm = r.keep dir := by
    refine rises_eq _ _ ?_ ?_ fun i => ?_
    · rw [← hfs1]
      exact List.pairwise_map.2 (H.rises.filter _)
    · unfold RD.keep
      exact List.pairwise_lt_range.filter _
    · unfold RD.keep
      rw [List.mem_filter, List.mem_range, decide_eq_true_eq, hnums, List.mem_map]
      constructor
      · rintro ⟨v, hv, rfl⟩
        rw [← hfs1, List.mem_filter] at hv
        obtain ⟨h1, h2⟩ := hv
        unfold keepV at h2
        exact ⟨(List.getElem?_eq_some_iff.1 (R.files v h1)).1, of_decide_eq_true h2⟩
      · rintro ⟨h1, h2⟩
        obtain ⟨p, hp, e⟩ := List.mem_map.1 h2
        refine ⟨p.2, ?_, e⟩
        rw [← hfs1, List.mem_filter]
        unfold keepV
        exact ⟨hin p hp, decide_eq_true (List.mem_map.2 ⟨p, hp, rfl⟩)⟩
  refine (H.crash dir hdir KA kn kc zs hK hkn hKo hzs Rr hRr fs1 hfs1).mono ?_
  rintro e w' ⟨he, own', A2, n2, c2, A3, n3, c3, kf, O, H'⟩
  have hr1 : fs1.Pairwise fun u v => nm u < nm v := by rw [← hfs1]; exact H.rises.filter _
  refine ⟨he, DNext.of hF O H' ⟨fun v hv => ?_, ?_, rfl, ?_, R.quota, rfl, rfl, rfl, R.calls⟩⟩
  · obtain ⟨i, hi, ei⟩ := List.mem_iff_getElem.1 hv
    have hi' : fs1[i]? = some v := by rw [List.getElem?_eq_getElem hi, ei]
    rw [standN_eq nm v fs1 hr1 i hi']
    have hk : (r.keep dir)[i]? = some (nm v) := by rw [← hkeep, List.getElem?_map, hi']; rfl
    have hvf : v ∈ fs := by rw [← hfs1] at hv; exact (List.mem_filter.1 hv).1
    show ((r.keep dir).map _)[i]? = _
    rw [List.getElem?_map, hk]
    have hfile : r.file (nm v) = ⟨dt v, su v⟩ := by unfold RD.file; rw [List.getD_eq_getElem?_getD, R.files v hvf]; rfl
    show some (RD.cutF zs (nm v) (r.file (nm v))) = _
    rw [hfile]
    rfl
  · show (r.left dir).map _ = _
    rw [hleft]
    unfold mapT
    rw [List.map_map]
    refine List.map_congr_left fun p hp => ?_
    have hne := H.ne _ (hin p hp)
    show (p.1, numV ((r.keep dir).filter fun u => decide (u < numOf (tag nm p.2))).length) = (p.1, tag (standN fs1 nm) p.2)
    rw [tag_some _ _ hne, tag_some _ _ hne, numOf_numV, ← hkeep, List.filter_map, List.length_map]
    rfl
  · have h1 := H'.line.1
    show (kf : Int) = (((r.keep dir).map _).length : Int)
    rw [List.length_map, ← hkeep, List.length_map]
    omega
theorem IsD.turn (h : IsD w d own r) (x : ByteArray) (at_ : Int) (hat : -9223372036854775808 ≤ at_ ∧ at_ ≤ 9223372036854775807) (mask : Nat) (hmask : mask < 256) :
    Calls Tryz.prog 37 #[.pointer (some ⟨d, 0, none⟩), .string x, .int .i64 at_, .int .u8 (mask : Int)] w fun e w' => e = .returned (.bool (r.turns x at_)) ∧ DNext w d own (r.turn x at_ mask) w' := by
  have h0 := h
  obtain ⟨hF, b, F, fn, fc, RA, rn, rc, SA, sn, sc, C, cn, cc, fs, ps, ss, css, chl, nm, dt, su, H, R⟩ := h
  have hh : hasP ltS r.now x = hasP ltS ps x := by rw [H.rnow R, has_tag]
  cases hl : lookP ltS ps x with
  | none =>
    have hno : hasP ltS ps x = false := by unfold hasP; rw [hl]; rfl
    have e : r.turns x at_ = false := by unfold RD.turns; rw [hh, hno]; rfl
    have e2 : r.turn x at_ mask = r := by unfold RD.turn; rw [e]; exact if_neg (fun h => by cases h)
    rw [e, e2]
    refine (H.turn_no x hno at_ hat mask).mono ?_
    rintro e w' ⟨rfl, hB⟩
    exact ⟨rfl, DNext.still h0 hB⟩
  | some v =>
    have hyes : hasP ltS ps x = true := by unfold hasP; rw [hl]; rfl
    have hm := H.look x _ hl
    obtain ⟨f, rfl⟩ := H.ptr _ hm
    obtain ⟨n1, n2⟩ := H.rnum R x _ hl
    by_cases hout : at_ < 0 ∨ ((dt (.pointer (some ⟨f, 0, none⟩))).length : Int) ≤ at_
    · have e : r.turns x at_ = false := by
        unfold RD.turns
        rw [hh, hyes, n2, Bool.true_and, decide_eq_false_iff_not]
        show ¬ (0 ≤ at_ ∧ at_ < ((dt _).length : Int))
        omega
      have e2 : r.turn x at_ mask = r := by unfold RD.turn; rw [e]; exact if_neg (fun h => by cases h)
      rw [e, e2]
      refine (H.turn_out x _ hl at_ hat hout mask).mono ?_
      rintro e w' ⟨rfl, hB⟩
      exact ⟨rfl, DNext.still h0 hB⟩
    · obtain ⟨k, rfl⟩ : ∃ k : Nat, at_ = (k : Int) := ⟨at_.toNat, by omega⟩
      have e : r.turns x (k : Int) = true := by
        unfold RD.turns
        rw [hh, hyes, n2, Bool.true_and, decide_eq_true_eq]
        show 0 ≤ (k : Int) ∧ (k : Int) < ((dt _).length : Int)
        omega
      refine (H.turn_yes x f hl k (by omega) mask hmask).mono ?_
      rintro e' w' ⟨rfl, u, hu, hu2, own', O, H'⟩
      rw [e]
      have e2 : r.turn x (k : Int) mask = { r with files := r.files.set (nm (.pointer (some ⟨f, 0, none⟩))) ⟨(dt (.pointer (some ⟨f, 0, none⟩))).set k (.int .u8 ((u ^^^ mask : Nat) : Int)), su (.pointer (some ⟨f, 0, none⟩))⟩ } := by
        unfold RD.turn
        rw [if_pos e, n1, n2]
        show { r with files := r.files.set _ ⟨(dt (.pointer (some ⟨f, 0, none⟩))).set ((k : Int)).toNat (xorV mask ((dt (.pointer (some ⟨f, 0, none⟩))).getD ((k : Int)).toNat (.int .u8 0))), _⟩ } = _
        rw [Int.toNat_natCast, List.getD_eq_getElem?_getD, hu]
        show { r with files := r.files.set _ ⟨(dt (.pointer (some ⟨f, 0, none⟩))).set k (.int .u8 ((((u : Int)).toNat ^^^ mask : Nat) : Int)), _⟩ } = _
        rw [Int.toNat_natCast]
      rw [e2]
      exact ⟨rfl, DNext.of hF O H' (H.filed_reads R f hm _ _ _ _ R rfl)⟩
theorem IsD.bytes (h : IsD w d own r) (x : ByteArray) (hx : hasP ltS r.now x = true) : (∀ u ∈ (r.get x).data, ∃ z : Int, 0 ≤ z ∧ z < 256 ∧ u = .int .u8 z) ∧ (r.get x).data.length ≤ 1048576 ∧ (r.get x).sure ≤ (r.get x).data.length := by
  obtain ⟨hF, b, F, fn, fc, RA, rn, rc, SA, sn, sc, C, cn, cc, fs, ps, ss, css, chl, nm, dt, su, H, R⟩ := h
  have hh : hasP ltS r.now x = hasP ltS ps x := by rw [H.rnow R, has_tag]
  rw [hh] at hx
  unfold hasP at hx
  obtain ⟨v, hv⟩ := Option.isSome_iff_exists.1 hx
  obtain ⟨n1, n2⟩ := H.rnum R x _ hv
  have hm := H.look x _ hv
  obtain ⟨f, A, n, c, rfl, hf7, hfa, hsl, hoA, hn1, hsu⟩ := H.file _ hm
  have h1 := hsl.1
  rw [n2]
  exact ⟨H.bytes _ hm, by show (dt _).length ≤ _; omega, by show su _ ≤ (dt _).length; omega⟩
theorem IsD.read_yes (h : IsD w d own r) (x : ByteArray) (hx : hasP ltS r.now x = true) :
    Calls Tryz.prog 36 #[.pointer (some ⟨d, 0, none⟩), .string x] w fun e w' => (∃ A' c', e = .returned (.tuple #[.slice A' (r.get x).data.length c', .int .i64 0]) ∧ SLine 1 w' A' (r.get x).data.length c' (r.get x).data ∧ (∀ k ∈ blk A', w.heap.size ≤ k)) ∧ Below w.heap.size w w' := by
  obtain ⟨hF, b, F, fn, fc, RA, rn, rc, SA, sn, sc, C, cn, cc, fs, ps, ss, css, chl, nm, dt, su, H, R⟩ := h
  have hh : hasP ltS r.now x = hasP ltS ps x := by rw [H.rnow R, has_tag]
  rw [hh] at hx
  unfold hasP at hx
  obtain ⟨v, hv⟩ := Option.isSome_iff_exists.1 hx
  obtain ⟨n1, n2⟩ := H.rnum R x _ hv
  rw [n2]
  refine (H.read_yes x v hv).mono ?_
  rintro e w' ⟨A', c', h1, h2, h3, h4⟩
  exact ⟨⟨A', c', h1, h2, h3⟩, h4⟩
theorem IsD.read_no (h : IsD w d own r) (x : ByteArray) (hx : hasP ltS r.now x = false) :
    Calls Tryz.prog 36 #[.pointer (some ⟨d, 0, none⟩), .string x] w fun e w' => e = .returned (.tuple #[.slice none 0 0, .int .i64 3]) ∧ Below w.heap.size w w' := by
  obtain ⟨hF, b, F, fn, fc, RA, rn, rc, SA, sn, sc, C, cn, cc, fs, ps, ss, css, chl, nm, dt, su, H, R⟩ := h
  have hh : hasP ltS r.now x = hasP ltS ps x := by rw [H.rnow R, has_tag]
  exact H.read_no x (hh.symm.trans hx)
theorem IsD.isOff (h : IsD w d own r) : Calls Tryz.prog 52 #[.pointer (some ⟨d, 0, none⟩)] w fun e w' => e = .returned (.bool r.off) ∧ w = w' := by
  obtain ⟨hF, b, F, fn, fc, RA, rn, rc, SA, sn, sc, C, cn, cc, fs, ps, ss, css, chl, nm, dt, su, H, R⟩ := h
  rw [← R.off]
  exact doff_any w d b H.box
theorem IsD.isUsed (h : IsD w d own r) : Calls Tryz.prog 40 #[.pointer (some ⟨d, 0, none⟩)] w fun e w' => e = .returned (.int .i64 (r.used : Int)) ∧ Below w.heap.size w w' := by
  obtain ⟨hF, b, F, fn, fc, RA, rn, rc, SA, sn, sc, C, cn, cc, fs, ps, ss, css, chl, nm, dt, su, H, R⟩ := h
  rw [H.rused R]
  exact used_any w d RA rn rc ps H.nowAt.rowAt (by have := H.nowAt.len; omega) _ H.filesIn H.usedLe
end
/-- How great a call leaves a disk. -/
theorem RD.powered_size (r : RD) : r.powered.size ≤ r.size + 1 := by unfold RD.size; rw [r.powered_files, r.powered_sure, r.powered_chs]; have := r.powered_calls; omega
theorem lay_len (r : RD) (hr : Rises ltS r.sure) (hc : ∀ c ∈ r.chs, c.length ≤ 2) (k : Nat) : (layAll r.sure (r.chs.take k)).length ≤ r.sure.length + 2 * r.chs.length := by
  have h := (layAll_len (r.chs.take k) r.sure hr (fun c h => hc c (List.mem_of_mem_take h))).2
  have : (r.chs.take k).length ≤ r.chs.length := by rw [List.length_take]; omega
  omega
theorem IsD.shape {w : World} {d : Nat} {own : Nat → Nat} {r : RD} (h : IsD w d own r) : Rises ltS r.sure ∧ (∀ c ∈ r.chs, c.length ≤ 2) ∧ Rises ltS r.now := by
  obtain ⟨hF, b, F, fn, fc, RA, rn, rc, SA, sn, sc, C, cn, cc, fs, ps, ss, css, chl, nm, dt, su, H, R⟩ := h
  have hm : ∀ l : List (ByteArray × Value), Rises ltS l → Rises ltS (mapT nm l) := fun l hl => List.pairwise_map.2 hl
  refine ⟨by rw [R.sure]; exact hm _ H.srow.rises, fun c hc => ?_, by rw [H.rnow R]; exact hm _ H.nrow.rises⟩
  rw [R.chs] at hc
  obtain ⟨c', h1, rfl⟩ := List.mem_map.1 hc
  unfold mapT
  rw [List.length_map]
  exact H.chs.two c' h1
end Go.Proofs.YtkjdjglknbgeaaaGreatDoor
namespace Go.Proofs.YtkjdjglknbgeaaaGreatDoor
open Go.RowKit Go.Maps
set_option linter.unusedVariables false
set_option maxRecDepth 100000

theorem look_one (x : ByteArray) (v : Value) : lookP ltS [(x, v)] x = some v := by
  unfold lookP
  rw [List.find?_cons_of_pos (by simp [orders_S.irr])]
  rfl
theorem put_nil (x : ByteArray) (v : Value) : putP ltS [] x v = [(x, v)] := rfl
/-- A disk with one file, x, of n bytes, s of them sure; its power on. -/
def One (x : ByteArray) (q : Int) (w : World) (d : Nat) (own : Nat → Nat) (k n s : Nat) (st : Bool) : Prop :=
  ∃ b F fc RA rc SA sn sc C cn cc f ss css chl nm dt su, DiskIn w d own b F 1 fc RA 1 rc SA sn sc C cn cc [.pointer (some ⟨f, 0, none⟩)] [(x, .pointer (some ⟨f, 0, none⟩))] ss css chl nm dt su ∧
    b.calls = (k : Int) ∧ b.ahead = -1 ∧ b.off = false ∧ b.quota = q ∧ (dt (.pointer (some ⟨f, 0, none⟩))).length = n ∧ su (.pointer (some ⟨f, 0, none⟩)) = s ∧ nm (.pointer (some ⟨f, 0, none⟩)) = 0 ∧ (st = true → ss = [(x, .pointer (some ⟨f, 0, none⟩))] ∧ cn = 0)
theorem One.below {x : ByteArray} {q : Int} {w w' : World} {d k n s : Nat} {own : Nat → Nat} {st : Bool} (h : One x q w d own k n s st) (hB : Below w.heap.size w w') (own' : Nat → Nat) (ho : ∀ i, i < w.heap.size → own' i = own i) : One x q w' d own' k n s st := by
  obtain ⟨b, F, fc, RA, rc, SA, sn, sc, C, cn, cc, f, ss, css, chl, nm, dt, su, H, h⟩ := h
  exact ⟨b, F, fc, RA, rc, SA, sn, sc, C, cn, cc, f, ss, css, chl, nm, dt, su, H.carry hB.size ho (fun i hi _ => hB.block i hi), h⟩
theorem begin_one (b : DBox) (x : ByteArray) (hx : nameOk x = true) (ha : b.ahead = -1) (ho : b.off = false) : beginE b [x] = 0 := by unfold beginE powerB; rw [ha, ho]; simp [hx]
theorem with_one (b : DBox) (x : ByteArray) (v : Value) (hx : nameOk x = true) (ha : b.ahead = -1) (ho : b.off = false) : withE b [x] [(x, v)] x = 0 ∧ withF b [x] [(x, v)] x = v := by
  have h : withE b [x] [(x, v)] x = 0 := by unfold withE hasP; rw [begin_one b x hx ha ho, look_one]; rfl
  refine ⟨h, ?_⟩
  have := withF_look b [x] [(x, v)] x h
  rw [look_one] at this
  exact (Option.some.inj this).symm
theorem powered_on (b : DBox) (ha : b.ahead = -1) (ho : b.off = false) : poweredB b = { b with calls := b.calls + 1 } := by unfold poweredB; rw [ha, ho]; rfl
section
variable {x : ByteArray} {q : Int} {w w' : World} {d k n s : Nat} {own : Nat → Nat} {st : Bool}
theorem One.full (h : One x q w d own k n s st) (hx : nameOk x = true) (hsz : x.size ≤ 1000000) (hk : k < 80000) (BA : Option Addr) (bn bc : Nat) (h1 : n + bn ≤ 1048576) (h2 : q < ((n + bn : Nat) : Int)) :
    Calls Tryz.prog 39 #[.pointer (some ⟨d, 0, none⟩), .string x, .slice BA bn bc] w fun e w' => e = .returned (.int .i64 4) ∧ ∃ own', Only own w own' w' ∧ One x q w' d own' (k + 1) n s st := by
  obtain ⟨b, F, fc, RA, rc, SA, sn, sc, C, cn, cc, f, ss, css, chl, nm, dt, su, H, e1, e2, e3, e4, e5, e6, e7, e8⟩ := h
  obtain ⟨hE, hF⟩ := with_one b x (.pointer (some ⟨f, 0, none⟩)) hx e2 e3
  have hu : usedO dt [(x, Value.pointer (some ⟨f, 0, none⟩))] = n := by unfold usedO sumLen; simp [e5]
  refine (H.append_full (by omega) x hsz hE f hF BA bn bc (by omega) (by rw [hu, e4]; omega)).mono ?_
  rintro e w' ⟨rfl, O, H'⟩
  rw [powered_on b e2 e3] at H'
  exact ⟨rfl, own, O, _, F, fc, RA, rc, SA, sn, sc, C, cn, cc, f, ss, css, chl, nm, dt, su, H', by show b.calls + 1 = _; omega, e2, e3, e4, e5, e6, e7, e8⟩
theorem One.append (h : One x q w d own k n s st) (hx : nameOk x = true) (hsz : x.size ≤ 1000000) (hk : k < 80000) (BA : Option Addr) (bn bc : Nat) (h1 : n + bn ≤ 1048576) (h2 : ((n + bn : Nat) : Int) ≤ q)
    (news : List Value) (hnl : news.length = bn) (hnews : ∀ u ∈ news, ∃ z : Int, 0 ≤ z ∧ z < 256 ∧ u = .int .u8 z) (hsrc : ∀ W, Chg [d] w W → Src Tryz.prog 1 22 (.slice BA bn bc) bn news W) :
    Calls Tryz.prog 39 #[.pointer (some ⟨d, 0, none⟩), .string x, .slice BA bn bc] w fun e w' => e = .returned (.int .i64 0) ∧ ∃ own', Only own w own' w' ∧ One x q w' d own' (k + 1) (n + bn) s st := by
  obtain ⟨b, F, fc, RA, rc, SA, sn, sc, C, cn, cc, f, ss, css, chl, nm, dt, su, H, e1, e2, e3, e4, e5, e6, e7, e8⟩ := h
  obtain ⟨hE, hF⟩ := with_one b x (.pointer (some ⟨f, 0, none⟩)) hx e2 e3
  have hu : usedO dt [(x, Value.pointer (some ⟨f, 0, none⟩))] = n := by unfold usedO sumLen; simp [e5]
  refine (H.append_yes (by omega) x hsz hE f hF BA bn bc (by omega) (by rw [hu, e4]; omega) news hnews hsrc).mono ?_
  rintro e w' ⟨rfl, own', O, H'⟩
  rw [powered_on b e2 e3] at H'
  exact ⟨rfl, own', O, _, F, fc, RA, rc, SA, sn, sc, C, cn, cc, f, ss, css, chl, nm, _, _, H', by show b.calls + 1 = _; omega, e2, e3, e4, by rw [updP_same, List.length_append]; omega, by rw [updP_same]; exact e6, e7, e8⟩
theorem One.sync (h : One x q w d own k n s st) (hx : nameOk x = true) (hsz : x.size ≤ 1000000) (hk : k < 80000) :
    Calls Tryz.prog 94 #[.pointer (some ⟨d, 0, none⟩), .string x] w fun e w' => e = .returned (.int .i64 0) ∧ ∃ own', Only own w own' w' ∧ One x q w' d own' (k + 1) n n st := by
  obtain ⟨b, F, fc, RA, rc, SA, sn, sc, C, cn, cc, f, ss, css, chl, nm, dt, su, H, e1, e2, e3, e4, e5, e6, e7, e8⟩ := h
  obtain ⟨hE, hF⟩ := with_one b x (.pointer (some ⟨f, 0, none⟩)) hx e2 e3
  refine (H.sync_yes (by omega) x hsz hE f hF).mono ?_
  rintro e w' ⟨rfl, own', O, H'⟩
  rw [powered_on b e2 e3] at H'
  exact ⟨rfl, own', O, _, F, fc, RA, rc, SA, sn, sc, C, cn, cc, f, ss, css, chl, nm, _, _, H', by show b.calls + 1 = _; omega, e2, e3, e4, by rw [updP_same]; exact e5, by rw [updP_same]; exact e5, e7, e8⟩
theorem One.syncDir (h : One x q w d own k n s st) (hk : k < 80000) :
    Calls Tryz.prog 56 #[.pointer (some ⟨d, 0, none⟩)] w fun e w' => e = .returned (.int .i64 0) ∧ ∃ own', Only own w own' w' ∧ One x q w' d own' (k + 1) n s true := by
  obtain ⟨b, F, fc, RA, rc, SA, sn, sc, C, cn, cc, f, ss, css, chl, nm, dt, su, H, e1, e2, e3, e4, e5, e6, e7, e8⟩ := h
  refine (H.syncDir_on (by omega) (by unfold powerB; rw [e2, e3]; rfl)).mono ?_
  rintro e w' ⟨rfl, own', A2, n2, c2, A3, n3, c3, kf, O, H'⟩
  rw [powered_on b e2 e3] at H'
  have hfl : [Value.pointer (some ⟨f, 0, none⟩)].filter (keepV nm ([(x, Value.pointer (some ⟨f, 0, none⟩))].map fun p => nm p.2)) = [Value.pointer (some ⟨f, 0, none⟩)] := by simp [keepV]
  rw [hfl] at H'
  obtain rfl : kf = 1 := by have := H'.line.1; simp at this; omega
  obtain rfl : n3 = 1 := by have := H'.nrow.len; simp at this; omega
  exact ⟨rfl, own', O, _, F, fc, A3, c3, A2, n2, c2, none, 0, 0, f, _, [], [], nm, dt, su, H', by show b.calls + 1 = _; omega, e2, e3, e4, e5, e6, e7, fun _ => ⟨rfl, rfl⟩⟩
theorem One.crash (h : One x q w d own k n s true) (dir : Int) (hdir : -9223372036854775808 ≤ dir ∧ dir ≤ 9223372036854775807) (KA : Option Addr) (kn kc : Nat) (zs : List Int) (hK : ZsAt w KA kn zs) (hkn : kn ≤ 1000000) (hKo : ∀ k ∈ blk KA, own k = 0) (hzs : ∀ z ∈ zs, z ≤ 9223372036854775807) :
    Calls Tryz.prog 32 #[.pointer (some ⟨d, 0, none⟩), .agg #[.int .i64 dir, .slice KA kn kc]] w fun e w' => (∃ v, e = .returned v) ∧ ∃ own', Only own w own' w' ∧ One x q w' d own' k (leftN n s (keptZ zs 0)) (leftN n s (keptZ zs 0)) true := by
  obtain ⟨b, F, fc, RA, rc, SA, sn, sc, C, cn, cc, f, ss, css, chl, nm, dt, su, H, e1, e2, e3, e4, e5, e6, e7, e8⟩ := h
  obtain ⟨rfl, rfl⟩ := e8 rfl
  have hchl : chl = [] := by have := H.chs.1; have := H.cline.1; exact List.eq_nil_of_length_eq_zero (by omega)
  subst hchl
  have hfl : [Value.pointer (some ⟨f, 0, none⟩)].filter (keepV nm ([(x, Value.pointer (some ⟨f, 0, none⟩))].map fun p => nm p.2)) = [Value.pointer (some ⟨f, 0, none⟩)] := by simp [keepV]
  have hsu : s ≤ n := by
    obtain ⟨_, _, m, _, _, _, _, h4, _, _, h7⟩ := H.file _ (List.mem_singleton.2 rfl)
    have := h4.1
    omega
  refine (H.crash dir hdir KA kn kc zs hK hkn (fun _ => hKo) hzs [(x, .pointer (some ⟨f, 0, none⟩))] (by rw [List.take_nil]; rfl) _ hfl).mono ?_
  rintro e w' ⟨h0, own', A2, n2, c2, A3, n3, c3, kf, O, H'⟩
  obtain rfl : kf = 1 := by have := H'.line.1; simp at this; omega
  obtain rfl : n3 = 1 := by have := H'.nrow.len; simp at this; omega
  have hlv : leftV zs nm dt su (.pointer (some ⟨f, 0, none⟩)) = leftN n s (keptZ zs 0) := by unfold leftV; rw [e5, e6, e7]
  refine ⟨h0, own', O, _, F, fc, A3, c3, A2, n2, c2, none, 0, 0, f, _, [], [], _, _, _, H', e1, rfl, rfl, e4, ?_, hlv, ?_, fun _ => ⟨rfl, rfl⟩⟩
  · have := leftN_le n s (keptZ zs 0) hsu
    rw [List.length_take, hlv, e5]
    omega
  · exact standN_eq nm _ _ H.rises 0 rfl
theorem One.read (h : One x q w d own k n s st) :
    Calls Tryz.prog 36 #[.pointer (some ⟨d, 0, none⟩), .string x] w fun e w' => (∃ A' c', e = .returned (.tuple #[.slice A' n c', .int .i64 0])) ∧ Below w.heap.size w w' := by
  obtain ⟨b, F, fc, RA, rc, SA, sn, sc, C, cn, cc, f, ss, css, chl, nm, dt, su, H, e1, e2, e3, e4, e5, e6, e7, e8⟩ := h
  refine (H.read_yes x _ (look_one x _)).mono ?_
  rintro e w' ⟨A', c', h1, _, _, hB⟩
  rw [e5] at h1
  exact ⟨⟨A', c', h1⟩, hB⟩
end
theorem One.create (x : ByteArray) (q : Int) (hq : 0 ≤ q) (w : World) (d : Nat) (own : Nat → Nat) (nm su : Value → Nat) (dt : Value → List Value) (H : DiskIn w d own (newB q) none 0 0 none 0 0 none 0 0 none 0 0 [] [] [] [] [] nm dt su) (hx : nameOk x = true) (hsz : x.size ≤ 1000000) :
    Calls Tryz.prog 38 #[.pointer (some ⟨d, 0, none⟩), .string x] w fun e w' => e = .returned (.int .i64 0) ∧ ∃ own', Only own w own' w' ∧ One x q w' d own' 1 0 0 false := by
  refine (H.create_yes (by show (0 : Int) < 80000; omega) 0 rfl (by omega) (by omega) (by omega) x hsz (begin_one _ x hx rfl rfl) (.inr (by omega))).mono ?_
  rintro e w' ⟨rfl, own', F', fc', fb, A', n', c', C', cc', pb, O, H'⟩
  have hlp : layP [] [(x, Value.pointer (some ⟨fb, 0, none⟩))] = [(x, Value.pointer (some ⟨fb, 0, none⟩))] := rfl
  rw [hlp] at H'
  obtain rfl : n' = 1 := by have := H'.nrow.len; simp at this; omega
  refine ⟨rfl, own', O, _, F', fc', A', c', none, 0, 0, C', 1, cc', fb, _, _, _, _, _, _, H', rfl, rfl, rfl, ?_, by rw [updP_same]; rfl, by rw [updP_same], by rw [updP_same], fun h => by cases h⟩
  show max q 0 = q
  omega
end Go.Proofs.YtkjdjglknbgeaaaGreatDoor
namespace Go.Proofs.YtkjdjglknbgeaaaGreatDoor
open Go.RowKit Go.Maps
set_option linter.unusedVariables false
set_option maxRecDepth 100000

theorem Only.toBelow {B : Nat} {own own' : Nat → Nat} {w w' : World} (h : Only own w own' w') (h0 : ∀ i, i < B → own i = 0) (hB : B ≤ w.heap.size) : Below B w w' := ⟨h.1.os, h.1.tape, h.1.output, h.1.size, fun k hk => h.2.2 k (by omega) (h0 k hk)⟩
/-- Blocks that there are not yet are nobody's. -/
def Fresh0 (own : Nat → Nat) (W : World) : Prop := ∀ i, W.heap.size ≤ i → own i = 0
/-- A disk with one file, in a world that has gone on from w0. -/
def OneF (B : Nat) (w0 : World) (x : ByteArray) (q : Int) (W : World) (d : Nat) (own : Nat → Nat) (k n s : Nat) (st : Bool) : Prop := Fresh0 own W ∧ (∀ i, i < B → own i = 0) ∧ B ≤ w0.heap.size ∧ Below B w0 W ∧ One x q W d own k n s st
/-- Bytes of nobody's. -/
def ByteO (W : World) (own : Nat → Nat) (g : Nat) (us : List Value) : Prop := own g = 0 ∧ ∃ cs : Array Value, cs.toList = us ∧ W.heap[g]? = some (.cells cs 5 (0, 0))
section
variable {B : Nat} {w0 W W' : World} {x : ByteArray} {q : Int} {d k n s g : Nat} {own own' : Nat → Nat} {st : Bool} {us : List Value}
theorem OneF.below (h : OneF B w0 x q W d own k n s st) (hB : Below W.heap.size W W') : OneF B w0 x q W' d own k n s st :=
  ⟨fun i hi => h.1 i (by have := hB.size; omega), h.2.1, h.2.2.1, h.2.2.2.1.trans (hB.mono (by have := h.2.2.2.1.size; have := h.2.2.1; omega)), h.2.2.2.2.below hB own (fun _ _ => rfl)⟩
theorem ByteO.below (h : ByteO W own g us) (hB : Below W.heap.size W W') : ByteO W' own g us := by
  obtain ⟨h0, cs, e, h1⟩ := h
  exact ⟨h0, cs, e, (hB.block g (lt_of_block h1)).trans h1⟩
theorem ByteO.only (h : ByteO W own g us) (hO : Only own W own' W') : ByteO W' own' g us := by
  obtain ⟨h0, cs, e, h1⟩ := h
  have hl := lt_of_block h1
  exact ⟨(hO.2.1 g hl).trans h0, cs, e, (hO.2.2 g hl h0).trans h1⟩
theorem ByteO.new (hF : Fresh0 own W) (cs : Array Value) (e : cs.toList = us) (hg : g = W.heap.size) : ByteO (W.alloc (.cells cs 5)) own g us := by
  subst hg
  exact ⟨hF _ (Nat.le_refl _), cs, e, by show (W.heap.push _)[W.heap.size]? = _; rw [Array.getElem?_push_size]⟩
theorem ByteO.src (h : ByteO W own g us) (hd : own d ≠ 0) (hu : ∀ u ∈ us, ∃ z : Int, 0 ≤ z ∧ z < 256 ∧ u = .int .u8 z) (m : Nat) (hm : us.length = m) (c : Nat) : ∀ W', Chg [d] W W' → Src Tryz.prog 1 22 (.slice (some ⟨g, 0, none⟩) m c) m us W' := by
  intro W' hc
  obtain ⟨h0, cs, e, h1⟩ := h
  have h2 : W'.heap[g]? = some (.cells cs 5 (0, 0)) := (hc.same g (lt_of_block h1) (fun hm => by rw [List.mem_singleton] at hm; rw [hm] at h0; exact hd h0)).trans h1
  refine Src.ofSlice W' Tryz.underlying22 ⟨g, 0, none⟩ m c us (by omega) (fun j u hj => ?_) (fun u hu' => by obtain ⟨z, _, _, ez⟩ := hu u hu'; rw [ez]; rfl)
  have h3 := cell_of_row W' g j cs _ (0, 0) h2
  have e9 : (⟨g, 0, none⟩ : Addr).add j = ⟨g, j, none⟩ := by unfold Addr.add; split <;> simp_all
  rw [e9, h3, ← hj, ← e, Array.getElem?_toList]
theorem One.od (h : One x q W d own k n s st) : own d ≠ 0 := by
  obtain ⟨b, F, fc, RA, rc, SA, sn, sc, C, cn, cc, f, ss, css, chl, nm, dt, su, H, _⟩ := h
  rw [H.od]
  omega
/-- Behind a call. -/
theorem OneF.next (h : OneF B w0 x q W d own k n s st) {k' n' s' : Nat} {st' : Bool} (hO : Only own W own' W') (h1 : One x q W' d own' k' n' s' st') : ∃ own'', Only own W own'' W' ∧ OneF B w0 x q W' d own'' k' n' s' st' := by
  have hz := hO.1.size
  have hBW : B ≤ W.heap.size := by have := h.2.2.2.1.size; have := h.2.2.1; omega
  refine ⟨fun i => if i < W'.heap.size then own' i else 0, ⟨hO.1, fun i hi => (if_pos (by omega)).trans (hO.2.1 i hi), hO.2.2⟩, fun i hi => if_neg (by omega), fun i hi => (if_pos (by omega)).trans ((hO.2.1 i (by omega)).trans (h.2.1 i hi)), h.2.2.1, h.2.2.2.1.trans (hO.toBelow h.2.1 hBW), ?_⟩
  exact h1.below (Below.refl _ _) _ (fun i hi => if_pos hi)
end
theorem OneF.first {B : Nat} {w0 W W' : World} {x : ByteArray} {q : Int} {d k n s : Nat} {own own' : Nat → Nat} {st : Bool} (h1 : Below B w0 W) (h2 : ∀ i, i < B → own i = 0) (hB : B ≤ w0.heap.size) (hO : Only own W own' W') (h3 : One x q W' d own' k n s st) : ∃ own'', Only own W own'' W' ∧ OneF B w0 x q W' d own'' k n s st := by
  have hz := hO.1.size
  have hBW : B ≤ W.heap.size := by have := h1.size; omega
  refine ⟨fun i => if i < W'.heap.size then own' i else 0, ⟨hO.1, fun i hi => (if_pos (by omega)).trans (hO.2.1 i hi), hO.2.2⟩, fun i hi => if_neg (by omega), fun i hi => (if_pos (by omega)).trans ((hO.2.1 i (by omega)).trans (h2 i hi)), hB, h1.trans (hO.toBelow h2 hBW), ?_⟩
  exact h3.below (Below.refl _ _) _ (fun i hi => if_pos hi)
theorem Fresh0.alloc {own : Nat → Nat} {W : World} (h : Fresh0 own W) (o : Obj) : Fresh0 own (W.alloc o) := fun i hi => by
  have h2 : (W.alloc o).heap.size = W.heap.size + 1 := by simp
  exact h i (by omega)
section
variable {B : Nat} {w0 W W' : World} {x : ByteArray} {q : Int} {d k n s g : Nat} {own own' : Nat → Nat} {st : Bool} {us : List Value}
theorem OneF.full (h : OneF B w0 x q W d own k n s st) (hx : nameOk x = true) (hsz : x.size ≤ 1000000) (hk : k < 80000) (BA : Option Addr) (bn bc : Nat) (h1 : n + bn ≤ 1048576) (h2 : q < ((n + bn : Nat) : Int)) :
    Calls Tryz.prog 39 #[.pointer (some ⟨d, 0, none⟩), .string x, .slice BA bn bc] W fun e w' => e = .returned (.int .i64 4) ∧ ∃ own', Only own W own' w' ∧ OneF B w0 x q w' d own' (k + 1) n s st :=
  (h.2.2.2.2.full hx hsz hk BA bn bc h1 h2).mono fun e w' hh => ⟨hh.1, by obtain ⟨_, o, O, h3⟩ := hh; exact h.next O h3⟩
theorem OneF.append (h : OneF B w0 x q W d own k n s st) (hx : nameOk x = true) (hsz : x.size ≤ 1000000) (hk : k < 80000) (bn bc : Nat) (h1 : n + bn ≤ 1048576) (h2 : ((n + bn : Nat) : Int) ≤ q) (hb : ByteO W own g us) (hl : us.length = bn) (hu : ∀ u ∈ us, ∃ z : Int, 0 ≤ z ∧ z < 256 ∧ u = .int .u8 z) :
    Calls Tryz.prog 39 #[.pointer (some ⟨d, 0, none⟩), .string x, .slice (some ⟨g, 0, none⟩) bn bc] W fun e w' => e = .returned (.int .i64 0) ∧ ∃ own', Only own W own' w' ∧ OneF B w0 x q w' d own' (k + 1) (n + bn) s st :=
  (h.2.2.2.2.append hx hsz hk _ bn bc h1 h2 us hl hu (hb.src h.2.2.2.2.od hu bn hl bc)).mono fun e w' hh => ⟨hh.1, by obtain ⟨_, o, O, h3⟩ := hh; exact h.next O h3⟩
theorem OneF.sync (h : OneF B w0 x q W d own k n s st) (hx : nameOk x = true) (hsz : x.size ≤ 1000000) (hk : k < 80000) :
    Calls Tryz.prog 94 #[.pointer (some ⟨d, 0, none⟩), .string x] W fun e w' => e = .returned (.int .i64 0) ∧ ∃ own', Only own W own' w' ∧ OneF B w0 x q w' d own' (k + 1) n n st :=
  (h.2.2.2.2.sync hx hsz hk).mono fun e w' hh => ⟨hh.1, by obtain ⟨_, o, O, h3⟩ := hh; exact h.next O h3⟩
theorem OneF.syncDir (h : OneF B w0 x q W d own k n s st) (hk : k < 80000) :
    Calls Tryz.prog 56 #[.pointer (some ⟨d, 0, none⟩)] W fun e w' => e = .returned (.int .i64 0) ∧ ∃ own', Only own W own' w' ∧ OneF B w0 x q w' d own' (k + 1) n s true :=
  (h.2.2.2.2.syncDir hk).mono fun e w' hh => ⟨hh.1, by obtain ⟨_, o, O, h3⟩ := hh; exact h.next O h3⟩
theorem OneF.crash1 (h : OneF B w0 x q W d own k n s true) (g1 : Nat) (c1 : Nat) (T : TypeId) (hg : own g1 = 0) (hb : W.heap[g1]? = some (.cells #[.int .i64 1] T (0, 0))) (hns : s < n) :
    Calls Tryz.prog 32 #[.pointer (some ⟨d, 0, none⟩), .agg #[.int .i64 0, .slice (some ⟨g1, 0, none⟩) 1 c1]] W fun e w' => (∃ v, e = .returned v) ∧ ∃ own', Only own W own' w' ∧ OneF B w0 x q w' d own' k (s + 1) (s + 1) true := by
  have hK : ZsAt W (some ⟨g1, 0, none⟩) 1 [1] := ⟨rfl, fun _ => ⟨g1, 0, rfl, lt_of_block hb, fun j z hj => by
    have hj1 := (List.getElem?_eq_some_iff.1 hj).1
    simp only [List.length_cons, List.length_nil] at hj1
    obtain rfl : j = 0 := by omega
    cases hj
    rw [cell_of_row W g1 (0 + 0) _ _ (0, 0) hb]
    rfl⟩⟩
  have e1 : leftN n s (keptZ [1] 0) = s + 1 := by
    have : keptZ [1] 0 = 1 := rfl
    rw [this]
    unfold leftN
    omega
  refine (h.2.2.2.2.crash 0 (by omega) (some ⟨g1, 0, none⟩) 1 c1 [1] hK (by omega) (fun k hk => by rw [blk_one hk]; exact hg) (fun z hz => by rw [List.mem_singleton] at hz; omega)).mono fun e w' hh => ⟨hh.1, by
    obtain ⟨_, o, O, h3⟩ := hh
    rw [e1] at h3
    exact h.next O h3⟩
end
theorem info_u8g : (Tryz.prog.info? 5).map (fun i => (i.zero, i.size, i.bytes)) = some (some (.int .u8 0), 1, 1) := by kernel_rfl
theorem make_g (n : Nat) (hn : n ≤ 1000) (W : World) : (Instr.makeSlice 22 (.int .i64 (n : Int)) (.int .i64 (n : Int))).run Tryz.prog W = .ok (.slice (some ⟨W.heap.size, 0, none⟩) n n) (W.alloc (.cells (List.replicate n (Value.int .u8 0)).toArray 5)) := by
  obtain ⟨i0, hi, hz0, hz1, hz2⟩ := info_parts info_u8g
  have h := run_make (P := Tryz.prog) W 22 5 i0 (.int .u8 0) Tryz.underlying22 hi hz0 .i64 .i64 n n (by omega) (by omega) (by rw [hz2]; omega) (by omega)
  rw [h]
  congr 3
  rw [hz1, Int.toNat_natCast, Nat.mul_one]
  apply Array.toList_inj.1
  show (madeCells #[.int .u8 0] n).toList = _
  rw [toList_madeCells_one]
end Go.Proofs.YtkjdjglknbgeaaaGreatDoor
namespace Go.Proofs.YtkjdjglknbgeaaaGreatDoor
open Go.RowKit Go.Maps
set_option linter.unusedVariables false
set_option maxRecDepth 100000

/-- A name's file; -1: none. -/
def atN (ps : List (ByteArray × Value)) (x : ByteArray) : Int := match lookP ltS ps x with | some v => (numOf v : Int) | none => -1
/-- The values are numbers. -/
def Nums (ps : List (ByteArray × Value)) : Prop := ∀ p ∈ ps, ∃ k : Nat, p.2 = numV k ∧ k ≤ 1000000
theorem look_here {ps : List (ByteArray × Value)} (hr : Rises ltS ps) {x : ByteArray} {v : Value} {k : Nat} (h : ps[k]? = some (x, v)) : lookP ltS ps x = some v := (look_some orders_S hr).2 (List.mem_of_getElem? h)
theorem look_nowhere {ps : List (ByteArray × Value)} (hr : Rises ltS ps) {x : ByteArray} (h : ∀ p ∈ ps, p.1 ≠ x) : lookP ltS ps x = none := (look_none orders_S hr).2 fun v hm => h _ hm rfl
theorem beq_bytes {a b : ByteArray} : (a.toList == b.toList) = decide (a = b) := by
  by_cases h : a = b
  · subst h; simp
  · rw [decide_eq_false h]
    simp only [beq_eq_false_iff_ne, ne_eq]
    exact fun e => h (bytes_inj e)
end Go.Proofs.YtkjdjglknbgeaaaGreatDoor
