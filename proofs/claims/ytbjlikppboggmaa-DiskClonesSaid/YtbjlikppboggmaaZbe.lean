/-
  Both disks side by side: what holds of the document's disk where a disk in memory is it; the two apart from each other.
  The law's Do, kinds 0: both disks answer alike, and both are as the document's disk behind it.
  The law's Do, kinds 1: both disks answer alike, and both are as the document's disk behind it.
  The law's Do, kinds 2: both disks answer alike, and both are as the document's disk behind it.
  The law's Do, kinds 3: both disks answer alike, and both are as the document's disk behind it.
  The law's Do, kinds 4: both disks answer alike, and both are as the document's disk behind it.
-/
import Derived.Test.YtbjlikppboggmaaZbd
import Derived.Test.YtbjlikppboggmaaZaa
namespace Go.Proofs.Ytbjlikppboggmaa
open Go.RowKit Go.Maps
set_option linter.unusedVariables false
set_option maxRecDepth 100000

theorem IsD.fct {w : World} {d : Nat} {own : Nat → Nat} {r : RD} (h : IsD w d own r) : Fct r ∧ ∀ x, hasP ltS r.now x = true → ∀ u ∈ (r.get x).data, u.oneCell' = true := by
  have hsh := h.shape
  have h0 := h
  obtain ⟨hF, b, F, fn, fc, RA, rn, rc, SA, sn, sc, C, cn, cc, fs, ps, ss, css, chl, nm, dt, su, H, R⟩ := h
  have hnum : ∀ l : List (ByteArray × Value), (∀ p ∈ l, p.2 ∈ fs) → ∀ p ∈ mapT nm l, ∃ k : Nat, p.2 = numV k ∧ k < r.files.length := by
    intro l hl p hp
    obtain ⟨q, hq, rfl⟩ := List.mem_map.1 hp
    have hm := hl q hq
    exact ⟨nm q.2, tag_some _ _ (H.ne _ hm), (List.getElem?_eq_some_iff.1 (R.files _ hm)).1⟩
  refine ⟨⟨hsh.2.2, hsh.1, ?_, ?_, hsh.2.1, ?_, ?_, by rw [← R.quota]; exact H.quota, by have h1 := R.stop; have h2 := H.ahead; omega⟩, fun x hx u hu => ?_⟩
  · rw [H.rnow R]
    exact hnum ps H.nin
  · rw [R.sure]
    exact hnum ss H.sin
  · intro p hp
    rw [H.rnow R] at hp
    obtain ⟨q, hq, rfl⟩ := List.mem_map.1 hp
    have hm := H.nin q hq
    show (r.file (numOf (tag nm q.2))).data.length ≤ _
    obtain ⟨f, A, n, c, e, h7, hfa, hsl, hoA, hn, _⟩ := H.file _ hm
    have hlen := hsl.1
    unfold RD.file
    rw [tag_some _ _ (H.ne _ hm), numOf_numV, List.getD_eq_getElem?_getD, R.files _ hm]
    show (dt q.2).length ≤ _
    omega
  · rw [H.rused R]
    exact H.usedLe
  · obtain ⟨z, _, _, e⟩ := (h0.bytes x hx).1 u hu
    rw [e]
    rfl
section
variable {r : RD}
theorem Named.powered (h : Named r) : Named r.powered := by unfold Named; rw [r.powered_sure, r.powered_chs]; exact h
theorem begE_ok {ns : List ByteArray} (h : r.begE ns = 0) : ∀ n ∈ ns, nameOk n = true := by
  unfold RD.begE at h
  split at h
  · split at h
    · rename_i e; exact List.all_eq_true.1 e
    · omega
  · omega
theorem witE_beg {ns : List ByteArray} {x : ByteArray} (h : r.witE ns x = 0) : r.begE ns = 0 := by
  unfold RD.witE at h
  split at h
  · assumption
  · exact h
theorem Named.more (h : Named r) {r' : RD} (e1 : r'.sure = r.sure) (c : List (ByteArray × Value)) (e2 : r'.chs = r.chs ++ [c]) (hc : ∀ q ∈ c, q.1 ≠ ⟨#[]⟩) : Named r' := by
  unfold Named
  rw [e1, e2]
  exact ⟨h.1, fun c' hc' => by
    rcases List.mem_append.1 hc' with h' | h'
    · exact h.2 c' h'
    · rw [List.mem_singleton] at h'; rw [h']; exact hc⟩
theorem Named.create (h : Named r) (x : ByteArray) : Named (r.create x).2 := by
  unfold RD.create
  split
  · rename_i e
    split
    · exact h.powered
    · refine h.more (r.powered_sure) _ rfl fun q hq => ?_
      rw [List.mem_singleton] at hq
      rw [hq]
      exact name_some (begE_ok e x (List.mem_singleton.2 rfl))
  · exact h.powered
theorem Named.append (h : Named r) (x : ByteArray) (bs : List Value) : Named (r.append x bs).2 := by
  unfold RD.append
  split
  · split
    · exact h.powered
    · split
      · exact h.powered
      · exact h.powered
  · exact h.powered
theorem Named.sync (h : Named r) (x : ByteArray) : Named (r.sync x).2 := by
  unfold RD.sync
  split
  · exact h.powered
  · exact h.powered
theorem Named.syncDir (h : Named r) : Named r.syncDir.2 := by
  unfold RD.syncDir
  split
  · exact ⟨h.now, fun c hc => by cases hc⟩
  · exact h.powered
theorem Named.rename (h : Named r) (x y : ByteArray) : Named (r.rename x y).2 := by
  unfold RD.rename
  split
  · rename_i e
    have hn := begE_ok (witE_beg e)
    refine h.more r.powered_sure _ rfl fun q hq => ?_
    simp only [List.mem_cons, List.not_mem_nil, or_false] at hq
    rcases hq with e | e
    · rw [e]; exact name_some (hn x (by simp))
    · rw [e]; exact name_some (hn y (by simp))
  · exact h.powered
theorem Named.remove (h : Named r) (x : ByteArray) : Named (r.remove x).2 := by
  unfold RD.remove
  split
  · rename_i e
    refine h.more r.powered_sure _ rfl fun q hq => ?_
    rw [List.mem_singleton] at hq
    rw [hq]
    exact name_some (begE_ok (witE_beg e) x (by simp))
  · exact h.powered
theorem Named.crash (h : Named r) (dir : Int) (zs : List Int) : Named (r.crash dir zs) := by
  refine ⟨fun q hq => ?_, fun c hc => by cases hc⟩
  obtain ⟨p, hp, rfl⟩ := List.mem_map.1 hq
  exact lay_named _ _ h.1 (fun c hc => h.2 c (List.mem_of_mem_take hc)) p hp
theorem Named.turn (h : Named r) (x : ByteArray) (a : Int) (m : Nat) : Named (r.turn x a m) := by
  unfold RD.turn
  split
  · exact h
  · exact h
theorem Named.fresh (q : Int) : Named (RD.fresh q) := ⟨fun p hp => (by cases hp), fun c hc => (by cases hc)⟩
/-- How great a call leaves a disk. -/
theorem size_create (x : ByteArray) : (r.create x).2.size ≤ r.size + 4 := by
  have hp := r.powered_size
  have hc := r.powered_calls
  unfold RD.create
  split
  · split
    · show r.powered.size ≤ _; omega
    · unfold RD.size at *
      show r.powered.calls + (r.files ++ [_]).length + r.powered.sure.length + 2 * (r.chs ++ [_]).length ≤ _
      rw [List.length_append, List.length_append, r.powered_sure]
      simp only [List.length_cons, List.length_nil]
      omega
  · show r.powered.size ≤ _; omega
theorem size_append (x : ByteArray) (bs : List Value) : (r.append x bs).2.size ≤ r.size + 4 := by
  have hp := r.powered_size
  have hc := r.powered_calls
  unfold RD.append
  split
  · split
    · show r.powered.size ≤ _; omega
    · split
      · show r.powered.size ≤ _; omega
      · unfold RD.size at *
        show r.powered.calls + (r.files.set _ _).length + r.powered.sure.length + 2 * r.powered.chs.length ≤ _
        rw [List.length_set, r.powered_sure, r.powered_chs]
        omega
  · show r.powered.size ≤ _; omega
theorem size_sync (x : ByteArray) : (r.sync x).2.size ≤ r.size + 4 := by
  have hp := r.powered_size
  have hc := r.powered_calls
  unfold RD.sync
  split
  · unfold RD.size at *
    show r.powered.calls + (r.files.set _ _).length + r.powered.sure.length + 2 * r.powered.chs.length ≤ _
    rw [List.length_set, r.powered_sure, r.powered_chs]
    omega
  · show r.powered.size ≤ _; omega
theorem size_syncDir (F : Fct r) : r.syncDir.2.size ≤ r.size + 4 := by
  have hp := r.powered_size
  have hc := r.powered_calls
  unfold RD.syncDir
  split
  · have h := (layAll_len r.chs r.sure F.rs F.two).2
    unfold RD.size at *
    show r.powered.calls + r.powered.files.length + r.now.length + 2 * 0 ≤ _
    rw [r.powered_files]
    unfold RD.now
    omega
  · show r.powered.size ≤ _; omega
theorem size_rename (x y : ByteArray) : (r.rename x y).2.size ≤ r.size + 4 := by
  have hp := r.powered_size
  have hc := r.powered_calls
  unfold RD.rename
  split
  · unfold RD.size at *
    show r.powered.calls + r.powered.files.length + r.powered.sure.length + 2 * (r.chs ++ [_]).length ≤ _
    rw [List.length_append, r.powered_sure, r.powered_files]
    simp only [List.length_cons, List.length_nil]
    omega
  · show r.powered.size ≤ _; omega
theorem size_remove (x : ByteArray) : (r.remove x).2.size ≤ r.size + 4 := by
  have hp := r.powered_size
  have hc := r.powered_calls
  unfold RD.remove
  split
  · unfold RD.size at *
    show r.powered.calls + r.powered.files.length + r.powered.sure.length + 2 * (r.chs ++ [_]).length ≤ _
    rw [List.length_append, r.powered_sure, r.powered_files]
    simp only [List.length_cons, List.length_nil]
    omega
  · show r.powered.size ≤ _; omega
end
/-- Blocks of somebody else's that stay as they are. -/
class Keep where
  block : Nat → Option Obj
@[reducible] def keepNo : Keep := ⟨fun _ => none⟩
theorem Only.keeps {own own' : Nat → Nat} {w w' : World} (O : Only own w own' w') {i : Nat} {o : Obj} (h0 : own i = 0) (hb : w.heap[i]? = some o) : own' i = 0 ∧ w'.heap[i]? = some o := by
  have hl := (Array.getElem?_eq_some_iff.1 hb).1
  exact ⟨(O.2.1 i hl).trans h0, (O.2.2 i hl h0).trans hb⟩
/-- Both disks, of one state, apart, in a world that has gone on from w0, where they were not yet. -/
structure Both [Keep] (w0 W : World) (d x : Nat) (own ox : Nat → Nat) (r : RD) : Prop where
  d0 : ∀ i, i < w0.heap.size → own i = 0
  x0 : ∀ i, i < w0.heap.size → ox i = 0
  on : Below w0.heap.size w0 W
  isD : IsD W d own r
  isR : IsR W x ox r
  apart : ∀ i, own i = 0 ∨ ox i = 0
  named : Named r
  kp : ∀ i o, Keep.block i = some o → own i = 0 ∧ ox i = 0 ∧ W.heap[i]? = some o
/-- Between the two calls of one step. -/
structure Half [Keep] (w0 W : World) (d x : Nat) (own ox : Nat → Nat) (r r' : RD) : Prop where
  d0 : ∀ i, i < w0.heap.size → own i = 0
  x0 : ∀ i, i < w0.heap.size → ox i = 0
  on : Below w0.heap.size w0 W
  isD : IsD W d own r'
  isR : IsR W x ox r
  apart : ∀ i, own i = 0 ∨ ox i = 0
  kp : ∀ i o, Keep.block i = some o → own i = 0 ∧ ox i = 0 ∧ W.heap[i]? = some o
section
variable [Keep] {w0 W W' : World} {d x : Nat} {own ox : Nat → Nat} {r r' : RD}
theorem Both.disk (h : Both w0 W d x own ox r) (hN : DNext W d own r' W') : ∃ own', Only own W own' W' ∧ Half w0 W' d x own' ox r r' := by
  obtain ⟨own', O, H⟩ := hN
  have hz := h.on.size
  have hzO := O.1.size
  refine ⟨own', O, fun i hi => (O.2.1 i (by omega)).trans (h.d0 i hi), h.x0, h.on.trans (O.toBelow h.d0 hz), H, ?_, fun i => ?_, fun i o hi => ⟨(O.keeps (h.kp i o hi).1 (h.kp i o hi).2.2).1, (h.kp i o hi).2.1, (O.keeps (h.kp i o hi).1 (h.kp i o hi).2.2).2⟩⟩
  · refine h.isR.carry hzO (fun _ _ => rfl) (fun k hk hx => O.2.2 k hk ((h.apart k).resolve_right hx)) (fun i hi => h.isR.1 i (by omega))
  · rcases Nat.lt_or_ge i W.heap.size with q | q
    · rw [O.2.1 i q]; exact h.apart i
    · exact .inr (h.isR.1 i q)
theorem Half.ref (h : Half w0 W d x own ox r r') (hn : Named r') (hN : RNext W x ox r' W') : ∃ ox', Only ox W ox' W' ∧ Both w0 W' d x own ox' r' := by
  obtain ⟨ox', O, H⟩ := hN
  have hz := h.on.size
  have hzO := O.1.size
  refine ⟨ox', O, h.d0, fun i hi => (O.2.1 i (by omega)).trans (h.x0 i hi), h.on.trans (O.toBelow h.x0 hz), ?_, H, fun i => ?_, hn, fun i o hi => ⟨(h.kp i o hi).1, (O.keeps (h.kp i o hi).2.1 (h.kp i o hi).2.2).1, (O.keeps (h.kp i o hi).2.1 (h.kp i o hi).2.2).2⟩⟩
  · refine h.isD.carry hzO (fun _ _ => rfl) (fun k hk hx => O.2.2 k hk ((h.apart k).resolve_left hx)) (fun i hi => h.isD.1 i (by omega))
  · rcases Nat.lt_or_ge i W.heap.size with q | q
    · rw [O.2.1 i q]; exact h.apart i
    · exact .inl (h.isD.1 i q)
theorem Both.below (h : Both w0 W d x own ox r) (hB : Below W.heap.size W W') : Both w0 W' d x own ox r :=
  ⟨h.d0, h.x0, h.on.trans (hB.mono h.on.size), h.isD.below hB, h.isR.below hB, h.apart, h.named, fun i o hi => ⟨(h.kp i o hi).1, (h.kp i o hi).2.1, (hB.block i (Array.getElem?_eq_some_iff.1 (h.kp i o hi).2.2).1).trans (h.kp i o hi).2.2⟩⟩
theorem Half.below (h : Half w0 W d x own ox r r') (hB : Below W.heap.size W W') : Half w0 W' d x own ox r r' :=
  ⟨h.d0, h.x0, h.on.trans (hB.mono h.on.size), h.isD.below hB, h.isR.below hB, h.apart, fun i o hi => ⟨(h.kp i o hi).1, (h.kp i o hi).2.1, (hB.block i (Array.getElem?_eq_some_iff.1 (h.kp i o hi).2.2).1).trans (h.kp i o hi).2.2⟩⟩
end
end Go.Proofs.Ytbjlikppboggmaa
namespace Go.Proofs.Ytbjlikppboggmaa
open Go.RowKit Go.Maps
set_option linter.unusedVariables false
set_option maxRecDepth 100000

theorem Both.fct [Keep] {w0 W : World} {d x : Nat} {own ox : Nat → Nat} {r : RD} (h : Both w0 W d x own ox r) : Fct r := h.isD.fct.1
theorem RowZ.blk {w V : World} {A : Option Addr} {n : Nat} {zs : List Int} (h : RowZ w A n zs) (hz : w.heap.size ≤ V.heap.size) (hs : 0 < n → ∀ b off, A = some ⟨b, off, none⟩ → b < w.heap.size → V.heap[b]? = w.heap[b]?) : RowZ V A n zs := by
  refine ⟨h.1, h.2.1, fun hn => ?_⟩
  obtain ⟨b, off, e, hlt, hcc⟩ := h.2.2 hn
  exact ⟨b, off, e, by omega, fun i hi => (World.cell?_of_block (w := w) (a := ⟨b, off + i, none⟩) (hs hn b off e hlt)).trans (hcc i hi)⟩
theorem Both.half [Keep] {w0 W : World} {d x : Nat} {own ox : Nat → Nat} {r : RD} (h : Both w0 W d x own ox r) : Half w0 W d x own ox r r := ⟨h.d0, h.x0, h.on, h.isD, h.isR, h.apart, h.kp⟩
theorem Half.disk [Keep] {w0 W W' : World} {d x : Nat} {own ox : Nat → Nat} {r r' r2 : RD} (h : Half w0 W d x own ox r r') (hN : DNext W d own r2 W') : ∃ own', Only own W own' W' ∧ Half w0 W' d x own' ox r r2 := by
  obtain ⟨own', O, H⟩ := hN
  have hz := h.on.size
  have hzO := O.1.size
  refine ⟨own', O, fun i hi => (O.2.1 i (by omega)).trans (h.d0 i hi), h.x0, h.on.trans (O.toBelow h.d0 hz), H, ?_, fun i => ?_, fun i o hi => ⟨(O.keeps (h.kp i o hi).1 (h.kp i o hi).2.2).1, (h.kp i o hi).2.1, (O.keeps (h.kp i o hi).1 (h.kp i o hi).2.2).2⟩⟩
  · refine h.isR.carry hzO (fun _ _ => rfl) (fun k hk hx => O.2.2 k hk ((h.apart k).resolve_right hx)) (fun i hi => h.isR.1 i (by omega))
  · rcases Nat.lt_or_ge i W.heap.size with q | q
    · rw [O.2.1 i q]; exact h.apart i
    · exact .inr (h.isR.1 i q)
theorem Half.other [Keep] {w0 W W' : World} {d x : Nat} {own ox : Nat → Nat} {q q' r : RD} (h : Half w0 W d x own ox q r) (hN : RNext W x ox q' W') : ∃ ox', Only ox W ox' W' ∧ Half w0 W' d x own ox' q' r := by
  obtain ⟨ox', O, H⟩ := hN
  have hz := h.on.size
  have hzO := O.1.size
  refine ⟨ox', O, h.d0, fun i hi => (O.2.1 i (by omega)).trans (h.x0 i hi), h.on.trans (O.toBelow h.x0 hz), ?_, H, fun i => ?_, fun i o hi => ⟨(h.kp i o hi).1, (O.keeps (h.kp i o hi).2.1 (h.kp i o hi).2.2).1, (O.keeps (h.kp i o hi).2.1 (h.kp i o hi).2.2).2⟩⟩
  · refine h.isD.carry hzO (fun _ _ => rfl) (fun k hk hx => O.2.2 k hk ((h.apart k).resolve_left hx)) (fun i hi => h.isD.1 i (by omega))
  · rcases Nat.lt_or_ge i W.heap.size with q | q
    · rw [O.2.1 i q]; exact h.apart i
    · exact .inl (h.isD.1 i q)
section
variable [Keep] {w0 W W' : World} {d x : Nat} {own ox : Nat → Nat} {r r' q : RD}
set_option maxHeartbeats 3200000 in
theorem do0_two (h : Half w0 W d x own ox q r) (hNm : Named q) (hFc : Fct q) (hs : r.size + 4 ≤ 79000) (hq : q.size ≤ 79000) (A B : ByteArray) (hA : A.size ≤ 1000000) (hB : B.size ≤ 1000000) (DA : Option Addr) (dn dc : Nat) (N dir : Int) (KA : Option Addr) (kn kc : Nat) (kind : Nat) (hk : kind % 10 = 0) (he : (r.create A).1 = (q.create A).1) :
    Calls Try.prog 10 #[.pointer (some ⟨d, 0, none⟩), .pointer (some ⟨x, 0, none⟩), .agg #[.int .u64 (kind : Int), .string A, .string B, .slice DA dn dc, .int .i64 N, .int .i64 dir, .slice KA kn kc]] W fun e w' => e = .returned (.bool true) ∧ ∃ own' ox', Half w0 w' d x own' ox' (q.create A).2 (r.create A).2 := by
  have hk' : (kind : Int) % 10 = 0 := by omega
  obtain ⟨W1, hW1⟩ : ∃ W1, W.alloc (.cells #[.int .u64 (kind : Int), .string A, .string B, .slice DA dn dc, .int .i64 N, .int .i64 dir, .slice KA kn kc] 34) = W1 := ⟨_, rfl⟩
  have hB1 : Below W.heap.size W W1 := by rw [← hW1]; exact (Below.refl _ W).alloc (Nat.le_refl _) _
  have hbx : W1.heap[W.heap.size]? = some (.cells #[.int .u64 (kind : Int), .string A, .string B, .slice DA dn dc, .int .i64 N, .int .i64 dir, .slice KA kn kc] 34 (0, 0)) := by rw [← hW1]; exact heap_alloc_new W _
  obtain ⟨bx, hbxe⟩ : ∃ bx, W.heap.size = bx := ⟨_, rfl⟩
  have hbo : own bx = 0 ∧ ox bx = 0 := ⟨h.isD.1 bx (by omega), h.isR.1 bx (by omega)⟩
  have h1 : Half w0 W1.drew d x own ox q r := (h.below hB1).below (Below.refl _ W1).drew
  rw [hbxe] at hbx
  have b0 : W1.cell? ⟨bx, 0, none⟩ = some (.int .u64 (kind : Int)) := by rw [cell_of_row _ bx 0 _ _ (0, 0) hbx]; rfl
  have HBX := Lib.hid (And.intro hbx hbo)
  have HF := Lib.hid hFc
  have HSZ := Lib.hid hq
  have HNM := Lib.hid hNm
  have HC1 := Lib.hid ((h1.isD.create (by omega) A hA).mono fun e w' hh => (⟨hh.1, h1.disk hh.2⟩ : e = .returned (.int .i64 (r.create A).1) ∧ ∃ own', Only own W1.drew own' w' ∧ Half w0 w' d x own' ox q (r.create A).2))
  obtain ⟨z, hz⟩ : ∃ z, (r.create A).1 = z := ⟨_, rfl⟩
  have HZ := Lib.hid (he.symm.trans hz)
  obtain ⟨rn, hrn⟩ : ∃ rn, (r.create A).2 = rn := ⟨_, rfl⟩
  obtain ⟨qn, hqn⟩ : ∃ qn, (q.create A).2 = qn := ⟨_, rfl⟩
  have HQN := Lib.hid hqn
  rw [hz, hrn] at HC1
  rw [hrn, hqn]
  clear h hs hq he hB1 hbx hbo h1 hz hrn hqn hk hNm hFc
  go_enter Try.func10, Try.ntmps10
  go_upto_region 5 with fail
  have HSS : Hid (W1.drew.heap[bx]? = some (.cells #[.int .u64 (kind : Int), .string A, .string B, .slice DA dn dc, .int .i64 N, .int .i64 dir, .slice KA kn kc] 34 (0, 0))) := Lib.hid HBX.out.1
  refine wp_region_held_drew (S := fun V => V.heap[bx]? = some (.cells #[.int .u64 (kind : Int), .string A, .string B, .slice DA dn dc, .int .i64 N, .int .i64 dir, .slice KA kn kc] 34 (0, 0))) (by kernel_rfl) HSS.out (fun _ => ?_)
  refine takeH 0 36 (v := (.pointer (some ⟨d, 0, none⟩))) rfl rfl (by kernel_rfl) (by kernel_rfl) (by kernel_rfl) (fun _ _ _ h => h) (by rfl) ?_ HSS.out ?_
  · intro w hSw
    go_simp
  refine takeH 1 37 (v := (.pointer (some ⟨bx, 1, none⟩))) rfl rfl (by kernel_rfl) (by kernel_rfl) (by kernel_rfl) (fun _ _ _ h => h) (by rfl) ?_ HSS.out ?_
  · intro w hSw
    go_simp
  refine takeH 2 38 (v := (.string A)) rfl rfl (by kernel_rfl) (by kernel_rfl) (by kernel_rfl) (fun _ _ _ h => h) (by rfl) ?_ HSS.out ?_
  · intro w hSw
    have q1 : w.cell? ⟨bx, 1, none⟩ = some (.string A) := by rw [cell_of_row w bx 1 _ _ (0, 0) hSw]; rfl
    have q2 : w.cell? ⟨bx, 2, none⟩ = some (.string B) := by rw [cell_of_row w bx 2 _ _ (0, 0) hSw]; rfl
    have q3 : w.cell? ⟨bx, 3, none⟩ = some (.slice DA dn dc) := by rw [cell_of_row w bx 3 _ _ (0, 0) hSw]; rfl
    go_simp
  refine takeH 4 40 (v := (.pointer (some ⟨x, 0, none⟩))) rfl rfl (by kernel_rfl) (by kernel_rfl) (by kernel_rfl) (fun _ _ _ h => h) (by rfl) ?_ HSS.out ?_
  · intro w hSw
    go_simp
  refine takeH 5 41 (v := (.int .i64 0)) rfl rfl (by kernel_rfl) (by kernel_rfl) (by kernel_rfl) (fun _ _ _ h => h) (by rfl) ?_ HSS.out ?_
  · intro w hSw
    go_simp
  refine takeH 6 42 (v := (.pointer (some ⟨bx, 1, none⟩))) rfl rfl (by kernel_rfl) (by kernel_rfl) (by kernel_rfl) (fun _ _ _ h => h) (by rfl) ?_ HSS.out ?_
  · intro w hSw
    go_simp
  refine takeH 7 43 (v := (.string A)) rfl rfl (by kernel_rfl) (by kernel_rfl) (by kernel_rfl) (fun _ _ _ h => h) (by rfl) ?_ HSS.out ?_
  · intro w hSw
    have q1 : w.cell? ⟨bx, 1, none⟩ = some (.string A) := by rw [cell_of_row w bx 1 _ _ (0, 0) hSw]; rfl
    have q2 : w.cell? ⟨bx, 2, none⟩ = some (.string B) := by rw [cell_of_row w bx 2 _ _ (0, 0) hSw]; rfl
    have q3 : w.cell? ⟨bx, 3, none⟩ = some (.slice DA dn dc) := by rw [cell_of_row w bx 3 _ _ (0, 0) hSw]; rfl
    go_simp
  refine wpAnyH_ready (rs := [3]) (by kernel_rfl) (by simp) ?_
  refine AllReadyH.cons rfl (fun K hK => ?_) AllReadyH.nil
  go_simp
  go_at_call 16
  refine HC1.out.mono ?_
  rintro e w2 ⟨rfl, own2, O2, h2⟩
  have HS2 : Hid (w2.heap[bx]? = some (.cells #[.int .u64 (kind : Int), .string A, .string B, .slice DA dn dc, .int .i64 N, .int .i64 dir, .slice KA kn kc] 34 (0, 0))) := Lib.hid ((O2.2.2 bx (lt_of_block HSS.out) HBX.out.2.1).trans HSS.out)
  have HC2 := Lib.hid ((h2.isR.create HF.out HSZ.out HNM.out A hA).mono fun e w' hh => (by rw [HZ.out, HQN.out] at hh; exact ⟨hh.1, h2.other hh.2⟩ : e = .returned (.int .i64 z) ∧ ∃ ox', Only ox w2 ox' w' ∧ Half w0 w' d x own2 ox' qn rn))
  clear h2 O2
  refine hK.out _ _ HS2.out (fun _ => ?_)
  clear hK K
  refine wpAnyH_ready (rs := [8]) (by kernel_rfl) (by simp) ?_
  refine AllReadyH.cons rfl (fun K hK => ?_) AllReadyH.nil
  go_simp
  go_at_call 33
  refine HC2.out.mono ?_
  rintro e w3 ⟨rfl, ox3, O3, h3⟩
  have HS3 : Hid (w3.heap[bx]? = some (.cells #[.int .u64 (kind : Int), .string A, .string B, .slice DA dn dc, .int .i64 N, .int .i64 dir, .slice KA kn kc] 34 (0, 0))) := Lib.hid ((O3.2.2 bx (lt_of_block HS2.out) HBX.out.2.2).trans HS2.out)
  have H3 := Lib.hid h3
  clear h3 O3
  refine hK.out _ _ HS3.out (fun _ => ?_)
  clear hK K
  refine takeH 9 45 (v := (.bool true)) rfl rfl (by kernel_rfl) (by kernel_rfl) (by kernel_rfl) (fun _ _ _ h => h) (by rfl) ?_ HS3.out ?_
  · intro w hSw
    go_simp
  refine takeH 10 6 (v := (.bool true)) rfl rfl (by kernel_rfl) (by kernel_rfl) (by kernel_rfl) (fun _ _ _ h => h) (by rfl) ?_ HS3.out ?_
  · intro w hSw
    go_simp
  refine wpAnyH_done (by kernel_rfl) ?_ _
  go_wp2
  go_ret
  exact ⟨rfl, own2, ox3, H3.out⟩
theorem do0_any (h : Both w0 W d x own ox r) (hs : r.size + 4 ≤ 79000) (A B : ByteArray) (hA : A.size ≤ 1000000) (hB : B.size ≤ 1000000) (DA : Option Addr) (dn dc : Nat) (N dir : Int) (KA : Option Addr) (kn kc : Nat) (kind : Nat) (hk : kind % 10 = 0) :
    Calls Try.prog 10 #[.pointer (some ⟨d, 0, none⟩), .pointer (some ⟨x, 0, none⟩), .agg #[.int .u64 (kind : Int), .string A, .string B, .slice DA dn dc, .int .i64 N, .int .i64 dir, .slice KA kn kc]] W fun e w' => e = .returned (.bool true) ∧ ∃ own' ox', Both w0 w' d x own' ox' (r.create A).2 ∧ RD.size (r.create A).2 ≤ r.size + 4 :=
  (do0_two h.half h.named h.fct hs (by omega) A B hA hB DA dn dc N dir KA kn kc kind hk rfl).mono fun e w' ⟨he, own', ox', h'⟩ => ⟨he, own', ox', ⟨h'.d0, h'.x0, h'.on, h'.isD, h'.isR, h'.apart, h.named.create A, h'.kp⟩, size_create A⟩
end
end Go.Proofs.Ytbjlikppboggmaa
namespace Go.Proofs.Ytbjlikppboggmaa
open Go.RowKit Go.Maps
set_option linter.unusedVariables false
set_option maxRecDepth 100000

section
variable [Keep] {w0 W W' : World} {d x : Nat} {own ox : Nat → Nat} {r r' q : RD}
set_option maxHeartbeats 3200000 in
theorem do1_two (h : Half w0 W d x own ox q r) (hNm : Named q) (hFc : Fct q) (hs : r.size + 4 ≤ 79000) (hq : q.size ≤ 79000) (A B : ByteArray) (hA : A.size ≤ 1000000) (hB : B.size ≤ 1000000) (DA : Option Addr) (dn dc : Nat) (N dir : Int) (KA : Option Addr) (kn kc : Nat) (kind : Nat) (hk : kind % 10 = 1) (zs : List Int) (hD : RowZ w0 DA dn zs) (hdn : dn ≤ 10000000) (hone : hasP ltS q.now A = true → ∀ u ∈ (q.get A).data, u.oneCell' = true) (he : (r.append A (cellsZ zs)).1 = (q.append A (cellsZ zs)).1) :
    Calls Try.prog 10 #[.pointer (some ⟨d, 0, none⟩), .pointer (some ⟨x, 0, none⟩), .agg #[.int .u64 (kind : Int), .string A, .string B, .slice DA dn dc, .int .i64 N, .int .i64 dir, .slice KA kn kc]] W fun e w' => e = .returned (.bool true) ∧ ∃ own' ox', Half w0 w' d x own' ox' (q.append A (cellsZ zs)).2 (r.append A (cellsZ zs)).2 := by
  have hk' : (kind : Int) % 10 = 1 := by omega
  obtain ⟨W1, hW1⟩ : ∃ W1, W.alloc (.cells #[.int .u64 (kind : Int), .string A, .string B, .slice DA dn dc, .int .i64 N, .int .i64 dir, .slice KA kn kc] 34) = W1 := ⟨_, rfl⟩
  have hB1 : Below W.heap.size W W1 := by rw [← hW1]; exact (Below.refl _ W).alloc (Nat.le_refl _) _
  have hbx : W1.heap[W.heap.size]? = some (.cells #[.int .u64 (kind : Int), .string A, .string B, .slice DA dn dc, .int .i64 N, .int .i64 dir, .slice KA kn kc] 34 (0, 0)) := by rw [← hW1]; exact heap_alloc_new W _
  obtain ⟨bx, hbxe⟩ : ∃ bx, W.heap.size = bx := ⟨_, rfl⟩
  have hbo : own bx = 0 ∧ ox bx = 0 := ⟨h.isD.1 bx (by omega), h.isR.1 bx (by omega)⟩
  have h1 : Half w0 W1.drew d x own ox q r := (h.below hB1).below (Below.refl _ W1).drew
  rw [hbxe] at hbx
  have b0 : W1.cell? ⟨bx, 0, none⟩ = some (.int .u64 (kind : Int)) := by rw [cell_of_row _ bx 0 _ _ (0, 0) hbx]; rfl
  have HBX := Lib.hid (And.intro hbx hbo)
  have HF := Lib.hid hFc
  have HSZ := Lib.hid hq
  have HNM := Lib.hid hNm
  have HON := Lib.hid hone
  have HSRC1 : Hid (∀ V, Chg [d] W1.drew V → Src Try.prog 1 29 (.slice DA dn dc) dn (cellsZ zs) V) := Lib.hid (fun V hc => ((hD.below h1.on).blk hc.size (fun h0 b off e hb => hc.same b hb (fun hm => by
    rw [List.mem_singleton] at hm
    obtain ⟨b', off', e', hlt, _⟩ := hD.2.2 h0
    rw [e'] at e
    cases e
    have := h1.d0 b hlt
    rw [hm] at this
    exact h1.isD.od this))).toSrc dc)
  have HSRC2 : Hid (∀ (w2 : World) (own2 : Nat → Nat) (r2 : RD), Half w0 w2 d x own2 ox q r2 → Only own W1.drew own2 w2 → ∀ V : World, (∀ k, k < w2.heap.size → ox k = 0 → V.heap[k]? = w2.heap[k]?) → w2.heap.size ≤ V.heap.size → Src Try.prog 1 29 (.slice DA dn dc) dn (cellsZ zs) V) := Lib.hid (fun w2 own2 r2 h2 O2 V hV hz => ((hD.below h2.on).blk hz (fun h0 b off e hb => by
    obtain ⟨b', off', e', hlt, _⟩ := hD.2.2 h0
    rw [e'] at e
    cases e
    exact hV b hb (h2.x0 b hlt))).toSrc dc)
  have HC1 := Lib.hid ((h1.isD.append (by omega) A hA DA dn dc hdn (cellsZ zs) (by rw [cellsZ_length]; exact hD.1) (bytes_cellsZ hD.2.1) HSRC1.out).mono fun e w' hh => (⟨hh.1, h1.disk hh.2⟩ : e = .returned (.int .i64 (r.append A (cellsZ zs)).1) ∧ ∃ own', Only own W1.drew own' w' ∧ Half w0 w' d x own' ox q (r.append A (cellsZ zs)).2))
  obtain ⟨z, hz⟩ : ∃ z, (r.append A (cellsZ zs)).1 = z := ⟨_, rfl⟩
  have HZ := Lib.hid (he.symm.trans hz)
  obtain ⟨rn, hrn⟩ : ∃ rn, (r.append A (cellsZ zs)).2 = rn := ⟨_, rfl⟩
  obtain ⟨qn, hqn⟩ : ∃ qn, (q.append A (cellsZ zs)).2 = qn := ⟨_, rfl⟩
  have HQN := Lib.hid hqn
  rw [hz, hrn] at HC1
  rw [hrn, hqn]
  clear h hs hq he hB1 hbx hbo h1 hz hrn hqn hk hNm hFc
  go_enter Try.func10, Try.ntmps10
  go_upto_region 7 with fail
  have HSS : Hid (W1.drew.heap[bx]? = some (.cells #[.int .u64 (kind : Int), .string A, .string B, .slice DA dn dc, .int .i64 N, .int .i64 dir, .slice KA kn kc] 34 (0, 0))) := Lib.hid HBX.out.1
  refine wp_region_held_drew (S := fun V => V.heap[bx]? = some (.cells #[.int .u64 (kind : Int), .string A, .string B, .slice DA dn dc, .int .i64 N, .int .i64 dir, .slice KA kn kc] 34 (0, 0))) (by kernel_rfl) HSS.out (fun _ => ?_)
  refine takeH 0 48 (v := (.pointer (some ⟨d, 0, none⟩))) rfl rfl (by kernel_rfl) (by kernel_rfl) (by kernel_rfl) (fun _ _ _ h => h) (by rfl) ?_ HSS.out ?_
  · intro w hSw
    go_simp
  refine takeH 1 49 (v := (.pointer (some ⟨bx, 1, none⟩))) rfl rfl (by kernel_rfl) (by kernel_rfl) (by kernel_rfl) (fun _ _ _ h => h) (by rfl) ?_ HSS.out ?_
  · intro w hSw
    go_simp
  refine takeH 2 50 (v := (.string A)) rfl rfl (by kernel_rfl) (by kernel_rfl) (by kernel_rfl) (fun _ _ _ h => h) (by rfl) ?_ HSS.out ?_
  · intro w hSw
    have q1 : w.cell? ⟨bx, 1, none⟩ = some (.string A) := by rw [cell_of_row w bx 1 _ _ (0, 0) hSw]; rfl
    have q2 : w.cell? ⟨bx, 2, none⟩ = some (.string B) := by rw [cell_of_row w bx 2 _ _ (0, 0) hSw]; rfl
    have q3 : w.cell? ⟨bx, 3, none⟩ = some (.slice DA dn dc) := by rw [cell_of_row w bx 3 _ _ (0, 0) hSw]; rfl
    go_simp
  refine takeH 3 51 (v := (.pointer (some ⟨bx, 3, none⟩))) rfl rfl (by kernel_rfl) (by kernel_rfl) (by kernel_rfl) (fun _ _ _ h => h) (by rfl) ?_ HSS.out ?_
  · intro w hSw
    go_simp
  refine takeH 4 52 (v := (.slice DA dn dc)) rfl rfl (by kernel_rfl) (by kernel_rfl) (by kernel_rfl) (fun _ _ _ h => h) (by rfl) ?_ HSS.out ?_
  · intro w hSw
    have q1 : w.cell? ⟨bx, 1, none⟩ = some (.string A) := by rw [cell_of_row w bx 1 _ _ (0, 0) hSw]; rfl
    have q2 : w.cell? ⟨bx, 2, none⟩ = some (.string B) := by rw [cell_of_row w bx 2 _ _ (0, 0) hSw]; rfl
    have q3 : w.cell? ⟨bx, 3, none⟩ = some (.slice DA dn dc) := by rw [cell_of_row w bx 3 _ _ (0, 0) hSw]; rfl
    go_simp
  refine takeH 6 54 (v := (.pointer (some ⟨x, 0, none⟩))) rfl rfl (by kernel_rfl) (by kernel_rfl) (by kernel_rfl) (fun _ _ _ h => h) (by rfl) ?_ HSS.out ?_
  · intro w hSw
    go_simp
  refine takeH 7 55 (v := (.int .i64 1)) rfl rfl (by kernel_rfl) (by kernel_rfl) (by kernel_rfl) (fun _ _ _ h => h) (by rfl) ?_ HSS.out ?_
  · intro w hSw
    go_simp
  refine takeH 8 56 (v := (.pointer (some ⟨bx, 1, none⟩))) rfl rfl (by kernel_rfl) (by kernel_rfl) (by kernel_rfl) (fun _ _ _ h => h) (by rfl) ?_ HSS.out ?_
  · intro w hSw
    go_simp
  refine takeH 9 57 (v := (.string A)) rfl rfl (by kernel_rfl) (by kernel_rfl) (by kernel_rfl) (fun _ _ _ h => h) (by rfl) ?_ HSS.out ?_
  · intro w hSw
    have q1 : w.cell? ⟨bx, 1, none⟩ = some (.string A) := by rw [cell_of_row w bx 1 _ _ (0, 0) hSw]; rfl
    have q2 : w.cell? ⟨bx, 2, none⟩ = some (.string B) := by rw [cell_of_row w bx 2 _ _ (0, 0) hSw]; rfl
    have q3 : w.cell? ⟨bx, 3, none⟩ = some (.slice DA dn dc) := by rw [cell_of_row w bx 3 _ _ (0, 0) hSw]; rfl
    go_simp
  refine takeH 10 58 (v := (.pointer (some ⟨bx, 3, none⟩))) rfl rfl (by kernel_rfl) (by kernel_rfl) (by kernel_rfl) (fun _ _ _ h => h) (by rfl) ?_ HSS.out ?_
  · intro w hSw
    go_simp
  refine takeH 11 59 (v := (.slice DA dn dc)) rfl rfl (by kernel_rfl) (by kernel_rfl) (by kernel_rfl) (fun _ _ _ h => h) (by rfl) ?_ HSS.out ?_
  · intro w hSw
    have q1 : w.cell? ⟨bx, 1, none⟩ = some (.string A) := by rw [cell_of_row w bx 1 _ _ (0, 0) hSw]; rfl
    have q2 : w.cell? ⟨bx, 2, none⟩ = some (.string B) := by rw [cell_of_row w bx 2 _ _ (0, 0) hSw]; rfl
    have q3 : w.cell? ⟨bx, 3, none⟩ = some (.slice DA dn dc) := by rw [cell_of_row w bx 3 _ _ (0, 0) hSw]; rfl
    go_simp
  refine wpAnyH_ready (rs := [5]) (by kernel_rfl) (by simp) ?_
  refine AllReadyH.cons rfl (fun K hK => ?_) AllReadyH.nil
  go_simp
  go_at_call 17
  refine HC1.out.mono ?_
  rintro e w2 ⟨rfl, own2, O2, h2⟩
  have HS2 : Hid (w2.heap[bx]? = some (.cells #[.int .u64 (kind : Int), .string A, .string B, .slice DA dn dc, .int .i64 N, .int .i64 dir, .slice KA kn kc] 34 (0, 0))) := Lib.hid ((O2.2.2 bx (lt_of_block HSS.out) HBX.out.2.1).trans HSS.out)
  have HC2 := Lib.hid ((h2.isR.append HF.out HSZ.out A hA DA dn dc hdn (cellsZ zs) (by rw [cellsZ_length]; exact hD.1) HON.out (HSRC2.out w2 own2 _ h2 O2)).mono fun e w' hh => (by rw [HZ.out, HQN.out] at hh; exact ⟨hh.1, h2.other hh.2⟩ : e = .returned (.int .i64 z) ∧ ∃ ox', Only ox w2 ox' w' ∧ Half w0 w' d x own2 ox' qn rn))
  clear h2 O2
  refine hK.out _ _ HS2.out (fun _ => ?_)
  clear hK K
  refine wpAnyH_ready (rs := [12]) (by kernel_rfl) (by simp) ?_
  refine AllReadyH.cons rfl (fun K hK => ?_) AllReadyH.nil
  go_simp
  go_at_call 33
  refine HC2.out.mono ?_
  rintro e w3 ⟨rfl, ox3, O3, h3⟩
  have HS3 : Hid (w3.heap[bx]? = some (.cells #[.int .u64 (kind : Int), .string A, .string B, .slice DA dn dc, .int .i64 N, .int .i64 dir, .slice KA kn kc] 34 (0, 0))) := Lib.hid ((O3.2.2 bx (lt_of_block HS2.out) HBX.out.2.2).trans HS2.out)
  have H3 := Lib.hid h3
  clear h3 O3
  refine hK.out _ _ HS3.out (fun _ => ?_)
  clear hK K
  refine takeH 13 61 (v := (.bool true)) rfl rfl (by kernel_rfl) (by kernel_rfl) (by kernel_rfl) (fun _ _ _ h => h) (by rfl) ?_ HS3.out ?_
  · intro w hSw
    go_simp
  refine takeH 14 6 (v := (.bool true)) rfl rfl (by kernel_rfl) (by kernel_rfl) (by kernel_rfl) (fun _ _ _ h => h) (by rfl) ?_ HS3.out ?_
  · intro w hSw
    go_simp
  refine wpAnyH_done (by kernel_rfl) ?_ _
  go_wp2
  go_ret
  exact ⟨rfl, own2, ox3, H3.out⟩
theorem do1_any (h : Both w0 W d x own ox r) (hs : r.size + 4 ≤ 79000) (A B : ByteArray) (hA : A.size ≤ 1000000) (hB : B.size ≤ 1000000) (DA : Option Addr) (dn dc : Nat) (N dir : Int) (KA : Option Addr) (kn kc : Nat) (kind : Nat) (hk : kind % 10 = 1) (zs : List Int) (hD : RowZ w0 DA dn zs) (hdn : dn ≤ 10000000) :
    Calls Try.prog 10 #[.pointer (some ⟨d, 0, none⟩), .pointer (some ⟨x, 0, none⟩), .agg #[.int .u64 (kind : Int), .string A, .string B, .slice DA dn dc, .int .i64 N, .int .i64 dir, .slice KA kn kc]] W fun e w' => e = .returned (.bool true) ∧ ∃ own' ox', Both w0 w' d x own' ox' (r.append A (cellsZ zs)).2 ∧ RD.size (r.append A (cellsZ zs)).2 ≤ r.size + 4 :=
  (do1_two h.half h.named h.fct hs (by omega) A B hA hB DA dn dc N dir KA kn kc kind hk zs hD hdn (h.isD.fct.2 A) rfl).mono fun e w' ⟨he, own', ox', h'⟩ => ⟨he, own', ox', ⟨h'.d0, h'.x0, h'.on, h'.isD, h'.isR, h'.apart, h.named.append A (cellsZ zs), h'.kp⟩, size_append A (cellsZ zs)⟩
end
end Go.Proofs.Ytbjlikppboggmaa
namespace Go.Proofs.Ytbjlikppboggmaa
open Go.RowKit Go.Maps
set_option linter.unusedVariables false
set_option maxRecDepth 100000

section
variable [Keep] {w0 W W' : World} {d x : Nat} {own ox : Nat → Nat} {r r' q : RD}
set_option maxHeartbeats 3200000 in
theorem do2_two (h : Half w0 W d x own ox q r) (hNm : Named q) (hFc : Fct q) (hs : r.size + 4 ≤ 79000) (hq : q.size ≤ 79000) (A B : ByteArray) (hA : A.size ≤ 1000000) (hB : B.size ≤ 1000000) (DA : Option Addr) (dn dc : Nat) (N dir : Int) (KA : Option Addr) (kn kc : Nat) (kind : Nat) (hk : kind % 10 = 2) (he : (r.sync A).1 = (q.sync A).1) :
    Calls Try.prog 10 #[.pointer (some ⟨d, 0, none⟩), .pointer (some ⟨x, 0, none⟩), .agg #[.int .u64 (kind : Int), .string A, .string B, .slice DA dn dc, .int .i64 N, .int .i64 dir, .slice KA kn kc]] W fun e w' => e = .returned (.bool true) ∧ ∃ own' ox', Half w0 w' d x own' ox' (q.sync A).2 (r.sync A).2 := by
  have hk' : (kind : Int) % 10 = 2 := by omega
  obtain ⟨W1, hW1⟩ : ∃ W1, W.alloc (.cells #[.int .u64 (kind : Int), .string A, .string B, .slice DA dn dc, .int .i64 N, .int .i64 dir, .slice KA kn kc] 34) = W1 := ⟨_, rfl⟩
  have hB1 : Below W.heap.size W W1 := by rw [← hW1]; exact (Below.refl _ W).alloc (Nat.le_refl _) _
  have hbx : W1.heap[W.heap.size]? = some (.cells #[.int .u64 (kind : Int), .string A, .string B, .slice DA dn dc, .int .i64 N, .int .i64 dir, .slice KA kn kc] 34 (0, 0)) := by rw [← hW1]; exact heap_alloc_new W _
  obtain ⟨bx, hbxe⟩ : ∃ bx, W.heap.size = bx := ⟨_, rfl⟩
  have hbo : own bx = 0 ∧ ox bx = 0 := ⟨h.isD.1 bx (by omega), h.isR.1 bx (by omega)⟩
  have h1 : Half w0 W1.drew d x own ox q r := (h.below hB1).below (Below.refl _ W1).drew
  rw [hbxe] at hbx
  have b0 : W1.cell? ⟨bx, 0, none⟩ = some (.int .u64 (kind : Int)) := by rw [cell_of_row _ bx 0 _ _ (0, 0) hbx]; rfl
  have HBX := Lib.hid (And.intro hbx hbo)
  have HF := Lib.hid hFc
  have HSZ := Lib.hid hq
  have HNM := Lib.hid hNm
  have HC1 := Lib.hid ((h1.isD.sync (by omega) A hA).mono fun e w' hh => (⟨hh.1, h1.disk hh.2⟩ : e = .returned (.int .i64 (r.sync A).1) ∧ ∃ own', Only own W1.drew own' w' ∧ Half w0 w' d x own' ox q (r.sync A).2))
  obtain ⟨z, hz⟩ : ∃ z, (r.sync A).1 = z := ⟨_, rfl⟩
  have HZ := Lib.hid (he.symm.trans hz)
  obtain ⟨rn, hrn⟩ : ∃ rn, (r.sync A).2 = rn := ⟨_, rfl⟩
  obtain ⟨qn, hqn⟩ : ∃ qn, (q.sync A).2 = qn := ⟨_, rfl⟩
  have HQN := Lib.hid hqn
  rw [hz, hrn] at HC1
  rw [hrn, hqn]
  clear h hs hq he hB1 hbx hbo h1 hz hrn hqn hk hNm hFc
  go_enter Try.func10, Try.ntmps10
  go_upto_region 9 with fail
  have HSS : Hid (W1.drew.heap[bx]? = some (.cells #[.int .u64 (kind : Int), .string A, .string B, .slice DA dn dc, .int .i64 N, .int .i64 dir, .slice KA kn kc] 34 (0, 0))) := Lib.hid HBX.out.1
  refine wp_region_held_drew (S := fun V => V.heap[bx]? = some (.cells #[.int .u64 (kind : Int), .string A, .string B, .slice DA dn dc, .int .i64 N, .int .i64 dir, .slice KA kn kc] 34 (0, 0))) (by kernel_rfl) HSS.out (fun _ => ?_)
  refine takeH 0 64 (v := (.pointer (some ⟨d, 0, none⟩))) rfl rfl (by kernel_rfl) (by kernel_rfl) (by kernel_rfl) (fun _ _ _ h => h) (by rfl) ?_ HSS.out ?_
  · intro w hSw
    go_simp
  refine takeH 1 65 (v := (.pointer (some ⟨bx, 1, none⟩))) rfl rfl (by kernel_rfl) (by kernel_rfl) (by kernel_rfl) (fun _ _ _ h => h) (by rfl) ?_ HSS.out ?_
  · intro w hSw
    go_simp
  refine takeH 2 66 (v := (.string A)) rfl rfl (by kernel_rfl) (by kernel_rfl) (by kernel_rfl) (fun _ _ _ h => h) (by rfl) ?_ HSS.out ?_
  · intro w hSw
    have q1 : w.cell? ⟨bx, 1, none⟩ = some (.string A) := by rw [cell_of_row w bx 1 _ _ (0, 0) hSw]; rfl
    have q2 : w.cell? ⟨bx, 2, none⟩ = some (.string B) := by rw [cell_of_row w bx 2 _ _ (0, 0) hSw]; rfl
    have q3 : w.cell? ⟨bx, 3, none⟩ = some (.slice DA dn dc) := by rw [cell_of_row w bx 3 _ _ (0, 0) hSw]; rfl
    go_simp
  refine takeH 4 68 (v := (.pointer (some ⟨x, 0, none⟩))) rfl rfl (by kernel_rfl) (by kernel_rfl) (by kernel_rfl) (fun _ _ _ h => h) (by rfl) ?_ HSS.out ?_
  · intro w hSw
    go_simp
  refine takeH 5 69 (v := (.int .i64 2)) rfl rfl (by kernel_rfl) (by kernel_rfl) (by kernel_rfl) (fun _ _ _ h => h) (by rfl) ?_ HSS.out ?_
  · intro w hSw
    go_simp
  refine takeH 6 70 (v := (.pointer (some ⟨bx, 1, none⟩))) rfl rfl (by kernel_rfl) (by kernel_rfl) (by kernel_rfl) (fun _ _ _ h => h) (by rfl) ?_ HSS.out ?_
  · intro w hSw
    go_simp
  refine takeH 7 71 (v := (.string A)) rfl rfl (by kernel_rfl) (by kernel_rfl) (by kernel_rfl) (fun _ _ _ h => h) (by rfl) ?_ HSS.out ?_
  · intro w hSw
    have q1 : w.cell? ⟨bx, 1, none⟩ = some (.string A) := by rw [cell_of_row w bx 1 _ _ (0, 0) hSw]; rfl
    have q2 : w.cell? ⟨bx, 2, none⟩ = some (.string B) := by rw [cell_of_row w bx 2 _ _ (0, 0) hSw]; rfl
    have q3 : w.cell? ⟨bx, 3, none⟩ = some (.slice DA dn dc) := by rw [cell_of_row w bx 3 _ _ (0, 0) hSw]; rfl
    go_simp
  refine wpAnyH_ready (rs := [3]) (by kernel_rfl) (by simp) ?_
  refine AllReadyH.cons rfl (fun K hK => ?_) AllReadyH.nil
  go_simp
  go_at_call 18
  refine HC1.out.mono ?_
  rintro e w2 ⟨rfl, own2, O2, h2⟩
  have HS2 : Hid (w2.heap[bx]? = some (.cells #[.int .u64 (kind : Int), .string A, .string B, .slice DA dn dc, .int .i64 N, .int .i64 dir, .slice KA kn kc] 34 (0, 0))) := Lib.hid ((O2.2.2 bx (lt_of_block HSS.out) HBX.out.2.1).trans HSS.out)
  have HC2 := Lib.hid ((h2.isR.sync HF.out HSZ.out A hA).mono fun e w' hh => (by rw [HZ.out, HQN.out] at hh; exact ⟨hh.1, h2.other hh.2⟩ : e = .returned (.int .i64 z) ∧ ∃ ox', Only ox w2 ox' w' ∧ Half w0 w' d x own2 ox' qn rn))
  clear h2 O2
  refine hK.out _ _ HS2.out (fun _ => ?_)
  clear hK K
  refine wpAnyH_ready (rs := [8]) (by kernel_rfl) (by simp) ?_
  refine AllReadyH.cons rfl (fun K hK => ?_) AllReadyH.nil
  go_simp
  go_at_call 33
  refine HC2.out.mono ?_
  rintro e w3 ⟨rfl, ox3, O3, h3⟩
  have HS3 : Hid (w3.heap[bx]? = some (.cells #[.int .u64 (kind : Int), .string A, .string B, .slice DA dn dc, .int .i64 N, .int .i64 dir, .slice KA kn kc] 34 (0, 0))) := Lib.hid ((O3.2.2 bx (lt_of_block HS2.out) HBX.out.2.2).trans HS2.out)
  have H3 := Lib.hid h3
  clear h3 O3
  refine hK.out _ _ HS3.out (fun _ => ?_)
  clear hK K
  refine takeH 9 73 (v := (.bool true)) rfl rfl (by kernel_rfl) (by kernel_rfl) (by kernel_rfl) (fun _ _ _ h => h) (by rfl) ?_ HS3.out ?_
  · intro w hSw
    go_simp
  refine takeH 10 6 (v := (.bool true)) rfl rfl (by kernel_rfl) (by kernel_rfl) (by kernel_rfl) (fun _ _ _ h => h) (by rfl) ?_ HS3.out ?_
  · intro w hSw
    go_simp
  refine wpAnyH_done (by kernel_rfl) ?_ _
  go_wp2
  go_ret
  exact ⟨rfl, own2, ox3, H3.out⟩
theorem do2_any (h : Both w0 W d x own ox r) (hs : r.size + 4 ≤ 79000) (A B : ByteArray) (hA : A.size ≤ 1000000) (hB : B.size ≤ 1000000) (DA : Option Addr) (dn dc : Nat) (N dir : Int) (KA : Option Addr) (kn kc : Nat) (kind : Nat) (hk : kind % 10 = 2) :
    Calls Try.prog 10 #[.pointer (some ⟨d, 0, none⟩), .pointer (some ⟨x, 0, none⟩), .agg #[.int .u64 (kind : Int), .string A, .string B, .slice DA dn dc, .int .i64 N, .int .i64 dir, .slice KA kn kc]] W fun e w' => e = .returned (.bool true) ∧ ∃ own' ox', Both w0 w' d x own' ox' (r.sync A).2 ∧ RD.size (r.sync A).2 ≤ r.size + 4 :=
  (do2_two h.half h.named h.fct hs (by omega) A B hA hB DA dn dc N dir KA kn kc kind hk rfl).mono fun e w' ⟨he, own', ox', h'⟩ => ⟨he, own', ox', ⟨h'.d0, h'.x0, h'.on, h'.isD, h'.isR, h'.apart, h.named.sync A, h'.kp⟩, size_sync A⟩
end
end Go.Proofs.Ytbjlikppboggmaa
namespace Go.Proofs.Ytbjlikppboggmaa
open Go.RowKit Go.Maps
set_option linter.unusedVariables false
set_option maxRecDepth 100000

section
variable [Keep] {w0 W W' : World} {d x : Nat} {own ox : Nat → Nat} {r r' q : RD}
set_option maxHeartbeats 3200000 in
theorem do3_two (h : Half w0 W d x own ox q r) (hNm : Named q) (hFc : Fct q) (hs : r.size + 4 ≤ 79000) (hq : q.size ≤ 79000) (A B : ByteArray) (hA : A.size ≤ 1000000) (hB : B.size ≤ 1000000) (DA : Option Addr) (dn dc : Nat) (N dir : Int) (KA : Option Addr) (kn kc : Nat) (kind : Nat) (hk : kind % 10 = 3) (he : r.syncDir.1 = q.syncDir.1) :
    Calls Try.prog 10 #[.pointer (some ⟨d, 0, none⟩), .pointer (some ⟨x, 0, none⟩), .agg #[.int .u64 (kind : Int), .string A, .string B, .slice DA dn dc, .int .i64 N, .int .i64 dir, .slice KA kn kc]] W fun e w' => e = .returned (.bool true) ∧ ∃ own' ox', Half w0 w' d x own' ox' q.syncDir.2 r.syncDir.2 := by
  have hk' : (kind : Int) % 10 = 3 := by omega
  obtain ⟨W1, hW1⟩ : ∃ W1, W.alloc (.cells #[.int .u64 (kind : Int), .string A, .string B, .slice DA dn dc, .int .i64 N, .int .i64 dir, .slice KA kn kc] 34) = W1 := ⟨_, rfl⟩
  have hB1 : Below W.heap.size W W1 := by rw [← hW1]; exact (Below.refl _ W).alloc (Nat.le_refl _) _
  have hbx : W1.heap[W.heap.size]? = some (.cells #[.int .u64 (kind : Int), .string A, .string B, .slice DA dn dc, .int .i64 N, .int .i64 dir, .slice KA kn kc] 34 (0, 0)) := by rw [← hW1]; exact heap_alloc_new W _
  obtain ⟨bx, hbxe⟩ : ∃ bx, W.heap.size = bx := ⟨_, rfl⟩
  have hbo : own bx = 0 ∧ ox bx = 0 := ⟨h.isD.1 bx (by omega), h.isR.1 bx (by omega)⟩
  have h1 : Half w0 W1 d x own ox q r := (h.below hB1)
  rw [hbxe] at hbx
  have b0 : W1.cell? ⟨bx, 0, none⟩ = some (.int .u64 (kind : Int)) := by rw [cell_of_row _ bx 0 _ _ (0, 0) hbx]; rfl
  have HBX := Lib.hid (And.intro hbx hbo)
  have HF := Lib.hid hFc
  have HSZ := Lib.hid hq
  have HNM := Lib.hid hNm
  have HC1 := Lib.hid ((h1.isD.syncDir (by omega)).mono fun e w' hh => (⟨hh.1, h1.disk hh.2⟩ : e = .returned (.int .i64 r.syncDir.1) ∧ ∃ own', Only own W1 own' w' ∧ Half w0 w' d x own' ox q r.syncDir.2))
  obtain ⟨z, hz⟩ : ∃ z, r.syncDir.1 = z := ⟨_, rfl⟩
  have HZ := Lib.hid (he.symm.trans hz)
  obtain ⟨rn, hrn⟩ : ∃ rn, r.syncDir.2 = rn := ⟨_, rfl⟩
  obtain ⟨qn, hqn⟩ : ∃ qn, q.syncDir.2 = qn := ⟨_, rfl⟩
  have HQN := Lib.hid hqn
  rw [hz, hrn] at HC1
  rw [hrn, hqn]
  clear h hs hq he hB1 hbx hbo h1 hz hrn hqn hk hNm hFc
  go_enter Try.func10, Try.ntmps10
  go_wp2_with fail
  refine HC1.out.mono ?_
  rintro e w2 ⟨rfl, own2, O2, h2⟩
  have HC2 := Lib.hid ((h2.isR.syncDir HF.out HSZ.out).mono fun e w' hh => (by rw [HZ.out, HQN.out] at hh; exact ⟨hh.1, h2.other hh.2⟩ : e = .returned (.int .i64 z) ∧ ∃ ox', Only ox w2 ox' w' ∧ Half w0 w' d x own2 ox' qn rn))
  clear h2 O2
  go_wp2_with fail
  refine HC2.out.mono ?_
  rintro e w3 ⟨rfl, ox3, O3, h3⟩
  have H3 := Lib.hid h3
  clear h3 O3
  go_wp2
  go_ret
  exact ⟨rfl, own2, ox3, H3.out⟩
theorem do3_any (h : Both w0 W d x own ox r) (hs : r.size + 4 ≤ 79000) (A B : ByteArray) (hA : A.size ≤ 1000000) (hB : B.size ≤ 1000000) (DA : Option Addr) (dn dc : Nat) (N dir : Int) (KA : Option Addr) (kn kc : Nat) (kind : Nat) (hk : kind % 10 = 3) :
    Calls Try.prog 10 #[.pointer (some ⟨d, 0, none⟩), .pointer (some ⟨x, 0, none⟩), .agg #[.int .u64 (kind : Int), .string A, .string B, .slice DA dn dc, .int .i64 N, .int .i64 dir, .slice KA kn kc]] W fun e w' => e = .returned (.bool true) ∧ ∃ own' ox', Both w0 w' d x own' ox' r.syncDir.2 ∧ RD.size r.syncDir.2 ≤ r.size + 4 :=
  (do3_two h.half h.named h.fct hs (by omega) A B hA hB DA dn dc N dir KA kn kc kind hk rfl).mono fun e w' ⟨he, own', ox', h'⟩ => ⟨he, own', ox', ⟨h'.d0, h'.x0, h'.on, h'.isD, h'.isR, h'.apart, h.named.syncDir, h'.kp⟩, size_syncDir h.fct⟩
end
end Go.Proofs.Ytbjlikppboggmaa
namespace Go.Proofs.Ytbjlikppboggmaa
open Go.RowKit Go.Maps
set_option linter.unusedVariables false
set_option maxRecDepth 100000

section
variable [Keep] {w0 W W' : World} {d x : Nat} {own ox : Nat → Nat} {r r' q : RD}
set_option maxHeartbeats 3200000 in
theorem do4_two (h : Half w0 W d x own ox q r) (hNm : Named q) (hFc : Fct q) (hs : r.size + 4 ≤ 79000) (hq : q.size ≤ 79000) (A B : ByteArray) (hA : A.size ≤ 1000000) (hB : B.size ≤ 1000000) (DA : Option Addr) (dn dc : Nat) (N dir : Int) (KA : Option Addr) (kn kc : Nat) (kind : Nat) (hk : kind % 10 = 4) (he : (r.rename A B).1 = (q.rename A B).1) :
    Calls Try.prog 10 #[.pointer (some ⟨d, 0, none⟩), .pointer (some ⟨x, 0, none⟩), .agg #[.int .u64 (kind : Int), .string A, .string B, .slice DA dn dc, .int .i64 N, .int .i64 dir, .slice KA kn kc]] W fun e w' => e = .returned (.bool true) ∧ ∃ own' ox', Half w0 w' d x own' ox' (q.rename A B).2 (r.rename A B).2 := by
  have hk' : (kind : Int) % 10 = 4 := by omega
  obtain ⟨W1, hW1⟩ : ∃ W1, W.alloc (.cells #[.int .u64 (kind : Int), .string A, .string B, .slice DA dn dc, .int .i64 N, .int .i64 dir, .slice KA kn kc] 34) = W1 := ⟨_, rfl⟩
  have hB1 : Below W.heap.size W W1 := by rw [← hW1]; exact (Below.refl _ W).alloc (Nat.le_refl _) _
  have hbx : W1.heap[W.heap.size]? = some (.cells #[.int .u64 (kind : Int), .string A, .string B, .slice DA dn dc, .int .i64 N, .int .i64 dir, .slice KA kn kc] 34 (0, 0)) := by rw [← hW1]; exact heap_alloc_new W _
  obtain ⟨bx, hbxe⟩ : ∃ bx, W.heap.size = bx := ⟨_, rfl⟩
  have hbo : own bx = 0 ∧ ox bx = 0 := ⟨h.isD.1 bx (by omega), h.isR.1 bx (by omega)⟩
  have h1 : Half w0 W1.drew d x own ox q r := (h.below hB1).below (Below.refl _ W1).drew
  rw [hbxe] at hbx
  have b0 : W1.cell? ⟨bx, 0, none⟩ = some (.int .u64 (kind : Int)) := by rw [cell_of_row _ bx 0 _ _ (0, 0) hbx]; rfl
  have HBX := Lib.hid (And.intro hbx hbo)
  have HF := Lib.hid hFc
  have HSZ := Lib.hid hq
  have HNM := Lib.hid hNm
  have HC1 := Lib.hid ((h1.isD.rename (by omega) A B hA hB).mono fun e w' hh => (⟨hh.1, h1.disk hh.2⟩ : e = .returned (.int .i64 (r.rename A B).1) ∧ ∃ own', Only own W1.drew own' w' ∧ Half w0 w' d x own' ox q (r.rename A B).2))
  obtain ⟨z, hz⟩ : ∃ z, (r.rename A B).1 = z := ⟨_, rfl⟩
  have HZ := Lib.hid (he.symm.trans hz)
  obtain ⟨rn, hrn⟩ : ∃ rn, (r.rename A B).2 = rn := ⟨_, rfl⟩
  obtain ⟨qn, hqn⟩ : ∃ qn, (q.rename A B).2 = qn := ⟨_, rfl⟩
  have HQN := Lib.hid hqn
  rw [hz, hrn] at HC1
  rw [hrn, hqn]
  clear h hs hq he hB1 hbx hbo h1 hz hrn hqn hk hNm hFc
  go_enter Try.func10, Try.ntmps10
  go_upto_region 13 with fail
  have HSS : Hid (W1.drew.heap[bx]? = some (.cells #[.int .u64 (kind : Int), .string A, .string B, .slice DA dn dc, .int .i64 N, .int .i64 dir, .slice KA kn kc] 34 (0, 0))) := Lib.hid HBX.out.1
  refine wp_region_held_drew (S := fun V => V.heap[bx]? = some (.cells #[.int .u64 (kind : Int), .string A, .string B, .slice DA dn dc, .int .i64 N, .int .i64 dir, .slice KA kn kc] 34 (0, 0))) (by kernel_rfl) HSS.out (fun _ => ?_)
  refine takeH 0 84 (v := (.pointer (some ⟨d, 0, none⟩))) rfl rfl (by kernel_rfl) (by kernel_rfl) (by kernel_rfl) (fun _ _ _ h => h) (by rfl) ?_ HSS.out ?_
  · intro w hSw
    go_simp
  refine takeH 1 85 (v := (.pointer (some ⟨bx, 1, none⟩))) rfl rfl (by kernel_rfl) (by kernel_rfl) (by kernel_rfl) (fun _ _ _ h => h) (by rfl) ?_ HSS.out ?_
  · intro w hSw
    go_simp
  refine takeH 2 86 (v := (.string A)) rfl rfl (by kernel_rfl) (by kernel_rfl) (by kernel_rfl) (fun _ _ _ h => h) (by rfl) ?_ HSS.out ?_
  · intro w hSw
    have q1 : w.cell? ⟨bx, 1, none⟩ = some (.string A) := by rw [cell_of_row w bx 1 _ _ (0, 0) hSw]; rfl
    have q2 : w.cell? ⟨bx, 2, none⟩ = some (.string B) := by rw [cell_of_row w bx 2 _ _ (0, 0) hSw]; rfl
    have q3 : w.cell? ⟨bx, 3, none⟩ = some (.slice DA dn dc) := by rw [cell_of_row w bx 3 _ _ (0, 0) hSw]; rfl
    go_simp
  refine takeH 3 87 (v := (.pointer (some ⟨bx, 2, none⟩))) rfl rfl (by kernel_rfl) (by kernel_rfl) (by kernel_rfl) (fun _ _ _ h => h) (by rfl) ?_ HSS.out ?_
  · intro w hSw
    go_simp
  refine takeH 4 88 (v := (.string B)) rfl rfl (by kernel_rfl) (by kernel_rfl) (by kernel_rfl) (fun _ _ _ h => h) (by rfl) ?_ HSS.out ?_
  · intro w hSw
    have q1 : w.cell? ⟨bx, 1, none⟩ = some (.string A) := by rw [cell_of_row w bx 1 _ _ (0, 0) hSw]; rfl
    have q2 : w.cell? ⟨bx, 2, none⟩ = some (.string B) := by rw [cell_of_row w bx 2 _ _ (0, 0) hSw]; rfl
    have q3 : w.cell? ⟨bx, 3, none⟩ = some (.slice DA dn dc) := by rw [cell_of_row w bx 3 _ _ (0, 0) hSw]; rfl
    go_simp
  refine takeH 6 90 (v := (.pointer (some ⟨x, 0, none⟩))) rfl rfl (by kernel_rfl) (by kernel_rfl) (by kernel_rfl) (fun _ _ _ h => h) (by rfl) ?_ HSS.out ?_
  · intro w hSw
    go_simp
  refine takeH 7 91 (v := (.int .i64 4)) rfl rfl (by kernel_rfl) (by kernel_rfl) (by kernel_rfl) (fun _ _ _ h => h) (by rfl) ?_ HSS.out ?_
  · intro w hSw
    go_simp
  refine takeH 8 92 (v := (.pointer (some ⟨bx, 1, none⟩))) rfl rfl (by kernel_rfl) (by kernel_rfl) (by kernel_rfl) (fun _ _ _ h => h) (by rfl) ?_ HSS.out ?_
  · intro w hSw
    go_simp
  refine takeH 9 93 (v := (.string A)) rfl rfl (by kernel_rfl) (by kernel_rfl) (by kernel_rfl) (fun _ _ _ h => h) (by rfl) ?_ HSS.out ?_
  · intro w hSw
    have q1 : w.cell? ⟨bx, 1, none⟩ = some (.string A) := by rw [cell_of_row w bx 1 _ _ (0, 0) hSw]; rfl
    have q2 : w.cell? ⟨bx, 2, none⟩ = some (.string B) := by rw [cell_of_row w bx 2 _ _ (0, 0) hSw]; rfl
    have q3 : w.cell? ⟨bx, 3, none⟩ = some (.slice DA dn dc) := by rw [cell_of_row w bx 3 _ _ (0, 0) hSw]; rfl
    go_simp
  refine takeH 10 94 (v := (.pointer (some ⟨bx, 2, none⟩))) rfl rfl (by kernel_rfl) (by kernel_rfl) (by kernel_rfl) (fun _ _ _ h => h) (by rfl) ?_ HSS.out ?_
  · intro w hSw
    go_simp
  refine takeH 11 95 (v := (.string B)) rfl rfl (by kernel_rfl) (by kernel_rfl) (by kernel_rfl) (fun _ _ _ h => h) (by rfl) ?_ HSS.out ?_
  · intro w hSw
    have q1 : w.cell? ⟨bx, 1, none⟩ = some (.string A) := by rw [cell_of_row w bx 1 _ _ (0, 0) hSw]; rfl
    have q2 : w.cell? ⟨bx, 2, none⟩ = some (.string B) := by rw [cell_of_row w bx 2 _ _ (0, 0) hSw]; rfl
    have q3 : w.cell? ⟨bx, 3, none⟩ = some (.slice DA dn dc) := by rw [cell_of_row w bx 3 _ _ (0, 0) hSw]; rfl
    go_simp
  refine wpAnyH_ready (rs := [5]) (by kernel_rfl) (by simp) ?_
  refine AllReadyH.cons rfl (fun K hK => ?_) AllReadyH.nil
  go_simp
  go_at_call 34
  refine HC1.out.mono ?_
  rintro e w2 ⟨rfl, own2, O2, h2⟩
  have HS2 : Hid (w2.heap[bx]? = some (.cells #[.int .u64 (kind : Int), .string A, .string B, .slice DA dn dc, .int .i64 N, .int .i64 dir, .slice KA kn kc] 34 (0, 0))) := Lib.hid ((O2.2.2 bx (lt_of_block HSS.out) HBX.out.2.1).trans HSS.out)
  have HC2 := Lib.hid ((h2.isR.rename HF.out HSZ.out HNM.out A B hA hB).mono fun e w' hh => (by rw [HZ.out, HQN.out] at hh; exact ⟨hh.1, h2.other hh.2⟩ : e = .returned (.int .i64 z) ∧ ∃ ox', Only ox w2 ox' w' ∧ Half w0 w' d x own2 ox' qn rn))
  clear h2 O2
  refine hK.out _ _ HS2.out (fun _ => ?_)
  clear hK K
  refine wpAnyH_ready (rs := [12]) (by kernel_rfl) (by simp) ?_
  refine AllReadyH.cons rfl (fun K hK => ?_) AllReadyH.nil
  go_simp
  go_at_call 33
  refine HC2.out.mono ?_
  rintro e w3 ⟨rfl, ox3, O3, h3⟩
  have HS3 : Hid (w3.heap[bx]? = some (.cells #[.int .u64 (kind : Int), .string A, .string B, .slice DA dn dc, .int .i64 N, .int .i64 dir, .slice KA kn kc] 34 (0, 0))) := Lib.hid ((O3.2.2 bx (lt_of_block HS2.out) HBX.out.2.2).trans HS2.out)
  have H3 := Lib.hid h3
  clear h3 O3
  refine hK.out _ _ HS3.out (fun _ => ?_)
  clear hK K
  refine takeH 13 97 (v := (.bool true)) rfl rfl (by kernel_rfl) (by kernel_rfl) (by kernel_rfl) (fun _ _ _ h => h) (by rfl) ?_ HS3.out ?_
  · intro w hSw
    go_simp
  refine takeH 14 6 (v := (.bool true)) rfl rfl (by kernel_rfl) (by kernel_rfl) (by kernel_rfl) (fun _ _ _ h => h) (by rfl) ?_ HS3.out ?_
  · intro w hSw
    go_simp
  refine wpAnyH_done (by kernel_rfl) ?_ _
  go_wp2
  go_ret
  exact ⟨rfl, own2, ox3, H3.out⟩
theorem do4_any (h : Both w0 W d x own ox r) (hs : r.size + 4 ≤ 79000) (A B : ByteArray) (hA : A.size ≤ 1000000) (hB : B.size ≤ 1000000) (DA : Option Addr) (dn dc : Nat) (N dir : Int) (KA : Option Addr) (kn kc : Nat) (kind : Nat) (hk : kind % 10 = 4) :
    Calls Try.prog 10 #[.pointer (some ⟨d, 0, none⟩), .pointer (some ⟨x, 0, none⟩), .agg #[.int .u64 (kind : Int), .string A, .string B, .slice DA dn dc, .int .i64 N, .int .i64 dir, .slice KA kn kc]] W fun e w' => e = .returned (.bool true) ∧ ∃ own' ox', Both w0 w' d x own' ox' (r.rename A B).2 ∧ RD.size (r.rename A B).2 ≤ r.size + 4 :=
  (do4_two h.half h.named h.fct hs (by omega) A B hA hB DA dn dc N dir KA kn kc kind hk rfl).mono fun e w' ⟨he, own', ox', h'⟩ => ⟨he, own', ox', ⟨h'.d0, h'.x0, h'.on, h'.isD, h'.isR, h'.apart, h.named.rename A B, h'.kp⟩, size_rename A B⟩
end
end Go.Proofs.Ytbjlikppboggmaa
