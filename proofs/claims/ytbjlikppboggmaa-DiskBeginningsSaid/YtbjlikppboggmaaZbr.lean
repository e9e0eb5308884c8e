/-
  The law's sole.
  What DiskBeginnings and DiskClones need of the states: which names there are, which file a name has that was made once, a loss behind a loss; Clone, Same and Read told of the abstract disk.
-/
import Derived.Test.YtbjlikppboggmaaZbh
import Derived.Test.YtbjlikppboggmaaZbp
import Derived.Test.YtbjlikppboggmaaZbq
import Derived.Test.YtbjlikppboggmaaZbm
namespace Go.Proofs.Ytbjlikppboggmaa
open Go.RowKit Go.Maps
set_option linter.unusedVariables false
set_option maxRecDepth 100000

def cntN (C : List OpR) (x : ByteArray) : Nat := (C.filter fun o => decide (o.kind % 10 = 0 ∧ o.a = x)).length
def badO (o : OpR) : Bool := decide (o.kind % 10 = 4 ∨ o.kind % 10 = 5 ∨ o.kind % 10 = 8 ∨ o.kind % 10 = 9)
def soleB (C : List OpR) (x : ByteArray) : Bool := !(C.any badO) && decide (cntN C x < 2)
theorem cnt_le (C : List OpR) (x : ByteArray) : cntN C x ≤ C.length := List.length_filter_le _ _
theorem cnt_snoc (C : List OpR) (x : ByteArray) (o : OpR) : cntN (C ++ [o]) x = cntN C x + (if o.kind % 10 = 0 ∧ o.a = x then 1 else 0) := by
  unfold cntN
  rw [List.filter_append, List.length_append]
  by_cases h : o.kind % 10 = 0 ∧ o.a = x
  · rw [if_pos h, List.filter_cons_of_pos (by simpa using h)]; rfl
  · rw [if_neg h, List.filter_cons_of_neg (by simpa using h)]; rfl
theorem any_snoc (C : List OpR) (o : OpR) : (C ++ [o]).any badO = (C.any badO || badO o) := by rw [List.any_append]; simp
theorem any_take {C : List OpR} {j : Nat} {o : OpR} (ho : C[j]? = some o) (hb : badO o = true) : C.any badO = true := List.any_eq_true.2 ⟨o, List.mem_of_getElem? ho, hb⟩
set_option maxHeartbeats 3200000 in
theorem sole_from (W V : World) (hV : Below W.heap.size W V) (A : Option Addr) (n c : Nat) (os : List OpR) (h : OpsIn W A n os) (hnc : n ≤ c) (hcm : c ≤ maxLen) (x : ByteArray) :
    Calls Try.prog 26 #[.slice A n c, .string x] V fun e w' => e = .returned (.bool (soleB (cutL os) x)) ∧ Below V.heap.size V w' := by
  have HCUT := Lib.hid (cut_from W V hV A n c os h hnc hcm)
  have hL60 := cutL_len os
  have HV := Lib.hid hV
  generalize cutL os = C at *
  clear h hnc hcm hV
  obtain ⟨sb, hsb⟩ : ∃ sb, soleB C x = sb := ⟨_, rfl⟩
  have HSB := Lib.hid hsb
  rw [hsb]
  clear hsb
  go_enter Try.func26, Try.ntmps26
  go_wp2_with fail
  refine HCUT.out.mono ?_
  rintro e w4 ⟨⟨A1, c1, rfl, hO⟩, hB4⟩
  have HO := Lib.hid hO
  have HB4 := Lib.hid hB4
  clear hO hB4 HCUT
  go_wp2_with fail
  go_loopg [5, 11] (C.length + 1) (fun kx m i wq => ∃ j : Nat, i = .int .i64 j ∧ m = .int .i64 (cntN (C.take j) x : Int) ∧ j ≤ C.length ∧ Hid ((C.take j).any badO = false ∧ Below V.heap.size V wq) ∧ C.length - j + 1 ≤ kx)
  case atStart => exact ⟨0, rfl, rfl, Nat.zero_le _, Lib.hid ⟨rfl, HB4.out⟩, Nat.le_refl _⟩
  case round =>
    obtain ⟨j, rfl, rfl, hj, HI, hm⟩ := hrel
    by_cases hlt : j < C.length
    · obtain ⟨o, ho⟩ : ∃ o, C[j]? = some o := ⟨_, List.getElem?_eq_getElem hlt⟩
      have hT : C.take (j + 1) = C.take j ++ [o] := by rw [List.take_add_one, ho]; rfl
      obtain ⟨g, off, rfl, hg, hc⟩ := (HO.out.below (HV.out.trans (HI.out.2.mono HV.out.size))).2.2 (by omega)
      have hcs := hc j o ho
      have d0 := hcs 0 _ rfl
      have d1 := hcs 1 _ rfl
      have d2 := hcs 2 _ rfl
      have d3 := hcs 3 _ rfl
      have d4 := hcs 4 _ rfl
      have d5 := hcs 5 _ rfl
      have d6 := hcs 6 _ rfl
      rw [Nat.add_zero] at d0
      have hlt' : (j : Int) < (C.length : Int) := by omega
      have hj0 : (0 : Int) ≤ (j : Int) := by omega
      obtain ⟨Wa, hWa⟩ : ∃ Wa, wr.alloc (.cells #[.int .u64 (o.kind : Int), .string o.a, .string o.b, .slice o.dA o.dn o.dc, .int .i64 o.n, .int .i64 o.dir, .slice o.kA o.kn o.kc] 34) = Wa := ⟨_, rfl⟩
      have hBa : Below wr.heap.size wr Wa := by rw [← hWa]; exact (Below.refl _ wr).alloc (Nat.le_refl _) _
      have hva : Wa.heap[wr.heap.size]? = some (.cells #[.int .u64 (o.kind : Int), .string o.a, .string o.b, .slice o.dA o.dn o.dc, .int .i64 o.n, .int .i64 o.dir, .slice o.kA o.kn o.kc] 34 (0, 0)) := by rw [← hWa]; exact heap_alloc_new wr _
      have HBA : Hid (Below V.heap.size V Wa) := Lib.hid (HI.out.2.trans (hBa.mono HI.out.2.size))
      obtain ⟨va, hvae⟩ : ∃ va, wr.heap.size = va := ⟨_, rfl⟩
      rw [hvae] at hva
      have e0 : Wa.cell? ⟨va, 0, none⟩ = some (.int .u64 (o.kind : Int)) := by rw [cell_of_row _ va 0 _ _ (0, 0) hva]; rfl
      have e1 : Wa.cell? ⟨va, 1, none⟩ = some (.string o.a) := by rw [cell_of_row _ va 1 _ _ (0, 0) hva]; rfl
      have hcl : cntN (C.take j) x ≤ 60 := by have := cnt_le (C.take j) x; rw [List.length_take] at this; omega
      have hbe := beq_bytes (a := o.a) (b := x)
      have HNEXT : Hid (badO o = false → (C.take (j + 1)).any badO = false ∧ cntN (C.take (j + 1)) x = cntN (C.take j) x + (if o.kind % 10 = 0 ∧ o.a = x then 1 else 0)) := Lib.hid (fun hb => by
        rw [hT, any_snoc, cnt_snoc, HI.out.1, hb]
        exact ⟨rfl, rfl⟩)
      have HBAD : Hid (badO o = true → sb = false) := Lib.hid (fun hb => by
        rw [← HSB.out]
        unfold soleB
        rw [any_take ho hb]
        rfl)
      obtain ⟨t, ht⟩ : ∃ t, decide (o.a = x) = t := ⟨_, rfl⟩
      rw [ht] at hbe
      have HT := Lib.hid ht
      obtain ⟨cn, hcn⟩ : ∃ cn, cntN (C.take j) x = cn := ⟨_, rfl⟩
      rw [hcn] at HNEXT hcl
      rw [hcn]
      clear hc hcs hva hBa hg HI hT ho ht hcn
      obtain ⟨kd, hkd⟩ : ∃ kd, o.kind % 10 = kd := ⟨_, rfl⟩
      have hk' : (o.kind : Int) % 10 = (kd : Int) := by omega
      have hk10 : kd < 10 := by omega
      have HKD := Lib.hid hkd
      clear hkd
      have hcase : kd = 0 ∨ (kd = 1 ∨ kd = 2 ∨ kd = 3 ∨ kd = 6 ∨ kd = 7) ∨ (kd = 4 ∨ kd = 5 ∨ kd = 8 ∨ kd = 9) := by omega
      rcases hcase with h0 | h1 | h2
      · subst h0
        have hgood : badO o = false := by unfold badO; rw [HKD.out]; rfl
        have HN := Lib.hid (HNEXT.out hgood)
        clear HNEXT HBAD hgood
        cases t with
        | true =>
          have hN2 : cntN (C.take (j + 1)) x = cn + 1 := by rw [HN.out.2, if_pos ⟨HKD.out, of_decide_eq_true HT.out⟩]
          have HN2 := Lib.hid hN2
          clear hN2
          go_wp2
          go_roundg (C.length - (j + 1) + 1)
          case measure => omega
          case rel => exact ⟨j + 1, by go_num, by rw [HN2.out]; go_num, by omega, Lib.hid ⟨HN.out.1, HBA.out⟩, Nat.le_refl _⟩
        | false =>
          have hN2 : cntN (C.take (j + 1)) x = cn := by rw [HN.out.2, if_neg (fun h => of_decide_eq_false HT.out h.2)]; rfl
          have HN2 := Lib.hid hN2
          clear hN2
          go_wp2
          go_roundg (C.length - (j + 1) + 1)
          case measure => omega
          case rel => exact ⟨j + 1, by go_num, by rw [HN2.out], by omega, Lib.hid ⟨HN.out.1, HBA.out⟩, Nat.le_refl _⟩
      · have hgood : badO o = false := by unfold badO; rw [HKD.out, decide_eq_false_iff_not]; omega
        have hN2 : cntN (C.take (j + 1)) x = cn := by rw [(HNEXT.out hgood).2, if_neg (fun h => by rw [HKD.out] at h; omega)]; rfl
        have HN := Lib.hid (HNEXT.out hgood).1
        have HN2 := Lib.hid hN2
        clear HNEXT HBAD hgood hN2
        rcases h1 with rfl | rfl | rfl | rfl | rfl
        all_goals
          go_wp2
          go_roundg (C.length - (j + 1) + 1)
          case measure => omega
          case rel => exact ⟨j + 1, by go_num, by rw [HN2.out], by omega, Lib.hid ⟨HN.out, HBA.out⟩, Nat.le_refl _⟩
      · have hbad : badO o = true := by unfold badO; rw [HKD.out, decide_eq_true_iff]; omega
        obtain rfl := HBAD.out hbad
        clear HNEXT HBAD hbad
        rcases h2 with rfl | rfl | rfl | rfl
        all_goals
          go_wp2
          go_ret
          exact ⟨rfl, HBA.out⟩
    · obtain rfl : j = C.length := by omega
      have hE := HI.out
      rw [List.take_length] at hE ⊢
      have hs : sb = decide (cntN C x < 2) := by rw [← HSB.out]; unfold soleB; rw [hE.1]; rfl
      have HE := Lib.hid hE.2
      have hcl : cntN C x ≤ 60 := by have := cnt_le C x; omega
      obtain ⟨cn, hcn⟩ : ∃ cn, cntN C x = cn := ⟨_, rfl⟩
      rw [hcn] at hs hcl ⊢
      have HS := Lib.hid hs
      clear hE HI hs hcn
      have hd : decide ((cn : Int) < 2) = sb := by rw [HS.out]; simp; omega
      go_wp2
      go_ret
      exact ⟨by simp, HE.out⟩
end Go.Proofs.Ytbjlikppboggmaa
namespace Go.Proofs.Ytbjlikppboggmaa
open Go.RowKit Go.Maps
set_option linter.unusedVariables false
set_option maxRecDepth 100000

section
variable {Q : ByteArray × Value → Prop}
theorem layOne_all (ps : List (ByteArray × Value)) (c : ByteArray × Value) (h1 : ∀ q ∈ ps, Q q) (h2 : c.2 ≠ .pointer none → Q c) : ∀ q ∈ layOne ps c, Q q := by
  intro q hq
  by_cases e : c.2 = .pointer none
  · obtain ⟨k, v⟩ := c
    dsimp only at e
    subst e
    rw [layOne_drop] at hq
    exact h1 q ((mem_dropP orders_S).1 hq).1
  · rw [layOne_put _ _ e] at hq
    rcases (mem_putP orders_S).1 hq with e2 | e2
    · rw [e2]; exact h2 e
    · exact h1 q e2.1
theorem layP_all : ∀ (cs ps : List (ByteArray × Value)), (∀ q ∈ ps, Q q) → (∀ c ∈ cs, c.2 ≠ .pointer none → Q c) → ∀ q ∈ layP ps cs, Q q := by
  intro cs
  induction cs with
  | nil => exact fun ps h _ => h
  | cons c l ih => exact fun ps h hc => ih (layOne ps c) (layOne_all ps c h (hc c (List.mem_cons_self ..))) (fun c' h' => hc c' (List.mem_cons_of_mem _ h'))
theorem layAll_all : ∀ (chl : List (List (ByteArray × Value))) (ps : List (ByteArray × Value)), (∀ q ∈ ps, Q q) → (∀ cs ∈ chl, ∀ c ∈ cs, c.2 ≠ .pointer none → Q c) → ∀ q ∈ layAll ps chl, Q q := by
  intro chl
  induction chl with
  | nil => exact fun ps h _ => h
  | cons c l ih => exact fun ps h hc => ih (layP ps c) (layP_all c ps h (hc c (List.mem_cons_self ..))) (fun c' h' => hc c' (List.mem_cons_of_mem _ h'))
/-- Each pair of the directory, and each that a change lays, is so. -/
def AllQ (Q : ByteArray × Value → Prop) (r : RD) : Prop := (∀ q ∈ r.sure, Q q) ∧ ∀ c ∈ r.chs, ∀ q ∈ c, q.2 ≠ .pointer none → Q q
variable {r : RD}
theorem AllQ.powered (h : AllQ Q r) : AllQ Q r.powered := by unfold AllQ; rw [r.powered_sure, r.powered_chs]; exact h
theorem AllQ.now (h : AllQ Q r) : ∀ q ∈ r.now, Q q := layAll_all _ _ h.1 h.2
theorem AllQ.left (h : AllQ Q r) (dir : Int) : ∀ q ∈ r.left dir, Q q := layAll_all _ _ h.1 (fun c hc => h.2 c (List.mem_of_mem_take hc))
theorem AllQ.more (h : AllQ Q r) {r' : RD} (e1 : r'.sure = r.sure) (c : List (ByteArray × Value)) (e2 : r'.chs = r.chs ++ [c]) (hc : ∀ q ∈ c, q.2 ≠ .pointer none → Q q) : AllQ Q r' := by
  unfold AllQ
  rw [e1, e2]
  exact ⟨h.1, fun c' hc' => by
    rcases List.mem_append.1 hc' with h' | h'
    · exact h.2 c' h'
    · rw [List.mem_singleton] at h'; rw [h']; exact hc⟩
theorem AllQ.create (h : AllQ Q r) (x : ByteArray) (hx : r.begE [x] = 0 → Q (x, numV r.files.length)) : AllQ Q (r.create x).2 := by
  unfold RD.create
  split
  · rename_i e
    split
    · exact h.powered
    · refine h.more (r.powered_sure) _ rfl fun q hq _ => ?_
      rw [List.mem_singleton] at hq
      rw [hq]
      exact hx e
  · exact h.powered
theorem AllQ.append (h : AllQ Q r) (x : ByteArray) (bs : List Value) : AllQ Q (r.append x bs).2 := by
  unfold RD.append
  split
  · split
    · exact h.powered
    · split
      · exact h.powered
      · exact h.powered
  · exact h.powered
theorem AllQ.sync (h : AllQ Q r) (x : ByteArray) : AllQ Q (r.sync x).2 := by
  unfold RD.sync
  split
  · exact h.powered
  · exact h.powered
theorem AllQ.syncDir (h : AllQ Q r) : AllQ Q r.syncDir.2 := by
  unfold RD.syncDir
  split
  · exact ⟨h.now, fun c hc => by cases hc⟩
  · exact h.powered
theorem AllQ.rename (h : AllQ Q r) (x y : ByteArray) (hy : r.begE [x, y] = 0 → ∀ v, Q (y, v)) : AllQ Q (r.rename x y).2 := by
  unfold RD.rename
  split
  · rename_i e
    refine h.more r.powered_sure _ rfl fun q hq hne => ?_
    simp only [List.mem_cons, List.not_mem_nil, or_false] at hq
    rcases hq with e2 | e2
    · rw [e2] at hne; exact absurd rfl hne
    · rw [e2]; exact hy (witE_beg e) _
  · exact h.powered
theorem AllQ.remove (h : AllQ Q r) (x : ByteArray) : AllQ Q (r.remove x).2 := by
  unfold RD.remove
  split
  · refine h.more r.powered_sure _ rfl fun q hq hne => ?_
    rw [List.mem_singleton] at hq
    rw [hq] at hne; exact absurd rfl hne
  · exact h.powered
theorem AllQ.crash (h : AllQ Q r) (hv : ∀ x v v', Q (x, v) → Q (x, v')) (dir : Int) (zs : List Int) : AllQ Q (r.crash dir zs) := by
  refine ⟨fun q hq => ?_, fun c hc => by cases hc⟩
  obtain ⟨p, hp, rfl⟩ := List.mem_map.1 hq
  exact hv _ _ _ (h.left dir p hp)
theorem AllQ.turn (h : AllQ Q r) (x : ByteArray) (a : Int) (m : Nat) : AllQ Q (r.turn x a m) := by
  unfold RD.turn
  split
  · exact h
  · exact h
theorem AllQ.fresh (q : Int) : AllQ Q (RD.fresh q) := ⟨fun p hp => (by cases hp), fun c hc => (by cases hc)⟩
end
/-- All names may be names. -/
def NmOk (r : RD) : Prop := AllQ (fun q => nameOk q.1 = true) r
theorem NmOk.doOp {r : RD} (h : NmOk r) (o : OpR) : NmOk (r.doOp o) := by
  unfold RD.doOp
  split
  · exact AllQ.create h _ (fun e => begE_ok e _ (by simp))
  split
  · exact AllQ.append h _ _
  split
  · exact AllQ.sync h _
  split
  · exact AllQ.syncDir h
  split
  · exact AllQ.rename h _ _ (fun e v => begE_ok e _ (by simp))
  split
  · exact AllQ.remove h _
  split
  · exact h
  split
  · exact h
  split
  · exact AllQ.crash h (fun _ _ _ h => h) _ _
  · exact AllQ.turn h _ _ _
theorem NmOk.doAll : ∀ (l : List OpR) (r : RD), NmOk r → NmOk (r.doAll l) := by
  intro l
  induction l with
  | nil => exact fun r h => h
  | cons o l ih => exact fun r h => ih (r.doOp o) (h.doOp o)
/-- A name has no file but this one, if any. -/
def OnlyF (x : ByteArray) (k : Option Nat) (r : RD) : Prop := AllQ (fun q => q.1 = x → ∃ i, k = some i ∧ q.2 = numV i) r
theorem OnlyF.doOp {r : RD} {x : ByteArray} {k : Option Nat} (h : OnlyF x k r) (o : OpR) (hb : badO o = false) (hk : (o.kind % 10 = 0 ∧ o.a = x) → k = none) : ∃ k', OnlyF x k' (r.doOp o) ∧ (¬ (o.kind % 10 = 0 ∧ o.a = x) → k' = k) := by
  unfold badO at hb
  rw [decide_eq_false_iff_not] at hb
  unfold RD.doOp
  by_cases h0 : o.kind % 10 = 0
  · rw [if_pos h0]
    by_cases hx : o.a = x
    · have hkn := hk ⟨h0, hx⟩
      subst hkn
      refine ⟨some r.files.length, AllQ.create (Q := fun q => q.1 = x → ∃ i, some r.files.length = some i ∧ q.2 = numV i) ⟨fun q hq e => ?_, fun c hc q hq hne e => ?_⟩ _ (fun _ _ => ⟨_, rfl, rfl⟩), fun hn => absurd ⟨h0, hx⟩ hn⟩
      · obtain ⟨i, e1, _⟩ := h.1 q hq e; cases e1
      · obtain ⟨i, e1, _⟩ := h.2 c hc q hq hne e; cases e1
    · exact ⟨k, AllQ.create h _ (fun _ e => absurd e hx), fun _ => rfl⟩
  rw [if_neg h0]
  refine ⟨k, ?_, fun _ => rfl⟩
  split
  · exact AllQ.append h _ _
  split
  · exact AllQ.sync h _
  split
  · exact AllQ.syncDir h
  rw [if_neg (by omega), if_neg (by omega)]
  split
  · exact h
  split
  · exact h
  omega
theorem OnlyF.doAll (x : ByteArray) : ∀ (l : List OpR) (r : RD) (k : Option Nat), OnlyF x k r → l.any badO = false → cntN l x + (if k = none then 0 else 1) < 2 → ∃ k', OnlyF x k' (r.doAll l) := by
  intro l
  induction l with
  | nil => exact fun r k h _ _ => ⟨k, h⟩
  | cons o l ih =>
    intro r k h hb hc
    rw [List.any_cons, Bool.or_eq_false_iff] at hb
    have hcn : cntN (o :: l) x = (if o.kind % 10 = 0 ∧ o.a = x then 1 else 0) + cntN l x := by
      unfold cntN
      by_cases hh : o.kind % 10 = 0 ∧ o.a = x
      · rw [List.filter_cons_of_pos (by simpa using hh), if_pos hh, List.length_cons]; omega
      · rw [List.filter_cons_of_neg (by simpa using hh), if_neg hh]; omega
    rw [hcn] at hc
    obtain ⟨k', h', e'⟩ := h.doOp o hb.1 (fun hh => by
      rw [if_pos hh] at hc
      by_cases e : k = none
      · exact e
      · rw [if_neg e] at hc; omega)
    refine ih (r.doOp o) k' h' hb.2 ?_
    by_cases hh : o.kind % 10 = 0 ∧ o.a = x
    · rw [if_pos hh] at hc
      by_cases e : k' = none
      · rw [if_pos e]; omega
      · rw [if_neg e]; split at hc <;> omega
    · rw [if_neg hh] at hc
      rw [e' hh]
      omega
section
variable {r : RD}
/-- Behind a loss a name that is left has its file, cut. -/
theorem lost_get (dir : Int) (zs : List Int) (hr : Rises ltS (r.left dir)) {x : ByteArray} {i : Nat} (hl : lookP ltS (r.left dir) x = some (numV i)) (hi : i < r.files.length) : hasP ltS (r.crash dir zs).now x = true ∧ (r.crash dir zs).get x = RD.cutF zs i (r.file i) := by
  have hmem := (look_some orders_S hr).1 hl
  have hk : i ∈ r.keep dir := by
    unfold RD.keep
    rw [List.mem_filter, List.mem_range, decide_eq_true_eq]
    exact ⟨hi, List.mem_map.2 ⟨_, hmem, numOf_numV i⟩⟩
  have hnow : (r.crash dir zs).now = (r.left dir).map fun p => (p.1, numV ((r.keep dir).filter fun u => decide (u < numOf p.2)).length) := rfl
  have hl2 : lookP ltS (r.crash dir zs).now x = some (numV ((r.keep dir).filter fun u => decide (u < i)).length) := by
    rw [hnow, look_map (fun v => numV ((r.keep dir).filter fun u => decide (u < numOf v)).length), hl]
    show some (numV ((r.keep dir).filter fun u => decide (u < numOf (numV i))).length) = _
    rw [numOf_numV]
  have hp : (r.keep dir).Pairwise (· < ·) := by unfold RD.keep; exact List.pairwise_lt_range.filter _
  refine ⟨by unfold hasP; rw [hl2]; rfl, ?_⟩
  unfold RD.get RD.num
  rw [hl2, Option.getD_some, numOf_numV]
  show (r.crash dir zs).file _ = _
  unfold RD.file
  rw [List.getD_eq_getElem?_getD]
  have hfl : (r.crash dir zs).files = (r.keep dir).map fun i => RD.cutF zs i (r.file i) := rfl
  rw [hfl, List.getElem?_map, rank_at _ i hp hk]
  rfl
theorem has_crash (dir : Int) (zs : List Int) (x : ByteArray) : hasP ltS (r.crash dir zs).now x = hasP ltS (r.left dir) x := by
  have hnow : (r.crash dir zs).now = (r.left dir).map fun p => (p.1, numV ((r.keep dir).filter fun u => decide (u < numOf p.2)).length) := rfl
  unfold hasP
  rw [hnow, look_map (fun v => numV ((r.keep dir).filter fun u => decide (u < numOf v)).length), Option.isSome_map]
theorem names_crash (dir : Int) (zs : List Int) : (r.crash dir zs).now.map (·.1) = (r.left dir).map (·.1) := by
  have hnow : (r.crash dir zs).now = (r.left dir).map fun p => (p.1, numV ((r.keep dir).filter fun u => decide (u < numOf p.2)).length) := rfl
  rw [hnow, List.map_map]
  rfl
theorem left_rises (F : Fct r) (dir : Int) : Rises ltS (r.left dir) := (layAll_len _ _ F.rs (fun c hc => F.two c (List.mem_of_mem_take hc))).1
theorem left_numsB (F : Fct r) (P : Puts r) (dir : Int) : ∀ p ∈ r.left dir, ∃ k : Nat, p.2 = numV k ∧ k < r.files.length := layAll_nums _ _ F.ns (fun c hc => P c (List.mem_of_mem_take hc))
/-- A name that was made once: behind a loss it has a beginning of what it had. -/
theorem sole_cut (F : Fct r) (P : Puts r) {x : ByteArray} {k : Option Nat} (ho : OnlyF x k r) (dir : Int) (zs : List Int) (h1 : hasP ltS r.now x = true) (h2 : hasP ltS (r.crash dir zs).now x = true) : ∃ n, ((r.crash dir zs).get x).data = (r.get x).data.take n := by
  rw [has_crash] at h2
  unfold hasP at h1 h2
  obtain ⟨v1, e1⟩ := Option.isSome_iff_exists.1 h1
  obtain ⟨v2, e2⟩ := Option.isSome_iff_exists.1 h2
  have m1 := (look_some orders_S F.rn).1 e1
  have m2 := (look_some orders_S (left_rises F dir)).1 e2
  obtain ⟨i, hk, q1⟩ := ho.now _ m1 rfl
  obtain ⟨i2, hk2, q2⟩ := ho.left dir _ m2 rfl
  rw [hk] at hk2
  cases hk2
  dsimp only at q1 q2
  subst q1 q2
  obtain ⟨i3, q3, hlt⟩ := left_numsB F P dir _ m2
  have hi : i = i3 := by
    have := congrArg numOf q3
    rw [numOf_numV, numOf_numV] at this
    exact this
  rw [(lost_get dir zs (left_rises F dir) e2 (by omega)).2]
  have hg : r.get x = r.file i := by
    unfold RD.get RD.num
    rw [e1, Option.getD_some, numOf_numV]
  rw [hg]
  exact ⟨_, rfl⟩
/-- All files of a disk behind a loss are sure. -/
theorem crash_sure (dir : Int) (zs : List Int) (hsu : ∀ i ∈ r.keep dir, (r.file i).sure ≤ (r.file i).data.length) (k : Nat) : ((r.crash dir zs).file k).sure = ((r.crash dir zs).file k).data.length := by
  unfold RD.file
  rw [List.getD_eq_getElem?_getD]
  have hfl : (r.crash dir zs).files = (r.keep dir).map fun i => RD.cutF zs i (r.file i) := rfl
  rw [hfl, List.getElem?_map]
  cases e : (r.keep dir)[k]? with
  | none => rfl
  | some i =>
    show leftN _ _ _ = (List.take _ _).length
    have h := hsu i (List.mem_of_getElem? e)
    rw [List.length_take, Nat.min_eq_left (leftN_le _ _ _ h)]
/-- A loss behind a loss leaves all as it was. -/
theorem again_same (F : Fct r) (P : Puts r) (hc : r.chs = []) (hs : ∀ k, (r.file k).sure = (r.file k).data.length) (dir : Int) (zs : List Int) : (r.crash dir zs).now.map (·.1) = r.now.map (·.1) ∧ ∀ x, hasP ltS (r.crash dir zs).now x = true → ((r.crash dir zs).get x).data = (r.get x).data := by
  have hleft : r.left dir = r.sure := by unfold RD.left; rw [hc, List.take_nil]; rfl
  have hnow : r.now = r.sure := by unfold RD.now; rw [hc]; rfl
  refine ⟨by rw [names_crash, hleft, hnow], fun x hx => ?_⟩
  rw [has_crash] at hx
  unfold hasP at hx
  obtain ⟨v, e⟩ := Option.isSome_iff_exists.1 hx
  have m := (look_some orders_S (left_rises F dir)).1 e
  obtain ⟨i, q, hlt⟩ := left_numsB F P dir _ m
  dsimp only at q
  subst q
  rw [(lost_get dir zs (left_rises F dir) e hlt).2]
  have hg : r.get x = r.file i := by
    unfold RD.get RD.num
    rw [hnow, ← hleft, e, Option.getD_some, numOf_numV]
  rw [hg]
  show (r.file i).data.take (leftN _ _ _) = _
  have hl : leftN (r.file i).data.length (r.file i).sure (keptZ zs i) = (r.file i).data.length := by
    rw [hs i]
    unfold leftN
    omega
  rw [hl, List.take_length]
end
section
variable {w W : World} {d e : Nat} {own own' : Nat → Nat} {r r' : RD}
theorem IsD.clone (h : IsD w d own r) : Calls Try.prog 21 #[.pointer (some ⟨d, 0, none⟩)] w fun e w' => ∃ c own2, e = .returned (.pointer (some ⟨c, 0, none⟩)) ∧ (∀ i, i < w.heap.size → own2 i = 0) ∧ IsD w' c own2 r ∧ Below w.heap.size w w' := by
  obtain ⟨hF, b, F, fn, fc, RA, rn, rc, SA, sn, sc, C, cn, cc, fs, ps, ss, css, chl, nm, dt, su, H, R⟩ := h
  obtain ⟨files, made, now, sure, changes, quota, full, ahead, off, calls⟩ := b
  have e1 := H.files
  have e2 := H.now
  have e3 := H.sure
  have e4 := H.changes
  dsimp only at e1 e2 e3 e4
  subst e1 e2 e3 e4
  exact H.clone R
/-- What a name shows, for a Read to come. -/
theorem IsD.readZ (h : IsD w d own r) (nm : ByteArray) (hh : hasP ltS r.now nm = true) : ∃ zs, (r.get nm).data = cellsZ zs ∧ zs.length ≤ 1048576 ∧ ∀ V, Below w.heap.size w V → Calls Try.prog 20 #[.pointer (some ⟨d, 0, none⟩), .string nm] V fun e w' => (∃ A' c', e = .returned (.tuple #[.slice A' zs.length c', .int .i64 0]) ∧ RowZ w' A' zs.length zs ∧ zs.length ≤ c') ∧ Below V.heap.size V w' := by
  obtain ⟨b1, b2, b3⟩ := h.bytes nm hh
  obtain ⟨zs, hzs, hz1⟩ := cellsZ_from _ b1
  have hm : (r.get nm).data.length = zs.length := by rw [hzs, cellsZ_length]
  refine ⟨zs, hzs, by omega, fun V hV => ?_⟩
  refine ((h.below hV).read_yes nm hh).mono ?_
  rintro e w' ⟨⟨A', c', rfl, hl', _⟩, hB⟩
  rw [hm, hzs] at hl'
  rw [hm]
  exact ⟨⟨A', c', rfl, hl'.toRowZ hz1, hl'.2.1⟩, hB⟩
/-- Both show the same. -/
theorem IsD.same (h : IsD w d own r) (h' : IsD w e own' r') (hn : r.now.map (·.1) = r'.now.map (·.1)) (hd : ∀ x, hasP ltS r.now x = true → (r.get x).data = (r'.get x).data) :
    Calls Try.prog 27 #[.pointer (some ⟨d, 0, none⟩), .pointer (some ⟨e, 0, none⟩)] w fun ed w' => ed = .returned (.bool true) ∧ Below w.heap.size w w' := by
  have hF := h.fct.1
  have hF' := h'.fct.1
  have hb := h.bytes
  obtain ⟨_, b, F, fn, fc, RA, rn, rc, SA, sn, sc, C, cn, cc, fs, ps, ss, css, chl, nm, dt, su, H, R⟩ := h
  obtain ⟨_, b', F', fn', fc', RA', rn', rc', SA', sn', sc', C', cn', cc', fs', ps', ss', css', chl', nm', dt', su', H', R'⟩ := h'
  have hk : ps.map (·.1) = ps'.map (·.1) := by
    rw [H.rnow R, H'.rnow R'] at hn
    unfold mapT at hn
    rw [List.map_map, List.map_map] at hn
    exact hn
  have hlen : rn = rn' := by
    have h1 := H.nrow.len
    have h2 := H'.nrow.len
    have h3 := congrArg List.length hk
    rw [List.length_map, List.length_map] at h3
    omega
  subst hlen
  refine same_any w d e RA RA' rn rc rc' ps ps' H.nowAt.rowAt H'.nowAt.rowAt H.nowAt.len fun p hp => ?_
  obtain ⟨x, v⟩ := p
  have hlk : lookP ltS ps x = some v := (look_some orders_S H.nrow.rises).2 hp
  have hx : x ∈ ps'.map (·.1) := by rw [← hk]; exact List.mem_map.2 ⟨_, hp, rfl⟩
  obtain ⟨⟨x2, v'⟩, hp', ex⟩ := List.mem_map.1 hx
  dsimp only at ex
  subst ex
  have hlk' : lookP ltS ps' x2 = some v' := (look_some orders_S H'.nrow.rises).2 hp'
  have hm := H.nin _ hp
  have hm' := H'.nin _ hp'
  obtain ⟨f, A, n, c, ef, _, hfa, hsl, _, _, _⟩ := H.file v hm
  obtain ⟨g, A', n', c', eg, _, hfa', hsl', _, _, _⟩ := H'.file v' hm'
  have hhas : hasP ltS r.now x2 = true := by rw [H.rnow R, has_tag]; unfold hasP; rw [hlk]; rfl
  have hdat := hd x2 hhas
  rw [(H.rnum R x2 v hlk).2, (H'.rnum R' x2 v' hlk').2] at hdat
  dsimp only at hdat
  have hby := H.bytes v hm
  obtain ⟨zs, hzs, hz1⟩ := cellsZ_from _ hby
  have hnn : n = zs.length := by have h1 := hsl.1; rw [hzs, cellsZ_length] at h1; omega
  have hnn' : n' = zs.length := by have h1 := hsl'.1; rw [← hdat, hzs, cellsZ_length] at h1; omega
  subst hnn hnn'
  rw [hzs] at hsl
  rw [← hdat, hzs] at hsl'
  exact ⟨f, g, _, _, A, A', _, c, c', _, _, zs, ef, by rw [hlk', eg], hfa, hfa', hsl.toRowZ hz1, hsl'.toRowZ hz1⟩
end
end Go.Proofs.Ytbjlikppboggmaa
