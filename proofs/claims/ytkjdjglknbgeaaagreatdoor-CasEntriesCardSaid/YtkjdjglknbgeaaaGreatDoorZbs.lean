/-
  What laying a file does to the abstract disk; what Get, Put and room see behind it.
  A store gone on with since a world; what laying a file shows; the pure states of layer 6's example.
  Layer 6's example is as the document says: the helper 'lives' of its statements.
  The walk of the law CasNobody: it answers true and writes nothing that was there.
-/
import Derived.Test.YtkjdjglknbgeaaaGreatDoorZbq
import Derived.Test.YtkjdjglknbgeaaaGreatDoorZbr
import Derived.Test.YtkjdjglknbgeaaaGreatDoorZbk
import Derived.Test.YtkjdjglknbgeaaaGreatDoorZay
import Derived.Test.YtkjdjglknbgeaaaGreatDoorZaa
namespace Go.Proofs.YtkjdjglknbgeaaaGreatDoor
open Go.RowKit Go.Maps
set_option linter.unusedVariables false
set_option maxRecDepth 100000

section
variable {P : List (ByteArray × Value)} {x y z : ByteArray} {v : Value}
theorem absent_two (hr : Rises ltS P) (h : hasP ltS P y = false) : P.filter (fun p => ltS p.1 y) ++ P.filter (fun p => ltS y p.1) = P := by
  have hn : lookP ltS P y = none := by
    unfold hasP at h
    cases hl : lookP ltS P y with
    | none => rfl
    | some u => rw [hl] at h; cases h
  have hm := (look_none orders_S hr).1 hn
  clear h hn
  induction P with
  | nil => rfl
  | cons p l ih =>
    obtain ⟨h1, h2⟩ := List.pairwise_cons.1 hr
    have hne : p.1 ≠ y := fun e => hm p.2 (by rw [← e]; exact List.mem_cons_self ..)
    have ih' := ih h2 (fun v hv => hm v (List.mem_cons_of_mem _ hv))
    by_cases hlt : ltS p.1 y = true
    · have hng : ltS y p.1 = false := orders_S.asym hlt
      rw [show (p :: l).filter (fun q => ltS q.1 y) = p :: l.filter (fun q => ltS q.1 y) from List.filter_cons_of_pos hlt, show (p :: l).filter (fun q => ltS y q.1) = l.filter (fun q => ltS y q.1) from List.filter_cons_of_neg (by rw [hng]; exact Bool.false_ne_true), List.cons_append, ih']
    · have hgt : ltS y p.1 = true := by
        cases hq : ltS y p.1 with
        | true => rfl
        | false => exact absurd (orders_S.tot _ _ (by simpa using hlt) hq) hne
      have h0 : (p :: l).filter (fun p => ltS p.1 y) = [] := by
        rw [List.filter_eq_nil_iff]
        intro q hq
        rcases List.mem_cons.1 hq with rfl | hq
        · exact hlt
        · have h3 := orders_S.tr _ _ _ hgt (h1 q hq)
          rw [orders_S.asym h3]
          exact Bool.false_ne_true
      have h4 : (p :: l).filter (fun p => ltS y p.1) = p :: l := by
        rw [List.filter_eq_self]
        intro q hq
        rcases List.mem_cons.1 hq with rfl | hq
        · exact hgt
        · exact orders_S.tr _ _ _ hgt (h1 q hq)
      rw [h0, h4]
      rfl
theorem drop_absent (hr : Rises ltS P) (h : hasP ltS P y = false) : dropP ltS P y = P := absent_two hr h
theorem drop_put (hr : Rises ltS P) (h : hasP ltS P y = false) : dropP ltS (putP ltS P y v) y = P := by
  have hi : ∀ a, ltS a a = false := orders_S.irr
  unfold dropP putP
  rw [List.filter_append, List.filter_append, List.filter_cons_of_neg (by rw [hi]; exact Bool.false_ne_true), List.filter_cons_of_neg (by rw [hi]; exact Bool.false_ne_true), List.filter_filter, List.filter_filter, List.filter_filter, List.filter_filter]
  have e1 : P.filter (fun p => ltS p.1 y && ltS p.1 y) = P.filter (fun p => ltS p.1 y) := by congr 1; funext p; simp
  have e2 : P.filter (fun p => ltS p.1 y && ltS y p.1) = [] := by
    rw [List.filter_eq_nil_iff]
    intro p _
    intro hh
    rw [Bool.and_eq_true] at hh
    rw [orders_S.asym hh.1] at hh
    exact Bool.false_ne_true hh.2
  have e3 : P.filter (fun p => ltS y p.1 && ltS p.1 y) = [] := by
    rw [List.filter_eq_nil_iff]
    intro p _
    intro hh
    rw [Bool.and_eq_true] at hh
    rw [orders_S.asym hh.1] at hh
    exact Bool.false_ne_true hh.2
  have e4 : P.filter (fun p => ltS y p.1 && ltS y p.1) = P.filter (fun p => ltS y p.1) := by congr 1; funext p; simp
  rw [e1, e2, e3, e4, List.append_nil, List.nil_append]
  exact absent_two hr h
theorem has_put (hr : Rises ltS P) : hasP ltS (putP ltS P y v) z = (decide (z = y) || hasP ltS P z) := by
  unfold hasP
  rw [look_put orders_S hr v z]
  by_cases h : z = y
  · rw [if_pos h, decide_eq_true h]; rfl
  · rw [if_neg h, decide_eq_false h]; rfl
theorem has_drop (hr : Rises ltS P) : hasP ltS (dropP ltS P y) z = (!decide (z = y) && hasP ltS P z) := by
  unfold hasP
  rw [look_drop orders_S hr z]
  by_cases h : z = y
  · rw [if_pos h, decide_eq_true h]; rfl
  · rw [if_neg h, decide_eq_false h]; rfl
theorem sum_put (g : Value → Nat) (hr : Rises ltS P) (h : hasP ltS P y = false) : sumLen g (putP ltS P y v) = sumLen g P + g v := by
  have e := absent_two hr h
  have h1 : sumLen g P = sumLen g (P.filter (fun p => ltS p.1 y)) + sumLen g (P.filter (fun p => ltS y p.1)) := by
    conv => lhs; rw [← e]
    unfold sumLen
    rw [List.map_append, List.sum_append]
  have h2 : sumLen g (putP ltS P y v) = sumLen g (P.filter (fun p => ltS p.1 y)) + (g v + sumLen g (P.filter (fun p => ltS y p.1))) := by
    unfold sumLen putP
    rw [List.map_append, List.sum_append, List.map_cons, List.sum_cons]
  omega
end
theorem layP_one (P : List (ByteArray × Value)) (y : ByteArray) (k : Nat) : layP P [(y, numV k)] = putP ltS P y (numV k) := rfl
theorem layP_two (P : List (ByteArray × Value)) (y x : ByteArray) (k : Nat) : layP P [(y, .pointer none), (x, numV k)] = putP ltS (dropP ltS P y) x (numV k) := rfl
theorem layP_gone (P : List (ByteArray × Value)) (y : ByteArray) : layP P [(y, .pointer none)] = dropP ltS P y := rfl
/-- What holds of a disk that works, and on which nothing will stop. -/
structure OnR (r : RD) : Prop where
  off : r.off = false
  stop : r.stop = -1
  fct : Fct r
theorem OnR.on {r : RD} (h : OnR r) : r.on = true := by unfold RD.on; rw [h.off, h.stop]; rfl
theorem OnR.pow {r : RD} (h : OnR r) : r.powered = { r with calls := r.calls + 1 } := by
  unfold RD.powered
  rw [h.off, h.stop]
  rfl
theorem spare_name (l : List Nat) (dn s : Nat) : fileB l dn s ++ tmpB = spareF l dn s := by
  unfold fileB tmpB spareF spareN
  rw [show (⟨#[46, 116, 109, 112]⟩ : ByteArray) = txt [46, 116, 109, 112] from rfl, txt_append]
section
variable {r : RD} {x y : ByteArray} {bs : List Value}
/-- A file is laid where there is room. -/
theorem lay_ok (h : OnR r) (hx : nameOk x = true) (hy : nameOk y = true) (hxy : x ≠ y) (hny : hasP ltS r.now y = false) (hlen : r.now.length < 1024) (hbs : bs.length ≤ 1048576) (hq : (r.used : Int) + (bs.length : Int) ≤ r.quota) :
    runL y (layS x y bs) r = (0, ⟨r.files ++ [⟨bs, bs.length⟩], putP ltS r.now x (numV r.files.length), [], r.quota, r.full, false, -1, r.calls + 5⟩) := by
  obtain ⟨files, sure, chs, quota, full, off, stop, calls⟩ := r
  have h1 := h.off
  have h2 := h.stop
  simp only at h1 h2
  subst h1 h2
  have hP := h.fct.rn
  have hN := h.fct.nn
  obtain ⟨P, hPe⟩ : ∃ P, layAll sure chs = P := ⟨_, rfl⟩
  have e0 : RD.now ⟨files, sure, chs, quota, full, false, -1, calls⟩ = P := hPe
  rw [e0] at hP hN hny hlen ⊢
  have hu : RD.used ⟨files, sure, chs, quota, full, false, -1, calls⟩ = sumLen (fun v => (files.getD (numOf v) ⟨[], 0⟩).data.length) P := by
    unfold RD.used
    rw [e0]
    rfl
  rw [hu] at hq
  simp only at hq
  have hb : ∀ (fs : List Fl) (cs : List (List (ByteArray × Value))) (k : Nat), RD.begE ⟨fs, sure, cs, quota, full, false, -1, k⟩ [y] = 0 := fun fs cs k => by
    unfold RD.begE RD.on
    simp [hy]
  have hb2 : ∀ (fs : List Fl) (cs : List (List (ByteArray × Value))) (k : Nat), RD.begE ⟨fs, sure, cs, quota, full, false, -1, k⟩ [y, x] = 0 := fun fs cs k => by
    unfold RD.begE RD.on
    simp [hy, hx]
  have hpw : ∀ (fs : List Fl) (su : List (ByteArray × Value)) (cs : List (List (ByteArray × Value))) (k : Nat), RD.powered ⟨fs, su, cs, quota, full, false, -1, k⟩ = ⟨fs, su, cs, quota, full, false, -1, k + 1⟩ := fun fs su cs k => rfl
  have hL := files.length
  have s1 : RD.create ⟨files, sure, chs, quota, full, false, -1, calls⟩ y = (0, ⟨files ++ [⟨[], 0⟩], sure, chs ++ [[(y, numV files.length)]], quota, full, false, -1, calls + 1⟩) := by
    unfold RD.create
    rw [hb, if_pos rfl, e0, if_neg (by rw [hny]; omega), hpw]
  have hn1 : layAll sure (chs ++ [[(y, numV files.length)]]) = putP ltS P y (numV files.length) := by rw [layAll_snoc, hPe, layP_one]
  have hl1 : lookP ltS (putP ltS P y (numV files.length)) y = some (numV files.length) := by rw [look_put orders_S hP, if_pos rfl]
  have hw : ∀ (fs : List Fl) (k : Nat), RD.witE ⟨fs, sure, chs ++ [[(y, numV files.length)]], quota, full, false, -1, k⟩ [y] y = 0 := fun fs k => by
    unfold RD.witE
    rw [hb, if_pos rfl]
    unfold RD.now
    rw [hn1, has_put hP]
    simp
  have hnum : ∀ (fs : List Fl) (k : Nat), RD.num ⟨fs, sure, chs ++ [[(y, numV files.length)]], quota, full, false, -1, k⟩ y = files.length := fun fs k => by
    unfold RD.num RD.now
    rw [hn1, hl1]
    exact numOf_numV _
  have hget : ∀ (f : Fl) (k : Nat), RD.get ⟨files ++ [f], sure, chs ++ [[(y, numV files.length)]], quota, full, false, -1, k⟩ y = f := fun f k => by
    unfold RD.get
    rw [hnum]
    unfold RD.file
    simp
  have hset : ∀ f g : Fl, (files ++ [f]).set files.length g = files ++ [g] := fun f g => by simp
  have hus : RD.used ⟨files ++ [⟨[], 0⟩], sure, chs ++ [[(y, numV files.length)]], quota, full, false, -1, calls + 1⟩ = sumLen (fun v => (files.getD (numOf v) ⟨[], 0⟩).data.length) P := by
    unfold RD.used RD.now
    rw [hn1, sum_put _ hP hny]
    unfold RD.file
    rw [numOf_numV]
    have e1 : ((files ++ [(⟨[], 0⟩ : Fl)]).getD files.length ⟨[], 0⟩).data.length = 0 := by simp
    rw [e1, Nat.add_zero]
    unfold sumLen
    congr 1
    refine List.map_congr_left fun p hp => ?_
    obtain ⟨k, hk, hlt⟩ := hN p hp
    rw [hk]
    show ((files ++ [(⟨[], 0⟩ : Fl)]).getD (numOf (numV k)) ⟨[], 0⟩).data.length = (files.getD (numOf (numV k)) ⟨[], 0⟩).data.length
    rw [numOf_numV]
    simp only at hlt
    rw [List.getD_eq_getElem?_getD, List.getD_eq_getElem?_getD, List.getElem?_append_left hlt]
  have s2 : RD.append ⟨files ++ [⟨[], 0⟩], sure, chs ++ [[(y, numV files.length)]], quota, full, false, -1, calls + 1⟩ y bs = (0, ⟨files ++ [⟨bs, 0⟩], sure, chs ++ [[(y, numV files.length)]], quota, full, false, -1, calls + 2⟩) := by
    unfold RD.append
    rw [hw, if_pos rfl, hget, if_neg (by simp; omega), hus, if_neg (by simp only; omega), hnum, hset, hpw]
    rfl
  have s3 : RD.sync ⟨files ++ [⟨bs, 0⟩], sure, chs ++ [[(y, numV files.length)]], quota, full, false, -1, calls + 2⟩ y = (0, ⟨files ++ [⟨bs, bs.length⟩], sure, chs ++ [[(y, numV files.length)]], quota, full, false, -1, calls + 3⟩) := by
    unfold RD.sync
    rw [hw, if_pos rfl, hget, hnum, hset, hpw]
  have hw2 : RD.witE ⟨files ++ [⟨bs, bs.length⟩], sure, chs ++ [[(y, numV files.length)]], quota, full, false, -1, calls + 3⟩ [y, x] y = 0 := by
    unfold RD.witE
    rw [hb2, if_pos rfl]
    unfold RD.now
    rw [hn1, has_put hP]
    simp
  have s4 : RD.rename ⟨files ++ [⟨bs, bs.length⟩], sure, chs ++ [[(y, numV files.length)]], quota, full, false, -1, calls + 3⟩ y x = (0, ⟨files ++ [⟨bs, bs.length⟩], sure, (chs ++ [[(y, numV files.length)]]) ++ [[(y, .pointer none), (x, numV files.length)]], quota, full, false, -1, calls + 4⟩) := by
    unfold RD.rename
    rw [hw2, if_pos rfl, hnum, hpw]
  have hn4 : layAll sure ((chs ++ [[(y, numV files.length)]]) ++ [[(y, .pointer none), (x, numV files.length)]]) = putP ltS P x (numV files.length) := by
    rw [layAll_snoc, hn1, layP_two, drop_put hP hny]
  have s5 : RD.syncDir ⟨files ++ [⟨bs, bs.length⟩], sure, (chs ++ [[(y, numV files.length)]]) ++ [[(y, .pointer none), (x, numV files.length)]], quota, full, false, -1, calls + 4⟩ = (0, ⟨files ++ [⟨bs, bs.length⟩], putP ltS P x (numV files.length), [], quota, full, false, -1, calls + 5⟩) := by
    unfold RD.syncDir
    rw [if_pos (by rfl)]
    unfold RD.now
    rw [hn4, hpw]
  simp only [layS, runL, s1, s2, s3, s4, s5, if_true]
end
end Go.Proofs.YtkjdjglknbgeaaaGreatDoor
namespace Go.Proofs.YtkjdjglknbgeaaaGreatDoor
open Go.RowKit Go.Shelf Go.Maps
set_option linter.unusedVariables false
set_option maxRecDepth 100000

/-- A store s over the disk d in state r, all of it made since w. -/
structure StAt (w W : World) (d s dn : Nat) (own : Nat → Nat) (r : RD) : Prop where
  on : Below w.heap.size w W
  zero : ∀ i, i < w.heap.size → own i = 0
  box : SBox W s d dn
  os : own s = 0
  new : w.heap.size ≤ s
  disk : IsD W d own r
  roots : RootsOk W
  root : 2 < w.heap.size
section
variable {w W W' : World} {d s dn : Nat} {own own' : Nat → Nat} {r r' : RD}
theorem StAt.only (h : StAt w W d s dn own r) (hO : Only own W own' W') (hD : IsD W' d own' r') : StAt w W' d s dn own' r' := by
  have hz := h.on.size
  have hl := h.box.lt
  exact ⟨h.on.trans (hO.toBelow h.zero hz), fun i hi => (hO.2.1 i (by omega)).trans (h.zero i hi), (hO.2.2 s hl h.os).trans h.box, (hO.2.1 s hl).trans h.os, h.new, hD, h.roots.only hO (h.zero _ h.root), h.root⟩
theorem StAt.below (h : StAt w W d s dn own r) (hb : Below W.heap.size W W') : StAt w W' d s dn own r := h.only (Only.of_below own hb) (h.disk.below hb)
theorem StAt.next (h : StAt w W d s dn own r) (hN : DNext W d own r' W') : ∃ own', StAt w W' d s dn own' r' := by
  obtain ⟨own', hO, hD⟩ := hN
  exact ⟨own', h.only hO hD⟩
theorem StAt.put (h : StAt w W d s dn own r) (hsm : SmallD r) (hdn : dn ≤ 64) {A B : Option Addr} {n c m c2 : Nat} {l a : List Nat} (hK : KeyAt W A n c l) (hA : RowN W B m a) (hn : n ≤ 2000) (hm : m ≤ 2000) (hsz : r.size + 40 ≤ 80000) {out : Int × RD} (hp : putR r l a dn = out) :
    Calls Tryz.prog 24 #[.pointer (some ⟨s, 0, none⟩), .slice A n c, .slice B m c2] W fun e w' => e = .returned (.int .i64 out.1) ∧ ∃ own', Only own W own' w' ∧ StAt w w' d s dn own' out.2 := by
  rw [← hp]
  refine (cput_any W s d dn own r A B n c m c2 l a h.box h.disk hsm hdn hK h.roots hA (by omega) (by omega) (by omega) hsz).mono ?_
  rintro e w' ⟨he, own', hO, hD⟩
  exact ⟨he, own', hO, h.only hO hD⟩
theorem StAt.get (h : StAt w W d s dn own r) (hsm : SmallD r) (hdn : dn ≤ 64) {A : Option Addr} {n c : Nat} {l : List Nat} (hK : KeyAt W A n c l) :
    Calls Tryz.prog 22 #[.pointer (some ⟨s, 0, none⟩), .slice A n c] W fun e w' => GetAns r l dn W.heap.size e w' ∧ Below W.heap.size W w' := cget_any W s d dn own r A n c l h.box h.disk hsm hdn hK h.roots
end
/-- What is held behind a file that was laid. -/
theorem hold_lay {r : RD} (F : Fct r) (x z : ByteArray) (bs : List Value) (q : Int) (fl : Bool) (n : Nat) : holdR ⟨r.files ++ [⟨bs, bs.length⟩], putP ltS r.now x (numV r.files.length), [], q, fl, false, -1, n⟩ z = if z = x then some (natsV bs) else holdR r z := by
  have hn : RD.now ⟨r.files ++ [⟨bs, bs.length⟩], putP ltS r.now x (numV r.files.length), [], q, fl, false, -1, n⟩ = putP ltS r.now x (numV r.files.length) := rfl
  unfold holdR
  rw [hn, has_put F.rn]
  by_cases h : z = x
  · subst h
    rw [decide_eq_true rfl, Bool.true_or, if_pos rfl, if_pos rfl]
    have hnum : RD.num ⟨r.files ++ [⟨bs, bs.length⟩], putP ltS r.now z (numV r.files.length), [], q, fl, false, -1, n⟩ z = r.files.length := by
      unfold RD.num
      rw [hn, look_put orders_S F.rn, if_pos rfl]
      exact numOf_numV _
    unfold RD.get
    rw [hnum]
    unfold RD.file
    simp
  · rw [decide_eq_false h, Bool.false_or, if_neg h]
    by_cases hh : hasP ltS r.now z = true
    · rw [if_pos hh, if_pos hh]
      unfold hasP at hh
      obtain ⟨v, hv⟩ := Option.isSome_iff_exists.1 hh
      obtain ⟨k, hk, hlt⟩ := F.nn _ ((look_some orders_S F.rn).1 hv)
      simp only at hk
      subst hk
      have hnum : RD.num ⟨r.files ++ [⟨bs, bs.length⟩], putP ltS r.now x (numV r.files.length), [], q, fl, false, -1, n⟩ z = k := by
        unfold RD.num
        rw [hn, look_put orders_S F.rn, if_neg h, hv]
        exact numOf_numV _
      have hnum2 : r.num z = k := by
        unfold RD.num
        rw [hv]
        exact numOf_numV _
      unfold RD.get
      rw [hnum, hnum2]
      unfold RD.file
      show some (natsV ((r.files ++ [_]).getD k _).data) = _
      rw [List.getD_eq_getElem?_getD, List.getElem?_append_left hlt, ← List.getD_eq_getElem?_getD]
    · rw [if_neg hh, if_neg hh]
theorem putR_lay {r : RD} {l a : List Nat} {dn s : Nat} (h1 : r.off = false) (h2 : findR r l dn = none) (h3 : roomR r l dn = some s) : putR r l a dn = runL (spareF l dn s) (layS (fileB l dn s) (spareF l dn s) (cellsZ (asZ (entryN l a)))) r := by
  unfold putR
  rw [if_neg (by rw [h1]; exact Bool.false_ne_true), h2, h3]
  simp only
  unfold layR
  rw [spare_name]
def bytesE (k a : List Nat) : List Value := cellsZ (asZ (entryN k a))
theorem bytesE_length (k a : List Nat) : (bytesE k a).length = k.length + a.length + 16 := by unfold bytesE; rw [cellsZ_length, asZ_length, entryN_length]
theorem natsV_E (k a : List Nat) : natsV (bytesE k a) = entryN k a := natsV_cells _
theorem file0 (l : List Nat) (s : Nat) : fileB l 0 s = txt [99, 45, 45, 48 + s] := rfl
/-- Behind so many files of the example. -/
def liv0 : RD := RD.fresh 1000
def liv1 (b1 : List Value) : RD := ⟨[⟨b1, b1.length⟩], [(txt [99, 45, 45, 48], numV 0)], [], 1000, false, false, -1, 5⟩
def liv2 (b1 b2 : List Value) : RD := ⟨[⟨b1, b1.length⟩, ⟨b2, b2.length⟩], [(txt [99, 45, 45, 48], numV 0), (txt [99, 45, 45, 49], numV 1)], [], 1000, false, false, -1, 10⟩
theorem less01 : ltS (txt [99, 45, 45, 48]) (txt [99, 45, 45, 49]) = true := by
  unfold ltS
  rw [txt_list, txt_list]
  decide
theorem put01 : putP ltS [(txt [99, 45, 45, 48], numV 0)] (txt [99, 45, 45, 49]) (numV 1) = [(txt [99, 45, 45, 48], numV 0), (txt [99, 45, 45, 49], numV 1)] := by
  simp [putP, less01, orders_S.asym less01]
theorem rec0 : recR liv0 0 = (0, liv0) := rfl
theorem hold0 (z : ByteArray) : holdR liv0 z = none := rfl
theorem find0 (l : List Nat) : findR liv0 l 0 = none := findR_none (fun t _ => by unfold hitR; rw [hold0]; rfl)
theorem room0 (l : List Nat) : roomR liv0 l 0 = some 0 := by
  refine roomR_some (pre := []) ⟨[1, 2, 3, 4, 5, 6, 7], rfl⟩ (fun t ht => by cases ht) ?_
  unfold freeR
  rw [hold0]
  rfl
theorem name_ne (l : List Nat) (s : Nat) (hs : s < 8) : fileB l 0 s ≠ spareF l 0 s := fileB_spare hs hs
theorem file_eq (l l' : List Nat) (s t : Nat) (hs : s < 8) (ht : t < 8) : (fileB l 0 s = fileB l' 0 t) ↔ s = t := by
  constructor
  · exact fun h => (fileB_inj hs ht h).2
  · rintro rfl; rw [file0, file0]
section
variable {k1 k2 a1 a2 : List Nat} (h1 : k1.length = 2) (h2 : k2.length = 2) (g1 : a1.length = 1) (g2 : a2.length = 1) (hne : k1 ≠ k2)
include h1 g1 in
theorem liv1_eq (F : Fct liv0) : putR liv0 k1 a1 0 = (0, liv1 (bytesE k1 a1)) := by
  rw [putR_lay rfl (find0 k1) (room0 k1)]
  have hl := bytesE_length k1 a1
  have h := lay_ok (r := liv0) (x := fileB k1 0 0) (y := spareF k1 0 0) (bs := bytesE k1 a1) ⟨rfl, rfl, F⟩ (fileB_ok _ _ _ (by omega) (by omega)) (spareF_ok _ _ _ (by omega) (by omega)) (name_ne k1 0 (by omega)) rfl (by decide) (by omega) (by rw [hl, h1, g1]; decide)
  unfold bytesE at h ⊢
  rw [h, file0]
  rfl
theorem hold1 (F : Fct liv0) (z : ByteArray) : holdR (liv1 (bytesE k1 a1)) z = if z = fileB k1 0 0 then some (entryN k1 a1) else none := by
  have h := hold_lay F (fileB k1 0 0) z (bytesE k1 a1) 1000 false 5
  rw [hold0, natsV_E] at h
  exact h
include h1 g1 in
theorem split1 : splitE (entryN k1 a1) = some (k1, a1) := split_entry _ _ (by omega) (by omega)
include h1 g1 hne in
theorem find1 (F : Fct liv0) : findR (liv1 (bytesE k1 a1)) k2 0 = none := by
  refine findR_none (fun t ht => ?_)
  have ht := List.mem_range.1 ht
  unfold hitR
  rw [hold1 F]
  by_cases h : fileB k2 0 t = fileB k1 0 0
  · rw [if_pos h]
    show (match splitE (entryN k1 a1) with | some (k, a) => if k = k2 then some a else none | none => none) = none
    rw [split1 h1 g1]
    exact if_neg hne
  · rw [if_neg h]
    rfl
theorem room1 (F : Fct liv0) : roomR (liv1 (bytesE k1 a1)) k2 0 = some 1 := by
  refine roomR_some (pre := [0]) ⟨[2, 3, 4, 5, 6, 7], rfl⟩ (fun t ht => ?_) ?_
  · rw [List.mem_singleton] at ht
    subst ht
    unfold freeR
    rw [hold1 F, if_pos ((file_eq _ _ _ _ (by omega) (by omega)).2 rfl)]
    rfl
  · unfold freeR
    rw [hold1 F, if_neg (fun h => absurd ((file_eq _ _ _ _ (by omega) (by omega)).1 h) (by omega))]
    rfl
include h1 h2 g1 g2 hne in
theorem liv2_eq (F0 : Fct liv0) (F : Fct (liv1 (bytesE k1 a1))) : putR (liv1 (bytesE k1 a1)) k2 a2 0 = (0, liv2 (bytesE k1 a1) (bytesE k2 a2)) := by
  rw [putR_lay rfl (find1 h1 g1 hne F0) (room1 F0)]
  have hl := bytesE_length k2 a2
  have hl1 := bytesE_length k1 a1
  have hny : hasP ltS (liv1 (bytesE k1 a1)).now (spareF k2 0 1) = false := by
    have e : (liv1 (bytesE k1 a1)).now = putP ltS [] (fileB k1 0 0) (numV 0) := rfl
    rw [e, has_put List.Pairwise.nil, decide_eq_false (fun h => fileB_spare (l := k1) (l' := k2) (n := 0) (s := 0) (s' := 1) (by omega) (by omega) (Eq.symm h))]
    rfl
  have hu : (liv1 (bytesE k1 a1)).used = 19 := by
    show (bytesE k1 a1).length + 0 = 19
    omega
  have h := lay_ok (r := liv1 (bytesE k1 a1)) (x := fileB k2 0 1) (y := spareF k2 0 1) (bs := bytesE k2 a2) ⟨rfl, rfl, F⟩ (fileB_ok _ _ _ (by omega) (by omega)) (spareF_ok _ _ _ (by omega) (by omega)) (name_ne k2 1 (by omega)) hny (by show 1 < 1024; omega) (by omega) (by rw [hl, hu, h2, g2]; show (19 : Int) + 19 ≤ 1000; omega)
  rw [show cellsZ (asZ (entryN k2 a2)) = bytesE k2 a2 from rfl, h, file0]
  show ((0 : Int), (⟨[⟨bytesE k1 a1, (bytesE k1 a1).length⟩] ++ [⟨bytesE k2 a2, (bytesE k2 a2).length⟩], putP ltS [(txt [99, 45, 45, 48], numV 0)] (txt [99, 45, 45, 49]) (numV 1), [], 1000, false, false, -1, 5 + 5⟩ : RD)) = _
  rw [put01]
  rfl
theorem hold2 (F0 : Fct liv0) (F : Fct (liv1 (bytesE k1 a1))) (z : ByteArray) : holdR (liv2 (bytesE k1 a1) (bytesE k2 a2)) z = if z = fileB k2 0 1 then some (entryN k2 a2) else if z = fileB k1 0 0 then some (entryN k1 a1) else none := by
  have h := hold_lay F (fileB k2 0 1) z (bytesE k2 a2) 1000 false 10
  rw [hold1 F0, natsV_E] at h
  have e : putP ltS (liv1 (bytesE k1 a1)).now (fileB k2 0 1) (numV (liv1 (bytesE k1 a1)).files.length) = [(txt [99, 45, 45, 48], numV 0), (txt [99, 45, 45, 49], numV 1)] := by
    rw [file0]
    exact put01
  rw [e] at h
  exact h
include h1 g1 in
theorem see1 (F0 : Fct liv0) (F : Fct (liv1 (bytesE k1 a1))) : findR (liv2 (bytesE k1 a1) (bytesE k2 a2)) k1 0 = some (0, a1) := by
  refine findR_some (pre := []) ⟨[1, 2, 3, 4, 5, 6, 7], rfl⟩ (fun t ht => by cases ht) ?_
  unfold hitR
  rw [hold2 F0 F, if_neg (fun h => absurd ((file_eq _ _ _ _ (by omega) (by omega)).1 h) (by omega)), if_pos rfl]
  show (match splitE (entryN k1 a1) with | some (k, a) => if k = k1 then some a else none | none => none) = _
  rw [split1 h1 g1]
  exact if_pos rfl
include h1 h2 g1 g2 hne in
theorem see2 (F0 : Fct liv0) (F : Fct (liv1 (bytesE k1 a1))) : findR (liv2 (bytesE k1 a1) (bytesE k2 a2)) k2 0 = some (1, a2) := by
  refine findR_some (pre := [0]) ⟨[2, 3, 4, 5, 6, 7], rfl⟩ (fun t ht => ?_) ?_
  · rw [List.mem_singleton] at ht
    subst ht
    unfold hitR
    rw [hold2 F0 F, if_neg (fun h => absurd ((file_eq _ _ _ _ (by omega) (by omega)).1 h) (by omega)), if_pos ((file_eq _ _ _ _ (by omega) (by omega)).2 rfl)]
    show (match splitE (entryN k1 a1) with | some (k, a) => if k = k2 then some a else none | none => none) = _
    rw [split1 h1 g1]
    exact if_neg hne
  · unfold hitR
    rw [hold2 F0 F, if_pos rfl]
    show (match splitE (entryN k2 a2) with | some (k, a) => if k = k2 then some a else none | none => none) = _
    rw [split1 h2 g2]
    exact if_pos rfl
end
end Go.Proofs.YtkjdjglknbgeaaaGreatDoor
namespace Go.Proofs.YtkjdjglknbgeaaaGreatDoor
open Go.RowKit Go.Shelf Go.Maps
set_option linter.unusedVariables false
set_option maxRecDepth 100000

theorem lit_key (w : World) (l : List Nat) (fz : Nat × Nat) (h : bytesN l) (hl : l.length ≤ 1000) : KeyAt (w.alloc (.cells (cellsZ (asZ l)).toArray 5 fz)) (some ⟨w.heap.size, 0, none⟩) l.length l.length l :=
  ⟨⟨lit_row w l fz h, fun e => (by cases e), Nat.le_refl _⟩, by omega, by omega⟩
theorem livSmall0 : SmallD liv0 := fun x h => by
  have : hasP ltS liv0.now x = false := rfl
  rw [this] at h
  cases h
theorem small_of {r : RD} (h : ∀ f ∈ r.files, f.data.length ≤ 90000) : SmallD r := fun x hx => by
  unfold RD.get RD.file
  rw [List.getD_eq_getElem?_getD]
  cases hg : r.files[r.num x]? with
  | none => simp
  | some f => exact h f (List.mem_of_getElem? hg)
set_option maxHeartbeats 3200000 in
theorem casLives (w : World) (hR : RootsOk w) : Calls Tryz.prog 16 #[] w fun e w' => e = .returned (.bool true) ∧ Below w.heap.size w w' := by
  have kc := fun (w : World) (C : Array Value) (n c : Nat) => Lib.run_convert_bytes_const (P := Tryz.prog) w 22 5 C n c Tryz.underlying22 Tryz.underlying5
  have HN := Lib.hid (IsD.new 1000 (by omega) w)
  have HR := Lib.hid hR
  clear hR
  go_enter Tryz.func16, Tryz.ntmps16
  go_wp2_with fail
  refine HN.out.mono ?_
  rintro e w1 ⟨rfl, own0, hz0, hD0, hb0⟩
  obtain ⟨d, hd⟩ : ∃ d, w.heap.size = d := ⟨_, rfl⟩
  have hro0 : own0 2 = 0 := hz0 _ HR.out.1
  have hF0 : Fct liv0 := hD0.fct.1
  have HO := Lib.hid (open_ok w1 w.heap.size 0 own0 (RD.fresh 1000) liv0 hD0 livSmall0 (by omega) (HR.out.below hb0) hro0 (fun p hp => by cases hp) (by decide) rfl rec0)
  have HX0 := Lib.hid (And.intro hz0 (And.intro hb0 hF0))
  rw [hd] at HO ⊢
  clear hz0 hD0 hb0 hro0 hF0 HN
  go_wp2_with fail
  refine HO.out.mono ?_
  rintro e w2 ⟨s, own1, rfl, hs1, hsb, hso, hO1, hD1⟩
  have hst : StAt w w2 d s 0 own1 liv0 := by
    have hz := HX0.out.2.1.size
    exact ⟨HX0.out.2.1.trans (hO1.toBelow HX0.out.1 hz), fun i hi => (hO1.2.1 i (by omega)).trans (HX0.out.1 i hi), hsb, hso, by omega, hD1, (HR.out.below HX0.out.2.1).only hO1 (HX0.out.1 _ HR.out.1), HR.out.1⟩
  have HST := Lib.hid hst
  clear hs1 hsb hso hO1 hD1 hst HO
  -- Put(k1, x)
  obtain ⟨v2, hv2⟩ : ∃ v2, w2.alloc (.cells #[.int .u8 107, .int .u8 49] 5 (2, 3)) = v2 := ⟨_, rfl⟩
  obtain ⟨u2, hu2⟩ : ∃ u2, v2.alloc (.cells #[.int .u8 120] 5 (1, 2)) = u2 := ⟨_, rfl⟩
  have hbv : Below w2.heap.size w2 v2 := by rw [← hv2]; exact (Below.refl _ w2).alloc (Nat.le_refl _) _
  have hbu : Below v2.heap.size v2 u2 := by rw [← hu2]; exact (Below.refl _ v2).alloc (Nat.le_refl _) _
  have hk1 : KeyAt v2 (some ⟨w2.heap.size, 0, none⟩) 2 2 [107, 49] := by rw [← hv2]; exact lit_key w2 [107, 49] (2, 3) (fun x hx => by simp only [List.mem_cons, List.not_mem_nil, or_false] at hx; omega) (by decide)
  have ha1 : RowN u2 (some ⟨v2.heap.size, 0, none⟩) 1 [120] := by rw [← hu2]; exact lit_row v2 [120] (1, 2) (fun x hx => by simp only [List.mem_cons, List.not_mem_nil, or_false] at hx; omega)
  have hbu2 : Below w2.heap.size w2 u2 := hbv.trans (hbu.mono hbv.size)
  have HP1 := Lib.hid ((HST.out.below hbu2).put livSmall0 (by omega) (c2 := 1) (hk1.below hbu) ha1 (by omega) (by omega) (by decide) (liv1_eq (k1 := [107, 49]) (a1 := [120]) rfl rfl HX0.out.2.2))
  clear hbv hbu hk1 ha1 hbu2
  go_wp2_with fail
  refine HP1.out.mono ?_
  rintro e w3 ⟨rfl, own3, hO3, hst3⟩
  have hF1 : Fct (liv1 (bytesE [107, 49] [120])) := hst3.disk.fct.1
  have hsm1 : SmallD (liv1 (bytesE [107, 49] [120])) := small_of (fun f hf => by
    rw [show (liv1 (bytesE [107, 49] [120])).files = [⟨bytesE [107, 49] [120], (bytesE [107, 49] [120]).length⟩] from rfl, List.mem_singleton] at hf
    rw [hf]
    show (bytesE [107, 49] [120]).length ≤ 90000
    rw [bytesE_length]
    decide)
  have HST3 := Lib.hid hst3
  clear hO3 hst3 HP1 hv2 hu2
  obtain ⟨v3, hv3⟩ : ∃ v3, w3.alloc (.cells #[.int .u8 107, .int .u8 50] 5 (2, 3)) = v3 := ⟨_, rfl⟩
  obtain ⟨u3, hu3⟩ : ∃ u3, v3.alloc (.cells #[.int .u8 121] 5 (1, 2)) = u3 := ⟨_, rfl⟩
  have hbv : Below w3.heap.size w3 v3 := by rw [← hv3]; exact (Below.refl _ w3).alloc (Nat.le_refl _) _
  have hbu : Below v3.heap.size v3 u3 := by rw [← hu3]; exact (Below.refl _ v3).alloc (Nat.le_refl _) _
  have hk1 : KeyAt v3 (some ⟨w3.heap.size, 0, none⟩) 2 2 [107, 50] := by rw [← hv3]; exact lit_key w3 [107, 50] (2, 3) (fun x hx => by simp only [List.mem_cons, List.not_mem_nil, or_false] at hx; omega) (by decide)
  have ha1 : RowN u3 (some ⟨v3.heap.size, 0, none⟩) 1 [121] := by rw [← hu3]; exact lit_row v3 [121] (1, 2) (fun x hx => by simp only [List.mem_cons, List.not_mem_nil, or_false] at hx; omega)
  have hbu2 : Below w3.heap.size w3 u3 := hbv.trans (hbu.mono hbv.size)
  have HP2 := Lib.hid ((HST3.out.below hbu2).put hsm1 (by omega) (c2 := 1) (hk1.below hbu) ha1 (by omega) (by omega) (by show 5 + 1 + 1 + 2 * 0 + 40 ≤ 80000; omega) (liv2_eq (k1 := [107, 49]) (a1 := [120]) (k2 := [107, 50]) (a2 := [121]) rfl rfl rfl rfl (by decide) HX0.out.2.2 hF1))
  have HF1 := Lib.hid hF1
  clear hbv hbu hk1 ha1 hbu2 hF1 hsm1
  go_wp2_with fail
  refine HP2.out.mono ?_
  rintro e w4 ⟨rfl, own4, hO4, hst4⟩
  have hsm2 : SmallD (liv2 (bytesE [107, 49] [120]) (bytesE [107, 50] [121])) := small_of (fun f hf => by
    rw [show (liv2 (bytesE [107, 49] [120]) (bytesE [107, 50] [121])).files = [⟨bytesE [107, 49] [120], (bytesE [107, 49] [120]).length⟩, ⟨bytesE [107, 50] [121], (bytesE [107, 50] [121]).length⟩] from rfl, List.mem_cons, List.mem_singleton] at hf
    rcases hf with hf | hf
    · rw [hf]
      show (bytesE [107, 49] [120]).length ≤ 90000
      rw [bytesE_length]
      decide
    · rw [hf]
      show (bytesE [107, 50] [121]).length ≤ 90000
      rw [bytesE_length]
      decide)
  have HST4 := Lib.hid hst4
  have HL := Lib.hid hst4.disk.list
  clear hO4 hst4 HP2 hv3 hu3
  rw [show (liv2 (bytesE [107, 49] [120]) (bytesE [107, 50] [121])).now = [(txt [99, 45, 45, 48], numV 0), (txt [99, 45, 45, 49], numV 1)] from rfl] at HL
  have HSM2 := Lib.hid hsm2
  clear hsm2
  go_wp2_with fail
  refine HL.out.mono ?_
  rintro e w5 ⟨⟨LA, lc, rfl, hll, hlb⟩, hb5⟩
  rw [show ([(txt [99, 45, 45, 48], numV 0), (txt [99, 45, 45, 49], numV 1)] : List (ByteArray × Value)).length = 2 from rfl] at hll ⊢
  -- Get(k1)
  have hst5 := HST4.out.below hb5
  obtain ⟨v5, hv5⟩ : ∃ v5, w5.alloc (.cells #[.int .u8 107, .int .u8 49] 5 (2, 3)) = v5 := ⟨_, rfl⟩
  have hb6 : Below w5.heap.size w5 v5 := by rw [← hv5]; exact (Below.refl _ w5).alloc (Nat.le_refl _) _
  have hk5 : KeyAt v5 (some ⟨w5.heap.size, 0, none⟩) 2 2 [107, 49] := by rw [← hv5]; exact lit_key w5 [107, 49] (2, 3) (fun x hx => by simp only [List.mem_cons, List.not_mem_nil, or_false] at hx; omega) (by decide)
  have HG1 := Lib.hid ((hst5.below hb6).get HSM2.out (by omega) hk5)
  have HST6 := Lib.hid (hst5.below hb6)
  have HLL := Lib.hid (hll.below hb6)
  have hs1 := see1 (k1 := [107, 49]) (a1 := [120]) (k2 := [107, 50]) (a2 := [121]) rfl rfl HX0.out.2.2 HF1.out
  clear hst5 hb6 hk5 hll hlb hb5 HL
  go_wp2_with fail
  refine HG1.out.mono ?_
  rintro e w6 ⟨ha, hb6⟩
  unfold GetAns at ha
  rw [hs1] at ha
  simp only at ha
  obtain ⟨A6, c6, rfl, hl6, _⟩ := ha
  have hst6 := HST6.out.below hb6
  have hll6 := HLL.out.below hb6
  clear hs1 HG1 hv5
  -- Get(k2)
  obtain ⟨v6, hv6⟩ : ∃ v6, w6.alloc (.cells #[.int .u8 107, .int .u8 50] 5 (2, 3)) = v6 := ⟨_, rfl⟩
  have hb7 : Below w6.heap.size w6 v6 := by rw [← hv6]; exact (Below.refl _ w6).alloc (Nat.le_refl _) _
  have hk6 : KeyAt v6 (some ⟨w6.heap.size, 0, none⟩) 2 2 [107, 50] := by rw [← hv6]; exact lit_key w6 [107, 50] (2, 3) (fun x hx => by simp only [List.mem_cons, List.not_mem_nil, or_false] at hx; omega) (by decide)
  have HG2 := Lib.hid ((hst6.below hb7).get HSM2.out (by omega) hk6)
  have HST7 := Lib.hid (hst6.below hb7)
  have HLL7 := Lib.hid (hll6.below hb7)
  have HL6 := Lib.hid (hl6.below hb7)
  have hs2 := see2 (k1 := [107, 49]) (a1 := [120]) (k2 := [107, 50]) (a2 := [121]) rfl rfl rfl rfl (by decide) HX0.out.2.2 HF1.out
  rw [show ([120] : List Nat).length = 1 from rfl] at HL6 ⊢
  clear hst6 hb7 hk6 hll6 hl6 hb6
  go_wp2_with fail
  refine HG2.out.mono ?_
  rintro e w8 ⟨ha, hb8⟩
  unfold GetAns at ha
  rw [hs2] at ha
  simp only at ha
  obtain ⟨A8, c8, rfl, hl8, _⟩ := ha
  rw [show ([121] : List Nat).length = 1 from rfl] at hl8 ⊢
  have hst8 := HST7.out.below hb8
  have hll8 := HLL7.out.below hb8
  have hl68 := HL6.out.below hb8
  have n1 := conv_row hl68.row c6
  have n2 := conv_row hl8.row c8
  rw [show strOfNums (asZ [120]) = ⟨#[120]⟩ from rfl] at n1
  rw [show strOfNums (asZ [121]) = ⟨#[121]⟩ from rfl] at n2
  obtain ⟨g, off, rfl, hg, hcs, _⟩ := hll8.at (by omega)
  have x0 : w8.cell? ⟨g, off, none⟩ = some (.string ⟨#[99, 45, 45, 48]⟩) := by have := hcs 0 (by omega); rw [Nat.add_zero] at this; exact this
  have x1 : w8.cell? ⟨g, off + 1, none⟩ = some (.string ⟨#[99, 45, 45, 49]⟩) := hcs 1 (by omega)
  have HON := Lib.hid hst8.on
  rw [hd] at HON
  clear hs2 HG2 hv6 hst8 hll8 hl68 hl8 hcs hb8
  go_wp2
  go_ret
  exact ⟨rfl, by rw [hd]; exact HON.out⟩
end Go.Proofs.YtkjdjglknbgeaaaGreatDoor
namespace Go.Proofs.YtkjdjglknbgeaaaGreatDoor
open Go.RowKit Go.Shelf
set_option linter.unusedVariables false
set_option maxRecDepth 100000

theorem Held.of_isRow {w : World} {A : Option Addr} {len cap : Nat} {zs : List Int} (h : IsRow .u8 w A len cap zs) : ∃ l, Held w A len cap l ∧ cap ≤ 9223372036854775807 := by
  refine ⟨_, ⟨(RowZ.of_isRow h).toN, ?_, ?_⟩, ?_⟩
  · intro hA
    rcases h with ⟨_, _, h, _⟩ | ⟨x, rfl, _⟩
    · exact h
    · cases hA
  · rcases h with ⟨_, h1, h2, _⟩ | ⟨x, _, hl, _⟩
    · omega
    · exact hl
  · rcases h with ⟨_, h1, h2, _⟩ | ⟨x, _, hl, hm, _⟩
    · omega
    · unfold maxLen at hm; omega
theorem roots_laid {W : World} (hL : laidMetH Tryz.prog Rows.casNobodyRow.laid W) : RootsOk W := by
  rw [MakeChecks.laidMetH_plain _ _ _ (by kernel_rfl)] at hL
  have h : laidMet Tryz.prog [("brazier/digest.roots", Rows.laid_brazier_digest_roots)] W := hL.tail.tail.tail
  exact roots_of_laid (by rw [MakeChecks.laidMetH_plain _ _ _ (by kernel_rfl)]; exact h)
/-- What Open's answer is at any digits. -/
def CaseX (a x : Int) : Prop := (0 ≤ a ∧ a ≤ 64 ∧ x = 0) ∨ (¬ (0 ≤ a ∧ a ≤ 64) ∧ x = 1)
def IfOpen (x y : Int) : Prop := x = 0 → y = 2
theorem ifOpen_cases {P : Prop} {y : Int} (h : IfOpen 0 y) (k : y = 2 → P) : P := k (h rfl)
/-- What Open answers at any digits over a new disk, and what Put then says of a record that is too long. -/
theorem nobodyOpen (w : World) (d : Nat) (own : Nat → Nat) (a : Int) (hD : IsD w d own (RD.fresh 1048576)) (hR : RootsOk w) (hro : own 2 = 0) (x : Int) (hx : CaseX a x) :
    Calls Tryz.prog 18 #[.pointer (some ⟨d, 0, none⟩), .int .i64 a] w fun e w' => (∃ p, e = .returned (.tuple #[.pointer p, .int .i64 x]) ∧ ∀ W A B n c m c2 k, n ≤ 65536 → 65536 < m → RowN W A n k → Calls Tryz.prog 24 #[.pointer p, .slice A n c, .slice B m c2] W fun e w' => (∃ y, e = .returned (.int .i64 y) ∧ IfOpen x y) ∧ Below W.heap.size W w') ∧ ∃ own', Only own w own' w' := by
  rcases hx with ⟨h0, h1, rfl⟩ | ⟨h, rfl⟩
  · obtain ⟨dn, rfl⟩ : ∃ dn : Nat, a = (dn : Int) := ⟨a.toNat, by omega⟩
    refine (open_ok w d dn own _ (RD.fresh 1048576) hD (fun x h => by cases h) (by omega) hR hro (fun p hp => by cases hp) (by decide) rfl rfl).mono ?_
    rintro e w' ⟨s, own', rfl, _, _, _, hO, _⟩
    refine ⟨⟨_, rfl, ?_⟩, own', hO⟩
    intro W A B n c m c2 k hn hm hk
    refine (cput_big W s A B n c m c2 k hn hm hk).mono ?_
    rintro e w' ⟨rfl, hb⟩
    exact ⟨⟨_, rfl, fun _ => rfl⟩, hb⟩
  · refine (open_arg w _ a h).mono ?_
    rintro e w' ⟨rfl, rfl⟩
    refine ⟨⟨_, rfl, ?_⟩, own, Only.of_below own (Below.refl _ _)⟩
    intro W A B n c m c2 k hn hm hk
    refine (cput_nil W A B n c m c2).mono ?_
    rintro e w' ⟨rfl, rfl⟩
    exact ⟨⟨_, rfl, fun h => by cases h⟩, Below.refl _ _⟩
set_option maxHeartbeats 3200000 in
theorem casNobody_walk (a0 : Int) (a1 : Option Addr) (len1 cap1 : Nat) (z1 : List Int) (W : World) (w0 : (Lit.int .i64 a0).wf = true) (w1 : IsRow .u8 W a1 len1 cap1 z1) (hL : laidMetH Tryz.prog Rows.casNobodyRow.laid W) :
    Calls Tryz.prog 9 #[.int .i64 a0, .slice a1 len1 cap1] W fun e w' => e = .returned (.bool true) ∧ Below W.heap.size W w' := by
  obtain ⟨l, hH, hc⟩ := Held.of_isRow w1
  have hR := roots_laid hL
  clear w1 hL w0
  by_cases hlen : (200 : Int) < (len1 : Int)
  · have HL := Lib.hid (casLives W hR)
    clear hR hH
    go_enter Tryz.func9, Tryz.ntmps9
    go_wp2_with fail
    refine HL.out.mono ?_
    rintro e w' ⟨rfl, hb⟩
    have HB := Lib.hid hb
    clear hb HL
    go_wp2
    go_ret
    exact ⟨rfl, HB.out⟩
  · have HK := Lib.hid hH.1
    have hl200 : len1 ≤ 200 := by omega
    have HN := Lib.hid (IsD.new 1048576 (by omega) W)
    have HR := Lib.hid hR
    obtain ⟨m, hm⟩ : ∃ m : Nat, m = 65537 := ⟨_, rfl⟩
    have hmi : ∀ (z : Int), z = (m : Int) → ∀ W : World, (Instr.makeSlice 22 (.int .i64 z) (.int .i64 z)).run Tryz.prog W = .ok (.slice (some ⟨W.heap.size, 0, none⟩) m m) (W.alloc (.cells (cellsZ (List.replicate m 0)).toArray 5)) := by
      rintro _ rfl W
      exact make_bytes m m (Nat.le_refl _) (by omega) W
    have hmk := hmi 65537 (by omega)
    clear hmi
    have hm6 : 65536 < m := by omega
    clear hm hH hR
    have hcase : ∃ x, ((a0 < 0 ∧ x = 1) ∨ (¬ a0 < 0 ∧ 64 < a0 ∧ x = 1) ∨ (¬ a0 < 0 ∧ ¬ 64 < a0 ∧ x = 0)) ∧ CaseX a0 x := by
      by_cases h1 : a0 < 0
      · exact ⟨1, .inl ⟨h1, rfl⟩, .inr ⟨by omega, rfl⟩⟩
      · by_cases h2 : 64 < a0
        · exact ⟨1, .inr (.inl ⟨h1, h2, rfl⟩), .inr ⟨by omega, rfl⟩⟩
        · exact ⟨0, .inr (.inr ⟨h1, h2, rfl⟩), .inl ⟨by omega, by omega, rfl⟩⟩
    obtain ⟨x, hx, hop⟩ := hcase
    have HOP := Lib.hid hop
    clear hop
    rcases hx with ⟨h1, rfl⟩ | ⟨h1, h2, rfl⟩ | ⟨h1, h2, rfl⟩
    all_goals
      go_enter Tryz.func9, Tryz.ntmps9
      go_wp2_with fail
      refine HN.out.mono ?_
      rintro e w1 ⟨rfl, own0, hz0, hD0, hb0⟩
      have HO := Lib.hid (nobodyOpen w1 W.heap.size own0 a0 hD0 (HR.out.below hb0) (hz0 _ HR.out.1) _ HOP.out)
      have HX0 := Lib.hid (And.intro hz0 hb0)
      clear hz0 hD0 hb0 HN HOP
      go_wp2_with fail
      refine HO.out.mono ?_
      rintro e w2 ⟨⟨p, rfl, hput⟩, own1, hO1⟩
      have hb2 : Below W.heap.size W w2 := HX0.out.2.trans (hO1.toBelow HX0.out.1 HX0.out.2.size)
      have HP := Lib.hid hput
      have HB2 := Lib.hid hb2
      have HON := Lib.hid (open_nil w2 3 (by omega))
      have HG := Lib.hid (cget_nil w2 a1 len1 cap1)
      clear hput hO1 hb2 HO HX0
      go_wp2_with (first
        | ((with_reducible refine HON.out.mono ?_); rintro e w9 ⟨rfl, rfl⟩)
        | fail)
      refine HG.out.mono ?_
      rintro e w3 ⟨rfl, hb3⟩
      have hb3' : Below W.heap.size W w3 := HB2.out.trans (hb3.mono HB2.out.size)
      have HB3 := Lib.hid hb3'
      clear hb3 hb3' HB2 HG HON
      go_wp2_with fail
      have hb4 : Below W.heap.size W (w3.alloc (.cells (cellsZ (List.replicate m 0)).toArray 5)) := HB3.out.alloc HB3.out.size _
      refine (HP.out _ a1 _ len1 cap1 m m l (by omega) hm6 (HK.out.below hb4)).mono ?_
      rintro e w4 ⟨⟨y, rfl, hy⟩, hb5⟩
      have hb5' : Below W.heap.size W w4 := hb4.trans (hb5.mono hb4.size)
      have HB4 := Lib.hid hb5'
      clear hb4 hb5 hb5' HP HB3 hmk
      first
        | (refine ifOpen_cases hy ?_; rintro rfl)
        | skip
      clear hy
      go_wp2_with (first
        | ((with_reducible refine (cput_nil w4 a1 none len1 cap1 0 0).mono ?_); rintro e w9 ⟨rfl, rfl⟩)
        | ((with_reducible refine (cdrop_nil w4 a1 len1 cap1).mono ?_); rintro e w9 ⟨rfl, rfl⟩)
        | fail)
      refine (clen_nil w4).mono ?_
      rintro e w5 ⟨rfl, hb5⟩
      have hb5' : Below W.heap.size W w5 := HB4.out.trans (hb5.mono HB4.out.size)
      have HB5 := Lib.hid hb5'
      clear hb5 hb5' HB4
      go_wp2_with fail
      refine (ckeys_nil w5).mono ?_
      rintro e w6 ⟨rfl, hb6⟩
      have hb6' : Below W.heap.size W w6 := HB5.out.trans (hb6.mono HB5.out.size)
      have HB6 := Lib.hid hb6'
      have HV := Lib.hid (casLives w6 (HR.out.below hb6'))
      clear hb6 hb6' HB5
      go_wp2_with fail
      refine HV.out.mono ?_
      rintro e w7 ⟨rfl, hb7⟩
      have HB7 : Hid (Below W.heap.size W w7) := Lib.hid (HB6.out.trans (hb7.mono HB6.out.size))
      clear hb7 HB6 HV
      go_wp2
      go_ret
      exact ⟨rfl, HB7.out⟩
end Go.Proofs.YtkjdjglknbgeaaaGreatDoor
