/- The loop over a key's files with what each holds: the contract of cas's slots. -/
import Derived.Test.YtdjnebgjdekmaaaGreatDoorZbm
import Derived.Test.YtdjnebgjdekmaaaGreatDoorZav
import Derived.Test.YtdjnebgjdekmaaaGreatDoorZbg
import Derived.Test.YtdjnebgjdekmaaaGreatDoorZbe
set_option linter.unusedVariables false
set_option maxRecDepth 100000
namespace Go.Proofs.YtdjnebgjdekmaaaGreatDoor
attribute [local go_sem] Oper.semAt_some
open Go.RowKit Go.Shelf
theorem slots_any (w : World) (sv : Option Addr) (A : Option Addr) (n c : Nat) : Calls Tryz.prog 59 #[.pointer sv, .slice A n c] w fun e w' => e = .returned (.func (.func 85) #[] #[.pointer (some ⟨w.heap.size, 0, none⟩), .pointer (some ⟨w.heap.size + 1, 0, none⟩)]) ∧ w' = (w.alloc (.cells #[.pointer sv] 30)).alloc (.cells #[.slice A n c] 40) := by
 have hmf : ∀ (fn : Fn) (first cap : Array Value) (w : World), (Instr.makeFunc fn first cap).run Tryz.prog w = .ok (.func fn first cap) w := fun _ _ _ _ => rfl
 go_enter Tryz.func59, Tryz.ntmps59
 go_wp2
 go_ret
 exact ⟨rfl, rfl⟩
theorem slots_enters (args : Array Value) (w : World) : (callFunc 85 args).run Tryz.prog w = .ok (.enter 85 args) w := enters_of Tryz.func85 (by kernel_rfl) rfl args w
structure KeepS (B1 B2 s d dn : Nat) (own : Nat → Nat) (r : RD) (A : Option Addr) (n c : Nat) (l : List Nat) (W : World) : Prop where
 b1 : W.cell? ⟨B1, 0, none⟩ = some (.pointer (some ⟨s, 0, none⟩))
 b2 : W.cell? ⟨B2, 0, none⟩ = some (.slice A n c)
 key : KeyAt W A n c l
 roots : RootsOk W
 box : SBox W s d dn
 disk : IsD W d own r
theorem KeepS.below {B1 B2 s d dn : Nat} {own : Nat → Nat} {r : RD} {A : Option Addr} {n c : Nat} {l : List Nat} {W W' : World} (h : KeepS B1 B2 s d dn own r A n c l W) (hb : Below W.heap.size W W') : KeepS B1 B2 s d dn own r A n c l W' :=
 ⟨(hb.cell (p := ⟨B1, 0, none⟩) (World.block_lt_of_cell? W _ h.b1)).trans h.b1, (hb.cell (p := ⟨B2, 0, none⟩) (World.block_lt_of_cell? W _ h.b2)).trans h.b2, h.key.below hb, h.roots.below hb, h.box.below hb, h.disk.below hb⟩
def ArgS (r : RD) (l : List Nat) (dn : Nat) (E : Nat) (pre : List Nat) (x : Nat) (args : Array Value) (W : World) : Prop := ∃ v, args = #[.string (fileB l dn x), v] ∧ SlotV (holdR r (fileB l dn x)) E v W
theorem two_new (w : World) (x y : Obj) : ((w.alloc x).alloc y).heap[w.heap.size + 1]? = some y ∧ ((w.alloc x).alloc y).heap[w.heap.size]? = some x ∧ Below w.heap.size w ((w.alloc x).alloc y) := by
 refine ⟨?_, (Below.heap_alloc _ _ _ (by simp)).trans (heap_alloc_new w x), ((Below.refl _ w).alloc (Nat.le_refl _) _).alloc (by simp) _⟩
 have := heap_alloc_new (w.alloc x) y
 rw [World.size_alloc] at this
 exact this
theorem SlotV.mono {o : Option (List Nat)} {B B' : Nat} {v : Value} {W : World} (h : SlotV o B' v W) (hb : B ≤ B') : SlotV o B v W := by
 unfold SlotV at h ⊢
 split
 · exact h
 · simp only at h
   split
   · rename_i hs
     rw [hs] at h
     exact h
   · rename_i hs
     rw [hs] at h
     obtain ⟨A1, c1, A2, c2, e, h1, h2, h3, h4⟩ := h
     exact ⟨A1, c1, A2, c2, e, h1, h2, fun j hj => Nat.le_trans hb (h3 j hj), fun j hj => Nat.le_trans hb (h4 j hj)⟩
def InS (J : List Nat → World → Prop) (W3 : World) (hh : Nat) (pre : List Nat) (W : World) : Prop := J pre W ∧ W.heap[hh]? = W3.heap[hh]? ∧ W.heap[hh + 1]? = W3.heap[hh + 1]? ∧ W.heap[hh + 2]? = W3.heap[hh + 2]?
set_option maxHeartbeats 3200000 in
theorem slots1_any (w : World) (B1 B2 s d dn : Nat) (own : Nat → Nat) (r : RD) (hsm : SmallD r) (hdn : dn ≤ 64) (A : Option Addr) (n c : Nat) (l : List Nat) :
 IterY Tryz.prog 85 #[.pointer (some ⟨B1, 0, none⟩), .pointer (some ⟨B2, 0, none⟩)] (ArgS r l dn) 3 (List.range 8) (KeepS B1 B2 s d dn own r A n c l) w := by
 intro nn hd L J Jx hJ hJs hJxs hK h0 hY
 have HJ := Lib.hid hJ
 have HJS := Lib.hid hJs
 have HJXS := Lib.hid hJxs
 have HK := Lib.hid hK
 have HY := Lib.hid hY
 have H0 := Lib.hid h0
 clear hJ hJs hJxs hK h0 hY
 refine callsIn_of_wp_marks Tryz.func85 rfl trivial ?_ rfl
 simp only [Tryz.ntmps85, List.size_toArray, List.length_cons, List.length_nil, Nat.reduceAdd, Nat.reduceSub, Array.replicate_succ, Array.replicate_zero, List.push_toArray, List.append_toArray, List.nil_append, List.cons_append]
 refine wpIn_wide.2 ?_
 obtain ⟨hh, hhe⟩ : ∃ hh, w.heap.size = hh := ⟨_, rfl⟩
 obtain ⟨W2, hW2⟩ : ∃ W2, w.alloc (.cells #[.func (.yield L) #[] #[]] 148) = W2 := ⟨_, rfl⟩
 have hB2 : Below w.heap.size w W2 := by rw [← hW2]; exact (Below.refl _ w).alloc (Nat.le_refl _) _
 have hs2 : W2.heap.size = hh + 1 := by rw [← hW2, ← hhe]; simp
 have k0 : W2.heap[hh]? = some (.cells #[.func (.yield L) #[] #[]] 148 (0, 0)) := by rw [← hW2, ← hhe]; exact heap_alloc_new w _
 have HK0 := Lib.hid k0
 have HB2 := Lib.hid hB2
 have HHE := Lib.hid hhe
 have HS2 := Lib.hid hs2
 have hk2 := HK.out _ _ (HJ.out _ _ _ H0.out hB2)
 have y1 := hk2.b1
 have y2 := hk2.b2
 obtain ⟨y3, y4⟩ := hk2.box.cells
 have HQ : Hid (Calls Tryz.prog 83 #[.slice A n c, .int .i64 (dn : Int)] W2.drew fun e w' => e = .returned (.func (.func 101) #[] #[.pointer (some ⟨hh + 1, 0, none⟩), .pointer (some ⟨hh + 2, 0, none⟩)]) ∧ w' = (W2.drew.alloc (.cells #[.slice A n c] 40)).alloc (.cells #[.int .i64 (dn : Int)] 3)) := Lib.hid (by
  have h := filesOf_any W2.drew A n c (dn : Int)
  rw [show W2.drew.heap.size = hh + 1 from hs2] at h
  exact h)
 clear k0 hB2 hs2 hk2
 go_wp2_with fail
 obtain ⟨W3, hW3⟩ : ∃ W3, ((W2.alloc (.cells #[.slice A n c] 40)).alloc (.cells #[.int .i64 (dn : Int)] 3)).drew = W3 := ⟨_, rfl⟩
 have HW3 := Lib.hid hW3
 go_cut [12] from 7 to 13 (fun v wx => v = .func (.func 101) #[] #[.pointer (some ⟨hh + 1, 0, none⟩), .pointer (some ⟨hh + 2, 0, none⟩)] ∧ Hid (W3 = wx))
 case first =>
  refine wp_region_noPanic ?_
  go_region_with (with_reducible refine HQ.out.mono ?_; rintro e V3 ⟨rfl, rfl⟩)
  all_goals
   refine NoPanic.normal ?_
   try go_wp2_with fail
   go_meet
   exact ⟨rfl, Lib.hid rfl⟩
 case rest =>
  obtain ⟨rfl, hc3⟩ := hcut
  have hc3 := hc3.out
  subst hc3
  have hW3 := HW3.out
  clear HW3 hhe
  have hb3 : Below W2.heap.size W2 W3 := by rw [← hW3]; exact (((Below.refl _ W2).alloc (Nat.le_refl _) _).alloc (by simp) _).drew
  have hs3 : W3.heap.size = hh + 3 := by
   rw [← hW3]
   show ((W2.alloc (.cells #[.slice A n c] 40)).alloc (.cells #[.int .i64 (dn : Int)] 3)).heap.size = _
   simp [HS2.out]
  have k1 : W3.heap[hh + 1]? = some (.cells #[.slice A n c] 40 (0, 0)) := by
   rw [← hW3, ← HS2.out]
   exact (two_new W2 _ _).2.1
  have k2 : W3.heap[hh + 2]? = some (.cells #[.int .i64 (dn : Int)] 3 (0, 0)) := by
   rw [← hW3, show hh + 2 = W2.heap.size + 1 by have := HS2.out; omega]
   exact (two_new W2 _ _).1
  have k3 := (hb3.block hh (by have := HS2.out; omega)).trans HK0.out
  have hbw3 : Below w.heap.size w W3 := HB2.out.trans (hb3.mono HB2.out.size)
  have K1 := Lib.hid k1
  have K2 := Lib.hid k2
  have K3 := Lib.hid k3
  have HB3 := Lib.hid hbw3
  have HS3 := Lib.hid hs3
  have hKK : ∀ pre W, InS J W3 hh pre W → KeepK (hh + 1) (hh + 2) A n c l dn W ∧ KeepS B1 B2 s d dn own r A n c l W ∧ W.heap[hh]? = some (.cells #[.func (.yield L) #[] #[]] 148 (0, 0)) := fun pre W hI =>
   have h := HK.out pre W hI.1
   ⟨⟨cell_of_one (hI.2.2.1.trans K1.out), cell_of_one (hI.2.2.2.trans K2.out), h.key, h.roots⟩, h, hI.2.1.trans K3.out⟩
  have HKK := Lib.hid hKK
  go_wp2_with fail
  clear hW3 hb3 hs3 k1 k2 k3 hbw3 hKK y1 y2 y3 y4 HQ HK0 HB2 HS2
  refine (wpIn_wide (n := nn)).1 ?_
  refine range_k nn 1 (by omega) 101 #[.pointer (some ⟨hh + 1, 0, none⟩), .pointer (some ⟨hh + 2, 0, none⟩)] (arK l dn) rfl filesOf_enters (fun _ => rfl) (List.range 8) (KeepK (hh + 1) (hh + 2) A n c l dn) (fun W1 _ => filesOf1_any W1 (hh + 1) (hh + 2) A n c l dn hdn) (InS J W3 hh) (fun cc pre W => cc = Code.ret ∧ Jx (hh + 5) pre W) ?hI ?hIx (fun pre W h => (HKK.out pre W h).1) ?h0 ?hab ?hdone ?hstop
  case hI =>
   intro xs W W' hi hc
   have hz := HS3.out
   have hq := HHE.out
   have hz2 : hh + 3 ≤ W.heap.size := by
    have := lt_of_block (hi.2.2.2.trans K2.out)
    omega
   have nE : ∀ k, k < hh + 3 → k ∉ [W3.heap.size, W3.heap.size + 1] := fun k hk hm => by simp only [List.mem_cons, List.not_mem_nil, or_false] at hm; omega
   exact ⟨HJS.out xs _ (by omega) W W' hi.1 hc, (hc.same _ (by omega) (nE _ (by omega))).trans hi.2.1, (hc.same _ (by omega) (nE _ (by omega))).trans hi.2.2.1, (hc.same _ (by omega) (nE _ (by omega))).trans hi.2.2.2⟩
  case hIx =>
   intro cc xs W W' hi hc
   have hz := HS3.out
   have hq := HHE.out
   exact ⟨hi.1, HJXS.out _ xs _ (by omega) (by omega) W W' hi.2 hc⟩
  case h0 =>
   intro W hb
   have hz := HS3.out
   exact ⟨HJ.out _ _ _ H0.out (HB3.out.trans (hb.mono HB3.out.size)), hb.block _ (by omega), hb.block _ (by omega), hb.block _ (by omega)⟩
  case hab =>
   apply Exists.intro
   refine ⟨?hassign, ?hbody⟩
   case hassign =>
    intro x W K hK
    unfold arK
    gi_wp2
    exact hK
   case hbody =>
    intro pre x Wr hD1 hI hpre
    obtain ⟨_, hks, hbx⟩ := HKK.out pre Wr hI
    have HI := Lib.hid hI
    have HPRE := Lib.hid hpre
    have y1 := hks.b1
    have y3 := cell_of_one hbx
    have hlk := look_any Wr.drew s d dn own r (fileB l dn x) (hks.box.below ((Below.refl _ Wr).drew)) (hks.disk.below ((Below.refl _ Wr).drew)) hsm
    have HL := Lib.hid hlk
    have HKS := Lib.hid hks
    have HBX := Lib.hid hbx
    have HD1 := Lib.hid hD1
    clear hI hpre hks hbx hlk
    have hdep : 1 ≤ nn - 1 - 1 := by omega
    gi_wp2
    gi_region_with (first
     | (refine ⟨trivial, ?_⟩; gi_at_call 86; refine (CallsIn.inRound _ (callsIn_wide.2 HL.out)).mono ?_; rintro e W4 ⟨⟨v, rfl, hv⟩, hb4⟩
        have hb4' : Below Wr.heap.size Wr W4 := ((Below.refl _ Wr).drew).trans hb4
        have y5 := (HKS.out.below hb4').b1
        have y6 := cell_of_one ((hb4'.block _ (lt_of_block HBX.out)).trans HBX.out)
        obtain ⟨fn, tmps, assign, body, hyl, hR⟩ := HY.out (hh + 5) pre x #[.string (fileB l dn x), v] W4 (by have := HHE.out; omega) (HJ.out _ _ _ HI.out.1 hb4') HPRE.out ⟨v, rfl, hv.mono (by have := HHE.out; have := HS3.out; have h8 := HD1.out; have h9 : Wr.drew.heap.size = Wr.heap.size := rfl; omega)⟩
        have HR : Hid (RoundIn (Fence.wide.inRound (W3.heap.size + 1)) (nn - 1 - 1 - 1) Tryz.prog L fn tmps assign body W4 fun e W' => ∃ b : Bool, e = .returned (.bool b) ∧ SizedY w.heap.size W4 W' ∧ ((b = true ∧ J (pre ++ [x]) W') ∨ (b = false ∧ Jx (hh + 5) (pre ++ [x]) W'))) := Lib.hid (by
         rw [show nn - 1 - 1 - 1 = nn - 3 by omega]
         refine RoundIn.mono hR ?_
         rintro e W' ⟨hz, ⟨rfl, hj⟩ | ⟨rfl, hj⟩⟩
         · exact ⟨true, rfl, hz, .inl ⟨rfl, hj⟩⟩
         · exact ⟨false, rfl, hz, .inr ⟨rfl, hj⟩⟩)
        have HB4 := Lib.hid hb4'
        clear hb4 hb4' hv hR)
     | (refine HR.out.mono ?_; rintro e W5 ⟨b, rfl, h5⟩; have H5 := Lib.hid h5; clear h5))
    all_goals
     have hz5 : SizedK W3.heap.size Wr W5 := by
      have hq := HHE.out
      have hz := HS3.out
      have h1 := H5.out.1
      have h2 := HB4.out
      have h3 := HD1.out
      have h4 := h2.size
      exact ⟨Nat.le_trans h4 h1.1, (h1.2 _ (by omega) (by omega)).trans (h2.block _ (by omega)), (h1.2 _ (by omega) (by omega)).trans (h2.block _ (by omega))⟩
     have HZ5 := Lib.hid hz5
     have HIN : Hid (∀ k, hh ≤ k → k < hh + 3 → W5.heap[k]? = Wr.heap[k]?) := Lib.hid (fun k hk1 hk2 => by
      have hq := HHE.out
      have hz := HS3.out
      have h1 := H5.out.1
      have h2 := HB4.out
      have h3 := HD1.out
      have h4 := h2.size
      exact (h1.2 _ (by omega) (by omega)).trans (h2.block _ (by omega)))
     clear hz5
     rcases H5.out.2 with ⟨rfl, hj⟩ | ⟨rfl, hj⟩
     · have HJ5 := Lib.hid hj
       clear hj
       gi_wp2
       exact ⟨HZ5.out, HJ5.out, (HIN.out _ (by omega) (by omega)).trans HI.out.2.1, (HIN.out _ (by omega) (by omega)).trans HI.out.2.2.1, (HIN.out _ (by omega) (by omega)).trans HI.out.2.2.2⟩
     · have HJ5 := Lib.hid hj
       clear hj
       gi_wp2
       exact ⟨HZ5.out, rfl, HJ5.out⟩
  case hdone =>
   intro W hI hK
   have HX : Hid (J (List.range 8) (W.putObj W3.heap.size (.deferred none))) := Lib.hid (by
    have hq := HHE.out
    have hz := HS3.out
    exact HJS.out _ W3.heap.size (by omega) W _ hI.1 ((chg_putObjIt W W3.heap.size (.deferred none)).weaken (fun k hk => .inl (by simp only [List.mem_singleton] at hk; subst hk; simp))))
   clear hI
   go_wp2_with fail
   refine ⟨by simp, .inl ⟨_, _, rfl, run_takeDeferred hK, ?_⟩⟩
   exact ⟨_, results_none rfl _ _ _, ⟨_, rfl⟩, .inl HX.out⟩
  case hstop =>
   rintro cc pre W hpre ⟨rfl, hJx⟩ hK
   have HX : Hid (∃ E pre, w.heap.size ≤ E ∧ pre <+: List.range 8 ∧ Jx E pre (W.putObj W3.heap.size (.deferred none))) := Lib.hid (by
    have hq := HHE.out
    have hz := HS3.out
    exact ⟨hh + 5, pre, by omega, hpre, HJXS.out _ _ W3.heap.size (by omega) (by omega) W _ hJx ((chg_putObjIt W W3.heap.size (.deferred none)).weaken (fun k hk => .inl (by simp only [List.mem_singleton] at hk; subst hk; simp)))⟩)
   clear hpre hJx
   gi_wp2
   refine ⟨by simp, .inl ⟨_, _, rfl, run_takeDeferred hK, ?_⟩⟩
   exact ⟨_, results_none rfl _ _ _, ⟨_, rfl⟩, .inr HX.out⟩
theorem bytesEq_any (w : World) (A B : Option Addr) (n c m c2 : Nat) (a b : List Nat) (h1 : RowN w A n a) (h2 : RowN w B m b) : Calls Tryz.prog 47 #[.slice A n c, .slice B m c2] w fun e w' => e = .returned (.bool (decide (a = b))) ∧ w = w' := by
 have k1 := conv_row h1 c
 have k2 := conv_row h2 c2
 have hbq := txt_beq h1.bytes h2.bytes
 unfold txt at hbq
 obtain ⟨q, hq⟩ : ∃ q, decide (a = b) = q := ⟨_, rfl⟩
 rw [hq] at hbq ⊢
 clear h1 h2 hq
 generalize strOfNums (asZ a) = s at *
 generalize strOfNums (asZ b) = t at *
 cases q
 all_goals
  go_enter Tryz.func47, Tryz.ntmps47
  go_wp2
  go_ret
  exact ⟨rfl, rfl⟩
def hitR (r : RD) (l : List Nat) (dn s : Nat) : Option (List Nat) :=
 match (holdR r (fileB l dn s)).bind splitE with
 | some (k, a) => if k = l then some a else none
 | none => none
def findR (r : RD) (l : List Nat) (dn : Nat) : Option (Nat × List Nat) := (List.range 8).findSome? fun s => (hitR r l dn s).map fun a => (s, a)
theorem findR_none {r : RD} {l : List Nat} {dn : Nat} (h : ∀ t ∈ List.range 8, hitR r l dn t = none) : findR r l dn = none := by
 unfold findR
 rw [List.findSome?_eq_none_iff]
 intro t ht
 rw [h t ht]
 rfl
theorem findR_some {r : RD} {l : List Nat} {dn s : Nat} {a : List Nat} {pre : List Nat} (hp : pre ++ [s] <+: List.range 8) (h : ∀ t ∈ pre, hitR r l dn t = none) (hs : hitR r l dn s = some a) : findR r l dn = some (s, a) := by
 obtain ⟨t, ht⟩ := hp
 unfold findR
 rw [← ht, List.append_assoc, List.findSome?_append]
 have h0 : (pre.findSome? fun s => (hitR r l dn s).map fun a => (s, a)) = none := by
  rw [List.findSome?_eq_none_iff]
  intro t ht
  rw [h t ht]
  rfl
 rw [h0]
 simp [hs]
def FindAns (r : RD) (l : List Nat) (dn B : Nat) (e : Ending) (W : World) : Prop :=
 match findR r l dn with
 | none => e = .returned (.tuple #[.string ⟨#[]⟩, .slice none 0 0, .bool false])
 | some (s, a) => ∃ A' c', e = .returned (.tuple #[.string (fileB l dn s), .slice A' a.length c', .bool true]) ∧ BLine W A' a.length c' a ∧ ∀ j ∈ blk A', B ≤ j
theorem results_find (tmps : Array Value) (w : World) (g h i : Nat) (v u x : Value) (hp : tmps.getD 4 undef = .pointer (some ⟨g, 0, none⟩)) (hq : tmps.getD 5 undef = .pointer (some ⟨h, 0, none⟩)) (hr : tmps.getD 6 undef = .pointer (some ⟨i, 0, none⟩)) (hv : w.cell? ⟨g, 0, none⟩ = some v) (hu : w.cell? ⟨h, 0, none⟩ = some u) (hx : w.cell? ⟨i, 0, none⟩ = some x) : (results Tryz.f29 tmps).run Tryz.prog w = .ok (.tuple #[v, u, x]) w := by
 have hp' : tmps[4]?.getD undef = .pointer (some ⟨g, 0, none⟩) := by simpa using hp
 have hq' : tmps[5]?.getD undef = .pointer (some ⟨h, 0, none⟩) := by simpa using hq
 have hr' : tmps[6]?.getD undef = .pointer (some ⟨i, 0, none⟩) := by simpa using hr
 simp [results, Tryz.results29, hp', hq', hr', asAddr, go_sem, hv, hu, hx]
def FindI (r : RD) (l : List Nat) (dn : Nat) (W3 : World) (pre : List Nat) (W : World) : Prop := (∀ t ∈ pre, hitR r l dn t = none) ∧ Below W3.heap.size W3 W
def FindX (r : RD) (l : List Nat) (dn : Nat) (w : World) (hh E : Nat) (cc : Code) (pre : List Nat) (W : World) : Prop :=
 cc = Code.ret ∧ ∃ p s a A' c', pre = p ++ [s] ∧ (∀ t ∈ p, hitR r l dn t = none) ∧ hitR r l dn s = some a ∧ W.heap[hh + 1]? = some (.cells #[.string (fileB l dn s)] 9 (0, 0)) ∧ W.heap[hh + 2]? = some (.cells #[.slice A' a.length c'] 40 (0, 0)) ∧ W.heap[hh + 3]? = some (.cells #[.bool true] 4 (0, 0)) ∧ BLine W A' a.length c' a ∧ (∀ j ∈ blk A', E ≤ j) ∧ Below hh w W
def AsgF (s hh : Nat) (A : Option Addr) (n c : Nat) (args : Array Value) (W : World) (a1 : Act) (W' : World) : Prop :=
 ∃ x f b k kn kc u un uc, args = #[.string x, .agg #[.bool f, .bool b, .slice k kn kc, .slice u un uc]] ∧ W' = W.alloc (.cells #[.bool f, .bool b, .slice k kn kc, .slice u un uc] 125) ∧
  a1 = { tmps := #[.pointer (some ⟨s, 0, none⟩), .slice A n c, undef, .pointer (some ⟨hh, 0, none⟩), .pointer (some ⟨hh + 1, 0, none⟩), .pointer (some ⟨hh + 2, 0, none⟩), .pointer (some ⟨hh + 3, 0, none⟩), .string x, .pointer (some ⟨W.heap.size, 0, none⟩), .pointer (some ⟨s, 0, none⟩), .slice A n c, .func (.func 85) #[] #[.pointer (some ⟨hh + 4, 0, none⟩), .pointer (some ⟨hh + 5, 0, none⟩)], .string x, .agg #[.bool f, .bool b, .slice k kn kc, .slice u un uc], undef, undef, undef, undef, undef, undef, undef, undef, undef, undef, undef], defers := [] }
theorem SlotV.shape {o : Option (List Nat)} {B : Nat} {v : Value} {W : World} (h : SlotV o B v W) : ∃ f b k kn kc u un uc, v = .agg #[.bool f, .bool b, .slice k kn kc, .slice u un uc] := by
 unfold SlotV at h
 split at h
 · exact ⟨_, _, _, _, _, _, _, _, h⟩
 · split at h
   · exact ⟨_, _, _, _, _, _, _, _, h⟩
   · obtain ⟨A1, c1, A2, c2, e, _⟩ := h
     exact ⟨_, _, _, _, _, _, _, _, e⟩
theorem SlotV.chg {o : Option (List Nat)} {B : Nat} {v : Value} {W W' : World} {L : List Nat} (h : SlotV o B v W) (hc : Chg L W W') (hl : ∀ k, B ≤ k → k ∉ L) : SlotV o B v W' := by
 unfold SlotV at h ⊢
 split
 · exact h
 · simp only at h
   split
   · rename_i hs
     rw [hs] at h
     exact h
   · rename_i hs
     rw [hs] at h
     obtain ⟨A1, c1, A2, c2, e, h1, h2, h3, h4⟩ := h
     exact ⟨A1, c1, A2, c2, e, h1.chg hc (fun k hk => hl k (h3 k hk)), h2.chg hc (fun k hk => hl k (h4 k hk)), h3, h4⟩
theorem SlotV.below {o : Option (List Nat)} {B : Nat} {v : Value} {W W' : World} (h : SlotV o B v W) (hb : Below W.heap.size W W') : SlotV o B v W' := h.chg (L := []) (Chg.of_below hb) (fun k _ hm => by cases hm)
theorem three_one {W : World} {a b c : Nat} {ua ub uc va vb vc : Value} {Ta Tb Tc : TypeId} (ha : W.heap[a]? = some (.cells #[ua] Ta (0, 0))) (hb : W.heap[b]? = some (.cells #[ub] Tb (0, 0))) (hc : W.heap[c]? = some (.cells #[uc] Tc (0, 0))) (hab : a ≠ b) (hac : a ≠ c) (hbc : b ≠ c) :
 (((W.setCell ⟨a, 0, none⟩ va).setCell ⟨b, 0, none⟩ vb).setCell ⟨c, 0, none⟩ vc).heap[a]? = some (.cells #[va] Ta (0, 0)) ∧ (((W.setCell ⟨a, 0, none⟩ va).setCell ⟨b, 0, none⟩ vb).setCell ⟨c, 0, none⟩ vc).heap[b]? = some (.cells #[vb] Tb (0, 0)) ∧ (((W.setCell ⟨a, 0, none⟩ va).setCell ⟨b, 0, none⟩ vb).setCell ⟨c, 0, none⟩ vc).heap[c]? = some (.cells #[vc] Tc (0, 0)) ∧ Chg [a, b, c] W (((W.setCell ⟨a, 0, none⟩ va).setCell ⟨b, 0, none⟩ vb).setCell ⟨c, 0, none⟩ vc) := by
 have c3 := (((Chg.refl [a, b, c] W).setCell a 0 va (.inl (by simp))).setCell b 0 vb (.inl (by simp))).setCell c 0 vc (.inl (by simp))
 have n1 : (W.setCell ⟨a, 0, none⟩ va).heap[a]? = some (.cells #[va] Ta (0, 0)) := one_setCell ha
 have m1 : Chg [a] W (W.setCell ⟨a, 0, none⟩ va) := (Chg.refl _ _).setCell a 0 va (.inl (by simp))
 have hb1 := (m1.same b (lt_of_block hb) (by simp; omega)).trans hb
 have hc1 := (m1.same c (lt_of_block hc) (by simp; omega)).trans hc
 have n2 : ((W.setCell ⟨a, 0, none⟩ va).setCell ⟨b, 0, none⟩ vb).heap[b]? = some (.cells #[vb] Tb (0, 0)) := one_setCell hb1
 have m2 : Chg [b] _ ((W.setCell ⟨a, 0, none⟩ va).setCell ⟨b, 0, none⟩ vb) := (Chg.refl _ _).setCell b 0 vb (.inl (by simp))
 have ha2 := (m2.same a (lt_of_block n1) (by simp; omega)).trans n1
 have hc2 := (m2.same c (lt_of_block hc1) (by simp; omega)).trans hc1
 have n3 : (((W.setCell ⟨a, 0, none⟩ va).setCell ⟨b, 0, none⟩ vb).setCell ⟨c, 0, none⟩ vc).heap[c]? = some (.cells #[vc] Tc (0, 0)) := one_setCell hc2
 have m3 : Chg [c] _ (((W.setCell ⟨a, 0, none⟩ va).setCell ⟨b, 0, none⟩ vb).setCell ⟨c, 0, none⟩ vc) := (Chg.refl _ _).setCell c 0 vc (.inl (by simp))
 exact ⟨(m3.same a (lt_of_block ha2) (by simp; omega)).trans ha2, (m3.same b (lt_of_block n2) (by simp; omega)).trans n2, n3, c3⟩
set_option maxHeartbeats 3200000 in
theorem find_any (w : World) (s d dn : Nat) (own : Nat → Nat) (r : RD) (A : Option Addr) (n c : Nat) (l : List Nat) (hS : SBox w s d dn) (hD : IsD w d own r) (hsm : SmallD r) (hdn : dn ≤ 64) (hK : KeyAt w A n c l) (hR : RootsOk w) :
 Calls Tryz.prog 29 #[.pointer (some ⟨s, 0, none⟩), .slice A n c] w fun e w' => FindAns r l dn w.heap.size e w' ∧ Below w.heap.size w w' := by
 refine (callsIn_wide (n := 8)).1 ?_
 refine callsIn_of_wp_marks Tryz.func29 rfl trivial ?_ rfl
 simp only [Tryz.ntmps29, List.size_toArray, List.length_cons, List.length_nil, Nat.reduceAdd, Nat.reduceSub, Array.replicate_succ, Array.replicate_zero, List.push_toArray, List.append_toArray, List.nil_append, List.cons_append]
 refine wpIn_wide.2 ?_
 obtain ⟨hh, hhe⟩ : ∃ hh, w.heap.size = hh := ⟨_, rfl⟩
 obtain ⟨W2, hW2⟩ : ∃ W2, (((w.alloc (.cells #[.slice A n c] 40)).alloc (.cells #[.string ⟨#[]⟩] 9)).alloc (.cells #[.slice none 0 0] 40)).alloc (.cells #[.bool false] 4) = W2 := ⟨_, rfl⟩
 have hb1 : Below w.heap.size w ((w.alloc (.cells #[.slice A n c] 40)).alloc (.cells #[.string ⟨#[]⟩] 9)) := (two_new w _ _).2.2
 have hs1 : ((w.alloc (.cells #[.slice A n c] 40)).alloc (.cells #[.string ⟨#[]⟩] 9)).heap.size = hh + 2 := by rw [← hhe]; simp
 have k0 := (two_new w (.cells #[.slice A n c] 40) (.cells #[.string ⟨#[]⟩] 9)).2.1
 have k1 := (two_new w (.cells #[.slice A n c] 40) (.cells #[.string ⟨#[]⟩] 9)).1
 have hWW := hW2
 generalize (w.alloc (.cells #[.slice A n c] 40)).alloc (.cells #[.string ⟨#[]⟩] 9) = W1 at hb1 hs1 k0 k1 hW2
 have hb2 : Below W1.heap.size W1 W2 := by rw [← hW2]; exact (two_new W1 _ _).2.2
 have hs2 : W2.heap.size = hh + 4 := by rw [← hW2]; simp [hs1]
 have k2 : W2.heap[hh + 2]? = some (.cells #[.slice none 0 0] 40 (0, 0)) := by rw [← hW2, ← hs1]; exact (two_new W1 _ _).2.1
 have k3 : W2.heap[hh + 3]? = some (.cells #[.bool false] 4 (0, 0)) := by rw [← hW2, show hh + 3 = W1.heap.size + 1 by omega]; exact (two_new W1 _ _).1
 rw [hhe] at k0 k1
 have k0 := (hb2.block hh (by omega)).trans k0
 have k1 := (hb2.block (hh + 1) (by omega)).trans k1
 have hbw2 : Below w.heap.size w W2 := hb1.trans (hb2.mono hb1.size)
 have y0 := cell_of_one k0
 have HK0 := Lib.hid k0
 have HK1 := Lib.hid k1
 have HK2 := Lib.hid k2
 have HK3 := Lib.hid k3
 have HB2 := Lib.hid hbw2
 have HHE := Lib.hid hhe
 have HS2 := Lib.hid hs2
 have HS := Lib.hid hS
 have HD := Lib.hid hD
 have HKY := Lib.hid hK
 have HRO := Lib.hid hR
 clear hb1 hs1 k0 k1 k2 k3 hb2 hs2 hbw2 hS hD hK hR
 go_wp2_with fail
 refine (slots_any _ (some ⟨s, 0, none⟩) A n c).mono ?_
 rintro e9 w9 ⟨rfl, rfl⟩
 obtain ⟨W3, hW3⟩ : ∃ W3, (W2.alloc (.cells #[.pointer (some ⟨s, 0, none⟩)] 30)).alloc (.cells #[.slice A n c] 40) = W3 := ⟨_, rfl⟩
 have hs2 := HS2.out
 have hb3 : Below W2.heap.size W2 W3 := by rw [← hW3]; exact (two_new W2 _ _).2.2
 have hs3 : W3.heap.size = hh + 6 := by rw [← hW3]; simp [hs2]
 have k4 : W3.heap[hh + 4]? = some (.cells #[.pointer (some ⟨s, 0, none⟩)] 30 (0, 0)) := by rw [← hW3, ← hs2]; exact (two_new W2 _ _).2.1
 have k5 : W3.heap[hh + 5]? = some (.cells #[.slice A n c] 40 (0, 0)) := by rw [← hW3, show hh + 5 = W2.heap.size + 1 by omega]; exact (two_new W2 _ _).1
 rw [hs2, hW3]
 have HJ0 := Lib.hid ((hb3.block hh (by omega)).trans HK0.out)
 have HJ1 := Lib.hid ((hb3.block (hh + 1) (by omega)).trans HK1.out)
 have HJ2 := Lib.hid ((hb3.block (hh + 2) (by omega)).trans HK2.out)
 have HJ3 := Lib.hid ((hb3.block (hh + 3) (by omega)).trans HK3.out)
 have HJ4 := Lib.hid k4
 have HJ5 := Lib.hid k5
 have HB3 : Hid (Below w.heap.size w W3) := Lib.hid (HB2.out.trans (hb3.mono HB2.out.size))
 have HS3 := Lib.hid hs3
 clear hW2 hWW hW3 hb3 hs3 k4 k5 HK0 HK1 HK2 HK3 HB2 HS2 hs2 y0
 have HKEEP : Hid (∀ pre W, FindI r l dn W3 pre W → KeepS (hh + 4) (hh + 5) s d dn own r A n c l W) := Lib.hid (by
  rintro pre W ⟨_, hb⟩
  have hz := HS3.out
  have hbw := HB3.out.trans (hb.mono HB3.out.size)
  exact ⟨cell_of_one ((hb.block _ (by omega)).trans HJ4.out), cell_of_one ((hb.block _ (by omega)).trans HJ5.out), HKY.out.below hbw, HRO.out.below hbw, HS.out.below hbw, HD.out.below hbw⟩)
 go_wp2_with fail
 refine (wpIn_wide (n := 8)).1 ?_
 refine range_z 8 3 (by decide) 85 #[.pointer (some ⟨hh + 4, 0, none⟩), .pointer (some ⟨hh + 5, 0, none⟩)] (ArgS r l dn) rfl slots_enters ?hps (List.range 8) (KeepS (hh + 4) (hh + 5) s d dn own r A n c l) (fun W1 _ _ => slots1_any W1 (hh + 4) (hh + 5) s d dn own r hsm hdn A n c l) (FindI r l dn W3) (FindX r l dn w hh) (AsgF s hh A n c) ?hAsg ?hA ?hAb ?hI ?hIb ?hIx HKEEP.out ?h0 ?hassign ?hbody ?hdone ?hstop
 case hps =>
  rintro E pre x args W ⟨v, rfl, _⟩
  rfl
 case hAsg =>
  rintro args W a1 W' ⟨x, f, b, k, kn, kc, u, un, uc, rfl, rfl, rfl⟩
  exact (Below.refl _ W).alloc (Nat.le_refl _) _
 case hA =>
  rintro E pre x args hE W W' ⟨v, rfl, hv⟩ hc
  exact ⟨v, rfl, hv.chg hc (fun k hk hm => by simp only [List.mem_cons, List.not_mem_nil, or_false] at hm; omega)⟩
 case hAb =>
  rintro E pre x args W W' ⟨v, rfl, hv⟩ hb
  exact ⟨v, rfl, hv.below hb⟩
 case hI =>
  rintro xs D hD W W' ⟨h1, h2⟩ hc
  exact ⟨h1, h2.trans (hc.toBelow (fun k hk => by simp only [List.mem_cons, List.not_mem_nil, or_false] at hk; omega) h2.size)⟩
 case hIb =>
  rintro xs W W' ⟨h1, h2⟩ hb
  exact ⟨h1, h2.trans (hb.mono h2.size)⟩
 case hIx =>
  rintro E cc xs D hD hE W W' ⟨rfl, p, s, a, A', c', e, h1, h2, h3, h4, h5, h6, h7, h8⟩ hc
  have hz := HS3.out
  have hq := HHE.out
  have nE : ∀ k, k < hh + 6 → k ∉ [D, D + 1] := fun k hk hm => by simp only [List.mem_cons, List.not_mem_nil, or_false] at hm; omega
  exact ⟨rfl, p, s, a, A', c', e, h1, h2, (hc.same _ (lt_of_block h3) (nE _ (by omega))).trans h3, (hc.same _ (lt_of_block h4) (nE _ (by omega))).trans h4, (hc.same _ (lt_of_block h5) (nE _ (by omega))).trans h5, h6.chg hc (fun k hk hm => by have := h7 k hk; simp only [List.mem_cons, List.not_mem_nil, or_false] at hm; omega), h7, h8.trans (hc.toBelow (fun k hk => by simp only [List.mem_cons, List.not_mem_nil, or_false] at hk; omega) (by have := h8.size; omega))⟩
 case h0 =>
  intro W hb
  exact ⟨fun t ht => (by cases ht), hb⟩
 case hassign =>
  rintro E pre x args W K hD1 ⟨v, rfl, hv⟩ hK
  obtain ⟨f, b, k, kn, kc, u, un, uc, rfl⟩ := hv.shape
  have HK := Lib.hid hK
  clear hK hv
  gi_wp2
  exact HK.out _ _ ⟨_, f, b, k, kn, kc, u, un, uc, rfl, rfl, rfl⟩
 case hbody =>
  rintro E pre x args W0 Wa a1 W hE hD1 ⟨xx, f, b, k, kn, kc, u, un, uc, hargs, rfl, rfl⟩ hcq hI hpre ⟨v, hv1, hv⟩
  rw [hargs] at hv1
  obtain ⟨rfl, rfl⟩ : xx = fileB l dn x ∧ v = .agg #[.bool f, .bool b, .slice k kn kc, .slice u un uc] := by
   simp only [Array.mk.injEq, List.cons.injEq, Value.string.injEq, and_true] at hv1
   exact ⟨hv1.1, hv1.2.symm⟩
  obtain ⟨q, hq⟩ : ∃ q, W0.heap.size = q := ⟨_, rfl⟩
  have hz3 := HS3.out
  have hzq := HHE.out
  have hqb : W.heap[q]? = some (.cells #[.bool f, .bool b, .slice k kn kc, .slice u un uc] 125 (0, 0)) := by
   rw [← hq]
   refine (hcq.same _ (by simp) (fun hm => by rw [List.mem_singleton] at hm; omega)).trans (heap_alloc_new W0 _)
  rw [hq]
  obtain ⟨⟨d0, d1, d2, d3⟩, f0, f1, f2, f3⟩ := four_facts hqb
  have hks := HKEEP.out pre W hI
  have hbw := HB3.out.trans (hI.2.mono HB3.out.size)
  have x0 := (hI.2.block hh (by omega)).trans HJ0.out
  have x1 := (hI.2.block (hh + 1) (by omega)).trans HJ1.out
  have x2 := (hI.2.block (hh + 2) (by omega)).trans HJ2.out
  have x3 := (hI.2.block (hh + 3) (by omega)).trans HJ3.out
  have y0 := cell_of_one x0
  have HI := Lib.hid hI
  have HPRE := Lib.hid hpre
  have HX1 := Lib.hid x1
  have HX2 := Lib.hid x2
  have HX3 := Lib.hid x3
  have HBW := Lib.hid hbw
  have HV := Lib.hid hv
  have HKS := Lib.hid hks
  have hno : hitR r l dn x = none → SizedY W3.heap.size W W ∧ FindI r l dn W3 (pre ++ [x]) W := fun h =>
   ⟨⟨Nat.le_refl _, fun _ _ _ => rfl⟩, fun t ht => by
     rcases List.mem_append.1 ht with h1 | h1
     · exact HI.out.1 t h1
     · rw [List.mem_singleton] at h1; rw [h1]; exact h, HI.out.2⟩
  have HNO := Lib.hid hno
  have HEE := Lib.hid hE
  clear hargs hv1 hq hqb hks hbw x0 x1 x2 x3 hI hpre hv hcq hno hE
  cases hho : holdR r (fileB l dn x) with
  | none =>
   have hv := HV.out
   unfold SlotV at hv
   rw [hho] at hv
   simp only [Value.agg.injEq, Array.mk.injEq, List.cons.injEq, Value.bool.injEq, Value.slice.injEq, and_true] at hv
   obtain ⟨rfl, rfl, ⟨rfl, rfl, rfl⟩, rfl, rfl, rfl⟩ := hv
   have HE := Lib.hid (HNO.out (by unfold hitR; rw [hho]; rfl))
   clear hho
   gi_wp2
   refine ⟨trivial, ?_⟩
   gi_wp2
   exact HE.out
  | some bs =>
   cases hsp : splitE bs with
   | none =>
    have hv := HV.out
    unfold SlotV at hv
    rw [hho] at hv
    simp only [hsp] at hv
    simp only [Value.agg.injEq, Array.mk.injEq, List.cons.injEq, Value.bool.injEq, Value.slice.injEq, and_true] at hv
    obtain ⟨rfl, rfl, ⟨rfl, rfl, rfl⟩, rfl, rfl, rfl⟩ := hv
    have HE := Lib.hid (HNO.out (by unfold hitR; rw [hho]; simp [hsp]))
    clear hho hsp
    gi_wp2
    refine ⟨trivial, ?_⟩
    gi_wp2
    exact HE.out
   | some ka =>
    obtain ⟨kk, aa⟩ := ka
    have hv := HV.out
    unfold SlotV at hv
    rw [hho] at hv
    simp only [hsp] at hv
    obtain ⟨A1, c1, A2, c2, he, hl1, hl2, hf1, hf2⟩ := hv
    simp only [Value.agg.injEq, Array.mk.injEq, List.cons.injEq, Value.bool.injEq, Value.slice.injEq, and_true] at he
    obtain ⟨rfl, rfl, ⟨rfl, rfl, rfl⟩, rfl, rfl, rfl⟩ := he
    have hq := bytesEq_any W k A kk.length kc n c kk l hl1.row HKS.out.key.1.1
    by_cases hkl : kk = l
    · have hhit : hitR r l dn x = some aa := by unfold hitR; rw [hho]; simp [hsp, hkl]
      rw [decide_eq_true hkl] at hq
      have HQ := Lib.hid hq
      have HH := Lib.hid (And.intro hhit (And.intro hl2 hf2))
      obtain ⟨kl, hkle⟩ : ∃ kl, kk.length = kl := ⟨_, rfl⟩
      obtain ⟨al, hal⟩ : ∃ al, aa.length = al := ⟨_, rfl⟩
      have HAL := Lib.hid hal
      rw [hkle] at HQ d2
      rw [hal] at d3
      have y1 := free_of_one HX1.out
      have y2 := free_of_one HX2.out
      have y3 := free_of_one HX3.out
      have z1 := cell_of_one HX1.out
      have z2 := cell_of_one HX2.out
      have z3 := cell_of_one HX3.out
      have HFIN : Hid (∀ V, V.heap[hh + 1]? = some (.cells #[.string (fileB l dn x)] 9 (0, 0)) → V.heap[hh + 2]? = some (.cells #[.slice u al uc] 40 (0, 0)) → V.heap[hh + 3]? = some (.cells #[.bool true] 4 (0, 0)) → (∃ L, Chg L W.drew V ∧ ∀ k ∈ L, hh + 1 ≤ k ∧ k ≤ hh + 3) → SizedY W3.heap.size W V ∧ FindX r l dn w hh E Code.ret (pre ++ [x]) V) := Lib.hid (fun V v1 v2 v3 ⟨L, hc, hL⟩ => by
       have hz := HS3.out
       have hE2 := HEE.out
       refine ⟨⟨hc.size, fun k hk1 hk2 => hc.same k hk2 (fun hm => by have := hL k hm; omega)⟩, rfl, pre, x, aa, u, uc, rfl, HI.out.1, HH.out.1, v1, by rw [HAL.out]; exact v2, v3, (show BLine W.drew u aa.length uc aa from HH.out.2.1).chg hc (fun k hk hm => by have := hL k hm; have := HH.out.2.2 k hk; omega), HH.out.2.2, ?_⟩
       rw [← HHE.out]
       exact HBW.out.drew.trans (hc.toBelow (fun k hk => by have := hL k hk; have := HHE.out; omega) HBW.out.size))
      clear hho hsp hl1 hl2 hf1 hf2 hq hkl hhit hkle hal
      gi_wp2_with (refine ⟨trivial, ?_⟩; gi_at_call 47; refine (CallsIn.inRound _ (callsIn_wide.2 HQ.out)).mono ?_; rintro e8 Wg ⟨rfl, rfl⟩)
      gi_region
      all_goals gi_wp2
      all_goals
       have n12 : hh + 1 ≠ hh + 2 := by omega
       have n13 : hh + 1 ≠ hh + 3 := by omega
       have n23 : hh + 2 ≠ hh + 3 := by omega
       first
        | exact HFIN.out _ (three_one (W := W.drew) HX1.out HX2.out HX3.out n12 n13 n23).1 (three_one (W := W.drew) HX1.out HX2.out HX3.out n12 n13 n23).2.1 (three_one (W := W.drew) HX1.out HX2.out HX3.out n12 n13 n23).2.2.1 ⟨_, (three_one (W := W.drew) HX1.out HX2.out HX3.out n12 n13 n23).2.2.2, fun k hk => by simp only [List.mem_cons, List.not_mem_nil, or_false] at hk; omega⟩
        | exact HFIN.out _ (three_one (W := W.drew) HX1.out HX3.out HX2.out n13 n12 n23.symm).1 (three_one (W := W.drew) HX1.out HX3.out HX2.out n13 n12 n23.symm).2.2.1 (three_one (W := W.drew) HX1.out HX3.out HX2.out n13 n12 n23.symm).2.1 ⟨_, (three_one (W := W.drew) HX1.out HX3.out HX2.out n13 n12 n23.symm).2.2.2, fun k hk => by simp only [List.mem_cons, List.not_mem_nil, or_false] at hk; omega⟩
        | exact HFIN.out _ (three_one (W := W.drew) HX2.out HX1.out HX3.out n12.symm n23 n13).2.1 (three_one (W := W.drew) HX2.out HX1.out HX3.out n12.symm n23 n13).1 (three_one (W := W.drew) HX2.out HX1.out HX3.out n12.symm n23 n13).2.2.1 ⟨_, (three_one (W := W.drew) HX2.out HX1.out HX3.out n12.symm n23 n13).2.2.2, fun k hk => by simp only [List.mem_cons, List.not_mem_nil, or_false] at hk; omega⟩
        | exact HFIN.out _ (three_one (W := W.drew) HX2.out HX3.out HX1.out n23 n12.symm n13.symm).2.2.1 (three_one (W := W.drew) HX2.out HX3.out HX1.out n23 n12.symm n13.symm).1 (three_one (W := W.drew) HX2.out HX3.out HX1.out n23 n12.symm n13.symm).2.1 ⟨_, (three_one (W := W.drew) HX2.out HX3.out HX1.out n23 n12.symm n13.symm).2.2.2, fun k hk => by simp only [List.mem_cons, List.not_mem_nil, or_false] at hk; omega⟩
        | exact HFIN.out _ (three_one (W := W.drew) HX3.out HX1.out HX2.out n13.symm n23.symm n12).2.1 (three_one (W := W.drew) HX3.out HX1.out HX2.out n13.symm n23.symm n12).2.2.1 (three_one (W := W.drew) HX3.out HX1.out HX2.out n13.symm n23.symm n12).1 ⟨_, (three_one (W := W.drew) HX3.out HX1.out HX2.out n13.symm n23.symm n12).2.2.2, fun k hk => by simp only [List.mem_cons, List.not_mem_nil, or_false] at hk; omega⟩
        | exact HFIN.out _ (three_one (W := W.drew) HX3.out HX2.out HX1.out n23.symm n13.symm n12.symm).2.2.1 (three_one (W := W.drew) HX3.out HX2.out HX1.out n23.symm n13.symm n12.symm).2.1 (three_one (W := W.drew) HX3.out HX2.out HX1.out n23.symm n13.symm n12.symm).1 ⟨_, (three_one (W := W.drew) HX3.out HX2.out HX1.out n23.symm n13.symm n12.symm).2.2.2, fun k hk => by simp only [List.mem_cons, List.not_mem_nil, or_false] at hk; omega⟩
    · have HE := Lib.hid (HNO.out (by unfold hitR; rw [hho]; simp [hsp, hkl]))
      rw [decide_eq_false hkl] at hq
      have HQ := Lib.hid hq
      obtain ⟨kl, hkle⟩ : ∃ kl, kk.length = kl := ⟨_, rfl⟩
      obtain ⟨al, hal⟩ : ∃ al, aa.length = al := ⟨_, rfl⟩
      rw [hkle] at HQ d2
      rw [hal] at d3
      clear hho hsp hl1 hl2 hf1 hf2 hq hkl hal hkle
      gi_wp2_with (refine ⟨trivial, ?_⟩; gi_at_call 47; refine (CallsIn.inRound _ (callsIn_wide.2 HQ.out)).mono ?_; rintro e8 Wg ⟨rfl, rfl⟩)
      exact HE.out
 case hdone =>
  intro W hI hKd
  obtain ⟨hI1, hI2⟩ := hI
  have hz3 := HS3.out
  have hzq := HHE.out
  have HANS := Lib.hid (findR_none hI1)
  have x1 := (hI2.block (hh + 1) (by omega)).trans HJ1.out
  have x2 := (hI2.block (hh + 2) (by omega)).trans HJ2.out
  have x3 := (hI2.block (hh + 3) (by omega)).trans HJ3.out
  have z1 := cell_of_one x1
  have z2 := cell_of_one x2
  have z3 := cell_of_one x3
  have y1 := free_of_one x1
  have y2 := free_of_one x2
  have y3 := free_of_one x3
  have HI2 := Lib.hid hI2
  have HKD := Lib.hid hKd
  clear hI1 hI2 x1 x2 x3 hKd
  go_wp2_with fail
  obtain ⟨q1, q2, q3, q4⟩ := three_one (W := W) (va := .string ⟨#[]⟩) (vb := .slice none 0 0) (vc := .bool false) ((HI2.out.block (hh + 1) (by omega)).trans HJ1.out) ((HI2.out.block (hh + 2) (by omega)).trans HJ2.out) ((HI2.out.block (hh + 3) (by omega)).trans HJ3.out) (by omega) (by omega) (by omega)
  have nE : ∀ k, hh + 6 ≤ k → k ∉ [hh + 1, hh + 2, hh + 3] := fun k hk hm => by simp only [List.mem_cons, List.not_mem_nil, or_false] at hm; omega
  refine ⟨by simp, .inl ⟨_, _, rfl, run_takeDeferred ((q4.same _ (lt_of_block HKD.out) (nE _ (by omega))).trans HKD.out), ?_⟩⟩
  refine ⟨_, results_find _ _ (hh + 1) (hh + 2) (hh + 3) _ _ _ rfl rfl rfl (cell_of_one ((World.putObj_heap_other (by omega)).trans q1)) (cell_of_one ((World.putObj_heap_other (by omega)).trans q2)) (cell_of_one ((World.putObj_heap_other (by omega)).trans q3)), ?_⟩
  refine ⟨by unfold FindAns; rw [HANS.out], ?_⟩
  have h3 := HB3.out
  have h4 := HI2.out.size
  rw [HHE.out] at h3 ⊢
  exact h3.trans ((HI2.out.mono (by omega)).trans ((q4.toBelow (fun k hk => by simp only [List.mem_cons, List.not_mem_nil, or_false] at hk; omega) (by omega)).trans ((chg_putObjIt _ W3.heap.size (.deferred none)).toBelow (fun k hk => by simp only [List.mem_cons, List.not_mem_nil, or_false] at hk; omega) (by have := q4.size; omega))))
 case hstop =>
  rintro E cc pre W hE hpre ⟨rfl, p, t, a, A', c', e, h1, h2, h3, h4, h5, h6, h7, h8⟩ hKd
  subst e
  have hz3 := HS3.out
  have hzq := HHE.out
  have HANS := Lib.hid (findR_some hpre h1 h2)
  gi_wp2
  refine ⟨by simp, .inl ⟨_, _, rfl, run_takeDeferred hKd, ?_⟩⟩
  refine ⟨_, results_find _ _ (hh + 1) (hh + 2) (hh + 3) _ _ _ rfl rfl rfl (cell_of_one ((World.putObj_heap_other (by omega)).trans h3)) (cell_of_one ((World.putObj_heap_other (by omega)).trans h4)) (cell_of_one ((World.putObj_heap_other (by omega)).trans h5)), ?_⟩
  have hcp := chg_putObjIt W W3.heap.size (.deferred none)
  refine ⟨?_, ?_⟩
  · unfold FindAns
    rw [HANS.out]
    exact ⟨A', c', rfl, h6.chg hcp (fun k hk hm => by have := h7 k hk; simp only [List.mem_cons, List.not_mem_nil, or_false] at hm; omega), fun k hk => by have := h7 k hk; omega⟩
  · rw [HHE.out]
    exact h8.trans (hcp.toBelow (fun k hk => by simp only [List.mem_cons, List.not_mem_nil, or_false] at hk; omega) (by have := h8.size; omega))
def freeR (r : RD) (l : List Nat) (dn s : Nat) : Bool := (holdR r (fileB l dn s)).isNone
def roomR (r : RD) (l : List Nat) (dn : Nat) : Option Nat := (List.range 8).find? fun s => freeR r l dn s
theorem roomR_none {r : RD} {l : List Nat} {dn : Nat} (h : ∀ t ∈ List.range 8, freeR r l dn t = false) : roomR r l dn = none := by
 unfold roomR
 rw [List.find?_eq_none]
 intro t ht
 rw [h t ht]
 exact Bool.false_ne_true
theorem roomR_some {r : RD} {l : List Nat} {dn s : Nat} {pre : List Nat} (hp : pre ++ [s] <+: List.range 8) (h : ∀ t ∈ pre, freeR r l dn t = false) (hs : freeR r l dn s = true) : roomR r l dn = some s := by
 obtain ⟨t, ht⟩ := hp
 unfold roomR
 rw [← ht, List.append_assoc, List.find?_append]
 have h0 : (pre.find? fun s => freeR r l dn s) = none := by
  rw [List.find?_eq_none]
  intro t ht
  rw [h t ht]
  exact Bool.false_ne_true
 rw [h0]
 simp [hs]
def RoomAns (r : RD) (l : List Nat) (dn : Nat) (e : Ending) : Prop :=
 match roomR r l dn with
 | none => e = .returned (.tuple #[.string ⟨#[]⟩, .bool false])
 | some s => e = .returned (.tuple #[.string (fileB l dn s), .bool true])
theorem results_room (tmps : Array Value) (w : World) (g h : Nat) (v u : Value) (hp : tmps.getD 4 undef = .pointer (some ⟨g, 0, none⟩)) (hq : tmps.getD 5 undef = .pointer (some ⟨h, 0, none⟩)) (hv : w.cell? ⟨g, 0, none⟩ = some v) (hu : w.cell? ⟨h, 0, none⟩ = some u) : (results Tryz.f34 tmps).run Tryz.prog w = .ok (.tuple #[v, u]) w := by
 have hp' : tmps[4]?.getD undef = .pointer (some ⟨g, 0, none⟩) := by simpa using hp
 have hq' : tmps[5]?.getD undef = .pointer (some ⟨h, 0, none⟩) := by simpa using hq
 simp [results, Tryz.results34, hp', hq', asAddr, go_sem, hv, hu]
def RoomI (r : RD) (l : List Nat) (dn : Nat) (W3 : World) (pre : List Nat) (W : World) : Prop := (∀ t ∈ pre, freeR r l dn t = false) ∧ Below W3.heap.size W3 W
def RoomX (r : RD) (l : List Nat) (dn : Nat) (w : World) (hh E : Nat) (cc : Code) (pre : List Nat) (W : World) : Prop :=
 cc = Code.ret ∧ ∃ p s, pre = p ++ [s] ∧ (∀ t ∈ p, freeR r l dn t = false) ∧ freeR r l dn s = true ∧ W.heap[hh]? = some (.cells #[.string (fileB l dn s)] 9 (0, 0)) ∧ W.heap[hh + 1]? = some (.cells #[.bool true] 4 (0, 0)) ∧ Below hh w W
def AsgR (s hh : Nat) (A : Option Addr) (n c : Nat) (args : Array Value) (W : World) (a1 : Act) (W' : World) : Prop :=
 ∃ x f b k kn kc u un uc, args = #[.string x, .agg #[.bool f, .bool b, .slice k kn kc, .slice u un uc]] ∧ W' = W.alloc (.cells #[.bool f, .bool b, .slice k kn kc, .slice u un uc] 125) ∧
  a1 = { tmps := #[.pointer (some ⟨s, 0, none⟩), .slice A n c, undef, undef, .pointer (some ⟨hh, 0, none⟩), .pointer (some ⟨hh + 1, 0, none⟩), .string x, .pointer (some ⟨W.heap.size, 0, none⟩), .pointer (some ⟨s, 0, none⟩), .slice A n c, .func (.func 85) #[] #[.pointer (some ⟨hh + 2, 0, none⟩), .pointer (some ⟨hh + 3, 0, none⟩)], .string x, .agg #[.bool f, .bool b, .slice k kn kc, .slice u un uc], undef, undef, undef], defers := [] }
theorem two_one {W : World} {a b : Nat} {ua ub va vb : Value} {Ta Tb : TypeId} (ha : W.heap[a]? = some (.cells #[ua] Ta (0, 0))) (hb : W.heap[b]? = some (.cells #[ub] Tb (0, 0))) (hab : a ≠ b) :
 ((W.setCell ⟨a, 0, none⟩ va).setCell ⟨b, 0, none⟩ vb).heap[a]? = some (.cells #[va] Ta (0, 0)) ∧ ((W.setCell ⟨a, 0, none⟩ va).setCell ⟨b, 0, none⟩ vb).heap[b]? = some (.cells #[vb] Tb (0, 0)) ∧ Chg [a, b] W ((W.setCell ⟨a, 0, none⟩ va).setCell ⟨b, 0, none⟩ vb) := by
 have c3 := ((Chg.refl [a, b] W).setCell a 0 va (.inl (by simp))).setCell b 0 vb (.inl (by simp))
 have n1 : (W.setCell ⟨a, 0, none⟩ va).heap[a]? = some (.cells #[va] Ta (0, 0)) := one_setCell ha
 have m1 : Chg [a] W (W.setCell ⟨a, 0, none⟩ va) := (Chg.refl _ _).setCell a 0 va (.inl (by simp))
 have hb1 := (m1.same b (lt_of_block hb) (by simp; omega)).trans hb
 have n2 : ((W.setCell ⟨a, 0, none⟩ va).setCell ⟨b, 0, none⟩ vb).heap[b]? = some (.cells #[vb] Tb (0, 0)) := one_setCell hb1
 have m2 : Chg [b] _ ((W.setCell ⟨a, 0, none⟩ va).setCell ⟨b, 0, none⟩ vb) := (Chg.refl _ _).setCell b 0 vb (.inl (by simp))
 exact ⟨(m2.same a (lt_of_block n1) (by simp; omega)).trans n1, n2, c3⟩
set_option maxHeartbeats 3200000 in
theorem room_any (w : World) (s d dn : Nat) (own : Nat → Nat) (r : RD) (A : Option Addr) (n c : Nat) (l : List Nat) (hS : SBox w s d dn) (hD : IsD w d own r) (hsm : SmallD r) (hdn : dn ≤ 64) (hK : KeyAt w A n c l) (hR : RootsOk w) :
 Calls Tryz.prog 34 #[.pointer (some ⟨s, 0, none⟩), .slice A n c] w fun e w' => RoomAns r l dn e ∧ Below w.heap.size w w' := by
 refine (callsIn_wide (n := 8)).1 ?_
 refine callsIn_of_wp_marks Tryz.func34 rfl trivial ?_ rfl
 simp only [Tryz.ntmps34, List.size_toArray, List.length_cons, List.length_nil, Nat.reduceAdd, Nat.reduceSub, Array.replicate_succ, Array.replicate_zero, List.push_toArray, List.append_toArray, List.nil_append, List.cons_append]
 refine wpIn_wide.2 ?_
 obtain ⟨hh, hhe⟩ : ∃ hh, w.heap.size = hh := ⟨_, rfl⟩
 obtain ⟨W2, hW2⟩ : ∃ W2, (w.alloc (.cells #[.string ⟨#[]⟩] 9)).alloc (.cells #[.bool false] 4) = W2 := ⟨_, rfl⟩
 have hbw2 : Below w.heap.size w W2 := by rw [← hW2]; exact (two_new w _ _).2.2
 have hs2 : W2.heap.size = hh + 2 := by rw [← hW2, ← hhe]; simp
 have k0 : W2.heap[hh]? = some (.cells #[.string ⟨#[]⟩] 9 (0, 0)) := by rw [← hW2, ← hhe]; exact (two_new w _ _).2.1
 have k1 : W2.heap[hh + 1]? = some (.cells #[.bool false] 4 (0, 0)) := by rw [← hW2, ← hhe]; exact (two_new w _ _).1
 have HK0 := Lib.hid k0
 have HK1 := Lib.hid k1
 have HB2 := Lib.hid hbw2
 have HHE := Lib.hid hhe
 have HS2 := Lib.hid hs2
 have HS := Lib.hid hS
 have HD := Lib.hid hD
 have HKY := Lib.hid hK
 have HRO := Lib.hid hR
 clear k0 k1 hs2 hbw2 hS hD hK hR
 go_wp2_with fail
 refine (slots_any _ (some ⟨s, 0, none⟩) A n c).mono ?_
 rintro e9 w9 ⟨rfl, rfl⟩
 obtain ⟨W3, hW3⟩ : ∃ W3, (W2.alloc (.cells #[.pointer (some ⟨s, 0, none⟩)] 30)).alloc (.cells #[.slice A n c] 40) = W3 := ⟨_, rfl⟩
 have hs2 := HS2.out
 have hb3 : Below W2.heap.size W2 W3 := by rw [← hW3]; exact (two_new W2 _ _).2.2
 have hs3 : W3.heap.size = hh + 4 := by rw [← hW3]; simp [hs2]
 have k4 : W3.heap[hh + 2]? = some (.cells #[.pointer (some ⟨s, 0, none⟩)] 30 (0, 0)) := by rw [← hW3, ← hs2]; exact (two_new W2 _ _).2.1
 have k5 : W3.heap[hh + 3]? = some (.cells #[.slice A n c] 40 (0, 0)) := by rw [← hW3, show hh + 3 = W2.heap.size + 1 by omega]; exact (two_new W2 _ _).1
 rw [hs2, hW3]
 have HJ0 := Lib.hid ((hb3.block hh (by omega)).trans HK0.out)
 have HJ1 := Lib.hid ((hb3.block (hh + 1) (by omega)).trans HK1.out)
 have HJ4 := Lib.hid k4
 have HJ5 := Lib.hid k5
 have HB3 : Hid (Below w.heap.size w W3) := Lib.hid (HB2.out.trans (hb3.mono HB2.out.size))
 have HS3 := Lib.hid hs3
 clear hW2 hW3 hb3 hs3 k4 k5 HK0 HK1 HB2 HS2 hs2
 have HKEEP : Hid (∀ pre W, RoomI r l dn W3 pre W → KeepS (hh + 2) (hh + 3) s d dn own r A n c l W) := Lib.hid (by
  rintro pre W ⟨_, hb⟩
  have hz := HS3.out
  have hbw := HB3.out.trans (hb.mono HB3.out.size)
  exact ⟨cell_of_one ((hb.block _ (by omega)).trans HJ4.out), cell_of_one ((hb.block _ (by omega)).trans HJ5.out), HKY.out.below hbw, HRO.out.below hbw, HS.out.below hbw, HD.out.below hbw⟩)
 go_wp2_with fail
 refine (wpIn_wide (n := 8)).1 ?_
 refine range_z 8 3 (by decide) 85 #[.pointer (some ⟨hh + 2, 0, none⟩), .pointer (some ⟨hh + 3, 0, none⟩)] (ArgS r l dn) rfl slots_enters ?hps (List.range 8) (KeepS (hh + 2) (hh + 3) s d dn own r A n c l) (fun W1 _ _ => slots1_any W1 (hh + 2) (hh + 3) s d dn own r hsm hdn A n c l) (RoomI r l dn W3) (RoomX r l dn w hh) (AsgR s hh A n c) ?hAsg ?hA ?hAb ?hI ?hIb ?hIx HKEEP.out ?h0 ?hassign ?hbody ?hdone ?hstop
 case hps =>
  rintro E pre x args W ⟨v, rfl, _⟩
  rfl
 case hAsg =>
  rintro args W a1 W' ⟨x, f, b, k, kn, kc, u, un, uc, rfl, rfl, rfl⟩
  exact (Below.refl _ W).alloc (Nat.le_refl _) _
 case hA =>
  rintro E pre x args hE W W' ⟨v, rfl, hv⟩ hc
  exact ⟨v, rfl, hv.chg hc (fun k hk hm => by simp only [List.mem_cons, List.not_mem_nil, or_false] at hm; omega)⟩
 case hAb =>
  rintro E pre x args W W' ⟨v, rfl, hv⟩ hb
  exact ⟨v, rfl, hv.below hb⟩
 case hI =>
  rintro xs D hD W W' ⟨h1, h2⟩ hc
  exact ⟨h1, h2.trans (hc.toBelow (fun k hk => by simp only [List.mem_cons, List.not_mem_nil, or_false] at hk; omega) h2.size)⟩
 case hIb =>
  rintro xs W W' ⟨h1, h2⟩ hb
  exact ⟨h1, h2.trans (hb.mono h2.size)⟩
 case hIx =>
  rintro E cc xs D hD hE W W' ⟨rfl, p, s, e, h1, h2, h3, h4, h8⟩ hc
  have hz := HS3.out
  have hq := HHE.out
  have nE : ∀ k, k < hh + 4 → k ∉ [D, D + 1] := fun k hk hm => by simp only [List.mem_cons, List.not_mem_nil, or_false] at hm; omega
  exact ⟨rfl, p, s, e, h1, h2, (hc.same _ (lt_of_block h3) (nE _ (by omega))).trans h3, (hc.same _ (lt_of_block h4) (nE _ (by omega))).trans h4, h8.trans (hc.toBelow (fun k hk => by simp only [List.mem_cons, List.not_mem_nil, or_false] at hk; omega) (by have := h8.size; omega))⟩
 case h0 =>
  intro W hb
  exact ⟨fun t ht => (by cases ht), hb⟩
 case hassign =>
  rintro E pre x args W K hD1 ⟨v, rfl, hv⟩ hK
  obtain ⟨f, b, k, kn, kc, u, un, uc, rfl⟩ := hv.shape
  have HK := Lib.hid hK
  clear hK hv
  gi_wp2
  exact HK.out _ _ ⟨_, f, b, k, kn, kc, u, un, uc, rfl, rfl, rfl⟩
 case hbody =>
  rintro E pre x args W0 Wa a1 W hE hD1 ⟨xx, f, b, k, kn, kc, u, un, uc, hargs, rfl, rfl⟩ hcq hI hpre ⟨v, hv1, hv⟩
  rw [hargs] at hv1
  obtain ⟨rfl, rfl⟩ : xx = fileB l dn x ∧ v = .agg #[.bool f, .bool b, .slice k kn kc, .slice u un uc] := by
   simp only [Array.mk.injEq, List.cons.injEq, Value.string.injEq, and_true] at hv1
   exact ⟨hv1.1, hv1.2.symm⟩
  obtain ⟨q, hq⟩ : ∃ q, W0.heap.size = q := ⟨_, rfl⟩
  have hz3 := HS3.out
  have hzq := HHE.out
  have hqb : W.heap[q]? = some (.cells #[.bool f, .bool b, .slice k kn kc, .slice u un uc] 125 (0, 0)) := by
   rw [← hq]
   refine (hcq.same _ (by simp) (fun hm => by rw [List.mem_singleton] at hm; omega)).trans (heap_alloc_new W0 _)
  rw [hq]
  obtain ⟨⟨d0, d1, d2, d3⟩, f0, f1, f2, f3⟩ := four_facts hqb
  have hbw := HB3.out.trans (hI.2.mono HB3.out.size)
  have x0 := (hI.2.block hh (by omega)).trans HJ0.out
  have x1 := (hI.2.block (hh + 1) (by omega)).trans HJ1.out
  have HI := Lib.hid hI
  have HPRE := Lib.hid hpre
  have HX0 := Lib.hid x0
  have HX1 := Lib.hid x1
  have HBW := Lib.hid hbw
  have hfr : f = freeR r l dn x := by
   unfold SlotV at hv
   unfold freeR
   cases hho : holdR r (fileB l dn x) with
   | none =>
    rw [hho] at hv
    simp only [Value.agg.injEq, Array.mk.injEq, List.cons.injEq, Value.bool.injEq] at hv
    exact hv.1
   | some bs =>
    rw [hho] at hv
    cases hsp : splitE bs with
    | none =>
     simp only [hsp] at hv
     simp only [Value.agg.injEq, Array.mk.injEq, List.cons.injEq, Value.bool.injEq] at hv
     exact hv.1
    | some ka =>
     simp only [hsp] at hv
     obtain ⟨A1, c1, A2, c2, he, _⟩ := hv
     simp only [Value.agg.injEq, Array.mk.injEq, List.cons.injEq, Value.bool.injEq] at he
     exact he.1
  have HFR := Lib.hid hfr
  clear hargs hv1 hq hqb hbw x0 x1 hI hpre hv hcq hE hfr
  cases f with
  | false =>
   gi_wp2
   exact ⟨⟨Nat.le_refl _, fun _ _ _ => rfl⟩, fun t ht => by
    rcases List.mem_append.1 ht with h1 | h1
    · exact HI.out.1 t h1
    · rw [List.mem_singleton] at h1; rw [h1]; exact HFR.out.symm, HI.out.2⟩
  | true =>
   have y0 := free_of_one HX0.out
   have y1 := free_of_one HX1.out
   have z0 := cell_of_one HX0.out
   have z1 := cell_of_one HX1.out
   gi_wp2
   obtain ⟨q1, q2, q3⟩ := two_one (W := W) (va := .string (fileB l dn x)) (vb := .bool true) HX0.out HX1.out (by omega)
   refine ⟨⟨q3.size, fun k hk1 hk2 => q3.same k hk2 (fun hm => by simp only [List.mem_cons, List.not_mem_nil, or_false] at hm; omega)⟩, rfl, pre, x, rfl, HI.out.1, HFR.out.symm, q1, q2, ?_⟩
   rw [← HHE.out] at q3 ⊢
   exact HBW.out.trans (q3.toBelow (fun k hk => by simp only [List.mem_cons, List.not_mem_nil, or_false] at hk; omega) HBW.out.size)
 case hdone =>
  intro W hI hKd
  obtain ⟨hI1, hI2⟩ := hI
  have hz3 := HS3.out
  have hzq := HHE.out
  have HANS := Lib.hid (roomR_none hI1)
  have x0 := (hI2.block hh (by omega)).trans HJ0.out
  have x1 := (hI2.block (hh + 1) (by omega)).trans HJ1.out
  have z0 := cell_of_one x0
  have z1 := cell_of_one x1
  have y0 := free_of_one x0
  have y1 := free_of_one x1
  have HI2 := Lib.hid hI2
  have HKD := Lib.hid hKd
  clear hI1 hI2 x0 x1 hKd
  go_wp2_with fail
  obtain ⟨q1, q2, q4⟩ := two_one (W := W) (va := .string ⟨#[]⟩) (vb := .bool false) ((HI2.out.block hh (by omega)).trans HJ0.out) ((HI2.out.block (hh + 1) (by omega)).trans HJ1.out) (by omega)
  have nE : ∀ k, hh + 4 ≤ k → k ∉ [hh, hh + 1] := fun k hk hm => by simp only [List.mem_cons, List.not_mem_nil, or_false] at hm; omega
  refine ⟨by simp, .inl ⟨_, _, rfl, run_takeDeferred ((q4.same _ (lt_of_block HKD.out) (nE _ (by omega))).trans HKD.out), ?_⟩⟩
  refine ⟨_, results_room _ _ hh (hh + 1) _ _ rfl rfl (cell_of_one ((World.putObj_heap_other (by omega)).trans q1)) (cell_of_one ((World.putObj_heap_other (by omega)).trans q2)), ?_⟩
  refine ⟨by unfold RoomAns; rw [HANS.out], ?_⟩
  have h3 := HB3.out
  have h4 := HI2.out.size
  rw [HHE.out] at h3 ⊢
  exact h3.trans ((HI2.out.mono (by omega)).trans ((q4.toBelow (fun k hk => by simp only [List.mem_cons, List.not_mem_nil, or_false] at hk; omega) (by omega)).trans ((chg_putObjIt _ W3.heap.size (.deferred none)).toBelow (fun k hk => by simp only [List.mem_cons, List.not_mem_nil, or_false] at hk; omega) (by have := q4.size; omega))))
 case hstop =>
  rintro E cc pre W hE hpre ⟨rfl, p, t, e, h1, h2, h3, h4, h8⟩ hKd
  subst e
  have hz3 := HS3.out
  have hzq := HHE.out
  have HANS := Lib.hid (roomR_some hpre h1 h2)
  gi_wp2
  refine ⟨by simp, .inl ⟨_, _, rfl, run_takeDeferred hKd, ?_⟩⟩
  refine ⟨_, results_room _ _ hh (hh + 1) _ _ rfl rfl (cell_of_one ((World.putObj_heap_other (by omega)).trans h3)) (cell_of_one ((World.putObj_heap_other (by omega)).trans h4)), ?_⟩
  have hcp := chg_putObjIt W W3.heap.size (.deferred none)
  refine ⟨by unfold RoomAns; rw [HANS.out], ?_⟩
  rw [HHE.out]
  exact h8.trans (hcp.toBelow (fun k hk => by simp only [List.mem_cons, List.not_mem_nil, or_false] at hk; omega) (by have := h8.size; omega))
def namedB (x : ByteArray) : Bool := Lib.hasPrefix x.data.toList [99, 45]
theorem named_any (x : ByteArray) (w : World) : Calls Tryz.prog 58 #[.string x] w fun e w' => e = .returned (.bool (namedB x)) ∧ w = w' := by
 have HP := Lib.hid ((Tryz.strings_HasPrefix x ⟨#[99, 45]⟩ w).mono fun _ _ h => And.intro h.1 h.2.symm)
 rw [show Lib.hasPrefix x.data.toList (ByteArray.mk #[99, 45]).data.toList = namedB x from rfl] at HP
 go_enter Tryz.func58, Tryz.ntmps58
 go_wp2_with ((with_reducible refine HP.out.mono ?_); rintro e w1 ⟨rfl, rfl⟩)
 go_ret
 exact ⟨rfl, rfl⟩
def soundN (x : ByteArray) (b : List Nat) (dn : Nat) : Option (List Nat) :=
 if namedB x = true then (match splitE b with
  | some (k, _) => if (List.range 8).any (fun s => decide (fileB k dn s = x)) = true then some k else none
  | none => none) else none
def SoundAns (x : ByteArray) (b : List Nat) (dn B : Nat) (e : Ending) (W : World) : Prop :=
 match soundN x b dn with
 | none => e = .returned (.tuple #[.slice none 0 0, .bool false])
 | some k => ∃ A' c', e = .returned (.tuple #[.slice A' k.length c', .bool true]) ∧ BLine W A' k.length c' k ∧ ∀ j ∈ blk A', B ≤ j
theorem results_sound (tmps : Array Value) (w : World) (g h : Nat) (v u : Value) (hp : tmps.getD 6 undef = .pointer (some ⟨g, 0, none⟩)) (hq : tmps.getD 7 undef = .pointer (some ⟨h, 0, none⟩)) (hv : w.cell? ⟨g, 0, none⟩ = some v) (hu : w.cell? ⟨h, 0, none⟩ = some u) : (results Tryz.f57 tmps).run Tryz.prog w = .ok (.tuple #[v, u]) w := by
 have hp' : tmps[6]?.getD undef = .pointer (some ⟨g, 0, none⟩) := by simpa using hp
 have hq' : tmps[7]?.getD undef = .pointer (some ⟨h, 0, none⟩) := by simpa using hq
 simp [results, Tryz.results57, hp', hq', asAddr, go_sem, hv, hu]
def SndI (k : List Nat) (dn : Nat) (x : ByteArray) (W5 : World) (pre : List Nat) (W : World) : Prop := (∀ t ∈ pre, fileB k dn t ≠ x) ∧ Below W5.heap.size W5 W
def SndX (k : List Nat) (dn : Nat) (x : ByteArray) (w : World) (hh : Nat) (A1 : Option Addr) (c1 : Nat) (cc : Code) (pre : List Nat) (W : World) : Prop :=
 cc = Code.ret ∧ (∃ t ∈ pre, fileB k dn t = x) ∧ W.heap[hh + 1]? = some (.cells #[.slice A1 k.length c1] 40 (0, 0)) ∧ W.heap[hh + 2]? = some (.cells #[.bool true] 4 (0, 0)) ∧ BLine W A1 k.length c1 k ∧ Below hh w W
set_option maxHeartbeats 3200000 in
theorem sound_any (w : World) (x : ByteArray) (A : Option Addr) (n c : Nat) (b : List Nat) (dn : Nat) (hdn : dn ≤ 64) (hR : RootsOk w) (hn : n ≤ 90000) (hnc : n ≤ c) (hcm : c ≤ 9223372036854775807) (hB : RowN w A n b) :
 Calls Tryz.prog 57 #[.string x, .slice A n c, .int .i64 (dn : Int)] w fun e w' => SoundAns x b dn w.heap.size e w' ∧ Below w.heap.size w w' := by
 refine (callsIn_wide (n := 8)).1 ?_
 refine callsIn_of_wp_marks Tryz.func57 rfl trivial ?_ rfl
 simp only [Tryz.ntmps57, List.size_toArray, List.length_cons, List.length_nil, Nat.reduceAdd, Nat.reduceSub, Array.replicate_succ, Array.replicate_zero, List.push_toArray, List.append_toArray, List.nil_append, List.cons_append]
 refine wpIn_wide.2 ?_
 obtain ⟨hh, hhe⟩ : ∃ hh, w.heap.size = hh := ⟨_, rfl⟩
 obtain ⟨W2, hW2⟩ : ∃ W2, ((w.alloc (.cells #[.string x] 9)).alloc (.cells #[.slice none 0 0] 40)).alloc (.cells #[.bool false] 4) = W2 := ⟨_, rfl⟩
 have hWW := hW2
 have hb1 : Below w.heap.size w (w.alloc (.cells #[.string x] 9)) := (Below.refl _ w).alloc (Nat.le_refl _) _
 have hs1 : (w.alloc (.cells #[.string x] 9)).heap.size = hh + 1 := by rw [← hhe]; simp
 have k0 : (w.alloc (.cells #[.string x] 9)).heap[hh]? = some (.cells #[.string x] 9 (0, 0)) := by rw [← hhe]; exact heap_alloc_new w _
 generalize w.alloc (.cells #[.string x] 9) = W1 at hb1 hs1 k0 hW2
 have hb2 : Below W1.heap.size W1 W2 := by rw [← hW2]; exact (two_new W1 _ _).2.2
 have hs2 : W2.heap.size = hh + 3 := by rw [← hW2]; simp [hs1]
 have k1 : W2.heap[hh + 1]? = some (.cells #[.slice none 0 0] 40 (0, 0)) := by rw [← hW2, ← hs1]; exact (two_new W1 _ _).2.1
 have k2 : W2.heap[hh + 2]? = some (.cells #[.bool false] 4 (0, 0)) := by rw [← hW2, show hh + 2 = W1.heap.size + 1 by omega]; exact (two_new W1 _ _).1
 have k0 := (hb2.block hh (by omega)).trans k0
 have hbw2 : Below w.heap.size w W2 := hb1.trans (hb2.mono hb1.size)
 have y0 := cell_of_one k0
 have HK0 := Lib.hid k0
 have HK1 := Lib.hid k1
 have HK2 := Lib.hid k2
 have HB2 := Lib.hid hbw2
 have HHE := Lib.hid hhe
 have HS2 := Lib.hid hs2
 have HN := Lib.hid (named_any x W2)
 have HP := Lib.hid (split_any W2 A n c b hn hnc hcm (hB.below hbw2))
 have HRO := Lib.hid (hR.below hbw2)
 have hB0 := Lib.hid hB
 -- an answer of none, from a world further on
 have hno : soundN x b dn = none → ∀ W, Below W2.heap.size W2 W → ∀ (tmps : Array Value) , tmps.getD 6 undef = .pointer (some ⟨hh + 1, 0, none⟩) → tmps.getD 7 undef = .pointer (some ⟨hh + 2, 0, none⟩) → ∃ v, (results Tryz.f57 tmps).run Tryz.prog ((W.setCell ⟨hh + 1, 0, none⟩ (.slice none 0 0)).setCell ⟨hh + 2, 0, none⟩ (.bool false)) = .ok v ((W.setCell ⟨hh + 1, 0, none⟩ (.slice none 0 0)).setCell ⟨hh + 2, 0, none⟩ (.bool false)) ∧ SoundAns x b dn w.heap.size (.returned v) ((W.setCell ⟨hh + 1, 0, none⟩ (.slice none 0 0)).setCell ⟨hh + 2, 0, none⟩ (.bool false)) ∧ Below w.heap.size w ((W.setCell ⟨hh + 1, 0, none⟩ (.slice none 0 0)).setCell ⟨hh + 2, 0, none⟩ (.bool false)) := fun hs W hb tmps h6 h7 => by
  obtain ⟨q1, q2, q3⟩ := two_one (W := W) (va := .slice none 0 0) (vb := .bool false) ((hb.block (hh + 1) (by omega)).trans k1) ((hb.block (hh + 2) (by omega)).trans k2) (by omega)
  refine ⟨_, results_sound tmps _ (hh + 1) (hh + 2) _ _ h6 h7 (cell_of_one q1) (cell_of_one q2), by unfold SoundAns; rw [hs], ?_⟩
  have hbw := hbw2.trans (hb.mono hbw2.size)
  exact hbw.trans (q3.toBelow (fun k hk => by simp only [List.mem_cons, List.not_mem_nil, or_false] at hk; omega) hbw.size)
 have HNO := Lib.hid hno
 have k1' := cell_of_one k1
 have k2' := cell_of_one k2
 have f1' := free_of_one k1
 have f2' := free_of_one k2
 cases hnm : namedB x with
 | false =>
  rw [hnm] at HN
  have HS := Lib.hid (show soundN x b dn = none by unfold soundN; rw [hnm]; rfl)
  clear hb1 hs1 k0 k1 k2 hb2 hs2 hbw2 hno hR hB
  go_wp2_with ((with_reducible refine HN.out.mono ?_); rintro e w1 ⟨rfl, rfl⟩)
  exact HNO.out HS.out W2 (Below.refl _ _) _ rfl rfl
 | true =>
  rw [hnm] at HN
  clear hb1 hs1 k0 k1 k2 hb2 hs2 hbw2 hno hR hB
  go_wp2_with (first
   | ((with_reducible refine HN.out.mono ?_); rintro e w1 ⟨rfl, rfl⟩)
   | fail)
  refine HP.out.mono ?_
  rintro e w3 ⟨hans, hb3⟩
  clear y0 k1' k2' f1' f2' hWW hW2
  have hs2 := HS2.out
  have hz3 := hb3.size
  obtain ⟨q, hq⟩ : ∃ q, w3.heap.size = q := ⟨_, rfl⟩
  cases hsp : splitE b with
  | none =>
   have HS := Lib.hid (show soundN x b dn = none by unfold soundN; rw [hnm, if_pos rfl, hsp])
   unfold SplitAns at hans
   rw [hsp] at hans
   simp only at hans
   subst hans
   obtain ⟨W4, hW4⟩ : ∃ W4, w3.alloc (.cells #[.slice none 0 0] 40) = W4 := ⟨_, rfl⟩
   have hb4 : Below w3.heap.size w3 W4 := by rw [← hW4]; exact (Below.refl _ w3).alloc (Nat.le_refl _) _
   have hb24 := hb3.trans (hb4.mono hb3.size)
   have k1 := (hb24.block (hh + 1) (by omega)).trans HK1.out
   have k2 := (hb24.block (hh + 2) (by omega)).trans HK2.out
   have k8 : W4.heap[q]? = some (.cells #[.slice none 0 0] 40 (0, 0)) := by rw [← hW4, ← hq]; exact heap_alloc_new w3 _
   have x1 := cell_of_one k1
   have x2 := cell_of_one k2
   have x8 := cell_of_one k8
   have f1 := free_of_one k1
   have f2 := free_of_one k2
   have f8 := free_of_one k8
   have hsc : W4.setCell ⟨q, 0, none⟩ (.slice none 0 0) = W4 := setCell_keep k8 rfl
   have HB24 := Lib.hid hb24
   clear hb4 hb24 k1 k2 hb3 k8
   go_wp2
   exact HNO.out HS.out W4 HB24.out _ rfl rfl
  | some ka =>
   obtain ⟨k, a⟩ := ka
   unfold SplitAns at hans
   rw [hsp] at hans
   simp only at hans
   obtain ⟨A1, c1, A2, c2, rfl, hl1, hl2, hf1, hf2⟩ := hans
   obtain ⟨W4, hW4⟩ : ∃ W4, w3.alloc (.cells #[.slice A1 k.length c1] 40) = W4 := ⟨_, rfl⟩
   have hb4 : Below w3.heap.size w3 W4 := by rw [← hW4]; exact (Below.refl _ w3).alloc (Nat.le_refl _) _
   have hb24 := hb3.trans (hb4.mono hb3.size)
   have hs4 : W4.heap.size = q + 1 := by rw [← hW4, ← hq]; simp
   have k0 := (hb24.block hh (by omega)).trans HK0.out
   have k3 : W4.heap[q]? = some (.cells #[.slice A1 k.length c1] 40 (0, 0)) := by rw [← hW4, ← hq]; exact heap_alloc_new w3 _
   have x3 := cell_of_one k3
   have hkl := (split_some (hB0.out.bytes) hsp).2.2.2.1
   have HL := Lib.hid (And.intro (hl1.below hb4) hf1)
   have HK3 := Lib.hid k3
   have HB24 := Lib.hid hb24
   have HQ := Lib.hid hq
   have HS4 := Lib.hid hs4
   obtain ⟨kl, hkle⟩ : ∃ kl, k.length = kl := ⟨_, rfl⟩
   have HKL := Lib.hid hkle
   clear hl1 hl2 hf1 hf2 hb4 hb24 k0 k3 hb3 hs4
   rw [hkle] at hW4 x3
   rw [hkle]
   go_wp2_with fail
   refine (filesOf_any W4 A1 kl c1 (dn : Int)).mono ?_
   rintro e9 w9 ⟨rfl, rfl⟩
   have hs4 := HS4.out
   obtain ⟨W5, hW5⟩ : ∃ W5, (W4.alloc (.cells #[.slice A1 kl c1] 40)).alloc (.cells #[.int .i64 (dn : Int)] 3) = W5 := ⟨_, rfl⟩
   have hb5 : Below W4.heap.size W4 W5 := by rw [← hW5]; exact (two_new W4 _ _).2.2
   have hs5 : W5.heap.size = q + 3 := by rw [← hW5]; simp [hs4]
   have k4 : W5.heap[q + 1]? = some (.cells #[.slice A1 kl c1] 40 (0, 0)) := by rw [← hW5, ← hs4]; exact (two_new W4 _ _).2.1
   have k5 : W5.heap[q + 2]? = some (.cells #[.int .i64 (dn : Int)] 3 (0, 0)) := by rw [← hW5, show q + 2 = W4.heap.size + 1 by omega]; exact (two_new W4 _ _).1
   rw [hs4, hW5]
   have hb25 := HB24.out.trans (hb5.mono HB24.out.size)
   have HJ0 := Lib.hid ((hb25.block hh (by omega)).trans HK0.out)
   have HJ1 := Lib.hid ((hb25.block (hh + 1) (by omega)).trans HK1.out)
   have HJ2 := Lib.hid ((hb25.block (hh + 2) (by omega)).trans HK2.out)
   have HJ3 := Lib.hid ((hb5.block q (by omega)).trans HK3.out)
   have HJ4 := Lib.hid k4
   have HJ5 := Lib.hid k5
   have HB25 := Lib.hid hb25
   have HS5 := Lib.hid hs5
   have HL5 := Lib.hid (HL.out.1.below hb5)
   have HKEEP : Hid (∀ pre W, SndI k dn x W5 pre W → KeepK (q + 1) (q + 2) A1 kl c1 k dn W) := Lib.hid (by
    rintro pre W ⟨_, hb⟩
    have hz := HS5.out
    have hbw := HB25.out.trans (hb.mono HB25.out.size)
    have hl6 := HL5.out.below hb
    rw [HKL.out] at hl6
    exact ⟨cell_of_one ((hb.block _ (by omega)).trans HJ4.out), cell_of_one ((hb.block _ (by omega)).trans HJ5.out), hl6.keyAt (by have := HKL.out; omega), HRO.out.below hbw⟩)
   have hq2 : hh + 3 ≤ q := by have := HQ.out; omega
   clear hW4 hW5 hb5 hs5 k4 k5 hb25 HK0 HK1 HK2 HK3 hs4 x3
   go_wp2_with fail
   refine (wpIn_wide (n := 8)).1 ?_
   refine range_k 8 1 (by decide) 101 #[.pointer (some ⟨q + 1, 0, none⟩), .pointer (some ⟨q + 2, 0, none⟩)] (arK k dn) rfl filesOf_enters (fun _ => rfl) (List.range 8) (KeepK (q + 1) (q + 2) A1 kl c1 k dn) (fun W1 _ => filesOf1_any W1 (q + 1) (q + 2) A1 kl c1 k dn hdn) (SndI k dn x W5) (SndX k dn x w hh A1 c1) ?hI ?hIx HKEEP.out ?h0 ?hab ?hdone ?hstop
   case hI =>
    rintro xs W W' ⟨h1, h2⟩ hc
    exact ⟨h1, h2.trans (hc.toBelow (fun k hk => by simp only [List.mem_cons, List.not_mem_nil, or_false] at hk; omega) h2.size)⟩
   case hIx =>
    rintro cc xs W W' ⟨rfl, h1, h2, h3, h4, h5⟩ hc
    have hz := HS5.out
    have nE : ∀ j, j < q + 3 → j ∉ [W5.heap.size, W5.heap.size + 1] := fun j hj hm => by simp only [List.mem_cons, List.not_mem_nil, or_false] at hm; omega
    refine ⟨rfl, h1, (hc.same _ (lt_of_block h2) (nE _ (by omega))).trans h2, (hc.same _ (lt_of_block h3) (nE _ (by omega))).trans h3, h4.chg hc (fun j hj => nE j ?_), h5.trans (hc.toBelow (fun k hk => by simp only [List.mem_cons, List.not_mem_nil, or_false] at hk; omega) (by have := h5.size; omega))⟩
    have := HL5.out.2.lt j hj
    omega
   case h0 =>
    intro W hb
    exact ⟨fun t ht => (by cases ht), hb⟩
   case hab =>
    apply Exists.intro
    refine ⟨?hassign, ?hbody⟩
    case hassign =>
     intro t W K hK
     unfold arK
     gi_wp2
     exact hK
    case hbody =>
     intro pre t Wr hD1 hI hpre
     obtain ⟨hI1, hI2⟩ := hI
     have hz := HS5.out
     have x0 := cell_of_one ((hI2.block hh (by omega)).trans HJ0.out)
     have k1 := (hI2.block (hh + 1) (by omega)).trans HJ1.out
     have k2 := (hI2.block (hh + 2) (by omega)).trans HJ2.out
     have x3 := cell_of_one ((hI2.block q (by omega)).trans HJ3.out)
     have x1 := cell_of_one k1
     have x2 := cell_of_one k2
     have f1 := free_of_one k1
     have f2 := free_of_one k2
     have hbq := beq_bytes (a := fileB k dn t) (b := x)
     have HI := Lib.hid (And.intro hI1 hI2)
     have HX1 := Lib.hid k1
     have HX2 := Lib.hid k2
     rw [HKL.out] at x3
     by_cases he : fileB k dn t = x
     · rw [decide_eq_true he] at hbq
       have HE := Lib.hid he
       clear hI1 hI2 k1 k2 he hpre
       gi_wp2
       obtain ⟨q1, q2, q3⟩ := two_one (W := Wr) (va := .slice A1 kl c1) (vb := .bool true) HX1.out HX2.out (by omega)
       have nE : ∀ j, hh + 3 ≤ j → j ∉ [hh + 1, hh + 2] := fun j hj hm => by simp only [List.mem_cons, List.not_mem_nil, or_false] at hm; omega
       refine ⟨⟨q3.size, q3.same _ (by omega) (nE _ (by omega)), q3.same _ (by omega) (nE _ (by omega))⟩, rfl, ⟨t, by simp, HE.out⟩, by rw [HKL.out]; exact q1, q2, ?_, ?_⟩
       · refine (HL5.out.below HI.out.2).chg q3 (fun j hj => nE j ?_)
         have h7 := HL.out.2 j hj
         have h8 := HS2.out
         omega
       · have hbw := HB2.out.trans ((HB25.out.trans (HI.out.2.mono HB25.out.size)).mono HB2.out.size)
         rw [← HHE.out] at q3 ⊢
         exact hbw.trans (q3.toBelow (fun k hk => by simp only [List.mem_cons, List.not_mem_nil, or_false] at hk; omega) hbw.size)
     · rw [decide_eq_false he] at hbq
       have HE := Lib.hid he
       clear hI1 hI2 k1 k2 he hpre
       gi_wp2
       exact ⟨⟨Nat.le_refl _, rfl, rfl⟩, fun t2 ht2 => by
        rcases List.mem_append.1 ht2 with h1 | h1
        · exact HI.out.1 t2 h1
        · rw [List.mem_singleton] at h1; rw [h1]; exact HE.out, HI.out.2⟩
   case hdone =>
    intro W hI hKd
    obtain ⟨hI1, hI2⟩ := hI
    have hz := HS5.out
    have HS := Lib.hid (show soundN x b dn = none by
     unfold soundN
     rw [hnm, if_pos rfl, hsp]
     show (if _ then _ else _) = _
     rw [if_neg]
     intro h
     obtain ⟨t, ht, he⟩ := List.any_eq_true.1 h
     exact hI1 t ht (of_decide_eq_true he))
    have k1 := (hI2.block (hh + 1) (by omega)).trans HJ1.out
    have k2 := (hI2.block (hh + 2) (by omega)).trans HJ2.out
    have x1 := cell_of_one k1
    have x2 := cell_of_one k2
    have f1 := free_of_one k1
    have f2 := free_of_one k2
    have HI2 := Lib.hid hI2
    have HKD := Lib.hid hKd
    have HX1 := Lib.hid k1
    have HX2 := Lib.hid k2
    clear hI1 hI2 k1 k2 hKd
    go_wp2_with fail
    obtain ⟨q1, q2, q4⟩ := two_one (W := W) (va := .slice none 0 0) (vb := .bool false) HX1.out HX2.out (by omega)
    have nE : ∀ j, hh + 3 ≤ j → j ∉ [hh + 1, hh + 2] := fun j hj hm => by simp only [List.mem_cons, List.not_mem_nil, or_false] at hm; omega
    refine ⟨by simp, .inl ⟨_, _, rfl, run_takeDeferred ((q4.same _ (lt_of_block HKD.out) (nE _ (by omega))).trans HKD.out), ?_⟩⟩
    refine ⟨_, results_sound _ _ (hh + 1) (hh + 2) _ _ rfl rfl (cell_of_one ((World.putObj_heap_other (by omega)).trans q1)) (cell_of_one ((World.putObj_heap_other (by omega)).trans q2)), ?_⟩
    refine ⟨by unfold SoundAns; rw [HS.out], ?_⟩
    have hbw := HB2.out.trans ((HB25.out.trans (HI2.out.mono HB25.out.size)).mono HB2.out.size)
    rw [HHE.out] at hbw ⊢
    exact hbw.trans ((q4.toBelow (fun k hk => by simp only [List.mem_cons, List.not_mem_nil, or_false] at hk; omega) (by have := hbw.size; have := HHE.out; omega)).trans ((chg_putObjIt _ W5.heap.size (.deferred none)).toBelow (fun k hk => by simp only [List.mem_cons, List.not_mem_nil, or_false] at hk; omega) (by have := q4.size; have := hbw.size; have := HHE.out; omega)))
   case hstop =>
    rintro cc pre W hpre ⟨rfl, ⟨t, ht, he⟩, h2, h3, h4, h5⟩ hKd
    have hz := HS5.out
    have HS := Lib.hid (show soundN x b dn = some k by
     unfold soundN
     rw [hnm, if_pos rfl, hsp]
     show (if _ then _ else _) = _
     rw [if_pos]
     exact List.any_eq_true.2 ⟨t, hpre.subset ht, decide_eq_true he⟩)
    gi_wp2
    refine ⟨by simp, .inl ⟨_, _, rfl, run_takeDeferred hKd, ?_⟩⟩
    refine ⟨_, results_sound _ _ (hh + 1) (hh + 2) _ _ rfl rfl (cell_of_one ((World.putObj_heap_other (by omega)).trans h2)) (cell_of_one ((World.putObj_heap_other (by omega)).trans h3)), ?_⟩
    have hcp := chg_putObjIt W W5.heap.size (.deferred none)
    refine ⟨?_, ?_⟩
    · unfold SoundAns
      rw [HS.out]
      exact ⟨A1, c1, rfl, h4.chg hcp (fun j hj hm => by have := HL5.out.2.lt j hj; simp only [List.mem_cons, List.not_mem_nil, or_false] at hm; omega), fun j hj => by have := HL.out.2 j hj; have := HS2.out; have := HHE.out; omega⟩
    · rw [HHE.out]
      exact h5.trans (hcp.toBelow (fun k hk => by simp only [List.mem_cons, List.not_mem_nil, or_false] at hk; omega) (by have := h5.size; omega))
end Go.Proofs.YtdjnebgjdekmaaaGreatDoor
