/-
  The document's example (lives).
-/
import Derived.Test.YtnjnlcmpfnabiaaGd
namespace Go.Proofs.Ytnjnlcmpfnabiaa
open Go.RowKit Go.Maps
set_option linter.unusedVariables false
set_option maxRecDepth 100000

theorem Only.toBelow {B : Nat} {own own' : Nat → Nat} {w w' : World} (h : Only own w own' w') (h0 : ∀ i, i < B → own i = 0) (hB : B ≤ w.heap.size) : Below B w w' := ⟨h.1.os, h.1.tape, h.1.output, h.1.size, fun k hk => h.2.2 k (by omega) (h0 k hk)⟩
/-- Blocks that there are not yet are nobody's. -/
def Fresh0 (own : Nat → Nat) (W : World) : Prop := ∀ i, W.heap.size ≤ i → own i = 0
/-- A disk with one file, in a world that has gone on from w0. -/
def OneF (B : Nat) (w0 : World) (x : ByteArray) (q : Int) (W : World) (d : Nat) (own : Nat → Nat) (k n s : Nat) (st : Bool) : Prop := Fresh0 own W ∧ (∀ i, i < B → own i = 0) ∧ B ≤ w0.heap.size ∧ Below B w0 W ∧ One x q W d own k n s st
/-- Bytes of nobody's. -/
def ByteO (W : World) (own : Nat → Nat) (g : Nat) (us : List Value) : Prop := own g = 0 ∧ ∃ cs : Array Value, cs.toList = us ∧ W.heap[g]? = some (.cells cs 5 (0, 0))
section
variable {B : Nat} {w0 W W' : World} {x : ByteArray} {q : Int} {d k n s g : Nat} {own own' : Nat → Nat} {st : Bool} {us : List Value}
theorem OneF.below (h : OneF B w0 x q W d own k n s st) (hB : Below W.heap.size W W') : OneF B w0 x q W' d own k n s st :=
  ⟨fun i hi => h.1 i (by have := hB.size; omega), h.2.1, h.2.2.1, h.2.2.2.1.trans (hB.mono (by have := h.2.2.2.1.size; have := h.2.2.1; omega)), h.2.2.2.2.below hB own (fun _ _ => rfl)⟩
theorem ByteO.below (h : ByteO W own g us) (hB : Below W.heap.size W W') : ByteO W' own g us := by
  obtain ⟨h0, cs, e, h1⟩ := h
  exact ⟨h0, cs, e, (hB.block g (lt_of_block h1)).trans h1⟩
theorem ByteO.only (h : ByteO W own g us) (hO : Only own W own' W') : ByteO W' own' g us := by
  obtain ⟨h0, cs, e, h1⟩ := h
  have hl := lt_of_block h1
  exact ⟨(hO.2.1 g hl).trans h0, cs, e, (hO.2.2 g hl h0).trans h1⟩
theorem ByteO.new (hF : Fresh0 own W) (cs : Array Value) (e : cs.toList = us) (hg : g = W.heap.size) : ByteO (W.alloc (.cells cs 5)) own g us := by
  subst hg
  exact ⟨hF _ (Nat.le_refl _), cs, e, by show (W.heap.push _)[W.heap.size]? = _; rw [Array.getElem?_push_size]⟩
theorem ByteO.src (h : ByteO W own g us) (hd : own d ≠ 0) (hu : ∀ u ∈ us, ∃ z : Int, 0 ≤ z ∧ z < 256 ∧ u = .int .u8 z) (m : Nat) (hm : us.length = m) (c : Nat) : ∀ W', Chg [d] W W' → Src Try.prog 1 29 (.slice (some ⟨g, 0, none⟩) m c) m us W' := by
  intro W' hc
  obtain ⟨h0, cs, e, h1⟩ := h
  have h2 : W'.heap[g]? = some (.cells cs 5 (0, 0)) := (hc.same g (lt_of_block h1) (fun hm => by rw [List.mem_singleton] at hm; rw [hm] at h0; exact hd h0)).trans h1
  refine Src.ofSlice W' Try.underlying29 ⟨g, 0, none⟩ m c us (by omega) (fun j u hj => ?_) (fun u hu' => by obtain ⟨z, _, _, ez⟩ := hu u hu'; rw [ez]; rfl)
  have h3 := cell_of_row W' g j cs _ (0, 0) h2
  have e9 : (⟨g, 0, none⟩ : Addr).add j = ⟨g, j, none⟩ := by unfold Addr.add; split <;> simp_all
  rw [e9, h3, ← hj, ← e, Array.getElem?_toList]
theorem One.od (h : One x q W d own k n s st) : own d ≠ 0 := by
  obtain ⟨b, F, fc, RA, rc, SA, sn, sc, C, cn, cc, f, ss, css, chl, nm, dt, su, H, _⟩ := h
  rw [H.od]
  omega
/-- Behind a call. -/
theorem OneF.next (h : OneF B w0 x q W d own k n s st) {k' n' s' : Nat} {st' : Bool} (hO : Only own W own' W') (h1 : One x q W' d own' k' n' s' st') : ∃ own'', Only own W own'' W' ∧ OneF B w0 x q W' d own'' k' n' s' st' := by
  have hz := hO.1.size
  have hBW : B ≤ W.heap.size := by have := h.2.2.2.1.size; have := h.2.2.1; omega
  refine ⟨fun i => if i < W'.heap.size then own' i else 0, ⟨hO.1, fun i hi => (if_pos (by omega)).trans (hO.2.1 i hi), hO.2.2⟩, fun i hi => if_neg (by omega), fun i hi => (if_pos (by omega)).trans ((hO.2.1 i (by omega)).trans (h.2.1 i hi)), h.2.2.1, h.2.2.2.1.trans (hO.toBelow h.2.1 hBW), ?_⟩
  exact h1.below (Below.refl _ _) _ (fun i hi => if_pos hi)
end
theorem OneF.first {B : Nat} {w0 W W' : World} {x : ByteArray} {q : Int} {d k n s : Nat} {own own' : Nat → Nat} {st : Bool} (h1 : Below B w0 W) (h2 : ∀ i, i < B → own i = 0) (hB : B ≤ w0.heap.size) (hO : Only own W own' W') (h3 : One x q W' d own' k n s st) : ∃ own'', Only own W own'' W' ∧ OneF B w0 x q W' d own'' k n s st := by
  have hz := hO.1.size
  have hBW : B ≤ W.heap.size := by have := h1.size; omega
  refine ⟨fun i => if i < W'.heap.size then own' i else 0, ⟨hO.1, fun i hi => (if_pos (by omega)).trans (hO.2.1 i hi), hO.2.2⟩, fun i hi => if_neg (by omega), fun i hi => (if_pos (by omega)).trans ((hO.2.1 i (by omega)).trans (h2 i hi)), hB, h1.trans (hO.toBelow h2 hBW), ?_⟩
  exact h3.below (Below.refl _ _) _ (fun i hi => if_pos hi)
theorem Fresh0.alloc {own : Nat → Nat} {W : World} (h : Fresh0 own W) (o : Obj) : Fresh0 own (W.alloc o) := fun i hi => by
  have h2 : (W.alloc o).heap.size = W.heap.size + 1 := by simp
  exact h i (by omega)
section
variable {B : Nat} {w0 W W' : World} {x : ByteArray} {q : Int} {d k n s g : Nat} {own own' : Nat → Nat} {st : Bool} {us : List Value}
theorem OneF.full (h : OneF B w0 x q W d own k n s st) (hx : nameOk x = true) (hsz : x.size ≤ 1000000) (hk : k < 80000) (BA : Option Addr) (bn bc : Nat) (h1 : n + bn ≤ 1048576) (h2 : q < ((n + bn : Nat) : Int)) :
    Calls Try.prog 19 #[.pointer (some ⟨d, 0, none⟩), .string x, .slice BA bn bc] W fun e w' => e = .returned (.int .i64 4) ∧ ∃ own', Only own W own' w' ∧ OneF B w0 x q w' d own' (k + 1) n s st :=
  (h.2.2.2.2.full hx hsz hk BA bn bc h1 h2).mono fun e w' hh => ⟨hh.1, by obtain ⟨_, o, O, h3⟩ := hh; exact h.next O h3⟩
theorem OneF.append (h : OneF B w0 x q W d own k n s st) (hx : nameOk x = true) (hsz : x.size ≤ 1000000) (hk : k < 80000) (bn bc : Nat) (h1 : n + bn ≤ 1048576) (h2 : ((n + bn : Nat) : Int) ≤ q) (hb : ByteO W own g us) (hl : us.length = bn) (hu : ∀ u ∈ us, ∃ z : Int, 0 ≤ z ∧ z < 256 ∧ u = .int .u8 z) :
    Calls Try.prog 19 #[.pointer (some ⟨d, 0, none⟩), .string x, .slice (some ⟨g, 0, none⟩) bn bc] W fun e w' => e = .returned (.int .i64 0) ∧ ∃ own', Only own W own' w' ∧ OneF B w0 x q w' d own' (k + 1) (n + bn) s st :=
  (h.2.2.2.2.append hx hsz hk _ bn bc h1 h2 us hl hu (hb.src h.2.2.2.2.od hu bn hl bc)).mono fun e w' hh => ⟨hh.1, by obtain ⟨_, o, O, h3⟩ := hh; exact h.next O h3⟩
theorem OneF.sync (h : OneF B w0 x q W d own k n s st) (hx : nameOk x = true) (hsz : x.size ≤ 1000000) (hk : k < 80000) :
    Calls Try.prog 20 #[.pointer (some ⟨d, 0, none⟩), .string x] W fun e w' => e = .returned (.int .i64 0) ∧ ∃ own', Only own W own' w' ∧ OneF B w0 x q w' d own' (k + 1) n n st :=
  (h.2.2.2.2.sync hx hsz hk).mono fun e w' hh => ⟨hh.1, by obtain ⟨_, o, O, h3⟩ := hh; exact h.next O h3⟩
theorem OneF.syncDir (h : OneF B w0 x q W d own k n s st) (hk : k < 80000) :
    Calls Try.prog 21 #[.pointer (some ⟨d, 0, none⟩)] W fun e w' => e = .returned (.int .i64 0) ∧ ∃ own', Only own W own' w' ∧ OneF B w0 x q w' d own' (k + 1) n s true :=
  (h.2.2.2.2.syncDir hk).mono fun e w' hh => ⟨hh.1, by obtain ⟨_, o, O, h3⟩ := hh; exact h.next O h3⟩
theorem OneF.crash1 (h : OneF B w0 x q W d own k n s true) (g1 : Nat) (c1 : Nat) (T : TypeId) (hg : own g1 = 0) (hb : W.heap[g1]? = some (.cells #[.int .i64 1] T (0, 0))) (hns : s < n) :
    Calls Try.prog 16 #[.pointer (some ⟨d, 0, none⟩), .agg #[.int .i64 0, .slice (some ⟨g1, 0, none⟩) 1 c1]] W fun e w' => (∃ v, e = .returned v) ∧ ∃ own', Only own W own' w' ∧ OneF B w0 x q w' d own' k (s + 1) (s + 1) true := by
  have hK : ZsAt W (some ⟨g1, 0, none⟩) 1 [1] := ⟨rfl, fun _ => ⟨g1, 0, rfl, lt_of_block hb, fun j z hj => by
    have hj1 := (List.getElem?_eq_some_iff.1 hj).1
    simp only [List.length_cons, List.length_nil] at hj1
    obtain rfl : j = 0 := by omega
    cases hj
    rw [cell_of_row W g1 (0 + 0) _ _ (0, 0) hb]
    rfl⟩⟩
  have e1 : leftN n s (keptZ [1] 0) = s + 1 := by
    have : keptZ [1] 0 = 1 := rfl
    rw [this]
    unfold leftN
    omega
  refine (h.2.2.2.2.crash 0 (by omega) (some ⟨g1, 0, none⟩) 1 c1 [1] hK (by omega) (fun k hk => by rw [blk_one hk]; exact hg) (fun z hz => by rw [List.mem_singleton] at hz; omega)).mono fun e w' hh => ⟨hh.1, by
    obtain ⟨_, o, O, h3⟩ := hh
    rw [e1] at h3
    exact h.next O h3⟩
end
theorem info_u8g : (Try.prog.info? 5).map (fun i => (i.zero, i.size, i.bytes)) = some (some (.int .u8 0), 1, 1) := by kernel_rfl
theorem make_g (n : Nat) (hn : n ≤ 1000) (W : World) : (Instr.makeSlice 29 (.int .i64 (n : Int)) (.int .i64 (n : Int))).run Try.prog W = .ok (.slice (some ⟨W.heap.size, 0, none⟩) n n) (W.alloc (.cells (List.replicate n (Value.int .u8 0)).toArray 5)) := by
  obtain ⟨i0, hi, hz0, hz1, hz2⟩ := info_parts info_u8g
  have h := run_make (P := Try.prog) W 29 5 i0 (.int .u8 0) Try.underlying29 hi hz0 .i64 .i64 n n (by omega) (by omega) (by rw [hz2]; omega) (by omega)
  rw [h]
  congr 3
  rw [hz1, Int.toNat_natCast, Nat.mul_one]
  apply Array.toList_inj.1
  show (madeCells #[.int .u8 0] n).toList = _
  rw [toList_madeCells_one]
set_option maxHeartbeats 1600000 in
theorem lives_any (w : World) : Calls Try.prog 14 #[] w fun e w' => e = .returned (.bool true) ∧ Below w.heap.size w w' := by
  have HNEW := Lib.hid (DiskIn.new 10 (by omega) w (fun _ => 0) (fun _ => 0) (fun _ => 0) (fun _ => []))
  go_enter Try.func14, Try.ntmps14
  go_wp2_with fail
  refine HNEW.out.mono ?_
  rintro e w1 ⟨rfl, own1, ho1, H1, hB1⟩
  obtain ⟨own2, hown2⟩ : ∃ own2 : Nat → Nat, own2 = fun i => if i < w1.heap.size then own1 i else 0 := ⟨_, rfl⟩
  have hF2 : Fresh0 own2 w1 := fun i hi => by rw [hown2]; exact if_neg (by omega)
  have h20 : ∀ i, i < w.heap.size → own2 i = 0 := fun i hi => by rw [hown2]; exact (if_pos (by have := hB1.size; omega)).trans (ho1 i hi)
  have H2 := H1.carry (own' := own2) (Nat.le_refl _) (fun i hi => by rw [hown2]; exact if_pos hi) (fun i hi _ => rfl)
  have hax : nameOk ⟨#[97]⟩ = true := by decide
  have HAX := Lib.hid hax
  have HF2 : Hid (Fresh0 own2 w1.drew) := Lib.hid hF2
  have HCR := Lib.hid (fun (W : World) (hB : Below w1.heap.size w1 W) => (One.create ⟨#[97]⟩ 10 (by omega) W w.heap.size own2 _ _ _ (H2.below hB) hax (by decide)).mono (fun e w' h => (⟨h.1, by
    obtain ⟨own', O, h1⟩ := h.2
    exact OneF.first (hB1.trans (hB.mono (by have := hB1.size; omega))) h20 (Nat.le_refl _) O h1⟩ : e = .returned (.int .i64 0) ∧ ∃ own'', Only own2 W own'' w' ∧ OneF w.heap.size w ⟨#[97]⟩ 10 w' w.heap.size own'' 1 0 0 false)))
  clear ho1 H1 hB1 hown2 hF2 h20 H2 hax HNEW
  obtain ⟨Z12, hZ12⟩ : ∃ Z : Array Value, (List.replicate 12 (Value.int .u8 0)).toArray = Z := ⟨_, rfl⟩
  obtain ⟨Z5, hZ5⟩ : ∃ Z : Array Value, (List.replicate 5 (Value.int .u8 0)).toArray = Z := ⟨_, rfl⟩
  have hmk12 : ∀ W : World, (Instr.makeSlice 29 (.int .i64 12) (.int .i64 12)).run Try.prog W = .ok (.slice (some ⟨W.heap.size, 0, none⟩) 12 12) (W.alloc (.cells (List.replicate 12 (Value.int .u8 0)).toArray 5)) := make_g 12 (by omega)
  have hmk5 : ∀ W : World, (Instr.makeSlice 29 (.int .i64 5) (.int .i64 5)).run Try.prog W = .ok (.slice (some ⟨W.heap.size, 0, none⟩) 5 5) (W.alloc (.cells (List.replicate 5 (Value.int .u8 0)).toArray 5)) := make_g 5 (by omega)
  rw [hZ12] at hmk12
  rw [hZ5] at hmk5
  have HZ5 : Hid (Z5.toList = List.replicate 5 (Value.int .u8 0)) := Lib.hid (by rw [← hZ5])
  clear hZ12 hZ5
  go_upto_region 2 with fail
  go_cut [2, 3, 4] from 11 to 18 (fun a b c wx => a = .int .i64 0 ∧ b = .int .i64 4 ∧ c = .int .i64 0 ∧ Hid (∃ own', OneF w.heap.size w ⟨#[97]⟩ 10 wx w.heap.size own' 3 5 0 false))
  case first =>
    go_region_with (first
      | (go_at_call 18; refine (HCR.out _ (by (first | exact Below.refl _ _ | exact (Below.refl _ _).drew | exact (Below.refl _ _).alloc (Nat.le_refl _) _ | exact (Below.refl _ _).drew.alloc (Nat.le_refl _) _ | exact ((Below.refl _ _).alloc (Nat.le_refl _) _).alloc (by simp) _ | exact ((Below.refl _ _).drew.alloc (Nat.le_refl _) _).alloc (by simp) _))).mono ?_; rintro e w2 ⟨rfl, own3, O2, L2⟩; have HO2 := Lib.hid O2; have HL2 := Lib.hid L2; have HN2 := Lib.hid L2.1; clear O2 L2)
      | (go_at_call 19; refine (OneF.full (HL2.out.below (by (first | exact Below.refl _ _ | exact (Below.refl _ _).drew | exact (Below.refl _ _).alloc (Nat.le_refl _) _ | exact (Below.refl _ _).drew.alloc (Nat.le_refl _) _ | exact ((Below.refl _ _).alloc (Nat.le_refl _) _).alloc (by simp) _ | exact ((Below.refl _ _).drew.alloc (Nat.le_refl _) _).alloc (by simp) _))) HAX.out (by decide) (by omega) _ 12 12 (by omega) (by omega)).mono ?_; rintro e w3 ⟨rfl, own4, O3, L3⟩; have HO3 := Lib.hid O3; have HL3 := Lib.hid L3; clear O3 L3 HL2)
      | (go_at_call 19; refine (OneF.append (HL3.out.below (by (first | exact Below.refl _ _ | exact (Below.refl _ _).drew | exact (Below.refl _ _).alloc (Nat.le_refl _) _ | exact (Below.refl _ _).drew.alloc (Nat.le_refl _) _ | exact ((Below.refl _ _).alloc (Nat.le_refl _) _).alloc (by simp) _ | exact ((Below.refl _ _).drew.alloc (Nat.le_refl _) _).alloc (by simp) _))) HAX.out (by decide) (by omega) 5 5 (by omega) (by omega) (us := List.replicate 5 (Value.int .u8 0)) (by (first | exact ByteO.new HL3.out.1 _ HZ5.out rfl | (refine ByteO.only ?_ HO3.out; first | (first | exact ByteO.new HN2.out _ HZ5.out rfl | exact ByteO.new (HN2.out.alloc _) _ HZ5.out (by simp) | exact (ByteO.new HN2.out _ HZ5.out rfl).below (by (first | exact Below.refl _ _ | exact (Below.refl _ _).drew | exact (Below.refl _ _).alloc (Nat.le_refl _) _ | exact (Below.refl _ _).drew.alloc (Nat.le_refl _) _ | exact ((Below.refl _ _).alloc (Nat.le_refl _) _).alloc (by simp) _ | exact ((Below.refl _ _).drew.alloc (Nat.le_refl _) _).alloc (by simp) _))) | (refine ByteO.below (W := w2) (ByteO.only ?_ HO2.out) (by (first | exact Below.refl _ _ | exact (Below.refl _ _).drew | exact (Below.refl _ _).alloc (Nat.le_refl _) _ | exact (Below.refl _ _).drew.alloc (Nat.le_refl _) _ | exact ((Below.refl _ _).alloc (Nat.le_refl _) _).alloc (by simp) _ | exact ((Below.refl _ _).drew.alloc (Nat.le_refl _) _).alloc (by simp) _)); (first | exact ByteO.new HF2.out _ HZ5.out rfl | exact ByteO.new (HF2.out.alloc _) _ HZ5.out (by simp) | exact (ByteO.new HF2.out _ HZ5.out rfl).below (by (first | exact Below.refl _ _ | exact (Below.refl _ _).drew | exact (Below.refl _ _).alloc (Nat.le_refl _) _ | exact (Below.refl _ _).drew.alloc (Nat.le_refl _) _ | exact ((Below.refl _ _).alloc (Nat.le_refl _) _).alloc (by simp) _ | exact ((Below.refl _ _).drew.alloc (Nat.le_refl _) _).alloc (by simp) _))))))) (by rfl) (fun u hu => ⟨0, by omega, by omega, List.eq_of_mem_replicate hu⟩)).mono ?_; rintro e w4 ⟨rfl, own5, O4, L4⟩; have HL4 := Lib.hid L4; clear O4 L4))
    all_goals
      go_wp2_with fail
      go_meet
      exact ⟨rfl, rfl, rfl, Lib.hid ⟨_, HL4.out⟩⟩
  case rest =>
    obtain ⟨rfl, rfl, rfl, HL⟩ := hcut
    obtain ⟨own5, hl5⟩ := HL.out
    have HSY := Lib.hid (hl5.sync HAX.out (by decide) (by omega))
    clear hl5 HL HCR HF2 hmk12 hmk5 HZ5
    go_wp2_with fail
    refine HSY.out.mono ?_
    rintro e w6 ⟨rfl, own6, O6, L6⟩
    have HAP := Lib.hid ((L6.below ((Below.refl _ _).alloc (Nat.le_refl _) (.cells #[.int .u8 1, .int .u8 2] 5))).append HAX.out (by decide) (by omega) 2 2 (by omega) (by omega) (ByteO.new L6.1 #[.int .u8 1, .int .u8 2] (us := [.int .u8 1, .int .u8 2]) rfl rfl) rfl (fun u hu => by
      simp only [List.mem_cons, List.not_mem_nil, or_false] at hu
      rcases hu with h | h
      · exact ⟨1, by omega, by omega, h⟩
      · exact ⟨2, by omega, by omega, h⟩))
    clear O6 L6 HSY
    go_wp2_with fail
    refine HAP.out.mono ?_
    rintro e w7 ⟨rfl, own7, O7, L7⟩
    have HSD := Lib.hid (L7.syncDir (by omega))
    clear O7 L7 HAP
    go_wp2_with fail
    refine HSD.out.mono ?_
    rintro e w8 ⟨rfl, own8, O8, L8⟩
    have HCS := Lib.hid ((L8.below ((Below.refl _ _).alloc (Nat.le_refl _) (.cells #[.int .i64 1] 3))).crash1 w8.heap.size 1 3 (L8.1 _ (Nat.le_refl _)) (by show (w8.heap.push _)[w8.heap.size]? = _; rw [Array.getElem?_push_size]) (by omega))
    clear O8 L8 HSD
    go_wp2_with fail
    refine HCS.out.mono ?_
    rintro e w9 ⟨⟨v9, rfl⟩, own9, O9, L9⟩
    have HRD := Lib.hid L9.2.2.2.2.read
    have HBW := Lib.hid L9.2.2.2.1
    have hz9 := L9.2.2.2.1.size
    clear O9 L9 HCS
    go_wp2_with fail
    refine HRD.out.mono ?_
    rintro e w10 ⟨⟨A10, c10, rfl⟩, hB10⟩
    have HEND := Lib.hid (HBW.out.trans (hB10.mono hz9))
    clear hB10 HRD HBW hz9
    go_wp2
    go_ret
    exact ⟨rfl, HEND.out⟩
end Go.Proofs.Ytnjnlcmpfnabiaa
