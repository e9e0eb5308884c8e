/-
  Whether a file is a sound one: the contracts of cas's named and sound.
-/
import Derived.Test.YtkjdjglknbgeaaaGreatDoorZbo
import Derived.Test.YtkjdjglknbgeaaaGreatDoorZbf
namespace Go.Proofs.YtkjdjglknbgeaaaGreatDoor
open Go.RowKit Go.Shelf
attribute [local go_sem] Oper.semAt_some
set_option linter.unusedVariables false
set_option maxRecDepth 100000

/-- A name that begins as all entries' do. -/
def namedB (x : ByteArray) : Bool := Lib.hasPrefix x.data.toList [99, 45]
theorem named_any (x : ByteArray) (w : World) : Calls Tryz.prog 89 #[.string x] w fun e w' => e = .returned (.bool (namedB x)) ∧ w = w' := by
  have HP := Lib.hid ((Tryz.strings_HasPrefix x ⟨#[99, 45]⟩ w).mono fun _ _ h => And.intro h.1 h.2.symm)
  rw [show Lib.hasPrefix x.data.toList (ByteArray.mk #[99, 45]).data.toList = namedB x from rfl] at HP
  go_enter Tryz.func89, Tryz.ntmps89
  go_wp2_with ((with_reducible refine HP.out.mono ?_); rintro e w1 ⟨rfl, rfl⟩)
  go_ret
  exact ⟨rfl, rfl⟩
/-- The key of a sound file. -/
def soundN (x : ByteArray) (b : List Nat) (dn : Nat) : Option (List Nat) :=
  if namedB x = true then (match splitE b with
    | some (k, _) => if (List.range 8).any (fun s => decide (fileB k dn s = x)) = true then some k else none
    | none => none) else none
def SoundAns (x : ByteArray) (b : List Nat) (dn B : Nat) (e : Ending) (W : World) : Prop :=
  match soundN x b dn with
  | none => e = .returned (.tuple #[.slice none 0 0, .bool false])
  | some k => ∃ A' c', e = .returned (.tuple #[.slice A' k.length c', .bool true]) ∧ BLine W A' k.length c' k ∧ ∀ j ∈ blk A', B ≤ j
theorem results_sound (tmps : Array Value) (w : World) (g h : Nat) (v u : Value) (hp : tmps.getD 6 undef = .pointer (some ⟨g, 0, none⟩)) (hq : tmps.getD 7 undef = .pointer (some ⟨h, 0, none⟩)) (hv : w.cell? ⟨g, 0, none⟩ = some v) (hu : w.cell? ⟨h, 0, none⟩ = some u) : (results Tryz.f61 tmps).run Tryz.prog w = .ok (.tuple #[v, u]) w := by
  have hp' : tmps[6]?.getD undef = .pointer (some ⟨g, 0, none⟩) := by simpa using hp
  have hq' : tmps[7]?.getD undef = .pointer (some ⟨h, 0, none⟩) := by simpa using hq
  simp [results, Tryz.results61, hp', hq', asAddr, go_sem, hv, hu]
def SndI (k : List Nat) (dn : Nat) (x : ByteArray) (W5 : World) (pre : List Nat) (W : World) : Prop := (∀ t ∈ pre, fileB k dn t ≠ x) ∧ Below W5.heap.size W5 W
def SndX (k : List Nat) (dn : Nat) (x : ByteArray) (w : World) (hh : Nat) (A1 : Option Addr) (c1 : Nat) (cc : Code) (pre : List Nat) (W : World) : Prop :=
  cc = Code.ret ∧ (∃ t ∈ pre, fileB k dn t = x) ∧ W.heap[hh + 1]? = some (.cells #[.slice A1 k.length c1] 22 (0, 0)) ∧ W.heap[hh + 2]? = some (.cells #[.bool true] 4 (0, 0)) ∧ BLine W A1 k.length c1 k ∧ Below hh w W
set_option maxHeartbeats 3200000 in
theorem sound_any (w : World) (x : ByteArray) (A : Option Addr) (n c : Nat) (b : List Nat) (dn : Nat) (hdn : dn ≤ 64) (hR : RootsOk w) (hn : n ≤ 90000) (hnc : n ≤ c) (hcm : c ≤ 9223372036854775807) (hB : RowN w A n b) :
    Calls Tryz.prog 61 #[.string x, .slice A n c, .int .i64 (dn : Int)] w fun e w' => SoundAns x b dn w.heap.size e w' ∧ Below w.heap.size w w' := by
  refine (callsIn_wide (n := 8)).1 ?_
  refine callsIn_of_wp_marks Tryz.func61 rfl trivial ?_ rfl
  simp only [Tryz.ntmps61, List.size_toArray, List.length_cons, List.length_nil, Nat.reduceAdd, Nat.reduceSub, Array.replicate_succ, Array.replicate_zero, List.push_toArray, List.append_toArray, List.nil_append, List.cons_append]
  refine wpIn_wide.2 ?_
  obtain ⟨hh, hhe⟩ : ∃ hh, w.heap.size = hh := ⟨_, rfl⟩
  obtain ⟨W2, hW2⟩ : ∃ W2, ((w.alloc (.cells #[.string x] 9)).alloc (.cells #[.slice none 0 0] 22)).alloc (.cells #[.bool false] 4) = W2 := ⟨_, rfl⟩
  have hWW := hW2
  have hb1 : Below w.heap.size w (w.alloc (.cells #[.string x] 9)) := (Below.refl _ w).alloc (Nat.le_refl _) _
  have hs1 : (w.alloc (.cells #[.string x] 9)).heap.size = hh + 1 := by rw [← hhe]; simp
  have k0 : (w.alloc (.cells #[.string x] 9)).heap[hh]? = some (.cells #[.string x] 9 (0, 0)) := by rw [← hhe]; exact heap_alloc_new w _
  generalize w.alloc (.cells #[.string x] 9) = W1 at hb1 hs1 k0 hW2
  have hb2 : Below W1.heap.size W1 W2 := by rw [← hW2]; exact (two_new W1 _ _).2.2
  have hs2 : W2.heap.size = hh + 3 := by rw [← hW2]; simp [hs1]
  have k1 : W2.heap[hh + 1]? = some (.cells #[.slice none 0 0] 22 (0, 0)) := by rw [← hW2, ← hs1]; exact (two_new W1 _ _).2.1
  have k2 : W2.heap[hh + 2]? = some (.cells #[.bool false] 4 (0, 0)) := by rw [← hW2, show hh + 2 = W1.heap.size + 1 by omega]; exact (two_new W1 _ _).1
  have k0 := (hb2.block hh (by omega)).trans k0
  have hbw2 : Below w.heap.size w W2 := hb1.trans (hb2.mono hb1.size)
  have y0 := cell_of_one k0
  have HK0 := Lib.hid k0
  have HK1 := Lib.hid k1
  have HK2 := Lib.hid k2
  have HB2 := Lib.hid hbw2
  have HHE := Lib.hid hhe
  have HS2 := Lib.hid hs2
  have HN := Lib.hid (named_any x W2)
  have HP := Lib.hid (split_any W2 A n c b hn hnc hcm (hB.below hbw2))
  have HRO := Lib.hid (hR.below hbw2)
  have hB0 := Lib.hid hB
  -- an answer of none, from a world further on
  have hno : soundN x b dn = none → ∀ W, Below W2.heap.size W2 W → ∀ (tmps : Array Value) , tmps.getD 6 undef = .pointer (some ⟨hh + 1, 0, none⟩) → tmps.getD 7 undef = .pointer (some ⟨hh + 2, 0, none⟩) → ∃ v, (results Tryz.f61 tmps).run Tryz.prog ((W.setCell ⟨hh + 1, 0, none⟩ (.slice none 0 0)).setCell ⟨hh + 2, 0, none⟩ (.bool false)) = .ok v ((W.setCell ⟨hh + 1, 0, none⟩ (.slice none 0 0)).setCell ⟨hh + 2, 0, none⟩ (.bool false)) ∧ SoundAns x b dn w.heap.size (.returned v) ((W.setCell ⟨hh + 1, 0, none⟩ (.slice none 0 0)).setCell ⟨hh + 2, 0, none⟩ (.bool false)) ∧ Below w.heap.size w ((W.setCell ⟨hh + 1, 0, none⟩ (.slice none 0 0)).setCell ⟨hh + 2, 0, none⟩ (.bool false)) := fun hs W hb tmps h6 h7 => by
    obtain ⟨q1, q2, q3⟩ := two_one (W := W) (va := .slice none 0 0) (vb := .bool false) ((hb.block (hh + 1) (by omega)).trans k1) ((hb.block (hh + 2) (by omega)).trans k2) (by omega)
    refine ⟨_, results_sound tmps _ (hh + 1) (hh + 2) _ _ h6 h7 (cell_of_one q1) (cell_of_one q2), by unfold SoundAns; rw [hs], ?_⟩
    have hbw := hbw2.trans (hb.mono hbw2.size)
    exact hbw.trans (q3.toBelow (fun k hk => by simp only [List.mem_cons, List.not_mem_nil, or_false] at hk; omega) hbw.size)
  have HNO := Lib.hid hno
  have k1' := cell_of_one k1
  have k2' := cell_of_one k2
  have f1' := free_of_one k1
  have f2' := free_of_one k2
  cases hnm : namedB x with
  | false =>
    rw [hnm] at HN
    have HS := Lib.hid (show soundN x b dn = none by unfold soundN; rw [hnm]; rfl)
    clear hb1 hs1 k0 k1 k2 hb2 hs2 hbw2 hno hR hB
    go_wp2_with ((with_reducible refine HN.out.mono ?_); rintro e w1 ⟨rfl, rfl⟩)
    exact HNO.out HS.out W2 (Below.refl _ _) _ rfl rfl
  | true =>
    rw [hnm] at HN
    clear hb1 hs1 k0 k1 k2 hb2 hs2 hbw2 hno hR hB
    go_wp2_with (first
      | ((with_reducible refine HN.out.mono ?_); rintro e w1 ⟨rfl, rfl⟩)
      | fail)
    refine HP.out.mono ?_
    rintro e w3 ⟨hans, hb3⟩
    clear y0 k1' k2' f1' f2' hWW hW2
    have hs2 := HS2.out
    have hz3 := hb3.size
    obtain ⟨q, hq⟩ : ∃ q, w3.heap.size = q := ⟨_, rfl⟩
    cases hsp : splitE b with
    | none =>
      have HS := Lib.hid (show soundN x b dn = none by unfold soundN; rw [hnm, if_pos rfl, hsp])
      unfold SplitAns at hans
      rw [hsp] at hans
      simp only at hans
      subst hans
      obtain ⟨W4, hW4⟩ : ∃ W4, w3.alloc (.cells #[.slice none 0 0] 22) = W4 := ⟨_, rfl⟩
      have hb4 : Below w3.heap.size w3 W4 := by rw [← hW4]; exact (Below.refl _ w3).alloc (Nat.le_refl _) _
      have hb24 := hb3.trans (hb4.mono hb3.size)
      have k1 := (hb24.block (hh + 1) (by omega)).trans HK1.out
      have k2 := (hb24.block (hh + 2) (by omega)).trans HK2.out
      have k8 : W4.heap[q]? = some (.cells #[.slice none 0 0] 22 (0, 0)) := by rw [← hW4, ← hq]; exact heap_alloc_new w3 _
      have x1 := cell_of_one k1
      have x2 := cell_of_one k2
      have x8 := cell_of_one k8
      have f1 := free_of_one k1
      have f2 := free_of_one k2
      have f8 := free_of_one k8
      have hsc : W4.setCell ⟨q, 0, none⟩ (.slice none 0 0) = W4 := setCell_keep k8 rfl
      have HB24 := Lib.hid hb24
      clear hb4 hb24 k1 k2 hb3 k8
      go_wp2
      exact HNO.out HS.out W4 HB24.out _ rfl rfl
    | some ka =>
      obtain ⟨k, a⟩ := ka
      unfold SplitAns at hans
      rw [hsp] at hans
      simp only at hans
      obtain ⟨A1, c1, A2, c2, rfl, hl1, hl2, hf1, hf2⟩ := hans
      obtain ⟨W4, hW4⟩ : ∃ W4, w3.alloc (.cells #[.slice A1 k.length c1] 22) = W4 := ⟨_, rfl⟩
      have hb4 : Below w3.heap.size w3 W4 := by rw [← hW4]; exact (Below.refl _ w3).alloc (Nat.le_refl _) _
      have hb24 := hb3.trans (hb4.mono hb3.size)
      have hs4 : W4.heap.size = q + 1 := by rw [← hW4, ← hq]; simp
      have k0 := (hb24.block hh (by omega)).trans HK0.out
      have k3 : W4.heap[q]? = some (.cells #[.slice A1 k.length c1] 22 (0, 0)) := by rw [← hW4, ← hq]; exact heap_alloc_new w3 _
      have x3 := cell_of_one k3
      have hkl := (split_some (hB0.out.bytes) hsp).2.2.2.1
      have HL := Lib.hid (And.intro (hl1.below hb4) hf1)
      have HK3 := Lib.hid k3
      have HB24 := Lib.hid hb24
      have HQ := Lib.hid hq
      have HS4 := Lib.hid hs4
      obtain ⟨kl, hkle⟩ : ∃ kl, k.length = kl := ⟨_, rfl⟩
      have HKL := Lib.hid hkle
      clear hl1 hl2 hf1 hf2 hb4 hb24 k0 k3 hb3 hs4
      rw [hkle] at hW4 x3
      rw [hkle]
      go_wp2_with fail
      refine (filesOf_any W4 A1 kl c1 (dn : Int)).mono ?_
      rintro e9 w9 ⟨rfl, rfl⟩
      have hs4 := HS4.out
      obtain ⟨W5, hW5⟩ : ∃ W5, (W4.alloc (.cells #[.slice A1 kl c1] 22)).alloc (.cells #[.int .i64 (dn : Int)] 3) = W5 := ⟨_, rfl⟩
      have hb5 : Below W4.heap.size W4 W5 := by rw [← hW5]; exact (two_new W4 _ _).2.2
      have hs5 : W5.heap.size = q + 3 := by rw [← hW5]; simp [hs4]
      have k4 : W5.heap[q + 1]? = some (.cells #[.slice A1 kl c1] 22 (0, 0)) := by rw [← hW5, ← hs4]; exact (two_new W4 _ _).2.1
      have k5 : W5.heap[q + 2]? = some (.cells #[.int .i64 (dn : Int)] 3 (0, 0)) := by rw [← hW5, show q + 2 = W4.heap.size + 1 by omega]; exact (two_new W4 _ _).1
      rw [hs4, hW5]
      have hb25 := HB24.out.trans (hb5.mono HB24.out.size)
      have HJ0 := Lib.hid ((hb25.block hh (by omega)).trans HK0.out)
      have HJ1 := Lib.hid ((hb25.block (hh + 1) (by omega)).trans HK1.out)
      have HJ2 := Lib.hid ((hb25.block (hh + 2) (by omega)).trans HK2.out)
      have HJ3 := Lib.hid ((hb5.block q (by omega)).trans HK3.out)
      have HJ4 := Lib.hid k4
      have HJ5 := Lib.hid k5
      have HB25 := Lib.hid hb25
      have HS5 := Lib.hid hs5
      have HL5 := Lib.hid (HL.out.1.below hb5)
      have HKEEP : Hid (∀ pre W, SndI k dn x W5 pre W → KeepK (q + 1) (q + 2) A1 kl c1 k dn W) := Lib.hid (by
        rintro pre W ⟨_, hb⟩
        have hz := HS5.out
        have hbw := HB25.out.trans (hb.mono HB25.out.size)
        have hl6 := HL5.out.below hb
        rw [HKL.out] at hl6
        exact ⟨cell_of_one ((hb.block _ (by omega)).trans HJ4.out), cell_of_one ((hb.block _ (by omega)).trans HJ5.out), hl6.keyAt (by have := HKL.out; omega), HRO.out.below hbw⟩)
      have hq2 : hh + 3 ≤ q := by have := HQ.out; omega
      clear hW4 hW5 hb5 hs5 k4 k5 hb25 HK0 HK1 HK2 HK3 hs4 x3
      go_wp2_with fail
      refine (wpIn_wide (n := 8)).1 ?_
      refine range_k 8 1 (by decide) 123 #[.pointer (some ⟨q + 1, 0, none⟩), .pointer (some ⟨q + 2, 0, none⟩)] (arK k dn) rfl filesOf_enters (fun _ => rfl) (List.range 8) (KeepK (q + 1) (q + 2) A1 kl c1 k dn) (fun W1 _ => filesOf1_any W1 (q + 1) (q + 2) A1 kl c1 k dn hdn) (SndI k dn x W5) (SndX k dn x w hh A1 c1) ?hI ?hIx HKEEP.out ?h0 ?hab ?hdone ?hstop
      case hI =>
        rintro xs W W' ⟨h1, h2⟩ hc
        exact ⟨h1, h2.trans (hc.toBelow (fun k hk => by simp only [List.mem_cons, List.not_mem_nil, or_false] at hk; omega) h2.size)⟩
      case hIx =>
        rintro cc xs W W' ⟨rfl, h1, h2, h3, h4, h5⟩ hc
        have hz := HS5.out
        have nE : ∀ j, j < q + 3 → j ∉ [W5.heap.size, W5.heap.size + 1] := fun j hj hm => by simp only [List.mem_cons, List.not_mem_nil, or_false] at hm; omega
        refine ⟨rfl, h1, (hc.same _ (lt_of_block h2) (nE _ (by omega))).trans h2, (hc.same _ (lt_of_block h3) (nE _ (by omega))).trans h3, h4.chg hc (fun j hj => nE j ?_), h5.trans (hc.toBelow (fun k hk => by simp only [List.mem_cons, List.not_mem_nil, or_false] at hk; omega) (by have := h5.size; omega))⟩
        have := HL5.out.2.lt j hj
        omega
      case h0 =>
        intro W hb
        exact ⟨fun t ht => (by cases ht), hb⟩
      case hab =>
        apply Exists.intro
        refine ⟨?hassign, ?hbody⟩
        case hassign =>
          intro t W K hK
          unfold arK
          gi_wp2
          exact hK
        case hbody =>
          intro pre t Wr hD1 hI hpre
          obtain ⟨hI1, hI2⟩ := hI
          have hz := HS5.out
          have x0 := cell_of_one ((hI2.block hh (by omega)).trans HJ0.out)
          have k1 := (hI2.block (hh + 1) (by omega)).trans HJ1.out
          have k2 := (hI2.block (hh + 2) (by omega)).trans HJ2.out
          have x3 := cell_of_one ((hI2.block q (by omega)).trans HJ3.out)
          have x1 := cell_of_one k1
          have x2 := cell_of_one k2
          have f1 := free_of_one k1
          have f2 := free_of_one k2
          have hbq := beq_bytes (a := fileB k dn t) (b := x)
          have HI := Lib.hid (And.intro hI1 hI2)
          have HX1 := Lib.hid k1
          have HX2 := Lib.hid k2
          rw [HKL.out] at x3
          by_cases he : fileB k dn t = x
          · rw [decide_eq_true he] at hbq
            have HE := Lib.hid he
            clear hI1 hI2 k1 k2 he hpre
            gi_wp2
            obtain ⟨q1, q2, q3⟩ := two_one (W := Wr) (va := .slice A1 kl c1) (vb := .bool true) HX1.out HX2.out (by omega)
            have nE : ∀ j, hh + 3 ≤ j → j ∉ [hh + 1, hh + 2] := fun j hj hm => by simp only [List.mem_cons, List.not_mem_nil, or_false] at hm; omega
            refine ⟨⟨q3.size, q3.same _ (by omega) (nE _ (by omega)), q3.same _ (by omega) (nE _ (by omega))⟩, rfl, ⟨t, by simp, HE.out⟩, by rw [HKL.out]; exact q1, q2, ?_, ?_⟩
            · refine (HL5.out.below HI.out.2).chg q3 (fun j hj => nE j ?_)
              have h7 := HL.out.2 j hj
              have h8 := HS2.out
              omega
            · have hbw := HB2.out.trans ((HB25.out.trans (HI.out.2.mono HB25.out.size)).mono HB2.out.size)
              rw [← HHE.out] at q3 ⊢
              exact hbw.trans (q3.toBelow (fun k hk => by simp only [List.mem_cons, List.not_mem_nil, or_false] at hk; omega) hbw.size)
          · rw [decide_eq_false he] at hbq
            have HE := Lib.hid he
            clear hI1 hI2 k1 k2 he hpre
            gi_wp2
            exact ⟨⟨Nat.le_refl _, rfl, rfl⟩, fun t2 ht2 => by
              rcases List.mem_append.1 ht2 with h1 | h1
              · exact HI.out.1 t2 h1
              · rw [List.mem_singleton] at h1; rw [h1]; exact HE.out, HI.out.2⟩
      case hdone =>
        intro W hI hKd
        obtain ⟨hI1, hI2⟩ := hI
        have hz := HS5.out
        have HS := Lib.hid (show soundN x b dn = none by
          unfold soundN
          rw [hnm, if_pos rfl, hsp]
          show (if _ then _ else _) = _
          rw [if_neg]
          intro h
          obtain ⟨t, ht, he⟩ := List.any_eq_true.1 h
          exact hI1 t ht (of_decide_eq_true he))
        have k1 := (hI2.block (hh + 1) (by omega)).trans HJ1.out
        have k2 := (hI2.block (hh + 2) (by omega)).trans HJ2.out
        have x1 := cell_of_one k1
        have x2 := cell_of_one k2
        have f1 := free_of_one k1
        have f2 := free_of_one k2
        have HI2 := Lib.hid hI2
        have HKD := Lib.hid hKd
        have HX1 := Lib.hid k1
        have HX2 := Lib.hid k2
        clear hI1 hI2 k1 k2 hKd
        go_wp2_with fail
        obtain ⟨q1, q2, q4⟩ := two_one (W := W) (va := .slice none 0 0) (vb := .bool false) HX1.out HX2.out (by omega)
        have nE : ∀ j, hh + 3 ≤ j → j ∉ [hh + 1, hh + 2] := fun j hj hm => by simp only [List.mem_cons, List.not_mem_nil, or_false] at hm; omega
        refine ⟨by simp, .inl ⟨_, _, rfl, run_takeDeferred ((q4.same _ (lt_of_block HKD.out) (nE _ (by omega))).trans HKD.out), ?_⟩⟩
        refine ⟨_, results_sound _ _ (hh + 1) (hh + 2) _ _ rfl rfl (cell_of_one ((World.putObj_heap_other (by omega)).trans q1)) (cell_of_one ((World.putObj_heap_other (by omega)).trans q2)), ?_⟩
        refine ⟨by unfold SoundAns; rw [HS.out], ?_⟩
        have hbw := HB2.out.trans ((HB25.out.trans (HI2.out.mono HB25.out.size)).mono HB2.out.size)
        rw [HHE.out] at hbw ⊢
        exact hbw.trans ((q4.toBelow (fun k hk => by simp only [List.mem_cons, List.not_mem_nil, or_false] at hk; omega) (by have := hbw.size; have := HHE.out; omega)).trans ((chg_putObjIt _ W5.heap.size (.deferred none)).toBelow (fun k hk => by simp only [List.mem_cons, List.not_mem_nil, or_false] at hk; omega) (by have := q4.size; have := hbw.size; have := HHE.out; omega)))
      case hstop =>
        rintro cc pre W hpre ⟨rfl, ⟨t, ht, he⟩, h2, h3, h4, h5⟩ hKd
        have hz := HS5.out
        have HS := Lib.hid (show soundN x b dn = some k by
          unfold soundN
          rw [hnm, if_pos rfl, hsp]
          show (if _ then _ else _) = _
          rw [if_pos]
          exact List.any_eq_true.2 ⟨t, hpre.subset ht, decide_eq_true he⟩)
        gi_wp2
        refine ⟨by simp, .inl ⟨_, _, rfl, run_takeDeferred hKd, ?_⟩⟩
        refine ⟨_, results_sound _ _ (hh + 1) (hh + 2) _ _ rfl rfl (cell_of_one ((World.putObj_heap_other (by omega)).trans h2)) (cell_of_one ((World.putObj_heap_other (by omega)).trans h3)), ?_⟩
        have hcp := chg_putObjIt W W5.heap.size (.deferred none)
        refine ⟨?_, ?_⟩
        · unfold SoundAns
          rw [HS.out]
          exact ⟨A1, c1, rfl, h4.chg hcp (fun j hj hm => by have := HL5.out.2.lt j hj; simp only [List.mem_cons, List.not_mem_nil, or_false] at hm; omega), fun j hj => by have := HL.out.2 j hj; have := HS2.out; have := HHE.out; omega⟩
        · rw [HHE.out]
          exact h5.trans (hcp.toBelow (fun k hk => by simp only [List.mem_cons, List.not_mem_nil, or_false] at hk; omega) (by have := h5.size; omega))
end Go.Proofs.YtkjdjglknbgeaaaGreatDoor
