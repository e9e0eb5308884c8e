/-
  Contracts of brazierref03.Put at any number, Of, Same.
-/
import Derived.Test.YtjkcomoadpileaaDoorRg
namespace Go.Proofs.YtjkcomoadpileaaDoor
open Go.RowKit
set_option linter.unusedVariables false

theorem putYes_length (zs : List Int) (x : Int) : (putYes zs x).length ≤ zs.length + 1 + zs.length := by
  unfold putYes
  have h1 := List.length_filter_le (fun z => decide (z < x)) zs
  have h2 := List.length_filter_le (fun z => decide (x < z)) zs
  simp only [List.length_append, List.length_cons, List.length_nil]
  omega
theorem rput_any (w : World) (A : Option Addr) (n c : Nat) (zs : List Int) (hA : Ints w A n zs) (hn : n ≤ 100000) (hc : n ≤ c) (hm : c ≤ 9223372036854775807) (hlt : ∀ j ∈ blk A, j < w.heap.size) (x : Int) :
    Calls Tryd.prog 9 #[.slice A n c, .int .i64 x] w fun e w' => GivesI (blk A) w e (putL zs x) w' := by
  unfold putL
  by_cases h : x < 0 ∨ 65535 < x ∨ x ∈ zs
  · rw [if_pos h]
    refine (rput_no w A n c zs hA hn x h).mono ?_
    rintro e w' ⟨rfl, rfl⟩
    obtain rfl : zs.length = n := hA.1
    exact ⟨A, c, rfl, hA, Below.refl _ _, hc, hm, fun j hj => ⟨.inl hj, hlt j hj⟩⟩
  · rw [if_neg h]
    have h' := h
    simp only [not_or] at h'
    refine (rput_yes w A n c zs hA hn x (by omega) (by omega) h'.2.2).mono ?_
    rintro e w' ⟨A', c', he, h1, h2, h3, h4, h5⟩
    exact ⟨A', c', he, h1, h2, h3, h4, fun j hj => by obtain ⟨h6 | h6, h7⟩ := h5 j hj; cases h6; exact ⟨.inr h6, h7⟩⟩
/-- The set of some numbers. -/
def ofL (zs : List Int) : List Int := zs.foldl putL []
theorem ofL_snoc (zs : List Int) (z : Int) : ofL (zs ++ [z]) = putL (ofL zs) z := by
  unfold ofL
  rw [List.foldl_append]
  rfl
/-- Rising. -/
def Rises (zs : List Int) : Prop := zs.Pairwise (· < ·)
theorem rises_put (zs : List Int) (x : Int) (h : Rises zs) : Rises (putL zs x) := by
  unfold putL
  by_cases h1 : x < 0 ∨ 65535 < x ∨ x ∈ zs
  · rw [if_pos h1]; exact h
  · rw [if_neg h1]
    unfold putYes Rises
    rw [List.append_assoc, List.pairwise_append]
    refine ⟨h.filter _, ?_, ?_⟩
    · rw [List.pairwise_append]
      refine ⟨List.pairwise_singleton _ _, h.filter _, fun a ha b hb => ?_⟩
      simp only [List.mem_singleton] at ha
      subst ha
      simpa using (List.mem_filter.1 hb).2
    · intro a ha b hb
      have h2 : a < x := by simpa using (List.mem_filter.1 ha).2
      rcases List.mem_append.1 hb with h3 | h3
      · simp only [List.mem_singleton] at h3
        omega
      · have h4 : x < b := by simpa using (List.mem_filter.1 h3).2
        omega
theorem mem_putL (zs : List Int) (x n : Int) : n ∈ putL zs x ↔ n ∈ zs ∨ (n = x ∧ 0 ≤ x ∧ x ≤ 65535) := by
  unfold putL
  by_cases h1 : x < 0 ∨ 65535 < x ∨ x ∈ zs
  · rw [if_pos h1]
    constructor
    · exact .inl
    · rintro (h | ⟨rfl, h2, h3⟩)
      · exact h
      · rcases h1 with h1 | h1 | h1
        · omega
        · omega
        · exact h1
  · rw [if_neg h1]
    simp only [not_or] at h1
    unfold putYes
    simp only [List.mem_append, List.mem_filter, List.mem_singleton, decide_eq_true_eq]
    constructor
    · rintro ((⟨h, _⟩ | rfl) | ⟨h, _⟩)
      · exact .inl h
      · exact .inr ⟨rfl, by omega, by omega⟩
      · exact .inl h
    · rintro (h | ⟨rfl, _⟩)
      · rcases Int.lt_trichotomy n x with h2 | h2 | h2
        · exact .inl (.inl ⟨h, h2⟩)
        · exact .inl (.inr h2)
        · exact .inr ⟨h, h2⟩
      · exact .inl (.inr rfl)
theorem mem_ofL_fold : ∀ (zs acc : List Int) (n : Int), n ∈ zs.foldl putL acc ↔ n ∈ acc ∨ (n ∈ zs ∧ 0 ≤ n ∧ n ≤ 65535)
  | [], acc, n => by simp
  | z :: zs, acc, n => by
    rw [List.foldl_cons, mem_ofL_fold zs, mem_putL]
    simp only [List.mem_cons]
    constructor
    · rintro ((h | ⟨rfl, h1, h2⟩) | ⟨h1, h2⟩)
      · exact .inl h
      · exact .inr ⟨.inl rfl, h1, h2⟩
      · exact .inr ⟨.inr h1, h2⟩
    · rintro (h | ⟨rfl | h1, h2, h3⟩)
      · exact .inl (.inl h)
      · exact .inl (.inr ⟨rfl, h2, h3⟩)
      · exact .inr ⟨h1, h2, h3⟩
theorem mem_ofL (zs : List Int) (n : Int) : n ∈ ofL zs ↔ n ∈ zs ∧ 0 ≤ n ∧ n ≤ 65535 := by
  unfold ofL
  rw [mem_ofL_fold]
  simp
theorem rises_fold : ∀ (zs acc : List Int), Rises acc → Rises (zs.foldl putL acc)
  | [], acc, h => h
  | z :: zs, acc, h => rises_fold zs _ (rises_put acc z h)
theorem rises_ofL (zs : List Int) : Rises (ofL zs) := rises_fold zs [] List.Pairwise.nil
theorem rises_nodup {zs : List Int} (h : Rises zs) : zs.Nodup := h.imp (fun h => by omega)
/-- Two rising rows of the same numbers are one. -/
theorem rises_ext : ∀ {zs us : List Int}, Rises zs → Rises us → (∀ n, n ∈ zs ↔ n ∈ us) → zs = us
  | [], [], _, _, _ => rfl
  | [], u :: us, _, _, h => by have := (h u).2 (List.mem_cons_self ..); cases this
  | z :: zs, [], _, _, h => by have := (h z).1 (List.mem_cons_self ..); cases this
  | z :: zs, u :: us, h1, h2, h => by
    have h1' := List.pairwise_cons.1 h1
    have h2' := List.pairwise_cons.1 h2
    have e : z = u := by
      rcases List.mem_cons.1 ((h z).1 (List.mem_cons_self ..)) with h3 | h3
      · exact h3
      · rcases List.mem_cons.1 ((h u).2 (List.mem_cons_self ..)) with h4 | h4
        · exact h4.symm
        · have := h1'.1 u h4
          have := h2'.1 z h3
          omega
    subst e
    congr 1
    refine rises_ext h1'.2 h2'.2 fun n => ?_
    constructor
    · intro hn
      rcases List.mem_cons.1 ((h n).1 (List.mem_cons_of_mem _ hn)) with h3 | h3
      · have := h1'.1 n hn; omega
      · exact h3
    · intro hn
      rcases List.mem_cons.1 ((h n).2 (List.mem_cons_of_mem _ hn)) with h3 | h3
      · have := h2'.1 n hn; omega
      · exact h3
theorem filter_split (zs : List Int) (x : Int) (h : x ∉ zs) : (zs.filter fun z => decide (z < x)).length + (zs.filter fun z => decide (x < z)).length = zs.length := by
  induction zs with
  | nil => rfl
  | cons z zs ih =>
    have h1 : x ≠ z := fun e => h (by rw [e]; exact List.mem_cons_self ..)
    have h2 := ih (fun e => h (List.mem_cons_of_mem _ e))
    by_cases h3 : z < x
    · rw [List.filter_cons_of_pos (by simpa using h3), List.filter_cons_of_neg (by simp; omega)]
      simp only [List.length_cons]
      omega
    · rw [List.filter_cons_of_neg (by simp; omega), List.filter_cons_of_pos (by simp; omega)]
      simp only [List.length_cons]
      omega
theorem putL_length (zs : List Int) (x : Int) : (putL zs x).length ≤ zs.length + 1 := by
  unfold putL
  by_cases h1 : x < 0 ∨ 65535 < x ∨ x ∈ zs
  · rw [if_pos h1]; omega
  · rw [if_neg h1]
    simp only [not_or] at h1
    have := filter_split zs x h1.2.2
    unfold putYes
    simp only [List.length_append, List.length_cons, List.length_nil]
    omega
/-- Was one put in? -/
theorem putL_grows (zs : List Int) (x : Int) : decide (zs.length < (putL zs x).length) = (decide (0 ≤ x) && decide (x < 65536) && !decide (x ∈ zs)) := by
  unfold putL
  by_cases h1 : x < 0 ∨ 65535 < x ∨ x ∈ zs
  · rw [if_pos h1, decide_eq_false (by omega)]
    rcases h1 with h1 | h1 | h1
    · rw [decide_eq_false (by omega)]; rfl
    · rw [decide_eq_false (p := x < 65536) (by omega)]; simp
    · rw [decide_eq_true h1]; simp
  · rw [if_neg h1]
    simp only [not_or] at h1
    have := filter_split zs x h1.2.2
    rw [decide_eq_true (p := 0 ≤ x) (by omega), decide_eq_true (p := x < 65536) (by omega), decide_eq_false h1.2.2]
    unfold putYes
    simp only [List.length_append, List.length_cons, List.length_nil]
    rw [decide_eq_true (by omega)]
    rfl
theorem ofL_take_length (zs : List Int) (k : Nat) (h : k ≤ zs.length) : (ofL (zs.take k)).length ≤ k := by
  induction k with
  | zero => exact Nat.le_refl _
  | succ k ih =>
    rw [take_succ_getD (by omega), ofL_snoc]
    have := putL_length (ofL (zs.take k)) (zs.getD k 0)
    have := ih (by omega)
    omega
theorem ofL_length (zs : List Int) : (ofL zs).length ≤ zs.length := by
  have := ofL_take_length zs zs.length (Nat.le_refl _)
  rwa [List.take_length] at this
set_option maxHeartbeats 400000 in
theorem rof_any (w : World) (A : Option Addr) (n c : Nat) (zs : List Int) (hA : Ints w A n zs) (hn : n ≤ 10000) :
    Calls Tryd.prog 19 #[.slice A n c] w fun e w' => GivesI [] w e (ofL zs) w' := by
  have HA := Lib.hid hA
  clear hA
  go_enter Tryd.func19, Tryd.ntmps19
  go_wp2
  go_loopw [3, 8] (fun v i wr => ∃ (k : Nat) (A1 : Option Addr) (c1 : Nat), k ≤ n ∧ i = .int .i64 k ∧ v = .slice A1 (ofL (zs.take k)).length c1 ∧ Ints wr A1 (ofL (zs.take k)).length (ofL (zs.take k)) ∧ (ofL (zs.take k)).length ≤ c1 ∧ c1 ≤ 9223372036854775807 ∧ Below w.heap.size w wr ∧ ∀ j ∈ blk A1, w.heap.size ≤ j ∧ j < wr.heap.size) (fun _ i _ => n - (intOf i).toNat)
  case atStart => exact ⟨0, none, 0, by omega, rfl, rfl, ⟨rfl, (fun z hz => by cases hz), fun h => absurd h (Nat.lt_irrefl 0)⟩, Nat.le_refl _, by omega, Below.refl _ _, fun j hj => by cases hj⟩
  case round =>
    obtain ⟨k, A1, c1, hk, rfl, rfl, hI, hc1, hm1, hB, hJ⟩ := hrel
    have HJ := Lib.hid hJ
    clear hJ
    have HB := Lib.hid hB
    have HI := Lib.hid hI
    clear hI hB
    rcases Nat.lt_or_ge k n with hkn | hkn
    · obtain ⟨b, off, rfl, hb, hcs0⟩ := HA.out.at (by omega)
      have hck : wr.cell? ⟨b, off + k, none⟩ = some (.int .i64 (zs.getD k 0)) := (HB.out.cell (p := ⟨b, off + k, none⟩) hb).trans (hcs0 k hkn)
      have hq := ofL_take_length zs k (by rw [HA.out.1]; exact hk)
      have EP : Hid (ofL (zs.take (k + 1)) = putL (ofL (zs.take k)) (zs.getD k 0)) := Lib.hid (by rw [take_succ_getD (by rw [HA.out.1]; exact hkn), ofL_snoc])
      have HP := Lib.hid (rput_any wr A1 (ofL (zs.take k)).length c1 (ofL (zs.take k)) HI.out (by omega) hc1 hm1 (fun j hj => (HJ.out j hj).2) (zs.getD k 0))
      clear hcs0 hc1 hm1 hq
      have hkn' : (k : Int) < (n : Int) := by omega
      generalize zs.getD k 0 = z at *
      rw [← EP.out] at HP
      generalize (ofL (zs.take k)).length = q at *
      go_wp2_with (go_at_call 9; refine HP.out.mono ?_; rintro e w1 ⟨A2, c2, rfl, hI2, hB2, hc2, hm2, hJ2⟩)
      go_roundw
      case rel => exact ⟨k + 1, A2, c2, by omega, by go_num, rfl, hI2, hc2, hm2, HB.out.trans (hB2.mono HB.out.size), fun j hj => by obtain ⟨h6 | h6, h7⟩ := hJ2 j hj; exact ⟨(HJ.out j h6).1, h7⟩; exact ⟨Nat.le_trans HB.out.size h6, h7⟩⟩
      case measure => simp [intOf]; omega
    · obtain rfl : k = n := by omega
      have HX : Hid (GivesI [] w (.returned (.slice A1 (ofL (zs.take k)).length c1)) (ofL zs) wr) := by
        have h1 := HI.out
        rw [List.take_of_length_le (by rw [HA.out.1]; exact Nat.le_refl _)] at h1 hc1 ⊢
        exact Lib.hid ⟨A1, c1, rfl, h1, HB.out, hc1, hm1, fun j hj => ⟨.inr (HJ.out j hj).1, (HJ.out j hj).2⟩⟩
      clear hc1
      go_wp2
      go_ret
      exact HX.out
/-- The first k are alike. -/
def alikeI (zs us : List Int) (k : Nat) : Bool := (List.range k).all fun j => zs.getD j 0 == us.getD j 0
theorem alikeI_iff (zs us : List Int) (k : Nat) : alikeI zs us k = true ↔ ∀ j, j < k → zs.getD j 0 = us.getD j 0 := by
  unfold alikeI
  rw [List.all_eq_true]
  constructor
  · intro h j hj
    simpa using h j (List.mem_range.2 hj)
  · intro h j hj
    simpa using h j (List.mem_range.1 hj)
theorem list_ext_getD {zs us : List Int} (hl : zs.length = us.length) (h : ∀ j, j < zs.length → zs.getD j 0 = us.getD j 0) : zs = us := by
  apply List.ext_getElem hl
  intro j h1 h2
  have := h j h1
  simpa [List.getD, h1, h2] using this
theorem rsame_any (w : World) (A B : Option Addr) (n m c c2 : Nat) (zs us : List Int) (hA : Ints w A n zs) (hB : Ints w B m us) (hn : n ≤ 100000) (hm : m ≤ 100000) :
    Calls Tryd.prog 14 #[.slice A n c, .slice B m c2] w fun e w' => e = .returned (.bool (decide (zs = us))) ∧ ∃ q, w' = w.drewN q := by
  by_cases hnm : n = m
  · subst hnm
    have HA := Lib.hid hA
    have HB := Lib.hid hB
    clear hA hB
    go_enter Tryd.func14, Tryd.ntmps14
    go_wp2
    go_loopw [13] (fun i wr => ∃ k : Nat, k ≤ n ∧ i = .int .i64 k ∧ alikeI zs us k = true ∧ ∃ q, wr = w.drewN q) (fun i _ => n - (intOf i).toNat)
    case atStart => exact ⟨0, by omega, rfl, rfl, 0, rfl⟩
    case round =>
      obtain ⟨k, hk, rfl, hal, q, rfl⟩ := hrel
      have HAL := Lib.hid hal
      clear hal
      rcases Nat.lt_or_ge k n with hkn | hkn
      · obtain ⟨g, o, rfl, _, hc0⟩ := HA.out.at (by omega)
        obtain ⟨g2, o2, rfl, _, hd0⟩ := HB.out.at (by omega)
        have hc : (w.drewN q).cell? ⟨g, o + k, none⟩ = some (.int .i64 (zs.getD k 0)) := hc0 k hkn
        have hd : (w.drewN q).cell? ⟨g2, o2 + k, none⟩ = some (.int .i64 (us.getD k 0)) := hd0 k hkn
        have HY : Hid (zs.getD k 0 = us.getD k 0 → alikeI zs us (k + 1) = true) := Lib.hid (fun h => (alikeI_iff _ _ _).2 (fun j hj => by
          rcases Nat.lt_or_ge j k with h1 | h1
          · exact (alikeI_iff _ _ _).1 HAL.out j h1
          · obtain rfl : j = k := by omega
            exact h))
        have HN : Hid (zs.getD k 0 ≠ us.getD k 0 → decide (zs = us) = false) := Lib.hid (fun hne => decide_eq_false (fun e => hne (by rw [e])))
        clear hc0 hd0
        generalize zs.getD k 0 = x at *
        generalize us.getD k 0 = u at *
        generalize hWq : w.drewN q = wq at *
        have HQ := Lib.hid hWq
        clear hWq
        have hkn' : (k : Int) < (n : Int) := by omega
        have hk0 : (0 : Int) ≤ (k : Int) := by omega
        by_cases e : x = u
        · subst e
          have hb : (x != x) = false := by simp
          go_wp2
          go_quiet (fail)
          go_wp2
          go_roundw
          case rel => exact ⟨k + 1, by omega, by go_num, HY.out trivial, _, by rw [← HQ.out]; exact drewN_two _ _ _⟩
          case measure => simp [intOf]; omega
        · have hb : (x != u) = true := by simpa using e
          have HE := Lib.hid e
          clear e
          go_wp2
          go_quiet (fail)
          go_wp2
          go_ret
          exact ⟨by rw [HN.out HE.out]; rfl, _, by rw [← HQ.out]; exact drewN_two _ _ _⟩
      · obtain rfl : k = n := by omega
        have HY : Hid (decide (zs = us) = true) := Lib.hid (decide_eq_true (list_ext_getD (by rw [HA.out.1, HB.out.1]) (fun j hj => (alikeI_iff _ _ _).1 HAL.out j (by rw [HA.out.1] at hj; exact hj))))
        go_wp2
        go_ret
        exact ⟨by rw [HY.out]; rfl, _, rfl⟩
  · have hd : decide (zs = us) = false := decide_eq_false (fun e => hnm (by rw [← hA.1, ← hB.1, e]))
    have hb : ((n : Int) != (m : Int)) = true := by simp; omega
    have HD := Lib.hid hd
    clear hA hB hd
    go_enter Tryd.func14, Tryd.ntmps14
    go_wp2
    go_ret
    exact ⟨by rw [HD.out]; rfl, 0, rfl⟩
end Go.Proofs.YtjkcomoadpileaaDoor
