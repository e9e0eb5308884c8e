/-
  Contracts of package asm: is an operand among those that an instruction has; may registers be so.
-/
import Derived.Test.YtadgemcpahfkoaaKme
import Derived.Lib.Hide
namespace Go.Proofs.Ytadgemcpahfkoaa
open Go.RowKit
set_option linter.unusedVariables false
set_option linter.unusedSimpArgs false
set_option maxRecDepth 100000

/-- Operands in memory. -/
def OpsAt (w : World) (A : Option Addr) (zs : List Int) : Prop :=
  0 < zs.length → ∃ g, A = some ⟨g, 0, none⟩ ∧ g < w.heap.size ∧ ∀ j, j < zs.length → w.cell? ⟨g, j, none⟩ = some (.int .i64 (zs.getD j 0))
theorem OpsAt.below {w w' : World} {A : Option Addr} {zs : List Int} (h : OpsAt w A zs) (hb : Below w.heap.size w w') : OpsAt w' A zs := fun h0 => by
  obtain ⟨g, e, hg, hc⟩ := h h0
  exact ⟨g, e, Nat.lt_of_lt_of_le hg hb.size, fun j hj => (hb.cell (p := ⟨g, j, none⟩) hg).trans (hc j hj)⟩
theorem opsAt_new (w : World) (vs : Array Value) (t : TypeId) (zs : List Int) (h : vs = (zs.map fun z => Value.int .i64 z).toArray) : OpsAt (w.alloc (.cells vs t)) (some ⟨w.heap.size, 0, none⟩) zs := fun h0 => by
  refine ⟨w.heap.size, rfl, by simp, fun j hj => ?_⟩
  subst h
  rw [cell_of_row _ _ j _ _ (0, 0) (heap_alloc_new w _)]
  simp [hj]

def idxZ (v : Int) : List Int → Int → Int
  | [], _ => -1
  | z :: zs, k => if z = v then k else idxZ v zs (k + 1)
theorem idx_hit (v : Int) : ∀ (zs : List Int) (k : Int) (j : Nat), j < zs.length → (∀ i, i < j → zs.getD i 0 ≠ v) → zs.getD j 0 = v → idxZ v zs k = k + j
  | [], k, j, h, _, _ => by cases h
  | z :: zs, k, 0, h, hn, he => by
    simp [List.getD] at he
    simp [idxZ, he]
  | z :: zs, k, j + 1, h, hn, he => by
    have h0 := hn 0 (by omega)
    simp [List.getD] at h0
    unfold idxZ
    rw [if_neg h0, idx_hit v zs (k + 1) j (by simpa using h) (fun i hi => by have := hn (i + 1) (by omega); simpa [List.getD] using this) (by simpa [List.getD] using he)]
    omega
theorem idx_no (v : Int) : ∀ (zs : List Int) (k : Int), (∀ i, i < zs.length → zs.getD i 0 ≠ v) → idxZ v zs k = -1
  | [], k, _ => rfl
  | z :: zs, k, h => by
    have h0 := h 0 (by simp)
    simp [List.getD] at h0
    unfold idxZ
    rw [if_neg h0, idx_no v zs (k + 1) (fun i hi => by have := h (i + 1) (by simpa using hi); simpa [List.getD] using this)]

set_option maxHeartbeats 800000 in
theorem index_any (w : World) (A : Option Addr) (n c : Nat) (zs : List Int) (v : Int) (hl : zs.length = n) (hn : n ≤ 1000) (h : OpsAt w A zs) :
    Calls Try.prog 99 #[.slice A n c, .int .i64 v] w fun e w' => e = .returned (.int .i64 (idxZ v zs 0)) ∧ w = w' := by
  have HL := Lib.hid h
  have HN := Lib.hid hl
  have hn63 : (n : Int) ≤ 1000 := by omega
  clear h hl
  go_enter Try.func99, Try.ntmps99
  go_wp2
  go_loop [8] (fun i => ∃ k : Nat, k ≤ n ∧ i = .int .i64 k ∧ Hid (∀ j, j < k → zs.getD j 0 ≠ v)) (fun i => n - (intOf i).toNat)
  case atStart => exact ⟨0, by omega, rfl, Lib.hid (fun j hj => by omega)⟩
  case round =>
    obtain ⟨k, hk, rfl, HI⟩ := hrel
    rcases Nat.lt_or_ge k n with hkm | hkm
    · obtain ⟨g, rfl, hg, hc⟩ := HL.out (by rw [HN.out]; omega)
      have d0 := hc k (by rw [HN.out]; omega)
      obtain ⟨z, hz⟩ : ∃ z, zs.getD k 0 = z := ⟨_, rfl⟩
      rw [hz] at d0
      have HZ := Lib.hid hz
      clear hg hc hz
      have hkm' : (k : Int) < (n : Int) := by omega
      have hk0 : (0 : Int) ≤ (k : Int) := by omega
      by_cases h1 : z = v
      · have h1b : (v == z) = true := by simp [h1]
        have HE : Hid (idxZ v zs 0 = (k : Int)) := Lib.hid (by
          have := idx_hit v zs 0 k (by rw [HN.out]; omega) HI.out (by rw [HZ.out, h1])
          omega)
        clear h1
        go_wp2
        go_ret
        exact ⟨by rw [HE.out]; rfl, rfl⟩
      · have h1b : (v == z) = false := by simpa using (fun h => h1 h.symm)
        have HST : Hid (∀ j, j < k + 1 → zs.getD j 0 ≠ v) := Lib.hid (fun j hj => by
          rcases Nat.lt_or_ge j k with q | q
          · exact HI.out j q
          · obtain rfl : j = k := by omega
            rw [HZ.out]
            exact h1)
        go_wp2
        go_round
        case rel => exact ⟨k + 1, by omega, by go_num, HST⟩
        case measure => simp [intOf] <;> omega
    · obtain rfl : k = n := by omega
      have HE : Hid (idxZ v zs 0 = -1) := Lib.hid (idx_no v zs 0 (fun i hi => HI.out i (by rw [← HN.out]; exact hi)))
      go_wp2
      go_ret
      exact ⟨by rw [HE.out]; rfl, rfl⟩

theorem contains_any (w : World) (A : Option Addr) (n c : Nat) (zs : List Int) (v : Int) (hl : zs.length = n) (hn : n ≤ 1000) (h : OpsAt w A zs) :
    Calls Try.prog 96 #[.slice A n c, .int .i64 v] w fun e w' => e = .returned (.bool (decide (0 ≤ idxZ v zs 0))) ∧ w = w' := by
  have H := Lib.hid (index_any w A n c zs v hl hn h)
  clear h
  go_enter Try.func96, Try.ntmps96
  go_wp2_with (go_at_call 99; refine H.out.mono ?_; rintro e w' ⟨rfl, rfl⟩)
  go_ret
  exact ⟨rfl, rfl⟩

/-- The function may (a closure over what an instruction has), with one operand or two. -/
theorem may1_any (w : World) (p : Nat) (A B : Option Addr) (n c : Nat) (zs : List Int) (r o : Int) (hl : zs.length = n) (hn : n ≤ 1000) (h : OpsAt w A zs) (hp : w.cell? ⟨p, 0, none⟩ = some (.slice A n c)) (hB : OpsAt w B [o]) :
    Calls Try.prog 95 #[.int .i64 r, .slice B 1 1, .pointer (some ⟨p, 0, none⟩)] w fun e w' => e = .returned (.bool (regOk (decide (0 ≤ idxZ o zs 0)) r)) ∧ w = w' := by
  have H := Lib.hid (contains_any w A n c zs o hl hn h)
  obtain ⟨g, rfl, hg, hc⟩ := hB (by simp)
  have d0 : w.cell? ⟨g, 0, none⟩ = some (.int .i64 o) := hc 0 (by simp)
  generalize decide (0 ≤ idxZ o zs 0) = q at *
  clear h hc hB hl
  cases q
  · go_enter Try.func95, Try.ntmps95
    go_wp2_with fail
    refine wp_loop_rounds 2 ?_
    rw [rounds_succ]
    go_wp2_with (go_at_call 96; refine H.out.mono ?_; rintro e w' ⟨rfl, rfl⟩)
    rw [rounds_succ]
    go_wp2
    go_ret
    exact ⟨rfl, rfl⟩
  · go_enter Try.func95, Try.ntmps95
    go_wp2_with fail
    refine wp_loop_rounds 2 ?_
    rw [rounds_succ]
    by_cases h0 : 0 ≤ r
    · by_cases h1 : r < 32
      · go_wp2_with (go_at_call 96; refine H.out.mono ?_; rintro e w' ⟨rfl, rfl⟩)
        go_ret
        exact ⟨by simp [regOk, h0, h1], rfl⟩
      · go_wp2_with (go_at_call 96; refine H.out.mono ?_; rintro e w' ⟨rfl, rfl⟩)
        go_ret
        exact ⟨by simp [regOk, h0, h1], rfl⟩
    · go_wp2_with (go_at_call 96; refine H.out.mono ?_; rintro e w' ⟨rfl, rfl⟩)
      go_ret
      exact ⟨by simp [regOk]; omega, rfl⟩

/-- The function may, with the two operands that A may be. -/
theorem may2_any (w : World) (p : Nat) (A B : Option Addr) (n c : Nat) (zs : List Int) (r : Int) (hl : zs.length = n) (hn : n ≤ 1000) (h : OpsAt w A zs) (hp : w.cell? ⟨p, 0, none⟩ = some (.slice A n c)) (hB : OpsAt w B [1, 4]) :
    Calls Try.prog 95 #[.int .i64 r, .slice B 2 2, .pointer (some ⟨p, 0, none⟩)] w fun e w' => e = .returned (.bool (regOk (decide (0 ≤ idxZ 1 zs 0) || decide (0 ≤ idxZ 4 zs 0)) r)) ∧ w = w' := by
  have H := Lib.hid (contains_any w A n c zs 1 hl hn h)
  have H4 := Lib.hid (contains_any w A n c zs 4 hl hn h)
  obtain ⟨g, rfl, hg, hc⟩ := hB (by simp)
  have d0 : w.cell? ⟨g, 0, none⟩ = some (.int .i64 1) := hc 0 (by simp)
  have d1 : w.cell? ⟨g, 1, none⟩ = some (.int .i64 4) := hc 1 (by simp)
  generalize decide (0 ≤ idxZ 1 zs 0) = q at *
  generalize decide (0 ≤ idxZ 4 zs 0) = q4 at *
  clear h hc hB hl
  have R : ∀ b : Bool, regOk b r = if b = true then decide (0 ≤ r) && decide (r < 32) else r == 0 := fun b => by cases b <;> rfl
  have HR := Lib.hid R
  clear R
  go_enter Try.func95, Try.ntmps95
  go_wp2_with fail
  refine wp_loop_rounds 3 ?_
  rw [rounds_succ]
  cases q
  · cases q4
    · go_wp2_with (go_at_call 96; first | ((with_reducible refine H.out.mono ?_); rintro e w' ⟨rfl, rfl⟩) | ((with_reducible refine H4.out.mono ?_); rintro e w' ⟨rfl, rfl⟩))
      rw [rounds_succ]
      go_wp2_with (go_at_call 96; first | ((with_reducible refine H.out.mono ?_); rintro e w' ⟨rfl, rfl⟩) | ((with_reducible refine H4.out.mono ?_); rintro e w' ⟨rfl, rfl⟩))
      rw [rounds_succ]
      go_wp2
      go_ret
      exact ⟨rfl, rfl⟩
    · go_wp2_with (go_at_call 96; first | ((with_reducible refine H.out.mono ?_); rintro e w' ⟨rfl, rfl⟩) | ((with_reducible refine H4.out.mono ?_); rintro e w' ⟨rfl, rfl⟩))
      rw [rounds_succ]
      by_cases h0 : 0 ≤ r
      · by_cases h1 : r < 32
        · go_wp2_with (go_at_call 96; first | ((with_reducible refine H.out.mono ?_); rintro e w' ⟨rfl, rfl⟩) | ((with_reducible refine H4.out.mono ?_); rintro e w' ⟨rfl, rfl⟩))
          go_ret
          exact ⟨by simp [regOk, h0, h1], rfl⟩
        · go_wp2_with (go_at_call 96; first | ((with_reducible refine H.out.mono ?_); rintro e w' ⟨rfl, rfl⟩) | ((with_reducible refine H4.out.mono ?_); rintro e w' ⟨rfl, rfl⟩))
          go_ret
          exact ⟨by simp [regOk, h0, h1], rfl⟩
      · go_wp2_with (go_at_call 96; first | ((with_reducible refine H.out.mono ?_); rintro e w' ⟨rfl, rfl⟩) | ((with_reducible refine H4.out.mono ?_); rintro e w' ⟨rfl, rfl⟩))
        go_ret
        exact ⟨by simp [regOk]; omega, rfl⟩
  · by_cases h0 : 0 ≤ r
    · by_cases h1 : r < 32
      · go_wp2_with (go_at_call 96; first | ((with_reducible refine H.out.mono ?_); rintro e w' ⟨rfl, rfl⟩) | ((with_reducible refine H4.out.mono ?_); rintro e w' ⟨rfl, rfl⟩))
        go_ret
        exact ⟨by simp [regOk, h0, h1], rfl⟩
      · go_wp2_with (go_at_call 96; first | ((with_reducible refine H.out.mono ?_); rintro e w' ⟨rfl, rfl⟩) | ((with_reducible refine H4.out.mono ?_); rintro e w' ⟨rfl, rfl⟩))
        go_ret
        exact ⟨by simp [regOk, h0, h1], rfl⟩
    · go_wp2_with (go_at_call 96; first | ((with_reducible refine H.out.mono ?_); rintro e w' ⟨rfl, rfl⟩) | ((with_reducible refine H4.out.mono ?_); rintro e w' ⟨rfl, rfl⟩))
      go_ret
      exact ⟨by simp [regOk]; omega, rfl⟩

theorem OpsAt.alloc {w : World} {A : Option Addr} {zs : List Int} (h : OpsAt w A zs) (o : Obj) : OpsAt (w.alloc o) A zs := h.below ((Below.refl _ w).alloc (Nat.le_refl _) _)
theorem cell_alloc {w : World} {g j : Nat} {v : Value} (h : w.cell? ⟨g, j, none⟩ = some v) (o : Obj) : (w.alloc o).cell? ⟨g, j, none⟩ = some v :=
  (((Below.refl _ w).alloc (Nat.le_refl _) _).cell (p := ⟨g, j, none⟩) (World.block_lt_of_cell? w _ h)).trans h
theorem cell_alloc_new (w : World) (vs : Array Value) (t : TypeId) (v : Value) (h : vs[0]? = some v) : (w.alloc (.cells vs t)).cell? ⟨w.heap.size, 0, none⟩ = some v := by
  rw [cell_of_row _ _ 0 _ _ (0, 0) (heap_alloc_new w _)]
  exact h

/-- What an instruction has decides which registers may be what. -/
def hasL (zs : List Int) (o : Int) : Bool := decide (0 ≤ idxZ o zs 0)
set_option maxHeartbeats 3200000 in
theorem mayRegisters_any (w : World) (k op d a b m : Int) (s : ByteArray) (A : Option Addr) (n c : Nat) (zs : List Int) (hl : zs.length = n) (hn : n ≤ 1000) (h : OpsAt w A zs) :
    Calls Try.prog 73 #[.agg #[.int .i64 k, .int .i64 op, .int .i64 d, .int .i64 a, .int .i64 b, .int .i32 m, .string s], .slice A n c] w
      fun e w' => e = .returned (.bool (regOk (hasL zs 0) d && regOk (hasL zs 1 || hasL zs 4) a && regOk (hasL zs 2) b)) ∧ Below w.heap.size w w' := by
  have hmf : ∀ (fn : Fn) (first cap : Array Value) (w : World), (Instr.makeFunc fn first cap).run Try.prog w = .ok (.func fn first cap) w := fun _ _ _ _ => rfl
  obtain ⟨W1, hW1⟩ : ∃ W1, w.alloc (.cells #[.int .i64 k, .int .i64 op, .int .i64 d, .int .i64 a, .int .i64 b, .int .i32 m, .string s] 39) = W1 := ⟨_, rfl⟩
  obtain ⟨W2, hW2⟩ : ∃ W2, W1.alloc (.cells #[.slice A n c] 112) = W2 := ⟨_, rfl⟩
  obtain ⟨W3, hW3⟩ : ∃ W3, W2.alloc (.cells #[.int .i64 0] 125) = W3 := ⟨_, rfl⟩
  obtain ⟨W4, hW4⟩ : ∃ W4, W3.alloc (.cells #[.int .i64 1, .int .i64 4] 125) = W4 := ⟨_, rfl⟩
  obtain ⟨W5, hW5⟩ : ∃ W5, W4.alloc (.cells #[.int .i64 2] 125) = W5 := ⟨_, rfl⟩
  have s1 : W1.heap.size = w.heap.size + 1 := by rw [← hW1]; simp
  have s2 : W2.heap.size = w.heap.size + 1 + 1 := by rw [← hW2]; simp [s1]
  have s3 : W3.heap.size = w.heap.size + 1 + 1 + 1 := by rw [← hW3]; simp [s2]
  have s4 : W4.heap.size = w.heap.size + 1 + 1 + 1 + 1 := by rw [← hW4]; simp [s3]
  have o1 : OpsAt W1 A zs := by rw [← hW1]; exact h.alloc _
  have o2 : OpsAt W2 A zs := by rw [← hW2]; exact o1.alloc _
  have o3 : OpsAt W3 A zs := by rw [← hW3]; exact o2.alloc _
  have o4 : OpsAt W4 A zs := by rw [← hW4]; exact o3.alloc _
  have o5 : OpsAt W5 A zs := by rw [← hW5]; exact o4.alloc _
  have c2 : W2.cell? ⟨w.heap.size + 1, 0, none⟩ = some (.slice A n c) := by rw [← hW2, ← s1]; exact cell_alloc_new _ _ _ _ rfl
  have c3 : W3.cell? ⟨w.heap.size + 1, 0, none⟩ = some (.slice A n c) := by rw [← hW3]; exact cell_alloc c2 _
  have c4 : W4.cell? ⟨w.heap.size + 1, 0, none⟩ = some (.slice A n c) := by rw [← hW4]; exact cell_alloc c3 _
  have c5 : W5.cell? ⟨w.heap.size + 1, 0, none⟩ = some (.slice A n c) := by rw [← hW5]; exact cell_alloc c4 _
  have p3 : OpsAt W3 (some ⟨w.heap.size + 1 + 1, 0, none⟩) [0] := by rw [← hW3, ← s2]; exact opsAt_new _ _ _ _ rfl
  have p4 : OpsAt W4 (some ⟨w.heap.size + 1 + 1 + 1, 0, none⟩) [1, 4] := by rw [← hW4, ← s3]; exact opsAt_new _ _ _ _ rfl
  have p5 : OpsAt W5 (some ⟨w.heap.size + 1 + 1 + 1 + 1, 0, none⟩) [2] := by rw [← hW5, ← s4]; exact opsAt_new _ _ _ _ rfl
  have B1 : Below w.heap.size w W1 := by rw [← hW1]; exact (Below.refl _ w).alloc (Nat.le_refl _) _
  have B2 : Below w.heap.size w W2 := by rw [← hW2]; exact B1.alloc (by omega) _
  have B3 : Below w.heap.size w W3 := by rw [← hW3]; exact B2.alloc (by omega) _
  have B4 : Below w.heap.size w W4 := by rw [← hW4]; exact B3.alloc (by omega) _
  have B5 : Below w.heap.size w W5 := by rw [← hW5]; exact B4.alloc (by omega) _
  have M1 := may1_any W3 (w.heap.size + 1) A _ n c zs d 0 hl hn o3 c3 p3
  have M2 := may2_any W4 (w.heap.size + 1) A _ n c zs a hl hn o4 c4 p4
  have M3 := may1_any W5 (w.heap.size + 1) A _ n c zs b 2 hl hn o5 c5 p5
  have E1 : regOk (decide (0 ≤ idxZ 0 zs 0)) d = regOk (hasL zs 0) d := rfl
  have E2 : regOk (decide (0 ≤ idxZ 1 zs 0) || decide (0 ≤ idxZ 4 zs 0)) a = regOk (hasL zs 1 || hasL zs 4) a := rfl
  have E3 : regOk (decide (0 ≤ idxZ 2 zs 0)) b = regOk (hasL zs 2) b := rfl
  rw [E1] at M1
  rw [E2] at M2
  rw [E3] at M3
  clear E1 E2 E3
  generalize regOk (hasL zs 0) d = q1 at *
  generalize regOk (hasL zs 1 || hasL zs 4) a = q2 at *
  generalize regOk (hasL zs 2) b = q3 at *
  rw [← hW5, ← hW4, ← hW3, ← hW2, ← hW1] at M3 B5
  rw [← hW4, ← hW3, ← hW2, ← hW1] at M2 B4
  rw [← hW3, ← hW2, ← hW1] at M1 B3
  have N1 := Lib.hid M1
  have N2 := Lib.hid M2
  have N3 := Lib.hid M3
  have HB := Lib.hid (And.intro B3 (And.intro B4 B5))
  clear M1 M2 M3 B1 B2 B3 B4 B5 o1 o2 o3 o4 o5 c2 c3 c4 c5 p3 p4 p5 s1 s2 s3 s4 hW1 hW2 hW3 hW4 hW5 h hl W1 W2 W3 W4 W5
  cases q1
  · go_enter Try.func73, Try.ntmps73
    go_wp2_with (first | ((with_reducible refine N1.out.mono ?_); rintro e w' ⟨rfl, rfl⟩) | ((with_reducible refine N2.out.mono ?_); rintro e w' ⟨rfl, rfl⟩) | ((with_reducible refine N3.out.mono ?_); rintro e w' ⟨rfl, rfl⟩))
    go_ret
    exact ⟨rfl, HB.out.1⟩
  · cases q2
    · go_enter Try.func73, Try.ntmps73
      go_wp2_with (first | ((with_reducible refine N1.out.mono ?_); rintro e w' ⟨rfl, rfl⟩) | ((with_reducible refine N2.out.mono ?_); rintro e w' ⟨rfl, rfl⟩) | ((with_reducible refine N3.out.mono ?_); rintro e w' ⟨rfl, rfl⟩))
      go_ret
      exact ⟨rfl, HB.out.2.1⟩
    · go_enter Try.func73, Try.ntmps73
      go_wp2_with (first | ((with_reducible refine N1.out.mono ?_); rintro e w' ⟨rfl, rfl⟩) | ((with_reducible refine N2.out.mono ?_); rintro e w' ⟨rfl, rfl⟩) | ((with_reducible refine N3.out.mono ?_); rintro e w' ⟨rfl, rfl⟩))
      go_ret
      exact ⟨by simp, HB.out.2.2⟩
end Go.Proofs.Ytadgemcpahfkoaa
