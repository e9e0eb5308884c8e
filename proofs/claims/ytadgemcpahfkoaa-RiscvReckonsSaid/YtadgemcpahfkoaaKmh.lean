/-
  Contract of asm.MayLine, of an instruction without a symbol.
-/
import Derived.Test.YtadgemcpahfkoaaKmg
namespace Go.Proofs.Ytadgemcpahfkoaa
open Go.RowKit
set_option linter.unusedVariables false
set_option linter.unusedSimpArgs false
set_option maxRecDepth 100000
set_option maxHeartbeats 3200000 in
theorem mayLine_any (op d a b n : Int) (b1 : -2147483648 ≤ n) (b2 : n ≤ 2147483647) (w : World) :
    Calls Try.prog 50 #[.agg #[.int .i64 2, .int .i64 op, .int .i64 d, .int .i64 a, .int .i64 b, .int .i32 n, .string ⟨#[]⟩]] w fun e w' => e = .returned (.bool (mayI ⟨op, d, a, b, n⟩)) ∧ Below w.heap.size w w' := by
  by_cases hop : 1 ≤ op ∧ op ≤ 30
  · obtain ⟨h1, h2⟩ := hop
    obtain ⟨k1, k2, k3⟩ := has_ops op h1 h2
    obtain ⟨W0, hW0⟩ : ∃ W0, w.alloc (.cells #[.int .i64 2, .int .i64 op, .int .i64 d, .int .i64 a, .int .i64 b, .int .i32 n, .string ⟨#[]⟩] 39) = W0 := ⟨_, rfl⟩
    obtain ⟨v0, hv0⟩ : ∃ v0, w.heap.size = v0 := ⟨_, rfl⟩
    have hB0 : Below w.heap.size w W0 := by rw [← hW0]; exact (Below.refl _ _).alloc (Nat.le_refl _) _
    have hcell : ∀ W', Below W0.heap.size W0 W' → ∀ j v, (#[Value.int .i64 2, .int .i64 op, .int .i64 d, .int .i64 a, .int .i64 b, .int .i32 n, .string ⟨#[]⟩] : Array Value)[j]? = some v → W'.cell? ⟨v0, j, none⟩ = some v := fun W' hb j v hj => by
      refine (hb.cell (p := ⟨v0, j, none⟩) (by rw [← hv0, ← hW0]; simp)).trans ?_
      rw [← hv0, ← hW0, cell_of_row _ _ j _ _ (0, 0) (heap_alloc_new w _)]
      exact hj
    have HM : mayI ⟨op, d, a, b, n⟩ = (regOk (hasDN (formN op.toNat)) d && regOk (hasAN (formN op.toNat)) a && regOk (hasBN (formN op.toNat)) b && numOk (formN op.toNat) n) := by
      simp [mayI, h1, h2]
    rw [HM, ← k1, ← k2, ← k3]
    have HO := Lib.hid (operands_any op h1 h2 W0)
    have HR := Lib.hid (fun (W : World) (A : Option Addr) (m : Nat) (hl : (opsL op).length = m) (hn : m ≤ 1000) (h : OpsAt W A (opsL op)) => mayRegisters_any W 2 op d a b n ⟨#[]⟩ A m m (opsL op) hl hn h)
    have HN := Lib.hid (mayNum_any op d a b n h1 h2 b1 b2)
    have HS := Lib.hid (maySym_any op d a b n)
    generalize (regOk (hasL (opsL op) 0) d && regOk (hasL (opsL op) 1 || hasL (opsL op) 4) a && regOk (hasL (opsL op) 2) b) = q1 at *
    generalize numOk (formN op.toNat) n = q2 at *
    have HC := Lib.hid hcell
    have HB0 := Lib.hid hB0
    have HV0 := Lib.hid hv0
    have Bx : Below W0.heap.size W0 W0 := Below.refl _ _
    have x0 : W0.cell? ⟨v0, 0, none⟩ = some (.int .i64 2) := HC.out _ Bx 0 _ rfl
    have x1 : W0.cell? ⟨v0, 1, none⟩ = some (.int .i64 op) := HC.out _ Bx 1 _ rfl
    have x2 : W0.cell? ⟨v0, 2, none⟩ = some (.int .i64 d) := HC.out _ Bx 2 _ rfl
    have x3 : W0.cell? ⟨v0, 3, none⟩ = some (.int .i64 a) := HC.out _ Bx 3 _ rfl
    have x4 : W0.cell? ⟨v0, 4, none⟩ = some (.int .i64 b) := HC.out _ Bx 4 _ rfl
    have x5 : W0.cell? ⟨v0, 5, none⟩ = some (.int .i32 n) := HC.out _ Bx 5 _ rfl
    have x6 : W0.cell? ⟨v0, 6, none⟩ = some (.string ⟨#[]⟩) := HC.out _ Bx 6 _ rfl
    clear HM k1 k2 k3 hcell hB0 Bx
    have hk2 : ((2 : Int) == 1) = false := by decide
    cases q1 <;> cases q2
    all_goals
      go_enter Try.func50, Try.ntmps50
      go_wp2_with (first
        | (go_at_call 72; (with_reducible refine HO.out.mono ?_); rintro e w1 ⟨A, m, rfl, hm1, hm2, hO, hb1⟩; have By : Below W0.heap.size W0 w1 := hb1
           have y0 : w1.cell? ⟨v0, 0, none⟩ = some (.int .i64 2) := HC.out _ By 0 _ rfl
           have y1 : w1.cell? ⟨v0, 1, none⟩ = some (.int .i64 op) := HC.out _ By 1 _ rfl
           have y2 : w1.cell? ⟨v0, 2, none⟩ = some (.int .i64 d) := HC.out _ By 2 _ rfl
           have y3 : w1.cell? ⟨v0, 3, none⟩ = some (.int .i64 a) := HC.out _ By 3 _ rfl
           have y4 : w1.cell? ⟨v0, 4, none⟩ = some (.int .i64 b) := HC.out _ By 4 _ rfl
           have y5 : w1.cell? ⟨v0, 5, none⟩ = some (.int .i32 n) := HC.out _ By 5 _ rfl
           have y6 : w1.cell? ⟨v0, 6, none⟩ = some (.string ⟨#[]⟩) := HC.out _ By 6 _ rfl
           have HY := Lib.hid (And.intro By (And.intro hm1 (And.intro hm2 hO))); clear By hb1 hm1 hm2 hO)
        | (go_at_call 73; (with_reducible refine (HR.out _ _ _ HY.out.2.1 (Nat.le_trans HY.out.2.2.1 (by decide)) HY.out.2.2.2).mono ?_); rintro e w2 ⟨rfl, hb2⟩; have Bz := HY.out.1.trans (hb2.mono HY.out.1.size)
           have z0 : w2.cell? ⟨v0, 0, none⟩ = some (.int .i64 2) := HC.out _ Bz 0 _ rfl
           have z1 : w2.cell? ⟨v0, 1, none⟩ = some (.int .i64 op) := HC.out _ Bz 1 _ rfl
           have z2 : w2.cell? ⟨v0, 2, none⟩ = some (.int .i64 d) := HC.out _ Bz 2 _ rfl
           have z3 : w2.cell? ⟨v0, 3, none⟩ = some (.int .i64 a) := HC.out _ Bz 3 _ rfl
           have z4 : w2.cell? ⟨v0, 4, none⟩ = some (.int .i64 b) := HC.out _ Bz 4 _ rfl
           have z5 : w2.cell? ⟨v0, 5, none⟩ = some (.int .i32 n) := HC.out _ Bz 5 _ rfl
           have z6 : w2.cell? ⟨v0, 6, none⟩ = some (.string ⟨#[]⟩) := HC.out _ Bz 6 _ rfl
           have HZ := Lib.hid Bz; clear Bz hb2)
        | (go_at_call 74; (with_reducible refine (HN.out _).mono ?_); rintro e w3 ⟨rfl, hb3⟩; have Bu := HZ.out.trans (hb3.mono HZ.out.size)
           have u0 : w3.cell? ⟨v0, 0, none⟩ = some (.int .i64 2) := HC.out _ Bu 0 _ rfl
           have u1 : w3.cell? ⟨v0, 1, none⟩ = some (.int .i64 op) := HC.out _ Bu 1 _ rfl
           have u2 : w3.cell? ⟨v0, 2, none⟩ = some (.int .i64 d) := HC.out _ Bu 2 _ rfl
           have u3 : w3.cell? ⟨v0, 3, none⟩ = some (.int .i64 a) := HC.out _ Bu 3 _ rfl
           have u4 : w3.cell? ⟨v0, 4, none⟩ = some (.int .i64 b) := HC.out _ Bu 4 _ rfl
           have u5 : w3.cell? ⟨v0, 5, none⟩ = some (.int .i32 n) := HC.out _ Bu 5 _ rfl
           have u6 : w3.cell? ⟨v0, 6, none⟩ = some (.string ⟨#[]⟩) := HC.out _ Bu 6 _ rfl
           have HU := Lib.hid Bu; clear Bu hb3)
        | (go_at_call 75; (with_reducible refine (HS.out _).mono ?_); rintro e w4 ⟨rfl, hb4⟩; have HT := Lib.hid (HU.out.trans (hb4.mono HU.out.size)); clear hb4))
      go_ret
      refine ⟨rfl, ?_⟩
      first | exact HB0.out.trans (HT.out.mono HB0.out.size) | exact HB0.out.trans (HU.out.mono HB0.out.size) | exact HB0.out.trans (HZ.out.mono HB0.out.size)
  · have HM : mayI ⟨op, d, a, b, n⟩ = false := by
      simp only [not_and, Int.not_le] at hop
      unfold mayI
      by_cases h1 : 1 ≤ op
      · have := hop h1
        simp only [show decide (op ≤ 30) = false from by simp; omega, Bool.and_false, Bool.false_and]
      · simp only [show decide (1 ≤ op) = false from by simp; omega, Bool.false_and]
    rw [HM]
    have HO : ∀ w, Calls Try.prog 72 #[.int .i64 op] w fun e w' => e = .returned (.tuple #[.slice none 0 0, .bool false]) ∧ w' = w := fun w => by
      by_cases h : op < 1
      · exact operands_lo op h w
      · exact operands_hi op (by omega) w
    have H := Lib.hid HO
    clear HO hop HM
    go_enter Try.func50, Try.ntmps50
    go_wp2_with (go_at_call 72; refine (H.out _).mono ?_; rintro e w' ⟨rfl, rfl⟩)
    go_ret
    exact ⟨rfl, (Below.refl _ _).alloc (Nat.le_refl _) _⟩
end Go.Proofs.Ytadgemcpahfkoaa
