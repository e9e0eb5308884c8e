/-
  The document's MayLine, of any line.
  asm.MayLine and asm.mayGlobal, of any line and any global.
-/
import Derived.Test.YtmedhibjkbahpaaZav
import Derived.Test.YtmedhibjkbahpaaZaj
namespace Go.Proofs.Ytmedhibjkbahpaa
open Go.RowKit
set_option linter.unusedVariables false
set_option linter.unusedSimpArgs false
set_option maxRecDepth 100000
namespace Rv
/-- May an instruction have such a symbol? -/
def symP (op n : Int) (s : ByteArray) : Bool := noS s || ((op == 1 || op == 2 || op == 28) && symB s.data.toList && n == 0)
/-- A line that may be. -/
def mayLn (l : Ln) : Bool :=
  if l.k = 1 then symB l.s.data.toList && l.op == 0 && l.d == 0 && l.a == 0 && l.b == 0 && l.n == 0
  else if l.k = 2 then mayI l.ins && symP l.op l.n l.s
  else false
set_option maxHeartbeats 6400000 in
theorem rmay2_any (op d a b n : Int) (s : ByteArray) (hs : s.size ≤ 9223372036854775807) (hne : noS s = false) (b1 : -2147483648 ≤ n) (b2 : n ≤ 2147483647) (w : World) :
    Calls Try.prog 15 #[.agg #[.int .i64 2, .int .i64 op, .int .i64 d, .int .i64 a, .int .i64 b, .int .i32 n, .string s]] w fun e w' => e = .returned (.bool (mayI ⟨op, d, a, b, n⟩ && symP op n s)) ∧ Below w.heap.size w w' := by
  by_cases hop : 1 ≤ op ∧ op ≤ 30
  · obtain ⟨h1, h2⟩ := hop
    have HM : mayI ⟨op, d, a, b, n⟩ = (regOk (hasDN (formN op.toNat)) d && regOk (hasAN (formN op.toNat)) a && regOk (hasBN (formN op.toNat)) b && numOk (formN op.toNat) n) := by
      simp [mayI, h1, h2]
    have HSP : Hid (symP op n s = ((op == 1 || op == 2 || op == 28) && symB s.data.toList && n == 0)) := Lib.hid (by unfold symP; rw [hne]; rfl)
    have e1 : s.toList.isEmpty = false := by rw [ba_toList]; exact hne
    have e2 : ¬ s.toList = [] := by rw [ba_toList]; simpa [noS] using hne
    have HIS := Lib.hid (risSym_any s hs)
    rw [HM, ← hAP op h1 h2]
    have C1 := Lib.hid (shape_any op h1 h2)
    have C2 := Lib.hid (rnum_any op n h1 h2 b1 b2)
    have C3 := Lib.hid (hs_D op h1 h2)
    have C4 := Lib.hid (hs_A op h1 h2)
    have C5 := Lib.hid (hs_P op h1 h2)
    have C6 := Lib.hid (hs_B op h1 h2)
    have K1 := reg_any (hasDN (formN op.toNat)) d
    have K2 := reg_any (hA op || hP op) a
    have K3 := reg_any (hasBN (formN op.toNat)) b
    clear HM
    generalize regOk (hasDN (formN op.toNat)) d = q1 at *
    generalize regOk (hA op || hP op) a = q2 at *
    generalize regOk (hasBN (formN op.toNat)) b = q3 at *
    generalize numOk (formN op.toNat) n = q0 at *
    generalize hasDN (formN op.toNat) = x1 at *
    generalize hA op = x2 at *
    generalize hP op = x3 at *
    generalize hasBN (formN op.toNat) = x4 at *
    generalize shp op = sh at *
    have R1 := Lib.hid K1
    have R3 := Lib.hid K3
    clear K1 K3
    obtain ⟨v0, hv0⟩ : ∃ v0, w.heap.size = v0 := ⟨_, rfl⟩
    obtain ⟨W0, hW0⟩ : ∃ W0, w.alloc (.cells #[.int .i64 2, .int .i64 op, .int .i64 d, .int .i64 a, .int .i64 b, .int .i32 n, .string s] 39) = W0 := ⟨_, rfl⟩
    have hB0 : Below w.heap.size w W0 := by rw [← hW0]; exact (Below.refl _ _).alloc (Nat.le_refl _) _
    have hLn : LnAt W0 v0 2 op d a b n s := by rw [← hW0, ← hv0]; exact LnAt.new _ _ _ _ _ _ _ _ _
    obtain ⟨-, z0, z1, z2, z3, z4, z5, z6⟩ := hLn
    have q9 : W0.drew.cell? ⟨v0, 2, none⟩ = some (.int .i64 d) ∧ W0.drew.cell? ⟨v0, 3, none⟩ = some (.int .i64 a) ∧ W0.drew.cell? ⟨v0, 4, none⟩ = some (.int .i64 b) := ⟨z2, z3, z4⟩
    have HB0 := Lib.hid hB0
    clear hB0
    have hl1 : decide (op < 1) = false := by simp; omega
    have hl2 : decide (30 < op) = false := by simp; omega
    clear h1 h2
    cases q0
    · have R2 := Lib.hid K2
      clear K2
      simp only [Bool.and_false, Bool.false_and]
      go_enter Try.func15, Try.ntmps15
      go_wp2_with (first
        | (go_at_call 33; (with_reducible refine (C1.out _).mono ?_); rintro e w' ⟨rfl, rfl⟩)
        | (go_at_call 34; (with_reducible refine (C2.out _).mono ?_); rintro e w' ⟨rfl, rfl⟩))
      go_ret
      exact ⟨rfl, HB0.out⟩
    · cases q1
      · have R2 := Lib.hid K2
        clear K2
        go_enter Try.func15, Try.ntmps15
        go_wp2_with (first
          | (go_at_call 33; (with_reducible refine (C1.out _).mono ?_); rintro e w' ⟨rfl, rfl⟩)
          | (go_at_call 34; (with_reducible refine (C2.out _).mono ?_); rintro e w' ⟨rfl, rfl⟩))
        go_big_quiet ((first | (go_at_call 36; with_reducible exact quiet_left (C3.out _)) | (go_at_call 36; with_reducible exact quiet_left (C4.out _)) | (go_at_call 36; with_reducible exact quiet_left (C5.out _)) | (go_at_call 36; with_reducible exact quiet_left (C6.out _)) | (go_at_call 35; with_reducible exact quiet_left (R1.out _)) | (go_at_call 35; with_reducible exact quiet_left (R2.out _)) | (go_at_call 35; with_reducible exact quiet_left (R3.out _))))
        go_wp2
        go_ret
        exact ⟨by simp, below_drewN HB0.out _⟩
      · cases x2
        · simp only [Bool.false_or] at K2
          have R2 := Lib.hid K2
          clear K2
          cases q2
          · go_enter Try.func15, Try.ntmps15
            go_wp2_with (first
              | (go_at_call 33; (with_reducible refine (C1.out _).mono ?_); rintro e w' ⟨rfl, rfl⟩)
              | (go_at_call 34; (with_reducible refine (C2.out _).mono ?_); rintro e w' ⟨rfl, rfl⟩))
            go_big_quiet ((first | (go_at_call 36; with_reducible exact quiet_left (C3.out _)) | (go_at_call 36; with_reducible exact quiet_left (C4.out _)) | (go_at_call 36; with_reducible exact quiet_left (C5.out _)) | (go_at_call 36; with_reducible exact quiet_left (C6.out _)) | (go_at_call 35; with_reducible exact quiet_left (R1.out _)) | (go_at_call 35; with_reducible exact quiet_left (R2.out _)) | (go_at_call 35; with_reducible exact quiet_left (R3.out _))))
            go_wp2
            go_ret
            exact ⟨by simp, below_drewN HB0.out _⟩
          · cases q3
            · go_enter Try.func15, Try.ntmps15
              go_wp2_with (first
                | (go_at_call 33; (with_reducible refine (C1.out _).mono ?_); rintro e w' ⟨rfl, rfl⟩)
                | (go_at_call 34; (with_reducible refine (C2.out _).mono ?_); rintro e w' ⟨rfl, rfl⟩))
              go_big_quiet ((first | (go_at_call 36; with_reducible exact quiet_left (C3.out _)) | (go_at_call 36; with_reducible exact quiet_left (C4.out _)) | (go_at_call 36; with_reducible exact quiet_left (C5.out _)) | (go_at_call 36; with_reducible exact quiet_left (C6.out _)) | (go_at_call 35; with_reducible exact quiet_left (R1.out _)) | (go_at_call 35; with_reducible exact quiet_left (R2.out _)) | (go_at_call 35; with_reducible exact quiet_left (R3.out _))))
              go_wp2
              go_ret
              exact ⟨by simp, below_drewN HB0.out _⟩
            · go_enter Try.func15, Try.ntmps15
              go_wp2_with (first
                | (go_at_call 33; (with_reducible refine (C1.out _).mono ?_); rintro e w' ⟨rfl, rfl⟩)
                | (go_at_call 34; (with_reducible refine (C2.out _).mono ?_); rintro e w' ⟨rfl, rfl⟩))
              go_big_quiet ((first | (go_at_call 36; with_reducible exact quiet_left (C3.out _)) | (go_at_call 36; with_reducible exact quiet_left (C4.out _)) | (go_at_call 36; with_reducible exact quiet_left (C5.out _)) | (go_at_call 36; with_reducible exact quiet_left (C6.out _)) | (go_at_call 35; with_reducible exact quiet_left (R1.out _)) | (go_at_call 35; with_reducible exact quiet_left (R2.out _)) | (go_at_call 35; with_reducible exact quiet_left (R3.out _))))
              by_cases o1 : op = 1
              · have p1 : (op == 1) = true := by simp [o1]
                cases hq : symB s.data.toList with
                | false =>
                  rw [hq] at HIS
                  have HSPE : Hid (symP op n s = false) := Lib.hid (by rw [HSP.out, hq]; simp)
                  clear hq
                  go_wp2_with (go_at_call 32; (with_reducible refine (HIS.out _).mono ?_); rintro e w' ⟨rfl, rfl⟩)
                  go_ret
                  exact ⟨by rw [HSPE.out]; rfl, below_drewN HB0.out _⟩
                | true =>
                  rw [hq] at HIS
                  by_cases hn0 : n = 0
                  · have hnb : (n == 0) = true := by simp [hn0]
                    have HSPE : Hid (symP op n s = true) := Lib.hid (by rw [HSP.out, hq, hnb]; simp [o1])
                    clear hq hn0
                    go_wp2_with (go_at_call 32; (with_reducible refine (HIS.out _).mono ?_); rintro e w' ⟨rfl, rfl⟩)
                    go_ret
                    exact ⟨by rw [HSPE.out]; rfl, below_drewN HB0.out _⟩
                  · have hnb : (n == 0) = false := by simp [hn0]
                    have HSPE : Hid (symP op n s = false) := Lib.hid (by rw [HSP.out, hnb]; simp)
                    clear hq hn0
                    go_wp2_with (go_at_call 32; (with_reducible refine (HIS.out _).mono ?_); rintro e w' ⟨rfl, rfl⟩)
                    go_ret
                    exact ⟨by rw [HSPE.out]; rfl, below_drewN HB0.out _⟩
              · have p1 : (op == 1) = false := by simp [o1]
                by_cases o2 : op = 2
                · have p2 : (op == 2) = true := by simp [o2]
                  cases hq : symB s.data.toList with
                  | false =>
                    rw [hq] at HIS
                    have HSPE : Hid (symP op n s = false) := Lib.hid (by rw [HSP.out, hq]; simp)
                    clear hq
                    go_wp2_with (go_at_call 32; (with_reducible refine (HIS.out _).mono ?_); rintro e w' ⟨rfl, rfl⟩)
                    go_ret
                    exact ⟨by rw [HSPE.out]; rfl, below_drewN HB0.out _⟩
                  | true =>
                    rw [hq] at HIS
                    by_cases hn0 : n = 0
                    · have hnb : (n == 0) = true := by simp [hn0]
                      have HSPE : Hid (symP op n s = true) := Lib.hid (by rw [HSP.out, hq, hnb]; simp [o2])
                      clear hq hn0
                      go_wp2_with (go_at_call 32; (with_reducible refine (HIS.out _).mono ?_); rintro e w' ⟨rfl, rfl⟩)
                      go_ret
                      exact ⟨by rw [HSPE.out]; rfl, below_drewN HB0.out _⟩
                    · have hnb : (n == 0) = false := by simp [hn0]
                      have HSPE : Hid (symP op n s = false) := Lib.hid (by rw [HSP.out, hnb]; simp)
                      clear hq hn0
                      go_wp2_with (go_at_call 32; (with_reducible refine (HIS.out _).mono ?_); rintro e w' ⟨rfl, rfl⟩)
                      go_ret
                      exact ⟨by rw [HSPE.out]; rfl, below_drewN HB0.out _⟩
                · have p2 : (op == 2) = false := by simp [o2]
                  by_cases o3 : op = 28
                  · have p3 : (op == 28) = true := by simp [o3]
                    cases hq : symB s.data.toList with
                    | false =>
                      rw [hq] at HIS
                      have HSPE : Hid (symP op n s = false) := Lib.hid (by rw [HSP.out, hq]; simp)
                      clear hq
                      go_wp2_with (go_at_call 32; (with_reducible refine (HIS.out _).mono ?_); rintro e w' ⟨rfl, rfl⟩)
                      go_ret
                      exact ⟨by rw [HSPE.out]; rfl, below_drewN HB0.out _⟩
                    | true =>
                      rw [hq] at HIS
                      by_cases hn0 : n = 0
                      · have hnb : (n == 0) = true := by simp [hn0]
                        have HSPE : Hid (symP op n s = true) := Lib.hid (by rw [HSP.out, hq, hnb]; simp [o3])
                        clear hq hn0
                        go_wp2_with (go_at_call 32; (with_reducible refine (HIS.out _).mono ?_); rintro e w' ⟨rfl, rfl⟩)
                        go_ret
                        exact ⟨by rw [HSPE.out]; rfl, below_drewN HB0.out _⟩
                      · have hnb : (n == 0) = false := by simp [hn0]
                        have HSPE : Hid (symP op n s = false) := Lib.hid (by rw [HSP.out, hnb]; simp)
                        clear hq hn0
                        go_wp2_with (go_at_call 32; (with_reducible refine (HIS.out _).mono ?_); rintro e w' ⟨rfl, rfl⟩)
                        go_ret
                        exact ⟨by rw [HSPE.out]; rfl, below_drewN HB0.out _⟩
                  · have p3 : (op == 28) = false := by simp [o3]
                    have HSPE : Hid (symP op n s = false) := Lib.hid (by rw [HSP.out, p1, p2, p3]; rfl)
                    go_wp2
                    go_ret
                    exact ⟨by rw [HSPE.out]; rfl, below_drewN HB0.out _⟩
        · simp only [Bool.true_or] at K2
          have R2 := Lib.hid K2
          clear K2
          cases q2
          · go_enter Try.func15, Try.ntmps15
            go_wp2_with (first
              | (go_at_call 33; (with_reducible refine (C1.out _).mono ?_); rintro e w' ⟨rfl, rfl⟩)
              | (go_at_call 34; (with_reducible refine (C2.out _).mono ?_); rintro e w' ⟨rfl, rfl⟩))
            go_big_quiet ((first | (go_at_call 36; with_reducible exact quiet_left (C3.out _)) | (go_at_call 36; with_reducible exact quiet_left (C4.out _)) | (go_at_call 36; with_reducible exact quiet_left (C5.out _)) | (go_at_call 36; with_reducible exact quiet_left (C6.out _)) | (go_at_call 35; with_reducible exact quiet_left (R1.out _)) | (go_at_call 35; with_reducible exact quiet_left (R2.out _)) | (go_at_call 35; with_reducible exact quiet_left (R3.out _))))
            go_wp2
            go_ret
            exact ⟨by simp, below_drewN HB0.out _⟩
          · cases q3
            · go_enter Try.func15, Try.ntmps15
              go_wp2_with (first
                | (go_at_call 33; (with_reducible refine (C1.out _).mono ?_); rintro e w' ⟨rfl, rfl⟩)
                | (go_at_call 34; (with_reducible refine (C2.out _).mono ?_); rintro e w' ⟨rfl, rfl⟩))
              go_big_quiet ((first | (go_at_call 36; with_reducible exact quiet_left (C3.out _)) | (go_at_call 36; with_reducible exact quiet_left (C4.out _)) | (go_at_call 36; with_reducible exact quiet_left (C5.out _)) | (go_at_call 36; with_reducible exact quiet_left (C6.out _)) | (go_at_call 35; with_reducible exact quiet_left (R1.out _)) | (go_at_call 35; with_reducible exact quiet_left (R2.out _)) | (go_at_call 35; with_reducible exact quiet_left (R3.out _))))
              go_wp2
              go_ret
              exact ⟨by simp, below_drewN HB0.out _⟩
            · go_enter Try.func15, Try.ntmps15
              go_wp2_with (first
                | (go_at_call 33; (with_reducible refine (C1.out _).mono ?_); rintro e w' ⟨rfl, rfl⟩)
                | (go_at_call 34; (with_reducible refine (C2.out _).mono ?_); rintro e w' ⟨rfl, rfl⟩))
              go_big_quiet ((first | (go_at_call 36; with_reducible exact quiet_left (C3.out _)) | (go_at_call 36; with_reducible exact quiet_left (C4.out _)) | (go_at_call 36; with_reducible exact quiet_left (C5.out _)) | (go_at_call 36; with_reducible exact quiet_left (C6.out _)) | (go_at_call 35; with_reducible exact quiet_left (R1.out _)) | (go_at_call 35; with_reducible exact quiet_left (R2.out _)) | (go_at_call 35; with_reducible exact quiet_left (R3.out _))))
              by_cases o1 : op = 1
              · have p1 : (op == 1) = true := by simp [o1]
                cases hq : symB s.data.toList with
                | false =>
                  rw [hq] at HIS
                  have HSPE : Hid (symP op n s = false) := Lib.hid (by rw [HSP.out, hq]; simp)
                  clear hq
                  go_wp2_with (go_at_call 32; (with_reducible refine (HIS.out _).mono ?_); rintro e w' ⟨rfl, rfl⟩)
                  go_ret
                  exact ⟨by rw [HSPE.out]; rfl, below_drewN HB0.out _⟩
                | true =>
                  rw [hq] at HIS
                  by_cases hn0 : n = 0
                  · have hnb : (n == 0) = true := by simp [hn0]
                    have HSPE : Hid (symP op n s = true) := Lib.hid (by rw [HSP.out, hq, hnb]; simp [o1])
                    clear hq hn0
                    go_wp2_with (go_at_call 32; (with_reducible refine (HIS.out _).mono ?_); rintro e w' ⟨rfl, rfl⟩)
                    go_ret
                    exact ⟨by rw [HSPE.out]; rfl, below_drewN HB0.out _⟩
                  · have hnb : (n == 0) = false := by simp [hn0]
                    have HSPE : Hid (symP op n s = false) := Lib.hid (by rw [HSP.out, hnb]; simp)
                    clear hq hn0
                    go_wp2_with (go_at_call 32; (with_reducible refine (HIS.out _).mono ?_); rintro e w' ⟨rfl, rfl⟩)
                    go_ret
                    exact ⟨by rw [HSPE.out]; rfl, below_drewN HB0.out _⟩
              · have p1 : (op == 1) = false := by simp [o1]
                by_cases o2 : op = 2
                · have p2 : (op == 2) = true := by simp [o2]
                  cases hq : symB s.data.toList with
                  | false =>
                    rw [hq] at HIS
                    have HSPE : Hid (symP op n s = false) := Lib.hid (by rw [HSP.out, hq]; simp)
                    clear hq
                    go_wp2_with (go_at_call 32; (with_reducible refine (HIS.out _).mono ?_); rintro e w' ⟨rfl, rfl⟩)
                    go_ret
                    exact ⟨by rw [HSPE.out]; rfl, below_drewN HB0.out _⟩
                  | true =>
                    rw [hq] at HIS
                    by_cases hn0 : n = 0
                    · have hnb : (n == 0) = true := by simp [hn0]
                      have HSPE : Hid (symP op n s = true) := Lib.hid (by rw [HSP.out, hq, hnb]; simp [o2])
                      clear hq hn0
                      go_wp2_with (go_at_call 32; (with_reducible refine (HIS.out _).mono ?_); rintro e w' ⟨rfl, rfl⟩)
                      go_ret
                      exact ⟨by rw [HSPE.out]; rfl, below_drewN HB0.out _⟩
                    · have hnb : (n == 0) = false := by simp [hn0]
                      have HSPE : Hid (symP op n s = false) := Lib.hid (by rw [HSP.out, hnb]; simp)
                      clear hq hn0
                      go_wp2_with (go_at_call 32; (with_reducible refine (HIS.out _).mono ?_); rintro e w' ⟨rfl, rfl⟩)
                      go_ret
                      exact ⟨by rw [HSPE.out]; rfl, below_drewN HB0.out _⟩
                · have p2 : (op == 2) = false := by simp [o2]
                  by_cases o3 : op = 28
                  · have p3 : (op == 28) = true := by simp [o3]
                    cases hq : symB s.data.toList with
                    | false =>
                      rw [hq] at HIS
                      have HSPE : Hid (symP op n s = false) := Lib.hid (by rw [HSP.out, hq]; simp)
                      clear hq
                      go_wp2_with (go_at_call 32; (with_reducible refine (HIS.out _).mono ?_); rintro e w' ⟨rfl, rfl⟩)
                      go_ret
                      exact ⟨by rw [HSPE.out]; rfl, below_drewN HB0.out _⟩
                    | true =>
                      rw [hq] at HIS
                      by_cases hn0 : n = 0
                      · have hnb : (n == 0) = true := by simp [hn0]
                        have HSPE : Hid (symP op n s = true) := Lib.hid (by rw [HSP.out, hq, hnb]; simp [o3])
                        clear hq hn0
                        go_wp2_with (go_at_call 32; (with_reducible refine (HIS.out _).mono ?_); rintro e w' ⟨rfl, rfl⟩)
                        go_ret
                        exact ⟨by rw [HSPE.out]; rfl, below_drewN HB0.out _⟩
                      · have hnb : (n == 0) = false := by simp [hn0]
                        have HSPE : Hid (symP op n s = false) := Lib.hid (by rw [HSP.out, hnb]; simp)
                        clear hq hn0
                        go_wp2_with (go_at_call 32; (with_reducible refine (HIS.out _).mono ?_); rintro e w' ⟨rfl, rfl⟩)
                        go_ret
                        exact ⟨by rw [HSPE.out]; rfl, below_drewN HB0.out _⟩
                  · have p3 : (op == 28) = false := by simp [o3]
                    have HSPE : Hid (symP op n s = false) := Lib.hid (by rw [HSP.out, p1, p2, p3]; rfl)
                    go_wp2
                    go_ret
                    exact ⟨by rw [HSPE.out]; rfl, below_drewN HB0.out _⟩
  · have HM : mayI ⟨op, d, a, b, n⟩ = false := by
      simp only [not_and, Int.not_le] at hop
      unfold mayI
      by_cases h1 : 1 ≤ op
      · have := hop h1
        simp only [show decide (op ≤ 30) = false from by simp; omega, Bool.and_false, Bool.false_and]
      · simp only [show decide (1 ≤ op) = false from by simp; omega, Bool.false_and]
    rw [HM, Bool.false_and]
    by_cases h : op < 1
    · have C := Lib.hid (shape_lo op h)
      clear hop HM
      go_enter Try.func15, Try.ntmps15
      go_wp2_with (go_at_call 33; refine (C.out _).mono ?_; rintro e w' ⟨rfl, rfl⟩)
      go_ret
      exact ⟨rfl, (Below.refl _ _).alloc (Nat.le_refl _) _⟩
    · have h9 : 30 < op := by omega
      have C := Lib.hid (shape_hi op h9)
      clear hop HM
      go_enter Try.func15, Try.ntmps15
      go_wp2_with (go_at_call 33; refine (C.out _).mono ?_; rintro e w' ⟨rfl, rfl⟩)
      go_ret
      exact ⟨rfl, (Below.refl _ _).alloc (Nat.le_refl _) _⟩
theorem rmay1_any (op d a b n : Int) (s : ByteArray) (hs : s.size ≤ 9223372036854775807) (w : World) :
    Calls Try.prog 15 #[.agg #[.int .i64 1, .int .i64 op, .int .i64 d, .int .i64 a, .int .i64 b, .int .i32 n, .string s]] w fun e w' => e = .returned (.bool (symB s.data.toList && op == 0 && d == 0 && a == 0 && b == 0 && n == 0)) ∧ Below w.heap.size w w' := by
  have HIS := Lib.hid (risSym_any s hs)
  cases hq : symB s.data.toList with
  | false =>
    rw [hq] at HIS
    go_enter Try.func15, Try.ntmps15
    go_wp2_with (go_at_call 32; (with_reducible refine (HIS.out _).mono ?_); rintro e w' ⟨rfl, rfl⟩)
    go_ret
    exact ⟨by simp [*], (Below.refl _ _).alloc (Nat.le_refl _) _⟩
  | true =>
    rw [hq] at HIS
    by_cases hop : op = 0
    · have hopb : (op == 0) = true := by simp [hop]
      by_cases hd : d = 0
      · have hdb : (d == 0) = true := by simp [hd]
        by_cases ha : a = 0
        · have hab : (a == 0) = true := by simp [ha]
          by_cases hb : b = 0
          · have hbb : (b == 0) = true := by simp [hb]
            by_cases hn : n = 0
            · have hnb : (n == 0) = true := by simp [hn]
              go_enter Try.func15, Try.ntmps15
              go_wp2_with (go_at_call 32; (with_reducible refine (HIS.out _).mono ?_); rintro e w' ⟨rfl, rfl⟩)
              go_ret
              exact ⟨by simp [*], (Below.refl _ _).alloc (Nat.le_refl _) _⟩
            · have hnb : (n == 0) = false := by simp [hn]
              go_enter Try.func15, Try.ntmps15
              go_wp2_with (go_at_call 32; (with_reducible refine (HIS.out _).mono ?_); rintro e w' ⟨rfl, rfl⟩)
              go_ret
              exact ⟨by simp [*], (Below.refl _ _).alloc (Nat.le_refl _) _⟩
          · have hbb : (b == 0) = false := by simp [hb]
            go_enter Try.func15, Try.ntmps15
            go_wp2_with (go_at_call 32; (with_reducible refine (HIS.out _).mono ?_); rintro e w' ⟨rfl, rfl⟩)
            go_ret
            exact ⟨by simp [*], (Below.refl _ _).alloc (Nat.le_refl _) _⟩
        · have hab : (a == 0) = false := by simp [ha]
          go_enter Try.func15, Try.ntmps15
          go_wp2_with (go_at_call 32; (with_reducible refine (HIS.out _).mono ?_); rintro e w' ⟨rfl, rfl⟩)
          go_ret
          exact ⟨by simp [*], (Below.refl _ _).alloc (Nat.le_refl _) _⟩
      · have hdb : (d == 0) = false := by simp [hd]
        go_enter Try.func15, Try.ntmps15
        go_wp2_with (go_at_call 32; (with_reducible refine (HIS.out _).mono ?_); rintro e w' ⟨rfl, rfl⟩)
        go_ret
        exact ⟨by simp [*], (Below.refl _ _).alloc (Nat.le_refl _) _⟩
    · have hopb : (op == 0) = false := by simp [hop]
      go_enter Try.func15, Try.ntmps15
      go_wp2_with (go_at_call 32; (with_reducible refine (HIS.out _).mono ?_); rintro e w' ⟨rfl, rfl⟩)
      go_ret
      exact ⟨by simp [*], (Below.refl _ _).alloc (Nat.le_refl _) _⟩
theorem rmay0_any (k op d a b n : Int) (s : ByteArray) (hk1 : ¬ k = 1) (hk2 : ¬ k = 2) (w : World) :
    Calls Try.prog 15 #[.agg #[.int .i64 k, .int .i64 op, .int .i64 d, .int .i64 a, .int .i64 b, .int .i32 n, .string s]] w fun e w' => e = .returned (.bool false) ∧ Below w.heap.size w w' := by
  have k1 : (k == 1) = false := by simp [hk1]
  have k2 : (k == 2) = false := by simp [hk2]
  have HSH : Hid (∀ W, ∃ sh, Calls Try.prog 33 #[.int .i64 op] W fun e w' => e = .returned (.string sh) ∧ W = w') := Lib.hid (fun W => by
    by_cases h1 : op < 1
    · exact ⟨_, shape_lo op h1 W⟩
    · by_cases h2 : 30 < op
      · exact ⟨_, shape_hi op h2 W⟩
      · exact ⟨_, shape_any op (by omega) (by omega) W⟩)
  go_enter Try.func15, Try.ntmps15
  go_wp2_with (go_at_call 33; obtain ⟨sh, hsh⟩ := HSH.out (w.alloc (.cells #[.int .i64 k, .int .i64 op, .int .i64 d, .int .i64 a, .int .i64 b, .int .i32 n, .string s] 39)); (with_reducible refine hsh.mono ?_); rintro e w' ⟨rfl, rfl⟩; clear hsh)
  go_ret
  exact ⟨rfl, (Below.refl _ _).alloc (Nat.le_refl _) _⟩
theorem rmayLn_any (l : Ln) (hs : l.s.size ≤ 9223372036854775807) (hn : -2147483648 ≤ l.n ∧ l.n ≤ 2147483647) (w : World) :
    Calls Try.prog 15 #[l.val] w fun e w' => e = .returned (.bool (mayLn l)) ∧ Below w.heap.size w w' := by
  obtain ⟨k, op, d, a, b, n, s⟩ := l
  unfold mayLn Ln.val Ln.ins
  dsimp only at hs hn ⊢
  by_cases h1 : k = 1
  · subst h1
    rw [if_pos rfl]
    exact rmay1_any op d a b n s hs w
  · rw [if_neg h1]
    by_cases h2 : k = 2
    · subst h2
      rw [if_pos rfl]
      cases hne : noS s with
      | false => exact rmay2_any op d a b n s hs hne hn.1 hn.2 w
      | true =>
        obtain rfl := noS_true hne
        have e : symP op n ⟨#[]⟩ = true := rfl
        rw [e, Bool.and_true]
        exact rmayLine_any op d a b n hn.1 hn.2 w
    · rw [if_neg h2]
      exact rmay0_any k op d a b n s h1 h2 w
end Rv
end Go.Proofs.Ytmedhibjkbahpaa
namespace Go.Proofs.Ytmedhibjkbahpaa
open Go.RowKit
set_option linter.unusedVariables false
set_option linter.unusedSimpArgs false
set_option maxRecDepth 100000
namespace Rv
theorem mayNumS_1 (d a b n : Int) (s : ByteArray) (b1 : -2147483648 ≤ n) (b2 : n ≤ 2147483647) (w : World) :
    Calls Try.prog 74 #[.agg #[.int .i64 2, .int .i64 1, .int .i64 d, .int .i64 a, .int .i64 b, .int .i32 n, .string s]] w fun e w' => e = .returned (.bool (numOk 7 n)) ∧ Below w.heap.size w w' := by
  by_cases h1 : 0 ≤ n
  · by_cases h2 : n < 1048576
    · have E : Hid (numOk 7 n = true) := Lib.hid (by simp [numOk]; omega)
      go_enter Try.func74, Try.ntmps74
      go_wp2
      go_ret
      exact ⟨by rw [E.out]; rfl, (Below.refl _ _).alloc (Nat.le_refl _) _⟩
    · have E : Hid (numOk 7 n = false) := Lib.hid (by simp [numOk]; omega)
      go_enter Try.func74, Try.ntmps74
      go_wp2
      go_ret
      exact ⟨by rw [E.out]; rfl, (Below.refl _ _).alloc (Nat.le_refl _) _⟩
  · have E : Hid (numOk 7 n = false) := Lib.hid (by simp [numOk]; omega)
    go_enter Try.func74, Try.ntmps74
    go_wp2
    go_ret
    exact ⟨by rw [E.out]; rfl, (Below.refl _ _).alloc (Nat.le_refl _) _⟩

theorem mayNumS_2 (d a b n : Int) (s : ByteArray) (b1 : -2147483648 ≤ n) (b2 : n ≤ 2147483647) (w : World) :
    Calls Try.prog 74 #[.agg #[.int .i64 2, .int .i64 2, .int .i64 d, .int .i64 a, .int .i64 b, .int .i32 n, .string s]] w fun e w' => e = .returned (.bool (numOk 3 n)) ∧ Below w.heap.size w w' := by
  have E : (decide (-2048 ≤ n) && decide (n < 2048)) = numOk 3 n := by rw [Bool.eq_iff_iff]; simp [numOk]; omega
  have H := fun W => Lib.hid (fits_12 n b1 b2 W)
  rw [E] at H
  clear E
  go_enter Try.func74, Try.ntmps74
  go_wp2_with (refine (H _).out.mono ?_; rintro e w' ⟨rfl, rfl⟩)
  go_ret
  exact ⟨rfl, (Below.refl _ _).alloc (Nat.le_refl _) _⟩

theorem mayNumS_3 (d a b n : Int) (s : ByteArray) (b1 : -2147483648 ≤ n) (b2 : n ≤ 2147483647) (w : World) :
    Calls Try.prog 74 #[.agg #[.int .i64 2, .int .i64 3, .int .i64 d, .int .i64 a, .int .i64 b, .int .i32 n, .string s]] w fun e w' => e = .returned (.bool (numOk 3 n)) ∧ Below w.heap.size w w' := by
  have E : (decide (-2048 ≤ n) && decide (n < 2048)) = numOk 3 n := by rw [Bool.eq_iff_iff]; simp [numOk]; omega
  have H := fun W => Lib.hid (fits_12 n b1 b2 W)
  rw [E] at H
  clear E
  go_enter Try.func74, Try.ntmps74
  go_wp2_with (refine (H _).out.mono ?_; rintro e w' ⟨rfl, rfl⟩)
  go_ret
  exact ⟨rfl, (Below.refl _ _).alloc (Nat.le_refl _) _⟩

theorem mayNumS_4 (d a b n : Int) (s : ByteArray) (b1 : -2147483648 ≤ n) (b2 : n ≤ 2147483647) (w : World) :
    Calls Try.prog 74 #[.agg #[.int .i64 2, .int .i64 4, .int .i64 d, .int .i64 a, .int .i64 b, .int .i32 n, .string s]] w fun e w' => e = .returned (.bool (numOk 3 n)) ∧ Below w.heap.size w w' := by
  have E : (decide (-2048 ≤ n) && decide (n < 2048)) = numOk 3 n := by rw [Bool.eq_iff_iff]; simp [numOk]; omega
  have H := fun W => Lib.hid (fits_12 n b1 b2 W)
  rw [E] at H
  clear E
  go_enter Try.func74, Try.ntmps74
  go_wp2_with (refine (H _).out.mono ?_; rintro e w' ⟨rfl, rfl⟩)
  go_ret
  exact ⟨rfl, (Below.refl _ _).alloc (Nat.le_refl _) _⟩

theorem mayNumS_5 (d a b n : Int) (s : ByteArray) (b1 : -2147483648 ≤ n) (b2 : n ≤ 2147483647) (w : World) :
    Calls Try.prog 74 #[.agg #[.int .i64 2, .int .i64 5, .int .i64 d, .int .i64 a, .int .i64 b, .int .i32 n, .string s]] w fun e w' => e = .returned (.bool (numOk 3 n)) ∧ Below w.heap.size w w' := by
  have E : (decide (-2048 ≤ n) && decide (n < 2048)) = numOk 3 n := by rw [Bool.eq_iff_iff]; simp [numOk]; omega
  have H := fun W => Lib.hid (fits_12 n b1 b2 W)
  rw [E] at H
  clear E
  go_enter Try.func74, Try.ntmps74
  go_wp2_with (refine (H _).out.mono ?_; rintro e w' ⟨rfl, rfl⟩)
  go_ret
  exact ⟨rfl, (Below.refl _ _).alloc (Nat.le_refl _) _⟩

theorem mayNumS_6 (d a b n : Int) (s : ByteArray) (b1 : -2147483648 ≤ n) (b2 : n ≤ 2147483647) (w : World) :
    Calls Try.prog 74 #[.agg #[.int .i64 2, .int .i64 6, .int .i64 d, .int .i64 a, .int .i64 b, .int .i32 n, .string s]] w fun e w' => e = .returned (.bool (numOk 3 n)) ∧ Below w.heap.size w w' := by
  have E : (decide (-2048 ≤ n) && decide (n < 2048)) = numOk 3 n := by rw [Bool.eq_iff_iff]; simp [numOk]; omega
  have H := fun W => Lib.hid (fits_12 n b1 b2 W)
  rw [E] at H
  clear E
  go_enter Try.func74, Try.ntmps74
  go_wp2_with (refine (H _).out.mono ?_; rintro e w' ⟨rfl, rfl⟩)
  go_ret
  exact ⟨rfl, (Below.refl _ _).alloc (Nat.le_refl _) _⟩

theorem mayNumS_7 (d a b n : Int) (s : ByteArray) (b1 : -2147483648 ≤ n) (b2 : n ≤ 2147483647) (w : World) :
    Calls Try.prog 74 #[.agg #[.int .i64 2, .int .i64 7, .int .i64 d, .int .i64 a, .int .i64 b, .int .i32 n, .string s]] w fun e w' => e = .returned (.bool (numOk 3 n)) ∧ Below w.heap.size w w' := by
  have E : (decide (-2048 ≤ n) && decide (n < 2048)) = numOk 3 n := by rw [Bool.eq_iff_iff]; simp [numOk]; omega
  have H := fun W => Lib.hid (fits_12 n b1 b2 W)
  rw [E] at H
  clear E
  go_enter Try.func74, Try.ntmps74
  go_wp2_with (refine (H _).out.mono ?_; rintro e w' ⟨rfl, rfl⟩)
  go_ret
  exact ⟨rfl, (Below.refl _ _).alloc (Nat.le_refl _) _⟩

theorem mayNumS_8 (d a b n : Int) (s : ByteArray) (b1 : -2147483648 ≤ n) (b2 : n ≤ 2147483647) (w : World) :
    Calls Try.prog 74 #[.agg #[.int .i64 2, .int .i64 8, .int .i64 d, .int .i64 a, .int .i64 b, .int .i32 n, .string s]] w fun e w' => e = .returned (.bool (numOk 4 n)) ∧ Below w.heap.size w w' := by
  by_cases h1 : 0 ≤ n
  · by_cases h2 : n < 32
    · have E : Hid (numOk 4 n = true) := Lib.hid (by simp [numOk]; omega)
      go_enter Try.func74, Try.ntmps74
      go_wp2
      go_ret
      exact ⟨by rw [E.out]; rfl, (Below.refl _ _).alloc (Nat.le_refl _) _⟩
    · have E : Hid (numOk 4 n = false) := Lib.hid (by simp [numOk]; omega)
      go_enter Try.func74, Try.ntmps74
      go_wp2
      go_ret
      exact ⟨by rw [E.out]; rfl, (Below.refl _ _).alloc (Nat.le_refl _) _⟩
  · have E : Hid (numOk 4 n = false) := Lib.hid (by simp [numOk]; omega)
    go_enter Try.func74, Try.ntmps74
    go_wp2
    go_ret
    exact ⟨by rw [E.out]; rfl, (Below.refl _ _).alloc (Nat.le_refl _) _⟩

theorem mayNumS_9 (d a b n : Int) (s : ByteArray) (b1 : -2147483648 ≤ n) (b2 : n ≤ 2147483647) (w : World) :
    Calls Try.prog 74 #[.agg #[.int .i64 2, .int .i64 9, .int .i64 d, .int .i64 a, .int .i64 b, .int .i32 n, .string s]] w fun e w' => e = .returned (.bool (numOk 4 n)) ∧ Below w.heap.size w w' := by
  by_cases h1 : 0 ≤ n
  · by_cases h2 : n < 32
    · have E : Hid (numOk 4 n = true) := Lib.hid (by simp [numOk]; omega)
      go_enter Try.func74, Try.ntmps74
      go_wp2
      go_ret
      exact ⟨by rw [E.out]; rfl, (Below.refl _ _).alloc (Nat.le_refl _) _⟩
    · have E : Hid (numOk 4 n = false) := Lib.hid (by simp [numOk]; omega)
      go_enter Try.func74, Try.ntmps74
      go_wp2
      go_ret
      exact ⟨by rw [E.out]; rfl, (Below.refl _ _).alloc (Nat.le_refl _) _⟩
  · have E : Hid (numOk 4 n = false) := Lib.hid (by simp [numOk]; omega)
    go_enter Try.func74, Try.ntmps74
    go_wp2
    go_ret
    exact ⟨by rw [E.out]; rfl, (Below.refl _ _).alloc (Nat.le_refl _) _⟩

theorem mayNumS_10 (d a b n : Int) (s : ByteArray) (b1 : -2147483648 ≤ n) (b2 : n ≤ 2147483647) (w : World) :
    Calls Try.prog 74 #[.agg #[.int .i64 2, .int .i64 10, .int .i64 d, .int .i64 a, .int .i64 b, .int .i32 n, .string s]] w fun e w' => e = .returned (.bool (numOk 4 n)) ∧ Below w.heap.size w w' := by
  by_cases h1 : 0 ≤ n
  · by_cases h2 : n < 32
    · have E : Hid (numOk 4 n = true) := Lib.hid (by simp [numOk]; omega)
      go_enter Try.func74, Try.ntmps74
      go_wp2
      go_ret
      exact ⟨by rw [E.out]; rfl, (Below.refl _ _).alloc (Nat.le_refl _) _⟩
    · have E : Hid (numOk 4 n = false) := Lib.hid (by simp [numOk]; omega)
      go_enter Try.func74, Try.ntmps74
      go_wp2
      go_ret
      exact ⟨by rw [E.out]; rfl, (Below.refl _ _).alloc (Nat.le_refl _) _⟩
  · have E : Hid (numOk 4 n = false) := Lib.hid (by simp [numOk]; omega)
    go_enter Try.func74, Try.ntmps74
    go_wp2
    go_ret
    exact ⟨by rw [E.out]; rfl, (Below.refl _ _).alloc (Nat.le_refl _) _⟩

theorem mayNumS_11 (d a b n : Int) (s : ByteArray) (b1 : -2147483648 ≤ n) (b2 : n ≤ 2147483647) (w : World) :
    Calls Try.prog 74 #[.agg #[.int .i64 2, .int .i64 11, .int .i64 d, .int .i64 a, .int .i64 b, .int .i32 n, .string s]] w fun e w' => e = .returned (.bool (numOk 2 n)) ∧ Below w.heap.size w w' := by
  have E : (n == 0) = numOk 2 n := rfl
  go_enter Try.func74, Try.ntmps74
  go_wp2
  go_ret
  exact ⟨by rw [← E]; rfl, (Below.refl _ _).alloc (Nat.le_refl _) _⟩

theorem mayNumS_12 (d a b n : Int) (s : ByteArray) (b1 : -2147483648 ≤ n) (b2 : n ≤ 2147483647) (w : World) :
    Calls Try.prog 74 #[.agg #[.int .i64 2, .int .i64 12, .int .i64 d, .int .i64 a, .int .i64 b, .int .i32 n, .string s]] w fun e w' => e = .returned (.bool (numOk 2 n)) ∧ Below w.heap.size w w' := by
  have E : (n == 0) = numOk 2 n := rfl
  go_enter Try.func74, Try.ntmps74
  go_wp2
  go_ret
  exact ⟨by rw [← E]; rfl, (Below.refl _ _).alloc (Nat.le_refl _) _⟩

theorem mayNumS_13 (d a b n : Int) (s : ByteArray) (b1 : -2147483648 ≤ n) (b2 : n ≤ 2147483647) (w : World) :
    Calls Try.prog 74 #[.agg #[.int .i64 2, .int .i64 13, .int .i64 d, .int .i64 a, .int .i64 b, .int .i32 n, .string s]] w fun e w' => e = .returned (.bool (numOk 2 n)) ∧ Below w.heap.size w w' := by
  have E : (n == 0) = numOk 2 n := rfl
  go_enter Try.func74, Try.ntmps74
  go_wp2
  go_ret
  exact ⟨by rw [← E]; rfl, (Below.refl _ _).alloc (Nat.le_refl _) _⟩

theorem mayNumS_14 (d a b n : Int) (s : ByteArray) (b1 : -2147483648 ≤ n) (b2 : n ≤ 2147483647) (w : World) :
    Calls Try.prog 74 #[.agg #[.int .i64 2, .int .i64 14, .int .i64 d, .int .i64 a, .int .i64 b, .int .i32 n, .string s]] w fun e w' => e = .returned (.bool (numOk 2 n)) ∧ Below w.heap.size w w' := by
  have E : (n == 0) = numOk 2 n := rfl
  go_enter Try.func74, Try.ntmps74
  go_wp2
  go_ret
  exact ⟨by rw [← E]; rfl, (Below.refl _ _).alloc (Nat.le_refl _) _⟩

theorem mayNumS_15 (d a b n : Int) (s : ByteArray) (b1 : -2147483648 ≤ n) (b2 : n ≤ 2147483647) (w : World) :
    Calls Try.prog 74 #[.agg #[.int .i64 2, .int .i64 15, .int .i64 d, .int .i64 a, .int .i64 b, .int .i32 n, .string s]] w fun e w' => e = .returned (.bool (numOk 2 n)) ∧ Below w.heap.size w w' := by
  have E : (n == 0) = numOk 2 n := rfl
  go_enter Try.func74, Try.ntmps74
  go_wp2
  go_ret
  exact ⟨by rw [← E]; rfl, (Below.refl _ _).alloc (Nat.le_refl _) _⟩

theorem mayNumS_16 (d a b n : Int) (s : ByteArray) (b1 : -2147483648 ≤ n) (b2 : n ≤ 2147483647) (w : World) :
    Calls Try.prog 74 #[.agg #[.int .i64 2, .int .i64 16, .int .i64 d, .int .i64 a, .int .i64 b, .int .i32 n, .string s]] w fun e w' => e = .returned (.bool (numOk 2 n)) ∧ Below w.heap.size w w' := by
  have E : (n == 0) = numOk 2 n := rfl
  go_enter Try.func74, Try.ntmps74
  go_wp2
  go_ret
  exact ⟨by rw [← E]; rfl, (Below.refl _ _).alloc (Nat.le_refl _) _⟩

theorem mayNumS_17 (d a b n : Int) (s : ByteArray) (b1 : -2147483648 ≤ n) (b2 : n ≤ 2147483647) (w : World) :
    Calls Try.prog 74 #[.agg #[.int .i64 2, .int .i64 17, .int .i64 d, .int .i64 a, .int .i64 b, .int .i32 n, .string s]] w fun e w' => e = .returned (.bool (numOk 2 n)) ∧ Below w.heap.size w w' := by
  have E : (n == 0) = numOk 2 n := rfl
  go_enter Try.func74, Try.ntmps74
  go_wp2
  go_ret
  exact ⟨by rw [← E]; rfl, (Below.refl _ _).alloc (Nat.le_refl _) _⟩

theorem mayNumS_18 (d a b n : Int) (s : ByteArray) (b1 : -2147483648 ≤ n) (b2 : n ≤ 2147483647) (w : World) :
    Calls Try.prog 74 #[.agg #[.int .i64 2, .int .i64 18, .int .i64 d, .int .i64 a, .int .i64 b, .int .i32 n, .string s]] w fun e w' => e = .returned (.bool (numOk 2 n)) ∧ Below w.heap.size w w' := by
  have E : (n == 0) = numOk 2 n := rfl
  go_enter Try.func74, Try.ntmps74
  go_wp2
  go_ret
  exact ⟨by rw [← E]; rfl, (Below.refl _ _).alloc (Nat.le_refl _) _⟩

theorem mayNumS_19 (d a b n : Int) (s : ByteArray) (b1 : -2147483648 ≤ n) (b2 : n ≤ 2147483647) (w : World) :
    Calls Try.prog 74 #[.agg #[.int .i64 2, .int .i64 19, .int .i64 d, .int .i64 a, .int .i64 b, .int .i32 n, .string s]] w fun e w' => e = .returned (.bool (numOk 2 n)) ∧ Below w.heap.size w w' := by
  have E : (n == 0) = numOk 2 n := rfl
  go_enter Try.func74, Try.ntmps74
  go_wp2
  go_ret
  exact ⟨by rw [← E]; rfl, (Below.refl _ _).alloc (Nat.le_refl _) _⟩

theorem mayNumS_20 (d a b n : Int) (s : ByteArray) (b1 : -2147483648 ≤ n) (b2 : n ≤ 2147483647) (w : World) :
    Calls Try.prog 74 #[.agg #[.int .i64 2, .int .i64 20, .int .i64 d, .int .i64 a, .int .i64 b, .int .i32 n, .string s]] w fun e w' => e = .returned (.bool (numOk 2 n)) ∧ Below w.heap.size w w' := by
  have E : (n == 0) = numOk 2 n := rfl
  go_enter Try.func74, Try.ntmps74
  go_wp2
  go_ret
  exact ⟨by rw [← E]; rfl, (Below.refl _ _).alloc (Nat.le_refl _) _⟩

theorem mayNumS_21 (d a b n : Int) (s : ByteArray) (b1 : -2147483648 ≤ n) (b2 : n ≤ 2147483647) (w : World) :
    Calls Try.prog 74 #[.agg #[.int .i64 2, .int .i64 21, .int .i64 d, .int .i64 a, .int .i64 b, .int .i32 n, .string s]] w fun e w' => e = .returned (.bool (numOk 2 n)) ∧ Below w.heap.size w w' := by
  have E : (n == 0) = numOk 2 n := rfl
  go_enter Try.func74, Try.ntmps74
  go_wp2
  go_ret
  exact ⟨by rw [← E]; rfl, (Below.refl _ _).alloc (Nat.le_refl _) _⟩

theorem mayNumS_22 (d a b n : Int) (s : ByteArray) (b1 : -2147483648 ≤ n) (b2 : n ≤ 2147483647) (w : World) :
    Calls Try.prog 74 #[.agg #[.int .i64 2, .int .i64 22, .int .i64 d, .int .i64 a, .int .i64 b, .int .i32 n, .string s]] w fun e w' => e = .returned (.bool (numOk 2 n)) ∧ Below w.heap.size w w' := by
  have E : (n == 0) = numOk 2 n := rfl
  go_enter Try.func74, Try.ntmps74
  go_wp2
  go_ret
  exact ⟨by rw [← E]; rfl, (Below.refl _ _).alloc (Nat.le_refl _) _⟩

theorem mayNumS_23 (d a b n : Int) (s : ByteArray) (b1 : -2147483648 ≤ n) (b2 : n ≤ 2147483647) (w : World) :
    Calls Try.prog 74 #[.agg #[.int .i64 2, .int .i64 23, .int .i64 d, .int .i64 a, .int .i64 b, .int .i32 n, .string s]] w fun e w' => e = .returned (.bool (numOk 2 n)) ∧ Below w.heap.size w w' := by
  have E : (n == 0) = numOk 2 n := rfl
  go_enter Try.func74, Try.ntmps74
  go_wp2
  go_ret
  exact ⟨by rw [← E]; rfl, (Below.refl _ _).alloc (Nat.le_refl _) _⟩

theorem mayNumS_24 (d a b n : Int) (s : ByteArray) (b1 : -2147483648 ≤ n) (b2 : n ≤ 2147483647) (w : World) :
    Calls Try.prog 74 #[.agg #[.int .i64 2, .int .i64 24, .int .i64 d, .int .i64 a, .int .i64 b, .int .i32 n, .string s]] w fun e w' => e = .returned (.bool (numOk 3 n)) ∧ Below w.heap.size w w' := by
  have E : (decide (-2048 ≤ n) && decide (n < 2048)) = numOk 3 n := by rw [Bool.eq_iff_iff]; simp [numOk]; omega
  have H := fun W => Lib.hid (fits_12 n b1 b2 W)
  rw [E] at H
  clear E
  go_enter Try.func74, Try.ntmps74
  go_wp2_with (refine (H _).out.mono ?_; rintro e w' ⟨rfl, rfl⟩)
  go_ret
  exact ⟨rfl, (Below.refl _ _).alloc (Nat.le_refl _) _⟩

theorem mayNumS_25 (d a b n : Int) (s : ByteArray) (b1 : -2147483648 ≤ n) (b2 : n ≤ 2147483647) (w : World) :
    Calls Try.prog 74 #[.agg #[.int .i64 2, .int .i64 25, .int .i64 d, .int .i64 a, .int .i64 b, .int .i32 n, .string s]] w fun e w' => e = .returned (.bool (numOk 5 n)) ∧ Below w.heap.size w w' := by
  have E : (decide (-2048 ≤ n) && decide (n < 2048)) = numOk 5 n := by rw [Bool.eq_iff_iff]; simp [numOk]; omega
  have H := fun W => Lib.hid (fits_12 n b1 b2 W)
  rw [E] at H
  clear E
  go_enter Try.func74, Try.ntmps74
  go_wp2_with (refine (H _).out.mono ?_; rintro e w' ⟨rfl, rfl⟩)
  go_ret
  exact ⟨rfl, (Below.refl _ _).alloc (Nat.le_refl _) _⟩

theorem mayNumS_26 (d a b n : Int) (s : ByteArray) (b1 : -2147483648 ≤ n) (b2 : n ≤ 2147483647) (w : World) :
    Calls Try.prog 74 #[.agg #[.int .i64 2, .int .i64 26, .int .i64 d, .int .i64 a, .int .i64 b, .int .i32 n, .string s]] w fun e w' => e = .returned (.bool (numOk 6 n)) ∧ Below w.heap.size w w' := by
  have H := fun W => Lib.hid (fits_13 n b1 b2 W)
  by_cases h1 : (-4096 ≤ n ∧ n < 4096)
  · have e1 : (decide (-4096 ≤ n) && decide (n < 4096)) = true := by simp; omega
    rw [e1] at H
    clear e1
    have ht := tm2 n
    by_cases h2 : n.tmod 2 = 0
    · have h3 : (n.tmod 2 == 0) = true := by simp [h2]
      have E : Hid (numOk 6 n = true) := Lib.hid (by simp [numOk]; omega)
      clear h1 ht
      go_enter Try.func74, Try.ntmps74
      go_wp2_with (refine (H _).out.mono ?_; rintro e w' ⟨rfl, rfl⟩)
      go_ret
      exact ⟨by rw [E.out]; rfl, (Below.refl _ _).alloc (Nat.le_refl _) _⟩
    · have h3 : (n.tmod 2 == 0) = false := by simp [h2]
      have E : Hid (numOk 6 n = false) := Lib.hid (by simp [numOk]; omega)
      clear h1 ht
      go_enter Try.func74, Try.ntmps74
      go_wp2_with (refine (H _).out.mono ?_; rintro e w' ⟨rfl, rfl⟩)
      go_ret
      exact ⟨by rw [E.out]; rfl, (Below.refl _ _).alloc (Nat.le_refl _) _⟩
  · have e1 : (decide (-4096 ≤ n) && decide (n < 4096)) = false := by simp; omega
    rw [e1] at H
    clear e1
    have E : Hid (numOk 6 n = false) := Lib.hid (by simp [numOk]; omega)
    clear h1
    go_enter Try.func74, Try.ntmps74
    go_wp2_with (refine (H _).out.mono ?_; rintro e w' ⟨rfl, rfl⟩)
    go_ret
    exact ⟨by rw [E.out]; rfl, (Below.refl _ _).alloc (Nat.le_refl _) _⟩

theorem mayNumS_27 (d a b n : Int) (s : ByteArray) (b1 : -2147483648 ≤ n) (b2 : n ≤ 2147483647) (w : World) :
    Calls Try.prog 74 #[.agg #[.int .i64 2, .int .i64 27, .int .i64 d, .int .i64 a, .int .i64 b, .int .i32 n, .string s]] w fun e w' => e = .returned (.bool (numOk 6 n)) ∧ Below w.heap.size w w' := by
  have H := fun W => Lib.hid (fits_13 n b1 b2 W)
  by_cases h1 : (-4096 ≤ n ∧ n < 4096)
  · have e1 : (decide (-4096 ≤ n) && decide (n < 4096)) = true := by simp; omega
    rw [e1] at H
    clear e1
    have ht := tm2 n
    by_cases h2 : n.tmod 2 = 0
    · have h3 : (n.tmod 2 == 0) = true := by simp [h2]
      have E : Hid (numOk 6 n = true) := Lib.hid (by simp [numOk]; omega)
      clear h1 ht
      go_enter Try.func74, Try.ntmps74
      go_wp2_with (refine (H _).out.mono ?_; rintro e w' ⟨rfl, rfl⟩)
      go_ret
      exact ⟨by rw [E.out]; rfl, (Below.refl _ _).alloc (Nat.le_refl _) _⟩
    · have h3 : (n.tmod 2 == 0) = false := by simp [h2]
      have E : Hid (numOk 6 n = false) := Lib.hid (by simp [numOk]; omega)
      clear h1 ht
      go_enter Try.func74, Try.ntmps74
      go_wp2_with (refine (H _).out.mono ?_; rintro e w' ⟨rfl, rfl⟩)
      go_ret
      exact ⟨by rw [E.out]; rfl, (Below.refl _ _).alloc (Nat.le_refl _) _⟩
  · have e1 : (decide (-4096 ≤ n) && decide (n < 4096)) = false := by simp; omega
    rw [e1] at H
    clear e1
    have E : Hid (numOk 6 n = false) := Lib.hid (by simp [numOk]; omega)
    clear h1
    go_enter Try.func74, Try.ntmps74
    go_wp2_with (refine (H _).out.mono ?_; rintro e w' ⟨rfl, rfl⟩)
    go_ret
    exact ⟨by rw [E.out]; rfl, (Below.refl _ _).alloc (Nat.le_refl _) _⟩

theorem mayNumS_28 (d a b n : Int) (s : ByteArray) (b1 : -2147483648 ≤ n) (b2 : n ≤ 2147483647) (w : World) :
    Calls Try.prog 74 #[.agg #[.int .i64 2, .int .i64 28, .int .i64 d, .int .i64 a, .int .i64 b, .int .i32 n, .string s]] w fun e w' => e = .returned (.bool (numOk 8 n)) ∧ Below w.heap.size w w' := by
  have H := fun W => Lib.hid (fits_21 n b1 b2 W)
  by_cases h1 : (-1048576 ≤ n ∧ n < 1048576)
  · have e1 : (decide (-1048576 ≤ n) && decide (n < 1048576)) = true := by simp; omega
    rw [e1] at H
    clear e1
    have ht := tm2 n
    by_cases h2 : n.tmod 2 = 0
    · have h3 : (n.tmod 2 == 0) = true := by simp [h2]
      have E : Hid (numOk 8 n = true) := Lib.hid (by simp [numOk]; omega)
      clear h1 ht
      go_enter Try.func74, Try.ntmps74
      go_wp2_with (refine (H _).out.mono ?_; rintro e w' ⟨rfl, rfl⟩)
      go_ret
      exact ⟨by rw [E.out]; rfl, (Below.refl _ _).alloc (Nat.le_refl _) _⟩
    · have h3 : (n.tmod 2 == 0) = false := by simp [h2]
      have E : Hid (numOk 8 n = false) := Lib.hid (by simp [numOk]; omega)
      clear h1 ht
      go_enter Try.func74, Try.ntmps74
      go_wp2_with (refine (H _).out.mono ?_; rintro e w' ⟨rfl, rfl⟩)
      go_ret
      exact ⟨by rw [E.out]; rfl, (Below.refl _ _).alloc (Nat.le_refl _) _⟩
  · have e1 : (decide (-1048576 ≤ n) && decide (n < 1048576)) = false := by simp; omega
    rw [e1] at H
    clear e1
    have E : Hid (numOk 8 n = false) := Lib.hid (by simp [numOk]; omega)
    clear h1
    go_enter Try.func74, Try.ntmps74
    go_wp2_with (refine (H _).out.mono ?_; rintro e w' ⟨rfl, rfl⟩)
    go_ret
    exact ⟨by rw [E.out]; rfl, (Below.refl _ _).alloc (Nat.le_refl _) _⟩

theorem mayNumS_29 (d a b n : Int) (s : ByteArray) (b1 : -2147483648 ≤ n) (b2 : n ≤ 2147483647) (w : World) :
    Calls Try.prog 74 #[.agg #[.int .i64 2, .int .i64 29, .int .i64 d, .int .i64 a, .int .i64 b, .int .i32 n, .string s]] w fun e w' => e = .returned (.bool (numOk 3 n)) ∧ Below w.heap.size w w' := by
  have E : (decide (-2048 ≤ n) && decide (n < 2048)) = numOk 3 n := by rw [Bool.eq_iff_iff]; simp [numOk]; omega
  have H := fun W => Lib.hid (fits_12 n b1 b2 W)
  rw [E] at H
  clear E
  go_enter Try.func74, Try.ntmps74
  go_wp2_with (refine (H _).out.mono ?_; rintro e w' ⟨rfl, rfl⟩)
  go_ret
  exact ⟨rfl, (Below.refl _ _).alloc (Nat.le_refl _) _⟩

theorem mayNumS_30 (d a b n : Int) (s : ByteArray) (b1 : -2147483648 ≤ n) (b2 : n ≤ 2147483647) (w : World) :
    Calls Try.prog 74 #[.agg #[.int .i64 2, .int .i64 30, .int .i64 d, .int .i64 a, .int .i64 b, .int .i32 n, .string s]] w fun e w' => e = .returned (.bool (numOk 1 n)) ∧ Below w.heap.size w w' := by
  have E : (n == 0) = numOk 1 n := rfl
  go_enter Try.func74, Try.ntmps74
  go_wp2
  go_ret
  exact ⟨by rw [← E]; rfl, (Below.refl _ _).alloc (Nat.le_refl _) _⟩

theorem mayNumS_any (op d a b n : Int) (s : ByteArray) (h1 : 1 ≤ op) (h2 : op ≤ 30) (b1 : -2147483648 ≤ n) (b2 : n ≤ 2147483647) (w : World) :
    Calls Try.prog 74 #[.agg #[.int .i64 2, .int .i64 op, .int .i64 d, .int .i64 a, .int .i64 b, .int .i32 n, .string s]] w fun e w' => e = .returned (.bool (numOk (formN op.toNat) n)) ∧ Below w.heap.size w w' := by
  rcases ops30 h1 h2 with rfl | rfl | rfl | rfl | rfl | rfl | rfl | rfl | rfl | rfl | rfl | rfl | rfl | rfl | rfl | rfl | rfl | rfl | rfl | rfl | rfl | rfl | rfl | rfl | rfl | rfl | rfl | rfl | rfl | rfl
  · exact mayNumS_1 d a b n s b1 b2 w
  · exact mayNumS_2 d a b n s b1 b2 w
  · exact mayNumS_3 d a b n s b1 b2 w
  · exact mayNumS_4 d a b n s b1 b2 w
  · exact mayNumS_5 d a b n s b1 b2 w
  · exact mayNumS_6 d a b n s b1 b2 w
  · exact mayNumS_7 d a b n s b1 b2 w
  · exact mayNumS_8 d a b n s b1 b2 w
  · exact mayNumS_9 d a b n s b1 b2 w
  · exact mayNumS_10 d a b n s b1 b2 w
  · exact mayNumS_11 d a b n s b1 b2 w
  · exact mayNumS_12 d a b n s b1 b2 w
  · exact mayNumS_13 d a b n s b1 b2 w
  · exact mayNumS_14 d a b n s b1 b2 w
  · exact mayNumS_15 d a b n s b1 b2 w
  · exact mayNumS_16 d a b n s b1 b2 w
  · exact mayNumS_17 d a b n s b1 b2 w
  · exact mayNumS_18 d a b n s b1 b2 w
  · exact mayNumS_19 d a b n s b1 b2 w
  · exact mayNumS_20 d a b n s b1 b2 w
  · exact mayNumS_21 d a b n s b1 b2 w
  · exact mayNumS_22 d a b n s b1 b2 w
  · exact mayNumS_23 d a b n s b1 b2 w
  · exact mayNumS_24 d a b n s b1 b2 w
  · exact mayNumS_25 d a b n s b1 b2 w
  · exact mayNumS_26 d a b n s b1 b2 w
  · exact mayNumS_27 d a b n s b1 b2 w
  · exact mayNumS_28 d a b n s b1 b2 w
  · exact mayNumS_29 d a b n s b1 b2 w
  · exact mayNumS_30 d a b n s b1 b2 w
set_option maxHeartbeats 3200000 in
theorem maySymS_any (op d a b n : Int) (s : ByteArray) (hs : s.size ≤ 4000000000) (w : World) :
    Calls Try.prog 75 #[.agg #[.int .i64 2, .int .i64 op, .int .i64 d, .int .i64 a, .int .i64 b, .int .i32 n, .string s]] w fun e w' => e = .returned (.bool (symP op n s)) ∧ Below w.heap.size w w' := by
  have HIS := Lib.hid (isSym_any s hs)
  cases hne : noS s with
  | true =>
    have e1 : s.toList.isEmpty = true := by rw [ba_toList]; exact hne
    have e2 : s.toList = [] := by rw [ba_toList]; simpa [noS] using hne
    have HSP : Hid (symP op n s = true) := Lib.hid (by unfold symP; rw [hne]; rfl)
    clear hne
    by_cases o1 : op = 1
    · subst o1
      go_enter Try.func75, Try.ntmps75
      go_wp2_with (go_at_call 70; (with_reducible refine (HIS.out _).mono ?_); rintro e w' ⟨rfl, rfl⟩)
      go_ret
      exact ⟨by rw [HSP.out]; rfl, (Below.refl _ _).alloc (Nat.le_refl _) _⟩
    · have p1 : (op == 1) = false := by simp [o1]
      by_cases o2 : op = 2
      · subst o2
        go_enter Try.func75, Try.ntmps75
        go_wp2_with (go_at_call 70; (with_reducible refine (HIS.out _).mono ?_); rintro e w' ⟨rfl, rfl⟩)
        go_ret
        exact ⟨by rw [HSP.out]; rfl, (Below.refl _ _).alloc (Nat.le_refl _) _⟩
      · have p2 : (op == 2) = false := by simp [o2]
        by_cases o3 : op = 28
        · subst o3
          go_enter Try.func75, Try.ntmps75
          go_wp2_with (go_at_call 70; (with_reducible refine (HIS.out _).mono ?_); rintro e w' ⟨rfl, rfl⟩)
          go_ret
          exact ⟨by rw [HSP.out]; rfl, (Below.refl _ _).alloc (Nat.le_refl _) _⟩
        · have p3 : (op == 28) = false := by simp [o3]
          go_enter Try.func75, Try.ntmps75
          go_wp2_with (go_at_call 70; (with_reducible refine (HIS.out _).mono ?_); rintro e w' ⟨rfl, rfl⟩)
          go_ret
          exact ⟨by rw [HSP.out]; rfl, (Below.refl _ _).alloc (Nat.le_refl _) _⟩
  | false =>
    have e1 : s.toList.isEmpty = false := by rw [ba_toList]; exact hne
    have e2 : ¬ s.toList = [] := by rw [ba_toList]; simpa [noS] using hne
    by_cases o1 : op = 1
    · subst o1
      cases hq : symB s.data.toList with
      | false =>
        rw [hq] at HIS
        have HSP : Hid (symP 1 n s = false) := Lib.hid (by unfold symP; rw [hne, hq]; rfl)
        clear hne hq
        go_enter Try.func75, Try.ntmps75
        go_wp2_with (go_at_call 70; (with_reducible refine (HIS.out _).mono ?_); rintro e w' ⟨rfl, rfl⟩)
        go_ret
        exact ⟨by rw [HSP.out]; rfl, (Below.refl _ _).alloc (Nat.le_refl _) _⟩
      | true =>
        rw [hq] at HIS
        by_cases hn0 : n = 0
        · have hnb : (n == 0) = true := by simp [hn0]
          have HSP : Hid (symP 1 n s = true) := Lib.hid (by unfold symP; rw [hne, hq, hnb]; rfl)
          clear hne hq hn0
          go_enter Try.func75, Try.ntmps75
          go_wp2_with (go_at_call 70; (with_reducible refine (HIS.out _).mono ?_); rintro e w' ⟨rfl, rfl⟩)
          go_ret
          exact ⟨by rw [HSP.out]; rfl, (Below.refl _ _).alloc (Nat.le_refl _) _⟩
        · have hnb : (n == 0) = false := by simp [hn0]
          have HSP : Hid (symP 1 n s = false) := Lib.hid (by unfold symP; rw [hne, hq, hnb]; rfl)
          clear hne hq hn0
          go_enter Try.func75, Try.ntmps75
          go_wp2_with (go_at_call 70; (with_reducible refine (HIS.out _).mono ?_); rintro e w' ⟨rfl, rfl⟩)
          go_ret
          exact ⟨by rw [HSP.out]; rfl, (Below.refl _ _).alloc (Nat.le_refl _) _⟩
    · have p1 : (op == 1) = false := by simp [o1]
      by_cases o2 : op = 2
      · subst o2
        cases hq : symB s.data.toList with
        | false =>
          rw [hq] at HIS
          have HSP : Hid (symP 2 n s = false) := Lib.hid (by unfold symP; rw [hne, hq]; rfl)
          clear hne hq
          go_enter Try.func75, Try.ntmps75
          go_wp2_with (go_at_call 70; (with_reducible refine (HIS.out _).mono ?_); rintro e w' ⟨rfl, rfl⟩)
          go_ret
          exact ⟨by rw [HSP.out]; rfl, (Below.refl _ _).alloc (Nat.le_refl _) _⟩
        | true =>
          rw [hq] at HIS
          by_cases hn0 : n = 0
          · have hnb : (n == 0) = true := by simp [hn0]
            have HSP : Hid (symP 2 n s = true) := Lib.hid (by unfold symP; rw [hne, hq, hnb]; rfl)
            clear hne hq hn0
            go_enter Try.func75, Try.ntmps75
            go_wp2_with (go_at_call 70; (with_reducible refine (HIS.out _).mono ?_); rintro e w' ⟨rfl, rfl⟩)
            go_ret
            exact ⟨by rw [HSP.out]; rfl, (Below.refl _ _).alloc (Nat.le_refl _) _⟩
          · have hnb : (n == 0) = false := by simp [hn0]
            have HSP : Hid (symP 2 n s = false) := Lib.hid (by unfold symP; rw [hne, hq, hnb]; rfl)
            clear hne hq hn0
            go_enter Try.func75, Try.ntmps75
            go_wp2_with (go_at_call 70; (with_reducible refine (HIS.out _).mono ?_); rintro e w' ⟨rfl, rfl⟩)
            go_ret
            exact ⟨by rw [HSP.out]; rfl, (Below.refl _ _).alloc (Nat.le_refl _) _⟩
      · have p2 : (op == 2) = false := by simp [o2]
        by_cases o3 : op = 28
        · subst o3
          cases hq : symB s.data.toList with
          | false =>
            rw [hq] at HIS
            have HSP : Hid (symP 28 n s = false) := Lib.hid (by unfold symP; rw [hne, hq]; rfl)
            clear hne hq
            go_enter Try.func75, Try.ntmps75
            go_wp2_with (go_at_call 70; (with_reducible refine (HIS.out _).mono ?_); rintro e w' ⟨rfl, rfl⟩)
            go_ret
            exact ⟨by rw [HSP.out]; rfl, (Below.refl _ _).alloc (Nat.le_refl _) _⟩
          | true =>
            rw [hq] at HIS
            by_cases hn0 : n = 0
            · have hnb : (n == 0) = true := by simp [hn0]
              have HSP : Hid (symP 28 n s = true) := Lib.hid (by unfold symP; rw [hne, hq, hnb]; rfl)
              clear hne hq hn0
              go_enter Try.func75, Try.ntmps75
              go_wp2_with (go_at_call 70; (with_reducible refine (HIS.out _).mono ?_); rintro e w' ⟨rfl, rfl⟩)
              go_ret
              exact ⟨by rw [HSP.out]; rfl, (Below.refl _ _).alloc (Nat.le_refl _) _⟩
            · have hnb : (n == 0) = false := by simp [hn0]
              have HSP : Hid (symP 28 n s = false) := Lib.hid (by unfold symP; rw [hne, hq, hnb]; rfl)
              clear hne hq hn0
              go_enter Try.func75, Try.ntmps75
              go_wp2_with (go_at_call 70; (with_reducible refine (HIS.out _).mono ?_); rintro e w' ⟨rfl, rfl⟩)
              go_ret
              exact ⟨by rw [HSP.out]; rfl, (Below.refl _ _).alloc (Nat.le_refl _) _⟩
        · have p3 : (op == 28) = false := by simp [o3]
          have HSP : Hid (symP op n s = false) := Lib.hid (by unfold symP; rw [hne, p1, p2, p3]; rfl)
          clear hne
          go_enter Try.func75, Try.ntmps75
          go_wp2_with (go_at_call 70; (with_reducible refine (HIS.out _).mono ?_); rintro e w' ⟨rfl, rfl⟩)
          go_ret
          exact ⟨by rw [HSP.out]; rfl, (Below.refl _ _).alloc (Nat.le_refl _) _⟩
set_option maxHeartbeats 3200000 in
theorem mayLine2_any (op d a b n : Int) (s : ByteArray) (hs : s.size ≤ 4000000000) (b1 : -2147483648 ≤ n) (b2 : n ≤ 2147483647) (w : World) :
    Calls Try.prog 50 #[.agg #[.int .i64 2, .int .i64 op, .int .i64 d, .int .i64 a, .int .i64 b, .int .i32 n, .string s]] w fun e w' => e = .returned (.bool (mayI ⟨op, d, a, b, n⟩ && symP op n s)) ∧ Below w.heap.size w w' := by
  by_cases hop : 1 ≤ op ∧ op ≤ 30
  · obtain ⟨h1, h2⟩ := hop
    obtain ⟨k1, k2, k3⟩ := has_ops op h1 h2
    obtain ⟨W0, hW0⟩ : ∃ W0, w.alloc (.cells #[.int .i64 2, .int .i64 op, .int .i64 d, .int .i64 a, .int .i64 b, .int .i32 n, .string s] 39) = W0 := ⟨_, rfl⟩
    obtain ⟨v0, hv0⟩ : ∃ v0, w.heap.size = v0 := ⟨_, rfl⟩
    have hB0 : Below w.heap.size w W0 := by rw [← hW0]; exact (Below.refl _ _).alloc (Nat.le_refl _) _
    have hcell : ∀ W', Below W0.heap.size W0 W' → ∀ j v, (#[Value.int .i64 2, .int .i64 op, .int .i64 d, .int .i64 a, .int .i64 b, .int .i32 n, .string s] : Array Value)[j]? = some v → W'.cell? ⟨v0, j, none⟩ = some v := fun W' hb j v hj => by
      refine (hb.cell (p := ⟨v0, j, none⟩) (by rw [← hv0, ← hW0]; simp)).trans ?_
      rw [← hv0, ← hW0, cell_of_row _ _ j _ _ (0, 0) (heap_alloc_new w _)]
      exact hj
    have HM : mayI ⟨op, d, a, b, n⟩ = (regOk (hasDN (formN op.toNat)) d && regOk (hasAN (formN op.toNat)) a && regOk (hasBN (formN op.toNat)) b && numOk (formN op.toNat) n) := by
      simp [mayI, h1, h2]
    rw [HM, ← k1, ← k2, ← k3]
    have HO := Lib.hid (operands_any op h1 h2 W0)
    have HR := Lib.hid (fun (W : World) (A : Option Addr) (m : Nat) (hl : (opsL op).length = m) (hn : m ≤ 1000) (h : OpsAt W A (opsL op)) => mayRegisters_any W 2 op d a b n s A m m (opsL op) hl hn h)
    have HN := Lib.hid (mayNumS_any op d a b n s h1 h2 b1 b2)
    have HS := Lib.hid (maySymS_any op d a b n s hs)
    generalize (regOk (hasL (opsL op) 0) d && regOk (hasL (opsL op) 1 || hasL (opsL op) 4) a && regOk (hasL (opsL op) 2) b) = q1 at *
    generalize numOk (formN op.toNat) n = q2 at *
    generalize symP op n s = q3 at *
    have HC := Lib.hid hcell
    have HB0 := Lib.hid hB0
    have HV0 := Lib.hid hv0
    have Bx : Below W0.heap.size W0 W0 := Below.refl _ _
    have x0 : W0.cell? ⟨v0, 0, none⟩ = some (.int .i64 2) := HC.out _ Bx 0 _ rfl
    have x1 : W0.cell? ⟨v0, 1, none⟩ = some (.int .i64 op) := HC.out _ Bx 1 _ rfl
    have x2 : W0.cell? ⟨v0, 2, none⟩ = some (.int .i64 d) := HC.out _ Bx 2 _ rfl
    have x3 : W0.cell? ⟨v0, 3, none⟩ = some (.int .i64 a) := HC.out _ Bx 3 _ rfl
    have x4 : W0.cell? ⟨v0, 4, none⟩ = some (.int .i64 b) := HC.out _ Bx 4 _ rfl
    have x5 : W0.cell? ⟨v0, 5, none⟩ = some (.int .i32 n) := HC.out _ Bx 5 _ rfl
    have x6 : W0.cell? ⟨v0, 6, none⟩ = some (.string s) := HC.out _ Bx 6 _ rfl
    clear HM k1 k2 k3 hcell hB0 Bx
    have hk2 : ((2 : Int) == 1) = false := by decide
    cases q1 <;> cases q2 <;> cases q3
    all_goals
      go_enter Try.func50, Try.ntmps50
      go_wp2_with (first
        | (go_at_call 72; (with_reducible refine HO.out.mono ?_); rintro e w1 ⟨A, m, rfl, hm1, hm2, hO, hb1⟩; have By : Below W0.heap.size W0 w1 := hb1
           have y0 : w1.cell? ⟨v0, 0, none⟩ = some (.int .i64 2) := HC.out _ By 0 _ rfl
           have y1 : w1.cell? ⟨v0, 1, none⟩ = some (.int .i64 op) := HC.out _ By 1 _ rfl
           have y2 : w1.cell? ⟨v0, 2, none⟩ = some (.int .i64 d) := HC.out _ By 2 _ rfl
           have y3 : w1.cell? ⟨v0, 3, none⟩ = some (.int .i64 a) := HC.out _ By 3 _ rfl
           have y4 : w1.cell? ⟨v0, 4, none⟩ = some (.int .i64 b) := HC.out _ By 4 _ rfl
           have y5 : w1.cell? ⟨v0, 5, none⟩ = some (.int .i32 n) := HC.out _ By 5 _ rfl
           have y6 : w1.cell? ⟨v0, 6, none⟩ = some (.string s) := HC.out _ By 6 _ rfl
           have HY := Lib.hid (And.intro By (And.intro hm1 (And.intro hm2 hO))); clear By hb1 hm1 hm2 hO)
        | (go_at_call 73; (with_reducible refine (HR.out _ _ _ HY.out.2.1 (Nat.le_trans HY.out.2.2.1 (by decide)) HY.out.2.2.2).mono ?_); rintro e w2 ⟨rfl, hb2⟩; have Bz := HY.out.1.trans (hb2.mono HY.out.1.size)
           have z0 : w2.cell? ⟨v0, 0, none⟩ = some (.int .i64 2) := HC.out _ Bz 0 _ rfl
           have z1 : w2.cell? ⟨v0, 1, none⟩ = some (.int .i64 op) := HC.out _ Bz 1 _ rfl
           have z2 : w2.cell? ⟨v0, 2, none⟩ = some (.int .i64 d) := HC.out _ Bz 2 _ rfl
           have z3 : w2.cell? ⟨v0, 3, none⟩ = some (.int .i64 a) := HC.out _ Bz 3 _ rfl
           have z4 : w2.cell? ⟨v0, 4, none⟩ = some (.int .i64 b) := HC.out _ Bz 4 _ rfl
           have z5 : w2.cell? ⟨v0, 5, none⟩ = some (.int .i32 n) := HC.out _ Bz 5 _ rfl
           have z6 : w2.cell? ⟨v0, 6, none⟩ = some (.string s) := HC.out _ Bz 6 _ rfl
           have HZ := Lib.hid Bz; clear Bz hb2)
        | (go_at_call 74; (with_reducible refine (HN.out _).mono ?_); rintro e w3 ⟨rfl, hb3⟩; have Bu := HZ.out.trans (hb3.mono HZ.out.size)
           have u0 : w3.cell? ⟨v0, 0, none⟩ = some (.int .i64 2) := HC.out _ Bu 0 _ rfl
           have u1 : w3.cell? ⟨v0, 1, none⟩ = some (.int .i64 op) := HC.out _ Bu 1 _ rfl
           have u2 : w3.cell? ⟨v0, 2, none⟩ = some (.int .i64 d) := HC.out _ Bu 2 _ rfl
           have u3 : w3.cell? ⟨v0, 3, none⟩ = some (.int .i64 a) := HC.out _ Bu 3 _ rfl
           have u4 : w3.cell? ⟨v0, 4, none⟩ = some (.int .i64 b) := HC.out _ Bu 4 _ rfl
           have u5 : w3.cell? ⟨v0, 5, none⟩ = some (.int .i32 n) := HC.out _ Bu 5 _ rfl
           have u6 : w3.cell? ⟨v0, 6, none⟩ = some (.string s) := HC.out _ Bu 6 _ rfl
           have HU := Lib.hid Bu; clear Bu hb3)
        | (go_at_call 75; (with_reducible refine (HS.out _).mono ?_); rintro e w4 ⟨rfl, hb4⟩; have HT := Lib.hid (HU.out.trans (hb4.mono HU.out.size)); clear hb4))
      go_ret
      refine ⟨rfl, ?_⟩
      first | exact HB0.out.trans (HT.out.mono HB0.out.size) | exact HB0.out.trans (HU.out.mono HB0.out.size) | exact HB0.out.trans (HZ.out.mono HB0.out.size)
  · have HM : mayI ⟨op, d, a, b, n⟩ = false := by
      simp only [not_and, Int.not_le] at hop
      unfold mayI
      by_cases h1 : 1 ≤ op
      · have := hop h1
        simp only [show decide (op ≤ 30) = false from by simp; omega, Bool.and_false, Bool.false_and]
      · simp only [show decide (1 ≤ op) = false from by simp; omega, Bool.false_and]
    rw [HM, Bool.false_and]
    have HO : ∀ w, Calls Try.prog 72 #[.int .i64 op] w fun e w' => e = .returned (.tuple #[.slice none 0 0, .bool false]) ∧ w' = w := fun w => by
      by_cases h : op < 1
      · exact operands_lo op h w
      · exact operands_hi op (by omega) w
    have H := Lib.hid HO
    clear HO hop HM
    go_enter Try.func50, Try.ntmps50
    go_wp2_with (go_at_call 72; refine (H.out _).mono ?_; rintro e w' ⟨rfl, rfl⟩)
    go_ret
    exact ⟨rfl, (Below.refl _ _).alloc (Nat.le_refl _) _⟩
theorem label_any (s : ByteArray) (w : World) : Calls Try.prog 71 #[.string s] w fun e w' => e = .returned (.agg #[.int .i64 1, .int .i64 0, .int .i64 0, .int .i64 0, .int .i64 0, .int .i32 0, .string s]) ∧ Below w.heap.size w w' := by
  go_enter Try.func71, Try.ntmps71
  go_wp2_with fail
  exact bodyPost_ret (results_cell_row rfl _ _ w.heap.size _ _ (0, 0) _ rfl (heap_alloc_new w _) Try.underlying39 rfl (by kernel_rfl)) rfl ⟨rfl, (Below.refl _ _).alloc (Nat.le_refl _) _⟩
set_option maxHeartbeats 3200000 in
theorem mayLine1_any (op d a b n : Int) (s : ByteArray) (hs : s.size ≤ 4000000000) (w : World) :
    Calls Try.prog 50 #[.agg #[.int .i64 1, .int .i64 op, .int .i64 d, .int .i64 a, .int .i64 b, .int .i32 n, .string s]] w fun e w' => e = .returned (.bool (symB s.data.toList && op == 0 && d == 0 && a == 0 && b == 0 && n == 0)) ∧ Below w.heap.size w w' := by
  have HIS := Lib.hid (isSym_any s hs)
  have HLB := Lib.hid (label_any s)
  cases hq : symB s.data.toList with
  | false =>
    rw [hq] at HIS
    simp only [Bool.false_and]
    obtain ⟨v0, hv0⟩ : ∃ v0, w.heap.size = v0 := ⟨_, rfl⟩
    obtain ⟨W0, hW0⟩ : ∃ W0, w.alloc (.cells #[.int .i64 1, .int .i64 op, .int .i64 d, .int .i64 a, .int .i64 b, .int .i32 n, .string s] 39) = W0 := ⟨_, rfl⟩
    have hb0 : Below w.heap.size w W0 := by rw [← hW0]; exact (Below.refl _ _).alloc (Nat.le_refl _) _
    have hx0 : W0.heap[v0]? = some (.cells #[.int .i64 1, .int .i64 op, .int .i64 d, .int .i64 a, .int .i64 b, .int .i32 n, .string s] 39 (0, 0)) := by rw [← hW0, ← hv0]; exact heap_alloc_new w _
    have HX : Hid (∀ V, Below W0.heap.size W0 V → (fun w : World => w.cell? ⟨v0, 0, none⟩ = some (.int .i64 1) ∧ w.cell? ⟨v0, 1, none⟩ = some (.int .i64 op) ∧ w.cell? ⟨v0, 2, none⟩ = some (.int .i64 d) ∧ w.cell? ⟨v0, 3, none⟩ = some (.int .i64 a) ∧ w.cell? ⟨v0, 4, none⟩ = some (.int .i64 b) ∧ w.cell? ⟨v0, 5, none⟩ = some (.int .i32 n) ∧ w.cell? ⟨v0, 6, none⟩ = some (.string s)) V) := Lib.hid (fun V hV => by
      obtain ⟨y0, y1, y2, y3, y4, y5, y6, -⟩ := box7 ((hV.block _ (Array.getElem?_eq_some_iff.1 hx0).1).trans hx0)
      exact ⟨y0, y1, y2, y3, y4, y5, y6⟩)
    obtain ⟨z0, z1, z2, z3, z4, z5, z6⟩ := HX.out W0 (Below.refl _ _)
    have HB0 := Lib.hid hb0
    clear hb0 hx0
    go_enter Try.func50, Try.ntmps50
    go_wp2_with fail
    go_big_quiet ((go_at_call 70; with_reducible exact quiet_left (HIS.out _)))
    go_wp2
    go_ret
    exact ⟨rfl, below_drewN HB0.out _⟩
  | true =>
    rw [hq] at HIS
    simp only [Bool.true_and]
    by_cases hop : op = 0
    · subst hop
      by_cases hd : d = 0
      · subst hd
        by_cases ha : a = 0
        · subst ha
          by_cases hb : b = 0
          · subst hb
            by_cases hn : n = 0
            · subst hn
              obtain ⟨v0, hv0⟩ : ∃ v0, w.heap.size = v0 := ⟨_, rfl⟩
              obtain ⟨W0, hW0⟩ : ∃ W0, w.alloc (.cells #[.int .i64 1, .int .i64 0, .int .i64 0, .int .i64 0, .int .i64 0, .int .i32 0, .string s] 39) = W0 := ⟨_, rfl⟩
              have hb0 : Below w.heap.size w W0 := by rw [← hW0]; exact (Below.refl _ _).alloc (Nat.le_refl _) _
              have hx0 : W0.heap[v0]? = some (.cells #[.int .i64 1, .int .i64 0, .int .i64 0, .int .i64 0, .int .i64 0, .int .i32 0, .string s] 39 (0, 0)) := by rw [← hW0, ← hv0]; exact heap_alloc_new w _
              have HX : Hid (∀ V, Below W0.heap.size W0 V → (fun w : World => w.cell? ⟨v0, 0, none⟩ = some (.int .i64 1) ∧ w.cell? ⟨v0, 1, none⟩ = some (.int .i64 0) ∧ w.cell? ⟨v0, 2, none⟩ = some (.int .i64 0) ∧ w.cell? ⟨v0, 3, none⟩ = some (.int .i64 0) ∧ w.cell? ⟨v0, 4, none⟩ = some (.int .i64 0) ∧ w.cell? ⟨v0, 5, none⟩ = some (.int .i32 0) ∧ w.cell? ⟨v0, 6, none⟩ = some (.string s)) V) := Lib.hid (fun V hV => by
                obtain ⟨y0, y1, y2, y3, y4, y5, y6, -⟩ := box7 ((hV.block _ (Array.getElem?_eq_some_iff.1 hx0).1).trans hx0)
                exact ⟨y0, y1, y2, y3, y4, y5, y6⟩)
              obtain ⟨z0, z1, z2, z3, z4, z5, z6⟩ := HX.out W0 (Below.refl _ _)
              have HB0 := Lib.hid hb0
              clear hb0 hx0
              go_enter Try.func50, Try.ntmps50
              go_upto_region 3 with fail
              refine wp_region_held_drew (S := fun V => Below W0.heap.size W0 V) (by kernel_rfl) ((Below.refl _ W0).drew) (fun _ => ?_)
              refine takeH 0 9 (v := (.pointer (some ⟨v0, 6, none⟩))) rfl rfl (by kernel_rfl) (by kernel_rfl) (by kernel_rfl) (fun _ _ _ h => h) (by rfl) ?_ (by assumption) ?_
              · intro w hSw
                obtain ⟨y0, y1, y2, y3, y4, y5, y6⟩ := HX.out w hSw
                go_simp
              try simp only [Act.put, List.setIfInBounds_toArray, List.set_cons_zero, List.set_cons_succ]
              refine takeH 1 10 (v := (.string s)) rfl rfl (by kernel_rfl) (by kernel_rfl) (by kernel_rfl) (fun _ _ _ h => h) (by rfl) ?_ (by assumption) ?_
              · intro w hSw
                obtain ⟨y0, y1, y2, y3, y4, y5, y6⟩ := HX.out w hSw
                go_simp
              try simp only [Act.put, List.setIfInBounds_toArray, List.set_cons_zero, List.set_cons_succ]
              refine wpAnyH_ready (rs := [2]) (by kernel_rfl) (by simp) ?_
              refine AllReadyH.cons rfl (fun K hK => ?_) AllReadyH.nil
              go_simp
              go_at_call 70
              (with_reducible refine (HIS.out _).mono ?_)
              rintro en w2 ⟨rfl, rfl⟩
              refine hK.out _ _ (by assumption) (fun _ => ?_)
              clear hK K
              try simp only [Act.put, List.setIfInBounds_toArray, List.set_cons_zero, List.set_cons_succ]
              refine takeH 3 12 (v := (.bool true)) rfl rfl (by kernel_rfl) (by kernel_rfl) (by kernel_rfl) (fun _ _ _ h => h) (by rfl) ?_ (by assumption) ?_
              · intro w hSw
                obtain ⟨y0, y1, y2, y3, y4, y5, y6⟩ := HX.out w hSw
                go_simp
              try simp only [Act.put, List.setIfInBounds_toArray, List.set_cons_zero, List.set_cons_succ]
              refine takeH 4 13 (v := (.agg #[.int .i64 1, .int .i64 0, .int .i64 0, .int .i64 0, .int .i64 0, .int .i32 0, .string s])) rfl rfl (by kernel_rfl) (by kernel_rfl) (by kernel_rfl) (fun _ _ _ h => h) (by rfl) ?_ (by assumption) ?_
              · intro w hSw
                obtain ⟨y0, y1, y2, y3, y4, y5, y6⟩ := HX.out w hSw
                go_simp
              try simp only [Act.put, List.setIfInBounds_toArray, List.set_cons_zero, List.set_cons_succ]
              refine takeH 5 14 (v := (.pointer (some ⟨v0, 6, none⟩))) rfl rfl (by kernel_rfl) (by kernel_rfl) (by kernel_rfl) (fun _ _ _ h => h) (by rfl) ?_ (by assumption) ?_
              · intro w hSw
                obtain ⟨y0, y1, y2, y3, y4, y5, y6⟩ := HX.out w hSw
                go_simp
              try simp only [Act.put, List.setIfInBounds_toArray, List.set_cons_zero, List.set_cons_succ]
              refine takeH 6 15 (v := (.string s)) rfl rfl (by kernel_rfl) (by kernel_rfl) (by kernel_rfl) (fun _ _ _ h => h) (by rfl) ?_ (by assumption) ?_
              · intro w hSw
                obtain ⟨y0, y1, y2, y3, y4, y5, y6⟩ := HX.out w hSw
                go_simp
              try simp only [Act.put, List.setIfInBounds_toArray, List.set_cons_zero, List.set_cons_succ]
              refine wpAnyH_ready (rs := [7]) (by kernel_rfl) (by simp) ?_
              refine AllReadyH.cons rfl (fun K hK => ?_) AllReadyH.nil
              go_simp
              go_at_call 71
              (with_reducible refine (HLB.out _).mono ?_)
              rintro en w3 ⟨rfl, hb3⟩
              have HB3 : Hid (Below W0.heap.size W0 w3) := Lib.hid ((show Below W0.heap.size W0 _ by assumption).trans (hb3.mono (show Below W0.heap.size W0 _ by assumption).size))
              clear hb3
              refine hK.out _ _ HB3.out (fun _ => ?_)
              clear hK K
              try simp only [Act.put, List.setIfInBounds_toArray, List.set_cons_zero, List.set_cons_succ]
              refine takeH 8 17 (v := (.bool true)) rfl rfl (by kernel_rfl) (by kernel_rfl) (by kernel_rfl) (fun _ _ _ h => h) (by rfl) ?_ HB3.out ?_
              · intro w hSw
                obtain ⟨y0, y1, y2, y3, y4, y5, y6⟩ := HX.out w hSw
                go_simp
              try simp only [Act.put, List.setIfInBounds_toArray, List.set_cons_zero, List.set_cons_succ]
              refine takeH 9 18 (v := (.bool true)) rfl rfl (by kernel_rfl) (by kernel_rfl) (by kernel_rfl) (fun _ _ _ h => h) (by rfl) ?_ HB3.out ?_
              · intro w hSw
                obtain ⟨y0, y1, y2, y3, y4, y5, y6⟩ := HX.out w hSw
                go_simp
              try simp only [Act.put, List.setIfInBounds_toArray, List.set_cons_zero, List.set_cons_succ]
              refine takeH 10 2 (v := (.bool true)) rfl rfl (by kernel_rfl) (by kernel_rfl) (by kernel_rfl) (fun _ _ _ h => h) (by rfl) ?_ HB3.out ?_
              · intro w hSw
                obtain ⟨y0, y1, y2, y3, y4, y5, y6⟩ := HX.out w hSw
                go_simp
              try simp only [Act.put, List.setIfInBounds_toArray, List.set_cons_zero, List.set_cons_succ]
              refine wpAnyH_done (by kernel_rfl) ?_ _
              go_wp2_with fail
              go_ret
              exact ⟨by simp [*], by have h := HB0.out.trans (HB3.out.mono HB0.out.size); rw [hv0] at h; exact h⟩
            · have hnb : (n == 0) = false := by simp [hn]
              obtain ⟨v0, hv0⟩ : ∃ v0, w.heap.size = v0 := ⟨_, rfl⟩
              obtain ⟨W0, hW0⟩ : ∃ W0, w.alloc (.cells #[.int .i64 1, .int .i64 0, .int .i64 0, .int .i64 0, .int .i64 0, .int .i32 n, .string s] 39) = W0 := ⟨_, rfl⟩
              have hb0 : Below w.heap.size w W0 := by rw [← hW0]; exact (Below.refl _ _).alloc (Nat.le_refl _) _
              have hx0 : W0.heap[v0]? = some (.cells #[.int .i64 1, .int .i64 0, .int .i64 0, .int .i64 0, .int .i64 0, .int .i32 n, .string s] 39 (0, 0)) := by rw [← hW0, ← hv0]; exact heap_alloc_new w _
              have HX : Hid (∀ V, Below W0.heap.size W0 V → (fun w : World => w.cell? ⟨v0, 0, none⟩ = some (.int .i64 1) ∧ w.cell? ⟨v0, 1, none⟩ = some (.int .i64 0) ∧ w.cell? ⟨v0, 2, none⟩ = some (.int .i64 0) ∧ w.cell? ⟨v0, 3, none⟩ = some (.int .i64 0) ∧ w.cell? ⟨v0, 4, none⟩ = some (.int .i64 0) ∧ w.cell? ⟨v0, 5, none⟩ = some (.int .i32 n) ∧ w.cell? ⟨v0, 6, none⟩ = some (.string s)) V) := Lib.hid (fun V hV => by
                obtain ⟨y0, y1, y2, y3, y4, y5, y6, -⟩ := box7 ((hV.block _ (Array.getElem?_eq_some_iff.1 hx0).1).trans hx0)
                exact ⟨y0, y1, y2, y3, y4, y5, y6⟩)
              obtain ⟨z0, z1, z2, z3, z4, z5, z6⟩ := HX.out W0 (Below.refl _ _)
              have HB0 := Lib.hid hb0
              clear hb0 hx0
              go_enter Try.func50, Try.ntmps50
              go_upto_region 3 with fail
              refine wp_region_held_drew (S := fun V => Below W0.heap.size W0 V) (by kernel_rfl) ((Below.refl _ W0).drew) (fun _ => ?_)
              refine takeH 0 9 (v := (.pointer (some ⟨v0, 6, none⟩))) rfl rfl (by kernel_rfl) (by kernel_rfl) (by kernel_rfl) (fun _ _ _ h => h) (by rfl) ?_ (by assumption) ?_
              · intro w hSw
                obtain ⟨y0, y1, y2, y3, y4, y5, y6⟩ := HX.out w hSw
                go_simp
              try simp only [Act.put, List.setIfInBounds_toArray, List.set_cons_zero, List.set_cons_succ]
              refine takeH 1 10 (v := (.string s)) rfl rfl (by kernel_rfl) (by kernel_rfl) (by kernel_rfl) (fun _ _ _ h => h) (by rfl) ?_ (by assumption) ?_
              · intro w hSw
                obtain ⟨y0, y1, y2, y3, y4, y5, y6⟩ := HX.out w hSw
                go_simp
              try simp only [Act.put, List.setIfInBounds_toArray, List.set_cons_zero, List.set_cons_succ]
              refine wpAnyH_ready (rs := [2]) (by kernel_rfl) (by simp) ?_
              refine AllReadyH.cons rfl (fun K hK => ?_) AllReadyH.nil
              go_simp
              go_at_call 70
              (with_reducible refine (HIS.out _).mono ?_)
              rintro en w2 ⟨rfl, rfl⟩
              refine hK.out _ _ (by assumption) (fun _ => ?_)
              clear hK K
              try simp only [Act.put, List.setIfInBounds_toArray, List.set_cons_zero, List.set_cons_succ]
              refine takeH 3 12 (v := (.bool true)) rfl rfl (by kernel_rfl) (by kernel_rfl) (by kernel_rfl) (fun _ _ _ h => h) (by rfl) ?_ (by assumption) ?_
              · intro w hSw
                obtain ⟨y0, y1, y2, y3, y4, y5, y6⟩ := HX.out w hSw
                go_simp
              try simp only [Act.put, List.setIfInBounds_toArray, List.set_cons_zero, List.set_cons_succ]
              refine takeH 4 13 (v := (.agg #[.int .i64 1, .int .i64 0, .int .i64 0, .int .i64 0, .int .i64 0, .int .i32 n, .string s])) rfl rfl (by kernel_rfl) (by kernel_rfl) (by kernel_rfl) (fun _ _ _ h => h) (by rfl) ?_ (by assumption) ?_
              · intro w hSw
                obtain ⟨y0, y1, y2, y3, y4, y5, y6⟩ := HX.out w hSw
                go_simp
              try simp only [Act.put, List.setIfInBounds_toArray, List.set_cons_zero, List.set_cons_succ]
              refine takeH 5 14 (v := (.pointer (some ⟨v0, 6, none⟩))) rfl rfl (by kernel_rfl) (by kernel_rfl) (by kernel_rfl) (fun _ _ _ h => h) (by rfl) ?_ (by assumption) ?_
              · intro w hSw
                obtain ⟨y0, y1, y2, y3, y4, y5, y6⟩ := HX.out w hSw
                go_simp
              try simp only [Act.put, List.setIfInBounds_toArray, List.set_cons_zero, List.set_cons_succ]
              refine takeH 6 15 (v := (.string s)) rfl rfl (by kernel_rfl) (by kernel_rfl) (by kernel_rfl) (fun _ _ _ h => h) (by rfl) ?_ (by assumption) ?_
              · intro w hSw
                obtain ⟨y0, y1, y2, y3, y4, y5, y6⟩ := HX.out w hSw
                go_simp
              try simp only [Act.put, List.setIfInBounds_toArray, List.set_cons_zero, List.set_cons_succ]
              refine wpAnyH_ready (rs := [7]) (by kernel_rfl) (by simp) ?_
              refine AllReadyH.cons rfl (fun K hK => ?_) AllReadyH.nil
              go_simp
              go_at_call 71
              (with_reducible refine (HLB.out _).mono ?_)
              rintro en w3 ⟨rfl, hb3⟩
              have HB3 : Hid (Below W0.heap.size W0 w3) := Lib.hid ((show Below W0.heap.size W0 _ by assumption).trans (hb3.mono (show Below W0.heap.size W0 _ by assumption).size))
              clear hb3
              refine hK.out _ _ HB3.out (fun _ => ?_)
              clear hK K
              try simp only [Act.put, List.setIfInBounds_toArray, List.set_cons_zero, List.set_cons_succ]
              refine takeH 8 17 (v := (.bool false)) rfl rfl (by kernel_rfl) (by kernel_rfl) (by kernel_rfl) (fun _ _ _ h => h) (by rfl) ?_ HB3.out ?_
              · intro w hSw
                obtain ⟨y0, y1, y2, y3, y4, y5, y6⟩ := HX.out w hSw
                go_simp
              try simp only [Act.put, List.setIfInBounds_toArray, List.set_cons_zero, List.set_cons_succ]
              refine takeH 9 18 (v := (.bool false)) rfl rfl (by kernel_rfl) (by kernel_rfl) (by kernel_rfl) (fun _ _ _ h => h) (by rfl) ?_ HB3.out ?_
              · intro w hSw
                obtain ⟨y0, y1, y2, y3, y4, y5, y6⟩ := HX.out w hSw
                go_simp
              try simp only [Act.put, List.setIfInBounds_toArray, List.set_cons_zero, List.set_cons_succ]
              refine takeH 10 2 (v := (.bool false)) rfl rfl (by kernel_rfl) (by kernel_rfl) (by kernel_rfl) (fun _ _ _ h => h) (by rfl) ?_ HB3.out ?_
              · intro w hSw
                obtain ⟨y0, y1, y2, y3, y4, y5, y6⟩ := HX.out w hSw
                go_simp
              try simp only [Act.put, List.setIfInBounds_toArray, List.set_cons_zero, List.set_cons_succ]
              refine wpAnyH_done (by kernel_rfl) ?_ _
              go_wp2_with fail
              go_ret
              exact ⟨by simp [*], by have h := HB0.out.trans (HB3.out.mono HB0.out.size); rw [hv0] at h; exact h⟩
          · have hbb : (b == 0) = false := by simp [hb]
            obtain ⟨v0, hv0⟩ : ∃ v0, w.heap.size = v0 := ⟨_, rfl⟩
            obtain ⟨W0, hW0⟩ : ∃ W0, w.alloc (.cells #[.int .i64 1, .int .i64 0, .int .i64 0, .int .i64 0, .int .i64 b, .int .i32 n, .string s] 39) = W0 := ⟨_, rfl⟩
            have hb0 : Below w.heap.size w W0 := by rw [← hW0]; exact (Below.refl _ _).alloc (Nat.le_refl _) _
            have hx0 : W0.heap[v0]? = some (.cells #[.int .i64 1, .int .i64 0, .int .i64 0, .int .i64 0, .int .i64 b, .int .i32 n, .string s] 39 (0, 0)) := by rw [← hW0, ← hv0]; exact heap_alloc_new w _
            have HX : Hid (∀ V, Below W0.heap.size W0 V → (fun w : World => w.cell? ⟨v0, 0, none⟩ = some (.int .i64 1) ∧ w.cell? ⟨v0, 1, none⟩ = some (.int .i64 0) ∧ w.cell? ⟨v0, 2, none⟩ = some (.int .i64 0) ∧ w.cell? ⟨v0, 3, none⟩ = some (.int .i64 0) ∧ w.cell? ⟨v0, 4, none⟩ = some (.int .i64 b) ∧ w.cell? ⟨v0, 5, none⟩ = some (.int .i32 n) ∧ w.cell? ⟨v0, 6, none⟩ = some (.string s)) V) := Lib.hid (fun V hV => by
              obtain ⟨y0, y1, y2, y3, y4, y5, y6, -⟩ := box7 ((hV.block _ (Array.getElem?_eq_some_iff.1 hx0).1).trans hx0)
              exact ⟨y0, y1, y2, y3, y4, y5, y6⟩)
            obtain ⟨z0, z1, z2, z3, z4, z5, z6⟩ := HX.out W0 (Below.refl _ _)
            have HB0 := Lib.hid hb0
            clear hb0 hx0
            go_enter Try.func50, Try.ntmps50
            go_upto_region 3 with fail
            refine wp_region_held_drew (S := fun V => Below W0.heap.size W0 V) (by kernel_rfl) ((Below.refl _ W0).drew) (fun _ => ?_)
            refine takeH 0 9 (v := (.pointer (some ⟨v0, 6, none⟩))) rfl rfl (by kernel_rfl) (by kernel_rfl) (by kernel_rfl) (fun _ _ _ h => h) (by rfl) ?_ (by assumption) ?_
            · intro w hSw
              obtain ⟨y0, y1, y2, y3, y4, y5, y6⟩ := HX.out w hSw
              go_simp
            try simp only [Act.put, List.setIfInBounds_toArray, List.set_cons_zero, List.set_cons_succ]
            refine takeH 1 10 (v := (.string s)) rfl rfl (by kernel_rfl) (by kernel_rfl) (by kernel_rfl) (fun _ _ _ h => h) (by rfl) ?_ (by assumption) ?_
            · intro w hSw
              obtain ⟨y0, y1, y2, y3, y4, y5, y6⟩ := HX.out w hSw
              go_simp
            try simp only [Act.put, List.setIfInBounds_toArray, List.set_cons_zero, List.set_cons_succ]
            refine wpAnyH_ready (rs := [2]) (by kernel_rfl) (by simp) ?_
            refine AllReadyH.cons rfl (fun K hK => ?_) AllReadyH.nil
            go_simp
            go_at_call 70
            (with_reducible refine (HIS.out _).mono ?_)
            rintro en w2 ⟨rfl, rfl⟩
            refine hK.out _ _ (by assumption) (fun _ => ?_)
            clear hK K
            try simp only [Act.put, List.setIfInBounds_toArray, List.set_cons_zero, List.set_cons_succ]
            refine takeH 3 12 (v := (.bool true)) rfl rfl (by kernel_rfl) (by kernel_rfl) (by kernel_rfl) (fun _ _ _ h => h) (by rfl) ?_ (by assumption) ?_
            · intro w hSw
              obtain ⟨y0, y1, y2, y3, y4, y5, y6⟩ := HX.out w hSw
              go_simp
            try simp only [Act.put, List.setIfInBounds_toArray, List.set_cons_zero, List.set_cons_succ]
            refine takeH 4 13 (v := (.agg #[.int .i64 1, .int .i64 0, .int .i64 0, .int .i64 0, .int .i64 b, .int .i32 n, .string s])) rfl rfl (by kernel_rfl) (by kernel_rfl) (by kernel_rfl) (fun _ _ _ h => h) (by rfl) ?_ (by assumption) ?_
            · intro w hSw
              obtain ⟨y0, y1, y2, y3, y4, y5, y6⟩ := HX.out w hSw
              go_simp
            try simp only [Act.put, List.setIfInBounds_toArray, List.set_cons_zero, List.set_cons_succ]
            refine takeH 5 14 (v := (.pointer (some ⟨v0, 6, none⟩))) rfl rfl (by kernel_rfl) (by kernel_rfl) (by kernel_rfl) (fun _ _ _ h => h) (by rfl) ?_ (by assumption) ?_
            · intro w hSw
              obtain ⟨y0, y1, y2, y3, y4, y5, y6⟩ := HX.out w hSw
              go_simp
            try simp only [Act.put, List.setIfInBounds_toArray, List.set_cons_zero, List.set_cons_succ]
            refine takeH 6 15 (v := (.string s)) rfl rfl (by kernel_rfl) (by kernel_rfl) (by kernel_rfl) (fun _ _ _ h => h) (by rfl) ?_ (by assumption) ?_
            · intro w hSw
              obtain ⟨y0, y1, y2, y3, y4, y5, y6⟩ := HX.out w hSw
              go_simp
            try simp only [Act.put, List.setIfInBounds_toArray, List.set_cons_zero, List.set_cons_succ]
            refine wpAnyH_ready (rs := [7]) (by kernel_rfl) (by simp) ?_
            refine AllReadyH.cons rfl (fun K hK => ?_) AllReadyH.nil
            go_simp
            go_at_call 71
            (with_reducible refine (HLB.out _).mono ?_)
            rintro en w3 ⟨rfl, hb3⟩
            have HB3 : Hid (Below W0.heap.size W0 w3) := Lib.hid ((show Below W0.heap.size W0 _ by assumption).trans (hb3.mono (show Below W0.heap.size W0 _ by assumption).size))
            clear hb3
            refine hK.out _ _ HB3.out (fun _ => ?_)
            clear hK K
            try simp only [Act.put, List.setIfInBounds_toArray, List.set_cons_zero, List.set_cons_succ]
            refine takeH 8 17 (v := (.bool false)) rfl rfl (by kernel_rfl) (by kernel_rfl) (by kernel_rfl) (fun _ _ _ h => h) (by rfl) ?_ HB3.out ?_
            · intro w hSw
              obtain ⟨y0, y1, y2, y3, y4, y5, y6⟩ := HX.out w hSw
              go_simp
            try simp only [Act.put, List.setIfInBounds_toArray, List.set_cons_zero, List.set_cons_succ]
            refine takeH 9 18 (v := (.bool false)) rfl rfl (by kernel_rfl) (by kernel_rfl) (by kernel_rfl) (fun _ _ _ h => h) (by rfl) ?_ HB3.out ?_
            · intro w hSw
              obtain ⟨y0, y1, y2, y3, y4, y5, y6⟩ := HX.out w hSw
              go_simp
            try simp only [Act.put, List.setIfInBounds_toArray, List.set_cons_zero, List.set_cons_succ]
            refine takeH 10 2 (v := (.bool false)) rfl rfl (by kernel_rfl) (by kernel_rfl) (by kernel_rfl) (fun _ _ _ h => h) (by rfl) ?_ HB3.out ?_
            · intro w hSw
              obtain ⟨y0, y1, y2, y3, y4, y5, y6⟩ := HX.out w hSw
              go_simp
            try simp only [Act.put, List.setIfInBounds_toArray, List.set_cons_zero, List.set_cons_succ]
            refine wpAnyH_done (by kernel_rfl) ?_ _
            go_wp2_with fail
            go_ret
            exact ⟨by simp [*], by have h := HB0.out.trans (HB3.out.mono HB0.out.size); rw [hv0] at h; exact h⟩
        · have hab : (a == 0) = false := by simp [ha]
          obtain ⟨v0, hv0⟩ : ∃ v0, w.heap.size = v0 := ⟨_, rfl⟩
          obtain ⟨W0, hW0⟩ : ∃ W0, w.alloc (.cells #[.int .i64 1, .int .i64 0, .int .i64 0, .int .i64 a, .int .i64 b, .int .i32 n, .string s] 39) = W0 := ⟨_, rfl⟩
          have hb0 : Below w.heap.size w W0 := by rw [← hW0]; exact (Below.refl _ _).alloc (Nat.le_refl _) _
          have hx0 : W0.heap[v0]? = some (.cells #[.int .i64 1, .int .i64 0, .int .i64 0, .int .i64 a, .int .i64 b, .int .i32 n, .string s] 39 (0, 0)) := by rw [← hW0, ← hv0]; exact heap_alloc_new w _
          have HX : Hid (∀ V, Below W0.heap.size W0 V → (fun w : World => w.cell? ⟨v0, 0, none⟩ = some (.int .i64 1) ∧ w.cell? ⟨v0, 1, none⟩ = some (.int .i64 0) ∧ w.cell? ⟨v0, 2, none⟩ = some (.int .i64 0) ∧ w.cell? ⟨v0, 3, none⟩ = some (.int .i64 a) ∧ w.cell? ⟨v0, 4, none⟩ = some (.int .i64 b) ∧ w.cell? ⟨v0, 5, none⟩ = some (.int .i32 n) ∧ w.cell? ⟨v0, 6, none⟩ = some (.string s)) V) := Lib.hid (fun V hV => by
            obtain ⟨y0, y1, y2, y3, y4, y5, y6, -⟩ := box7 ((hV.block _ (Array.getElem?_eq_some_iff.1 hx0).1).trans hx0)
            exact ⟨y0, y1, y2, y3, y4, y5, y6⟩)
          obtain ⟨z0, z1, z2, z3, z4, z5, z6⟩ := HX.out W0 (Below.refl _ _)
          have HB0 := Lib.hid hb0
          clear hb0 hx0
          go_enter Try.func50, Try.ntmps50
          go_upto_region 3 with fail
          refine wp_region_held_drew (S := fun V => Below W0.heap.size W0 V) (by kernel_rfl) ((Below.refl _ W0).drew) (fun _ => ?_)
          refine takeH 0 9 (v := (.pointer (some ⟨v0, 6, none⟩))) rfl rfl (by kernel_rfl) (by kernel_rfl) (by kernel_rfl) (fun _ _ _ h => h) (by rfl) ?_ (by assumption) ?_
          · intro w hSw
            obtain ⟨y0, y1, y2, y3, y4, y5, y6⟩ := HX.out w hSw
            go_simp
          try simp only [Act.put, List.setIfInBounds_toArray, List.set_cons_zero, List.set_cons_succ]
          refine takeH 1 10 (v := (.string s)) rfl rfl (by kernel_rfl) (by kernel_rfl) (by kernel_rfl) (fun _ _ _ h => h) (by rfl) ?_ (by assumption) ?_
          · intro w hSw
            obtain ⟨y0, y1, y2, y3, y4, y5, y6⟩ := HX.out w hSw
            go_simp
          try simp only [Act.put, List.setIfInBounds_toArray, List.set_cons_zero, List.set_cons_succ]
          refine wpAnyH_ready (rs := [2]) (by kernel_rfl) (by simp) ?_
          refine AllReadyH.cons rfl (fun K hK => ?_) AllReadyH.nil
          go_simp
          go_at_call 70
          (with_reducible refine (HIS.out _).mono ?_)
          rintro en w2 ⟨rfl, rfl⟩
          refine hK.out _ _ (by assumption) (fun _ => ?_)
          clear hK K
          try simp only [Act.put, List.setIfInBounds_toArray, List.set_cons_zero, List.set_cons_succ]
          refine takeH 3 12 (v := (.bool true)) rfl rfl (by kernel_rfl) (by kernel_rfl) (by kernel_rfl) (fun _ _ _ h => h) (by rfl) ?_ (by assumption) ?_
          · intro w hSw
            obtain ⟨y0, y1, y2, y3, y4, y5, y6⟩ := HX.out w hSw
            go_simp
          try simp only [Act.put, List.setIfInBounds_toArray, List.set_cons_zero, List.set_cons_succ]
          refine takeH 4 13 (v := (.agg #[.int .i64 1, .int .i64 0, .int .i64 0, .int .i64 a, .int .i64 b, .int .i32 n, .string s])) rfl rfl (by kernel_rfl) (by kernel_rfl) (by kernel_rfl) (fun _ _ _ h => h) (by rfl) ?_ (by assumption) ?_
          · intro w hSw
            obtain ⟨y0, y1, y2, y3, y4, y5, y6⟩ := HX.out w hSw
            go_simp
          try simp only [Act.put, List.setIfInBounds_toArray, List.set_cons_zero, List.set_cons_succ]
          refine takeH 5 14 (v := (.pointer (some ⟨v0, 6, none⟩))) rfl rfl (by kernel_rfl) (by kernel_rfl) (by kernel_rfl) (fun _ _ _ h => h) (by rfl) ?_ (by assumption) ?_
          · intro w hSw
            obtain ⟨y0, y1, y2, y3, y4, y5, y6⟩ := HX.out w hSw
            go_simp
          try simp only [Act.put, List.setIfInBounds_toArray, List.set_cons_zero, List.set_cons_succ]
          refine takeH 6 15 (v := (.string s)) rfl rfl (by kernel_rfl) (by kernel_rfl) (by kernel_rfl) (fun _ _ _ h => h) (by rfl) ?_ (by assumption) ?_
          · intro w hSw
            obtain ⟨y0, y1, y2, y3, y4, y5, y6⟩ := HX.out w hSw
            go_simp
          try simp only [Act.put, List.setIfInBounds_toArray, List.set_cons_zero, List.set_cons_succ]
          refine wpAnyH_ready (rs := [7]) (by kernel_rfl) (by simp) ?_
          refine AllReadyH.cons rfl (fun K hK => ?_) AllReadyH.nil
          go_simp
          go_at_call 71
          (with_reducible refine (HLB.out _).mono ?_)
          rintro en w3 ⟨rfl, hb3⟩
          have HB3 : Hid (Below W0.heap.size W0 w3) := Lib.hid ((show Below W0.heap.size W0 _ by assumption).trans (hb3.mono (show Below W0.heap.size W0 _ by assumption).size))
          clear hb3
          refine hK.out _ _ HB3.out (fun _ => ?_)
          clear hK K
          try simp only [Act.put, List.setIfInBounds_toArray, List.set_cons_zero, List.set_cons_succ]
          refine takeH 8 17 (v := (.bool false)) rfl rfl (by kernel_rfl) (by kernel_rfl) (by kernel_rfl) (fun _ _ _ h => h) (by rfl) ?_ HB3.out ?_
          · intro w hSw
            obtain ⟨y0, y1, y2, y3, y4, y5, y6⟩ := HX.out w hSw
            go_simp
          try simp only [Act.put, List.setIfInBounds_toArray, List.set_cons_zero, List.set_cons_succ]
          refine takeH 9 18 (v := (.bool false)) rfl rfl (by kernel_rfl) (by kernel_rfl) (by kernel_rfl) (fun _ _ _ h => h) (by rfl) ?_ HB3.out ?_
          · intro w hSw
            obtain ⟨y0, y1, y2, y3, y4, y5, y6⟩ := HX.out w hSw
            go_simp
          try simp only [Act.put, List.setIfInBounds_toArray, List.set_cons_zero, List.set_cons_succ]
          refine takeH 10 2 (v := (.bool false)) rfl rfl (by kernel_rfl) (by kernel_rfl) (by kernel_rfl) (fun _ _ _ h => h) (by rfl) ?_ HB3.out ?_
          · intro w hSw
            obtain ⟨y0, y1, y2, y3, y4, y5, y6⟩ := HX.out w hSw
            go_simp
          try simp only [Act.put, List.setIfInBounds_toArray, List.set_cons_zero, List.set_cons_succ]
          refine wpAnyH_done (by kernel_rfl) ?_ _
          go_wp2_with fail
          go_ret
          exact ⟨by simp [*], by have h := HB0.out.trans (HB3.out.mono HB0.out.size); rw [hv0] at h; exact h⟩
      · have hdb : (d == 0) = false := by simp [hd]
        obtain ⟨v0, hv0⟩ : ∃ v0, w.heap.size = v0 := ⟨_, rfl⟩
        obtain ⟨W0, hW0⟩ : ∃ W0, w.alloc (.cells #[.int .i64 1, .int .i64 0, .int .i64 d, .int .i64 a, .int .i64 b, .int .i32 n, .string s] 39) = W0 := ⟨_, rfl⟩
        have hb0 : Below w.heap.size w W0 := by rw [← hW0]; exact (Below.refl _ _).alloc (Nat.le_refl _) _
        have hx0 : W0.heap[v0]? = some (.cells #[.int .i64 1, .int .i64 0, .int .i64 d, .int .i64 a, .int .i64 b, .int .i32 n, .string s] 39 (0, 0)) := by rw [← hW0, ← hv0]; exact heap_alloc_new w _
        have HX : Hid (∀ V, Below W0.heap.size W0 V → (fun w : World => w.cell? ⟨v0, 0, none⟩ = some (.int .i64 1) ∧ w.cell? ⟨v0, 1, none⟩ = some (.int .i64 0) ∧ w.cell? ⟨v0, 2, none⟩ = some (.int .i64 d) ∧ w.cell? ⟨v0, 3, none⟩ = some (.int .i64 a) ∧ w.cell? ⟨v0, 4, none⟩ = some (.int .i64 b) ∧ w.cell? ⟨v0, 5, none⟩ = some (.int .i32 n) ∧ w.cell? ⟨v0, 6, none⟩ = some (.string s)) V) := Lib.hid (fun V hV => by
          obtain ⟨y0, y1, y2, y3, y4, y5, y6, -⟩ := box7 ((hV.block _ (Array.getElem?_eq_some_iff.1 hx0).1).trans hx0)
          exact ⟨y0, y1, y2, y3, y4, y5, y6⟩)
        obtain ⟨z0, z1, z2, z3, z4, z5, z6⟩ := HX.out W0 (Below.refl _ _)
        have HB0 := Lib.hid hb0
        clear hb0 hx0
        go_enter Try.func50, Try.ntmps50
        go_upto_region 3 with fail
        refine wp_region_held_drew (S := fun V => Below W0.heap.size W0 V) (by kernel_rfl) ((Below.refl _ W0).drew) (fun _ => ?_)
        refine takeH 0 9 (v := (.pointer (some ⟨v0, 6, none⟩))) rfl rfl (by kernel_rfl) (by kernel_rfl) (by kernel_rfl) (fun _ _ _ h => h) (by rfl) ?_ (by assumption) ?_
        · intro w hSw
          obtain ⟨y0, y1, y2, y3, y4, y5, y6⟩ := HX.out w hSw
          go_simp
        try simp only [Act.put, List.setIfInBounds_toArray, List.set_cons_zero, List.set_cons_succ]
        refine takeH 1 10 (v := (.string s)) rfl rfl (by kernel_rfl) (by kernel_rfl) (by kernel_rfl) (fun _ _ _ h => h) (by rfl) ?_ (by assumption) ?_
        · intro w hSw
          obtain ⟨y0, y1, y2, y3, y4, y5, y6⟩ := HX.out w hSw
          go_simp
        try simp only [Act.put, List.setIfInBounds_toArray, List.set_cons_zero, List.set_cons_succ]
        refine wpAnyH_ready (rs := [2]) (by kernel_rfl) (by simp) ?_
        refine AllReadyH.cons rfl (fun K hK => ?_) AllReadyH.nil
        go_simp
        go_at_call 70
        (with_reducible refine (HIS.out _).mono ?_)
        rintro en w2 ⟨rfl, rfl⟩
        refine hK.out _ _ (by assumption) (fun _ => ?_)
        clear hK K
        try simp only [Act.put, List.setIfInBounds_toArray, List.set_cons_zero, List.set_cons_succ]
        refine takeH 3 12 (v := (.bool true)) rfl rfl (by kernel_rfl) (by kernel_rfl) (by kernel_rfl) (fun _ _ _ h => h) (by rfl) ?_ (by assumption) ?_
        · intro w hSw
          obtain ⟨y0, y1, y2, y3, y4, y5, y6⟩ := HX.out w hSw
          go_simp
        try simp only [Act.put, List.setIfInBounds_toArray, List.set_cons_zero, List.set_cons_succ]
        refine takeH 4 13 (v := (.agg #[.int .i64 1, .int .i64 0, .int .i64 d, .int .i64 a, .int .i64 b, .int .i32 n, .string s])) rfl rfl (by kernel_rfl) (by kernel_rfl) (by kernel_rfl) (fun _ _ _ h => h) (by rfl) ?_ (by assumption) ?_
        · intro w hSw
          obtain ⟨y0, y1, y2, y3, y4, y5, y6⟩ := HX.out w hSw
          go_simp
        try simp only [Act.put, List.setIfInBounds_toArray, List.set_cons_zero, List.set_cons_succ]
        refine takeH 5 14 (v := (.pointer (some ⟨v0, 6, none⟩))) rfl rfl (by kernel_rfl) (by kernel_rfl) (by kernel_rfl) (fun _ _ _ h => h) (by rfl) ?_ (by assumption) ?_
        · intro w hSw
          obtain ⟨y0, y1, y2, y3, y4, y5, y6⟩ := HX.out w hSw
          go_simp
        try simp only [Act.put, List.setIfInBounds_toArray, List.set_cons_zero, List.set_cons_succ]
        refine takeH 6 15 (v := (.string s)) rfl rfl (by kernel_rfl) (by kernel_rfl) (by kernel_rfl) (fun _ _ _ h => h) (by rfl) ?_ (by assumption) ?_
        · intro w hSw
          obtain ⟨y0, y1, y2, y3, y4, y5, y6⟩ := HX.out w hSw
          go_simp
        try simp only [Act.put, List.setIfInBounds_toArray, List.set_cons_zero, List.set_cons_succ]
        refine wpAnyH_ready (rs := [7]) (by kernel_rfl) (by simp) ?_
        refine AllReadyH.cons rfl (fun K hK => ?_) AllReadyH.nil
        go_simp
        go_at_call 71
        (with_reducible refine (HLB.out _).mono ?_)
        rintro en w3 ⟨rfl, hb3⟩
        have HB3 : Hid (Below W0.heap.size W0 w3) := Lib.hid ((show Below W0.heap.size W0 _ by assumption).trans (hb3.mono (show Below W0.heap.size W0 _ by assumption).size))
        clear hb3
        refine hK.out _ _ HB3.out (fun _ => ?_)
        clear hK K
        try simp only [Act.put, List.setIfInBounds_toArray, List.set_cons_zero, List.set_cons_succ]
        refine takeH 8 17 (v := (.bool false)) rfl rfl (by kernel_rfl) (by kernel_rfl) (by kernel_rfl) (fun _ _ _ h => h) (by rfl) ?_ HB3.out ?_
        · intro w hSw
          obtain ⟨y0, y1, y2, y3, y4, y5, y6⟩ := HX.out w hSw
          go_simp
        try simp only [Act.put, List.setIfInBounds_toArray, List.set_cons_zero, List.set_cons_succ]
        refine takeH 9 18 (v := (.bool false)) rfl rfl (by kernel_rfl) (by kernel_rfl) (by kernel_rfl) (fun _ _ _ h => h) (by rfl) ?_ HB3.out ?_
        · intro w hSw
          obtain ⟨y0, y1, y2, y3, y4, y5, y6⟩ := HX.out w hSw
          go_simp
        try simp only [Act.put, List.setIfInBounds_toArray, List.set_cons_zero, List.set_cons_succ]
        refine takeH 10 2 (v := (.bool false)) rfl rfl (by kernel_rfl) (by kernel_rfl) (by kernel_rfl) (fun _ _ _ h => h) (by rfl) ?_ HB3.out ?_
        · intro w hSw
          obtain ⟨y0, y1, y2, y3, y4, y5, y6⟩ := HX.out w hSw
          go_simp
        try simp only [Act.put, List.setIfInBounds_toArray, List.set_cons_zero, List.set_cons_succ]
        refine wpAnyH_done (by kernel_rfl) ?_ _
        go_wp2_with fail
        go_ret
        exact ⟨by simp [*], by have h := HB0.out.trans (HB3.out.mono HB0.out.size); rw [hv0] at h; exact h⟩
    · have hopb : (op == 0) = false := by simp [hop]
      obtain ⟨v0, hv0⟩ : ∃ v0, w.heap.size = v0 := ⟨_, rfl⟩
      obtain ⟨W0, hW0⟩ : ∃ W0, w.alloc (.cells #[.int .i64 1, .int .i64 op, .int .i64 d, .int .i64 a, .int .i64 b, .int .i32 n, .string s] 39) = W0 := ⟨_, rfl⟩
      have hb0 : Below w.heap.size w W0 := by rw [← hW0]; exact (Below.refl _ _).alloc (Nat.le_refl _) _
      have hx0 : W0.heap[v0]? = some (.cells #[.int .i64 1, .int .i64 op, .int .i64 d, .int .i64 a, .int .i64 b, .int .i32 n, .string s] 39 (0, 0)) := by rw [← hW0, ← hv0]; exact heap_alloc_new w _
      have HX : Hid (∀ V, Below W0.heap.size W0 V → (fun w : World => w.cell? ⟨v0, 0, none⟩ = some (.int .i64 1) ∧ w.cell? ⟨v0, 1, none⟩ = some (.int .i64 op) ∧ w.cell? ⟨v0, 2, none⟩ = some (.int .i64 d) ∧ w.cell? ⟨v0, 3, none⟩ = some (.int .i64 a) ∧ w.cell? ⟨v0, 4, none⟩ = some (.int .i64 b) ∧ w.cell? ⟨v0, 5, none⟩ = some (.int .i32 n) ∧ w.cell? ⟨v0, 6, none⟩ = some (.string s)) V) := Lib.hid (fun V hV => by
        obtain ⟨y0, y1, y2, y3, y4, y5, y6, -⟩ := box7 ((hV.block _ (Array.getElem?_eq_some_iff.1 hx0).1).trans hx0)
        exact ⟨y0, y1, y2, y3, y4, y5, y6⟩)
      obtain ⟨z0, z1, z2, z3, z4, z5, z6⟩ := HX.out W0 (Below.refl _ _)
      have HB0 := Lib.hid hb0
      clear hb0 hx0
      go_enter Try.func50, Try.ntmps50
      go_upto_region 3 with fail
      refine wp_region_held_drew (S := fun V => Below W0.heap.size W0 V) (by kernel_rfl) ((Below.refl _ W0).drew) (fun _ => ?_)
      refine takeH 0 9 (v := (.pointer (some ⟨v0, 6, none⟩))) rfl rfl (by kernel_rfl) (by kernel_rfl) (by kernel_rfl) (fun _ _ _ h => h) (by rfl) ?_ (by assumption) ?_
      · intro w hSw
        obtain ⟨y0, y1, y2, y3, y4, y5, y6⟩ := HX.out w hSw
        go_simp
      try simp only [Act.put, List.setIfInBounds_toArray, List.set_cons_zero, List.set_cons_succ]
      refine takeH 1 10 (v := (.string s)) rfl rfl (by kernel_rfl) (by kernel_rfl) (by kernel_rfl) (fun _ _ _ h => h) (by rfl) ?_ (by assumption) ?_
      · intro w hSw
        obtain ⟨y0, y1, y2, y3, y4, y5, y6⟩ := HX.out w hSw
        go_simp
      try simp only [Act.put, List.setIfInBounds_toArray, List.set_cons_zero, List.set_cons_succ]
      refine wpAnyH_ready (rs := [2]) (by kernel_rfl) (by simp) ?_
      refine AllReadyH.cons rfl (fun K hK => ?_) AllReadyH.nil
      go_simp
      go_at_call 70
      (with_reducible refine (HIS.out _).mono ?_)
      rintro en w2 ⟨rfl, rfl⟩
      refine hK.out _ _ (by assumption) (fun _ => ?_)
      clear hK K
      try simp only [Act.put, List.setIfInBounds_toArray, List.set_cons_zero, List.set_cons_succ]
      refine takeH 3 12 (v := (.bool true)) rfl rfl (by kernel_rfl) (by kernel_rfl) (by kernel_rfl) (fun _ _ _ h => h) (by rfl) ?_ (by assumption) ?_
      · intro w hSw
        obtain ⟨y0, y1, y2, y3, y4, y5, y6⟩ := HX.out w hSw
        go_simp
      try simp only [Act.put, List.setIfInBounds_toArray, List.set_cons_zero, List.set_cons_succ]
      refine takeH 4 13 (v := (.agg #[.int .i64 1, .int .i64 op, .int .i64 d, .int .i64 a, .int .i64 b, .int .i32 n, .string s])) rfl rfl (by kernel_rfl) (by kernel_rfl) (by kernel_rfl) (fun _ _ _ h => h) (by rfl) ?_ (by assumption) ?_
      · intro w hSw
        obtain ⟨y0, y1, y2, y3, y4, y5, y6⟩ := HX.out w hSw
        go_simp
      try simp only [Act.put, List.setIfInBounds_toArray, List.set_cons_zero, List.set_cons_succ]
      refine takeH 5 14 (v := (.pointer (some ⟨v0, 6, none⟩))) rfl rfl (by kernel_rfl) (by kernel_rfl) (by kernel_rfl) (fun _ _ _ h => h) (by rfl) ?_ (by assumption) ?_
      · intro w hSw
        obtain ⟨y0, y1, y2, y3, y4, y5, y6⟩ := HX.out w hSw
        go_simp
      try simp only [Act.put, List.setIfInBounds_toArray, List.set_cons_zero, List.set_cons_succ]
      refine takeH 6 15 (v := (.string s)) rfl rfl (by kernel_rfl) (by kernel_rfl) (by kernel_rfl) (fun _ _ _ h => h) (by rfl) ?_ (by assumption) ?_
      · intro w hSw
        obtain ⟨y0, y1, y2, y3, y4, y5, y6⟩ := HX.out w hSw
        go_simp
      try simp only [Act.put, List.setIfInBounds_toArray, List.set_cons_zero, List.set_cons_succ]
      refine wpAnyH_ready (rs := [7]) (by kernel_rfl) (by simp) ?_
      refine AllReadyH.cons rfl (fun K hK => ?_) AllReadyH.nil
      go_simp
      go_at_call 71
      (with_reducible refine (HLB.out _).mono ?_)
      rintro en w3 ⟨rfl, hb3⟩
      have HB3 : Hid (Below W0.heap.size W0 w3) := Lib.hid ((show Below W0.heap.size W0 _ by assumption).trans (hb3.mono (show Below W0.heap.size W0 _ by assumption).size))
      clear hb3
      refine hK.out _ _ HB3.out (fun _ => ?_)
      clear hK K
      try simp only [Act.put, List.setIfInBounds_toArray, List.set_cons_zero, List.set_cons_succ]
      refine takeH 8 17 (v := (.bool false)) rfl rfl (by kernel_rfl) (by kernel_rfl) (by kernel_rfl) (fun _ _ _ h => h) (by rfl) ?_ HB3.out ?_
      · intro w hSw
        obtain ⟨y0, y1, y2, y3, y4, y5, y6⟩ := HX.out w hSw
        go_simp
      try simp only [Act.put, List.setIfInBounds_toArray, List.set_cons_zero, List.set_cons_succ]
      refine takeH 9 18 (v := (.bool false)) rfl rfl (by kernel_rfl) (by kernel_rfl) (by kernel_rfl) (fun _ _ _ h => h) (by rfl) ?_ HB3.out ?_
      · intro w hSw
        obtain ⟨y0, y1, y2, y3, y4, y5, y6⟩ := HX.out w hSw
        go_simp
      try simp only [Act.put, List.setIfInBounds_toArray, List.set_cons_zero, List.set_cons_succ]
      refine takeH 10 2 (v := (.bool false)) rfl rfl (by kernel_rfl) (by kernel_rfl) (by kernel_rfl) (fun _ _ _ h => h) (by rfl) ?_ HB3.out ?_
      · intro w hSw
        obtain ⟨y0, y1, y2, y3, y4, y5, y6⟩ := HX.out w hSw
        go_simp
      try simp only [Act.put, List.setIfInBounds_toArray, List.set_cons_zero, List.set_cons_succ]
      refine wpAnyH_done (by kernel_rfl) ?_ _
      go_wp2_with fail
      go_ret
      exact ⟨by simp [*], by have h := HB0.out.trans (HB3.out.mono HB0.out.size); rw [hv0] at h; exact h⟩
theorem mayLine0_any (k op d a b n : Int) (s : ByteArray) (hk1 : ¬ k = 1) (hk2 : ¬ k = 2) (w : World) :
    Calls Try.prog 50 #[.agg #[.int .i64 k, .int .i64 op, .int .i64 d, .int .i64 a, .int .i64 b, .int .i32 n, .string s]] w fun e w' => e = .returned (.bool false) ∧ Below w.heap.size w w' := by
  have k1 : (k == 1) = false := by simp [hk1]
  have k2 : (k == 2) = false := by simp [hk2]
  go_enter Try.func50, Try.ntmps50
  go_wp2_with fail
  go_ret
  exact ⟨rfl, (Below.refl _ _).alloc (Nat.le_refl _) _⟩
theorem mayLnP_any (l : Ln) (hs : l.s.size ≤ 4000000000) (hn : -2147483648 ≤ l.n ∧ l.n ≤ 2147483647) (w : World) :
    Calls Try.prog 50 #[l.val] w fun e w' => e = .returned (.bool (mayLn l)) ∧ Below w.heap.size w w' := by
  obtain ⟨k, op, d, a, b, n, s⟩ := l
  unfold mayLn Ln.val Ln.ins
  dsimp only at hs hn ⊢
  by_cases h1 : k = 1
  · subst h1
    rw [if_pos rfl]
    exact mayLine1_any op d a b n s hs w
  · rw [if_neg h1]
    by_cases h2 : k = 2
    · subst h2
      rw [if_pos rfl]
      exact mayLine2_any op d a b n s hs hn.1 hn.2 w
    · rw [if_neg h2]
      exact mayLine0_any k op d a b n s h1 h2 w
/-- A global that may be. -/
def mayGl (g : Gl) : Bool := nameB g.name.data.toList && decide (0 ≤ g.size) && decide (g.size ≤ 4096)
theorem mayGl_any (g : Gl) (hs : g.name.size ≤ 4000000000) (w : World) : Calls Try.prog 47 #[g.val] w fun e w' => e = .returned (.bool (mayGl g)) ∧ Below w.heap.size w w' := by
  obtain ⟨nm, z⟩ := g
  unfold mayGl Gl.val
  dsimp only at hs ⊢
  have HN := Lib.hid (isName_any nm hs)
  generalize nameB nm.data.toList = q at *
  cases q
  · simp only [Bool.false_and]
    go_enter Try.func47, Try.ntmps47
    go_wp2_with (go_at_call 67; (with_reducible refine (HN.out _).mono ?_); rintro e w' ⟨rfl, rfl⟩)
    go_ret
    exact ⟨by simp [*], (Below.refl _ _).alloc (Nat.le_refl _) _⟩
  · by_cases h1 : 0 ≤ z
    · by_cases h2 : z ≤ 4096
      · go_enter Try.func47, Try.ntmps47
        go_wp2_with (go_at_call 67; (with_reducible refine (HN.out _).mono ?_); rintro e w' ⟨rfl, rfl⟩)
        go_ret
        exact ⟨by simp [*], (Below.refl _ _).alloc (Nat.le_refl _) _⟩
      · go_enter Try.func47, Try.ntmps47
        go_wp2_with (go_at_call 67; (with_reducible refine (HN.out _).mono ?_); rintro e w' ⟨rfl, rfl⟩)
        go_ret
        exact ⟨by simp [*], (Below.refl _ _).alloc (Nat.le_refl _) _⟩
    · go_enter Try.func47, Try.ntmps47
      go_wp2_with (go_at_call 67; (with_reducible refine (HN.out _).mono ?_); rintro e w' ⟨rfl, rfl⟩)
      go_ret
      exact ⟨by simp; omega, (Below.refl _ _).alloc (Nat.le_refl _) _⟩
end Rv
end Go.Proofs.Ytmedhibjkbahpaa
