/-
  The document's MayLine, of any line.
-/
import Derived.Test.YtadgemcpahfkoaaRxp
import Derived.Test.YtadgemcpahfkoaaKmp
namespace Go.Proofs.Ytadgemcpahfkoaa
open Go.RowKit
set_option linter.unusedVariables false
set_option linter.unusedSimpArgs false
set_option maxRecDepth 100000
namespace Rv
/-- May an instruction have such a symbol? -/
def symP (op n : Int) (s : ByteArray) : Bool := noS s || ((op == 1 || op == 2 || op == 28) && symB s.data.toList && n == 0)
/-- A line that may be. -/
def mayLn (l : Ln) : Bool :=
  if l.k = 1 then symB l.s.data.toList && l.op == 0 && l.d == 0 && l.a == 0 && l.b == 0 && l.n == 0
  else if l.k = 2 then mayI l.ins && symP l.op l.n l.s
  else false
set_option maxHeartbeats 6400000 in
theorem rmay2_any (op d a b n : Int) (s : ByteArray) (hs : s.size ≤ 9223372036854775807) (hne : noS s = false) (b1 : -2147483648 ≤ n) (b2 : n ≤ 2147483647) (w : World) :
    Calls Try.prog 15 #[.agg #[.int .i64 2, .int .i64 op, .int .i64 d, .int .i64 a, .int .i64 b, .int .i32 n, .string s]] w fun e w' => e = .returned (.bool (mayI ⟨op, d, a, b, n⟩ && symP op n s)) ∧ Below w.heap.size w w' := by
  by_cases hop : 1 ≤ op ∧ op ≤ 30
  · obtain ⟨h1, h2⟩ := hop
    have HM : mayI ⟨op, d, a, b, n⟩ = (regOk (hasDN (formN op.toNat)) d && regOk (hasAN (formN op.toNat)) a && regOk (hasBN (formN op.toNat)) b && numOk (formN op.toNat) n) := by
      simp [mayI, h1, h2]
    have HSP : Hid (symP op n s = ((op == 1 || op == 2 || op == 28) && symB s.data.toList && n == 0)) := Lib.hid (by unfold symP; rw [hne]; rfl)
    have e1 : s.toList.isEmpty = false := by rw [ba_toList]; exact hne
    have e2 : ¬ s.toList = [] := by rw [ba_toList]; simpa [noS] using hne
    have HIS := Lib.hid (risSym_any s hs)
    rw [HM, ← hAP op h1 h2]
    have C1 := Lib.hid (shape_any op h1 h2)
    have C2 := Lib.hid (rnum_any op n h1 h2 b1 b2)
    have C3 := Lib.hid (hs_D op h1 h2)
    have C4 := Lib.hid (hs_A op h1 h2)
    have C5 := Lib.hid (hs_P op h1 h2)
    have C6 := Lib.hid (hs_B op h1 h2)
    have K1 := reg_any (hasDN (formN op.toNat)) d
    have K2 := reg_any (hA op || hP op) a
    have K3 := reg_any (hasBN (formN op.toNat)) b
    clear HM
    generalize regOk (hasDN (formN op.toNat)) d = q1 at *
    generalize regOk (hA op || hP op) a = q2 at *
    generalize regOk (hasBN (formN op.toNat)) b = q3 at *
    generalize numOk (formN op.toNat) n = q0 at *
    generalize hasDN (formN op.toNat) = x1 at *
    generalize hA op = x2 at *
    generalize hP op = x3 at *
    generalize hasBN (formN op.toNat) = x4 at *
    generalize shp op = sh at *
    have R1 := Lib.hid K1
    have R3 := Lib.hid K3
    clear K1 K3
    obtain ⟨v0, hv0⟩ : ∃ v0, w.heap.size = v0 := ⟨_, rfl⟩
    obtain ⟨W0, hW0⟩ : ∃ W0, w.alloc (.cells #[.int .i64 2, .int .i64 op, .int .i64 d, .int .i64 a, .int .i64 b, .int .i32 n, .string s] 39) = W0 := ⟨_, rfl⟩
    have hB0 : Below w.heap.size w W0 := by rw [← hW0]; exact (Below.refl _ _).alloc (Nat.le_refl _) _
    have hLn : LnAt W0 v0 2 op d a b n s := by rw [← hW0, ← hv0]; exact LnAt.new _ _ _ _ _ _ _ _ _
    obtain ⟨-, z0, z1, z2, z3, z4, z5, z6⟩ := hLn
    have q9 : W0.drew.cell? ⟨v0, 2, none⟩ = some (.int .i64 d) ∧ W0.drew.cell? ⟨v0, 3, none⟩ = some (.int .i64 a) ∧ W0.drew.cell? ⟨v0, 4, none⟩ = some (.int .i64 b) := ⟨z2, z3, z4⟩
    have HB0 := Lib.hid hB0
    clear hB0
    have hl1 : decide (op < 1) = false := by simp; omega
    have hl2 : decide (30 < op) = false := by simp; omega
    clear h1 h2
    cases q0
    · have R2 := Lib.hid K2
      clear K2
      simp only [Bool.and_false, Bool.false_and]
      go_enter Try.func15, Try.ntmps15
      go_wp2_with (first
        | (go_at_call 33; (with_reducible refine (C1.out _).mono ?_); rintro e w' ⟨rfl, rfl⟩)
        | (go_at_call 34; (with_reducible refine (C2.out _).mono ?_); rintro e w' ⟨rfl, rfl⟩))
      go_ret
      exact ⟨rfl, HB0.out⟩
    · cases q1
      · have R2 := Lib.hid K2
        clear K2
        go_enter Try.func15, Try.ntmps15
        go_wp2_with (first
          | (go_at_call 33; (with_reducible refine (C1.out _).mono ?_); rintro e w' ⟨rfl, rfl⟩)
          | (go_at_call 34; (with_reducible refine (C2.out _).mono ?_); rintro e w' ⟨rfl, rfl⟩))
        go_big_quiet ((first | (go_at_call 36; with_reducible exact quiet_left (C3.out _)) | (go_at_call 36; with_reducible exact quiet_left (C4.out _)) | (go_at_call 36; with_reducible exact quiet_left (C5.out _)) | (go_at_call 36; with_reducible exact quiet_left (C6.out _)) | (go_at_call 35; with_reducible exact quiet_left (R1.out _)) | (go_at_call 35; with_reducible exact quiet_left (R2.out _)) | (go_at_call 35; with_reducible exact quiet_left (R3.out _))))
        go_wp2
        go_ret
        exact ⟨by simp, below_drewN HB0.out _⟩
      · cases x2
        · simp only [Bool.false_or] at K2
          have R2 := Lib.hid K2
          clear K2
          cases q2
          · go_enter Try.func15, Try.ntmps15
            go_wp2_with (first
              | (go_at_call 33; (with_reducible refine (C1.out _).mono ?_); rintro e w' ⟨rfl, rfl⟩)
              | (go_at_call 34; (with_reducible refine (C2.out _).mono ?_); rintro e w' ⟨rfl, rfl⟩))
            go_big_quiet ((first | (go_at_call 36; with_reducible exact quiet_left (C3.out _)) | (go_at_call 36; with_reducible exact quiet_left (C4.out _)) | (go_at_call 36; with_reducible exact quiet_left (C5.out _)) | (go_at_call 36; with_reducible exact quiet_left (C6.out _)) | (go_at_call 35; with_reducible exact quiet_left (R1.out _)) | (go_at_call 35; with_reducible exact quiet_left (R2.out _)) | (go_at_call 35; with_reducible exact quiet_left (R3.out _))))
            go_wp2
            go_ret
            exact ⟨by simp, below_drewN HB0.out _⟩
          · cases q3
            · go_enter Try.func15, Try.ntmps15
              go_wp2_with (first
                | (go_at_call 33; (with_reducible refine (C1.out _).mono ?_); rintro e w' ⟨rfl, rfl⟩)
                | (go_at_call 34; (with_reducible refine (C2.out _).mono ?_); rintro e w' ⟨rfl, rfl⟩))
              go_big_quiet ((first | (go_at_call 36; with_reducible exact quiet_left (C3.out _)) | (go_at_call 36; with_reducible exact quiet_left (C4.out _)) | (go_at_call 36; with_reducible exact quiet_left (C5.out _)) | (go_at_call 36; with_reducible exact quiet_left (C6.out _)) | (go_at_call 35; with_reducible exact quiet_left (R1.out _)) | (go_at_call 35; with_reducible exact quiet_left (R2.out _)) | (go_at_call 35; with_reducible exact quiet_left (R3.out _))))
              go_wp2
              go_ret
              exact ⟨by simp, below_drewN HB0.out _⟩
            · go_enter Try.func15, Try.ntmps15
              go_wp2_with (first
                | (go_at_call 33; (with_reducible refine (C1.out _).mono ?_); rintro e w' ⟨rfl, rfl⟩)
                | (go_at_call 34; (with_reducible refine (C2.out _).mono ?_); rintro e w' ⟨rfl, rfl⟩))
              go_big_quiet ((first | (go_at_call 36; with_reducible exact quiet_left (C3.out _)) | (go_at_call 36; with_reducible exact quiet_left (C4.out _)) | (go_at_call 36; with_reducible exact quiet_left (C5.out _)) | (go_at_call 36; with_reducible exact quiet_left (C6.out _)) | (go_at_call 35; with_reducible exact quiet_left (R1.out _)) | (go_at_call 35; with_reducible exact quiet_left (R2.out _)) | (go_at_call 35; with_reducible exact quiet_left (R3.out _))))
              by_cases o1 : op = 1
              · have p1 : (op == 1) = true := by simp [o1]
                cases hq : symB s.data.toList with
                | false =>
                  rw [hq] at HIS
                  have HSPE : Hid (symP op n s = false) := Lib.hid (by rw [HSP.out, hq]; simp)
                  clear hq
                  go_wp2_with (go_at_call 32; (with_reducible refine (HIS.out _).mono ?_); rintro e w' ⟨rfl, rfl⟩)
                  go_ret
                  exact ⟨by rw [HSPE.out]; rfl, below_drewN HB0.out _⟩
                | true =>
                  rw [hq] at HIS
                  by_cases hn0 : n = 0
                  · have hnb : (n == 0) = true := by simp [hn0]
                    have HSPE : Hid (symP op n s = true) := Lib.hid (by rw [HSP.out, hq, hnb]; simp [o1])
                    clear hq hn0
                    go_wp2_with (go_at_call 32; (with_reducible refine (HIS.out _).mono ?_); rintro e w' ⟨rfl, rfl⟩)
                    go_ret
                    exact ⟨by rw [HSPE.out]; rfl, below_drewN HB0.out _⟩
                  · have hnb : (n == 0) = false := by simp [hn0]
                    have HSPE : Hid (symP op n s = false) := Lib.hid (by rw [HSP.out, hnb]; simp)
                    clear hq hn0
                    go_wp2_with (go_at_call 32; (with_reducible refine (HIS.out _).mono ?_); rintro e w' ⟨rfl, rfl⟩)
                    go_ret
                    exact ⟨by rw [HSPE.out]; rfl, below_drewN HB0.out _⟩
              · have p1 : (op == 1) = false := by simp [o1]
                by_cases o2 : op = 2
                · have p2 : (op == 2) = true := by simp [o2]
                  cases hq : symB s.data.toList with
                  | false =>
                    rw [hq] at HIS
                    have HSPE : Hid (symP op n s = false) := Lib.hid (by rw [HSP.out, hq]; simp)
                    clear hq
                    go_wp2_with (go_at_call 32; (with_reducible refine (HIS.out _).mono ?_); rintro e w' ⟨rfl, rfl⟩)
                    go_ret
                    exact ⟨by rw [HSPE.out]; rfl, below_drewN HB0.out _⟩
                  | true =>
                    rw [hq] at HIS
                    by_cases hn0 : n = 0
                    · have hnb : (n == 0) = true := by simp [hn0]
                      have HSPE : Hid (symP op n s = true) := Lib.hid (by rw [HSP.out, hq, hnb]; simp [o2])
                      clear hq hn0
                      go_wp2_with (go_at_call 32; (with_reducible refine (HIS.out _).mono ?_); rintro e w' ⟨rfl, rfl⟩)
                      go_ret
                      exact ⟨by rw [HSPE.out]; rfl, below_drewN HB0.out _⟩
                    · have hnb : (n == 0) = false := by simp [hn0]
                      have HSPE : Hid (symP op n s = false) := Lib.hid (by rw [HSP.out, hnb]; simp)
                      clear hq hn0
                      go_wp2_with (go_at_call 32; (with_reducible refine (HIS.out _).mono ?_); rintro e w' ⟨rfl, rfl⟩)
                      go_ret
                      exact ⟨by rw [HSPE.out]; rfl, below_drewN HB0.out _⟩
                · have p2 : (op == 2) = false := by simp [o2]
                  by_cases o3 : op = 28
                  · have p3 : (op == 28) = true := by simp [o3]
                    cases hq : symB s.data.toList with
                    | false =>
                      rw [hq] at HIS
                      have HSPE : Hid (symP op n s = false) := Lib.hid (by rw [HSP.out, hq]; simp)
                      clear hq
                      go_wp2_with (go_at_call 32; (with_reducible refine (HIS.out _).mono ?_); rintro e w' ⟨rfl, rfl⟩)
                      go_ret
                      exact ⟨by rw [HSPE.out]; rfl, below_drewN HB0.out _⟩
                    | true =>
                      rw [hq] at HIS
                      by_cases hn0 : n = 0
                      · have hnb : (n == 0) = true := by simp [hn0]
                        have HSPE : Hid (symP op n s = true) := Lib.hid (by rw [HSP.out, hq, hnb]; simp [o3])
                        clear hq hn0
                        go_wp2_with (go_at_call 32; (with_reducible refine (HIS.out _).mono ?_); rintro e w' ⟨rfl, rfl⟩)
                        go_ret
                        exact ⟨by rw [HSPE.out]; rfl, below_drewN HB0.out _⟩
                      · have hnb : (n == 0) = false := by simp [hn0]
                        have HSPE : Hid (symP op n s = false) := Lib.hid (by rw [HSP.out, hnb]; simp)
                        clear hq hn0
                        go_wp2_with (go_at_call 32; (with_reducible refine (HIS.out _).mono ?_); rintro e w' ⟨rfl, rfl⟩)
                        go_ret
                        exact ⟨by rw [HSPE.out]; rfl, below_drewN HB0.out _⟩
                  · have p3 : (op == 28) = false := by simp [o3]
                    have HSPE : Hid (symP op n s = false) := Lib.hid (by rw [HSP.out, p1, p2, p3]; rfl)
                    go_wp2
                    go_ret
                    exact ⟨by rw [HSPE.out]; rfl, below_drewN HB0.out _⟩
        · simp only [Bool.true_or] at K2
          have R2 := Lib.hid K2
          clear K2
          cases q2
          · go_enter Try.func15, Try.ntmps15
            go_wp2_with (first
              | (go_at_call 33; (with_reducible refine (C1.out _).mono ?_); rintro e w' ⟨rfl, rfl⟩)
              | (go_at_call 34; (with_reducible refine (C2.out _).mono ?_); rintro e w' ⟨rfl, rfl⟩))
            go_big_quiet ((first | (go_at_call 36; with_reducible exact quiet_left (C3.out _)) | (go_at_call 36; with_reducible exact quiet_left (C4.out _)) | (go_at_call 36; with_reducible exact quiet_left (C5.out _)) | (go_at_call 36; with_reducible exact quiet_left (C6.out _)) | (go_at_call 35; with_reducible exact quiet_left (R1.out _)) | (go_at_call 35; with_reducible exact quiet_left (R2.out _)) | (go_at_call 35; with_reducible exact quiet_left (R3.out _))))
            go_wp2
            go_ret
            exact ⟨by simp, below_drewN HB0.out _⟩
          · cases q3
            · go_enter Try.func15, Try.ntmps15
              go_wp2_with (first
                | (go_at_call 33; (with_reducible refine (C1.out _).mono ?_); rintro e w' ⟨rfl, rfl⟩)
                | (go_at_call 34; (with_reducible refine (C2.out _).mono ?_); rintro e w' ⟨rfl, rfl⟩))
              go_big_quiet ((first | (go_at_call 36; with_reducible exact quiet_left (C3.out _)) | (go_at_call 36; with_reducible exact quiet_left (C4.out _)) | (go_at_call 36; with_reducible exact quiet_left (C5.out _)) | (go_at_call 36; with_reducible exact quiet_left (C6.out _)) | (go_at_call 35; with_reducible exact quiet_left (R1.out _)) | (go_at_call 35; with_reducible exact quiet_left (R2.out _)) | (go_at_call 35; with_reducible exact quiet_left (R3.out _))))
              go_wp2
              go_ret
              exact ⟨by simp, below_drewN HB0.out _⟩
            · go_enter Try.func15, Try.ntmps15
              go_wp2_with (first
                | (go_at_call 33; (with_reducible refine (C1.out _).mono ?_); rintro e w' ⟨rfl, rfl⟩)
                | (go_at_call 34; (with_reducible refine (C2.out _).mono ?_); rintro e w' ⟨rfl, rfl⟩))
              go_big_quiet ((first | (go_at_call 36; with_reducible exact quiet_left (C3.out _)) | (go_at_call 36; with_reducible exact quiet_left (C4.out _)) | (go_at_call 36; with_reducible exact quiet_left (C5.out _)) | (go_at_call 36; with_reducible exact quiet_left (C6.out _)) | (go_at_call 35; with_reducible exact quiet_left (R1.out _)) | (go_at_call 35; with_reducible exact quiet_left (R2.out _)) | (go_at_call 35; with_reducible exact quiet_left (R3.out _))))
              by_cases o1 : op = 1
              · have p1 : (op == 1) = true := by simp [o1]
                cases hq : symB s.data.toList with
                | false =>
                  rw [hq] at HIS
                  have HSPE : Hid (symP op n s = false) := Lib.hid (by rw [HSP.out, hq]; simp)
                  clear hq
                  go_wp2_with (go_at_call 32; (with_reducible refine (HIS.out _).mono ?_); rintro e w' ⟨rfl, rfl⟩)
                  go_ret
                  exact ⟨by rw [HSPE.out]; rfl, below_drewN HB0.out _⟩
                | true =>
                  rw [hq] at HIS
                  by_cases hn0 : n = 0
                  · have hnb : (n == 0) = true := by simp [hn0]
                    have HSPE : Hid (symP op n s = true) := Lib.hid (by rw [HSP.out, hq, hnb]; simp [o1])
                    clear hq hn0
                    go_wp2_with (go_at_call 32; (with_reducible refine (HIS.out _).mono ?_); rintro e w' ⟨rfl, rfl⟩)
                    go_ret
                    exact ⟨by rw [HSPE.out]; rfl, below_drewN HB0.out _⟩
                  · have hnb : (n == 0) = false := by simp [hn0]
                    have HSPE : Hid (symP op n s = false) := Lib.hid (by rw [HSP.out, hnb]; simp)
                    clear hq hn0
                    go_wp2_with (go_at_call 32; (with_reducible refine (HIS.out _).mono ?_); rintro e w' ⟨rfl, rfl⟩)
                    go_ret
                    exact ⟨by rw [HSPE.out]; rfl, below_drewN HB0.out _⟩
              · have p1 : (op == 1) = false := by simp [o1]
                by_cases o2 : op = 2
                · have p2 : (op == 2) = true := by simp [o2]
                  cases hq : symB s.data.toList with
                  | false =>
                    rw [hq] at HIS
                    have HSPE : Hid (symP op n s = false) := Lib.hid (by rw [HSP.out, hq]; simp)
                    clear hq
                    go_wp2_with (go_at_call 32; (with_reducible refine (HIS.out _).mono ?_); rintro e w' ⟨rfl, rfl⟩)
                    go_ret
                    exact ⟨by rw [HSPE.out]; rfl, below_drewN HB0.out _⟩
                  | true =>
                    rw [hq] at HIS
                    by_cases hn0 : n = 0
                    · have hnb : (n == 0) = true := by simp [hn0]
                      have HSPE : Hid (symP op n s = true) := Lib.hid (by rw [HSP.out, hq, hnb]; simp [o2])
                      clear hq hn0
                      go_wp2_with (go_at_call 32; (with_reducible refine (HIS.out _).mono ?_); rintro e w' ⟨rfl, rfl⟩)
                      go_ret
                      exact ⟨by rw [HSPE.out]; rfl, below_drewN HB0.out _⟩
                    · have hnb : (n == 0) = false := by simp [hn0]
                      have HSPE : Hid (symP op n s = false) := Lib.hid (by rw [HSP.out, hnb]; simp)
                      clear hq hn0
                      go_wp2_with (go_at_call 32; (with_reducible refine (HIS.out _).mono ?_); rintro e w' ⟨rfl, rfl⟩)
                      go_ret
                      exact ⟨by rw [HSPE.out]; rfl, below_drewN HB0.out _⟩
                · have p2 : (op == 2) = false := by simp [o2]
                  by_cases o3 : op = 28
                  · have p3 : (op == 28) = true := by simp [o3]
                    cases hq : symB s.data.toList with
                    | false =>
                      rw [hq] at HIS
                      have HSPE : Hid (symP op n s = false) := Lib.hid (by rw [HSP.out, hq]; simp)
                      clear hq
                      go_wp2_with (go_at_call 32; (with_reducible refine (HIS.out _).mono ?_); rintro e w' ⟨rfl, rfl⟩)
                      go_ret
                      exact ⟨by rw [HSPE.out]; rfl, below_drewN HB0.out _⟩
                    | true =>
                      rw [hq] at HIS
                      by_cases hn0 : n = 0
                      · have hnb : (n == 0) = true := by simp [hn0]
                        have HSPE : Hid (symP op n s = true) := Lib.hid (by rw [HSP.out, hq, hnb]; simp [o3])
                        clear hq hn0
                        go_wp2_with (go_at_call 32; (with_reducible refine (HIS.out _).mono ?_); rintro e w' ⟨rfl, rfl⟩)
                        go_ret
                        exact ⟨by rw [HSPE.out]; rfl, below_drewN HB0.out _⟩
                      · have hnb : (n == 0) = false := by simp [hn0]
                        have HSPE : Hid (symP op n s = false) := Lib.hid (by rw [HSP.out, hnb]; simp)
                        clear hq hn0
                        go_wp2_with (go_at_call 32; (with_reducible refine (HIS.out _).mono ?_); rintro e w' ⟨rfl, rfl⟩)
                        go_ret
                        exact ⟨by rw [HSPE.out]; rfl, below_drewN HB0.out _⟩
                  · have p3 : (op == 28) = false := by simp [o3]
                    have HSPE : Hid (symP op n s = false) := Lib.hid (by rw [HSP.out, p1, p2, p3]; rfl)
                    go_wp2
                    go_ret
                    exact ⟨by rw [HSPE.out]; rfl, below_drewN HB0.out _⟩
  · have HM : mayI ⟨op, d, a, b, n⟩ = false := by
      simp only [not_and, Int.not_le] at hop
      unfold mayI
      by_cases h1 : 1 ≤ op
      · have := hop h1
        simp only [show decide (op ≤ 30) = false from by simp; omega, Bool.and_false, Bool.false_and]
      · simp only [show decide (1 ≤ op) = false from by simp; omega, Bool.false_and]
    rw [HM, Bool.false_and]
    by_cases h : op < 1
    · have C := Lib.hid (shape_lo op h)
      clear hop HM
      go_enter Try.func15, Try.ntmps15
      go_wp2_with (go_at_call 33; refine (C.out _).mono ?_; rintro e w' ⟨rfl, rfl⟩)
      go_ret
      exact ⟨rfl, (Below.refl _ _).alloc (Nat.le_refl _) _⟩
    · have h9 : 30 < op := by omega
      have C := Lib.hid (shape_hi op h9)
      clear hop HM
      go_enter Try.func15, Try.ntmps15
      go_wp2_with (go_at_call 33; refine (C.out _).mono ?_; rintro e w' ⟨rfl, rfl⟩)
      go_ret
      exact ⟨rfl, (Below.refl _ _).alloc (Nat.le_refl _) _⟩
theorem rmay1_any (op d a b n : Int) (s : ByteArray) (hs : s.size ≤ 9223372036854775807) (w : World) :
    Calls Try.prog 15 #[.agg #[.int .i64 1, .int .i64 op, .int .i64 d, .int .i64 a, .int .i64 b, .int .i32 n, .string s]] w fun e w' => e = .returned (.bool (symB s.data.toList && op == 0 && d == 0 && a == 0 && b == 0 && n == 0)) ∧ Below w.heap.size w w' := by
  have HIS := Lib.hid (risSym_any s hs)
  cases hq : symB s.data.toList with
  | false =>
    rw [hq] at HIS
    go_enter Try.func15, Try.ntmps15
    go_wp2_with (go_at_call 32; (with_reducible refine (HIS.out _).mono ?_); rintro e w' ⟨rfl, rfl⟩)
    go_ret
    exact ⟨by simp [*], (Below.refl _ _).alloc (Nat.le_refl _) _⟩
  | true =>
    rw [hq] at HIS
    by_cases hop : op = 0
    · have hopb : (op == 0) = true := by simp [hop]
      by_cases hd : d = 0
      · have hdb : (d == 0) = true := by simp [hd]
        by_cases ha : a = 0
        · have hab : (a == 0) = true := by simp [ha]
          by_cases hb : b = 0
          · have hbb : (b == 0) = true := by simp [hb]
            by_cases hn : n = 0
            · have hnb : (n == 0) = true := by simp [hn]
              go_enter Try.func15, Try.ntmps15
              go_wp2_with (go_at_call 32; (with_reducible refine (HIS.out _).mono ?_); rintro e w' ⟨rfl, rfl⟩)
              go_ret
              exact ⟨by simp [*], (Below.refl _ _).alloc (Nat.le_refl _) _⟩
            · have hnb : (n == 0) = false := by simp [hn]
              go_enter Try.func15, Try.ntmps15
              go_wp2_with (go_at_call 32; (with_reducible refine (HIS.out _).mono ?_); rintro e w' ⟨rfl, rfl⟩)
              go_ret
              exact ⟨by simp [*], (Below.refl _ _).alloc (Nat.le_refl _) _⟩
          · have hbb : (b == 0) = false := by simp [hb]
            go_enter Try.func15, Try.ntmps15
            go_wp2_with (go_at_call 32; (with_reducible refine (HIS.out _).mono ?_); rintro e w' ⟨rfl, rfl⟩)
            go_ret
            exact ⟨by simp [*], (Below.refl _ _).alloc (Nat.le_refl _) _⟩
        · have hab : (a == 0) = false := by simp [ha]
          go_enter Try.func15, Try.ntmps15
          go_wp2_with (go_at_call 32; (with_reducible refine (HIS.out _).mono ?_); rintro e w' ⟨rfl, rfl⟩)
          go_ret
          exact ⟨by simp [*], (Below.refl _ _).alloc (Nat.le_refl _) _⟩
      · have hdb : (d == 0) = false := by simp [hd]
        go_enter Try.func15, Try.ntmps15
        go_wp2_with (go_at_call 32; (with_reducible refine (HIS.out _).mono ?_); rintro e w' ⟨rfl, rfl⟩)
        go_ret
        exact ⟨by simp [*], (Below.refl _ _).alloc (Nat.le_refl _) _⟩
    · have hopb : (op == 0) = false := by simp [hop]
      go_enter Try.func15, Try.ntmps15
      go_wp2_with (go_at_call 32; (with_reducible refine (HIS.out _).mono ?_); rintro e w' ⟨rfl, rfl⟩)
      go_ret
      exact ⟨by simp [*], (Below.refl _ _).alloc (Nat.le_refl _) _⟩
theorem rmay0_any (k op d a b n : Int) (s : ByteArray) (hk1 : ¬ k = 1) (hk2 : ¬ k = 2) (w : World) :
    Calls Try.prog 15 #[.agg #[.int .i64 k, .int .i64 op, .int .i64 d, .int .i64 a, .int .i64 b, .int .i32 n, .string s]] w fun e w' => e = .returned (.bool false) ∧ Below w.heap.size w w' := by
  have k1 : (k == 1) = false := by simp [hk1]
  have k2 : (k == 2) = false := by simp [hk2]
  have HSH : Hid (∀ W, ∃ sh, Calls Try.prog 33 #[.int .i64 op] W fun e w' => e = .returned (.string sh) ∧ W = w') := Lib.hid (fun W => by
    by_cases h1 : op < 1
    · exact ⟨_, shape_lo op h1 W⟩
    · by_cases h2 : 30 < op
      · exact ⟨_, shape_hi op h2 W⟩
      · exact ⟨_, shape_any op (by omega) (by omega) W⟩)
  go_enter Try.func15, Try.ntmps15
  go_wp2_with (go_at_call 33; obtain ⟨sh, hsh⟩ := HSH.out (w.alloc (.cells #[.int .i64 k, .int .i64 op, .int .i64 d, .int .i64 a, .int .i64 b, .int .i32 n, .string s] 39)); (with_reducible refine hsh.mono ?_); rintro e w' ⟨rfl, rfl⟩; clear hsh)
  go_ret
  exact ⟨rfl, (Below.refl _ _).alloc (Nat.le_refl _) _⟩
theorem rmayLn_any (l : Ln) (hs : l.s.size ≤ 9223372036854775807) (hn : -2147483648 ≤ l.n ∧ l.n ≤ 2147483647) (w : World) :
    Calls Try.prog 15 #[l.val] w fun e w' => e = .returned (.bool (mayLn l)) ∧ Below w.heap.size w w' := by
  obtain ⟨k, op, d, a, b, n, s⟩ := l
  unfold mayLn Ln.val Ln.ins
  dsimp only at hs hn ⊢
  by_cases h1 : k = 1
  · subst h1
    rw [if_pos rfl]
    exact rmay1_any op d a b n s hs w
  · rw [if_neg h1]
    by_cases h2 : k = 2
    · subst h2
      rw [if_pos rfl]
      cases hne : noS s with
      | false => exact rmay2_any op d a b n s hs hne hn.1 hn.2 w
      | true =>
        obtain rfl := noS_true hne
        have e : symP op n ⟨#[]⟩ = true := rfl
        rw [e, Bool.and_true]
        exact rmayLine_any op d a b n hn.1 hn.2 w
    · rw [if_neg h2]
      exact rmay0_any k op d a b n s h1 h2 w
end Rv
end Go.Proofs.Ytadgemcpahfkoaa
