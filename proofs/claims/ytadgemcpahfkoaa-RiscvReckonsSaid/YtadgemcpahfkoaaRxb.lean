/-
  What an address is, what is read, what an Ecall does.
-/
import Derived.Test.YtadgemcpahfkoaaRxa
namespace Go.Proofs.Ytadgemcpahfkoaa
open Go.RowKit
set_option linter.unusedVariables false
set_option linter.unusedSimpArgs false
set_option maxRecDepth 100000
namespace Rv
/-- Which word an address is. -/
def wordM (n : Nat) (z : Int) : Option Nat := if z < 65536 ∨ z % 4 ≠ 0 ∨ (n : Int) ≤ (z - 65536) / 4 then none else some ((z - 65536) / 4).toNat
/-- A run that ends so. -/
def Ends (k : Int) (e : Ending) : Prop := e = .panicked [{ v := .iface 85 (.int .i64 k), recovered := false }]
theorem word_yes {e : Env} {w : World} {s : MS} (h : MAt e w s) (z : Int) (hz : -2147483648 ≤ z ∧ z ≤ 2147483647) (hn : e.q.mn ≤ 1000000) (k : Nat) (hk : wordM s.mem.length z = some k) :
    Calls Try.prog 62 #[.pointer (some ⟨e.p, 0, none⟩), .int .i32 z] w fun e' w' => e' = .returned (.pointer (some ⟨e.q.mb, k, none⟩)) ∧ w' = w := by
  obtain ⟨z1, z2⟩ := hz
  have hl := h.mlen
  unfold wordM at hk
  split at hk
  · cases hk
  · next hc =>
    simp only [not_or, Int.not_lt, Int.not_le, Decidable.not_not] at hc
    obtain ⟨c1, c2, c3⟩ := hc
    injection hk with hk
    have x33 := h.cell 33 (.slice (some ⟨e.q.mb, 0, none⟩) e.q.mn e.q.mn) (fun _ _ => rfl)
    have e1 : (z - 65536).tdiv 4 = (k : Int) := by rw [Int.tdiv_eq_ediv_of_nonneg (by omega)]; omega
    have e2 : z.tmod 4 = 0 := by rw [Int.tmod_eq_emod_of_nonneg (by omega)]; exact c2
    have hkn : (k : Int) < (e.q.mn : Int) := by omega
    have hk0 : (0 : Int) ≤ (k : Int) := by omega
    have hm2 : (e.q.mn : Int) ≤ 1000000 := by omega
    clear h hk hl c3 c2
    go_enter Try.func62, Try.ntmps62
    go_wp2_with fail
    go_ret
    exact ⟨by simp, rfl⟩
theorem word_no {e : Env} {w : World} {s : MS} (h : MAt e w s) (z : Int) (hz : -2147483648 ≤ z ∧ z ≤ 2147483647) (hn : e.q.mn ≤ 1000000) (hk : wordM s.mem.length z = none) :
    Calls Try.prog 62 #[.pointer (some ⟨e.p, 0, none⟩), .int .i32 z] w fun e' w' => Ends 6 e' ∧ w' = w := by
  obtain ⟨z1, z2⟩ := hz
  have hl := h.mlen
  have x33 := h.cell 33 (.slice (some ⟨e.q.mb, 0, none⟩) e.q.mn e.q.mn) (fun _ _ => rfl)
  have hm2 : (e.q.mn : Int) ≤ 1000000 := by omega
  unfold wordM at hk
  split at hk
  · next hc =>
    by_cases c1 : z < 65536
    · clear hc hl h
      go_enter Try.func62, Try.ntmps62
      go_wp2_with fail
      exact ⟨rfl, rfl, rfl⟩
    · by_cases c2 : z % 4 = 0
      · have c3 : (e.q.mn : Int) ≤ (z - 65536) / 4 := by omega
        have e1 : (z - 65536).tdiv 4 = (z - 65536) / 4 := Int.tdiv_eq_ediv_of_nonneg (by omega)
        have e2 : z.tmod 4 = 0 := by rw [Int.tmod_eq_emod_of_nonneg (by omega)]; exact c2
        obtain ⟨y, hy⟩ : ∃ y, (z - 65536) / 4 = y := ⟨_, rfl⟩
        rw [hy] at *
        clear hc hl h hy
        go_enter Try.func62, Try.ntmps62
        go_wp2_with fail
        exact ⟨rfl, rfl, rfl⟩
      · have e2 : ¬ z.tmod 4 = 0 := by rw [Int.tmod_eq_emod_of_nonneg (by omega)]; exact c2
        clear hc hl h
        go_enter Try.func62, Try.ntmps62
        go_wp2_with fail
        exact ⟨rfl, rfl, rfl⟩
  · cases hk
end Rv
end Go.Proofs.Ytadgemcpahfkoaa
