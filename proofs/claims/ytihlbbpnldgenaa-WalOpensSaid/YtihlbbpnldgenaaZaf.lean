/-
  The contract of a log's do: steps one behind the other till one goes wrong.
-/
import Derived.Test.YtihlbbpnldgenaaZae
import Derived.Shelf.Abstract
namespace Go.Proofs.Ytihlbbpnldgenaa
open Go.RowKit
set_option linter.unusedVariables false
set_option maxRecDepth 100000

/-- A log's box: its disk, its name, what went wrong, its records, their bytes. -/
def LBox (w : World) (l : Nat) (dv xv : Value) (b : Int) (c s : Value) : Prop := w.heap[l]? = some (.cells #[dv, xv, .int .i64 b, c, s] 65 (0, 0))
section
variable {w w' : World} {l : Nat} {dv xv c s : Value} {b : Int}
theorem LBox.lt (h : LBox w l dv xv b c s) : l < w.heap.size := lt_of_block h
theorem LBox.cell (h : LBox w l dv xv b c s) (i : Nat) (v : Value) (hv : #[dv, xv, .int .i64 b, c, s][i]? = some v) : w.cell? ⟨l, i, none⟩ = some v := by
  rw [cell_of_row w l i _ _ (0, 0) h]
  exact hv
theorem LBox.free (h : LBox w l dv xv b c s) (i : Nat) : w.frozen? ⟨l, i, none⟩ = false := frozen_of_row w l i _ _ h
theorem LBox.bad (h : LBox w l dv xv b c s) (a : Int) : LBox (w.setCell ⟨l, 2, none⟩ (.int .i64 a)) l dv xv a c s := by
  unfold LBox
  rw [heap_setCell_same w l 2 _ _ _ h]
  rfl
theorem LBox.chg {k : List Nat} (h : LBox w l dv xv b c s) (hc : Chg k w w') (hl : l ∉ k) : LBox w' l dv xv b c s := (hc.same l h.lt hl).trans h
theorem LBox.below (h : LBox w l dv xv b c s) (hb : Below w.heap.size w w') : LBox w' l dv xv b c s := (hb.block l h.lt).trans h
end
set_option maxHeartbeats 1600000 in
theorem do_any (w : World) (l sb so sc n : Nat) (fs : List Value) (hlen : fs.length = n) (hn : n ≤ 100) (dv xv c s : Value) (b0 : Int) (St : Nat → Int → World → Prop)
    (hbox : ∀ k b W, St k b W → LBox W l dv xv b c s ∧ ∀ j v, fs[j]? = some v → W.cell? ⟨sb, so + j, none⟩ = some v)
    (h0 : St 0 b0 w) (hskip : ∀ k b W, b ≠ 0 → k < n → St k b W → St (k + 1) b W)
    (hstep : ∀ k W, k < n → St k 0 W → ∃ g pre caps, fs[k]? = some (.func (.func g) pre caps) ∧ Enters Try.prog g ∧ Calls Try.prog g (pre ++ caps) W fun e W' => ∃ a, e = .returned (.int .i64 a) ∧ LBox W' l dv xv 0 c s ∧ St (k + 1) a (W'.setCell ⟨l, 2, none⟩ (.int .i64 a))) :
    Calls Try.prog 25 #[.pointer (some ⟨l, 0, none⟩), .slice (some ⟨sb, so, none⟩) n sc] w fun e w' => ∃ b, e = .returned (.int .i64 b) ∧ St n b w' := by
  have HB := Lib.hid hbox
  have HS := Lib.hid hskip
  have HT := Lib.hid hstep
  have H0 := Lib.hid h0
  have HL := Lib.hid hlen
  clear hbox hskip hstep h0 hlen
  go_enter Try.func25, Try.ntmps25
  go_wp2
  go_loopw [9] (fun i wr => ∃ k : Nat, k ≤ n ∧ i = .int .i64 k ∧ ∃ b : Int, Hid (St k b wr)) (fun i _ => n - (intOf i).toNat)
  case atStart => exact ⟨0, by omega, rfl, b0, H0⟩
  case round =>
    obtain ⟨k, hk, rfl, b, HI⟩ := hrel
    obtain ⟨hb1, hb2⟩ := HB.out k b wr HI.out
    have c2 := hb1.cell 2 _ rfl
    have HB1 := Lib.hid hb1
    rcases Nat.lt_or_ge k n with hkn | hkn
    · obtain ⟨v, hv⟩ : ∃ v, fs[k]? = some v := ⟨_, List.getElem?_eq_getElem (by rw [HL.out]; exact hkn)⟩
      have ce := hb2 k v hv
      have hkn' : (k : Int) < (n : Int) := by omega
      have hk0 : (0 : Int) ≤ (k : Int) := by omega
      have HV := Lib.hid hv
      clear hb1 hb2 hv
      by_cases hb : b = 0
      · subst hb
        obtain ⟨g, pre, caps, hfk, hent, hcall⟩ := HT.out k wr hkn HI.out
        rw [HV.out] at hfk
        cases hfk
        have HC := Lib.hid hcall
        have hent' : ∀ (args : Array Value) (w : World), (callFunc g args).run Try.prog w = .ok (.enter g args) w := hent
        clear hcall hent
        go_wp2_with (go_at_fn g; refine HC.out.mono ?_; rintro e W2 ⟨a, rfl, hx, hst⟩; have f2 := hx.free 2; have d2 := hx.cell 2 _ rfl; have HST := Lib.hid hst; clear hx hst)
        go_roundw
        case rel => exact ⟨k + 1, by omega, by go_num, a, HST⟩
        case measure => simp [intOf]; omega
      · have hb' : ¬ b = 0 := hb
        go_wp2
        go_roundw
        case rel => exact ⟨k + 1, by omega, by go_num, b, Lib.hid (HS.out k b wr hb hkn HI.out)⟩
        case measure => simp [intOf]; omega
    · obtain rfl : k = n := by omega
      clear hb1 hb2
      go_wp2
      go_ret
      exact ⟨b, rfl, HI.out⟩
end Go.Proofs.Ytihlbbpnldgenaa
