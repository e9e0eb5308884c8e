/-
  Contracts of (*Bits).grow, Put and Drop.
-/
import Derived.Test.YthijggnpkomdcaaBa
import Derived.Test.YthijggnpkomdcaaZo
import Derived.StillTailTactics
namespace Go.Proofs.Ythijggnpkomdcaa
open Go.RowKit
set_option linter.unusedVariables false
set_option maxRecDepth 100000

/-- The set at b holds ws' from now on; nothing else was written. -/
def SetTo (w : World) (b : Nat) (v : Value) (ws' : List Nat) (w' : World) : Prop :=
  ∃ v', SetG w' b v' ws' ∧ Chg (foot b v) w w' ∧ ∀ k ∈ foot b v', k ∈ foot b v ∨ w.heap.size ≤ k
theorem SetTo.refl {w : World} {b : Nat} {v : Value} {ws : List Nat} (h : SetG w b v ws) : SetTo w b v ws w := ⟨v, h, Chg.refl _ _, fun k hk => .inl hk⟩
theorem set_grown {w w1 : World} {b : Nat} {v v1 : Value} {ws ws1 : List Nat} (h : SetG w b v ws) (hown : w1.ownsRow 0 161 1 v1 ws1.length (cellsW ws1)) (hg : w.grownBy w1 v.ownBlock)
    (hv : ∀ k, v1.ownBlock = some k → v.ownBlock = some k ∨ w.heap.size ≤ k) (hs : Small ws1) (hl : ws1.length ≤ 1024) : SetTo w b v ws1 (w1.setCell ⟨b, 0, none⟩ v1) := by
  have hne : v1.ownBlock ≠ some b := fun e => by
    rcases hv b e with h1 | h1
    · exact h.apart h1
    · have := h.lt; omega
  have hbox : w1.heap[b]? = some (.cells #[v] 156 (0, 0)) := (hg.block b h.lt (fun e => h.apart e.symm)).trans h.box
  refine ⟨v1, ⟨one_setCell hbox, ownsRow_setCell_other hown hne v1, hne, hs, hl⟩, ?_, ?_⟩
  · refine ((Chg.refl _ w).grown hg (fun k hk => .inl (mem_foot.2 (.inr hk)))).setCell b 0 v1 (.inl (mem_foot.2 (.inl rfl)))
  · intro k hk
    rcases mem_foot.1 hk with rfl | hk
    · exact .inl (mem_foot.2 (.inl rfl))
    · rcases hv k hk with h1 | h1
      · exact .inl (mem_foot.2 (.inr h1))
      · exact .inr h1
theorem grow_any (w : World) (b : Nat) (v : Value) (ws : List Nat) (hS : SetG w b v ws) (m : Nat) (hm : m ≤ 1024) :
    Calls Try.prog 94 #[.pointer (some ⟨b, 0, none⟩), .int .i64 (m : Int)] w fun e w' => e = .returned (.tuple #[]) ∧ SetTo w b v (grown ws m) w' := by
  have hcell := hS.cell
  have hfree := hS.free
  have hsh := hS.short
  rcases Nat.lt_or_ge ws.length m with h | h
  · obtain ⟨d, hd⟩ : ∃ d : Nat, m = ws.length + d := ⟨m - ws.length, by omega⟩
    obtain ⟨v1, w1, hrun, hown, hg, hv⟩ := grow_run w v ws hS.own d (by omega) (by omega) 154
    have hgr : grown ws m = ws ++ List.replicate d 0 := by unfold grown; rw [hd, Nat.add_sub_cancel_left]
    have hl1 : (ws ++ List.replicate d 0).length = ws.length + d := by rw [List.length_append, List.length_replicate]
    have hne : some b ≠ v.ownBlock := fun e => hS.apart e.symm
    have hc1 : w1.cell? ⟨b, 0, none⟩ = some v := hg.cell hcell hne
    have hf1 : w1.frozen? ⟨b, 0, none⟩ = false := (World.frozen?_of_block (hg.block b hS.lt hne)).trans hfree
    obtain ⟨A, c, rfl, hW⟩ := hS.slice
    have hd0 : (m : Int) - (ws.length : Int) = (d : Int) := by omega
    have hdp : (0 : Int) < (d : Int) := by omega
    have FIN : Hid (SetTo w b (.slice A ws.length c) (grown ws m) (w1.setCell ⟨b, 0, none⟩ v1)) := by
      rw [hgr]
      exact set_grown hS (by rw [hl1]; exact hown) hg hv (by rw [← hgr]; exact grown_small hS.small m) (by rw [hl1]; omega)
    obtain ⟨A1, c1, rfl⟩ : ∃ A1 c1, v1 = .slice A1 (ws.length + d) c1 := by
      rcases hown.2 with ⟨_, h0⟩ | ⟨g, cap, cur, rfl, _⟩
      · omega
      · exact ⟨_, _, rfl⟩
    clear hS hW hown hg hv hgr hd hl1 hne
    have HR := Lib.hid hrun
    clear hrun
    generalize ws.length = k at *
    go_enter Try.func94, Try.ntmps94
    go_wp2_with (at_builtin; refine Lib.wpList_append_run _ rfl _ _ _ _ rfl _ _ rfl rfl _ _ HR.out ?_)
    refine bodyPost_end (results_none rfl _ _ _) rfl ?_
    exact ⟨rfl, FIN.out⟩
  · have FIN : Hid (SetTo w b v (grown ws m) w) := by
      rw [grown_of_le ws m h]
      exact SetTo.refl hS
    obtain ⟨A, c, rfl, hW⟩ := hS.slice
    have hd0 : ¬ (0 : Int) < (m : Int) - (ws.length : Int) := by omega
    clear hS hW
    generalize ws.length = k at *
    go_enter Try.func94, Try.ntmps94
    go_wp2
    refine bodyPost_end (results_none rfl _ _ _) rfl ?_
    exact ⟨rfl, FIN.out⟩

theorem put_no (w : World) (b : Nat) (v : Value) (ws : List Nat) (hS : SetG w b v ws) (n : Int) (hi : n ≤ 9223372036854775807) (h : n < 0 ∨ 65536 ≤ n ∨ hasZ ws n = true) :
    Calls Try.prog 90 #[.pointer (some ⟨b, 0, none⟩), .int .i64 n] w fun e w' => e = .returned (.bool false) ∧ w = w' := by
  have HS := Lib.hid hS
  clear hS
  by_cases h1 : n < 0
  · clear h
    go_enter Try.func90, Try.ntmps90
    go_wp2
    go_ret
    exact ⟨rfl, rfl⟩
  · by_cases h2 : 65536 ≤ n
    · clear h
      go_enter Try.func90, Try.ntmps90
      go_wp2
      go_ret
      exact ⟨rfl, rfl⟩
    · have h3 : hasZ ws n = true := by rcases h with h | h | h; exact absurd h h1; exact absurd h h2; exact h
      clear h
      go_enter Try.func90, Try.ntmps90
      go_wp2_with ((with_reducible refine (has_any _ _ _ _ HS.out _ hi).mono ?_); rintro e w' ⟨rfl, rfl⟩)
      go_ret
      exact ⟨rfl, rfl⟩
theorem put_nil (w : World) (n : Int) : Calls Try.prog 90 #[.pointer none, .int .i64 n] w fun e w' => e = .returned (.bool false) ∧ w = w' := by
  go_enter Try.func90, Try.ntmps90
  go_wp2
  go_ret
  exact ⟨rfl, rfl⟩
theorem wrap_pow (r : Nat) (hr : r < 64) : IntKind.u64.wrap ((2 : Int) ^ r) = ((2 ^ r : Nat) : Int) := by
  have h1 : (2 : Nat) ^ r < 2 ^ 64 := Nat.pow_lt_pow_right (by decide) hr
  have h2 : (2 : Nat) ^ 64 = 18446744073709551616 := by decide
  have e : ((2 ^ r : Nat) : Int) = (2 : Int) ^ r := by simp
  rw [← e]
  have h3 : IntKind.u64.wrap ((2 ^ r : Nat) : Int) = ((2 ^ r : Nat) : Int) % 18446744073709551616 := by simp [IntKind.wrap, IntKind.bits, IntKind.signed]
  rw [h3]
  generalize (2 : Nat) ^ r = y at *
  omega
theorem pow_lt' (r : Nat) (hr : r < 64) : 2 ^ r < 18446744073709551616 := by
  have h1 : (2 : Nat) ^ r < 2 ^ 64 := Nat.pow_lt_pow_right (by decide) hr
  have h2 : (2 : Nat) ^ 64 = 18446744073709551616 := by decide
  omega
theorem or_bit (x r : Nat) (hx : x < 18446744073709551616) (hr : r < 64) : bits .or .u64 (x : Int) (IntKind.u64.wrap ((2 : Int) ^ r)) = ((x ||| 2 ^ r : Nat) : Int) := by
  rw [wrap_pow r hr]
  exact u64_or_nat x (2 ^ r) hx (pow_lt' r hr)
theorem andNot_bit (x r : Nat) (hx : x < 18446744073709551616) (hr : r < 64) : bits .andNot .u64 (x : Int) (IntKind.u64.wrap ((2 : Int) ^ r)) = ((x &&& (18446744073709551615 - 2 ^ r) : Nat) : Int) := by
  rw [wrap_pow r hr]
  exact u64_andNot_nat x (2 ^ r) hx (pow_lt' r hr)
theorem SetG.drew {w : World} {b : Nat} {v : Value} {ws : List Nat} (h : SetG w b v ws) : SetG w.drew b v ws := h.same fun _ _ => rfl
theorem SetG.drewN {w : World} {b : Nat} {v : Value} {ws : List Nat} (h : SetG w b v ws) (n : Nat) : SetG (w.drewN n) b v ws := h.same fun _ _ => rfl
/-- A word is stored. -/
theorem SetG.stored {w : World} {b g c : Nat} {ws : List Nat} (h : SetG w b (.slice (some ⟨g, 0, none⟩) ws.length c) ws) (q y : Nat) (hy : y < 18446744073709551616) :
    SetG (w.setCell ⟨g, q, none⟩ (.int .u64 (y : Int))) b (.slice (some ⟨g, 0, none⟩) ws.length c) (ws.set q y) ∧ Chg (foot b (.slice (some ⟨g, 0, none⟩) ws.length c)) w (w.setCell ⟨g, q, none⟩ (.int .u64 (y : Int))) := by
  obtain ⟨h1, h2⟩ := h.own.stored q (.int .u64 (y : Int))
  have hne : b ≠ g := fun e => h.apart (by rw [e]; rfl)
  have hbox : (w.setCell ⟨g, q, none⟩ (.int .u64 (y : Int))).heap[b]? = w.heap[b]? := heap_setCell_other w ⟨g, q, none⟩ b _ hne
  refine ⟨⟨hbox.trans h.box, ?_, h.apart, set_small h.small q y hy, by rw [List.length_set]; exact h.short⟩, (Chg.refl _ w).setCell g q _ (.inl (mem_foot.2 (.inr rfl)))⟩
  rw [List.length_set, cellsW_set]
  exact h1
theorem SetTo.store {w w1 : World} {b g c : Nat} {v : Value} {ws1 : List Nat} (h : SetG w1 b (.slice (some ⟨g, 0, none⟩) ws1.length c) ws1) (hC : Chg (foot b v) w w1)
    (hF : ∀ k ∈ foot b (.slice (some ⟨g, 0, none⟩) ws1.length c), k ∈ foot b v ∨ w.heap.size ≤ k) (q y : Nat) (hy : y < 18446744073709551616) : SetTo w b v (ws1.set q y) (w1.setCell ⟨g, q, none⟩ (.int .u64 (y : Int))).drew := by
  obtain ⟨h1, h2⟩ := h.stored q y hy
  exact ⟨_, h1.drew, (hC.andThen h2 hF).drew, hF⟩
theorem put_yes (w : World) (b : Nat) (v : Value) (ws : List Nat) (hS : SetG w b v ws) (n : Nat) (hi : n < 65536) (h : mem ws n = false) :
    Calls Try.prog 90 #[.pointer (some ⟨b, 0, none⟩), .int .i64 (n : Int)] w fun e w' => e = .returned (.bool true) ∧ SetTo w b v (putW ws n) w' := by
  have HS := Lib.hid hS
  clear hS
  have h0 : ¬ (n : Int) < 0 := by omega
  have h1 : ¬ (65536 : Int) ≤ (n : Int) := by omega
  have h2 : (n : Int) < 65536 := by omega
  have h3 : (n : Int) ≤ 9223372036854775807 := by omega
  have hz : hasZ ws (n : Int) = false := by rw [hasZ_nat]; exact h
  obtain ⟨q, hq⟩ : ∃ q : Nat, n / 64 = q := ⟨_, rfl⟩
  obtain ⟨r, hr⟩ : ∃ r : Nat, n % 64 = r := ⟨_, rfl⟩
  have hqi : (n : Int) / 64 = (q : Int) := by omega
  have hri : (n : Int) % 64 = (r : Int) := by omega
  have hq1 : (q : Int) < 1024 := by omega
  have hq1' : q + 1 ≤ 1024 := by omega
  have hr0 : (0 : Int) ≤ (r : Int) := by omega
  have hr1 : (r : Int) < 64 := by omega
  have hr1' : r < 64 := by omega
  have hcast : (q : Int) + 1 = ((q + 1 : Nat) : Int) := by omega
  have EP : Hid (putW ws n = (grown ws (q + 1)).set q (wd ws q ||| 2 ^ r)) := Lib.hid (by unfold putW; rw [hq, hr])
  have HM := Lib.hid h
  have HQ := Lib.hid hq
  have HR := Lib.hid hr
  clear h hq hr hcast
  go_enter Try.func90, Try.ntmps90
  go_wp2_with (first
    | ((with_reducible refine (has_any _ _ _ _ HS.out _ h3).mono ?_); rintro e w' ⟨rfl, rfl⟩)
    | (go_at_call 94; refine (grow_any w b v ws HS.out (q + 1) hq1').mono ?_; rintro e w1 ⟨rfl, HT⟩))
  obtain ⟨v1, hS1, hC1, hF1⟩ := HT
  obtain ⟨A1, c1, rfl, hW1⟩ := hS1.slice
  have hcell := hS1.cell
  have hlen : (grown ws (q + 1)).length = max ws.length (q + 1) := grown_length _ _
  obtain ⟨g, rfl, hg, hcs⟩ := hW1.cells (by omega)
  have hk := hcs q (by omega)
  rw [wd_grown] at hk
  have hx := wd_lt HS.out.small q
  have hfro : w1.frozen? ⟨g, q, none⟩ = false := hS1.own.frozenAt q
  have hql : (q : Int) < ((grown ws (q + 1)).length : Int) := by omega
  have hq0 : (0 : Int) ≤ (q : Int) := by omega
  have H1 := Lib.hid hS1
  have HC := Lib.hid hC1
  have HF := Lib.hid hF1
  clear hS1 hC1 hF1 hW1 hcs hlen
  generalize hgl : (grown ws (q + 1)).length = L at *
  have HL := Lib.hid hgl
  clear hgl
  generalize hxx : wd ws q = x at *
  have HXX := Lib.hid hxx
  clear hxx
  go_region
  go_wp2
  go_ret
  refine ⟨rfl, ?_⟩
  rw [or_bit x r hx hr1', EP.out]
  have h1 := H1.out
  rw [← HL.out] at h1
  have hf := HF.out
  rw [← HL.out] at hf
  exact SetTo.store h1 HC.out hf q _ (or_lt hx (pow_lt' r hr1'))
end Go.Proofs.Ythijggnpkomdcaa
