/-
  A disk's box: its ten cells; the contracts of New, Off, Full, Quota, Stop, Calls, power.
-/
import Derived.Test.YtnjnlcmpfnabiaaRw
namespace Go.Proofs.Ytnjnlcmpfnabiaa
open Go.RowKit
set_option linter.unusedVariables false
set_option maxRecDepth 100000

/-- The ten cells of a disk: its files, how many were made, the directory as it is, as it is sure, the changes between; the quota, whether it was full, the calls ahead of Stop's, whether it is off, the calls. -/
structure DBox where
  files : Value
  made : Int
  now : Value
  sure : Value
  changes : Value
  quota : Int
  full : Bool
  ahead : Int
  off : Bool
  calls : Int
def DBox.cells (b : DBox) : Array Value := #[b.files, .int .i64 b.made, b.now, b.sure, b.changes, .int .i64 b.quota, .bool b.full, .int .i64 b.ahead, .bool b.off, .int .i64 b.calls]
def DBoxAt (w : World) (d : Nat) (b : DBox) : Prop := w.heap[d]? = some (.cells b.cells 83 (0, 0))
section
variable {w w' : World} {d : Nat} {b : DBox}
theorem DBoxAt.lt (h : DBoxAt w d b) : d < w.heap.size := lt_of_block h
theorem DBoxAt.cell (h : DBoxAt w d b) (i : Nat) (v : Value) (hv : b.cells[i]? = some v) : w.cell? ⟨d, i, none⟩ = some v := by
  rw [cell_of_row w d i _ _ (0, 0) h]
  exact hv
theorem DBoxAt.free (h : DBoxAt w d b) (i : Nat) : w.frozen? ⟨d, i, none⟩ = false := frozen_of_row w d i _ _ h
theorem DBoxAt.set (h : DBoxAt w d b) (i : Nat) (v : Value) (b' : DBox) (hb : b.cells.setIfInBounds i v = b'.cells) : DBoxAt (w.setCell ⟨d, i, none⟩ v) d b' := by
  unfold DBoxAt
  rw [heap_setCell_same w d i _ _ v h, hb]
theorem DBoxAt.chg {l : List Nat} (h : DBoxAt w d b) (hc : Chg l w w') (hl : d ∉ l) : DBoxAt w' d b := (hc.same d h.lt hl).trans h
theorem DBoxAt.below (h : DBoxAt w d b) (hb : Below w.heap.size w w') : DBoxAt w' d b := (hb.block d h.lt).trans h
end
theorem dnew_any (q : Int) (w : World) : Calls Try.prog 9 #[.int .i64 q] w fun e w' =>
    e = .returned (.pointer (some ⟨w.heap.size, 0, none⟩)) ∧ DBoxAt w' w.heap.size ⟨.slice none 0 0, 0, .slice none 0 0, .slice none 0 0, .slice none 0 0, max q 0, false, -1, false, 0⟩ ∧ Below w.heap.size w w' := by
  by_cases h : q < 0
  · have h1 : max q 0 = 0 := by omega
    have h2 : q ≤ 0 := by omega
    rw [h1]
    clear h1
    go_enter Try.func9, Try.ntmps9
    go_wp2
    go_ret
    exact ⟨rfl, heap_alloc_new w _, (Below.refl _ w).alloc (Nat.le_refl _) _⟩
  · have h1 : max q 0 = q := by omega
    have h2 : (0 : Int) ≤ q := by omega
    rw [h1]
    clear h1
    go_enter Try.func9, Try.ntmps9
    go_wp2
    go_ret
    exact ⟨rfl, heap_alloc_new w _, (Below.refl _ w).alloc (Nat.le_refl _) _⟩
theorem doff_any (w : World) (d : Nat) (b : DBox) (h : DBoxAt w d b) : Calls Try.prog 24 #[.pointer (some ⟨d, 0, none⟩)] w fun e w' => e = .returned (.bool b.off) ∧ w = w' := by
  have hc := h.cell 8 _ rfl
  clear h
  go_enter Try.func24, Try.ntmps24
  go_wp2
  go_ret
  exact ⟨rfl, rfl⟩
theorem doff_nil (w : World) : Calls Try.prog 24 #[.pointer none] w fun e w' => e = .returned (.bool true) ∧ w = w' := by
  go_enter Try.func24, Try.ntmps24
  go_wp2
  go_ret
  exact ⟨rfl, rfl⟩
theorem dfull_any (w : World) (d : Nat) (b : DBox) (h : DBoxAt w d b) : Calls Try.prog 25 #[.pointer (some ⟨d, 0, none⟩)] w fun e w' => e = .returned (.bool b.full) ∧ w = w' := by
  have hc := h.cell 6 _ rfl
  clear h
  go_enter Try.func25, Try.ntmps25
  go_wp2
  go_ret
  exact ⟨rfl, rfl⟩
theorem dfull_nil (w : World) : Calls Try.prog 25 #[.pointer none] w fun e w' => e = .returned (.bool false) ∧ w = w' := by
  go_enter Try.func25, Try.ntmps25
  go_wp2
  go_ret
  exact ⟨rfl, rfl⟩
theorem dcalls_any (w : World) (d : Nat) (b : DBox) (h : DBoxAt w d b) : Calls Try.prog 33 #[.pointer (some ⟨d, 0, none⟩)] w fun e w' => e = .returned (.int .i64 b.calls) ∧ w = w' := by
  have hc := h.cell 9 _ rfl
  clear h
  go_enter Try.func33, Try.ntmps33
  go_wp2
  go_ret
  exact ⟨rfl, rfl⟩
theorem dcalls_nil (w : World) : Calls Try.prog 33 #[.pointer none] w fun e w' => e = .returned (.int .i64 0) ∧ w = w' := by
  go_enter Try.func33, Try.ntmps33
  go_wp2
  go_ret
  exact ⟨rfl, rfl⟩
theorem dstop_any (w : World) (d : Nat) (b : DBox) (h : DBoxAt w d b) (k : Int) : Calls Try.prog 31 #[.pointer (some ⟨d, 0, none⟩), .int .i64 k] w fun e w' => (∃ v, e = .returned v) ∧ DBoxAt w' d { b with ahead := k } ∧ Chg [d] w w' := by
  have hc := h.cell 7 _ rfl
  have hf := h.free 7
  have HS := Lib.hid (h.set 7 (.int .i64 k) { b with ahead := k } rfl)
  clear h
  go_enter Try.func31, Try.ntmps31
  go_wp2
  go_end0
  exact ⟨⟨_, rfl⟩, HS.out, (Chg.refl _ w).setCell d 7 _ (.inl (List.mem_cons_self ..))⟩
theorem dstop_nil (w : World) (k : Int) : Calls Try.prog 31 #[.pointer none, .int .i64 k] w fun e w' => (∃ v, e = .returned v) ∧ w = w' := by
  go_enter Try.func31, Try.ntmps31
  go_wp2
  go_end0
  exact ⟨⟨_, rfl⟩, rfl⟩
/-- How a call of the six begins: whether the power lasts for it. -/
def powerB (b : DBox) : Bool := !b.off && b.ahead != 0
def poweredB (b : DBox) : DBox := if b.off = true then b else if b.ahead = 0 then { b with calls := b.calls + 1, off := true } else if 0 < b.ahead then { b with calls := b.calls + 1, ahead := b.ahead - 1 } else { b with calls := b.calls + 1 }
set_option maxHeartbeats 800000 in
theorem power_any (w : World) (d : Nat) (b : DBox) (h : DBoxAt w d b) (hcl : 0 ≤ b.calls ∧ b.calls ≤ 1000000) (hah : b.ahead ≤ 9223372036854775807) : Calls Try.prog 65 #[.pointer (some ⟨d, 0, none⟩)] w fun e w' => e = .returned (.bool (powerB b)) ∧ DBoxAt w' d (poweredB b) ∧ Chg [d] w w' := by
  have HO := Lib.hid (doff_any w d b h)
  obtain ⟨files, made, now, sure, changes, quota, full, ahead, off, calls⟩ := b
  dsimp only at hcl hah
  obtain ⟨hc1, hc2⟩ := hcl
  have h7 : w.cell? ⟨d, 7, none⟩ = some (.int .i64 ahead) := h.cell 7 _ rfl
  have h9 : w.cell? ⟨d, 9, none⟩ = some (.int .i64 calls) := h.cell 9 _ rfl
  have f9 := h.free 9
  have H1 := h.set 9 (.int .i64 (calls + 1)) ⟨files, made, now, sure, changes, quota, full, ahead, off, calls + 1⟩ rfl
  have C1 : Chg [d] w (w.setCell ⟨d, 9, none⟩ (.int .i64 (calls + 1))) := (Chg.refl _ w).setCell d 9 _ (.inl (List.mem_cons_self ..))
  obtain ⟨w1, hw1⟩ : ∃ w1, w.setCell ⟨d, 9, none⟩ (.int .i64 (calls + 1)) = w1 := ⟨_, rfl⟩
  rw [hw1] at H1 C1
  have g7 : w1.cell? ⟨d, 7, none⟩ = some (.int .i64 ahead) := H1.cell 7 _ rfl
  have g8 : w1.cell? ⟨d, 8, none⟩ = some (.bool off) := H1.cell 8 _ rfl
  have HO : Hid (Calls Try.prog 24 #[.pointer (some ⟨d, 0, none⟩)] w fun e w' => e = .returned (.bool off) ∧ w = w') := HO
  have k7 := H1.free 7
  have k8 := H1.free 8
  cases off with
  | true =>
    have HH := Lib.hid h
    clear h H1 C1 hw1
    go_enter Try.func65, Try.ntmps65
    go_wp2_with (go_at_call 24; refine HO.out.mono ?_; rintro e w' ⟨rfl, rfl⟩)
    go_ret
    exact ⟨rfl, HH.out, Chg.refl _ _⟩
  | false =>
    clear h
    by_cases ha : ahead = 0
    · subst ha
      have H2 := Lib.hid (H1.set 8 (.bool true) ⟨files, made, now, sure, changes, quota, full, 0, true, calls + 1⟩ rfl)
      have C2 := Lib.hid (C1.setCell d 8 (.bool true) (.inl (List.mem_cons_self ..)))
      clear H1 C1
      go_enter Try.func65, Try.ntmps65
      go_wp2_with (go_at_call 24; refine HO.out.mono ?_; rintro e w' ⟨rfl, rfl⟩)
      go_ret
      exact ⟨rfl, H2.out, C2.out⟩
    · have hne : (ahead == 0) = false := by simpa using ha
      have hp : powerB ⟨files, made, now, sure, changes, quota, full, ahead, false, calls⟩ = true := by unfold powerB; simp [ha]
      by_cases hpos : 0 < ahead
      · have H2 := H1.set 7 (.int .i64 (ahead - 1)) ⟨files, made, now, sure, changes, quota, full, ahead - 1, false, calls + 1⟩ rfl
        have hq : poweredB ⟨files, made, now, sure, changes, quota, full, ahead, false, calls⟩ = ⟨files, made, now, sure, changes, quota, full, ahead - 1, false, calls + 1⟩ := by unfold poweredB; simp [ha, hpos]
        rw [← hq] at H2
        have C2 := Lib.hid (C1.setCell d 7 (.int .i64 (ahead - 1)) (.inl (List.mem_cons_self ..)))
        have H2 := Lib.hid H2
        rw [hp]
        clear H1 C1 hp hq
        go_enter Try.func65, Try.ntmps65
        go_wp2_with (go_at_call 24; refine HO.out.mono ?_; rintro e w' ⟨rfl, rfl⟩)
        go_ret
        exact ⟨rfl, H2.out, C2.out⟩
      · have hq : poweredB ⟨files, made, now, sure, changes, quota, full, ahead, false, calls⟩ = ⟨files, made, now, sure, changes, quota, full, ahead, false, calls + 1⟩ := by unfold poweredB; simp [ha, hpos]
        rw [← hq] at H1
        have H2 := Lib.hid H1
        have C2 := Lib.hid C1
        rw [hp]
        clear H1 C1 hp hq
        go_enter Try.func65, Try.ntmps65
        go_wp2_with (go_at_call 24; refine HO.out.mono ?_; rintro e w' ⟨rfl, rfl⟩)
        go_ret
        exact ⟨rfl, H2.out, C2.out⟩
end Go.Proofs.Ytnjnlcmpfnabiaa
