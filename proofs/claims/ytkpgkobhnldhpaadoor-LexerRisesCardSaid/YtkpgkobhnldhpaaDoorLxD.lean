/-
  Contracts of layer 7's reader: open, rest, read, pass, At.
-/
import Derived.Test.YtkpgkobhnldhpaaDoorLxC
import Derived.Test.YtkpgkobhnldhpaaDoorLn
import Derived.Deep.LoopGhost
namespace Go.Proofs.YtkpgkobhnldhpaaDoor
open Go.RowKit
set_option linter.unusedVariables false

/-- Block b is a reader of s, k bytes of which were read. -/
structure IsRd (w : World) (b : Nat) (s : ByteArray) (k : Nat) : Prop where
  lt : b < w.heap.size
  le : k ≤ s.size
  off : w.cell? ⟨b, 0, none⟩ = some (.int .i64 (k : Int))
  line : w.cell? ⟨b, 1, none⟩ = some (.int .i64 (lineOf (s.data.toList.take k) : Int))
  col : w.cell? ⟨b, 2, none⟩ = some (.int .i64 (colOf (s.data.toList.take k) : Int))
  txt : w.cell? ⟨b, 3, none⟩ = some (.string s)
  f0 : w.frozen? ⟨b, 0, none⟩ = false
  f1 : w.frozen? ⟨b, 1, none⟩ = false
  f2 : w.frozen? ⟨b, 2, none⟩ = false
theorem IsRd.drew {w : World} {b : Nat} {s : ByteArray} {k : Nat} (h : IsRd w b s k) : IsRd w.drew b s k := ⟨h.lt, h.le, h.off, h.line, h.col, h.txt, h.f0, h.f1, h.f2⟩
theorem IsRd.same {w w' : World} {b : Nat} {s : ByteArray} {k : Nat} (h : IsRd w b s k) (hz : w.heap.size ≤ w'.heap.size) (hb : w'.heap[b]? = w.heap[b]?) : IsRd w' b s k := by
  have hc : ∀ o, w'.cell? ⟨b, o, none⟩ = w.cell? ⟨b, o, none⟩ := fun o => World.cell?_of_block (w := w) (a := ⟨b, o, none⟩) hb
  have hf : ∀ o, w'.frozen? ⟨b, o, none⟩ = w.frozen? ⟨b, o, none⟩ := fun o => World.frozen?_of_block (w := w) (a := ⟨b, o, none⟩) hb
  exact ⟨Nat.lt_of_lt_of_le h.lt hz, h.le, (hc 0).trans h.off, (hc 1).trans h.line, (hc 2).trans h.col, (hc 3).trans h.txt, (hf 0).trans h.f0, (hf 1).trans h.f1, (hf 2).trans h.f2⟩
theorem IsRd.below {w w' : World} {b : Nat} {s : ByteArray} {k : Nat} (h : IsRd w b s k) (hb : Below w.heap.size w w') : IsRd w' b s k := h.same hb.size (hb.block b h.lt)
theorem IsRd.chg {w w' : World} {b : Nat} {s : ByteArray} {k : Nat} {l : List Nat} (h : IsRd w b s k) (hc : Chg l w w') (hl : b ∉ l) : IsRd w' b s k := h.same hc.size (hc.same b h.lt hl)
theorem IsRd.mk' {w : World} {b : Nat} {s : ByteArray} {k j : Nat} (h : IsRd w b s k) (e : k = j) : IsRd w b s j := by subst e; exact h
theorem cell_here {w : World} {b o : Nat} {u : Value} (v : Value) (h : w.cell? ⟨b, o, none⟩ = some u) : (w.setCell ⟨b, o, none⟩ v).cell? ⟨b, o, none⟩ = some v := World.cell?_setCell_same _ _ _ h
theorem IsRd.line_end {w : World} {b : Nat} {s : ByteArray} {k : Nat} (h : IsRd w b s k) (hk : k < s.size) (h10 : s[k].toNat = 10) {L K : Int} (hL : L = (lineOf (s.data.toList.take k) : Int) + 1) (hK : K = (k : Int) + 1) :
    IsRd (((w.setCell ⟨b, 1, none⟩ (.int .i64 L)).setCell ⟨b, 2, none⟩ (.int .i64 1)).setCell ⟨b, 0, none⟩ (.int .i64 K)) b s (k + 1) := by
  have e1 : lineOf (s.data.toList.take (k + 1)) = lineOf (s.data.toList.take k) + 1 := by rw [ba_takeS s k hk, lineOf_snoc, if_pos h10]
  have e2 : colOf (s.data.toList.take (k + 1)) = 1 := by rw [ba_takeS s k hk, colOf_snoc, if_pos h10]
  obtain ⟨lt, le, off, line, col, txt, f0, f1, f2⟩ := h
  subst hL hK
  refine ⟨by simpa using lt, by omega, ?_, ?_, ?_, ?_, ?_, ?_, ?_⟩
  · rw [cell_here (u := .int .i64 (k : Int)) _ (by rw [cell_beside _ _ _ _ _ (by decide), cell_beside _ _ _ _ _ (by decide)]; exact off)]; congr 2
  · rw [cell_beside _ _ _ _ _ (by decide), cell_beside _ _ _ _ _ (by decide), cell_here _ line, e1]; congr 2
  · rw [cell_beside _ _ _ _ _ (by decide), cell_here (u := .int .i64 (colOf (s.data.toList.take k) : Int)) _ (by rw [cell_beside _ _ _ _ _ (by decide)]; exact col), e2]; rfl
  · rw [cell_beside _ _ _ _ _ (by decide), cell_beside _ _ _ _ _ (by decide), cell_beside _ _ _ _ _ (by decide)]; exact txt
  · simpa [go_sem] using f0
  · simpa [go_sem] using f1
  · simpa [go_sem] using f2
theorem IsRd.line_on {w : World} {b : Nat} {s : ByteArray} {k : Nat} (h : IsRd w b s k) (hk : k < s.size) (h10 : ¬ s[k].toNat = 10) {L K : Int} (hL : L = (colOf (s.data.toList.take k) : Int) + 1) (hK : K = (k : Int) + 1) :
    IsRd ((w.setCell ⟨b, 2, none⟩ (.int .i64 L)).setCell ⟨b, 0, none⟩ (.int .i64 K)) b s (k + 1) := by
  have e1 : lineOf (s.data.toList.take (k + 1)) = lineOf (s.data.toList.take k) := by rw [ba_takeS s k hk, lineOf_snoc, if_neg h10]
  have e2 : colOf (s.data.toList.take (k + 1)) = colOf (s.data.toList.take k) + 1 := by rw [ba_takeS s k hk, colOf_snoc, if_neg h10]
  obtain ⟨lt, le, off, line, col, txt, f0, f1, f2⟩ := h
  subst hL hK
  refine ⟨by simpa using lt, by omega, ?_, ?_, ?_, ?_, ?_, ?_, ?_⟩
  · rw [cell_here (u := .int .i64 (k : Int)) _ (by rw [cell_beside _ _ _ _ _ (by decide)]; exact off)]; congr 2
  · rw [cell_beside _ _ _ _ _ (by decide), cell_beside _ _ _ _ _ (by decide), e1]; exact line
  · rw [cell_beside _ _ _ _ _ (by decide), cell_here _ col, e2]; congr 2
  · rw [cell_beside _ _ _ _ _ (by decide), cell_beside _ _ _ _ _ (by decide)]; exact txt
  · simpa [go_sem] using f0
  · simpa [go_sem] using f1
  · simpa [go_sem] using f2
theorem open_any (s : ByteArray) (w : World) : Calls Tryd.prog 22 #[.string s] w fun e w' => e = .returned (.pointer (some ⟨w.heap.size, 0, none⟩)) ∧ w' = w.alloc (.cells #[.int .i64 0, .int .i64 1, .int .i64 1, .string s] 49) := by
  go_enter Tryd.func22, Tryd.ntmps22
  go_wp2
  go_ret
  exact ⟨rfl, rfl⟩
theorem IsRd.new (s : ByteArray) (w : World) : IsRd (w.alloc (.cells #[.int .i64 0, .int .i64 1, .int .i64 1, .string s] 49)) w.heap.size s 0 := by
  refine ⟨by simp, Nat.zero_le _, ?_, ?_, ?_, ?_, ?_, ?_, ?_⟩ <;> simp [go_sem, lineOf, colOf, lineN]
theorem rest_any (w : World) (b k : Nat) (s : ByteArray) (hs : s.size ≤ 4000000000) (h : IsRd w b s k) : Calls Tryd.prog 24 #[.pointer (some ⟨b, 0, none⟩)] w fun e w' => e = .returned (.string (s.extract k s.size)) ∧ w' = w.drew := by
  obtain ⟨lt, le, off, line, col, txt, f0, f1, f2⟩ := h
  clear line col f0 f1 f2
  go_enter Tryd.func24, Tryd.ntmps24
  go_wp2
  go_region
  all_goals
    go_wp2
    go_ret
    exact ⟨rfl, rfl⟩
theorem read_any (w : World) (b k n : Nat) (s : ByteArray) (hs : s.size ≤ 4000000000) (h : IsRd w b s k) (hn : k + n ≤ s.size) : Calls Tryd.prog 26 #[.pointer (some ⟨b, 0, none⟩), .int .i64 (n : Int)] w fun e w' => e = .returned (.tuple #[]) ∧ IsRd w' b s (k + n) ∧ Chg [b] w w' := by
  have H := Lib.hid h
  clear h
  go_enter Tryd.func26, Tryd.ntmps26
  go_wp2
  go_loopw [5] (fun i wr => ∃ j q : Nat, j ≤ n ∧ i = .int .i64 j ∧ Hid (q = k + j ∧ IsRd wr b s q ∧ Chg [b] w wr)) (fun i _ => n - (intOf i).toNat)
  case atStart => exact ⟨0, k, Nat.zero_le _, rfl, Lib.hid ⟨rfl, H.out, Chg.refl _ _⟩⟩
  case round =>
    obtain ⟨j, q, hj, rfl, HI⟩ := hrel
    by_cases hlt : j < n
    · obtain ⟨lt, le, off, line, col, txt, f0, f1, f2⟩ := HI.out.2.1
      have hlt' : q < s.size := by have := HI.out.1; omega
      have hl := lineOf_le (s.data.toList.take q)
      have hc := colOf_le (s.data.toList.take q)
      rw [List.length_take] at hl hc
      have hl2 : (lineOf (s.data.toList.take q) : Int) ≤ 4000000001 := by omega
      have hc2 : (colOf (s.data.toList.take q) : Int) ≤ 4000000001 := by omega
      have hq2 : (q : Int) ≤ 4000000001 := by omega
      have HQ := Lib.hid HI.out.1
      have HC := Lib.hid HI.out.2.2
      by_cases h10 : ((s[q].toNat : Int) == 10) = true
      · have HN := fun {L K : Int} => Lib.hid (@IsRd.line_end wr.drew b s q HI.out.2.1.drew hlt' (by simp only [beq_iff_eq] at h10; omega) L K)
        clear hl hc hc2 HI H le
        generalize lineOf (s.data.toList.take q) = L at *
        generalize colOf (s.data.toList.take q) = C at *
        go_wp2
        go_region
        go_wp2
        go_roundw
        case rel => exact ⟨j + 1, q + 1, by omega, by go_num, Lib.hid ⟨by have := HQ.out; omega, HN.out rfl rfl, ((HC.out.drew.setCell b _ _ (.inl (by simp))).setCell b _ _ (.inl (by simp))).setCell b _ _ (.inl (by simp))⟩⟩
        case measure => simp [intOf]; omega
      · have HN := fun {L K : Int} => Lib.hid (@IsRd.line_on wr.drew b s q HI.out.2.1.drew hlt' (by simp only [beq_iff_eq] at h10; omega) L K)
        simp only [Bool.not_eq_true] at h10
        clear hl hc hl2 HI H le
        generalize lineOf (s.data.toList.take q) = L at *
        generalize colOf (s.data.toList.take q) = C at *
        go_wp2
        go_region
        go_wp2
        go_roundw
        case rel => exact ⟨j + 1, q + 1, by omega, by go_num, Lib.hid ⟨by have := HQ.out; omega, HN.out rfl rfl, (HC.out.drew.setCell b _ _ (.inl (by simp))).setCell b _ _ (.inl (by simp))⟩⟩
        case measure => simp [intOf]; omega
    · have HF : Hid (IsRd wr b s (k + n) ∧ Chg [b] w wr) := Lib.hid (by
        obtain ⟨q1, q2, q3⟩ := HI.out
        exact ⟨q2.mk' (by omega), q3⟩)
      go_wp2
      exact bodyPost_end (results_none rfl _ _ _) rfl ⟨rfl, HF.out.1, HF.out.2⟩
theorem chg_env {w0 w w' : World} {b : Nat} (hB : Below w0.heap.size w0 w) (hb : w0.heap.size ≤ b) (hc : Chg [b] w w') : Below w0.heap.size w0 w' :=
  hB.trans (hc.toBelow (fun k hk => by simp only [List.mem_singleton] at hk; subst hk; exact hb) hB.size)
theorem skip_done (l : List UInt8) (k q : Nat) (hI : skipN (l.drop k) = (q - k + (skipN (l.drop q)).1, (skipN (l.drop q)).2)) (hk : k ≤ q) (hG : (gapN (l.drop q)).1 = 0 ∨ (gapN (l.drop q)).2 = false) : q + (gapN (l.drop q)).1 = k + (skipN (l.drop k)).1 ∧ (gapN (l.drop q)).2 = (skipN (l.drop k)).2 := by
  rw [hI, skipN_stop _ hG]
  exact ⟨by show _ = k + (q - k + _); omega, rfl⟩
theorem skip_on (l : List UInt8) (k q : Nat) (hI : skipN (l.drop k) = (q - k + (skipN (l.drop q)).1, (skipN (l.drop q)).2)) (hk : k ≤ q) (h0 : (gapN (l.drop q)).1 ≠ 0) (h1 : (gapN (l.drop q)).2 = true) : skipN (l.drop k) = (q + (gapN (l.drop q)).1 - k + (skipN (l.drop (q + (gapN (l.drop q)).1))).1, (skipN (l.drop (q + (gapN (l.drop q)).1))).2) := by
  rw [hI, skipN_go _ h0 h1, List.drop_drop]
  congr 1
  show _ + (_ + _) = _
  omega
set_option maxHeartbeats 1000000 in
/-- Past all gaps. -/
theorem pass_any (w0 w : World) (b k : Nat) (s : ByteArray) (hs : s.size ≤ 4000000000) (h : IsRd w b s k) (hL : Laid w0) (hB : Below w0.heap.size w0 w) (hb : w0.heap.size ≤ b) : Calls Tryd.prog 23 #[.pointer (some ⟨b, 0, none⟩)] w fun e w' => e = .returned (.bool (skipN (s.data.toList.drop k)).2) ∧ IsRd w' b s (k + (skipN (s.data.toList.drop k)).1) ∧ Chg [b] w w' := by
  have H := Lib.hid h
  have HB := Lib.hid hB
  have HL := Lib.hid hL
  clear h hB hL
  go_enter Tryd.func23, Tryd.ntmps23
  go_wp2
  go_loopg [3] (s.size - k + 1) (fun kx s3 wr => ∃ q : Nat, Hid (IsRd wr b s q ∧ Chg [b] w wr ∧ k ≤ q ∧ skipN (s.data.toList.drop k) = (q - k + (skipN (s.data.toList.drop q)).1, (skipN (s.data.toList.drop q)).2)) ∧ s.size - q + 1 ≤ kx)
  case atStart => exact ⟨k, Lib.hid ⟨H.out, Chg.refl _ _, Nat.le_refl _, by rw [Nat.sub_self, Nat.zero_add]⟩, Nat.le_refl _⟩
  case round =>
    obtain ⟨q, HI, hm⟩ := hrel
    have HR := Lib.hid (rest_any wr b q s hs HI.out.1)
    have hq := HI.out.1.le
    have hts : (s.extract q s.size).size ≤ 4000000000 := by rw [ByteArray.size_extract]; omega
    have hg := gap_any (s.extract q s.size) hts wr.drew (HL.out.below (chg_env HB.out hb HI.out.2.1.drew))
    rw [Lib.extract_to_end] at hg
    have hle := gapN_le (s.data.toList.drop q)
    rw [List.length_drop, ba_length] at hle
    have HD := Lib.hid (read_any wr.drew b q (gapN (s.data.toList.drop q)).1 s hs HI.out.1.drew (by omega))
    have hdone := skip_done s.data.toList k q HI.out.2.2.2 HI.out.2.2.1
    have hon := skip_on s.data.toList k q HI.out.2.2.2 HI.out.2.2.1
    obtain ⟨n, hn⟩ : ∃ n, (gapN (s.data.toList.drop q)).1 = n := ⟨_, rfl⟩
    obtain ⟨e0, he0⟩ : ∃ e0, (gapN (s.data.toList.drop q)).2 = e0 := ⟨_, rfl⟩
    rw [hn] at hg HD hdone hon hle
    rw [he0] at hg hdone hon
    have HG := Lib.hid hg
    have HCW := Lib.hid HI.out.2.1
    have HKQ := Lib.hid HI.out.2.2.1
    clear hn he0 hts hg HI H HL
    by_cases hstop : n = 0 ∨ e0 = false
    · have HX := Lib.hid (hdone hstop)
      clear hon hdone
      have hcase : (((n : Int) == 0) = true) ∨ (((n : Int) == 0) = false ∧ e0 = false) := by
        by_cases h0 : n = 0
        · left; subst h0; rfl
        · right; exact ⟨by rw [beq_eq_false_iff_ne]; omega, by rcases hstop with h | h; exact absurd h h0; exact h⟩
      clear hstop
      rcases hcase with hn0 | ⟨hn0, rfl⟩
      all_goals
        go_wp2_with (first | (go_at_call 24; refine (HR.out).mono ?_; rintro e w' ⟨rfl, rfl⟩) | (go_at_call 38; refine HG.out.mono ?_; rintro e w' ⟨rfl, rfl⟩))
        refine HD.out.mono ?_
        rintro e W2 ⟨rfl, hI2, hC2⟩
        have HFIN : Hid (IsRd W2 b s (k + (skipN (s.data.toList.drop k)).1) ∧ Chg [b] w W2) := Lib.hid ⟨hI2.mk' HX.out.1, HCW.out.drew.trans hC2⟩
        clear hI2 hC2
        go_wp2
        go_ret
        exact ⟨ret_bool HX.out.2, HFIN.out.1, HFIN.out.2⟩
    · have h0 : n ≠ 0 := fun h => hstop (.inl h)
      obtain rfl : e0 = true := by cases e0 with | true => rfl | false => exact absurd (.inr rfl) hstop
      have HX := Lib.hid (hon h0 rfl)
      have hn0 : ((n : Int) == 0) = false := by rw [beq_eq_false_iff_ne]; omega
      clear hstop hon hdone
      go_wp2_with (first | (go_at_call 24; refine (HR.out).mono ?_; rintro e w' ⟨rfl, rfl⟩) | (go_at_call 38; refine HG.out.mono ?_; rintro e w' ⟨rfl, rfl⟩))
      refine HD.out.mono ?_
      rintro e W2 ⟨rfl, hI2, hC2⟩
      have HFIN : Hid (IsRd W2 b s (q + n) ∧ Chg [b] w W2) := Lib.hid ⟨hI2, HCW.out.drew.trans hC2⟩
      clear hI2 hC2
      go_wp2
      go_roundg (s.size - (q + n) + 1)
      case measure => omega
      case rel => exact ⟨q + n, Lib.hid ⟨HFIN.out.1, HFIN.out.2, by have := HKQ.out; omega, HX.out⟩, Nat.le_refl _⟩
end Go.Proofs.YtkpgkobhnldhpaaDoor
