/-
  The contracts of the disk's names and Read.
-/
import Derived.Test.YtnjnlcmpfnabiaaDk
namespace Go.Proofs.Ytnjnlcmpfnabiaa
open Go.RowKit
set_option linter.unusedVariables false
set_option maxRecDepth 100000

theorem dnames_any (w : World) (d : Nat) : Calls Try.prog 50 #[.pointer (some ⟨d, 0, none⟩)] w fun e w' => e = .returned (.pointer (some ⟨d, 2, none⟩)) ∧ w = w' := by
  go_enter Try.func50, Try.ntmps50
  go_wp2
  go_ret
  exact ⟨rfl, rfl⟩
theorem dnames_nil (w : World) : Calls Try.prog 50 #[.pointer none] w fun e w' => e = .returned (.pointer none) ∧ w = w' := by
  go_enter Try.func50, Try.ntmps50
  go_wp2
  go_ret
  exact ⟨rfl, rfl⟩
section
variable {w : World} {d : Nat} {b : DBox} {RA : Option Addr} {rn rc : Nat} {ps : List (ByteArray × Value)}
theorem NowAt.rowAt (H : NowAt w d b RA rn rc ps) : RowAtS w d 2 RA rn rc ps := by
  refine ⟨?_, H.row⟩
  have hc : w.cell? ⟨d, 2, none⟩ = some b.now := H.box.cell 2 _ rfl
  rw [hc, H.now]
set_option maxHeartbeats 800000 in
theorem read_no (H : NowAt w d b RA rn rc ps) (nm : ByteArray) (hno : hasP ltS ps nm = false) :
    Calls Try.prog 22 #[.pointer (some ⟨d, 0, none⟩), .string nm] w fun e w' => e = .returned (.tuple #[.slice none 0 0, .int .i64 3]) ∧ Below w.heap.size w w' := by
  have HN := Lib.hid (dnames_any w d)
  have HGET := Lib.hid (rget_S w d 2 RA rn rc ps H.rowAt nm (by have := H.len; omega))
  have hl : lookP ltS ps nm = none := by unfold hasP at hno; cases h : lookP ltS ps nm with | none => rfl | some _ => rw [h] at hno; cases hno
  rw [hno, hl] at HGET
  clear H hno hl
  go_enter Try.func22, Try.ntmps22
  go_wp2_with (first
    | (go_at_call 50; refine HN.out.mono ?_; rintro e w1 ⟨rfl, rfl⟩)
    | (go_at_call 46; refine HGET.out.mono ?_; rintro e w2 ⟨rfl, hb⟩; have HB := Lib.hid hb; clear hb))
  go_ret2
  exact ⟨rfl, HB.out⟩
set_option maxHeartbeats 800000 in
theorem read_yes (H : NowAt w d b RA rn rc ps) (nm : ByteArray) (f num : Nat) (hl : lookP ltS ps nm = some (.pointer (some ⟨f, 0, none⟩))) (A : Option Addr) (n c sure : Nat) (xs : List Value) (hfile : FileAt w f num A n c sure) (hline : SLine 1 w A n c xs) (hn : n ≤ 10000000) (h1 : ∀ u ∈ xs, u.oneCell' = true) :
    Calls Try.prog 22 #[.pointer (some ⟨d, 0, none⟩), .string nm] w fun e w' => ∃ A' c', e = .returned (.tuple #[.slice A' n c', .int .i64 0]) ∧ SLine 1 w' A' n c' xs ∧ (∀ k ∈ blk A', w.heap.size ≤ k) ∧ Below w.heap.size w w' := by
  have HN := Lib.hid (dnames_any w d)
  have HGET := Lib.hid (rget_S w d 2 RA rn rc ps H.rowAt nm (by have := H.len; omega))
  have hh : hasP ltS ps nm = true := by unfold hasP; rw [hl]; rfl
  rw [hh, hl] at HGET
  simp only [Option.getD_some] at HGET
  have HF := Lib.hid (And.intro hfile hline)
  have H1 := Lib.hid h1
  clear H hh hl hfile hline h1
  go_enter Try.func22, Try.ntmps22
  go_wp2_with (first
    | (go_at_call 50; refine HN.out.mono ?_; rintro e w1 ⟨rfl, rfl⟩)
    | (go_at_call 46; refine HGET.out.mono ?_; rintro e w2 ⟨rfl, hb⟩; have HB := Lib.hid hb; have hf2 := HF.out.1.same (hb.block f (lt_of_block HF.out.1)); have c1 := hf2.c1; have HCL := Lib.hid (cloneB w2 A n c xs (HF.out.2.below hb) hn H1.out); clear hb hf2)
    | (go_at_call 51; refine HCL.out.mono ?_; rintro e w3 ⟨⟨A', c', rfl, hl3, hf3⟩, hb3⟩; have HX := Lib.hid (And.intro hl3 (And.intro hf3 hb3)); clear hl3 hf3 hb3))
  go_ret2
  exact ⟨A', c', rfl, HX.out.1, fun k hk => Nat.le_trans HB.out.size (HX.out.2.1 k hk), HB.out.trans (HX.out.2.2.mono HB.out.size)⟩
end
end Go.Proofs.Ytnjnlcmpfnabiaa
