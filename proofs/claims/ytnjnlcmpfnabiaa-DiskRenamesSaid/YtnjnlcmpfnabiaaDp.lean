/-
  The contract of the disk's Append, where it adds nothing.
-/
import Derived.Test.YtnjnlcmpfnabiaaDo
namespace Go.Proofs.Ytnjnlcmpfnabiaa
open Go.RowKit
set_option linter.unusedVariables false
set_option maxRecDepth 100000

section
variable {w : World} {d : Nat} {b : DBox} {RA : Option Addr} {rn rc : Nat} {ps : List (ByteArray × Value)}
set_option maxHeartbeats 800000 in
theorem append_no (H : NowAt w d b RA rn rc ps) (nm : ByteArray) (hsz : nm.size ≤ 1000000) (hE : withE b [nm] ps nm ≠ 0) (BA : Option Addr) (bn bc : Nat) :
    Calls Try.prog 19 #[.pointer (some ⟨d, 0, none⟩), .string nm, .slice BA bn bc] w fun e w' => e = .returned (.int .i64 (withE b [nm] ps nm)) ∧ DBoxAt w' d (poweredB b) ∧ Chg [d] w w' := by
  have HW := Lib.hid (with1 H nm hsz)
  have hF : withF b [nm] ps nm = .pointer none := by unfold withF; rw [if_neg hE]
  rw [hF] at HW
  obtain ⟨E, hEE⟩ : ∃ E, withE b [nm] ps nm = E := ⟨_, rfl⟩
  rw [hEE] at HW hE ⊢
  clear hEE hF H
  have hEb : (E == 0) = false := by simpa using hE
  go_enter Try.func19, Try.ntmps19
  go_wp2_with fail
  refine HW.out.mono ?_
  rintro e w1 ⟨rfl, hd1, hc1⟩
  have HX := Lib.hid (And.intro hd1 hc1)
  clear hd1 hc1
  go_wp2
  go_ret
  exact ⟨rfl, HX.out⟩
set_option maxHeartbeats 800000 in
theorem append_big (H : NowAt w d b RA rn rc ps) (nm : ByteArray) (hsz : nm.size ≤ 1000000) (hE : withE b [nm] ps nm = 0) (f num : Nat) (hF : withF b [nm] ps nm = .pointer (some ⟨f, 0, none⟩)) (A : Option Addr) (n c sure : Nat) (hfile : FileAt w f num A n c sure) (hfd : f ≠ d) (BA : Option Addr) (bn bc : Nat) (hn : n ≤ 10000000) (hbn : bn ≤ 10000000) (hbig : 1048576 < n + bn) :
    Calls Try.prog 19 #[.pointer (some ⟨d, 0, none⟩), .string nm, .slice BA bn bc] w fun e w' => e = .returned (.int .i64 2) ∧ DBoxAt w' d (poweredB b) ∧ Chg [d] w w' := by
  have HW := Lib.hid (with1 H nm hsz)
  rw [hF, hE] at HW
  have HFI := Lib.hid hfile
  have hbig' : (1048576 : Int) < (n : Int) + (bn : Int) := by omega
  clear hE hF H hfile hbig
  go_enter Try.func19, Try.ntmps19
  go_wp2_with fail
  refine HW.out.mono ?_
  rintro e w1 ⟨rfl, hd1, hc1⟩
  have c1 := (HFI.out.same (hc1.same f (lt_of_block HFI.out) (by simp only [List.mem_singleton]; exact hfd))).c1
  have HX := Lib.hid (And.intro hd1 hc1)
  clear hd1 hc1
  go_wp2
  go_ret
  exact ⟨rfl, HX.out⟩
set_option maxHeartbeats 1600000 in
theorem append_full (H : NowAt w d b RA rn rc ps) (nm : ByteArray) (hsz : nm.size ≤ 1000000) (hE : withE b [nm] ps nm = 0) (f num : Nat) (hF : withF b [nm] ps nm = .pointer (some ⟨f, 0, none⟩)) (A : Option Addr) (n c sure : Nat) (hfile : FileAt w f num A n c sure) (hfd : f ≠ d) (BA : Option Addr) (bn bc : Nat) (hn : n ≤ 10000000) (hbn : bn ≤ 10000000) (hsmall : n + bn ≤ 1048576)
    (ln : Value → Nat) (hfs : FilesIn w ln ps) (hfsd : ∀ p ∈ ps, p.2 ≠ .pointer (some ⟨d, 0, none⟩)) (hsum : sumLen ln ps ≤ 1000000000000) (hfull : b.quota < (sumLen ln ps : Int) + (bn : Int)) :
    Calls Try.prog 19 #[.pointer (some ⟨d, 0, none⟩), .string nm, .slice BA bn bc] w fun e w' => e = .returned (.int .i64 4) ∧ DBoxAt w' d { poweredB b with full := true } ∧ Chg [d] w w' := by
  have HW := Lib.hid (with1 H nm hsz)
  rw [hF, hE] at HW
  have HFI := Lib.hid hfile
  have hsm : (n : Int) + (bn : Int) ≤ 1048576 := by omega
  have HUS : Hid (∀ w1 W : World, DBoxAt w1 d (poweredB b) → Chg [d] w w1 → W.heap = w1.heap → Calls Try.prog 35 #[.pointer (some ⟨d, 0, none⟩)] W fun e w' => e = .returned (.int .i64 (sumLen ln ps : Int)) ∧ Below W.heap.size W w') := Lib.hid fun w1 W h1 hc hW => by
    have hc2 : w1.cell? ⟨d, 2, none⟩ = some (poweredB b).now := h1.cell 2 _ rfl
    rw [powered_now, H.now] at hc2
    refine used_any W d RA rn rc ps ⟨(World.cell?_of_block (w := w1) (a := ⟨d, 2, none⟩) (by rw [hW])).trans hc2, (H.row.chg hc (fun k hk hm => by rw [List.mem_singleton] at hm; rw [hm] at hk; exact H.apart hk)).same (by rw [hW]; exact Nat.le_refl _) (fun k _ => by rw [hW])⟩ (by have := H.len; omega) ln (fun p hp => ?_) hsum
    obtain ⟨g, gn, gA, gc, gs, he, hg⟩ := hfs p hp
    refine ⟨g, gn, gA, gc, gs, he, hg.same ((congrArg (·[g]?) hW).trans (hc.same g (lt_of_block hg) ?_))⟩
    rw [List.mem_singleton]
    rintro rfl
    exact hfsd p hp he
  obtain ⟨S, hS⟩ : ∃ S, sumLen ln ps = S := ⟨_, rfl⟩
  rw [hS] at HUS hfull hsum
  have HQ : Hid ((poweredB b).quota = b.quota) := Lib.hid (powered_quota b)
  obtain ⟨q, hq⟩ : ∃ q, b.quota = q := ⟨_, rfl⟩
  rw [hq] at HQ hfull
  obtain ⟨b2, hb2⟩ : ∃ b2, poweredB b = b2 := ⟨_, rfl⟩
  rw [hb2] at HW HUS HQ
  rw [hb2]
  have hSb : (S : Int) + (bn : Int) ≤ 2000000000000 := by omega
  clear hE hF H hfile hfs hfsd hsmall hS hq hb2 hsum
  go_enter Try.func19, Try.ntmps19
  go_wp2_with fail
  refine HW.out.mono ?_
  rintro e w1 ⟨rfl, hd1, hc1⟩
  have c1 := (HFI.out.same (hc1.same f (lt_of_block HFI.out) (by simp only [List.mem_singleton]; exact hfd))).c1
  have c5 : w1.cell? ⟨d, 5, none⟩ = some (.int .i64 b2.quota) := hd1.cell 5 _ rfl
  rw [HQ.out] at c5
  have HU := Lib.hid (fun W hW => HUS.out w1 W hd1 hc1 hW)
  have HX := Lib.hid (And.intro hd1 hc1)
  clear hd1 hc1 HUS HW
  go_wp2_with fail
  have HQC : Hid (∀ W, DBoxAt W d b2 → W.cell? ⟨d, 5, none⟩ = some (.int .i64 q)) := Lib.hid fun W h => by have h5 : W.cell? ⟨d, 5, none⟩ = some (.int .i64 b2.quota) := h.cell 5 _ rfl; rw [HQ.out] at h5; exact h5
  go_region_with (go_at_call 35; go_loud (refine (HU.out w1.drew rfl).mono ?_; rintro e w2 ⟨rfl, hB⟩; have HD2 : Hid (DBoxAt w2 d b2 ∧ Chg [d] w w2) := Lib.hid ⟨(hB.block d (show d < w1.heap.size from HX.out.1.lt)).trans HX.out.1, HX.out.2.drew.trans (Chg.of_below hB)⟩; have c5' := HQC.out w2 HD2.out.1; clear hB))
  all_goals
    have hwr : IntKind.i64.wrap ((S : Int) + (bn : Int)) = (S : Int) + (bn : Int) := by rw [IntKind.wrap_i64]; omega
    have hdf : decide (q < IntKind.i64.wrap ((S : Int) + (bn : Int))) = true := by rw [hwr]; exact decide_eq_true hfull
    have c6 : w2.cell? ⟨d, 6, none⟩ = some (.bool b2.full) := HD2.out.1.cell 6 _ rfl
    have f6 : w2.frozen? ⟨d, 6, none⟩ = false := HD2.out.1.free 6
    have HX2 : Hid (DBoxAt (w2.setCell ⟨d, 6, none⟩ (.bool true)) d { b2 with full := true } ∧ Chg [d] w (w2.setCell ⟨d, 6, none⟩ (.bool true))) := Lib.hid ⟨HD2.out.1.set 6 (.bool true) _ rfl, HD2.out.2.setCell d 6 _ (.inl (by simp))⟩
    go_wp2
    go_ret
    exact ⟨rfl, HX2.out⟩
end
end Go.Proofs.Ytnjnlcmpfnabiaa
