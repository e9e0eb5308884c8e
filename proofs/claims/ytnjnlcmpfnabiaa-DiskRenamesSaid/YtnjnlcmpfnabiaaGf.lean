/-
  What the calls refuse, on a whole disk; Stop.
-/
import Derived.Test.YtnjnlcmpfnabiaaGc
namespace Go.Proofs.Ytnjnlcmpfnabiaa
open Go.RowKit Go.Maps
set_option linter.unusedVariables false
set_option maxRecDepth 100000

section
variable {w w' : World} {d : Nat} {own own' : Nat → Nat} {b : DBox} {F RA SA C : Option Addr} {fn fc rn rc sn sc cn cc : Nat} {fs css : List Value} {ps ss : List (ByteArray × Value)} {chl : List (List (ByteArray × Value))} {nm su : Value → Nat} {dt : Value → List Value}
theorem DiskIn.create_no (H : DiskIn w d own b F fn fc RA rn rc SA sn sc C cn cc fs ps ss css chl nm dt su) (hb : b.calls < 80000) (x : ByteArray) (hsz : x.size ≤ 1000000) (hE : beginE b [x] ≠ 0) :
    Calls Try.prog 18 #[.pointer (some ⟨d, 0, none⟩), .string x] w fun e w' => e = .returned (.int .i64 (beginE b [x])) ∧ Only own w own w' ∧ DiskIn w' d own (poweredB b) F fn fc RA rn rc SA sn sc C cn cc fs ps ss css chl nm dt su := by
  refine (create_err H.nowAt x hsz hE).mono ?_
  rintro e w' ⟨rfl, hD, hc⟩
  exact ⟨rfl, H.off1 hb hD hc⟩
theorem DiskIn.create_big (H : DiskIn w d own b F fn fc RA rn rc SA sn sc C cn cc fs ps ss css chl nm dt su) (hb : b.calls < 80000) (x : ByteArray) (hsz : x.size ≤ 1000000) (hE : beginE b [x] = 0) (hno : hasP ltS ps x = false) (hbig : 1024 ≤ rn) :
    Calls Try.prog 18 #[.pointer (some ⟨d, 0, none⟩), .string x] w fun e w' => e = .returned (.int .i64 2) ∧ Only own w own w' ∧ DiskIn w' d own (poweredB b) F fn fc RA rn rc SA sn sc C cn cc fs ps ss css chl nm dt su := by
  refine (Go.Proofs.Ytnjnlcmpfnabiaa.create_big H.nowAt x hsz hE hno hbig).mono ?_
  rintro e w' ⟨rfl, hD, hc⟩
  exact ⟨rfl, H.off1 hb hD hc⟩
theorem DiskIn.sync_no (H : DiskIn w d own b F fn fc RA rn rc SA sn sc C cn cc fs ps ss css chl nm dt su) (hb : b.calls < 80000) (x : ByteArray) (hsz : x.size ≤ 1000000) (hE : withE b [x] ps x ≠ 0) :
    Calls Try.prog 20 #[.pointer (some ⟨d, 0, none⟩), .string x] w fun e w' => e = .returned (.int .i64 (withE b [x] ps x)) ∧ Only own w own w' ∧ DiskIn w' d own (poweredB b) F fn fc RA rn rc SA sn sc C cn cc fs ps ss css chl nm dt su := by
  refine (Go.Proofs.Ytnjnlcmpfnabiaa.sync_no H.nowAt x hsz hE).mono ?_
  rintro e w' ⟨rfl, hD, hc⟩
  exact ⟨rfl, H.off1 hb hD hc⟩
theorem DiskIn.remove_no (H : DiskIn w d own b F fn fc RA rn rc SA sn sc C cn cc fs ps ss css chl nm dt su) (hb : b.calls < 80000) (x : ByteArray) (hsz : x.size ≤ 1000000) (hE : withE b [x] ps x ≠ 0) :
    Calls Try.prog 38 #[.pointer (some ⟨d, 0, none⟩), .string x] w fun e w' => e = .returned (.int .i64 (withE b [x] ps x)) ∧ Only own w own w' ∧ DiskIn w' d own (poweredB b) F fn fc RA rn rc SA sn sc C cn cc fs ps ss css chl nm dt su := by
  refine (Go.Proofs.Ytnjnlcmpfnabiaa.remove_no H.nowAt x hsz hE).mono ?_
  rintro e w' ⟨rfl, hD, hc⟩
  exact ⟨rfl, H.off1 hb hD hc⟩
theorem DiskIn.rename_no (H : DiskIn w d own b F fn fc RA rn rc SA sn sc C cn cc fs ps ss css chl nm dt su) (hb : b.calls < 80000) (x y : ByteArray) (hsz : x.size ≤ 1000000) (hsz2 : y.size ≤ 1000000) (hE : withE b [x, y] ps x ≠ 0) :
    Calls Try.prog 30 #[.pointer (some ⟨d, 0, none⟩), .string x, .string y] w fun e w' => e = .returned (.int .i64 (withE b [x, y] ps x)) ∧ Only own w own w' ∧ DiskIn w' d own (poweredB b) F fn fc RA rn rc SA sn sc C cn cc fs ps ss css chl nm dt su := by
  refine (Go.Proofs.Ytnjnlcmpfnabiaa.rename_no H.nowAt x y hsz hsz2 hE).mono ?_
  rintro e w' ⟨rfl, hD, hc⟩
  exact ⟨rfl, H.off1 hb hD hc⟩
theorem DiskIn.stop (H : DiskIn w d own b F fn fc RA rn rc SA sn sc C cn cc fs ps ss css chl nm dt su) (k : Int) (hk : k ≤ 9223372036854775807) :
    Calls Try.prog 31 #[.pointer (some ⟨d, 0, none⟩), .int .i64 k] w fun e w' => (∃ v, e = .returned v) ∧ Only own w own w' ∧ DiskIn w' d own { b with ahead := k } F fn fc RA rn rc SA sn sc C cn cc fs ps ss css chl nm dt su := by
  refine (dstop_any w d b H.box k).mono ?_
  rintro e w' ⟨he, hD, hc⟩
  exact ⟨he, Only.of_chg hc (fun k hk => by rw [List.mem_singleton] at hk; rw [hk, H.od]; exact .inl (by omega)), H.boxed hc _ hD rfl rfl rfl rfl rfl H.quota H.calls hk⟩
set_option maxHeartbeats 800000 in
theorem DiskIn.quotaTo (H : DiskIn w d own b F fn fc RA rn rc SA sn sc C cn cc fs ps ss css chl nm dt su) (n : Int) (hn : -9223372036854775808 ≤ n ∧ n ≤ 9223372036854775807) :
    Calls Try.prog 17 #[.pointer (some ⟨d, 0, none⟩), .int .i64 n] w fun e w' => (∃ v, e = .returned v) ∧ Only own w own w' ∧ DiskIn w' d own { b with quota := max n 0, full := false } F fn fc RA rn rc SA sn sc C cn cc fs ps ss css chl nm dt su := by
  obtain ⟨m, hm⟩ : ∃ m, max n 0 = m := ⟨_, rfl⟩
  have hm0 : 0 ≤ m ∧ m ≤ 9223372036854775807 := by omega
  rw [hm]
  have c5 : w.cell? ⟨d, 5, none⟩ = some (.int .i64 b.quota) := H.box.cell 5 _ rfl
  have f5 := H.box.free 5
  obtain ⟨wA, hwA⟩ : ∃ wA, w.setCell ⟨d, 5, none⟩ (.int .i64 m) = wA := ⟨_, rfl⟩
  have hDA : DBoxAt wA d { b with quota := m } := by rw [← hwA]; exact H.box.set 5 _ _ rfl
  have c6 : wA.cell? ⟨d, 6, none⟩ = some (.bool b.full) := hDA.cell 6 _ rfl
  have f6 := hDA.free 6
  obtain ⟨wB, hwB⟩ : ∃ wB, wA.setCell ⟨d, 6, none⟩ (.bool false) = wB := ⟨_, rfl⟩
  have hDB : DBoxAt wB d { b with quota := m, full := false } := by rw [← hwB]; exact hDA.set 6 _ _ rfl
  have hcB : Chg [d] w wB := by
    rw [← hwB, ← hwA]
    exact ((Chg.refl _ w).setCell d 5 _ (.inl (by simp))).setCell d 6 _ (.inl (by simp))
  have HEND := Lib.hid (And.intro (Only.of_chg (own := own) hcB (fun k hk => by rw [List.mem_singleton] at hk; rw [hk, H.od]; exact .inl (by omega))) (H.boxed hcB _ hDB rfl rfl rfl rfl rfl hm0 H.calls H.ahead))
  clear H hDA hDB hcB hm0
  go_enter Try.func17, Try.ntmps17
  go_wp2
  go_end0
  exact ⟨⟨_, rfl⟩, HEND.out⟩
end
end Go.Proofs.Ytnjnlcmpfnabiaa
