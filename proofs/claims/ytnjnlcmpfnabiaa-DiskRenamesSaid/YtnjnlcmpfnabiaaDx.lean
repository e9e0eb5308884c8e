/-
  The contract of the disk's SyncDir.
-/
import Derived.Test.YtnjnlcmpfnabiaaDw
import Derived.Test.YtnjnlcmpfnabiaaDj
namespace Go.Proofs.Ytnjnlcmpfnabiaa
open Go.RowKit Go.Maps
set_option linter.unusedVariables false
set_option maxRecDepth 100000

theorem powered_calls (b : DBox) : b.calls ≤ (poweredB b).calls ∧ (poweredB b).calls ≤ b.calls + 1 := by unfold poweredB; split; omega; split; simp only; omega; split <;> (simp only; omega)
theorem powered_ahead (b : DBox) : (poweredB b).ahead ≤ b.ahead := by unfold poweredB; split; omega; split; simp only; omega; split <;> (simp only; omega)
theorem names0 (w : World) : NamesAt w none 0 [] := ⟨rfl, fun s hs => (by cases hs), fun h => (by omega)⟩
section
variable {w w' : World} {d : Nat} {own own' : Nat → Nat} {b : DBox} {F RA SA C : Option Addr} {fn fc rn rc sn sc cn cc : Nat} {fs css : List Value} {ps ss : List (ByteArray × Value)} {chl : List (List (ByteArray × Value))} {nm su : Value → Nat} {dt : Value → List Value}
theorem DiskIn.powered (H : DiskIn w d own b F fn fc RA rn rc SA sn sc C cn cc fs ps ss css chl nm dt su) (hb : b.calls < 80000) (hD : DBoxAt w' d (poweredB b)) (hc : Chg [d] w w') : DiskIn w' d own (poweredB b) F fn fc RA rn rc SA sn sc C cn cc fs ps ss css chl nm dt su :=
  H.boxed hc _ hD (powered_files b) (powered_now b) (powered_sure b) (powered_changes b) (powered_made b) (by rw [powered_quota]; exact H.quota) (by have := powered_calls b; have := H.calls; omega) (by have := powered_ahead b; have := H.ahead; omega)
set_option maxHeartbeats 1600000 in
theorem DiskIn.syncDir_off (H : DiskIn w d own b F fn fc RA rn rc SA sn sc C cn cc fs ps ss css chl nm dt su) (hb : b.calls < 80000) (hp : powerB b = false) :
    Calls Try.prog 21 #[.pointer (some ⟨d, 0, none⟩)] w fun e w' => e = .returned (.int .i64 5) ∧ Only own w own w' ∧ DiskIn w' d own (poweredB b) F fn fc RA rn rc SA sn sc C cn cc fs ps ss css chl nm dt su := by
  have hE : beginE b [] = 5 := by unfold beginE; rw [hp]; rfl
  have HB := Lib.hid (begin_any w d b H.box (by have := H.calls; omega) H.ahead none 0 0 [] (names0 w) (by omega) (by simp [blk]))
  rw [hE] at HB
  have HH := Lib.hid (And.intro H hb)
  clear H hb hp hE
  go_enter Try.func21, Try.ntmps21
  go_wp2_with fail
  refine HB.out.mono ?_
  rintro e w1 ⟨rfl, hd1, hc1⟩
  have HX := Lib.hid (And.intro (Only.of_chg (own := own) hc1 (fun k hk => by rw [List.mem_singleton] at hk; rw [hk, HH.out.1.od]; exact .inl (by omega))) (HH.out.1.powered HH.out.2 hd1 hc1))
  clear hd1 hc1
  go_wp2
  go_ret
  exact ⟨rfl, HX.out⟩
set_option maxHeartbeats 1600000 in
theorem DiskIn.syncDir_on (H : DiskIn w d own b F fn fc RA rn rc SA sn sc C cn cc fs ps ss css chl nm dt su) (hb : b.calls < 80000) (hp : powerB b = true) :
    Calls Try.prog 21 #[.pointer (some ⟨d, 0, none⟩)] w fun e w' => e = .returned (.int .i64 0) ∧ ∃ own' A2 n2 c2 A3 n3 c3 kf, Only own w own' w' ∧ DiskIn w' d own' { poweredB b with files := .slice F kf fc, now := .slice A3 n3 c3, sure := .slice A2 n2 c2, changes := .slice none 0 0 } F kf fc A3 n3 c3 A2 n2 c2 none 0 0 (fs.filter (keepV nm (ps.map fun p => nm p.2))) ps ps [] [] nm dt su := by
  have hE : beginE b [] = 0 := by unfold beginE; rw [hp]; rfl
  have HB := Lib.hid (begin_any w d b H.box (by have := H.calls; omega) H.ahead none 0 0 [] (names0 w) (by omega) (by simp [blk]))
  rw [hE] at HB
  have HH := Lib.hid (And.intro H hb)
  clear H hb hp hE
  go_enter Try.func21, Try.ntmps21
  go_wp2_with fail
  refine HB.out.mono ?_
  rintro e w1 ⟨rfl, hd1, hc1⟩
  have h1 := HH.out.1.powered HH.out.2 hd1 hc1
  have ho := Only.of_chg (own := own) hc1 (fun k hk => by rw [List.mem_singleton] at hk; rw [hk, HH.out.1.od]; exact .inl (by omega))
  have c4 : w1.cell? ⟨d, 4, none⟩ = some (poweredB b).changes := h1.box.cell 4 _ rfl
  rw [h1.changes] at c4
  have hcl : chl.take cn = chl := List.take_of_length_le (by have := h1.cline.1; have := h1.chs.1; omega)
  have HS := Lib.hid (h1.settle cn (Nat.le_refl _))
  rw [hcl, ← h1.lay] at HS
  have HO := Lib.hid ho
  clear h1 ho hd1 hc1 hcl
  go_wp2_with fail
  refine HS.out.mono ?_
  rintro e w2 ⟨⟨v, rfl⟩, own', A2, n2, c2, A3, n3, c3, kf, h2, h3⟩
  have HX := Lib.hid (And.intro (HO.out.trans h2) h3)
  clear h2 h3
  go_wp2
  go_ret
  exact ⟨rfl, own', A2, n2, c2, A3, n3, c3, kf, HX.out⟩
end
end Go.Proofs.Ytnjnlcmpfnabiaa
