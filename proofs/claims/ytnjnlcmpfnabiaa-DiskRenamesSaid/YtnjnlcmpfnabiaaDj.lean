/-
  The contracts of the disk's Sync and Remove.
-/
import Derived.Test.YtnjnlcmpfnabiaaDe
import Derived.Test.YtnjnlcmpfnabiaaDh
import Derived.Test.YtnjnlcmpfnabiaaDi
namespace Go.Proofs.Ytnjnlcmpfnabiaa
open Go.RowKit
set_option linter.unusedVariables false
set_option maxRecDepth 100000

/-- A disk's box with its directory as it is. -/
structure NowAt (w : World) (d : Nat) (b : DBox) (RA : Option Addr) (rn rc : Nat) (ps : List (ByteArray × Value)) : Prop where
  box : DBoxAt w d b
  calls : 0 ≤ b.calls ∧ b.calls ≤ 1000000
  ahead : b.ahead ≤ 9223372036854775807
  now : b.now = .slice RA rn rc
  row : RowG encS ltS w RA rn rc ps
  apart : d ∉ blk RA
  len : rn ≤ 90000
theorem NowAt.below {w w' : World} {d : Nat} {b : DBox} {RA : Option Addr} {rn rc : Nat} {ps : List (ByteArray × Value)} (h : NowAt w d b RA rn rc ps) (hb : Below w.heap.size w w') : NowAt w' d b RA rn rc ps := ⟨h.box.below hb, h.calls, h.ahead, h.now, h.row.below hb, h.apart, h.len⟩
theorem names1 (w : World) (nm : ByteArray) (hsz : nm.size ≤ 1000000) : NamesAt (w.alloc (.cells #[.string nm] 9)) (some ⟨w.heap.size, 0, none⟩) 1 [nm] := by
  refine ⟨rfl, fun s hs => by simp only [List.mem_singleton] at hs; rw [hs]; exact hsz, fun _ => ⟨w.heap.size, 0, rfl, by simp, fun j s hj => ?_⟩⟩
  have hjl := (List.getElem?_eq_some_iff.1 hj).1
  simp only [List.length_cons, List.length_nil] at hjl
  obtain rfl : j = 0 := by omega
  simp only [List.getElem?_cons_zero, Option.some.injEq] at hj
  subst hj
  exact cell_of_one (heap_alloc_new w _)
theorem names2 (w : World) (nm nm2 : ByteArray) (hsz : nm.size ≤ 1000000) (hsz2 : nm2.size ≤ 1000000) : NamesAt (w.alloc (.cells #[.string nm, .string nm2] 9)) (some ⟨w.heap.size, 0, none⟩) 2 [nm, nm2] := by
  refine ⟨rfl, fun s hs => by simp only [List.mem_cons, List.not_mem_nil, or_false] at hs; rcases hs with rfl | rfl <;> assumption, fun _ => ⟨w.heap.size, 0, rfl, by simp, fun j s hj => ?_⟩⟩
  have hjl := (List.getElem?_eq_some_iff.1 hj).1
  simp only [List.length_cons, List.length_nil] at hjl
  rw [cell_of_row _ w.heap.size (0 + j) _ _ (0, 0) (heap_alloc_new w _)]
  rcases (by omega : j = 0 ∨ j = 1) with rfl | rfl
  · simp only [List.getElem?_cons_zero, Option.some.injEq] at hj
    subst hj
    rfl
  · simp only [List.getElem?_cons_succ, List.getElem?_cons_zero, Option.some.injEq] at hj
    subst hj
    rfl
section
variable {w : World} {d : Nat} {b : DBox} {RA : Option Addr} {rn rc : Nat} {ps : List (ByteArray × Value)}
theorem with1 (H : NowAt w d b RA rn rc ps) (nm : ByteArray) (hsz : nm.size ≤ 1000000) :
    Calls Try.prog 49 #[.pointer (some ⟨d, 0, none⟩), .slice (some ⟨w.heap.size, 0, none⟩) 1 1] (w.alloc (.cells #[.string nm] 9)) fun e w' => e = .returned (.tuple #[withF b [nm] ps nm, .int .i64 (withE b [nm] ps nm)]) ∧ DBoxAt w' d (poweredB b) ∧ Chg [d] w w' := by
  have hb : Below w.heap.size w (w.alloc (.cells #[.string nm] 9)) := (Below.refl _ w).alloc (Nat.le_refl _) _
  have hd := H.box.lt
  refine (beginWith_any _ d b (H.box.below hb) H.calls H.ahead _ 1 1 [nm] (names1 w nm hsz) (by omega) (fun hm => by obtain ⟨ad, ea, he⟩ := mem_blk.1 hm; cases ea; dsimp only at he; omega) nm rfl RA rn rc H.now ps (H.row.below hb) H.apart (by have := H.len; omega)).mono ?_
  rintro e w' ⟨he, hx, hc⟩
  exact ⟨he, hx, (Chg.of_below hb).trans hc⟩
theorem with2 (H : NowAt w d b RA rn rc ps) (nm nm2 : ByteArray) (hsz : nm.size ≤ 1000000) (hsz2 : nm2.size ≤ 1000000) :
    Calls Try.prog 49 #[.pointer (some ⟨d, 0, none⟩), .slice (some ⟨w.heap.size, 0, none⟩) 2 2] (w.alloc (.cells #[.string nm, .string nm2] 9)) fun e w' => e = .returned (.tuple #[withF b [nm, nm2] ps nm, .int .i64 (withE b [nm, nm2] ps nm)]) ∧ DBoxAt w' d (poweredB b) ∧ Chg [d] w w' := by
  have hb : Below w.heap.size w (w.alloc (.cells #[.string nm, .string nm2] 9)) := (Below.refl _ w).alloc (Nat.le_refl _) _
  have hd := H.box.lt
  refine (beginWith_any _ d b (H.box.below hb) H.calls H.ahead _ 2 2 [nm, nm2] (names2 w nm nm2 hsz hsz2) (by omega) (fun hm => by obtain ⟨ad, ea, he⟩ := mem_blk.1 hm; cases ea; dsimp only at he; omega) nm rfl RA rn rc H.now ps (H.row.below hb) H.apart (by have := H.len; omega)).mono ?_
  rintro e w' ⟨he, hx, hc⟩
  exact ⟨he, hx, (Chg.of_below hb).trans hc⟩
theorem withE_cases (b : DBox) (ns : List ByteArray) (ps : List (ByteArray × Value)) (nm : ByteArray) : withE b ns ps nm = 0 ∨ withE b ns ps nm = 1 ∨ withE b ns ps nm = 3 ∨ withE b ns ps nm = 5 := by
  unfold withE
  rcases beginE_cases b ns with h | h | h
  · rw [h]
    split
    · split
      · exact .inl rfl
      · exact .inr (.inr (.inl rfl))
    · exact .inl rfl
  · rw [h]
    exact .inr (.inl rfl)
  · rw [h]
    exact .inr (.inr (.inr rfl))
set_option maxHeartbeats 800000 in
theorem sync_no (H : NowAt w d b RA rn rc ps) (nm : ByteArray) (hsz : nm.size ≤ 1000000) (hE : withE b [nm] ps nm ≠ 0) :
    Calls Try.prog 20 #[.pointer (some ⟨d, 0, none⟩), .string nm] w fun e w' => e = .returned (.int .i64 (withE b [nm] ps nm)) ∧ DBoxAt w' d (poweredB b) ∧ Chg [d] w w' := by
  have HW := Lib.hid (with1 H nm hsz)
  have hF : withF b [nm] ps nm = .pointer none := by unfold withF; rw [if_neg hE]
  rw [hF] at HW
  obtain ⟨E, hEE⟩ : ∃ E, withE b [nm] ps nm = E := ⟨_, rfl⟩
  rw [hEE] at HW hE ⊢
  clear hEE hF H
  have hEb : (E == 0) = false := by simpa using hE
  go_enter Try.func20, Try.ntmps20
  go_wp2_with fail
  refine HW.out.mono ?_
  rintro e w1 ⟨rfl, hd1, hc1⟩
  have HX := Lib.hid (And.intro hd1 hc1)
  clear hd1 hc1
  go_wp2
  go_ret
  exact ⟨rfl, HX.out⟩
set_option maxHeartbeats 800000 in
theorem remove_no (H : NowAt w d b RA rn rc ps) (nm : ByteArray) (hsz : nm.size ≤ 1000000) (hE : withE b [nm] ps nm ≠ 0) :
    Calls Try.prog 38 #[.pointer (some ⟨d, 0, none⟩), .string nm] w fun e w' => e = .returned (.int .i64 (withE b [nm] ps nm)) ∧ DBoxAt w' d (poweredB b) ∧ Chg [d] w w' := by
  have HW := Lib.hid (with1 H nm hsz)
  have hF : withF b [nm] ps nm = .pointer none := by unfold withF; rw [if_neg hE]
  rw [hF] at HW
  obtain ⟨E, hEE⟩ : ∃ E, withE b [nm] ps nm = E := ⟨_, rfl⟩
  rw [hEE] at HW hE ⊢
  clear hEE hF H
  have hEb : (E == 0) = false := by simpa using hE
  go_enter Try.func38, Try.ntmps38
  go_wp2_with fail
  refine HW.out.mono ?_
  rintro e w1 ⟨rfl, hd1, hc1⟩
  have HX := Lib.hid (And.intro hd1 hc1)
  clear hd1 hc1
  go_wp2
  go_ret
  exact ⟨rfl, HX.out⟩
set_option maxHeartbeats 800000 in
theorem rename_no (H : NowAt w d b RA rn rc ps) (nm nm2 : ByteArray) (hsz : nm.size ≤ 1000000) (hsz2 : nm2.size ≤ 1000000) (hE : withE b [nm, nm2] ps nm ≠ 0) :
    Calls Try.prog 30 #[.pointer (some ⟨d, 0, none⟩), .string nm, .string nm2] w fun e w' => e = .returned (.int .i64 (withE b [nm, nm2] ps nm)) ∧ DBoxAt w' d (poweredB b) ∧ Chg [d] w w' := by
  have HW := Lib.hid (with2 H nm nm2 hsz hsz2)
  have hF : withF b [nm, nm2] ps nm = .pointer none := by unfold withF; rw [if_neg hE]
  rw [hF] at HW
  obtain ⟨E, hEE⟩ : ∃ E, withE b [nm, nm2] ps nm = E := ⟨_, rfl⟩
  rw [hEE] at HW hE ⊢
  clear hEE hF H
  have hEb : (E == 0) = false := by simpa using hE
  go_enter Try.func30, Try.ntmps30
  go_wp2_with fail
  refine HW.out.mono ?_
  rintro e w1 ⟨rfl, hd1, hc1⟩
  have HX := Lib.hid (And.intro hd1 hc1)
  clear hd1 hc1
  go_wp2
  go_ret
  exact ⟨rfl, HX.out⟩
set_option maxHeartbeats 800000 in
theorem sync_yes (H : NowAt w d b RA rn rc ps) (nm : ByteArray) (hsz : nm.size ≤ 1000000) (hE : withE b [nm] ps nm = 0) (f num : Nat) (hF : withF b [nm] ps nm = .pointer (some ⟨f, 0, none⟩)) (A : Option Addr) (n c sure : Nat) (hfile : FileAt w f num A n c sure) (hfd : f ≠ d) :
    Calls Try.prog 20 #[.pointer (some ⟨d, 0, none⟩), .string nm] w fun e w' => e = .returned (.int .i64 0) ∧ DBoxAt w' d (poweredB b) ∧ FileAt w' f num A n c n ∧ Chg [d, f] w w' := by
  have HW := Lib.hid (with1 H nm hsz)
  rw [hF, hE] at HW
  have HFI := Lib.hid hfile
  clear hE hF H hfile
  go_enter Try.func20, Try.ntmps20
  go_wp2_with fail
  refine HW.out.mono ?_
  rintro e w1 ⟨rfl, hd1, hc1⟩
  have hf1 := HFI.out.same (hc1.same f (lt_of_block HFI.out) (by simp only [List.mem_singleton]; exact hfd))
  have c1 := hf1.c1
  have c2 := hf1.c2
  have e2 := hf1.free 2
  have HX : Hid (DBoxAt (w1.setCell ⟨f, 2, none⟩ (.int .i64 (n : Int))) d (poweredB b) ∧ FileAt (w1.setCell ⟨f, 2, none⟩ (.int .i64 (n : Int))) f num A n c n ∧ Chg [d, f] w (w1.setCell ⟨f, 2, none⟩ (.int .i64 (n : Int)))) :=
    Lib.hid ⟨(heap_setCell_other w1 ⟨f, 2, none⟩ d _ (fun e => hfd e.symm)).trans hd1, hf1.setSure n, (hc1.weaken (fun k hk => .inl (by rw [List.mem_singleton] at hk; rw [hk]; simp))).setCell f 2 _ (.inl (by simp))⟩
  clear hd1 hc1 hf1
  go_wp2
  go_ret
  exact ⟨rfl, HX.out⟩
end
end Go.Proofs.Ytnjnlcmpfnabiaa
