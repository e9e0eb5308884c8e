/- The contracts of the disk's Sync and Remove. -/
import Derived.Test.YtdjnebgjdekmaaaGreatDoorZap
import Derived.Test.YtdjnebgjdekmaaaGreatDoorZar
import Derived.Test.YtdjnebgjdekmaaaGreatDoorZaj
set_option linter.unusedVariables false
set_option maxRecDepth 100000
namespace Go.Proofs.YtdjnebgjdekmaaaGreatDoor
open Go.RowKit
structure NowAt (w : World) (d : Nat) (b : DBox) (RA : Option Addr) (rn rc : Nat) (ps : List (ByteArray × Value)) : Prop where
 box : DBoxAt w d b
 calls : 0 ≤ b.calls ∧ b.calls ≤ 1000000
 ahead : b.ahead ≤ 9223372036854775807
 now : b.now = .slice RA rn rc
 row : RowG encS ltS w RA rn rc ps
 apart : d ∉ blk RA
 len : rn ≤ 90000
theorem names1 (w : World) (nm : ByteArray) (hsz : nm.size ≤ 1000000) : NamesAt (w.alloc (.cells #[.string nm] 9)) (some ⟨w.heap.size, 0, none⟩) 1 [nm] := by
 refine ⟨rfl, fun s hs => by simp only [List.mem_singleton] at hs; rw [hs]; exact hsz, fun _ => ⟨w.heap.size, 0, rfl, by simp, fun j s hj => ?_⟩⟩
 have hjl := (List.getElem?_eq_some_iff.1 hj).1
 simp only [List.length_cons, List.length_nil] at hjl
 obtain rfl : j = 0 := by omega
 simp only [List.getElem?_cons_zero, Option.some.injEq] at hj
 subst hj
 exact cell_of_one (heap_alloc_new w _)
theorem names2 (w : World) (nm nm2 : ByteArray) (hsz : nm.size ≤ 1000000) (hsz2 : nm2.size ≤ 1000000) : NamesAt (w.alloc (.cells #[.string nm, .string nm2] 9)) (some ⟨w.heap.size, 0, none⟩) 2 [nm, nm2] := by
 refine ⟨rfl, fun s hs => by simp only [List.mem_cons, List.not_mem_nil, or_false] at hs; rcases hs with rfl | rfl <;> assumption, fun _ => ⟨w.heap.size, 0, rfl, by simp, fun j s hj => ?_⟩⟩
 have hjl := (List.getElem?_eq_some_iff.1 hj).1
 simp only [List.length_cons, List.length_nil] at hjl
 rw [cell_of_row _ w.heap.size (0 + j) _ _ (0, 0) (heap_alloc_new w _)]
 rcases (by omega : j = 0 ∨ j = 1) with rfl | rfl
 · simp only [List.getElem?_cons_zero, Option.some.injEq] at hj
   subst hj
   rfl
 · simp only [List.getElem?_cons_succ, List.getElem?_cons_zero, Option.some.injEq] at hj
   subst hj
   rfl
section
variable {w : World} {d : Nat} {b : DBox} {RA : Option Addr} {rn rc : Nat} {ps : List (ByteArray × Value)}
theorem with1 (H : NowAt w d b RA rn rc ps) (nm : ByteArray) (hsz : nm.size ≤ 1000000) :
 Calls Tryz.prog 50 #[.pointer (some ⟨d, 0, none⟩), .slice (some ⟨w.heap.size, 0, none⟩) 1 1] (w.alloc (.cells #[.string nm] 9)) fun e w' => e = .returned (.tuple #[withF b [nm] ps nm, .int .i64 (withE b [nm] ps nm)]) ∧ DBoxAt w' d (poweredB b) ∧ Chg [d] w w' := by
 have hb : Below w.heap.size w (w.alloc (.cells #[.string nm] 9)) := (Below.refl _ w).alloc (Nat.le_refl _) _
 have hd := H.box.lt
 refine (beginWith_any _ d b (H.box.below hb) H.calls H.ahead _ 1 1 [nm] (names1 w nm hsz) (by omega) (fun hm => by obtain ⟨ad, ea, he⟩ := mem_blk.1 hm; cases ea; dsimp only at he; omega) nm rfl RA rn rc H.now ps (H.row.below hb) H.apart (by have := H.len; omega)).mono ?_
 rintro e w' ⟨he, hx, hc⟩
 exact ⟨he, hx, (Chg.of_below hb).trans hc⟩
theorem with2 (H : NowAt w d b RA rn rc ps) (nm nm2 : ByteArray) (hsz : nm.size ≤ 1000000) (hsz2 : nm2.size ≤ 1000000) :
 Calls Tryz.prog 50 #[.pointer (some ⟨d, 0, none⟩), .slice (some ⟨w.heap.size, 0, none⟩) 2 2] (w.alloc (.cells #[.string nm, .string nm2] 9)) fun e w' => e = .returned (.tuple #[withF b [nm, nm2] ps nm, .int .i64 (withE b [nm, nm2] ps nm)]) ∧ DBoxAt w' d (poweredB b) ∧ Chg [d] w w' := by
 have hb : Below w.heap.size w (w.alloc (.cells #[.string nm, .string nm2] 9)) := (Below.refl _ w).alloc (Nat.le_refl _) _
 have hd := H.box.lt
 refine (beginWith_any _ d b (H.box.below hb) H.calls H.ahead _ 2 2 [nm, nm2] (names2 w nm nm2 hsz hsz2) (by omega) (fun hm => by obtain ⟨ad, ea, he⟩ := mem_blk.1 hm; cases ea; dsimp only at he; omega) nm rfl RA rn rc H.now ps (H.row.below hb) H.apart (by have := H.len; omega)).mono ?_
 rintro e w' ⟨he, hx, hc⟩
 exact ⟨he, hx, (Chg.of_below hb).trans hc⟩
set_option maxHeartbeats 800000 in
theorem sync_no (H : NowAt w d b RA rn rc ps) (nm : ByteArray) (hsz : nm.size ≤ 1000000) (hE : withE b [nm] ps nm ≠ 0) :
 Calls Tryz.prog 65 #[.pointer (some ⟨d, 0, none⟩), .string nm] w fun e w' => e = .returned (.int .i64 (withE b [nm] ps nm)) ∧ DBoxAt w' d (poweredB b) ∧ Chg [d] w w' := by
 have HW := Lib.hid (with1 H nm hsz)
 have hF : withF b [nm] ps nm = .pointer none := by unfold withF; rw [if_neg hE]
 rw [hF] at HW
 obtain ⟨E, hEE⟩ : ∃ E, withE b [nm] ps nm = E := ⟨_, rfl⟩
 rw [hEE] at HW hE ⊢
 clear hEE hF H
 have hEb : (E == 0) = false := by simpa using hE
 go_enter Tryz.func65, Tryz.ntmps65
 go_wp2_with fail
 refine HW.out.mono ?_
 rintro e w1 ⟨rfl, hd1, hc1⟩
 have HX := Lib.hid (And.intro hd1 hc1)
 clear hd1 hc1
 go_wp2
 go_ret
 exact ⟨rfl, HX.out⟩
set_option maxHeartbeats 800000 in
theorem remove_no (H : NowAt w d b RA rn rc ps) (nm : ByteArray) (hsz : nm.size ≤ 1000000) (hE : withE b [nm] ps nm ≠ 0) :
 Calls Tryz.prog 30 #[.pointer (some ⟨d, 0, none⟩), .string nm] w fun e w' => e = .returned (.int .i64 (withE b [nm] ps nm)) ∧ DBoxAt w' d (poweredB b) ∧ Chg [d] w w' := by
 have HW := Lib.hid (with1 H nm hsz)
 have hF : withF b [nm] ps nm = .pointer none := by unfold withF; rw [if_neg hE]
 rw [hF] at HW
 obtain ⟨E, hEE⟩ : ∃ E, withE b [nm] ps nm = E := ⟨_, rfl⟩
 rw [hEE] at HW hE ⊢
 clear hEE hF H
 have hEb : (E == 0) = false := by simpa using hE
 go_enter Tryz.func30, Tryz.ntmps30
 go_wp2_with fail
 refine HW.out.mono ?_
 rintro e w1 ⟨rfl, hd1, hc1⟩
 have HX := Lib.hid (And.intro hd1 hc1)
 clear hd1 hc1
 go_wp2
 go_ret
 exact ⟨rfl, HX.out⟩
set_option maxHeartbeats 800000 in
theorem rename_no (H : NowAt w d b RA rn rc ps) (nm nm2 : ByteArray) (hsz : nm.size ≤ 1000000) (hsz2 : nm2.size ≤ 1000000) (hE : withE b [nm, nm2] ps nm ≠ 0) :
 Calls Tryz.prog 67 #[.pointer (some ⟨d, 0, none⟩), .string nm, .string nm2] w fun e w' => e = .returned (.int .i64 (withE b [nm, nm2] ps nm)) ∧ DBoxAt w' d (poweredB b) ∧ Chg [d] w w' := by
 have HW := Lib.hid (with2 H nm nm2 hsz hsz2)
 have hF : withF b [nm, nm2] ps nm = .pointer none := by unfold withF; rw [if_neg hE]
 rw [hF] at HW
 obtain ⟨E, hEE⟩ : ∃ E, withE b [nm, nm2] ps nm = E := ⟨_, rfl⟩
 rw [hEE] at HW hE ⊢
 clear hEE hF H
 have hEb : (E == 0) = false := by simpa using hE
 go_enter Tryz.func67, Tryz.ntmps67
 go_wp2_with fail
 refine HW.out.mono ?_
 rintro e w1 ⟨rfl, hd1, hc1⟩
 have HX := Lib.hid (And.intro hd1 hc1)
 clear hd1 hc1
 go_wp2
 go_ret
 exact ⟨rfl, HX.out⟩
set_option maxHeartbeats 800000 in
theorem sync_yes (H : NowAt w d b RA rn rc ps) (nm : ByteArray) (hsz : nm.size ≤ 1000000) (hE : withE b [nm] ps nm = 0) (f num : Nat) (hF : withF b [nm] ps nm = .pointer (some ⟨f, 0, none⟩)) (A : Option Addr) (n c sure : Nat) (hfile : FileAt w f num A n c sure) (hfd : f ≠ d) :
 Calls Tryz.prog 65 #[.pointer (some ⟨d, 0, none⟩), .string nm] w fun e w' => e = .returned (.int .i64 0) ∧ DBoxAt w' d (poweredB b) ∧ FileAt w' f num A n c n ∧ Chg [d, f] w w' := by
 have HW := Lib.hid (with1 H nm hsz)
 rw [hF, hE] at HW
 have HFI := Lib.hid hfile
 clear hE hF H hfile
 go_enter Tryz.func65, Tryz.ntmps65
 go_wp2_with fail
 refine HW.out.mono ?_
 rintro e w1 ⟨rfl, hd1, hc1⟩
 have hf1 := HFI.out.same (hc1.same f (lt_of_block HFI.out) (by simp only [List.mem_singleton]; exact hfd))
 have c1 := hf1.c1
 have c2 := hf1.c2
 have e2 := hf1.free 2
 have HX : Hid (DBoxAt (w1.setCell ⟨f, 2, none⟩ (.int .i64 (n : Int))) d (poweredB b) ∧ FileAt (w1.setCell ⟨f, 2, none⟩ (.int .i64 (n : Int))) f num A n c n ∧ Chg [d, f] w (w1.setCell ⟨f, 2, none⟩ (.int .i64 (n : Int)))) :=
  Lib.hid ⟨(heap_setCell_other w1 ⟨f, 2, none⟩ d _ (fun e => hfd e.symm)).trans hd1, hf1.setSure n, (hc1.weaken (fun k hk => .inl (by rw [List.mem_singleton] at hk; rw [hk]; simp))).setCell f 2 _ (.inl (by simp))⟩
 clear hd1 hc1 hf1
 go_wp2
 go_ret
 exact ⟨rfl, HX.out⟩
end
theorem fresh_line (s : Nat) (w : World) (cs : Array Value) (T : TypeId) (n : Nat) (xs : List Value) (hcs : cs.toList = xs) (hl : xs.length = n * s) (hn : n ≤ 1000) : SLine s (w.alloc (.cells cs T)) (some ⟨w.heap.size, 0, none⟩) n n xs := by
 have hb := heap_alloc_new w (.cells cs T (0, 0))
 refine ⟨hl, Nat.le_refl _, by unfold maxLen; omega, (fun e => by cases e), fun ad e => ?_⟩
 cases e
 refine ⟨w.heap.size, 0, rfl, by simp, fun i hi => ?_, fun i hi => ⟨?_, frozen_of_row _ w.heap.size (0 + i) _ _ hb⟩⟩
 · rw [cell_of_row _ w.heap.size (0 + i) _ _ (0, 0) hb, Nat.zero_add, ← hcs, Array.getElem?_toList]
 · rw [cell_of_row _ w.heap.size (0 + i) _ _ (0, 0) hb, Nat.zero_add, ← Array.getElem?_toList, hcs, List.getElem?_eq_getElem (by rw [hl]; exact hi)]
   rfl
structure ChAt (w : World) (d : Nat) (b : DBox) (RA C : Option Addr) (cn cc : Nat) (css : List Value) : Prop where
 is : b.changes = .slice C cn cc
 line : SLine 1 w C cn cc css
 apart : d ∉ blk C
 apart2 : ∀ k ∈ blk C, k ∉ blk RA
 len : cn ≤ 90000
theorem ChAt.chg {w w' : World} {d : Nat} {b : DBox} {RA C : Option Addr} {cn cc : Nat} {css : List Value} (h : ChAt w d b RA C cn cc css) (hc : Chg [d] w w') (b' : DBox) (hb : b'.changes = b.changes) : ChAt w' d b' RA C cn cc css :=
 ⟨hb.trans h.is, h.line.chg hc (fun k hk hm => by rw [List.mem_singleton] at hm; rw [hm] at hk; exact h.apart hk), h.apart, h.apart2, h.len⟩
def Turned (w : World) (d : Nat) (b : DBox) (RA C : Option Addr) (cn : Nat) (ps : List (ByteArray × Value)) (css : List Value) (chs : List (ByteArray × Value)) (w' : World) : Prop :=
 ∃ A' n' c' C' cc' pb, DBoxAt w' d { b with now := .slice A' n' c', changes := .slice C' (cn + 1) cc' } ∧ RowG encS ltS w' A' n' c' (layP ps chs) ∧ SLine 1 w' C' (cn + 1) cc' (css ++ [.slice (some ⟨pb, 0, none⟩) chs.length chs.length]) ∧
  SLine 2 w' (some ⟨pb, 0, none⟩) chs.length chs.length (cellsP encS chs) ∧ Chg (d :: (blk RA ++ blk C)) w w' ∧ (∀ k ∈ blk A', k ∈ blk RA ∨ w.heap.size ≤ k) ∧ (∀ k ∈ blk C', k ∈ blk C ∨ w.heap.size ≤ k) ∧ (∀ k ∈ blk C', k ∉ blk A') ∧
  w.heap.size ≤ pb ∧ pb ∉ blk A' ∧ pb ∉ blk C'
theorem Turned.from {w w1 w' : World} {d : Nat} {b : DBox} {RA C : Option Addr} {cn : Nat} {ps : List (ByteArray × Value)} {css : List Value} {chs : List (ByteArray × Value)} (h : Turned w1 d b RA C cn ps css chs w') (hc : Chg [d] w w1) : Turned w d b RA C cn ps css chs w' := by
 obtain ⟨A', n', c', C', cc', pb, h1, h2, h3, h4, h5, h6, h7, h8, h9, h10⟩ := h
 have := hc.size
 exact ⟨A', n', c', C', cc', pb, h1, h2, h3, h4, (hc.weaken (fun k hk => .inl (by rw [List.mem_singleton] at hk; rw [hk]; exact List.mem_cons_self ..))).trans h5, fun k hk => (h6 k hk).imp id (fun h => by omega), fun k hk => (h7 k hk).imp id (fun h => by omega), h8, by omega, h10⟩
section
variable {w : World} {d : Nat} {b : DBox} {RA C : Option Addr} {rn rc cn cc : Nat} {ps : List (ByteArray × Value)} {css : List Value}
set_option maxHeartbeats 800000 in
theorem turn_fresh (hD : DBoxAt w d b) (hnow : b.now = .slice RA rn rc) (hrow : RowG encS ltS w RA rn rc ps) (hap : d ∉ blk RA) (hrn : rn ≤ 90000) (H : ChAt w d b RA C cn cc css) (cs : Array Value) (T : TypeId) (chs : List (ByteArray × Value)) (hcs : cs.toList = cellsP encS chs) (hk : chs.length ≤ 2) (m : Nat) (hm : chs.length = m) (hsh : ∀ p ∈ chs, ∃ a : Option Addr, p.2 = .pointer a) :
 Calls Tryz.prog 49 #[.pointer (some ⟨d, 0, none⟩), .slice (some ⟨w.heap.size, 0, none⟩) m m] (w.alloc (.cells cs T)) fun e w' => (∃ v, e = .returned v) ∧ Turned w d b RA C cn ps css chs w' := by
 subst hm
 have hb : Below w.heap.size w (w.alloc (.cells cs T)) := (Below.refl _ w).alloc (Nat.le_refl _) _
 have hsz : (w.alloc (.cells cs T)).heap.size = w.heap.size + 1 := by simp
 have hline := fresh_line 2 w cs T chs.length _ hcs (by rw [cellsP_length]) (by omega)
 have hd := hD.lt
 have hRl : ∀ k ∈ blk RA, k < w.heap.size := hrow.lt'
 have hCl : ∀ k ∈ blk C, k < w.heap.size := H.line.lt
 have hfb : ∀ k ∈ blk (some (⟨w.heap.size, 0, none⟩ : Addr)), k = w.heap.size := fun k hk => by obtain ⟨ad, ea, he⟩ := mem_blk.1 hk; cases ea; exact he.symm
 refine (turnNames_any _ d b (hD.below hb) RA rn rc hnow ps (hrow.below hb) C cn cc H.is css (H.line.below hb) _ chs.length chs.length chs hline hsh hap H.apart (fun hm => by have := hfb _ hm; omega) (fun k hk hm => by have := hfb k hk; have := hRl k hm; omega) H.apart2 (by omega) (by have := H.len; omega)).mono ?_
 rintro e w' ⟨he, A', n', c', C', cc', h1, h2, h3, h4, h5, h6, h7⟩
 rw [hsz] at h5 h6
 have hpA : w.heap.size ∉ blk A' := fun hm => by
  rcases h5 _ hm with h | h
  · have := hRl _ h; omega
  · omega
 have hpC : w.heap.size ∉ blk C' := fun hm => by
  rcases h6 _ hm with h | h
  · have := hCl _ h; omega
  · omega
 refine ⟨he, A', n', c', C', cc', w.heap.size, h1, h2, h3, hline.chg h4 (fun k hk hm => ?_), (Chg.of_below hb).trans h4, fun k hk => (h5 k hk).imp id (fun h => by omega), fun k hk => (h6 k hk).imp id (fun h => by omega), h7, Nat.le_refl _, hpA, hpC⟩
 have e1 := hfb k hk
 rw [List.mem_cons, List.mem_append] at hm
 rcases hm with h | h | h
 · omega
 · have := hRl k h; omega
 · have := hCl k h; omega
set_option maxHeartbeats 800000 in
theorem remove_yes (H : NowAt w d b RA rn rc ps) (HC : ChAt w d b RA C cn cc css) (nm : ByteArray) (hsz : nm.size ≤ 1000000) (hE : withE b [nm] ps nm = 0) (f : Option Addr) (hF : withF b [nm] ps nm = .pointer f) :
 Calls Tryz.prog 30 #[.pointer (some ⟨d, 0, none⟩), .string nm] w fun e w' => e = .returned (.int .i64 0) ∧ Turned w d (poweredB b) RA C cn ps css [(nm, .pointer none)] w' := by
 have HW := Lib.hid (with1 H nm hsz)
 rw [hF, hE] at HW
 have HNX : Hid (∀ w1, DBoxAt w1 d (poweredB b) → Chg [d] w w1 → Calls Tryz.prog 49 #[.pointer (some ⟨d, 0, none⟩), .slice (some ⟨w1.heap.size, 0, none⟩) 1 1] (w1.alloc (.cells #[.string nm, .pointer none] 109)) fun e w' => (∃ v, e = .returned v) ∧ Turned w d (poweredB b) RA C cn ps css [(nm, .pointer none)] w') := Lib.hid fun w1 h1 hc => by
  refine (turn_fresh h1 ((powered_now b).trans H.now) (H.row.chg hc (fun k hk hm => by rw [List.mem_singleton] at hm; rw [hm] at hk; exact H.apart hk)) H.apart H.len (HC.chg hc _ (powered_changes b)) _ _ [(nm, .pointer none)] rfl (by simp) 1 rfl (fun p hp => by rw [List.mem_singleton] at hp; rw [hp]; exact ⟨_, rfl⟩)).mono ?_
  rintro e w' ⟨he, ht⟩
  exact ⟨he, ht.from hc⟩
 clear hE hF H HC
 go_enter Tryz.func30, Tryz.ntmps30
 go_wp2_with fail
 refine HW.out.mono ?_
 rintro e w1 ⟨rfl, hd1, hc1⟩
 have HT := Lib.hid (HNX.out w1 hd1 hc1)
 clear hd1 hc1 HNX HW
 go_wp2_with fail
 refine HT.out.mono ?_
 rintro e w2 ⟨⟨v, rfl⟩, ht⟩
 have HX := Lib.hid ht
 clear ht HT
 go_wp2
 go_ret
 exact ⟨rfl, HX.out⟩
set_option maxHeartbeats 800000 in
theorem rename_yes (H : NowAt w d b RA rn rc ps) (HC : ChAt w d b RA C cn cc css) (nm nm2 : ByteArray) (hsz : nm.size ≤ 1000000) (hsz2 : nm2.size ≤ 1000000) (hE : withE b [nm, nm2] ps nm = 0) (f : Option Addr) (hF : withF b [nm, nm2] ps nm = .pointer f) :
 Calls Tryz.prog 67 #[.pointer (some ⟨d, 0, none⟩), .string nm, .string nm2] w fun e w' => e = .returned (.int .i64 0) ∧ Turned w d (poweredB b) RA C cn ps css [(nm, .pointer none), (nm2, .pointer f)] w' := by
 have HW := Lib.hid (with2 H nm nm2 hsz hsz2)
 rw [hF, hE] at HW
 have HNX : Hid (∀ w1, DBoxAt w1 d (poweredB b) → Chg [d] w w1 → Calls Tryz.prog 49 #[.pointer (some ⟨d, 0, none⟩), .slice (some ⟨w1.heap.size, 0, none⟩) 2 2] (w1.alloc (.cells #[.string nm, .pointer none, .string nm2, .pointer f] 109)) fun e w' => (∃ v, e = .returned v) ∧ Turned w d (poweredB b) RA C cn ps css [(nm, .pointer none), (nm2, .pointer f)] w') := Lib.hid fun w1 h1 hc => by
  refine (turn_fresh h1 ((powered_now b).trans H.now) (H.row.chg hc (fun k hk hm => by rw [List.mem_singleton] at hm; rw [hm] at hk; exact H.apart hk)) H.apart H.len (HC.chg hc _ (powered_changes b)) _ _ [(nm, .pointer none), (nm2, .pointer f)] rfl (by simp) 2 rfl (fun p hp => by simp only [List.mem_cons, List.not_mem_nil, or_false] at hp; rcases hp with rfl | rfl <;> exact ⟨_, rfl⟩)).mono ?_
  rintro e w' ⟨he, ht⟩
  exact ⟨he, ht.from hc⟩
 clear hE hF H HC
 go_enter Tryz.func67, Tryz.ntmps67
 go_wp2_with fail
 refine HW.out.mono ?_
 rintro e w1 ⟨rfl, hd1, hc1⟩
 have HT := Lib.hid (HNX.out w1 hd1 hc1)
 clear hd1 hc1 HNX HW
 go_wp2_with fail
 refine HT.out.mono ?_
 rintro e w2 ⟨⟨v, rfl⟩, ht⟩
 have HX := Lib.hid ht
 clear ht HT
 go_wp2
 go_ret
 exact ⟨rfl, HX.out⟩
end
theorem dnames_any (w : World) (d : Nat) : Calls Tryz.prog 52 #[.pointer (some ⟨d, 0, none⟩)] w fun e w' => e = .returned (.pointer (some ⟨d, 2, none⟩)) ∧ w = w' := by
 go_enter Tryz.func52, Tryz.ntmps52
 go_wp2
 go_ret
 exact ⟨rfl, rfl⟩
section
variable {w : World} {d : Nat} {b : DBox} {RA : Option Addr} {rn rc : Nat} {ps : List (ByteArray × Value)}
theorem NowAt.rowAt (H : NowAt w d b RA rn rc ps) : RowAtS w d 2 RA rn rc ps := by
 refine ⟨?_, H.row⟩
 have hc : w.cell? ⟨d, 2, none⟩ = some b.now := H.box.cell 2 _ rfl
 rw [hc, H.now]
set_option maxHeartbeats 800000 in
theorem read_no (H : NowAt w d b RA rn rc ps) (nm : ByteArray) (hno : hasP ltS ps nm = false) :
 Calls Tryz.prog 23 #[.pointer (some ⟨d, 0, none⟩), .string nm] w fun e w' => e = .returned (.tuple #[.slice none 0 0, .int .i64 3]) ∧ Below w.heap.size w w' := by
 have HN := Lib.hid (dnames_any w d)
 have HGET := Lib.hid (rget_S w d 2 RA rn rc ps H.rowAt nm (by have := H.len; omega))
 have hl : lookP ltS ps nm = none := by unfold hasP at hno; cases h : lookP ltS ps nm with | none => rfl | some _ => rw [h] at hno; cases hno
 rw [hno, hl] at HGET
 clear H hno hl
 go_enter Tryz.func23, Tryz.ntmps23
 go_wp2_with (first
  | (go_at_call 52; refine HN.out.mono ?_; rintro e w1 ⟨rfl, rfl⟩)
  | (go_at_call 46; refine HGET.out.mono ?_; rintro e w2 ⟨rfl, hb⟩; have HB := Lib.hid hb; clear hb))
 go_ret2
 exact ⟨rfl, HB.out⟩
set_option maxHeartbeats 800000 in
theorem read_yes (H : NowAt w d b RA rn rc ps) (nm : ByteArray) (f num : Nat) (hl : lookP ltS ps nm = some (.pointer (some ⟨f, 0, none⟩))) (A : Option Addr) (n c sure : Nat) (xs : List Value) (hfile : FileAt w f num A n c sure) (hline : SLine 1 w A n c xs) (hn : n ≤ 10000000) (h1 : ∀ u ∈ xs, u.oneCell' = true) :
 Calls Tryz.prog 23 #[.pointer (some ⟨d, 0, none⟩), .string nm] w fun e w' => ∃ A' c', e = .returned (.tuple #[.slice A' n c', .int .i64 0]) ∧ SLine 1 w' A' n c' xs ∧ (∀ k ∈ blk A', w.heap.size ≤ k) ∧ Below w.heap.size w w' := by
 have HN := Lib.hid (dnames_any w d)
 have HGET := Lib.hid (rget_S w d 2 RA rn rc ps H.rowAt nm (by have := H.len; omega))
 have hh : hasP ltS ps nm = true := by unfold hasP; rw [hl]; rfl
 rw [hh, hl] at HGET
 simp only [Option.getD_some] at HGET
 have HF := Lib.hid (And.intro hfile hline)
 have H1 := Lib.hid h1
 clear H hh hl hfile hline h1
 go_enter Tryz.func23, Tryz.ntmps23
 go_wp2_with (first
  | (go_at_call 52; refine HN.out.mono ?_; rintro e w1 ⟨rfl, rfl⟩)
  | (go_at_call 46; refine HGET.out.mono ?_; rintro e w2 ⟨rfl, hb⟩; have HB := Lib.hid hb; have hf2 := HF.out.1.same (hb.block f (lt_of_block HF.out.1)); have c1 := hf2.c1; have HCL := Lib.hid (cloneB w2 A n c xs (HF.out.2.below hb) hn H1.out); clear hb hf2)
  | (go_at_call 40; refine HCL.out.mono ?_; rintro e w3 ⟨⟨A', c', rfl, hl3, hf3⟩, hb3⟩; have HX := Lib.hid (And.intro hl3 (And.intro hf3 hb3)); clear hl3 hf3 hb3))
 go_ret2
 exact ⟨A', c', rfl, HX.out.1, fun k hk => Nat.le_trans HB.out.size (HX.out.2.1 k hk), HB.out.trans (HX.out.2.2.mono HB.out.size)⟩
end
theorem infoFileP : (Tryz.prog.info? 87).map (fun i => (i.zero, i.size, i.bytes)) = some (some (.pointer none), 1, 8) := by kernel_rfl
theorem files_push (w : World) (ty : TypeId) (F : Option Addr) (n c : Nat) (xs : List Value) (h : SLine 1 w F n c xs) (hn : n ≤ 100000) (f : Nat) :
 ∃ F' c' w', (Builtin.append_ #[67, 67] ty #[.slice F n c, .slice (some ⟨w.heap.size, 0, none⟩) 1 1]).run Tryz.prog (w.alloc (.cells #[.pointer (some ⟨f, 0, none⟩)] 87)) = .ok (.slice F' (n + 1) c') w' ∧ SLine 1 w' F' (n + 1) c' (xs ++ [.pointer (some ⟨f, 0, none⟩)]) ∧ Chg (blk F) w w' ∧ ∀ k ∈ blk F', k ∈ blk F ∨ w.heap.size ≤ k := by
 have hb : Below w.heap.size w (w.alloc (.cells #[.pointer (some ⟨f, 0, none⟩)] 87)) := (Below.refl _ w).alloc (Nat.le_refl _) _
 have hs : (w.alloc (.cells #[.pointer (some ⟨f, 0, none⟩)] 87)).heap.size = w.heap.size + 1 := by simp
 have hsrc : Src Tryz.prog 1 67 (.slice (some ⟨w.heap.size, 0, none⟩) 1 1) 1 [.pointer (some ⟨f, 0, none⟩)] (w.alloc (.cells #[.pointer (some ⟨f, 0, none⟩)] 87)) := Src.ofSlice _ Tryz.underlying67 ⟨w.heap.size, 0, none⟩ 1 1 [.pointer (some ⟨f, 0, none⟩)] rfl (new_one w _ _) (fun u hu => by simp only [List.mem_singleton] at hu; subst hu; rfl)
 obtain ⟨C', c', w', hr, hl, hc, hf, _⟩ := sline_append 1 (w.alloc (.cells #[.pointer (some ⟨f, 0, none⟩)] 87)) 67 87 ty _ 8 Tryz.underlying67 infoFileP rfl (by decide) F n c xs (h.below hb) (by omega) _ 1 (by omega) (fun _ => by omega) _ hsrc
 exact ⟨C', c', w', hr, hl, (Chg.of_below hb).trans hc, fun k hk => by
  rcases hf k hk with h1 | h1
  · exact .inl h1
  · exact .inr (by omega)⟩
structure FlAt (w : World) (d : Nat) (b : DBox) (RA C F : Option Addr) (fn fc : Nat) (fs : List Value) : Prop where
 is : b.files = .slice F fn fc
 line : SLine 1 w F fn fc fs
 apart : d ∉ blk F
 apart2 : ∀ k ∈ blk F, k ∉ blk RA
 apart3 : ∀ k ∈ blk F, k ∉ blk C
 len : fn ≤ 90000
section
variable {w : World} {d : Nat} {b : DBox} {RA C F : Option Addr} {rn rc cn cc fn fc : Nat} {ps : List (ByteArray × Value)} {css fs : List Value}
theorem begin1 (H : NowAt w d b RA rn rc ps) (nm : ByteArray) (hsz : nm.size ≤ 1000000) :
 Calls Tryz.prog 48 #[.pointer (some ⟨d, 0, none⟩), .slice (some ⟨w.heap.size, 0, none⟩) 1 1] (w.alloc (.cells #[.string nm] 9)) fun e w' => e = .returned (.int .i64 (beginE b [nm])) ∧ DBoxAt w' d (poweredB b) ∧ Chg [d] w w' := by
 have hb : Below w.heap.size w (w.alloc (.cells #[.string nm] 9)) := (Below.refl _ w).alloc (Nat.le_refl _) _
 have hd := H.box.lt
 refine (begin_any _ d b (H.box.below hb) H.calls H.ahead _ 1 1 [nm] (names1 w nm hsz) (by omega) (fun hm => by obtain ⟨ad, ea, he⟩ := mem_blk.1 hm; cases ea; dsimp only at he; omega)).mono ?_
 rintro e w' ⟨he, hx, hc⟩
 exact ⟨he, hx, (Chg.of_below hb).trans hc⟩
set_option maxHeartbeats 800000 in
theorem create_err (H : NowAt w d b RA rn rc ps) (nm : ByteArray) (hsz : nm.size ≤ 1000000) (hE : beginE b [nm] ≠ 0) :
 Calls Tryz.prog 20 #[.pointer (some ⟨d, 0, none⟩), .string nm] w fun e w' => e = .returned (.int .i64 (beginE b [nm])) ∧ DBoxAt w' d (poweredB b) ∧ Chg [d] w w' := by
 have HW := Lib.hid (begin1 H nm hsz)
 obtain ⟨E, hEE⟩ : ∃ E, beginE b [nm] = E := ⟨_, rfl⟩
 rw [hEE] at HW hE ⊢
 clear hEE H
 have hEb : (E == 0) = false := by simpa using hE
 go_enter Tryz.func20, Tryz.ntmps20
 go_wp2_with fail
 refine HW.out.mono ?_
 rintro e w1 ⟨rfl, hd1, hc1⟩
 have HX := Lib.hid (And.intro hd1 hc1)
 clear hd1 hc1
 go_wp2
 go_ret
 exact ⟨rfl, HX.out⟩
theorem got1 (H : NowAt w d b RA rn rc ps) {w1 w2 : World} (h1 : DBoxAt w1 d (poweredB b)) (hc : Chg [d] w w1) (hb : Below w1.heap.size w1 w2) : DBoxAt w2 d (poweredB b) ∧ Chg [d] w w2 ∧ RowAtS w2 d 2 RA rn rc ps := by
 have h2 : DBoxAt w2 d (poweredB b) := h1.below hb
 refine ⟨h2, hc.trans (Chg.of_below hb), ?_, (H.row.chg hc (fun k hk hm => by rw [List.mem_singleton] at hm; rw [hm] at hk; exact H.apart hk)).below hb⟩
 have hc2 : w2.cell? ⟨d, 2, none⟩ = some (poweredB b).now := h2.cell 2 _ rfl
 rw [hc2, powered_now, H.now]
set_option maxHeartbeats 800000 in
theorem create_big (H : NowAt w d b RA rn rc ps) (nm : ByteArray) (hsz : nm.size ≤ 1000000) (hE : beginE b [nm] = 0) (hno : hasP ltS ps nm = false) (hbig : 1024 ≤ rn) :
 Calls Tryz.prog 20 #[.pointer (some ⟨d, 0, none⟩), .string nm] w fun e w' => e = .returned (.int .i64 2) ∧ DBoxAt w' d (poweredB b) ∧ Chg [d] w w' := by
 have HW := Lib.hid (begin1 H nm hsz)
 rw [hE] at HW
 have hl : lookP ltS ps nm = none := by unfold hasP at hno; cases h : lookP ltS ps nm with | none => rfl | some _ => rw [h] at hno; cases hno
 have HGET : Hid (∀ W, RowAtS W d 2 RA rn rc ps → Calls Tryz.prog 46 #[.pointer (some ⟨d, 2, none⟩), .string nm] W fun e w' => e = .returned (.tuple #[.pointer none, .bool false]) ∧ Below W.heap.size W w') := Lib.hid fun W h => by
  have := rget_S W d 2 RA rn rc ps h nm (by have := H.len; omega)
  rw [hl, hno] at this
  exact this
 have HG : Hid (∀ w1 w2, DBoxAt w1 d (poweredB b) → Chg [d] w w1 → Below w1.heap.size w1 w2 → DBoxAt w2 d (poweredB b) ∧ Chg [d] w w2 ∧ RowAtS w2 d 2 RA rn rc ps) := Lib.hid fun w1 w2 h1 hc hb => got1 H h1 hc hb
 have hbig' : (1024 : Int) ≤ (rn : Int) := by omega
 clear H hE hno hl hbig
 go_enter Tryz.func20, Tryz.ntmps20
 go_wp2_with fail
 refine HW.out.mono ?_
 rintro e w1 ⟨rfl, hd1, hc1⟩
 have HX1 := Lib.hid (And.intro hd1 hc1)
 have HGE := Lib.hid (HGET.out w1 (HG.out _ _ hd1 hc1 (Below.refl _ _)).2.2)
 clear hd1 hc1
 go_wp2_with fail
 refine HGE.out.mono ?_
 rintro e w2 ⟨rfl, hb2⟩
 have HX := Lib.hid (HG.out _ _ HX1.out.1 HX1.out.2 hb2)
 have HLEN := Lib.hid (rlen_S w2 d 2 RA rn rc ps HX.out.2.2)
 clear hb2 HG HGET HGE HX1 HW
 go_wp2_with (go_at_call 44; refine HLEN.out.mono ?_; rintro e w3 ⟨rfl, rfl⟩)
 go_ret
 exact ⟨rfl, HX.out.1, HX.out.2.1⟩
def Made (w : World) (d : Nat) (b : DBox) (RA C F : Option Addr) (rn rc cn cc fn fc : Nat) (ps : List (ByteArray × Value)) (css fs : List Value) (num : Nat) (F' : Option Addr) (fc' fb : Nat) (W : World) : Prop :=
 DBoxAt W d { b with made := (num : Int) + 1, files := .slice F' (fn + 1) fc' } ∧ RowG encS ltS W RA rn rc ps ∧ ChAt W d { b with made := (num : Int) + 1, files := .slice F' (fn + 1) fc' } RA C cn cc css ∧
  FlAt W d { b with made := (num : Int) + 1, files := .slice F' (fn + 1) fc' } RA C F' (fn + 1) fc' (fs ++ [.pointer (some ⟨fb, 0, none⟩)]) ∧ FileAt W fb num none 0 0 0 ∧ Chg (d :: blk F) w W ∧ (∀ k ∈ blk F', k ∈ blk F ∨ w.heap.size ≤ k) ∧ w.heap.size ≤ fb ∧ fb ∉ blk F'
theorem create_mem (hD : DBoxAt w d b) (num : Nat) (hmade : b.made = (num : Int)) (hrow : RowG encS ltS w RA rn rc ps) (hap : d ∉ blk RA) (HC : ChAt w d b RA C cn cc css) (HF : FlAt w d b RA C F fn fc fs) (hfn : fn < 90000) :
 w.cell? ⟨d, 1, none⟩ = some (.int .i64 (num : Int)) ∧ ∃ W3 W4 W5 W6 F' fc', w.alloc (.cells #[.int .i64 (num : Int), .slice none 0 0, .int .i64 0] 90) = W3 ∧ W3.cell? ⟨d, 1, none⟩ = some (.int .i64 (num : Int)) ∧ W3.frozen? ⟨d, 1, none⟩ = false ∧
  W3.setCell ⟨d, 1, none⟩ (.int .i64 ((num : Int) + 1)) = W4 ∧ W4.cell? ⟨d, 0, none⟩ = some (.slice F fn fc) ∧
  (Builtin.append_ #[67, 67] 67 #[.slice F fn fc, .slice (some ⟨W4.heap.size, 0, none⟩) 1 1]).run Tryz.prog (W4.alloc (.cells #[.pointer (some ⟨w.heap.size, 0, none⟩)] 87)) = .ok (.slice F' (fn + 1) fc') W5 ∧
  W5.cell? ⟨d, 0, none⟩ = some (.slice F fn fc) ∧ W5.frozen? ⟨d, 0, none⟩ = false ∧ W5.setCell ⟨d, 0, none⟩ (.slice F' (fn + 1) fc') = W6 ∧ Made w d b RA C F rn rc cn cc fn fc ps css fs num F' fc' w.heap.size W6 := by
 obtain ⟨files, made, now, sure, changes, quota, full, ahead, off, calls⟩ := b
 have hfi := HF.is
 simp only at hmade hfi
 subst hmade hfi
 have hdl := hD.lt
 refine ⟨hD.cell 1 _ rfl, ?_⟩
 obtain ⟨W3, hW3⟩ : ∃ W3, w.alloc (.cells #[.int .i64 (num : Int), .slice none 0 0, .int .i64 0] 90) = W3 := ⟨_, rfl⟩
 have hb3 : Below w.heap.size w W3 := by rw [← hW3]; exact (Below.refl _ w).alloc (Nat.le_refl _) _
 have hs3 : W3.heap.size = w.heap.size + 1 := by rw [← hW3]; simp
 have hf3 : FileAt W3 w.heap.size num none 0 0 0 := by rw [← hW3]; exact heap_alloc_new w _
 have hD3 := hD.below hb3
 obtain ⟨W4, hW4⟩ : ∃ W4, W3.setCell ⟨d, 1, none⟩ (.int .i64 ((num : Int) + 1)) = W4 := ⟨_, rfl⟩
 have hD4 := hD3.set 1 (.int .i64 ((num : Int) + 1)) ⟨.slice F fn fc, (num : Int) + 1, now, sure, changes, quota, full, ahead, off, calls⟩ rfl
 have hc4 : Chg [d] W3 (W3.setCell ⟨d, 1, none⟩ (.int .i64 ((num : Int) + 1))) := (Chg.refl _ W3).setCell d 1 _ (.inl (by simp))
 rw [hW4] at hD4 hc4
 have hs4 : W4.heap.size = W3.heap.size := by rw [← hW4]; simp [World.setCell]
 have hnd : ∀ {k : Nat} {l : List Nat}, k ∈ l → d ∉ l → k ∉ [d] := fun hk hn hm => by rw [List.mem_singleton] at hm; rw [hm] at hk; exact hn hk
 have hF4 : SLine 1 W4 F fn fc fs := (HF.line.below hb3).chg hc4 (fun k hk => hnd hk HF.apart)
 obtain ⟨F', fc', W5, hr, hL5, hc5, hf5⟩ := files_push W4 67 F fn fc fs hF4 (by omega) w.heap.size
 have hD5 := hD4.chg hc5 HF.apart
 have hFl : ∀ k ∈ blk F, k < w.heap.size := HF.line.lt
 have hCl : ∀ k ∈ blk C, k < w.heap.size := HC.line.lt
 have hRl : ∀ k ∈ blk RA, k < w.heap.size := hrow.lt'
 have hfF : ∀ k ∈ blk F', k ∈ blk F ∨ w.heap.size < k := fun k hk => (hf5 k hk).imp id (fun h => by omega)
 have hdF : d ∉ blk F' := fun hm => by rcases hfF d hm with h | h; exact HF.apart h; omega
 obtain ⟨W6, hW6⟩ : ∃ W6, W5.setCell ⟨d, 0, none⟩ (.slice F' (fn + 1) fc') = W6 := ⟨_, rfl⟩
 have hD6 := hD5.set 0 (.slice F' (fn + 1) fc') ⟨.slice F' (fn + 1) fc', (num : Int) + 1, now, sure, changes, quota, full, ahead, off, calls⟩ rfl
 have hc6 : Chg [d] W5 (W5.setCell ⟨d, 0, none⟩ (.slice F' (fn + 1) fc')) := (Chg.refl _ W5).setCell d 0 _ (.inl (by simp))
 rw [hW6] at hD6 hc6
 refine ⟨W3, W4, W5, W6, F', fc', hW3, hD3.cell 1 _ rfl, hD3.free 1, hW4, hD4.cell 0 _ rfl, hr, hD5.cell 0 _ rfl, hD5.free 0, hW6, hD6, ?_, ⟨HC.is, ?_, HC.apart, HC.apart2, HC.len⟩, ⟨rfl, ?_, hdF, ?_, ?_, by omega⟩, ?_, ?_, fun k hk => (hfF k hk).imp id (fun h => by omega), Nat.le_refl _, fun hm => by rcases hfF _ hm with h | h; (have := hFl _ h; omega); omega⟩
 · exact (((hrow.below hb3).chg hc4 (fun k hk => hnd hk hap)).chg hc5 (fun k hk hm => HF.apart2 k hm hk)).chg hc6 (fun k hk => hnd hk hap)
 · exact (((HC.line.below hb3).chg hc4 (fun k hk => hnd hk HC.apart)).chg hc5 (fun k hk hm => HF.apart3 k hm hk)).chg hc6 (fun k hk => hnd hk HC.apart)
 · exact hL5.chg hc6 (fun k hk => hnd hk hdF)
 · intro k hk hm
   rcases hfF k hk with h | h
   · exact HF.apart2 k h hm
   · have := hRl k hm; omega
 · intro k hk hm
   rcases hfF k hk with h | h
   · exact HF.apart3 k h hm
   · have := hCl k hm; omega
 · refine ((hf3.same (hc4.same _ (by omega) (by simp only [List.mem_singleton]; omega))).same (hc5.same _ (by omega) (fun hm => by have := hFl _ hm; omega))).same (hc6.same _ (by have := hc5.size; omega) (by simp only [List.mem_singleton]; omega))
 · refine (((Chg.of_below hb3).andThen hc4 (fun k hk => .inl ?_)).andThen hc5 (fun k hk => .inl (List.mem_cons_of_mem _ hk))).andThen hc6 (fun k hk => .inl ?_)
   · rw [List.mem_singleton] at hk
     rw [hk]
     exact List.mem_cons_self ..
   · rw [List.mem_singleton] at hk
     rw [hk]
     exact List.mem_cons_self ..
set_option maxHeartbeats 1600000 in
theorem create_ok (H : NowAt w d b RA rn rc ps) (HC : ChAt w d b RA C cn cc css) (HF : FlAt w d b RA C F fn fc fs) (hfn : fn < 90000) (num : Nat) (hmade : b.made = (num : Int)) (hnum : num ≤ 1000000) (nm : ByteArray) (hsz : nm.size ≤ 1000000) (hE : beginE b [nm] = 0) (hok : hasP ltS ps nm = true ∨ rn < 1024) :
 Calls Tryz.prog 20 #[.pointer (some ⟨d, 0, none⟩), .string nm] w fun e w' => e = .returned (.int .i64 0) ∧ ∃ F' fc' fb W, Made w d (poweredB b) RA C F rn rc cn cc fn fc ps css fs num F' fc' fb W ∧ Turned W d { poweredB b with made := (num : Int) + 1, files := .slice F' (fn + 1) fc' } RA C cn ps css [(nm, .pointer (some ⟨fb, 0, none⟩))] w' := by
 have HW := Lib.hid (begin1 H nm hsz)
 rw [hE] at HW
 obtain ⟨v, hv⟩ : ∃ v, (lookP ltS ps nm).getD (.pointer none) = v := ⟨_, rfl⟩
 obtain ⟨t, ht⟩ : ∃ t, hasP ltS ps nm = t := ⟨_, rfl⟩
 have HGET : Hid (∀ W, RowAtS W d 2 RA rn rc ps → Calls Tryz.prog 46 #[.pointer (some ⟨d, 2, none⟩), .string nm] W fun e w' => e = .returned (.tuple #[v, .bool t]) ∧ Below W.heap.size W w') := Lib.hid fun W h => by
  have := rget_S W d 2 RA rn rc ps h nm (by have := H.len; omega)
  rw [hv, ht] at this
  exact this
 rw [ht] at hok
 have HG : Hid (∀ w1 w2, DBoxAt w1 d (poweredB b) → Chg [d] w w1 → Below w1.heap.size w1 w2 → DBoxAt w2 d (poweredB b) ∧ Chg [d] w w2 ∧ RowAtS w2 d 2 RA rn rc ps) := Lib.hid fun w1 w2 h1 hc hb => got1 H h1 hc hb
 have HT : Hid (∀ W F' fc' fb, Made w d (poweredB b) RA C F rn rc cn cc fn fc ps css fs num F' fc' fb W → Calls Tryz.prog 49 #[.pointer (some ⟨d, 0, none⟩), .slice (some ⟨W.heap.size, 0, none⟩) 1 1] (W.alloc (.cells #[.string nm, .pointer (some ⟨fb, 0, none⟩)] 109)) fun e w' => (∃ v, e = .returned v) ∧ Turned W d { poweredB b with made := (num : Int) + 1, files := .slice F' (fn + 1) fc' } RA C cn ps css [(nm, .pointer (some ⟨fb, 0, none⟩))] w') := Lib.hid fun W F' fc' fb hm => by
  obtain ⟨m1, m2, m3, m4, _⟩ := hm
  exact turn_fresh m1 ((powered_now b).trans H.now) m2 H.apart H.len m3 _ _ [(nm, .pointer (some ⟨fb, 0, none⟩))] rfl (by simp) 1 rfl (fun p hp => by rw [List.mem_singleton] at hp; rw [hp]; exact ⟨_, rfl⟩)
 have HMK : Hid (∀ w2, DBoxAt w2 d (poweredB b) → Chg [d] w w2 → _) := Lib.hid fun w2 h2 hc => create_mem h2 num ((powered_made b).trans hmade) (H.row.chg hc (fun k hk hm => by rw [List.mem_singleton] at hm; rw [hm] at hk; exact H.apart hk)) H.apart (HC.chg hc _ (powered_changes b)) (HF := ⟨(powered_files b).trans HF.is, HF.line.chg hc (fun k hk hm => by rw [List.mem_singleton] at hm; rw [hm] at hk; exact HF.apart hk), HF.apart, HF.apart2, HF.apart3, HF.len⟩) hfn
 have HMT : Hid (∀ w2, Chg [d] w w2 → ∀ F' fc' fb W, Made w2 d (poweredB b) RA C F rn rc cn cc fn fc ps css fs num F' fc' fb W → Made w d (poweredB b) RA C F rn rc cn cc fn fc ps css fs num F' fc' fb W) := Lib.hid fun w2 hc F' fc' fb W hm => by
  obtain ⟨m1, m2, m3, m4, m5, m6, m7, m8, m9⟩ := hm
  have := hc.size
  exact ⟨m1, m2, m3, m4, m5, (hc.weaken (fun k hk => .inl (by rw [List.mem_singleton] at hk; rw [hk]; exact List.mem_cons_self ..))).trans m6, fun k hk => (m7 k hk).imp id (fun h => by omega), by omega, m9⟩
 clear H HC HF hE hv ht hmade hfn
 cases t
 case' false =>
  have hrn : ¬ (1024 : Int) ≤ (rn : Int) := by rcases hok with h | h; cases h; omega
  have hrn2 : (rn : Int) < 1024 := by omega
 all_goals
  clear hok
  go_enter Tryz.func20, Tryz.ntmps20
  go_wp2_with fail
  refine HW.out.mono ?_
  rintro e w1 ⟨rfl, hd1, hc1⟩
  have HX1 := Lib.hid (And.intro hd1 hc1)
  have HGE := Lib.hid (HGET.out w1 (HG.out _ _ hd1 hc1 (Below.refl _ _)).2.2)
  clear hd1 hc1
  go_wp2_with fail
  refine HGE.out.mono ?_
  rintro e w2 ⟨rfl, hb2⟩
  have HX := Lib.hid (HG.out _ _ HX1.out.1 HX1.out.2 hb2)
  have HLEN := Lib.hid (rlen_S w2 d 2 RA rn rc ps HX.out.2.2)
  obtain ⟨c1, W3, W4, W5, W6, F', fc', hW3, c13, f13, hW4, c04, hr, c05, f05, hW6, hm⟩ := HMK.out w2 HX.out.1 HX.out.2.1
  have HMD := Lib.hid (HMT.out w2 HX.out.2.1 _ _ _ _ hm)
  have HTN := Lib.hid (HT.out _ _ _ _ HMD.out)
  have HR := Lib.hid hr
  clear hb2 HG HGET HGE HX1 HW hm hr HMK HMT HT
  go_wp2_with (first
   | (at_builtin; refine Lib.wpList_append_run _ rfl _ _ _ _ rfl _ _ rfl rfl _ _ HR.out ?_)
   | (go_at_call 44; refine HLEN.out.mono ?_; rintro e w3 ⟨rfl, rfl⟩)
   | (go_at_call 49; refine HTN.out.mono ?_; rintro e w7 ⟨⟨v7, rfl⟩, hT7⟩; have HT7 := Lib.hid hT7; clear hT7))
  go_ret
  exact ⟨rfl, _, _, _, _, HMD.out, HT7.out⟩
end
end Go.Proofs.YtdjnebgjdekmaaaGreatDoor
