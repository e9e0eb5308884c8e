/-
  The contracts of the disk's Remove and Rename, where they turn the directory.
-/
import Derived.Test.YtnjnlcmpfnabiaaDj
namespace Go.Proofs.Ytnjnlcmpfnabiaa
open Go.RowKit
set_option linter.unusedVariables false
set_option maxRecDepth 100000

/-- A line in a block of its own, just made. -/
theorem fresh_line (s : Nat) (w : World) (cs : Array Value) (T : TypeId) (n : Nat) (xs : List Value) (hcs : cs.toList = xs) (hl : xs.length = n * s) (hn : n ≤ 1000) : SLine s (w.alloc (.cells cs T)) (some ⟨w.heap.size, 0, none⟩) n n xs := by
  have hb := heap_alloc_new w (.cells cs T (0, 0))
  refine ⟨hl, Nat.le_refl _, by unfold maxLen; omega, (fun e => by cases e), fun ad e => ?_⟩
  cases e
  refine ⟨w.heap.size, 0, rfl, by simp, fun i hi => ?_, fun i hi => ⟨?_, frozen_of_row _ w.heap.size (0 + i) _ _ hb⟩⟩
  · rw [cell_of_row _ w.heap.size (0 + i) _ _ (0, 0) hb, Nat.zero_add, ← hcs, Array.getElem?_toList]
  · rw [cell_of_row _ w.heap.size (0 + i) _ _ (0, 0) hb, Nat.zero_add, ← Array.getElem?_toList, hcs, List.getElem?_eq_getElem (by rw [hl]; exact hi)]
    rfl
/-- The changes that aren't sure. -/
structure ChAt (w : World) (d : Nat) (b : DBox) (RA C : Option Addr) (cn cc : Nat) (css : List Value) : Prop where
  is : b.changes = .slice C cn cc
  line : SLine 1 w C cn cc css
  apart : d ∉ blk C
  apart2 : ∀ k ∈ blk C, k ∉ blk RA
  len : cn ≤ 90000
theorem ChAt.below {w w' : World} {d : Nat} {b : DBox} {RA C : Option Addr} {cn cc : Nat} {css : List Value} (h : ChAt w d b RA C cn cc css) (hb : Below w.heap.size w w') : ChAt w' d b RA C cn cc css := ⟨h.is, h.line.below hb, h.apart, h.apart2, h.len⟩
theorem ChAt.chg {w w' : World} {d : Nat} {b : DBox} {RA C : Option Addr} {cn cc : Nat} {css : List Value} (h : ChAt w d b RA C cn cc css) (hc : Chg [d] w w') (b' : DBox) (hb : b'.changes = b.changes) : ChAt w' d b' RA C cn cc css :=
  ⟨hb.trans h.is, h.line.chg hc (fun k hk hm => by rw [List.mem_singleton] at hm; rw [hm] at hk; exact h.apart hk), h.apart, h.apart2, h.len⟩
/-- What a change of the directory leaves: the change itself in block pb. -/
def Turned (w : World) (d : Nat) (b : DBox) (RA C : Option Addr) (cn : Nat) (ps : List (ByteArray × Value)) (css : List Value) (chs : List (ByteArray × Value)) (w' : World) : Prop :=
  ∃ A' n' c' C' cc' pb, DBoxAt w' d { b with now := .slice A' n' c', changes := .slice C' (cn + 1) cc' } ∧ RowG encS ltS w' A' n' c' (layP ps chs) ∧ SLine 1 w' C' (cn + 1) cc' (css ++ [.slice (some ⟨pb, 0, none⟩) chs.length chs.length]) ∧
    SLine 2 w' (some ⟨pb, 0, none⟩) chs.length chs.length (cellsP encS chs) ∧ Chg (d :: (blk RA ++ blk C)) w w' ∧ (∀ k ∈ blk A', k ∈ blk RA ∨ w.heap.size ≤ k) ∧ (∀ k ∈ blk C', k ∈ blk C ∨ w.heap.size ≤ k) ∧ (∀ k ∈ blk C', k ∉ blk A') ∧
    w.heap.size ≤ pb ∧ pb ∉ blk A' ∧ pb ∉ blk C'
theorem Turned.from {w w1 w' : World} {d : Nat} {b : DBox} {RA C : Option Addr} {cn : Nat} {ps : List (ByteArray × Value)} {css : List Value} {chs : List (ByteArray × Value)} (h : Turned w1 d b RA C cn ps css chs w') (hc : Chg [d] w w1) : Turned w d b RA C cn ps css chs w' := by
  obtain ⟨A', n', c', C', cc', pb, h1, h2, h3, h4, h5, h6, h7, h8, h9, h10⟩ := h
  have := hc.size
  exact ⟨A', n', c', C', cc', pb, h1, h2, h3, h4, (hc.weaken (fun k hk => .inl (by rw [List.mem_singleton] at hk; rw [hk]; exact List.mem_cons_self ..))).trans h5, fun k hk => (h6 k hk).imp id (fun h => by omega), fun k hk => (h7 k hk).imp id (fun h => by omega), h8, by omega, h10⟩
section
variable {w : World} {d : Nat} {b : DBox} {RA C : Option Addr} {rn rc cn cc : Nat} {ps : List (ByteArray × Value)} {css : List Value}
set_option maxHeartbeats 800000 in
theorem turn_fresh (hD : DBoxAt w d b) (hnow : b.now = .slice RA rn rc) (hrow : RowG encS ltS w RA rn rc ps) (hap : d ∉ blk RA) (hrn : rn ≤ 90000) (H : ChAt w d b RA C cn cc css) (cs : Array Value) (T : TypeId) (chs : List (ByteArray × Value)) (hcs : cs.toList = cellsP encS chs) (hk : chs.length ≤ 2) (m : Nat) (hm : chs.length = m) (hsh : ∀ p ∈ chs, ∃ a : Option Addr, p.2 = .pointer a) :
    Calls Try.prog 48 #[.pointer (some ⟨d, 0, none⟩), .slice (some ⟨w.heap.size, 0, none⟩) m m] (w.alloc (.cells cs T)) fun e w' => (∃ v, e = .returned v) ∧ Turned w d b RA C cn ps css chs w' := by
  subst hm
  have hb : Below w.heap.size w (w.alloc (.cells cs T)) := (Below.refl _ w).alloc (Nat.le_refl _) _
  have hsz : (w.alloc (.cells cs T)).heap.size = w.heap.size + 1 := by simp
  have hline := fresh_line 2 w cs T chs.length _ hcs (by rw [cellsP_length]) (by omega)
  have hd := hD.lt
  have hRl : ∀ k ∈ blk RA, k < w.heap.size := hrow.lt'
  have hCl : ∀ k ∈ blk C, k < w.heap.size := H.line.lt
  have hfb : ∀ k ∈ blk (some (⟨w.heap.size, 0, none⟩ : Addr)), k = w.heap.size := fun k hk => by obtain ⟨ad, ea, he⟩ := mem_blk.1 hk; cases ea; exact he.symm
  refine (turnNames_any _ d b (hD.below hb) RA rn rc hnow ps (hrow.below hb) C cn cc H.is css (H.line.below hb) _ chs.length chs.length chs hline hsh hap H.apart (fun hm => by have := hfb _ hm; omega) (fun k hk hm => by have := hfb k hk; have := hRl k hm; omega) H.apart2 (by omega) (by have := H.len; omega)).mono ?_
  rintro e w' ⟨he, A', n', c', C', cc', h1, h2, h3, h4, h5, h6, h7⟩
  rw [hsz] at h5 h6
  have hpA : w.heap.size ∉ blk A' := fun hm => by
    rcases h5 _ hm with h | h
    · have := hRl _ h; omega
    · omega
  have hpC : w.heap.size ∉ blk C' := fun hm => by
    rcases h6 _ hm with h | h
    · have := hCl _ h; omega
    · omega
  refine ⟨he, A', n', c', C', cc', w.heap.size, h1, h2, h3, hline.chg h4 (fun k hk hm => ?_), (Chg.of_below hb).trans h4, fun k hk => (h5 k hk).imp id (fun h => by omega), fun k hk => (h6 k hk).imp id (fun h => by omega), h7, Nat.le_refl _, hpA, hpC⟩
  have e1 := hfb k hk
  rw [List.mem_cons, List.mem_append] at hm
  rcases hm with h | h | h
  · omega
  · have := hRl k h; omega
  · have := hCl k h; omega
set_option maxHeartbeats 800000 in
theorem remove_yes (H : NowAt w d b RA rn rc ps) (HC : ChAt w d b RA C cn cc css) (nm : ByteArray) (hsz : nm.size ≤ 1000000) (hE : withE b [nm] ps nm = 0) (f : Option Addr) (hF : withF b [nm] ps nm = .pointer f) :
    Calls Try.prog 38 #[.pointer (some ⟨d, 0, none⟩), .string nm] w fun e w' => e = .returned (.int .i64 0) ∧ Turned w d (poweredB b) RA C cn ps css [(nm, .pointer none)] w' := by
  have HW := Lib.hid (with1 H nm hsz)
  rw [hF, hE] at HW
  have HNX : Hid (∀ w1, DBoxAt w1 d (poweredB b) → Chg [d] w w1 → Calls Try.prog 48 #[.pointer (some ⟨d, 0, none⟩), .slice (some ⟨w1.heap.size, 0, none⟩) 1 1] (w1.alloc (.cells #[.string nm, .pointer none] 94)) fun e w' => (∃ v, e = .returned v) ∧ Turned w d (poweredB b) RA C cn ps css [(nm, .pointer none)] w') := Lib.hid fun w1 h1 hc => by
    refine (turn_fresh h1 ((powered_now b).trans H.now) (H.row.chg hc (fun k hk hm => by rw [List.mem_singleton] at hm; rw [hm] at hk; exact H.apart hk)) H.apart H.len (HC.chg hc _ (powered_changes b)) _ _ [(nm, .pointer none)] rfl (by simp) 1 rfl (fun p hp => by rw [List.mem_singleton] at hp; rw [hp]; exact ⟨_, rfl⟩)).mono ?_
    rintro e w' ⟨he, ht⟩
    exact ⟨he, ht.from hc⟩
  clear hE hF H HC
  go_enter Try.func38, Try.ntmps38
  go_wp2_with fail
  refine HW.out.mono ?_
  rintro e w1 ⟨rfl, hd1, hc1⟩
  have HT := Lib.hid (HNX.out w1 hd1 hc1)
  clear hd1 hc1 HNX HW
  go_wp2_with fail
  refine HT.out.mono ?_
  rintro e w2 ⟨⟨v, rfl⟩, ht⟩
  have HX := Lib.hid ht
  clear ht HT
  go_wp2
  go_ret
  exact ⟨rfl, HX.out⟩
set_option maxHeartbeats 800000 in
theorem rename_yes (H : NowAt w d b RA rn rc ps) (HC : ChAt w d b RA C cn cc css) (nm nm2 : ByteArray) (hsz : nm.size ≤ 1000000) (hsz2 : nm2.size ≤ 1000000) (hE : withE b [nm, nm2] ps nm = 0) (f : Option Addr) (hF : withF b [nm, nm2] ps nm = .pointer f) :
    Calls Try.prog 30 #[.pointer (some ⟨d, 0, none⟩), .string nm, .string nm2] w fun e w' => e = .returned (.int .i64 0) ∧ Turned w d (poweredB b) RA C cn ps css [(nm, .pointer none), (nm2, .pointer f)] w' := by
  have HW := Lib.hid (with2 H nm nm2 hsz hsz2)
  rw [hF, hE] at HW
  have HNX : Hid (∀ w1, DBoxAt w1 d (poweredB b) → Chg [d] w w1 → Calls Try.prog 48 #[.pointer (some ⟨d, 0, none⟩), .slice (some ⟨w1.heap.size, 0, none⟩) 2 2] (w1.alloc (.cells #[.string nm, .pointer none, .string nm2, .pointer f] 94)) fun e w' => (∃ v, e = .returned v) ∧ Turned w d (poweredB b) RA C cn ps css [(nm, .pointer none), (nm2, .pointer f)] w') := Lib.hid fun w1 h1 hc => by
    refine (turn_fresh h1 ((powered_now b).trans H.now) (H.row.chg hc (fun k hk hm => by rw [List.mem_singleton] at hm; rw [hm] at hk; exact H.apart hk)) H.apart H.len (HC.chg hc _ (powered_changes b)) _ _ [(nm, .pointer none), (nm2, .pointer f)] rfl (by simp) 2 rfl (fun p hp => by simp only [List.mem_cons, List.not_mem_nil, or_false] at hp; rcases hp with rfl | rfl <;> exact ⟨_, rfl⟩)).mono ?_
    rintro e w' ⟨he, ht⟩
    exact ⟨he, ht.from hc⟩
  clear hE hF H HC
  go_enter Try.func30, Try.ntmps30
  go_wp2_with fail
  refine HW.out.mono ?_
  rintro e w1 ⟨rfl, hd1, hc1⟩
  have HT := Lib.hid (HNX.out w1 hd1 hc1)
  clear hd1 hc1 HNX HW
  go_wp2_with fail
  refine HT.out.mono ?_
  rintro e w2 ⟨⟨v, rfl⟩, ht⟩
  have HX := Lib.hid ht
  clear ht HT
  go_wp2
  go_ret
  exact ⟨rfl, HX.out⟩
end
end Go.Proofs.Ytnjnlcmpfnabiaa
