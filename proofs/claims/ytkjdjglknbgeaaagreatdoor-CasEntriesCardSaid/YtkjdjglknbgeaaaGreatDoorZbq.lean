/-
  How a file is laid whose bytes are sure ahead of its name: the contract of cas's lay.
  Contracts of cas's Get, Put and Drop, told of the abstract disk.
-/
import Derived.Test.YtkjdjglknbgeaaaGreatDoorZbn
import Derived.Test.YtkjdjglknbgeaaaGreatDoorZbi
import Derived.Laws.EntriesVeiled
import Derived.Test.YtkjdjglknbgeaaaGreatDoorZbo
namespace Go.Proofs.YtkjdjglknbgeaaaGreatDoor
open Go.RowKit Go.Shelf
set_option linter.unusedVariables false
set_option maxRecDepth 100000

theorem two_newL (w : World) (x y : Obj) : ((w.alloc x).alloc y).heap[w.heap.size + 1]? = some y ∧ ((w.alloc x).alloc y).heap[w.heap.size]? = some x ∧ Below w.heap.size w ((w.alloc x).alloc y) := by
  refine ⟨?_, (Below.heap_alloc _ _ _ (by simp)).trans (heap_alloc_new w x), ((Below.refl _ w).alloc (Nat.le_refl _) _).alloc (by simp) _⟩
  have := heap_alloc_new (w.alloc x) y
  rw [World.size_alloc] at this
  exact this
/-- Steps one behind the other, till one goes wrong; where there was no room, the other file goes again. -/
def runL (y : ByteArray) : List (RD → Int × RD) → RD → Int × RD
  | [], r => (0, r)
  | f :: fs, r => if (f r).1 = 0 then runL y fs (f r).2 else if (f r).1 = 4 then (4, ((f r).2.remove y).2) else f r
def layS (x y : ByteArray) (bs : List Value) : List (RD → Int × RD) := [fun r => r.create y, fun r => r.append y bs, fun r => r.sync y, fun r => r.rename y x, fun r => r.syncDir]
def tmpB : ByteArray := ⟨#[46, 116, 109, 112]⟩
def layR (r : RD) (x : ByteArray) (bs : List Value) : Int × RD := runL (x ++ tmpB) (layS x (x ++ tmpB) bs) r
def LayK (w : World) (d : Nat) (own : Nat → Nat) (a2 : Int) (r2 : RD) (e : Ending) (w' : World) : Prop := e = .returned (.int .i64 a2) ∧ DNext w d own r2 w'
theorem syncDirF_enters : Enters Tryz.prog 56 := enters_of Tryz.func56 (by kernel_rfl) rfl
theorem lay1_enters : Enters Tryz.prog 91 := enters_of Tryz.func91 (by kernel_rfl) rfl
theorem lay2_enters : Enters Tryz.prog 92 := enters_of Tryz.func92 (by kernel_rfl) rfl
theorem lay3_enters : Enters Tryz.prog 93 := enters_of Tryz.func93 (by kernel_rfl) rfl
theorem lay4_enters : Enters Tryz.prog 95 := enters_of Tryz.func95 (by kernel_rfl) rfl
section
variable (W : World) (p q s d : Nat) (x y : ByteArray) (K : Int → World → Prop)
theorem lay1_any (k0 : W.cell? ⟨p, 0, none⟩ = some (.pointer (some ⟨d, 0, none⟩))) (k1 : W.cell? ⟨q, 0, none⟩ = some (.string x))
    (h : Calls Tryz.prog 38 #[.pointer (some ⟨d, 0, none⟩), .string x] W fun e w' => ∃ a, e = .returned (.int .i64 a) ∧ K a w') :
    Calls Tryz.prog 91 #[.pointer (some ⟨p, 0, none⟩), .pointer (some ⟨q, 0, none⟩)] W fun e w' => ∃ a, e = .returned (.int .i64 a) ∧ K a w' := by
  have HC := Lib.hid h
  clear h
  go_enter Tryz.func91, Tryz.ntmps91
  go_wp2_with (with_reducible refine HC.out.mono ?_; rintro e w1 ⟨a, rfl, hK⟩; have HK := Lib.hid hK; clear hK)
  go_ret
  exact ⟨a, rfl, HK.out⟩
theorem lay2_any (A : Option Addr) (n c : Nat) (k0 : W.cell? ⟨p, 0, none⟩ = some (.pointer (some ⟨d, 0, none⟩))) (k1 : W.cell? ⟨q, 0, none⟩ = some (.string x)) (k2 : W.cell? ⟨s, 0, none⟩ = some (.slice A n c))
    (h : Calls Tryz.prog 39 #[.pointer (some ⟨d, 0, none⟩), .string x, .slice A n c] W fun e w' => ∃ a, e = .returned (.int .i64 a) ∧ K a w') :
    Calls Tryz.prog 92 #[.pointer (some ⟨p, 0, none⟩), .pointer (some ⟨q, 0, none⟩), .pointer (some ⟨s, 0, none⟩)] W fun e w' => ∃ a, e = .returned (.int .i64 a) ∧ K a w' := by
  have HC := Lib.hid h
  clear h
  go_enter Tryz.func92, Tryz.ntmps92
  go_wp2_with (with_reducible refine HC.out.mono ?_; rintro e w1 ⟨a, rfl, hK⟩; have HK := Lib.hid hK; clear hK)
  go_ret
  exact ⟨a, rfl, HK.out⟩
theorem lay3_any (k0 : W.cell? ⟨p, 0, none⟩ = some (.pointer (some ⟨d, 0, none⟩))) (k1 : W.cell? ⟨q, 0, none⟩ = some (.string x))
    (h : Calls Tryz.prog 94 #[.pointer (some ⟨d, 0, none⟩), .string x] W fun e w' => ∃ a, e = .returned (.int .i64 a) ∧ K a w') :
    Calls Tryz.prog 93 #[.pointer (some ⟨p, 0, none⟩), .pointer (some ⟨q, 0, none⟩)] W fun e w' => ∃ a, e = .returned (.int .i64 a) ∧ K a w' := by
  have HC := Lib.hid h
  clear h
  go_enter Tryz.func93, Tryz.ntmps93
  go_wp2_with (with_reducible refine HC.out.mono ?_; rintro e w1 ⟨a, rfl, hK⟩; have HK := Lib.hid hK; clear hK)
  go_ret
  exact ⟨a, rfl, HK.out⟩
theorem lay4_any (k0 : W.cell? ⟨p, 0, none⟩ = some (.pointer (some ⟨d, 0, none⟩))) (k1 : W.cell? ⟨q, 0, none⟩ = some (.string x)) (k2 : W.cell? ⟨s, 0, none⟩ = some (.string y))
    (h : Calls Tryz.prog 96 #[.pointer (some ⟨d, 0, none⟩), .string x, .string y] W fun e w' => ∃ a, e = .returned (.int .i64 a) ∧ K a w') :
    Calls Tryz.prog 95 #[.pointer (some ⟨p, 0, none⟩), .pointer (some ⟨q, 0, none⟩), .pointer (some ⟨s, 0, none⟩)] W fun e w' => ∃ a, e = .returned (.int .i64 a) ∧ K a w' := by
  have HC := Lib.hid h
  clear h
  go_enter Tryz.func95, Tryz.ntmps95
  go_wp2_with (with_reducible refine HC.out.mono ?_; rintro e w1 ⟨a, rfl, hK⟩; have HK := Lib.hid hK; clear hK)
  go_ret
  exact ⟨a, rfl, HK.out⟩
end
set_option maxHeartbeats 3200000 in
theorem claid_any (w : World) (d : Nat) (own : Nat → Nat) (r : RD) (x : ByteArray) (A : Option Addr) (n c : Nat) (l : List Nat) (hD : IsD w d own r) (hx : x.size ≤ 900000) (hs : r.size + 40 ≤ 80000) (hR : RowN w A n l) (hn : n ≤ 1000000) (hown : ∀ k ∈ blk A, own k = 0) :
    Calls Tryz.prog 59 #[.pointer (some ⟨d, 0, none⟩), .string x, .slice A n c] w fun e w' => e = .returned (.int .i64 (layR r x (cellsZ (asZ l))).1) ∧ DNext w d own (layR r x (cellsZ (asZ l))).2 w' := by
  have hmf : ∀ (fn : Fn) (first cap : Array Value) (w : World), (Instr.makeFunc fn first cap).run Tryz.prog w = .ok (.func fn first cap) w := fun _ _ _ _ => rfl
  obtain ⟨hh, hhe⟩ : ∃ hh, w.heap.size = hh := ⟨_, rfl⟩
  obtain ⟨y, hy⟩ : ∃ y, x ++ tmpB = y := ⟨_, rfl⟩
  have hys : y.size = x.size + 4 := by rw [← hy, ByteArray.size_append]; rfl
  obtain ⟨out, hout⟩ : ∃ out, layR r x (cellsZ (asZ l)) = out := ⟨_, rfl⟩
  rw [hout]
  unfold layR at hout
  rw [hy] at hout
  unfold tmpB at hy
  obtain ⟨W5, hW5⟩ : ∃ W5, ((((w.alloc (.cells #[.pointer (some ⟨d, 0, none⟩)] 35)).alloc (.cells #[.string x] 9)).alloc (.cells #[.slice A n c] 22)).alloc (.cells #[.string y] 9)).alloc (.cells #[.func (.func 91) #[] #[.pointer (some ⟨hh, 0, none⟩), .pointer (some ⟨hh + 1 + 1 + 1, 0, none⟩)], .func (.func 92) #[] #[.pointer (some ⟨hh, 0, none⟩), .pointer (some ⟨hh + 1 + 1 + 1, 0, none⟩), .pointer (some ⟨hh + 1 + 1, 0, none⟩)], .func (.func 93) #[] #[.pointer (some ⟨hh, 0, none⟩), .pointer (some ⟨hh + 1 + 1 + 1, 0, none⟩)], .func (.func 95) #[] #[.pointer (some ⟨hh, 0, none⟩), .pointer (some ⟨hh + 1 + 1 + 1, 0, none⟩), .pointer (some ⟨hh + 1, 0, none⟩)], .func (.func 56) #[.pointer (some ⟨d, 0, none⟩)] #[]] 101) = W5 := ⟨_, rfl⟩
  have HW5 := Lib.hid hW5
  obtain ⟨W1, hW1⟩ : ∃ W1, (w.alloc (.cells #[.pointer (some ⟨d, 0, none⟩)] 35)).alloc (.cells #[.string x] 9) = W1 := ⟨_, rfl⟩
  have HW1 := Lib.hid hW1
  have hb1 : Below w.heap.size w W1 := by rw [← hW1]; exact (two_newL w _ _).2.2
  have hs1 : W1.heap.size = hh + 2 := by rw [← hW1, ← hhe]; simp
  have k0 : W1.heap[hh]? = some (.cells #[.pointer (some ⟨d, 0, none⟩)] 35 (0, 0)) := by rw [← hW1, ← hhe]; exact (two_newL w _ _).2.1
  have k1 : W1.heap[hh + 1]? = some (.cells #[.string x] 9 (0, 0)) := by rw [← hW1, ← hhe]; exact (two_newL w _ _).1
  clear hW1
  obtain ⟨W2, hW2⟩ : ∃ W2, (W1.alloc (.cells #[.slice A n c] 22)).alloc (.cells #[.string y] 9) = W2 := ⟨_, rfl⟩
  have HW2 := Lib.hid hW2
  have hb2 : Below W1.heap.size W1 W2 := by rw [← hW2]; exact (two_newL W1 _ _).2.2
  have hs2 : W2.heap.size = hh + 4 := by rw [← hW2]; simp [hs1]
  have k2 : W2.heap[hh + 2]? = some (.cells #[.slice A n c] 22 (0, 0)) := by rw [← hW2, ← hs1]; exact (two_newL W1 _ _).2.1
  have k3 : W2.heap[hh + 3]? = some (.cells #[.string y] 9 (0, 0)) := by rw [← hW2, show hh + 3 = W1.heap.size + 1 by omega]; exact (two_newL W1 _ _).1
  clear hW2
  have e5 : W2.alloc (.cells #[.func (.func 91) #[] #[.pointer (some ⟨hh, 0, none⟩), .pointer (some ⟨hh + 1 + 1 + 1, 0, none⟩)], .func (.func 92) #[] #[.pointer (some ⟨hh, 0, none⟩), .pointer (some ⟨hh + 1 + 1 + 1, 0, none⟩), .pointer (some ⟨hh + 1 + 1, 0, none⟩)], .func (.func 93) #[] #[.pointer (some ⟨hh, 0, none⟩), .pointer (some ⟨hh + 1 + 1 + 1, 0, none⟩)], .func (.func 95) #[] #[.pointer (some ⟨hh, 0, none⟩), .pointer (some ⟨hh + 1 + 1 + 1, 0, none⟩), .pointer (some ⟨hh + 1, 0, none⟩)], .func (.func 56) #[.pointer (some ⟨d, 0, none⟩)] #[]] 101) = W5 := by rw [← HW2.out, ← HW1.out]; exact HW5.out
  have hb5 : Below W2.heap.size W2 W5 := by rw [← e5]; exact (Below.refl _ W2).alloc (Nat.le_refl _) _
  have hs5 : W5.heap.size = hh + 5 := by rw [← e5]; simp [hs2]
  have k4 : W5.heap[hh + 4]? = some (.cells #[.func (.func 91) #[] #[.pointer (some ⟨hh, 0, none⟩), .pointer (some ⟨hh + 1 + 1 + 1, 0, none⟩)], .func (.func 92) #[] #[.pointer (some ⟨hh, 0, none⟩), .pointer (some ⟨hh + 1 + 1 + 1, 0, none⟩), .pointer (some ⟨hh + 1 + 1, 0, none⟩)], .func (.func 93) #[] #[.pointer (some ⟨hh, 0, none⟩), .pointer (some ⟨hh + 1 + 1 + 1, 0, none⟩)], .func (.func 95) #[] #[.pointer (some ⟨hh, 0, none⟩), .pointer (some ⟨hh + 1 + 1 + 1, 0, none⟩), .pointer (some ⟨hh + 1, 0, none⟩)], .func (.func 56) #[.pointer (some ⟨d, 0, none⟩)] #[]] 101 (0, 0)) := by rw [← e5, ← hs2]; exact heap_alloc_new W2 _
  have j0 := (hb5.block hh (by omega)).trans ((hb2.block hh (by omega)).trans k0)
  have j1 := (hb5.block (hh + 1) (by omega)).trans ((hb2.block (hh + 1) (by omega)).trans k1)
  have j2 := (hb5.block (hh + 2) (by omega)).trans k2
  have j3 := (hb5.block (hh + 3) (by omega)).trans k3
  have hbw : Below w.heap.size w W5 := hb1.trans ((hb2.trans (hb5.mono hb2.size)).mono hb1.size)
  have hD5 := hD.below hbw
  have hO5 : Only own w own W5 := Only.of_below own hbw
  have HZ : Hid (∀ k, hh ≤ k → own k = 0) := Lib.hid (fun k hk => hD.1 k (by omega))
  have HJ0 := Lib.hid j0
  have HJ1 := Lib.hid j1
  have HJ2 := Lib.hid j2
  have HJ3 := Lib.hid j3
  have HJ4 := Lib.hid k4
  have HO5 := Lib.hid hO5
  have HD5 := Lib.hid hD5
  have HS5 := Lib.hid hs5
  have HR := Lib.hid (hR.below hbw)
  have HOWN := Lib.hid hown
  have HOUT := Lib.hid hout
  have HHE := Lib.hid hhe
  clear hb1 hs1 k0 k1 hb2 hs2 k2 k3 e5 hb5 hs5 k4 j0 j1 j2 j3 hbw hD5 hO5 hD hR hown hout HW5 HW2 HW1
  go_enter Tryz.func59, Tryz.ntmps59
  go_wp2_with fail
  go_loopw [23] (fun i wr => ∃ k : Nat, k ≤ 5 ∧ i = .int .i64 k ∧ ∃ own' r', Hid (Only own W5 own' wr ∧ IsD wr d own' r' ∧ r'.size ≤ r.size + 4 * k ∧ out = runL y ((layS x y (cellsZ (asZ l))).drop k) r')) (fun i _ => 5 - (intOf i).toNat)
  case atStart => exact ⟨0, by omega, rfl, own, r, Lib.hid ⟨Only.refl own W5, HD5.out, by omega, HOUT.out.symm⟩⟩
  case round =>
    obtain ⟨k, hk, rfl, own', r', HI⟩ := hrel
    obtain ⟨hO, hDr, hsz, hrun⟩ := HI.out
    have hz5 := HS5.out
    have b0 := (hO.2.2 hh (by omega) (HZ.out _ (by omega))).trans HJ0.out
    have b1 := (hO.2.2 (hh + 1) (by omega) (HZ.out _ (by omega))).trans HJ1.out
    have b2 := (hO.2.2 (hh + 2) (by omega) (HZ.out _ (by omega))).trans HJ2.out
    have b3 := (hO.2.2 (hh + 3) (by omega) (HZ.out _ (by omega))).trans HJ3.out
    have b4 := (hO.2.2 (hh + 4) (by omega) (HZ.out _ (by omega))).trans HJ4.out
    have y0 := cell_of_one b0
    have y1 := cell_of_one b1
    have y2 := cell_of_one b2
    have y3 := cell_of_one b3
    obtain ⟨F, _⟩ := hDr.fct
    have HO := Lib.hid hO
    have hk5 : k = 0 ∨ k = 1 ∨ k = 2 ∨ k = 3 ∨ k = 4 ∨ k = 5 := by omega
    rcases hk5 with rfl | rfl | rfl | rfl | rfl | rfl
    · obtain ⟨a2, r2, hp⟩ : ∃ a2 r2, r'.create y = (a2, r2) := ⟨_, _, rfl⟩
      have hz2 : r2.size ≤ r'.size + 4 := by have h := size_create (r := r') y; rw [hp] at h; exact h
      have hcell : wr.cell? ⟨hh + 1 + 1 + 1 + 1, 0, none⟩ = some (.func (.func 91) #[] #[.pointer (some ⟨hh, 0, none⟩), .pointer (some ⟨hh + 1 + 1 + 1, 0, none⟩)]) := (cell_of_row _ (hh + 4) 0 _ _ (0, 0) b4).trans rfl
      have HC : Hid (Calls Tryz.prog 91 #[.pointer (some ⟨hh, 0, none⟩), .pointer (some ⟨hh + 1 + 1 + 1, 0, none⟩)] wr (LayK wr d own' a2 r2)) := Lib.hid ((lay1_any wr hh (hh + 1 + 1 + 1) d y (fun a w' => a = a2 ∧ DNext wr d own' r2 w') y0 y3 (by have hq := (hDr.create (by omega) y (by omega)); rw [hp] at hq; refine hq.mono fun e w' hh => ⟨a2, hh.1, rfl, hh.2⟩)).mono fun e w' ⟨a, e1, e2, h⟩ => ⟨by rw [e1, e2], h⟩)
      have hen := lay1_enters
      have HRUN : Hid (out = if a2 = 0 then runL y ((layS x y (cellsZ (asZ l))).drop 1) r2 else if a2 = 4 then (4, (r2.remove y).2) else (a2, r2)) := Lib.hid (by
        rw [hrun]
        show (if (r'.create y).1 = 0 then runL y ((layS x y (cellsZ (asZ l))).drop 1) (r'.create y).2 else if (r'.create y).1 = 4 then (4, ((r'.create y).2.remove y).2) else r'.create y) = _
        rw [hp])
      have HZ2 := Lib.hid (And.intro hz2 hsz)
      clear hrun hO hDr hsz hp b0 b1 b2 b3 b4 HI hz2 F
      by_cases h0 : a2 = 0
      · subst h0
        rw [if_pos rfl] at HRUN
        go_wp2_with (go_at_call 91; (with_reducible refine HC.out.mono ?_); rintro e w2 ⟨rfl, own2, hO2, hD2⟩; have HX2 := Lib.hid (And.intro hO2 hD2); clear hO2 hD2)
        go_roundw
        case rel => exact ⟨1, by omega, by simp, own2, r2, Lib.hid ⟨HO.out.trans HX2.out.1, HX2.out.2, by have := HZ2.out; omega, HRUN.out⟩⟩
        case measure => simp [intOf]
      · rw [if_neg h0] at HRUN
        have h0b : (a2 == 0) = false := by rw [beq_eq_false_iff_ne]; exact h0
        by_cases h4 : a2 = 4
        · subst h4
          rw [if_pos rfl] at HRUN
          go_wp2_with (first
            | (go_at_call 91; (with_reducible refine HC.out.mono ?_); rintro e w2 ⟨rfl, own2, hO2, hD2⟩
               have HREM := Lib.hid (hD2.remove (by have := HZ2.out; omega) y (by omega))
               have hz5 := HS5.out
               have y0' := cell_of_one (((HO.out.trans hO2).2.2 hh (by omega) (HZ.out _ (by omega))).trans HJ0.out)
               have y3' := cell_of_one (((HO.out.trans hO2).2.2 (hh + 3) (by omega) (HZ.out _ (by omega))).trans HJ3.out)
               have HX2 := Lib.hid (And.intro hO2 hD2); clear hO2 hD2)
            | (go_at_call 55; (with_reducible refine HREM.out.mono ?_); rintro e w3 ⟨rfl, own3, hO3, hD3⟩; have HX3 := Lib.hid (And.intro hO3 hD3); clear hO3 hD3))
          go_ret
          rw [HRUN.out]
          exact ⟨rfl, own3, HO5.out.trans (HO.out.trans (HX2.out.1.trans HX3.out.1)), HX3.out.2⟩
        · rw [if_neg h4] at HRUN
          have h4b : (a2 == 4) = false := by rw [beq_eq_false_iff_ne]; exact h4
          go_wp2_with (go_at_call 91; (with_reducible refine HC.out.mono ?_); rintro e w2 ⟨rfl, own2, hO2, hD2⟩; have HX2 := Lib.hid (And.intro hO2 hD2); clear hO2 hD2)
          go_ret
          rw [HRUN.out]
          exact ⟨rfl, own2, HO5.out.trans (HO.out.trans HX2.out.1), HX2.out.2⟩
    · obtain ⟨a2, r2, hp⟩ : ∃ a2 r2, r'.append y (cellsZ (asZ l)) = (a2, r2) := ⟨_, _, rfl⟩
      have hz2 : r2.size ≤ r'.size + 4 := by have h := size_append (r := r') y (cellsZ (asZ l)); rw [hp] at h; exact h
      have hcell : wr.cell? ⟨hh + 1 + 1 + 1 + 1, 1, none⟩ = some (.func (.func 92) #[] #[.pointer (some ⟨hh, 0, none⟩), .pointer (some ⟨hh + 1 + 1 + 1, 0, none⟩), .pointer (some ⟨hh + 1 + 1, 0, none⟩)]) := (cell_of_row _ (hh + 4) 1 _ _ (0, 0) b4).trans rfl
      have hap : Calls Tryz.prog 39 #[.pointer (some ⟨d, 0, none⟩), .string y, .slice A n c] wr fun e w' => e = .returned (.int .i64 a2) ∧ DNext wr d own' r2 w' := by
        have hrow : RowZ wr A n (asZ l) := RowZ.only HR.out hO (fun ad e => HOWN.out ad.block (mem_blk.2 ⟨ad, e, rfl⟩))
        have hnl := hrow.1
        refine (hDr.append (by omega) y (by omega) A n c (by omega) (cellsZ (asZ l)) (by rw [cellsZ_length]; exact hnl) (bytes_cellsZ hrow.2.1) (fun V hc => ?_)).mono fun e w' hh => by rw [hp] at hh; exact hh
        rcases Nat.eq_zero_or_pos n with h00 | h00
        · exact RowZ.toSrc (w := V) (A := A) (n := n) (zs := asZ l) ⟨hrow.1, hrow.2.1, fun h => by omega⟩ c
        · refine (RowZ.chg hrow hc (fun k hk ad e he => ?_)).toSrc c
          rw [List.mem_singleton] at hk
          have h0 := HOWN.out ad.block (mem_blk.2 ⟨ad, e, rfl⟩)
          have hod := hDr.od
          rw [← hk, ← he] at hod
          obtain ⟨b, off, eA, hlt, _⟩ := HR.out.2.2 h00
          rw [eA] at e
          cases e
          exact hod ((hO.2.1 _ hlt).trans h0)
      have HC : Hid (Calls Tryz.prog 92 #[.pointer (some ⟨hh, 0, none⟩), .pointer (some ⟨hh + 1 + 1 + 1, 0, none⟩), .pointer (some ⟨hh + 1 + 1, 0, none⟩)] wr (LayK wr d own' a2 r2)) := Lib.hid ((lay2_any wr hh (hh + 1 + 1 + 1) (hh + 1 + 1) d y (fun a w' => a = a2 ∧ DNext wr d own' r2 w') A n c y0 y3 y2 (by have hq := hap; refine hq.mono fun e w' hh => ⟨a2, hh.1, rfl, hh.2⟩)).mono fun e w' ⟨a, e1, e2, h⟩ => ⟨by rw [e1, e2], h⟩)
      have hen := lay2_enters
      have HRUN : Hid (out = if a2 = 0 then runL y ((layS x y (cellsZ (asZ l))).drop 2) r2 else if a2 = 4 then (4, (r2.remove y).2) else (a2, r2)) := Lib.hid (by
        rw [hrun]
        show (if (r'.append y (cellsZ (asZ l))).1 = 0 then runL y ((layS x y (cellsZ (asZ l))).drop 2) (r'.append y (cellsZ (asZ l))).2 else if (r'.append y (cellsZ (asZ l))).1 = 4 then (4, ((r'.append y (cellsZ (asZ l))).2.remove y).2) else r'.append y (cellsZ (asZ l))) = _
        rw [hp])
      have HZ2 := Lib.hid (And.intro hz2 hsz)
      clear hrun hO hDr hsz hp b0 b1 b2 b3 b4 HI hz2 F hap
      by_cases h0 : a2 = 0
      · subst h0
        rw [if_pos rfl] at HRUN
        go_wp2_with (go_at_call 92; (with_reducible refine HC.out.mono ?_); rintro e w2 ⟨rfl, own2, hO2, hD2⟩; have HX2 := Lib.hid (And.intro hO2 hD2); clear hO2 hD2)
        go_roundw
        case rel => exact ⟨2, by omega, by simp, own2, r2, Lib.hid ⟨HO.out.trans HX2.out.1, HX2.out.2, by have := HZ2.out; omega, HRUN.out⟩⟩
        case measure => simp [intOf]
      · rw [if_neg h0] at HRUN
        have h0b : (a2 == 0) = false := by rw [beq_eq_false_iff_ne]; exact h0
        by_cases h4 : a2 = 4
        · subst h4
          rw [if_pos rfl] at HRUN
          go_wp2_with (first
            | (go_at_call 92; (with_reducible refine HC.out.mono ?_); rintro e w2 ⟨rfl, own2, hO2, hD2⟩
               have HREM := Lib.hid (hD2.remove (by have := HZ2.out; omega) y (by omega))
               have hz5 := HS5.out
               have y0' := cell_of_one (((HO.out.trans hO2).2.2 hh (by omega) (HZ.out _ (by omega))).trans HJ0.out)
               have y3' := cell_of_one (((HO.out.trans hO2).2.2 (hh + 3) (by omega) (HZ.out _ (by omega))).trans HJ3.out)
               have HX2 := Lib.hid (And.intro hO2 hD2); clear hO2 hD2)
            | (go_at_call 55; (with_reducible refine HREM.out.mono ?_); rintro e w3 ⟨rfl, own3, hO3, hD3⟩; have HX3 := Lib.hid (And.intro hO3 hD3); clear hO3 hD3))
          go_ret
          rw [HRUN.out]
          exact ⟨rfl, own3, HO5.out.trans (HO.out.trans (HX2.out.1.trans HX3.out.1)), HX3.out.2⟩
        · rw [if_neg h4] at HRUN
          have h4b : (a2 == 4) = false := by rw [beq_eq_false_iff_ne]; exact h4
          go_wp2_with (go_at_call 92; (with_reducible refine HC.out.mono ?_); rintro e w2 ⟨rfl, own2, hO2, hD2⟩; have HX2 := Lib.hid (And.intro hO2 hD2); clear hO2 hD2)
          go_ret
          rw [HRUN.out]
          exact ⟨rfl, own2, HO5.out.trans (HO.out.trans HX2.out.1), HX2.out.2⟩
    · obtain ⟨a2, r2, hp⟩ : ∃ a2 r2, r'.sync y = (a2, r2) := ⟨_, _, rfl⟩
      have hz2 : r2.size ≤ r'.size + 4 := by have h := size_sync (r := r') y; rw [hp] at h; exact h
      have hcell : wr.cell? ⟨hh + 1 + 1 + 1 + 1, 2, none⟩ = some (.func (.func 93) #[] #[.pointer (some ⟨hh, 0, none⟩), .pointer (some ⟨hh + 1 + 1 + 1, 0, none⟩)]) := (cell_of_row _ (hh + 4) 2 _ _ (0, 0) b4).trans rfl
      have HC : Hid (Calls Tryz.prog 93 #[.pointer (some ⟨hh, 0, none⟩), .pointer (some ⟨hh + 1 + 1 + 1, 0, none⟩)] wr (LayK wr d own' a2 r2)) := Lib.hid ((lay3_any wr hh (hh + 1 + 1 + 1) d y (fun a w' => a = a2 ∧ DNext wr d own' r2 w') y0 y3 (by have hq := (hDr.sync (by omega) y (by omega)); rw [hp] at hq; refine hq.mono fun e w' hh => ⟨a2, hh.1, rfl, hh.2⟩)).mono fun e w' ⟨a, e1, e2, h⟩ => ⟨by rw [e1, e2], h⟩)
      have hen := lay3_enters
      have HRUN : Hid (out = if a2 = 0 then runL y ((layS x y (cellsZ (asZ l))).drop 3) r2 else if a2 = 4 then (4, (r2.remove y).2) else (a2, r2)) := Lib.hid (by
        rw [hrun]
        show (if (r'.sync y).1 = 0 then runL y ((layS x y (cellsZ (asZ l))).drop 3) (r'.sync y).2 else if (r'.sync y).1 = 4 then (4, ((r'.sync y).2.remove y).2) else r'.sync y) = _
        rw [hp])
      have HZ2 := Lib.hid (And.intro hz2 hsz)
      clear hrun hO hDr hsz hp b0 b1 b2 b3 b4 HI hz2 F
      by_cases h0 : a2 = 0
      · subst h0
        rw [if_pos rfl] at HRUN
        go_wp2_with (go_at_call 93; (with_reducible refine HC.out.mono ?_); rintro e w2 ⟨rfl, own2, hO2, hD2⟩; have HX2 := Lib.hid (And.intro hO2 hD2); clear hO2 hD2)
        go_roundw
        case rel => exact ⟨3, by omega, by simp, own2, r2, Lib.hid ⟨HO.out.trans HX2.out.1, HX2.out.2, by have := HZ2.out; omega, HRUN.out⟩⟩
        case measure => simp [intOf]
      · rw [if_neg h0] at HRUN
        have h0b : (a2 == 0) = false := by rw [beq_eq_false_iff_ne]; exact h0
        by_cases h4 : a2 = 4
        · subst h4
          rw [if_pos rfl] at HRUN
          go_wp2_with (first
            | (go_at_call 93; (with_reducible refine HC.out.mono ?_); rintro e w2 ⟨rfl, own2, hO2, hD2⟩
               have HREM := Lib.hid (hD2.remove (by have := HZ2.out; omega) y (by omega))
               have hz5 := HS5.out
               have y0' := cell_of_one (((HO.out.trans hO2).2.2 hh (by omega) (HZ.out _ (by omega))).trans HJ0.out)
               have y3' := cell_of_one (((HO.out.trans hO2).2.2 (hh + 3) (by omega) (HZ.out _ (by omega))).trans HJ3.out)
               have HX2 := Lib.hid (And.intro hO2 hD2); clear hO2 hD2)
            | (go_at_call 55; (with_reducible refine HREM.out.mono ?_); rintro e w3 ⟨rfl, own3, hO3, hD3⟩; have HX3 := Lib.hid (And.intro hO3 hD3); clear hO3 hD3))
          go_ret
          rw [HRUN.out]
          exact ⟨rfl, own3, HO5.out.trans (HO.out.trans (HX2.out.1.trans HX3.out.1)), HX3.out.2⟩
        · rw [if_neg h4] at HRUN
          have h4b : (a2 == 4) = false := by rw [beq_eq_false_iff_ne]; exact h4
          go_wp2_with (go_at_call 93; (with_reducible refine HC.out.mono ?_); rintro e w2 ⟨rfl, own2, hO2, hD2⟩; have HX2 := Lib.hid (And.intro hO2 hD2); clear hO2 hD2)
          go_ret
          rw [HRUN.out]
          exact ⟨rfl, own2, HO5.out.trans (HO.out.trans HX2.out.1), HX2.out.2⟩
    · obtain ⟨a2, r2, hp⟩ : ∃ a2 r2, r'.rename y x = (a2, r2) := ⟨_, _, rfl⟩
      have hz2 : r2.size ≤ r'.size + 4 := by have h := size_rename (r := r') y x; rw [hp] at h; exact h
      have hcell : wr.cell? ⟨hh + 1 + 1 + 1 + 1, 3, none⟩ = some (.func (.func 95) #[] #[.pointer (some ⟨hh, 0, none⟩), .pointer (some ⟨hh + 1 + 1 + 1, 0, none⟩), .pointer (some ⟨hh + 1, 0, none⟩)]) := (cell_of_row _ (hh + 4) 3 _ _ (0, 0) b4).trans rfl
      have HC : Hid (Calls Tryz.prog 95 #[.pointer (some ⟨hh, 0, none⟩), .pointer (some ⟨hh + 1 + 1 + 1, 0, none⟩), .pointer (some ⟨hh + 1, 0, none⟩)] wr (LayK wr d own' a2 r2)) := Lib.hid ((lay4_any wr hh (hh + 1 + 1 + 1) (hh + 1) d y x (fun a w' => a = a2 ∧ DNext wr d own' r2 w') y0 y3 y1 (by have hq := (hDr.rename (by omega) y x (by omega) (by omega)); rw [hp] at hq; refine hq.mono fun e w' hh => ⟨a2, hh.1, rfl, hh.2⟩)).mono fun e w' ⟨a, e1, e2, h⟩ => ⟨by rw [e1, e2], h⟩)
      have hen := lay4_enters
      have HRUN : Hid (out = if a2 = 0 then runL y ((layS x y (cellsZ (asZ l))).drop 4) r2 else if a2 = 4 then (4, (r2.remove y).2) else (a2, r2)) := Lib.hid (by
        rw [hrun]
        show (if (r'.rename y x).1 = 0 then runL y ((layS x y (cellsZ (asZ l))).drop 4) (r'.rename y x).2 else if (r'.rename y x).1 = 4 then (4, ((r'.rename y x).2.remove y).2) else r'.rename y x) = _
        rw [hp])
      have HZ2 := Lib.hid (And.intro hz2 hsz)
      clear hrun hO hDr hsz hp b0 b1 b2 b3 b4 HI hz2 F
      by_cases h0 : a2 = 0
      · subst h0
        rw [if_pos rfl] at HRUN
        go_wp2_with (go_at_call 95; (with_reducible refine HC.out.mono ?_); rintro e w2 ⟨rfl, own2, hO2, hD2⟩; have HX2 := Lib.hid (And.intro hO2 hD2); clear hO2 hD2)
        go_roundw
        case rel => exact ⟨4, by omega, by simp, own2, r2, Lib.hid ⟨HO.out.trans HX2.out.1, HX2.out.2, by have := HZ2.out; omega, HRUN.out⟩⟩
        case measure => simp [intOf]
      · rw [if_neg h0] at HRUN
        have h0b : (a2 == 0) = false := by rw [beq_eq_false_iff_ne]; exact h0
        by_cases h4 : a2 = 4
        · subst h4
          rw [if_pos rfl] at HRUN
          go_wp2_with (first
            | (go_at_call 95; (with_reducible refine HC.out.mono ?_); rintro e w2 ⟨rfl, own2, hO2, hD2⟩
               have HREM := Lib.hid (hD2.remove (by have := HZ2.out; omega) y (by omega))
               have hz5 := HS5.out
               have y0' := cell_of_one (((HO.out.trans hO2).2.2 hh (by omega) (HZ.out _ (by omega))).trans HJ0.out)
               have y3' := cell_of_one (((HO.out.trans hO2).2.2 (hh + 3) (by omega) (HZ.out _ (by omega))).trans HJ3.out)
               have HX2 := Lib.hid (And.intro hO2 hD2); clear hO2 hD2)
            | (go_at_call 55; (with_reducible refine HREM.out.mono ?_); rintro e w3 ⟨rfl, own3, hO3, hD3⟩; have HX3 := Lib.hid (And.intro hO3 hD3); clear hO3 hD3))
          go_ret
          rw [HRUN.out]
          exact ⟨rfl, own3, HO5.out.trans (HO.out.trans (HX2.out.1.trans HX3.out.1)), HX3.out.2⟩
        · rw [if_neg h4] at HRUN
          have h4b : (a2 == 4) = false := by rw [beq_eq_false_iff_ne]; exact h4
          go_wp2_with (go_at_call 95; (with_reducible refine HC.out.mono ?_); rintro e w2 ⟨rfl, own2, hO2, hD2⟩; have HX2 := Lib.hid (And.intro hO2 hD2); clear hO2 hD2)
          go_ret
          rw [HRUN.out]
          exact ⟨rfl, own2, HO5.out.trans (HO.out.trans HX2.out.1), HX2.out.2⟩
    · obtain ⟨a2, r2, hp⟩ : ∃ a2 r2, r'.syncDir = (a2, r2) := ⟨_, _, rfl⟩
      have hz2 : r2.size ≤ r'.size + 4 := by have h := size_syncDir F; rw [hp] at h; exact h
      have hcell : wr.cell? ⟨hh + 1 + 1 + 1 + 1, 4, none⟩ = some (.func (.func 56) #[.pointer (some ⟨d, 0, none⟩)] #[]) := (cell_of_row _ (hh + 4) 4 _ _ (0, 0) b4).trans rfl
      have HC : Hid (Calls Tryz.prog 56 #[.pointer (some ⟨d, 0, none⟩)] wr (LayK wr d own' a2 r2)) := Lib.hid (by have hq := (hDr.syncDir (by omega)); rw [hp] at hq; exact hq.mono fun e w' hh => ⟨hh.1, hh.2⟩)
      have hen := syncDirF_enters
      have HRUN : Hid (out = if a2 = 0 then runL y ((layS x y (cellsZ (asZ l))).drop 5) r2 else if a2 = 4 then (4, (r2.remove y).2) else (a2, r2)) := Lib.hid (by
        rw [hrun]
        show (if (r'.syncDir).1 = 0 then runL y ((layS x y (cellsZ (asZ l))).drop 5) (r'.syncDir).2 else if (r'.syncDir).1 = 4 then (4, ((r'.syncDir).2.remove y).2) else r'.syncDir) = _
        rw [hp])
      have HZ2 := Lib.hid (And.intro hz2 hsz)
      clear hrun hO hDr hsz hp b0 b1 b2 b3 b4 HI hz2 F
      by_cases h0 : a2 = 0
      · subst h0
        rw [if_pos rfl] at HRUN
        go_wp2_with (go_at_call 56; (with_reducible refine HC.out.mono ?_); rintro e w2 ⟨rfl, own2, hO2, hD2⟩; have HX2 := Lib.hid (And.intro hO2 hD2); clear hO2 hD2)
        go_roundw
        case rel => exact ⟨5, by omega, by simp, own2, r2, Lib.hid ⟨HO.out.trans HX2.out.1, HX2.out.2, by have := HZ2.out; omega, HRUN.out⟩⟩
        case measure => simp [intOf]
      · rw [if_neg h0] at HRUN
        have h0b : (a2 == 0) = false := by rw [beq_eq_false_iff_ne]; exact h0
        by_cases h4 : a2 = 4
        · subst h4
          rw [if_pos rfl] at HRUN
          go_wp2_with (first
            | (go_at_call 56; (with_reducible refine HC.out.mono ?_); rintro e w2 ⟨rfl, own2, hO2, hD2⟩
               have HREM := Lib.hid (hD2.remove (by have := HZ2.out; omega) y (by omega))
               have hz5 := HS5.out
               have y0' := cell_of_one (((HO.out.trans hO2).2.2 hh (by omega) (HZ.out _ (by omega))).trans HJ0.out)
               have y3' := cell_of_one (((HO.out.trans hO2).2.2 (hh + 3) (by omega) (HZ.out _ (by omega))).trans HJ3.out)
               have HX2 := Lib.hid (And.intro hO2 hD2); clear hO2 hD2)
            | (go_at_call 55; (with_reducible refine HREM.out.mono ?_); rintro e w3 ⟨rfl, own3, hO3, hD3⟩; have HX3 := Lib.hid (And.intro hO3 hD3); clear hO3 hD3))
          go_ret
          rw [HRUN.out]
          exact ⟨rfl, own3, HO5.out.trans (HO.out.trans (HX2.out.1.trans HX3.out.1)), HX3.out.2⟩
        · rw [if_neg h4] at HRUN
          have h4b : (a2 == 4) = false := by rw [beq_eq_false_iff_ne]; exact h4
          go_wp2_with (go_at_call 56; (with_reducible refine HC.out.mono ?_); rintro e w2 ⟨rfl, own2, hO2, hD2⟩; have HX2 := Lib.hid (And.intro hO2 hD2); clear hO2 hD2)
          go_ret
          rw [HRUN.out]
          exact ⟨rfl, own2, HO5.out.trans (HO.out.trans HX2.out.1), HX2.out.2⟩
    · have HRUN : Hid (out = (0, r')) := Lib.hid hrun
      have HX2 := Lib.hid (And.intro hO hDr)
      clear hrun hO hDr hsz b0 b1 b2 b3 b4 HI F
      go_wp2
      go_ret
      rw [HRUN.out]
      exact ⟨rfl, own', HO5.out.trans HX2.out.1, HX2.out.2⟩
end Go.Proofs.YtkjdjglknbgeaaaGreatDoor
namespace Go.Proofs.YtkjdjglknbgeaaaGreatDoor
open Go.RowKit Go.Shelf
set_option linter.unusedVariables false
set_option maxRecDepth 100000

/-- What Get hands back. -/
def GetAns (r : RD) (l : List Nat) (dn B : Nat) (e : Ending) (W : World) : Prop :=
  match findR r l dn with
  | none => e = .returned (.tuple #[.slice none 0 0, .bool false])
  | some (_, a) => ∃ A' c', e = .returned (.tuple #[.slice A' a.length c', .bool true]) ∧ BLine W A' a.length c' a ∧ ∀ j ∈ blk A', B ≤ j
theorem cget_any (w : World) (s d dn : Nat) (own : Nat → Nat) (r : RD) (A : Option Addr) (n c : Nat) (l : List Nat) (hS : SBox w s d dn) (hD : IsD w d own r) (hsm : SmallD r) (hdn : dn ≤ 64) (hK : KeyAt w A n c l) (hR : RootsOk w) :
    Calls Tryz.prog 22 #[.pointer (some ⟨s, 0, none⟩), .slice A n c] w fun e w' => GetAns r l dn w.heap.size e w' ∧ Below w.heap.size w w' := by
  have HF := Lib.hid (find_any w s d dn own r A n c l hS hD hsm hdn hK hR)
  clear hS hD hK hR hsm
  cases hf : findR r l dn with
  | none =>
    go_enter Tryz.func22, Tryz.ntmps22
    go_wp2_with fail
    refine HF.out.mono ?_
    rintro e w1 ⟨ha, hb⟩
    unfold FindAns at ha
    rw [hf] at ha
    simp only at ha
    subst ha
    have HB := Lib.hid hb
    clear hb
    go_wp2
    go_ret2
    exact ⟨by unfold GetAns; rw [hf]; rfl, HB.out⟩
  | some sa =>
    obtain ⟨t, a⟩ := sa
    go_enter Tryz.func22, Tryz.ntmps22
    go_wp2_with fail
    refine HF.out.mono ?_
    rintro e w1 ⟨ha, hb⟩
    unfold FindAns at ha
    rw [hf] at ha
    simp only at ha
    obtain ⟨A', c', rfl, hl, hbl⟩ := ha
    have HB := Lib.hid (And.intro hb (And.intro hl hbl))
    clear hb hl hbl
    go_wp2
    go_ret2
    exact ⟨by unfold GetAns; rw [hf]; exact ⟨A', c', rfl, HB.out.2⟩, HB.out.1⟩
/-- What Put comes to, of a key and an artefact that aren't too long. -/
def putR (r : RD) (l a : List Nat) (dn : Nat) : Int × RD :=
  if r.off = true then (5, r) else
  match findR r l dn with
  | some _ => (0, r)
  | none => match roomR r l dn with
    | none => (2, r)
    | some s => layR r (fileB l dn s) (cellsZ (asZ (entryN l a)))
def dropR (r : RD) (l : List Nat) (dn : Nat) : Int × RD :=
  match findR r l dn with
  | none => (3, r)
  | some (s, _) => if (r.remove (fileB l dn s)).1 = 0 then (r.remove (fileB l dn s)).2.syncDir else r.remove (fileB l dn s)
theorem roomR_lt {r : RD} {l : List Nat} {dn s : Nat} (h : roomR r l dn = some s) : s < 8 := by
  unfold roomR at h
  exact List.mem_range.1 (List.mem_of_find?_eq_some h)
theorem findR_lt {r : RD} {l : List Nat} {dn s : Nat} {a : List Nat} (h : findR r l dn = some (s, a)) : s < 8 ∧ hitR r l dn s = some a := by
  unfold findR at h
  obtain ⟨t, ht, he⟩ := List.exists_of_findSome?_eq_some h
  cases hh : hitR r l dn t with
  | none => rw [hh] at he; cases he
  | some b =>
    rw [hh] at he
    cases he
    exact ⟨List.mem_range.1 ht, hh⟩
theorem fileB_size (l : List Nat) (dn s : Nat) (hdn : dn ≤ 64) : (fileB l dn s).size ≤ 68 := by
  unfold fileB
  rw [txt_size, fileN_length l dn s hdn]
  omega
set_option maxHeartbeats 1600000 in
theorem cput_any (w : World) (s d dn : Nat) (own : Nat → Nat) (r : RD) (A B : Option Addr) (n c m c2 : Nat) (l a : List Nat) (hS : SBox w s d dn) (hD : IsD w d own r) (hsm : SmallD r) (hdn : dn ≤ 64) (hK : KeyAt w A n c l) (hR : RootsOk w) (hA : RowN w B m a) (hn : n ≤ 65536) (hm : m ≤ 65536) (hnm : n + m + 16 ≤ 100000) (hsz : r.size + 40 ≤ 80000) :
    Calls Tryz.prog 24 #[.pointer (some ⟨s, 0, none⟩), .slice A n c, .slice B m c2] w fun e w' => e = .returned (.int .i64 (putR r l a dn).1) ∧ DNext w d own (putR r l a dn).2 w' := by
  have HE := Lib.hid (entry_any A B n c m c2 l a hn hm hnm w hK.1.1 hA)
  have HS := Lib.hid hS
  have HD := Lib.hid hD
  have HKY := Lib.hid hK
  have HR := Lib.hid hR
  obtain ⟨out, hout⟩ : ∃ out, putR r l a dn = out := ⟨_, rfl⟩
  rw [hout]
  unfold putR at hout
  clear hS hD hK hR hA
  obtain ⟨b, hb⟩ : ∃ b, r.off = b := ⟨_, rfl⟩
  rw [hb] at hout
  cases b with
  | true =>
    rw [if_pos rfl] at hout
    have HO := Lib.hid hout
    clear hout
    go_enter Tryz.func24, Tryz.ntmps24
    go_wp2_with (first
      | ((with_reducible refine HE.out.mono ?_)
         rintro e w1 ⟨⟨A1, d1, rfl, hl1, hf1⟩, hb1⟩
         have y0 := (HS.out.below hb1).cells.1
         have HOF := (HD.out.below hb1).isOff
         rw [hb] at HOF
         have HOF := Lib.hid HOF
         have HB1 := Lib.hid hb1
         clear hl1 hf1 hb1)
      | ((with_reducible refine HOF.out.mono ?_); rintro e w2 ⟨rfl, rfl⟩))
    go_ret
    rw [← HO.out]
    exact ⟨rfl, DNext.still HD.out HB1.out⟩
  | false =>
    rw [if_neg (by simp)] at hout
    go_enter Tryz.func24, Tryz.ntmps24
    go_wp2_with fail
    refine HE.out.mono ?_
    rintro e w1 ⟨⟨A1, d1, rfl, hl1, hf1⟩, hb1⟩
    have y0 := (HS.out.below hb1).cells.1
    have HOF := (HD.out.below hb1).isOff
    rw [hb] at HOF
    have HOF := Lib.hid HOF
    have HG := Lib.hid (cget_any w1 s d dn own r A n c l (HS.out.below hb1) (HD.out.below hb1) hsm hdn (HKY.out.below hb1) (HR.out.below hb1))
    have HL1 := Lib.hid (And.intro hl1 hf1)
    have HB1 := Lib.hid hb1
    clear hl1 hf1 hb1
    cases hf : findR r l dn with
    | some sa =>
      rw [hf] at hout
      have HO := Lib.hid hout
      obtain ⟨t, a2⟩ := sa
      simp only at hout
      clear hout
      go_wp2_with (first
        | ((with_reducible refine HOF.out.mono ?_); rintro e w2 ⟨rfl, rfl⟩)
        | fail)
      refine HG.out.mono ?_
      rintro e w3 ⟨ha, hb3⟩
      unfold GetAns at ha
      rw [hf] at ha
      simp only at ha
      obtain ⟨A3, c3, rfl, hl3, hf3⟩ := ha
      have HB3 := Lib.hid (HB1.out.trans (hb3.mono HB1.out.size))
      clear hl3 hf3 hb3
      go_wp2
      go_ret
      rw [← HO.out]
      exact ⟨rfl, DNext.still HD.out HB3.out⟩
    | none =>
      rw [hf] at hout
      simp only at hout
      go_wp2_with (first
        | ((with_reducible refine HOF.out.mono ?_); rintro e w2 ⟨rfl, rfl⟩)
        | fail)
      refine HG.out.mono ?_
      rintro e w3 ⟨ha, hb3⟩
      unfold GetAns at ha
      rw [hf] at ha
      simp only at ha
      subst ha
      have hb13 := HB1.out.trans (hb3.mono HB1.out.size)
      have HRM := Lib.hid (room_any w3 s d dn own r A n c l (HS.out.below hb13) (HD.out.below hb13) hsm hdn (HKY.out.below hb13) (HR.out.below hb13))
      have HB3 := Lib.hid hb3
      have HB13 := Lib.hid hb13
      clear hb3 hb13
      cases hr : roomR r l dn with
      | none =>
        rw [hr] at hout
        have HO := Lib.hid hout
        clear hout
        go_wp2_with fail
        refine HRM.out.mono ?_
        rintro e w4 ⟨ha, hb4⟩
        unfold RoomAns at ha
        rw [hr] at ha
        simp only at ha
        subst ha
        have HB4 := Lib.hid (HB13.out.trans (hb4.mono HB13.out.size))
        clear hb4
        go_wp2
        go_ret
        rw [← HO.out]
        exact ⟨rfl, DNext.still HD.out HB4.out⟩
      | some t =>
        rw [hr] at hout
        have HO := Lib.hid hout
        have ht := roomR_lt hr
        clear hout
        go_wp2_with fail
        refine HRM.out.mono ?_
        rintro e w4 ⟨ha, hb4⟩
        unfold RoomAns at ha
        rw [hr] at ha
        simp only at ha
        subst ha
        have hb14 := HB13.out.trans (hb4.mono HB13.out.size)
        have y1 := (HS.out.below hb14).cells.1
        have hsz4 := fileB_size l dn t hdn
        have hDD := HD.out
        have HLY := claid_any w4 d own r (fileB l dn t) A1 (n + m + 16) d1 (entryN l a) (HD.out.below hb14) (by omega) hsz ((HL1.out.1.below HB3.out).below hb4).row (by omega) (fun k hk => hDD.1 k (HL1.out.2 k hk))
        have HLY := Lib.hid HLY
        have HB14 := Lib.hid hb14
        clear hb4 hb14 hDD
        go_wp2_with fail
        refine HLY.out.mono ?_
        rintro e w5 ⟨rfl, own5, hO5, hD5⟩
        have H5 := Lib.hid (And.intro hO5 hD5)
        clear hO5 hD5
        go_wp2
        go_ret
        rw [← HO.out]
        exact ⟨rfl, own5, (Only.of_below own HB14.out).trans H5.out.1, H5.out.2⟩
end Go.Proofs.YtkjdjglknbgeaaaGreatDoor
