/- How a file is laid whose bytes are sure ahead of its name: the contract of cas's lay. -/
import Derived.Test.YtdjnebgjdekmaaaGreatDoorZbm
import Derived.Test.YtdjnebgjdekmaaaGreatDoorZbh
import Derived.Laws.EntriesVeiled
import Derived.Test.YtdjnebgjdekmaaaGreatDoorZbn
set_option linter.unusedVariables false
set_option maxRecDepth 100000
namespace Go.Proofs.YtdjnebgjdekmaaaGreatDoor
section
open Go.RowKit Go.Shelf
theorem two_newL (w : World) (x y : Obj) : ((w.alloc x).alloc y).heap[w.heap.size + 1]? = some y ∧ ((w.alloc x).alloc y).heap[w.heap.size]? = some x ∧ Below w.heap.size w ((w.alloc x).alloc y) := by
 refine ⟨?_, (Below.heap_alloc _ _ _ (by simp)).trans (heap_alloc_new w x), ((Below.refl _ w).alloc (Nat.le_refl _) _).alloc (by simp) _⟩
 have := heap_alloc_new (w.alloc x) y
 rw [World.size_alloc] at this
 exact this
def runL (y : ByteArray) : List (RD → Int × RD) → RD → Int × RD
 | [], r => (0, r)
 | f :: fs, r => if (f r).1 = 0 then runL y fs (f r).2 else if (f r).1 = 4 then (4, ((f r).2.remove y).2) else f r
def layS (x y : ByteArray) (bs : List Value) : List (RD → Int × RD) := [fun r => r.create y, fun r => r.append y bs, fun r => r.sync y, fun r => r.rename y x, fun r => r.syncDir]
def tmpB : ByteArray := ⟨#[46, 116, 109, 112]⟩
def layR (r : RD) (x : ByteArray) (bs : List Value) : Int × RD := runL (x ++ tmpB) (layS x (x ++ tmpB) bs) r
def LayK (w : World) (d : Nat) (own : Nat → Nat) (a2 : Int) (r2 : RD) (e : Ending) (w' : World) : Prop := e = .returned (.int .i64 a2) ∧ DNext w d own r2 w'
theorem syncDirF_enters : Enters Tryz.prog 31 := enters_of Tryz.func31 (by kernel_rfl) rfl
theorem lay1_enters : Enters Tryz.prog 62 := enters_of Tryz.func62 (by kernel_rfl) rfl
theorem lay2_enters : Enters Tryz.prog 63 := enters_of Tryz.func63 (by kernel_rfl) rfl
theorem lay3_enters : Enters Tryz.prog 64 := enters_of Tryz.func64 (by kernel_rfl) rfl
theorem lay4_enters : Enters Tryz.prog 66 := enters_of Tryz.func66 (by kernel_rfl) rfl
section
variable (W : World) (p q s d : Nat) (x y : ByteArray) (K : Int → World → Prop)
theorem lay1_any (k0 : W.cell? ⟨p, 0, none⟩ = some (.pointer (some ⟨d, 0, none⟩))) (k1 : W.cell? ⟨q, 0, none⟩ = some (.string x))
 (h : Calls Tryz.prog 20 #[.pointer (some ⟨d, 0, none⟩), .string x] W fun e w' => ∃ a, e = .returned (.int .i64 a) ∧ K a w') :
 Calls Tryz.prog 62 #[.pointer (some ⟨p, 0, none⟩), .pointer (some ⟨q, 0, none⟩)] W fun e w' => ∃ a, e = .returned (.int .i64 a) ∧ K a w' := by
 have HC := Lib.hid h
 clear h
 go_enter Tryz.func62, Tryz.ntmps62
 go_wp2_with (with_reducible refine HC.out.mono ?_; rintro e w1 ⟨a, rfl, hK⟩; have HK := Lib.hid hK; clear hK)
 go_ret
 exact ⟨a, rfl, HK.out⟩
theorem lay2_any (A : Option Addr) (n c : Nat) (k0 : W.cell? ⟨p, 0, none⟩ = some (.pointer (some ⟨d, 0, none⟩))) (k1 : W.cell? ⟨q, 0, none⟩ = some (.string x)) (k2 : W.cell? ⟨s, 0, none⟩ = some (.slice A n c))
 (h : Calls Tryz.prog 21 #[.pointer (some ⟨d, 0, none⟩), .string x, .slice A n c] W fun e w' => ∃ a, e = .returned (.int .i64 a) ∧ K a w') :
 Calls Tryz.prog 63 #[.pointer (some ⟨p, 0, none⟩), .pointer (some ⟨q, 0, none⟩), .pointer (some ⟨s, 0, none⟩)] W fun e w' => ∃ a, e = .returned (.int .i64 a) ∧ K a w' := by
 have HC := Lib.hid h
 clear h
 go_enter Tryz.func63, Tryz.ntmps63
 go_wp2_with (with_reducible refine HC.out.mono ?_; rintro e w1 ⟨a, rfl, hK⟩; have HK := Lib.hid hK; clear hK)
 go_ret
 exact ⟨a, rfl, HK.out⟩
theorem lay3_any (k0 : W.cell? ⟨p, 0, none⟩ = some (.pointer (some ⟨d, 0, none⟩))) (k1 : W.cell? ⟨q, 0, none⟩ = some (.string x))
 (h : Calls Tryz.prog 65 #[.pointer (some ⟨d, 0, none⟩), .string x] W fun e w' => ∃ a, e = .returned (.int .i64 a) ∧ K a w') :
 Calls Tryz.prog 64 #[.pointer (some ⟨p, 0, none⟩), .pointer (some ⟨q, 0, none⟩)] W fun e w' => ∃ a, e = .returned (.int .i64 a) ∧ K a w' := by
 have HC := Lib.hid h
 clear h
 go_enter Tryz.func64, Tryz.ntmps64
 go_wp2_with (with_reducible refine HC.out.mono ?_; rintro e w1 ⟨a, rfl, hK⟩; have HK := Lib.hid hK; clear hK)
 go_ret
 exact ⟨a, rfl, HK.out⟩
theorem lay4_any (k0 : W.cell? ⟨p, 0, none⟩ = some (.pointer (some ⟨d, 0, none⟩))) (k1 : W.cell? ⟨q, 0, none⟩ = some (.string x)) (k2 : W.cell? ⟨s, 0, none⟩ = some (.string y))
 (h : Calls Tryz.prog 67 #[.pointer (some ⟨d, 0, none⟩), .string x, .string y] W fun e w' => ∃ a, e = .returned (.int .i64 a) ∧ K a w') :
 Calls Tryz.prog 66 #[.pointer (some ⟨p, 0, none⟩), .pointer (some ⟨q, 0, none⟩), .pointer (some ⟨s, 0, none⟩)] W fun e w' => ∃ a, e = .returned (.int .i64 a) ∧ K a w' := by
 have HC := Lib.hid h
 clear h
 go_enter Tryz.func66, Tryz.ntmps66
 go_wp2_with (with_reducible refine HC.out.mono ?_; rintro e w1 ⟨a, rfl, hK⟩; have HK := Lib.hid hK; clear hK)
 go_ret
 exact ⟨a, rfl, HK.out⟩
end
set_option maxHeartbeats 3200000 in
theorem claid_any (w : World) (d : Nat) (own : Nat → Nat) (r : RD) (x : ByteArray) (A : Option Addr) (n c : Nat) (l : List Nat) (hD : IsD w d own r) (hx : x.size ≤ 900000) (hs : r.size + 40 ≤ 80000) (hR : RowN w A n l) (hn : n ≤ 1000000) (hown : ∀ k ∈ blk A, own k = 0) :
 Calls Tryz.prog 35 #[.pointer (some ⟨d, 0, none⟩), .string x, .slice A n c] w fun e w' => e = .returned (.int .i64 (layR r x (cellsZ (asZ l))).1) ∧ DNext w d own (layR r x (cellsZ (asZ l))).2 w' := by
 have hmf : ∀ (fn : Fn) (first cap : Array Value) (w : World), (Instr.makeFunc fn first cap).run Tryz.prog w = .ok (.func fn first cap) w := fun _ _ _ _ => rfl
 obtain ⟨hh, hhe⟩ : ∃ hh, w.heap.size = hh := ⟨_, rfl⟩
 obtain ⟨y, hy⟩ : ∃ y, x ++ tmpB = y := ⟨_, rfl⟩
 have hys : y.size = x.size + 4 := by rw [← hy, ByteArray.size_append]; rfl
 obtain ⟨out, hout⟩ : ∃ out, layR r x (cellsZ (asZ l)) = out := ⟨_, rfl⟩
 rw [hout]
 unfold layR at hout
 rw [hy] at hout
 unfold tmpB at hy
 obtain ⟨W5, hW5⟩ : ∃ W5, ((((w.alloc (.cells #[.pointer (some ⟨d, 0, none⟩)] 28)).alloc (.cells #[.string x] 9)).alloc (.cells #[.slice A n c] 40)).alloc (.cells #[.string y] 9)).alloc (.cells #[.func (.func 62) #[] #[.pointer (some ⟨hh, 0, none⟩), .pointer (some ⟨hh + 1 + 1 + 1, 0, none⟩)], .func (.func 63) #[] #[.pointer (some ⟨hh, 0, none⟩), .pointer (some ⟨hh + 1 + 1 + 1, 0, none⟩), .pointer (some ⟨hh + 1 + 1, 0, none⟩)], .func (.func 64) #[] #[.pointer (some ⟨hh, 0, none⟩), .pointer (some ⟨hh + 1 + 1 + 1, 0, none⟩)], .func (.func 66) #[] #[.pointer (some ⟨hh, 0, none⟩), .pointer (some ⟨hh + 1 + 1 + 1, 0, none⟩), .pointer (some ⟨hh + 1, 0, none⟩)], .func (.func 31) #[.pointer (some ⟨d, 0, none⟩)] #[]] 80) = W5 := ⟨_, rfl⟩
 have HW5 := Lib.hid hW5
 obtain ⟨W1, hW1⟩ : ∃ W1, (w.alloc (.cells #[.pointer (some ⟨d, 0, none⟩)] 28)).alloc (.cells #[.string x] 9) = W1 := ⟨_, rfl⟩
 have HW1 := Lib.hid hW1
 have hb1 : Below w.heap.size w W1 := by rw [← hW1]; exact (two_newL w _ _).2.2
 have hs1 : W1.heap.size = hh + 2 := by rw [← hW1, ← hhe]; simp
 have k0 : W1.heap[hh]? = some (.cells #[.pointer (some ⟨d, 0, none⟩)] 28 (0, 0)) := by rw [← hW1, ← hhe]; exact (two_newL w _ _).2.1
 have k1 : W1.heap[hh + 1]? = some (.cells #[.string x] 9 (0, 0)) := by rw [← hW1, ← hhe]; exact (two_newL w _ _).1
 clear hW1
 obtain ⟨W2, hW2⟩ : ∃ W2, (W1.alloc (.cells #[.slice A n c] 40)).alloc (.cells #[.string y] 9) = W2 := ⟨_, rfl⟩
 have HW2 := Lib.hid hW2
 have hb2 : Below W1.heap.size W1 W2 := by rw [← hW2]; exact (two_newL W1 _ _).2.2
 have hs2 : W2.heap.size = hh + 4 := by rw [← hW2]; simp [hs1]
 have k2 : W2.heap[hh + 2]? = some (.cells #[.slice A n c] 40 (0, 0)) := by rw [← hW2, ← hs1]; exact (two_newL W1 _ _).2.1
 have k3 : W2.heap[hh + 3]? = some (.cells #[.string y] 9 (0, 0)) := by rw [← hW2, show hh + 3 = W1.heap.size + 1 by omega]; exact (two_newL W1 _ _).1
 clear hW2
 have e5 : W2.alloc (.cells #[.func (.func 62) #[] #[.pointer (some ⟨hh, 0, none⟩), .pointer (some ⟨hh + 1 + 1 + 1, 0, none⟩)], .func (.func 63) #[] #[.pointer (some ⟨hh, 0, none⟩), .pointer (some ⟨hh + 1 + 1 + 1, 0, none⟩), .pointer (some ⟨hh + 1 + 1, 0, none⟩)], .func (.func 64) #[] #[.pointer (some ⟨hh, 0, none⟩), .pointer (some ⟨hh + 1 + 1 + 1, 0, none⟩)], .func (.func 66) #[] #[.pointer (some ⟨hh, 0, none⟩), .pointer (some ⟨hh + 1 + 1 + 1, 0, none⟩), .pointer (some ⟨hh + 1, 0, none⟩)], .func (.func 31) #[.pointer (some ⟨d, 0, none⟩)] #[]] 80) = W5 := by rw [← HW2.out, ← HW1.out]; exact HW5.out
 have hb5 : Below W2.heap.size W2 W5 := by rw [← e5]; exact (Below.refl _ W2).alloc (Nat.le_refl _) _
 have hs5 : W5.heap.size = hh + 5 := by rw [← e5]; simp [hs2]
 have k4 : W5.heap[hh + 4]? = some (.cells #[.func (.func 62) #[] #[.pointer (some ⟨hh, 0, none⟩), .pointer (some ⟨hh + 1 + 1 + 1, 0, none⟩)], .func (.func 63) #[] #[.pointer (some ⟨hh, 0, none⟩), .pointer (some ⟨hh + 1 + 1 + 1, 0, none⟩), .pointer (some ⟨hh + 1 + 1, 0, none⟩)], .func (.func 64) #[] #[.pointer (some ⟨hh, 0, none⟩), .pointer (some ⟨hh + 1 + 1 + 1, 0, none⟩)], .func (.func 66) #[] #[.pointer (some ⟨hh, 0, none⟩), .pointer (some ⟨hh + 1 + 1 + 1, 0, none⟩), .pointer (some ⟨hh + 1, 0, none⟩)], .func (.func 31) #[.pointer (some ⟨d, 0, none⟩)] #[]] 80 (0, 0)) := by rw [← e5, ← hs2]; exact heap_alloc_new W2 _
 have j0 := (hb5.block hh (by omega)).trans ((hb2.block hh (by omega)).trans k0)
 have j1 := (hb5.block (hh + 1) (by omega)).trans ((hb2.block (hh + 1) (by omega)).trans k1)
 have j2 := (hb5.block (hh + 2) (by omega)).trans k2
 have j3 := (hb5.block (hh + 3) (by omega)).trans k3
 have hbw : Below w.heap.size w W5 := hb1.trans ((hb2.trans (hb5.mono hb2.size)).mono hb1.size)
 have hD5 := hD.below hbw
 have hO5 : Only own w own W5 := Only.of_below own hbw
 have HZ : Hid (∀ k, hh ≤ k → own k = 0) := Lib.hid (fun k hk => hD.1 k (by omega))
 have HJ0 := Lib.hid j0
 have HJ1 := Lib.hid j1
 have HJ2 := Lib.hid j2
 have HJ3 := Lib.hid j3
 have HJ4 := Lib.hid k4
 have HO5 := Lib.hid hO5
 have HD5 := Lib.hid hD5
 have HS5 := Lib.hid hs5
 have HR := Lib.hid (hR.below hbw)
 have HOWN := Lib.hid hown
 have HOUT := Lib.hid hout
 have HHE := Lib.hid hhe
 clear hb1 hs1 k0 k1 hb2 hs2 k2 k3 e5 hb5 hs5 k4 j0 j1 j2 j3 hbw hD5 hO5 hD hR hown hout HW5 HW2 HW1
 go_enter Tryz.func35, Tryz.ntmps35
 go_wp2_with fail
 go_loopw [23] (fun i wr => ∃ k : Nat, k ≤ 5 ∧ i = .int .i64 k ∧ ∃ own' r', Hid (Only own W5 own' wr ∧ IsD wr d own' r' ∧ r'.size ≤ r.size + 4 * k ∧ out = runL y ((layS x y (cellsZ (asZ l))).drop k) r')) (fun i _ => 5 - (intOf i).toNat)
 case atStart => exact ⟨0, by omega, rfl, own, r, Lib.hid ⟨Only.refl own W5, HD5.out, by omega, HOUT.out.symm⟩⟩
 case round =>
  obtain ⟨k, hk, rfl, own', r', HI⟩ := hrel
  obtain ⟨hO, hDr, hsz, hrun⟩ := HI.out
  have hz5 := HS5.out
  have b0 := (hO.2.2 hh (by omega) (HZ.out _ (by omega))).trans HJ0.out
  have b1 := (hO.2.2 (hh + 1) (by omega) (HZ.out _ (by omega))).trans HJ1.out
  have b2 := (hO.2.2 (hh + 2) (by omega) (HZ.out _ (by omega))).trans HJ2.out
  have b3 := (hO.2.2 (hh + 3) (by omega) (HZ.out _ (by omega))).trans HJ3.out
  have b4 := (hO.2.2 (hh + 4) (by omega) (HZ.out _ (by omega))).trans HJ4.out
  have y0 := cell_of_one b0
  have y1 := cell_of_one b1
  have y2 := cell_of_one b2
  have y3 := cell_of_one b3
  obtain ⟨F, _⟩ := hDr.fct
  have HO := Lib.hid hO
  have hk5 : k = 0 ∨ k = 1 ∨ k = 2 ∨ k = 3 ∨ k = 4 ∨ k = 5 := by omega
  rcases hk5 with rfl | rfl | rfl | rfl | rfl | rfl
  · obtain ⟨a2, r2, hp⟩ : ∃ a2 r2, r'.create y = (a2, r2) := ⟨_, _, rfl⟩
    have hz2 : r2.size ≤ r'.size + 4 := by have h := size_create (r := r') y; rw [hp] at h; exact h
    have hcell : wr.cell? ⟨hh + 1 + 1 + 1 + 1, 0, none⟩ = some (.func (.func 62) #[] #[.pointer (some ⟨hh, 0, none⟩), .pointer (some ⟨hh + 1 + 1 + 1, 0, none⟩)]) := (cell_of_row _ (hh + 4) 0 _ _ (0, 0) b4).trans rfl
    have HC : Hid (Calls Tryz.prog 62 #[.pointer (some ⟨hh, 0, none⟩), .pointer (some ⟨hh + 1 + 1 + 1, 0, none⟩)] wr (LayK wr d own' a2 r2)) := Lib.hid ((lay1_any wr hh (hh + 1 + 1 + 1) d y (fun a w' => a = a2 ∧ DNext wr d own' r2 w') y0 y3 (by have hq := (hDr.create (by omega) y (by omega)); rw [hp] at hq; refine hq.mono fun e w' hh => ⟨a2, hh.1, rfl, hh.2⟩)).mono fun e w' ⟨a, e1, e2, h⟩ => ⟨by rw [e1, e2], h⟩)
    have hen := lay1_enters
    have HRUN : Hid (out = if a2 = 0 then runL y ((layS x y (cellsZ (asZ l))).drop 1) r2 else if a2 = 4 then (4, (r2.remove y).2) else (a2, r2)) := Lib.hid (by
     rw [hrun]
     show (if (r'.create y).1 = 0 then runL y ((layS x y (cellsZ (asZ l))).drop 1) (r'.create y).2 else if (r'.create y).1 = 4 then (4, ((r'.create y).2.remove y).2) else r'.create y) = _
     rw [hp])
    have HZ2 := Lib.hid (And.intro hz2 hsz)
    clear hrun hO hDr hsz hp b0 b1 b2 b3 b4 HI hz2 F
    by_cases h0 : a2 = 0
    · subst h0
      rw [if_pos rfl] at HRUN
      go_wp2_with (go_at_call 62; (with_reducible refine HC.out.mono ?_); rintro e w2 ⟨rfl, own2, hO2, hD2⟩; have HX2 := Lib.hid (And.intro hO2 hD2); clear hO2 hD2)
      go_roundw
      case rel => exact ⟨1, by omega, by simp, own2, r2, Lib.hid ⟨HO.out.trans HX2.out.1, HX2.out.2, by have := HZ2.out; omega, HRUN.out⟩⟩
      case measure => simp [intOf]
    · rw [if_neg h0] at HRUN
      have h0b : (a2 == 0) = false := by rw [beq_eq_false_iff_ne]; exact h0
      by_cases h4 : a2 = 4
      · subst h4
        rw [if_pos rfl] at HRUN
        go_wp2_with (first
         | (go_at_call 62; (with_reducible refine HC.out.mono ?_); rintro e w2 ⟨rfl, own2, hO2, hD2⟩
            have HREM := Lib.hid (hD2.remove (by have := HZ2.out; omega) y (by omega))
            have hz5 := HS5.out
            have y0' := cell_of_one (((HO.out.trans hO2).2.2 hh (by omega) (HZ.out _ (by omega))).trans HJ0.out)
            have y3' := cell_of_one (((HO.out.trans hO2).2.2 (hh + 3) (by omega) (HZ.out _ (by omega))).trans HJ3.out)
            have HX2 := Lib.hid (And.intro hO2 hD2); clear hO2 hD2)
         | (go_at_call 30; (with_reducible refine HREM.out.mono ?_); rintro e w3 ⟨rfl, own3, hO3, hD3⟩; have HX3 := Lib.hid (And.intro hO3 hD3); clear hO3 hD3))
        go_ret
        rw [HRUN.out]
        exact ⟨rfl, own3, HO5.out.trans (HO.out.trans (HX2.out.1.trans HX3.out.1)), HX3.out.2⟩
      · rw [if_neg h4] at HRUN
        have h4b : (a2 == 4) = false := by rw [beq_eq_false_iff_ne]; exact h4
        go_wp2_with (go_at_call 62; (with_reducible refine HC.out.mono ?_); rintro e w2 ⟨rfl, own2, hO2, hD2⟩; have HX2 := Lib.hid (And.intro hO2 hD2); clear hO2 hD2)
        go_ret
        rw [HRUN.out]
        exact ⟨rfl, own2, HO5.out.trans (HO.out.trans HX2.out.1), HX2.out.2⟩
  · obtain ⟨a2, r2, hp⟩ : ∃ a2 r2, r'.append y (cellsZ (asZ l)) = (a2, r2) := ⟨_, _, rfl⟩
    have hz2 : r2.size ≤ r'.size + 4 := by have h := size_append (r := r') y (cellsZ (asZ l)); rw [hp] at h; exact h
    have hcell : wr.cell? ⟨hh + 1 + 1 + 1 + 1, 1, none⟩ = some (.func (.func 63) #[] #[.pointer (some ⟨hh, 0, none⟩), .pointer (some ⟨hh + 1 + 1 + 1, 0, none⟩), .pointer (some ⟨hh + 1 + 1, 0, none⟩)]) := (cell_of_row _ (hh + 4) 1 _ _ (0, 0) b4).trans rfl
    have hap : Calls Tryz.prog 21 #[.pointer (some ⟨d, 0, none⟩), .string y, .slice A n c] wr fun e w' => e = .returned (.int .i64 a2) ∧ DNext wr d own' r2 w' := by
     have hrow : RowZ wr A n (asZ l) := RowZ.only HR.out hO (fun ad e => HOWN.out ad.block (mem_blk.2 ⟨ad, e, rfl⟩))
     have hnl := hrow.1
     refine (hDr.append (by omega) y (by omega) A n c (by omega) (cellsZ (asZ l)) (by rw [cellsZ_length]; exact hnl) (bytes_cellsZ hrow.2.1) (fun V hc => ?_)).mono fun e w' hh => by rw [hp] at hh; exact hh
     rcases Nat.eq_zero_or_pos n with h00 | h00
     · exact RowZ.toSrc (w := V) (A := A) (n := n) (zs := asZ l) ⟨hrow.1, hrow.2.1, fun h => by omega⟩ c
     · refine (RowZ.chg hrow hc (fun k hk ad e he => ?_)).toSrc c
       rw [List.mem_singleton] at hk
       have h0 := HOWN.out ad.block (mem_blk.2 ⟨ad, e, rfl⟩)
       have hod := hDr.od
       rw [← hk, ← he] at hod
       obtain ⟨b, off, eA, hlt, _⟩ := HR.out.2.2 h00
       rw [eA] at e
       cases e
       exact hod ((hO.2.1 _ hlt).trans h0)
    have HC : Hid (Calls Tryz.prog 63 #[.pointer (some ⟨hh, 0, none⟩), .pointer (some ⟨hh + 1 + 1 + 1, 0, none⟩), .pointer (some ⟨hh + 1 + 1, 0, none⟩)] wr (LayK wr d own' a2 r2)) := Lib.hid ((lay2_any wr hh (hh + 1 + 1 + 1) (hh + 1 + 1) d y (fun a w' => a = a2 ∧ DNext wr d own' r2 w') A n c y0 y3 y2 (by have hq := hap; refine hq.mono fun e w' hh => ⟨a2, hh.1, rfl, hh.2⟩)).mono fun e w' ⟨a, e1, e2, h⟩ => ⟨by rw [e1, e2], h⟩)
    have hen := lay2_enters
    have HRUN : Hid (out = if a2 = 0 then runL y ((layS x y (cellsZ (asZ l))).drop 2) r2 else if a2 = 4 then (4, (r2.remove y).2) else (a2, r2)) := Lib.hid (by
     rw [hrun]
     show (if (r'.append y (cellsZ (asZ l))).1 = 0 then runL y ((layS x y (cellsZ (asZ l))).drop 2) (r'.append y (cellsZ (asZ l))).2 else if (r'.append y (cellsZ (asZ l))).1 = 4 then (4, ((r'.append y (cellsZ (asZ l))).2.remove y).2) else r'.append y (cellsZ (asZ l))) = _
     rw [hp])
    have HZ2 := Lib.hid (And.intro hz2 hsz)
    clear hrun hO hDr hsz hp b0 b1 b2 b3 b4 HI hz2 F hap
    by_cases h0 : a2 = 0
    · subst h0
      rw [if_pos rfl] at HRUN
      go_wp2_with (go_at_call 63; (with_reducible refine HC.out.mono ?_); rintro e w2 ⟨rfl, own2, hO2, hD2⟩; have HX2 := Lib.hid (And.intro hO2 hD2); clear hO2 hD2)
      go_roundw
      case rel => exact ⟨2, by omega, by simp, own2, r2, Lib.hid ⟨HO.out.trans HX2.out.1, HX2.out.2, by have := HZ2.out; omega, HRUN.out⟩⟩
      case measure => simp [intOf]
    · rw [if_neg h0] at HRUN
      have h0b : (a2 == 0) = false := by rw [beq_eq_false_iff_ne]; exact h0
      by_cases h4 : a2 = 4
      · subst h4
        rw [if_pos rfl] at HRUN
        go_wp2_with (first
         | (go_at_call 63; (with_reducible refine HC.out.mono ?_); rintro e w2 ⟨rfl, own2, hO2, hD2⟩
            have HREM := Lib.hid (hD2.remove (by have := HZ2.out; omega) y (by omega))
            have hz5 := HS5.out
            have y0' := cell_of_one (((HO.out.trans hO2).2.2 hh (by omega) (HZ.out _ (by omega))).trans HJ0.out)
            have y3' := cell_of_one (((HO.out.trans hO2).2.2 (hh + 3) (by omega) (HZ.out _ (by omega))).trans HJ3.out)
            have HX2 := Lib.hid (And.intro hO2 hD2); clear hO2 hD2)
         | (go_at_call 30; (with_reducible refine HREM.out.mono ?_); rintro e w3 ⟨rfl, own3, hO3, hD3⟩; have HX3 := Lib.hid (And.intro hO3 hD3); clear hO3 hD3))
        go_ret
        rw [HRUN.out]
        exact ⟨rfl, own3, HO5.out.trans (HO.out.trans (HX2.out.1.trans HX3.out.1)), HX3.out.2⟩
      · rw [if_neg h4] at HRUN
        have h4b : (a2 == 4) = false := by rw [beq_eq_false_iff_ne]; exact h4
        go_wp2_with (go_at_call 63; (with_reducible refine HC.out.mono ?_); rintro e w2 ⟨rfl, own2, hO2, hD2⟩; have HX2 := Lib.hid (And.intro hO2 hD2); clear hO2 hD2)
        go_ret
        rw [HRUN.out]
        exact ⟨rfl, own2, HO5.out.trans (HO.out.trans HX2.out.1), HX2.out.2⟩
  · obtain ⟨a2, r2, hp⟩ : ∃ a2 r2, r'.sync y = (a2, r2) := ⟨_, _, rfl⟩
    have hz2 : r2.size ≤ r'.size + 4 := by have h := size_sync (r := r') y; rw [hp] at h; exact h
    have hcell : wr.cell? ⟨hh + 1 + 1 + 1 + 1, 2, none⟩ = some (.func (.func 64) #[] #[.pointer (some ⟨hh, 0, none⟩), .pointer (some ⟨hh + 1 + 1 + 1, 0, none⟩)]) := (cell_of_row _ (hh + 4) 2 _ _ (0, 0) b4).trans rfl
    have HC : Hid (Calls Tryz.prog 64 #[.pointer (some ⟨hh, 0, none⟩), .pointer (some ⟨hh + 1 + 1 + 1, 0, none⟩)] wr (LayK wr d own' a2 r2)) := Lib.hid ((lay3_any wr hh (hh + 1 + 1 + 1) d y (fun a w' => a = a2 ∧ DNext wr d own' r2 w') y0 y3 (by have hq := (hDr.sync (by omega) y (by omega)); rw [hp] at hq; refine hq.mono fun e w' hh => ⟨a2, hh.1, rfl, hh.2⟩)).mono fun e w' ⟨a, e1, e2, h⟩ => ⟨by rw [e1, e2], h⟩)
    have hen := lay3_enters
    have HRUN : Hid (out = if a2 = 0 then runL y ((layS x y (cellsZ (asZ l))).drop 3) r2 else if a2 = 4 then (4, (r2.remove y).2) else (a2, r2)) := Lib.hid (by
     rw [hrun]
     show (if (r'.sync y).1 = 0 then runL y ((layS x y (cellsZ (asZ l))).drop 3) (r'.sync y).2 else if (r'.sync y).1 = 4 then (4, ((r'.sync y).2.remove y).2) else r'.sync y) = _
     rw [hp])
    have HZ2 := Lib.hid (And.intro hz2 hsz)
    clear hrun hO hDr hsz hp b0 b1 b2 b3 b4 HI hz2 F
    by_cases h0 : a2 = 0
    · subst h0
      rw [if_pos rfl] at HRUN
      go_wp2_with (go_at_call 64; (with_reducible refine HC.out.mono ?_); rintro e w2 ⟨rfl, own2, hO2, hD2⟩; have HX2 := Lib.hid (And.intro hO2 hD2); clear hO2 hD2)
      go_roundw
      case rel => exact ⟨3, by omega, by simp, own2, r2, Lib.hid ⟨HO.out.trans HX2.out.1, HX2.out.2, by have := HZ2.out; omega, HRUN.out⟩⟩
      case measure => simp [intOf]
    · rw [if_neg h0] at HRUN
      have h0b : (a2 == 0) = false := by rw [beq_eq_false_iff_ne]; exact h0
      by_cases h4 : a2 = 4
      · subst h4
        rw [if_pos rfl] at HRUN
        go_wp2_with (first
         | (go_at_call 64; (with_reducible refine HC.out.mono ?_); rintro e w2 ⟨rfl, own2, hO2, hD2⟩
            have HREM := Lib.hid (hD2.remove (by have := HZ2.out; omega) y (by omega))
            have hz5 := HS5.out
            have y0' := cell_of_one (((HO.out.trans hO2).2.2 hh (by omega) (HZ.out _ (by omega))).trans HJ0.out)
            have y3' := cell_of_one (((HO.out.trans hO2).2.2 (hh + 3) (by omega) (HZ.out _ (by omega))).trans HJ3.out)
            have HX2 := Lib.hid (And.intro hO2 hD2); clear hO2 hD2)
         | (go_at_call 30; (with_reducible refine HREM.out.mono ?_); rintro e w3 ⟨rfl, own3, hO3, hD3⟩; have HX3 := Lib.hid (And.intro hO3 hD3); clear hO3 hD3))
        go_ret
        rw [HRUN.out]
        exact ⟨rfl, own3, HO5.out.trans (HO.out.trans (HX2.out.1.trans HX3.out.1)), HX3.out.2⟩
      · rw [if_neg h4] at HRUN
        have h4b : (a2 == 4) = false := by rw [beq_eq_false_iff_ne]; exact h4
        go_wp2_with (go_at_call 64; (with_reducible refine HC.out.mono ?_); rintro e w2 ⟨rfl, own2, hO2, hD2⟩; have HX2 := Lib.hid (And.intro hO2 hD2); clear hO2 hD2)
        go_ret
        rw [HRUN.out]
        exact ⟨rfl, own2, HO5.out.trans (HO.out.trans HX2.out.1), HX2.out.2⟩
  · obtain ⟨a2, r2, hp⟩ : ∃ a2 r2, r'.rename y x = (a2, r2) := ⟨_, _, rfl⟩
    have hz2 : r2.size ≤ r'.size + 4 := by have h := size_rename (r := r') y x; rw [hp] at h; exact h
    have hcell : wr.cell? ⟨hh + 1 + 1 + 1 + 1, 3, none⟩ = some (.func (.func 66) #[] #[.pointer (some ⟨hh, 0, none⟩), .pointer (some ⟨hh + 1 + 1 + 1, 0, none⟩), .pointer (some ⟨hh + 1, 0, none⟩)]) := (cell_of_row _ (hh + 4) 3 _ _ (0, 0) b4).trans rfl
    have HC : Hid (Calls Tryz.prog 66 #[.pointer (some ⟨hh, 0, none⟩), .pointer (some ⟨hh + 1 + 1 + 1, 0, none⟩), .pointer (some ⟨hh + 1, 0, none⟩)] wr (LayK wr d own' a2 r2)) := Lib.hid ((lay4_any wr hh (hh + 1 + 1 + 1) (hh + 1) d y x (fun a w' => a = a2 ∧ DNext wr d own' r2 w') y0 y3 y1 (by have hq := (hDr.rename (by omega) y x (by omega) (by omega)); rw [hp] at hq; refine hq.mono fun e w' hh => ⟨a2, hh.1, rfl, hh.2⟩)).mono fun e w' ⟨a, e1, e2, h⟩ => ⟨by rw [e1, e2], h⟩)
    have hen := lay4_enters
    have HRUN : Hid (out = if a2 = 0 then runL y ((layS x y (cellsZ (asZ l))).drop 4) r2 else if a2 = 4 then (4, (r2.remove y).2) else (a2, r2)) := Lib.hid (by
     rw [hrun]
     show (if (r'.rename y x).1 = 0 then runL y ((layS x y (cellsZ (asZ l))).drop 4) (r'.rename y x).2 else if (r'.rename y x).1 = 4 then (4, ((r'.rename y x).2.remove y).2) else r'.rename y x) = _
     rw [hp])
    have HZ2 := Lib.hid (And.intro hz2 hsz)
    clear hrun hO hDr hsz hp b0 b1 b2 b3 b4 HI hz2 F
    by_cases h0 : a2 = 0
    · subst h0
      rw [if_pos rfl] at HRUN
      go_wp2_with (go_at_call 66; (with_reducible refine HC.out.mono ?_); rintro e w2 ⟨rfl, own2, hO2, hD2⟩; have HX2 := Lib.hid (And.intro hO2 hD2); clear hO2 hD2)
      go_roundw
      case rel => exact ⟨4, by omega, by simp, own2, r2, Lib.hid ⟨HO.out.trans HX2.out.1, HX2.out.2, by have := HZ2.out; omega, HRUN.out⟩⟩
      case measure => simp [intOf]
    · rw [if_neg h0] at HRUN
      have h0b : (a2 == 0) = false := by rw [beq_eq_false_iff_ne]; exact h0
      by_cases h4 : a2 = 4
      · subst h4
        rw [if_pos rfl] at HRUN
        go_wp2_with (first
         | (go_at_call 66; (with_reducible refine HC.out.mono ?_); rintro e w2 ⟨rfl, own2, hO2, hD2⟩
            have HREM := Lib.hid (hD2.remove (by have := HZ2.out; omega) y (by omega))
            have hz5 := HS5.out
            have y0' := cell_of_one (((HO.out.trans hO2).2.2 hh (by omega) (HZ.out _ (by omega))).trans HJ0.out)
            have y3' := cell_of_one (((HO.out.trans hO2).2.2 (hh + 3) (by omega) (HZ.out _ (by omega))).trans HJ3.out)
            have HX2 := Lib.hid (And.intro hO2 hD2); clear hO2 hD2)
         | (go_at_call 30; (with_reducible refine HREM.out.mono ?_); rintro e w3 ⟨rfl, own3, hO3, hD3⟩; have HX3 := Lib.hid (And.intro hO3 hD3); clear hO3 hD3))
        go_ret
        rw [HRUN.out]
        exact ⟨rfl, own3, HO5.out.trans (HO.out.trans (HX2.out.1.trans HX3.out.1)), HX3.out.2⟩
      · rw [if_neg h4] at HRUN
        have h4b : (a2 == 4) = false := by rw [beq_eq_false_iff_ne]; exact h4
        go_wp2_with (go_at_call 66; (with_reducible refine HC.out.mono ?_); rintro e w2 ⟨rfl, own2, hO2, hD2⟩; have HX2 := Lib.hid (And.intro hO2 hD2); clear hO2 hD2)
        go_ret
        rw [HRUN.out]
        exact ⟨rfl, own2, HO5.out.trans (HO.out.trans HX2.out.1), HX2.out.2⟩
  · obtain ⟨a2, r2, hp⟩ : ∃ a2 r2, r'.syncDir = (a2, r2) := ⟨_, _, rfl⟩
    have hz2 : r2.size ≤ r'.size + 4 := by have h := size_syncDir F; rw [hp] at h; exact h
    have hcell : wr.cell? ⟨hh + 1 + 1 + 1 + 1, 4, none⟩ = some (.func (.func 31) #[.pointer (some ⟨d, 0, none⟩)] #[]) := (cell_of_row _ (hh + 4) 4 _ _ (0, 0) b4).trans rfl
    have HC : Hid (Calls Tryz.prog 31 #[.pointer (some ⟨d, 0, none⟩)] wr (LayK wr d own' a2 r2)) := Lib.hid (by have hq := (hDr.syncDir (by omega)); rw [hp] at hq; exact hq.mono fun e w' hh => ⟨hh.1, hh.2⟩)
    have hen := syncDirF_enters
    have HRUN : Hid (out = if a2 = 0 then runL y ((layS x y (cellsZ (asZ l))).drop 5) r2 else if a2 = 4 then (4, (r2.remove y).2) else (a2, r2)) := Lib.hid (by
     rw [hrun]
     show (if (r'.syncDir).1 = 0 then runL y ((layS x y (cellsZ (asZ l))).drop 5) (r'.syncDir).2 else if (r'.syncDir).1 = 4 then (4, ((r'.syncDir).2.remove y).2) else r'.syncDir) = _
     rw [hp])
    have HZ2 := Lib.hid (And.intro hz2 hsz)
    clear hrun hO hDr hsz hp b0 b1 b2 b3 b4 HI hz2 F
    by_cases h0 : a2 = 0
    · subst h0
      rw [if_pos rfl] at HRUN
      go_wp2_with (go_at_call 31; (with_reducible refine HC.out.mono ?_); rintro e w2 ⟨rfl, own2, hO2, hD2⟩; have HX2 := Lib.hid (And.intro hO2 hD2); clear hO2 hD2)
      go_roundw
      case rel => exact ⟨5, by omega, by simp, own2, r2, Lib.hid ⟨HO.out.trans HX2.out.1, HX2.out.2, by have := HZ2.out; omega, HRUN.out⟩⟩
      case measure => simp [intOf]
    · rw [if_neg h0] at HRUN
      have h0b : (a2 == 0) = false := by rw [beq_eq_false_iff_ne]; exact h0
      by_cases h4 : a2 = 4
      · subst h4
        rw [if_pos rfl] at HRUN
        go_wp2_with (first
         | (go_at_call 31; (with_reducible refine HC.out.mono ?_); rintro e w2 ⟨rfl, own2, hO2, hD2⟩
            have HREM := Lib.hid (hD2.remove (by have := HZ2.out; omega) y (by omega))
            have hz5 := HS5.out
            have y0' := cell_of_one (((HO.out.trans hO2).2.2 hh (by omega) (HZ.out _ (by omega))).trans HJ0.out)
            have y3' := cell_of_one (((HO.out.trans hO2).2.2 (hh + 3) (by omega) (HZ.out _ (by omega))).trans HJ3.out)
            have HX2 := Lib.hid (And.intro hO2 hD2); clear hO2 hD2)
         | (go_at_call 30; (with_reducible refine HREM.out.mono ?_); rintro e w3 ⟨rfl, own3, hO3, hD3⟩; have HX3 := Lib.hid (And.intro hO3 hD3); clear hO3 hD3))
        go_ret
        rw [HRUN.out]
        exact ⟨rfl, own3, HO5.out.trans (HO.out.trans (HX2.out.1.trans HX3.out.1)), HX3.out.2⟩
      · rw [if_neg h4] at HRUN
        have h4b : (a2 == 4) = false := by rw [beq_eq_false_iff_ne]; exact h4
        go_wp2_with (go_at_call 31; (with_reducible refine HC.out.mono ?_); rintro e w2 ⟨rfl, own2, hO2, hD2⟩; have HX2 := Lib.hid (And.intro hO2 hD2); clear hO2 hD2)
        go_ret
        rw [HRUN.out]
        exact ⟨rfl, own2, HO5.out.trans (HO.out.trans HX2.out.1), HX2.out.2⟩
  · have HRUN : Hid (out = (0, r')) := Lib.hid hrun
    have HX2 := Lib.hid (And.intro hO hDr)
    clear hrun hO hDr hsz b0 b1 b2 b3 b4 HI F
    go_wp2
    go_ret
    rw [HRUN.out]
    exact ⟨rfl, own', HO5.out.trans HX2.out.1, HX2.out.2⟩
def GetAns (r : RD) (l : List Nat) (dn B : Nat) (e : Ending) (W : World) : Prop :=
 match findR r l dn with
 | none => e = .returned (.tuple #[.slice none 0 0, .bool false])
 | some (_, a) => ∃ A' c', e = .returned (.tuple #[.slice A' a.length c', .bool true]) ∧ BLine W A' a.length c' a ∧ ∀ j ∈ blk A', B ≤ j
theorem cget_any (w : World) (s d dn : Nat) (own : Nat → Nat) (r : RD) (A : Option Addr) (n c : Nat) (l : List Nat) (hS : SBox w s d dn) (hD : IsD w d own r) (hsm : SmallD r) (hdn : dn ≤ 64) (hK : KeyAt w A n c l) (hR : RootsOk w) :
 Calls Tryz.prog 15 #[.pointer (some ⟨s, 0, none⟩), .slice A n c] w fun e w' => GetAns r l dn w.heap.size e w' ∧ Below w.heap.size w w' := by
 have HF := Lib.hid (find_any w s d dn own r A n c l hS hD hsm hdn hK hR)
 clear hS hD hK hR hsm
 cases hf : findR r l dn with
 | none =>
  go_enter Tryz.func15, Tryz.ntmps15
  go_wp2_with fail
  refine HF.out.mono ?_
  rintro e w1 ⟨ha, hb⟩
  unfold FindAns at ha
  rw [hf] at ha
  simp only at ha
  subst ha
  have HB := Lib.hid hb
  clear hb
  go_wp2
  go_ret2
  exact ⟨by unfold GetAns; rw [hf]; rfl, HB.out⟩
 | some sa =>
  obtain ⟨t, a⟩ := sa
  go_enter Tryz.func15, Tryz.ntmps15
  go_wp2_with fail
  refine HF.out.mono ?_
  rintro e w1 ⟨ha, hb⟩
  unfold FindAns at ha
  rw [hf] at ha
  simp only at ha
  obtain ⟨A', c', rfl, hl, hbl⟩ := ha
  have HB := Lib.hid (And.intro hb (And.intro hl hbl))
  clear hb hl hbl
  go_wp2
  go_ret2
  exact ⟨by unfold GetAns; rw [hf]; exact ⟨A', c', rfl, HB.out.2⟩, HB.out.1⟩
def putR (r : RD) (l a : List Nat) (dn : Nat) : Int × RD :=
 if r.off = true then (5, r) else
 match findR r l dn with
 | some _ => (0, r)
 | none => match roomR r l dn with
  | none => (2, r)
  | some s => layR r (fileB l dn s) (cellsZ (asZ (entryN l a)))
def dropR (r : RD) (l : List Nat) (dn : Nat) : Int × RD :=
 match findR r l dn with
 | none => (3, r)
 | some (s, _) => if (r.remove (fileB l dn s)).1 = 0 then (r.remove (fileB l dn s)).2.syncDir else r.remove (fileB l dn s)
theorem roomR_lt {r : RD} {l : List Nat} {dn s : Nat} (h : roomR r l dn = some s) : s < 8 := by
 unfold roomR at h
 exact List.mem_range.1 (List.mem_of_find?_eq_some h)
theorem findR_lt {r : RD} {l : List Nat} {dn s : Nat} {a : List Nat} (h : findR r l dn = some (s, a)) : s < 8 ∧ hitR r l dn s = some a := by
 unfold findR at h
 obtain ⟨t, ht, he⟩ := List.exists_of_findSome?_eq_some h
 cases hh : hitR r l dn t with
 | none => rw [hh] at he; cases he
 | some b =>
  rw [hh] at he
  cases he
  exact ⟨List.mem_range.1 ht, hh⟩
theorem fileB_size (l : List Nat) (dn s : Nat) (hdn : dn ≤ 64) : (fileB l dn s).size ≤ 68 := by
 unfold fileB
 rw [txt_size, fileN_length l dn s hdn]
 omega
set_option maxHeartbeats 1600000 in
theorem cput_any (w : World) (s d dn : Nat) (own : Nat → Nat) (r : RD) (A B : Option Addr) (n c m c2 : Nat) (l a : List Nat) (hS : SBox w s d dn) (hD : IsD w d own r) (hsm : SmallD r) (hdn : dn ≤ 64) (hK : KeyAt w A n c l) (hR : RootsOk w) (hA : RowN w B m a) (hn : n ≤ 65536) (hm : m ≤ 65536) (hnm : n + m + 16 ≤ 100000) (hsz : r.size + 40 ≤ 80000) :
 Calls Tryz.prog 12 #[.pointer (some ⟨s, 0, none⟩), .slice A n c, .slice B m c2] w fun e w' => e = .returned (.int .i64 (putR r l a dn).1) ∧ DNext w d own (putR r l a dn).2 w' := by
 have HE := Lib.hid (entry_any A B n c m c2 l a hn hm hnm w hK.1.1 hA)
 have HS := Lib.hid hS
 have HD := Lib.hid hD
 have HKY := Lib.hid hK
 have HR := Lib.hid hR
 obtain ⟨out, hout⟩ : ∃ out, putR r l a dn = out := ⟨_, rfl⟩
 rw [hout]
 unfold putR at hout
 clear hS hD hK hR hA
 obtain ⟨b, hb⟩ : ∃ b, r.off = b := ⟨_, rfl⟩
 rw [hb] at hout
 cases b with
 | true =>
  rw [if_pos rfl] at hout
  have HO := Lib.hid hout
  clear hout
  go_enter Tryz.func12, Tryz.ntmps12
  go_wp2_with (first
   | ((with_reducible refine HE.out.mono ?_)
      rintro e w1 ⟨⟨A1, d1, rfl, hl1, hf1⟩, hb1⟩
      have y0 := (HS.out.below hb1).cells.1
      have HOF := (HD.out.below hb1).isOff
      rw [hb] at HOF
      have HOF := Lib.hid HOF
      have HB1 := Lib.hid hb1
      clear hl1 hf1 hb1)
   | ((with_reducible refine HOF.out.mono ?_); rintro e w2 ⟨rfl, rfl⟩))
  go_ret
  rw [← HO.out]
  exact ⟨rfl, DNext.still HD.out HB1.out⟩
 | false =>
  rw [if_neg (by simp)] at hout
  go_enter Tryz.func12, Tryz.ntmps12
  go_wp2_with fail
  refine HE.out.mono ?_
  rintro e w1 ⟨⟨A1, d1, rfl, hl1, hf1⟩, hb1⟩
  have y0 := (HS.out.below hb1).cells.1
  have HOF := (HD.out.below hb1).isOff
  rw [hb] at HOF
  have HOF := Lib.hid HOF
  have HG := Lib.hid (cget_any w1 s d dn own r A n c l (HS.out.below hb1) (HD.out.below hb1) hsm hdn (HKY.out.below hb1) (HR.out.below hb1))
  have HL1 := Lib.hid (And.intro hl1 hf1)
  have HB1 := Lib.hid hb1
  clear hl1 hf1 hb1
  cases hf : findR r l dn with
  | some sa =>
   rw [hf] at hout
   have HO := Lib.hid hout
   obtain ⟨t, a2⟩ := sa
   simp only at hout
   clear hout
   go_wp2_with (first
    | ((with_reducible refine HOF.out.mono ?_); rintro e w2 ⟨rfl, rfl⟩)
    | fail)
   refine HG.out.mono ?_
   rintro e w3 ⟨ha, hb3⟩
   unfold GetAns at ha
   rw [hf] at ha
   simp only at ha
   obtain ⟨A3, c3, rfl, hl3, hf3⟩ := ha
   have HB3 := Lib.hid (HB1.out.trans (hb3.mono HB1.out.size))
   clear hl3 hf3 hb3
   go_wp2
   go_ret
   rw [← HO.out]
   exact ⟨rfl, DNext.still HD.out HB3.out⟩
  | none =>
   rw [hf] at hout
   simp only at hout
   go_wp2_with (first
    | ((with_reducible refine HOF.out.mono ?_); rintro e w2 ⟨rfl, rfl⟩)
    | fail)
   refine HG.out.mono ?_
   rintro e w3 ⟨ha, hb3⟩
   unfold GetAns at ha
   rw [hf] at ha
   simp only at ha
   subst ha
   have hb13 := HB1.out.trans (hb3.mono HB1.out.size)
   have HRM := Lib.hid (room_any w3 s d dn own r A n c l (HS.out.below hb13) (HD.out.below hb13) hsm hdn (HKY.out.below hb13) (HR.out.below hb13))
   have HB3 := Lib.hid hb3
   have HB13 := Lib.hid hb13
   clear hb3 hb13
   cases hr : roomR r l dn with
   | none =>
    rw [hr] at hout
    have HO := Lib.hid hout
    clear hout
    go_wp2_with fail
    refine HRM.out.mono ?_
    rintro e w4 ⟨ha, hb4⟩
    unfold RoomAns at ha
    rw [hr] at ha
    simp only at ha
    subst ha
    have HB4 := Lib.hid (HB13.out.trans (hb4.mono HB13.out.size))
    clear hb4
    go_wp2
    go_ret
    rw [← HO.out]
    exact ⟨rfl, DNext.still HD.out HB4.out⟩
   | some t =>
    rw [hr] at hout
    have HO := Lib.hid hout
    have ht := roomR_lt hr
    clear hout
    go_wp2_with fail
    refine HRM.out.mono ?_
    rintro e w4 ⟨ha, hb4⟩
    unfold RoomAns at ha
    rw [hr] at ha
    simp only at ha
    subst ha
    have hb14 := HB13.out.trans (hb4.mono HB13.out.size)
    have y1 := (HS.out.below hb14).cells.1
    have hsz4 := fileB_size l dn t hdn
    have hDD := HD.out
    have HLY := claid_any w4 d own r (fileB l dn t) A1 (n + m + 16) d1 (entryN l a) (HD.out.below hb14) (by omega) hsz ((HL1.out.1.below HB3.out).below hb4).row (by omega) (fun k hk => hDD.1 k (HL1.out.2 k hk))
    have HLY := Lib.hid HLY
    have HB14 := Lib.hid hb14
    clear hb4 hb14 hDD
    go_wp2_with fail
    refine HLY.out.mono ?_
    rintro e w5 ⟨rfl, own5, hO5, hD5⟩
    have H5 := Lib.hid (And.intro hO5 hD5)
    clear hO5 hD5
    go_wp2
    go_ret
    rw [← HO.out]
    exact ⟨rfl, own5, (Only.of_below own HB14.out).trans H5.out.1, H5.out.2⟩
end
section
open Go.RowKit Go.Maps
section
variable {P : List (ByteArray × Value)} {x y z : ByteArray} {v : Value}
theorem absent_two (hr : Rises ltS P) (h : hasP ltS P y = false) : P.filter (fun p => ltS p.1 y) ++ P.filter (fun p => ltS y p.1) = P := by
 have hn : lookP ltS P y = none := by
  unfold hasP at h
  cases hl : lookP ltS P y with
  | none => rfl
  | some u => rw [hl] at h; cases h
 have hm := (look_none orders_S hr).1 hn
 clear h hn
 induction P with
 | nil => rfl
 | cons p l ih =>
  obtain ⟨h1, h2⟩ := List.pairwise_cons.1 hr
  have hne : p.1 ≠ y := fun e => hm p.2 (by rw [← e]; exact List.mem_cons_self ..)
  have ih' := ih h2 (fun v hv => hm v (List.mem_cons_of_mem _ hv))
  by_cases hlt : ltS p.1 y = true
  · have hng : ltS y p.1 = false := orders_S.asym hlt
    rw [show (p :: l).filter (fun q => ltS q.1 y) = p :: l.filter (fun q => ltS q.1 y) from List.filter_cons_of_pos hlt, show (p :: l).filter (fun q => ltS y q.1) = l.filter (fun q => ltS y q.1) from List.filter_cons_of_neg (by rw [hng]; exact Bool.false_ne_true), List.cons_append, ih']
  · have hgt : ltS y p.1 = true := by
     cases hq : ltS y p.1 with
     | true => rfl
     | false => exact absurd (orders_S.tot _ _ (by simpa using hlt) hq) hne
    have h0 : (p :: l).filter (fun p => ltS p.1 y) = [] := by
     rw [List.filter_eq_nil_iff]
     intro q hq
     rcases List.mem_cons.1 hq with rfl | hq
     · exact hlt
     · have h3 := orders_S.tr _ _ _ hgt (h1 q hq)
       rw [orders_S.asym h3]
       exact Bool.false_ne_true
    have h4 : (p :: l).filter (fun p => ltS y p.1) = p :: l := by
     rw [List.filter_eq_self]
     intro q hq
     rcases List.mem_cons.1 hq with rfl | hq
     · exact hgt
     · exact orders_S.tr _ _ _ hgt (h1 q hq)
    rw [h0, h4]
    rfl
theorem drop_put (hr : Rises ltS P) (h : hasP ltS P y = false) : dropP ltS (putP ltS P y v) y = P := by
 have hi : ∀ a, ltS a a = false := orders_S.irr
 unfold dropP putP
 rw [List.filter_append, List.filter_append, List.filter_cons_of_neg (by rw [hi]; exact Bool.false_ne_true), List.filter_cons_of_neg (by rw [hi]; exact Bool.false_ne_true), List.filter_filter, List.filter_filter, List.filter_filter, List.filter_filter]
 have e1 : P.filter (fun p => ltS p.1 y && ltS p.1 y) = P.filter (fun p => ltS p.1 y) := by congr 1; funext p; simp
 have e2 : P.filter (fun p => ltS p.1 y && ltS y p.1) = [] := by
  rw [List.filter_eq_nil_iff]
  intro p _
  intro hh
  rw [Bool.and_eq_true] at hh
  rw [orders_S.asym hh.1] at hh
  exact Bool.false_ne_true hh.2
 have e3 : P.filter (fun p => ltS y p.1 && ltS p.1 y) = [] := by
  rw [List.filter_eq_nil_iff]
  intro p _
  intro hh
  rw [Bool.and_eq_true] at hh
  rw [orders_S.asym hh.1] at hh
  exact Bool.false_ne_true hh.2
 have e4 : P.filter (fun p => ltS y p.1 && ltS y p.1) = P.filter (fun p => ltS y p.1) := by congr 1; funext p; simp
 rw [e1, e2, e3, e4, List.append_nil, List.nil_append]
 exact absent_two hr h
theorem has_put (hr : Rises ltS P) : hasP ltS (putP ltS P y v) z = (decide (z = y) || hasP ltS P z) := by
 unfold hasP
 rw [look_put orders_S hr v z]
 by_cases h : z = y
 · rw [if_pos h, decide_eq_true h]; rfl
 · rw [if_neg h, decide_eq_false h]; rfl
theorem has_drop (hr : Rises ltS P) : hasP ltS (dropP ltS P y) z = (!decide (z = y) && hasP ltS P z) := by
 unfold hasP
 rw [look_drop orders_S hr z]
 by_cases h : z = y
 · rw [if_pos h, decide_eq_true h]; rfl
 · rw [if_neg h, decide_eq_false h]; rfl
theorem sum_put (g : Value → Nat) (hr : Rises ltS P) (h : hasP ltS P y = false) : sumLen g (putP ltS P y v) = sumLen g P + g v := by
 have e := absent_two hr h
 have h1 : sumLen g P = sumLen g (P.filter (fun p => ltS p.1 y)) + sumLen g (P.filter (fun p => ltS y p.1)) := by
  conv => lhs; rw [← e]
  unfold sumLen
  rw [List.map_append, List.sum_append]
 have h2 : sumLen g (putP ltS P y v) = sumLen g (P.filter (fun p => ltS p.1 y)) + (g v + sumLen g (P.filter (fun p => ltS y p.1))) := by
  unfold sumLen putP
  rw [List.map_append, List.sum_append, List.map_cons, List.sum_cons]
 omega
end
theorem layP_one (P : List (ByteArray × Value)) (y : ByteArray) (k : Nat) : layP P [(y, numV k)] = putP ltS P y (numV k) := rfl
theorem layP_two (P : List (ByteArray × Value)) (y x : ByteArray) (k : Nat) : layP P [(y, .pointer none), (x, numV k)] = putP ltS (dropP ltS P y) x (numV k) := rfl
theorem layP_gone (P : List (ByteArray × Value)) (y : ByteArray) : layP P [(y, .pointer none)] = dropP ltS P y := rfl
structure OnR (r : RD) : Prop where
 off : r.off = false
 stop : r.stop = -1
 fct : Fct r
theorem spare_name (l : List Nat) (dn s : Nat) : fileB l dn s ++ tmpB = spareF l dn s := by
 unfold fileB tmpB spareF spareN
 rw [show (⟨#[46, 116, 109, 112]⟩ : ByteArray) = txt [46, 116, 109, 112] from rfl, txt_append]
section
variable {r : RD} {x y : ByteArray} {bs : List Value}
theorem lay_ok (h : OnR r) (hx : nameOk x = true) (hy : nameOk y = true) (hxy : x ≠ y) (hny : hasP ltS r.now y = false) (hlen : r.now.length < 1024) (hbs : bs.length ≤ 1048576) (hq : (r.used : Int) + (bs.length : Int) ≤ r.quota) :
 runL y (layS x y bs) r = (0, ⟨r.files ++ [⟨bs, bs.length⟩], putP ltS r.now x (numV r.files.length), [], r.quota, r.full, false, -1, r.calls + 5⟩) := by
 obtain ⟨files, sure, chs, quota, full, off, stop, calls⟩ := r
 have h1 := h.off
 have h2 := h.stop
 simp only at h1 h2
 subst h1 h2
 have hP := h.fct.rn
 have hN := h.fct.nn
 obtain ⟨P, hPe⟩ : ∃ P, layAll sure chs = P := ⟨_, rfl⟩
 have e0 : RD.now ⟨files, sure, chs, quota, full, false, -1, calls⟩ = P := hPe
 rw [e0] at hP hN hny hlen ⊢
 have hu : RD.used ⟨files, sure, chs, quota, full, false, -1, calls⟩ = sumLen (fun v => (files.getD (numOf v) ⟨[], 0⟩).data.length) P := by
  unfold RD.used
  rw [e0]
  rfl
 rw [hu] at hq
 simp only at hq
 have hb : ∀ (fs : List Fl) (cs : List (List (ByteArray × Value))) (k : Nat), RD.begE ⟨fs, sure, cs, quota, full, false, -1, k⟩ [y] = 0 := fun fs cs k => by
  unfold RD.begE RD.on
  simp [hy]
 have hb2 : ∀ (fs : List Fl) (cs : List (List (ByteArray × Value))) (k : Nat), RD.begE ⟨fs, sure, cs, quota, full, false, -1, k⟩ [y, x] = 0 := fun fs cs k => by
  unfold RD.begE RD.on
  simp [hy, hx]
 have hpw : ∀ (fs : List Fl) (su : List (ByteArray × Value)) (cs : List (List (ByteArray × Value))) (k : Nat), RD.powered ⟨fs, su, cs, quota, full, false, -1, k⟩ = ⟨fs, su, cs, quota, full, false, -1, k + 1⟩ := fun fs su cs k => rfl
 have hL := files.length
 have s1 : RD.create ⟨files, sure, chs, quota, full, false, -1, calls⟩ y = (0, ⟨files ++ [⟨[], 0⟩], sure, chs ++ [[(y, numV files.length)]], quota, full, false, -1, calls + 1⟩) := by
  unfold RD.create
  rw [hb, if_pos rfl, e0, if_neg (by rw [hny]; omega), hpw]
 have hn1 : layAll sure (chs ++ [[(y, numV files.length)]]) = putP ltS P y (numV files.length) := by rw [layAll_snoc, hPe, layP_one]
 have hl1 : lookP ltS (putP ltS P y (numV files.length)) y = some (numV files.length) := by rw [look_put orders_S hP, if_pos rfl]
 have hw : ∀ (fs : List Fl) (k : Nat), RD.witE ⟨fs, sure, chs ++ [[(y, numV files.length)]], quota, full, false, -1, k⟩ [y] y = 0 := fun fs k => by
  unfold RD.witE
  rw [hb, if_pos rfl]
  unfold RD.now
  rw [hn1, has_put hP]
  simp
 have hnum : ∀ (fs : List Fl) (k : Nat), RD.num ⟨fs, sure, chs ++ [[(y, numV files.length)]], quota, full, false, -1, k⟩ y = files.length := fun fs k => by
  unfold RD.num RD.now
  rw [hn1, hl1]
  exact numOf_numV _
 have hget : ∀ (f : Fl) (k : Nat), RD.get ⟨files ++ [f], sure, chs ++ [[(y, numV files.length)]], quota, full, false, -1, k⟩ y = f := fun f k => by
  unfold RD.get
  rw [hnum]
  unfold RD.file
  simp
 have hset : ∀ f g : Fl, (files ++ [f]).set files.length g = files ++ [g] := fun f g => by simp
 have hus : RD.used ⟨files ++ [⟨[], 0⟩], sure, chs ++ [[(y, numV files.length)]], quota, full, false, -1, calls + 1⟩ = sumLen (fun v => (files.getD (numOf v) ⟨[], 0⟩).data.length) P := by
  unfold RD.used RD.now
  rw [hn1, sum_put _ hP hny]
  unfold RD.file
  rw [numOf_numV]
  have e1 : ((files ++ [(⟨[], 0⟩ : Fl)]).getD files.length ⟨[], 0⟩).data.length = 0 := by simp
  rw [e1, Nat.add_zero]
  unfold sumLen
  congr 1
  refine List.map_congr_left fun p hp => ?_
  obtain ⟨k, hk, hlt⟩ := hN p hp
  rw [hk]
  show ((files ++ [(⟨[], 0⟩ : Fl)]).getD (numOf (numV k)) ⟨[], 0⟩).data.length = (files.getD (numOf (numV k)) ⟨[], 0⟩).data.length
  rw [numOf_numV]
  simp only at hlt
  rw [List.getD_eq_getElem?_getD, List.getD_eq_getElem?_getD, List.getElem?_append_left hlt]
 have s2 : RD.append ⟨files ++ [⟨[], 0⟩], sure, chs ++ [[(y, numV files.length)]], quota, full, false, -1, calls + 1⟩ y bs = (0, ⟨files ++ [⟨bs, 0⟩], sure, chs ++ [[(y, numV files.length)]], quota, full, false, -1, calls + 2⟩) := by
  unfold RD.append
  rw [hw, if_pos rfl, hget, if_neg (by simp; omega), hus, if_neg (by simp only; omega), hnum, hset, hpw]
  rfl
 have s3 : RD.sync ⟨files ++ [⟨bs, 0⟩], sure, chs ++ [[(y, numV files.length)]], quota, full, false, -1, calls + 2⟩ y = (0, ⟨files ++ [⟨bs, bs.length⟩], sure, chs ++ [[(y, numV files.length)]], quota, full, false, -1, calls + 3⟩) := by
  unfold RD.sync
  rw [hw, if_pos rfl, hget, hnum, hset, hpw]
 have hw2 : RD.witE ⟨files ++ [⟨bs, bs.length⟩], sure, chs ++ [[(y, numV files.length)]], quota, full, false, -1, calls + 3⟩ [y, x] y = 0 := by
  unfold RD.witE
  rw [hb2, if_pos rfl]
  unfold RD.now
  rw [hn1, has_put hP]
  simp
 have s4 : RD.rename ⟨files ++ [⟨bs, bs.length⟩], sure, chs ++ [[(y, numV files.length)]], quota, full, false, -1, calls + 3⟩ y x = (0, ⟨files ++ [⟨bs, bs.length⟩], sure, (chs ++ [[(y, numV files.length)]]) ++ [[(y, .pointer none), (x, numV files.length)]], quota, full, false, -1, calls + 4⟩) := by
  unfold RD.rename
  rw [hw2, if_pos rfl, hnum, hpw]
 have hn4 : layAll sure ((chs ++ [[(y, numV files.length)]]) ++ [[(y, .pointer none), (x, numV files.length)]]) = putP ltS P x (numV files.length) := by
  rw [layAll_snoc, hn1, layP_two, drop_put hP hny]
 have s5 : RD.syncDir ⟨files ++ [⟨bs, bs.length⟩], sure, (chs ++ [[(y, numV files.length)]]) ++ [[(y, .pointer none), (x, numV files.length)]], quota, full, false, -1, calls + 4⟩ = (0, ⟨files ++ [⟨bs, bs.length⟩], putP ltS P x (numV files.length), [], quota, full, false, -1, calls + 5⟩) := by
  unfold RD.syncDir
  rw [if_pos (by rfl)]
  unfold RD.now
  rw [hn4, hpw]
 simp only [layS, runL, s1, s2, s3, s4, s5, if_true]
end
def decS (st : Int) : Int := if 0 < st then st - 1 else st
section
variable {files : List Fl} {sure : List (ByteArray × Value)} {chs : List (List (ByteArray × Value))} {q : Int} {fl : Bool} {st : Int} {n : Nat} {ns : List ByteArray}
theorem pw_on (h : st ≠ 0) : RD.powered ⟨files, sure, chs, q, fl, false, st, n⟩ = ⟨files, sure, chs, q, fl, false, decS st, n + 1⟩ := by
 unfold RD.powered decS
 simp only [Bool.false_eq_true, if_false]
 rw [if_neg h]
 split <;> rfl
theorem pw_off : RD.powered ⟨files, sure, chs, q, fl, false, 0, n⟩ = ⟨files, sure, chs, q, fl, true, 0, n + 1⟩ := rfl
theorem on_on (h : st ≠ 0) : RD.on ⟨files, sure, chs, q, fl, false, st, n⟩ = true := by
 unfold RD.on
 simp [h]
theorem bg_on (h : st ≠ 0) (hn : ns.all nameOk = true) : RD.begE ⟨files, sure, chs, q, fl, false, st, n⟩ ns = 0 := by
 unfold RD.begE
 rw [on_on h, if_pos rfl, if_pos hn]
theorem bg_off : RD.begE ⟨files, sure, chs, q, fl, false, 0, n⟩ ns = 5 := rfl
theorem wt_off {x : ByteArray} : RD.witE ⟨files, sure, chs, q, fl, false, 0, n⟩ ns x = 5 := rfl
theorem sync_off : RD.syncDir ⟨files, sure, chs, q, fl, false, 0, n⟩ = (5, ⟨files, sure, chs, q, fl, true, 0, n + 1⟩) := rfl
theorem sync_on (h : st ≠ 0) : RD.syncDir ⟨files, sure, chs, q, fl, false, st, n⟩ = (0, ⟨files, layAll sure chs, [], q, fl, false, decS st, n + 1⟩) := by
 unfold RD.syncDir
 rw [if_pos (on_on h), pw_on h]
 rfl
end
structure LaidA (r : RD) (x y : ByteArray) (bs : List Value) (R : Int × RD) : Prop where
 quota : R.2.quota = r.quota
 calls : R.2.calls ≤ r.calls + 5
 all : (R.1 = 0 ∧ R.2.off = false ∧ R.2.files = r.files ++ [⟨bs, bs.length⟩] ∧ R.2.sure = putP ltS r.sure x (numV r.files.length) ∧ R.2.chs = []) ∨
  (R.1 = 5 ∧ R.2.off = true ∧ R.2.sure = r.sure ∧ ((R.2.files = r.files ∧ R.2.chs = []) ∨ (∃ f, R.2.files = r.files ++ [f] ∧ f.data.length ≤ bs.length ∧ R.2.chs = [[(y, numV r.files.length)]]) ∨ (R.2.files = r.files ++ [⟨bs, bs.length⟩] ∧ R.2.chs = [[(y, numV r.files.length)], [(y, .pointer none), (x, numV r.files.length)]])))
section
variable {r : RD} {x y : ByteArray} {bs : List Value}
theorem lay_stop (h1 : r.off = false) (hc : r.chs = []) (F : Fct r) (hx : nameOk x = true) (hy : nameOk y = true) (hxy : x ≠ y) (hny : hasP ltS r.sure y = false) (hlen : r.sure.length < 1024) (hbs : bs.length ≤ 1048576) (hq : (r.used : Int) + (bs.length : Int) ≤ r.quota) :
 LaidA r x y bs (runL y (layS x y bs) r) := by
 have hN := F.nn
 have hP := F.rs
 obtain ⟨files, sure, chs, quota, full, off, st, calls⟩ := r
 simp only at h1 hc hny hlen hP
 subst h1 hc
 have e0 : RD.now ⟨files, sure, [], quota, full, false, st, calls⟩ = sure := rfl
 rw [e0] at hN
 have hu : RD.used ⟨files, sure, [], quota, full, false, st, calls⟩ = sumLen (fun v => (files.getD (numOf v) ⟨[], 0⟩).data.length) sure := rfl
 rw [hu] at hq
 simp only at hq hN
 have hn1 : layAll sure [[(y, numV files.length)]] = putP ltS sure y (numV files.length) := rfl
 have hl1 : lookP ltS (putP ltS sure y (numV files.length)) y = some (numV files.length) := by rw [look_put orders_S hP, if_pos rfl]
 have hay : [y].all nameOk = true := by simp [hy]
 have hayx : [y, x].all nameOk = true := by simp [hx, hy]
 have s1 : ∀ (st : Int) (n : Nat), st ≠ 0 → RD.create ⟨files, sure, [], quota, full, false, st, n⟩ y = (0, ⟨files ++ [⟨[], 0⟩], sure, [[(y, numV files.length)]], quota, full, false, decS st, n + 1⟩) := fun st n h => by
  unfold RD.create
  rw [bg_on h hay, if_pos rfl, if_neg (fun hh => by have h9 : 1024 ≤ sure.length := hh.2; omega), pw_on h]
  rfl
 have s1' : ∀ (n : Nat), RD.create ⟨files, sure, [], quota, full, false, 0, n⟩ y = (5, ⟨files, sure, [], quota, full, true, 0, n + 1⟩) := fun n => by
  unfold RD.create
  rw [bg_off, if_neg (by decide), pw_off]
 have hw : ∀ (fs : List Fl) (st : Int) (k : Nat), st ≠ 0 → RD.witE ⟨fs, sure, [[(y, numV files.length)]], quota, full, false, st, k⟩ [y] y = 0 := fun fs st k h => by
  unfold RD.witE
  rw [bg_on h hay, if_pos rfl]
  unfold RD.now
  rw [hn1, has_put hP]
  simp
 have hnum : ∀ (fs : List Fl) (st : Int) (k : Nat), RD.num ⟨fs, sure, [[(y, numV files.length)]], quota, full, false, st, k⟩ y = files.length := fun fs st k => by
  unfold RD.num RD.now
  rw [hn1, hl1]
  exact numOf_numV _
 have hget : ∀ (f : Fl) (st : Int) (k : Nat), RD.get ⟨files ++ [f], sure, [[(y, numV files.length)]], quota, full, false, st, k⟩ y = f := fun f st k => by
  unfold RD.get
  rw [hnum]
  unfold RD.file
  simp
 have hset : ∀ f g : Fl, (files ++ [f]).set files.length g = files ++ [g] := fun f g => by simp
 have hus : ∀ (st : Int) (k : Nat), RD.used ⟨files ++ [⟨[], 0⟩], sure, [[(y, numV files.length)]], quota, full, false, st, k⟩ = sumLen (fun v => (files.getD (numOf v) ⟨[], 0⟩).data.length) sure := fun st k => by
  unfold RD.used RD.now
  rw [hn1, sum_put _ hP hny]
  unfold RD.file
  rw [numOf_numV]
  have e1 : ((files ++ [(⟨[], 0⟩ : Fl)]).getD files.length ⟨[], 0⟩).data.length = 0 := by simp
  rw [e1, Nat.add_zero]
  unfold sumLen
  congr 1
  refine List.map_congr_left fun p hp => ?_
  obtain ⟨k, hk, hlt⟩ := hN p hp
  rw [hk]
  show ((files ++ [(⟨[], 0⟩ : Fl)]).getD (numOf (numV k)) ⟨[], 0⟩).data.length = (files.getD (numOf (numV k)) ⟨[], 0⟩).data.length
  rw [numOf_numV]
  rw [List.getD_eq_getElem?_getD, List.getD_eq_getElem?_getD, List.getElem?_append_left hlt]
 have s2 : ∀ (st : Int) (n : Nat), st ≠ 0 → RD.append ⟨files ++ [⟨[], 0⟩], sure, [[(y, numV files.length)]], quota, full, false, st, n⟩ y bs = (0, ⟨files ++ [⟨bs, 0⟩], sure, [[(y, numV files.length)]], quota, full, false, decS st, n + 1⟩) := fun st n h => by
  unfold RD.append
  rw [hw _ _ _ h, if_pos rfl, hget, if_neg (by simp; omega), hus, if_neg (by simp only; omega), hnum, hset, pw_on h]
  rfl
 have s2' : ∀ (fs : List Fl) (n : Nat), RD.append ⟨fs, sure, [[(y, numV files.length)]], quota, full, false, 0, n⟩ y bs = (5, ⟨fs, sure, [[(y, numV files.length)]], quota, full, true, 0, n + 1⟩) := fun fs n => by
  unfold RD.append
  rw [wt_off, if_neg (by decide), pw_off]
 have s3 : ∀ (st : Int) (n : Nat), st ≠ 0 → RD.sync ⟨files ++ [⟨bs, 0⟩], sure, [[(y, numV files.length)]], quota, full, false, st, n⟩ y = (0, ⟨files ++ [⟨bs, bs.length⟩], sure, [[(y, numV files.length)]], quota, full, false, decS st, n + 1⟩) := fun st n h => by
  unfold RD.sync
  rw [hw _ _ _ h, if_pos rfl, hget, hnum, hset, pw_on h]
 have s3' : ∀ (fs : List Fl) (n : Nat), RD.sync ⟨fs, sure, [[(y, numV files.length)]], quota, full, false, 0, n⟩ y = (5, ⟨fs, sure, [[(y, numV files.length)]], quota, full, true, 0, n + 1⟩) := fun fs n => by
  unfold RD.sync
  rw [wt_off, if_neg (by decide), pw_off]
 have hw2 : ∀ (st : Int) (k : Nat), st ≠ 0 → RD.witE ⟨files ++ [⟨bs, bs.length⟩], sure, [[(y, numV files.length)]], quota, full, false, st, k⟩ [y, x] y = 0 := fun st k h => by
  unfold RD.witE
  rw [bg_on h hayx, if_pos rfl]
  unfold RD.now
  rw [hn1, has_put hP]
  simp
 have s4 : ∀ (st : Int) (n : Nat), st ≠ 0 → RD.rename ⟨files ++ [⟨bs, bs.length⟩], sure, [[(y, numV files.length)]], quota, full, false, st, n⟩ y x = (0, ⟨files ++ [⟨bs, bs.length⟩], sure, [[(y, numV files.length)], [(y, .pointer none), (x, numV files.length)]], quota, full, false, decS st, n + 1⟩) := fun st n h => by
  unfold RD.rename
  rw [hw2 _ _ h, if_pos rfl, hnum, pw_on h]
  rfl
 have s4' : ∀ (fs : List Fl) (n : Nat), RD.rename ⟨fs, sure, [[(y, numV files.length)]], quota, full, false, 0, n⟩ y x = (5, ⟨fs, sure, [[(y, numV files.length)]], quota, full, true, 0, n + 1⟩) := fun fs n => by
  unfold RD.rename
  rw [wt_off, if_neg (by decide), pw_off]
 have hn4 : layAll sure [[(y, numV files.length)], [(y, .pointer none), (x, numV files.length)]] = putP ltS sure x (numV files.length) := by
  show layP (layP sure [(y, numV files.length)]) [(y, .pointer none), (x, numV files.length)] = _
  rw [layP_one, layP_two, drop_put hP hny]
 have n5 : ¬ (5 : Int) = 0 := by decide
 have n54 : ¬ (5 : Int) = 4 := by decide
 by_cases a0 : st = 0
 · subst a0
   simp only [layS, runL, s1', if_neg n5, if_neg n54]
   exact ⟨rfl, by simp only; omega, .inr ⟨rfl, rfl, rfl, .inl ⟨rfl, rfl⟩⟩⟩
 · have e1 := s1 st calls a0
   obtain ⟨t1, ht1⟩ : ∃ t, decS st = t := ⟨_, rfl⟩
   rw [ht1] at e1
   by_cases a1 : t1 = 0
   · subst a1
     simp only [layS, runL, e1, s2', if_neg n5, if_neg n54, if_true]
     exact ⟨rfl, by simp only; omega, .inr ⟨rfl, rfl, rfl, .inr (.inl ⟨_, rfl, Nat.zero_le _, rfl⟩)⟩⟩
   · have e2 := s2 t1 (calls + 1) a1
     obtain ⟨t2, ht2⟩ : ∃ t, decS t1 = t := ⟨_, rfl⟩
     rw [ht2] at e2
     by_cases a2 : t2 = 0
     · subst a2
       simp only [layS, runL, e1, e2, s3', if_neg n5, if_neg n54, if_true]
       exact ⟨rfl, by simp only; omega, .inr ⟨rfl, rfl, rfl, .inr (.inl ⟨_, rfl, Nat.le_refl _, rfl⟩)⟩⟩
     · have e3 := s3 t2 (calls + 1 + 1) a2
       obtain ⟨t3, ht3⟩ : ∃ t, decS t2 = t := ⟨_, rfl⟩
       rw [ht3] at e3
       by_cases a3 : t3 = 0
       · subst a3
         simp only [layS, runL, e1, e2, e3, s4', if_neg n5, if_neg n54, if_true]
         exact ⟨rfl, by simp only; omega, .inr ⟨rfl, rfl, rfl, .inr (.inl ⟨_, rfl, Nat.le_refl _, rfl⟩)⟩⟩
       · have e4 := s4 t3 (calls + 1 + 1 + 1) a3
         obtain ⟨t4, ht4⟩ : ∃ t, decS t3 = t := ⟨_, rfl⟩
         rw [ht4] at e4
         by_cases a4 : t4 = 0
         · subst a4
           simp only [layS, runL, e1, e2, e3, e4, sync_off, if_neg n5, if_neg n54, if_true]
           exact ⟨rfl, by simp only; omega, .inr ⟨rfl, rfl, rfl, .inr (.inr ⟨rfl, rfl⟩)⟩⟩
         · have e5 := sync_on (files := files ++ [⟨bs, bs.length⟩]) (sure := sure) (chs := [[(y, numV files.length)], [(y, .pointer none), (x, numV files.length)]]) (q := quota) (fl := full) (n := calls + 1 + 1 + 1 + 1) a4
           rw [hn4] at e5
           simp only [layS, runL, e1, e2, e3, e4, e5, if_true]
           exact ⟨rfl, by simp only; omega, .inl ⟨rfl, rfl, rfl, rfl, rfl⟩⟩
structure GoneA (r : RD) (x : ByteArray) (R : Int × RD) : Prop where
 quota : R.2.quota = r.quota
 calls : R.2.calls ≤ r.calls + 2
 files : R.2.files = r.files
 all : (R.1 = 0 ∧ R.2.off = false ∧ R.2.sure = dropP ltS r.sure x ∧ R.2.chs = []) ∨ (R.1 = 5 ∧ R.2.off = true ∧ R.2.sure = r.sure ∧ (R.2.chs = [] ∨ R.2.chs = [[(x, .pointer none)]]))
theorem gone_stop (h1 : r.off = false) (hc : r.chs = []) (hx : nameOk x = true) (hh : hasP ltS r.sure x = true) :
 GoneA r x (if (r.remove x).1 = 0 then (r.remove x).2.syncDir else r.remove x) := by
 obtain ⟨files, sure, chs, quota, full, off, st, calls⟩ := r
 simp only at h1 hc hh
 subst h1 hc
 have n5 : ¬ (5 : Int) = 0 := by decide
 by_cases a0 : st = 0
 · subst a0
   have e : RD.remove ⟨files, sure, [], quota, full, false, 0, calls⟩ x = (5, ⟨files, sure, [], quota, full, true, 0, calls + 1⟩) := by
    unfold RD.remove
    rw [wt_off, if_neg n5, pw_off]
   rw [e, if_neg n5]
   exact ⟨rfl, by simp only; omega, rfl, .inr ⟨rfl, rfl, rfl, .inl rfl⟩⟩
 · have e : RD.remove ⟨files, sure, [], quota, full, false, st, calls⟩ x = (0, ⟨files, sure, [[(x, .pointer none)]], quota, full, false, decS st, calls + 1⟩) := by
    have hw : RD.witE ⟨files, sure, [], quota, full, false, st, calls⟩ [x] x = 0 := by
     unfold RD.witE
     rw [bg_on a0 (by simp [hx]), if_pos rfl]
     show (if hasP ltS sure x = true then (0 : Int) else 3) = 0
     rw [if_pos hh]
    unfold RD.remove
    rw [hw, if_pos rfl, pw_on a0]
    rfl
   rw [e, if_pos rfl]
   obtain ⟨t1, ht1⟩ : ∃ t, decS st = t := ⟨_, rfl⟩
   rw [ht1]
   by_cases a1 : t1 = 0
   · subst a1
     rw [sync_off]
     exact ⟨rfl, by simp only; omega, rfl, .inr ⟨rfl, rfl, rfl, .inr rfl⟩⟩
   · rw [sync_on a1]
     exact ⟨rfl, by simp only; omega, rfl, .inl ⟨rfl, rfl, rfl, rfl⟩⟩
end
end
section
attribute [local go_sem] Oper.semAt_some
open Go.RowKit Go.Shelf Go.Maps
theorem RootsOk.same {w w' : World} (h : RootsOk w) (hz : w.heap.size ≤ w'.heap.size) (hs : w'.heap[1]? = w.heap[1]?) : RootsOk w' :=
 ⟨Nat.lt_of_lt_of_le h.1 hz, fun t ht => (World.cell?_of_block (w := w) (a := ⟨1, t, none⟩) hs).trans (h.2 t ht)⟩
theorem RootsOk.only {w w' : World} {own own' : Nat → Nat} (h : RootsOk w) (hO : Only own w own' w') (h0 : own 1 = 0) : RootsOk w' := h.same hO.1.size (hO.2.2 _ h.1 h0)
theorem IsD.each2 {w : World} {d : Nat} {own : Nat → Nat} {r : RD} (h : IsD w d own r) : ∃ (A : Option Addr) (n c : Nat) (ps : List (ByteArray × Value)) (zf : Value → List Int), RowAtS w d 2 A n c ps ∧ n ≤ 90000 ∧ FilesZ w zf ps ∧ ps.map (·.1) = r.now.map (·.1) ∧ ∀ p ∈ ps, hasP ltS r.now p.1 = true ∧ (r.get p.1).data = cellsZ (zf p.2) := by
 obtain ⟨_, b, F, fn, fc, RA, rn, rc, SA, sn, sc, C, cn, cc, fs, ps, ss, css, chl, nm, dt, su, H, R⟩ := h
 refine ⟨RA, rn, rc, ps, fun v => (dt v).map zOf, H.nowAt.rowAt, H.nowAt.len, fun p hp => ?_, by rw [H.rnow R]; unfold mapT; rw [List.map_map]; rfl, fun p hp => ?_⟩
 · obtain ⟨f, A, n, c, ef, _, hfa, hsl, _, hn1, _⟩ := H.file p.2 (H.nin p hp)
   obtain ⟨z1, z2⟩ := zOf_cells (dt p.2) (H.bytes p.2 (H.nin p hp))
   exact ⟨f, _, A, n, c, _, ef, hfa, by rw [← z1]; exact hsl, by omega, z2⟩
 · obtain ⟨x, v⟩ := p
   have hlk : lookP ltS ps x = some v := (look_some orders_S H.nrow.rises).2 hp
   refine ⟨by rw [H.rnow R, has_tag]; unfold hasP; rw [hlk]; rfl, ?_⟩
   rw [(H.rnum R x v hlk).2]
   exact (zOf_cells (dt v) (H.bytes v (H.nin _ hp))).1
def recL (dn : Nat) : List (ByteArray × List Nat) → Bool → RD → Int × RD
 | [], sm, r => if sm = true then r.syncDir else (0, r)
 | (x, b) :: t, sm, r => if namedB x = true ∧ soundN x b dn = none then (if (r.remove x).1 = 0 then recL dn t true (r.remove x).2 else r.remove x) else recL dn t sm r
def filesR (r : RD) : List (ByteArray × List Nat) := (r.now.map (·.1)).map fun x => (x, natsV (r.get x).data)
def recR (r : RD) (dn : Nat) : Int × RD := recL dn (filesR r) false r
def OnlyX (L : List Nat) (own : Nat → Nat) (w : World) (own' : Nat → Nat) (w' : World) : Prop := Below 0 w w' ∧ (∀ i, i < w.heap.size → own' i = own i) ∧ ∀ i, i < w.heap.size → own i = 0 → i ∉ L → w'.heap[i]? = w.heap[i]?
def HeldO (own : Nat → Nat) (B C : Nat) (zf : Value → List Int) (ps ys : List (ByteArray × Value)) (W : World) : Prop :=
 ys.length = ps.length ∧ ∀ (i : Nat) (p : ByteArray × Value), ps[i]? = some p → ∃ (A : Option Addr) (c : Nat), ys[i]? = some (p.1, .slice A (zf p.2).length c) ∧ RowZ W A (zf p.2).length (zf p.2) ∧ ((zf p.2).length ≤ c ∧ c ≤ 9223372036854775807) ∧ ∀ k ∈ blk A, B ≤ k ∧ k < W.heap.size ∧ k ≠ C ∧ own k = 0
theorem HeldO.only {own own' : Nat → Nat} {B C : Nat} {zf : Value → List Int} {ps ys : List (ByteArray × Value)} {W W' : World} (h : HeldO own B C zf ps ys W) (hO : Only own W own' W') : HeldO own' B C zf ps ys W' := by
 refine ⟨h.1, fun i p hp => ?_⟩
 obtain ⟨A, c, e, hr, hc, hb⟩ := h.2 i p hp
 have hz := hO.1.size
 exact ⟨A, c, e, rowZ_same hr hz (fun k hk => hO.2.2 k (hb k hk).2.1 (hb k hk).2.2.2), hc, fun k hk => ⟨(hb k hk).1, by have := (hb k hk).2.1; omega, (hb k hk).2.2.1, (hO.2.1 k (hb k hk).2.1).trans (hb k hk).2.2.2⟩⟩
theorem HeldO.chg {own : Nat → Nat} {B C : Nat} {zf : Value → List Int} {ps ys : List (ByteArray × Value)} {W W' : World} {L : List Nat} (h : HeldO own B C zf ps ys W) (hc : Chg L W W') (hL : ∀ k ∈ L, k < B) : HeldO own B C zf ps ys W' := by
 refine ⟨h.1, fun i p hp => ?_⟩
 obtain ⟨A, c, e, hr, hcc, hb⟩ := h.2 i p hp
 have hz := hc.size
 exact ⟨A, c, e, rowZ_same hr hz (fun k hk => hc.same k (hb k hk).2.1 (fun hm => by have := hL k hm; have := (hb k hk).1; omega)), hcc, fun k hk => ⟨(hb k hk).1, by have := (hb k hk).2.1; omega, (hb k hk).2.2⟩⟩
structure RecI (dn : Nat) (W3 : World) (hh d : Nat) (own : Nat → Nat) (r : RD) (zf : Value → List Int) (ps : List (ByteArray × Value)) (lst : List (ByteArray × List Nat)) (out : Int × RD) (C : Nat) (ys pre : List (ByteArray × Value)) (W : World) (own' : Nat → Nat) (r' : RD) (sm : Bool) : Prop where
 only : OnlyX [hh + 2, hh + 3] own W3 own' W
 disk : IsD W d own' r'
 size : r'.size ≤ r.size + 4 * pre.length
 held : HeldO own' (W3.heap.size + 2) C zf ps ys W
 le : pre.length ≤ ps.length
 zero : own' W3.heap.size = 0 ∧ own' (W3.heap.size + 1) = 0 ∧ own' C = 0
 res : W.heap[hh + 2]? = some (.cells #[.int .i64 0] 31 (0, 0))
 some_ : W.heap[hh + 3]? = some (.cells #[.bool sm] 4 (0, 0))
 run : out = recL dn (lst.drop pre.length) sm r'
def RecS (dn : Nat) (W3 : World) (hh d : Nat) (own : Nat → Nat) (r : RD) (zf : Value → List Int) (ps : List (ByteArray × Value)) (lst : List (ByteArray × List Nat)) (out : Int × RD) (C : Nat) (ys pre : List (ByteArray × Value)) (W : World) : Prop := ∃ own' r' sm, RecI dn W3 hh d own r zf ps lst out C ys pre W own' r' sm
def RecX (w : World) (hh d : Nat) (own : Nat → Nat) (D : Nat) (out : Int × RD) (cc : Code) (W : World) : Prop := cc = Code.ret ∧ W.heap[hh + 2]? = some (.cells #[.int .i64 out.1] 31 (0, 0)) ∧ ∃ own', Only own w own' W ∧ IsD W d own' out.2 ∧ own' D = 0 ∧ own' (D + 1) = 0
theorem results_rec (tmps : Array Value) (w : World) (g : Nat) (v : Value) (hp : tmps.getD 4 undef = .pointer (some ⟨g, 0, none⟩)) (hv : w.cell? ⟨g, 0, none⟩ = some v) : (results Tryz.f28 tmps).run Tryz.prog w = .ok v w := by
 have hp' : tmps[4]?.getD undef = .pointer (some ⟨g, 0, none⟩) := by simpa using hp
 simp [results, Tryz.results28, hp', asAddr, go_sem, hv]
theorem OnlyX.trans {L : List Nat} {own own' own2 : Nat → Nat} {w w' w2 : World} (h : OnlyX L own w own' w') (hO : Only own' w' own2 w2) : OnlyX L own w own2 w2 := by
 have hz := h.1.size
 refine ⟨h.1.trans hO.1, fun i hi => (hO.2.1 i (by omega)).trans (h.2.1 i hi), fun i hi h0 hl => (hO.2.2 i (by omega) ((h.2.1 i hi).trans h0)).trans (h.2.2 i hi h0 hl)⟩
theorem OnlyX.chg {L M : List Nat} {own own' : Nat → Nat} {w w' w2 : World} (h : OnlyX L own w own' w') (hc : Chg M w' w2) (hM : ∀ k ∈ M, k ∈ L ∨ w.heap.size ≤ k) : OnlyX L own w own' w2 := by
 have hz := h.1.size
 refine ⟨h.1.trans (hc.toBelow (fun k hk => Nat.zero_le _) (Nat.zero_le _)), h.2.1, fun i hi h0 hl => (hc.same i (by omega) (fun hm => ?_)).trans (h.2.2 i hi h0 hl)⟩
 rcases hM i hm with q | q
 · exact hl q
 · omega
theorem recL_go {dn : Nat} {x : ByteArray} {b : List Nat} {t : List (ByteArray × List Nat)} {sm : Bool} {r : RD} (h : ¬ (namedB x = true ∧ soundN x b dn = none)) : recL dn ((x, b) :: t) sm r = recL dn t sm r := by
 show (if _ then _ else _) = _
 rw [if_neg h]
theorem recL_rem {dn : Nat} {x : ByteArray} {b : List Nat} {t : List (ByteArray × List Nat)} {sm : Bool} {r : RD} (h : namedB x = true ∧ soundN x b dn = none) : recL dn ((x, b) :: t) sm r = if (r.remove x).1 = 0 then recL dn t true (r.remove x).2 else r.remove x := by
 show (if _ then _ else _) = _
 rw [if_pos h]
section
variable {dn : Nat} {W3 W W' W2 : World} {hh d : Nat} {own own' own2 : Nat → Nat} {r r' r2 : RD} {zf : Value → List Int} {ps ys pre : List (ByteArray × Value)} {lst : List (ByteArray × List Nat)} {out : Int × RD} {C : Nat} {sm : Bool}
theorem RecI.own0 (h : RecI dn W3 hh d own r zf ps lst out C ys pre W own' r' sm) (hz : W3.heap.size = hh + 5) (hO : ∀ i, hh ≤ i → own i = 0) (i : Nat) (h1 : hh ≤ i) (h2 : i < hh + 5) : own' i = 0 := (h.only.2.1 i (by omega)).trans (hO i h1)
theorem RecI.still (h : RecI dn W3 hh d own r zf ps lst out C ys pre W own' r' sm) (hz : W3.heap.size = hh + 5) (hc : Chg [W3.heap.size, W3.heap.size + 1] W W') : RecI dn W3 hh d own r zf ps lst out C ys pre W' own' r' sm := by
 have nE : ∀ k, k < hh + 5 → k ∉ [W3.heap.size, W3.heap.size + 1] := fun k hk hm => by simp only [List.mem_cons, List.not_mem_nil, or_false] at hm; omega
 exact { h with
  only := h.only.chg hc (fun k hk => by simp only [List.mem_cons, List.not_mem_nil, or_false] at hk; exact .inr (by omega))
  disk := h.disk.chg hc (fun k hk => by
   simp only [List.mem_cons, List.not_mem_nil, or_false] at hk
   rcases hk with rfl | rfl
   · exact h.zero.1
   · exact h.zero.2.1)
  held := h.held.chg hc (fun k hk => by simp only [List.mem_cons, List.not_mem_nil, or_false] at hk; omega)
  res := (hc.same _ (lt_of_block h.res) (nE _ (by omega))).trans h.res
  some_ := (hc.same _ (lt_of_block h.some_) (nE _ (by omega))).trans h.some_ }
theorem RecI.more (h : RecI dn W3 hh d own r zf ps lst out C ys pre W own' r' sm) (x : ByteArray × Value) (hl : pre.length < ps.length) (hrun : out = recL dn (lst.drop (pre.length + 1)) sm r') : RecI dn W3 hh d own r zf ps lst out C ys (pre ++ [x]) W own' r' sm := by
 have e : (pre ++ [x]).length = pre.length + 1 := by simp
 exact { h with
  size := by rw [e]; have := h.size; omega
  le := by rw [e]; omega
  run := by rw [e]; exact hrun }
theorem RecI.gone (h : RecI dn W3 hh d own r zf ps lst out C ys pre W own' r' sm) (hz : W3.heap.size = hh + 5) (hO : ∀ i, hh ≤ i → own i = 0) (hC : C < W.heap.size) (hD : W3.heap.size + 1 < W.heap.size) (hOn : Only own' W own2 W2) (hI : IsD W2 d own2 r2) (hs : r2.size ≤ r'.size + 4) (x : ByteArray × Value) (hl : pre.length < ps.length) (hrun : out = recL dn (lst.drop (pre.length + 1)) true r2) (hCn : W3.heap.size + 2 ≤ C) :
 RecI dn W3 hh d own r zf ps lst out C ys (pre ++ [x]) (W2.setCell ⟨hh + 3, 0, none⟩ (.bool true)) own2 r2 true ∧ KeepsIt W3.heap.size C W (W2.setCell ⟨hh + 3, 0, none⟩ (.bool true)) := by
 have e : (pre ++ [x]).length = pre.length + 1 := by simp
 have hzW := h.only.1.size
 have o2 : ∀ k, k < W.heap.size → own' k = 0 → W2.heap[k]? = W.heap[k]? := fun k h1 h2 => hOn.2.2 k h1 h2
 have x2 : W2.heap[hh + 2]? = some (.cells #[.int .i64 0] 31 (0, 0)) := (o2 _ (by omega) (h.own0 hz hO _ (by omega) (by omega))).trans h.res
 have x3 : W2.heap[hh + 3]? = some (.cells #[.bool sm] 4 (0, 0)) := (o2 _ (by omega) (h.own0 hz hO _ (by omega) (by omega))).trans h.some_
 have hc : Chg [hh + 3] W2 (W2.setCell ⟨hh + 3, 0, none⟩ (.bool true)) := (Chg.refl _ _).setCell (hh + 3) 0 _ (.inl (by simp))
 have ho3 : own2 (hh + 3) = 0 := (hOn.2.1 _ (by omega)).trans (h.own0 hz hO _ (by omega) (by omega))
 have nE : ∀ k, k ≠ hh + 3 → k ∉ [hh + 3] := fun k hk hm => hk (by rw [List.mem_singleton] at hm; exact hm)
 have hz2 := hOn.1.size
 have kp : ∀ k, k < W.heap.size → own' k = 0 → k ≠ hh + 3 → (W2.setCell ⟨hh + 3, 0, none⟩ (.bool true)).heap[k]? = W.heap[k]? := fun k h1 h2 h3 => (hc.same k (by omega) (nE k h3)).trans (o2 k h1 h2)
 refine ⟨⟨(h.only.trans hOn).chg hc (fun k hk => .inl (by rw [List.mem_singleton] at hk; rw [hk]; simp)), hI.chg hc (fun k hk => by rw [List.mem_singleton] at hk; rw [hk]; exact ho3), by rw [e]; have := h.size; omega, (h.held.only hOn).chg hc (fun k hk => by rw [List.mem_singleton] at hk; omega), by rw [e]; omega, ⟨(hOn.2.1 _ (by omega)).trans h.zero.1, (hOn.2.1 _ hD).trans h.zero.2.1, (hOn.2.1 _ hC).trans h.zero.2.2⟩, (hc.same _ (lt_of_block x2) (nE _ (by omega))).trans x2, one_setCell x3, by rw [e]; exact hrun⟩, ?_⟩
 exact ⟨by have := hc.size; omega, kp _ (by omega) h.zero.1 (by omega), kp _ hD h.zero.2.1 (by omega), kp _ hC h.zero.2.2 (by omega)⟩
end
theorem KeepsIt.of_below {D C : Nat} {W W' : World} (hb : Below W.heap.size W W') (h1 : D + 1 < W.heap.size) (h2 : C < W.heap.size) : KeepsIt D C W W' := (Chg.of_below (l := []) hb).keepsIt h1 h2 (by simp) (by simp) (by simp)
set_option maxHeartbeats 3200000 in
theorem recovered_any (w : World) (d dn : Nat) (own : Nat → Nat) (r : RD) (hD : IsD w d own r) (hsm : SmallD r) (hdn : dn ≤ 64) (hR : RootsOk w) (hro : own 1 = 0) (hnm : ∀ p ∈ r.now, p.1.size ≤ 1000) (hsz : r.size + 4 * r.now.length + 40 ≤ 80000) :
 Calls Tryz.prog 28 #[.pointer (some ⟨d, 0, none⟩), .int .i64 (dn : Int)] w fun e w' => e = .returned (.int .i64 (recR r dn).1) ∧ DNext w d own (recR r dn).2 w' := by
 refine (callsIn_wide (n := 8)).1 ?_
 refine callsIn_of_wp_marks Tryz.func28 rfl trivial ?_ rfl
 simp only [Tryz.ntmps28, List.size_toArray, List.length_cons, List.length_nil, Nat.reduceAdd, Nat.reduceSub, Array.replicate_succ, Array.replicate_zero, List.push_toArray, List.append_toArray, List.nil_append, List.cons_append]
 refine wpIn_wide.2 ?_
 obtain ⟨hh, hhe⟩ : ∃ hh, w.heap.size = hh := ⟨_, rfl⟩
 obtain ⟨out, hout⟩ : ∃ out, recR r dn = out := ⟨_, rfl⟩
 rw [hout]
 obtain ⟨W2, hW2⟩ : ∃ W2, (((w.alloc (.cells #[.pointer (some ⟨d, 0, none⟩)] 28)).alloc (.cells #[.int .i64 (dn : Int)] 3)).alloc (.cells #[.int .i64 0] 31)).alloc (.cells #[.bool false] 4) = W2 := ⟨_, rfl⟩
 have hWW := hW2
 have hb1 : Below w.heap.size w ((w.alloc (.cells #[.pointer (some ⟨d, 0, none⟩)] 28)).alloc (.cells #[.int .i64 (dn : Int)] 3)) := (two_new w _ _).2.2
 have hs1 : ((w.alloc (.cells #[.pointer (some ⟨d, 0, none⟩)] 28)).alloc (.cells #[.int .i64 (dn : Int)] 3)).heap.size = hh + 2 := by rw [← hhe]; simp
 have k0 := (two_new w (.cells #[.pointer (some ⟨d, 0, none⟩)] 28) (.cells #[.int .i64 (dn : Int)] 3)).2.1
 have k1 := (two_new w (.cells #[.pointer (some ⟨d, 0, none⟩)] 28) (.cells #[.int .i64 (dn : Int)] 3)).1
 generalize (w.alloc (.cells #[.pointer (some ⟨d, 0, none⟩)] 28)).alloc (.cells #[.int .i64 (dn : Int)] 3) = W1 at hb1 hs1 k0 k1 hW2
 have hb2 : Below W1.heap.size W1 W2 := by rw [← hW2]; exact (two_new W1 _ _).2.2
 have hs2 : W2.heap.size = hh + 4 := by rw [← hW2]; simp [hs1]
 have k2 : W2.heap[hh + 2]? = some (.cells #[.int .i64 0] 31 (0, 0)) := by rw [← hW2, ← hs1]; exact (two_new W1 _ _).2.1
 have k3 : W2.heap[hh + 3]? = some (.cells #[.bool false] 4 (0, 0)) := by rw [← hW2, show hh + 3 = W1.heap.size + 1 by omega]; exact (two_new W1 _ _).1
 rw [hhe] at k0 k1
 have k0 := (hb2.block hh (by omega)).trans k0
 have k1 := (hb2.block (hh + 1) (by omega)).trans k1
 have hbw2 : Below w.heap.size w W2 := hb1.trans (hb2.mono hb1.size)
 have y0 := cell_of_one k0
 have y3 := cell_of_one k3
 have f3 := free_of_one k3
 have hsc : W2.setCell ⟨hh + 3, 0, none⟩ (.bool false) = W2 := setCell_keep k3 rfl
 have HK0 := Lib.hid k0
 have HK1 := Lib.hid k1
 have HK2 := Lib.hid k2
 have HK3 := Lib.hid k3
 have HB2 := Lib.hid hbw2
 have HHE := Lib.hid hhe
 have HS2 := Lib.hid hs2
 have HD := Lib.hid hD
 have HRO := Lib.hid hR
 have HOUT := Lib.hid hout
 have HSM := Lib.hid hsm
 have HNM := Lib.hid hnm
 clear hb1 hs1 k0 k1 k2 k3 hb2 hs2 hbw2 hD hR hout
 go_wp2_with fail
 refine (eachD _ (some ⟨d, 0, none⟩)).mono ?_
 rintro e9 w9 ⟨rfl, rfl⟩
 obtain ⟨W3, hW3⟩ : ∃ W3, W2.alloc (.cells #[.pointer (some ⟨d, 0, none⟩)] 28) = W3 := ⟨_, rfl⟩
 have hs2 := HS2.out
 have hb3 : Below W2.heap.size W2 W3 := by rw [← hW3]; exact (Below.refl _ W2).alloc (Nat.le_refl _) _
 have hs3 : W3.heap.size = hh + 5 := by rw [← hW3]; simp [hs2]
 have k4 : W3.heap[hh + 4]? = some (.cells #[.pointer (some ⟨d, 0, none⟩)] 28 (0, 0)) := by rw [← hW3, ← hs2]; exact heap_alloc_new W2 _
 rw [hs2, hW3]
 have HJ0 := Lib.hid ((hb3.block hh (by omega)).trans HK0.out)
 have HJ1 := Lib.hid ((hb3.block (hh + 1) (by omega)).trans HK1.out)
 have HJ2 := Lib.hid ((hb3.block (hh + 2) (by omega)).trans HK2.out)
 have HJ3 := Lib.hid ((hb3.block (hh + 3) (by omega)).trans HK3.out)
 have HJ4 := Lib.hid k4
 have HB3 : Hid (Below w.heap.size w W3) := Lib.hid (HB2.out.trans (hb3.mono HB2.out.size))
 have HS3 := Lib.hid hs3
 have HD3 := Lib.hid (HD.out.below HB3.out)
 obtain ⟨RA, rn, rc, ps, zf, hrow, hrn, hfz, hpl, hps⟩ := HD3.out.each2
 have hdl : d < W3.heap.size := World.block_lt_of_cell? W3 _ hrow.cell
 have HIT : Hid (∀ W1, Below W3.heap.size W3 W1 → IterX Tryz.prog 80 #[.pointer (some ⟨hh + 4, 0, none⟩)] arS 1 (fun B C ys V => HeldX B [C] zf ps ys V ∧ (C < V.heap.size ∨ ys = [])) W1) := Lib.hid (fun W1 hb => eachD1 W1 (hh + 4) d RA rn rc ps (cell_of_one ((hb.block (hh + 4) (by have := HS3.out; omega)).trans HJ4.out)) ⟨(hb.cell (p := ⟨d, 2, none⟩) hdl).trans hrow.cell, hrow.row.below hb⟩ hrn zf (hfz.below hb))
 have HZ : Hid (∀ i, hh ≤ i → own i = 0) := Lib.hid (fun i hi => HD.out.1 i (by have := HHE.out; omega))
 obtain ⟨lst, hlst⟩ : ∃ lst, filesR r = lst := ⟨_, rfl⟩
 have HLST : Hid (∀ (i : Nat) (p : ByteArray × Value), ps[i]? = some p → lst.drop i = (p.1, (zf p.2).map Int.toNat) :: lst.drop (i + 1) ∧ (zf p.2).length ≤ 90000 ∧ p.1.size ≤ 1000) := Lib.hid (fun i p hp => by
  obtain ⟨h1, h2⟩ := hps p (List.mem_of_getElem? hp)
  have hn : (r.now.map (·.1))[i]? = some p.1 := by rw [← hpl, List.getElem?_map, hp]; rfl
  have hl : lst[i]? = some (p.1, (zf p.2).map Int.toNat) := by
   rw [← hlst]
   unfold filesR
   rw [List.getElem?_map, hn]
   show some (p.1, natsV (r.get p.1).data) = _
   rw [h2]
   unfold natsV cellsZ
   rw [List.map_map]
   rfl
  obtain ⟨hi, e⟩ := List.getElem?_eq_some_iff.1 hl
  refine ⟨by rw [List.drop_eq_getElem_cons hi, e], ?_, ?_⟩
  · have h3 := HSM.out p.1 h1
    rw [h2, cellsZ_length] at h3
    exact h3
  · obtain ⟨q, hq, e2⟩ := List.mem_map.1 (List.mem_of_getElem? hn)
    rw [← e2]
    exact HNM.out q hq)
 have HLL : Hid (lst.length = ps.length ∧ ps.length = r.now.length) := Lib.hid (by
  have h := congrArg List.length hpl
  rw [List.length_map, List.length_map] at h
  refine ⟨?_, h⟩
  rw [← hlst]
  unfold filesR
  rw [List.length_map, List.length_map]
  exact h.symm)
 have HRUN0 : Hid (out = recL dn (lst.drop 0) false r) := Lib.hid (by rw [List.drop_zero, ← hlst]; exact HOUT.out.symm)
 clear hW2 hWW hW3 hb3 hs3 k4 HK0 HK1 HK2 HK3 HB2 HS2 hs2 y0 y3 f3 hsc hrow hrn hfz hpl hps hlst hsm hnm
 have hqro : 1 < hh := by have := HRO.out.1; omega
 go_wp2_with fail
 refine (wpIn_wide (n := 8)).1 ?_
 refine range_itX 8 1 (by decide) 80 #[.pointer (some ⟨hh + 4, 0, none⟩)] arS rfl eachD_enters (fun _ => rfl) _ HIT.out (fun C ys pre V => RecS dn W3 hh d own r zf ps lst out C ys pre V) (fun _ _ cc _ V => RecX w hh d own W3.heap.size out cc V) ?hI ?hIx ?h0 ?hab ?hdone ?hstop
 case hI =>
  rintro C ys pre V V' ⟨own', r', sm, h⟩ hc
  exact ⟨own', r', sm, h.still HS3.out hc⟩
 case hIx =>
  rintro C ys cc pre V V' ⟨rfl, h1, own', h2, h3, h4, h5⟩ hc
  have hz := HS3.out
  refine ⟨rfl, (hc.same _ (lt_of_block h1) (fun hm => by simp only [List.mem_cons, List.not_mem_nil, or_false] at hm; omega)).trans h1, own', ?_, h3.chg hc (fun k hk => by
   simp only [List.mem_cons, List.not_mem_nil, or_false] at hk
   rcases hk with rfl | rfl
   · exact h4
   · exact h5), h4, h5⟩
  have hq := HHE.out
  refine ⟨h2.1.trans (hc.toBelow (fun k hk => Nat.zero_le _) (Nat.zero_le _)), h2.2.1, fun i hi h0 => (hc.same i (by have := h2.1.size; omega) (fun hm => by simp only [List.mem_cons, List.not_mem_nil, or_false] at hm; omega)).trans (h2.2.2 i hi h0)⟩
 case h0 =>
  intro B C ys V hB hC hVs hb hX
  have hz := HS3.out
  refine ⟨own, r, false, ⟨hb.mono (Nat.zero_le _), fun _ _ => rfl, fun i hi _ _ => hb.block i hi⟩, HD3.out.below hb, by simp, ⟨hX.1.1, fun i p hp => ?_⟩, by simp, ⟨HZ.out _ (by omega), HZ.out _ (by omega), HZ.out _ (by omega)⟩, (hb.block _ (by omega)).trans HJ2.out, (hb.block _ (by omega)).trans HJ3.out, HRUN0.out⟩
  obtain ⟨A', c', e1, e2, e3, e4⟩ := hX.1.2 i p hp
  exact ⟨A', c', e1, e2, e3, fun k hk => ⟨by have := (e4 k hk).1; omega, (e4 k hk).2.1, fun e => (e4 k hk).2.2 (by rw [e]; simp), HZ.out _ (by have := (e4 k hk).1; omega)⟩⟩
 case hab =>
  apply Exists.intro
  refine ⟨?hassign, ?hbody⟩
  case hassign =>
   intro x W K hK
   unfold arS encS
   gi_wp2
   exact hK
  case hbody =>
   intro C ys pre x' Wr hC hCW hD1 hI hpre
   obtain ⟨nm, v⟩ := x'
   obtain ⟨own', r', sm, hR⟩ := hI
   have hz3 := HS3.out
   have hyx : ys[pre.length]? = some (nm, v) := by
    obtain ⟨t, rfl⟩ := hpre
    rw [List.append_assoc, List.getElem?_append_right (Nat.le_refl _), Nat.sub_self]
    rfl
   have hpl := (List.getElem?_eq_some_iff.1 hyx).1
   have hpl2 : pre.length < ps.length := by have := hR.held.1; omega
   obtain ⟨p, hp⟩ : ∃ p, ps[pre.length]? = some p := ⟨_, List.getElem?_eq_getElem hpl2⟩
   obtain ⟨FA, fc, e1, hrz, ⟨hcz1, hcz2⟩, _⟩ := hR.held.2 _ p hp
   rw [hyx] at e1
   obtain ⟨hl1, hl2, hl3⟩ := HLST.out _ p hp
   obtain ⟨px, pv⟩ := p
   obtain ⟨zs, hzs⟩ : ∃ zs, zf pv = zs := ⟨_, rfl⟩
   obtain ⟨L, hL⟩ : ∃ L, zs.length = L := ⟨_, rfl⟩
   simp only [Option.some.injEq, Prod.mk.injEq, hzs, hL] at e1
   simp only [hzs, hL] at hrz hl1 hl2 hl3 hcz1
   obtain ⟨rfl, rfl⟩ := e1
   obtain ⟨b, hb⟩ : ∃ b, zs.map Int.toNat = b := ⟨_, rfl⟩
   have hrow := hrz.toN
   rw [hb] at hrow hl1
   have hrun := hR.run
   rw [hl1] at hrun
   have hroot : RootsOk Wr := HRO.out.same (by have := HB3.out.size; have := hR.only.1.size; omega) ((hR.only.2.2 _ (by omega) hro (fun hm => by simp only [List.mem_cons, List.not_mem_nil, or_false] at hm; omega)).trans (HB3.out.block _ (by have := HHE.out; omega)))
   have y0 := cell_of_one ((hR.only.2.2 hh (by omega) (HZ.out _ (by omega)) (fun hm => by simp only [List.mem_cons, List.not_mem_nil, or_false] at hm; omega)).trans HJ0.out)
   have y1 := cell_of_one ((hR.only.2.2 (hh + 1) (by omega) (HZ.out _ (by omega)) (fun hm => by simp only [List.mem_cons, List.not_mem_nil, or_false] at hm; omega)).trans HJ1.out)
   have HSO := Lib.hid (sound_any Wr nm FA L fc b dn hdn hroot hl2 hcz1 hcz2 hrow)
   have HR := Lib.hid hR
   have HRUN := Lib.hid hrun
   have HPL := Lib.hid hpl2
   have HCW := Lib.hid hCW
   have HD1 := Lib.hid hD1
   clear hyx hpl hpl2 hp hrz hcz1 hcz2 hl1 hzs hL hb hrow hrun hroot hR hpre
   cases hs : soundN nm b dn with
   | some k =>
    gi_wp2
    refine ⟨trivial, ?_⟩
    gi_at_call 57
    refine (CallsIn.inRound _ (callsIn_wide.2 HSO.out)).mono ?_
    rintro e8 Wg ⟨ha, hbg⟩
    unfold SoundAns at ha
    rw [hs] at ha
    simp only at ha
    obtain ⟨A', c', rfl, _, _⟩ := ha
    have HFI := Lib.hid (And.intro (KeepsIt.of_below hbg HD1.out HCW.out) (show RecS dn W3 hh d own r zf ps lst out C ys (pre ++ [(nm, .slice FA L fc)]) Wg from ⟨own', r', sm, (HR.out.still HS3.out (Chg.of_below hbg)).more _ HPL.out (by rw [HRUN.out, recL_go (by rw [hs]; simp)])⟩))
    clear hbg
    gi_wp2
    refine ⟨trivial, ?_⟩
    gi_wp2
    exact HFI.out
   | none =>
    gi_wp2
    refine ⟨trivial, ?_⟩
    gi_at_call 57
    refine (CallsIn.inRound _ (callsIn_wide.2 HSO.out)).mono ?_
    rintro e8 Wg ⟨ha, hbg⟩
    unfold SoundAns at ha
    rw [hs] at ha
    simp only at ha
    subst ha
    have hRg := HR.out.still HS3.out (Chg.of_below hbg)
    have HNB := Lib.hid (named_any nm Wg)
    cases hnb : namedB nm with
    | false =>
     rw [hnb] at HNB
     have HFI := Lib.hid (And.intro (KeepsIt.of_below hbg HD1.out HCW.out) (show RecS dn W3 hh d own r zf ps lst out C ys (pre ++ [(nm, .slice FA L fc)]) Wg from ⟨own', r', sm, hRg.more _ HPL.out (by rw [HRUN.out, recL_go (by rw [hnb]; simp)])⟩))
     clear hbg hRg
     gi_wp2_with (refine ⟨trivial, ?_⟩; gi_at_call 58; refine (CallsIn.inRound _ (callsIn_wide.2 HNB.out)).mono ?_; rintro e9 Wn ⟨rfl, rfl⟩)
     exact HFI.out
    | true =>
     rw [hnb] at HNB
     have hgone := recL_rem (dn := dn) (x := nm) (b := b) (t := lst.drop (pre.length + 1)) (sm := sm) (r := r') ⟨hnb, hs⟩
     obtain ⟨a2, r2, hp⟩ : ∃ a2 r2, r'.remove nm = (a2, r2) := ⟨_, _, rfl⟩
     have hz2 : r2.size ≤ r'.size + 4 := by have h := size_remove (r := r') nm; rw [hp] at h; exact h
     have hsz' : r'.size + 4 ≤ 80000 := by have h1 := HR.out.size; have h2 := HLL.out; have h3 := HPL.out; omega
     have hrm := hRg.disk.remove hsz' nm (by omega)
     rw [hp] at hrm hgone
     simp only at hgone
     have HRM : Hid (Calls Tryz.prog 30 #[.pointer (some ⟨d, 0, none⟩), .string nm] Wg (LayK Wg d own' a2 r2)) := Lib.hid (hrm.mono fun e w' h => ⟨h.1, h.2⟩)
     have y0g := (hbg.cell (p := ⟨hh, 0, none⟩) (World.block_lt_of_cell? Wr _ y0)).trans y0
     have HRG := Lib.hid hRg
     have HGN := Lib.hid (HRUN.out.trans hgone)
     have HBG := Lib.hid hbg
     have HZ2 := Lib.hid hz2
     clear hbg hRg hgone hp hz2 hsz' hrm
     have hzg : C < Wg.heap.size ∧ W3.heap.size + 1 < Wg.heap.size := by have := HBG.out.size; have := HCW.out; have := HD1.out; omega
     have HZG := Lib.hid hzg
     clear hzg
     gi_wp2_with (first
      | (refine ⟨trivial, ?_⟩; gi_at_call 58; refine (CallsIn.inRound _ (callsIn_wide.2 HNB.out)).mono ?_; rintro e9 Wn ⟨rfl, rfl⟩)
      | fail)
     refine ⟨trivial, ?_⟩
     gi_at_call 30
     refine (CallsIn.inRound _ (callsIn_wide.2 HRM.out)).mono ?_
     rintro e9 Wm ⟨rfl, own2, hO2, hD2⟩
     have hz3' := HS3.out
     have hz9 := HRG.out.only.1.size
     have g0 := HRG.out.own0 HS3.out HZ.out
     have x2 : Wm.heap[hh + 2]? = some (.cells #[.int .i64 0] 31 (0, 0)) := (hO2.2.2 _ (by omega) (g0 _ (by omega) (by omega))).trans HRG.out.res
     have x3 : Wm.heap[hh + 3]? = some (.cells #[.bool sm] 4 (0, 0)) := (hO2.2.2 _ (by omega) (g0 _ (by omega) (by omega))).trans HRG.out.some_
     have c2 := cell_of_one x2
     have c3 := cell_of_one x3
     have f2 := free_of_one x2
     have f3 := free_of_one x3
     by_cases h0 : a2 = 0
     · subst h0
       have hg := HGN.out
       rw [if_pos rfl] at hg
       have hfin := HRG.out.gone HS3.out HZ.out HZG.out.1 HZG.out.2 hO2 hD2 HZ2.out (nm, .slice FA L fc) HPL.out hg hC
       have HFI := Lib.hid (And.intro (show KeepsIt W3.heap.size C Wr (Wm.setCell ⟨hh + 3, 0, none⟩ (.bool true)) from (KeepsIt.of_below HBG.out HD1.out HCW.out).trans hfin.2) (show RecS dn W3 hh d own r zf ps lst out C ys (pre ++ [(nm, .slice FA L fc)]) (Wm.setCell ⟨hh + 3, 0, none⟩ (.bool true)) from ⟨own2, r2, true, hfin.1⟩))
       clear hO2 hD2 x2 x3 hg hfin
       gi_wp2
       exact HFI.out
     · have hg := HGN.out
       rw [if_neg h0] at hg
       have h0b : (a2 == 0) = false := by rw [beq_eq_false_iff_ne]; exact h0
       have hc : Chg [hh + 2] Wm (Wm.setCell ⟨hh + 2, 0, none⟩ (.int .i64 a2)) := (Chg.refl _ _).setCell (hh + 2) 0 _ (.inl (by simp))
       have ho2 : own2 (hh + 2) = 0 := (hO2.2.1 _ (by omega)).trans (g0 _ (by omega) (by omega))
       have hzm := hO2.1.size
       have hX : KeepsIt W3.heap.size C Wr (Wm.setCell ⟨hh + 2, 0, none⟩ (.int .i64 a2)) ∧ RecX w hh d own W3.heap.size out Code.ret (Wm.setCell ⟨hh + 2, 0, none⟩ (.int .i64 a2)) := by
        have kp : ∀ k, k < Wg.heap.size → own' k = 0 → k ≠ hh + 2 → (Wm.setCell ⟨hh + 2, 0, none⟩ (.int .i64 a2)).heap[k]? = Wg.heap[k]? := fun k h1 h2 h3 => (hc.same k (by omega) (fun hm => h3 (by rw [List.mem_singleton] at hm; exact hm))).trans (hO2.2.2 k h1 h2)
        refine ⟨(KeepsIt.of_below HBG.out HD1.out HCW.out).trans ⟨by have := hc.size; omega, kp _ (by have := HZG.out.2; omega) HRG.out.zero.1 (by omega), kp _ HZG.out.2 HRG.out.zero.2.1 (by omega), kp _ HZG.out.1 HRG.out.zero.2.2 (by omega)⟩, rfl, by rw [hg]; exact one_setCell x2, own2, ?_, by rw [hg]; exact hD2.chg hc (fun k hk => by rw [List.mem_singleton] at hk; rw [hk]; exact ho2), (hO2.2.1 _ (by have := HZG.out.2; omega)).trans HRG.out.zero.1, (hO2.2.1 _ HZG.out.2).trans HRG.out.zero.2.1⟩
        have hox := (HRG.out.only.trans hO2).chg hc (fun k hk => .inl (by rw [List.mem_singleton] at hk; rw [hk]; simp))
        have hzw := HHE.out
        have hb3 := HB3.out
        refine ⟨(hb3.mono (Nat.zero_le _)).trans hox.1, fun i hi => hox.2.1 i (by omega), fun i hi h0 => (hox.2.2 i (by omega) h0 (fun hm => by simp only [List.mem_cons, List.not_mem_nil, or_false] at hm; omega)).trans (hb3.block i hi)⟩
       have HX := Lib.hid hX
       clear hO2 hD2 x2 x3 hg hc hX
       gi_wp2
       exact HX.out
 case hdone =>
  rintro C ys W ⟨own', r', sm, hR⟩ hKd
  have hz3 := HS3.out
  have hq := HHE.out
  have g0 := hR.own0 HS3.out HZ.out
  have hzW := hR.only.1.size
  have hdone : out = if sm = true then r'.syncDir else (0, r') := by
   have h1 := hR.run
   rw [List.drop_of_length_le (by have h2 := HLL.out.1; have h3 := hR.held.1; omega)] at h1
   exact h1
  have hrs : r'.size + 4 ≤ 80000 := by have h1 := hR.size; have h2 := HLL.out; have h3 := hR.held.1; omega
  have y0 := cell_of_one ((hR.only.2.2 hh (by omega) (HZ.out _ (by omega)) (fun hm => by simp only [List.mem_cons, List.not_mem_nil, or_false] at hm; omega)).trans HJ0.out)
  have c2 := cell_of_one hR.res
  have c3 := cell_of_one hR.some_
  have f2 := free_of_one hR.res
  have HR := Lib.hid hR
  have HKD := Lib.hid hKd
  have HOX : Hid (∀ own2 W2, Only own' W own2 W2 → Only own w own2 (W2.setCell ⟨hh + 2, 0, none⟩ (.int .i64 out.1))) := Lib.hid (fun own2 W2 hO => by
   have hc : Chg [hh + 2] W2 (W2.setCell ⟨hh + 2, 0, none⟩ (.int .i64 out.1)) := (Chg.refl _ _).setCell (hh + 2) 0 _ (.inl (by simp))
   have hox := (HR.out.only.trans hO).chg hc (fun k hk => .inl (by rw [List.mem_singleton] at hk; rw [hk]; simp))
   have hb3 := HB3.out
   exact ⟨(hb3.mono (Nat.zero_le _)).trans hox.1, fun i hi => hox.2.1 i (by omega), fun i hi h0 => (hox.2.2 i (by omega) h0 (fun hm => by simp only [List.mem_cons, List.not_mem_nil, or_false] at hm; omega)).trans (hb3.block i hi)⟩)
  have HFIN : Hid (∀ own2 W2, Only own' W own2 W2 → IsD W2 d own2 out.2 → (W2.setCell ⟨hh + 2, 0, none⟩ (.int .i64 out.1)).heap[W3.heap.size]? = some (.deferred (some [])) ∧ ((W2.setCell ⟨hh + 2, 0, none⟩ (.int .i64 out.1)).putObj W3.heap.size (.deferred none)).cell? ⟨hh + 2, 0, none⟩ = some (.int .i64 out.1) ∧ DNext w d own out.2 ((W2.setCell ⟨hh + 2, 0, none⟩ (.int .i64 out.1)).putObj W3.heap.size (.deferred none))) := Lib.hid (fun own2 W2 hO hD2 => by
   have hc : Chg [hh + 2] W2 (W2.setCell ⟨hh + 2, 0, none⟩ (.int .i64 out.1)) := (Chg.refl _ _).setCell (hh + 2) 0 _ (.inl (by simp))
   have hlt := lt_of_block HKD.out
   have hz2 := hO.1.size
   have x2 : W2.heap[hh + 2]? = some (.cells #[.int .i64 0] 31 (0, 0)) := (hO.2.2 _ (by omega) (HR.out.own0 HS3.out HZ.out _ (by omega) (by omega))).trans HR.out.res
   have ho2 : own2 (hh + 2) = 0 := (hO.2.1 _ (by omega)).trans (HR.out.own0 HS3.out HZ.out _ (by omega) (by omega))
   have hoD : own2 W3.heap.size = 0 := (hO.2.1 _ hlt).trans HR.out.zero.1
   have hcp := chg_putObjIt (W2.setCell ⟨hh + 2, 0, none⟩ (.int .i64 out.1)) W3.heap.size (.deferred none)
   refine ⟨(hc.same _ (by omega) (fun hm => by rw [List.mem_singleton] at hm; omega)).trans ((hO.2.2 _ hlt HR.out.zero.1).trans HKD.out), cell_of_one ((hcp.same _ (by have := hc.size; omega) (fun hm => by rw [List.mem_singleton] at hm; omega)).trans (one_setCell x2)), own2, ?_, ?_⟩
   · have h4 := HOX.out own2 W2 hO
     refine ⟨h4.1.trans (hcp.toBelow (fun k hk => Nat.zero_le _) (Nat.zero_le _)), h4.2.1, fun i hi h0 => (hcp.same i (by have := h4.1.size; omega) (fun hm => by rw [List.mem_singleton] at hm; omega)).trans (h4.2.2 i hi h0)⟩
   · exact (hD2.chg hc (fun k hk => by rw [List.mem_singleton] at hk; rw [hk]; exact ho2)).chg hcp (fun k hk => by rw [List.mem_singleton] at hk; rw [hk]; exact hoD))
  clear hR hKd g0
  cases sm with
  | false =>
   have hd : out = (0, r') := hdone
   have HQ := Lib.hid (HFIN.out own' W (Only.refl own' W) (by rw [hd]; exact HR.out.disk))
   have HDD := Lib.hid hd
   rw [hd, HS3.out] at HQ
   clear hdone hd HFIN HOX
   go_wp2_with fail
   refine ⟨by simp, .inl ⟨_, _, rfl, run_takeDeferred HQ.out.1, ?_⟩⟩
   exact ⟨_, results_rec _ _ (hh + 2) _ rfl HQ.out.2.1, by rw [HDD.out], by rw [HDD.out]; exact HQ.out.2.2⟩
  | true =>
   have hd : out = r'.syncDir := hdone
   have HSD : Hid (Calls Tryz.prog 31 #[.pointer (some ⟨d, 0, none⟩)] W (LayK W d own' out.1 out.2)) := Lib.hid (by rw [hd]; exact (HR.out.disk.syncDir hrs).mono fun e w' h => ⟨h.1, h.2⟩)
   clear hdone hd
   go_wp2_with fail
   refine HSD.out.mono ?_
   rintro e9 Wm ⟨rfl, own2, hO2, hD2⟩
   have HQ := Lib.hid (HFIN.out own2 Wm hO2 hD2)
   rw [HS3.out] at HQ
   have x2 : Wm.heap[hh + 2]? = some (.cells #[.int .i64 0] 31 (0, 0)) := (hO2.2.2 _ (by omega) (HR.out.own0 HS3.out HZ.out _ (by omega) (by omega))).trans HR.out.res
   have c2' := cell_of_one x2
   have f2' := free_of_one x2
   clear hO2 hD2 x2 HFIN HOX
   go_wp2_with fail
   refine ⟨by simp, .inl ⟨_, _, rfl, run_takeDeferred HQ.out.1, ?_⟩⟩
   exact ⟨_, results_rec _ _ (hh + 2) _ rfl HQ.out.2.1, rfl, HQ.out.2.2⟩
 case hstop =>
  rintro C ys cc pre W hpre ⟨rfl, h1, own', h2, h3, h4, h5⟩ hKd
  have hz3 := HS3.out
  have hq := HHE.out
  gi_wp2
  have hcp := chg_putObjIt W W3.heap.size (.deferred none)
  refine ⟨by simp, .inl ⟨_, _, rfl, run_takeDeferred hKd, ?_⟩⟩
  refine ⟨_, results_rec _ _ (hh + 2) _ rfl (cell_of_one ((hcp.same _ (lt_of_block h1) (fun hm => by rw [List.mem_singleton] at hm; omega)).trans h1)), rfl, own', ?_, h3.chg hcp (fun k hk => by rw [List.mem_singleton] at hk; rw [hk]; exact h4)⟩
  exact ⟨h2.1.trans (hcp.toBelow (fun k hk => Nat.zero_le _) (Nat.zero_le _)), h2.2.1, fun i hi h0 => (hcp.same i (by have := h2.1.size; omega) (fun hm => by rw [List.mem_singleton] at hm; omega)).trans (h2.2.2 i hi h0)⟩
end
section
attribute [local go_sem] Oper.semAt_some
open Go.RowKit Go.Shelf
def OpenOk (w : World) (d dn : Nat) (own : Nat → Nat) (r : RD) (e : Ending) (w' : World) : Prop := ∃ s own', e = .returned (.tuple #[.pointer (some ⟨s, 0, none⟩), .int .i64 0]) ∧ w.heap.size ≤ s ∧ SBox w' s d dn ∧ own' s = 0 ∧ Only own w own' w' ∧ IsD w' d own' r
theorem open_ok (w : World) (d dn : Nat) (own : Nat → Nat) (r r' : RD) (hD : IsD w d own r) (hsm : SmallD r) (hdn : dn ≤ 64) (hR : RootsOk w) (hro : own 1 = 0) (hnm : ∀ p ∈ r.now, p.1.size ≤ 1000) (hsz : r.size + 4 * r.now.length + 40 ≤ 80000) (hoff : r.off = false) (hrec : recR r dn = (0, r')) :
 Calls Tryz.prog 8 #[.pointer (some ⟨d, 0, none⟩), .int .i64 (dn : Int)] w (OpenOk w d dn own r') := by
 have HM := Lib.hid (mayDigits_any (dn : Int) w)
 rw [decide_eq_true (show 0 ≤ (dn : Int) ∧ (dn : Int) ≤ 64 by omega)] at HM
 have HO := hD.isOff
 rw [hoff] at HO
 have HO := Lib.hid HO
 have HRV := recovered_any w d dn own r hD hsm hdn hR hro hnm hsz
 rw [hrec] at HRV
 have HRV := Lib.hid HRV
 clear hD hR hrec hsm hnm
 go_enter Tryz.func8, Tryz.ntmps8
 go_wp2_with (first
  | ((with_reducible refine HM.out.mono ?_); rintro e w1 ⟨rfl, rfl⟩)
  | ((with_reducible refine HO.out.mono ?_); rintro e w1 ⟨rfl, rfl⟩)
  | fail)
 refine HRV.out.mono ?_
 rintro e w2 ⟨rfl, own', hO, hD'⟩
 have HX := Lib.hid (And.intro hO hD')
 clear hO hD'
 go_wp2
 go_ret2
 have hb : Below w2.heap.size w2 (w2.alloc (.cells #[.pointer (some ⟨d, 0, none⟩), .int .i64 (dn : Int)] 77)) := (Below.refl _ w2).alloc (Nat.le_refl _) _
 exact ⟨w2.heap.size, own', rfl, HX.out.1.1.size, heap_alloc_new w2 _, HX.out.2.1 _ (Nat.le_refl _), HX.out.1.trans (Only.of_below own' hb), HX.out.2.below hb⟩
end
section
open Go.RowKit Go.Maps
section
variable {r r' : RD} {k dn : Nat} {x : ByteArray} {bs : List Value}
theorem on_of (h1 : r.off = false) (h2 : r.stop = -1) : r.on = true := by unfold RD.on; rw [h1, h2]; rfl
theorem pow_of (h1 : r.off = false) (h2 : r.stop = -1) : r.powered = { r with calls := r.calls + 1 } := by
 unfold RD.powered
 rw [h1, h2]
 rfl
theorem beg_of (h1 : r.off = false) (h2 : r.stop = -1) (hx : nameOk x = true) : r.begE [x] = 0 := by
 unfold RD.begE
 rw [on_of h1 h2]
 simp [hx]
theorem sumLen_all (g : Value → Nat) (B : Nat) : ∀ ps : List (ByteArray × Value), (∀ p ∈ ps, g p.2 ≤ B) → sumLen g ps ≤ B * ps.length
 | [], _ => by simp [sumLen]
 | p :: l, h => by
  have h1 := h p (List.mem_cons_self ..)
  have h2 := sumLen_all g B l (fun q hq => h q (List.mem_cons_of_mem _ hq))
  unfold sumLen at *
  rw [List.map_cons, List.sum_cons, List.length_cons, Nat.mul_add]
  omega
def badQ (dn : Nat) (q : ByteArray × List Nat) : Bool := namedB q.1 && (soundN q.1 q.2 dn).isNone
theorem badQ_iff {dn : Nat} {q : ByteArray × List Nat} : badQ dn q = true ↔ (namedB q.1 = true ∧ soundN q.1 q.2 dn = none) := by
 unfold badQ
 rw [Bool.and_eq_true, Option.isNone_iff_eq_none]
theorem recL_all (dn : Nat) : ∀ (l : List (ByteArray × List Nat)) (sm : Bool) (r : RD), r.off = false → r.stop = -1 → Rises ltS r.now → (sm = false ∨ ∃ c, c = r.chs) → l.Pairwise (fun p q => p.1 ≠ q.1) → (∀ p ∈ l, nameOk p.1 = true ∧ hasP ltS r.now p.1 = true) →
 ∃ r', recL dn l sm r = (0, r') ∧ r'.off = false ∧ r'.stop = -1 ∧ r'.files = r.files ∧ r'.quota = r.quota ∧ (sm = true ∨ r.chs = [] → r'.chs = []) ∧ ∀ x, lookP ltS r'.now x = if l.any (fun q => decide (q.1 = x) && badQ dn q) = true then none else lookP ltS r.now x := by
 intro l
 induction l with
 | nil =>
  intro sm r h1 h2 hr _ _ _
  cases sm with
  | false => exact ⟨r, rfl, h1, h2, rfl, rfl, fun h => h.elim (fun h => by cases h) (fun h => h), fun x => rfl⟩
  | true =>
   refine ⟨{ r.powered with sure := r.now, chs := [] }, ?_, ?_, ?_, r.powered_files, r.powered_quota, fun _ => rfl, fun x => ?_⟩
   · show (if true = true then r.syncDir else (0, r)) = _
     rw [if_pos rfl]
     unfold RD.syncDir
     rw [if_pos (on_of h1 h2)]
   · show r.powered.off = false
     rw [pow_of h1 h2]
     exact h1
   · show r.powered.stop = -1
     rw [pow_of h1 h2]
     exact h2
   · rfl
 | cons p t ih =>
  obtain ⟨x, b⟩ := p
  intro sm r h1 h2 hr _ hd hp
  obtain ⟨hd1, hd2⟩ := List.pairwise_cons.1 hd
  obtain ⟨hx1, hx2⟩ := hp (x, b) (List.mem_cons_self ..)
  cases hbq : badQ dn (x, b) with
  | false =>
   have hn : ¬ (namedB x = true ∧ soundN x b dn = none) := fun h => by
    have := (badQ_iff (dn := dn) (q := (x, b))).2 h
    rw [hbq] at this
    cases this
   obtain ⟨r', e, q1, q2, q3, q4, q5, q6⟩ := ih sm r h1 h2 hr (.inr ⟨_, rfl⟩) hd2 (fun p h => hp p (List.mem_cons_of_mem _ h))
   refine ⟨r', by rw [recL_go hn]; exact e, q1, q2, q3, q4, q5, fun z => ?_⟩
   rw [q6 z, List.any_cons, hbq, Bool.and_false, Bool.false_or]
  | true =>
   have hy := badQ_iff.1 hbq
   have hw : r.witE [x] x = 0 := by
    unfold RD.witE
    rw [beg_of h1 h2 hx1, if_pos rfl, if_pos hx2]
   have hrem : r.remove x = (0, { r with calls := r.calls + 1, chs := r.chs ++ [[(x, .pointer none)]] }) := by
    unfold RD.remove
    rw [if_pos hw, pow_of h1 h2]
   have hnow : RD.now { r with calls := r.calls + 1, chs := r.chs ++ [[(x, .pointer none)]] } = dropP ltS r.now x := by
    show layAll r.sure (r.chs ++ [[(x, .pointer none)]]) = _
    rw [layAll_snoc, layP_gone]
    rfl
   obtain ⟨r', e, q1, q2, q3, q4, q5, q6⟩ := ih true { r with calls := r.calls + 1, chs := r.chs ++ [[(x, .pointer none)]] } h1 h2 (by rw [hnow]; exact rises_drop orders_S hr) (.inr ⟨_, rfl⟩) hd2 (fun p h => by
    refine ⟨(hp p (List.mem_cons_of_mem _ h)).1, ?_⟩
    rw [hnow, has_drop hr, decide_eq_false (fun e => hd1 p h (by rw [e])), (hp p (List.mem_cons_of_mem _ h)).2]
    rfl)
   refine ⟨r', ?_, q1, q2, q3, q4, fun _ => q5 (.inl rfl), fun z => ?_⟩
   · rw [recL_rem hy, hrem]
     show (if (0 : Int) = 0 then _ else _) = _
     rw [if_pos rfl]
     exact e
   · rw [q6 z, hnow, look_drop orders_S hr, List.any_cons, hbq, Bool.and_true]
     by_cases hz : z = x
     · subst hz
       rw [decide_eq_true rfl, Bool.true_or, if_pos rfl, if_pos rfl]
       split <;> rfl
     · rw [decide_eq_false (fun e : x = z => hz e.symm), Bool.false_or, if_neg hz]
def keepX (r : RD) (dn : Nat) (x : ByteArray) : Bool := !badQ dn (x, natsV (r.get x).data)
structure RecB (dn : Nat) (r r' : RD) : Prop where
 off : r'.off = false
 stop : r'.stop = -1
 files : r'.files = r.files
 quota : r'.quota = r.quota
 clean : r.chs = [] → r'.chs = []
 look : ∀ x, lookP ltS r'.now x = if keepX r dn x = true then lookP ltS r.now x else none
theorem names_apart {l : List (ByteArray × Value)} (h : Rises ltS l) : (l.map (·.1)).Pairwise (fun a b => a ≠ b) := by
 rw [List.pairwise_map]
 exact h.imp (fun {a b} hab e => by rw [e, orders_S.irr] at hab; cases hab)
theorem recR_ok (dn : Nat) (h1 : r.off = false) (h2 : r.stop = -1) (F : Fct r) (hn : ∀ p ∈ r.now, nameOk p.1 = true) : ∃ r', recR r dn = (0, r') ∧ RecB dn r r' := by
 have hap : (filesR r).Pairwise (fun p q => p.1 ≠ q.1) := by
  unfold filesR
  rw [List.pairwise_map]
  exact names_apart F.rn
 obtain ⟨r', e, q1, q2, q3, q4, q5, q6⟩ := recL_all dn (filesR r) false r h1 h2 F.rn (.inl rfl) hap (fun p hp => by
  unfold filesR at hp
  rw [List.map_map] at hp
  obtain ⟨q, hq, rfl⟩ := List.mem_map.1 hp
  refine ⟨hn q hq, ?_⟩
  obtain ⟨y, v⟩ := q
  show hasP ltS r.now y = true
  unfold hasP
  rw [(look_some orders_S F.rn).2 hq]
  rfl)
 refine ⟨r', e, q1, q2, q3, q4, fun h => q5 (.inr h), fun x => ?_⟩
 rw [q6 x]
 unfold keepX
 by_cases hx : hasP ltS r.now x = true
 · unfold hasP at hx
   obtain ⟨v, hv⟩ := Option.isSome_iff_exists.1 hx
   have hm := (look_some orders_S F.rn).1 hv
   have hiff : (filesR r).any (fun q => decide (q.1 = x) && badQ dn q) = badQ dn (x, natsV (r.get x).data) := by
    rw [Bool.eq_iff_iff, List.any_eq_true]
    constructor
    · rintro ⟨q, hq, hb⟩
      rw [Bool.and_eq_true, decide_eq_true_eq] at hb
      unfold filesR at hq
      obtain ⟨y, _, rfl⟩ := List.mem_map.1 hq
      obtain ⟨e1, e2⟩ := hb
      dsimp only at e1
      rw [← e1]
      exact e2
    · intro hb
      refine ⟨(x, natsV (r.get x).data), ?_, by rw [hb]; simp⟩
      unfold filesR
      exact List.mem_map.2 ⟨x, List.mem_map.2 ⟨_, hm, rfl⟩, rfl⟩
   rw [hiff]
   cases badQ dn (x, natsV (r.get x).data) <;> rfl
 · have hnone : lookP ltS r.now x = none := by
    unfold hasP at hx
    cases h : lookP ltS r.now x with
    | none => rfl
    | some v => rw [h] at hx; exact absurd rfl hx
   rw [hnone]
   split <;> split <;> rfl
theorem RecB.has (h : RecB dn r r') (x : ByteArray) : hasP ltS r'.now x = (keepX r dn x && hasP ltS r.now x) := by
 unfold hasP
 rw [h.look x]
 cases keepX r dn x <;> simp
theorem RecB.get (h : RecB dn r r') (x : ByteArray) (hk : keepX r dn x = true) : r'.get x = r.get x := by
 unfold RD.get RD.num RD.file
 rw [h.look x, if_pos hk, h.files]
theorem RecB.hold (h : RecB dn r r') (x : ByteArray) : holdR r' x = if keepX r dn x = true then holdR r x else none := by
 unfold holdR
 rw [h.has x]
 by_cases hk : keepX r dn x = true
 · rw [if_pos hk, hk, Bool.true_and, h.get x hk]
 · rw [if_neg hk]
   rw [Bool.not_eq_true] at hk
   rw [hk, Bool.false_and, if_neg (by decide)]
theorem RecB.smallD (h : RecB dn r r') (hs : SmallD r) : SmallD r' := fun x hx => by
 rw [h.has x, Bool.and_eq_true] at hx
 rw [h.get x hx.1]
 exact hs x hx.2
end
end
section
open Go.RowKit Go.Shelf Go.Maps
structure StAt (w W : World) (d s dn : Nat) (own : Nat → Nat) (r : RD) : Prop where
 on : Below w.heap.size w W
 zero : ∀ i, i < w.heap.size → own i = 0
 box : SBox W s d dn
 os : own s = 0
 new : w.heap.size ≤ s
 disk : IsD W d own r
 roots : RootsOk W
 root : 1 < w.heap.size
section
variable {w W W' : World} {d s dn : Nat} {own own' : Nat → Nat} {r r' : RD}
theorem StAt.only (h : StAt w W d s dn own r) (hO : Only own W own' W') (hD : IsD W' d own' r') : StAt w W' d s dn own' r' := by
 have hz := h.on.size
 have hl := h.box.lt
 exact ⟨h.on.trans (hO.toBelow h.zero hz), fun i hi => (hO.2.1 i (by omega)).trans (h.zero i hi), (hO.2.2 s hl h.os).trans h.box, (hO.2.1 s hl).trans h.os, h.new, hD, h.roots.only hO (h.zero _ h.root), h.root⟩
theorem StAt.below (h : StAt w W d s dn own r) (hb : Below W.heap.size W W') : StAt w W' d s dn own r := h.only (Only.of_below own hb) (h.disk.below hb)
theorem StAt.put (h : StAt w W d s dn own r) (hsm : SmallD r) (hdn : dn ≤ 64) {A B : Option Addr} {n c m c2 : Nat} {l a : List Nat} (hK : KeyAt W A n c l) (hA : RowN W B m a) (hn : n ≤ 2000) (hm : m ≤ 2000) (hsz : r.size + 40 ≤ 80000) {out : Int × RD} (hp : putR r l a dn = out) :
 Calls Tryz.prog 12 #[.pointer (some ⟨s, 0, none⟩), .slice A n c, .slice B m c2] W fun e w' => e = .returned (.int .i64 out.1) ∧ ∃ own', Only own W own' w' ∧ StAt w w' d s dn own' out.2 := by
 rw [← hp]
 refine (cput_any W s d dn own r A B n c m c2 l a h.box h.disk hsm hdn hK h.roots hA (by omega) (by omega) (by omega) hsz).mono ?_
 rintro e w' ⟨he, own', hO, hD⟩
 exact ⟨he, own', hO, h.only hO hD⟩
theorem StAt.get (h : StAt w W d s dn own r) (hsm : SmallD r) (hdn : dn ≤ 64) {A : Option Addr} {n c : Nat} {l : List Nat} (hK : KeyAt W A n c l) :
 Calls Tryz.prog 15 #[.pointer (some ⟨s, 0, none⟩), .slice A n c] W fun e w' => GetAns r l dn W.heap.size e w' ∧ Below W.heap.size W w' := cget_any W s d dn own r A n c l h.box h.disk hsm hdn hK h.roots
end
theorem hold_lay {r : RD} (F : Fct r) (x z : ByteArray) (bs : List Value) (q : Int) (fl : Bool) (n : Nat) : holdR ⟨r.files ++ [⟨bs, bs.length⟩], putP ltS r.now x (numV r.files.length), [], q, fl, false, -1, n⟩ z = if z = x then some (natsV bs) else holdR r z := by
 have hn : RD.now ⟨r.files ++ [⟨bs, bs.length⟩], putP ltS r.now x (numV r.files.length), [], q, fl, false, -1, n⟩ = putP ltS r.now x (numV r.files.length) := rfl
 unfold holdR
 rw [hn, has_put F.rn]
 by_cases h : z = x
 · subst h
   rw [decide_eq_true rfl, Bool.true_or, if_pos rfl, if_pos rfl]
   have hnum : RD.num ⟨r.files ++ [⟨bs, bs.length⟩], putP ltS r.now z (numV r.files.length), [], q, fl, false, -1, n⟩ z = r.files.length := by
    unfold RD.num
    rw [hn, look_put orders_S F.rn, if_pos rfl]
    exact numOf_numV _
   unfold RD.get
   rw [hnum]
   unfold RD.file
   simp
 · rw [decide_eq_false h, Bool.false_or, if_neg h]
   by_cases hh : hasP ltS r.now z = true
   · rw [if_pos hh, if_pos hh]
     unfold hasP at hh
     obtain ⟨v, hv⟩ := Option.isSome_iff_exists.1 hh
     obtain ⟨k, hk, hlt⟩ := F.nn _ ((look_some orders_S F.rn).1 hv)
     simp only at hk
     subst hk
     have hnum : RD.num ⟨r.files ++ [⟨bs, bs.length⟩], putP ltS r.now x (numV r.files.length), [], q, fl, false, -1, n⟩ z = k := by
      unfold RD.num
      rw [hn, look_put orders_S F.rn, if_neg h, hv]
      exact numOf_numV _
     have hnum2 : r.num z = k := by
      unfold RD.num
      rw [hv]
      exact numOf_numV _
     unfold RD.get
     rw [hnum, hnum2]
     unfold RD.file
     show some (natsV ((r.files ++ [_]).getD k _).data) = _
     rw [List.getD_eq_getElem?_getD, List.getElem?_append_left hlt, ← List.getD_eq_getElem?_getD]
   · rw [if_neg hh, if_neg hh]
theorem putR_lay {r : RD} {l a : List Nat} {dn s : Nat} (h1 : r.off = false) (h2 : findR r l dn = none) (h3 : roomR r l dn = some s) : putR r l a dn = runL (spareF l dn s) (layS (fileB l dn s) (spareF l dn s) (cellsZ (asZ (entryN l a)))) r := by
 unfold putR
 rw [if_neg (by rw [h1]; exact Bool.false_ne_true), h2, h3]
 simp only
 unfold layR
 rw [spare_name]
def bytesE (k a : List Nat) : List Value := cellsZ (asZ (entryN k a))
theorem bytesE_length (k a : List Nat) : (bytesE k a).length = k.length + a.length + 16 := by unfold bytesE; rw [cellsZ_length, asZ_length, entryN_length]
theorem natsV_E (k a : List Nat) : natsV (bytesE k a) = entryN k a := natsV_cells _
theorem file0 (l : List Nat) (s : Nat) : fileB l 0 s = txt [99, 45, 45, 48 + s] := rfl
def liv0 : RD := RD.fresh 1000
def liv1 (b1 : List Value) : RD := ⟨[⟨b1, b1.length⟩], [(txt [99, 45, 45, 48], numV 0)], [], 1000, false, false, -1, 5⟩
def liv2 (b1 b2 : List Value) : RD := ⟨[⟨b1, b1.length⟩, ⟨b2, b2.length⟩], [(txt [99, 45, 45, 48], numV 0), (txt [99, 45, 45, 49], numV 1)], [], 1000, false, false, -1, 10⟩
theorem less01 : ltS (txt [99, 45, 45, 48]) (txt [99, 45, 45, 49]) = true := by
 unfold ltS
 rw [txt_list, txt_list]
 decide
theorem put01 : putP ltS [(txt [99, 45, 45, 48], numV 0)] (txt [99, 45, 45, 49]) (numV 1) = [(txt [99, 45, 45, 48], numV 0), (txt [99, 45, 45, 49], numV 1)] := by
 simp [putP, less01, orders_S.asym less01]
theorem rec0 : recR liv0 0 = (0, liv0) := rfl
theorem hold0 (z : ByteArray) : holdR liv0 z = none := rfl
theorem find0 (l : List Nat) : findR liv0 l 0 = none := findR_none (fun t _ => by unfold hitR; rw [hold0]; rfl)
theorem room0 (l : List Nat) : roomR liv0 l 0 = some 0 := by
 refine roomR_some (pre := []) ⟨[1, 2, 3, 4, 5, 6, 7], rfl⟩ (fun t ht => by cases ht) ?_
 unfold freeR
 rw [hold0]
 rfl
theorem name_ne (l : List Nat) (s : Nat) (hs : s < 8) : fileB l 0 s ≠ spareF l 0 s := fileB_spare hs hs
theorem file_eq (l l' : List Nat) (s t : Nat) (hs : s < 8) (ht : t < 8) : (fileB l 0 s = fileB l' 0 t) ↔ s = t := by
 constructor
 · exact fun h => (fileB_inj hs ht h).2
 · rintro rfl; rw [file0, file0]
section
variable {k1 k2 a1 a2 : List Nat} (h1 : k1.length = 2) (h2 : k2.length = 2) (g1 : a1.length = 1) (g2 : a2.length = 1) (hne : k1 ≠ k2)
include h1 g1 in
theorem liv1_eq (F : Fct liv0) : putR liv0 k1 a1 0 = (0, liv1 (bytesE k1 a1)) := by
 rw [putR_lay rfl (find0 k1) (room0 k1)]
 have hl := bytesE_length k1 a1
 have h := lay_ok (r := liv0) (x := fileB k1 0 0) (y := spareF k1 0 0) (bs := bytesE k1 a1) ⟨rfl, rfl, F⟩ (fileB_ok _ _ _ (by omega) (by omega)) (spareF_ok _ _ _ (by omega) (by omega)) (name_ne k1 0 (by omega)) rfl (by decide) (by omega) (by rw [hl, h1, g1]; decide)
 unfold bytesE at h ⊢
 rw [h, file0]
 rfl
theorem hold1 (F : Fct liv0) (z : ByteArray) : holdR (liv1 (bytesE k1 a1)) z = if z = fileB k1 0 0 then some (entryN k1 a1) else none := by
 have h := hold_lay F (fileB k1 0 0) z (bytesE k1 a1) 1000 false 5
 rw [hold0, natsV_E] at h
 exact h
include h1 g1 in
theorem split1 : splitE (entryN k1 a1) = some (k1, a1) := split_entry _ _ (by omega) (by omega)
include h1 g1 hne in
theorem find1 (F : Fct liv0) : findR (liv1 (bytesE k1 a1)) k2 0 = none := by
 refine findR_none (fun t ht => ?_)
 have ht := List.mem_range.1 ht
 unfold hitR
 rw [hold1 F]
 by_cases h : fileB k2 0 t = fileB k1 0 0
 · rw [if_pos h]
   show (match splitE (entryN k1 a1) with | some (k, a) => if k = k2 then some a else none | none => none) = none
   rw [split1 h1 g1]
   exact if_neg hne
 · rw [if_neg h]
   rfl
theorem room1 (F : Fct liv0) : roomR (liv1 (bytesE k1 a1)) k2 0 = some 1 := by
 refine roomR_some (pre := [0]) ⟨[2, 3, 4, 5, 6, 7], rfl⟩ (fun t ht => ?_) ?_
 · rw [List.mem_singleton] at ht
   subst ht
   unfold freeR
   rw [hold1 F, if_pos ((file_eq _ _ _ _ (by omega) (by omega)).2 rfl)]
   rfl
 · unfold freeR
   rw [hold1 F, if_neg (fun h => absurd ((file_eq _ _ _ _ (by omega) (by omega)).1 h) (by omega))]
   rfl
include h1 h2 g1 g2 hne in
theorem liv2_eq (F0 : Fct liv0) (F : Fct (liv1 (bytesE k1 a1))) : putR (liv1 (bytesE k1 a1)) k2 a2 0 = (0, liv2 (bytesE k1 a1) (bytesE k2 a2)) := by
 rw [putR_lay rfl (find1 h1 g1 hne F0) (room1 F0)]
 have hl := bytesE_length k2 a2
 have hl1 := bytesE_length k1 a1
 have hny : hasP ltS (liv1 (bytesE k1 a1)).now (spareF k2 0 1) = false := by
  have e : (liv1 (bytesE k1 a1)).now = putP ltS [] (fileB k1 0 0) (numV 0) := rfl
  rw [e, has_put List.Pairwise.nil, decide_eq_false (fun h => fileB_spare (l := k1) (l' := k2) (n := 0) (s := 0) (s' := 1) (by omega) (by omega) (Eq.symm h))]
  rfl
 have hu : (liv1 (bytesE k1 a1)).used = 19 := by
  show (bytesE k1 a1).length + 0 = 19
  omega
 have h := lay_ok (r := liv1 (bytesE k1 a1)) (x := fileB k2 0 1) (y := spareF k2 0 1) (bs := bytesE k2 a2) ⟨rfl, rfl, F⟩ (fileB_ok _ _ _ (by omega) (by omega)) (spareF_ok _ _ _ (by omega) (by omega)) (name_ne k2 1 (by omega)) hny (by show 1 < 1024; omega) (by omega) (by rw [hl, hu, h2, g2]; show (19 : Int) + 19 ≤ 1000; omega)
 rw [show cellsZ (asZ (entryN k2 a2)) = bytesE k2 a2 from rfl, h, file0]
 show ((0 : Int), (⟨[⟨bytesE k1 a1, (bytesE k1 a1).length⟩] ++ [⟨bytesE k2 a2, (bytesE k2 a2).length⟩], putP ltS [(txt [99, 45, 45, 48], numV 0)] (txt [99, 45, 45, 49]) (numV 1), [], 1000, false, false, -1, 5 + 5⟩ : RD)) = _
 rw [put01]
 rfl
theorem hold2 (F0 : Fct liv0) (F : Fct (liv1 (bytesE k1 a1))) (z : ByteArray) : holdR (liv2 (bytesE k1 a1) (bytesE k2 a2)) z = if z = fileB k2 0 1 then some (entryN k2 a2) else if z = fileB k1 0 0 then some (entryN k1 a1) else none := by
 have h := hold_lay F (fileB k2 0 1) z (bytesE k2 a2) 1000 false 10
 rw [hold1 F0, natsV_E] at h
 have e : putP ltS (liv1 (bytesE k1 a1)).now (fileB k2 0 1) (numV (liv1 (bytesE k1 a1)).files.length) = [(txt [99, 45, 45, 48], numV 0), (txt [99, 45, 45, 49], numV 1)] := by
  rw [file0]
  exact put01
 rw [e] at h
 exact h
include h1 g1 in
theorem see1 (F0 : Fct liv0) (F : Fct (liv1 (bytesE k1 a1))) : findR (liv2 (bytesE k1 a1) (bytesE k2 a2)) k1 0 = some (0, a1) := by
 refine findR_some (pre := []) ⟨[1, 2, 3, 4, 5, 6, 7], rfl⟩ (fun t ht => by cases ht) ?_
 unfold hitR
 rw [hold2 F0 F, if_neg (fun h => absurd ((file_eq _ _ _ _ (by omega) (by omega)).1 h) (by omega)), if_pos rfl]
 show (match splitE (entryN k1 a1) with | some (k, a) => if k = k1 then some a else none | none => none) = _
 rw [split1 h1 g1]
 exact if_pos rfl
include h1 h2 g1 g2 hne in
theorem see2 (F0 : Fct liv0) (F : Fct (liv1 (bytesE k1 a1))) : findR (liv2 (bytesE k1 a1) (bytesE k2 a2)) k2 0 = some (1, a2) := by
 refine findR_some (pre := [0]) ⟨[2, 3, 4, 5, 6, 7], rfl⟩ (fun t ht => ?_) ?_
 · rw [List.mem_singleton] at ht
   subst ht
   unfold hitR
   rw [hold2 F0 F, if_neg (fun h => absurd ((file_eq _ _ _ _ (by omega) (by omega)).1 h) (by omega)), if_pos ((file_eq _ _ _ _ (by omega) (by omega)).2 rfl)]
   show (match splitE (entryN k1 a1) with | some (k, a) => if k = k2 then some a else none | none => none) = _
   rw [split1 h1 g1]
   exact if_neg hne
 · unfold hitR
   rw [hold2 F0 F, if_pos rfl]
   show (match splitE (entryN k2 a2) with | some (k, a) => if k = k2 then some a else none | none => none) = _
   rw [split1 h2 g2]
   exact if_pos rfl
end
end
end Go.Proofs.YtdjnebgjdekmaaaGreatDoor
