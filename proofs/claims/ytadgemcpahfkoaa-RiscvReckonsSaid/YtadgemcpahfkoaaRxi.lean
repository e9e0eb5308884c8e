/-
  asm.all over lines and over globals; asm.May, by what is answered of each line and each global.
-/
import Derived.Test.YtadgemcpahfkoaaRxg
import Derived.Laws.EntriesVeiled
namespace Go.Proofs.Ytadgemcpahfkoaa
open Go.RowKit
set_option linter.unusedVariables false
set_option linter.unusedSimpArgs false
set_option maxRecDepth 100000
namespace Rv
/-- A global. -/
structure Gl where
  name : ByteArray
  size : Int
def Gl.cells (g : Gl) : List Value := [.string g.name, .int .i64 g.size]
def Gl.val (g : Gl) : Value := .agg #[.string g.name, .int .i64 g.size]
/-- Globals in memory. -/
def GlsAt (w : World) (A : Option Addr) (n : Nat) (ls : List Gl) : Prop :=
  ls.length = n ∧ (0 < n → ∃ g off, A = some ⟨g, off, none⟩ ∧ g < w.heap.size ∧ ∀ i l, ls[i]? = some l → ∀ j v, l.cells[j]? = some v → w.cell? ⟨g, off + i * 2 + j, none⟩ = some v)
theorem GlsAt.below {w w' : World} {A : Option Addr} {n : Nat} {ls : List Gl} (h : GlsAt w A n ls) (hb : Below w.heap.size w w') : GlsAt w' A n ls := by
  refine ⟨h.1, fun hn => ?_⟩
  obtain ⟨g, off, e, hg, hc⟩ := h.2 hn
  exact ⟨g, off, e, Nat.lt_of_lt_of_le hg hb.size, fun i l hi j v hj => (hb.cell (p := ⟨g, off + i * 2 + j, none⟩) hg).trans (hc i l hi j v hj)⟩
theorem all_no {α : Type} {may : α → Bool} {ls : List α} {k : Nat} {l : α} (h : ls[k]? = some l) (hl : may l = false) : ls.all may = false := by
  rw [Bool.eq_false_iff]
  intro ha
  have := List.all_eq_true.1 ha l (List.mem_of_getElem? h)
  rw [hl] at this
  cases this
theorem all_yes {α : Type} {may : α → Bool} {ls : List α} (h : ∀ (j : Nat) (l : α), ls[j]? = some l → may l = true) : ls.all may = true :=
  List.all_eq_true.2 fun l hl => by
    obtain ⟨j, hj⟩ := List.getElem?_of_mem hl
    exact h j l hj

/-- The function that all hands on: of one it says the opposite. -/
theorem all1L_any (may : Ln → Bool) (lk lo ld la lb ln : Int) (ls_ : ByteArray) (w : World) (vb : Nat) (hv : w.heap[vb]? = some (.cells #[.func (.func 50) #[] #[]] 49 (0, 0)))
    (HC : ∀ W, Calls Try.prog 50 #[(Ln.mk lk lo ld la lb ln ls_).val] W fun e w' => e = .returned (.bool (may ⟨lk, lo, ld, la, lb, ln, ls_⟩)) ∧ Below W.heap.size W w') :
    Calls Try.prog 69 #[(Ln.mk lk lo ld la lb ln ls_).val, .pointer (some ⟨vb, 0, none⟩)] w fun e w' => e = .returned (.bool (!(may ⟨lk, lo, ld, la, lb, ln, ls_⟩))) ∧ Below w.heap.size w w' := by
  have hvb : vb < w.heap.size := (Array.getElem?_eq_some_iff.1 hv).1
  unfold Ln.val at HC ⊢
  dsimp only at HC ⊢
  have H := Lib.hid HC
  obtain ⟨W1, hW1⟩ : ∃ W1, w.alloc (.cells #[.int .i64 lk, .int .i64 lo, .int .i64 ld, .int .i64 la, .int .i64 lb, .int .i32 ln, .string ls_] 39) = W1 := ⟨_, rfl⟩
  have hb : Below w.heap.size w W1 := by rw [← hW1]; exact (Below.refl _ _).alloc (Nat.le_refl _) _
  have hv1 : W1.cell? ⟨vb, 0, none⟩ = some (.func (.func 50) #[] #[]) := cell_of_one ((hb.block _ hvb).trans hv)
  have hn : W1.heap[w.heap.size]? = some (.cells #[.int .i64 lk, .int .i64 lo, .int .i64 ld, .int .i64 la, .int .i64 lb, .int .i32 ln, .string ls_] 39 (0, 0)) := by rw [← hW1]; exact heap_alloc_new w _
  have x0 : W1.cell? ⟨w.heap.size, 0, none⟩ = some (.int .i64 lk) := by rw [cell_of_row _ _ 0 _ _ (0, 0) hn]; rfl
  have x1 : W1.cell? ⟨w.heap.size, 1, none⟩ = some (.int .i64 lo) := by rw [cell_of_row _ _ 1 _ _ (0, 0) hn]; rfl
  have x2 : W1.cell? ⟨w.heap.size, 2, none⟩ = some (.int .i64 ld) := by rw [cell_of_row _ _ 2 _ _ (0, 0) hn]; rfl
  have x3 : W1.cell? ⟨w.heap.size, 3, none⟩ = some (.int .i64 la) := by rw [cell_of_row _ _ 3 _ _ (0, 0) hn]; rfl
  have x4 : W1.cell? ⟨w.heap.size, 4, none⟩ = some (.int .i64 lb) := by rw [cell_of_row _ _ 4 _ _ (0, 0) hn]; rfl
  have x5 : W1.cell? ⟨w.heap.size, 5, none⟩ = some (.int .i32 ln) := by rw [cell_of_row _ _ 5 _ _ (0, 0) hn]; rfl
  have x6 : W1.cell? ⟨w.heap.size, 6, none⟩ = some (.string ls_) := by rw [cell_of_row _ _ 6 _ _ (0, 0) hn]; rfl
  have HB := Lib.hid hb
  clear hb hn hv hvb HC
  generalize may ⟨lk, lo, ld, la, lb, ln, ls_⟩ = q at *
  go_enter Try.func69, Try.ntmps69
  go_wp2_with (go_at_call 50; (with_reducible refine (H.out _).mono ?_); rintro e w' ⟨rfl, hb'⟩; have HB' := Lib.hid hb'; clear hb')
  go_ret
  exact ⟨rfl, HB.out.trans (HB'.out.mono HB.out.size)⟩
set_option maxHeartbeats 1600000 in
theorem indexL_any (may : Ln → Bool) (w : World) (A : Option Addr) (n c : Nat) (ls : List Ln) (hL : LnsAt w A n ls) (hn : n ≤ 1000) (vb : Nat) (hv : w.heap[vb]? = some (.cells #[.func (.func 50) #[] #[]] 49 (0, 0)))
    (HC : ∀ l ∈ ls, ∀ W, Calls Try.prog 50 #[l.val] W fun e w' => e = .returned (.bool (may l)) ∧ Below W.heap.size W w') :
    Calls Try.prog 91 #[.slice A n c, .func (.func 69) #[] #[.pointer (some ⟨vb, 0, none⟩)]] w fun e w' => (∃ z : Int, -1 ≤ z ∧ z ≤ 1000 ∧ e = .returned (.int .i64 z) ∧ ls.all may = decide (z < 0)) ∧ Below w.heap.size w w' := by
  have hvb : vb < w.heap.size := (Array.getElem?_eq_some_iff.1 hv).1
  have HL := Lib.hid hL
  have HV := Lib.hid (And.intro hvb hv)
  have H := Lib.hid HC
  have HN := Lib.hid hL.1
  have hn2 : (n : Int) ≤ 1000 := by omega
  clear hL hv hvb HC
  go_enter Try.func91, Try.ntmps91
  go_wp2_with fail
  go_loopw [8] (fun i wr => ∃ k : Nat, k ≤ n ∧ i = .int .i64 k ∧ Hid (Below w.heap.size w wr ∧ ∀ j l, j < k → ls[j]? = some l → may l = true)) (fun i _ => n - (intOf i).toNat)
  case atStart => exact ⟨0, by omega, rfl, Lib.hid ⟨Below.refl _ _, fun j l hj => by omega⟩⟩
  case round =>
    obtain ⟨k, hk, rfl, HI⟩ := hrel
    rcases Nat.lt_or_ge k n with hlt | hge
    · have hlt' : (k : Int) < (n : Int) := by omega
      have hk0 : (0 : Int) ≤ (k : Int) := by omega
      obtain ⟨l, hl⟩ : ∃ l, ls[k]? = some l := ⟨_, List.getElem?_eq_getElem (by have := HN.out; omega)⟩
      obtain ⟨g, off, rfl, hg, hc⟩ := HL.out.2 (by omega)
      have hcall := all1L_any may
      obtain ⟨lk, lo, ld, la, lb, ln, ls_⟩ := l
      have hcell := fun j v hj => (HI.out.1.cell (p := ⟨g, off + k * 7 + j, none⟩) hg).trans (hc k _ hl j v hj)
      have d0 := hcell 0 _ rfl
      have d1 := hcell 1 _ rfl
      have d2 := hcell 2 _ rfl
      have d3 := hcell 3 _ rfl
      have d4 := hcell 4 _ rfl
      have d5 := hcell 5 _ rfl
      have d6 := hcell 6 _ rfl
      rw [Nat.add_zero] at d0
      have HK := Lib.hid (hcall lk lo ld la lb ln ls_ wr vb ((HI.out.1.block vb HV.out.1).trans HV.out.2) (H.out _ (List.mem_of_getElem? hl)))
      unfold Ln.val at HK
      dsimp only at HK
      have HLL := Lib.hid hl
      clear hcall hc hg hcell hl
      cases hm : may ⟨lk, lo, ld, la, lb, ln, ls_⟩ with
      | true =>
        rw [hm] at HK
        have HM := Lib.hid hm
        clear hm
        go_wp2_with (go_at_call 69; (with_reducible refine HK.out.mono ?_); rintro e w' ⟨rfl, hb'⟩; have HB' := Lib.hid hb'; clear hb')
        go_roundw
        case rel => exact ⟨k + 1, by omega, by go_num, Lib.hid ⟨HI.out.1.trans (HB'.out.mono HI.out.1.size), fun j l hj hjl => by
          rcases Nat.lt_or_ge j k with q | q
          · exact HI.out.2 j l q hjl
          · obtain rfl : j = k := by omega
            rw [HLL.out] at hjl
            cases hjl
            exact HM.out⟩⟩
        case measure => simp [intOf] <;> omega
      | false =>
        rw [hm] at HK
        have HA := Lib.hid (all_no HLL.out hm)
        clear hm
        go_wp2_with (go_at_call 69; (with_reducible refine HK.out.mono ?_); rintro e w' ⟨rfl, hb'⟩; have HB' := Lib.hid hb'; clear hb')
        go_ret
        exact ⟨⟨(k : Int), by omega, by omega, rfl, by rw [HA.out]; simp⟩, HI.out.1.trans (HB'.out.mono HI.out.1.size)⟩
    · obtain rfl : k = n := by omega
      have HA := Lib.hid (all_yes (may := may) (ls := ls) fun j l hj => HI.out.2 j l (by have := HN.out; have := (List.getElem?_eq_some_iff.1 hj).1; omega) hj)
      go_wp2_with fail
      go_ret
      exact ⟨⟨-1, by omega, by omega, rfl, by rw [HA.out]; rfl⟩, HI.out.1⟩
theorem containsL_any (may : Ln → Bool) (w : World) (A : Option Addr) (n c : Nat) (ls : List Ln) (hL : LnsAt w A n ls) (hn : n ≤ 1000) (vb : Nat) (hv : w.heap[vb]? = some (.cells #[.func (.func 50) #[] #[]] 49 (0, 0)))
    (HC : ∀ l ∈ ls, ∀ W, Calls Try.prog 50 #[l.val] W fun e w' => e = .returned (.bool (may l)) ∧ Below W.heap.size W w') :
    Calls Try.prog 68 #[.slice A n c, .func (.func 69) #[] #[.pointer (some ⟨vb, 0, none⟩)]] w fun e w' => e = .returned (.bool (!(ls.all may))) ∧ Below w.heap.size w w' := by
  have H := Lib.hid (indexL_any may w A n c ls hL hn vb hv HC)
  clear hL hv HC
  go_enter Try.func68, Try.ntmps68
  go_wp2_with (go_at_call 91; (with_reducible refine H.out.mono ?_); rintro e w' ⟨⟨z, hz1, hz2, rfl, hz⟩, hb'⟩; have HZ := Lib.hid hz; have HB' := Lib.hid hb'; clear hb' hz)
  go_ret
  refine ⟨?_, HB'.out⟩
  rw [HZ.out]
  by_cases h : z < 0
  · simp [h]
  · simp [h]; omega
theorem allL_any (may : Ln → Bool) (w : World) (A : Option Addr) (n c : Nat) (ls : List Ln) (hL : LnsAt w A n ls) (hn : n ≤ 1000)
    (HC : ∀ l ∈ ls, ∀ W, Calls Try.prog 50 #[l.val] W fun e w' => e = .returned (.bool (may l)) ∧ Below W.heap.size W w') :
    Calls Try.prog 49 #[.slice A n c, .func (.func 50) #[] #[]] w fun e w' => e = .returned (.bool (ls.all may)) ∧ Below w.heap.size w w' := by
  have hmf : ∀ (fn : Go.Fn) (first cap : Array Value) (w : World), (Instr.makeFunc fn first cap).run Try.prog w = .ok (.func fn first cap) w := fun _ _ _ _ => rfl
  obtain ⟨W1, hW1⟩ : ∃ W1, w.alloc (.cells #[.func (.func 50) #[] #[]] 49) = W1 := ⟨_, rfl⟩
  have hb : Below w.heap.size w W1 := by rw [← hW1]; exact (Below.refl _ _).alloc (Nat.le_refl _) _
  have H := Lib.hid (containsL_any may W1 A n c ls (hL.below hb) hn w.heap.size (by rw [← hW1]; exact heap_alloc_new w _) HC)
  have HB := Lib.hid hb
  clear hL HC hb
  generalize ls.all may = q at *
  go_enter Try.func49, Try.ntmps49
  go_wp2_with (go_at_call 68; (with_reducible refine H.out.mono ?_); rintro e w' ⟨rfl, hb'⟩; have HB' := Lib.hid hb'; clear hb')
  go_ret
  exact ⟨by simp, HB.out.trans (HB'.out.mono HB.out.size)⟩

/-- The function that all hands on: of one it says the opposite. -/
theorem all1G_any (may : Gl → Bool) (gn : ByteArray) (gz : Int) (w : World) (vb : Nat) (hv : w.heap[vb]? = some (.cells #[.func (.func 47) #[] #[]] 95 (0, 0)))
    (HC : ∀ W, Calls Try.prog 47 #[(Gl.mk gn gz).val] W fun e w' => e = .returned (.bool (may ⟨gn, gz⟩)) ∧ Below W.heap.size W w') :
    Calls Try.prog 66 #[(Gl.mk gn gz).val, .pointer (some ⟨vb, 0, none⟩)] w fun e w' => e = .returned (.bool (!(may ⟨gn, gz⟩))) ∧ Below w.heap.size w w' := by
  have hvb : vb < w.heap.size := (Array.getElem?_eq_some_iff.1 hv).1
  unfold Gl.val at HC ⊢
  dsimp only at HC ⊢
  have H := Lib.hid HC
  obtain ⟨W1, hW1⟩ : ∃ W1, w.alloc (.cells #[.string gn, .int .i64 gz] 72) = W1 := ⟨_, rfl⟩
  have hb : Below w.heap.size w W1 := by rw [← hW1]; exact (Below.refl _ _).alloc (Nat.le_refl _) _
  have hv1 : W1.cell? ⟨vb, 0, none⟩ = some (.func (.func 47) #[] #[]) := cell_of_one ((hb.block _ hvb).trans hv)
  have hn : W1.heap[w.heap.size]? = some (.cells #[.string gn, .int .i64 gz] 72 (0, 0)) := by rw [← hW1]; exact heap_alloc_new w _
  have x0 : W1.cell? ⟨w.heap.size, 0, none⟩ = some (.string gn) := by rw [cell_of_row _ _ 0 _ _ (0, 0) hn]; rfl
  have x1 : W1.cell? ⟨w.heap.size, 1, none⟩ = some (.int .i64 gz) := by rw [cell_of_row _ _ 1 _ _ (0, 0) hn]; rfl
  have HB := Lib.hid hb
  clear hb hn hv hvb HC
  generalize may ⟨gn, gz⟩ = q at *
  go_enter Try.func66, Try.ntmps66
  go_wp2_with (go_at_call 47; (with_reducible refine (H.out _).mono ?_); rintro e w' ⟨rfl, hb'⟩; have HB' := Lib.hid hb'; clear hb')
  go_ret
  exact ⟨rfl, HB.out.trans (HB'.out.mono HB.out.size)⟩
set_option maxHeartbeats 1600000 in
theorem indexG_any (may : Gl → Bool) (w : World) (A : Option Addr) (n c : Nat) (ls : List Gl) (hL : GlsAt w A n ls) (hn : n ≤ 1000) (vb : Nat) (hv : w.heap[vb]? = some (.cells #[.func (.func 47) #[] #[]] 95 (0, 0)))
    (HC : ∀ l ∈ ls, ∀ W, Calls Try.prog 47 #[l.val] W fun e w' => e = .returned (.bool (may l)) ∧ Below W.heap.size W w') :
    Calls Try.prog 87 #[.slice A n c, .func (.func 66) #[] #[.pointer (some ⟨vb, 0, none⟩)]] w fun e w' => (∃ z : Int, -1 ≤ z ∧ z ≤ 1000 ∧ e = .returned (.int .i64 z) ∧ ls.all may = decide (z < 0)) ∧ Below w.heap.size w w' := by
  have hvb : vb < w.heap.size := (Array.getElem?_eq_some_iff.1 hv).1
  have HL := Lib.hid hL
  have HV := Lib.hid (And.intro hvb hv)
  have H := Lib.hid HC
  have HN := Lib.hid hL.1
  have hn2 : (n : Int) ≤ 1000 := by omega
  clear hL hv hvb HC
  go_enter Try.func87, Try.ntmps87
  go_wp2_with fail
  go_loopw [8] (fun i wr => ∃ k : Nat, k ≤ n ∧ i = .int .i64 k ∧ Hid (Below w.heap.size w wr ∧ ∀ j l, j < k → ls[j]? = some l → may l = true)) (fun i _ => n - (intOf i).toNat)
  case atStart => exact ⟨0, by omega, rfl, Lib.hid ⟨Below.refl _ _, fun j l hj => by omega⟩⟩
  case round =>
    obtain ⟨k, hk, rfl, HI⟩ := hrel
    rcases Nat.lt_or_ge k n with hlt | hge
    · have hlt' : (k : Int) < (n : Int) := by omega
      have hk0 : (0 : Int) ≤ (k : Int) := by omega
      obtain ⟨l, hl⟩ : ∃ l, ls[k]? = some l := ⟨_, List.getElem?_eq_getElem (by have := HN.out; omega)⟩
      obtain ⟨g, off, rfl, hg, hc⟩ := HL.out.2 (by omega)
      have hcall := all1G_any may
      obtain ⟨gn, gz⟩ := l
      have hcell := fun j v hj => (HI.out.1.cell (p := ⟨g, off + k * 2 + j, none⟩) hg).trans (hc k _ hl j v hj)
      have d0 := hcell 0 _ rfl
      have d1 := hcell 1 _ rfl
      rw [Nat.add_zero] at d0
      have HK := Lib.hid (hcall gn gz wr vb ((HI.out.1.block vb HV.out.1).trans HV.out.2) (H.out _ (List.mem_of_getElem? hl)))
      unfold Gl.val at HK
      dsimp only at HK
      have HLL := Lib.hid hl
      clear hcall hc hg hcell hl
      cases hm : may ⟨gn, gz⟩ with
      | true =>
        rw [hm] at HK
        have HM := Lib.hid hm
        clear hm
        go_wp2_with (go_at_call 66; (with_reducible refine HK.out.mono ?_); rintro e w' ⟨rfl, hb'⟩; have HB' := Lib.hid hb'; clear hb')
        go_roundw
        case rel => exact ⟨k + 1, by omega, by go_num, Lib.hid ⟨HI.out.1.trans (HB'.out.mono HI.out.1.size), fun j l hj hjl => by
          rcases Nat.lt_or_ge j k with q | q
          · exact HI.out.2 j l q hjl
          · obtain rfl : j = k := by omega
            rw [HLL.out] at hjl
            cases hjl
            exact HM.out⟩⟩
        case measure => simp [intOf] <;> omega
      | false =>
        rw [hm] at HK
        have HA := Lib.hid (all_no HLL.out hm)
        clear hm
        go_wp2_with (go_at_call 66; (with_reducible refine HK.out.mono ?_); rintro e w' ⟨rfl, hb'⟩; have HB' := Lib.hid hb'; clear hb')
        go_ret
        exact ⟨⟨(k : Int), by omega, by omega, rfl, by rw [HA.out]; simp⟩, HI.out.1.trans (HB'.out.mono HI.out.1.size)⟩
    · obtain rfl : k = n := by omega
      have HA := Lib.hid (all_yes (may := may) (ls := ls) fun j l hj => HI.out.2 j l (by have := HN.out; have := (List.getElem?_eq_some_iff.1 hj).1; omega) hj)
      go_wp2_with fail
      go_ret
      exact ⟨⟨-1, by omega, by omega, rfl, by rw [HA.out]; rfl⟩, HI.out.1⟩
theorem containsG_any (may : Gl → Bool) (w : World) (A : Option Addr) (n c : Nat) (ls : List Gl) (hL : GlsAt w A n ls) (hn : n ≤ 1000) (vb : Nat) (hv : w.heap[vb]? = some (.cells #[.func (.func 47) #[] #[]] 95 (0, 0)))
    (HC : ∀ l ∈ ls, ∀ W, Calls Try.prog 47 #[l.val] W fun e w' => e = .returned (.bool (may l)) ∧ Below W.heap.size W w') :
    Calls Try.prog 65 #[.slice A n c, .func (.func 66) #[] #[.pointer (some ⟨vb, 0, none⟩)]] w fun e w' => e = .returned (.bool (!(ls.all may))) ∧ Below w.heap.size w w' := by
  have H := Lib.hid (indexG_any may w A n c ls hL hn vb hv HC)
  clear hL hv HC
  go_enter Try.func65, Try.ntmps65
  go_wp2_with (go_at_call 87; (with_reducible refine H.out.mono ?_); rintro e w' ⟨⟨z, hz1, hz2, rfl, hz⟩, hb'⟩; have HZ := Lib.hid hz; have HB' := Lib.hid hb'; clear hb' hz)
  go_ret
  refine ⟨?_, HB'.out⟩
  rw [HZ.out]
  by_cases h : z < 0
  · simp [h]
  · simp [h]; omega
theorem allG_any (may : Gl → Bool) (w : World) (A : Option Addr) (n c : Nat) (ls : List Gl) (hL : GlsAt w A n ls) (hn : n ≤ 1000)
    (HC : ∀ l ∈ ls, ∀ W, Calls Try.prog 47 #[l.val] W fun e w' => e = .returned (.bool (may l)) ∧ Below W.heap.size W w') :
    Calls Try.prog 46 #[.slice A n c, .func (.func 47) #[] #[]] w fun e w' => e = .returned (.bool (ls.all may)) ∧ Below w.heap.size w w' := by
  have hmf : ∀ (fn : Go.Fn) (first cap : Array Value) (w : World), (Instr.makeFunc fn first cap).run Try.prog w = .ok (.func fn first cap) w := fun _ _ _ _ => rfl
  obtain ⟨W1, hW1⟩ : ∃ W1, w.alloc (.cells #[.func (.func 47) #[] #[]] 95) = W1 := ⟨_, rfl⟩
  have hb : Below w.heap.size w W1 := by rw [← hW1]; exact (Below.refl _ _).alloc (Nat.le_refl _) _
  have H := Lib.hid (containsG_any may W1 A n c ls (hL.below hb) hn w.heap.size (by rw [← hW1]; exact heap_alloc_new w _) HC)
  have HB := Lib.hid hb
  clear hL HC hb
  generalize ls.all may = q at *
  go_enter Try.func46, Try.ntmps46
  go_wp2_with (go_at_call 65; (with_reducible refine H.out.mono ?_); rintro e w' ⟨rfl, hb'⟩; have HB' := Lib.hid hb'; clear hb')
  go_ret
  exact ⟨by simp, HB.out.trans (HB'.out.mono HB.out.size)⟩

def mayA (mg : Gl → Bool) (ml : Ln → Bool) (gs : List Gl) (st : Int) (ls : List Ln) : Bool := decide (gs.length ≤ 64) && gs.all mg && decide (0 ≤ st ∧ st ≤ 16777216) && ls.all ml
theorem mayStack_any (z : Int) (w : World) : Calls Try.prog 48 #[.int .i64 z] w fun e w' => e = .returned (.bool (decide (0 ≤ z ∧ z ≤ 16777216))) ∧ w = w' := by
  by_cases h1 : 0 ≤ z
  · by_cases h2 : z ≤ 16777216
    · go_enter Try.func48, Try.ntmps48
      go_wp2
      go_ret
      exact ⟨by simp [h1, h2], rfl⟩
    · go_enter Try.func48, Try.ntmps48
      go_wp2
      go_ret
      exact ⟨by simp [h1, h2], rfl⟩
  · go_enter Try.func48, Try.ntmps48
    go_wp2
    go_ret
    exact ⟨by simp; omega, rfl⟩
set_option maxHeartbeats 3200000 in
theorem may_any (mg : Gl → Bool) (ml : Ln → Bool) (w : World) (GA LA : Option Addr) (gn gc ln lc : Nat) (st : Int) (gs : List Gl) (ls : List Ln) (hG : GlsAt w GA gn gs) (hL : LnsAt w LA ln ls) (hgn : gn ≤ 1000) (hln : ln ≤ 1000)
    (HG : ∀ l ∈ gs, ∀ W, Calls Try.prog 47 #[l.val] W fun e w' => e = .returned (.bool (mg l)) ∧ Below W.heap.size W w')
    (HL : ∀ l ∈ ls, ∀ W, Calls Try.prog 50 #[l.val] W fun e w' => e = .returned (.bool (ml l)) ∧ Below W.heap.size W w') :
    Calls Try.prog 25 #[.agg #[.slice GA gn gc, .int .i64 st, .slice LA ln lc]] w fun e w' => e = .returned (.bool (mayA mg ml gs st ls)) ∧ Below w.heap.size w w' := by
  obtain ⟨W1, hW1⟩ : ∃ W1, w.alloc (.cells #[.slice GA gn gc, .int .i64 st, .slice LA ln lc] 25) = W1 := ⟨_, rfl⟩
  obtain ⟨v, hv⟩ : ∃ v, w.heap.size = v := ⟨_, rfl⟩
  have hb : Below w.heap.size w W1 := by rw [← hW1]; exact (Below.refl _ _).alloc (Nat.le_refl _) _
  have hbx : W1.heap[v]? = some (.cells #[.slice GA gn gc, .int .i64 st, .slice LA ln lc] 25 (0, 0)) := by rw [← hW1, ← hv]; exact heap_alloc_new w _
  have hvl : v < W1.heap.size := (Array.getElem?_eq_some_iff.1 hbx).1
  have HX : Hid (∀ V, Below W1.heap.size W1 V → V.cell? ⟨v, 0, none⟩ = some (.slice GA gn gc) ∧ V.cell? ⟨v, 1, none⟩ = some (.int .i64 st) ∧ V.cell? ⟨v, 2, none⟩ = some (.slice LA ln lc)) := Lib.hid (fun V hV => by
    have h5 := (hV.block v hvl).trans hbx
    refine ⟨?_, ?_, ?_⟩ <;> (rw [cell_of_row _ v _ _ _ (0, 0) h5]; rfl))
  have HA := Lib.hid (fun V (hV : Below W1.heap.size W1 V) => allG_any mg V GA gn gc gs ((hG.below hb).below hV) hgn HG)
  have HB := Lib.hid (fun V (hV : Below W1.heap.size W1 V) => allL_any ml V LA ln lc ls ((hL.below hb).below hV) hln HL)
  have HBB := Lib.hid hb
  have HGL := Lib.hid hG.1
  obtain ⟨y0, y1, y2⟩ := HX.out W1 (Below.refl _ _)
  have hgn2 : (gn : Int) ≤ 1000 := by omega
  clear hb hbx hvl hG hL HG HL
  by_cases h64 : gn ≤ 64
  · have e64 : (gn : Int) ≤ 64 := by omega
    cases hq1 : gs.all mg with
    | false =>
      have HM : Hid (mayA mg ml gs st ls = false) := Lib.hid (by unfold mayA; rw [hq1]; simp)
      rw [hq1] at HA
      clear hq1
      go_enter Try.func25, Try.ntmps25
      go_wp2_with (go_at_call 46; (with_reducible refine (HA.out _ (Below.refl _ _)).mono ?_); rintro e w' ⟨rfl, hb'⟩; have HB' := Lib.hid hb'; clear hb')
      go_ret
      exact ⟨by rw [HM.out]; rfl, HBB.out.trans (HB'.out.mono HBB.out.size)⟩
    | true =>
      rw [hq1] at HA
      by_cases hst : 0 ≤ st ∧ st ≤ 16777216
      · have HS := Lib.hid (mayStack_any st)
        rw [show decide (0 ≤ st ∧ st ≤ 16777216) = true from by simp [hst]] at HS
        have HM : Hid (mayA mg ml gs st ls = ls.all ml) := Lib.hid (by unfold mayA; rw [hq1, HGL.out, show decide (0 ≤ st ∧ st ≤ 16777216) = true from by simp [hst]]; simp [h64])
        clear hq1 hst
        generalize ls.all ml = q at *
        go_enter Try.func25, Try.ntmps25
        go_wp2_with (first
          | (go_at_call 46; (with_reducible refine (HA.out _ (Below.refl _ _)).mono ?_); rintro e w1 ⟨rfl, hb'⟩; obtain ⟨z0, z1, z2⟩ := HX.out w1 hb'; have HB1 := Lib.hid hb'; clear hb')
          | (go_at_call 48; (with_reducible refine (HS.out _).mono ?_); rintro e w2 ⟨rfl, rfl⟩)
          | (go_at_call 49; (with_reducible refine (HB.out _ HB1.out).mono ?_); rintro e w3 ⟨rfl, hb'⟩; have HB3 := Lib.hid (HB1.out.trans (hb'.mono HB1.out.size)); clear hb'))
        go_ret
        exact ⟨by rw [HM.out]; rfl, HBB.out.trans (HB3.out.mono HBB.out.size)⟩
      · have HS := Lib.hid (mayStack_any st)
        rw [show decide (0 ≤ st ∧ st ≤ 16777216) = false from by simpa using hst] at HS
        have HM : Hid (mayA mg ml gs st ls = false) := Lib.hid (by unfold mayA; rw [show decide (0 ≤ st ∧ st ≤ 16777216) = false from by simpa using hst]; simp)
        clear hq1 hst
        go_enter Try.func25, Try.ntmps25
        go_wp2_with (first
          | (go_at_call 46; (with_reducible refine (HA.out _ (Below.refl _ _)).mono ?_); rintro e w1 ⟨rfl, hb'⟩; obtain ⟨z0, z1, z2⟩ := HX.out w1 hb'; have HB1 := Lib.hid hb'; clear hb')
          | (go_at_call 48; (with_reducible refine (HS.out _).mono ?_); rintro e w2 ⟨rfl, rfl⟩))
        go_ret
        exact ⟨by rw [HM.out]; rfl, HBB.out.trans (HB1.out.mono HBB.out.size)⟩
  · have e64 : ¬ (gn : Int) ≤ 64 := by omega
    have HM : Hid (mayA mg ml gs st ls = false) := Lib.hid (by unfold mayA; rw [HGL.out]; simp [h64])
    go_enter Try.func25, Try.ntmps25
    go_wp2_with fail
    go_ret
    exact ⟨by rw [HM.out]; rfl, by rw [← hv]; exact HBB.out⟩
end Rv
end Go.Proofs.Ytadgemcpahfkoaa
