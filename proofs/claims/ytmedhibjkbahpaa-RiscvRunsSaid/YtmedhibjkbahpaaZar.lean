/-
  asm.all over lines and over globals; asm.May, by what is answered of each line and each global.
  Labels and globals get their addresses: (*Image).lay.
-/
import Derived.Test.YtmedhibjkbahpaaZaq
import Derived.Laws.EntriesVeiled
namespace Go.Proofs.Ytmedhibjkbahpaa
open Go.RowKit
set_option linter.unusedVariables false
set_option linter.unusedSimpArgs false
set_option maxRecDepth 100000
namespace Rv
/-- A global. -/
structure Gl where
  name : ByteArray
  size : Int
def Gl.cells (g : Gl) : List Value := [.string g.name, .int .i64 g.size]
def Gl.val (g : Gl) : Value := .agg #[.string g.name, .int .i64 g.size]
/-- Globals in memory. -/
def GlsAt (w : World) (A : Option Addr) (n : Nat) (ls : List Gl) : Prop :=
  ls.length = n ∧ (0 < n → ∃ g off, A = some ⟨g, off, none⟩ ∧ g < w.heap.size ∧ ∀ i l, ls[i]? = some l → ∀ j v, l.cells[j]? = some v → w.cell? ⟨g, off + i * 2 + j, none⟩ = some v)
theorem GlsAt.below {w w' : World} {A : Option Addr} {n : Nat} {ls : List Gl} (h : GlsAt w A n ls) (hb : Below w.heap.size w w') : GlsAt w' A n ls := by
  refine ⟨h.1, fun hn => ?_⟩
  obtain ⟨g, off, e, hg, hc⟩ := h.2 hn
  exact ⟨g, off, e, Nat.lt_of_lt_of_le hg hb.size, fun i l hi j v hj => (hb.cell (p := ⟨g, off + i * 2 + j, none⟩) hg).trans (hc i l hi j v hj)⟩
theorem all_no {α : Type} {may : α → Bool} {ls : List α} {k : Nat} {l : α} (h : ls[k]? = some l) (hl : may l = false) : ls.all may = false := by
  rw [Bool.eq_false_iff]
  intro ha
  have := List.all_eq_true.1 ha l (List.mem_of_getElem? h)
  rw [hl] at this
  cases this
theorem all_yes {α : Type} {may : α → Bool} {ls : List α} (h : ∀ (j : Nat) (l : α), ls[j]? = some l → may l = true) : ls.all may = true :=
  List.all_eq_true.2 fun l hl => by
    obtain ⟨j, hj⟩ := List.getElem?_of_mem hl
    exact h j l hj

/-- The function that all hands on: of one it says the opposite. -/
theorem all1L_any (may : Ln → Bool) (lk lo ld la lb ln : Int) (ls_ : ByteArray) (w : World) (vb : Nat) (hv : w.heap[vb]? = some (.cells #[.func (.func 50) #[] #[]] 49 (0, 0)))
    (HC : ∀ W, Calls Try.prog 50 #[(Ln.mk lk lo ld la lb ln ls_).val] W fun e w' => e = .returned (.bool (may ⟨lk, lo, ld, la, lb, ln, ls_⟩)) ∧ Below W.heap.size W w') :
    Calls Try.prog 69 #[(Ln.mk lk lo ld la lb ln ls_).val, .pointer (some ⟨vb, 0, none⟩)] w fun e w' => e = .returned (.bool (!(may ⟨lk, lo, ld, la, lb, ln, ls_⟩))) ∧ Below w.heap.size w w' := by
  have hvb : vb < w.heap.size := (Array.getElem?_eq_some_iff.1 hv).1
  unfold Ln.val at HC ⊢
  dsimp only at HC ⊢
  have H := Lib.hid HC
  obtain ⟨W1, hW1⟩ : ∃ W1, w.alloc (.cells #[.int .i64 lk, .int .i64 lo, .int .i64 ld, .int .i64 la, .int .i64 lb, .int .i32 ln, .string ls_] 39) = W1 := ⟨_, rfl⟩
  have hb : Below w.heap.size w W1 := by rw [← hW1]; exact (Below.refl _ _).alloc (Nat.le_refl _) _
  have hv1 : W1.cell? ⟨vb, 0, none⟩ = some (.func (.func 50) #[] #[]) := cell_of_one ((hb.block _ hvb).trans hv)
  have hn : W1.heap[w.heap.size]? = some (.cells #[.int .i64 lk, .int .i64 lo, .int .i64 ld, .int .i64 la, .int .i64 lb, .int .i32 ln, .string ls_] 39 (0, 0)) := by rw [← hW1]; exact heap_alloc_new w _
  have x0 : W1.cell? ⟨w.heap.size, 0, none⟩ = some (.int .i64 lk) := by rw [cell_of_row _ _ 0 _ _ (0, 0) hn]; rfl
  have x1 : W1.cell? ⟨w.heap.size, 1, none⟩ = some (.int .i64 lo) := by rw [cell_of_row _ _ 1 _ _ (0, 0) hn]; rfl
  have x2 : W1.cell? ⟨w.heap.size, 2, none⟩ = some (.int .i64 ld) := by rw [cell_of_row _ _ 2 _ _ (0, 0) hn]; rfl
  have x3 : W1.cell? ⟨w.heap.size, 3, none⟩ = some (.int .i64 la) := by rw [cell_of_row _ _ 3 _ _ (0, 0) hn]; rfl
  have x4 : W1.cell? ⟨w.heap.size, 4, none⟩ = some (.int .i64 lb) := by rw [cell_of_row _ _ 4 _ _ (0, 0) hn]; rfl
  have x5 : W1.cell? ⟨w.heap.size, 5, none⟩ = some (.int .i32 ln) := by rw [cell_of_row _ _ 5 _ _ (0, 0) hn]; rfl
  have x6 : W1.cell? ⟨w.heap.size, 6, none⟩ = some (.string ls_) := by rw [cell_of_row _ _ 6 _ _ (0, 0) hn]; rfl
  have HB := Lib.hid hb
  clear hb hn hv hvb HC
  generalize may ⟨lk, lo, ld, la, lb, ln, ls_⟩ = q at *
  go_enter Try.func69, Try.ntmps69
  go_wp2_with (go_at_call 50; (with_reducible refine (H.out _).mono ?_); rintro e w' ⟨rfl, hb'⟩; have HB' := Lib.hid hb'; clear hb')
  go_ret
  exact ⟨rfl, HB.out.trans (HB'.out.mono HB.out.size)⟩
set_option maxHeartbeats 1600000 in
theorem indexL_any (may : Ln → Bool) (w : World) (A : Option Addr) (n c : Nat) (ls : List Ln) (hL : LnsAt w A n ls) (hn : n ≤ 1000) (vb : Nat) (hv : w.heap[vb]? = some (.cells #[.func (.func 50) #[] #[]] 49 (0, 0)))
    (HC : ∀ l ∈ ls, ∀ W, Calls Try.prog 50 #[l.val] W fun e w' => e = .returned (.bool (may l)) ∧ Below W.heap.size W w') :
    Calls Try.prog 91 #[.slice A n c, .func (.func 69) #[] #[.pointer (some ⟨vb, 0, none⟩)]] w fun e w' => (∃ z : Int, -1 ≤ z ∧ z ≤ 1000 ∧ e = .returned (.int .i64 z) ∧ ls.all may = decide (z < 0)) ∧ Below w.heap.size w w' := by
  have hvb : vb < w.heap.size := (Array.getElem?_eq_some_iff.1 hv).1
  have HL := Lib.hid hL
  have HV := Lib.hid (And.intro hvb hv)
  have H := Lib.hid HC
  have HN := Lib.hid hL.1
  have hn2 : (n : Int) ≤ 1000 := by omega
  clear hL hv hvb HC
  go_enter Try.func91, Try.ntmps91
  go_wp2_with fail
  go_loopw [8] (fun i wr => ∃ k : Nat, k ≤ n ∧ i = .int .i64 k ∧ Hid (Below w.heap.size w wr ∧ ∀ j l, j < k → ls[j]? = some l → may l = true)) (fun i _ => n - (intOf i).toNat)
  case atStart => exact ⟨0, by omega, rfl, Lib.hid ⟨Below.refl _ _, fun j l hj => by omega⟩⟩
  case round =>
    obtain ⟨k, hk, rfl, HI⟩ := hrel
    rcases Nat.lt_or_ge k n with hlt | hge
    · have hlt' : (k : Int) < (n : Int) := by omega
      have hk0 : (0 : Int) ≤ (k : Int) := by omega
      obtain ⟨l, hl⟩ : ∃ l, ls[k]? = some l := ⟨_, List.getElem?_eq_getElem (by have := HN.out; omega)⟩
      obtain ⟨g, off, rfl, hg, hc⟩ := HL.out.2 (by omega)
      have hcall := all1L_any may
      obtain ⟨lk, lo, ld, la, lb, ln, ls_⟩ := l
      have hcell := fun j v hj => (HI.out.1.cell (p := ⟨g, off + k * 7 + j, none⟩) hg).trans (hc k _ hl j v hj)
      have d0 := hcell 0 _ rfl
      have d1 := hcell 1 _ rfl
      have d2 := hcell 2 _ rfl
      have d3 := hcell 3 _ rfl
      have d4 := hcell 4 _ rfl
      have d5 := hcell 5 _ rfl
      have d6 := hcell 6 _ rfl
      rw [Nat.add_zero] at d0
      have HK := Lib.hid (hcall lk lo ld la lb ln ls_ wr vb ((HI.out.1.block vb HV.out.1).trans HV.out.2) (H.out _ (List.mem_of_getElem? hl)))
      unfold Ln.val at HK
      dsimp only at HK
      have HLL := Lib.hid hl
      clear hcall hc hg hcell hl
      cases hm : may ⟨lk, lo, ld, la, lb, ln, ls_⟩ with
      | true =>
        rw [hm] at HK
        have HM := Lib.hid hm
        clear hm
        go_wp2_with (go_at_call 69; (with_reducible refine HK.out.mono ?_); rintro e w' ⟨rfl, hb'⟩; have HB' := Lib.hid hb'; clear hb')
        go_roundw
        case rel => exact ⟨k + 1, by omega, by go_num, Lib.hid ⟨HI.out.1.trans (HB'.out.mono HI.out.1.size), fun j l hj hjl => by
          rcases Nat.lt_or_ge j k with q | q
          · exact HI.out.2 j l q hjl
          · obtain rfl : j = k := by omega
            rw [HLL.out] at hjl
            cases hjl
            exact HM.out⟩⟩
        case measure => simp [intOf] <;> omega
      | false =>
        rw [hm] at HK
        have HA := Lib.hid (all_no HLL.out hm)
        clear hm
        go_wp2_with (go_at_call 69; (with_reducible refine HK.out.mono ?_); rintro e w' ⟨rfl, hb'⟩; have HB' := Lib.hid hb'; clear hb')
        go_ret
        exact ⟨⟨(k : Int), by omega, by omega, rfl, by rw [HA.out]; simp⟩, HI.out.1.trans (HB'.out.mono HI.out.1.size)⟩
    · obtain rfl : k = n := by omega
      have HA := Lib.hid (all_yes (may := may) (ls := ls) fun j l hj => HI.out.2 j l (by have := HN.out; have := (List.getElem?_eq_some_iff.1 hj).1; omega) hj)
      go_wp2_with fail
      go_ret
      exact ⟨⟨-1, by omega, by omega, rfl, by rw [HA.out]; rfl⟩, HI.out.1⟩
theorem containsL_any (may : Ln → Bool) (w : World) (A : Option Addr) (n c : Nat) (ls : List Ln) (hL : LnsAt w A n ls) (hn : n ≤ 1000) (vb : Nat) (hv : w.heap[vb]? = some (.cells #[.func (.func 50) #[] #[]] 49 (0, 0)))
    (HC : ∀ l ∈ ls, ∀ W, Calls Try.prog 50 #[l.val] W fun e w' => e = .returned (.bool (may l)) ∧ Below W.heap.size W w') :
    Calls Try.prog 68 #[.slice A n c, .func (.func 69) #[] #[.pointer (some ⟨vb, 0, none⟩)]] w fun e w' => e = .returned (.bool (!(ls.all may))) ∧ Below w.heap.size w w' := by
  have H := Lib.hid (indexL_any may w A n c ls hL hn vb hv HC)
  clear hL hv HC
  go_enter Try.func68, Try.ntmps68
  go_wp2_with (go_at_call 91; (with_reducible refine H.out.mono ?_); rintro e w' ⟨⟨z, hz1, hz2, rfl, hz⟩, hb'⟩; have HZ := Lib.hid hz; have HB' := Lib.hid hb'; clear hb' hz)
  go_ret
  refine ⟨?_, HB'.out⟩
  rw [HZ.out]
  by_cases h : z < 0
  · simp [h]
  · simp [h]; omega
theorem allL_any (may : Ln → Bool) (w : World) (A : Option Addr) (n c : Nat) (ls : List Ln) (hL : LnsAt w A n ls) (hn : n ≤ 1000)
    (HC : ∀ l ∈ ls, ∀ W, Calls Try.prog 50 #[l.val] W fun e w' => e = .returned (.bool (may l)) ∧ Below W.heap.size W w') :
    Calls Try.prog 49 #[.slice A n c, .func (.func 50) #[] #[]] w fun e w' => e = .returned (.bool (ls.all may)) ∧ Below w.heap.size w w' := by
  have hmf : ∀ (fn : Go.Fn) (first cap : Array Value) (w : World), (Instr.makeFunc fn first cap).run Try.prog w = .ok (.func fn first cap) w := fun _ _ _ _ => rfl
  obtain ⟨W1, hW1⟩ : ∃ W1, w.alloc (.cells #[.func (.func 50) #[] #[]] 49) = W1 := ⟨_, rfl⟩
  have hb : Below w.heap.size w W1 := by rw [← hW1]; exact (Below.refl _ _).alloc (Nat.le_refl _) _
  have H := Lib.hid (containsL_any may W1 A n c ls (hL.below hb) hn w.heap.size (by rw [← hW1]; exact heap_alloc_new w _) HC)
  have HB := Lib.hid hb
  clear hL HC hb
  generalize ls.all may = q at *
  go_enter Try.func49, Try.ntmps49
  go_wp2_with (go_at_call 68; (with_reducible refine H.out.mono ?_); rintro e w' ⟨rfl, hb'⟩; have HB' := Lib.hid hb'; clear hb')
  go_ret
  exact ⟨by simp, HB.out.trans (HB'.out.mono HB.out.size)⟩

/-- The function that all hands on: of one it says the opposite. -/
theorem all1G_any (may : Gl → Bool) (gn : ByteArray) (gz : Int) (w : World) (vb : Nat) (hv : w.heap[vb]? = some (.cells #[.func (.func 47) #[] #[]] 95 (0, 0)))
    (HC : ∀ W, Calls Try.prog 47 #[(Gl.mk gn gz).val] W fun e w' => e = .returned (.bool (may ⟨gn, gz⟩)) ∧ Below W.heap.size W w') :
    Calls Try.prog 66 #[(Gl.mk gn gz).val, .pointer (some ⟨vb, 0, none⟩)] w fun e w' => e = .returned (.bool (!(may ⟨gn, gz⟩))) ∧ Below w.heap.size w w' := by
  have hvb : vb < w.heap.size := (Array.getElem?_eq_some_iff.1 hv).1
  unfold Gl.val at HC ⊢
  dsimp only at HC ⊢
  have H := Lib.hid HC
  obtain ⟨W1, hW1⟩ : ∃ W1, w.alloc (.cells #[.string gn, .int .i64 gz] 72) = W1 := ⟨_, rfl⟩
  have hb : Below w.heap.size w W1 := by rw [← hW1]; exact (Below.refl _ _).alloc (Nat.le_refl _) _
  have hv1 : W1.cell? ⟨vb, 0, none⟩ = some (.func (.func 47) #[] #[]) := cell_of_one ((hb.block _ hvb).trans hv)
  have hn : W1.heap[w.heap.size]? = some (.cells #[.string gn, .int .i64 gz] 72 (0, 0)) := by rw [← hW1]; exact heap_alloc_new w _
  have x0 : W1.cell? ⟨w.heap.size, 0, none⟩ = some (.string gn) := by rw [cell_of_row _ _ 0 _ _ (0, 0) hn]; rfl
  have x1 : W1.cell? ⟨w.heap.size, 1, none⟩ = some (.int .i64 gz) := by rw [cell_of_row _ _ 1 _ _ (0, 0) hn]; rfl
  have HB := Lib.hid hb
  clear hb hn hv hvb HC
  generalize may ⟨gn, gz⟩ = q at *
  go_enter Try.func66, Try.ntmps66
  go_wp2_with (go_at_call 47; (with_reducible refine (H.out _).mono ?_); rintro e w' ⟨rfl, hb'⟩; have HB' := Lib.hid hb'; clear hb')
  go_ret
  exact ⟨rfl, HB.out.trans (HB'.out.mono HB.out.size)⟩
set_option maxHeartbeats 1600000 in
theorem indexG_any (may : Gl → Bool) (w : World) (A : Option Addr) (n c : Nat) (ls : List Gl) (hL : GlsAt w A n ls) (hn : n ≤ 1000) (vb : Nat) (hv : w.heap[vb]? = some (.cells #[.func (.func 47) #[] #[]] 95 (0, 0)))
    (HC : ∀ l ∈ ls, ∀ W, Calls Try.prog 47 #[l.val] W fun e w' => e = .returned (.bool (may l)) ∧ Below W.heap.size W w') :
    Calls Try.prog 87 #[.slice A n c, .func (.func 66) #[] #[.pointer (some ⟨vb, 0, none⟩)]] w fun e w' => (∃ z : Int, -1 ≤ z ∧ z ≤ 1000 ∧ e = .returned (.int .i64 z) ∧ ls.all may = decide (z < 0)) ∧ Below w.heap.size w w' := by
  have hvb : vb < w.heap.size := (Array.getElem?_eq_some_iff.1 hv).1
  have HL := Lib.hid hL
  have HV := Lib.hid (And.intro hvb hv)
  have H := Lib.hid HC
  have HN := Lib.hid hL.1
  have hn2 : (n : Int) ≤ 1000 := by omega
  clear hL hv hvb HC
  go_enter Try.func87, Try.ntmps87
  go_wp2_with fail
  go_loopw [8] (fun i wr => ∃ k : Nat, k ≤ n ∧ i = .int .i64 k ∧ Hid (Below w.heap.size w wr ∧ ∀ j l, j < k → ls[j]? = some l → may l = true)) (fun i _ => n - (intOf i).toNat)
  case atStart => exact ⟨0, by omega, rfl, Lib.hid ⟨Below.refl _ _, fun j l hj => by omega⟩⟩
  case round =>
    obtain ⟨k, hk, rfl, HI⟩ := hrel
    rcases Nat.lt_or_ge k n with hlt | hge
    · have hlt' : (k : Int) < (n : Int) := by omega
      have hk0 : (0 : Int) ≤ (k : Int) := by omega
      obtain ⟨l, hl⟩ : ∃ l, ls[k]? = some l := ⟨_, List.getElem?_eq_getElem (by have := HN.out; omega)⟩
      obtain ⟨g, off, rfl, hg, hc⟩ := HL.out.2 (by omega)
      have hcall := all1G_any may
      obtain ⟨gn, gz⟩ := l
      have hcell := fun j v hj => (HI.out.1.cell (p := ⟨g, off + k * 2 + j, none⟩) hg).trans (hc k _ hl j v hj)
      have d0 := hcell 0 _ rfl
      have d1 := hcell 1 _ rfl
      rw [Nat.add_zero] at d0
      have HK := Lib.hid (hcall gn gz wr vb ((HI.out.1.block vb HV.out.1).trans HV.out.2) (H.out _ (List.mem_of_getElem? hl)))
      unfold Gl.val at HK
      dsimp only at HK
      have HLL := Lib.hid hl
      clear hcall hc hg hcell hl
      cases hm : may ⟨gn, gz⟩ with
      | true =>
        rw [hm] at HK
        have HM := Lib.hid hm
        clear hm
        go_wp2_with (go_at_call 66; (with_reducible refine HK.out.mono ?_); rintro e w' ⟨rfl, hb'⟩; have HB' := Lib.hid hb'; clear hb')
        go_roundw
        case rel => exact ⟨k + 1, by omega, by go_num, Lib.hid ⟨HI.out.1.trans (HB'.out.mono HI.out.1.size), fun j l hj hjl => by
          rcases Nat.lt_or_ge j k with q | q
          · exact HI.out.2 j l q hjl
          · obtain rfl : j = k := by omega
            rw [HLL.out] at hjl
            cases hjl
            exact HM.out⟩⟩
        case measure => simp [intOf] <;> omega
      | false =>
        rw [hm] at HK
        have HA := Lib.hid (all_no HLL.out hm)
        clear hm
        go_wp2_with (go_at_call 66; (with_reducible refine HK.out.mono ?_); rintro e w' ⟨rfl, hb'⟩; have HB' := Lib.hid hb'; clear hb')
        go_ret
        exact ⟨⟨(k : Int), by omega, by omega, rfl, by rw [HA.out]; simp⟩, HI.out.1.trans (HB'.out.mono HI.out.1.size)⟩
    · obtain rfl : k = n := by omega
      have HA := Lib.hid (all_yes (may := may) (ls := ls) fun j l hj => HI.out.2 j l (by have := HN.out; have := (List.getElem?_eq_some_iff.1 hj).1; omega) hj)
      go_wp2_with fail
      go_ret
      exact ⟨⟨-1, by omega, by omega, rfl, by rw [HA.out]; rfl⟩, HI.out.1⟩
theorem containsG_any (may : Gl → Bool) (w : World) (A : Option Addr) (n c : Nat) (ls : List Gl) (hL : GlsAt w A n ls) (hn : n ≤ 1000) (vb : Nat) (hv : w.heap[vb]? = some (.cells #[.func (.func 47) #[] #[]] 95 (0, 0)))
    (HC : ∀ l ∈ ls, ∀ W, Calls Try.prog 47 #[l.val] W fun e w' => e = .returned (.bool (may l)) ∧ Below W.heap.size W w') :
    Calls Try.prog 65 #[.slice A n c, .func (.func 66) #[] #[.pointer (some ⟨vb, 0, none⟩)]] w fun e w' => e = .returned (.bool (!(ls.all may))) ∧ Below w.heap.size w w' := by
  have H := Lib.hid (indexG_any may w A n c ls hL hn vb hv HC)
  clear hL hv HC
  go_enter Try.func65, Try.ntmps65
  go_wp2_with (go_at_call 87; (with_reducible refine H.out.mono ?_); rintro e w' ⟨⟨z, hz1, hz2, rfl, hz⟩, hb'⟩; have HZ := Lib.hid hz; have HB' := Lib.hid hb'; clear hb' hz)
  go_ret
  refine ⟨?_, HB'.out⟩
  rw [HZ.out]
  by_cases h : z < 0
  · simp [h]
  · simp [h]; omega
theorem allG_any (may : Gl → Bool) (w : World) (A : Option Addr) (n c : Nat) (ls : List Gl) (hL : GlsAt w A n ls) (hn : n ≤ 1000)
    (HC : ∀ l ∈ ls, ∀ W, Calls Try.prog 47 #[l.val] W fun e w' => e = .returned (.bool (may l)) ∧ Below W.heap.size W w') :
    Calls Try.prog 46 #[.slice A n c, .func (.func 47) #[] #[]] w fun e w' => e = .returned (.bool (ls.all may)) ∧ Below w.heap.size w w' := by
  have hmf : ∀ (fn : Go.Fn) (first cap : Array Value) (w : World), (Instr.makeFunc fn first cap).run Try.prog w = .ok (.func fn first cap) w := fun _ _ _ _ => rfl
  obtain ⟨W1, hW1⟩ : ∃ W1, w.alloc (.cells #[.func (.func 47) #[] #[]] 95) = W1 := ⟨_, rfl⟩
  have hb : Below w.heap.size w W1 := by rw [← hW1]; exact (Below.refl _ _).alloc (Nat.le_refl _) _
  have H := Lib.hid (containsG_any may W1 A n c ls (hL.below hb) hn w.heap.size (by rw [← hW1]; exact heap_alloc_new w _) HC)
  have HB := Lib.hid hb
  clear hL HC hb
  generalize ls.all may = q at *
  go_enter Try.func46, Try.ntmps46
  go_wp2_with (go_at_call 65; (with_reducible refine H.out.mono ?_); rintro e w' ⟨rfl, hb'⟩; have HB' := Lib.hid hb'; clear hb')
  go_ret
  exact ⟨by simp, HB.out.trans (HB'.out.mono HB.out.size)⟩

def mayA (mg : Gl → Bool) (ml : Ln → Bool) (gs : List Gl) (st : Int) (ls : List Ln) : Bool := decide (gs.length ≤ 64) && gs.all mg && decide (0 ≤ st ∧ st ≤ 16777216) && ls.all ml
theorem mayStack_any (z : Int) (w : World) : Calls Try.prog 48 #[.int .i64 z] w fun e w' => e = .returned (.bool (decide (0 ≤ z ∧ z ≤ 16777216))) ∧ w = w' := by
  by_cases h1 : 0 ≤ z
  · by_cases h2 : z ≤ 16777216
    · go_enter Try.func48, Try.ntmps48
      go_wp2
      go_ret
      exact ⟨by simp [h1, h2], rfl⟩
    · go_enter Try.func48, Try.ntmps48
      go_wp2
      go_ret
      exact ⟨by simp [h1, h2], rfl⟩
  · go_enter Try.func48, Try.ntmps48
    go_wp2
    go_ret
    exact ⟨by simp; omega, rfl⟩
set_option maxHeartbeats 3200000 in
theorem may_any (mg : Gl → Bool) (ml : Ln → Bool) (w : World) (GA LA : Option Addr) (gn gc ln lc : Nat) (st : Int) (gs : List Gl) (ls : List Ln) (hG : GlsAt w GA gn gs) (hL : LnsAt w LA ln ls) (hgn : gn ≤ 1000) (hln : ln ≤ 1000)
    (HG : ∀ l ∈ gs, ∀ W, Calls Try.prog 47 #[l.val] W fun e w' => e = .returned (.bool (mg l)) ∧ Below W.heap.size W w')
    (HL : ∀ l ∈ ls, ∀ W, Calls Try.prog 50 #[l.val] W fun e w' => e = .returned (.bool (ml l)) ∧ Below W.heap.size W w') :
    Calls Try.prog 25 #[.agg #[.slice GA gn gc, .int .i64 st, .slice LA ln lc]] w fun e w' => e = .returned (.bool (mayA mg ml gs st ls)) ∧ Below w.heap.size w w' := by
  obtain ⟨W1, hW1⟩ : ∃ W1, w.alloc (.cells #[.slice GA gn gc, .int .i64 st, .slice LA ln lc] 25) = W1 := ⟨_, rfl⟩
  obtain ⟨v, hv⟩ : ∃ v, w.heap.size = v := ⟨_, rfl⟩
  have hb : Below w.heap.size w W1 := by rw [← hW1]; exact (Below.refl _ _).alloc (Nat.le_refl _) _
  have hbx : W1.heap[v]? = some (.cells #[.slice GA gn gc, .int .i64 st, .slice LA ln lc] 25 (0, 0)) := by rw [← hW1, ← hv]; exact heap_alloc_new w _
  have hvl : v < W1.heap.size := (Array.getElem?_eq_some_iff.1 hbx).1
  have HX : Hid (∀ V, Below W1.heap.size W1 V → V.cell? ⟨v, 0, none⟩ = some (.slice GA gn gc) ∧ V.cell? ⟨v, 1, none⟩ = some (.int .i64 st) ∧ V.cell? ⟨v, 2, none⟩ = some (.slice LA ln lc)) := Lib.hid (fun V hV => by
    have h5 := (hV.block v hvl).trans hbx
    refine ⟨?_, ?_, ?_⟩ <;> (rw [cell_of_row _ v _ _ _ (0, 0) h5]; rfl))
  have HA := Lib.hid (fun V (hV : Below W1.heap.size W1 V) => allG_any mg V GA gn gc gs ((hG.below hb).below hV) hgn HG)
  have HB := Lib.hid (fun V (hV : Below W1.heap.size W1 V) => allL_any ml V LA ln lc ls ((hL.below hb).below hV) hln HL)
  have HBB := Lib.hid hb
  have HGL := Lib.hid hG.1
  obtain ⟨y0, y1, y2⟩ := HX.out W1 (Below.refl _ _)
  have hgn2 : (gn : Int) ≤ 1000 := by omega
  clear hb hbx hvl hG hL HG HL
  by_cases h64 : gn ≤ 64
  · have e64 : (gn : Int) ≤ 64 := by omega
    cases hq1 : gs.all mg with
    | false =>
      have HM : Hid (mayA mg ml gs st ls = false) := Lib.hid (by unfold mayA; rw [hq1]; simp)
      rw [hq1] at HA
      clear hq1
      go_enter Try.func25, Try.ntmps25
      go_wp2_with (go_at_call 46; (with_reducible refine (HA.out _ (Below.refl _ _)).mono ?_); rintro e w' ⟨rfl, hb'⟩; have HB' := Lib.hid hb'; clear hb')
      go_ret
      exact ⟨by rw [HM.out]; rfl, HBB.out.trans (HB'.out.mono HBB.out.size)⟩
    | true =>
      rw [hq1] at HA
      by_cases hst : 0 ≤ st ∧ st ≤ 16777216
      · have HS := Lib.hid (mayStack_any st)
        rw [show decide (0 ≤ st ∧ st ≤ 16777216) = true from by simp [hst]] at HS
        have HM : Hid (mayA mg ml gs st ls = ls.all ml) := Lib.hid (by unfold mayA; rw [hq1, HGL.out, show decide (0 ≤ st ∧ st ≤ 16777216) = true from by simp [hst]]; simp [h64])
        clear hq1 hst
        generalize ls.all ml = q at *
        go_enter Try.func25, Try.ntmps25
        go_wp2_with (first
          | (go_at_call 46; (with_reducible refine (HA.out _ (Below.refl _ _)).mono ?_); rintro e w1 ⟨rfl, hb'⟩; obtain ⟨z0, z1, z2⟩ := HX.out w1 hb'; have HB1 := Lib.hid hb'; clear hb')
          | (go_at_call 48; (with_reducible refine (HS.out _).mono ?_); rintro e w2 ⟨rfl, rfl⟩)
          | (go_at_call 49; (with_reducible refine (HB.out _ HB1.out).mono ?_); rintro e w3 ⟨rfl, hb'⟩; have HB3 := Lib.hid (HB1.out.trans (hb'.mono HB1.out.size)); clear hb'))
        go_ret
        exact ⟨by rw [HM.out]; rfl, HBB.out.trans (HB3.out.mono HBB.out.size)⟩
      · have HS := Lib.hid (mayStack_any st)
        rw [show decide (0 ≤ st ∧ st ≤ 16777216) = false from by simpa using hst] at HS
        have HM : Hid (mayA mg ml gs st ls = false) := Lib.hid (by unfold mayA; rw [show decide (0 ≤ st ∧ st ≤ 16777216) = false from by simpa using hst]; simp)
        clear hq1 hst
        go_enter Try.func25, Try.ntmps25
        go_wp2_with (first
          | (go_at_call 46; (with_reducible refine (HA.out _ (Below.refl _ _)).mono ?_); rintro e w1 ⟨rfl, hb'⟩; obtain ⟨z0, z1, z2⟩ := HX.out w1 hb'; have HB1 := Lib.hid hb'; clear hb')
          | (go_at_call 48; (with_reducible refine (HS.out _).mono ?_); rintro e w2 ⟨rfl, rfl⟩))
        go_ret
        exact ⟨by rw [HM.out]; rfl, HBB.out.trans (HB1.out.mono HBB.out.size)⟩
  · have e64 : ¬ (gn : Int) ≤ 64 := by omega
    have HM : Hid (mayA mg ml gs st ls = false) := Lib.hid (by unfold mayA; rw [HGL.out]; simp [h64])
    go_enter Try.func25, Try.ntmps25
    go_wp2_with fail
    go_ret
    exact ⟨by rw [HM.out]; rfl, by rw [← hv]; exact HBB.out⟩
end Rv
end Go.Proofs.Ytmedhibjkbahpaa
namespace Go.Proofs.Ytmedhibjkbahpaa
open Go.RowKit
set_option linter.unusedVariables false
set_option linter.unusedSimpArgs false
set_option maxRecDepth 100000
namespace Rv
/-- Symbols so far: how many instructions or words, the numbers, whether no two are the same, how many. -/
structure LS where
  cnt : Nat
  f : ByteArray → Option Int
  ok : Bool
  n : Nat
def LS.put (s : LS) (x : ByteArray) (z : Int) : LS := { s with f := putS s.f x z, ok := s.ok && !(s.f x).isSome, n := s.n + 1 }
def stepL (s : LS) (l : Ln) : LS := if l.k = 2 then { s with cnt := s.cnt + 1 } else s.put l.s (4 * (s.cnt : Int))
def Gl.words (g : Gl) : Nat := (max g.size 1).toNat
def stepG (s : LS) (g : Gl) : LS := { s.put g.name (65536 + 4 * (s.cnt : Int)) with cnt := s.cnt + g.words }
def layL (ls : List Ln) : LS := ls.foldl stepL ⟨0, fun _ => none, true, 0⟩
def layG (ls : List Ln) (gs : List Gl) : LS := gs.foldl stepG { layL ls with cnt := 0 }
theorem foldl_take {α β : Type} (g : β → α → β) (b : β) {l : List α} {k : Nat} {x : α} (h : l[k]? = some x) : (l.take (k + 1)).foldl g b = g ((l.take k).foldl g b) x := by
  rw [List.take_add_one, h]
  simp
theorem layL_n (s : LS) : ∀ ls : List Ln, (ls.foldl stepL s).n ≤ s.n + ls.length ∧ (ls.foldl stepL s).cnt ≤ s.cnt + ls.length
  | [] => ⟨Nat.le_refl _, Nat.le_refl _⟩
  | l :: ls => by
    have h := layL_n (stepL s l) ls
    have e : (stepL s l).n ≤ s.n + 1 ∧ (stepL s l).cnt ≤ s.cnt + 1 := by
      unfold stepL LS.put
      split <;> (constructor <;> simp)
    simp only [List.foldl_cons, List.length_cons]
    omega
theorem layG_n (s : LS) : ∀ gs : List Gl, (∀ g ∈ gs, g.size ≤ 4096) → (gs.foldl stepG s).n = s.n + gs.length ∧ (gs.foldl stepG s).cnt ≤ s.cnt + 4096 * gs.length
  | [], _ => ⟨rfl, Nat.le_refl _⟩
  | g :: gs, hz => by
    have h := layG_n (stepG s g) gs (fun x hx => hz x (List.mem_cons_of_mem _ hx))
    have hg := hz g (List.mem_cons_self ..)
    have e : (stepG s g).n = s.n + 1 ∧ (stepG s g).cnt ≤ s.cnt + 4096 := by
      unfold stepG LS.put Gl.words
      constructor
      · rfl
      · dsimp only; omega
    simp only [List.foldl_cons, List.length_cons]
    omega
theorem globalWords_any (nm : ByteArray) (z : Int) (w : World) : Calls Try.prog 52 #[.agg #[.string nm, .int .i64 z]] w fun e w' => e = .returned (.int .i64 ((Gl.mk nm z).words : Int)) ∧ Below w.heap.size w w' := by
  have H : Hid (((Gl.mk nm z).words : Int) = max z 1) := Lib.hid (by unfold Gl.words; dsimp only; omega)
  by_cases h : z < 1
  · have hm : max z 1 = 1 := by omega
    go_enter Try.func52, Try.ntmps52
    go_wp2
    go_ret
    exact ⟨by rw [H.out, hm]; rfl, (Below.refl _ _).alloc (Nat.le_refl _) _⟩
  · have hm : max z 1 = z := by omega
    go_enter Try.func52, Try.ntmps52
    go_wp2
    go_ret
    exact ⟨by rw [H.out, hm]; rfl, (Below.refl _ _).alloc (Nat.le_refl _) _⟩
/-- The image while it is laid: the world ahead, its block and map. -/
structure LayAt (w0 : World) (m M : Nat) (w : World) (words : Int) (n : Nat) (f : ByteArray → Option Int) : Prop where
  below : Below w0.heap.size w0 w
  mge : w0.heap.size ≤ m
  Mge : w0.heap.size ≤ M
  ne : m ≠ M
  im : ImAt w m none 0 0 M words
  sym : SymAt w M n f
theorem LayAt.grow {w0 : World} {m M : Nat} {w w' : World} {words : Int} {n : Nat} {f : ByteArray → Option Int} (h : LayAt w0 m M w words n f) (hb : Below w.heap.size w w') : LayAt w0 m M w' words n f :=
  ⟨h.below.trans (hb.mono h.below.size), h.mge, h.Mge, h.ne, (hb.block m (Array.getElem?_eq_some_iff.1 h.im).1).trans h.im, h.sym.same (hb.block M h.sym.lt)⟩
theorem LayAt.put {w0 : World} {m M : Nat} {w w' : World} {words : Int} {n : Nat} {f f' : ByteArray → Option Int} (h : LayAt w0 m M w words n f) (hS : SymAt w' M (n + 1) f') (hc : Chg [M] w w') : LayAt w0 m M w' words (n + 1) f' :=
  ⟨h.below.trans (hc.toBelow (fun k hk => by rw [List.mem_singleton] at hk; subst hk; exact h.Mge) h.below.size), h.mge, h.Mge, h.ne, (hc.same m (Array.getElem?_eq_some_iff.1 h.im).1 (by rw [List.mem_singleton]; exact h.ne)).trans h.im, hS⟩
theorem LayAt.setWords {w0 : World} {m M : Nat} {w : World} {words : Int} {n : Nat} {f : ByteArray → Option Int} (h : LayAt w0 m M w words n f) (z : Int) : LayAt w0 m M (w.setCell ⟨m, 2, none⟩ (.int .i64 z)) z n f := by
  have hc : Chg [m] w (w.setCell ⟨m, 2, none⟩ (.int .i64 z)) := (Chg.refl _ w).setCell m 2 _ (.inl (by simp))
  refine ⟨h.below.trans (hc.toBelow (fun k hk => by rw [List.mem_singleton] at hk; subst hk; exact h.mge) h.below.size), h.mge, h.Mge, h.ne, ?_, h.sym.same (setCell_off w m 2 _ M h.ne.symm)⟩
  have hi := h.im
  unfold ImAt at hi ⊢
  rw [heap_setCell_same w m 2 _ _ _ hi]
  rfl
theorem LayAt.drew {w0 : World} {m M : Nat} {w : World} {words : Int} {n : Nat} {f : ByteArray → Option Int} (h : LayAt w0 m M w words n f) : LayAt w0 m M w.drew words n f := ⟨h.below.drew, h.mge, h.Mge, h.ne, h.im, h.sym.drew⟩
set_option maxHeartbeats 12800000 in
theorem lay_any (w0 w : World) (m M : Nat) (h : LayAt w0 m M w 0 0 (fun _ => none)) (GA LA : Option Addr) (gn gc ln lc : Nat) (st : Int) (gs : List Gl) (ls : List Ln) (hG : GlsAt w0 GA gn gs) (hL : LnsAt w0 LA ln ls) (hgn : gn ≤ 64) (hln : ln ≤ 1000)
    (hls : ∀ l ∈ ls, l.s.size ≤ 1000000) (hgs : ∀ g ∈ gs, g.name.size ≤ 1000000 ∧ 0 ≤ g.size ∧ g.size ≤ 4096) (hst : 0 ≤ st ∧ st ≤ 16777216) :
    Calls Try.prog 26 #[.pointer (some ⟨m, 0, none⟩), .agg #[.slice GA gn gc, .int .i64 st, .slice LA ln lc]] w fun e w' =>
      e = .returned (.bool (layG ls gs).ok) ∧ LayAt w0 m M w' ((layG ls gs).cnt + (st + 3) / 4) (layG ls gs).n (layG ls gs).f := by
  obtain ⟨W1, hW1⟩ : ∃ W1, w.alloc (.cells #[.slice GA gn gc, .int .i64 st, .slice LA ln lc] 25) = W1 := ⟨_, rfl⟩
  obtain ⟨v, hv⟩ : ∃ v, w.heap.size = v := ⟨_, rfl⟩
  have hb1 : Below w.heap.size w W1 := by rw [← hW1]; exact (Below.refl _ _).alloc (Nat.le_refl _) _
  have hbx : W1.heap[v]? = some (.cells #[.slice GA gn gc, .int .i64 st, .slice LA ln lc] 25 (0, 0)) := by rw [← hW1, ← hv]; exact heap_alloc_new w _
  have hmlt : m < w.heap.size := (Array.getElem?_eq_some_iff.1 h.im).1
  have hMlt : M < w.heap.size := h.sym.lt
  have h1 := h.grow hb1
  have y2 : W1.cell? ⟨v, 2, none⟩ = some (.slice LA ln lc) := by rw [cell_of_row _ v 2 _ _ (0, 0) hbx]; rfl
  have HV : Hid (v ≠ m ∧ v ≠ M) := Lib.hid ⟨by omega, by omega⟩
  -- the box of the parameter stays
  have HX : Hid (W1.heap[v]? = some (.cells #[.slice GA gn gc, .int .i64 st, .slice LA ln lc] 25 (0, 0))) := Lib.hid hbx
  have H1 := Lib.hid h1
  have HL := Lib.hid hL
  have HG := Lib.hid hG
  have HLS := Lib.hid hls
  have HGS := Lib.hid hgs
  have HN := Lib.hid (And.intro hL.1 hG.1)
  obtain ⟨st1, st2⟩ := hst
  have hln2 : (ln : Int) ≤ 1000 := by omega
  have hgn2 : (gn : Int) ≤ 64 := by omega
  clear h hb1 hbx hmlt hMlt h1 hL hG hls hgs
  go_enter Try.func26, Try.ntmps26
  go_wp2_with fail
  clear y2 hW1 hv
  go_loopw [5, 6, 14] (fun v5 v6 v14 wr => ∃ k : Nat, k ≤ ln ∧ v14 = .int .i64 k ∧ v5 = .int .i64 (((ls.take k).foldl stepL ⟨0, fun _ => none, true, 0⟩).cnt : Int) ∧ v6 = .bool ((ls.take k).foldl stepL ⟨0, fun _ => none, true, 0⟩).ok ∧
    Hid (wr.heap[v]? = some (.cells #[.slice GA gn gc, .int .i64 st, .slice LA ln lc] 25 (0, 0)) ∧ LayAt w0 m M wr 0 ((ls.take k).foldl stepL ⟨0, fun _ => none, true, 0⟩).n ((ls.take k).foldl stepL ⟨0, fun _ => none, true, 0⟩).f)) (fun _ _ i _ => ln - (intOf i).toNat)
  case atStart => exact ⟨0, by omega, rfl, rfl, rfl, Lib.hid ⟨HX.out, H1.out⟩⟩
  case round =>
    clear H1
    obtain ⟨k, hk, rfl, rfl, rfl, HI⟩ := hrel
    rcases Nat.lt_or_ge k ln with hlt | hge
    · have hlt' : (k : Int) < (ln : Int) := by omega
      have hk0 : (0 : Int) ≤ (k : Int) := by omega
      obtain ⟨l, hl⟩ : ∃ l, ls[k]? = some l := ⟨_, List.getElem?_eq_getElem (by have := HN.out.1; omega)⟩
      obtain ⟨g, off, rfl, hg, hc⟩ := HL.out.2 (by omega)
      have hstep := foldl_take stepL ⟨0, fun _ => none, true, 0⟩ hl
      have hbound := layL_n ⟨0, fun _ => none, true, 0⟩ (ls.take k)
      have hsz := HLS.out l (List.mem_of_getElem? hl)
      obtain ⟨hbox, hlay⟩ := HI.out
      have hcell := fun j u hj => (hlay.below.cell (p := ⟨g, off + k * 7 + j, none⟩) hg).trans (hc k _ hl j u hj)
      obtain ⟨lk, lo, ld, la, lb, lnn, lsym⟩ := l
      dsimp only at hsz
      have d0 := hcell 0 _ rfl
      have d1 := hcell 1 _ rfl
      have d2 := hcell 2 _ rfl
      have d3 := hcell 3 _ rfl
      have d4 := hcell 4 _ rfl
      have d5 := hcell 5 _ rfl
      have d6 := hcell 6 _ rfl
      rw [Nat.add_zero] at d0
      generalize hs0 : (ls.take k).foldl stepL ⟨0, fun _ => none, true, 0⟩ = s0 at *
      have hcnt : (s0.cnt : Int) ≤ 1000 ∧ s0.n ≤ 1000 := by
        have := hbound
        rw [List.length_take] at this
        dsimp only at this
        omega
      have hc0 : (0 : Int) ≤ (s0.cnt : Int) := by omega
      obtain ⟨hcn, hnn⟩ := hcnt
      have HST := Lib.hid hstep
      obtain ⟨W4, hW4⟩ : ∃ W4, wr.alloc (.cells #[.int .i64 lk, .int .i64 lo, .int .i64 ld, .int .i64 la, .int .i64 lb, .int .i32 lnn, .string lsym] 39) = W4 := ⟨_, rfl⟩
      have hb4 : Below wr.heap.size wr W4 := by rw [← hW4]; exact (Below.refl _ _).alloc (Nat.le_refl _) _
      have hn4 : W4.heap[wr.heap.size]? = some (.cells #[.int .i64 lk, .int .i64 lo, .int .i64 ld, .int .i64 la, .int .i64 lb, .int .i32 lnn, .string lsym] 39 (0, 0)) := by rw [← hW4]; exact heap_alloc_new wr _
      have u0 : W4.cell? ⟨wr.heap.size, 0, none⟩ = some (.int .i64 lk) := by rw [cell_of_row _ _ 0 _ _ (0, 0) hn4]; rfl
      have u6 : W4.cell? ⟨wr.heap.size, 6, none⟩ = some (.string lsym) := by rw [cell_of_row _ _ 6 _ _ (0, 0) hn4]; rfl
      have hlay4 := hlay.grow hb4
      have hbox4 := (hb4.block v (Array.getElem?_eq_some_iff.1 hbox).1).trans hbox
      clear hc hg hl hcell hstep hbound hlay hbox hb4 hn4 hs0 HI
      by_cases h2 : lk = 2
      · have b2 : (lk == 2) = true := by simp [h2]
        have HNX : Hid (W4.heap[v]? = some (.cells #[.slice GA gn gc, .int .i64 st, .slice (some ⟨g, off, none⟩) ln lc] 25 (0, 0)) ∧ LayAt w0 m M W4 0 s0.n s0.f) := Lib.hid ⟨hbox4, hlay4⟩
        have HE : Hid (stepL s0 ⟨lk, lo, ld, la, lb, lnn, lsym⟩ = { s0 with cnt := s0.cnt + 1 }) := Lib.hid (by unfold stepL; rw [if_pos h2])
        clear hlay4 hbox4 h2 hsz
        go_wp2_with fail
        go_roundw
        case rel =>
          refine ⟨k + 1, by omega, by go_num, ?_, ?_, ?_⟩
          · rw [HST.out, HE.out]; go_num
          · rw [HST.out, HE.out]
          · rw [HST.out, HE.out]; exact HNX
        case measure => simp [intOf] <;> omega
      · have b2 : (lk == 2) = false := by simp [h2]
        have hP := put_any W4 m none 0 0 M s0.n 0 s0.f hlay4.im hlay4.sym lsym (by unfold maxLen; omega) ((s0.cnt : Int) * 4) (by omega) (by omega)
        have HE : Hid (stepL s0 ⟨lk, lo, ld, la, lb, lnn, lsym⟩ = s0.put lsym (4 * (s0.cnt : Int))) := Lib.hid (by unfold stepL; rw [if_neg h2])
        have HP := Lib.hid hP
        have HLY := Lib.hid (And.intro hbox4 hlay4)
        clear hlay4 hbox4 h2 hP hsz
        cases hso : (s0.f lsym).isSome with
        | true =>
          rw [hso] at HP
          have HSO := Lib.hid hso
          clear hso
          go_wp2_with (go_at_call 51; (with_reducible refine HP.out.mono ?_); rintro e w' ⟨rfl, hS', hc'⟩; have HQ := Lib.hid (And.intro hS' hc'); clear hS' hc')
          go_roundw
          case rel =>
            refine ⟨k + 1, by omega, by go_num, ?_, ?_, ?_⟩
            · rw [HST.out, HE.out]; rfl
            · rw [HST.out, HE.out]; show _ = Value.bool (s0.ok && !(s0.f lsym).isSome); rw [HSO.out]; simp
            · rw [HST.out, HE.out]
              refine Lib.hid ⟨(HQ.out.2.same v (Array.getElem?_eq_some_iff.1 HLY.out.1).1 (by rw [List.mem_singleton]; exact HV.out.2)).trans HLY.out.1, ?_⟩
              have := HLY.out.2.put HQ.out.1 HQ.out.2
              rw [Int.mul_comm] at this
              exact this
          case measure => simp [intOf] <;> omega
        | false =>
          rw [hso] at HP
          have HSO := Lib.hid hso
          clear hso
          go_wp2_with (go_at_call 51; (with_reducible refine HP.out.mono ?_); rintro e w' ⟨rfl, hS', hc'⟩; have HQ := Lib.hid (And.intro hS' hc'); clear hS' hc')
          go_roundw
          case rel =>
            refine ⟨k + 1, by omega, by go_num, ?_, ?_, ?_⟩
            · rw [HST.out, HE.out]; rfl
            · rw [HST.out, HE.out]; show _ = Value.bool (s0.ok && !(s0.f lsym).isSome); rw [HSO.out]; simp
            · rw [HST.out, HE.out]
              refine Lib.hid ⟨(HQ.out.2.same v (Array.getElem?_eq_some_iff.1 HLY.out.1).1 (by rw [List.mem_singleton]; exact HV.out.2)).trans HLY.out.1, ?_⟩
              have := HLY.out.2.put HQ.out.1 HQ.out.2
              rw [Int.mul_comm] at this
              exact this
          case measure => simp [intOf] <;> omega
    · obtain rfl : ln = k := by omega
      have HI2 : Hid (wr.heap[v]? = some (.cells #[.slice GA gn gc, .int .i64 st, .slice LA ln lc] 25 (0, 0)) ∧ LayAt w0 m M wr 0 (layL ls).n (layL ls).f) := Lib.hid (by
        have h := HI.out
        rw [List.take_of_length_le (by rw [HN.out.1]; exact Nat.le_refl _)] at h
        exact h)
      rw [List.take_of_length_le (by rw [HN.out.1]; exact Nat.le_refl _)]
      have y0 : wr.cell? ⟨v, 0, none⟩ = some (.slice GA gn gc) := by rw [cell_of_row _ v 0 _ _ (0, 0) HI2.out.1]; rfl
      clear HI
      generalize hokq : ((ls.foldl stepL ⟨0, fun _ => none, true, 0⟩).ok) = okq at *
      have HOKQ : Hid ((layL ls).ok = okq) := Lib.hid hokq
      generalize (ls.foldl stepL ⟨0, fun _ => none, true, 0⟩).cnt = cntq at *
      clear hokq
      have HLL : Hid (layG ls gs = gs.foldl stepG { layL ls with cnt := 0 }) := Lib.hid rfl
      obtain ⟨s1, hs1⟩ : ∃ s1 : LS, { layL ls with cnt := 0 } = s1 := ⟨_, rfl⟩
      rw [hs1] at HLL
      have hs1n : s1.n ≤ 1000 := by
        have := layL_n ⟨0, fun _ => none, true, 0⟩ ls
        rw [HN.out.1] at this
        rw [← hs1]
        show (layL ls).n ≤ 1000
        unfold layL
        dsimp only at this
        omega
      have HS1 : Hid (s1.cnt = 0 ∧ s1.ok = okq ∧ s1.n ≤ 1000 ∧ wr.heap[v]? = some (.cells #[.slice GA gn gc, .int .i64 st, .slice LA ln lc] 25 (0, 0)) ∧ LayAt w0 m M wr 0 s1.n s1.f) := Lib.hid ⟨by rw [← hs1], by rw [← HOKQ.out, ← hs1], hs1n, by rw [← hs1]; exact HI2.out⟩
      clear HI2 HOKQ hs1 hs1n
      go_wp2_with fail
      clear y0
      go_loopw [6, 34] (fun v6 v34 wr => ∃ k : Nat, k ≤ gn ∧ v34 = .int .i64 k ∧ v6 = .bool ((gs.take k).foldl stepG s1).ok ∧
        Hid (wr.heap[v]? = some (.cells #[.slice GA gn gc, .int .i64 st, .slice LA ln lc] 25 (0, 0)) ∧ LayAt w0 m M wr ((gs.take k).foldl stepG s1).cnt ((gs.take k).foldl stepG s1).n ((gs.take k).foldl stepG s1).f)) (fun _ i _ => gn - (intOf i).toNat)
      case atStart =>
        refine ⟨0, by omega, rfl, by show _ = Value.bool s1.ok; rw [HS1.out.2.1], Lib.hid ⟨HS1.out.2.2.2.1, ?_⟩⟩
        show LayAt w0 m M _ (s1.cnt : Int) s1.n s1.f
        rw [HS1.out.1]
        exact HS1.out.2.2.2.2
      case round =>
        obtain ⟨kg, hkg, rfl, rfl, HI⟩ := hrel
        have hn1 := HS1.out.2.2.1
        have hc1 := HS1.out.1
        rcases Nat.lt_or_ge kg gn with hlt | hge
        · have hlt' : (kg : Int) < (gn : Int) := by omega
          have hk0 : (0 : Int) ≤ (kg : Int) := by omega
          obtain ⟨l, hl⟩ : ∃ l, gs[kg]? = some l := ⟨_, List.getElem?_eq_getElem (by have := HN.out.2; omega)⟩
          obtain ⟨g, off, rfl, hg, hc⟩ := HG.out.2 (by omega)
          have hstep := foldl_take stepG s1 hl
          have hbound := layG_n s1 (gs.take kg) (fun x hx => (HGS.out x (List.mem_of_mem_take hx)).2.2)
          have hsz := HGS.out l (List.mem_of_getElem? hl)
          obtain ⟨hbox, hlay⟩ := HI.out
          have hcell := fun j u hj => (hlay.below.cell (p := ⟨g, off + kg * 2 + j, none⟩) hg).trans (hc kg _ hl j u hj)
          obtain ⟨nm, gz⟩ := l
          dsimp only at hsz
          obtain ⟨hz1, hz2, hz3⟩ := hsz
          have d0 := hcell 0 _ rfl
          have d1 := hcell 1 _ rfl
          rw [Nat.add_zero] at d0
          generalize hs0 : (gs.take kg).foldl stepG s1 = s0 at *
          have hcnt : (s0.cnt : Int) ≤ 300000 ∧ s0.n ≤ 2000 := by
            have := hbound
            rw [List.length_take] at this
            omega
          obtain ⟨hcn, hnn⟩ := hcnt
          have HST := Lib.hid hstep
          obtain ⟨cq, hcq⟩ : ∃ cq : Int, (s0.cnt : Int) = cq := ⟨_, rfl⟩
          have hc0 : (0 : Int) ≤ cq := by omega
          have hc3 : cq ≤ 300000 := by omega
          obtain ⟨W4, hW4⟩ : ∃ W4, wr.alloc (.cells #[.string nm, .int .i64 gz] 72) = W4 := ⟨_, rfl⟩
          obtain ⟨bx, hbx⟩ : ∃ bx, wr.heap.size = bx := ⟨_, rfl⟩
          have hb4 : Below wr.heap.size wr W4 := by rw [← hW4]; exact (Below.refl _ _).alloc (Nat.le_refl _) _
          have hn4 : W4.heap[bx]? = some (.cells #[.string nm, .int .i64 gz] 72 (0, 0)) := by rw [← hW4, ← hbx]; exact heap_alloc_new wr _
          have u0 : W4.cell? ⟨bx, 0, none⟩ = some (.string nm) := by rw [cell_of_row _ _ 0 _ _ (0, 0) hn4]; rfl
          have hlay4 := hlay.grow hb4
          have hbox4 := (hb4.block v (Array.getElem?_eq_some_iff.1 hbox).1).trans hbox
          have hbm : bx ≠ m ∧ bx ≠ M := by
            have h1 := (Array.getElem?_eq_some_iff.1 hlay.im).1
            have h2 := hlay.sym.lt
            omega
          rw [hcq] at hlay4
          obtain ⟨i0, i1, i2, i3⟩ := hlay4.im.cells
          have hwr1 : IntKind.i64.wrap (cq * 4) = cq * 4 := by rw [IntKind.wrap_i64]; omega
          have hwr2 : IntKind.i64.wrap (65536 + cq * 4) = 65536 + cq * 4 := by rw [IntKind.wrap_i64]; omega
          have HP := Lib.hid (put_any W4.drew m none 0 0 M s0.n cq s0.f hlay4.im hlay4.sym.drew nm (by unfold maxLen; omega) (65536 + cq * 4) (by omega) (by omega))
          have HGW := Lib.hid (globalWords_any nm gz)
          have HLY := Lib.hid (And.intro hbox4 (And.intro hlay4 (And.intro hn4 hbm)))
          have HCQ := Lib.hid hcq
          obtain ⟨gw, hgw⟩ : ∃ gw : Nat, (Gl.mk nm gz).words = gw := ⟨_, rfl⟩
          have hgw1 : (gw : Int) ≤ 4096 := by rw [← hgw]; unfold Gl.words; dsimp only; omega
          have hgw0 : (0 : Int) ≤ (gw : Int) := by omega
          have hwr3 : IntKind.i64.wrap (cq + gw) = cq + gw := by rw [IntKind.wrap_i64]; omega
          rw [hgw] at HGW
          have HGWE := Lib.hid hgw
          clear hc hg hl hcell hstep hbound hlay hbox hb4 hn4 hs0 HI hlay4 hbox4 hcn hnn hcq hbm i0 i1 i3 hgw hn1 hc1
          have HS0 : Hid (W4.drew.cell? ⟨bx, 0, none⟩ = some (.string nm) ∧ W4.drew.cell? ⟨m, 2, none⟩ = some (.int .i64 cq)) := Lib.hid ⟨u0, i2⟩
          cases hso : (s0.f nm).isSome with
          | true =>
            rw [hso] at HP
            have HSO := Lib.hid hso
            clear hso
            go_upto_region 13 with fail
            refine wp_region_held_drew (S := fun V => V.cell? ⟨bx, 0, none⟩ = some (.string nm) ∧ V.cell? ⟨m, 2, none⟩ = some (.int .i64 cq)) (by kernel_rfl) HS0.out (fun _ => ?_)
            refine takeH 0 38 (v := (.pointer (some ⟨m, 0, none⟩))) rfl rfl (by kernel_rfl) (by kernel_rfl) (by kernel_rfl) (fun _ _ _ h => h) (by rfl) ?_ HS0.out ?_
            · intro w hSw
              obtain ⟨y0, y2⟩ := hSw
              go_simp
            try simp only [Act.put, List.setIfInBounds_toArray, List.set_cons_zero, List.set_cons_succ]
            refine takeH 1 39 (v := (.pointer (some ⟨bx, 0, none⟩))) rfl rfl (by kernel_rfl) (by kernel_rfl) (by kernel_rfl) (fun _ _ _ h => h) (by rfl) ?_ HS0.out ?_
            · intro w hSw
              obtain ⟨y0, y2⟩ := hSw
              go_simp
            try simp only [Act.put, List.setIfInBounds_toArray, List.set_cons_zero, List.set_cons_succ]
            refine takeH 2 40 (v := (.string nm)) rfl rfl (by kernel_rfl) (by kernel_rfl) (by kernel_rfl) (fun _ _ _ h => h) (by rfl) ?_ HS0.out ?_
            · intro w hSw
              obtain ⟨y0, y2⟩ := hSw
              go_simp
            try simp only [Act.put, List.setIfInBounds_toArray, List.set_cons_zero, List.set_cons_succ]
            refine takeH 3 41 (v := (.pointer (some ⟨m, 0, none⟩))) rfl rfl (by kernel_rfl) (by kernel_rfl) (by kernel_rfl) (fun _ _ _ h => h) (by rfl) ?_ HS0.out ?_
            · intro w hSw
              obtain ⟨y0, y2⟩ := hSw
              go_simp
            try simp only [Act.put, List.setIfInBounds_toArray, List.set_cons_zero, List.set_cons_succ]
            refine takeH 4 42 (v := (.pointer (some ⟨m, 0, none⟩))) rfl rfl (by kernel_rfl) (by kernel_rfl) (by kernel_rfl) (fun _ _ _ h => h) (by rfl) ?_ HS0.out ?_
            · intro w hSw
              obtain ⟨y0, y2⟩ := hSw
              go_simp
            try simp only [Act.put, List.setIfInBounds_toArray, List.set_cons_zero, List.set_cons_succ]
            refine takeH 5 43 (v := (.pointer (some ⟨m, 2, none⟩))) rfl rfl (by kernel_rfl) (by kernel_rfl) (by kernel_rfl) (fun _ _ _ h => h) (by rfl) ?_ HS0.out ?_
            · intro w hSw
              obtain ⟨y0, y2⟩ := hSw
              go_simp
            try simp only [Act.put, List.setIfInBounds_toArray, List.set_cons_zero, List.set_cons_succ]
            refine takeH 6 44 (v := (.int .i64 cq)) rfl rfl (by kernel_rfl) (by kernel_rfl) (by kernel_rfl) (fun _ _ _ h => h) (by rfl) ?_ HS0.out ?_
            · intro w hSw
              obtain ⟨y0, y2⟩ := hSw
              go_simp
            try simp only [Act.put, List.setIfInBounds_toArray, List.set_cons_zero, List.set_cons_succ]
            refine takeH 7 45 (v := (.int .i64 (cq * 4))) rfl rfl (by kernel_rfl) (by kernel_rfl) (by kernel_rfl) (fun _ _ _ h => h) (by rfl) ?_ HS0.out ?_
            · intro w hSw
              obtain ⟨y0, y2⟩ := hSw
              go_simp
            try simp only [Act.put, List.setIfInBounds_toArray, List.set_cons_zero, List.set_cons_succ]
            refine takeH 8 46 (v := (.int .i64 (65536 + cq * 4))) rfl rfl (by kernel_rfl) (by kernel_rfl) (by kernel_rfl) (fun _ _ _ h => h) (by rfl) ?_ HS0.out ?_
            · intro w hSw
              obtain ⟨y0, y2⟩ := hSw
              go_simp
            try simp only [Act.put, List.setIfInBounds_toArray, List.set_cons_zero, List.set_cons_succ]
            refine wpAnyH_ready (rs := [9]) (by kernel_rfl) (by simp) ?_
            refine AllReadyH.cons rfl (fun K hK => ?_) AllReadyH.nil
            go_simp
            go_at_call 51
            (with_reducible refine (HP.out).mono ?_)
            rintro en w5 ⟨rfl, hS5, hc5⟩
            have HS5 : Hid (w5.cell? ⟨bx, 0, none⟩ = some (.string nm) ∧ w5.cell? ⟨m, 2, none⟩ = some (.int .i64 cq)) := Lib.hid ⟨Chg.readR hc5 bx 0 (by rw [List.mem_singleton]; exact HLY.out.2.2.2.2) HS0.out.1, Chg.readR hc5 m 2 (by rw [List.mem_singleton]; exact HLY.out.2.1.ne) HS0.out.2⟩
            have HQ := Lib.hid (And.intro hS5 hc5)
            clear hS5 hc5
            refine hK.out _ _ HS5.out (fun _ => ?_)
            clear hK K
            try simp only [Act.put, List.setIfInBounds_toArray, List.set_cons_zero, List.set_cons_succ]
            refine takeH 10 48 (v := (.bool true)) rfl rfl (by kernel_rfl) (by kernel_rfl) (by kernel_rfl) (fun _ _ _ h => h) (by rfl) ?_ HS5.out ?_
            · intro w hSw
              obtain ⟨y0, y2⟩ := hSw
              go_simp
            try simp only [Act.put, List.setIfInBounds_toArray, List.set_cons_zero, List.set_cons_succ]
            refine wpAnyH_done (by kernel_rfl) ?_ _
            have hl5 := HLY.out.2.1.drew.put HQ.out.1 HQ.out.2
            have hb5 : w5.heap[v]? = some (.cells #[.slice (some ⟨g, off, none⟩) gn gc, .int .i64 st, .slice LA ln lc] 25 (0, 0)) := (HQ.out.2.same v (Array.getElem?_eq_some_iff.1 HLY.out.1).1 (by rw [List.mem_singleton]; exact HV.out.2)).trans HLY.out.1
            have hx5 : w5.heap[bx]? = some (.cells #[.string nm, .int .i64 gz] 72 (0, 0)) := (HQ.out.2.same bx (Array.getElem?_eq_some_iff.1 HLY.out.2.2.1).1 (by rw [List.mem_singleton]; exact HLY.out.2.2.2.2)).trans HLY.out.2.2.1
            have HL5 := Lib.hid (And.intro hl5 (And.intro hb5 hx5))
            have q0 : w5.drew.cell? ⟨bx, 0, none⟩ = some (.string nm) := by rw [cell_of_row _ bx 0 _ _ (0, 0) (show w5.drew.heap[bx]? = _ from hx5)]; rfl
            have q1 : w5.drew.cell? ⟨bx, 1, none⟩ = some (.int .i64 gz) := by rw [cell_of_row _ bx 1 _ _ (0, 0) (show w5.drew.heap[bx]? = _ from hx5)]; rfl
            have q2 : w5.drew.cell? ⟨m, 2, none⟩ = some (.int .i64 cq) := HS5.out.2
            clear hl5 hb5 hx5
            go_upto_region 15 with fail
            refine wp_region_held_drew (S := fun V => True) (by kernel_rfl) trivial (fun _ => ?_)
            refine takeH 0 49 (v := (.pointer (some ⟨m, 0, none⟩))) rfl rfl (by kernel_rfl) (by kernel_rfl) (by kernel_rfl) (fun _ _ _ h => h) (by rfl) ?_ trivial ?_
            · intro w hSw
              go_simp
            try simp only [Act.put, List.setIfInBounds_toArray, List.set_cons_zero, List.set_cons_succ]
            refine takeH 1 50 (v := (.pointer (some ⟨m, 0, none⟩))) rfl rfl (by kernel_rfl) (by kernel_rfl) (by kernel_rfl) (fun _ _ _ h => h) (by rfl) ?_ trivial ?_
            · intro w hSw
              go_simp
            try simp only [Act.put, List.setIfInBounds_toArray, List.set_cons_zero, List.set_cons_succ]
            refine takeH 2 51 (v := (.pointer (some ⟨m, 2, none⟩))) rfl rfl (by kernel_rfl) (by kernel_rfl) (by kernel_rfl) (fun _ _ _ h => h) (by rfl) ?_ trivial ?_
            · intro w hSw
              go_simp
            try simp only [Act.put, List.setIfInBounds_toArray, List.set_cons_zero, List.set_cons_succ]
            refine wpAnyH_ready (rs := [3, 4]) (by kernel_rfl) (by simp) ?_
            refine AllReadyH.cons rfl (fun K hK => ?_) (AllReadyH.cons rfl (fun K hK => ?_) AllReadyH.nil)
            · go_simp
              refine hK.out _ _ trivial (fun _ => ?_)
              clear hK K
              try simp only [Act.put, List.setIfInBounds_toArray, List.set_cons_zero, List.set_cons_succ]
              refine wpAnyH_ready (rs := [4]) (by kernel_rfl) (by simp) ?_
              refine AllReadyH.cons rfl (fun K hK => ?_) AllReadyH.nil
              go_simp
              refine hK.out _ _ trivial (fun _ => ?_)
              clear hK K
              try simp only [Act.put, List.setIfInBounds_toArray, List.set_cons_zero, List.set_cons_succ]
              refine wpAnyH_ready (rs := [5]) (by kernel_rfl) (by simp) ?_
              refine AllReadyH.cons rfl (fun K hK => ?_) AllReadyH.nil
              go_simp
              go_at_call 52
              (with_reducible refine (HGW.out _).mono ?_)
              rintro en w6 ⟨rfl, hb6⟩
              have hl6 := HL5.out.1.drew.grow hb6
              have r2 : w6.cell? ⟨m, 2, none⟩ = some (.int .i64 cq) := hl6.im.cells.2.2.1
              have f2 := hl6.im.cells.2.2.2 2
              have HL6 : Hid (LayAt w0 m M (w6.setCell ⟨m, 2, none⟩ (.int .i64 (cq + (gw : Int)))) (cq + (gw : Int)) (s0.n + 1) (putS s0.f nm (65536 + cq * 4)) ∧ (w6.setCell ⟨m, 2, none⟩ (.int .i64 (cq + (gw : Int)))).heap[v]? = some (.cells #[.slice (some ⟨g, off, none⟩) gn gc, .int .i64 st, .slice LA ln lc] 25 (0, 0))) := Lib.hid ⟨hl6.setWords _, (setCell_off _ _ _ _ _ HV.out.1).trans ((hb6.block v (Array.getElem?_eq_some_iff.1 HL5.out.2.1).1).trans HL5.out.2.1)⟩
              clear hl6 hb6
              refine hK.out _ _ trivial (fun _ => ?_)
              clear hK K
              try simp only [Act.put, List.setIfInBounds_toArray, List.set_cons_zero, List.set_cons_succ]
              refine takeH 6 55 (v := (.int .i64 (cq + (gw : Int)))) rfl rfl (by kernel_rfl) (by kernel_rfl) (by kernel_rfl) (fun _ _ _ h => h) (by rfl) ?_ trivial ?_
              · intro w hSw
                go_simp
              try simp only [Act.put, List.setIfInBounds_toArray, List.set_cons_zero, List.set_cons_succ]
              refine takeH 7 56 (v := (.pointer (some ⟨m, 0, none⟩))) rfl rfl (by kernel_rfl) (by kernel_rfl) (by kernel_rfl) (fun _ _ _ h => h) (by rfl) ?_ trivial ?_
              · intro w hSw
                go_simp
              try simp only [Act.put, List.setIfInBounds_toArray, List.set_cons_zero, List.set_cons_succ]
              refine takeH 8 57 (v := (.pointer (some ⟨m, 2, none⟩))) rfl rfl (by kernel_rfl) (by kernel_rfl) (by kernel_rfl) (fun _ _ _ h => h) (by rfl) ?_ trivial ?_
              · intro w hSw
                go_simp
              try simp only [Act.put, List.setIfInBounds_toArray, List.set_cons_zero, List.set_cons_succ]
              refine wpAnyH_ready (rs := [9]) (by kernel_rfl) (by simp) ?_
              refine AllReadyH.cons rfl (fun K hK => ?_) AllReadyH.nil
              go_simp
              refine hK.out _ _ trivial (fun _ => ?_)
              clear hK K
              try simp only [Act.put, List.setIfInBounds_toArray, List.set_cons_zero, List.set_cons_succ]
              refine wpAnyH_done (by kernel_rfl) ?_ _
              go_wp2_with fail
              go_roundw
              case rel =>
                refine ⟨kg + 1, by omega, by go_num, ?_, ?_⟩
                · rw [HST.out]; show _ = Value.bool (s0.ok && !(s0.f nm).isSome); rw [HSO.out]; simp
                · rw [HST.out]; refine Lib.hid ⟨HL6.out.2, ?_⟩
                  have h := HL6.out.1
                  have e1 : ((stepG s0 ⟨nm, gz⟩).cnt : Int) = cq + (gw : Int) := by show ((s0.cnt + (Gl.mk nm gz).words : Nat) : Int) = _; rw [HGWE.out, ← HCQ.out]; omega
                  rw [e1]
                  have e2 : (stepG s0 ⟨nm, gz⟩).f = putS s0.f nm (65536 + cq * 4) := by show putS s0.f nm (65536 + 4 * (s0.cnt : Int)) = _; rw [HCQ.out, Int.mul_comm]
                  rw [e2]
                  exact h
              case measure => simp [intOf] <;> omega
            · go_simp
              refine hK.out _ _ trivial (fun _ => ?_)
              clear hK K
              try simp only [Act.put, List.setIfInBounds_toArray, List.set_cons_zero, List.set_cons_succ]
              refine wpAnyH_ready (rs := [3, 5]) (by kernel_rfl) (by simp) ?_
              refine AllReadyH.cons rfl (fun K hK => ?_) (AllReadyH.cons rfl (fun K hK => ?_) AllReadyH.nil)
              · go_simp
                refine hK.out _ _ trivial (fun _ => ?_)
                clear hK K
                try simp only [Act.put, List.setIfInBounds_toArray, List.set_cons_zero, List.set_cons_succ]
                refine wpAnyH_ready (rs := [5]) (by kernel_rfl) (by simp) ?_
                refine AllReadyH.cons rfl (fun K hK => ?_) AllReadyH.nil
                go_simp
                go_at_call 52
                (with_reducible refine (HGW.out _).mono ?_)
                rintro en w6 ⟨rfl, hb6⟩
                have hl6 := HL5.out.1.drew.grow hb6
                have r2 : w6.cell? ⟨m, 2, none⟩ = some (.int .i64 cq) := hl6.im.cells.2.2.1
                have f2 := hl6.im.cells.2.2.2 2
                have HL6 : Hid (LayAt w0 m M (w6.setCell ⟨m, 2, none⟩ (.int .i64 (cq + (gw : Int)))) (cq + (gw : Int)) (s0.n + 1) (putS s0.f nm (65536 + cq * 4)) ∧ (w6.setCell ⟨m, 2, none⟩ (.int .i64 (cq + (gw : Int)))).heap[v]? = some (.cells #[.slice (some ⟨g, off, none⟩) gn gc, .int .i64 st, .slice LA ln lc] 25 (0, 0))) := Lib.hid ⟨hl6.setWords _, (setCell_off _ _ _ _ _ HV.out.1).trans ((hb6.block v (Array.getElem?_eq_some_iff.1 HL5.out.2.1).1).trans HL5.out.2.1)⟩
                clear hl6 hb6
                refine hK.out _ _ trivial (fun _ => ?_)
                clear hK K
                try simp only [Act.put, List.setIfInBounds_toArray, List.set_cons_zero, List.set_cons_succ]
                refine takeH 6 55 (v := (.int .i64 (cq + (gw : Int)))) rfl rfl (by kernel_rfl) (by kernel_rfl) (by kernel_rfl) (fun _ _ _ h => h) (by rfl) ?_ trivial ?_
                · intro w hSw
                  go_simp
                try simp only [Act.put, List.setIfInBounds_toArray, List.set_cons_zero, List.set_cons_succ]
                refine takeH 7 56 (v := (.pointer (some ⟨m, 0, none⟩))) rfl rfl (by kernel_rfl) (by kernel_rfl) (by kernel_rfl) (fun _ _ _ h => h) (by rfl) ?_ trivial ?_
                · intro w hSw
                  go_simp
                try simp only [Act.put, List.setIfInBounds_toArray, List.set_cons_zero, List.set_cons_succ]
                refine takeH 8 57 (v := (.pointer (some ⟨m, 2, none⟩))) rfl rfl (by kernel_rfl) (by kernel_rfl) (by kernel_rfl) (fun _ _ _ h => h) (by rfl) ?_ trivial ?_
                · intro w hSw
                  go_simp
                try simp only [Act.put, List.setIfInBounds_toArray, List.set_cons_zero, List.set_cons_succ]
                refine wpAnyH_ready (rs := [9]) (by kernel_rfl) (by simp) ?_
                refine AllReadyH.cons rfl (fun K hK => ?_) AllReadyH.nil
                go_simp
                refine hK.out _ _ trivial (fun _ => ?_)
                clear hK K
                try simp only [Act.put, List.setIfInBounds_toArray, List.set_cons_zero, List.set_cons_succ]
                refine wpAnyH_done (by kernel_rfl) ?_ _
                go_wp2_with fail
                go_roundw
                case rel =>
                  refine ⟨kg + 1, by omega, by go_num, ?_, ?_⟩
                  · rw [HST.out]; show _ = Value.bool (s0.ok && !(s0.f nm).isSome); rw [HSO.out]; simp
                  · rw [HST.out]; refine Lib.hid ⟨HL6.out.2, ?_⟩
                    have h := HL6.out.1
                    have e1 : ((stepG s0 ⟨nm, gz⟩).cnt : Int) = cq + (gw : Int) := by show ((s0.cnt + (Gl.mk nm gz).words : Nat) : Int) = _; rw [HGWE.out, ← HCQ.out]; omega
                    rw [e1]
                    have e2 : (stepG s0 ⟨nm, gz⟩).f = putS s0.f nm (65536 + cq * 4) := by show putS s0.f nm (65536 + 4 * (s0.cnt : Int)) = _; rw [HCQ.out, Int.mul_comm]
                    rw [e2]
                    exact h
                case measure => simp [intOf] <;> omega
              · go_simp
                go_at_call 52
                (with_reducible refine (HGW.out _).mono ?_)
                rintro en w6 ⟨rfl, hb6⟩
                have hl6 := HL5.out.1.drew.grow hb6
                have r2 : w6.cell? ⟨m, 2, none⟩ = some (.int .i64 cq) := hl6.im.cells.2.2.1
                have f2 := hl6.im.cells.2.2.2 2
                have HL6 : Hid (LayAt w0 m M (w6.setCell ⟨m, 2, none⟩ (.int .i64 (cq + (gw : Int)))) (cq + (gw : Int)) (s0.n + 1) (putS s0.f nm (65536 + cq * 4)) ∧ (w6.setCell ⟨m, 2, none⟩ (.int .i64 (cq + (gw : Int)))).heap[v]? = some (.cells #[.slice (some ⟨g, off, none⟩) gn gc, .int .i64 st, .slice LA ln lc] 25 (0, 0))) := Lib.hid ⟨hl6.setWords _, (setCell_off _ _ _ _ _ HV.out.1).trans ((hb6.block v (Array.getElem?_eq_some_iff.1 HL5.out.2.1).1).trans HL5.out.2.1)⟩
                clear hl6 hb6
                refine hK.out _ _ trivial (fun _ => ?_)
                clear hK K
                try simp only [Act.put, List.setIfInBounds_toArray, List.set_cons_zero, List.set_cons_succ]
                refine wpAnyH_ready (rs := [3]) (by kernel_rfl) (by simp) ?_
                refine AllReadyH.cons rfl (fun K hK => ?_) AllReadyH.nil
                go_simp
                refine hK.out _ _ trivial (fun _ => ?_)
                clear hK K
                try simp only [Act.put, List.setIfInBounds_toArray, List.set_cons_zero, List.set_cons_succ]
                refine takeH 6 55 (v := (.int .i64 (cq + (gw : Int)))) rfl rfl (by kernel_rfl) (by kernel_rfl) (by kernel_rfl) (fun _ _ _ h => h) (by rfl) ?_ trivial ?_
                · intro w hSw
                  go_simp
                try simp only [Act.put, List.setIfInBounds_toArray, List.set_cons_zero, List.set_cons_succ]
                refine takeH 7 56 (v := (.pointer (some ⟨m, 0, none⟩))) rfl rfl (by kernel_rfl) (by kernel_rfl) (by kernel_rfl) (fun _ _ _ h => h) (by rfl) ?_ trivial ?_
                · intro w hSw
                  go_simp
                try simp only [Act.put, List.setIfInBounds_toArray, List.set_cons_zero, List.set_cons_succ]
                refine takeH 8 57 (v := (.pointer (some ⟨m, 2, none⟩))) rfl rfl (by kernel_rfl) (by kernel_rfl) (by kernel_rfl) (fun _ _ _ h => h) (by rfl) ?_ trivial ?_
                · intro w hSw
                  go_simp
                try simp only [Act.put, List.setIfInBounds_toArray, List.set_cons_zero, List.set_cons_succ]
                refine wpAnyH_ready (rs := [9]) (by kernel_rfl) (by simp) ?_
                refine AllReadyH.cons rfl (fun K hK => ?_) AllReadyH.nil
                go_simp
                refine hK.out _ _ trivial (fun _ => ?_)
                clear hK K
                try simp only [Act.put, List.setIfInBounds_toArray, List.set_cons_zero, List.set_cons_succ]
                refine wpAnyH_done (by kernel_rfl) ?_ _
                go_wp2_with fail
                go_roundw
                case rel =>
                  refine ⟨kg + 1, by omega, by go_num, ?_, ?_⟩
                  · rw [HST.out]; show _ = Value.bool (s0.ok && !(s0.f nm).isSome); rw [HSO.out]; simp
                  · rw [HST.out]; refine Lib.hid ⟨HL6.out.2, ?_⟩
                    have h := HL6.out.1
                    have e1 : ((stepG s0 ⟨nm, gz⟩).cnt : Int) = cq + (gw : Int) := by show ((s0.cnt + (Gl.mk nm gz).words : Nat) : Int) = _; rw [HGWE.out, ← HCQ.out]; omega
                    rw [e1]
                    have e2 : (stepG s0 ⟨nm, gz⟩).f = putS s0.f nm (65536 + cq * 4) := by show putS s0.f nm (65536 + 4 * (s0.cnt : Int)) = _; rw [HCQ.out, Int.mul_comm]
                    rw [e2]
                    exact h
                case measure => simp [intOf] <;> omega
          | false =>
            rw [hso] at HP
            have HSO := Lib.hid hso
            clear hso
            go_upto_region 13 with fail
            refine wp_region_held_drew (S := fun V => V.cell? ⟨bx, 0, none⟩ = some (.string nm) ∧ V.cell? ⟨m, 2, none⟩ = some (.int .i64 cq)) (by kernel_rfl) HS0.out (fun _ => ?_)
            refine takeH 0 38 (v := (.pointer (some ⟨m, 0, none⟩))) rfl rfl (by kernel_rfl) (by kernel_rfl) (by kernel_rfl) (fun _ _ _ h => h) (by rfl) ?_ HS0.out ?_
            · intro w hSw
              obtain ⟨y0, y2⟩ := hSw
              go_simp
            try simp only [Act.put, List.setIfInBounds_toArray, List.set_cons_zero, List.set_cons_succ]
            refine takeH 1 39 (v := (.pointer (some ⟨bx, 0, none⟩))) rfl rfl (by kernel_rfl) (by kernel_rfl) (by kernel_rfl) (fun _ _ _ h => h) (by rfl) ?_ HS0.out ?_
            · intro w hSw
              obtain ⟨y0, y2⟩ := hSw
              go_simp
            try simp only [Act.put, List.setIfInBounds_toArray, List.set_cons_zero, List.set_cons_succ]
            refine takeH 2 40 (v := (.string nm)) rfl rfl (by kernel_rfl) (by kernel_rfl) (by kernel_rfl) (fun _ _ _ h => h) (by rfl) ?_ HS0.out ?_
            · intro w hSw
              obtain ⟨y0, y2⟩ := hSw
              go_simp
            try simp only [Act.put, List.setIfInBounds_toArray, List.set_cons_zero, List.set_cons_succ]
            refine takeH 3 41 (v := (.pointer (some ⟨m, 0, none⟩))) rfl rfl (by kernel_rfl) (by kernel_rfl) (by kernel_rfl) (fun _ _ _ h => h) (by rfl) ?_ HS0.out ?_
            · intro w hSw
              obtain ⟨y0, y2⟩ := hSw
              go_simp
            try simp only [Act.put, List.setIfInBounds_toArray, List.set_cons_zero, List.set_cons_succ]
            refine takeH 4 42 (v := (.pointer (some ⟨m, 0, none⟩))) rfl rfl (by kernel_rfl) (by kernel_rfl) (by kernel_rfl) (fun _ _ _ h => h) (by rfl) ?_ HS0.out ?_
            · intro w hSw
              obtain ⟨y0, y2⟩ := hSw
              go_simp
            try simp only [Act.put, List.setIfInBounds_toArray, List.set_cons_zero, List.set_cons_succ]
            refine takeH 5 43 (v := (.pointer (some ⟨m, 2, none⟩))) rfl rfl (by kernel_rfl) (by kernel_rfl) (by kernel_rfl) (fun _ _ _ h => h) (by rfl) ?_ HS0.out ?_
            · intro w hSw
              obtain ⟨y0, y2⟩ := hSw
              go_simp
            try simp only [Act.put, List.setIfInBounds_toArray, List.set_cons_zero, List.set_cons_succ]
            refine takeH 6 44 (v := (.int .i64 cq)) rfl rfl (by kernel_rfl) (by kernel_rfl) (by kernel_rfl) (fun _ _ _ h => h) (by rfl) ?_ HS0.out ?_
            · intro w hSw
              obtain ⟨y0, y2⟩ := hSw
              go_simp
            try simp only [Act.put, List.setIfInBounds_toArray, List.set_cons_zero, List.set_cons_succ]
            refine takeH 7 45 (v := (.int .i64 (cq * 4))) rfl rfl (by kernel_rfl) (by kernel_rfl) (by kernel_rfl) (fun _ _ _ h => h) (by rfl) ?_ HS0.out ?_
            · intro w hSw
              obtain ⟨y0, y2⟩ := hSw
              go_simp
            try simp only [Act.put, List.setIfInBounds_toArray, List.set_cons_zero, List.set_cons_succ]
            refine takeH 8 46 (v := (.int .i64 (65536 + cq * 4))) rfl rfl (by kernel_rfl) (by kernel_rfl) (by kernel_rfl) (fun _ _ _ h => h) (by rfl) ?_ HS0.out ?_
            · intro w hSw
              obtain ⟨y0, y2⟩ := hSw
              go_simp
            try simp only [Act.put, List.setIfInBounds_toArray, List.set_cons_zero, List.set_cons_succ]
            refine wpAnyH_ready (rs := [9]) (by kernel_rfl) (by simp) ?_
            refine AllReadyH.cons rfl (fun K hK => ?_) AllReadyH.nil
            go_simp
            go_at_call 51
            (with_reducible refine (HP.out).mono ?_)
            rintro en w5 ⟨rfl, hS5, hc5⟩
            have HS5 : Hid (w5.cell? ⟨bx, 0, none⟩ = some (.string nm) ∧ w5.cell? ⟨m, 2, none⟩ = some (.int .i64 cq)) := Lib.hid ⟨Chg.readR hc5 bx 0 (by rw [List.mem_singleton]; exact HLY.out.2.2.2.2) HS0.out.1, Chg.readR hc5 m 2 (by rw [List.mem_singleton]; exact HLY.out.2.1.ne) HS0.out.2⟩
            have HQ := Lib.hid (And.intro hS5 hc5)
            clear hS5 hc5
            refine hK.out _ _ HS5.out (fun _ => ?_)
            clear hK K
            try simp only [Act.put, List.setIfInBounds_toArray, List.set_cons_zero, List.set_cons_succ]
            refine takeH 10 48 (v := (.bool false)) rfl rfl (by kernel_rfl) (by kernel_rfl) (by kernel_rfl) (fun _ _ _ h => h) (by rfl) ?_ HS5.out ?_
            · intro w hSw
              obtain ⟨y0, y2⟩ := hSw
              go_simp
            try simp only [Act.put, List.setIfInBounds_toArray, List.set_cons_zero, List.set_cons_succ]
            refine wpAnyH_done (by kernel_rfl) ?_ _
            have hl5 := HLY.out.2.1.drew.put HQ.out.1 HQ.out.2
            have hb5 : w5.heap[v]? = some (.cells #[.slice (some ⟨g, off, none⟩) gn gc, .int .i64 st, .slice LA ln lc] 25 (0, 0)) := (HQ.out.2.same v (Array.getElem?_eq_some_iff.1 HLY.out.1).1 (by rw [List.mem_singleton]; exact HV.out.2)).trans HLY.out.1
            have hx5 : w5.heap[bx]? = some (.cells #[.string nm, .int .i64 gz] 72 (0, 0)) := (HQ.out.2.same bx (Array.getElem?_eq_some_iff.1 HLY.out.2.2.1).1 (by rw [List.mem_singleton]; exact HLY.out.2.2.2.2)).trans HLY.out.2.2.1
            have HL5 := Lib.hid (And.intro hl5 (And.intro hb5 hx5))
            have q0 : w5.drew.cell? ⟨bx, 0, none⟩ = some (.string nm) := by rw [cell_of_row _ bx 0 _ _ (0, 0) (show w5.drew.heap[bx]? = _ from hx5)]; rfl
            have q1 : w5.drew.cell? ⟨bx, 1, none⟩ = some (.int .i64 gz) := by rw [cell_of_row _ bx 1 _ _ (0, 0) (show w5.drew.heap[bx]? = _ from hx5)]; rfl
            have q2 : w5.drew.cell? ⟨m, 2, none⟩ = some (.int .i64 cq) := HS5.out.2
            clear hl5 hb5 hx5
            go_upto_region 15 with fail
            refine wp_region_held_drew (S := fun V => True) (by kernel_rfl) trivial (fun _ => ?_)
            refine takeH 0 49 (v := (.pointer (some ⟨m, 0, none⟩))) rfl rfl (by kernel_rfl) (by kernel_rfl) (by kernel_rfl) (fun _ _ _ h => h) (by rfl) ?_ trivial ?_
            · intro w hSw
              go_simp
            try simp only [Act.put, List.setIfInBounds_toArray, List.set_cons_zero, List.set_cons_succ]
            refine takeH 1 50 (v := (.pointer (some ⟨m, 0, none⟩))) rfl rfl (by kernel_rfl) (by kernel_rfl) (by kernel_rfl) (fun _ _ _ h => h) (by rfl) ?_ trivial ?_
            · intro w hSw
              go_simp
            try simp only [Act.put, List.setIfInBounds_toArray, List.set_cons_zero, List.set_cons_succ]
            refine takeH 2 51 (v := (.pointer (some ⟨m, 2, none⟩))) rfl rfl (by kernel_rfl) (by kernel_rfl) (by kernel_rfl) (fun _ _ _ h => h) (by rfl) ?_ trivial ?_
            · intro w hSw
              go_simp
            try simp only [Act.put, List.setIfInBounds_toArray, List.set_cons_zero, List.set_cons_succ]
            refine wpAnyH_ready (rs := [3, 4]) (by kernel_rfl) (by simp) ?_
            refine AllReadyH.cons rfl (fun K hK => ?_) (AllReadyH.cons rfl (fun K hK => ?_) AllReadyH.nil)
            · go_simp
              refine hK.out _ _ trivial (fun _ => ?_)
              clear hK K
              try simp only [Act.put, List.setIfInBounds_toArray, List.set_cons_zero, List.set_cons_succ]
              refine wpAnyH_ready (rs := [4]) (by kernel_rfl) (by simp) ?_
              refine AllReadyH.cons rfl (fun K hK => ?_) AllReadyH.nil
              go_simp
              refine hK.out _ _ trivial (fun _ => ?_)
              clear hK K
              try simp only [Act.put, List.setIfInBounds_toArray, List.set_cons_zero, List.set_cons_succ]
              refine wpAnyH_ready (rs := [5]) (by kernel_rfl) (by simp) ?_
              refine AllReadyH.cons rfl (fun K hK => ?_) AllReadyH.nil
              go_simp
              go_at_call 52
              (with_reducible refine (HGW.out _).mono ?_)
              rintro en w6 ⟨rfl, hb6⟩
              have hl6 := HL5.out.1.drew.grow hb6
              have r2 : w6.cell? ⟨m, 2, none⟩ = some (.int .i64 cq) := hl6.im.cells.2.2.1
              have f2 := hl6.im.cells.2.2.2 2
              have HL6 : Hid (LayAt w0 m M (w6.setCell ⟨m, 2, none⟩ (.int .i64 (cq + (gw : Int)))) (cq + (gw : Int)) (s0.n + 1) (putS s0.f nm (65536 + cq * 4)) ∧ (w6.setCell ⟨m, 2, none⟩ (.int .i64 (cq + (gw : Int)))).heap[v]? = some (.cells #[.slice (some ⟨g, off, none⟩) gn gc, .int .i64 st, .slice LA ln lc] 25 (0, 0))) := Lib.hid ⟨hl6.setWords _, (setCell_off _ _ _ _ _ HV.out.1).trans ((hb6.block v (Array.getElem?_eq_some_iff.1 HL5.out.2.1).1).trans HL5.out.2.1)⟩
              clear hl6 hb6
              refine hK.out _ _ trivial (fun _ => ?_)
              clear hK K
              try simp only [Act.put, List.setIfInBounds_toArray, List.set_cons_zero, List.set_cons_succ]
              refine takeH 6 55 (v := (.int .i64 (cq + (gw : Int)))) rfl rfl (by kernel_rfl) (by kernel_rfl) (by kernel_rfl) (fun _ _ _ h => h) (by rfl) ?_ trivial ?_
              · intro w hSw
                go_simp
              try simp only [Act.put, List.setIfInBounds_toArray, List.set_cons_zero, List.set_cons_succ]
              refine takeH 7 56 (v := (.pointer (some ⟨m, 0, none⟩))) rfl rfl (by kernel_rfl) (by kernel_rfl) (by kernel_rfl) (fun _ _ _ h => h) (by rfl) ?_ trivial ?_
              · intro w hSw
                go_simp
              try simp only [Act.put, List.setIfInBounds_toArray, List.set_cons_zero, List.set_cons_succ]
              refine takeH 8 57 (v := (.pointer (some ⟨m, 2, none⟩))) rfl rfl (by kernel_rfl) (by kernel_rfl) (by kernel_rfl) (fun _ _ _ h => h) (by rfl) ?_ trivial ?_
              · intro w hSw
                go_simp
              try simp only [Act.put, List.setIfInBounds_toArray, List.set_cons_zero, List.set_cons_succ]
              refine wpAnyH_ready (rs := [9]) (by kernel_rfl) (by simp) ?_
              refine AllReadyH.cons rfl (fun K hK => ?_) AllReadyH.nil
              go_simp
              refine hK.out _ _ trivial (fun _ => ?_)
              clear hK K
              try simp only [Act.put, List.setIfInBounds_toArray, List.set_cons_zero, List.set_cons_succ]
              refine wpAnyH_done (by kernel_rfl) ?_ _
              go_wp2_with fail
              go_roundw
              case rel =>
                refine ⟨kg + 1, by omega, by go_num, ?_, ?_⟩
                · rw [HST.out]; show _ = Value.bool (s0.ok && !(s0.f nm).isSome); rw [HSO.out]; simp
                · rw [HST.out]; refine Lib.hid ⟨HL6.out.2, ?_⟩
                  have h := HL6.out.1
                  have e1 : ((stepG s0 ⟨nm, gz⟩).cnt : Int) = cq + (gw : Int) := by show ((s0.cnt + (Gl.mk nm gz).words : Nat) : Int) = _; rw [HGWE.out, ← HCQ.out]; omega
                  rw [e1]
                  have e2 : (stepG s0 ⟨nm, gz⟩).f = putS s0.f nm (65536 + cq * 4) := by show putS s0.f nm (65536 + 4 * (s0.cnt : Int)) = _; rw [HCQ.out, Int.mul_comm]
                  rw [e2]
                  exact h
              case measure => simp [intOf] <;> omega
            · go_simp
              refine hK.out _ _ trivial (fun _ => ?_)
              clear hK K
              try simp only [Act.put, List.setIfInBounds_toArray, List.set_cons_zero, List.set_cons_succ]
              refine wpAnyH_ready (rs := [3, 5]) (by kernel_rfl) (by simp) ?_
              refine AllReadyH.cons rfl (fun K hK => ?_) (AllReadyH.cons rfl (fun K hK => ?_) AllReadyH.nil)
              · go_simp
                refine hK.out _ _ trivial (fun _ => ?_)
                clear hK K
                try simp only [Act.put, List.setIfInBounds_toArray, List.set_cons_zero, List.set_cons_succ]
                refine wpAnyH_ready (rs := [5]) (by kernel_rfl) (by simp) ?_
                refine AllReadyH.cons rfl (fun K hK => ?_) AllReadyH.nil
                go_simp
                go_at_call 52
                (with_reducible refine (HGW.out _).mono ?_)
                rintro en w6 ⟨rfl, hb6⟩
                have hl6 := HL5.out.1.drew.grow hb6
                have r2 : w6.cell? ⟨m, 2, none⟩ = some (.int .i64 cq) := hl6.im.cells.2.2.1
                have f2 := hl6.im.cells.2.2.2 2
                have HL6 : Hid (LayAt w0 m M (w6.setCell ⟨m, 2, none⟩ (.int .i64 (cq + (gw : Int)))) (cq + (gw : Int)) (s0.n + 1) (putS s0.f nm (65536 + cq * 4)) ∧ (w6.setCell ⟨m, 2, none⟩ (.int .i64 (cq + (gw : Int)))).heap[v]? = some (.cells #[.slice (some ⟨g, off, none⟩) gn gc, .int .i64 st, .slice LA ln lc] 25 (0, 0))) := Lib.hid ⟨hl6.setWords _, (setCell_off _ _ _ _ _ HV.out.1).trans ((hb6.block v (Array.getElem?_eq_some_iff.1 HL5.out.2.1).1).trans HL5.out.2.1)⟩
                clear hl6 hb6
                refine hK.out _ _ trivial (fun _ => ?_)
                clear hK K
                try simp only [Act.put, List.setIfInBounds_toArray, List.set_cons_zero, List.set_cons_succ]
                refine takeH 6 55 (v := (.int .i64 (cq + (gw : Int)))) rfl rfl (by kernel_rfl) (by kernel_rfl) (by kernel_rfl) (fun _ _ _ h => h) (by rfl) ?_ trivial ?_
                · intro w hSw
                  go_simp
                try simp only [Act.put, List.setIfInBounds_toArray, List.set_cons_zero, List.set_cons_succ]
                refine takeH 7 56 (v := (.pointer (some ⟨m, 0, none⟩))) rfl rfl (by kernel_rfl) (by kernel_rfl) (by kernel_rfl) (fun _ _ _ h => h) (by rfl) ?_ trivial ?_
                · intro w hSw
                  go_simp
                try simp only [Act.put, List.setIfInBounds_toArray, List.set_cons_zero, List.set_cons_succ]
                refine takeH 8 57 (v := (.pointer (some ⟨m, 2, none⟩))) rfl rfl (by kernel_rfl) (by kernel_rfl) (by kernel_rfl) (fun _ _ _ h => h) (by rfl) ?_ trivial ?_
                · intro w hSw
                  go_simp
                try simp only [Act.put, List.setIfInBounds_toArray, List.set_cons_zero, List.set_cons_succ]
                refine wpAnyH_ready (rs := [9]) (by kernel_rfl) (by simp) ?_
                refine AllReadyH.cons rfl (fun K hK => ?_) AllReadyH.nil
                go_simp
                refine hK.out _ _ trivial (fun _ => ?_)
                clear hK K
                try simp only [Act.put, List.setIfInBounds_toArray, List.set_cons_zero, List.set_cons_succ]
                refine wpAnyH_done (by kernel_rfl) ?_ _
                go_wp2_with fail
                go_roundw
                case rel =>
                  refine ⟨kg + 1, by omega, by go_num, ?_, ?_⟩
                  · rw [HST.out]; show _ = Value.bool (s0.ok && !(s0.f nm).isSome); rw [HSO.out]; simp
                  · rw [HST.out]; refine Lib.hid ⟨HL6.out.2, ?_⟩
                    have h := HL6.out.1
                    have e1 : ((stepG s0 ⟨nm, gz⟩).cnt : Int) = cq + (gw : Int) := by show ((s0.cnt + (Gl.mk nm gz).words : Nat) : Int) = _; rw [HGWE.out, ← HCQ.out]; omega
                    rw [e1]
                    have e2 : (stepG s0 ⟨nm, gz⟩).f = putS s0.f nm (65536 + cq * 4) := by show putS s0.f nm (65536 + 4 * (s0.cnt : Int)) = _; rw [HCQ.out, Int.mul_comm]
                    rw [e2]
                    exact h
                case measure => simp [intOf] <;> omega
              · go_simp
                go_at_call 52
                (with_reducible refine (HGW.out _).mono ?_)
                rintro en w6 ⟨rfl, hb6⟩
                have hl6 := HL5.out.1.drew.grow hb6
                have r2 : w6.cell? ⟨m, 2, none⟩ = some (.int .i64 cq) := hl6.im.cells.2.2.1
                have f2 := hl6.im.cells.2.2.2 2
                have HL6 : Hid (LayAt w0 m M (w6.setCell ⟨m, 2, none⟩ (.int .i64 (cq + (gw : Int)))) (cq + (gw : Int)) (s0.n + 1) (putS s0.f nm (65536 + cq * 4)) ∧ (w6.setCell ⟨m, 2, none⟩ (.int .i64 (cq + (gw : Int)))).heap[v]? = some (.cells #[.slice (some ⟨g, off, none⟩) gn gc, .int .i64 st, .slice LA ln lc] 25 (0, 0))) := Lib.hid ⟨hl6.setWords _, (setCell_off _ _ _ _ _ HV.out.1).trans ((hb6.block v (Array.getElem?_eq_some_iff.1 HL5.out.2.1).1).trans HL5.out.2.1)⟩
                clear hl6 hb6
                refine hK.out _ _ trivial (fun _ => ?_)
                clear hK K
                try simp only [Act.put, List.setIfInBounds_toArray, List.set_cons_zero, List.set_cons_succ]
                refine wpAnyH_ready (rs := [3]) (by kernel_rfl) (by simp) ?_
                refine AllReadyH.cons rfl (fun K hK => ?_) AllReadyH.nil
                go_simp
                refine hK.out _ _ trivial (fun _ => ?_)
                clear hK K
                try simp only [Act.put, List.setIfInBounds_toArray, List.set_cons_zero, List.set_cons_succ]
                refine takeH 6 55 (v := (.int .i64 (cq + (gw : Int)))) rfl rfl (by kernel_rfl) (by kernel_rfl) (by kernel_rfl) (fun _ _ _ h => h) (by rfl) ?_ trivial ?_
                · intro w hSw
                  go_simp
                try simp only [Act.put, List.setIfInBounds_toArray, List.set_cons_zero, List.set_cons_succ]
                refine takeH 7 56 (v := (.pointer (some ⟨m, 0, none⟩))) rfl rfl (by kernel_rfl) (by kernel_rfl) (by kernel_rfl) (fun _ _ _ h => h) (by rfl) ?_ trivial ?_
                · intro w hSw
                  go_simp
                try simp only [Act.put, List.setIfInBounds_toArray, List.set_cons_zero, List.set_cons_succ]
                refine takeH 8 57 (v := (.pointer (some ⟨m, 2, none⟩))) rfl rfl (by kernel_rfl) (by kernel_rfl) (by kernel_rfl) (fun _ _ _ h => h) (by rfl) ?_ trivial ?_
                · intro w hSw
                  go_simp
                try simp only [Act.put, List.setIfInBounds_toArray, List.set_cons_zero, List.set_cons_succ]
                refine wpAnyH_ready (rs := [9]) (by kernel_rfl) (by simp) ?_
                refine AllReadyH.cons rfl (fun K hK => ?_) AllReadyH.nil
                go_simp
                refine hK.out _ _ trivial (fun _ => ?_)
                clear hK K
                try simp only [Act.put, List.setIfInBounds_toArray, List.set_cons_zero, List.set_cons_succ]
                refine wpAnyH_done (by kernel_rfl) ?_ _
                go_wp2_with fail
                go_roundw
                case rel =>
                  refine ⟨kg + 1, by omega, by go_num, ?_, ?_⟩
                  · rw [HST.out]; show _ = Value.bool (s0.ok && !(s0.f nm).isSome); rw [HSO.out]; simp
                  · rw [HST.out]; refine Lib.hid ⟨HL6.out.2, ?_⟩
                    have h := HL6.out.1
                    have e1 : ((stepG s0 ⟨nm, gz⟩).cnt : Int) = cq + (gw : Int) := by show ((s0.cnt + (Gl.mk nm gz).words : Nat) : Int) = _; rw [HGWE.out, ← HCQ.out]; omega
                    rw [e1]
                    have e2 : (stepG s0 ⟨nm, gz⟩).f = putS s0.f nm (65536 + cq * 4) := by show putS s0.f nm (65536 + 4 * (s0.cnt : Int)) = _; rw [HCQ.out, Int.mul_comm]
                    rw [e2]
                    exact h
                case measure => simp [intOf] <;> omega
        · obtain rfl : gn = kg := by omega
          have HF : Hid (wr.heap[v]? = some (.cells #[.slice GA gn gc, .int .i64 st, .slice LA ln lc] 25 (0, 0)) ∧ LayAt w0 m M wr (layG ls gs).cnt (layG ls gs).n (layG ls gs).f) := Lib.hid (by
            have h := HI.out
            rw [List.take_of_length_le (by rw [HN.out.2]; exact Nat.le_refl _), ← HLL.out] at h
            exact h)
          rw [List.take_of_length_le (by rw [HN.out.2]; exact Nat.le_refl _), ← HLL.out]
          have hcb : ((layG ls gs).cnt : Int) ≤ 300000 := by
            have := layG_n s1 gs (fun x hx => (HGS.out x hx).2.2)
            rw [HLL.out]
            have := HN.out.2
            omega
          have hcb0 : (0 : Int) ≤ ((layG ls gs).cnt : Int) := by omega
          obtain ⟨i0, i1, i2, i3⟩ := HF.out.2.im.cells
          have f2 := i3 2
          have v1 : wr.cell? ⟨v, 1, none⟩ = some (.int .i64 st) := by rw [cell_of_row _ v 1 _ _ (0, 0) HF.out.1]; rfl
          have HFIN := Lib.hid (HF.out.2.setWords (((layG ls gs).cnt : Int) + (st + 3) / 4)).drew
          clear HI i0 i1 i3 HF hn1 hc1
          generalize hcqe : ((layG ls gs).cnt : Int) = cq at *
          generalize hoke : (layG ls gs).ok = okf at *
          have HCE := Lib.hid (And.intro hcqe hoke)
          clear hcqe hoke
          have hw1 : IntKind.i64.wrap (st + 4) = st + 4 := by rw [IntKind.wrap_i64]; omega
          have hw2 : IntKind.i64.wrap (st + 4 - 1) = st + 3 := by rw [IntKind.wrap_i64]; omega
          have hw3 : (st + 3).tdiv 4 = (st + 3) / 4 := Int.tdiv_eq_ediv_of_nonneg (by omega)
          have hw5 : st + 4 - 1 = st + 3 := by omega
          obtain ⟨sw, hsw⟩ : ∃ sw, (st + 3) / 4 = sw := ⟨_, rfl⟩
          have hsw0 : 0 ≤ sw ∧ sw ≤ 5000000 := by omega
          obtain ⟨hsw1, hsw2⟩ := hsw0
          rw [hsw] at hw3 HFIN
          have HSW := Lib.hid hsw
          have hw4 : IntKind.i64.wrap (cq + sw) = cq + sw := by rw [IntKind.wrap_i64]; omega
          have hw6 : IntKind.i64.wrap sw = sw := by rw [IntKind.wrap_i64]; omega
          clear hsw
          go_wp2_with fail
          go_still_tail 12, (by kernel_rfl)
          change wpList _ _ _ _ _ (World.drew _)
          go_wp2_with fail
          go_ret
          exact ⟨by rw [HCE.out.2]; rfl, by rw [HCE.out.1, HSW.out, hw3]; exact HFIN.out⟩
end Rv
end Go.Proofs.Ytmedhibjkbahpaa
