/-
  (*Image).knows, (*Image).number, riscv.dataWords.
-/
import Derived.Test.YtadgemcpahfkoaaRxk
import Derived.Test.YtadgemcpahfkoaaRxh
namespace Go.Proofs.Ytadgemcpahfkoaa
open Go.RowKit
set_option linter.unusedVariables false
set_option linter.unusedSimpArgs false
set_option maxRecDepth 100000
namespace Rv
/-- The two parts of a word, as word.Split reckons them. -/
def splitLo (n : Int) : Int := wrap32 (n * 1048576) / 1048576
def splitHi (n : Int) : Int := wrap32 (n - splitLo n) % 4294967296 / 4096
theorem split_any (n : Int) (w : World) :
    Calls Try.prog 76 #[.int .i32 n] w fun e w' => e = .returned (.tuple #[.int .i32 (splitHi n), .int .i32 (splitLo n)]) ∧ w = w' := by
  go_enter Try.func76, Try.ntmps76
  go_wp2
  go_ret2
  exact ⟨rfl, rfl⟩
/-- No text. -/
def noS (s : ByteArray) : Bool := s.data.toList.isEmpty
theorem noS_true {s : ByteArray} (h : noS s = true) : s = ⟨#[]⟩ := by
  apply ba_ext
  simpa [noS] using h
def knowsB (f : ByteArray → Option Int) (ls : List Ln) : Bool := ls.all fun l => noS l.s || (f l.s).isSome
theorem LayAt.drewN {w0 : World} {m M : Nat} {w : World} {words : Int} {n : Nat} {f : ByteArray → Option Int} (h : LayAt w0 m M w words n f) (j : Nat) : LayAt w0 m M (w.drewN j) words n f :=
  ⟨⟨h.below.os, h.below.tape, h.below.output, h.below.size, h.below.block⟩, h.mge, h.Mge, h.ne, h.im, h.sym.same rfl⟩
set_option maxHeartbeats 6400000 in
theorem knows_any (w0 w : World) (m M : Nat) (words : Int) (n : Nat) (f : ByteArray → Option Int) (h : LayAt w0 m M w words n f) (LA : Option Addr) (ln lc : Nat) (ls : List Ln) (hL : LnsAt w0 LA ln ls) (hln : ln ≤ 1000) (hls : ∀ l ∈ ls, l.s.size ≤ 1000000) :
    Calls Try.prog 27 #[.pointer (some ⟨m, 0, none⟩), .slice LA ln lc] w fun e w' => e = .returned (.bool (knowsB f ls)) ∧ LayAt w0 m M w' words n f := by
  have H1 := Lib.hid h
  have HL := Lib.hid hL
  have HLS := Lib.hid hls
  have HN := Lib.hid hL.1
  have hln2 : (ln : Int) ≤ 1000 := by omega
  clear h hL hls
  go_enter Try.func27, Try.ntmps27
  go_wp2_with fail
  go_loopw [11] (fun i wr => ∃ k : Nat, k ≤ ln ∧ i = .int .i64 k ∧ Hid (LayAt w0 m M wr words n f ∧ ∀ j l, j < k → ls[j]? = some l → (noS l.s || (f l.s).isSome) = true)) (fun i _ => ln - (intOf i).toNat)
  case atStart => exact ⟨0, by omega, rfl, Lib.hid ⟨H1.out, fun j l hj => by omega⟩⟩
  case round =>
    clear H1
    obtain ⟨k, hk, rfl, HI⟩ := hrel
    rcases Nat.lt_or_ge k ln with hlt | hge
    · have hlt' : (k : Int) < (ln : Int) := by omega
      have hk0 : (0 : Int) ≤ (k : Int) := by omega
      obtain ⟨l, hl⟩ : ∃ l, ls[k]? = some l := ⟨_, List.getElem?_eq_getElem (by have := HN.out; omega)⟩
      obtain ⟨g, off, rfl, hg, hc⟩ := HL.out.2 (by omega)
      have hsz := HLS.out l (List.mem_of_getElem? hl)
      obtain ⟨hlay, hall⟩ := HI.out
      have hcell := fun j u hj => (hlay.below.cell (p := ⟨g, off + k * 7 + j, none⟩) hg).trans (hc k _ hl j u hj)
      obtain ⟨lk, lo, ld, la, lb, lnn, lsym⟩ := l
      dsimp only at hsz
      have d0 := hcell 0 _ rfl
      have d1 := hcell 1 _ rfl
      have d2 := hcell 2 _ rfl
      have d3 := hcell 3 _ rfl
      have d4 := hcell 4 _ rfl
      have d5 := hcell 5 _ rfl
      have d6 := hcell 6 _ rfl
      rw [Nat.add_zero] at d0
      obtain ⟨bx, hbx⟩ : ∃ bx, wr.heap.size = bx := ⟨_, rfl⟩
      obtain ⟨W4, hW4⟩ : ∃ W4, wr.alloc (.cells #[.int .i64 lk, .int .i64 lo, .int .i64 ld, .int .i64 la, .int .i64 lb, .int .i32 lnn, .string lsym] 39) = W4 := ⟨_, rfl⟩
      have hb4 : Below wr.heap.size wr W4 := by rw [← hW4]; exact (Below.refl _ _).alloc (Nat.le_refl _) _
      have hn4 : W4.heap[bx]? = some (.cells #[.int .i64 lk, .int .i64 lo, .int .i64 ld, .int .i64 la, .int .i64 lb, .int .i32 lnn, .string lsym] 39 (0, 0)) := by rw [← hW4, ← hbx]; exact heap_alloc_new wr _
      have u6 : W4.cell? ⟨bx, 6, none⟩ = some (.string lsym) := by rw [cell_of_row _ _ 6 _ _ (0, 0) hn4]; rfl
      have hlay4 := hlay.grow hb4
      obtain ⟨i0, i1, i2, i3⟩ := hlay4.im.cells
      have hlk : ∀ j, (Instr.lookup 66 (.map (some M)) (.string lsym) true).run Try.prog (W4.drewN j) = .ok (.tuple #[.int .i32 ((f lsym).getD 0), .bool (f lsym).isSome]) (W4.drewN j) := fun j => (hlay4.drewN j).sym.look lsym (by unfold maxLen; omega)
      have HLAY := Lib.hid (fun j => hlay4.drewN j)
      have HALL := Lib.hid hall
      have HLL := Lib.hid hl
      clear hc hg hl hcell hlay hb4 hn4 HI hlay4 hall i0 i2 i3 hsz
      generalize (f lsym).getD 0 = vv at *
      have HQ : Hid ((noS lsym || (f lsym).isSome) = (noS lsym || (f lsym).isSome)) := Lib.hid rfl
      cases hne : noS lsym with
      | true =>
        have hs0 := noS_true hne
        have e1 : lsym.toList.isEmpty = true := by rw [ba_toList]; exact hne
        have e2 : lsym.toList = [] := by rw [ba_toList]; simpa [noS] using hne
        have HNX : Hid (noS lsym = true) := Lib.hid hne
        generalize (f lsym).isSome = q at *
        clear hs0 hne
        go_wp2_with fail
        go_quiet (fail)
        go_wp2_with fail
        go_roundw
        case rel => exact ⟨k + 1, by omega, by go_num, Lib.hid ⟨HLAY.out _, fun j l hj hjl => by
          rcases Nat.lt_or_ge j k with q | q
          · exact HALL.out j l q hjl
          · obtain rfl : j = k := by omega
            rw [HLL.out] at hjl
            cases hjl
            dsimp only
            rw [HNX.out]
            rfl⟩⟩
        case measure => simp [intOf] <;> omega
      | false =>
        have e1 : lsym.toList.isEmpty = false := by rw [ba_toList]; exact hne
        have e2 : ¬ lsym.toList = [] := by rw [ba_toList]; simpa [noS] using hne
        cases hso : (f lsym).isSome with
        | true =>
          have HNX : Hid ((noS lsym || (f lsym).isSome) = true) := Lib.hid (by rw [hso]; simp)
          rw [hso] at hlk
          clear hne hso
          go_wp2_with fail
          go_quiet (fail)
          go_wp2_with fail
          go_roundw
          case rel => exact ⟨k + 1, by omega, by go_num, Lib.hid ⟨HLAY.out _, fun j l hj hjl => by
            rcases Nat.lt_or_ge j k with q | q
            · exact HALL.out j l q hjl
            · obtain rfl : j = k := by omega
              rw [HLL.out] at hjl
              cases hjl
              exact HNX.out⟩⟩
          case measure => simp [intOf] <;> omega
        | false =>
          have HNX : Hid (knowsB f ls = false) := Lib.hid (all_no HLL.out (by dsimp only; rw [hne, hso]; rfl))
          rw [hso] at hlk
          clear hne hso
          go_wp2_with fail
          go_quiet (fail)
          go_wp2_with fail
          go_ret
          exact ⟨by rw [HNX.out]; rfl, HLAY.out _⟩
    · obtain rfl : ln = k := by omega
      have HA : Hid (knowsB f ls = true) := Lib.hid (all_yes fun j l hj => HI.out.2 j l (by have := HN.out; have := (List.getElem?_eq_some_iff.1 hj).1; omega) hj)
      have HF := Lib.hid HI.out.1
      clear HI
      go_wp2_with fail
      go_ret
      exact ⟨by rw [HA.out]; rfl, HF.out⟩
/-- What stands for a line's symbol, so many instructions ahead of it. -/
def numI (f : ByteArray → Option Int) (l : Ln) (c : Nat) : Int :=
  if l.op = 1 then splitHi ((f l.s).getD 0) else if l.op = 2 then splitLo ((f l.s).getD 0) else wrap32 ((f l.s).getD 0 - (c : Int) * 4)
set_option maxHeartbeats 3200000 in
theorem number_any (w : World) (m M : Nat) (A : Option Addr) (n c k : Nat) (words : Int) (f : ByteArray → Option Int) (hI : ImAt w m A n c M words) (hS : SymAt w M k f) (hn : n ≤ 1000) (lk lo ld la lb lnn : Int) (lsym : ByteArray) (hx : lsym.size ≤ 1000000) :
    Calls Try.prog 53 #[.pointer (some ⟨m, 0, none⟩), .agg #[.int .i64 lk, .int .i64 lo, .int .i64 ld, .int .i64 la, .int .i64 lb, .int .i32 lnn, .string lsym]] w fun e w' =>
      e = .returned (.int .i32 (numI f ⟨lk, lo, ld, la, lb, lnn, lsym⟩ n)) ∧ Below w.heap.size w w' := by
  obtain ⟨bx, hbx⟩ : ∃ bx, w.heap.size = bx := ⟨_, rfl⟩
  obtain ⟨W4, hW4⟩ : ∃ W4, w.alloc (.cells #[.int .i64 lk, .int .i64 lo, .int .i64 ld, .int .i64 la, .int .i64 lb, .int .i32 lnn, .string lsym] 39) = W4 := ⟨_, rfl⟩
  have hb4 : Below w.heap.size w W4 := by rw [← hW4]; exact (Below.refl _ _).alloc (Nat.le_refl _) _
  have hn4 : W4.heap[bx]? = some (.cells #[.int .i64 lk, .int .i64 lo, .int .i64 ld, .int .i64 la, .int .i64 lb, .int .i32 lnn, .string lsym] 39 (0, 0)) := by rw [← hW4, ← hbx]; exact heap_alloc_new w _
  have u6 : W4.cell? ⟨bx, 6, none⟩ = some (.string lsym) := by rw [cell_of_row _ _ 6 _ _ (0, 0) hn4]; rfl
  have u1 : ∀ j, (W4.drewN j).cell? ⟨bx, 1, none⟩ = some (.int .i64 lo) := fun j => by rw [cell_of_row _ _ 1 _ _ (0, 0) (show (W4.drewN j).heap[bx]? = _ from hn4)]; rfl
  have hi4 : ImAt W4 m A n c M words := (hb4.block m (Array.getElem?_eq_some_iff.1 hI).1).trans hI
  have hs4 : SymAt W4 M k f := hS.same (hb4.block M hS.lt)
  obtain ⟨i0, i1, i2, i3⟩ := hi4.cells
  have i0' : ∀ j, (W4.drewN j).cell? ⟨m, 0, none⟩ = some (.slice A n c) := fun j => i0
  have hlk : ∀ j, (Instr.lookup 66 (.map (some M)) (.string lsym) false).run Try.prog (W4.drewN j) = .ok (.int .i32 ((f lsym).getD 0)) (W4.drewN j) := fun j => (hs4.same (w' := W4.drewN j) rfl).get lsym (by unfold maxLen; omega)
  have HB : Hid (∀ j, Below w.heap.size w (W4.drewN j)) := Lib.hid (fun j => ⟨hb4.os, hb4.tape, hb4.output, hb4.size, hb4.block⟩)
  have hN : numI f ⟨lk, lo, ld, la, lb, lnn, lsym⟩ n = if lo = 1 then splitHi ((f lsym).getD 0) else if lo = 2 then splitLo ((f lsym).getD 0) else wrap32 ((f lsym).getD 0 - (n : Int) * 4) := rfl
  rw [hN]
  generalize (f lsym).getD 0 = z at *
  have hn2 : (n : Int) ≤ 1000 := by omega
  have hn0 : (0 : Int) ≤ (n : Int) := by omega
  have hw1 : wrap32 ((n : Int) * 4) = (n : Int) * 4 := IntWalk.wrap32_in _ (by omega)
  clear hb4 hn4 hI hS hi4 hs4 hN i0 i2 i3 hx
  by_cases h1 : lo = 1
  · have b1 : (lo == 1) = true := by simp [h1]
    have HE := Lib.hid h1
    rw [if_pos h1]
    clear h1
    go_enter Try.func53, Try.ntmps53
    go_wp2_with fail
    go_quiet (fail)
    go_wp2_with (go_at_call 76; (with_reducible refine (split_any _ _).mono ?_); rintro e w' ⟨rfl, rfl⟩)
    go_ret
    exact ⟨rfl, HB.out _⟩
  · have b1 : (lo == 1) = false := by simp [h1]
    rw [if_neg h1]
    clear h1
    by_cases h2 : lo = 2
    · have b2 : (lo == 2) = true := by simp [h2]
      rw [if_pos h2]
      clear h2
      go_enter Try.func53, Try.ntmps53
      go_wp2_with fail
      go_quiet (fail)
      go_wp2_with (go_at_call 76; (with_reducible refine (split_any _ _).mono ?_); rintro e w' ⟨rfl, rfl⟩)
      go_ret
      exact ⟨rfl, HB.out _⟩
    · have b2 : (lo == 2) = false := by simp [h2]
      rw [if_neg h2]
      clear h2
      go_enter Try.func53, Try.ntmps53
      go_wp2_with fail
      go_quiet (fail)
      go_wp2_with (go_at_call 76; (with_reducible refine (split_any _ _).mono ?_); rintro e w' ⟨rfl, rfl⟩)
      go_ret
      exact ⟨rfl, HB.out _⟩
def wordsG (gs : List Gl) : Nat := gs.foldl (fun n g => n + g.words) 0
theorem wordsG_bd (b : Nat) : ∀ gs : List Gl, (∀ g ∈ gs, g.size ≤ 4096) → gs.foldl (fun n g => n + g.words) b ≤ b + 4096 * gs.length
  | [], _ => Nat.le_refl _
  | g :: gs, h => by
    have h1 := wordsG_bd (b + g.words) gs (fun x hx => h x (List.mem_cons_of_mem _ hx))
    have h2 := h g (List.mem_cons_self ..)
    have h3 : g.words ≤ 4096 := by unfold Gl.words; omega
    simp only [List.foldl_cons, List.length_cons]
    omega
theorem foldl_words (s : LS) : ∀ gs : List Gl, (gs.foldl stepG s).cnt = gs.foldl (fun n g => n + g.words) s.cnt
  | [] => rfl
  | g :: gs => by
    simp only [List.foldl_cons]
    rw [foldl_words]
    rfl
set_option maxHeartbeats 3200000 in
theorem dataWords_any (w : World) (GA : Option Addr) (gn gc : Nat) (gs : List Gl) (hG : GlsAt w GA gn gs) (hgn : gn ≤ 64) (hgs : ∀ g ∈ gs, 0 ≤ g.size ∧ g.size ≤ 4096) :
    Calls Try.prog 29 #[.slice GA gn gc] w fun e w' => e = .returned (.int .i64 (wordsG gs : Int)) ∧ Below w.heap.size w w' := by
  have HG := Lib.hid hG
  have HGS := Lib.hid hgs
  have HN := Lib.hid hG.1
  have hgn2 : (gn : Int) ≤ 64 := by omega
  clear hG hgs
  go_enter Try.func29, Try.ntmps29
  go_wp2_with fail
  go_loopw [3, 8] (fun v3 i wr => ∃ k : Nat, k ≤ gn ∧ i = .int .i64 k ∧ v3 = .int .i64 (wordsG (gs.take k) : Int) ∧ Hid (Below w.heap.size w wr)) (fun _ i _ => gn - (intOf i).toNat)
  case atStart => exact ⟨0, by omega, rfl, rfl, Lib.hid (Below.refl _ _)⟩
  case round =>
    obtain ⟨k, hk, rfl, rfl, HI⟩ := hrel
    rcases Nat.lt_or_ge k gn with hlt | hge
    · have hlt' : (k : Int) < (gn : Int) := by omega
      have hk0 : (0 : Int) ≤ (k : Int) := by omega
      obtain ⟨l, hl⟩ : ∃ l, gs[k]? = some l := ⟨_, List.getElem?_eq_getElem (by have := HN.out; omega)⟩
      obtain ⟨g, off, rfl, hg, hc⟩ := HG.out.2 (by omega)
      have hsz := HGS.out l (List.mem_of_getElem? hl)
      have hbd := wordsG_bd 0 (gs.take k) (fun x hx => (HGS.out x (List.mem_of_mem_take hx)).2)
      have hstep : wordsG (gs.take (k + 1)) = wordsG (gs.take k) + l.words := foldl_take _ 0 hl
      have hcell := fun j u hj => (HI.out.cell (p := ⟨g, off + k * 2 + j, none⟩) hg).trans (hc k _ hl j u hj)
      obtain ⟨nm, gz⟩ := l
      dsimp only at hsz
      have d0 := hcell 0 _ rfl
      have d1 := hcell 1 _ rfl
      rw [Nat.add_zero] at d0
      have HST := Lib.hid hstep
      have hb0 : (wordsG (gs.take k) : Int) ≤ 300000 := by
        have h5 : wordsG (gs.take k) ≤ 0 + 4096 * (gs.take k).length := hbd
        rw [List.length_take] at h5
        omega
      obtain ⟨cq, hcq⟩ : ∃ cq : Int, (wordsG (gs.take k) : Int) = cq := ⟨_, rfl⟩
      rw [hcq] at hb0 ⊢
      have hb1 : 0 ≤ cq := by omega
      have HCQ := Lib.hid hcq
      obtain ⟨gw, hgw⟩ : ∃ gw : Nat, (Gl.mk nm gz).words = gw := ⟨_, rfl⟩
      have hgw1 : (gw : Int) ≤ 4096 := by rw [← hgw]; unfold Gl.words; dsimp only; omega
      have hgw0 : (0 : Int) ≤ (gw : Int) := by omega
      have HGW := Lib.hid (globalWords_any nm gz)
      rw [hgw] at HGW
      have HGE := Lib.hid hgw
      obtain ⟨W4, hW4⟩ : ∃ W4, wr.alloc (.cells #[.string nm, .int .i64 gz] 72) = W4 := ⟨_, rfl⟩
      obtain ⟨bx, hbx⟩ : ∃ bx, wr.heap.size = bx := ⟨_, rfl⟩
      have hb4 : Below wr.heap.size wr W4 := by rw [← hW4]; exact (Below.refl _ _).alloc (Nat.le_refl _) _
      have hn4 : W4.heap[bx]? = some (.cells #[.string nm, .int .i64 gz] 72 (0, 0)) := by rw [← hW4, ← hbx]; exact heap_alloc_new wr _
      have u0 : W4.cell? ⟨bx, 0, none⟩ = some (.string nm) := by rw [cell_of_row _ bx 0 _ _ (0, 0) hn4]; rfl
      have u1 : W4.cell? ⟨bx, 1, none⟩ = some (.int .i64 gz) := by rw [cell_of_row _ bx 1 _ _ (0, 0) hn4]; rfl
      have HB := Lib.hid (HI.out.trans (hb4.mono HI.out.size))
      clear hc hg hl hcell hstep hbd hb4 hn4 HI hcq hgw hsz
      go_wp2_with (go_at_call 52; (with_reducible refine (HGW.out _).mono ?_); rintro e w' ⟨rfl, hb'⟩; have HB' := Lib.hid hb'; clear hb')
      go_roundw
      case rel => exact ⟨k + 1, by omega, by go_num, by rw [HST.out, HGE.out]; have := HCQ.out; simp [this], Lib.hid (HB.out.trans (HB'.out.mono HB.out.size))⟩
      case measure => simp [intOf] <;> omega
    · obtain rfl : gn = k := by omega
      rw [List.take_of_length_le (by rw [HN.out]; exact Nat.le_refl _)]
      go_wp2_with fail
      go_ret
      exact ⟨rfl, HI.out⟩
end Rv
end Go.Proofs.Ytadgemcpahfkoaa
