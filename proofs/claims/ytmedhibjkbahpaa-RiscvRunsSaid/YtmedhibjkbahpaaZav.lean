/-
  (*Image).knows, (*Image).number, riscv.dataWords.
  Instructions are taken over, with numbers in the place of symbols: (*Image).resolve.
  Contract of riscv.Load.
  The helper lives of layer 18's statements answers true.
  The document's IsSym and MayLine, of any line.
-/
import Derived.Test.YtmedhibjkbahpaaZar
import Derived.Test.YtmedhibjkbahpaaZau
import Derived.Test.YtmedhibjkbahpaaZai
namespace Go.Proofs.Ytmedhibjkbahpaa
open Go.RowKit
set_option linter.unusedVariables false
set_option linter.unusedSimpArgs false
set_option maxRecDepth 100000
namespace Rv
/-- The two parts of a word, as word.Split reckons them. -/
def splitLo (n : Int) : Int := wrap32 (n * 1048576) / 1048576
def splitHi (n : Int) : Int := wrap32 (n - splitLo n) % 4294967296 / 4096
theorem split_any (n : Int) (w : World) :
    Calls Try.prog 76 #[.int .i32 n] w fun e w' => e = .returned (.tuple #[.int .i32 (splitHi n), .int .i32 (splitLo n)]) ∧ w = w' := by
  go_enter Try.func76, Try.ntmps76
  go_wp2
  go_ret2
  exact ⟨rfl, rfl⟩
/-- No text. -/
def noS (s : ByteArray) : Bool := s.data.toList.isEmpty
theorem noS_true {s : ByteArray} (h : noS s = true) : s = ⟨#[]⟩ := by
  apply ba_ext
  simpa [noS] using h
def knowsB (f : ByteArray → Option Int) (ls : List Ln) : Bool := ls.all fun l => noS l.s || (f l.s).isSome
theorem LayAt.drewN {w0 : World} {m M : Nat} {w : World} {words : Int} {n : Nat} {f : ByteArray → Option Int} (h : LayAt w0 m M w words n f) (j : Nat) : LayAt w0 m M (w.drewN j) words n f :=
  ⟨⟨h.below.os, h.below.tape, h.below.output, h.below.size, h.below.block⟩, h.mge, h.Mge, h.ne, h.im, h.sym.same rfl⟩
set_option maxHeartbeats 6400000 in
theorem knows_any (w0 w : World) (m M : Nat) (words : Int) (n : Nat) (f : ByteArray → Option Int) (h : LayAt w0 m M w words n f) (LA : Option Addr) (ln lc : Nat) (ls : List Ln) (hL : LnsAt w0 LA ln ls) (hln : ln ≤ 1000) (hls : ∀ l ∈ ls, l.s.size ≤ 1000000) :
    Calls Try.prog 27 #[.pointer (some ⟨m, 0, none⟩), .slice LA ln lc] w fun e w' => e = .returned (.bool (knowsB f ls)) ∧ LayAt w0 m M w' words n f := by
  have H1 := Lib.hid h
  have HL := Lib.hid hL
  have HLS := Lib.hid hls
  have HN := Lib.hid hL.1
  have hln2 : (ln : Int) ≤ 1000 := by omega
  clear h hL hls
  go_enter Try.func27, Try.ntmps27
  go_wp2_with fail
  go_loopw [11] (fun i wr => ∃ k : Nat, k ≤ ln ∧ i = .int .i64 k ∧ Hid (LayAt w0 m M wr words n f ∧ ∀ j l, j < k → ls[j]? = some l → (noS l.s || (f l.s).isSome) = true)) (fun i _ => ln - (intOf i).toNat)
  case atStart => exact ⟨0, by omega, rfl, Lib.hid ⟨H1.out, fun j l hj => by omega⟩⟩
  case round =>
    clear H1
    obtain ⟨k, hk, rfl, HI⟩ := hrel
    rcases Nat.lt_or_ge k ln with hlt | hge
    · have hlt' : (k : Int) < (ln : Int) := by omega
      have hk0 : (0 : Int) ≤ (k : Int) := by omega
      obtain ⟨l, hl⟩ : ∃ l, ls[k]? = some l := ⟨_, List.getElem?_eq_getElem (by have := HN.out; omega)⟩
      obtain ⟨g, off, rfl, hg, hc⟩ := HL.out.2 (by omega)
      have hsz := HLS.out l (List.mem_of_getElem? hl)
      obtain ⟨hlay, hall⟩ := HI.out
      have hcell := fun j u hj => (hlay.below.cell (p := ⟨g, off + k * 7 + j, none⟩) hg).trans (hc k _ hl j u hj)
      obtain ⟨lk, lo, ld, la, lb, lnn, lsym⟩ := l
      dsimp only at hsz
      have d0 := hcell 0 _ rfl
      have d1 := hcell 1 _ rfl
      have d2 := hcell 2 _ rfl
      have d3 := hcell 3 _ rfl
      have d4 := hcell 4 _ rfl
      have d5 := hcell 5 _ rfl
      have d6 := hcell 6 _ rfl
      rw [Nat.add_zero] at d0
      obtain ⟨bx, hbx⟩ : ∃ bx, wr.heap.size = bx := ⟨_, rfl⟩
      obtain ⟨W4, hW4⟩ : ∃ W4, wr.alloc (.cells #[.int .i64 lk, .int .i64 lo, .int .i64 ld, .int .i64 la, .int .i64 lb, .int .i32 lnn, .string lsym] 39) = W4 := ⟨_, rfl⟩
      have hb4 : Below wr.heap.size wr W4 := by rw [← hW4]; exact (Below.refl _ _).alloc (Nat.le_refl _) _
      have hn4 : W4.heap[bx]? = some (.cells #[.int .i64 lk, .int .i64 lo, .int .i64 ld, .int .i64 la, .int .i64 lb, .int .i32 lnn, .string lsym] 39 (0, 0)) := by rw [← hW4, ← hbx]; exact heap_alloc_new wr _
      have u6 : W4.cell? ⟨bx, 6, none⟩ = some (.string lsym) := by rw [cell_of_row _ _ 6 _ _ (0, 0) hn4]; rfl
      have hlay4 := hlay.grow hb4
      obtain ⟨i0, i1, i2, i3⟩ := hlay4.im.cells
      have hlk : ∀ j, (Instr.lookup 66 (.map (some M)) (.string lsym) true).run Try.prog (W4.drewN j) = .ok (.tuple #[.int .i32 ((f lsym).getD 0), .bool (f lsym).isSome]) (W4.drewN j) := fun j => (hlay4.drewN j).sym.look lsym (by unfold maxLen; omega)
      have HLAY := Lib.hid (fun j => hlay4.drewN j)
      have HALL := Lib.hid hall
      have HLL := Lib.hid hl
      clear hc hg hl hcell hlay hb4 hn4 HI hlay4 hall i0 i2 i3 hsz
      generalize (f lsym).getD 0 = vv at *
      have HQ : Hid ((noS lsym || (f lsym).isSome) = (noS lsym || (f lsym).isSome)) := Lib.hid rfl
      cases hne : noS lsym with
      | true =>
        have hs0 := noS_true hne
        have e1 : lsym.toList.isEmpty = true := by rw [ba_toList]; exact hne
        have e2 : lsym.toList = [] := by rw [ba_toList]; simpa [noS] using hne
        have HNX : Hid (noS lsym = true) := Lib.hid hne
        generalize (f lsym).isSome = q at *
        clear hs0 hne
        go_wp2_with fail
        go_quiet (fail)
        go_wp2_with fail
        go_roundw
        case rel => exact ⟨k + 1, by omega, by go_num, Lib.hid ⟨HLAY.out _, fun j l hj hjl => by
          rcases Nat.lt_or_ge j k with q | q
          · exact HALL.out j l q hjl
          · obtain rfl : j = k := by omega
            rw [HLL.out] at hjl
            cases hjl
            dsimp only
            rw [HNX.out]
            rfl⟩⟩
        case measure => simp [intOf] <;> omega
      | false =>
        have e1 : lsym.toList.isEmpty = false := by rw [ba_toList]; exact hne
        have e2 : ¬ lsym.toList = [] := by rw [ba_toList]; simpa [noS] using hne
        cases hso : (f lsym).isSome with
        | true =>
          have HNX : Hid ((noS lsym || (f lsym).isSome) = true) := Lib.hid (by rw [hso]; simp)
          rw [hso] at hlk
          clear hne hso
          go_wp2_with fail
          go_quiet (fail)
          go_wp2_with fail
          go_roundw
          case rel => exact ⟨k + 1, by omega, by go_num, Lib.hid ⟨HLAY.out _, fun j l hj hjl => by
            rcases Nat.lt_or_ge j k with q | q
            · exact HALL.out j l q hjl
            · obtain rfl : j = k := by omega
              rw [HLL.out] at hjl
              cases hjl
              exact HNX.out⟩⟩
          case measure => simp [intOf] <;> omega
        | false =>
          have HNX : Hid (knowsB f ls = false) := Lib.hid (all_no HLL.out (by dsimp only; rw [hne, hso]; rfl))
          rw [hso] at hlk
          clear hne hso
          go_wp2_with fail
          go_quiet (fail)
          go_wp2_with fail
          go_ret
          exact ⟨by rw [HNX.out]; rfl, HLAY.out _⟩
    · obtain rfl : ln = k := by omega
      have HA : Hid (knowsB f ls = true) := Lib.hid (all_yes fun j l hj => HI.out.2 j l (by have := HN.out; have := (List.getElem?_eq_some_iff.1 hj).1; omega) hj)
      have HF := Lib.hid HI.out.1
      clear HI
      go_wp2_with fail
      go_ret
      exact ⟨by rw [HA.out]; rfl, HF.out⟩
/-- What stands for a line's symbol, so many instructions ahead of it. -/
def numI (f : ByteArray → Option Int) (l : Ln) (c : Nat) : Int :=
  if l.op = 1 then splitHi ((f l.s).getD 0) else if l.op = 2 then splitLo ((f l.s).getD 0) else wrap32 ((f l.s).getD 0 - (c : Int) * 4)
set_option maxHeartbeats 3200000 in
theorem number_any (w : World) (m M : Nat) (A : Option Addr) (n c k : Nat) (words : Int) (f : ByteArray → Option Int) (hI : ImAt w m A n c M words) (hS : SymAt w M k f) (hn : n ≤ 1000) (lk lo ld la lb lnn : Int) (lsym : ByteArray) (hx : lsym.size ≤ 1000000) :
    Calls Try.prog 53 #[.pointer (some ⟨m, 0, none⟩), .agg #[.int .i64 lk, .int .i64 lo, .int .i64 ld, .int .i64 la, .int .i64 lb, .int .i32 lnn, .string lsym]] w fun e w' =>
      e = .returned (.int .i32 (numI f ⟨lk, lo, ld, la, lb, lnn, lsym⟩ n)) ∧ Below w.heap.size w w' := by
  obtain ⟨bx, hbx⟩ : ∃ bx, w.heap.size = bx := ⟨_, rfl⟩
  obtain ⟨W4, hW4⟩ : ∃ W4, w.alloc (.cells #[.int .i64 lk, .int .i64 lo, .int .i64 ld, .int .i64 la, .int .i64 lb, .int .i32 lnn, .string lsym] 39) = W4 := ⟨_, rfl⟩
  have hb4 : Below w.heap.size w W4 := by rw [← hW4]; exact (Below.refl _ _).alloc (Nat.le_refl _) _
  have hn4 : W4.heap[bx]? = some (.cells #[.int .i64 lk, .int .i64 lo, .int .i64 ld, .int .i64 la, .int .i64 lb, .int .i32 lnn, .string lsym] 39 (0, 0)) := by rw [← hW4, ← hbx]; exact heap_alloc_new w _
  have u6 : W4.cell? ⟨bx, 6, none⟩ = some (.string lsym) := by rw [cell_of_row _ _ 6 _ _ (0, 0) hn4]; rfl
  have u1 : ∀ j, (W4.drewN j).cell? ⟨bx, 1, none⟩ = some (.int .i64 lo) := fun j => by rw [cell_of_row _ _ 1 _ _ (0, 0) (show (W4.drewN j).heap[bx]? = _ from hn4)]; rfl
  have hi4 : ImAt W4 m A n c M words := (hb4.block m (Array.getElem?_eq_some_iff.1 hI).1).trans hI
  have hs4 : SymAt W4 M k f := hS.same (hb4.block M hS.lt)
  obtain ⟨i0, i1, i2, i3⟩ := hi4.cells
  have i0' : ∀ j, (W4.drewN j).cell? ⟨m, 0, none⟩ = some (.slice A n c) := fun j => i0
  have hlk : ∀ j, (Instr.lookup 66 (.map (some M)) (.string lsym) false).run Try.prog (W4.drewN j) = .ok (.int .i32 ((f lsym).getD 0)) (W4.drewN j) := fun j => (hs4.same (w' := W4.drewN j) rfl).get lsym (by unfold maxLen; omega)
  have HB : Hid (∀ j, Below w.heap.size w (W4.drewN j)) := Lib.hid (fun j => ⟨hb4.os, hb4.tape, hb4.output, hb4.size, hb4.block⟩)
  have hN : numI f ⟨lk, lo, ld, la, lb, lnn, lsym⟩ n = if lo = 1 then splitHi ((f lsym).getD 0) else if lo = 2 then splitLo ((f lsym).getD 0) else wrap32 ((f lsym).getD 0 - (n : Int) * 4) := rfl
  rw [hN]
  generalize (f lsym).getD 0 = z at *
  have hn2 : (n : Int) ≤ 1000 := by omega
  have hn0 : (0 : Int) ≤ (n : Int) := by omega
  have hw1 : wrap32 ((n : Int) * 4) = (n : Int) * 4 := IntWalk.wrap32_in _ (by omega)
  clear hb4 hn4 hI hS hi4 hs4 hN i0 i2 i3 hx
  by_cases h1 : lo = 1
  · have b1 : (lo == 1) = true := by simp [h1]
    have HE := Lib.hid h1
    rw [if_pos h1]
    clear h1
    go_enter Try.func53, Try.ntmps53
    go_wp2_with fail
    go_quiet (fail)
    go_wp2_with (go_at_call 76; (with_reducible refine (split_any _ _).mono ?_); rintro e w' ⟨rfl, rfl⟩)
    go_ret
    exact ⟨rfl, HB.out _⟩
  · have b1 : (lo == 1) = false := by simp [h1]
    rw [if_neg h1]
    clear h1
    by_cases h2 : lo = 2
    · have b2 : (lo == 2) = true := by simp [h2]
      rw [if_pos h2]
      clear h2
      go_enter Try.func53, Try.ntmps53
      go_wp2_with fail
      go_quiet (fail)
      go_wp2_with (go_at_call 76; (with_reducible refine (split_any _ _).mono ?_); rintro e w' ⟨rfl, rfl⟩)
      go_ret
      exact ⟨rfl, HB.out _⟩
    · have b2 : (lo == 2) = false := by simp [h2]
      rw [if_neg h2]
      clear h2
      go_enter Try.func53, Try.ntmps53
      go_wp2_with fail
      go_quiet (fail)
      go_wp2_with (go_at_call 76; (with_reducible refine (split_any _ _).mono ?_); rintro e w' ⟨rfl, rfl⟩)
      go_ret
      exact ⟨rfl, HB.out _⟩
def wordsG (gs : List Gl) : Nat := gs.foldl (fun n g => n + g.words) 0
theorem wordsG_bd (b : Nat) : ∀ gs : List Gl, (∀ g ∈ gs, g.size ≤ 4096) → gs.foldl (fun n g => n + g.words) b ≤ b + 4096 * gs.length
  | [], _ => Nat.le_refl _
  | g :: gs, h => by
    have h1 := wordsG_bd (b + g.words) gs (fun x hx => h x (List.mem_cons_of_mem _ hx))
    have h2 := h g (List.mem_cons_self ..)
    have h3 : g.words ≤ 4096 := by unfold Gl.words; omega
    simp only [List.foldl_cons, List.length_cons]
    omega
theorem foldl_words (s : LS) : ∀ gs : List Gl, (gs.foldl stepG s).cnt = gs.foldl (fun n g => n + g.words) s.cnt
  | [] => rfl
  | g :: gs => by
    simp only [List.foldl_cons]
    rw [foldl_words]
    rfl
set_option maxHeartbeats 3200000 in
theorem dataWords_any (w : World) (GA : Option Addr) (gn gc : Nat) (gs : List Gl) (hG : GlsAt w GA gn gs) (hgn : gn ≤ 64) (hgs : ∀ g ∈ gs, 0 ≤ g.size ∧ g.size ≤ 4096) :
    Calls Try.prog 29 #[.slice GA gn gc] w fun e w' => e = .returned (.int .i64 (wordsG gs : Int)) ∧ Below w.heap.size w w' := by
  have HG := Lib.hid hG
  have HGS := Lib.hid hgs
  have HN := Lib.hid hG.1
  have hgn2 : (gn : Int) ≤ 64 := by omega
  clear hG hgs
  go_enter Try.func29, Try.ntmps29
  go_wp2_with fail
  go_loopw [3, 8] (fun v3 i wr => ∃ k : Nat, k ≤ gn ∧ i = .int .i64 k ∧ v3 = .int .i64 (wordsG (gs.take k) : Int) ∧ Hid (Below w.heap.size w wr)) (fun _ i _ => gn - (intOf i).toNat)
  case atStart => exact ⟨0, by omega, rfl, rfl, Lib.hid (Below.refl _ _)⟩
  case round =>
    obtain ⟨k, hk, rfl, rfl, HI⟩ := hrel
    rcases Nat.lt_or_ge k gn with hlt | hge
    · have hlt' : (k : Int) < (gn : Int) := by omega
      have hk0 : (0 : Int) ≤ (k : Int) := by omega
      obtain ⟨l, hl⟩ : ∃ l, gs[k]? = some l := ⟨_, List.getElem?_eq_getElem (by have := HN.out; omega)⟩
      obtain ⟨g, off, rfl, hg, hc⟩ := HG.out.2 (by omega)
      have hsz := HGS.out l (List.mem_of_getElem? hl)
      have hbd := wordsG_bd 0 (gs.take k) (fun x hx => (HGS.out x (List.mem_of_mem_take hx)).2)
      have hstep : wordsG (gs.take (k + 1)) = wordsG (gs.take k) + l.words := foldl_take _ 0 hl
      have hcell := fun j u hj => (HI.out.cell (p := ⟨g, off + k * 2 + j, none⟩) hg).trans (hc k _ hl j u hj)
      obtain ⟨nm, gz⟩ := l
      dsimp only at hsz
      have d0 := hcell 0 _ rfl
      have d1 := hcell 1 _ rfl
      rw [Nat.add_zero] at d0
      have HST := Lib.hid hstep
      have hb0 : (wordsG (gs.take k) : Int) ≤ 300000 := by
        have h5 : wordsG (gs.take k) ≤ 0 + 4096 * (gs.take k).length := hbd
        rw [List.length_take] at h5
        omega
      obtain ⟨cq, hcq⟩ : ∃ cq : Int, (wordsG (gs.take k) : Int) = cq := ⟨_, rfl⟩
      rw [hcq] at hb0 ⊢
      have hb1 : 0 ≤ cq := by omega
      have HCQ := Lib.hid hcq
      obtain ⟨gw, hgw⟩ : ∃ gw : Nat, (Gl.mk nm gz).words = gw := ⟨_, rfl⟩
      have hgw1 : (gw : Int) ≤ 4096 := by rw [← hgw]; unfold Gl.words; dsimp only; omega
      have hgw0 : (0 : Int) ≤ (gw : Int) := by omega
      have HGW := Lib.hid (globalWords_any nm gz)
      rw [hgw] at HGW
      have HGE := Lib.hid hgw
      obtain ⟨W4, hW4⟩ : ∃ W4, wr.alloc (.cells #[.string nm, .int .i64 gz] 72) = W4 := ⟨_, rfl⟩
      obtain ⟨bx, hbx⟩ : ∃ bx, wr.heap.size = bx := ⟨_, rfl⟩
      have hb4 : Below wr.heap.size wr W4 := by rw [← hW4]; exact (Below.refl _ _).alloc (Nat.le_refl _) _
      have hn4 : W4.heap[bx]? = some (.cells #[.string nm, .int .i64 gz] 72 (0, 0)) := by rw [← hW4, ← hbx]; exact heap_alloc_new wr _
      have u0 : W4.cell? ⟨bx, 0, none⟩ = some (.string nm) := by rw [cell_of_row _ bx 0 _ _ (0, 0) hn4]; rfl
      have u1 : W4.cell? ⟨bx, 1, none⟩ = some (.int .i64 gz) := by rw [cell_of_row _ bx 1 _ _ (0, 0) hn4]; rfl
      have HB := Lib.hid (HI.out.trans (hb4.mono HI.out.size))
      clear hc hg hl hcell hstep hbd hb4 hn4 HI hcq hgw hsz
      go_wp2_with (go_at_call 52; (with_reducible refine (HGW.out _).mono ?_); rintro e w' ⟨rfl, hb'⟩; have HB' := Lib.hid hb'; clear hb')
      go_roundw
      case rel => exact ⟨k + 1, by omega, by go_num, by rw [HST.out, HGE.out]; have := HCQ.out; simp [this], Lib.hid (HB.out.trans (HB'.out.mono HB.out.size))⟩
      case measure => simp [intOf] <;> omega
    · obtain rfl : gn = k := by omega
      rw [List.take_of_length_le (by rw [HN.out]; exact Nat.le_refl _)]
      go_wp2_with fail
      go_ret
      exact ⟨rfl, HI.out⟩
end Rv
end Go.Proofs.Ytmedhibjkbahpaa
namespace Go.Proofs.Ytmedhibjkbahpaa
open Go.RowKit
set_option linter.unusedVariables false
set_option linter.unusedSimpArgs false
set_option maxRecDepth 100000
namespace Rv
def fixL (f : ByteArray → Option Int) (l : Ln) (c : Nat) : Ln := if noS l.s then l else { l with n := numI f l c, s := ⟨#[]⟩ }
def okJ (l : Ln) : Bool := !(l.op == 28) || (decide (-1048576 ≤ l.n) && decide (l.n < 1048576))
def resI (f : ByteArray → Option Int) : List Ln → List Ln → Option (List Ln)
  | acc, [] => some acc
  | acc, l :: ls => if l.k = 2 then (if okJ (fixL f l acc.length) = true then resI f (acc ++ [fixL f l acc.length]) ls else none) else resI f acc ls
/-- An image whose instructions so far are acc. -/
structure ResAt (w0 : World) (m M : Nat) (w : World) (A : Option Addr) (c : Nat) (acc : List Ln) (words : Int) (n : Nat) (f : ByteArray → Option Int) : Prop where
  below : Below w0.heap.size w0 w
  mge : w0.heap.size ≤ m
  Mge : w0.heap.size ≤ M
  ne : m ≠ M
  im : ImAt w m A acc.length c M words
  sym : SymAt w M n f
  line : SLine 7 w A acc.length c (acc.flatMap Ln.cells)
  bl : ∀ k ∈ blk A, w0.heap.size ≤ k ∧ k ≠ m ∧ k ≠ M
theorem ResAt.grow {w0 : World} {m M : Nat} {w w' : World} {A : Option Addr} {c : Nat} {acc : List Ln} {words : Int} {n : Nat} {f : ByteArray → Option Int} (h : ResAt w0 m M w A c acc words n f) (hb : Below w.heap.size w w') : ResAt w0 m M w' A c acc words n f :=
  ⟨h.below.trans (hb.mono h.below.size), h.mge, h.Mge, h.ne, (hb.block m (Array.getElem?_eq_some_iff.1 h.im).1).trans h.im, h.sym.same (hb.block M h.sym.lt), h.line.below hb, h.bl⟩
theorem ResAt.drew {w0 : World} {m M : Nat} {w : World} {A : Option Addr} {c : Nat} {acc : List Ln} {words : Int} {n : Nat} {f : ByteArray → Option Int} (h : ResAt w0 m M w A c acc words n f) : ResAt w0 m M w.drew A c acc words n f :=
  ⟨h.below.drew, h.mge, h.Mge, h.ne, h.im, h.sym.drew, h.line.drew, h.bl⟩
/-- Another block is another. -/
theorem ResAt.far {w0 : World} {m M : Nat} {w w' : World} {A : Option Addr} {c : Nat} {acc : List Ln} {words : Int} {n : Nat} {f : ByteArray → Option Int} (h : ResAt w0 m M w A c acc words n f) {b : Nat} (hc : Chg [b] w w') (h0 : w0.heap.size ≤ b) (h1 : b ≠ m) (h2 : b ≠ M) (h3 : b ∉ blk A) : ResAt w0 m M w' A c acc words n f :=
  ⟨h.below.trans (hc.toBelow (fun k hk => by rw [List.mem_singleton] at hk; subst hk; exact h0) h.below.size), h.mge, h.Mge, h.ne, (hc.same m (Array.getElem?_eq_some_iff.1 h.im).1 (by rw [List.mem_singleton]; exact h1.symm)).trans h.im,
    h.sym.same (hc.same M h.sym.lt (by rw [List.mem_singleton]; exact h2.symm)), h.line.chg hc (fun k hk => by rw [List.mem_singleton]; intro e; subst e; exact h3 hk), h.bl⟩
def ResOut (w0 : World) (m M : Nat) (words : Int) (n : Nat) (f : ByteArray → Option Int) (r : Option (List Ln)) (e : Ending) (w' : World) : Prop :=
  match r with
  | some acc => e = .returned (.bool true) ∧ ∃ A c, ResAt w0 m M w' A c acc words n f
  | none => e = .returned (.bool false) ∧ Below w0.heap.size w0 w'
theorem infoLnR : (Try.prog.info? 39).map (fun i => (i.zero, i.size, i.bytes)) = some (some (.agg #[.int .i64 0, .int .i64 0, .int .i64 0, .int .i64 0, .int .i64 0, .int .i32 0, .string ⟨#[]⟩]), 7, 64) := by kernel_rfl
theorem box7 {V : World} {bx : Nat} {lk lo ld la lb lnn : Int} {lsym : ByteArray} (h : V.heap[bx]? = some (.cells #[.int .i64 lk, .int .i64 lo, .int .i64 ld, .int .i64 la, .int .i64 lb, .int .i32 lnn, .string lsym] 39 (0, 0))) :
    V.cell? ⟨bx, 0, none⟩ = some (.int .i64 lk) ∧ V.cell? ⟨bx, 1, none⟩ = some (.int .i64 lo) ∧ V.cell? ⟨bx, 2, none⟩ = some (.int .i64 ld) ∧ V.cell? ⟨bx, 3, none⟩ = some (.int .i64 la) ∧ V.cell? ⟨bx, 4, none⟩ = some (.int .i64 lb) ∧ V.cell? ⟨bx, 5, none⟩ = some (.int .i32 lnn) ∧ V.cell? ⟨bx, 6, none⟩ = some (.string lsym) ∧ ∀ j, V.frozen? ⟨bx, j, none⟩ = false := by
  refine ⟨?_, ?_, ?_, ?_, ?_, ?_, ?_, fun j => frozen_of_row _ bx j _ _ h⟩ <;> (rw [cell_of_row _ bx _ _ _ (0, 0) h]; rfl)
/-- A line more. -/
theorem ResAt.push {w0 : World} {m M : Nat} {w : World} {A : Option Addr} {c : Nat} {acc : List Ln} {words : Int} {n : Nat} {f : ByteArray → Option Int} (h : ResAt w0 m M w A c acc words n f) (hl : acc.length ≤ 10000) (lk lo ld la lb lnn : Int) (lsym : ByteArray) :
    ∃ A' c' w2, (Builtin.append_ #[23, 23] 23 #[.slice A acc.length c, .slice (some ⟨w.heap.size, 0, none⟩) 1 1]).run Try.prog (w.alloc (.cells #[.int .i64 lk, .int .i64 lo, .int .i64 ld, .int .i64 la, .int .i64 lb, .int .i32 lnn, .string lsym] 39)) = .ok (.slice A' (acc.length + 1) c') w2 ∧
      Chg (blk A) w w2 ∧ ResAt w0 m M (w2.setCell ⟨m, 0, none⟩ (.slice A' (acc.length + 1) c')) A' c' (acc ++ [⟨lk, lo, ld, la, lb, lnn, lsym⟩]) words n f := by
  obtain ⟨A', c', w2, h1, h2, h3, h4, _⟩ := push_sR 7 w 23 39 23 _ 64 Try.underlying23 infoLnR rfl (by decide) A acc.length c _ h.line (by omega) (Ln.mk lk lo ld la lb lnn lsym).cells rfl (by
    intro u hu
    simp only [Ln.cells, List.mem_cons, List.not_mem_nil, or_false] at hu
    rcases hu with h | h | h | h | h | h | h <;> (rw [h]; rfl))
  have hm : m < w.heap.size := (Array.getElem?_eq_some_iff.1 h.im).1
  have hM : M < w.heap.size := h.sym.lt
  have hmA : m ∉ blk A := fun hk => (h.bl _ hk).2.1 rfl
  have hMA : M ∉ blk A := fun hk => (h.bl _ hk).2.2 rfl
  have hB := h.below.size
  have hc3 : Chg (m :: blk A) w (w2.setCell ⟨m, 0, none⟩ (.slice A' (acc.length + 1) c')) := (h3.weaken (fun k hk => .inl (List.mem_cons_of_mem _ hk))).setCell m 0 _ (.inl (by simp))
  have hlen : (acc ++ [(⟨lk, lo, ld, la, lb, lnn, lsym⟩ : Ln)]).length = acc.length + 1 := by simp
  have hbl : ∀ k ∈ blk A', w0.heap.size ≤ k ∧ k ≠ m ∧ k ≠ M := fun k hk => by
    rcases h4 k hk with q | q
    · exact h.bl k q
    · exact ⟨by omega, by omega, by omega⟩
  refine ⟨A', c', w2, h1, h3, ⟨h.below.trans (hc3.toBelow (fun k hk => by rcases List.mem_cons.1 hk with rfl | hk; exact h.mge; exact (h.bl k hk).1) hB), h.mge, h.Mge, h.ne, ?_, ?_, ?_, hbl⟩⟩
  · have hi := h.im
    unfold ImAt at hi ⊢
    rw [heap_setCell_same w2 m 0 _ _ _ ((h3.same m hm hmA).trans hi), hlen]
    rfl
  · exact h.sym.same (hc3.same M hM (by simp only [List.mem_cons, not_or]; exact ⟨h.ne.symm, hMA⟩))
  · rw [hlen, List.flatMap_append]
    have h2' : SLine 7 w2 A' (acc.length + 1) c' (acc.flatMap Ln.cells ++ [(⟨lk, lo, ld, la, lb, lnn, lsym⟩ : Ln)].flatMap Ln.cells) := by simpa using h2
    exact h2'.chg ((Chg.refl [m] w2).setCell m 0 _ (.inl (by simp))) (fun k hk => by rw [List.mem_singleton]; exact (hbl k hk).2.1)
set_option maxHeartbeats 12800000 in
theorem resolve_any (w0 w : World) (m M : Nat) (words : Int) (n : Nat) (f : ByteArray → Option Int) (h : LayAt w0 m M w words n f) (LA : Option Addr) (ln lc : Nat) (ls : List Ln) (hL : LnsAt w0 LA ln ls) (hln : ln ≤ 1000) (hls : ∀ l ∈ ls, l.s.size ≤ 1000000) (hnn : ∀ l ∈ ls, -2147483648 ≤ l.n ∧ l.n ≤ 2147483647) :
    Calls Try.prog 28 #[.pointer (some ⟨m, 0, none⟩), .slice LA ln lc] w (ResOut w0 m M words n f (resI f [] ls)) := by
  have H1 : Hid (ResAt w0 m M w none 0 [] words n f) := Lib.hid ⟨h.below, h.mge, h.Mge, h.ne, h.im, h.sym, SLine.nil 7 _, fun k hk => (by cases hk)⟩
  have HL := Lib.hid hL
  have HLS := Lib.hid hls
  have HNN := Lib.hid hnn
  have HN := Lib.hid hL.1
  have hln2 : (ln : Int) ≤ 1000 := by omega
  clear h hL hls hnn
  go_enter Try.func28, Try.ntmps28
  go_wp2_with fail
  go_loopw [9] (fun i wr => ∃ k : Nat, k ≤ ln ∧ i = .int .i64 k ∧ Hid (∃ acc A c, acc.length ≤ k ∧ resI f [] ls = resI f acc (ls.drop k) ∧ ResAt w0 m M wr A c acc words n f)) (fun i _ => ln - (intOf i).toNat)
  case atStart => exact ⟨0, by omega, rfl, Lib.hid ⟨[], none, 0, Nat.le_refl _, rfl, H1.out⟩⟩
  case round =>
    clear H1
    obtain ⟨k, hk, rfl, HI⟩ := hrel
    rcases Nat.lt_or_ge k ln with hlt | hge
    · have hlt' : (k : Int) < (ln : Int) := by omega
      have hk0 : (0 : Int) ≤ (k : Int) := by omega
      obtain ⟨l, hl⟩ : ∃ l, ls[k]? = some l := ⟨_, List.getElem?_eq_getElem (by have := HN.out; omega)⟩
      obtain ⟨g, off, rfl, hg, hc⟩ := HL.out.2 (by omega)
      have hsz := HLS.out l (List.mem_of_getElem? hl)
      have hnn := HNN.out l (List.mem_of_getElem? hl)
      obtain ⟨acc, A, c, hal, hres, hR⟩ := HI.out
      have hcell := fun j u hj => (hR.below.cell (p := ⟨g, off + k * 7 + j, none⟩) hg).trans (hc k _ hl j u hj)
      have hdrop : ls.drop k = l :: ls.drop (k + 1) := by
        rw [List.drop_eq_getElem_cons (by have := HN.out; omega)]
        congr 1
        exact Option.some.inj ((List.getElem?_eq_getElem (by have := HN.out; omega)).symm.trans hl)
      rw [hdrop] at hres
      obtain ⟨lk, lo, ld, la, lb, lnn, lsym⟩ := l
      dsimp only at hsz hnn
      have d0 := hcell 0 _ rfl
      have d1 := hcell 1 _ rfl
      have d2 := hcell 2 _ rfl
      have d3 := hcell 3 _ rfl
      have d4 := hcell 4 _ rfl
      have d5 := hcell 5 _ rfl
      have d6 := hcell 6 _ rfl
      rw [Nat.add_zero] at d0
      obtain ⟨bx, hbx⟩ : ∃ bx, wr.heap.size = bx := ⟨_, rfl⟩
      obtain ⟨W4, hW4⟩ : ∃ W4, wr.alloc (.cells #[.int .i64 lk, .int .i64 lo, .int .i64 ld, .int .i64 la, .int .i64 lb, .int .i32 lnn, .string lsym] 39) = W4 := ⟨_, rfl⟩
      have hb4 : Below wr.heap.size wr W4 := by rw [← hW4]; exact (Below.refl _ _).alloc (Nat.le_refl _) _
      have hn4 : W4.heap[bx]? = some (.cells #[.int .i64 lk, .int .i64 lo, .int .i64 ld, .int .i64 la, .int .i64 lb, .int .i32 lnn, .string lsym] 39 (0, 0)) := by rw [← hW4, ← hbx]; exact heap_alloc_new wr _
      obtain ⟨u0, u1, u2, u3, u4, u5, u6, uf⟩ := box7 hn4
      have hR4 := hR.grow hb4
      have hfar : bx ≠ m ∧ bx ≠ M ∧ bx ∉ blk A ∧ w0.heap.size ≤ bx := by
        have h1 := (Array.getElem?_eq_some_iff.1 hR.im).1
        have h2 := hR.sym.lt
        have h3 := hR.below.size
        refine ⟨by omega, by omega, fun hk => ?_, by omega⟩
        have := hR.line.lt _ hk
        omega
      have HFAR := Lib.hid hfar
      have HR4 := Lib.hid hR4
      have HN4 := Lib.hid hn4
      have HRES := Lib.hid hres
      have HAL := Lib.hid hal
      clear hc hg hl hcell hR hb4 hn4 HI hR4 hfar hdrop hres
      by_cases hk2 : lk = 2
      · have b2 : (lk == 2) = true := by simp [hk2]
        cases hne : noS lsym with
        | true =>
          have e1 : lsym.toList.isEmpty = true := by rw [ba_toList]; exact hne
          have e2 : lsym.toList = [] := by rw [ba_toList]; simpa [noS] using hne
          have HFX : Hid (fixL f ⟨lk, lo, ld, la, lb, lnn, lsym⟩ acc.length = ⟨lk, lo, ld, la, lb, lnn, lsym⟩) := Lib.hid (by unfold fixL; rw [if_pos hne])
          have HK2 := Lib.hid hk2
          obtain ⟨nn1, nn2⟩ := hnn
          clear hne hk2

          by_cases h28 : lo = 28
          · have b28 : (lo == 28) = true := by simp [h28]
            have HFT := Lib.hid (fits_21 (lnn) (by omega) (by omega))
            by_cases hr1 : -1048576 ≤ lnn ∧ lnn < 1048576
            · have hfb : (decide (-1048576 ≤ lnn) && decide (lnn < 1048576)) = true := by simp [hr1]
              rw [hfb] at HFT
              clear h28 hr1
              go_upto_region 10 with (go_at_call 54; (with_reducible refine (HFT.out _).mono ?_); rintro e w' ⟨rfl, rfl⟩)
              have HOK : Hid (okJ ⟨lk, lo, ld, la, lb, lnn, lsym⟩ = true) := Lib.hid (by unfold okJ; dsimp only; rw [hfb]; simp)
              obtain ⟨A', c', w7, hrun, hc7, hR7⟩ := HR4.out.drew.push (by have := HAL.out; omega) lk lo ld la lb lnn lsym
              have hc7' : Chg (blk A) W4 w7 := ((Chg.refl (blk A) W4).drew).trans hc7
              have HRUN := Lib.hid hrun
              have hbxlt := (Array.getElem?_eq_some_iff.1 HN4.out).1
              have HB7 : Hid (w7.heap[bx]? = some (.cells #[.int .i64 lk, .int .i64 lo, .int .i64 ld, .int .i64 la, .int .i64 lb, .int .i32 lnn, .string lsym] 39 (0, 0))) := Lib.hid ((hc7'.same bx hbxlt HFAR.out.2.2.1).trans HN4.out)
              have HB8 : Hid ((w7.setCell ⟨m, 0, none⟩ (.slice A' (acc.length + 1) c')).heap[bx]? = some (.cells #[.int .i64 lk, .int .i64 lo, .int .i64 ld, .int .i64 la, .int .i64 lb, .int .i32 lnn, .string lsym] 39 (0, 0))) := Lib.hid ((setCell_off _ _ _ _ _ HFAR.out.1).trans HB7.out)
              have HBA : Hid ((W4.alloc (.cells #[.int .i64 lk, .int .i64 lo, .int .i64 ld, .int .i64 la, .int .i64 lb, .int .i32 lnn, .string lsym] 39)).drew.heap[bx]? = some (.cells #[.int .i64 lk, .int .i64 lo, .int .i64 ld, .int .i64 la, .int .i64 lb, .int .i32 lnn, .string lsym] 39 (0, 0))) := Lib.hid ((((Below.refl W4.heap.size W4).alloc (Nat.le_refl _) _).block bx hbxlt).trans HN4.out)
              have HB0 : Hid (W4.drew.heap[bx]? = some (.cells #[.int .i64 lk, .int .i64 lo, .int .i64 ld, .int .i64 la, .int .i64 lb, .int .i32 lnn, .string lsym] 39 (0, 0))) := Lib.hid HN4.out
              obtain ⟨m0, m1, m2, mf⟩ := HR4.out.im.cells
              have a0 : (W4.alloc (.cells #[.int .i64 lk, .int .i64 lo, .int .i64 ld, .int .i64 la, .int .i64 lb, .int .i32 lnn, .string lsym] 39)).drew.cell? ⟨m, 0, none⟩ = some (.slice A acc.length c) := Chg.readR ((Chg.refl [] W4).alloc _) m 0 (by simp) m0
              have hmA : m ∉ blk A := fun hk => (HR4.out.bl _ hk).2.1 rfl
              have q0 : w7.cell? ⟨m, 0, none⟩ = some (.slice A acc.length c) := Chg.readR hc7' m 0 hmA m0
              have g0 : w7.frozen? ⟨m, 0, none⟩ = false := by
                rw [World.frozen?_of_block (w := W4) (a := ⟨m, 0, none⟩) (hc7'.same m (World.block_lt_of_cell? W4 _ m0) hmA)]
                exact mf 0
              have HR7 := Lib.hid hR7
              clear hrun hc7 hc7' hR7 hbxlt m1 m2 mf hmA
              refine wp_region_held_drew (S := fun V => V.heap[bx]? = some (.cells #[.int .i64 lk, .int .i64 lo, .int .i64 ld, .int .i64 la, .int .i64 lb, .int .i32 lnn, .string lsym] 39 (0, 0))) (by kernel_rfl) HB0.out (fun _ => ?_)
              refine takeH 0 33 (v := (.pointer (some ⟨m, 0, none⟩))) rfl rfl (by kernel_rfl) (by kernel_rfl) (by kernel_rfl) (fun _ _ _ h => h) (by rfl) ?_ HB0.out ?_
              · intro w hSw
                obtain ⟨y0, y1, y2, y3, y4, y5, y6, yf⟩ := box7 hSw
                go_simp
              try simp only [Act.put, List.setIfInBounds_toArray, List.set_cons_zero, List.set_cons_succ]
              refine takeH 1 34 (v := (.pointer (some ⟨m, 0, none⟩))) rfl rfl (by kernel_rfl) (by kernel_rfl) (by kernel_rfl) (fun _ _ _ h => h) (by rfl) ?_ HB0.out ?_
              · intro w hSw
                obtain ⟨y0, y1, y2, y3, y4, y5, y6, yf⟩ := box7 hSw
                go_simp
              try simp only [Act.put, List.setIfInBounds_toArray, List.set_cons_zero, List.set_cons_succ]
              refine takeH 2 35 (v := (.pointer (some ⟨m, 0, none⟩))) rfl rfl (by kernel_rfl) (by kernel_rfl) (by kernel_rfl) (fun _ _ _ h => h) (by rfl) ?_ HB0.out ?_
              · intro w hSw
                obtain ⟨y0, y1, y2, y3, y4, y5, y6, yf⟩ := box7 hSw
                go_simp
              try simp only [Act.put, List.setIfInBounds_toArray, List.set_cons_zero, List.set_cons_succ]
              refine takeH 3 36 (v := (.pointer (some ⟨m, 0, none⟩))) rfl rfl (by kernel_rfl) (by kernel_rfl) (by kernel_rfl) (fun _ _ _ h => h) (by rfl) ?_ HB0.out ?_
              · intro w hSw
                obtain ⟨y0, y1, y2, y3, y4, y5, y6, yf⟩ := box7 hSw
                go_simp
              try simp only [Act.put, List.setIfInBounds_toArray, List.set_cons_zero, List.set_cons_succ]
              refine takeH 5 38 (v := (.agg #[.int .i64 lk, .int .i64 lo, .int .i64 ld, .int .i64 la, .int .i64 lb, .int .i32 lnn, .string lsym])) rfl rfl (by kernel_rfl) (by kernel_rfl) (by kernel_rfl) (fun _ _ _ h => h) (by rfl) ?_ HB0.out ?_
              · intro w hSw
                obtain ⟨y0, y1, y2, y3, y4, y5, y6, yf⟩ := box7 hSw
                go_simp
              try simp only [Act.put, List.setIfInBounds_toArray, List.set_cons_zero, List.set_cons_succ]
              refine wpAnyH_ready (rs := [4, 6]) (by kernel_rfl) (by simp) ?_
              refine AllReadyH.cons rfl (fun K hK => ?_) (AllReadyH.cons rfl (fun K hK => ?_) AllReadyH.nil)
              · go_simp
                refine hK.out _ _ HB0.out (fun _ => ?_)
                clear hK K
                try simp only [Act.put, List.setIfInBounds_toArray, List.set_cons_zero, List.set_cons_succ]
                refine wpAnyH_ready (rs := [6]) (by kernel_rfl) (by simp) ?_
                refine AllReadyH.cons rfl (fun K hK => ?_) AllReadyH.nil
                go_simp
                refine hK.out _ _ HBA.out (fun _ => ?_)
                clear hK K
                try simp only [Act.put, List.setIfInBounds_toArray, List.set_cons_zero, List.set_cons_succ]
                refine wpAnyH_ready (rs := [7]) (by kernel_rfl) (by simp) ?_
                refine appendT_ready rfl (by kernel_rfl) _ _ _ _ rfl _ _ rfl rfl _ _ HRUN.out HB7.out ?_
                try simp only [Act.put, List.setIfInBounds_toArray, List.set_cons_zero, List.set_cons_succ]
                refine takeH 8 41 (v := (.pointer (some ⟨m, 0, none⟩))) rfl rfl (by kernel_rfl) (by kernel_rfl) (by kernel_rfl) (fun _ _ _ h => h) (by rfl) ?_ HB7.out ?_
                · intro w hSw
                  obtain ⟨y0, y1, y2, y3, y4, y5, y6, yf⟩ := box7 hSw
                  go_simp
                try simp only [Act.put, List.setIfInBounds_toArray, List.set_cons_zero, List.set_cons_succ]
                refine takeH 9 42 (v := (.pointer (some ⟨m, 0, none⟩))) rfl rfl (by kernel_rfl) (by kernel_rfl) (by kernel_rfl) (fun _ _ _ h => h) (by rfl) ?_ HB7.out ?_
                · intro w hSw
                  obtain ⟨y0, y1, y2, y3, y4, y5, y6, yf⟩ := box7 hSw
                  go_simp
                try simp only [Act.put, List.setIfInBounds_toArray, List.set_cons_zero, List.set_cons_succ]
                refine wpAnyH_ready (rs := [10]) (by kernel_rfl) (by simp) ?_
                refine AllReadyH.cons rfl (fun K hK => ?_) AllReadyH.nil
                go_simp
                refine hK.out _ _ HB8.out (fun _ => ?_)
                clear hK K
                try simp only [Act.put, List.setIfInBounds_toArray, List.set_cons_zero, List.set_cons_succ]
                refine wpAnyH_done (by kernel_rfl) ?_ _
                go_wp2_with fail
                go_roundw
                case rel => exact ⟨k + 1, by omega, by go_num, Lib.hid ⟨acc ++ [⟨lk, lo, ld, la, lb, lnn, lsym⟩], A', c', by have := HAL.out; simp; omega, by
                  rw [HRES.out]
                  show (if lk = 2 then (if okJ (fixL f ⟨lk, lo, ld, la, lb, lnn, lsym⟩ acc.length) = true then resI f (acc ++ [fixL f ⟨lk, lo, ld, la, lb, lnn, lsym⟩ acc.length]) (ls.drop (k + 1)) else none) else resI f acc (ls.drop (k + 1))) = _
                  rw [if_pos HK2.out, HFX.out, if_pos HOK.out], HR7.out⟩⟩
                case measure => simp [intOf] <;> omega
              · go_simp
                refine hK.out _ _ HBA.out (fun _ => ?_)
                clear hK K
                try simp only [Act.put, List.setIfInBounds_toArray, List.set_cons_zero, List.set_cons_succ]
                refine wpAnyH_ready (rs := [4]) (by kernel_rfl) (by simp) ?_
                refine AllReadyH.cons rfl (fun K hK => ?_) AllReadyH.nil
                go_simp
                refine hK.out _ _ HBA.out (fun _ => ?_)
                clear hK K
                try simp only [Act.put, List.setIfInBounds_toArray, List.set_cons_zero, List.set_cons_succ]
                refine wpAnyH_ready (rs := [7]) (by kernel_rfl) (by simp) ?_
                refine appendT_ready rfl (by kernel_rfl) _ _ _ _ rfl _ _ rfl rfl _ _ HRUN.out HB7.out ?_
                try simp only [Act.put, List.setIfInBounds_toArray, List.set_cons_zero, List.set_cons_succ]
                refine takeH 8 41 (v := (.pointer (some ⟨m, 0, none⟩))) rfl rfl (by kernel_rfl) (by kernel_rfl) (by kernel_rfl) (fun _ _ _ h => h) (by rfl) ?_ HB7.out ?_
                · intro w hSw
                  obtain ⟨y0, y1, y2, y3, y4, y5, y6, yf⟩ := box7 hSw
                  go_simp
                try simp only [Act.put, List.setIfInBounds_toArray, List.set_cons_zero, List.set_cons_succ]
                refine takeH 9 42 (v := (.pointer (some ⟨m, 0, none⟩))) rfl rfl (by kernel_rfl) (by kernel_rfl) (by kernel_rfl) (fun _ _ _ h => h) (by rfl) ?_ HB7.out ?_
                · intro w hSw
                  obtain ⟨y0, y1, y2, y3, y4, y5, y6, yf⟩ := box7 hSw
                  go_simp
                try simp only [Act.put, List.setIfInBounds_toArray, List.set_cons_zero, List.set_cons_succ]
                refine wpAnyH_ready (rs := [10]) (by kernel_rfl) (by simp) ?_
                refine AllReadyH.cons rfl (fun K hK => ?_) AllReadyH.nil
                go_simp
                refine hK.out _ _ HB8.out (fun _ => ?_)
                clear hK K
                try simp only [Act.put, List.setIfInBounds_toArray, List.set_cons_zero, List.set_cons_succ]
                refine wpAnyH_done (by kernel_rfl) ?_ _
                go_wp2_with fail
                go_roundw
                case rel => exact ⟨k + 1, by omega, by go_num, Lib.hid ⟨acc ++ [⟨lk, lo, ld, la, lb, lnn, lsym⟩], A', c', by have := HAL.out; simp; omega, by
                  rw [HRES.out]
                  show (if lk = 2 then (if okJ (fixL f ⟨lk, lo, ld, la, lb, lnn, lsym⟩ acc.length) = true then resI f (acc ++ [fixL f ⟨lk, lo, ld, la, lb, lnn, lsym⟩ acc.length]) (ls.drop (k + 1)) else none) else resI f acc (ls.drop (k + 1))) = _
                  rw [if_pos HK2.out, HFX.out, if_pos HOK.out], HR7.out⟩⟩
                case measure => simp [intOf] <;> omega
            · have hfb : (decide (-1048576 ≤ lnn) && decide (lnn < 1048576)) = false := by simpa using hr1
              rw [hfb] at HFT
              have HOK : Hid (okJ ⟨lk, lo, ld, la, lb, lnn, lsym⟩ = false) := Lib.hid (by unfold okJ; dsimp only; rw [hfb, b28]; rfl)
              clear h28 hr1
              go_wp2_with (go_at_call 54; (with_reducible refine (HFT.out _).mono ?_); rintro e w' ⟨rfl, rfl⟩)
              go_ret
              show ResOut w0 m M words n f (resI f [] ls) _ _
              have hz : resI f [] ls = none := by
                rw [HRES.out]
                show (if lk = 2 then (if okJ (fixL f ⟨lk, lo, ld, la, lb, lnn, lsym⟩ acc.length) = true then resI f (acc ++ [fixL f ⟨lk, lo, ld, la, lb, lnn, lsym⟩ acc.length]) (ls.drop (k + 1)) else none) else resI f acc (ls.drop (k + 1))) = _
                rw [if_pos HK2.out, HFX.out, HOK.out]
                rfl
              rw [hz]
              exact ⟨rfl, HR4.out.below⟩
          · have b28 : (lo == 28) = false := by simp [h28]
            clear h28
            go_upto_region 10 with fail
            have HOK : Hid (okJ ⟨lk, lo, ld, la, lb, lnn, lsym⟩ = true) := Lib.hid (by unfold okJ; dsimp only; rw [b28]; rfl)
            obtain ⟨A', c', w7, hrun, hc7, hR7⟩ := HR4.out.drew.push (by have := HAL.out; omega) lk lo ld la lb lnn lsym
            have hc7' : Chg (blk A) W4 w7 := ((Chg.refl (blk A) W4).drew).trans hc7
            have HRUN := Lib.hid hrun
            have hbxlt := (Array.getElem?_eq_some_iff.1 HN4.out).1
            have HB7 : Hid (w7.heap[bx]? = some (.cells #[.int .i64 lk, .int .i64 lo, .int .i64 ld, .int .i64 la, .int .i64 lb, .int .i32 lnn, .string lsym] 39 (0, 0))) := Lib.hid ((hc7'.same bx hbxlt HFAR.out.2.2.1).trans HN4.out)
            have HB8 : Hid ((w7.setCell ⟨m, 0, none⟩ (.slice A' (acc.length + 1) c')).heap[bx]? = some (.cells #[.int .i64 lk, .int .i64 lo, .int .i64 ld, .int .i64 la, .int .i64 lb, .int .i32 lnn, .string lsym] 39 (0, 0))) := Lib.hid ((setCell_off _ _ _ _ _ HFAR.out.1).trans HB7.out)
            have HBA : Hid ((W4.alloc (.cells #[.int .i64 lk, .int .i64 lo, .int .i64 ld, .int .i64 la, .int .i64 lb, .int .i32 lnn, .string lsym] 39)).drew.heap[bx]? = some (.cells #[.int .i64 lk, .int .i64 lo, .int .i64 ld, .int .i64 la, .int .i64 lb, .int .i32 lnn, .string lsym] 39 (0, 0))) := Lib.hid ((((Below.refl W4.heap.size W4).alloc (Nat.le_refl _) _).block bx hbxlt).trans HN4.out)
            have HB0 : Hid (W4.drew.heap[bx]? = some (.cells #[.int .i64 lk, .int .i64 lo, .int .i64 ld, .int .i64 la, .int .i64 lb, .int .i32 lnn, .string lsym] 39 (0, 0))) := Lib.hid HN4.out
            obtain ⟨m0, m1, m2, mf⟩ := HR4.out.im.cells
            have a0 : (W4.alloc (.cells #[.int .i64 lk, .int .i64 lo, .int .i64 ld, .int .i64 la, .int .i64 lb, .int .i32 lnn, .string lsym] 39)).drew.cell? ⟨m, 0, none⟩ = some (.slice A acc.length c) := Chg.readR ((Chg.refl [] W4).alloc _) m 0 (by simp) m0
            have hmA : m ∉ blk A := fun hk => (HR4.out.bl _ hk).2.1 rfl
            have q0 : w7.cell? ⟨m, 0, none⟩ = some (.slice A acc.length c) := Chg.readR hc7' m 0 hmA m0
            have g0 : w7.frozen? ⟨m, 0, none⟩ = false := by
              rw [World.frozen?_of_block (w := W4) (a := ⟨m, 0, none⟩) (hc7'.same m (World.block_lt_of_cell? W4 _ m0) hmA)]
              exact mf 0
            have HR7 := Lib.hid hR7
            clear hrun hc7 hc7' hR7 hbxlt m1 m2 mf hmA
            refine wp_region_held_drew (S := fun V => V.heap[bx]? = some (.cells #[.int .i64 lk, .int .i64 lo, .int .i64 ld, .int .i64 la, .int .i64 lb, .int .i32 lnn, .string lsym] 39 (0, 0))) (by kernel_rfl) HB0.out (fun _ => ?_)
            refine takeH 0 33 (v := (.pointer (some ⟨m, 0, none⟩))) rfl rfl (by kernel_rfl) (by kernel_rfl) (by kernel_rfl) (fun _ _ _ h => h) (by rfl) ?_ HB0.out ?_
            · intro w hSw
              obtain ⟨y0, y1, y2, y3, y4, y5, y6, yf⟩ := box7 hSw
              go_simp
            try simp only [Act.put, List.setIfInBounds_toArray, List.set_cons_zero, List.set_cons_succ]
            refine takeH 1 34 (v := (.pointer (some ⟨m, 0, none⟩))) rfl rfl (by kernel_rfl) (by kernel_rfl) (by kernel_rfl) (fun _ _ _ h => h) (by rfl) ?_ HB0.out ?_
            · intro w hSw
              obtain ⟨y0, y1, y2, y3, y4, y5, y6, yf⟩ := box7 hSw
              go_simp
            try simp only [Act.put, List.setIfInBounds_toArray, List.set_cons_zero, List.set_cons_succ]
            refine takeH 2 35 (v := (.pointer (some ⟨m, 0, none⟩))) rfl rfl (by kernel_rfl) (by kernel_rfl) (by kernel_rfl) (fun _ _ _ h => h) (by rfl) ?_ HB0.out ?_
            · intro w hSw
              obtain ⟨y0, y1, y2, y3, y4, y5, y6, yf⟩ := box7 hSw
              go_simp
            try simp only [Act.put, List.setIfInBounds_toArray, List.set_cons_zero, List.set_cons_succ]
            refine takeH 3 36 (v := (.pointer (some ⟨m, 0, none⟩))) rfl rfl (by kernel_rfl) (by kernel_rfl) (by kernel_rfl) (fun _ _ _ h => h) (by rfl) ?_ HB0.out ?_
            · intro w hSw
              obtain ⟨y0, y1, y2, y3, y4, y5, y6, yf⟩ := box7 hSw
              go_simp
            try simp only [Act.put, List.setIfInBounds_toArray, List.set_cons_zero, List.set_cons_succ]
            refine takeH 5 38 (v := (.agg #[.int .i64 lk, .int .i64 lo, .int .i64 ld, .int .i64 la, .int .i64 lb, .int .i32 lnn, .string lsym])) rfl rfl (by kernel_rfl) (by kernel_rfl) (by kernel_rfl) (fun _ _ _ h => h) (by rfl) ?_ HB0.out ?_
            · intro w hSw
              obtain ⟨y0, y1, y2, y3, y4, y5, y6, yf⟩ := box7 hSw
              go_simp
            try simp only [Act.put, List.setIfInBounds_toArray, List.set_cons_zero, List.set_cons_succ]
            refine wpAnyH_ready (rs := [4, 6]) (by kernel_rfl) (by simp) ?_
            refine AllReadyH.cons rfl (fun K hK => ?_) (AllReadyH.cons rfl (fun K hK => ?_) AllReadyH.nil)
            · go_simp
              refine hK.out _ _ HB0.out (fun _ => ?_)
              clear hK K
              try simp only [Act.put, List.setIfInBounds_toArray, List.set_cons_zero, List.set_cons_succ]
              refine wpAnyH_ready (rs := [6]) (by kernel_rfl) (by simp) ?_
              refine AllReadyH.cons rfl (fun K hK => ?_) AllReadyH.nil
              go_simp
              refine hK.out _ _ HBA.out (fun _ => ?_)
              clear hK K
              try simp only [Act.put, List.setIfInBounds_toArray, List.set_cons_zero, List.set_cons_succ]
              refine wpAnyH_ready (rs := [7]) (by kernel_rfl) (by simp) ?_
              refine appendT_ready rfl (by kernel_rfl) _ _ _ _ rfl _ _ rfl rfl _ _ HRUN.out HB7.out ?_
              try simp only [Act.put, List.setIfInBounds_toArray, List.set_cons_zero, List.set_cons_succ]
              refine takeH 8 41 (v := (.pointer (some ⟨m, 0, none⟩))) rfl rfl (by kernel_rfl) (by kernel_rfl) (by kernel_rfl) (fun _ _ _ h => h) (by rfl) ?_ HB7.out ?_
              · intro w hSw
                obtain ⟨y0, y1, y2, y3, y4, y5, y6, yf⟩ := box7 hSw
                go_simp
              try simp only [Act.put, List.setIfInBounds_toArray, List.set_cons_zero, List.set_cons_succ]
              refine takeH 9 42 (v := (.pointer (some ⟨m, 0, none⟩))) rfl rfl (by kernel_rfl) (by kernel_rfl) (by kernel_rfl) (fun _ _ _ h => h) (by rfl) ?_ HB7.out ?_
              · intro w hSw
                obtain ⟨y0, y1, y2, y3, y4, y5, y6, yf⟩ := box7 hSw
                go_simp
              try simp only [Act.put, List.setIfInBounds_toArray, List.set_cons_zero, List.set_cons_succ]
              refine wpAnyH_ready (rs := [10]) (by kernel_rfl) (by simp) ?_
              refine AllReadyH.cons rfl (fun K hK => ?_) AllReadyH.nil
              go_simp
              refine hK.out _ _ HB8.out (fun _ => ?_)
              clear hK K
              try simp only [Act.put, List.setIfInBounds_toArray, List.set_cons_zero, List.set_cons_succ]
              refine wpAnyH_done (by kernel_rfl) ?_ _
              go_wp2_with fail
              go_roundw
              case rel => exact ⟨k + 1, by omega, by go_num, Lib.hid ⟨acc ++ [⟨lk, lo, ld, la, lb, lnn, lsym⟩], A', c', by have := HAL.out; simp; omega, by
                rw [HRES.out]
                show (if lk = 2 then (if okJ (fixL f ⟨lk, lo, ld, la, lb, lnn, lsym⟩ acc.length) = true then resI f (acc ++ [fixL f ⟨lk, lo, ld, la, lb, lnn, lsym⟩ acc.length]) (ls.drop (k + 1)) else none) else resI f acc (ls.drop (k + 1))) = _
                rw [if_pos HK2.out, HFX.out, if_pos HOK.out], HR7.out⟩⟩
              case measure => simp [intOf] <;> omega
            · go_simp
              refine hK.out _ _ HBA.out (fun _ => ?_)
              clear hK K
              try simp only [Act.put, List.setIfInBounds_toArray, List.set_cons_zero, List.set_cons_succ]
              refine wpAnyH_ready (rs := [4]) (by kernel_rfl) (by simp) ?_
              refine AllReadyH.cons rfl (fun K hK => ?_) AllReadyH.nil
              go_simp
              refine hK.out _ _ HBA.out (fun _ => ?_)
              clear hK K
              try simp only [Act.put, List.setIfInBounds_toArray, List.set_cons_zero, List.set_cons_succ]
              refine wpAnyH_ready (rs := [7]) (by kernel_rfl) (by simp) ?_
              refine appendT_ready rfl (by kernel_rfl) _ _ _ _ rfl _ _ rfl rfl _ _ HRUN.out HB7.out ?_
              try simp only [Act.put, List.setIfInBounds_toArray, List.set_cons_zero, List.set_cons_succ]
              refine takeH 8 41 (v := (.pointer (some ⟨m, 0, none⟩))) rfl rfl (by kernel_rfl) (by kernel_rfl) (by kernel_rfl) (fun _ _ _ h => h) (by rfl) ?_ HB7.out ?_
              · intro w hSw
                obtain ⟨y0, y1, y2, y3, y4, y5, y6, yf⟩ := box7 hSw
                go_simp
              try simp only [Act.put, List.setIfInBounds_toArray, List.set_cons_zero, List.set_cons_succ]
              refine takeH 9 42 (v := (.pointer (some ⟨m, 0, none⟩))) rfl rfl (by kernel_rfl) (by kernel_rfl) (by kernel_rfl) (fun _ _ _ h => h) (by rfl) ?_ HB7.out ?_
              · intro w hSw
                obtain ⟨y0, y1, y2, y3, y4, y5, y6, yf⟩ := box7 hSw
                go_simp
              try simp only [Act.put, List.setIfInBounds_toArray, List.set_cons_zero, List.set_cons_succ]
              refine wpAnyH_ready (rs := [10]) (by kernel_rfl) (by simp) ?_
              refine AllReadyH.cons rfl (fun K hK => ?_) AllReadyH.nil
              go_simp
              refine hK.out _ _ HB8.out (fun _ => ?_)
              clear hK K
              try simp only [Act.put, List.setIfInBounds_toArray, List.set_cons_zero, List.set_cons_succ]
              refine wpAnyH_done (by kernel_rfl) ?_ _
              go_wp2_with fail
              go_roundw
              case rel => exact ⟨k + 1, by omega, by go_num, Lib.hid ⟨acc ++ [⟨lk, lo, ld, la, lb, lnn, lsym⟩], A', c', by have := HAL.out; simp; omega, by
                rw [HRES.out]
                show (if lk = 2 then (if okJ (fixL f ⟨lk, lo, ld, la, lb, lnn, lsym⟩ acc.length) = true then resI f (acc ++ [fixL f ⟨lk, lo, ld, la, lb, lnn, lsym⟩ acc.length]) (ls.drop (k + 1)) else none) else resI f acc (ls.drop (k + 1))) = _
                rw [if_pos HK2.out, HFX.out, if_pos HOK.out], HR7.out⟩⟩
              case measure => simp [intOf] <;> omega
        | false =>
          have e1 : lsym.toList.isEmpty = false := by rw [ba_toList]; exact hne
          have e2 : ¬ lsym.toList = [] := by rw [ba_toList]; simpa [noS] using hne
          obtain ⟨nv, hnv⟩ : ∃ nv, numI f ⟨lk, lo, ld, la, lb, lnn, lsym⟩ acc.length = nv := ⟨_, rfl⟩
          have HFX : Hid (fixL f ⟨lk, lo, ld, la, lb, lnn, lsym⟩ acc.length = ⟨lk, lo, ld, la, lb, nv, ⟨#[]⟩⟩) := Lib.hid (by unfold fixL; rw [hne, ← hnv]; rfl)
          have hnvb : -2147483648 ≤ nv ∧ nv ≤ 2147483647 := by
            rw [← hnv]
            unfold numI
            split
            · have := split_hi ((f lsym).getD 0 - splitLo ((f lsym).getD 0)); unfold splitHi; dsimp only; omega
            · split
              · have := split_lo ((f lsym).getD 0); unfold splitLo; dsimp only; omega
              · exact wrap_rng _
          have HNB := Lib.hid (number_any W4 m M A acc.length c n words f HR4.out.im HR4.out.sym (by have := HAL.out; omega) lk lo ld la lb lnn lsym hsz)
          rw [hnv] at HNB
          have HK2 := Lib.hid hk2
          obtain ⟨nn1, nn2⟩ := hnvb
          clear hne hk2 hnv hnn
          go_upto_region 7 with (go_at_call 53; (with_reducible refine HNB.out.mono ?_); rintro e w5 ⟨rfl, hb5⟩; have hn5 := (hb5.block bx (Array.getElem?_eq_some_iff.1 HN4.out).1).trans HN4.out; have HN5 := Lib.hid hn5; have HR5 := Lib.hid (HR4.out.grow hb5); obtain ⟨v0, v1, v2, v3, v4, v5, v6, vf⟩ := box7 hn5; clear hb5 hn5)
          obtain ⟨W6, hW6⟩ : ∃ W6, w5.setCell ⟨bx, 5, none⟩ (.int .i32 nv) = W6 := ⟨_, rfl⟩
          obtain ⟨W7, hW7⟩ : ∃ W7, W6.setCell ⟨bx, 6, none⟩ (.string ⟨#[]⟩) = W7 := ⟨_, rfl⟩
          have hn6 : W6.heap[bx]? = some (.cells #[.int .i64 lk, .int .i64 lo, .int .i64 ld, .int .i64 la, .int .i64 lb, .int .i32 nv, .string lsym] 39 (0, 0)) := by rw [← hW6, heap_setCell_same w5 bx 5 _ _ _ HN5.out]; rfl
          have hn7 : W7.heap[bx]? = some (.cells #[.int .i64 lk, .int .i64 lo, .int .i64 ld, .int .i64 la, .int .i64 lb, .int .i32 nv, .string ⟨#[]⟩] 39 (0, 0)) := by rw [← hW7, heap_setCell_same W6 bx 6 _ _ _ hn6]; rfl
          have hc7 : Chg [bx] w5 W7 := by rw [← hW7, ← hW6]; exact ((Chg.refl [bx] w5).setCell bx 5 _ (.inl (by simp))).setCell bx 6 _ (.inl (by simp))
          have HN7 := Lib.hid hn7
          have HR7q := Lib.hid (HR5.out.far hc7 HFAR.out.2.2.2 HFAR.out.1 HFAR.out.2.1 HFAR.out.2.2.1)
          obtain ⟨p0, p1, p2, p3, p4, p5, p6, pf⟩ := box7 hn6
          obtain ⟨t0, t1, t2, t3, t4, t5, t6, tf⟩ := box7 hn7
          clear hn6 hn7 hc7
          go_upto_region 8 with fail
          clear hW6 hW7 v0 v1 v2 v3 v4 v5 v6 vf p0 p1 p2 p3 p4 p5 p6 pf u0 u1 u2 u3 u4 u5 u6 uf
          by_cases h28 : lo = 28
          · have b28 : (lo == 28) = true := by simp [h28]
            have HFT := Lib.hid (fits_21 (nv) (by omega) (by omega))
            by_cases hr1 : -1048576 ≤ nv ∧ nv < 1048576
            · have hfb : (decide (-1048576 ≤ nv) && decide (nv < 1048576)) = true := by simp [hr1]
              rw [hfb] at HFT
              clear h28 hr1
              go_upto_region 10 with (go_at_call 54; (with_reducible refine (HFT.out _).mono ?_); rintro e w' ⟨rfl, rfl⟩)
              have HOK : Hid (okJ ⟨lk, lo, ld, la, lb, nv, ⟨#[]⟩⟩ = true) := Lib.hid (by unfold okJ; dsimp only; rw [hfb]; simp)
              obtain ⟨A', c', w7, hrun, hc7, hR7⟩ := HR7q.out.drew.push (by have := HAL.out; omega) lk lo ld la lb nv ⟨#[]⟩
              have hc7' : Chg (blk A) W7 w7 := ((Chg.refl (blk A) W7).drew).trans hc7
              have HRUN := Lib.hid hrun
              have hbxlt := (Array.getElem?_eq_some_iff.1 HN7.out).1
              have HB7 : Hid (w7.heap[bx]? = some (.cells #[.int .i64 lk, .int .i64 lo, .int .i64 ld, .int .i64 la, .int .i64 lb, .int .i32 nv, .string ⟨#[]⟩] 39 (0, 0))) := Lib.hid ((hc7'.same bx hbxlt HFAR.out.2.2.1).trans HN7.out)
              have HB8 : Hid ((w7.setCell ⟨m, 0, none⟩ (.slice A' (acc.length + 1) c')).heap[bx]? = some (.cells #[.int .i64 lk, .int .i64 lo, .int .i64 ld, .int .i64 la, .int .i64 lb, .int .i32 nv, .string ⟨#[]⟩] 39 (0, 0))) := Lib.hid ((setCell_off _ _ _ _ _ HFAR.out.1).trans HB7.out)
              have HBA : Hid ((W7.alloc (.cells #[.int .i64 lk, .int .i64 lo, .int .i64 ld, .int .i64 la, .int .i64 lb, .int .i32 nv, .string ⟨#[]⟩] 39)).drew.heap[bx]? = some (.cells #[.int .i64 lk, .int .i64 lo, .int .i64 ld, .int .i64 la, .int .i64 lb, .int .i32 nv, .string ⟨#[]⟩] 39 (0, 0))) := Lib.hid ((((Below.refl W7.heap.size W7).alloc (Nat.le_refl _) _).block bx hbxlt).trans HN7.out)
              have HB0 : Hid (W7.drew.heap[bx]? = some (.cells #[.int .i64 lk, .int .i64 lo, .int .i64 ld, .int .i64 la, .int .i64 lb, .int .i32 nv, .string ⟨#[]⟩] 39 (0, 0))) := Lib.hid HN7.out
              obtain ⟨m0, m1, m2, mf⟩ := HR7q.out.im.cells
              have a0 : (W7.alloc (.cells #[.int .i64 lk, .int .i64 lo, .int .i64 ld, .int .i64 la, .int .i64 lb, .int .i32 nv, .string ⟨#[]⟩] 39)).drew.cell? ⟨m, 0, none⟩ = some (.slice A acc.length c) := Chg.readR ((Chg.refl [] W7).alloc _) m 0 (by simp) m0
              have hmA : m ∉ blk A := fun hk => (HR7q.out.bl _ hk).2.1 rfl
              have q0 : w7.cell? ⟨m, 0, none⟩ = some (.slice A acc.length c) := Chg.readR hc7' m 0 hmA m0
              have g0 : w7.frozen? ⟨m, 0, none⟩ = false := by
                rw [World.frozen?_of_block (w := W7) (a := ⟨m, 0, none⟩) (hc7'.same m (World.block_lt_of_cell? W7 _ m0) hmA)]
                exact mf 0
              have HR7 := Lib.hid hR7
              clear hrun hc7 hc7' hR7 hbxlt m1 m2 mf hmA
              refine wp_region_held_drew (S := fun V => V.heap[bx]? = some (.cells #[.int .i64 lk, .int .i64 lo, .int .i64 ld, .int .i64 la, .int .i64 lb, .int .i32 nv, .string ⟨#[]⟩] 39 (0, 0))) (by kernel_rfl) HB0.out (fun _ => ?_)
              refine takeH 0 33 (v := (.pointer (some ⟨m, 0, none⟩))) rfl rfl (by kernel_rfl) (by kernel_rfl) (by kernel_rfl) (fun _ _ _ h => h) (by rfl) ?_ HB0.out ?_
              · intro w hSw
                obtain ⟨y0, y1, y2, y3, y4, y5, y6, yf⟩ := box7 hSw
                go_simp
              try simp only [Act.put, List.setIfInBounds_toArray, List.set_cons_zero, List.set_cons_succ]
              refine takeH 1 34 (v := (.pointer (some ⟨m, 0, none⟩))) rfl rfl (by kernel_rfl) (by kernel_rfl) (by kernel_rfl) (fun _ _ _ h => h) (by rfl) ?_ HB0.out ?_
              · intro w hSw
                obtain ⟨y0, y1, y2, y3, y4, y5, y6, yf⟩ := box7 hSw
                go_simp
              try simp only [Act.put, List.setIfInBounds_toArray, List.set_cons_zero, List.set_cons_succ]
              refine takeH 2 35 (v := (.pointer (some ⟨m, 0, none⟩))) rfl rfl (by kernel_rfl) (by kernel_rfl) (by kernel_rfl) (fun _ _ _ h => h) (by rfl) ?_ HB0.out ?_
              · intro w hSw
                obtain ⟨y0, y1, y2, y3, y4, y5, y6, yf⟩ := box7 hSw
                go_simp
              try simp only [Act.put, List.setIfInBounds_toArray, List.set_cons_zero, List.set_cons_succ]
              refine takeH 3 36 (v := (.pointer (some ⟨m, 0, none⟩))) rfl rfl (by kernel_rfl) (by kernel_rfl) (by kernel_rfl) (fun _ _ _ h => h) (by rfl) ?_ HB0.out ?_
              · intro w hSw
                obtain ⟨y0, y1, y2, y3, y4, y5, y6, yf⟩ := box7 hSw
                go_simp
              try simp only [Act.put, List.setIfInBounds_toArray, List.set_cons_zero, List.set_cons_succ]
              refine takeH 5 38 (v := (.agg #[.int .i64 lk, .int .i64 lo, .int .i64 ld, .int .i64 la, .int .i64 lb, .int .i32 nv, .string ⟨#[]⟩])) rfl rfl (by kernel_rfl) (by kernel_rfl) (by kernel_rfl) (fun _ _ _ h => h) (by rfl) ?_ HB0.out ?_
              · intro w hSw
                obtain ⟨y0, y1, y2, y3, y4, y5, y6, yf⟩ := box7 hSw
                go_simp
              try simp only [Act.put, List.setIfInBounds_toArray, List.set_cons_zero, List.set_cons_succ]
              refine wpAnyH_ready (rs := [4, 6]) (by kernel_rfl) (by simp) ?_
              refine AllReadyH.cons rfl (fun K hK => ?_) (AllReadyH.cons rfl (fun K hK => ?_) AllReadyH.nil)
              · go_simp
                refine hK.out _ _ HB0.out (fun _ => ?_)
                clear hK K
                try simp only [Act.put, List.setIfInBounds_toArray, List.set_cons_zero, List.set_cons_succ]
                refine wpAnyH_ready (rs := [6]) (by kernel_rfl) (by simp) ?_
                refine AllReadyH.cons rfl (fun K hK => ?_) AllReadyH.nil
                go_simp
                refine hK.out _ _ HBA.out (fun _ => ?_)
                clear hK K
                try simp only [Act.put, List.setIfInBounds_toArray, List.set_cons_zero, List.set_cons_succ]
                refine wpAnyH_ready (rs := [7]) (by kernel_rfl) (by simp) ?_
                refine appendT_ready rfl (by kernel_rfl) _ _ _ _ rfl _ _ rfl rfl _ _ HRUN.out HB7.out ?_
                try simp only [Act.put, List.setIfInBounds_toArray, List.set_cons_zero, List.set_cons_succ]
                refine takeH 8 41 (v := (.pointer (some ⟨m, 0, none⟩))) rfl rfl (by kernel_rfl) (by kernel_rfl) (by kernel_rfl) (fun _ _ _ h => h) (by rfl) ?_ HB7.out ?_
                · intro w hSw
                  obtain ⟨y0, y1, y2, y3, y4, y5, y6, yf⟩ := box7 hSw
                  go_simp
                try simp only [Act.put, List.setIfInBounds_toArray, List.set_cons_zero, List.set_cons_succ]
                refine takeH 9 42 (v := (.pointer (some ⟨m, 0, none⟩))) rfl rfl (by kernel_rfl) (by kernel_rfl) (by kernel_rfl) (fun _ _ _ h => h) (by rfl) ?_ HB7.out ?_
                · intro w hSw
                  obtain ⟨y0, y1, y2, y3, y4, y5, y6, yf⟩ := box7 hSw
                  go_simp
                try simp only [Act.put, List.setIfInBounds_toArray, List.set_cons_zero, List.set_cons_succ]
                refine wpAnyH_ready (rs := [10]) (by kernel_rfl) (by simp) ?_
                refine AllReadyH.cons rfl (fun K hK => ?_) AllReadyH.nil
                go_simp
                refine hK.out _ _ HB8.out (fun _ => ?_)
                clear hK K
                try simp only [Act.put, List.setIfInBounds_toArray, List.set_cons_zero, List.set_cons_succ]
                refine wpAnyH_done (by kernel_rfl) ?_ _
                go_wp2_with fail
                go_roundw
                case rel => exact ⟨k + 1, by omega, by go_num, Lib.hid ⟨acc ++ [⟨lk, lo, ld, la, lb, nv, ⟨#[]⟩⟩], A', c', by have := HAL.out; simp; omega, by
                  rw [HRES.out]
                  show (if lk = 2 then (if okJ (fixL f ⟨lk, lo, ld, la, lb, lnn, lsym⟩ acc.length) = true then resI f (acc ++ [fixL f ⟨lk, lo, ld, la, lb, lnn, lsym⟩ acc.length]) (ls.drop (k + 1)) else none) else resI f acc (ls.drop (k + 1))) = _
                  rw [if_pos HK2.out, HFX.out, if_pos HOK.out], HR7.out⟩⟩
                case measure => simp [intOf] <;> omega
              · go_simp
                refine hK.out _ _ HBA.out (fun _ => ?_)
                clear hK K
                try simp only [Act.put, List.setIfInBounds_toArray, List.set_cons_zero, List.set_cons_succ]
                refine wpAnyH_ready (rs := [4]) (by kernel_rfl) (by simp) ?_
                refine AllReadyH.cons rfl (fun K hK => ?_) AllReadyH.nil
                go_simp
                refine hK.out _ _ HBA.out (fun _ => ?_)
                clear hK K
                try simp only [Act.put, List.setIfInBounds_toArray, List.set_cons_zero, List.set_cons_succ]
                refine wpAnyH_ready (rs := [7]) (by kernel_rfl) (by simp) ?_
                refine appendT_ready rfl (by kernel_rfl) _ _ _ _ rfl _ _ rfl rfl _ _ HRUN.out HB7.out ?_
                try simp only [Act.put, List.setIfInBounds_toArray, List.set_cons_zero, List.set_cons_succ]
                refine takeH 8 41 (v := (.pointer (some ⟨m, 0, none⟩))) rfl rfl (by kernel_rfl) (by kernel_rfl) (by kernel_rfl) (fun _ _ _ h => h) (by rfl) ?_ HB7.out ?_
                · intro w hSw
                  obtain ⟨y0, y1, y2, y3, y4, y5, y6, yf⟩ := box7 hSw
                  go_simp
                try simp only [Act.put, List.setIfInBounds_toArray, List.set_cons_zero, List.set_cons_succ]
                refine takeH 9 42 (v := (.pointer (some ⟨m, 0, none⟩))) rfl rfl (by kernel_rfl) (by kernel_rfl) (by kernel_rfl) (fun _ _ _ h => h) (by rfl) ?_ HB7.out ?_
                · intro w hSw
                  obtain ⟨y0, y1, y2, y3, y4, y5, y6, yf⟩ := box7 hSw
                  go_simp
                try simp only [Act.put, List.setIfInBounds_toArray, List.set_cons_zero, List.set_cons_succ]
                refine wpAnyH_ready (rs := [10]) (by kernel_rfl) (by simp) ?_
                refine AllReadyH.cons rfl (fun K hK => ?_) AllReadyH.nil
                go_simp
                refine hK.out _ _ HB8.out (fun _ => ?_)
                clear hK K
                try simp only [Act.put, List.setIfInBounds_toArray, List.set_cons_zero, List.set_cons_succ]
                refine wpAnyH_done (by kernel_rfl) ?_ _
                go_wp2_with fail
                go_roundw
                case rel => exact ⟨k + 1, by omega, by go_num, Lib.hid ⟨acc ++ [⟨lk, lo, ld, la, lb, nv, ⟨#[]⟩⟩], A', c', by have := HAL.out; simp; omega, by
                  rw [HRES.out]
                  show (if lk = 2 then (if okJ (fixL f ⟨lk, lo, ld, la, lb, lnn, lsym⟩ acc.length) = true then resI f (acc ++ [fixL f ⟨lk, lo, ld, la, lb, lnn, lsym⟩ acc.length]) (ls.drop (k + 1)) else none) else resI f acc (ls.drop (k + 1))) = _
                  rw [if_pos HK2.out, HFX.out, if_pos HOK.out], HR7.out⟩⟩
                case measure => simp [intOf] <;> omega
            · have hfb : (decide (-1048576 ≤ nv) && decide (nv < 1048576)) = false := by simpa using hr1
              rw [hfb] at HFT
              have HOK : Hid (okJ ⟨lk, lo, ld, la, lb, nv, ⟨#[]⟩⟩ = false) := Lib.hid (by unfold okJ; dsimp only; rw [hfb, b28]; rfl)
              clear h28 hr1
              go_wp2_with (go_at_call 54; (with_reducible refine (HFT.out _).mono ?_); rintro e w' ⟨rfl, rfl⟩)
              go_ret
              show ResOut w0 m M words n f (resI f [] ls) _ _
              have hz : resI f [] ls = none := by
                rw [HRES.out]
                show (if lk = 2 then (if okJ (fixL f ⟨lk, lo, ld, la, lb, lnn, lsym⟩ acc.length) = true then resI f (acc ++ [fixL f ⟨lk, lo, ld, la, lb, lnn, lsym⟩ acc.length]) (ls.drop (k + 1)) else none) else resI f acc (ls.drop (k + 1))) = _
                rw [if_pos HK2.out, HFX.out, HOK.out]
                rfl
              rw [hz]
              exact ⟨rfl, HR7q.out.below⟩
          · have b28 : (lo == 28) = false := by simp [h28]
            clear h28
            go_upto_region 10 with fail
            have HOK : Hid (okJ ⟨lk, lo, ld, la, lb, nv, ⟨#[]⟩⟩ = true) := Lib.hid (by unfold okJ; dsimp only; rw [b28]; rfl)
            obtain ⟨A', c', w7, hrun, hc7, hR7⟩ := HR7q.out.drew.push (by have := HAL.out; omega) lk lo ld la lb nv ⟨#[]⟩
            have hc7' : Chg (blk A) W7 w7 := ((Chg.refl (blk A) W7).drew).trans hc7
            have HRUN := Lib.hid hrun
            have hbxlt := (Array.getElem?_eq_some_iff.1 HN7.out).1
            have HB7 : Hid (w7.heap[bx]? = some (.cells #[.int .i64 lk, .int .i64 lo, .int .i64 ld, .int .i64 la, .int .i64 lb, .int .i32 nv, .string ⟨#[]⟩] 39 (0, 0))) := Lib.hid ((hc7'.same bx hbxlt HFAR.out.2.2.1).trans HN7.out)
            have HB8 : Hid ((w7.setCell ⟨m, 0, none⟩ (.slice A' (acc.length + 1) c')).heap[bx]? = some (.cells #[.int .i64 lk, .int .i64 lo, .int .i64 ld, .int .i64 la, .int .i64 lb, .int .i32 nv, .string ⟨#[]⟩] 39 (0, 0))) := Lib.hid ((setCell_off _ _ _ _ _ HFAR.out.1).trans HB7.out)
            have HBA : Hid ((W7.alloc (.cells #[.int .i64 lk, .int .i64 lo, .int .i64 ld, .int .i64 la, .int .i64 lb, .int .i32 nv, .string ⟨#[]⟩] 39)).drew.heap[bx]? = some (.cells #[.int .i64 lk, .int .i64 lo, .int .i64 ld, .int .i64 la, .int .i64 lb, .int .i32 nv, .string ⟨#[]⟩] 39 (0, 0))) := Lib.hid ((((Below.refl W7.heap.size W7).alloc (Nat.le_refl _) _).block bx hbxlt).trans HN7.out)
            have HB0 : Hid (W7.drew.heap[bx]? = some (.cells #[.int .i64 lk, .int .i64 lo, .int .i64 ld, .int .i64 la, .int .i64 lb, .int .i32 nv, .string ⟨#[]⟩] 39 (0, 0))) := Lib.hid HN7.out
            obtain ⟨m0, m1, m2, mf⟩ := HR7q.out.im.cells
            have a0 : (W7.alloc (.cells #[.int .i64 lk, .int .i64 lo, .int .i64 ld, .int .i64 la, .int .i64 lb, .int .i32 nv, .string ⟨#[]⟩] 39)).drew.cell? ⟨m, 0, none⟩ = some (.slice A acc.length c) := Chg.readR ((Chg.refl [] W7).alloc _) m 0 (by simp) m0
            have hmA : m ∉ blk A := fun hk => (HR7q.out.bl _ hk).2.1 rfl
            have q0 : w7.cell? ⟨m, 0, none⟩ = some (.slice A acc.length c) := Chg.readR hc7' m 0 hmA m0
            have g0 : w7.frozen? ⟨m, 0, none⟩ = false := by
              rw [World.frozen?_of_block (w := W7) (a := ⟨m, 0, none⟩) (hc7'.same m (World.block_lt_of_cell? W7 _ m0) hmA)]
              exact mf 0
            have HR7 := Lib.hid hR7
            clear hrun hc7 hc7' hR7 hbxlt m1 m2 mf hmA
            refine wp_region_held_drew (S := fun V => V.heap[bx]? = some (.cells #[.int .i64 lk, .int .i64 lo, .int .i64 ld, .int .i64 la, .int .i64 lb, .int .i32 nv, .string ⟨#[]⟩] 39 (0, 0))) (by kernel_rfl) HB0.out (fun _ => ?_)
            refine takeH 0 33 (v := (.pointer (some ⟨m, 0, none⟩))) rfl rfl (by kernel_rfl) (by kernel_rfl) (by kernel_rfl) (fun _ _ _ h => h) (by rfl) ?_ HB0.out ?_
            · intro w hSw
              obtain ⟨y0, y1, y2, y3, y4, y5, y6, yf⟩ := box7 hSw
              go_simp
            try simp only [Act.put, List.setIfInBounds_toArray, List.set_cons_zero, List.set_cons_succ]
            refine takeH 1 34 (v := (.pointer (some ⟨m, 0, none⟩))) rfl rfl (by kernel_rfl) (by kernel_rfl) (by kernel_rfl) (fun _ _ _ h => h) (by rfl) ?_ HB0.out ?_
            · intro w hSw
              obtain ⟨y0, y1, y2, y3, y4, y5, y6, yf⟩ := box7 hSw
              go_simp
            try simp only [Act.put, List.setIfInBounds_toArray, List.set_cons_zero, List.set_cons_succ]
            refine takeH 2 35 (v := (.pointer (some ⟨m, 0, none⟩))) rfl rfl (by kernel_rfl) (by kernel_rfl) (by kernel_rfl) (fun _ _ _ h => h) (by rfl) ?_ HB0.out ?_
            · intro w hSw
              obtain ⟨y0, y1, y2, y3, y4, y5, y6, yf⟩ := box7 hSw
              go_simp
            try simp only [Act.put, List.setIfInBounds_toArray, List.set_cons_zero, List.set_cons_succ]
            refine takeH 3 36 (v := (.pointer (some ⟨m, 0, none⟩))) rfl rfl (by kernel_rfl) (by kernel_rfl) (by kernel_rfl) (fun _ _ _ h => h) (by rfl) ?_ HB0.out ?_
            · intro w hSw
              obtain ⟨y0, y1, y2, y3, y4, y5, y6, yf⟩ := box7 hSw
              go_simp
            try simp only [Act.put, List.setIfInBounds_toArray, List.set_cons_zero, List.set_cons_succ]
            refine takeH 5 38 (v := (.agg #[.int .i64 lk, .int .i64 lo, .int .i64 ld, .int .i64 la, .int .i64 lb, .int .i32 nv, .string ⟨#[]⟩])) rfl rfl (by kernel_rfl) (by kernel_rfl) (by kernel_rfl) (fun _ _ _ h => h) (by rfl) ?_ HB0.out ?_
            · intro w hSw
              obtain ⟨y0, y1, y2, y3, y4, y5, y6, yf⟩ := box7 hSw
              go_simp
            try simp only [Act.put, List.setIfInBounds_toArray, List.set_cons_zero, List.set_cons_succ]
            refine wpAnyH_ready (rs := [4, 6]) (by kernel_rfl) (by simp) ?_
            refine AllReadyH.cons rfl (fun K hK => ?_) (AllReadyH.cons rfl (fun K hK => ?_) AllReadyH.nil)
            · go_simp
              refine hK.out _ _ HB0.out (fun _ => ?_)
              clear hK K
              try simp only [Act.put, List.setIfInBounds_toArray, List.set_cons_zero, List.set_cons_succ]
              refine wpAnyH_ready (rs := [6]) (by kernel_rfl) (by simp) ?_
              refine AllReadyH.cons rfl (fun K hK => ?_) AllReadyH.nil
              go_simp
              refine hK.out _ _ HBA.out (fun _ => ?_)
              clear hK K
              try simp only [Act.put, List.setIfInBounds_toArray, List.set_cons_zero, List.set_cons_succ]
              refine wpAnyH_ready (rs := [7]) (by kernel_rfl) (by simp) ?_
              refine appendT_ready rfl (by kernel_rfl) _ _ _ _ rfl _ _ rfl rfl _ _ HRUN.out HB7.out ?_
              try simp only [Act.put, List.setIfInBounds_toArray, List.set_cons_zero, List.set_cons_succ]
              refine takeH 8 41 (v := (.pointer (some ⟨m, 0, none⟩))) rfl rfl (by kernel_rfl) (by kernel_rfl) (by kernel_rfl) (fun _ _ _ h => h) (by rfl) ?_ HB7.out ?_
              · intro w hSw
                obtain ⟨y0, y1, y2, y3, y4, y5, y6, yf⟩ := box7 hSw
                go_simp
              try simp only [Act.put, List.setIfInBounds_toArray, List.set_cons_zero, List.set_cons_succ]
              refine takeH 9 42 (v := (.pointer (some ⟨m, 0, none⟩))) rfl rfl (by kernel_rfl) (by kernel_rfl) (by kernel_rfl) (fun _ _ _ h => h) (by rfl) ?_ HB7.out ?_
              · intro w hSw
                obtain ⟨y0, y1, y2, y3, y4, y5, y6, yf⟩ := box7 hSw
                go_simp
              try simp only [Act.put, List.setIfInBounds_toArray, List.set_cons_zero, List.set_cons_succ]
              refine wpAnyH_ready (rs := [10]) (by kernel_rfl) (by simp) ?_
              refine AllReadyH.cons rfl (fun K hK => ?_) AllReadyH.nil
              go_simp
              refine hK.out _ _ HB8.out (fun _ => ?_)
              clear hK K
              try simp only [Act.put, List.setIfInBounds_toArray, List.set_cons_zero, List.set_cons_succ]
              refine wpAnyH_done (by kernel_rfl) ?_ _
              go_wp2_with fail
              go_roundw
              case rel => exact ⟨k + 1, by omega, by go_num, Lib.hid ⟨acc ++ [⟨lk, lo, ld, la, lb, nv, ⟨#[]⟩⟩], A', c', by have := HAL.out; simp; omega, by
                rw [HRES.out]
                show (if lk = 2 then (if okJ (fixL f ⟨lk, lo, ld, la, lb, lnn, lsym⟩ acc.length) = true then resI f (acc ++ [fixL f ⟨lk, lo, ld, la, lb, lnn, lsym⟩ acc.length]) (ls.drop (k + 1)) else none) else resI f acc (ls.drop (k + 1))) = _
                rw [if_pos HK2.out, HFX.out, if_pos HOK.out], HR7.out⟩⟩
              case measure => simp [intOf] <;> omega
            · go_simp
              refine hK.out _ _ HBA.out (fun _ => ?_)
              clear hK K
              try simp only [Act.put, List.setIfInBounds_toArray, List.set_cons_zero, List.set_cons_succ]
              refine wpAnyH_ready (rs := [4]) (by kernel_rfl) (by simp) ?_
              refine AllReadyH.cons rfl (fun K hK => ?_) AllReadyH.nil
              go_simp
              refine hK.out _ _ HBA.out (fun _ => ?_)
              clear hK K
              try simp only [Act.put, List.setIfInBounds_toArray, List.set_cons_zero, List.set_cons_succ]
              refine wpAnyH_ready (rs := [7]) (by kernel_rfl) (by simp) ?_
              refine appendT_ready rfl (by kernel_rfl) _ _ _ _ rfl _ _ rfl rfl _ _ HRUN.out HB7.out ?_
              try simp only [Act.put, List.setIfInBounds_toArray, List.set_cons_zero, List.set_cons_succ]
              refine takeH 8 41 (v := (.pointer (some ⟨m, 0, none⟩))) rfl rfl (by kernel_rfl) (by kernel_rfl) (by kernel_rfl) (fun _ _ _ h => h) (by rfl) ?_ HB7.out ?_
              · intro w hSw
                obtain ⟨y0, y1, y2, y3, y4, y5, y6, yf⟩ := box7 hSw
                go_simp
              try simp only [Act.put, List.setIfInBounds_toArray, List.set_cons_zero, List.set_cons_succ]
              refine takeH 9 42 (v := (.pointer (some ⟨m, 0, none⟩))) rfl rfl (by kernel_rfl) (by kernel_rfl) (by kernel_rfl) (fun _ _ _ h => h) (by rfl) ?_ HB7.out ?_
              · intro w hSw
                obtain ⟨y0, y1, y2, y3, y4, y5, y6, yf⟩ := box7 hSw
                go_simp
              try simp only [Act.put, List.setIfInBounds_toArray, List.set_cons_zero, List.set_cons_succ]
              refine wpAnyH_ready (rs := [10]) (by kernel_rfl) (by simp) ?_
              refine AllReadyH.cons rfl (fun K hK => ?_) AllReadyH.nil
              go_simp
              refine hK.out _ _ HB8.out (fun _ => ?_)
              clear hK K
              try simp only [Act.put, List.setIfInBounds_toArray, List.set_cons_zero, List.set_cons_succ]
              refine wpAnyH_done (by kernel_rfl) ?_ _
              go_wp2_with fail
              go_roundw
              case rel => exact ⟨k + 1, by omega, by go_num, Lib.hid ⟨acc ++ [⟨lk, lo, ld, la, lb, nv, ⟨#[]⟩⟩], A', c', by have := HAL.out; simp; omega, by
                rw [HRES.out]
                show (if lk = 2 then (if okJ (fixL f ⟨lk, lo, ld, la, lb, lnn, lsym⟩ acc.length) = true then resI f (acc ++ [fixL f ⟨lk, lo, ld, la, lb, lnn, lsym⟩ acc.length]) (ls.drop (k + 1)) else none) else resI f acc (ls.drop (k + 1))) = _
                rw [if_pos HK2.out, HFX.out, if_pos HOK.out], HR7.out⟩⟩
              case measure => simp [intOf] <;> omega
      · have b2 : (lk == 2) = false := by simp [hk2]
        have HK2 := Lib.hid hk2
        clear hk2
        go_wp2_with fail
        go_roundw
        case rel => exact ⟨k + 1, by omega, by go_num, Lib.hid ⟨acc, A, c, by have := HAL.out; omega, by
          rw [HRES.out]
          show (if lk = 2 then (if okJ (fixL f ⟨lk, lo, ld, la, lb, lnn, lsym⟩ acc.length) = true then resI f (acc ++ [fixL f ⟨lk, lo, ld, la, lb, lnn, lsym⟩ acc.length]) (ls.drop (k + 1)) else none) else resI f acc (ls.drop (k + 1))) = _
          rw [if_neg HK2.out], HR4.out⟩⟩
        case measure => simp [intOf] <;> omega
    · obtain rfl : ln = k := by omega
      obtain ⟨acc, A, c, hal, hres, hR⟩ := HI.out
      have HRES : Hid (resI f [] ls = some acc) := Lib.hid (by rw [hres, List.drop_eq_nil_of_le (by rw [HN.out]; exact Nat.le_refl _)]; rfl)
      have HRR := Lib.hid hR
      clear HI hres hR
      go_wp2_with fail
      go_ret
      show ResOut w0 m M words n f (resI f [] ls) _ _
      rw [HRES.out]
      exact ⟨rfl, A, c, HRR.out⟩
end Rv
end Go.Proofs.Ytmedhibjkbahpaa
namespace Go.Proofs.Ytmedhibjkbahpaa
open Go.RowKit
set_option linter.unusedVariables false
set_option linter.unusedSimpArgs false
set_option maxRecDepth 100000
namespace Rv
/-- What loading comes to. -/
inductive LR where
  | err (k : Int)
  | ok (acc : List Ln) (f : ByteArray → Option Int) (words : Int)
def loadI (mg : Gl → Bool) (ml : Ln → Bool) (gs : List Gl) (st : Int) (ls : List Ln) : LR :=
  if mayA mg ml gs st ls = true then
    if (layG ls gs).ok = true then
      if knowsB (layG ls gs).f ls = true then
        match resI (layG ls gs).f [] ls with
        | none => .err 2
        | some acc => if 16384 < wordsG gs then .err 2 else .ok acc (layG ls gs).f ((layG ls gs).cnt + (st + 3) / 4)
      else .err 21
    else .err 20
  else .err 1
def LoadOut (w : World) (r : LR) (e : Ending) (w' : World) : Prop :=
  match r with
  | .err k => e = .returned (.tuple #[.pointer none, .int .i64 k]) ∧ Below w.heap.size w w'
  | .ok acc f words => ∃ m M A c n, e = .returned (.tuple #[.pointer (some ⟨m, 0, none⟩), .int .i64 0]) ∧ ResAt w m M w' A c acc words n f
theorem mayA_parts {mg : Gl → Bool} {ml : Ln → Bool} {gs : List Gl} {st : Int} {ls : List Ln} (h : mayA mg ml gs st ls = true) : gs.length ≤ 64 ∧ (∀ g ∈ gs, mg g = true) ∧ (0 ≤ st ∧ st ≤ 16777216) ∧ ∀ l ∈ ls, ml l = true := by
  unfold mayA at h
  simp only [Bool.and_eq_true, decide_eq_true_eq, List.all_eq_true] at h
  exact ⟨h.1.1.1, h.1.1.2, h.1.2, h.2⟩
set_option maxHeartbeats 6400000 in
theorem load_any (mg : Gl → Bool) (ml : Ln → Bool) (w : World) (GA LA : Option Addr) (gn gc ln lc : Nat) (st : Int) (gs : List Gl) (ls : List Ln) (hG : GlsAt w GA gn gs) (hL : LnsAt w LA ln ls) (hgn : gn ≤ 1000) (hln : ln ≤ 1000)
    (HG : ∀ l ∈ gs, ∀ W, Calls Try.prog 47 #[l.val] W fun e w' => e = .returned (.bool (mg l)) ∧ Below W.heap.size W w')
    (HL : ∀ l ∈ ls, ∀ W, Calls Try.prog 50 #[l.val] W fun e w' => e = .returned (.bool (ml l)) ∧ Below W.heap.size W w')
    (hmg : ∀ g ∈ gs, mg g = true → 0 ≤ g.size ∧ g.size ≤ 4096) (hgs : ∀ g ∈ gs, g.name.size ≤ 1000000) (hls : ∀ l ∈ ls, l.s.size ≤ 1000000) (hnn : ∀ l ∈ ls, -2147483648 ≤ l.n ∧ l.n ≤ 2147483647) :
    Calls Try.prog 9 #[.agg #[.slice GA gn gc, .int .i64 st, .slice LA ln lc]] w (LoadOut w (loadI mg ml gs st ls)) := by
  have hmm := @run_makeMap Try.prog
  obtain ⟨v, hv⟩ : ∃ v, w.heap.size = v := ⟨_, rfl⟩
  obtain ⟨W1, hW1⟩ : ∃ W1, w.alloc (.cells #[.slice GA gn gc, .int .i64 st, .slice LA ln lc] 25) = W1 := ⟨_, rfl⟩
  have hb1 : Below w.heap.size w W1 := by rw [← hW1]; exact (Below.refl _ _).alloc (Nat.le_refl _) _
  have hbx : W1.heap[v]? = some (.cells #[.slice GA gn gc, .int .i64 st, .slice LA ln lc] 25 (0, 0)) := by rw [← hW1, ← hv]; exact heap_alloc_new w _
  have x0 : W1.cell? ⟨v, 0, none⟩ = some (.slice GA gn gc) := by rw [cell_of_row _ v 0 _ _ (0, 0) hbx]; rfl
  have x1 : W1.cell? ⟨v, 1, none⟩ = some (.int .i64 st) := by rw [cell_of_row _ v 1 _ _ (0, 0) hbx]; rfl
  have x2 : W1.cell? ⟨v, 2, none⟩ = some (.slice LA ln lc) := by rw [cell_of_row _ v 2 _ _ (0, 0) hbx]; rfl
  have HM := Lib.hid (may_any mg ml W1 GA LA gn gc ln lc st gs ls (hG.below hb1) (hL.below hb1) hgn hln HG HL)
  have HV : Hid (v < W1.heap.size ∧ w.heap.size = v) := Lib.hid ⟨(Array.getElem?_eq_some_iff.1 hbx).1, hv⟩
  have HBX := Lib.hid hbx
  have HB1 := Lib.hid hb1
  have HGL := Lib.hid (And.intro hG (And.intro hL (And.intro hmg (And.intro hgs (And.intro hls hnn)))))
  clear hb1 hbx hG hL HG HL hmg hgs hls hnn
  by_cases hmay : mayA mg ml gs st ls = true
  · rw [hmay] at HM
    have HMY := Lib.hid hmay
    obtain ⟨q1, q2, q3, q4⟩ := mayA_parts hmay
    have hgn64 : gn ≤ 64 := by rw [← HGL.out.1.1]; exact q1
    have HQ := Lib.hid (And.intro q2 q3)
    clear q1 q2 q3 q4 hmay
    go_enter Try.func9, Try.ntmps9
    go_upto_region 4 with (go_at_call 25; (with_reducible refine HM.out.mono ?_); rintro e w2 ⟨rfl, hb2⟩; have HB2 := Lib.hid hb2; clear hb2 x0 x1 x2)
    obtain ⟨M, hM⟩ : ∃ M, w2.heap.size = M := ⟨_, rfl⟩
    obtain ⟨W3, hW3⟩ : ∃ W3, w2.alloc (.map #[] 0) = W3 := ⟨_, rfl⟩
    obtain ⟨W4, hW4⟩ : ∃ W4, W3.alloc (.cells #[.slice none 0 0, .map (some M), .int .i64 0] 68) = W4 := ⟨_, rfl⟩
    have s3 : W3.heap.size = M + 1 := by rw [← hW3, ← hM]; simp
    have hb3 : Below w2.heap.size w2 W3 := by rw [← hW3]; exact (Below.refl _ _).alloc (Nat.le_refl _) _
    have hb4 : Below W3.heap.size W3 W4 := by rw [← hW4]; exact (Below.refl _ _).alloc (Nat.le_refl _) _
    have hb24 : Below W1.heap.size W1 W4 := HB2.out.trans ((hb3.trans (hb4.mono hb3.size)).mono HB2.out.size)
    have hb04 : Below w.heap.size w W4 := HB1.out.trans (hb24.mono HB1.out.size)
    have hz1 := HB1.out.size
    have hz2 := HB2.out.size
    have hlay : LayAt W1 (M + 1) M W4 0 0 (fun _ => none) := by
      refine ⟨hb24, by omega, by omega, by omega, ?_, ?_⟩
      · unfold ImAt
        rw [← hW4, ← s3]
        exact heap_alloc_new W3 _
      · have : SymAt W3 M 0 (fun _ => none) := by rw [← hW3, ← hM]; exact SymAt.new w2
        exact this.same (hb4.block M (by omega))
    -- the parameter's box, wherever a run has gone on since
    have HX : Hid (∀ V, Below W1.heap.size W1 V → V.cell? ⟨v, 0, none⟩ = some (.slice GA gn gc) ∧ V.cell? ⟨v, 1, none⟩ = some (.int .i64 st) ∧ V.cell? ⟨v, 2, none⟩ = some (.slice LA ln lc)) := Lib.hid (fun V hV => by
      have h5 := (hV.block v HV.out.1).trans HBX.out
      refine ⟨?_, ?_, ?_⟩ <;> (rw [cell_of_row _ v _ _ _ (0, 0) h5]; rfl))
    obtain ⟨x0, x1, x2⟩ := HX.out W4 hb24
    have HLY := Lib.hid (lay_any W1 W4 (M + 1) M hlay GA LA gn gc ln lc st gs ls (HGL.out.1.below HB1.out) (HGL.out.2.1.below HB1.out) hgn64 hln HGL.out.2.2.2.2.1 (fun g hg => ⟨HGL.out.2.2.2.1 g hg, HGL.out.2.2.1 g hg (HQ.out.1 g hg)⟩) HQ.out.2)
    clear hb3 hb4 hb24 hb04 hlay hz1 hz2
    rw [hM, hW3, hW4]
    clear hW4 hW3 s3 hM hW1
    cases hok : (layG ls gs).ok with
    | false =>
      rw [hok] at HLY
      have HR : Hid (loadI mg ml gs st ls = .err 20) := Lib.hid (by unfold loadI; rw [if_pos HMY.out, if_neg (by rw [hok]; exact Bool.false_ne_true)])
      clear hok
      go_wp2_with (go_at_call 26; (with_reducible refine HLY.out.mono ?_); rintro e w5 ⟨rfl, h5⟩; have H5 := Lib.hid h5.below; clear h5 x0 x1 x2)
      go_ret2
      show LoadOut w (loadI mg ml gs st ls) _ _
      rw [HR.out]
      exact ⟨rfl, HB1.out.trans (H5.out.mono HB1.out.size)⟩
    | true =>
      rw [hok] at HLY
      have HOK := Lib.hid hok
      clear hok
      go_upto_region 6 with (go_at_call 26; (with_reducible refine HLY.out.mono ?_); rintro e w5 ⟨rfl, h5⟩; obtain ⟨y0, y1, y2⟩ := HX.out _ h5.below; have H5 := Lib.hid h5; have HK := Lib.hid (knows_any W1 w5 (M + 1) M _ _ _ h5 LA ln lc ls (HGL.out.2.1.below HB1.out) hln HGL.out.2.2.2.2.1); clear h5 x0 x1 x2)
      cases hkn : knowsB (layG ls gs).f ls with
      | false =>
        have HR : Hid (loadI mg ml gs st ls = .err 21) := Lib.hid (by unfold loadI; rw [if_pos HMY.out, if_pos HOK.out, if_neg (by rw [hkn]; exact Bool.false_ne_true)])
        rw [hkn] at HK
        clear hkn
        go_wp2_with (go_at_call 27; (with_reducible refine HK.out.mono ?_); rintro e w6 ⟨rfl, h6⟩; have H6 := Lib.hid h6.below; clear h6 y0 y1 y2)
        go_ret2
        show LoadOut w (loadI mg ml gs st ls) _ _
        rw [HR.out]
        exact ⟨rfl, HB1.out.trans (H6.out.mono HB1.out.size)⟩
      | true =>
        have HKN := Lib.hid hkn
        rw [hkn] at HK
        clear hkn
        go_upto_region 8 with (go_at_call 27; (with_reducible refine HK.out.mono ?_); rintro e w6 ⟨rfl, h6⟩; obtain ⟨z0, z1, z2⟩ := HX.out _ h6.below; have HRS := Lib.hid (resolve_any W1 w6 (M + 1) M _ _ _ h6 LA ln lc ls (HGL.out.2.1.below HB1.out) hln HGL.out.2.2.2.2.1 HGL.out.2.2.2.2.2); clear h6 y0 y1 y2)
        cases hrs : resI (layG ls gs).f [] ls with
        | none =>
          have HR : Hid (loadI mg ml gs st ls = .err 2) := Lib.hid (by unfold loadI; rw [if_pos HMY.out, if_pos HOK.out, if_pos HKN.out, hrs])
          rw [hrs] at HRS
          clear hrs
          go_wp2_with (go_at_call 28; (with_reducible refine HRS.out.mono ?_); rintro e w7 ⟨rfl, h7⟩; have H7 := Lib.hid h7; clear h7 z0 z1 z2)
          go_ret2
          show LoadOut w (loadI mg ml gs st ls) _ _
          rw [HR.out]
          exact ⟨rfl, HB1.out.trans (H7.out.mono HB1.out.size)⟩
        | some acc =>
          have HR0 : Hid (loadI mg ml gs st ls = if 16384 < wordsG gs then .err 2 else .ok acc (layG ls gs).f ((layG ls gs).cnt + (st + 3) / 4)) := Lib.hid (by unfold loadI; rw [if_pos HMY.out, if_pos HOK.out, if_pos HKN.out, hrs])
          rw [hrs] at HRS
          clear hrs
          have HDW := Lib.hid (fun (V : World) (hV : Below W1.heap.size W1 V) => dataWords_any V GA gn gc gs ((HGL.out.1.below HB1.out).below hV) hgn64 (fun g hg => HGL.out.2.2.1 g hg (HQ.out.1 g hg)))
          by_cases hbig : 16384 < wordsG gs
          · have HR : Hid (loadI mg ml gs st ls = .err 2) := Lib.hid (by rw [HR0.out, if_pos hbig])
            have hb2 : (16384 : Int) < (wordsG gs : Int) := by omega
            generalize (wordsG gs : Int) = wg at *
            go_wp2_with (first
              | (go_at_call 28; (with_reducible refine HRS.out.mono ?_); rintro e w7 ⟨rfl, A7, c7, h7⟩; obtain ⟨t0, t1, t2⟩ := HX.out _ h7.below; have H7 := Lib.hid h7; clear h7 z0 z1 z2)
              | (go_at_call 29; (with_reducible refine (HDW.out _ H7.out.below).mono ?_); rintro e w8 ⟨rfl, h8⟩; have H8 := Lib.hid (H7.out.below.trans (h8.mono H7.out.below.size)); clear h8))
            go_ret2
            show LoadOut w (loadI mg ml gs st ls) _ _
            rw [HR.out]
            exact ⟨rfl, HB1.out.trans (H8.out.mono HB1.out.size)⟩
          · have HR : Hid (loadI mg ml gs st ls = .ok acc (layG ls gs).f ((layG ls gs).cnt + (st + 3) / 4)) := Lib.hid (by rw [HR0.out, if_neg hbig])
            have hb2 : ¬ (16384 : Int) < (wordsG gs : Int) := by omega
            generalize (wordsG gs : Int) = wg at *
            go_wp2_with (first
              | (go_at_call 28; (with_reducible refine HRS.out.mono ?_); rintro e w7 ⟨rfl, A7, c7, h7⟩; obtain ⟨t0, t1, t2⟩ := HX.out _ h7.below; have H7 := Lib.hid h7; clear h7 z0 z1 z2)
              | (go_at_call 29; (with_reducible refine (HDW.out _ H7.out.below).mono ?_); rintro e w8 ⟨rfl, h8⟩; have H8 := Lib.hid (H7.out.grow h8); clear h8))
            go_ret2
            show LoadOut w (loadI mg ml gs st ls) _ _
            rw [HR.out]
            have h9 := H8.out
            have hz := HB1.out.size
            refine ⟨M + 1, M, A7, c7, _, rfl, ⟨HB1.out.trans (h9.below.mono hz), ?_, ?_, h9.ne, h9.im, h9.sym, h9.line, fun k hk => ⟨?_, (h9.bl k hk).2⟩⟩⟩
            · have := h9.mge; omega
            · have := h9.Mge; omega
            · have := (h9.bl k hk).1; omega
  · simp only [Bool.not_eq_true] at hmay
    have HR : Hid (loadI mg ml gs st ls = .err 1) := Lib.hid (by unfold loadI; rw [if_neg (by rw [hmay]; exact Bool.false_ne_true)])
    rw [hmay] at HM
    go_enter Try.func9, Try.ntmps9
    go_wp2_with (go_at_call 25; (with_reducible refine HM.out.mono ?_); rintro e w2 ⟨rfl, hb2⟩; have HB2 := Lib.hid hb2; clear hb2)
    go_ret2
    show LoadOut w (loadI mg ml gs st ls) _ _
    rw [HR.out]
    exact ⟨rfl, HB1.out.trans (HB2.out.mono HB1.out.size)⟩
end Rv
end Go.Proofs.Ytmedhibjkbahpaa
namespace Go.Proofs.Ytmedhibjkbahpaa
open Go.RowKit
set_option linter.unusedVariables false
set_option linter.unusedSimpArgs false
set_option maxRecDepth 100000
namespace Rv
def Ln.ins (l : Ln) : Ins := ⟨l.op, l.d, l.a, l.b, l.n⟩
theorem ins_any (op d a n : Int) (w : World) : Calls Try.prog 23 #[.int .i64 op, .int .i64 d, .int .i64 a, .int .i32 n] w fun e w' => e = .returned (.agg #[.int .i64 2, .int .i64 op, .int .i64 d, .int .i64 a, .int .i64 0, .int .i32 n, .string ⟨#[]⟩]) ∧ Below w.heap.size w w' := by
  go_enter Try.func23, Try.ntmps23
  go_wp2_with fail
  exact bodyPost_ret (results_cell_row rfl _ _ w.heap.size _ _ (0, 0) _ rfl (heap_alloc_new w _) Try.underlying39 rfl (by kernel_rfl)) rfl ⟨rfl, (Below.refl _ _).alloc (Nat.le_refl _) _⟩
/-- An instruction without a symbol. -/
structure Plain (l : Ln) : Prop where
  k : l.k = 2
  s : l.s = ⟨#[]⟩
  n : -2147483648 ≤ l.n ∧ l.n ≤ 2147483647
theorem plain_may {l : Ln} (h : Plain l) (W : World) : Calls Try.prog 50 #[l.val] W fun e w' => e = .returned (.bool (mayI l.ins)) ∧ Below W.heap.size W w' := by
  obtain ⟨k, op, d, a, b, n, s⟩ := l
  obtain ⟨h1, h2, h3⟩ := h
  dsimp only at h1 h2 h3
  subst h1 h2
  exact mayLine_any op d a b n h3.1 h3.2 W
theorem regOk_rng {b : Bool} {r : Int} (h : regOk b r = true) : 0 ≤ r ∧ r < 32 := by
  unfold regOk at h
  split at h
  · simpa using h
  · have : r = 0 := by simpa using h
    omega
theorem ok_of_may {l : Ln} (hk : l.k = 2) (hn : -2147483648 ≤ l.n ∧ l.n ≤ 2147483647) (h : mayI l.ins = true) : l.Ok := by
  unfold mayI Ln.ins at h
  simp only [Bool.and_eq_true, decide_eq_true_eq] at h
  obtain ⟨⟨⟨⟨⟨h1, h2⟩, h3⟩, h4⟩, h5⟩, h6⟩ := h
  refine ⟨hk, ⟨h1, h2⟩, regOk_rng h3, regOk_rng h4, regOk_rng h5, hn, fun hs => ?_⟩
  rcases hs with hs | hs
  · rw [hs] at h3
    have : regOk false l.d = true := h3
    simpa [regOk] using this
  · rw [hs] at h3
    have : regOk false l.d = true := h3
    simpa [regOk] using this
def f0 : ByteArray → Option Int := fun _ => none
theorem noS_empty : noS ⟨#[]⟩ = true := rfl
theorem layL_plain (s : LS) : ∀ ls : List Ln, (∀ l ∈ ls, l.k = 2) → (ls.foldl stepL s).f = s.f ∧ (ls.foldl stepL s).ok = s.ok ∧ (ls.foldl stepL s).n = s.n
  | [], _ => ⟨rfl, rfl, rfl⟩
  | l :: ls, h => by
    have h1 := layL_plain (stepL s l) ls (fun x hx => h x (List.mem_cons_of_mem _ hx))
    have e : stepL s l = { s with cnt := s.cnt + 1 } := by unfold stepL; rw [if_pos (h l (List.mem_cons_self ..))]
    rw [e] at h1
    simp only [List.foldl_cons]
    rw [e]
    exact h1
theorem resI_plain (f : ByteArray → Option Int) : ∀ (ls acc : List Ln), (∀ l ∈ ls, Plain l) → (∀ l ∈ ls, okJ l = true) → resI f acc ls = some (acc ++ ls)
  | [], acc, _, _ => by simp [resI]
  | l :: ls, acc, h, hj => by
    have hl := h l (List.mem_cons_self ..)
    have e : fixL f l acc.length = l := by unfold fixL; rw [hl.s, if_pos noS_empty]
    show (if l.k = 2 then (if okJ (fixL f l acc.length) = true then resI f (acc ++ [fixL f l acc.length]) ls else none) else resI f acc ls) = _
    rw [if_pos hl.k, e, if_pos (hj l (List.mem_cons_self ..)), resI_plain f ls _ (fun x hx => h x (List.mem_cons_of_mem _ hx)) (fun x hx => hj x (List.mem_cons_of_mem _ hx))]
    simp
theorem okJ_of_may {l : Ln} (h : mayI l.ins = true) : okJ l = true := by
  unfold okJ
  by_cases h28 : l.op = 28
  · unfold mayI Ln.ins at h
    simp only [Bool.and_eq_true] at h
    have h6 := h.2
    rw [h28] at h6
    have h7 : numOk 8 l.n = true := h6
    simp [numOk] at h7
    simp
    right
    omega
  · simp [h28]
/-- A program of instructions without symbols, and nothing else, is loaded as it is. -/
theorem loadI_plain (mg : Gl → Bool) {ls : List Ln} (h : ∀ l ∈ ls, Plain l) (hm : ∀ l ∈ ls, mayI l.ins = true) : loadI mg (fun l => mayI l.ins) [] 0 ls = .ok ls f0 0 := by
  have e1 : mayA mg (fun l => mayI l.ins) [] 0 ls = true := by
    unfold mayA
    rw [List.all_eq_true.2 hm]
    rfl
  obtain ⟨g1, g2, g3⟩ := layL_plain ⟨0, fun _ => none, true, 0⟩ ls (fun l hl => (h l hl).k)
  have e2 : (layG ls []).f = f0 ∧ (layG ls []).ok = true ∧ (layG ls []).cnt = 0 := ⟨g1, g2, rfl⟩
  have e3 : knowsB f0 ls = true := by
    unfold knowsB
    exact List.all_eq_true.2 fun l hl => by rw [(h l hl).s, noS_empty]; rfl
  have e4 := resI_plain f0 ls [] h (fun l hl => okJ_of_may (hm l hl))
  unfold loadI
  rw [if_pos e1, if_pos e2.2.1, e2.1, if_pos e3, e4, e2.2.2]
  rfl
theorem load_plain (W : World) (LA : Option Addr) (n c : Nat) (ls : List Ln) (hL : LnsAt W LA n ls) (hn : n ≤ 1000) (h : ∀ l ∈ ls, Plain l) (hm : ∀ l ∈ ls, mayI l.ins = true) :
    Calls Try.prog 9 #[.agg #[.slice none 0 0, .int .i64 0, .slice LA n c]] W (LoadOut W (.ok ls f0 0)) := by
  have := load_any (fun _ => true) (fun l => mayI l.ins) W none LA 0 0 n c 0 [] ls ⟨rfl, fun h => by omega⟩ hL (by omega) hn (fun l hl => by cases hl) (fun l hl W => plain_may (h l hl) W) (fun g hg => by cases hg) (fun g hg => by cases hg) (fun l hl => by rw [(h l hl).s]; exact Nat.zero_le _) (fun l hl => (h l hl).n)
  rw [loadI_plain _ h hm] at this
  exact this
theorem len_any (w : World) (m : Nat) (LA : Option Addr) (ln lc M : Nat) (words : Int) (h : ImAt w m LA ln lc M words) :
    Calls Try.prog 11 #[.pointer (some ⟨m, 0, none⟩)] w fun e w' => e = .returned (.int .i64 (ln : Int)) ∧ w' = w := by
  obtain ⟨y0, y1, y2, y3⟩ := h.cells
  clear h
  go_enter Try.func11, Try.ntmps11
  go_wp2_with fail
  go_ret
  exact ⟨rfl, rfl⟩
theorem SLine.lnsAt {w : World} {A : Option Addr} {c : Nat} {ls : List Ln} (h : SLine 7 w A ls.length c (ls.flatMap Ln.cells)) : LnsAt w A ls.length ls := by
  refine ⟨rfl, fun hn => ?_⟩
  obtain ⟨g, off, e, hg, hc, -⟩ := h.at hn
  refine ⟨g, off, e, hg, fun i l hi j v hj => ?_⟩
  have hj7 : j < 7 := (List.getElem?_eq_some_iff.1 hj).1
  have hi7 : i < ls.length := (List.getElem?_eq_some_iff.1 hi).1
  rw [Nat.add_assoc, hc (i * 7 + j) (by omega)]
  have flat : ∀ (ls : List Ln) (i : Nat), ls[i]? = some l → (ls.flatMap Ln.cells)[i * 7 + j]? = l.cells[j]? := by
    intro ls
    induction ls with
    | nil => intro i h; cases h
    | cons x xs ih =>
      intro i h
      have hx : x.cells.length = 7 := rfl
      rw [List.flatMap_cons]
      cases i with
      | zero =>
        cases h
        rw [List.getElem?_append_left (by rw [hx]; omega), Nat.zero_mul, Nat.zero_add]
      | succ i =>
        rw [List.getElem?_append_right (by rw [hx]; omega), hx, show (i + 1) * 7 + j - 7 = i * 7 + j from by omega]
        exact ih i (by simpa using h)
  rw [flat ls i hi]
  exact hj
/-- What is loaded of such a program runs. -/
theorem run_plain (w0 w : World) (m M : Nat) (A : Option Addr) (c : Nat) (acc : List Ln) (n : Nat) (h : ResAt w0 m M w A c acc 0 n f0) (hok : ∀ l ∈ acc, l.Ok) (hl : acc.length ≤ 1000) (iA : Option Addr) (im ic : Nat) (inp : List Int) (hR : RowK .i32 w iA im inp) (hin : im ≤ 90000) (fuel : Int) (hfu : fuel ≤ 80000) :
    Calls Try.prog 19 #[.pointer (some ⟨m, 0, none⟩), .slice iA im ic, .int .i64 fuel] w (RunOut w (runR acc inp fuel (newS 0 0))) :=
  run_any w m A acc.length c M n 0 f0 h.im h.sym (by omega) acc (SLine.lnsAt h.line) hok (by omega) (by constructor <;> (show _ ≤ _; simp [f0])) iA im ic inp hR hin fuel hfu
theorem setCell_idR {w : World} {b i : Nat} {cs : Array Value} {T : TypeId} {v : Value} (h : w.heap[b]? = some (.cells cs T (0, 0))) (hv : cs[i]? = some v) : w.setCell ⟨b, i, none⟩ v = w := by
  have hi : i < cs.size := (Array.getElem?_eq_some_iff.1 hv).1
  have hset : cs.setIfInBounds i v = cs := by
    apply Array.ext
    · simp
    · intro j h1 h2
      rw [Array.getElem_setIfInBounds]
      split
      · next e => subst e; exact (Array.getElem?_eq_some_iff.1 hv).2.symm
      · rfl
  have hh : (w.setCell ⟨b, i, none⟩ v).heap = w.heap := by
    apply Array.ext_getElem?
    intro k
    by_cases hk : k = b
    · subst hk
      rw [heap_setCell_same w k i _ _ _ h, hset, h]
    · exact heap_setCell_other w _ _ _ hk
  unfold World.setCell at hh ⊢
  simp only at hh
  rw [hh]
/-- The document's example. -/
def liveL : List Ln := [⟨2, 2, 10, 0, 0, 7, ⟨#[]⟩⟩, ⟨2, 2, 17, 0, 0, 3, ⟨#[]⟩⟩, ⟨2, 30, 0, 0, 0, 0, ⟨#[]⟩⟩]
theorem live_plain : ∀ l ∈ liveL, Plain l := by
  intro l hl
  simp only [liveL, List.mem_cons, List.not_mem_nil, or_false] at hl
  rcases hl with rfl | rfl | rfl <;> exact ⟨rfl, rfl, by decide⟩
theorem live_may : ∀ l ∈ liveL, mayI l.ins = true := by
  intro l hl
  simp only [liveL, List.mem_cons, List.not_mem_nil, or_false] at hl
  rcases hl with rfl | rfl | rfl <;> rfl
theorem live_run : runR liveL [] 100 (newS 0 0) = ⟨1, 7, [], 3, 0⟩ := by kernel_rfl
set_option maxHeartbeats 3200000 in
theorem lives18 (w : World) : Calls Try.prog 8 #[] w fun e w' => e = .returned (.bool true) ∧ Below w.heap.size w w' := by
  have HLD := Lib.hid (fun (W : World) (A : Option Addr) (h : LnsAt W A 3 liveL) => load_plain W A 3 3 liveL h (by omega) live_plain live_may)
  have HB := Lib.hid (Below.refl w.heap.size w)
  go_enter Try.func8, Try.ntmps8
  go_wp2_with (go_at_call 23; refine (ins_any _ _ _ _ _).mono ?_; rintro e w' ⟨rfl, hb'⟩; have HB := Lib.hid (HB.out.trans (hb'.mono HB.out.size)); clear hb')
  obtain ⟨W5, hW5⟩ : ∃ W5, w'.alloc (.cells #[.int .i64 2, .int .i64 2, .int .i64 10, .int .i64 0, .int .i64 0, .int .i32 7, .string ⟨#[]⟩, .int .i64 2, .int .i64 2, .int .i64 17, .int .i64 0, .int .i64 0, .int .i32 3, .string ⟨#[]⟩, .int .i64 2, .int .i64 30, .int .i64 0, .int .i64 0, .int .i64 0, .int .i32 0, .string ⟨#[]⟩] 39) = W5 := ⟨_, rfl⟩
  have hL5 : LnsAt W5 (some ⟨w'.heap.size, 0, none⟩) 3 liveL := by
    refine ⟨rfl, fun _ => ⟨w'.heap.size, 0, rfl, by rw [← hW5]; simp, fun i l hi j v hj => ?_⟩⟩
    rw [← hW5, cell_of_row _ _ _ _ _ (0, 0) (heap_alloc_new w' _)]
    have hi3 : i < 3 := (List.getElem?_eq_some_iff.1 hi).1
    have hj7 : j < 7 := (List.getElem?_eq_some_iff.1 hj).1
    obtain rfl | rfl | rfl : i = 0 ∨ i = 1 ∨ i = 2 := by omega
    all_goals
      cases hi
      obtain rfl | rfl | rfl | rfl | rfl | rfl | rfl : j = 0 ∨ j = 1 ∨ j = 2 ∨ j = 3 ∨ j = 4 ∨ j = 5 ∨ j = 6 := by omega
      all_goals
        cases hj
        rfl
  have hb5 : Below w.heap.size w W5 := by
    have h5 : Below w'.heap.size w' W5 := by rw [← hW5]; exact (Below.refl _ _).alloc (Nat.le_refl _) _
    exact HB.out.trans (h5.mono HB.out.size)
  have HB5 := Lib.hid hb5
  clear hb5
  rw [hW5]
  refine (HLD.out W5 _ hL5).mono ?_
  clear hL5 hW5
  rintro e w6 ⟨m, M, A, c, n, rfl, hR⟩
  have HR := Lib.hid hR
  have HRUN := Lib.hid (run_plain W5 w6 m M A c liveL n hR (fun l hl => ok_of_may (live_plain l hl).k (live_plain l hl).n (live_may l hl)) (by decide) none 0 0 [] ⟨rfl, fun h => by omega⟩ (by omega) 100 (by omega))
  rw [live_run] at HRUN
  have HRUN2 := Lib.hid (HRUN.out.mono (R' := fun e w' => ∃ A c, e = .returned (.agg #[.int .i64 1, .int .i32 7, .slice A 0 c, .int .i64 3, .int .i64 0]) ∧ Below w6.heap.size w6 w') (fun e w' h => by
    obtain ⟨A, c, he, _, hb, _⟩ := h
    exact ⟨A, c, he, hb⟩))
  clear hR HRUN
  go_wp2_with fail
  refine HRUN2.out.mono ?_
  rintro e w7 ⟨A7, c7, rfl, hb7⟩
  have HR7 := Lib.hid (HR.out.grow hb7)
  clear hb7 HRUN2 HR
  obtain ⟨W8, hW8⟩ : ∃ W8, w7.alloc (.cells #[.int .i64 1, .int .i32 7, .slice A7 0 c7, .int .i64 3, .int .i64 0] 57) = W8 := ⟨_, rfl⟩
  have hb8 : Below w7.heap.size w7 W8 := by rw [← hW8]; exact (Below.refl _ _).alloc (Nat.le_refl _) _
  have hx8 : W8.heap[w7.heap.size]? = some (.cells #[.int .i64 1, .int .i32 7, .slice A7 0 c7, .int .i64 3, .int .i64 0] 57 (0, 0)) := by rw [← hW8]; exact heap_alloc_new w7 _
  have h8 := HR7.out.grow hb8
  have x0 : W8.cell? ⟨w7.heap.size, 0, none⟩ = some (.int .i64 1) := by rw [cell_of_row _ _ 0 _ _ (0, 0) hx8]; rfl
  have x1 : W8.cell? ⟨w7.heap.size, 1, none⟩ = some (.int .i32 7) := by rw [cell_of_row _ _ 1 _ _ (0, 0) hx8]; rfl
  have x3 : W8.cell? ⟨w7.heap.size, 3, none⟩ = some (.int .i64 3) := by rw [cell_of_row _ _ 3 _ _ (0, 0) hx8]; rfl
  have x4 : W8.cell? ⟨w7.heap.size, 4, none⟩ = some (.int .i64 0) := by rw [cell_of_row _ _ 4 _ _ (0, 0) hx8]; rfl
  have f4 := frozen_of_row _ w7.heap.size 4 _ _ hx8
  have s4 : W8.setCell ⟨w7.heap.size, 4, none⟩ (.int .i64 0) = W8 := setCell_idR hx8 rfl
  have HLEN := Lib.hid (len_any W8 m A liveL.length c M 0 h8.im)
  have HF := Lib.hid (HB5.out.trans (h8.below.mono HB5.out.size))
  clear hb8 hx8 h8
  change Hid (Calls _ _ _ _ fun e w' => e = .returned (.int .i64 3) ∧ w' = W8) at HLEN
  have e3 : ((3 : Int) == 3) = true := rfl
  go_wp2_with (go_at_call 11; (with_reducible refine HLEN.out.mono ?_); rintro e w9 ⟨rfl, rfl⟩)
  go_ret
  exact ⟨rfl, HF.out⟩
end Rv
end Go.Proofs.Ytmedhibjkbahpaa
namespace Go.Proofs.Ytmedhibjkbahpaa
open Go.RowKit
set_option linter.unusedVariables false
set_option linter.unusedSimpArgs false
set_option maxRecDepth 100000
namespace Rv
theorem symLetter_num {c : UInt8} (h : symLetter c = true) : (97 ≤ (c.toNat : Int) ∧ (c.toNat : Int) ≤ 122) ∨ (65 ≤ (c.toNat : Int) ∧ (c.toNat : Int) ≤ 90) ∨ (c.toNat : Int) = 95 ∨ (c.toNat : Int) = 46 := by
  unfold symLetter at h
  simp at h
  omega
theorem symLetter_not {c : UInt8} (h : symLetter c = false) : ¬ ((97 ≤ (c.toNat : Int) ∧ (c.toNat : Int) ≤ 122) ∨ (65 ≤ (c.toNat : Int) ∧ (c.toNat : Int) ≤ 90) ∨ (c.toNat : Int) = 95 ∨ (c.toNat : Int) = 46) := by
  unfold symLetter at h
  simp at h
  omega
theorem digitB_num {c : UInt8} (h : digitB c = true) : 48 ≤ (c.toNat : Int) ∧ (c.toNat : Int) ≤ 57 := by
  unfold digitB at h
  simp at h
  omega
theorem digitB_not {c : UInt8} (h : digitB c = false) : ¬ (48 ≤ (c.toNat : Int) ∧ (c.toNat : Int) ≤ 57) := by
  unfold digitB at h
  simp at h
  omega
theorem symB_first {l : List UInt8} (h : digitB (l.headD 0) = true) : symB l = false := symB_dig h
set_option maxHeartbeats 12800000 in
theorem risSym_any (s : ByteArray) (hs : s.size ≤ 9223372036854775807) (w : World) : Calls Try.prog 32 #[.string s] w fun e w' => e = .returned (.bool (symB s.data.toList)) ∧ w = w' := by
  go_enter Try.func32, Try.ntmps32
  go_wp2
  go_loop [3] (fun i => ∃ k : Nat, k ≤ s.size ∧ i = .int .i64 k ∧ Hid ((∀ c ∈ s.data.toList.take k, symCh c = true) ∧ (0 < k → digitB (s.data.toList.headD 0) = false))) (fun i => s.size - (intOf i).toNat)
  case atStart => exact ⟨0, Nat.zero_le _, rfl, Lib.hid ⟨by simp, fun h => by omega⟩⟩
  case round =>
    obtain ⟨k, hk, rfl, HA⟩ := hrel
    by_cases hlt : k < s.size
    · have HG := Lib.hid (ba_getD s k hlt)
      have HT := Lib.hid (ba_takeS s k hlt)
      have hlt2 : (k : Int) < (s.size : Int) := by omega
      have hk0 : (0 : Int) ≤ (k : Int) := by omega
      have hin : s[k] ∈ s.data.toList := by
        have := HG.out
        rw [← this, List.getD_eq_getElem?_getD, List.getElem?_eq_getElem (show k < s.data.toList.length from hlt)]
        exact List.getElem_mem _
      have HIN := Lib.hid hin
      clear hin
      have htake : symCh s[k] = true → ∀ c ∈ s.data.toList.take (k + 1), symCh c = true := fun hch => by
        rw [HT.out]; intro c hc; rcases List.mem_append.1 hc with h | h; exact HA.out.1 c h; rw [List.mem_singleton] at h; subst h; exact hch
      have HTK := Lib.hid htake
      clear htake
      cases hL : symLetter s[k] with
      | true =>
        have hx := symLetter_num hL
        have hy : True := trivial
        have hdg : digitB s[k] = false := by
          cases hd : digitB s[k] with
          | false => rfl
          | true => have := digitB_num hd; exfalso; omega
        have HNX : Hid ((∀ c ∈ s.data.toList.take (k + 1), symCh c = true) ∧ (0 < k + 1 → digitB (s.data.toList.headD 0) = false)) := Lib.hid ⟨HTK.out (by unfold symCh; rw [hL]; rfl), fun _ => by
          rcases Nat.eq_zero_or_pos k with h0 | h0
          · subst h0
            rw [ba_headD s hlt]
            exact hdg
          · exact HA.out.2 h0⟩
        clear hL hdg
        by_cases h1 : (97 : Int) ≤ (s[k].toNat : Int) <;> by_cases h2 : (s[k].toNat : Int) ≤ 122 <;> by_cases h3 : (65 : Int) ≤ (s[k].toNat : Int) <;> by_cases h4 : (s[k].toNat : Int) ≤ 90 <;> by_cases h5 : ((s[k].toNat : Int) == 95) = true <;> by_cases h6 : ((s[k].toNat : Int) == 46) = true <;> by_cases h7 : (48 : Int) ≤ (s[k].toNat : Int) <;> by_cases h8 : (s[k].toNat : Int) ≤ 57
        all_goals
          first
          | (exfalso; simp only [beq_iff_eq] at h5 h6; omega)
          | (clear hx hy
             go_wp2
             go_round
             case rel => exact ⟨k + 1, by omega, by go_num, HNX⟩
             case measure => simp [intOf]; omega)
      | false =>
        have hx := symLetter_not hL
        cases hD : digitB s[k] with
        | true =>
          have hy := digitB_num hD
          rcases Nat.eq_zero_or_pos k with h0 | h0
          · have HF : Hid (symB s.data.toList = false) := Lib.hid (symB_first (by subst h0; rw [ba_headD s hlt]; exact hD))
            subst h0
            clear hL hD
            by_cases h1 : (97 : Int) ≤ (s[0].toNat : Int) <;> by_cases h2 : (s[0].toNat : Int) ≤ 122 <;> by_cases h3 : (65 : Int) ≤ (s[0].toNat : Int) <;> by_cases h4 : (s[0].toNat : Int) ≤ 90 <;> by_cases h5 : ((s[0].toNat : Int) == 95) = true <;> by_cases h6 : ((s[0].toNat : Int) == 46) = true <;> by_cases h7 : (48 : Int) ≤ (s[0].toNat : Int) <;> by_cases h8 : (s[0].toNat : Int) ≤ 57
            all_goals
              first
              | (exfalso; simp only [beq_iff_eq] at h5 h6; omega)
              | (clear hx hy
                 go_wp2
                 go_ret
                 exact ⟨ret_bool (by rw [HF.out]), rfl⟩)
          · have hkb : (0 : Int) < (k : Int) := by omega
            have HNX : Hid ((∀ c ∈ s.data.toList.take (k + 1), symCh c = true) ∧ (0 < k + 1 → digitB (s.data.toList.headD 0) = false)) := Lib.hid ⟨HTK.out (by unfold symCh; rw [hD]; simp), fun _ => HA.out.2 h0⟩
            clear hL hD
            by_cases h1 : (97 : Int) ≤ (s[k].toNat : Int) <;> by_cases h2 : (s[k].toNat : Int) ≤ 122 <;> by_cases h3 : (65 : Int) ≤ (s[k].toNat : Int) <;> by_cases h4 : (s[k].toNat : Int) ≤ 90 <;> by_cases h5 : ((s[k].toNat : Int) == 95) = true <;> by_cases h6 : ((s[k].toNat : Int) == 46) = true <;> by_cases h7 : (48 : Int) ≤ (s[k].toNat : Int) <;> by_cases h8 : (s[k].toNat : Int) ≤ 57
            all_goals
              first
              | (exfalso; simp only [beq_iff_eq] at h5 h6; omega)
              | (clear hx hy
                 go_wp2
                 go_round
                 case rel => exact ⟨k + 1, by omega, by go_num, HNX⟩
                 case measure => simp [intOf]; omega)
        | false =>
          have hy := digitB_not hD
          have HF : Hid (symB s.data.toList = false) := Lib.hid (symB_bad HIN.out (by unfold symCh; rw [hL, hD]; rfl))
          clear hL hD
          by_cases h1 : (97 : Int) ≤ (s[k].toNat : Int) <;> by_cases h2 : (s[k].toNat : Int) ≤ 122 <;> by_cases h3 : (65 : Int) ≤ (s[k].toNat : Int) <;> by_cases h4 : (s[k].toNat : Int) ≤ 90 <;> by_cases h5 : ((s[k].toNat : Int) == 95) = true <;> by_cases h6 : ((s[k].toNat : Int) == 46) = true <;> by_cases h7 : (48 : Int) ≤ (s[k].toNat : Int) <;> by_cases h8 : (s[k].toNat : Int) ≤ 57
          all_goals
            first
            | (exfalso; simp only [beq_iff_eq] at h5 h6; omega)
            | (clear hx hy
               go_wp2
               go_ret
               exact ⟨ret_bool (by rw [HF.out]), rfl⟩)
    · obtain rfl : k = s.size := by omega
      have hall : ∀ c ∈ s.data.toList, symCh c = true := fun c hc => HA.out.1 c (by rw [List.take_of_length_le (Nat.le_of_eq (ba_length s))]; exact hc)
      have HALL := Lib.hid hall
      clear hall
      by_cases h0 : s.size = 0
      · have HF : Hid (symB s.data.toList = false) := Lib.hid (by rw [List.eq_nil_of_length_eq_zero (show s.data.toList.length = 0 from h0)]; rfl)
        have h0' : ¬ (0 : Int) < (s.size : Int) := by omega
        clear h0
        go_wp2
        go_ret
        exact ⟨ret_bool (by rw [HF.out]), rfl⟩
      · have h0' : (0 : Int) < (s.size : Int) := by omega
        by_cases h1 : s.size < 101
        · have h1' : (s.size : Int) < 101 := by omega
          have HF : Hid (symB s.data.toList = true) := Lib.hid (symB_good (fun h => by have := ba_length s; rw [h] at this; exact h0 this.symm) (by rw [ba_length]; omega) (HA.out.2 (by omega)) HALL.out)
          clear h0 h1
          go_wp2
          go_ret
          exact ⟨ret_bool (by rw [HF.out]), rfl⟩
        · have h1' : ¬ (s.size : Int) < 101 := by omega
          have HF : Hid (symB s.data.toList = false) := Lib.hid (symB_long (by rw [ba_length]; omega))
          clear h0 h1
          go_wp2
          go_ret
          exact ⟨ret_bool (by rw [HF.out]), rfl⟩
end Rv
end Go.Proofs.Ytmedhibjkbahpaa
