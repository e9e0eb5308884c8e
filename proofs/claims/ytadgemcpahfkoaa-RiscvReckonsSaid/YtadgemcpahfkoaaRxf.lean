/-
  A run of the machine: its pure states; how it ends is told by the deferred function; riscv.Run.
-/
import Derived.Test.YtadgemcpahfkoaaRxe
namespace Go.Proofs.Ytadgemcpahfkoaa
open Go.RowKit
set_option linter.unusedVariables false
set_option linter.unusedSimpArgs false
set_option maxRecDepth 100000
namespace Rv
/-- So many steps. -/
def runM (ls : List Ln) (inp : List Int) (fuel : Int) : Nat → MS → MO
  | 0, s => .go s
  | n + 1, s => match stepM ls inp fuel s with
    | .go s' => runM ls inp fuel n s'
    | .fin k s' => .fin k s'
structure Res where
  fin : Int
  v : Int
  tr : List Int
  steps : Nat
  reads : Nat
def MO.res : MO → Res
  | .go s => ⟨0, s.v, s.tr, s.steps, s.reads⟩
  | .fin k s => ⟨k, s.v, s.tr, s.steps, s.reads⟩
/-- What a run comes to. -/
def runR (ls : List Ln) (inp : List Int) (fuel : Int) (s : MS) : Res := (runM ls inp fuel (fuel.toNat + 1) s).res
theorem runM_more (ls : List Ln) (inp : List Int) (fuel : Int) (b : Nat) : ∀ (a : Nat) (s : MS), runM ls inp fuel (a + b) s = match runM ls inp fuel a s with | .go s' => runM ls inp fuel b s' | .fin k s' => .fin k s'
  | 0, s => by rw [Nat.zero_add]; rfl
  | a + 1, s => by
    rw [Nat.add_right_comm]
    show (match stepM ls inp fuel s with | .go s' => runM ls inp fuel (a + b) s' | .fin k s' => .fin k s') = match (match stepM ls inp fuel s with | .go s' => runM ls inp fuel a s' | .fin k s' => .fin k s') with | .go s' => runM ls inp fuel b s' | .fin k s' => .fin k s'
    cases stepM ls inp fuel s with
    | go s' => exact runM_more ls inp fuel b a s'
    | fin k s' => rfl
/-- What a state that a run comes to is like. -/
structure Good (inp : List Int) (s : MS) : Prop where
  pc : -2147483648 ≤ s.pc ∧ s.pc ≤ 2147483647
  tr : s.tr.length ≤ s.steps
  reads : s.reads ≤ inp.length
theorem stepI_rng (op n a b pc : Int) : -2147483648 ≤ (stepI op n a b pc).2 ∧ (stepI op n a b pc).2 ≤ 2147483647 := by
  unfold stepI
  split
  · exact wrap_rng _
  · split
    · dsimp only; split <;> exact wrap_rng _
    · split
      · dsimp only; split <;> exact wrap_rng _
      · split
        · exact wrap_rng _
        · split
          · dsimp only
            rw [even_is _ (wrap_rng _).1 (wrap_rng _).2]
            have := wrap_rng (a + n)
            split
            · exact this
            · constructor <;> omega
          · split <;> exact wrap_rng _
theorem callM_good {inp : List Int} {s s' : MS} (hr : s.reads ≤ inp.length) (h : callM inp s = .go s') : s'.reads ≤ inp.length ∧ s'.steps = s.steps ∧ s'.tr.length ≤ s.tr.length + 1 := by
  unfold callM at h
  split at h
  · cases h; exact ⟨hr, rfl, by simp⟩
  · split at h
    · cases h
      unfold readM
      split
      · exact ⟨hr, rfl, by simp⟩
      · exact ⟨by dsimp only; omega, rfl, by simp⟩
    · split at h <;> cases h
theorem insM_good {inp : List Int} {l : Ln} {s s' : MS} (hr : s.reads ≤ inp.length) (h : insM inp l s = .go s') : (-2147483648 ≤ s'.pc ∧ s'.pc ≤ 2147483647) ∧ s'.reads ≤ inp.length ∧ s'.steps = s.steps ∧ s'.tr.length ≤ s.tr.length + 1 := by
  unfold insM at h
  split at h
  · split at h
    · cases h
    · cases h; exact ⟨stepI_rng _ _ _ _ _, hr, rfl, Nat.le_succ _⟩
  · split at h
    · split at h
      · cases h
      · cases h; exact ⟨stepI_rng _ _ _ _ _, hr, rfl, Nat.le_succ _⟩
    · split at h
      · split at h
        · cases h
        · next s2 hc =>
          cases h
          obtain ⟨h1, h2, h3⟩ := callM_good hr hc
          exact ⟨stepI_rng _ _ _ _ _, h1, h2, h3⟩
      · cases h; exact ⟨stepI_rng _ _ _ _ _, hr, rfl, Nat.le_succ _⟩
theorem stepM_good {ls : List Ln} {inp : List Int} {fuel : Int} {s s' : MS} (hg : Good inp s) (h : stepM ls inp fuel s = .go s') : Good inp s' ∧ s'.steps = s.steps + 1 ∧ (s.steps : Int) < fuel := by
  unfold stepM at h
  split at h
  · cases h
  · split at h
    · cases h
    · next hf =>
      split at h
      · cases h
      · next l hl =>
        obtain ⟨h1, h2, h3, h4⟩ := insM_good (s := { s with steps := s.steps + 1 }) hg.reads h
        have := hg.tr
        refine ⟨⟨h1, ?_, h2⟩, h3, by omega⟩
        rw [h3]
        have h4' : s'.tr.length ≤ s.tr.length + 1 := h4
        show s'.tr.length ≤ s.steps + 1
        omega
/-- So far a run has come. -/
def SoFar (ls : List Ln) (inp : List Int) (fuel : Int) (s0 s : MS) : Prop := runM ls inp fuel s.steps s0 = .go s ∧ s.steps ≤ fuel.toNat
theorem SoFar.next {ls : List Ln} {inp : List Int} {fuel : Int} {s0 s s' : MS} (h : SoFar ls inp fuel s0 s) (hg : Good inp s) (hs : stepM ls inp fuel s = .go s') : SoFar ls inp fuel s0 s' ∧ Good inp s' ∧ s'.steps = s.steps + 1 := by
  obtain ⟨h1, h2, h3⟩ := stepM_good hg hs
  refine ⟨⟨?_, by omega⟩, h1, h2⟩
  rw [h2, runM_more, h.1]
  show (match stepM ls inp fuel s with | .go s' => runM ls inp fuel 0 s' | .fin k s' => .fin k s') = _
  rw [hs]
  rfl
theorem SoFar.done {ls : List Ln} {inp : List Int} {fuel : Int} {s0 s s' : MS} {k : Int} (h : SoFar ls inp fuel s0 s) (hs : stepM ls inp fuel s = .fin k s') : runR ls inp fuel s0 = ⟨k, s'.v, s'.tr, s'.steps, s'.reads⟩ := by
  have h2 := h.2
  unfold runR
  rw [show fuel.toNat + 1 = s.steps + ((fuel.toNat - s.steps) + 1) from by omega, runM_more, h.1]
  show (match stepM ls inp fuel s with | .go s' => runM ls inp fuel _ s' | .fin k s' => .fin k s').res = _
  rw [hs]
  rfl
theorem stepM_all {e : Env} {w : World} {s : MS} (h : MAt e w s) (hg : Good e.inp s) (hok : ∀ l ∈ e.ls, l.Ok) (hl : e.ls.length ≤ 100000) (hn : e.q.mn ≤ 100000) (hi : e.inp.length ≤ 90000) (hs : s.steps ≤ 80000) :
    Calls Try.prog 43 #[.pointer (some ⟨e.p, 0, none⟩)] w (Out e (stepM e.ls e.inp e.q.fuel s)) := by
  unfold stepM
  have ht := hg.tr
  by_cases hc : s.pc < 0 ∨ s.pc % 4 ≠ 0 ∨ (e.ls.length : Int) ≤ s.pc / 4
  · rw [if_pos hc]
    exact step_fault h hl hg.pc hc
  · rw [if_neg hc]
    by_cases hf : e.q.fuel ≤ (s.steps : Int)
    · rw [if_pos hf]
      exact step_open h hl hg.pc hc hf
    · rw [if_neg hf]
      simp only [not_or, Int.not_lt, Int.not_le, Decidable.not_not] at hc
      obtain ⟨c1, c2, c3⟩ := hc
      have hlt : (s.pc / 4).toNat < e.ls.length := by omega
      rw [List.getElem?_eq_getElem hlt]
      exact step_go h hl hg.pc.2 (by omega) (by omega) hg.reads hi (by omega) (s.pc / 4).toNat (by omega) _ (List.getElem?_eq_getElem hlt) (hok _ (List.getElem_mem hlt)) (by omega)
/-- What a run hands back. -/
def RunOut (w : World) (R : Res) (e : Ending) (w' : World) : Prop :=
  ∃ A c, e = .returned (.agg #[.int .i64 R.fin, .int .i32 R.v, .slice A R.tr.length c, .int .i64 (R.steps : Int), .int .i64 (R.reads : Int)]) ∧ SLine 1 w' A R.tr.length c (cellsW R.tr) ∧ Below w.heap.size w w' ∧ ∀ k ∈ blk A, w.heap.size ≤ k
set_option maxHeartbeats 1600000 in
theorem run1_pan (k : Int) (older : List PanicEntry) {e : Env} {w : World} {s : MS} (hM : MAt e w s) (rr : Nat) (a0 a1 a2 a3 a4 : Value) (h1 : w.heap[rr]? = some (.cells #[a0, a1, a2, a3, a4] 57 (0, 0))) (hrr : rr < e.w0.heap.size) (tA : Option Addr) (tc : Nat) (hT : CellsAt w e.p (cellF e.q tA tc s)) :
    CallsD Try.prog 42 #[.pointer (some ⟨e.xb, 0, none⟩), .pointer (some ⟨rr, 0, none⟩)] (.panicking ({ v := .iface 85 (.int .i64 k), recovered := false } :: older)) w fun en u' w' => en = .returned (.tuple #[]) ∧ u' = .panicking ({ v := .iface 85 (.int .i64 k), recovered := true } :: older) ∧ Chg [e.p, rr] w w' ∧ w'.heap[rr]? = some (.cells #[.int .i64 k, .int .i32 s.v, .slice tA s.tr.length tc, .int .i64 (s.steps : Int), .int .i64 (s.reads : Int)] 57 (0, 0)) := by
  refine callsD_of_wpS Try.func42 rfl fun c₀ cs hu => ?_
  apply wpS_seq
  apply wpS_region
  simp [wpOpsS, go_sem, recoverD, hu, Try.ntmps42, Exit.thenS]
  refine wpS_of_wp ?_
  have hta : ∀ W : World, (Instr.typeAssert (.iface 85 (.int .i64 k)) 20 85 true).run Try.prog W = .ok (.tuple #[.int .i64 k, .bool true]) W := fun W => by kernel_rfl
  have hrep : (#[Value.pointer (some ⟨e.xb, 0, none⟩), .pointer (some ⟨rr, 0, none⟩)] ++ (Array.replicate 16 undef).setIfInBounds 2 (.iface 85 (.int .i64 k)) : Array Value) = #[.pointer (some ⟨e.xb, 0, none⟩), .pointer (some ⟨rr, 0, none⟩), undef, undef, .iface 85 (.int .i64 k), undef, undef, undef, undef, undef, undef, undef, undef, undef, undef, undef, undef, undef] := by rfl
  try rw [hrep]
  clear hrep
  have G1 := Lib.hid h1
  have HU := Lib.hid hu
  have x0 := cell_of_one hM.xb
  have hpge := hM.pge
  have hap := hM.apart
  obtain ⟨W1, hW1⟩ : ∃ W1, w.setCell ⟨e.p, 37, none⟩ (.int .i64 k) = W1 := ⟨_, rfl⟩
  have hT1 : CellsAt W1 e.p (fun j => if j = 37 then some (.int .i64 k) else cellF e.q tA tc s j) := by rw [← hW1]; exact hT.set 37 _ rfl _ (fun i u hu => by
    by_cases e9 : i = 37
    · rw [if_pos e9]; simp [e9] at hu; exact hu.symm
    · rw [if_neg e9] at hu ⊢; exact hu)
  have g0 : W1.heap[e.xb]? = some (.cells #[.pointer (some ⟨e.p, 0, none⟩)] 83 (0, 0)) := by rw [← hW1]; exact (setCell_off w e.p 37 _ e.xb (by omega)).trans hM.xb
  have g1 : W1.heap[rr]? = some (.cells #[a0, a1, a2, a3, a4] 57 (0, 0)) := by rw [← hW1]; exact (setCell_off w e.p 37 _ rr (by omega)).trans h1
  have y5 : w.cell? ⟨e.p, 37, none⟩ = some (.int .i64 0) := hT.cell 37 _ rfl
  have f5 : w.frozen? ⟨e.p, 37, none⟩ = false := hT.free 37
  have x1 := cell_of_one g0
  have z5 := hT1.cell 37 (.int .i64 k) rfl
  have z6 := hT1.cell 38 (.int .i32 s.v) rfl
  have z7 := hT1.cell 39 (.slice tA s.tr.length tc) rfl
  have z8 := hT1.cell 40 (.int .i64 (s.steps : Int)) rfl
  have z9 := hT1.cell 41 (.int .i64 (s.reads : Int)) rfl
  have s0 : W1.cell? ⟨rr, 0, none⟩ = some a0 := by rw [cell_of_row _ rr 0 _ _ (0, 0) g1]; rfl
  have s1 : W1.cell? ⟨rr, 1, none⟩ = some a1 := by rw [cell_of_row _ rr 1 _ _ (0, 0) g1]; rfl
  have s2 : W1.cell? ⟨rr, 2, none⟩ = some a2 := by rw [cell_of_row _ rr 2 _ _ (0, 0) g1]; rfl
  have s3 : W1.cell? ⟨rr, 3, none⟩ = some a3 := by rw [cell_of_row _ rr 3 _ _ (0, 0) g1]; rfl
  have s4 : W1.cell? ⟨rr, 4, none⟩ = some a4 := by rw [cell_of_row _ rr 4 _ _ (0, 0) g1]; rfl
  have t0 := frozen_of_row _ rr 0 _ _ g1
  have t1 := frozen_of_row _ rr 1 _ _ g1
  have t2 := frozen_of_row _ rr 2 _ _ g1
  have t3 := frozen_of_row _ rr 3 _ _ g1
  have t4 := frozen_of_row _ rr 4 _ _ g1
  have G2 := Lib.hid g1
  have HC1 : Hid (Chg [e.p, rr] w W1) := Lib.hid (by rw [← hW1]; exact (Chg.refl _ w).setCell e.p 37 _ (.inl (by simp)))
  clear h1 hT hT1 g0 g1 hu hM hpge hap
  generalize s.v = sv at *
  generalize s.tr.length = sl at *
  generalize (s.steps : Int) = ss at *
  generalize (s.reads : Int) = sr at *
  go_wp2_with fail
  obtain ⟨w2, hw2⟩ : ∃ w2, (((((W1.setCell ⟨rr, 0, none⟩ (.int .i64 k)).setCell ⟨rr, 1, none⟩ (.int .i32 sv)).setCell ⟨rr, 2, none⟩ (.slice tA sl tc)).setCell ⟨rr, 3, none⟩ (.int .i64 ss)).setCell ⟨rr, 4, none⟩ (.int .i64 sr)) = w2 := ⟨_, rfl⟩
  rw [hw2]
  have q0 : w2.heap[rr]? = some (.cells #[.int .i64 k, .int .i32 sv, .slice tA sl tc, .int .i64 ss, .int .i64 sr] 57 (0, 0)) := by rw [← hw2]; simp [World.setCell, Array.getElem?_modify, G2.out]
  have hc : Chg [e.p, rr] w w2 := by
    rw [← hw2]
    exact (((((HC1.out.setCell rr 0 _ (.inl (by simp))).setCell rr 1 _ (.inl (by simp))).setCell rr 2 _ (.inl (by simp))).setCell rr 3 _ (.inl (by simp))).setCell rr 4 _ (.inl (by simp)))
  clear hw2
  have hu := HU.out
  clear G1 G2 HC1 HU x0 x1 y5 f5 z5 z6 z7 z8 z9 s0 s1 s2 s3 s4 t0 t1 t2 t3 t4 hW1 hta
  cases c₀
  simp_all [bodyPostS, results, Try.results42]
end Rv
end Go.Proofs.Ytadgemcpahfkoaa
