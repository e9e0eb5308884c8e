/-
  A step of the machine.
-/
import Derived.Test.YtadgemcpahfkoaaRxc
namespace Go.Proofs.Ytadgemcpahfkoaa
open Go.RowKit
set_option linter.unusedVariables false
set_option linter.unusedSimpArgs false
set_option maxRecDepth 100000
namespace Rv
theorem name_wpR {P : Program} {c : Code} {Q : Exit → Act → World → Prop} {a : Act} {w : World} (h : ∀ W, W = w → c.wp P Q a W) : c.wp P Q a w := h w rfl
/-- The state behind an instruction that goes on at a place and gives its register a word. -/
def nextM (l : Ln) (to v : Int) (s : MS) : MS := { s with pc := to, regs := if l.d = 0 then s.regs else s.regs.set l.d.toNat v }
/-- What an instruction comes to. -/
def insM (inp : List Int) (l : Ln) (s : MS) : MO :=
  if l.op = 24 then
    match wordM s.mem.length (wrap32 (s.regs.getD l.a.toNat 0 + l.n)) with
    | none => .fin 6 s
    | some k => .go (nextM l (stepI l.op l.n (s.regs.getD l.a.toNat 0) (s.regs.getD l.b.toNat 0) s.pc).2 (s.mem.getD k 0) s)
  else if l.op = 25 then
    match wordM s.mem.length (wrap32 (s.regs.getD l.a.toNat 0 + l.n)) with
    | none => .fin 6 s
    | some k => .go (nextM l (stepI l.op l.n (s.regs.getD l.a.toNat 0) (s.regs.getD l.b.toNat 0) s.pc).2 0 { s with mem := s.mem.set k (s.regs.getD l.b.toNat 0) })
  else if l.op = 30 then
    match callM inp s with
    | .fin k s' => .fin k s'
    | .go s' => .go (nextM l (stepI l.op l.n (s.regs.getD l.a.toNat 0) (s.regs.getD l.b.toNat 0) s.pc).2 0 s')
  else .go (nextM l (stepI l.op l.n (s.regs.getD l.a.toNat 0) (s.regs.getD l.b.toNat 0) s.pc).2 (stepI l.op l.n (s.regs.getD l.a.toNat 0) (s.regs.getD l.b.toNat 0) s.pc).1 s)
/-- A step. -/
def stepM (ls : List Ln) (inp : List Int) (fuel : Int) (s : MS) : MO :=
  if s.pc < 0 ∨ s.pc % 4 ≠ 0 ∨ (ls.length : Int) ≤ s.pc / 4 then .fin 6 s
  else if fuel ≤ (s.steps : Int) then .fin 5 s
  else match ls[(s.pc / 4).toNat]? with
    | none => .fin 6 s
    | some l => insM inp l { s with steps := s.steps + 1 }
/-- The tail of a step: where it goes on, and its register. -/
theorem MAt.next {e : Env} {w : World} {s : MS} (h : MAt e w s) (z : Int) : MAt e (w.setCell ⟨e.p, 34, none⟩ (.int .i32 z)) { s with pc := z } :=
  h.put 34 (by omega) _ _ rfl rfl h.rlen (fun tA tc i u => cellF_pc _ _ _ _ _ i u)
theorem MAt.give {e : Env} {w : World} {s : MS} (h : MAt e w s) (k : Nat) (hk : k < 32) (z : Int) : MAt e (w.setCell ⟨e.p, 1 + k, none⟩ (.int .i32 z)) { s with regs := s.regs.set k z } :=
  h.put (1 + k) (by omega) _ _ rfl rfl (by rw [← h.rlen]; simp) (fun tA tc i u => cellF_set _ _ _ _ k hk h.rlen z i u)
theorem MAt.drewN {e : Env} {w : World} {s : MS} (h : MAt e w s) (n : Nat) : MAt e (w.drewN n) s := by
  obtain ⟨tA, tc, hc, hl, hn⟩ := h.box
  exact ⟨⟨h.below.os, h.below.tape, h.below.output, h.below.size, h.below.block⟩, h.pge, h.apart, h.xb, h.mem, h.mlen, h.rlen, h.lines, h.inp, tA, tc, hc.same rfl, hl.same (Nat.le_refl _) (fun _ _ => rfl), hn⟩
theorem step_fault {e : Env} {w : World} {s : MS} (h : MAt e w s) (hl : e.ls.length ≤ 100000) (hb : -2147483648 ≤ s.pc ∧ s.pc ≤ 2147483647) (hc : s.pc < 0 ∨ s.pc % 4 ≠ 0 ∨ (e.ls.length : Int) ≤ s.pc / 4) :
    Calls Try.prog 43 #[.pointer (some ⟨e.p, 0, none⟩)] w fun en w' => Ends 6 en ∧ MAt e w' s := by
  have x0 := h.cell 0 (.slice e.q.LA e.q.ln e.q.lc) (fun _ _ => rfl)
  have x34 := h.cell 34 (.int .i32 s.pc) (fun _ _ => rfl)
  have hln := h.lines.1
  rw [hln] at hc hl
  have hl2 : (e.q.ln : Int) ≤ 100000 := by omega
  obtain ⟨b1, b2⟩ := hb
  have HM := Lib.hid h.drewN
  generalize s.pc = z at *
  clear h hln hl
  by_cases c1 : z < 0
  · clear hc
    go_enter Try.func43, Try.ntmps43
    go_wp2_with fail
    go_quiet (fail)
    go_wp2_with fail
    exact ⟨rfl, rfl, HM.out _⟩
  · have d1 : decide (z < 0) = false := by simp; omega
    have c1' : 0 ≤ z := by omega
    by_cases c2 : z % 4 = 0
    · have e2 : z.tmod 4 = 0 := by rw [Int.tmod_eq_emod_of_nonneg (by omega)]; exact c2
      have e3 : z.tdiv 4 = z / 4 := Int.tdiv_eq_ediv_of_nonneg (by omega)
      have c3 : (e.q.ln : Int) ≤ z / 4 := by omega
      have c4 : z / 4 ≤ 2147483647 := by omega
      have c5 : 0 ≤ z / 4 := by omega
      obtain ⟨y, hy⟩ : ∃ y, z / 4 = y := ⟨_, rfl⟩
      rw [hy] at e3 c3 c4 c5
      clear hc c1 hy
      go_enter Try.func43, Try.ntmps43
      go_wp2_with fail
      go_quiet (fail)
      go_wp2_with fail
      exact ⟨rfl, rfl, HM.out _⟩
    · have e2 : ¬ z.tmod 4 = 0 := by rw [Int.tmod_eq_emod_of_nonneg (by omega)]; exact c2
      have e4 : (z.tmod 4 == 0) = false := by simpa using e2
      clear hc c1 c2
      go_enter Try.func43, Try.ntmps43
      go_wp2_with fail
      go_quiet (fail)
      go_wp2_with fail
      exact ⟨rfl, rfl, HM.out _⟩
theorem step_open {e : Env} {w : World} {s : MS} (h : MAt e w s) (hl : e.ls.length ≤ 100000) (hb : -2147483648 ≤ s.pc ∧ s.pc ≤ 2147483647) (hc : ¬ (s.pc < 0 ∨ s.pc % 4 ≠ 0 ∨ (e.ls.length : Int) ≤ s.pc / 4)) (hf : e.q.fuel ≤ (s.steps : Int)) :
    Calls Try.prog 43 #[.pointer (some ⟨e.p, 0, none⟩)] w fun en w' => Ends 5 en ∧ MAt e w' s := by
  have x0 := h.cell 0 (.slice e.q.LA e.q.ln e.q.lc) (fun _ _ => rfl)
  have x34 := h.cell 34 (.int .i32 s.pc) (fun _ _ => rfl)
  have x36 := h.cell 36 (.int .i64 e.q.fuel) (fun _ _ => rfl)
  have x40 := h.cell 40 (.int .i64 (s.steps : Int)) (fun _ _ => rfl)
  have hln := h.lines.1
  rw [hln] at hc hl
  have hl2 : (e.q.ln : Int) ≤ 100000 := by omega
  obtain ⟨b1, b2⟩ := hb
  simp only [not_or, Int.not_lt, Int.not_le, Decidable.not_not] at hc
  obtain ⟨c1, c2, c3⟩ := hc
  have HM := Lib.hid h.drewN
  generalize s.pc = z at *
  have d1 : decide (z < 0) = false := by simp; omega
  have e2 : z.tmod 4 = 0 := by rw [Int.tmod_eq_emod_of_nonneg (by omega)]; exact c2
  have e3 : z.tdiv 4 = z / 4 := Int.tdiv_eq_ediv_of_nonneg (by omega)
  have c4 : z / 4 ≤ 2147483647 := by omega
  have c5 : 0 ≤ z / 4 := by omega
  obtain ⟨y, hy⟩ : ∃ y, z / 4 = y := ⟨_, rfl⟩
  rw [hy] at e3 c3 c4 c5
  generalize (s.steps : Int) = st at *
  clear h hln hl hy
  go_enter Try.func43, Try.ntmps43
  go_wp2_with fail
  go_quiet (fail)
  go_wp2_with fail
  go_quiet (fail)
  go_wp2_with fail
  exact ⟨rfl, rfl, HM.out _⟩

set_option maxHeartbeats 12800000 in
theorem step_go {e : Env} {w : World} {s : MS} (h : MAt e w s) (hl : e.ls.length ≤ 100000) (hb : s.pc ≤ 2147483647) (hn : e.q.mn ≤ 1000000) (ht : s.tr.length ≤ 100000) (hr : s.reads ≤ e.inp.length) (hi : e.inp.length ≤ 90000) (hs : s.steps ≤ 100000)
    (kk : Nat) (hk : s.pc = 4 * (kk : Int)) (l : Ln) (hlk : e.ls[kk]? = some l) (hok : l.Ok) (hf : (s.steps : Int) < e.q.fuel) :
    Calls Try.prog 43 #[.pointer (some ⟨e.p, 0, none⟩)] w (Out e (insM e.inp l { s with steps := s.steps + 1 })) := by
  have hln := h.lines.1
  have hkl : kk < e.q.ln := by rw [← hln]; exact (List.getElem?_eq_some_iff.1 hlk).1
  rw [hln] at hl
  obtain ⟨g, off, eA, hg, hcl⟩ := h.lines.2 (by omega)
  obtain ⟨o1, o2⟩ := hok.op
  obtain ⟨a1, a2⟩ := hok.a
  obtain ⟨b1, b2⟩ := hok.b
  obtain ⟨d1, d2⟩ := hok.d
  have hsys := hok.sys
  obtain ⟨lk, lo, ld, la, lb, lnn, lsym⟩ := l
  obtain rfl : lk = 2 := hok.k
  dsimp only at o1 o2 a1 a2 b1 b2 d1 d2 hsys
  obtain ⟨an, ha⟩ : ∃ an : Nat, la = (an : Int) := ⟨la.toNat, by omega⟩
  obtain ⟨bn, hbn⟩ : ∃ bn : Nat, lb = (bn : Int) := ⟨lb.toNat, by omega⟩
  obtain ⟨dn, hdn⟩ : ∃ dn : Nat, ld = (dn : Int) := ⟨ld.toNat, by omega⟩
  subst ha hbn hdn
  have HL : Hid (∀ V s', MAt e V s' → ∀ j v, (Ln.mk 2 lo dn an bn lnn lsym).cells[j]? = some v → V.cell? ⟨g, off + kk * 7 + j, none⟩ = some v) := Lib.hid (fun V s' hV j v hj => (hV.below.cell (p := ⟨g, off + kk * 7 + j, none⟩) hg).trans (hcl kk _ hlk j v hj))
  have x0 := h.cell 0 (.slice e.q.LA e.q.ln e.q.lc) (fun _ _ => rfl)
  have x34 := h.cell 34 (.int .i32 s.pc) (fun _ _ => rfl)
  have x36 := h.cell 36 (.int .i64 e.q.fuel) (fun _ _ => rfl)
  have x40 := h.cell 40 (.int .i64 (s.steps : Int)) (fun _ _ => rfl)
  have f40 : ∀ d, (w.drewN d).frozen? ⟨e.p, 40, none⟩ = false := fun d => h.free 40
  have hl2 : (e.q.ln : Int) ≤ 100000 := by omega
  have hpc := hk
  obtain ⟨z, hz⟩ : ∃ z, s.pc = z := ⟨_, rfl⟩
  rw [hz] at x34 hk hb
  have c1 : decide (z < 0) = false := by simp; omega
  have c1' : 0 ≤ z := by omega
  have c2 : z.tmod 4 = 0 := by rw [Int.tmod_eq_emod_of_nonneg (by omega)]; omega
  have c3 : z.tdiv 4 = (kk : Int) := by rw [Int.tdiv_eq_ediv_of_nonneg (by omega)]; omega
  have c4 : (kk : Int) < (e.q.ln : Int) := by omega
  have c5 : (0 : Int) ≤ (kk : Int) := by omega
  have c6 : (0 : Int) ≤ (s.steps : Int) := by omega
  have c7 : (s.steps : Int) ≤ 100000 := by omega
  have c8 : ¬ e.q.fuel ≤ (s.steps : Int) := by omega
  have HM1 : Hid (∀ d, MAt e ((w.drewN d).setCell ⟨e.p, 40, none⟩ (.int .i64 ((s.steps : Int) + 1))) { s with steps := s.steps + 1 }) := Lib.hid (fun d =>
    (h.drewN d).put 40 (by omega) (.int .i64 ((s.steps + 1 : Nat) : Int)) _ rfl rfl h.rlen (fun tA tc i u => cellF_steps _ _ _ _ _ i u))
  rw [eA] at x0
  have HEA := Lib.hid eA
  have HZ := Lib.hid hz
  have HT := Lib.hid (And.intro ht (And.intro hr (And.intro hi hn)))
  have HKZ := Lib.hid hk
  clear h hl hln hkl hlk hcl hok hk hz eA hg hpc ht hr hi hn hf hs
  go_enter Try.func43, Try.ntmps43
  go_wp2_with fail
  go_quiet (fail)
  go_wp2_with fail
  go_quiet (fail)
  go_upto_region 5 with fail
  refine name_wpR (fun W1 hW1 => ?_)
  have hM1 : MAt e W1 { s with steps := s.steps + 1 } := by rw [hW1]; exact HM1.out _
  clear hW1 HM1 x0 x34 x36 x40 f40
  generalize hs1 : ({ s with steps := s.steps + 1 } : MS) = s1 at *
  have hz1 : s1.pc = z := by rw [← hs1]; exact HZ.out
  have x0 := hM1.cell 0 (.slice e.q.LA e.q.ln e.q.lc) (fun _ _ => rfl)
  rw [HEA.out] at x0
  have x34 := hM1.cell 34 (.int .i32 s1.pc) (fun _ _ => rfl)
  rw [hz1] at x34
  have xa := hM1.reg an (by omega)
  have xb := hM1.reg bn (by omega)
  have y3 := HL.out W1 s1 hM1 3 _ rfl
  have y4 := HL.out W1 s1 hM1 4 _ rfl
  have HS1 := Lib.hid hs1
  have HZ1 := Lib.hid hz1
  have HM1 := Lib.hid hM1
  have a3 : (0 : Int) ≤ (an : Int) := by omega
  have a4 : (an : Int) < 32 := by omega
  have b3 : (0 : Int) ≤ (bn : Int) := by omega
  have b4 : (bn : Int) < 32 := by omega
  have hO : insM e.inp ⟨2, lo, dn, an, bn, lnn, lsym⟩ s1 = insM e.inp ⟨2, lo, dn, an, bn, lnn, lsym⟩ s1 := rfl
  generalize hra : s1.regs.getD an 0 = ra at *
  generalize hrb : s1.regs.getD bn 0 = rb at *
  have HRA := Lib.hid (And.intro hra hrb)
  clear hM1 hs1 hz1 hra hrb hO
  go_quiet (fail)
  go_wp2_with fail
  go_quiet (fail)
  go_upto_region 7 with fail
  refine name_wpR (fun W2 hW2 => ?_)
  have hM2 : MAt e W2 s1 := by rw [hW2]; exact (HM1.out.drewN _).drewN _
  clear hW2 x0 x34 xa xb y3 y4 HM1
  have HM2 := Lib.hid hM2
  have HF : Hid (∀ V, Below W2.heap.size W2 V → V.cell? ⟨e.p, 34, none⟩ = some (.int .i32 z) ∧ V.cell? ⟨g, off + kk * 7, none⟩ = some (.int .i64 2) ∧ V.cell? ⟨g, off + kk * 7 + 1, none⟩ = some (.int .i64 lo) ∧ V.cell? ⟨g, off + kk * 7 + 2, none⟩ = some (.int .i64 (dn : Int)) ∧ V.cell? ⟨g, off + kk * 7 + 3, none⟩ = some (.int .i64 (an : Int)) ∧ V.cell? ⟨g, off + kk * 7 + 4, none⟩ = some (.int .i64 (bn : Int)) ∧ V.cell? ⟨g, off + kk * 7 + 5, none⟩ = some (.int .i32 lnn) ∧ V.cell? ⟨g, off + kk * 7 + 6, none⟩ = some (.string lsym)) := Lib.hid (fun V hV => by
    have hq := HM2.out.grow hV
    refine ⟨by rw [← HZ1.out]; exact hq.cell 34 (.int .i32 s1.pc) (fun _ _ => rfl), HL.out V s1 hq 0 _ rfl, HL.out V s1 hq 1 _ rfl, HL.out V s1 hq 2 _ rfl, HL.out V s1 hq 3 _ rfl, HL.out V s1 hq 4 _ rfl, HL.out V s1 hq 5 _ rfl, HL.out V s1 hq 6 _ rfl⟩)
  clear hM2
  refine wp_region_held_drew (S := fun V => Below W2.heap.size W2 V) (by kernel_rfl) ((Below.refl _ W2).drew) (fun _ => ?_)
  refine takeH 0 84 (v := (.pointer (some ⟨g, off + kk * 7, none⟩))) rfl rfl (by kernel_rfl) (by kernel_rfl) (by kernel_rfl) (fun _ _ _ h => h) (by rfl) ?_ (by assumption) ?_
  · intro w hSw
    obtain ⟨y0, u0, u1, u2, u3, u4, u5, u6⟩ := HF.out w hSw
    go_simp
  try simp only [Act.put, List.setIfInBounds_toArray, List.set_cons_zero, List.set_cons_succ]
  refine takeH 1 85 (v := (.pointer (some ⟨g, off + kk * 7, none⟩))) rfl rfl (by kernel_rfl) (by kernel_rfl) (by kernel_rfl) (fun _ _ _ h => h) (by rfl) ?_ (by assumption) ?_
  · intro w hSw
    obtain ⟨y0, u0, u1, u2, u3, u4, u5, u6⟩ := HF.out w hSw
    go_simp
  try simp only [Act.put, List.setIfInBounds_toArray, List.set_cons_zero, List.set_cons_succ]
  refine takeH 2 86 (v := (.agg #[.int .i64 2, .int .i64 lo, .int .i64 (dn : Int), .int .i64 (an : Int), .int .i64 (bn : Int), .int .i32 lnn, .string lsym])) rfl rfl (by kernel_rfl) (by kernel_rfl) (by kernel_rfl) (fun _ _ _ h => h) (by rfl) ?_ (by assumption) ?_
  · intro w hSw
    obtain ⟨y0, u0, u1, u2, u3, u4, u5, u6⟩ := HF.out w hSw
    go_simp
  try simp only [Act.put, List.setIfInBounds_toArray, List.set_cons_zero, List.set_cons_succ]
  refine takeH 3 87 (v := (.int .i32 ra)) rfl rfl (by kernel_rfl) (by kernel_rfl) (by kernel_rfl) (fun _ _ _ h => h) (by rfl) ?_ (by assumption) ?_
  · intro w hSw
    obtain ⟨y0, u0, u1, u2, u3, u4, u5, u6⟩ := HF.out w hSw
    go_simp
  try simp only [Act.put, List.setIfInBounds_toArray, List.set_cons_zero, List.set_cons_succ]
  refine takeH 4 88 (v := (.int .i32 rb)) rfl rfl (by kernel_rfl) (by kernel_rfl) (by kernel_rfl) (fun _ _ _ h => h) (by rfl) ?_ (by assumption) ?_
  · intro w hSw
    obtain ⟨y0, u0, u1, u2, u3, u4, u5, u6⟩ := HF.out w hSw
    go_simp
  try simp only [Act.put, List.setIfInBounds_toArray, List.set_cons_zero, List.set_cons_succ]
  refine takeH 5 89 (v := (.pointer (some ⟨e.p, 0, none⟩))) rfl rfl (by kernel_rfl) (by kernel_rfl) (by kernel_rfl) (fun _ _ _ h => h) (by rfl) ?_ (by assumption) ?_
  · intro w hSw
    obtain ⟨y0, u0, u1, u2, u3, u4, u5, u6⟩ := HF.out w hSw
    go_simp
  try simp only [Act.put, List.setIfInBounds_toArray, List.set_cons_zero, List.set_cons_succ]
  refine takeH 6 90 (v := (.pointer (some ⟨e.p, 0, none⟩))) rfl rfl (by kernel_rfl) (by kernel_rfl) (by kernel_rfl) (fun _ _ _ h => h) (by rfl) ?_ (by assumption) ?_
  · intro w hSw
    obtain ⟨y0, u0, u1, u2, u3, u4, u5, u6⟩ := HF.out w hSw
    go_simp
  try simp only [Act.put, List.setIfInBounds_toArray, List.set_cons_zero, List.set_cons_succ]
  refine takeH 7 91 (v := (.pointer (some ⟨e.p, 34, none⟩))) rfl rfl (by kernel_rfl) (by kernel_rfl) (by kernel_rfl) (fun _ _ _ h => h) (by rfl) ?_ (by assumption) ?_
  · intro w hSw
    obtain ⟨y0, u0, u1, u2, u3, u4, u5, u6⟩ := HF.out w hSw
    go_simp
  try simp only [Act.put, List.setIfInBounds_toArray, List.set_cons_zero, List.set_cons_succ]
  refine takeH 8 92 (v := (.int .i32 z)) rfl rfl (by kernel_rfl) (by kernel_rfl) (by kernel_rfl) (fun _ _ _ h => h) (by rfl) ?_ (by assumption) ?_
  · intro w hSw
    obtain ⟨y0, u0, u1, u2, u3, u4, u5, u6⟩ := HF.out w hSw
    go_simp
  try simp only [Act.put, List.setIfInBounds_toArray, List.set_cons_zero, List.set_cons_succ]
  refine wpAnyH_ready (rs := [9]) (by kernel_rfl) (by simp) ?_
  refine AllReadyH.cons rfl (fun K hK => ?_) AllReadyH.nil
  go_simp
  go_at_call 16
  (with_reducible refine (step_any lo dn an bn lnn ra rb z o1 o2 lsym _).mono ?_)
  rintro en w3 ⟨rfl, hb3⟩
  have HB3 := Lib.hid ((show Below W2.heap.size W2 _ by assumption).trans (hb3.mono (show Below W2.heap.size W2 _ by assumption).size))
  clear hb3
  refine hK.out _ _ HB3.out (fun _ => ?_)
  clear hK K
  try simp only [Act.put, List.setIfInBounds_toArray, List.set_cons_zero, List.set_cons_succ]
  refine takeH 10 83 (v := (.tuple #[.int .i32 (stepI lo lnn ra rb z).1, .int .i32 (stepI lo lnn ra rb z).2])) rfl rfl (by kernel_rfl) (by kernel_rfl) (by kernel_rfl) (fun _ _ _ h => h) (by rfl) ?_ HB3.out ?_
  · intro w hSw
    obtain ⟨y0, u0, u1, u2, u3, u4, u5, u6⟩ := HF.out w hSw
    go_simp
  try simp only [Act.put, List.setIfInBounds_toArray, List.set_cons_zero, List.set_cons_succ]
  refine takeH 11 94 (v := (.int .i32 (stepI lo lnn ra rb z).1)) rfl rfl (by kernel_rfl) (by kernel_rfl) (by kernel_rfl) (fun _ _ _ h => h) (by rfl) ?_ HB3.out ?_
  · intro w hSw
    obtain ⟨y0, u0, u1, u2, u3, u4, u5, u6⟩ := HF.out w hSw
    go_simp
  try simp only [Act.put, List.setIfInBounds_toArray, List.set_cons_zero, List.set_cons_succ]
  refine takeH 13 5 (v := (.int .i32 (stepI lo lnn ra rb z).1)) rfl rfl (by kernel_rfl) (by kernel_rfl) (by kernel_rfl) (fun _ _ _ h => h) (by rfl) ?_ HB3.out ?_
  · intro w hSw
    obtain ⟨y0, u0, u1, u2, u3, u4, u5, u6⟩ := HF.out w hSw
    go_simp
  try simp only [Act.put, List.setIfInBounds_toArray, List.set_cons_zero, List.set_cons_succ]
  refine takeH 12 95 (v := (.int .i32 (stepI lo lnn ra rb z).2)) rfl rfl (by kernel_rfl) (by kernel_rfl) (by kernel_rfl) (fun _ _ _ h => h) (by rfl) ?_ HB3.out ?_
  · intro w hSw
    obtain ⟨y0, u0, u1, u2, u3, u4, u5, u6⟩ := HF.out w hSw
    go_simp
  try simp only [Act.put, List.setIfInBounds_toArray, List.set_cons_zero, List.set_cons_succ]
  refine takeH 14 6 (v := (.int .i32 (stepI lo lnn ra rb z).2)) rfl rfl (by kernel_rfl) (by kernel_rfl) (by kernel_rfl) (fun _ _ _ h => h) (by rfl) ?_ HB3.out ?_
  · intro w hSw
    obtain ⟨y0, u0, u1, u2, u3, u4, u5, u6⟩ := HF.out w hSw
    go_simp
  try simp only [Act.put, List.setIfInBounds_toArray, List.set_cons_zero, List.set_cons_succ]
  refine wpAnyH_done (by kernel_rfl) ?_ _
  have hM3 := HM2.out.grow HB3.out
  have x1 := HL.out _ _ hM3 1 _ rfl
  have x2 := HL.out _ _ hM3 2 _ rfl
  have x5 := HL.out _ _ hM3 5 _ rfl
  have HM3 := Lib.hid hM3
  clear hM3 HM2 HB3 HF
  generalize hst : stepI lo lnn ra rb z = st at *
  have HST := Lib.hid hst
  clear hst
  have f34 := HM3.out.free 34
  have x34 := HM3.out.cell 34 (.int .i32 s1.pc) (fun _ _ => rfl)
  have hdd : (dn : Int) ≤ 31 := by omega
  have hd0 : (0 : Int) ≤ (dn : Int) := by omega
  by_cases h24 : lo = 24
  · have b24 : (lo == 24) = true := by simp [h24]
    cases hw : wordM s1.mem.length (wrap32 (ra + lnn)) with
    | none =>
      have HO : Hid (insM e.inp ⟨2, lo, dn, an, bn, lnn, lsym⟩ s1 = .fin 6 s1) := Lib.hid (by unfold insM; rw [if_pos h24]; dsimp only; rw [Int.toNat_natCast, HRA.out.1, hw])
      have HW := Lib.hid (word_no HM3.out _ (wrap_rng _) HT.out.2.2.2 hw)
      clear hw h24
      go_wp2_with fail
      (with_reducible refine HW.out.mono ?_)
      rintro en w4 ⟨he, rfl⟩
      unfold Ends at he
      subst he
      exact ⟨rfl, by show Out e (insM e.inp ⟨2, lo, dn, an, bn, lnn, lsym⟩ s1) _ _; rw [HO.out]; exact ⟨rfl, HM3.out⟩⟩
    | some k =>
      have HO : Hid (insM e.inp ⟨2, lo, dn, an, bn, lnn, lsym⟩ s1 = .go (nextM ⟨2, lo, dn, an, bn, lnn, lsym⟩ st.2 (s1.mem.getD k 0) s1)) := Lib.hid (by unfold insM; rw [if_pos h24]; dsimp only; rw [Int.toNat_natCast, Int.toNat_natCast, HRA.out.1, hw, HRA.out.2, HZ1.out, HST.out])
      have HW := Lib.hid (word_yes HM3.out _ (wrap_rng _) HT.out.2.2.2 k hw)
      have hkm : k < s1.mem.length := by
        unfold wordM at hw
        split at hw
        · cases hw
        · next hc => injection hw with hw; simp only [not_or, Int.not_lt, Int.not_le] at hc; omega
      have xm := HM3.out.mem.cell k hkm
      clear hw h24 hkm
      generalize hvm : s1.mem.getD k 0 = vm at *
      have HVM := Lib.hid hvm
      clear hvm
      go_wp2_with fail
      (with_reducible refine HW.out.mono ?_)
      rintro en w4 ⟨rfl, rfl⟩
      clear HW
      obtain ⟨W5, hW5⟩ : ∃ W5, World.setCell w4 ⟨e.p, 34, none⟩ (.int .i32 st.2) = W5 := ⟨_, rfl⟩
      have hM5 : MAt e W5 { s1 with pc := st.2 } := by rw [← hW5]; exact HM3.out.next st.2
      have z2 := HL.out _ _ hM5 2 _ rfl
      by_cases hd9 : dn = 0
      · subst hd9
        have HM5 := Lib.hid hM5
        clear hM5
        go_wp2_with fail
        refine bodyPost_end (results_none rfl _ _ _) rfl ?_
        show Out e (insM e.inp ⟨2, lo, (0 : Nat), an, bn, lnn, lsym⟩ s1) _ _
        rw [HO.out]
        exact ⟨rfl, HM5.out⟩
      · have hd8 : ((dn : Int) == 0) = false := by simp; omega
        have zr := hM5.reg dn (by omega)
        have zf := hM5.free (1 + dn)
        have HM5 := Lib.hid (hM5.give dn (by omega) vm)
        have hd7 : (dn : Int) < 32 := by omega
        clear hM5
        generalize List.getD _ dn 0 = vr at zr
        go_upto_region 17 with fail
        go_still_tail 9, (by kernel_rfl)
        change wpList _ _ _ _ _ (World.drew _)
        go_wp2_with fail
        refine bodyPost_end (results_none rfl _ _ _) rfl ?_
        show Out e (insM e.inp ⟨2, lo, dn, an, bn, lnn, lsym⟩ s1) _ _
        rw [HO.out]
        refine ⟨rfl, ?_⟩
        have hnx : nextM ⟨2, lo, dn, an, bn, lnn, lsym⟩ st.2 vm s1 = { s1 with pc := st.2, regs := s1.regs.set dn vm } := by unfold nextM; rw [if_neg (by show ¬ (dn : Int) = 0; omega)]; rfl
        rw [hnx]
        exact HM5.out.drew
  · have b24 : (lo == 24) = false := by simp [h24]
    by_cases h25 : lo = 25
    · have b25 : (lo == 25) = true := by simp [h25]
      have hd : (dn : Int) = 0 := hsys (.inl h25)
      obtain rfl : dn = 0 := by omega
      cases hw : wordM s1.mem.length (wrap32 (ra + lnn)) with
      | none =>
        have HO : Hid (insM e.inp ⟨2, lo, (0 : Nat), an, bn, lnn, lsym⟩ s1 = .fin 6 s1) := Lib.hid (by unfold insM; rw [if_neg h24, if_pos h25]; dsimp only; rw [Int.toNat_natCast, HRA.out.1, hw])
        have HW := Lib.hid (word_no HM3.out _ (wrap_rng _) HT.out.2.2.2 hw)
        clear hw h24 h25 hsys hd
        go_wp2_with fail
        (with_reducible refine HW.out.mono ?_)
        rintro en w4 ⟨he, rfl⟩
        unfold Ends at he
        subst he
        exact ⟨rfl, by show Out e (insM e.inp ⟨2, lo, (0 : Nat), an, bn, lnn, lsym⟩ s1) _ _; rw [HO.out]; exact ⟨rfl, HM3.out⟩⟩
      | some k =>
        have HO : Hid (insM e.inp ⟨2, lo, (0 : Nat), an, bn, lnn, lsym⟩ s1 = .go (nextM ⟨2, lo, (0 : Nat), an, bn, lnn, lsym⟩ st.2 0 { s1 with mem := s1.mem.set k rb })) := Lib.hid (by unfold insM; rw [if_neg h24, if_pos h25]; dsimp only; rw [Int.toNat_natCast, Int.toNat_natCast, HRA.out.1, hw, HRA.out.2, HZ1.out, HST.out])
        have HW := Lib.hid (word_yes HM3.out _ (wrap_rng _) HT.out.2.2.2 k hw)
        have hkm : k < s1.mem.length := by
          unfold wordM at hw
          split at hw
          · cases hw
          · next hc => injection hw with hw; simp only [not_or, Int.not_lt, Int.not_le] at hc; omega
        have xm := HM3.out.mem.cell k hkm
        have fm := HM3.out.mem.free k
        clear hw h24 h25 hkm hsys hd
        generalize s1.mem.getD k 0 = vm at *
        go_wp2_with fail
        (with_reducible refine HW.out.mono ?_)
        rintro en w4 ⟨rfl, rfl⟩
        obtain ⟨W4, hW4⟩ : ∃ W4, w4.setCell ⟨e.q.mb, k, none⟩ (.int .i32 rb) = W4 := ⟨_, rfl⟩
        have hM4 : MAt e W4 { s1 with mem := s1.mem.set k rb } := by rw [← hW4]; exact HM3.out.store k rb
        have y1 := HL.out _ _ hM4 1 _ rfl
        have y2 := HL.out _ _ hM4 2 _ rfl
        have g34 := hM4.free 34
        have y34 := hM4.cell 34 (.int .i32 s1.pc) (fun _ _ => rfl)
        obtain ⟨W5, hW5⟩ : ∃ W5, W4.setCell ⟨e.p, 34, none⟩ (.int .i32 st.2) = W5 := ⟨_, rfl⟩
        have hM5 : MAt e W5 { s1 with mem := s1.mem.set k rb, pc := st.2 } := by rw [← hW5]; exact hM4.next st.2
        have z2 := HL.out _ _ hM5 2 _ rfl
        have HM5 := Lib.hid hM5
        clear HW hM4 hM5
        go_wp2_with fail
        refine bodyPost_end (results_none rfl _ _ _) rfl ?_
        show Out e (insM e.inp ⟨2, lo, (0 : Nat), an, bn, lnn, lsym⟩ s1) _ _
        rw [HO.out]
        exact ⟨rfl, HM5.out⟩
    · have b25 : (lo == 25) = false := by simp [h25]
      by_cases h30 : lo = 30
      · have b30 : (lo == 30) = true := by simp [h30]
        have hd : (dn : Int) = 0 := hsys (.inr h30)
        obtain rfl : dn = 0 := by omega
        have HC := Lib.hid (call_any HM3.out (by rw [← HS1.out]; exact HT.out.1) (by rw [← HS1.out]; exact HT.out.2.1) HT.out.2.2.1)
        have HO : Hid (insM e.inp ⟨2, lo, (0 : Nat), an, bn, lnn, lsym⟩ s1 = match callM e.inp s1 with | .fin k s' => .fin k s' | .go s' => .go (nextM ⟨2, lo, (0 : Nat), an, bn, lnn, lsym⟩ st.2 0 s')) := Lib.hid (by unfold insM; rw [if_neg h24, if_neg h25, if_pos h30]; dsimp only; rw [Int.toNat_natCast, Int.toNat_natCast, HRA.out.1, HRA.out.2, HZ1.out, HST.out])
        clear h24 h25 h30 hsys hd
        generalize callM e.inp s1 = C at *
        go_wp2_with fail
        (with_reducible refine HC.out.mono ?_)
        intro en w4 hC4
        cases C with
        | fin k s' =>
          obtain ⟨he, hT4⟩ := hC4
          have HT4 := Lib.hid hT4
          clear hT4
          unfold Ends at he
          subst he
          exact ⟨rfl, by show Out e (insM e.inp ⟨2, lo, (0 : Nat), an, bn, lnn, lsym⟩ s1) _ _; rw [HO.out]; exact ⟨rfl, HT4.out⟩⟩
        | go s' =>
          obtain ⟨rfl, hM4⟩ := hC4
          have y1 := HL.out _ _ hM4 1 _ rfl
          have y2 := HL.out _ _ hM4 2 _ rfl
          have g34 := hM4.free 34
          have y34 := hM4.cell 34 (.int .i32 s'.pc) (fun _ _ => rfl)
          obtain ⟨W5, hW5⟩ : ∃ W5, w4.setCell ⟨e.p, 34, none⟩ (.int .i32 st.2) = W5 := ⟨_, rfl⟩
          have hM5 : MAt e W5 { s' with pc := st.2 } := by rw [← hW5]; exact hM4.next st.2
          have z2 := HL.out _ _ hM5 2 _ rfl
          have HM5 := Lib.hid hM5
          clear hM4 hM5
          go_wp2_with fail
          refine bodyPost_end (results_none rfl _ _ _) rfl ?_
          show Out e (insM e.inp ⟨2, lo, (0 : Nat), an, bn, lnn, lsym⟩ s1) _ _
          rw [HO.out]
          exact ⟨rfl, HM5.out⟩
      · have b30 : (lo == 30) = false := by simp [h30]
        have HO : Hid (insM e.inp ⟨2, lo, dn, an, bn, lnn, lsym⟩ s1 = .go (nextM ⟨2, lo, dn, an, bn, lnn, lsym⟩ st.2 st.1 s1)) := Lib.hid (by unfold insM; rw [if_neg h24, if_neg h25, if_neg h30]; dsimp only; rw [Int.toNat_natCast, Int.toNat_natCast, HRA.out.1, HRA.out.2, HZ1.out, HST.out])
        clear h24 h25 h30 hsys
        obtain ⟨W5, hW5⟩ : ∃ W5, World.setCell w3 ⟨e.p, 34, none⟩ (.int .i32 st.2) = W5 := ⟨_, rfl⟩
        have hM5 : MAt e W5 { s1 with pc := st.2 } := by rw [← hW5]; exact HM3.out.next st.2
        have z2 := HL.out _ _ hM5 2 _ rfl
        by_cases hd9 : dn = 0
        · subst hd9
          have HM5 := Lib.hid hM5
          clear hM5
          go_wp2_with fail
          refine bodyPost_end (results_none rfl _ _ _) rfl ?_
          show Out e (insM e.inp ⟨2, lo, (0 : Nat), an, bn, lnn, lsym⟩ s1) _ _
          rw [HO.out]
          exact ⟨rfl, HM5.out⟩
        · have hd8 : ((dn : Int) == 0) = false := by simp; omega
          have zr := hM5.reg dn (by omega)
          have zf := hM5.free (1 + dn)
          have HM5 := Lib.hid (hM5.give dn (by omega) st.1)
          have hd7 : (dn : Int) < 32 := by omega
          clear hM5
          generalize List.getD _ dn 0 = vr at zr
          go_upto_region 17 with fail
          go_still_tail 9, (by kernel_rfl)
          change wpList _ _ _ _ _ (World.drew _)
          go_wp2_with fail
          refine bodyPost_end (results_none rfl _ _ _) rfl ?_
          show Out e (insM e.inp ⟨2, lo, dn, an, bn, lnn, lsym⟩ s1) _ _
          rw [HO.out]
          refine ⟨rfl, ?_⟩
          have hnx : nextM ⟨2, lo, dn, an, bn, lnn, lsym⟩ st.2 st.1 s1 = { s1 with pc := st.2, regs := s1.regs.set dn st.1 } := by unfold nextM; rw [if_neg (by show ¬ (dn : Int) = 0; omega)]; rfl
          rw [hnx]
          exact HM5.out.drew
end Rv
end Go.Proofs.Ytadgemcpahfkoaa
