/- What one of a key's files holds: the contract of cas's look. -/
import Derived.Test.YtdjnebgjdekmaaaGreatDoorZbl
import Derived.Test.YtdjnebgjdekmaaaGreatDoorZbf
set_option linter.unusedVariables false
set_option maxRecDepth 100000
namespace Go.Proofs.YtdjnebgjdekmaaaGreatDoor
open Go.RowKit Go.Shelf
def holdR (r : RD) (x : ByteArray) : Option (List Nat) := if hasP ltS r.now x = true then some (natsV (r.get x).data) else none
def SmallD (r : RD) : Prop := ∀ x, hasP ltS r.now x = true → (r.get x).data.length ≤ 90000
def SBox (w : World) (s d dn : Nat) : Prop := w.heap[s]? = some (.cells #[.pointer (some ⟨d, 0, none⟩), .int .i64 (dn : Int)] 77 (0, 0))
theorem SBox.lt {w : World} {s d dn : Nat} (h : SBox w s d dn) : s < w.heap.size := lt_of_block h
theorem SBox.below {w w' : World} {s d dn : Nat} (h : SBox w s d dn) (hb : Below w.heap.size w w') : SBox w' s d dn := (hb.block s h.lt).trans h
theorem SBox.cells {w : World} {s d dn : Nat} (h : SBox w s d dn) : w.cell? ⟨s, 0, none⟩ = some (.pointer (some ⟨d, 0, none⟩)) ∧ w.cell? ⟨s, 1, none⟩ = some (.int .i64 (dn : Int)) := ⟨(cell_of_row _ s 0 _ _ (0, 0) h).trans rfl, (cell_of_row _ s 1 _ _ (0, 0) h).trans rfl⟩
def SlotV (o : Option (List Nat)) (B : Nat) (v : Value) (W : World) : Prop :=
 match o with
 | none => v = .agg #[.bool true, .bool false, .slice none 0 0, .slice none 0 0]
 | some b => match splitE b with
  | none => v = .agg #[.bool false, .bool false, .slice none 0 0, .slice none 0 0]
  | some (k, a) => ∃ A1 c1 A2 c2, v = .agg #[.bool false, .bool true, .slice A1 k.length c1, .slice A2 a.length c2] ∧ BLine W A1 k.length c1 k ∧ BLine W A2 a.length c2 a ∧ (∀ j ∈ blk A1, B ≤ j) ∧ ∀ j ∈ blk A2, B ≤ j
section
variable {w : World} {q : Nat} {T : TypeId} {a0 a1 a2 a3 : Value}
theorem four_facts (h : w.heap[q]? = some (.cells #[a0, a1, a2, a3] T (0, 0))) : (w.cell? ⟨q, 0, none⟩ = some a0 ∧ w.cell? ⟨q, 1, none⟩ = some a1 ∧ w.cell? ⟨q, 2, none⟩ = some a2 ∧ w.cell? ⟨q, 3, none⟩ = some a3) ∧ w.frozen? ⟨q, 0, none⟩ = false ∧ w.frozen? ⟨q, 1, none⟩ = false ∧ w.frozen? ⟨q, 2, none⟩ = false ∧ w.frozen? ⟨q, 3, none⟩ = false :=
 ⟨⟨(cell_of_row _ q 0 _ T (0, 0) h).trans rfl, (cell_of_row _ q 1 _ T (0, 0) h).trans rfl, (cell_of_row _ q 2 _ T (0, 0) h).trans rfl, (cell_of_row _ q 3 _ T (0, 0) h).trans rfl⟩, frozen_of_row _ q 0 _ T h, frozen_of_row _ q 1 _ T h, frozen_of_row _ q 2 _ T h, frozen_of_row _ q 3 _ T h⟩
theorem four_set (h : w.heap[q]? = some (.cells #[a0, a1, a2, a3] T (0, 0))) (v0 v1 v2 v3 : Value) : ((((w.setCell ⟨q, 0, none⟩ v0).setCell ⟨q, 1, none⟩ v1).setCell ⟨q, 2, none⟩ v2).setCell ⟨q, 3, none⟩ v3).heap[q]? = some (.cells #[v0, v1, v2, v3] T (0, 0)) := by
 simp [World.setCell, Array.getElem?_modify, h]
theorem four_chg (w : World) (q : Nat) (v0 v1 v2 v3 : Value) : Chg [q] w ((((w.setCell ⟨q, 0, none⟩ v0).setCell ⟨q, 1, none⟩ v1).setCell ⟨q, 2, none⟩ v2).setCell ⟨q, 3, none⟩ v3) :=
 (((((Chg.refl [q] w).setCell q 0 v0 (.inl (by simp))).setCell q 1 v1 (.inl (by simp))).setCell q 2 v2 (.inl (by simp))).setCell q 3 v3 (.inl (by simp)))
end
theorem BLine.chg {w w' : World} {A : Option Addr} {n c : Nat} {l : List Nat} {L : List Nat} (h : BLine w A n c l) (hc : Chg L w w') (hl : ∀ k ∈ blk A, k ∉ L) : BLine w' A n c l := ⟨h.1, h.2.chg hc hl⟩
theorem ret_slot {fn : Func} {tr : Tmp} (hres : fn.results = #[.cell tr 125]) {R : Ending → World → Prop} {a : Act} {w : World} {q : Nat} {v0 v1 v2 v3 : Value} (hp : a.tmps.getD tr undef = .pointer (some ⟨q, 0, none⟩)) (hg : w.heap[q]? = some (.cells #[v0, v1, v2, v3] 125 (0, 0))) (hd : a.defers = []) (hR : R (.returned (.agg #[v0, v1, v2, v3])) w) : bodyPost Tryz.prog fn R .ret a w :=
 bodyPost_ret (results_cell_row hres a.tmps w q _ _ (0, 0) _ hp hg Tryz.underlying125 rfl (by kernel_rfl)) hd hR
set_option maxHeartbeats 1600000 in
theorem look_any (w : World) (s d dn : Nat) (own : Nat → Nat) (r : RD) (x : ByteArray) (hS : SBox w s d dn) (hD : IsD w d own r) (hsm : SmallD r) :
 Calls Tryz.prog 86 #[.pointer (some ⟨s, 0, none⟩), .string x] w fun e w' => (∃ v, e = .returned v ∧ SlotV (holdR r x) w.heap.size v w') ∧ Below w.heap.size w w' := by
 obtain ⟨w0, hw0⟩ : ∃ w0, w.alloc (.cells #[.bool false, .bool false, .slice none 0 0, .slice none 0 0] 125) = w0 := ⟨_, rfl⟩
 have hb0 : Below w.heap.size w w0 := by rw [← hw0]; exact (Below.refl _ _).alloc (Nat.le_refl _) _
 have hq0 : w0.heap[w.heap.size]? = some (.cells #[.bool false, .bool false, .slice none 0 0, .slice none 0 0] 125 (0, 0)) := by rw [← hw0]; exact heap_alloc_new w _
 have hz0 : w0.heap.size = w.heap.size + 1 := by rw [← hw0]; simp
 obtain ⟨c0, c1⟩ := (hS.below hb0).cells
 obtain ⟨q, hq⟩ : ∃ q, w.heap.size = q := ⟨_, rfl⟩
 have HQ := Lib.hid hq
 have HB0 := Lib.hid hb0
 have HZ0 := Lib.hid hz0
 cases hh : hasP ltS r.now x with
 | false =>
  have hho : holdR r x = none := by unfold holdR; rw [hh]; rfl
  have HC := Lib.hid ((hD.below hb0).read_no x hh)
  rw [hho]
  have HQ0 := Lib.hid hq0
  clear hho hS hD hb0 hq0 hz0 hsm
  go_enter Tryz.func86, Tryz.ntmps86
  go_wp2_with (with_reducible refine HC.out.mono ?_; rintro e w1 ⟨rfl, hb1⟩; have HB1 := Lib.hid hb1; have hq1 := (hb1.block _ (Array.getElem?_eq_some_iff.1 HQ0.out).1).trans HQ0.out; rw [hq] at hq1; obtain ⟨⟨d0, d1, d2, d3⟩, f0, f1, f2, f3⟩ := four_facts hq1; have HQ1 := Lib.hid hq1; clear hb1 hq1)
  refine ret_slot rfl rfl (four_set HQ1.out _ _ _ _) rfl ⟨⟨_, rfl, rfl⟩, ?_⟩
  have hb := HB0.out.trans (HB1.out.mono HB0.out.size)
  rw [hq] at hb ⊢
  exact hb.trans ((four_chg w1 q _ _ _ _).toBelow (fun k hk => by rw [List.mem_singleton] at hk; omega) (by have := HB1.out.size; have := HZ0.out; omega))
 | true =>
  obtain ⟨g1, g2, g3⟩ := (hD.below hb0).bytes x hh
  obtain ⟨e1, e2⟩ := cells_natsV _ g1
  obtain ⟨b, hbe⟩ : ∃ b, natsV (r.get x).data = b := ⟨_, rfl⟩
  have hho : holdR r x = some b := by unfold holdR; rw [hh, ← hbe]; rfl
  have hnl := hsm x hh
  have HC := Lib.hid ((hD.below hb0).read_yes x hh)
  rw [hbe] at e1 e2
  rw [← e1, cellsZ_length, asZ_length] at HC hnl
  rw [hho]
  have HQ0 := Lib.hid hq0
  have HE2 := Lib.hid e2
  clear hho hS hD hb0 hq0 hz0 hsm g1 g2 g3 e1 e2 hbe
  obtain ⟨bl, hbl⟩ : ∃ bl, b.length = bl := ⟨_, rfl⟩
  rw [hbl] at HC hnl
  have HBL := Lib.hid hbl
  clear hbl
  go_enter Tryz.func86, Tryz.ntmps86
  go_wp2_with fail
  with_reducible refine HC.out.mono ?_
  rintro e w1 ⟨⟨A1, n1, rfl, hl1, hf1⟩, hb1⟩
  have hB1 : BLine w1 A1 bl n1 b := ⟨HE2.out, hl1⟩
  have HP := Lib.hid (split_any w1 A1 bl n1 b hnl hl1.2.1 hl1.2.2.1 hB1.row)
  have hq1 := (hb1.block _ (Array.getElem?_eq_some_iff.1 HQ0.out).1).trans HQ0.out
  have HB1 := Lib.hid hb1
  rw [hq] at hq1
  have HQ1 := Lib.hid hq1
  clear hl1 hf1 hb1 hB1 hq1 HC
  go_wp2_with fail
  with_reducible refine HP.out.mono ?_
  rintro e w2 ⟨hans, hb2⟩
  have hq2 := (hb2.block _ (Array.getElem?_eq_some_iff.1 HQ1.out).1).trans HQ1.out
  obtain ⟨⟨d0, d1, d2, d3⟩, f0, f1, f2, f3⟩ := four_facts hq2
  have HQ2 := Lib.hid hq2
  have hb := HB0.out.trans ((HB1.out.trans (hb2.mono HB1.out.size)).mono HB0.out.size)
  have hzz : q ≤ w2.heap.size := by rw [← hq]; exact hb.size
  have hw1 : w.heap.size ≤ w1.heap.size := by have := HB1.out.size; have := HZ0.out; omega
  rw [hq] at hb hw1
  have HB := Lib.hid hb
  clear hq2 hb HP
  cases hsp : splitE b with
  | none =>
   unfold SplitAns at hans
   rw [hsp] at hans
   simp only at hans
   subst hans
   go_wp2
   rw [hq]
   refine ret_slot rfl rfl (four_set HQ2.out _ _ _ _) rfl ⟨⟨_, rfl, by simp only [SlotV, hsp]⟩, ?_⟩
   exact HB.out.trans ((four_chg w2 q _ _ _ _).toBelow (fun k hk => by rw [List.mem_singleton] at hk; omega) hzz)
  | some ka =>
   obtain ⟨k, a⟩ := ka
   unfold SplitAns at hans
   rw [hsp] at hans
   simp only at hans
   obtain ⟨A3, n3, A4, n4, rfl, hl3, hl4, hf3, hf4⟩ := hans
   have HL := Lib.hid (And.intro hl3 (And.intro hl4 (And.intro hf3 hf4)))
   have HZ1 := Lib.hid (show q < w1.heap.size by have := HB1.out.size; have := HZ0.out; have := HQ.out; omega)
   clear hl3 hl4 hf3 hf4
   go_wp2
   rw [hq]
   refine ret_slot rfl rfl (four_set HQ2.out _ _ _ _) rfl ⟨⟨_, rfl, ?_⟩, ?_⟩
   · unfold SlotV
     simp only
     rw [hsp]
     have hc4 := four_chg w2 q (.bool false) (.bool true) (.slice A3 k.length n3) (.slice A4 a.length n4)
     exact ⟨A3, n3, A4, n4, rfl, HL.out.1.chg hc4 (fun j hj hm => by rw [List.mem_singleton] at hm; have := HL.out.2.2.1 j hj; have := HZ1.out; omega), HL.out.2.1.chg hc4 (fun j hj hm => by rw [List.mem_singleton] at hm; have := HL.out.2.2.2 j hj; have := HZ1.out; omega), fun j hj => Nat.le_trans hw1 (HL.out.2.2.1 j hj), fun j hj => Nat.le_trans hw1 (HL.out.2.2.2 j hj)⟩
   · exact HB.out.trans ((four_chg w2 q _ _ _ _).toBelow (fun k hk => by rw [List.mem_singleton] at hk; omega) hzz)
end Go.Proofs.YtdjnebgjdekmaaaGreatDoor
