/-
  The document's machine: instructions that read a word, or print one.
  The document's machine in memory, whole: an instruction that is no call.
  The document's machine: an instruction that is no call, whole.
  The document's machine: the instruction that begins a call.
  The document's machine: a frame in memory, step by step.
-/
import Derived.Test.YtcanjkjpdnbcnaaZbb
namespace Go.Proofs.Ytcanjkjpdnbcnaa
open Go.RowKit
set_option linter.unusedVariables false
set_option linter.unusedSimpArgs false
set_option maxRecDepth 100000

set_option maxHeartbeats 3200000 in
theorem ins_8 (w : World) (p rb n : Nat) (m : Mc) (l : List Int) (x : MIn) (k : Nat) (ib io : Nat) (v : Int) (hm : McAt w p m) (hr : RegAt w rb l) (hl : l.length = n) (hn : n ≤ 100000) (hpr : rb ≠ p) (h0 : x.kind = 8) (hd : x.d = (k : Int)) (hk : k < n) (hrl : m.reads < m.inn) (hin : m.inn ≤ 90000) (hA : m.iA = some ⟨ib, io, none⟩) (hib : w.cell? ⟨ib, io + m.reads, none⟩ = some (.int .i32 v)) (hir : ib ≠ rb) (hip : ib ≠ p) :
    Calls Try.prog 30 #[.pointer (some ⟨p, 0, none⟩), .slice (some ⟨rb, 0, none⟩) n n, x.val] w fun e w' => e = .returned (.tuple #[]) ∧ RegAt w' rb (l.set k v) ∧ McAt w' p { m with reads := m.reads + 1 } ∧ Chg [rb, p] w w' := by
  obtain ⟨W0, xb, hW0, hxb, hB0, hx0⟩ := InBox.new w x
  have hm0 := hm.below hB0
  have hr0 := hr.below hB0
  have hxp : xb ≠ p := by have := hm.lt; omega
  have hxr : xb ≠ rb := by have := hr.lt; omega
  have x0 := hx0.c0
  have hn2 : (n : Int) ≤ 100000 := by omega
  have x2 := hx0.c2
  rw [hd] at x2
  have kZ : (0 : Int) ≤ (k : Int) := by omega
  have kN : (k : Int) < (n : Int) := by omega
  have r1 := hr0.cell k (by omega)
  have f1 := hr0.free k
  have x1 := hx0.c1
  obtain ⟨W1, hW1⟩ : ∃ W1, W0.setCell ⟨rb, k, none⟩ (.int .i32 0) = W1 := ⟨_, rfl⟩
  have hr1 : RegAt W1 rb (l.set k 0) := by rw [← hW1]; exact hr0.put k 0
  have hC1 : Chg [rb] W0 W1 := by rw [← hW1]; exact (Chg.refl _ W0).setCell rb k _ (.inl (List.mem_singleton.2 rfl))
  have hm1 : McAt W1 p m := hm0.same (hC1.same p hm0.lt (by simpa using hpr.symm))
  obtain ⟨L, hL⟩ : ∃ L, [rb] = L := ⟨_, rfl⟩
  have hrI : (m.reads : Int) < (m.inn : Int) := by omega
  have hr0I : (0 : Int) ≤ (m.reads : Int) := by omega
  have hiI : (m.inn : Int) ≤ 90000 := by omega
  have HF : Hid (∀ V, Chg L W1 V → V.cell? ⟨xb, 2, none⟩ = some (.int .i64 (k : Int)) ∧ V.cell? ⟨p, 10, none⟩ = some (.int .i64 (m.reads : Int)) ∧ V.cell? ⟨p, 3, none⟩ = some (.slice (some ⟨ib, io, none⟩) m.inn m.ic) ∧ V.cell? ⟨ib, io + m.reads, none⟩ = some (.int .i32 v)) := Lib.hid (fun V hV => by
    have m3 := hm1.c3
    rw [hA] at m3
    subst hL
    exact ⟨hV.read xb 2 (by simpa using hxr) (hC1.read xb 2 (by simpa using hxr) x2), hV.read p 10 (by simpa using hpr.symm) hm1.c10, hV.read p 3 (by simpa using hpr.symm) m3, hV.read ib (io + m.reads) (by simpa using hir) (hC1.read ib (io + m.reads) (by simpa using hir) ((hB0.cell (p := ⟨ib, io + m.reads, none⟩) (World.block_lt_of_cell? w _ hib)).trans hib))⟩)
  have HS2 : Hid (RegAt (W1.drew.drew.setCell ⟨rb, k, none⟩ (.int .i32 v)) rb (l.set k v) ∧ Chg L W1 (W1.drew.drew.setCell ⟨rb, k, none⟩ (.int .i32 v))) := Lib.hid ⟨by have h := (show RegAt W1.drew.drew rb (l.set k 0) from hr1).put k v; rw [List.set_set] at h; exact h, (Chg.refl L W1).drew.drew.setCell rb k _ (.inl (by rw [← hL]; simp))⟩
  obtain ⟨W2, hW2⟩ : ∃ W2, W1.drew.drew.setCell ⟨rb, k, none⟩ (.int .i32 v) = W2 := ⟨_, rfl⟩
  rw [hW2] at HS2
  have hm2 : McAt W2 p m := hm1.same (HS2.out.2.same p hm1.lt (by rw [← hL]; simpa using hpr.symm))
  have m10 := hm2.c10
  have g10 := hm2.free 10
  have HS3 := Lib.hid (hm2.set 10 (.int .i64 ((m.reads : Int) + 1)) { m with reads := m.reads + 1 } rfl)
  have hC3 : Chg [p] W2 (W2.setCell ⟨p, 10, none⟩ (.int .i64 ((m.reads : Int) + 1))) := (Chg.refl _ W2).setCell p 10 _ (.inl (List.mem_singleton.2 rfl))
  have HR3 := Lib.hid (HS2.out.1.chg hC3 (by simpa using hpr))
  have HC3 : Hid (Chg [rb, p] w (W2.setCell ⟨p, 10, none⟩ (.int .i64 ((m.reads : Int) + 1)))) := Lib.hid ((((Chg.of_below hB0).trans (hC1.weaken (fun k hk => .inl (by rw [List.mem_singleton] at hk; simp [hk])))).trans ((HS2.out.2).weaken (fun k hk => .inl (by rw [← hL, List.mem_singleton] at hk; simp [hk])))).trans (hC3.weaken (fun k hk => .inl (by rw [List.mem_singleton] at hk; simp [hk]))))
  have q1 : W1.drew.drew.cell? ⟨rb, k, none⟩ = some (.int .i32 0) := by
    have h := hr1.cell k (by rw [List.length_set]; omega)
    rw [List.getD_eq_getElem?_getD, List.getElem?_set_self (by omega)] at h
    exact h
  have q2 : W1.drew.drew.frozen? ⟨rb, k, none⟩ = false := hr1.free k
  rw [h0] at x0
  unfold MIn.val
  rw [h0, hd] at hW0 ⊢
  generalize l.getD k 0 = v0 at *
  clear hm hr hm0 hr0 hB0 hx0 hl hL hm1 hC1 hr1 x1 hm2 hC3 hib hA
  go_enter Try.func30, Try.ntmps30
  go_upto_region 34 with fail
  refine wp_region_held_drew (S := fun V => Chg L W1 V) (by kernel_rfl) (Chg.refl L W1).drew (fun _ => ?_)
  have hS0 : Chg L W1 W1.drew := (Chg.refl L W1).drew
  refine takeH 0 174 (v := (.pointer (some ⟨p, 0, none⟩))) rfl rfl (by kernel_rfl) (by kernel_rfl) (by kernel_rfl) (fun _ _ _ h => h) (by rfl) ?_ hS0 ?_
  · intro w hSw
    obtain ⟨y1, y2, y3, y4⟩ := HF.out w hSw
    go_simp
  try simp only [Act.put, List.setIfInBounds_toArray, List.set_cons_zero, List.set_cons_succ]
  refine takeH 1 175 (v := (.pointer (some ⟨p, 0, none⟩))) rfl rfl (by kernel_rfl) (by kernel_rfl) (by kernel_rfl) (fun _ _ _ h => h) (by rfl) ?_ hS0 ?_
  · intro w hSw
    obtain ⟨y1, y2, y3, y4⟩ := HF.out w hSw
    go_simp
  try simp only [Act.put, List.setIfInBounds_toArray, List.set_cons_zero, List.set_cons_succ]
  refine takeH 2 176 (v := (.pointer (some ⟨p, 6, none⟩))) rfl rfl (by kernel_rfl) (by kernel_rfl) (by kernel_rfl) (fun _ _ _ h => h) (by rfl) ?_ hS0 ?_
  · intro w hSw
    obtain ⟨y1, y2, y3, y4⟩ := HF.out w hSw
    go_simp
  try simp only [Act.put, List.setIfInBounds_toArray, List.set_cons_zero, List.set_cons_succ]
  refine takeH 3 177 (v := (.pointer (some ⟨p, 10, none⟩))) rfl rfl (by kernel_rfl) (by kernel_rfl) (by kernel_rfl) (fun _ _ _ h => h) (by rfl) ?_ hS0 ?_
  · intro w hSw
    obtain ⟨y1, y2, y3, y4⟩ := HF.out w hSw
    go_simp
  try simp only [Act.put, List.setIfInBounds_toArray, List.set_cons_zero, List.set_cons_succ]
  refine takeH 4 178 (v := (.int .i64 (m.reads : Int))) rfl rfl (by kernel_rfl) (by kernel_rfl) (by kernel_rfl) (fun _ _ _ h => h) (by rfl) ?_ hS0 ?_
  · intro w hSw
    obtain ⟨y1, y2, y3, y4⟩ := HF.out w hSw
    go_simp
  try simp only [Act.put, List.setIfInBounds_toArray, List.set_cons_zero, List.set_cons_succ]
  refine takeH 5 179 (v := (.pointer (some ⟨p, 0, none⟩))) rfl rfl (by kernel_rfl) (by kernel_rfl) (by kernel_rfl) (fun _ _ _ h => h) (by rfl) ?_ hS0 ?_
  · intro w hSw
    obtain ⟨y1, y2, y3, y4⟩ := HF.out w hSw
    go_simp
  try simp only [Act.put, List.setIfInBounds_toArray, List.set_cons_zero, List.set_cons_succ]
  refine takeH 6 180 (v := (.pointer (some ⟨p, 0, none⟩))) rfl rfl (by kernel_rfl) (by kernel_rfl) (by kernel_rfl) (fun _ _ _ h => h) (by rfl) ?_ hS0 ?_
  · intro w hSw
    obtain ⟨y1, y2, y3, y4⟩ := HF.out w hSw
    go_simp
  try simp only [Act.put, List.setIfInBounds_toArray, List.set_cons_zero, List.set_cons_succ]
  refine takeH 7 181 (v := (.pointer (some ⟨p, 3, none⟩))) rfl rfl (by kernel_rfl) (by kernel_rfl) (by kernel_rfl) (fun _ _ _ h => h) (by rfl) ?_ hS0 ?_
  · intro w hSw
    obtain ⟨y1, y2, y3, y4⟩ := HF.out w hSw
    go_simp
  try simp only [Act.put, List.setIfInBounds_toArray, List.set_cons_zero, List.set_cons_succ]
  refine takeH 8 182 (v := (.slice (some ⟨ib, io, none⟩) m.inn m.ic)) rfl rfl (by kernel_rfl) (by kernel_rfl) (by kernel_rfl) (fun _ _ _ h => h) (by rfl) ?_ hS0 ?_
  · intro w hSw
    obtain ⟨y1, y2, y3, y4⟩ := HF.out w hSw
    go_simp
  try simp only [Act.put, List.setIfInBounds_toArray, List.set_cons_zero, List.set_cons_succ]
  refine takeH 9 183 (v := (.int .i64 (m.inn : Int))) rfl rfl (by kernel_rfl) (by kernel_rfl) (by kernel_rfl) (fun _ _ _ h => h) (by rfl) ?_ hS0 ?_
  · intro w hSw
    obtain ⟨y1, y2, y3, y4⟩ := HF.out w hSw
    go_simp
  try simp only [Act.put, List.setIfInBounds_toArray, List.set_cons_zero, List.set_cons_succ]
  refine takeH 10 184 (v := (.bool true)) rfl rfl (by kernel_rfl) (by kernel_rfl) (by kernel_rfl) (fun _ _ _ h => h) (by rfl) ?_ hS0 ?_
  · intro w hSw
    obtain ⟨y1, y2, y3, y4⟩ := HF.out w hSw
    go_simp
  try simp only [Act.put, List.setIfInBounds_toArray, List.set_cons_zero, List.set_cons_succ]
  refine wpAnyH_done (by kernel_rfl) ?_ _
  go_upto_region 35 with fail
  refine wp_region_held_drew (S := fun V => Chg L W1 V) (by kernel_rfl) (Chg.refl L W1).drew.drew (fun _ => ?_)
  have hS1 : Chg L W1 W1.drew.drew := (Chg.refl L W1).drew.drew
  refine takeH 0 185 (v := (.slice (some ⟨rb, 0, none⟩) n n)) rfl rfl (by kernel_rfl) (by kernel_rfl) (by kernel_rfl) (fun _ _ _ h => h) (by rfl) ?_ hS1 ?_
  · intro w hSw
    obtain ⟨y1, y2, y3, y4⟩ := HF.out w hSw
    go_simp
  try simp only [Act.put, List.setIfInBounds_toArray, List.set_cons_zero, List.set_cons_succ]
  refine takeH 1 186 (v := (.pointer (some ⟨xb, 2, none⟩))) rfl rfl (by kernel_rfl) (by kernel_rfl) (by kernel_rfl) (fun _ _ _ h => h) (by rfl) ?_ hS1 ?_
  · intro w hSw
    obtain ⟨y1, y2, y3, y4⟩ := HF.out w hSw
    go_simp
  try simp only [Act.put, List.setIfInBounds_toArray, List.set_cons_zero, List.set_cons_succ]
  refine takeH 2 187 (v := (.int .i64 (k : Int))) rfl rfl (by kernel_rfl) (by kernel_rfl) (by kernel_rfl) (fun _ _ _ h => h) (by rfl) ?_ hS1 ?_
  · intro w hSw
    obtain ⟨y1, y2, y3, y4⟩ := HF.out w hSw
    go_simp
  try simp only [Act.put, List.setIfInBounds_toArray, List.set_cons_zero, List.set_cons_succ]
  refine takeH 3 188 (v := (.pointer (some ⟨p, 0, none⟩))) rfl rfl (by kernel_rfl) (by kernel_rfl) (by kernel_rfl) (fun _ _ _ h => h) (by rfl) ?_ hS1 ?_
  · intro w hSw
    obtain ⟨y1, y2, y3, y4⟩ := HF.out w hSw
    go_simp
  try simp only [Act.put, List.setIfInBounds_toArray, List.set_cons_zero, List.set_cons_succ]
  refine takeH 4 189 (v := (.pointer (some ⟨p, 0, none⟩))) rfl rfl (by kernel_rfl) (by kernel_rfl) (by kernel_rfl) (fun _ _ _ h => h) (by rfl) ?_ hS1 ?_
  · intro w hSw
    obtain ⟨y1, y2, y3, y4⟩ := HF.out w hSw
    go_simp
  try simp only [Act.put, List.setIfInBounds_toArray, List.set_cons_zero, List.set_cons_succ]
  refine takeH 5 190 (v := (.pointer (some ⟨p, 3, none⟩))) rfl rfl (by kernel_rfl) (by kernel_rfl) (by kernel_rfl) (fun _ _ _ h => h) (by rfl) ?_ hS1 ?_
  · intro w hSw
    obtain ⟨y1, y2, y3, y4⟩ := HF.out w hSw
    go_simp
  try simp only [Act.put, List.setIfInBounds_toArray, List.set_cons_zero, List.set_cons_succ]
  refine takeH 6 191 (v := (.slice (some ⟨ib, io, none⟩) m.inn m.ic)) rfl rfl (by kernel_rfl) (by kernel_rfl) (by kernel_rfl) (fun _ _ _ h => h) (by rfl) ?_ hS1 ?_
  · intro w hSw
    obtain ⟨y1, y2, y3, y4⟩ := HF.out w hSw
    go_simp
  try simp only [Act.put, List.setIfInBounds_toArray, List.set_cons_zero, List.set_cons_succ]
  refine takeH 7 192 (v := (.pointer (some ⟨p, 0, none⟩))) rfl rfl (by kernel_rfl) (by kernel_rfl) (by kernel_rfl) (fun _ _ _ h => h) (by rfl) ?_ hS1 ?_
  · intro w hSw
    obtain ⟨y1, y2, y3, y4⟩ := HF.out w hSw
    go_simp
  try simp only [Act.put, List.setIfInBounds_toArray, List.set_cons_zero, List.set_cons_succ]
  refine takeH 8 193 (v := (.pointer (some ⟨p, 0, none⟩))) rfl rfl (by kernel_rfl) (by kernel_rfl) (by kernel_rfl) (fun _ _ _ h => h) (by rfl) ?_ hS1 ?_
  · intro w hSw
    obtain ⟨y1, y2, y3, y4⟩ := HF.out w hSw
    go_simp
  try simp only [Act.put, List.setIfInBounds_toArray, List.set_cons_zero, List.set_cons_succ]
  refine takeH 9 194 (v := (.pointer (some ⟨p, 6, none⟩))) rfl rfl (by kernel_rfl) (by kernel_rfl) (by kernel_rfl) (fun _ _ _ h => h) (by rfl) ?_ hS1 ?_
  · intro w hSw
    obtain ⟨y1, y2, y3, y4⟩ := HF.out w hSw
    go_simp
  try simp only [Act.put, List.setIfInBounds_toArray, List.set_cons_zero, List.set_cons_succ]
  refine takeH 10 195 (v := (.pointer (some ⟨p, 10, none⟩))) rfl rfl (by kernel_rfl) (by kernel_rfl) (by kernel_rfl) (fun _ _ _ h => h) (by rfl) ?_ hS1 ?_
  · intro w hSw
    obtain ⟨y1, y2, y3, y4⟩ := HF.out w hSw
    go_simp
  try simp only [Act.put, List.setIfInBounds_toArray, List.set_cons_zero, List.set_cons_succ]
  refine takeH 11 196 (v := (.int .i64 (m.reads : Int))) rfl rfl (by kernel_rfl) (by kernel_rfl) (by kernel_rfl) (fun _ _ _ h => h) (by rfl) ?_ hS1 ?_
  · intro w hSw
    obtain ⟨y1, y2, y3, y4⟩ := HF.out w hSw
    go_simp
  try simp only [Act.put, List.setIfInBounds_toArray, List.set_cons_zero, List.set_cons_succ]
  refine takeH 12 197 (v := (.pointer (some ⟨ib, io + m.reads, none⟩))) rfl rfl (by kernel_rfl) (by kernel_rfl) (by kernel_rfl) (fun _ _ _ h => h) (by rfl) ?_ hS1 ?_
  · intro w hSw
    obtain ⟨y1, y2, y3, y4⟩ := HF.out w hSw
    go_simp
  try simp only [Act.put, List.setIfInBounds_toArray, List.set_cons_zero, List.set_cons_succ]
  refine takeH 13 198 (v := (.int .i32 v)) rfl rfl (by kernel_rfl) (by kernel_rfl) (by kernel_rfl) (fun _ _ _ h => h) (by rfl) ?_ hS1 ?_
  · intro w hSw
    obtain ⟨y1, y2, y3, y4⟩ := HF.out w hSw
    go_simp
  try simp only [Act.put, List.setIfInBounds_toArray, List.set_cons_zero, List.set_cons_succ]
  refine takeH 14 199 (v := (.pointer (some ⟨rb, k, none⟩))) rfl rfl (by kernel_rfl) (by kernel_rfl) (by kernel_rfl) (fun _ _ _ h => h) (by rfl) ?_ hS1 ?_
  · intro w hSw
    obtain ⟨y1, y2, y3, y4⟩ := HF.out w hSw
    go_simp
  try simp only [Act.put, List.setIfInBounds_toArray, List.set_cons_zero, List.set_cons_succ]
  refine wpAnyH_ready (rs := [15]) (by kernel_rfl) (by simp) ?_
  refine AllReadyH.cons rfl (fun K hK => ?_) AllReadyH.nil
  go_simp
  try rw [hW2]
  refine hK.out _ _ HS2.out.2 (fun _ => ?_)
  clear hK K
  try simp only [Act.put, List.setIfInBounds_toArray, List.set_cons_zero, List.set_cons_succ]
  refine wpAnyH_done (by kernel_rfl) ?_ _
  go_wp2_with fail
  exact bodyPost_end (results_none rfl _ _ _) rfl ⟨rfl, HR3.out, HS3.out, HC3.out⟩
set_option maxHeartbeats 3200000 in
theorem ins_8no (w : World) (p rb n : Nat) (m : Mc) (l : List Int) (x : MIn) (k : Nat) (hm : McAt w p m) (hr : RegAt w rb l) (hl : l.length = n) (hn : n ≤ 100000) (hpr : rb ≠ p) (h0 : x.kind = 8) (hd : x.d = (k : Int)) (hk : k < n) (hrl : m.reads = m.inn) :
    Calls Try.prog 30 #[.pointer (some ⟨p, 0, none⟩), .slice (some ⟨rb, 0, none⟩) n n, x.val] w fun e w' => e = .returned (.tuple #[]) ∧ RegAt w' rb (l.set k 0) ∧ Chg [rb] w w' := by
  obtain ⟨W0, xb, hW0, hxb, hB0, hx0⟩ := InBox.new w x
  have hm0 := hm.below hB0
  have hr0 := hr.below hB0
  have hxp : xb ≠ p := by have := hm.lt; omega
  have hxr : xb ≠ rb := by have := hr.lt; omega
  have x0 := hx0.c0
  have hn2 : (n : Int) ≤ 100000 := by omega
  have x2 := hx0.c2
  rw [hd] at x2
  have kZ : (0 : Int) ≤ (k : Int) := by omega
  have kN : (k : Int) < (n : Int) := by omega
  have r1 := hr0.cell k (by omega)
  have f1 := hr0.free k
  have x1 := hx0.c1
  obtain ⟨W1, hW1⟩ : ∃ W1, W0.setCell ⟨rb, k, none⟩ (.int .i32 0) = W1 := ⟨_, rfl⟩
  have hr1 : RegAt W1 rb (l.set k 0) := by rw [← hW1]; exact hr0.put k 0
  have hC1 : Chg [rb] W0 W1 := by rw [← hW1]; exact (Chg.refl _ W0).setCell rb k _ (.inl (List.mem_singleton.2 rfl))
  have hm1 : McAt W1 p m := hm0.same (hC1.same p hm0.lt (by simpa using hpr.symm))
  obtain ⟨L, hL⟩ : ∃ L, [rb] = L := ⟨_, rfl⟩
  have hrI : ¬ (m.inn : Int) < (m.inn : Int) := by omega
  have HF : Hid (∀ V, Chg L W1 V → V.cell? ⟨p, 10, none⟩ = some (.int .i64 (m.inn : Int)) ∧ V.cell? ⟨p, 3, none⟩ = some (.slice m.iA m.inn m.ic)) := Lib.hid (fun V hV => by
    have m10 := hm1.c10
    rw [hrl] at m10
    subst hL
    exact ⟨hV.read p 10 (by simpa using hpr.symm) m10, hV.read p 3 (by simpa using hpr.symm) hm1.c3⟩)
  have HS2 := Lib.hid hr1
  have HC3 : Hid (Chg [rb] w W1) := Lib.hid ((Chg.of_below hB0).trans hC1)
  rw [h0] at x0
  unfold MIn.val
  rw [h0, hd] at hW0 ⊢
  generalize l.getD k 0 = v0 at *
  clear hm hr hm0 hr0 hB0 hx0 hl hL hm1 hC1 hr1 x1
  go_enter Try.func30, Try.ntmps30
  go_upto_region 34 with fail
  refine wp_region_held_drew (S := fun V => Chg L W1 V) (by kernel_rfl) (Chg.refl L W1).drew (fun _ => ?_)
  have hS0 : Chg L W1 W1.drew := (Chg.refl L W1).drew
  refine takeH 0 174 (v := (.pointer (some ⟨p, 0, none⟩))) rfl rfl (by kernel_rfl) (by kernel_rfl) (by kernel_rfl) (fun _ _ _ h => h) (by rfl) ?_ hS0 ?_
  · intro w hSw
    obtain ⟨y1, y2⟩ := HF.out w hSw
    go_simp
  try simp only [Act.put, List.setIfInBounds_toArray, List.set_cons_zero, List.set_cons_succ]
  refine takeH 1 175 (v := (.pointer (some ⟨p, 0, none⟩))) rfl rfl (by kernel_rfl) (by kernel_rfl) (by kernel_rfl) (fun _ _ _ h => h) (by rfl) ?_ hS0 ?_
  · intro w hSw
    obtain ⟨y1, y2⟩ := HF.out w hSw
    go_simp
  try simp only [Act.put, List.setIfInBounds_toArray, List.set_cons_zero, List.set_cons_succ]
  refine takeH 2 176 (v := (.pointer (some ⟨p, 6, none⟩))) rfl rfl (by kernel_rfl) (by kernel_rfl) (by kernel_rfl) (fun _ _ _ h => h) (by rfl) ?_ hS0 ?_
  · intro w hSw
    obtain ⟨y1, y2⟩ := HF.out w hSw
    go_simp
  try simp only [Act.put, List.setIfInBounds_toArray, List.set_cons_zero, List.set_cons_succ]
  refine takeH 3 177 (v := (.pointer (some ⟨p, 10, none⟩))) rfl rfl (by kernel_rfl) (by kernel_rfl) (by kernel_rfl) (fun _ _ _ h => h) (by rfl) ?_ hS0 ?_
  · intro w hSw
    obtain ⟨y1, y2⟩ := HF.out w hSw
    go_simp
  try simp only [Act.put, List.setIfInBounds_toArray, List.set_cons_zero, List.set_cons_succ]
  refine takeH 4 178 (v := (.int .i64 (m.inn : Int))) rfl rfl (by kernel_rfl) (by kernel_rfl) (by kernel_rfl) (fun _ _ _ h => h) (by rfl) ?_ hS0 ?_
  · intro w hSw
    obtain ⟨y1, y2⟩ := HF.out w hSw
    go_simp
  try simp only [Act.put, List.setIfInBounds_toArray, List.set_cons_zero, List.set_cons_succ]
  refine takeH 5 179 (v := (.pointer (some ⟨p, 0, none⟩))) rfl rfl (by kernel_rfl) (by kernel_rfl) (by kernel_rfl) (fun _ _ _ h => h) (by rfl) ?_ hS0 ?_
  · intro w hSw
    obtain ⟨y1, y2⟩ := HF.out w hSw
    go_simp
  try simp only [Act.put, List.setIfInBounds_toArray, List.set_cons_zero, List.set_cons_succ]
  refine takeH 6 180 (v := (.pointer (some ⟨p, 0, none⟩))) rfl rfl (by kernel_rfl) (by kernel_rfl) (by kernel_rfl) (fun _ _ _ h => h) (by rfl) ?_ hS0 ?_
  · intro w hSw
    obtain ⟨y1, y2⟩ := HF.out w hSw
    go_simp
  try simp only [Act.put, List.setIfInBounds_toArray, List.set_cons_zero, List.set_cons_succ]
  refine takeH 7 181 (v := (.pointer (some ⟨p, 3, none⟩))) rfl rfl (by kernel_rfl) (by kernel_rfl) (by kernel_rfl) (fun _ _ _ h => h) (by rfl) ?_ hS0 ?_
  · intro w hSw
    obtain ⟨y1, y2⟩ := HF.out w hSw
    go_simp
  try simp only [Act.put, List.setIfInBounds_toArray, List.set_cons_zero, List.set_cons_succ]
  refine takeH 8 182 (v := (.slice m.iA m.inn m.ic)) rfl rfl (by kernel_rfl) (by kernel_rfl) (by kernel_rfl) (fun _ _ _ h => h) (by rfl) ?_ hS0 ?_
  · intro w hSw
    obtain ⟨y1, y2⟩ := HF.out w hSw
    go_simp
  try simp only [Act.put, List.setIfInBounds_toArray, List.set_cons_zero, List.set_cons_succ]
  refine takeH 9 183 (v := (.int .i64 (m.inn : Int))) rfl rfl (by kernel_rfl) (by kernel_rfl) (by kernel_rfl) (fun _ _ _ h => h) (by rfl) ?_ hS0 ?_
  · intro w hSw
    obtain ⟨y1, y2⟩ := HF.out w hSw
    go_simp
  try simp only [Act.put, List.setIfInBounds_toArray, List.set_cons_zero, List.set_cons_succ]
  refine takeH 10 184 (v := (.bool false)) rfl rfl (by kernel_rfl) (by kernel_rfl) (by kernel_rfl) (fun _ _ _ h => h) (by rfl) ?_ hS0 ?_
  · intro w hSw
    obtain ⟨y1, y2⟩ := HF.out w hSw
    go_simp
  try simp only [Act.put, List.setIfInBounds_toArray, List.set_cons_zero, List.set_cons_succ]
  refine wpAnyH_done (by kernel_rfl) ?_ _
  go_wp2_with fail
  exact bodyPost_end (results_none rfl _ _ _) rfl ⟨rfl, HS2.out, HC3.out.drew⟩
set_option maxHeartbeats 3200000 in
theorem ins_9 (w : World) (p rb n : Nat) (m : Mc) (l : List Int) (x : MIn) (j : Nat) (tr : List Int) (hm : McAt w p m) (hr : RegAt w rb l) (hl : l.length = n) (hn : n ≤ 100000) (hpr : rb ≠ p) (h0 : x.kind = 9) (ha : x.a = (j : Int)) (hj : j < n) (hT : SLine 1 w m.tA m.tn m.tc (cellsN tr)) (htn : m.tn ≤ 90000) (hpt : p ∉ blk m.tA) (hrt : rb ∉ blk m.tA) :
    Calls Try.prog 30 #[.pointer (some ⟨p, 0, none⟩), .slice (some ⟨rb, 0, none⟩) n n, x.val] w fun e w' => e = .returned (.tuple #[]) ∧ ∃ A' c', McAt w' p { m with tA := A', tn := m.tn + 1, tc := c' } ∧ SLine 1 w' A' (m.tn + 1) c' (cellsN (tr ++ [l.getD j 0])) ∧ Chg (p :: blk m.tA) w w' ∧ ∀ k ∈ blk A', k ∈ blk m.tA ∨ w.heap.size ≤ k := by
  obtain ⟨W0, xb, hW0, hxb, hB0, hx0⟩ := InBox.new w x
  have hm0 := hm.below hB0
  have hr0 := hr.below hB0
  have hxp : xb ≠ p := by have := hm.lt; omega
  have hxr : xb ≠ rb := by have := hr.lt; omega
  have x0 := hx0.c0
  have hn2 : (n : Int) ≤ 100000 := by omega
  have x3 := hx0.c3
  rw [ha] at x3
  have jZ : (0 : Int) ≤ (j : Int) := by omega
  have jN : (j : Int) < (n : Int) := by omega
  have hxt : xb ∉ blk m.tA := fun hh => by have := hT.lt _ hh; omega
  have hT0 := hT.below hB0
  obtain ⟨L, hL⟩ : ∃ L, p :: blk m.tA = L := ⟨_, rfl⟩
  have HF : Hid (∀ V, Chg L W0 V → V.cell? ⟨xb, 3, none⟩ = some (.int .i64 (j : Int)) ∧ V.cell? ⟨rb, j, none⟩ = some (.int .i32 (l.getD j 0))) := Lib.hid (fun V hV => by
    subst hL
    exact ⟨hV.read xb 3 (by simp [hxp, hxt]) x3, hV.read rb j (by simp [hpr, hrt]) (hr0.cell j (by omega))⟩)
  generalize hz9 : l.getD j 0 = z9 at *
  obtain ⟨A', c', w2, hr2, hl2, hc2, hf2⟩ := word_push W0.drew m.tA m.tn m.tc tr hT0.drew (by omega) z9
  have hm2 : McAt w2 p m := (show McAt W0.drew p m from hm0).same (hc2.same p hm0.lt hpt)
  have q8 := hm2.c8
  have g8 := hm2.free 8
  have p8 := hm0.c8
  have HRUN := Lib.hid hr2
  have HC2 : Hid (Chg L W0 w2) := Lib.hid ((((Chg.refl (blk m.tA) W0).drew).trans hc2).weaken (fun k hk => .inl (by rw [← hL]; simp [hk])))
  have HC3 : Hid (Chg L W0 (w2.setCell ⟨p, 8, none⟩ (.slice A' (m.tn + 1) c'))) := Lib.hid (HC2.out.setCell p 8 _ (.inl (by rw [← hL]; simp)))
  have HCA : Hid (Chg L W0 (W0.alloc (.cells #[.int .i32 z9] 21)).drew) := Lib.hid (((Chg.refl L W0).alloc _).drew)
  have hpA : p ∉ blk A' := fun hh => by rcases hf2 p hh with h | h; exact hpt h; have := hm0.lt; have : W0.drew.heap.size = W0.heap.size := rfl; omega
  have HFIN : Hid (∃ A'' c'', McAt (w2.setCell ⟨p, 8, none⟩ (.slice A' (m.tn + 1) c')) p { m with tA := A'', tn := m.tn + 1, tc := c'' } ∧ SLine 1 (w2.setCell ⟨p, 8, none⟩ (.slice A' (m.tn + 1) c')) A'' (m.tn + 1) c'' (cellsN (tr ++ [z9])) ∧ Chg (p :: blk m.tA) w (w2.setCell ⟨p, 8, none⟩ (.slice A' (m.tn + 1) c')) ∧ ∀ k ∈ blk A'', k ∈ blk m.tA ∨ w.heap.size ≤ k) := Lib.hid ⟨A', c', hm2.set 8 _ _ rfl, hl2.chg ((Chg.refl [p] w2).setCell p 8 _ (.inl (List.mem_singleton.2 rfl))) (fun k hk hm => hpA (by rw [← List.mem_singleton.1 hm]; exact hk)),
    (Chg.of_below hB0).trans (by rw [hL]; exact HC3.out), fun k hk => by
      rcases hf2 k hk with h | h
      · exact .inl h
      · exact .inr (by have h1 := hB0.size; have h2 : W0.drew.heap.size = W0.heap.size := rfl; omega)⟩
  have k8 : ((W0.alloc (.cells #[.int .i32 z9] 21)).drew).cell? ⟨p, 8, none⟩ = some (.slice m.tA m.tn m.tc) := ((Chg.refl [] W0).alloc _).read p 8 (by simp) p8
  rw [h0] at x0
  unfold MIn.val
  rw [h0, ha] at hW0 ⊢
  clear hm hr hm0 hr0 hB0 hx0 hl hL hr2 hl2 hc2 hf2 hz9 hT hT0 hm2
  go_enter Try.func30, Try.ntmps30
  go_upto_region 38 with fail
  refine wp_region_held_drew (S := fun V => Chg L W0 V) (by kernel_rfl) ((Chg.refl L W0).drew) (fun _ => ?_)
  have hS0 : Chg L W0 W0.drew := (Chg.refl L W0).drew
  refine takeH 0 211 (v := (.pointer (some ⟨p, 0, none⟩))) rfl rfl (by kernel_rfl) (by kernel_rfl) (by kernel_rfl) (fun _ _ _ h => h) (by rfl) ?_ hS0 ?_
  · intro w hSw
    obtain ⟨y0, y1⟩ := HF.out w hSw
    go_simp
  try simp only [Act.put, List.setIfInBounds_toArray, List.set_cons_zero, List.set_cons_succ]
  refine takeH 1 212 (v := (.pointer (some ⟨p, 0, none⟩))) rfl rfl (by kernel_rfl) (by kernel_rfl) (by kernel_rfl) (fun _ _ _ h => h) (by rfl) ?_ hS0 ?_
  · intro w hSw
    obtain ⟨y0, y1⟩ := HF.out w hSw
    go_simp
  try simp only [Act.put, List.setIfInBounds_toArray, List.set_cons_zero, List.set_cons_succ]
  refine takeH 2 213 (v := (.pointer (some ⟨p, 0, none⟩))) rfl rfl (by kernel_rfl) (by kernel_rfl) (by kernel_rfl) (fun _ _ _ h => h) (by rfl) ?_ hS0 ?_
  · intro w hSw
    obtain ⟨y0, y1⟩ := HF.out w hSw
    go_simp
  try simp only [Act.put, List.setIfInBounds_toArray, List.set_cons_zero, List.set_cons_succ]
  refine takeH 3 214 (v := (.pointer (some ⟨p, 6, none⟩))) rfl rfl (by kernel_rfl) (by kernel_rfl) (by kernel_rfl) (fun _ _ _ h => h) (by rfl) ?_ hS0 ?_
  · intro w hSw
    obtain ⟨y0, y1⟩ := HF.out w hSw
    go_simp
  try simp only [Act.put, List.setIfInBounds_toArray, List.set_cons_zero, List.set_cons_succ]
  refine takeH 4 215 (v := (.pointer (some ⟨p, 8, none⟩))) rfl rfl (by kernel_rfl) (by kernel_rfl) (by kernel_rfl) (fun _ _ _ h => h) (by rfl) ?_ hS0 ?_
  · intro w hSw
    obtain ⟨y0, y1⟩ := HF.out w hSw
    go_simp
  try simp only [Act.put, List.setIfInBounds_toArray, List.set_cons_zero, List.set_cons_succ]
  refine takeH 6 217 (v := (.slice (some ⟨rb, 0, none⟩) n n)) rfl rfl (by kernel_rfl) (by kernel_rfl) (by kernel_rfl) (fun _ _ _ h => h) (by rfl) ?_ hS0 ?_
  · intro w hSw
    obtain ⟨y0, y1⟩ := HF.out w hSw
    go_simp
  try simp only [Act.put, List.setIfInBounds_toArray, List.set_cons_zero, List.set_cons_succ]
  refine takeH 7 218 (v := (.pointer (some ⟨xb, 3, none⟩))) rfl rfl (by kernel_rfl) (by kernel_rfl) (by kernel_rfl) (fun _ _ _ h => h) (by rfl) ?_ hS0 ?_
  · intro w hSw
    obtain ⟨y0, y1⟩ := HF.out w hSw
    go_simp
  try simp only [Act.put, List.setIfInBounds_toArray, List.set_cons_zero, List.set_cons_succ]
  refine takeH 8 219 (v := (.int .i64 (j : Int))) rfl rfl (by kernel_rfl) (by kernel_rfl) (by kernel_rfl) (fun _ _ _ h => h) (by rfl) ?_ hS0 ?_
  · intro w hSw
    obtain ⟨y0, y1⟩ := HF.out w hSw
    go_simp
  try simp only [Act.put, List.setIfInBounds_toArray, List.set_cons_zero, List.set_cons_succ]
  refine takeH 9 220 (v := (.pointer (some ⟨rb, j, none⟩))) rfl rfl (by kernel_rfl) (by kernel_rfl) (by kernel_rfl) (fun _ _ _ h => h) (by rfl) ?_ hS0 ?_
  · intro w hSw
    obtain ⟨y0, y1⟩ := HF.out w hSw
    go_simp
  try simp only [Act.put, List.setIfInBounds_toArray, List.set_cons_zero, List.set_cons_succ]
  refine takeH 10 221 (v := (.int .i32 z9)) rfl rfl (by kernel_rfl) (by kernel_rfl) (by kernel_rfl) (fun _ _ _ h => h) (by rfl) ?_ hS0 ?_
  · intro w hSw
    obtain ⟨y0, y1⟩ := HF.out w hSw
    go_simp
  try simp only [Act.put, List.setIfInBounds_toArray, List.set_cons_zero, List.set_cons_succ]
  refine wpAnyH_ready (rs := [5, 11]) (by kernel_rfl) (by simp) ?_
  refine AllReadyH.cons rfl (fun K hK => ?_) (AllReadyH.cons rfl (fun K hK => ?_) AllReadyH.nil)
  · go_simp
    refine hK.out _ _ hS0 (fun _ => ?_)
    clear hK K
    try simp only [Act.put, List.setIfInBounds_toArray, List.set_cons_zero, List.set_cons_succ]
    refine wpAnyH_ready (rs := [11]) (by kernel_rfl) (by simp) ?_
    refine AllReadyH.cons rfl (fun K hK => ?_) AllReadyH.nil
    go_simp
    refine hK.out _ _ HCA.out (fun _ => ?_)
    clear hK K
    try simp only [Act.put, List.setIfInBounds_toArray, List.set_cons_zero, List.set_cons_succ]
    refine wpAnyH_ready (rs := [12]) (by kernel_rfl) (by simp) ?_
    refine appendT_ready rfl (by kernel_rfl) _ _ _ _ rfl _ _ rfl rfl _ _ HRUN.out HC2.out ?_
    try simp only [Act.put, List.setIfInBounds_toArray, List.set_cons_zero, List.set_cons_succ]
    refine takeH 13 224 (v := (.pointer (some ⟨p, 0, none⟩))) rfl rfl (by kernel_rfl) (by kernel_rfl) (by kernel_rfl) (fun _ _ _ h => h) (by rfl) ?_ HC2.out ?_
    · intro w hSw
      obtain ⟨y0, y1⟩ := HF.out w hSw
      go_simp
    try simp only [Act.put, List.setIfInBounds_toArray, List.set_cons_zero, List.set_cons_succ]
    refine takeH 14 225 (v := (.pointer (some ⟨p, 6, none⟩))) rfl rfl (by kernel_rfl) (by kernel_rfl) (by kernel_rfl) (fun _ _ _ h => h) (by rfl) ?_ HC2.out ?_
    · intro w hSw
      obtain ⟨y0, y1⟩ := HF.out w hSw
      go_simp
    try simp only [Act.put, List.setIfInBounds_toArray, List.set_cons_zero, List.set_cons_succ]
    refine takeH 15 226 (v := (.pointer (some ⟨p, 8, none⟩))) rfl rfl (by kernel_rfl) (by kernel_rfl) (by kernel_rfl) (fun _ _ _ h => h) (by rfl) ?_ HC2.out ?_
    · intro w hSw
      obtain ⟨y0, y1⟩ := HF.out w hSw
      go_simp
    try simp only [Act.put, List.setIfInBounds_toArray, List.set_cons_zero, List.set_cons_succ]
    refine wpAnyH_ready (rs := [16]) (by kernel_rfl) (by simp) ?_
    refine AllReadyH.cons rfl (fun K hK => ?_) AllReadyH.nil
    go_simp
    refine hK.out _ _ HC3.out (fun _ => ?_)
    clear hK K
    try simp only [Act.put, List.setIfInBounds_toArray, List.set_cons_zero, List.set_cons_succ]
    refine wpAnyH_done (by kernel_rfl) ?_ _
    go_wp2_with fail
    exact bodyPost_end (results_none rfl _ _ _) rfl ⟨rfl, HFIN.out⟩
  · go_simp
    refine hK.out _ _ HCA.out (fun _ => ?_)
    clear hK K
    try simp only [Act.put, List.setIfInBounds_toArray, List.set_cons_zero, List.set_cons_succ]
    refine wpAnyH_ready (rs := [5]) (by kernel_rfl) (by simp) ?_
    refine AllReadyH.cons rfl (fun K hK => ?_) AllReadyH.nil
    go_simp
    refine hK.out _ _ HCA.out (fun _ => ?_)
    clear hK K
    try simp only [Act.put, List.setIfInBounds_toArray, List.set_cons_zero, List.set_cons_succ]
    refine wpAnyH_ready (rs := [12]) (by kernel_rfl) (by simp) ?_
    refine appendT_ready rfl (by kernel_rfl) _ _ _ _ rfl _ _ rfl rfl _ _ HRUN.out HC2.out ?_
    try simp only [Act.put, List.setIfInBounds_toArray, List.set_cons_zero, List.set_cons_succ]
    refine takeH 13 224 (v := (.pointer (some ⟨p, 0, none⟩))) rfl rfl (by kernel_rfl) (by kernel_rfl) (by kernel_rfl) (fun _ _ _ h => h) (by rfl) ?_ HC2.out ?_
    · intro w hSw
      obtain ⟨y0, y1⟩ := HF.out w hSw
      go_simp
    try simp only [Act.put, List.setIfInBounds_toArray, List.set_cons_zero, List.set_cons_succ]
    refine takeH 14 225 (v := (.pointer (some ⟨p, 6, none⟩))) rfl rfl (by kernel_rfl) (by kernel_rfl) (by kernel_rfl) (fun _ _ _ h => h) (by rfl) ?_ HC2.out ?_
    · intro w hSw
      obtain ⟨y0, y1⟩ := HF.out w hSw
      go_simp
    try simp only [Act.put, List.setIfInBounds_toArray, List.set_cons_zero, List.set_cons_succ]
    refine takeH 15 226 (v := (.pointer (some ⟨p, 8, none⟩))) rfl rfl (by kernel_rfl) (by kernel_rfl) (by kernel_rfl) (fun _ _ _ h => h) (by rfl) ?_ HC2.out ?_
    · intro w hSw
      obtain ⟨y0, y1⟩ := HF.out w hSw
      go_simp
    try simp only [Act.put, List.setIfInBounds_toArray, List.set_cons_zero, List.set_cons_succ]
    refine wpAnyH_ready (rs := [16]) (by kernel_rfl) (by simp) ?_
    refine AllReadyH.cons rfl (fun K hK => ?_) AllReadyH.nil
    go_simp
    refine hK.out _ _ HC3.out (fun _ => ?_)
    clear hK K
    try simp only [Act.put, List.setIfInBounds_toArray, List.set_cons_zero, List.set_cons_succ]
    refine wpAnyH_done (by kernel_rfl) ?_ _
    go_wp2_with fail
    exact bodyPost_end (results_none rfl _ _ _) rfl ⟨rfl, HFIN.out⟩
end Go.Proofs.Ytcanjkjpdnbcnaa
namespace Go.Proofs.Ytcanjkjpdnbcnaa
open Go.RowKit
set_option linter.unusedVariables false
set_option linter.unusedSimpArgs false
set_option maxRecDepth 100000

/-- What the machine was made of. -/
structure Ev where
  w0 : World
  p : Nat
  GA : Option Addr
  gc : Nat
  FA : Option Addr
  fc : Nat
  gs : List MGl
  fs : List MFn
  DA : Option Addr
  dc : Nat
  db : Nat
  dof : Nat
  wb : Nat → Nat
  iA : Option Addr
  ic : Nat
  inp : List Int
  fuel : Nat
def Ev.mc (e : Ev) (calls : Nat) (fin : Int) (s : PS) (tA : Option Addr) (tc : Nat) : Mc :=
  ⟨e.GA, e.gs.length, e.gc, e.FA, e.fs.length, e.fc, e.DA, e.gs.length, e.dc, e.iA, e.inp.length, e.ic, (e.fuel : Int), calls, fin, 0, tA, s.tr.length, tc, s.steps, s.reads⟩
structure EvOk (e : Ev) : Prop where
  mid : MidOk e.gs e.fs
  gls : MGls e.w0 e.GA e.gs.length e.gs
  fns : MFns e.w0 e.FA e.fs.length e.fs
  inp : RowK .i32 e.w0 e.iA e.inp.length e.inp
  inV : ∀ v ∈ e.inp, I32 v
  inN : e.inp.length ≤ 90000
  fuel : e.fuel ≤ 80000
  pw : e.w0.heap.size ≤ e.p
  dw : e.w0.heap.size ≤ e.db
  dp : e.db ≠ e.p
  wbw : ∀ i, i < e.gs.length → e.w0.heap.size ≤ e.wb i ∧ e.wb i ≠ e.p ∧ e.wb i ≠ e.db
  inj : ∀ i j, i < e.gs.length → j < e.gs.length → e.wb i = e.wb j → i = j
  da : 0 < e.gs.length → e.DA = some ⟨e.db, e.dof, none⟩
/-- A block that is none of the machine's. -/
structure Apt (e : Ev) (tA : Option Addr) (b : Nat) : Prop where
  old : e.w0.heap.size ≤ b
  p : b ≠ e.p
  db : b ≠ e.db
  wb : ∀ i, i < e.gs.length → b ≠ e.wb i
  tr : b ∉ blk tA
structure RefAt (e : Ev) (w : World) (calls : Nat) (fin : Int) (s : PS) (tA : Option Addr) (tc : Nat) : Prop where
  below : Below e.w0.heap.size e.w0 w
  mc : McAt w e.p (e.mc calls fin s tA tc)
  tr : SLine 1 w tA s.tr.length tc (cellsN s.tr)
  trb : ∀ b ∈ blk tA, e.w0.heap.size ≤ b ∧ b ≠ e.p ∧ b ≠ e.db ∧ ∀ i, i < e.gs.length → b ≠ e.wb i
  dbl : e.db < w.heap.size
  data : ∀ i o, e.gs[i]? = some o → w.cell? ⟨e.db, e.dof + i, none⟩ = some (.slice (some ⟨e.wb i, 0, none⟩) (s.words o.name).length (s.words o.name).length)
  words : ∀ i o, e.gs[i]? = some o → RegAt w (e.wb i) (s.words o.name)
/-- The machine's blocks that change. -/
def Ev.L (e : Ev) (tA : Option Addr) : List Nat := e.p :: ((List.range e.gs.length).map e.wb ++ blk tA)
section
variable {e : Ev} {w w' : World} {calls : Nat} {fin : Int} {s : PS} {tA : Option Addr} {tc : Nat}
theorem Ev.p_in : e.p ∈ e.L tA := by unfold Ev.L; simp
theorem Ev.wb_in {i : Nat} (h : i < e.gs.length) : e.wb i ∈ e.L tA := by unfold Ev.L; simp only [List.mem_cons, List.mem_append, List.mem_map, List.mem_range]; exact .inr (.inl ⟨i, h, rfl⟩)
theorem Ev.tr_in {b : Nat} (h : b ∈ blk tA) : b ∈ e.L tA := by unfold Ev.L; simp only [List.mem_cons, List.mem_append]; exact .inr (.inr h)
theorem Apt.notL {b : Nat} (h : Apt e tA b) : b ∉ e.L tA := fun hm => by
  unfold Ev.L at hm
  simp only [List.mem_cons, List.mem_append, List.mem_map, List.mem_range] at hm
  rcases hm with h1 | ⟨i, h1, h2⟩ | h1
  · exact h.p h1
  · exact h.wb i h1 h2.symm
  · exact h.tr h1
theorem RefAt.L_old (ok : EvOk e) (h : RefAt e w calls fin s tA tc) : ∀ b ∈ e.L tA, e.w0.heap.size ≤ b := fun b hm => by
  unfold Ev.L at hm
  simp only [List.mem_cons, List.mem_append, List.mem_map, List.mem_range] at hm
  rcases hm with h1 | ⟨i, h1, h2⟩ | h1
  · rw [h1]; exact ok.pw
  · rw [← h2]; exact (ok.wbw i h1).1
  · exact (h.trb b h1).1
/-- What happens elsewhere. -/
theorem RefAt.keep (ok : EvOk e) (h : RefAt e w calls fin s tA tc) {M : List Nat} (hc : Chg M w w') (hM : ∀ k ∈ M, Apt e tA k) : RefAt e w' calls fin s tA tc := by
  have hn : ∀ b, (¬ Apt e tA b) → b ∉ M := fun b hb hm => hb (hM b hm)
  have hp : e.p ∉ M := hn _ (fun a => a.p rfl)
  have hd : e.db ∉ M := hn _ (fun a => a.db rfl)
  refine ⟨h.below.trans (hc.toBelow (fun k hk => (hM k hk).old) h.below.size), h.mc.same (hc.same _ h.mc.lt hp), h.tr.chg hc (fun k hk => hn _ (fun a => a.tr hk)), h.trb, Nat.lt_of_lt_of_le h.dbl hc.size, fun i o hi => ?_, fun i o hi => ?_⟩
  · exact hc.read e.db _ hd (h.data i o hi)
  · exact (h.words i o hi).chg hc (hn _ (fun a => a.wb i (List.getElem?_eq_some_iff.1 hi).1 rfl))
theorem Chg.nil_of_below (hb : Below w.heap.size w w') : Chg [] w w' := Chg.of_below hb
theorem RefAt.later (ok : EvOk e) (h : RefAt e w calls fin s tA tc) (hb : Below w.heap.size w w') : RefAt e w' calls fin s tA tc := h.keep ok (Chg.of_below (l := []) hb) (fun k hk => by cases hk)
/-- Its own block alone. -/
theorem RefAt.mach (ok : EvOk e) (h : RefAt e w calls fin s tA tc) (hc : Chg [e.p] w w') {calls' : Nat} {fin' : Int} {s' : PS} (hm : McAt w' e.p (e.mc calls' fin' s' tA tc)) (hw : s'.words = s.words) (ht : s'.tr = s.tr) : RefAt e w' calls' fin' s' tA tc := by
  refine ⟨h.below.trans (hc.toBelow (fun k hk => by rw [List.mem_singleton.1 hk]; exact ok.pw) h.below.size), hm, ?_, h.trb, Nat.lt_of_lt_of_le h.dbl hc.size, fun i o hi => ?_, fun i o hi => ?_⟩
  · rw [ht]
    exact h.tr.chg hc (fun k hk hm => (h.trb k hk).2.1 (List.mem_singleton.1 hm))
  · rw [hw]
    exact hc.read e.db _ (by simpa using ok.dp) (h.data i o hi)
  · rw [hw]
    exact (h.words i o hi).chg hc (by simpa using (ok.wbw i (List.getElem?_eq_some_iff.1 hi).1).2.1)
/-- A word. -/
theorem RefAt.word (ok : EvOk e) (h : RefAt e w calls fin s tA tc) {i : Nat} {o : MGl} (hi : e.gs[i]? = some o) {l' : List Int} (hlen : l'.length = (s.words o.name).length) (hc : Chg [e.wb i] w w') (hr : RegAt w' (e.wb i) l') : RefAt e w' calls fin { s with words := setWd s.words o.name l' } tA tc := by
  have hil := (List.getElem?_eq_some_iff.1 hi).1
  have hw := ok.wbw i hil
  have hlenW : ∀ (j : Nat) (o2 : MGl), e.gs[j]? = some o2 → (setWd s.words o.name l' o2.name).length = (s.words o2.name).length := fun j o2 hj => by
    unfold setWd
    by_cases hn : o2.name.data.toList = o.name.data.toList
    · rw [if_pos hn, hlen, ba_eq hn]
    · rw [if_neg hn]
  refine ⟨h.below.trans (hc.toBelow (fun k hk => by rw [List.mem_singleton.1 hk]; exact hw.1) h.below.size), h.mc.same (hc.same _ h.mc.lt (by simpa using hw.2.1.symm)), h.tr.chg hc (fun k hk hm => (h.trb k hk).2.2.2 i hil (List.mem_singleton.1 hm)), h.trb, Nat.lt_of_lt_of_le h.dbl hc.size, fun j o2 hj => ?_, fun j o2 hj => ?_⟩
  · show w'.cell? _ = some (.slice _ (setWd s.words o.name l' o2.name).length (setWd s.words o.name l' o2.name).length)
    rw [hlenW j o2 hj]
    exact hc.read e.db _ (by simpa using hw.2.2.symm) (h.data j o2 hj)
  · show RegAt w' (e.wb j) (setWd s.words o.name l' o2.name)
    have hjl := (List.getElem?_eq_some_iff.1 hj).1
    unfold setWd
    by_cases hn : o2.name.data.toList = o.name.data.toList
    · rw [if_pos hn]
      have := ok.mid.apG j i o2 o hj hi hn
      rw [this]
      exact hr
    · rw [if_neg hn]
      refine (h.words j o2 hj).chg hc (fun hm => ?_)
      have := ok.inj j i hjl hil (List.mem_singleton.1 hm)
      subst this
      rw [hi] at hj
      cases hj
      exact hn rfl
/-- A word more printed. -/
theorem RefAt.print (ok : EvOk e) (h : RefAt e w calls fin s tA tc) {v : Int} {A' : Option Addr} {c' : Nat} (hm : McAt w' e.p { e.mc calls fin s tA tc with tA := A', tn := s.tr.length + 1, tc := c' }) (hl : SLine 1 w' A' (s.tr.length + 1) c' (cellsN (s.tr ++ [v]))) (hc : Chg (e.p :: blk tA) w w') (hf : ∀ k ∈ blk A', k ∈ blk tA ∨ w.heap.size ≤ k) : RefAt e w' calls fin { s with tr := s.tr ++ [v] } A' c' := by
  have hlen : (s.tr ++ [v]).length = s.tr.length + 1 := by rw [List.length_append]; rfl
  have hwl : ∀ i o, e.gs[i]? = some o → e.wb i < w.heap.size := fun i o hi => (h.words i o hi).lt
  refine ⟨h.below.trans (hc.toBelow (fun k hk => ?_) h.below.size), ?_, ?_, fun b hb => ?_, Nat.lt_of_lt_of_le h.dbl hc.size, fun i o hi => ?_, fun i o hi => ?_⟩
  · rcases List.mem_cons.1 hk with h1 | h1
    · rw [h1]; exact ok.pw
    · exact (h.trb k h1).1
  · show McAt w' e.p (e.mc calls fin { s with tr := s.tr ++ [v] } A' c')
    unfold Ev.mc at hm ⊢
    dsimp only at hm ⊢
    rw [hlen]
    exact hm
  · show SLine 1 w' A' (s.tr ++ [v]).length c' (cellsN (s.tr ++ [v]))
    rw [hlen]
    exact hl
  · rcases hf b hb with h1 | h1
    · exact h.trb b h1
    · refine ⟨Nat.le_trans h.below.size h1, fun e1 => ?_, fun e1 => ?_, fun i hi e1 => ?_⟩
      · have := h.mc.lt; omega
      · have := h.dbl; omega
      · obtain ⟨o, ho⟩ : ∃ o, e.gs[i]? = some o := ⟨_, List.getElem?_eq_getElem hi⟩
        have := hwl i o ho
        omega
  · refine hc.read e.db _ (fun hm => ?_) (h.data i o hi)
    rcases List.mem_cons.1 hm with h3 | h3
    · exact ok.dp h3
    · exact (h.trb _ h3).2.2.1 rfl
  · refine (h.words i o hi).chg hc (fun hm => ?_)
    have hil := (List.getElem?_eq_some_iff.1 hi).1
    rcases List.mem_cons.1 hm with h3 | h3
    · exact (ok.wbw i hil).2.1 h3
    · exact (h.trb _ h3).2.2.2 i hil rfl
end
end Go.Proofs.Ytcanjkjpdnbcnaa
namespace Go.Proofs.Ytcanjkjpdnbcnaa
open Go.RowKit
set_option linter.unusedVariables false
set_option linter.unusedSimpArgs false
set_option maxRecDepth 100000

/-- What an instruction leaves behind. -/
def InsOut (e : Ev) (calls : Nat) (w : World) (rb : Nat) (tA : Option Addr) (o : PO) (en : Ending) (w' : World) : Prop :=
  en = .returned (.tuple #[]) ∧ match o with
  | .go s' => ∃ c' tA' tc', s'.calls = [c'] ∧ RefAt e w' calls 0 s' tA' tc' ∧ RegAt w' rb c'.regs ∧ Chg (rb :: e.L tA) w w' ∧ ∀ k ∈ blk tA', k ∈ blk tA ∨ w.heap.size ≤ k
  | .fin k v s' => ∃ calls' tA' tc', 2 ≤ k ∧ k ≤ 5 ∧ RefAt e w' calls' k s' tA' tc' ∧ Chg (rb :: e.L tA) w w' ∧ ∀ k ∈ blk tA', k ∈ blk tA ∨ w.heap.size ≤ k
section
variable {e : Ev} {w w' : World} {calls : Nat} {s : PS} {c : PC} {tA : Option Addr} {tc rb : Nat} {x : MIn}
theorem L_sub {M : List Nat} (h : ∀ k ∈ M, k = rb ∨ k ∈ e.L tA) (hc : Chg M w w') : Chg (rb :: e.L tA) w w' := hc.weaken (fun k hk => .inl (by
  rcases h k hk with h1 | h1
  · rw [h1]; simp
  · exact List.mem_cons_of_mem _ h1))
/-- A register is set. -/
theorem InsOut.set (ok : EvOk e) (h : RefAt e w calls 0 s tA tc) (hap : Apt e tA rb) {s' : PS} {c' : PC} (hs : s'.calls = [c']) (hw : s'.words = s.words) (ht : s'.tr = s.tr) (hst : s'.steps = s.steps) (hre : s'.reads = s.reads) {en : Ending} (hen : en = .returned (.tuple #[]) ∧ RegAt w' rb c'.regs ∧ Chg [rb] w w') : InsOut e calls w rb tA (.go s') en w' := by
  obtain ⟨h1, h2, h3⟩ := hen
  have hk := h.keep ok h3 (fun k hk => by rw [List.mem_singleton.1 hk]; exact hap)
  refine ⟨h1, c', tA, tc, hs, ?_, h2, L_sub (fun k hk => .inl (List.mem_singleton.1 hk)) h3, fun k hk => .inl hk⟩
  cases s; cases s'
  simp only at hw ht hst hre
  subst hw ht hst hre
  exact ⟨hk.below, hk.mc, hk.tr, hk.trb, hk.dbl, hk.data, hk.words⟩
theorem InsOut.fin (ok : EvOk e) (h : RefAt e w calls 0 s tA tc) {k : Int} (hk : 2 ≤ k ∧ k ≤ 5) {v : Int} {en : Ending} (hen : en = .returned (.tuple #[]) ∧ McAt w' e.p { e.mc calls 0 s tA tc with fin := k } ∧ Chg [e.p] w w') : InsOut e calls w rb tA (.fin k v s) en w' :=
  ⟨hen.1, calls, tA, tc, hk.1, hk.2, h.mach ok hen.2.2 hen.2.1 rfl rfl, L_sub (fun k hk => .inr (by rw [List.mem_singleton.1 hk]; exact Ev.p_in)) hen.2.2, fun k hk => .inl hk⟩
/-- The word that an instruction means. -/
theorem RefAt.wordAt (ok : EvOk e) (h : RefAt e w calls 0 s tA tc) (hg : Good (fnOf e.fs) (isGl e.gs) e.inp s) (hcs : s.calls = [c]) (hx : InOk (fnOf e.fs) (isGl e.gs) x c.f.regs) (hr : RegAt w rb c.regs) (hk : x.kind = 5 ∨ x.kind = 6) :
    ∃ gi o, e.gs[gi]? = some o ∧ x.name = o.name ∧ WordAt w e.p rb (e.mc calls 0 s tA tc) c.regs x e.gs gi (e.wb gi) (s.words x.name).length ∧ RegAt w (e.wb gi) (s.words x.name) := by
  have hc : CallOk (fnOf e.fs) (isGl e.gs) c := by have := hg.calls; rw [hcs] at this; exact this.1
  obtain ⟨o, ho⟩ := hx.glob hk
  rcases find_atN MGl.name x.name e.gs 0 with ⟨_, h2⟩ | ⟨gi, o', h1, h2, h3⟩
  · unfold glOf at ho
    rw [h2] at ho
    cases ho
  · have hn : o'.name.data.toList = x.name.data.toList := by simpa using List.find?_some h3
    have hnm := ba_eq hn
    have hil := (List.getElem?_eq_some_iff.1 h2).1
    have hreg := hc.regs
    have hfr := hc.fn.regs
    have hwd := hg.words x.name ⟨o, ho⟩
    refine ⟨gi, o', h2, hnm.symm, ⟨h.mc, hr, by omega, hc.vals, ?_, ok.gls.below h.below, by have := ok.mid.gn; show e.gs.length ≤ 100000; omega, ?_, hil, by have := ok.mid.gn; show e.gs.length ≤ 100000; omega, ?_, by have := hwd.2.1; omega⟩, ?_⟩
    · have := mayI_a5 hx.may hk
      omega
    · show gAt e.gs x.name = (gi : Int)
      unfold gAt
      rw [h1, Nat.zero_add]
    · refine ⟨e.db, e.dof, ok.da (by omega), h.dbl, ?_⟩
      have := h.data gi o' h2
      rw [hnm] at this
      exact this
    · have := h.words gi o' h2
      rw [hnm] at this
      exact this
theorem get_nat {c : PC} {r : Int} {k : Nat} (h : r = (k : Int)) : c.get r = c.regs.getD k 0 := by rw [h]; rfl
theorem set_nat {c : PC} {r v : Int} {k : Nat} (h : r = (k : Int)) : (c.set r v).regs = c.regs.set k v := by rw [h]; rfl
theorem ins_mem (ok : EvOk e) (h : RefAt e w calls 0 s tA tc) (hcs : s.calls = [c]) (hg : Good (fnOf e.fs) (isGl e.gs) e.inp s) (hx : InOk (fnOf e.fs) (isGl e.gs) x c.f.regs) (hr : RegAt w rb c.regs) (hap : Apt e tA rb) (h7 : x.kind ≠ 7) (hst : s.steps ≤ 90000) :
    Calls Try.prog 30 #[.pointer (some ⟨e.p, 0, none⟩), .slice (some ⟨rb, 0, none⟩) c.regs.length c.regs.length, x.val] w (InsOut e calls w rb tA (insP (fnOf e.fs) e.inp s c [] x)) := by
  have hc : CallOk (fnOf e.fs) (isGl e.gs) c := by have := hg.calls; rw [hcs] at this; exact this.1
  have hreg := hc.regs
  have hfr := hc.fn.regs
  have hn : c.regs.length ≤ 100000 := by omega
  have hm := hx.may
  have hkd := mayI_kind hm
  have hk9 : x.kind = 1 ∨ x.kind = 2 ∨ x.kind = 3 ∨ x.kind = 4 ∨ x.kind = 5 ∨ x.kind = 6 ∨ x.kind = 8 ∨ x.kind = 9 := by
    clear hr hg h hcs hreg hfr hn hm hst
    omega
  have hap2 : rb ≠ e.p := hap.p
  have D : ∀ (_ : x.kind ≠ 6 ∧ x.kind ≠ 7 ∧ x.kind ≠ 9), ∃ k : Nat, x.d = (k : Int) ∧ k < c.regs.length := fun hq => reg_nat (mayI_d hm hq) hreg
  have A : ∀ (_ : x.kind = 2 ∨ x.kind = 3 ∨ x.kind = 4 ∨ x.kind = 9), ∃ k : Nat, x.a = (k : Int) ∧ k < c.regs.length := fun hq => reg_nat (mayI_a hm hq) hreg
  have B : ∀ (_ : x.kind = 4 ∨ x.kind = 6), ∃ k : Nat, x.b = (k : Int) ∧ k < c.regs.length := fun hq => reg_nat (mayI_b hm hq) hreg
  rcases hk9 with hk | hk | hk | hk | hk | hk | hk | hk
  · obtain ⟨k, hd, hkl⟩ := D (by omega)
    rw [insP_1 _ _ _ hk]
    refine (ins_1 w e.p rb _ _ c.regs x k h.mc hr rfl hn hap2 hk hd hkl).mono fun en w' hq => ?_
    exact InsOut.set ok h hap (s' := s.top (c.set x.d x.num) []) (c' := c.set x.d x.num) rfl rfl rfl rfl rfl (by rw [set_nat hd]; exact hq)
  · obtain ⟨k, hd, hkl⟩ := D (by omega)
    obtain ⟨j, ha, hj⟩ := A (by omega)
    rw [insP_2 _ _ _ hk]
    refine (ins_2 w e.p rb _ _ c.regs x k j h.mc hr rfl hn hap2 hk hd hkl ha hj).mono fun en w' hq => ?_
    exact InsOut.set ok h hap (s' := s.top (c.set x.d (c.get x.a)) []) (c' := c.set x.d (c.get x.a)) rfl rfl rfl rfl rfl (by rw [set_nat hd, get_nat ha]; exact hq)
  · obtain ⟨k, hd, hkl⟩ := D (by omega)
    obtain ⟨j, ha, hj⟩ := A (by omega)
    rw [insP_3 _ _ _ hk]
    refine (ins_3 w e.p rb _ _ c.regs x k j h.mc hr rfl hn hap2 hk hd hkl ha hj (mayI_op3 hm hk) hc.vals).mono fun en w' hq => ?_
    exact InsOut.set ok h hap (s' := s.top (c.set x.d (unV x.op (c.get x.a))) []) (c' := c.set x.d (unV x.op (c.get x.a))) rfl rfl rfl rfl rfl (by rw [set_nat hd, get_nat ha]; exact hq)
  · obtain ⟨k, hd, hkl⟩ := D (by omega)
    obtain ⟨j, ha, hj⟩ := A (by omega)
    obtain ⟨i, hb, hi⟩ := B (by omega)
    rw [insP_4 _ _ _ hk]
    cases hop : (WordBins.binV x.op (c.get x.a) (c.get x.b)).2 with
    | true =>
      rw [if_pos rfl]
      rw [get_nat ha, get_nat hb] at hop
      refine (ins_4 w e.p rb _ _ c.regs x k j i h.mc hr rfl hn hap2 hk hd hkl ha hj hb hi hc.vals hop).mono fun en w' hq => ?_
      exact InsOut.set ok h hap (s' := s.top (c.set x.d (WordBins.binV x.op (c.get x.a) (c.get x.b)).1) []) (c' := c.set x.d (WordBins.binV x.op (c.get x.a) (c.get x.b)).1) rfl rfl rfl rfl rfl (by rw [set_nat hd, get_nat ha, get_nat hb]; exact hq)
    | false =>
      rw [if_neg (by decide)]
      rw [get_nat ha, get_nat hb] at hop
      refine (ins_4no w e.p rb _ _ c.regs x k j i h.mc hr rfl hn hap2 hk hd hkl ha hj hb hi hc.vals hop).mono fun en w' hq => ?_
      exact InsOut.fin ok h (by decide) hq
  · obtain ⟨k, hd, hkl⟩ := D (by omega)
    obtain ⟨gi, o, hgi, hnm, hW, hR⟩ := h.wordAt ok hg hcs hx hr (.inl hk)
    have hgl := (List.getElem?_eq_some_iff.1 hgi).1
    rw [insP_5 _ _ _ hk]
    by_cases hix : c.idx x < 0 ∨ ((s.words x.name).length : Int) ≤ c.idx x
    · rw [if_pos hix]
      refine (ins_5no w e.p rb _ _ c.regs x e.gs gi (e.wb gi) _ h.mc hr rfl hn hap2 hk hW hix).mono fun en w' hq => ?_
      exact InsOut.fin ok h (by decide) hq
    · rw [if_neg hix]
      have hq0 : c.idx x = ((c.idx x).toNat : Int) := by omega
      refine (ins_5 w e.p rb _ _ c.regs x e.gs gi (e.wb gi) _ (s.words x.name) k (c.idx x).toNat h.mc hr rfl hn hap2 hk hW hR rfl hq0 (by omega) hd hkl (hap.wb gi hgl).symm (fun db dof hda => by have := ok.da (by omega); rw [show (e.mc calls 0 s tA tc).DA = e.DA from rfl, this] at hda; cases hda; exact hap.db.symm)).mono fun en w' hq => ?_
      exact InsOut.set ok h hap (s' := s.top (c.set x.d ((s.words x.name).getD (c.idx x).toNat 0)) []) (c' := c.set x.d ((s.words x.name).getD (c.idx x).toNat 0)) rfl rfl rfl rfl rfl (by rw [set_nat hd]; exact hq)
  · obtain ⟨i, hb, hi⟩ := B (by omega)
    obtain ⟨gi, o, hgi, hnm, hW, hR⟩ := h.wordAt ok hg hcs hx hr (.inr hk)
    have hgl := (List.getElem?_eq_some_iff.1 hgi).1
    rw [insP_6 _ _ _ hk]
    by_cases hix : c.idx x < 0 ∨ ((s.words x.name).length : Int) ≤ c.idx x
    · rw [if_pos hix]
      refine (ins_6no w e.p rb _ _ c.regs x e.gs gi (e.wb gi) _ h.mc hr rfl hn hap2 hk hW hix).mono fun en w' hq => ?_
      exact InsOut.fin ok h (by decide) hq
    · rw [if_neg hix]
      have hq0 : c.idx x = ((c.idx x).toNat : Int) := by omega
      refine (ins_6 w e.p rb _ _ c.regs x e.gs gi (e.wb gi) _ (s.words x.name) i (c.idx x).toNat h.mc hr rfl hn hap2 hk hW hR rfl hq0 (by omega) hb hi (hap.wb gi hgl) (ok.wbw gi hgl).2.1 (fun db dof hda => by have := ok.da (by omega); rw [show (e.mc calls 0 s tA tc).DA = e.DA from rfl, this] at hda; cases hda; exact (ok.wbw gi hgl).2.2.symm)).mono fun en w' hq => ?_
      obtain ⟨q1, q2, q3⟩ := hq
      rw [get_nat hb]
      rw [hnm] at q2 ⊢
      have hk2 := h.word ok hgi (l' := (s.words o.name).set (c.idx x).toNat (c.regs.getD i 0)) (List.length_set ..) q3 q2
      exact ⟨q1, c, tA, tc, hcs, hk2, hr.chg q3 (by simpa using hap.wb gi hgl), L_sub (fun k hk => .inr (by rw [List.mem_singleton.1 hk]; exact Ev.wb_in hgl)) q3, fun k hk => .inl hk⟩
  · obtain ⟨k, hd, hkl⟩ := D (by omega)
    rw [insP_8 _ _ _ hk]
    by_cases hrl : s.reads < e.inp.length
    · rw [if_pos hrl]
      obtain ⟨ib, io, hiA, hib, hic⟩ := ok.inp.2 (by omega)
      refine (ins_8 w e.p rb _ _ c.regs x k ib io (e.inp.getD s.reads 0) h.mc hr rfl hn hap2 hk hd hkl hrl ok.inN hiA ((h.below.cell (p := ⟨ib, io + s.reads, none⟩) hib).trans (hic s.reads hrl)) (fun e1 => by have := hap.old; omega) (fun e1 => by have := ok.pw; omega)).mono fun en w' hq => ?_
      obtain ⟨q1, q2, q3, q4⟩ := hq
      have hrw : RefAt e w' calls 0 { s.top (c.set x.d (e.inp.getD s.reads 0)) [] with reads := s.reads + 1 } tA tc := by
        refine ⟨h.below.trans (q4.toBelow (fun k hk => ?_) h.below.size), q3, h.tr.chg q4 (fun k hk hm => ?_), h.trb, Nat.lt_of_lt_of_le h.dbl q4.size, fun i o hi => q4.read e.db _ (fun hm => ?_) (h.data i o hi), fun i o hi => (h.words i o hi).chg q4 (fun hm => ?_)⟩
        · simp only [List.mem_cons, List.not_mem_nil, or_false] at hk
          rcases hk with rfl | rfl
          · exact hap.old
          · exact ok.pw
        · simp only [List.mem_cons, List.not_mem_nil, or_false] at hm
          rcases hm with rfl | rfl
          · exact hap.tr hk
          · exact (h.trb _ hk).2.1 rfl
        · simp only [List.mem_cons, List.not_mem_nil, or_false] at hm
          rcases hm with e1 | e1
          · exact hap.db e1.symm
          · exact ok.dp e1
        · simp only [List.mem_cons, List.not_mem_nil, or_false] at hm
          have hil := (List.getElem?_eq_some_iff.1 hi).1
          rcases hm with e1 | e1
          · exact hap.wb i hil e1.symm
          · exact (ok.wbw i hil).2.1 e1
      exact ⟨q1, _, tA, tc, rfl, hrw, by rw [set_nat hd]; exact q2, L_sub (fun k hk => by
        simp only [List.mem_cons, List.not_mem_nil, or_false] at hk
        rcases hk with rfl | rfl
        · exact .inl rfl
        · exact .inr Ev.p_in) q4, fun k hk => .inl hk⟩
    · rw [if_neg hrl]
      have hre : s.reads = e.inp.length := by have := hg.reads; omega
      refine (ins_8no w e.p rb _ _ c.regs x k h.mc hr rfl hn hap2 hk hd hkl hre).mono fun en w' hq => ?_
      exact InsOut.set ok h hap (s' := s.top (c.set x.d 0) []) (c' := c.set x.d 0) rfl rfl rfl rfl rfl (by rw [set_nat hd]; exact hq)
  · obtain ⟨j, ha, hj⟩ := A (by omega)
    rw [insP_9 _ _ _ (fun k h1 h2 => by omega)]
    have htr := hg.tr
    refine (ins_9 w e.p rb _ _ c.regs x j s.tr h.mc hr rfl hn hap2 hk ha hj h.tr (by show s.tr.length ≤ 90000; omega) (fun hm => (h.trb _ hm).2.1 rfl) hap.tr).mono fun en w' hq => ?_
    obtain ⟨q1, A', c', q2, q3, q4, q5⟩ := hq
    rw [get_nat ha]
    exact ⟨q1, c, A', c', hcs, h.print ok q2 q3 q4 q5, hr.chg q4 (fun hm => by
      rcases List.mem_cons.1 hm with e1 | e1
      · exact hap.p e1
      · exact hap.tr e1), L_sub (fun k hk => .inr (by
      rcases List.mem_cons.1 hk with e1 | e1
      · rw [e1]; exact Ev.p_in
      · exact Ev.tr_in e1)) q4, q5⟩
end
end Go.Proofs.Ytcanjkjpdnbcnaa
namespace Go.Proofs.Ytcanjkjpdnbcnaa
open Go.RowKit
set_option linter.unusedVariables false
set_option linter.unusedSimpArgs false
set_option maxRecDepth 100000

/-- What may be of a state apart from its calls. -/
structure GoodR (e : Ev) (s : PS) : Prop where
  words : ∀ x, isGl e.gs x → 1 ≤ (s.words x).length ∧ (s.words x).length ≤ 4096 ∧ ∀ v ∈ s.words x, I32 v
  tr : s.tr.length ≤ s.steps
  trv : ∀ v ∈ s.tr, I32 v
  reads : s.reads ≤ e.inp.length
theorem Good.R {e : Ev} {s : PS} (h : Good (fnOf e.fs) (isGl e.gs) e.inp s) : GoodR e s := ⟨h.words, h.tr, h.trv, h.reads⟩
/-- What a call leaves behind. -/
def CallOut (e : Ev) (calls : Nat) (w : World) (tA : Option Addr) (st0 : Nat) (R : RO) (en : Ending) (w' : World) : Prop := match R with
  | .ok v s' => en = .returned (.int .i32 v) ∧ I32 v ∧ ∃ tA' tc', RefAt e w' calls 0 s' tA' tc' ∧ Chg (e.L tA) w w' ∧ (∀ k ∈ blk tA', k ∈ blk tA ∨ w.heap.size ≤ k) ∧ GoodR e s' ∧ s'.steps ≤ e.fuel ∧ st0 ≤ s'.steps
  | .stop k s' => en = .returned (.int .i32 0) ∧ 1 ≤ k ∧ k ≤ 5 ∧ ∃ calls' tA' tc', RefAt e w' calls' k s' tA' tc' ∧ Chg (e.L tA) w w' ∧ ∀ k ∈ blk tA', k ∈ blk tA ∨ w.heap.size ≤ k
/-- A new block is none of the machine's. -/
theorem RefAt.apt {e : Ev} {wr : World} {s : PS} {tA : Option Addr} {tc : Nat} (ok : EvOk e) {cl : Nat} {fin : Int} (h : RefAt e wr cl fin s tA tc) (b : Nat) (hb : wr.heap.size ≤ b) : Apt e tA b := by
  refine ⟨Nat.le_trans h.below.size hb, fun e1 => ?_, fun e1 => ?_, fun i hi e1 => ?_, fun hm => ?_⟩
  · have := h.mc.lt; omega
  · have := h.dbl; omega
  · obtain ⟨o, ho⟩ : ∃ o, e.gs[i]? = some o := ⟨_, List.getElem?_eq_getElem hi⟩
    have := (h.words i o ho).lt
    omega
  · have := h.tr.lt b hm; omega
/-- A call in memory. -/
def CallMem (e : Ev) (calls : Nat) (callF : PS → ByteArray → List Int → RO) : Prop :=
  ∀ (w : World) (s : PS) (tA : Option Addr) (tc : Nat) (x : ByteArray) (A : Option Addr) (c : Nat) (args : List Int) (n : Nat) (f : MFn), RefAt e w calls 0 s tA tc → GoodR e s → fnOf e.fs x = some f → f.params = (args.length : Int) → args.length = n → n ≤ 8 → (∀ v ∈ args, I32 v) → SLine 1 w A n c (cellsN args) → (∀ b ∈ blk A, Apt e tA b) → s.steps ≤ e.fuel →
    Calls Try.prog 21 #[.pointer (some ⟨e.p, 0, none⟩), .string x, .slice A n c] w (CallOut e calls w tA s.steps (callF s x args))
/-- What the instruction leaves behind. -/
def CallIns (e : Ev) (calls : Nat) (w : World) (rb : Nat) (tA : Option Addr) (c : PC) (x : MIn) (st0 : Nat) (R : RO) (en : Ending) (w' : World) : Prop :=
  en = .returned (.tuple #[]) ∧ match R with
  | .ok v s' => I32 v ∧ ∃ tA' tc', RefAt e w' calls 0 s' tA' tc' ∧ RegAt w' rb (if 0 ≤ x.d then c.regs.set x.d.toNat v else c.regs) ∧ Chg (rb :: e.L tA) w w' ∧ (∀ k ∈ blk tA', k ∈ blk tA ∨ w.heap.size ≤ k) ∧ GoodR e s' ∧ s'.steps ≤ e.fuel ∧ st0 ≤ s'.steps
  | .stop k s' => 1 ≤ k ∧ k ≤ 5 ∧ ∃ calls' tA' tc', RefAt e w' calls' k s' tA' tc' ∧ Chg (rb :: e.L tA) w w' ∧ ∀ k ∈ blk tA', k ∈ blk tA ∨ w.heap.size ≤ k
theorem Apt.next {e : Ev} {w : World} {tA tA' : Option Addr} {b : Nat} (h : Apt e tA b) (hb : b < w.heap.size) (hf : ∀ k ∈ blk tA', k ∈ blk tA ∨ w.heap.size ≤ k) : Apt e tA' b :=
  ⟨h.old, h.p, h.db, h.wb, fun hm => by
    rcases hf b hm with h1 | h1
    · exact h.tr h1
    · omega⟩
theorem RefAt.L_lt {e : Ev} {w : World} {calls : Nat} {fin : Int} {s : PS} {tA : Option Addr} {tc : Nat} (h : RefAt e w calls fin s tA tc) : ∀ b ∈ e.L tA, b < w.heap.size := fun b hm => by
  unfold Ev.L at hm
  simp only [List.mem_cons, List.mem_append, List.mem_map, List.mem_range] at hm
  rcases hm with h1 | ⟨i, h1, h2⟩ | h1
  · rw [h1]; exact h.mc.lt
  · obtain ⟨o, ho⟩ : ∃ o, e.gs[i]? = some o := ⟨_, List.getElem?_eq_getElem h1⟩
    rw [← h2]; exact (h.words i o ho).lt
  · exact h.tr.lt b h1
set_option maxHeartbeats 6400000 in
theorem ins_call {e : Ev} {w : World} {calls : Nat} {s : PS} {c : PC} {tA : Option Addr} {tc rb : Nat} {x : MIn} {callF : PS → ByteArray → List Int → RO} (ok : EvOk e) (hC : CallMem e calls callF) (h : RefAt e w calls 0 s tA tc) (hcs : s.calls = [c]) (hg : Good (fnOf e.fs) (isGl e.gs) e.inp s) (hx : InOk (fnOf e.fs) (isGl e.gs) x c.f.regs) (hr : RegAt w rb c.regs) (hap : Apt e tA rb) (h7 : x.kind = 7) (hin : x.In w) (hst : s.steps ≤ e.fuel) :
    Calls Try.prog 30 #[.pointer (some ⟨e.p, 0, none⟩), .slice (some ⟨rb, 0, none⟩) c.regs.length c.regs.length, x.val] w (CallIns e calls w rb tA c x s.steps (callF s x.name (x.argL.map c.get))) := by
  have hc : CallOk (fnOf e.fs) (isGl e.gs) c := by have := hg.calls; rw [hcs] at this; exact this.1
  have hreg := hc.regs
  have hfr := hc.fn.regs
  obtain ⟨W0, xb, hW0, hxb, hB0, hx0⟩ := InBox.new w x
  obtain ⟨f, hf, hpar⟩ := hx.fn h7
  have hargs := mayI_args hx.may
  have hfew := mayI_few hx.may
  have hrow := RowK.of_isRow hin.args
  have hal : x.argL.length = x.argsn := hrow.1
  have han : x.argsn ≤ 8 := by omega
  obtain ⟨n, hn⟩ : ∃ n, c.regs.length = n := ⟨_, rfl⟩
  have HR := Lib.hid (hr.below hB0)
  have HA : Hid (RowK .i64 W0 x.argsA x.argsn x.argL) := Lib.hid (hrow.below hB0)
  have HIN : Hid (∀ a ∈ x.argL, 0 ≤ a ∧ a < (n : Int)) := Lib.hid (fun a ha => by have := hargs a ha; omega)
  have HX := Lib.hid hx0
  have HB := Lib.hid hB0
  have HAL := Lib.hid hal
  have HL := Lib.hid hn
  have HH := Lib.hid h
  have HV := Lib.hid hc.vals
  have HCM : Hid (∀ (w2 : World) (A : Option Addr) (cc : Nat), Below w.heap.size w w2 → SLine 1 w2 A x.argsn cc (cellsN (x.argL.map c.get)) → (∀ b ∈ blk A, w.heap.size ≤ b) → Calls Try.prog 21 #[.pointer (some ⟨e.p, 0, none⟩), .string x.name, .slice A x.argsn cc] w2 (CallOut e calls w2 tA s.steps (callF s x.name (x.argL.map c.get)))) := Lib.hid (fun w2 A cc hb hl hA => hC w2 s tA tc x.name A cc (x.argL.map c.get) x.argsn f (h.later ok hb) hg.R hf (by rw [List.length_map]; exact hpar) (by rw [List.length_map]; exact hal) han (fun v hv => by
    obtain ⟨a, _, rfl⟩ := List.mem_map.1 hv
    exact I32.getD hc.vals _) hl (fun b hb2 => h.apt ok b (hA b hb2)) hst)
  have HD : Hid ((0 ≤ x.d ∧ x.d < (n : Int)) ∨ x.d = -1) := Lib.hid (by have := mayI_d7 hx.may h7; omega)
  have HK := Lib.hid (And.intro ok (And.intro hap hr))
  have hn2 : (n : Int) ≤ 100000 := by omega
  have x0 := hx0.c0
  have x7 := hx0.c7
  have x6 := hx0.c6
  rw [h7] at x0
  obtain ⟨an, hane⟩ : ∃ an, x.argsn = an := ⟨_, rfl⟩
  rw [hane] at HA HAL HCM x7 han
  unfold MIn.val
  rw [hn]
  rw [h7, hane] at hW0 ⊢
  have han2 : (an : Int) ≤ 8 := by omega
  obtain ⟨R, hR⟩ : ∃ R, callF s x.name (x.argL.map c.get) = R := ⟨_, rfl⟩
  rw [hR] at HCM ⊢
  clear hc hreg hfr hB0 hx0 hf hpar hargs hfew hrow hal hn h hg hx hr hap hin hC hcs hane hR ok hst h7
  go_enter Try.func30, Try.ntmps30
  go_wp2_with fail
  go_loopw [16, 143] (fun v i wr => ∃ (k : Nat) (A : Option Addr) (cc : Nat), k ≤ an ∧ i = .int .i64 k ∧ v = .slice A k cc ∧ Hid (SLine 1 wr A k cc (cellsN ((x.argL.take k).map c.get)) ∧ (∀ b ∈ blk A, W0.heap.size ≤ b) ∧ Below W0.heap.size W0 wr)) (fun _ i _ => an - (intOf i).toNat)
  case atStart => exact ⟨0, none, 0, by omega, rfl, rfl, Lib.hid ⟨SLine.nil 1 _, fun k hk => (by cases hk), Below.refl _ _⟩⟩
  case round =>
    obtain ⟨k, A, cc, hk, rfl, rfl, HI⟩ := hrel
    rcases Nat.lt_or_ge k an with hlt | hge
    · obtain ⟨a, ha⟩ : ∃ a, x.argL[k]? = some a := ⟨_, List.getElem?_eq_getElem (by have := HAL.out; omega)⟩
      have hain := HIN.out a (List.mem_of_getElem? ha)
      obtain ⟨q, rfl⟩ : ∃ q : Nat, a = (q : Int) := ⟨a.toNat, by omega⟩
      obtain ⟨gb, off, hgA, hgb, hcs⟩ := (HA.out.below HI.out.2.2).2 (by omega)
      have d0 := hcs k hlt
      have e1 : x.argL.getD k 0 = (q : Int) := by rw [List.getD_eq_getElem?_getD, ha]; rfl
      rw [e1] at d0
      have r1 : wr.cell? ⟨rb, q, none⟩ = some (.int .i32 (c.regs.getD q 0)) := (HI.out.2.2.cell (p := ⟨rb, q, none⟩) HR.out.lt).trans (HR.out.cell q (by rw [HL.out]; omega))
      have hq0 : (0 : Int) ≤ (q : Int) := by omega
      have hqn : (q : Int) < (n : Int) := hain.2
      have hlt' : (k : Int) < (an : Int) := by omega
      have hk0 : (0 : Int) ≤ (k : Int) := by omega
      obtain ⟨A2, c2, w2, hr2, hl2, hc2, hf2⟩ := word_push wr A k cc _ HI.out.1 (by omega) (c.regs.getD q 0)
      have e2 : ((x.argL.take k).map c.get) ++ [c.regs.getD q 0] = (x.argL.take (k + 1)).map c.get := by
        rw [List.take_add_one, ha, List.map_append]
        rfl
      rw [e2] at hl2
      have HN : Hid (SLine 1 w2 A2 (k + 1) c2 (cellsN ((x.argL.take (k + 1)).map c.get)) ∧ (∀ b ∈ blk A2, W0.heap.size ≤ b) ∧ Below W0.heap.size W0 w2) := Lib.hid ⟨hl2, fun b hb => by
        rcases hf2 b hb with h | h
        · exact HI.out.2.1 b h
        · have := HI.out.2.2.size; omega, HI.out.2.2.trans (hc2.toBelow HI.out.2.1 HI.out.2.2.size)⟩
      have HRUN := Lib.hid hr2
      rw [hgA]
      clear hgb hcs e1 hr2 hl2 hc2 hf2 e2 ha hain
      generalize c.regs.getD q 0 = z at *
      go_wp2_with (at_builtin; refine Lib.wpList_append_run _ rfl _ _ _ _ rfl _ _ rfl rfl _ _ HRUN.out ?_)
      try rw [← hgA]
      go_roundw
      case rel => exact ⟨k + 1, A2, c2, by omega, by go_num, by first | rfl | go_num, HN⟩
      case measure => simp [intOf] <;> omega
    · obtain rfl : k = an := by omega
      have HN : Hid (SLine 1 wr A k cc (cellsN (x.argL.map c.get)) ∧ (∀ b ∈ blk A, W0.heap.size ≤ b) ∧ Below W0.heap.size W0 wr) := Lib.hid (by
        have h := HI.out
        rw [List.take_of_length_le (by have := HAL.out; omega)] at h
        exact h)
      clear HI
      have hwr := HB.out.trans (HN.out.2.2.mono HB.out.size)
      have HCALL := Lib.hid (HCM.out wr A cc hwr HN.out.1 (fun b hb => Nat.le_trans HB.out.size (HN.out.2.1 b hb)))
      have HWR := Lib.hid hwr
      have x6 := (HX.out.below HN.out.2.2).c6
      clear hwr x7
      go_wp2_with fail
      (refine HCALL.out.mono ?_)
      rintro en w3 hq
      have hbase : ∀ (tA' : Option Addr), (∀ k ∈ blk tA', k ∈ blk tA ∨ wr.heap.size ≤ k) → Chg (e.L tA) wr w3 → InBox w3 xb x ∧ RegAt w3 rb c.regs ∧ Apt e tA' rb ∧ Chg (rb :: e.L tA) w w3 ∧ (∀ k ∈ blk tA', k ∈ blk tA ∨ w.heap.size ≤ k) := fun tA' hf hcg => by
        have hrl := HK.out.2.2.lt
        have hsz := HWR.out.size
        have hLl := HH.out.L_lt (tA := tA)
        refine ⟨(HX.out.below HN.out.2.2).same (hcg.same xb (HX.out.below HN.out.2.2).lt (fun hm => by have := hLl xb hm; omega)), ((HR.out.below HN.out.2.2)).chg hcg HK.out.2.1.notL, HK.out.2.1.next (by omega) hf, (Chg.of_below HWR.out).trans (hcg.weaken (fun k hk => .inl (List.mem_cons_of_mem _ hk))), fun k hk => ?_⟩
        rcases hf k hk with h1 | h1
        · exact .inl h1
        · exact .inr (by omega)
      cases R with
      | ok v s' =>
        obtain ⟨rfl, hv, tA', tc', hR3, hcg, hf, hgR, hsf⟩ := hq
        obtain ⟨hb3, hr3, hap3, hc3, hf3⟩ := hbase tA' hf hcg
        have x2 := hb3.c2
        have HFIN := Lib.hid (And.intro hv (And.intro hR3 (And.intro hr3 (And.intro hap3 (And.intro hc3 (And.intro hf3 (And.intro hgR hsf)))))))
        clear hv hR3 hcg hf hgR hsf hb3 hr3 hap3 hc3 hf3 hbase HCM HCALL
        rcases HD.out with ⟨hd0, hdn⟩ | hd
        · obtain ⟨kd, hkd⟩ : ∃ kd : Nat, x.d = (kd : Int) := ⟨x.d.toNat, by omega⟩
          have HKD := Lib.hid hkd
          rw [hkd] at x2 hd0 hdn
          have r1 := HFIN.out.2.2.1.cell kd (by have := HL.out; omega)
          have f1 := HFIN.out.2.2.1.free kd
          generalize c.regs.getD kd 0 = v0 at *
          clear hkd
          go_wp2_with fail
          refine bodyPost_end (results_none rfl _ _ _) rfl ⟨rfl, HFIN.out.1, tA', tc', ?_, ?_, ?_, HFIN.out.2.2.2.2.2.1, HFIN.out.2.2.2.2.2.2.1, HFIN.out.2.2.2.2.2.2.2⟩
          · exact HFIN.out.2.1.keep HK.out.1 ((Chg.refl [rb] w3).setCell rb kd _ (.inl (List.mem_singleton.2 rfl))) (fun k hk => by rw [List.mem_singleton.1 hk]; exact HFIN.out.2.2.2.1)
          · rw [if_pos (by rw [HKD.out]; omega), HKD.out]
            exact HFIN.out.2.2.1.put kd v
          · exact HFIN.out.2.2.2.2.1.setCell rb kd _ (.inl (by simp))
        · have HKD := Lib.hid hd
          rw [hd] at x2
          clear hd
          go_wp2_with fail
          refine bodyPost_end (results_none rfl _ _ _) rfl ⟨rfl, HFIN.out.1, tA', tc', HFIN.out.2.1, ?_, HFIN.out.2.2.2.2.1, HFIN.out.2.2.2.2.2.1, HFIN.out.2.2.2.2.2.2.1, HFIN.out.2.2.2.2.2.2.2⟩
          rw [if_neg (by rw [HKD.out]; omega)]
          exact HFIN.out.2.2.1
      | stop k s' =>
        obtain ⟨rfl, hk1, hk5, calls', tA', tc', hR3, hcg, hf⟩ := hq
        obtain ⟨hb3, hr3, hap3, hc3, hf3⟩ := hbase tA' hf hcg
        have x2 := hb3.c2
        have HFIN := Lib.hid (And.intro hR3 (And.intro hr3 (And.intro hap3 (And.intro hc3 (And.intro hf3 (And.intro hk1 hk5))))))
        clear hR3 hcg hf hb3 hr3 hap3 hc3 hf3 hbase HCM HCALL hk1 hk5
        rcases HD.out with ⟨hd0, hdn⟩ | hd
        · obtain ⟨kd, hkd⟩ : ∃ kd : Nat, x.d = (kd : Int) := ⟨x.d.toNat, by omega⟩
          rw [hkd] at x2 hd0 hdn
          have r1 := HFIN.out.2.1.cell kd (by have := HL.out; omega)
          have f1 := HFIN.out.2.1.free kd
          generalize c.regs.getD kd 0 = v0 at *
          clear hkd
          go_wp2_with fail
          refine bodyPost_end (results_none rfl _ _ _) rfl ⟨rfl, HFIN.out.2.2.2.2.2.1, HFIN.out.2.2.2.2.2.2, calls', tA', tc', ?_, ?_, HFIN.out.2.2.2.2.1⟩
          · exact HFIN.out.1.keep HK.out.1 ((Chg.refl [rb] w3).setCell rb kd _ (.inl (List.mem_singleton.2 rfl))) (fun k hk => by rw [List.mem_singleton.1 hk]; exact HFIN.out.2.2.1)
          · exact HFIN.out.2.2.2.1.setCell rb kd _ (.inl (by simp))
        · rw [hd] at x2
          clear hd
          go_wp2_with fail
          exact bodyPost_end (results_none rfl _ _ _) rfl ⟨rfl, HFIN.out.2.2.2.2.2.1, HFIN.out.2.2.2.2.2.2, calls', tA', tc', HFIN.out.1, HFIN.out.2.2.2.1, HFIN.out.2.2.2.2.1⟩
end Go.Proofs.Ytcanjkjpdnbcnaa
namespace Go.Proofs.Ytcanjkjpdnbcnaa
open Go.RowKit
set_option linter.unusedVariables false
set_option linter.unusedSimpArgs false
set_option maxRecDepth 100000

section
variable {F : ByteArray → Option MFn} {inp : List Int} {fuel : Nat} {callF : PS → ByteArray → List Int → RO} {g : Nat} {s : PS} {c : PC} {b : MBl} {x : MIn}
theorem frameR_open (h : fuel ≤ s.steps) (hg : 0 < g) : frameR F inp fuel callF g s = .stop 5 s := by
  obtain ⟨k, rfl⟩ : ∃ k, g = k + 1 := ⟨g - 1, by omega⟩
  unfold frameR
  rw [if_pos h]
theorem frameR_call (h : s.steps < fuel) (hn : nextCall s = some (c, x)) : frameR F inp fuel callF (g + 1) s = match callF { s with steps := s.steps + 1 } x.name (x.argL.map c.get) with
      | .ok v s' => frameR F inp fuel callF g (backP c x v s')
      | .stop k s' => .stop k s' := by
  rw [frameR, if_neg (by omega), hn]
  rfl
theorem frameR_step (h : s.steps < fuel) (hn : nextCall s = none) : frameR F inp fuel callF (g + 1) s = match stepP F inp s with
      | .go s' => frameR F inp fuel callF g s'
      | .fin k v s' => if k = 1 then .ok v s' else .stop k s' := by
  rw [frameR, if_neg (by omega), hn]
  rfl
theorem at_call (hc : s.calls = [c]) (hb : c.f.blocks[c.block.toNat]? = some b) (hx : b.ins[c.done]? = some x) (h7 : x.kind = 7) : nextCall s = some (c, x) := by
  unfold nextCall
  rw [hc]
  dsimp only
  rw [hb]
  dsimp only
  rw [hx]
  dsimp only
  rw [if_pos h7]
theorem at_ins (hc : s.calls = [c]) (hb : c.f.blocks[c.block.toNat]? = some b) (hx : b.ins[c.done]? = some x) (h7 : x.kind ≠ 7) : nextCall s = none ∧ stepP F inp s = insP F inp (({ s with steps := s.steps + 1 } : PS).top { c with done := c.done + 1 } []) { c with done := c.done + 1 } [] x := by
  constructor
  · unfold nextCall
    rw [hc]
    dsimp only
    rw [hb]
    dsimp only
    rw [hx]
    dsimp only
    rw [if_neg h7]
  · unfold stepP
    rw [hc]
    dsimp only
    rw [hb]
    dsimp only
    rw [hx]
theorem at_end (hc : s.calls = [c]) (hb : c.f.blocks[c.block.toNat]? = some b) (hx : b.ins[c.done]? = none) : nextCall s = none ∧ stepP F inp s = endP { s with steps := s.steps + 1 } c [] b := by
  constructor
  · unfold nextCall
    rw [hc]
    dsimp only
    rw [hb]
    dsimp only
    rw [hx]
  · unfold stepP
    rw [hc]
    dsimp only
    rw [hb]
    dsimp only
    rw [hx]
end
/-- A frame that goes on. -/
structure FrInv (e : Ev) (calls : Nat) (w : World) (tA0 : Option Addr) (f : MFn) (callF : PS → ByteArray → List Int → RO) (RES : RO) (st0 : Nat) (rb : Nat) (g : Nat) (wr : World) (s : PS) (c : PC) (tA : Option Addr) (tc : Nat) : Prop where
  ref : RefAt e wr (calls + 1) 0 s tA tc
  cl : s.calls = [c]
  fn : c.f = f
  good : Good (fnOf e.fs) (isGl e.gs) e.inp s
  reg : RegAt wr rb c.regs
  apt : Apt e tA rb
  rnew : w.heap.size ≤ rb
  res : frameR (fnOf e.fs) e.inp e.fuel callF g s = RES
  gas : e.fuel - s.steps < g
  st : s.steps ≤ e.fuel
  low : st0 ≤ s.steps
  chg : Chg (e.L tA0) w wr
  fresh : ∀ k ∈ blk tA, k ∈ blk tA0 ∨ w.heap.size ≤ k
section
variable {e : Ev} {calls : Nat} {w : World} {tA0 : Option Addr} {f : MFn} {callF : PS → ByteArray → List Int → RO} {RES : RO} {st0 rb : Nat} {g : Nat} {wr w2 : World} {s : PS} {c : PC} {tA : Option Addr} {tc : Nat}
theorem FrInv.callOk (h : FrInv e calls w tA0 f callF RES st0 rb g wr s c tA tc) : CallOk (fnOf e.fs) (isGl e.gs) c := by
  have := h.good.calls
  rw [h.cl] at this
  exact this.1
theorem FrInv.later (ok : EvOk e) (h : FrInv e calls w tA0 f callF RES st0 rb g wr s c tA tc) (hb : Below wr.heap.size wr w2) : FrInv e calls w tA0 f callF RES st0 rb g w2 s c tA tc :=
  ⟨h.ref.later ok hb, h.cl, h.fn, h.good, h.reg.below hb, h.apt, h.rnew, h.res, h.gas, h.st, h.low, h.chg.trans (Chg.of_below hb), h.fresh⟩
/-- What changes in a round is what changes in all. -/
theorem FrInv.all (h : FrInv e calls w tA0 f callF RES st0 rb g wr s c tA tc) (hw : w.heap.size ≤ wr.heap.size) (hc : Chg (rb :: e.L tA) wr w2) : Chg (e.L tA0) w w2 := h.chg.andThen hc (fun k hk => by
  rcases List.mem_cons.1 hk with h1 | h1
  · rw [h1]; exact .inr h.rnew
  · unfold Ev.L at h1
    simp only [List.mem_cons, List.mem_append] at h1
    rcases h1 with h2 | h2 | h2
    · rw [h2]; exact .inl Ev.p_in
    · exact .inl (by unfold Ev.L; simp only [List.mem_cons, List.mem_append]; exact .inr (.inl h2))
    · rcases h.fresh k h2 with h3 | h3
      · exact .inl (Ev.tr_in h3)
      · exact .inr h3)
theorem fresh_trans {tA' : Option Addr} (h : FrInv e calls w tA0 f callF RES st0 rb g wr s c tA tc) (hf : ∀ k ∈ blk tA', k ∈ blk tA ∨ wr.heap.size ≤ k) : ∀ k ∈ blk tA', k ∈ blk tA0 ∨ w.heap.size ≤ k := fun k hk => by
  rcases hf k hk with h1 | h1
  · exact h.fresh k h1
  · exact .inr (Nat.le_trans h.chg.size h1)
/-- No step is left. -/
theorem FrInv.noStep (ok : EvOk e) (h : FrInv e calls w tA0 f callF RES st0 rb g wr s c tA tc) (hf : e.fuel ≤ s.steps) (hm : McAt w2 e.p { e.mc (calls + 1) 0 s tA tc with fin := 5 }) (hc : Chg [e.p] wr w2) : CallOut e calls w tA0 st0 RES (.returned (.int .i32 0)) w2 := by
  have hr : RES = .stop 5 s := by rw [← h.res]; exact frameR_open hf (by have := h.gas; omega)
  rw [hr]
  refine ⟨rfl, by decide, by decide, calls + 1, tA, tc, h.ref.mach ok hc hm rfl rfl, ?_, h.fresh⟩
  exact h.all h.chg.size (hc.weaken (fun k hk => .inl (by rw [List.mem_singleton.1 hk]; exact List.mem_cons_of_mem _ Ev.p_in)))
/-- A step is counted. -/
theorem FrInv.counted (ok : EvOk e) (h : FrInv e calls w tA0 f callF RES st0 rb g wr s c tA tc) (hm : McAt w2 e.p { e.mc (calls + 1) 0 s tA tc with steps := s.steps + 1 }) (hc : Chg [e.p] wr w2) : RefAt e w2 (calls + 1) 0 { s with steps := s.steps + 1 } tA tc ∧ RegAt w2 rb c.regs ∧ Chg (rb :: e.L tA) wr w2 :=
  ⟨h.ref.mach ok hc hm rfl rfl, h.reg.chg hc (by simpa using h.apt.p), hc.weaken (fun k hk => .inl (by rw [List.mem_singleton.1 hk]; exact List.mem_cons_of_mem _ Ev.p_in))⟩
theorem Good.count (h : Good (fnOf e.fs) (isGl e.gs) e.inp s) : Good (fnOf e.fs) (isGl e.gs) e.inp { s with steps := s.steps + 1 } := ⟨h.calls, h.some, h.few, h.words, by have := h.tr; show s.tr.length ≤ s.steps + 1; omega, h.trv, h.reads⟩
theorem InOk.of (h : FrInv e calls w tA0 f callF RES st0 rb g wr s c tA tc) {b : MBl} (hb : f.blocks[c.block.toNat]? = some b) {x : MIn} (hx : b.ins[c.done]? = some x) : InOk (fnOf e.fs) (isGl e.gs) x c.f.regs :=
  h.callOk.fn.ins b (by rw [h.fn]; exact List.mem_of_getElem? hb) x (List.mem_of_getElem? hx)
/-- What the machine does with an instruction, a step having been counted. -/
def InsDone (e : Ev) (calls : Nat) (w : World) (tA0 : Option Addr) (f : MFn) (callF : PS → ByteArray → List Int → RO) (RES : RO) (st0 rb : Nat) (blk0 : Int) (d0 : Nat) (n : Nat) (st1 : Nat) (wr : World) (tA : Option Addr) (en : Ending) (w' : World) : Prop :=
  en = .returned (.tuple #[]) ∧ ((∃ g' s' c' tA' tc', FrInv e calls w tA0 f callF RES st0 rb g' w' s' c' tA' tc' ∧ c'.block = blk0 ∧ c'.done = d0 + 1 ∧ c'.regs.length = n ∧ st1 < s'.steps ∧ Chg (rb :: e.L tA) wr w' ∧ ∀ k ∈ blk tA', k ∈ blk tA ∨ wr.heap.size ≤ k) ∨
    ∃ k calls' s' tA' tc', 1 ≤ k ∧ RefAt e w' calls' k s' tA' tc' ∧ CallOut e calls w tA0 st0 RES (.returned (.int .i32 0)) w')
theorem insP_shape {F : ByteArray → Option MFn} {inp : List Int} {s : PS} {c : PC} (hc : s.calls = [c]) {x : MIn} (h7 : x.kind ≠ 7) {s' : PS} (h : insP F inp s c [] x = .go s') : ∃ c', s'.calls = [c'] ∧ c'.f = c.f ∧ c'.block = c.block ∧ c'.done = c.done ∧ c'.regs.length = c.regs.length ∧ s'.steps = s.steps := by
  have hset : ∀ (r v : Int), ∃ c', (s.top (c.set r v) []).calls = [c'] ∧ c'.f = c.f ∧ c'.block = c.block ∧ c'.done = c.done ∧ c'.regs.length = c.regs.length ∧ (s.top (c.set r v) []).steps = s.steps := fun r v => ⟨_, rfl, rfl, rfl, rfl, List.length_set .., rfl⟩
  by_cases h1 : x.kind = 1
  · rw [insP_1 _ _ _ h1] at h; cases h; exact hset _ _
  by_cases h2 : x.kind = 2
  · rw [insP_2 _ _ _ h2] at h; cases h; exact hset _ _
  by_cases h3 : x.kind = 3
  · rw [insP_3 _ _ _ h3] at h; cases h; exact hset _ _
  by_cases h4 : x.kind = 4
  · rw [insP_4 _ _ _ h4] at h
    split at h
    · cases h; exact hset _ _
    · cases h
  by_cases h5 : x.kind = 5
  · rw [insP_5 _ _ _ h5] at h
    split at h
    · cases h
    · cases h; exact hset _ _
  by_cases h6 : x.kind = 6
  · rw [insP_6 _ _ _ h6] at h
    split at h
    · cases h
    · cases h; exact ⟨c, hc, rfl, rfl, rfl, rfl, rfl⟩
  by_cases h8 : x.kind = 8
  · rw [insP_8 _ _ _ h8] at h
    split at h
    · cases h; exact hset _ _
    · cases h; exact hset _ _
  have h9 : ∀ k : Int, 1 ≤ k → k ≤ 8 → x.kind ≠ k := fun k ha hb => by omega
  rw [insP_9 _ _ _ h9] at h
  cases h
  exact ⟨c, hc, rfl, rfl, rfl, rfl, rfl⟩
theorem ins_done (ok : EvOk e) (hC : CallMem e (calls + 1) callF) (h : FrInv e calls w tA0 f callF RES st0 rb g wr s c tA tc) (hs : s.steps < e.fuel) {b : MBl} (hb : f.blocks[c.block.toNat]? = some b) {x : MIn} (hx : b.ins[c.done]? = some x) (hin : x.In wr) (hm : McAt w2 e.p { e.mc (calls + 1) 0 s tA tc with steps := s.steps + 1 }) (hc : Chg [e.p] wr w2) (hin2 : x.In w2) :
    Calls Try.prog 30 #[.pointer (some ⟨e.p, 0, none⟩), .slice (some ⟨rb, 0, none⟩) c.regs.length c.regs.length, x.val] w2 (InsDone e calls w tA0 f callF RES st0 rb c.block c.done c.regs.length s.steps wr tA) := by
  obtain ⟨hr2, hg2, hch2⟩ := h.counted ok hm hc
  have hxo := InOk.of h hb hx
  have hb' : c.f.blocks[c.block.toNat]? = some b := by rw [h.fn]; exact hb
  obtain ⟨g1, hg1⟩ : ∃ g1, g = g1 + 1 := ⟨g - 1, by have := h.gas; omega⟩
  have hres := h.res
  rw [hg1] at hres
  have hgas := h.gas
  have hFO : ∀ x f, fnOf e.fs x = some f → FnOk (fnOf e.fs) (isGl e.gs) f := fun x f hf => ok.mid.ok f (fnOf_mem hf)
  by_cases h7 : x.kind = 7
  · rw [frameR_call hs (at_call h.cl hb' hx h7)] at hres
    refine (ins_call ok hC hr2 h.cl h.good.count hxo hg2 h.apt h7 hin2 (show s.steps + 1 ≤ e.fuel by omega)).mono fun en w' hq => ?_
    obtain ⟨q1, q2⟩ := hq
    cases hR : callF { s with steps := s.steps + 1 } x.name (x.argL.map c.get) with
    | ok v s' =>
      rw [hR] at q2 hres
      obtain ⟨hv, tA', tc', r1, r2, r3, r4, r5, r6⟩ := q2
      have hall : Chg (rb :: e.L tA) wr w' := hch2.trans r3
      have hf2 : ∀ k ∈ blk tA', k ∈ blk tA ∨ wr.heap.size ≤ k := fun k hk => by
        rcases r4 k hk with h1 | h1
        · exact .inl h1
        · exact .inr (Nat.le_trans hc.size h1)
      have hco := h.callOk
      have hd := mayI_d7 hxo.may h7
      have hdone : ∀ b', c.f.blocks[c.block.toNat]? = some b' → c.done + 1 ≤ b'.ins.length := fun b' hb2 => by
        rw [hb'] at hb2
        cases hb2
        have := (List.getElem?_eq_some_iff.1 hx).1
        omega
      have hc1 : CallOk (fnOf e.fs) (isGl e.gs) { c with done := c.done + 1 } := ⟨hco.fn, hco.regs, hco.vals, hco.block, hdone⟩
      refine ⟨q1, .inl ⟨g1, backP c x v s', if 0 ≤ x.d then { c with done := c.done + 1 }.set x.d v else { c with done := c.done + 1 }, tA', tc', ⟨⟨r1.below, r1.mc, r1.tr, r1.trb, r1.dbl, r1.data, r1.words⟩, rfl, by split <;> exact h.fn, ?_, ?_, h.apt.next h.reg.lt hf2, h.rnew, hres, ?_, r6.1, ?_, h.all h.chg.size hall, fresh_trans h hf2⟩, by split <;> rfl, by split <;> rfl, ?_, ?_, hall, hf2⟩⟩
      · have hc2 : CallOk (fnOf e.fs) (isGl e.gs) (if 0 ≤ x.d then { c with done := c.done + 1 }.set x.d v else { c with done := c.done + 1 }) := by
          split
          · exact hc1.set x.d hv
          · exact hc1
        exact ⟨⟨hc2, fun c2 h2 => (by cases h2), trivial⟩, by unfold backP; simp, by unfold backP; simp, r5.words, r5.tr, r5.trv, r5.reads⟩
      · split
        · next hd0 =>
          rw [if_pos hd0] at r2
          exact r2
        · next hd0 =>
          rw [if_neg hd0] at r2
          exact r2
      · have h6 : s.steps + 1 ≤ s'.steps := r6.2
        show e.fuel - s'.steps < g1
        omega
      · have h6 : s.steps + 1 ≤ s'.steps := r6.2
        have := h.low
        show st0 ≤ s'.steps
        omega
      · split
        · exact List.length_set ..
        · rfl
      · have h6 : s.steps + 1 ≤ s'.steps := r6.2
        show s.steps < s'.steps
        omega
    | stop k s' =>
      rw [hR] at q2 hres
      obtain ⟨k1, k5, calls', tA', tc', r1, r2, r3⟩ := q2
      have hall : Chg (rb :: e.L tA) wr w' := hch2.trans r2
      refine ⟨q1, .inr ⟨k, calls', s', tA', tc', k1, r1, ?_⟩⟩
      rw [← hres]
      exact ⟨rfl, k1, k5, calls', tA', tc', r1, h.all h.chg.size hall, fresh_trans h (fun k hk => by
        rcases r3 k hk with h1 | h1
        · exact .inl h1
        · exact .inr (Nat.le_trans hc.size h1))⟩
  · obtain ⟨hn, hst⟩ := at_ins (F := fnOf e.fs) (inp := e.inp) h.cl hb' hx h7
    rw [frameR_step hs hn, hst] at hres
    have hco := h.callOk
    have hdone : ∀ b', c.f.blocks[c.block.toNat]? = some b' → c.done + 1 ≤ b'.ins.length := fun b' hb2 => by
      rw [hb'] at hb2
      cases hb2
      have := (List.getElem?_eq_some_iff.1 hx).1
      omega
    have hc1 : CallOk (fnOf e.fs) (isGl e.gs) { c with done := c.done + 1 } := ⟨hco.fn, hco.regs, hco.vals, hco.block, hdone⟩
    have hgc := h.good.count
    have hgt : Good (fnOf e.fs) (isGl e.gs) e.inp (({ s with steps := s.steps + 1 } : PS).top { c with done := c.done + 1 } []) := hgc.top (show ({ s with steps := s.steps + 1 } : PS).calls = [c] from h.cl) hc1 rfl
    have hrt : RefAt e w2 (calls + 1) 0 (({ s with steps := s.steps + 1 } : PS).top { c with done := c.done + 1 } []) tA tc := ⟨hr2.below, hr2.mc, hr2.tr, hr2.trb, hr2.dbl, hr2.data, hr2.words⟩
    have hfu := ok.fuel
    have hgd := insP_good (F := fnOf e.fs) (G := isGl e.gs) (inp := e.inp) hFO ok.inV (s := ({ s with steps := s.steps + 1 } : PS).top { c with done := c.done + 1 } []) (c := { c with done := c.done + 1 }) (cs := []) rfl hgt (by have := h.good.tr; show s.tr.length < s.steps + 1; omega) hxo
    refine (ins_mem ok hrt rfl hgt hxo hg2 h.apt h7 (show s.steps + 1 ≤ 90000 by omega)).mono fun en w' hq => ?_
    obtain ⟨q1, q2⟩ := hq
    cases hR : insP (fnOf e.fs) e.inp (({ s with steps := s.steps + 1 } : PS).top { c with done := c.done + 1 } []) { c with done := c.done + 1 } [] x with
    | go s' =>
      rw [hR] at q2 hres hgd
      obtain ⟨c', p1, p2, p3, p4, p5, p6⟩ := insP_shape (F := fnOf e.fs) (inp := e.inp) (s := ({ s with steps := s.steps + 1 } : PS).top { c with done := c.done + 1 } []) (c := { c with done := c.done + 1 }) rfl h7 hR
      obtain ⟨c2, tA', tc', r1, r2, r3, r4, r5⟩ := q2
      rw [p1] at r1
      cases r1
      have p6' : s'.steps = s.steps + 1 := p6
      have hall : Chg (rb :: e.L tA) wr w' := hch2.trans r4
      have hf2 : ∀ k ∈ blk tA', k ∈ blk tA ∨ wr.heap.size ≤ k := fun k hk => by
        rcases r5 k hk with h1 | h1
        · exact .inl h1
        · exact .inr (Nat.le_trans hc.size h1)
      refine ⟨q1, .inl ⟨g1, s', c', tA', tc', ⟨r2, p1, p2.trans h.fn, hgd.2 s' rfl, r3, h.apt.next h.reg.lt hf2, h.rnew, hres, by omega, by omega, by have := h.low; omega, h.all h.chg.size hall, fresh_trans h hf2⟩, p3, p4, p5, by omega, hall, hf2⟩⟩
    | fin k v s' =>
      rw [hR] at q2 hres
      obtain ⟨calls', tA', tc', k1, k5, r1, r2, r3⟩ := q2
      have hall : Chg (rb :: e.L tA) wr w' := hch2.trans r2
      dsimp only at hres
      rw [if_neg (by omega)] at hres
      refine ⟨q1, .inr ⟨k, calls', s', tA', tc', by omega, r1, ?_⟩⟩
      rw [← hres]
      exact ⟨rfl, by omega, k5, calls', tA', tc', r1, h.all h.chg.size hall, fresh_trans h (fun k hk => by
        rcases r3 k hk with h1 | h1
        · exact .inl h1
        · exact .inr (Nat.le_trans hc.size h1))⟩
/-- A box of the frame's own. -/
structure Box (e : Ev) (tA : Option Addr) (rb : Nat) (wr : World) (b : Nat) (cs : Array Value) (T : Nat) : Prop where
  heap : wr.heap[b]? = some (.cells cs T (0, 0))
  apt : Apt e tA b
  ne : b ≠ rb
theorem Box.next {b : Nat} {cs : Array Value} {T : Nat} {tA' : Option Addr} (h : Box e tA rb wr b cs T) (hc : Chg (rb :: e.L tA) wr w2) (hf : ∀ k ∈ blk tA', k ∈ blk tA ∨ wr.heap.size ≤ k) : Box e tA' rb w2 b cs T :=
  have hlt := (Array.getElem?_eq_some_iff.1 h.heap).1
  ⟨(hc.same b hlt (fun hm => by rcases List.mem_cons.1 hm with h1 | h1; exact h.ne h1; exact h.apt.notL h1)).trans h.heap, h.apt.next hlt hf, h.ne⟩
theorem Box.later {b : Nat} {cs : Array Value} {T : Nat} (h : Box e tA rb wr b cs T) (hb : Below wr.heap.size wr w2) : Box e tA rb w2 b cs T :=
  ⟨(hb.block b (Array.getElem?_eq_some_iff.1 h.heap).1).trans h.heap, h.apt, h.ne⟩
theorem Box.mach {b : Nat} {cs : Array Value} {T : Nat} (h : Box e tA rb wr b cs T) (hc : Chg [e.p] wr w2) : Box e tA rb w2 b cs T :=
  ⟨(hc.same b (Array.getElem?_eq_some_iff.1 h.heap).1 (by simpa using h.apt.p)).trans h.heap, h.apt, h.ne⟩
/-- The end of a block: on to another. -/
theorem FrInv.goto (ok : EvOk e) (h : FrInv e calls w tA0 f callF RES st0 rb g wr s c tA tc) (hs : s.steps < e.fuel) {b : MBl} (hb : f.blocks[c.block.toNat]? = some b) (hx : b.ins[c.done]? = none) (hm : McAt w2 e.p { e.mc (calls + 1) 0 s tA tc with steps := s.steps + 1 }) (hc : Chg [e.p] wr w2) (t : Int)
    (he : endP { s with steps := s.steps + 1 } c [] b = .go (({ s with steps := s.steps + 1 } : PS).top { c with block := t, done := 0 } [])) :
    FrInv e calls w tA0 f callF RES st0 rb (g - 1) w2 (({ s with steps := s.steps + 1 } : PS).top { c with block := t, done := 0 } []) { c with block := t, done := 0 } tA tc := by
  obtain ⟨hr2, hg2, hch2⟩ := h.counted ok hm hc
  have hb' : c.f.blocks[c.block.toNat]? = some b := by rw [h.fn]; exact hb
  obtain ⟨g1, hg1⟩ : ∃ g1, g = g1 + 1 := ⟨g - 1, by have := h.gas; omega⟩
  have hres := h.res
  obtain ⟨hn, hst⟩ := at_end (F := fnOf e.fs) (inp := e.inp) h.cl hb' hx
  rw [hg1, frameR_step hs hn, hst, he] at hres
  have hgas := h.gas
  have hgd := endP_good (F := fnOf e.fs) (G := isGl e.gs) (inp := e.inp) (s := { s with steps := s.steps + 1 }) (c := c) (cs := []) h.cl h.good.count (h.callOk.fn.bl b (List.mem_of_getElem? hb'))
  rw [he] at hgd
  subst hg1
  exact ⟨⟨hr2.below, hr2.mc, hr2.tr, hr2.trb, hr2.dbl, hr2.data, hr2.words⟩, rfl, h.fn, hgd.2 _ rfl, hg2, h.apt, h.rnew, hres, by show e.fuel - (s.steps + 1) < g1; omega, by show s.steps + 1 ≤ e.fuel; omega, by have := h.low; show st0 ≤ s.steps + 1; omega, h.all h.chg.size hch2, h.fresh⟩
/-- The end of a block: back. -/
theorem FrInv.leave (ok : EvOk e) (h : FrInv e calls w tA0 f callF RES st0 rb g wr s c tA tc) (hs : s.steps < e.fuel) {b : MBl} (hb : f.blocks[c.block.toNat]? = some b) (hx : b.ins[c.done]? = none) (hk : b.kind = 3) {w3 : World} (hm : McAt w3 e.p (e.mc calls 0 { s with steps := s.steps + 1 } tA tc)) (hc : Chg [e.p] wr w3) :
    CallOut e calls w tA0 st0 RES (.returned (.int .i32 (c.get b.a))) w3 := by
  have hb' : c.f.blocks[c.block.toNat]? = some b := by rw [h.fn]; exact hb
  obtain ⟨g1, hg1⟩ : ∃ g1, g = g1 + 1 := ⟨g - 1, by have := h.gas; omega⟩
  have hres := h.res
  obtain ⟨hn, hst⟩ := at_end (F := fnOf e.fs) (inp := e.inp) h.cl hb' hx
  have he : endP { s with steps := s.steps + 1 } c [] b = .fin 1 (c.get b.a) { s with steps := s.steps + 1, calls := [] } := by
    unfold endP
    rw [if_neg (by omega), if_neg (by omega)]
    rfl
  rw [hg1, frameR_step hs hn, hst, he] at hres
  dsimp only at hres
  rw [if_pos rfl] at hres
  rw [← hres]
  have hr3 : RefAt e w3 calls 0 { s with steps := s.steps + 1 } tA tc := h.ref.mach ok hc hm rfl rfl
  have hR := h.good.count.R
  exact ⟨rfl, h.callOk.get _, tA, tc, ⟨hr3.below, hr3.mc, hr3.tr, hr3.trb, hr3.dbl, hr3.data, hr3.words⟩, h.all h.chg.size (hc.weaken (fun k hk => .inl (by rw [List.mem_singleton.1 hk]; exact List.mem_cons_of_mem _ Ev.p_in))), h.fresh, ⟨hR.words, hR.tr, hR.trv, hR.reads⟩, by show s.steps + 1 ≤ e.fuel; omega, by have := h.low; show st0 ≤ s.steps + 1; omega⟩
end
end Go.Proofs.Ytcanjkjpdnbcnaa
