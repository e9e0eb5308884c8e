/-
  Instructions that load, store, read, or end the run.
  Instructions that read a word of the input, and that print.
  What registers hold, as a slice; a call is begun.
  A call is begun, or there are too many.
  The instruction that begins a call.
  A call returns; the end of a block.
  The end of a block: on to a block, or back.
  What blocks do: states that may be, and that they stay so.
-/
import Derived.Test.YtcanjkjpdnbcnaaZau
import Derived.Test.YtcanjkjpdnbcnaaZaa
import Derived.Deep.Cut
namespace Go.Proofs.Ytcanjkjpdnbcnaa
open Go.RowKit
set_option linter.unusedVariables false
set_option linter.unusedSimpArgs false
set_option maxRecDepth 100000

theorem Chg.read {l : List Nat} {w w' : World} (h : Chg l w w') (b o : Nat) (hb : b ∉ l) {v : Value} (hv : w.cell? ⟨b, o, none⟩ = some v) : w'.cell? ⟨b, o, none⟩ = some v := by
  have hlt := World.block_lt_of_cell? w _ hv
  rw [World.cell?_of_block (w := w) (a := ⟨b, o, none⟩) (h.same b hlt hb)]
  exact hv
theorem RegAt.lt {w : World} {b : Nat} {l : List Int} (h : RegAt w b l) : b < w.heap.size := (Array.getElem?_eq_some_iff.1 h).1
theorem RegAt.chg {w w' : World} {b : Nat} {l : List Int} {L : List Nat} (h : RegAt w b l) (hc : Chg L w w') (hb : b ∉ L) : RegAt w' b l := h.same (hc.same b h.lt hb)
set_option maxHeartbeats 3200000 in
theorem do_5 (w : World) (p cb rb g o n k wb m q : Nat) (l ls : List Int)
    (x0 : w.cell? ⟨g, o, none⟩ = some (.int .i64 5)) (x2 : w.cell? ⟨g, o + 2, none⟩ = some (.int .i64 (k : Int))) (hk : k < n) (c1 : w.cell? ⟨cb, 1, none⟩ = some (.slice (some ⟨rb, 0, none⟩) n n)) (hr : RegAt w rb l) (hl : l.length = n) (hn : n ≤ 100000) (hqm : q < m) (hw : RegAt w wb ls) (hls : ls.length = m) (h1 : cb ≠ rb) (h2 : g ≠ rb) (h3 : wb ≠ rb)
    (hE : Calls Try.prog 41 #[.pointer (some ⟨p, 0, none⟩), .pointer (some ⟨cb, 0, none⟩), .pointer (some ⟨g, o, none⟩)] w.drew fun e w' => e = .returned (.pointer (some ⟨wb, q, none⟩)) ∧ ∃ d, w' = w.drew.drewN d) :
    Calls Try.prog 28 #[.pointer (some ⟨p, 0, none⟩), .pointer (some ⟨cb, 0, none⟩), .pointer (some ⟨g, o, none⟩)] w fun e w' => e = .returned (.tuple #[]) ∧ RegAt w' rb (l.set k (ls.getD q 0)) ∧ Chg [rb] w w' := by
  have hk0 : (0 : Int) ≤ (k : Int) := by omega
  have hkn : (k : Int) < (n : Int) := by omega
  have hn2 : (n : Int) ≤ 100000 := by omega
  obtain ⟨L, hL⟩ : ∃ L, [rb] = L := ⟨_, rfl⟩
  have HF : Hid (∀ V, Chg L w V → V.cell? ⟨cb, 1, none⟩ = some (.slice (some ⟨rb, 0, none⟩) n n) ∧ V.cell? ⟨g, o + 2, none⟩ = some (.int .i64 (k : Int)) ∧ V.cell? ⟨wb, q, none⟩ = some (.int .i32 (ls.getD q 0))) := Lib.hid (fun V hV => by
    subst hL
    exact ⟨hV.read cb 1 (by simpa using h1) c1, hV.read g (o + 2) (by simpa using h2) x2, hV.read wb q (by simpa using h3) (hw.cell q (by omega))⟩)
  have HE := Lib.hid hE
  have HR : Hid (∀ d, RegAt (w.drew.drewN d) rb l ∧ Chg L w (w.drew.drewN d)) := Lib.hid (fun d => ⟨hr, ((Chg.refl L w).drew).drewN d⟩)
  have HRL := Lib.hid (show k < l.length by omega)
  have HLL := Lib.hid hL
  clear hr hl hw hE c1 x2 hL
  generalize hz9 : ls.getD q 0 = z9 at *
  clear hz9
  go_enter Try.func28, Try.ntmps28
  go_upto_region 10 with fail
  refine wp_region_held_drew (S := fun V => Chg L w V) (by kernel_rfl) ((Chg.refl L w).drew) (fun _ => ?_)
  refine takeH 0 116 (v := (.pointer (some ⟨cb, 0, none⟩))) rfl rfl (by kernel_rfl) (by kernel_rfl) (by kernel_rfl) (fun _ _ _ h => h) (by rfl) ?_ (by assumption) ?_
  · intro w hSw
    obtain ⟨y0, y1, y2⟩ := HF.out w hSw
    go_simp
  try simp only [Act.put, List.setIfInBounds_toArray, List.set_cons_zero, List.set_cons_succ]
  refine takeH 1 117 (v := (.pointer (some ⟨cb, 0, none⟩))) rfl rfl (by kernel_rfl) (by kernel_rfl) (by kernel_rfl) (fun _ _ _ h => h) (by rfl) ?_ (by assumption) ?_
  · intro w hSw
    obtain ⟨y0, y1, y2⟩ := HF.out w hSw
    go_simp
  try simp only [Act.put, List.setIfInBounds_toArray, List.set_cons_zero, List.set_cons_succ]
  refine takeH 2 118 (v := (.pointer (some ⟨cb, 1, none⟩))) rfl rfl (by kernel_rfl) (by kernel_rfl) (by kernel_rfl) (fun _ _ _ h => h) (by rfl) ?_ (by assumption) ?_
  · intro w hSw
    obtain ⟨y0, y1, y2⟩ := HF.out w hSw
    go_simp
  try simp only [Act.put, List.setIfInBounds_toArray, List.set_cons_zero, List.set_cons_succ]
  refine takeH 3 119 (v := (.slice (some ⟨rb, 0, none⟩) n n)) rfl rfl (by kernel_rfl) (by kernel_rfl) (by kernel_rfl) (fun _ _ _ h => h) (by rfl) ?_ (by assumption) ?_
  · intro w hSw
    obtain ⟨y0, y1, y2⟩ := HF.out w hSw
    go_simp
  try simp only [Act.put, List.setIfInBounds_toArray, List.set_cons_zero, List.set_cons_succ]
  refine takeH 4 120 (v := (.pointer (some ⟨g, o, none⟩))) rfl rfl (by kernel_rfl) (by kernel_rfl) (by kernel_rfl) (fun _ _ _ h => h) (by rfl) ?_ (by assumption) ?_
  · intro w hSw
    obtain ⟨y0, y1, y2⟩ := HF.out w hSw
    go_simp
  try simp only [Act.put, List.setIfInBounds_toArray, List.set_cons_zero, List.set_cons_succ]
  refine takeH 5 121 (v := (.pointer (some ⟨g, o, none⟩))) rfl rfl (by kernel_rfl) (by kernel_rfl) (by kernel_rfl) (fun _ _ _ h => h) (by rfl) ?_ (by assumption) ?_
  · intro w hSw
    obtain ⟨y0, y1, y2⟩ := HF.out w hSw
    go_simp
  try simp only [Act.put, List.setIfInBounds_toArray, List.set_cons_zero, List.set_cons_succ]
  refine takeH 6 122 (v := (.pointer (some ⟨g, o + 2, none⟩))) rfl rfl (by kernel_rfl) (by kernel_rfl) (by kernel_rfl) (fun _ _ _ h => h) (by rfl) ?_ (by assumption) ?_
  · intro w hSw
    obtain ⟨y0, y1, y2⟩ := HF.out w hSw
    go_simp
  try simp only [Act.put, List.setIfInBounds_toArray, List.set_cons_zero, List.set_cons_succ]
  refine takeH 7 123 (v := (.int .i64 (k : Int))) rfl rfl (by kernel_rfl) (by kernel_rfl) (by kernel_rfl) (fun _ _ _ h => h) (by rfl) ?_ (by assumption) ?_
  · intro w hSw
    obtain ⟨y0, y1, y2⟩ := HF.out w hSw
    go_simp
  try simp only [Act.put, List.setIfInBounds_toArray, List.set_cons_zero, List.set_cons_succ]
  refine takeH 8 124 (v := (.pointer (some ⟨p, 0, none⟩))) rfl rfl (by kernel_rfl) (by kernel_rfl) (by kernel_rfl) (fun _ _ _ h => h) (by rfl) ?_ (by assumption) ?_
  · intro w hSw
    obtain ⟨y0, y1, y2⟩ := HF.out w hSw
    go_simp
  try simp only [Act.put, List.setIfInBounds_toArray, List.set_cons_zero, List.set_cons_succ]
  refine takeH 9 125 (v := (.pointer (some ⟨cb, 0, none⟩))) rfl rfl (by kernel_rfl) (by kernel_rfl) (by kernel_rfl) (fun _ _ _ h => h) (by rfl) ?_ (by assumption) ?_
  · intro w hSw
    obtain ⟨y0, y1, y2⟩ := HF.out w hSw
    go_simp
  try simp only [Act.put, List.setIfInBounds_toArray, List.set_cons_zero, List.set_cons_succ]
  refine takeH 10 126 (v := (.pointer (some ⟨g, o, none⟩))) rfl rfl (by kernel_rfl) (by kernel_rfl) (by kernel_rfl) (fun _ _ _ h => h) (by rfl) ?_ (by assumption) ?_
  · intro w hSw
    obtain ⟨y0, y1, y2⟩ := HF.out w hSw
    go_simp
  try simp only [Act.put, List.setIfInBounds_toArray, List.set_cons_zero, List.set_cons_succ]
  refine wpAnyH_ready (rs := [11]) (by kernel_rfl) (by simp) ?_
  refine AllReadyH.cons rfl (fun K hK => ?_) AllReadyH.nil
  go_simp
  go_at_call 41
  (with_reducible refine (HE.out).mono ?_)
  rintro e w2 ⟨rfl, hd⟩
  obtain ⟨HR2, HC2⟩ : Hid (RegAt w2 rb l) ∧ Hid (Chg L w w2) := by obtain ⟨d, rfl⟩ := hd; exact ⟨Lib.hid (HR.out d).1, Lib.hid (HR.out d).2⟩
  clear hd
  refine hK.out _ _ HC2.out (fun _ => ?_)
  clear hK K
  try simp only [Act.put, List.setIfInBounds_toArray, List.set_cons_zero, List.set_cons_succ]
  refine takeH 12 128 (v := (.pointer (some ⟨wb, q, none⟩))) rfl rfl (by kernel_rfl) (by kernel_rfl) (by kernel_rfl) (fun _ _ _ h => h) (by rfl) ?_ HC2.out ?_
  · intro w hSw
    obtain ⟨y0, y1, y2⟩ := HF.out w hSw
    go_simp
  try simp only [Act.put, List.setIfInBounds_toArray, List.set_cons_zero, List.set_cons_succ]
  refine takeH 13 129 (v := (.int .i32 z9)) rfl rfl (by kernel_rfl) (by kernel_rfl) (by kernel_rfl) (fun _ _ _ h => h) (by rfl) ?_ HC2.out ?_
  · intro w hSw
    obtain ⟨y0, y1, y2⟩ := HF.out w hSw
    go_simp
  try simp only [Act.put, List.setIfInBounds_toArray, List.set_cons_zero, List.set_cons_succ]
  refine takeH 14 130 (v := (.pointer (some ⟨rb, k, none⟩))) rfl rfl (by kernel_rfl) (by kernel_rfl) (by kernel_rfl) (fun _ _ _ h => h) (by rfl) ?_ HC2.out ?_
  · intro w hSw
    obtain ⟨y0, y1, y2⟩ := HF.out w hSw
    go_simp
  try simp only [Act.put, List.setIfInBounds_toArray, List.set_cons_zero, List.set_cons_succ]
  refine wpAnyH_ready (rs := [15]) (by kernel_rfl) (by simp) ?_
  refine AllReadyH.cons rfl (fun K hK => ?_) AllReadyH.nil
  have r1 := HR2.out.cell k HRL.out
  have f1 := HR2.out.free k
  have HC3 : Hid (RegAt (w2.setCell ⟨rb, k, none⟩ (.int .i32 z9)) rb (l.set k z9) ∧ Chg L w (w2.setCell ⟨rb, k, none⟩ (.int .i32 z9))) := Lib.hid ⟨HR2.out.put k z9, HC2.out.setCell rb k _ (.inl (by rw [← HLL.out]; simp))⟩
  generalize l.getD k 0 = v0 at *
  go_simp
  refine hK.out _ _ HC3.out.2 (fun _ => ?_)
  clear hK K
  try simp only [Act.put, List.setIfInBounds_toArray, List.set_cons_zero, List.set_cons_succ]
  refine wpAnyH_done (by kernel_rfl) ?_ _
  go_wp2_with fail
  exact bodyPost_end (results_none rfl _ _ _) rfl ⟨rfl, HC3.out.1, by rw [HLL.out]; exact HC3.out.2⟩
set_option maxHeartbeats 3200000 in
theorem do_6 (w : World) (p cb rb g o n i wb m q : Nat) (l ls : List Int)
    (x0 : w.cell? ⟨g, o, none⟩ = some (.int .i64 6)) (x4 : w.cell? ⟨g, o + 4, none⟩ = some (.int .i64 (i : Int))) (hi : i < n) (c1 : w.cell? ⟨cb, 1, none⟩ = some (.slice (some ⟨rb, 0, none⟩) n n)) (hr : RegAt w rb l) (hl : l.length = n) (hn : n ≤ 100000) (hqm : q < m) (hw : RegAt w wb ls) (hls : ls.length = m) (h1 : cb ≠ wb) (h2 : g ≠ wb) (h3 : rb ≠ wb)
    (hE : Calls Try.prog 41 #[.pointer (some ⟨p, 0, none⟩), .pointer (some ⟨cb, 0, none⟩), .pointer (some ⟨g, o, none⟩)] w.drew fun e w' => e = .returned (.pointer (some ⟨wb, q, none⟩)) ∧ ∃ d, w' = w.drew.drewN d) :
    Calls Try.prog 28 #[.pointer (some ⟨p, 0, none⟩), .pointer (some ⟨cb, 0, none⟩), .pointer (some ⟨g, o, none⟩)] w fun e w' => e = .returned (.tuple #[]) ∧ RegAt w' wb (ls.set q (l.getD i 0)) ∧ Chg [wb] w w' := by
  have hk0 : (0 : Int) ≤ (i : Int) := by omega
  have hkn : (i : Int) < (n : Int) := by omega
  have hn2 : (n : Int) ≤ 100000 := by omega
  obtain ⟨L, hL⟩ : ∃ L, [wb] = L := ⟨_, rfl⟩
  have HF : Hid (∀ V, Chg L w V → V.cell? ⟨cb, 1, none⟩ = some (.slice (some ⟨rb, 0, none⟩) n n) ∧ V.cell? ⟨g, o + 4, none⟩ = some (.int .i64 (i : Int)) ∧ V.cell? ⟨rb, i, none⟩ = some (.int .i32 (l.getD i 0))) := Lib.hid (fun V hV => by
    subst hL
    exact ⟨hV.read cb 1 (by simpa using h1) c1, hV.read g (o + 4) (by simpa using h2) x4, hV.read rb i (by simpa using h3) (hr.cell i (by omega))⟩)
  have HE := Lib.hid hE
  have HR : Hid (∀ d, RegAt (w.drew.drewN d) wb ls ∧ Chg L w (w.drew.drewN d)) := Lib.hid (fun d => ⟨hw, ((Chg.refl L w).drew).drewN d⟩)
  have HRL := Lib.hid (show q < ls.length by omega)
  have HLL := Lib.hid hL
  clear hr hl hw hE c1 x4 hL
  generalize hz9 : l.getD i 0 = z9 at *
  clear hz9
  go_enter Try.func28, Try.ntmps28
  go_upto_region 12 with fail
  refine wp_region_held_drew (S := fun V => Chg L w V) (by kernel_rfl) ((Chg.refl L w).drew) (fun _ => ?_)
  refine takeH 0 133 (v := (.pointer (some ⟨p, 0, none⟩))) rfl rfl (by kernel_rfl) (by kernel_rfl) (by kernel_rfl) (fun _ _ _ h => h) (by rfl) ?_ (by assumption) ?_
  · intro w hSw
    obtain ⟨y0, y1, y2⟩ := HF.out w hSw
    go_simp
  try simp only [Act.put, List.setIfInBounds_toArray, List.set_cons_zero, List.set_cons_succ]
  refine takeH 1 134 (v := (.pointer (some ⟨cb, 0, none⟩))) rfl rfl (by kernel_rfl) (by kernel_rfl) (by kernel_rfl) (fun _ _ _ h => h) (by rfl) ?_ (by assumption) ?_
  · intro w hSw
    obtain ⟨y0, y1, y2⟩ := HF.out w hSw
    go_simp
  try simp only [Act.put, List.setIfInBounds_toArray, List.set_cons_zero, List.set_cons_succ]
  refine takeH 2 135 (v := (.pointer (some ⟨g, o, none⟩))) rfl rfl (by kernel_rfl) (by kernel_rfl) (by kernel_rfl) (fun _ _ _ h => h) (by rfl) ?_ (by assumption) ?_
  · intro w hSw
    obtain ⟨y0, y1, y2⟩ := HF.out w hSw
    go_simp
  try simp only [Act.put, List.setIfInBounds_toArray, List.set_cons_zero, List.set_cons_succ]
  refine takeH 4 137 (v := (.pointer (some ⟨cb, 0, none⟩))) rfl rfl (by kernel_rfl) (by kernel_rfl) (by kernel_rfl) (fun _ _ _ h => h) (by rfl) ?_ (by assumption) ?_
  · intro w hSw
    obtain ⟨y0, y1, y2⟩ := HF.out w hSw
    go_simp
  try simp only [Act.put, List.setIfInBounds_toArray, List.set_cons_zero, List.set_cons_succ]
  refine takeH 5 138 (v := (.pointer (some ⟨cb, 0, none⟩))) rfl rfl (by kernel_rfl) (by kernel_rfl) (by kernel_rfl) (fun _ _ _ h => h) (by rfl) ?_ (by assumption) ?_
  · intro w hSw
    obtain ⟨y0, y1, y2⟩ := HF.out w hSw
    go_simp
  try simp only [Act.put, List.setIfInBounds_toArray, List.set_cons_zero, List.set_cons_succ]
  refine takeH 6 139 (v := (.pointer (some ⟨cb, 1, none⟩))) rfl rfl (by kernel_rfl) (by kernel_rfl) (by kernel_rfl) (fun _ _ _ h => h) (by rfl) ?_ (by assumption) ?_
  · intro w hSw
    obtain ⟨y0, y1, y2⟩ := HF.out w hSw
    go_simp
  try simp only [Act.put, List.setIfInBounds_toArray, List.set_cons_zero, List.set_cons_succ]
  refine takeH 7 140 (v := (.slice (some ⟨rb, 0, none⟩) n n)) rfl rfl (by kernel_rfl) (by kernel_rfl) (by kernel_rfl) (fun _ _ _ h => h) (by rfl) ?_ (by assumption) ?_
  · intro w hSw
    obtain ⟨y0, y1, y2⟩ := HF.out w hSw
    go_simp
  try simp only [Act.put, List.setIfInBounds_toArray, List.set_cons_zero, List.set_cons_succ]
  refine takeH 8 141 (v := (.pointer (some ⟨g, o, none⟩))) rfl rfl (by kernel_rfl) (by kernel_rfl) (by kernel_rfl) (fun _ _ _ h => h) (by rfl) ?_ (by assumption) ?_
  · intro w hSw
    obtain ⟨y0, y1, y2⟩ := HF.out w hSw
    go_simp
  try simp only [Act.put, List.setIfInBounds_toArray, List.set_cons_zero, List.set_cons_succ]
  refine takeH 9 142 (v := (.pointer (some ⟨g, o, none⟩))) rfl rfl (by kernel_rfl) (by kernel_rfl) (by kernel_rfl) (fun _ _ _ h => h) (by rfl) ?_ (by assumption) ?_
  · intro w hSw
    obtain ⟨y0, y1, y2⟩ := HF.out w hSw
    go_simp
  try simp only [Act.put, List.setIfInBounds_toArray, List.set_cons_zero, List.set_cons_succ]
  refine takeH 10 143 (v := (.pointer (some ⟨g, o + 4, none⟩))) rfl rfl (by kernel_rfl) (by kernel_rfl) (by kernel_rfl) (fun _ _ _ h => h) (by rfl) ?_ (by assumption) ?_
  · intro w hSw
    obtain ⟨y0, y1, y2⟩ := HF.out w hSw
    go_simp
  try simp only [Act.put, List.setIfInBounds_toArray, List.set_cons_zero, List.set_cons_succ]
  refine takeH 11 144 (v := (.int .i64 (i : Int))) rfl rfl (by kernel_rfl) (by kernel_rfl) (by kernel_rfl) (fun _ _ _ h => h) (by rfl) ?_ (by assumption) ?_
  · intro w hSw
    obtain ⟨y0, y1, y2⟩ := HF.out w hSw
    go_simp
  try simp only [Act.put, List.setIfInBounds_toArray, List.set_cons_zero, List.set_cons_succ]
  refine takeH 12 145 (v := (.pointer (some ⟨rb, i, none⟩))) rfl rfl (by kernel_rfl) (by kernel_rfl) (by kernel_rfl) (fun _ _ _ h => h) (by rfl) ?_ (by assumption) ?_
  · intro w hSw
    obtain ⟨y0, y1, y2⟩ := HF.out w hSw
    go_simp
  try simp only [Act.put, List.setIfInBounds_toArray, List.set_cons_zero, List.set_cons_succ]
  refine takeH 13 146 (v := (.int .i32 z9)) rfl rfl (by kernel_rfl) (by kernel_rfl) (by kernel_rfl) (fun _ _ _ h => h) (by rfl) ?_ (by assumption) ?_
  · intro w hSw
    obtain ⟨y0, y1, y2⟩ := HF.out w hSw
    go_simp
  try simp only [Act.put, List.setIfInBounds_toArray, List.set_cons_zero, List.set_cons_succ]
  refine wpAnyH_ready (rs := [3]) (by kernel_rfl) (by simp) ?_
  refine AllReadyH.cons rfl (fun K hK => ?_) AllReadyH.nil
  go_simp
  go_at_call 41
  (with_reducible refine (HE.out).mono ?_)
  rintro e w2 ⟨rfl, hd⟩
  obtain ⟨HR2, HC2⟩ : Hid (RegAt w2 wb ls) ∧ Hid (Chg L w w2) := by obtain ⟨d, rfl⟩ := hd; exact ⟨Lib.hid (HR.out d).1, Lib.hid (HR.out d).2⟩
  clear hd
  refine hK.out _ _ HC2.out (fun _ => ?_)
  clear hK K
  try simp only [Act.put, List.setIfInBounds_toArray, List.set_cons_zero, List.set_cons_succ]
  refine takeH 14 147 (v := (.pointer (some ⟨wb, q, none⟩))) rfl rfl (by kernel_rfl) (by kernel_rfl) (by kernel_rfl) (fun _ _ _ h => h) (by rfl) ?_ HC2.out ?_
  · intro w hSw
    obtain ⟨y0, y1, y2⟩ := HF.out w hSw
    go_simp
  try simp only [Act.put, List.setIfInBounds_toArray, List.set_cons_zero, List.set_cons_succ]
  refine wpAnyH_ready (rs := [15]) (by kernel_rfl) (by simp) ?_
  refine AllReadyH.cons rfl (fun K hK => ?_) AllReadyH.nil
  have r1 := HR2.out.cell q HRL.out
  have f1 := HR2.out.free q
  have HC3 : Hid (RegAt (w2.setCell ⟨wb, q, none⟩ (.int .i32 z9)) wb (ls.set q z9) ∧ Chg L w (w2.setCell ⟨wb, q, none⟩ (.int .i32 z9))) := Lib.hid ⟨HR2.out.put q z9, HC2.out.setCell wb q _ (.inl (by rw [← HLL.out]; simp))⟩
  generalize ls.getD q 0 = v0 at *
  go_simp
  refine hK.out _ _ HC3.out.2 (fun _ => ?_)
  clear hK K
  try simp only [Act.put, List.setIfInBounds_toArray, List.set_cons_zero, List.set_cons_succ]
  refine wpAnyH_done (by kernel_rfl) ?_ _
  go_wp2_with fail
  exact bodyPost_end (results_none rfl _ _ _) rfl ⟨rfl, HC3.out.1, by rw [HLL.out]; exact HC3.out.2⟩
set_option maxHeartbeats 3200000 in
theorem do_5no (w : World) (p cb rb g o n k : Nat) (l : List Int) (x0 : w.cell? ⟨g, o, none⟩ = some (.int .i64 5)) (x2 : w.cell? ⟨g, o + 2, none⟩ = some (.int .i64 (k : Int))) (hk : k < n) (c1 : w.cell? ⟨cb, 1, none⟩ = some (.slice (some ⟨rb, 0, none⟩) n n)) (hr : RegAt w rb l) (hl : l.length = n) (hn : n ≤ 100000)
    (hE : Calls Try.prog 41 #[.pointer (some ⟨p, 0, none⟩), .pointer (some ⟨cb, 0, none⟩), .pointer (some ⟨g, o, none⟩)] w.drew fun e w' => Ends 3 e ∧ ∃ d, w' = w.drew.drewN d) :
    Calls Try.prog 28 #[.pointer (some ⟨p, 0, none⟩), .pointer (some ⟨cb, 0, none⟩), .pointer (some ⟨g, o, none⟩)] w fun e w' => Ends 3 e ∧ Chg [] w w' := by
  have hk0 : (0 : Int) ≤ (k : Int) := by omega
  have hkn : (k : Int) < (n : Int) := by omega
  have hn2 : (n : Int) ≤ 100000 := by omega
  obtain ⟨L, hL⟩ : ∃ L, ([] : List Nat) = L := ⟨_, rfl⟩
  have HF : Hid (∀ V, Chg L w V → V.cell? ⟨cb, 1, none⟩ = some (.slice (some ⟨rb, 0, none⟩) n n) ∧ V.cell? ⟨g, o + 2, none⟩ = some (.int .i64 (k : Int)) ∧ V.cell? ⟨rb, k, none⟩ = some (.int .i32 (l.getD k 0))) := Lib.hid (fun V hV => by
    subst hL
    exact ⟨hV.read cb 1 (by simp) c1, hV.read g (o + 2) (by simp) x2, hV.read rb k (by simp) (hr.cell k (by omega))⟩)
  have HE := Lib.hid hE
  have HR : Hid (∀ d, Chg L w (w.drew.drewN d)) := Lib.hid (fun d => ((Chg.refl L w).drew).drewN d)
  have HLL := Lib.hid hL
  clear hr hl hE c1 x2 hL
  generalize hz9 : l.getD k 0 = z9 at *
  clear hz9
  go_enter Try.func28, Try.ntmps28
  go_upto_region 10 with fail
  refine wp_region_held_drew (S := fun V => Chg L w V) (by kernel_rfl) ((Chg.refl L w).drew) (fun _ => ?_)
  refine takeH 0 116 (v := (.pointer (some ⟨cb, 0, none⟩))) rfl rfl (by kernel_rfl) (by kernel_rfl) (by kernel_rfl) (fun _ _ _ h => h) (by rfl) ?_ (by assumption) ?_
  · intro w hSw
    obtain ⟨y0, y1, y2⟩ := HF.out w hSw
    go_simp
  try simp only [Act.put, List.setIfInBounds_toArray, List.set_cons_zero, List.set_cons_succ]
  refine takeH 1 117 (v := (.pointer (some ⟨cb, 0, none⟩))) rfl rfl (by kernel_rfl) (by kernel_rfl) (by kernel_rfl) (fun _ _ _ h => h) (by rfl) ?_ (by assumption) ?_
  · intro w hSw
    obtain ⟨y0, y1, y2⟩ := HF.out w hSw
    go_simp
  try simp only [Act.put, List.setIfInBounds_toArray, List.set_cons_zero, List.set_cons_succ]
  refine takeH 2 118 (v := (.pointer (some ⟨cb, 1, none⟩))) rfl rfl (by kernel_rfl) (by kernel_rfl) (by kernel_rfl) (fun _ _ _ h => h) (by rfl) ?_ (by assumption) ?_
  · intro w hSw
    obtain ⟨y0, y1, y2⟩ := HF.out w hSw
    go_simp
  try simp only [Act.put, List.setIfInBounds_toArray, List.set_cons_zero, List.set_cons_succ]
  refine takeH 3 119 (v := (.slice (some ⟨rb, 0, none⟩) n n)) rfl rfl (by kernel_rfl) (by kernel_rfl) (by kernel_rfl) (fun _ _ _ h => h) (by rfl) ?_ (by assumption) ?_
  · intro w hSw
    obtain ⟨y0, y1, y2⟩ := HF.out w hSw
    go_simp
  try simp only [Act.put, List.setIfInBounds_toArray, List.set_cons_zero, List.set_cons_succ]
  refine takeH 4 120 (v := (.pointer (some ⟨g, o, none⟩))) rfl rfl (by kernel_rfl) (by kernel_rfl) (by kernel_rfl) (fun _ _ _ h => h) (by rfl) ?_ (by assumption) ?_
  · intro w hSw
    obtain ⟨y0, y1, y2⟩ := HF.out w hSw
    go_simp
  try simp only [Act.put, List.setIfInBounds_toArray, List.set_cons_zero, List.set_cons_succ]
  refine takeH 5 121 (v := (.pointer (some ⟨g, o, none⟩))) rfl rfl (by kernel_rfl) (by kernel_rfl) (by kernel_rfl) (fun _ _ _ h => h) (by rfl) ?_ (by assumption) ?_
  · intro w hSw
    obtain ⟨y0, y1, y2⟩ := HF.out w hSw
    go_simp
  try simp only [Act.put, List.setIfInBounds_toArray, List.set_cons_zero, List.set_cons_succ]
  refine takeH 6 122 (v := (.pointer (some ⟨g, o + 2, none⟩))) rfl rfl (by kernel_rfl) (by kernel_rfl) (by kernel_rfl) (fun _ _ _ h => h) (by rfl) ?_ (by assumption) ?_
  · intro w hSw
    obtain ⟨y0, y1, y2⟩ := HF.out w hSw
    go_simp
  try simp only [Act.put, List.setIfInBounds_toArray, List.set_cons_zero, List.set_cons_succ]
  refine takeH 7 123 (v := (.int .i64 (k : Int))) rfl rfl (by kernel_rfl) (by kernel_rfl) (by kernel_rfl) (fun _ _ _ h => h) (by rfl) ?_ (by assumption) ?_
  · intro w hSw
    obtain ⟨y0, y1, y2⟩ := HF.out w hSw
    go_simp
  try simp only [Act.put, List.setIfInBounds_toArray, List.set_cons_zero, List.set_cons_succ]
  refine takeH 8 124 (v := (.pointer (some ⟨p, 0, none⟩))) rfl rfl (by kernel_rfl) (by kernel_rfl) (by kernel_rfl) (fun _ _ _ h => h) (by rfl) ?_ (by assumption) ?_
  · intro w hSw
    obtain ⟨y0, y1, y2⟩ := HF.out w hSw
    go_simp
  try simp only [Act.put, List.setIfInBounds_toArray, List.set_cons_zero, List.set_cons_succ]
  refine takeH 9 125 (v := (.pointer (some ⟨cb, 0, none⟩))) rfl rfl (by kernel_rfl) (by kernel_rfl) (by kernel_rfl) (fun _ _ _ h => h) (by rfl) ?_ (by assumption) ?_
  · intro w hSw
    obtain ⟨y0, y1, y2⟩ := HF.out w hSw
    go_simp
  try simp only [Act.put, List.setIfInBounds_toArray, List.set_cons_zero, List.set_cons_succ]
  refine takeH 10 126 (v := (.pointer (some ⟨g, o, none⟩))) rfl rfl (by kernel_rfl) (by kernel_rfl) (by kernel_rfl) (fun _ _ _ h => h) (by rfl) ?_ (by assumption) ?_
  · intro w hSw
    obtain ⟨y0, y1, y2⟩ := HF.out w hSw
    go_simp
  try simp only [Act.put, List.setIfInBounds_toArray, List.set_cons_zero, List.set_cons_succ]
  refine wpAnyH_ready (rs := [11]) (by kernel_rfl) (by simp) ?_
  refine AllReadyH.cons rfl (fun K hK => ?_) AllReadyH.nil
  go_simp
  go_at_call 41
  (with_reducible refine (HE.out).mono ?_)
  rintro e w2 ⟨he, d, hd⟩
  unfold Ends at he
  subst he
  subst hd
  exact ⟨rfl, rfl, by rw [HLL.out]; exact HR.out d⟩
set_option maxHeartbeats 3200000 in
theorem do_6no (w : World) (p cb rb g o n k : Nat) (l : List Int) (x0 : w.cell? ⟨g, o, none⟩ = some (.int .i64 6)) (x4 : w.cell? ⟨g, o + 4, none⟩ = some (.int .i64 (k : Int))) (hk : k < n) (c1 : w.cell? ⟨cb, 1, none⟩ = some (.slice (some ⟨rb, 0, none⟩) n n)) (hr : RegAt w rb l) (hl : l.length = n) (hn : n ≤ 100000)
    (hE : Calls Try.prog 41 #[.pointer (some ⟨p, 0, none⟩), .pointer (some ⟨cb, 0, none⟩), .pointer (some ⟨g, o, none⟩)] w.drew fun e w' => Ends 3 e ∧ ∃ d, w' = w.drew.drewN d) :
    Calls Try.prog 28 #[.pointer (some ⟨p, 0, none⟩), .pointer (some ⟨cb, 0, none⟩), .pointer (some ⟨g, o, none⟩)] w fun e w' => Ends 3 e ∧ Chg [] w w' := by
  have hk0 : (0 : Int) ≤ (k : Int) := by omega
  have hkn : (k : Int) < (n : Int) := by omega
  have hn2 : (n : Int) ≤ 100000 := by omega
  obtain ⟨L, hL⟩ : ∃ L, ([] : List Nat) = L := ⟨_, rfl⟩
  have HF : Hid (∀ V, Chg L w V → V.cell? ⟨cb, 1, none⟩ = some (.slice (some ⟨rb, 0, none⟩) n n) ∧ V.cell? ⟨g, o + 4, none⟩ = some (.int .i64 (k : Int)) ∧ V.cell? ⟨rb, k, none⟩ = some (.int .i32 (l.getD k 0))) := Lib.hid (fun V hV => by
    subst hL
    exact ⟨hV.read cb 1 (by simp) c1, hV.read g (o + 4) (by simp) x4, hV.read rb k (by simp) (hr.cell k (by omega))⟩)
  have HE := Lib.hid hE
  have HR : Hid (∀ d, Chg L w (w.drew.drewN d)) := Lib.hid (fun d => ((Chg.refl L w).drew).drewN d)
  have HLL := Lib.hid hL
  clear hr hl hE c1 x4 hL
  generalize hz9 : l.getD k 0 = z9 at *
  clear hz9
  go_enter Try.func28, Try.ntmps28
  go_upto_region 12 with fail
  refine wp_region_held_drew (S := fun V => Chg L w V) (by kernel_rfl) ((Chg.refl L w).drew) (fun _ => ?_)
  refine takeH 0 133 (v := (.pointer (some ⟨p, 0, none⟩))) rfl rfl (by kernel_rfl) (by kernel_rfl) (by kernel_rfl) (fun _ _ _ h => h) (by rfl) ?_ (by assumption) ?_
  · intro w hSw
    obtain ⟨y0, y1, y2⟩ := HF.out w hSw
    go_simp
  try simp only [Act.put, List.setIfInBounds_toArray, List.set_cons_zero, List.set_cons_succ]
  refine takeH 1 134 (v := (.pointer (some ⟨cb, 0, none⟩))) rfl rfl (by kernel_rfl) (by kernel_rfl) (by kernel_rfl) (fun _ _ _ h => h) (by rfl) ?_ (by assumption) ?_
  · intro w hSw
    obtain ⟨y0, y1, y2⟩ := HF.out w hSw
    go_simp
  try simp only [Act.put, List.setIfInBounds_toArray, List.set_cons_zero, List.set_cons_succ]
  refine takeH 2 135 (v := (.pointer (some ⟨g, o, none⟩))) rfl rfl (by kernel_rfl) (by kernel_rfl) (by kernel_rfl) (fun _ _ _ h => h) (by rfl) ?_ (by assumption) ?_
  · intro w hSw
    obtain ⟨y0, y1, y2⟩ := HF.out w hSw
    go_simp
  try simp only [Act.put, List.setIfInBounds_toArray, List.set_cons_zero, List.set_cons_succ]
  refine takeH 4 137 (v := (.pointer (some ⟨cb, 0, none⟩))) rfl rfl (by kernel_rfl) (by kernel_rfl) (by kernel_rfl) (fun _ _ _ h => h) (by rfl) ?_ (by assumption) ?_
  · intro w hSw
    obtain ⟨y0, y1, y2⟩ := HF.out w hSw
    go_simp
  try simp only [Act.put, List.setIfInBounds_toArray, List.set_cons_zero, List.set_cons_succ]
  refine takeH 5 138 (v := (.pointer (some ⟨cb, 0, none⟩))) rfl rfl (by kernel_rfl) (by kernel_rfl) (by kernel_rfl) (fun _ _ _ h => h) (by rfl) ?_ (by assumption) ?_
  · intro w hSw
    obtain ⟨y0, y1, y2⟩ := HF.out w hSw
    go_simp
  try simp only [Act.put, List.setIfInBounds_toArray, List.set_cons_zero, List.set_cons_succ]
  refine takeH 6 139 (v := (.pointer (some ⟨cb, 1, none⟩))) rfl rfl (by kernel_rfl) (by kernel_rfl) (by kernel_rfl) (fun _ _ _ h => h) (by rfl) ?_ (by assumption) ?_
  · intro w hSw
    obtain ⟨y0, y1, y2⟩ := HF.out w hSw
    go_simp
  try simp only [Act.put, List.setIfInBounds_toArray, List.set_cons_zero, List.set_cons_succ]
  refine takeH 7 140 (v := (.slice (some ⟨rb, 0, none⟩) n n)) rfl rfl (by kernel_rfl) (by kernel_rfl) (by kernel_rfl) (fun _ _ _ h => h) (by rfl) ?_ (by assumption) ?_
  · intro w hSw
    obtain ⟨y0, y1, y2⟩ := HF.out w hSw
    go_simp
  try simp only [Act.put, List.setIfInBounds_toArray, List.set_cons_zero, List.set_cons_succ]
  refine takeH 8 141 (v := (.pointer (some ⟨g, o, none⟩))) rfl rfl (by kernel_rfl) (by kernel_rfl) (by kernel_rfl) (fun _ _ _ h => h) (by rfl) ?_ (by assumption) ?_
  · intro w hSw
    obtain ⟨y0, y1, y2⟩ := HF.out w hSw
    go_simp
  try simp only [Act.put, List.setIfInBounds_toArray, List.set_cons_zero, List.set_cons_succ]
  refine takeH 9 142 (v := (.pointer (some ⟨g, o, none⟩))) rfl rfl (by kernel_rfl) (by kernel_rfl) (by kernel_rfl) (fun _ _ _ h => h) (by rfl) ?_ (by assumption) ?_
  · intro w hSw
    obtain ⟨y0, y1, y2⟩ := HF.out w hSw
    go_simp
  try simp only [Act.put, List.setIfInBounds_toArray, List.set_cons_zero, List.set_cons_succ]
  refine takeH 10 143 (v := (.pointer (some ⟨g, o + 4, none⟩))) rfl rfl (by kernel_rfl) (by kernel_rfl) (by kernel_rfl) (fun _ _ _ h => h) (by rfl) ?_ (by assumption) ?_
  · intro w hSw
    obtain ⟨y0, y1, y2⟩ := HF.out w hSw
    go_simp
  try simp only [Act.put, List.setIfInBounds_toArray, List.set_cons_zero, List.set_cons_succ]
  refine takeH 11 144 (v := (.int .i64 (k : Int))) rfl rfl (by kernel_rfl) (by kernel_rfl) (by kernel_rfl) (fun _ _ _ h => h) (by rfl) ?_ (by assumption) ?_
  · intro w hSw
    obtain ⟨y0, y1, y2⟩ := HF.out w hSw
    go_simp
  try simp only [Act.put, List.setIfInBounds_toArray, List.set_cons_zero, List.set_cons_succ]
  refine takeH 12 145 (v := (.pointer (some ⟨rb, k, none⟩))) rfl rfl (by kernel_rfl) (by kernel_rfl) (by kernel_rfl) (fun _ _ _ h => h) (by rfl) ?_ (by assumption) ?_
  · intro w hSw
    obtain ⟨y0, y1, y2⟩ := HF.out w hSw
    go_simp
  try simp only [Act.put, List.setIfInBounds_toArray, List.set_cons_zero, List.set_cons_succ]
  refine takeH 13 146 (v := (.int .i32 z9)) rfl rfl (by kernel_rfl) (by kernel_rfl) (by kernel_rfl) (fun _ _ _ h => h) (by rfl) ?_ (by assumption) ?_
  · intro w hSw
    obtain ⟨y0, y1, y2⟩ := HF.out w hSw
    go_simp
  try simp only [Act.put, List.setIfInBounds_toArray, List.set_cons_zero, List.set_cons_succ]
  refine wpAnyH_ready (rs := [3]) (by kernel_rfl) (by simp) ?_
  refine AllReadyH.cons rfl (fun K hK => ?_) AllReadyH.nil
  go_simp
  go_at_call 41
  (with_reducible refine (HE.out).mono ?_)
  rintro e w2 ⟨he, d, hd⟩
  unfold Ends at he
  subst he
  subst hd
  exact ⟨rfl, rfl, by rw [HLL.out]; exact HR.out d⟩
set_option maxHeartbeats 6400000 in
theorem do_4no (w : World) (p cb rb g o n k j i : Nat) (l : List Int) (op : Int) (x0 : w.cell? ⟨g, o, none⟩ = some (.int .i64 4)) (x2 : w.cell? ⟨g, o + 2, none⟩ = some (.int .i64 (k : Int))) (hk : k < n) (x3 : w.cell? ⟨g, o + 3, none⟩ = some (.int .i64 (j : Int))) (hj : j < n) (x4 : w.cell? ⟨g, o + 4, none⟩ = some (.int .i64 (i : Int))) (hi : i < n) (x1 : w.cell? ⟨g, o + 1, none⟩ = some (.int .i64 op)) (c1 : w.cell? ⟨cb, 1, none⟩ = some (.slice (some ⟨rb, 0, none⟩) n n)) (hr : RegAt w rb l) (hl : l.length = n) (hn : n ≤ 100000)
    (hop : (WordBins.binV op (l.getD j 0) (l.getD i 0)).2 = false) :
    Calls Try.prog 28 #[.pointer (some ⟨p, 0, none⟩), .pointer (some ⟨cb, 0, none⟩), .pointer (some ⟨g, o, none⟩)] w fun e w' => Ends 2 e ∧ Chg [] w w' := by
  have hk0 : (0 : Int) ≤ (k : Int) := by omega
  have hkn : (k : Int) < (n : Int) := by omega
  have hn2 : (n : Int) ≤ 100000 := by omega
  have zj0 : (0 : Int) ≤ (j : Int) := by omega
  have zjn : (j : Int) < (n : Int) := by omega
  have zi0 : (0 : Int) ≤ (i : Int) := by omega
  have zin : (i : Int) < (n : Int) := by omega
  obtain ⟨L, hL⟩ : ∃ L, ([] : List Nat) = L := ⟨_, rfl⟩
  have HB : Hid (∀ W : World, Calls Try.prog 40 #[.int .i64 op, .int .i32 (l.getD j 0), .int .i32 (l.getD i 0)] W fun e w' => e = .returned (.tuple #[.int .i32 (WordBins.binV op (l.getD j 0) (l.getD i 0)).1, .bool false]) ∧ W = w') := Lib.hid (fun W => by have h := WordBins.bin_any op (l.getD j 0) (l.getD i 0) W; rw [hop] at h; exact h)
  have HF : Hid (∀ V, Chg L w V → V.cell? ⟨cb, 1, none⟩ = some (.slice (some ⟨rb, 0, none⟩) n n) ∧ V.cell? ⟨g, o + 1, none⟩ = some (.int .i64 op) ∧ V.cell? ⟨g, o + 2, none⟩ = some (.int .i64 (k : Int)) ∧ V.cell? ⟨g, o + 3, none⟩ = some (.int .i64 (j : Int)) ∧ V.cell? ⟨g, o + 4, none⟩ = some (.int .i64 (i : Int)) ∧ V.cell? ⟨rb, j, none⟩ = some (.int .i32 (l.getD j 0)) ∧ V.cell? ⟨rb, i, none⟩ = some (.int .i32 (l.getD i 0))) := Lib.hid (fun V hV => by
    subst hL
    exact ⟨hV.read cb 1 (by simp) c1, hV.read g (o + 1) (by simp) x1, hV.read g (o + 2) (by simp) x2, hV.read g (o + 3) (by simp) x3, hV.read g (o + 4) (by simp) x4, hV.read rb j (by simp) (hr.cell j (by omega)), hV.read rb i (by simp) (hr.cell i (by omega))⟩)
  have HR : Hid (Chg L w w.drew) := Lib.hid ((Chg.refl L w).drew)
  have HLL := Lib.hid hL
  clear hr hl hop c1 x1 x2 x3 x4 hL
  generalize (WordBins.binV op (l.getD j 0) (l.getD i 0)).1 = vv at *
  generalize hva : l.getD j 0 = va at *
  generalize hvb : l.getD i 0 = vb at *
  clear hva hvb
  go_enter Try.func28, Try.ntmps28
  go_upto_region 8 with fail
  refine wp_region_held_drew (S := fun V => Chg L w V) (by kernel_rfl) ((Chg.refl L w).drew) (fun _ => ?_)
  refine takeH 0 77 (v := (.pointer (some ⟨cb, 0, none⟩))) rfl rfl (by kernel_rfl) (by kernel_rfl) (by kernel_rfl) (fun _ _ _ h => h) (by rfl) ?_ (by assumption) ?_
  · intro w hSw
    obtain ⟨y0, y1, y2, y3, y4, y5, y6⟩ := HF.out w hSw
    go_simp
  try simp only [Act.put, List.setIfInBounds_toArray, List.set_cons_zero, List.set_cons_succ]
  refine takeH 1 78 (v := (.pointer (some ⟨cb, 0, none⟩))) rfl rfl (by kernel_rfl) (by kernel_rfl) (by kernel_rfl) (fun _ _ _ h => h) (by rfl) ?_ (by assumption) ?_
  · intro w hSw
    obtain ⟨y0, y1, y2, y3, y4, y5, y6⟩ := HF.out w hSw
    go_simp
  try simp only [Act.put, List.setIfInBounds_toArray, List.set_cons_zero, List.set_cons_succ]
  refine takeH 2 79 (v := (.pointer (some ⟨cb, 1, none⟩))) rfl rfl (by kernel_rfl) (by kernel_rfl) (by kernel_rfl) (fun _ _ _ h => h) (by rfl) ?_ (by assumption) ?_
  · intro w hSw
    obtain ⟨y0, y1, y2, y3, y4, y5, y6⟩ := HF.out w hSw
    go_simp
  try simp only [Act.put, List.setIfInBounds_toArray, List.set_cons_zero, List.set_cons_succ]
  refine takeH 3 80 (v := (.slice (some ⟨rb, 0, none⟩) n n)) rfl rfl (by kernel_rfl) (by kernel_rfl) (by kernel_rfl) (fun _ _ _ h => h) (by rfl) ?_ (by assumption) ?_
  · intro w hSw
    obtain ⟨y0, y1, y2, y3, y4, y5, y6⟩ := HF.out w hSw
    go_simp
  try simp only [Act.put, List.setIfInBounds_toArray, List.set_cons_zero, List.set_cons_succ]
  refine takeH 4 81 (v := (.pointer (some ⟨g, o, none⟩))) rfl rfl (by kernel_rfl) (by kernel_rfl) (by kernel_rfl) (fun _ _ _ h => h) (by rfl) ?_ (by assumption) ?_
  · intro w hSw
    obtain ⟨y0, y1, y2, y3, y4, y5, y6⟩ := HF.out w hSw
    go_simp
  try simp only [Act.put, List.setIfInBounds_toArray, List.set_cons_zero, List.set_cons_succ]
  refine takeH 5 82 (v := (.pointer (some ⟨g, o, none⟩))) rfl rfl (by kernel_rfl) (by kernel_rfl) (by kernel_rfl) (fun _ _ _ h => h) (by rfl) ?_ (by assumption) ?_
  · intro w hSw
    obtain ⟨y0, y1, y2, y3, y4, y5, y6⟩ := HF.out w hSw
    go_simp
  try simp only [Act.put, List.setIfInBounds_toArray, List.set_cons_zero, List.set_cons_succ]
  refine takeH 6 83 (v := (.pointer (some ⟨g, o + 2, none⟩))) rfl rfl (by kernel_rfl) (by kernel_rfl) (by kernel_rfl) (fun _ _ _ h => h) (by rfl) ?_ (by assumption) ?_
  · intro w hSw
    obtain ⟨y0, y1, y2, y3, y4, y5, y6⟩ := HF.out w hSw
    go_simp
  try simp only [Act.put, List.setIfInBounds_toArray, List.set_cons_zero, List.set_cons_succ]
  refine takeH 7 84 (v := (.int .i64 (k : Int))) rfl rfl (by kernel_rfl) (by kernel_rfl) (by kernel_rfl) (fun _ _ _ h => h) (by rfl) ?_ (by assumption) ?_
  · intro w hSw
    obtain ⟨y0, y1, y2, y3, y4, y5, y6⟩ := HF.out w hSw
    go_simp
  try simp only [Act.put, List.setIfInBounds_toArray, List.set_cons_zero, List.set_cons_succ]
  refine takeH 8 85 (v := (.pointer (some ⟨g, o, none⟩))) rfl rfl (by kernel_rfl) (by kernel_rfl) (by kernel_rfl) (fun _ _ _ h => h) (by rfl) ?_ (by assumption) ?_
  · intro w hSw
    obtain ⟨y0, y1, y2, y3, y4, y5, y6⟩ := HF.out w hSw
    go_simp
  try simp only [Act.put, List.setIfInBounds_toArray, List.set_cons_zero, List.set_cons_succ]
  refine takeH 9 86 (v := (.pointer (some ⟨g, o, none⟩))) rfl rfl (by kernel_rfl) (by kernel_rfl) (by kernel_rfl) (fun _ _ _ h => h) (by rfl) ?_ (by assumption) ?_
  · intro w hSw
    obtain ⟨y0, y1, y2, y3, y4, y5, y6⟩ := HF.out w hSw
    go_simp
  try simp only [Act.put, List.setIfInBounds_toArray, List.set_cons_zero, List.set_cons_succ]
  refine takeH 10 87 (v := (.pointer (some ⟨g, o + 1, none⟩))) rfl rfl (by kernel_rfl) (by kernel_rfl) (by kernel_rfl) (fun _ _ _ h => h) (by rfl) ?_ (by assumption) ?_
  · intro w hSw
    obtain ⟨y0, y1, y2, y3, y4, y5, y6⟩ := HF.out w hSw
    go_simp
  try simp only [Act.put, List.setIfInBounds_toArray, List.set_cons_zero, List.set_cons_succ]
  refine takeH 11 88 (v := (.int .i64 op)) rfl rfl (by kernel_rfl) (by kernel_rfl) (by kernel_rfl) (fun _ _ _ h => h) (by rfl) ?_ (by assumption) ?_
  · intro w hSw
    obtain ⟨y0, y1, y2, y3, y4, y5, y6⟩ := HF.out w hSw
    go_simp
  try simp only [Act.put, List.setIfInBounds_toArray, List.set_cons_zero, List.set_cons_succ]
  refine takeH 12 89 (v := (.pointer (some ⟨cb, 0, none⟩))) rfl rfl (by kernel_rfl) (by kernel_rfl) (by kernel_rfl) (fun _ _ _ h => h) (by rfl) ?_ (by assumption) ?_
  · intro w hSw
    obtain ⟨y0, y1, y2, y3, y4, y5, y6⟩ := HF.out w hSw
    go_simp
  try simp only [Act.put, List.setIfInBounds_toArray, List.set_cons_zero, List.set_cons_succ]
  refine takeH 13 90 (v := (.pointer (some ⟨cb, 0, none⟩))) rfl rfl (by kernel_rfl) (by kernel_rfl) (by kernel_rfl) (fun _ _ _ h => h) (by rfl) ?_ (by assumption) ?_
  · intro w hSw
    obtain ⟨y0, y1, y2, y3, y4, y5, y6⟩ := HF.out w hSw
    go_simp
  try simp only [Act.put, List.setIfInBounds_toArray, List.set_cons_zero, List.set_cons_succ]
  refine takeH 14 91 (v := (.pointer (some ⟨cb, 1, none⟩))) rfl rfl (by kernel_rfl) (by kernel_rfl) (by kernel_rfl) (fun _ _ _ h => h) (by rfl) ?_ (by assumption) ?_
  · intro w hSw
    obtain ⟨y0, y1, y2, y3, y4, y5, y6⟩ := HF.out w hSw
    go_simp
  try simp only [Act.put, List.setIfInBounds_toArray, List.set_cons_zero, List.set_cons_succ]
  refine takeH 15 92 (v := (.slice (some ⟨rb, 0, none⟩) n n)) rfl rfl (by kernel_rfl) (by kernel_rfl) (by kernel_rfl) (fun _ _ _ h => h) (by rfl) ?_ (by assumption) ?_
  · intro w hSw
    obtain ⟨y0, y1, y2, y3, y4, y5, y6⟩ := HF.out w hSw
    go_simp
  try simp only [Act.put, List.setIfInBounds_toArray, List.set_cons_zero, List.set_cons_succ]
  refine takeH 16 93 (v := (.pointer (some ⟨g, o, none⟩))) rfl rfl (by kernel_rfl) (by kernel_rfl) (by kernel_rfl) (fun _ _ _ h => h) (by rfl) ?_ (by assumption) ?_
  · intro w hSw
    obtain ⟨y0, y1, y2, y3, y4, y5, y6⟩ := HF.out w hSw
    go_simp
  try simp only [Act.put, List.setIfInBounds_toArray, List.set_cons_zero, List.set_cons_succ]
  refine takeH 17 94 (v := (.pointer (some ⟨g, o, none⟩))) rfl rfl (by kernel_rfl) (by kernel_rfl) (by kernel_rfl) (fun _ _ _ h => h) (by rfl) ?_ (by assumption) ?_
  · intro w hSw
    obtain ⟨y0, y1, y2, y3, y4, y5, y6⟩ := HF.out w hSw
    go_simp
  try simp only [Act.put, List.setIfInBounds_toArray, List.set_cons_zero, List.set_cons_succ]
  refine takeH 18 95 (v := (.pointer (some ⟨g, o + 3, none⟩))) rfl rfl (by kernel_rfl) (by kernel_rfl) (by kernel_rfl) (fun _ _ _ h => h) (by rfl) ?_ (by assumption) ?_
  · intro w hSw
    obtain ⟨y0, y1, y2, y3, y4, y5, y6⟩ := HF.out w hSw
    go_simp
  try simp only [Act.put, List.setIfInBounds_toArray, List.set_cons_zero, List.set_cons_succ]
  refine takeH 19 96 (v := (.int .i64 (j : Int))) rfl rfl (by kernel_rfl) (by kernel_rfl) (by kernel_rfl) (fun _ _ _ h => h) (by rfl) ?_ (by assumption) ?_
  · intro w hSw
    obtain ⟨y0, y1, y2, y3, y4, y5, y6⟩ := HF.out w hSw
    go_simp
  try simp only [Act.put, List.setIfInBounds_toArray, List.set_cons_zero, List.set_cons_succ]
  refine takeH 20 97 (v := (.pointer (some ⟨rb, j, none⟩))) rfl rfl (by kernel_rfl) (by kernel_rfl) (by kernel_rfl) (fun _ _ _ h => h) (by rfl) ?_ (by assumption) ?_
  · intro w hSw
    obtain ⟨y0, y1, y2, y3, y4, y5, y6⟩ := HF.out w hSw
    go_simp
  try simp only [Act.put, List.setIfInBounds_toArray, List.set_cons_zero, List.set_cons_succ]
  refine takeH 21 98 (v := (.int .i32 va)) rfl rfl (by kernel_rfl) (by kernel_rfl) (by kernel_rfl) (fun _ _ _ h => h) (by rfl) ?_ (by assumption) ?_
  · intro w hSw
    obtain ⟨y0, y1, y2, y3, y4, y5, y6⟩ := HF.out w hSw
    go_simp
  try simp only [Act.put, List.setIfInBounds_toArray, List.set_cons_zero, List.set_cons_succ]
  refine takeH 22 99 (v := (.pointer (some ⟨cb, 0, none⟩))) rfl rfl (by kernel_rfl) (by kernel_rfl) (by kernel_rfl) (fun _ _ _ h => h) (by rfl) ?_ (by assumption) ?_
  · intro w hSw
    obtain ⟨y0, y1, y2, y3, y4, y5, y6⟩ := HF.out w hSw
    go_simp
  try simp only [Act.put, List.setIfInBounds_toArray, List.set_cons_zero, List.set_cons_succ]
  refine takeH 23 100 (v := (.pointer (some ⟨cb, 0, none⟩))) rfl rfl (by kernel_rfl) (by kernel_rfl) (by kernel_rfl) (fun _ _ _ h => h) (by rfl) ?_ (by assumption) ?_
  · intro w hSw
    obtain ⟨y0, y1, y2, y3, y4, y5, y6⟩ := HF.out w hSw
    go_simp
  try simp only [Act.put, List.setIfInBounds_toArray, List.set_cons_zero, List.set_cons_succ]
  refine takeH 24 101 (v := (.pointer (some ⟨cb, 1, none⟩))) rfl rfl (by kernel_rfl) (by kernel_rfl) (by kernel_rfl) (fun _ _ _ h => h) (by rfl) ?_ (by assumption) ?_
  · intro w hSw
    obtain ⟨y0, y1, y2, y3, y4, y5, y6⟩ := HF.out w hSw
    go_simp
  try simp only [Act.put, List.setIfInBounds_toArray, List.set_cons_zero, List.set_cons_succ]
  refine takeH 25 102 (v := (.slice (some ⟨rb, 0, none⟩) n n)) rfl rfl (by kernel_rfl) (by kernel_rfl) (by kernel_rfl) (fun _ _ _ h => h) (by rfl) ?_ (by assumption) ?_
  · intro w hSw
    obtain ⟨y0, y1, y2, y3, y4, y5, y6⟩ := HF.out w hSw
    go_simp
  try simp only [Act.put, List.setIfInBounds_toArray, List.set_cons_zero, List.set_cons_succ]
  refine takeH 26 103 (v := (.pointer (some ⟨g, o, none⟩))) rfl rfl (by kernel_rfl) (by kernel_rfl) (by kernel_rfl) (fun _ _ _ h => h) (by rfl) ?_ (by assumption) ?_
  · intro w hSw
    obtain ⟨y0, y1, y2, y3, y4, y5, y6⟩ := HF.out w hSw
    go_simp
  try simp only [Act.put, List.setIfInBounds_toArray, List.set_cons_zero, List.set_cons_succ]
  refine takeH 27 104 (v := (.pointer (some ⟨g, o, none⟩))) rfl rfl (by kernel_rfl) (by kernel_rfl) (by kernel_rfl) (fun _ _ _ h => h) (by rfl) ?_ (by assumption) ?_
  · intro w hSw
    obtain ⟨y0, y1, y2, y3, y4, y5, y6⟩ := HF.out w hSw
    go_simp
  try simp only [Act.put, List.setIfInBounds_toArray, List.set_cons_zero, List.set_cons_succ]
  refine takeH 28 105 (v := (.pointer (some ⟨g, o + 4, none⟩))) rfl rfl (by kernel_rfl) (by kernel_rfl) (by kernel_rfl) (fun _ _ _ h => h) (by rfl) ?_ (by assumption) ?_
  · intro w hSw
    obtain ⟨y0, y1, y2, y3, y4, y5, y6⟩ := HF.out w hSw
    go_simp
  try simp only [Act.put, List.setIfInBounds_toArray, List.set_cons_zero, List.set_cons_succ]
  refine takeH 29 106 (v := (.int .i64 (i : Int))) rfl rfl (by kernel_rfl) (by kernel_rfl) (by kernel_rfl) (fun _ _ _ h => h) (by rfl) ?_ (by assumption) ?_
  · intro w hSw
    obtain ⟨y0, y1, y2, y3, y4, y5, y6⟩ := HF.out w hSw
    go_simp
  try simp only [Act.put, List.setIfInBounds_toArray, List.set_cons_zero, List.set_cons_succ]
  refine takeH 30 107 (v := (.pointer (some ⟨rb, i, none⟩))) rfl rfl (by kernel_rfl) (by kernel_rfl) (by kernel_rfl) (fun _ _ _ h => h) (by rfl) ?_ (by assumption) ?_
  · intro w hSw
    obtain ⟨y0, y1, y2, y3, y4, y5, y6⟩ := HF.out w hSw
    go_simp
  try simp only [Act.put, List.setIfInBounds_toArray, List.set_cons_zero, List.set_cons_succ]
  refine takeH 31 108 (v := (.int .i32 vb)) rfl rfl (by kernel_rfl) (by kernel_rfl) (by kernel_rfl) (fun _ _ _ h => h) (by rfl) ?_ (by assumption) ?_
  · intro w hSw
    obtain ⟨y0, y1, y2, y3, y4, y5, y6⟩ := HF.out w hSw
    go_simp
  try simp only [Act.put, List.setIfInBounds_toArray, List.set_cons_zero, List.set_cons_succ]
  refine wpAnyH_ready (rs := [32]) (by kernel_rfl) (by simp) ?_
  refine AllReadyH.cons rfl (fun K hK => ?_) AllReadyH.nil
  go_simp
  go_at_call 40
  (with_reducible refine (HB.out _).mono ?_)
  rintro e w2 ⟨rfl, rfl⟩
  refine hK.out _ _ (by assumption) (fun _ => ?_)
  clear hK K
  try simp only [Act.put, List.setIfInBounds_toArray, List.set_cons_zero, List.set_cons_succ]
  refine takeH 33 110 (v := (.int .i32 vv)) rfl rfl (by kernel_rfl) (by kernel_rfl) (by kernel_rfl) (fun _ _ _ h => h) (by rfl) ?_ (by assumption) ?_
  · intro w hSw
    obtain ⟨y0, y1, y2, y3, y4, y5, y6⟩ := HF.out w hSw
    go_simp
  try simp only [Act.put, List.setIfInBounds_toArray, List.set_cons_zero, List.set_cons_succ]
  refine takeH 34 111 (v := (.bool false)) rfl rfl (by kernel_rfl) (by kernel_rfl) (by kernel_rfl) (fun _ _ _ h => h) (by rfl) ?_ (by assumption) ?_
  · intro w hSw
    obtain ⟨y0, y1, y2, y3, y4, y5, y6⟩ := HF.out w hSw
    go_simp
  try simp only [Act.put, List.setIfInBounds_toArray, List.set_cons_zero, List.set_cons_succ]
  refine wpAnyH_ready (rs := [35]) (by kernel_rfl) (by simp) ?_
  refine AllReadyH.cons rfl (fun K hK => ?_) AllReadyH.nil
  go_simp
  go_at_call 38
  (with_reducible refine (divided_no _ _).mono ?_)
  rintro e w2 ⟨he, rfl⟩
  unfold Ends at he
  subst he
  exact ⟨rfl, rfl, by rw [HLL.out]; exact HR.out⟩
end Go.Proofs.Ytcanjkjpdnbcnaa
namespace Go.Proofs.Ytcanjkjpdnbcnaa
open Go.RowKit
set_option linter.unusedVariables false
set_option linter.unusedSimpArgs false
set_option maxRecDepth 100000

/-- An append in a region that draws its order, its run given as an equation, the condition on the world kept. -/
theorem appendT_ready {P : Program} {md : Region.Mode} {ops : Array Oper} {Q : Exit → Act → World → Prop} {S : World → Prop} {fuel : Nat} {listed : Array Bool} {a : Act} {w : World} {i : Nat} {o : Oper} (ho : ops[i]? = some o) (hw : Region.wanted o (yielded ops a.tmps) = true)
    (s x : Operand) (t tn : TypeId) (hop : o.op = Op.call { callee := Callee.builtin Builtin.append, args := #[s, x], argTypes := #[t, tn] }) (vs vx : Value) (hs : a.eval s = vs) (hx : a.eval x = vx)
    (v' : Value) (w' : World) (hr : (Builtin.append_ #[t, tn] o.type #[vs, vx]).run P w = .ok v' w') (hS : S w') (h : wpAnyH P md ops Q S fuel (listed.setIfInBounds i true) (a.put o.dst v') w') : AllReadyH P md ops Q S fuel listed a w [i] := by
  refine AllReadyH.cons ho (fun K' hK => ?_) AllReadyH.nil
  rw [if_pos hw]
  exact Lib.wp_append_run w s x t tn hop vs vx hs hx v' w' hr (hK.out _ _ hS (fun _ => h))
theorem infoWord : (Try.prog.info? 21).map (fun i => (i.zero, i.size, i.bytes)) = some (some (.int .i32 0), 1, 4) := by kernel_rfl
/-- A word more at the end of a line of words. -/
theorem word_push (w : World) (A : Option Addr) (n c : Nat) (zs : List Int) (h : SLine 1 w A n c (cellsN zs)) (hn : n ≤ 100000) (v : Int) :
    ∃ A' c' w', (Builtin.append_ #[26, 26] 26 #[.slice A n c, .slice (some ⟨w.heap.size, 0, none⟩) 1 1]).run Try.prog (w.alloc (.cells #[.int .i32 v] 21)) = .ok (.slice A' (n + 1) c') w' ∧ SLine 1 w' A' (n + 1) c' (cellsN (zs ++ [v])) ∧ Chg (blk A) w w' ∧ (∀ k ∈ blk A', k ∈ blk A ∨ w.heap.size ≤ k) := by
  obtain ⟨A', c', w', h1, h2, h3, h4, _⟩ := push_line 1 w 26 21 26 _ 4 Try.underlying26 infoWord rfl (by decide) A n c _ h hn [.int .i32 v] rfl (fun u hu => by rw [List.mem_singleton] at hu; rw [hu]; rfl)
  exact ⟨A', c', w', h1, by unfold cellsN; rw [List.map_append]; exact h2, h3, h4⟩
set_option maxHeartbeats 3200000 in
theorem do_8 (w W2 : World) (p cb rb g o n k : Nat) (l : List Int) (z9 : Int)
    (x0 : w.cell? ⟨g, o, none⟩ = some (.int .i64 8)) (x2 : w.cell? ⟨g, o + 2, none⟩ = some (.int .i64 (k : Int))) (hk : k < n) (c1 : w.cell? ⟨cb, 1, none⟩ = some (.slice (some ⟨rb, 0, none⟩) n n)) (hr : RegAt w rb l) (hl : l.length = n) (hn : n ≤ 100000) (h1 : cb ≠ rb) (h2 : g ≠ rb) (h3 : cb ≠ p) (h4 : g ≠ p) (h5 : rb ≠ p)
    (hE : Calls Try.prog 43 #[.pointer (some ⟨p, 0, none⟩)] w.drew fun e w' => e = .returned (.int .i32 z9) ∧ w' = W2) (hC : Chg [p] w.drew W2) :
    Calls Try.prog 28 #[.pointer (some ⟨p, 0, none⟩), .pointer (some ⟨cb, 0, none⟩), .pointer (some ⟨g, o, none⟩)] w fun e w' => e = .returned (.tuple #[]) ∧ RegAt w' rb (l.set k z9) ∧ Chg [rb] W2 w' := by
  have hk0 : (0 : Int) ≤ (k : Int) := by omega
  have hkn : (k : Int) < (n : Int) := by omega
  have hn2 : (n : Int) ≤ 100000 := by omega
  obtain ⟨L, hL⟩ : ∃ L, [p, rb] = L := ⟨_, rfl⟩
  have HF : Hid (∀ V, Chg L w V → V.cell? ⟨cb, 1, none⟩ = some (.slice (some ⟨rb, 0, none⟩) n n) ∧ V.cell? ⟨g, o + 2, none⟩ = some (.int .i64 (k : Int))) := Lib.hid (fun V hV => by
    subst hL
    exact ⟨hV.read cb 1 (by simp [h1, h3]) c1, hV.read g (o + 2) (by simp [h2, h4]) x2⟩)
  have HE := Lib.hid hE
  have HR2 : Hid (RegAt W2 rb l) := Lib.hid ((show RegAt w.drew rb l from hr).chg hC (by simp [h5]))
  have HC2 : Hid (Chg L w W2) := Lib.hid ((((Chg.refl [p] w).drew).trans hC).weaken (fun k hk => .inl (by rw [← hL]; rw [List.mem_singleton] at hk; simp [hk])))
  have HRL := Lib.hid (show k < l.length by omega)
  have HLL := Lib.hid hL
  clear hr hl hE c1 x2 hL hC
  go_enter Try.func28, Try.ntmps28
  go_upto_region 16 with fail
  refine wp_region_held_drew (S := fun V => Chg L w V) (by kernel_rfl) ((Chg.refl L w).drew) (fun _ => ?_)
  refine takeH 0 168 (v := (.pointer (some ⟨cb, 0, none⟩))) rfl rfl (by kernel_rfl) (by kernel_rfl) (by kernel_rfl) (fun _ _ _ h => h) (by rfl) ?_ (by assumption) ?_
  · intro w hSw
    obtain ⟨y0, y1⟩ := HF.out w hSw
    go_simp
  try simp only [Act.put, List.setIfInBounds_toArray, List.set_cons_zero, List.set_cons_succ]
  refine takeH 1 169 (v := (.pointer (some ⟨cb, 0, none⟩))) rfl rfl (by kernel_rfl) (by kernel_rfl) (by kernel_rfl) (fun _ _ _ h => h) (by rfl) ?_ (by assumption) ?_
  · intro w hSw
    obtain ⟨y0, y1⟩ := HF.out w hSw
    go_simp
  try simp only [Act.put, List.setIfInBounds_toArray, List.set_cons_zero, List.set_cons_succ]
  refine takeH 2 170 (v := (.pointer (some ⟨cb, 1, none⟩))) rfl rfl (by kernel_rfl) (by kernel_rfl) (by kernel_rfl) (fun _ _ _ h => h) (by rfl) ?_ (by assumption) ?_
  · intro w hSw
    obtain ⟨y0, y1⟩ := HF.out w hSw
    go_simp
  try simp only [Act.put, List.setIfInBounds_toArray, List.set_cons_zero, List.set_cons_succ]
  refine takeH 3 171 (v := (.slice (some ⟨rb, 0, none⟩) n n)) rfl rfl (by kernel_rfl) (by kernel_rfl) (by kernel_rfl) (fun _ _ _ h => h) (by rfl) ?_ (by assumption) ?_
  · intro w hSw
    obtain ⟨y0, y1⟩ := HF.out w hSw
    go_simp
  try simp only [Act.put, List.setIfInBounds_toArray, List.set_cons_zero, List.set_cons_succ]
  refine takeH 4 172 (v := (.pointer (some ⟨g, o, none⟩))) rfl rfl (by kernel_rfl) (by kernel_rfl) (by kernel_rfl) (fun _ _ _ h => h) (by rfl) ?_ (by assumption) ?_
  · intro w hSw
    obtain ⟨y0, y1⟩ := HF.out w hSw
    go_simp
  try simp only [Act.put, List.setIfInBounds_toArray, List.set_cons_zero, List.set_cons_succ]
  refine takeH 5 173 (v := (.pointer (some ⟨g, o, none⟩))) rfl rfl (by kernel_rfl) (by kernel_rfl) (by kernel_rfl) (fun _ _ _ h => h) (by rfl) ?_ (by assumption) ?_
  · intro w hSw
    obtain ⟨y0, y1⟩ := HF.out w hSw
    go_simp
  try simp only [Act.put, List.setIfInBounds_toArray, List.set_cons_zero, List.set_cons_succ]
  refine takeH 6 174 (v := (.pointer (some ⟨g, o + 2, none⟩))) rfl rfl (by kernel_rfl) (by kernel_rfl) (by kernel_rfl) (fun _ _ _ h => h) (by rfl) ?_ (by assumption) ?_
  · intro w hSw
    obtain ⟨y0, y1⟩ := HF.out w hSw
    go_simp
  try simp only [Act.put, List.setIfInBounds_toArray, List.set_cons_zero, List.set_cons_succ]
  refine takeH 7 175 (v := (.int .i64 (k : Int))) rfl rfl (by kernel_rfl) (by kernel_rfl) (by kernel_rfl) (fun _ _ _ h => h) (by rfl) ?_ (by assumption) ?_
  · intro w hSw
    obtain ⟨y0, y1⟩ := HF.out w hSw
    go_simp
  try simp only [Act.put, List.setIfInBounds_toArray, List.set_cons_zero, List.set_cons_succ]
  refine takeH 8 176 (v := (.pointer (some ⟨p, 0, none⟩))) rfl rfl (by kernel_rfl) (by kernel_rfl) (by kernel_rfl) (fun _ _ _ h => h) (by rfl) ?_ (by assumption) ?_
  · intro w hSw
    obtain ⟨y0, y1⟩ := HF.out w hSw
    go_simp
  try simp only [Act.put, List.setIfInBounds_toArray, List.set_cons_zero, List.set_cons_succ]
  refine wpAnyH_ready (rs := [9]) (by kernel_rfl) (by simp) ?_
  refine AllReadyH.cons rfl (fun K hK => ?_) AllReadyH.nil
  go_simp
  go_at_call 43
  (with_reducible refine (HE.out).mono ?_)
  rintro e w2 ⟨rfl, rfl⟩
  refine hK.out _ _ HC2.out (fun _ => ?_)
  clear hK K
  try simp only [Act.put, List.setIfInBounds_toArray, List.set_cons_zero, List.set_cons_succ]
  refine takeH 10 178 (v := (.pointer (some ⟨rb, k, none⟩))) rfl rfl (by kernel_rfl) (by kernel_rfl) (by kernel_rfl) (fun _ _ _ h => h) (by rfl) ?_ HC2.out ?_
  · intro w hSw
    obtain ⟨y0, y1⟩ := HF.out w hSw
    go_simp
  try simp only [Act.put, List.setIfInBounds_toArray, List.set_cons_zero, List.set_cons_succ]
  refine wpAnyH_ready (rs := [11]) (by kernel_rfl) (by simp) ?_
  refine AllReadyH.cons rfl (fun K hK => ?_) AllReadyH.nil
  have r1 := HR2.out.cell k HRL.out
  have f1 := HR2.out.free k
  have HC3 : Hid (RegAt (w2.setCell ⟨rb, k, none⟩ (.int .i32 z9)) rb (l.set k z9) ∧ Chg L w (w2.setCell ⟨rb, k, none⟩ (.int .i32 z9)) ∧ Chg [rb] w2 (w2.setCell ⟨rb, k, none⟩ (.int .i32 z9))) := Lib.hid ⟨HR2.out.put k z9, HC2.out.setCell rb k _ (.inl (by rw [← HLL.out]; simp)), (Chg.refl _ w2).setCell rb k _ (.inl (by simp))⟩
  generalize l.getD k 0 = v0 at *
  go_simp
  refine hK.out _ _ HC3.out.2.1 (fun _ => ?_)
  clear hK K
  try simp only [Act.put, List.setIfInBounds_toArray, List.set_cons_zero, List.set_cons_succ]
  refine wpAnyH_done (by kernel_rfl) ?_ _
  go_wp2_with fail
  exact bodyPost_end (results_none rfl _ _ _) rfl ⟨rfl, HC3.out.1, HC3.out.2.2⟩
/-- What printing comes to: a word more behind the trace, the runner told where it lies. -/
def Printed (w : World) (p : Nat) (tA : Option Addr) (tn : Nat) (tr : List Int) (v : Int) (e : Ending) (w' : World) : Prop :=
  e = .returned (.tuple #[]) ∧ ∃ A' c' w2, SLine 1 w2 A' (tn + 1) c' (cellsN (tr ++ [v])) ∧ Chg (blk tA) w w2 ∧ (∀ k ∈ blk A', k ∈ blk tA ∨ w.heap.size ≤ k) ∧ w' = w2.setCell ⟨p, 7, none⟩ (.slice A' (tn + 1) c')
set_option maxHeartbeats 6400000 in
theorem do_9 (w : World) (p cb rb g o n j tn tc : Nat) (l tr : List Int) (tA : Option Addr)
    (x0 : w.cell? ⟨g, o, none⟩ = some (.int .i64 9)) (x3 : w.cell? ⟨g, o + 3, none⟩ = some (.int .i64 (j : Int))) (hj : j < n) (c1 : w.cell? ⟨cb, 1, none⟩ = some (.slice (some ⟨rb, 0, none⟩) n n)) (hr : RegAt w rb l) (hl : l.length = n) (hn : n ≤ 100000) (p7 : w.cell? ⟨p, 7, none⟩ = some (.slice tA tn tc)) (f7 : w.frozen? ⟨p, 7, none⟩ = false) (hT : SLine 1 w tA tn tc (cellsN tr)) (htn : tn ≤ 100000)
    (h3 : cb ≠ p) (h4 : g ≠ p) (h5 : rb ≠ p) (h6 : cb ∉ blk tA) (h7 : g ∉ blk tA) (h8 : rb ∉ blk tA) (h9 : p ∉ blk tA) :
    Calls Try.prog 28 #[.pointer (some ⟨p, 0, none⟩), .pointer (some ⟨cb, 0, none⟩), .pointer (some ⟨g, o, none⟩)] w fun e w' => Printed w p tA tn tr (l.getD j 0) e w' := by
  have hk0 : (0 : Int) ≤ (j : Int) := by omega
  have hkn : (j : Int) < (n : Int) := by omega
  have hn2 : (n : Int) ≤ 100000 := by omega
  obtain ⟨L, hL⟩ : ∃ L, p :: blk tA = L := ⟨_, rfl⟩
  have HF : Hid (∀ V, Chg L w V → V.cell? ⟨cb, 1, none⟩ = some (.slice (some ⟨rb, 0, none⟩) n n) ∧ V.cell? ⟨g, o + 3, none⟩ = some (.int .i64 (j : Int)) ∧ V.cell? ⟨rb, j, none⟩ = some (.int .i32 (l.getD j 0))) := Lib.hid (fun V hV => by
    subst hL
    exact ⟨hV.read cb 1 (by simp [h3, h6]) c1, hV.read g (o + 3) (by simp [h4, h7]) x3, hV.read rb j (by simp [h5, h8]) (hr.cell j (by omega))⟩)
  generalize hz9 : l.getD j 0 = z9 at *
  obtain ⟨A', c', w2, hr2, hl2, hc2, hf2⟩ := word_push w.drew tA tn tc tr hT.drew htn z9
  have q7 : w2.cell? ⟨p, 7, none⟩ = some (.slice tA tn tc) := hc2.read p 7 h9 p7
  have g7 : w2.frozen? ⟨p, 7, none⟩ = false := by
    rw [World.frozen?_of_block (w := w) (a := ⟨p, 7, none⟩) (hc2.same p (World.block_lt_of_cell? w _ p7) h9)]
    exact f7
  have HRUN := Lib.hid hr2
  have HC2 : Hid (Chg L w w2) := Lib.hid ((((Chg.refl (blk tA) w).drew).trans hc2).weaken (fun k hk => .inl (by rw [← hL]; simp [hk])))
  have HC3 : Hid (Chg L w (w2.setCell ⟨p, 7, none⟩ (.slice A' (tn + 1) c'))) := Lib.hid (HC2.out.setCell p 7 _ (.inl (by rw [← hL]; simp)))
  have HCA : Hid (Chg L w (w.alloc (.cells #[.int .i32 z9] 21)).drew) := Lib.hid (((Chg.refl L w).alloc _).drew)
  have HFIN := Lib.hid (show Printed w p tA tn tr z9 (.returned (.tuple #[])) (w2.setCell ⟨p, 7, none⟩ (.slice A' (tn + 1) c')) from ⟨rfl, A', c', w2, hl2, ((Chg.refl (blk tA) w).drew).trans hc2, hf2, rfl⟩)
  have k7 : ((w.alloc (.cells #[.int .i32 z9] 21)).drew).cell? ⟨p, 7, none⟩ = some (.slice tA tn tc) := ((Chg.refl [] w).alloc _).read p 7 (by simp) p7
  clear hr hl c1 x3 hL hr2 hl2 hc2 hf2 hz9 f7 hT
  go_enter Try.func28, Try.ntmps28
  go_upto_region 18 with fail
  refine wp_region_held_drew (S := fun V => Chg L w V) (by kernel_rfl) ((Chg.refl L w).drew) (fun _ => ?_)
  refine takeH 0 181 (v := (.pointer (some ⟨p, 0, none⟩))) rfl rfl (by kernel_rfl) (by kernel_rfl) (by kernel_rfl) (fun _ _ _ h => h) (by rfl) ?_ (by assumption) ?_
  · intro w hSw
    obtain ⟨y0, y1, y2⟩ := HF.out w hSw
    go_simp
  try simp only [Act.put, List.setIfInBounds_toArray, List.set_cons_zero, List.set_cons_succ]
  refine takeH 1 182 (v := (.pointer (some ⟨p, 0, none⟩))) rfl rfl (by kernel_rfl) (by kernel_rfl) (by kernel_rfl) (fun _ _ _ h => h) (by rfl) ?_ (by assumption) ?_
  · intro w hSw
    obtain ⟨y0, y1, y2⟩ := HF.out w hSw
    go_simp
  try simp only [Act.put, List.setIfInBounds_toArray, List.set_cons_zero, List.set_cons_succ]
  refine takeH 2 183 (v := (.pointer (some ⟨p, 0, none⟩))) rfl rfl (by kernel_rfl) (by kernel_rfl) (by kernel_rfl) (fun _ _ _ h => h) (by rfl) ?_ (by assumption) ?_
  · intro w hSw
    obtain ⟨y0, y1, y2⟩ := HF.out w hSw
    go_simp
  try simp only [Act.put, List.setIfInBounds_toArray, List.set_cons_zero, List.set_cons_succ]
  refine takeH 3 184 (v := (.pointer (some ⟨p, 5, none⟩))) rfl rfl (by kernel_rfl) (by kernel_rfl) (by kernel_rfl) (fun _ _ _ h => h) (by rfl) ?_ (by assumption) ?_
  · intro w hSw
    obtain ⟨y0, y1, y2⟩ := HF.out w hSw
    go_simp
  try simp only [Act.put, List.setIfInBounds_toArray, List.set_cons_zero, List.set_cons_succ]
  refine takeH 4 185 (v := (.pointer (some ⟨p, 7, none⟩))) rfl rfl (by kernel_rfl) (by kernel_rfl) (by kernel_rfl) (fun _ _ _ h => h) (by rfl) ?_ (by assumption) ?_
  · intro w hSw
    obtain ⟨y0, y1, y2⟩ := HF.out w hSw
    go_simp
  try simp only [Act.put, List.setIfInBounds_toArray, List.set_cons_zero, List.set_cons_succ]
  refine takeH 6 187 (v := (.pointer (some ⟨cb, 0, none⟩))) rfl rfl (by kernel_rfl) (by kernel_rfl) (by kernel_rfl) (fun _ _ _ h => h) (by rfl) ?_ (by assumption) ?_
  · intro w hSw
    obtain ⟨y0, y1, y2⟩ := HF.out w hSw
    go_simp
  try simp only [Act.put, List.setIfInBounds_toArray, List.set_cons_zero, List.set_cons_succ]
  refine takeH 7 188 (v := (.pointer (some ⟨cb, 0, none⟩))) rfl rfl (by kernel_rfl) (by kernel_rfl) (by kernel_rfl) (fun _ _ _ h => h) (by rfl) ?_ (by assumption) ?_
  · intro w hSw
    obtain ⟨y0, y1, y2⟩ := HF.out w hSw
    go_simp
  try simp only [Act.put, List.setIfInBounds_toArray, List.set_cons_zero, List.set_cons_succ]
  refine takeH 8 189 (v := (.pointer (some ⟨cb, 1, none⟩))) rfl rfl (by kernel_rfl) (by kernel_rfl) (by kernel_rfl) (fun _ _ _ h => h) (by rfl) ?_ (by assumption) ?_
  · intro w hSw
    obtain ⟨y0, y1, y2⟩ := HF.out w hSw
    go_simp
  try simp only [Act.put, List.setIfInBounds_toArray, List.set_cons_zero, List.set_cons_succ]
  refine takeH 9 190 (v := (.slice (some ⟨rb, 0, none⟩) n n)) rfl rfl (by kernel_rfl) (by kernel_rfl) (by kernel_rfl) (fun _ _ _ h => h) (by rfl) ?_ (by assumption) ?_
  · intro w hSw
    obtain ⟨y0, y1, y2⟩ := HF.out w hSw
    go_simp
  try simp only [Act.put, List.setIfInBounds_toArray, List.set_cons_zero, List.set_cons_succ]
  refine takeH 10 191 (v := (.pointer (some ⟨g, o, none⟩))) rfl rfl (by kernel_rfl) (by kernel_rfl) (by kernel_rfl) (fun _ _ _ h => h) (by rfl) ?_ (by assumption) ?_
  · intro w hSw
    obtain ⟨y0, y1, y2⟩ := HF.out w hSw
    go_simp
  try simp only [Act.put, List.setIfInBounds_toArray, List.set_cons_zero, List.set_cons_succ]
  refine takeH 11 192 (v := (.pointer (some ⟨g, o, none⟩))) rfl rfl (by kernel_rfl) (by kernel_rfl) (by kernel_rfl) (fun _ _ _ h => h) (by rfl) ?_ (by assumption) ?_
  · intro w hSw
    obtain ⟨y0, y1, y2⟩ := HF.out w hSw
    go_simp
  try simp only [Act.put, List.setIfInBounds_toArray, List.set_cons_zero, List.set_cons_succ]
  refine takeH 12 193 (v := (.pointer (some ⟨g, o + 3, none⟩))) rfl rfl (by kernel_rfl) (by kernel_rfl) (by kernel_rfl) (fun _ _ _ h => h) (by rfl) ?_ (by assumption) ?_
  · intro w hSw
    obtain ⟨y0, y1, y2⟩ := HF.out w hSw
    go_simp
  try simp only [Act.put, List.setIfInBounds_toArray, List.set_cons_zero, List.set_cons_succ]
  refine takeH 13 194 (v := (.int .i64 (j : Int))) rfl rfl (by kernel_rfl) (by kernel_rfl) (by kernel_rfl) (fun _ _ _ h => h) (by rfl) ?_ (by assumption) ?_
  · intro w hSw
    obtain ⟨y0, y1, y2⟩ := HF.out w hSw
    go_simp
  try simp only [Act.put, List.setIfInBounds_toArray, List.set_cons_zero, List.set_cons_succ]
  refine takeH 14 195 (v := (.pointer (some ⟨rb, j, none⟩))) rfl rfl (by kernel_rfl) (by kernel_rfl) (by kernel_rfl) (fun _ _ _ h => h) (by rfl) ?_ (by assumption) ?_
  · intro w hSw
    obtain ⟨y0, y1, y2⟩ := HF.out w hSw
    go_simp
  try simp only [Act.put, List.setIfInBounds_toArray, List.set_cons_zero, List.set_cons_succ]
  refine takeH 15 196 (v := (.int .i32 z9)) rfl rfl (by kernel_rfl) (by kernel_rfl) (by kernel_rfl) (fun _ _ _ h => h) (by rfl) ?_ (by assumption) ?_
  · intro w hSw
    obtain ⟨y0, y1, y2⟩ := HF.out w hSw
    go_simp
  try simp only [Act.put, List.setIfInBounds_toArray, List.set_cons_zero, List.set_cons_succ]
  refine wpAnyH_ready (rs := [5, 16]) (by kernel_rfl) (by simp) ?_
  refine AllReadyH.cons rfl (fun K hK => ?_) (AllReadyH.cons rfl (fun K hK => ?_) AllReadyH.nil)
  · go_simp
    refine hK.out _ _ (by assumption) (fun _ => ?_)
    clear hK K
    try simp only [Act.put, List.setIfInBounds_toArray, List.set_cons_zero, List.set_cons_succ]
    refine wpAnyH_ready (rs := [16]) (by kernel_rfl) (by simp) ?_
    refine AllReadyH.cons rfl (fun K hK => ?_) AllReadyH.nil
    go_simp
    refine hK.out _ _ HCA.out (fun _ => ?_)
    clear hK K
    try simp only [Act.put, List.setIfInBounds_toArray, List.set_cons_zero, List.set_cons_succ]
    refine wpAnyH_ready (rs := [17]) (by kernel_rfl) (by simp) ?_
    refine appendT_ready rfl (by kernel_rfl) _ _ _ _ rfl _ _ rfl rfl _ _ HRUN.out HC2.out ?_
    try simp only [Act.put, List.setIfInBounds_toArray, List.set_cons_zero, List.set_cons_succ]
    refine takeH 18 199 (v := (.pointer (some ⟨p, 0, none⟩))) rfl rfl (by kernel_rfl) (by kernel_rfl) (by kernel_rfl) (fun _ _ _ h => h) (by rfl) ?_ HC2.out ?_
    · intro w hSw
      obtain ⟨y0, y1, y2⟩ := HF.out w hSw
      go_simp
    try simp only [Act.put, List.setIfInBounds_toArray, List.set_cons_zero, List.set_cons_succ]
    refine takeH 19 200 (v := (.pointer (some ⟨p, 5, none⟩))) rfl rfl (by kernel_rfl) (by kernel_rfl) (by kernel_rfl) (fun _ _ _ h => h) (by rfl) ?_ HC2.out ?_
    · intro w hSw
      obtain ⟨y0, y1, y2⟩ := HF.out w hSw
      go_simp
    try simp only [Act.put, List.setIfInBounds_toArray, List.set_cons_zero, List.set_cons_succ]
    refine takeH 20 201 (v := (.pointer (some ⟨p, 7, none⟩))) rfl rfl (by kernel_rfl) (by kernel_rfl) (by kernel_rfl) (fun _ _ _ h => h) (by rfl) ?_ HC2.out ?_
    · intro w hSw
      obtain ⟨y0, y1, y2⟩ := HF.out w hSw
      go_simp
    try simp only [Act.put, List.setIfInBounds_toArray, List.set_cons_zero, List.set_cons_succ]
    refine wpAnyH_ready (rs := [21]) (by kernel_rfl) (by simp) ?_
    refine AllReadyH.cons rfl (fun K hK => ?_) AllReadyH.nil
    go_simp
    refine hK.out _ _ HC3.out (fun _ => ?_)
    clear hK K
    try simp only [Act.put, List.setIfInBounds_toArray, List.set_cons_zero, List.set_cons_succ]
    refine wpAnyH_done (by kernel_rfl) ?_ _
    go_wp2_with fail
    exact bodyPost_end (results_none rfl _ _ _) rfl HFIN.out
  · go_simp
    refine hK.out _ _ HCA.out (fun _ => ?_)
    clear hK K
    try simp only [Act.put, List.setIfInBounds_toArray, List.set_cons_zero, List.set_cons_succ]
    refine wpAnyH_ready (rs := [5]) (by kernel_rfl) (by simp) ?_
    refine AllReadyH.cons rfl (fun K hK => ?_) AllReadyH.nil
    go_simp
    refine hK.out _ _ HCA.out (fun _ => ?_)
    clear hK K
    try simp only [Act.put, List.setIfInBounds_toArray, List.set_cons_zero, List.set_cons_succ]
    refine wpAnyH_ready (rs := [17]) (by kernel_rfl) (by simp) ?_
    refine appendT_ready rfl (by kernel_rfl) _ _ _ _ rfl _ _ rfl rfl _ _ HRUN.out HC2.out ?_
    try simp only [Act.put, List.setIfInBounds_toArray, List.set_cons_zero, List.set_cons_succ]
    refine takeH 18 199 (v := (.pointer (some ⟨p, 0, none⟩))) rfl rfl (by kernel_rfl) (by kernel_rfl) (by kernel_rfl) (fun _ _ _ h => h) (by rfl) ?_ HC2.out ?_
    · intro w hSw
      obtain ⟨y0, y1, y2⟩ := HF.out w hSw
      go_simp
    try simp only [Act.put, List.setIfInBounds_toArray, List.set_cons_zero, List.set_cons_succ]
    refine takeH 19 200 (v := (.pointer (some ⟨p, 5, none⟩))) rfl rfl (by kernel_rfl) (by kernel_rfl) (by kernel_rfl) (fun _ _ _ h => h) (by rfl) ?_ HC2.out ?_
    · intro w hSw
      obtain ⟨y0, y1, y2⟩ := HF.out w hSw
      go_simp
    try simp only [Act.put, List.setIfInBounds_toArray, List.set_cons_zero, List.set_cons_succ]
    refine takeH 20 201 (v := (.pointer (some ⟨p, 7, none⟩))) rfl rfl (by kernel_rfl) (by kernel_rfl) (by kernel_rfl) (fun _ _ _ h => h) (by rfl) ?_ HC2.out ?_
    · intro w hSw
      obtain ⟨y0, y1, y2⟩ := HF.out w hSw
      go_simp
    try simp only [Act.put, List.setIfInBounds_toArray, List.set_cons_zero, List.set_cons_succ]
    refine wpAnyH_ready (rs := [21]) (by kernel_rfl) (by simp) ?_
    refine AllReadyH.cons rfl (fun K hK => ?_) AllReadyH.nil
    go_simp
    refine hK.out _ _ HC3.out (fun _ => ?_)
    clear hK K
    try simp only [Act.put, List.setIfInBounds_toArray, List.set_cons_zero, List.set_cons_succ]
    refine wpAnyH_done (by kernel_rfl) ?_ _
    go_wp2_with fail
    exact bodyPost_end (results_none rfl _ _ _) rfl HFIN.out
end Go.Proofs.Ytcanjkjpdnbcnaa
namespace Go.Proofs.Ytcanjkjpdnbcnaa
open Go.RowKit
set_option linter.unusedVariables false
set_option linter.unusedSimpArgs false
set_option maxRecDepth 100000

theorem SLine.one_at {w : World} {A : Option Addr} {n c : Nat} {xs : List Int} (h : SLine 1 w A n c (cellsN xs)) : xs.length = n := by
  have := h.1
  simpa [cellsN] using this
set_option maxHeartbeats 6400000 in
theorem values_any (w : World) (cb rb n an : Nat) (ac : Nat) (aA : Option Addr) (l zs : List Int)
    (c1 : w.cell? ⟨cb, 1, none⟩ = some (.slice (some ⟨rb, 0, none⟩) n n)) (hr : RegAt w rb l) (hl : l.length = n) (hn : n ≤ 100000) (hA : RowK .i64 w aA an zs) (han : an ≤ 1000) (hin : ∀ a ∈ zs, 0 ≤ a ∧ a < (n : Int)) :
    Calls Try.prog 42 #[.pointer (some ⟨cb, 0, none⟩), .slice aA an ac] w fun e w' => (∃ A c, e = .returned (.slice A an c) ∧ SLine 1 w' A an c (cellsN (zs.map fun a => l.getD a.toNat 0)) ∧ ∀ k ∈ blk A, w.heap.size ≤ k) ∧ Below w.heap.size w w' := by
  have hal := hA.1
  have HR := Lib.hid hr
  have HA := Lib.hid hA
  have HIN := Lib.hid hin
  have HC := Lib.hid c1
  have hclt := World.block_lt_of_cell? w _ c1
  have HLT := Lib.hid (And.intro hclt hr.lt)
  have HAL := Lib.hid hal
  have HLL := Lib.hid hl
  clear hr hA hin c1 hclt hal hl
  go_enter Try.func42, Try.ntmps42
  go_wp2_with fail
  go_loopw [5, 10] (fun v i wr => ∃ (k : Nat) (A : Option Addr) (c : Nat), k ≤ an ∧ i = .int .i64 k ∧ v = .slice A k c ∧ Hid (SLine 1 wr A k c (cellsN ((zs.take k).map fun a => l.getD a.toNat 0)) ∧ (∀ b ∈ blk A, w.heap.size ≤ b) ∧ Below w.heap.size w wr)) (fun _ i _ => an - (intOf i).toNat)
  case atStart => exact ⟨0, none, 0, by omega, rfl, rfl, Lib.hid ⟨SLine.nil 1 _, fun k hk => (by cases hk), Below.refl _ _⟩⟩
  case round =>
    obtain ⟨k, A, c, hk, rfl, rfl, HI⟩ := hrel
    rcases Nat.lt_or_ge k an with hlt | hge
    · obtain ⟨x, hx⟩ : ∃ x, zs[k]? = some x := ⟨_, List.getElem?_eq_getElem (by have := HAL.out; omega)⟩
      have hxin := HIN.out x (List.mem_of_getElem? hx)
      obtain ⟨q, rfl⟩ : ∃ q : Nat, x = (q : Int) := ⟨x.toNat, by omega⟩
      obtain ⟨gb, off, rfl, hgb, hcs⟩ := (HA.out.below HI.out.2.2).2 (by omega)
      have d0 := hcs k hlt
      have e1 : zs.getD k 0 = (q : Int) := by rw [List.getD_eq_getElem?_getD, hx]; rfl
      rw [e1] at d0
      have y1 : wr.cell? ⟨cb, 1, none⟩ = some (.slice (some ⟨rb, 0, none⟩) n n) := (HI.out.2.2.cell (p := ⟨cb, 1, none⟩) HLT.out.1).trans HC.out
      have r1 : wr.cell? ⟨rb, q, none⟩ = some (.int .i32 (l.getD q 0)) := (HI.out.2.2.cell (p := ⟨rb, q, none⟩) HLT.out.2).trans (HR.out.cell q (by rw [HLL.out]; omega))
      have hq0 : (0 : Int) ≤ (q : Int) := by omega
      have hqn : (q : Int) < (n : Int) := hxin.2
      have hn2 : (n : Int) ≤ 100000 := by omega
      have hlt' : (k : Int) < (an : Int) := by omega
      have hk0 : (0 : Int) ≤ (k : Int) := by omega
      have hak : (an : Int) ≤ 1000 := by omega
      obtain ⟨A2, c2, w2, hr2, hl2, hc2, hf2⟩ := word_push wr A k c _ HI.out.1 (by omega) (l.getD q 0)
      have e2 : ((zs.take k).map fun a => l.getD a.toNat 0) ++ [l.getD q 0] = (zs.take (k + 1)).map fun a => l.getD a.toNat 0 := by
        rw [List.take_add_one, hx, List.map_append]
        rfl
      rw [e2] at hl2
      have HN : Hid (SLine 1 w2 A2 (k + 1) c2 (cellsN ((zs.take (k + 1)).map fun a => l.getD a.toNat 0)) ∧ (∀ b ∈ blk A2, w.heap.size ≤ b) ∧ Below w.heap.size w w2) := Lib.hid ⟨hl2, fun b hb => by
        rcases hf2 b hb with h | h
        · exact HI.out.2.1 b h
        · have := HI.out.2.2.size; omega, HI.out.2.2.trans (hc2.toBelow HI.out.2.1 HI.out.2.2.size)⟩
      have HRUN := Lib.hid hr2
      clear hgb hcs e1 hr2 hl2 hc2 hf2 e2 hx hxin
      generalize l.getD q 0 = z at *
      go_wp2_with (at_builtin; refine Lib.wpList_append_run _ rfl _ _ _ _ rfl _ _ rfl rfl _ _ HRUN.out ?_)
      go_roundw
      case rel => exact ⟨k + 1, A2, c2, by omega, by go_num, by first | rfl | go_num, HN⟩
      case measure => simp [intOf] <;> omega
    · obtain rfl : k = an := by omega
      have HN : Hid (SLine 1 wr A k c (cellsN (zs.map fun a => l.getD a.toNat 0)) ∧ (∀ b ∈ blk A, w.heap.size ≤ b) ∧ Below w.heap.size w wr) := Lib.hid (by
        have h := HI.out
        rw [List.take_of_length_le (by have := HAL.out; omega)] at h
        exact h)
      clear HI
      go_wp2_with fail
      go_ret
      exact ⟨⟨A, c, rfl, HN.out.1, HN.out.2.1⟩, HN.out.2.2⟩
theorem setCells_rowT (w : World) (g o : Nat) (t : TypeId) (cur vs : List Value) (hg : w.heap[g]? = some (.cells cur.toArray t (0, 0))) (hfit : o + vs.length ≤ cur.length) (h1 : ∀ v ∈ vs, v.oneCell' = true) :
    w.setCells g o vs = w.setRow g (cur.take o ++ vs ++ cur.drop (o + vs.length)).toArray := by
  have a1 := run_storeCells_at Try.prog g o t vs 0 cur.toArray w hg (by simpa using hfit) h1
  have a2 := run_storeCells_cells (P := Try.prog) g o vs 0 w (fun j hj => by
    rw [cell_of_row w g _ _ _ (0, 0) hg]
    simp
    omega) (fun j hj => frozen_of_row w g _ _ t hg) h1
  rw [a1] at a2
  simp only [Nat.add_zero] at a2
  injection a2 with _ e
  exact e.symm
theorem one_cellsN (l : List Int) : ∀ v ∈ cellsN l, v.oneCell' = true := by
  intro v hv
  obtain ⟨x, _, rfl⟩ := List.mem_map.1 hv
  rfl
theorem sizeWord : (Try.prog.info? 21).map (·.size) = some 1 := by kernel_rfl
/-- Arguments are copied into a call's registers. -/
theorem copy_args (w : World) (rb r m c : Nat) (A : Option Addr) (vs : List Int) (hA : SLine 1 w A m c (cellsN vs)) (hr : RegAt w rb (List.replicate r 0)) (hm : m ≤ r) :
    ∃ w3, (Builtin.copy_ #[26, 26] 3 #[.slice (some ⟨rb, 0, none⟩) r r, .slice A m c]).run Try.prog w = .ok (.int .i64 (m : Int)) w3 ∧ RegAt w3 rb (vs ++ List.replicate (r - m) 0) ∧ Chg [rb] w w3 := by
  have hl := hA.one_at
  by_cases h0 : m = 0
  · subst h0
    obtain rfl : vs = [] := List.length_eq_zero_iff.1 hl
    refine ⟨w, ?_, by simpa using hr, Chg.refl _ _⟩
    exact run_copy_none w _ _ _ 21 _ A r r 0 c Try.underlying26 sizeWord (by simp)
  · obtain ⟨g, off, rfl, hg, hc, _⟩ := hA.at (by omega)
    have hlc : (cellsN vs).length = m := by simp [cellsN, hl]
    have hlr : (cellsN (List.replicate r 0)).length = r := by simp [cellsN]
    have hrun := run_copy_row (P := Try.prog) w 26 26 3 21 rb 0 r r ⟨g, off, none⟩ m c _ 21 (cellsN vs) Try.underlying26 sizeWord hr (by rw [hlc]; show m = min m r; omega)
      (fun j v hj => by
        have h1 := (List.getElem?_eq_some_iff.1 hj).1
        have h2 := hc j (by omega)
        rw [hj] at h2
        have e : (⟨g, off, none⟩ : Addr).add j = ⟨g, off + j, none⟩ := by unfold Addr.add; split <;> simp_all
        rw [e]
        exact h2) (by rw [hlc]; simp [cellsN]; omega) (one_cellsN _)
    rw [hlc] at hrun
    have e := setCells_rowT w rb 0 21 (cellsN (List.replicate r 0)) (cellsN vs) hr (by omega) (one_cellsN _)
    have hrow := setRow_heap w rb (cellsN (List.replicate r 0)).toArray ((cellsN (List.replicate r 0)).take 0 ++ cellsN vs ++ (cellsN (List.replicate r 0)).drop (0 + m)).toArray 21 (0, 0) hr
    refine ⟨_, hrun, ?_, ?_⟩
    · refine Eq.trans hrow ?_
      congr 2
      simp [cellsN]
    · have := chg_cells w rb 0 (cellsN vs)
      rw [e, hlc] at this
      exact this
end Go.Proofs.Ytcanjkjpdnbcnaa
namespace Go.Proofs.Ytcanjkjpdnbcnaa
open Go.RowKit
set_option linter.unusedVariables false
set_option linter.unusedSimpArgs false
set_option maxRecDepth 100000

theorem enter_deep (w : World) (p kc : Nat) (d : Int) (x : ByteArray) (kA A : Option Addr) (m c : Nat) (p4 : w.cell? ⟨p, 4, none⟩ = some (.slice kA 32 kc)) :
    Calls Try.prog 19 #[.pointer (some ⟨p, 0, none⟩), .string x, .int .i64 d, .slice A m c] w fun e w' => Ends 4 e ∧ w = w' := by
  go_enter Try.func19, Try.ntmps19
  go_wp2_with fail
  exact ⟨rfl, rfl, rfl⟩
theorem zeroFnP (w : World) : (zeroValue 68).run Try.prog w = .ok (.pointer none) w := by kernel_rfl
theorem infoCallP : (Try.prog.info? 70).map (fun i => (i.zero, i.size, i.bytes)) = some (some (.pointer none), 1, 8) := by kernel_rfl
/-- What beginning a call comes to. -/
def Entered (w : World) (p : Nat) (kA : Option Addr) (kn : Nat) (ptrs : List Value) (g o : Nat) (d : Int) (r m : Nat) (vs : List Int) (e : Ending) (w' : World) : Prop :=
  e = .returned (.tuple #[]) ∧ ∃ kA' kc' w4, Chg (blk kA) w w4 ∧ RegAt w4 w.heap.size (vs ++ List.replicate (r - m) 0) ∧ ClAt w4 (w.heap.size + 1) ⟨some ⟨g, o, none⟩, some ⟨w.heap.size, 0, none⟩, r, r, 0, 0, d⟩ ∧
    SLine 1 w4 kA' (kn + 1) kc' (ptrs ++ [.pointer (some ⟨w.heap.size + 1, 0, none⟩)]) ∧ (∀ k ∈ blk kA', k ∈ blk kA ∨ w.heap.size + 2 ≤ k) ∧ w' = w4.setCell ⟨p, 4, none⟩ (.slice kA' (kn + 1) kc')
set_option maxHeartbeats 6400000 in
theorem enter_any (w : World) (p fm nf g o r kn kc m c : Nat) (d : Int) (x : ByteArray) (φ : ByteArray → Option Value) (kA A : Option Addr) (ptrs : List Value) (vs : List Int)
    (p0 : w.cell? ⟨p, 0, none⟩ = some (.map (some fm))) (p4 : w.cell? ⟨p, 4, none⟩ = some (.slice kA kn kc)) (f4 : w.frozen? ⟨p, 4, none⟩ = false)
    (hφ : MapAt w fm nf φ) (hx : x.size ≤ maxLen) (hv : φ x = some (.pointer (some ⟨g, o, none⟩))) (f2 : w.cell? ⟨g, o + 2, none⟩ = some (.int .i64 (r : Int))) (hr : r ≤ 4096) (hk : kn < 32)
    (hK : SLine 1 w kA kn kc ptrs) (hA : SLine 1 w A m c (cellsN vs)) (hm : m ≤ r) (h9 : p ∉ blk kA) :
    Calls Try.prog 19 #[.pointer (some ⟨p, 0, none⟩), .string x, .int .i64 d, .slice A m c] w (Entered w p kA kn ptrs g o d r m vs) := by
  have hlk := hφ.get 50 68 Try.underlying50 _ (zeroFnP w) x hx hv
  obtain ⟨W1, hW1⟩ : ∃ W1, w.alloc (.cells (cellsN (List.replicate r 0)).toArray 21) = W1 := ⟨_, rfl⟩
  obtain ⟨W2, hW2⟩ : ∃ W2, W1.alloc (.cells #[.pointer (some ⟨g, o, none⟩), .slice (some ⟨w.heap.size, 0, none⟩) r r, .int .i64 0, .int .i64 0, .int .i64 d] 72) = W2 := ⟨_, rfl⟩
  have hB1 : Below w.heap.size w W1 := by rw [← hW1]; exact (Below.refl _ w).alloc (Nat.le_refl _) _
  have hB2 : Below W1.heap.size W1 W2 := by rw [← hW2]; exact (Below.refl _ W1).alloc (Nat.le_refl _) _
  have hs1 : W1.heap.size = w.heap.size + 1 := by rw [← hW1]; simp
  have hs2 : W2.heap.size = w.heap.size + 2 := by rw [← hW2]; simp [hs1]
  have hB12 : Below w.heap.size w W2 := hB1.trans (hB2.mono (by omega))
  have hr1 : RegAt W2 w.heap.size (List.replicate r 0) := by
    have h : RegAt W1 w.heap.size (List.replicate r 0) := by rw [← hW1]; exact RegAt.new w _
    exact h.same (hB2.block _ (by omega))
  have hc1 : ClAt W2 (w.heap.size + 1) ⟨some ⟨g, o, none⟩, some ⟨w.heap.size, 0, none⟩, r, r, 0, 0, d⟩ := by
    rw [← hs1, ← hW2]
    exact heap_alloc_new W1 _
  obtain ⟨W3, hcp, hr3, hC3⟩ := copy_args W2 w.heap.size r m c A vs (hA.below hB12) hr1 hm
  have hc3 : ClAt W3 (w.heap.size + 1) ⟨some ⟨g, o, none⟩, some ⟨w.heap.size, 0, none⟩, r, r, 0, 0, d⟩ := (hC3.same _ (by omega) (by simp)).trans hc1
  have hs3 := hC3.size
  have hC03 : Chg [] w W3 := ((Chg.of_below (l := [w.heap.size]) hB12).trans hC3).weaken (fun k hk => .inr (by rw [List.mem_singleton] at hk; omega))
  have hplt := World.block_lt_of_cell? w _ p4
  have hK3 : SLine 1 W3 kA kn kc ptrs := hK.chg hC03 (fun k _ => by simp)
  obtain ⟨kA', kc', W4, hap, hl4, hC4, hf4, _⟩ := push_line 1 W3 52 70 52 _ 8 Try.underlying52 infoCallP rfl (by decide) kA kn kc ptrs hK3 (by omega) [.pointer (some ⟨w.heap.size + 1, 0, none⟩)] rfl (fun u hu => by rw [List.mem_singleton] at hu; rw [hu]; rfl)
  have hkl : ∀ k ∈ blk kA, k < w.heap.size := hK.lt
  have p43 : W3.cell? ⟨p, 4, none⟩ = some (.slice kA kn kc) := hC03.read p 4 (by simp) p4
  have p44 : W4.cell? ⟨p, 4, none⟩ = some (.slice kA kn kc) := hC4.read p 4 h9 p43
  have g44 : W4.frozen? ⟨p, 4, none⟩ = false := by
    rw [World.frozen?_of_block (w := W3) (a := ⟨p, 4, none⟩) (hC4.same p (by have := hC03.size; show p < _; exact Nat.lt_of_lt_of_le hplt this) h9), World.frozen?_of_block (w := w) (a := ⟨p, 4, none⟩) (hC03.same p hplt (by simp))]
    exact f4
  have HFIN : Hid (Entered w p kA kn ptrs g o d r m vs (.returned (.tuple #[])) (W4.setCell ⟨p, 4, none⟩ (.slice kA' (kn + 1) kc'))) := Lib.hid ⟨rfl, kA', kc', W4, (hC03.weaken (fun k hk => by cases hk)).trans hC4,
    hr3.same (hC4.same _ (by omega) (fun h => by have := hkl _ h; omega)), (hC4.same _ (by omega) (fun h => by have := hkl _ h; omega)).trans hc3, hl4, fun k hk => by
      rcases hf4 k hk with h | h
      · exact .inl h
      · exact .inr (by omega), rfl⟩
  have f21 : W1.cell? ⟨g, o + 2, none⟩ = some (.int .i64 (r : Int)) := (hB1.cell (p := ⟨g, o + 2, none⟩) (World.block_lt_of_cell? w _ f2)).trans f2
  have hc31 : W3.cell? ⟨w.heap.size + 1, 1, none⟩ = some (.slice (some ⟨w.heap.size, 0, none⟩) r r) := by
    unfold ClAt at hc3
    rw [cell_of_row _ _ 1 _ _ (0, 0) hc3]; rfl
  have hc21 : W2.cell? ⟨w.heap.size + 1, 1, none⟩ = some (.slice (some ⟨w.heap.size, 0, none⟩) r r) := by
    unfold ClAt at hc1
    rw [cell_of_row _ _ 1 _ _ (0, 0) hc1]; rfl
  have HAP := Lib.hid hap
  have hk' : ((kn : Int) == 32) = false := by simp; omega
  have hn32 : ¬ (kn : Int) = 32 := by omega
  obtain ⟨rb, hrb⟩ : ∃ rb, w.heap.size = rb := ⟨_, rfl⟩
  have hq1 : W1.heap.size = rb + 1 := by omega
  have HZ := Lib.hid (zeros_any r 4096 hr (by omega) w)
  have HP := Lib.hid (And.intro hrb hW1)
  rw [hrb] at hW2 hcp HAP hc31 hc21
  clear hφ hv hB1 hB2 hs1 hs2 hB12 hr1 hc1 hr3 hC3 hc3 hs3 hC03 hplt hK3 hl4 hC4 hf4 hkl hK hA f4 hap hr hk hm h9
  go_enter Try.func19, Try.ntmps19
  go_wp2_with fail
  refine HZ.out.mono ?_
  rintro e w1 ⟨rfl, rfl⟩
  rw [HP.out.1, HP.out.2]
  clear HZ hW1 hrb
  go_wp2_with (at_builtin; refine Lib.wpList_append_run _ rfl _ _ _ _ rfl _ _ rfl rfl _ _ HAP.out ?_)
  exact bodyPost_end (results_none rfl _ _ _) rfl HFIN.out
end Go.Proofs.Ytcanjkjpdnbcnaa
namespace Go.Proofs.Ytcanjkjpdnbcnaa
open Go.RowKit
set_option linter.unusedVariables false
set_option linter.unusedSimpArgs false
set_option maxRecDepth 100000

/-- What the instruction comes to that begins a call. -/
def Called7 (w : World) (p : Nat) (kA : Option Addr) (kn : Nat) (ptrs : List Value) (g o : Nat) (d : Int) (r m : Nat) (vs : List Int) (e : Ending) (w' : World) : Prop := ∃ w2, Below w.heap.size w w2 ∧ Entered w2 p kA kn ptrs g o d r m vs e w'
set_option maxHeartbeats 6400000 in
theorem do_7 (w : World) (p cb rb g o n an ac : Nat) (d : Int) (l zs : List Int) (nm : ByteArray) (aA : Option Addr)
    (x0 : w.cell? ⟨g, o, none⟩ = some (.int .i64 7)) (x6 : w.cell? ⟨g, o + 6, none⟩ = some (.string nm)) (x2 : w.cell? ⟨g, o + 2, none⟩ = some (.int .i64 d)) (x7 : w.cell? ⟨g, o + 7, none⟩ = some (.slice aA an ac)) (hA : RowK .i64 w aA an zs) (han : an ≤ 1000) (hin : ∀ a ∈ zs, 0 ≤ a ∧ a < (n : Int)) (c1 : w.cell? ⟨cb, 1, none⟩ = some (.slice (some ⟨rb, 0, none⟩) n n)) (hr : RegAt w rb l) (hl : l.length = n) (hn : n ≤ 100000)
    (fm nf g2 o2 r kn kc : Nat) (φ : ByteArray → Option Value) (kA : Option Addr) (ptrs : List Value)
    (p0 : w.cell? ⟨p, 0, none⟩ = some (.map (some fm))) (p4 : w.cell? ⟨p, 4, none⟩ = some (.slice kA kn kc)) (f4 : w.frozen? ⟨p, 4, none⟩ = false)
    (hφ : MapAt w fm nf φ) (hx : nm.size ≤ maxLen) (hv : φ nm = some (.pointer (some ⟨g2, o2, none⟩))) (f2 : w.cell? ⟨g2, o2 + 2, none⟩ = some (.int .i64 (r : Int))) (hrr : r ≤ 4096) (hk : kn < 32)
    (hK : SLine 1 w kA kn kc ptrs) (hm : an ≤ r) (h9 : p ∉ blk kA) (h3 : g ≠ p) (h6 : g ∉ blk kA) :
    Calls Try.prog 28 #[.pointer (some ⟨p, 0, none⟩), .pointer (some ⟨cb, 0, none⟩), .pointer (some ⟨g, o, none⟩)] w fun e w' => Called7 w p kA kn ptrs g2 o2 d r an (zs.map fun a => l.getD a.toNat 0) e w' := by
  obtain ⟨L, hL⟩ : ∃ L, p :: blk kA = L := ⟨_, rfl⟩
  have HF : Hid (∀ V, Chg L w V → V.cell? ⟨g, o + 6, none⟩ = some (.string nm) ∧ V.cell? ⟨g, o + 2, none⟩ = some (.int .i64 d) ∧ V.cell? ⟨g, o + 7, none⟩ = some (.slice aA an ac)) := Lib.hid (fun V hV => by
    subst hL
    exact ⟨hV.read g (o + 6) (by simp [h3, h6]) x6, hV.read g (o + 2) (by simp [h3, h6]) x2, hV.read g (o + 7) (by simp [h3, h6]) x7⟩)
  obtain ⟨vs, hvs⟩ : ∃ vs, (zs.map fun a => l.getD a.toNat 0) = vs := ⟨_, rfl⟩
  have HV := Lib.hid (values_any w.drew cb rb n an ac aA l zs c1 hr hl hn hA han hin)
  rw [hvs] at HV
  rw [hvs]
  have HE : Hid (∀ w2 A c, Below w.heap.size w w2 → SLine 1 w2 A an c (cellsN vs) → Calls Try.prog 19 #[.pointer (some ⟨p, 0, none⟩), .string nm, .int .i64 d, .slice A an c] w2 (Entered w2 p kA kn ptrs g2 o2 d r an vs)) := Lib.hid (fun w2 A c hb hl2 =>
    enter_any w2 p fm nf g2 o2 r kn kc an c d nm φ kA A ptrs vs ((hb.cell (p := ⟨p, 0, none⟩) (World.block_lt_of_cell? w _ p0)).trans p0) ((hb.cell (p := ⟨p, 4, none⟩) (World.block_lt_of_cell? w _ p4)).trans p4) ((hb.frozen (p := ⟨p, 4, none⟩) (World.block_lt_of_cell? w _ p4)).trans f4)
      (hφ.same (hb.block _ hφ.lt)) hx hv ((hb.cell (p := ⟨g2, o2 + 2, none⟩) (World.block_lt_of_cell? w _ f2)).trans f2) hrr hk (hK.below hb) hl2 hm h9)
  have HLL := Lib.hid hL
  clear hr hl c1 x2 x6 x7 hL hA hin hvs p4 p0 f4 hφ hv f2 hK hrr hk hm h9 hx
  go_enter Try.func28, Try.ntmps28
  go_upto_region 14 with fail
  refine wp_region_held_drew (S := fun V => Chg L w V) (by kernel_rfl) ((Chg.refl L w).drew) (fun _ => ?_)
  refine takeH 0 150 (v := (.pointer (some ⟨p, 0, none⟩))) rfl rfl (by kernel_rfl) (by kernel_rfl) (by kernel_rfl) (fun _ _ _ h => h) (by rfl) ?_ (by assumption) ?_
  · intro w hSw
    obtain ⟨y0, y1, y2⟩ := HF.out w hSw
    go_simp
  try simp only [Act.put, List.setIfInBounds_toArray, List.set_cons_zero, List.set_cons_succ]
  refine takeH 1 151 (v := (.pointer (some ⟨g, o, none⟩))) rfl rfl (by kernel_rfl) (by kernel_rfl) (by kernel_rfl) (fun _ _ _ h => h) (by rfl) ?_ (by assumption) ?_
  · intro w hSw
    obtain ⟨y0, y1, y2⟩ := HF.out w hSw
    go_simp
  try simp only [Act.put, List.setIfInBounds_toArray, List.set_cons_zero, List.set_cons_succ]
  refine takeH 2 152 (v := (.pointer (some ⟨g, o, none⟩))) rfl rfl (by kernel_rfl) (by kernel_rfl) (by kernel_rfl) (fun _ _ _ h => h) (by rfl) ?_ (by assumption) ?_
  · intro w hSw
    obtain ⟨y0, y1, y2⟩ := HF.out w hSw
    go_simp
  try simp only [Act.put, List.setIfInBounds_toArray, List.set_cons_zero, List.set_cons_succ]
  refine takeH 3 153 (v := (.pointer (some ⟨g, o + 6, none⟩))) rfl rfl (by kernel_rfl) (by kernel_rfl) (by kernel_rfl) (fun _ _ _ h => h) (by rfl) ?_ (by assumption) ?_
  · intro w hSw
    obtain ⟨y0, y1, y2⟩ := HF.out w hSw
    go_simp
  try simp only [Act.put, List.setIfInBounds_toArray, List.set_cons_zero, List.set_cons_succ]
  refine takeH 4 154 (v := (.string nm)) rfl rfl (by kernel_rfl) (by kernel_rfl) (by kernel_rfl) (fun _ _ _ h => h) (by rfl) ?_ (by assumption) ?_
  · intro w hSw
    obtain ⟨y0, y1, y2⟩ := HF.out w hSw
    go_simp
  try simp only [Act.put, List.setIfInBounds_toArray, List.set_cons_zero, List.set_cons_succ]
  refine takeH 5 155 (v := (.pointer (some ⟨g, o, none⟩))) rfl rfl (by kernel_rfl) (by kernel_rfl) (by kernel_rfl) (fun _ _ _ h => h) (by rfl) ?_ (by assumption) ?_
  · intro w hSw
    obtain ⟨y0, y1, y2⟩ := HF.out w hSw
    go_simp
  try simp only [Act.put, List.setIfInBounds_toArray, List.set_cons_zero, List.set_cons_succ]
  refine takeH 6 156 (v := (.pointer (some ⟨g, o, none⟩))) rfl rfl (by kernel_rfl) (by kernel_rfl) (by kernel_rfl) (fun _ _ _ h => h) (by rfl) ?_ (by assumption) ?_
  · intro w hSw
    obtain ⟨y0, y1, y2⟩ := HF.out w hSw
    go_simp
  try simp only [Act.put, List.setIfInBounds_toArray, List.set_cons_zero, List.set_cons_succ]
  refine takeH 7 157 (v := (.pointer (some ⟨g, o + 2, none⟩))) rfl rfl (by kernel_rfl) (by kernel_rfl) (by kernel_rfl) (fun _ _ _ h => h) (by rfl) ?_ (by assumption) ?_
  · intro w hSw
    obtain ⟨y0, y1, y2⟩ := HF.out w hSw
    go_simp
  try simp only [Act.put, List.setIfInBounds_toArray, List.set_cons_zero, List.set_cons_succ]
  refine takeH 8 158 (v := (.int .i64 d)) rfl rfl (by kernel_rfl) (by kernel_rfl) (by kernel_rfl) (fun _ _ _ h => h) (by rfl) ?_ (by assumption) ?_
  · intro w hSw
    obtain ⟨y0, y1, y2⟩ := HF.out w hSw
    go_simp
  try simp only [Act.put, List.setIfInBounds_toArray, List.set_cons_zero, List.set_cons_succ]
  refine takeH 9 159 (v := (.pointer (some ⟨cb, 0, none⟩))) rfl rfl (by kernel_rfl) (by kernel_rfl) (by kernel_rfl) (fun _ _ _ h => h) (by rfl) ?_ (by assumption) ?_
  · intro w hSw
    obtain ⟨y0, y1, y2⟩ := HF.out w hSw
    go_simp
  try simp only [Act.put, List.setIfInBounds_toArray, List.set_cons_zero, List.set_cons_succ]
  refine takeH 10 160 (v := (.pointer (some ⟨g, o, none⟩))) rfl rfl (by kernel_rfl) (by kernel_rfl) (by kernel_rfl) (fun _ _ _ h => h) (by rfl) ?_ (by assumption) ?_
  · intro w hSw
    obtain ⟨y0, y1, y2⟩ := HF.out w hSw
    go_simp
  try simp only [Act.put, List.setIfInBounds_toArray, List.set_cons_zero, List.set_cons_succ]
  refine takeH 11 161 (v := (.pointer (some ⟨g, o, none⟩))) rfl rfl (by kernel_rfl) (by kernel_rfl) (by kernel_rfl) (fun _ _ _ h => h) (by rfl) ?_ (by assumption) ?_
  · intro w hSw
    obtain ⟨y0, y1, y2⟩ := HF.out w hSw
    go_simp
  try simp only [Act.put, List.setIfInBounds_toArray, List.set_cons_zero, List.set_cons_succ]
  refine takeH 12 162 (v := (.pointer (some ⟨g, o + 7, none⟩))) rfl rfl (by kernel_rfl) (by kernel_rfl) (by kernel_rfl) (fun _ _ _ h => h) (by rfl) ?_ (by assumption) ?_
  · intro w hSw
    obtain ⟨y0, y1, y2⟩ := HF.out w hSw
    go_simp
  try simp only [Act.put, List.setIfInBounds_toArray, List.set_cons_zero, List.set_cons_succ]
  refine takeH 13 163 (v := (.slice aA an ac)) rfl rfl (by kernel_rfl) (by kernel_rfl) (by kernel_rfl) (fun _ _ _ h => h) (by rfl) ?_ (by assumption) ?_
  · intro w hSw
    obtain ⟨y0, y1, y2⟩ := HF.out w hSw
    go_simp
  try simp only [Act.put, List.setIfInBounds_toArray, List.set_cons_zero, List.set_cons_succ]
  refine wpAnyH_ready (rs := [14]) (by kernel_rfl) (by simp) ?_
  refine AllReadyH.cons rfl (fun K hK => ?_) AllReadyH.nil
  go_simp
  go_at_call 42
  (with_reducible refine (HV.out).mono ?_)
  rintro e w2 ⟨⟨A, c, rfl, hl2, hn2⟩, hb2⟩
  have hbw : Below w.heap.size w w2 := (Below.refl _ w).drew.trans hb2
  have HS2 : Hid (Chg L w w2) := Lib.hid (Chg.of_below hbw)
  have HEN := Lib.hid (HE.out w2 A c hbw hl2)
  have HBW := Lib.hid hbw
  clear hl2 hn2 hb2 hbw
  refine hK.out _ _ HS2.out (fun _ => ?_)
  clear hK K
  try simp only [Act.put, List.setIfInBounds_toArray, List.set_cons_zero, List.set_cons_succ]
  refine wpAnyH_ready (rs := [15]) (by kernel_rfl) (by simp) ?_
  refine AllReadyH.cons rfl (fun K hK => ?_) AllReadyH.nil
  go_simp
  go_at_call 19
  (with_reducible refine (HEN.out).mono ?_)
  rintro e w3 hE3
  have HFIN : Hid (Called7 w p kA kn ptrs g2 o2 d r an vs e w3) := Lib.hid ⟨w2, HBW.out, hE3⟩
  obtain ⟨rfl, kA', kc', w4, hc4, _, _, _, _, rfl⟩ := hE3
  have HS3 : Hid (Chg L w (w4.setCell ⟨p, 4, none⟩ (.slice kA' (kn + 1) kc'))) := Lib.hid ((HS2.out.trans (hc4.weaken (fun k hk => .inl (by rw [← HLL.out]; simp [hk])))).setCell p 4 _ (.inl (by rw [← HLL.out]; simp)))
  clear hc4
  refine hK.out _ _ HS3.out (fun _ => ?_)
  clear hK K
  try simp only [Act.put, List.setIfInBounds_toArray, List.set_cons_zero, List.set_cons_succ]
  refine wpAnyH_done (by kernel_rfl) ?_ _
  go_wp2_with fail
  exact bodyPost_end (results_none rfl _ _ _) rfl HFIN.out
set_option maxHeartbeats 6400000 in
theorem do_7deep (w : World) (p cb rb g o n an ac : Nat) (d : Int) (l zs : List Int) (nm : ByteArray) (aA : Option Addr)
    (x0 : w.cell? ⟨g, o, none⟩ = some (.int .i64 7)) (x6 : w.cell? ⟨g, o + 6, none⟩ = some (.string nm)) (x2 : w.cell? ⟨g, o + 2, none⟩ = some (.int .i64 d)) (x7 : w.cell? ⟨g, o + 7, none⟩ = some (.slice aA an ac)) (hA : RowK .i64 w aA an zs) (han : an ≤ 1000) (hin : ∀ a ∈ zs, 0 ≤ a ∧ a < (n : Int)) (c1 : w.cell? ⟨cb, 1, none⟩ = some (.slice (some ⟨rb, 0, none⟩) n n)) (hr : RegAt w rb l) (hl : l.length = n) (hn : n ≤ 100000)
    (kA : Option Addr) (kc : Nat) (p4 : w.cell? ⟨p, 4, none⟩ = some (.slice kA 32 kc)) :
    Calls Try.prog 28 #[.pointer (some ⟨p, 0, none⟩), .pointer (some ⟨cb, 0, none⟩), .pointer (some ⟨g, o, none⟩)] w fun e w' => Ends 4 e ∧ Chg [] w w' := by
  obtain ⟨L, hL⟩ : ∃ L, ([] : List Nat) = L := ⟨_, rfl⟩
  have HF : Hid (∀ V, Chg L w V → V.cell? ⟨g, o + 6, none⟩ = some (.string nm) ∧ V.cell? ⟨g, o + 2, none⟩ = some (.int .i64 d) ∧ V.cell? ⟨g, o + 7, none⟩ = some (.slice aA an ac)) := Lib.hid (fun V hV => by
    subst hL
    exact ⟨hV.read g (o + 6) (by simp) x6, hV.read g (o + 2) (by simp) x2, hV.read g (o + 7) (by simp) x7⟩)
  obtain ⟨vs, hvs⟩ : ∃ vs, (zs.map fun a => l.getD a.toNat 0) = vs := ⟨_, rfl⟩
  have HV := Lib.hid (values_any w.drew cb rb n an ac aA l zs c1 hr hl hn hA han hin)
  rw [hvs] at HV
  have HE : Hid (∀ w2 A c, Below w.heap.size w w2 → Calls Try.prog 19 #[.pointer (some ⟨p, 0, none⟩), .string nm, .int .i64 d, .slice A an c] w2 fun e w' => Ends 4 e ∧ w2 = w') := Lib.hid (fun w2 A c hb => enter_deep w2 p kc d nm kA A an c ((hb.cell (p := ⟨p, 4, none⟩) (World.block_lt_of_cell? w _ p4)).trans p4))
  have HLL := Lib.hid hL
  clear hr hl c1 x2 x6 x7 hL hA hin hvs p4
  go_enter Try.func28, Try.ntmps28
  go_upto_region 14 with fail
  refine wp_region_held_drew (S := fun V => Chg L w V) (by kernel_rfl) ((Chg.refl L w).drew) (fun _ => ?_)
  refine takeH 0 150 (v := (.pointer (some ⟨p, 0, none⟩))) rfl rfl (by kernel_rfl) (by kernel_rfl) (by kernel_rfl) (fun _ _ _ h => h) (by rfl) ?_ (by assumption) ?_
  · intro w hSw
    obtain ⟨y0, y1, y2⟩ := HF.out w hSw
    go_simp
  try simp only [Act.put, List.setIfInBounds_toArray, List.set_cons_zero, List.set_cons_succ]
  refine takeH 1 151 (v := (.pointer (some ⟨g, o, none⟩))) rfl rfl (by kernel_rfl) (by kernel_rfl) (by kernel_rfl) (fun _ _ _ h => h) (by rfl) ?_ (by assumption) ?_
  · intro w hSw
    obtain ⟨y0, y1, y2⟩ := HF.out w hSw
    go_simp
  try simp only [Act.put, List.setIfInBounds_toArray, List.set_cons_zero, List.set_cons_succ]
  refine takeH 2 152 (v := (.pointer (some ⟨g, o, none⟩))) rfl rfl (by kernel_rfl) (by kernel_rfl) (by kernel_rfl) (fun _ _ _ h => h) (by rfl) ?_ (by assumption) ?_
  · intro w hSw
    obtain ⟨y0, y1, y2⟩ := HF.out w hSw
    go_simp
  try simp only [Act.put, List.setIfInBounds_toArray, List.set_cons_zero, List.set_cons_succ]
  refine takeH 3 153 (v := (.pointer (some ⟨g, o + 6, none⟩))) rfl rfl (by kernel_rfl) (by kernel_rfl) (by kernel_rfl) (fun _ _ _ h => h) (by rfl) ?_ (by assumption) ?_
  · intro w hSw
    obtain ⟨y0, y1, y2⟩ := HF.out w hSw
    go_simp
  try simp only [Act.put, List.setIfInBounds_toArray, List.set_cons_zero, List.set_cons_succ]
  refine takeH 4 154 (v := (.string nm)) rfl rfl (by kernel_rfl) (by kernel_rfl) (by kernel_rfl) (fun _ _ _ h => h) (by rfl) ?_ (by assumption) ?_
  · intro w hSw
    obtain ⟨y0, y1, y2⟩ := HF.out w hSw
    go_simp
  try simp only [Act.put, List.setIfInBounds_toArray, List.set_cons_zero, List.set_cons_succ]
  refine takeH 5 155 (v := (.pointer (some ⟨g, o, none⟩))) rfl rfl (by kernel_rfl) (by kernel_rfl) (by kernel_rfl) (fun _ _ _ h => h) (by rfl) ?_ (by assumption) ?_
  · intro w hSw
    obtain ⟨y0, y1, y2⟩ := HF.out w hSw
    go_simp
  try simp only [Act.put, List.setIfInBounds_toArray, List.set_cons_zero, List.set_cons_succ]
  refine takeH 6 156 (v := (.pointer (some ⟨g, o, none⟩))) rfl rfl (by kernel_rfl) (by kernel_rfl) (by kernel_rfl) (fun _ _ _ h => h) (by rfl) ?_ (by assumption) ?_
  · intro w hSw
    obtain ⟨y0, y1, y2⟩ := HF.out w hSw
    go_simp
  try simp only [Act.put, List.setIfInBounds_toArray, List.set_cons_zero, List.set_cons_succ]
  refine takeH 7 157 (v := (.pointer (some ⟨g, o + 2, none⟩))) rfl rfl (by kernel_rfl) (by kernel_rfl) (by kernel_rfl) (fun _ _ _ h => h) (by rfl) ?_ (by assumption) ?_
  · intro w hSw
    obtain ⟨y0, y1, y2⟩ := HF.out w hSw
    go_simp
  try simp only [Act.put, List.setIfInBounds_toArray, List.set_cons_zero, List.set_cons_succ]
  refine takeH 8 158 (v := (.int .i64 d)) rfl rfl (by kernel_rfl) (by kernel_rfl) (by kernel_rfl) (fun _ _ _ h => h) (by rfl) ?_ (by assumption) ?_
  · intro w hSw
    obtain ⟨y0, y1, y2⟩ := HF.out w hSw
    go_simp
  try simp only [Act.put, List.setIfInBounds_toArray, List.set_cons_zero, List.set_cons_succ]
  refine takeH 9 159 (v := (.pointer (some ⟨cb, 0, none⟩))) rfl rfl (by kernel_rfl) (by kernel_rfl) (by kernel_rfl) (fun _ _ _ h => h) (by rfl) ?_ (by assumption) ?_
  · intro w hSw
    obtain ⟨y0, y1, y2⟩ := HF.out w hSw
    go_simp
  try simp only [Act.put, List.setIfInBounds_toArray, List.set_cons_zero, List.set_cons_succ]
  refine takeH 10 160 (v := (.pointer (some ⟨g, o, none⟩))) rfl rfl (by kernel_rfl) (by kernel_rfl) (by kernel_rfl) (fun _ _ _ h => h) (by rfl) ?_ (by assumption) ?_
  · intro w hSw
    obtain ⟨y0, y1, y2⟩ := HF.out w hSw
    go_simp
  try simp only [Act.put, List.setIfInBounds_toArray, List.set_cons_zero, List.set_cons_succ]
  refine takeH 11 161 (v := (.pointer (some ⟨g, o, none⟩))) rfl rfl (by kernel_rfl) (by kernel_rfl) (by kernel_rfl) (fun _ _ _ h => h) (by rfl) ?_ (by assumption) ?_
  · intro w hSw
    obtain ⟨y0, y1, y2⟩ := HF.out w hSw
    go_simp
  try simp only [Act.put, List.setIfInBounds_toArray, List.set_cons_zero, List.set_cons_succ]
  refine takeH 12 162 (v := (.pointer (some ⟨g, o + 7, none⟩))) rfl rfl (by kernel_rfl) (by kernel_rfl) (by kernel_rfl) (fun _ _ _ h => h) (by rfl) ?_ (by assumption) ?_
  · intro w hSw
    obtain ⟨y0, y1, y2⟩ := HF.out w hSw
    go_simp
  try simp only [Act.put, List.setIfInBounds_toArray, List.set_cons_zero, List.set_cons_succ]
  refine takeH 13 163 (v := (.slice aA an ac)) rfl rfl (by kernel_rfl) (by kernel_rfl) (by kernel_rfl) (fun _ _ _ h => h) (by rfl) ?_ (by assumption) ?_
  · intro w hSw
    obtain ⟨y0, y1, y2⟩ := HF.out w hSw
    go_simp
  try simp only [Act.put, List.setIfInBounds_toArray, List.set_cons_zero, List.set_cons_succ]
  refine wpAnyH_ready (rs := [14]) (by kernel_rfl) (by simp) ?_
  refine AllReadyH.cons rfl (fun K hK => ?_) AllReadyH.nil
  go_simp
  go_at_call 42
  (with_reducible refine (HV.out).mono ?_)
  rintro e w2 ⟨⟨A, c, rfl, hl2, hn2⟩, hb2⟩
  have hbw : Below w.heap.size w w2 := (Below.refl _ w).drew.trans hb2
  have HS2 : Hid (Chg L w w2) := Lib.hid (Chg.of_below hbw)
  have HEN := Lib.hid (HE.out w2 A c hbw)
  clear hl2 hn2 hb2 hbw
  refine hK.out _ _ HS2.out (fun _ => ?_)
  clear hK K
  try simp only [Act.put, List.setIfInBounds_toArray, List.set_cons_zero, List.set_cons_succ]
  refine wpAnyH_ready (rs := [15]) (by kernel_rfl) (by simp) ?_
  refine AllReadyH.cons rfl (fun K hK => ?_) AllReadyH.nil
  go_simp
  go_at_call 19
  (with_reducible refine (HEN.out).mono ?_)
  rintro e w3 ⟨he, rfl⟩
  unfold Ends at he
  subst he
  exact ⟨rfl, rfl, by rw [HLL.out]; exact HS2.out⟩
end Go.Proofs.Ytcanjkjpdnbcnaa
namespace Go.Proofs.Ytcanjkjpdnbcnaa
open Go.RowKit
set_option linter.unusedVariables false
set_option linter.unusedSimpArgs false
set_option maxRecDepth 100000

/-- Main itself returns. -/
theorem leave_last (w : World) (p cb kb off kc : Nat) (d v z6 : Int) (p4 : w.cell? ⟨p, 4, none⟩ = some (.slice (some ⟨kb, off, none⟩) 1 kc)) (f4 : w.frozen? ⟨p, 4, none⟩ = false) (p6 : w.cell? ⟨p, 6, none⟩ = some (.int .i32 z6)) (f6 : w.frozen? ⟨p, 6, none⟩ = false) (hkc : 1 ≤ kc)
    (k1 : w.cell? ⟨kb, off, none⟩ = some (.pointer (some ⟨cb, 0, none⟩))) (c4 : w.cell? ⟨cb, 4, none⟩ = some (.int .i64 d)) :
    Calls Try.prog 37 #[.pointer (some ⟨p, 0, none⟩), .int .i32 v] w fun e w' => Ends 1 e ∧ w' = (w.setCell ⟨p, 4, none⟩ (.slice (some ⟨kb, off, none⟩) 0 kc)).setCell ⟨p, 6, none⟩ (.int .i32 v) := by
  have hk2 : (1 : Int) ≤ (kc : Int) := by omega
  have q6 : (w.setCell ⟨p, 4, none⟩ (.slice (some ⟨kb, off, none⟩) 0 kc)).cell? ⟨p, 6, none⟩ = some (.int .i32 z6) := (World.cell?_setCell_other _ _ _ _ (by simp)).trans p6
  go_enter Try.func37, Try.ntmps37
  go_wp2_with fail
  exact ⟨rfl, rfl, rfl⟩
/-- A call returns whose value nobody wants. -/
theorem leave_none (w : World) (p cb kb off kn kc : Nat) (v : Int) (p4 : w.cell? ⟨p, 4, none⟩ = some (.slice (some ⟨kb, off, none⟩) (kn + 2) kc)) (f4 : w.frozen? ⟨p, 4, none⟩ = false) (hkc : kn + 2 ≤ kc) (hkn : kn ≤ 100)
    (k1 : w.cell? ⟨kb, off + (kn + 1), none⟩ = some (.pointer (some ⟨cb, 0, none⟩))) (c4 : w.cell? ⟨cb, 4, none⟩ = some (.int .i64 (-1))) :
    Calls Try.prog 37 #[.pointer (some ⟨p, 0, none⟩), .int .i32 v] w fun e w' => e = .returned (.tuple #[]) ∧ w' = w.setCell ⟨p, 4, none⟩ (.slice (some ⟨kb, off, none⟩) (kn + 1) kc) := by
  obtain ⟨q, hq⟩ : ∃ q, kn + 1 = q := ⟨_, rfl⟩
  obtain ⟨q2, hq2⟩ : ∃ q2, kn + 2 = q2 := ⟨_, rfl⟩
  rw [hq] at k1 ⊢
  rw [hq2] at p4
  have h1 : (q2 : Int) - 1 = (q : Int) := by omega
  have h2 : (q : Int) < (q2 : Int) := by omega
  have h3 : (0 : Int) ≤ (q : Int) := by omega
  have h4 : (q : Int) ≤ (kc : Int) := by omega
  have h5 : ((q : Int) == 0) = false := by simp; omega
  have h6 : ¬ (q : Int) = 0 := by omega
  have h7 : (q2 : Int) ≤ 102 := by omega
  have h8 : (1 : Int) ≤ (q2 : Int) := by omega
  clear hq hq2
  go_enter Try.func37, Try.ntmps37
  go_wp2_with fail
  exact bodyPost_end (results_none rfl _ _ _) rfl ⟨rfl, rfl⟩
/-- A call returns, its value into a register of the call around it. -/
theorem leave_set (w : World) (p cb cb2 rb2 kb off kn kc n k : Nat) (l : List Int) (v : Int) (p4 : w.cell? ⟨p, 4, none⟩ = some (.slice (some ⟨kb, off, none⟩) (kn + 2) kc)) (f4 : w.frozen? ⟨p, 4, none⟩ = false) (hkc : kn + 2 ≤ kc) (hkn : kn ≤ 100)
    (k1 : w.cell? ⟨kb, off + (kn + 1), none⟩ = some (.pointer (some ⟨cb, 0, none⟩))) (k2 : w.cell? ⟨kb, off + kn, none⟩ = some (.pointer (some ⟨cb2, 0, none⟩))) (c4 : w.cell? ⟨cb, 4, none⟩ = some (.int .i64 (k : Int)))
    (c1 : w.cell? ⟨cb2, 1, none⟩ = some (.slice (some ⟨rb2, 0, none⟩) n n)) (hr : RegAt w rb2 l) (hl : l.length = n) (hk : k < n) (hn : n ≤ 100000) (h1 : kb ≠ p) (h2 : cb2 ≠ p) (h3 : rb2 ≠ p) :
    Calls Try.prog 37 #[.pointer (some ⟨p, 0, none⟩), .int .i32 v] w fun e w' => e = .returned (.tuple #[]) ∧ w' = (w.setCell ⟨p, 4, none⟩ (.slice (some ⟨kb, off, none⟩) (kn + 1) kc)).setCell ⟨rb2, k, none⟩ (.int .i32 v) := by
  have y1 : (w.setCell ⟨p, 4, none⟩ (.slice (some ⟨kb, off, none⟩) (kn + 1) kc)).cell? ⟨kb, off + kn, none⟩ = some (.pointer (some ⟨cb2, 0, none⟩)) := (World.cell?_setCell_other _ _ _ _ (by intro e; injection e with e; exact h1 e.symm)).trans k2
  have y2 : (w.setCell ⟨p, 4, none⟩ (.slice (some ⟨kb, off, none⟩) (kn + 1) kc)).cell? ⟨cb2, 1, none⟩ = some (.slice (some ⟨rb2, 0, none⟩) n n) := (World.cell?_setCell_other _ _ _ _ (by intro e; injection e with e; exact h2 e.symm)).trans c1
  have y4 : (w.setCell ⟨p, 4, none⟩ (.slice (some ⟨kb, off, none⟩) (kn + 1) kc)).cell? ⟨p, 4, none⟩ = some (.slice (some ⟨kb, off, none⟩) (kn + 1) kc) := World.cell?_setCell_same _ _ _ p4
  have hr2 : RegAt (w.setCell ⟨p, 4, none⟩ (.slice (some ⟨kb, off, none⟩) (kn + 1) kc)) rb2 l := hr.chg ((Chg.refl [p] w).setCell p 4 _ (.inl (by simp))) (by simp [h3])
  have r1 := hr2.cell k (by omega)
  have f1 := hr2.free k
  generalize l.getD k 0 = v0 at *
  obtain ⟨q, hq⟩ : ∃ q, kn + 1 = q := ⟨_, rfl⟩
  obtain ⟨q2, hq2⟩ : ∃ q2, kn + 2 = q2 := ⟨_, rfl⟩
  rw [hq] at k1 y1 y2 y4 r1 f1 ⊢
  rw [hq2] at p4
  have e1 : (q2 : Int) - 1 = (q : Int) := by omega
  have e2 : (q : Int) < (q2 : Int) := by omega
  have e3 : (0 : Int) ≤ (q : Int) := by omega
  have e4 : (q : Int) ≤ (kc : Int) := by omega
  have e5 : ((q : Int) == 0) = false := by simp; omega
  have e6 : ¬ (q : Int) = 0 := by omega
  have e7 : (q2 : Int) ≤ 102 := by omega
  have e8 : (1 : Int) ≤ (q2 : Int) := by omega
  have e9 : (q : Int) - 1 = (kn : Int) := by omega
  have e10 : (kn : Int) < (q : Int) := by omega
  have e11 : (0 : Int) ≤ (kn : Int) := by omega
  have e12 : (1 : Int) ≤ (q : Int) := by omega
  have e13 : (q : Int) ≤ 102 := by omega
  have z1 : (0 : Int) ≤ (k : Int) := by omega
  have z2 : (k : Int) < (n : Int) := by omega
  have z3 : (n : Int) ≤ 100000 := by omega
  clear hq hq2 hr2 hr hl
  go_enter Try.func37, Try.ntmps37
  go_wp2_with fail
  exact bodyPost_end (results_none rfl _ _ _) rfl ⟨rfl, rfl⟩
end Go.Proofs.Ytcanjkjpdnbcnaa
namespace Go.Proofs.Ytcanjkjpdnbcnaa
open Go.RowKit
set_option linter.unusedVariables false
set_option linter.unusedSimpArgs false
set_option maxRecDepth 100000

theorem end_jump (w : World) (p cb g o : Nat) (c : Cl) (t : Int) (b1 : w.cell? ⟨g, o + 1, none⟩ = some (.int .i64 1)) (b3 : w.cell? ⟨g, o + 3, none⟩ = some (.int .i64 t)) (hc : ClAt w cb c) :
    Calls Try.prog 27 #[.pointer (some ⟨p, 0, none⟩), .pointer (some ⟨cb, 0, none⟩), .pointer (some ⟨g, o, none⟩)] w fun e w' => e = .returned (.tuple #[]) ∧ ClAt w' cb { c with block := t, done := 0 } ∧ Chg [cb] w w' := by
  have HG := Lib.hid (goOn_any w cb c hc t)
  clear hc
  go_enter Try.func27, Try.ntmps27
  go_wp2_with fail
  refine HG.out.mono ?_
  rintro e w' ⟨rfl, h1, h2⟩
  have H1 := Lib.hid h1
  have H2 := Lib.hid h2
  clear h1 h2
  go_wp2_with fail
  exact bodyPost_end (results_none rfl _ _ _) rfl ⟨rfl, H1.out, H2.out⟩
set_option maxHeartbeats 1600000 in
theorem end_branch_yes (w : World) (p cb rb g o n j : Nat) (l : List Int) (c : Cl) (t : Int) (b1 : w.cell? ⟨g, o + 1, none⟩ = some (.int .i64 2)) (b2 : w.cell? ⟨g, o + 2, none⟩ = some (.int .i64 (j : Int))) (b3 : w.cell? ⟨g, o + 3, none⟩ = some (.int .i64 t)) (hc : ClAt w cb c)
    (c1 : w.cell? ⟨cb, 1, none⟩ = some (.slice (some ⟨rb, 0, none⟩) n n)) (hr : RegAt w rb l) (hl : l.length = n) (hj : j < n) (hn : n ≤ 100000) (hz : l.getD j 0 ≠ 0) :
    Calls Try.prog 27 #[.pointer (some ⟨p, 0, none⟩), .pointer (some ⟨cb, 0, none⟩), .pointer (some ⟨g, o, none⟩)] w fun e w' => e = .returned (.tuple #[]) ∧ ClAt w' cb { c with block := t, done := 0 } ∧ Chg [cb] w w' := by
  have HG : Hid (∀ d, Calls Try.prog 36 #[.pointer (some ⟨cb, 0, none⟩), .int .i64 t] (w.drewN d) fun e w' => e = .returned (.tuple #[]) ∧ ClAt w' cb { c with block := t, done := 0 } ∧ Chg [cb] w w') := Lib.hid (fun d => (goOn_any (w.drewN d) cb c hc t).mono fun e w' h => ⟨h.1, h.2.1, ((Chg.refl _ w).drewN d).trans h.2.2⟩)
  have s0 := hr.cell j (by omega)
  have zj0 : (0 : Int) ≤ (j : Int) := by omega
  have zjn : (j : Int) < (n : Int) := by omega
  have hn2 : (n : Int) ≤ 100000 := by omega
  generalize l.getD j 0 = z at *
  have hzb : (z != 0) = true := by simp [hz]
  clear hc hr hl
  go_enter Try.func27, Try.ntmps27
  go_wp2_with fail
  go_quiet (fail)
  go_wp2_with fail
  refine (HG.out _).mono ?_
  rintro e w' ⟨rfl, h1, h2⟩
  have H1 := Lib.hid h1
  have H2 := Lib.hid h2
  clear h1 h2
  go_wp2_with fail
  exact bodyPost_end (results_none rfl _ _ _) rfl ⟨rfl, H1.out, H2.out⟩
set_option maxHeartbeats 1600000 in
theorem end_branch_no (w : World) (p cb rb g o n j : Nat) (l : List Int) (c : Cl) (t : Int) (b1 : w.cell? ⟨g, o + 1, none⟩ = some (.int .i64 2)) (b2 : w.cell? ⟨g, o + 2, none⟩ = some (.int .i64 (j : Int))) (b3 : w.cell? ⟨g, o + 4, none⟩ = some (.int .i64 t)) (hc : ClAt w cb c)
    (c1 : w.cell? ⟨cb, 1, none⟩ = some (.slice (some ⟨rb, 0, none⟩) n n)) (hr : RegAt w rb l) (hl : l.length = n) (hj : j < n) (hn : n ≤ 100000) (hz : l.getD j 0 = 0) :
    Calls Try.prog 27 #[.pointer (some ⟨p, 0, none⟩), .pointer (some ⟨cb, 0, none⟩), .pointer (some ⟨g, o, none⟩)] w fun e w' => e = .returned (.tuple #[]) ∧ ClAt w' cb { c with block := t, done := 0 } ∧ Chg [cb] w w' := by
  have HG : Hid (∀ d, Calls Try.prog 36 #[.pointer (some ⟨cb, 0, none⟩), .int .i64 t] (w.drewN d) fun e w' => e = .returned (.tuple #[]) ∧ ClAt w' cb { c with block := t, done := 0 } ∧ Chg [cb] w w') := Lib.hid (fun d => (goOn_any (w.drewN d) cb c hc t).mono fun e w' h => ⟨h.1, h.2.1, ((Chg.refl _ w).drewN d).trans h.2.2⟩)
  have s0 := hr.cell j (by omega)
  have zj0 : (0 : Int) ≤ (j : Int) := by omega
  have zjn : (j : Int) < (n : Int) := by omega
  have hn2 : (n : Int) ≤ 100000 := by omega
  rw [hz] at s0
  clear hc hr hl
  go_enter Try.func27, Try.ntmps27
  go_wp2_with fail
  go_quiet (fail)
  go_wp2_with fail
  refine (HG.out _).mono ?_
  rintro e w' ⟨rfl, h1, h2⟩
  have H1 := Lib.hid h1
  have H2 := Lib.hid h2
  clear h1 h2
  go_wp2_with fail
  exact bodyPost_end (results_none rfl _ _ _) rfl ⟨rfl, H1.out, H2.out⟩
set_option maxHeartbeats 1600000 in
theorem end_back (w : World) (p cb rb g o n j : Nat) (l : List Int) (R : World → Prop) (b1 : w.cell? ⟨g, o + 1, none⟩ = some (.int .i64 3)) (b2 : w.cell? ⟨g, o + 2, none⟩ = some (.int .i64 (j : Int)))
    (c1 : w.cell? ⟨cb, 1, none⟩ = some (.slice (some ⟨rb, 0, none⟩) n n)) (hr : RegAt w rb l) (hl : l.length = n) (hj : j < n) (hn : n ≤ 100000) (hV : Calls Try.prog 37 #[.pointer (some ⟨p, 0, none⟩), .int .i32 (l.getD j 0)] w.drew fun e w' => e = .returned (.tuple #[]) ∧ R w') :
    Calls Try.prog 27 #[.pointer (some ⟨p, 0, none⟩), .pointer (some ⟨cb, 0, none⟩), .pointer (some ⟨g, o, none⟩)] w fun e w' => e = .returned (.tuple #[]) ∧ R w' := by
  have HV := Lib.hid hV
  have s0 := hr.cell j (by omega)
  have zj0 : (0 : Int) ≤ (j : Int) := by omega
  have zjn : (j : Int) < (n : Int) := by omega
  have hn2 : (n : Int) ≤ 100000 := by omega
  clear hV hr hl
  generalize l.getD j 0 = z at *
  go_enter Try.func27, Try.ntmps27
  go_wp2_with fail
  go_still_tail 11, (by kernel_rfl)
  change wpList _ _ _ _ _ (World.drew _)
  go_wp2_with fail
  refine HV.out.mono ?_
  rintro e w' ⟨rfl, h1⟩
  have H1 := Lib.hid h1
  clear h1
  go_wp2_with fail
  exact bodyPost_end (results_none rfl _ _ _) rfl ⟨rfl, H1.out⟩
set_option maxHeartbeats 1600000 in
theorem end_done (w : World) (p cb rb g o n j : Nat) (l : List Int) (R : World → Prop) (b1 : w.cell? ⟨g, o + 1, none⟩ = some (.int .i64 3)) (b2 : w.cell? ⟨g, o + 2, none⟩ = some (.int .i64 (j : Int)))
    (c1 : w.cell? ⟨cb, 1, none⟩ = some (.slice (some ⟨rb, 0, none⟩) n n)) (hr : RegAt w rb l) (hl : l.length = n) (hj : j < n) (hn : n ≤ 100000) (hV : Calls Try.prog 37 #[.pointer (some ⟨p, 0, none⟩), .int .i32 (l.getD j 0)] w.drew fun e w' => Ends 1 e ∧ R w') :
    Calls Try.prog 27 #[.pointer (some ⟨p, 0, none⟩), .pointer (some ⟨cb, 0, none⟩), .pointer (some ⟨g, o, none⟩)] w fun e w' => Ends 1 e ∧ R w' := by
  have HV := Lib.hid hV
  have s0 := hr.cell j (by omega)
  have zj0 : (0 : Int) ≤ (j : Int) := by omega
  have zjn : (j : Int) < (n : Int) := by omega
  have hn2 : (n : Int) ≤ 100000 := by omega
  clear hV hr hl
  generalize l.getD j 0 = z at *
  go_enter Try.func27, Try.ntmps27
  go_wp2_with fail
  go_still_tail 11, (by kernel_rfl)
  change wpList _ _ _ _ _ (World.drew _)
  go_wp2_with fail
  refine HV.out.mono ?_
  rintro e w' ⟨he, h1⟩
  have H1 := Lib.hid h1
  clear h1
  unfold Ends at he
  subst he
  exact ⟨rfl, rfl, H1.out⟩
end Go.Proofs.Ytcanjkjpdnbcnaa
namespace Go.Proofs.Ytcanjkjpdnbcnaa
open Go.RowKit
set_option linter.unusedVariables false
set_option linter.unusedSimpArgs false
set_option maxRecDepth 100000

def I32 (v : Int) : Prop := -2147483648 ≤ v ∧ v ≤ 2147483647
/-- A block's end that may be, in a function of n registers and nb blocks. -/
def BlOk (b : MBl) (n : Int) (nb : Nat) : Prop :=
  (b.kind = 1 ∧ 0 ≤ b.go ∧ b.go < (nb : Int)) ∨ (b.kind = 2 ∧ 0 ≤ b.go ∧ b.go < (nb : Int) ∧ 0 ≤ b.els ∧ b.els < (nb : Int) ∧ 0 ≤ b.a ∧ b.a < n) ∨ (b.kind = 3 ∧ 0 ≤ b.a ∧ b.a < n)
structure InOk (F : ByteArray → Option MFn) (G : ByteArray → Prop) (x : MIn) (n : Int) : Prop where
  may : mayI x n = true
  num : I32 x.num
  glob : x.kind = 5 ∨ x.kind = 6 → G x.name
  fn : x.kind = 7 → ∃ f, F x.name = some f ∧ f.params = (x.argL.length : Int)
structure FnOk (F : ByteArray → Option MFn) (G : ByteArray → Prop) (f : MFn) : Prop where
  regs : 0 ≤ f.regs ∧ f.regs ≤ 4096
  params : 0 ≤ f.params ∧ f.params ≤ f.regs
  some : f.blocks ≠ []
  bl : ∀ b ∈ f.blocks, BlOk b f.regs f.blocks.length
  ins : ∀ b ∈ f.blocks, ∀ x ∈ b.ins, InOk F G x f.regs
structure CallOk (F : ByteArray → Option MFn) (G : ByteArray → Prop) (c : PC) : Prop where
  fn : FnOk F G c.f
  regs : (c.regs.length : Int) = c.f.regs
  vals : ∀ v ∈ c.regs, I32 v
  block : 0 ≤ c.block ∧ c.block < (c.f.blocks.length : Int)
  done : ∀ b, c.f.blocks[c.block.toNat]? = Option.some b → c.done ≤ b.ins.length
def CallsOk (F : ByteArray → Option MFn) (G : ByteArray → Prop) : List PC → Prop
  | [] => True
  | c :: cs => CallOk F G c ∧ (∀ c2, cs.head? = some c2 → c.d = -1 ∨ (0 ≤ c.d ∧ c.d < (c2.regs.length : Int))) ∧ CallsOk F G cs
structure Good (F : ByteArray → Option MFn) (G : ByteArray → Prop) (inp : List Int) (s : PS) : Prop where
  calls : CallsOk F G s.calls
  some : s.calls ≠ []
  few : s.calls.length ≤ 32
  words : ∀ x, G x → 1 ≤ (s.words x).length ∧ (s.words x).length ≤ 4096 ∧ ∀ v ∈ s.words x, I32 v
  tr : s.tr.length ≤ s.steps
  trv : ∀ v ∈ s.tr, I32 v
  reads : s.reads ≤ inp.length

section
variable {x : MIn} {n : Int}
theorem mayI_kind (h : mayI x n = true) : 1 ≤ x.kind ∧ x.kind ≤ 9 := by
  unfold mayI at h
  simp only [Bool.and_eq_true, decide_eq_true_eq] at h
  exact h.1.1.1.1.1.1.1.1.1
theorem regB_in {r n : Int} (h : regB r n false = true) : 0 ≤ r ∧ r < n := by
  simp [regB] at h
  exact h
theorem regB_or {r n : Int} (h : regB r n true = true) : (0 ≤ r ∧ r < n) ∨ r = -1 := by
  simp [regB] at h
  exact h
theorem mayI_d (h : mayI x n = true) (hk : x.kind ≠ 6 ∧ x.kind ≠ 7 ∧ x.kind ≠ 9) : 0 ≤ x.d ∧ x.d < n := by
  unfold mayI at h
  simp only [Bool.and_eq_true] at h
  have h2 := h.1.1.1.1.1.1.1.1.2
  rw [if_neg (by omega), decide_eq_false hk.2.1] at h2
  exact regB_in h2
theorem mayI_d7 (h : mayI x n = true) (hk : x.kind = 7) : (0 ≤ x.d ∧ x.d < n) ∨ x.d = -1 := by
  unfold mayI at h
  simp only [Bool.and_eq_true] at h
  have h2 := h.1.1.1.1.1.1.1.1.2
  rw [if_neg (by omega), decide_eq_true hk] at h2
  exact regB_or h2
theorem mayI_a (h : mayI x n = true) (hk : x.kind = 2 ∨ x.kind = 3 ∨ x.kind = 4 ∨ x.kind = 9) : 0 ≤ x.a ∧ x.a < n := by
  unfold mayI at h
  simp only [Bool.and_eq_true] at h
  have h2 := h.1.1.1.1.1.1.1.2
  rw [if_pos hk] at h2
  exact regB_in h2
theorem mayI_a5 (h : mayI x n = true) (hk : x.kind = 5 ∨ x.kind = 6) : (0 ≤ x.a ∧ x.a < n) ∨ x.a = -1 := by
  unfold mayI at h
  simp only [Bool.and_eq_true] at h
  have h2 := h.1.1.1.1.1.1.1.2
  rw [if_neg (by omega), if_pos hk] at h2
  exact regB_or h2
theorem mayI_b (h : mayI x n = true) (hk : x.kind = 4 ∨ x.kind = 6) : 0 ≤ x.b ∧ x.b < n := by
  unfold mayI at h
  simp only [Bool.and_eq_true] at h
  have h2 := h.1.1.1.1.1.1.2
  rw [if_pos hk] at h2
  exact regB_in h2
theorem mayI_op3 (h : mayI x n = true) (hk : x.kind = 3) : 19 ≤ x.op ∧ x.op ≤ 21 := by
  unfold mayI at h
  simp only [Bool.and_eq_true] at h
  have h2 := h.1.1.1.2
  rw [if_pos hk] at h2
  simpa using h2
theorem mayI_op4 (h : mayI x n = true) (hk : x.kind = 4) : 1 ≤ x.op ∧ x.op ≤ 16 := by
  unfold mayI at h
  simp only [Bool.and_eq_true] at h
  have h2 := h.1.1.1.2
  rw [if_neg (by omega), if_pos hk] at h2
  simpa using h2
theorem mayI_few (h : mayI x n = true) : x.argL.length ≤ 8 := by
  unfold mayI at h
  simp only [Bool.and_eq_true] at h
  have h2 := h.1.1.2
  simpa using h2
theorem mayI_args (h : mayI x n = true) : ∀ r ∈ x.argL, 0 ≤ r ∧ r < n := by
  unfold mayI at h
  simp only [Bool.and_eq_true, List.all_eq_true] at h
  exact fun r hr => regB_in (h.2 r hr)
end
theorem I32.wrap (v : Int) : I32 (wrap32 v) := by
  unfold I32 wrap32
  omega
theorem I32.truth (b : Bool) : I32 (truthI b) := by
  unfold I32 truthI
  split <;> omega
theorem I32.zero : I32 0 := by unfold I32; omega
theorem I32.getD {l : List Int} (h : ∀ v ∈ l, I32 v) (k : Nat) : I32 (l.getD k 0) := by
  rw [List.getD_eq_getElem?_getD]
  cases hk : l[k]? with
  | none => exact I32.zero
  | some v => exact h v (List.mem_of_getElem? hk)
theorem I32.set {l : List Int} (h : ∀ v ∈ l, I32 v) (k : Nat) {u : Int} (hu : I32 u) : ∀ v ∈ l.set k u, I32 v := fun v hv => by
  rcases List.mem_or_eq_of_mem_set hv with hv | rfl
  · exact h v hv
  · exact hu
end Go.Proofs.Ytcanjkjpdnbcnaa
