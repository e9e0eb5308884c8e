/-
  The contract of the disk's Clone.
-/
import Derived.Test.YtbjlikppboggmaaZbo
namespace Go.Proofs.Ytbjlikppboggmaa
open Go.RowKit Go.Maps
set_option linter.unusedVariables false
set_option linter.unusedSimpArgs false
set_option maxRecDepth 100000

section
variable {w : World} {d : Nat} {own : Nat → Nat} {F RA SA C : Option Addr} {fn fc rn rc sn sc cn cc : Nat} {fs css : List Value} {ps ss : List (ByteArray × Value)} {chl : List (List (ByteArray × Value))} {nm su : Value → Nat} {dt : Value → List Value} {r : RD}
set_option maxHeartbeats 6400000 in
theorem DiskIn.clone {made quota ahead calls : Int} {full off : Bool} (H : DiskIn w d own ⟨.slice F fn fc, made, .slice RA rn rc, .slice SA sn sc, .slice C cn cc, quota, full, ahead, off, calls⟩ F fn fc RA rn rc SA sn sc C cn cc fs ps ss css chl nm dt su) (R : Reads r ⟨.slice F fn fc, made, .slice RA rn rc, .slice SA sn sc, .slice C cn cc, quota, full, ahead, off, calls⟩ fs ss chl nm dt su) :
    Calls Try.prog 21 #[.pointer (some ⟨d, 0, none⟩)] w fun e w' => ∃ c own2, e = .returned (.pointer (some ⟨c, 0, none⟩)) ∧ (∀ i, i < w.heap.size → own2 i = 0) ∧ IsD w' c own2 r ∧ Below w.heap.size w w' := by
  have x0 : w.cell? ⟨d, 0, none⟩ = some (.slice F fn fc) := H.box.cell 0 _ rfl
  have x1 : w.cell? ⟨d, 1, none⟩ = some (.int .i64 made) := H.box.cell 1 _ rfl
  have x2 : w.cell? ⟨d, 2, none⟩ = some (.slice RA rn rc) := H.box.cell 2 _ rfl
  have x3 : w.cell? ⟨d, 3, none⟩ = some (.slice SA sn sc) := H.box.cell 3 _ rfl
  have x4 : w.cell? ⟨d, 4, none⟩ = some (.slice C cn cc) := H.box.cell 4 _ rfl
  have x5 : w.cell? ⟨d, 5, none⟩ = some (.int .i64 quota) := H.box.cell 5 _ rfl
  have x6 : w.cell? ⟨d, 6, none⟩ = some (.bool full) := H.box.cell 6 _ rfl
  have x7 : w.cell? ⟨d, 7, none⟩ = some (.int .i64 ahead) := H.box.cell 7 _ rfl
  have x8 : w.cell? ⟨d, 8, none⟩ = some (.bool off) := H.box.cell 8 _ rfl
  have x9 : w.cell? ⟨d, 9, none⟩ = some (.int .i64 calls) := H.box.cell 9 _ rfl
  have hdl := H.box.lt
  have HH := Lib.hid H
  have HR := Lib.hid R
  have hfn : fn ≤ 80000 := H.lenF
  have hfc : fn ≤ fc := H.line.2.1
  have hflen : fs.length = fn := by have := H.line.1; omega
  have HFL := Lib.hid hflen
  obtain ⟨n0, hn0⟩ : ∃ n0, w.heap.size = n0 := ⟨_, rfl⟩
  obtain ⟨W1, hW1⟩ : ∃ W1, w.alloc (.cells #[.slice F fn fc, .int .i64 made, .slice RA rn rc, .slice SA sn sc, .slice C cn cc, .int .i64 quota, .bool full, .int .i64 ahead, .bool off, .int .i64 calls] 70) = W1 := ⟨_, rfl⟩
  have hs1 : W1.heap.size = n0 + 1 := by rw [← hW1, ← hn0]; simp
  have hB1 : Below w.heap.size w W1 := by rw [← hW1]; exact (Below.refl _ w).alloc (Nat.le_refl _) _
  have hb1 : W1.heap[n0]? = some (.cells #[.slice F fn fc, .int .i64 made, .slice RA rn rc, .slice SA sn sc, .slice C cn cc, .int .i64 quota, .bool full, .int .i64 ahead, .bool off, .int .i64 calls] 70 (0, 0)) := by rw [← hW1, ← hn0]; exact heap_alloc_new w _
  obtain ⟨W2, hW2⟩ : ∃ W2, W1.alloc (.map #[] 0) = W2 := ⟨_, rfl⟩
  have hs2 : W2.heap.size = n0 + 2 := by rw [← hW2]; simp [hs1]
  have hB2 : Below w.heap.size w W2 := by rw [← hW2]; exact hB1.alloc (by omega) _
  have hT2 : TwinsAt W2 (n0 + 1) [] := by rw [← hW2, ← hs1]; exact TwinsAt.new W1
  have hb2 : W2.heap[n0]? = W1.heap[n0]? := by rw [← hW2]; exact Below.heap_alloc _ _ _ (by omega)
  obtain ⟨W3, hW3⟩ : ∃ W3, W2.alloc (.cells #[.map (some (n0 + 1))] 97) = W3 := ⟨_, rfl⟩
  have hs3 : W3.heap.size = n0 + 3 := by rw [← hW3]; simp [hs2]
  have hB3 : Below w.heap.size w W3 := by rw [← hW3]; exact hB2.alloc (by omega) _
  have hT3 : TwinsAt W3 (n0 + 1) [] := hT2.same (by rw [← hW3]; exact Below.heap_alloc _ _ _ (by omega))
  have hb3 : W3.heap[n0]? = some (.cells #[.slice F fn fc, .int .i64 made, .slice RA rn rc, .slice SA sn sc, .slice C cn cc, .int .i64 quota, .bool full, .int .i64 ahead, .bool off, .int .i64 calls] 70 (0, 0)) := ((by rw [← hW3]; exact Below.heap_alloc _ _ _ (by omega) : W3.heap[n0]? = W2.heap[n0]?).trans hb2).trans hb1
  have hv3 : W3.heap[n0 + 2]? = some (.cells #[.map (some (n0 + 1))] 97 (0, 0)) := by rw [← hW3, ← hs2]; exact heap_alloc_new W2 _
  have hbx3 : DBoxAt W3 n0 ⟨.slice F fn fc, made, .slice RA rn rc, .slice SA sn sc, .slice C cn cc, quota, full, ahead, off, calls⟩ := hb3
  obtain ⟨W4, hW4⟩ : ∃ W4, W3.setCell ⟨n0, 0, none⟩ (.slice none 0 0) = W4 := ⟨_, rfl⟩
  have hc4 : Chg [n0] W3 W4 := by rw [← hW4]; exact (Chg.refl _ W3).setCell n0 0 _ (.inl (by simp))
  have hbx4 : DBoxAt W4 n0 ⟨.slice none 0 0, made, .slice RA rn rc, .slice SA sn sc, .slice C cn cc, quota, full, ahead, off, calls⟩ := by rw [← hW4]; exact hbx3.set 0 _ _ rfl
  have hs4 : W4.heap.size = n0 + 3 := (show W4.heap.size = W3.heap.size by rw [← hW4]; simp [World.setCell]).trans hs3
  have y0 : W3.cell? ⟨n0, 0, none⟩ = some (.slice F fn fc) := hbx3.cell 0 _ rfl
  have y0f := hbx3.free 0
  have hB4 : Below w.heap.size w W4 := hB3.trans (hc4.toBelow (fun k hk => by rw [List.mem_singleton] at hk; omega) (by omega))
  have z0 : W4.cell? ⟨d, 0, none⟩ = some (.slice F fn fc) := (hB4.cell (p := ⟨d, 0, none⟩) hdl).trans x0
  have hmm := @run_makeMap Try.prog
  clear H R hB1 hb1 hB2 hT2 hb2 hb3 hB3
  go_enter Try.func21, Try.ntmps21
  go_wp2_with fail
  have HST : Hid (TwIn w W4 n0 (n0 + 1) (n0 + 2) (fun k => if k = n0 then 1 else 0) ⟨.slice F fn fc, made, .slice RA rn rc, .slice SA sn sc, .slice C cn cc, quota, full, ahead, off, calls⟩ none 0 0 fs [] [] nm su dt) := Lib.hid (by
    refine ⟨hB4, hbx4, (hc4.same (n0 + 2) (by omega) (by simp)).trans hv3, hT3.same (hc4.same (n0 + 1) (by omega) (by simp)), SLine.nil 1 _, by simp, by simp, by simp, fun i hi => if_neg (by omega), fun i hi => if_neg (by omega), fun k hk => (by cases hk), fun i f hf hi => (by omega), fun p hp => (by cases hp), rfl⟩)
  clear x0 x1 x2 x3 x4 x5 x6 x7 x8 x9 hW1 hs1 hW2 hs2 hW3 hs3 hT3 hv3 hbx3 hW4 hc4 hbx4 y0 y0f hs4 z0 hmm
  go_loopg [22] (fn + 1) (fun kx i wq => ∃ j : Nat, i = .int .i64 j ∧ j ≤ fn ∧ Hid (∃ own2 GA gc gs L, TwIn w wq n0 (n0 + 1) (n0 + 2) own2 ⟨.slice F fn fc, made, .slice RA rn rc, .slice SA sn sc, .slice C cn cc, quota, full, ahead, off, calls⟩ GA j gc fs gs L nm su dt) ∧ fn - j + 1 ≤ kx)
  case atStart => exact ⟨0, rfl, Nat.zero_le _, Lib.hid ⟨_, _, _, _, _, HST.out⟩, Nat.le_refl _⟩
  case round =>
    clear HST hB4
    obtain ⟨j, rfl, hj, HI, hm⟩ := hrel
    obtain ⟨own2, GA, gc, gs, L, T⟩ := HI.out
    rcases Nat.lt_or_ge j fn with hlt | hge
    · obtain ⟨v, hv⟩ : ∃ v, fs[j]? = some v := ⟨_, List.getElem?_eq_getElem (by have := HFL.out; omega)⟩
      have hmem := List.mem_of_getElem? hv
      obtain ⟨f, A, n, c, rfl, hof, hfa, hsl, hoA, hn1, hsu⟩ := HH.out.file v hmem
      obtain ⟨g, o, rfl, hg, hgc, _⟩ := (HH.out.line.below T.below).at (by omega)
      have d0 := (hgc j (by omega)).trans hv
      obtain ⟨num, hnm⟩ : ∃ num, nm (.pointer (some ⟨f, 0, none⟩)) = num := ⟨_, rfl⟩
      obtain ⟨sure, hsu2⟩ : ∃ sure, su (.pointer (some ⟨f, 0, none⟩)) = sure := ⟨_, rfl⟩
      rw [hnm, hsu2] at hfa
      rw [hsu2] at hsu
      have hnumb := HH.out.num _ hmem
      rw [hnm] at hnumb
      have hmade := HH.out.made.2
      have hn80 : num ≤ 80000 := by dsimp only at hnumb hmade; omega
      have hfl : f < w.heap.size := lt_of_block hfa
      have hzw := T.below.size
      have HFM : Hid (f < n0) := Lib.hid (by omega)
      have HS9 : Hid (wr.drew.cell? ⟨n0 + 2, 0, none⟩ = some (.map (some (n0 + 1))) ∧ FileAt wr.drew f num A n c sure) := Lib.hid ⟨cell_of_one T.var, hfa.same (T.below.block f hfl)⟩
      have HLT : Hid (n0 + 2 < wr.drew.heap.size ∧ f < wr.drew.heap.size) := Lib.hid ⟨lt_of_block T.var, by show f < wr.heap.size; omega⟩
      have HCL := Lib.hid (cloneB wr.drew A n c _ (hsl.below T.below).drew (by omega) (fun u hu => by obtain ⟨z, _, _, e⟩ := HH.out.bytes _ hmem u hu; rw [e]; rfl))
      have HTW : Hid (∀ V, Below wr.drew.heap.size wr.drew V → TwinsAt V (n0 + 1) L) := Lib.hid (fun V hV => T.twins.same (hV.block (n0 + 1) T.twins.lt))
      have HLL := Lib.hid T.len
      have HNEW : Hid (∀ p ∈ L, p.1 ≠ num) := Lib.hid (fun p hp e => by
        obtain ⟨f', h1, h2⟩ := T.num p hp
        obtain ⟨i, hi, h3⟩ := mem_take_at' h1
        have h4 := rises_inj HH.out.rises (List.mem_of_getElem? h3) hmem (by rw [← h2, e, hnm])
        rw [h4] at h3
        have := HH.out.fi i j _ h3 hv
        omega)
      have HV := Lib.hid (And.intro hv (And.intro hnm (And.intro hsu2 (And.intro hn1 hsu))))
      have HT := Lib.hid T
      have hlt' : (j : Int) < (fn : Int) := by omega
      have hj0 : (0 : Int) ≤ (j : Int) := by omega
      clear T HI hgc hfa hsl hoA hn1 hsu hnumb hmade hfl hzw hnm hsu2 hmem hof
      go_upto_region 9 with fail
      refine wp_region_held_drew (S := fun V => V.cell? ⟨n0 + 2, 0, none⟩ = some (.map (some (n0 + 1))) ∧ FileAt V f num A n c sure) (by kernel_rfl) HS9.out (fun _ => ?_)
      refine tz 0 26 (v := (.map (some (n0 + 1)))) rfl rfl ?_ HS9.out ?_
      · intro w hSw
        have q0 := hSw.1
        have q1 := hSw.2.c0
        have q2 := hSw.2.c1
        have q3 := hSw.2.c2
        go_simp
      simp only [Act.put, List.setIfInBounds_toArray, List.set_cons_zero, List.set_cons_succ]
      refine tz 1 27 (v := (.pointer (some ⟨f, 0, none⟩))) rfl rfl ?_ HS9.out ?_
      · intro w hSw
        go_simp
      simp only [Act.put, List.setIfInBounds_toArray, List.set_cons_zero, List.set_cons_succ]
      refine tz 2 28 (v := (.pointer (some ⟨f, 0, none⟩))) rfl rfl ?_ HS9.out ?_
      · intro w hSw
        go_simp
      simp only [Act.put, List.setIfInBounds_toArray, List.set_cons_zero, List.set_cons_succ]
      refine tz 3 29 (v := (.pointer (some ⟨f, 0, none⟩))) rfl rfl ?_ HS9.out ?_
      · intro w hSw
        go_simp
      simp only [Act.put, List.setIfInBounds_toArray, List.set_cons_zero, List.set_cons_succ]
      refine tz 4 30 (v := (.int .i64 (num : Int))) rfl rfl ?_ HS9.out ?_
      · intro w hSw
        have q0 := hSw.1
        have q1 := hSw.2.c0
        have q2 := hSw.2.c1
        have q3 := hSw.2.c2
        go_simp
      simp only [Act.put, List.setIfInBounds_toArray, List.set_cons_zero, List.set_cons_succ]
      refine tz 5 31 (v := (.pointer (some ⟨f, 0, none⟩))) rfl rfl ?_ HS9.out ?_
      · intro w hSw
        go_simp
      simp only [Act.put, List.setIfInBounds_toArray, List.set_cons_zero, List.set_cons_succ]
      refine tz 6 32 (v := (.pointer (some ⟨f, 0, none⟩))) rfl rfl ?_ HS9.out ?_
      · intro w hSw
        go_simp
      simp only [Act.put, List.setIfInBounds_toArray, List.set_cons_zero, List.set_cons_succ]
      refine tz 7 33 (v := (.pointer (some ⟨f, 0, none⟩))) rfl rfl ?_ HS9.out ?_
      · intro w hSw
        go_simp
      simp only [Act.put, List.setIfInBounds_toArray, List.set_cons_zero, List.set_cons_succ]
      refine tz 8 34 (v := (.int .i64 (num : Int))) rfl rfl ?_ HS9.out ?_
      · intro w hSw
        have q0 := hSw.1
        have q1 := hSw.2.c0
        have q2 := hSw.2.c1
        have q3 := hSw.2.c2
        go_simp
      simp only [Act.put, List.setIfInBounds_toArray, List.set_cons_zero, List.set_cons_succ]
      refine tz 9 35 (v := (.pointer (some ⟨f, 0, none⟩))) rfl rfl ?_ HS9.out ?_
      · intro w hSw
        go_simp
      simp only [Act.put, List.setIfInBounds_toArray, List.set_cons_zero, List.set_cons_succ]
      refine tz 10 36 (v := (.pointer (some ⟨f, 0, none⟩))) rfl rfl ?_ HS9.out ?_
      · intro w hSw
        go_simp
      simp only [Act.put, List.setIfInBounds_toArray, List.set_cons_zero, List.set_cons_succ]
      refine tz 11 37 (v := (.pointer (some ⟨f, 1, none⟩))) rfl rfl ?_ HS9.out ?_
      · intro w hSw
        go_simp
      simp only [Act.put, List.setIfInBounds_toArray, List.set_cons_zero, List.set_cons_succ]
      refine tz 12 38 (v := (.slice A n c)) rfl rfl ?_ HS9.out ?_
      · intro w hSw
        have q0 := hSw.1
        have q1 := hSw.2.c0
        have q2 := hSw.2.c1
        have q3 := hSw.2.c2
        go_simp
      simp only [Act.put, List.setIfInBounds_toArray, List.set_cons_zero, List.set_cons_succ]
      refine tz 14 40 (v := (.pointer (some ⟨f, 0, none⟩))) rfl rfl ?_ HS9.out ?_
      · intro w hSw
        go_simp
      simp only [Act.put, List.setIfInBounds_toArray, List.set_cons_zero, List.set_cons_succ]
      refine tz 15 41 (v := (.pointer (some ⟨f, 0, none⟩))) rfl rfl ?_ HS9.out ?_
      · intro w hSw
        go_simp
      simp only [Act.put, List.setIfInBounds_toArray, List.set_cons_zero, List.set_cons_succ]
      refine tz 16 42 (v := (.pointer (some ⟨f, 2, none⟩))) rfl rfl ?_ HS9.out ?_
      · intro w hSw
        go_simp
      simp only [Act.put, List.setIfInBounds_toArray, List.set_cons_zero, List.set_cons_succ]
      refine tz 17 43 (v := (.int .i64 (sure : Int))) rfl rfl ?_ HS9.out ?_
      · intro w hSw
        have q0 := hSw.1
        have q1 := hSw.2.c0
        have q2 := hSw.2.c1
        have q3 := hSw.2.c2
        go_simp
      simp only [Act.put, List.setIfInBounds_toArray, List.set_cons_zero, List.set_cons_succ]
      refine wpAnyH_ready (rs := [13]) (by kernel_rfl) (by simp) ?_
      refine AllReadyH.cons rfl (fun K hK => ?_) AllReadyH.nil
      go_simp
      go_at_call 48
      with_reducible refine HCL.out.mono ?_
      rintro e w2 ⟨⟨A2, c2, rfl, hl2, hA2⟩, hB2⟩
      have HX2 := Lib.hid (And.intro hl2 (And.intro hA2 hB2))
      have HS2 : Hid (w2.cell? ⟨n0 + 2, 0, none⟩ = some (.map (some (n0 + 1))) ∧ FileAt w2 f num A n c sure) := Lib.hid ⟨(hB2.cell (p := ⟨n0 + 2, 0, none⟩) HLT.out.1).trans HS9.out.1, HS9.out.2.same (hB2.block f HLT.out.2)⟩
      obtain ⟨w3, hw3⟩ : ∃ w3, w2.alloc (.cells #[.int .i64 (num : Int), .slice A2 n c2, .int .i64 (sure : Int)] 85) = w3 := ⟨_, rfl⟩
      have hB3 : Below w2.heap.size w2 w3 := by rw [← hw3]; exact (Below.refl _ w2).alloc (Nat.le_refl _) _
      have HB3 := Lib.hid hB3
      have HW3 := Lib.hid hw3
      have hz2 : Below wr.drew.heap.size wr.drew w3 := hB2.trans (hB3.mono hB2.size)
      have HS3 : Hid (w3.cell? ⟨n0 + 2, 0, none⟩ = some (.map (some (n0 + 1))) ∧ FileAt w3 f num A n c sure) := Lib.hid ⟨(hz2.cell (p := ⟨n0 + 2, 0, none⟩) HLT.out.1).trans HS9.out.1, HS9.out.2.same (hz2.block f HLT.out.2)⟩
      obtain ⟨w4, hrun4, hT4, hc4⟩ := (HTW.out w3 hz2).put num w2.heap.size (by omega) (by have := HLL.out; omega) HNEW.out
      have HS4 : Hid (w4.cell? ⟨n0 + 2, 0, none⟩ = some (.map (some (n0 + 1))) ∧ FileAt w4 f num A n c sure) := Lib.hid ⟨(World.cell?_of_block (w := w3) (a := ⟨n0 + 2, 0, none⟩) (hc4.same (n0 + 2) (by have := hz2.size; have := HLT.out.1; omega) (by simp))).trans HS3.out.1, HS3.out.2.same (hc4.same f (lt_of_block HS3.out.2) (by simp only [List.mem_singleton]; have := HFM.out; omega))⟩
      have HX4 := Lib.hid (And.intro hT4 hc4)
      clear hl2 hA2 hB2 hz2 hT4 hc4 hB3
      refine hK.out _ _ HS2.out (fun _ => ?_)
      clear hK K
      try simp only [Act.put, List.setIfInBounds_toArray, List.set_cons_zero, List.set_cons_succ]
      refine tz 18 44 (v := (.agg #[.int .i64 (num : Int), .slice A2 n c2, .int .i64 (sure : Int)])) rfl rfl ?_ HS2.out ?_
      · intro w hSw
        go_simp
      simp only [Act.put, List.setIfInBounds_toArray, List.set_cons_zero, List.set_cons_succ]
      refine wpAnyH_ready (rs := [19]) (by kernel_rfl) (by simp) ?_
      refine AllReadyH.cons rfl (fun K hK => ?_) AllReadyH.nil
      go_simp
      refine hK.out _ _ HS3.out (fun _ => ?_)
      clear hK K
      try simp only [Act.put, List.setIfInBounds_toArray, List.set_cons_zero, List.set_cons_succ]
      refine wpAnyH_ready (rs := [20]) (by kernel_rfl) (by simp) ?_
      refine AllReadyH.cons rfl (fun K hK => ?_) AllReadyH.nil
      go_simp
      refine hK.out _ _ HS4.out (fun _ => ?_)
      clear hK K
      try simp only [Act.put, List.setIfInBounds_toArray, List.set_cons_zero, List.set_cons_succ]
      refine wpAnyH_done (by kernel_rfl) ?_ _
      have hzr := HX2.out.2.2.size
      have hz3 := HB3.out.size
      have hz4 := HX4.out.2.size
      have hk4 : ∀ k, k < wr.heap.size → k ≠ n0 + 1 → w4.heap[k]? = wr.heap[k]? := fun k h1 h2 => (HX4.out.2.same k (by have : wr.drew.heap.size = wr.heap.size := rfl; omega) (by simp only [List.mem_singleton]; exact h2)).trans ((HB3.out.block k (by have : wr.drew.heap.size = wr.heap.size := rfl; omega)).trans (HX2.out.2.2.block k h1))
      have hn0w : n0 < wr.heap.size := HT.out.box.lt
      have hb4 : DBoxAt w4.drew n0 ⟨.slice GA j gc, made, .slice RA rn rc, .slice SA sn sc, .slice C cn cc, quota, full, ahead, off, calls⟩ := (hk4 n0 hn0w (by omega)).trans HT.out.box
      have hL4 : SLine 1 w4.drew GA j gc gs := HT.out.line.same (by show wr.heap.size ≤ w4.heap.size; have : wr.drew.heap.size = wr.heap.size := rfl; omega) (fun k hk => hk4 k (HT.out.line.lt k hk) (fun e => by have := HT.out.oF k hk; rw [e] at this; have := HT.out.oM; omega))
      obtain ⟨C2, c5, w5, hr5, hl5, hc5, hf5, _⟩ := push_s 1 w4.drew 64 82 64 _ 8 Try.underlying64 infoFileP rfl (by decide) GA j gc gs hL4 (by omega) [(.pointer (some ⟨w2.heap.size, 0, none⟩))] rfl (fun u hu => by rw [List.mem_singleton] at hu; rw [hu]; rfl)
      have hG0 : n0 ∉ blk GA := fun hm => by have := HT.out.oF n0 hm; have := HT.out.o1; omega
      have hG2 : n0 + 2 ∉ blk GA := fun hm => by have := HT.out.oF _ hm; have := HT.out.oT; omega
      have hG1 : n0 + 1 ∉ blk GA := fun hm => by have := HT.out.oF _ hm; have := HT.out.oM; omega
      have hGf : f ∉ blk GA := fun hm => by have := HT.out.oF _ hm; have := HT.out.o0 f (by have := HFM.out; omega); omega
      have hb5 : DBoxAt w5 n0 ⟨.slice GA j gc, made, .slice RA rn rc, .slice SA sn sc, .slice C cn cc, quota, full, ahead, off, calls⟩ := hb4.chg hc5 hG0
      have e0 : w4.drew.cell? ⟨n0, 0, none⟩ = some (.slice GA j gc) := hb4.cell 0 _ rfl
      obtain ⟨w4a, hw4a⟩ : ∃ w4a, w4.drew.alloc (.cells #[(.pointer (some ⟨w2.heap.size, 0, none⟩))] 82) = w4a := ⟨_, rfl⟩
      have hba : Below w4.drew.heap.size w4.drew w4a := by rw [← hw4a]; exact (Below.refl _ _).alloc (Nat.le_refl _) _
      have hb4a := hb4.below hba
      have e0a : w4a.cell? ⟨n0, 0, none⟩ = some (.slice GA j gc) := hb4a.cell 0 _ rfl
      have e5 : w5.cell? ⟨n0, 0, none⟩ = some (.slice GA j gc) := hb5.cell 0 _ rfl
      have e5f := hb5.free 0
      have HR5 : Hid ((Builtin.append_ #[64, 64] 64 #[.slice GA j gc, .slice (some ⟨w4.drew.heap.size, 0, none⟩) 1 1]).run Try.prog w4a = .ok (.slice C2 (j + 1) c5) w5) := Lib.hid (by rw [← hw4a]; exact hr5)
      have HS10 : Hid (w4.drew.cell? ⟨n0 + 2, 0, none⟩ = some (.map (some (n0 + 1))) ∧ FileAt w4.drew f num A n c sure ∧ TwinsAt w4.drew (n0 + 1) (L ++ [(num, w2.heap.size)])) := Lib.hid ⟨HS4.out.1, HS4.out.2, HX4.out.1⟩
      have HS10a : Hid (w4a.cell? ⟨n0 + 2, 0, none⟩ = some (.map (some (n0 + 1))) ∧ FileAt w4a f num A n c sure ∧ TwinsAt w4a (n0 + 1) (L ++ [(num, w2.heap.size)])) := Lib.hid ⟨(hba.cell (p := ⟨n0 + 2, 0, none⟩) (World.block_lt_of_cell? w4.drew _ HS10.out.1)).trans HS10.out.1, HS10.out.2.1.same (hba.block f (lt_of_block HS10.out.2.1)), HS10.out.2.2.same (hba.block _ HS10.out.2.2.lt)⟩
      have HS10b : Hid (w5.cell? ⟨n0 + 2, 0, none⟩ = some (.map (some (n0 + 1))) ∧ FileAt w5 f num A n c sure ∧ TwinsAt w5 (n0 + 1) (L ++ [(num, w2.heap.size)])) := Lib.hid ⟨(World.cell?_of_block (w := w4.drew) (a := ⟨n0 + 2, 0, none⟩) (hc5.same (n0 + 2) (World.block_lt_of_cell? w4.drew _ HS10.out.1) hG2)).trans HS10.out.1, HS10.out.2.1.same (hc5.same f (lt_of_block HS10.out.2.1) hGf), HS10.out.2.2.same (hc5.same _ HS10.out.2.2.lt hG1)⟩
      have hc6 : Chg [n0] w5 (w5.setCell ⟨n0, 0, none⟩ (.slice C2 (j + 1) c5)) := (Chg.refl _ w5).setCell n0 0 _ (.inl (by simp))
      have HS10c : Hid ((w5.setCell ⟨n0, 0, none⟩ (.slice C2 (j + 1) c5)).cell? ⟨n0 + 2, 0, none⟩ = some (.map (some (n0 + 1))) ∧ FileAt (w5.setCell ⟨n0, 0, none⟩ (.slice C2 (j + 1) c5)) f num A n c sure ∧ TwinsAt (w5.setCell ⟨n0, 0, none⟩ (.slice C2 (j + 1) c5)) (n0 + 1) (L ++ [(num, w2.heap.size)])) := Lib.hid ⟨(World.cell?_of_block (w := w5) (a := ⟨n0 + 2, 0, none⟩) (hc6.same (n0 + 2) (World.block_lt_of_cell? w5 _ HS10b.out.1) (by simp))).trans HS10b.out.1, HS10b.out.2.1.same (hc6.same f (lt_of_block HS10b.out.2.1) (by rw [List.mem_singleton]; have := HFM.out; omega)), HS10b.out.2.2.same (hc6.same _ HS10b.out.2.2.lt (by simp))⟩
      have HSTEP : Hid (∃ own2 GA gc gs L, TwIn w (w5.setCell ⟨n0, 0, none⟩ (.slice C2 (j + 1) c5)) n0 (n0 + 1) (n0 + 2) own2 ⟨.slice (some ⟨g, o, none⟩) fn fc, made, .slice RA rn rc, .slice SA sn sc, .slice C cn cc, quota, full, ahead, off, calls⟩ GA (j + 1) gc fs gs L nm su dt) := Lib.hid (by
        have hnm := HV.out.2.1
        have hsu := HV.out.2.2.1
        obtain ⟨own', T'⟩ := HT.out.step ⟨by omega, by omega⟩ (by omega) (by omega) (by omega) _ HV.out.1 n A2 c2 w2 ((Below.refl _ wr).drew.trans HX2.out.2.2) HX2.out.1 HX2.out.2.1 HV.out.2.2.2.1 (by rw [hsu]; exact HV.out.2.2.2.2) w3 (by rw [hnm, hsu]; exact HW3.out) w4.drew (by rw [hnm]; exact HX4.out.1) HX4.out.2.drew C2 c5 w5 hl5 hc5 hf5
        exact ⟨own', _, _, _, _, T'⟩)
      clear hzr hz3 hz4 hk4 hb4 hL4 hr5 hl5 hc5 hf5 hG0 hG1 hG2 hGf hb5 hba hb4a hc6
      go_upto_region 10 with fail
      refine wp_region_held_drew (S := fun V => V.cell? ⟨n0 + 2, 0, none⟩ = some (.map (some (n0 + 1))) ∧ FileAt V f num A n c sure ∧ TwinsAt V (n0 + 1) (L ++ [(num, w2.heap.size)])) (by kernel_rfl) HS10.out (fun _ => ?_)
      refine tz 0 46 (v := (.pointer (some ⟨n0, 0, none⟩))) rfl rfl ?_ HS10.out ?_
      · intro w hSw
        go_simp
      simp only [Act.put, List.setIfInBounds_toArray, List.set_cons_zero, List.set_cons_succ]
      refine tz 2 48 (v := (.map (some (n0 + 1)))) rfl rfl ?_ HS10.out ?_
      · intro w hSw
        have q0 := hSw.1
        have q1 := hSw.2.1.c0
        have q2 := hSw.2.2.get (n := num) (b := w2.heap.size) (by simp) (by omega)
        go_simp
      simp only [Act.put, List.setIfInBounds_toArray, List.set_cons_zero, List.set_cons_succ]
      refine tz 3 49 (v := (.pointer (some ⟨f, 0, none⟩))) rfl rfl ?_ HS10.out ?_
      · intro w hSw
        go_simp
      simp only [Act.put, List.setIfInBounds_toArray, List.set_cons_zero, List.set_cons_succ]
      refine tz 4 50 (v := (.pointer (some ⟨f, 0, none⟩))) rfl rfl ?_ HS10.out ?_
      · intro w hSw
        go_simp
      simp only [Act.put, List.setIfInBounds_toArray, List.set_cons_zero, List.set_cons_succ]
      refine tz 5 51 (v := (.pointer (some ⟨f, 0, none⟩))) rfl rfl ?_ HS10.out ?_
      · intro w hSw
        go_simp
      simp only [Act.put, List.setIfInBounds_toArray, List.set_cons_zero, List.set_cons_succ]
      refine tz 6 52 (v := (.int .i64 (num : Int))) rfl rfl ?_ HS10.out ?_
      · intro w hSw
        have q0 := hSw.1
        have q1 := hSw.2.1.c0
        have q2 := hSw.2.2.get (n := num) (b := w2.heap.size) (by simp) (by omega)
        go_simp
      simp only [Act.put, List.setIfInBounds_toArray, List.set_cons_zero, List.set_cons_succ]
      refine tz 7 53 (v := (.pointer (some ⟨w2.heap.size, 0, none⟩))) rfl rfl ?_ HS10.out ?_
      · intro w hSw
        have q0 := hSw.1
        have q1 := hSw.2.1.c0
        have q2 := hSw.2.2.get (n := num) (b := w2.heap.size) (by simp) (by omega)
        go_simp
      simp only [Act.put, List.setIfInBounds_toArray, List.set_cons_zero, List.set_cons_succ]
      refine wpAnyH_ready (rs := [1, 8]) (by kernel_rfl) (by simp) ?_
      refine AllReadyH.cons rfl (fun K hK => ?_) (AllReadyH.cons rfl (fun K hK => ?_) AllReadyH.nil)
      · go_simp
        refine hK.out _ _ HS10.out (fun _ => ?_)
        clear hK K
        try simp only [Act.put, List.setIfInBounds_toArray, List.set_cons_zero, List.set_cons_succ]
        refine wpAnyH_ready (rs := [8]) (by kernel_rfl) (by simp) ?_
        refine AllReadyH.cons rfl (fun K hK => ?_) AllReadyH.nil
        go_simp
        refine hK.out _ _ HS10a.out (fun _ => ?_)
        clear hK K
        try simp only [Act.put, List.setIfInBounds_toArray, List.set_cons_zero, List.set_cons_succ]
        refine wpAnyH_ready (rs := [9]) (by kernel_rfl) (by simp) ?_
        refine appendR_ready rfl (by kernel_rfl) _ _ _ _ rfl _ _ rfl rfl _ _ HR5.out HS10b.out ?_
        try simp only [Act.put, List.setIfInBounds_toArray, List.set_cons_zero, List.set_cons_succ]
        refine tz 10 56 (v := (.pointer (some ⟨n0, 0, none⟩))) rfl rfl ?_ HS10b.out ?_
        · intro w hSw
          go_simp
        simp only [Act.put, List.setIfInBounds_toArray, List.set_cons_zero, List.set_cons_succ]
        refine wpAnyH_ready (rs := [11]) (by kernel_rfl) (by simp) ?_
        refine AllReadyH.cons rfl (fun K hK => ?_) AllReadyH.nil
        go_simp
        refine hK.out _ _ HS10c.out (fun _ => ?_)
        clear hK K
        try simp only [Act.put, List.setIfInBounds_toArray, List.set_cons_zero, List.set_cons_succ]
        refine wpAnyH_done (by kernel_rfl) ?_ _
        go_wp2
        go_roundg (fn - (j + 1) + 1)
        case measure => omega
        case rel => exact ⟨j + 1, by go_num, by omega, HSTEP, Nat.le_refl _⟩
      · go_simp
        refine hK.out _ _ HS10a.out (fun _ => ?_)
        clear hK K
        try simp only [Act.put, List.setIfInBounds_toArray, List.set_cons_zero, List.set_cons_succ]
        refine wpAnyH_ready (rs := [1]) (by kernel_rfl) (by simp) ?_
        refine AllReadyH.cons rfl (fun K hK => ?_) AllReadyH.nil
        go_simp
        refine hK.out _ _ HS10a.out (fun _ => ?_)
        clear hK K
        try simp only [Act.put, List.setIfInBounds_toArray, List.set_cons_zero, List.set_cons_succ]
        refine wpAnyH_ready (rs := [9]) (by kernel_rfl) (by simp) ?_
        refine appendR_ready rfl (by kernel_rfl) _ _ _ _ rfl _ _ rfl rfl _ _ HR5.out HS10b.out ?_
        try simp only [Act.put, List.setIfInBounds_toArray, List.set_cons_zero, List.set_cons_succ]
        refine tz 10 56 (v := (.pointer (some ⟨n0, 0, none⟩))) rfl rfl ?_ HS10b.out ?_
        · intro w hSw
          go_simp
        simp only [Act.put, List.setIfInBounds_toArray, List.set_cons_zero, List.set_cons_succ]
        refine wpAnyH_ready (rs := [11]) (by kernel_rfl) (by simp) ?_
        refine AllReadyH.cons rfl (fun K hK => ?_) AllReadyH.nil
        go_simp
        refine hK.out _ _ HS10c.out (fun _ => ?_)
        clear hK K
        try simp only [Act.put, List.setIfInBounds_toArray, List.set_cons_zero, List.set_cons_succ]
        refine wpAnyH_done (by kernel_rfl) ?_ _
        go_wp2
        go_roundg (fn - (j + 1) + 1)
        case measure => omega
        case rel => exact ⟨j + 1, by go_num, by omega, HSTEP, Nat.le_refl _⟩
    · obtain rfl : fn = j := by omega
      rename World => wo
      have hP : Pairs fs gs := HH.out.pairs (by have := T.glen; omega) (fun i f hf => by
        obtain ⟨tf, t1, t2, t3⟩ := T.two i f hf (by have := (List.getElem?_eq_some_iff.1 hf).1; omega)
        exact ⟨tf, t1, t3⟩)
      have HP := Lib.hid hP
      have HT := Lib.hid T
      have HO : Hid (∀ V, Below w.heap.size w V → V.heap[n0 + 2]? = wo.heap[n0 + 2]? → V.heap[n0 + 1]? = wo.heap[n0 + 1]? → ∀ a, (a = none ∨ Value.pointer a ∈ fs) → Calls Try.prog 49 #[.pointer a, .pointer (some ⟨n0 + 2, 0, none⟩)] V fun e W' => e = .returned (.pointer (phi fs gs a)) ∧ Below V.heap.size V W') := Lib.hid (fun V hbw hV2 hV1 a ha => by
        rcases ha with rfl | ha
        · rw [phi_nil]
          exact twin_nil V (n0 + 2)
        · obtain ⟨i, hi, e⟩ := List.mem_iff_getElem.1 ha
          have hf : fs[i]? = some (.pointer a) := by rw [List.getElem?_eq_getElem hi, e]
          obtain ⟨f, A, n, c, ef, hof, hfa, hsl, hoA, hn1, hsu⟩ := HH.out.file _ ha
          cases ef
          obtain ⟨tf, t1, t2, t3⟩ := HT.out.two i _ hf (by omega)
          have hm := HH.out.num _ ha
          have hmd := HH.out.made.2
          rw [phi_at HP.out hf t1]
          exact twin_any V f _ A n c _ (hfa.same (hbw.block f (lt_of_block hfa))) (by dsimp only at hm hmd; omega) (n0 + 2) (n0 + 1) (cell_of_one (hV2.trans HT.out.var)) L (HT.out.twins.same hV1) tf t2)
      have hwo : ∀ W, Below wo.drew.heap.size wo.drew W → Below w.heap.size w W := fun W hW => T.below.drew.trans (hW.mono T.below.size)
      have hwo2 : ∀ W, Below wo.drew.heap.size wo.drew W → W.heap[n0 + 2]? = wo.heap[n0 + 2]? ∧ W.heap[n0 + 1]? = wo.heap[n0 + 1]? := fun W hW => ⟨hW.block (n0 + 2) (lt_of_block T.var), hW.block (n0 + 1) T.twins.lt⟩
      have HBX : Hid (DBoxAt wo.drew n0 ⟨.slice GA fn gc, made, .slice RA rn rc, .slice SA sn sc, .slice C cn cc, quota, full, ahead, off, calls⟩) := Lib.hid T.box
      have HDL : Hid (d < n0 ∧ d < wo.drew.heap.size) := Lib.hid ⟨by omega, by have := T.below.size; show d < wo.heap.size; omega⟩
      have hrow : ∀ V, Below wo.drew.heap.size wo.drew V → RowAtS V d 2 RA rn rc ps ∧ RowAtS V d 3 SA sn sc ss := fun V hV => by
        have hbw := (T.below.drew).trans (hV.mono T.below.size)
        have hbd := HH.out.box.below hbw
        exact ⟨⟨hbd.cell 2 _ rfl, HH.out.nrow.below hbw⟩, ⟨hbd.cell 3 _ rfl, HH.out.srow.below hbw⟩⟩
      have hlen := HH.out.rlen HR.out
      have hsz := HH.out.lenC
      have hnowl := (layAll_len chl ss HH.out.srow.rises HH.out.chs.two).2
      have hchl := HH.out.chs.1
      have hcll := HH.out.cline.1
      have hssl := HH.out.srow.len
      have hpsl := HH.out.nrow.len
      have hlay := HH.out.lay
      have hrn : rn ≤ 100000 := by rw [← hpsl, hlay]; omega
      have hcn : cn ≤ 40000 := by omega
      have hccc : cn ≤ cc := HH.out.cline.2.1
      have HCL : Hid (chl.length = cn) := Lib.hid (by omega)
      have HC1 := Lib.hid (copied_any wo.drew d 2 RA rn rc ps (hrow _ (Below.refl _ _)).1 hrn (fun p hp => by obtain ⟨f, e⟩ := HH.out.ptr _ (HH.out.nin p hp); exact ⟨_, e⟩) 49 #[.pointer (some ⟨n0 + 2, 0, none⟩)] clone1_enters (phi fs gs) (fun W hW p hp a ha => HO.out W (hwo W hW) (hwo2 W hW).1 (hwo2 W hW).2 a (.inr (by rw [← ha]; exact HH.out.nin p hp))))
      have HC2 : Hid (∀ V, Below wo.drew.heap.size wo.drew V → _) := Lib.hid (fun V hV => copied_any V d 3 SA sn sc ss (hrow V hV).2 (by omega) (fun p hp => by obtain ⟨f, e⟩ := HH.out.ptr _ (HH.out.sin p hp); exact ⟨_, e⟩) 49 #[.pointer (some ⟨n0 + 2, 0, none⟩)] clone1_enters (phi fs gs) (fun W hW p hp a ha => HO.out W (hwo W (hV.trans (hW.mono hV.size))) (hwo2 W (hV.trans (hW.mono hV.size))).1 (hwo2 W (hV.trans (hW.mono hV.size))).2 a (.inr (by rw [← ha]; exact HH.out.sin p hp))))
      clear T hP HI hrow hwo hwo2 hlen hsz hnowl hchl hcll hssl hpsl hlay hrn
      go_upto_region 13 with fail
      refine wp_region_held_drew (S := fun V => True) (by kernel_rfl) trivial (fun _ => ?_)
      refine tz 0 59 (v := (.pointer (some ⟨d, 0, none⟩))) rfl rfl ?_ trivial ?_
      · intro w hSw
        go_simp
      simp only [Act.put, List.setIfInBounds_toArray, List.set_cons_zero, List.set_cons_succ]
      refine tz 1 60 (v := (.pointer (some ⟨d, 0, none⟩))) rfl rfl ?_ trivial ?_
      · intro w hSw
        go_simp
      simp only [Act.put, List.setIfInBounds_toArray, List.set_cons_zero, List.set_cons_succ]
      refine tz 2 61 (v := (.pointer (some ⟨d, 2, none⟩))) rfl rfl ?_ trivial ?_
      · intro w hSw
        go_simp
      simp only [Act.put, List.setIfInBounds_toArray, List.set_cons_zero, List.set_cons_succ]
      refine tz 3 62 (v := (.func (.func 49) #[] #[.pointer (some ⟨n0 + 2, 0, none⟩)])) rfl rfl ?_ trivial ?_
      · intro w hSw
        go_simp
      simp only [Act.put, List.setIfInBounds_toArray, List.set_cons_zero, List.set_cons_succ]
      refine tz 5 64 (v := (.pointer (some ⟨d, 0, none⟩))) rfl rfl ?_ trivial ?_
      · intro w hSw
        go_simp
      simp only [Act.put, List.setIfInBounds_toArray, List.set_cons_zero, List.set_cons_succ]
      refine tz 6 65 (v := (.pointer (some ⟨d, 0, none⟩))) rfl rfl ?_ trivial ?_
      · intro w hSw
        go_simp
      simp only [Act.put, List.setIfInBounds_toArray, List.set_cons_zero, List.set_cons_succ]
      refine tz 7 66 (v := (.pointer (some ⟨d, 3, none⟩))) rfl rfl ?_ trivial ?_
      · intro w hSw
        go_simp
      simp only [Act.put, List.setIfInBounds_toArray, List.set_cons_zero, List.set_cons_succ]
      refine tz 8 67 (v := (.func (.func 49) #[] #[.pointer (some ⟨n0 + 2, 0, none⟩)])) rfl rfl ?_ trivial ?_
      · intro w hSw
        go_simp
      simp only [Act.put, List.setIfInBounds_toArray, List.set_cons_zero, List.set_cons_succ]
      refine wpAnyH_ready (rs := [4]) (by kernel_rfl) (by simp) ?_
      refine AllReadyH.cons rfl (fun K hK => ?_) AllReadyH.nil
      go_simp
      go_at_call 50
      with_reducible refine HC1.out.mono ?_
      rintro e w5 ⟨⟨A2, n2, c2, rfl, hR2, hN2⟩, hB5⟩
      have HX5 := Lib.hid (And.intro hR2 (And.intro hN2 hB5))
      have HC2w := Lib.hid (HC2.out w5 hB5)
      clear hR2 hN2 hB5
      refine hK.out _ _ trivial (fun _ => ?_)
      clear hK K
      try simp only [Act.put, List.setIfInBounds_toArray, List.set_cons_zero, List.set_cons_succ]
      refine wpAnyH_ready (rs := [9]) (by kernel_rfl) (by simp) ?_
      refine AllReadyH.cons rfl (fun K hK => ?_) AllReadyH.nil
      go_simp
      go_at_call 50
      with_reducible refine HC2w.out.mono ?_
      rintro e w6 ⟨⟨A3, n3, c3, rfl, hR3, hN3⟩, hB6⟩
      have hB06 := HX5.out.2.2.trans (hB6.mono HX5.out.2.2.size)
      have hbx6 : DBoxAt w6 n0 ⟨.slice GA fn gc, made, .slice RA rn rc, .slice SA sn sc, .slice C cn cc, quota, full, ahead, off, calls⟩ := HBX.out.below hB06
      obtain ⟨w7, hw7⟩ : ∃ w7, w6.setCell ⟨n0, 2, none⟩ (.slice A2 n2 c2) = w7 := ⟨_, rfl⟩
      have hbx7 : DBoxAt w7 n0 ⟨.slice GA fn gc, made, .slice A2 n2 c2, .slice SA sn sc, .slice C cn cc, quota, full, ahead, off, calls⟩ := by rw [← hw7]; exact hbx6.set 2 _ _ rfl
      obtain ⟨w8, hw8⟩ : ∃ w8, w7.setCell ⟨n0, 3, none⟩ (.slice A3 n3 c3) = w8 := ⟨_, rfl⟩
      have hbx8 : DBoxAt w8 n0 ⟨.slice GA fn gc, made, .slice A2 n2 c2, .slice A3 n3 c3, .slice C cn cc, quota, full, ahead, off, calls⟩ := by rw [← hw8]; exact hbx7.set 3 _ _ rfl
      obtain ⟨w9, hw9⟩ : ∃ w9, w8.setCell ⟨n0, 4, none⟩ (.slice none 0 0) = w9 := ⟨_, rfl⟩
      have hbx9 : DBoxAt w9 n0 ⟨.slice GA fn gc, made, .slice A2 n2 c2, .slice A3 n3 c3, .slice none 0 0, quota, full, ahead, off, calls⟩ := by rw [← hw9]; exact hbx8.set 4 _ _ rfl
      have hc7 : Chg [n0] w6 w7 := by rw [← hw7]; exact (Chg.refl _ w6).setCell n0 2 _ (.inl (by simp))
      have hc8 : Chg [n0] w6 w8 := by rw [← hw8]; exact hc7.setCell n0 3 _ (.inl (by simp))
      have hc9 : Chg [n0] w6 w9 := by rw [← hw9]; exact hc8.setCell n0 4 _ (.inl (by simp))
      have g2 : w6.cell? ⟨n0, 2, none⟩ = some (.slice RA rn rc) := hbx6.cell 2 _ rfl
      have g2f := hbx6.free 2
      have g3 : w7.cell? ⟨n0, 3, none⟩ = some (.slice SA sn sc) := hbx7.cell 3 _ rfl
      have g3f := hbx7.free 3
      have g4 : w8.cell? ⟨n0, 4, none⟩ = some (.slice C cn cc) := hbx8.cell 4 _ rfl
      have g4f := hbx8.free 4
      have hd9 : w9.heap[d]? = w.heap[d]? := (hc9.same d (by have := hB06.size; have := HDL.out.2; show d < _; omega) (by rw [List.mem_singleton]; have := HDL.out.1; omega)).trans ((hB06.block d HDL.out.2).trans (HT.out.below.block d hdl))
      have x4 : w9.cell? ⟨d, 4, none⟩ = some (.slice C cn cc) := (World.cell?_of_block (w := w) (a := ⟨d, 4, none⟩) hd9).trans (HH.out.box.cell 4 _ rfl)
      have HK0 : Hid (ChIn w9 w9 n0 (phi fs gs) ⟨.slice GA fn gc, made, .slice A2 n2 c2, .slice A3 n3 c3, .slice none 0 0, quota, full, ahead, off, calls⟩ none 0 0 [] chl) := Lib.hid ⟨Chg.refl _ _, hbx9.lt, hbx9, SLine.nil 1 _, fun j hj => (by cases hj), fun i v c hv => (by simp at hv)⟩
      have HX6 := Lib.hid (And.intro hR3 (And.intro hN3 (And.intro hB06 hB6)))
      have HC9 := Lib.hid hc9
      clear hR3 hN3 hB6 hB06 hbx6 hbx7 hbx8 hbx9 hc7 hc8 hc9 hd9
      refine hK.out _ _ trivial (fun _ => ?_)
      clear hK K
      try simp only [Act.put, List.setIfInBounds_toArray, List.set_cons_zero, List.set_cons_succ]
      refine tz 10 69 (v := (.pointer (some ⟨n0, 2, none⟩))) rfl rfl ?_ trivial ?_
      · intro w hSw
        go_simp
      simp only [Act.put, List.setIfInBounds_toArray, List.set_cons_zero, List.set_cons_succ]
      refine wpAnyH_ready (rs := [11]) (by kernel_rfl) (by simp) ?_
      refine AllReadyH.cons rfl (fun K hK => ?_) AllReadyH.nil
      go_simp
      refine hK.out _ _ trivial (fun _ => ?_)
      clear hK K
      try simp only [Act.put, List.setIfInBounds_toArray, List.set_cons_zero, List.set_cons_succ]
      refine tz 12 70 (v := (.pointer (some ⟨n0, 3, none⟩))) rfl rfl ?_ trivial ?_
      · intro w hSw
        go_simp
      simp only [Act.put, List.setIfInBounds_toArray, List.set_cons_zero, List.set_cons_succ]
      refine wpAnyH_ready (rs := [13]) (by kernel_rfl) (by simp) ?_
      refine AllReadyH.cons rfl (fun K hK => ?_) AllReadyH.nil
      go_simp
      refine hK.out _ _ trivial (fun _ => ?_)
      clear hK K
      try simp only [Act.put, List.setIfInBounds_toArray, List.set_cons_zero, List.set_cons_succ]
      refine wpAnyH_done (by kernel_rfl) ?_ _
      go_wp2_with fail
      clear g2 g2f g3 g3f g4 g4f x4 hw7 hw8 hw9
      go_loopg [77] (cn + 1) (fun kx i wq => ∃ k : Nat, i = .int .i64 k ∧ k ≤ cn ∧ Hid (∃ CA cc2 css2, ChIn w9 wq n0 (phi fs gs) ⟨.slice GA fn gc, made, .slice A2 n2 c2, .slice A3 n3 c3, .slice none 0 0, quota, full, ahead, off, calls⟩ CA k cc2 css2 chl) ∧ cn - k + 1 ≤ kx)
      case atStart => exact ⟨0, rfl, Nat.zero_le _, Lib.hid ⟨_, _, _, HK0.out⟩, Nat.le_refl _⟩
      case round =>
        clear HK0 HC1 HC2 HC2w
        obtain ⟨k, rfl, hk, HI, hm⟩ := hrel
        obtain ⟨CA, cc2, css2, hT⟩ := HI.out
        rcases Nat.lt_or_ge k cn with hlt | hge
        · have hbw9 : Below w.heap.size w w9 := ((HT.out.below.trans (((Below.refl _ wo).drew.trans HX6.out.2.2.1).mono HT.out.below.size))).trans (HC9.out.toBelow (fun j hj => by rw [List.mem_singleton] at hj; omega) (by have := HT.out.below.size; have := HX6.out.2.2.1.size; have : wo.drew.heap.size = wo.heap.size := rfl; omega))
          have hbw : Below w.heap.size w wr := hbw9.trans (hT.chg.toBelow (fun j hj => by rw [List.mem_singleton] at hj; omega) (by have := hbw9.size; omega))
          obtain ⟨v, hv⟩ : ∃ v, css[k]? = some v := ⟨_, List.getElem?_eq_getElem (by have := HH.out.cline.1; omega)⟩
          obtain ⟨c, hc⟩ : ∃ c, chl[k]? = some c := ⟨_, List.getElem?_eq_getElem (by have := HCL.out; omega)⟩
          obtain ⟨qA, qc, rfl, hline, hoq, hc2, hsh⟩ := HH.out.chs.2 k v c hv hc
          obtain ⟨g, o, rfl, hg, hgc, _⟩ := (HH.out.cline.below hbw).at (by omega)
          have d0 := (hgc k (by omega)).trans hv
          have e4 : wr.drew.cell? ⟨n0, 4, none⟩ = some (.slice CA k cc2) := hT.box.cell 4 _ rfl
          have hwz := hT.chg.size
          have hw9 : Below wo.heap.size wo w6 := (Below.refl _ wo).drew.trans HX6.out.2.2.1
          have hM : ∀ i, i < wo.heap.size → i ≠ n0 → wr.heap[i]? = wo.heap[i]? := fun i hi hn => (hT.chg.same i (by have := hw9.size; have := HC9.out.size; omega) (by simp only [List.mem_singleton]; exact hn)).trans ((HC9.out.same i (by have := hw9.size; omega) (by simp only [List.mem_singleton]; exact hn)).trans (hw9.block i hi))
          have h2lt : n0 + 2 < wo.heap.size := lt_of_block HT.out.var
          have hHO : ∀ W, Below wr.drew.heap.size wr.drew W → ∀ p ∈ c, ∀ a, p.2 = .pointer a → Calls Try.prog 49 #[.pointer a, .pointer (some ⟨n0 + 2, 0, none⟩)] W fun e W' => e = .returned (.pointer (phi fs gs a)) ∧ Below W.heap.size W W' := fun W hW p hp a ha => by
            refine HO.out W (hbw.drew.trans (hW.mono (by have := hbw.size; exact this))) ((hW.block (n0 + 2) (by have := hM (n0 + 2) h2lt (by omega); show _ < wr.heap.size; have := hw9.size; have := HC9.out.size; omega)).trans (hM (n0 + 2) h2lt (by omega))) ((hW.block (n0 + 1) (by show _ < wr.heap.size; have := hw9.size; have := HC9.out.size; omega)).trans (hM (n0 + 1) (by omega) (by omega))) a ?_
            rcases HH.out.cin c (List.mem_of_getElem? hc) p hp with h | h
            · rw [ha] at h; exact .inl (by injection h)
            · exact .inr (by rw [← ha]; exact h)
          have HCC := Lib.hid (copiedChange_any wr.drew qA c.length qc c (hline.below hbw).drew hsh (by omega) (n0 + 2) (phi fs gs) hHO)
          have HSTEP := Lib.hid (hT.drew.step (by omega) c hc)
          have HT2 := Lib.hid hT
          obtain ⟨m, hm2⟩ : ∃ m, c.length = m := ⟨_, rfl⟩
          rw [hm2] at HCC HSTEP d0
          have hlt2 : (k : Int) < (cn : Int) := by omega
          have hk0 : (0 : Int) ≤ (k : Int) := by omega
          clear hT HI hline hoq hgc hv hc hsh hHO hM hbw hbw9 hw9 hm2 hwz hc2 hg h2lt
          go_upto_region 18 with fail
          refine wp_region_held_drew (S := fun V => True) (by kernel_rfl) trivial (fun _ => ?_)
          refine tz 0 81 (v := (.pointer (some ⟨n0, 4, none⟩))) rfl rfl ?_ trivial ?_
          · intro w hSw
            go_simp
          simp only [Act.put, List.setIfInBounds_toArray, List.set_cons_zero, List.set_cons_succ]
          refine tz 2 83 (v := (.slice qA m qc)) rfl rfl ?_ trivial ?_
          · intro w hSw
            go_simp
          simp only [Act.put, List.setIfInBounds_toArray, List.set_cons_zero, List.set_cons_succ]
          refine tz 3 84 (v := (.func (.func 49) #[] #[.pointer (some ⟨n0 + 2, 0, none⟩)])) rfl rfl ?_ trivial ?_
          · intro w hSw
            go_simp
          simp only [Act.put, List.setIfInBounds_toArray, List.set_cons_zero, List.set_cons_succ]
          refine wpAnyH_ready (rs := [1, 4]) (by kernel_rfl) (by simp) ?_
          refine AllReadyH.cons rfl (fun K hK => ?_) (AllReadyH.cons rfl (fun K hK => ?_) AllReadyH.nil)
          · go_simp
            refine hK.out _ _ trivial (fun _ => ?_)
            clear hK K
            try simp only [Act.put, List.setIfInBounds_toArray, List.set_cons_zero, List.set_cons_succ]
            refine wpAnyH_ready (rs := [4]) (by kernel_rfl) (by simp) ?_
            refine AllReadyH.cons rfl (fun K hK => ?_) AllReadyH.nil
            go_simp
            go_at_call 51
            with_reducible refine HCC.out.mono ?_
            rintro e v2 ⟨⟨B2, b2, rfl, hl2, hn2⟩, hb2⟩
            obtain ⟨v2a, C2, d2, v3, hv2a, hr3, f1, f1a, f3, f3f, hK3⟩ := HSTEP.out v2 hb2 B2 b2 hl2 hn2
            have HR3 := Lib.hid hr3
            have HK3 := Lib.hid hK3
            clear hl2 hn2 hb2 hr3 hK3
            refine hK.out _ _ trivial (fun _ => ?_)
            clear hK K
            try simp only [Act.put, List.setIfInBounds_toArray, List.set_cons_zero, List.set_cons_succ]
            refine wpAnyH_ready (rs := [5]) (by kernel_rfl) (by simp) ?_
            refine AllReadyH.cons rfl (fun K hK => ?_) AllReadyH.nil
            go_simp
            refine hK.out _ _ trivial (fun _ => ?_)
            clear hK K
            try simp only [Act.put, List.setIfInBounds_toArray, List.set_cons_zero, List.set_cons_succ]
            refine wpAnyH_ready (rs := [6]) (by kernel_rfl) (by simp) ?_
            refine appendR_ready rfl (by kernel_rfl) _ _ _ _ rfl _ _ rfl rfl _ _ HR3.out trivial ?_
            try simp only [Act.put, List.setIfInBounds_toArray, List.set_cons_zero, List.set_cons_succ]
            refine tz 7 88 (v := (.pointer (some ⟨n0, 4, none⟩))) rfl rfl ?_ trivial ?_
            · intro w hSw
              go_simp
            simp only [Act.put, List.setIfInBounds_toArray, List.set_cons_zero, List.set_cons_succ]
            refine wpAnyH_ready (rs := [8]) (by kernel_rfl) (by simp) ?_
            refine AllReadyH.cons rfl (fun K hK => ?_) AllReadyH.nil
            go_simp
            refine hK.out _ _ trivial (fun _ => ?_)
            clear hK K
            try simp only [Act.put, List.setIfInBounds_toArray, List.set_cons_zero, List.set_cons_succ]
            refine wpAnyH_done (by kernel_rfl) ?_ _
            go_wp2
            go_roundg (cn - (k + 1) + 1)
            case measure => omega
            case rel => exact ⟨k + 1, by go_num, by omega, Lib.hid ⟨_, _, _, HK3.out⟩, Nat.le_refl _⟩
          · skip
            go_simp
            go_at_call 51
            with_reducible refine HCC.out.mono ?_
            rintro e v2 ⟨⟨B2, b2, rfl, hl2, hn2⟩, hb2⟩
            obtain ⟨v2a, C2, d2, v3, hv2a, hr3, f1, f1a, f3, f3f, hK3⟩ := HSTEP.out v2 hb2 B2 b2 hl2 hn2
            have HR3 := Lib.hid hr3
            have HK3 := Lib.hid hK3
            clear hl2 hn2 hb2 hr3 hK3
            refine hK.out _ _ trivial (fun _ => ?_)
            clear hK K
            try simp only [Act.put, List.setIfInBounds_toArray, List.set_cons_zero, List.set_cons_succ]
            refine wpAnyH_ready (rs := [1, 5]) (by kernel_rfl) (by simp) ?_
            refine AllReadyH.cons rfl (fun K hK => ?_) (AllReadyH.cons rfl (fun K hK => ?_) AllReadyH.nil)
            · go_simp
              refine hK.out _ _ trivial (fun _ => ?_)
              clear hK K
              try simp only [Act.put, List.setIfInBounds_toArray, List.set_cons_zero, List.set_cons_succ]
              refine wpAnyH_ready (rs := [5]) (by kernel_rfl) (by simp) ?_
              refine AllReadyH.cons rfl (fun K hK => ?_) AllReadyH.nil
              go_simp
              refine hK.out _ _ trivial (fun _ => ?_)
              clear hK K
              try simp only [Act.put, List.setIfInBounds_toArray, List.set_cons_zero, List.set_cons_succ]
              refine wpAnyH_ready (rs := [6]) (by kernel_rfl) (by simp) ?_
              refine appendR_ready rfl (by kernel_rfl) _ _ _ _ rfl _ _ rfl rfl _ _ HR3.out trivial ?_
              try simp only [Act.put, List.setIfInBounds_toArray, List.set_cons_zero, List.set_cons_succ]
              refine tz 7 88 (v := (.pointer (some ⟨n0, 4, none⟩))) rfl rfl ?_ trivial ?_
              · intro w hSw
                go_simp
              simp only [Act.put, List.setIfInBounds_toArray, List.set_cons_zero, List.set_cons_succ]
              refine wpAnyH_ready (rs := [8]) (by kernel_rfl) (by simp) ?_
              refine AllReadyH.cons rfl (fun K hK => ?_) AllReadyH.nil
              go_simp
              refine hK.out _ _ trivial (fun _ => ?_)
              clear hK K
              try simp only [Act.put, List.setIfInBounds_toArray, List.set_cons_zero, List.set_cons_succ]
              refine wpAnyH_done (by kernel_rfl) ?_ _
              go_wp2
              go_roundg (cn - (k + 1) + 1)
              case measure => omega
              case rel => exact ⟨k + 1, by go_num, by omega, Lib.hid ⟨_, _, _, HK3.out⟩, Nat.le_refl _⟩
            · go_simp
              refine hK.out _ _ trivial (fun _ => ?_)
              clear hK K
              try simp only [Act.put, List.setIfInBounds_toArray, List.set_cons_zero, List.set_cons_succ]
              refine wpAnyH_ready (rs := [1]) (by kernel_rfl) (by simp) ?_
              refine AllReadyH.cons rfl (fun K hK => ?_) AllReadyH.nil
              go_simp
              refine hK.out _ _ trivial (fun _ => ?_)
              clear hK K
              try simp only [Act.put, List.setIfInBounds_toArray, List.set_cons_zero, List.set_cons_succ]
              refine wpAnyH_ready (rs := [6]) (by kernel_rfl) (by simp) ?_
              refine appendR_ready rfl (by kernel_rfl) _ _ _ _ rfl _ _ rfl rfl _ _ HR3.out trivial ?_
              try simp only [Act.put, List.setIfInBounds_toArray, List.set_cons_zero, List.set_cons_succ]
              refine tz 7 88 (v := (.pointer (some ⟨n0, 4, none⟩))) rfl rfl ?_ trivial ?_
              · intro w hSw
                go_simp
              simp only [Act.put, List.setIfInBounds_toArray, List.set_cons_zero, List.set_cons_succ]
              refine wpAnyH_ready (rs := [8]) (by kernel_rfl) (by simp) ?_
              refine AllReadyH.cons rfl (fun K hK => ?_) AllReadyH.nil
              go_simp
              refine hK.out _ _ trivial (fun _ => ?_)
              clear hK K
              try simp only [Act.put, List.setIfInBounds_toArray, List.set_cons_zero, List.set_cons_succ]
              refine wpAnyH_done (by kernel_rfl) ?_ _
              go_wp2
              go_roundg (cn - (k + 1) + 1)
              case measure => omega
              case rel => exact ⟨k + 1, by go_num, by omega, Lib.hid ⟨_, _, _, HK3.out⟩, Nat.le_refl _⟩
        · obtain rfl : cn = k := by omega
          have hw6 : Below wo.heap.size wo w6 := (Below.refl _ wo).drew.trans HX6.out.2.2.1
          obtain ⟨own3, q1, q2, q3⟩ := twin_end HH.out HR.out HT.out HP.out hw6 (HX5.out.1.below HX6.out.2.2.2) HX5.out.2.1 HX6.out.1 (fun i hi => by have h1 := HX6.out.2.1 i hi; have h2 := HX5.out.2.2.size; have h3 : wo.drew.heap.size = wo.heap.size := rfl; omega) (fun i hi hm => by have h1 := HX5.out.1.lt' i hi; have h2 := HX6.out.2.1 i hm; omega) HC9.out ⟨hT.chg, hT.lt, hT.box, hT.line, hT.new, hT.chs⟩
          have HEND := Lib.hid (And.intro q1 (And.intro q2 q3))
          clear q1 q2 q3 hT HI hw6
          go_wp2
          exact bodyPost_ret (v := .pointer (some ⟨n0, 0, none⟩)) (by simp [results, Try.results21, go_sem]) rfl ⟨n0, own3, rfl, HEND.out⟩

end
end Go.Proofs.Ytbjlikppboggmaa
