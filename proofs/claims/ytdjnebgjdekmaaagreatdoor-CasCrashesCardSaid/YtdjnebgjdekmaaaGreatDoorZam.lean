/- The contract of digest.end: the sum of all bytes, of which some are behind the last whole block. -/
import Derived.Test.YtdjnebgjdekmaaaGreatDoorZal
import Derived.Test.YtdjnebgjdekmaaaGreatDoorZag
import Derived.Test.YtdjnebgjdekmaaaGreatDoorZaa
import Derived.Deep.RegionWith
import Derived.Deep.DrawnRows
import Derived.Deep.AppendLies
set_option linter.unusedVariables false
namespace Go.Proofs.YtdjnebgjdekmaaaGreatDoor
open Go.RowKit
section
attribute [local go_sem ↓] Go.wp_at_zero Go.wp_at_succ
def endS (s : St) (l : List Nat) (n : Nat) : St := blocksN rootsN s (tailN l n) ((tailN l n).length / 64)
theorem zeros28 : (#[.int .u8 0, .int .u8 0, .int .u8 0, .int .u8 0, .int .u8 0, .int .u8 0, .int .u8 0, .int .u8 0, .int .u8 0, .int .u8 0, .int .u8 0, .int .u8 0, .int .u8 0, .int .u8 0, .int .u8 0, .int .u8 0,
 .int .u8 0, .int .u8 0, .int .u8 0, .int .u8 0, .int .u8 0, .int .u8 0, .int .u8 0, .int .u8 0, .int .u8 0, .int .u8 0, .int .u8 0, .int .u8 0, .int .u8 0, .int .u8 0, .int .u8 0, .int .u8 0] : Array Value) = (cellsK .u8 (List.replicate 32 0)).toArray := by kernel_rfl
theorem step_loadK {P : Program} {w : World} {ops : Array Oper} {o : Oper} {a : Act} {K : Act → World → Prop} {Q : Exit → Act → World → Prop} {E : Prop} (hgd : o.guard = none) (ty : TypeId) (x : Operand)
 (ho : o.op = .load ty x) (g : Nat) (k : IntKind) (T : TypeId) (ns : List Nat) (n : Nat) (e : TypeId) (hR : Hid (Row w g k T ns))
 (hx : a.eval x = .pointer (some ⟨g, 0, none⟩)) (hu : P.underlying ty = some (.array n e)) (hi : Hid ((P.info? ty).map (·.size) = some n)) (hn : Hid (ns.length = n))
 (h : K (a.put o.dst (.agg (cellsK k ns).toArray)) w) : if Region.wanted o (yielded ops a.tmps) = true then Oper.wp P o a w K Q else E := by
 have hw : Region.wanted o (yielded ops a.tmps) = true := by simp [Region.wanted, hgd]
 rw [if_pos hw]
 exact wp_load_row ty x ho g hx T _ (0, 0) _ hR hu rfl (by rw [hi.out, cellsK_size, hn.out]) h
theorem step_storeK {P : Program} {w : World} {ops : Array Oper} {o : Oper} {a : Act} {K : Act → World → Prop} {Q : Exit → Act → World → Prop} {E : Prop} (hgd : o.guard = none) (ty : TypeId) (x y : Operand)
 (ho : o.op = .store ty x y) (g : Nat) (k k' : IntKind) (T : TypeId) (old ns : List Nat) (n : Nat) (hR : Hid (Row w g k' T old))
 (hx : a.eval x = .pointer (some ⟨g, 0, none⟩)) (hy : a.eval y = .agg (cellsK k ns).toArray) (hi : Hid ((P.info? ty).map (·.size) = some n)) (hn : Hid (ns.length = n)) (hn' : Hid (old.length = n))
 (h : K (a.put o.dst undef) (w.setRow g (cellsK k ns).toArray)) : if Region.wanted o (yielded ops a.tmps) = true then Oper.wp P o a w K Q else E := by
 have hw : Region.wanted o (yielded ops a.tmps) = true := by simp [Region.wanted, hgd]
 rw [if_pos hw]
 exact wp_store_row ty x y ho g _ hx hy T _ hR (by rw [hi.out, cellsK_size, hn.out]) (by rw [cellsK_size, cellsK_size, hn.out, hn'.out]) (one_Ka k ns) h
set_option maxRecDepth 100000 in
set_option maxHeartbeats 4000000 in
theorem end_any (s : St) (hs : s.ok) (A : Option Addr) (m cap n : Nat) (l : List Nat) (hm : m < 64) (hn : n ≤ 1000000) (w : World) (hR : Held w A m cap l) (hK : RootsOk w) :
 Calls Tryz.prog 125 #[.agg (cellsK .u32 s.list).toArray, .slice A m cap, .int .i64 n] w fun e w' => e = .returned (.agg (cellsK .u8 (outN (endS s l n))).toArray) ∧ Below w.heap.size w w' := by
 have HH := Lib.hid hR
 have HK := Lib.hid hK
 clear hR hK
 have hB : Hid (Below w.heap.size w ((w.alloc (.cells (cellsK .u32 s.list).toArray 182)).alloc (.cells (cellsK .u8 (List.replicate 32 0)).toArray 176))) := Lib.hid (((Below.refl _ _).alloc (Nat.le_refl _) _).alloc (by simp) _)
 have h1 := Lib.hid (row_alloc2a w s.list (List.replicate 32 0) .u32 .u8 182 176)
 have h2 := Lib.hid (row_alloc2b w s.list (List.replicate 32 0) .u32 .u8 182 176)
 have hl8 : Hid (s.list.length = 8) := Lib.hid rfl
 go_enter Tryz.func125, Tryz.ntmps125
 go_wp2_with fail
 rw [zeros28]
 generalize (w.alloc (.cells (cellsK .u32 s.list).toArray 182)).alloc (.cells (cellsK .u8 (List.replicate 32 0)).toArray 176) = w0 at *
 refine wp_region_held_drew (S := fun _ => True) (by kernel_rfl) trivial (fun _ => ?_)
 have d1 := Lib.hid h1.out.drew
 have d2 := Lib.hid h2.out.drew
 have dB := Lib.hid hB.out.drew
 clear h1 h2 hB
 generalize w0.drew = w1 at *
 refine ty9 1 13 (v := ?va1) rfl rfl ?ha1 trivial ?ra1
 case ha1 => (intro w hSw; (try dsimp only at hSw); go_simp; try with_reducible rfl)
 simp only [Act.put, List.setIfInBounds_toArray, List.set_cons_zero, List.set_cons_succ]
 refine ty9 2 14 (v := ?va2) rfl rfl ?ha2 trivial ?ra2
 case ha2 => (intro w hSw; (try dsimp only at hSw); go_simp; try with_reducible rfl)
 simp only [Act.put, List.setIfInBounds_toArray, List.set_cons_zero, List.set_cons_succ]
 refine wpAnyH_ready (rs := [0, 3]) (by kernel_rfl) (by simp) ?_
 refine AllReadyH.cons rfl (fun K hK => ?_) (AllReadyH.cons rfl (fun K hK => ?_) AllReadyH.nil)
 all_goals first
  | (refine step_loadK rfl 182 (.tmp 3) rfl w.heap.size .u32 182 s.list 8 138 d1 rfl Tryz.underlying182 size8w hl8 ?_
     refine hK.out _ _ trivial (fun _ => ?_)
     clear hK K
     simp only [Act.put]
     refine wpAnyH_ready (rs := [3]) (by kernel_rfl) (by simp) ?_
     refine AllReadyH.cons rfl (fun K hK => ?_) AllReadyH.nil
     go_simp
     go_at_call 131
     refine (tail_any A m cap n l hm hn HH.out.2.1 _ (HH.out.1.below dB.out)).mono ?_
     rintro e w2 ⟨⟨g, k, rfl, hT⟩, hb2⟩
     have HT := Lib.hid hT
     have e1 := Lib.hid (d1.out.below hb2)
     have e2 := Lib.hid (d2.out.below hb2)
     have eB := Lib.hid (dB.out.trans (hb2.mono dB.out.size))
     clear hT hb2
     refine hK.out _ _ trivial (fun _ => ?_)
     clear hK K)
  | (go_simp
     go_at_call 131
     refine (tail_any A m cap n l hm hn HH.out.2.1 _ (HH.out.1.below dB.out)).mono ?_
     rintro e w2 ⟨⟨g, k, rfl, hT⟩, hb2⟩
     have HT := Lib.hid hT
     have e1 := Lib.hid (d1.out.below hb2)
     have e2 := Lib.hid (d2.out.below hb2)
     have eB := Lib.hid (dB.out.trans (hb2.mono dB.out.size))
     clear hT hb2
     refine hK.out _ _ trivial (fun _ => ?_)
     clear hK K
     refine wpAnyH_ready (rs := [0]) (by kernel_rfl) (by simp) ?_
     refine AllReadyH.cons rfl (fun K hK => ?_) AllReadyH.nil
     refine step_loadK rfl 182 (.tmp 3) rfl w.heap.size .u32 182 s.list 8 138 e1 rfl Tryz.underlying182 size8w hl8 ?_
     refine hK.out _ _ trivial (fun _ => ?_)
     clear hK K
     simp only [Act.put])
 all_goals
  have hkl := HT.out.length
  rw [tailN_length, HH.out.1.length] at hkl
  have hzle := zc_le m hm
  have hk128 : k ≤ 128 := by omega
  have HKL : Hid ((tailN l n).length = k) := Lib.hid HT.out.length
  clear hkl hzle
  refine wpAnyH_ready (rs := [4]) (by kernel_rfl) (by simp) ?_
  refine AllReadyH.cons rfl (fun K hK => ?_) AllReadyH.nil
  go_simp
  go_at_call 123
  refine (whole_any s hs (some ⟨g, 0, none⟩) k 128 (tailN l n) (by omega) w2 ⟨HT.out, (fun h => by cases h), hk128⟩ (by omega) (HK.out.below eB.out)).mono ?_
  rintro e w3 ⟨⟨A', c', rfl, _, _⟩, hb3⟩
  have f1 := Lib.hid (e1.out.below hb3)
  have f2 := Lib.hid (e2.out.below hb3)
  have fB := Lib.hid (eB.out.trans (hb3.mono eB.out.size))
  clear hb3 e1 e2 eB d1 d2 dB
  generalize hy : blocksN rootsN s (tailN l n) (k / 64) = y at *
  have HY := Lib.hid hy
  have HY8 : Hid (y.list.length = 8) := Lib.hid rfl
  clear hy
  refine hK.out _ _ trivial (fun _ => ?_)
  clear hK K
  refine ty9 5 11 (v := (.tuple #[.agg (cellsK .u32 y.list).toArray, .slice A' (k % 64) c'])) rfl rfl ?_ trivial ?_
  · intro w hSw
    go_simp
  simp only [Act.put, List.setIfInBounds_toArray, List.set_cons_zero, List.set_cons_succ]
  refine ty9 6 17 (v := (.agg (cellsK .u32 y.list).toArray)) rfl rfl ?_ trivial ?_
  · intro w hSw
    go_simp
  simp only [Act.put, List.setIfInBounds_toArray, List.set_cons_zero, List.set_cons_succ]
  refine ty9 7 18 (v := (.slice A' (k % 64) c')) rfl rfl ?_ trivial ?_
  · intro w hSw
    go_simp
  simp only [Act.put, List.setIfInBounds_toArray, List.set_cons_zero, List.set_cons_succ]
  refine wpAnyH_ready (rs := [8]) (by kernel_rfl) (by simp) ?_
  refine AllReadyH.cons rfl (fun K hK => ?_) AllReadyH.nil
  refine step_storeK rfl 182 (.tmp 3) (.tmp 17) rfl w.heap.size .u32 .u32 182 s.list y.list 8 f1 rfl rfl size8w HY8 hl8 ?_
  refine hK.out _ _ trivial (fun _ => ?_)
  clear hK K
  have g1 := Lib.hid (f1.out.setRow y.list)
  have g2 := Lib.hid (f2.out.setRowOther w.heap.size (cellsK .u32 y.list).toArray (by omega))
  have gB := Lib.hid (below_setRow fB.out (g := w.heap.size) (by omega) (cellsK .u32 y.list).toArray)
  clear f1 f2 fB
  generalize w3.setRow w.heap.size (cellsK .u32 y.list).toArray = w4 at *
  refine wpAnyH_done (by kernel_rfl) ?_ _
  have k1 := Lib.hid (g1.out.alloc (.cells (cellsK .u8 (List.replicate 32 0)).toArray 176))
  have k2 := Lib.hid (g2.out.alloc (.cells (cellsK .u8 (List.replicate 32 0)).toArray 176))
  have k3 := Lib.hid (Row.new w4 .u8 176 (List.replicate 32 0))
  have kB := Lib.hid (gB.out.alloc gB.out.size (.cells (cellsK .u8 (List.replicate 32 0)).toArray 176))
  have hsz : w.heap.size + 1 < w4.heap.size := g2.out.lt
  clear g1 g2 gB
  go_wp2_with (first | (rw [zeros28]; generalize w4.alloc (.cells (cellsK .u8 (List.replicate 32 0)).toArray 176) = w5 at *; with_reducible refine wpList_loadK 182 (.tmp 3) rfl rfl w.heap.size .u32 182 y.list 8 138 k1 rfl Tryz.underlying182 size8w HY8 ?_))
  have hz32 : Hid ((List.replicate 32 0 : List Nat).length = 32) := Lib.hid rfl
  have hyS : Hid (endS s l n = y) := Lib.hid (by rw [endS, HKL.out, HY.out])
  clear HY HKL HT k1
  generalize w4.heap.size = g4 at *
  have k4 : Hid (Row w5 g4 .u8 176 (outPS y (4 * 0))) := k3
  clear k3
  go_loopw [20] (fun i wr => ∃ j : Nat, j ≤ 8 ∧ i = .int .i64 j ∧ Hid (Row wr (w.heap.size + 1) .u8 176 (List.replicate 32 0)) ∧ Hid (Row wr g4 .u8 176 (outPS y (4 * j))) ∧ Hid (Below w.heap.size w wr)) (fun i _ => 8 - (intOf i).toNat)
  case atStart => exact ⟨0, by omega, rfl, k2, k4, kB⟩
  case round =>
   obtain ⟨j, hj, rfl, p2, p4, pB⟩ := hrel
   clear k2 k4 kB
   by_cases hj8 : j < 8
   · have hi : ∀ w, (Instr.index 182 (.agg (cellsK .u32 y.list).toArray) (.int .i64 (j : Int))).run Tryz.prog w = .ok (.int .u32 ((y.list.getD j 0 : Nat) : Int)) w := by
      have hcases : j = 0 ∨ j = 1 ∨ j = 2 ∨ j = 3 ∨ j = 4 ∨ j = 5 ∨ j = 6 ∨ j = 7 := by omega
      rcases hcases with rfl | rfl | rfl | rfl | rfl | rfl | rfl | rfl <;> exact fun _ => by kernel_rfl
     generalize hxj : y.list.getD j 0 = x at *
     have HXJ := Lib.hid hxj
     clear hxj
     have hj8' : (j : Int) < 8 := by omega
     go_wp2
     clear hi
     have p5 : Hid (Row wr g4 .u8 176 (outPS y (4 * j + 0))) := p4
     obtain ⟨wo, rfl⟩ : ∃ wo : World, wo = wr := ⟨_, rfl⟩
     go_loopw [24] (fun i wr => ∃ i4 : Nat, i4 ≤ 4 ∧ i = .int .i64 i4 ∧ Hid (Row wr (w.heap.size + 1) .u8 176 (List.replicate 32 0)) ∧ Hid (Row wr g4 .u8 176 (outPS y (4 * j + i4))) ∧ Hid (Below w.heap.size w wr)) (fun i _ => 4 - (intOf i).toNat)
     case atStart => exact ⟨0, by omega, rfl, p2, p5, pB⟩
     case round =>
      obtain ⟨i4, hi4, rfl, q2, q4, qB⟩ := hrel
      clear p2 p4 p5 pB
      by_cases h4 : i4 < 4
      · have hc := q4.out.cell (4 * j + i4) (by rw [outP_length _ _ (by omega)]; omega)
        have hf := q4.out.free (4 * j + i4)
        generalize (outPS y (4 * j + i4)).getD (4 * j + i4) 0 = u at *
        have hN := q4.out.set (4 * j + i4) (x / 2 ^ (24 - 8 * i4) % 256)
        rw [← HXJ.out, outP_set y j i4 hj8 h4, HXJ.out] at hN
        have ec : (((x / 2 ^ (24 - 8 * i4) % 256 : Nat)) : Int) = (x : Int) / 2 ^ (24 - 8 * i4) % 256 := by simp
        rw [ec] at hN
        have HN := Lib.hid hN
        clear hN ec
        have h4' : (i4 : Int) < 4 := by omega
        go_wp2
        go_roundw
        case rel => exact ⟨i4 + 1, by omega, by go_num, Lib.hid (q2.out.other _ _ (by simp; omega)), HN, Lib.hid (qB.out.setCell (by simp; omega) _)⟩
        case measure => simp [intOf]; omega
      · obtain rfl : i4 = 4 := by omega
        go_wp2
        go_roundw
        case rel => exact ⟨j + 1, by omega, by go_num, q2, q4, qB⟩
        case measure => simp [intOf]; omega
   · obtain rfl : j = 8 := by omega
     have eO : outPS y (4 * 8) = outN y := by
      unfold outPS
      rw [List.take_of_length_le (by rw [outN_length]; omega)]
      simp
     rw [eO] at p4
     have hO32 := Lib.hid (outN_length y)
     go_wp2_with (first | (with_reducible refine wpList_loadK 176 (.tmp 7) rfl rfl g4 .u8 176 (outN y) 32 5 p4 rfl Tryz.underlying176 size32b hO32 ?_) | (with_reducible refine wpList_storeK 176 (.tmp 6) (.tmp 41) rfl rfl (w.heap.size + 1) .u8 .u8 176 (List.replicate 32 0) (outN y) 32 p2 rfl rfl size32b hO32 hz32 ?_))
     exact bodyPost_ret (resultsK rfl _ (w.heap.size + 1) .u8 176 _ 32 5 rfl (p2.out.setRow (outN y)) Tryz.underlying176 size32b hO32) rfl ⟨by rw [hyS.out], below_setRow pB.out (by omega) _⟩
end
def shaN (l : List Nat) : List Nat := outN (endS (blocksN rootsN startN l (l.length / 64)) (l.drop (64 * (l.length / 64))) l.length)
theorem shaN_lt (l : List Nat) : ∀ x ∈ shaN l, x < 256 := outN_lt _
theorem shaN_length (l : List Nat) : (shaN l).length = 32 := outN_length _
set_option maxRecDepth 100000 in
set_option maxHeartbeats 2000000 in
theorem sha_any (A : Option Addr) (n cap : Nat) (l : List Nat) (hn : n ≤ 100000) (hcm : cap ≤ 9223372036854775807) (w : World) (hR : Held w A n cap l) (hK : RootsOk w) :
 Calls Tryz.prog 118 #[.slice A n cap] w fun e w' => e = .returned (.agg (cellsK .u8 (shaN l)).toArray) ∧ Below w.heap.size w w' := by
 have HH := Lib.hid hR
 have HK := Lib.hid hK
 have HL : Hid (l.length = n) := Lib.hid hR.1.length
 clear hR hK
 have hB : Hid (Below w.heap.size w (w.alloc (.cells (cellsK .u8 (List.replicate 32 0)).toArray 176))) := Lib.hid ((Below.refl _ _).alloc (Nat.le_refl _) _)
 have h1 := Lib.hid (Row.new w .u8 176 (List.replicate 32 0))
 have hz32 : Hid ((List.replicate 32 0 : List Nat).length = 32) := Lib.hid rfl
 have hz8 : Hid ((List.replicate 8 0 : List Nat).length = 8) := Lib.hid rfl
 go_enter Tryz.func118, Tryz.ntmps118
 go_wp2_with fail
 rw [zeros28]
 generalize w.alloc (.cells (cellsK .u8 (List.replicate 32 0)).toArray 176) = w0 at *
 refine (start_any _).mono ?_
 rintro e w1 ⟨rfl, hb1⟩
 have d1 := Lib.hid (h1.out.below hb1)
 have dB := Lib.hid (hB.out.trans (hb1.mono hB.out.size))
 clear h1 hB hb1
 go_wp2_with fail
 refine (whole_any startN startN_ok A n cap l hn w1 (HH.out.below dB.out) hcm (HK.out.below dB.out)).mono ?_
 rintro e w2 ⟨⟨A', c', rfl, hc', hQ⟩, hb2⟩
 have HQ := Lib.hid hQ
 have e1 := Lib.hid (d1.out.below hb2)
 have eB := Lib.hid (dB.out.trans (hb2.mono dB.out.size))
 clear d1 dB hb2 hQ
 generalize hy : blocksN rootsN startN l (n / 64) = y at *
 have HY := Lib.hid hy
 have HYok : Hid y.ok := Lib.hid (by rw [← hy]; exact blocksN_ok _ _ _ startN_ok _)
 have HY8 : Hid (y.list.length = 8) := Lib.hid rfl
 have hq64 : n % 64 < 64 := Nat.mod_lt _ (by decide)
 generalize hqd : n % 64 = q at *
 clear hy hqd
 have f1 := Lib.hid (e1.out.alloc (.cells (cellsK .u32 (List.replicate 8 0)).toArray 182))
 have f2 := Lib.hid (Row.new w2 .u32 182 (List.replicate 8 0))
 have fB := Lib.hid (eB.out.alloc eB.out.size (.cells (cellsK .u32 (List.replicate 8 0)).toArray 182))
 have hlt : w.heap.size < w2.heap.size := e1.out.lt
 clear e1 eB
 go_wp2_with (first
  | (rw [size43z]; with_reducible refine wpList_storeK 182 (.tmp 3) (.tmp 9) rfl rfl w2.heap.size .u32 .u32 182 (List.replicate 8 0) y.list 8 f2 rfl rfl size8w HY8 hz8 ?_
     have g1 := Lib.hid (f1.out.setRowOther w2.heap.size (cellsK .u32 y.list).toArray (by omega))
     have g2 := Lib.hid (f2.out.setRow y.list)
     have gB := Lib.hid (below_setRow fB.out (g := w2.heap.size) (by omega) (cellsK .u32 y.list).toArray)
     have gQ := Lib.hid (HQ.out.below (below_setRow ((Below.refl _ _).alloc (Nat.le_refl _) (.cells (cellsK .u32 (List.replicate 8 0)).toArray 182)) (g := w2.heap.size) (Nat.le_refl _) (cellsK .u32 y.list).toArray))
     clear f1 f2 fB HQ
     generalize (w2.alloc (.cells (cellsK .u32 (List.replicate 8 0)).toArray 182)).setRow w2.heap.size (cellsK .u32 y.list).toArray = w3 at *
     generalize w2.heap.size = g3 at *)
  | (with_reducible refine wpList_loadK 182 (.tmp 3) rfl rfl g3 .u32 182 y.list 8 138 g2 rfl Tryz.underlying182 size8w HY8 ?_))
 refine (end_any y HYok.out A' q c' n _ hq64 (by omega) w3 gQ.out (HK.out.below gB.out)).mono ?_
 rintro e w4 ⟨rfl, hb4⟩
 have k1 := Lib.hid (g1.out.below hb4)
 have kB := Lib.hid (gB.out.trans (hb4.mono gB.out.size))
 clear g1 g2 gB gQ hb4
 have hS : Hid (shaN l = outN (endS y (l.drop (64 * (n / 64))) n)) := Lib.hid (by rw [shaN, HL.out, HY.out])
 have hS32 := Lib.hid (shaN_length l)
 rw [← hS.out]
 generalize hsh : shaN l = sh at *
 have HSH := Lib.hid hsh
 clear hsh
 go_wp2_with (first | (with_reducible refine wpList_storeK 176 (.tmp 2) (.tmp 15) rfl rfl w.heap.size .u8 .u8 176 (List.replicate 32 0) sh 32 k1 rfl rfl size32b hS32 hz32 ?_))
 exact bodyPost_ret (resultsK rfl _ w.heap.size .u8 176 sh 32 5 rfl (k1.out.setRow sh) Tryz.underlying176 size32b hS32) rfl ⟨by rw [HSH.out], below_setRow kB.out (Nat.le_refl _) _⟩
def padN (l : List Nat) : List Nat := l ++ ([128] ++ (List.replicate (zc (l.length % 64)) 0 ++ lenBytes l.length))
theorem blocksN_take (ks : List Nat) (s : St) (l m : List Nat) : ∀ k, l.take (64 * k) = m.take (64 * k) → blocksN ks s l k = blocksN ks s m k
 | 0, _ => rfl
 | k + 1, h => by
  have h1 : l.take (64 * k) = m.take (64 * k) := by
   have := congrArg (List.take (64 * k)) h
   rwa [List.take_take, List.take_take, Nat.min_eq_left (by omega)] at this
  have h2 : (l.drop (64 * k)).take 64 = (m.drop (64 * k)).take 64 := by
   have := congrArg (List.drop (64 * k)) h
   rw [List.drop_take, List.drop_take] at this
   rwa [show 64 * (k + 1) - 64 * k = 64 from by omega] at this
  rw [blocksN, blocksN, blocksN_take ks s l m k h1, h2]
theorem blocksN_add (ks : List Nat) (s : St) (l : List Nat) (k : Nat) : ∀ j, blocksN ks s l (k + j) = blocksN ks (blocksN ks s l k) (l.drop (64 * k)) j
 | 0 => rfl
 | j + 1 => by
  rw [← Nat.add_assoc, blocksN, blocksN_add ks s l k j, blocksN, List.drop_drop, show 64 * k + 64 * j = 64 * (k + j) from by omega]
theorem padN_is (l : List Nat) : padN l = l.take (64 * (l.length / 64)) ++ tailN (l.drop (64 * (l.length / 64))) l.length := by
 have e : (l.drop (64 * (l.length / 64))).length = l.length % 64 := by rw [List.length_drop]; omega
 unfold padN tailN
 rw [e, ← List.append_assoc (l.take _), List.take_append_drop]
theorem padN_length (l : List Nat) : (padN l).length = 64 * (l.length / 64) + (tailN (l.drop (64 * (l.length / 64))) l.length).length := by
 rw [padN_is, List.length_append, List.length_take]
 omega
theorem padN_64 (l : List Nat) : (padN l).length % 64 = 0 := by
 have h := zc_yes (l.length % 64) (Nat.mod_lt _ (by decide))
 unfold padN
 rw [List.length_append, List.length_append, List.length_append, List.length_replicate, lenBytes_length, List.length_singleton]
 omega
theorem padN_lt (l : List Nat) (h : ∀ x ∈ l, x < 256) : ∀ x ∈ padN l, x < 256 := by
 intro x hx
 rw [padN_is] at hx
 rcases List.mem_append.1 hx with hx | hx
 · exact h x (List.mem_of_mem_take hx)
 · exact tailN_lt _ _ (fun y hy => h y (List.mem_of_mem_drop hy)) x hx
def shaS (l : List Nat) : St := endS (blocksN rootsN startN l (l.length / 64)) (l.drop (64 * (l.length / 64))) l.length
theorem shaN_is (l : List Nat) : shaN l = outN (shaS l) := rfl
theorem shaS_pad (l : List Nat) : shaS l = blocksN rootsN startN (padN l) ((padN l).length / 64) := by
 have hl : (l.take (64 * (l.length / 64))).length = 64 * (l.length / 64) := by rw [List.length_take]; omega
 unfold shaS endS
 rw [padN_length, show (64 * (l.length / 64) + (tailN (l.drop (64 * (l.length / 64))) l.length).length) / 64 = l.length / 64 + (tailN (l.drop (64 * (l.length / 64))) l.length).length / 64 from by omega, blocksN_add]
 have hd : (padN l).drop (64 * (l.length / 64)) = tailN (l.drop (64 * (l.length / 64))) l.length := by
  rw [padN_is, List.drop_append_of_le_length (by omega), List.drop_eq_nil_of_le (by omega), List.nil_append]
 have ht : blocksN rootsN startN (padN l) (l.length / 64) = blocksN rootsN startN l (l.length / 64) := by
  refine blocksN_take _ _ _ _ _ ?_
  rw [padN_is, List.take_append_of_le_length (by omega), List.take_take, Nat.min_self]
 rw [hd, ht]
theorem sched_getD (ws : List Nat) (h : ws.length = 16) : ∀ m t, t < 16 + m → (sched ws m).getD t 0 = (sched ws (t + 1 - 16)).getD t 0
 | 0, t, ht => by rw [show t + 1 - 16 = 0 from by omega]
 | m + 1, t, ht => by
  rcases Nat.lt_or_ge t (16 + m) with h1 | h1
  · rw [← sched_getD ws h m t h1, sched, List.getD_eq_getElem?_getD, List.getD_eq_getElem?_getD, List.getElem?_append_left (by rw [sched_length]; omega)]
  · rw [show t + 1 - 16 = m + 1 from by omega]
theorem sched_low (ws : List Nat) (h : ws.length = 16) (m t : Nat) (ht : t < 16) : (sched ws m).getD t 0 = ws.getD t 0 := by
 rw [sched_getD ws h m t (by omega), show t + 1 - 16 = 0 from by omega]
 rfl
theorem sched_high (ws : List Nat) (h : ws.length = 16) (m t : Nat) (h16 : 16 ≤ t) (ht : t < 16 + m) :
 (sched ws m).getD t 0 = addM (addM (addM ((sched ws m).getD (t - 16) 0) (sig0 ((sched ws m).getD (t - 15) 0))) ((sched ws m).getD (t - 7) 0)) (sig1 ((sched ws m).getD (t - 2) 0)) := by
 obtain ⟨q, rfl⟩ : ∃ q, t = 16 + q := ⟨t - 16, by omega⟩
 have up : ∀ i, i < 16 + q → (sched ws m).getD i 0 = (sched ws q).getD i 0 := fun i hi => by
  rw [sched_getD ws h m i (by omega), sched_getD ws h q i hi]
 rw [up (16 + q - 16) (by omega), up (16 + q - 15) (by omega), up (16 + q - 7) (by omega), up (16 + q - 2) (by omega), sched_getD ws h m (16 + q) ht, show 16 + q + 1 - 16 = q + 1 from by omega, sched]
 have hl : (sched ws q).length = 16 + q := by rw [sched_length]; omega
 rw [List.getD_eq_getElem?_getD, List.getElem?_append_right (by omega), hl, Nat.sub_self]
 show nextW (sched ws q) = _
 rw [nextW_is ws h q, show 16 + q - 16 = q from by omega, show 16 + q - 15 = q + 1 from by omega, show 16 + q - 7 = q + 9 from by omega, show 16 + q - 2 = q + 14 from by omega]
end Go.Proofs.YtdjnebgjdekmaaaGreatDoor
