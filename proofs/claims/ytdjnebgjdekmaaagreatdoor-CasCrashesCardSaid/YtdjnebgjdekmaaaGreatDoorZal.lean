/- The contract of digest.whole: the whole blocks taken into the sum, and what is left behind them. -/
import Derived.Test.YtdjnebgjdekmaaaGreatDoorZak
import Derived.StillTailTactics
set_option linter.unusedVariables false
namespace Go.Proofs.YtdjnebgjdekmaaaGreatDoor
open Go.RowKit
def blocksN (ks : List Nat) (s : St) (l : List Nat) : Nat → St
 | 0 => s
 | k + 1 => mixN ks (blocksN ks s l k) ((l.drop (64 * k)).take 64)
theorem blocksN_ok (ks : List Nat) (s : St) (l : List Nat) (h : s.ok) : ∀ k, (blocksN ks s l k).ok
 | 0 => h
 | k + 1 => St.add_ok _ _
theorem resultsK2 {P : Program} {fn : Func} {p q : Tmp} {ty : TypeId} (h : fn.results = #[.cell p ty, .tmp q]) (tmps : Array Value) (w : World) (g : Nat) (k : IntKind) (T : TypeId) (ns : List Nat) (n : Nat) (e : TypeId) (hp : tmps.getD p undef = .pointer (some ⟨g, 0, none⟩)) (hR : Row w g k T ns)
 (hu : P.underlying ty = some (.array n e)) (hi : Hid ((P.info? ty).map (·.size) = some n)) (hn : Hid (ns.length = n)) (v : Value) (hv : tmps.getD q undef = v) : (results fn tmps).run P w = .ok (.tuple #[.agg (cellsK k ns).toArray, v]) w := by
 have hp' : tmps[p]?.getD undef = .pointer (some ⟨g, 0, none⟩) := by simpa using hp
 have hv' : tmps[q]?.getD undef = v := by simpa using hv
 have := run_loadVar_row (P := P) w g T ty _ (0, 0) _ hR hu rfl (by rw [hi.out, cellsK_size, hn.out])
 simp [results, h, hp', hv', asAddr, this]
def Held (w : World) (A : Option Addr) (n cap : Nat) (l : List Nat) : Prop := RowN w A n l ∧ (A = none → cap = 0) ∧ n ≤ cap
theorem Held.below {w w' : World} {A : Option Addr} {n cap : Nat} {l : List Nat} (h : Held w A n cap l) (hb : Below w.heap.size w w') : Held w' A n cap l := ⟨h.1.below hb, h.2⟩
theorem RowN.dropAt {w : World} {b off n k : Nat} {l : List Nat} (h : RowN w (some ⟨b, off, none⟩) n l) (hk : k ≤ n) : RowN w (some ⟨b, off + k, none⟩) (n - k) (l.drop k) := by
 unfold RowN
 have e : asZ (l.drop k) = (asZ l).drop k := List.map_drop
 rw [e]
 exact RowZ.dropAt h hk
theorem RowN.nilS {w : World} {A : Option Addr} : RowN w A 0 [] := ⟨rfl, fun z hz => by simp [asZ] at hz, fun h => absurd h (by omega)⟩
set_option maxRecDepth 100000 in
set_option maxHeartbeats 4000000 in
theorem whole_blk (s : St) (hs : s.ok) (A : Option Addr) (n cap : Nat) (l : List Nat) (hn : n ≤ 100000) (w : World) (hR : Held w A n cap l) (hcm : cap ≤ 9223372036854775807) (hK : RootsOk w) :
 Calls Tryz.prog 123 #[.agg (cellsK .u32 s.list).toArray, .slice A n cap] w fun e w' => (∃ A' cap', e = .returned (.tuple #[.agg (cellsK .u32 (blocksN rootsN s l (n / 64)).list).toArray, .slice A' (n % 64) cap']) ∧ cap' ≤ 9223372036854775807 ∧ Held w' A' (n % 64) cap' (l.drop (64 * (n / 64))) ∧ (∀ x, A' = some x → ∃ x0, A = some x0 ∧ x.block = x0.block)) ∧ Below w.heap.size w w' := by
 have HH := Lib.hid hR
 have HK := Lib.hid hK
 have hl : Hid (l.length = n) := Lib.hid hR.1.length
 clear hR hK
 have hB : Hid (Below w.heap.size w ((w.alloc (.cells (cellsK .u32 s.list).toArray 182)).alloc (.cells (cellsK .u32 (List.replicate 8 0)).toArray 182))) := Lib.hid (((Below.refl _ _).alloc (Nat.le_refl _) _).alloc (by simp) _)
 have h1 := Lib.hid (row_alloc2a w s.list (List.replicate 8 0) .u32 .u32 182 182)
 have h2 := Lib.hid (row_alloc2b w s.list (List.replicate 8 0) .u32 .u32 182 182)
 go_enter Tryz.func123, Tryz.ntmps123
 go_wp2_with fail
 rw [size43z]
 generalize (w.alloc (.cells (cellsK .u32 s.list).toArray 182)).alloc (.cells (cellsK .u32 (List.replicate 8 0)).toArray 182) = w0 at *
 go_loopw [1] (fun v wr => ∃ (k : Nat) (A' : Option Addr) (c' : Nat), k ≤ n / 64 ∧ v = .slice A' (n - 64 * k) c' ∧ c' ≤ 9223372036854775807 ∧ Hid (∀ x, A' = some x → ∃ x0, A = some x0 ∧ x.block = x0.block) ∧ Hid (Held w A' (n - 64 * k) c' (l.drop (64 * k))) ∧ Hid (Row wr w.heap.size .u32 182 (blocksN rootsN s l k).list) ∧ Hid (Row wr (w.heap.size + 1) .u32 182 (List.replicate 8 0)) ∧ Hid (Below w.heap.size w wr)) (fun v _ => match v with | .slice _ k _ => k | _ => 0)
 case atStart => exact ⟨0, A, cap, by omega, rfl, hcm, Lib.hid (fun x hx => ⟨x, hx, rfl⟩), HH, h1, h2, hB⟩
 case round =>
  obtain ⟨k, A', c', hk, rfl, hc', HX, HQ, r1, r2, rB⟩ := hrel
  clear h1 h2 hB hcm
  by_cases hq : 64 ≤ n - 64 * k
  · have hok := Lib.hid (blocksN_ok rootsN s l hs k)
    have HE : Hid (blocksN rootsN s l (k + 1) = mixN rootsN (blocksN rootsN s l k) ((l.drop (64 * k)).take 64)) := Lib.hid rfl
    generalize blocksN rootsN s l k = x at *
    obtain ⟨b, off, rfl, hlt, _⟩ := HQ.out.1.cells (by omega)
    have hcq : n - 64 * k ≤ c' := HQ.out.2.2
    generalize hqd : n - 64 * k = q at *
    have HQD := Lib.hid hqd
    clear hqd
    obtain ⟨xa, xb, xc, xd, xe, xf, xg, xh⟩ := x
    have c0 : wr.cell? ⟨w.heap.size, 0, none⟩ = some (.int .u32 (xa : Int)) := r1.out.cell 0 (by simp [St.list])
    have c1 : wr.cell? ⟨w.heap.size, 1, none⟩ = some (.int .u32 (xb : Int)) := r1.out.cell 1 (by simp [St.list])
    have c2 : wr.cell? ⟨w.heap.size, 2, none⟩ = some (.int .u32 (xc : Int)) := r1.out.cell 2 (by simp [St.list])
    have c3 : wr.cell? ⟨w.heap.size, 3, none⟩ = some (.int .u32 (xd : Int)) := r1.out.cell 3 (by simp [St.list])
    have c4 : wr.cell? ⟨w.heap.size, 4, none⟩ = some (.int .u32 (xe : Int)) := r1.out.cell 4 (by simp [St.list])
    have c5 : wr.cell? ⟨w.heap.size, 5, none⟩ = some (.int .u32 (xf : Int)) := r1.out.cell 5 (by simp [St.list])
    have c6 : wr.cell? ⟨w.heap.size, 6, none⟩ = some (.int .u32 (xg : Int)) := r1.out.cell 6 (by simp [St.list])
    have c7 : wr.cell? ⟨w.heap.size, 7, none⟩ = some (.int .u32 (xh : Int)) := r1.out.cell 7 (by simp [St.list])
    have hqi : (64 : Int) ≤ (q : Int) := by omega
    have hci : (64 : Int) ≤ (c' : Int) := by omega
    have hci2 : (c' : Int) ≤ 9223372036854775807 := by omega
    go_wp2
    go_still_tail 3, (by kernel_rfl)
    change wpList _ _ _ _ _ wr.drew
    have d1 := Lib.hid r1.out.drew
    have d2 := Lib.hid r2.out.drew
    have dB := Lib.hid rB.out.drew
    have dm : Hid (RowN wr.drew (some ⟨b, off, none⟩) 64 ((l.drop (64 * k)).take 64)) := Lib.hid ((HQ.out.1.take hq).below dB.out)
    clear r1 r2 rB c0 c1 c2 c3 c4 c5 c6 c7
    generalize wr.drew = w2 at *
    have hmix := Lib.hid (mix_any ⟨xa, xb, xc, xd, xe, xf, xg, xh⟩ hok.out (some ⟨b, off, none⟩) 64 _ w2 dm.out (HK.out.below dB.out))
    go_wp2_with fail
    refine hmix.out.mono ?_
    clear hmix
    rintro e w3 ⟨rfl, hb3⟩
    rw [← HE.out]
    have e1 := Lib.hid (d1.out.below hb3)
    have e2 := Lib.hid (d2.out.below hb3)
    have eB := Lib.hid (dB.out.trans (hb3.mono dB.out.size))
    have HX8 : Hid ((St.list ⟨xa, xb, xc, xd, xe, xf, xg, xh⟩).length = 8) := Lib.hid rfl
    generalize hy : blocksN rootsN s l (k + 1) = y at *
    have HY := Lib.hid hy
    have HY8 : Hid (y.list.length = 8) := Lib.hid rfl
    clear d1 d2 dB dm hb3 hy
    by_cases hcap : c' = 64
    · subst hcap
      go_wp2_with (with_reducible refine wpList_storeK 182 (.tmp 2) (.tmp 12) rfl rfl w.heap.size .u32 .u32 182 (St.list ⟨xa, xb, xc, xd, xe, xf, xg, xh⟩) y.list 8 e1 rfl rfl size8w HY8 HX8 ?_)
      have f1 := Lib.hid (e1.out.setRow y.list)
      have f2 := Lib.hid (e2.out.setRowOther w.heap.size (cellsK .u32 y.list).toArray (by omega))
      have fB := Lib.hid (below_setRow eB.out (g := w.heap.size) (by omega) (cellsK .u32 y.list).toArray)
      clear e1 e2 eB
      generalize w3.setRow w.heap.size (cellsK .u32 y.list).toArray = w4 at *
      go_roundw
      case rel =>
       refine ⟨k + 1, some ⟨b, off, none⟩, 0, by have := HQD.out; omega, ?_, by omega, Lib.hid (fun x hx => by injection hx with hx; subst hx; exact HX.out ⟨b, off, none⟩ rfl), ?_, by rw [HY.out]; exact f1, f2, fB⟩
       · rw [show n - 64 * (k + 1) = 0 from by have := HQD.out; omega]
       · rw [show n - 64 * (k + 1) = q - 64 from by have := HQD.out; omega, show 64 * (k + 1) = 64 * k + 64 from by omega, ← List.drop_drop]
         exact Lib.hid (by
          have h0 : q = 64 := by omega
          have hln := HQ.out.1.length
          rw [List.drop_eq_nil_of_le (by omega), h0]
          exact ⟨RowN.nilS, (fun h => by cases h), by omega⟩)
      case measure => simp; omega
    · go_wp2_with (with_reducible refine wpList_storeK 182 (.tmp 2) (.tmp 12) rfl rfl w.heap.size .u32 .u32 182 (St.list ⟨xa, xb, xc, xd, xe, xf, xg, xh⟩) y.list 8 e1 rfl rfl size8w HY8 HX8 ?_)
      have f1 := Lib.hid (e1.out.setRow y.list)
      have f2 := Lib.hid (e2.out.setRowOther w.heap.size (cellsK .u32 y.list).toArray (by omega))
      have fB := Lib.hid (below_setRow eB.out (g := w.heap.size) (by omega) (cellsK .u32 y.list).toArray)
      clear e1 e2 eB
      generalize w3.setRow w.heap.size (cellsK .u32 y.list).toArray = w4 at *
      go_roundw
      case rel =>
       refine ⟨k + 1, some ⟨b, off + 64, none⟩, c' - 64, by have := HQD.out; omega, ?_, by omega, Lib.hid (fun x hx => by injection hx with hx; subst hx; exact HX.out ⟨b, off, none⟩ rfl), ?_, by rw [HY.out]; exact f1, f2, fB⟩
       · rw [show n - 64 * (k + 1) = q - 64 from by have := HQD.out; omega]
       · rw [show n - 64 * (k + 1) = q - 64 from by have := HQD.out; omega, show 64 * (k + 1) = 64 * k + 64 from by omega, ← List.drop_drop]
         exact Lib.hid ⟨HQ.out.1.dropAt hq, (fun h => by cases h), by omega⟩
      case measure => simp; omega
  · obtain rfl : k = n / 64 := by omega
    have HX8 : Hid ((blocksN rootsN s l (n / 64)).list.length = 8) := Lib.hid rfl
    have hz8 : Hid ((List.replicate 8 0 : List Nat).length = 8) := Lib.hid rfl
    have hq1 : Hid (n - 64 * (n / 64) = n % 64) := Lib.hid (by omega)
    rw [hq1.out] at HQ
    rw [hq1.out]
    have hqi : ¬ (64 : Int) ≤ ((n % 64 : Nat) : Int) := by omega
    generalize hy : blocksN rootsN s l (n / 64) = y at *
    have HY := Lib.hid hy
    generalize hqd : n % 64 = q at *
    have HQD := Lib.hid hqd
    clear hy hqd
    go_wp2_with (first | (with_reducible refine wpList_loadK 182 (.tmp 2) rfl rfl w.heap.size .u32 182 y.list 8 138 r1 rfl Tryz.underlying182 size8w HX8 ?_) | (with_reducible refine wpList_storeK 182 (.tmp 4) (.tmp 15) rfl rfl (w.heap.size + 1) .u32 .u32 182 (List.replicate 8 0) y.list 8 r2 rfl rfl size8w HX8 hz8 ?_))
    exact bodyPost_ret (resultsK2 rfl _ _ (w.heap.size + 1) .u32 182 _ 8 138 rfl (r2.out.setRow y.list) Tryz.underlying182 size8w HX8 (.slice A' q c') rfl) rfl ⟨⟨A', c', by rw [HY.out, HQD.out], hc', by rw [HQD.out]; exact HQ.out.below (below_setRow rB.out (by omega) _), HX.out⟩, below_setRow rB.out (by omega) _⟩
theorem whole_any (s : St) (hs : s.ok) (A : Option Addr) (n cap : Nat) (l : List Nat) (hn : n ≤ 100000) (w : World) (hR : Held w A n cap l) (hcm : cap ≤ 9223372036854775807) (hK : RootsOk w) :
 Calls Tryz.prog 123 #[.agg (cellsK .u32 s.list).toArray, .slice A n cap] w fun e w' => (∃ A' cap', e = .returned (.tuple #[.agg (cellsK .u32 (blocksN rootsN s l (n / 64)).list).toArray, .slice A' (n % 64) cap']) ∧ cap' ≤ 9223372036854775807 ∧ Held w' A' (n % 64) cap' (l.drop (64 * (n / 64)))) ∧ Below w.heap.size w w' :=
 (whole_blk s hs A n cap l hn w hR hcm hK).mono fun _ _ ⟨⟨A', c', h1, h2, h3, _⟩, h5⟩ => ⟨⟨A', c', h1, h2, h3⟩, h5⟩
end Go.Proofs.YtdjnebgjdekmaaaGreatDoor
