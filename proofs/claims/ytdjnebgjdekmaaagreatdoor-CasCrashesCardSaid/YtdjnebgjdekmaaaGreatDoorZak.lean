/- The table of the first 64 primes' cube roots, as the package's variable holds it. -/
import Derived.Test.YtdjnebgjdekmaaaGreatDoorZag
import Derived.Lib.LaidTab
import Derived.Stop.LaidErr
import Derived.LaidMore
import Derived.Laws.Rows
set_option linter.unusedVariables false
namespace Go.Proofs.YtdjnebgjdekmaaaGreatDoor
open Go.RowKit
def rootsN : List Nat := [1116352408, 1899447441, 3049323471, 3921009573, 961987163, 1508970993, 2453635748, 2870763221, 3624381080, 310598401, 607225278, 1426881987, 1925078388, 2162078206, 2614888103, 3248222580, 3835390401, 4022224774, 264347078, 604807628, 770255983, 1249150122, 1555081692, 1996064986, 2554220882, 2821834349, 2952996808, 3210313671, 3336571891, 3584528711, 113926993, 338241895, 666307205, 773529912, 1294757372, 1396182291, 1695183700, 1986661051, 2177026350, 2456956037, 2730485921, 2820302411, 3259730800, 3345764771, 3516065817, 3600352804, 4094571909, 275423344, 430227734, 506948616, 659060556, 883997877, 958139571, 1322822218, 1537002063, 1747873779, 1955562222, 2024104815, 2227730452, 2361852424, 2428436474, 2756734187, 3204031479, 3329325298]
def rootsZ : List Int := rootsN.map Int.ofNat
def RootsOk (w : World) : Prop := 1 < w.heap.size ∧ ∀ t, t < 64 → w.cell? ⟨1, t, none⟩ = some (.int .u32 ((rootsN.getD t 0 : Nat) : Int))
theorem RootsOk.below {w w' : World} (h : RootsOk w) (hb : Below w.heap.size w w') : RootsOk w' :=
 ⟨Nat.lt_of_lt_of_le h.1 hb.size, fun t ht => (hb.cell (p := ⟨1, t, none⟩) h.1).trans (h.2 t ht)⟩
theorem roots_data : Rows.laid_brazier_digest_roots (H := Unit) = Lib.tabData .u32 rootsZ := by kernel_rfl
theorem roots_of_laid {W : World} (h : laidMetH Tryz.prog [("brazier/digest.roots", Rows.laid_brazier_digest_roots)] W) : RootsOk W := by
 rw [MakeChecks.laidMetH_plain _ _ _ (by kernel_rfl), roots_data] at h
 have hT := Lib.tabIs_of_head (P := Tryz.prog) (g := 1) (t := 198) (e := 138) (n := 64) (by kernel_rfl) (by kernel_rfl) Tryz.underlying198 Tryz.underlying138 (by kernel_rfl) (by kernel_rfl) h
 have hc : ∀ t, t < 64 → W.cell? ⟨1, t, none⟩ = some (.int .u32 ((rootsN.getD t 0 : Nat) : Int)) := fun t ht => by
  have hl : rootsN.length = 64 := by decide
  rw [hT.cell (g := 1) (by kernel_rfl) t (by rw [rootsZ, List.length_map, hl]; exact ht)]
  have hl' : t < rootsN.length := by omega
  simp [rootsZ, List.getD, hl']
 exact ⟨block_lt_of_cell (hc 0 (by omega)), hc⟩
theorem wrap_add' (a b : Nat) : ((a : Int) + (b : Int)) % 4294967296 = ((addM a b : Nat) : Int) := by
 unfold addM
 omega
theorem mix_sums (s : St) (k w : Nat) (h : s.ok) :
 bits .xor .u32 (bits .xor .u32 (dn s.e 6 : Int) (dn s.e 11 : Int)) (dn s.e 25 : Int) = (bS1 s.e : Int) := by
 have he := h.2.2.2.2.1
 rw [u32_xor_nat _ _ (dn_lt _ _ he) (dn_lt _ _ he)]
 exact u32_xor_nat _ _ (xor_lt _ _ (dn_lt _ _ he) (dn_lt _ _ he)) (dn_lt _ _ he)
theorem mix_sums0 (s : St) (h : s.ok) :
 bits .xor .u32 (bits .xor .u32 (dn s.a 2 : Int) (dn s.a 13 : Int)) (dn s.a 22 : Int) = (bS0 s.a : Int) := by
 have he := h.1
 rw [u32_xor_nat _ _ (dn_lt _ _ he) (dn_lt _ _ he)]
 exact u32_xor_nat _ _ (xor_lt _ _ (dn_lt _ _ he) (dn_lt _ _ he)) (dn_lt _ _ he)
theorem not_u32' (s : Nat) (hs : s < 4294967296) : bits .xor .u32 IntKind.u32.max (s : Int) = ((notN32 s : Nat) : Int) := not_u32 s hs
theorem mix_ch (s : St) (h : s.ok) :
 bits .xor .u32 (bits .and .u32 (s.e : Int) (s.f : Int)) (bits .and .u32 (notN32 s.e : Int) (s.g : Int)) = (chN s.e s.f s.g : Int) := by
 rw [u32_and_nat _ _ h.2.2.2.2.1 h.2.2.2.2.2.1, u32_and_nat _ _ (notN32_lt _) h.2.2.2.2.2.2.1]
 exact u32_xor_nat _ _ (and_ltS _ _ h.2.2.2.2.1) (and_ltS _ _ (notN32_lt _))
theorem mix_maj (s : St) (h : s.ok) :
 bits .xor .u32 (bits .xor .u32 (bits .and .u32 (s.a : Int) (s.b : Int)) (bits .and .u32 (s.a : Int) (s.c : Int))) (bits .and .u32 (s.b : Int) (s.c : Int)) = (majN s.a s.b s.c : Int) := by
 rw [u32_and_nat _ _ h.1 h.2.1, u32_and_nat _ _ h.1 h.2.2.1, u32_and_nat _ _ h.2.1 h.2.2.1, u32_xor_nat _ _ (and_ltS _ _ h.1) (and_ltS _ _ h.1)]
 exact u32_xor_nat _ _ (xor_lt _ _ (and_ltS _ _ h.1) (and_ltS _ _ h.1)) (and_ltS _ _ h.2.1)
def mixP (s r : List Nat) : Nat → List Nat
 | 0 => s
 | i + 1 => (mixP s r i).set i (addM (s.getD i 0) (r.getD i 0))
theorem size43z : (#[.int .u32 0, .int .u32 0, .int .u32 0, .int .u32 0, .int .u32 0, .int .u32 0, .int .u32 0, .int .u32 0] : Array Value) = (cellsK .u32 (List.replicate 8 0)).toArray := by kernel_rfl
set_option maxRecDepth 100000 in
set_option maxHeartbeats 4000000 in
theorem mix_any (s : St) (hs : s.ok) (A : Option Addr) (cap : Nat) (l : List Nat) (w : World) (hR : RowN w A 64 l) (hK : RootsOk w) :
 Calls Tryz.prog 130 #[.agg (cellsK .u32 s.list).toArray, .slice A 64 cap] w fun e w' => e = .returned (.agg (cellsK .u32 (mixN rootsN s l).list).toArray) ∧ Below w.heap.size w w' := by
 have HR := Lib.hid hR
 have HK := Lib.hid hK
 clear hR hK
 have hB : Below w.heap.size w ((w.alloc (.cells (cellsK .u32 s.list).toArray 182)).alloc (.cells (cellsK .u32 (List.replicate 8 0)).toArray 182)) := ((Below.refl _ _).alloc (Nat.le_refl _) _).alloc (by simp) _
 have h1 := Lib.hid (row_alloc2a w s.list (List.replicate 8 0) .u32 .u32 182 182)
 have h2 := Lib.hid (row_alloc2b w s.list (List.replicate 8 0) .u32 .u32 182 182)
 go_enter Tryz.func130, Tryz.ntmps130
 go_wp2_with fail
 rw [size43z]
 generalize (w.alloc (.cells (cellsK .u32 s.list).toArray 182)).alloc (.cells (cellsK .u32 (List.replicate 8 0)).toArray 182) = w0 at *
 refine (spread_any A cap l _ (HR.out.below hB)).mono ?_
 rintro e w1 ⟨rfl, hb1⟩
 have hwl : Hid ((sched (words l) 48).length = 64) := Lib.hid (by rw [sched_length, words_length])
 have hwb := Lib.hid (sched_lt (words l) (words_lt l HR.out.lt) 48)
 generalize hws : sched (words l) 48 = ws at *
 have HWS := Lib.hid hws
 clear hws
 have k1 := Lib.hid ((h1.out.below hb1).alloc (.cells (cellsK .u32 (List.replicate 64 0)).toArray 198))
 have k2 := Lib.hid ((h2.out.below hb1).alloc (.cells (cellsK .u32 (List.replicate 64 0)).toArray 198))
 have k3 := Lib.hid (Row.new w1 .u32 198 (List.replicate 64 0))
 have kB := Lib.hid ((hB.trans (hb1.mono hB.size)).alloc ((hB.trans (hb1.mono hB.size)).size) (.cells (cellsK .u32 (List.replicate 64 0)).toArray 198))
 have hsz : w.heap.size + 1 < w1.heap.size := Nat.lt_of_lt_of_le h2.out.lt hb1.size
 have hz64 : Hid ((List.replicate 64 0 : List Nat).length = 64) := Lib.hid (List.length_replicate ..)
 clear h1 h2 hb1 hB
 go_wp2_with (first | (rw [zeros56]; with_reducible refine wpList_storeK 198 (.tmp 5) (.tmp 20) rfl rfl w1.heap.size .u32 .u32 198 (List.replicate 64 0) ws 64 k3 rfl rfl size64w hwl hz64 ?_))
 have m1 := Lib.hid (k1.out.setRowOther w1.heap.size (cellsK .u32 ws).toArray (by omega))
 have m2 := Lib.hid (k2.out.setRowOther w1.heap.size (cellsK .u32 ws).toArray (by omega))
 have m3 := Lib.hid (k3.out.setRow ws)
 have mB := Lib.hid (below_setRow kB.out (g := w1.heap.size) (by omega) (cellsK .u32 ws).toArray)
 have hwl2 := hwl
 clear k1 k2 k3 kB hz64 hwl
 generalize ((w1.alloc (.cells (cellsK .u32 (List.replicate 64 0)).toArray 198)).setRow w1.heap.size (cellsK .u32 ws).toArray) = w2 at *
 generalize w1.heap.size = g3 at *
 obtain ⟨a, b, c, d, e, f, g, h⟩ := s
 have c0 : w2.cell? ⟨w.heap.size, 0, none⟩ = some (.int .u32 (a : Int)) := m1.out.cell 0 (by simp [St.list])
 have c1 : w2.cell? ⟨w.heap.size, 1, none⟩ = some (.int .u32 (b : Int)) := m1.out.cell 1 (by simp [St.list])
 have c2 : w2.cell? ⟨w.heap.size, 2, none⟩ = some (.int .u32 (c : Int)) := m1.out.cell 2 (by simp [St.list])
 have c3 : w2.cell? ⟨w.heap.size, 3, none⟩ = some (.int .u32 (d : Int)) := m1.out.cell 3 (by simp [St.list])
 have c4 : w2.cell? ⟨w.heap.size, 4, none⟩ = some (.int .u32 (e : Int)) := m1.out.cell 4 (by simp [St.list])
 have c5 : w2.cell? ⟨w.heap.size, 5, none⟩ = some (.int .u32 (f : Int)) := m1.out.cell 5 (by simp [St.list])
 have c6 : w2.cell? ⟨w.heap.size, 6, none⟩ = some (.int .u32 (g : Int)) := m1.out.cell 6 (by simp [St.list])
 have c7 : w2.cell? ⟨w.heap.size, 7, none⟩ = some (.int .u32 (h : Int)) := m1.out.cell 7 (by simp [St.list])
 go_wp2
 go_quiet (fail)
 clear c0 c1 c2 c3 c4 c5 c6 c7
 have n1 := Lib.hid (m1.out.drewN nq)
 have n2 := Lib.hid (m2.out.drewN nq)
 have n3 := Lib.hid (m3.out.drewN nq)
 have nB := Lib.hid (below_drewNS mB.out nq)
 clear m1 m2 m3 mB
 generalize w2.drewN nq = w3 at *
 go_wp2
 have hK3 := Lib.hid (HK.out.below nB.out)
 go_loopw [6, 7, 8, 9, 10, 11, 12, 13, 37] (fun va vb vc vd ve vf vg vh vt wr => ∃ (t : Nat) (x : St), t ≤ 64 ∧ vt = .int .i64 t ∧ Hid (rnds rootsN ws ⟨a, b, c, d, e, f, g, h⟩ t = x) ∧ va = .int .u32 x.a ∧ vb = .int .u32 x.b ∧ vc = .int .u32 x.c ∧ vd = .int .u32 x.d ∧ ve = .int .u32 x.e ∧ vf = .int .u32 x.f ∧ vg = .int .u32 x.g ∧ vh = .int .u32 x.h ∧
  Hid (Row wr w.heap.size .u32 182 (St.list ⟨a, b, c, d, e, f, g, h⟩)) ∧ Hid (Row wr (w.heap.size + 1) .u32 182 (List.replicate 8 0)) ∧ Hid (Row wr g3 .u32 198 ws) ∧ Hid (Below w.heap.size w wr)) (fun _ _ _ _ _ _ _ _ i _ => 64 - (intOf i).toNat)
 case atStart => exact ⟨0, _, by omega, rfl, Lib.hid rfl, rfl, rfl, rfl, rfl, rfl, rfl, rfl, rfl, n1, n2, n3, nB⟩
 case round =>
  obtain ⟨t, x, ht, rfl, HX, rfl, rfl, rfl, rfl, rfl, rfl, rfl, rfl, r1, r2, r3, rB⟩ := hrel
  clear n1 n2 n3 nB hK3
  by_cases ht64 : t < 64
  · have hok := Lib.hid (rnds_ok rootsN ws ⟨a, b, c, d, e, f, g, h⟩ hs t)
    rw [HX.out] at hok
    have HX1 : Hid (rnds rootsN ws ⟨a, b, c, d, e, f, g, h⟩ (t + 1) = rnd x (rootsN.getD t 0) (ws.getD t 0)) := Lib.hid (by rw [rnds, HX.out])
    clear HX hs
    obtain ⟨xa, xb, xc, xd, xe, xf, xg, xh⟩ := x
    obtain ⟨ha, hb, hc, hd, he, hf, hg, hh⟩ := hok.out
    dsimp only at ha hb hc hd he hf hg hh
    have ck := (HK.out.below rB.out).2 t ht64
    have cw := r3.out.cell t (by rw [hwl2.out]; exact ht64)
    generalize rootsN.getD t 0 = kt at *
    generalize ws.getD t 0 = wt at *
    have x1 : bits .xor .u32 (bits .xor .u32 (dn xe 6 : Int) (dn xe 11 : Int)) (dn xe 25 : Int) = (bS1 xe : Int) := mix_sums ⟨xa, xb, xc, xd, xe, xf, xg, xh⟩ 0 0 hok.out
    have x0 : bits .xor .u32 (if IntKind.u32.signed = true then -1 else IntKind.u32.max) (xe : Int) = (notN32 xe : Int) := not_u32' xe he
    have x2 : bits .xor .u32 (bits .and .u32 (xe : Int) (xf : Int)) (bits .and .u32 (notN32 xe : Int) (xg : Int)) = (chN xe xf xg : Int) := mix_ch ⟨xa, xb, xc, xd, xe, xf, xg, xh⟩ hok.out
    have y1 := wrap_add xh (bS1 xe)
    have y2 := wrap_add (addM xh (bS1 xe)) (chN xe xf xg)
    have y3 := wrap_add (addM (addM xh (bS1 xe)) (chN xe xf xg)) kt
    have y4 := wrap_add (addM (addM (addM xh (bS1 xe)) (chN xe xf xg)) kt) wt
    have ht' : (t : Int) < 64 := by omega
    go_wp2
    go_quiet ((first | (go_at_call 138; exact quiet_left (down_6 xe he _)) | (go_at_call 138; exact quiet_left (down_11 xe he _)) | (go_at_call 138; exact quiet_left (down_25 xe he _))))
    have q1 := Lib.hid (r1.out.drewN nq)
    have q2 := Lib.hid (r2.out.drewN nq)
    have q3 := Lib.hid (r3.out.drewN nq)
    have qB := Lib.hid (below_drewNS rB.out nq)
    clear r1 r2 r3 rB x0 x1 x2 y1 y2 y3 y4 ck cw he hf hg hh HK HR hwb
    generalize wr.drewN nq = w4 at *
    have HT : Hid (tOne ⟨xa, xb, xc, xd, xe, xf, xg, xh⟩ kt wt = addM (addM (addM (addM xh (bS1 xe)) (chN xe xf xg)) kt) wt) := Lib.hid rfl
    generalize addM (addM (addM (addM xh (bS1 xe)) (chN xe xf xg)) kt) wt = to at *
    have x3 : bits .xor .u32 (bits .xor .u32 (dn xa 2 : Int) (dn xa 13 : Int)) (dn xa 22 : Int) = (bS0 xa : Int) := mix_sums0 ⟨xa, xb, xc, xd, xe, xf, xg, xh⟩ hok.out
    have x4 : bits .xor .u32 (bits .xor .u32 (bits .and .u32 (xa : Int) (xb : Int)) (bits .and .u32 (xa : Int) (xc : Int))) (bits .and .u32 (xb : Int) (xc : Int)) = (majN xa xb xc : Int) := mix_maj ⟨xa, xb, xc, xd, xe, xf, xg, xh⟩ hok.out
    have z1 := wrap_add' (bS0 xa) (majN xa xb xc)
    have z2 := wrap_add' xd to
    have z3 := wrap_add' to (addM (bS0 xa) (majN xa xb xc))
    go_wp2_with (first | (go_at_call 138; refine (down_2 xa ha _).mono ?_; rintro e w' ⟨rfl, rfl⟩) | (go_at_call 138; refine (down_13 xa ha _).mono ?_; rintro e w' ⟨rfl, rfl⟩) | (go_at_call 138; refine (down_22 xa ha _).mono ?_; rintro e w' ⟨rfl, rfl⟩))
    go_roundw
    case rel =>
     refine ⟨t + 1, _, by omega, by go_num, HX1, ?_, rfl, rfl, rfl, ?_, rfl, rfl, rfl, q1, q2, q3, qB⟩
     · rw [rnd, HT.out]; rfl
     · rw [rnd, HT.out]; exact congrArg (Value.int IntKind.u32) z2
    case measure => simp [intOf]; omega
  · obtain rfl : t = 64 := by omega
    obtain ⟨xa, xb, xc, xd, xe, xf, xg, xh⟩ := x
    have hl8 : Hid ((mixP [a, b, c, d, e, f, g, h] [xa, xb, xc, xd, xe, xf, xg, xh] 8).length = 8) := Lib.hid rfl
    have hz8 : Hid ((List.replicate 8 0 : List Nat).length = 8) := Lib.hid rfl
    dsimp only
    clear HK HR hwb hs hwl2
    go_wp2
    go_loopw [109] (fun i wr => ∃ j : Nat, j ≤ 8 ∧ i = .int .i64 j ∧ Hid (Row wr w.heap.size .u32 182 (mixP [a, b, c, d, e, f, g, h] [xa, xb, xc, xd, xe, xf, xg, xh] j)) ∧ Hid (Row wr (w.heap.size + 1) .u32 182 (List.replicate 8 0)) ∧ Hid (Below w.heap.size w wr)) (fun i _ => 8 - (intOf i).toNat)
    case atStart => exact ⟨0, by omega, rfl, r1, r2, rB⟩
    case round =>
     obtain ⟨j, hj, rfl, p1, p2, pB⟩ := hrel
     clear r1 r2 r3 rB
     have hcases : j = 0 ∨ j = 1 ∨ j = 2 ∨ j = 3 ∨ j = 4 ∨ j = 5 ∨ j = 6 ∨ j = 7 ∨ j = 8 := by omega
     rcases hcases with rfl | rfl | rfl | rfl | rfl | rfl | rfl | rfl | rfl
     · have hi : ∀ w, (Instr.index 182 (.agg #[.int .u32 (xa : Int), .int .u32 (xb : Int), .int .u32 (xc : Int), .int .u32 (xd : Int), .int .u32 (xe : Int), .int .u32 (xf : Int), .int .u32 (xg : Int), .int .u32 (xh : Int)]) (.int .i64 0)).run Tryz.prog w = .ok (.int .u32 (xa : Int)) w := fun _ => by kernel_rfl
       have hc : wr.cell? ⟨w.heap.size, 0, none⟩ = some (.int .u32 (a : Int)) := p1.out.cell 0 (by exact (by decide : 0 < 8))
       have hf := p1.out.free 0
       have hz := wrap_add' a xa
       have hN : Hid (Row (wr.setCell ⟨w.heap.size, 0, none⟩ (.int .u32 ((addM a xa : Nat) : Int))) w.heap.size .u32 182 (mixP [a, b, c, d, e, f, g, h] [xa, xb, xc, xd, xe, xf, xg, xh] (0 + 1))) := Lib.hid (p1.out.set 0 (addM a xa))
       go_wp2
       go_roundw
       case rel => exact ⟨0 + 1, by omega, by go_num, hN, Lib.hid (p2.out.other _ _ (by simp)), Lib.hid (pB.out.setCell (by simp) _)⟩
       case measure => simp [intOf]
     · have hi : ∀ w, (Instr.index 182 (.agg #[.int .u32 (xa : Int), .int .u32 (xb : Int), .int .u32 (xc : Int), .int .u32 (xd : Int), .int .u32 (xe : Int), .int .u32 (xf : Int), .int .u32 (xg : Int), .int .u32 (xh : Int)]) (.int .i64 1)).run Tryz.prog w = .ok (.int .u32 (xb : Int)) w := fun _ => by kernel_rfl
       have hc : wr.cell? ⟨w.heap.size, 1, none⟩ = some (.int .u32 (b : Int)) := p1.out.cell 1 (by exact (by decide : 1 < 8))
       have hf := p1.out.free 1
       have hz := wrap_add' b xb
       have hN : Hid (Row (wr.setCell ⟨w.heap.size, 1, none⟩ (.int .u32 ((addM b xb : Nat) : Int))) w.heap.size .u32 182 (mixP [a, b, c, d, e, f, g, h] [xa, xb, xc, xd, xe, xf, xg, xh] (1 + 1))) := Lib.hid (p1.out.set 1 (addM b xb))
       go_wp2
       go_roundw
       case rel => exact ⟨1 + 1, by omega, by go_num, hN, Lib.hid (p2.out.other _ _ (by simp)), Lib.hid (pB.out.setCell (by simp) _)⟩
       case measure => simp [intOf]
     · have hi : ∀ w, (Instr.index 182 (.agg #[.int .u32 (xa : Int), .int .u32 (xb : Int), .int .u32 (xc : Int), .int .u32 (xd : Int), .int .u32 (xe : Int), .int .u32 (xf : Int), .int .u32 (xg : Int), .int .u32 (xh : Int)]) (.int .i64 2)).run Tryz.prog w = .ok (.int .u32 (xc : Int)) w := fun _ => by kernel_rfl
       have hc : wr.cell? ⟨w.heap.size, 2, none⟩ = some (.int .u32 (c : Int)) := p1.out.cell 2 (by exact (by decide : 2 < 8))
       have hf := p1.out.free 2
       have hz := wrap_add' c xc
       have hN : Hid (Row (wr.setCell ⟨w.heap.size, 2, none⟩ (.int .u32 ((addM c xc : Nat) : Int))) w.heap.size .u32 182 (mixP [a, b, c, d, e, f, g, h] [xa, xb, xc, xd, xe, xf, xg, xh] (2 + 1))) := Lib.hid (p1.out.set 2 (addM c xc))
       go_wp2
       go_roundw
       case rel => exact ⟨2 + 1, by omega, by go_num, hN, Lib.hid (p2.out.other _ _ (by simp)), Lib.hid (pB.out.setCell (by simp) _)⟩
       case measure => simp [intOf]
     · have hi : ∀ w, (Instr.index 182 (.agg #[.int .u32 (xa : Int), .int .u32 (xb : Int), .int .u32 (xc : Int), .int .u32 (xd : Int), .int .u32 (xe : Int), .int .u32 (xf : Int), .int .u32 (xg : Int), .int .u32 (xh : Int)]) (.int .i64 3)).run Tryz.prog w = .ok (.int .u32 (xd : Int)) w := fun _ => by kernel_rfl
       have hc : wr.cell? ⟨w.heap.size, 3, none⟩ = some (.int .u32 (d : Int)) := p1.out.cell 3 (by exact (by decide : 3 < 8))
       have hf := p1.out.free 3
       have hz := wrap_add' d xd
       have hN : Hid (Row (wr.setCell ⟨w.heap.size, 3, none⟩ (.int .u32 ((addM d xd : Nat) : Int))) w.heap.size .u32 182 (mixP [a, b, c, d, e, f, g, h] [xa, xb, xc, xd, xe, xf, xg, xh] (3 + 1))) := Lib.hid (p1.out.set 3 (addM d xd))
       go_wp2
       go_roundw
       case rel => exact ⟨3 + 1, by omega, by go_num, hN, Lib.hid (p2.out.other _ _ (by simp)), Lib.hid (pB.out.setCell (by simp) _)⟩
       case measure => simp [intOf]
     · have hi : ∀ w, (Instr.index 182 (.agg #[.int .u32 (xa : Int), .int .u32 (xb : Int), .int .u32 (xc : Int), .int .u32 (xd : Int), .int .u32 (xe : Int), .int .u32 (xf : Int), .int .u32 (xg : Int), .int .u32 (xh : Int)]) (.int .i64 4)).run Tryz.prog w = .ok (.int .u32 (xe : Int)) w := fun _ => by kernel_rfl
       have hc : wr.cell? ⟨w.heap.size, 4, none⟩ = some (.int .u32 (e : Int)) := p1.out.cell 4 (by exact (by decide : 4 < 8))
       have hf := p1.out.free 4
       have hz := wrap_add' e xe
       have hN : Hid (Row (wr.setCell ⟨w.heap.size, 4, none⟩ (.int .u32 ((addM e xe : Nat) : Int))) w.heap.size .u32 182 (mixP [a, b, c, d, e, f, g, h] [xa, xb, xc, xd, xe, xf, xg, xh] (4 + 1))) := Lib.hid (p1.out.set 4 (addM e xe))
       go_wp2
       go_roundw
       case rel => exact ⟨4 + 1, by omega, by go_num, hN, Lib.hid (p2.out.other _ _ (by simp)), Lib.hid (pB.out.setCell (by simp) _)⟩
       case measure => simp [intOf]
     · have hi : ∀ w, (Instr.index 182 (.agg #[.int .u32 (xa : Int), .int .u32 (xb : Int), .int .u32 (xc : Int), .int .u32 (xd : Int), .int .u32 (xe : Int), .int .u32 (xf : Int), .int .u32 (xg : Int), .int .u32 (xh : Int)]) (.int .i64 5)).run Tryz.prog w = .ok (.int .u32 (xf : Int)) w := fun _ => by kernel_rfl
       have hc : wr.cell? ⟨w.heap.size, 5, none⟩ = some (.int .u32 (f : Int)) := p1.out.cell 5 (by exact (by decide : 5 < 8))
       have hf := p1.out.free 5
       have hz := wrap_add' f xf
       have hN : Hid (Row (wr.setCell ⟨w.heap.size, 5, none⟩ (.int .u32 ((addM f xf : Nat) : Int))) w.heap.size .u32 182 (mixP [a, b, c, d, e, f, g, h] [xa, xb, xc, xd, xe, xf, xg, xh] (5 + 1))) := Lib.hid (p1.out.set 5 (addM f xf))
       go_wp2
       go_roundw
       case rel => exact ⟨5 + 1, by omega, by go_num, hN, Lib.hid (p2.out.other _ _ (by simp)), Lib.hid (pB.out.setCell (by simp) _)⟩
       case measure => simp [intOf]
     · have hi : ∀ w, (Instr.index 182 (.agg #[.int .u32 (xa : Int), .int .u32 (xb : Int), .int .u32 (xc : Int), .int .u32 (xd : Int), .int .u32 (xe : Int), .int .u32 (xf : Int), .int .u32 (xg : Int), .int .u32 (xh : Int)]) (.int .i64 6)).run Tryz.prog w = .ok (.int .u32 (xg : Int)) w := fun _ => by kernel_rfl
       have hc : wr.cell? ⟨w.heap.size, 6, none⟩ = some (.int .u32 (g : Int)) := p1.out.cell 6 (by exact (by decide : 6 < 8))
       have hf := p1.out.free 6
       have hz := wrap_add' g xg
       have hN : Hid (Row (wr.setCell ⟨w.heap.size, 6, none⟩ (.int .u32 ((addM g xg : Nat) : Int))) w.heap.size .u32 182 (mixP [a, b, c, d, e, f, g, h] [xa, xb, xc, xd, xe, xf, xg, xh] (6 + 1))) := Lib.hid (p1.out.set 6 (addM g xg))
       go_wp2
       go_roundw
       case rel => exact ⟨6 + 1, by omega, by go_num, hN, Lib.hid (p2.out.other _ _ (by simp)), Lib.hid (pB.out.setCell (by simp) _)⟩
       case measure => simp [intOf]
     · have hi : ∀ w, (Instr.index 182 (.agg #[.int .u32 (xa : Int), .int .u32 (xb : Int), .int .u32 (xc : Int), .int .u32 (xd : Int), .int .u32 (xe : Int), .int .u32 (xf : Int), .int .u32 (xg : Int), .int .u32 (xh : Int)]) (.int .i64 7)).run Tryz.prog w = .ok (.int .u32 (xh : Int)) w := fun _ => by kernel_rfl
       have hc : wr.cell? ⟨w.heap.size, 7, none⟩ = some (.int .u32 (h : Int)) := p1.out.cell 7 (by exact (by decide : 7 < 8))
       have hf := p1.out.free 7
       have hz := wrap_add' h xh
       have hN : Hid (Row (wr.setCell ⟨w.heap.size, 7, none⟩ (.int .u32 ((addM h xh : Nat) : Int))) w.heap.size .u32 182 (mixP [a, b, c, d, e, f, g, h] [xa, xb, xc, xd, xe, xf, xg, xh] (7 + 1))) := Lib.hid (p1.out.set 7 (addM h xh))
       go_wp2
       go_roundw
       case rel => exact ⟨7 + 1, by omega, by go_num, hN, Lib.hid (p2.out.other _ _ (by simp)), Lib.hid (pB.out.setCell (by simp) _)⟩
       case measure => simp [intOf]
     · go_wp2_with (first | (with_reducible refine wpList_loadK 182 (.tmp 2) rfl rfl w.heap.size .u32 182 (mixP [a, b, c, d, e, f, g, h] [xa, xb, xc, xd, xe, xf, xg, xh] 8) 8 138 p1 rfl Tryz.underlying182 size8w hl8 ?_) | (with_reducible refine wpList_storeK 182 (.tmp 4) (.tmp 120) rfl rfl (w.heap.size + 1) .u32 .u32 182 (List.replicate 8 0) (mixP [a, b, c, d, e, f, g, h] [xa, xb, xc, xd, xe, xf, xg, xh] 8) 8 p2 rfl rfl size8w hl8 hz8 ?_))
       have e8 : (mixN rootsN ⟨a, b, c, d, e, f, g, h⟩ l).list = mixP [a, b, c, d, e, f, g, h] [xa, xb, xc, xd, xe, xf, xg, xh] 8 := by
        unfold mixN
        rw [HWS.out, HX.out]
        rfl
       exact bodyPost_ret (resultsK rfl _ (w.heap.size + 1) .u32 182 _ 8 138 rfl (p2.out.setRow (mixP [a, b, c, d, e, f, g, h] [xa, xb, xc, xd, xe, xf, xg, xh] 8)) Tryz.underlying182 size8w hl8) rfl ⟨by rw [e8], below_setRow pB.out (by omega) _⟩
end Go.Proofs.YtdjnebgjdekmaaaGreatDoor
