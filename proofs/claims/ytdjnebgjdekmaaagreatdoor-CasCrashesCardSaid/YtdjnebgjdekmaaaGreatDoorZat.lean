/- The contract of the document's Sha. -/
import Derived.Test.YtdjnebgjdekmaaaGreatDoorZas
set_option linter.unusedVariables false
namespace Go.Proofs.YtdjnebgjdekmaaaGreatDoor
open Go.RowKit
set_option maxRecDepth 1000000 in
set_option maxHeartbeats 20000000 in
theorem refsha_any (A : Option Addr) (n cap : Nat) (l : List Nat) (hn : n ≤ 3000) (w : World) (hR : RowN w A n l) :
 Calls Tryz.prog 55 #[.slice A n cap] w fun e w' => (∃ g c, e = .returned (.slice (some ⟨g, 0, none⟩) 32 c) ∧ RowN w' (some ⟨g, 0, none⟩) 32 (shaN l)) ∧ Below w.heap.size w w' := by
 have HH := Lib.hid hR
 have HL : Hid (l.length = n) := Lib.hid hR.length
 clear hR
 have hnm : n % 64 < 64 := Nat.mod_lt _ (by decide)
 have hzle := zc_le (n % 64) hnm
 have T1 := Lib.hid (Row.new w .u32 138 rootsN)
 have B1 : Hid (Below w.heap.size w (w.alloc (.cells (cellsK .u32 rootsN).toArray 138))) := Lib.hid ((Below.refl _ _).alloc (Nat.le_refl _) _)
 have H1 := Lib.hid (HH.out.below B1.out)
 go_enter Tryz.func55, Tryz.ntmps55
 go_upto_region 2 with (fail)
 rw [tab24]
 generalize w.alloc (.cells (cellsK .u32 rootsN).toArray 138) = w1 at *
 have E1 : Hid ((w1.alloc (.cells #[] 5)).ownsRow w1.heap.size 5 1 (.slice (some ⟨w1.heap.size, 0, none⟩) 0 0) 0 (cellsZ (asZ []))) := Lib.hid (own_empty w1)
 have E2 : Hid (Below w1.heap.size w1 (w1.alloc (.cells #[] 5))) := Lib.hid ((Below.refl _ _).alloc (Nat.le_refl _) _)
 have H2 := Lib.hid (H1.out.below E2.out)
 go_upto_region 3 with (at_builtin; refine wpList_appendN (.tmp 32) (.tmp 33) rfl rfl w1.heap.size (.slice (some ⟨w1.heap.size, 0, none⟩) 0 0) 0 [] (by rfl) E1 A n cap l (by rfl) H2 (by omega) (by simp) ?_; intro v3 w3 O3 B3)
 rw [Nat.zero_add, List.nil_append] at O3
 have F3 := Lib.hid (E2.out.trans B3.out)
 have S3 := F3.out.size
 have y128 : Hid ((128 : Int) = ((128 : Nat) : Int)) := Lib.hid rfl
 clear B3 E1 E2 H2 H1
 go_wp2_with (at_builtin; refine wpList_append1 (.tmp 35) (.tmp 36) rfl rfl w1.heap.size v3 n l (by rfl) O3 128 128 y128 (by rfl) (by omega) S3 ?_; intro v4 w4 O4 B4)
 have F4 := Lib.hid (F3.out.trans B4.out)
 clear O3 B4 F3 S3
 obtain ⟨g4, c4, rfl, hg4, hc4⟩ := own_formN O4.out (by omega)
 have O4' : Hid (w4.ownsRow w1.heap.size 5 1 (.slice (some ⟨g4, 0, none⟩) (n + 1 + 0) c4) (n + 1 + 0) (cellsZ (asZ (l ++ ([128] ++ List.replicate 0 0))))) := by
  rw [List.replicate_zero, List.append_nil]
  exact O4
 clear O4
 go_loopw [4] (fun v wr => ∃ (j g c : Nat), j ≤ zc (n % 64) ∧ v = .slice (some ⟨g, 0, none⟩) (n + 1 + j) c ∧ Hid (wr.ownsRow w1.heap.size 5 1 (.slice (some ⟨g, 0, none⟩) (n + 1 + j) c) (n + 1 + j) (cellsZ (asZ (l ++ ([128] ++ List.replicate j 0))))) ∧ Hid (Below w1.heap.size w1 wr)) (fun v _ => match v with | .slice _ k _ => 5000 - k | _ => 0)
 case atStart => exact ⟨0, g4, c4, by omega, rfl, O4', F4⟩
 case round =>
  obtain ⟨j, g, c, hj, rfl, O5, F5⟩ := hrel
  clear O4' F4 hg4 hc4
  rcases Nat.lt_or_ge j (zc (n % 64)) with hjz | hjz
  · have hmod := zc_no (n % 64) j hnm hjz
    have ht : ((n : Int) + 1 + (j : Int)).tmod 64 = ((n : Int) + 1 + (j : Int)) % 64 := by rw [Int.tmod_eq_emod_of_nonneg (by omega)]
    have hne : (((n : Int) + 1 + (j : Int)) % 64 != 56) = true := by rw [bne_iff_ne]; omega
    have S5 := F5.out.size
    have y0 : Hid ((0 : Int) = ((0 : Nat) : Int)) := Lib.hid rfl
    have e : Hid ((l ++ ([128] ++ List.replicate j 0)) ++ [0] = l ++ ([128] ++ List.replicate (j + 1) 0)) := Lib.hid (by
     rw [List.replicate_succ', List.append_assoc, List.append_assoc])
    clear hmod
    go_wp2_with (at_builtin; go_loud (refine wpList_append1 (.tmp 42) (.tmp 43) rfl rfl w1.heap.size (.slice (some ⟨g, 0, none⟩) (n + 1 + j) c) (n + 1 + j) _ (by rfl) O5 0 0 y0 (by rfl) (by omega) S5 ?_); intro v6 w6 O6 B6)
    rw [e.out] at O6
    obtain ⟨g6, c6, rfl, hg6, hc6⟩ := own_formN O6.out (by omega)
    have F6 := Lib.hid (F5.out.trans B6.out)
    clear O5 F5 B6
    go_wp2
    go_roundw
    case rel => exact ⟨j + 1, g6, c6, by omega, rfl, O6, F6⟩
    case measure => simp; omega
  · obtain rfl : j = zc (n % 64) := by omega
    have hmod := zc_yes (n % 64) hnm
    have ht : ((n : Int) + 1 + (zc (n % 64) : Int)).tmod 64 = ((n : Int) + 1 + (zc (n % 64) : Int)) % 64 := by rw [Int.tmod_eq_emod_of_nonneg (by omega)]
    have hne : (((n : Int) + 1 + (zc (n % 64) : Int)) % 64 != 56) = false := by rw [bne_eq_false_iff_eq]; omega
    clear hmod
    have O6 : Hid (wr.ownsRow w1.heap.size 5 1 (.slice (some ⟨g, 0, none⟩) (n + 1 + zc (n % 64) + 0) c) (n + 1 + zc (n % 64) + 0) (cellsZ (asZ (l ++ ([128] ++ (List.replicate (zc (n % 64)) 0 ++ (lenBytes n).take 0)))))) := by
     rw [List.take_zero, List.append_nil]
     exact O5
    clear O5
    generalize hz : zc (n % 64) = z at *
    have HZ := Lib.hid hz
    clear hz
    go_wp2
    have HLB : Hid ((lenBytes n).length = 8) := Lib.hid (lenBytes_length n)
    go_loopw [4, 6] (fun v i wr => ∃ (q j g c : Nat), q + j = 8 ∧ i = .int .i64 ((q : Int) - 1) ∧ v = .slice (some ⟨g, 0, none⟩) (n + 1 + z + j) c ∧ Hid (wr.ownsRow w1.heap.size 5 1 (.slice (some ⟨g, 0, none⟩) (n + 1 + z + j) c) (n + 1 + z + j) (cellsZ (asZ (l ++ ([128] ++ (List.replicate z 0 ++ (lenBytes n).take j)))))) ∧ Hid (Below w1.heap.size w1 wr)) (fun _ i _ => (intOf i + 1).toNat)
    case atStart => exact ⟨8, 0, g, c, by omega, rfl, rfl, O6, F5⟩
    case round =>
     obtain ⟨q, j, gb, cb, hqj, rfl, rfl, O7, F7⟩ := hrel
     clear O6 F5 hne ht
     rcases Nat.eq_zero_or_pos q with hq | hq
     · subst hq
       obtain rfl : j = 8 := by omega
       rw [show ((0 : Nat) : Int) - 1 = -1 from rfl]
       have eP : Hid (l ++ ([128] ++ (List.replicate z 0 ++ (lenBytes n).take 8)) = padN l) := Lib.hid (by
        rw [List.take_of_length_le (by rw [HLB.out]; omega), padN, HL.out, HZ.out])
       rw [eP.out] at O7
       have hPl : Hid ((padN l).length = n + 1 + z + 8) := Lib.hid (by rw [← eP.out]; simp [HL.out, HLB.out]; omega)
       have R7 : Hid (RowN wr (some ⟨gb, 0, none⟩) (n + 1 + z + 8) (padN l)) := Lib.hid (RowN.of_own O7.out (padN_lt l HH.out.lt) hPl.out)
       have hP64 := padN_64 l
       rw [hPl.out] at hP64
       clear O7 eP HLB
       have hNb : n + 1 + z + 8 ≤ 5000 := by omega
       have hN0 : 0 < n + 1 + z + 8 := by omega
       generalize n + 1 + z + 8 = N at *
       go_upto_region 12 with (fail)
       rw [sum24]
       have hgbr := R7.out.blk hN0
       have T7 := Lib.hid ((T1.out.belowAt F7.out T1.out.lt).alloc (.cells (cellsK .u32 startN.list).toArray 138))
       have B7 := Lib.hid ((B1.out.trans (F7.out.mono B1.out.size)).alloc (B1.out.trans (F7.out.mono B1.out.size)).size (.cells (cellsK .u32 startN.list).toArray 138))
       have R8 := Lib.hid (R7.out.belowAt ((Below.refl wr.heap.size wr).alloc (Nat.le_refl _) (.cells (cellsK .u32 startN.list).toArray 138)) hgbr)
       have U7lt : wr.heap.size < (wr.alloc (.cells (cellsK .u32 startN.list).toArray 138)).heap.size := by simp
       have U7 := Lib.hid (Row.new wr .u32 138 startN.list)
       have hT7 : w.heap.size < wr.heap.size := Nat.lt_of_lt_of_le T1.out.lt F7.out.size
       clear T1 F7 R7 B1
       generalize wr.alloc (.cells (cellsK .u32 startN.list).toArray 138) = w7 at *
       generalize wr.heap.size = g7 at *
       have hwt : w.heap.size < g7 := hT7
       go_wp2
       have U8 : Hid (Row w7 g7 .u32 138 (blocksN rootsN startN (padN l) 0).list) := U7
       have BB : Hid (Below g7 w7 w7) := Lib.hid (Below.refl _ _)
       clear U7
       go_loopw [8] (fun i wr => ∃ k : Nat, k ≤ N / 64 ∧ i = .int .i64 (64 * (k : Int)) ∧ Hid (Row wr g7 .u32 138 (blocksN rootsN startN (padN l) k).list) ∧ Hid (Below g7 w7 wr)) (fun i _ => 5000 - (intOf i).toNat)
       case atStart => exact ⟨0, by omega, rfl, U8, BB⟩
       case round =>
        obtain ⟨k, hk, rfl, U9, B9⟩ := hrel
        clear U8 BB
        rcases Nat.lt_or_ge k (N / 64) with hkn | hkn
        · have hki : 64 * (k : Int) < (N : Int) := by omega
          have hblkl : Hid (((((padN l).drop (64 * k)).take 64)).length = 64) := Lib.hid (by rw [List.length_take, List.length_drop, hPl.out]; omega)
          have hblkb : Hid (∀ x ∈ ((padN l).drop (64 * k)).take 64, x < 256) := Lib.hid (fun x hx => padN_lt l HH.out.lt x (List.mem_of_mem_drop (List.mem_of_mem_take hx)))
          have HE : Hid (blocksN rootsN startN (padN l) (k + 1) = mixN rootsN (blocksN rootsN startN (padN l) k) (((padN l).drop (64 * k)).take 64)) := Lib.hid rfl
          have hok := Lib.hid (blocksN_ok rootsN startN (padN l) startN_ok k)
          have R9 := Lib.hid (R8.out.belowAt B9.out hgbr)
          have RB : Hid (∀ i, i < 64 → wr.cell? ⟨gb, 64 * k + i, none⟩ = some (.int .u8 (((((padN l).drop (64 * k)).take 64).getD i 0 : Nat) : Int))) := Lib.hid (fun i hi => by
           obtain ⟨b', o', e', _, hc'⟩ := R9.out.cells hN0
           injection e' with e'
           injection e' with e1 e2
           subst e1
           subst e2
           have := hc' (64 * k + i) (by omega)
           rw [Nat.zero_add] at this
           rw [this]
           have hg : (((padN l).drop (64 * k)).take 64).getD i 0 = (padN l).getD (64 * k + i) 0 := by
            rw [List.getD_eq_getElem?_getD, List.getElem?_take, if_pos hi, List.getElem?_drop, List.getD_eq_getElem?_getD]
           rw [hg])
          clear R9
          have T9 := Lib.hid (T7.out.belowAt B9.out hwt)
          generalize ((padN l).drop (64 * k)).take 64 = blk at *
          generalize hst : blocksN rootsN startN (padN l) k = st at *
          clear hst
          have hkN : 64 * k + 64 ≤ N := by omega
          go_upto_block 5 with fail
          refine ref_b5 _ ?_ w.heap.size gb g7 cb N k blk st hkN hNb hblkl hblkb hok hgbr hwt _ _ _ _ _ _ _ _ _ _ _ _ _ _ _ _ _ _ _ _ _ _ _ _ _ _ _ _ _ _ _ _ _ _ _ _ _ _ _ _ _ _ _ _ _ _ _ _ _ _ _ _ _ _ _ _ _ _ _ _ _ _ _ _ _ _ _ _ _ _ _ _ _ _ _ _ _ _ _ _ _ _ _ _ _ _ _ _ _ _ _ _ _ _ _ _ _ _ _ _ _ _ _ _ _ _ _ _ _ _ _ _ _ _ _ _ _ _ _ _ _ _ _ _ _ _ _ _ _ _ _ _ _ _ _ _ _ _ _ _ _ _ _ _ _ _ _ _ _ _ _ _ _ _ _ _ _ _ _ _ _ _ _ _ _ _ _ _ _ _ _ _ _ _ _ _ _ _ _ _ _ _ _ _ _ _ _ _ _ _ _ _ _ _ _ _ _ _ _ _ _ _ _ _ _ _ _ _ _ _ _ _ _ _ _ _ _ _ _ _ _ _ _ _ _ _ _ _ _ _ _ _ _ _ _ _ _ _ _ _ _ _ _ _ _ _ _ _ _ _ _ _ _ _ _ _ _ _ _ _ _ _ _ _ _ _ _ _ _ _ _ _ _ _ _ _ _ _ _ _ _ _ _ wr RB T9 U9 ?_
          · intro c8 a8 d8 v8 w8 h8
            cases d8 with
            | none => exact h8
            | some d9 => exact h8
          intro z9 z10 z11 z12 z13 z14 z15 z16 z17 z18 z19 z20 z21 z22 z23 z24 z25 z26 z27 z68 z69 z70 z71 z72 z73 z74 z75 z76 z77 z78 z79 z80 z81 z82 z83 z84 z85 z86 z87 z88 z89 z90 z91 z92 z93 z94 z95 z96 z97 z98 z99 z100 z101 z102 z103 z104 z105 z106 z107 z108 z109 z110 z111 z112 z113 z114 z115 z116 z117 z118 z119 z120 z121 z122 z123 z124 z125 z126 z127 z128 z129 z130 z131 z132 z133 z134 z135 z136 z137 z138 z139 z140 z141 z142 z143 z144 z145 z146 z147 z148 z149 z150 z151 z152 z153 z154 z155 z156 z157 z158 z159 z160 z161 z162 z163 z164 z165 z166 z167 z168 z169 z170 z171 z172 z173 z174 z175 z176 z177 z178 z179 z180 z181 z182 z183 z184 z185 z186 z187 z188 z189 z190 z191 z192 z193 z194 z195 z196 z197 z198 z199 z200 z201 z202 z203 z204 z205 z206 z207 z208 z209 z210 z211 z212 z213 z214 z215 z216 z217 z218 z219 z220 z221 z222 z223 z224 z225 z226 z227 z228 z229 z230 z231 z232 z233 z234 z235 z236 z237 z238 z239 z240 z241 z242 z243 z244 z245 z246 z247 z248 z249 z250 z251 z252 z253 z254 z255 z256 z257 z258 z259 z260 z261 z262 z263 z264 w5 U5 B5
          rw [← HE.out] at U5
          clear RB T9 U9
          go_wp2
          go_roundw
          case rel => exact ⟨k + 1, by omega, by go_num, U5, Lib.hid (B9.out.trans B5.out)⟩
          case measure => simp [intOf]; omega
        · obtain rfl : k = N / 64 := by omega
          have hki : ¬ 64 * ((N / 64 : Nat) : Int) < (N : Int) := by omega
          have hok := Lib.hid (blocksN_ok rootsN startN (padN l) startN_ok (N / 64))
          have hS : Hid (shaN l = outN (blocksN rootsN startN (padN l) (N / 64))) := Lib.hid (by rw [shaN_is, shaS_pad, hPl.out])
          generalize blocksN rootsN startN (padN l) (N / 64) = st at *
          have hg7r := U9.out.lt
          go_upto_block 14 with fail
          refine ref_b14 _ g7 wr.heap.size st hok hg7r _ _ _ _ _ _ _ _ _ _ _ _ _ _ _ _ _ _ _ _ _ _ _ _ _ _ _ _ _ _ _ _ _ _ _ _ _ _ _ _ _ _ _ _ _ _ _ _ _ _ _ _ _ _ _ _ _ _ _ _ _ _ _ _ _ _ _ _ _ _ _ _ _ _ _ _ _ _ _ _ _ _ _ _ _ _ _ _ _ _ _ _ _ _ _ _ _ _ _ _ _ _ _ _ _ _ _ _ _ _ _ _ _ _ _ _ _ _ _ _ _ _ _ _ _ _ _ _ _ _ _ _ _ _ _ _ _ _ _ _ _ _ _ _ _ _ _ _ _ _ _ _ _ _ _ _ _ _ _ _ _ _ _ _ _ _ _ _ _ _ _ _ _ _ _ _ _ _ _ _ _ _ _ _ _ _ _ _ _ _ _ _ _ _ _ _ _ _ _ _ _ _ _ _ _ _ _ _ _ _ _ _ _ _ _ _ _ _ _ _ _ _ _ _ _ _ _ _ _ _ _ _ _ _ _ _ _ _ _ _ _ _ _ _ _ _ _ _ _ _ _ _ _ _ _ _ _ _ _ _ _ _ _ _ _ _ _ _ _ _ _ _ _ _ _ _ _ _ _ _ _ _ _ wr U9 (Nat.le_refl _) ?_
          intro z30 z267 z268 z269 z270 z271 z272 z273 z274 z275 z276 z277 z278 z279 z280 z281 z282 z283 z284 z285 v6 w6 O6 B6
          obtain ⟨g6, c6, rfl, hg6, hc6⟩ := own_formN O6.out (by omega)
          have R6 : Hid (RowN w6 (some ⟨g6, 0, none⟩) 32 (shaN l)) := Lib.hid (by
           rw [hS.out]
           exact RowN.of_own O6.out (outN_lt _) (outN_length _))
          have BF : Hid (Below w.heap.size w w6) := Lib.hid ((B7.out.trans (B9.out.mono (Nat.le_of_lt hwt))).trans (B6.out.mono (Nat.le_trans (Nat.le_of_lt hwt) (Nat.le_of_lt hg7r))))
          go_wp2
          go_ret
          exact ⟨⟨g6, ⟨c6, rfl⟩, R6.out⟩, BF.out⟩
     · obtain ⟨i, rfl⟩ : ∃ i, q = i + 1 := ⟨q - 1, by omega⟩
       rw [show ((i + 1 : Nat) : Int) - 1 = (i : Int) from by omega]
       have hi7 : (i : Int) ≤ 7 := by omega
       have S7 := F7.out.size
       have e : Hid ((l ++ ([128] ++ (List.replicate z 0 ++ (lenBytes n).take j))) ++ [8 * n / 2 ^ (8 * i) % 256] = l ++ ([128] ++ (List.replicate z 0 ++ (lenBytes n).take (j + 1)))) := Lib.hid (by
        rw [lenBytes_take n j (by omega), show 56 - 8 * j = 8 * i from by omega, List.append_assoc, List.append_assoc, List.append_assoc])
       have yb : Hid ((n : Int) * 8 / 2 ^ (8 * i) % 256 = ((8 * n / 2 ^ (8 * i) % 256 : Nat) : Int)) := Lib.hid (by rw [Nat.mul_comm 8 n]; simp)
       go_wp2_with (at_builtin; go_loud (refine wpList_append1 (.tmp 53) (.tmp 59) rfl rfl w1.heap.size (.slice (some ⟨gb, 0, none⟩) (n + 1 + z + j) cb) (n + 1 + z + j) _ (by rfl) O7 ((n : Int) * 8 / 2 ^ (8 * i) % 256) (8 * n / 2 ^ (8 * i) % 256) yb (by rfl) (by omega) S7 ?_); intro v6 w6 O8 B8)
       rw [e.out] at O8
       obtain ⟨g8, c8, rfl, hg8, hc8⟩ := own_formN O8.out (by omega)
       have F8 := Lib.hid (F7.out.trans B8.out)
       clear O7 F7 B8
       go_wp2
       go_roundw
       case rel => exact ⟨i, j + 1, g8, c8, by omega, rfl, rfl, O8, F8⟩
       case measure => simp [intOf]
end Go.Proofs.YtdjnebgjdekmaaaGreatDoor
