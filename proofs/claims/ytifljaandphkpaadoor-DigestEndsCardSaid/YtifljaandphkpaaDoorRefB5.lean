/-
  The document's Sha: one block taken into the sum.
-/
import Derived.Test.YtifljaandphkpaaDoorRefA
import Derived.Test.YtifljaandphkpaaDoorRefB6
import Derived.Test.YtifljaandphkpaaDoorRefB10
import Derived.Test.YtifljaandphkpaaDoorRefB12
namespace Go.Proofs.YtifljaandphkpaaDoor
open Go.RowKit
set_option linter.unusedVariables false

set_option maxRecDepth 1000000 in
set_option maxHeartbeats 8000000 in
theorem ref_b5 (Q : Exit → Act → World → Prop) (hQ : ∀ c (a : Act) d v w, Q (.panic c) (a.put d v) w → Q (.panic c) a w) (gt gb g7 cb N k : Nat) (blk : List Nat) (st : St) (hN : 64 * k + 64 ≤ N) (hN5 : N ≤ 5000) (hbl : Hid (blk.length = 64)) (hbb : Hid (∀ x ∈ blk, x < 256)) (hok : Hid st.ok) (hgb : gb < g7) (hgt : gt < g7) (x0 x1 x2 x5 x6 x9 x10 x11 x12 x13 x14 x15 x16 x17 x18 x19 x20 x21 x22 x23 x24 x25 x26 x27 x28 x29 x30 x31 x32 x33 x34 x35 x36 x37 x38 x39 x40 x41 x42 x43 x44 x45 x46 x47 x48 x49 x50 x51 x52 x53 x54 x55 x56 x57 x58 x59 x60 x61 x62 x63 x64 x65 x66 x67 x68 x69 x70 x71 x72 x73 x74 x75 x76 x77 x78 x79 x80 x81 x82 x83 x84 x85 x86 x87 x88 x89 x90 x91 x92 x93 x94 x95 x96 x97 x98 x99 x100 x101 x102 x103 x104 x105 x106 x107 x108 x109 x110 x111 x112 x113 x114 x115 x116 x117 x118 x119 x120 x121 x122 x123 x124 x125 x126 x127 x128 x129 x130 x131 x132 x133 x134 x135 x136 x137 x138 x139 x140 x141 x142 x143 x144 x145 x146 x147 x148 x149 x150 x151 x152 x153 x154 x155 x156 x157 x158 x159 x160 x161 x162 x163 x164 x165 x166 x167 x168 x169 x170 x171 x172 x173 x174 x175 x176 x177 x178 x179 x180 x181 x182 x183 x184 x185 x186 x187 x188 x189 x190 x191 x192 x193 x194 x195 x196 x197 x198 x199 x200 x201 x202 x203 x204 x205 x206 x207 x208 x209 x210 x211 x212 x213 x214 x215 x216 x217 x218 x219 x220 x221 x222 x223 x224 x225 x226 x227 x228 x229 x230 x231 x232 x233 x234 x235 x236 x237 x238 x239 x240 x241 x242 x243 x244 x245 x246 x247 x248 x249 x250 x251 x252 x253 x254 x255 x256 x257 x258 x259 x260 x261 x262 x263 x264 x265 x266 x267 x268 x269 x270 x271 x272 x273 x274 x275 x276 x277 x278 x279 x280 x281 x282 x283 x284 x285 x286 : Value) (w : World) (hRB : Hid (∀ i, i < 64 → w.cell? ⟨gb, 64 * k + i, none⟩ = some (.int .u8 ((blk.getD i 0 : Nat) : Int)))) (hT : Hid (Row w gt .u32 24 (rootsN))) (h7 : Hid (Row w g7 .u32 24 (st.list)))
    (hexit : ∀ (y9 y10 y11 y12 y13 y14 y15 y16 y17 y18 y19 y20 y21 y22 y23 y24 y25 y26 y27 y68 y69 y70 y71 y72 y73 y74 y75 y76 y77 y78 y79 y80 y81 y82 y83 y84 y85 y86 y87 y88 y89 y90 y91 y92 y93 y94 y95 y96 y97 y98 y99 y100 y101 y102 y103 y104 y105 y106 y107 y108 y109 y110 y111 y112 y113 y114 y115 y116 y117 y118 y119 y120 y121 y122 y123 y124 y125 y126 y127 y128 y129 y130 y131 y132 y133 y134 y135 y136 y137 y138 y139 y140 y141 y142 y143 y144 y145 y146 y147 y148 y149 y150 y151 y152 y153 y154 y155 y156 y157 y158 y159 y160 y161 y162 y163 y164 y165 y166 y167 y168 y169 y170 y171 y172 y173 y174 y175 y176 y177 y178 y179 y180 y181 y182 y183 y184 y185 y186 y187 y188 y189 y190 y191 y192 y193 y194 y195 y196 y197 y198 y199 y200 y201 y202 y203 y204 y205 y206 y207 y208 y209 y210 y211 y212 y213 y214 y215 y216 y217 y218 y219 y220 y221 y222 y223 y224 y225 y226 y227 y228 y229 y230 y231 y232 y233 y234 y235 y236 y237 y238 y239 y240 y241 y242 y243 y244 y245 y246 y247 y248 y249 y250 y251 y252 y253 y254 y255 y256 y257 y258 y259 y260 y261 y262 y263 y264 : Value) (w' : World), Hid (Row w' g7 .u32 24 ((mixN rootsN st blk).list)) → Hid (Below g7 w w') → Q .normal ⟨#[x0, x1, x2, (.slice (some ⟨gt, 0, none⟩) 64 64), (.slice (some ⟨gb, 0, none⟩) N cb), x5, x6, (.slice (some ⟨g7, 0, none⟩) 8 8), (.int .i64 (64 * (k : Int))), y9, y10, y11, y12, y13, y14, y15, y16, y17, y18, y19, y20, y21, y22, y23, y24, y25, y26, y27, x28, x29, x30, x31, x32, x33, x34, x35, x36, x37, x38, x39, x40, x41, x42, x43, x44, x45, x46, x47, x48, x49, x50, x51, x52, x53, x54, x55, x56, x57, x58, x59, x60, x61, x62, x63, x64, x65, x66, x67, y68, y69, y70, y71, y72, y73, y74, y75, y76, y77, y78, y79, y80, y81, y82, y83, y84, y85, y86, y87, y88, y89, y90, y91, y92, y93, y94, y95, y96, y97, y98, y99, y100, y101, y102, y103, y104, y105, y106, y107, y108, y109, y110, y111, y112, y113, y114, y115, y116, y117, y118, y119, y120, y121, y122, y123, y124, y125, y126, y127, y128, y129, y130, y131, y132, y133, y134, y135, y136, y137, y138, y139, y140, y141, y142, y143, y144, y145, y146, y147, y148, y149, y150, y151, y152, y153, y154, y155, y156, y157, y158, y159, y160, y161, y162, y163, y164, y165, y166, y167, y168, y169, y170, y171, y172, y173, y174, y175, y176, y177, y178, y179, y180, y181, y182, y183, y184, y185, y186, y187, y188, y189, y190, y191, y192, y193, y194, y195, y196, y197, y198, y199, y200, y201, y202, y203, y204, y205, y206, y207, y208, y209, y210, y211, y212, y213, y214, y215, y216, y217, y218, y219, y220, y221, y222, y223, y224, y225, y226, y227, y228, y229, y230, y231, y232, y233, y234, y235, y236, y237, y238, y239, y240, y241, y242, y243, y244, y245, y246, y247, y248, y249, y250, y251, y252, y253, y254, y255, y256, y257, y258, y259, y260, y261, y262, y263, y264, x265, x266, x267, x268, x269, x270, x271, x272, x273, x274, x275, x276, x277, x278, x279, x280, x281, x282, x283, x284, x285, x286], []⟩ w') :
    Code.wp Tryd.prog codeB5 Q ⟨#[x0, x1, x2, (.slice (some ⟨gt, 0, none⟩) 64 64), (.slice (some ⟨gb, 0, none⟩) N cb), x5, x6, (.slice (some ⟨g7, 0, none⟩) 8 8), (.int .i64 (64 * (k : Int))), x9, x10, x11, x12, x13, x14, x15, x16, x17, x18, x19, x20, x21, x22, x23, x24, x25, x26, x27, x28, x29, x30, x31, x32, x33, x34, x35, x36, x37, x38, x39, x40, x41, x42, x43, x44, x45, x46, x47, x48, x49, x50, x51, x52, x53, x54, x55, x56, x57, x58, x59, x60, x61, x62, x63, x64, x65, x66, x67, x68, x69, x70, x71, x72, x73, x74, x75, x76, x77, x78, x79, x80, x81, x82, x83, x84, x85, x86, x87, x88, x89, x90, x91, x92, x93, x94, x95, x96, x97, x98, x99, x100, x101, x102, x103, x104, x105, x106, x107, x108, x109, x110, x111, x112, x113, x114, x115, x116, x117, x118, x119, x120, x121, x122, x123, x124, x125, x126, x127, x128, x129, x130, x131, x132, x133, x134, x135, x136, x137, x138, x139, x140, x141, x142, x143, x144, x145, x146, x147, x148, x149, x150, x151, x152, x153, x154, x155, x156, x157, x158, x159, x160, x161, x162, x163, x164, x165, x166, x167, x168, x169, x170, x171, x172, x173, x174, x175, x176, x177, x178, x179, x180, x181, x182, x183, x184, x185, x186, x187, x188, x189, x190, x191, x192, x193, x194, x195, x196, x197, x198, x199, x200, x201, x202, x203, x204, x205, x206, x207, x208, x209, x210, x211, x212, x213, x214, x215, x216, x217, x218, x219, x220, x221, x222, x223, x224, x225, x226, x227, x228, x229, x230, x231, x232, x233, x234, x235, x236, x237, x238, x239, x240, x241, x242, x243, x244, x245, x246, x247, x248, x249, x250, x251, x252, x253, x254, x255, x256, x257, x258, x259, x260, x261, x262, x263, x264, x265, x266, x267, x268, x269, x270, x271, x272, x273, x274, x275, x276, x277, x278, x279, x280, x281, x282, x283, x284, x285, x286], []⟩ w := by
  conv => arg 2; whnf
  have HX := Lib.hid hexit
  clear hexit
  have hwl := Lib.hid (words_length blk)
  have hwb := Lib.hid (words_lt blk hbb.out)
  have hSl : Hid ((sched (words blk) 48).length = 64) := Lib.hid (by rw [sched_length, hwl.out])
  have hSlow : Hid (∀ t, t < 16 → (sched (words blk) 48).getD t 0 = be ((blk.drop (4 * t)).take 4)) := Lib.hid (fun t ht => by
    rw [sched_low _ hwl.out 48 t ht]
    simp [words, List.getD, ht])
  have hShi : Hid (∀ m, m + 16 < 64 → (sched (words blk) 48).getD (m + 16) 0 = addM (addM (addM ((sched (words blk) 48).getD m 0) (sig0 ((sched (words blk) 48).getD (m + 1) 0))) ((sched (words blk) 48).getD (m + 9) 0)) (sig1 ((sched (words blk) 48).getD (m + 14) 0))) := Lib.hid (fun m hm => by
    rw [sched_high _ hwl.out 48 (m + 16) (by omega) (by omega), show m + 16 - 16 = m from by omega, show m + 16 - 15 = m + 1 from by omega, show m + 16 - 7 = m + 9 from by omega, show m + 16 - 2 = m + 14 from by omega])
  have hSb : Hid (∀ i, (sched (words blk) 48).getD i 0 < 4294967296) := Lib.hid (fun i => sched_getD_lt (words blk) hwb.out 48 i)
  have hM : Hid (mixN rootsN st blk = st.add (rnds rootsN (sched (words blk) 48) st 64)) := Lib.hid rfl
  generalize sched (words blk) 48 = S at *
  have hg7 := h7.out.lt
  go_upto_block 6 with fail
  refine ref_b6 _ ?_ gb cb N k w.heap.size blk S hN hN5 (by omega) hbl hbb hSl hSlow hShi hSb _ _ _ _ _ _ _ _ _ _ _ _ _ _ _ _ _ _ _ _ _ _ _ _ _ _ _ _ _ _ _ _ _ _ _ _ _ _ _ _ _ _ _ _ _ _ _ _ _ _ _ _ _ _ _ _ _ _ _ _ _ _ _ _ _ _ _ _ _ _ _ _ _ _ _ _ _ _ _ _ _ _ _ _ _ _ _ _ _ _ _ _ _ _ _ _ _ _ _ _ _ _ _ _ _ _ _ _ _ _ _ _ _ _ _ _ _ _ _ _ _ _ _ _ _ _ _ _ _ _ _ _ _ _ _ _ _ _ _ _ _ _ _ _ _ _ _ _ _ _ _ _ _ _ _ _ _ _ _ _ _ _ _ _ _ _ _ _ _ _ _ _ _ _ _ _ _ _ _ _ _ _ _ _ _ _ _ _ _ _ _ _ _ _ _ _ _ _ _ _ _ _ _ _ _ _ _ _ _ _ _ _ _ _ _ _ _ _ _ _ _ _ _ _ _ _ _ _ _ _ _ _ _ _ _ _ _ _ _ _ _ _ _ _ _ _ _ _ _ _ _ _ _ _ _ _ _ _ _ _ _ _ _ _ _ _ _ _ _ _ _ _ _ _ _ _ _ _ _ _ _ _ _ w hRB (Nat.le_refl _) ?_
  · exact fun _ _ _ _ _ h => hQ _ _ _ _ _ h
  intro z10 z11 z12 z13 z14 z68 z69 z70 z71 z72 z73 z74 z75 z76 z77 z78 z79 z80 z81 z82 z83 z84 z85 z86 z87 z88 z89 z90 z91 z92 z93 z94 z95 z96 z97 z98 z99 z100 z101 z102 z103 z104 z105 z106 z107 z108 z109 z110 z111 z112 z113 z114 z115 z116 z117 z118 z119 z120 z121 z122 z123 z124 z125 z126 z127 z128 z129 z130 z131 z132 z133 z134 z135 z136 z137 z138 z139 z140 z141 z142 z143 z144 z145 z146 z147 z148 z149 z150 z151 z152 v1 w1 O1 B1
  obtain ⟨g9, c9, rfl, hg9, hc9⟩ := own_formN O1.out (by omega)
  have H7 := Lib.hid (h7.out.belowAt B1.out hg7)
  have HT := Lib.hid (hT.out.belowAt B1.out (by omega))
  have BB : Hid (Below g7 w w1) := Lib.hid (B1.out.mono (by omega))
  have c0 : w1.cell? ⟨g7, 0, none⟩ = some (.int .u32 (st.a : Int)) := H7.out.cell 0 (by simp [St.list])
  have c1 : w1.cell? ⟨g7, 1, none⟩ = some (.int .u32 (st.b : Int)) := H7.out.cell 1 (by simp [St.list])
  have c2 : w1.cell? ⟨g7, 2, none⟩ = some (.int .u32 (st.c : Int)) := H7.out.cell 2 (by simp [St.list])
  have c3 : w1.cell? ⟨g7, 3, none⟩ = some (.int .u32 (st.d : Int)) := H7.out.cell 3 (by simp [St.list])
  have c4 : w1.cell? ⟨g7, 4, none⟩ = some (.int .u32 (st.e : Int)) := H7.out.cell 4 (by simp [St.list])
  have c5 : w1.cell? ⟨g7, 5, none⟩ = some (.int .u32 (st.f : Int)) := H7.out.cell 5 (by simp [St.list])
  have c6 : w1.cell? ⟨g7, 6, none⟩ = some (.int .u32 (st.g : Int)) := H7.out.cell 6 (by simp [St.list])
  have c7 : w1.cell? ⟨g7, 7, none⟩ = some (.int .u32 (st.h : Int)) := H7.out.cell 7 (by simp [St.list])
  clear hRB h7 hT B1 hSlow hShi hSb hwl hwb
  go_wp2
  go_big_quiet (fail)
  have d0 : (w1.drewN nq).cell? _ = _ := c0
  have d1 : (w1.drewN nq).cell? _ = _ := c1
  have d2 : (w1.drewN nq).cell? _ = _ := c2
  have d3 : (w1.drewN nq).cell? _ = _ := c3
  have d4 : (w1.drewN nq).cell? _ = _ := c4
  have d5 : (w1.drewN nq).cell? _ = _ := c5
  have d6 : (w1.drewN nq).cell? _ = _ := c6
  have d7 : (w1.drewN nq).cell? _ = _ := c7
  have O2 : Hid ((w1.drewN nq).ownsRow w.heap.size 24 1 (.slice (some ⟨g9, 0, none⟩) 64 c9) (64) (cellsK .u32 (S))) := O1
  have H72 : Hid (Row (w1.drewN nq) g7 .u32 24 (st.list)) := H7
  have HT2 : Hid (Row (w1.drewN nq) gt .u32 24 (rootsN)) := HT
  have BB2 := Lib.hid (below_drewN BB.out nq)
  clear c0 c1 c2 c3 c4 c5 c6 c7 O1 H7 HT BB
  generalize w1.drewN nq = w2 at *
  go_wp2
  go_big_quiet (fail)
  have O3 : Hid ((w2.drewN nq).ownsRow w.heap.size 24 1 (.slice (some ⟨g9, 0, none⟩) 64 c9) (64) (cellsK .u32 (S))) := O2
  have H73 : Hid (Row (w2.drewN nq) g7 .u32 24 (st.list)) := H72
  have HT3 : Hid (Row (w2.drewN nq) gt .u32 24 (rootsN)) := HT2
  have BB3 := Lib.hid (below_drewN BB2.out nq)
  clear d0 d1 d2 d3 d4 d5 d6 d7 O2 H72 HT2 BB2
  generalize w2.drewN nq = w3 at *
  have KT : Hid (∀ t, t < 64 → w3.cell? ⟨gt, t, none⟩ = some (.int .u32 ((rootsN.getD t 0 : Nat) : Int))) := Lib.hid (fun t ht => HT3.out.cell t ht)
  have KW : Hid (∀ t, t < 64 → w3.cell? ⟨g9, t, none⟩ = some (.int .u32 ((S.getD t 0 : Nat) : Int))) := Lib.hid (fun t ht => own_cellW O3.out t ht)
  go_upto_block 10 with fail
  refine ref_b10 _ gt g9 c9 S st hok _ _ _ _ _ _ _ _ _ _ _ _ _ _ _ _ _ _ _ _ _ _ _ _ _ _ _ _ _ _ _ _ _ _ _ _ _ _ _ _ _ _ _ _ _ _ _ _ _ _ _ _ _ _ _ _ _ _ _ _ _ _ _ _ _ _ _ _ _ _ _ _ _ _ _ _ _ _ _ _ _ _ _ _ _ _ _ _ _ _ _ _ _ _ _ _ _ _ _ _ _ _ _ _ _ _ _ _ _ _ _ _ _ _ _ _ _ _ _ _ _ _ _ _ _ _ _ _ _ _ _ _ _ _ _ _ _ _ _ _ _ _ _ _ _ _ _ _ _ _ _ _ _ _ _ _ _ _ _ _ _ _ _ _ _ _ _ _ _ _ _ _ _ _ _ _ _ _ _ _ _ _ _ _ _ _ _ _ _ _ _ _ _ _ _ _ _ _ _ _ _ _ _ _ _ _ _ _ _ _ _ _ _ _ _ _ _ _ _ _ _ _ _ _ _ _ _ _ _ _ _ _ _ _ _ _ _ _ _ _ _ _ _ _ _ _ _ _ _ _ _ _ _ _ _ _ _ _ _ _ _ _ _ _ _ _ _ _ _ _ _ _ _ _ _ _ w3 KT KW ?_
  intro z23 z24 z25 z177 z178 z179 z180 z181 z182 z183 z184 z185 z186 z187 z188 z189 z190 z191 z192 z193 z194 z195 z196 z197 z198 z199 z200 z201 z202 z203 z204 z205 z206 z207 z208 z209 z210 z211 z212 z213 z214 z215 z216 z217 z218 z219 z220 z221 z222 z223 z224 z225 z226 z227 z228 z229 z230 z231 z232 z233 z234 z235 z236 z237 z238 z239 z240 z241 w4 hn4
  obtain ⟨n4, rfl⟩ := hn4
  have H74 : Hid (Row (w3.drewN n4) g7 .u32 24 (st.list)) := H73
  have BB4 := Lib.hid (below_drewN BB3.out n4)
  clear KT KW O3 H73 HT3 BB3
  generalize w3.drewN n4 = w5 at *
  obtain ⟨x, hxx⟩ : ∃ x, x = rnds rootsN S st 64 := ⟨_, rfl⟩
  rw [← hxx]
  have HXX := Lib.hid hxx
  clear hxx
  have hx5 := H74.out.lt
  have H75 : Hid (Row (w5.alloc (.cells (cellsK .u32 x.list).toArray 24)) g7 .u32 24 (st.list)) := Lib.hid (H74.out.alloc _)
  have HX5 := Lib.hid (Row.new w5 .u32 24 x.list)
  have BB5 := Lib.hid (BB4.out.alloc (Nat.le_of_lt hx5) (.cells (cellsK .u32 x.list).toArray 24))
  go_upto_block 12 with fail
  refine ref_b12 _ g7 w5.heap.size st.list x.list (by omega) (Lib.hid rfl) (Lib.hid rfl) _ _ _ _ _ _ _ _ _ _ _ _ _ _ _ _ _ _ _ _ _ _ _ _ _ _ _ _ _ _ _ _ _ _ _ _ _ _ _ _ _ _ _ _ _ _ _ _ _ _ _ _ _ _ _ _ _ _ _ _ _ _ _ _ _ _ _ _ _ _ _ _ _ _ _ _ _ _ _ _ _ _ _ _ _ _ _ _ _ _ _ _ _ _ _ _ _ _ _ _ _ _ _ _ _ _ _ _ _ _ _ _ _ _ _ _ _ _ _ _ _ _ _ _ _ _ _ _ _ _ _ _ _ _ _ _ _ _ _ _ _ _ _ _ _ _ _ _ _ _ _ _ _ _ _ _ _ _ _ _ _ _ _ _ _ _ _ _ _ _ _ _ _ _ _ _ _ _ _ _ _ _ _ _ _ _ _ _ _ _ _ _ _ _ _ _ _ _ _ _ _ _ _ _ _ _ _ _ _ _ _ _ _ _ _ _ _ _ _ _ _ _ _ _ _ _ _ _ _ _ _ _ _ _ _ _ _ _ _ _ _ _ _ _ _ _ _ _ _ _ _ _ _ _ _ _ _ _ _ _ _ _ _ _ _ _ _ _ _ _ _ _ _ _ _ _ _ _ _ _ _ _ _ (w5.alloc (.cells (cellsK .u32 x.list).toArray 24)) H75 HX5 ?_
  intro z26 z27 z252 z253 z254 z255 z256 z257 z258 z259 z260 z261 z262 z263 z264 w6 H6 B6
  have e : (mixN rootsN st blk).list = mixP st.list x.list 8 := by
    rw [hM.out, ← HXX.out]
    rfl
  rw [← e] at H6
  exact HX.out _ _ _ _ _ _ _ _ _ _ _ _ _ _ _ _ _ _ _ _ _ _ _ _ _ _ _ _ _ _ _ _ _ _ _ _ _ _ _ _ _ _ _ _ _ _ _ _ _ _ _ _ _ _ _ _ _ _ _ _ _ _ _ _ _ _ _ _ _ _ _ _ _ _ _ _ _ _ _ _ _ _ _ _ _ _ _ _ _ _ _ _ _ _ _ _ _ _ _ _ _ _ _ _ _ _ _ _ _ _ _ _ _ _ _ _ _ _ _ _ _ _ _ _ _ _ _ _ _ _ _ _ _ _ _ _ _ _ _ _ _ _ _ _ _ _ _ _ _ _ _ _ _ _ _ _ _ _ _ _ _ _ _ _ _ _ _ _ _ _ _ _ _ _ _ _ _ _ _ _ _ _ _ _ _ _ _ _ _ _ _ _ _ _ _ _ _ _ _ _ _ _ _ _ _ _ _ _ _ _ _ _ _ _ _ _ w6 H6 (Lib.hid (BB5.out.trans B6.out))
end Go.Proofs.YtifljaandphkpaaDoor
