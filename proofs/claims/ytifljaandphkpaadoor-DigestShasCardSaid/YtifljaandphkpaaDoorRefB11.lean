/-
  The document's Sha: one round.
-/
import Derived.Test.YtifljaandphkpaaDoorRefA
namespace Go.Proofs.YtifljaandphkpaaDoor
open Go.RowKit
set_option linter.unusedVariables false

set_option maxRecDepth 1000000 in
set_option maxHeartbeats 8000000 in
theorem ref_b11 (Q : Exit → Act → World → Prop) (gt g9 c9 t xa xb xc xd xe xf xg xh kt wt : Nat) (ht : t < 64) (hok : Hid (St.ok ⟨xa, xb, xc, xd, xe, xf, xg, xh⟩)) (x0 x1 x2 x4 x5 x6 x7 x8 x10 x11 x12 x13 x14 x24 x25 x26 x27 x28 x29 x30 x31 x32 x33 x34 x35 x36 x37 x38 x39 x40 x41 x42 x43 x44 x45 x46 x47 x48 x49 x50 x51 x52 x53 x54 x55 x56 x57 x58 x59 x60 x61 x62 x63 x64 x65 x66 x67 x68 x69 x70 x71 x72 x73 x74 x75 x76 x77 x78 x79 x80 x81 x82 x83 x84 x85 x86 x87 x88 x89 x90 x91 x92 x93 x94 x95 x96 x97 x98 x99 x100 x101 x102 x103 x104 x105 x106 x107 x108 x109 x110 x111 x112 x113 x114 x115 x116 x117 x118 x119 x120 x121 x122 x123 x124 x125 x126 x127 x128 x129 x130 x131 x132 x133 x134 x135 x136 x137 x138 x139 x140 x141 x142 x143 x144 x145 x146 x147 x148 x149 x150 x151 x152 x153 x154 x155 x156 x157 x158 x159 x160 x161 x162 x163 x164 x165 x166 x167 x168 x169 x170 x171 x172 x173 x174 x175 x176 x177 x178 x179 x180 x181 x182 x183 x184 x185 x186 x187 x188 x189 x190 x191 x192 x193 x194 x195 x196 x197 x198 x199 x200 x201 x202 x203 x204 x205 x206 x207 x208 x209 x210 x211 x212 x213 x214 x215 x216 x217 x218 x219 x220 x221 x222 x223 x224 x225 x226 x227 x228 x229 x230 x231 x232 x233 x234 x235 x236 x237 x238 x239 x240 x241 x242 x243 x244 x245 x246 x247 x248 x249 x250 x251 x252 x253 x254 x255 x256 x257 x258 x259 x260 x261 x262 x263 x264 x265 x266 x267 x268 x269 x270 x271 x272 x273 x274 x275 x276 x277 x278 x279 x280 x281 x282 x283 x284 x285 x286 : Value) (w : World) (ck : w.cell? ⟨gt, t, none⟩ = some (.int .u32 (kt : Int))) (cw : w.cell? ⟨g9, t, none⟩ = some (.int .u32 (wt : Int)))
    (hexit : ∀ (y24 y25 y181 y182 y183 y184 y185 y186 y187 y188 y189 y190 y191 y192 y193 y194 y195 y196 y197 y198 y199 y200 y201 y202 y203 y204 y205 y206 y207 y208 y209 y210 y211 y212 y213 y214 y215 y216 y217 y218 y219 y220 y221 y222 y223 y224 y225 y226 y227 y228 y229 y230 y231 y232 y233 y234 y235 y236 y237 y238 y239 y240 y241 : Value) (w' : World), (∃ n, w' = w.drewN n) → Q .normal ⟨#[x0, x1, x2, (.slice (some ⟨gt, 0, none⟩) 64 64), x4, x5, x6, x7, x8, (.slice (some ⟨g9, 0, none⟩) 64 c9), x10, x11, x12, x13, x14, (.int .u32 (((rnd ⟨xa, xb, xc, xd, xe, xf, xg, xh⟩ kt wt).a : Nat) : Int)), (.int .u32 (((rnd ⟨xa, xb, xc, xd, xe, xf, xg, xh⟩ kt wt).c : Nat) : Int)), (.int .u32 (((rnd ⟨xa, xb, xc, xd, xe, xf, xg, xh⟩ kt wt).d : Nat) : Int)), (.int .u32 (((rnd ⟨xa, xb, xc, xd, xe, xf, xg, xh⟩ kt wt).e : Nat) : Int)), (.int .u32 (((rnd ⟨xa, xb, xc, xd, xe, xf, xg, xh⟩ kt wt).b : Nat) : Int)), (.int .u32 (((rnd ⟨xa, xb, xc, xd, xe, xf, xg, xh⟩ kt wt).f : Nat) : Int)), (.int .u32 (((rnd ⟨xa, xb, xc, xd, xe, xf, xg, xh⟩ kt wt).g : Nat) : Int)), (.int .u32 (((rnd ⟨xa, xb, xc, xd, xe, xf, xg, xh⟩ kt wt).h : Nat) : Int)), (.int .i64 (t : Int)), y24, y25, x26, x27, x28, x29, x30, x31, x32, x33, x34, x35, x36, x37, x38, x39, x40, x41, x42, x43, x44, x45, x46, x47, x48, x49, x50, x51, x52, x53, x54, x55, x56, x57, x58, x59, x60, x61, x62, x63, x64, x65, x66, x67, x68, x69, x70, x71, x72, x73, x74, x75, x76, x77, x78, x79, x80, x81, x82, x83, x84, x85, x86, x87, x88, x89, x90, x91, x92, x93, x94, x95, x96, x97, x98, x99, x100, x101, x102, x103, x104, x105, x106, x107, x108, x109, x110, x111, x112, x113, x114, x115, x116, x117, x118, x119, x120, x121, x122, x123, x124, x125, x126, x127, x128, x129, x130, x131, x132, x133, x134, x135, x136, x137, x138, x139, x140, x141, x142, x143, x144, x145, x146, x147, x148, x149, x150, x151, x152, x153, x154, x155, x156, x157, x158, x159, x160, x161, x162, x163, x164, x165, x166, x167, x168, x169, x170, x171, x172, x173, x174, x175, x176, x177, x178, x179, x180, y181, y182, y183, y184, y185, y186, y187, y188, y189, y190, y191, y192, y193, y194, y195, y196, y197, y198, y199, y200, y201, y202, y203, y204, y205, y206, y207, y208, y209, y210, y211, y212, y213, y214, y215, y216, y217, y218, y219, y220, y221, y222, y223, y224, y225, y226, y227, y228, y229, y230, y231, y232, y233, y234, y235, y236, y237, y238, y239, y240, y241, x242, x243, x244, x245, x246, x247, x248, x249, x250, x251, x252, x253, x254, x255, x256, x257, x258, x259, x260, x261, x262, x263, x264, x265, x266, x267, x268, x269, x270, x271, x272, x273, x274, x275, x276, x277, x278, x279, x280, x281, x282, x283, x284, x285, x286], []⟩ w') :
    Code.wp Tryd.prog codeB11 Q ⟨#[x0, x1, x2, (.slice (some ⟨gt, 0, none⟩) 64 64), x4, x5, x6, x7, x8, (.slice (some ⟨g9, 0, none⟩) 64 c9), x10, x11, x12, x13, x14, (.int .u32 ((xa : Nat) : Int)), (.int .u32 ((xc : Nat) : Int)), (.int .u32 ((xd : Nat) : Int)), (.int .u32 ((xe : Nat) : Int)), (.int .u32 ((xb : Nat) : Int)), (.int .u32 ((xf : Nat) : Int)), (.int .u32 ((xg : Nat) : Int)), (.int .u32 ((xh : Nat) : Int)), (.int .i64 (t : Int)), x24, x25, x26, x27, x28, x29, x30, x31, x32, x33, x34, x35, x36, x37, x38, x39, x40, x41, x42, x43, x44, x45, x46, x47, x48, x49, x50, x51, x52, x53, x54, x55, x56, x57, x58, x59, x60, x61, x62, x63, x64, x65, x66, x67, x68, x69, x70, x71, x72, x73, x74, x75, x76, x77, x78, x79, x80, x81, x82, x83, x84, x85, x86, x87, x88, x89, x90, x91, x92, x93, x94, x95, x96, x97, x98, x99, x100, x101, x102, x103, x104, x105, x106, x107, x108, x109, x110, x111, x112, x113, x114, x115, x116, x117, x118, x119, x120, x121, x122, x123, x124, x125, x126, x127, x128, x129, x130, x131, x132, x133, x134, x135, x136, x137, x138, x139, x140, x141, x142, x143, x144, x145, x146, x147, x148, x149, x150, x151, x152, x153, x154, x155, x156, x157, x158, x159, x160, x161, x162, x163, x164, x165, x166, x167, x168, x169, x170, x171, x172, x173, x174, x175, x176, x177, x178, x179, x180, x181, x182, x183, x184, x185, x186, x187, x188, x189, x190, x191, x192, x193, x194, x195, x196, x197, x198, x199, x200, x201, x202, x203, x204, x205, x206, x207, x208, x209, x210, x211, x212, x213, x214, x215, x216, x217, x218, x219, x220, x221, x222, x223, x224, x225, x226, x227, x228, x229, x230, x231, x232, x233, x234, x235, x236, x237, x238, x239, x240, x241, x242, x243, x244, x245, x246, x247, x248, x249, x250, x251, x252, x253, x254, x255, x256, x257, x258, x259, x260, x261, x262, x263, x264, x265, x266, x267, x268, x269, x270, x271, x272, x273, x274, x275, x276, x277, x278, x279, x280, x281, x282, x283, x284, x285, x286], []⟩ w := by
  conv => arg 2; whnf
  have HX := Lib.hid hexit
  clear hexit
  obtain ⟨ha, hb, hc, hd, he, hf, hg, hh⟩ := hok.out
  dsimp only at ha hb hc hd he hf hg hh
  have x1 : bits .xor .u32 (bits .xor .u32 (dn xe 6 : Int) (dn xe 11 : Int)) (dn xe 25 : Int) = (bS1 xe : Int) := mix_sums ⟨xa, xb, xc, xd, xe, xf, xg, xh⟩ 0 0 hok.out
  have xn : IntKind.u32.wrap (4294967295 - (xe : Int)) = (notN32 xe : Int) := by rw [IntKind.wrap_u32']; unfold notN32; omega
  have x2 : bits .xor .u32 (bits .and .u32 (xe : Int) (xf : Int)) (bits .and .u32 (notN32 xe : Int) (xg : Int)) = (chN xe xf xg : Int) := mix_ch ⟨xa, xb, xc, xd, xe, xf, xg, xh⟩ hok.out
  have y1' := wrap_add xh (bS1 xe)
  have y2' := wrap_add (addM xh (bS1 xe)) (chN xe xf xg)
  have y3' := wrap_add (addM (addM xh (bS1 xe)) (chN xe xf xg)) kt
  have y4' := wrap_add (addM (addM (addM xh (bS1 xe)) (chN xe xf xg)) kt) wt
  have ht' : (t : Int) < 64 := by omega
  have ht0 : (0 : Int) ≤ (t : Int) := by omega
  go_wp2
  go_big_quiet ((first | (go_at_call 25; with_reducible exact Calls.quiet_of (rdown_6 xe he _)) | (go_at_call 25; with_reducible exact Calls.quiet_of (rdown_11 xe he _)) | (go_at_call 25; with_reducible exact Calls.quiet_of (rdown_25 xe he _))))
  clear x1 xn x2 y1' y2' y3' y4' ck cw he hf hg hh
  obtain ⟨tq, htq⟩ : ∃ q, q = addM (addM (addM (addM xh (bS1 xe)) (chN xe xf xg)) kt) wt := ⟨_, rfl⟩
  rw [← htq]
  have HT := Lib.hid htq
  clear htq
  have x3 : bits .xor .u32 (bits .xor .u32 (dn xa 2 : Int) (dn xa 13 : Int)) (dn xa 22 : Int) = (bS0 xa : Int) := mix_sums0 ⟨xa, xb, xc, xd, xe, xf, xg, xh⟩ hok.out
  have x4 : bits .xor .u32 (bits .xor .u32 (bits .and .u32 (xa : Int) (xb : Int)) (bits .and .u32 (xa : Int) (xc : Int))) (bits .and .u32 (xb : Int) (xc : Int)) = (majN xa xb xc : Int) := mix_maj ⟨xa, xb, xc, xd, xe, xf, xg, xh⟩ hok.out
  have z1 := wrap_add' (bS0 xa) (majN xa xb xc)
  have z2 := wrap_add' xd tq
  have z3 := wrap_add' tq (addM (bS0 xa) (majN xa xb xc))
  generalize hw4 : w.drewN nq = w4 at *
  have HW4 : Hid (∃ n, w4 = w.drewN n) := Lib.hid ⟨nq, hw4.symm⟩
  clear hw4
  go_wp2_with (first | (go_at_call 25; with_reducible refine (rdown_2 xa ha _).mono ?_; rintro e w5 ⟨rfl, hw5⟩) | (go_at_call 25; with_reducible refine (rdown_13 xa ha _).mono ?_; rintro e w6 ⟨rfl, hw6⟩) | (go_at_call 25; with_reducible refine (rdown_22 xa ha _).mono ?_; rintro e w7 ⟨rfl, hw7⟩))
  obtain ⟨n4, hn4⟩ := HW4.out
  obtain ⟨n5, hn5⟩ := hw5
  obtain ⟨n6, hn6⟩ := hw6
  obtain ⟨n7, hn7⟩ := hw7
  have htq := HT.out
  subst htq
  exact HX.out _ _ _ _ _ _ _ _ _ _ _ _ _ _ _ _ _ _ _ _ _ _ _ _ _ _ _ _ _ _ _ _ _ _ _ _ _ _ _ _ _ _ _ _ _ _ _ _ _ _ _ _ _ _ _ _ _ _ _ _ _ _ _ w7 ⟨n4 + n5 + n6 + n7, by rw [hn7, hn6, hn5, hn4, World.drewN_drewN, World.drewN_drewN, World.drewN_drewN, Nat.add_assoc, Nat.add_assoc]⟩
end Go.Proofs.YtifljaandphkpaaDoor
