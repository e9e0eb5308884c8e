/-
  The document's Sha: the rounds of a block.
-/
import Derived.Test.YtifljaandphkpaaDoorRefA
import Derived.Test.YtifljaandphkpaaDoorRefB11
namespace Go.Proofs.YtifljaandphkpaaDoor
open Go.RowKit
set_option linter.unusedVariables false

set_option maxRecDepth 1000000 in
set_option maxHeartbeats 8000000 in
theorem ref_b10 (Q : Exit → Act → World → Prop) (gt g9 c9 : Nat) (S : List Nat) (st : St) (hok : Hid st.ok) (x0 x1 x2 x4 x5 x6 x7 x8 x10 x11 x12 x13 x14 x24 x25 x26 x27 x28 x29 x30 x31 x32 x33 x34 x35 x36 x37 x38 x39 x40 x41 x42 x43 x44 x45 x46 x47 x48 x49 x50 x51 x52 x53 x54 x55 x56 x57 x58 x59 x60 x61 x62 x63 x64 x65 x66 x67 x68 x69 x70 x71 x72 x73 x74 x75 x76 x77 x78 x79 x80 x81 x82 x83 x84 x85 x86 x87 x88 x89 x90 x91 x92 x93 x94 x95 x96 x97 x98 x99 x100 x101 x102 x103 x104 x105 x106 x107 x108 x109 x110 x111 x112 x113 x114 x115 x116 x117 x118 x119 x120 x121 x122 x123 x124 x125 x126 x127 x128 x129 x130 x131 x132 x133 x134 x135 x136 x137 x138 x139 x140 x141 x142 x143 x144 x145 x146 x147 x148 x149 x150 x151 x152 x153 x154 x155 x156 x157 x158 x159 x160 x161 x162 x163 x164 x165 x166 x167 x168 x169 x170 x171 x172 x173 x174 x175 x176 x177 x178 x179 x180 x181 x182 x183 x184 x185 x186 x187 x188 x189 x190 x191 x192 x193 x194 x195 x196 x197 x198 x199 x200 x201 x202 x203 x204 x205 x206 x207 x208 x209 x210 x211 x212 x213 x214 x215 x216 x217 x218 x219 x220 x221 x222 x223 x224 x225 x226 x227 x228 x229 x230 x231 x232 x233 x234 x235 x236 x237 x238 x239 x240 x241 x242 x243 x244 x245 x246 x247 x248 x249 x250 x251 x252 x253 x254 x255 x256 x257 x258 x259 x260 x261 x262 x263 x264 x265 x266 x267 x268 x269 x270 x271 x272 x273 x274 x275 x276 x277 x278 x279 x280 x281 x282 x283 x284 x285 x286 : Value) (w : World) (hT : Hid (∀ t, t < 64 → w.cell? ⟨gt, t, none⟩ = some (.int .u32 ((rootsN.getD t 0 : Nat) : Int)))) (hW : Hid (∀ t, t < 64 → w.cell? ⟨g9, t, none⟩ = some (.int .u32 ((S.getD t 0 : Nat) : Int))))
    (hexit : ∀ (y23 y24 y25 y177 y178 y179 y180 y181 y182 y183 y184 y185 y186 y187 y188 y189 y190 y191 y192 y193 y194 y195 y196 y197 y198 y199 y200 y201 y202 y203 y204 y205 y206 y207 y208 y209 y210 y211 y212 y213 y214 y215 y216 y217 y218 y219 y220 y221 y222 y223 y224 y225 y226 y227 y228 y229 y230 y231 y232 y233 y234 y235 y236 y237 y238 y239 y240 y241 : Value) (w' : World), (∃ n, w' = w.drewN n) → Q .normal ⟨#[x0, x1, x2, (.slice (some ⟨gt, 0, none⟩) 64 64), x4, x5, x6, x7, x8, (.slice (some ⟨g9, 0, none⟩) 64 c9), x10, x11, x12, x13, x14, (.int .u32 (((rnds rootsN S st 64).a : Nat) : Int)), (.int .u32 (((rnds rootsN S st 64).c : Nat) : Int)), (.int .u32 (((rnds rootsN S st 64).d : Nat) : Int)), (.int .u32 (((rnds rootsN S st 64).e : Nat) : Int)), (.int .u32 (((rnds rootsN S st 64).b : Nat) : Int)), (.int .u32 (((rnds rootsN S st 64).f : Nat) : Int)), (.int .u32 (((rnds rootsN S st 64).g : Nat) : Int)), (.int .u32 (((rnds rootsN S st 64).h : Nat) : Int)), y23, y24, y25, x26, x27, x28, x29, x30, x31, x32, x33, x34, x35, x36, x37, x38, x39, x40, x41, x42, x43, x44, x45, x46, x47, x48, x49, x50, x51, x52, x53, x54, x55, x56, x57, x58, x59, x60, x61, x62, x63, x64, x65, x66, x67, x68, x69, x70, x71, x72, x73, x74, x75, x76, x77, x78, x79, x80, x81, x82, x83, x84, x85, x86, x87, x88, x89, x90, x91, x92, x93, x94, x95, x96, x97, x98, x99, x100, x101, x102, x103, x104, x105, x106, x107, x108, x109, x110, x111, x112, x113, x114, x115, x116, x117, x118, x119, x120, x121, x122, x123, x124, x125, x126, x127, x128, x129, x130, x131, x132, x133, x134, x135, x136, x137, x138, x139, x140, x141, x142, x143, x144, x145, x146, x147, x148, x149, x150, x151, x152, x153, x154, x155, x156, x157, x158, x159, x160, x161, x162, x163, x164, x165, x166, x167, x168, x169, x170, x171, x172, x173, x174, x175, x176, y177, y178, y179, y180, y181, y182, y183, y184, y185, y186, y187, y188, y189, y190, y191, y192, y193, y194, y195, y196, y197, y198, y199, y200, y201, y202, y203, y204, y205, y206, y207, y208, y209, y210, y211, y212, y213, y214, y215, y216, y217, y218, y219, y220, y221, y222, y223, y224, y225, y226, y227, y228, y229, y230, y231, y232, y233, y234, y235, y236, y237, y238, y239, y240, y241, x242, x243, x244, x245, x246, x247, x248, x249, x250, x251, x252, x253, x254, x255, x256, x257, x258, x259, x260, x261, x262, x263, x264, x265, x266, x267, x268, x269, x270, x271, x272, x273, x274, x275, x276, x277, x278, x279, x280, x281, x282, x283, x284, x285, x286], []⟩ w') :
    Code.wp Tryd.prog codeB10 Q ⟨#[x0, x1, x2, (.slice (some ⟨gt, 0, none⟩) 64 64), x4, x5, x6, x7, x8, (.slice (some ⟨g9, 0, none⟩) 64 c9), x10, x11, x12, x13, x14, (.int .u32 ((st.a : Nat) : Int)), (.int .u32 ((st.c : Nat) : Int)), (.int .u32 ((st.d : Nat) : Int)), (.int .u32 ((st.e : Nat) : Int)), (.int .u32 ((st.b : Nat) : Int)), (.int .u32 ((st.f : Nat) : Int)), (.int .u32 ((st.g : Nat) : Int)), (.int .u32 ((st.h : Nat) : Int)), (.int .i64 0), x24, x25, x26, x27, x28, x29, x30, x31, x32, x33, x34, x35, x36, x37, x38, x39, x40, x41, x42, x43, x44, x45, x46, x47, x48, x49, x50, x51, x52, x53, x54, x55, x56, x57, x58, x59, x60, x61, x62, x63, x64, x65, x66, x67, x68, x69, x70, x71, x72, x73, x74, x75, x76, x77, x78, x79, x80, x81, x82, x83, x84, x85, x86, x87, x88, x89, x90, x91, x92, x93, x94, x95, x96, x97, x98, x99, x100, x101, x102, x103, x104, x105, x106, x107, x108, x109, x110, x111, x112, x113, x114, x115, x116, x117, x118, x119, x120, x121, x122, x123, x124, x125, x126, x127, x128, x129, x130, x131, x132, x133, x134, x135, x136, x137, x138, x139, x140, x141, x142, x143, x144, x145, x146, x147, x148, x149, x150, x151, x152, x153, x154, x155, x156, x157, x158, x159, x160, x161, x162, x163, x164, x165, x166, x167, x168, x169, x170, x171, x172, x173, x174, x175, x176, x177, x178, x179, x180, x181, x182, x183, x184, x185, x186, x187, x188, x189, x190, x191, x192, x193, x194, x195, x196, x197, x198, x199, x200, x201, x202, x203, x204, x205, x206, x207, x208, x209, x210, x211, x212, x213, x214, x215, x216, x217, x218, x219, x220, x221, x222, x223, x224, x225, x226, x227, x228, x229, x230, x231, x232, x233, x234, x235, x236, x237, x238, x239, x240, x241, x242, x243, x244, x245, x246, x247, x248, x249, x250, x251, x252, x253, x254, x255, x256, x257, x258, x259, x260, x261, x262, x263, x264, x265, x266, x267, x268, x269, x270, x271, x272, x273, x274, x275, x276, x277, x278, x279, x280, x281, x282, x283, x284, x285, x286], []⟩ w := by
  conv => arg 2; whnf
  have HX := Lib.hid hexit
  clear hexit
  have h0 : Hid (∃ n, w = w.drewN n) := Lib.hid ⟨0, rfl⟩
  go_wp2
  go_loopw [15, 16, 17, 18, 19, 20, 21, 22, 23] (fun va vc vd ve vb vf vg vh vt wr => ∃ (t : Nat) (x : St), t ≤ 64 ∧ vt = .int .i64 (t : Int) ∧ Hid (rnds rootsN S st t = x) ∧ va = .int .u32 (x.a : Int) ∧ vb = .int .u32 (x.b : Int) ∧ vc = .int .u32 (x.c : Int) ∧ vd = .int .u32 (x.d : Int) ∧ ve = .int .u32 (x.e : Int) ∧ vf = .int .u32 (x.f : Int) ∧ vg = .int .u32 (x.g : Int) ∧ vh = .int .u32 (x.h : Int) ∧ Hid (∃ n, wr = w.drewN n)) (fun _ _ _ _ _ _ _ _ i _ => 64 - (intOf i).toNat)
  case atStart => exact ⟨0, st, by omega, rfl, Lib.hid rfl, rfl, rfl, rfl, rfl, rfl, rfl, rfl, rfl, h0⟩
  case round =>
    obtain ⟨t, x, ht, rfl, hx, rfl, rfl, rfl, rfl, rfl, rfl, rfl, rfl, hn⟩ := hrel
    clear h0
    by_cases ht64 : t < 64
    · have hti : (t : Int) < 64 := by omega
      obtain ⟨n, rfl⟩ := hn.out
      have ck : (w.drewN n).cell? ⟨gt, t, none⟩ = some (.int .u32 ((rootsN.getD t 0 : Nat) : Int)) := hT.out t ht64
      have cw : (w.drewN n).cell? ⟨g9, t, none⟩ = some (.int .u32 ((S.getD t 0 : Nat) : Int)) := hW.out t ht64
      have hxo : Hid (St.ok ⟨x.a, x.b, x.c, x.d, x.e, x.f, x.g, x.h⟩) := Lib.hid (by
        have := rnds_ok rootsN S st hok.out t
        rw [hx.out] at this
        exact this)
      have hx1 : Hid (rnds rootsN S st (t + 1) = rnd ⟨x.a, x.b, x.c, x.d, x.e, x.f, x.g, x.h⟩ (rootsN.getD t 0) (S.getD t 0)) := Lib.hid (by rw [rnds, hx.out])
      clear hx
      generalize rootsN.getD t 0 = kt at *
      generalize S.getD t 0 = wt at *
      go_upto_block 11 with fail
      refine ref_b11 _ gt g9 c9 t x.a x.b x.c x.d x.e x.f x.g x.h kt wt ht64 hxo _ _ _ _ _ _ _ _ _ _ _ _ _ _ _ _ _ _ _ _ _ _ _ _ _ _ _ _ _ _ _ _ _ _ _ _ _ _ _ _ _ _ _ _ _ _ _ _ _ _ _ _ _ _ _ _ _ _ _ _ _ _ _ _ _ _ _ _ _ _ _ _ _ _ _ _ _ _ _ _ _ _ _ _ _ _ _ _ _ _ _ _ _ _ _ _ _ _ _ _ _ _ _ _ _ _ _ _ _ _ _ _ _ _ _ _ _ _ _ _ _ _ _ _ _ _ _ _ _ _ _ _ _ _ _ _ _ _ _ _ _ _ _ _ _ _ _ _ _ _ _ _ _ _ _ _ _ _ _ _ _ _ _ _ _ _ _ _ _ _ _ _ _ _ _ _ _ _ _ _ _ _ _ _ _ _ _ _ _ _ _ _ _ _ _ _ _ _ _ _ _ _ _ _ _ _ _ _ _ _ _ _ _ _ _ _ _ _ _ _ _ _ _ _ _ _ _ _ _ _ _ _ _ _ _ _ _ _ _ _ _ _ _ _ _ _ _ _ _ _ _ _ _ _ _ _ _ _ _ _ _ _ _ _ _ _ _ _ _ _ _ _ _ _ _ _ _ ck cw ?_
      intro z24 z25 z181 z182 z183 z184 z185 z186 z187 z188 z189 z190 z191 z192 z193 z194 z195 z196 z197 z198 z199 z200 z201 z202 z203 z204 z205 z206 z207 z208 z209 z210 z211 z212 z213 z214 z215 z216 z217 z218 z219 z220 z221 z222 z223 z224 z225 z226 z227 z228 z229 z230 z231 z232 z233 z234 z235 z236 z237 z238 z239 z240 z241 w5 hn5
      clear ck cw hn
      obtain ⟨n5, hn5⟩ := hn5
      have hn6 : Hid (∃ n, w5 = w.drewN n) := Lib.hid ⟨n + n5, by rw [hn5, World.drewN_drewN]⟩
      clear hn5
      go_wp2
      go_roundw
      case rel => exact ⟨t + 1, _, by omega, by go_num, hx1, rfl, rfl, rfl, rfl, rfl, rfl, rfl, rfl, hn6⟩
      case measure => simp [intOf]; omega
    · obtain rfl : t = 64 := by omega
      have hx' := hx.out
      subst hx'
      go_wp2
      exact HX.out _ _ _ _ _ _ _ _ _ _ _ _ _ _ _ _ _ _ _ _ _ _ _ _ _ _ _ _ _ _ _ _ _ _ _ _ _ _ _ _ _ _ _ _ _ _ _ _ _ _ _ _ _ _ _ _ _ _ _ _ _ _ _ _ _ _ _ _ _ hn.out
end Go.Proofs.YtifljaandphkpaaDoor
