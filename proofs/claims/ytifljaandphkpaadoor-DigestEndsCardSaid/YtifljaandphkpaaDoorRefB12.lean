/-
  The document's Sha: the sums behind a block.
-/
import Derived.Test.YtifljaandphkpaaDoorRefA
namespace Go.Proofs.YtifljaandphkpaaDoor
open Go.RowKit
set_option linter.unusedVariables false

theorem mixP_length (s r : List Nat) : ∀ i, (mixP s r i).length = s.length
  | 0 => rfl
  | i + 1 => by rw [mixP, List.length_set, mixP_length s r i]
theorem mixP_getD (s r : List Nat) : ∀ i j, i ≤ j → (mixP s r i).getD j 0 = s.getD j 0
  | 0, _, _ => rfl
  | i + 1, j, h => by
    rw [mixP, List.getD_eq_getElem?_getD, List.getElem?_set_ne (by omega), ← List.getD_eq_getElem?_getD, mixP_getD s r i j (by omega)]
set_option maxRecDepth 1000000 in
set_option maxHeartbeats 8000000 in
theorem ref_b12 (Q : Exit → Act → World → Prop) (g7 gx : Nat) (s r : List Nat) (hne : g7 ≠ gx) (hs : Hid (s.length = 8)) (hr : Hid (r.length = 8)) (x0 x1 x2 x3 x4 x5 x6 x8 x9 x10 x11 x12 x13 x14 x15 x16 x17 x18 x19 x20 x21 x22 x23 x24 x25 x26 x27 x28 x29 x30 x31 x32 x33 x34 x35 x36 x37 x38 x39 x40 x41 x42 x43 x44 x45 x46 x47 x48 x49 x50 x51 x52 x53 x54 x55 x56 x57 x58 x59 x60 x61 x62 x63 x64 x65 x66 x67 x68 x69 x70 x71 x72 x73 x74 x75 x76 x77 x78 x79 x80 x81 x82 x83 x84 x85 x86 x87 x88 x89 x90 x91 x92 x93 x94 x95 x96 x97 x98 x99 x100 x101 x102 x103 x104 x105 x106 x107 x108 x109 x110 x111 x112 x113 x114 x115 x116 x117 x118 x119 x120 x121 x122 x123 x124 x125 x126 x127 x128 x129 x130 x131 x132 x133 x134 x135 x136 x137 x138 x139 x140 x141 x142 x143 x144 x145 x146 x147 x148 x149 x150 x151 x152 x153 x154 x155 x156 x157 x158 x159 x160 x161 x162 x163 x164 x165 x166 x167 x168 x169 x170 x171 x172 x173 x174 x175 x176 x177 x178 x179 x180 x181 x182 x183 x184 x185 x186 x187 x188 x189 x190 x191 x192 x193 x194 x195 x196 x197 x198 x199 x200 x201 x202 x203 x204 x205 x206 x207 x208 x209 x210 x211 x212 x213 x214 x215 x216 x217 x218 x219 x220 x221 x222 x223 x224 x225 x226 x227 x228 x229 x230 x231 x232 x233 x234 x235 x236 x237 x238 x239 x240 x241 x242 x243 x244 x245 x246 x247 x248 x249 x253 x254 x255 x256 x257 x258 x259 x260 x261 x262 x263 x264 x265 x266 x267 x268 x269 x270 x271 x272 x273 x274 x275 x276 x277 x278 x279 x280 x281 x282 x283 x284 x285 x286 : Value) (w : World) (h7 : Hid (Row w g7 .u32 24 (s))) (hx : Hid (Row w gx .u32 24 (r)))
    (hexit : ∀ (y26 y27 y252 y253 y254 y255 y256 y257 y258 y259 y260 y261 y262 y263 y264 : Value) (w' : World), Hid (Row w' g7 .u32 24 (mixP s r 8)) → Hid (Below g7 w w') → Q .normal ⟨#[x0, x1, x2, x3, x4, x5, x6, (.slice (some ⟨g7, 0, none⟩) 8 8), x8, x9, x10, x11, x12, x13, x14, x15, x16, x17, x18, x19, x20, x21, x22, x23, x24, x25, y26, y27, x28, x29, x30, x31, x32, x33, x34, x35, x36, x37, x38, x39, x40, x41, x42, x43, x44, x45, x46, x47, x48, x49, x50, x51, x52, x53, x54, x55, x56, x57, x58, x59, x60, x61, x62, x63, x64, x65, x66, x67, x68, x69, x70, x71, x72, x73, x74, x75, x76, x77, x78, x79, x80, x81, x82, x83, x84, x85, x86, x87, x88, x89, x90, x91, x92, x93, x94, x95, x96, x97, x98, x99, x100, x101, x102, x103, x104, x105, x106, x107, x108, x109, x110, x111, x112, x113, x114, x115, x116, x117, x118, x119, x120, x121, x122, x123, x124, x125, x126, x127, x128, x129, x130, x131, x132, x133, x134, x135, x136, x137, x138, x139, x140, x141, x142, x143, x144, x145, x146, x147, x148, x149, x150, x151, x152, x153, x154, x155, x156, x157, x158, x159, x160, x161, x162, x163, x164, x165, x166, x167, x168, x169, x170, x171, x172, x173, x174, x175, x176, x177, x178, x179, x180, x181, x182, x183, x184, x185, x186, x187, x188, x189, x190, x191, x192, x193, x194, x195, x196, x197, x198, x199, x200, x201, x202, x203, x204, x205, x206, x207, x208, x209, x210, x211, x212, x213, x214, x215, x216, x217, x218, x219, x220, x221, x222, x223, x224, x225, x226, x227, x228, x229, x230, x231, x232, x233, x234, x235, x236, x237, x238, x239, x240, x241, x242, x243, x244, x245, x246, x247, x248, x249, (.slice (some ⟨gx, 0, none⟩) 8 8), (.int .i64 8), y252, y253, y254, y255, y256, y257, y258, y259, y260, y261, y262, y263, y264, x265, x266, x267, x268, x269, x270, x271, x272, x273, x274, x275, x276, x277, x278, x279, x280, x281, x282, x283, x284, x285, x286], []⟩ w') :
    Code.wp Tryd.prog codeB12 Q ⟨#[x0, x1, x2, x3, x4, x5, x6, (.slice (some ⟨g7, 0, none⟩) 8 8), x8, x9, x10, x11, x12, x13, x14, x15, x16, x17, x18, x19, x20, x21, x22, x23, x24, x25, x26, x27, x28, x29, x30, x31, x32, x33, x34, x35, x36, x37, x38, x39, x40, x41, x42, x43, x44, x45, x46, x47, x48, x49, x50, x51, x52, x53, x54, x55, x56, x57, x58, x59, x60, x61, x62, x63, x64, x65, x66, x67, x68, x69, x70, x71, x72, x73, x74, x75, x76, x77, x78, x79, x80, x81, x82, x83, x84, x85, x86, x87, x88, x89, x90, x91, x92, x93, x94, x95, x96, x97, x98, x99, x100, x101, x102, x103, x104, x105, x106, x107, x108, x109, x110, x111, x112, x113, x114, x115, x116, x117, x118, x119, x120, x121, x122, x123, x124, x125, x126, x127, x128, x129, x130, x131, x132, x133, x134, x135, x136, x137, x138, x139, x140, x141, x142, x143, x144, x145, x146, x147, x148, x149, x150, x151, x152, x153, x154, x155, x156, x157, x158, x159, x160, x161, x162, x163, x164, x165, x166, x167, x168, x169, x170, x171, x172, x173, x174, x175, x176, x177, x178, x179, x180, x181, x182, x183, x184, x185, x186, x187, x188, x189, x190, x191, x192, x193, x194, x195, x196, x197, x198, x199, x200, x201, x202, x203, x204, x205, x206, x207, x208, x209, x210, x211, x212, x213, x214, x215, x216, x217, x218, x219, x220, x221, x222, x223, x224, x225, x226, x227, x228, x229, x230, x231, x232, x233, x234, x235, x236, x237, x238, x239, x240, x241, x242, x243, x244, x245, x246, x247, x248, x249, (.slice (some ⟨gx, 0, none⟩) 8 8), (.int .i64 8), (.int .i64 0), x253, x254, x255, x256, x257, x258, x259, x260, x261, x262, x263, x264, x265, x266, x267, x268, x269, x270, x271, x272, x273, x274, x275, x276, x277, x278, x279, x280, x281, x282, x283, x284, x285, x286], []⟩ w := by
  conv => arg 2; whnf
  have HX := Lib.hid hexit
  clear hexit
  have hb := Lib.hid (Below.refl g7 w)
  have h7' : Hid (Row w g7 .u32 24 (mixP s r 0)) := h7
  go_wp2
  go_loopw [252] (fun i wr => ∃ j : Nat, j ≤ 8 ∧ i = .int .i64 (j : Int) ∧ Hid (Row wr g7 .u32 24 (mixP s r j)) ∧ Hid (Row wr gx .u32 24 (r)) ∧ Hid (Below g7 w wr)) (fun i _ => 8 - (intOf i).toNat)
  case atStart => exact ⟨0, by omega, rfl, h7', hx, hb⟩
  case round =>
    obtain ⟨j, hj, rfl, p1, p2, pB⟩ := hrel
    clear h7 h7' hx hb
    by_cases hj8 : j < 8
    · have hji : (j : Int) < 8 := by omega
      have hc := p1.out.cell j (by rw [mixP_length, hs.out]; exact hj8)
      rw [mixP_getD s r j j (Nat.le_refl _)] at hc
      have hd := p2.out.cell j (by rw [hr.out]; exact hj8)
      have hf := p1.out.free j
      have hz := wrap_add' (s.getD j 0) (r.getD j 0)
      have hN : Hid (Row (wr.setCell ⟨g7, j, none⟩ (.int .u32 ((addM (s.getD j 0) (r.getD j 0) : Nat) : Int))) g7 .u32 24 (mixP s r (j + 1))) := Lib.hid (p1.out.set j (addM (s.getD j 0) (r.getD j 0)))
      have hO := Lib.hid (p2.out.other ⟨g7, j, none⟩ (.int .u32 ((addM (s.getD j 0) (r.getD j 0) : Nat) : Int)) (by exact fun h => hne h.symm))
      have hW : Hid (Below g7 w (wr.setCell ⟨g7, j, none⟩ (.int .u32 ((addM (s.getD j 0) (r.getD j 0) : Nat) : Int)))) := Lib.hid (pB.out.setCell (by simp) _)
      clear p1 p2 pB
      generalize addM (s.getD j 0) (r.getD j 0) = q at *
      generalize s.getD j 0 = sj at *
      generalize r.getD j 0 = rj at *
      go_wp2
      go_roundw
      case rel => exact ⟨j + 1, by omega, by go_num, hN, hO, hW⟩
      case measure => simp [intOf]; omega
    · obtain rfl : j = 8 := by omega
      go_wp2
      exact HX.out _ _ _ _ _ _ _ _ _ _ _ _ _ _ _ _ p1 pB
end Go.Proofs.YtifljaandphkpaaDoor
