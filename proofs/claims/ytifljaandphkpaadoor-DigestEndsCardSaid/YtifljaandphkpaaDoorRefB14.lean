/-
  The document's Sha: the words as bytes.
-/
import Derived.Test.YtifljaandphkpaaDoorRefA
namespace Go.Proofs.YtifljaandphkpaaDoor
open Go.RowKit
set_option linter.unusedVariables false

theorem outN_take (s : St) (j : Nat) (hj : j < 8) : (outN s).take (4 * (j + 1)) = (outN s).take (4 * j) ++ [s.list.getD j 0 / 16777216 % 256, s.list.getD j 0 / 65536 % 256, s.list.getD j 0 / 256 % 256, s.list.getD j 0 % 256] := by
  have g : ∀ p, p < 32 → (outN s).getD p 0 = s.list.getD (p / 4) 0 / 2 ^ (24 - 8 * (p % 4)) % 256 := fun p hp => by simp [outN, List.getD, hp]
  have t : ∀ p, p < 32 → (outN s).take (p + 1) = (outN s).take p ++ [(outN s).getD p 0] := fun p hp => take_succ_getDN (by rw [outN_length]; exact hp)
  rw [show 4 * (j + 1) = 4 * j + 1 + 1 + 1 + 1 from by omega, t (4 * j + 1 + 1 + 1) (by omega), t (4 * j + 1 + 1) (by omega), t (4 * j + 1) (by omega), t (4 * j) (by omega), g (4 * j + 1 + 1 + 1) (by omega), g (4 * j + 1 + 1) (by omega), g (4 * j + 1) (by omega), g (4 * j) (by omega)]
  rw [show (4 * j + 1 + 1 + 1) / 4 = j from by omega, show (4 * j + 1 + 1 + 1) % 4 = 3 from by omega, show (4 * j + 1 + 1) / 4 = j from by omega, show (4 * j + 1 + 1) % 4 = 2 from by omega, show (4 * j + 1) / 4 = j from by omega, show (4 * j + 1) % 4 = 1 from by omega, show 4 * j / 4 = j from by omega, show 4 * j % 4 = 0 from by omega]
  rw [List.append_assoc, List.append_assoc, List.append_assoc]
  congr 1
  generalize s.list.getD j 0 = q
  show [q / 2 ^ 24 % 256, q / 2 ^ 16 % 256, q / 2 ^ 8 % 256, q / 2 ^ 0 % 256] = _
  rw [show q / 2 ^ 0 = q from Nat.div_one q]
theorem wpList_append4 {ops : Array Oper} {rest : List Oper} {o : Oper} {a : Act} {w : World} {Q : Exit → Act → World → Prop} (s x : Operand) (hgd : o.guard = none)
    (ho : o.op = .call { callee := .builtin .append, args := #[s, x], argTypes := #[22, 22] })
    (base : Nat) (v : Value) (n : Nat) (l : List Nat) (hs : a.eval s = v) (hown : Hid (w.ownsRow base 5 1 v n (cellsZ (asZ l)))) (y0 y1 y2 y3 : Int) (ns : List Nat) (hy : Hid ([y0, y1, y2, y3] = asZ ns))
    (hx : a.eval x = .slice (some ⟨w.heap.size, 0, none⟩) 4 4) (hb : n + 4 ≤ 1000000) (hbase : base ≤ w.heap.size)
    (h : ∀ v' w', Hid (w'.ownsRow base 5 1 v' (n + 4) (cellsZ (asZ (l ++ ns)))) → Hid (Below base w w') → wpList Tryd.prog ops Q rest (a.put o.dst v') w') : wpList Tryd.prog ops Q (o :: rest) a (w.alloc (.cells #[.int .u8 y0, .int .u8 y1, .int .u8 y2, .int .u8 y3] 5)) := by
  obtain ⟨i0, hi, hz0, hz1, hz2⟩ := info_parts info_u8
  have HB : Below base w (w.alloc (.cells #[.int .u8 y0, .int .u8 y1, .int .u8 y2, .int .u8 y3] 5)) := (Below.refl _ _).alloc hbase _
  refine wpList_append_own _ hgd s x 22 ho base 5 i0 (.int .u8 0) 1 1 Tryd.underlying22 hi hz0 hz1 hz2 rfl (by decide) v n _ hs (hown.out.alloc _) ⟨w.heap.size, 0, none⟩ 4 4 [.int .u8 y0, .int .u8 y1, .int .u8 y2, .int .u8 y3] hx rfl (World.news_of_block (heap_alloc_new w _)) (one_u8 [y0, y1, y2, y3]) (by unfold maxLen; omega) (by omega) (by simp; omega) ?_
  intro v' w' h1 h2 h3
  refine h v' w' ?_ (HB.grown h2 (by simp; omega) (own_block_ge hown.out))
  rw [asZ_append, cellsZ_append, ← hy.out]
  exact h1
set_option maxRecDepth 1000000 in
set_option maxHeartbeats 8000000 in
theorem ref_b14 (Q : Exit → Act → World → Prop) (g7 B : Nat) (s : St) (hs : Hid s.ok) (hg : g7 < B) (x0 x1 x2 x3 x4 x5 x6 x7 x8 x9 x10 x11 x12 x13 x14 x15 x16 x17 x18 x19 x20 x21 x22 x23 x24 x25 x26 x27 x29 x30 x31 x32 x33 x34 x35 x36 x37 x38 x39 x40 x41 x42 x43 x44 x45 x46 x47 x48 x49 x50 x51 x52 x53 x54 x55 x56 x57 x58 x59 x60 x61 x62 x63 x64 x65 x66 x67 x68 x69 x70 x71 x72 x73 x74 x75 x76 x77 x78 x79 x80 x81 x82 x83 x84 x85 x86 x87 x88 x89 x90 x91 x92 x93 x94 x95 x96 x97 x98 x99 x100 x101 x102 x103 x104 x105 x106 x107 x108 x109 x110 x111 x112 x113 x114 x115 x116 x117 x118 x119 x120 x121 x122 x123 x124 x125 x126 x127 x128 x129 x130 x131 x132 x133 x134 x135 x136 x137 x138 x139 x140 x141 x142 x143 x144 x145 x146 x147 x148 x149 x150 x151 x152 x153 x154 x155 x156 x157 x158 x159 x160 x161 x162 x163 x164 x165 x166 x167 x168 x169 x170 x171 x172 x173 x174 x175 x176 x177 x178 x179 x180 x181 x182 x183 x184 x185 x186 x187 x188 x189 x190 x191 x192 x193 x194 x195 x196 x197 x198 x199 x200 x201 x202 x203 x204 x205 x206 x207 x208 x209 x210 x211 x212 x213 x214 x215 x216 x217 x218 x219 x220 x221 x222 x223 x224 x225 x226 x227 x228 x229 x230 x231 x232 x233 x234 x235 x236 x237 x238 x239 x240 x241 x242 x243 x244 x245 x246 x247 x248 x249 x250 x251 x252 x253 x254 x255 x256 x257 x258 x259 x260 x261 x262 x263 x264 x268 x269 x270 x271 x272 x273 x274 x275 x276 x277 x278 x279 x280 x281 x282 x283 x284 x285 x286 : Value) (w : World) (h7 : Hid (Row w g7 .u32 24 (s.list))) (hBs : B ≤ w.heap.size)
    (hexit : ∀ (y30 y267 y268 y269 y270 y271 y272 y273 y274 y275 y276 y277 y278 y279 y280 y281 y282 y283 y284 y285 : Value) (v' : Value) (w' : World), Hid (w'.ownsRow B 5 1 v' (32) (cellsZ (asZ (outN s)))) → Hid (Below B w w') → Q .normal ⟨#[x0, x1, x2, x3, x4, x5, x6, x7, x8, x9, x10, x11, x12, x13, x14, x15, x16, x17, x18, x19, x20, x21, x22, x23, x24, x25, x26, x27, v', x29, y30, x31, x32, x33, x34, x35, x36, x37, x38, x39, x40, x41, x42, x43, x44, x45, x46, x47, x48, x49, x50, x51, x52, x53, x54, x55, x56, x57, x58, x59, x60, x61, x62, x63, x64, x65, x66, x67, x68, x69, x70, x71, x72, x73, x74, x75, x76, x77, x78, x79, x80, x81, x82, x83, x84, x85, x86, x87, x88, x89, x90, x91, x92, x93, x94, x95, x96, x97, x98, x99, x100, x101, x102, x103, x104, x105, x106, x107, x108, x109, x110, x111, x112, x113, x114, x115, x116, x117, x118, x119, x120, x121, x122, x123, x124, x125, x126, x127, x128, x129, x130, x131, x132, x133, x134, x135, x136, x137, x138, x139, x140, x141, x142, x143, x144, x145, x146, x147, x148, x149, x150, x151, x152, x153, x154, x155, x156, x157, x158, x159, x160, x161, x162, x163, x164, x165, x166, x167, x168, x169, x170, x171, x172, x173, x174, x175, x176, x177, x178, x179, x180, x181, x182, x183, x184, x185, x186, x187, x188, x189, x190, x191, x192, x193, x194, x195, x196, x197, x198, x199, x200, x201, x202, x203, x204, x205, x206, x207, x208, x209, x210, x211, x212, x213, x214, x215, x216, x217, x218, x219, x220, x221, x222, x223, x224, x225, x226, x227, x228, x229, x230, x231, x232, x233, x234, x235, x236, x237, x238, x239, x240, x241, x242, x243, x244, x245, x246, x247, x248, x249, x250, x251, x252, x253, x254, x255, x256, x257, x258, x259, x260, x261, x262, x263, x264, (.slice (some ⟨g7, 0, none⟩) 8 8), (.int .i64 8), y267, y268, y269, y270, y271, y272, y273, y274, y275, y276, y277, y278, y279, y280, y281, y282, y283, y284, y285, x286], []⟩ w') :
    Code.wp Tryd.prog (codeB 14) Q ⟨#[x0, x1, x2, x3, x4, x5, x6, x7, x8, x9, x10, x11, x12, x13, x14, x15, x16, x17, x18, x19, x20, x21, x22, x23, x24, x25, x26, x27, (.slice none 0 0), x29, x30, x31, x32, x33, x34, x35, x36, x37, x38, x39, x40, x41, x42, x43, x44, x45, x46, x47, x48, x49, x50, x51, x52, x53, x54, x55, x56, x57, x58, x59, x60, x61, x62, x63, x64, x65, x66, x67, x68, x69, x70, x71, x72, x73, x74, x75, x76, x77, x78, x79, x80, x81, x82, x83, x84, x85, x86, x87, x88, x89, x90, x91, x92, x93, x94, x95, x96, x97, x98, x99, x100, x101, x102, x103, x104, x105, x106, x107, x108, x109, x110, x111, x112, x113, x114, x115, x116, x117, x118, x119, x120, x121, x122, x123, x124, x125, x126, x127, x128, x129, x130, x131, x132, x133, x134, x135, x136, x137, x138, x139, x140, x141, x142, x143, x144, x145, x146, x147, x148, x149, x150, x151, x152, x153, x154, x155, x156, x157, x158, x159, x160, x161, x162, x163, x164, x165, x166, x167, x168, x169, x170, x171, x172, x173, x174, x175, x176, x177, x178, x179, x180, x181, x182, x183, x184, x185, x186, x187, x188, x189, x190, x191, x192, x193, x194, x195, x196, x197, x198, x199, x200, x201, x202, x203, x204, x205, x206, x207, x208, x209, x210, x211, x212, x213, x214, x215, x216, x217, x218, x219, x220, x221, x222, x223, x224, x225, x226, x227, x228, x229, x230, x231, x232, x233, x234, x235, x236, x237, x238, x239, x240, x241, x242, x243, x244, x245, x246, x247, x248, x249, x250, x251, x252, x253, x254, x255, x256, x257, x258, x259, x260, x261, x262, x263, x264, (.slice (some ⟨g7, 0, none⟩) 8 8), (.int .i64 8), (.int .i64 0), x268, x269, x270, x271, x272, x273, x274, x275, x276, x277, x278, x279, x280, x281, x282, x283, x284, x285, x286], []⟩ w := by
  conv => arg 2; whnf
  have HX := Lib.hid hexit
  clear hexit
  have hb := Lib.hid (Below.refl B w)
  have h0 : Hid (w.ownsRow B 5 1 (.slice none 0 0) (4 * 0) (cellsZ (asZ ((outN s).take (4 * 0))))) := Lib.hid (own_none w B)
  go_wp2
  go_loopw [28, 267] (fun v i wr => ∃ j : Nat, j ≤ 8 ∧ i = .int .i64 (j : Int) ∧ Hid (wr.ownsRow B 5 1 v (4 * j) (cellsZ (asZ ((outN s).take (4 * j))))) ∧ Hid (Below B w wr)) (fun _ i _ => 8 - (intOf i).toNat)
  case atStart => exact ⟨0, by omega, rfl, h0, hb⟩
  case round =>
    obtain ⟨j, hj, rfl, O1, B1⟩ := hrel
    clear h0 hb
    by_cases hj8 : j < 8
    · have hji : (j : Int) < 8 := by omega
      have hc := (B1.out.cell (p := ⟨g7, j, none⟩) hg).trans (h7.out.cell j (by exact hj8))
      have hO : Hid ((outN s).take (4 * j) ++ [s.list.getD j 0 / 16777216 % 256, s.list.getD j 0 / 65536 % 256, s.list.getD j 0 / 256 % 256, s.list.getD j 0 % 256] = (outN s).take (4 * (j + 1))) := Lib.hid (outN_take s j hj8).symm
      have hq : s.list.getD j 0 < 4294967296 := by
        obtain ⟨h1, h2, h3, h4, h5, h6, h7, h8⟩ := hs.out
        have : j = 0 ∨ j = 1 ∨ j = 2 ∨ j = 3 ∨ j = 4 ∨ j = 5 ∨ j = 6 ∨ j = 7 := by omega
        rcases this with rfl | rfl | rfl | rfl | rfl | rfl | rfl | rfl <;> assumption
      generalize s.list.getD j 0 = q at *
      have hz := Nat.le_trans hBs B1.out.size
      have hy : Hid ([(q : Int) / 16777216, (q : Int) / 65536 % 256, (q : Int) / 256 % 256, (q : Int) % 256] = asZ [q / 16777216 % 256, q / 65536 % 256, q / 256 % 256, q % 256]) := Lib.hid (by
        rw [show q / 16777216 % 256 = q / 16777216 from by omega]
        rfl)
      go_wp2_with (at_builtin; go_loud (refine wpList_append4 (.tmp 271) (.tmp 283) rfl rfl B _ (4 * j) ((outN s).take (4 * j)) (by rfl) O1 ((q : Int) / 16777216) ((q : Int) / 65536 % 256) ((q : Int) / 256 % 256) ((q : Int) % 256) [q / 16777216 % 256, q / 65536 % 256, q / 256 % 256, q % 256] hy (by rfl) (by omega) hz ?_); intro v6 w6 O6 B6)
      rw [hO.out] at O6
      clear O1 hc
      go_wp2
      go_roundw
      case rel => exact ⟨j + 1, by omega, by go_num, O6, Lib.hid (B1.out.trans B6.out)⟩
      case measure => simp [intOf]; omega
    · obtain rfl : j = 8 := by omega
      have ht : (outN s).take (4 * 8) = outN s := List.take_of_length_le (by rw [outN_length]; omega)
      rw [ht] at O1
      go_wp2
      exact HX.out _ _ _ _ _ _ _ _ _ _ _ _ _ _ _ _ _ _ _ _ _ _ O1 B1
end Go.Proofs.YtifljaandphkpaaDoor
