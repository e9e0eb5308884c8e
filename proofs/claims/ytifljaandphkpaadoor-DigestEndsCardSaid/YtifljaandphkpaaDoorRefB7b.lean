/-
  The document's Sha: a word of the schedule behind the sixteenth.
-/
import Derived.Test.YtifljaandphkpaaDoorRefA
import Derived.Test.YtifljaandphkpaaDoorDrawn
namespace Go.Proofs.YtifljaandphkpaaDoor
open Go.RowKit
set_option linter.unusedVariables false

theorem step_append1w {ops : Array Oper} {o : Oper} {a : Act} {w : World} {K : Act → World → Prop} {Q : Exit → Act → World → Prop} {E : Prop} (s x : Operand) (hgd : o.guard = none)
    (ho : o.op = .call { callee := .builtin .append, args := #[s, x], argTypes := #[48, 48] })
    (base : Nat) (v : Value) (n : Nat) (l : List Nat) (hs : a.eval s = v) (hown : Hid (w.ownsRow base 24 1 v n (cellsK .u32 l))) (y : Int) (yn : Nat) (hy : Hid (y = (yn : Int)))
    (hx : a.eval x = .slice (some ⟨w.heap.size, 0, none⟩) 1 1) (hb : n + 1 ≤ 1000000) (hbase : base ≤ w.heap.size)
    (hK : ∀ v' w', Hid (w'.ownsRow base 24 1 v' (n + 1) (cellsK .u32 (l ++ [yn]))) → Hid (Below base w w') → K (a.put o.dst v') w') :
    if Region.wanted o (yielded ops a.tmps) = true then Oper.wp Tryd.prog o a (w.alloc (.cells #[.int .u32 y] 24)) K Q else E := by
  have hw : Region.wanted o (yielded ops a.tmps) = true := by simp [Region.wanted, hgd]
  rw [if_pos hw]
  obtain ⟨i0, hi, hz0, hz1, hz2⟩ := info_parts info_u32
  have HB : Below base w (w.alloc (.cells #[.int .u32 y] 24)) := (Below.refl _ _).alloc hbase _
  obtain ⟨v', w', hrun, h1, h2, _⟩ := run_append_own (P := Tryd.prog) (w.alloc (.cells #[.int .u32 y] 24)) base 48 o.type 24 i0 (.int .u32 0) 1 4 Tryd.underlying48 hi hz0 hz1 hz2 rfl (by decide) v n _ (hown.out.alloc _) ⟨w.heap.size, 0, none⟩ 1 1 [.int .u32 y] rfl (new_cell w (.int .u32 y) 24) (by intro u hu; simp only [List.mem_cons, List.not_mem_nil, or_false] at hu; subst hu; rfl) (by unfold maxLen; omega) (by omega) (by simp; omega)
  unfold Oper.wp
  simp [execOp, ho, resolve, invoke, builtin, hs, hx, hrun, Result.andThen]
  refine hK v' w' (Lib.hid ?_) (Lib.hid (HB.grown h2 (by simp; omega) (own_block_ge hown.out)))
  rw [cellsK_append, show cellsK .u32 [yn] = [.int .u32 (yn : Int)] from rfl, ← hy.out]
  exact h1
set_option maxRecDepth 1000000 in
set_option maxHeartbeats 8000000 in
theorem ref_b7b (Q : Exit → Act → World → Prop) (hQ : ∀ c (a : Act) d v w, Q (.panic c) (a.put d v) w → Q (.panic c) a w) (g9 c9 m B : Nat) (S : List Nat) (hm : m < 48) (hSb : Hid (∀ i, S.getD i 0 < 4294967296)) (hS : Hid (S.getD (m + 16) 0 = addM (addM (addM (S.getD m 0) (sig0 (S.getD (m + 1) 0))) (S.getD (m + 9) 0)) (sig1 (S.getD (m + 14) 0)))) (hSl : Hid (S.length = 64)) (x0 x1 x2 x3 x4 x5 x6 x7 x8 x11 x12 x13 x14 x15 x16 x17 x18 x19 x20 x21 x22 x23 x24 x25 x26 x27 x28 x29 x30 x31 x32 x33 x34 x35 x36 x37 x38 x39 x40 x41 x42 x43 x44 x45 x46 x47 x48 x49 x50 x51 x52 x53 x54 x55 x56 x57 x58 x59 x60 x61 x62 x63 x64 x65 x66 x67 x68 x69 x70 x71 x72 x73 x74 x75 x76 x77 x78 x79 x80 x81 x82 x83 x84 x85 x86 x87 x88 x89 x90 x91 x92 x93 x94 x95 x96 x97 x98 x99 x100 x101 x102 x103 x104 x105 x106 x107 x108 x109 x110 x111 x112 x113 x114 x115 x116 x117 x118 x119 x120 x121 x122 x123 x124 x125 x126 x127 x128 x129 x130 x131 x132 x133 x134 x135 x136 x137 x138 x139 x140 x141 x142 x143 x144 x145 x146 x147 x148 x149 x150 x151 x152 x153 x154 x155 x156 x157 x158 x159 x160 x161 x162 x163 x164 x165 x166 x167 x168 x169 x170 x171 x172 x173 x174 x175 x176 x177 x178 x179 x180 x181 x182 x183 x184 x185 x186 x187 x188 x189 x190 x191 x192 x193 x194 x195 x196 x197 x198 x199 x200 x201 x202 x203 x204 x205 x206 x207 x208 x209 x210 x211 x212 x213 x214 x215 x216 x217 x218 x219 x220 x221 x222 x223 x224 x225 x226 x227 x228 x229 x230 x231 x232 x233 x234 x235 x236 x237 x238 x239 x240 x241 x242 x243 x244 x245 x246 x247 x248 x249 x250 x251 x252 x253 x254 x255 x256 x257 x258 x259 x260 x261 x262 x263 x264 x265 x266 x267 x268 x269 x270 x271 x272 x273 x274 x275 x276 x277 x278 x279 x280 x281 x282 x283 x284 x285 x286 : Value) (w : World) (hO : Hid (w.ownsRow B 24 1 (.slice (some ⟨g9, 0, none⟩) (m + 16) c9) (m + 16) (cellsK .u32 (S.take (m + 16))))) (hBs : B ≤ w.heap.size)
    (hexit : ∀ (y11 y12 y13 y14 y72 y73 y74 y75 y76 y77 y78 y79 y80 y81 y82 y83 y84 y85 y86 y87 y88 y89 y90 y91 y92 y93 y94 y95 y96 y97 y98 y99 y100 y101 y102 y103 y104 y105 y106 y107 y108 y109 y110 y111 y112 y113 y114 y115 y116 y117 y118 y119 y120 y121 y122 y123 y124 y125 y126 y127 y128 y129 y130 y131 y132 y133 y134 y135 y136 y137 y138 y139 y140 y141 y142 y143 y144 y145 y146 y147 y148 y149 y150 y151 y152 : Value) (v' : Value) (w' : World), Hid (w'.ownsRow B 24 1 v' (m + 16 + 1) (cellsK .u32 (S.take (m + 16 + 1)))) → Hid (Below B w w') → Q .normal ⟨#[x0, x1, x2, x3, x4, x5, x6, x7, x8, v', (.int .i64 ((m : Int) + 16)), y11, y12, y13, y14, x15, x16, x17, x18, x19, x20, x21, x22, x23, x24, x25, x26, x27, x28, x29, x30, x31, x32, x33, x34, x35, x36, x37, x38, x39, x40, x41, x42, x43, x44, x45, x46, x47, x48, x49, x50, x51, x52, x53, x54, x55, x56, x57, x58, x59, x60, x61, x62, x63, x64, x65, x66, x67, x68, x69, x70, x71, y72, y73, y74, y75, y76, y77, y78, y79, y80, y81, y82, y83, y84, y85, y86, y87, y88, y89, y90, y91, y92, y93, y94, y95, y96, y97, y98, y99, y100, y101, y102, y103, y104, y105, y106, y107, y108, y109, y110, y111, y112, y113, y114, y115, y116, y117, y118, y119, y120, y121, y122, y123, y124, y125, y126, y127, y128, y129, y130, y131, y132, y133, y134, y135, y136, y137, y138, y139, y140, y141, y142, y143, y144, y145, y146, y147, y148, y149, y150, y151, y152, x153, x154, x155, x156, x157, x158, x159, x160, x161, x162, x163, x164, x165, x166, x167, x168, x169, x170, x171, x172, x173, x174, x175, x176, x177, x178, x179, x180, x181, x182, x183, x184, x185, x186, x187, x188, x189, x190, x191, x192, x193, x194, x195, x196, x197, x198, x199, x200, x201, x202, x203, x204, x205, x206, x207, x208, x209, x210, x211, x212, x213, x214, x215, x216, x217, x218, x219, x220, x221, x222, x223, x224, x225, x226, x227, x228, x229, x230, x231, x232, x233, x234, x235, x236, x237, x238, x239, x240, x241, x242, x243, x244, x245, x246, x247, x248, x249, x250, x251, x252, x253, x254, x255, x256, x257, x258, x259, x260, x261, x262, x263, x264, x265, x266, x267, x268, x269, x270, x271, x272, x273, x274, x275, x276, x277, x278, x279, x280, x281, x282, x283, x284, x285, x286], []⟩ w') :
    Code.wp Tryd.prog codeB7 Q ⟨#[x0, x1, x2, x3, x4, x5, x6, x7, x8, (.slice (some ⟨g9, 0, none⟩) (m + 16) c9), (.int .i64 ((m : Int) + 16)), x11, x12, x13, x14, x15, x16, x17, x18, x19, x20, x21, x22, x23, x24, x25, x26, x27, x28, x29, x30, x31, x32, x33, x34, x35, x36, x37, x38, x39, x40, x41, x42, x43, x44, x45, x46, x47, x48, x49, x50, x51, x52, x53, x54, x55, x56, x57, x58, x59, x60, x61, x62, x63, x64, x65, x66, x67, x68, x69, x70, x71, x72, x73, x74, x75, x76, x77, x78, x79, x80, x81, x82, x83, x84, x85, x86, x87, x88, x89, x90, x91, x92, x93, x94, x95, x96, x97, x98, x99, x100, x101, x102, x103, x104, x105, x106, x107, x108, x109, x110, x111, x112, x113, x114, x115, x116, x117, x118, x119, x120, x121, x122, x123, x124, x125, x126, x127, x128, x129, x130, x131, x132, x133, x134, x135, x136, x137, x138, x139, x140, x141, x142, x143, x144, x145, x146, x147, x148, x149, x150, x151, x152, x153, x154, x155, x156, x157, x158, x159, x160, x161, x162, x163, x164, x165, x166, x167, x168, x169, x170, x171, x172, x173, x174, x175, x176, x177, x178, x179, x180, x181, x182, x183, x184, x185, x186, x187, x188, x189, x190, x191, x192, x193, x194, x195, x196, x197, x198, x199, x200, x201, x202, x203, x204, x205, x206, x207, x208, x209, x210, x211, x212, x213, x214, x215, x216, x217, x218, x219, x220, x221, x222, x223, x224, x225, x226, x227, x228, x229, x230, x231, x232, x233, x234, x235, x236, x237, x238, x239, x240, x241, x242, x243, x244, x245, x246, x247, x248, x249, x250, x251, x252, x253, x254, x255, x256, x257, x258, x259, x260, x261, x262, x263, x264, x265, x266, x267, x268, x269, x270, x271, x272, x273, x274, x275, x276, x277, x278, x279, x280, x281, x282, x283, x284, x285, x286], []⟩ w := by
  conv => arg 2; whnf
  have HX := Lib.hid hexit
  clear hexit
  have tk : ∀ i, i < m + 16 → (S.take (m + 16)).getD i 0 = S.getD i 0 := fun i hi => by
    rw [List.getD_eq_getElem?_getD, List.getElem?_take, if_pos hi, List.getD_eq_getElem?_getD]
  have hc0 := own_cellW hO.out m (by omega)
  have hc1 := own_cellW hO.out (m + 1) (by omega)
  have hc9 := own_cellW hO.out (m + 9) (by omega)
  have hc14 := own_cellW hO.out (m + 14) (by omega)
  rw [tk _ (by omega)] at hc0 hc1 hc9 hc14
  have hx0 := hSb.out m
  have hx1 := hSb.out (m + 1)
  have hx9 := hSb.out (m + 9)
  have hx14 := hSb.out (m + 14)
  have hnx : Hid (S.take (m + 16) ++ [S.getD (m + 16) 0] = S.take (m + 16 + 1)) := Lib.hid (take_succ_getDN (by rw [hSl.out]; omega)).symm
  clear tk
  generalize S.getD (m + 16) 0 = nx at *
  generalize S.getD m 0 = x0 at *
  generalize S.getD (m + 1) 0 = x1 at *
  generalize S.getD (m + 9) 0 = x9 at *
  generalize S.getD (m + 14) 0 = x14 at *
  have hmi : ¬ (m : Int) + 16 < 16 := by omega
  go_upto_region 26 with fail
  have e1 : IntKind.i64.wrap ((m : Int) + 16 - 15) = (m : Int) + 1 := by rw [IntWalk.i64_in _ (by omega)]; omega
  have e2 : IntKind.i64.wrap ((m : Int) + 16 - 2) = (m : Int) + 14 := by rw [IntWalk.i64_in _ (by omega)]; omega
  have n1 : ((m : Int) + 1).toNat = m + 1 := by omega
  have n2 : ((m : Int) + 14).toNat = m + 14 := by omega
  have p1 : (0 : Int) ≤ (m : Int) + 1 := by omega
  have p2 : (0 : Int) ≤ (m : Int) + 14 := by omega
  have l1 : (m : Int) + 1 < (m : Int) + 16 := by omega
  have l2 : (m : Int) + 14 < (m : Int) + 16 := by omega
  have b1 := xor_sig0 x1 hx1
  have b2 := xor_sig1 x14 hx14
  go_big_quiet ((first | (go_at_call 25; with_reducible exact Calls.quiet_of (rdown_7 x1 hx1 _)) | (go_at_call 25; with_reducible exact Calls.quiet_of (rdown_18 x1 hx1 _))))
  have c0 : (w.drewN nq).cell? _ = _ := hc0
  have c9_ : (w.drewN nq).cell? _ = _ := hc9
  have c14 : (w.drewN nq).cell? _ = _ := hc14
  have O2 : Hid ((w.drewN nq).ownsRow B 24 1 (.slice (some ⟨g9, 0, none⟩) (m + 16) c9) (m + 16) (cellsK .u32 (S.take (m + 16)))) := hO
  have BW2 := Lib.hid (below_drewN (Below.refl B w) nq)
  have hs2 : B ≤ (w.drewN nq).heap.size := hBs
  clear hc0 hc1 hc9 hc14
  generalize w.drewN nq = w2 at *
  go_wp2
  go_big_quiet ((first | (go_at_call 25; with_reducible exact Calls.quiet_of (rdown_17 x14 hx14 _)) | (go_at_call 25; with_reducible exact Calls.quiet_of (rdown_19 x14 hx14 _))))
  have d0 : (w2.drewN nq).cell? _ = _ := c0
  have d9 : (w2.drewN nq).cell? _ = _ := c9_
  have O3 : Hid ((w2.drewN nq).ownsRow B 24 1 (.slice (some ⟨g9, 0, none⟩) (m + 16) c9) (m + 16) (cellsK .u32 (S.take (m + 16)))) := O2
  have BW3 := Lib.hid (below_drewN BW2.out nq)
  have hs3 : B ≤ (w2.drewN nq).heap.size := hs2
  clear c0 c9_ c14 O2 BW2 e1 e2 n1 n2 p1 p2 l1 l2 b1 b2 hs2
  generalize w2.drewN nq = w3 at *
  generalize sig0 x1 = sa at *
  generalize sig1 x14 = sb at *
  go_wp2
  have e1 : IntKind.i64.wrap ((m : Int) + 16 - 16) = (m : Int) := by rw [IntWalk.i64_in _ (by omega)]; omega
  have e2 : IntKind.i64.wrap ((m : Int) + 16 - 7) = (m : Int) + 9 := by rw [IntWalk.i64_in _ (by omega)]; omega
  have n1 : ((m : Int) + 9).toNat = m + 9 := by omega
  have p1 : (0 : Int) ≤ (m : Int) + 9 := by omega
  have p3 : (0 : Int) ≤ (m : Int) := by omega
  have l1 : (m : Int) + 9 < (m : Int) + 16 := by omega
  have l3 : (m : Int) < (m : Int) + 16 := by omega
  have q1 : IntKind.u32.wrap ((x0 : Int) + (sa : Int)) = ((addM x0 sa : Nat) : Int) := wrap_add x0 sa
  have q2 : IntKind.u32.wrap (((addM x0 sa : Nat) : Int) + (x9 : Int)) = ((addM (addM x0 sa) x9 : Nat) : Int) := wrap_add _ _
  have q3 : IntKind.u32.wrap (((addM (addM x0 sa) x9 : Nat) : Int) + (sb : Int)) = (nx : Int) := by rw [hS.out]; exact wrap_add _ _
  have e0 : IntKind.i64.wrap (m : Int) = (m : Int) := IntWalk.i64_in _ (by omega)
  have e9 : IntKind.i64.wrap ((m : Int) + 9) = (m : Int) + 9 := IntWalk.i64_in _ (by omega)
  have q1' := wrap_add' x0 sa
  have q2' := wrap_add' (addM x0 sa) x9
  have q3' : (((addM (addM x0 sa) x9 : Nat) : Int) + (sb : Int)) % 4294967296 = (nx : Int) := by rw [hS.out]; exact wrap_add' _ _
  refine wp_region_held_drew (S := fun _ => True) (by kernel_rfl) trivial (fun _ => ?_)
  have c0 : w3.drew.cell? _ = _ := d0
  have c9_ : w3.drew.cell? _ = _ := d9
  have O4 : Hid (w3.drew.ownsRow B 24 1 (.slice (some ⟨g9, 0, none⟩) (m + 16) c9) (m + 16) (cellsK .u32 (S.take (m + 16)))) := O3
  have BW4 := Lib.hid BW3.out.drew
  have hs4 : B ≤ w3.drew.heap.size := hs3
  clear d0 d9 O3 BW3 hs3
  generalize w3.drew = w4 at *
  refine takeH 0 135 (v := (.slice (some ⟨g9, 0, none⟩) (m + 16) c9)) rfl rfl (by kernel_rfl) (by kernel_rfl) (by kernel_rfl) (fun _ _ _ h => hQ _ _ _ _ _ h) (by rfl) ?_ trivial ?_
  · intro w hSw
    go_simp
  try simp only [Act.put, List.setIfInBounds_toArray, List.set_cons_zero, List.set_cons_succ]
  refine takeH 1 136 (v := (.slice (some ⟨g9, 0, none⟩) (m + 16) c9)) rfl rfl (by kernel_rfl) (by kernel_rfl) (by kernel_rfl) (fun _ _ _ h => hQ _ _ _ _ _ h) (by rfl) ?_ trivial ?_
  · intro w hSw
    go_simp
  try simp only [Act.put, List.setIfInBounds_toArray, List.set_cons_zero, List.set_cons_succ]
  refine takeH 2 137 (v := (.int .i64 ((m : Int) + 16))) rfl rfl (by kernel_rfl) (by kernel_rfl) (by kernel_rfl) (fun _ _ _ h => hQ _ _ _ _ _ h) (by rfl) ?_ trivial ?_
  · intro w hSw
    go_simp
  try simp only [Act.put, List.setIfInBounds_toArray, List.set_cons_zero, List.set_cons_succ]
  refine takeH 6 141 (v := (.int .u32 (sa : Int))) rfl rfl (by kernel_rfl) (by kernel_rfl) (by kernel_rfl) (fun _ _ _ h => hQ _ _ _ _ _ h) (by rfl) ?_ trivial ?_
  · intro w hSw
    go_simp
  try simp only [Act.put, List.setIfInBounds_toArray, List.set_cons_zero, List.set_cons_succ]
  refine takeH 8 143 (v := (.slice (some ⟨g9, 0, none⟩) (m + 16) c9)) rfl rfl (by kernel_rfl) (by kernel_rfl) (by kernel_rfl) (fun _ _ _ h => hQ _ _ _ _ _ h) (by rfl) ?_ trivial ?_
  · intro w hSw
    go_simp
  try simp only [Act.put, List.setIfInBounds_toArray, List.set_cons_zero, List.set_cons_succ]
  refine takeH 9 144 (v := (.int .i64 ((m : Int) + 16))) rfl rfl (by kernel_rfl) (by kernel_rfl) (by kernel_rfl) (fun _ _ _ h => hQ _ _ _ _ _ h) (by rfl) ?_ trivial ?_
  · intro w hSw
    go_simp
  try simp only [Act.put, List.setIfInBounds_toArray, List.set_cons_zero, List.set_cons_succ]
  refine takeH 14 149 (v := (.int .u32 (sb : Int))) rfl rfl (by kernel_rfl) (by kernel_rfl) (by kernel_rfl) (fun _ _ _ h => hQ _ _ _ _ _ h) (by rfl) ?_ trivial ?_
  · intro w hSw
    go_simp
  try simp only [Act.put, List.setIfInBounds_toArray, List.set_cons_zero, List.set_cons_succ]
  refine takeH 3 138 (v := (.int .i64 (m : Int))) rfl rfl (by kernel_rfl) (by kernel_rfl) (by kernel_rfl) (fun _ _ _ h => hQ _ _ _ _ _ h) (by rfl) ?_ trivial ?_
  · intro w hSw
    go_simp
  try simp only [Act.put, List.setIfInBounds_toArray, List.set_cons_zero, List.set_cons_succ]
  refine takeH 10 145 (v := (.int .i64 ((m : Int) + 9))) rfl rfl (by kernel_rfl) (by kernel_rfl) (by kernel_rfl) (fun _ _ _ h => hQ _ _ _ _ _ h) (by rfl) ?_ trivial ?_
  · intro w hSw
    go_simp
  try simp only [Act.put, List.setIfInBounds_toArray, List.set_cons_zero, List.set_cons_succ]
  refine takeH 4 139 (v := (.pointer (some ⟨g9, m, none⟩))) rfl rfl (by kernel_rfl) (by kernel_rfl) (by kernel_rfl) (fun _ _ _ h => hQ _ _ _ _ _ h) (by rfl) ?_ trivial ?_
  · intro w hSw
    go_simp
  try simp only [Act.put, List.setIfInBounds_toArray, List.set_cons_zero, List.set_cons_succ]
  refine takeH 11 146 (v := (.pointer (some ⟨g9, m + 9, none⟩))) rfl rfl (by kernel_rfl) (by kernel_rfl) (by kernel_rfl) (fun _ _ _ h => hQ _ _ _ _ _ h) (by rfl) ?_ trivial ?_
  · intro w hSw
    go_simp
  try simp only [Act.put, List.setIfInBounds_toArray, List.set_cons_zero, List.set_cons_succ]
  refine wpAnyH_ready (rs := [5, 12]) (by kernel_rfl) (by simp) ?_
  refine AllReadyH.cons rfl (fun K hK => ?_) (AllReadyH.cons rfl (fun K hK => ?_) AllReadyH.nil)
  · go_simp
    refine hK.out _ _ trivial (fun _ => ?_)
    clear hK K
    try simp only [Act.put, List.setIfInBounds_toArray, List.set_cons_zero, List.set_cons_succ]
    refine takeH 7 142 (v := (.int .u32 ((addM x0 sa : Nat) : Int))) rfl rfl (by kernel_rfl) (by kernel_rfl) (by kernel_rfl) (fun _ _ _ h => hQ _ _ _ _ _ h) (by rfl) ?_ trivial ?_
    · intro w hSw
      go_simp
    try simp only [Act.put, List.setIfInBounds_toArray, List.set_cons_zero, List.set_cons_succ]
    refine wpAnyH_ready (rs := [12]) (by kernel_rfl) (by simp) ?_
    refine AllReadyH.cons rfl (fun K hK => ?_) AllReadyH.nil
    go_simp
    refine hK.out _ _ trivial (fun _ => ?_)
    clear hK K
    try simp only [Act.put, List.setIfInBounds_toArray, List.set_cons_zero, List.set_cons_succ]
    refine takeH 13 148 (v := (.int .u32 ((addM (addM x0 sa) x9 : Nat) : Int))) rfl rfl (by kernel_rfl) (by kernel_rfl) (by kernel_rfl) (fun _ _ _ h => hQ _ _ _ _ _ h) (by rfl) ?_ trivial ?_
    · intro w hSw
      go_simp
    try simp only [Act.put, List.setIfInBounds_toArray, List.set_cons_zero, List.set_cons_succ]
    refine takeH 15 150 (v := (.int .u32 (nx : Int))) rfl rfl (by kernel_rfl) (by kernel_rfl) (by kernel_rfl) (fun _ _ _ h => hQ _ _ _ _ _ h) (by rfl) ?_ trivial ?_
    · intro w hSw
      go_simp
    try simp only [Act.put, List.setIfInBounds_toArray, List.set_cons_zero, List.set_cons_succ]
    refine wpAnyH_ready (rs := [16]) (by kernel_rfl) (by simp) ?_
    refine AllReadyH.cons rfl (fun K hK => ?_) AllReadyH.nil
    go_simp
    refine hK.out _ _ trivial (fun _ => ?_)
    clear hK K
    try simp only [Act.put, List.setIfInBounds_toArray, List.set_cons_zero, List.set_cons_succ]
    have yb : Hid ((nx : Int) = (nx : Int)) := Lib.hid rfl
    refine wpAnyH_ready (rs := [17]) (by kernel_rfl) (by simp) ?_
    refine AllReadyH.cons rfl (fun K hK => ?_) AllReadyH.nil
    refine step_append1w (.tmp 135) (.tmp 151) rfl rfl B (.slice (some ⟨g9, 0, none⟩) (m + 16) c9) (m + 16) (S.take (m + 16)) (by rfl) O4 (nx : Int) nx yb (by rfl) (by omega) hs4 ?_
    intro v6 w6 O6 B6
    refine hK.out _ _ trivial (fun _ => ?_)
    clear hK K
    simp only [Act.put, List.setIfInBounds_toArray]
    refine takeH 18 9 (v := v6) rfl rfl (by kernel_rfl) (by kernel_rfl) (by kernel_rfl) (fun _ _ _ h => hQ _ _ _ _ _ h) (by rfl) ?_ trivial ?_
    · intro w hSw
      go_simp
    refine wpAnyH_done (by kernel_rfl) ?_ _
    rw [hnx.out] at O6
    exact HX.out _ _ _ _ _ _ _ _ _ _ _ _ _ _ _ _ _ _ _ _ _ _ _ _ _ _ _ _ _ _ _ _ _ _ _ _ _ _ _ _ _ _ _ _ _ _ _ _ _ _ _ _ _ _ _ _ _ _ _ _ _ _ _ _ _ _ _ _ _ _ _ _ _ _ _ _ _ _ _ _ _ _ _ _ _ v6 w6 O6 (Lib.hid (BW4.out.trans B6.out))
  · go_simp
    refine hK.out _ _ trivial (fun _ => ?_)
    clear hK K
    try simp only [Act.put, List.setIfInBounds_toArray, List.set_cons_zero, List.set_cons_succ]
    refine wpAnyH_ready (rs := [5]) (by kernel_rfl) (by simp) ?_
    refine AllReadyH.cons rfl (fun K hK => ?_) AllReadyH.nil
    go_simp
    refine hK.out _ _ trivial (fun _ => ?_)
    clear hK K
    try simp only [Act.put, List.setIfInBounds_toArray, List.set_cons_zero, List.set_cons_succ]
    refine takeH 7 142 (v := (.int .u32 ((addM x0 sa : Nat) : Int))) rfl rfl (by kernel_rfl) (by kernel_rfl) (by kernel_rfl) (fun _ _ _ h => hQ _ _ _ _ _ h) (by rfl) ?_ trivial ?_
    · intro w hSw
      go_simp
    try simp only [Act.put, List.setIfInBounds_toArray, List.set_cons_zero, List.set_cons_succ]
    refine takeH 13 148 (v := (.int .u32 ((addM (addM x0 sa) x9 : Nat) : Int))) rfl rfl (by kernel_rfl) (by kernel_rfl) (by kernel_rfl) (fun _ _ _ h => hQ _ _ _ _ _ h) (by rfl) ?_ trivial ?_
    · intro w hSw
      go_simp
    try simp only [Act.put, List.setIfInBounds_toArray, List.set_cons_zero, List.set_cons_succ]
    refine takeH 15 150 (v := (.int .u32 (nx : Int))) rfl rfl (by kernel_rfl) (by kernel_rfl) (by kernel_rfl) (fun _ _ _ h => hQ _ _ _ _ _ h) (by rfl) ?_ trivial ?_
    · intro w hSw
      go_simp
    try simp only [Act.put, List.setIfInBounds_toArray, List.set_cons_zero, List.set_cons_succ]
    refine wpAnyH_ready (rs := [16]) (by kernel_rfl) (by simp) ?_
    refine AllReadyH.cons rfl (fun K hK => ?_) AllReadyH.nil
    go_simp
    refine hK.out _ _ trivial (fun _ => ?_)
    clear hK K
    try simp only [Act.put, List.setIfInBounds_toArray, List.set_cons_zero, List.set_cons_succ]
    have yb : Hid ((nx : Int) = (nx : Int)) := Lib.hid rfl
    refine wpAnyH_ready (rs := [17]) (by kernel_rfl) (by simp) ?_
    refine AllReadyH.cons rfl (fun K hK => ?_) AllReadyH.nil
    refine step_append1w (.tmp 135) (.tmp 151) rfl rfl B (.slice (some ⟨g9, 0, none⟩) (m + 16) c9) (m + 16) (S.take (m + 16)) (by rfl) O4 (nx : Int) nx yb (by rfl) (by omega) hs4 ?_
    intro v6 w6 O6 B6
    refine hK.out _ _ trivial (fun _ => ?_)
    clear hK K
    simp only [Act.put, List.setIfInBounds_toArray]
    refine takeH 18 9 (v := v6) rfl rfl (by kernel_rfl) (by kernel_rfl) (by kernel_rfl) (fun _ _ _ h => hQ _ _ _ _ _ h) (by rfl) ?_ trivial ?_
    · intro w hSw
      go_simp
    refine wpAnyH_done (by kernel_rfl) ?_ _
    rw [hnx.out] at O6
    exact HX.out _ _ _ _ _ _ _ _ _ _ _ _ _ _ _ _ _ _ _ _ _ _ _ _ _ _ _ _ _ _ _ _ _ _ _ _ _ _ _ _ _ _ _ _ _ _ _ _ _ _ _ _ _ _ _ _ _ _ _ _ _ _ _ _ _ _ _ _ _ _ _ _ _ _ _ _ _ _ _ _ _ _ _ _ _ v6 w6 O6 (Lib.hid (BW4.out.trans B6.out))
end Go.Proofs.YtifljaandphkpaaDoor
