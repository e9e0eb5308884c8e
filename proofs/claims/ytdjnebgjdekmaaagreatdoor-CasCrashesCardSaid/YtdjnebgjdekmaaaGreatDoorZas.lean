/- The document's Sha: laws for its walk, and its code's blocks. -/
import Derived.Test.YtdjnebgjdekmaaaGreatDoorZam
import Derived.Test.YtdjnebgjdekmaaaGreatDoorZaq
import Derived.Test.YtdjnebgjdekmaaaGreatDoorZak
import Derived.StillTailTactics
import Derived.Deep.Cut
import Derived.Deep.CutRange
import Derived.Deep.CutBlock
import Derived.Deep.QuietTactic
import Derived.BigQuiet
import Derived.Test.YtdjnebgjdekmaaaGreatDoorZaa
set_option linter.unusedVariables false
namespace Go.Proofs.YtdjnebgjdekmaaaGreatDoor
open Go.RowKit
theorem info_u32 : (Tryz.prog.info? 138).map (fun i => (i.zero, i.size, i.bytes)) = some (some (.int .u32 0), 1, 4) := by kernel_rfl
theorem tab24 : (#[.int .u32 1116352408, .int .u32 1899447441, .int .u32 3049323471, .int .u32 3921009573, .int .u32 961987163, .int .u32 1508970993, .int .u32 2453635748, .int .u32 2870763221, .int .u32 3624381080, .int .u32 310598401, .int .u32 607225278, .int .u32 1426881987, .int .u32 1925078388, .int .u32 2162078206, .int .u32 2614888103, .int .u32 3248222580, .int .u32 3835390401, .int .u32 4022224774, .int .u32 264347078, .int .u32 604807628, .int .u32 770255983, .int .u32 1249150122, .int .u32 1555081692, .int .u32 1996064986, .int .u32 2554220882, .int .u32 2821834349, .int .u32 2952996808, .int .u32 3210313671, .int .u32 3336571891, .int .u32 3584528711, .int .u32 113926993, .int .u32 338241895, .int .u32 666307205, .int .u32 773529912, .int .u32 1294757372, .int .u32 1396182291, .int .u32 1695183700, .int .u32 1986661051, .int .u32 2177026350, .int .u32 2456956037, .int .u32 2730485921, .int .u32 2820302411, .int .u32 3259730800, .int .u32 3345764771, .int .u32 3516065817, .int .u32 3600352804, .int .u32 4094571909, .int .u32 275423344, .int .u32 430227734, .int .u32 506948616, .int .u32 659060556, .int .u32 883997877, .int .u32 958139571, .int .u32 1322822218, .int .u32 1537002063, .int .u32 1747873779, .int .u32 1955562222, .int .u32 2024104815, .int .u32 2227730452, .int .u32 2361852424, .int .u32 2428436474, .int .u32 2756734187, .int .u32 3204031479, .int .u32 3329325298] : Array Value) = (cellsK .u32 rootsN).toArray := by kernel_rfl
theorem own_formN {w : World} {B n : Nat} {e : TypeId} {v : Value} {xs : List Value} (h : w.ownsRow B e 1 v n xs) (hn : 0 < n) : ∃ g c, v = .slice (some ⟨g, 0, none⟩) n c ∧ B ≤ g ∧ n ≤ c := by
 rcases h.2 with ⟨_, h0⟩ | ⟨g, cap, cur, rfl, hb, hg, hnc, _⟩
 · omega
 · exact ⟨g, cap, rfl, hb, hnc⟩
theorem wpList_append1 {ops : Array Oper} {rest : List Oper} {o : Oper} {a : Act} {w : World} {Q : Exit → Act → World → Prop} (s x : Operand) (hgd : o.guard = none)
 (ho : o.op = .call { callee := .builtin .append, args := #[s, x], argTypes := #[40, 40] })
 (base : Nat) (v : Value) (n : Nat) (l : List Nat) (hs : a.eval s = v) (hown : Hid (w.ownsRow base 5 1 v n (cellsZ (asZ l)))) (y : Int) (yn : Nat) (hy : Hid (y = (yn : Int)))
 (hx : a.eval x = .slice (some ⟨w.heap.size, 0, none⟩) 1 1) (hb : n + 1 ≤ 1000000) (hbase : base ≤ w.heap.size)
 (h : ∀ v' w', Hid (w'.ownsRow base 5 1 v' (n + 1) (cellsZ (asZ (l ++ [yn])))) → Hid (Below base w w') → wpList Tryz.prog ops Q rest (a.put o.dst v') w') : wpList Tryz.prog ops Q (o :: rest) a (w.alloc (.cells #[.int .u8 y] 5)) := by
 obtain ⟨i0, hi, hz0, hz1, hz2⟩ := info_parts info_u8
 have HB : Below base w (w.alloc (.cells #[.int .u8 y] 5)) := (Below.refl _ _).alloc hbase _
 refine wpList_append_own _ hgd s x 40 ho base 5 i0 (.int .u8 0) 1 1 Tryz.underlying40 hi hz0 hz1 hz2 rfl (by decide) v n _ hs (hown.out.alloc _) ⟨w.heap.size, 0, none⟩ 1 1 [.int .u8 y] hx rfl (new_cell w (.int .u8 y) 5) (one_u8 [y]) (by unfold maxLen; omega) (by omega) (by simp; omega) ?_
 intro v' w' h1 h2 h3
 refine h v' w' ?_ (HB.grown h2 (by simp; omega) (own_block_ge hown.out))
 rw [cells_snoc, ← hy.out]
 exact h1
theorem rdown_2 (x : Nat) (hx : x < 4294967296) (w : World) : Calls Tryz.prog 79 #[.int .u32 x, .int .i64 2] w fun e w' => e = .returned (.int .u32 (dn x 2)) ∧ ∃ n, w' = w.drewN n := rdown_any x 2 (.inl rfl) hx w
theorem rdown_6 (x : Nat) (hx : x < 4294967296) (w : World) : Calls Tryz.prog 79 #[.int .u32 x, .int .i64 6] w fun e w' => e = .returned (.int .u32 (dn x 6)) ∧ ∃ n, w' = w.drewN n := rdown_any x 6 (.inr (.inl rfl)) hx w
theorem rdown_7 (x : Nat) (hx : x < 4294967296) (w : World) : Calls Tryz.prog 79 #[.int .u32 x, .int .i64 7] w fun e w' => e = .returned (.int .u32 (dn x 7)) ∧ ∃ n, w' = w.drewN n := rdown_any x 7 (.inr (.inr (.inl rfl))) hx w
theorem rdown_11 (x : Nat) (hx : x < 4294967296) (w : World) : Calls Tryz.prog 79 #[.int .u32 x, .int .i64 11] w fun e w' => e = .returned (.int .u32 (dn x 11)) ∧ ∃ n, w' = w.drewN n := rdown_any x 11 (.inr (.inr (.inr (.inl rfl)))) hx w
theorem rdown_13 (x : Nat) (hx : x < 4294967296) (w : World) : Calls Tryz.prog 79 #[.int .u32 x, .int .i64 13] w fun e w' => e = .returned (.int .u32 (dn x 13)) ∧ ∃ n, w' = w.drewN n := rdown_any x 13 (.inr (.inr (.inr (.inr (.inl rfl))))) hx w
theorem rdown_17 (x : Nat) (hx : x < 4294967296) (w : World) : Calls Tryz.prog 79 #[.int .u32 x, .int .i64 17] w fun e w' => e = .returned (.int .u32 (dn x 17)) ∧ ∃ n, w' = w.drewN n := rdown_any x 17 (.inr (.inr (.inr (.inr (.inr (.inl rfl)))))) hx w
theorem rdown_18 (x : Nat) (hx : x < 4294967296) (w : World) : Calls Tryz.prog 79 #[.int .u32 x, .int .i64 18] w fun e w' => e = .returned (.int .u32 (dn x 18)) ∧ ∃ n, w' = w.drewN n := rdown_any x 18 (.inr (.inr (.inr (.inr (.inr (.inr (.inl rfl))))))) hx w
theorem rdown_19 (x : Nat) (hx : x < 4294967296) (w : World) : Calls Tryz.prog 79 #[.int .u32 x, .int .i64 19] w fun e w' => e = .returned (.int .u32 (dn x 19)) ∧ ∃ n, w' = w.drewN n := rdown_any x 19 (.inr (.inr (.inr (.inr (.inr (.inr (.inr (.inl rfl)))))))) hx w
theorem rdown_22 (x : Nat) (hx : x < 4294967296) (w : World) : Calls Tryz.prog 79 #[.int .u32 x, .int .i64 22] w fun e w' => e = .returned (.int .u32 (dn x 22)) ∧ ∃ n, w' = w.drewN n := rdown_any x 22 (.inr (.inr (.inr (.inr (.inr (.inr (.inr (.inr (.inl rfl))))))))) hx w
theorem rdown_25 (x : Nat) (hx : x < 4294967296) (w : World) : Calls Tryz.prog 79 #[.int .u32 x, .int .i64 25] w fun e w' => e = .returned (.int .u32 (dn x 25)) ∧ ∃ n, w' = w.drewN n := rdown_any x 25 (.inr (.inr (.inr (.inr (.inr (.inr (.inr (.inr (.inr (rfl)))))))))) hx w
theorem RowN.belowAt {w w' : World} {g off n B : Nat} {l : List Nat} (h : RowN w (some ⟨g, off, none⟩) n l) (hb : Below B w w') (hg : g < B) : RowN w' (some ⟨g, off, none⟩) n l := by
 refine ⟨h.1, h.2.1, fun hn => ?_⟩
 obtain ⟨b, o, e, hlt, hc⟩ := h.2.2 hn
 injection e with e
 injection e with e1 e2
 subst e1
 subst e2
 exact ⟨_, _, rfl, Nat.lt_of_lt_of_le hlt hb.size, fun i hi => (hb.cell (p := ⟨g, off + i, none⟩) hg).trans (hc i hi)⟩
theorem Row.belowAt {w w' : World} {g B : Nat} {k : IntKind} {T : TypeId} {ns : List Nat} (h : Row w g k T ns) (hb : Below B w w') (hg : g < B) : Row w' g k T ns := (hb.block g hg).trans h
theorem RowN.blk {w : World} {g off n : Nat} {l : List Nat} (h : RowN w (some ⟨g, off, none⟩) n l) (hn : 0 < n) : g < w.heap.size := by
 obtain ⟨b, o, e, hlt, hc⟩ := h.2.2 hn
 injection e with e
 injection e with e1 e2
 subst e1
 exact hlt
theorem own_cellW {w : World} {B g n c : Nat} {l : List Nat} (h : w.ownsRow B 138 1 (.slice (some ⟨g, 0, none⟩) n c) n (cellsK .u32 l)) (j : Nat) (hj : j < n) : w.cell? ⟨g, j, none⟩ = some (.int .u32 ((l.getD j 0 : Nat) : Int)) := by
 rw [h.cellAt j (by omega)]
 have hl : j < l.length := by
  have := h.1
  rw [cellsK_length] at this
  omega
 simp [cellsK, hl, List.getD]
theorem wpList_append1w {ops : Array Oper} {rest : List Oper} {o : Oper} {a : Act} {w : World} {Q : Exit → Act → World → Prop} (s x : Operand) (hgd : o.guard = none)
 (ho : o.op = .call { callee := .builtin .append, args := #[s, x], argTypes := #[139, 139] })
 (base : Nat) (v : Value) (n : Nat) (l : List Nat) (hs : a.eval s = v) (hown : Hid (w.ownsRow base 138 1 v n (cellsK .u32 l))) (y : Int) (yn : Nat) (hy : Hid (y = (yn : Int)))
 (hx : a.eval x = .slice (some ⟨w.heap.size, 0, none⟩) 1 1) (hb : n + 1 ≤ 1000000) (hbase : base ≤ w.heap.size)
 (h : ∀ v' w', Hid (w'.ownsRow base 138 1 v' (n + 1) (cellsK .u32 (l ++ [yn]))) → Hid (Below base w w') → wpList Tryz.prog ops Q rest (a.put o.dst v') w') : wpList Tryz.prog ops Q (o :: rest) a (w.alloc (.cells #[.int .u32 y] 138)) := by
 obtain ⟨i0, hi, hz0, hz1, hz2⟩ := info_parts info_u32
 have HB : Below base w (w.alloc (.cells #[.int .u32 y] 138)) := (Below.refl _ _).alloc hbase _
 refine wpList_append_own _ hgd s x 139 ho base 138 i0 (.int .u32 0) 1 4 Tryz.underlying139 hi hz0 hz1 hz2 rfl (by decide) v n _ hs (hown.out.alloc _) ⟨w.heap.size, 0, none⟩ 1 1 [.int .u32 y] hx rfl (new_cell w (.int .u32 y) 138) (by intro u hu; simp only [List.mem_cons, List.not_mem_nil, or_false] at hu; subst hu; rfl) (by unfold maxLen; omega) (by omega) (by simp; omega) ?_
 intro v' w' h1 h2 h3
 refine h v' w' ?_ (HB.grown h2 (by simp; omega) (own_block_ge hown.out))
 rw [cellsK_append, show cellsK .u32 [yn] = [.int .u32 (yn : Int)] from rfl, ← hy.out]
 exact h1
theorem sum24 : (#[.int .u32 1779033703, .int .u32 3144134277, .int .u32 1013904242, .int .u32 2773480762, .int .u32 1359893119, .int .u32 2600822924, .int .u32 528734635, .int .u32 1541459225] : Array Value) = (cellsK .u32 startN.list).toArray := by kernel_rfl
def findBlock (n : Nat) : Code → Option Code
 | .block m c => if m = n then some (.block m c) else findBlock n c
 | .loop c => findBlock n c
 | .scope c => findBlock n c
 | .seq a b => match findBlock n a with
  | some c => some c
  | none => findBlock n b
 | .cond _ a b => match findBlock n a with
  | some c => some c
  | none => findBlock n b
 | _ => none
noncomputable def codeB (n : Nat) : Code := (Tryz.f55.body.bind (findBlock n)).getD .skip
noncomputable def codeB8 : Code := codeB 8
noncomputable def codeB7 : Code := codeB 7
noncomputable def codeB6 : Code := codeB 6
noncomputable def codeB11 : Code := codeB 11
noncomputable def codeB10 : Code := codeB 10
noncomputable def codeB12 : Code := codeB 12
noncomputable def codeB5 : Code := codeB 5
set_option maxRecDepth 1000000 in
set_option maxHeartbeats 8000000 in
theorem ref_b8 (Q : Exit → Act → World → Prop) (gb cb N k t : Nat) (blk : List Nat) (ht : t < 16) (hN : 64 * k + 64 ≤ N) (hN5 : N ≤ 5000) (hbl : Hid (blk.length = 64)) (hbb : Hid (∀ x ∈ blk, x < 256)) (x0 x1 x2 x3 x5 x6 x7 x9 x13 x14 x15 x16 x17 x18 x19 x20 x21 x22 x23 x24 x25 x26 x27 x28 x29 x30 x31 x32 x33 x34 x35 x36 x37 x38 x39 x40 x41 x42 x43 x44 x45 x46 x47 x48 x49 x50 x51 x52 x53 x54 x55 x56 x57 x58 x59 x60 x61 x62 x63 x64 x65 x66 x67 x68 x69 x70 x71 x72 x73 x74 x75 x76 x77 x78 x79 x80 x81 x82 x83 x84 x85 x86 x87 x88 x89 x90 x91 x92 x93 x94 x95 x96 x97 x98 x99 x100 x101 x102 x103 x104 x105 x106 x107 x108 x109 x110 x111 x112 x113 x114 x115 x116 x117 x118 x119 x120 x121 x122 x123 x124 x125 x126 x127 x128 x129 x130 x131 x132 x133 x134 x135 x136 x137 x138 x139 x140 x141 x142 x143 x144 x145 x146 x147 x148 x149 x150 x151 x152 x153 x154 x155 x156 x157 x158 x159 x160 x161 x162 x163 x164 x165 x166 x167 x168 x169 x170 x171 x172 x173 x174 x175 x176 x177 x178 x179 x180 x181 x182 x183 x184 x185 x186 x187 x188 x189 x190 x191 x192 x193 x194 x195 x196 x197 x198 x199 x200 x201 x202 x203 x204 x205 x206 x207 x208 x209 x210 x211 x212 x213 x214 x215 x216 x217 x218 x219 x220 x221 x222 x223 x224 x225 x226 x227 x228 x229 x230 x231 x232 x233 x234 x235 x236 x237 x238 x239 x240 x241 x242 x243 x244 x245 x246 x247 x248 x249 x250 x251 x252 x253 x254 x255 x256 x257 x258 x259 x260 x261 x262 x263 x264 x265 x266 x267 x268 x269 x270 x271 x272 x273 x274 x275 x276 x277 x278 x279 x280 x281 x282 x283 x284 x285 x286 : Value) (w : World) (hRB : Hid (∀ i, i < 64 → w.cell? ⟨gb, 64 * k + i, none⟩ = some (.int .u8 ((blk.getD i 0 : Nat) : Int))))
 (hexit : ∀ (y12 y74 y75 y76 y77 y78 y79 y80 y81 y82 y83 y84 y85 y86 y87 y88 y89 y90 : Value), Q .normal ⟨#[x0, x1, x2, x3, (.slice (some ⟨gb, 0, none⟩) N cb), x5, x6, x7, (.int .i64 (64 * (k : Int))), x9, (.int .i64 (t : Int)), (.int .u32 ((be ((blk.drop (4 * t)).take 4) : Nat) : Int)), y12, x13, x14, x15, x16, x17, x18, x19, x20, x21, x22, x23, x24, x25, x26, x27, x28, x29, x30, x31, x32, x33, x34, x35, x36, x37, x38, x39, x40, x41, x42, x43, x44, x45, x46, x47, x48, x49, x50, x51, x52, x53, x54, x55, x56, x57, x58, x59, x60, x61, x62, x63, x64, x65, x66, x67, x68, x69, x70, x71, x72, x73, y74, y75, y76, y77, y78, y79, y80, y81, y82, y83, y84, y85, y86, y87, y88, y89, y90, x91, x92, x93, x94, x95, x96, x97, x98, x99, x100, x101, x102, x103, x104, x105, x106, x107, x108, x109, x110, x111, x112, x113, x114, x115, x116, x117, x118, x119, x120, x121, x122, x123, x124, x125, x126, x127, x128, x129, x130, x131, x132, x133, x134, x135, x136, x137, x138, x139, x140, x141, x142, x143, x144, x145, x146, x147, x148, x149, x150, x151, x152, x153, x154, x155, x156, x157, x158, x159, x160, x161, x162, x163, x164, x165, x166, x167, x168, x169, x170, x171, x172, x173, x174, x175, x176, x177, x178, x179, x180, x181, x182, x183, x184, x185, x186, x187, x188, x189, x190, x191, x192, x193, x194, x195, x196, x197, x198, x199, x200, x201, x202, x203, x204, x205, x206, x207, x208, x209, x210, x211, x212, x213, x214, x215, x216, x217, x218, x219, x220, x221, x222, x223, x224, x225, x226, x227, x228, x229, x230, x231, x232, x233, x234, x235, x236, x237, x238, x239, x240, x241, x242, x243, x244, x245, x246, x247, x248, x249, x250, x251, x252, x253, x254, x255, x256, x257, x258, x259, x260, x261, x262, x263, x264, x265, x266, x267, x268, x269, x270, x271, x272, x273, x274, x275, x276, x277, x278, x279, x280, x281, x282, x283, x284, x285, x286], []⟩ w) :
 Code.wp Tryz.prog codeB8 Q ⟨#[x0, x1, x2, x3, (.slice (some ⟨gb, 0, none⟩) N cb), x5, x6, x7, (.int .i64 (64 * (k : Int))), x9, (.int .i64 (t : Int)), (.int .u32 0), (.int .i64 0), x13, x14, x15, x16, x17, x18, x19, x20, x21, x22, x23, x24, x25, x26, x27, x28, x29, x30, x31, x32, x33, x34, x35, x36, x37, x38, x39, x40, x41, x42, x43, x44, x45, x46, x47, x48, x49, x50, x51, x52, x53, x54, x55, x56, x57, x58, x59, x60, x61, x62, x63, x64, x65, x66, x67, x68, x69, x70, x71, x72, x73, x74, x75, x76, x77, x78, x79, x80, x81, x82, x83, x84, x85, x86, x87, x88, x89, x90, x91, x92, x93, x94, x95, x96, x97, x98, x99, x100, x101, x102, x103, x104, x105, x106, x107, x108, x109, x110, x111, x112, x113, x114, x115, x116, x117, x118, x119, x120, x121, x122, x123, x124, x125, x126, x127, x128, x129, x130, x131, x132, x133, x134, x135, x136, x137, x138, x139, x140, x141, x142, x143, x144, x145, x146, x147, x148, x149, x150, x151, x152, x153, x154, x155, x156, x157, x158, x159, x160, x161, x162, x163, x164, x165, x166, x167, x168, x169, x170, x171, x172, x173, x174, x175, x176, x177, x178, x179, x180, x181, x182, x183, x184, x185, x186, x187, x188, x189, x190, x191, x192, x193, x194, x195, x196, x197, x198, x199, x200, x201, x202, x203, x204, x205, x206, x207, x208, x209, x210, x211, x212, x213, x214, x215, x216, x217, x218, x219, x220, x221, x222, x223, x224, x225, x226, x227, x228, x229, x230, x231, x232, x233, x234, x235, x236, x237, x238, x239, x240, x241, x242, x243, x244, x245, x246, x247, x248, x249, x250, x251, x252, x253, x254, x255, x256, x257, x258, x259, x260, x261, x262, x263, x264, x265, x266, x267, x268, x269, x270, x271, x272, x273, x274, x275, x276, x277, x278, x279, x280, x281, x282, x283, x284, x285, x286], []⟩ w := by
 conv => arg 2; whnf
 have HX := Lib.hid hexit
 clear hexit
 go_wp2
 go_loop [11, 12] (fun v i => ∃ j : Nat, j ≤ 4 ∧ i = .int .i64 (j : Int) ∧ v = .int .u32 ((be ((blk.drop (4 * t)).take j) : Nat) : Int)) (fun _ i => 4 - (intOf i).toNat)
 case atStart => exact ⟨0, by omega, rfl, rfl⟩
 case round =>
  obtain ⟨j, hj, rfl, rfl⟩ := hrel
  by_cases hj4 : j < 4
  · have hji : (j : Int) < 4 := by omega
    have hcell := hRB.out (4 * t + j) (by omega)
    rw [← Nat.add_assoc] at hcell
    have hx := getD_lt (by decide) hbb.out (4 * t + j)
    have hbe : Hid (be ((blk.drop (4 * t)).take (j + 1)) = be ((blk.drop (4 * t)).take j) * 256 + blk.getD (4 * t + j) 0) := Lib.hid (by
     rw [take_succ_getDN (by rw [List.length_drop, hbl.out]; omega), be_snoc]
     congr 1
     rw [List.getD_eq_getElem?_getD, List.getElem?_drop, List.getD_eq_getElem?_getD])
    have hbl3 : be ((blk.drop (4 * t)).take j) < 16777216 := by
     have h1 := be_lt ((blk.drop (4 * t)).take j) (fun x hx => hbb.out x (List.mem_of_mem_drop (List.mem_of_mem_take hx)))
     have h2 : ((blk.drop (4 * t)).take j).length ≤ 3 := by rw [List.length_take]; omega
     have h3 : 256 ^ ((blk.drop (4 * t)).take j).length ≤ 256 ^ 3 := Nat.pow_le_pow_right (by decide) h2
     omega
    generalize be ((blk.drop (4 * t)).take j) = bj at *
    generalize blk.getD (4 * t + j) 0 = x at *
    have hin : 64 * (k : Int) + 4 * (t : Int) + (j : Int) < (N : Int) := by omega
    go_wp2
    go_round
    case rel => exact ⟨j + 1, by omega, by go_num, by rw [hbe.out]; go_num⟩
    case measure => simp [intOf]; omega
  · obtain rfl : j = 4 := by omega
    go_wp2
    exact HX.out _ _ _ _ _ _ _ _ _ _ _ _ _ _ _ _ _ _
set_option maxRecDepth 1000000 in
set_option maxHeartbeats 8000000 in
theorem ref_b7a (Q : Exit → Act → World → Prop) (gb cb N k t B : Nat) (v9 : Value) (blk S : List Nat) (ht : t < 16) (hN : 64 * k + 64 ≤ N) (hN5 : N ≤ 5000) (hbl : Hid (blk.length = 64)) (hbb : Hid (∀ x ∈ blk, x < 256)) (hS : Hid (S.take t ++ [be ((blk.drop (4 * t)).take 4)] = S.take (t + 1))) (x0 x1 x2 x3 x5 x6 x7 x11 x12 x13 x14 x15 x16 x17 x18 x19 x20 x21 x22 x23 x24 x25 x26 x27 x28 x29 x30 x31 x32 x33 x34 x35 x36 x37 x38 x39 x40 x41 x42 x43 x44 x45 x46 x47 x48 x49 x50 x51 x52 x53 x54 x55 x56 x57 x58 x59 x60 x61 x62 x63 x64 x65 x66 x67 x68 x69 x70 x71 x72 x73 x74 x75 x76 x77 x78 x79 x80 x81 x82 x83 x84 x85 x86 x87 x88 x89 x90 x91 x92 x93 x94 x95 x96 x97 x98 x99 x100 x101 x102 x103 x104 x105 x106 x107 x108 x109 x110 x111 x112 x113 x114 x115 x116 x117 x118 x119 x120 x121 x122 x123 x124 x125 x126 x127 x128 x129 x130 x131 x132 x133 x134 x135 x136 x137 x138 x139 x140 x141 x142 x143 x144 x145 x146 x147 x148 x149 x150 x151 x152 x153 x154 x155 x156 x157 x158 x159 x160 x161 x162 x163 x164 x165 x166 x167 x168 x169 x170 x171 x172 x173 x174 x175 x176 x177 x178 x179 x180 x181 x182 x183 x184 x185 x186 x187 x188 x189 x190 x191 x192 x193 x194 x195 x196 x197 x198 x199 x200 x201 x202 x203 x204 x205 x206 x207 x208 x209 x210 x211 x212 x213 x214 x215 x216 x217 x218 x219 x220 x221 x222 x223 x224 x225 x226 x227 x228 x229 x230 x231 x232 x233 x234 x235 x236 x237 x238 x239 x240 x241 x242 x243 x244 x245 x246 x247 x248 x249 x250 x251 x252 x253 x254 x255 x256 x257 x258 x259 x260 x261 x262 x263 x264 x265 x266 x267 x268 x269 x270 x271 x272 x273 x274 x275 x276 x277 x278 x279 x280 x281 x282 x283 x284 x285 x286 : Value) (w : World) (hRB : Hid (∀ i, i < 64 → w.cell? ⟨gb, 64 * k + i, none⟩ = some (.int .u8 ((blk.getD i 0 : Nat) : Int)))) (hO : Hid (w.ownsRow B 138 1 v9 (t) (cellsK .u32 (S.take t)))) (hBs : B ≤ w.heap.size)
 (hexit : ∀ (y11 y12 y13 y14 y72 y73 y74 y75 y76 y77 y78 y79 y80 y81 y82 y83 y84 y85 y86 y87 y88 y89 y90 y91 y92 y93 y94 y95 y96 y97 y98 y99 y100 y101 y102 y103 y104 y105 y106 y107 y108 y109 y110 y111 y112 y113 y114 y115 y116 y117 y118 y119 y120 y121 y122 y123 y124 y125 y126 y127 y128 y129 y130 y131 y132 y133 y134 y135 y136 y137 y138 y139 y140 y141 y142 y143 y144 y145 y146 y147 y148 y149 y150 y151 y152 : Value) (v' : Value) (w' : World), Hid (w'.ownsRow B 138 1 v' (t + 1) (cellsK .u32 (S.take (t + 1)))) → Hid (Below B w w') → Q .normal ⟨#[x0, x1, x2, x3, (.slice (some ⟨gb, 0, none⟩) N cb), x5, x6, x7, (.int .i64 (64 * (k : Int))), v', (.int .i64 (t : Int)), y11, y12, y13, y14, x15, x16, x17, x18, x19, x20, x21, x22, x23, x24, x25, x26, x27, x28, x29, x30, x31, x32, x33, x34, x35, x36, x37, x38, x39, x40, x41, x42, x43, x44, x45, x46, x47, x48, x49, x50, x51, x52, x53, x54, x55, x56, x57, x58, x59, x60, x61, x62, x63, x64, x65, x66, x67, x68, x69, x70, x71, y72, y73, y74, y75, y76, y77, y78, y79, y80, y81, y82, y83, y84, y85, y86, y87, y88, y89, y90, y91, y92, y93, y94, y95, y96, y97, y98, y99, y100, y101, y102, y103, y104, y105, y106, y107, y108, y109, y110, y111, y112, y113, y114, y115, y116, y117, y118, y119, y120, y121, y122, y123, y124, y125, y126, y127, y128, y129, y130, y131, y132, y133, y134, y135, y136, y137, y138, y139, y140, y141, y142, y143, y144, y145, y146, y147, y148, y149, y150, y151, y152, x153, x154, x155, x156, x157, x158, x159, x160, x161, x162, x163, x164, x165, x166, x167, x168, x169, x170, x171, x172, x173, x174, x175, x176, x177, x178, x179, x180, x181, x182, x183, x184, x185, x186, x187, x188, x189, x190, x191, x192, x193, x194, x195, x196, x197, x198, x199, x200, x201, x202, x203, x204, x205, x206, x207, x208, x209, x210, x211, x212, x213, x214, x215, x216, x217, x218, x219, x220, x221, x222, x223, x224, x225, x226, x227, x228, x229, x230, x231, x232, x233, x234, x235, x236, x237, x238, x239, x240, x241, x242, x243, x244, x245, x246, x247, x248, x249, x250, x251, x252, x253, x254, x255, x256, x257, x258, x259, x260, x261, x262, x263, x264, x265, x266, x267, x268, x269, x270, x271, x272, x273, x274, x275, x276, x277, x278, x279, x280, x281, x282, x283, x284, x285, x286], []⟩ w') :
 Code.wp Tryz.prog codeB7 Q ⟨#[x0, x1, x2, x3, (.slice (some ⟨gb, 0, none⟩) N cb), x5, x6, x7, (.int .i64 (64 * (k : Int))), v9, (.int .i64 (t : Int)), x11, x12, x13, x14, x15, x16, x17, x18, x19, x20, x21, x22, x23, x24, x25, x26, x27, x28, x29, x30, x31, x32, x33, x34, x35, x36, x37, x38, x39, x40, x41, x42, x43, x44, x45, x46, x47, x48, x49, x50, x51, x52, x53, x54, x55, x56, x57, x58, x59, x60, x61, x62, x63, x64, x65, x66, x67, x68, x69, x70, x71, x72, x73, x74, x75, x76, x77, x78, x79, x80, x81, x82, x83, x84, x85, x86, x87, x88, x89, x90, x91, x92, x93, x94, x95, x96, x97, x98, x99, x100, x101, x102, x103, x104, x105, x106, x107, x108, x109, x110, x111, x112, x113, x114, x115, x116, x117, x118, x119, x120, x121, x122, x123, x124, x125, x126, x127, x128, x129, x130, x131, x132, x133, x134, x135, x136, x137, x138, x139, x140, x141, x142, x143, x144, x145, x146, x147, x148, x149, x150, x151, x152, x153, x154, x155, x156, x157, x158, x159, x160, x161, x162, x163, x164, x165, x166, x167, x168, x169, x170, x171, x172, x173, x174, x175, x176, x177, x178, x179, x180, x181, x182, x183, x184, x185, x186, x187, x188, x189, x190, x191, x192, x193, x194, x195, x196, x197, x198, x199, x200, x201, x202, x203, x204, x205, x206, x207, x208, x209, x210, x211, x212, x213, x214, x215, x216, x217, x218, x219, x220, x221, x222, x223, x224, x225, x226, x227, x228, x229, x230, x231, x232, x233, x234, x235, x236, x237, x238, x239, x240, x241, x242, x243, x244, x245, x246, x247, x248, x249, x250, x251, x252, x253, x254, x255, x256, x257, x258, x259, x260, x261, x262, x263, x264, x265, x266, x267, x268, x269, x270, x271, x272, x273, x274, x275, x276, x277, x278, x279, x280, x281, x282, x283, x284, x285, x286], []⟩ w := by
 conv => arg 2; whnf
 have HX := Lib.hid hexit
 clear hexit
 have hti : (t : Int) < 16 := by omega
 go_upto_block 8 with fail
 refine ref_b8 _ gb cb N k t blk ht hN hN5 hbl hbb _ _ _ _ _ _ _ _ _ _ _ _ _ _ _ _ _ _ _ _ _ _ _ _ _ _ _ _ _ _ _ _ _ _ _ _ _ _ _ _ _ _ _ _ _ _ _ _ _ _ _ _ _ _ _ _ _ _ _ _ _ _ _ _ _ _ _ _ _ _ _ _ _ _ _ _ _ _ _ _ _ _ _ _ _ _ _ _ _ _ _ _ _ _ _ _ _ _ _ _ _ _ _ _ _ _ _ _ _ _ _ _ _ _ _ _ _ _ _ _ _ _ _ _ _ _ _ _ _ _ _ _ _ _ _ _ _ _ _ _ _ _ _ _ _ _ _ _ _ _ _ _ _ _ _ _ _ _ _ _ _ _ _ _ _ _ _ _ _ _ _ _ _ _ _ _ _ _ _ _ _ _ _ _ _ _ _ _ _ _ _ _ _ _ _ _ _ _ _ _ _ _ _ _ _ _ _ _ _ _ _ _ _ _ _ _ _ _ _ _ _ _ _ _ _ _ _ _ _ _ _ _ _ _ _ _ _ _ _ _ _ _ _ _ _ _ _ _ _ _ _ _ _ _ _ _ _ _ _ _ _ _ _ _ _ _ _ _ _ _ _ _ _ _ _ _ _ _ _ _ _ _ w hRB ?_
 intro z12 z74 z75 z76 z77 z78 z79 z80 z81 z82 z83 z84 z85 z86 z87 z88 z89 z90
 have yb : Hid (((be ((blk.drop (4 * t)).take 4) : Nat) : Int) = ((be ((blk.drop (4 * t)).take 4) : Nat) : Int)) := Lib.hid rfl
 generalize be ((blk.drop (4 * t)).take 4) = bw at *
 go_wp2_with (at_builtin; go_loud (refine wpList_append1w (.tmp 91) (.tmp 93) rfl rfl B v9 t (S.take t) (by rfl) hO (bw : Int) bw yb (by rfl) (by omega) hBs ?_); intro v6 w6 O6 B6)
 rw [hS.out] at O6
 exact HX.out _ _ _ _ _ _ _ _ _ _ _ _ _ _ _ _ _ _ _ _ _ _ _ _ _ _ _ _ _ _ _ _ _ _ _ _ _ _ _ _ _ _ _ _ _ _ _ _ _ _ _ _ _ _ _ _ _ _ _ _ _ _ _ _ _ _ _ _ _ _ _ _ _ _ _ _ _ _ _ _ _ _ _ _ _ v6 w6 O6 B6
theorem step_append1w {ops : Array Oper} {o : Oper} {a : Act} {w : World} {K : Act → World → Prop} {Q : Exit → Act → World → Prop} {E : Prop} (s x : Operand) (hgd : o.guard = none)
 (ho : o.op = .call { callee := .builtin .append, args := #[s, x], argTypes := #[139, 139] })
 (base : Nat) (v : Value) (n : Nat) (l : List Nat) (hs : a.eval s = v) (hown : Hid (w.ownsRow base 138 1 v n (cellsK .u32 l))) (y : Int) (yn : Nat) (hy : Hid (y = (yn : Int)))
 (hx : a.eval x = .slice (some ⟨w.heap.size, 0, none⟩) 1 1) (hb : n + 1 ≤ 1000000) (hbase : base ≤ w.heap.size)
 (hK : ∀ v' w', Hid (w'.ownsRow base 138 1 v' (n + 1) (cellsK .u32 (l ++ [yn]))) → Hid (Below base w w') → K (a.put o.dst v') w') :
 if Region.wanted o (yielded ops a.tmps) = true then Oper.wp Tryz.prog o a (w.alloc (.cells #[.int .u32 y] 138)) K Q else E := by
 have hw : Region.wanted o (yielded ops a.tmps) = true := by simp [Region.wanted, hgd]
 rw [if_pos hw]
 obtain ⟨i0, hi, hz0, hz1, hz2⟩ := info_parts info_u32
 have HB : Below base w (w.alloc (.cells #[.int .u32 y] 138)) := (Below.refl _ _).alloc hbase _
 obtain ⟨v', w', hrun, h1, h2, _⟩ := run_append_own (P := Tryz.prog) (w.alloc (.cells #[.int .u32 y] 138)) base 139 o.type 138 i0 (.int .u32 0) 1 4 Tryz.underlying139 hi hz0 hz1 hz2 rfl (by decide) v n _ (hown.out.alloc _) ⟨w.heap.size, 0, none⟩ 1 1 [.int .u32 y] rfl (new_cell w (.int .u32 y) 138) (by intro u hu; simp only [List.mem_cons, List.not_mem_nil, or_false] at hu; subst hu; rfl) (by unfold maxLen; omega) (by omega) (by simp; omega)
 unfold Oper.wp
 simp [execOp, ho, resolve, invoke, builtin, hs, hx, hrun, Result.andThen]
 refine hK v' w' (Lib.hid ?_) (Lib.hid (HB.grown h2 (by simp; omega) (own_block_ge hown.out)))
 rw [cellsK_append, show cellsK .u32 [yn] = [.int .u32 (yn : Int)] from rfl, ← hy.out]
 exact h1
set_option maxRecDepth 1000000 in
set_option maxHeartbeats 8000000 in
theorem ref_b7b (Q : Exit → Act → World → Prop) (hQ : ∀ c (a : Act) d v w, Q (.panic c) (a.put d v) w → Q (.panic c) a w) (g9 c9 m B : Nat) (S : List Nat) (hm : m < 48) (hSb : Hid (∀ i, S.getD i 0 < 4294967296)) (hS : Hid (S.getD (m + 16) 0 = addM (addM (addM (S.getD m 0) (sig0 (S.getD (m + 1) 0))) (S.getD (m + 9) 0)) (sig1 (S.getD (m + 14) 0)))) (hSl : Hid (S.length = 64)) (x0 x1 x2 x3 x4 x5 x6 x7 x8 x11 x12 x13 x14 x15 x16 x17 x18 x19 x20 x21 x22 x23 x24 x25 x26 x27 x28 x29 x30 x31 x32 x33 x34 x35 x36 x37 x38 x39 x40 x41 x42 x43 x44 x45 x46 x47 x48 x49 x50 x51 x52 x53 x54 x55 x56 x57 x58 x59 x60 x61 x62 x63 x64 x65 x66 x67 x68 x69 x70 x71 x72 x73 x74 x75 x76 x77 x78 x79 x80 x81 x82 x83 x84 x85 x86 x87 x88 x89 x90 x91 x92 x93 x94 x95 x96 x97 x98 x99 x100 x101 x102 x103 x104 x105 x106 x107 x108 x109 x110 x111 x112 x113 x114 x115 x116 x117 x118 x119 x120 x121 x122 x123 x124 x125 x126 x127 x128 x129 x130 x131 x132 x133 x134 x135 x136 x137 x138 x139 x140 x141 x142 x143 x144 x145 x146 x147 x148 x149 x150 x151 x152 x153 x154 x155 x156 x157 x158 x159 x160 x161 x162 x163 x164 x165 x166 x167 x168 x169 x170 x171 x172 x173 x174 x175 x176 x177 x178 x179 x180 x181 x182 x183 x184 x185 x186 x187 x188 x189 x190 x191 x192 x193 x194 x195 x196 x197 x198 x199 x200 x201 x202 x203 x204 x205 x206 x207 x208 x209 x210 x211 x212 x213 x214 x215 x216 x217 x218 x219 x220 x221 x222 x223 x224 x225 x226 x227 x228 x229 x230 x231 x232 x233 x234 x235 x236 x237 x238 x239 x240 x241 x242 x243 x244 x245 x246 x247 x248 x249 x250 x251 x252 x253 x254 x255 x256 x257 x258 x259 x260 x261 x262 x263 x264 x265 x266 x267 x268 x269 x270 x271 x272 x273 x274 x275 x276 x277 x278 x279 x280 x281 x282 x283 x284 x285 x286 : Value) (w : World) (hO : Hid (w.ownsRow B 138 1 (.slice (some ⟨g9, 0, none⟩) (m + 16) c9) (m + 16) (cellsK .u32 (S.take (m + 16))))) (hBs : B ≤ w.heap.size)
 (hexit : ∀ (y11 y12 y13 y14 y72 y73 y74 y75 y76 y77 y78 y79 y80 y81 y82 y83 y84 y85 y86 y87 y88 y89 y90 y91 y92 y93 y94 y95 y96 y97 y98 y99 y100 y101 y102 y103 y104 y105 y106 y107 y108 y109 y110 y111 y112 y113 y114 y115 y116 y117 y118 y119 y120 y121 y122 y123 y124 y125 y126 y127 y128 y129 y130 y131 y132 y133 y134 y135 y136 y137 y138 y139 y140 y141 y142 y143 y144 y145 y146 y147 y148 y149 y150 y151 y152 : Value) (v' : Value) (w' : World), Hid (w'.ownsRow B 138 1 v' (m + 16 + 1) (cellsK .u32 (S.take (m + 16 + 1)))) → Hid (Below B w w') → Q .normal ⟨#[x0, x1, x2, x3, x4, x5, x6, x7, x8, v', (.int .i64 ((m : Int) + 16)), y11, y12, y13, y14, x15, x16, x17, x18, x19, x20, x21, x22, x23, x24, x25, x26, x27, x28, x29, x30, x31, x32, x33, x34, x35, x36, x37, x38, x39, x40, x41, x42, x43, x44, x45, x46, x47, x48, x49, x50, x51, x52, x53, x54, x55, x56, x57, x58, x59, x60, x61, x62, x63, x64, x65, x66, x67, x68, x69, x70, x71, y72, y73, y74, y75, y76, y77, y78, y79, y80, y81, y82, y83, y84, y85, y86, y87, y88, y89, y90, y91, y92, y93, y94, y95, y96, y97, y98, y99, y100, y101, y102, y103, y104, y105, y106, y107, y108, y109, y110, y111, y112, y113, y114, y115, y116, y117, y118, y119, y120, y121, y122, y123, y124, y125, y126, y127, y128, y129, y130, y131, y132, y133, y134, y135, y136, y137, y138, y139, y140, y141, y142, y143, y144, y145, y146, y147, y148, y149, y150, y151, y152, x153, x154, x155, x156, x157, x158, x159, x160, x161, x162, x163, x164, x165, x166, x167, x168, x169, x170, x171, x172, x173, x174, x175, x176, x177, x178, x179, x180, x181, x182, x183, x184, x185, x186, x187, x188, x189, x190, x191, x192, x193, x194, x195, x196, x197, x198, x199, x200, x201, x202, x203, x204, x205, x206, x207, x208, x209, x210, x211, x212, x213, x214, x215, x216, x217, x218, x219, x220, x221, x222, x223, x224, x225, x226, x227, x228, x229, x230, x231, x232, x233, x234, x235, x236, x237, x238, x239, x240, x241, x242, x243, x244, x245, x246, x247, x248, x249, x250, x251, x252, x253, x254, x255, x256, x257, x258, x259, x260, x261, x262, x263, x264, x265, x266, x267, x268, x269, x270, x271, x272, x273, x274, x275, x276, x277, x278, x279, x280, x281, x282, x283, x284, x285, x286], []⟩ w') :
 Code.wp Tryz.prog codeB7 Q ⟨#[x0, x1, x2, x3, x4, x5, x6, x7, x8, (.slice (some ⟨g9, 0, none⟩) (m + 16) c9), (.int .i64 ((m : Int) + 16)), x11, x12, x13, x14, x15, x16, x17, x18, x19, x20, x21, x22, x23, x24, x25, x26, x27, x28, x29, x30, x31, x32, x33, x34, x35, x36, x37, x38, x39, x40, x41, x42, x43, x44, x45, x46, x47, x48, x49, x50, x51, x52, x53, x54, x55, x56, x57, x58, x59, x60, x61, x62, x63, x64, x65, x66, x67, x68, x69, x70, x71, x72, x73, x74, x75, x76, x77, x78, x79, x80, x81, x82, x83, x84, x85, x86, x87, x88, x89, x90, x91, x92, x93, x94, x95, x96, x97, x98, x99, x100, x101, x102, x103, x104, x105, x106, x107, x108, x109, x110, x111, x112, x113, x114, x115, x116, x117, x118, x119, x120, x121, x122, x123, x124, x125, x126, x127, x128, x129, x130, x131, x132, x133, x134, x135, x136, x137, x138, x139, x140, x141, x142, x143, x144, x145, x146, x147, x148, x149, x150, x151, x152, x153, x154, x155, x156, x157, x158, x159, x160, x161, x162, x163, x164, x165, x166, x167, x168, x169, x170, x171, x172, x173, x174, x175, x176, x177, x178, x179, x180, x181, x182, x183, x184, x185, x186, x187, x188, x189, x190, x191, x192, x193, x194, x195, x196, x197, x198, x199, x200, x201, x202, x203, x204, x205, x206, x207, x208, x209, x210, x211, x212, x213, x214, x215, x216, x217, x218, x219, x220, x221, x222, x223, x224, x225, x226, x227, x228, x229, x230, x231, x232, x233, x234, x235, x236, x237, x238, x239, x240, x241, x242, x243, x244, x245, x246, x247, x248, x249, x250, x251, x252, x253, x254, x255, x256, x257, x258, x259, x260, x261, x262, x263, x264, x265, x266, x267, x268, x269, x270, x271, x272, x273, x274, x275, x276, x277, x278, x279, x280, x281, x282, x283, x284, x285, x286], []⟩ w := by
 conv => arg 2; whnf
 have HX := Lib.hid hexit
 clear hexit
 have tk : ∀ i, i < m + 16 → (S.take (m + 16)).getD i 0 = S.getD i 0 := fun i hi => by
  rw [List.getD_eq_getElem?_getD, List.getElem?_take, if_pos hi, List.getD_eq_getElem?_getD]
 have hc0 := own_cellW hO.out m (by omega)
 have hc1 := own_cellW hO.out (m + 1) (by omega)
 have hc9 := own_cellW hO.out (m + 9) (by omega)
 have hc14 := own_cellW hO.out (m + 14) (by omega)
 rw [tk _ (by omega)] at hc0 hc1 hc9 hc14
 have hx0 := hSb.out m
 have hx1 := hSb.out (m + 1)
 have hx9 := hSb.out (m + 9)
 have hx14 := hSb.out (m + 14)
 have hnx : Hid (S.take (m + 16) ++ [S.getD (m + 16) 0] = S.take (m + 16 + 1)) := Lib.hid (take_succ_getDN (by rw [hSl.out]; omega)).symm
 clear tk
 generalize S.getD (m + 16) 0 = nx at *
 generalize S.getD m 0 = x0 at *
 generalize S.getD (m + 1) 0 = x1 at *
 generalize S.getD (m + 9) 0 = x9 at *
 generalize S.getD (m + 14) 0 = x14 at *
 have hmi : ¬ (m : Int) + 16 < 16 := by omega
 go_upto_region 26 with fail
 have e1 : IntKind.i64.wrap ((m : Int) + 16 - 15) = (m : Int) + 1 := by rw [IntWalk.i64_in _ (by omega)]; omega
 have e2 : IntKind.i64.wrap ((m : Int) + 16 - 2) = (m : Int) + 14 := by rw [IntWalk.i64_in _ (by omega)]; omega
 have n1 : ((m : Int) + 1).toNat = m + 1 := by omega
 have n2 : ((m : Int) + 14).toNat = m + 14 := by omega
 have p1 : (0 : Int) ≤ (m : Int) + 1 := by omega
 have p2 : (0 : Int) ≤ (m : Int) + 14 := by omega
 have l1 : (m : Int) + 1 < (m : Int) + 16 := by omega
 have l2 : (m : Int) + 14 < (m : Int) + 16 := by omega
 have b1 := xor_sig0 x1 hx1
 have b2 := xor_sig1 x14 hx14
 go_big_quiet ((first | (go_at_call 79; with_reducible exact Calls.quiet_of (rdown_7 x1 hx1 _)) | (go_at_call 79; with_reducible exact Calls.quiet_of (rdown_18 x1 hx1 _))))
 have c0 : (w.drewN nq).cell? _ = _ := hc0
 have c9_ : (w.drewN nq).cell? _ = _ := hc9
 have c14 : (w.drewN nq).cell? _ = _ := hc14
 have O2 : Hid ((w.drewN nq).ownsRow B 138 1 (.slice (some ⟨g9, 0, none⟩) (m + 16) c9) (m + 16) (cellsK .u32 (S.take (m + 16)))) := hO
 have BW2 := Lib.hid (below_drewNS (Below.refl B w) nq)
 have hs2 : B ≤ (w.drewN nq).heap.size := hBs
 clear hc0 hc1 hc9 hc14
 generalize w.drewN nq = w2 at *
 go_wp2
 go_big_quiet ((first | (go_at_call 79; with_reducible exact Calls.quiet_of (rdown_17 x14 hx14 _)) | (go_at_call 79; with_reducible exact Calls.quiet_of (rdown_19 x14 hx14 _))))
 have d0 : (w2.drewN nq).cell? _ = _ := c0
 have d9 : (w2.drewN nq).cell? _ = _ := c9_
 have O3 : Hid ((w2.drewN nq).ownsRow B 138 1 (.slice (some ⟨g9, 0, none⟩) (m + 16) c9) (m + 16) (cellsK .u32 (S.take (m + 16)))) := O2
 have BW3 := Lib.hid (below_drewNS BW2.out nq)
 have hs3 : B ≤ (w2.drewN nq).heap.size := hs2
 clear c0 c9_ c14 O2 BW2 e1 e2 n1 n2 p1 p2 l1 l2 b1 b2 hs2
 generalize w2.drewN nq = w3 at *
 generalize sig0 x1 = sa at *
 generalize sig1 x14 = sb at *
 go_wp2
 have e1 : IntKind.i64.wrap ((m : Int) + 16 - 16) = (m : Int) := by rw [IntWalk.i64_in _ (by omega)]; omega
 have e2 : IntKind.i64.wrap ((m : Int) + 16 - 7) = (m : Int) + 9 := by rw [IntWalk.i64_in _ (by omega)]; omega
 have n1 : ((m : Int) + 9).toNat = m + 9 := by omega
 have p1 : (0 : Int) ≤ (m : Int) + 9 := by omega
 have p3 : (0 : Int) ≤ (m : Int) := by omega
 have l1 : (m : Int) + 9 < (m : Int) + 16 := by omega
 have l3 : (m : Int) < (m : Int) + 16 := by omega
 have q1 : IntKind.u32.wrap ((x0 : Int) + (sa : Int)) = ((addM x0 sa : Nat) : Int) := wrap_add x0 sa
 have q2 : IntKind.u32.wrap (((addM x0 sa : Nat) : Int) + (x9 : Int)) = ((addM (addM x0 sa) x9 : Nat) : Int) := wrap_add _ _
 have q3 : IntKind.u32.wrap (((addM (addM x0 sa) x9 : Nat) : Int) + (sb : Int)) = (nx : Int) := by rw [hS.out]; exact wrap_add _ _
 have e0 : IntKind.i64.wrap (m : Int) = (m : Int) := IntWalk.i64_in _ (by omega)
 have e9 : IntKind.i64.wrap ((m : Int) + 9) = (m : Int) + 9 := IntWalk.i64_in _ (by omega)
 have q1' := wrap_add' x0 sa
 have q2' := wrap_add' (addM x0 sa) x9
 have q3' : (((addM (addM x0 sa) x9 : Nat) : Int) + (sb : Int)) % 4294967296 = (nx : Int) := by rw [hS.out]; exact wrap_add' _ _
 refine wp_region_held_drew (S := fun _ => True) (by kernel_rfl) trivial (fun _ => ?_)
 have c0 : w3.drew.cell? _ = _ := d0
 have c9_ : w3.drew.cell? _ = _ := d9
 have O4 : Hid (w3.drew.ownsRow B 138 1 (.slice (some ⟨g9, 0, none⟩) (m + 16) c9) (m + 16) (cellsK .u32 (S.take (m + 16)))) := O3
 have BW4 := Lib.hid BW3.out.drew
 have hs4 : B ≤ w3.drew.heap.size := hs3
 clear d0 d9 O3 BW3 hs3
 generalize w3.drew = w4 at *
 refine tq9 0 135 (v := (.slice (some ⟨g9, 0, none⟩) (m + 16) c9)) rfl rfl (fun _ _ _ h => hQ _ _ _ _ _ h) ?_ trivial ?_
 · intro w hSw
   go_simp
 try simp only [Act.put, List.setIfInBounds_toArray, List.set_cons_zero, List.set_cons_succ]
 refine tq9 1 136 (v := (.slice (some ⟨g9, 0, none⟩) (m + 16) c9)) rfl rfl (fun _ _ _ h => hQ _ _ _ _ _ h) ?_ trivial ?_
 · intro w hSw
   go_simp
 try simp only [Act.put, List.setIfInBounds_toArray, List.set_cons_zero, List.set_cons_succ]
 refine tq9 2 137 (v := (.int .i64 ((m : Int) + 16))) rfl rfl (fun _ _ _ h => hQ _ _ _ _ _ h) ?_ trivial ?_
 · intro w hSw
   go_simp
 try simp only [Act.put, List.setIfInBounds_toArray, List.set_cons_zero, List.set_cons_succ]
 refine tq9 6 141 (v := (.int .u32 (sa : Int))) rfl rfl (fun _ _ _ h => hQ _ _ _ _ _ h) ?_ trivial ?_
 · intro w hSw
   go_simp
 try simp only [Act.put, List.setIfInBounds_toArray, List.set_cons_zero, List.set_cons_succ]
 refine tq9 8 143 (v := (.slice (some ⟨g9, 0, none⟩) (m + 16) c9)) rfl rfl (fun _ _ _ h => hQ _ _ _ _ _ h) ?_ trivial ?_
 · intro w hSw
   go_simp
 try simp only [Act.put, List.setIfInBounds_toArray, List.set_cons_zero, List.set_cons_succ]
 refine tq9 9 144 (v := (.int .i64 ((m : Int) + 16))) rfl rfl (fun _ _ _ h => hQ _ _ _ _ _ h) ?_ trivial ?_
 · intro w hSw
   go_simp
 try simp only [Act.put, List.setIfInBounds_toArray, List.set_cons_zero, List.set_cons_succ]
 refine tq9 14 149 (v := (.int .u32 (sb : Int))) rfl rfl (fun _ _ _ h => hQ _ _ _ _ _ h) ?_ trivial ?_
 · intro w hSw
   go_simp
 try simp only [Act.put, List.setIfInBounds_toArray, List.set_cons_zero, List.set_cons_succ]
 refine tq9 3 138 (v := (.int .i64 (m : Int))) rfl rfl (fun _ _ _ h => hQ _ _ _ _ _ h) ?_ trivial ?_
 · intro w hSw
   go_simp
 try simp only [Act.put, List.setIfInBounds_toArray, List.set_cons_zero, List.set_cons_succ]
 refine tq9 10 145 (v := (.int .i64 ((m : Int) + 9))) rfl rfl (fun _ _ _ h => hQ _ _ _ _ _ h) ?_ trivial ?_
 · intro w hSw
   go_simp
 try simp only [Act.put, List.setIfInBounds_toArray, List.set_cons_zero, List.set_cons_succ]
 refine tq9 4 139 (v := (.pointer (some ⟨g9, m, none⟩))) rfl rfl (fun _ _ _ h => hQ _ _ _ _ _ h) ?_ trivial ?_
 · intro w hSw
   go_simp
 try simp only [Act.put, List.setIfInBounds_toArray, List.set_cons_zero, List.set_cons_succ]
 refine tq9 11 146 (v := (.pointer (some ⟨g9, m + 9, none⟩))) rfl rfl (fun _ _ _ h => hQ _ _ _ _ _ h) ?_ trivial ?_
 · intro w hSw
   go_simp
 try simp only [Act.put, List.setIfInBounds_toArray, List.set_cons_zero, List.set_cons_succ]
 refine wpAnyH_ready (rs := [5, 12]) (by kernel_rfl) (by simp) ?_
 refine AllReadyH.cons rfl (fun K hK => ?_) (AllReadyH.cons rfl (fun K hK => ?_) AllReadyH.nil)
 · go_simp
   refine hK.out _ _ trivial (fun _ => ?_)
   clear hK K
   try simp only [Act.put, List.setIfInBounds_toArray, List.set_cons_zero, List.set_cons_succ]
   refine tq9 7 142 (v := (.int .u32 ((addM x0 sa : Nat) : Int))) rfl rfl (fun _ _ _ h => hQ _ _ _ _ _ h) ?_ trivial ?_
   · intro w hSw
     go_simp
   try simp only [Act.put, List.setIfInBounds_toArray, List.set_cons_zero, List.set_cons_succ]
   refine wpAnyH_ready (rs := [12]) (by kernel_rfl) (by simp) ?_
   refine AllReadyH.cons rfl (fun K hK => ?_) AllReadyH.nil
   go_simp
   refine hK.out _ _ trivial (fun _ => ?_)
   clear hK K
   try simp only [Act.put, List.setIfInBounds_toArray, List.set_cons_zero, List.set_cons_succ]
   refine tq9 13 148 (v := (.int .u32 ((addM (addM x0 sa) x9 : Nat) : Int))) rfl rfl (fun _ _ _ h => hQ _ _ _ _ _ h) ?_ trivial ?_
   · intro w hSw
     go_simp
   try simp only [Act.put, List.setIfInBounds_toArray, List.set_cons_zero, List.set_cons_succ]
   refine tq9 15 150 (v := (.int .u32 (nx : Int))) rfl rfl (fun _ _ _ h => hQ _ _ _ _ _ h) ?_ trivial ?_
   · intro w hSw
     go_simp
   try simp only [Act.put, List.setIfInBounds_toArray, List.set_cons_zero, List.set_cons_succ]
   refine wpAnyH_ready (rs := [16]) (by kernel_rfl) (by simp) ?_
   refine AllReadyH.cons rfl (fun K hK => ?_) AllReadyH.nil
   go_simp
   refine hK.out _ _ trivial (fun _ => ?_)
   clear hK K
   try simp only [Act.put, List.setIfInBounds_toArray, List.set_cons_zero, List.set_cons_succ]
   have yb : Hid ((nx : Int) = (nx : Int)) := Lib.hid rfl
   refine wpAnyH_ready (rs := [17]) (by kernel_rfl) (by simp) ?_
   refine AllReadyH.cons rfl (fun K hK => ?_) AllReadyH.nil
   refine step_append1w (.tmp 135) (.tmp 151) rfl rfl B (.slice (some ⟨g9, 0, none⟩) (m + 16) c9) (m + 16) (S.take (m + 16)) (by rfl) O4 (nx : Int) nx yb (by rfl) (by omega) hs4 ?_
   intro v6 w6 O6 B6
   refine hK.out _ _ trivial (fun _ => ?_)
   clear hK K
   simp only [Act.put, List.setIfInBounds_toArray]
   refine tq9 18 9 (v := v6) rfl rfl (fun _ _ _ h => hQ _ _ _ _ _ h) ?_ trivial ?_
   · intro w hSw
     go_simp
   refine wpAnyH_done (by kernel_rfl) ?_ _
   rw [hnx.out] at O6
   exact HX.out _ _ _ _ _ _ _ _ _ _ _ _ _ _ _ _ _ _ _ _ _ _ _ _ _ _ _ _ _ _ _ _ _ _ _ _ _ _ _ _ _ _ _ _ _ _ _ _ _ _ _ _ _ _ _ _ _ _ _ _ _ _ _ _ _ _ _ _ _ _ _ _ _ _ _ _ _ _ _ _ _ _ _ _ _ v6 w6 O6 (Lib.hid (BW4.out.trans B6.out))
 · go_simp
   refine hK.out _ _ trivial (fun _ => ?_)
   clear hK K
   try simp only [Act.put, List.setIfInBounds_toArray, List.set_cons_zero, List.set_cons_succ]
   refine wpAnyH_ready (rs := [5]) (by kernel_rfl) (by simp) ?_
   refine AllReadyH.cons rfl (fun K hK => ?_) AllReadyH.nil
   go_simp
   refine hK.out _ _ trivial (fun _ => ?_)
   clear hK K
   try simp only [Act.put, List.setIfInBounds_toArray, List.set_cons_zero, List.set_cons_succ]
   refine tq9 7 142 (v := (.int .u32 ((addM x0 sa : Nat) : Int))) rfl rfl (fun _ _ _ h => hQ _ _ _ _ _ h) ?_ trivial ?_
   · intro w hSw
     go_simp
   try simp only [Act.put, List.setIfInBounds_toArray, List.set_cons_zero, List.set_cons_succ]
   refine tq9 13 148 (v := (.int .u32 ((addM (addM x0 sa) x9 : Nat) : Int))) rfl rfl (fun _ _ _ h => hQ _ _ _ _ _ h) ?_ trivial ?_
   · intro w hSw
     go_simp
   try simp only [Act.put, List.setIfInBounds_toArray, List.set_cons_zero, List.set_cons_succ]
   refine tq9 15 150 (v := (.int .u32 (nx : Int))) rfl rfl (fun _ _ _ h => hQ _ _ _ _ _ h) ?_ trivial ?_
   · intro w hSw
     go_simp
   try simp only [Act.put, List.setIfInBounds_toArray, List.set_cons_zero, List.set_cons_succ]
   refine wpAnyH_ready (rs := [16]) (by kernel_rfl) (by simp) ?_
   refine AllReadyH.cons rfl (fun K hK => ?_) AllReadyH.nil
   go_simp
   refine hK.out _ _ trivial (fun _ => ?_)
   clear hK K
   try simp only [Act.put, List.setIfInBounds_toArray, List.set_cons_zero, List.set_cons_succ]
   have yb : Hid ((nx : Int) = (nx : Int)) := Lib.hid rfl
   refine wpAnyH_ready (rs := [17]) (by kernel_rfl) (by simp) ?_
   refine AllReadyH.cons rfl (fun K hK => ?_) AllReadyH.nil
   refine step_append1w (.tmp 135) (.tmp 151) rfl rfl B (.slice (some ⟨g9, 0, none⟩) (m + 16) c9) (m + 16) (S.take (m + 16)) (by rfl) O4 (nx : Int) nx yb (by rfl) (by omega) hs4 ?_
   intro v6 w6 O6 B6
   refine hK.out _ _ trivial (fun _ => ?_)
   clear hK K
   simp only [Act.put, List.setIfInBounds_toArray]
   refine tq9 18 9 (v := v6) rfl rfl (fun _ _ _ h => hQ _ _ _ _ _ h) ?_ trivial ?_
   · intro w hSw
     go_simp
   refine wpAnyH_done (by kernel_rfl) ?_ _
   rw [hnx.out] at O6
   exact HX.out _ _ _ _ _ _ _ _ _ _ _ _ _ _ _ _ _ _ _ _ _ _ _ _ _ _ _ _ _ _ _ _ _ _ _ _ _ _ _ _ _ _ _ _ _ _ _ _ _ _ _ _ _ _ _ _ _ _ _ _ _ _ _ _ _ _ _ _ _ _ _ _ _ _ _ _ _ _ _ _ _ _ _ _ _ v6 w6 O6 (Lib.hid (BW4.out.trans B6.out))
set_option maxRecDepth 1000000 in
set_option maxHeartbeats 8000000 in
theorem ref_b6 (Q : Exit → Act → World → Prop) (hQ : ∀ c (a : Act) d v w, Q (.panic c) (a.put d v) w → Q (.panic c) a w) (gb cb N k B : Nat) (blk S : List Nat) (hN : 64 * k + 64 ≤ N) (hN5 : N ≤ 5000) (hgb : gb < B) (hbl : Hid (blk.length = 64)) (hbb : Hid (∀ x ∈ blk, x < 256)) (hSl : Hid (S.length = 64)) (hS0 : Hid (∀ t, t < 16 → S.getD t 0 = be ((blk.drop (4 * t)).take 4))) (hS1 : Hid (∀ m, m + 16 < 64 → S.getD (m + 16) 0 = addM (addM (addM (S.getD m 0) (sig0 (S.getD (m + 1) 0))) (S.getD (m + 9) 0)) (sig1 (S.getD (m + 14) 0)))) (hSb : Hid (∀ i, S.getD i 0 < 4294967296)) (x0 x1 x2 x3 x5 x6 x7 x11 x12 x13 x14 x15 x16 x17 x18 x19 x20 x21 x22 x23 x24 x25 x26 x27 x28 x29 x30 x31 x32 x33 x34 x35 x36 x37 x38 x39 x40 x41 x42 x43 x44 x45 x46 x47 x48 x49 x50 x51 x52 x53 x54 x55 x56 x57 x58 x59 x60 x61 x62 x63 x64 x65 x66 x67 x68 x69 x70 x71 x72 x73 x74 x75 x76 x77 x78 x79 x80 x81 x82 x83 x84 x85 x86 x87 x88 x89 x90 x91 x92 x93 x94 x95 x96 x97 x98 x99 x100 x101 x102 x103 x104 x105 x106 x107 x108 x109 x110 x111 x112 x113 x114 x115 x116 x117 x118 x119 x120 x121 x122 x123 x124 x125 x126 x127 x128 x129 x130 x131 x132 x133 x134 x135 x136 x137 x138 x139 x140 x141 x142 x143 x144 x145 x146 x147 x148 x149 x150 x151 x152 x153 x154 x155 x156 x157 x158 x159 x160 x161 x162 x163 x164 x165 x166 x167 x168 x169 x170 x171 x172 x173 x174 x175 x176 x177 x178 x179 x180 x181 x182 x183 x184 x185 x186 x187 x188 x189 x190 x191 x192 x193 x194 x195 x196 x197 x198 x199 x200 x201 x202 x203 x204 x205 x206 x207 x208 x209 x210 x211 x212 x213 x214 x215 x216 x217 x218 x219 x220 x221 x222 x223 x224 x225 x226 x227 x228 x229 x230 x231 x232 x233 x234 x235 x236 x237 x238 x239 x240 x241 x242 x243 x244 x245 x246 x247 x248 x249 x250 x251 x252 x253 x254 x255 x256 x257 x258 x259 x260 x261 x262 x263 x264 x265 x266 x267 x268 x269 x270 x271 x272 x273 x274 x275 x276 x277 x278 x279 x280 x281 x282 x283 x284 x285 x286 : Value) (w : World) (hRB : Hid (∀ i, i < 64 → w.cell? ⟨gb, 64 * k + i, none⟩ = some (.int .u8 ((blk.getD i 0 : Nat) : Int)))) (hBs : B ≤ w.heap.size)
 (hexit : ∀ (y10 y11 y12 y13 y14 y68 y69 y70 y71 y72 y73 y74 y75 y76 y77 y78 y79 y80 y81 y82 y83 y84 y85 y86 y87 y88 y89 y90 y91 y92 y93 y94 y95 y96 y97 y98 y99 y100 y101 y102 y103 y104 y105 y106 y107 y108 y109 y110 y111 y112 y113 y114 y115 y116 y117 y118 y119 y120 y121 y122 y123 y124 y125 y126 y127 y128 y129 y130 y131 y132 y133 y134 y135 y136 y137 y138 y139 y140 y141 y142 y143 y144 y145 y146 y147 y148 y149 y150 y151 y152 : Value) (v' : Value) (w' : World), Hid (w'.ownsRow B 138 1 v' (64) (cellsK .u32 (S))) → Hid (Below B w w') → Q .normal ⟨#[x0, x1, x2, x3, (.slice (some ⟨gb, 0, none⟩) N cb), x5, x6, x7, (.int .i64 (64 * (k : Int))), v', y10, y11, y12, y13, y14, x15, x16, x17, x18, x19, x20, x21, x22, x23, x24, x25, x26, x27, x28, x29, x30, x31, x32, x33, x34, x35, x36, x37, x38, x39, x40, x41, x42, x43, x44, x45, x46, x47, x48, x49, x50, x51, x52, x53, x54, x55, x56, x57, x58, x59, x60, x61, x62, x63, x64, x65, x66, x67, y68, y69, y70, y71, y72, y73, y74, y75, y76, y77, y78, y79, y80, y81, y82, y83, y84, y85, y86, y87, y88, y89, y90, y91, y92, y93, y94, y95, y96, y97, y98, y99, y100, y101, y102, y103, y104, y105, y106, y107, y108, y109, y110, y111, y112, y113, y114, y115, y116, y117, y118, y119, y120, y121, y122, y123, y124, y125, y126, y127, y128, y129, y130, y131, y132, y133, y134, y135, y136, y137, y138, y139, y140, y141, y142, y143, y144, y145, y146, y147, y148, y149, y150, y151, y152, x153, x154, x155, x156, x157, x158, x159, x160, x161, x162, x163, x164, x165, x166, x167, x168, x169, x170, x171, x172, x173, x174, x175, x176, x177, x178, x179, x180, x181, x182, x183, x184, x185, x186, x187, x188, x189, x190, x191, x192, x193, x194, x195, x196, x197, x198, x199, x200, x201, x202, x203, x204, x205, x206, x207, x208, x209, x210, x211, x212, x213, x214, x215, x216, x217, x218, x219, x220, x221, x222, x223, x224, x225, x226, x227, x228, x229, x230, x231, x232, x233, x234, x235, x236, x237, x238, x239, x240, x241, x242, x243, x244, x245, x246, x247, x248, x249, x250, x251, x252, x253, x254, x255, x256, x257, x258, x259, x260, x261, x262, x263, x264, x265, x266, x267, x268, x269, x270, x271, x272, x273, x274, x275, x276, x277, x278, x279, x280, x281, x282, x283, x284, x285, x286], []⟩ w') :
 Code.wp Tryz.prog codeB6 Q ⟨#[x0, x1, x2, x3, (.slice (some ⟨gb, 0, none⟩) N cb), x5, x6, x7, (.int .i64 (64 * (k : Int))), (.slice none 0 0), (.int .i64 0), x11, x12, x13, x14, x15, x16, x17, x18, x19, x20, x21, x22, x23, x24, x25, x26, x27, x28, x29, x30, x31, x32, x33, x34, x35, x36, x37, x38, x39, x40, x41, x42, x43, x44, x45, x46, x47, x48, x49, x50, x51, x52, x53, x54, x55, x56, x57, x58, x59, x60, x61, x62, x63, x64, x65, x66, x67, x68, x69, x70, x71, x72, x73, x74, x75, x76, x77, x78, x79, x80, x81, x82, x83, x84, x85, x86, x87, x88, x89, x90, x91, x92, x93, x94, x95, x96, x97, x98, x99, x100, x101, x102, x103, x104, x105, x106, x107, x108, x109, x110, x111, x112, x113, x114, x115, x116, x117, x118, x119, x120, x121, x122, x123, x124, x125, x126, x127, x128, x129, x130, x131, x132, x133, x134, x135, x136, x137, x138, x139, x140, x141, x142, x143, x144, x145, x146, x147, x148, x149, x150, x151, x152, x153, x154, x155, x156, x157, x158, x159, x160, x161, x162, x163, x164, x165, x166, x167, x168, x169, x170, x171, x172, x173, x174, x175, x176, x177, x178, x179, x180, x181, x182, x183, x184, x185, x186, x187, x188, x189, x190, x191, x192, x193, x194, x195, x196, x197, x198, x199, x200, x201, x202, x203, x204, x205, x206, x207, x208, x209, x210, x211, x212, x213, x214, x215, x216, x217, x218, x219, x220, x221, x222, x223, x224, x225, x226, x227, x228, x229, x230, x231, x232, x233, x234, x235, x236, x237, x238, x239, x240, x241, x242, x243, x244, x245, x246, x247, x248, x249, x250, x251, x252, x253, x254, x255, x256, x257, x258, x259, x260, x261, x262, x263, x264, x265, x266, x267, x268, x269, x270, x271, x272, x273, x274, x275, x276, x277, x278, x279, x280, x281, x282, x283, x284, x285, x286], []⟩ w := by
 conv => arg 2; whnf
 have HX := Lib.hid hexit
 clear hexit
 have h0 : Hid (w.ownsRow B 138 1 (.slice none 0 0) (0) (cellsK .u32 (S.take 0))) := Lib.hid ⟨rfl, .inl ⟨rfl, rfl⟩⟩
 have hb0 := Lib.hid (Below.refl B w)
 go_wp2
 go_loopw [9, 10] (fun v i wr => ∃ t : Nat, t ≤ 64 ∧ i = .int .i64 (t : Int) ∧ Hid (wr.ownsRow B 138 1 v (t) (cellsK .u32 (S.take t))) ∧ Hid (Below B w wr)) (fun _ i _ => 64 - (intOf i).toNat)
 case atStart => exact ⟨0, by omega, rfl, h0, hb0⟩
 case round =>
  obtain ⟨t, ht, rfl, hO, hW⟩ := hrel
  clear h0 hb0
  have hz := Nat.le_trans hBs hW.out.size
  by_cases ht64 : t < 64
  · have hti : (t : Int) < 64 := by omega
    by_cases h16 : t < 16
    · have hb : Hid (∀ i, i < 64 → wr.cell? ⟨gb, 64 * k + i, none⟩ = some (.int .u8 ((blk.getD i 0 : Nat) : Int))) := Lib.hid (fun i hi => (hW.out.cell (p := ⟨gb, 64 * k + i, none⟩) hgb).trans (hRB.out i hi))
      have hS7 : Hid (S.take t ++ [be ((blk.drop (4 * t)).take 4)] = S.take (t + 1)) := Lib.hid (by
       rw [← hS0.out t h16]
       exact (take_succ_getDN (by rw [hSl.out]; omega)).symm)
      go_upto_block 7 with fail
      refine ref_b7a _ gb cb N k t B _ blk S h16 hN hN5 hbl hbb hS7 _ _ _ _ _ _ _ _ _ _ _ _ _ _ _ _ _ _ _ _ _ _ _ _ _ _ _ _ _ _ _ _ _ _ _ _ _ _ _ _ _ _ _ _ _ _ _ _ _ _ _ _ _ _ _ _ _ _ _ _ _ _ _ _ _ _ _ _ _ _ _ _ _ _ _ _ _ _ _ _ _ _ _ _ _ _ _ _ _ _ _ _ _ _ _ _ _ _ _ _ _ _ _ _ _ _ _ _ _ _ _ _ _ _ _ _ _ _ _ _ _ _ _ _ _ _ _ _ _ _ _ _ _ _ _ _ _ _ _ _ _ _ _ _ _ _ _ _ _ _ _ _ _ _ _ _ _ _ _ _ _ _ _ _ _ _ _ _ _ _ _ _ _ _ _ _ _ _ _ _ _ _ _ _ _ _ _ _ _ _ _ _ _ _ _ _ _ _ _ _ _ _ _ _ _ _ _ _ _ _ _ _ _ _ _ _ _ _ _ _ _ _ _ _ _ _ _ _ _ _ _ _ _ _ _ _ _ _ _ _ _ _ _ _ _ _ _ _ _ _ _ _ _ _ _ _ _ _ _ _ _ _ _ _ _ _ _ _ _ _ _ _ _ _ _ _ _ _ _ _ _ _ _ wr hb hO hz ?_
      intro z11 z12 z13 z14 z72 z73 z74 z75 z76 z77 z78 z79 z80 z81 z82 z83 z84 z85 z86 z87 z88 z89 z90 z91 z92 z93 z94 z95 z96 z97 z98 z99 z100 z101 z102 z103 z104 z105 z106 z107 z108 z109 z110 z111 z112 z113 z114 z115 z116 z117 z118 z119 z120 z121 z122 z123 z124 z125 z126 z127 z128 z129 z130 z131 z132 z133 z134 z135 z136 z137 z138 z139 z140 z141 z142 z143 z144 z145 z146 z147 z148 z149 z150 z151 z152 v5 w5 O5 B5
      clear hO hb hS7
      go_wp2
      go_roundw
      case rel => exact ⟨t + 1, by omega, by go_num, O5, Lib.hid (hW.out.trans B5.out)⟩
      case measure => simp [intOf]; omega
    · obtain ⟨m, rfl⟩ : ∃ m, t = m + 16 := ⟨t - 16, by omega⟩
      obtain ⟨g9, c9, rfl, _, _⟩ := own_formN hO.out (by omega)
      have hSm := Lib.hid (hS1.out m ht64)
      have hm : m < 48 := by omega
      rw [show ((m + 16 : Nat) : Int) = (m : Int) + 16 from by omega] at *
      go_upto_block 7 with fail
      refine ref_b7b _ ?_ g9 c9 m B S hm hSb hSm hSl _ _ _ _ _ _ _ _ _ _ _ _ _ _ _ _ _ _ _ _ _ _ _ _ _ _ _ _ _ _ _ _ _ _ _ _ _ _ _ _ _ _ _ _ _ _ _ _ _ _ _ _ _ _ _ _ _ _ _ _ _ _ _ _ _ _ _ _ _ _ _ _ _ _ _ _ _ _ _ _ _ _ _ _ _ _ _ _ _ _ _ _ _ _ _ _ _ _ _ _ _ _ _ _ _ _ _ _ _ _ _ _ _ _ _ _ _ _ _ _ _ _ _ _ _ _ _ _ _ _ _ _ _ _ _ _ _ _ _ _ _ _ _ _ _ _ _ _ _ _ _ _ _ _ _ _ _ _ _ _ _ _ _ _ _ _ _ _ _ _ _ _ _ _ _ _ _ _ _ _ _ _ _ _ _ _ _ _ _ _ _ _ _ _ _ _ _ _ _ _ _ _ _ _ _ _ _ _ _ _ _ _ _ _ _ _ _ _ _ _ _ _ _ _ _ _ _ _ _ _ _ _ _ _ _ _ _ _ _ _ _ _ _ _ _ _ _ _ _ _ _ _ _ _ _ _ _ _ _ _ _ _ _ _ _ _ _ _ _ _ _ _ _ _ _ _ _ _ _ _ _ _ _ _ _ wr hO hz ?_
      · exact fun _ _ _ _ _ h => hQ _ _ _ _ _ h
      intro z11 z12 z13 z14 z72 z73 z74 z75 z76 z77 z78 z79 z80 z81 z82 z83 z84 z85 z86 z87 z88 z89 z90 z91 z92 z93 z94 z95 z96 z97 z98 z99 z100 z101 z102 z103 z104 z105 z106 z107 z108 z109 z110 z111 z112 z113 z114 z115 z116 z117 z118 z119 z120 z121 z122 z123 z124 z125 z126 z127 z128 z129 z130 z131 z132 z133 z134 z135 z136 z137 z138 z139 z140 z141 z142 z143 z144 z145 z146 z147 z148 z149 z150 z151 z152 v5 w5 O5 B5
      clear hO hSm
      have hmi : (m : Int) + 16 < 64 := by omega
      go_wp2
      go_roundw
      case rel => exact ⟨m + 16 + 1, by omega, by go_num, O5, Lib.hid (hW.out.trans B5.out)⟩
      case measure => simp [intOf]; omega
  · obtain rfl : t = 64 := by omega
    rw [List.take_of_length_le (by rw [hSl.out]; omega)] at hO
    go_wp2
    exact HX.out _ _ _ _ _ _ _ _ _ _ _ _ _ _ _ _ _ _ _ _ _ _ _ _ _ _ _ _ _ _ _ _ _ _ _ _ _ _ _ _ _ _ _ _ _ _ _ _ _ _ _ _ _ _ _ _ _ _ _ _ _ _ _ _ _ _ _ _ _ _ _ _ _ _ _ _ _ _ _ _ _ _ _ _ _ _ _ _ _ _ _ _ hO hW
set_option maxRecDepth 1000000 in
set_option maxHeartbeats 8000000 in
theorem ref_b11 (Q : Exit → Act → World → Prop) (gt g9 c9 t xa xb xc xd xe xf xg xh kt wt : Nat) (ht : t < 64) (hok : Hid (St.ok ⟨xa, xb, xc, xd, xe, xf, xg, xh⟩)) (x0 x1 x2 x4 x5 x6 x7 x8 x10 x11 x12 x13 x14 x24 x25 x26 x27 x28 x29 x30 x31 x32 x33 x34 x35 x36 x37 x38 x39 x40 x41 x42 x43 x44 x45 x46 x47 x48 x49 x50 x51 x52 x53 x54 x55 x56 x57 x58 x59 x60 x61 x62 x63 x64 x65 x66 x67 x68 x69 x70 x71 x72 x73 x74 x75 x76 x77 x78 x79 x80 x81 x82 x83 x84 x85 x86 x87 x88 x89 x90 x91 x92 x93 x94 x95 x96 x97 x98 x99 x100 x101 x102 x103 x104 x105 x106 x107 x108 x109 x110 x111 x112 x113 x114 x115 x116 x117 x118 x119 x120 x121 x122 x123 x124 x125 x126 x127 x128 x129 x130 x131 x132 x133 x134 x135 x136 x137 x138 x139 x140 x141 x142 x143 x144 x145 x146 x147 x148 x149 x150 x151 x152 x153 x154 x155 x156 x157 x158 x159 x160 x161 x162 x163 x164 x165 x166 x167 x168 x169 x170 x171 x172 x173 x174 x175 x176 x177 x178 x179 x180 x181 x182 x183 x184 x185 x186 x187 x188 x189 x190 x191 x192 x193 x194 x195 x196 x197 x198 x199 x200 x201 x202 x203 x204 x205 x206 x207 x208 x209 x210 x211 x212 x213 x214 x215 x216 x217 x218 x219 x220 x221 x222 x223 x224 x225 x226 x227 x228 x229 x230 x231 x232 x233 x234 x235 x236 x237 x238 x239 x240 x241 x242 x243 x244 x245 x246 x247 x248 x249 x250 x251 x252 x253 x254 x255 x256 x257 x258 x259 x260 x261 x262 x263 x264 x265 x266 x267 x268 x269 x270 x271 x272 x273 x274 x275 x276 x277 x278 x279 x280 x281 x282 x283 x284 x285 x286 : Value) (w : World) (ck : w.cell? ⟨gt, t, none⟩ = some (.int .u32 (kt : Int))) (cw : w.cell? ⟨g9, t, none⟩ = some (.int .u32 (wt : Int)))
 (hexit : ∀ (y24 y25 y181 y182 y183 y184 y185 y186 y187 y188 y189 y190 y191 y192 y193 y194 y195 y196 y197 y198 y199 y200 y201 y202 y203 y204 y205 y206 y207 y208 y209 y210 y211 y212 y213 y214 y215 y216 y217 y218 y219 y220 y221 y222 y223 y224 y225 y226 y227 y228 y229 y230 y231 y232 y233 y234 y235 y236 y237 y238 y239 y240 y241 : Value) (w' : World), (∃ n, w' = w.drewN n) → Q .normal ⟨#[x0, x1, x2, (.slice (some ⟨gt, 0, none⟩) 64 64), x4, x5, x6, x7, x8, (.slice (some ⟨g9, 0, none⟩) 64 c9), x10, x11, x12, x13, x14, (.int .u32 (((rnd ⟨xa, xb, xc, xd, xe, xf, xg, xh⟩ kt wt).a : Nat) : Int)), (.int .u32 (((rnd ⟨xa, xb, xc, xd, xe, xf, xg, xh⟩ kt wt).c : Nat) : Int)), (.int .u32 (((rnd ⟨xa, xb, xc, xd, xe, xf, xg, xh⟩ kt wt).d : Nat) : Int)), (.int .u32 (((rnd ⟨xa, xb, xc, xd, xe, xf, xg, xh⟩ kt wt).e : Nat) : Int)), (.int .u32 (((rnd ⟨xa, xb, xc, xd, xe, xf, xg, xh⟩ kt wt).b : Nat) : Int)), (.int .u32 (((rnd ⟨xa, xb, xc, xd, xe, xf, xg, xh⟩ kt wt).f : Nat) : Int)), (.int .u32 (((rnd ⟨xa, xb, xc, xd, xe, xf, xg, xh⟩ kt wt).g : Nat) : Int)), (.int .u32 (((rnd ⟨xa, xb, xc, xd, xe, xf, xg, xh⟩ kt wt).h : Nat) : Int)), (.int .i64 (t : Int)), y24, y25, x26, x27, x28, x29, x30, x31, x32, x33, x34, x35, x36, x37, x38, x39, x40, x41, x42, x43, x44, x45, x46, x47, x48, x49, x50, x51, x52, x53, x54, x55, x56, x57, x58, x59, x60, x61, x62, x63, x64, x65, x66, x67, x68, x69, x70, x71, x72, x73, x74, x75, x76, x77, x78, x79, x80, x81, x82, x83, x84, x85, x86, x87, x88, x89, x90, x91, x92, x93, x94, x95, x96, x97, x98, x99, x100, x101, x102, x103, x104, x105, x106, x107, x108, x109, x110, x111, x112, x113, x114, x115, x116, x117, x118, x119, x120, x121, x122, x123, x124, x125, x126, x127, x128, x129, x130, x131, x132, x133, x134, x135, x136, x137, x138, x139, x140, x141, x142, x143, x144, x145, x146, x147, x148, x149, x150, x151, x152, x153, x154, x155, x156, x157, x158, x159, x160, x161, x162, x163, x164, x165, x166, x167, x168, x169, x170, x171, x172, x173, x174, x175, x176, x177, x178, x179, x180, y181, y182, y183, y184, y185, y186, y187, y188, y189, y190, y191, y192, y193, y194, y195, y196, y197, y198, y199, y200, y201, y202, y203, y204, y205, y206, y207, y208, y209, y210, y211, y212, y213, y214, y215, y216, y217, y218, y219, y220, y221, y222, y223, y224, y225, y226, y227, y228, y229, y230, y231, y232, y233, y234, y235, y236, y237, y238, y239, y240, y241, x242, x243, x244, x245, x246, x247, x248, x249, x250, x251, x252, x253, x254, x255, x256, x257, x258, x259, x260, x261, x262, x263, x264, x265, x266, x267, x268, x269, x270, x271, x272, x273, x274, x275, x276, x277, x278, x279, x280, x281, x282, x283, x284, x285, x286], []⟩ w') :
 Code.wp Tryz.prog codeB11 Q ⟨#[x0, x1, x2, (.slice (some ⟨gt, 0, none⟩) 64 64), x4, x5, x6, x7, x8, (.slice (some ⟨g9, 0, none⟩) 64 c9), x10, x11, x12, x13, x14, (.int .u32 ((xa : Nat) : Int)), (.int .u32 ((xc : Nat) : Int)), (.int .u32 ((xd : Nat) : Int)), (.int .u32 ((xe : Nat) : Int)), (.int .u32 ((xb : Nat) : Int)), (.int .u32 ((xf : Nat) : Int)), (.int .u32 ((xg : Nat) : Int)), (.int .u32 ((xh : Nat) : Int)), (.int .i64 (t : Int)), x24, x25, x26, x27, x28, x29, x30, x31, x32, x33, x34, x35, x36, x37, x38, x39, x40, x41, x42, x43, x44, x45, x46, x47, x48, x49, x50, x51, x52, x53, x54, x55, x56, x57, x58, x59, x60, x61, x62, x63, x64, x65, x66, x67, x68, x69, x70, x71, x72, x73, x74, x75, x76, x77, x78, x79, x80, x81, x82, x83, x84, x85, x86, x87, x88, x89, x90, x91, x92, x93, x94, x95, x96, x97, x98, x99, x100, x101, x102, x103, x104, x105, x106, x107, x108, x109, x110, x111, x112, x113, x114, x115, x116, x117, x118, x119, x120, x121, x122, x123, x124, x125, x126, x127, x128, x129, x130, x131, x132, x133, x134, x135, x136, x137, x138, x139, x140, x141, x142, x143, x144, x145, x146, x147, x148, x149, x150, x151, x152, x153, x154, x155, x156, x157, x158, x159, x160, x161, x162, x163, x164, x165, x166, x167, x168, x169, x170, x171, x172, x173, x174, x175, x176, x177, x178, x179, x180, x181, x182, x183, x184, x185, x186, x187, x188, x189, x190, x191, x192, x193, x194, x195, x196, x197, x198, x199, x200, x201, x202, x203, x204, x205, x206, x207, x208, x209, x210, x211, x212, x213, x214, x215, x216, x217, x218, x219, x220, x221, x222, x223, x224, x225, x226, x227, x228, x229, x230, x231, x232, x233, x234, x235, x236, x237, x238, x239, x240, x241, x242, x243, x244, x245, x246, x247, x248, x249, x250, x251, x252, x253, x254, x255, x256, x257, x258, x259, x260, x261, x262, x263, x264, x265, x266, x267, x268, x269, x270, x271, x272, x273, x274, x275, x276, x277, x278, x279, x280, x281, x282, x283, x284, x285, x286], []⟩ w := by
 conv => arg 2; whnf
 have HX := Lib.hid hexit
 clear hexit
 obtain ⟨ha, hb, hc, hd, he, hf, hg, hh⟩ := hok.out
 dsimp only at ha hb hc hd he hf hg hh
 have x1 : bits .xor .u32 (bits .xor .u32 (dn xe 6 : Int) (dn xe 11 : Int)) (dn xe 25 : Int) = (bS1 xe : Int) := mix_sums ⟨xa, xb, xc, xd, xe, xf, xg, xh⟩ 0 0 hok.out
 have xn : IntKind.u32.wrap (4294967295 - (xe : Int)) = (notN32 xe : Int) := by rw [IntKind.wrap_u32']; unfold notN32; omega
 have x2 : bits .xor .u32 (bits .and .u32 (xe : Int) (xf : Int)) (bits .and .u32 (notN32 xe : Int) (xg : Int)) = (chN xe xf xg : Int) := mix_ch ⟨xa, xb, xc, xd, xe, xf, xg, xh⟩ hok.out
 have y1' := wrap_add xh (bS1 xe)
 have y2' := wrap_add (addM xh (bS1 xe)) (chN xe xf xg)
 have y3' := wrap_add (addM (addM xh (bS1 xe)) (chN xe xf xg)) kt
 have y4' := wrap_add (addM (addM (addM xh (bS1 xe)) (chN xe xf xg)) kt) wt
 have ht' : (t : Int) < 64 := by omega
 have ht0 : (0 : Int) ≤ (t : Int) := by omega
 go_wp2
 go_big_quiet ((first | (go_at_call 79; with_reducible exact Calls.quiet_of (rdown_6 xe he _)) | (go_at_call 79; with_reducible exact Calls.quiet_of (rdown_11 xe he _)) | (go_at_call 79; with_reducible exact Calls.quiet_of (rdown_25 xe he _))))
 clear x1 xn x2 y1' y2' y3' y4' ck cw he hf hg hh
 obtain ⟨tq, htq⟩ : ∃ q, q = addM (addM (addM (addM xh (bS1 xe)) (chN xe xf xg)) kt) wt := ⟨_, rfl⟩
 rw [← htq]
 have HT := Lib.hid htq
 clear htq
 have x3 : bits .xor .u32 (bits .xor .u32 (dn xa 2 : Int) (dn xa 13 : Int)) (dn xa 22 : Int) = (bS0 xa : Int) := mix_sums0 ⟨xa, xb, xc, xd, xe, xf, xg, xh⟩ hok.out
 have x4 : bits .xor .u32 (bits .xor .u32 (bits .and .u32 (xa : Int) (xb : Int)) (bits .and .u32 (xa : Int) (xc : Int))) (bits .and .u32 (xb : Int) (xc : Int)) = (majN xa xb xc : Int) := mix_maj ⟨xa, xb, xc, xd, xe, xf, xg, xh⟩ hok.out
 have z1 := wrap_add' (bS0 xa) (majN xa xb xc)
 have z2 := wrap_add' xd tq
 have z3 := wrap_add' tq (addM (bS0 xa) (majN xa xb xc))
 generalize hw4 : w.drewN nq = w4 at *
 have HW4 : Hid (∃ n, w4 = w.drewN n) := Lib.hid ⟨nq, hw4.symm⟩
 clear hw4
 go_wp2_with (first | (go_at_call 79; with_reducible refine (rdown_2 xa ha _).mono ?_; rintro e w5 ⟨rfl, hw5⟩) | (go_at_call 79; with_reducible refine (rdown_13 xa ha _).mono ?_; rintro e w6 ⟨rfl, hw6⟩) | (go_at_call 79; with_reducible refine (rdown_22 xa ha _).mono ?_; rintro e w7 ⟨rfl, hw7⟩))
 obtain ⟨n4, hn4⟩ := HW4.out
 obtain ⟨n5, hn5⟩ := hw5
 obtain ⟨n6, hn6⟩ := hw6
 obtain ⟨n7, hn7⟩ := hw7
 have htq := HT.out
 subst htq
 exact HX.out _ _ _ _ _ _ _ _ _ _ _ _ _ _ _ _ _ _ _ _ _ _ _ _ _ _ _ _ _ _ _ _ _ _ _ _ _ _ _ _ _ _ _ _ _ _ _ _ _ _ _ _ _ _ _ _ _ _ _ _ _ _ _ w7 ⟨n4 + n5 + n6 + n7, by rw [hn7, hn6, hn5, hn4, World.drewN_drewN, World.drewN_drewN, World.drewN_drewN, Nat.add_assoc, Nat.add_assoc]⟩
set_option maxRecDepth 1000000 in
set_option maxHeartbeats 8000000 in
theorem ref_b10 (Q : Exit → Act → World → Prop) (gt g9 c9 : Nat) (S : List Nat) (st : St) (hok : Hid st.ok) (x0 x1 x2 x4 x5 x6 x7 x8 x10 x11 x12 x13 x14 x24 x25 x26 x27 x28 x29 x30 x31 x32 x33 x34 x35 x36 x37 x38 x39 x40 x41 x42 x43 x44 x45 x46 x47 x48 x49 x50 x51 x52 x53 x54 x55 x56 x57 x58 x59 x60 x61 x62 x63 x64 x65 x66 x67 x68 x69 x70 x71 x72 x73 x74 x75 x76 x77 x78 x79 x80 x81 x82 x83 x84 x85 x86 x87 x88 x89 x90 x91 x92 x93 x94 x95 x96 x97 x98 x99 x100 x101 x102 x103 x104 x105 x106 x107 x108 x109 x110 x111 x112 x113 x114 x115 x116 x117 x118 x119 x120 x121 x122 x123 x124 x125 x126 x127 x128 x129 x130 x131 x132 x133 x134 x135 x136 x137 x138 x139 x140 x141 x142 x143 x144 x145 x146 x147 x148 x149 x150 x151 x152 x153 x154 x155 x156 x157 x158 x159 x160 x161 x162 x163 x164 x165 x166 x167 x168 x169 x170 x171 x172 x173 x174 x175 x176 x177 x178 x179 x180 x181 x182 x183 x184 x185 x186 x187 x188 x189 x190 x191 x192 x193 x194 x195 x196 x197 x198 x199 x200 x201 x202 x203 x204 x205 x206 x207 x208 x209 x210 x211 x212 x213 x214 x215 x216 x217 x218 x219 x220 x221 x222 x223 x224 x225 x226 x227 x228 x229 x230 x231 x232 x233 x234 x235 x236 x237 x238 x239 x240 x241 x242 x243 x244 x245 x246 x247 x248 x249 x250 x251 x252 x253 x254 x255 x256 x257 x258 x259 x260 x261 x262 x263 x264 x265 x266 x267 x268 x269 x270 x271 x272 x273 x274 x275 x276 x277 x278 x279 x280 x281 x282 x283 x284 x285 x286 : Value) (w : World) (hT : Hid (∀ t, t < 64 → w.cell? ⟨gt, t, none⟩ = some (.int .u32 ((rootsN.getD t 0 : Nat) : Int)))) (hW : Hid (∀ t, t < 64 → w.cell? ⟨g9, t, none⟩ = some (.int .u32 ((S.getD t 0 : Nat) : Int))))
 (hexit : ∀ (y23 y24 y25 y177 y178 y179 y180 y181 y182 y183 y184 y185 y186 y187 y188 y189 y190 y191 y192 y193 y194 y195 y196 y197 y198 y199 y200 y201 y202 y203 y204 y205 y206 y207 y208 y209 y210 y211 y212 y213 y214 y215 y216 y217 y218 y219 y220 y221 y222 y223 y224 y225 y226 y227 y228 y229 y230 y231 y232 y233 y234 y235 y236 y237 y238 y239 y240 y241 : Value) (w' : World), (∃ n, w' = w.drewN n) → Q .normal ⟨#[x0, x1, x2, (.slice (some ⟨gt, 0, none⟩) 64 64), x4, x5, x6, x7, x8, (.slice (some ⟨g9, 0, none⟩) 64 c9), x10, x11, x12, x13, x14, (.int .u32 (((rnds rootsN S st 64).a : Nat) : Int)), (.int .u32 (((rnds rootsN S st 64).c : Nat) : Int)), (.int .u32 (((rnds rootsN S st 64).d : Nat) : Int)), (.int .u32 (((rnds rootsN S st 64).e : Nat) : Int)), (.int .u32 (((rnds rootsN S st 64).b : Nat) : Int)), (.int .u32 (((rnds rootsN S st 64).f : Nat) : Int)), (.int .u32 (((rnds rootsN S st 64).g : Nat) : Int)), (.int .u32 (((rnds rootsN S st 64).h : Nat) : Int)), y23, y24, y25, x26, x27, x28, x29, x30, x31, x32, x33, x34, x35, x36, x37, x38, x39, x40, x41, x42, x43, x44, x45, x46, x47, x48, x49, x50, x51, x52, x53, x54, x55, x56, x57, x58, x59, x60, x61, x62, x63, x64, x65, x66, x67, x68, x69, x70, x71, x72, x73, x74, x75, x76, x77, x78, x79, x80, x81, x82, x83, x84, x85, x86, x87, x88, x89, x90, x91, x92, x93, x94, x95, x96, x97, x98, x99, x100, x101, x102, x103, x104, x105, x106, x107, x108, x109, x110, x111, x112, x113, x114, x115, x116, x117, x118, x119, x120, x121, x122, x123, x124, x125, x126, x127, x128, x129, x130, x131, x132, x133, x134, x135, x136, x137, x138, x139, x140, x141, x142, x143, x144, x145, x146, x147, x148, x149, x150, x151, x152, x153, x154, x155, x156, x157, x158, x159, x160, x161, x162, x163, x164, x165, x166, x167, x168, x169, x170, x171, x172, x173, x174, x175, x176, y177, y178, y179, y180, y181, y182, y183, y184, y185, y186, y187, y188, y189, y190, y191, y192, y193, y194, y195, y196, y197, y198, y199, y200, y201, y202, y203, y204, y205, y206, y207, y208, y209, y210, y211, y212, y213, y214, y215, y216, y217, y218, y219, y220, y221, y222, y223, y224, y225, y226, y227, y228, y229, y230, y231, y232, y233, y234, y235, y236, y237, y238, y239, y240, y241, x242, x243, x244, x245, x246, x247, x248, x249, x250, x251, x252, x253, x254, x255, x256, x257, x258, x259, x260, x261, x262, x263, x264, x265, x266, x267, x268, x269, x270, x271, x272, x273, x274, x275, x276, x277, x278, x279, x280, x281, x282, x283, x284, x285, x286], []⟩ w') :
 Code.wp Tryz.prog codeB10 Q ⟨#[x0, x1, x2, (.slice (some ⟨gt, 0, none⟩) 64 64), x4, x5, x6, x7, x8, (.slice (some ⟨g9, 0, none⟩) 64 c9), x10, x11, x12, x13, x14, (.int .u32 ((st.a : Nat) : Int)), (.int .u32 ((st.c : Nat) : Int)), (.int .u32 ((st.d : Nat) : Int)), (.int .u32 ((st.e : Nat) : Int)), (.int .u32 ((st.b : Nat) : Int)), (.int .u32 ((st.f : Nat) : Int)), (.int .u32 ((st.g : Nat) : Int)), (.int .u32 ((st.h : Nat) : Int)), (.int .i64 0), x24, x25, x26, x27, x28, x29, x30, x31, x32, x33, x34, x35, x36, x37, x38, x39, x40, x41, x42, x43, x44, x45, x46, x47, x48, x49, x50, x51, x52, x53, x54, x55, x56, x57, x58, x59, x60, x61, x62, x63, x64, x65, x66, x67, x68, x69, x70, x71, x72, x73, x74, x75, x76, x77, x78, x79, x80, x81, x82, x83, x84, x85, x86, x87, x88, x89, x90, x91, x92, x93, x94, x95, x96, x97, x98, x99, x100, x101, x102, x103, x104, x105, x106, x107, x108, x109, x110, x111, x112, x113, x114, x115, x116, x117, x118, x119, x120, x121, x122, x123, x124, x125, x126, x127, x128, x129, x130, x131, x132, x133, x134, x135, x136, x137, x138, x139, x140, x141, x142, x143, x144, x145, x146, x147, x148, x149, x150, x151, x152, x153, x154, x155, x156, x157, x158, x159, x160, x161, x162, x163, x164, x165, x166, x167, x168, x169, x170, x171, x172, x173, x174, x175, x176, x177, x178, x179, x180, x181, x182, x183, x184, x185, x186, x187, x188, x189, x190, x191, x192, x193, x194, x195, x196, x197, x198, x199, x200, x201, x202, x203, x204, x205, x206, x207, x208, x209, x210, x211, x212, x213, x214, x215, x216, x217, x218, x219, x220, x221, x222, x223, x224, x225, x226, x227, x228, x229, x230, x231, x232, x233, x234, x235, x236, x237, x238, x239, x240, x241, x242, x243, x244, x245, x246, x247, x248, x249, x250, x251, x252, x253, x254, x255, x256, x257, x258, x259, x260, x261, x262, x263, x264, x265, x266, x267, x268, x269, x270, x271, x272, x273, x274, x275, x276, x277, x278, x279, x280, x281, x282, x283, x284, x285, x286], []⟩ w := by
 conv => arg 2; whnf
 have HX := Lib.hid hexit
 clear hexit
 have h0 : Hid (∃ n, w = w.drewN n) := Lib.hid ⟨0, rfl⟩
 go_wp2
 go_loopw [15, 16, 17, 18, 19, 20, 21, 22, 23] (fun va vc vd ve vb vf vg vh vt wr => ∃ (t : Nat) (x : St), t ≤ 64 ∧ vt = .int .i64 (t : Int) ∧ Hid (rnds rootsN S st t = x) ∧ va = .int .u32 (x.a : Int) ∧ vb = .int .u32 (x.b : Int) ∧ vc = .int .u32 (x.c : Int) ∧ vd = .int .u32 (x.d : Int) ∧ ve = .int .u32 (x.e : Int) ∧ vf = .int .u32 (x.f : Int) ∧ vg = .int .u32 (x.g : Int) ∧ vh = .int .u32 (x.h : Int) ∧ Hid (∃ n, wr = w.drewN n)) (fun _ _ _ _ _ _ _ _ i _ => 64 - (intOf i).toNat)
 case atStart => exact ⟨0, st, by omega, rfl, Lib.hid rfl, rfl, rfl, rfl, rfl, rfl, rfl, rfl, rfl, h0⟩
 case round =>
  obtain ⟨t, x, ht, rfl, hx, rfl, rfl, rfl, rfl, rfl, rfl, rfl, rfl, hn⟩ := hrel
  clear h0
  by_cases ht64 : t < 64
  · have hti : (t : Int) < 64 := by omega
    obtain ⟨n, rfl⟩ := hn.out
    have ck : (w.drewN n).cell? ⟨gt, t, none⟩ = some (.int .u32 ((rootsN.getD t 0 : Nat) : Int)) := hT.out t ht64
    have cw : (w.drewN n).cell? ⟨g9, t, none⟩ = some (.int .u32 ((S.getD t 0 : Nat) : Int)) := hW.out t ht64
    have hxo : Hid (St.ok ⟨x.a, x.b, x.c, x.d, x.e, x.f, x.g, x.h⟩) := Lib.hid (by
     have := rnds_ok rootsN S st hok.out t
     rw [hx.out] at this
     exact this)
    have hx1 : Hid (rnds rootsN S st (t + 1) = rnd ⟨x.a, x.b, x.c, x.d, x.e, x.f, x.g, x.h⟩ (rootsN.getD t 0) (S.getD t 0)) := Lib.hid (by rw [rnds, hx.out])
    clear hx
    generalize rootsN.getD t 0 = kt at *
    generalize S.getD t 0 = wt at *
    go_upto_block 11 with fail
    refine ref_b11 _ gt g9 c9 t x.a x.b x.c x.d x.e x.f x.g x.h kt wt ht64 hxo _ _ _ _ _ _ _ _ _ _ _ _ _ _ _ _ _ _ _ _ _ _ _ _ _ _ _ _ _ _ _ _ _ _ _ _ _ _ _ _ _ _ _ _ _ _ _ _ _ _ _ _ _ _ _ _ _ _ _ _ _ _ _ _ _ _ _ _ _ _ _ _ _ _ _ _ _ _ _ _ _ _ _ _ _ _ _ _ _ _ _ _ _ _ _ _ _ _ _ _ _ _ _ _ _ _ _ _ _ _ _ _ _ _ _ _ _ _ _ _ _ _ _ _ _ _ _ _ _ _ _ _ _ _ _ _ _ _ _ _ _ _ _ _ _ _ _ _ _ _ _ _ _ _ _ _ _ _ _ _ _ _ _ _ _ _ _ _ _ _ _ _ _ _ _ _ _ _ _ _ _ _ _ _ _ _ _ _ _ _ _ _ _ _ _ _ _ _ _ _ _ _ _ _ _ _ _ _ _ _ _ _ _ _ _ _ _ _ _ _ _ _ _ _ _ _ _ _ _ _ _ _ _ _ _ _ _ _ _ _ _ _ _ _ _ _ _ _ _ _ _ _ _ _ _ _ _ _ _ _ _ _ _ _ _ _ _ _ _ _ _ _ _ _ _ _ _ ck cw ?_
    intro z24 z25 z181 z182 z183 z184 z185 z186 z187 z188 z189 z190 z191 z192 z193 z194 z195 z196 z197 z198 z199 z200 z201 z202 z203 z204 z205 z206 z207 z208 z209 z210 z211 z212 z213 z214 z215 z216 z217 z218 z219 z220 z221 z222 z223 z224 z225 z226 z227 z228 z229 z230 z231 z232 z233 z234 z235 z236 z237 z238 z239 z240 z241 w5 hn5
    clear ck cw hn
    obtain ⟨n5, hn5⟩ := hn5
    have hn6 : Hid (∃ n, w5 = w.drewN n) := Lib.hid ⟨n + n5, by rw [hn5, World.drewN_drewN]⟩
    clear hn5
    go_wp2
    go_roundw
    case rel => exact ⟨t + 1, _, by omega, by go_num, hx1, rfl, rfl, rfl, rfl, rfl, rfl, rfl, rfl, hn6⟩
    case measure => simp [intOf]; omega
  · obtain rfl : t = 64 := by omega
    have hx' := hx.out
    subst hx'
    go_wp2
    exact HX.out _ _ _ _ _ _ _ _ _ _ _ _ _ _ _ _ _ _ _ _ _ _ _ _ _ _ _ _ _ _ _ _ _ _ _ _ _ _ _ _ _ _ _ _ _ _ _ _ _ _ _ _ _ _ _ _ _ _ _ _ _ _ _ _ _ _ _ _ _ hn.out
theorem mixP_length (s r : List Nat) : ∀ i, (mixP s r i).length = s.length
 | 0 => rfl
 | i + 1 => by rw [mixP, List.length_set, mixP_length s r i]
theorem mixP_getD (s r : List Nat) : ∀ i j, i ≤ j → (mixP s r i).getD j 0 = s.getD j 0
 | 0, _, _ => rfl
 | i + 1, j, h => by
  rw [mixP, List.getD_eq_getElem?_getD, List.getElem?_set_ne (by omega), ← List.getD_eq_getElem?_getD, mixP_getD s r i j (by omega)]
set_option maxRecDepth 1000000 in
set_option maxHeartbeats 8000000 in
theorem ref_b12 (Q : Exit → Act → World → Prop) (g7 gx : Nat) (s r : List Nat) (hne : g7 ≠ gx) (hs : Hid (s.length = 8)) (hr : Hid (r.length = 8)) (x0 x1 x2 x3 x4 x5 x6 x8 x9 x10 x11 x12 x13 x14 x15 x16 x17 x18 x19 x20 x21 x22 x23 x24 x25 x26 x27 x28 x29 x30 x31 x32 x33 x34 x35 x36 x37 x38 x39 x40 x41 x42 x43 x44 x45 x46 x47 x48 x49 x50 x51 x52 x53 x54 x55 x56 x57 x58 x59 x60 x61 x62 x63 x64 x65 x66 x67 x68 x69 x70 x71 x72 x73 x74 x75 x76 x77 x78 x79 x80 x81 x82 x83 x84 x85 x86 x87 x88 x89 x90 x91 x92 x93 x94 x95 x96 x97 x98 x99 x100 x101 x102 x103 x104 x105 x106 x107 x108 x109 x110 x111 x112 x113 x114 x115 x116 x117 x118 x119 x120 x121 x122 x123 x124 x125 x126 x127 x128 x129 x130 x131 x132 x133 x134 x135 x136 x137 x138 x139 x140 x141 x142 x143 x144 x145 x146 x147 x148 x149 x150 x151 x152 x153 x154 x155 x156 x157 x158 x159 x160 x161 x162 x163 x164 x165 x166 x167 x168 x169 x170 x171 x172 x173 x174 x175 x176 x177 x178 x179 x180 x181 x182 x183 x184 x185 x186 x187 x188 x189 x190 x191 x192 x193 x194 x195 x196 x197 x198 x199 x200 x201 x202 x203 x204 x205 x206 x207 x208 x209 x210 x211 x212 x213 x214 x215 x216 x217 x218 x219 x220 x221 x222 x223 x224 x225 x226 x227 x228 x229 x230 x231 x232 x233 x234 x235 x236 x237 x238 x239 x240 x241 x242 x243 x244 x245 x246 x247 x248 x249 x253 x254 x255 x256 x257 x258 x259 x260 x261 x262 x263 x264 x265 x266 x267 x268 x269 x270 x271 x272 x273 x274 x275 x276 x277 x278 x279 x280 x281 x282 x283 x284 x285 x286 : Value) (w : World) (h7 : Hid (Row w g7 .u32 138 (s))) (hx : Hid (Row w gx .u32 138 (r)))
 (hexit : ∀ (y26 y27 y252 y253 y254 y255 y256 y257 y258 y259 y260 y261 y262 y263 y264 : Value) (w' : World), Hid (Row w' g7 .u32 138 (mixP s r 8)) → Hid (Below g7 w w') → Q .normal ⟨#[x0, x1, x2, x3, x4, x5, x6, (.slice (some ⟨g7, 0, none⟩) 8 8), x8, x9, x10, x11, x12, x13, x14, x15, x16, x17, x18, x19, x20, x21, x22, x23, x24, x25, y26, y27, x28, x29, x30, x31, x32, x33, x34, x35, x36, x37, x38, x39, x40, x41, x42, x43, x44, x45, x46, x47, x48, x49, x50, x51, x52, x53, x54, x55, x56, x57, x58, x59, x60, x61, x62, x63, x64, x65, x66, x67, x68, x69, x70, x71, x72, x73, x74, x75, x76, x77, x78, x79, x80, x81, x82, x83, x84, x85, x86, x87, x88, x89, x90, x91, x92, x93, x94, x95, x96, x97, x98, x99, x100, x101, x102, x103, x104, x105, x106, x107, x108, x109, x110, x111, x112, x113, x114, x115, x116, x117, x118, x119, x120, x121, x122, x123, x124, x125, x126, x127, x128, x129, x130, x131, x132, x133, x134, x135, x136, x137, x138, x139, x140, x141, x142, x143, x144, x145, x146, x147, x148, x149, x150, x151, x152, x153, x154, x155, x156, x157, x158, x159, x160, x161, x162, x163, x164, x165, x166, x167, x168, x169, x170, x171, x172, x173, x174, x175, x176, x177, x178, x179, x180, x181, x182, x183, x184, x185, x186, x187, x188, x189, x190, x191, x192, x193, x194, x195, x196, x197, x198, x199, x200, x201, x202, x203, x204, x205, x206, x207, x208, x209, x210, x211, x212, x213, x214, x215, x216, x217, x218, x219, x220, x221, x222, x223, x224, x225, x226, x227, x228, x229, x230, x231, x232, x233, x234, x235, x236, x237, x238, x239, x240, x241, x242, x243, x244, x245, x246, x247, x248, x249, (.slice (some ⟨gx, 0, none⟩) 8 8), (.int .i64 8), y252, y253, y254, y255, y256, y257, y258, y259, y260, y261, y262, y263, y264, x265, x266, x267, x268, x269, x270, x271, x272, x273, x274, x275, x276, x277, x278, x279, x280, x281, x282, x283, x284, x285, x286], []⟩ w') :
 Code.wp Tryz.prog codeB12 Q ⟨#[x0, x1, x2, x3, x4, x5, x6, (.slice (some ⟨g7, 0, none⟩) 8 8), x8, x9, x10, x11, x12, x13, x14, x15, x16, x17, x18, x19, x20, x21, x22, x23, x24, x25, x26, x27, x28, x29, x30, x31, x32, x33, x34, x35, x36, x37, x38, x39, x40, x41, x42, x43, x44, x45, x46, x47, x48, x49, x50, x51, x52, x53, x54, x55, x56, x57, x58, x59, x60, x61, x62, x63, x64, x65, x66, x67, x68, x69, x70, x71, x72, x73, x74, x75, x76, x77, x78, x79, x80, x81, x82, x83, x84, x85, x86, x87, x88, x89, x90, x91, x92, x93, x94, x95, x96, x97, x98, x99, x100, x101, x102, x103, x104, x105, x106, x107, x108, x109, x110, x111, x112, x113, x114, x115, x116, x117, x118, x119, x120, x121, x122, x123, x124, x125, x126, x127, x128, x129, x130, x131, x132, x133, x134, x135, x136, x137, x138, x139, x140, x141, x142, x143, x144, x145, x146, x147, x148, x149, x150, x151, x152, x153, x154, x155, x156, x157, x158, x159, x160, x161, x162, x163, x164, x165, x166, x167, x168, x169, x170, x171, x172, x173, x174, x175, x176, x177, x178, x179, x180, x181, x182, x183, x184, x185, x186, x187, x188, x189, x190, x191, x192, x193, x194, x195, x196, x197, x198, x199, x200, x201, x202, x203, x204, x205, x206, x207, x208, x209, x210, x211, x212, x213, x214, x215, x216, x217, x218, x219, x220, x221, x222, x223, x224, x225, x226, x227, x228, x229, x230, x231, x232, x233, x234, x235, x236, x237, x238, x239, x240, x241, x242, x243, x244, x245, x246, x247, x248, x249, (.slice (some ⟨gx, 0, none⟩) 8 8), (.int .i64 8), (.int .i64 0), x253, x254, x255, x256, x257, x258, x259, x260, x261, x262, x263, x264, x265, x266, x267, x268, x269, x270, x271, x272, x273, x274, x275, x276, x277, x278, x279, x280, x281, x282, x283, x284, x285, x286], []⟩ w := by
 conv => arg 2; whnf
 have HX := Lib.hid hexit
 clear hexit
 have hb := Lib.hid (Below.refl g7 w)
 have h7' : Hid (Row w g7 .u32 138 (mixP s r 0)) := h7
 go_wp2
 go_loopw [252] (fun i wr => ∃ j : Nat, j ≤ 8 ∧ i = .int .i64 (j : Int) ∧ Hid (Row wr g7 .u32 138 (mixP s r j)) ∧ Hid (Row wr gx .u32 138 (r)) ∧ Hid (Below g7 w wr)) (fun i _ => 8 - (intOf i).toNat)
 case atStart => exact ⟨0, by omega, rfl, h7', hx, hb⟩
 case round =>
  obtain ⟨j, hj, rfl, p1, p2, pB⟩ := hrel
  clear h7 h7' hx hb
  by_cases hj8 : j < 8
  · have hji : (j : Int) < 8 := by omega
    have hc := p1.out.cell j (by rw [mixP_length, hs.out]; exact hj8)
    rw [mixP_getD s r j j (Nat.le_refl _)] at hc
    have hd := p2.out.cell j (by rw [hr.out]; exact hj8)
    have hf := p1.out.free j
    have hz := wrap_add' (s.getD j 0) (r.getD j 0)
    have hN : Hid (Row (wr.setCell ⟨g7, j, none⟩ (.int .u32 ((addM (s.getD j 0) (r.getD j 0) : Nat) : Int))) g7 .u32 138 (mixP s r (j + 1))) := Lib.hid (p1.out.set j (addM (s.getD j 0) (r.getD j 0)))
    have hO := Lib.hid (p2.out.other ⟨g7, j, none⟩ (.int .u32 ((addM (s.getD j 0) (r.getD j 0) : Nat) : Int)) (by exact fun h => hne h.symm))
    have hW : Hid (Below g7 w (wr.setCell ⟨g7, j, none⟩ (.int .u32 ((addM (s.getD j 0) (r.getD j 0) : Nat) : Int)))) := Lib.hid (pB.out.setCell (by simp) _)
    clear p1 p2 pB
    generalize addM (s.getD j 0) (r.getD j 0) = q at *
    generalize s.getD j 0 = sj at *
    generalize r.getD j 0 = rj at *
    go_wp2
    go_roundw
    case rel => exact ⟨j + 1, by omega, by go_num, hN, hO, hW⟩
    case measure => simp [intOf]; omega
  · obtain rfl : j = 8 := by omega
    go_wp2
    exact HX.out _ _ _ _ _ _ _ _ _ _ _ _ _ _ _ _ p1 pB
set_option maxRecDepth 1000000 in
set_option maxHeartbeats 8000000 in
theorem ref_b5 (Q : Exit → Act → World → Prop) (hQ : ∀ c (a : Act) d v w, Q (.panic c) (a.put d v) w → Q (.panic c) a w) (gt gb g7 cb N k : Nat) (blk : List Nat) (st : St) (hN : 64 * k + 64 ≤ N) (hN5 : N ≤ 5000) (hbl : Hid (blk.length = 64)) (hbb : Hid (∀ x ∈ blk, x < 256)) (hok : Hid st.ok) (hgb : gb < g7) (hgt : gt < g7) (x0 x1 x2 x5 x6 x9 x10 x11 x12 x13 x14 x15 x16 x17 x18 x19 x20 x21 x22 x23 x24 x25 x26 x27 x28 x29 x30 x31 x32 x33 x34 x35 x36 x37 x38 x39 x40 x41 x42 x43 x44 x45 x46 x47 x48 x49 x50 x51 x52 x53 x54 x55 x56 x57 x58 x59 x60 x61 x62 x63 x64 x65 x66 x67 x68 x69 x70 x71 x72 x73 x74 x75 x76 x77 x78 x79 x80 x81 x82 x83 x84 x85 x86 x87 x88 x89 x90 x91 x92 x93 x94 x95 x96 x97 x98 x99 x100 x101 x102 x103 x104 x105 x106 x107 x108 x109 x110 x111 x112 x113 x114 x115 x116 x117 x118 x119 x120 x121 x122 x123 x124 x125 x126 x127 x128 x129 x130 x131 x132 x133 x134 x135 x136 x137 x138 x139 x140 x141 x142 x143 x144 x145 x146 x147 x148 x149 x150 x151 x152 x153 x154 x155 x156 x157 x158 x159 x160 x161 x162 x163 x164 x165 x166 x167 x168 x169 x170 x171 x172 x173 x174 x175 x176 x177 x178 x179 x180 x181 x182 x183 x184 x185 x186 x187 x188 x189 x190 x191 x192 x193 x194 x195 x196 x197 x198 x199 x200 x201 x202 x203 x204 x205 x206 x207 x208 x209 x210 x211 x212 x213 x214 x215 x216 x217 x218 x219 x220 x221 x222 x223 x224 x225 x226 x227 x228 x229 x230 x231 x232 x233 x234 x235 x236 x237 x238 x239 x240 x241 x242 x243 x244 x245 x246 x247 x248 x249 x250 x251 x252 x253 x254 x255 x256 x257 x258 x259 x260 x261 x262 x263 x264 x265 x266 x267 x268 x269 x270 x271 x272 x273 x274 x275 x276 x277 x278 x279 x280 x281 x282 x283 x284 x285 x286 : Value) (w : World) (hRB : Hid (∀ i, i < 64 → w.cell? ⟨gb, 64 * k + i, none⟩ = some (.int .u8 ((blk.getD i 0 : Nat) : Int)))) (hT : Hid (Row w gt .u32 138 (rootsN))) (h7 : Hid (Row w g7 .u32 138 (st.list)))
 (hexit : ∀ (y9 y10 y11 y12 y13 y14 y15 y16 y17 y18 y19 y20 y21 y22 y23 y24 y25 y26 y27 y68 y69 y70 y71 y72 y73 y74 y75 y76 y77 y78 y79 y80 y81 y82 y83 y84 y85 y86 y87 y88 y89 y90 y91 y92 y93 y94 y95 y96 y97 y98 y99 y100 y101 y102 y103 y104 y105 y106 y107 y108 y109 y110 y111 y112 y113 y114 y115 y116 y117 y118 y119 y120 y121 y122 y123 y124 y125 y126 y127 y128 y129 y130 y131 y132 y133 y134 y135 y136 y137 y138 y139 y140 y141 y142 y143 y144 y145 y146 y147 y148 y149 y150 y151 y152 y153 y154 y155 y156 y157 y158 y159 y160 y161 y162 y163 y164 y165 y166 y167 y168 y169 y170 y171 y172 y173 y174 y175 y176 y177 y178 y179 y180 y181 y182 y183 y184 y185 y186 y187 y188 y189 y190 y191 y192 y193 y194 y195 y196 y197 y198 y199 y200 y201 y202 y203 y204 y205 y206 y207 y208 y209 y210 y211 y212 y213 y214 y215 y216 y217 y218 y219 y220 y221 y222 y223 y224 y225 y226 y227 y228 y229 y230 y231 y232 y233 y234 y235 y236 y237 y238 y239 y240 y241 y242 y243 y244 y245 y246 y247 y248 y249 y250 y251 y252 y253 y254 y255 y256 y257 y258 y259 y260 y261 y262 y263 y264 : Value) (w' : World), Hid (Row w' g7 .u32 138 ((mixN rootsN st blk).list)) → Hid (Below g7 w w') → Q .normal ⟨#[x0, x1, x2, (.slice (some ⟨gt, 0, none⟩) 64 64), (.slice (some ⟨gb, 0, none⟩) N cb), x5, x6, (.slice (some ⟨g7, 0, none⟩) 8 8), (.int .i64 (64 * (k : Int))), y9, y10, y11, y12, y13, y14, y15, y16, y17, y18, y19, y20, y21, y22, y23, y24, y25, y26, y27, x28, x29, x30, x31, x32, x33, x34, x35, x36, x37, x38, x39, x40, x41, x42, x43, x44, x45, x46, x47, x48, x49, x50, x51, x52, x53, x54, x55, x56, x57, x58, x59, x60, x61, x62, x63, x64, x65, x66, x67, y68, y69, y70, y71, y72, y73, y74, y75, y76, y77, y78, y79, y80, y81, y82, y83, y84, y85, y86, y87, y88, y89, y90, y91, y92, y93, y94, y95, y96, y97, y98, y99, y100, y101, y102, y103, y104, y105, y106, y107, y108, y109, y110, y111, y112, y113, y114, y115, y116, y117, y118, y119, y120, y121, y122, y123, y124, y125, y126, y127, y128, y129, y130, y131, y132, y133, y134, y135, y136, y137, y138, y139, y140, y141, y142, y143, y144, y145, y146, y147, y148, y149, y150, y151, y152, y153, y154, y155, y156, y157, y158, y159, y160, y161, y162, y163, y164, y165, y166, y167, y168, y169, y170, y171, y172, y173, y174, y175, y176, y177, y178, y179, y180, y181, y182, y183, y184, y185, y186, y187, y188, y189, y190, y191, y192, y193, y194, y195, y196, y197, y198, y199, y200, y201, y202, y203, y204, y205, y206, y207, y208, y209, y210, y211, y212, y213, y214, y215, y216, y217, y218, y219, y220, y221, y222, y223, y224, y225, y226, y227, y228, y229, y230, y231, y232, y233, y234, y235, y236, y237, y238, y239, y240, y241, y242, y243, y244, y245, y246, y247, y248, y249, y250, y251, y252, y253, y254, y255, y256, y257, y258, y259, y260, y261, y262, y263, y264, x265, x266, x267, x268, x269, x270, x271, x272, x273, x274, x275, x276, x277, x278, x279, x280, x281, x282, x283, x284, x285, x286], []⟩ w') :
 Code.wp Tryz.prog codeB5 Q ⟨#[x0, x1, x2, (.slice (some ⟨gt, 0, none⟩) 64 64), (.slice (some ⟨gb, 0, none⟩) N cb), x5, x6, (.slice (some ⟨g7, 0, none⟩) 8 8), (.int .i64 (64 * (k : Int))), x9, x10, x11, x12, x13, x14, x15, x16, x17, x18, x19, x20, x21, x22, x23, x24, x25, x26, x27, x28, x29, x30, x31, x32, x33, x34, x35, x36, x37, x38, x39, x40, x41, x42, x43, x44, x45, x46, x47, x48, x49, x50, x51, x52, x53, x54, x55, x56, x57, x58, x59, x60, x61, x62, x63, x64, x65, x66, x67, x68, x69, x70, x71, x72, x73, x74, x75, x76, x77, x78, x79, x80, x81, x82, x83, x84, x85, x86, x87, x88, x89, x90, x91, x92, x93, x94, x95, x96, x97, x98, x99, x100, x101, x102, x103, x104, x105, x106, x107, x108, x109, x110, x111, x112, x113, x114, x115, x116, x117, x118, x119, x120, x121, x122, x123, x124, x125, x126, x127, x128, x129, x130, x131, x132, x133, x134, x135, x136, x137, x138, x139, x140, x141, x142, x143, x144, x145, x146, x147, x148, x149, x150, x151, x152, x153, x154, x155, x156, x157, x158, x159, x160, x161, x162, x163, x164, x165, x166, x167, x168, x169, x170, x171, x172, x173, x174, x175, x176, x177, x178, x179, x180, x181, x182, x183, x184, x185, x186, x187, x188, x189, x190, x191, x192, x193, x194, x195, x196, x197, x198, x199, x200, x201, x202, x203, x204, x205, x206, x207, x208, x209, x210, x211, x212, x213, x214, x215, x216, x217, x218, x219, x220, x221, x222, x223, x224, x225, x226, x227, x228, x229, x230, x231, x232, x233, x234, x235, x236, x237, x238, x239, x240, x241, x242, x243, x244, x245, x246, x247, x248, x249, x250, x251, x252, x253, x254, x255, x256, x257, x258, x259, x260, x261, x262, x263, x264, x265, x266, x267, x268, x269, x270, x271, x272, x273, x274, x275, x276, x277, x278, x279, x280, x281, x282, x283, x284, x285, x286], []⟩ w := by
 conv => arg 2; whnf
 have HX := Lib.hid hexit
 clear hexit
 have hwl := Lib.hid (words_length blk)
 have hwb := Lib.hid (words_lt blk hbb.out)
 have hSl : Hid ((sched (words blk) 48).length = 64) := Lib.hid (by rw [sched_length, hwl.out])
 have hSlow : Hid (∀ t, t < 16 → (sched (words blk) 48).getD t 0 = be ((blk.drop (4 * t)).take 4)) := Lib.hid (fun t ht => by
  rw [sched_low _ hwl.out 48 t ht]
  simp [words, List.getD, ht])
 have hShi : Hid (∀ m, m + 16 < 64 → (sched (words blk) 48).getD (m + 16) 0 = addM (addM (addM ((sched (words blk) 48).getD m 0) (sig0 ((sched (words blk) 48).getD (m + 1) 0))) ((sched (words blk) 48).getD (m + 9) 0)) (sig1 ((sched (words blk) 48).getD (m + 14) 0))) := Lib.hid (fun m hm => by
  rw [sched_high _ hwl.out 48 (m + 16) (by omega) (by omega), show m + 16 - 16 = m from by omega, show m + 16 - 15 = m + 1 from by omega, show m + 16 - 7 = m + 9 from by omega, show m + 16 - 2 = m + 14 from by omega])
 have hSb : Hid (∀ i, (sched (words blk) 48).getD i 0 < 4294967296) := Lib.hid (fun i => sched_getD_lt (words blk) hwb.out 48 i)
 have hM : Hid (mixN rootsN st blk = st.add (rnds rootsN (sched (words blk) 48) st 64)) := Lib.hid rfl
 generalize sched (words blk) 48 = S at *
 have hg7 := h7.out.lt
 go_upto_block 6 with fail
 refine ref_b6 _ ?_ gb cb N k w.heap.size blk S hN hN5 (by omega) hbl hbb hSl hSlow hShi hSb _ _ _ _ _ _ _ _ _ _ _ _ _ _ _ _ _ _ _ _ _ _ _ _ _ _ _ _ _ _ _ _ _ _ _ _ _ _ _ _ _ _ _ _ _ _ _ _ _ _ _ _ _ _ _ _ _ _ _ _ _ _ _ _ _ _ _ _ _ _ _ _ _ _ _ _ _ _ _ _ _ _ _ _ _ _ _ _ _ _ _ _ _ _ _ _ _ _ _ _ _ _ _ _ _ _ _ _ _ _ _ _ _ _ _ _ _ _ _ _ _ _ _ _ _ _ _ _ _ _ _ _ _ _ _ _ _ _ _ _ _ _ _ _ _ _ _ _ _ _ _ _ _ _ _ _ _ _ _ _ _ _ _ _ _ _ _ _ _ _ _ _ _ _ _ _ _ _ _ _ _ _ _ _ _ _ _ _ _ _ _ _ _ _ _ _ _ _ _ _ _ _ _ _ _ _ _ _ _ _ _ _ _ _ _ _ _ _ _ _ _ _ _ _ _ _ _ _ _ _ _ _ _ _ _ _ _ _ _ _ _ _ _ _ _ _ _ _ _ _ _ _ _ _ _ _ _ _ _ _ _ _ _ _ _ _ _ _ _ _ _ _ _ _ _ _ _ _ _ _ _ _ _ w hRB (Nat.le_refl _) ?_
 · exact fun _ _ _ _ _ h => hQ _ _ _ _ _ h
 intro z10 z11 z12 z13 z14 z68 z69 z70 z71 z72 z73 z74 z75 z76 z77 z78 z79 z80 z81 z82 z83 z84 z85 z86 z87 z88 z89 z90 z91 z92 z93 z94 z95 z96 z97 z98 z99 z100 z101 z102 z103 z104 z105 z106 z107 z108 z109 z110 z111 z112 z113 z114 z115 z116 z117 z118 z119 z120 z121 z122 z123 z124 z125 z126 z127 z128 z129 z130 z131 z132 z133 z134 z135 z136 z137 z138 z139 z140 z141 z142 z143 z144 z145 z146 z147 z148 z149 z150 z151 z152 v1 w1 O1 B1
 obtain ⟨g9, c9, rfl, hg9, hc9⟩ := own_formN O1.out (by omega)
 have H7 := Lib.hid (h7.out.belowAt B1.out hg7)
 have HT := Lib.hid (hT.out.belowAt B1.out (by omega))
 have BB : Hid (Below g7 w w1) := Lib.hid (B1.out.mono (by omega))
 have c0 : w1.cell? ⟨g7, 0, none⟩ = some (.int .u32 (st.a : Int)) := H7.out.cell 0 (by simp [St.list])
 have c1 : w1.cell? ⟨g7, 1, none⟩ = some (.int .u32 (st.b : Int)) := H7.out.cell 1 (by simp [St.list])
 have c2 : w1.cell? ⟨g7, 2, none⟩ = some (.int .u32 (st.c : Int)) := H7.out.cell 2 (by simp [St.list])
 have c3 : w1.cell? ⟨g7, 3, none⟩ = some (.int .u32 (st.d : Int)) := H7.out.cell 3 (by simp [St.list])
 have c4 : w1.cell? ⟨g7, 4, none⟩ = some (.int .u32 (st.e : Int)) := H7.out.cell 4 (by simp [St.list])
 have c5 : w1.cell? ⟨g7, 5, none⟩ = some (.int .u32 (st.f : Int)) := H7.out.cell 5 (by simp [St.list])
 have c6 : w1.cell? ⟨g7, 6, none⟩ = some (.int .u32 (st.g : Int)) := H7.out.cell 6 (by simp [St.list])
 have c7 : w1.cell? ⟨g7, 7, none⟩ = some (.int .u32 (st.h : Int)) := H7.out.cell 7 (by simp [St.list])
 clear hRB h7 hT B1 hSlow hShi hSb hwl hwb
 go_wp2
 go_big_quiet (fail)
 have d0 : (w1.drewN nq).cell? _ = _ := c0
 have d1 : (w1.drewN nq).cell? _ = _ := c1
 have d2 : (w1.drewN nq).cell? _ = _ := c2
 have d3 : (w1.drewN nq).cell? _ = _ := c3
 have d4 : (w1.drewN nq).cell? _ = _ := c4
 have d5 : (w1.drewN nq).cell? _ = _ := c5
 have d6 : (w1.drewN nq).cell? _ = _ := c6
 have d7 : (w1.drewN nq).cell? _ = _ := c7
 have O2 : Hid ((w1.drewN nq).ownsRow w.heap.size 138 1 (.slice (some ⟨g9, 0, none⟩) 64 c9) (64) (cellsK .u32 (S))) := O1
 have H72 : Hid (Row (w1.drewN nq) g7 .u32 138 (st.list)) := H7
 have HT2 : Hid (Row (w1.drewN nq) gt .u32 138 (rootsN)) := HT
 have BB2 := Lib.hid (below_drewNS BB.out nq)
 clear c0 c1 c2 c3 c4 c5 c6 c7 O1 H7 HT BB
 generalize w1.drewN nq = w2 at *
 go_wp2
 go_big_quiet (fail)
 have O3 : Hid ((w2.drewN nq).ownsRow w.heap.size 138 1 (.slice (some ⟨g9, 0, none⟩) 64 c9) (64) (cellsK .u32 (S))) := O2
 have H73 : Hid (Row (w2.drewN nq) g7 .u32 138 (st.list)) := H72
 have HT3 : Hid (Row (w2.drewN nq) gt .u32 138 (rootsN)) := HT2
 have BB3 := Lib.hid (below_drewNS BB2.out nq)
 clear d0 d1 d2 d3 d4 d5 d6 d7 O2 H72 HT2 BB2
 generalize w2.drewN nq = w3 at *
 have KT : Hid (∀ t, t < 64 → w3.cell? ⟨gt, t, none⟩ = some (.int .u32 ((rootsN.getD t 0 : Nat) : Int))) := Lib.hid (fun t ht => HT3.out.cell t ht)
 have KW : Hid (∀ t, t < 64 → w3.cell? ⟨g9, t, none⟩ = some (.int .u32 ((S.getD t 0 : Nat) : Int))) := Lib.hid (fun t ht => own_cellW O3.out t ht)
 go_upto_block 10 with fail
 refine ref_b10 _ gt g9 c9 S st hok _ _ _ _ _ _ _ _ _ _ _ _ _ _ _ _ _ _ _ _ _ _ _ _ _ _ _ _ _ _ _ _ _ _ _ _ _ _ _ _ _ _ _ _ _ _ _ _ _ _ _ _ _ _ _ _ _ _ _ _ _ _ _ _ _ _ _ _ _ _ _ _ _ _ _ _ _ _ _ _ _ _ _ _ _ _ _ _ _ _ _ _ _ _ _ _ _ _ _ _ _ _ _ _ _ _ _ _ _ _ _ _ _ _ _ _ _ _ _ _ _ _ _ _ _ _ _ _ _ _ _ _ _ _ _ _ _ _ _ _ _ _ _ _ _ _ _ _ _ _ _ _ _ _ _ _ _ _ _ _ _ _ _ _ _ _ _ _ _ _ _ _ _ _ _ _ _ _ _ _ _ _ _ _ _ _ _ _ _ _ _ _ _ _ _ _ _ _ _ _ _ _ _ _ _ _ _ _ _ _ _ _ _ _ _ _ _ _ _ _ _ _ _ _ _ _ _ _ _ _ _ _ _ _ _ _ _ _ _ _ _ _ _ _ _ _ _ _ _ _ _ _ _ _ _ _ _ _ _ _ _ _ _ _ _ _ _ _ _ _ _ _ _ _ _ _ w3 KT KW ?_
 intro z23 z24 z25 z177 z178 z179 z180 z181 z182 z183 z184 z185 z186 z187 z188 z189 z190 z191 z192 z193 z194 z195 z196 z197 z198 z199 z200 z201 z202 z203 z204 z205 z206 z207 z208 z209 z210 z211 z212 z213 z214 z215 z216 z217 z218 z219 z220 z221 z222 z223 z224 z225 z226 z227 z228 z229 z230 z231 z232 z233 z234 z235 z236 z237 z238 z239 z240 z241 w4 hn4
 obtain ⟨n4, rfl⟩ := hn4
 have H74 : Hid (Row (w3.drewN n4) g7 .u32 138 (st.list)) := H73
 have BB4 := Lib.hid (below_drewNS BB3.out n4)
 clear KT KW O3 H73 HT3 BB3
 generalize w3.drewN n4 = w5 at *
 obtain ⟨x, hxx⟩ : ∃ x, x = rnds rootsN S st 64 := ⟨_, rfl⟩
 rw [← hxx]
 have HXX := Lib.hid hxx
 clear hxx
 have hx5 := H74.out.lt
 have H75 : Hid (Row (w5.alloc (.cells (cellsK .u32 x.list).toArray 138)) g7 .u32 138 (st.list)) := Lib.hid (H74.out.alloc _)
 have HX5 := Lib.hid (Row.new w5 .u32 138 x.list)
 have BB5 := Lib.hid (BB4.out.alloc (Nat.le_of_lt hx5) (.cells (cellsK .u32 x.list).toArray 138))
 go_upto_block 12 with fail
 refine ref_b12 _ g7 w5.heap.size st.list x.list (by omega) (Lib.hid rfl) (Lib.hid rfl) _ _ _ _ _ _ _ _ _ _ _ _ _ _ _ _ _ _ _ _ _ _ _ _ _ _ _ _ _ _ _ _ _ _ _ _ _ _ _ _ _ _ _ _ _ _ _ _ _ _ _ _ _ _ _ _ _ _ _ _ _ _ _ _ _ _ _ _ _ _ _ _ _ _ _ _ _ _ _ _ _ _ _ _ _ _ _ _ _ _ _ _ _ _ _ _ _ _ _ _ _ _ _ _ _ _ _ _ _ _ _ _ _ _ _ _ _ _ _ _ _ _ _ _ _ _ _ _ _ _ _ _ _ _ _ _ _ _ _ _ _ _ _ _ _ _ _ _ _ _ _ _ _ _ _ _ _ _ _ _ _ _ _ _ _ _ _ _ _ _ _ _ _ _ _ _ _ _ _ _ _ _ _ _ _ _ _ _ _ _ _ _ _ _ _ _ _ _ _ _ _ _ _ _ _ _ _ _ _ _ _ _ _ _ _ _ _ _ _ _ _ _ _ _ _ _ _ _ _ _ _ _ _ _ _ _ _ _ _ _ _ _ _ _ _ _ _ _ _ _ _ _ _ _ _ _ _ _ _ _ _ _ _ _ _ _ _ _ _ _ _ _ _ _ _ _ _ _ _ _ _ _ _ (w5.alloc (.cells (cellsK .u32 x.list).toArray 138)) H75 HX5 ?_
 intro z26 z27 z252 z253 z254 z255 z256 z257 z258 z259 z260 z261 z262 z263 z264 w6 H6 B6
 have e : (mixN rootsN st blk).list = mixP st.list x.list 8 := by
  rw [hM.out, ← HXX.out]
  rfl
 rw [← e] at H6
 exact HX.out _ _ _ _ _ _ _ _ _ _ _ _ _ _ _ _ _ _ _ _ _ _ _ _ _ _ _ _ _ _ _ _ _ _ _ _ _ _ _ _ _ _ _ _ _ _ _ _ _ _ _ _ _ _ _ _ _ _ _ _ _ _ _ _ _ _ _ _ _ _ _ _ _ _ _ _ _ _ _ _ _ _ _ _ _ _ _ _ _ _ _ _ _ _ _ _ _ _ _ _ _ _ _ _ _ _ _ _ _ _ _ _ _ _ _ _ _ _ _ _ _ _ _ _ _ _ _ _ _ _ _ _ _ _ _ _ _ _ _ _ _ _ _ _ _ _ _ _ _ _ _ _ _ _ _ _ _ _ _ _ _ _ _ _ _ _ _ _ _ _ _ _ _ _ _ _ _ _ _ _ _ _ _ _ _ _ _ _ _ _ _ _ _ _ _ _ _ _ _ _ _ _ _ _ _ _ _ _ _ _ _ _ _ _ _ _ w6 H6 (Lib.hid (BB5.out.trans B6.out))
theorem outN_take (s : St) (j : Nat) (hj : j < 8) : (outN s).take (4 * (j + 1)) = (outN s).take (4 * j) ++ [s.list.getD j 0 / 16777216 % 256, s.list.getD j 0 / 65536 % 256, s.list.getD j 0 / 256 % 256, s.list.getD j 0 % 256] := by
 have g : ∀ p, p < 32 → (outN s).getD p 0 = s.list.getD (p / 4) 0 / 2 ^ (24 - 8 * (p % 4)) % 256 := fun p hp => by simp [outN, List.getD, hp]
 have t : ∀ p, p < 32 → (outN s).take (p + 1) = (outN s).take p ++ [(outN s).getD p 0] := fun p hp => take_succ_getDN (by rw [outN_length]; exact hp)
 rw [show 4 * (j + 1) = 4 * j + 1 + 1 + 1 + 1 from by omega, t (4 * j + 1 + 1 + 1) (by omega), t (4 * j + 1 + 1) (by omega), t (4 * j + 1) (by omega), t (4 * j) (by omega), g (4 * j + 1 + 1 + 1) (by omega), g (4 * j + 1 + 1) (by omega), g (4 * j + 1) (by omega), g (4 * j) (by omega)]
 rw [show (4 * j + 1 + 1 + 1) / 4 = j from by omega, show (4 * j + 1 + 1 + 1) % 4 = 3 from by omega, show (4 * j + 1 + 1) / 4 = j from by omega, show (4 * j + 1 + 1) % 4 = 2 from by omega, show (4 * j + 1) / 4 = j from by omega, show (4 * j + 1) % 4 = 1 from by omega, show 4 * j / 4 = j from by omega, show 4 * j % 4 = 0 from by omega]
 rw [List.append_assoc, List.append_assoc, List.append_assoc]
 congr 1
 generalize s.list.getD j 0 = q
 show [q / 2 ^ 24 % 256, q / 2 ^ 16 % 256, q / 2 ^ 8 % 256, q / 2 ^ 0 % 256] = _
 rw [show q / 2 ^ 0 = q from Nat.div_one q]
theorem wpList_append4 {ops : Array Oper} {rest : List Oper} {o : Oper} {a : Act} {w : World} {Q : Exit → Act → World → Prop} (s x : Operand) (hgd : o.guard = none)
 (ho : o.op = .call { callee := .builtin .append, args := #[s, x], argTypes := #[40, 40] })
 (base : Nat) (v : Value) (n : Nat) (l : List Nat) (hs : a.eval s = v) (hown : Hid (w.ownsRow base 5 1 v n (cellsZ (asZ l)))) (y0 y1 y2 y3 : Int) (ns : List Nat) (hy : Hid ([y0, y1, y2, y3] = asZ ns))
 (hx : a.eval x = .slice (some ⟨w.heap.size, 0, none⟩) 4 4) (hb : n + 4 ≤ 1000000) (hbase : base ≤ w.heap.size)
 (h : ∀ v' w', Hid (w'.ownsRow base 5 1 v' (n + 4) (cellsZ (asZ (l ++ ns)))) → Hid (Below base w w') → wpList Tryz.prog ops Q rest (a.put o.dst v') w') : wpList Tryz.prog ops Q (o :: rest) a (w.alloc (.cells #[.int .u8 y0, .int .u8 y1, .int .u8 y2, .int .u8 y3] 5)) := by
 obtain ⟨i0, hi, hz0, hz1, hz2⟩ := info_parts info_u8
 have HB : Below base w (w.alloc (.cells #[.int .u8 y0, .int .u8 y1, .int .u8 y2, .int .u8 y3] 5)) := (Below.refl _ _).alloc hbase _
 refine wpList_append_own _ hgd s x 40 ho base 5 i0 (.int .u8 0) 1 1 Tryz.underlying40 hi hz0 hz1 hz2 rfl (by decide) v n _ hs (hown.out.alloc _) ⟨w.heap.size, 0, none⟩ 4 4 [.int .u8 y0, .int .u8 y1, .int .u8 y2, .int .u8 y3] hx rfl (World.news_of_block (heap_alloc_new w _)) (one_u8 [y0, y1, y2, y3]) (by unfold maxLen; omega) (by omega) (by simp; omega) ?_
 intro v' w' h1 h2 h3
 refine h v' w' ?_ (HB.grown h2 (by simp; omega) (own_block_ge hown.out))
 rw [asZ_append, cellsZ_append, ← hy.out]
 exact h1
set_option maxRecDepth 1000000 in
set_option maxHeartbeats 8000000 in
theorem ref_b14 (Q : Exit → Act → World → Prop) (g7 B : Nat) (s : St) (hs : Hid s.ok) (hg : g7 < B) (x0 x1 x2 x3 x4 x5 x6 x7 x8 x9 x10 x11 x12 x13 x14 x15 x16 x17 x18 x19 x20 x21 x22 x23 x24 x25 x26 x27 x29 x30 x31 x32 x33 x34 x35 x36 x37 x38 x39 x40 x41 x42 x43 x44 x45 x46 x47 x48 x49 x50 x51 x52 x53 x54 x55 x56 x57 x58 x59 x60 x61 x62 x63 x64 x65 x66 x67 x68 x69 x70 x71 x72 x73 x74 x75 x76 x77 x78 x79 x80 x81 x82 x83 x84 x85 x86 x87 x88 x89 x90 x91 x92 x93 x94 x95 x96 x97 x98 x99 x100 x101 x102 x103 x104 x105 x106 x107 x108 x109 x110 x111 x112 x113 x114 x115 x116 x117 x118 x119 x120 x121 x122 x123 x124 x125 x126 x127 x128 x129 x130 x131 x132 x133 x134 x135 x136 x137 x138 x139 x140 x141 x142 x143 x144 x145 x146 x147 x148 x149 x150 x151 x152 x153 x154 x155 x156 x157 x158 x159 x160 x161 x162 x163 x164 x165 x166 x167 x168 x169 x170 x171 x172 x173 x174 x175 x176 x177 x178 x179 x180 x181 x182 x183 x184 x185 x186 x187 x188 x189 x190 x191 x192 x193 x194 x195 x196 x197 x198 x199 x200 x201 x202 x203 x204 x205 x206 x207 x208 x209 x210 x211 x212 x213 x214 x215 x216 x217 x218 x219 x220 x221 x222 x223 x224 x225 x226 x227 x228 x229 x230 x231 x232 x233 x234 x235 x236 x237 x238 x239 x240 x241 x242 x243 x244 x245 x246 x247 x248 x249 x250 x251 x252 x253 x254 x255 x256 x257 x258 x259 x260 x261 x262 x263 x264 x268 x269 x270 x271 x272 x273 x274 x275 x276 x277 x278 x279 x280 x281 x282 x283 x284 x285 x286 : Value) (w : World) (h7 : Hid (Row w g7 .u32 138 (s.list))) (hBs : B ≤ w.heap.size)
 (hexit : ∀ (y30 y267 y268 y269 y270 y271 y272 y273 y274 y275 y276 y277 y278 y279 y280 y281 y282 y283 y284 y285 : Value) (v' : Value) (w' : World), Hid (w'.ownsRow B 5 1 v' (32) (cellsZ (asZ (outN s)))) → Hid (Below B w w') → Q .normal ⟨#[x0, x1, x2, x3, x4, x5, x6, x7, x8, x9, x10, x11, x12, x13, x14, x15, x16, x17, x18, x19, x20, x21, x22, x23, x24, x25, x26, x27, v', x29, y30, x31, x32, x33, x34, x35, x36, x37, x38, x39, x40, x41, x42, x43, x44, x45, x46, x47, x48, x49, x50, x51, x52, x53, x54, x55, x56, x57, x58, x59, x60, x61, x62, x63, x64, x65, x66, x67, x68, x69, x70, x71, x72, x73, x74, x75, x76, x77, x78, x79, x80, x81, x82, x83, x84, x85, x86, x87, x88, x89, x90, x91, x92, x93, x94, x95, x96, x97, x98, x99, x100, x101, x102, x103, x104, x105, x106, x107, x108, x109, x110, x111, x112, x113, x114, x115, x116, x117, x118, x119, x120, x121, x122, x123, x124, x125, x126, x127, x128, x129, x130, x131, x132, x133, x134, x135, x136, x137, x138, x139, x140, x141, x142, x143, x144, x145, x146, x147, x148, x149, x150, x151, x152, x153, x154, x155, x156, x157, x158, x159, x160, x161, x162, x163, x164, x165, x166, x167, x168, x169, x170, x171, x172, x173, x174, x175, x176, x177, x178, x179, x180, x181, x182, x183, x184, x185, x186, x187, x188, x189, x190, x191, x192, x193, x194, x195, x196, x197, x198, x199, x200, x201, x202, x203, x204, x205, x206, x207, x208, x209, x210, x211, x212, x213, x214, x215, x216, x217, x218, x219, x220, x221, x222, x223, x224, x225, x226, x227, x228, x229, x230, x231, x232, x233, x234, x235, x236, x237, x238, x239, x240, x241, x242, x243, x244, x245, x246, x247, x248, x249, x250, x251, x252, x253, x254, x255, x256, x257, x258, x259, x260, x261, x262, x263, x264, (.slice (some ⟨g7, 0, none⟩) 8 8), (.int .i64 8), y267, y268, y269, y270, y271, y272, y273, y274, y275, y276, y277, y278, y279, y280, y281, y282, y283, y284, y285, x286], []⟩ w') :
 Code.wp Tryz.prog (codeB 14) Q ⟨#[x0, x1, x2, x3, x4, x5, x6, x7, x8, x9, x10, x11, x12, x13, x14, x15, x16, x17, x18, x19, x20, x21, x22, x23, x24, x25, x26, x27, (.slice none 0 0), x29, x30, x31, x32, x33, x34, x35, x36, x37, x38, x39, x40, x41, x42, x43, x44, x45, x46, x47, x48, x49, x50, x51, x52, x53, x54, x55, x56, x57, x58, x59, x60, x61, x62, x63, x64, x65, x66, x67, x68, x69, x70, x71, x72, x73, x74, x75, x76, x77, x78, x79, x80, x81, x82, x83, x84, x85, x86, x87, x88, x89, x90, x91, x92, x93, x94, x95, x96, x97, x98, x99, x100, x101, x102, x103, x104, x105, x106, x107, x108, x109, x110, x111, x112, x113, x114, x115, x116, x117, x118, x119, x120, x121, x122, x123, x124, x125, x126, x127, x128, x129, x130, x131, x132, x133, x134, x135, x136, x137, x138, x139, x140, x141, x142, x143, x144, x145, x146, x147, x148, x149, x150, x151, x152, x153, x154, x155, x156, x157, x158, x159, x160, x161, x162, x163, x164, x165, x166, x167, x168, x169, x170, x171, x172, x173, x174, x175, x176, x177, x178, x179, x180, x181, x182, x183, x184, x185, x186, x187, x188, x189, x190, x191, x192, x193, x194, x195, x196, x197, x198, x199, x200, x201, x202, x203, x204, x205, x206, x207, x208, x209, x210, x211, x212, x213, x214, x215, x216, x217, x218, x219, x220, x221, x222, x223, x224, x225, x226, x227, x228, x229, x230, x231, x232, x233, x234, x235, x236, x237, x238, x239, x240, x241, x242, x243, x244, x245, x246, x247, x248, x249, x250, x251, x252, x253, x254, x255, x256, x257, x258, x259, x260, x261, x262, x263, x264, (.slice (some ⟨g7, 0, none⟩) 8 8), (.int .i64 8), (.int .i64 0), x268, x269, x270, x271, x272, x273, x274, x275, x276, x277, x278, x279, x280, x281, x282, x283, x284, x285, x286], []⟩ w := by
 conv => arg 2; whnf
 have HX := Lib.hid hexit
 clear hexit
 have hb := Lib.hid (Below.refl B w)
 have h0 : Hid (w.ownsRow B 5 1 (.slice none 0 0) (4 * 0) (cellsZ (asZ ((outN s).take (4 * 0))))) := Lib.hid (own_none w B)
 go_wp2
 go_loopw [28, 267] (fun v i wr => ∃ j : Nat, j ≤ 8 ∧ i = .int .i64 (j : Int) ∧ Hid (wr.ownsRow B 5 1 v (4 * j) (cellsZ (asZ ((outN s).take (4 * j))))) ∧ Hid (Below B w wr)) (fun _ i _ => 8 - (intOf i).toNat)
 case atStart => exact ⟨0, by omega, rfl, h0, hb⟩
 case round =>
  obtain ⟨j, hj, rfl, O1, B1⟩ := hrel
  clear h0 hb
  by_cases hj8 : j < 8
  · have hji : (j : Int) < 8 := by omega
    have hc := (B1.out.cell (p := ⟨g7, j, none⟩) hg).trans (h7.out.cell j (by exact hj8))
    have hO : Hid ((outN s).take (4 * j) ++ [s.list.getD j 0 / 16777216 % 256, s.list.getD j 0 / 65536 % 256, s.list.getD j 0 / 256 % 256, s.list.getD j 0 % 256] = (outN s).take (4 * (j + 1))) := Lib.hid (outN_take s j hj8).symm
    have hq : s.list.getD j 0 < 4294967296 := by
     obtain ⟨h1, h2, h3, h4, h5, h6, h7, h8⟩ := hs.out
     have : j = 0 ∨ j = 1 ∨ j = 2 ∨ j = 3 ∨ j = 4 ∨ j = 5 ∨ j = 6 ∨ j = 7 := by omega
     rcases this with rfl | rfl | rfl | rfl | rfl | rfl | rfl | rfl <;> assumption
    generalize s.list.getD j 0 = q at *
    have hz := Nat.le_trans hBs B1.out.size
    have hy : Hid ([(q : Int) / 16777216, (q : Int) / 65536 % 256, (q : Int) / 256 % 256, (q : Int) % 256] = asZ [q / 16777216 % 256, q / 65536 % 256, q / 256 % 256, q % 256]) := Lib.hid (by
     rw [show q / 16777216 % 256 = q / 16777216 from by omega]
     rfl)
    go_wp2_with (at_builtin; go_loud (refine wpList_append4 (.tmp 271) (.tmp 283) rfl rfl B _ (4 * j) ((outN s).take (4 * j)) (by rfl) O1 ((q : Int) / 16777216) ((q : Int) / 65536 % 256) ((q : Int) / 256 % 256) ((q : Int) % 256) [q / 16777216 % 256, q / 65536 % 256, q / 256 % 256, q % 256] hy (by rfl) (by omega) hz ?_); intro v6 w6 O6 B6)
    rw [hO.out] at O6
    clear O1 hc
    go_wp2
    go_roundw
    case rel => exact ⟨j + 1, by omega, by go_num, O6, Lib.hid (B1.out.trans B6.out)⟩
    case measure => simp [intOf]; omega
  · obtain rfl : j = 8 := by omega
    have ht : (outN s).take (4 * 8) = outN s := List.take_of_length_le (by rw [outN_length]; omega)
    rw [ht] at O1
    go_wp2
    exact HX.out _ _ _ _ _ _ _ _ _ _ _ _ _ _ _ _ _ _ _ _ _ _ O1 B1
end Go.Proofs.YtdjnebgjdekmaaaGreatDoor
