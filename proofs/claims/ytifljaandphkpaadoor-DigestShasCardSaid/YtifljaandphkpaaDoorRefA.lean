/-
  The document's Sha: laws for its walk, and its code's blocks.
-/
import Derived.Test.YtifljaandphkpaaDoorPadMath
import Derived.Test.YtifljaandphkpaaDoorApp
import Derived.Test.YtifljaandphkpaaDoorMix
import Derived.StillTailTactics
import Derived.Deep.Cut
import Derived.Deep.CutRange
import Derived.Deep.CutBlock
import Derived.Deep.QuietTactic
import Derived.BigQuiet
namespace Go.Proofs.YtifljaandphkpaaDoor
open Go.RowKit
set_option linter.unusedVariables false

theorem info_u32 : (Tryd.prog.info? 24).map (fun i => (i.zero, i.size, i.bytes)) = some (some (.int .u32 0), 1, 4) := by kernel_rfl
theorem own_block {w : World} {B g n c : Nat} {e : TypeId} {xs : List Value} (h : w.heap[g]? = some (.cells xs.toArray e (0, 0))) (hB : B ≤ g) (hx : xs.length = n) (hc : n = c) (hm : c ≤ 100000) : w.ownsRow B e 1 (.slice (some ⟨g, 0, none⟩) n c) n xs := by
  subst hc
  refine ⟨by omega, .inr ⟨g, n, _, rfl, hB, h, Nat.le_refl _, by unfold maxLen; omega, by simp; omega, ?_⟩⟩
  rw [Nat.mul_one, ← hx]
  simp
theorem tab24 : (#[.int .u32 1116352408, .int .u32 1899447441, .int .u32 3049323471, .int .u32 3921009573, .int .u32 961987163, .int .u32 1508970993, .int .u32 2453635748, .int .u32 2870763221, .int .u32 3624381080, .int .u32 310598401, .int .u32 607225278, .int .u32 1426881987, .int .u32 1925078388, .int .u32 2162078206, .int .u32 2614888103, .int .u32 3248222580, .int .u32 3835390401, .int .u32 4022224774, .int .u32 264347078, .int .u32 604807628, .int .u32 770255983, .int .u32 1249150122, .int .u32 1555081692, .int .u32 1996064986, .int .u32 2554220882, .int .u32 2821834349, .int .u32 2952996808, .int .u32 3210313671, .int .u32 3336571891, .int .u32 3584528711, .int .u32 113926993, .int .u32 338241895, .int .u32 666307205, .int .u32 773529912, .int .u32 1294757372, .int .u32 1396182291, .int .u32 1695183700, .int .u32 1986661051, .int .u32 2177026350, .int .u32 2456956037, .int .u32 2730485921, .int .u32 2820302411, .int .u32 3259730800, .int .u32 3345764771, .int .u32 3516065817, .int .u32 3600352804, .int .u32 4094571909, .int .u32 275423344, .int .u32 430227734, .int .u32 506948616, .int .u32 659060556, .int .u32 883997877, .int .u32 958139571, .int .u32 1322822218, .int .u32 1537002063, .int .u32 1747873779, .int .u32 1955562222, .int .u32 2024104815, .int .u32 2227730452, .int .u32 2361852424, .int .u32 2428436474, .int .u32 2756734187, .int .u32 3204031479, .int .u32 3329325298] : Array Value) = (cellsK .u32 rootsN).toArray := by kernel_rfl
theorem own_formN {w : World} {B n : Nat} {e : TypeId} {v : Value} {xs : List Value} (h : w.ownsRow B e 1 v n xs) (hn : 0 < n) : ∃ g c, v = .slice (some ⟨g, 0, none⟩) n c ∧ B ≤ g ∧ n ≤ c := by
  rcases h.2 with ⟨_, h0⟩ | ⟨g, cap, cur, rfl, hb, hg, hnc, _⟩
  · omega
  · exact ⟨g, cap, rfl, hb, hnc⟩
/-- One byte appended. -/
theorem wpList_append1 {ops : Array Oper} {rest : List Oper} {o : Oper} {a : Act} {w : World} {Q : Exit → Act → World → Prop} (s x : Operand) (hgd : o.guard = none)
    (ho : o.op = .call { callee := .builtin .append, args := #[s, x], argTypes := #[22, 22] })
    (base : Nat) (v : Value) (n : Nat) (l : List Nat) (hs : a.eval s = v) (hown : Hid (w.ownsRow base 5 1 v n (cellsZ (asZ l)))) (y : Int) (yn : Nat) (hy : Hid (y = (yn : Int)))
    (hx : a.eval x = .slice (some ⟨w.heap.size, 0, none⟩) 1 1) (hb : n + 1 ≤ 1000000) (hbase : base ≤ w.heap.size)
    (h : ∀ v' w', Hid (w'.ownsRow base 5 1 v' (n + 1) (cellsZ (asZ (l ++ [yn])))) → Hid (Below base w w') → wpList Tryd.prog ops Q rest (a.put o.dst v') w') : wpList Tryd.prog ops Q (o :: rest) a (w.alloc (.cells #[.int .u8 y] 5)) := by
  obtain ⟨i0, hi, hz0, hz1, hz2⟩ := info_parts info_u8
  have HB : Below base w (w.alloc (.cells #[.int .u8 y] 5)) := (Below.refl _ _).alloc hbase _
  refine wpList_append_own _ hgd s x 22 ho base 5 i0 (.int .u8 0) 1 1 Tryd.underlying22 hi hz0 hz1 hz2 rfl (by decide) v n _ hs (hown.out.alloc _) ⟨w.heap.size, 0, none⟩ 1 1 [.int .u8 y] hx rfl (new_cell w (.int .u8 y) 5) (one_u8 [y]) (by unfold maxLen; omega) (by omega) (by simp; omega) ?_
  intro v' w' h1 h2 h3
  refine h v' w' ?_ (HB.grown h2 (by simp; omega) (own_block_ge hown.out))
  rw [cells_snoc, ← hy.out]
  exact h1

theorem rdown_2 (x : Nat) (hx : x < 4294967296) (w : World) : Calls Tryd.prog 25 #[.int .u32 x, .int .i64 2] w fun e w' => e = .returned (.int .u32 (dn x 2)) ∧ ∃ n, w' = w.drewN n := rdown_any x 2 (.inl rfl) hx w
theorem rdown_6 (x : Nat) (hx : x < 4294967296) (w : World) : Calls Tryd.prog 25 #[.int .u32 x, .int .i64 6] w fun e w' => e = .returned (.int .u32 (dn x 6)) ∧ ∃ n, w' = w.drewN n := rdown_any x 6 (.inr (.inl rfl)) hx w
theorem rdown_7 (x : Nat) (hx : x < 4294967296) (w : World) : Calls Tryd.prog 25 #[.int .u32 x, .int .i64 7] w fun e w' => e = .returned (.int .u32 (dn x 7)) ∧ ∃ n, w' = w.drewN n := rdown_any x 7 (.inr (.inr (.inl rfl))) hx w
theorem rdown_11 (x : Nat) (hx : x < 4294967296) (w : World) : Calls Tryd.prog 25 #[.int .u32 x, .int .i64 11] w fun e w' => e = .returned (.int .u32 (dn x 11)) ∧ ∃ n, w' = w.drewN n := rdown_any x 11 (.inr (.inr (.inr (.inl rfl)))) hx w
theorem rdown_13 (x : Nat) (hx : x < 4294967296) (w : World) : Calls Tryd.prog 25 #[.int .u32 x, .int .i64 13] w fun e w' => e = .returned (.int .u32 (dn x 13)) ∧ ∃ n, w' = w.drewN n := rdown_any x 13 (.inr (.inr (.inr (.inr (.inl rfl))))) hx w
theorem rdown_17 (x : Nat) (hx : x < 4294967296) (w : World) : Calls Tryd.prog 25 #[.int .u32 x, .int .i64 17] w fun e w' => e = .returned (.int .u32 (dn x 17)) ∧ ∃ n, w' = w.drewN n := rdown_any x 17 (.inr (.inr (.inr (.inr (.inr (.inl rfl)))))) hx w
theorem rdown_18 (x : Nat) (hx : x < 4294967296) (w : World) : Calls Tryd.prog 25 #[.int .u32 x, .int .i64 18] w fun e w' => e = .returned (.int .u32 (dn x 18)) ∧ ∃ n, w' = w.drewN n := rdown_any x 18 (.inr (.inr (.inr (.inr (.inr (.inr (.inl rfl))))))) hx w
theorem rdown_19 (x : Nat) (hx : x < 4294967296) (w : World) : Calls Tryd.prog 25 #[.int .u32 x, .int .i64 19] w fun e w' => e = .returned (.int .u32 (dn x 19)) ∧ ∃ n, w' = w.drewN n := rdown_any x 19 (.inr (.inr (.inr (.inr (.inr (.inr (.inr (.inl rfl)))))))) hx w
theorem rdown_22 (x : Nat) (hx : x < 4294967296) (w : World) : Calls Tryd.prog 25 #[.int .u32 x, .int .i64 22] w fun e w' => e = .returned (.int .u32 (dn x 22)) ∧ ∃ n, w' = w.drewN n := rdown_any x 22 (.inr (.inr (.inr (.inr (.inr (.inr (.inr (.inr (.inl rfl))))))))) hx w
theorem rdown_25 (x : Nat) (hx : x < 4294967296) (w : World) : Calls Tryd.prog 25 #[.int .u32 x, .int .i64 25] w fun e w' => e = .returned (.int .u32 (dn x 25)) ∧ ∃ n, w' = w.drewN n := rdown_any x 25 (.inr (.inr (.inr (.inr (.inr (.inr (.inr (.inr (.inr (rfl)))))))))) hx w
theorem RowN.belowAt {w w' : World} {g off n B : Nat} {l : List Nat} (h : RowN w (some ⟨g, off, none⟩) n l) (hb : Below B w w') (hg : g < B) : RowN w' (some ⟨g, off, none⟩) n l := by
  refine ⟨h.1, h.2.1, fun hn => ?_⟩
  obtain ⟨b, o, e, hlt, hc⟩ := h.2.2 hn
  injection e with e
  injection e with e1 e2
  subst e1
  subst e2
  exact ⟨_, _, rfl, Nat.lt_of_lt_of_le hlt hb.size, fun i hi => (hb.cell (p := ⟨g, off + i, none⟩) hg).trans (hc i hi)⟩
theorem Row.belowAt {w w' : World} {g B : Nat} {k : IntKind} {T : TypeId} {ns : List Nat} (h : Row w g k T ns) (hb : Below B w w') (hg : g < B) : Row w' g k T ns := (hb.block g hg).trans h
theorem RowN.blk {w : World} {g off n : Nat} {l : List Nat} (h : RowN w (some ⟨g, off, none⟩) n l) (hn : 0 < n) : g < w.heap.size := by
  obtain ⟨b, o, e, hlt, hc⟩ := h.2.2 hn
  injection e with e
  injection e with e1 e2
  subst e1
  exact hlt
theorem own_cellW {w : World} {B g n c : Nat} {l : List Nat} (h : w.ownsRow B 24 1 (.slice (some ⟨g, 0, none⟩) n c) n (cellsK .u32 l)) (j : Nat) (hj : j < n) : w.cell? ⟨g, j, none⟩ = some (.int .u32 ((l.getD j 0 : Nat) : Int)) := by
  rw [h.cellAt j (by omega)]
  have hl : j < l.length := by
    have := h.1
    rw [cellsK_length] at this
    omega
  simp [cellsK, hl, List.getD]
/-- One word appended. -/
theorem wpList_append1w {ops : Array Oper} {rest : List Oper} {o : Oper} {a : Act} {w : World} {Q : Exit → Act → World → Prop} (s x : Operand) (hgd : o.guard = none)
    (ho : o.op = .call { callee := .builtin .append, args := #[s, x], argTypes := #[48, 48] })
    (base : Nat) (v : Value) (n : Nat) (l : List Nat) (hs : a.eval s = v) (hown : Hid (w.ownsRow base 24 1 v n (cellsK .u32 l))) (y : Int) (yn : Nat) (hy : Hid (y = (yn : Int)))
    (hx : a.eval x = .slice (some ⟨w.heap.size, 0, none⟩) 1 1) (hb : n + 1 ≤ 1000000) (hbase : base ≤ w.heap.size)
    (h : ∀ v' w', Hid (w'.ownsRow base 24 1 v' (n + 1) (cellsK .u32 (l ++ [yn]))) → Hid (Below base w w') → wpList Tryd.prog ops Q rest (a.put o.dst v') w') : wpList Tryd.prog ops Q (o :: rest) a (w.alloc (.cells #[.int .u32 y] 24)) := by
  obtain ⟨i0, hi, hz0, hz1, hz2⟩ := info_parts info_u32
  have HB : Below base w (w.alloc (.cells #[.int .u32 y] 24)) := (Below.refl _ _).alloc hbase _
  refine wpList_append_own _ hgd s x 48 ho base 24 i0 (.int .u32 0) 1 4 Tryd.underlying48 hi hz0 hz1 hz2 rfl (by decide) v n _ hs (hown.out.alloc _) ⟨w.heap.size, 0, none⟩ 1 1 [.int .u32 y] hx rfl (new_cell w (.int .u32 y) 24) (by intro u hu; simp only [List.mem_cons, List.not_mem_nil, or_false] at hu; subst hu; rfl) (by unfold maxLen; omega) (by omega) (by simp; omega) ?_
  intro v' w' h1 h2 h3
  refine h v' w' ?_ (HB.grown h2 (by simp; omega) (own_block_ge hown.out))
  rw [cellsK_append, show cellsK .u32 [yn] = [.int .u32 (yn : Int)] from rfl, ← hy.out]
  exact h1
theorem sum24 : (#[.int .u32 1779033703, .int .u32 3144134277, .int .u32 1013904242, .int .u32 2773480762, .int .u32 1359893119, .int .u32 2600822924, .int .u32 528734635, .int .u32 1541459225] : Array Value) = (cellsK .u32 startN.list).toArray := by kernel_rfl


/-- The block of that number in the code. -/
def findBlock (n : Nat) : Code → Option Code
  | .block m c => if m = n then some (.block m c) else findBlock n c
  | .loop c => findBlock n c
  | .scope c => findBlock n c
  | .seq a b => match findBlock n a with
    | some c => some c
    | none => findBlock n b
  | .cond _ a b => match findBlock n a with
    | some c => some c
    | none => findBlock n b
  | _ => none
noncomputable def codeB (n : Nat) : Code := (Tryd.f14.body.bind (findBlock n)).getD .skip
noncomputable def codeB8 : Code := codeB 8
noncomputable def codeB7 : Code := codeB 7
noncomputable def codeB6 : Code := codeB 6
noncomputable def codeB11 : Code := codeB 11
noncomputable def codeB10 : Code := codeB 10
noncomputable def codeB12 : Code := codeB 12
noncomputable def codeB5 : Code := codeB 5
end Go.Proofs.YtifljaandphkpaaDoor
