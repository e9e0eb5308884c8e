/-
  The contract of (*Hash).Add.
-/
import Derived.Test.YtifljaandphkpaaDoorHashSum
import Derived.Test.YtifljaandphkpaaDoorDrawn
import Derived.Deep.Cut
import Derived.Deep.CutRange
namespace Go.Proofs.YtifljaandphkpaaDoor
open Go.RowKit
set_option linter.unusedVariables false
attribute [local go_sem ↓] Go.wp_at_zero Go.wp_at_succ

/-- Nothing that was there is written but block g. -/
def But (g : Nat) (w w' : World) : Prop := Below 0 w w' ∧ ∀ k, k < w.heap.size → k ≠ g → w'.heap[k]? = w.heap[k]?
theorem But.refl (g : Nat) (w : World) : But g w w := ⟨Below.refl _ _, fun _ _ _ => rfl⟩
theorem But.below {g : Nat} {a w w' : World} (h : But g a w) (hb : Below w.heap.size w w') : But g a w' :=
  ⟨h.1.trans (hb.mono (Nat.zero_le _)), fun k hk hg => (hb.block k (Nat.lt_of_lt_of_le hk h.1.size)).trans (h.2 k hk hg)⟩
theorem But.trans {g : Nat} {a w w' : World} (h : But g a w) (h2 : But g w w') : But g a w' :=
  ⟨h.1.trans h2.1, fun k hk hg => (h2.2 k (Nat.lt_of_lt_of_le hk h.1.size) hg).trans (h.2 k hk hg)⟩
theorem But.setCell {g : Nat} {a w : World} (h : But g a w) (j : Nat) (v : Value) : But g a (w.setCell ⟨g, j, none⟩ v) :=
  ⟨h.1.setCell (Nat.zero_le _) v, fun k hk hg => (heap_setCell_other w _ k v hg).trans (h.2 k hk hg)⟩
theorem But.setRow {g : Nat} {a w : World} (h : But g a w) (cs : Array Value) : But g a (w.setRow g cs) :=
  ⟨below_setRow h.1 (Nat.zero_le _) cs, fun k hk hg => (setRow_other w g k cs hg).trans (h.2 k hk hg)⟩
theorem But.drew {g : Nat} {a w : World} (h : But g a w) : But g a w.drew := ⟨h.1.drew, h.2⟩
theorem But.toBelow {g B : Nat} {a w : World} (h : But g a w) (hB : B ≤ g) (hs : B ≤ a.heap.size) : Below B a w :=
  ⟨h.1.os, h.1.tape, h.1.output, h.1.size, fun k hk => h.2 k (by omega) (by omega)⟩
theorem But.rowN {g : Nat} {a w : World} (h : But g a w) {A : Option Addr} {n : Nat} {l : List Nat} (hr : RowN a A n l) (hd : ∀ x, A = some x → x.block ≠ g) : RowN w A n l := by
  refine ⟨hr.1, hr.2.1, fun hn => ?_⟩
  obtain ⟨b, off, rfl, hlt, hc⟩ := hr.2.2 hn
  have hne := hd _ rfl
  refine ⟨b, off, rfl, Nat.lt_of_lt_of_le hlt h.1.size, fun i hi => ?_⟩
  rw [World.cell?_of_block (w := a) (h.2 b hlt hne)]
  exact hc i hi
theorem But.held {g : Nat} {a w : World} (h : But g a w) {A : Option Addr} {n c : Nat} {l : List Nat} (hr : Held a A n c l) (hd : ∀ x, A = some x → x.block ≠ g) : Held w A n c l := ⟨h.rowN hr.1 hd, hr.2⟩
theorem But.roots {g : Nat} {a w : World} (h : But g a w) (hK : RootsOk a) (hg : 0 ≠ g) : RootsOk w :=
  ⟨Nat.lt_of_lt_of_le hK.1 h.1.size, fun t ht => by rw [World.cell?_of_block (w := a) (h.2 0 hK.1 hg)]; exact hK.2 t ht⟩

theorem add_nil (A : Option Addr) (n cap : Nat) (w : World) : Calls Tryd.prog 19 #[.pointer none, .slice A n cap] w fun e w' => e = .returned (.tuple #[]) ∧ w = w' := by
  go_enter Tryd.func19, Tryd.ntmps19
  go_wp2
  refine bodyPost_ret (results_none rfl _ _ _) rfl ?_
  exact ⟨rfl, rfl⟩

theorem copy_into (w : World) (g : Nat) (s : St) (r : List Nat) (n o : Nat) (hr : r.length = 64) (hrow : HRow w g s r n) (ho : o ≤ 64) (A : Option Addr) (m c : Nat) (b : List Nat) (hH : Held w A m c b) :
    ∃ W2 r', (Builtin.copy_ #[22, 22] 3 #[.slice (some ⟨g, 8 + o, none⟩) (64 - o) (64 - o), .slice A m c]).run Tryd.prog w = .ok (.int .i64 ((min m (64 - o) : Nat) : Int)) W2 ∧
      r' = r.take o ++ (b.take (min m (64 - o)) ++ r.drop (o + min m (64 - o))) ∧ HRow W2 g s r' n ∧ But g w W2 := by
  have hb := hH.1.length
  generalize hk : min m (64 - o) = k at *
  rcases Nat.eq_zero_or_pos k with h0 | h0
  · subst h0
    refine ⟨w, r, run_copy_none (P := Tryd.prog) w 22 22 3 5 _ A (64 - o) (64 - o) m c Tryd.underlying22 (by kernel_rfl) (by show min m (64 - o) = 0; omega), ?_, hrow, But.refl _ _⟩
    simp
  · obtain ⟨ad, rfl, hsrc⟩ := RowZ.src (RowN.take hH.1 (k := k) (by omega)) h0
    have h8 : (cellsK .u32 s.list).length = 8 := rfl
    have hl : (cellsZ (asZ (b.take k))).length = k := by rw [cellsZ, List.length_map, asZ_length, List.length_take]; omega
    have hrun := run_copy_row (P := Tryd.prog) w 22 22 3 5 g (8 + o) (64 - o) (64 - o) ad m c (hc s r n).toArray 53 (cellsZ (asZ (b.take k))) Tryd.underlying22 (by kernel_rfl) hrow (by rw [hl]; exact hk.symm) hsrc (by rw [hl]; simp [hc_length hr]; omega) (one_u8 _)
    rw [hl] at hrun
    refine ⟨_, _, hrun, rfl, ?_, (But.refl g w).setRow _⟩
    unfold HRow
    rw [setRow_heap w g _ _ _ (0, 0) hrow]
    congr 3
    have hcz : cellsZ (asZ (b.take k)) = cellsK .u8 (b.take k) := asZ_cells _
    have hrl : (cellsK .u8 r).length = 64 := by rw [cellsK_length, hr]
    unfold hc
    rw [hcz, cellsK_append, cellsK_append, List.toList_toArray, List.take_append, List.take_of_length_le (by omega), h8, show 8 + o - 8 = o from by omega, List.take_append_of_le_length (by omega)]
    rw [show 8 + o + k = (cellsK .u32 s.list).length + (o + k) from by omega, List.drop_append, List.drop_eq_nil_of_le (by omega), List.nil_append, Nat.add_sub_cancel_left, List.drop_append_of_le_length (by omega)]
    simp only [cellsK, List.map_take, List.map_drop, List.append_assoc]

theorem hash_early (l b : List Nat) (r : List Nat) (m : Nat) (hr : r.length = 64) (hb : b.length = m) (h : l.length % 64 + m < 64) (ht : r.take (l.length % 64) = l.drop (64 * (l.length / 64))) :
    (r.take (l.length % 64) ++ (b.take m ++ r.drop (l.length % 64 + m))).take ((l ++ b).length % 64) = (l ++ b).drop (64 * ((l ++ b).length / 64)) ∧ blocksN rootsN startN (l ++ b) ((l ++ b).length / 64) = blocksN rootsN startN l (l.length / 64) := by
  have h1 : (l ++ b).length % 64 = l.length % 64 + m := by rw [List.length_append, hb]; omega
  have h2 : (l ++ b).length / 64 = l.length / 64 := by rw [List.length_append, hb]; omega
  have hl : (r.take (l.length % 64)).length = l.length % 64 := by rw [List.length_take]; omega
  refine ⟨?_, ?_⟩
  · rw [h1, h2, List.drop_append_of_le_length (by omega), ← ht, List.take_of_length_le (l := b) (by omega), ← List.append_assoc]
    exact List.take_left' (by rw [List.length_append, hl, hb])
  · rw [h2]
    exact blocksN_take _ _ _ _ _ (by rw [List.take_append_of_le_length (by omega)])
theorem hash_fill (l b : List Nat) (r : List Nat) (hr : r.length = 64) (hq : 0 < l.length % 64) (hb : 64 - l.length % 64 ≤ b.length) (ht : r.take (l.length % 64) = l.drop (64 * (l.length / 64))) :
    blocksN rootsN startN (l ++ b.take (64 - l.length % 64)) ((l ++ b.take (64 - l.length % 64)).length / 64) = mixN rootsN (blocksN rootsN startN l (l.length / 64)) (r.take (l.length % 64) ++ b.take (64 - l.length % 64)) ∧
      (l ++ b.take (64 - l.length % 64)).length % 64 = 0 ∧ (l ++ b.take (64 - l.length % 64)).length = l.length + (64 - l.length % 64) := by
  have hk : (b.take (64 - l.length % 64)).length = 64 - l.length % 64 := by rw [List.length_take]; omega
  have h0 : (l ++ b.take (64 - l.length % 64)).length = l.length + (64 - l.length % 64) := by rw [List.length_append, hk]
  have h2 : (l ++ b.take (64 - l.length % 64)).length / 64 = l.length / 64 + 1 := by rw [h0]; omega
  refine ⟨?_, by rw [h0]; omega, h0⟩
  rw [h2, blocksN, blocksN_take rootsN startN (l ++ b.take (64 - l.length % 64)) l (l.length / 64) (by rw [List.take_append_of_le_length (by omega)])]
  congr 1
  rw [List.drop_append_of_le_length (by omega), ← ht, List.take_of_length_le (by rw [List.length_append, hk, List.length_take]; omega)]
theorem hash_whole (L b r : List Nat) (m : Nat) (hr : r.length = 64) (hb : b.length = m) (h0 : L.length % 64 = 0) :
    blocksN rootsN (blocksN rootsN startN L (L.length / 64)) b (m / 64) = blocksN rootsN startN (L ++ b) ((L ++ b).length / 64) ∧
      (r.take 0 ++ ((b.drop (64 * (m / 64))).take (m % 64) ++ r.drop (0 + m % 64))).take ((L ++ b).length % 64) = (L ++ b).drop (64 * ((L ++ b).length / 64)) := by
  have h1 : (L ++ b).length % 64 = m % 64 := by rw [List.length_append, hb]; omega
  have h2 : (L ++ b).length / 64 = L.length / 64 + m / 64 := by rw [List.length_append, hb]; omega
  have hd : (b.drop (64 * (m / 64))).length = m % 64 := by rw [List.length_drop, hb]; omega
  have hdd : (L ++ b).drop (L.length + 64 * (m / 64)) = b.drop (64 * (m / 64)) := by rw [← List.drop_drop, List.drop_left' rfl]
  refine ⟨?_, ?_⟩
  · rw [h2, blocksN_add, List.drop_append_of_le_length (by omega), List.drop_eq_nil_of_le (by omega), List.nil_append, blocksN_take rootsN startN (L ++ b) L (L.length / 64) (by rw [List.take_append_of_le_length (by omega)])]
  · rw [h1, h2, List.take_zero, List.nil_append, List.take_of_length_le (l := b.drop (64 * (m / 64))) (by omega), show 64 * (L.length / 64 + m / 64) = L.length + 64 * (m / 64) from by omega, hdd]
    exact List.take_left' hd

theorem held_from {w : World} {ad : Addr} {m cap k : Nat} {b : List Nat} (h : Held w (some ad) m cap b) (hk : k ≤ m) : Held w (if cap = k then some ad else some (ad.add k)) (m - k) (cap - k) (b.drop k) := by
  have hmc := h.2.2
  have hbl := h.1.length
  rcases Nat.eq_zero_or_pos (m - k) with h0 | h0
  · rw [h0, List.drop_eq_nil_of_le (by omega)]
    refine ⟨RowN.nil, fun hx => ?_, by omega⟩
    split at hx <;> cases hx
  · have hne : ¬ cap = k := by omega
    rw [if_neg hne]
    obtain ⟨bb, off, e, _⟩ := h.1.2.2 (by omega)
    obtain rfl := Option.some.inj e
    have ha : (⟨bb, off, none⟩ : Addr).add k = ⟨bb, off + k, none⟩ := by unfold Addr.add; split <;> simp_all
    rw [ha]
    exact ⟨h.1.dropAt hk, (fun hx => by cases hx), by omega⟩
theorem But.setSum {g : Nat} {a w : World} (h : But g a w) {s : St} {r : List Nat} {n : Nat} (hrow : HRow w g s r n) (hr : r.length = 64) (s' : St) : But g a (w.setCells g 0 (cellsK .u32 s'.list)) := by
  have h8' : (cellsK .u32 s'.list).length = 8 := rfl
  rw [setCells_row w g 0 _ (hc s r n) _ hrow (by rw [hc_length hr, h8']; omega) (one_K _ _)]
  exact h.setRow _
theorem wpList_loadM {P : Program} {ops : Array Oper} {rest : List Oper} {o : Oper} {a : Act} {w : World} {Q : Exit → Act → World → Prop} (ty : TypeId) (x : Operand) (hgd : o.guard = none)
    (ho : o.op = .load ty x) (b off : Nat) (k : IntKind) (ns : List Nat) (n : Nat) (e : TypeId) (hx : a.eval x = .pointer (some ⟨b, off, none⟩)) (hc : Hid (w.rangeAt b off (cellsK k ns)))
    (hu : P.underlying ty = some (.array n e)) (hi : Hid ((P.info? ty).map (·.size) = some n)) (hn : Hid (ns.length = n))
    (h : wpList P ops Q rest (a.put o.dst (.agg (cellsK k ns).toArray)) w) : wpList P ops Q (o :: rest) a w :=
  wpList_load_mid hgd ty x ho b off hx _ _ hc.out hu rfl (by rw [hi.out, cellsK_length, hn.out]) h
theorem wpList_storeM {P : Program} {ops : Array Oper} {rest : List Oper} {o : Oper} {a : Act} {w : World} {Q : Exit → Act → World → Prop} (ty : TypeId) (x y : Operand) (hgd : o.guard = none)
    (ho : o.op = .store ty x y) (b off : Nat) (k : IntKind) (ns : List Nat) (n : Nat) (hx : a.eval x = .pointer (some ⟨b, off, none⟩)) (hy : a.eval y = .agg (cellsK k ns).toArray)
    (ht : Hid (w.there b off n)) (hi : Hid ((P.info? ty).map (·.size) = some n)) (hn : Hid (ns.length = n))
    (h : wpList P ops Q rest (a.put o.dst undef) (w.setCells b off (cellsK k ns))) : wpList P ops Q (o :: rest) a w :=
  wpList_store_mid hgd ty x y ho b off _ hx hy (by rw [cellsK_size, hn.out]; exact ht.out) (by rw [hi.out, cellsK_size, hn.out]) (one_Ka k ns) (by simpa using h)
theorem step_load_mid {P : Program} {w : World} {ops : Array Oper} {o : Oper} {a : Act} {K : Act → World → Prop} {Q : Exit → Act → World → Prop} {E : Prop} (hgd : o.guard = none) (ty : TypeId) (x : Operand)
    (ho : o.op = .load ty x) (b off : Nat) (k : IntKind) (ns : List Nat) (n : Nat) (e : TypeId) (hx : a.eval x = .pointer (some ⟨b, off, none⟩)) (hc : Hid (w.rangeAt b off (cellsK k ns)))
    (hu : P.underlying ty = some (.array n e)) (hi : Hid ((P.info? ty).map (·.size) = some n)) (hn : Hid (ns.length = n))
    (h : K (a.put o.dst (.agg (cellsK k ns).toArray)) w) : if Region.wanted o (yielded ops a.tmps) = true then Oper.wp P o a w K Q else E := by
  have hw : Region.wanted o (yielded ops a.tmps) = true := by simp [Region.wanted, hgd]
  rw [if_pos hw]
  exact wp_load_mid ty x ho b off hx _ _ hc.out hu rfl (by rw [hi.out, cellsK_length, hn.out]) h
theorem step_store_mid {P : Program} {w : World} {ops : Array Oper} {o : Oper} {a : Act} {K : Act → World → Prop} {Q : Exit → Act → World → Prop} {E : Prop} (hgd : o.guard = none) (ty : TypeId) (x y : Operand)
    (ho : o.op = .store ty x y) (b off : Nat) (k : IntKind) (ns : List Nat) (n : Nat) (hx : a.eval x = .pointer (some ⟨b, off, none⟩)) (hy : a.eval y = .agg (cellsK k ns).toArray)
    (ht : Hid (w.there b off n)) (hi : Hid ((P.info? ty).map (·.size) = some n)) (hn : Hid (ns.length = n))
    (h : K (a.put o.dst undef) (w.setCells b off (cellsK k ns))) : if Region.wanted o (yielded ops a.tmps) = true then Oper.wp P o a w K Q else E := by
  have hw : Region.wanted o (yielded ops a.tmps) = true := by simp [Region.wanted, hgd]
  rw [if_pos hw]
  exact wp_store_mid ty x y ho b off _ hx hy (by rw [cellsK_size, hn.out]; exact ht.out) (by rw [hi.out, cellsK_size, hn.out]) (one_Ka k ns) (by simpa using h)
set_option maxHeartbeats 4000000 in
theorem add_any (g : Nat) (l : List Nat) (hl : l.length ≤ 50000) (A : Option Addr) (m cap : Nat) (b : List Nat) (hm : m ≤ 50000) (hcm : cap ≤ 9223372036854775807) (w : World) (hH : Holds w g l) (hB : Held w A m cap b) (hd : ∀ x, A = some x → x.block ≠ g) (hK : RootsOk w) (hgr : 0 ≠ g) :
    Calls Tryd.prog 19 #[.pointer (some ⟨g, 0, none⟩), .slice A m cap] w fun e w' => e = .returned (.tuple #[]) ∧ Holds w' g (l ++ b) ∧ But g w w' := by
  obtain ⟨r, hr, hrb, hrt, hrow⟩ := hH
  have hbl := hB.1.length
  have hbb := hB.1.lt
  have hmc : m ≤ cap := hB.2.2
  have cn := hrow.num hr
  have hqt : (l.length : Int).tmod 64 = ((l.length % 64 : Nat) : Int) := by rw [Int.tmod_eq_emod_of_nonneg (by omega)]; omega
  have hqi : (l.length : Int) % 64 = ((l.length % 64 : Nat) : Int) := by omega
  have hq : l.length % 64 < 64 := Nat.mod_lt _ (by decide)
  rcases Nat.eq_zero_or_pos (l.length % 64) with h0 | h0
  · obtain ⟨r', rfl⟩ : ∃ r', r' = r := ⟨_, rfl⟩
    have HR' := Lib.hid hr
    have HRB' := Lib.hid hrb
    have HK := Lib.hid hK
    have HA1 := Lib.hid hB
    have HD1 := Lib.hid hd
    have HW6 := Lib.hid hrow
    have HB6 := Lib.hid (But.refl g w)
    have HF2 := Lib.hid h0
    have HLL : Hid (l ++ b = l ++ b) := Lib.hid rfl
    have hs1ok := Lib.hid (blocksN_ok rootsN startN l startN_ok (l.length / 64))
    rw [h0] at hqi hqt
    have hqi0 : (l.length : Int) % 64 = 0 := hqi
    have hqt0 : (l.length : Int).tmod 64 = 0 := hqt
    clear hr hrb hK hB hd hrow hrt hbl hbb h0 hqi hqt hq
    generalize hs1 : blocksN rootsN startN l (l.length / 64) = s1 at *
    have HS1 := Lib.hid hs1
    have hs18 : Hid (s1.list.length = 8) := Lib.hid rfl
    clear hs1
    obtain ⟨L, hLl⟩ : ∃ L, L = l := ⟨_, rfl⟩
    rw [← hLl] at HF2 HS1
    have HL0 : Hid (L.length = l.length) := Lib.hid (by rw [hLl])
    have HLL2 : Hid (L ++ b = l ++ b) := Lib.hid (by rw [hLl])
    clear HLL
    have HLL := HLL2
    clear HLL2 hLl
    generalize l.length = n1 at *
    obtain ⟨b1, hb1e⟩ : ∃ b1, b1 = b := ⟨_, rfl⟩
    rw [← hb1e] at HA1
    have HLL2 : Hid (L ++ b1 = l ++ b) := Lib.hid (by rw [hb1e]; exact HLL.out)
    clear HLL
    have HLL := HLL2
    clear HLL2 hb1e
    obtain ⟨A1, rfl⟩ : ∃ A1, A1 = A := ⟨_, rfl⟩
    obtain ⟨m1, rfl⟩ : ∃ m1, m1 = m := ⟨_, rfl⟩
    obtain ⟨c1, rfl⟩ : ∃ c1, c1 = cap := ⟨_, rfl⟩
    have hc1b := hcm
    have hm1b := hm
    have hn1b : n1 ≤ 60000 := by omega
    go_enter Tryd.func19, Tryd.ntmps19
    go_upto_region 8 with (fail)
    clear cn
    have cn6 := HW6.out.num HR'.out
    have cf6 := HW6.out.free 72
    have HW7 : Hid (HRow (w.setCell ⟨g, 72, none⟩ (.int .i64 ((n1 : Int) + (m1 : Int)))) g s1 r' (n1 + m1)) := Lib.hid (HW6.out.setNum HR'.out (n1 + m1))
    have HB7 : Hid (But g w (w.setCell ⟨g, 72, none⟩ (.int .i64 ((n1 : Int) + (m1 : Int))))) := Lib.hid (HB6.out.setCell 72 _)
    clear HW6 HB6
    go_upto_region 9 with (fail)
    clear cn6 cf6
    generalize w.setCell ⟨g, 72, none⟩ (.int .i64 ((n1 : Int) + (m1 : Int))) = w7 at *
    have hrg := Lib.hid HW7.out.sum
    go_wp2_with (with_reducible refine wpList_loadM 43 (.tmp 62) rfl rfl g 0 .u32 s1.list 8 24 rfl hrg Tryd.underlying43 size8w hs18 ?_)
    refine (whole_blk s1 hs1ok.out A1 m1 c1 b1 (by omega) w7 (HB7.out.held HA1.out HD1.out) hc1b (HB7.out.roots HK.out hgr)).mono ?_
    rintro e w8 ⟨⟨A2, c2, rfl, hc2, hQ2, hX2⟩, hb8⟩
    have HW8 := Lib.hid (HW7.out.belowAt hb8 HW7.out.lt)
    have HB8 := Lib.hid (HB7.out.below hb8)
    have HQ2 := Lib.hid hQ2
    have HD2 : Hid (∀ x, A2 = some x → x.block ≠ g) := Lib.hid (fun x hx => by
      obtain ⟨x0, h1, h2⟩ := hX2 x hx
      rw [h2]
      exact HD1.out x0 h1)
    clear hb8 hQ2 hX2 HW7 HB7 hrg
    have hfin := hash_whole L b1 r' m1 HR'.out HA1.out.1.length HF2.out
    rw [HS1.out] at hfin
    have HFA := Lib.hid hfin.1
    have HFB := Lib.hid hfin.2
    clear hfin
    generalize blocksN rootsN s1 b1 (m1 / 64) = s2 at *
    have hs28 : Hid (s2.list.length = 8) := Lib.hid rfl
    have hth := Lib.hid (HW8.out.there0 HR'.out)
    have HW9 := Lib.hid (HW8.out.setSum HR'.out s2)
    have HB9 := Lib.hid (HB8.out.setSum HW8.out HR'.out s2)
    have HQ9 := Lib.hid ((But.refl g w8).setSum HW8.out HR'.out s2 |>.held HQ2.out HD2.out)
    obtain ⟨W9, r9, hcp, hr9, hrow9, hbut9⟩ := copy_into (w8.setCells g 0 (cellsK .u32 s2.list)) g s2 r' (n1 + m1) 0 HR'.out HW9.out (by omega) A2 (m1 % 64) c2 (b1.drop (64 * (m1 / 64))) HQ9.out
    have hq1 : m1 % 64 < 64 := Nat.mod_lt _ (by decide)
    rw [show min (m1 % 64) (64 - 0) = m1 % 64 from by omega] at hcp hr9
    rw [← hr9] at HFB
    have hlen2 : (L ++ b1).length = n1 + m1 := by rw [List.length_append, HL0.out, HA1.out.1.length]
    have hbd : (b1.drop (64 * (m1 / 64))).length = m1 % 64 := HQ2.out.1.length
    have HFIN : Hid (Holds W9 g (l ++ b)) := Lib.hid (by
      rw [← HLL.out]
      refine ⟨r9, ?_, ?_, HFB.out, ?_⟩
      · have hb1l := HA1.out.1.length
        have hr64 := HR'.out
        simp only [hr9, List.length_append, List.length_take, List.length_drop]
        omega
      · intro x hx
        rw [hr9] at hx
        rcases List.mem_append.1 hx with hx | hx
        · exact HRB'.out x (List.mem_of_mem_take hx)
        · rcases List.mem_append.1 hx with hx | hx
          · exact HQ2.out.1.lt x (List.mem_of_mem_take hx)
          · exact HRB'.out x (List.mem_of_mem_drop hx)
      · rw [← HFA.out, hlen2]
        exact hrow9)
    have HBF := Lib.hid (HB9.out.trans hbut9)
    clear HW8 HB8 HW9 HB9 HQ9 hr9 hrow9 hbut9 hlen2 hbd HFA HFB
    have hcp0 : (Builtin.copy_ #[22, 22] 3 #[.slice (some ⟨g, 8, none⟩) 64 64, .slice A2 (m1 % 64) c2]).run Tryd.prog (w8.setCells g 0 (cellsK .u32 s2.list)) = .ok (.int .i64 ((m1 % 64 : Nat) : Int)) W9 := hcp
    clear hcp
    go_wp2_with (with_reducible refine wpList_storeM 43 (.tmp 69) (.tmp 66) rfl rfl g 0 .u32 s2.list 8 rfl rfl hth size8w hs28 ?_)
    go_end0
    exact ⟨rfl, HFIN.out, HBF.out⟩
  · obtain ⟨W2, r', hcopy, hr', hrow2, hbut2⟩ := copy_into w g _ r _ (l.length % 64) hr hrow (by omega) A m cap b hB
    by_cases hA : l.length % 64 + m < 64
    · have he := hash_early l b r m hr hbl hA hrt
      rw [Nat.min_eq_left (by omega)] at hcopy hr'
      rw [← hr'] at he
      have hr64' : r'.length = 64 := by rw [hr', List.length_append, List.length_append, List.length_take, List.length_take, List.length_drop]; omega
      have hrb' : ∀ x ∈ r', x < 256 := fun x hx => by
        rw [hr'] at hx
        rcases List.mem_append.1 hx with hx | hx
        · exact hrb x (List.mem_of_mem_take hx)
        · rcases List.mem_append.1 hx with hx | hx
          · exact hbb x (List.mem_of_mem_take hx)
          · exact hrb x (List.mem_of_mem_drop hx)
      have cn2 := hrow2.num hr64'
      have cf2 := hrow2.free 72
      have hrow3 := hrow2.setNum hr64' (l.length + m)
      have hbut3 := hbut2.setCell 72 (.int .i64 ((l.length + m : Nat) : Int))
      have HF : Hid (Holds (W2.setCell ⟨g, 72, none⟩ (.int .i64 ((l.length + m : Nat) : Int))) g (l ++ b)) := Lib.hid ⟨r', hr64', hrb', he.1, by
        rw [he.2, show (l ++ b).length = l.length + m from by rw [List.length_append, hbl]]
        exact hrow3⟩
      have HB3 := Lib.hid hbut3
      clear hrow2 hbut2 hrow3 hbut3 he hr' hr64' hrb' hrow hrt hrb hr hbb hbl hB hK
      generalize l.length % 64 = q at *
      generalize hln : l.length = n0 at *
      have HLN := Lib.hid hln
      clear hln
      have hqi0 : (0 : Int) < (q : Int) := by omega
      have hq64 : (q : Int) ≤ 64 := by omega
      have hmi : (m : Int) ≤ (cap : Int) := by omega
      have hsum : (q : Int) + (m : Int) < 64 := by omega
      go_enter Tryd.func19, Tryd.ntmps19
      go_wp2
      all_goals exact bodyPost_ret (results_none rfl _ _ _) rfl ⟨rfl, HF.out, HB3.out⟩
    · obtain ⟨k, hk⟩ : ∃ k, k = 64 - l.length % 64 := ⟨_, rfl⟩
      have hf := hash_fill l b r hr h0 (by omega) hrt
      rw [← hk] at hf
      obtain ⟨hf1, hf2, hf3⟩ := hf
      rw [show min m (64 - l.length % 64) = k from by omega] at hcopy hr'
      have hdr : r.drop (l.length % 64 + k) = [] := List.drop_eq_nil_of_le (by omega)
      rw [hdr, List.append_nil] at hr'
      rw [← hr'] at hf1
      have hr64' : r'.length = 64 := by rw [hr', List.length_append, List.length_take, List.length_take]; omega
      have hrb' : ∀ x ∈ r', x < 256 := fun x hx => by
        rw [hr'] at hx
        rcases List.mem_append.1 hx with hx | hx
        · exact hrb x (List.mem_of_mem_take hx)
        · exact hbb x (List.mem_of_mem_take hx)
      have cn2 := hrow2.num hr64'
      have cf2 := hrow2.free 72
      have hrow3 := Lib.hid (hrow2.setNum hr64' (l.length + k))
      have hbut3 := Lib.hid (hbut2.setCell 72 (.int .i64 ((l.length + k : Nat) : Int)))
      have hok := Lib.hid (blocksN_ok rootsN startN l startN_ok (l.length / 64))
      have HF1 := Lib.hid hf1
      have HF2 := Lib.hid hf2
      have HF3 := Lib.hid hf3
      have HR' := Lib.hid hr64'
      have HRB' := Lib.hid hrb'
      have HBL := Lib.hid hbl
      have HBB := Lib.hid hB
      have HK := Lib.hid hK
      have hkm : k ≤ m := by omega
      have hk1 : 0 < k := by omega
      have hqk : l.length % 64 + k = 64 := by omega
      clear hrow2 hbut2 hr' hr64' hrb' hrow hrt hrb hr hbb hbl hB hK hf1 hf2 hf3 hdr
      generalize blocksN rootsN startN l (l.length / 64) = s at *
      clear hk
      generalize l.length % 64 = q at *
      generalize hln : l.length = n0 at *
      have HLN := Lib.hid hln
      clear hln
      have hqi0 : (0 : Int) < (q : Int) := by omega
      have hq64 : (q : Int) ≤ 64 := by omega
      have hmi : (m : Int) ≤ (cap : Int) := by omega
      have hki : (k : Int) ≤ (m : Int) := by omega
      have hsum : ¬ (q : Int) + (k : Int) < 64 := by omega
      obtain ⟨ad, rfl⟩ : ∃ ad, A = some ad := by
        cases A with
        | some ad => exact ⟨ad, rfl⟩
        | none => have := HBB.out.nil_zero rfl; omega
      go_enter Tryd.func19, Tryd.ntmps19
      go_upto_region 7 with (fail)
      have HA1 : Hid (Held w (if cap = k then some ad else some (ad.add k)) (m - k) (cap - k) (b.drop k)) := Lib.hid (held_from HBB.out hkm)
      have HD1 : Hid (∀ x, (if cap = k then some ad else some (ad.add k)) = some x → x.block ≠ g) := Lib.hid (fun x hx => by
        split at hx
        · exact hd x hx
        · injection hx with hx
          subst hx
          have ha : (ad.add k).block = ad.block := by unfold Addr.add; split <;> rfl
          rw [ha]
          exact hd ad rfl)
      generalize (if cap = k then some ad else some (ad.add k)) = A1 at *
      have HW3 : Hid (HRow (W2.setCell ⟨g, 72, none⟩ (.int .i64 ((n0 : Int) + (k : Int)))) g s r' (n0 + k)) := hrow3
      have HB3 : Hid (But g w (W2.setCell ⟨g, 72, none⟩ (.int .i64 ((n0 : Int) + (k : Int))))) := hbut3
      clear hrow3 hbut3 cn2 cf2 cn hcopy hsum hqi hqt
      generalize W2.setCell ⟨g, 72, none⟩ (.int .i64 ((n0 : Int) + (k : Int))) = w3 at *
      obtain ⟨xa, xb, xc, xd, xe, xf, xg, xh⟩ := s
      have hs8 : Hid ((St.list ⟨xa, xb, xc, xd, xe, xf, xg, xh⟩).length = 8) := Lib.hid rfl
      refine wp_region_held_drew (S := fun _ => True) (by kernel_rfl) trivial (fun _ => ?_)
      have HW4 : Hid (HRow w3.drew g ⟨xa, xb, xc, xd, xe, xf, xg, xh⟩ r' (n0 + k)) := HW3
      have HB4 := Lib.hid HB3.out.drew
      clear HW3 HB3
      generalize w3.drew = w4 at *
      refine takeH 0 37 (v := (.pointer (some ⟨g, 0, none⟩))) rfl rfl (by kernel_rfl) (by kernel_rfl) (by kernel_rfl) (fun _ _ _ h => h) (by rfl) ?_ trivial ?_
      · intro w hSw
        go_simp
      simp only [Act.put, List.setIfInBounds_toArray, List.set_cons_zero, List.set_cons_succ]
      refine takeH 1 38 (v := (.pointer (some ⟨g, 0, none⟩))) rfl rfl (by kernel_rfl) (by kernel_rfl) (by kernel_rfl) (fun _ _ _ h => h) (by rfl) ?_ trivial ?_
      · intro w hSw
        go_simp
      simp only [Act.put, List.setIfInBounds_toArray, List.set_cons_zero, List.set_cons_succ]
      refine takeH 2 39 (v := (.pointer (some ⟨g, 0, none⟩))) rfl rfl (by kernel_rfl) (by kernel_rfl) (by kernel_rfl) (fun _ _ _ h => h) (by rfl) ?_ trivial ?_
      · intro w hSw
        go_simp
      simp only [Act.put, List.setIfInBounds_toArray, List.set_cons_zero, List.set_cons_succ]
      refine takeH 3 40 (v := (.pointer (some ⟨g, 0, none⟩))) rfl rfl (by kernel_rfl) (by kernel_rfl) (by kernel_rfl) (fun _ _ _ h => h) (by rfl) ?_ trivial ?_
      · intro w hSw
        go_simp
      simp only [Act.put, List.setIfInBounds_toArray, List.set_cons_zero, List.set_cons_succ]
      refine takeH 5 42 (v := (.pointer (some ⟨g, 0, none⟩))) rfl rfl (by kernel_rfl) (by kernel_rfl) (by kernel_rfl) (fun _ _ _ h => h) (by rfl) ?_ trivial ?_
      · intro w hSw
        go_simp
      simp only [Act.put, List.setIfInBounds_toArray, List.set_cons_zero, List.set_cons_succ]
      refine takeH 6 43 (v := (.pointer (some ⟨g, 0, none⟩))) rfl rfl (by kernel_rfl) (by kernel_rfl) (by kernel_rfl) (fun _ _ _ h => h) (by rfl) ?_ trivial ?_
      · intro w hSw
        go_simp
      simp only [Act.put, List.setIfInBounds_toArray, List.set_cons_zero, List.set_cons_succ]
      refine takeH 7 44 (v := (.pointer (some ⟨g, 8, none⟩))) rfl rfl (by kernel_rfl) (by kernel_rfl) (by kernel_rfl) (fun _ _ _ h => h) (by rfl) ?_ trivial ?_
      · intro w hSw
        go_simp
      simp only [Act.put, List.setIfInBounds_toArray, List.set_cons_zero, List.set_cons_succ]
      refine takeH 8 45 (v := (.slice (some ⟨g, 8, none⟩) 64 64)) rfl rfl (by kernel_rfl) (by kernel_rfl) (by kernel_rfl) (fun _ _ _ h => h) (by rfl) ?_ trivial ?_
      · intro w hSw
        go_simp
      simp only [Act.put, List.setIfInBounds_toArray, List.set_cons_zero, List.set_cons_succ]
      refine wpAnyH_ready (rs := [4]) (by kernel_rfl) (by simp) ?_
      refine AllReadyH.cons rfl (fun K hK => ?_) AllReadyH.nil
      have hrg := Lib.hid HW4.out.sum
      refine step_load_mid rfl 43 (.tmp 40) rfl g 0 .u32 (St.list ⟨xa, xb, xc, xd, xe, xf, xg, xh⟩) 8 24 rfl hrg Tryd.underlying43 size8w hs8 ?_
      refine hK.out _ _ trivial (fun _ => ?_)
      clear hK K hrg
      simp only [Act.put, List.setIfInBounds_toArray]
      refine wpAnyH_ready (rs := [9]) (by kernel_rfl) (by simp) ?_
      refine AllReadyH.cons rfl (fun K hK => ?_) AllReadyH.nil
      have hrest : Hid (RowN w4 (some ⟨g, 8, none⟩) 64 r') := Lib.hid (by
        have := HW4.out.restN HR'.out HRB'.out 64 (by omega)
        rwa [List.take_of_length_le (by rw [HR'.out]; omega)] at this)
      go_simp
      go_at_call 27
      refine (mix_any ⟨xa, xb, xc, xd, xe, xf, xg, xh⟩ hok.out (some ⟨g, 8, none⟩) 64 r' w4 hrest.out (HB4.out.roots HK.out hgr)).mono ?_
      rintro e w5 ⟨rfl, hb5⟩
      rw [← HF1.out]
      have HW5 := Lib.hid (HW4.out.belowAt hb5 HW4.out.lt)
      have HB5 := Lib.hid (HB4.out.below hb5)
      clear hb5 hrest HW4 HB4
      generalize hs1 : blocksN rootsN startN (l ++ b.take k) ((l ++ b.take k).length / 64) = s1 at *
      have HS1 := Lib.hid hs1
      have hs18 : Hid (s1.list.length = 8) := Lib.hid rfl
      clear hs1
      refine hK.out _ _ trivial (fun _ => ?_)
      clear hK K
      refine takeH 10 47 (v := (.pointer (some ⟨g, 0, none⟩))) rfl rfl (by kernel_rfl) (by kernel_rfl) (by kernel_rfl) (fun _ _ _ h => h) (by rfl) ?_ trivial ?_
      · intro w hSw
        go_simp
      simp only [Act.put, List.setIfInBounds_toArray, List.set_cons_zero, List.set_cons_succ]
      refine takeH 11 48 (v := (.pointer (some ⟨g, 0, none⟩))) rfl rfl (by kernel_rfl) (by kernel_rfl) (by kernel_rfl) (fun _ _ _ h => h) (by rfl) ?_ trivial ?_
      · intro w hSw
        go_simp
      simp only [Act.put, List.setIfInBounds_toArray]
      refine wpAnyH_ready (rs := [12]) (by kernel_rfl) (by simp) ?_
      refine AllReadyH.cons rfl (fun K hK => ?_) AllReadyH.nil
      have hth := Lib.hid (HW5.out.there0 HR'.out)
      refine step_store_mid rfl 43 (.tmp 48) (.tmp 46) rfl g 0 .u32 s1.list 8 rfl rfl hth size8w hs18 ?_
      refine hK.out _ _ trivial (fun _ => ?_)
      clear hK K
      have HW6 := Lib.hid (HW5.out.setSum HR'.out s1)
      have HB6 := Lib.hid (HB5.out.setSum HW5.out HR'.out s1)
      clear HW5 HB5 hth
      generalize w5.setCells g 0 (cellsK .u32 s1.list) = w6 at *
      refine wpAnyH_done (by kernel_rfl) ?_ _
      have HLL : Hid ((l ++ b.take k) ++ b.drop k = l ++ b) := Lib.hid (by rw [List.append_assoc, List.take_append_drop])
      have hn1b : n0 + k ≤ 60000 := by omega
      have hm1b : m - k ≤ 50000 := by omega
      have hc1b : cap - k ≤ 9223372036854775807 := by omega
      have hs1ok : Hid s1.ok := Lib.hid (by rw [← HS1.out]; exact blocksN_ok _ _ _ startN_ok _)
      generalize l ++ b.take k = L at *
      generalize b.drop k = b1 at *
      generalize n0 + k = n1 at *
      generalize m - k = m1 at *
      generalize cap - k = c1 at *
      have HL0 : Hid (L.length = n1) := HF3
      clear HF1 HF3 hqi0 hq64 hmi hki hkm hk1 hqk HBB HBL hok h0 hA hq
      have cn6 := HW6.out.num HR'.out
      have cf6 := HW6.out.free 72
      have HW7 : Hid (HRow (w6.setCell ⟨g, 72, none⟩ (.int .i64 ((n1 : Int) + (m1 : Int)))) g s1 r' (n1 + m1)) := Lib.hid (HW6.out.setNum HR'.out (n1 + m1))
      have HB7 : Hid (But g w (w6.setCell ⟨g, 72, none⟩ (.int .i64 ((n1 : Int) + (m1 : Int))))) := Lib.hid (HB6.out.setCell 72 _)
      clear HW6 HB6
      go_upto_region 9 with (fail)
      clear cn6 cf6
      generalize w6.setCell ⟨g, 72, none⟩ (.int .i64 ((n1 : Int) + (m1 : Int))) = w7 at *
      have hrg := Lib.hid HW7.out.sum
      go_wp2_with (with_reducible refine wpList_loadM 43 (.tmp 62) rfl rfl g 0 .u32 s1.list 8 24 rfl hrg Tryd.underlying43 size8w hs18 ?_)
      refine (whole_blk s1 hs1ok.out A1 m1 c1 b1 (by omega) w7 (HB7.out.held HA1.out HD1.out) hc1b (HB7.out.roots HK.out hgr)).mono ?_
      rintro e w8 ⟨⟨A2, c2, rfl, hc2, hQ2, hX2⟩, hb8⟩
      have HW8 := Lib.hid (HW7.out.belowAt hb8 HW7.out.lt)
      have HB8 := Lib.hid (HB7.out.below hb8)
      have HQ2 := Lib.hid hQ2
      have HD2 : Hid (∀ x, A2 = some x → x.block ≠ g) := Lib.hid (fun x hx => by
        obtain ⟨x0, h1, h2⟩ := hX2 x hx
        rw [h2]
        exact HD1.out x0 h1)
      clear hb8 hQ2 hX2 HW7 HB7 hrg
      have hfin := hash_whole L b1 r' m1 HR'.out HA1.out.1.length HF2.out
      rw [HS1.out] at hfin
      have HFA := Lib.hid hfin.1
      have HFB := Lib.hid hfin.2
      clear hfin
      generalize blocksN rootsN s1 b1 (m1 / 64) = s2 at *
      have hs28 : Hid (s2.list.length = 8) := Lib.hid rfl
      have hth := Lib.hid (HW8.out.there0 HR'.out)
      have HW9 := Lib.hid (HW8.out.setSum HR'.out s2)
      have HB9 := Lib.hid (HB8.out.setSum HW8.out HR'.out s2)
      have HQ9 := Lib.hid ((But.refl g w8).setSum HW8.out HR'.out s2 |>.held HQ2.out HD2.out)
      obtain ⟨W9, r9, hcp, hr9, hrow9, hbut9⟩ := copy_into (w8.setCells g 0 (cellsK .u32 s2.list)) g s2 r' (n1 + m1) 0 HR'.out HW9.out (by omega) A2 (m1 % 64) c2 (b1.drop (64 * (m1 / 64))) HQ9.out
      have hq1 : m1 % 64 < 64 := Nat.mod_lt _ (by decide)
      rw [show min (m1 % 64) (64 - 0) = m1 % 64 from by omega] at hcp hr9
      rw [← hr9] at HFB
      have hlen2 : (L ++ b1).length = n1 + m1 := by rw [List.length_append, HL0.out, HA1.out.1.length]
      have hbd : (b1.drop (64 * (m1 / 64))).length = m1 % 64 := HQ2.out.1.length
      have HFIN : Hid (Holds W9 g (l ++ b)) := Lib.hid (by
        rw [← HLL.out]
        refine ⟨r9, ?_, ?_, HFB.out, ?_⟩
        · have hb1l := HA1.out.1.length
          have hr64 := HR'.out
          simp only [hr9, List.length_append, List.length_take, List.length_drop]
          omega
        · intro x hx
          rw [hr9] at hx
          rcases List.mem_append.1 hx with hx | hx
          · exact HRB'.out x (List.mem_of_mem_take hx)
          · rcases List.mem_append.1 hx with hx | hx
            · exact HQ2.out.1.lt x (List.mem_of_mem_take hx)
            · exact HRB'.out x (List.mem_of_mem_drop hx)
        · rw [← HFA.out, hlen2]
          exact hrow9)
      have HBF := Lib.hid (HB9.out.trans hbut9)
      clear HW8 HB8 HW9 HB9 HQ9 hr9 hrow9 hbut9 hlen2 hbd HFA HFB
      have hcp0 : (Builtin.copy_ #[22, 22] 3 #[.slice (some ⟨g, 8, none⟩) 64 64, .slice A2 (m1 % 64) c2]).run Tryd.prog (w8.setCells g 0 (cellsK .u32 s2.list)) = .ok (.int .i64 ((m1 % 64 : Nat) : Int)) W9 := hcp
      clear hcp
      go_wp2_with (with_reducible refine wpList_storeM 43 (.tmp 69) (.tmp 66) rfl rfl g 0 .u32 s2.list 8 rfl rfl hth size8w hs28 ?_)
      go_end0
      exact ⟨rfl, HFIN.out, HBF.out⟩
end Go.Proofs.YtifljaandphkpaaDoor
