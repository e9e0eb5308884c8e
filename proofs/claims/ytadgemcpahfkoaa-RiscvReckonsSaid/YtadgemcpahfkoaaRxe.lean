/-
  Symbols in memory; an image; a machine that has done nothing yet.
-/
import Derived.Test.YtadgemcpahfkoaaRxd
import Derived.Maps.Own
import Derived.Maps.OwnSet
import Derived.Maps.Views
namespace Go.Proofs.Ytadgemcpahfkoaa
open Go.RowKit Go.Maps
set_option linter.unusedVariables false
set_option linter.unusedSimpArgs false
set_option maxRecDepth 100000
namespace Rv
def rdV (v : Value) : Option (DataW Value × List MemPlace) := some (.held v, [])
theorem keyN : Keyed Try.prog 9 := string_keyed Try.underlying9
theorem keyOfN {x : ByteArray} (h : x.size ≤ maxLen) : keyOf Try.prog 9 (.string x) = some (.string x.data.toList) := WideMaps.keyOf_string_mk Try.underlying9 h
theorem ba_ext {x y : ByteArray} (h : x.data.toList = y.data.toList) : x = y := by
  cases x
  cases y
  congr 1
  exact Array.toList_inj.1 h
/-- The map in block M takes each symbol to the number that f says. -/
def SymAt (w : World) (M n : Nat) (f : ByteArray → Option Int) : Prop :=
  ∃ D, w.ownsMap Try.prog 9 rdV M n D ∧ (∀ x v, f x = some v → ∀ z, D.atKey (.string x.data.toList) z = .held (.int .i32 v)) ∧ (∀ x v, f x = some v → Maps.has D (.string x.data.toList) = true) ∧ ∀ x, f x = none → Maps.has D (.string x.data.toList) = false
def putS (f : ByteArray → Option Int) (x : ByteArray) (v : Int) : ByteArray → Option Int := fun y => if y = x then some v else f y
theorem SymAt.new (w : World) : SymAt (w.alloc (.map #[] 0)) w.heap.size 0 (fun _ => none) := ⟨.map [], World.ownsMap_made _ _ _ _, fun x v h => (by cases h), fun x v h => (by cases h), fun x h => rfl⟩
theorem SymAt.same {w w' : World} {M n : Nat} {f : ByteArray → Option Int} (h : SymAt w M n f) (hb : w'.heap[M]? = w.heap[M]?) : SymAt w' M n f := by
  obtain ⟨D, ⟨es, clock, h1, h2⟩, h3⟩ := h
  exact ⟨D, ⟨es, clock, hb.trans h1, h2⟩, h3⟩
theorem SymAt.lt {w : World} {M n : Nat} {f : ByteArray → Option Int} (h : SymAt w M n f) : M < w.heap.size := by
  obtain ⟨D, h1, _⟩ := h
  exact World.ownsMap.lt h1
theorem SymAt.drew {w : World} {M n : Nat} {f : ByteArray → Option Int} (h : SymAt w M n f) : SymAt w.drew M n f := h.same rfl
theorem SymAt.put {w : World} {M n : Nat} {f : ByteArray → Option Int} (h : SymAt w M n f) (x : ByteArray) (hx : x.size ≤ maxLen) (v : Int) (hn : n ≤ 1000000) :
    ∃ w', (Instr.mapUpdate 66 (.map (some M)) (.string x) (.int .i32 v)).run Try.prog w = .ok () w' ∧ SymAt w' M (n + 1) (putS f x v) ∧ Chg [M] w w' := by
  obtain ⟨D, hD, hf, hh, hg⟩ := h
  obtain ⟨w', h1, h2, h3⟩ := World.ownsMap.update (P := Try.prog) hD keyN Try.underlying66 (by unfold maxLen; omega) (keyOfN hx) (show rdV (.int .i32 v) = some (.held (.int .i32 v), []) from rfl)
  have hK : WideAt.IsKeyLit (Lit.string x.data.toList) := trivial
  refine ⟨w', h1, ⟨_, h2, fun y u hy z => ?_, fun y u hy => ?_, fun y hy => ?_⟩, (Chg.refl _ w).grown h3 (fun k hk => by injection hk with hk; subst hk; exact .inl (by simp))⟩
  · unfold putS at hy
    by_cases hyx : y = x
    · rw [if_pos hyx] at hy
      cases hy
      rw [hyx]
      exact atKey_put_same hD.isMap hK _ z
    · rw [if_neg hyx] at hy
      rw [atKey_put_other (by intro e; injection e with e; exact hyx (ba_ext e))]
      exact hf y u hy z
  · unfold putS at hy
    by_cases hyx : y = x
    · rw [hyx]
      exact has_put_same hD.isMap hK _
    · rw [if_neg hyx] at hy
      rw [has_put_other (by intro e; injection e with e; exact hyx (ba_ext e))]
      exact hh y u hy
  · unfold putS at hy
    by_cases hyx : y = x
    · rw [if_pos hyx] at hy
      cases hy
    · rw [if_neg hyx] at hy
      rw [has_put_other (by intro e; injection e with e; exact hyx (ba_ext e))]
      exact hg y hy
theorem zeroI (w : World) : (zeroValue 21).run Try.prog w = .ok (.int .i32 0) w := by kernel_rfl
/-- Looking a symbol up, and whether it is there. -/
theorem SymAt.look {w : World} {M n : Nat} {f : ByteArray → Option Int} (h : SymAt w M n f) (x : ByteArray) (hx : x.size ≤ maxLen) :
    (Instr.lookup 66 (.map (some M)) (.string x) true).run Try.prog w = .ok (.tuple #[.int .i32 ((f x).getD 0), .bool (f x).isSome]) w := by
  obtain ⟨D, hD, hf, hh, hg⟩ := h
  obtain ⟨u, ps, h1, h2⟩ := World.ownsMap.look_ok (P := Try.prog) hD keyN Try.underlying66 (zeroI w) (show rdV (.int .i32 0) = some (.held (.int .i32 0), []) from rfl) (keyOfN hx)
  rw [h1]
  cases hx : f x with
  | none =>
    rw [atKey_of_not_has (hg x hx)] at h2
    unfold rdV at h2
    cases h2
    rw [hg x hx]
    rfl
  | some v =>
    rw [hf x v hx] at h2
    unfold rdV at h2
    cases h2
    rw [hh x v hx]
    rfl
theorem SymAt.get {w : World} {M n : Nat} {f : ByteArray → Option Int} (h : SymAt w M n f) (x : ByteArray) (hx : x.size ≤ maxLen) :
    (Instr.lookup 66 (.map (some M)) (.string x) false).run Try.prog w = .ok (.int .i32 ((f x).getD 0)) w := by
  obtain ⟨D, hD, hf, hh, hg⟩ := h
  obtain ⟨u, ps, h1, h2⟩ := World.ownsMap.lookup (P := Try.prog) hD keyN Try.underlying66 (zeroI w) (show rdV (.int .i32 0) = some (.held (.int .i32 0), []) from rfl) (keyOfN hx)
  rw [h1]
  cases hx : f x with
  | none =>
    rw [atKey_of_not_has (hg x hx)] at h2
    unfold rdV at h2
    cases h2
    rfl
  | some v =>
    rw [hf x v hx] at h2
    unfold rdV at h2
    cases h2
    rfl
/-- An image's own block. -/
def ImAt (w : World) (m : Nat) (LA : Option Addr) (ln lc M : Nat) (words : Int) : Prop := w.heap[m]? = some (.cells #[.slice LA ln lc, .map (some M), .int .i64 words] 68 (0, 0))
theorem ImAt.cells {w : World} {m : Nat} {LA : Option Addr} {ln lc M : Nat} {words : Int} (h : ImAt w m LA ln lc M words) :
    w.cell? ⟨m, 0, none⟩ = some (.slice LA ln lc) ∧ w.cell? ⟨m, 1, none⟩ = some (.map (some M)) ∧ w.cell? ⟨m, 2, none⟩ = some (.int .i64 words) ∧ ∀ j, w.frozen? ⟨m, j, none⟩ = false := by
  unfold ImAt at h
  refine ⟨?_, ?_, ?_, fun j => frozen_of_row _ m j _ _ h⟩ <;> (rw [cell_of_row _ m _ _ _ (0, 0) h]; rfl)
theorem at_any (w : World) (m : Nat) (LA : Option Addr) (ln lc M n : Nat) (words : Int) (f : ByteArray → Option Int) (h : ImAt w m LA ln lc M words) (hS : SymAt w M n f) (x : ByteArray) (hx : x.size ≤ maxLen) :
    Calls Try.prog 13 #[.pointer (some ⟨m, 0, none⟩), .string x] w fun e w' => e = .returned (.tuple #[.int .i32 ((f x).getD 0), .bool (f x).isSome]) ∧ w' = w := by
  obtain ⟨y0, y1, y2, y3⟩ := h.cells
  have hl := hS.look x hx
  clear h hS hx
  generalize (f x).getD 0 = v at *
  generalize (f x).isSome = b at *
  go_enter Try.func13, Try.ntmps13
  go_wp2_with fail
  go_ret2
  exact ⟨rfl, rfl⟩
theorem put_any (w : World) (m : Nat) (LA : Option Addr) (ln lc M n : Nat) (words : Int) (f : ByteArray → Option Int) (h : ImAt w m LA ln lc M words) (hS : SymAt w M n f) (x : ByteArray) (hx : x.size ≤ maxLen) (z : Int) (hz : -2147483648 ≤ z ∧ z ≤ 2147483647) (hn : n ≤ 1000000) :
    Calls Try.prog 51 #[.pointer (some ⟨m, 0, none⟩), .string x, .int .i64 z] w fun e w' => e = .returned (.bool (!(f x).isSome)) ∧ SymAt w' M (n + 1) (putS f x z) ∧ Chg [M] w w' := by
  obtain ⟨y0, y1, y2, y3⟩ := h.cells
  have hl := hS.look x hx
  obtain ⟨w', hr, h1, h2⟩ := hS.put x hx z hn
  obtain ⟨z1, z2⟩ := hz
  have HH := Lib.hid (And.intro h1 h2)
  have hzz : wrap32 z = z := IntWalk.wrap32_in _ ⟨z1, z2⟩
  clear h hS hx h1 h2
  generalize (f x).getD 0 = v at *
  generalize (f x).isSome = b at *
  go_enter Try.func51, Try.ntmps51
  go_wp2_with fail
  go_ret
  exact ⟨rfl, HH.out⟩
theorem info_i32R : (Try.prog.info? 21).map (fun i => (i.zero, i.size, i.bytes)) = some (some (.int .i32 0), 1, 4) := by kernel_rfl
theorem make_words (n : Nat) (hc : n ≤ 100000) (W : World) :
    (Instr.makeSlice 53 (.int .i64 (n : Int)) (.int .i64 (n : Int))).run Try.prog W = .ok (.slice (some ⟨W.heap.size, 0, none⟩) n n) (W.alloc (.cells (cellsW (List.replicate n 0)).toArray 21)) := by
  obtain ⟨i0, hi, hz0, hz1, hz2⟩ := info_parts info_i32R
  have h := run_make (P := Try.prog) W 53 21 i0 (.int .i32 0) Try.underlying53 hi hz0 .i64 .i64 n n (by omega) (by omega) (by rw [hz2]; omega) (by omega)
  rw [h]
  congr 3
  rw [hz1, Int.toNat_natCast, Nat.mul_one]
  apply Array.toList_inj.1
  show (madeCells #[.int .i32 0] n).toList = _
  rw [toList_madeCells_one]
  simp [cellsW]

/-- The cells of a machine that has done nothing yet. -/
def newCells (LA : Option Addr) (ln lc mb n : Nat) (pc : Int) (iA : Option Addr) (im ic : Nat) (fuel : Int) : Array Value := #[.slice LA ln lc, .int .i32 0, .int .i32 0, .int .i32 0, .int .i32 0, .int .i32 0, .int .i32 0, .int .i32 0, .int .i32 0, .int .i32 0, .int .i32 0, .int .i32 0, .int .i32 0, .int .i32 0, .int .i32 0, .int .i32 0, .int .i32 0, .int .i32 0, .int .i32 0, .int .i32 0, .int .i32 0, .int .i32 0, .int .i32 0, .int .i32 0, .int .i32 0, .int .i32 0, .int .i32 0, .int .i32 0, .int .i32 0, .int .i32 0, .int .i32 0, .int .i32 0, .int .i32 0, .slice (some ⟨mb, 0, none⟩) n n, .int .i32 pc, .slice iA im ic, .int .i64 fuel, .int .i64 0, .int .i32 0, .slice none 0 0, .int .i64 0, .int .i64 0]
def newS (n : Nat) (pc : Int) : MS := ⟨List.replicate 32 0, List.replicate n 0, pc, 0, [], 0, 0⟩
theorem newCells_at (LA : Option Addr) (ln lc mb n : Nat) (pc : Int) (iA : Option Addr) (im ic : Nat) (fuel : Int) (j : Nat) (v : Value) (h : cellF ⟨LA, ln, lc, mb, n, iA, im, ic, fuel⟩ none 0 (newS n pc) j = some v) : (newCells LA ln lc mb n pc iA im ic fuel)[j]? = some v := by
  by_cases hj : j < 42
  · rw [← h]
    have hr : ∀ k, k < 32 → (List.replicate 32 (0 : Int)).getD k 0 = 0 := fun k hk => by rw [List.getD_eq_getElem?_getD, List.getElem?_replicate, if_pos hk]; rfl
    have h33 : ∀ i, 1 ≤ i → i < 33 → cellF ⟨LA, ln, lc, mb, n, iA, im, ic, fuel⟩ none 0 (newS n pc) i = some (.int .i32 0) := fun i h1 h2 => by
      have := cellF_reg ⟨LA, ln, lc, mb, n, iA, im, ic, fuel⟩ none 0 (newS n pc) (i - 1) (by omega)
      rw [show 1 + (i - 1) = i from by omega] at this
      rw [this]
      show some (Value.int .i32 ((List.replicate 32 (0 : Int)).getD (i - 1) 0)) = _
      rw [hr _ (by omega)]
    rcases Nat.lt_or_ge j 33 with h1 | h1
    · rcases Nat.eq_zero_or_pos j with h0 | h0
      · subst h0; rfl
      · rw [h33 j h0 h1]
        have h5 : j - 1 < 32 := by omega
        obtain ⟨i, hi⟩ : ∃ i, j = i + 1 := ⟨j - 1, by omega⟩
        subst hi
        have : ∀ i : Fin 32, (newCells LA ln lc mb n pc iA im ic fuel)[i.val + 1]? = some (.int .i32 0) := fun i => by
          rcases i with ⟨i, hi⟩
          (iterate 32 (rcases i with _ | i; · rfl))
          omega
        exact this ⟨i, by omega⟩
    · obtain ⟨i, hi⟩ : ∃ i, j = i + 33 := ⟨j - 33, by omega⟩
      subst hi
      have h9 : i < 9 := by omega
      (iterate 9 (rcases i with _ | i; · rfl))
      omega
  · exfalso
    unfold cellF at h
    rw [if_neg (by omega), if_neg (by omega), if_neg (by omega), if_neg (by omega), if_neg (by omega), if_neg (by omega), if_neg (by omega), if_neg (by omega), if_neg (by omega), if_neg (by omega), if_neg (by omega)] at h
    cases h
set_option maxHeartbeats 3200000 in
theorem started_any (w : World) (m : Nat) (LA : Option Addr) (ln lc M k n : Nat) (f : ByteArray → Option Int) (h : ImAt w m LA ln lc M (n : Int)) (hS : SymAt w M k f) (iA : Option Addr) (im ic : Nat) (fuel : Int) (hn : n ≤ 100000) :
    Calls Try.prog 41 #[.pointer (some ⟨m, 0, none⟩), .slice iA im ic, .int .i64 fuel] w fun e w' =>
      e = .returned (.pointer (some ⟨w.heap.size + 1, 0, none⟩)) ∧ Below w.heap.size w w' ∧ w'.heap.size = w.heap.size + 2 ∧
        CellsAt w' (w.heap.size + 1) (cellF ⟨LA, ln, lc, w.heap.size, n, iA, im, ic, fuel⟩ none 0 (newS n ((f ⟨#[46, 115, 116, 97, 114, 116]⟩).getD 0))) ∧ RegAt w' w.heap.size (List.replicate n 0) := by
  have HA := Lib.hid (at_any w m LA ln lc M k n f h hS ⟨#[46, 115, 116, 97, 114, 116]⟩ (by show (6 : Nat) ≤ maxLen; unfold maxLen; omega))
  obtain ⟨pc, hpc⟩ : ∃ pc, (f ⟨#[46, 115, 116, 97, 114, 116]⟩).getD 0 = pc := ⟨_, rfl⟩
  rw [hpc] at HA ⊢
  obtain ⟨Wa, hWa⟩ : ∃ Wa, w.alloc (.cells (cellsW (List.replicate n 0)).toArray 21) = Wa := ⟨_, rfl⟩
  obtain ⟨Wb, hWb⟩ : ∃ Wb, Wa.alloc (.cells (newCells LA ln lc w.heap.size n pc iA im ic fuel) 88) = Wb := ⟨_, rfl⟩
  have sa : Wa.heap.size = w.heap.size + 1 := by rw [← hWa]; simp
  have hba : Below w.heap.size w Wa := by rw [← hWa]; exact (Below.refl _ _).alloc (Nat.le_refl _) _
  have hbb : Below w.heap.size w Wb := by rw [← hWb]; exact hba.alloc (by omega) _
  have HF : Hid (∀ V, Below w.heap.size w V → V.cell? ⟨m, 0, none⟩ = some (.slice LA ln lc) ∧ V.cell? ⟨m, 2, none⟩ = some (.int .i64 (n : Int))) := Lib.hid (fun V hV => by
    obtain ⟨y0, y1, y2, y3⟩ := h.cells
    have hm : m < w.heap.size := (Array.getElem?_eq_some_iff.1 h).1
    exact ⟨(hV.cell (p := ⟨m, 0, none⟩) hm).trans y0, (hV.cell (p := ⟨m, 2, none⟩) hm).trans y2⟩)
  have HFIN : Hid (Below w.heap.size w Wb.drew ∧ Wb.drew.heap.size = w.heap.size + 2 ∧ CellsAt Wb.drew (w.heap.size + 1) (cellF ⟨LA, ln, lc, w.heap.size, n, iA, im, ic, fuel⟩ none 0 (newS n pc)) ∧ RegAt Wb.drew w.heap.size (List.replicate n 0)) := Lib.hid (by
    refine ⟨hbb.drew, by show Wb.heap.size = _; rw [← hWb]; simp [sa], ⟨newCells LA ln lc w.heap.size n pc iA im ic fuel, ?_, fun j v hj => newCells_at _ _ _ _ _ _ _ _ _ _ j v hj⟩, ?_⟩
    · show Wb.heap[w.heap.size + 1]? = _
      rw [← hWb, ← sa]
      exact heap_alloc_new Wa _
    · show Wb.heap[w.heap.size]? = _
      rw [← hWb, Lib.alloc_old _ _ _ (by omega), ← hWa]
      exact heap_alloc_new w _)
  have hmk := make_words n hn
  have HBA : Hid (Below w.heap.size w Wa.drew) := Lib.hid hba.drew
  have HBB : Hid (Below w.heap.size w Wb.drew) := Lib.hid hbb.drew
  have HWa := Lib.hid hWa
  have hWb2 := hWb
  unfold newCells at hWb2
  have HWb := Lib.hid hWb2
  clear hWb2
  have HSA := Lib.hid sa
  clear h hS hpc hba hbb sa hWa hWb
  go_enter Try.func41, Try.ntmps41
  go_wp2_with (go_at_call 13; (with_reducible refine HA.out.mono ?_); rintro e w' ⟨rfl, rfl⟩)
  go_upto_region 2 with fail
  refine wp_region_held_drew (S := fun V => Below w'.heap.size w' V) (by kernel_rfl) ((Below.refl _ _).drew) (fun _ => ?_)
  refine takeH 0 14 (v := (.pointer (some ⟨m, 0, none⟩))) rfl rfl (by kernel_rfl) (by kernel_rfl) (by kernel_rfl) (fun _ _ _ h => h) (by rfl) ?_ (by assumption) ?_
  · intro w hSw
    obtain ⟨y0, y2⟩ := HF.out w hSw
    go_simp
  try simp only [Act.put, List.setIfInBounds_toArray, List.set_cons_zero, List.set_cons_succ]
  refine takeH 1 15 (v := (.pointer (some ⟨m, 0, none⟩))) rfl rfl (by kernel_rfl) (by kernel_rfl) (by kernel_rfl) (fun _ _ _ h => h) (by rfl) ?_ (by assumption) ?_
  · intro w hSw
    obtain ⟨y0, y2⟩ := HF.out w hSw
    go_simp
  try simp only [Act.put, List.setIfInBounds_toArray, List.set_cons_zero, List.set_cons_succ]
  refine takeH 2 16 (v := (.pointer (some ⟨m, 0, none⟩))) rfl rfl (by kernel_rfl) (by kernel_rfl) (by kernel_rfl) (fun _ _ _ h => h) (by rfl) ?_ (by assumption) ?_
  · intro w hSw
    obtain ⟨y0, y2⟩ := HF.out w hSw
    go_simp
  try simp only [Act.put, List.setIfInBounds_toArray, List.set_cons_zero, List.set_cons_succ]
  refine takeH 3 17 (v := (.slice LA ln lc)) rfl rfl (by kernel_rfl) (by kernel_rfl) (by kernel_rfl) (fun _ _ _ h => h) (by rfl) ?_ (by assumption) ?_
  · intro w hSw
    obtain ⟨y0, y2⟩ := HF.out w hSw
    go_simp
  try simp only [Act.put, List.setIfInBounds_toArray, List.set_cons_zero, List.set_cons_succ]
  refine takeH 4 18 (v := (.pointer (some ⟨m, 0, none⟩))) rfl rfl (by kernel_rfl) (by kernel_rfl) (by kernel_rfl) (fun _ _ _ h => h) (by rfl) ?_ (by assumption) ?_
  · intro w hSw
    obtain ⟨y0, y2⟩ := HF.out w hSw
    go_simp
  try simp only [Act.put, List.setIfInBounds_toArray, List.set_cons_zero, List.set_cons_succ]
  refine takeH 5 19 (v := (.pointer (some ⟨m, 0, none⟩))) rfl rfl (by kernel_rfl) (by kernel_rfl) (by kernel_rfl) (fun _ _ _ h => h) (by rfl) ?_ (by assumption) ?_
  · intro w hSw
    obtain ⟨y0, y2⟩ := HF.out w hSw
    go_simp
  try simp only [Act.put, List.setIfInBounds_toArray, List.set_cons_zero, List.set_cons_succ]
  refine takeH 6 20 (v := (.pointer (some ⟨m, 2, none⟩))) rfl rfl (by kernel_rfl) (by kernel_rfl) (by kernel_rfl) (fun _ _ _ h => h) (by rfl) ?_ (by assumption) ?_
  · intro w hSw
    obtain ⟨y0, y2⟩ := HF.out w hSw
    go_simp
  try simp only [Act.put, List.setIfInBounds_toArray, List.set_cons_zero, List.set_cons_succ]
  refine takeH 7 21 (v := (.int .i64 (n : Int))) rfl rfl (by kernel_rfl) (by kernel_rfl) (by kernel_rfl) (fun _ _ _ h => h) (by rfl) ?_ (by assumption) ?_
  · intro w hSw
    obtain ⟨y0, y2⟩ := HF.out w hSw
    go_simp
  try simp only [Act.put, List.setIfInBounds_toArray, List.set_cons_zero, List.set_cons_succ]
  refine takeH 9 23 (v := (.int .i32 pc)) rfl rfl (by kernel_rfl) (by kernel_rfl) (by kernel_rfl) (fun _ _ _ h => h) (by rfl) ?_ (by assumption) ?_
  · intro w hSw
    obtain ⟨y0, y2⟩ := HF.out w hSw
    go_simp
  try simp only [Act.put, List.setIfInBounds_toArray, List.set_cons_zero, List.set_cons_succ]
  refine takeH 10 24 (v := (.slice iA im ic)) rfl rfl (by kernel_rfl) (by kernel_rfl) (by kernel_rfl) (fun _ _ _ h => h) (by rfl) ?_ (by assumption) ?_
  · intro w hSw
    obtain ⟨y0, y2⟩ := HF.out w hSw
    go_simp
  try simp only [Act.put, List.setIfInBounds_toArray, List.set_cons_zero, List.set_cons_succ]
  refine takeH 11 25 (v := (.int .i64 fuel)) rfl rfl (by kernel_rfl) (by kernel_rfl) (by kernel_rfl) (fun _ _ _ h => h) (by rfl) ?_ (by assumption) ?_
  · intro w hSw
    obtain ⟨y0, y2⟩ := HF.out w hSw
    go_simp
  try simp only [Act.put, List.setIfInBounds_toArray, List.set_cons_zero, List.set_cons_succ]
  refine wpAnyH_ready (rs := [8]) (by kernel_rfl) (by simp) ?_
  refine AllReadyH.cons rfl (fun K hK => ?_) AllReadyH.nil
  go_simp
  rw [HWa.out]
  refine hK.out _ _ HBA.out (fun _ => ?_)
  clear hK K
  try simp only [Act.put, List.setIfInBounds_toArray, List.set_cons_zero, List.set_cons_succ]
  refine takeH 12 26 (v := (.agg #[.slice LA ln lc, .int .i32 0, .int .i32 0, .int .i32 0, .int .i32 0, .int .i32 0, .int .i32 0, .int .i32 0, .int .i32 0, .int .i32 0, .int .i32 0, .int .i32 0, .int .i32 0, .int .i32 0, .int .i32 0, .int .i32 0, .int .i32 0, .int .i32 0, .int .i32 0, .int .i32 0, .int .i32 0, .int .i32 0, .int .i32 0, .int .i32 0, .int .i32 0, .int .i32 0, .int .i32 0, .int .i32 0, .int .i32 0, .int .i32 0, .int .i32 0, .int .i32 0, .int .i32 0, .slice (some ⟨w'.heap.size, 0, none⟩) n n, .int .i32 pc, .slice iA im ic, .int .i64 fuel, .int .i64 0, .int .i32 0, .slice none 0 0, .int .i64 0, .int .i64 0])) rfl rfl (by kernel_rfl) (by kernel_rfl) (by kernel_rfl) (fun _ _ _ h => h) (by rfl) ?_ HBA.out ?_
  · intro w hSw
    obtain ⟨y0, y2⟩ := HF.out w hSw
    go_simp
  try simp only [Act.put, List.setIfInBounds_toArray, List.set_cons_zero, List.set_cons_succ]
  refine wpAnyH_ready (rs := [13]) (by kernel_rfl) (by simp) ?_
  refine AllReadyH.cons rfl (fun K hK => ?_) AllReadyH.nil
  go_simp
  rw [HSA.out, HWb.out]
  refine hK.out _ _ HBB.out (fun _ => ?_)
  clear hK K
  try simp only [Act.put, List.setIfInBounds_toArray, List.set_cons_zero, List.set_cons_succ]
  refine takeH 14 6 (v := (.pointer (some ⟨w'.heap.size + 1, 0, none⟩))) rfl rfl (by kernel_rfl) (by kernel_rfl) (by kernel_rfl) (fun _ _ _ h => h) (by rfl) ?_ HBB.out ?_
  · intro w hSw
    obtain ⟨y0, y2⟩ := HF.out w hSw
    go_simp
  try simp only [Act.put, List.setIfInBounds_toArray, List.set_cons_zero, List.set_cons_succ]
  refine wpAnyH_done (by kernel_rfl) ?_ _
  go_wp2_with fail
  go_ret
  exact ⟨rfl, HFIN.out⟩
end Rv
end Go.Proofs.Ytadgemcpahfkoaa
