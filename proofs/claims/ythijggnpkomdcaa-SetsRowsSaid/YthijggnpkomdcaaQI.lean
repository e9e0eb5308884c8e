/-
  Contracts of sets.Queue[int].
-/
import Derived.Test.YthijggnpkomdcaaLn
import Derived.Defers
import Derived.Recover
import Derived.Maps.OwnSet
import Derived.Maps.Views
import Derived.StringKeys
import Derived.Lib.AppendZeros
namespace Go.Proofs.Ythijggnpkomdcaa
open Go.RowKit
set_option linter.unusedVariables false
set_option maxRecDepth 100000

theorem idleI (p : Addr) (w : World) :
    CallsD Try.prog 108 #[.pointer (some p)] .returning w fun e u' w' => e = .returned (.tuple #[]) ∧ u' = .returning ∧ w' = w := by
  refine callsD_of_wpS Try.func108 rfl fun c₀ cs hu => ?_
  apply wpS_seq
  apply wpS_region
  simp [wpOpsS, go_sem, recoverD, hu, Try.ntmps108, Exit.thenS]
  refine wpS_cond (t := false) (by simp [Act.eval, Array.replicate]) ?_
  simp only [Bool.false_eq_true, if_false]
  refine wpS_of_wp (wp_skip ?_)
  cases c₀
  simp_all [bodyPostS, results, Try.results108]
theorem likeI (x : Int) (w : World) :
    Calls Try.prog 91 #[.int .i64 x] w fun e w' => e = .returned (.bool true) ∧ Below w.heap.size w w' := by
  have hmf : ∀ (fn : Fn) (first cap : Array Value) (w : World), (Instr.makeFunc fn first cap).run Try.prog w = .ok (.func fn first cap) w := fun _ _ _ _ => rfl
  go_enter_defers Try.func91, Try.ntmps91
  go_wp2
  refine leaves_cons (f := 108) (args := #[.pointer (some ⟨w.heap.size, 0, none⟩)]) (by simp) (by simp [go_sem]) ?_
  refine (idleI ⟨w.heap.size, 0, none⟩ _).mono ?_
  rintro e u' w'' ⟨rfl, rfl, rfl⟩
  simp [Leaves, settle, results, Try.results91, go_sem]
  exact (Below.refl _ w).alloc (Nat.le_refl _) _
theorem lawI : Maps.Keyed Try.prog 3 := Maps.int_keyed Try.underlying3
theorem infoI : (Try.prog.info? 3).map (fun i => (i.zero, i.size, i.bytes)) = some (some (.int .i64 0), 1, 8) := by kernel_rfl
theorem zeroUI (w : World) : (zeroValue 158).run Try.prog w = .ok (.agg #[]) w := by kernel_rfl
def keyI (x : Int) : Lit := Lit.int .i64 x
def FitsI (x : Int) : Prop := (Lit.int .i64 x).wf = true
theorem keyOfI {x : Int} (h : FitsI x) : keyOf Try.prog 3 (.int .i64 x) = some (keyI x) := Maps.keyOf_int_mk Try.underlying3 h
theorem key_injI {x y : Int} (h : keyI x = keyI y) : x = y := by
  unfold keyI at h
  cases h
  rfl
/-- The queue at q: its line, its map; xs stand in it. -/
structure QI (w : World) (q : Nat) (A : Option Addr) (n c : Nat) (mp : Option Nat) (k : Nat) (xs : List Int) : Prop where
  box : w.heap[q]? = some (.cells #[.slice A n c, .map mp] 107 (0, 0))
  line : LineAt w A n c (xs.map (Value.int .i64))
  fits : ∀ x ∈ xs, FitsI x
  nodup : xs.Nodup
  apart : q ∉ blk A
  apart2 : mp ≠ some q
  apart3 : ∀ m, mp = some m → m ∉ blk A
  keys : (mp = none ∧ xs = []) ∨ ∃ m, ∃ D : DataW Unit, mp = some m ∧ w.ownsMap Try.prog 3 unitElem m k D ∧ ∀ x, FitsI x → Maps.has D (keyI x) = decide (x ∈ xs)
/-- Its blocks. -/
def qfoot (q : Nat) (A : Option Addr) (mp : Option Nat) : List Nat := q :: (blk A ++ mp.toList)
theorem mem_qfoot {q : Nat} {A : Option Addr} {mp : Option Nat} {k : Nat} : k ∈ qfoot q A mp ↔ k = q ∨ k ∈ blk A ∨ mp = some k := by
  unfold qfoot
  simp [Option.mem_toList]
section
variable {w w' : World} {q n c k : Nat} {A : Option Addr} {mp : Option Nat} {xs : List Int}
theorem QI.lt (h : QI w q A n c mp k xs) : ∀ j ∈ qfoot q A mp, j < w.heap.size := by
  intro j hj
  rcases mem_qfoot.1 hj with rfl | hj | hj
  · exact lt_of_block h.box
  · exact h.line.lt j hj
  · rcases h.keys with ⟨e, _⟩ | ⟨m, D, e, ho, _⟩
    · rw [e] at hj; cases hj
    · rw [e] at hj; cases hj; exact ho.lt
theorem own_map_sameI {m : Nat} {D : DataW Unit} (h : w.ownsMap Try.prog 3 unitElem m k D) (hb : w'.heap[m]? = w.heap[m]?) : w'.ownsMap Try.prog 3 unitElem m k D := by
  obtain ⟨es, clock, h1, r⟩ := h
  exact ⟨es, clock, hb.trans h1, r⟩
theorem QI.same (h : QI w q A n c mp k xs) (hz : w.heap.size ≤ w'.heap.size) (hs : ∀ j ∈ qfoot q A mp, w'.heap[j]? = w.heap[j]?) : QI w' q A n c mp k xs := by
  refine ⟨(hs q (mem_qfoot.2 (.inl rfl))).trans h.box, h.line.same hz (fun j hj => hs j (mem_qfoot.2 (.inr (.inl hj)))), h.fits, h.nodup, h.apart, h.apart2, h.apart3, ?_⟩
  rcases h.keys with h1 | ⟨m, D, e, ho, hh⟩
  · exact .inl h1
  · exact .inr ⟨m, D, e, own_map_sameI ho (hs m (mem_qfoot.2 (.inr (.inr e)))), hh⟩
theorem QI.below (h : QI w q A n c mp k xs) (hb : Below w.heap.size w w') : QI w' q A n c mp k xs := h.same hb.size fun j hj => hb.block j (h.lt j hj)
theorem QI.chg {l : List Nat} (h : QI w q A n c mp k xs) (hc : Chg l w w') (hl : ∀ j ∈ qfoot q A mp, j ∉ l) : QI w' q A n c mp k xs := h.same hc.size fun j hj => hc.same j (h.lt j hj) (hl j hj)
theorem QI.cell0 (h : QI w q A n c mp k xs) : w.cell? ⟨q, 0, none⟩ = some (.slice A n c) := by rw [cell_of_row w q 0 _ _ (0, 0) h.box]; rfl
theorem QI.cell1 (h : QI w q A n c mp k xs) : w.cell? ⟨q, 1, none⟩ = some (.map mp) := by rw [cell_of_row w q 1 _ _ (0, 0) h.box]; rfl
theorem QI.free (h : QI w q A n c mp k xs) (j : Nat) : w.frozen? ⟨q, j, none⟩ = false := frozen_of_row w q j _ _ h.box
end
/-- The queue at q holds xs from now on; nothing else was written. -/
def QToI (w : World) (q : Nat) (A : Option Addr) (mp : Option Nat) (k : Nat) (xs : List Int) (w' : World) : Prop :=
  ∃ A' n' c' mp', QI w' q A' n' c' mp' k xs ∧ Chg (qfoot q A mp) w w' ∧ ∀ j ∈ qfoot q A' mp', j ∈ qfoot q A mp ∨ w.heap.size ≤ j
theorem QToI.of_below {w w' : World} {q n c k : Nat} {A : Option Addr} {mp : Option Nat} {xs : List Int} (h : QI w q A n c mp k xs) (hb : Below w.heap.size w w') : QToI w q A mp k xs w' :=
  ⟨A, n, c, mp, h.below hb, Chg.of_below hb, fun j hj => .inl hj⟩
theorem qlen_nilI (w : World) : Calls Try.prog 61 #[.pointer none] w fun e w' => e = .returned (.int .i64 0) ∧ w = w' := by
  go_enter Try.func61, Try.ntmps61
  go_wp2
  go_ret
  exact ⟨rfl, rfl⟩
theorem qlenI (w : World) (q : Nat) (A : Option Addr) (n c : Nat) (mp : Option Nat) (k : Nat) (xs : List Int) (h : QI w q A n c mp k xs) :
    Calls Try.prog 61 #[.pointer (some ⟨q, 0, none⟩)] w fun e w' => e = .returned (.int .i64 (n : Int)) ∧ w = w' := by
  have hc := h.cell0
  clear h
  go_enter Try.func61, Try.ntmps61
  go_wp2
  go_ret
  exact ⟨rfl, rfl⟩
theorem push_nilI (w : World) (x : Int) : Calls Try.prog 56 #[.pointer none, .int .i64 x] w fun e w' => e = .returned (.bool false) ∧ w = w' := by
  go_enter Try.func56, Try.ntmps56
  go_wp2
  go_ret
  exact ⟨rfl, rfl⟩
set_option maxHeartbeats 400000 in
theorem push_oldI (w : World) (q : Nat) (A : Option Addr) (n c : Nat) (mp : Option Nat) (k : Nat) (xs : List Int) (h : QI w q A n c mp k xs) (x : Int) (hx : FitsI x) (hin : x ∈ xs) :
    Calls Try.prog 56 #[.pointer (some ⟨q, 0, none⟩), .int .i64 x] w fun e w' => e = .returned (.bool false) ∧ Below w.heap.size w w' := by
  rcases h.keys with ⟨_, e⟩ | ⟨m, D, rfl, ho, hh⟩
  · subst e; cases hin
  have hq := lt_of_block h.box
  have hml := ho.lt
  have hD : Maps.has D (keyI x) = true := by rw [hh x hx]; exact decide_eq_true hin
  have HQ := Lib.hid h
  have HO := Lib.hid ho
  have HK := Lib.hid (keyOfI hx)
  clear h ho hh hin hx
  go_enter Try.func56, Try.ntmps56
  go_wp2_with (first
    | (go_at_call 91; refine (likeI x _).mono ?_; rintro e w1 ⟨rfl, hb1⟩; have HB1 := Lib.hid hb1; have hc1 := (HQ.out.below hb1).cell1; have HO1 := Lib.hid (own_map_sameI HO.out (hb1.block m hml)); clear hb1)
    | (at_lookup; refine wpList_lookup_own_unit _ rfl _ _ 105 rfl 3 158 lawI Try.underlying105 (zeroUI _) m k D rfl HO1.out _ _ rfl HK.out ?_))
  go_ret
  exact ⟨rfl, HB1.out.alloc HB1.out.size _⟩
/-- What the map and the line are behind a Push. -/
theorem pushedI {w w3 : World} {q n c k m : Nat} {A : Option Addr} {xs : List Int} {D : DataW Unit} (h : QI w q A n c (some m) k xs) (x : Int) (hx : FitsI x) (hno : x ∉ xs) (hn : n ≤ 100000)
    (hh : ∀ y, FitsI y → Maps.has D (keyI y) = decide (y ∈ xs)) (hD : Maps.IsMap D) (ho : w3.ownsMap Try.prog 3 unitElem m (k + 1) (D.put (keyI x) (.agg []))) (hg : w.grownBy w3 (some m)) (ty : TypeId) :
    w3.cell? ⟨q, 0, none⟩ = some (.slice A n c) ∧ ∃ A' c' w4, (Builtin.append_ #[26, 26] ty #[.slice A n c, .slice (some ⟨w3.heap.size, 0, none⟩) 1 1]).run Try.prog (w3.alloc (.cells #[.int .i64 x] 3)) = .ok (.slice A' (n + 1) c') w4 ∧
      w4.cell? ⟨q, 0, none⟩ = some (.slice A n c) ∧ w4.frozen? ⟨q, 0, none⟩ = false ∧ QI (w4.setCell ⟨q, 0, none⟩ (.slice A' (n + 1) c')) q A' (n + 1) c' (some m) (k + 1) (xs ++ [x]) ∧
      Chg (qfoot q A (some m)) w (w4.setCell ⟨q, 0, none⟩ (.slice A' (n + 1) c')) ∧ ∀ j ∈ qfoot q A' (some m), j ∈ qfoot q A (some m) ∨ w.heap.size ≤ j := by
  have hqm : q ≠ m := fun e => h.apart2 (by rw [e])
  have hmA := h.apart3 m rfl
  have hqlt := lt_of_block h.box
  have hb3 : w3.heap[q]? = some (.cells #[.slice A n c, .map (some m)] 107 (0, 0)) := (hg.block q hqlt (fun e => hqm (by cases e; rfl))).trans h.box
  have hl3 : LineAt w3 A n c (xs.map (Value.int .i64)) := h.line.same hg.size fun j hj => hg.block j (h.line.lt j hj) (fun e => hmA (by cases e; exact hj))
  obtain ⟨A', c', w4, hr, hl4, hc4, hf4⟩ := line_push w3 26 3 ty (.int .i64 0) 8 Try.underlying26 infoI rfl (by decide) A n c _ hl3 (fun u hu => by obtain ⟨y, _, rfl⟩ := List.mem_map.1 hu; rfl) (by omega) (.int .i64 x) rfl
  have hq3 : q < w3.heap.size := Nat.lt_of_lt_of_le hqlt hg.size
  have hb4 : w4.heap[q]? = some (.cells #[.slice A n c, .map (some m)] 107 (0, 0)) := (hc4.same q hq3 h.apart).trans hb3
  have hqA' : q ∉ blk A' := fun e => by rcases hf4 q e with h1 | h1; exact h.apart h1; omega
  have hm3 := ho.lt
  have hmA' : m ∉ blk A' := fun e => by rcases hf4 m e with h1 | h1; exact hmA h1; omega
  have hset : ∀ j, j ≠ q → (w4.setCell ⟨q, 0, none⟩ (.slice A' (n + 1) c')).heap[j]? = w4.heap[j]? := fun j hj => heap_setCell_other w4 ⟨q, 0, none⟩ j _ hj
  have hsz4 : w4.heap.size ≤ (w4.setCell ⟨q, 0, none⟩ (.slice A' (n + 1) c')).heap.size := by simp [World.setCell]
  refine ⟨by rw [cell_of_row w3 q 0 _ _ (0, 0) hb3]; rfl, A', c', w4, hr, by rw [cell_of_row w4 q 0 _ _ (0, 0) hb4]; rfl, frozen_of_row w4 q 0 _ _ hb4, ⟨?_, ?_, ?_, ?_, hqA', h.apart2, ?_, ?_⟩, ?_, ?_⟩
  · rw [heap_setCell_same w4 q 0 _ _ _ hb4]
    rfl
  · rw [List.map_append]
    exact hl4.same hsz4 fun j hj => hset j (fun e => hqA' (by rw [← e]; exact hj))
  · intro y hy
    rcases List.mem_append.1 hy with h1 | h1
    · exact h.fits y h1
    · simp only [List.mem_singleton] at h1; rw [h1]; exact hx
  · exact List.nodup_append.2 ⟨h.nodup, by simp, fun a ha b hb => by simp only [List.mem_singleton] at hb; rw [hb]; exact fun e => hno (by rw [← e]; exact ha)⟩
  · intro m' e
    cases e
    exact hmA'
  · refine .inr ⟨m, _, rfl, own_map_sameI ho ((hset m (fun e => hqm e.symm)).trans (hc4.same m hm3 hmA)), fun y hy => ?_⟩
    by_cases e : y = x
    · subst e
      rw [Maps.has_put_same hD (by exact trivial), decide_eq_true (by simp)]
    · rw [Maps.has_put_other (fun e' => e (key_injI e')), hh y hy, Bool.eq_iff_iff]
      simp [e]
  · have h1 : Chg (qfoot q A (some m)) w w3 := (Chg.refl _ w).grown hg (fun j hj => .inl (mem_qfoot.2 (.inr (.inr hj))))
    exact (h1.trans (hc4.weaken (fun j hj => .inl (mem_qfoot.2 (.inr (.inl hj)))))).setCell q 0 _ (.inl (mem_qfoot.2 (.inl rfl)))
  · intro j hj
    rcases mem_qfoot.1 hj with rfl | h1 | h1
    · exact .inl (mem_qfoot.2 (.inl rfl))
    · rcases hf4 j h1 with h2 | h2
      · exact .inl (mem_qfoot.2 (.inr (.inl h2)))
      · exact .inr (Nat.le_trans hg.size h2)
    · exact .inl (mem_qfoot.2 (.inr (.inr h1)))
set_option maxHeartbeats 800000 in
theorem push_newI (w : World) (q : Nat) (A : Option Addr) (n c : Nat) (m : Nat) (k : Nat) (xs : List Int) (h : QI w q A n c (some m) k xs) (x : Int) (hx : FitsI x) (hno : x ∉ xs) (hn : n ≤ 100000) (hk : k ≤ 100000) :
    Calls Try.prog 56 #[.pointer (some ⟨q, 0, none⟩), .int .i64 x] w fun e w' => e = .returned (.bool true) ∧ QToI w q A (some m) (k + 1) (xs ++ [x]) w' := by
  obtain ⟨D, ho, hh⟩ : ∃ D : DataW Unit, w.ownsMap Try.prog 3 unitElem m k D ∧ ∀ x, FitsI x → Maps.has D (keyI x) = decide (x ∈ xs) := by
    rcases h.keys with ⟨e, _⟩ | ⟨m', D, e, ho, hh⟩
    · cases e
    · cases e; exact ⟨D, ho, hh⟩
  have hq := lt_of_block h.box
  have hml := ho.lt
  have hD : Maps.has D (keyI x) = false := by rw [hh x hx]; exact decide_eq_false hno
  have HQ := Lib.hid h
  have HO := Lib.hid ho
  have HH := Lib.hid hh
  have HX := Lib.hid hx
  have HNO := Lib.hid hno
  have HK := Lib.hid (keyOfI hx)
  have hkm : k < maxLen := by unfold maxLen; omega
  have HKM := Lib.hid hkm
  have hmn := fun w => run_eql_map_nil (P := Try.prog) w 105 3 158 (some m) Try.underlying105
  clear h ho hh hno hx hkm
  go_enter Try.func56, Try.ntmps56
  go_wp2_with (first
    | (go_at_call 91; refine (likeI x _).mono ?_; rintro e w1 ⟨rfl, hb1⟩; have HB1 := Lib.hid hb1; have hc1 := (HQ.out.below hb1).cell1; have HO1 := Lib.hid (own_map_sameI HO.out (hb1.block m hml)); clear hb1)
    | (at_lookup; refine wpList_lookup_own_unit _ rfl _ _ 105 rfl 3 158 lawI Try.underlying105 (zeroUI _) m k D rfl HO1.out _ _ rfl HK.out ?_; have HB2 := Lib.hid (HB1.out.alloc HB1.out.size (.cells #[] 158)); have hc2 := (HQ.out.below HB2.out).cell1; have HO2 := Lib.hid (own_map_sameI HO.out (HB2.out.block m hml)))
    | (at_mapUpdate; refine wpList_mapUpdate_own _ rfl _ _ _ 105 rfl 3 158 lawI Try.underlying105 unitElem m k D rfl HO2.out HKM.out _ _ _ rfl rfl HK.out _ [] unitElem_mk ?_; intro w3 hown3 hgrow3; obtain ⟨hc3, A', c', w4, hr, hc4, hf4, hQ4, hC4, hF4⟩ := pushedI (HQ.out.below HB2.out) x HX.out HNO.out hn HH.out HO.out.isMap hown3 hgrow3 26; have HR := Lib.hid hr; have HQ4 := Lib.hid hQ4; have HC4 := Lib.hid hC4; have HF4 := Lib.hid hF4; clear hr hQ4 hC4 hF4 hown3 hgrow3)
    | (at_builtin; refine Lib.wpList_append_run _ rfl _ _ _ _ rfl _ _ rfl rfl _ _ HR.out ?_))
  go_ret
  exact ⟨rfl, A', _, c', some m, HQ4.out, (Chg.of_below HB2.out).trans HC4.out, fun j hj => by rcases HF4.out j hj with h1 | h1; exact .inl h1; exact .inr (Nat.le_trans HB2.out.size h1)⟩
/-- The map is made. -/
theorem QI.made {w : World} {q n c k : Nat} {A : Option Addr} (h : QI w q A n c none k []) :
    QI ((w.alloc (.map #[] 0)).setCell ⟨q, 1, none⟩ (.map (some w.heap.size))) q A n c (some w.heap.size) k [] ∧ Chg [q] w ((w.alloc (.map #[] 0)).setCell ⟨q, 1, none⟩ (.map (some w.heap.size))) ∧
      ((w.alloc (.map #[] 0)).setCell ⟨q, 1, none⟩ (.map (some w.heap.size))).ownsMap Try.prog 3 (unitElem (H := Unit)) w.heap.size k (.map []) := by
  have hqlt := lt_of_block h.box
  have hb : (w.alloc (.map #[] 0)).heap[q]? = some (.cells #[.slice A n c, .map none] 107 (0, 0)) := (Below.heap_alloc w _ q hqlt).trans h.box
  have hne : w.heap.size ≠ q := by omega
  have ho : ((w.alloc (.map #[] 0)).setCell ⟨q, 1, none⟩ (.map (some w.heap.size))).ownsMap Try.prog 3 (unitElem (H := Unit)) w.heap.size k (.map []) := ((World.ownsMap_made w Try.prog 3 unitElem).mono (Nat.zero_le k)).setCell hne _
  have hC : Chg [q] w ((w.alloc (.map #[] 0)).setCell ⟨q, 1, none⟩ (.map (some w.heap.size))) := ((Chg.refl _ w).alloc _).setCell q 1 _ (.inl (List.mem_singleton_self _))
  refine ⟨⟨?_, h.line.same hC.size (fun j hj => hC.same j (h.line.lt j hj) (fun e => h.apart (by simp only [List.mem_singleton] at e; rw [← e]; exact hj))), h.fits, h.nodup, h.apart, (fun e => by cases e; omega), (fun m e hm => by cases e; have := h.line.lt _ hm; omega), .inr ⟨_, .map [], rfl, ho, fun x hx => by simp [Maps.has]⟩⟩, hC, ho⟩
  rw [heap_setCell_same _ q 1 _ _ _ hb]
  rfl
set_option maxHeartbeats 800000 in
theorem push_firstI (w : World) (q : Nat) (A : Option Addr) (n c : Nat) (k : Nat) (h : QI w q A n c none k []) (x : Int) (hx : FitsI x) (hn : n ≤ 100000) (hk : k ≤ 100000) :
    Calls Try.prog 56 #[.pointer (some ⟨q, 0, none⟩), .int .i64 x] w fun e w' => e = .returned (.bool true) ∧ QToI w q A none (k + 1) ([] ++ [x]) w' := by
  have hq := lt_of_block h.box
  have HQ := Lib.hid h
  have HX := Lib.hid hx
  have HK := Lib.hid (keyOfI hx)
  have hln := fun w => Maps.look_nil (P := Try.prog) (w := w) (t := 105) true lawI Try.underlying105 (zeroUI w) HK.out
  have hkm : k < maxLen := by unfold maxLen; omega
  have HKM := Lib.hid hkm
  have hmm := @run_makeMap Try.prog
  have hmn := fun w => run_eql_map_nil (P := Try.prog) w 105 3 158 none Try.underlying105
  clear h hx hkm
  go_enter Try.func56, Try.ntmps56
  go_wp2_with (first
    | (go_at_call 91; refine (likeI x _).mono ?_; rintro e w1 ⟨rfl, hb1⟩; have HB1 := Lib.hid hb1; have hc1 := (HQ.out.below hb1).cell1; have HB2 := Lib.hid (hb1.alloc hb1.size (.cells #[] 158)); have hc2 := (HQ.out.below HB2.out).cell1; have hf2 := (HQ.out.below HB2.out).free 1; have HB3 := Lib.hid (HB2.out.alloc HB2.out.size (.map #[] 0)); have hc3 := (HQ.out.below HB3.out).cell1; have hf3 := (HQ.out.below HB3.out).free 1; have HM := Lib.hid (HQ.out.below HB2.out).made; rw [World.size_alloc] at HM; have hc4 := HM.out.1.cell1; clear hb1)
    | (at_mapUpdate; refine wpList_mapUpdate_own _ rfl _ _ _ 105 rfl 3 158 lawI Try.underlying105 unitElem (w1.heap.size + 1) k (.map []) rfl HM.out.2.2 HKM.out _ _ _ rfl rfl HK.out _ [] unitElem_mk ?_; intro w3 hown3 hgrow3; obtain ⟨hc5, A', c', w4, hr, hc6, hf4, hQ4, hC4, hF4⟩ := pushedI HM.out.1 x HX.out (fun h => by cases h) hn (fun y hy => by simp [Maps.has]) ⟨[], rfl⟩ hown3 hgrow3 26; have HR := Lib.hid hr; have HQ4 := Lib.hid hQ4; have HC4 := Lib.hid hC4; have HF4 := Lib.hid hF4; clear hr hQ4 hC4 hF4 hown3 hgrow3)
    | (at_builtin; refine Lib.wpList_append_run _ rfl _ _ _ _ rfl _ _ rfl rfl _ _ HR.out ?_))
  go_ret
  refine ⟨rfl, A', _, c', some (w1.heap.size + 1), HQ4.out, ((Chg.of_below HB2.out).trans (HM.out.2.1.weaken (fun j hj => .inl (by simp only [List.mem_singleton] at hj; subst hj; exact mem_qfoot.2 (.inl rfl))))).andThen HC4.out ?_, ?_⟩
  · intro j hj
    rcases mem_qfoot.1 hj with h1 | h1 | h1
    · exact .inl (mem_qfoot.2 (.inl h1))
    · exact .inl (mem_qfoot.2 (.inr (.inl h1)))
    · cases h1; have := HB1.out.size; exact .inr (by omega)
  · intro j hj
    rcases HF4.out j hj with h1 | h1
    · rcases mem_qfoot.1 h1 with h2 | h2 | h2
      · exact .inl (mem_qfoot.2 (.inl h2))
      · exact .inl (mem_qfoot.2 (.inr (.inl h2)))
      · cases h2; have := HB1.out.size; exact .inr (by omega)
    · have h2 := HB2.out.size
      have h3 := HM.out.2.1.size
      rw [World.size_alloc] at h2 h3
      exact .inr (by omega)
theorem pop_nilI (w : World) : Calls Try.prog 57 #[.pointer none] w fun e w' => e = .returned (.tuple #[.int .i64 0, .bool false]) ∧ w = w' := by
  go_enter Try.func57, Try.ntmps57
  go_wp2_with ((with_reducible refine (qlen_nilI _).mono ?_); rintro e w' ⟨rfl, rfl⟩)
  go_ret2
  exact ⟨rfl, rfl⟩
theorem pop_noneI (w : World) (q : Nat) (A : Option Addr) (n c : Nat) (mp : Option Nat) (k : Nat) (h : QI w q A n c mp k []) :
    Calls Try.prog 57 #[.pointer (some ⟨q, 0, none⟩)] w fun e w' => e = .returned (.tuple #[.int .i64 0, .bool false]) ∧ w = w' := by
  obtain rfl : n = 0 := h.line.1.symm
  have HQ := Lib.hid h
  clear h
  go_enter Try.func57, Try.ntmps57
  go_wp2_with ((with_reducible refine (qlenI _ _ _ _ _ _ _ _ HQ.out).mono ?_); rintro e w' ⟨rfl, rfl⟩)
  go_ret2
  exact ⟨rfl, rfl⟩
/-- What the line and the map are behind a Pop. -/
theorem poppedI {w : World} {q g off d e k m : Nat} {x : Int} {r : List Int} {D : DataW Unit} (h : QI w q (some ⟨g, off, none⟩) (d + 1) (e + 1) (some m) k (x :: r)) (ho : w.ownsMap Try.prog 3 unitElem m k D)
    (hh : ∀ y, FitsI y → Maps.has D (keyI y) = decide (y ∈ x :: r)) (A' : Option Addr) (hA' : A' = if e = 0 then some ⟨g, off, none⟩ else some ⟨g, off + 1, none⟩) (w2 : World) (hw2 : w2 = (w.setCell ⟨g, off, none⟩ (.int .i64 0)).setCell ⟨q, 0, none⟩ (.slice A' d e)) :
    ∀ w3, Below w2.heap.size w2 w3 → w3.cell? ⟨q, 1, none⟩ = some (.map (some m)) ∧ w3.ownsMap Try.prog 3 unitElem m k D ∧
      ∀ w4, w4.ownsMap Try.prog 3 unitElem m k (D.del (keyI x)) → w3.mapTurned w4 m → QToI w q (some ⟨g, off, none⟩) (some m) k r w4 := by
  have hqg : q ≠ g := fun e => h.apart (mem_blk.2 ⟨_, rfl, by rw [e]⟩)
  have hqm : q ≠ m := fun e => h.apart2 (by rw [e])
  have hmg : m ≠ g := fun e => h.apart3 m rfl (mem_blk.2 ⟨_, rfl, by rw [e]⟩)
  have hqlt := lt_of_block h.box
  have hmlt := ho.lt
  obtain ⟨g', off', eg, hg, hcl, hfr⟩ := h.line.at (by omega)
  cases eg
  have hblkA' : ∀ j ∈ blk A', j = g := by
    intro j hj
    obtain ⟨ad, ea, hb⟩ := mem_blk.1 hj
    rw [hA'] at ea
    split at ea <;> (cases ea; exact hb.symm)
  have hb1 : (w.setCell ⟨g, off, none⟩ (.int .i64 0)).heap[q]? = some (.cells #[.slice (some ⟨g, off, none⟩) (d + 1) (e + 1), .map (some m)] 107 (0, 0)) := (heap_setCell_other w ⟨g, off, none⟩ q _ hqg).trans h.box
  have hb2 : w2.heap[q]? = some (.cells #[.slice A' d e, .map (some m)] 107 (0, 0)) := by
    rw [hw2, heap_setCell_same _ q 0 _ _ _ hb1]
    rfl
  have hoth : ∀ j, j ≠ q → j ≠ g → w2.heap[j]? = w.heap[j]? := fun j h1 h2 => by
    rw [hw2]
    exact (heap_setCell_other _ ⟨q, 0, none⟩ j _ h1).trans (heap_setCell_other w ⟨g, off, none⟩ j _ h2)
  have hsz : w2.heap.size = w.heap.size := by rw [hw2]; simp [World.setCell]
  have hg2 : w2.heap[g]? = (w.setCell ⟨g, off, none⟩ (.int .i64 0)).heap[g]? := by
    rw [hw2]
    exact heap_setCell_other _ ⟨q, 0, none⟩ g _ (fun e => hqg e.symm)
  have hd : r.length = d := by have := h.line.1; simpa using this
  have hde : d ≤ e := by have := h.line.2.1; omega
  have hline : LineAt w2 A' d e (r.map (Value.int .i64)) := by
    refine ⟨by rw [List.length_map, hd], hde, by have := h.line.2.2.1; unfold maxLen at this ⊢; omega, fun ea => ?_, fun ad ea => ?_⟩
    · rw [hA'] at ea
      split at ea <;> cases ea
    · by_cases he : e = 0
      · rw [hA', if_pos he] at ea
        cases ea
        exact ⟨g, off, rfl, by omega, fun i hi => by omega, fun i hi => by omega⟩
      · rw [hA', if_neg he] at ea
        cases ea
        refine ⟨g, off + 1, rfl, by omega, fun i hi => ?_, fun i hi => ?_⟩
        · rw [World.cell?_of_block (w := w.setCell ⟨g, off, none⟩ (.int .i64 0)) (a := ⟨g, off + 1 + i, none⟩) hg2, cell_beside w g off (off + 1 + i) _ (by omega)]
          have h3 := hcl (i + 1) (by omega)
          rw [show off + (i + 1) = off + 1 + i from by omega] at h3
          rw [h3]
          simp
        · have h3 := hfr (i + 1) (by omega)
          rw [show off + (i + 1) = off + 1 + i from by omega] at h3
          rw [World.cell?_of_block (w := w.setCell ⟨g, off, none⟩ (.int .i64 0)) (a := ⟨g, off + 1 + i, none⟩) hg2, World.frozen?_of_block (w := w.setCell ⟨g, off, none⟩ (.int .i64 0)) (a := ⟨g, off + 1 + i, none⟩) hg2, cell_beside w g off (off + 1 + i) _ (by omega), World.frozen?_setCell]
          exact h3
  intro w3 hB3
  have hb3 : w3.heap[q]? = some (.cells #[.slice A' d e, .map (some m)] 107 (0, 0)) := (hB3.block q (by omega)).trans hb2
  have ho3 : w3.ownsMap Try.prog 3 unitElem m k D := own_map_sameI ho ((hB3.block m (by omega)).trans (hoth m (fun e => hqm e.symm) hmg))
  refine ⟨by rw [cell_of_row w3 q 1 _ _ (0, 0) hb3]; rfl, ho3, fun w4 ho4 hT => ?_⟩
  have hgr := hT.grown
  have hq4 : w4.heap[q]? = w3.heap[q]? := hgr.block q (by have := hB3.size; omega) (fun e => hqm (by cases e; rfl))
  have hnd := List.nodup_cons.1 h.nodup
  have hl3 : LineAt w3 A' d e (r.map (Value.int .i64)) := hline.below hB3
  refine ⟨A', d, e, some m, ⟨hq4.trans hb3, hl3.same hgr.size (fun j hj => hgr.block j (hl3.lt j hj) (fun e => hmg (by rw [← hblkA' j hj]; cases e; rfl))), fun y hy => h.fits y (List.mem_cons_of_mem _ hy), hnd.2, fun hj => hqg (hblkA' q hj), h.apart2, fun m' e hj => by cases e; exact hmg (hblkA' _ hj), .inr ⟨m, _, rfl, ho4, fun y hy => ?_⟩⟩, ?_, ?_⟩
  · by_cases e' : y = x
    · subst e'
      rw [Maps.has_del_same, decide_eq_false hnd.1]
    · rw [Maps.has_del_other (fun e2 => e' (key_injI e2)), hh y hy, Bool.eq_iff_iff]
      simp [e']
  · have h1 : Chg (qfoot q (some ⟨g, off, none⟩) (some m)) w w2 := by
      rw [hw2]
      exact ((Chg.refl _ w).setCell g off _ (.inl (mem_qfoot.2 (.inr (.inl (mem_blk.2 ⟨_, rfl, rfl⟩)))))).setCell q 0 _ (.inl (mem_qfoot.2 (.inl rfl)))
    exact (h1.trans (Chg.of_below hB3)).grown hgr (fun j hj => .inl (mem_qfoot.2 (.inr (.inr (by cases hj; rfl)))))
  · intro j hj
    rcases mem_qfoot.1 hj with h1 | h1 | h1
    · exact .inl (mem_qfoot.2 (.inl h1))
    · exact .inl (mem_qfoot.2 (.inr (.inl (mem_blk.2 ⟨_, rfl, (hblkA' j h1).symm⟩))))
    · exact .inl (mem_qfoot.2 (.inr (.inr h1)))
set_option maxHeartbeats 800000 in
theorem pop_someI (w : World) (q : Nat) (A : Option Addr) (n c : Nat) (mp : Option Nat) (k : Nat) (x : Int) (r : List Int) (h : QI w q A n c mp k (x :: r)) :
    Calls Try.prog 57 #[.pointer (some ⟨q, 0, none⟩)] w fun e w' => e = .returned (.tuple #[.int .i64 x, .bool true]) ∧ QToI w q A mp k r w' := by
  obtain ⟨m, D, rfl, ho, hh⟩ : ∃ m, ∃ D : DataW Unit, mp = some m ∧ w.ownsMap Try.prog 3 unitElem m k D ∧ ∀ x', FitsI x' → Maps.has D (keyI x') = decide (x' ∈ x :: r) := by
    rcases h.keys with ⟨_, e⟩ | h
    · cases e
    · exact h
  obtain ⟨d, rfl⟩ : ∃ d, n = d + 1 := ⟨r.length, by have := h.line.1; simpa using this.symm⟩
  obtain ⟨e, rfl⟩ : ∃ e, c = e + 1 := ⟨c - 1, by have := h.line.2.1; omega⟩
  obtain ⟨g, off, rfl, hg, hcl, hfr⟩ := h.line.at (by omega)
  have hlen : e + 1 ≤ 9223372036854775807 := by have := h.line.2.2.1; unfold maxLen at this; omega
  have hde : d ≤ e := by have := h.line.2.1; omega
  have hx0 : w.cell? ⟨g, off, none⟩ = some (.int .i64 x) := by have := hcl 0 (by omega); rw [Nat.add_zero] at this; rw [this]; rfl
  have hx1 : w.frozen? ⟨g, off, none⟩ = false := by have := (hfr 0 (by omega)).2; rwa [Nat.add_zero] at this
  have hqg : q ≠ g := fun e => h.apart (mem_blk.2 ⟨_, rfl, by rw [e]⟩)
  have hb1 : (w.setCell ⟨g, off, none⟩ (.int .i64 0)).heap[q]? = some (.cells #[.slice (some ⟨g, off, none⟩) (d + 1) (e + 1), .map (some m)] 107 (0, 0)) := (heap_setCell_other w ⟨g, off, none⟩ q _ hqg).trans h.box
  have hc0 := h.cell0
  have hf0 := h.free 0
  have hc1 : (w.setCell ⟨g, off, none⟩ (.int .i64 0)).cell? ⟨q, 0, none⟩ = some (.slice (some ⟨g, off, none⟩) (d + 1) (e + 1)) := by rw [cell_of_row _ q 0 _ _ (0, 0) hb1]; rfl
  have hf1 : (w.setCell ⟨g, off, none⟩ (.int .i64 0)).frozen? ⟨q, 0, none⟩ = false := frozen_of_row _ q 0 _ _ hb1
  have HQ := Lib.hid h
  have HP := Lib.hid (fun A' hA' w2 hw2 => poppedI h ho hh A' hA' w2 hw2)
  have HK := Lib.hid (keyOfI (h.fits x (List.mem_cons_self ..)))
  clear h ho hh hcl hfr hb1 hqg
  by_cases he : e = 0
  · subst he
    obtain rfl : d = 0 := by omega
    have HP2 := Lib.hid (HP.out (some ⟨g, off, none⟩) (by simp) _ rfl)
    clear HP
    go_enter Try.func57, Try.ntmps57
    go_wp2_with (first
      | ((with_reducible refine (qlenI _ _ _ _ _ _ _ _ HQ.out).mono ?_); rintro e w' ⟨rfl, rfl⟩)
      | (go_at_call 91; refine (likeI x _).mono ?_; rintro e w3 ⟨rfl, hb3⟩; obtain ⟨hc3, ho3, hF⟩ := HP2.out w3 hb3; have HO3 := Lib.hid ho3; have HF := Lib.hid hF; clear hb3 ho3 hF)
      | (at_delete; refine wpList_delete_own _ rfl _ _ 105 3 rfl 158 lawI Try.underlying105 _ m k D rfl HO3.out _ _ rfl HK.out ?_; intro w4 hown4 hturn4; have HX := Lib.hid (HF.out w4 hown4 hturn4); clear hown4 hturn4))
    go_ret2
    exact ⟨rfl, HX.out⟩
  · have HP2 := Lib.hid (HP.out (some ⟨g, off + 1, none⟩) (by simp [he]) _ rfl)
    clear HP
    have he' : (0 : Int) < (e : Int) := by omega
    have he2 : ¬ e + 1 = 1 := by omega
    go_enter Try.func57, Try.ntmps57
    go_wp2_with (first
      | ((with_reducible refine (qlenI _ _ _ _ _ _ _ _ HQ.out).mono ?_); rintro e w' ⟨rfl, rfl⟩)
      | (go_at_call 91; refine (likeI x _).mono ?_; rintro e w3 ⟨rfl, hb3⟩; obtain ⟨hc3, ho3, hF⟩ := HP2.out w3 hb3; have HO3 := Lib.hid ho3; have HF := Lib.hid hF; clear hb3 ho3 hF)
      | (at_delete; refine wpList_delete_own _ rfl _ _ 105 3 rfl 158 lawI Try.underlying105 _ m k D rfl HO3.out _ _ rfl HK.out ?_; intro w4 hown4 hturn4; have HX := Lib.hid (HF.out w4 hown4 hturn4); clear hown4 hturn4))
    go_ret2
    exact ⟨rfl, HX.out⟩
theorem QI.later {w : World} {q n c k k' : Nat} {A : Option Addr} {mp : Option Nat} {xs : List Int} (h : QI w q A n c mp k xs) (hk : k ≤ k') : QI w q A n c mp k' xs := by
  refine ⟨h.box, h.line, h.fits, h.nodup, h.apart, h.apart2, h.apart3, ?_⟩
  rcases h.keys with h1 | ⟨m, D, e, ho, hh⟩
  · exact .inl h1
  · exact .inr ⟨m, D, e, ho.mono hk, hh⟩
/-- A queue, its blocks from B on. -/
def QBI (B : Nat) (w : World) (q k : Nat) (xs : List Int) : Prop := ∃ A n c mp, QI w q A n c mp k xs ∧ (∀ j ∈ qfoot q A mp, B ≤ j) ∧ n = xs.length
theorem QToI.step {w w' : World} {B q k : Nat} {A : Option Addr} {mp : Option Nat} {xs : List Int} (h : QToI w q A mp k xs w') (hF : ∀ j ∈ qfoot q A mp, B ≤ j) (hB : B ≤ w.heap.size) : QBI B w' q k xs ∧ Below B w w' := by
  obtain ⟨A', n', c', mp', hQ, hC, hF'⟩ := h
  refine ⟨⟨A', n', c', mp', hQ, fun j hj => ?_, by have := hQ.line.1; simpa using this.symm⟩, hC.toBelow hF hB⟩
  rcases hF' j hj with h1 | h1
  · exact hF j h1
  · omega
theorem QBI.below {w w' : World} {B q k : Nat} {xs : List Int} (h : QBI B w q k xs) (hb : Below w.heap.size w w') : QBI B w' q k xs := by
  obtain ⟨A, n, c, mp, hQ, hF, hn⟩ := h
  exact ⟨A, n, c, mp, hQ.below hb, hF, hn⟩
theorem QBI.chg {w w' : World} {B q k : Nat} {xs : List Int} {l : List Nat} (h : QBI B w q k xs) (hc : Chg l w w') (hl : ∀ j ∈ l, j < B) : QBI B w' q k xs := by
  obtain ⟨A, n, c, mp, hQ, hF, hn⟩ := h
  exact ⟨A, n, c, mp, hQ.chg hc (fun j hj hj' => by have := hF j hj; have := hl j hj'; omega), hF, hn⟩
def pushLI (xs : List Int) (x : Int) : List Int := if x ∈ xs then xs else xs ++ [x]
theorem qpushI (B : Nat) (w : World) (q k : Nat) (xs : List Int) (h : QBI B w q k xs) (hB : B ≤ w.heap.size) (x : Int) (hx : FitsI x) (hn : xs.length ≤ 100000) (hk : k ≤ 100000) :
    Calls Try.prog 56 #[.pointer (some ⟨q, 0, none⟩), .int .i64 x] w fun e w' => e = .returned (.bool (!decide (x ∈ xs))) ∧ QBI B w' q (k + 1) (pushLI xs x) ∧ Below B w w' := by
  obtain ⟨A, n, c, mp, hQ, hF, rfl⟩ := h
  unfold pushLI
  by_cases hin : x ∈ xs
  · rw [if_pos hin, decide_eq_true hin]
    refine (push_oldI w q A _ c mp k xs hQ x hx hin).mono ?_
    rintro e w' ⟨rfl, hb⟩
    exact ⟨rfl, ⟨A, _, c, mp, (hQ.below hb).later (Nat.le_succ k), hF, rfl⟩, hb.mono hB⟩
  · rw [if_neg hin, decide_eq_false hin]
    cases mp with
    | some m =>
      refine (push_newI w q A _ c m k xs hQ x hx hin hn hk).mono ?_
      rintro e w' ⟨rfl, hT⟩
      exact ⟨rfl, hT.step hF hB⟩
    | none =>
      have e : xs = [] := by
        rcases hQ.keys with ⟨_, e⟩ | ⟨m, D, e, _⟩
        · exact e
        · cases e
      subst e
      refine (push_firstI w q A _ c k hQ x hx (Nat.zero_le _) hk).mono ?_
      rintro e w' ⟨rfl, hT⟩
      exact ⟨rfl, hT.step hF hB⟩
theorem qpopI (B : Nat) (w : World) (q k : Nat) (x : Int) (r : List Int) (h : QBI B w q k (x :: r)) (hB : B ≤ w.heap.size) :
    Calls Try.prog 57 #[.pointer (some ⟨q, 0, none⟩)] w fun e w' => e = .returned (.tuple #[.int .i64 x, .bool true]) ∧ QBI B w' q k r ∧ Below B w w' := by
  obtain ⟨A, n, c, mp, hQ, hF, rfl⟩ := h
  refine (pop_someI w q A _ c mp k x r hQ).mono ?_
  rintro e w' ⟨rfl, hT⟩
  exact ⟨rfl, hT.step hF hB⟩
theorem qpop0I (B : Nat) (w : World) (q k : Nat) (h : QBI B w q k []) :
    Calls Try.prog 57 #[.pointer (some ⟨q, 0, none⟩)] w fun e w' => e = .returned (.tuple #[.int .i64 0, .bool false]) ∧ w = w' := by
  obtain ⟨A, n, c, mp, hQ, hF, rfl⟩ := h
  exact pop_noneI w q A _ c mp k hQ
theorem qlenBI (B : Nat) (w : World) (q k : Nat) (xs : List Int) (h : QBI B w q k xs) :
    Calls Try.prog 61 #[.pointer (some ⟨q, 0, none⟩)] w fun e w' => e = .returned (.int .i64 (xs.length : Int)) ∧ w = w' := by
  obtain ⟨A, n, c, mp, hQ, hF, rfl⟩ := h
  exact qlenI w q A _ c mp k xs hQ
theorem qnewI (w : World) (B : Nat) (hB : B ≤ w.heap.size) : QBI B (w.alloc (.cells #[.slice none 0 0, .map none] 107)) w.heap.size 0 [] :=
  ⟨none, 0, 0, none, ⟨heap_alloc_new w _, LineAt.nil _, (fun x hx => by cases hx), List.Pairwise.nil, (fun h => by cases h), (fun e => by cases e), (fun m e => by cases e), .inl ⟨rfl, rfl⟩⟩, (fun j hj => by
    rcases mem_qfoot.1 hj with rfl | h1 | h1
    · exact hB
    · cases h1
    · cases h1), rfl⟩
end Go.Proofs.Ythijggnpkomdcaa
