/-
  The document's sets as rows of integers: contracts of brazierref03's functions and of the law's cut.
-/
import Derived.Test.YtjkcomoadpileaaDoorBg
namespace Go.Proofs.YtjkcomoadpileaaDoor
open Go.RowKit
set_option linter.unusedVariables false

def cellsI (zs : List Int) : List Value := zs.map (Value.int .i64)
theorem cellsI_append (a b : List Int) : cellsI (a ++ b) = cellsI a ++ cellsI b := List.map_append
theorem cellsI_length (a : List Int) : (cellsI a).length = a.length := List.length_map ..
theorem info_int : (Tryd.prog.info? 3).map (fun i => (i.zero, i.size, i.bytes)) = some (some (.int .i64 0), 1, 8) := by kernel_rfl
theorem new_cell (W : World) (x : Value) (T : TypeId) : ∀ j u, ([x] : List Value)[j]? = some u → (W.alloc (.cells #[x] T)).cell? ((⟨W.heap.size, 0, none⟩ : Addr).add j) = some u := by
  intro j u hu
  have hj : j = 0 := by
    have := (List.getElem?_eq_some_iff.1 hu).1
    simpa using this
  subst hj
  simp only [List.getElem?_cons_zero, Option.some.injEq] at hu
  subst hu
  simp [Addr.add]
def Fit (zs : List Int) : Prop := ∀ z ∈ zs, -9223372036854775808 ≤ z ∧ z ≤ 9223372036854775807
/-- A row of integers of the call's own. -/
def OwnI (w : World) (base : Nat) (v : Value) (zs : List Int) : Prop := w.ownsRow base 3 1 v zs.length (cellsI zs) ∧ Fit zs
theorem OwnI.nil (w : World) (base : Nat) : OwnI w base (.slice none 0 0) [] := ⟨⟨rfl, .inl ⟨rfl, rfl⟩⟩, fun z hz => by cases hz⟩
theorem OwnI.ints {w : World} {base : Nat} {v : Value} {zs : List Int} (h : OwnI w base v zs) : ∃ A c, v = .slice A zs.length c ∧ Ints w A zs.length zs := by
  rcases h.1.2 with ⟨rfl, hn⟩ | ⟨g, cap, cur, rfl, hb, hg, hnc, hcm, hcs, ht⟩
  · exact ⟨none, 0, by rw [hn], rfl, h.2, fun h0 => by omega⟩
  · refine ⟨_, cap, rfl, rfl, h.2, fun _ => ⟨g, 0, rfl, lt_of_block hg, fun i hi => ?_⟩⟩
    rw [Nat.zero_add, h.1.cellAt i (by omega)]
    simp [cellsI, hi, List.getD]
theorem OwnI.same {w w' : World} {base : Nat} {v : Value} {zs : List Int} (h : OwnI w base v zs) (hb : ∀ k, v.ownBlock = some k → w'.heap[k]? = w.heap[k]?) : OwnI w' base v zs := ⟨own_same h.1 hb, h.2⟩
/-- 'append(s, x)'. -/
theorem run_push (w : World) (base : Nat) (v : Value) (zs : List Int) (h : OwnI w base v zs) (x : Int) (hx : -9223372036854775808 ≤ x ∧ x ≤ 9223372036854775807) (hn : zs.length ≤ 1000000) (hb : base ≤ w.heap.size) (ty : TypeId) :
    ∃ v' w', (Builtin.append_ #[22, 22] ty #[v, .slice (some ⟨w.heap.size, 0, none⟩) 1 1]).run Tryd.prog (w.alloc (.cells #[.int .i64 x] 3)) = .ok v' w' ∧ OwnI w' base v' (zs ++ [x]) ∧ (w.alloc (.cells #[.int .i64 x] 3)).grownBy w' v.ownBlock ∧
      (∃ A c, v' = .slice A (zs.length + 1) c) := by
  obtain ⟨i0, hi, hz0, hz1, hz2⟩ := info_parts info_int
  obtain ⟨v', w', hr, h2, h3, h4⟩ := run_append_own (P := Tryd.prog) (w.alloc (.cells #[.int .i64 x] 3)) base 22 ty 3 i0 (.int .i64 0) 1 8 Tryd.underlying22 hi hz0 hz1 hz2 rfl (by decide) v zs.length (cellsI zs) (h.1.alloc _) ⟨w.heap.size, 0, none⟩ 1 1 [.int .i64 x] rfl (new_cell w _ _) (fun u hu => by simp only [List.mem_singleton] at hu; subst hu; rfl) (by unfold maxLen; omega) (by omega) (by simp; omega)
  refine ⟨v', w', hr, ⟨?_, fun z hz => ?_⟩, h3, own_shape h2⟩
  · rw [List.length_append, cellsI_append]
    exact h2
  · rcases List.mem_append.1 hz with h5 | h5
    · exact h.2 z h5
    · simp only [List.mem_singleton] at h5
      subst h5
      exact hx
theorem push_below {a w w' : World} {base : Nat} {v : Value} {zs : List Int} {o : Obj} (hB : Below base a w) (h : OwnI w base v zs) (hb : base ≤ w.heap.size) (hg : (w.alloc o).grownBy w' v.ownBlock) : Below base a w' :=
  (hB.alloc hb o).grown hg (by simp; omega) (fun k hk => (h.1.lt k hk).1)

theorem cut_any (w : World) (A : Option Addr) (n c : Nat) (hn : n ≤ 9223372036854775807) (hc : n ≤ c) (hm : c ≤ 9223372036854775807) :
    Calls Tryd.prog 8 #[.slice A n c] w fun e w' => e = .returned (.slice A (min n 100) c) ∧ w = w' := by
  by_cases h : n ≤ 100
  · have e : min n 100 = n := by omega
    rw [e]
    have hi : (n : Int) ≤ 100 := by omega
    cases A <;>
    · go_enter Tryd.func8, Tryd.ntmps8
      go_wp2
      go_ret
      exact ⟨rfl, rfl⟩
  · have e : min n 100 = 100 := by omega
    rw [e]
    have hi : ¬ (n : Int) ≤ 100 := by omega
    have hi2 : (100 : Int) < (n : Int) := by omega
    have hc2 : (100 : Int) ≤ (c : Int) := by omega
    cases A <;>
    · go_enter Tryd.func8, Tryd.ntmps8
      go_wp2
      go_ret
      exact ⟨rfl, rfl⟩
theorem rhas_any (w : World) (A : Option Addr) (n c : Nat) (zs : List Int) (hA : Ints w A n zs) (hn : n ≤ 1000000) (x : Int) :
    Calls Tryd.prog 17 #[.slice A n c, .int .i64 x] w fun e w' => e = .returned (.bool (decide (x ∈ zs))) ∧ w = w' := by
  have HA := Lib.hid hA
  clear hA
  go_enter Tryd.func17, Tryd.ntmps17
  go_wp2
  go_loop [9] (fun i => ∃ k : Nat, k ≤ n ∧ i = .int .i64 k ∧ x ∉ zs.take k) (fun i => n - (intOf i).toNat)
  case atStart => exact ⟨0, by omega, rfl, by simp⟩
  case round =>
    obtain ⟨k, hk, rfl, hno⟩ := hrel
    have HN := Lib.hid hno
    clear hno
    rcases Nat.lt_or_ge k n with hkn | hkn
    · obtain ⟨b, off, rfl, hb, hcs0⟩ := HA.out.at (by omega)
      have hck := hcs0 k hkn
      have ET : Hid (zs.take (k + 1) = zs.take k ++ [zs.getD k 0]) := Lib.hid (take_succ_getD (by rw [HA.out.1]; exact hkn))
      have HM : Hid (zs.getD k 0 ∈ zs) := Lib.hid (getD_mem (by rw [HA.out.1]; exact hkn))
      clear hcs0
      generalize zs.getD k 0 = z at *
      have hkn' : (k : Int) < (n : Int) := by omega
      by_cases e : z = x
      · subst e
        have HD : Hid (decide (z ∈ zs) = true) := Lib.hid (decide_eq_true HM.out)
        clear HM
        go_wp2
        go_ret
        exact ⟨by rw [HD.out]; rfl, rfl⟩
      · have hb : (z == x) = false := by simpa using e
        have HE := Lib.hid e
        clear e
        go_wp2
        go_round
        case rel => exact ⟨k + 1, by omega, by go_num, by rw [ET.out]; simp only [List.mem_append, List.mem_singleton, not_or]; exact ⟨HN.out, fun h => HE.out h.symm⟩⟩
        case measure => simp [intOf]; omega
    · obtain rfl : k = n := by omega
      have HD : Hid (decide (x ∈ zs) = false) := Lib.hid (decide_eq_false (by have := HN.out; rwa [List.take_of_length_le (by rw [HA.out.1]; exact Nat.le_refl _)] at this))
      go_wp2
      go_ret
      exact ⟨by rw [HD.out]; rfl, rfl⟩
end Go.Proofs.YtjkcomoadpileaaDoor
