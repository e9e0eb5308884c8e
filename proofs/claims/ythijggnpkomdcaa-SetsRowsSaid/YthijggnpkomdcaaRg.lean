/-
  Contracts of brazierref03.Drop, Put, Of, Same.
-/
import Derived.Test.YthijggnpkomdcaaRf
import Derived.Test.YthijggnpkomdcaaBh
import Derived.Test.YthijggnpkomdcaaLn
namespace Go.Proofs.Ythijggnpkomdcaa
open Go.RowKit
set_option linter.unusedVariables false
set_option maxRecDepth 100000

/-- What is handed back is a slice that holds zs, in one of the blocks L or a new one; nothing that was there has turned. -/
def GivesI (L : List Nat) (w : World) (e : Ending) (zs : List Int) (w' : World) : Prop := ∃ A c, e = .returned (.slice A zs.length c) ∧ Ints w' A zs.length zs ∧ Below w.heap.size w w' ∧ zs.length ≤ c ∧ c ≤ 9223372036854775807 ∧ ∀ j ∈ blk A, (j ∈ L ∨ w.heap.size ≤ j) ∧ j < w'.heap.size
theorem OwnI.gives {L : List Nat} {w w' : World} {v : Value} {zs : List Int} (h : OwnI w' w.heap.size v zs) (hB : Below w.heap.size w w') : GivesI L w (.returned v) zs w' := by
  rcases h.1.2 with ⟨rfl, hn⟩ | ⟨g, cap, cur, rfl, hb, hg, hnc, hcm, hcs, ht⟩
  · obtain ⟨A, c, e, hi⟩ := h.ints
    rw [hn] at e
    refine ⟨none, 0, by rw [hn], ?_, hB, by omega, by omega, fun j hj => by cases hj⟩
    injection e with e1 e2 e3
    subst e1
    exact hi
  · obtain ⟨A, c, e, hi⟩ := h.ints
    injection e with e1 e2 e3
    subst e1
    unfold maxLen at hcm
    refine ⟨_, cap, rfl, hi, hB, hnc, by omega, fun j hj => ?_⟩
    obtain ⟨ad, ea, hbl⟩ := mem_blk.1 hj
    cases ea
    rw [← hbl]
    exact ⟨.inr hb, lt_of_block hg⟩
/-- A row of the call's own, its value written out. -/
def OwnS (w : World) (base : Nat) (A : Option Addr) (n c : Nat) (zs : List Int) : Prop := zs.length = n ∧ OwnI w base (.slice A n c) zs
theorem OwnS.nil (w : World) (base : Nat) : OwnS w base none 0 0 [] := ⟨rfl, OwnI.nil w base⟩
theorem OwnS.gives {L : List Nat} {w w' : World} {A : Option Addr} {n c : Nat} {zs : List Int} (h : OwnS w' w.heap.size A n c zs) (hB : Below w.heap.size w w') : GivesI L w (.returned (.slice A n c)) zs w' := h.2.gives hB
/-- 'append(s, x)'. -/
theorem OwnS.push {w : World} {base : Nat} {A : Option Addr} {n c : Nat} {zs : List Int} (h : OwnS w base A n c zs) (x : Int) (hx : -9223372036854775808 ≤ x ∧ x ≤ 9223372036854775807) (hn : n ≤ 1000000) (hb : base ≤ w.heap.size) (ty : TypeId) :
    ∃ A' c' w', (Builtin.append_ #[26, 26] ty #[.slice A n c, .slice (some ⟨w.heap.size, 0, none⟩) 1 1]).run Try.prog (w.alloc (.cells #[.int .i64 x] 3)) = .ok (.slice A' (n + 1) c') w' ∧ OwnS w' base A' (n + 1) c' (zs ++ [x]) ∧
      (w.alloc (.cells #[.int .i64 x] 3)).grownBy w' (Value.slice A n c).ownBlock := by
  obtain ⟨rfl, h⟩ := h
  obtain ⟨v', w', hr, h2, h3, A', c', rfl⟩ := run_push w base _ zs h x hx hn hb ty
  exact ⟨A', c', w', hr, ⟨by rw [List.length_append]; rfl, h2⟩, h3⟩
theorem OwnS.below {a w w' : World} {base : Nat} {A : Option Addr} {n c : Nat} {zs : List Int} {o : Obj} (h : OwnS w base A n c zs) (hB : Below base a w) (hb : base ≤ w.heap.size) (hg : (w.alloc o).grownBy w' (Value.slice A n c).ownBlock) : Below base a w' :=
  push_below hB h.2 hb hg
def dropL (zs : List Int) (x : Int) : List Int := zs.filter fun z => decide (z ≠ x)
theorem filter_take_yes {zs : List Int} {k : Nat} (p : Int → Bool) (hk : k < zs.length) (h : p (zs.getD k 0) = true) : (zs.take (k + 1)).filter p = (zs.take k).filter p ++ [zs.getD k 0] := by
  rw [take_succ_getD hk, List.filter_append]
  simp only [List.filter_cons, h, if_true, List.filter_nil]
theorem filter_take_no {zs : List Int} {k : Nat} (p : Int → Bool) (hk : k < zs.length) (h : p (zs.getD k 0) = false) : (zs.take (k + 1)).filter p = (zs.take k).filter p := by
  have h' : [zs.getD k 0].filter p = [] := by rw [List.filter_cons_of_neg (by rw [h]; decide)]; rfl
  rw [take_succ_getD hk, List.filter_append, h', List.append_nil]
theorem filter_len (zs : List Int) (p : Int → Bool) (k : Nat) : ((zs.take k).filter p).length ≤ k := by
  have h1 := List.length_filter_le p (zs.take k)
  have h2 := List.length_take_le k zs
  omega
set_option maxHeartbeats 400000 in
theorem rdrop_any (w : World) (A : Option Addr) (n c : Nat) (zs : List Int) (hA : Ints w A n zs) (hn : n ≤ 100000) (x : Int) :
    Calls Try.prog 13 #[.slice A n c, .int .i64 x] w fun e w' => GivesI [] w e (dropL zs x) w' := by
  have HA := Lib.hid hA
  clear hA
  go_enter Try.func13, Try.ntmps13
  go_wp2
  go_loopw [5, 10] (fun v i wr => ∃ (k : Nat) (A1 : Option Addr) (q c1 : Nat), k ≤ n ∧ i = .int .i64 k ∧ v = .slice A1 q c1 ∧ OwnS wr w.heap.size A1 q c1 (dropL (zs.take k) x) ∧ Below w.heap.size w wr) (fun _ i _ => n - (intOf i).toNat)
  case atStart => exact ⟨0, none, 0, 0, by omega, rfl, rfl, OwnS.nil _ _, Below.refl _ _⟩
  case round =>
    obtain ⟨k, A1, q, c1, hk, rfl, rfl, hO, hB⟩ := hrel
    have hsz := hB.size
    have HO := Lib.hid hO
    have HB := Lib.hid hB
    clear hO hB
    rcases Nat.lt_or_ge k n with hkn | hkn
    · obtain ⟨b, off, rfl, hb, hcs0⟩ := HA.out.at (by omega)
      have hck : wr.cell? ⟨b, off + k, none⟩ = some (.int .i64 (zs.getD k 0)) := (HB.out.cell (p := ⟨b, off + k, none⟩) hb).trans (hcs0 k hkn)
      have hkl : k < zs.length := by rw [HA.out.1]; exact hkn
      have hbd := Lib.hid (HA.out.bd hkn)
      have hkn' : (k : Int) < (n : Int) := by omega
      have hq : q ≤ 1000000 := by
        have h1 := filter_len zs (fun z => decide (z ≠ x)) k
        have h2 := HO.out.1
        unfold dropL at h2
        omega
      have EY : Hid (zs.getD k 0 ≠ x → dropL (zs.take (k + 1)) x = dropL (zs.take k) x ++ [zs.getD k 0]) := Lib.hid (fun e => filter_take_yes _ hkl (decide_eq_true e))
      have EN : Hid (zs.getD k 0 = x → dropL (zs.take (k + 1)) x = dropL (zs.take k) x) := Lib.hid (fun e => filter_take_no _ hkl (decide_eq_false (fun h => h e)))
      clear hcs0 hkl
      generalize zs.getD k 0 = z at *
      by_cases e : z = x
      · subst e
        have HE := Lib.hid (EN.out rfl)
        have hb : (z != z) = false := by simp
        go_wp2
        go_roundw
        case rel => exact ⟨k + 1, A1, q, c1, by omega, by go_num, rfl, by rw [HE.out]; exact HO.out, HB.out⟩
        case measure => simp [intOf]; omega
      · have hb : (z != x) = true := by simpa using e
        have HE := Lib.hid (EY.out e)
        obtain ⟨A2, c2, w1, hr, h2, h3⟩ := HO.out.push z hbd.out hq hsz 26
        have HR := Lib.hid hr
        have H2 := Lib.hid h2
        have H3 := Lib.hid (HO.out.below HB.out hsz h3)
        clear e hbd hr h2 h3
        go_wp2_with (at_builtin; refine Lib.wpList_append_run _ rfl _ _ _ _ rfl _ _ rfl rfl _ _ HR.out ?_)
        go_roundw
        case rel => exact ⟨k + 1, A2, q + 1, c2, by omega, by go_num, rfl, by rw [HE.out]; exact H2.out, H3.out⟩
        case measure => simp [intOf]; omega
    · obtain rfl : k = n := by omega
      have HX : Hid (GivesI [] w (.returned (.slice A1 q c1)) (dropL zs x) wr) := by
        have h1 := HO.out
        rw [List.take_of_length_le (by rw [HA.out.1]; exact Nat.le_refl _)] at h1
        exact Lib.hid (h1.gives HB.out)
      go_wp2
      go_ret
      exact HX.out
/-- A rising row with a number more. -/
def putYes (zs : List Int) (x : Int) : List Int := (zs.filter fun z => decide (z < x)) ++ [x] ++ zs.filter fun z => decide (x < z)
def putL (zs : List Int) (x : Int) : List Int := if x < 0 ∨ 65535 < x ∨ x ∈ zs then zs else putYes zs x
end Go.Proofs.Ythijggnpkomdcaa
