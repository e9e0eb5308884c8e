/-
  The walk of SetsRows.
-/
import Derived.Test.YthijggnpkomdcaaSRb
import Derived.Deep.CutRange
import Derived.Deep.RegionHeld3
import Derived.Deep.RegionWith
import Derived.Sort.CutIn
namespace Go.Proofs.Ythijggnpkomdcaa
open Go.RowKit Go.Shelf
attribute [local go_sem] Oper.semAt_some
set_option linter.unusedVariables false

/-- The slice A of n things to do. -/
def OpsAt (w : World) (A : Option Addr) (n : Nat) (os : List (Nat × Int × ByteArray)) : Prop :=
  os.length = n ∧ (∀ o ∈ os, o.1 < 18446744073709551616 ∧ FitsI o.2.1 ∧ o.2.2.size ≤ maxLen) ∧ (0 < n → ∃ g off, A = some ⟨g, off, none⟩ ∧ g < w.heap.size ∧ ∀ i o, os[i]? = some o → w.cell? ⟨g, off + i * 3, none⟩ = some (.int .u64 (o.1 : Int)) ∧ w.cell? ⟨g, off + i * 3 + 1, none⟩ = some (.int .i64 o.2.1) ∧ w.cell? ⟨g, off + i * 3 + 2, none⟩ = some (.string o.2.2))
theorem SRow.start (W : World) (fr : Int) : SRow W (((((W.alloc (.cells #[.int .i64 fr] 3)).alloc (.cells #[.bool false] 4)).alloc (.cells #[.slice none 0 0] 25)).alloc (.map #[] 0)).alloc (.cells #[.map (some (W.heap.size + 3))] 27)) W.heap.size fr none 0 0 [] [] [] 0 W.heap.size (.cells #[.int .i64 fr] 3 (0, 0)) := by
  have n0 := heap_alloc_new W (.cells #[.int .i64 fr] 3 (0, 0))
  generalize hw1 : W.alloc (.cells #[.int .i64 fr] 3) = w1 at *
  have s1 : w1.heap.size = W.heap.size + 1 := by rw [← hw1]; simp
  have B1 : Below W.heap.size W w1 := by rw [← hw1]; exact (Below.refl _ W).alloc (Nat.le_refl _) _
  have n1 := heap_alloc_new w1 (.cells #[.bool false] 4 (0, 0))
  have B2 := (Below.refl _ w1).alloc (Nat.le_refl _) (.cells #[.bool false] 4 (0, 0))
  generalize hw2 : w1.alloc (.cells #[.bool false] 4) = w2 at *
  have s2 : w2.heap.size = W.heap.size + 2 := by rw [← hw2]; simp [s1]
  have n2 := heap_alloc_new w2 (.cells #[.slice none 0 0] 25 (0, 0))
  have B3 := (Below.refl _ w2).alloc (Nat.le_refl _) (.cells #[.slice none 0 0] 25 (0, 0))
  generalize hw3 : w2.alloc (.cells #[.slice none 0 0] 25) = w3 at *
  have s3 : w3.heap.size = W.heap.size + 3 := by rw [← hw3]; simp [s2]
  have m3 := MapS.made w3
  have B4 := (Below.refl _ w3).alloc (Nat.le_refl _) (.map #[] 0)
  generalize hw4 : w3.alloc (.map #[] 0) = w4 at *
  have s4 : w4.heap.size = W.heap.size + 4 := by rw [← hw4]; simp [s3]
  have n4 := heap_alloc_new w4 (.cells #[.map (some (W.heap.size + 3))] 27 (0, 0))
  have B5 := (Below.refl _ w4).alloc (Nat.le_refl _) (.cells #[.map (some (W.heap.size + 3))] 27 (0, 0))
  generalize hw5 : w4.alloc (.cells #[.map (some (W.heap.size + 3))] 27) = w5 at *
  rw [s1] at n1 B2
  rw [s2] at n2 B3
  rw [s3] at m3 B4
  rw [s4] at n4 B5
  have h1 := (B5.block _ (by omega)).trans ((B4.block _ (by omega)).trans ((B3.block _ (by omega)).trans ((B2.block _ (by omega)).trans n0)))
  refine ⟨h1, (B5.block _ (by omega)).trans ((B4.block _ (by omega)).trans ((B3.block _ (by omega)).trans n1)), n4, ⟨none, 0, 0, (B5.block _ (by omega)).trans ((B4.block _ (by omega)).trans n2), RowG.nil _, (fun j hj => by cases hj)⟩, m3.same (B5.block _ (by omega)), LineAt.nil _, (fun j hj => by cases hj), h1, ⟨by omega, by omega⟩, B1.trans ((B2.mono (by omega)).trans ((B3.mono (by omega)).trans ((B4.mono (by omega)).trans (B5.mono (by omega))))), rfl⟩
/-- The last key. -/
def lastK (ps : List (Int × Value)) : Int := (ps.getLast?.map (·.1)).getD 0
theorem lastK_snoc (ps : List (Int × Value)) (p : Int × Value) : lastK (ps ++ [p]) = p.1 := by simp [lastK]
theorem lastK_lt {ps : List (Int × Value)} {x : Int} {v : Value} {all : List (Int × Value)} (hr : Rises ltI all) (hp : ps ++ [(x, v)] <+: all) (hne : 0 < ps.length) : ¬ x ≤ lastK ps := by
  have h1 : Rises ltI (ps ++ [(x, v)]) := List.Pairwise.sublist hp.sublist hr
  have h2 := List.pairwise_append.1 h1
  have hl : ps ≠ [] := fun e => by rw [e] at hne; simp at hne
  have h3 := h2.2.2 (ps.getLast hl) (List.getLast_mem hl) (x, v) (by simp)
  unfold lastK
  rw [List.getLast?_eq_some_getLast hl]
  simp [ltI] at h3 ⊢
  exact h3
theorem setCell_self {w : World} {b : Nat} {v : Value} {T : TypeId} (h : w.heap[b]? = some (.cells #[v] T (0, 0))) : w.setCell ⟨b, 0, none⟩ v = w := by
  have e : (w.setCell ⟨b, 0, none⟩ v).heap = w.heap := by
    apply Array.ext_getElem?
    intro i
    by_cases hi : i = b
    · subst hi
      exact (one_setCell h).trans h.symm
    · exact heap_setCell_other w ⟨b, 0, none⟩ i v hi
  unfold World.setCell at e ⊢
  simp only at e
  rw [e]
def NumAt (w : World) (b : Nat) (z : Int) : Prop := w.heap[b]? = some (.cells #[.int .i64 z] 3 (0, 0))
theorem NumAt.chg {w w' : World} {b : Nat} {z : Int} {l : List Nat} (h : NumAt w b z) (hc : Chg l w w') (hl : b ∉ l) : NumAt w' b z := (hc.same b (lt_of_block h) hl).trans h
theorem NumAt.below {w w' : World} {b : Nat} {z : Int} (h : NumAt w b z) (hb : Below w.heap.size w w') : NumAt w' b z := (hb.block b (lt_of_block h)).trans h
theorem NumAt.cell {w : World} {b : Nat} {z : Int} (h : NumAt w b z) : w.cell? ⟨b, 0, none⟩ = some (.int .i64 z) := cell_of_one h
theorem NumAt.free {w : World} {b : Nat} {z : Int} (h : NumAt w b z) : w.frozen? ⟨b, 0, none⟩ = false := free_of_one h
theorem NumAt.set {w : World} {b : Nat} {z : Int} (h : NumAt w b z) (y : Int) : NumAt (w.setCell ⟨b, 0, none⟩ (.int .i64 y)) b y := one_setCell h
theorem NumAt.beside {w : World} {b c : Nat} {z : Int} (h : NumAt w b z) (v : Value) (hne : b ≠ c) : NumAt (w.setCell ⟨c, 0, none⟩ v) b z := (heap_setCell_other w ⟨c, 0, none⟩ b v hne).trans h
def notLess (fr : Int) (ps : List (Int × Value)) : Nat := ps.countP (fun p => !ltI p.1 fr)
theorem notLess_snoc (fr : Int) (ps : List (Int × Value)) (x : Int) (v : Value) : notLess fr (ps ++ [(x, v)]) = notLess fr ps + if fr ≤ x then 1 else 0 := by
  unfold notLess
  rw [List.countP_append]
  congr 1
  by_cases h : fr ≤ x
  · simp [ltI, h]
  · simp [ltI, h]
/-- While a row is gone over for the first time. -/
structure Lp1 (w0 : World) (bl : Nat) (fr : Int) (pre : List (Int × Value)) (w : World) : Prop where
  chg : Chg [bl, bl + 1, bl + 1 + 1] w0 w
  last : NumAt w bl (lastK pre)
  num : NumAt w (bl + 1) (pre.length : Int)
  cnt : NumAt w (bl + 1 + 1) (notLess fr pre : Int)
theorem Lp1.steady {w0 : World} {bl : Nat} {fr : Int} {pre : List (Int × Value)} (hb : bl + 1 + 1 < w0.heap.size) : SteadyIt w0.heap.size (Lp1 w0 bl fr pre) := by
  rintro W W' ⟨h1, h2, h3, h4⟩ hc
  exact ⟨h1.andThen hc (fun k hk => by simp only [List.mem_cons, List.not_mem_nil, or_false] at hk; omega), h2.chg hc (by simp only [List.mem_cons, List.not_mem_nil, or_false]; omega), h3.chg hc (by simp only [List.mem_cons, List.not_mem_nil, or_false]; omega), h4.chg hc (by simp only [List.mem_cons, List.not_mem_nil, or_false]; omega)⟩
theorem Lp1.step {w0 w : World} {bl : Nat} {fr : Int} {pre : List (Int × Value)} (h : Lp1 w0 bl fr pre w) (x : Int) (v : Value) {C : Nat} (hb : bl + 1 + 1 < w0.heap.size) (hC : w0.heap.size + 2 ≤ C) (hCW : C < w.heap.size) :
    (fr ≤ x → KeepsIt w0.heap.size C w (((w.setCell ⟨bl, 0, none⟩ (.int .i64 x)).setCell ⟨bl + 1, 0, none⟩ (.int .i64 ((pre.length : Int) + 1))).setCell ⟨bl + 1 + 1, 0, none⟩ (.int .i64 ((notLess fr pre : Int) + 1))) ∧ Lp1 w0 bl fr (pre ++ [(x, v)]) (((w.setCell ⟨bl, 0, none⟩ (.int .i64 x)).setCell ⟨bl + 1, 0, none⟩ (.int .i64 ((pre.length : Int) + 1))).setCell ⟨bl + 1 + 1, 0, none⟩ (.int .i64 ((notLess fr pre : Int) + 1)))) ∧
    (¬ fr ≤ x → KeepsIt w0.heap.size C w ((w.setCell ⟨bl, 0, none⟩ (.int .i64 x)).setCell ⟨bl + 1, 0, none⟩ (.int .i64 ((pre.length : Int) + 1))) ∧ Lp1 w0 bl fr (pre ++ [(x, v)]) ((w.setCell ⟨bl, 0, none⟩ (.int .i64 x)).setCell ⟨bl + 1, 0, none⟩ (.int .i64 ((pre.length : Int) + 1)))) := by
  obtain ⟨h1, h2, h3, h4⟩ := h
  have hc1 : Chg [bl, bl + 1, bl + 1 + 1] w ((w.setCell ⟨bl, 0, none⟩ (.int .i64 x)).setCell ⟨bl + 1, 0, none⟩ (.int .i64 ((pre.length : Int) + 1))) := ((Chg.refl _ w).setCell bl 0 _ (.inl (by simp))).setCell (bl + 1) 0 _ (.inl (by simp))
  have hk : ∀ w', Chg [bl, bl + 1, bl + 1 + 1] w w' → KeepsIt w0.heap.size C w w' := fun w' hc => hc.keepsIt (by omega) hCW (by simp; omega) (by simp; omega) (by simp; omega)
  have e2 := lastK_snoc pre (x, v)
  have e3 := notLess_snoc fr pre x v
  have hl : (pre ++ [(x, v)]).length = pre.length + 1 := by simp
  constructor
  · intro hx
    rw [if_pos hx] at e3
    have hc2 := hc1.setCell (bl + 1 + 1) 0 (.int .i64 ((notLess fr pre : Int) + 1)) (.inl (by simp))
    refine ⟨hk _ hc2, h1.trans hc2, ?_, ?_, ?_⟩
    · rw [e2]
      exact ((h2.set x).beside _ (by omega)).beside _ (by omega)
    · rw [hl]
      exact (((h3.beside _ (by omega)).set _).beside _ (by omega))
    · rw [e3]
      exact ((h4.beside _ (by omega)).beside _ (by omega)).set _
  · intro hx
    rw [if_neg hx] at e3
    refine ⟨hk _ hc1, h1.trans hc1, ?_, ?_, ?_⟩
    · rw [e2]
      exact (h2.set x).beside _ (by omega)
    · rw [hl]
      exact ((h3.beside _ (by omega)).set _)
    · rw [e3]
      exact (h4.beside _ (by omega)).beside _ (by omega)
/-- While it is gone over for the second time. -/
structure Lp2 (w0 : World) (bl bm : Nat) (pre : List (Int × Value)) (w : World) : Prop where
  chg : Chg [bl, bm] w0 w
  last : ∃ z, NumAt w bl z ∧ (0 < pre.length → z = lastK pre)
  num : NumAt w bm (pre.length : Int)
theorem Lp2.steady {w0 : World} {bl bm : Nat} {pre : List (Int × Value)} (hb : bl < w0.heap.size) (hb2 : bm < w0.heap.size) : SteadyIt w0.heap.size (Lp2 w0 bl bm pre) := by
  rintro W W' ⟨h1, ⟨z, h2, hz⟩, h3⟩ hc
  exact ⟨h1.andThen hc (fun k hk => by simp only [List.mem_cons, List.not_mem_nil, or_false] at hk; omega), ⟨z, h2.chg hc (by simp only [List.mem_cons, List.not_mem_nil, or_false]; omega), hz⟩, h3.chg hc (by simp only [List.mem_cons, List.not_mem_nil, or_false]; omega)⟩
theorem Lp2.step {w0 w : World} {bl bm : Nat} {pre : List (Int × Value)} (h : Lp2 w0 bl bm pre w) (x : Int) (v : Value) {C : Nat} (hb : bl < w0.heap.size) (hb2 : bm < w0.heap.size) (hne : bl ≠ bm) (hC : w0.heap.size + 2 ≤ C) (hCW : C < w.heap.size) :
    KeepsIt w0.heap.size C w ((w.setCell ⟨bl, 0, none⟩ (.int .i64 x)).setCell ⟨bm, 0, none⟩ (.int .i64 ((pre.length : Int) + 1))) ∧ Lp2 w0 bl bm (pre ++ [(x, v)]) ((w.setCell ⟨bl, 0, none⟩ (.int .i64 x)).setCell ⟨bm, 0, none⟩ (.int .i64 ((pre.length : Int) + 1))) := by
  obtain ⟨h1, ⟨z, h2, hz⟩, h3⟩ := h
  have hc1 : Chg [bl, bm] w ((w.setCell ⟨bl, 0, none⟩ (.int .i64 x)).setCell ⟨bm, 0, none⟩ (.int .i64 ((pre.length : Int) + 1))) := ((Chg.refl _ w).setCell bl 0 _ (.inl (by simp))).setCell bm 0 _ (.inl (by simp))
  have hl : (pre ++ [(x, v)]).length = pre.length + 1 := by simp
  refine ⟨hc1.keepsIt (by omega) hCW (by simp; omega) (by simp; omega) (by simp; omega), h1.trans hc1, ⟨x, (h2.set x).beside _ hne, fun _ => (lastK_snoc pre (x, v)).symm⟩, ?_⟩
  rw [hl]
  exact (h3.beside _ (fun e => hne e.symm)).set _
theorem results_cell (tmps : Array Value) (w : World) (g : Nat) (b : Bool) (hp : tmps.getD 4 undef = .pointer (some ⟨g, 0, none⟩)) (hg : w.cell? ⟨g, 0, none⟩ = some (.bool b)) : (results Try.f3 tmps).run Try.prog w = .ok (.bool b) w := by
  have hp' : tmps[4]?.getD undef = .pointer (some ⟨g, 0, none⟩) := by simpa using hp
  simp [results, Try.results3, hp', asAddr, go_sem, hg]
theorem iter_enters (args : Array Value) (w : World) : (callFunc 52 args).run Try.prog w = .ok (.enter 52 args) w := enters_of Try.func52 (by kernel_rfl) rfl args w
theorem iter_enters2 (args : Array Value) (w : World) : (callFunc 54 args).run Try.prog w = .ok (.enter 54 args) w := enters_of Try.func54 (by kernel_rfl) rfl args w
/-- The contracts of Each and From, the boxes at places of their own. -/
theorem reach_box (w : World) (p : Option Addr) :
    Calls Try.prog 16 #[.pointer p] w fun e w' => ∃ B, e = .returned (.func (.func 52) #[] #[.pointer (some ⟨B, 0, none⟩)]) ∧ w'.heap[B]? = some (.cells #[.pointer p] 94 (0, 0)) ∧ Below w.heap.size w w' ∧ w.heap.size ≤ B := by
  refine (reach_I w p).mono ?_
  rintro e w' ⟨rfl, rfl⟩
  exact ⟨_, rfl, heap_alloc_new w _, (Below.refl _ w).alloc (Nat.le_refl _) _, Nat.le_refl _⟩
theorem rfrom_box (w : World) (p : Option Addr) (k : Int) :
    Calls Try.prog 17 #[.pointer p, .int .i64 k] w fun e w' => ∃ B C, e = .returned (.func (.func 54) #[] #[.pointer (some ⟨B, 0, none⟩), .pointer (some ⟨C, 0, none⟩)]) ∧ w'.heap[B]? = some (.cells #[.pointer p] 94 (0, 0)) ∧ w'.heap[C]? = some (.cells #[.int .i64 k] 3 (0, 0)) ∧ Below w.heap.size w w' ∧ w.heap.size ≤ B ∧ w.heap.size ≤ C := by
  refine (rfrom w p k).mono ?_
  rintro e w' ⟨rfl, rfl⟩
  have h1 := heap_alloc_new w (.cells #[.pointer p] 94 (0, 0))
  have h2 := heap_alloc_new (w.alloc (.cells #[.pointer p] 94 (0, 0))) (.cells #[.int .i64 k] 3 (0, 0))
  rw [World.size_alloc] at h2
  exact ⟨_, _, rfl, (Below.heap_alloc _ _ _ (by simp)).trans h1, h2, ((Below.refl _ w).alloc (Nat.le_refl _) _).alloc (by simp) _, Nat.le_refl _, by omega⟩
set_option maxRecDepth 100000 in
set_option maxHeartbeats 12800000 in
theorem setsRows_walk (A : Option Addr) (len cap : Nat) (os : List (Nat × Int × ByteArray)) (fr : Int) (W : World) (hO : OpsAt W A len os) (hl : len ≤ 9223372036854775807) (hfr : FitsI fr) :
    Calls Try.prog 3 #[.slice A len cap, .int .i64 fr] W fun e W' => e = .returned (.bool true) ∧ Below W.heap.size W W' := by
  have hmm := @run_makeMap Try.prog
  have heq := eql_func_nil2
  have HO := Lib.hid hO
  have HFR := Lib.hid hfr
  clear hO hfr
  refine (callsIn_wide (n := 8)).1 ?_
  refine callsIn_of_wp_marks Try.func3 rfl trivial ?_ rfl
  simp only [Try.ntmps3, List.size_toArray, List.length_cons, List.length_nil, Nat.reduceAdd, Nat.reduceSub, Array.replicate_succ, Array.replicate_zero, List.push_toArray, List.append_toArray, List.nil_append, List.cons_append]
  refine wpIn_wide.2 ?_
  go_wp2_with fail
  go_loopw [6, 33] (fun x i wr => ∃ (j : Nat) (KA : Option Addr) (kc : Nat) (ks : List Int) (ps : List (Int × Value)) (va : Nat) (ob : Obj), j ≤ len ∧ j ≤ 100 ∧ i = .int .i64 j ∧ x = .slice KA ks.length kc ∧ SRow W wr W.heap.size fr KA ks.length kc ks ps ps j va ob ∧ SKnown ks ps j) (fun _ i _ => len - (intOf i).toNat)
  case atStart => exact ⟨0, none, 0, [], [], _, _, by omega, by omega, rfl, rfl, SRow.start W fr, SKnown.nil⟩
  case round =>
    obtain ⟨j, KA, kc, ks, ps, va, ob, hj, hj1, rfl, rfl, hS, hK⟩ := hrel
    have HK := Lib.hid hK
    have hkl := hK.len
    obtain ⟨kn, hkn⟩ : ∃ kn, ks.length = kn := ⟨_, rfl⟩
    rw [hkn] at hS hkl
    rw [hkn]
    have HKN := Lib.hid hkn
    have HS := Lib.hid hS
    clear hK hS hkn
    by_cases hin : j < len ∧ j < 100
    · obtain ⟨hjn, hj2⟩ := hin
      · obtain ⟨o, ho⟩ : ∃ o, os[j]? = some o := ⟨_, List.getElem?_eq_getElem (by rw [HO.out.1]; exact hjn)⟩
        obtain ⟨g, off, rfl, hg, hcs⟩ := HO.out.2.2 (by omega)
        obtain ⟨c0, c1, c2⟩ := hcs j o ho
        have hoo := HO.out.2.1 o (List.mem_of_getElem? ho)
        obtain ⟨a, x, s⟩ := o
        obtain ⟨ha, hx, hs⟩ := hoo
        have hlow : ∀ k, wr.cell? ⟨g, k, none⟩ = W.cell? ⟨g, k, none⟩ := fun k => HS.out.below.cell (p := ⟨g, k, none⟩) hg
        have d0 := (hlow _).trans c0
        have d1 := (hlow _).trans c1
        have d2 := (hlow _).trans c2
        simp only at ha hx hs d0 d1 d2
        have hjn' : (j : Int) < (len : Int) := by omega
        have hj2' : ¬ (100 : Int) ≤ (j : Int) := by omega
        have HSa := Lib.hid (HS.out.fresh (.cells #[.int .u64 (a : Int), .int .i64 x, .string s] 30 (0, 0)))
        obtain ⟨Wa, hWa⟩ : ∃ Wa, wr.alloc (.cells #[.int .u64 (a : Int), .int .i64 x, .string s] 30) = Wa := ⟨_, rfl⟩
        rw [hWa] at HSa
        obtain ⟨vb, hvb⟩ : ∃ vb, wr.heap.size = vb := ⟨_, rfl⟩
        rw [hvb] at HSa
        have e0 : Wa.cell? ⟨vb, 0, none⟩ = some (.int .u64 (a : Int)) := by rw [cell_of_row _ vb 0 _ _ (0, 0) HSa.out.vb]; rfl
        have e1 : Wa.cell? ⟨vb, 1, none⟩ = some (.int .i64 x) := by rw [cell_of_row _ vb 1 _ _ (0, 0) HSa.out.vb]; rfl
        have e2 : Wa.cell? ⟨vb, 2, none⟩ = some (.string s) := by rw [cell_of_row _ vb 2 _ _ (0, 0) HSa.out.vb]; rfl
        have e4 : Wa.cell? ⟨W.heap.size + 4, 0, none⟩ = some (.map (some (W.heap.size + 3))) := cell_of_one HSa.out.b4
        have hlook := HSa.out.map.look HK.out.strs HK.out.rises x hx
        obtain ⟨u, hu⟩ : ∃ u, (lookP ltI ps x).getD (.string ⟨#[]⟩) = u := ⟨_, rfl⟩
        rw [hu] at hlook
        have HX := Lib.hid hx
        have HSS := Lib.hid hs
        obtain ⟨A1, n1, cc1, r1, r2, r3⟩ := HSa.out.row
        have hn1 : n1 ≤ 100000 := by have h1 := r2.len; have h2 := HK.out.count; have h3 := HK.out.len; omega
        have hap : W.heap.size + 2 ∉ blk A1 := fun hm => by have := (r3 _ hm).1; omega
        have HPUT := Lib.hid (rput_I Wa (W.heap.size + 2) 0 _ _ A1 n1 cc1 ps r1 rfl hap r2 x s hn1)
        have HDROP := Lib.hid (rdrop_I Wa (W.heap.size + 2) 0 _ _ A1 n1 cc1 ps r1 rfl hap r2 x hn1)
        have HROW : Hid (∀ w2 ps', RowTo encI ltI Wa (W.heap.size + 2) 0 #[.slice A1 n1 cc1] 25 A1 ps' w2 → SRow W w2 W.heap.size fr KA kn kc ks ps' ps j vb (.cells #[.int .u64 (a : Int), .int .i64 x, .string s] 30 (0, 0))) := Lib.hid (fun w2 ps' hT => HSa.out.rowed r1 hT)
        have hkn1 : kn ≤ 1000000 := by omega
        clear c0 c1 c2 hcs hlow ho hu hx hs r1 r2 r3 hap
        cases hh : hasP ltI ps x
        all_goals rw [hh] at hlook HPUT HDROP
        all_goals have HH := Lib.hid hh
        all_goals clear hh
        all_goals rcases Nat.mod_two_eq_zero_or_one a with hm | hm
        · -- a new key
          have hm1 : (a : Int) % 2 = 0 := by omega
          go_wp2_with fail
          refine HPUT.out.mono ?_
          rintro e w2 ⟨rfl, hT⟩
          have HS2 := Lib.hid (HROW.out w2 _ hT)
          have f1 : w2.cell? ⟨vb, 1, none⟩ = some (.int .i64 x) := by rw [cell_of_row _ vb 1 _ _ (0, 0) HS2.out.vb]; rfl
          have f2 : w2.cell? ⟨vb, 2, none⟩ = some (.string s) := by rw [cell_of_row _ vb 2 _ _ (0, 0) HS2.out.vb]; rfl
          have f4 : w2.cell? ⟨W.heap.size + 4, 0, none⟩ = some (.map (some (W.heap.size + 3))) := cell_of_one HS2.out.b4
          obtain ⟨w3, hput, hM, hg3⟩ := HS2.out.map.put HK.out.rises (by omega) x HX.out s HSS.out
          have HS3 := Lib.hid (HS2.out.mapped hM hg3)
          have g1 : w3.cell? ⟨vb, 1, none⟩ = some (.int .i64 x) := by rw [cell_of_row _ vb 1 _ _ (0, 0) HS3.out.vb]; rfl
          obtain ⟨KA2, kc2, w4, hr, hL, hC, hF⟩ := line_push w3 26 3 26 (.int .i64 0) 8 Try.underlying26 info_int rfl (by decide) KA kn kc _ HS3.out.keys (fun u hu => by obtain ⟨y, _, rfl⟩ := List.mem_map.1 hu; rfl) hkn1 (.int .i64 x) rfl
          have HR := Lib.hid hr
          have HS4 : Hid (SRow W w4 W.heap.size fr KA2 (kn + 1) kc2 (ks ++ [x]) (putP ltI ps x (.string s)) (putP ltI ps x (.string s)) (j + 1) vb _) := Lib.hid (HS3.out.keyed (by rw [cellsI_append]; exact hL) hC hF)
          have HK4 := Lib.hid (HK.out.put_new HX.out HH.out s)
          clear hT hM hg3 hL hC hF hr HPUT HDROP HROW
          go_wp2_with (at_builtin; refine Lib.wpList_append_run _ rfl _ _ _ _ rfl _ _ rfl rfl _ _ HR.out ?_)
          go_roundw
          case rel => exact ⟨j + 1, KA2, kc2, ks ++ [x], putP ltI ps x (.string s), vb, _, by omega, by omega, by go_num, by rw [List.length_append, HKN.out]; rfl, by rw [List.length_append, HKN.out]; exact HS4.out, HK4.out⟩
          case measure => simp [intOf]; omega
        · -- a key that isn't there is dropped
          have hm1 : (a : Int) % 2 = 1 := by omega
          go_wp2_with fail
          refine HDROP.out.mono ?_
          rintro e w2 ⟨rfl, hT⟩
          have HS2 := Lib.hid (HROW.out w2 _ hT)
          have f1 : w2.cell? ⟨vb, 1, none⟩ = some (.int .i64 x) := by rw [cell_of_row _ vb 1 _ _ (0, 0) HS2.out.vb]; rfl
          have f4 : w2.cell? ⟨W.heap.size + 4, 0, none⟩ = some (.map (some (W.heap.size + 3))) := cell_of_one HS2.out.b4
          obtain ⟨w3, hput, hM, hg3⟩ := HS2.out.map.drop HK.out.rises x HX.out 0
          have HS3 := Lib.hid (HS2.out.mapped hM hg3)
          have g1 : w3.cell? ⟨vb, 1, none⟩ = some (.int .i64 x) := by rw [cell_of_row _ vb 1 _ _ (0, 0) HS3.out.vb]; rfl
          have HRD := Lib.hid (rdrop_line w3 KA kn kc ks HS3.out.keys (by omega) x)
          have HK4 := Lib.hid (HK.out.drop x)
          clear hT hM hg3 HPUT HDROP HROW
          go_wp2_with fail
          refine HRD.out.mono ?_
          rintro e w4 ⟨⟨KA2, kc2, rfl, hL, hF⟩, hB⟩
          have HS4 : Hid (SRow W w4 W.heap.size fr KA2 (dropL ks x).length kc2 (dropL ks x) (dropP ltI ps x) (dropP ltI ps x) (j + 1) vb _) := Lib.hid (HS3.out.keyed hL (Chg.of_below hB) (fun k hk => .inr (hF k hk))|>.more)
          clear hL hF hB HRD
          go_wp2
          go_roundw
          case rel => exact ⟨j + 1, KA2, kc2, dropL ks x, dropP ltI ps x, vb, _, by omega, by omega, by go_num, rfl, HS4.out, HK4.out⟩
          case measure => simp [intOf]; omega
        · -- a key that is there
          have hm1 : (a : Int) % 2 = 0 := by omega
          go_wp2_with fail
          refine HPUT.out.mono ?_
          rintro e w2 ⟨rfl, hT⟩
          have HS2 := Lib.hid (HROW.out w2 _ hT)
          have f1 : w2.cell? ⟨vb, 1, none⟩ = some (.int .i64 x) := by rw [cell_of_row _ vb 1 _ _ (0, 0) HS2.out.vb]; rfl
          have f2 : w2.cell? ⟨vb, 2, none⟩ = some (.string s) := by rw [cell_of_row _ vb 2 _ _ (0, 0) HS2.out.vb]; rfl
          have f4 : w2.cell? ⟨W.heap.size + 4, 0, none⟩ = some (.map (some (W.heap.size + 3))) := cell_of_one HS2.out.b4
          obtain ⟨w3, hput, hM, hg3⟩ := HS2.out.map.put HK.out.rises (by omega) x HX.out s HSS.out
          have HS3 := Lib.hid (HS2.out.mapped hM hg3)
          have HK4 := Lib.hid (HK.out.put_old HX.out HH.out s)
          clear hT hM hg3 HPUT HDROP HROW
          go_wp2
          go_roundw
          case rel => exact ⟨j + 1, KA, kc, ks, putP ltI ps x (.string s), vb, _, by omega, by omega, by go_num, by rw [HKN.out], by rw [HKN.out]; exact HS3.out, HK4.out⟩
          case measure => simp [intOf]; omega
        · -- a key that is there is dropped
          have hm1 : (a : Int) % 2 = 1 := by omega
          go_wp2_with fail
          refine HDROP.out.mono ?_
          rintro e w2 ⟨rfl, hT⟩
          have HS2 := Lib.hid (HROW.out w2 _ hT)
          have f1 : w2.cell? ⟨vb, 1, none⟩ = some (.int .i64 x) := by rw [cell_of_row _ vb 1 _ _ (0, 0) HS2.out.vb]; rfl
          have f4 : w2.cell? ⟨W.heap.size + 4, 0, none⟩ = some (.map (some (W.heap.size + 3))) := cell_of_one HS2.out.b4
          obtain ⟨w3, hput, hM, hg3⟩ := HS2.out.map.drop HK.out.rises x HX.out 0
          have HS3 := Lib.hid (HS2.out.mapped hM hg3)
          have g1 : w3.cell? ⟨vb, 1, none⟩ = some (.int .i64 x) := by rw [cell_of_row _ vb 1 _ _ (0, 0) HS3.out.vb]; rfl
          have HRD := Lib.hid (rdrop_line w3 KA kn kc ks HS3.out.keys (by omega) x)
          have HK4 := Lib.hid (HK.out.drop x)
          clear hT hM hg3 HPUT HDROP HROW
          go_wp2_with fail
          refine HRD.out.mono ?_
          rintro e w4 ⟨⟨KA2, kc2, rfl, hL, hF⟩, hB⟩
          have HS4 : Hid (SRow W w4 W.heap.size fr KA2 (dropL ks x).length kc2 (dropL ks x) (dropP ltI ps x) (dropP ltI ps x) (j + 1) vb _) := Lib.hid (HS3.out.keyed hL (Chg.of_below hB) (fun k hk => .inr (hF k hk))|>.more)
          clear hL hF hB HRD
          go_wp2
          go_roundw
          case rel => exact ⟨j + 1, KA2, kc2, dropL ks x, dropP ltI ps x, vb, _, by omega, by omega, by go_num, rfl, HS4.out, HK4.out⟩
          case measure => simp [intOf]; omega
    · rcases Nat.lt_or_ge j len with hjn | hjn
      case' inl =>
        obtain rfl : j = 100 := by omega
        obtain ⟨o, ho⟩ : ∃ o, os[100]? = some o := ⟨_, List.getElem?_eq_getElem (by rw [HO.out.1]; exact hjn)⟩
        obtain ⟨g, off, rfl, hg, hcs⟩ := HO.out.2.2 (by omega)
        obtain ⟨c0, c1, c2⟩ := hcs 100 o ho
        obtain ⟨a, x, s⟩ := o
        have hlow : ∀ k, wr.cell? ⟨g, k, none⟩ = W.cell? ⟨g, k, none⟩ := fun k => HS.out.below.cell (p := ⟨g, k, none⟩) hg
        have d0 := (hlow _).trans c0
        have d1 := (hlow _).trans c1
        have d2 := (hlow _).trans c2
        simp only at d0 d1 d2
        have hjn' : (100 : Int) < (len : Int) := by omega
        have HSa := Lib.hid (HS.out.fresh (.cells #[.int .u64 (a : Int), .int .i64 x, .string s] 30 (0, 0)))
        obtain ⟨wz, hWa⟩ : ∃ wz, wr.alloc (.cells #[.int .u64 (a : Int), .int .i64 x, .string s] 30) = wz := ⟨_, rfl⟩
        rw [hWa] at HSa
        have h0 : wz.cell? ⟨W.heap.size, 0, none⟩ = some (.int .i64 fr) := cell_of_one HSa.out.b0
        obtain ⟨va2, ob2, k2, HZ⟩ : ∃ va2 ob2 k2, Hid (SRow W wz W.heap.size fr KA kn kc ks ps ps k2 va2 ob2) := ⟨_, _, _, HSa⟩
        clear c0 c1 c2 hcs hlow ho HS HSa
        go_upto_region 20 with fail
        clear d0 d1 d2 hWa
      case' inr =>
        obtain rfl : j = len := by omega
        obtain ⟨wz, rfl⟩ : ∃ wz, wz = wr := ⟨_, rfl⟩
        have h0 : wz.cell? ⟨W.heap.size, 0, none⟩ = some (.int .i64 fr) := cell_of_one HS.out.b0
        obtain ⟨va2, ob2, k2, HZ⟩ : ∃ va2 ob2 k2, Hid (SRow W wz W.heap.size fr KA kn kc ks ps ps k2 va2 ob2) := ⟨_, _, _, HS⟩
        clear HS
        go_upto_region 20 with fail
      all_goals
        have hk100 : kn ≤ 100 := by omega
        obtain ⟨A1, n1, cc1, r1, r2, r3⟩ := HZ.out.row
        obtain rfl : n1 = kn := by have h1 := r2.len; have h2 := HK.out.count; have h3 := HKN.out; omega
        have HGET := Lib.hid (rget_I wz (W.heap.size + 2) 0 A1 n1 cc1 ps ⟨cell_of_one r1, r2⟩ fr (by omega))
        clear r1 r2 r3
        obtain ⟨t0, ht0⟩ : ∃ t0 : ByteArray, (lookP ltI ps fr).getD (.string ⟨#[]⟩) = .string t0 := by
          cases h : lookP ltI ps fr with
          | none => exact ⟨_, rfl⟩
          | some u =>
            obtain ⟨s, hs⟩ := HK.out.strs _ ((look_some orders_I HK.out.rises).1 h)
            exact ⟨s, hs⟩
        rw [ht0] at HGET
        obtain ⟨bb, hbb⟩ : ∃ bb, hasP ltI ps fr = bb := ⟨_, rfl⟩
        rw [hbb] at HGET
        have HT0 := Lib.hid ht0
        have HBB := Lib.hid hbb
        clear ht0 hbb
        go_wp2_with fail
        refine HGET.out.mono ?_
        rintro e wb ⟨rfl, hB⟩
        have HB1 := Lib.hid (HZ.out.later hB)
        have hlook := HB1.out.map.look HK.out.strs HK.out.rises fr HFR.out
        rw [HT0.out, HBB.out] at hlook
        have q0 : wb.cell? ⟨W.heap.size, 0, none⟩ = some (.int .i64 fr) := cell_of_one HB1.out.b0
        have q4 : wb.cell? ⟨W.heap.size + 4, 0, none⟩ = some (.map (some (W.heap.size + 3))) := cell_of_one HB1.out.b4
        obtain ⟨A2, n2, cc2, r1, r2, r3⟩ := HB1.out.row
        obtain rfl : n2 = n1 := by have h1 := r2.len; have h2 := HK.out.count; have h3 := HKN.out; omega
        have HLEN := Lib.hid (rlen_I wb (W.heap.size + 2) 0 A2 n2 cc2 ps ⟨cell_of_one r1, r2⟩)
        obtain ⟨bl, hbl⟩ : ∃ bl, wb.heap.size = bl := ⟨_, rfl⟩
        obtain ⟨Wc, hWc⟩ : ∃ Wc, ((wb.alloc (.cells #[.int .i64 0] 3)).alloc (.cells #[.int .i64 0] 3)).alloc (.cells #[.int .i64 0] 3) = Wc := ⟨_, rfl⟩
        have hBc : Below wb.heap.size wb Wc := by rw [← hWc]; exact (((Below.refl _ wb).alloc (Nat.le_refl _) _).alloc (by simp) _).alloc (by simp; omega) _
        have hsc : Wc.heap.size = bl + 3 := by rw [← hWc, ← hbl]; simp
        have hN0 : NumAt Wc bl 0 := by
          have := heap_alloc_new wb (.cells #[.int .i64 0] 3 (0, 0))
          rw [hbl] at this
          rw [← hWc]
          exact (Below.heap_alloc _ _ _ (by simp; omega)).trans ((Below.heap_alloc _ _ _ (by simp; omega)).trans this)
        have hN1 : NumAt Wc (bl + 1) 0 := by
          have := heap_alloc_new (wb.alloc (.cells #[.int .i64 0] 3)) (.cells #[.int .i64 0] 3 (0, 0))
          rw [World.size_alloc, hbl] at this
          rw [← hWc]
          exact (Below.heap_alloc _ _ _ (by simp; omega)).trans this
        have hN2 : NumAt Wc (bl + 1 + 1) 0 := by
          have := heap_alloc_new ((wb.alloc (.cells #[.int .i64 0] 3)).alloc (.cells #[.int .i64 0] 3)) (.cells #[.int .i64 0] 3 (0, 0))
          rw [World.size_alloc, World.size_alloc, hbl] at this
          rw [← hWc]
          exact this
        have HC := Lib.hid (HB1.out.later hBc)
        have u0 := hN0.cell
        have u1 := hN1.cell
        have u2 := hN2.cell
        have x0 := hN0.free
        have x1 := hN1.free
        have x2 := hN2.free
        have z0 := setCell_self hN0
        have z1 := setCell_self hN1
        have z2 := setCell_self hN2
        have HN0 := Lib.hid hN0
        have HN1 := Lib.hid hN1
        have HN2 := Lib.hid hN2
        have HBC := Lib.hid hBc
        clear r1 r2 r3 hB HZ HGET h0 hN0 hN1 hN2 hBc
        have HBL := Lib.hid hbl
        have hbn : (bb != bb) = false := by cases bb <;> rfl
        go_wp2_with fail
        refine HLEN.out.mono ?_
        rintro e w' ⟨rfl, rfl⟩
        go_upto_region 25 with fail
        have hfin : Below Wc.heap.size Wc Wc := Below.refl _ _
        have q0 : Wc.cell? ⟨W.heap.size, 0, none⟩ = some (.int .i64 fr) := cell_of_one HC.out.b0
        have HB0 := Lib.hid HC.out.b0
        have HBW : W.heap.size < Wc.heap.size := by have := HC.out.lt4; omega
        clear u0 u1 u2 x0 x1 x2 z0 z1 z2 hlook hWc q4 HLEN
        refine wp_region_noPanic ?_
        go_region_with (first
          | (go_at_call 16; with_reducible refine (reach_box _ _).mono ?_; rintro e w1 ⟨Be, rfl, hbe, hB1, hle1⟩
             have hle1 : Wc.heap.size ≤ Be := hle1
             first
               | have hfin := hfin.trans (hB1.mono hfin.size)
               | have hfin := hfin.drew.trans (hB1.mono hfin.size)
               | have hfin := hfin.drew.drew.trans (hB1.mono hfin.size)
             have q0 : w1.cell? ⟨W.heap.size, 0, none⟩ = some (.int .i64 fr) := cell_of_one ((hfin.block _ HBW).trans HB0.out))
          | (go_at_call 17; with_reducible refine (rfrom_box _ _ _).mono ?_; rintro e w2 ⟨Bf, Bk, rfl, hbf, hbk, hB2, hle2, hle3⟩
             have hle2 : w1.heap.size ≤ Bf := hle2
             have hle3 : w1.heap.size ≤ Bk := hle3
             have hle4 := hfin.size
             first
               | have hfin := hfin.trans (hB2.mono hfin.size)
               | have hfin := hfin.drew.trans (hB2.mono hfin.size)
               | have hfin := hfin.drew.drew.trans (hB2.mono hfin.size)
             first
               | have hbe := (hB2.block Be (lt_of_block hbe)).trans hbe))
        all_goals
          refine NoPanic.normal ?_
          have HC2 := Lib.hid (HC.out.later hfin)
          have hM0 := HN0.out.below hfin
          have hM1 := HN1.out.below hfin
          have hM2 := HN2.out.below hfin
          have hs2 : bl + 3 ≤ w2.heap.size := by have := hfin.size; omega
          have hbig : W.heap.size + 5 ≤ bl := by have := HB1.out.lt4; have := HBL.out; omega
          have HBE := Lib.hid hbe
          have HBF := Lib.hid hbf
          have HBK := Lib.hid hbk
          have hn2 : n2 ≤ 100 := hk100
          have hh2 : W.heap.size + 4 < w2.heap.size := by omega
          obtain ⟨A3, n3, cc3, r1, r2, r3⟩ := HC2.out.row
          obtain rfl : n3 = n2 := by have h1 := r2.len; have h2 := HK.out.count; have h3 := HKN.out; omega
          have hb2 : bl + 3 ≤ Be ∧ bl + 3 ≤ Bf ∧ bl + 3 ≤ Bk := by omega
          have HA3 : Hid (∀ j ∈ blk A3, j < bl) := Lib.hid (by
            obtain ⟨Ax, nx, cx, e1, e2, e3⟩ := HB1.out.row
            have h1 := (hfin.block (W.heap.size + 2) (by omega)).trans ((HBC.out.block (W.heap.size + 2) (by have := HB1.out.lt4; omega)).trans e1)
            rw [r1] at h1
            cases h1
            intro j hj
            have := e2.lt' j hj
            have := HBL.out
            omega)
          have HR2 := Lib.hid r2
          have HR1 := Lib.hid r1
          have HROW : Hid (∀ W', Below w2.heap.size w2 W' → RowAtI W' (W.heap.size + 2) 0 A3 n3 cc3 ps) := Lib.hid (fun W' hb => ⟨cell_of_one ((hb.block _ (by omega)).trans r1), r2.below hb⟩)
          have HIT : Hid (∀ W1, Below w2.heap.size w2 W1 → IterOk Try.prog 52 #[.pointer (some ⟨Be, 0, none⟩)] arI 2 ps W1) := Lib.hid (fun W1 hb => each1_I W1 Be _ A3 n3 cc3 ps (cell_of_one ((hb.block _ (lt_of_block HBE.out)).trans HBE.out)) (.inr ⟨_, _, rfl, HROW.out W1 hb⟩) (by omega) HK.out.strs)
          have HL0 : Hid (Lp1 w2 bl fr [] w2) := Lib.hid ⟨Chg.refl _ _, hM0, hM1, hM2⟩
          clear r1 r2 r3 hM0 hM1 hM2 hbe hbf hbk q0 hbn
          go_wp2_with fail
          refine (wpIn_wide (n := 8)).1 ?_
          refine range_it 8 2 (by decide) 52 #[.pointer (some ⟨Be, 0, none⟩)] arI rfl iter_enters (fun _ => rfl) ps HIT.out (fun C pre w => Lp1 w2 bl fr pre w) (fun _ _ _ _ => False) (fun C xs => Lp1.steady (by omega)) (fun _ _ _ _ _ h _ => h) ?h01 ?hab1 ?hdone1 (fun _ _ _ _ _ h _ => h.elim)
          case h01 =>
            intro C W1 hC hb1
            exact ⟨Chg.of_below hb1, HL0.out.last.below hb1, HL0.out.num.below hb1, HL0.out.cnt.below hb1⟩
          case hab1 =>
            apply Exists.intro
            refine ⟨?hassign, ?hbody⟩
            case hassign =>
              intro x W K hK
              unfold arI encI
              gi_wp2
              exact hK
            case hbody =>
              intro C pre x Wr hC hCW hD1 hI hpre
              obtain ⟨x, v⟩ := x
              have hmem : (x, v) ∈ ps := hpre.subset (by simp)
              obtain ⟨s, hs⟩ := HK.out.strs _ hmem
              simp only at hs
              subst hs
              have hfx := HK.out.fits _ hmem
              have hlk := (look_some orders_I HK.out.rises).2 hmem
              have hhs : hasP ltI ps x = true := by unfold hasP; rw [hlk]; rfl
              have hnin : ∀ k, k < w2.heap.size → k < bl → Wr.heap[k]? = w2.heap[k]? := fun k h1 h2 => hI.chg.same k h1 (by simp only [List.mem_cons, List.not_mem_nil, or_false]; omega)
              have hlook := (HC2.out.map.same (w' := Wr) (hnin _ (by omega) (by omega))).look HK.out.strs HK.out.rises x hfx
              rw [hlk, hhs] at hlook
              simp only [Option.getD_some] at hlook
              have q4 : Wr.cell? ⟨W.heap.size + 4, 0, none⟩ = some (.map (some (W.heap.size + 3))) := cell_of_one ((hnin _ (by omega) (by omega)).trans HC2.out.b4)
              have q0 : Wr.cell? ⟨W.heap.size, 0, none⟩ = some (.int .i64 fr) := cell_of_one ((hnin _ (by omega) (by omega)).trans HC2.out.b0)
              have c0 := hI.last.cell
              have c1 := hI.num.cell
              have c2 := hI.cnt.cell
              have f0 := hI.last.free
              have f1 := hI.num.free
              have f2 := hI.cnt.free
              have HSTEP := Lib.hid (hI.step x (.string s) (C := C) (by omega) hC hCW)
              have hlast : 0 < pre.length → ¬ x ≤ lastK pre := fun h => lastK_lt HK.out.rises hpre h
              have hpl : pre.length ≤ 100 := by
                have h1 := hpre.length_le
                have h2 := HK.out.count
                have h3 := HKN.out
                simp only [List.length_append, List.length_cons, List.length_nil] at h1
                omega
              have hnl : notLess fr pre ≤ 100 := by
                have : notLess fr pre ≤ pre.length := List.countP_le_length
                omega
              obtain ⟨q, hq⟩ : ∃ q, pre.length = q := ⟨_, rfl⟩
              obtain ⟨r, hr⟩ : ∃ r, notLess fr pre = r := ⟨_, rfl⟩
              obtain ⟨z, hz⟩ : ∃ z, lastK pre = z := ⟨_, rfl⟩
              rw [hq] at c1 HSTEP hlast hpl
              rw [hr] at c2 HSTEP hnl
              rw [hz] at c0 hlast
              clear hmem hfx hlk hhs hnin hI hpre hq hr hz
              by_cases hfx2 : fr ≤ x
              · have HST := Lib.hid (HSTEP.out.1 hfx2)
                rcases Nat.eq_zero_or_pos q with h0 | h0
                · have h0' : ¬ (0 : Int) < (q : Int) := by omega
                  clear h0 hlast HSTEP
                  gi_wp2
                  exact HST.out
                · have h0' : (0 : Int) < (q : Int) := by omega
                  have h1' := hlast h0
                  clear h0 hlast HSTEP
                  gi_wp2
                  exact HST.out
              · have HST := Lib.hid (HSTEP.out.2 hfx2)
                rcases Nat.eq_zero_or_pos q with h0 | h0
                · have h0' : ¬ (0 : Int) < (q : Int) := by omega
                  clear h0 hlast HSTEP
                  gi_wp2
                  exact HST.out
                · have h0' : (0 : Int) < (q : Int) := by omega
                  have h1' := hlast h0
                  clear h0 hlast HSTEP
                  gi_wp2
                  exact HST.out
          case hdone1 =>
            intro C Wl hI hK
            obtain ⟨bm, hbm⟩ : ∃ bm, Wl.heap.size = bm := ⟨_, rfl⟩
            obtain ⟨W3, hW3⟩ : ∃ W3, Wl.alloc (.cells #[.int .i64 0] 3) = W3 := ⟨_, rfl⟩
            have hN3 : NumAt W3 bm 0 := by
              have := heap_alloc_new Wl (.cells #[.int .i64 0] 3 (0, 0))
              rw [hbm] at this
              rw [← hW3]
              exact this
            have hB3 : Below Wl.heap.size Wl W3 := by rw [← hW3]; exact (Below.refl _ Wl).alloc (Nat.le_refl _) _
            have hs3 : W3.heap.size = bm + 1 := by rw [← hW3, ← hbm]; simp
            have hwl := hI.chg.size
            have hbm2 : w2.heap.size ≤ bm := by omega
            have hKl := lt_of_block hK
            have HSAME : Hid (∀ k, k < w2.heap.size → (k < bl ∨ bl + 3 ≤ k) → W3.heap[k]? = w2.heap[k]?) := Lib.hid (fun k h1 h2 => (hB3.block k (by omega)).trans (hI.chg.same k h1 (by simp only [List.mem_cons, List.not_mem_nil, or_false]; omega)))
            have hK3 := (hB3.block _ hKl).trans hK
            have hnum3 := hI.num.below hB3
            have hcnt3 := hI.cnt.below hB3
            have hlast3 := hI.last.below hB3
            have hBW3 : Below W.heap.size W W3 := HC2.out.below.trans ((hI.chg.toBelow (fun k hk => by simp only [List.mem_cons, List.not_mem_nil, or_false] at hk; omega) (by omega)).trans (hB3.mono (by omega)))
            have HK3 := Lib.hid hK3
            have HNUM := Lib.hid hnum3
            have HCNT := Lib.hid hcnt3
            have HLAST := Lib.hid hlast3
            have HBW3 := Lib.hid hBW3
            have HN3 := Lib.hid hN3
            have u3 := hN3.cell
            have x3 := hN3.free
            have z3 := setCell_self hN3
            have hbef := lt_of_block HBE.out
            have hbff := lt_of_block HBF.out
            have hbkf := lt_of_block HBK.out
            have HIT2 : Hid (∀ W1, Below W3.heap.size W3 W1 → IterOk Try.prog 54 #[.pointer (some ⟨Bf, 0, none⟩), .pointer (some ⟨Bk, 0, none⟩)] arI 2 (ps.filter (fun p => !ltI p.1 fr)) W1) := Lib.hid (fun W1 hb =>
              from1_I W1 Bf Bk (W.heap.size + 2) 0 A3 n3 cc3 ps fr (cell_of_one ((hb.block _ (by omega)).trans ((HSAME.out Bf (by omega) (by omega)).trans HBF.out))) (cell_of_one ((hb.block _ (by omega)).trans ((HSAME.out Bk (by omega) (by omega)).trans HBK.out)))
                ⟨cell_of_one ((hb.block _ (by omega)).trans ((HSAME.out _ (by omega) (by omega)).trans HR1.out)), HR2.out.same (by have := hb.size; omega) (fun j hj => by have h1 := HA3.out j hj; have h2 := HR2.out.lt' j hj; exact (hb.block j (by omega)).trans (HSAME.out j h2 (by omega)))⟩ (by omega) HK.out.strs)
            have hRQ : Rises ltI (ps.filter (fun p => !ltI p.1 fr)) := List.Pairwise.filter _ HK.out.rises
            have HQL : Hid ((ps.filter (fun p => !ltI p.1 fr)).length = notLess fr ps) := Lib.hid (by unfold notLess; rw [List.countP_eq_length_filter])
            have HQM : Hid (∀ p ∈ ps.filter (fun p => !ltI p.1 fr), p ∈ ps ∧ ¬ p.1 < fr) := Lib.hid (fun p hp => by
              have := List.mem_filter.1 hp
              refine ⟨this.1, ?_⟩
              have h2 := this.2
              simp [ltI] at h2
              omega)
            obtain ⟨qs, hqs⟩ : ∃ qs, ps.filter (fun p => !ltI p.1 fr) = qs := ⟨_, rfl⟩
            rw [hqs] at HIT2 hRQ HQL HQM
            have HRQ := Lib.hid hRQ
            have hql : qs.length ≤ 100 := by
              have h1 := HQL.out
              have h2 : notLess fr ps ≤ ps.length := List.countP_le_length
              have h3 := HK.out.count
              have h4 := HKN.out
              omega
            clear hI hK hK3 hnum3 hcnt3 hlast3 hBW3 hN3 hB3 hRQ hqs
            go_upto_region 38 with fail
            go_wp2_with fail
            refine (wpIn_wide (n := 8)).1 ?_
            refine range_it 8 2 (by decide) 54 #[.pointer (some ⟨Bf, 0, none⟩), .pointer (some ⟨Bk, 0, none⟩)] arI rfl iter_enters2 (fun _ => rfl) qs HIT2.out (fun C pre w => Lp2 W3 bl bm pre w) (fun _ _ _ _ => False) (fun C xs => Lp2.steady (by omega) (by omega)) (fun _ _ _ _ _ h _ => h) ?h02 ?hab2 ?hdone2 (fun _ _ _ _ _ h _ => h.elim)
            case h02 =>
              intro C W1 hC hb1
              exact ⟨Chg.of_below hb1, ⟨_, HLAST.out.below hb1, fun h => by simp at h⟩, HN3.out.below hb1⟩
            case hab2 =>
              apply Exists.intro
              refine ⟨?hassign2, ?hbody2⟩
              case hassign2 =>
                intro x W K hK
                unfold arI encI
                gi_wp2
                exact hK
              case hbody2 =>
                intro C pre x Wr hC hCW hD1 hI hpre
                obtain ⟨x, v⟩ := x
                obtain ⟨hmem, hge⟩ := HQM.out (x, v) (hpre.subset (by simp))
                obtain ⟨s, hs⟩ := HK.out.strs _ hmem
                simp only at hs hge
                subst hs
                have hfx := HK.out.fits _ hmem
                have hlk := (look_some orders_I HK.out.rises).2 hmem
                have hhs : hasP ltI ps x = true := by unfold hasP; rw [hlk]; rfl
                have hnin : ∀ k, k < bl → Wr.heap[k]? = w2.heap[k]? := fun k h2 => (hI.chg.same k (by omega) (by simp only [List.mem_cons, List.not_mem_nil, or_false]; omega)).trans (HSAME.out k (by omega) (by omega))
                have hlook := (HC2.out.map.same (w' := Wr) (hnin _ (by omega))).look HK.out.strs HK.out.rises x hfx
                rw [hlk, hhs] at hlook
                simp only [Option.getD_some] at hlook
                have q4 : Wr.cell? ⟨W.heap.size + 4, 0, none⟩ = some (.map (some (W.heap.size + 3))) := cell_of_one ((hnin _ (by omega)).trans HC2.out.b4)
                have q0 : Wr.cell? ⟨W.heap.size, 0, none⟩ = some (.int .i64 fr) := cell_of_one ((hnin _ (by omega)).trans HC2.out.b0)
                have HSTEP := Lib.hid (hI.step x (.string s) (C := C) (by omega) (by omega) (by omega) hC hCW)
                rw [hs3] at HSTEP
                obtain ⟨hchg, ⟨z, hz0, hz1⟩, hnm⟩ := hI
                have c0 := hz0.cell
                have c1 := hnm.cell
                have f0 := hz0.free
                have f1 := hnm.free
                have hlast : 0 < pre.length → ¬ x ≤ z := fun h => by rw [hz1 h]; exact lastK_lt HRQ.out hpre h
                have hpl : pre.length ≤ 100 := by
                  have h1 := hpre.length_le
                  simp only [List.length_append, List.length_cons, List.length_nil] at h1
                  omega
                obtain ⟨q, hq⟩ : ∃ q, pre.length = q := ⟨_, rfl⟩
                rw [hq] at c1 HSTEP hlast hpl
                clear hmem hfx hlk hhs hnin hpre hq hchg hz0 hz1 hnm
                rcases Nat.eq_zero_or_pos q with h0 | h0
                · have h0' : ¬ (0 : Int) < (q : Int) := by omega
                  clear h0 hlast
                  gi_wp2
                  exact HSTEP.out
                · have h0' : (0 : Int) < (q : Int) := by omega
                  have h1' := hlast h0
                  clear h0 hlast
                  gi_wp2
                  exact HSTEP.out
            case hdone2 =>
              intro C2 Wm hI2 hK2
              have hsm := hI2.chg.size
              have hn1 : NumAt Wm (bl + 1) (n3 : Int) := by
                have h1 := HNUM.out.chg hI2.chg (by simp only [List.mem_cons, List.not_mem_nil, or_false]; omega)
                have h3 := HK.out.count
                have h4 := HKN.out
                rw [show ps.length = n3 from by omega] at h1
                exact h1
              have hn2' : NumAt Wm (bl + 1 + 1) (qs.length : Int) := by
                have h1 := HCNT.out.chg hI2.chg (by simp only [List.mem_cons, List.not_mem_nil, or_false]; omega)
                rw [← HQL.out] at h1
                exact h1
              have hn3' : NumAt Wm bm (qs.length : Int) := hI2.num
              have hK1 : Wm.heap[w2.heap.size]? = some (.deferred (some [])) := (hI2.chg.same _ (by omega) (by simp only [List.mem_cons, List.not_mem_nil, or_false]; omega)).trans HK3.out
              have hb1 : Wm.heap[W.heap.size + 1]? = some (.cells #[.bool false] 4 (0, 0)) := (hI2.chg.same _ (by omega) (by simp only [List.mem_cons, List.not_mem_nil, or_false]; omega)).trans ((HSAME.out _ (by omega) (by omega)).trans HC2.out.b1)
              have hBm : Below W.heap.size W Wm := HBW3.out.trans (hI2.chg.toBelow (fun k hk => by simp only [List.mem_cons, List.not_mem_nil, or_false] at hk; omega) (by omega))
              have c1 := hn1.cell
              have c2 := hn2'.cell
              have c3 := hn3'.cell
              obtain ⟨ql, hql2⟩ : ∃ ql, qs.length = ql := ⟨_, rfl⟩
              rw [hql2] at c2 c3
              have HK1 := Lib.hid hK1
              have HK2 := Lib.hid hK2
              have HRB := Lib.hid hb1
              have HBM := Lib.hid hBm
              clear hn1 hn2' hn3' hK1 hK2 hb1 hBm hql2 hI2 u3 x3 z3
              go_wp2_with fail
              refine (lives_any Wm).mono ?_
              rintro e Wn ⟨rfl, hBn⟩
              have hrb := (hBn.block _ (lt_of_block HRB.out)).trans HRB.out
              have hk1 := (hBn.block _ (lt_of_block HK1.out)).trans HK1.out
              have hk2 := (hBn.block _ (lt_of_block HK2.out)).trans HK2.out
              have hBn2 := HBM.out.trans (hBn.mono HBM.out.size)
              have y0 := cell_of_one hrb
              have y1 := free_of_one hrb
              obtain ⟨Wo, hWo⟩ : ∃ Wo, Wn.setCell ⟨W.heap.size + 1, 0, none⟩ (.bool true) = Wo := ⟨_, rfl⟩
              have HE1 : Hid (Wo.heap[W.heap.size + 1]? = some (.cells #[.bool true] 4 (0, 0))) := by rw [← hWo]; exact Lib.hid (one_setCell hrb)
              have HE2 : Hid (Wo.heap[w2.heap.size]? = some (.deferred (some []))) := by rw [← hWo]; exact Lib.hid ((heap_setCell_other Wn ⟨W.heap.size + 1, 0, none⟩ _ _ (by show w2.heap.size ≠ W.heap.size + 1; omega)).trans hk1)
              have HE3 : Hid (Wo.heap[W3.heap.size]? = some (.deferred (some []))) := by rw [← hWo]; exact Lib.hid ((heap_setCell_other Wn ⟨W.heap.size + 1, 0, none⟩ _ _ (by show W3.heap.size ≠ W.heap.size + 1; omega)).trans hk2)
              have HE4 : Hid (Below W.heap.size W Wo) := by rw [← hWo]; exact Lib.hid (hBn2.setCell (by show W.heap.size ≤ W.heap.size + 1; omega) _)
              rw [hs3] at HE3
              clear hBn hrb hk1 hk2 hBn2
              go_wp2
              refine ⟨by simp, .inl ⟨_, _, rfl, run_takeDeferred HE3.out, ?_⟩⟩
              refine ⟨by simp, .inl ⟨_, _, rfl, run_takeDeferred ((World.putObj_heap_other (by omega)).trans HE2.out), ?_⟩⟩
              have hb := (HE4.out.trans ((chg_putObjIt _ (bm + 1) (.deferred none)).toBelow (fun k hk => by rw [List.mem_singleton] at hk; omega) HE4.out.size))
              have hb2 := (hb.trans ((chg_putObjIt _ (w2.heap.size) (.deferred none)).toBelow (fun k hk => by rw [List.mem_singleton] at hk; omega) hb.size))
              exact ⟨_, results_cell _ _ (W.heap.size + 1) true rfl (cell_of_one ((World.putObj_heap_other (by omega)).trans ((World.putObj_heap_other (by omega)).trans HE1.out))), rfl, hb2⟩
end Go.Proofs.Ythijggnpkomdcaa
