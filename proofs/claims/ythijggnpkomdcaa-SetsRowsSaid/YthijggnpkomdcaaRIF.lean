/-
  Contracts of sets.Row[int,string]: cmp.Compare, slices.BinarySearchFunc, find, held, Len, Get.
-/
import Derived.Test.YthijggnpkomdcaaRw
import Derived.Deep.LoopGhost
namespace Go.Proofs.Ythijggnpkomdcaa
open Go.RowKit
set_option linter.unusedVariables false

def encI (k : Int) : Value := .int .i64 k
theorem one_encI (k : Int) : (encI k).oneCell' = true := rfl
theorem nan_I (x : Int) (w : World) : Calls Try.prog 106 #[.int .i64 x] w fun e w' => e = .returned (.bool false) ∧ w = w' := by
  go_enter Try.func106, Try.ntmps106
  go_wp2
  go_ret
  exact ⟨rfl, rfl⟩

theorem compare_I (x y : Int) (w : World) : Calls Try.prog 86 #[.int .i64 x, .int .i64 y] w fun e w' => e = .returned (.int .i64 (cmpP ltI x y)) ∧ w = w' := by
  have hc : cmpP ltI x y = if x < y then -1 else if y < x then 1 else 0 := by unfold cmpP ltI; simp
  rw [hc]
  clear hc
  by_cases h1 : x < y
  · rw [if_pos h1]
    go_enter Try.func86, Try.ntmps86
    go_wp2_with ((with_reducible refine (nan_I _ _).mono ?_); rintro e w' ⟨rfl, rfl⟩)
    go_ret
    exact ⟨rfl, rfl⟩
  · rw [if_neg h1]
    by_cases h2 : y < x
    · rw [if_pos h2]
      go_enter Try.func86, Try.ntmps86
      go_wp2_with ((with_reducible refine (nan_I _ _).mono ?_); rintro e w' ⟨rfl, rfl⟩)
      go_ret
      exact ⟨rfl, rfl⟩
    · rw [if_neg h2]
      obtain rfl : x = y := by omega
      go_enter Try.func86, Try.ntmps86
      go_wp2_with ((with_reducible refine (nan_I _ _).mono ?_); rintro e w' ⟨rfl, rfl⟩)
      go_ret
      exact ⟨rfl, rfl⟩

theorem find1_I (x y : Int) (v : Value) (hv : v.oneCell' = true) (w : World) :
    Calls Try.prog 85 #[.agg #[.int .i64 x, v], .int .i64 y] w fun e w' => e = .returned (.int .i64 (cmpP ltI x y)) ∧ Below w.heap.size w w' := by
  go_enter Try.func85, Try.ntmps85
  go_wp2_with ((with_reducible refine (compare_I _ _ _).mono ?_); rintro e w' ⟨rfl, rfl⟩)
  go_ret
  exact ⟨rfl, (Below.refl _ w).alloc (Nat.le_refl _) _⟩

set_option maxHeartbeats 4000000 in
set_option maxRecDepth 100000 in
/-- Where a key stands is found. -/
theorem search_I (w : World) (A : Option Addr) (n c : Nat) (ps : List (Int × Value)) (h : RowG encI ltI w A n c ps) (k : Int) (hn : n ≤ 1000000) :
    Calls Try.prog 84 #[.slice A n c, .int .i64 k, .func (.func 85) #[] #[]] w fun e w' =>
      (∃ i, Spot ltI ps k i ∧ e = .returned (.tuple #[.int .i64 (i : Int), .bool (ps[i]?.any fun p => !ltI k p.1)])) ∧ Below w.heap.size w w' := by
  have hlen := h.len
  have HR := Lib.hid h
  clear h
  have hmono : Hid (∀ (a b : Nat) (p q : Int × Value), a ≤ b → ps[a]? = some p → ps[b]? = some q → ltI q.1 k = true → ltI p.1 k = true) := Lib.hid (fun a b p q hab ha hb hq => by
    rcases Nat.lt_or_ge a b with h1 | h1
    · obtain ⟨ha', ea⟩ := List.getElem?_eq_some_iff.1 ha
      obtain ⟨hb', eb⟩ := List.getElem?_eq_some_iff.1 hb
      have := (List.pairwise_iff_getElem.1 HR.out.rises) a b ha' hb' h1
      rw [ea, eb] at this
      exact orders_I.tr _ _ _ this hq
    · obtain rfl : a = b := by omega
      rw [ha] at hb
      cases hb
      exact hq)
  have HLEN := Lib.hid hlen
  clear hlen
  go_enter Try.func84, Try.ntmps84
  go_wp2
  go_loopg [9, 10] n (fun kx s9 s10 wr => ∃ lo hi : Nat, s9 = .int .i64 lo ∧ s10 = .int .i64 hi ∧ lo ≤ hi ∧ hi ≤ n ∧ hi - lo ≤ kx ∧ Hid (Below w.heap.size w wr) ∧
    Hid ((∀ j p, j < lo → ps[j]? = some p → ltI p.1 k = true) ∧ (∀ j p, hi ≤ j → ps[j]? = some p → ltI p.1 k = false)))
  case atStart => exact ⟨0, n, rfl, rfl, Nat.zero_le _, Nat.le_refl _, by omega, Lib.hid (Below.refl _ _), Lib.hid ⟨fun j p hj => absurd hj (Nat.not_lt_zero _), fun j p h1 h2 => by have := (List.getElem?_eq_some_iff.1 h2).1; have := HLEN.out; omega⟩⟩
  case round =>
    obtain ⟨lo, hi, rfl, rfl, hlh, hin, hg, HB, HI⟩ := hrel
    by_cases hlt : lo < hi
    · obtain ⟨g, off, rfl, hgl, hcs, hfr⟩ := (HR.out.below HB.out).at (by omega)
      obtain ⟨p, hp⟩ : ∃ p, ps[(lo + hi) / 2]? = some p := ⟨_, List.getElem?_eq_getElem (by have := HLEN.out; omega)⟩
      have hcell1 := (hcs _ p hp).1
      have hcell2 := (hcs _ p hp).2
      have hone := HR.out.one p (List.mem_of_getElem? hp)
      have HP := Lib.hid hp
      obtain ⟨x, v⟩ := p
      simp only at hcell1 hcell2 hone
      unfold encI at hcell1
      clear hcs hfr hp
      cases hc : ltI x k with
      | true =>
        have hcn : cmpP ltI x k < 0 := cmpP_neg.2 hc
        generalize hC : cmpP ltI x k = cc at hcn
        have HC := Lib.hid hC
        clear hC
        have HCALL := Lib.hid (fun w => by have := find1_I x k v hone w; rw [HC.out] at this; exact this)
        have HLT := Lib.hid hc
        clear hc
        go_wp2_with (go_at_call 85; refine (HCALL.out _).mono ?_; rintro e w' ⟨rfl, hb⟩; have HB2 := Lib.hid (HB.out.trans (hb.mono HB.out.size)); clear hb)
        go_roundg (hi - ((lo + hi) / 2 + 1))
        case measure => omega
        case rel =>
          exact ⟨(lo + hi) / 2 + 1, hi, by rw [show ((lo : Int) + (hi : Int)) / 2 + 1 = (((lo + hi) / 2 + 1 : Nat) : Int) by omega], rfl, by omega, hin, Nat.le_refl _, HB2, Lib.hid ⟨fun j q hj hq => hmono.out j _ q _ (by omega) hq HP.out HLT.out, HI.out.2⟩⟩
      | false =>
        have hcn : ¬ cmpP ltI x k < 0 := fun h => by have := cmpP_neg.1 h; rw [hc] at this; cases this
        generalize hC : cmpP ltI x k = cc at hcn
        have HC := Lib.hid hC
        clear hC
        have HCALL := Lib.hid (fun w => by have := find1_I x k v hone w; rw [HC.out] at this; exact this)
        have HLT := Lib.hid hc
        clear hc
        go_wp2_with (go_at_call 85; refine (HCALL.out _).mono ?_; rintro e w' ⟨rfl, hb⟩; have HB2 := Lib.hid (HB.out.trans (hb.mono HB.out.size)); clear hb)
        go_roundg ((lo + hi) / 2 - lo)
        case measure => omega
        case rel =>
          exact ⟨lo, (lo + hi) / 2, rfl, by rw [show ((lo : Int) + (hi : Int)) / 2 = (((lo + hi) / 2 : Nat) : Int) by omega], by omega, by omega, Nat.le_refl _, HB2, Lib.hid ⟨HI.out.1, fun j q hj hq => by
            cases e : ltI q.1 k with
            | false => rfl
            | true => have := hmono.out _ j _ q hj HP.out hq e; rw [HLT.out] at this; cases this⟩⟩
    · obtain rfl : hi = lo := by omega
      have HSPOT : Hid (Spot ltI ps k hi) := Lib.hid ⟨by have := HLEN.out; omega, HI.out⟩
      by_cases hn' : hi < n
      · obtain ⟨g, off, rfl, hgl, hcs, hfr⟩ := (HR.out.below HB.out).at (by omega)
        obtain ⟨p, hp⟩ : ∃ p, ps[hi]? = some p := ⟨_, List.getElem?_eq_getElem (by have := HLEN.out; omega)⟩
        have hcell1 := (hcs _ p hp).1
        have hcell2 := (hcs _ p hp).2
        have hone := HR.out.one p (List.mem_of_getElem? hp)
        have hge : ltI p.1 k = false := HI.out.2 hi p (Nat.le_refl _) hp
        have HP := Lib.hid hp
        obtain ⟨x, v⟩ := p
        simp only at hcell1 hcell2 hone hge
        unfold encI at hcell1
        clear hcs hfr hp
        have HCALL := Lib.hid (fun w => find1_I x k v hone w)
        cases hc : ltI k x with
        | true =>
          have hC : cmpP ltI x k = 1 := by unfold cmpP; simp [hge, hc]
          rw [hC] at HCALL
          have HLT := Lib.hid hc
          clear hc hC hge
          go_wp2_with (go_at_call 85; refine (HCALL.out _).mono ?_; rintro e w' ⟨rfl, hb⟩; have HB2 := Lib.hid (HB.out.trans (hb.mono HB.out.size)); clear hb)
          go_ret2
          exact ⟨⟨hi, HSPOT.out, by rw [HP.out]; simp [HLT.out]⟩, HB2.out⟩
        | false =>
          have hC : cmpP ltI x k = 0 := by unfold cmpP; simp [hge, hc]
          rw [hC] at HCALL
          have HLT := Lib.hid hc
          clear hc hC hge
          go_wp2_with (go_at_call 85; refine (HCALL.out _).mono ?_; rintro e w' ⟨rfl, hb⟩; have HB2 := Lib.hid (HB.out.trans (hb.mono HB.out.size)); clear hb)
          go_ret2
          exact ⟨⟨hi, HSPOT.out, by rw [HP.out]; simp [HLT.out]⟩, HB2.out⟩
      · go_wp2
        go_ret2
        exact ⟨⟨hi, HSPOT.out, by rw [List.getElem?_eq_none (by have := HLEN.out; omega)]; rfl⟩, HB.out⟩

/-- held, find, Len, Get of a row that lies in the cell o of block q. -/
theorem rheld_I (w : World) (q o : Nat) (v : Value) (hc : w.cell? ⟨q, o, none⟩ = some v) : Calls Try.prog 51 #[.pointer (some ⟨q, o, none⟩)] w fun e w' => e = .returned v ∧ w = w' := by
  go_enter Try.func51, Try.ntmps51
  go_wp2
  go_ret
  exact ⟨rfl, rfl⟩
theorem rheld_nil_I (w : World) : Calls Try.prog 51 #[.pointer none] w fun e w' => e = .returned (.slice none 0 0) ∧ w = w' := by
  go_enter Try.func51, Try.ntmps51
  go_wp2
  go_ret
  exact ⟨rfl, rfl⟩
/-- The row lies in the cell o of block q. -/
structure RowAtI (w : World) (q o : Nat) (A : Option Addr) (n c : Nat) (ps : List (Int × Value)) : Prop where
  cell : w.cell? ⟨q, o, none⟩ = some (.slice A n c)
  row : RowG encI ltI w A n c ps
theorem rlen_I (w : World) (q o : Nat) (A : Option Addr) (n c : Nat) (ps : List (Int × Value)) (h : RowAtI w q o A n c ps) :
    Calls Try.prog 15 #[.pointer (some ⟨q, o, none⟩)] w fun e w' => e = .returned (.int .i64 (n : Int)) ∧ w = w' := by
  have HH := Lib.hid (rheld_I w q o _ h.cell)
  clear h
  go_enter Try.func15, Try.ntmps15
  go_wp2_with (go_at_call 51; refine HH.out.mono ?_; rintro e w' ⟨rfl, rfl⟩)
  go_ret
  exact ⟨rfl, rfl⟩
theorem rfind_I (w : World) (q o : Nat) (A : Option Addr) (n c : Nat) (ps : List (Int × Value)) (h : RowAtI w q o A n c ps) (k : Int) (hn : n ≤ 1000000) :
    Calls Try.prog 48 #[.pointer (some ⟨q, o, none⟩), .int .i64 k] w fun e w' =>
      (∃ i, Spot ltI ps k i ∧ e = .returned (.tuple #[.int .i64 (i : Int), .bool (ps[i]?.any fun p => !ltI k p.1)])) ∧ Below w.heap.size w w' := by
  have HH := Lib.hid (rheld_I w q o _ h.cell)
  have HS := Lib.hid (search_I w A n c ps h.row k hn)
  clear h
  go_enter Try.func48, Try.ntmps48
  go_wp2_with (first
    | (go_at_call 51; refine HH.out.mono ?_; rintro e w' ⟨rfl, rfl⟩)
    | (go_at_call 84; refine HS.out.mono ?_; rintro e w' ⟨⟨i, hs, rfl⟩, hb⟩; have HSP := Lib.hid hs; have HB := Lib.hid hb; clear hs hb))
  go_ret2
  exact ⟨⟨i, HSP.out, rfl⟩, HB.out⟩
set_option maxHeartbeats 800000 in
theorem rget_I (w : World) (q o : Nat) (A : Option Addr) (n c : Nat) (ps : List (Int × Value)) (h : RowAtI w q o A n c ps) (k : Int) (hn : n ≤ 1000000) :
    Calls Try.prog 14 #[.pointer (some ⟨q, o, none⟩), .int .i64 k] w fun e w' => e = .returned (.tuple #[(lookP ltI ps k).getD (.string ⟨#[]⟩), .bool (hasP ltI ps k)]) ∧ Below w.heap.size w w' := by
  have HF := Lib.hid (rfind_I w q o A n c ps h k hn)
  have HR := Lib.hid h
  have hq := World.block_lt_of_cell? w _ h.cell
  clear h
  go_enter Try.func14, Try.ntmps14
  go_wp2_with fail
  refine HF.out.mono ?_
  rintro e w1 ⟨⟨i, hs, rfl⟩, hb⟩
  have HSP := Lib.hid hs
  have hb' := hb
  have HB := Lib.hid hb
  have hc1 := (hb.cell (p := ⟨q, o, none⟩) hq).trans HR.out.cell
  have HR1 := Lib.hid (HR.out.row.below hb)
  clear hs hb hb'
  rcases any_there orders_I HSP.out with ⟨ht, u, hu⟩ | ⟨ht, hn'⟩
  · have hin := (List.getElem?_eq_some_iff.1 hu).1
    have hl := HR1.out.len
    obtain ⟨g, off, rfl, hg, hcs, hfr⟩ := HR1.out.at (by omega)
    have hcell := (hcs i _ hu).2
    have hone := HR1.out.one _ (List.mem_of_getElem? hu)
    have hlook := HSP.out.look_old orders_I hu
    have HLK := Lib.hid hlook
    simp only at hcell hone
    rw [ht]
    rw [hl] at hin
    clear hcs hfr hlook ht hu hl
    go_wp2
    go_ret2
    exact ⟨by unfold hasP; rw [HLK.out]; rfl, HB.out⟩
  · have hlook := HSP.out.look_new orders_I HR.out.row.rises hn'
    have HLK := Lib.hid hlook
    rw [ht]
    clear hlook ht hn'
    go_wp2
    go_ret2
    exact ⟨by unfold hasP; rw [HLK.out]; rfl, HB.out⟩

end Go.Proofs.Ythijggnpkomdcaa
