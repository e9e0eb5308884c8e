/- Contracts of sets.Row[string,*brazier/disk.file]: cmp.Compare, slices.BinarySearchFunc, find, held, Len, Get. -/
import Derived.Test.YtdjnebgjdekmaaaGreatDoorZaf
import Derived.Deep.LoopGhost
set_option linter.unusedVariables false
namespace Go.Proofs.YtdjnebgjdekmaaaGreatDoor
open Go.RowKit
def encS (k : ByteArray) : Value := .string k
theorem one_encS (k : ByteArray) : (encS k).oneCell' = true := rfl
theorem nan_S (x : ByteArray) (w : World) : Calls Tryz.prog 111 #[.string x] w fun e w' => e = .returned (.bool false) ∧ w = w' := by
 go_enter Tryz.func111, Tryz.ntmps111
 go_wp2
 go_ret
 exact ⟨rfl, rfl⟩
theorem compare_S (x y : ByteArray) (w : World) : Calls Tryz.prog 99 #[.string x, .string y] w fun e w' => e = .returned (.int .i64 (cmpP ltS x y)) ∧ w = w' := by
 cases h1 : Op.bytesLess x.toList y.toList with
 | true =>
  have hc : cmpP ltS x y = -1 := by unfold cmpP ltS; simp [h1]
  rw [hc]
  clear hc
  go_enter Tryz.func99, Tryz.ntmps99
  go_wp2_with ((with_reducible refine (nan_S _ _).mono ?_); rintro e w' ⟨rfl, rfl⟩)
  go_ret
  exact ⟨rfl, rfl⟩
 | false =>
  cases h2 : Op.bytesLess y.toList x.toList with
  | true =>
   have hc : cmpP ltS x y = 1 := by unfold cmpP ltS; simp [h1, h2]
   have hne : (x.toList == y.toList) = false := by
    rw [beq_eq_false_iff_ne]
    intro e
    rw [e, less_irr] at h2
    cases h2
   rw [hc]
   clear hc
   go_enter Tryz.func99, Tryz.ntmps99
   go_wp2_with ((with_reducible refine (nan_S _ _).mono ?_); rintro e w' ⟨rfl, rfl⟩)
   go_ret
   exact ⟨rfl, rfl⟩
  | false =>
   obtain rfl : x = y := orders_S.tot _ _ h1 h2
   have hc : cmpP ltS x x = 0 := by unfold cmpP ltS; simp [h1]
   rw [hc]
   clear hc h2
   go_enter Tryz.func99, Tryz.ntmps99
   go_wp2_with ((with_reducible refine (nan_S _ _).mono ?_); rintro e w' ⟨rfl, rfl⟩)
   go_ret
   exact ⟨rfl, rfl⟩
theorem find1_S (x y : ByteArray) (v : Value) (hv : v.oneCell' = true) (w : World) :
 Calls Tryz.prog 98 #[.agg #[.string x, v], .string y] w fun e w' => e = .returned (.int .i64 (cmpP ltS x y)) ∧ Below w.heap.size w w' := by
 go_enter Tryz.func98, Tryz.ntmps98
 go_wp2_with ((with_reducible refine (compare_S _ _ _).mono ?_); rintro e w' ⟨rfl, rfl⟩)
 go_ret
 exact ⟨rfl, (Below.refl _ w).alloc (Nat.le_refl _) _⟩
set_option maxHeartbeats 4000000 in
set_option maxRecDepth 100000 in
theorem search_S (w : World) (A : Option Addr) (n c : Nat) (ps : List (ByteArray × Value)) (h : RowG encS ltS w A n c ps) (k : ByteArray) (hn : n ≤ 1000000) :
 Calls Tryz.prog 97 #[.slice A n c, .string k, .func (.func 98) #[] #[]] w fun e w' =>
  (∃ i, Spot ltS ps k i ∧ e = .returned (.tuple #[.int .i64 (i : Int), .bool (ps[i]?.any fun p => !ltS k p.1)])) ∧ Below w.heap.size w w' := by
 have hlen := h.len
 have HR := Lib.hid h
 clear h
 have hmono : Hid (∀ (a b : Nat) (p q : ByteArray × Value), a ≤ b → ps[a]? = some p → ps[b]? = some q → ltS q.1 k = true → ltS p.1 k = true) := Lib.hid (fun a b p q hab ha hb hq => by
  rcases Nat.lt_or_ge a b with h1 | h1
  · obtain ⟨ha', ea⟩ := List.getElem?_eq_some_iff.1 ha
    obtain ⟨hb', eb⟩ := List.getElem?_eq_some_iff.1 hb
    have := (List.pairwise_iff_getElem.1 HR.out.rises) a b ha' hb' h1
    rw [ea, eb] at this
    exact orders_S.tr _ _ _ this hq
  · obtain rfl : a = b := by omega
    rw [ha] at hb
    cases hb
    exact hq)
 have HLEN := Lib.hid hlen
 clear hlen
 go_enter Tryz.func97, Tryz.ntmps97
 go_wp2
 go_loopg [9, 10] n (fun kx s9 s10 wr => ∃ lo hi : Nat, s9 = .int .i64 lo ∧ s10 = .int .i64 hi ∧ lo ≤ hi ∧ hi ≤ n ∧ hi - lo ≤ kx ∧ Hid (Below w.heap.size w wr) ∧
  Hid ((∀ j p, j < lo → ps[j]? = some p → ltS p.1 k = true) ∧ (∀ j p, hi ≤ j → ps[j]? = some p → ltS p.1 k = false)))
 case atStart => exact ⟨0, n, rfl, rfl, Nat.zero_le _, Nat.le_refl _, by omega, Lib.hid (Below.refl _ _), Lib.hid ⟨fun j p hj => absurd hj (Nat.not_lt_zero _), fun j p h1 h2 => by have := (List.getElem?_eq_some_iff.1 h2).1; have := HLEN.out; omega⟩⟩
 case round =>
  obtain ⟨lo, hi, rfl, rfl, hlh, hin, hg, HB, HI⟩ := hrel
  by_cases hlt : lo < hi
  · obtain ⟨g, off, rfl, hgl, hcs, hfr⟩ := (HR.out.below HB.out).at (by omega)
    obtain ⟨p, hp⟩ : ∃ p, ps[(lo + hi) / 2]? = some p := ⟨_, List.getElem?_eq_getElem (by have := HLEN.out; omega)⟩
    have hcell1 := (hcs _ p hp).1
    have hcell2 := (hcs _ p hp).2
    have hone := HR.out.one p (List.mem_of_getElem? hp)
    have HP := Lib.hid hp
    obtain ⟨x, v⟩ := p
    simp only at hcell1 hcell2 hone
    unfold encS at hcell1
    clear hcs hfr hp
    cases hc : ltS x k with
    | true =>
     have hcn : cmpP ltS x k < 0 := cmpP_neg.2 hc
     generalize hC : cmpP ltS x k = cc at hcn
     have HC := Lib.hid hC
     clear hC
     have HCALL := Lib.hid (fun w => by have := find1_S x k v hone w; rw [HC.out] at this; exact this)
     have HLT := Lib.hid hc
     clear hc
     go_wp2_with (go_at_call 98; refine (HCALL.out _).mono ?_; rintro e w' ⟨rfl, hb⟩; have HB2 := Lib.hid (HB.out.trans (hb.mono HB.out.size)); clear hb)
     go_roundg (hi - ((lo + hi) / 2 + 1))
     case measure => omega
     case rel =>
      exact ⟨(lo + hi) / 2 + 1, hi, by rw [show ((lo : Int) + (hi : Int)) / 2 + 1 = (((lo + hi) / 2 + 1 : Nat) : Int) by omega], rfl, by omega, hin, Nat.le_refl _, HB2, Lib.hid ⟨fun j q hj hq => hmono.out j _ q _ (by omega) hq HP.out HLT.out, HI.out.2⟩⟩
    | false =>
     have hcn : ¬ cmpP ltS x k < 0 := fun h => by have := cmpP_neg.1 h; rw [hc] at this; cases this
     generalize hC : cmpP ltS x k = cc at hcn
     have HC := Lib.hid hC
     clear hC
     have HCALL := Lib.hid (fun w => by have := find1_S x k v hone w; rw [HC.out] at this; exact this)
     have HLT := Lib.hid hc
     clear hc
     go_wp2_with (go_at_call 98; refine (HCALL.out _).mono ?_; rintro e w' ⟨rfl, hb⟩; have HB2 := Lib.hid (HB.out.trans (hb.mono HB.out.size)); clear hb)
     go_roundg ((lo + hi) / 2 - lo)
     case measure => omega
     case rel =>
      exact ⟨lo, (lo + hi) / 2, rfl, by rw [show ((lo : Int) + (hi : Int)) / 2 = (((lo + hi) / 2 : Nat) : Int) by omega], by omega, by omega, Nat.le_refl _, HB2, Lib.hid ⟨HI.out.1, fun j q hj hq => by
       cases e : ltS q.1 k with
       | false => rfl
       | true => have := hmono.out _ j _ q hj HP.out hq e; rw [HLT.out] at this; cases this⟩⟩
  · obtain rfl : hi = lo := by omega
    have HSPOT : Hid (Spot ltS ps k hi) := Lib.hid ⟨by have := HLEN.out; omega, HI.out⟩
    by_cases hn' : hi < n
    · obtain ⟨g, off, rfl, hgl, hcs, hfr⟩ := (HR.out.below HB.out).at (by omega)
      obtain ⟨p, hp⟩ : ∃ p, ps[hi]? = some p := ⟨_, List.getElem?_eq_getElem (by have := HLEN.out; omega)⟩
      have hcell1 := (hcs _ p hp).1
      have hcell2 := (hcs _ p hp).2
      have hone := HR.out.one p (List.mem_of_getElem? hp)
      have hge : ltS p.1 k = false := HI.out.2 hi p (Nat.le_refl _) hp
      have HP := Lib.hid hp
      obtain ⟨x, v⟩ := p
      simp only at hcell1 hcell2 hone hge
      unfold encS at hcell1
      clear hcs hfr hp
      have HCALL := Lib.hid (fun w => find1_S x k v hone w)
      cases hc : ltS k x with
      | true =>
       have hC : cmpP ltS x k = 1 := by unfold cmpP; simp [hge, hc]
       rw [hC] at HCALL
       have HLT := Lib.hid hc
       clear hc hC hge
       go_wp2_with (go_at_call 98; refine (HCALL.out _).mono ?_; rintro e w' ⟨rfl, hb⟩; have HB2 := Lib.hid (HB.out.trans (hb.mono HB.out.size)); clear hb)
       go_ret2
       exact ⟨⟨hi, HSPOT.out, by rw [HP.out]; simp [HLT.out]⟩, HB2.out⟩
      | false =>
       have hC : cmpP ltS x k = 0 := by unfold cmpP; simp [hge, hc]
       rw [hC] at HCALL
       have HLT := Lib.hid hc
       clear hc hC hge
       go_wp2_with (go_at_call 98; refine (HCALL.out _).mono ?_; rintro e w' ⟨rfl, hb⟩; have HB2 := Lib.hid (HB.out.trans (hb.mono HB.out.size)); clear hb)
       go_ret2
       exact ⟨⟨hi, HSPOT.out, by rw [HP.out]; simp [HLT.out]⟩, HB2.out⟩
    · go_wp2
      go_ret2
      exact ⟨⟨hi, HSPOT.out, by rw [List.getElem?_eq_none (by have := HLEN.out; omega)]; rfl⟩, HB.out⟩
theorem rheld_S (w : World) (q o : Nat) (v : Value) (hc : w.cell? ⟨q, o, none⟩ = some v) : Calls Tryz.prog 73 #[.pointer (some ⟨q, o, none⟩)] w fun e w' => e = .returned v ∧ w = w' := by
 go_enter Tryz.func73, Tryz.ntmps73
 go_wp2
 go_ret
 exact ⟨rfl, rfl⟩
theorem rheld_nil_S (w : World) : Calls Tryz.prog 73 #[.pointer none] w fun e w' => e = .returned (.slice none 0 0) ∧ w = w' := by
 go_enter Tryz.func73, Tryz.ntmps73
 go_wp2
 go_ret
 exact ⟨rfl, rfl⟩
structure RowAtS (w : World) (q o : Nat) (A : Option Addr) (n c : Nat) (ps : List (ByteArray × Value)) : Prop where
 cell : w.cell? ⟨q, o, none⟩ = some (.slice A n c)
 row : RowG encS ltS w A n c ps
theorem rlen_S (w : World) (q o : Nat) (A : Option Addr) (n c : Nat) (ps : List (ByteArray × Value)) (h : RowAtS w q o A n c ps) :
 Calls Tryz.prog 44 #[.pointer (some ⟨q, o, none⟩)] w fun e w' => e = .returned (.int .i64 (n : Int)) ∧ w = w' := by
 have HH := Lib.hid (rheld_S w q o _ h.cell)
 clear h
 go_enter Tryz.func44, Tryz.ntmps44
 go_wp2_with (go_at_call 73; refine HH.out.mono ?_; rintro e w' ⟨rfl, rfl⟩)
 go_ret
 exact ⟨rfl, rfl⟩
theorem rfind_S (w : World) (q o : Nat) (A : Option Addr) (n c : Nat) (ps : List (ByteArray × Value)) (h : RowAtS w q o A n c ps) (k : ByteArray) (hn : n ≤ 1000000) :
 Calls Tryz.prog 76 #[.pointer (some ⟨q, o, none⟩), .string k] w fun e w' =>
  (∃ i, Spot ltS ps k i ∧ e = .returned (.tuple #[.int .i64 (i : Int), .bool (ps[i]?.any fun p => !ltS k p.1)])) ∧ Below w.heap.size w w' := by
 have HH := Lib.hid (rheld_S w q o _ h.cell)
 have HS := Lib.hid (search_S w A n c ps h.row k hn)
 clear h
 go_enter Tryz.func76, Tryz.ntmps76
 go_wp2_with (first
  | (go_at_call 73; refine HH.out.mono ?_; rintro e w' ⟨rfl, rfl⟩)
  | (go_at_call 97; refine HS.out.mono ?_; rintro e w' ⟨⟨i, hs, rfl⟩, hb⟩; have HSP := Lib.hid hs; have HB := Lib.hid hb; clear hs hb))
 go_ret2
 exact ⟨⟨i, HSP.out, rfl⟩, HB.out⟩
set_option maxHeartbeats 800000 in
theorem rget_S (w : World) (q o : Nat) (A : Option Addr) (n c : Nat) (ps : List (ByteArray × Value)) (h : RowAtS w q o A n c ps) (k : ByteArray) (hn : n ≤ 1000000) :
 Calls Tryz.prog 46 #[.pointer (some ⟨q, o, none⟩), .string k] w fun e w' => e = .returned (.tuple #[(lookP ltS ps k).getD (.pointer none), .bool (hasP ltS ps k)]) ∧ Below w.heap.size w w' := by
 have HF := Lib.hid (rfind_S w q o A n c ps h k hn)
 have HR := Lib.hid h
 have hq := World.block_lt_of_cell? w _ h.cell
 clear h
 go_enter Tryz.func46, Tryz.ntmps46
 go_wp2_with fail
 refine HF.out.mono ?_
 rintro e w1 ⟨⟨i, hs, rfl⟩, hb⟩
 have HSP := Lib.hid hs
 have hb' := hb
 have HB := Lib.hid hb
 have hc1 := (hb.cell (p := ⟨q, o, none⟩) hq).trans HR.out.cell
 have HR1 := Lib.hid (HR.out.row.below hb)
 clear hs hb hb'
 rcases any_there orders_S HSP.out with ⟨ht, u, hu⟩ | ⟨ht, hn'⟩
 · have hin := (List.getElem?_eq_some_iff.1 hu).1
   have hl := HR1.out.len
   obtain ⟨g, off, rfl, hg, hcs, hfr⟩ := HR1.out.at (by omega)
   have hcell := (hcs i _ hu).2
   have hone := HR1.out.one _ (List.mem_of_getElem? hu)
   have hlook := HSP.out.look_old orders_S hu
   have HLK := Lib.hid hlook
   simp only at hcell hone
   rw [ht]
   rw [hl] at hin
   clear hcs hfr hlook ht hu hl
   go_wp2
   go_ret2
   exact ⟨by unfold hasP; rw [HLK.out]; rfl, HB.out⟩
 · have hlook := HSP.out.look_new orders_S HR.out.row.rises hn'
   have HLK := Lib.hid hlook
   rw [ht]
   clear hlook ht hn'
   go_wp2
   go_ret2
   exact ⟨by unfold hasP; rw [HLK.out]; rfl, HB.out⟩
end Go.Proofs.YtdjnebgjdekmaaaGreatDoor
