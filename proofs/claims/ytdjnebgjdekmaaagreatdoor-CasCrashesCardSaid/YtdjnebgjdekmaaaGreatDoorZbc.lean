/- Contracts of sets.Row[string,*brazier/disk.file]: slices.Clone, tell, Each, From and their functions. -/
import Derived.Test.YtdjnebgjdekmaaaGreatDoorZar
import Derived.Test.YtdjnebgjdekmaaaGreatDoorZav
import Derived.Lib.SliceRun
set_option linter.unusedVariables false
namespace Go.Proofs.YtdjnebgjdekmaaaGreatDoor
attribute [local go_sem] Oper.semAt_some
open Go.RowKit Go.Shelf
theorem eqnil_S (w : World) (a : Option Addr) (n c n' c' : Nat) : (binOp .eql 68 (.slice a n c) (.slice none n' c')).run Tryz.prog w = .ok (.bool a.isNone) w := Lib.run_eql_slice_nil w _ _ a n c n' c' Tryz.underlying68
set_option maxRecDepth 100000 in
theorem clone_nil_S (w : World) (n c : Nat) : Calls Tryz.prog 96 #[.slice none n c] w fun e w' => e = .returned (.slice none 0 0) ∧ w = w' := by
 have q := eqnil_S
 go_enter Tryz.func96, Tryz.ntmps96
 go_wp2
 go_ret
 exact ⟨rfl, rfl⟩
set_option maxHeartbeats 800000 in
set_option maxRecDepth 100000 in
theorem clone_S (w : World) (A : Option Addr) (n c : Nat) (xs : List Value) (h : SLine 2 w A n c xs) (hn : n ≤ 1000000) (h1 : ∀ u ∈ xs, u.oneCell' = true) :
 Calls Tryz.prog 96 #[.slice A n c] w fun e w' => (∃ A' c', e = .returned (.slice A' n c') ∧ SLine 2 w' A' n c' xs ∧ ∀ k ∈ blk A', w.heap.size ≤ k) ∧ Below w.heap.size w w' := by
 cases A with
 | none =>
  have hc0 := h.2.2.2.1 rfl
  have hnc := h.2.1
  obtain rfl : n = 0 := by omega
  refine (clone_nil_S w 0 c).mono ?_
  rintro e w' ⟨rfl, rfl⟩
  have hx : xs = [] := List.eq_nil_of_length_eq_zero (by simpa using h.1)
  subst hx
  exact ⟨⟨none, 0, rfl, SLine.nil 2 w, fun k hk => by cases hk⟩, Below.refl _ _⟩
 | some ad =>
  obtain ⟨g, off, rfl, hg, hcs, hfr⟩ := h.2.2.2.2 _ rfl
  obtain ⟨W0, hW0⟩ : ∃ W0, w.alloc (.cells #[] 137) = W0 := ⟨_, rfl⟩
  have hb0 : Below w.heap.size w W0 := by rw [← hW0]; exact (Below.refl _ w).alloc (Nat.le_refl _) _
  have hs0 : W0.heap.size = w.heap.size + 1 := by rw [← hW0]; simp
  have hd : SLine 2 W0 (some ⟨w.heap.size, 0, none⟩) 0 0 [] := ⟨rfl, Nat.le_refl _, by unfold maxLen; omega, (fun e => by cases e), fun a e => by cases e; exact ⟨w.heap.size, 0, rfl, by omega, fun i hi => by omega, fun i hi => by omega⟩⟩
  have hh := h.below hb0
  have hsrc : Src Tryz.prog 2 68 (.slice (some ⟨g, off, none⟩) n c) n xs W0 := Src.ofSlice W0 Tryz.underlying68 ⟨g, off, none⟩ n c xs h.1 (fun j u hj => by
   have hadd : (⟨g, off, none⟩ : Addr).add j = ⟨g, off + j, none⟩ := by unfold Addr.add; split <;> simp_all
   have hjl := (List.getElem?_eq_some_iff.1 hj).1
   rw [hadd]
   exact ((hb0.cell (p := ⟨g, off + j, none⟩) hg).trans (hcs j (by rw [← h.1]; exact hjl))).trans hj) h1
  obtain ⟨A', c', w', hr, hl, hc, hf, hne⟩ := sline_append 2 W0 68 137 68 _ 24 Tryz.underlying68 infoP_S rfl (by decide) _ 0 0 [] hd (by omega) _ n (by omega) (fun e => by cases e) xs hsrc
  rw [Nat.zero_add] at hr hl
  rw [← hW0] at hr
  have hblk : ∀ k ∈ blk A', w.heap.size ≤ k := fun k hk => by
   rcases hf k hk with h2 | h2
   · obtain ⟨ad, ea, hb⟩ := mem_blk.1 h2
     cases ea
     rw [← hb]
     exact Nat.le_refl _
   · omega
  have hb : Below w.heap.size w w' := hb0.trans (hc.toBelow (fun k hk => by obtain ⟨ad, ea, hb⟩ := mem_blk.1 hk; cases ea; rw [← hb]; exact Nat.le_refl _) (by omega))
  have HR := Lib.hid hr
  have HL := Lib.hid (And.intro hl (And.intro hblk hb))
  clear hr hl hc hf hb hblk hd hh hsrc hb0 hcs hfr h h1 hs0 hW0
  have q := eqnil_S
  go_enter Tryz.func96, Tryz.ntmps96
  go_wp2_with (at_builtin; refine Lib.wpList_append_run _ rfl _ _ _ _ rfl _ _ rfl rfl _ _ HR.out ?_)
  go_ret
  exact ⟨⟨A', c', rfl, HL.out.1, HL.out.2.1⟩, HL.out.2.2⟩
def arS (p : ByteArray × Value) : Array Value := #[encS p.1, p.2]
set_option maxHeartbeats 2000000 in
set_option maxRecDepth 100000 in
theorem tell_S (n : Nat) (hn : 1 ≤ n) (l : Nat) (A : Option Addr) (m c : Nat) (ps : List (ByteArray × Value)) (W : World) (hG : RowG encS ltS W A m c ps) (hm : m ≤ 1000000) (hsh : ∀ p ∈ ps, ∃ a : Option Addr, p.2 = .pointer a)
 (J Jx : Nat → List (ByteArray × Value) → World → Prop) (hJ : ∀ C pre W W', J C pre W → Below W.heap.size W W' → J C pre W') (h0 : ∀ C W1, W.heap.size ≤ C → Below W.heap.size W W1 → J C [] W1)
 (hY : RoundsIt Tryz.prog arS (n - 1) l ps W.heap.size J Jx) :
 CallsIn Fence.wide n Tryz.prog 75 #[.slice A m c, .func (.yield l) #[] #[]] W fun e W' => (∃ v, e = .returned v) ∧ ∃ C, W.heap.size ≤ C ∧ (J C ps W' ∨ ∃ pre, pre <+: ps ∧ Jx C pre W') := by
 have HC := Lib.hid (clone_S W A m c _ hG.line hm (cellsP_one encS one_encS ps hG.one))
 have hlen := hG.len
 have HSH := Lib.hid hsh
 have HJ := Lib.hid hJ
 have H0 := Lib.hid h0
 have HY := Lib.hid hY
 have HLEN := Lib.hid hlen
 clear hG hsh hJ h0 hY hlen
 refine callsIn_of_wp Tryz.func75 rfl trivial ?_ rfl
 simp only [Tryz.ntmps75, List.size_toArray, List.length_cons, List.length_nil, Nat.reduceAdd, Nat.reduceSub, Array.replicate_succ, Array.replicate_zero, List.push_toArray, List.append_toArray, List.nil_append, List.cons_append]
 gi_wp2_with (refine ⟨trivial, ?_⟩; gi_at_call 96; refine (callsIn_wide.2 HC.out).mono ?_; rintro e W1 ⟨⟨A', c', rfl, hl, hf⟩, hb⟩; have HL := Lib.hid hl; have HF := Lib.hid hf; have HB := Lib.hid hb; clear hl hf hb)
 obtain ⟨C, hWC0, hA0⟩ : ∃ C, W.heap.size ≤ C ∧ (0 < m → ∃ off, A' = some ⟨C, off, none⟩ ∧ C < W1.heap.size) := by
  cases A' with
  | none =>
   refine ⟨W.heap.size, Nat.le_refl _, fun h => ?_⟩
   have h1 := HL.out.2.2.2.1 rfl
   have h2 := HL.out.2.1
   omega
  | some ad =>
   obtain ⟨g, off, rfl, hg, _⟩ := HL.out.2.2.2.2 ad rfl
   exact ⟨g, HF.out g (mem_blk.2 ⟨_, rfl, rfl⟩), fun _ => ⟨off, rfl, hg⟩⟩
 have HWC := Lib.hid hWC0
 have HA := Lib.hid hA0
 clear hWC0 hA0
 gi_loopw [9] (fun i wr => ∃ k : Nat, k ≤ m ∧ i = .int .i64 k ∧ J C (ps.take k) wr ∧ wr.heap[C]? = W1.heap[C]? ∧ (0 < m → C < wr.heap.size)) (fun i _ => m - (intOf i).toNat)
 case atStart => exact ⟨0, by omega, rfl, H0.out C W1 HWC.out HB.out, rfl, fun h => by obtain ⟨_, _, h2⟩ := HA.out h; exact h2⟩
 case round =>
  obtain ⟨k, hk, rfl, hJ, hC, hlt0⟩ := hrel
  rcases Nat.lt_or_ge k m with hkn | hkn
  · have hlt := hlt0 (by omega)
    obtain ⟨off, rfl, _⟩ := HA.out (by omega)
    clear hlt0
    obtain ⟨p, hp⟩ : ∃ p, ps[k]? = some p := ⟨_, List.getElem?_eq_getElem (by have := HLEN.out; omega)⟩
    obtain ⟨_, _, eg, _, hcs, _⟩ := HL.out.at (by omega)
    cases eg
    have hat := cellsP_at encS ps k p hp
    have hcell1 : wr.cell? ⟨C, off + k * 2, none⟩ = some (encS p.1) := ((World.cell?_of_block (w := W1) (a := ⟨C, off + k * 2, none⟩) hC).trans (hcs (k * 2) (by omega))).trans hat.1
    have hcell2 : wr.cell? ⟨C, off + k * 2 + 1, none⟩ = some p.2 := ((World.cell?_of_block (w := W1) (a := ⟨C, off + k * 2 + 1, none⟩) hC).trans (by rw [Nat.add_assoc]; exact hcs (k * 2 + 1) (by omega))).trans hat.2
    have hsp := HSH.out p (List.mem_of_getElem? hp)
    have HP := Lib.hid hp
    obtain ⟨x, v⟩ := p
    obtain ⟨a, rfl⟩ := hsp
    simp only at hcell1 hcell2
    unfold encS at hcell1
    have HT : Hid (ps.take (k + 1) = ps.take k ++ [(x, .pointer a)]) := Lib.hid (by rw [List.take_add_one, HP.out]; rfl)
    have HC2 := Lib.hid hC
    have HJ2 := Lib.hid hJ
    clear hcs hp hat hJ hC
    obtain ⟨Wa, hWa⟩ : ∃ Wa, wr.alloc (.cells #[.string x, .pointer a] 137) = Wa := ⟨_, rfl⟩
    have hbW : Below wr.heap.size wr Wa := by rw [← hWa]; exact (Below.refl _ wr).alloc (Nat.le_refl _) _
    have hsW : wr.heap.size ≤ Wa.heap.size := hbW.size
    have HCa : Hid (Wa.heap[C]? = W1.heap[C]?) := Lib.hid ((hbW.block C hlt).trans HC2.out)
    have hltW : C < Wa.heap.size := by omega
    have HJa := Lib.hid (HJ.out C _ wr Wa HJ2.out hbW)
    obtain ⟨fn, tmps, assign, body, hyl, hR⟩ := HY.out C (ps.take k) (x, .pointer a) Wa HWC.out hltW HJa.out (by rw [← HT.out]; exact List.take_prefix _ _)
    unfold arS encS at hyl
    simp only at hyl
    have HR := Lib.hid hR
    rw [← hWa] at hyl
    have HWA := Lib.hid hWa
    have hkn' : (k : Int) < (m : Int) := by omega
    have hk0 : (0 : Int) ≤ (k : Int) := by omega
    clear hR hbW hsW hWa
    gi_wp2
    rw [HWA.out]
    refine HR.out.mono ?_
    rintro e W3 (⟨rfl, hJ3, hC3, hs3⟩ | ⟨rfl, hJ3⟩)
    · have HJ3 := Lib.hid hJ3
      have HC3 := Lib.hid (hC3.trans HCa.out)
      have hlt3 : C < W3.heap.size := Nat.lt_of_lt_of_le hltW hs3
      clear hJ3 hC3 hs3 hyl
      gi_wp2
      go_roundw
      case rel => exact ⟨k + 1, by omega, by go_num, by rw [HT.out]; exact HJ3.out, HC3.out, fun _ => hlt3⟩
      case measure => simp [intOf]; omega
    · have HX : Hid (∃ pre, pre <+: ps ∧ Jx C pre W3) := Lib.hid ⟨_, by rw [← HT.out]; exact List.take_prefix _ _, hJ3⟩
      clear hJ3 hyl
      gi_wp2
      refine bodyPost_ret (results_none rfl _ _ _) rfl ?_
      exact ⟨⟨_, rfl⟩, C, HWC.out, .inr HX.out⟩
  · obtain rfl : k = m := by omega
    have HE : Hid (J C ps wr) := by rw [List.take_of_length_le (by rw [HLEN.out]; exact Nat.le_refl _)] at hJ; exact Lib.hid hJ
    clear hJ hC
    gi_wp2
    go_end0
    exact ⟨⟨_, rfl⟩, C, HWC.out, .inl HE.out⟩
theorem reach_S (w : World) (p : Option Addr) :
 Calls Tryz.prog 45 #[.pointer p] w fun e w' => e = .returned (.func (.func 74) #[] #[.pointer (some ⟨w.heap.size, 0, none⟩)]) ∧ w' = w.alloc (.cells #[.pointer p] 95) := by
 have hmf : ∀ (fn : Fn) (first cap : Array Value) (w : World), (Instr.makeFunc fn first cap).run Tryz.prog w = .ok (.func fn first cap) w := fun _ _ _ _ => rfl
 go_enter Tryz.func45, Tryz.ntmps45
 go_wp2
 go_ret
 exact ⟨rfl, rfl⟩
def RowPtS (w : World) (p : Option Addr) (A : Option Addr) (m c : Nat) (ps : List (ByteArray × Value)) : Prop := (p = none ∧ A = none ∧ m = 0 ∧ c = 0 ∧ ps = []) ∨ ∃ q o, p = some ⟨q, o, none⟩ ∧ RowAtS w q o A m c ps
theorem RowPtS.held {w : World} {p A : Option Addr} {m c : Nat} {ps : List (ByteArray × Value)} (h : RowPtS w p A m c ps) : Calls Tryz.prog 73 #[.pointer p] w fun e w' => e = .returned (.slice A m c) ∧ w = w' := by
 rcases h with ⟨rfl, rfl, rfl, rfl, rfl⟩ | ⟨q, o, rfl, h⟩
 · exact rheld_nil_S w
 · exact rheld_S w q o _ h.cell
theorem RowPtS.row {w : World} {p A : Option Addr} {m c : Nat} {ps : List (ByteArray × Value)} (h : RowPtS w p A m c ps) : RowG encS ltS w A m c ps := by
 rcases h with ⟨rfl, rfl, rfl, rfl, rfl⟩ | ⟨q, o, rfl, h⟩
 · exact RowG.nil w
 · exact h.row
set_option maxHeartbeats 800000 in
theorem each1_S (w : World) (Bx : Nat) (p A : Option Addr) (m c : Nat) (ps : List (ByteArray × Value)) (hbx : w.cell? ⟨Bx, 0, none⟩ = some (.pointer p)) (hP : RowPtS w p A m c ps) (hm : m ≤ 1000000) (hsh : ∀ p ∈ ps, ∃ a : Option Addr, p.2 = .pointer a) :
 IterOk Tryz.prog 74 #[.pointer (some ⟨Bx, 0, none⟩)] arS 2 ps w := by
 intro n hn l J Jx hJ h0 hY
 have HH := Lib.hid hP.held
 have HT := Lib.hid (tell_S (n - 1) (by omega) l A m c ps w hP.row hm hsh J Jx hJ h0 (by rw [show n - 1 - 1 = n - 2 from by omega]; exact hY))
 have hn1 : 1 ≤ n := by omega
 clear hP hJ h0 hY
 simp only [List.append_toArray, List.cons_append, List.nil_append]
 refine callsIn_of_wp Tryz.func74 rfl trivial ?_ rfl
 simp only [Tryz.ntmps74, List.size_toArray, List.length_cons, List.length_nil, Nat.reduceAdd, Nat.reduceSub, Array.replicate_succ, Array.replicate_zero, List.push_toArray, List.append_toArray, List.nil_append, List.cons_append]
 gi_wp2_with (first
  | (refine ⟨trivial, ?_⟩; gi_at_call 73; refine (callsIn_wide.2 HH.out).mono ?_; rintro e w' ⟨rfl, rfl⟩)
  | (refine ⟨trivial, ?_⟩; gi_at_call 75; refine HT.out.mono ?_; rintro e w1 ⟨⟨v, rfl⟩, hX⟩; have HX := Lib.hid hX; clear hX))
 go_end0
 exact ⟨⟨_, rfl⟩, HX.out⟩
end Go.Proofs.YtdjnebgjdekmaaaGreatDoor
