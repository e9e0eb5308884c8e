/-
  The disk's Each: names and bytes as they were when the loop began.
  A disk that there isn't.
  What a loop over a disk goes over, told of the abstract disk.
  The disk's List, told of the abstract disk.
-/
import Derived.Test.YtkjdjglknbgeaaaGreatDoorZbj
import Derived.Test.YtkjdjglknbgeaaaGreatDoorZat
import Derived.Test.YtkjdjglknbgeaaaGreatDoorZbh
import Derived.Test.YtkjdjglknbgeaaaGreatDoorZbi
import Derived.Test.YtkjdjglknbgeaaaGreatDoorZbg
namespace Go.Proofs.YtkjdjglknbgeaaaGreatDoor
open Go.RowKit Go.Shelf
attribute [local go_sem] Oper.semAt_some
set_option linter.unusedVariables false
set_option maxRecDepth 100000

theorem eachD (w : World) (p : Option Addr) :
    Calls Tryz.prog 60 #[.pointer p] w fun e w' => e = .returned (.func (.func 97) #[] #[.pointer (some ⟨w.heap.size, 0, none⟩)]) ∧ w' = w.alloc (.cells #[.pointer p] 35) := by
  have hmf : ∀ (fn : Fn) (first cap : Array Value) (w : World), (Instr.makeFunc fn first cap).run Tryz.prog w = .ok (.func fn first cap) w := fun _ _ _ _ => rfl
  go_enter Tryz.func60, Tryz.ntmps60
  go_wp2
  go_ret
  exact ⟨rfl, rfl⟩
theorem eachD_enters (args : Array Value) (w : World) : (callFunc 97 args).run Tryz.prog w = .ok (.enter 97 args) w := enters_of Tryz.func97 (by kernel_rfl) rfl args w
set_option maxHeartbeats 3200000 in
theorem eachD1 (w : World) (Bx d : Nat) (A : Option Addr) (n c : Nat) (ps : List (ByteArray × Value)) (hbx : w.cell? ⟨Bx, 0, none⟩ = some (.pointer (some ⟨d, 0, none⟩))) (h : RowAtS w d 2 A n c ps) (hn : n ≤ 90000) (zf : Value → List Int) (hfs : FilesZ w zf ps) :
    IterX Tryz.prog 97 #[.pointer (some ⟨Bx, 0, none⟩)] arS 1 (fun B C ys W => HeldX B [C] zf ps ys W ∧ (C < W.heap.size ∨ ys = [])) w := by
  intro n2 hn2 l J Jx hJ h0 hY
  have HC := Lib.hid (held_any w d A n c ps h hn zf hfs)
  have hlen := h.row.len
  have HJ := Lib.hid hJ
  have H0 := Lib.hid h0
  have HY := Lib.hid hY
  obtain ⟨m, hm⟩ : ∃ m, ps.length = m := ⟨_, rfl⟩
  have hm90 : m ≤ 90000 := by omega
  have HM := Lib.hid hm
  rw [hm] at HC
  clear h hfs hJ h0 hY hlen hm
  simp only [List.append_toArray, List.cons_append, List.nil_append]
  refine callsIn_of_wp Tryz.func97 rfl trivial ?_ rfl
  simp only [Tryz.ntmps97, List.size_toArray, List.length_cons, List.length_nil, Nat.reduceAdd, Nat.reduceSub, Array.replicate_succ, Array.replicate_zero, List.push_toArray, List.append_toArray, List.nil_append, List.cons_append]
  gi_wp2_with (refine ⟨trivial, ?_⟩; gi_at_call 98; refine (callsIn_wide.2 HC.out).mono ?_; rintro e W1 ⟨⟨A', c', xs, rfl, hl, hf, hx⟩, hb⟩; have HL := Lib.hid hl; have HF := Lib.hid hf; have HB := Lib.hid hb; have HX := Lib.hid hx; clear hl hf hb hx)
  have hxl : xs.length = m := by have := HL.out.1; rw [cellsP_length] at this; omega
  have HXL := Lib.hid hxl
  have hmc : m ≤ c' := HL.out.2.1
  obtain ⟨C, hWC0, hA0, hX0⟩ : ∃ C, w.heap.size ≤ C ∧ (0 < m → ∃ off, A' = some ⟨C, off, none⟩ ∧ C < W1.heap.size) ∧ HeldX w.heap.size [C] zf ps xs W1 ∧ (C < W1.heap.size ∨ xs = []) := by
    cases A' with
    | none =>
      have h1 := HL.out.2.2.2.1 rfl
      have h2 := HL.out.2.1
      refine ⟨w.heap.size, Nat.le_refl _, fun h => by omega, ⟨HX.out.1, fun i p hp => ?_⟩, .inr (List.eq_nil_of_length_eq_zero (by omega))⟩
      have h3 := (List.getElem?_eq_some_iff.1 hp).1
      have h4 := HM.out
      omega
    | some ad =>
      obtain ⟨g, off, rfl, hg, _⟩ := HL.out.2.2.2.2 ad rfl
      refine ⟨g, HF.out g (mem_blk.2 ⟨_, rfl, rfl⟩), fun _ => ⟨off, rfl, hg⟩, HX.out.keep (Nat.le_refl _) (fun _ _ _ _ => rfl) (fun k hk => ?_), .inl hg⟩
      rw [List.mem_singleton] at hk
      exact .inl (mem_blk.2 ⟨_, rfl, hk.symm⟩)
  have HWC := Lib.hid hWC0
  have HA := Lib.hid hA0
  have HX0 := Lib.hid hX0
  clear hWC0 hA0 hxl hX0
  gi_loopw [8] (fun i wr => ∃ k : Nat, k ≤ m ∧ i = .int .i64 k ∧ J C xs (xs.take k) wr ∧ wr.heap[C]? = W1.heap[C]? ∧ (0 < m → C < wr.heap.size)) (fun i _ => m - (intOf i).toNat)
  case atStart => exact ⟨0, by omega, rfl, H0.out C xs W1 HWC.out HB.out HX0.out, rfl, fun h => by obtain ⟨_, _, h2⟩ := HA.out h; exact h2⟩
  case round =>
    obtain ⟨k, hk, rfl, hJ, hC, hlt0⟩ := hrel
    rcases Nat.lt_or_ge k m with hkn | hkn
    · have hlt := hlt0 (by omega)
      obtain ⟨off, rfl, _⟩ := HA.out (by omega)
      clear hlt0
      obtain ⟨p, hp⟩ : ∃ p, xs[k]? = some p := ⟨_, List.getElem?_eq_getElem (by have := HXL.out; omega)⟩
      obtain ⟨q, hq⟩ : ∃ q, ps[k]? = some q := ⟨_, List.getElem?_eq_getElem (by have := HM.out; omega)⟩
      obtain ⟨FA, fc, ex, _⟩ := HX0.out.1.2 k q hq
      rw [hp] at ex
      obtain ⟨_, _, eg, _, hcs, _⟩ := HL.out.at (by omega)
      cases eg
      have hat := cellsP_at encS xs k p hp
      have hcell1 : wr.cell? ⟨C, off + k * 2, none⟩ = some (encS p.1) := ((World.cell?_of_block (w := W1) (a := ⟨C, off + k * 2, none⟩) hC).trans (hcs (k * 2) (by omega))).trans hat.1
      have hcell2 : wr.cell? ⟨C, off + k * 2 + 1, none⟩ = some p.2 := ((World.cell?_of_block (w := W1) (a := ⟨C, off + k * 2 + 1, none⟩) hC).trans (by rw [Nat.add_assoc]; exact hcs (k * 2 + 1) (by omega))).trans hat.2
      have HP := Lib.hid hp
      obtain ⟨x, v⟩ := p
      obtain ⟨qx, qv⟩ := q
      obtain ⟨fl, hfl⟩ : ∃ fl, (zf qv).length = fl := ⟨_, rfl⟩
      simp only [Option.some.injEq, Prod.mk.injEq, hfl] at ex
      obtain ⟨rfl, rfl⟩ := ex
      simp only at hcell1 hcell2
      unfold encS at hcell1
      have HT : Hid (xs.take (k + 1) = xs.take k ++ [(x, .slice FA fl fc)]) := Lib.hid (by rw [List.take_add_one, HP.out]; rfl)
      have HC2 := Lib.hid hC
      have HJ2 := Lib.hid hJ
      clear hcs hp hat hJ hC hq hfl
      obtain ⟨Wa, hWa⟩ : ∃ Wa, wr.alloc (.cells #[.string x, .slice FA fl fc] 74) = Wa := ⟨_, rfl⟩
      have hbW : Below wr.heap.size wr Wa := by rw [← hWa]; exact (Below.refl _ wr).alloc (Nat.le_refl _) _
      have hsW : wr.heap.size ≤ Wa.heap.size := hbW.size
      have HCa : Hid (Wa.heap[C]? = W1.heap[C]?) := Lib.hid ((hbW.block C hlt).trans HC2.out)
      have hltW : C < Wa.heap.size := by omega
      have HJa := Lib.hid (HJ.out C xs _ wr Wa HJ2.out hbW)
      obtain ⟨fn, tmps, assign, body, hyl, hR⟩ := HY.out C xs (xs.take k) (x, .slice FA fl fc) Wa HWC.out hltW HJa.out (by rw [← HT.out]; exact List.take_prefix _ _)
      unfold arS encS at hyl
      simp only at hyl
      have HR := Lib.hid hR
      rw [← hWa] at hyl
      have HWA := Lib.hid hWa
      have hkn' : (k : Int) < (m : Int) := by omega
      have hk0 : (0 : Int) ≤ (k : Int) := by omega
      clear hR hbW hsW hWa
      gi_wp2
      rw [HWA.out]
      refine HR.out.mono ?_
      rintro e W3 (⟨rfl, hJ3, hC3, hs3⟩ | ⟨rfl, hJ3⟩)
      · have HJ3 := Lib.hid hJ3
        have HC3 := Lib.hid (hC3.trans HCa.out)
        have hlt3 : C < W3.heap.size := Nat.lt_of_lt_of_le hltW hs3
        clear hJ3 hC3 hs3 hyl
        gi_wp2
        go_roundw
        case rel => exact ⟨k + 1, by omega, by go_num, by rw [HT.out]; exact HJ3.out, HC3.out, fun _ => hlt3⟩
        case measure => simp [intOf]; omega
      · have HX1 : Hid (∃ pre, pre <+: xs ∧ Jx C xs pre W3) := Lib.hid ⟨_, by rw [← HT.out]; exact List.take_prefix _ _, hJ3⟩
        clear hJ3 hyl
        gi_wp2
        refine bodyPost_ret (results_none rfl _ _ _) rfl ?_
        exact ⟨⟨_, rfl⟩, C, xs, HWC.out, .inr HX1.out⟩
    · obtain rfl : k = m := by omega
      have HE : Hid (J C xs xs wr) := by rw [List.take_of_length_le (by rw [HXL.out]; exact Nat.le_refl _)] at hJ; exact Lib.hid hJ
      clear hJ hC
      gi_wp2
      go_end0
      exact ⟨⟨_, rfl⟩, C, xs, HWC.out, .inl HE.out⟩
end Go.Proofs.YtkjdjglknbgeaaaGreatDoor
namespace Go.Proofs.YtkjdjglknbgeaaaGreatDoor
open Go.RowKit Go.Shelf
attribute [local go_sem] Oper.semAt_some
set_option linter.unusedVariables false
set_option maxRecDepth 100000

theorem rheld_nil (w : World) : Calls Tryz.prog 105 #[.pointer none] w fun e w' => e = .returned (.slice none 0 0) ∧ w = w' := by
  go_enter Tryz.func105, Tryz.ntmps105
  go_wp2
  go_ret
  exact ⟨rfl, rfl⟩
theorem power_nil (w : World) : Calls Tryz.prog 111 #[.pointer none] w fun e w' => e = .returned (.bool false) ∧ w = w' := by
  have h := fun w => doff_nil w
  go_enter Tryz.func111, Tryz.ntmps111
  go_wp2_with (go_at_call 52; refine (h _).mono ?_; rintro e w1 ⟨rfl, rfl⟩)
  go_ret
  exact ⟨rfl, rfl⟩
theorem begin_nil (w : World) (A : Option Addr) (n c : Nat) : Calls Tryz.prog 77 #[.pointer none, .slice A n c] w fun e w' => e = .returned (.int .i64 5) ∧ w = w' := by
  have h := fun w => power_nil w
  go_enter Tryz.func77, Tryz.ntmps77
  go_wp2_with (go_at_call 111; refine (h _).mono ?_; rintro e w1 ⟨rfl, rfl⟩)
  go_ret
  exact ⟨rfl, rfl⟩
theorem create_nil (w : World) (x : ByteArray) : Calls Tryz.prog 38 #[.pointer none, .string x] w fun e w' => e = .returned (.int .i64 5) ∧ Below w.heap.size w w' := by
  have h := fun w A n c => begin_nil w A n c
  go_enter Tryz.func38, Tryz.ntmps38
  go_wp2_with (go_at_call 77; refine (h _ _ _ _).mono ?_; rintro e w1 ⟨rfl, rfl⟩)
  go_ret
  exact ⟨rfl, (Below.refl _ w).alloc (Nat.le_refl _) _⟩
theorem syncDir_nil (w : World) : Calls Tryz.prog 56 #[.pointer none] w fun e w' => e = .returned (.int .i64 5) ∧ Below w.heap.size w w' := by
  have h := fun w A n c => begin_nil w A n c
  go_enter Tryz.func56, Tryz.ntmps56
  go_wp2_with (go_at_call 77; refine (h _ _ _ _).mono ?_; rintro e w1 ⟨rfl, rfl⟩)
  go_ret
  exact ⟨rfl, Below.refl _ w⟩
theorem clone_nil (w : World) : Calls Tryz.prog 34 #[.pointer none] w fun e w' => e = .returned (.pointer none) ∧ w = w' := by
  go_enter Tryz.func34, Tryz.ntmps34
  go_wp2
  go_ret
  exact ⟨rfl, rfl⟩
theorem crash_nil (w : World) (d : Int) (A : Option Addr) (n c : Nat) : Calls Tryz.prog 32 #[.pointer none, .agg #[.int .i64 d, .slice A n c]] w fun e w' => (∃ v, e = .returned v) ∧ Below w.heap.size w w' := by
  go_enter Tryz.func32, Tryz.ntmps32
  go_wp2
  refine bodyPost_ret (results_none rfl _ _ _) rfl ?_
  exact ⟨⟨_, rfl⟩, (Below.refl _ w).alloc (Nat.le_refl _) _⟩
theorem quota_nil (w : World) (k : Int) : Calls Tryz.prog 41 #[.pointer none, .int .i64 k] w fun e w' => (∃ v, e = .returned v) ∧ w = w' := by
  go_enter Tryz.func41, Tryz.ntmps41
  go_wp2
  go_end0
  exact ⟨⟨_, rfl⟩, rfl⟩
theorem find_nil (w : World) (k : ByteArray) : Calls Tryz.prog 110 #[.pointer none, .string k] w fun e w' => e = .returned (.tuple #[.int .i64 0, .bool false]) ∧ Below w.heap.size w w' := by
  have HH := Lib.hid (rheld_nil w)
  have HS := Lib.hid (search_S w none 0 0 [] (RowG.nil w) k (by omega))
  go_enter Tryz.func110, Tryz.ntmps110
  go_wp2_with (first
    | (go_at_call 105; refine HH.out.mono ?_; rintro e w' ⟨rfl, rfl⟩)
    | (go_at_call 139; refine HS.out.mono ?_; rintro e w' ⟨⟨i, hs, rfl⟩, hb⟩; obtain rfl : i = 0 := Nat.le_zero.1 hs.1; have HB := Lib.hid hb; clear hs hb))
  go_ret2
  exact ⟨rfl, HB.out⟩
theorem get_nil (w : World) (k : ByteArray) : Calls Tryz.prog 76 #[.pointer none, .string k] w fun e w' => e = .returned (.tuple #[.pointer none, .bool false]) ∧ Below w.heap.size w w' := by
  have HF := Lib.hid (find_nil w k)
  go_enter Tryz.func76, Tryz.ntmps76
  go_wp2_with (go_at_call 110; refine HF.out.mono ?_; rintro e w1 ⟨rfl, hb⟩; have HB := Lib.hid hb; clear hb)
  go_ret2
  exact ⟨rfl, HB.out⟩
theorem read_nil (w : World) (x : ByteArray) : Calls Tryz.prog 36 #[.pointer none, .string x] w fun e w' => e = .returned (.tuple #[.slice none 0 0, .int .i64 3]) ∧ Below w.heap.size w w' := by
  have HN := Lib.hid (dnames_nil w)
  have HGET := Lib.hid (get_nil w x)
  go_enter Tryz.func36, Tryz.ntmps36
  go_wp2_with (first
    | (go_at_call 66; refine HN.out.mono ?_; rintro e w1 ⟨rfl, rfl⟩)
    | (go_at_call 76; refine HGET.out.mono ?_; rintro e w2 ⟨rfl, hb⟩; have HB := Lib.hid hb; clear hb))
  go_ret2
  exact ⟨rfl, HB.out⟩
theorem turn_nil (w : World) (x : ByteArray) (a m : Int) : Calls Tryz.prog 37 #[.pointer none, .string x, .int .i64 a, .int .u8 m] w fun e w' => e = .returned (.bool false) ∧ Below w.heap.size w w' := by
  have HN := Lib.hid (dnames_nil w)
  have HGET := Lib.hid (get_nil w x)
  go_enter Tryz.func37, Tryz.ntmps37
  go_wp2_with (first
    | (go_at_call 66; refine HN.out.mono ?_; rintro e w1 ⟨rfl, rfl⟩)
    | (go_at_call 76; refine HGET.out.mono ?_; rintro e w2 ⟨rfl, hb⟩; have HB := Lib.hid hb; clear hb))
  go_ret
  exact ⟨rfl, HB.out⟩
theorem nil_steady (w0 : World) (b : Nat) (o : Obj) (hb : b < w0.heap.size) : SteadyIt w0.heap.size (fun W => Chg [] w0 W ∧ W.heap[b]? = some o) := fun W W' h hc => ⟨h.1.andThen hc (fun k hk => by simp only [List.mem_cons, List.not_mem_nil, or_false] at hk; omega), (hc.same b (Array.getElem?_eq_some_iff.1 h.2).1 (by simp only [List.mem_cons, List.not_mem_nil, or_false]; omega)).trans h.2⟩
set_option maxHeartbeats 3200000 in
theorem list_nil (w : World) : Calls Tryz.prog 30 #[.pointer none] w fun e w' => e = .returned (.slice none 0 0) ∧ Below w.heap.size w w' := by
  refine (callsIn_wide (n := 8)).1 ?_
  refine callsIn_of_wp_marks Tryz.func30 rfl trivial ?_ rfl
  simp only [Tryz.ntmps30, List.size_toArray, List.length_cons, List.length_nil, Nat.reduceAdd, Nat.reduceSub, Array.replicate_succ, Array.replicate_zero, List.push_toArray, List.append_toArray, List.nil_append, List.cons_append]
  refine wpIn_wide.2 ?_
  obtain ⟨hh, hhe⟩ : ∃ hh, w.heap.size = hh := ⟨_, rfl⟩
  obtain ⟨W2, hW2⟩ : ∃ W2, w.alloc (.cells #[.slice none 0 0] 57) = W2 := ⟨_, rfl⟩
  have hB2 : Below w.heap.size w W2 := by rw [← hW2]; exact (Below.refl _ w).alloc (Nat.le_refl _) _
  have hs2 : W2.heap.size = hh + 1 := by rw [← hW2, ← hhe]; simp
  have k0 : W2.heap[hh]? = some (.cells #[.slice none 0 0] 57 (0, 0)) := by
    have := heap_alloc_new w (.cells #[.slice none 0 0] 57 (0, 0))
    rw [hhe] at this
    rw [← hW2]
    exact this
  have y0 := cell_of_one k0
  have y1 := free_of_one k0
  have HK0 := Lib.hid k0
  have HB2 := Lib.hid hB2
  have HHE := Lib.hid hhe
  have HN := Lib.hid (dnames_nil W2)
  have HS2 := Lib.hid hs2
  clear k0 hB2 hs2
  go_wp2_with fail
  refine HN.out.mono ?_
  rintro e w' ⟨rfl, rfl⟩
  clear y0 y1
  go_wp2_with fail
  refine (reach_S _ _).mono ?_
  rintro e w' ⟨rfl, rfl⟩
  obtain ⟨W3, hW3⟩ : ∃ W3, W2.alloc (.cells #[.pointer none] 116) = W3 := ⟨_, rfl⟩
  have hs2 := HS2.out
  have hB3 : Below W2.heap.size W2 W3 := by rw [← hW3]; exact (Below.refl _ W2).alloc (Nat.le_refl _) _
  have hs3 : W3.heap.size = hh + 2 := by rw [← hW3]; simp [hs2]
  have hbx : W3.heap[hh + 1]? = some (.cells #[.pointer none] 116 (0, 0)) := by
    have := heap_alloc_new W2 (.cells #[.pointer none] 116 (0, 0))
    rw [hs2, hW3] at this
    exact this
  rw [hs2, hW3]
  have HBX := Lib.hid hbx
  have HB3 : Hid (Below w.heap.size w W3) := Lib.hid (HB2.out.trans (hB3.mono (by have := HB2.out.size; omega)))
  have HJ0 := Lib.hid ((hB3.block hh (by omega)).trans HK0.out)
  clear hW2 hW3 hbx hB3 HK0
  have HIT : Hid (∀ W1, Below W3.heap.size W3 W1 → IterOk Tryz.prog 103 #[.pointer (some ⟨hh + 1, 0, none⟩)] arS 2 [] W1) := Lib.hid (fun W1 hb => each1_S W1 (hh + 1) none none 0 0 [] (cell_of_one ((hb.block _ (by omega)).trans HBX.out)) (.inl ⟨rfl, rfl, rfl, rfl, rfl⟩) (by omega) (fun p hp => by cases hp))
  go_wp2_with fail
  refine (wpIn_wide (n := 8)).1 ?_
  refine range_it 8 2 (by decide) 103 #[.pointer (some ⟨hh + 1, 0, none⟩)] arS rfl eachS_enters (fun _ => rfl) [] HIT.out (fun C pre W => Chg [] W3 W ∧ W.heap[hh]? = some (.cells #[.slice none 0 0] 57 (0, 0))) (fun _ _ _ _ => False) (fun C xs => nil_steady W3 hh _ (by omega)) (fun _ _ _ _ _ h _ => h) ?h0 ?hab ?hdone (fun _ _ _ _ _ h _ => h.elim)
  case h0 =>
    intro C W1 hC hb1
    exact ⟨Chg.of_below hb1, (hb1.block _ (by omega)).trans HJ0.out⟩
  case hab =>
    apply Exists.intro
    refine ⟨?hassign, ?hbody⟩
    case hassign =>
      intro x W K hK
      unfold arS encS
      gi_wp2
      exact hK
    case hbody =>
      intro C pre x Wr hC hCW hD1 hI hpre
      exact absurd hpre.length_le (by simp)
  case hdone =>
    intro C Wl hI hK
    have y1 := cell_of_one hI.2
    have HE2 : Hid (Wl.heap[W3.heap.size]? = some (.deferred (some []))) := Lib.hid hK
    have HE4 : Hid (Below hh W3 Wl) := Lib.hid (hI.1.toBelow (fun k hk => by cases hk) (by omega))
    clear hI hK
    go_wp2_with fail
    have hcp := chg_putObjIt Wl W3.heap.size (.deferred none)
    have hsz : hh + 2 ≤ Wl.heap.size := by have := HE4.out.size; omega
    refine ⟨by simp, .inl ⟨_, _, rfl, run_takeDeferred HE2.out, ?_⟩⟩
    refine ⟨_, results_tmp rfl _ _ _, rfl, ?_⟩
    rw [HHE.out]
    have h3 := HB3.out
    rw [HHE.out] at h3
    exact h3.trans (HE4.out.trans (hcp.toBelow (fun k hk => by simp only [List.mem_cons, List.not_mem_nil, or_false] at hk; omega) (by omega)))
set_option maxHeartbeats 3200000 in
theorem used_nil (w : World) : Calls Tryz.prog 40 #[.pointer none] w fun e w' => e = .returned (.int .i64 0) ∧ Below w.heap.size w w' := by
  refine (callsIn_wide (n := 8)).1 ?_
  refine callsIn_of_wp_marks Tryz.func40 rfl trivial ?_ rfl
  simp only [Tryz.ntmps40, List.size_toArray, List.length_cons, List.length_nil, Nat.reduceAdd, Nat.reduceSub, Array.replicate_succ, Array.replicate_zero, List.push_toArray, List.append_toArray, List.nil_append, List.cons_append]
  refine wpIn_wide.2 ?_
  obtain ⟨hh, hhe⟩ : ∃ hh, w.heap.size = hh := ⟨_, rfl⟩
  obtain ⟨W2, hW2⟩ : ∃ W2, w.alloc (.cells #[.int .i64 0] 3) = W2 := ⟨_, rfl⟩
  have hB2 : Below w.heap.size w W2 := by rw [← hW2]; exact (Below.refl _ w).alloc (Nat.le_refl _) _
  have hs2 : W2.heap.size = hh + 1 := by rw [← hW2, ← hhe]; simp
  have k0 : W2.heap[hh]? = some (.cells #[.int .i64 0] 3 (0, 0)) := by
    have := heap_alloc_new w (.cells #[.int .i64 0] 3 (0, 0))
    rw [hhe] at this
    rw [← hW2]
    exact this
  have hid : W2.setCell ⟨hh, 0, none⟩ (.int .i64 0) = W2 := setCell_id k0 rfl
  have y0 := cell_of_one k0
  have y1 := free_of_one k0
  have HK0 := Lib.hid k0
  have HB2 := Lib.hid hB2
  have HHE := Lib.hid hhe
  have HN := Lib.hid (dnames_nil W2)
  have HS2 := Lib.hid hs2
  clear k0 hB2 hs2
  go_wp2_with fail
  refine HN.out.mono ?_
  rintro e w' ⟨rfl, rfl⟩
  clear y0 y1 hid
  go_wp2_with fail
  refine (reach_S _ _).mono ?_
  rintro e w' ⟨rfl, rfl⟩
  obtain ⟨W3, hW3⟩ : ∃ W3, W2.alloc (.cells #[.pointer none] 116) = W3 := ⟨_, rfl⟩
  have hs2 := HS2.out
  have hB3 : Below W2.heap.size W2 W3 := by rw [← hW3]; exact (Below.refl _ W2).alloc (Nat.le_refl _) _
  have hs3 : W3.heap.size = hh + 2 := by rw [← hW3]; simp [hs2]
  have hbx : W3.heap[hh + 1]? = some (.cells #[.pointer none] 116 (0, 0)) := by
    have := heap_alloc_new W2 (.cells #[.pointer none] 116 (0, 0))
    rw [hs2, hW3] at this
    exact this
  rw [hs2, hW3]
  have HBX := Lib.hid hbx
  have HB3 : Hid (Below w.heap.size w W3) := Lib.hid (HB2.out.trans (hB3.mono (by have := HB2.out.size; omega)))
  have HJ0 := Lib.hid ((hB3.block hh (by omega)).trans HK0.out)
  clear hW2 hW3 hbx hB3 HK0
  have HIT : Hid (∀ W1, Below W3.heap.size W3 W1 → IterOk Tryz.prog 103 #[.pointer (some ⟨hh + 1, 0, none⟩)] arS 2 [] W1) := Lib.hid (fun W1 hb => each1_S W1 (hh + 1) none none 0 0 [] (cell_of_one ((hb.block _ (by omega)).trans HBX.out)) (.inl ⟨rfl, rfl, rfl, rfl, rfl⟩) (by omega) (fun p hp => by cases hp))
  go_wp2_with fail
  refine (wpIn_wide (n := 8)).1 ?_
  refine range_it 8 2 (by decide) 103 #[.pointer (some ⟨hh + 1, 0, none⟩)] arS rfl eachS_enters (fun _ => rfl) [] HIT.out (fun C pre W => Chg [] W3 W ∧ W.heap[hh]? = some (.cells #[.int .i64 0] 3 (0, 0))) (fun _ _ _ _ => False) (fun C xs => nil_steady W3 hh _ (by omega)) (fun _ _ _ _ _ h _ => h) ?h0 ?hab ?hdone (fun _ _ _ _ _ h _ => h.elim)
  case h0 =>
    intro C W1 hC hb1
    exact ⟨Chg.of_below hb1, (hb1.block _ (by omega)).trans HJ0.out⟩
  case hab =>
    apply Exists.intro
    refine ⟨?hassign, ?hbody⟩
    case hassign =>
      intro x W K hK
      unfold arS encS
      gi_wp2
      exact hK
    case hbody =>
      intro C pre x Wr hC hCW hD1 hI hpre
      exact absurd hpre.length_le (by simp)
  case hdone =>
    intro C Wl hI hK
    have y1 := cell_of_one hI.2
    have HE2 : Hid (Wl.heap[W3.heap.size]? = some (.deferred (some []))) := Lib.hid hK
    have HE4 : Hid (Below hh W3 Wl) := Lib.hid (hI.1.toBelow (fun k hk => by cases hk) (by omega))
    clear hI hK
    go_wp2_with fail
    have hcp := chg_putObjIt Wl W3.heap.size (.deferred none)
    have hsz : hh + 2 ≤ Wl.heap.size := by have := HE4.out.size; omega
    refine ⟨by simp, .inl ⟨_, _, rfl, run_takeDeferred HE2.out, ?_⟩⟩
    refine ⟨_, results_tmp rfl _ _ _, rfl, ?_⟩
    rw [HHE.out]
    have h3 := HB3.out
    rw [HHE.out] at h3
    exact h3.trans (HE4.out.trans (hcp.toBelow (fun k hk => by simp only [List.mem_cons, List.not_mem_nil, or_false] at hk; omega) (by omega)))
end Go.Proofs.YtkjdjglknbgeaaaGreatDoor
namespace Go.Proofs.YtkjdjglknbgeaaaGreatDoor
open Go.RowKit Go.Maps
set_option linter.unusedVariables false
set_option maxRecDepth 100000

def zOf (v : Value) : Int := match v with | .int _ z => z | _ => 0
theorem zOf_cells : ∀ l : List Value, (∀ u ∈ l, ∃ z : Int, 0 ≤ z ∧ z < 256 ∧ u = .int .u8 z) → l = cellsZ (l.map zOf) ∧ ∀ z ∈ l.map zOf, 0 ≤ z ∧ z ≤ 255 := by
  intro l h
  constructor
  · unfold cellsZ
    rw [List.map_map]
    conv => lhs; rw [← List.map_id l]
    refine List.map_congr_left fun u hu => ?_
    obtain ⟨z, _, _, rfl⟩ := h u hu
    rfl
  · intro z hz
    obtain ⟨u, hu, rfl⟩ := List.mem_map.1 hz
    obtain ⟨z, h0, h1, rfl⟩ := h u hu
    exact ⟨h0, by show z ≤ 255; omega⟩
theorem FilesZ.below {w w' : World} {zf : Value → List Int} {ps : List (ByteArray × Value)} (h : FilesZ w zf ps) (hb : Below w.heap.size w w') : FilesZ w' zf ps := fun p hp => by
  obtain ⟨f, num, A, n, c, su, e, h1, h2, h3⟩ := h p hp
  exact ⟨f, num, A, n, c, su, e, h1.same (hb.block f (lt_of_block h1)), h2.below hb, h3⟩
section
variable {w W : World} {d x : Nat} {own ox : Nat → Nat} {r : RD}
theorem IsD.each (h : IsD w d own r) : ∃ (A : Option Addr) (n c : Nat) (ps : List (ByteArray × Value)) (zf : Value → List Int), RowAtS w d 2 A n c ps ∧ n ≤ 90000 ∧ FilesZ w zf ps ∧ ps.length = r.now.length ∧ ∀ p ∈ ps, hasP ltS r.now p.1 = true ∧ (r.get p.1).data = cellsZ (zf p.2) := by
  obtain ⟨_, b, F, fn, fc, RA, rn, rc, SA, sn, sc, C, cn, cc, fs, ps, ss, css, chl, nm, dt, su, H, R⟩ := h
  refine ⟨RA, rn, rc, ps, fun v => (dt v).map zOf, H.nowAt.rowAt, H.nowAt.len, fun p hp => ?_, by rw [H.rnow R]; unfold mapT; rw [List.length_map], fun p hp => ?_⟩
  · obtain ⟨f, A, n, c, ef, _, hfa, hsl, _, hn1, _⟩ := H.file p.2 (H.nin p hp)
    obtain ⟨z1, z2⟩ := zOf_cells (dt p.2) (H.bytes p.2 (H.nin p hp))
    exact ⟨f, _, A, n, c, _, ef, hfa, by rw [← z1]; exact hsl, by omega, z2⟩
  · obtain ⟨x, v⟩ := p
    have hlk : lookP ltS ps x = some v := (look_some orders_S H.nrow.rises).2 hp
    refine ⟨by rw [H.rnow R, has_tag]; unfold hasP; rw [hlk]; rfl, ?_⟩
    rw [(H.rnum R x v hlk).2]
    exact (zOf_cells (dt v) (H.bytes v (H.nin _ hp))).1
end
end Go.Proofs.YtkjdjglknbgeaaaGreatDoor
namespace Go.Proofs.YtkjdjglknbgeaaaGreatDoor
open Go.RowKit Go.Maps
set_option linter.unusedVariables false
set_option maxRecDepth 100000

theorem names_tag (nm : Value → Nat) (ps : List (ByteArray × Value)) : namesV (mapT nm ps) = namesV ps := by
  unfold namesV mapT
  rw [List.map_map]
  rfl
theorem IsD.list {w : World} {d : Nat} {own : Nat → Nat} {r : RD} (h : IsD w d own r) :
    Calls Tryz.prog 30 #[.pointer (some ⟨d, 0, none⟩)] w fun e w' => (∃ A' c', e = .returned (.slice A' r.now.length c') ∧ SLine 1 w' A' r.now.length c' (namesV r.now) ∧ ∀ k ∈ blk A', w.heap.size ≤ k) ∧ Below w.heap.size w w' := by
  obtain ⟨hF, b, F, fn, fc, RA, rn, rc, SA, sn, sc, C, cn, cc, fs, ps, ss, css, chl, nm, dt, su, H, R⟩ := h
  rw [H.rnow R, names_tag, show (mapT nm ps).length = ps.length from by unfold mapT; rw [List.length_map]]
  refine list_any w d RA rn rc ps H.nowAt.rowAt H.nowAt.len fun p hp => ?_
  obtain ⟨f, num, A, c, sure, e, _⟩ := H.filesIn p hp
  exact ⟨_, e⟩
end Go.Proofs.YtkjdjglknbgeaaaGreatDoor
