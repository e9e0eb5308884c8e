/-
  The contract of layer 7's All.
-/
import Derived.Test.YtkpgkobhnldhpaaDoorLxP
import Derived.Laws.Rows
namespace Go.Proofs.YtkpgkobhnldhpaaDoor
open Go.RowKit
set_option linter.unusedVariables false
set_option maxRecDepth 100000

/-- What All answers of a text s. -/
def AllRes (s : ByteArray) (w : World) (e : Ending) (w' : World) : Res → Prop
  | .ok ts => ∃ A c, e = .returned (.tuple #[.slice A ts.length c, .int .i64 0, .agg #[.int .i64 0, .int .i64 0, .int .i64 0]]) ∧ SLine 6 w' A ts.length c (toksC s.data.toList ts) ∧ (∀ k ∈ blk A, w.heap.size ≤ k) ∧ Below w.heap.size w w'
  | .bad er o => e = .returned (.tuple #[.slice none 0 0, .int .i64 (er : Int), placeV s.data.toList o]) ∧ Below w.heap.size w w'
def AllOut (s : ByteArray) (w : World) (e : Ending) (w' : World) : Prop := AllRes s w e w' (allN s.data.toList)
theorem AllOut.bad {s : ByteArray} {w w' : World} {er o : Nat} (h : allN s.data.toList = .bad er o) (hb : Below w.heap.size w w') : AllOut s w (.returned (.tuple #[.slice none 0 0, .int .i64 (er : Int), placeV s.data.toList o])) w' := by
  unfold AllOut; rw [h]; exact ⟨rfl, hb⟩
theorem AllOut.ok {s : ByteArray} {w w' : World} {ts : List Tok} {A : Option Addr} {c : Nat} (h : allN s.data.toList = .ok ts) (hl : SLine 6 w' A ts.length c (toksC s.data.toList ts)) (hA : ∀ k ∈ blk A, w.heap.size ≤ k) (hb : Below w.heap.size w w') : AllOut s w (.returned (.tuple #[.slice A ts.length c, .int .i64 0, .agg #[.int .i64 0, .int .i64 0, .int .i64 0]])) w' := by
  unfold AllOut; rw [h]; exact ⟨A, c, rfl, hl, hA, hb⟩
/-- What is so at the head of All's loop: q bytes were read, the tokens ts collected. -/
structure AtHead (s : ByteArray) (w wr : World) (q : Nat) (ts : List Tok) (A : Option Addr) (c : Nat) : Prop where
  rd : IsRd wr (w.heap.size + 1) s q
  box : wr.heap[w.heap.size]? = some (.cells #[.int .i64 0, .int .i64 0, .int .i64 0] 26 (0, 0))
  line : SLine 6 wr A ts.length c (toksC s.data.toList ts)
  apart : ∀ k ∈ blk A, w.heap.size + 1 < k
  below : Below w.heap.size w wr
  res : allN s.data.toList = (allAt (s.data.toList.drop q) q).pre ts
  few : ts.length ≤ q
theorem place_facts {w : World} {b k : Nat} {s : ByteArray} (h : IsRd w b s k) : ∃ x y z : Int, w.cell? ⟨b, 0, none⟩ = some (.int .i64 x) ∧ w.cell? ⟨b, 1, none⟩ = some (.int .i64 y) ∧ w.cell? ⟨b, 2, none⟩ = some (.int .i64 z) ∧ placeV s.data.toList k = .agg #[.int .i64 x, .int .i64 y, .int .i64 z] ∧ offZ k = .int .i64 x ∧ lineZ s.data.toList k = .int .i64 y ∧ colZ s.data.toList k = .int .i64 z := ⟨_, _, _, h.off, h.line, h.col, rfl, rfl, rfl, rfl⟩
theorem box_facts {w : World} {b : Nat} {x y z : Value} {t : TypeId} (h : w.heap[b]? = some (.cells #[x, y, z] t (0, 0))) : (w.cell? ⟨b, 0, none⟩ = some x ∧ w.cell? ⟨b, 1, none⟩ = some y ∧ w.cell? ⟨b, 2, none⟩ = some z) ∧ w.frozen? ⟨b, 0, none⟩ = false ∧ w.frozen? ⟨b, 1, none⟩ = false ∧ w.frozen? ⟨b, 2, none⟩ = false := by
  refine ⟨⟨?_, ?_, ?_⟩, ?_, ?_, ?_⟩
  · rw [cell_of_row _ b 0 _ t (0, 0) h]; rfl
  · rw [cell_of_row _ b 1 _ t (0, 0) h]; rfl
  · rw [cell_of_row _ b 2 _ t (0, 0) h]; rfl
  · exact frozen_of_row _ b 0 _ t h
  · exact frozen_of_row _ b 1 _ t h
  · exact frozen_of_row _ b 2 _ t h
theorem below_three {B : Nat} {w W1 : World} (h : Below B w W1) (b : Nat) (hb : B ≤ b) (v0 v1 v2 : Value) : Below B w (((W1.setCell ⟨b, 0, none⟩ v0).setCell ⟨b, 1, none⟩ v1).setCell ⟨b, 2, none⟩ v2) :=
  ((h.setCell hb v0).setCell hb v1).setCell hb v2
set_option maxHeartbeats 2000000 in
theorem all_any (s : ByteArray) (hs : s.size ≤ 4000000000) (w : World) (hL : Laid w) : Calls Tryd.prog 11 #[.string s] w (AllOut s w) := by
  by_cases hbig : 65536 < s.size
  · have HA : Hid (allN s.data.toList = .bad 2 0) := Lib.hid (by unfold allN; rw [if_pos (by rw [ba_length]; exact hbig)])
    have HV : Hid (placeV s.data.toList 0 = .agg #[.int .i64 0, .int .i64 1, .int .i64 1]) := Lib.hid rfl
    go_enter Tryd.func11, Tryd.ntmps11
    go_wp2_with (go_at_call 22; refine (open_any _ _).mono ?_; rintro e w' ⟨rfl, rfl⟩)
    go_region
    all_goals
      go_wp2
      exact bodyPost_ret (v := .tuple #[.slice none 0 0, .int .i64 2, .agg #[.int .i64 0, .int .i64 1, .int .i64 1]]) (by simp [results, Tryd.results11, go_sem]) rfl (by
        rw [← HV.out]
        exact AllOut.bad HA.out ((((Below.refl _ _).alloc (Nat.le_refl _) _).alloc (by simp) _).drew))
  have HA : Hid (allN s.data.toList = allAt s.data.toList 0) := Lib.hid (by unfold allN; rw [if_neg (by rw [ba_length]; exact hbig)])
  have HL := Lib.hid hL
  clear hL
  go_enter Tryd.func11, Tryd.ntmps11
  go_wp2_with (go_at_call 22; refine (open_any _ _).mono ?_; rintro e w' ⟨rfl, rfl⟩)
  go_loopg [6] (s.size + 1) (fun kx v wr => ∃ (q : Nat) (ts : List Tok) (A : Option Addr) (c : Nat), v = .slice A ts.length c ∧ Hid (AtHead s w wr q ts A c) ∧ s.size - q + 1 ≤ kx)
  case atStart =>
    have hb0 : Below w.heap.size w (w.alloc (.cells #[.int .i64 0, .int .i64 0, .int .i64 0] 26)) := (Below.refl _ _).alloc (Nat.le_refl _) _
    have hr := IsRd.new s (w.alloc (.cells #[.int .i64 0, .int .i64 0, .int .i64 0] 26))
    rw [show (w.alloc (.cells #[.int .i64 0, .int .i64 0, .int .i64 0] 26)).heap.size = w.heap.size + 1 by simp] at hr
    refine ⟨0, [], none, 0, rfl, Lib.hid ⟨hr, ?_, SLine.nil 6 _, (fun k hk => by cases hk), hb0.alloc (by simp) _, ?_, Nat.le_refl _⟩, Nat.le_refl _⟩
    · have h1 := heap_alloc_new w (.cells #[.int .i64 0, .int .i64 0, .int .i64 0] 26)
      have h2 : Below (w.heap.size + 1) (w.alloc (.cells #[.int .i64 0, .int .i64 0, .int .i64 0] 26)) ((w.alloc (.cells #[.int .i64 0, .int .i64 0, .int .i64 0] 26)).alloc (.cells #[.int .i64 0, .int .i64 1, .int .i64 1, .string s] 49)) := (Below.refl _ _).alloc (by simp) _
      rw [h2.block _ (Nat.lt_succ_self _)]
      exact h1
    · rw [HA.out, Res.pre_nil, List.drop_zero]
  case round =>
    obtain ⟨q, ts, A, c, rfl, HI, hm⟩ := hrel
    have HP := Lib.hid (pass_any w wr (w.heap.size + 1) q s hs HI.out.rd HL.out HI.out.below (Nat.le_succ _))
    cases hsk : (skipN (s.data.toList.drop q)).2 with
    | false =>
      have hn := skipN_bad _ hsk
      rw [List.length_drop, ba_length] at hn
      have HR : Hid (allN s.data.toList = .bad 12 s.size) := Lib.hid (by
        rw [HI.out.res, allAt_bad _ _ hsk, List.length_drop, ba_length]
        have := HI.out.rd.le
        show Res.bad 12 _ = _
        congr 1
        omega)
      have hq : q + (s.size - q) = s.size := by have := HI.out.rd.le; omega
      rw [hsk, hn, hq] at HP
      clear hsk hn hq
      go_wp2_with fail
      refine HP.out.mono ?_
      rintro e W1 ⟨rfl, hr1, hc1⟩
      have hbox := (hc1.same w.heap.size (lt_of_block HI.out.box) (by simp)).trans HI.out.box
      obtain ⟨x, y, z, p0, p1, p2, hv, _⟩ := place_facts hr1
      obtain ⟨⟨b0, b1, b2⟩, b3, b4, b5⟩ := box_facts hbox
      have HB : Hid (Below w.heap.size w W1) := Lib.hid (HI.out.below.trans (hc1.toBelow (fun k hk => by simp only [List.mem_singleton] at hk; omega) HI.out.below.size))
      have HV := Lib.hid hv
      clear hr1 hc1 hbox HI hv
      go_wp2_with fail
      go_region
      all_goals
        go_wp2
        exact bodyPost_ret (v := .tuple #[.slice none 0 0, .int .i64 12, .agg #[.int .i64 x, .int .i64 y, .int .i64 z]]) (by simp [results, Tryd.results11, go_sem, *]) rfl (by
          rw [← HV.out]
          exact AllOut.bad HR.out (below_three HB.out.drew _ (Nat.le_refl _) _ _ _))
    | true =>
      have hle := skipN_le (s.data.toList.drop q)
      rw [List.length_drop, ba_length] at hle
      have hqs := HI.out.rd.le
      have hend := fun (h : (skipN (s.data.toList.drop q)).1 = s.size - q) => allAt_end (s.data.toList.drop q) q hsk (by rw [List.length_drop, ba_length]; exact h)
      have hlt := fun (h : (skipN (s.data.toList.drop q)).1 < s.size - q) => allAt_err (s.data.toList.drop q) q hsk (by rw [List.length_drop, ba_length]; exact h)
      have htk := fun (h : (skipN (s.data.toList.drop q)).1 < s.size - q) => allAt_tok (s.data.toList.drop q) q hsk (by rw [List.length_drop, ba_length]; exact h)
      rw [hsk] at HP
      rw [List.drop_drop] at hlt htk
      obtain ⟨n, hn⟩ : ∃ n, (skipN (s.data.toList.drop q)).1 = n := ⟨_, rfl⟩
      rw [hn] at HP hle hend hlt htk
      obtain ⟨q1, hq1⟩ : ∃ q1, q + n = q1 := ⟨_, rfl⟩
      rw [hq1] at HP hlt htk
      have HEND := Lib.hid hend
      have HLT := Lib.hid hlt
      have HTK := Lib.hid htk
      have HQ := Lib.hid hq1
      have hqle : q1 ≤ s.size := by omega
      clear hend hlt htk hn hsk
      go_wp2_with fail
      refine HP.out.mono ?_
      rintro e W1 ⟨rfl, hr1, hc1⟩
      have hbox := (hc1.same w.heap.size (lt_of_block HI.out.box) (by simp)).trans HI.out.box
      have HB1 : Hid (Below w.heap.size w W1) := Lib.hid (HI.out.below.trans (hc1.toBelow (fun k hk => by simp only [List.mem_singleton] at hk; omega) HI.out.below.size))
      have hline := HI.out.line.chg hc1 (fun k hk => by have := HI.out.apart k hk; simp; omega)
      have HX := Lib.hid (And.intro hr1 (And.intro hbox (And.intro hline (And.intro HI.out.apart (And.intro HI.out.res HI.out.few)))))
      have HR1 := Lib.hid (rest_any W1 (w.heap.size + 1) q1 s hs hr1)
      have HR2 := Lib.hid (rest_any W1.drew (w.heap.size + 1) q1 s hs hr1.drew)
      clear hr1 hc1 hbox hline HI HP
      by_cases hfin : q1 = s.size
      · have e1 : (s.extract q1 s.size).toList.isEmpty = true := by rw [ba_toList, Lib.extract_to_end, hfin]; simp
        have e2 : (s.extract q1 s.size).toList = [] := by rw [ba_toList, Lib.extract_to_end, hfin]; simp
        have HF : Hid (allN s.data.toList = .ok ts) := Lib.hid (by rw [HX.out.2.2.2.2.1, HEND.out (by omega)]; simp [Res.pre])
        obtain ⟨⟨b0, b1, b2⟩, b3, b4, b5⟩ := box_facts HX.out.2.1
        clear hfin
        generalize s.extract q1 s.size = t at *
        go_wp2_with (first | ((with_reducible refine HR1.out.mono ?_); rintro e w' ⟨rfl, rfl⟩))
        exact bodyPost_ret (v := .tuple #[.slice A ts.length c, .int .i64 0, .agg #[.int .i64 0, .int .i64 0, .int .i64 0]]) (by simp [results, Tryd.results11, go_sem, *]) rfl (by
          have hc : Chg [w.heap.size] W1 (((W1.drew.setCell ⟨w.heap.size, 0, none⟩ (.int .i64 0)).setCell ⟨w.heap.size, 1, none⟩ (.int .i64 0)).setCell ⟨w.heap.size, 2, none⟩ (.int .i64 0)) := (((Chg.refl _ _).drew.setCell _ _ _ (.inl (by simp))).setCell _ _ _ (.inl (by simp))).setCell _ _ _ (.inl (by simp))
          exact AllOut.ok HF.out (HX.out.2.2.1.chg hc (fun k hk => by have := HX.out.2.2.2.1 k hk; simp; omega)) (fun k hk => by have := HX.out.2.2.2.1 k hk; omega) (HB1.out.trans (hc.toBelow (fun k hk => by simp only [List.mem_singleton] at hk; omega) HB1.out.size)))
      · have hts : (s.extract q1 s.size).size = s.size - q1 := by rw [ByteArray.size_extract]; omega
        have hl1 := Lib.extract_to_end s q1
        have ht0 : 0 < (s.extract q1 s.size).size := by omega
        have hcut := cut_any (s.extract q1 s.size) (by omega) ht0 W1.drew.drew (HL.out.below HB1.out.drew.drew)
        have hpc := fun n => strL_piece s q1 n
        have e1 : (s.extract q1 s.size).toList.isEmpty = false := by
          rw [ba_toList]
          cases hq : (s.extract q1 s.size).data.toList with
          | nil => rw [← ba_length, hq] at ht0; exact absurd ht0 (Nat.lt_irrefl _)
          | cons => rfl
        have HLT2 := Lib.hid (HLT.out (by have := HQ.out; omega))
        have HTK2 := Lib.hid (HTK.out (by have := HQ.out; omega))
        unfold CutOut at hcut
        rw [hl1] at hcut
        have hcl := cutN_len (s.data.toList.drop q1) (fun e => by have := congrArg List.length e; rw [List.length_drop, ba_length] at this; simp at this; omega)
        rw [List.length_drop, ba_length] at hcl
        have HCL := Lib.hid hcl
        have HPC := Lib.hid hpc
        have HCUT := Lib.hid hcut
        have hq1s : q1 < s.size := by omega
        clear hl1 hts hcut hcl hpc hfin HLT HTK HEND ht0
        generalize s.extract q1 s.size = t at *
        generalize cutN (s.data.toList.drop q1) = cc at *
        obtain ⟨er, kd, ln, nm⟩ := cc
        go_wp2_with (first | ((with_reducible refine HR1.out.mono ?_); rintro e w' ⟨rfl, rfl⟩) | ((with_reducible refine HR2.out.mono ?_); rintro e w' ⟨rfl, rfl⟩))
        refine HCUT.out.mono ?_
        rintro e W2 ⟨rfl, hb2⟩
        unfold cutV tokV
        rw [HPC.out]
        dsimp only
        have HB2 : Hid (Below w.heap.size w W2) := Lib.hid (HB1.out.drew.drew.trans (hb2.mono HB1.out.size))
        have HX2 : Hid (IsRd W2 (w.heap.size + 1) s q1 ∧ W2.heap[w.heap.size]? = some (.cells #[.int .i64 0, .int .i64 0, .int .i64 0] 26 (0, 0)) ∧ SLine 6 W2 A ts.length c (toksC s.data.toList ts)) := Lib.hid ⟨HX.out.1.drew.drew.below hb2, (hb2.block _ (lt_of_block HX.out.2.1)).trans HX.out.2.1, HX.out.2.2.1.drew.drew.below hb2⟩
        have HX3 := Lib.hid HX.out.2.2.2
        clear hb2 HX HB1 HR1 HR2 HCUT
        obtain ⟨x, y, z, p0, p1, p2, hv, hz0, hz1, hz2⟩ := place_facts HX2.out.1
        have HV := Lib.hid (And.intro hv (And.intro hz0 (And.intro hz1 hz2)))
        clear hv hz0 hz1 hz2
        have hwl : w.heap.size + 1 < W2.heap.size := HX2.out.1.lt
        have hwl0 : w.heap.size < W2.heap.size := by omega
        have hwl1 : ¬ w.heap.size = W2.heap.size := by omega
        have hwl2 : ¬ w.heap.size + 1 = W2.heap.size := by omega
        by_cases her : er = 0
        · subst her
          have hcl := HCL.out rfl
          have htx : (strL ((s.data.toList.drop q1).take ln)).size = ln := by rw [strL_size, List.length_take, List.length_drop, ba_length]; omega
          have HT : Hid (allN s.data.toList = (allAt (s.data.toList.drop (q1 + ln)) (q1 + ln)).pre (ts ++ [⟨kd, (s.data.toList.drop q1).take ln, nm, q1⟩])) := Lib.hid (by
            have e := HTK2.out rfl
            rw [List.drop_drop] at e
            rw [show q + (n + ln) = q1 + ln from by have := HQ.out; omega] at e
            rw [HX3.out.2.1, e, Res.pre_pre])
          have htc : (tokC s.data.toList ⟨kd, (s.data.toList.drop q1).take ln, nm, q1⟩).toArray = #[.int .i64 (kd : Int), .string (strL ((s.data.toList.drop q1).take ln)), .int .i32 (nm : Int), .int .i64 x, .int .i64 y, .int .i64 z] := by
            unfold tokC
            simp only [HV.out.2.1, HV.out.2.2.1, HV.out.2.2.2]
          obtain ⟨T, hT⟩ : ∃ T : Tok, T = ⟨kd, (s.data.toList.drop q1).take ln, nm, q1⟩ := ⟨_, rfl⟩
          rw [← hT] at htc HT
          clear hT
          generalize strL ((s.data.toList.drop q1).take ln) = tx at *
          have hb3 : Below W2.heap.size W2 (W2.alloc (.cells #[.int .i64 (kd : Int), .string tx, .int .i32 (nm : Int), .int .i64 x, .int .i64 y, .int .i64 z] 33)) := (Below.refl _ _).alloc (Nat.le_refl _) _
          have hfew : ts.length ≤ 65536 := by have := HX3.out.2.2; omega
          obtain ⟨A', c', W4, hr, hl, hc, hf, _⟩ := tok_push (W2.alloc (.cells #[.int .i64 (kd : Int), .string tx, .int .i32 (nm : Int), .int .i64 x, .int .i64 y, .int .i64 z] 33)) s.data.toList A ts.length c _ (HX2.out.2.2.below hb3) (by omega) T
          rw [htc] at hr
          have hsz3 : (W2.alloc (.cells #[.int .i64 (kd : Int), .string tx, .int .i32 (nm : Int), .int .i64 x, .int .i64 y, .int .i64 z] 33)).heap.size = W2.heap.size + 1 := by simp
          rw [hsz3] at hr hf
          have hAlt := HX2.out.2.2.lt
          have hnew : W4.heap[W2.heap.size]? = some (.cells #[.int .i64 (kd : Int), .string tx, .int .i32 (nm : Int), .int .i64 x, .int .i64 y, .int .i64 z] 33 (0, 0)) := (hc.same W2.heap.size (by rw [hsz3]; omega) (fun h => by have := hAlt _ h; omega)).trans (heap_alloc_new W2 _)
          have hx1 : W4.cell? ⟨W2.heap.size, 1, none⟩ = some (.string tx) := by rw [cell_of_row _ W2.heap.size 1 _ _ (0, 0) hnew]; rfl
          have hrd4 : IsRd W4 (w.heap.size + 1) s q1 := (HX2.out.1.below hb3).chg hc (fun h => by have := HX3.out.1 _ h; omega)
          have hbx4 : W4.heap[w.heap.size]? = some (.cells #[.int .i64 0, .int .i64 0, .int .i64 0] 26 (0, 0)) := (hc.same w.heap.size (by rw [hsz3]; omega) (fun h => by have := HX3.out.1 _ h; omega)).trans ((hb3.block _ (by omega)).trans HX2.out.2.1)
          have hB4 : Below w.heap.size w W4 := (HB2.out.trans (hb3.mono HB2.out.size)).trans (hc.toBelow (fun k hk => by have := HX3.out.1 _ hk; omega) (by rw [hsz3]; omega))
          have HD := Lib.hid (read_any W4 (w.heap.size + 1) q1 tx.size s hs hrd4 (by omega))
          have HRUN := Lib.hid hr
          have HREST : Hid (∀ W5, IsRd W5 (w.heap.size + 1) s (q1 + tx.size) → Chg [w.heap.size + 1] W4 W5 → AtHead s w W5 (q1 + tx.size) (ts ++ [T]) A' c') := Lib.hid (fun W5 h5 c5 => by
            have hge : ∀ k ∈ blk A', w.heap.size + 1 < k := fun k hk => by
              rcases hf k hk with h | h
              · exact HX3.out.1 k h
              · omega
            refine ⟨h5, (c5.same _ (lt_of_block hbx4) (by simp)).trans hbx4, ?_, hge, hB4.trans (c5.toBelow (fun k hk => by simp only [List.mem_singleton] at hk; omega) hB4.size), ?_, ?_⟩
            · rw [List.length_append, toksC_snoc]
              exact hl.chg c5 (fun k hk => by have := hge k hk; simp; omega)
            · rw [htx]; exact HT.out
            · rw [List.length_append]
              have := HX3.out.2.2
              have := HQ.out
              show ts.length + 1 ≤ _
              omega)
          have hsn : ts.length + 1 = (ts ++ [T]).length := by simp
          have HSN := Lib.hid hsn
          have hm2 : s.size - (q1 + tx.size) + 1 < gk := by have := HQ.out; omega
          clear hcl htx htc hb3 hr hl hc hf hsz3 hAlt hnew hrd4 hbx4 hB4 hsn HT HTK2 HLT2
          go_wp2_with (at_builtin; refine Lib.wpList_append_run _ rfl _ _ _ _ rfl _ _ rfl rfl _ _ HRUN.out ?_)
          refine HD.out.mono ?_
          rintro e W5 ⟨rfl, hrd5, hc5⟩
          have HH := Lib.hid (HREST.out W5 hrd5 hc5)
          clear hrd5 hc5
          go_wp2
          go_roundg (s.size - (q1 + tx.size) + 1)
          case measure => exact hm2
          case rel => exact ⟨q1 + tx.size, ts ++ [T], A', c', by rw [HSN.out], HH, Nat.le_refl _⟩
        · have hne : ((er : Int) == 0) = false := by rw [beq_eq_false_iff_ne]; omega
          have hne2 : ((er : Int) != 0) = true := by rw [bne_iff_ne]; omega
          obtain ⟨⟨b0, b1, b2⟩, b3, b4, b5⟩ := box_facts HX2.out.2.1
          have HF : Hid (allN s.data.toList = .bad er q1) := Lib.hid (by rw [HX3.out.2.1, HLT2.out her]; rfl)
          clear her
          go_wp2_with fail
          go_region
          all_goals
            go_wp2
            exact bodyPost_ret (v := .tuple #[.slice none 0 0, .int .i64 (er : Int), .agg #[.int .i64 x, .int .i64 y, .int .i64 z]]) (by simp [results, Tryd.results11, go_sem, *]) rfl (by
              rw [← HV.out.1]
              exact AllOut.bad HF.out (((below_three HB2.out _ (Nat.le_refl _) _ _ _).alloc (below_three HB2.out _ (Nat.le_refl _) _ _ _).size _).drew))
end Go.Proofs.YtkpgkobhnldhpaaDoor
