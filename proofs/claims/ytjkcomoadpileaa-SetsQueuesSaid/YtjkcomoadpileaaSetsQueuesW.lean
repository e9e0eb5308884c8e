/-
  The walk of SetsQueues.
-/
import Derived.Test.YtjkcomoadpileaaQx
import Derived.Test.YtjkcomoadpileaaLv
namespace Go.Proofs.Ytjkcomoadpileaa
open Go.RowKit
set_option linter.unusedVariables false

/-- The slice A of n elements holds the texts zs. -/
def Txts (w : World) (A : Option Addr) (n : Nat) (zs : List ByteArray) : Prop :=
  zs.length = n ∧ (∀ z ∈ zs, FitsS z) ∧ (0 < n → ∃ b off, A = some ⟨b, off, none⟩ ∧ b < w.heap.size ∧ ∀ i, i < n → w.cell? ⟨b, off + i, none⟩ = some (.string (zs.getD i ⟨#[]⟩)))
theorem txts_of (W : World) (x : Addr) (n : Nat) (ss : List ByteArray) (hn : n ≤ ss.length) (hc : ∀ i, i < ss.length → W.cell? (x.add i) = some (.string (ss.getD i ByteArray.empty))) (hw : ∀ s ∈ ss, s.size ≤ maxLen) : Txts W (some x) n (ss.take n) := by
  refine ⟨by rw [List.length_take]; omega, fun z hz => hw z (List.mem_of_mem_take hz), fun h0 => ?_⟩
  have h1 := hc 0 (by omega)
  have hsp : x.spot = none := World.cell?_spot (by simpa [Addr.add] using h1)
  obtain ⟨b, off, sp⟩ := x
  obtain rfl : sp = none := hsp
  have hadd : ∀ i, (⟨b, off, none⟩ : Addr).add i = ⟨b, off + i, none⟩ := fun i => by unfold Addr.add; split <;> simp_all
  refine ⟨b, off, rfl, ?_, fun i hi => ?_⟩
  · rcases Nat.lt_or_ge b W.heap.size with hlt | hge
    · exact hlt
    · simp [World.cell?, Addr.add, Array.getElem?_eq_none hge] at h1
  · have hil : i < ss.length := by omega
    rw [← hadd i, hc i hil]
    simp [List.getD, hi, hil]
theorem text_inj {a b : ByteArray} (h : a.toList = b.toList) : a = b := by
  rw [ByteArray.toList_eq, ByteArray.toList_eq] at h
  cases a; cases b
  congr 1
  exact Array.toList_inj.1 h
set_option maxRecDepth 100000 in
set_option maxHeartbeats 3200000 in
theorem setsQueues_walk (A : Option Addr) (len cap : Nat) (zs : List ByteArray) (W : World) (hI : Txts W A len zs) (hl : len ≤ 9223372036854775807) :
    Calls Try.prog 4 #[.slice A len cap] W fun e W' => e = .returned (.bool true) ∧ Below W.heap.size W W' := by
  have HI := Lib.hid hI
  have hq0 : QX W.heap.size W (W.alloc (.cells #[.slice none 0 0, .map none] 46)) W.heap.size 0 [] none 0 0 [] := by
    obtain ⟨qA, qn, qc, mp, hQ, hF, _⟩ := qnewS W W.heap.size (Nat.le_refl _)
    exact ⟨⟨qA, qn, qc, mp, hQ, hF, fun j hj => by cases hj⟩, LineAt.nil _, (Below.refl _ W).alloc (Nat.le_refl _) _, Nat.le_refl _⟩
  have HQ0 := Lib.hid hq0
  clear hI hq0
  go_enter Try.func4, Try.ntmps4
  go_wp2
  go_loopw [4, 14] (fun x i wr => ∃ (j k : Nat) (A1 : Option Addr) (n1 c1 : Nat) (ys : List ByteArray), j ≤ len ∧ j ≤ 100 ∧ k ≤ j ∧ n1 ≤ j ∧ i = .int .i64 j ∧ x = .slice A1 n1 c1 ∧ QX W.heap.size W wr W.heap.size k ys A1 n1 c1 ys) (fun _ i _ => len - (intOf i).toNat)
  case atStart => exact ⟨0, 0, none, 0, 0, [], by omega, by omega, by omega, by omega, rfl, rfl, HQ0.out⟩
  case round =>
    obtain ⟨j, k, A1, n1, c1, ys, hj, hj1, hkj, hnj, rfl, rfl, hQ⟩ := hrel
    have HQ := Lib.hid hQ
    have HY : Hid (ys.length = n1) := Lib.hid (by have := hQ.line.1; simpa [cellsS] using this)
    have HLEN := Lib.hid (qx_len hQ)
    rw [HY.out] at HLEN
    have HLV := Lib.hid (fun w' (hb : wr = w') => lives_any w')
    rcases Nat.lt_or_ge j len with hjn | hjn
    · rcases Nat.lt_or_ge j 100 with hj2 | hj2
      · obtain ⟨b, off, rfl, hb, hcs0⟩ := HI.out.2.2 (by omega)
        have hck : wr.cell? ⟨b, off + j, none⟩ = some (.string (zs.getD j ⟨#[]⟩)) := (hQ.below.cell (p := ⟨b, off + j, none⟩) hb).trans (hcs0 j hjn)
        have hfit : Hid (FitsS (zs.getD j ⟨#[]⟩)) := Lib.hid (HI.out.2.1 _ (by
          have hjz : j < zs.length := by rw [HI.out.1]; exact hjn
          simp [List.getD, hjz]))
        have hjn' : (j : Int) < (len : Int) := by omega
        have hj2' : ¬ (100 : Int) ≤ (j : Int) := by omega
        clear hcs0 hQ
        generalize zs.getD j ⟨#[]⟩ = s at *
        cases hE : s.toList.isEmpty with
        | true =>
          cases ys with
          | nil =>
            obtain rfl : n1 = 0 := HY.out.symm
            go_wp2_with fail
            refine (qx_pop0 HQ.out).mono ?_
            rintro e w' ⟨rfl, rfl⟩
            go_wp2
            go_roundw
            case rel => exact ⟨j + 1, k, A1, 0, c1, [], by omega, by omega, by omega, by omega, by go_num, rfl, HQ.out⟩
            case measure => simp [intOf]; omega
          | cons y r =>
            obtain ⟨d, rfl⟩ : ∃ d, n1 = d + 1 := ⟨r.length, HY.out.symm⟩
            obtain ⟨e, rfl⟩ : ∃ e, c1 = e + 1 := ⟨c1 - 1, by have := HQ.out.line.2.1; omega⟩
            obtain ⟨g, off1, rfl, hg, hcl, hfr⟩ := HQ.out.line.at (by omega)
            have hde : d ≤ e := by have := HQ.out.line.2.1; omega
            have he1 : e + 1 ≤ 9223372036854775807 := by have := HQ.out.line.2.2.1; unfold maxLen at this; omega
            go_wp2_with fail
            refine (qx_pop HQ.out).mono ?_
            rintro e' w1 ⟨rfl, hQ1⟩
            have hy0 : w1.cell? ⟨g, off1, none⟩ = some (.string y) := by
              obtain ⟨g', off', eg, _, hcl1, _⟩ := hQ1.line.at (by omega)
              cases eg
              have := hcl1 0 (by omega)
              rw [Nat.add_zero] at this
              rw [this]
              rfl
            have HQ1 := Lib.hid hQ1
            clear hQ1 hcl hfr
            have hmin : (if (1 : Int) < (d : Int) + 1 then (1 : Int) else (d : Int) + 1).toNat = 1 := by split <;> omega
            have HM := Lib.hid hmin
            clear hmin
            have hnj' := hnj
            go_wp2
            go_roundw
            case rel =>
              refine ⟨j + 1, k, _, _, _, r, by omega, by omega, by omega, ?_, by go_num, rfl, ?_⟩
              · rw [HM.out]; omega
              · rw [HM.out]
                exact HQ1.out.rest _ (by by_cases he : e = 0 <;> simp [he])
            case measure => simp [intOf]; omega
        | false =>
          go_wp2
          go_loopw [9, 57] (fun v i wx => ∃ u : Nat, u ≤ n1 ∧ i = .int .i64 u ∧ v = .bool (decide (s ∈ ys.take u)) ∧ wx = wr) (fun _ i _ => n1 - (intOf i).toNat)
          case atStart => exact ⟨0, by omega, rfl, by simp, rfl⟩
          case round =>
            obtain ⟨u, hu, rfl, rfl, rfl⟩ := hrel
            rcases Nat.lt_or_ge u n1 with hun | hun
            · obtain ⟨g, off1, rfl, hg, hcl, hfr⟩ := HQ.out.line.at (by omega)
              have hul : u < ys.length := by rw [HY.out]; exact hun
              have hcu : wr.cell? ⟨g, off1 + u, none⟩ = some (.string (ys.getD u ⟨#[]⟩)) := by
                rw [hcl u hun]
                simp [cellsS, List.getD, hul]
              have hun' : (u : Int) < (n1 : Int) := by omega
              have EX : Hid (decide (s ∈ ys.take (u + 1)) = (decide (s ∈ ys.take u) || ((ys.getD u ⟨#[]⟩).toList == s.toList))) := Lib.hid (by
                rw [Bool.eq_iff_iff, Bool.or_eq_true, decide_eq_true_eq, decide_eq_true_eq, beq_iff_eq, List.take_add_one, List.mem_append]
                simp only [List.getD, List.getElem?_eq_getElem hul, Option.toList_some, List.mem_singleton, Option.getD_some]
                constructor
                · rintro (h | h)
                  · exact .inl h
                  · exact .inr (by rw [h])
                · rintro (h | h)
                  · exact .inl h
                  · exact .inr (text_inj h).symm)
              clear hcl hfr
              generalize ys.getD u ⟨#[]⟩ = z at *
              cases hd : decide (s ∈ ys.take u)
              all_goals
                go_wp2
                go_roundw
                case rel => exact ⟨u + 1, by omega, by go_num, by rw [EX.out, hd]; simp, trivial⟩
                case measure => simp [intOf]; omega
            · obtain rfl : u = n1 := by omega
              have HIN : Hid (ys.take u = ys) := Lib.hid (List.take_of_length_le (by rw [HY.out]; exact Nat.le_refl _))
              rw [HIN.out]
              have hyn := HY.out
              have HPU := Lib.hid (qx_push HQ.out s hfit.out (by omega) (by omega))
              cases hd : decide (s ∈ ys) with
              | true =>
                have hps : pushLS ys s = ys := by unfold pushLS; rw [if_pos (of_decide_eq_true hd)]
                rw [hd, hps] at HPU
                clear hd hps
                go_wp2_with fail
                refine HPU.out.mono ?_
                rintro e w1 ⟨rfl, hQ1⟩
                have HQ1 := Lib.hid hQ1
                have HLEN1 := Lib.hid (qx_len hQ1)
                rw [HY.out] at HLEN1
                clear hQ1
                go_wp2_with fail
                refine HLEN1.out.mono ?_
                rintro e w' ⟨rfl, rfl⟩
                go_wp2
                go_roundw
                case rel => exact ⟨j + 1, k + 1, A1, u, c1, ys, by omega, by omega, by omega, by omega, by go_num, rfl, HQ1.out⟩
                case measure => simp [intOf]; omega
              | false =>
                have hps : pushLS ys s = ys ++ [s] := by unfold pushLS; rw [if_neg (of_decide_eq_false hd)]
                rw [hd, hps] at HPU
                clear hd hps
                have huc : (u : Int) ≤ (c1 : Int) := by have := HQ.out.line.2.1; omega
                go_wp2_with fail
                refine HPU.out.mono ?_
                rintro e w1 ⟨rfl, hQ1⟩
                obtain ⟨A2, c2, w2, hr, hQ2⟩ := hQ1.push (by omega) s 43
                have HR := Lib.hid hr
                have HQ2 := Lib.hid hQ2
                have HLEN2 := Lib.hid (qx_len hQ2)
                rw [List.length_append, HY.out, List.length_singleton] at HLEN2
                clear hQ1 hr hQ2
                rcases A1 with _ | a1
                all_goals
                  go_wp2_with (at_builtin; refine Lib.wpList_append_run _ rfl _ _ _ _ rfl _ _ rfl rfl _ _ HR.out ?_)
                  refine HLEN2.out.mono ?_
                  rintro e w' ⟨rfl, rfl⟩
                  go_wp2
                  go_roundw
                  case rel => exact ⟨j + 1, k + 1, A2, u + 1, c2, ys ++ [s], by omega, by omega, by omega, by omega, by go_num, rfl, HQ2.out⟩
                  case measure => simp [intOf]; omega
      · obtain rfl : j = 100 := by omega
        obtain ⟨b, off, rfl, hb, hcs0⟩ := HI.out.2.2 (by omega)
        have hck : wr.cell? ⟨b, off + 100, none⟩ = some (.string (zs.getD 100 ⟨#[]⟩)) := (hQ.below.cell (p := ⟨b, off + 100, none⟩) hb).trans (hcs0 100 hjn)
        have hjn' : (100 : Int) < (len : Int) := by omega
        clear hcs0 hQ
        generalize zs.getD 100 ⟨#[]⟩ = s at *
        go_wp2_with fail
        refine HLEN.out.mono ?_
        rintro e w' ⟨rfl, rfl⟩
        go_wp2_with fail
        refine (lives_any wr).mono ?_
        rintro e w2 ⟨rfl, hB⟩
        have HB := Lib.hid (HQ.out.below.trans (hB.mono HQ.out.size))
        clear hB
        go_wp2
        go_ret
        exact ⟨rfl, HB.out⟩
    · obtain rfl : j = len := by omega
      clear hQ
      go_wp2_with fail
      refine HLEN.out.mono ?_
      rintro e w' ⟨rfl, rfl⟩
      go_wp2_with fail
      refine (lives_any wr).mono ?_
      rintro e w2 ⟨rfl, hB⟩
      have HB := Lib.hid (HQ.out.below.trans (hB.mono HQ.out.size))
      clear hB
      go_wp2
      go_ret
      exact ⟨rfl, HB.out⟩
end Go.Proofs.Ytjkcomoadpileaa
