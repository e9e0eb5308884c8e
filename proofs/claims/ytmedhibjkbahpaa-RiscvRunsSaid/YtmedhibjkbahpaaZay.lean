/-
  Loading, the program's way and the document's way: the lines.
  Loading, the program's way and the document's way: the same.
  Line of an image; Len, Line, At of no image.
  The walk of the law RiscvLoads: it answers true and writes nothing that was there.
-/
import Derived.Test.YtmedhibjkbahpaaZax
namespace Go.Proofs.Ytmedhibjkbahpaa
open Go.RowKit
set_option linter.unusedVariables false
set_option linter.unusedSimpArgs false
namespace Rv
theorem sumG_words : ∀ (gs : List Gl) (b : Nat), (∀ g ∈ gs, 0 ≤ g.size) → ((gs.foldl (fun n g => n + g.words) b : Nat) : Int) = (b : Int) + sumG gs
  | [], b, _ => by simp [sumG]
  | g :: gs, b, h => by
    have h0 := h g (List.mem_cons_self ..)
    have ih := sumG_words gs (b + g.words) (fun x hx => h x (List.mem_cons_of_mem _ hx))
    rw [List.foldl_cons, ih, sumG]
    unfold Gl.words
    omega
theorem twice_nodup (ss : List Sy) : twiceB ss = true ↔ (ss.map Sy.name).Nodup := by
  constructor
  · intro h
    have h' : ∀ (j : Nat) t, ss[j]? = some t → posI ss t.name = (j : Int) := by
      intro j t hj
      unfold twiceB at h
      rw [List.all_eq_true] at h
      have := h j (List.mem_range.2 (List.getElem?_eq_some_iff.1 hj).1)
      rw [hj] at this
      simpa using this
    rw [List.Nodup, List.pairwise_iff_getElem]
    intro i j hi hj hij e
    simp only [List.length_map] at hi hj
    simp only [List.getElem_map] at e
    have a := h' i ss[i] (List.getElem?_eq_getElem hi)
    have b := h' j ss[j] (List.getElem?_eq_getElem hj)
    rw [e, b] at a
    omega
  · intro h
    apply twice_yes
    intro j t hj
    refine posI_some hj rfl fun i u hij hu e => ?_
    rw [List.Nodup, List.pairwise_iff_getElem] at h
    obtain ⟨hi, rfl⟩ := List.getElem?_eq_some_iff.1 hu
    obtain ⟨hj', rfl⟩ := List.getElem?_eq_some_iff.1 hj
    exact h i j (by simpa using hi) (by simpa using hj') hij (by simpa using e)
theorem posO_none {ss : List Sy} {x : ByteArray} (h : posO ss x = none) : ∀ t ∈ ss, t.name ≠ x := by
  unfold posO at h
  rw [List.findIdx?_eq_none_iff] at h
  intro t ht
  simpa using h t ht
theorem posO_mem {ss : List Sy} {x : ByteArray} {j : Nat} (h : posO ss x = some j) : ∃ t ∈ ss, t.name = x ∧ symAt ss x = t.pos := by
  obtain ⟨t, ht, hp⟩ := posO_at h
  refine ⟨t, List.mem_of_getElem? ht, ?_, hp⟩
  unfold posO at h
  obtain ⟨hj, hn, -⟩ := List.findIdx?_eq_some_iff_getElem.1 h
  rw [List.getElem?_eq_getElem hj] at ht
  cases ht
  simpa using hn
section
variable {f : ByteArray → Option Int} {ss : List Sy} (hf : ∀ x z, f x = some z ↔ ∃ t ∈ ss, t.name = x ∧ t.pos = z)
include hf
theorem f_some {x : ByteArray} {j : Nat} (h : posO ss x = some j) : f x = some (symAt ss x) := by
  obtain ⟨t, ht, hn, hp⟩ := posO_mem h
  rw [hf]
  exact ⟨t, ht, hn, hp.symm⟩
theorem f_none {x : ByteArray} (h : posO ss x = none) : f x = none := by
  cases e : f x with
  | none => rfl
  | some z =>
    obtain ⟨t, ht, hn, -⟩ := (hf x z).1 e
    exact absurd hn (posO_none h t ht)
theorem fix_same (hpos : ∀ t ∈ ss, 0 ≤ t.pos ∧ t.pos ≤ 2000000 ∧ t.pos % 4 = 0) (l : Ln) (c : Nat) (hc : c ≤ 1000) (hs : ¬ (noS l.s = false ∧ posO ss l.s = none)) : fixL f l c = fixR ss c l := by
  unfold fixL fixR
  cases hn : noS l.s with
  | true => rfl
  | false =>
    cases hp : posO ss l.s with
    | none => exact absurd ⟨hn, hp⟩ hs
    | some j =>
      obtain ⟨t, ht, -, hq⟩ := posO_mem hp
      have hb := hpos t ht
      have e : numI f l c = if l.op = 1 then splitHi (symAt ss l.s) else if l.op = 2 then splitLo (symAt ss l.s) else symAt ss l.s - 4 * (c : Int) := by
        unfold numI
        rw [f_some hf hp, Option.getD_some]
        have hw : wrap32 (symAt ss l.s - (c : Int) * 4) = symAt ss l.s - 4 * (c : Int) := by
          rw [hq]
          have hC : 0 ≤ (c : Int) ∧ (c : Int) ≤ 1000 := by omega
          generalize (c : Int) = C at *
          rw [IntWalk.wrap32_in _ (by omega)]
          omega
        rw [hw]
      rw [e]
end
theorem okJ_same {ss : List Sy} (hpos : ∀ t ∈ ss, 0 ≤ t.pos ∧ t.pos ≤ 2000000 ∧ t.pos % 4 = 0) (l : Ln) (c : Nat) (hs : ¬ (noS l.s = false ∧ posO ss l.s = none)) (hm : mayI l.ins = true) (hsp : symP l.op l.n l.s = true) : okJ (fixR ss c l) = !bigR ss c l := by
  cases hn : noS l.s with
  | true =>
    have e1 : fixR ss c l = l := by unfold fixR; rw [if_pos hn]
    have e2 : bigR ss c l = false := by unfold bigR; rw [hn]; rfl
    rw [e1, e2, okJ_of_may hm]
    rfl
  | false =>
    cases hp : posO ss l.s with
    | none => exact absurd ⟨hn, hp⟩ hs
    | some j =>
      obtain ⟨t, ht, -, hq⟩ := posO_mem hp
      have hb := hpos t ht
      unfold symP at hsp
      rw [hn] at hsp
      simp only [Bool.false_or, Bool.and_eq_true, Bool.or_eq_true, beq_iff_eq] at hsp
      have eo : (fixR ss c l).op = l.op := by unfold fixR; rw [if_neg (by rw [hn]; simp)]
      unfold okJ bigR
      rw [eo, hn]
      by_cases h1 : l.op = 1
      · simp [h1]
      · by_cases h2 : l.op = 2
        · simp [h2]
        · have h3 : l.op = 28 := by
            rcases hsp.1.1 with (h | h) | h
            · exact absurd h h1
            · exact absurd h h2
            · exact h
          have en : (fixR ss c l).n = t.pos - 4 * (c : Int) := by unfold fixR; rw [if_neg (by rw [hn]; simp)]; dsimp only; rw [if_neg h1, if_neg h2, hq]
          have hmod : (fixR ss c l).n % 4 = 0 := by rw [en]; omega
          generalize (fixR ss c l).n = n at *
          rw [h3]
          simp only [BEq.rfl, Bool.not_true, Bool.false_or, Bool.not_false, Bool.true_and, show ((28 : Int) == 1) = false from rfl, show ((28 : Int) == 2) = false from rfl]
          by_cases g1 : n < -1048576
          · have : ¬ (-1048576 ≤ n) := by omega
            simp [g1, this]
          · by_cases g2 : 1048574 < n
            · have : ¬ n < 1048576 := by omega
              simp [g2, this]
            · have a : -1048576 ≤ n := by omega
              have b : n < 1048576 := by omega
              simp [g1, g2, a, b]
theorem resI_ins (f : ByteArray → Option Int) : ∀ (ls acc : List Ln), (∀ l ∈ ls, l.k = 1 ∨ l.k = 2) → resI f acc ls = resI f acc (insL ls)
  | [], acc, _ => rfl
  | l :: ls, acc, h => by
    have ih := fun acc => resI_ins f ls acc (fun x hx => h x (List.mem_cons_of_mem _ hx))
    rcases h l (List.mem_cons_self ..) with hk | hk
    · have e : insL (l :: ls) = insL ls := by simp [insL, hk]
      rw [e, resI, if_neg (by omega), ih]
    · have e : insL (l :: ls) = l :: insL ls := by simp [insL, hk]
      rw [e, resI, resI, if_pos hk, if_pos hk, ih]
theorem res_same {f : ByteArray → Option Int} {ss : List Sy} (hf : ∀ x z, f x = some z ↔ ∃ t ∈ ss, t.name = x ∧ t.pos = z) (hpos : ∀ t ∈ ss, 0 ≤ t.pos ∧ t.pos ≤ 2000000 ∧ t.pos % 4 = 0) : ∀ (L acc : List Ln) (b : Bool), (∀ l ∈ L, l.k = 2 ∧ mayI l.ins = true ∧ symP l.op l.n l.s = true) → acc.length + L.length ≤ 1000 →
    (resR ss acc L b = none ∧ ∃ l ∈ L, noS l.s = false ∧ f l.s = none) ∨ ((∀ l ∈ L, (noS l.s || (f l.s).isSome) = true) ∧ ∃ out bb, resR ss acc L b = some (out, bb) ∧ (b = true → bb = true) ∧ (bb = false → resI f acc L = some out) ∧ (bb = true → b = true ∨ resI f acc L = none))
  | [], acc, b, _, _ => .inr ⟨fun l hl => (by cases hl), acc, b, rfl, id, fun _ => rfl, fun h => .inl h⟩
  | l :: L, acc, b, hm, hlen => by
    obtain ⟨hk, h1, h2⟩ := hm l (List.mem_cons_self ..)
    by_cases hs : noS l.s = false ∧ posO ss l.s = none
    · exact .inl ⟨resR_none hs.2 hs.1, l, List.mem_cons_self .., hs.1, f_none hf hs.2⟩
    · simp only [List.length_cons] at hlen
      have hx := fix_same hf hpos l acc.length (by omega) hs
      have hj := okJ_same hpos l acc.length hs h1 h2
      have ih := res_same hf hpos L (acc ++ [fixR ss acc.length l]) (b || bigR ss acc.length l) (fun x hx => hm x (List.mem_cons_of_mem _ hx)) (by simp; omega)
      have e : resR ss acc (l :: L) b = resR ss (acc ++ [fixR ss acc.length l]) L (b || bigR ss acc.length l) := by rw [resR, if_neg hs]
      have e2 : resI f acc (l :: L) = if bigR ss acc.length l = true then none else resI f (acc ++ [fixR ss acc.length l]) L := by
        rw [resI, if_pos hk, hx, hj]
        cases bigR ss acc.length l <;> rfl
      rw [e, e2]
      rcases ih with ⟨i1, x, i2, i3⟩ | ⟨i1, out, bb, i2, i3, i4, i5⟩
      · exact .inl ⟨i1, x, List.mem_cons_of_mem _ i2, i3⟩
      · refine .inr ⟨fun x hx => ?_, out, bb, i2, fun hb => i3 (by rw [hb]; rfl), fun hb => ?_, fun hb => ?_⟩
        · rcases List.mem_cons.1 hx with rfl | hx
          · cases hn : noS x.s with
            | true => rfl
            | false =>
              cases hp : posO ss x.s with
              | none => exact absurd ⟨hn, hp⟩ hs
              | some j => rw [f_some hf hp]; rfl
          · exact i1 x hx
        · have hbig : bigR ss acc.length l = false := by
            cases hq : bigR ss acc.length l with
            | false => rfl
            | true => rw [hq, Bool.or_true] at i3; rw [i3 rfl] at hb; cases hb
          rw [hbig, if_neg (by simp)]
          exact i4 hb
        · cases hq : bigR ss acc.length l with
          | true => exact .inr (by rw [if_pos rfl])
          | false =>
            rw [hq, Bool.or_false] at i5
            rw [if_neg (by simp)]
            exact i5 hb
end Rv
end Go.Proofs.Ytmedhibjkbahpaa
namespace Go.Proofs.Ytmedhibjkbahpaa
open Go.RowKit
set_option linter.unusedVariables false
set_option linter.unusedSimpArgs false
namespace Rv
theorem datF_pos : ∀ (gs : List Gl) (c : Int), 0 ≤ c → (∀ g ∈ gs, 0 ≤ g.size ∧ g.size ≤ 4096) → ∀ t ∈ datF c gs, ∃ d : Int, t.pos = 65536 + 4 * d ∧ c ≤ d ∧ d ≤ c + 4096 * (gs.length : Int)
  | [], c, _, _, t, ht => by cases ht
  | g :: gs, c, hc, hg, t, ht => by
    have h0 := hg g (List.mem_cons_self ..)
    rw [datF] at ht
    simp only [List.length_cons]
    rcases List.mem_cons.1 ht with rfl | ht
    · exact ⟨c, rfl, by omega, by omega⟩
    · obtain ⟨d, h1, h2, h3⟩ := datF_pos gs (c + max 1 g.size) (by omega) (fun x hx => hg x (List.mem_cons_of_mem _ hx)) t ht
      exact ⟨d, h1, by omega, by omega⟩
theorem labF_pos : ∀ (ls : List Ln) (c : Nat), ∀ t ∈ labF c ls, ∃ d : Nat, t.pos = 4 * (d : Int) ∧ d ≤ c + ls.length
  | [], c, t, ht => by cases ht
  | l :: ls, c, t, ht => by
    rw [labF] at ht
    simp only [List.length_cons]
    split at ht
    · rcases List.mem_cons.1 ht with rfl | ht
      · exact ⟨c, rfl, by omega⟩
      · obtain ⟨d, h1, h2⟩ := labF_pos ls c t ht
        exact ⟨d, h1, by omega⟩
    · obtain ⟨d, h1, h2⟩ := labF_pos ls (c + 1) t ht
      exact ⟨d, h1, by omega⟩
theorem labF_mem : ∀ (ls : List Ln) (c : Nat) (l : Ln), l ∈ ls → l.k = 1 → ∃ t ∈ labF c ls, t.name = l.s
  | x :: ls, c, l, hl, hk => by
    rw [labF]
    rcases List.mem_cons.1 hl with rfl | hl
    · rw [if_pos hk]
      exact ⟨_, List.mem_cons_self .., rfl⟩
    · split
      · obtain ⟨t, h1, h2⟩ := labF_mem ls c l hl hk
        exact ⟨t, List.mem_cons_of_mem _ h1, h2⟩
      · exact labF_mem ls (c + 1) l hl hk
def SameLoad (gs : List Gl) (st : Int) (ls : List Ln) : RR → Prop
  | .err k => loadI mayGl mayLn gs st ls = .err k
  | .ok L ss words => loadI mayGl mayLn gs st ls = .ok L (layG ls gs).f words ∧ L.length ≤ ls.length ∧ ∀ x z, (layG ls gs).f x = some z ↔ ∃ t ∈ ss, t.name = x ∧ t.pos = z
theorem resI_len (f : ByteArray → Option Int) : ∀ (ls acc out : List Ln), resI f acc ls = some out → out.length ≤ acc.length + ls.length
  | [], acc, out, h => by
    rw [resI] at h
    cases h
    simp
  | l :: ls, acc, out, h => by
    rw [resI] at h
    simp only [List.length_cons]
    split at h
    · split at h
      · have := resI_len f ls _ out h
        simp at this
        omega
      · cases h
    · have := resI_len f ls _ out h
      omega
theorem load_same (gs : List Gl) (st : Int) (ls : List Ln) (hm : mayA mayGl mayLn gs st ls = true) (hln : ls.length ≤ 1000) : SameLoad gs st ls (loadR true gs st ls) := by
  obtain ⟨q1, q2, q3, q4⟩ := mayA_parts hm
  have hk12 : ∀ l ∈ ls, l.k = 1 ∨ l.k = 2 := fun l hl => by
    have h := q4 l hl
    unfold mayLn at h
    by_cases h1 : l.k = 1
    · exact .inl h1
    · by_cases h2 : l.k = 2
      · exact .inr h2
      · rw [if_neg h1, if_neg h2] at h
        cases h
  have hg0 : ∀ g ∈ gs, 0 ≤ g.size ∧ g.size ≤ 4096 := fun g hg => by have := q2 g hg; unfold mayGl at this; simp at this; omega
  have hL := foldl_L ls ⟨0, fun _ => none, true, 0⟩ hk12
  have hG := foldl_G gs { layL ls with cnt := 0 } 0 rfl (fun g hg => (hg0 g hg).1)
  have hC := put_cnt (datF 0 gs) { layL ls with cnt := 0 } (putAll ⟨0, fun _ => none, true, 0⟩ (labF 0 ls)) hL.1 hL.2
  have hA : ∀ a b : List Sy, ∀ s : LS, putAll (putAll s a) b = putAll s (a ++ b) := fun a b s => by unfold putAll; rw [List.foldl_append]
  rw [hA] at hC
  have hfe : (layG ls gs).f = (putAll ⟨0, fun _ => none, true, 0⟩ (labF 0 ls ++ datF 0 gs)).f := hG.1.trans hC.1
  have hoe : (layG ls gs).ok = (putAll ⟨0, fun _ => none, true, 0⟩ (labF 0 ls ++ datF 0 gs)).ok := hG.2.trans hC.2
  obtain ⟨ss, hss⟩ : ∃ ss, datF 0 gs ++ labF 0 ls = ss := ⟨_, rfl⟩
  have hnd : (layG ls gs).ok = true ↔ twiceB ss = true := by
    rw [hoe, putAll_ok, twice_nodup, ← hss]
    have hp : ((labF 0 ls ++ datF 0 gs).map Sy.name).Nodup ↔ ((datF 0 gs ++ labF 0 ls).map Sy.name).Nodup := (List.perm_append_comm.map _).nodup_iff
    rw [hp]
    simp
  have hcnt : ((layG ls gs).cnt : Int) = sumG gs := by
    unfold layG
    rw [foldl_words]
    have := sumG_words gs 0 (fun g hg => (hg0 g hg).1)
    simpa using this
  have hwg : ((wordsG gs : Nat) : Int) = sumG gs := by
    have := sumG_words gs 0 (fun g hg => (hg0 g hg).1)
    simpa [wordsG] using this
  have hR : loadR true gs st ls = if twiceB ss = true then (match resR ss [] (insL ls) (decide (16384 < sumG gs)) with
      | none => .err 21
      | some (l, b) => if b = true then .err 2 else .ok l ss (sumG gs + (st + 3) / 4)) else .err 20 := by
    unfold loadR
    rw [if_pos rfl]
    simp only [foldl_GR, foldl_LR, List.nil_append, List.length_nil, Int.zero_add]
    rw [hss]
    cases twiceB ss <;> cases resR ss [] (insL ls) (decide (16384 < sumG gs)) <;> rfl
  rw [hR]
  cases ht : twiceB ss with
  | false =>
    rw [if_neg (by simp)]
    show loadI mayGl mayLn gs st ls = .err 20
    unfold loadI
    rw [if_pos hm, if_neg (fun h => by rw [hnd.1 h] at ht; cases ht)]
  | true =>
    rw [if_pos rfl]
    have hok := hnd.2 ht
    have hf : ∀ x z, (layG ls gs).f x = some z ↔ ∃ t ∈ ss, t.name = x ∧ t.pos = z := fun x z => by
      rw [hfe, putAll_f _ _ x z (by rw [← hoe]; exact hok), ← hss]
      simp only [List.mem_append, reduceCtorEq, false_or]
      constructor
      · rintro ⟨t, h | h, h2⟩
        · exact ⟨t, .inr h, h2⟩
        · exact ⟨t, .inl h, h2⟩
      · rintro ⟨t, h | h, h2⟩
        · exact ⟨t, .inr h, h2⟩
        · exact ⟨t, .inl h, h2⟩
    have hpos : ∀ t ∈ ss, 0 ≤ t.pos ∧ t.pos ≤ 2000000 ∧ t.pos % 4 = 0 := fun t h => by
      rw [← hss] at h
      rcases List.mem_append.1 h with h | h
      · obtain ⟨d, h1, h2, h3⟩ := datF_pos gs 0 (by omega) hg0 t h
        omega
      · obtain ⟨d, h1, h2⟩ := labF_pos ls 0 t h
        omega
    have hins : ∀ l ∈ insL ls, l.k = 2 ∧ mayI l.ins = true ∧ symP l.op l.n l.s = true := fun l hl => by
      have h := List.mem_filter.1 hl
      have hne : l.k ≠ 1 := by simpa using h.2
      have h3 := q4 l h.1
      unfold mayLn at h3
      rw [if_neg hne] at h3
      by_cases h2 : l.k = 2
      · rw [if_pos h2, Bool.and_eq_true] at h3
        exact ⟨h2, h3.1, h3.2⟩
      · rw [if_neg h2] at h3
        cases h3
    have hil : (insL ls).length ≤ ls.length := List.length_filter_le ..
    rcases res_same hf hpos (insL ls) [] (decide (16384 < sumG gs)) hins (by simp; omega) with ⟨i1, l, i2, i3, i4⟩ | ⟨i1, out, bb, i2, i3, i4, i5⟩
    · rw [i1]
      show loadI mayGl mayLn gs st ls = .err 21
      have hkn : knowsB (layG ls gs).f ls = false := by
        unfold knowsB
        rw [List.all_eq_false]
        exact ⟨l, (List.mem_filter.1 i2).1, by rw [i3, i4]; simp⟩
      unfold loadI
      rw [if_pos hm, if_pos hok, if_neg (by rw [hkn]; simp)]
    · rw [i2]
      have hkn : knowsB (layG ls gs).f ls = true := by
        unfold knowsB
        rw [List.all_eq_true]
        intro l hl
        by_cases h1 : l.k = 1
        · obtain ⟨t, h2, h3⟩ := labF_mem ls 0 l hl h1
          have : (layG ls gs).f l.s = some t.pos := (hf _ _).2 ⟨t, by rw [← hss]; exact List.mem_append_right _ h2, h3, rfl⟩
          rw [this]
          simp
        · exact i1 l (List.mem_filter.2 ⟨hl, by simpa using h1⟩)
      have hri := resI_ins (layG ls gs).f ls [] hk12
      cases bb with
      | true =>
        show loadI mayGl mayLn gs st ls = .err 2
        unfold loadI
        rw [if_pos hm, if_pos hok, if_pos hkn, hri]
        rcases i5 rfl with h | h
        · have h6 : 16384 < wordsG gs := by have := of_decide_eq_true h; omega
          cases resI (layG ls gs).f [] (insL ls) with
          | none => rfl
          | some acc => dsimp only; rw [if_pos h6]
        · rw [h]
      | false =>
        have h5 : ¬ 16384 < wordsG gs := fun h => by
          have : decide (16384 < sumG gs) = true := by simp; omega
          have := i3 this
          cases this
        refine ⟨?_, ?_, hf⟩
        · unfold loadI
          rw [if_pos hm, if_pos hok, if_pos hkn, hri, i4 rfl]
          dsimp only
          rw [if_neg h5, hcnt]
        · have := resI_len _ _ _ _ (i4 rfl)
          simp at this
          omega
end Rv
end Go.Proofs.Ytmedhibjkbahpaa
namespace Go.Proofs.Ytmedhibjkbahpaa
open Go.RowKit
set_option linter.unusedVariables false
set_option linter.unusedSimpArgs false
set_option maxRecDepth 100000
namespace Rv
theorem results_line (tmps : Array Value) (w : World) (g : Nat) (cs : Array Value) (e : Value) (hp : tmps.getD 4 undef = .pointer (some ⟨g, 0, none⟩)) (he : tmps.getD 5 undef = e) (hg : w.heap[g]? = some (.cells cs 39 (0, 0))) (hs : cs.size = 7) :
    (results Try.f12 tmps).run Try.prog w = .ok (.tuple #[.agg cs, e]) w := by
  have hp' : tmps[4]?.getD undef = .pointer (some ⟨g, 0, none⟩) := by simpa using hp
  have he' : tmps[5]?.getD undef = e := by simpa using he
  simp [results, Try.results12, hp', he', asAddr, run_loadVar_row w g 39 39 cs (0, 0) _ hg Try.underlying39 rfl (by rw [hs]; kernel_rfl)]
theorem len_nil (w : World) : Calls Try.prog 11 #[.pointer none] w fun e w' => e = .returned (.int .i64 0) ∧ w' = w := by
  go_enter Try.func11, Try.ntmps11
  go_wp2_with fail
  go_ret
  exact ⟨rfl, rfl⟩
theorem at_nil (x : ByteArray) (w : World) : Calls Try.prog 13 #[.pointer none, .string x] w fun e w' => e = .returned (.tuple #[.int .i32 0, .bool false]) ∧ w' = w := by
  go_enter Try.func13, Try.ntmps13
  go_wp2_with fail
  go_ret2
  exact ⟨rfl, rfl⟩
set_option maxHeartbeats 1600000 in
theorem line_neg (p : Option Addr) (i : Int) (hi : i < 0) (w : World) : Calls Try.prog 12 #[.pointer p, .int .i64 i] w fun e w' => e = .returned (.tuple #[.agg #[.int .i64 0, .int .i64 0, .int .i64 0, .int .i64 0, .int .i64 0, .int .i32 0, .string ⟨#[]⟩], .bool false]) ∧ Below w.heap.size w w' := by
  obtain ⟨b, hb⟩ : ∃ b, w.heap.size = b := ⟨_, rfl⟩
  obtain ⟨W1, hW1⟩ : ∃ W1, w.alloc (.cells #[.int .i64 0, .int .i64 0, .int .i64 0, .int .i64 0, .int .i64 0, .int .i32 0, .string ⟨#[]⟩] 39) = W1 := ⟨_, rfl⟩
  have hb1 : Below w.heap.size w W1 := by rw [← hW1]; exact (Below.refl _ _).alloc (Nat.le_refl _) _
  have hn1 : W1.heap[b]? = some (.cells #[.int .i64 0, .int .i64 0, .int .i64 0, .int .i64 0, .int .i64 0, .int .i32 0, .string ⟨#[]⟩] 39 (0, 0)) := by rw [← hW1, ← hb]; exact heap_alloc_new w _
  obtain ⟨u0, u1, u2, u3, u4, u5, u6, uf⟩ := box7 hn1
  have HB1 := Lib.hid hb1
  have HN1 := Lib.hid hn1
  have j0 := setCell_idR (i := 0) (v := (.int .i64 0)) hn1 rfl
  have j1 := setCell_idR (i := 1) (v := (.int .i64 0)) hn1 rfl
  have j2 := setCell_idR (i := 2) (v := (.int .i64 0)) hn1 rfl
  have j3 := setCell_idR (i := 3) (v := (.int .i64 0)) hn1 rfl
  have j4 := setCell_idR (i := 4) (v := (.int .i64 0)) hn1 rfl
  have j5 := setCell_idR (i := 5) (v := (.int .i32 0)) hn1 rfl
  have j6 := setCell_idR (i := 6) (v := (.string ⟨#[]⟩)) hn1 rfl
  have HJ := Lib.hid (And.intro j0 (And.intro j1 (And.intro j2 (And.intro j3 (And.intro j4 (And.intro j5 j6))))))
  have d1 : decide (i < 0) = true := by simp [hi]
  clear hb1 hn1 j0 j1 j2 j3 j4 j5 j6
  go_enter Try.func12, Try.ntmps12
  go_wp2_with fail
  rw [HJ.out.1, HJ.out.2.1, HJ.out.2.2.1, HJ.out.2.2.2.1, HJ.out.2.2.2.2.1, HJ.out.2.2.2.2.2.1, HJ.out.2.2.2.2.2.2]
  try simp only [Exit.inBlock, Exit.then]
  refine bodyPost_ret (results_line _ _ b _ _ rfl rfl HN1.out rfl) rfl ?_
  exact ⟨rfl, HB1.out⟩
set_option maxHeartbeats 1600000 in
theorem line_big (p : Option Addr) (n : Nat) (i : Int) (hi : 0 ≤ i) (hn : (n : Int) ≤ i) (w : World) (HL : ∀ W, Below w.heap.size w W → Calls Try.prog 11 #[.pointer p] W fun e w' => e = .returned (.int .i64 (n : Int)) ∧ w' = W) :
    Calls Try.prog 12 #[.pointer p, .int .i64 i] w fun e w' => e = .returned (.tuple #[.agg #[.int .i64 0, .int .i64 0, .int .i64 0, .int .i64 0, .int .i64 0, .int .i32 0, .string ⟨#[]⟩], .bool false]) ∧ Below w.heap.size w w' := by
  obtain ⟨b, hb⟩ : ∃ b, w.heap.size = b := ⟨_, rfl⟩
  obtain ⟨W1, hW1⟩ : ∃ W1, w.alloc (.cells #[.int .i64 0, .int .i64 0, .int .i64 0, .int .i64 0, .int .i64 0, .int .i32 0, .string ⟨#[]⟩] 39) = W1 := ⟨_, rfl⟩
  have hb1 : Below w.heap.size w W1 := by rw [← hW1]; exact (Below.refl _ _).alloc (Nat.le_refl _) _
  have hn1 : W1.heap[b]? = some (.cells #[.int .i64 0, .int .i64 0, .int .i64 0, .int .i64 0, .int .i64 0, .int .i32 0, .string ⟨#[]⟩] 39 (0, 0)) := by rw [← hW1, ← hb]; exact heap_alloc_new w _
  obtain ⟨u0, u1, u2, u3, u4, u5, u6, uf⟩ := box7 hn1
  have HB1 := Lib.hid hb1
  have HN1 := Lib.hid hn1
  have j0 := setCell_idR (i := 0) (v := (.int .i64 0)) hn1 rfl
  have j1 := setCell_idR (i := 1) (v := (.int .i64 0)) hn1 rfl
  have j2 := setCell_idR (i := 2) (v := (.int .i64 0)) hn1 rfl
  have j3 := setCell_idR (i := 3) (v := (.int .i64 0)) hn1 rfl
  have j4 := setCell_idR (i := 4) (v := (.int .i64 0)) hn1 rfl
  have j5 := setCell_idR (i := 5) (v := (.int .i32 0)) hn1 rfl
  have j6 := setCell_idR (i := 6) (v := (.string ⟨#[]⟩)) hn1 rfl
  have HJ := Lib.hid (And.intro j0 (And.intro j1 (And.intro j2 (And.intro j3 (And.intro j4 (And.intro j5 j6))))))
  have HLN := Lib.hid (HL W1 hb1)
  have d1 : decide (i < 0) = false := by simp; omega
  have d1' : ¬ i < 0 := by omega
  clear hb1 hn1 j0 j1 j2 j3 j4 j5 j6 HL
  go_enter Try.func12, Try.ntmps12
  go_wp2_with (go_at_call 11; (with_reducible refine HLN.out.mono ?_); rintro e w5 ⟨rfl, rfl⟩)
  rw [HJ.out.1, HJ.out.2.1, HJ.out.2.2.1, HJ.out.2.2.2.1, HJ.out.2.2.2.2.1, HJ.out.2.2.2.2.2.1, HJ.out.2.2.2.2.2.2]
  try simp only [Exit.inBlock, Exit.then]
  refine bodyPost_ret (results_line _ _ b _ _ rfl rfl HN1.out rfl) rfl ?_
  exact ⟨rfl, HB1.out⟩
set_option maxHeartbeats 3200000 in
theorem line_yes (w : World) (m : Nat) (LA : Option Addr) (ln lc M : Nat) (words : Int) (h : ImAt w m LA ln lc M words) (ls : List Ln) (hL : LnsAt w LA ln ls) (hln : ln ≤ 1000) (k : Nat) (l : Ln) (hl : ls[k]? = some l) :
    Calls Try.prog 12 #[.pointer (some ⟨m, 0, none⟩), .int .i64 (k : Int)] w fun e w' => e = .returned (.tuple #[l.val, .bool true]) ∧ Below w.heap.size w w' := by
  obtain ⟨b, hb⟩ : ∃ b, w.heap.size = b := ⟨_, rfl⟩
  obtain ⟨W1, hW1⟩ : ∃ W1, w.alloc (.cells #[.int .i64 0, .int .i64 0, .int .i64 0, .int .i64 0, .int .i64 0, .int .i32 0, .string ⟨#[]⟩] 39) = W1 := ⟨_, rfl⟩
  have hb1 : Below w.heap.size w W1 := by rw [← hW1]; exact (Below.refl _ _).alloc (Nat.le_refl _) _
  have hn1 : W1.heap[b]? = some (.cells #[.int .i64 0, .int .i64 0, .int .i64 0, .int .i64 0, .int .i64 0, .int .i32 0, .string ⟨#[]⟩] 39 (0, 0)) := by rw [← hW1, ← hb]; exact heap_alloc_new w _
  obtain ⟨u0, u1, u2, u3, u4, u5, u6, uf⟩ := box7 hn1
  have HB1 := Lib.hid hb1
  have HN1 := Lib.hid hn1
  have hi1 : ImAt W1 m LA ln lc M words := (hb1.block m (Array.getElem?_eq_some_iff.1 h).1).trans h
  have HLN := Lib.hid (len_any W1 m LA ln lc M words hi1)
  obtain ⟨y0, y1, y2, y3⟩ := hi1.cells
  have hkl : k < ln := by have := (List.getElem?_eq_some_iff.1 hl).1; have := hL.1; omega
  have d1 : decide ((k : Int) < 0) = false := by simp
  have d1' : ¬ (k : Int) < 0 := by omega
  have d2 : ¬ (ln : Int) ≤ (k : Int) := by omega
  have hk0 : (0 : Int) ≤ (k : Int) := by omega
  have hk1 : (k : Int) < (ln : Int) := by omega
  obtain ⟨g, off, rfl, hg, hc⟩ := (hL.below hb1).2 (by omega)
  have hcell := fun j u hj => hc k _ hl j u hj
  obtain ⟨lk, lo, ld, la, lb, lnn, lsym⟩ := l
  have c0 := hcell 0 _ rfl
  have c1 := hcell 1 _ rfl
  have c2 := hcell 2 _ rfl
  have c3 := hcell 3 _ rfl
  have c4 := hcell 4 _ rfl
  have c5 := hcell 5 _ rfl
  have c6 := hcell 6 _ rfl
  rw [Nat.add_zero] at c0
  obtain ⟨W9, hW9⟩ : ∃ W9, W1.setCells b 0 (Ln.cells ⟨lk, lo, ld, la, lb, lnn, lsym⟩) = W9 := ⟨_, rfl⟩
  have hc9 : Chg [b] W1 W9 := by rw [← hW9]; exact chg_cells W1 b _ _
  rw [setCells7] at hW9
  have hn9 : W9.heap[b]? = some (.cells #[.int .i64 lk, .int .i64 lo, .int .i64 ld, .int .i64 la, .int .i64 lb, .int .i32 lnn, .string lsym] 39 (0, 0)) := by
    rw [← hW9, heap_setCell_same _ b _ _ _ _ (heap_setCell_same _ b _ _ _ _ (heap_setCell_same _ b _ _ _ _ (heap_setCell_same _ b _ _ _ _ (heap_setCell_same _ b _ _ _ _ (heap_setCell_same _ b _ _ _ _ (heap_setCell_same W1 b _ _ _ _ hn1))))))]
    rfl
  have HW9 := Lib.hid hW9
  have HN9 := Lib.hid hn9
  have HB9 : Hid (Below w.heap.size w W9) := Lib.hid (hb1.trans (hc9.toBelow (fun k hk => by rw [List.mem_singleton] at hk; omega) hb1.size))
  clear hb1 hn1 h hi1 hL hl hg hc hcell hW9 hc9 hn9
  go_enter Try.func12, Try.ntmps12
  go_wp2_with (go_at_call 11; (with_reducible refine HLN.out.mono ?_); rintro e w5 ⟨rfl, rfl⟩)
  rw [HW9.out]
  try simp only [Exit.inBlock, Exit.then]
  refine bodyPost_ret (results_line _ _ b _ _ rfl rfl HN9.out rfl) rfl ?_
  exact ⟨rfl, HB9.out⟩
end Rv
end Go.Proofs.Ytmedhibjkbahpaa
namespace Go.Proofs.Ytmedhibjkbahpaa
open Go.RowKit
set_option linter.unusedVariables false
set_option linter.unusedSimpArgs false
set_option maxRecDepth 100000
open Rv in
theorem Rv.small_of {gs : List Gl} {st : Int} {ls : List Ln} (h : smallB gs st ls = true) : ls.length ≤ 300 ∧ gs.length ≤ 70 ∧ (∀ g ∈ gs, g.name.size ≤ 200) ∧ (∀ l ∈ ls, l.s.size ≤ 200) ∧ st ≤ 65536 := by
  unfold smallB lightB at h
  simp only [Bool.and_eq_true, decide_eq_true_eq, List.all_eq_true, lightG, lightL] at h
  exact ⟨h.1.1.1.1, h.1.1.1.2, h.1.1.2, h.1.2, h.2⟩
open Rv in
theorem Rv.datF_all : ∀ (gs : List Gl) (c : Int), (datF c gs).length = gs.length ∧ ((∀ g ∈ gs, g.name.size ≤ 200) → ∀ t ∈ datF c gs, t.name.size ≤ 200)
  | [], c => ⟨rfl, fun _ t ht => (by cases ht)⟩
  | g :: gs, c => by
    obtain ⟨h1, h2⟩ := Rv.datF_all gs (c + max 1 g.size)
    rw [datF]
    refine ⟨by simp [h1], fun h t ht => ?_⟩
    rcases List.mem_cons.1 ht with rfl | ht
    · exact h g (List.mem_cons_self ..)
    · exact h2 (fun x hx => h x (List.mem_cons_of_mem _ hx)) t ht
open Rv in
theorem Rv.labF_all : ∀ (ls : List Ln) (c : Nat), (labF c ls).length ≤ ls.length ∧ ((∀ l ∈ ls, l.s.size ≤ 200) → ∀ t ∈ labF c ls, t.name.size ≤ 200)
  | [], c => ⟨Nat.le_refl _, fun _ t ht => (by cases ht)⟩
  | l :: ls, c => by
    rw [labF]
    split
    · obtain ⟨h1, h2⟩ := Rv.labF_all ls c
      refine ⟨by simp; omega, fun h t ht => ?_⟩
      rcases List.mem_cons.1 ht with rfl | ht
      · exact h l (List.mem_cons_self ..)
      · exact h2 (fun x hx => h x (List.mem_cons_of_mem _ hx)) t ht
    · obtain ⟨h1, h2⟩ := Rv.labF_all ls (c + 1)
      exact ⟨by simp; omega, fun h t ht => h2 (fun x hx => h x (List.mem_cons_of_mem _ hx)) t ht⟩
open Rv in
theorem Rv.load_ss {b : Bool} {gs : List Gl} {st : Int} {ls L : List Ln} {ss : List Sy} {words : Int} (h : loadR b gs st ls = .ok L ss words) : ss = datF 0 gs ++ labF 0 ls := by
  unfold loadR at h
  simp only [foldl_GR, foldl_LR, List.nil_append, List.length_nil, Int.zero_add] at h
  split at h
  · split at h
    · split at h
      · cases h
      · split at h
        · cases h
        · cases h; rfl
    · cases h
  · cases h
open Rv in
theorem Rv.load_names {b : Bool} {gs : List Gl} {st : Int} {ls L : List Ln} {ss : List Sy} {words : Int} (h : loadR b gs st ls = .ok L ss words) (hn : gs.length ≤ 70 ∧ ls.length ≤ 300 ∧ (∀ g ∈ gs, g.name.size ≤ 200) ∧ ∀ l ∈ ls, l.s.size ≤ 200) : ∀ t ∈ ss, t.name.size ≤ 1000000 := by
  rw [load_ss h]
  intro t ht
  rcases List.mem_append.1 ht with q | q
  · have := (datF_all gs 0).2 hn.2.2.1 t q; omega
  · have := (labF_all ls 0).2 hn.2.2.2 t q; omega
open Rv in
theorem Rv.load_syms {b : Bool} {gs : List Gl} {st : Int} {ls L : List Ln} {ss : List Sy} {words : Int} (h : loadR b gs st ls = .ok L ss words) (h1 : gs.length ≤ 70) (h2 : ls.length ≤ 300) : ss.length ≤ 1000 := by
  rw [load_ss h, List.length_append, (datF_all gs 0).1]
  have := (labF_all ls 0).1
  omega
open Rv in
set_option maxHeartbeats 12800000 in
theorem riscvLoads_walk (GA LA : Option Addr) (gn gc ln lc : Nat) (st : Int) (x : ByteArray) (W : World) (gs : List Gl) (ls : List Ln) (hG : GlsAt W GA gn gs) (hL : LnsAt W LA ln ls) (hgn : gn ≤ 9223372036854775807) (hln : ln ≤ 9223372036854775807) (hx : x.size ≤ maxLen) (hnn : ∀ l ∈ ls, -2147483648 ≤ l.n ∧ l.n ≤ 2147483647) :
    Calls Try.prog 3 #[.agg #[.slice GA gn gc, .int .i64 st, .slice LA ln lc], .string x] W fun e w' => e = .returned (.bool true) ∧ Below W.heap.size W w' := by
  obtain ⟨v, hv⟩ : ∃ v, W.heap.size = v := ⟨_, rfl⟩
  obtain ⟨W1, hW1⟩ : ∃ W1, W.alloc (.cells #[.slice GA gn gc, .int .i64 st, .slice LA ln lc] 25) = W1 := ⟨_, rfl⟩
  have hb1 : Below W.heap.size W W1 := by rw [← hW1]; exact (Below.refl _ _).alloc (Nat.le_refl _) _
  have hbx : W1.heap[v]? = some (.cells #[.slice GA gn gc, .int .i64 st, .slice LA ln lc] 25 (0, 0)) := by rw [← hW1, ← hv]; exact heap_alloc_new W _
  have hvl : v < W1.heap.size := (Array.getElem?_eq_some_iff.1 hbx).1
  have HX : Hid (∀ V, Below W1.heap.size W1 V → V.cell? ⟨v, 0, none⟩ = some (.slice GA gn gc) ∧ V.cell? ⟨v, 1, none⟩ = some (.int .i64 st) ∧ V.cell? ⟨v, 2, none⟩ = some (.slice LA ln lc)) := Lib.hid (fun V hV => box3 ((hV.block v hvl).trans hbx))
  obtain ⟨x0, x1, x2⟩ := HX.out W1 (Below.refl _ _)
  have HSM := Lib.hid (small_any W1 GA LA gn gc ln lc st gs ls (hG.below hb1) (hL.below hb1) hgn hln)
  have HB1 := Lib.hid hb1
  have HG := Lib.hid (hG.below hb1)
  have HL := Lib.hid (hL.below hb1)
  have HNN := Lib.hid hnn
  have HXS : Hid (x.size ≤ maxLen) := Lib.hid hx
  clear hb1 hbx hvl hG hL hnn hx
  cases hsm : smallB gs st ls with
  | false =>
    rw [hsm] at HSM
    clear hsm hgn hln
    go_enter Try.func3, Try.ntmps3
    go_wp2_with (first | (go_at_call 7; (with_reducible refine HSM.out.mono ?_); rintro e w2 ⟨rfl, hb2⟩; have HB2 := Lib.hid (HB1.out.trans (hb2.mono HB1.out.size)); clear hb2) | (go_at_call 8; refine (lives18 _).mono ?_; rintro e w9 ⟨rfl, hb9⟩; have HB9 := Lib.hid (HB2.out.trans (hb9.mono (HB2.out).size)); clear hb9))
    go_ret
    exact ⟨rfl, HB9.out⟩
  | true =>
    rw [hsm] at HSM
    obtain ⟨m1, m2, m3, m4, m5⟩ := small_of hsm
    rw [HL.out.1] at m1
    rw [HG.out.1] at m2
    have HLD := Lib.hid (fun V (hV : Below W1.heap.size W1 V) => load_any mayGl mayLn V GA LA gn gc ln lc st gs ls (HG.out.below hV) (HL.out.below hV) (by omega) (by omega) (fun g hg U => mayGl_any g (by have := m3 g hg; omega) U) (fun l hl U => mayLnP_any l (by have := m4 l hl; omega) (HNN.out l hl) U) (fun g _ h => by unfold mayGl at h; simp at h; omega) (fun g hg => by have := m3 g hg; omega) (fun l hl => by have := m4 l hl; omega) HNN.out)
    have HRD := Lib.hid (fun V (hV : Below W1.heap.size W1 V) => refLoad_any V GA LA gn gc ln lc st gs ls (HG.out.below hV) (HL.out.below hV) (by omega) (by omega) (fun g hg => by have := m3 g hg; omega) (fun l hl => by have := m4 l hl; omega) HNN.out)
    have hls : ls.length ≤ 1000 := by have := HL.out.1; omega
    have HLS := Lib.hid hls
    have HNM : Hid (gs.length ≤ 70 ∧ ls.length ≤ 300 ∧ (∀ g ∈ gs, g.name.size ≤ 200) ∧ ∀ l ∈ ls, l.s.size ≤ 200) := Lib.hid ⟨by have := HG.out.1; omega, by have := HL.out.1; omega, m3, m4⟩
    clear m1 m2 m3 m4 m5 hgn hln hsm hls
    have hsame : mayA mayGl mayLn gs st ls = false ∧ loadI mayGl mayLn gs st ls = .err 1 ∧ loadR (mayA mayGl mayLn gs st ls) gs st ls = .err 1 ∨ mayA mayGl mayLn gs st ls = true ∧ SameLoad gs st ls (loadR (mayA mayGl mayLn gs st ls) gs st ls) := by
      cases hm : mayA mayGl mayLn gs st ls with
      | false => exact .inl ⟨rfl, by unfold loadI; rw [hm]; rfl, rfl⟩
      | true => exact .inr ⟨rfl, load_same gs st ls hm HLS.out⟩
    have herr : (∃ k, loadI mayGl mayLn gs st ls = .err k ∧ loadR (mayA mayGl mayLn gs st ls) gs st ls = .err k) ∨ ∃ L ss words, loadR (mayA mayGl mayLn gs st ls) gs st ls = .ok L ss words ∧ loadI mayGl mayLn gs st ls = .ok L (layG ls gs).f words ∧ L.length ≤ ls.length ∧ ∀ x z, (layG ls gs).f x = some z ↔ ∃ t ∈ ss, t.name = x ∧ t.pos = z := by
      rcases hsame with ⟨-, h1, h2⟩ | ⟨-, h⟩
      · exact .inl ⟨1, h1, h2⟩
      · cases hr : loadR (mayA mayGl mayLn gs st ls) gs st ls with
        | err k => rw [hr] at h; exact .inl ⟨k, h, rfl⟩
        | ok L ss words => rw [hr] at h; exact .inr ⟨L, ss, words, rfl, h.1, h.2.1, h.2.2⟩
    clear hsame
    rcases herr with ⟨k, h1, h2⟩ | ⟨L, ss, words, h1, h2, hLl, hf⟩
    · rw [h1] at HLD
      rw [h2] at HRD
      clear h1 h2
      go_enter Try.func3, Try.ntmps3
      go_upto_region 5 with (first
        | (go_at_call 7; (with_reducible refine HSM.out.mono ?_); rintro e w2 ⟨rfl, hb2⟩; obtain ⟨y0, y1, y2⟩ := HX.out w2 hb2; have HB2 := Lib.hid hb2; clear hb2 x0 x1 x2)
        | (go_at_call 9; (with_reducible refine (HLD.out _ HB2.out).mono ?_); rintro e w3 ⟨rfl, hb3⟩; have hb13 := HB2.out.trans (hb3.mono HB2.out.size); obtain ⟨z0, z1, z2⟩ := HX.out w3 hb13; have HB3 := Lib.hid hb13; clear hb3 hb13 y0 y1 y2)
        | (go_at_call 10; (with_reducible refine (HRD.out _ HB3.out).mono ?_); rintro e w4 ⟨rfl, hb4⟩; have hb04 := HB3.out.trans (hb4.mono HB3.out.size); obtain ⟨bi, hbi⟩ : ∃ bi, w4.heap.size = bi := ⟨_, rfl⟩; obtain ⟨W5, hW5⟩ : ∃ W5, w4.alloc (.cells #[.slice none 0 0, .slice none 0 0, .int .i64 0] 34) = W5 := ⟨_, rfl⟩; have hn5 : W5.heap[bi]? = some (.cells #[.slice none 0 0, .slice none 0 0, .int .i64 0] 34 (0, 0)) := (by rw [← hW5, ← hbi]; exact heap_alloc_new w4 _); have hb45 : Below w4.heap.size w4 W5 := (by rw [← hW5]; exact (Below.refl _ _).alloc (Nat.le_refl _) _); have HB5 := Lib.hid (HB1.out.trans ((hb04.trans (hb45.mono hb04.size)).mono HB1.out.size)); have HI := Lib.hid (fun V (hV : Below W5.heap.size W5 V) => box3 ((hV.block bi (Array.getElem?_eq_some_iff.1 hn5).1).trans hn5)); obtain ⟨i0, i1, i2⟩ := HI.out W5 (Below.refl _ _); have fz := fun j => frozen_of_row _ bi j _ _ hn5; have e0 := setCell_idR (i := 0) (v := .slice none 0 0) hn5 rfl; have e1 := setCell_idR (i := 1) (v := .slice none 0 0) hn5 rfl; have e2 := setCell_idR (i := 2) (v := .int .i64 0) hn5 rfl; clear hb4 hb04 hb45 hn5 z0 z1 z2))
      have HC := Lib.hid (fun j => (⟨(Below.refl W5.heap.size W5).os, (Below.refl W5.heap.size W5).tape, (Below.refl W5.heap.size W5).output, (Below.refl W5.heap.size W5).size, (Below.refl W5.heap.size W5).block⟩ : Below W5.heap.size W5 (W5.drewN j)))
      go_quiet ((go_at_call 11; exact quiet_left ((len_nil _).mono fun _ _ h => ⟨h.1, h.2.symm⟩)))
      go_upto_region 8 with fail
      clear i0 i1 i2 hW5 fz e0 e1 e2
      go_loopw [51] (fun i wr => i = .int .i64 0 ∧ Hid (Below W5.heap.size W5 wr)) (fun _ _ => 0)
      case atStart => exact ⟨rfl, Lib.hid (HC.out _)⟩
      case round =>
        obtain ⟨rfl, HR⟩ := hrel
        obtain ⟨i0, i1, i2⟩ := HI.out wr HR.out
        clear HC
        go_upto_region 15 with fail
        clear i0 i1 i2
        have HR1 := HR
        clear HR
        go_loopw [73] (fun i wr => i = .int .i64 0 ∧ Hid (Below W5.heap.size W5 wr)) (fun _ _ => 0)
        case atStart => exact ⟨rfl, Lib.hid HR1.out⟩
        case round =>
          obtain ⟨rfl, HR⟩ := hrel
          obtain ⟨i0, i1, i2⟩ := HI.out wr HR.out
          clear HR1
          have HRA : Hid (∀ V, Calls Try.prog 14 #[.slice none 0 0, .string x] V fun e w' => e = .returned (.int .i64 (-1)) ∧ Below V.heap.size V w') := Lib.hid (fun V => refAt_any V none 0 0 [] ⟨rfl, fun h => by omega⟩ (by omega) x (by have := HXS.out; unfold maxLen at this; omega))
          go_upto_region 22 with (go_at_call 13; (with_reducible refine (at_nil x _).mono ?_); rintro e w6 ⟨rfl, rfl⟩)
          go_upto_region 23 with (go_at_call 12; refine (line_neg none (-1) (by decide) _).mono ?_; rintro e w7 ⟨rfl, hb7⟩; have hb57 := HR.out.trans (hb7.mono HR.out.size); obtain ⟨b8, b8s⟩ : ∃ b, w7.heap.size = b := ⟨_, rfl⟩; obtain ⟨W8, b8W⟩ : ∃ V, w7.alloc (.cells #[.int .i64 0, .int .i64 0, .int .i64 0, .int .i64 0, .int .i64 0, .int .i32 0, .string ⟨#[]⟩] 39) = V := ⟨_, rfl⟩; have b8n : W8.heap[b8]? = some (.cells #[.int .i64 0, .int .i64 0, .int .i64 0, .int .i64 0, .int .i64 0, .int .i32 0, .string ⟨#[]⟩] 39 (0, 0)) := (by rw [← b8W, ← b8s]; exact heap_alloc_new w7 _); have HB8 := Lib.hid (hb57.trans (((Below.refl w7.heap.size w7).alloc (Nat.le_refl _) (.cells #[.int .i64 0, .int .i64 0, .int .i64 0, .int .i64 0, .int .i64 0, .int .i32 0, .string ⟨#[]⟩] 39)).mono hb57.size)); rw [b8W] at HB8; obtain ⟨b8c0, b8c1, b8c2, b8c3, b8c4, b8c5, b8c6, b8f⟩ := box7 b8n; have b8e0 := setCell_idR (i := 0) (v := (.int .i64 0)) b8n rfl; have b8e1 := setCell_idR (i := 1) (v := (.int .i64 0)) b8n rfl; have b8e2 := setCell_idR (i := 2) (v := (.int .i64 0)) b8n rfl; have b8e3 := setCell_idR (i := 3) (v := (.int .i64 0)) b8n rfl; have b8e4 := setCell_idR (i := 4) (v := (.int .i64 0)) b8n rfl; have b8e5 := setCell_idR (i := 5) (v := (.int .i32 0)) b8n rfl; have b8e6 := setCell_idR (i := 6) (v := (.string ⟨#[]⟩)) b8n rfl; clear b8n; clear hb7 hb57 i0 i1 i2; obtain ⟨i0, i1, i2⟩ := HI.out W8 HB8.out)
          go_upto_region 24 with (go_at_call 12; refine (line_big none 0 0 (by decide) (by decide) _ (fun V _ => len_nil V)).mono ?_; rintro e w10 ⟨rfl, hb10⟩; have hb510 := HB8.out.trans (hb10.mono HB8.out.size); obtain ⟨b11, b11s⟩ : ∃ b, w10.heap.size = b := ⟨_, rfl⟩; obtain ⟨W11, b11W⟩ : ∃ V, w10.alloc (.cells #[.int .i64 0, .int .i64 0, .int .i64 0, .int .i64 0, .int .i64 0, .int .i32 0, .string ⟨#[]⟩] 39) = V := ⟨_, rfl⟩; have b11n : W11.heap[b11]? = some (.cells #[.int .i64 0, .int .i64 0, .int .i64 0, .int .i64 0, .int .i64 0, .int .i32 0, .string ⟨#[]⟩] 39 (0, 0)) := (by rw [← b11W, ← b11s]; exact heap_alloc_new w10 _); have HB11 := Lib.hid (hb510.trans (((Below.refl w10.heap.size w10).alloc (Nat.le_refl _) (.cells #[.int .i64 0, .int .i64 0, .int .i64 0, .int .i64 0, .int .i64 0, .int .i32 0, .string ⟨#[]⟩] 39)).mono hb510.size)); rw [b11W] at HB11; obtain ⟨b11c0, b11c1, b11c2, b11c3, b11c4, b11c5, b11c6, b11f⟩ := box7 b11n; have b11e0 := setCell_idR (i := 0) (v := (.int .i64 0)) b11n rfl; have b11e1 := setCell_idR (i := 1) (v := (.int .i64 0)) b11n rfl; have b11e2 := setCell_idR (i := 2) (v := (.int .i64 0)) b11n rfl; have b11e3 := setCell_idR (i := 3) (v := (.int .i64 0)) b11n rfl; have b11e4 := setCell_idR (i := 4) (v := (.int .i64 0)) b11n rfl; have b11e5 := setCell_idR (i := 5) (v := (.int .i32 0)) b11n rfl; have b11e6 := setCell_idR (i := 6) (v := (.string ⟨#[]⟩)) b11n rfl; clear b11n; clear hb10 hb510 i0 i1 i2; obtain ⟨i0, i1, i2⟩ := HI.out W11 HB11.out)
          go_wp2_with (first
            | (go_at_call 14; (with_reducible refine (HRA.out _).mono ?_); rintro e w12 ⟨rfl, hb12⟩; have HB12 := Lib.hid (HB11.out.trans (hb12.mono HB11.out.size)); clear hb12)
            | (go_at_call 8; refine (lives18 _).mono ?_; rintro e w13 ⟨rfl, hb13⟩; have HB13 := Lib.hid (HB12.out.trans (hb13.mono HB12.out.size)); clear hb13))
          go_ret
          exact ⟨rfl, HB5.out.trans (HB13.out.mono HB5.out.size)⟩
    · rw [h2] at HLD
      rw [h1] at HRD
      have HF := Lib.hid hf
      have HSZ : Hid (∀ t ∈ ss, t.name.size ≤ 1000000) := Lib.hid (load_names h1 HNM.out)
      have HQS : Hid (ss.length ≤ 1000) := Lib.hid (load_syms h1 HNM.out.1 HNM.out.2.1)
      obtain ⟨ql, hql⟩ : ∃ ql, L.length = ql := ⟨_, rfl⟩
      obtain ⟨qs, hqs⟩ : ∃ qs, ss.length = qs := ⟨_, rfl⟩
      have HQL := Lib.hid (And.intro hql hqs)
      have hq1 : (ql : Int) ≤ 1000 := by have := HLS.out; omega
      clear h1 h2 hf hLl
      go_enter Try.func3, Try.ntmps3
      go_upto_region 5 with (first
        | (go_at_call 7; (with_reducible refine HSM.out.mono ?_); rintro e w2 ⟨rfl, hb2⟩; obtain ⟨y0, y1, y2⟩ := HX.out w2 hb2; have HB2 := Lib.hid hb2; clear hb2 x0 x1 x2)
        | (go_at_call 9; (with_reducible refine (HLD.out _ HB2.out).mono ?_); rintro e w3 ⟨m, M, A, c, n, rfl, hR3⟩; have hb13 := HB2.out.trans (hR3.below.mono HB2.out.size); obtain ⟨z0, z1, z2⟩ := HX.out w3 hb13; have HB3 := Lib.hid hb13; have HR3 := Lib.hid hR3; clear hR3 hb13 y0 y1 y2)
        | (go_at_call 10; (with_reducible refine (HRD.out _ HB3.out).mono ?_); rintro e w4 ⟨LA2, lc2, SA, sc, he, hb4, hL4, hS4⟩; rw [hql, hqs] at he; rw [hql] at hL4; rw [hqs] at hS4; subst he; have hb04 := HB3.out.trans (hb4.mono HB3.out.size); obtain ⟨bi, hbi⟩ : ∃ bi, w4.heap.size = bi := ⟨_, rfl⟩; obtain ⟨W5, hW5⟩ : ∃ W5, w4.alloc (.cells #[.slice none 0 0, .slice none 0 0, .int .i64 0] 34) = W5 := ⟨_, rfl⟩; have hn5 : W5.heap[bi]? = some (.cells #[.slice none 0 0, .slice none 0 0, .int .i64 0] 34 (0, 0)) := (by rw [← hW5, ← hbi]; exact heap_alloc_new w4 _); have hb45 : Below w4.heap.size w4 W5 := (by rw [← hW5]; exact (Below.refl _ _).alloc (Nat.le_refl _) _); obtain ⟨W6, hW6⟩ : ∃ W6, ((W5.setCell ⟨bi, 0, none⟩ (.slice LA2 ql lc2)).setCell ⟨bi, 1, none⟩ (.slice SA qs sc)).setCell ⟨bi, 2, none⟩ (.int .i64 words) = W6 := ⟨_, rfl⟩; have hn6 : W6.heap[bi]? = some (.cells #[.slice LA2 ql lc2, .slice SA qs sc, .int .i64 words] 34 (0, 0)) := (by rw [← hW6, heap_setCell_same _ bi 2 _ _ _ (heap_setCell_same _ bi 1 _ _ _ (heap_setCell_same W5 bi 0 _ _ _ hn5))]; rfl); have hc6 : Chg [bi] W5 W6 := (by rw [← hW6]; exact (((Chg.refl [bi] W5).setCell bi 0 _ (.inl (by simp))).setCell bi 1 _ (.inl (by simp))).setCell bi 2 _ (.inl (by simp))); have hb46 : Below w4.heap.size w4 W6 := hb45.trans (hc6.toBelow (fun k hk => by rw [List.mem_singleton] at hk; omega) hb45.size); have HB6 := Lib.hid (HB1.out.trans ((hb04.trans (hb46.mono hb04.size)).mono HB1.out.size)); have HI := Lib.hid (fun V (hV : Below W6.heap.size W6 V) => box3 ((hV.block bi (Array.getElem?_eq_some_iff.1 hn6).1).trans hn6)); obtain ⟨k0, k1, k2⟩ := box3 hn5; obtain ⟨i0, i1, i2⟩ := HI.out W6 (Below.refl _ _); have fz := fun j => frozen_of_row _ bi j _ _ hn5; have HR6 := Lib.hid ((HR3.out.grow hb4).grow hb46); have HL6 := Lib.hid (hL4.below hb46); have HS6 := Lib.hid (hS4.below hb46); clear hb4 hb04 hb45 hb46 hc6 hn5 hn6 hL4 hS4 z0 z1 z2))
      have HIM : Hid (∀ j, ImAt (W6.drewN j) m A ql c M words) := Lib.hid (fun j => by have := HR6.out.im; rw [hql] at this; exact this)
      have HC := Lib.hid (fun j => (⟨(Below.refl W6.heap.size W6).os, (Below.refl W6.heap.size W6).tape, (Below.refl W6.heap.size W6).output, (Below.refl W6.heap.size W6).size, (Below.refl W6.heap.size W6).block⟩ : Below W6.heap.size W6 (W6.drewN j)))
      clear hql hqs
      go_quiet ((go_at_call 11; exact quiet_left ((len_any _ m A ql c M words (HIM.out _)).mono fun _ _ h => ⟨h.1, h.2.symm⟩)))
      go_upto_region 8 with fail
      have HIMA : Hid (∀ V, Below W6.heap.size W6 V → ImAt V m A ql c M words ∧ LnsAt V A ql L ∧ SymAt V M n (layG ls gs).f) := Lib.hid (fun V hV => ⟨(hV.block m (Array.getElem?_eq_some_iff.1 (HIM.out 0)).1).trans (HIM.out 0), (by have := SLine.lnsAt HR6.out.line; rw [HQL.out.1] at this; exact this.below hV), HR6.out.sym.same (hV.block M HR6.out.sym.lt)⟩)
      clear i0 i1 i2 hW5 hW6 fz k0 k1 k2 HIM
      go_loopw [51] (fun i wr => ∃ k : Nat, k ≤ ql ∧ i = .int .i64 k ∧ Hid (Below W6.heap.size W6 wr)) (fun i _ => ql - (intOf i).toNat)
      case atStart => exact ⟨0, by omega, rfl, Lib.hid (HC.out _)⟩
      case round =>
        obtain ⟨k, hk, rfl, HR⟩ := hrel
        clear HC
        rcases Nat.lt_or_ge k ql with hlt | hge
        · have hlt' : (k : Int) < (ql : Int) := by omega
          have hk0 : (0 : Int) ≤ (k : Int) := by omega
          obtain ⟨l, hl⟩ : ∃ l, L[k]? = some l := ⟨_, List.getElem?_eq_getElem (by have := HQL.out.1; omega)⟩
          obtain ⟨g, off, rfl, hg, hc⟩ := HL6.out.2 (by omega)
          have hcell := fun j u hj => (HR.out.cell (p := ⟨g, off + k * 7 + j, none⟩) hg).trans (hc k _ hl j u hj)
          have HLL := Lib.hid hl
          obtain ⟨lk, lo, ld, la, lb, lnn, lsym⟩ := l
          have d0 := hcell 0 _ rfl
          have d1 := hcell 1 _ rfl
          have d2 := hcell 2 _ rfl
          have d3 := hcell 3 _ rfl
          have d4 := hcell 4 _ rfl
          have d5 := hcell 5 _ rfl
          have d6 := hcell 6 _ rfl
          rw [Nat.add_zero] at d0
          obtain ⟨bx, hbx⟩ : ∃ bx, wr.heap.size = bx := ⟨_, rfl⟩
          obtain ⟨W7, hW7⟩ : ∃ W7, wr.alloc (.cells #[.int .i64 lk, .int .i64 lo, .int .i64 ld, .int .i64 la, .int .i64 lb, .int .i32 lnn, .string lsym] 39) = W7 := ⟨_, rfl⟩
          have hb7 : Below wr.heap.size wr W7 := by rw [← hW7]; exact (Below.refl _ _).alloc (Nat.le_refl _) _
          have hn7 : W7.heap[bx]? = some (.cells #[.int .i64 lk, .int .i64 lo, .int .i64 ld, .int .i64 la, .int .i64 lb, .int .i32 lnn, .string lsym] 39 (0, 0)) := by rw [← hW7, ← hbx]; exact heap_alloc_new wr _
          have hb67 := HR.out.trans (hb7.mono HR.out.size)
          obtain ⟨q1, q2, q3⟩ := HIMA.out W7 hb67
          have HLY := Lib.hid (line_yes W7 m A ql c M words q1 L q2 (by omega) k _ HLL.out)
          unfold Ln.val at HLY
          dsimp only at HLY
          have HB7 := Lib.hid hb67
          have HN7 := Lib.hid hn7
          clear hc hg hl hcell hb7 hn7 hb67 q1 q2 q3
          go_upto_region 11 with (go_at_call 12; (with_reducible refine HLY.out.mono ?_); rintro e w8 ⟨rfl, hb8⟩; have hb68 := HB7.out.trans (hb8.mono HB7.out.size); have hn8 := (hb8.block bx (Array.getElem?_eq_some_iff.1 HN7.out).1).trans HN7.out; obtain ⟨b9, hb9s⟩ : ∃ b, w8.heap.size = b := ⟨_, rfl⟩; obtain ⟨W9, hW9⟩ : ∃ V, w8.alloc (.cells #[.int .i64 0, .int .i64 0, .int .i64 0, .int .i64 0, .int .i64 0, .int .i32 0, .string ⟨#[]⟩] 39) = V := ⟨_, rfl⟩; have hn9 : W9.heap[b9]? = some (.cells #[.int .i64 0, .int .i64 0, .int .i64 0, .int .i64 0, .int .i64 0, .int .i32 0, .string ⟨#[]⟩] 39 (0, 0)) := (by rw [← hW9, ← hb9s]; exact heap_alloc_new w8 _); have hb9 : Below w8.heap.size w8 W9 := (by rw [← hW9]; exact (Below.refl _ _).alloc (Nat.le_refl _) _); obtain ⟨p0, p1, p2, p3, p4, p5, p6, pf⟩ := box7 hn9; obtain ⟨W10, hW10⟩ : ∃ V, W9.setCells b9 0 (Ln.cells ⟨lk, lo, ld, la, lb, lnn, lsym⟩) = V := ⟨_, rfl⟩; have hc10 : Chg [b9] W9 W10 := (by rw [← hW10]; exact chg_cells W9 b9 _ _); rw [setCells7] at hW10; have hn10 : W10.heap[b9]? = some (.cells #[.int .i64 lk, .int .i64 lo, .int .i64 ld, .int .i64 la, .int .i64 lb, .int .i32 lnn, .string lsym] 39 (0, 0)) := (by rw [← hW10, heap_setCell_same _ b9 _ _ _ _ (heap_setCell_same _ b9 _ _ _ _ (heap_setCell_same _ b9 _ _ _ _ (heap_setCell_same _ b9 _ _ _ _ (heap_setCell_same _ b9 _ _ _ _ (heap_setCell_same _ b9 _ _ _ _ (heap_setCell_same W9 b9 _ _ _ _ hn9))))))]; rfl); have hb810 : Below w8.heap.size w8 W10 := hb9.trans (hc10.toBelow (fun k hk => by rw [List.mem_singleton] at hk; omega) hb9.size); have hnx := (hb810.block bx (Array.getElem?_eq_some_iff.1 hn8).1).trans hn8; obtain ⟨t0, t1, t2, t3, t4, t5, t6, tf⟩ := box7 hn10; obtain ⟨s0, s1, s2, s3, s4, s5, s6, sf⟩ := box7 hnx; have HB10 := Lib.hid (hb68.trans (hb810.mono hb68.size)); clear hb8 hb68 hn8 hn9 hb9 hc10 hn10 hb810 hnx)
          clear p0 p1 p2 p3 p4 p5 p6 pf hW9 hW10 hW7 d0 d1 d2 d3 d4 d5 d6
          go_wp2_with fail
          go_roundw
          case rel => exact ⟨k + 1, by omega, by go_num, Lib.hid HB10.out⟩
          case measure => simp [intOf] <;> omega
        · obtain rfl : ql = k := by omega
          obtain ⟨i0, i1, i2⟩ := HI.out wr HR.out
          have hqs2 : (qs : Int) ≤ 1000 := by have := HQS.out; have := HQL.out.2; omega
          go_upto_region 15 with fail
          clear i0 i1 i2
          have HR1 := HR
          clear HR
          go_loopw [73] (fun i wr => ∃ k : Nat, k ≤ qs ∧ i = .int .i64 k ∧ Hid (Below W6.heap.size W6 wr)) (fun i _ => qs - (intOf i).toNat)
          case atStart => exact ⟨0, by omega, rfl, Lib.hid HR1.out⟩
          case round =>
            obtain ⟨k, hk, rfl, HR⟩ := hrel
            clear HR1
            rcases Nat.lt_or_ge k qs with hlt | hge
            · have hlt' : (k : Int) < (qs : Int) := by omega
              have hk0 : (0 : Int) ≤ (k : Int) := by omega
              obtain ⟨l, hl⟩ : ∃ l, ss[k]? = some l := ⟨_, List.getElem?_eq_getElem (by have := HQL.out.2; omega)⟩
              obtain ⟨g, off, rfl, hg, hc⟩ := HS6.out.2 (by omega)
              have hcell := fun j u hj => (HR.out.cell (p := ⟨g, off + k * 2 + j, none⟩) hg).trans (hc k _ hl j u hj)
              have hfn : (layG ls gs).f l.name = some l.pos := (HF.out _ _).2 ⟨l, List.mem_of_getElem? hl, rfl, rfl⟩
              have hns := HSZ.out l (List.mem_of_getElem? hl)
              obtain ⟨nm, z⟩ := l
              dsimp only at hfn hns
              have d0 := hcell 0 _ rfl
              have d1 := hcell 1 _ rfl
              rw [Nat.add_zero] at d0
              obtain ⟨bx, hbx⟩ : ∃ bx, wr.heap.size = bx := ⟨_, rfl⟩
              obtain ⟨W7, hW7⟩ : ∃ W7, wr.alloc (.cells #[.string nm, .int .i32 z] 43) = W7 := ⟨_, rfl⟩
              have hb7 : Below wr.heap.size wr W7 := by rw [← hW7]; exact (Below.refl _ _).alloc (Nat.le_refl _) _
              have hn7 : W7.heap[bx]? = some (.cells #[.string nm, .int .i32 z] 43 (0, 0)) := by rw [← hW7, ← hbx]; exact heap_alloc_new wr _
              have u0 : W7.cell? ⟨bx, 0, none⟩ = some (.string nm) := by rw [cell_of_row _ _ 0 _ _ (0, 0) hn7]; rfl
              have u1 : W7.cell? ⟨bx, 1, none⟩ = some (.int .i32 z) := by rw [cell_of_row _ _ 1 _ _ (0, 0) hn7]; rfl
              have hb67 := HR.out.trans (hb7.mono HR.out.size)
              obtain ⟨q1, q2, q3⟩ := HIMA.out W7 hb67
              have HAT := Lib.hid (at_any W7 m A ql c M n words (layG ls gs).f q1 q3 nm (by unfold maxLen; omega))
              rw [hfn] at HAT
              have HAT2 : Hid (Calls Try.prog 13 #[.pointer (some ⟨m, 0, none⟩), .string nm] W7 fun e w' => e = .returned (.tuple #[.int .i32 z, .bool true]) ∧ w' = W7) := HAT
              have HB7 := Lib.hid hb67
              clear hc hg hl hcell hb7 hn7 hb67 q1 q2 q3 hfn hns HAT
              go_wp2_with (go_at_call 13; (with_reducible refine HAT2.out.mono ?_); rintro e w8 ⟨rfl, rfl⟩)
              go_roundw
              case rel => exact ⟨k + 1, by omega, by go_num, Lib.hid HB7.out⟩
              case measure => simp [intOf] <;> omega
            · obtain rfl : qs = k := by omega
              obtain ⟨i0, i1, i2⟩ := HI.out wr HR.out
              obtain ⟨r1, r2, r3⟩ := HIMA.out wr HR.out
              have HAT := Lib.hid (at_any wr m A ql c M n words (layG ls gs).f r1 r3 x HXS.out)
              obtain ⟨pz, hpz⟩ : ∃ pz, posI ss x = pz := ⟨_, rfl⟩
              have HPZ : Hid (((layG ls gs).f x).isSome = decide (0 ≤ pz)) := Lib.hid (by
                rw [← hpz]
                unfold posI
                cases hp : posO ss x with
                | none => rw [f_none HF.out hp]; rfl
                | some j => rw [f_some HF.out hp]; simp)
              have HRA : Hid (∀ V, Below W6.heap.size W6 V → Calls Try.prog 14 #[.slice SA qs sc, .string x] V fun e w' => e = .returned (.int .i64 pz) ∧ Below V.heap.size V w') := Lib.hid (fun V hV => by have := refAt_any V SA qs sc ss (HS6.out.below hV) (by have := HQS.out; have := HQL.out.2; omega) x (by have := HXS.out; unfold maxLen at this; omega); rw [hpz] at this; exact this)
              generalize ((layG ls gs).f x).getD 0 = gz at *
              have hln : ∀ V, Below wr.heap.size wr V → ImAt V m A ql c M words := fun V hV => (HIMA.out V (HR.out.trans (hV.mono HR.out.size))).1
              have HLN := Lib.hid hln
              clear r1 r2 r3 hpz hln
              cases hfs : ((layG ls gs).f x).isSome with
              | true =>
                rw [hfs] at HAT HPZ
                have hpz0 : 0 ≤ pz := of_decide_eq_true HPZ.out.symm
                clear hfs HPZ
                go_upto_region 22 with (go_at_call 13; (with_reducible refine HAT.out.mono ?_); rintro e w6 ⟨rfl, rfl⟩)
                go_upto_region 23 with (go_at_call 12; refine (line_neg (some ⟨m, 0, none⟩) (-1) (by decide) _).mono ?_; rintro e w7 ⟨rfl, hb7⟩; have hb57 := HR.out.trans (hb7.mono HR.out.size); obtain ⟨b8, b8s⟩ : ∃ b, w7.heap.size = b := ⟨_, rfl⟩; obtain ⟨W8, b8W⟩ : ∃ V, w7.alloc (.cells #[.int .i64 0, .int .i64 0, .int .i64 0, .int .i64 0, .int .i64 0, .int .i32 0, .string ⟨#[]⟩] 39) = V := ⟨_, rfl⟩; have b8n : W8.heap[b8]? = some (.cells #[.int .i64 0, .int .i64 0, .int .i64 0, .int .i64 0, .int .i64 0, .int .i32 0, .string ⟨#[]⟩] 39 (0, 0)) := (by rw [← b8W, ← b8s]; exact heap_alloc_new w7 _); have HB8 := Lib.hid (hb57.trans (((Below.refl w7.heap.size w7).alloc (Nat.le_refl _) (.cells #[.int .i64 0, .int .i64 0, .int .i64 0, .int .i64 0, .int .i64 0, .int .i32 0, .string ⟨#[]⟩] 39)).mono hb57.size)); rw [b8W] at HB8; obtain ⟨b8c0, b8c1, b8c2, b8c3, b8c4, b8c5, b8c6, b8f⟩ := box7 b8n; have b8e0 := setCell_idR (i := 0) (v := (.int .i64 0)) b8n rfl; have b8e1 := setCell_idR (i := 1) (v := (.int .i64 0)) b8n rfl; have b8e2 := setCell_idR (i := 2) (v := (.int .i64 0)) b8n rfl; have b8e3 := setCell_idR (i := 3) (v := (.int .i64 0)) b8n rfl; have b8e4 := setCell_idR (i := 4) (v := (.int .i64 0)) b8n rfl; have b8e5 := setCell_idR (i := 5) (v := (.int .i32 0)) b8n rfl; have b8e6 := setCell_idR (i := 6) (v := (.string ⟨#[]⟩)) b8n rfl; clear b8n; clear hb7 hb57 i0 i1 i2; obtain ⟨i0, i1, i2⟩ := HI.out W8 HB8.out)
                go_upto_region 24 with (go_at_call 12; refine (line_big (some ⟨m, 0, none⟩) ql (ql : Int) (by omega) (Int.le_refl _) _ (fun V hV => len_any V m A ql c M words (HIMA.out V (HB8.out.trans (hV.mono HB8.out.size))).1)).mono ?_; rintro e w10 ⟨rfl, hb10⟩; have hb510 := HB8.out.trans (hb10.mono HB8.out.size); obtain ⟨b11, b11s⟩ : ∃ b, w10.heap.size = b := ⟨_, rfl⟩; obtain ⟨W11, b11W⟩ : ∃ V, w10.alloc (.cells #[.int .i64 0, .int .i64 0, .int .i64 0, .int .i64 0, .int .i64 0, .int .i32 0, .string ⟨#[]⟩] 39) = V := ⟨_, rfl⟩; have b11n : W11.heap[b11]? = some (.cells #[.int .i64 0, .int .i64 0, .int .i64 0, .int .i64 0, .int .i64 0, .int .i32 0, .string ⟨#[]⟩] 39 (0, 0)) := (by rw [← b11W, ← b11s]; exact heap_alloc_new w10 _); have HB11 := Lib.hid (hb510.trans (((Below.refl w10.heap.size w10).alloc (Nat.le_refl _) (.cells #[.int .i64 0, .int .i64 0, .int .i64 0, .int .i64 0, .int .i64 0, .int .i32 0, .string ⟨#[]⟩] 39)).mono hb510.size)); rw [b11W] at HB11; obtain ⟨b11c0, b11c1, b11c2, b11c3, b11c4, b11c5, b11c6, b11f⟩ := box7 b11n; have b11e0 := setCell_idR (i := 0) (v := (.int .i64 0)) b11n rfl; have b11e1 := setCell_idR (i := 1) (v := (.int .i64 0)) b11n rfl; have b11e2 := setCell_idR (i := 2) (v := (.int .i64 0)) b11n rfl; have b11e3 := setCell_idR (i := 3) (v := (.int .i64 0)) b11n rfl; have b11e4 := setCell_idR (i := 4) (v := (.int .i64 0)) b11n rfl; have b11e5 := setCell_idR (i := 5) (v := (.int .i32 0)) b11n rfl; have b11e6 := setCell_idR (i := 6) (v := (.string ⟨#[]⟩)) b11n rfl; clear b11n; clear hb10 hb510 i0 i1 i2; obtain ⟨i0, i1, i2⟩ := HI.out W11 HB11.out)
                go_wp2_with (first
                  | (go_at_call 14; (with_reducible refine (HRA.out _ HB11.out).mono ?_); rintro e w12 ⟨rfl, hb12⟩; have HB12 := Lib.hid (HB11.out.trans (hb12.mono HB11.out.size)); clear hb12)
                  | (go_at_call 8; refine (lives18 _).mono ?_; rintro e w13 ⟨rfl, hb13⟩; have HB13 := Lib.hid (HB12.out.trans (hb13.mono HB12.out.size)); clear hb13))
                go_ret
                exact ⟨rfl, HB6.out.trans (HB13.out.mono HB6.out.size)⟩
              | false =>
                rw [hfs] at HAT HPZ
                have hpz0 : ¬ 0 ≤ pz := of_decide_eq_false HPZ.out.symm
                clear hfs HPZ
                go_upto_region 22 with (go_at_call 13; (with_reducible refine HAT.out.mono ?_); rintro e w6 ⟨rfl, rfl⟩)
                go_upto_region 23 with (go_at_call 12; refine (line_neg (some ⟨m, 0, none⟩) (-1) (by decide) _).mono ?_; rintro e w7 ⟨rfl, hb7⟩; have hb57 := HR.out.trans (hb7.mono HR.out.size); obtain ⟨b8, b8s⟩ : ∃ b, w7.heap.size = b := ⟨_, rfl⟩; obtain ⟨W8, b8W⟩ : ∃ V, w7.alloc (.cells #[.int .i64 0, .int .i64 0, .int .i64 0, .int .i64 0, .int .i64 0, .int .i32 0, .string ⟨#[]⟩] 39) = V := ⟨_, rfl⟩; have b8n : W8.heap[b8]? = some (.cells #[.int .i64 0, .int .i64 0, .int .i64 0, .int .i64 0, .int .i64 0, .int .i32 0, .string ⟨#[]⟩] 39 (0, 0)) := (by rw [← b8W, ← b8s]; exact heap_alloc_new w7 _); have HB8 := Lib.hid (hb57.trans (((Below.refl w7.heap.size w7).alloc (Nat.le_refl _) (.cells #[.int .i64 0, .int .i64 0, .int .i64 0, .int .i64 0, .int .i64 0, .int .i32 0, .string ⟨#[]⟩] 39)).mono hb57.size)); rw [b8W] at HB8; obtain ⟨b8c0, b8c1, b8c2, b8c3, b8c4, b8c5, b8c6, b8f⟩ := box7 b8n; have b8e0 := setCell_idR (i := 0) (v := (.int .i64 0)) b8n rfl; have b8e1 := setCell_idR (i := 1) (v := (.int .i64 0)) b8n rfl; have b8e2 := setCell_idR (i := 2) (v := (.int .i64 0)) b8n rfl; have b8e3 := setCell_idR (i := 3) (v := (.int .i64 0)) b8n rfl; have b8e4 := setCell_idR (i := 4) (v := (.int .i64 0)) b8n rfl; have b8e5 := setCell_idR (i := 5) (v := (.int .i32 0)) b8n rfl; have b8e6 := setCell_idR (i := 6) (v := (.string ⟨#[]⟩)) b8n rfl; clear b8n; clear hb7 hb57 i0 i1 i2; obtain ⟨i0, i1, i2⟩ := HI.out W8 HB8.out)
                go_upto_region 24 with (go_at_call 12; refine (line_big (some ⟨m, 0, none⟩) ql (ql : Int) (by omega) (Int.le_refl _) _ (fun V hV => len_any V m A ql c M words (HIMA.out V (HB8.out.trans (hV.mono HB8.out.size))).1)).mono ?_; rintro e w10 ⟨rfl, hb10⟩; have hb510 := HB8.out.trans (hb10.mono HB8.out.size); obtain ⟨b11, b11s⟩ : ∃ b, w10.heap.size = b := ⟨_, rfl⟩; obtain ⟨W11, b11W⟩ : ∃ V, w10.alloc (.cells #[.int .i64 0, .int .i64 0, .int .i64 0, .int .i64 0, .int .i64 0, .int .i32 0, .string ⟨#[]⟩] 39) = V := ⟨_, rfl⟩; have b11n : W11.heap[b11]? = some (.cells #[.int .i64 0, .int .i64 0, .int .i64 0, .int .i64 0, .int .i64 0, .int .i32 0, .string ⟨#[]⟩] 39 (0, 0)) := (by rw [← b11W, ← b11s]; exact heap_alloc_new w10 _); have HB11 := Lib.hid (hb510.trans (((Below.refl w10.heap.size w10).alloc (Nat.le_refl _) (.cells #[.int .i64 0, .int .i64 0, .int .i64 0, .int .i64 0, .int .i64 0, .int .i32 0, .string ⟨#[]⟩] 39)).mono hb510.size)); rw [b11W] at HB11; obtain ⟨b11c0, b11c1, b11c2, b11c3, b11c4, b11c5, b11c6, b11f⟩ := box7 b11n; have b11e0 := setCell_idR (i := 0) (v := (.int .i64 0)) b11n rfl; have b11e1 := setCell_idR (i := 1) (v := (.int .i64 0)) b11n rfl; have b11e2 := setCell_idR (i := 2) (v := (.int .i64 0)) b11n rfl; have b11e3 := setCell_idR (i := 3) (v := (.int .i64 0)) b11n rfl; have b11e4 := setCell_idR (i := 4) (v := (.int .i64 0)) b11n rfl; have b11e5 := setCell_idR (i := 5) (v := (.int .i32 0)) b11n rfl; have b11e6 := setCell_idR (i := 6) (v := (.string ⟨#[]⟩)) b11n rfl; clear b11n; clear hb10 hb510 i0 i1 i2; obtain ⟨i0, i1, i2⟩ := HI.out W11 HB11.out)
                go_wp2_with (first
                  | (go_at_call 14; (with_reducible refine (HRA.out _ HB11.out).mono ?_); rintro e w12 ⟨rfl, hb12⟩; have HB12 := Lib.hid (HB11.out.trans (hb12.mono HB11.out.size)); clear hb12)
                  | (go_at_call 8; refine (lives18 _).mono ?_; rintro e w13 ⟨rfl, hb13⟩; have HB13 := Lib.hid (HB12.out.trans (hb13.mono HB12.out.size)); clear hb13))
                go_ret
                have e9 : (!decide (0 ≤ pz)) = true := by simp [hpz0]
                exact ⟨congrArg (fun b => Ending.returned (.bool b)) e9, HB6.out.trans (HB13.out.mono HB6.out.size)⟩
end Go.Proofs.Ytmedhibjkbahpaa
