/-
  The walk of the law LexerBack: it answers true and writes nothing that was there.
-/
import Derived.Test.YtkpgkobhnldhpaaDoorLxI
import Derived.Test.YtkpgkobhnldhpaaDoorLxG
import Derived.Test.YtkpgkobhnldhpaaDoorLxU
import Derived.Test.YtkpgkobhnldhpaaDoorLxS
namespace Go.Proofs.YtkpgkobhnldhpaaDoor
open Go.RowKit
set_option linter.unusedVariables false
set_option maxRecDepth 100000

def gapsP : List Tok → List (List UInt8)
  | [] => []
  | t :: ts => (if ts = [] then [] else [32]) :: gapsP ts
theorem weave_print (ts : List Tok) : weave ts (gapsP ts) = printL (ts.map (·.txt)) := by
  induction ts with
  | nil => rfl
  | cons t ts ih =>
    show t.txt ++ ((if ts = [] then [] else [32]) ++ weave ts (gapsP ts)) = _
    rw [ih]
    cases ts with
    | nil => simp [printL]
    | cons u r => simp [printL]
theorem wok_print (ts : List Tok) (h : ∀ t ∈ ts, GoodT t) : WOK ts (gapsP ts) := by
  induction ts with
  | nil => trivial
  | cons t ts ih =>
    refine ⟨h t (by simp), ?_, ?_, ih (fun x hx => h x (by simp [hx]))⟩
    · split
      · exact SkipS.nil
      · exact SkipS.blank 32 (by decide)
    · by_cases he : ts = []
      · subst he
        exact .inr ⟨by simp, rfl, rfl⟩
      · left
        rw [if_neg he]
        exact ⟨32, [], rfl, by decide⟩
theorem printL_sum (ls : List (List UInt8)) : (printL ls).length ≤ (ls.map List.length).sum + ls.length := by
  cases ls with
  | nil => simp [printL]
  | cons x r =>
    have key : ∀ r : List (List UInt8), (r.flatMap (fun y => 32 :: y)).length ≤ (r.map List.length).sum + r.length := by
      intro r
      induction r with
      | nil => simp
      | cons y r ih => simp only [List.flatMap_cons, List.length_append, List.length_cons, List.map_cons, List.sum_cons]; omega
    have := key r
    simp only [printL, List.length_append, List.map_cons, List.sum_cons, List.length_cons]
    omega
theorem le_sum (l : List Nat) (n : Nat) (h : n ∈ l) : n ≤ l.sum := by
  induction l with
  | nil => cases h
  | cons a r ih =>
    rw [List.sum_cons]
    rcases List.mem_cons.1 h with rfl | h
    · omega
    · have := ih h; omega
theorem txs_tk (l : List UInt8) (ts : List Tok) : txs (ts.map (tkOf l)) = ts.map (·.txt) := by
  unfold txs
  rw [List.map_map]
  refine List.map_congr_left fun t _ => ?_
  show (strL t.txt).data.toList = t.txt
  exact strL_list _
theorem sameTs_txt {a b : List Tok} (h : sameTs a b) : a.map (·.txt) = b.map (·.txt) := by
  refine List.ext_getElem (by simp [h.1]) fun k h1 h2 => ?_
  rw [List.length_map] at h1 h2
  rw [List.getElem_map, List.getElem_map]
  exact (h.2 k _ _ (List.getElem?_eq_getElem h1) (List.getElem?_eq_getElem h2)).2.1
theorem sameTs_tk {a b : List Tok} (h : sameTs a b) (l m : List UInt8) (k : Nat) (x y : Tk) (hx : (a.map (tkOf l))[k]? = some x) (hy : (b.map (tkOf m))[k]? = some y) : sameTk x y := by
  rw [List.getElem?_map] at hx hy
  obtain ⟨x0, hx0, rfl⟩ := Option.map_eq_some_iff.1 hx
  obtain ⟨y0, hy0, rfl⟩ := Option.map_eq_some_iff.1 hy
  obtain ⟨h1, h2, h3⟩ := h.2 k x0 y0 hx0 hy0
  refine ⟨?_, ?_, ?_⟩
  · show (x0.kind : Int) = y0.kind; rw [h1]
  · show strL x0.txt = strL y0.txt; rw [h2]
  · show (x0.num : Int) = y0.num; rw [h3]
theorem all_ok (s : ByteArray) (hs : s.size ≤ 4000000000) (ts : List Tok) (h : allN s.data.toList = .ok ts) (W : World) (hL : Laid W) : Calls Tryd.prog 11 #[.string s] W fun e w' => ∃ A c, e = .returned (.tuple #[.slice A ts.length c, .int .i64 0, .agg #[.int .i64 0, .int .i64 0, .int .i64 0]]) ∧ Rd6 w' A ts.length (ts.map (tkOf s.data.toList)) ∧ ts.length ≤ c ∧ Below W.heap.size W w' := (all_any s hs W hL).mono fun e w' q => by
  unfold AllOut at q
  rw [h] at q
  obtain ⟨A, c, he, hl, _, hb⟩ := q
  exact ⟨A, c, he, rd_of_line hl, hl.2.1, hb⟩
set_option maxHeartbeats 1000000 in
theorem lexerBack_bad (s : ByteArray) (hs : s.size ≤ 2000) (W : World) (hL : Laid W) (er o : Nat) (h : allN s.data.toList = .bad er o) (hne : er ≠ 0) (a0 : ByteArray) (w0 : a0.size ≤ 9223372036854775807) (hcut : a0.extract 0 (min (a0.size : Int) 2000).toNat = s) :
    Calls Tryd.prog 5 #[.string a0] W fun e w' => e = .returned (.bool true) ∧ Below W.heap.size W w' := by
  have HL := Lib.hid hL
  have H1 := Lib.hid (one2 s (by omega) er o h er o rfl rfl)
  have hneb : ((er : Int) == 0) = false := by rw [beq_eq_false_iff_ne]; omega
  have hneq : ((er : Int) != 0) = true := by rw [bne_iff_ne]; omega
  have HC := Lib.hid hcut
  clear hL h hne hcut
  go_enter Tryd.func5, Tryd.ntmps5
  go_wp2_with (go_at_call 10; refine (lcut_any _ w0 _).mono ?_; rintro e w' ⟨rfl, rfl⟩)
  rw [HC.out]
  refine (H1.out _ HL.out).mono ?_
  rintro e w1 ⟨x, y, rfl, hB1⟩
  have HB1 := Lib.hid (hB1.alloc hB1.size (.cells #[.int .i64 (o : Int), .int .i64 x, .int .i64 y] 26))
  clear hB1
  go_wp2_with fail
  refine (lives_true _ (HL.out.below HB1.out)).mono ?_
  rintro e w5 ⟨rfl, hB6⟩
  have HB6 := Lib.hid (HB1.out.trans (hB6.mono HB1.out.size))
  clear hB6
  go_wp2
  go_ret
  exact ⟨rfl, HB6.out⟩
set_option maxHeartbeats 1000000 in
theorem lexerBack_ok (s : ByteArray) (hs : s.size ≤ 2000) (W : World) (hL : Laid W) (ts : List Tok) (h : allN s.data.toList = .ok ts) (hlen : ts.length ≤ 2000) (hsum : (ts.map fun t => t.txt.length).sum ≤ 2000) (hgood : ∀ t ∈ ts, GoodT t) (a0 : ByteArray) (w0 : a0.size ≤ 9223372036854775807) (hcut : a0.extract 0 (min (a0.size : Int) 2000).toNat = s) :
    Calls Tryd.prog 5 #[.string a0] W fun e w' => e = .returned (.bool true) ∧ Below W.heap.size W w' := by
  have HL := Lib.hid hL
  have H1 := Lib.hid (all_ok s (by omega) ts h)
  have hpl := printL_sum (ts.map (·.txt))
  rw [List.map_map, List.length_map, show (ts.map (List.length ∘ fun t => t.txt)).sum = (ts.map fun t => t.txt.length).sum from rfl] at hpl
  obtain ⟨us, hu, hsame⟩ := lex_weave ts (gapsP ts) (wok_print ts hgood) 0
  rw [weave_print] at hu
  have hun : allN (strL (printL (ts.map (·.txt)))).data.toList = .ok us := by
    rw [strL_list]
    unfold allN
    rw [if_neg (by omega)]
    exact hu
  have hlu := hsame.1
  have H2 := all_ok (strL (printL (ts.map (·.txt)))) (by rw [strL_size]; omega) us hun
  rw [← hlu] at H2
  have htx : ∀ t ∈ ts, t.txt.length ≤ 2000 := fun t ht => by
    have : t.txt.length ≤ (ts.map fun t => t.txt.length).sum := le_sum _ _ (List.mem_map.2 ⟨t, ht, rfl⟩)
    omega
  have hxs : ∀ t ∈ ts.map (tkOf s.data.toList), t.tx.size ≤ 4000000000 := fun t ht => by
    obtain ⟨t0, h0, rfl⟩ := List.mem_map.1 ht
    show (strL t0.txt).size ≤ _
    rw [strL_size]
    have := htx t0 h0
    omega
  have hys : ∀ t ∈ us.map (tkOf (strL (printL (ts.map (·.txt)))).data.toList), t.tx.size ≤ 4000000000 := fun t ht => by
    obtain ⟨t0, h0, rfl⟩ := List.mem_map.1 ht
    show (strL t0.txt).size ≤ _
    rw [strL_size]
    have h3 : t0.txt ∈ us.map (·.txt) := List.mem_map_of_mem h0
    rw [← sameTs_txt hsame] at h3
    obtain ⟨t1, h4, h5⟩ := List.mem_map.1 h3
    have := htx t1 h4
    rw [← h5]
    omega
  have htk := sameTs_tk hsame s.data.toList (strL (printL (ts.map (·.txt)))).data.toList
  have hpx : txs (ts.map (tkOf s.data.toList)) = ts.map (·.txt) := txs_tk _ _
  have hpy : txs (us.map (tkOf (strL (printL (ts.map (·.txt)))).data.toList)) = ts.map (·.txt) := by rw [txs_tk, sameTs_txt hsame]
  have HP : Hid ((printL (ts.map (·.txt))).length ≤ 4000) := Lib.hid (by omega)
  generalize us.map (tkOf (strL (printL (ts.map (·.txt)))).data.toList) = ys at *
  generalize ts.map (tkOf s.data.toList) = xs at *
  generalize ts.map (·.txt) = P at *
  have hPX : ∀ (w : World) (A : Option Addr) (c : Nat), Rd6 w A ts.length xs → ts.length ≤ c → Calls Tryd.prog 21 #[.slice A ts.length c] w fun e w' => e = .returned (.string (strL (printL P))) ∧ Below w.heap.size w w' := fun w A c hr hc => by
    have := print_any w A ts.length c xs hr (by omega) hc (by rw [hpx]; have := HP.out; omega) hxs
    rw [hpx] at this
    exact this
  have hPY : ∀ (w : World) (A : Option Addr) (c : Nat), Rd6 w A ts.length ys → ts.length ≤ c → Calls Tryd.prog 21 #[.slice A ts.length c] w fun e w' => e = .returned (.string (strL (printL P))) ∧ Below w.heap.size w w' := fun w A c hr hc => by
    have := print_any w A ts.length c ys hr (by omega) hc (by rw [hpy]; have := HP.out; omega) hys
    rw [hpy] at this
    exact this
  have H2' := Lib.hid H2
  have HTK := Lib.hid htk
  have HPX := Lib.hid hPX
  have HPY := Lib.hid hPY
  have HC := Lib.hid hcut
  generalize ts.length = n at *
  clear H2 htk hPX hPY hpx hpy hxs hys htx hlu hun hu hsame hpl hsum hgood h hL hcut
  go_enter Tryd.func5, Tryd.ntmps5
  go_wp2_with (go_at_call 10; refine (lcut_any _ w0 _).mono ?_; rintro e w' ⟨rfl, rfl⟩)
  rw [HC.out]
  refine (H1.out _ HL.out).mono ?_
  rintro e w1 ⟨A, c, rfl, hr1, hc1, hB1⟩
  have HR1 := Lib.hid (hr1.below ((Below.refl _ w1).alloc (Nat.le_refl _) (.cells #[.int .i64 0, .int .i64 0, .int .i64 0] 26)))
  have HB1 := Lib.hid (hB1.alloc hB1.size (.cells #[.int .i64 0, .int .i64 0, .int .i64 0] 26))
  clear hr1 hB1
  go_wp2_with fail
  refine (HPX.out _ A c HR1.out hc1).mono ?_
  rintro e w2 ⟨rfl, hB2⟩
  have HR2 := Lib.hid (HR1.out.below hB2)
  have HB2 := Lib.hid (HB1.out.trans (hB2.mono HB1.out.size))
  clear hB2 HR1 HB1
  go_wp2_with fail
  refine (H2'.out _ (HL.out.below HB2.out)).mono ?_
  rintro e w3 ⟨A2, c2, rfl, hr3, hc3, hB3⟩
  have HR3 := Lib.hid (And.intro ((HR2.out.below hB3).below ((Below.refl _ w3).alloc (Nat.le_refl _) (.cells #[.int .i64 0, .int .i64 0, .int .i64 0] 26))) (hr3.below ((Below.refl _ w3).alloc (Nat.le_refl _) (.cells #[.int .i64 0, .int .i64 0, .int .i64 0] 26))))
  have HB3 := Lib.hid ((HB2.out.trans (hB3.mono HB2.out.size)).alloc (HB2.out.trans (hB3.mono HB2.out.size)).size (.cells #[.int .i64 0, .int .i64 0, .int .i64 0] 26))
  clear hr3 hB3 HB2 HR2
  go_wp2_with fail
  refine (same_yes _ A A2 n c c2 xs ys (by omega) HR3.out.1 HR3.out.2 HTK.out).mono ?_
  rintro e w4 ⟨rfl, hB4⟩
  have HR4 := Lib.hid (And.intro (HR3.out.1.below hB4) (HR3.out.2.below hB4))
  have HB4 := Lib.hid (HB3.out.trans (hB4.mono HB3.out.size))
  clear hB4 HB3 HR3
  go_wp2_with fail
  refine (HPY.out _ A2 c2 HR4.out.2 hc3).mono ?_
  rintro e w5 ⟨rfl, hB5⟩
  have HR5 := Lib.hid (HR4.out.1.below hB5)
  have HB5 := Lib.hid (HB4.out.trans (hB5.mono HB4.out.size))
  clear hB5 HB4 HR4
  go_wp2_with fail
  refine (HPX.out _ A c HR5.out hc1).mono ?_
  rintro e w6 ⟨rfl, hB6⟩
  have HB6 := Lib.hid (HB5.out.trans (hB6.mono HB5.out.size))
  clear hB6 HB5 HR5
  go_wp2_with fail
  refine (lives_true _ (HL.out.below HB6.out)).mono ?_
  rintro e w7 ⟨rfl, hB7⟩
  have HB7 := Lib.hid (HB6.out.trans (hB7.mono HB6.out.size))
  clear hB7
  go_wp2
  go_ret
  exact ⟨rfl, HB7.out⟩
theorem lexerBack_walk (a0 : ByteArray) (W : World) (w0 : a0.size ≤ maxLen) (_hs : a0.data.toList.length ≤ reachBytes) (hL : laidMetH Tryd.prog Rows.lexerBackRow.laid W) (hsh : W.ShapedOpen Tryd.prog) :
    Calls Tryd.prog 5 #[.string a0] W fun e w' => e = .returned (.bool true) ∧ Below W.heap.size W w' := by
  have hts := lcut_size a0
  unfold maxLen at w0
  cases h : allN (a0.extract 0 (min (a0.size : Int) 2000).toNat).data.toList with
  | ok ts =>
    have hf := allN_few _ _ h
    have hg := allN_good _ _ h
    rw [ba_length] at hf hg
    exact lexerBack_ok _ hts W (laid_of W hL hsh) ts h (by omega) (by omega) hg.1 a0 (by omega) rfl
  | bad er o => exact lexerBack_bad _ hts W (laid_of W hL hsh) er o h (allN_bad _ _ _ h).1 a0 (by omega) rfl
end Go.Proofs.YtkpgkobhnldhpaaDoor
