/-
  Contracts of layer 7's gap, named, number, cut.
-/
import Derived.Test.YtkpgkobhnldhpaaDoorLxB
import Derived.Test.YtkpgkobhnldhpaaDoorShelf
import Derived.Lib.LaidTab
import Derived.Stop.LaidErr
namespace Go.Proofs.YtkpgkobhnldhpaaDoor
open Go.RowKit
set_option linter.unusedVariables false

/-- What a walk uses of the package-level variables. -/
structure Laid (W : World) : Prop where
  mx : ∃ m, W.cell? ⟨0, 0, none⟩ = some (.int .i64 m)
  syn : ∃ tp p, W.var? Tryd.prog "strconv.ErrSyntax" = some #[.iface tp p]
  rng : ∃ tp p, W.var? Tryd.prog "strconv.ErrRange" = some #[.iface tp p]
theorem var_lt {W : World} {n : String} {g : Nat} {cs : Array Value} (hg : Tryd.prog.globalNamed n = some g) (h : W.var? Tryd.prog n = some cs) : g < W.heap.size := by
  unfold World.var? at h
  simp only [hg, Option.bind_some] at h
  rcases Nat.lt_or_ge g W.heap.size with hlt | hge
  · exact hlt
  · rw [Array.getElem?_eq_none hge] at h; cases h
theorem cell_lt {W : World} {g o : Nat} {v : Value} (h : W.cell? ⟨g, o, none⟩ = some v) : g < W.heap.size := by
  rcases Nat.lt_or_ge g W.heap.size with hlt | hge
  · exact hlt
  · unfold World.cell? at h
    rw [Array.getElem?_eq_none hge] at h
    cases h
theorem Laid.below {W W' : World} (h : Laid W) (hb : Below W.heap.size W W') : Laid W' := by
  have g2 : Tryd.prog.globalNamed "strconv.ErrSyntax" = some 1 := by kernel_rfl
  have g3 : Tryd.prog.globalNamed "strconv.ErrRange" = some 2 := by kernel_rfl
  obtain ⟨⟨m, h1⟩, ⟨t2, p2, h2⟩, ⟨t3, p3, h3⟩⟩ := h
  exact ⟨⟨m, (hb.cell (p := ⟨0, 0, none⟩) (cell_lt h1)).trans h1⟩, ⟨t2, p2, var?_below hb g2 (var_lt g2 h2) h2⟩, ⟨t3, p3, var?_below hb g3 (var_lt g3 h3) h3⟩⟩
theorem gap_any (s : ByteArray) (hs : s.size ≤ 4000000000) (w : World) (hL : Laid w) : Calls Tryd.prog 38 #[.string s] w fun e w' => e = .returned (.tuple #[.int .i64 ((gapN s.data.toList).1 : Int), .bool (gapN s.data.toList).2]) ∧ w = w' := by
  obtain ⟨m, hm⟩ := hL.mx
  have P1 := Lib.hid ((Tryd.strings_HasPrefix s ⟨#[47, 47]⟩ w).mono fun _ _ h => And.intro h.1 h.2.symm)
  have P2 := Lib.hid ((Tryd.strings_HasPrefix s ⟨#[47, 42]⟩ w).mono fun _ _ h => And.intro h.1 h.2.symm)
  have IB := Lib.hid ((Tryd.strings_IndexByte s 10 w).mono fun _ _ h => And.intro h.1 h.2.symm)
  have IX := Lib.hid ((Tryd.strings_Index (s.extract 2 s.size) ⟨#[42, 47]⟩ m w (by rw [ByteArray.size_extract]; omega) hm).mono fun _ _ h => And.intro h.1 h.2.symm)
  rw [show Lib.hasPrefix s.data.toList (ByteArray.mk #[47, 47]).data.toList = [47, 47].isPrefixOf s.data.toList from rfl] at P1
  rw [show Lib.hasPrefix s.data.toList (ByteArray.mk #[47, 42]).data.toList = [47, 42].isPrefixOf s.data.toList from rfl] at P2
  rw [show (10 : Int).toNat.toUInt8 = 10 from rfl, indexByte_line, ba_length] at IB
  rw [show (ByteArray.mk #[42, 47]).data.toList = [42, 47] from rfl, index_close, Lib.extract_to_end] at IX
  have hll := lineN_le s.data.toList
  rw [ba_length] at hll
  clear hL hm
  by_cases h0 : s.size = 0
  · have hnil : s.data.toList = [] := List.eq_nil_of_length_eq_zero h0
    have HG : Hid (gapN s.data.toList = (0, true)) := Lib.hid (by unfold gapN; rw [if_pos hnil])
    have e1 : s.toList.isEmpty = true := by rw [ba_toList, hnil]; rfl
    have e2 : s.toList = [] := by rw [ba_toList, hnil]
    have e3 : ([47, 47].isPrefixOf s.data.toList) = false := by rw [hnil]; rfl
    have e4 : ([47, 42].isPrefixOf s.data.toList) = false := by rw [hnil]; rfl
    rw [e3] at P1
    rw [e4] at P2
    clear hnil e3 e4
    go_enter Tryd.func38, Tryd.ntmps38
    go_wp2_with (first | ((with_reducible refine P1.out.mono ?_); rintro e w' ⟨rfl, rfl⟩) | ((with_reducible refine P2.out.mono ?_); rintro e w' ⟨rfl, rfl⟩))
    go_ret2
    exact ⟨by rw [HG.out]; rfl, rfl⟩
  have h0p : 0 < s.size := by omega
  have hne : s.data.toList ≠ [] := fun e => h0 (by rw [← ba_length, e]; rfl)
  have e1 : s.toList.isEmpty = false := by rw [ba_toList]; cases hq : s.data.toList with | nil => exact absurd hq hne | cons => rfl
  have HH := Lib.hid (ba_headD s h0p)
  have HNE := Lib.hid hne
  clear hne h0
  by_cases hb : blankB s[0] = true
  · have HG : Hid (gapN s.data.toList = (1, true)) := Lib.hid (by unfold gapN; rw [if_neg HNE.out, if_pos (by rw [HH.out]; exact hb)])
    go_enter Tryd.func38, Tryd.ntmps38
    go_wp2_with (go_at_call 45; refine (blank_any _ _).mono ?_; rintro e w' ⟨rfl, rfl⟩)
    go_ret2
    exact ⟨by rw [HG.out]; rfl, rfl⟩
  simp only [Bool.not_eq_true] at hb
  have HG : Hid (gapN s.data.toList = (if [47, 47].isPrefixOf s.data.toList then (lineN s.data.toList, true)
      else if [47, 42].isPrefixOf s.data.toList then match closeN (s.data.toList.drop 2) with | some k => (k + 4, true) | none => (s.data.toList.length, false)
      else (0, true))) := Lib.hid (by unfold gapN; rw [if_neg HNE.out, if_neg (by rw [HH.out, hb]; simp)]; rfl)
  rw [ba_length] at HG
  have hp2 : [47, 42].isPrefixOf s.data.toList = true → 2 ≤ s.size := fun h => by
    have := (List.isPrefixOf_iff_prefix.1 h).length_le
    rw [ba_length] at this
    exact this
  generalize ([47, 47].isPrefixOf s.data.toList) = p1 at *
  generalize ([47, 42].isPrefixOf s.data.toList) = p2 at *
  cases p1 with
  | true =>
    generalize lineN s.data.toList = n at *
    by_cases hn : n < s.size
    · rw [if_pos hn] at IB
      go_enter Tryd.func38, Tryd.ntmps38
      go_wp2_with (first | (go_at_call 45; refine (blank_any _ _).mono ?_; rintro e w' ⟨rfl, rfl⟩) | ((with_reducible refine P1.out.mono ?_); rintro e w' ⟨rfl, rfl⟩) | ((with_reducible refine IB.out.mono ?_); rintro e w' ⟨rfl, rfl⟩))
      go_ret2
      exact ⟨by rw [HG.out]; rfl, rfl⟩
    · rw [if_neg hn] at IB
      obtain rfl : n = s.size := by omega
      go_enter Tryd.func38, Tryd.ntmps38
      go_wp2_with (first | (go_at_call 45; refine (blank_any _ _).mono ?_; rintro e w' ⟨rfl, rfl⟩) | ((with_reducible refine P1.out.mono ?_); rintro e w' ⟨rfl, rfl⟩) | ((with_reducible refine IB.out.mono ?_); rintro e w' ⟨rfl, rfl⟩))
      go_ret2
      exact ⟨by rw [HG.out]; rfl, rfl⟩
  | false =>
    cases p2 with
    | true =>
      have h2 : 2 ≤ s.size := hp2 rfl
      clear hp2
      cases hc : closeN (s.data.toList.drop 2) with
      | some k =>
        rw [hc] at IX HG
        have hk := closeN_le _ _ hc
        rw [List.length_drop, ba_length] at hk
        have hk4 : (k : Int) + 4 ≤ (s.size : Int) := by omega
        have HQ : Hid (gapN s.data.toList = (k + 4, true)) := Lib.hid (by rw [HG.out]; rfl)
        clear hc HG hk
        go_enter Tryd.func38, Tryd.ntmps38
        go_wp2_with (first | (go_at_call 45; refine (blank_any _ _).mono ?_; rintro e w' ⟨rfl, rfl⟩) | ((with_reducible refine P1.out.mono ?_); rintro e w' ⟨rfl, rfl⟩) | ((with_reducible refine P2.out.mono ?_); rintro e w' ⟨rfl, rfl⟩) | ((with_reducible refine IX.out.mono ?_); rintro e w' ⟨rfl, rfl⟩))
        go_ret2
        exact ⟨by rw [HQ.out]; rfl, rfl⟩
      | none =>
        rw [hc] at IX HG
        have HQ : Hid (gapN s.data.toList = (s.size, false)) := Lib.hid (by rw [HG.out]; rfl)
        clear hc HG
        go_enter Tryd.func38, Tryd.ntmps38
        go_wp2_with (first | (go_at_call 45; refine (blank_any _ _).mono ?_; rintro e w' ⟨rfl, rfl⟩) | ((with_reducible refine P1.out.mono ?_); rintro e w' ⟨rfl, rfl⟩) | ((with_reducible refine P2.out.mono ?_); rintro e w' ⟨rfl, rfl⟩) | ((with_reducible refine IX.out.mono ?_); rintro e w' ⟨rfl, rfl⟩))
        go_ret2
        exact ⟨by rw [HQ.out]; rfl, rfl⟩
    | false =>
      go_enter Tryd.func38, Tryd.ntmps38
      go_wp2_with (first | (go_at_call 45; refine (blank_any _ _).mono ?_; rintro e w' ⟨rfl, rfl⟩) | ((with_reducible refine P1.out.mono ?_); rintro e w' ⟨rfl, rfl⟩) | ((with_reducible refine P2.out.mono ?_); rintro e w' ⟨rfl, rfl⟩))
      go_ret2
      exact ⟨by rw [HG.out]; rfl, rfl⟩
/-- A token as a value. -/
def tokV (kind : Nat) (s : ByteArray) (num off line col : Nat) : Value := .agg #[.int .i64 (kind : Int), .string s, .int .i32 (num : Int), .int .i64 (off : Int), .int .i64 (line : Int), .int .i64 (col : Int)]
def cutV (c : Cut) (s : ByteArray) : Value := .tuple #[tokV c.kind (s.extract 0 c.len) c.num 0 0 0, .int .i64 (c.err : Int)]
theorem extract_none (s : ByteArray) : s.extract 0 0 = ⟨#[]⟩ := by
  apply ByteArray.ext
  simp
theorem extract_all (s : ByteArray) : s.extract 0 s.size = s := by
  apply ByteArray.ext
  simp
theorem named_any (s : ByteArray) (hs : s.size ≤ 4000000000) (w : World) : Calls Tryd.prog 39 #[.string s] w fun e w' => e = .returned (cutV (if 64 < s.size then ⟨2, 0, 0, 0⟩ else if wordB s.data.toList then ⟨0, 3, s.size, 0⟩ else ⟨0, 1, s.size, 0⟩) s) ∧ Below w.heap.size w w' := by
  by_cases h : 64 < s.size
  · rw [if_pos h]
    unfold cutV tokV
    rw [extract_none]
    go_enter Tryd.func39, Tryd.ntmps39
    go_wp2
    exact bodyPost_ret (v := .tuple #[.agg #[.int .i64 0, .string ⟨#[]⟩, .int .i32 0, .int .i64 0, .int .i64 0, .int .i64 0], .int .i64 2]) (by simp [results, Tryd.results39, go_sem]) rfl ⟨rfl, (Below.refl _ _).alloc (Nat.le_refl _) _⟩
  · rw [if_neg h]
    cases hw : wordB s.data.toList with
    | true =>
      rw [if_pos rfl]
      unfold cutV tokV
      rw [extract_all]
      go_enter Tryd.func39, Tryd.ntmps39
      go_wp2_with (go_at_call 18; refine (isWord_any _ _).mono ?_; rintro e w' ⟨rfl, rfl⟩)
      exact bodyPost_ret (v := .tuple #[.agg #[.int .i64 3, .string s, .int .i32 0, .int .i64 0, .int .i64 0, .int .i64 0], .int .i64 0]) (by simp [results, Tryd.results39, go_sem]) rfl ⟨rfl, (Below.refl _ _).alloc (Nat.le_refl _) _⟩
    | false =>
      rw [if_neg (by simp)]
      unfold cutV tokV
      rw [extract_all]
      go_enter Tryd.func39, Tryd.ntmps39
      go_wp2_with (go_at_call 18; refine (isWord_any _ _).mono ?_; rintro e w' ⟨rfl, rfl⟩)
      exact bodyPost_ret (v := .tuple #[.agg #[.int .i64 1, .string s, .int .i32 0, .int .i64 0, .int .i64 0, .int .i64 0], .int .i64 0]) (by simp [results, Tryd.results39, go_sem]) rfl ⟨rfl, (Below.refl _ _).alloc (Nat.le_refl _) _⟩
theorem bcell {W w1 : World} (hb : Below W.heap.size W w1) : (∀ b o, b < W.heap.size → w1.cell? ⟨b, o, none⟩ = W.cell? ⟨b, o, none⟩) ∧ (∀ b o, b < W.heap.size → w1.frozen? ⟨b, o, none⟩ = W.frozen? ⟨b, o, none⟩) :=
  ⟨fun b o h => hb.cell (p := ⟨b, o, none⟩) h, fun b o h => hb.frozen (p := ⟨b, o, none⟩) h⟩
theorem below_six {B : Nat} {w W1 : World} (h : Below B w W1) (b : Nat) (hb : B ≤ b) (v0 v1 v2 v3 v4 v5 : Value) : Below B w ((((((W1.setCell ⟨b, 0, none⟩ v0).setCell ⟨b, 1, none⟩ v1).setCell ⟨b, 2, none⟩ v2).setCell ⟨b, 3, none⟩ v3).setCell ⟨b, 4, none⟩ v4).setCell ⟨b, 5, none⟩ v5) :=
  (((((h.setCell hb v0).setCell hb v1).setCell hb v2).setCell hb v3).setCell hb v4).setCell hb v5
def NumOut (s : ByteArray) (w : World) (e : Ending) (w' : World) : Prop := e = .returned (cutV (if numB s.data.toList then ⟨0, 2, s.size, decVal s.data.toList⟩ else ⟨11, 0, 0, 0⟩) s) ∧ Below w.heap.size w w'
theorem NumOut.bad {s : ByteArray} {w w' : World} (h : numB s.data.toList = false) (hb : Below w.heap.size w w') : NumOut s w (.returned (.tuple #[.agg #[.int .i64 0, .string ⟨#[]⟩, .int .i32 0, .int .i64 0, .int .i64 0, .int .i64 0], .int .i64 11])) w' := by
  unfold NumOut
  rw [h, if_neg (by simp)]
  unfold cutV tokV
  rw [extract_none]
  exact ⟨rfl, hb⟩
theorem NumOut.good {s : ByteArray} {w w' : World} (h : numB s.data.toList = true) {n : Int} (hn : n = (decVal s.data.toList : Int)) (hb : Below w.heap.size w w') : NumOut s w (.returned (.tuple #[.agg #[.int .i64 2, .string s, .int .i32 n, .int .i64 0, .int .i64 0, .int .i64 0], .int .i64 0])) w' := by
  unfold NumOut
  rw [h, if_pos rfl, hn]
  unfold cutV tokV
  rw [extract_all]
  exact ⟨rfl, hb⟩
theorem number_any (s : ByteArray) (hs : s.size ≤ 4000000000) (h0 : 0 < s.size) (hd : digitB s[0] = true) (w : World) (hL : Laid w) : Calls Tryd.prog 42 #[.string s] w (NumOut s w) := by
  have hne : s.data.toList ≠ [] := fun e => by rw [← ba_length, e] at h0; simp at h0
  have hh := ba_headD s h0
  obtain ⟨p1, p2⟩ := parseIntB_num s.data.toList hne (by rw [hh]; exact hd)
  have hnum : numB s.data.toList = (s.data.toList.all digitB && (decide (s.size = 1) || decide (s[0] ≠ 48)) && decide (decVal s.data.toList ≤ 2147483647)) := by unfold numB; rw [hh]; rfl
  have hall : s.data.toList.all digitB = true ↔ ∀ c ∈ s.data.toList, digitOk c := by
    rw [List.all_eq_true]
    exact ⟨fun h c hc => alnum_digit (h c hc), fun h c hc => by have := h c hc; unfold digitOk at this; unfold digitB; simpa using this⟩
  have h48 : (decide (s[0] ≠ 48)) = !((s[0].toNat : Int) == 48) := by
    rw [Bool.eq_iff_iff]
    simp only [decide_eq_true_eq, Bool.not_eq_true', beq_eq_false_iff_ne, ne_eq]
    refine not_congr ⟨fun e => by rw [e]; rfl, fun e => UInt8.toNat_inj.1 (by show s[0].toNat = 48; omega)⟩
  have hbad : (¬ ∃ v, Lib.parseIntB 32 s.data.toList = .ok v) → numB s.data.toList = false := fun h => by
    cases hq : numB s.data.toList with
    | false => rfl
    | true =>
      rw [hnum, Bool.and_eq_true, Bool.and_eq_true, decide_eq_true_eq] at hq
      exact absurd ⟨_, p2 (hall.1 hq.1.1) hq.2⟩ h
  rcases num_three (Lib.parseIntB 32 s.data.toList) with ⟨v, hp⟩ | hp | hp
  · obtain ⟨q1, q2, rfl⟩ := p1 v hp
    have hP := Lib.hid hp
    rw [hall.2 q1, decide_eq_true q2, h48] at hnum
    have HN := Lib.hid hnum
    have HB : ∀ W W1 : World, (W1 = W ∨ ∃ t, W1 = Lib.bytesWorld W 5 t) → Below W.heap.size W W1 := fun W W1 h => by
      rcases h with rfl | ⟨t, rfl⟩
      · exact Below.refl _ _
      · exact Lib.bytesWorld_below _ _ _
    have HV := Lib.hid (show (decVal s.data.toList : Int) = (decVal s.data.toList : Int) from rfl)
    obtain ⟨n, hn⟩ : ∃ n : Int, n = (decVal s.data.toList : Int) := ⟨_, rfl⟩
    have hn0 : 0 ≤ n := by omega
    have hn1 : n ≤ 2147483647 := by omega
    rw [← hn] at hP
    have HN' := Lib.hid hn
    clear p1 p2 hh hall hnum hp q1 h48 hL hn q2 hbad HV
    by_cases h1 : 1 < s.size
    · cases h8 : ((s[0].toNat : Int) == 48) with
      | true =>
        have e : Hid (numB s.data.toList = false) := Lib.hid (by rw [HN.out, h8, decide_eq_false (by omega)]; rfl)
        go_enter Tryd.func42, Tryd.ntmps42
        go_wp2_with fail
        refine (Tryd.strconv_ParseInt_10_at32_ok s (by omega) _ hP.out _).mono ?_
        rintro e W1 ⟨rfl, hW⟩
        have hb := HB _ _ hW
        obtain ⟨hc, hf⟩ := bcell hb
        have hz : w.heap.size < W1.heap.size := by have := hb.size; simp at this; omega
        clear HB hW
        go_wp2
        exact bodyPost_ret (v := .tuple #[.agg #[.int .i64 0, .string ⟨#[]⟩, .int .i32 0, .int .i64 0, .int .i64 0, .int .i64 0], .int .i64 11]) (by simp [results, Tryd.results42, go_sem, hc]) rfl (NumOut.bad e.out (below_six (((Below.refl _ _).alloc (Nat.le_refl _) _).trans (hb.mono (by simp))) _ (Nat.le_refl _) _ _ _ _ _ _))
      | false =>
        have e : Hid (numB s.data.toList = true) := Lib.hid (by rw [HN.out, h8]; simp)
        go_enter Tryd.func42, Tryd.ntmps42
        go_wp2_with fail
        refine (Tryd.strconv_ParseInt_10_at32_ok s (by omega) _ hP.out _).mono ?_
        rintro e W1 ⟨rfl, hW⟩
        have hb := HB _ _ hW
        obtain ⟨hc, hf⟩ := bcell hb
        have hz : w.heap.size < W1.heap.size := by have := hb.size; simp at this; omega
        clear HB hW
        go_wp2
        exact bodyPost_ret (v := .tuple #[.agg #[.int .i64 2, .string s, .int .i32 n, .int .i64 0, .int .i64 0, .int .i64 0], .int .i64 0]) (by simp [results, Tryd.results42, go_sem, hc]) rfl (NumOut.good e.out HN'.out (below_six (((Below.refl _ _).alloc (Nat.le_refl _) _).trans (hb.mono (by simp))) _ (Nat.le_refl _) _ _ _ _ _ _))
    · have e : Hid (numB s.data.toList = true) := Lib.hid (by rw [HN.out, decide_eq_true (by omega : s.size = 1)]; rfl)
      go_enter Tryd.func42, Tryd.ntmps42
      go_wp2_with fail
      refine (Tryd.strconv_ParseInt_10_at32_ok s (by omega) _ hP.out _).mono ?_
      rintro e W1 ⟨rfl, hW⟩
      have hb := HB _ _ hW
      obtain ⟨hc, hf⟩ := bcell hb
      have hz : w.heap.size < W1.heap.size := by have := hb.size; simp at this; omega
      clear HB hW
      go_wp2
      exact bodyPost_ret (v := .tuple #[.agg #[.int .i64 2, .string s, .int .i32 n, .int .i64 0, .int .i64 0, .int .i64 0], .int .i64 0]) (by simp [results, Tryd.results42, go_sem, hc]) rfl (NumOut.good e.out HN'.out (below_six (((Below.refl _ _).alloc (Nat.le_refl _) _).trans (hb.mono (by simp))) _ (Nat.le_refl _) _ _ _ _ _ _))
  · have e : Hid (numB s.data.toList = false) := Lib.hid (hbad (by rw [hp]; rintro ⟨v, h⟩; cases h))
    have hP := Lib.hid hp
    have hL' : Laid (w.alloc (.cells #[.int .i64 0, .string ⟨#[]⟩, .int .i32 0, .int .i64 0, .int .i64 0, .int .i64 0] 33)) := hL.below ((Below.refl _ _).alloc (Nat.le_refl _) _)
    obtain ⟨tp, p, hv⟩ := hL'.syn
    have HV := Lib.hid hv
    clear p1 p2 hh hall hnum hp h48 hL hbad hL' hv
    go_enter Tryd.func42, Tryd.ntmps42
    go_wp2_with fail
    refine (Tryd.strconv_ParseInt_10_at32_syntax_var s (by omega) hP.out tp p _ HV.out).mono ?_
    rintro e W1 ⟨N, rfl, _, _, hb⟩
    obtain ⟨hc, hf⟩ := bcell hb
    have hz : w.heap.size < W1.heap.size := by have := hb.size; simp at this; omega
    go_wp2
    exact bodyPost_ret (v := .tuple #[.agg #[.int .i64 0, .string ⟨#[]⟩, .int .i32 0, .int .i64 0, .int .i64 0, .int .i64 0], .int .i64 11]) (by simp [results, Tryd.results42, go_sem, hc]) rfl (NumOut.bad e.out (below_six (((Below.refl _ _).alloc (Nat.le_refl _) _).trans (hb.mono (by simp))) _ (Nat.le_refl _) _ _ _ _ _ _))
  · have e : Hid (numB s.data.toList = false) := Lib.hid (hbad (by rw [hp]; rintro ⟨v, h⟩; cases h))
    have hP := Lib.hid hp
    have hL' : Laid (w.alloc (.cells #[.int .i64 0, .string ⟨#[]⟩, .int .i32 0, .int .i64 0, .int .i64 0, .int .i64 0] 33)) := hL.below ((Below.refl _ _).alloc (Nat.le_refl _) _)
    obtain ⟨tp, p, hv⟩ := hL'.rng
    have HV := Lib.hid hv
    clear p1 p2 hh hall hnum hp h48 hL hbad hL' hv
    go_enter Tryd.func42, Tryd.ntmps42
    go_wp2_with fail
    refine (Tryd.strconv_ParseInt_10_at32_range_var s (by omega) hP.out tp p _ HV.out).mono ?_
    rintro e W1 ⟨N, rfl, _, _, hb⟩
    obtain ⟨hc, hf⟩ := bcell hb
    have hz : w.heap.size < W1.heap.size := by have := hb.size; simp at this; omega
    go_wp2
    exact bodyPost_ret (v := .tuple #[.agg #[.int .i64 0, .string ⟨#[]⟩, .int .i32 0, .int .i64 0, .int .i64 0, .int .i64 0], .int .i64 11]) (by simp [results, Tryd.results42, go_sem, hc]) rfl (NumOut.bad e.out (below_six (((Below.refl _ _).alloc (Nat.le_refl _) _).trans (hb.mono (by simp))) _ (Nat.le_refl _) _ _ _ _ _ _))
theorem clone_any (s : ByteArray) (hs : s.size ≤ 4000000000) (w : World) : Calls Tryd.prog 40 #[.string s] w fun e w' => e = .returned (.string s) ∧ Below w.heap.size w w' := by
  go_enter Tryd.func40, Tryd.ntmps40
  go_wp2_with (go_at_call 49; refine (Tryd.stringslite_Clone s _ (by omega)).mono ?_; rintro e w' ⟨rfl, hb⟩)
  go_ret
  exact ⟨rfl, hb⟩
theorem extract_take (s : ByteArray) (k : Nat) : (s.extract 0 k).data.toList = s.data.toList.take k := by
  rw [ByteArray.data_extract]
  simp
theorem extract_size0 (s : ByteArray) (k : Nat) (h : k ≤ s.size) : (s.extract 0 k).size = k := by rw [ByteArray.size_extract]; omega
theorem extract_zero (s : ByteArray) : s.extract 0 0 = (⟨#[]⟩ : ByteArray) := extract_none s
theorem cutV_part (c : Cut) (s : ByteArray) (k : Nat) (h : k ≤ s.size) (hc : c.len = 0 ∨ c.len = k) : cutV c (s.extract 0 k) = cutV c s := by
  have e : (s.extract 0 k).extract 0 c.len = s.extract 0 c.len := by
    rcases hc with h0 | h0
    · rw [h0, extract_none, extract_none]
    · have := extract_all (s.extract 0 k)
      rw [extract_size0 s k h] at this
      rw [h0, this]
  unfold cutV
  rw [e]
def CutOut (s : ByteArray) (w : World) (e : Ending) (w' : World) : Prop := e = .returned (cutV (cutN s.data.toList) s) ∧ Below w.heap.size w w'
theorem cutN_letter (s : ByteArray) (h0 : 0 < s.size) (h : letterB s[0] = true) : cutN s.data.toList = (if 64 < (s.extract 0 (runN s.data.toList)).size then ⟨2, 0, 0, 0⟩ else if wordB (s.extract 0 (runN s.data.toList)).data.toList then ⟨0, 3, (s.extract 0 (runN s.data.toList)).size, 0⟩ else ⟨0, 1, (s.extract 0 (runN s.data.toList)).size, 0⟩) := by
  have := runN_le s.data.toList
  rw [ba_length] at this
  rw [extract_size0 _ _ this, extract_take]
  unfold cutN
  rw [ba_headD s h0, if_pos h]
theorem cutN_digit (s : ByteArray) (h0 : 0 < s.size) (h : letterB s[0] = false) (hd : digitB s[0] = true) : cutN s.data.toList = (if numB (s.extract 0 (runN s.data.toList)).data.toList then ⟨0, 2, (s.extract 0 (runN s.data.toList)).size, decVal (s.extract 0 (runN s.data.toList)).data.toList⟩ else ⟨11, 0, 0, 0⟩) := by
  have := runN_le s.data.toList
  rw [ba_length] at this
  rw [extract_size0 _ _ this, extract_take]
  unfold cutN
  rw [ba_headD s h0, if_neg (by simp [h]), if_pos hd]
theorem cutN_sign (s : ByteArray) (h0 : 0 < s.size) (h : letterB s[0] = false) (hd : digitB s[0] = false) : cutN s.data.toList = (if signN s.data.toList = 0 then ⟨10, 0, 0, 0⟩ else ⟨0, 4, signN s.data.toList, 0⟩) := by
  unfold cutN
  rw [ba_headD s h0, if_neg (by simp [h]), if_neg (by simp [hd])]
theorem extract_first (s : ByteArray) (k : Nat) (h1 : 1 ≤ k) (h : k ≤ s.size) (h' : 0 < (s.extract 0 k).size) : (s.extract 0 k)[0] = s[0] := by
  rw [ByteArray.getElem_extract]
set_option maxHeartbeats 1000000 in
theorem cut_any (s : ByteArray) (hs : s.size ≤ 4000000000) (h0 : 0 < s.size) (w : World) (hL : Laid w) : Calls Tryd.prog 25 #[.string s] w (CutOut s w) := by
  have hk := runN_le s.data.toList
  rw [ba_length] at hk
  have hk1 := fun (h : alnumB s[0] = true) => runN_pos s.data.toList (fun e => by rw [← ba_length, e] at h0; simp at h0) (by rw [ba_headD s h0]; exact h)
  have hbox : Laid (w.alloc (.cells #[.int .i64 0, .string ⟨#[]⟩, .int .i32 0, .int .i64 0, .int .i64 0, .int .i64 0] 33)) := hL.below ((Below.refl _ _).alloc (Nat.le_refl _) _)
  have HLB := Lib.hid hbox
  clear hL hbox
  cases hl : letterB s[0] with
  | true =>
    have HC := Lib.hid (cutN_letter s h0 hl)
    have hr := run_any s (by omega)
    clear hk1 HLB
    generalize runN s.data.toList = k at *
    have HP : ∀ (c : Cut), c.len = 0 ∨ c.len = (s.extract 0 k).size → cutV c (s.extract 0 k) = cutV c s := fun c h => cutV_part c s k hk (by rw [extract_size0 s k hk] at h; exact h)
    have hts : (s.extract 0 k).size ≤ 4000000000 := by rw [extract_size0 s k hk]; omega
    have HT := Lib.hid hts
    have HPC := Lib.hid HP
    have HR := Lib.hid hr
    clear HP hts hr
    go_enter Tryd.func25, Tryd.ntmps25
    go_wp2_with (first | (go_at_call 32; refine (letter_any _ _).mono ?_; rintro e w' ⟨rfl, rfl⟩) | (go_at_call 33; refine (HR.out _).mono ?_; rintro e w' ⟨rfl, rfl⟩))
    generalize s.extract 0 k = t at *
    refine (clone_any _ HT.out _).mono ?_
    rintro e W1 ⟨rfl, hb⟩
    obtain ⟨hc, hf⟩ := bcell hb
    go_wp2_with fail
    refine (named_any _ HT.out _).mono ?_
    rintro e W2 ⟨rfl, hb2⟩
    have hb3 := hb.trans (hb2.mono hb.size)
    clear hb hb2 hc hf
    obtain ⟨hc, hf⟩ := bcell hb3
    have hq : (if 64 < t.size then (⟨2, 0, 0, 0⟩ : Cut) else if wordB t.data.toList then ⟨0, 3, t.size, 0⟩ else ⟨0, 1, t.size, 0⟩).len = 0 ∨ (if 64 < t.size then (⟨2, 0, 0, 0⟩ : Cut) else if wordB t.data.toList then ⟨0, 3, t.size, 0⟩ else ⟨0, 1, t.size, 0⟩).len = t.size := by
      split
      · exact .inl rfl
      · split <;> exact .inr rfl
    have HQ := Lib.hid hq
    clear hq
    generalize (if 64 < t.size then (⟨2, 0, 0, 0⟩ : Cut) else if wordB t.data.toList then ⟨0, 3, t.size, 0⟩ else ⟨0, 1, t.size, 0⟩) = c at *
    unfold cutV tokV
    go_wp2
    exact bodyPost_ret (v := cutV c t) (by unfold cutV tokV; simp [results, Tryd.results25, go_sem, hc]) rfl ⟨by rw [HPC.out c HQ.out, HC.out], below_six (((Below.refl _ _).alloc (Nat.le_refl _) _).trans (hb3.mono (by simp))) _ (Nat.le_refl _) _ _ _ _ _ _⟩
  | false =>
    cases hd : digitB s[0] with
    | true =>
      have HC := Lib.hid (cutN_digit s h0 hl hd)
      have hr := run_any s (by omega)
      have hk1' := hk1 (by unfold alnumB; rw [hd]; simp)
      clear hk1
      generalize runN s.data.toList = k at *
      have HP : ∀ (c : Cut), c.len = 0 ∨ c.len = (s.extract 0 k).size → cutV c (s.extract 0 k) = cutV c s := fun c h => cutV_part c s k hk (by rw [extract_size0 s k hk] at h; exact h)
      have hts : (s.extract 0 k).size ≤ 4000000000 := by rw [extract_size0 s k hk]; omega
      have htp : 0 < (s.extract 0 k).size := by rw [extract_size0 s k hk]; omega
      have htd : digitB ((s.extract 0 k)[0]) = true := by rw [extract_first s k hk1' hk htp]; exact hd
      have HT := Lib.hid (And.intro hts (show ∃ h : 0 < (s.extract 0 k).size, digitB ((s.extract 0 k)[0]) = true from ⟨htp, htd⟩))
      have HPC := Lib.hid HP
      have HR := Lib.hid hr
      clear HP hts hr htp htd hk1'
      go_enter Tryd.func25, Tryd.ntmps25
      go_wp2_with (first | (go_at_call 32; refine (letter_any _ _).mono ?_; rintro e w' ⟨rfl, rfl⟩) | (go_at_call 41; refine (digit_any _ _).mono ?_; rintro e w' ⟨rfl, rfl⟩) | (go_at_call 33; refine (HR.out _).mono ?_; rintro e w' ⟨rfl, rfl⟩))
      generalize s.extract 0 k = t at *
      obtain ⟨htp, htd⟩ := HT.out.2
      refine (clone_any _ HT.out.1 _).mono ?_
      rintro e W1 ⟨rfl, hb⟩
      obtain ⟨hc, hf⟩ := bcell hb
      have HL1 := Lib.hid (HLB.out.below hb)
      have HTD := Lib.hid htd
      clear htd
      go_wp2_with fail
      refine (number_any _ HT.out.1 htp HTD.out _ HL1.out).mono ?_
      rintro e W2 ⟨rfl, hb2⟩
      have hb3 := hb.trans (hb2.mono hb.size)
      clear hb hb2 hc hf HL1 HLB
      obtain ⟨hc, hf⟩ := bcell hb3
      have hq : (if numB t.data.toList then (⟨0, 2, t.size, decVal t.data.toList⟩ : Cut) else ⟨11, 0, 0, 0⟩).len = 0 ∨ (if numB t.data.toList then (⟨0, 2, t.size, decVal t.data.toList⟩ : Cut) else ⟨11, 0, 0, 0⟩).len = t.size := by
        split
        · exact .inr rfl
        · exact .inl rfl
      have HQ := Lib.hid hq
      clear hq
      generalize (if numB t.data.toList then (⟨0, 2, t.size, decVal t.data.toList⟩ : Cut) else ⟨11, 0, 0, 0⟩) = c at *
      unfold cutV tokV
      go_wp2
      exact bodyPost_ret (v := cutV c t) (by unfold cutV tokV; simp [results, Tryd.results25, go_sem, hc]) rfl ⟨by rw [HPC.out c HQ.out, HC.out], below_six (((Below.refl _ _).alloc (Nat.le_refl _) _).trans (hb3.mono (by simp))) _ (Nat.le_refl _) _ _ _ _ _ _⟩
    | false =>
      have HC := Lib.hid (cutN_sign s h0 hl hd)
      have hsl := signN_len s.data.toList
      rw [ba_length] at hsl
      have hsg := sign_any s (by omega)
      clear hk1 HLB hk
      generalize signN s.data.toList = k at *
      by_cases hk0 : k = 0
      · subst hk0
        have HV : Hid (cutV (cutN s.data.toList) s = .tuple #[.agg #[.int .i64 0, .string ⟨#[]⟩, .int .i32 0, .int .i64 0, .int .i64 0, .int .i64 0], .int .i64 10]) := Lib.hid (by rw [HC.out, if_pos rfl]; unfold cutV tokV; rw [extract_none]; rfl)
        have HS := Lib.hid hsg
        rw [show ((0 : Nat) : Int) = 0 from rfl] at HS
        clear hsg HC
        go_enter Tryd.func25, Tryd.ntmps25
        go_wp2_with (first | (go_at_call 32; refine (letter_any _ _).mono ?_; rintro e w' ⟨rfl, rfl⟩) | (go_at_call 41; refine (digit_any _ _).mono ?_; rintro e w' ⟨rfl, rfl⟩) | (go_at_call 43; refine (HS.out _).mono ?_; rintro e w' ⟨rfl, rfl⟩))
        exact bodyPost_ret (v := .tuple #[.agg #[.int .i64 0, .string ⟨#[]⟩, .int .i32 0, .int .i64 0, .int .i64 0, .int .i64 0], .int .i64 10]) (by simp [results, Tryd.results25, go_sem]) rfl ⟨by rw [HV.out], (Below.refl _ _).alloc (Nat.le_refl _) _⟩
      · have HV : Hid (cutV (cutN s.data.toList) s = .tuple #[.agg #[.int .i64 4, .string (s.extract 0 k), .int .i32 0, .int .i64 0, .int .i64 0, .int .i64 0], .int .i64 0]) := Lib.hid (by rw [HC.out, if_neg hk0]; rfl)
        have HS := Lib.hid hsg
        have hk0b : ((k : Int) == 0) = false := by rw [beq_eq_false_iff_ne]; omega
        have HT := Lib.hid (show (s.extract 0 k).size ≤ 4000000000 by rw [extract_size0 s k hsl]; omega)
        clear hsg HC hk0
        go_enter Tryd.func25, Tryd.ntmps25
        go_wp2_with (first | (go_at_call 32; refine (letter_any _ _).mono ?_; rintro e w' ⟨rfl, rfl⟩) | (go_at_call 41; refine (digit_any _ _).mono ?_; rintro e w' ⟨rfl, rfl⟩) | (go_at_call 43; refine (HS.out _).mono ?_; rintro e w' ⟨rfl, rfl⟩))
        generalize s.extract 0 k = t at *
        refine (clone_any _ HT.out _).mono ?_
        rintro e W1 ⟨rfl, hb⟩
        obtain ⟨hc, hf⟩ := bcell hb
        go_wp2
        exact bodyPost_ret (v := .tuple #[.agg #[.int .i64 4, .string t, .int .i32 0, .int .i64 0, .int .i64 0, .int .i64 0], .int .i64 0]) (by simp [results, Tryd.results25, go_sem, hc]) rfl ⟨by rw [HV.out], below_six (((Below.refl _ _).alloc (Nat.le_refl _) _).trans (hb.mono (by simp))) _ (Nat.le_refl _) _ _ _ _ _ _⟩
end Go.Proofs.YtkpgkobhnldhpaaDoor
