/-
  The walk of the law WordTexts: it answers true and writes nothing that was there.
-/
import Derived.Test.YthgkkgjnealkbaaDoorTextsB
import Derived.LaidByTextLater
namespace Go.Proofs.YthgkkgjnealkbaaDoor
open Go.RowKit

namespace WordTexts
theorem itoa_inj (u v : Int) (hu : inWord u) (hv : inWord v) (e : Lib.itoa u = Lib.itoa v) : u = v := by
  have h1 := parse_itoa u hu
  have h2 := parse_itoa v hv
  rw [e, h2] at h1
  injection h1 with h1
  exact h1.symm
/-- word.Parse and the document's own answer, at one text. -/
theorem both (t : ByteArray) (ht : t.size ≤ 3000) (w : World) (hL : Laid w) :
    ∃ (x : Int) (ok : Bool), Calls Tryd.prog 21 #[.string t] w (fun e w' => e = .returned (.tuple #[.int .i32 x, .int .i64 (if ok = true then 0 else 11)]) ∧ Below w.heap.size w w') ∧
      ∀ w1, Calls Tryd.prog 23 #[.string t] w1 fun e w' => e = .returned (.tuple #[.int .i32 x, .bool ok]) ∧ w1 = w' := by
  by_cases h : ∃ v, inWord v ∧ Lib.itoa v = t.data.toList
  · obtain ⟨v, hv, e⟩ := h
    refine ⟨v, true, parse_yes t ht v hv (by rw [← e]; exact parse_itoa v hv) e w hL, fun w1 => (ref_parse t ht w1).mono fun e' w' ⟨hp, hw⟩ => ⟨?_, hw⟩⟩
    rcases hp with ⟨u, he, hu, eu⟩ | ⟨_, hno⟩
    · rw [he, itoa_inj u v hu hv (eu.trans e.symm)]
    · exact absurd e (hno v hv)
  · refine ⟨0, false, parse_no t ht (fun v hp => ?_) w hL, fun w1 => (ref_parse t ht w1).mono fun e' w' ⟨hp, hw⟩ => ⟨?_, hw⟩⟩
    · have hb : -2147483648 ≤ v ∧ v ≤ 2147483647 := by
        have := Lib.parseIntB_bounds (B := 32) hp
        omega
      exact ⟨hb.1, hb.2, fun e => h ⟨v, hb, e⟩⟩
    · rcases hp with ⟨u, he, hu, eu⟩ | ⟨he, _⟩
      · exact absurd ⟨u, hu, eu⟩ h
      · exact he
theorem itoa_size (n : Int) (hn : -2147483648 ≤ n ∧ n ≤ 2147483647) : (⟨(Lib.itoa n).toArray⟩ : ByteArray).size ≤ 3000 := by
  have h : (Lib.itoa n).length ≤ 21 := Lib.itoa_length_le n (by omega) (by omega)
  show (Lib.itoa n).toArray.size ≤ 3000
  simp
  omega
theorem walk (n : Int) (s : ByteArray) (hn : -2147483648 ≤ n ∧ n ≤ 2147483647) (hs : s.size ≤ 9223372036854775807) (W : World) (hL : Laid W) :
    Calls Tryd.prog 8 #[.int .i32 n, .string s] W fun e w' => e = .returned (.bool true) ∧ Below W.heap.size W w' := by
  have HN := Lib.hid hn
  have HL := Lib.hid hL
  have HC := Lib.hid (cut_any s hs W)
  have hcs := cut_size s
  clear hL
  go_enter Tryd.func8, Tryd.ntmps8
  go_wp2_with fail
  refine HC.out.mono ?_
  clear HC
  generalize s.extract 0 (min (s.size : Int) 3000).toNat = t at *
  rintro e w' ⟨rfl, rfl⟩
  go_wp2_with fail
  refine (dec_any n HN.out _ HL.out).mono ?_
  rintro e w1 ⟨rfl, hB1⟩
  have HL1 := Lib.hid (HL.out.below hB1)
  go_wp2_with fail
  refine (parse_yes _ (itoa_size n HN.out) n HN.out (parse_itoa n HN.out) rfl _ HL1.out).mono ?_
  rintro e w2 ⟨rfl, hB2⟩
  have hB12 := hB1.trans (hB2.mono hB1.size)
  clear hB1 hB2 HL1
  go_wp2_with fail
  refine (ref_dec_any n HN.out _).mono ?_
  rintro e w3 ⟨rfl, hB3⟩
  have hB13 := hB12.trans (hB3.mono hB12.size)
  clear hB12 hB3
  have HL3 := HL.out.below hB13
  obtain ⟨x, ok, c1, c2⟩ := both t hcs w3 HL3
  clear HL3
  cases ok
  all_goals
    have H1 := Lib.hid c1
    have H2 := Lib.hid c2
    clear c1 c2
    go_wp2_with fail
    refine H1.out.mono ?_
    rintro e w4 ⟨rfl, hB4⟩
    have hB14 := hB13.trans (hB4.mono hB13.size)
    clear hB13 hB4 H1
    go_wp2_with fail
    refine (H2.out _).mono ?_
    rintro e w5 ⟨rfl, rfl⟩
    clear H2
    go_wp2_with fail
    refine (lives_true _).mono ?_
    rintro e w6 ⟨rfl, hB6⟩
    have hB16 := hB14.trans (hB6.mono hB14.size)
    clear hB14 hB6
    go_wp2
    go_ret
    exact ⟨rfl, hB16⟩
end WordTexts

theorem star : "*" ++ "errors.errorString" = "*errors.errorString" := by decide
theorem rowES (u : TypeId) (h : Tryd.prog.typeName? 3 u = some "*errors.errorString") : u = 92 :=
  typeName_ptr_named (nm := "errors.errorString") (by rw [star]; kernel_rfl) (by kernel_rfl) (by decide) u (by rw [star]; exact h)
theorem laid_of (W : World) (h : laidMetH Tryd.prog Rows.wordTextsRow.laid W) : Laid W := by
  rw [MakeChecks.laidMetH_plain _ _ _ (by kernel_rfl)] at h
  have h3 := h.tail.tail
  obtain ⟨a0, s0, hv0, -, -, -⟩ := laid_sentinel (g := 1) (ti := 60) (te := 94) (ts := 9) h3.tail (by kernel_rfl) (by kernel_rfl) Tryd.underlying60 rowES Tryd.underlying92 Tryd.underlying94 rfl rfl Tryd.underlying9 (by kernel_rfl) (by kernel_rfl)
  obtain ⟨a1, s1, hv1, -, -, -⟩ := laid_sentinel (g := 0) (ti := 60) (te := 94) (ts := 9) h3.tail.tail (by kernel_rfl) (by kernel_rfl) Tryd.underlying60 rowES Tryd.underlying92 Tryd.underlying94 rfl rfl Tryd.underlying9 (by kernel_rfl) (by kernel_rfl)
  exact ⟨Lib.tabIs_of_head (g := 2) (t := 87) (e := 69) (n := 20) (by kernel_rfl) (by kernel_rfl) Tryd.underlying87 Tryd.underlying69 (by kernel_rfl) (by kernel_rfl) h3, ⟨_, _, hv1⟩, ⟨_, _, hv0⟩⟩

theorem wordTexts_walk (a0 : Int) (a1 : ByteArray) (W : World) (w0 : (Lit.int .i32 a0).wf = true) (w1 : a1.size ≤ maxLen) (_hs : a1.data.toList.length ≤ reachBytes) (hL : laidMetH Tryd.prog Rows.wordTextsRow.laid W) :
    Calls Tryd.prog 8 #[.int .i32 a0, .string a1] W fun e w' => e = .returned (.bool true) ∧ Below W.heap.size W w' :=
  WordTexts.walk a0 a1 (bounds_i32 w0) w1 W (laid_of W hL)
end Go.Proofs.YthgkkgjnealkbaaDoor
