/-
  Contracts of word.Dec and word.Parse, and of the document's own Dec: what they answer, with plain decimal texts.
-/
import Derived.Test.YthgkkgjnealkbaaDoorLives
import Derived.Test.YthgkkgjnealkbaaDoorTextMath
import Derived.Stop.Joined
import Derived.Stop.LaidErr
import Derived.Lib.LaidTab
import Derived.WalkSmall
import Derived.OpenShut
import Derived.RegionTactic
import Derived.Deep.RegionWith
import Derived.Laws.IdiomStrings
import Derived.Laws.BitsAllLaws
import Derived.ChangeAlike
namespace Go.Proofs.YthgkkgjnealkbaaDoor
open Go.RowKit

/-- What a walk uses of the listed package-level variables. -/
structure Laid (W : World) : Prop where
  tab : Lib.TabIs Tryd.prog W "internal/strconv.uint64pow10" .u64 Lib.pow10Tab
  syn : ∃ tp p, W.var? Tryd.prog "strconv.ErrSyntax" = some #[.iface tp p]
  rng : ∃ tp p, W.var? Tryd.prog "strconv.ErrRange" = some #[.iface tp p]
theorem var_lt {W : World} {n : String} {g : Nat} {cs : Array Value} (hg : Tryd.prog.globalNamed n = some g) (h : W.var? Tryd.prog n = some cs) : g < W.heap.size := by
  unfold World.var? at h
  simp only [hg, Option.bind_some] at h
  rcases Nat.lt_or_ge g W.heap.size with hlt | hge
  · exact hlt
  · rw [Array.getElem?_eq_none hge] at h; cases h
theorem Laid.below {W W' : World} (h : Laid W) (hb : Below W.heap.size W W') : Laid W' := by
  have g1 : Tryd.prog.globalNamed "internal/strconv.uint64pow10" = some 2 := by kernel_rfl
  have g2 : Tryd.prog.globalNamed "strconv.ErrSyntax" = some 0 := by kernel_rfl
  have g3 : Tryd.prog.globalNamed "strconv.ErrRange" = some 1 := by kernel_rfl
  obtain ⟨h1, ⟨t2, p2, h2⟩, ⟨t3, p3, h3⟩⟩ := h
  exact ⟨var?_below hb g1 (var_lt g1 h1) h1, ⟨t2, p2, var?_below hb g2 (var_lt g2 h2) h2⟩, ⟨t3, p3, var?_below hb g3 (var_lt g3 h3) h3⟩⟩

theorem below_grow (w : World) (k : Nat) (os : Array Obj) : Below w.heap.size w (Sort.grow (w.drewN k) os) := by
  refine ⟨rfl, rfl, rfl, ?_, fun b hb => ?_⟩
  · show w.heap.size ≤ (w.heap ++ os).size
    simp
  · show (w.heap ++ os)[b]? = w.heap[b]?
    rw [Array.getElem?_append_left hb]

theorem dec_any (n : Int) (hn : -2147483648 ≤ n ∧ n ≤ 2147483647) (w : World) (hL : Laid w) :
    Calls Tryd.prog 20 #[.int .i32 n] w fun e w' => e = .returned (.string ⟨(Lib.itoa n).toArray⟩) ∧ Below w.heap.size w w' := by
  have H := Lib.hid (Tryd.strconv_Itoa n (by omega) (by omega) w hL.tab)
  go_enter Tryd.func20, Tryd.ntmps20
  go_wp2_with fail
  refine H.out.mono ?_
  rintro e w' ⟨rfl, k, os, rfl⟩
  have hB := below_grow w k os
  go_wp2
  go_ret
  exact ⟨rfl, hB⟩

theorem ba_toList (s : ByteArray) : s.toList = s.data.toList := by
  obtain ⟨⟨l⟩⟩ := s
  rw [show (ByteArray.mk { toList := l }) = ByteArray.mk l.toArray from rfl, ByteArray.toList_mk]

theorem parse_yes (s : ByteArray) (hs : s.size ≤ 3000) (v : Int) (hv : -2147483648 ≤ v ∧ v ≤ 2147483647) (hp : Lib.parseIntB 32 s.data.toList = .ok v) (he : Lib.itoa v = s.data.toList) (w : World) (hL : Laid w) :
    Calls Tryd.prog 21 #[.string s] w fun e w' => e = .returned (.tuple #[.int .i32 v, .int .i64 0]) ∧ Below w.heap.size w w' := by
  have H := Lib.hid (Tryd.strconv_ParseInt_10_at32_ok s (by omega) v hp w)
  have HV := Lib.hid hv
  have eq : (!Lib.itoa v == s.toList) = false := by rw [he, ba_toList]; simp
  clear hp he
  go_enter Tryd.func21, Tryd.ntmps21
  go_wp2_with fail
  refine H.out.mono ?_
  rintro e W1 ⟨rfl, hW⟩
  have hB : Below w.heap.size w W1 := by
    rcases hW with rfl | ⟨t, rfl⟩
    · exact Below.refl _ _
    · exact Lib.bytesWorld_below _ _ _
  clear hW H
  have HL := Lib.hid (hL.below hB)
  go_wp2_with fail
  refine (dec_any v HV.out _ HL.out).mono ?_
  rintro e W2 ⟨rfl, hB2⟩
  have hB3 := hB.trans (hB2.mono hB.size)
  clear hB hB2 HL
  go_wp2
  go_ret2
  exact ⟨rfl, hB3⟩

theorem parse_no (s : ByteArray) (hs : s.size ≤ 3000) (hn : ∀ v, Lib.parseIntB 32 s.data.toList = .ok v → -2147483648 ≤ v ∧ v ≤ 2147483647 ∧ Lib.itoa v ≠ s.data.toList) (w : World) (hL : Laid w) :
    Calls Tryd.prog 21 #[.string s] w fun e w' => e = .returned (.tuple #[.int .i32 0, .int .i64 11]) ∧ Below w.heap.size w w' := by
  rcases hp : Lib.parseIntB 32 s.data.toList with v | _ | _
  · obtain ⟨hv1, hv2, hne⟩ := hn v hp
    have H := Lib.hid (Tryd.strconv_ParseInt_10_at32_ok s (by omega) v hp w)
    have eq : (!Lib.itoa v == s.toList) = true := by rw [ba_toList]; simpa using hne
    clear hp hn hne
    go_enter Tryd.func21, Tryd.ntmps21
    go_wp2_with fail
    refine H.out.mono ?_
    rintro e W1 ⟨rfl, hW⟩
    have hB : Below w.heap.size w W1 := by
      rcases hW with rfl | ⟨t, rfl⟩
      · exact Below.refl _ _
      · exact Lib.bytesWorld_below _ _ _
    clear hW H
    have HL := Lib.hid (hL.below hB)
    go_wp2_with fail
    refine (dec_any v ⟨hv1, hv2⟩ _ HL.out).mono ?_
    rintro e W2 ⟨rfl, hB2⟩
    have hB3 := hB.trans (hB2.mono hB.size)
    clear hB hB2 HL
    go_wp2
    go_ret2
    exact ⟨rfl, hB3⟩
  · obtain ⟨tp, p, hvar⟩ := hL.syn
    have H := Lib.hid (Tryd.strconv_ParseInt_10_at32_syntax_var s (by omega) hp tp p w hvar)
    clear hp hn hvar
    go_enter Tryd.func21, Tryd.ntmps21
    go_wp2_with fail
    refine H.out.mono ?_
    rintro e W1 ⟨N, rfl, _, _, hB⟩
    clear H
    go_wp2
    go_ret2
    exact ⟨rfl, hB⟩
  · obtain ⟨tp, p, hvar⟩ := hL.rng
    have H := Lib.hid (Tryd.strconv_ParseInt_10_at32_range_var s (by omega) hp tp p w hvar)
    clear hp hn hvar
    go_enter Tryd.func21, Tryd.ntmps21
    go_wp2_with fail
    refine H.out.mono ?_
    rintro e W1 ⟨N, rfl, _, _, hB⟩
    clear H
    go_wp2
    go_ret2
    exact ⟨rfl, hB⟩

theorem conv1 (c : UInt8) (x : Int) (hx : x = (c.toNat : Int)) (V : World) (b : Nat) (hc : V.cell? ⟨b, 0, none⟩ = some (.int .u8 x)) :
    (convert 41 9 (.slice (some ⟨b, 0, none⟩) 1 1)).run Tryd.prog V = .ok (.string ⟨#[c]⟩) V := by
  subst hx
  have h := run_convert_bytes_back (P := Tryd.prog) V 41 9 5 ⟨b, 0, none⟩ 1 [c] Tryd.underlying41 Tryd.underlying5 Tryd.underlying9 (fun j hj => by
    have hj0 : j = 0 := by simpa using hj
    subst hj0
    simpa [Addr.add] using hc)
  exact h
theorem str_append (a b : List UInt8) : (⟨a.toArray⟩ : ByteArray) ++ ⟨b.toArray⟩ = ⟨(a ++ b).toArray⟩ := by
  apply ByteArray.ext
  simp
theorem below_of_drew {w w1 : World} (h : Below w.drew.heap.size w.drew w1) : Below w.heap.size w w1 := ⟨h.os, h.tape, h.output, h.size, h.block⟩
theorem digit_ex (d : Nat) (h : d < 10) : ∃ c : UInt8, c = UInt8.ofNat (48 + d) ∧ 48 + (d : Int) = (c.toNat : Int) :=
  ⟨_, rfl, by rw [digit_toNat d h]; omega⟩
set_option maxRecDepth 20000 in
theorem ref_dec (u : Nat) : ∀ (w : World), (u : Int) ≤ 2147483648 →
    Calls Tryd.prog 22 #[.int .i64 u] w fun e w' => e = .returned (.string ⟨(Lib.decDigits u).toArray⟩) ∧ Below w.heap.size w w' := by
  induction u using Nat.strongRecOn with
  | _ u ih =>
    intro w hu
    by_cases h : u < 10
    · have hd := dd_lt u h
      obtain ⟨c, hc, hx⟩ := digit_ex u h
      rw [← hc] at hd
      have E := Lib.hid hd
      have k1 := conv1 c _ hx
      have h' : (u : Int) < 10 := by omega
      have hnn : 0 ≤ (u : Int) := by omega
      have hB : Below w.heap.size w (w.alloc (.cells #[.int .u8 (48 + (u : Int))] 5)) := (Below.refl _ _).alloc (Nat.le_refl _) _
      clear ih h hu hc hx hd
      go_enter Tryd.func22, Tryd.ntmps22
      go_wp2_with fail
      go_ret
      exact ⟨by rw [E.out]; rfl, hB⟩
    · have hd := dd_ge u (by omega)
      obtain ⟨c, hc, hx⟩ := digit_ex (u % 10) (by omega)
      rw [← hc] at hd
      have E := Lib.hid hd
      have hx' : 48 + (u : Int) % 10 = (c.toNat : Int) := by omega
      have k1 := conv1 c _ hx'
      have hh : ¬ (u : Int) < 10 := by omega
      have hnn : 0 ≤ (u : Int) := by omega
      have IH := Lib.hid (ih (u / 10) (by omega))
      have w1 : IntKind.i64.wrap ((u : Int) / 10) = (u : Int) / 10 := IntWalk.i64_in _ (by omega)
      have w2 : (u : Int).tmod 10 = (u : Int) % 10 := Int.tmod_eq_emod_of_nonneg hnn
      have w3 : IntKind.i64.wrap (48 + (u : Int) % 10) = 48 + (u : Int) % 10 := IntWalk.i64_in _ (by omega)
      have w4 : IntKind.u8.wrap (48 + (u : Int) % 10) = 48 + (u : Int) % 10 := by rw [IntKind.wrap_u8']; omega
      have hlen := dd_len (u / 10) (by omega)
      clear ih hd hc hx hx' h
      go_enter Tryd.func22, Tryd.ntmps22
      go_wp2_with fail
      go_region_with ((go_at_call 22; refine (IH.out _ (by omega)).mono ?_; rintro e w1 ⟨rfl, hB⟩; try (have kc : w1.cell? ⟨w.heap.size, 0, none⟩ = some (.int .u8 (48 + (u : Int) % 10)) := by rw [hB.cell (by simp)]; simp)))
      all_goals
        go_wp2_with fail
        go_ret
        refine ⟨by rw [E.out, ← str_append]; rfl, ?_⟩
        first
        | exact (below_of_drew hB).alloc hB.size _
        | exact ((Below.refl w.heap.size w).drew.alloc (Nat.le_refl _) _).trans (hB.mono (by simp))
        | exact ((Below.refl w.heap.size w).alloc (Nat.le_refl _) _).drew.trans (hB.mono (by simp))
end Go.Proofs.YthgkkgjnealkbaaDoor
