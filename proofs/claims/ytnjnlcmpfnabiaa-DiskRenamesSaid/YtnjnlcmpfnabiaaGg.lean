/-
  Turn, where it turns nothing.
-/
import Derived.Test.YtnjnlcmpfnabiaaGf
namespace Go.Proofs.Ytnjnlcmpfnabiaa
open Go.RowKit Go.Maps
set_option linter.unusedVariables false
set_option maxRecDepth 100000

section
variable {w w' : World} {d : Nat} {own own' : Nat → Nat} {b : DBox} {F RA SA C : Option Addr} {fn fc rn rc sn sc cn cc : Nat} {fs css : List Value} {ps ss : List (ByteArray × Value)} {chl : List (List (ByteArray × Value))} {nm su : Value → Nat} {dt : Value → List Value}
set_option maxHeartbeats 800000 in
theorem DiskIn.turn_no (H : DiskIn w d own b F fn fc RA rn rc SA sn sc C cn cc fs ps ss css chl nm dt su) (x : ByteArray) (hno : hasP ltS ps x = false) (at_ : Int) (hat : -9223372036854775808 ≤ at_ ∧ at_ ≤ 9223372036854775807) (mask : Int) :
    Calls Try.prog 36 #[.pointer (some ⟨d, 0, none⟩), .string x, .int .i64 at_, .int .u8 mask] w fun e w' => e = .returned (.bool false) ∧ Below w.heap.size w w' := by
  have HN := Lib.hid (dnames_any w d)
  have HGET := Lib.hid (rget_S w d 2 RA rn rc ps H.nowAt.rowAt x (by have := H.nowAt.len; omega))
  have hl : lookP ltS ps x = none := by unfold hasP at hno; cases h : lookP ltS ps x with | none => rfl | some _ => rw [h] at hno; cases hno
  rw [hno, hl] at HGET
  clear H hno hl
  go_enter Try.func36, Try.ntmps36
  go_wp2_with (first
    | (go_at_call 50; refine HN.out.mono ?_; rintro e w1 ⟨rfl, rfl⟩)
    | (go_at_call 46; refine HGET.out.mono ?_; rintro e w2 ⟨rfl, hb⟩; have HB := Lib.hid hb; clear hb))
  go_ret
  exact ⟨rfl, HB.out⟩
set_option maxHeartbeats 800000 in
theorem DiskIn.turn_out (H : DiskIn w d own b F fn fc RA rn rc SA sn sc C cn cc fs ps ss css chl nm dt su) (x : ByteArray) (v : Value) (hv : lookP ltS ps x = some v) (at_ : Int) (hat : -9223372036854775808 ≤ at_ ∧ at_ ≤ 9223372036854775807) (hout : at_ < 0 ∨ ((dt v).length : Int) ≤ at_) (mask : Int) :
    Calls Try.prog 36 #[.pointer (some ⟨d, 0, none⟩), .string x, .int .i64 at_, .int .u8 mask] w fun e w' => e = .returned (.bool false) ∧ Below w.heap.size w w' := by
  have HN := Lib.hid (dnames_any w d)
  have HGET := Lib.hid (rget_S w d 2 RA rn rc ps H.nowAt.rowAt x (by have := H.nowAt.len; omega))
  have hh : hasP ltS ps x = true := by unfold hasP; rw [hv]; rfl
  have hl := H.look x _ hv
  obtain ⟨f, A, n, c, rfl, hf7, hfa, hsl, hoA, hn1, hsu⟩ := H.file _ hl
  obtain rfl : n = (dt (.pointer (some ⟨f, 0, none⟩))).length := by have := hsl.1; omega
  obtain ⟨n, hn⟩ : ∃ n, (dt (.pointer (some ⟨f, 0, none⟩))).length = n := ⟨_, rfl⟩
  rw [hn] at hout hfa hsl hn1
  rw [hh, hv] at HGET
  simp only [Option.getD_some] at HGET
  have HF := Lib.hid hfa
  clear H hh hl hv hfa hsl hoA hsu hn hf7
  rcases hout with h | h
  all_goals
    first | (have h0 : ¬ (0 : Int) ≤ at_ := by omega) | (have h0 : True := trivial)
    go_enter Try.func36, Try.ntmps36
    go_wp2_with (first
      | (go_at_call 50; refine HN.out.mono ?_; rintro e w1 ⟨rfl, rfl⟩)
      | (go_at_call 46; refine HGET.out.mono ?_; rintro e w2 ⟨rfl, hb⟩; have HB := Lib.hid hb; have hf2 := HF.out.same (hb.block f (lt_of_block HF.out)); have c1 := hf2.c1; clear hb hf2))
    all_goals
      go_ret
      exact ⟨rfl, HB.out⟩
set_option maxHeartbeats 1600000 in
theorem DiskIn.turn_yes (H : DiskIn w d own b F fn fc RA rn rc SA sn sc C cn cc fs ps ss css chl nm dt su) (x : ByteArray) (f : Nat) (hv : lookP ltS ps x = some (.pointer (some ⟨f, 0, none⟩))) (k : Nat) (hk : k < (dt (.pointer (some ⟨f, 0, none⟩))).length) (mask : Nat) (hmask : mask < 256) :
    Calls Try.prog 36 #[.pointer (some ⟨d, 0, none⟩), .string x, .int .i64 (k : Int), .int .u8 (mask : Int)] w fun e w' => e = .returned (.bool true) ∧ ∃ u : Nat, (dt (.pointer (some ⟨f, 0, none⟩)))[k]? = some (.int .u8 (u : Int)) ∧ u < 256 ∧ FiledO w d own b F fn fc RA rn rc SA sn sc C cn cc fs css ps ss chl nm (updP dt f ((dt (.pointer (some ⟨f, 0, none⟩))).set k (.int .u8 ((u ^^^ mask : Nat) : Int)))) (updP su f (su (.pointer (some ⟨f, 0, none⟩)))) w' := by
  have HN := Lib.hid (dnames_any w d)
  have HGET := Lib.hid (rget_S w d 2 RA rn rc ps H.nowAt.rowAt x (by have := H.nowAt.len; omega))
  have hh : hasP ltS ps x = true := by unfold hasP; rw [hv]; rfl
  have hl := H.look x _ hv
  obtain ⟨f0, A, n, c, e0, hf7, hfa, hsl, hoA, hn1, hsu⟩ := H.file _ hl
  cases e0
  obtain rfl : n = (dt (.pointer (some ⟨f, 0, none⟩))).length := by have := hsl.1; omega
  obtain ⟨z, hz0, hz1, hz⟩ := H.bytes _ hl _ (List.getElem_mem hk)
  obtain ⟨y, rfl⟩ : ∃ y : Nat, z = (y : Int) := ⟨z.toNat, by omega⟩
  have hg := List.getElem?_eq_getElem hk
  rw [hz] at hg
  have hy : y < 256 := by omega
  have hlm := hsl.1
  have L : Like b b := ⟨rfl, rfl, rfl, rfl, rfl, H.quota, H.calls, H.ahead⟩
  have hx256 : y ^^^ mask < 256 := Nat.xor_lt_two_pow (n := 8) hy hmask
  have HFIN : Hid (∀ (W W' : World) (g off : Nat), A = some ⟨g, off, none⟩ → Below w.heap.size w W → W.setCell ⟨g, off + k, none⟩ (.int .u8 ((y ^^^ mask : Nat) : Int)) = W' → FiledO w d own b F fn fc RA rn rc SA sn sc C cn cc fs css ps ss chl nm (updP dt f ((dt (.pointer (some ⟨f, 0, none⟩))).set k (.int .u8 ((y ^^^ mask : Nat) : Int)))) (updP su f (su (.pointer (some ⟨f, 0, none⟩)))) W') := Lib.hid (by
    rintro W W' g off rfl hB rfl
    have hog := hoA g (mem_blk.2 ⟨_, rfl, rfl⟩)
    have hc1 : Chg [g] W (W.setCell ⟨g, off + k, none⟩ (.int .u8 ((y ^^^ mask : Nat) : Int))) := (Chg.refl _ W).setCell g _ _ (.inl (by simp))
    have hfg : f ∉ [g] := fun hm => by rw [List.mem_singleton] at hm; rw [hm] at hf7; omega
    have hdg : d ∉ [g] := fun hm => by rw [List.mem_singleton] at hm; have := H.od; rw [hm] at this; omega
    have hset := (hsl.below hB).set k [.int .u8 ((y ^^^ mask : Nat) : Int)] (by simp; omega)
    rw [setCells_one] at hset
    refine H.refiled L f hl _ (some ⟨g, off, none⟩) _ c _ c _ _ hfa hn1 hsu ?_ ((H.box.below hB).chg hc1 hdg) ((hfa.same (hB.block f (lt_of_block hfa))).same (hc1.same f (by have := lt_of_block hfa; have := hB.size; omega) hfg)) ?_ ((Chg.of_below hB).andThen hc1 (fun i hi => .inl (by rw [List.mem_singleton] at hi; rw [hi]; exact List.mem_cons_of_mem _ (List.mem_cons_of_mem _ (mem_blk.2 ⟨_, rfl, rfl⟩))))) (fun i hi => .inl hi)
    · intro u hu
      rcases List.mem_or_eq_of_mem_set hu with h | h
      · exact H.bytes _ hl u h
      · exact ⟨_, by omega, by omega, h⟩
    · rw [List.set_eq_take_append_cons_drop, if_pos hk]
      simpa using hset)
  have hxr := u8_xor_nat y mask hy hmask
  obtain ⟨nx, hnx⟩ : ∃ nx, y ^^^ mask = nx := ⟨_, rfl⟩
  rw [hnx] at hxr HFIN hx256
  have HG := Lib.hid (And.intro hg (And.intro hy hnx))
  obtain ⟨n, hn⟩ : ∃ n, (dt (.pointer (some ⟨f, 0, none⟩))).length = n := ⟨_, rfl⟩
  rw [hn] at hfa hsl hn1 hk
  obtain ⟨g, off, rfl, hgl, hcs, hfr⟩ := hsl.at (by omega)
  have hck := hcs k (by omega)
  rw [hg] at hck
  have hfk := (hfr k (by have := hsl.2.1; omega)).2
  rw [hh, hv] at HGET
  simp only [Option.getD_some] at HGET
  have HF := Lib.hid (And.intro hfa (And.intro hck (And.intro hfk hgl)))
  have hkn : (k : Int) < (n : Int) := by omega
  have hk0 : (0 : Int) ≤ (k : Int) := by omega
  have hcc : n ≤ c := hsl.2.1
  clear H hh hl hv hfa hsl hoA hsu hf7 hz hz0 hz1 hg hcs hfr hck hfk hnx L hx256 hlm hn1
  have hkd : decide ((k : Int) < 0) = false := decide_eq_false (by omega)
  go_enter Try.func36, Try.ntmps36
  go_wp2_with (first
    | (go_at_call 50; refine HN.out.mono ?_; rintro e w1 ⟨rfl, rfl⟩)
    | (go_at_call 46; refine HGET.out.mono ?_; rintro e w2 ⟨rfl, hb⟩; have HB := Lib.hid hb; have hf2 := HF.out.1.same (hb.block f (lt_of_block HF.out.1)); have c1 := hf2.c1; have e1 : w2.frozen? ⟨g, off + k, none⟩ = false := (World.frozen?_of_block (w := w) (a := ⟨g, off + k, none⟩) (hb.block g HF.out.2.2.2)).trans HF.out.2.2.1; have d1 := (World.cell?_of_block (w := w) (a := ⟨g, off + k, none⟩) (hb.block g HF.out.2.2.2)).trans HF.out.2.1; clear hb hf2))
  go_ret
  refine ⟨rfl, y, HG.out.1, HG.out.2.1, ?_⟩
  rw [HG.out.2.2]
  exact HFIN.out _ _ g off rfl HB.out rfl
end
end Go.Proofs.Ytnjnlcmpfnabiaa
