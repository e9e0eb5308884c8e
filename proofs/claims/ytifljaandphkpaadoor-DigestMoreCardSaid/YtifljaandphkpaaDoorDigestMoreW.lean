/-
  The walk of the law DigestMore: it answers true and writes nothing that was there.
-/
import Derived.Test.YtifljaandphkpaaDoorApp
namespace Go.Proofs.YtifljaandphkpaaDoor
open Go.RowKit
set_option linter.unusedVariables false

theorem digestMore_walk (a0 : Option Addr) (len0 cap0 : Nat) (z0 : List Int) (a1 : Option Addr) (len1 cap1 : Nat) (z1 : List Int) (a2 : Int) (W : World) (w0 : IsRow .u8 W a0 len0 cap0 z0) (w1 : IsRow .u8 W a1 len1 cap1 z1) (w2 : (Lit.int .u32 a2).wf = true) (hL : laidMetH Tryd.prog Rows.digestMoreRow.laid W) :
    Calls Tryd.prog 5 #[.slice a0 len0 cap0, .slice a1 len1 cap1, .int .u32 a2] W fun e w' => e = .returned (.bool true) ∧ Below W.heap.size W w' := by
  obtain ⟨l0, hH, hc⟩ := Held.of_isRow w0
  obtain ⟨l1, hG, hd⟩ := Held.of_isRow w1
  obtain ⟨s, hs, rfl⟩ : ∃ s : Nat, s < 4294967296 ∧ a2 = (s : Int) := by
    have := bounds_u32 w2
    exact ⟨a2.toNat, by omega, by omega⟩
  have HK := Lib.hid (roots_of_laid hL)
  have hle : len0 ≤ cap0 := hH.2.2
  have hle1 : len1 ≤ cap1 := hG.2.2
  have HQ := Lib.hid (hH.take (k := min len0 2000) (Nat.min_le_left _ _))
  have HP := Lib.hid (hG.take (k := min len1 2000) (Nat.min_le_left _ _))
  generalize l0.take (min len0 2000) = l at *
  generalize l1.take (min len1 2000) = k at *
  have hm : min len0 2000 ≤ 2000 := by omega
  have hm1 : min len1 2000 ≤ 2000 := by omega
  have HC := Lib.hid (cut_any a0 len0 cap0 hle hc W)
  have HC1 := Lib.hid (cut_any a1 len1 cap1 hle1 hd W)
  clear hH hG w0 w1 w2 hL
  generalize min len0 2000 = m at *
  generalize min len1 2000 = m1 at *
  go_enter Tryd.func5, Tryd.ntmps5
  go_wp2_with fail
  refine HC.out.mono ?_
  clear HC
  rintro e w' ⟨rfl, rfl⟩
  go_wp2_with fail
  refine HC1.out.mono ?_
  clear HC1
  rintro e w' ⟨rfl, rfl⟩
  have HO := Lib.hid (own_empty W)
  have HB : Hid (Below W.heap.size W (W.alloc (.cells #[] 5))) := Lib.hid ((Below.refl _ _).alloc (Nat.le_refl _) _)
  have HQ1 := Lib.hid (HQ.out.below HB.out)
  have HP1 := Lib.hid (HP.out.below HB.out)
  go_wp2_with (first
    | (at_builtin; refine wpList_appendN (.tmp 12) (.tmp 13) rfl rfl W.heap.size (.slice (some ⟨W.heap.size, 0, none⟩) 0 0) 0 [] (by rfl) HO a0 m cap0 l (by rfl) HQ1 (by omega) (by simp) ?_; intro v3 w3 HO3 HB3
       rw [Nat.zero_add, List.nil_append] at HO3
       have HB4 := Lib.hid (HB.out.trans HB3.out)
       have HP4 := Lib.hid (HP.out.below HB4.out)
       have hsz4 := HB4.out.size
       clear HO HB HQ1 HP1 HB3)
    | (at_builtin; refine wpList_appendN (.tmp 14) (.tmp 15) rfl rfl W.heap.size v3 m l (by rfl) HO3 a1 m1 cap1 k (by rfl) HP4 (by omega) hsz4 ?_; intro v5 w5 HO5 HB5))
  have hB5 := HB4.out.trans HB5.out
  have HK5 := Lib.hid (HK.out.below hB5)
  have HQ5 := Lib.hid (HQ.out.below hB5)
  have HP5 := Lib.hid (HP.out.below hB5)
  have hlt : ∀ x ∈ l ++ k, x < 256 := fun x hx => by
    rcases List.mem_append.1 hx with hx | hx
    · exact HQ.out.1.lt x hx
    · exact HP.out.1.lt x hx
  have hlen : (l ++ k).length = m + m1 := by rw [List.length_append, HQ.out.1.length, HP.out.1.length]
  obtain ⟨A5, c5, rfl, hH5, _⟩ := held_of_own HO5.out hlt hlen
  have HH5 := Lib.hid hH5
  clear hH5 HO5 HB5 HB4 HP4 HO3 HQ HP HK hsz4 hlt hlen
  have E1 := Lib.hid (crcMore_append 0 l k)
  have E2 := Lib.hid (crcMore_append s l k)
  have E3 := Lib.hid (crcMore_nil s hs)
  have L1 := crcMore_lt 0 l
  have L2 := crcMore_lt s l
  generalize hx0 : crcMore 0 l = x0 at *
  have HX0 := Lib.hid hx0
  clear hx0
  generalize hx1 : crcMore s l = x1 at *
  have HX1 := Lib.hid hx1
  clear hx1
  refine (crc_any a0 m cap0 l (by omega) w5 HQ5.out.1).mono ?_
  rintro e w' ⟨rfl, rfl⟩
  rw [HX0.out]
  go_wp2_with fail
  refine (more_any a1 m1 cap1 k x0 L1 (by omega) w5 HP5.out.1).mono ?_
  rintro e w' ⟨rfl, rfl⟩
  rw [E1.out]
  go_wp2_with fail
  refine (crc_any A5 (m + m1) c5 (l ++ k) (by omega) w5 HH5.out.1).mono ?_
  rintro e w' ⟨rfl, rfl⟩
  generalize crcMore 0 (l ++ k) = y0 at *
  go_wp2_with fail
  refine (more_any a0 m cap0 l s hs (by omega) w5 HQ5.out.1).mono ?_
  rintro e w' ⟨rfl, rfl⟩
  rw [HX1.out]
  go_wp2_with fail
  refine (more_any a1 m1 cap1 k x1 L2 (by omega) w5 HP5.out.1).mono ?_
  rintro e w' ⟨rfl, rfl⟩
  rw [E2.out]
  go_wp2_with fail
  refine (more_any A5 (m + m1) c5 (l ++ k) s hs (by omega) w5 HH5.out.1).mono ?_
  rintro e w' ⟨rfl, rfl⟩
  generalize crcMore s (l ++ k) = y1 at *
  go_wp2_with fail
  refine (more_any none 0 0 [] s hs (by omega) w5 RowN.nil).mono ?_
  rintro e w' ⟨rfl, rfl⟩
  rw [E3.out]
  go_wp2_with fail
  refine (lives_true w5 HK5.out).mono ?_
  rintro e w6 ⟨rfl, hb⟩
  go_wp2
  go_ret
  exact ⟨rfl, hB5.trans (hb.mono hB5.size)⟩
end Go.Proofs.YtifljaandphkpaaDoor
