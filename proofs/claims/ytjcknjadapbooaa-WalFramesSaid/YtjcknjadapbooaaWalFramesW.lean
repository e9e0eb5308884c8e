/-
  The walk of the law WalFrames: it answers true and writes nothing that was there.
-/
import Derived.Test.YtjcknjadapbooaaWl
namespace Go.Proofs.Ytjcknjadapbooaa
open Go.RowKit Go.Shelf
set_option linter.unusedVariables false
set_option maxRecDepth 100000

/-- What is known of a slice of bytes that came in. -/
theorem came_in {W : World} {a : Option Addr} {len cap : Nat} {zs : List Int} (h : IsRow .u8 W a len cap zs) : ∃ l, RowN W a len l ∧ len ≤ cap ∧ cap ≤ 9223372036854775807 := by
  refine ⟨_, (RowZ.of_isRow h).toN, ?_⟩
  rcases h with ⟨_, rfl, rfl, _⟩ | ⟨x, _, h1, h2, _⟩
  · exact ⟨Nat.le_refl _, by omega⟩
  · exact ⟨h1, by unfold maxLen at h2; omega⟩
set_option maxHeartbeats 3200000 in
theorem walFrames_walk (a0 : Option Addr) (len0 cap0 : Nat) (z0 : List Int) (a1 : Option Addr) (len1 cap1 : Nat) (z1 : List Int) (W : World) (w0 : IsRow .u8 W a0 len0 cap0 z0) (w1 : IsRow .u8 W a1 len1 cap1 z1) :
    Calls Try.prog 3 #[.slice a0 len0 cap0, .slice a1 len1 cap1] W fun e w' => e = .returned (.bool true) ∧ Below W.heap.size W w' := by
  obtain ⟨l0, h0, n0, c0⟩ := came_in w0
  obtain ⟨l1, h1, n1, c1⟩ := came_in w1
  have HQ := Lib.hid (h0.take (k := min len0 3000) (Nat.min_le_left _ _))
  have HP := Lib.hid (h1.take (k := min len1 3000) (Nat.min_le_left _ _))
  generalize l0.take (min len0 3000) = l at *
  generalize l1.take (min len1 3000) = k at *
  have em : (if (3000 : Int) < (len0 : Int) then (3000 : Int) else (len0 : Int)) = ((min len0 3000 : Nat) : Int) := by split <;> omega
  have em1 : (if (3000 : Int) < (len1 : Int) then (3000 : Int) else (len1 : Int)) = ((min len1 3000 : Nat) : Int) := by split <;> omega
  have hm : min len0 3000 ≤ 3000 := by omega
  have hm1 : min len1 3000 ≤ 3000 := by omega
  have hmc : min len0 3000 ≤ cap0 := by omega
  have hmc1 : min len1 3000 ≤ cap1 := by omega
  clear h0 h1 w0 w1
  generalize min len0 3000 = m at *
  generalize min len1 3000 = m1 at *
  have HE := Lib.hid (And.intro em em1)
  clear em em1
  have i0 : (0 : Int) ≤ (m : Int) := by omega
  have i1 : (0 : Int) ≤ (m1 : Int) := by omega
  have i2 : (m : Int) ≤ (cap0 : Int) := by omega
  have i3 : (m1 : Int) ≤ (cap1 : Int) := by omega
  go_enter Try.func3, Try.ntmps3
  go_wp2_with fail
  go_region
  rw [HE.out.1, HE.out.2, Int.toNat_natCast, Int.toNat_natCast]
  have hdr : Below W.heap.size W W.drew := (Below.refl _ W).drew
  have HF := Lib.hid (frame_any a0 m cap0 l (by omega) W.drew (HQ.out.below hdr))
  clear hdr
  go_wp2_with fail
  refine HF.out.mono ?_
  rintro e w1 ⟨⟨g, c, rfl, hg, hf⟩, hb⟩
  have hb1 : Below W.heap.size W w1 := (Below.refl _ W).drew.trans hb
  have HX1 := Lib.hid (And.intro hf hb1)
  have HPA := Lib.hid (parse_any w1 a1 m1 cap1 k (by omega) hmc1 c1 (HP.out.below hb1))
  clear HF hf hb hb1 hg
  go_wp2_with fail
  refine HPA.out.mono ?_
  rintro e w2 ⟨R, cR, vs, rfl, hl, hr, _, hb⟩
  have hb2 : Below W.heap.size W w2 := HX1.out.2.trans (hb.mono HX1.out.2.size)
  have HX2 := Lib.hid (And.intro (HX1.out.1.below hb) (And.intro hb2 (recs_of hl hr)))
  have HRP := Lib.hid (refparse_any w2 a1 m1 cap1 k (by omega) hmc1 c1 (HP.out.below hb2))
  clear HX1 HPA hb hb2 hl hr
  go_wp2_with fail
  refine HRP.out.mono ?_
  rintro e w3 ⟨R2, cR2, hq⟩
  obtain ⟨he3, hrc, hb⟩ : e = .returned (.tuple #[.slice R2 (parseN k).length cR2, .int .i64 ((allN (parseN k)).length : Int)]) ∧ Recs w3 R2 (parseN k).length (parseN k) ∧ Below w2.heap.size w2 w3 := by
    first
      | exact hq
      | (obtain ⟨⟨x, q1⟩, q2⟩ := hq; exact ⟨q1, q2⟩)
  subst he3
  have hb3 : Below W.heap.size W w3 := HX2.out.2.1.trans (hb.mono HX2.out.2.1.size)
  have hk8 : (parseN k).length ≤ 90000 := by
    have := (parse_long HP.out.bytes).2
    have := HP.out.length
    omega
  have HX3 := Lib.hid (And.intro (HX2.out.1.below hb) (And.intro hb3 (And.intro (HX2.out.2.2.below hb) hrc)))
  have HRF := Lib.hid (refframe_any a0 m cap0 l (by omega) w3.drew (HQ.out.below hb3.drew))
  have v1 := conv_row (w := w3.drew) HX3.out.1.row.drew c
  have HSA := Lib.hid (fun (w4 : World) (h : Below w3.heap.size w3 w4) => same_any w4 R (parseN k).length cR (parseN k) R2 (parseN k).length cR2 (parseN k) (HX3.out.2.2.1.below h) (HX3.out.2.2.2.below h) (by omega) (by omega))
  generalize (parseN k).length = pl at *
  generalize (allN (parseN k)).length = al at *
  generalize parseN k = pk at *
  rw [decide_eq_true rfl] at HSA
  clear HX2 HRP hb hrc hq hb3
  go_wp2_with fail
  go_region_with (first
    | (go_at_call 9
       refine HRF.out.mono ?_
       rintro e w4 ⟨⟨A4, c4, rfl, _, hf4⟩, hb4⟩
       have hb34 : Below w3.heap.size w3 w4 := (Below.refl _ w3).drew.trans hb4
       have v1' := conv_row (HX3.out.1.below hb34).row c
       have v2 := conv_row hf4.row c4
       have HX4 := Lib.hid hb34
       clear hf4 hb4 hb34)
    | (go_at_call 10
       refine (HSA.out w4 HX4.out).mono ?_
       rintro e w5 ⟨rfl, hb5⟩
       have HX5 := Lib.hid (HX4.out.trans (hb5.mono HX4.out.size))
       clear hb5)
    | (go_at_call 11
       refine (lives_true w5).mono ?_
       rintro e w6 ⟨rfl, hb6⟩
       have HX6 : Hid (Below W.heap.size W w6) := Lib.hid (HX3.out.2.1.trans ((HX5.out.trans (hb6.mono HX5.out.size)).mono HX3.out.2.1.size))
       clear hb6))
  all_goals
    go_wp2
    go_ret
    exact ⟨rfl, HX6.out⟩
end Go.Proofs.Ytjcknjadapbooaa
