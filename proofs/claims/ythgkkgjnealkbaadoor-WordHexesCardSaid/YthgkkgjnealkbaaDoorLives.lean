/-
  The document's examples are as it says: the helper 'lives' of the first layer's statements answers true, and nothing that was there is written.
-/
import Derived.Test.YthgkkgjnealkbaaDoorWords
import Derived.Below
namespace Go.Proofs.YthgkkgjnealkbaaDoor
open Go.RowKit

/-- The two parts of a word, as word.Split reckons them. -/
def splitLo (n : Int) : Int := wrap32 (n * 1048576) / 1048576
def splitHi (n : Int) : Int := wrap32 (n - splitLo n) % 4294967296 / 4096
theorem split_any (n : Int) (w : World) :
    Calls Tryd.prog 30 #[.int .i32 n] w fun e w' => e = .returned (.tuple #[.int .i32 (splitHi n), .int .i32 (splitLo n)]) ∧ w = w' := by
  go_enter Tryd.func30, Tryd.ntmps30
  go_wp2
  go_ret2
  exact ⟨rfl, rfl⟩

theorem dec0 : Lib.decDigits 0 = [48] := by rw [Lib.decDigits]; rfl
theorem dec_0 (w : World) :
    Calls Tryd.prog 20 #[.int .i32 0] w fun e w' => e = .returned (.string ⟨#[48]⟩) ∧ w = w' := by
  have hc := Tryd.strconv_Itoa_small 0 (by omega) w
  rw [dec0] at hc
  have H := Lib.hid hc
  clear hc
  go_enter Tryd.func20, Tryd.ntmps20
  go_wp2_with (go_at_call 39; refine H.out.mono ?_; rintro e w' ⟨rfl, rfl⟩)
  go_ret
  exact ⟨rfl, rfl⟩

theorem parse_minus0 (w : World) :
    Calls Tryd.prog 21 #[.string ⟨#[45, 48]⟩] w fun e w' => e = .returned (.tuple #[.int .i32 0, .int .i64 11]) ∧ Below w.heap.size w w' := by
  have hp : Lib.parseIntB 32 (⟨#[45, 48]⟩ : ByteArray).data.toList = .ok 0 := by decide
  have hc := Tryd.strconv_ParseInt_10_at32_ok ⟨#[45, 48]⟩ (by decide) 0 hp w
  have H := Lib.hid hc
  clear hc
  go_enter Tryd.func21, Tryd.ntmps21
  go_wp2_with fail
  refine H.out.mono ?_
  rintro e W1 ⟨rfl, hW⟩
  have hB : Below w.heap.size w W1 := by
    rcases hW with rfl | ⟨t, rfl⟩
    · exact Below.refl _ _
    · exact Lib.bytesWorld_below _ _ _
  clear hW H
  go_wp2_with (go_at_call 20; refine (dec_0 _).mono ?_; rintro e w' ⟨rfl, rfl⟩)
  go_ret2
  exact ⟨rfl, hB⟩

theorem div_a (w : World) : Calls Tryd.prog 12 #[.int .i64 4, .int .i32 (-7), .int .i32 2] w fun e w' => e = .returned (.tuple #[.int .i32 (-3), .bool true]) ∧ w = w' := by
  have h := bin_div (-7) 2 (by decide) w
  rwa [show wrap32 ((-7 : Int).tdiv 2) = -3 from by unfold wrap32; decide] at h
theorem div_b (w : World) : Calls Tryd.prog 12 #[.int .i64 4, .int .i32 (-2147483648), .int .i32 (-1)] w fun e w' => e = .returned (.tuple #[.int .i32 (-2147483648), .bool true]) ∧ w = w' := by
  have h := bin_div (-2147483648) (-1) (by decide) w
  rwa [show wrap32 ((-2147483648 : Int).tdiv (-1)) = -2147483648 from by unfold wrap32; decide] at h
theorem shr_c (w : World) : Calls Tryd.prog 12 #[.int .i64 7, .int .i32 (-1), .int .i32 33] w fun e w' => e = .returned (.tuple #[.int .i32 (-1), .bool true]) ∧ w = w' := by
  have h := bin_shr (-1) 33 w
  rwa [show (-1 : Int) / 2 ^ ((33 : Int) % 32).toNat = -1 from by decide] at h
theorem split_d (w : World) : Calls Tryd.prog 30 #[.int .i32 2048] w fun e w' => e = .returned (.tuple #[.int .i32 1, .int .i32 (-2048)]) ∧ w = w' := by
  have h := split_any 2048 w
  have e1 : splitLo 2048 = -2048 := by unfold splitLo wrap32; decide
  rwa [show splitHi 2048 = 1 from by unfold splitHi; rw [e1]; unfold wrap32; decide, e1] at h

theorem lives_true (w : World) :
    Calls Tryd.prog 14 #[] w fun e w' => e = .returned (.bool true) ∧ Below w.heap.size w w' := by
  go_enter Tryd.func14, Tryd.ntmps14
  go_wp2_with fail
  refine (div_a _).mono ?_
  rintro e w' ⟨rfl, rfl⟩
  go_wp2_with fail
  refine (div_b _).mono ?_
  rintro e w' ⟨rfl, rfl⟩
  go_wp2_with fail
  refine (shr_c _).mono ?_
  rintro e w' ⟨rfl, rfl⟩
  go_wp2_with fail
  refine (split_d _).mono ?_
  rintro e w' ⟨rfl, rfl⟩
  go_wp2_with fail
  refine (parse_minus0 _).mono ?_
  rintro e w1 ⟨rfl, hB⟩
  go_wp2
  go_ret
  exact ⟨rfl, hB⟩
end Go.Proofs.YthgkkgjnealkbaaDoor
