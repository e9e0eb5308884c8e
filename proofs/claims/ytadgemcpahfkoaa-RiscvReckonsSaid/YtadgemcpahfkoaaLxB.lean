/-
  Contracts of layer 7's functions over texts: words, names, signs.
-/
import Derived.Test.YtadgemcpahfkoaaLxA
namespace Go.Proofs.Ytadgemcpahfkoaa
open Go.RowKit
set_option linter.unusedVariables false

def signAB (a b : Nat) : Nat :=
  if a = 60 ∨ a = 62 then (if b = a ∨ b = 61 then 2 else 1)
  else if a = 61 ∨ a = 33 then (if b = 61 then 2 else 1)
  else if a = 38 ∨ a = 124 then (if b = a then 2 else 1)
  else if a ∈ [43, 45, 42, 47, 37, 94, 126, 40, 41, 123, 125, 91, 93, 44, 59] then 1 else 0
theorem signAB_eq (l : List UInt8) : signN l = signAB (l.getD 0 0).toNat (l.getD 1 0).toNat := rfl
-- signs begin
theorem wordB_eq (s : ByteArray) : wordB s.data.toList = ((s.toList == [105, 110, 116]) || (s.toList == [105, 102]) || (s.toList == [101, 108, 115, 101]) || (s.toList == [119, 104, 105, 108, 101]) || (s.toList == [98, 114, 101, 97, 107]) || (s.toList == [99, 111, 110, 116, 105, 110, 117, 101]) || (s.toList == [114, 101, 116, 117, 114, 110]) || (s.toList == [112, 114, 105, 110, 116]) || (s.toList == [114, 101, 97, 100])) := by
  rw [ba_toList]
  unfold wordB wordsL
  rw [Bool.eq_iff_iff]
  simp [or_assoc]
theorem isWord_any (s : ByteArray) (w : World) : Calls Try.prog 90 #[.string s] w fun e w' => e = .returned (.bool (wordB s.data.toList)) ∧ w = w' := by
  have H := Lib.hid (wordB_eq s)
  go_enter Try.func90, Try.ntmps90
  go_wp2
  all_goals
    first
    | (exfalso; simp_all; done)
    | (go_ret
       refine ⟨ret_bool ?_, rfl⟩
       rw [H.out]
       simp [*])
end Go.Proofs.Ytadgemcpahfkoaa
