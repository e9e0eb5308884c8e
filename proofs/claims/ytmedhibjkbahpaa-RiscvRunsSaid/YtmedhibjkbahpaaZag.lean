/-
  Contracts of the document's own small functions: the word that is the same modulo 2^32, a truth as a word.
-/
import Derived.Lib.Hide
import Derived.Test.YtmedhibjkbahpaaZaf
import Derived.Test.YtmedhibjkbahpaaZad
namespace Go.Proofs.Ytmedhibjkbahpaa
open Go.RowKit

theorem ret_int {k : IntKind} {a b : Int} (h : a = b) : Ending.returned (.int k a) = .returned (.int k b) := by rw [h]
theorem tmod32_facts (n : Int) : (-4294967296 < n.tmod 4294967296 ∧ n.tmod 4294967296 < 4294967296) ∧ ∃ k, n.tmod 4294967296 = n + 4294967296 * k := by
  have h1 : (n.tmod 4294967296).natAbs = n.natAbs % 4294967296 := Int.natAbs_tmod n 4294967296
  have h2 := Int.mul_tdiv_add_tmod n 4294967296
  exact ⟨by omega, -(n.tdiv 4294967296), by omega⟩
theorem round_any (n : Int) (w : World) :
    Calls Try.prog 39 #[.int .i64 n] w fun e w' => e = .returned (.int .i32 (wrap32 n)) ∧ w = w' := by
  obtain ⟨⟨t1, t2⟩, k, hk⟩ := tmod32_facts n
  have H := Lib.hid hk
  clear hk
  go_enter Try.func39, Try.ntmps39
  go_wp2
  all_goals
    go_ret
    exact ⟨ret_int (by have hk := H.out; unfold wrap32; omega), rfl⟩
theorem ref_truth (b : Bool) (w : World) :
    Calls Try.prog 85 #[.bool b] w fun e w' => e = .returned (.int .i32 (truthI b)) ∧ w = w' := by
  cases b <;>
  · go_enter Try.func85, Try.ntmps85
    go_wp2
    go_ret
    exact ⟨rfl, rfl⟩

end Go.Proofs.Ytmedhibjkbahpaa
