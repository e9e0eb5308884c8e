/-
  Contracts of layer 7's gap, named, number, cut.
-/
import Derived.Test.YtcanjkjpdnbcnaaZak
import Derived.Test.YtcanjkjpdnbcnaaZae
import Derived.Lib.LaidTab
import Derived.Stop.LaidErr
namespace Go.Proofs.Ytcanjkjpdnbcnaa
open Go.RowKit
set_option linter.unusedVariables false

theorem var_lt {W : World} {n : String} {g : Nat} {cs : Array Value} (hg : Try.prog.globalNamed n = some g) (h : W.var? Try.prog n = some cs) : g < W.heap.size := by
  unfold World.var? at h
  simp only [hg, Option.bind_some] at h
  rcases Nat.lt_or_ge g W.heap.size with hlt | hge
  · exact hlt
  · rw [Array.getElem?_eq_none hge] at h; cases h
theorem cell_lt {W : World} {g o : Nat} {v : Value} (h : W.cell? ⟨g, o, none⟩ = some v) : g < W.heap.size := by
  rcases Nat.lt_or_ge g W.heap.size with hlt | hge
  · exact hlt
  · unfold World.cell? at h
    rw [Array.getElem?_eq_none hge] at h
    cases h
/-- A token as a value. -/
def tokV (kind : Nat) (s : ByteArray) (num off line col : Nat) : Value := .agg #[.int .i64 (kind : Int), .string s, .int .i32 (num : Int), .int .i64 (off : Int), .int .i64 (line : Int), .int .i64 (col : Int)]
def cutV (c : Cut) (s : ByteArray) : Value := .tuple #[tokV c.kind (s.extract 0 c.len) c.num 0 0 0, .int .i64 (c.err : Int)]
theorem extract_none (s : ByteArray) : s.extract 0 0 = ⟨#[]⟩ := by
  apply ByteArray.ext
  simp
theorem extract_all (s : ByteArray) : s.extract 0 s.size = s := by
  apply ByteArray.ext
  simp
theorem bcell {W w1 : World} (hb : Below W.heap.size W w1) : (∀ b o, b < W.heap.size → w1.cell? ⟨b, o, none⟩ = W.cell? ⟨b, o, none⟩) ∧ (∀ b o, b < W.heap.size → w1.frozen? ⟨b, o, none⟩ = W.frozen? ⟨b, o, none⟩) :=
  ⟨fun b o h => hb.cell (p := ⟨b, o, none⟩) h, fun b o h => hb.frozen (p := ⟨b, o, none⟩) h⟩
theorem below_six {B : Nat} {w W1 : World} (h : Below B w W1) (b : Nat) (hb : B ≤ b) (v0 v1 v2 v3 v4 v5 : Value) : Below B w ((((((W1.setCell ⟨b, 0, none⟩ v0).setCell ⟨b, 1, none⟩ v1).setCell ⟨b, 2, none⟩ v2).setCell ⟨b, 3, none⟩ v3).setCell ⟨b, 4, none⟩ v4).setCell ⟨b, 5, none⟩ v5) :=
  (((((h.setCell hb v0).setCell hb v1).setCell hb v2).setCell hb v3).setCell hb v4).setCell hb v5
def NumOut (s : ByteArray) (w : World) (e : Ending) (w' : World) : Prop := e = .returned (cutV (if numB s.data.toList then ⟨0, 2, s.size, decVal s.data.toList⟩ else ⟨11, 0, 0, 0⟩) s) ∧ Below w.heap.size w w'
theorem NumOut.bad {s : ByteArray} {w w' : World} (h : numB s.data.toList = false) (hb : Below w.heap.size w w') : NumOut s w (.returned (.tuple #[.agg #[.int .i64 0, .string ⟨#[]⟩, .int .i32 0, .int .i64 0, .int .i64 0, .int .i64 0], .int .i64 11])) w' := by
  unfold NumOut
  rw [h, if_neg (by simp)]
  unfold cutV tokV
  rw [extract_none]
  exact ⟨rfl, hb⟩
theorem NumOut.good {s : ByteArray} {w w' : World} (h : numB s.data.toList = true) {n : Int} (hn : n = (decVal s.data.toList : Int)) (hb : Below w.heap.size w w') : NumOut s w (.returned (.tuple #[.agg #[.int .i64 2, .string s, .int .i32 n, .int .i64 0, .int .i64 0, .int .i64 0], .int .i64 0])) w' := by
  unfold NumOut
  rw [h, if_pos rfl, hn]
  unfold cutV tokV
  rw [extract_all]
  exact ⟨rfl, hb⟩
theorem extract_take (s : ByteArray) (k : Nat) : (s.extract 0 k).data.toList = s.data.toList.take k := by
  rw [ByteArray.data_extract]
  simp
theorem extract_size0 (s : ByteArray) (k : Nat) (h : k ≤ s.size) : (s.extract 0 k).size = k := by rw [ByteArray.size_extract]; omega
theorem extract_zero (s : ByteArray) : s.extract 0 0 = (⟨#[]⟩ : ByteArray) := extract_none s
theorem cutV_part (c : Cut) (s : ByteArray) (k : Nat) (h : k ≤ s.size) (hc : c.len = 0 ∨ c.len = k) : cutV c (s.extract 0 k) = cutV c s := by
  have e : (s.extract 0 k).extract 0 c.len = s.extract 0 c.len := by
    rcases hc with h0 | h0
    · rw [h0, extract_none, extract_none]
    · have := extract_all (s.extract 0 k)
      rw [extract_size0 s k h] at this
      rw [h0, this]
  unfold cutV
  rw [e]
def CutOut (s : ByteArray) (w : World) (e : Ending) (w' : World) : Prop := e = .returned (cutV (cutN s.data.toList) s) ∧ Below w.heap.size w w'
theorem cutN_letter (s : ByteArray) (h0 : 0 < s.size) (h : letterB s[0] = true) : cutN s.data.toList = (if 64 < (s.extract 0 (runN s.data.toList)).size then ⟨2, 0, 0, 0⟩ else if wordB (s.extract 0 (runN s.data.toList)).data.toList then ⟨0, 3, (s.extract 0 (runN s.data.toList)).size, 0⟩ else ⟨0, 1, (s.extract 0 (runN s.data.toList)).size, 0⟩) := by
  have := runN_le s.data.toList
  rw [ba_length] at this
  rw [extract_size0 _ _ this, extract_take]
  unfold cutN
  rw [ba_headD s h0, if_pos h]
theorem cutN_digit (s : ByteArray) (h0 : 0 < s.size) (h : letterB s[0] = false) (hd : digitB s[0] = true) : cutN s.data.toList = (if numB (s.extract 0 (runN s.data.toList)).data.toList then ⟨0, 2, (s.extract 0 (runN s.data.toList)).size, decVal (s.extract 0 (runN s.data.toList)).data.toList⟩ else ⟨11, 0, 0, 0⟩) := by
  have := runN_le s.data.toList
  rw [ba_length] at this
  rw [extract_size0 _ _ this, extract_take]
  unfold cutN
  rw [ba_headD s h0, if_neg (by simp [h]), if_pos hd]
theorem cutN_sign (s : ByteArray) (h0 : 0 < s.size) (h : letterB s[0] = false) (hd : digitB s[0] = false) : cutN s.data.toList = (if signN s.data.toList = 0 then ⟨10, 0, 0, 0⟩ else ⟨0, 4, signN s.data.toList, 0⟩) := by
  unfold cutN
  rw [ba_headD s h0, if_neg (by simp [h]), if_neg (by simp [hd])]
theorem extract_first (s : ByteArray) (k : Nat) (h1 : 1 ≤ k) (h : k ≤ s.size) (h' : 0 < (s.extract 0 k).size) : (s.extract 0 k)[0] = s[0] := by
  rw [ByteArray.getElem_extract]
end Go.Proofs.Ytcanjkjpdnbcnaa
