/-
  Small facts for the contract of the document's All.
-/
import Derived.Test.YtkpgkobhnldhpaaDoorLxH
import Derived.Test.YtkpgkobhnldhpaaDoorLxI
import Derived.Test.YtkpgkobhnldhpaaDoorLxJ
import Derived.Test.YtkpgkobhnldhpaaDoorLxN
import Derived.Lib.ConvBytes
import Derived.Deep.Cut
import Derived.Deep.CutRange
import Derived.Deep.CutBlock
namespace Go.Proofs.YtkpgkobhnldhpaaDoor
open Go.RowKit
set_option linter.unusedVariables false
set_option maxRecDepth 100000

def RAllRes (s : ByteArray) (w : World) (e : Ending) (w' : World) : Res → Prop
  | .ok ts => ∃ A c, e = .returned (.tuple #[.slice A ts.length c, .int .i64 0, .int .i64 0]) ∧ SLine 6 w' A ts.length c (toksC s.data.toList ts) ∧ (∀ k ∈ blk A, w.heap.size ≤ k) ∧ Below w.heap.size w w'
  | .bad er o => e = .returned (.tuple #[.slice none 0 0, .int .i64 (er : Int), .int .i64 (o : Int)]) ∧ Below w.heap.size w w'
def RAllOut (s : ByteArray) (w : World) (e : Ending) (w' : World) : Prop := RAllRes s w e w' (allN s.data.toList)
theorem RAllOut.bad {s : ByteArray} {w w' : World} {er o : Nat} {E O : Int} (h : allN s.data.toList = .bad er o) (hE : E = er) (hO : O = o) (hb : Below w.heap.size w w') : RAllOut s w (.returned (.tuple #[.slice none 0 0, .int .i64 E, .int .i64 O])) w' := by
  unfold RAllOut; rw [h, hE, hO]; exact ⟨rfl, hb⟩
theorem RAllOut.ok {s : ByteArray} {w w' : World} {ts : List Tok} {A : Option Addr} {c : Nat} (h : allN s.data.toList = .ok ts) (hl : SLine 6 w' A ts.length c (toksC s.data.toList ts)) (hA : ∀ k ∈ blk A, w.heap.size ≤ k) (hb : Below w.heap.size w w') : RAllOut s w (.returned (.tuple #[.slice A ts.length c, .int .i64 0, .int .i64 0])) w' := by
  unfold RAllOut; rw [h]; exact ⟨A, c, rfl, hl, hA, hb⟩
structure RHead (s : ByteArray) (w wr : World) (q : Nat) (ts : List Tok) (A : Option Addr) (c : Nat) : Prop where
  le : q ≤ s.size
  line : SLine 6 wr A ts.length c (toksC s.data.toList ts)
  apart : ∀ k ∈ blk A, w.heap.size ≤ k
  below : Below w.heap.size w wr
  res : allN s.data.toList = (allAt (s.data.toList.drop q) q).pre ts
  few : ts.length ≤ q
theorem runN_stop (l : List UInt8) (h : runN l < l.length) : alnumB (l.getD (runN l) 0) = false := by
  induction l with
  | nil => simp [runN] at h
  | cons c r ih =>
    by_cases hc : alnumB c = true
    · have e : runN (c :: r) = runN r + 1 := by rw [runN, if_pos hc]
      rw [e] at h ⊢
      have := ih (by simpa using h)
      simpa using this
    · have e : runN (c :: r) = 0 := by rw [runN, if_neg hc]
      rw [e]
      simpa using hc
theorem runN_at (l : List UInt8) : ∀ j, j < runN l → alnumB (l.getD j 0) = true := by
  induction l with
  | nil => intro j h; simp [runN] at h
  | cons c r ih =>
    intro j h
    by_cases hc : alnumB c = true
    · cases j with
      | zero => simpa using hc
      | succ j =>
        have e : runN (c :: r) = runN r + 1 := by rw [runN, if_pos hc]
        rw [e] at h
        simpa using ih j (by omega)
    · have e : runN (c :: r) = 0 := by rw [runN, if_neg hc]
      omega
theorem alnum_in (s : ByteArray) (q p : Nat) (h1 : q ≤ p) (h2 : p < s.size) (h3 : p < q + runN (s.data.toList.drop q)) : alnumB s[p] = true := by
  obtain ⟨j, rfl⟩ : ∃ j, p = q + j := ⟨p - q, by omega⟩
  rw [← ba_dropGetD s q j h2]
  exact runN_at _ j (by omega)
theorem alnum_out (s : ByteArray) (q R : Nat) (hR : runN (s.data.toList.drop q) = R) (h : q + R < s.size) : alnumB s[q + R] = false := by
  rw [← ba_dropGetD s q R h, ← hR]
  exact runN_stop _ (by rw [List.length_drop, ba_length]; omega)
/-- The token's own variable. -/
structure TBox (s : ByteArray) (w0 wx : World) (b kd : Nat) (tx : List UInt8) (nm o : Nat) : Prop where
  cells : wx.heap[b]? = some (.cells (tokC s.data.toList ⟨kd, tx, nm, o⟩).toArray 33 (0, 0))
  new : w0.heap.size ≤ b
  below : Below w0.heap.size w0 wx
theorem six_set {w : World} {b : Nat} {a0 a1 a2 a3 a4 a5 : Value} {T : TypeId} {fr : Nat × Nat} (h : w.heap[b]? = some (.cells #[a0, a1, a2, a3, a4, a5] T fr)) (v0 v1 v2 v3 v4 v5 : Value) :
    ((((((w.setCell ⟨b, 0, none⟩ v0).setCell ⟨b, 1, none⟩ v1).setCell ⟨b, 2, none⟩ v2).setCell ⟨b, 3, none⟩ v3).setCell ⟨b, 4, none⟩ v4).setCell ⟨b, 5, none⟩ v5).heap[b]? = some (.cells #[v0, v1, v2, v3, v4, v5] T fr) := by
  simp [World.setCell, Array.getElem?_modify, h]
theorem extract_mid (s : ByteArray) (q p : Nat) : s.extract q p = strL ((s.data.toList.drop q).take (p - q)) := by
  apply ByteArray.ext
  rw [ByteArray.data_extract]
  apply Array.ext'
  simp [strL]
def signCells : List Value := signsL.map fun l => .string (strL l)
theorem signs_any (w : World) : Calls Tryd.prog 30 #[] w fun e w' => e = .returned (.slice (some ⟨w.heap.size, 0, none⟩) 29 29) ∧ w' = w.alloc (.cells signCells.toArray 9) := by
  have H : Hid (signCells.toArray = #[.string ⟨#[60, 60]⟩, .string ⟨#[62, 62]⟩, .string ⟨#[60, 61]⟩, .string ⟨#[62, 61]⟩, .string ⟨#[61, 61]⟩, .string ⟨#[33, 61]⟩, .string ⟨#[38, 38]⟩, .string ⟨#[124, 124]⟩, .string ⟨#[43]⟩, .string ⟨#[45]⟩, .string ⟨#[42]⟩, .string ⟨#[47]⟩, .string ⟨#[37]⟩, .string ⟨#[38]⟩, .string ⟨#[124]⟩, .string ⟨#[94]⟩, .string ⟨#[60]⟩, .string ⟨#[62]⟩, .string ⟨#[33]⟩, .string ⟨#[126]⟩, .string ⟨#[61]⟩, .string ⟨#[40]⟩, .string ⟨#[41]⟩, .string ⟨#[123]⟩, .string ⟨#[125]⟩, .string ⟨#[91]⟩, .string ⟨#[93]⟩, .string ⟨#[44]⟩, .string ⟨#[59]⟩]) := Lib.hid rfl
  go_enter Tryd.func30, Tryd.ntmps30
  go_wp2
  go_ret
  exact ⟨rfl, by rw [H.out]⟩
theorem sign_cell (w : World) (k : Nat) (sg : List UInt8) (h : signsL[k]? = some sg) : (w.alloc (.cells signCells.toArray 9)).cell? ⟨w.heap.size, k, none⟩ = some (.string (strL sg)) := by
  rw [cell_of_row _ _ k _ _ (0, 0) (heap_alloc_new w _)]
  simp [signCells, h]
/-- The first of the first k signs that fits. -/
def curL (l : List UInt8) (k : Nat) : Option (List UInt8) := (signsL.take k).find? fun p => preB p l
theorem curL_next (l : List UInt8) (k : Nat) (sg : List UInt8) (h : signsL[k]? = some sg) : curL l (k + 1) = (curL l k).or (if preB sg l then some sg else none) := by
  unfold curL
  rw [take_snoc' _ _ _ h, List.find?_append]
  cases hp : preB sg l <;> simp [List.find?, hp]
theorem curL_all (l : List UInt8) : curL l 29 = signF l := rfl
theorem sign_ne : ∀ sg ∈ signsL, sg ≠ [] := by decide
theorem curL_ne (l : List UInt8) (k : Nat) (z : List UInt8) (h : curL l k = some z) : z ≠ [] := sign_ne z (List.mem_of_mem_take (List.mem_of_find?_eq_some h))
theorem cutN_sign' (l : List UInt8) (h : alnumB (l.headD 0) = false) : cutN l = if signN l = 0 then ⟨10, 0, 0, 0⟩ else ⟨0, 4, signN l, 0⟩ := by
  unfold alnumB at h
  simp only [Bool.or_eq_false_iff] at h
  unfold cutN
  rw [if_neg (by rw [h.1]; simp), if_neg (by rw [h.2]; simp)]
theorem str_empty : (strL []).toList.isEmpty = true ∧ (strL []).toList = [] := by rw [ba_toList]; exact ⟨rfl, rfl⟩
theorem str_full (l : List UInt8) (h : l ≠ []) : (strL l).toList.isEmpty = false ∧ ¬ (strL l).toList = [] := by
  rw [ba_toList, strL_list]
  cases l with
  | nil => exact absurd rfl h
  | cons => exact ⟨rfl, by simp⟩
theorem set_one {w : World} {b : Nat} {a0 a1 a2 a3 a4 a5 : Value} {T : TypeId} {fr : Nat × Nat} (h : w.heap[b]? = some (.cells #[a0, a1, a2, a3, a4, a5] T fr)) (v : Value) :
    (w.setCell ⟨b, 1, none⟩ v).heap[b]? = some (.cells #[a0, v, a2, a3, a4, a5] T fr) := by
  simp [World.setCell, Array.getElem?_modify, h]
theorem set_zero {w : World} {b : Nat} {a0 a1 a2 a3 a4 a5 : Value} {T : TypeId} {fr : Nat × Nat} (h : w.heap[b]? = some (.cells #[a0, a1, a2, a3, a4, a5] T fr)) (v : Value) :
    (w.setCell ⟨b, 0, none⟩ v).heap[b]? = some (.cells #[v, a1, a2, a3, a4, a5] T fr) := by
  simp [World.setCell, Array.getElem?_modify, h]
theorem set_two {w : World} {b : Nat} {a0 a1 a2 a3 a4 a5 : Value} {T : TypeId} {fr : Nat × Nat} (h : w.heap[b]? = some (.cells #[a0, a1, a2, a3, a4, a5] T fr)) (v : Value) :
    (w.setCell ⟨b, 2, none⟩ v).heap[b]? = some (.cells #[a0, a1, v, a3, a4, a5] T fr) := by
  simp [World.setCell, Array.getElem?_modify, h]
theorem box6 {w : World} {b : Nat} {a0 a1 a2 a3 a4 a5 : Value} {T : TypeId} (h : w.heap[b]? = some (.cells #[a0, a1, a2, a3, a4, a5] T (0, 0))) : w.cell? ⟨b, 0, none⟩ = some a0 ∧ w.cell? ⟨b, 1, none⟩ = some a1 ∧ w.cell? ⟨b, 2, none⟩ = some a2 ∧ w.frozen? ⟨b, 0, none⟩ = false ∧ w.frozen? ⟨b, 1, none⟩ = false ∧ w.frozen? ⟨b, 2, none⟩ = false := by
  refine ⟨?_, ?_, ?_, frozen_of_row _ b 0 _ T h, frozen_of_row _ b 1 _ T h, frozen_of_row _ b 2 _ T h⟩
  · rw [cell_of_row _ b 0 _ T (0, 0) h]; rfl
  · rw [cell_of_row _ b 1 _ T (0, 0) h]; rfl
  · rw [cell_of_row _ b 2 _ T (0, 0) h]; rfl
theorem tbox_mk {s : ByteArray} {w0 wx : World} {b kd nm q : Nat} {tx : List UInt8} {x y : Int} (hx : lineZ s.data.toList q = .int .i64 x ∧ colZ s.data.toList q = .int .i64 y) (hc : wx.heap[b]? = some (.cells #[.int .i64 (kd : Int), .string (strL tx), .int .i32 (nm : Int), .int .i64 (q : Int), .int .i64 x, .int .i64 y] 33 (0, 0))) (hn : w0.heap.size ≤ b) (hb : Below w0.heap.size w0 wx) : TBox s w0 wx b kd tx nm q := by
  refine ⟨?_, hn, hb⟩
  rw [hc]
  unfold tokC
  simp only [hx.1, hx.2]
  rfl
theorem bytesWorld_below' (w : World) (e : TypeId) (s : ByteArray) : Below w.heap.size w (Lib.bytesWorld w e s) := Lib.bytesWorld_below _ _ _
/-- A string's bytes, its run as an equation, world and room as letters. -/
theorem conv_string (tx : ByteArray) : ∃ (CAP : World → Nat) (BW : World → World),
    (∀ W : World, (convert 9 44 (.string tx)).run Tryd.prog W = .ok (.slice (some ⟨W.heap.size, 0, none⟩) tx.size (CAP W)) (BW W)) ∧ (∀ W : World, Below W.heap.size W (BW W)) ∧
    (∀ (W : World) (i : Nat) (h : i < tx.size), (BW W).cell? ⟨W.heap.size, i, none⟩ = some (.int .u8 (tx[i].toNat : Int))) ∧ ∀ W : World, tx.size ≤ CAP W := by
  refine ⟨fun W => grownCap W tx.size 0 5, fun W => Lib.bytesWorld W 5 tx, fun W => Lib.run_convert_string_bytes W 9 44 5 tx Tryd.underlying9 Tryd.underlying44 Tryd.underlying5, fun W => bytesWorld_below' W _ _, fun W i h => ?_, fun W => grownCap_ge W tx.size 0 _⟩
  have hb := Lib.bytesWorld_at_new W 5 tx
  rw [cell_of_row _ W.heap.size i _ _ _ hb]
  unfold Lib.bytesCells
  rw [Array.getElem?_append_left (by simpa using h), Array.getElem?_map]
  have : tx.data[i]? = some tx[i] := by
    rw [Array.getElem?_eq_getElem (by simpa using h)]
    rfl
  rw [this]
  rfl
theorem decVal_take (l : List UInt8) (k : Nat) : decVal (l.take k) ≤ decVal l := by
  have e : decVal l = valF (decVal (l.take k)) (l.drop k) := by
    unfold decVal valF
    rw [← List.foldl_append, List.take_append_drop]
  rw [e]
  exact valF_ge _ _
theorem ba_mem' (t : ByteArray) (k : Nat) (h : k < t.size) : t[k] ∈ t.data.toList := by
  have h' : k < t.data.toList.length := h
  have e : t.data.toList[k] = t[k] := rfl
  rw [← e]
  exact List.getElem_mem h'
theorem all_no (l : List UInt8) (p : UInt8 → Bool) (c : UInt8) (h : c ∈ l) (hp : p c = false) : l.all p = false := by
  cases hq : l.all p with
  | false => rfl
  | true => have := List.all_eq_true.1 hq c h; rw [hp] at this; cases this
theorem sign_two : ∀ sg ∈ signsL, sg.length ≤ 2 := by decide
theorem word_short (l : List UInt8) (h : wordB l = true) : l.length ≤ 8 := by
  have key : ∀ x ∈ wordsL, x.length ≤ 8 := by decide
  unfold wordB at h
  exact key l (by simpa using h)
end Go.Proofs.YtkpgkobhnldhpaaDoor
