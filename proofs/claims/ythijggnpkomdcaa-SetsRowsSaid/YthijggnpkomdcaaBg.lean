/-
  (*Bits).Put and Drop at any number; a slice of integers; sets.Of.
-/
import Derived.Test.YthijggnpkomdcaaBf
namespace Go.Proofs.Ythijggnpkomdcaa
open Go.RowKit
set_option linter.unusedVariables false
set_option maxRecDepth 100000

/-- Would n be put in? -/
def putB (ws : List Nat) (n : Int) : Bool := decide (0 ≤ n) && decide (n < 65536) && !mem ws n.toNat
def putZ (ws : List Nat) (n : Int) : List Nat := if putB ws n = true then putW ws n.toNat else ws
def dropZ (ws : List Nat) (n : Int) : List Nat := if hasZ ws n = true then dropW ws n.toNat else ws
theorem put_any (w : World) (b : Nat) (v : Value) (ws : List Nat) (hS : SetG w b v ws) (n : Int) (hi : n ≤ 9223372036854775807) :
    Calls Try.prog 90 #[.pointer (some ⟨b, 0, none⟩), .int .i64 n] w fun e w' => e = .returned (.bool (putB ws n)) ∧ SetTo w b v (putZ ws n) w' := by
  by_cases h : putB ws n = true
  · have h' := h
    unfold putB at h'
    simp only [Bool.and_eq_true, decide_eq_true_eq, Bool.not_eq_true'] at h'
    obtain ⟨⟨h0, h1⟩, h2⟩ := h'
    unfold putZ
    rw [if_pos h, h]
    obtain ⟨m, rfl⟩ := Int.eq_ofNat_of_zero_le h0
    exact put_yes w b v ws hS m (by omega) h2
  · unfold putZ
    rw [if_neg h]
    have e : putB ws n = false := by simpa using h
    rw [e]
    refine (put_no w b v ws hS n hi ?_).mono ?_
    · by_cases h0 : n < 0
      · exact .inl h0
      · by_cases h1 : 65536 ≤ n
        · exact .inr (.inl h1)
        · refine .inr (.inr ?_)
          unfold putB at e
          rw [decide_eq_true (by omega), decide_eq_true (by omega)] at e
          unfold hasZ
          rw [decide_eq_true (by omega)]
          simpa using e
    · rintro e w' ⟨rfl, rfl⟩
      exact ⟨rfl, SetTo.refl hS⟩
theorem hasZ_putZ (ws : List Nat) (n m : Int) : hasZ (putZ ws n) m = (hasZ ws m || (decide (m = n) && decide (0 ≤ n) && decide (n < 65536))) := by
  by_cases h : putB ws n = true
  · have h' := h
    unfold putB at h'
    simp only [Bool.and_eq_true, decide_eq_true_eq, Bool.not_eq_true'] at h'
    obtain ⟨⟨h0, h1⟩, h2⟩ := h'
    unfold putZ
    rw [if_pos h]
    unfold hasZ
    rw [mem_putW, decide_eq_true h0, decide_eq_true h1, Bool.and_true, Bool.and_true]
    by_cases hm : 0 ≤ m
    · rw [decide_eq_true hm, Bool.true_and, Bool.true_and]
      congr 1
      rw [Bool.eq_iff_iff]
      simp only [decide_eq_true_eq]
      omega
    · rw [decide_eq_false hm, Bool.false_and, Bool.false_and, Bool.false_or]
      rw [decide_eq_false (by omega)]
  · unfold putZ
    rw [if_neg h]
    have e : putB ws n = false := by simpa using h
    by_cases hm : m = n
    · subst hm
      unfold putB at e
      unfold hasZ
      cases h1 : decide (0 ≤ m) <;> cases h2 : decide (m < 65536) <;> cases h3 : mem ws m.toNat <;> simp_all
    · rw [decide_eq_false hm, Bool.false_and, Bool.false_and, Bool.or_false]
theorem hasZ_dropZ (ws : List Nat) (n m : Int) : hasZ (dropZ ws n) m = (hasZ ws m && !decide (m = n)) := by
  by_cases h : hasZ ws n = true
  · have h' := h
    unfold hasZ at h'
    simp only [Bool.and_eq_true, decide_eq_true_eq] at h'
    obtain ⟨h0, h2⟩ := h'
    unfold dropZ
    rw [if_pos h]
    unfold hasZ
    rw [mem_dropW]
    by_cases hm : 0 ≤ m
    · rw [decide_eq_true hm, Bool.true_and, Bool.true_and]
      congr 2
      rw [Bool.eq_iff_iff]
      simp only [decide_eq_true_eq]
      omega
    · rw [decide_eq_false hm, Bool.false_and, Bool.false_and, Bool.false_and]
  · unfold dropZ
    rw [if_neg h]
    by_cases hm : m = n
    · subst hm
      have e : hasZ ws m = false := by simpa using h
      rw [e]
      rfl
    · rw [decide_eq_false hm]
      simp

/-- The slice at A of n elements holds the integers zs. -/
def Ints (w : World) (A : Option Addr) (n : Nat) (zs : List Int) : Prop :=
  zs.length = n ∧ (∀ z ∈ zs, -9223372036854775808 ≤ z ∧ z ≤ 9223372036854775807) ∧ (0 < n → ∃ b off, A = some ⟨b, off, none⟩ ∧ b < w.heap.size ∧ ∀ i, i < n → w.cell? ⟨b, off + i, none⟩ = some (.int .i64 (zs.getD i 0)))
theorem Ints.same {w w' : World} {A : Option Addr} {n : Nat} {zs : List Int} (h : Ints w A n zs) (hz : w.heap.size ≤ w'.heap.size) (hb : ∀ b off, A = some ⟨b, off, none⟩ → b < w.heap.size → w'.heap[b]? = w.heap[b]?) : Ints w' A n zs := by
  refine ⟨h.1, h.2.1, fun hn => ?_⟩
  obtain ⟨b, off, e, hlt, hc⟩ := h.2.2 hn
  exact ⟨b, off, e, Nat.lt_of_lt_of_le hlt hz, fun i hi => (World.cell?_of_block (a := ⟨b, off + i, none⟩) (hb b off e hlt)).trans (hc i hi)⟩
theorem Ints.below {w w' : World} {A : Option Addr} {n : Nat} {zs : List Int} (h : Ints w A n zs) (hb : Below w.heap.size w w') : Ints w' A n zs := h.same hb.size (fun b _ _ hlt => hb.block b hlt)
theorem Ints.take {w : World} {A : Option Addr} {n k : Nat} {zs : List Int} (h : Ints w A n zs) (hk : k ≤ n) : Ints w A k (zs.take k) := by
  refine ⟨by rw [List.length_take, h.1]; omega, fun z hz => h.2.1 z (List.mem_of_mem_take hz), fun hn => ?_⟩
  obtain ⟨b, off, e, hlt, hc⟩ := h.2.2 (by omega)
  refine ⟨b, off, e, hlt, fun i hi => ?_⟩
  rw [hc i (by omega)]
  congr 2
  simp [hi]
theorem Ints.at {w : World} {A : Option Addr} {n : Nat} {zs : List Int} (h : Ints w A n zs) (hn : 0 < n) : ∃ b off, A = some ⟨b, off, none⟩ ∧ b < w.heap.size ∧ ∀ i, i < n → w.cell? ⟨b, off + i, none⟩ = some (.int .i64 (zs.getD i 0)) := h.2.2 hn
theorem getD_mem {zs : List Int} {k : Nat} (h : k < zs.length) : zs.getD k 0 ∈ zs := by
  have : zs.getD k 0 = zs[k] := by simp [List.getD, h]
  rw [this]
  exact List.getElem_mem h
theorem Ints.bd {w : World} {A : Option Addr} {n : Nat} {zs : List Int} (h : Ints w A n zs) {k : Nat} (hk : k < n) : -9223372036854775808 ≤ zs.getD k 0 ∧ zs.getD k 0 ≤ 9223372036854775807 := h.2.1 _ (getD_mem (by rw [h.1]; exact hk))
theorem take_succ_getD {zs : List Int} {k : Nat} (hk : k < zs.length) : zs.take (k + 1) = zs.take k ++ [zs.getD k 0] := by
  rw [List.take_add_one]
  simp [hk]

/-- The set of some numbers. -/
def ofW (zs : List Int) : List Nat := zs.foldl putZ []
theorem ofW_snoc (zs : List Int) (z : Int) : ofW (zs ++ [z]) = putZ (ofW zs) z := by
  unfold ofW
  rw [List.foldl_append]
  rfl
theorem hasZ_nil (n : Int) : hasZ [] n = false := by
  unfold hasZ
  rw [mem_ge [] _ (Nat.zero_le _), Bool.and_false]
theorem hasZ_fold : ∀ (zs : List Int) (acc : List Nat) (n : Int), hasZ (zs.foldl putZ acc) n = true ↔ hasZ acc n = true ∨ (n ∈ zs ∧ 0 ≤ n ∧ n < 65536)
  | [], acc, n => by simp
  | z :: zs, acc, n => by
    rw [List.foldl_cons, hasZ_fold zs, hasZ_putZ, Bool.or_eq_true]
    simp only [Bool.and_eq_true, decide_eq_true_eq, List.mem_cons]
    constructor
    · rintro ((h | ⟨⟨rfl, h1⟩, h2⟩) | ⟨h1, h2⟩)
      · exact .inl h
      · exact .inr ⟨.inl rfl, h1, h2⟩
      · exact .inr ⟨.inr h1, h2⟩
    · rintro (h | ⟨rfl | h1, h2, h3⟩)
      · exact .inl (.inl h)
      · exact .inl (.inr ⟨⟨rfl, h2⟩, h3⟩)
      · exact .inr ⟨h1, h2, h3⟩
theorem hasZ_ofW (zs : List Int) (n : Int) : hasZ (ofW zs) n = true ↔ n ∈ zs ∧ 0 ≤ n ∧ n < 65536 := by
  unfold ofW
  rw [hasZ_fold, hasZ_nil]
  simp
theorem of_any (w : World) (A : Option Addr) (n c : Nat) (zs : List Int) (hA : Ints w A n zs) (hn : n ≤ 1000000) :
    Calls Try.prog 55 #[.slice A n c] w fun e w' => Fresh w e (ofW zs) w' := by
  have HA := Lib.hid hA
  clear hA
  have h0 : SetG (w.alloc (.cells #[.slice none 0 0] 156)) w.heap.size (.slice none 0 0) [] :=
    ⟨heap_alloc_new w _, ⟨rfl, .inl ⟨rfl, rfl⟩⟩, (fun e => by cases e), (fun x hx => by cases hx), Nat.zero_le _⟩
  have H0 := Lib.hid h0
  clear h0
  go_enter Try.func55, Try.ntmps55
  go_wp2
  go_loopw [10] (fun i wr => ∃ k : Nat, k ≤ n ∧ i = .int .i64 k ∧ Below w.heap.size w wr ∧ ∃ v, SetG wr w.heap.size v (ofW (zs.take k)) ∧ ∀ j ∈ foot w.heap.size v, w.heap.size ≤ j) (fun i _ => n - (intOf i).toNat)
  case atStart =>
    refine ⟨0, by omega, rfl, (Below.refl _ _).alloc (Nat.le_refl _) _, _, H0.out, fun j hj => ?_⟩
    rcases mem_foot.1 hj with rfl | hj
    · exact Nat.le_refl _
    · cases hj
  case round =>
    obtain ⟨k, hk, rfl, hB, v, hS, hF⟩ := hrel
    rcases Nat.lt_or_ge k n with hkn | hkn
    · obtain ⟨b, off, rfl, hb, hcs0⟩ := HA.out.at (by omega)
      have hck : wr.cell? ⟨b, off + k, none⟩ = some (.int .i64 (zs.getD k 0)) := (hB.cell (p := ⟨b, off + k, none⟩) hb).trans (hcs0 k hkn)
      have hbd := (HA.out.bd hkn).2
      have ET : Hid (ofW (zs.take (k + 1)) = putZ (ofW (zs.take k)) (zs.getD k 0)) := Lib.hid (by rw [take_succ_getD (by rw [HA.out.1]; exact hkn), ofW_snoc])
      have HB := Lib.hid hB
      have HS := Lib.hid hS
      have HF := Lib.hid hF
      clear hcs0 hB hS hF hb
      have hkn' : (k : Int) < (n : Int) := by omega
      generalize zs.getD k 0 = z at *
      go_wp2_with (go_at_call 90; refine (put_any _ _ _ _ HS.out _ hbd).mono ?_; rintro e w1 ⟨rfl, hT⟩; have HT := Lib.hid hT; clear hT)
      go_roundw
      case rel =>
        obtain ⟨v1, h1, h2, h3⟩ := HT.out
        refine ⟨k + 1, by omega, by go_num, HB.out.trans (h2.toBelow HF.out HB.out.size), v1, by rw [ET.out]; exact h1, fun j hj => ?_⟩
        rcases h3 j hj with h4 | h4
        · exact HF.out j h4
        · have := HB.out.size; omega
      case measure => simp [intOf]; omega
    · obtain rfl : k = n := by omega
      have HX : Hid (Fresh w (.returned (.pointer (some ⟨w.heap.size, 0, none⟩))) (ofW zs) wr) := by
        rw [List.take_of_length_le (by rw [HA.out.1]; exact Nat.le_refl _)] at hS
        exact Lib.hid ⟨_, v, rfl, hS, hF, hB⟩
      clear hB hS hF
      go_wp2
      go_ret
      exact HX.out
end Go.Proofs.Ythijggnpkomdcaa
