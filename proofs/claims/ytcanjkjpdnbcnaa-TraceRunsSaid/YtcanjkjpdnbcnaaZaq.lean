/-
  Contracts of the text builder's writers at this program's numbers, for a builder that the call itself made.
  Contracts of layer 7's Print, At, and of the document's At, Same.
  Contracts of layer 7's law helpers: lives, cut; of the document's IsWord, IsName, Same; of IsName.
  Contracts of layer 7's IsName, and of the document's IsWord, IsName, begins.
-/
import Derived.Test.YtcanjkjpdnbcnaaZap
import Derived.Shelf.Strings.Builder1
namespace Go.Proofs.Ytcanjkjpdnbcnaa
open Go.RowKit
set_option linter.unusedVariables false
set_option maxRecDepth 100000

theorem bld_byte : (Try.prog.info? 5).map (fun i => (i.zero, i.size, i.bytes)) = some (some (.int .u8 0), 1, 1) := by kernel_rfl
/-- Rows of other elements stand as they stood. -/
def Kept5 (b : Nat) (w w' : World) : Prop := ∀ (k : Nat) (cs : Array Value) (T : TypeId) (fr : Nat × Nat), w.heap[k]? = some (.cells cs T fr) → T ≠ 5 → k ≠ b → w'.heap[k]? = w.heap[k]?
theorem Kept5.of (b : Nat) {w w' : World} (h : ∀ k, k ≠ b → w'.heap[k]? = w.heap[k]?) : Kept5 b w w' := fun k _ _ _ _ _ hk => h k hk
theorem own_u8 {w : World} {B : Nat} {v : Value} {n : Nat} {xs : List Value} (h : w.ownsRow B 5 1 v n xs) {k : Nat} {cs : Array Value} {T : TypeId} {fr : Nat × Nat} (hk : w.heap[k]? = some (.cells cs T fr)) (hT : T ≠ 5) : some k ≠ v.ownBlock := by
  rcases h.2 with ⟨rfl, _⟩ | ⟨g, cap, cur, rfl, _, hg, _⟩
  · intro e; cases e
  · intro e
    simp only [Value.ownBlock, Option.some.injEq] at e
    subst e
    rw [hg] at hk
    simp only [Option.some.injEq, Obj.cells.injEq] at hk
    exact hT hk.2.1.symm
end Go.Proofs.Ytcanjkjpdnbcnaa
namespace Go.Proofs.Ytcanjkjpdnbcnaa
open Go.RowKit
set_option linter.unusedVariables false
set_option maxRecDepth 100000

/-- A token as it may come in. -/
structure Tk where
  kd : Int
  tx : ByteArray
  nm : Int
  o : Int
  l : Int
  c : Int
/-- The slice A of n elements reads as these tokens. -/
def Rd6 (w : World) (A : Option Addr) (n : Nat) (xs : List Tk) : Prop :=
  xs.length = n ∧ ∀ k t, xs[k]? = some t → ∃ g off, A = some ⟨g, off, none⟩ ∧ g < w.heap.size ∧ w.cell? ⟨g, off + k * 6, none⟩ = some (.int .i64 t.kd) ∧ w.cell? ⟨g, off + k * 6 + 1, none⟩ = some (.string t.tx) ∧ w.cell? ⟨g, off + k * 6 + 2, none⟩ = some (.int .i32 t.nm) ∧ w.cell? ⟨g, off + k * 6 + 3, none⟩ = some (.int .i64 t.o) ∧ w.cell? ⟨g, off + k * 6 + 4, none⟩ = some (.int .i64 t.l) ∧ w.cell? ⟨g, off + k * 6 + 5, none⟩ = some (.int .i64 t.c)
theorem Rd6.below {w w' : World} {A : Option Addr} {n : Nat} {xs : List Tk} (h : Rd6 w A n xs) (hb : Below w.heap.size w w') : Rd6 w' A n xs := by
  refine ⟨h.1, fun k t hk => ?_⟩
  obtain ⟨g, off, e, hg, c0, c1, c2, c3, c4, c5⟩ := h.2 k t hk
  exact ⟨g, off, e, Nat.lt_of_lt_of_le hg hb.size, (hb.cell hg).trans c0, (hb.cell hg).trans c1, (hb.cell hg).trans c2, (hb.cell hg).trans c3, (hb.cell hg).trans c4, (hb.cell hg).trans c5⟩
def printL : List (List UInt8) → List UInt8
  | [] => []
  | x :: r => x ++ r.flatMap (fun y => 32 :: y)
theorem printL_one (x : List UInt8) : printL ([] ++ [x]) = x := by simp [printL]
theorem printL_snoc (l : List (List UInt8)) (x : List UInt8) (h : l ≠ []) : printL (l ++ [x]) = printL l ++ [32] ++ x := by
  obtain ⟨y, r, rfl⟩ := List.exists_cons_of_ne_nil h
  simp [printL]
def txs (xs : List Tk) : List (List UInt8) := xs.map fun t => t.tx.data.toList
theorem txs_snoc (xs : List Tk) (t : Tk) : txs (xs ++ [t]) = txs xs ++ [t.tx.data.toList] := by simp [txs]
theorem take_snoc' {α : Type} (xs : List α) (k : Nat) (t : α) (h : xs[k]? = some t) : xs.take (k + 1) = xs.take k ++ [t] := by
  obtain ⟨hk, e⟩ := List.getElem?_eq_some_iff.1 h
  rw [List.take_succ_eq_append_getElem hk, e]
theorem printL_le (xs : List Tk) (k : Nat) : (printL (txs (xs.take k))).length ≤ (printL (txs xs)).length := by
  rcases Nat.lt_or_ge k xs.length with hk | hk
  · have e : txs xs = txs (xs.take k) ++ txs (xs.drop k) := by
      unfold txs
      rw [← List.map_append, List.take_append_drop]
    rw [e]
    generalize txs (xs.take k) = a
    generalize txs (xs.drop k) = b
    cases a with
    | nil => simp [printL]
    | cons y r => simp [printL]
  · rw [List.take_of_length_le hk]
    exact Nat.le_refl _
/-- A text cut at a place. -/
def clampO (n : Nat) (off : Int) : Nat := min off.toNat n
/-- What is so in the loop of the document's At. -/
structure AtBox (w : World) (b : Nat) (s : ByteArray) (k : Nat) : Prop where
  le : k ≤ s.size
  c0 : w.cell? ⟨b, 0, none⟩ = some (.int .i64 (k : Int))
  c1 : w.cell? ⟨b, 1, none⟩ = some (.int .i64 (lineOf (s.data.toList.take k) : Int))
  c2 : w.cell? ⟨b, 2, none⟩ = some (.int .i64 (colOf (s.data.toList.take k) : Int))
  f0 : w.frozen? ⟨b, 0, none⟩ = false
  f1 : w.frozen? ⟨b, 1, none⟩ = false
  f2 : w.frozen? ⟨b, 2, none⟩ = false
end Go.Proofs.Ytcanjkjpdnbcnaa
namespace Go.Proofs.Ytcanjkjpdnbcnaa
open Go.RowKit
set_option linter.unusedVariables false
set_option maxRecDepth 100000

theorem lcut_size (s : ByteArray) : (s.extract 0 (min (s.size : Int) 2000).toNat).size ≤ 2000 := by
  rw [ByteArray.size_extract]; omega
def T1 : List Tok := [⟨1, [120, 49], 0, 0⟩, ⟨4, [61], 0, 3⟩, ⟨2, [49, 48], 10, 5⟩, ⟨4, [60, 60], 0, 7⟩, ⟨1, [121], 0, 9⟩, ⟨4, [59], 0, 10⟩]
theorem lex1 : allN [120, 49, 32, 61, 32, 49, 48, 60, 60, 121, 59] = .ok T1 := by decide
theorem lex2 : allN [49, 120] = .bad 11 0 := by decide
theorem lex3 : allN [97, 32, 47, 42] = .bad 12 4 := by decide
theorem lex4 : allN [97, 32, 64] = .bad 10 2 := by decide
theorem box_new (w : World) (x y z : Value) (t : TypeId) : (w.alloc (.cells #[x, y, z] t)).cell? ⟨w.heap.size, 0, none⟩ = some x := by rw [cell_of_row _ _ 0 _ _ (0, 0) (heap_alloc_new w _)]; rfl
end Go.Proofs.Ytcanjkjpdnbcnaa
namespace Go.Proofs.Ytcanjkjpdnbcnaa
open Go.RowKit
set_option linter.unusedVariables false
set_option maxRecDepth 100000

def wordCells : List Value := wordsL.map fun l => .string (strL l)
theorem words_any (w : World) : Calls Try.prog 47 #[] w fun e w' => e = .returned (.slice (some ⟨w.heap.size, 0, none⟩) 9 9) ∧ w' = w.alloc (.cells wordCells.toArray 9) := by
  have H : Hid (wordCells.toArray = #[.string ⟨#[105, 110, 116]⟩, .string ⟨#[105, 102]⟩, .string ⟨#[101, 108, 115, 101]⟩, .string ⟨#[119, 104, 105, 108, 101]⟩, .string ⟨#[98, 114, 101, 97, 107]⟩, .string ⟨#[99, 111, 110, 116, 105, 110, 117, 101]⟩, .string ⟨#[114, 101, 116, 117, 114, 110]⟩, .string ⟨#[112, 114, 105, 110, 116]⟩, .string ⟨#[114, 101, 97, 100]⟩]) := Lib.hid rfl
  go_enter Try.func47, Try.ntmps47
  go_wp2
  go_ret
  exact ⟨rfl, by rw [H.out]⟩
theorem str_beq (l : List UInt8) (s : ByteArray) : ((strL l).toList == s.toList) = decide (l = s.data.toList) := by
  rw [ba_toList, ba_toList, strL_list, Bool.eq_iff_iff]
  simp
theorem rword_any (s : ByteArray) (w : World) : Calls Try.prog 32 #[.string s] w fun e w' => e = .returned (.bool (wordB s.data.toList)) ∧ Below w.heap.size w w' := by
  have hcell : ∀ k wd, wordsL[k]? = some wd → (w.alloc (.cells wordCells.toArray 9)).cell? ⟨w.heap.size, k, none⟩ = some (.string (strL wd)) := fun k wd h => by
    rw [cell_of_row _ _ k _ _ (0, 0) (heap_alloc_new w _)]
    simp [wordCells, h]
  have HC := Lib.hid hcell
  have HB : Hid (Below w.heap.size w (w.alloc (.cells wordCells.toArray 9))) := Lib.hid ((Below.refl _ _).alloc (Nat.le_refl _) _)
  clear hcell
  go_enter Try.func32, Try.ntmps32
  go_wp2_with (go_at_call 47; refine (words_any _).mono ?_; rintro e w' ⟨rfl, rfl⟩)
  generalize w.alloc (.cells wordCells.toArray 9) = W at *
  go_loop [7] (fun i => ∃ k : Nat, k ≤ 9 ∧ i = .int .i64 k ∧ Hid (∀ j wd, j < k → wordsL[j]? = some wd → wd ≠ s.data.toList)) (fun i => 9 - (intOf i).toNat)
  case atStart => exact ⟨0, by omega, rfl, Lib.hid (fun j wd h => by omega)⟩
  case round =>
    obtain ⟨k, hk, rfl, HI⟩ := hrel
    by_cases hlt : k < 9
    · obtain ⟨wd, hwd⟩ : ∃ wd, wordsL[k]? = some wd := ⟨_, List.getElem?_eq_getElem (by show k < 9; exact hlt)⟩
      have hc := HC.out k wd hwd
      have HS := Lib.hid (str_beq wd s)
      have HWD := Lib.hid hwd
      clear hwd
      by_cases he : wd = s.data.toList
      · have hq : ((strL wd).toList == s.toList) = true := by rw [HS.out]; exact decide_eq_true he
        have HF : Hid (wordB s.data.toList = true) := Lib.hid (by unfold wordB; rw [← he]; exact decide_eq_true (List.mem_of_getElem? HWD.out))
        clear he
        go_wp2
        go_ret
        exact ⟨ret_bool HF.out.symm, HB.out⟩
      · have hq : ((strL wd).toList == s.toList) = false := by rw [HS.out]; exact decide_eq_false he
        have HN : Hid (∀ j wd, j < k + 1 → wordsL[j]? = some wd → wd ≠ s.data.toList) := Lib.hid (fun j wd' hj h => by
          rcases Nat.lt_or_ge j k with h1 | h1
          · exact HI.out j wd' h1 h
          · obtain rfl : j = k := by omega
            rw [HWD.out] at h
            cases h
            exact he)
        clear he
        go_wp2
        go_round
        case rel => exact ⟨k + 1, by omega, by go_num, HN⟩
        case measure => simp [intOf]; omega
    · obtain rfl : k = 9 := by omega
      have HF : Hid (wordB s.data.toList = false) := Lib.hid (by
        unfold wordB
        refine decide_eq_false (fun h => ?_)
        obtain ⟨j, hj⟩ := List.mem_iff_getElem?.1 h
        have hl : j < 9 := (List.getElem?_eq_some_iff.1 hj).1
        exact HI.out j _ hl hj rfl)
      go_wp2
      go_ret
      exact ⟨ret_bool HF.out.symm, HB.out⟩
theorem nameB_eq (s : ByteArray) (h : 0 < s.size) : nameB s.data.toList = (decide (s.size ≤ 64) && letterB s[0] && decide (runN s.data.toList = s.size) && !wordB s.data.toList) := by
  unfold nameB
  have hne : s.data.toList ≠ [] := fun e => by rw [← ba_length, e] at h; simp at h
  rw [ba_headD s h, decide_eq_true hne, Bool.true_and]
  rfl
theorem alpha_split (c : UInt8) : letterB c = true → digitB c = false := by
  unfold letterB digitB
  intro h
  refine decide_eq_false (fun h2 => ?_)
  simp only [Bool.or_eq_true, decide_eq_true_eq, beq_iff_eq] at h
  omega
set_option maxHeartbeats 1000000 in
theorem risName_any (s : ByteArray) (hs : s.size ≤ 4000000000) (w : World) : Calls Try.prog 22 #[.string s] w fun e w' => e = .returned (.bool (nameB s.data.toList)) ∧ Below w.heap.size w w' := by
  by_cases h0 : s.size = 0
  · have hnil : s.data.toList = [] := List.eq_nil_of_length_eq_zero h0
    have h0b : ((s.size : Int) == 0) = true := by rw [beq_iff_eq]; omega
    have HF : Hid (nameB s.data.toList = false) := Lib.hid (by rw [hnil]; rfl)
    clear hnil
    go_enter Try.func22, Try.ntmps22
    go_wp2
    go_ret
    exact ⟨ret_bool HF.out.symm, Below.refl _ _⟩
  have h0p : 0 < s.size := by omega
  have h0b : ((s.size : Int) == 0) = false := by rw [beq_eq_false_iff_ne]; omega
  have HN := Lib.hid (nameB_eq s h0p)
  have HW := Lib.hid (rword_any s)
  clear h0
  by_cases h64 : (64 : Int) < (s.size : Int)
  · have HF : Hid (nameB s.data.toList = false) := Lib.hid (by rw [HN.out, decide_eq_false (by omega)]; rfl)
    go_enter Try.func22, Try.ntmps22
    go_wp2
    go_ret
    exact ⟨ret_bool HF.out.symm, Below.refl _ _⟩
  cases hd : digitB s[0] with
  | true =>
    have HF : Hid (nameB s.data.toList = false) := Lib.hid (by
      have : letterB s[0] = false := by
        cases hl : letterB s[0] with
        | false => rfl
        | true => have := alpha_split _ hl; rw [hd] at this; cases this
      rw [HN.out, this]; simp)
    go_enter Try.func22, Try.ntmps22
    go_wp2_with (go_at_call 31; refine (rdigit_any _ _).mono ?_; rintro e w' ⟨rfl, rfl⟩)
    go_ret
    exact ⟨ret_bool HF.out.symm, Below.refl _ _⟩
  | false =>
    cases hw : wordB s.data.toList with
    | true =>
      have HF : Hid (nameB s.data.toList = false) := Lib.hid (by rw [HN.out, hw]; simp)
      rw [hw] at HW
      clear hw
      go_enter Try.func22, Try.ntmps22
      go_wp2_with (first | (go_at_call 31; refine (rdigit_any _ _).mono ?_; rintro e w' ⟨rfl, rfl⟩) | (go_at_call 32; refine (HW.out _).mono ?_; rintro e w' ⟨rfl, hB⟩))
      go_ret
      exact ⟨ret_bool HF.out.symm, hB⟩
    | false =>
      have HF : Hid (nameB s.data.toList = (letterB s[0] && decide (runN s.data.toList = s.size))) := Lib.hid (by rw [HN.out, hw, decide_eq_true (by omega)]; simp)
      rw [hw] at HW
      clear hw HN
      go_enter Try.func22, Try.ntmps22
      go_wp2_with (first | (go_at_call 31; refine (rdigit_any _ _).mono ?_; rintro e w' ⟨rfl, rfl⟩) | (go_at_call 32; refine (HW.out _).mono ?_; rintro e w' ⟨rfl, hB⟩))
      have HB := Lib.hid hB
      have HD := Lib.hid hd
      clear hB hd
      go_loop [3] (fun i => ∃ k : Nat, k ≤ s.size ∧ i = .int .i64 k ∧ Hid (∀ c ∈ s.data.toList.take k, alnumB c = true)) (fun i => s.size - (intOf i).toNat)
      case atStart => exact ⟨0, Nat.zero_le _, rfl, Lib.hid (by simp)⟩
      case round =>
        obtain ⟨k, hk, rfl, HA⟩ := hrel
        by_cases hlt : k < s.size
        · have HG := Lib.hid (ba_getD s k hlt)
          have HT := Lib.hid (ba_takeS s k hlt)
          by_cases h1 : alnumB s[k] = true
          · have HN : Hid (∀ c ∈ s.data.toList.take (k + 1), alnumB c = true) := Lib.hid (by
              rw [HT.out]; intro c hc; rcases List.mem_append.1 hc with h | h; exact HA.out c h; rw [List.mem_singleton] at h; subst h; exact h1)
            unfold alnumB at h1
            cases h2 : letterB s[k] with
            | true =>
              clear h1
              go_wp2_with (first | (go_at_call 31; refine (rdigit_any _ _).mono ?_; rintro e w' ⟨rfl, rfl⟩) | (go_at_call 33; refine (rletter_any _ _).mono ?_; rintro e w' ⟨rfl, rfl⟩))
              go_round
              case rel => exact ⟨k + 1, by omega, by go_num, HN⟩
              case measure => simp [intOf]; omega
            | false =>
              have h3 : digitB s[k] = true := by rw [h2] at h1; simpa using h1
              clear h1
              go_wp2_with (first | (go_at_call 31; refine (rdigit_any _ _).mono ?_; rintro e w' ⟨rfl, rfl⟩) | (go_at_call 33; refine (rletter_any _ _).mono ?_; rintro e w' ⟨rfl, rfl⟩))
              go_round
              case rel => exact ⟨k + 1, by omega, by go_num, HN⟩
              case measure => simp [intOf]; omega
          · simp only [Bool.not_eq_true] at h1
            have HR : Hid (nameB s.data.toList = false) := Lib.hid (by
              rw [HF.out, runN_of _ _ hk HA.out (.inr (by rw [HG.out]; exact h1)), decide_eq_false (by omega)]; simp)
            unfold alnumB at h1
            simp only [Bool.or_eq_false_iff] at h1
            obtain ⟨h2, h3⟩ := h1
            go_wp2_with (first | (go_at_call 31; refine (rdigit_any _ _).mono ?_; rintro e w' ⟨rfl, rfl⟩) | (go_at_call 33; refine (rletter_any _ _).mono ?_; rintro e w' ⟨rfl, rfl⟩))
            go_ret
            exact ⟨ret_bool HR.out.symm, HB.out⟩
        · obtain rfl : k = s.size := by omega
          have HR : Hid (nameB s.data.toList = true) := Lib.hid (by
            have h1 := HA.out s[0] (by rw [← ba_length, List.take_length, ← ba_headD s h0p]; cases hq : s.data.toList with | nil => rw [← ba_length, hq] at h0p; exact absurd h0p (Nat.lt_irrefl _) | cons x r => simp)
            unfold alnumB at h1
            rw [HD.out] at h1
            rw [HF.out, runN_of _ _ (Nat.le_refl _) HA.out (.inl rfl), decide_eq_true (by rw [ba_length])]
            simpa using h1)
          go_wp2
          go_ret
          exact ⟨ret_bool HR.out.symm, HB.out⟩
end Go.Proofs.Ytcanjkjpdnbcnaa
