/-
  Contracts of layer 7's Print, At, and of the document's At, Same.
-/
import Derived.Test.YtkpgkobhnldhpaaDoorLxQ
import Derived.Test.YtkpgkobhnldhpaaDoorLxE
namespace Go.Proofs.YtkpgkobhnldhpaaDoor
open Go.RowKit
set_option linter.unusedVariables false
set_option maxRecDepth 100000

/-- A token as it may come in. -/
structure Tk where
  kd : Int
  tx : ByteArray
  nm : Int
  o : Int
  l : Int
  c : Int
/-- The slice A of n elements reads as these tokens. -/
def Rd6 (w : World) (A : Option Addr) (n : Nat) (xs : List Tk) : Prop :=
  xs.length = n ∧ ∀ k t, xs[k]? = some t → ∃ g off, A = some ⟨g, off, none⟩ ∧ g < w.heap.size ∧ w.cell? ⟨g, off + k * 6, none⟩ = some (.int .i64 t.kd) ∧ w.cell? ⟨g, off + k * 6 + 1, none⟩ = some (.string t.tx) ∧ w.cell? ⟨g, off + k * 6 + 2, none⟩ = some (.int .i32 t.nm) ∧ w.cell? ⟨g, off + k * 6 + 3, none⟩ = some (.int .i64 t.o) ∧ w.cell? ⟨g, off + k * 6 + 4, none⟩ = some (.int .i64 t.l) ∧ w.cell? ⟨g, off + k * 6 + 5, none⟩ = some (.int .i64 t.c)
theorem Rd6.below {w w' : World} {A : Option Addr} {n : Nat} {xs : List Tk} (h : Rd6 w A n xs) (hb : Below w.heap.size w w') : Rd6 w' A n xs := by
  refine ⟨h.1, fun k t hk => ?_⟩
  obtain ⟨g, off, e, hg, c0, c1, c2, c3, c4, c5⟩ := h.2 k t hk
  exact ⟨g, off, e, Nat.lt_of_lt_of_le hg hb.size, (hb.cell hg).trans c0, (hb.cell hg).trans c1, (hb.cell hg).trans c2, (hb.cell hg).trans c3, (hb.cell hg).trans c4, (hb.cell hg).trans c5⟩
def printL : List (List UInt8) → List UInt8
  | [] => []
  | x :: r => x ++ r.flatMap (fun y => 32 :: y)
theorem printL_one (x : List UInt8) : printL ([] ++ [x]) = x := by simp [printL]
theorem printL_snoc (l : List (List UInt8)) (x : List UInt8) (h : l ≠ []) : printL (l ++ [x]) = printL l ++ [32] ++ x := by
  obtain ⟨y, r, rfl⟩ := List.exists_cons_of_ne_nil h
  simp [printL]
def txs (xs : List Tk) : List (List UInt8) := xs.map fun t => t.tx.data.toList
theorem txs_snoc (xs : List Tk) (t : Tk) : txs (xs ++ [t]) = txs xs ++ [t.tx.data.toList] := by simp [txs]
theorem take_snoc' {α : Type} (xs : List α) (k : Nat) (t : α) (h : xs[k]? = some t) : xs.take (k + 1) = xs.take k ++ [t] := by
  obtain ⟨hk, e⟩ := List.getElem?_eq_some_iff.1 h
  rw [List.take_succ_eq_append_getElem hk, e]
theorem printL_le (xs : List Tk) (k : Nat) : (printL (txs (xs.take k))).length ≤ (printL (txs xs)).length := by
  rcases Nat.lt_or_ge k xs.length with hk | hk
  · have e : txs xs = txs (xs.take k) ++ txs (xs.drop k) := by
      unfold txs
      rw [← List.map_append, List.take_append_drop]
    rw [e]
    generalize txs (xs.take k) = a
    generalize txs (xs.drop k) = b
    cases a with
    | nil => simp [printL]
    | cons y r => simp [printL]
  · rw [List.take_of_length_le hk]
    exact Nat.le_refl _
theorem Bld.below {B b : Nat} {l : List UInt8} {w w' : World} (h : Bld B b l w) (hb : Below w.heap.size w w') : Bld B b l w' := by
  rcases h with h | h
  · obtain ⟨hB, v, hbk, hown, hne⟩ := h
    exact .inl ⟨hB, v, (hb.block b (lt_of_block hbk)).trans hbk, own_same hown (fun k hk => hb.block k (hown.lt k hk).2), hne⟩
  · obtain ⟨hB, v, hbk, hown, hne⟩ := h
    exact .inr ⟨hB, v, (hb.block b (lt_of_block hbk)).trans hbk, own_same hown (fun k hk => hb.block k (hown.lt k hk).2), hne⟩
set_option maxHeartbeats 1000000 in
theorem print_any (w : World) (A : Option Addr) (n c : Nat) (xs : List Tk) (hR : Rd6 w A n xs) (hn : n ≤ 1000000) (hnc : n ≤ c) (hlen : (printL (txs xs)).length ≤ 4000000000) (hts : ∀ t ∈ xs, t.tx.size ≤ 4000000000) :
    Calls Tryd.prog 21 #[.slice A n c] w fun e w' => e = .returned (.string (strL (printL (txs xs)))) ∧ Below w.heap.size w w' := by
  have HR := Lib.hid hR
  have HLEN := Lib.hid (And.intro hlen hts)
  clear hR hlen hts
  go_enter Tryd.func21, Tryd.ntmps21
  go_wp2
  go_loopw [8] (fun i wr => ∃ k : Nat, k ≤ n ∧ i = .int .i64 k ∧ Hid (Bld w.heap.size w.heap.size (printL (txs (xs.take k))) wr ∧ Below w.heap.size w wr)) (fun i _ => n - (intOf i).toNat)
  case atStart => exact ⟨0, Nat.zero_le _, rfl, Lib.hid ⟨Lib.fresh_isBuilder _ _ _, (Below.refl _ _).alloc (Nat.le_refl _) _⟩⟩
  case round =>
    obtain ⟨k, hk, rfl, HI⟩ := hrel
    by_cases hlt : k < n
    · obtain ⟨t, ht⟩ : ∃ t, xs[k]? = some t := ⟨_, List.getElem?_eq_getElem (by have := HR.out.1; omega)⟩
      obtain ⟨g, off, rfl, hg, c0, c1, c2, c3, c4, c5⟩ := (HR.out.below HI.out.2).2 k t ht
      have HT := Lib.hid (take_snoc' xs k t ht)
      have HTM := Lib.hid (List.mem_of_getElem? ht)
      obtain ⟨kd, tx, nm, o, l, cc⟩ := t
      dsimp only at c0 c1 c2 c3 c4 c5
      clear ht
      have hb1 : Below wr.heap.size wr (wr.alloc (.cells #[.int .i64 kd, .string tx, .int .i32 nm, .int .i64 o, .int .i64 l, .int .i64 cc] 33)) := (Below.refl _ _).alloc (Nat.le_refl _) _
      have hwz : w.heap.size < wr.heap.size := by rcases HI.out.1 with h | h <;> exact h.lt
      have hwz' : w.heap.size ≤ wr.heap.size := Nat.le_of_lt hwz
      have hpl := printL_le xs k
      have hpl2 := printL_le xs (k + 1)
      have hlb := HLEN.out.1
      have htx : tx.size ≤ 4000000000 := HLEN.out.2 _ HTM.out
      have hbox := heap_alloc_new wr (.cells #[.int .i64 kd, .string tx, .int .i32 nm, .int .i64 o, .int .i64 l, .int .i64 cc] 33)
      have hbld := HI.out.1.below hb1
      have HBX := Lib.hid (And.intro hb1 (And.intro hbox hbld))
      clear hbox hbld hb1
      by_cases h0 : (0 : Int) < (k : Int)
      · have HPL : Hid (printL (txs (xs.take k)) ++ [32] ++ tx.data.toList = printL (txs (xs.take (k + 1)))) := Lib.hid (by
          rw [HT.out, txs_snoc, printL_snoc _ _ (fun e => by have := congrArg List.length e; unfold txs at this; rw [List.length_map, List.length_take, HR.out.1] at this; simp at this; omega)])
        have hl32 : (printL (txs (xs.take k)) ++ [32]).length ≤ 4000000000 := by
          have := congrArg List.length HPL.out
          rw [List.length_append] at this
          omega
        have W1 := writeByte_any w.heap.size w.heap.size (printL (txs (xs.take k))) 32 _ HBX.out.2.2 (by omega) (by simp; omega)
        rw [show ((32 : UInt8).toNat : Int) = 32 from rfl] at W1
        have HW1 := Lib.hid W1
        have HL32 := Lib.hid hl32
        clear W1 hl32 hpl hpl2 hlb
        go_wp2_with fail
        refine HW1.out.mono ?_
        rintro e w2 ⟨rfl, hb2, hB2, hk2⟩
        have hx := (hk2 _ _ _ _ HBX.out.2.1 (by decide) (by omega)).trans HBX.out.2.1
        have hx1 : w2.cell? ⟨wr.heap.size, 1, none⟩ = some (.string tx) := by rw [cell_of_row _ wr.heap.size 1 _ _ (0, 0) hx]; rfl
        have HB2 := Lib.hid ((HI.out.2.alloc hwz' _).trans hB2)
        have HW2 := Lib.hid (writeString_any w.heap.size w.heap.size _ tx w2 hb2 HL32.out htx HB2.out.size)
        clear hb2 hB2 hk2 hx HW1
        go_wp2_with fail
        refine HW2.out.mono ?_
        rintro e w3 ⟨rfl, hb3, hB3, _⟩
        rw [HPL.out] at hb3
        have HF := Lib.hid (And.intro hb3 (HB2.out.trans hB3))
        clear hb3 hB3
        go_wp2
        go_roundw
        case rel => exact ⟨k + 1, by omega, by go_num, HF⟩
        case measure => simp [intOf]; omega
      · obtain rfl : k = 0 := by omega
        simp only [Nat.zero_mul, Nat.add_zero] at c0 c1 c2 c3 c4 c5
        have HPL : Hid (printL (txs (xs.take 0)) ++ tx.data.toList = printL (txs (xs.take (0 + 1)))) := Lib.hid (by
          rw [HT.out, txs_snoc]
          simp [txs, printL])
        have hx1 : (wr.alloc (.cells #[.int .i64 kd, .string tx, .int .i32 nm, .int .i64 o, .int .i64 l, .int .i64 cc] 33)).cell? ⟨wr.heap.size, 1, none⟩ = some (.string tx) := by rw [cell_of_row _ wr.heap.size 1 _ _ (0, 0) HBX.out.2.1]; rfl
        have HW2 := Lib.hid (writeString_any w.heap.size w.heap.size _ tx _ HBX.out.2.2 (by omega) htx (by simp; omega))
        have HB2 := Lib.hid (HI.out.2.alloc hwz' (.cells #[.int .i64 kd, .string tx, .int .i32 nm, .int .i64 o, .int .i64 l, .int .i64 cc] 33))
        clear hpl hpl2 hlb
        go_wp2_with fail
        refine HW2.out.mono ?_
        rintro e w3 ⟨rfl, hb3, hB3, _⟩
        rw [HPL.out] at hb3
        have HF := Lib.hid (And.intro hb3 (HB2.out.trans hB3))
        clear hb3 hB3
        go_wp2
        go_roundw
        case rel => exact ⟨0 + 1, by omega, by go_num, HF⟩
        case measure => simp [intOf]; omega
    · obtain rfl : k = n := by omega
      have HE : Hid (xs.take k = xs) := Lib.hid (List.take_of_length_le (by rw [HR.out.1]; exact Nat.le_refl _))
      have hs := Tryd.Builder_String_any w.heap.size w.heap.size (printL (txs (xs.take k))) wr HI.out.1 HI.out.2.size
      rw [HE.out] at hs
      have HS := Lib.hid hs
      have HB := Lib.hid HI.out.2
      clear hs HI
      go_wp2_with fail
      refine HS.out.mono ?_
      rintro e w3 ⟨rfl, hB3⟩
      have HF := Lib.hid (HB.out.trans hB3)
      clear hB3
      go_wp2
      go_ret
      exact ⟨rfl, HF.out⟩
/-- A text cut at a place. -/
def clampO (n : Nat) (off : Int) : Nat := min off.toNat n
theorem at_any (s : ByteArray) (hs : s.size ≤ 4000000000) (off : Int) (ho : -9223372036854775808 ≤ off ∧ off ≤ 9223372036854775807) (w : World) : Calls Tryd.prog 20 #[.string s, .int .i64 off] w fun e w' => e = .returned (placeV s.data.toList (clampO s.size off)) ∧ Below w.heap.size w w' := by
  obtain ⟨ho1, ho2⟩ := ho
  have hr := IsRd.new s (w.alloc (.cells #[.int .i64 0, .int .i64 0, .int .i64 0] 26))
  have hsz : (w.alloc (.cells #[.int .i64 0, .int .i64 0, .int .i64 0] 26)).heap.size = w.heap.size + 1 := by simp
  rw [hsz] at hr
  have hcl : clampO s.size off ≤ s.size := Nat.min_le_right _ _
  have HD := Lib.hid (read_any _ _ 0 (clampO s.size off) s hs hr (by omega))
  have hb0 : Below w.heap.size w ((w.alloc (.cells #[.int .i64 0, .int .i64 0, .int .i64 0] 26)).alloc (.cells #[.int .i64 0, .int .i64 1, .int .i64 1, .string s] 49)) := ((Below.refl _ _).alloc (Nat.le_refl _) _).alloc (by simp) _
  have hbox : ((w.alloc (.cells #[.int .i64 0, .int .i64 0, .int .i64 0] 26)).alloc (.cells #[.int .i64 0, .int .i64 1, .int .i64 1, .string s] 49)).heap[w.heap.size]? = some (.cells #[.int .i64 0, .int .i64 0, .int .i64 0] 26 (0, 0)) := by
    rw [Lib.alloc_old _ _ _ (by simp)]
    exact heap_alloc_new w _
  have HB0 := Lib.hid (And.intro hb0 hbox)
  have hval : (clampO s.size off : Int) = min (max off 0) (s.size : Int) := by unfold clampO; omega
  rw [hval] at HD
  clear hr hsz hcl hb0 hbox
  go_enter Tryd.func20, Tryd.ntmps20
  go_wp2_with (go_at_call 22; refine (open_any _ _).mono ?_; rintro e w' ⟨rfl, rfl⟩)
  refine HD.out.mono ?_
  rintro e W2 ⟨rfl, hr2, hc2⟩
  have hbx := (hc2.same w.heap.size (by simp; omega) (by simp)).trans HB0.out.2
  have HB := Lib.hid (HB0.out.1.trans (hc2.toBelow (fun k hk => by simp only [List.mem_singleton] at hk; omega) HB0.out.1.size))
  obtain ⟨x, y, z, p0, p1, p2, hv, _⟩ := place_facts hr2
  obtain ⟨⟨b0, b1, b2⟩, b3, b4, b5⟩ := box_facts hbx
  rw [Nat.zero_add] at hv
  have HV := Lib.hid hv
  clear hr2 hc2 hbx hv HD HB0 hval
  go_wp2
  exact bodyPost_ret (v := .agg #[.int .i64 x, .int .i64 y, .int .i64 z]) (by simp [results, Tryd.results20, go_sem, *]) rfl ⟨by rw [HV.out], below_three HB.out _ (Nat.le_refl _) _ _ _⟩
/-- What is so in the loop of the document's At. -/
structure AtBox (w : World) (b : Nat) (s : ByteArray) (k : Nat) : Prop where
  le : k ≤ s.size
  c0 : w.cell? ⟨b, 0, none⟩ = some (.int .i64 (k : Int))
  c1 : w.cell? ⟨b, 1, none⟩ = some (.int .i64 (lineOf (s.data.toList.take k) : Int))
  c2 : w.cell? ⟨b, 2, none⟩ = some (.int .i64 (colOf (s.data.toList.take k) : Int))
  f0 : w.frozen? ⟨b, 0, none⟩ = false
  f1 : w.frozen? ⟨b, 1, none⟩ = false
  f2 : w.frozen? ⟨b, 2, none⟩ = false
theorem rat_any (s : ByteArray) (hs : s.size ≤ 4000000000) (off : Int) (ho : -9223372036854775808 ≤ off ∧ off ≤ 9223372036854775807) (w : World) : Calls Tryd.prog 14 #[.string s, .int .i64 off] w fun e w' => e = .returned (placeV s.data.toList (clampO s.size off)) ∧ Below w.heap.size w w' := by
  obtain ⟨ho1, ho2⟩ := ho
  go_enter Tryd.func14, Tryd.ntmps14
  go_wp2
  go_loopg [17] (s.size + 1) (fun kx v wr => ∃ k : Nat, Hid (AtBox wr (w.heap.size + 1) s k ∧ Chg [w.heap.size + 1] ((w.alloc (.cells #[.int .i64 0, .int .i64 0, .int .i64 0] 26)).alloc (.cells #[.int .i64 0, .int .i64 1, .int .i64 1] 26)) wr) ∧ (k : Int) ≤ max off 0 ∧ s.size - k + 1 ≤ kx)
  case atStart =>
    refine ⟨0, Lib.hid ⟨⟨Nat.zero_le _, ?_, ?_, ?_, ?_, ?_, ?_⟩, Chg.refl _ _⟩, by omega, Nat.le_refl _⟩ <;> simp [go_sem, lineOf, colOf, lineN]
  case round =>
    obtain ⟨k, HI, hk, hm⟩ := hrel
    obtain ⟨le, c0, c1, c2, f0, f1, f2⟩ := HI.out.1
    have hl := lineOf_le (s.data.toList.take k)
    have hcc := colOf_le (s.data.toList.take k)
    rw [List.length_take] at hl hcc
    have hl2 : (lineOf (s.data.toList.take k) : Int) ≤ 4000000001 := by omega
    have hc2 : (colOf (s.data.toList.take k) : Int) ≤ 4000000001 := by omega
    have HC := Lib.hid HI.out.2
    by_cases hlt : (k : Int) < off ∧ k < s.size
    · obtain ⟨h1, h2⟩ := hlt
      have HT := Lib.hid (ba_takeS s k h2)
      by_cases h10 : ((s[k].toNat : Int) == 10) = true
      · have HN := fun (V0 V1 V2 : Int) (W : World) (e0 : W.cell? ⟨w.heap.size + 1, 0, none⟩ = some (.int .i64 V0)) (e1 : W.cell? ⟨w.heap.size + 1, 1, none⟩ = some (.int .i64 V1)) (e2 : W.cell? ⟨w.heap.size + 1, 2, none⟩ = some (.int .i64 V2)) (q0 : W.frozen? ⟨w.heap.size + 1, 0, none⟩ = false) (q1 : W.frozen? ⟨w.heap.size + 1, 1, none⟩ = false) (q2 : W.frozen? ⟨w.heap.size + 1, 2, none⟩ = false) (v0 : V0 = (k : Int) + 1) (v1 : V1 = (lineOf (s.data.toList.take k) : Int) + 1) (v2 : V2 = 1) =>
          (show AtBox W (w.heap.size + 1) s (k + 1) from ⟨by omega, by rw [e0, v0]; congr 2, by rw [e1, v1, HT.out, lineOf_snoc, if_pos (by simp only [beq_iff_eq] at h10; omega)]; congr 2, by rw [e2, v2, HT.out, colOf_snoc, if_pos (by simp only [beq_iff_eq] at h10; omega)]; rfl, q0, q1, q2⟩)
        have HNH := Lib.hid HN
        clear hl hcc HI HN
        generalize lineOf (s.data.toList.take k) = L at *
        generalize colOf (s.data.toList.take k) = C at *
        go_wp2
        go_roundg (s.size - (k + 1) + 1)
        case measure => omega
        case rel =>
          refine ⟨k + 1, Lib.hid ⟨HNH.out ((k : Int) + 1) ((L : Int) + 1) 1 _ ?_ ?_ ?_ ?_ ?_ ?_ rfl rfl rfl, ?_⟩, by omega, Nat.le_refl _⟩
          · simp [go_sem, *]
          · simp [go_sem, *]
          · simp [go_sem, *]
          · simp [go_sem, *]
          · simp [go_sem, *]
          · simp [go_sem, *]
          · repeat (first | exact HC.out | refine Chg.setCell ?_ _ _ _ (.inl (by simp)) | refine Chg.drew ?_)
      · have HN := fun (V0 V1 V2 : Int) (W : World) (e0 : W.cell? ⟨w.heap.size + 1, 0, none⟩ = some (.int .i64 V0)) (e1 : W.cell? ⟨w.heap.size + 1, 1, none⟩ = some (.int .i64 V1)) (e2 : W.cell? ⟨w.heap.size + 1, 2, none⟩ = some (.int .i64 V2)) (q0 : W.frozen? ⟨w.heap.size + 1, 0, none⟩ = false) (q1 : W.frozen? ⟨w.heap.size + 1, 1, none⟩ = false) (q2 : W.frozen? ⟨w.heap.size + 1, 2, none⟩ = false) (v0 : V0 = (k : Int) + 1) (v1 : V1 = (lineOf (s.data.toList.take k) : Int)) (v2 : V2 = (colOf (s.data.toList.take k) : Int) + 1) =>
          (show AtBox W (w.heap.size + 1) s (k + 1) from ⟨by omega, by rw [e0, v0]; congr 2, by rw [e1, v1, HT.out, lineOf_snoc, if_neg (by simp only [beq_iff_eq] at h10; omega)], by rw [e2, v2, HT.out, colOf_snoc, if_neg (by simp only [beq_iff_eq] at h10; omega)]; congr 2, q0, q1, q2⟩)
        have HNH := Lib.hid HN
        simp only [Bool.not_eq_true] at h10
        clear hl hcc HI HN
        generalize lineOf (s.data.toList.take k) = L at *
        generalize colOf (s.data.toList.take k) = C at *
        go_wp2
        go_roundg (s.size - (k + 1) + 1)
        case measure => omega
        case rel =>
          refine ⟨k + 1, Lib.hid ⟨HNH.out ((k : Int) + 1) (L : Int) ((C : Int) + 1) _ ?_ ?_ ?_ ?_ ?_ ?_ rfl rfl rfl, ?_⟩, by omega, Nat.le_refl _⟩
          · simp [go_sem, *]
          · simp [go_sem, *]
          · simp [go_sem, *]
          · simp [go_sem, *]
          · simp [go_sem, *]
          · simp [go_sem, *]
          · repeat (first | exact HC.out | refine Chg.setCell ?_ _ _ _ (.inl (by simp)) | refine Chg.drew ?_)
    · have hk' : clampO s.size off = k := by unfold clampO; omega
      have hW0 : Below w.heap.size w ((w.alloc (.cells #[.int .i64 0, .int .i64 0, .int .i64 0] 26)).alloc (.cells #[.int .i64 0, .int .i64 1, .int .i64 1] 26)) := ((Below.refl _ _).alloc (Nat.le_refl _) _).alloc (by simp) _
      have HB := Lib.hid (hW0.trans (HC.out.toBelow (fun k hk => by simp only [List.mem_singleton] at hk; omega) hW0.size))
      have hbx : wr.heap[w.heap.size]? = some (.cells #[.int .i64 0, .int .i64 0, .int .i64 0] 26 (0, 0)) := (HC.out.same w.heap.size (by simp; omega) (by simp)).trans (by
        rw [Lib.alloc_old _ _ _ (by simp)]
        exact heap_alloc_new w _)
      obtain ⟨⟨b0, b1, b2⟩, b3, b4, b5⟩ := box_facts hbx
      have HV : Hid (placeV s.data.toList (clampO s.size off) = .agg #[.int .i64 (k : Int), .int .i64 (lineOf (s.data.toList.take k) : Int), .int .i64 (colOf (s.data.toList.take k) : Int)]) := Lib.hid (by rw [hk']; rfl)
      clear hbx hW0 HC HI hk' hl hcc
      generalize lineOf (s.data.toList.take k) = L at *
      generalize colOf (s.data.toList.take k) = C at *
      by_cases h1 : (k : Int) < off
      · have h2 : ¬ k < s.size := fun h => hlt ⟨h1, h⟩
        have h2' : ¬ (k : Int) < (s.size : Int) := by omega
        clear hlt
        go_wp2
        exact bodyPost_ret (v := .agg #[.int .i64 (k : Int), .int .i64 (L : Int), .int .i64 (C : Int)]) (by simp [results, Tryd.results14, go_sem, *]) rfl ⟨by rw [HV.out], below_three HB.out _ (Nat.le_refl _) _ _ _⟩
      · clear hlt
        go_wp2
        exact bodyPost_ret (v := .agg #[.int .i64 (k : Int), .int .i64 (L : Int), .int .i64 (C : Int)]) (by simp [results, Tryd.results14, go_sem, *]) rfl ⟨by rw [HV.out], below_three HB.out _ (Nat.le_refl _) _ _ _⟩
end Go.Proofs.YtkpgkobhnldhpaaDoor
