/-
  Bytes and lines, mathematics: what was written is read; what was read is written the same. Lines in memory turned into one another; are two rows of lines the same.
-/
import Derived.Test.YtonkpojoniehlaaDoorKmw
namespace Go.Proofs.YtonkpojoniehlaaDoor
open Go.RowKit
set_option linter.unusedVariables false
set_option linter.unusedSimpArgs false
set_option maxRecDepth 100000

theorem word4_bytes (v : Nat) (h : v < 4294967296) : word4 ((v : Int) % 256) ((v : Int) / 256 % 256) ((v : Int) / 65536 % 256) ((v : Int) / 16777216) = v := by
  unfold word4
  omega
theorem bytes_word4 (a b c d : Int) (a0 : 0 ≤ a) (a1 : a ≤ 255) (b0 : 0 ≤ b) (b1 : b ≤ 255) (c0 : 0 ≤ c) (c1 : c ≤ 255) (d0 : 0 ≤ d) (d1 : d ≤ 255) : bytesN (word4 a b c d) = [a, b, c, d] := by
  have e : ((word4 a b c d : Nat) : Int) = a + b * 256 + c * 65536 + d * 16777216 := Int.toNat_of_nonneg (by omega)
  unfold bytesN
  rw [e]
  simp only [List.cons.injEq, and_true]
  refine ⟨by omega, by omega, by omega, by omega⟩
theorem enc_parts {l : Ln} {v : Nat} (h : l.enc = some v) : l.k = 2 ∧ l.s.toList = [] ∧ encI l.ins = some v := by
  unfold Ln.enc encV at h
  split at h
  · next g => exact ⟨g.1, g.2, h⟩
  · cases h
theorem empty_of (s : ByteArray) (h : s.toList = []) : s = ⟨#[]⟩ := by
  have h1 : s.data.toList = [] := by rw [← ba_toList19 s]; exact h
  obtain ⟨⟨l⟩⟩ := s
  simp at h1
  subst h1
  rfl
/-- An instruction as a line. -/
def Ins.ln (i : Ins) : Ln := ⟨2, i.op, i.d, i.a, i.b, i.n, ⟨#[]⟩⟩
theorem ln_enc (i : Ins) : i.ln.enc = encI i := if_pos ⟨rfl, by rw [ba_toList19]; rfl⟩
theorem ln_cells (i : Ins) : i.ln.cells = insC i := rfl
theorem ln_of_enc {l : Ln} {v : Nat} (h : l.enc = some v) : l = l.ins.ln := by
  obtain ⟨h1, h2, -⟩ := enc_parts h
  obtain ⟨k, op, d, a, b, n, s⟩ := l
  simp only at h1 h2
  subst h1
  rw [empty_of s h2]
  rfl
/-- What was written is read. -/
theorem lines_hit (a b c d : Int) (r : List Int) (i : Ins) (hd : decI (word4 a b c d) = some i) : linesN (a :: b :: c :: d :: r) = i :: linesN r := by
  simp only [linesN, hd]
theorem lines_miss (a b c d : Int) (r : List Int) (hd : decI (word4 a b c d) = none) : linesN (a :: b :: c :: d :: r) = [] := by
  simp only [linesN, hd]
theorem lines_step (v : Nat) (i : Ins) (h : encI i = some v) (r : List Int) : linesN ((v : Int) % 256 :: (v : Int) / 256 % 256 :: (v : Int) / 65536 % 256 :: (v : Int) / 16777216 :: r) = i :: linesN r :=
  lines_hit _ _ _ _ _ _ ((congrArg decI (word4_bytes v (enc_lt19 h))).trans (dec_enc i v h))
theorem bytesL_cons (l : Ln) (ls : List Ln) (v : Nat) (hv : l.enc = some v) : bytesL (l :: ls) ++ [0, 0, 0] = (v : Int) % 256 :: (v : Int) / 256 % 256 :: (v : Int) / 65536 % 256 :: (v : Int) / 16777216 :: (bytesL ls ++ [0, 0, 0]) := by
  simp [bytesL, hv, bytesN]
theorem lines_bytes (ls : List Ln) (h : allE ls = true) : linesN (bytesL ls ++ [0, 0, 0]) = ls.map Ln.ins := by
  induction ls with
  | nil => exact lines_short _ (by decide)
  | cons l ls ih =>
    have h1 : l.enc.isSome = true := List.all_eq_true.1 h l (List.mem_cons_self ..)
    have h2 : allE ls = true := List.all_eq_true.2 fun x hx => List.all_eq_true.1 h x (List.mem_cons_of_mem _ hx)
    obtain ⟨v, hv⟩ := Option.isSome_iff_exists.1 h1
    rw [bytesL_cons l ls v hv, lines_step v l.ins (enc_parts hv).2.2, ih h2]
    rfl
theorem bytesN_bd (v : Nat) (h : v < 4294967296) : ∀ z ∈ bytesN v, 0 ≤ z ∧ z ≤ 255 := by
  intro z hz
  simp only [bytesN, List.mem_cons, List.not_mem_nil, or_false] at hz
  rcases hz with h | h | h | h <;> omega
theorem bytesL_bd (ls : List Ln) (h : allE ls = true) : ∀ z ∈ bytesL ls, 0 ≤ z ∧ z ≤ 255 := by
  intro z hz
  obtain ⟨l, hl, hz⟩ := List.mem_flatMap.1 hz
  obtain ⟨v, hv⟩ := Option.isSome_iff_exists.1 (List.all_eq_true.1 h l hl)
  rw [hv] at hz
  exact bytesN_bd v (enc_lt19 (enc_parts hv).2.2) z hz
theorem bytesL_len (ls : List Ln) : (bytesL ls).length = 4 * ls.length := by
  induction ls with
  | nil => rfl
  | cons l ls ih =>
    have e : bytesL (l :: ls) = bytesN (l.enc.getD 0) ++ bytesL ls := by simp [bytesL]
    rw [e, List.length_append, ih]
    simp [bytesN]
    omega
/-- What was read is written the same. -/
theorem bytes_lines : ∀ (n : Nat) (zs : List Int), zs.length ≤ n → (∀ z ∈ zs, 0 ≤ z ∧ z ≤ 255) → 4 * (linesN zs).length ≤ zs.length ∧ bytesL ((linesN zs).map Ins.ln) = zs.take (4 * (linesN zs).length) ∧ allE ((linesN zs).map Ins.ln) = true ∧ (∀ i ∈ linesN zs, ∃ w, encI i = some w) ∧
    (4 * (linesN zs).length + 4 ≤ zs.length → decI (word4 (zs.getD (4 * (linesN zs).length) 0) (zs.getD (4 * (linesN zs).length + 1) 0) (zs.getD (4 * (linesN zs).length + 2) 0) (zs.getD (4 * (linesN zs).length + 3) 0)) = none)
  | 0, zs, hn, hz => by
    obtain rfl : zs = [] := List.eq_nil_of_length_eq_zero (by omega)
    exact ⟨Nat.le_refl _, rfl, rfl, fun i hi => (by cases hi), fun h => by simp [linesN] at h⟩
  | n + 1, zs, hn, hz => by
    rcases Nat.lt_or_ge zs.length 4 with h4 | h4
    · rw [lines_short zs h4]
      exact ⟨Nat.zero_le _, rfl, rfl, fun i hi => (by cases hi), fun h => by simp at h; omega⟩
    · match zs, h4 with
      | a :: b :: c :: d :: r, _ =>
        obtain ⟨a0, a1⟩ := hz a (by simp)
        obtain ⟨b0, b1⟩ := hz b (by simp)
        obtain ⟨c0, c1⟩ := hz c (by simp)
        obtain ⟨d0, d1⟩ := hz d (by simp)
        cases hD : decI (word4 a b c d) with
        | none =>
          have e : linesN (a :: b :: c :: d :: r) = [] := lines_miss _ _ _ _ _ hD
          rw [e]
          exact ⟨Nat.zero_le _, rfl, rfl, fun i hi => (by cases hi), fun _ => hD⟩
        | some i =>
          have e : linesN (a :: b :: c :: d :: r) = i :: linesN r := lines_hit _ _ _ _ _ _ hD
          have hi := enc_dec i _ hD
          obtain ⟨k1, k2, k3, k4, k5⟩ := bytes_lines n r (by simp at hn; omega) (fun z hzr => hz z (by simp [hzr]))
          rw [e]
          refine ⟨by simp; omega, ?_, ?_, ?_, ?_⟩
          · have e2 : bytesL ((i :: linesN r).map Ins.ln) = bytesN ((i.ln).enc.getD 0) ++ bytesL ((linesN r).map Ins.ln) := by simp [bytesL]
            rw [e2, k2, ln_enc, hi]
            simp only [Option.getD_some]
            rw [bytes_word4 a b c d a0 a1 b0 b1 c0 c1 d0 d1]
            simp only [List.length_cons, Nat.mul_add, Nat.mul_one, List.cons_append, List.nil_append]
            rfl
          · refine List.all_eq_true.2 fun x hx => ?_
            simp only [List.map_cons, List.mem_cons] at hx
            rcases hx with rfl | hx
            · rw [ln_enc, hi]; rfl
            · exact List.all_eq_true.1 k3 x hx
          · intro x hx
            simp only [List.mem_cons] at hx
            rcases hx with rfl | hx
            · exact ⟨_, hi⟩
            · exact k4 x hx
          · intro h
            have hg : ∀ j, (a :: b :: c :: d :: r).getD (4 * (i :: linesN r).length + j) 0 = r.getD (4 * (linesN r).length + j) 0 := fun j => by
              rw [show 4 * (i :: linesN r).length + j = (4 * (linesN r).length + j) + 1 + 1 + 1 + 1 from by simp; omega]
              simp [List.getD]
            have hg0 := hg 0
            rw [Nat.add_zero, Nat.add_zero] at hg0
            rw [hg0, hg 1, hg 2, hg 3]
            exact k5 (by simp at h; omega)

theorem flat7 : ∀ (is : List Ins) (i : Nat) (l : Ins) (j : Nat), is[i]? = some l → j < 7 → (is.flatMap insC)[i * 7 + j]? = (insC l)[j]?
  | [], i, l, j, h, _ => by simp at h
  | x :: is, 0, l, j, h, hj => by
    simp at h
    subst h
    rw [List.flatMap_cons, List.getElem?_append_left (by simp [insC]; omega)]
    simp
  | x :: is, i + 1, l, j, h, hj => by
    rw [List.flatMap_cons, List.getElem?_append_right (by simp [insC]; omega)]
    rw [show (i + 1) * 7 + j - (insC x).length = i * 7 + j from by simp [insC]; omega]
    exact flat7 is i l j (by simpa using h) hj
/-- Lines that a call made, as lines. -/
theorem lns_of {w : World} {O : Option Addr} {c : Nat} {is : List Ins} (h : SLine 7 w O is.length c (is.flatMap insC)) (hb : ∀ i ∈ is, -2147483648 ≤ i.n ∧ i.n ≤ 2147483647) : LnsAt w O is.length (is.map Ins.ln) := by
  refine ⟨by simp, fun l hl => ?_, fun hn => ?_⟩
  · obtain ⟨i, hi, rfl⟩ := List.mem_map.1 hl
    exact hb i hi
  · obtain ⟨g, off, e, hg, hc, -⟩ := h.at hn
    refine ⟨g, off, e, hg, fun i l hi j v hj => ?_⟩
    simp only [List.getElem?_map, Option.map_eq_some_iff] at hi
    obtain ⟨x, hx, rfl⟩ := hi
    have hj7 : j < 7 := (List.getElem?_eq_some_iff.1 hj).1
    have hi7 : i < is.length := (List.getElem?_eq_some_iff.1 hx).1
    rw [Nat.add_assoc, hc (i * 7 + j) (by omega), flat7 is i x j hx hj7]
    exact hj
theorem SLine.toRowZ19 {w : World} {A : Option Addr} {n c : Nat} {zs : List Int} (h : SLine 1 w A n c (cellsZ zs)) (hz : ∀ z ∈ zs, 0 ≤ z ∧ z ≤ 255) : RowZ w A n zs := by
  have hl : zs.length = n := by
    have := h.1
    simpa [cellsZ] using this
  refine ⟨hl, hz, fun hn => ?_⟩
  obtain ⟨g, off, e, hg, hc, -⟩ := h.at hn
  refine ⟨g, off, e, hg, fun i hi => ?_⟩
  rw [hc i (by omega)]
  have hi' : i < zs.length := by omega
  simp [cellsZ, List.getD, hi']

set_option maxHeartbeats 3200000 in
theorem same_yes (w : World) (A B : Option Addr) (n c e : Nat) (ls : List Ln) (hA : LnsAt w A n ls) (hB : LnsAt w B n ls) (hn : n ≤ 1000) :
    Calls Tryd.prog 18 #[.slice A n c, .slice B n e] w fun e w' => e = .returned (.bool true) ∧ Below w.heap.size w w' := by
  have HA := Lib.hid hA
  have HB := Lib.hid hB
  have hn2 : (n : Int) ≤ 1000 := by omega
  clear hA hB
  go_enter Tryd.func18, Tryd.ntmps18
  go_wp2_with fail
  go_loopw [13] (fun i wr => ∃ k : Nat, k ≤ n ∧ i = .int .i64 k ∧ Hid (Below w.heap.size w wr)) (fun i _ => n - (intOf i).toNat)
  case atStart => exact ⟨0, by omega, rfl, Lib.hid (Below.refl _ _)⟩
  case round =>
    obtain ⟨k, hk, rfl, HBB⟩ := hrel
    rcases Nat.lt_or_ge k n with hlt | hge
    · have hlt' : (k : Int) < (n : Int) := by omega
      have hk0 : (0 : Int) ≤ (k : Int) := by omega
      obtain ⟨l, hl⟩ : ∃ l, ls[k]? = some l := ⟨_, List.getElem?_eq_getElem (by have := HA.out.1; omega)⟩
      obtain ⟨g, off, rfl, hg, hc⟩ := (HA.out.below HBB.out).2.2 (by omega)
      obtain ⟨g2, off2, rfl, hg2, hc2⟩ := (HB.out.below HBB.out).2.2 (by omega)
      obtain ⟨lk, lo, ld, la, lb, ln, lsym⟩ := l
      have h1 := hc k _ hl
      have h2 := hc2 k _ hl
      have d0 := h1 0 _ rfl
      have d1 := h1 1 _ rfl
      have d2 := h1 2 _ rfl
      have d3 := h1 3 _ rfl
      have d4 := h1 4 _ rfl
      have d5 := h1 5 _ rfl
      have d6 := h1 6 _ rfl
      have u0 := h2 0 _ rfl
      have u1 := h2 1 _ rfl
      have u2 := h2 2 _ rfl
      have u3 := h2 3 _ rfl
      have u4 := h2 4 _ rfl
      have u5 := h2 5 _ rfl
      have u6 := h2 6 _ rfl
      rw [Nat.add_zero] at d0 u0
      clear hc hc2 h1 h2 hg hg2 hl
      go_wp2_with fail
      go_big_quiet (fail)
      go_wp2_with fail
      go_roundw
      case rel => exact ⟨k + 1, by omega, by go_num, Lib.hid (below_drewN HBB.out _)⟩
      case measure => simp [intOf] <;> omega
    · obtain rfl : k = n := by omega
      go_wp2_with fail
      go_ret
      exact ⟨rfl, HBB.out⟩
end Go.Proofs.YtonkpojoniehlaaDoor
