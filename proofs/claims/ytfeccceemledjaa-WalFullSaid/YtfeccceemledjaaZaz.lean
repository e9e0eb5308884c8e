/-
  Slices of slices of bytes that came in; contracts of the law's cut and of the document's All and Begins.
  The law's cut: its line is its own.
-/
import Derived.Test.YtfeccceemledjaaZaq
namespace Go.Proofs.Ytfeccceemledjaa
open Go.RowKit Go.Shelf
set_option linter.unusedVariables false
set_option maxRecDepth 100000

/-- What a walk is told of a slice of slices of bytes that came in. -/
def RowsIn (w : World) (a : Option Addr) (len cap : Nat) : Prop :=
  (a = none ∧ len = 0 ∧ cap = 0) ∨ (len ≤ cap ∧ cap ≤ maxLen ∧ ∀ r, r < len → ∃ b off, a = some ⟨b, off, none⟩ ∧ b < w.heap.size ∧ ∃ A n c l, w.cell? ⟨b, off + r, none⟩ = some (.slice A n c) ∧ n ≤ c ∧ c ≤ maxLen ∧ RowN w A n l)
theorem rowsIn_of {w : World} {x : Addr} {len cap : Nat} (A : Nat → Option Addr) (L C : Nat → Nat) (Z : Nat → List Int) (hl : len ≤ cap) (hm : cap ≤ maxLen)
    (h : ∀ r, r < cap → w.cell? (x.add r) = some (.slice (A r) (L r) (C r)) ∧ L r ≤ C r ∧ C r ≤ maxLen ∧ (Z r).length = C r ∧ (∀ n ∈ Z r, (Lit.int .u8 n).wf = true) ∧ (A r = none → C r = 0) ∧ ∀ a', A r = some a' → ∀ c, c < C r → w.cell? (a'.add c) = some (.int .u8 ((Z r).getD c 0))) : RowsIn w (some x) len cap := by
  refine .inr ⟨hl, hm, fun r hr => ?_⟩
  obtain ⟨h1, h2, h3, h4, h5, h6, h7⟩ := h r (by omega)
  have h0 := (h 0 (by omega)).1
  have hsp : x.spot = none := World.cell?_spot (by simpa [Addr.add] using h0)
  obtain ⟨b, off, sp⟩ := x
  obtain rfl : sp = none := hsp
  have hadd : ∀ i, (⟨b, off, none⟩ : Addr).add i = ⟨b, off + i, none⟩ := fun i => by unfold Addr.add; split <;> simp_all
  have hrow : IsRow .u8 w (A r) (L r) (C r) (Z r) := by
    cases hA : A r with
    | none =>
      have hc := h6 hA
      refine .inl ⟨rfl, by omega, hc, List.eq_nil_of_length_eq_zero (by rw [h4]; exact hc)⟩
    | some a' => exact .inr ⟨a', rfl, h2, h3, h4, fun i hi => h7 a' hA i (by rw [← h4]; exact hi), h5⟩
  refine ⟨b, off, rfl, ?_, A r, L r, C r, _, by rw [← hadd]; exact h1, h2, h3, (RowZ.of_isRow hrow).toN⟩
  have := World.block_lt_of_cell? w _ h1
  simpa [hadd] using this
theorem RowsIn.below {w w' : World} {a : Option Addr} {len cap : Nat} (h : RowsIn w a len cap) (hb : Below w.heap.size w w') : RowsIn w' a len cap := by
  rcases h with h | ⟨h1, h2, h3⟩
  · exact .inl h
  · refine .inr ⟨h1, h2, fun r hr => ?_⟩
    obtain ⟨b, off, e, hlt, A, n, c, l, h4, h5, h6, h7⟩ := h3 r hr
    exact ⟨b, off, e, Nat.lt_of_lt_of_le hlt hb.size, A, n, c, l, (hb.cell (p := ⟨b, off + r, none⟩) hlt).trans h4, h5, h6, h7.below hb⟩
/-- A record that is cut has at most 300 bytes. -/
def SmallRs (rs : List (List Nat)) : Prop := rs.length ≤ 30 ∧ ∀ r ∈ rs, r.length ≤ 300 ∧ bytesN r
theorem SmallRs.short {rs : List (List Nat)} (h : SmallRs rs) : shortN rs := fun r hr => by have := (h.2 r hr).1; omega
theorem allN_small : ∀ (rs : List (List Nat)), (∀ r ∈ rs, r.length ≤ 300) → (allN rs).length ≤ 308 * rs.length
  | [], _ => by simp [allN]
  | r :: rs, h => by
    have h1 := allN_small rs (fun x hx => h x (by simp [hx]))
    have h2 := h r (by simp)
    show (frameN r ++ allN rs).length ≤ 308 * (rs.length + 1)
    rw [List.length_append, frameN_length]
    omega
theorem SmallRs.bytes {rs : List (List Nat)} (h : SmallRs rs) : (allN rs).length ≤ 9240 := by
  have := allN_small rs (fun r hr => (h.2 r hr).1)
  have := h.1
  omega
theorem Recs.take {W : World} {A : Option Addr} {n k : Nat} {rs : List (List Nat)} (h : Recs W A n rs) (hk : k ≤ n) : Recs W A k (rs.take k) := by
  obtain ⟨vs, h1, h2⟩ := h
  refine ⟨vs.take k, ⟨by rw [List.length_take, h1.1]; omega, fun hn => ?_⟩, by rw [List.length_take, List.length_take, h2.1], fun i v r hv hr => ?_⟩
  · obtain ⟨g, off, e, hg, hc⟩ := h1.2 (by omega)
    exact ⟨g, off, e, hg, fun j v hv => hc j v (by rw [List.getElem?_take] at hv; split at hv; exact hv; cases hv)⟩
  · exact h2.2 i v r (by rw [List.getElem?_take] at hv; split at hv; exact hv; cases hv) (by rw [List.getElem?_take] at hr; split at hr; exact hr; cases hr)
/-- What cut hands back. -/
def CutAns (W : World) (e : Ending) (w' : World) : Prop := ∃ R c rs, e = .returned (.slice R rs.length c) ∧ Recs w' R rs.length rs ∧ SmallRs rs ∧ rs.length ≤ c ∧ c ≤ 9223372036854775807 ∧ Below W.heap.size W w'
set_option maxHeartbeats 3200000 in
theorem cut_any (W : World) (a : Option Addr) (len cap : Nat) (h : RowsIn W a len cap) :
    Calls Try.prog 9 #[.slice a len cap] W fun e w' => CutAns W e w' := by
  have hlen : len ≤ 9223372036854775807 := by
    rcases h with ⟨_, rfl, _⟩ | ⟨h1, h2, _⟩
    · omega
    · unfold maxLen at h2; omega
  have HH := Lib.hid h
  clear h
  go_enter Try.func9, Try.ntmps9
  go_wp2
  go_loopw [3, 8] (fun v i wr => ∃ (k : Nat) (rs : List (List Nat)) (R : Option Addr) (c : Nat) (vs : List Value), k ≤ len ∧ i = .int .i64 k ∧ v = .slice R rs.length c ∧ Hid (SLine 1 wr R rs.length c vs ∧ RecsR W vs rs ∧ SmallRs rs ∧ rs.length ≤ k ∧ (∀ j ∈ blk R, W.heap.size ≤ j) ∧ Below W.heap.size W wr)) (fun _ i _ => len - (intOf i).toNat)
  case atStart => exact ⟨0, [], none, 0, [], by omega, rfl, rfl, Lib.hid ⟨SLine.nil 1 _, ⟨rfl, fun i v r h => by simp at h⟩, ⟨by simp, fun r hr => by cases hr⟩, by simp, fun j hj => (by cases hj), Below.refl _ _⟩⟩
  case round =>
    obtain ⟨k, rs, R, c, vs, hk, rfl, rfl, HI⟩ := hrel
    have hk0 : (0 : Int) ≤ (k : Int) := by omega
    rcases Nat.lt_or_ge k len with hkn | hkn
    · have hkn' : (k : Int) < (len : Int) := by omega
      obtain ⟨b, off, rfl, hlt, A, n, d, l, hc, hnd, hdm, hrow⟩ : ∃ b off, a = some ⟨b, off, none⟩ ∧ b < W.heap.size ∧ ∃ A n c l, W.cell? ⟨b, off + k, none⟩ = some (.slice A n c) ∧ n ≤ c ∧ c ≤ maxLen ∧ RowN W A n l := by
        rcases HH.out with ⟨_, h0, _⟩ | ⟨_, _, h3⟩
        · omega
        · exact h3 k hkn
      have hck : wr.cell? ⟨b, off + k, none⟩ = some (.slice A n d) := (HI.out.2.2.2.2.2.cell (p := ⟨b, off + k, none⟩) hlt).trans hc
      have HROW := Lib.hid (And.intro hrow (And.intro hnd hrow.length))
      clear hc hlt hrow hdm hnd
      by_cases hcond : k < 30 ∧ n ≤ 300
      · have hc1 : (k : Int) < 30 := by omega
        have hc2 : (n : Int) ≤ 300 := by omega
        have hr30 : rs.length ≤ 29 := by have := HI.out.2.2.2.1; omega
        obtain ⟨R', c2, w3, hr3, hl3, hc3, hf3⟩ := recs_push wr 22 R rs.length c vs HI.out.1 (by omega) A n d
        have HR3 := Lib.hid hr3
        have HNEW : Hid (SLine 1 w3 R' (rs ++ [l]).length c2 (vs ++ [.slice A n d]) ∧ RecsR W (vs ++ [.slice A n d]) (rs ++ [l]) ∧ SmallRs (rs ++ [l]) ∧ (rs ++ [l]).length ≤ k + 1 ∧ (∀ j ∈ blk R', W.heap.size ≤ j) ∧ Below W.heap.size W w3) := Lib.hid (by
          obtain ⟨i1, i2, i3, i4, i5, i6⟩ := HI.out
          obtain ⟨q1, q2, q3⟩ := HROW.out
          refine ⟨by rw [List.length_append]; exact hl3, ?_, ⟨by simp; omega, fun r hr => ?_⟩, by simp; omega, fun j hj => ?_, i6.trans (hc3.toBelow i5 i6.size)⟩
          · subst q3
            exact i2.snoc q2 q1
          · rcases List.mem_append.1 hr with h | h
            · exact i3.2 r h
            · simp only [List.mem_singleton] at h
              rw [h]
              exact ⟨by omega, q1.bytes⟩
          · rcases hf3 j hj with h | h
            · exact i5 j h
            · have := i6.size; omega)
        have HRK : Hid (rs.length + 1 = (rs ++ [l]).length) := Lib.hid (by simp)
        clear hr3 hl3 hc3 hf3 hcond
        go_wp2_with (at_builtin; refine Lib.wpList_append_run _ rfl _ _ _ _ rfl _ _ rfl rfl _ _ HR3.out ?_)
        go_roundw
        case rel => exact ⟨k + 1, rs ++ [l], R', c2, _, by omega, by go_num, by rw [HRK.out], HNEW⟩
        case measure => simp [intOf]; omega
      · have HNEW : Hid (SLine 1 wr R rs.length c vs ∧ RecsR W vs rs ∧ SmallRs rs ∧ rs.length ≤ k + 1 ∧ (∀ j ∈ blk R, W.heap.size ≤ j) ∧ Below W.heap.size W wr) := Lib.hid ⟨HI.out.1, HI.out.2.1, HI.out.2.2.1, by have := HI.out.2.2.2.1; omega, HI.out.2.2.2.2⟩
        by_cases h30 : k < 30
        · have hc1 : (k : Int) < 30 := by omega
          have hc2 : ¬ (n : Int) ≤ 300 := by omega
          clear hcond
          go_wp2
          go_roundw
          case rel => exact ⟨k + 1, rs, R, c, vs, by omega, by go_num, rfl, HNEW⟩
          case measure => simp [intOf]; omega
        · have hc1 : ¬ (k : Int) < 30 := by omega
          clear hcond
          go_wp2
          go_roundw
          case rel => exact ⟨k + 1, rs, R, c, vs, by omega, by go_num, rfl, HNEW⟩
          case measure => simp [intOf]; omega
    · obtain rfl : k = len := by omega
      have HFIN : Hid (Recs wr R rs.length rs ∧ SmallRs rs ∧ rs.length ≤ c ∧ c ≤ 9223372036854775807 ∧ Below W.heap.size W wr) := Lib.hid (by
        obtain ⟨i1, i2, i3, i4, i5, i6⟩ := HI.out
        refine ⟨⟨vs, ⟨by have := i1.1; omega, fun hn => ?_⟩, i2.below i6⟩, i3, i1.2.1, by have := i1.2.2.1; unfold maxLen at this; omega, i6⟩
        obtain ⟨g, off, e, hg, hc, _⟩ := i1.at hn
        exact ⟨g, off, e, hg, fun j v hv => by
          have := (List.getElem?_eq_some_iff.1 hv).1
          rw [hc j (by rw [← i1.1]; exact this), hv]⟩)
      go_wp2
      go_ret
      exact ⟨R, c, rs, rfl, HFIN.out⟩
set_option maxHeartbeats 1600000 in
theorem refall_any (w : World) (R : Option Addr) (n c : Nat) (rs : List (List Nat)) (hR : Recs w R n rs) (hs : SmallRs rs) :
    Calls Try.prog 14 #[.slice R n c] w fun e w' => (∃ A' c', e = .returned (.slice A' (allN rs).length c') ∧ BLine w' A' (allN rs).length c' (allN rs) ∧ ∀ k ∈ blk A', w.heap.size ≤ k) ∧ Below w.heap.size w w' := by
  have HR := Lib.hid hR
  have HS := Lib.hid hs
  have hln := hR.len
  have hn30 : n ≤ 30 := by have := hs.1; omega
  have HL := Lib.hid hln
  clear hR hs hln
  go_enter Try.func14, Try.ntmps14
  go_wp2
  go_loopw [3, 8] (fun v i wr => ∃ (k : Nat) (A' : Option Addr) (c' : Nat), k ≤ n ∧ i = .int .i64 k ∧ v = .slice A' (allN (rs.take k)).length c' ∧ Hid (BLine wr A' (allN (rs.take k)).length c' (allN (rs.take k)) ∧ (∀ j ∈ blk A', w.heap.size ≤ j) ∧ Below w.heap.size w wr)) (fun _ i _ => n - (intOf i).toNat)
  case atStart => exact ⟨0, none, 0, by omega, rfl, rfl, Lib.hid ⟨⟨bytesN_nil, SLine.nil 1 _⟩, fun j hj => (by cases hj), Below.refl _ _⟩⟩
  case round =>
    obtain ⟨k, A', c', hk, rfl, rfl, HI⟩ := hrel
    have hk0 : (0 : Int) ≤ (k : Int) := by omega
    rcases Nat.lt_or_ge k n with hkn | hkn
    · have hkn' : (k : Int) < (n : Int) := by omega
      obtain ⟨g, off, r, A1, d1, rfl, hg, hr, hc, _, hrow⟩ := (HR.out.below HI.out.2.2).at hkn
      have hrm : r ∈ rs := List.mem_of_getElem? hr
      have hr3 := HS.out.2 r hrm
      have HF := Lib.hid (refframe_any A1 r.length d1 r (by omega) wr hrow)
      have hall : (allN (rs.take k)).length ≤ 9240 := by
        have h1 := allN_small (rs.take k) (fun x hx => (HS.out.2 x (List.mem_of_mem_take hx)).1)
        have h2 : (rs.take k).length ≤ 30 := by rw [List.length_take]; omega
        omega
      have HT : Hid (rs.take (k + 1) = rs.take k ++ [r]) := Lib.hid (by rw [List.take_add_one, hr]; rfl)
      have HRL := Lib.hid hr3
      clear hrow hr hrm hr3 hg
      go_wp2_with fail
      refine HF.out.mono ?_
      rintro e w2 ⟨⟨A2, c2, rfl, hge, hb2⟩, hB⟩
      have hB2 : Below w.heap.size w w2 := HI.out.2.2.trans (hB.mono HI.out.2.2.size)
      have hf8 : (frameN r).length = r.length + 8 := frameN_length r
      obtain ⟨A3, c3, w3, hr3, hl3, hc3, hf3, _⟩ := bytes_push w2 A' (allN (rs.take k)).length c' _ (HI.out.1.below hB) (by omega) A2 (r.length + 8) c2 (frameN r) hb2.row (by have := HRL.out.1; omega) (fun _ => by omega)
      have HR3 := Lib.hid hr3
      have HNEW : Hid (BLine w3 A3 (allN (rs.take (k + 1))).length c3 (allN (rs.take (k + 1))) ∧ (∀ j ∈ blk A3, w.heap.size ≤ j) ∧ Below w.heap.size w w3) := Lib.hid (by
        have e1 : allN (rs.take (k + 1)) = allN (rs.take k) ++ frameN r := by rw [HT.out, allN_snoc]
        have e2 : (allN (rs.take (k + 1))).length = (allN (rs.take k)).length + (r.length + 8) := by rw [e1, List.length_append, hf8]
        rw [e2, e1]
        refine ⟨hl3, fun j hj => ?_, hB2.trans (hc3.toBelow HI.out.2.1 hB2.size)⟩
        rcases hf3 j hj with h | h
        · exact HI.out.2.1 j h
        · have := hB2.size; omega)
      have HRK : Hid ((allN (rs.take k)).length + (r.length + 8) = (allN (rs.take (k + 1))).length) := Lib.hid (by rw [HT.out, allN_snoc, List.length_append, hf8])
      clear hge hb2 hB hB2 hr3 hl3 hc3 hf3 hf8 HF
      go_wp2_with (at_builtin; refine Lib.wpList_append_run _ rfl _ _ _ _ rfl _ _ rfl rfl _ _ HR3.out ?_)
      go_roundw
      case rel => exact ⟨k + 1, A3, c3, by omega, by go_num, by rw [HRK.out], HNEW⟩
      case measure => simp [intOf]; omega
    · obtain rfl : k = n := by omega
      have HFIN : Hid (rs.take k = rs) := Lib.hid (List.take_of_length_le (by rw [HL.out]; exact Nat.le_refl _))
      rw [HFIN.out] at HI ⊢
      go_wp2
      go_ret
      exact ⟨⟨A', c', rfl, HI.out.1, HI.out.2.1⟩, HI.out.2.2⟩
theorem begins_true (w : World) (A : Option Addr) (n c : Nat) (rs : List (List Nat)) (B : Option Addr) (m d : Nat) (ss : List (List Nat)) (hA : Recs w A n rs) (hB : Recs w B m ss) (hp : ss <+: rs) (hn : n ≤ 100000) (hnc : n ≤ c) :
    Calls Try.prog 23 #[.slice A n c, .slice B m d] w fun e w' => e = .returned (.bool true) ∧ Below w.heap.size w w' := by
  have hm : m ≤ n := by have := hp.length_le; rw [hA.len, hB.len] at this; exact this
  have e : rs.take m = ss := by rw [← hB.len]; exact (List.prefix_iff_eq_take.1 hp).symm
  have HS := same_any w A m c (rs.take m) B m d ss (hA.take hm) hB (by omega) (by omega)
  rw [decide_eq_true e] at HS
  have HS := Lib.hid HS
  have h1 : (m : Int) ≤ (n : Int) := by omega
  have h2 : (m : Int) ≤ (c : Int) := by omega
  have h3 : (0 : Int) ≤ (m : Int) := by omega
  clear hA hB hp e
  go_enter Try.func23, Try.ntmps23
  go_wp2_with (go_at_call 11; refine HS.out.mono ?_; rintro e w1 ⟨rfl, hb⟩; have HB := Lib.hid hb; clear hb)
  go_ret
  exact ⟨rfl, HB.out⟩
end Go.Proofs.Ytfeccceemledjaa
namespace Go.Proofs.Ytfeccceemledjaa
open Go.RowKit Go.Shelf
set_option linter.unusedVariables false
set_option maxRecDepth 100000

/-- What cut hands back: a line of its own, of the very slices that came in. -/
def CutNew (W0 W : World) (e : Ending) (w' : World) : Prop := ∃ R c rs, e = .returned (.slice R rs.length c) ∧ Recs w' R rs.length rs ∧ SmallRs rs ∧ rs.length ≤ c ∧ c ≤ 9223372036854775807 ∧ Below W.heap.size W w' ∧ (∃ vs, SLine 1 w' R rs.length c vs ∧ RecsR W0 vs rs) ∧ ∀ j ∈ blk R, W.heap.size ≤ j
set_option maxHeartbeats 3200000 in
theorem cut_new (W0 W : World) (hB : Below W0.heap.size W0 W) (a : Option Addr) (len cap : Nat) (h : RowsIn W0 a len cap) :
    Calls Try.prog 9 #[.slice a len cap] W fun e w' => CutNew W0 W e w' := by
  have HB0 := Lib.hid hB
  clear hB
  have hlen : len ≤ 9223372036854775807 := by
    rcases h with ⟨_, rfl, _⟩ | ⟨h1, h2, _⟩
    · omega
    · unfold maxLen at h2; omega
  have HH := Lib.hid h
  clear h
  go_enter Try.func9, Try.ntmps9
  go_wp2
  go_loopw [3, 8] (fun v i wr => ∃ (k : Nat) (rs : List (List Nat)) (R : Option Addr) (c : Nat) (vs : List Value), k ≤ len ∧ i = .int .i64 k ∧ v = .slice R rs.length c ∧ Hid (SLine 1 wr R rs.length c vs ∧ RecsR W0 vs rs ∧ SmallRs rs ∧ rs.length ≤ k ∧ (∀ j ∈ blk R, W.heap.size ≤ j) ∧ Below W.heap.size W wr)) (fun _ i _ => len - (intOf i).toNat)
  case atStart => exact ⟨0, [], none, 0, [], by omega, rfl, rfl, Lib.hid ⟨SLine.nil 1 _, ⟨rfl, fun i v r h => by simp at h⟩, ⟨by simp, fun r hr => by cases hr⟩, by simp, fun j hj => (by cases hj), Below.refl _ _⟩⟩
  case round =>
    obtain ⟨k, rs, R, c, vs, hk, rfl, rfl, HI⟩ := hrel
    have hk0 : (0 : Int) ≤ (k : Int) := by omega
    rcases Nat.lt_or_ge k len with hkn | hkn
    · have hkn' : (k : Int) < (len : Int) := by omega
      obtain ⟨b, off, rfl, hlt, A, n, d, l, hc, hnd, hdm, hrow⟩ : ∃ b off, a = some ⟨b, off, none⟩ ∧ b < W0.heap.size ∧ ∃ A n c l, W0.cell? ⟨b, off + k, none⟩ = some (.slice A n c) ∧ n ≤ c ∧ c ≤ maxLen ∧ RowN W0 A n l := by
        rcases HH.out with ⟨_, h0, _⟩ | ⟨_, _, h3⟩
        · omega
        · exact h3 k hkn
      have hck : wr.cell? ⟨b, off + k, none⟩ = some (.slice A n d) := ((HB0.out.trans (HI.out.2.2.2.2.2.mono HB0.out.size)).cell (p := ⟨b, off + k, none⟩) hlt).trans hc
      have HROW := Lib.hid (And.intro hrow (And.intro hnd hrow.length))
      clear hc hlt hrow hdm hnd
      by_cases hcond : k < 30 ∧ n ≤ 300
      · have hc1 : (k : Int) < 30 := by omega
        have hc2 : (n : Int) ≤ 300 := by omega
        have hr30 : rs.length ≤ 29 := by have := HI.out.2.2.2.1; omega
        obtain ⟨R', c2, w3, hr3, hl3, hc3, hf3⟩ := recs_push wr 22 R rs.length c vs HI.out.1 (by omega) A n d
        have HR3 := Lib.hid hr3
        have HNEW : Hid (SLine 1 w3 R' (rs ++ [l]).length c2 (vs ++ [.slice A n d]) ∧ RecsR W0 (vs ++ [.slice A n d]) (rs ++ [l]) ∧ SmallRs (rs ++ [l]) ∧ (rs ++ [l]).length ≤ k + 1 ∧ (∀ j ∈ blk R', W.heap.size ≤ j) ∧ Below W.heap.size W w3) := Lib.hid (by
          obtain ⟨i1, i2, i3, i4, i5, i6⟩ := HI.out
          obtain ⟨q1, q2, q3⟩ := HROW.out
          refine ⟨by rw [List.length_append]; exact hl3, ?_, ⟨by simp; omega, fun r hr => ?_⟩, by simp; omega, fun j hj => ?_, i6.trans (hc3.toBelow i5 i6.size)⟩
          · subst q3
            exact i2.snoc q2 q1
          · rcases List.mem_append.1 hr with h | h
            · exact i3.2 r h
            · simp only [List.mem_singleton] at h
              rw [h]
              exact ⟨by omega, q1.bytes⟩
          · rcases hf3 j hj with h | h
            · exact i5 j h
            · have := i6.size; omega)
        have HRK : Hid (rs.length + 1 = (rs ++ [l]).length) := Lib.hid (by simp)
        clear hr3 hl3 hc3 hf3 hcond
        go_wp2_with (at_builtin; refine Lib.wpList_append_run _ rfl _ _ _ _ rfl _ _ rfl rfl _ _ HR3.out ?_)
        go_roundw
        case rel => exact ⟨k + 1, rs ++ [l], R', c2, _, by omega, by go_num, by rw [HRK.out], HNEW⟩
        case measure => simp [intOf]; omega
      · have HNEW : Hid (SLine 1 wr R rs.length c vs ∧ RecsR W0 vs rs ∧ SmallRs rs ∧ rs.length ≤ k + 1 ∧ (∀ j ∈ blk R, W.heap.size ≤ j) ∧ Below W.heap.size W wr) := Lib.hid ⟨HI.out.1, HI.out.2.1, HI.out.2.2.1, by have := HI.out.2.2.2.1; omega, HI.out.2.2.2.2⟩
        by_cases h30 : k < 30
        · have hc1 : (k : Int) < 30 := by omega
          have hc2 : ¬ (n : Int) ≤ 300 := by omega
          clear hcond
          go_wp2
          go_roundw
          case rel => exact ⟨k + 1, rs, R, c, vs, by omega, by go_num, rfl, HNEW⟩
          case measure => simp [intOf]; omega
        · have hc1 : ¬ (k : Int) < 30 := by omega
          clear hcond
          go_wp2
          go_roundw
          case rel => exact ⟨k + 1, rs, R, c, vs, by omega, by go_num, rfl, HNEW⟩
          case measure => simp [intOf]; omega
    · obtain rfl : k = len := by omega
      have HFIN : Hid (Recs wr R rs.length rs ∧ SmallRs rs ∧ rs.length ≤ c ∧ c ≤ 9223372036854775807 ∧ Below W.heap.size W wr ∧ (∃ vs, SLine 1 wr R rs.length c vs ∧ RecsR W0 vs rs) ∧ ∀ j ∈ blk R, W.heap.size ≤ j) := Lib.hid (by
        obtain ⟨i1, i2, i3, i4, i5, i6⟩ := HI.out
        refine ⟨⟨vs, ⟨by have := i1.1; omega, fun hn => ?_⟩, i2.below (HB0.out.trans (i6.mono HB0.out.size))⟩, i3, i1.2.1, by have := i1.2.2.1; unfold maxLen at this; omega, i6, ⟨vs, i1, i2⟩, i5⟩
        obtain ⟨g, off, e, hg, hc, _⟩ := i1.at hn
        exact ⟨g, off, e, hg, fun j v hv => by
          have := (List.getElem?_eq_some_iff.1 hv).1
          rw [hc j (by rw [← i1.1]; exact this), hv]⟩)
      go_wp2
      go_ret
      exact ⟨R, c, rs, rfl, HFIN.out⟩
end Go.Proofs.Ytfeccceemledjaa
