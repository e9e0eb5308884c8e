/- The contract of the document's Parse. -/
import Derived.Test.YtdjnebgjdekmaaaGreatDoorZax
import Derived.Test.YtdjnebgjdekmaaaGreatDoorZay
set_option linter.unusedVariables false
set_option maxRecDepth 100000
namespace Go.Proofs.YtdjnebgjdekmaaaGreatDoor
open Go.RowKit Go.Shelf
theorem none_great {b : List Nat} (h : 65536 < getN b 0) : firstN b = none := by
 cases e : firstN b with
 | none => rfl
 | some r => have := first_len e; omega
theorem none_short {b : List Nat} (h : b.length < getN b 0 + 8) : firstN b = none := by
 cases e : firstN b with
 | none => rfl
 | some r => have := first_len e; omega
theorem some_frame {b : List Nat} {m : Nat} (hm : m ≤ 65536) (h8 : m + 8 ≤ b.length) (h : frameN ((b.drop 4).take m) = b.take (m + 8)) : firstN b = some ((b.drop 4).take m) := by
 have hl : ((b.drop 4).take m).length = m := by rw [List.length_take, List.length_drop]; omega
 have := first_frame ((b.drop 4).take m) (b.drop (m + 8)) (by omega)
 rw [h, List.take_append_drop] at this
 exact this
theorem none_frame {b : List Nat} (hb : bytesN b) {m : Nat} (hg : getN b 0 = m) (h : ¬ frameN ((b.drop 4).take m) = b.take (m + 8)) : firstN b = none := by
 cases e : firstN b with
 | none => rfl
 | some r =>
  exfalso
  have h1 := first_len e
  have h2 := (first_some hb e).2
  rw [hg] at h1
  rw [h1.2.2.2.1] at h2
  apply h
  have h3 := List.prefix_iff_eq_take.1 h2
  rw [h3, frameN_length, ← h1.2.2.2.1, h1.1]
theorem RecsR.snoc {W : World} {vs : List Value} {rs : List (List Nat)} (h : RecsR W vs rs) {A : Option Addr} {c : Nat} {r : List Nat} (hc : r.length ≤ c) (hb : RowN W A r.length r) : RecsR W (vs ++ [.slice A r.length c]) (rs ++ [r]) := by
 refine ⟨by simp [h.1], fun i v r' hv hr => ?_⟩
 rcases Nat.lt_or_ge i vs.length with hi | hi
 · rw [List.getElem?_append_left hi] at hv
   rw [List.getElem?_append_left (by rw [← h.1]; exact hi)] at hr
   exact h.2 i v r' hv hr
 · rw [List.getElem?_append_right hi] at hv
   rw [List.getElem?_append_right (by rw [← h.1]; exact hi)] at hr
   rw [← h.1] at hr
   have h0 : i - vs.length = 0 := by
    have := (List.getElem?_eq_some_iff.1 hv).1
    simp at this
    omega
   rw [h0] at hv hr
   simp only [List.getElem?_cons_zero, Option.some.injEq] at hv hr
   subst hv hr
   exact ⟨A, c, rfl, hc, hb⟩
set_option maxHeartbeats 6400000 in
theorem refparse_any (w : World) (A : Option Addr) (n cap : Nat) (l : List Nat) (hn : n ≤ 90000) (hnc : n ≤ cap) (hcm : cap ≤ 9223372036854775807) (hR : RowN w A n l) :
 Calls Tryz.prog 53 #[.slice A n cap] w fun e w' => ∃ R c, e = .returned (.tuple #[.slice R (parseN l).length c, .int .i64 ((allN (parseN l)).length : Int)]) ∧ Recs w' R (parseN l).length (parseN l) ∧ Below w.heap.size w w' := by
 have hl := hR.length
 have HLONG := Lib.hid (parse_long hR.bytes)
 have HR := Lib.hid hR
 have HL := Lib.hid hl
 have hcap : (n : Int) ≤ (cap : Int) := by omega
 clear hR hl
 go_enter Tryz.func53, Tryz.ntmps53
 go_wp2_with fail
 go_loopw [4, 5] (fun v i wr => ∃ (s : Nat) (rs : List (List Nat)) (R : Option Addr) (c : Nat) (vs : List Value), s ≤ n ∧ i = .int .i64 s ∧ v = .slice R rs.length c ∧ Hid (parseN l = rs ++ parseN (l.drop s) ∧ (allN rs).length = s ∧ SLine 1 wr R rs.length c vs ∧ RecsR w vs rs ∧ (∀ k ∈ blk R, w.heap.size ≤ k) ∧ Below w.heap.size w wr)) (fun _ i _ => n - (intOf i).toNat)
 case atStart => exact ⟨0, [], none, 0, [], by omega, rfl, rfl, Lib.hid ⟨rfl, rfl, SLine.nil 1 _, ⟨rfl, fun i v r h => by simp at h⟩, fun k hk => (by cases hk), Below.refl _ _⟩⟩
 case round =>
  obtain ⟨s, rs, R, c, vs, hs, rfl, rfl, HI⟩ := hrel
  have hs0 : (0 : Int) ≤ (s : Int) := by omega
  have hsn : (s : Int) ≤ (n : Int) := by omega
  have hstop : Hid (firstN (l.drop s) = none → ∀ wr', wr' = wr ∨ wr' = wr.drew ∨ Below wr.heap.size wr wr' → ∃ R' c', Ending.returned (.tuple #[.slice R rs.length c, .int .i64 (s : Int)]) = .returned (.tuple #[.slice R' (parseN l).length c', .int .i64 ((allN (parseN l)).length : Int)]) ∧ Recs wr' R' (parseN l).length (parseN l) ∧ Below w.heap.size w wr') := Lib.hid (by
   intro hf wr' hw
   have hb' : Below wr.heap.size wr wr' := by rcases hw with rfl | rfl | h; exact Below.refl _ _; exact (Below.refl _ _).drew; exact h
   obtain ⟨h1, h2, h3, h4, h5, h6⟩ := HI.out
   rw [parse_none hf, List.append_nil] at h1
   rw [h1, h2]
   refine ⟨R, c, rfl, ?_, h6.trans (hb'.mono h6.size)⟩
   refine ⟨vs, ⟨by have := h3.1; omega, fun hn => ?_⟩, h4.below (h6.trans (hb'.mono h6.size))⟩
   obtain ⟨g, off, e, hg, hc, _⟩ := (h3.below hb').at hn
   exact ⟨g, off, e, hg, fun j v hv => by
    have := (List.getElem?_eq_some_iff.1 hv).1
    rw [hc j (by rw [← h3.1]; exact this), hv]⟩)
  by_cases h8 : n - s < 8
  · have HF := Lib.hid (hstop.out (first_small (by rw [List.length_drop, HL.out]; exact h8)))
    have h8' : ((n - s : Nat) : Int) < 8 := by omega
    clear hstop
    rcases Nat.lt_or_ge s cap with hsc | hsc
    · go_wp2
      go_ret2
      obtain ⟨R', c', q1, q2⟩ := HF.out _ (.inl rfl)
      first
       | exact ⟨R', c', q1, q2⟩
       | exact ⟨R', ⟨c', q1⟩, q2⟩
    · obtain rfl : s = cap := by omega
      obtain rfl : n = s := by omega
      go_wp2
      go_ret2
      obtain ⟨R', c', q1, q2⟩ := HF.out _ (.inl rfl)
      first
       | exact ⟨R', c', q1, q2⟩
       | exact ⟨R', ⟨c', q1⟩, q2⟩
  · obtain ⟨g, off, rfl, _, _⟩ := HR.out.cells (by omega)
    have hsc : s < cap := by omega
    have hsc' : (s : Int) < (cap : Int) := by omega
    have hrow : RowN wr (some ⟨g, off + s, none⟩) (n - s) (l.drop s) := by
     have h2 := RowZ.dropAt (k := s) (HR.out.below HI.out.2.2.2.2.2) hs
     unfold RowN asZ at *
     rw [List.map_drop]
     exact h2
    obtain ⟨N, hN⟩ : ∃ N, n - s = N := ⟨_, rfl⟩
    rw [hN] at hrow h8
    have hN8 : ¬ (N : Int) < 8 := by omega
    have hN8' : (8 : Int) ≤ (N : Int) := by omega
    have hNn : N ≤ n := by omega
    have hNc : N ≤ cap - s := by omega
    have hNc' : (N : Int) ≤ ((cap - s : Nat) : Int) := by omega
    obtain ⟨b, hb⟩ : ∃ b, l.drop s = b := ⟨_, rfl⟩
    have HB := Lib.hid hb
    rw [hb] at hrow hstop
    have HSTOP := Lib.hid hstop.out
    have hbl := hrow.length
    have hby := hrow.bytes
    obtain ⟨_, _, eg, _, hcs⟩ := hrow.cells (by omega)
    cases eg
    have c0 := hcs 0 (by omega)
    have c1 := hcs 1 (by omega)
    have c2 := hcs 2 (by omega)
    have c3 := hcs 3 (by omega)
    rw [Nat.add_zero] at c0
    have hg0 : getN b 0 = b.getD 0 0 + b.getD 1 0 * 256 + b.getD 2 0 * 65536 + b.getD 3 0 * 16777216 := rfl
    have hlt := fun i => getD_lt (b := 256) (by decide) hby i
    have l0 := hlt 0
    have l1 := hlt 1
    have l2 := hlt 2
    have l3 := hlt 3
    have HROW := Lib.hid (And.intro hrow (And.intro hbl hby))
    obtain ⟨G, hG⟩ : ∃ G, getN b 0 = G := ⟨_, rfl⟩
    rw [hG] at hg0
    have HG := Lib.hid hG
    clear hcs hlt hb hstop hrow hby hG hbl
    generalize b.getD 0 0 = x0 at *
    generalize b.getD 1 0 = x1 at *
    generalize b.getD 2 0 = x2 at *
    generalize b.getD 3 0 = x3 at *
    by_cases h3 : 0 < x3
    · have HF := Lib.hid (HSTOP.out (none_great (by rw [HG.out]; omega)))
      have h3' : (0 : Int) < (x3 : Int) := by omega
      clear HSTOP hg0
      go_wp2
      go_ret2
      obtain ⟨R', c', q1, q2⟩ := HF.out _ (.inl rfl)
      first
       | exact ⟨R', c', q1, q2⟩
       | exact ⟨R', ⟨c', q1⟩, q2⟩
    obtain rfl : x3 = 0 := by omega
    by_cases h2 : 1 < x2
    · have HF := Lib.hid (HSTOP.out (none_great (by rw [HG.out]; omega)))
      have h2' : (1 : Int) < (x2 : Int) := by omega
      clear HSTOP hg0
      go_wp2
      go_ret2
      obtain ⟨R', c', q1, q2⟩ := HF.out _ (.inl rfl)
      first
       | exact ⟨R', c', q1, q2⟩
       | exact ⟨R', ⟨c', q1⟩, q2⟩
    have h2' : ¬ (1 : Int) < (x2 : Int) := by omega
    have hgi : (x0 : Int) + (x1 : Int) * 256 + (x2 : Int) * 65536 = (G : Int) := by omega
    have HGI := Lib.hid hgi
    clear hg0 hgi h2
    go_wp2_with fail
    go_region
    rw [HGI.out]
    have e4 : 4 + G - 4 = G := by omega
    by_cases hG6 : 65536 < G
    · have HF := Lib.hid (HSTOP.out (none_great (by rw [HG.out]; exact hG6)))
      have hG6' : (65536 : Int) < (G : Int) := by omega
      clear HSTOP
      go_wp2
      go_ret2
      obtain ⟨R', c', q1, q2⟩ := HF.out _ (.inr (.inl rfl))
      first
       | exact ⟨R', c', q1, q2⟩
       | exact ⟨R', ⟨c', q1⟩, q2⟩
    have hG6' : ¬ (65536 : Int) < (G : Int) := by omega
    have hG6a : (G : Int) ≤ 65536 := by omega
    have hG0 : (0 : Int) ≤ (G : Int) := by omega
    by_cases hs8 : N < G + 8
    · have HF := Lib.hid (HSTOP.out (none_short (by rw [HG.out, HROW.out.2.1]; exact hs8)))
      have hs8' : (N : Int) < (G : Int) + 8 := by omega
      clear HSTOP
      go_wp2
      go_ret2
      obtain ⟨R', c', q1, q2⟩ := HF.out _ (.inr (.inl rfl))
      first
       | exact ⟨R', c', q1, q2⟩
       | exact ⟨R', ⟨c', q1⟩, q2⟩
    have hs8' : ¬ (N : Int) < (G : Int) + 8 := by omega
    have hs8a : (G : Int) + 8 ≤ (N : Int) := by omega
    have hGc : (4 : Int) + (G : Int) ≤ ((cap - s : Nat) : Int) := by omega
    have hGc2 : (G : Int) + 8 ≤ ((cap - s : Nat) : Int) := by omega
    have h4c : (4 : Int) ≤ ((cap - s : Nat) : Int) := by omega
    have h4c2 : 4 < cap - s := by omega
    obtain ⟨r, hr⟩ : ∃ r, (b.drop 4).take G = r := ⟨_, rfl⟩
    have hrl : r.length = G := by rw [← hr, List.length_take, List.length_drop, HROW.out.2.1]; omega
    have hpiece : RowN wr (some ⟨g, off + s + 4, none⟩) G r := by
     have := HROW.out.1.piece 4 G (by omega) (by omega)
     rw [hr] at this
     exact this
    have HFR := Lib.hid (refframe_any (some ⟨g, off + s + 4, none⟩) G (cap - s - 4) r (by omega) wr.drew (hpiece.below (Below.refl _ wr).drew))
    have HRR := Lib.hid (And.intro hr hrl)
    clear c0 c1 c2 c3 l0 l1 l2 l3 hr hrl hpiece h3 h2'
    go_wp2_with fail
    refine HFR.out.mono ?_
    rintro e w2 ⟨⟨A', c', rfl, hge, hf⟩, hb2⟩
    have hrow2 : RowN w2 (some ⟨g, off + s, none⟩) (G + 8) (b.take (G + 8)) := ((HROW.out.1.below (Below.refl _ wr).drew).below hb2).take (by omega)
    have v1 := conv_row (w := w2.drew) hf.row.drew c'
    have v2 := conv_row (w := w2.drew) hrow2.drew (cap - s)
    have hbq := txt_beq hf.1 hrow2.bytes
    unfold txt at hbq
    have hBw : Below wr.heap.size wr w2.drew := ((Below.refl _ wr).drew.trans hb2).drew
    have HBW := Lib.hid hBw
    clear hge hf hb2 hrow2 hBw HFR
    by_cases he : frameN r = b.take (G + 8)
    · rw [decide_eq_true he] at hbq
      have HE := Lib.hid he
      clear he HSTOP
      have hline : SLine 1 w2.drew R rs.length c vs := HI.out.2.2.1.below HBW.out
      obtain ⟨R', c2, w3, hr3, hl3, hc3, hf3⟩ := recs_push w2.drew 54 R rs.length c vs hline (by have h1 := HI.out.1; have h5 := congrArg List.length h1; have := HLONG.out.2; have := HL.out; simp at h5; omega) (some ⟨g, off + s + 4, none⟩) G (cap - s - 4)
      have HR3 := Lib.hid hr3
      have HX := Lib.hid (And.intro hl3 (And.intro hc3 hf3))
      have HNEW : Hid (parseN l = (rs ++ [r]) ++ parseN (l.drop (s + (G + 8))) ∧ (allN (rs ++ [r])).length = s + (G + 8) ∧ SLine 1 w3 R' (rs ++ [r]).length c2 (vs ++ [.slice (some ⟨g, off + s + 4, none⟩) G (cap - s - 4)]) ∧ RecsR w (vs ++ [.slice (some ⟨g, off + s + 4, none⟩) G (cap - s - 4)]) (rs ++ [r]) ∧ (∀ k ∈ blk R', w.heap.size ≤ k) ∧ Below w.heap.size w w3) := Lib.hid (by
       obtain ⟨i1, i2, i3, i4, i5, i6⟩ := HI.out
       obtain ⟨x1, x2, x3⟩ := HX.out
       have hsz := HBW.out.size
       have hsz2 := i6.size
       have hfirst : firstN b = some r := by
        rw [← HRR.out.1]
        exact some_frame (by omega) (by rw [HROW.out.2.1]; omega) (by rw [HRR.out.1]; exact HE.out)
       have hpc : RowN w (some ⟨g, off + s + 4, none⟩) G r := by
        have h1 := HR.out.piece (s + 4) G (by omega) (by omega)
        have h2 : (l.drop (s + 4)).take G = r := by rw [← HRR.out.1, ← HB.out, List.drop_drop]
        rw [h2] at h1
        rw [Nat.add_assoc]
        exact h1
       refine ⟨?_, ?_, ?_, ?_, fun k hk => ?_, ?_⟩
       · rw [i1, HB.out, parse_some hfirst, HRR.out.2, ← HB.out, List.drop_drop, List.append_assoc]
         rfl
       · rw [allN_snoc, List.length_append, frameN_length, i2, HRR.out.2]
       · rw [List.length_append]; exact x1
       · have h3 := HRR.out.2
         subst h3
         exact i4.snoc (by omega) hpc
       · rcases x3 k hk with h | h
         · exact i5 k h
         · omega
       · exact (i6.trans (HBW.out.mono hsz2)).trans (x2.toBelow i5 (by omega)))
      have hrk : rs.length + 1 = (rs ++ [r]).length := by simp
      have HRK := Lib.hid hrk
      clear hline hr3 hl3 hc3 hf3 hrk
      go_wp2_with fail
      go_region
      go_wp2_with (at_builtin; refine Lib.wpList_append_run _ rfl _ _ _ _ rfl _ _ rfl rfl _ _ HR3.out ?_)
      go_roundw
      case rel => exact ⟨s + (G + 8), rs ++ [r], R', c2, _, by omega, by go_num, by rw [HRK.out], HNEW⟩
      case measure => simp [intOf]; omega
    · rw [decide_eq_false he] at hbq
      have HF := Lib.hid (HSTOP.out (none_frame HROW.out.2.2 HG.out (by rw [HRR.out.1]; exact he)))
      clear he HSTOP
      go_wp2_with fail
      go_region
      go_wp2
      go_ret2
      obtain ⟨R', c', q1, q2⟩ := HF.out _ (.inr (.inr HBW.out))
      first
       | exact ⟨R', c', q1, q2⟩
       | exact ⟨R', ⟨c', q1⟩, q2⟩
end Go.Proofs.YtdjnebgjdekmaaaGreatDoor
