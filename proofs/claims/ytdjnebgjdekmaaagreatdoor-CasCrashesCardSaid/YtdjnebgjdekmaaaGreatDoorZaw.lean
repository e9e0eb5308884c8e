/- The contract of wal.frames: an iterator over the frames at the front of bytes. -/
import Derived.Test.YtdjnebgjdekmaaaGreatDoorZag
import Derived.Test.YtdjnebgjdekmaaaGreatDoorZav
import Derived.Stop.RegionWithIn
set_option linter.unusedVariables false
set_option maxRecDepth 100000
namespace Go.Proofs.YtdjnebgjdekmaaaGreatDoor
open Go.RowKit Go.Shelf
section
attribute [local go_sem] Oper.semAt_some
def markN (s : Nat) : List (List Nat) → List (Nat × List Nat)
 | [] => []
 | r :: rs => (s, r) :: markN (s + r.length + 8) rs
theorem markN_append (a b : List (List Nat)) : ∀ s, markN s (a ++ b) = markN s a ++ markN (s + (allN a).length) b := by
 induction a with
 | nil => intro s; rfl
 | cons r a ih =>
  intro s
  show (s, r) :: markN (s + r.length + 8) (a ++ b) = (s, r) :: (markN (s + r.length + 8) a ++ markN (s + (frameN r ++ allN a).length) b)
  rw [ih, List.length_append, frameN_length, show s + r.length + 8 + (allN a).length = s + (r.length + 8 + (allN a).length) from by omega]
def atA (A : Option Addr) (k : Nat) : Option Addr := A.map fun a => ⟨a.block, a.off + k, none⟩
def arF (A : Option Addr) (cap : Nat) (x : Nat × List Nat) : Array Value := #[.slice (atA A (x.1 + 4)) x.2.length (cap - x.1 - 4), .int .i64 ((x.1 + x.2.length + 8 : Nat) : Int)]
def recV (A : Option Addr) (cap s : Nat) (l : List Nat) : Value := match firstN (l.drop s) with | none => .slice none 0 0 | some r => .slice (atA A (s + 4)) r.length (cap - s - 4)
def KeepF (Bx : Nat) (A : Option Addr) (n cap : Nat) (l : List Nat) (W : World) : Prop := W.cell? ⟨Bx, 0, none⟩ = some (.slice A n cap) ∧ RowN W A n l
theorem recV_none {A : Option Addr} {cap s : Nat} {l : List Nat} (h : firstN (l.drop s) = none) : recV A cap s l = .slice none 0 0 := by unfold recV; rw [h]
theorem recV_some {A : Option Addr} {cap s : Nat} {l r : List Nat} (h : firstN (l.drop s) = some r) : recV A cap s l = .slice (atA A (s + 4)) r.length (cap - s - 4) := by unfold recV; rw [h]
theorem first_at (A : Option Addr) (n cap : Nat) (l : List Nat) (hn : n ≤ 90000) (hnc : n ≤ cap) (hcm : cap ≤ 9223372036854775807) (w : World) (hR : RowN w A n l) (s : Nat) (hs : s ≤ n) (A' : Option Addr) (hA : s < n → A' = atA A s) :
 Calls Tryz.prog 117 #[.slice A' (n - s) (cap - s)] w fun e w' => e = .returned (.tuple #[recV A cap s l, .bool (firstN (l.drop s)).isSome]) ∧ w = w' := by
 have hl := hR.length
 have hR' : RowN w A' (n - s) (l.drop s) := by
  rcases Nat.lt_or_ge s n with h | h
  · obtain ⟨g, off, rfl, _, _⟩ := hR.cells (by omega)
    rw [hA h]
    have h2 := RowZ.dropAt (k := s) hR (by omega)
    unfold RowN asZ at *
    rw [List.map_drop]
    exact h2
  · have : n - s = 0 := by omega
    rw [this, List.drop_eq_nil_of_le (by omega)]
    exact RowN.nil
 refine (first_any A' (n - s) (cap - s) (l.drop s) (by omega) (by omega) (by omega) w hR').mono ?_
 rintro e w' ⟨rfl, rfl⟩
 refine ⟨?_, rfl⟩
 cases hf : firstN (l.drop s) with
 | none => unfold firstV recV; rw [hf]
 | some r =>
  have hlen := (first_len hf).2.1
  rw [List.length_drop] at hlen
  have hA' := hA (by omega)
  obtain ⟨g, off, rfl, _, _⟩ := hR.cells (by omega)
  unfold firstV recV
  rw [hf, hA']
  simp only [atA, Option.map_some, Nat.add_assoc]
set_option maxHeartbeats 2000000 in
theorem frames1_any (w : World) (Bx : Nat) (A : Option Addr) (n cap : Nat) (l : List Nat) (hn : n ≤ 90000) (hnc : n ≤ cap) (hcm : cap ≤ 9223372036854775807) (hln : l.length = n) :
 IterK Tryz.prog 116 #[.pointer (some ⟨Bx, 0, none⟩)] (arF A cap) 1 (markN 0 (parseN l)) (KeepF Bx A n cap l) w := by
 intro nn hd L J Jx hJ hK h0 hY
 have HJ := Lib.hid hJ
 have HK := Lib.hid hK
 have H0 := Lib.hid h0
 have HY := Lib.hid hY
 obtain ⟨kc, kr⟩ := hK _ _ h0
 have HC := Lib.hid (first_at A n cap l hn hnc hcm w kr 0 (by omega) A (fun h => by obtain ⟨g, off, rfl, _, _⟩ := kr.cells (by omega); rfl))
 rw [Nat.sub_zero, Nat.sub_zero] at HC
 clear hJ hK h0 hY kr
 refine callsIn_of_wp Tryz.func116 rfl trivial ?_ rfl
 simp only [Tryz.ntmps116, List.size_toArray, List.length_cons, List.length_nil, Nat.reduceAdd, Nat.reduceSub, Array.replicate_succ, Array.replicate_zero, List.push_toArray, List.append_toArray, List.nil_append, List.cons_append]
 gi_wp2_with (refine ⟨trivial, ?_⟩; gi_at_call 117; refine (callsIn_wide.2 HC.out).mono ?_; rintro e W1 ⟨rfl, rfl⟩)
 clear HC kc
 gi_loopw [3, 4, 5] (fun i v b wr => ∃ s : Nat, ∃ rs : List (List Nat), i = .int .i64 s ∧ s ≤ n ∧ v = recV A cap s l ∧ b = .bool (firstN (l.drop s)).isSome ∧ Hid (parseN l = rs ++ parseN (l.drop s) ∧ (allN rs).length = s) ∧ J (markN 0 rs) wr) (fun i _ _ _ => n - (intOf i).toNat)
 case atStart => exact ⟨0, [], rfl, by omega, rfl, rfl, Lib.hid ⟨rfl, rfl⟩, H0.out⟩
 case round =>
  obtain ⟨s, rs, rfl, hs, rfl, rfl, HP, hJ⟩ := hrel
  cases hf : firstN (l.drop s) with
  | none =>
   have HE : Hid (J (markN 0 (parseN l)) wr) := Lib.hid (by
    have h1 := HP.out.1
    rw [parse_none hf, List.append_nil] at h1
    rw [h1]; exact hJ)
   rw [recV_none hf, show (none : Option (List Nat)).isSome = false from rfl]
   clear hf hJ HP
   gi_wp2
   go_end0
   exact ⟨⟨_, rfl⟩, .inl HE.out⟩
  | some r =>
   have hfl := (first_len hf).2.1
   rw [List.length_drop] at hfl
   have hd8 : (l.drop s).drop (r.length + 8) = l.drop (s + r.length + 8) := by rw [List.drop_drop, Nat.add_assoc]
   have hP2 : parseN l = (rs ++ [r]) ++ parseN (l.drop (s + r.length + 8)) ∧ (allN (rs ++ [r])).length = s + r.length + 8 := by
    refine ⟨?_, ?_⟩
    · rw [HP.out.1, parse_some hf, hd8, List.append_assoc]; rfl
    · rw [allN_snoc, List.length_append, frameN_length, HP.out.2]; omega
   have hm2 : markN 0 (rs ++ [r]) = markN 0 rs ++ [(s, r)] := by rw [markN_append, HP.out.2, Nat.zero_add]; rfl
   have hpre : markN 0 rs ++ [(s, r)] <+: markN 0 (parseN l) := by
    rw [hP2.1, markN_append, hm2]
    exact List.prefix_append _ _
   obtain ⟨fn, tmps, assign, body, hyl, hR⟩ := HY.out (markN 0 rs) (s, r) wr hJ hpre
   rw [recV_some hf, show (some r).isSome = true from rfl]
   unfold arF at hyl
   simp only at hyl
   have HR := Lib.hid hR
   have HP2 := Lib.hid hP2
   have HM2 := Lib.hid hm2
   rw [show (((s + r.length + 8 : Nat)) : Int) = (s : Int) + (4 + (r.length : Int) + 4) from by omega] at hyl
   obtain ⟨rl, hrl⟩ : ∃ rl, r.length = rl := ⟨_, rfl⟩
   have HRL := Lib.hid hrl
   rw [hrl] at hyl hfl ⊢
   have hle : s + rl + 8 ≤ n := by omega
   have hle' : (s : Int) + (4 + (rl : Int) + 4) ≤ (n : Int) := by omega
   have hn90 : (n : Int) ≤ 90000 := by omega
   clear hR hP2 hm2 hpre hJ hd8 hf HP hfl hrl
   gi_wp2
   refine HR.out.mono ?_
   rintro e W3 (⟨rfl, hJ3⟩ | ⟨rfl, hJ3⟩)
   · rw [← HM2.out] at hJ3
     obtain ⟨kc, kr⟩ := HK.out _ _ hJ3
     have HJ3 := Lib.hid hJ3
     obtain ⟨s2, hs2⟩ : ∃ s2, s + rl + 8 = s2 := ⟨_, rfl⟩
     have hs2' : (s : Int) + (4 + (rl : Int) + 4) = (s2 : Int) := by omega
     rw [HRL.out, hs2] at HP2
     rw [hs2']
     have h2n : s2 ≤ n := by omega
     have h2n' : (s2 : Int) ≤ (n : Int) := by omega
     have h2c : s2 ≤ cap := by omega
     have h2c' : (s2 : Int) ≤ (cap : Int) := by omega
     have h20 : (0 : Int) ≤ (s2 : Int) := by omega
     have HS2 := Lib.hid hs2
     rcases Nat.lt_or_ge s2 cap with hsc | hsc
     · have HC := Lib.hid (first_at A n cap l hn hnc hcm W3 kr s2 h2n (Option.map (fun x => x.add s2) A) (fun h => by
        obtain ⟨g, off, rfl, _, _⟩ := kr.cells (by omega)
        have hadd : (⟨g, off, none⟩ : Addr).add s2 = ⟨g, off + s2, none⟩ := by unfold Addr.add; split <;> simp_all
        show some ((⟨g, off, none⟩ : Addr).add s2) = some _
        rw [hadd]))
       clear hJ3 hyl hs2 hle hle' kr
       gi_wp2
       refine ⟨trivial, (callsIn_wide.2 HC.out).mono ?_⟩
       rintro e W4 ⟨rfl, rfl⟩
       gi_wp2
       go_roundw
       case rel => exact ⟨s2, rs ++ [r], by with_reducible rfl, h2n, by with_reducible rfl, by with_reducible rfl, HP2, HJ3.out⟩
       case measure =>
        have := HS2.out
        show n - s2 < n - s
        omega
     · have HC := Lib.hid (first_at A n cap l hn hnc hcm W3 kr s2 h2n A (fun h => by omega))
       rw [show n - s2 = 0 from by omega, show cap - s2 = 0 from by omega] at HC
       obtain rfl : s2 = cap := by omega
       clear hJ3 hyl hs2 hle hle' kr
       gi_wp2
       refine ⟨trivial, (callsIn_wide.2 HC.out).mono ?_⟩
       rintro e W4 ⟨rfl, rfl⟩
       gi_wp2
       go_roundw
       case rel => exact ⟨s2, rs ++ [r], by with_reducible rfl, h2n, by with_reducible rfl, by with_reducible rfl, HP2, HJ3.out⟩
       case measure =>
        have := HS2.out
        show n - s2 < n - s
        omega
   · have HX : Hid (∃ pre, pre <+: markN 0 (parseN l) ∧ Jx pre W3) := Lib.hid ⟨_, by rw [HP2.out.1, markN_append, HM2.out]; exact List.prefix_append _ _, hJ3⟩
     clear hJ3 hyl
     gi_wp2
     refine bodyPost_ret (results_none rfl _ _ _) rfl ?_
     exact ⟨⟨_, rfl⟩, .inr HX.out⟩
end
theorem eqnilN (w : World) (a : Option Addr) (n c n' c' : Nat) : (binOp .eql 40 (.slice a n c) (.slice none n' c')).run Tryz.prog w = .ok (.bool a.isNone) w := Lib.run_eql_slice_nil w _ _ a n c n' c' Tryz.underlying40
theorem own_emptyB (w : World) : SLine 1 (w.alloc (.cells #[] 5)) (some ⟨w.heap.size, 0, none⟩) 0 0 [] := ⟨rfl, Nat.le_refl _, by unfold maxLen; omega, (fun e => by cases e), fun a e => by cases e; exact ⟨w.heap.size, 0, rfl, by simp, fun i hi => by omega, fun i hi => by omega⟩⟩
set_option maxHeartbeats 800000 in
theorem cloneN (w : World) (A : Option Addr) (n c : Nat) (l : List Nat) (h : RowN w A n l) (hn : n ≤ 10000000) :
 Calls Tryz.prog 40 #[.slice A n c] w fun e w' => (∃ A' c', e = .returned (.slice A' n c') ∧ BLine w' A' n c' l ∧ ∀ k ∈ blk A', w.heap.size ≤ k) ∧ Below w.heap.size w w' := by
 cases A with
 | none =>
  have h0 : n = 0 := by
   rcases Nat.eq_zero_or_pos n with h0 | h0
   · exact h0
   · obtain ⟨b, off, e, _⟩ := h.cells h0; cases e
  subst h0
  have hl : l = [] := List.eq_nil_of_length_eq_zero h.length
  subst hl
  have q := eqnilN
  clear h
  go_enter Tryz.func40, Tryz.ntmps40
  go_wp2
  go_ret
  exact ⟨⟨none, 0, rfl, ⟨bytesN_nil, SLine.nil 1 w⟩, fun k hk => by cases hk⟩, Below.refl _ _⟩
 | some ad =>
  obtain ⟨W0, hW0⟩ : ∃ W0, w.alloc (.cells #[] 5) = W0 := ⟨_, rfl⟩
  have hb0 : Below w.heap.size w W0 := by rw [← hW0]; exact (Below.refl _ w).alloc (Nat.le_refl _) _
  have hs0 : W0.heap.size = w.heap.size + 1 := by rw [← hW0]; simp
  have hd : SLine 1 W0 (some ⟨w.heap.size, 0, none⟩) 0 0 [] := by rw [← hW0]; exact own_emptyB w
  obtain ⟨A', c', w', hr, hl, hc, hf, hne⟩ := sline_append 1 W0 40 5 40 _ 1 Tryz.underlying40 info_u8 rfl (by decide) _ 0 0 [] hd (by omega) _ n (by omega) (fun e => by cases e) _ ((h.below hb0).src (cap := c))
  rw [Nat.zero_add] at hr hl
  rw [← hW0] at hr
  have hblk : ∀ k ∈ blk A', w.heap.size ≤ k := fun k hk => by
   rcases hf k hk with h2 | h2
   · obtain ⟨ad, ea, hb⟩ := mem_blk.1 h2
     cases ea
     rw [← hb]
     exact Nat.le_refl _
   · omega
  have hb : Below w.heap.size w w' := hb0.trans (hc.toBelow (fun k hk => by obtain ⟨ad, ea, hb⟩ := mem_blk.1 hk; cases ea; rw [← hb]; exact Nat.le_refl _) (by omega))
  have HR := Lib.hid hr
  have HL := Lib.hid (And.intro (show BLine w' A' n c' l from ⟨h.bytes, hl⟩) (And.intro hblk hb))
  clear hr hl hc hf hb hblk hd hb0 h hs0 hW0
  have q := eqnilN
  go_enter Tryz.func40, Tryz.ntmps40
  go_wp2_with (at_builtin; refine Lib.wpList_append_run _ rfl _ _ _ _ rfl _ _ rfl rfl _ _ HR.out ?_)
  go_ret
  exact ⟨⟨A', c', rfl, HL.out.1, HL.out.2.1⟩, HL.out.2.2⟩
def RecsAt (W : World) (B : Nat) (L : List Nat) (vs : List Value) (rs : List (List Nat)) : Prop :=
 vs.length = rs.length ∧ ∀ (i : Nat) (v : Value) (r : List Nat), vs[i]? = some v → rs[i]? = some r → ∃ (A : Option Addr) (c : Nat), v = Value.slice A r.length c ∧ BLine W A r.length c r ∧ ∀ k ∈ blk A, B ≤ k ∧ k ∉ L
theorem RecsAt.nil (W : World) (B : Nat) (L : List Nat) : RecsAt W B L [] [] := ⟨rfl, fun i v r h => by simp at h⟩
theorem RecsAt.chg {W W' : World} {B : Nat} {L L' M : List Nat} {vs : List Value} {rs : List (List Nat)} (h : RecsAt W B L vs rs) (hc : Chg M W W') (hM : ∀ k ∈ M, k ∈ L ∨ k < B) (hL : ∀ k ∈ L', k ∈ L ∨ W.heap.size ≤ k) : RecsAt W' B L' vs rs := by
 refine ⟨h.1, fun i v r hv hr => ?_⟩
 obtain ⟨A, c, rfl, hb, hk⟩ := h.2 i v r hv hr
 refine ⟨A, c, rfl, ⟨hb.1, hb.2.chg hc (fun k hkk hm => ?_)⟩, fun k hkk => ⟨(hk k hkk).1, fun hm => ?_⟩⟩
 · rcases hM k hm with h1 | h1
   · exact (hk k hkk).2 h1
   · have := (hk k hkk).1; omega
 · rcases hL k hm with h1 | h1
   · exact (hk k hkk).2 h1
   · have := hb.2.lt k hkk; omega
theorem RecsAt.snoc {W : World} {B : Nat} {L : List Nat} {vs : List Value} {rs : List (List Nat)} (h : RecsAt W B L vs rs) {A : Option Addr} {c : Nat} {r : List Nat} (hb : BLine W A r.length c r) (hk : ∀ k ∈ blk A, B ≤ k ∧ k ∉ L) : RecsAt W B L (vs ++ [.slice A r.length c]) (rs ++ [r]) := by
 refine ⟨by simp [h.1], fun i v r' hv hr => ?_⟩
 rcases Nat.lt_or_ge i vs.length with hi | hi
 · rw [List.getElem?_append_left hi] at hv
   rw [List.getElem?_append_left (by rw [← h.1]; exact hi)] at hr
   exact h.2 i v r' hv hr
 · rw [List.getElem?_append_right hi] at hv
   rw [List.getElem?_append_right (by rw [← h.1]; exact hi)] at hr
   rw [← h.1] at hr
   have h0 : i - vs.length = 0 := by
    have := (List.getElem?_eq_some_iff.1 hv).1
    simp at this
    omega
   rw [h0] at hv hr
   simp only [List.getElem?_cons_zero, Option.some.injEq] at hv hr
   subst hv hr
   exact ⟨A, c, rfl, hb, hk⟩
theorem infoSl : (Tryz.prog.info? 40).map (fun i => (i.zero, i.size, i.bytes)) = some (some (.slice none 0 0), 1, 24) := by kernel_rfl
theorem recs_push (w : World) (ty : TypeId) (C : Option Addr) (n c : Nat) (xs : List Value) (h : SLine 1 w C n c xs) (hn : n ≤ 100000) (P : Option Addr) (m mc : Nat) :
 ∃ C' c' w', (Builtin.append_ #[54, 54] ty #[.slice C n c, .slice (some ⟨w.heap.size, 0, none⟩) 1 1]).run Tryz.prog (w.alloc (.cells #[.slice P m mc] 40)) = .ok (.slice C' (n + 1) c') w' ∧ SLine 1 w' C' (n + 1) c' (xs ++ [.slice P m mc]) ∧ Chg (blk C) w w' ∧ ∀ k ∈ blk C', k ∈ blk C ∨ w.heap.size ≤ k := by
 have hb : Below w.heap.size w (w.alloc (.cells #[.slice P m mc] 40)) := (Below.refl _ w).alloc (Nat.le_refl _) _
 have hs : (w.alloc (.cells #[.slice P m mc] 40)).heap.size = w.heap.size + 1 := by simp
 have hsrc : Src Tryz.prog 1 54 (.slice (some ⟨w.heap.size, 0, none⟩) 1 1) 1 [.slice P m mc] (w.alloc (.cells #[.slice P m mc] 40)) := Src.ofSlice _ Tryz.underlying54 ⟨w.heap.size, 0, none⟩ 1 1 [.slice P m mc] rfl (new_one w _ _) (fun u hu => by simp only [List.mem_singleton] at hu; subst hu; rfl)
 obtain ⟨C', c', w', hr, hl, hc, hf, _⟩ := sline_append 1 (w.alloc (.cells #[.slice P m mc] 40)) 54 40 ty _ 24 Tryz.underlying54 infoSl rfl (by decide) C n c xs (h.below hb) (by omega) _ 1 (by omega) (fun _ => by omega) _ hsrc
 exact ⟨C', c', w', hr, hl, (Chg.of_below hb).trans hc, fun k hk => by
  rcases hf k hk with h1 | h1
  · exact .inl h1
  · exact .inr (by omega)⟩
theorem mark_mem : ∀ (k : Nat) (b : List Nat), b.length ≤ k → ∀ (s0 s : Nat) (r : List Nat), (s, r) ∈ markN s0 (parseN b) → s0 ≤ s ∧ (s - s0) + r.length + 8 ≤ b.length ∧ r = (b.drop (s - s0 + 4)).take r.length := by
 intro k
 induction k with
 | zero =>
  intro b hb s0 s r hm
  rw [parse_small (by omega)] at hm
  cases hm
 | succ k ih =>
  intro b hb s0 s r hm
  cases e : firstN b with
  | none => rw [parse_none e] at hm; cases hm
  | some x =>
   have hf := first_len e
   rw [parse_some e] at hm
   rcases List.mem_cons.1 hm with h | h
   · cases h
     refine ⟨Nat.le_refl _, by omega, ?_⟩
     rw [Nat.sub_self, Nat.zero_add, hf.1]
     exact hf.2.2.2.1
   · obtain ⟨h1, h2, h3⟩ := ih (b.drop (x.length + 8)) (by rw [List.length_drop]; omega) (s0 + x.length + 8) s r h
     rw [List.length_drop] at h2
     refine ⟨by omega, by omega, ?_⟩
     rw [List.drop_drop] at h3
     rw [show x.length + 8 + (s - (s0 + x.length + 8) + 4) = s - s0 + 4 from by omega] at h3
     exact h3
theorem RowN.piece {W : World} {A : Option Addr} {n : Nat} {l : List Nat} (h : RowN W A n l) (k m : Nat) (hk : k + m ≤ n) (hn : 0 < n) : RowN W (atA A k) m ((l.drop k).take m) := by
 obtain ⟨g, off, rfl, _, _⟩ := h.cells hn
 have h2 : RowN W (some ⟨g, off + k, none⟩) (n - k) (l.drop k) := by
  have := RowZ.dropAt (k := k) h (by omega)
  unfold RowN asZ at *
  rw [List.map_drop]
  exact this
 exact h2.take (by omega)
theorem setCell_keep {w : World} {b i : Nat} {cs : Array Value} {T : TypeId} {v : Value} (h : w.heap[b]? = some (.cells cs T (0, 0))) (hv : cs[i]? = some v) : w.setCell ⟨b, i, none⟩ v = w := by
 have e : (w.setCell ⟨b, i, none⟩ v).heap = w.heap := by
  apply Array.ext_getElem?
  intro j
  by_cases hj : j = b
  · subst hj
    rw [heap_setCell_same w j i cs T v h, set_same hv, h]
  · exact heap_setCell_other w ⟨b, i, none⟩ j v hj
 unfold World.setCell at e ⊢
 simp only at e
 rw [e]
theorem frames_any (w : World) (A : Option Addr) (n c : Nat) : Calls Tryz.prog 112 #[.slice A n c] w fun e w' => e = .returned (.func (.func 116) #[] #[.pointer (some ⟨w.heap.size, 0, none⟩)]) ∧ w' = w.alloc (.cells #[.slice A n c] 40) := by
 have hmf : ∀ (fn : Fn) (first cap : Array Value) (w : World), (Instr.makeFunc fn first cap).run Tryz.prog w = .ok (.func fn first cap) w := fun _ _ _ _ => rfl
 go_enter Tryz.func112, Tryz.ntmps112
 go_wp2
 go_ret
 exact ⟨rfl, rfl⟩
theorem ref_putN (N : Int) (m : Nat) (hm : m < 4294967296) (hN : N % 4294967296 = (m : Int)) (hb : -2147483648 ≤ N ∧ N ≤ 2147483647) (w : World) :
 Calls Tryz.prog 90 #[.int .i32 N] w fun e w' => (∃ g, e = .returned (.slice (some ⟨g, 0, none⟩) 4 4) ∧ w.heap.size ≤ g ∧ BLine w' (some ⟨g, 0, none⟩) 4 4 (le4 m)) ∧ Below w.heap.size w w' := by
 refine (ref_put N hb w).mono ?_
 rintro e w' ⟨⟨g, rfl, hg, hr, hl⟩, hB⟩
 rw [word4_of N m hm hN] at hl
 exact ⟨⟨g, rfl, hg, le4_lt m, hl⟩, hB⟩
theorem word_push (w : World) (A : Option Addr) (n c : Nat) (l : List Nat) (h : BLine w A n c l) (hn : n ≤ 100000) (x : Nat) (hx : x < 4294967296) :
 ∃ A' c' w', (Builtin.append_ #[40, 40] 40 #[.slice A n c, .slice (some ⟨w.heap.size, 0, none⟩) 4 4]).run Tryz.prog (w.alloc (.cells #[.int .u8 ((x : Int) % 256), .int .u8 ((x : Int) / 256 % 256), .int .u8 ((x : Int) / 65536 % 256), .int .u8 ((x : Int) / 16777216)] 5)) = .ok (.slice A' (n + 4) c') w' ∧ BLine w' A' (n + 4) c' (l ++ le4 x) ∧ Chg (blk A) w w' ∧ (∀ k ∈ blk A', k ∈ blk A ∨ w.heap.size ≤ k) ∧ A' ≠ none := by
 have e4 : #[Value.int .u8 ((x : Int) % 256), .int .u8 ((x : Int) / 256 % 256), .int .u8 ((x : Int) / 65536 % 256), .int .u8 ((x : Int) / 16777216)] = (cellsZ (asZ (le4 x))).toArray := by
  have h3 : x / 16777216 % 256 = x / 16777216 := Nat.mod_eq_of_lt (by omega)
  unfold cellsZ asZ le4
  rw [h3]
  simp
 rw [e4]
 have ho : (w.alloc (.cells (cellsZ (asZ (le4 x))).toArray 5)).ownsRow w.heap.size 5 1 (.slice (some ⟨w.heap.size, 0, none⟩) 4 4) 4 (cellsZ (asZ (le4 x))) :=
  own_of_heap (ys := []) (by rw [List.append_nil]; exact heap_alloc_new w _) (Nat.le_refl _) rfl rfl (by omega)
 have hb : Below w.heap.size w (w.alloc (.cells (cellsZ (asZ (le4 x))).toArray 5)) := (Below.refl _ w).alloc (Nat.le_refl _) _
 have hs : (w.alloc (.cells (cellsZ (asZ (le4 x))).toArray 5)).heap.size = w.heap.size + 1 := by simp
 have hB4 : BLine (w.alloc (.cells (cellsZ (asZ (le4 x))).toArray 5)) (some ⟨w.heap.size, 0, none⟩) 4 4 (le4 x) := ⟨le4_lt x, own_line ho⟩
 obtain ⟨A', c', w', hr, hl, hc, hf, hne⟩ := sline_append 1 (w.alloc (.cells (cellsZ (asZ (le4 x))).toArray 5)) 40 5 40 _ 1 Tryz.underlying40 info_u8 rfl (by decide) A n c _ (h.below hb).2 (by omega) _ 4 (by omega) (fun _ => by omega) _ (hB4.row.src (cap := 4))
 refine ⟨A', c', w', hr, ⟨bytesN_append h.1 (le4_lt x), ?_⟩, (Chg.of_below hb).trans hc, fun k hk => ?_, hne⟩
 · rw [asZ_append, cellsZ_append]; exact hl
 · rcases hf k hk with h1 | h1
   · exact .inl h1
   · exact .inr (by omega)
set_option maxHeartbeats 1600000 in
theorem refframe_any (A : Option Addr) (n cap : Nat) (l : List Nat) (hn : n ≤ 65536) (w : World) (hR : RowN w A n l) :
 Calls Tryz.prog 68 #[.slice A n cap] w fun e w' => (∃ A' c, e = .returned (.slice A' (n + 8) c) ∧ (∀ k ∈ blk A', w.heap.size ≤ k) ∧ BLine w' A' (n + 8) c (frameN l)) ∧ Below w.heap.size w w' := by
 have hlen := hR.length
 have HP1 := Lib.hid (ref_putN (n : Int) n (by omega) (by omega) (by omega) w)
 have HR := Lib.hid hR
 have HL := Lib.hid hlen
 have hn' : (n : Int) ≤ 65536 := by omega
 clear hR hlen
 go_enter Tryz.func68, Tryz.ntmps68
 go_wp2_with fail
 refine HP1.out.mono ?_
 rintro e w1 ⟨⟨g, rfl, hg, hl1⟩, hb1⟩
 obtain ⟨A2, c2, w2, hr, hl2, hc2, hf2, hne⟩ := sline_append 1 w1 40 5 40 _ 1 Tryz.underlying40 info_u8 rfl (by decide) _ 4 4 _ hl1.2 (by omega) _ n (by omega) (fun e => by cases e) _ ((HR.out.below hb1).src (cap := cap))
 have hB2 : Below w.heap.size w w2 := hb1.trans (hc2.toBelow (fun k hk => by obtain ⟨ad, ea, hb⟩ := mem_blk.1 hk; cases ea; rw [← hb]; exact hg) hb1.size)
 have hL2 : BLine w2 A2 (4 + n) c2 (headN l) := ⟨headN_lt HR.out.bytes, by
  have e : cellsZ (asZ (headN l)) = cellsZ (asZ (le4 n)) ++ cellsZ (asZ l) := by unfold headN; rw [HL.out, asZ_append, cellsZ_append]
  rw [e]; exact hl2⟩
 have hge2 : ∀ k ∈ blk A2, w.heap.size ≤ k := fun k hk => by
  rcases hf2 k hk with h | h
  · obtain ⟨ad, ea, hb⟩ := mem_blk.1 h; cases ea; rw [← hb]; exact hg
  · have := hb1.size; omega
 have HR2 := Lib.hid hr
 obtain ⟨cc, hcc⟩ : ∃ cc, crcMore 0 (headN l) = cc := ⟨_, rfl⟩
 have hcl : cc < 4294967296 := by rw [← hcc]; exact crcMore_lt _ _
 have HC := Lib.hid (refcrc_any A2 (4 + n) c2 (headN l) (by omega) w2 hL2.row)
 rw [hcc] at HC
 obtain ⟨A3, c3, w3, hr3, hl3, hc3, hf3, hne3⟩ := word_push w2 A2 (4 + n) c2 (headN l) hL2 (by omega) cc hcl
 have HR3 := Lib.hid hr3
 have HX : Hid ((∀ k ∈ blk A3, w.heap.size ≤ k) ∧ BLine w3 A3 (n + 8) c3 (frameN l) ∧ Below w.heap.size w w3) := Lib.hid (by
  refine ⟨fun k hk => ?_, ?_, hB2.trans (hc3.toBelow hge2 hB2.size)⟩
  · rcases hf3 k hk with h | h
    · exact hge2 k h
    · have := hB2.size; omega
  · unfold frameN
    rw [hcc, show n + 8 = 4 + n + 4 from by omega]
    exact hl3)
 have e8 : 4 + n + 4 = n + 8 := by omega
 have hcl' : (cc : Int) < 4294967296 := by omega
 rw [e8] at HR3
 clear hl1 hb1 hr hl2 hc2 hf2 hne hB2 hL2 hcc hr3 hl3 hc3 hf3 hne3 hge2 hcl e8
 go_wp2_with (first
  | (at_builtin; refine Lib.wpList_append_run _ rfl _ _ _ _ rfl _ _ rfl rfl _ _ HR2.out ?_)
  | (at_builtin; refine Lib.wpList_append_run _ rfl _ _ _ _ rfl _ _ rfl rfl _ _ HR3.out ?_)
  | (go_at_call 91; refine HC.out.mono ?_; rintro e w' ⟨rfl, rfl⟩))
 go_ret
 exact ⟨⟨A3, c3, rfl, HX.out.1, HX.out.2.1⟩, HX.out.2.2⟩
end Go.Proofs.YtdjnebgjdekmaaaGreatDoor
