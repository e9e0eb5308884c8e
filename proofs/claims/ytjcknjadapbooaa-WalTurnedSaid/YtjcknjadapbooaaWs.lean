/-
  The contract of wal.frames: an iterator over the frames at the front of bytes.
-/
import Derived.Test.YtjcknjadapbooaaWr
import Derived.Test.YtjcknjadapbooaaIk
namespace Go.Proofs.Ytjcknjadapbooaa
open Go.RowKit Go.Shelf
attribute [local go_sem] Oper.semAt_some
set_option linter.unusedVariables false
set_option maxRecDepth 100000

/-- Where each of the records' frames begins. -/
def markN (s : Nat) : List (List Nat) → List (Nat × List Nat)
  | [] => []
  | r :: rs => (s, r) :: markN (s + r.length + 8) rs
theorem markN_append (a b : List (List Nat)) : ∀ s, markN s (a ++ b) = markN s a ++ markN (s + (allN a).length) b := by
  induction a with
  | nil => intro s; rfl
  | cons r a ih =>
    intro s
    show (s, r) :: markN (s + r.length + 8) (a ++ b) = (s, r) :: (markN (s + r.length + 8) a ++ markN (s + (frameN r ++ allN a).length) b)
    rw [ih, List.length_append, frameN_length, show s + r.length + 8 + (allN a).length = s + (r.length + 8 + (allN a).length) from by omega]
def atA (A : Option Addr) (k : Nat) : Option Addr := A.map fun a => ⟨a.block, a.off + k, none⟩
/-- What is handed to the loop's body of a frame. -/
def arF (A : Option Addr) (cap : Nat) (x : Nat × List Nat) : Array Value := #[.slice (atA A (x.1 + 4)) x.2.length (cap - x.1 - 4), .int .i64 ((x.1 + x.2.length + 8 : Nat) : Int)]
def recV (A : Option Addr) (cap s : Nat) (l : List Nat) : Value := match firstN (l.drop s) with | none => .slice none 0 0 | some r => .slice (atA A (s + 4)) r.length (cap - s - 4)
/-- What the iterator needs to last. -/
def KeepF (Bx : Nat) (A : Option Addr) (n cap : Nat) (l : List Nat) (W : World) : Prop := W.cell? ⟨Bx, 0, none⟩ = some (.slice A n cap) ∧ RowN W A n l
theorem recV_none {A : Option Addr} {cap s : Nat} {l : List Nat} (h : firstN (l.drop s) = none) : recV A cap s l = .slice none 0 0 := by unfold recV; rw [h]
theorem recV_some {A : Option Addr} {cap s : Nat} {l r : List Nat} (h : firstN (l.drop s) = some r) : recV A cap s l = .slice (atA A (s + 4)) r.length (cap - s - 4) := by unfold recV; rw [h]
/-- first at a later place. -/
theorem first_at (A : Option Addr) (n cap : Nat) (l : List Nat) (hn : n ≤ 90000) (hnc : n ≤ cap) (hcm : cap ≤ 9223372036854775807) (w : World) (hR : RowN w A n l) (s : Nat) (hs : s ≤ n) (A' : Option Addr) (hA : s < n → A' = atA A s) :
    Calls Try.prog 23 #[.slice A' (n - s) (cap - s)] w fun e w' => e = .returned (.tuple #[recV A cap s l, .bool (firstN (l.drop s)).isSome]) ∧ w = w' := by
  have hl := hR.length
  have hR' : RowN w A' (n - s) (l.drop s) := by
    rcases Nat.lt_or_ge s n with h | h
    · obtain ⟨g, off, rfl, _, _⟩ := hR.cells (by omega)
      rw [hA h]
      have h2 := RowZ.dropAt (k := s) hR (by omega)
      unfold RowN asZ at *
      rw [List.map_drop]
      exact h2
    · have : n - s = 0 := by omega
      rw [this, List.drop_eq_nil_of_le (by omega)]
      exact RowN.nil
  refine (first_any A' (n - s) (cap - s) (l.drop s) (by omega) (by omega) (by omega) w hR').mono ?_
  rintro e w' ⟨rfl, rfl⟩
  refine ⟨?_, rfl⟩
  cases hf : firstN (l.drop s) with
  | none => unfold firstV recV; rw [hf]
  | some r =>
    have hlen := (first_len hf).2.1
    rw [List.length_drop] at hlen
    have hA' := hA (by omega)
    obtain ⟨g, off, rfl, _, _⟩ := hR.cells (by omega)
    unfold firstV recV
    rw [hf, hA']
    simp only [atA, Option.map_some, Nat.add_assoc]
set_option maxHeartbeats 2000000 in
theorem frames1_any (w : World) (Bx : Nat) (A : Option Addr) (n cap : Nat) (l : List Nat) (hn : n ≤ 90000) (hnc : n ≤ cap) (hcm : cap ≤ 9223372036854775807) (hln : l.length = n) :
    IterK Try.prog 22 #[.pointer (some ⟨Bx, 0, none⟩)] (arF A cap) 1 (markN 0 (parseN l)) (KeepF Bx A n cap l) w := by
  intro nn hd L J Jx hJ hK h0 hY
  have HJ := Lib.hid hJ
  have HK := Lib.hid hK
  have H0 := Lib.hid h0
  have HY := Lib.hid hY
  obtain ⟨kc, kr⟩ := hK _ _ h0
  have HC := Lib.hid (first_at A n cap l hn hnc hcm w kr 0 (by omega) A (fun h => by obtain ⟨g, off, rfl, _, _⟩ := kr.cells (by omega); rfl))
  rw [Nat.sub_zero, Nat.sub_zero] at HC
  clear hJ hK h0 hY kr
  refine callsIn_of_wp Try.func22 rfl trivial ?_ rfl
  simp only [Try.ntmps22, List.size_toArray, List.length_cons, List.length_nil, Nat.reduceAdd, Nat.reduceSub, Array.replicate_succ, Array.replicate_zero, List.push_toArray, List.append_toArray, List.nil_append, List.cons_append]
  gi_wp2_with (refine ⟨trivial, ?_⟩; gi_at_call 23; refine (callsIn_wide.2 HC.out).mono ?_; rintro e W1 ⟨rfl, rfl⟩)
  clear HC kc
  gi_loopw [3, 4, 5] (fun i v b wr => ∃ s : Nat, ∃ rs : List (List Nat), i = .int .i64 s ∧ s ≤ n ∧ v = recV A cap s l ∧ b = .bool (firstN (l.drop s)).isSome ∧ Hid (parseN l = rs ++ parseN (l.drop s) ∧ (allN rs).length = s) ∧ J (markN 0 rs) wr) (fun i _ _ _ => n - (intOf i).toNat)
  case atStart => exact ⟨0, [], rfl, by omega, rfl, rfl, Lib.hid ⟨rfl, rfl⟩, H0.out⟩
  case round =>
    obtain ⟨s, rs, rfl, hs, rfl, rfl, HP, hJ⟩ := hrel
    cases hf : firstN (l.drop s) with
    | none =>
      have HE : Hid (J (markN 0 (parseN l)) wr) := Lib.hid (by
        have h1 := HP.out.1
        rw [parse_none hf, List.append_nil] at h1
        rw [h1]; exact hJ)
      rw [recV_none hf, show (none : Option (List Nat)).isSome = false from rfl]
      clear hf hJ HP
      gi_wp2
      go_end0
      exact ⟨⟨_, rfl⟩, .inl HE.out⟩
    | some r =>
      have hfl := (first_len hf).2.1
      rw [List.length_drop] at hfl
      have hd8 : (l.drop s).drop (r.length + 8) = l.drop (s + r.length + 8) := by rw [List.drop_drop, Nat.add_assoc]
      have hP2 : parseN l = (rs ++ [r]) ++ parseN (l.drop (s + r.length + 8)) ∧ (allN (rs ++ [r])).length = s + r.length + 8 := by
        refine ⟨?_, ?_⟩
        · rw [HP.out.1, parse_some hf, hd8, List.append_assoc]; rfl
        · rw [allN_snoc, List.length_append, frameN_length, HP.out.2]; omega
      have hm2 : markN 0 (rs ++ [r]) = markN 0 rs ++ [(s, r)] := by rw [markN_append, HP.out.2, Nat.zero_add]; rfl
      have hpre : markN 0 rs ++ [(s, r)] <+: markN 0 (parseN l) := by
        rw [hP2.1, markN_append, hm2]
        exact List.prefix_append _ _
      obtain ⟨fn, tmps, assign, body, hyl, hR⟩ := HY.out (markN 0 rs) (s, r) wr hJ hpre
      rw [recV_some hf, show (some r).isSome = true from rfl]
      unfold arF at hyl
      simp only at hyl
      have HR := Lib.hid hR
      have HP2 := Lib.hid hP2
      have HM2 := Lib.hid hm2
      rw [show (((s + r.length + 8 : Nat)) : Int) = (s : Int) + (4 + (r.length : Int) + 4) from by omega] at hyl
      obtain ⟨rl, hrl⟩ : ∃ rl, r.length = rl := ⟨_, rfl⟩
      have HRL := Lib.hid hrl
      rw [hrl] at hyl hfl ⊢
      have hle : s + rl + 8 ≤ n := by omega
      have hle' : (s : Int) + (4 + (rl : Int) + 4) ≤ (n : Int) := by omega
      have hn90 : (n : Int) ≤ 90000 := by omega
      clear hR hP2 hm2 hpre hJ hd8 hf HP hfl hrl
      gi_wp2
      refine HR.out.mono ?_
      rintro e W3 (⟨rfl, hJ3⟩ | ⟨rfl, hJ3⟩)
      · rw [← HM2.out] at hJ3
        obtain ⟨kc, kr⟩ := HK.out _ _ hJ3
        have HJ3 := Lib.hid hJ3
        obtain ⟨s2, hs2⟩ : ∃ s2, s + rl + 8 = s2 := ⟨_, rfl⟩
        have hs2' : (s : Int) + (4 + (rl : Int) + 4) = (s2 : Int) := by omega
        rw [HRL.out, hs2] at HP2
        rw [hs2']
        have h2n : s2 ≤ n := by omega
        have h2n' : (s2 : Int) ≤ (n : Int) := by omega
        have h2c : s2 ≤ cap := by omega
        have h2c' : (s2 : Int) ≤ (cap : Int) := by omega
        have h20 : (0 : Int) ≤ (s2 : Int) := by omega
        have HS2 := Lib.hid hs2
        rcases Nat.lt_or_ge s2 cap with hsc | hsc
        · have HC := Lib.hid (first_at A n cap l hn hnc hcm W3 kr s2 h2n (Option.map (fun x => x.add s2) A) (fun h => by
            obtain ⟨g, off, rfl, _, _⟩ := kr.cells (by omega)
            have hadd : (⟨g, off, none⟩ : Addr).add s2 = ⟨g, off + s2, none⟩ := by unfold Addr.add; split <;> simp_all
            show some ((⟨g, off, none⟩ : Addr).add s2) = some _
            rw [hadd]))
          clear hJ3 hyl hs2 hle hle' kr
          gi_wp2
          refine ⟨trivial, (callsIn_wide.2 HC.out).mono ?_⟩
          rintro e W4 ⟨rfl, rfl⟩
          gi_wp2
          go_roundw
          case rel => exact ⟨s2, rs ++ [r], by with_reducible rfl, h2n, by with_reducible rfl, by with_reducible rfl, HP2, HJ3.out⟩
          case measure =>
            have := HS2.out
            show n - s2 < n - s
            omega
        · have HC := Lib.hid (first_at A n cap l hn hnc hcm W3 kr s2 h2n A (fun h => by omega))
          rw [show n - s2 = 0 from by omega, show cap - s2 = 0 from by omega] at HC
          obtain rfl : s2 = cap := by omega
          clear hJ3 hyl hs2 hle hle' kr
          gi_wp2
          refine ⟨trivial, (callsIn_wide.2 HC.out).mono ?_⟩
          rintro e W4 ⟨rfl, rfl⟩
          gi_wp2
          go_roundw
          case rel => exact ⟨s2, rs ++ [r], by with_reducible rfl, h2n, by with_reducible rfl, by with_reducible rfl, HP2, HJ3.out⟩
          case measure =>
            have := HS2.out
            show n - s2 < n - s
            omega
      · have HX : Hid (∃ pre, pre <+: markN 0 (parseN l) ∧ Jx pre W3) := Lib.hid ⟨_, by rw [HP2.out.1, markN_append, HM2.out]; exact List.prefix_append _ _, hJ3⟩
        clear hJ3 hyl
        gi_wp2
        refine bodyPost_ret (results_none rfl _ _ _) rfl ?_
        exact ⟨⟨_, rfl⟩, .inr HX.out⟩
end Go.Proofs.Ytjcknjadapbooaa
