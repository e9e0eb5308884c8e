/-
  The contract of wal.first.
-/
import Derived.Test.YtjcknjadapbooaaWq
namespace Go.Proofs.Ytjcknjadapbooaa
open Go.RowKit
set_option linter.unusedVariables false
set_option maxRecDepth 100000

/-- What first hands back. -/
def firstV (A : Option Addr) (cap : Nat) (l : List Nat) : Value := match firstN l with | none => .slice none 0 0 | some r => .slice (A.map fun a => ⟨a.block, a.off + 4, none⟩) r.length (cap - 4)
theorem wrap_back (v : Nat) (h : v < 4294967296) : wrap32 (v : Int) % 4294967296 = (v : Int) := by
  obtain ⟨k, hk⟩ := wrap32_ex (v : Int)
  rw [hk, Int.add_mul_emod_self_left]
  omega
theorem firstN_len {l : List Nat} (h : l.length < 4) : firstN l = none := by unfold firstN; rw [if_pos h]
section
variable {A : Option Addr} {n cap : Nat} {l : List Nat} {w : World}
theorem first_no0 (hn : n ≤ 90000) (hs : n < 4) : Calls Try.prog 23 #[.slice A n cap] w fun e w' => e = .returned (.tuple #[.slice none 0 0, .bool false]) ∧ w = w' := by
  have HG := Lib.hid (get_no A n cap 0 (.inr (by omega)) hn w)
  go_enter Try.func23, Try.ntmps23
  go_wp2_with (go_at_call 25; refine HG.out.mono ?_; rintro e w' ⟨rfl, rfl⟩)
  go_ret2
  exact ⟨rfl, rfl⟩
theorem first_no1 (hn : n ≤ 90000) (hs : 4 ≤ n) (hR : RowN w A n l) (hm : 65536 < getN l 0) : Calls Try.prog 23 #[.slice A n cap] w fun e w' => e = .returned (.tuple #[.slice none 0 0, .bool false]) ∧ w = w' := by
  have HG := Lib.hid (get_N (cap := cap) 0 (by omega) hn w hR)
  have hlt := getN_lt hR.bytes 0
  obtain ⟨m, hmm⟩ : ∃ m, getN l 0 = m := ⟨_, rfl⟩
  rw [hmm] at HG hm hlt
  clear hR hmm
  obtain ⟨z, hz⟩ : ∃ z, wrap32 (m : Int) = z := ⟨_, rfl⟩
  have hz' : z < 0 ∨ (0 ≤ z ∧ 65536 < z) := by unfold wrap32 at hz; omega
  rw [hz] at HG
  clear hz hm hlt
  rcases hz' with h | ⟨h0, h⟩
  · go_enter Try.func23, Try.ntmps23
    go_wp2_with (go_at_call 25; refine HG.out.mono ?_; rintro e w' ⟨rfl, rfl⟩)
    go_ret2
    exact ⟨rfl, rfl⟩
  · have h0' : ¬ z < 0 := by omega
    go_enter Try.func23, Try.ntmps23
    go_wp2_with (go_at_call 25; refine HG.out.mono ?_; rintro e w' ⟨rfl, rfl⟩)
    go_ret2
    exact ⟨rfl, rfl⟩
theorem first_no2 (hn : n ≤ 90000) (hs : 4 ≤ n) (hR : RowN w A n l) (hm : getN l 0 ≤ 65536) (h8 : n < getN l 0 + 8) : Calls Try.prog 23 #[.slice A n cap] w fun e w' => e = .returned (.tuple #[.slice none 0 0, .bool false]) ∧ w = w' := by
  have HG := Lib.hid (get_N (cap := cap) 0 (by omega) hn w hR)
  obtain ⟨m, hmm⟩ : ∃ m, getN l 0 = m := ⟨_, rfl⟩
  rw [hmm] at HG hm h8
  clear hR hmm
  rw [show wrap32 (m : Int) = (m : Int) from wrap32_self _ (by omega)] at HG
  have HG2 := Lib.hid (get_no A n cap (4 + (m : Int)) (.inr (by omega)) hn w)
  have hm' : (m : Int) ≤ 65536 := by omega
  have hm0 : (0 : Int) ≤ (m : Int) := by omega
  go_enter Try.func23, Try.ntmps23
  go_wp2_with fail
  refine HG.out.mono ?_
  rintro e w' ⟨rfl, rfl⟩
  go_wp2_with fail
  refine HG2.out.mono ?_
  rintro e w' ⟨rfl, rfl⟩
  go_wp2
  go_ret2
  exact ⟨rfl, rfl⟩
end
section
variable {n cap m vv cc : Nat} {g off : Nat} {w : World}
set_option maxHeartbeats 800000 in
theorem first_ends (hm' : (m : Int) ≤ 65536) (hs : (m : Int) + 8 ≤ (n : Int)) (hnc : n ≤ cap) (hcm : cap ≤ 9223372036854775807) (hw : wrap32 (vv : Int) % 4294967296 = (vv : Int)) (b : Bool) (hb : ((vv : Int) != (cc : Int)) = !b)
    (HG : Calls Try.prog 25 #[.slice (some ⟨g, off, none⟩) n cap, .int .i64 0] w fun e w' => e = .returned (.tuple #[.int .i32 (m : Int), .bool true]) ∧ w = w')
    (HG2 : Calls Try.prog 25 #[.slice (some ⟨g, off, none⟩) n cap, .int .i64 (4 + (m : Int))] w fun e w' => e = .returned (.tuple #[.int .i32 (wrap32 (vv : Int)), .bool true]) ∧ w = w')
    (HC : Calls Try.prog 16 #[.slice (some ⟨g, off, none⟩) (4 + m) cap] w fun e w' => e = .returned (.int .u32 (cc : Int)) ∧ w = w') :
    Calls Try.prog 23 #[.slice (some ⟨g, off, none⟩) n cap] w fun e w' => e = .returned (.tuple #[if b = true then .slice (some ⟨g, off + 4, none⟩) m (cap - 4) else .slice none 0 0, .bool b]) ∧ w = w' := by
  have HG := Lib.hid HG
  have HG2 := Lib.hid HG2
  have HC := Lib.hid HC
  have hm0 : (0 : Int) ≤ (m : Int) := by omega
  have hcap : (4 : Int) + (m : Int) ≤ (cap : Int) := by omega
  cases b with
  | false =>
    have hb' : ((vv : Int) != (cc : Int)) = true := hb
    clear hb
    simp only [Bool.false_eq_true, ↓reduceIte]
    go_enter Try.func23, Try.ntmps23
    go_wp2_with fail
    refine HG.out.mono ?_
    rintro e w' ⟨rfl, rfl⟩
    go_wp2_with fail
    refine HG2.out.mono ?_
    rintro e w' ⟨rfl, rfl⟩
    go_wp2_with fail
    refine HC.out.mono ?_
    rintro e w' ⟨rfl, rfl⟩
    go_wp2
    go_ret2
    exact ⟨rfl, rfl⟩
  | true =>
    have hb' : ((vv : Int) != (cc : Int)) = false := hb
    clear hb
    simp only [↓reduceIte]
    go_enter Try.func23, Try.ntmps23
    go_wp2_with fail
    refine HG.out.mono ?_
    rintro e w' ⟨rfl, rfl⟩
    go_wp2_with fail
    refine HG2.out.mono ?_
    rintro e w' ⟨rfl, rfl⟩
    go_wp2_with fail
    refine HC.out.mono ?_
    rintro e w' ⟨rfl, rfl⟩
    go_wp2
    go_ret2
    refine ⟨?_, rfl⟩
    show Ending.returned (.tuple #[.slice (some ⟨g, off + 4, none⟩) (4 + m - 4) (cap - 4), .bool true]) = _
    rw [Nat.add_sub_cancel_left]
end
theorem first_fin {n cap g off : Nat} {l : List Nat} {w : World} (m vv cc : Nat) (hf : firstN l = if vv = cc then some ((l.drop 4).take m) else none) (hlen : ((l.drop 4).take m).length = m)
    (hm' : (m : Int) ≤ 65536) (hs : (m : Int) + 8 ≤ (n : Int)) (hnc : n ≤ cap) (hcm : cap ≤ 9223372036854775807) (hw : wrap32 (vv : Int) % 4294967296 = (vv : Int))
    (HG : Calls Try.prog 25 #[.slice (some ⟨g, off, none⟩) n cap, .int .i64 0] w fun e w' => e = .returned (.tuple #[.int .i32 (m : Int), .bool true]) ∧ w = w')
    (HG2 : Calls Try.prog 25 #[.slice (some ⟨g, off, none⟩) n cap, .int .i64 (4 + (m : Int))] w fun e w' => e = .returned (.tuple #[.int .i32 (wrap32 (vv : Int)), .bool true]) ∧ w = w')
    (HC : Calls Try.prog 16 #[.slice (some ⟨g, off, none⟩) (4 + m) cap] w fun e w' => e = .returned (.int .u32 (cc : Int)) ∧ w = w') :
    Calls Try.prog 23 #[.slice (some ⟨g, off, none⟩) n cap] w fun e w' => e = .returned (.tuple #[firstV (some ⟨g, off, none⟩) cap l, .bool (firstN l).isSome]) ∧ w = w' := by
  cases hb : decide (vv = cc) with
  | true =>
    have he := of_decide_eq_true hb
    rw [if_pos he] at hf
    have e : firstV (some ⟨g, off, none⟩) cap l = .slice (some ⟨g, off + 4, none⟩) m (cap - 4) := by
      unfold firstV
      rw [hf]
      show Value.slice _ _ _ = _
      rw [hlen]
      rfl
    rw [e, hf]
    refine (first_ends hm' hs hnc hcm hw true ?_ HG HG2 HC).mono ?_
    · subst he; simp
    · rintro e w' ⟨rfl, rfl⟩
      exact ⟨rfl, rfl⟩
  | false =>
    have he := of_decide_eq_false hb
    rw [if_neg he] at hf
    have e : firstV (some ⟨g, off, none⟩) cap l = .slice none 0 0 := by
      unfold firstV
      rw [hf]
    rw [e, hf]
    refine (first_ends hm' hs hnc hcm hw false ?_ HG HG2 HC).mono ?_
    · rw [Bool.not_false, bne_iff_ne]
      intro h
      exact he (by omega)
    · rintro e w' ⟨rfl, rfl⟩
      exact ⟨rfl, rfl⟩
theorem first_any (A : Option Addr) (n cap : Nat) (l : List Nat) (hn : n ≤ 90000) (hnc : n ≤ cap) (hcm : cap ≤ 9223372036854775807) (w : World) (hR : RowN w A n l) :
    Calls Try.prog 23 #[.slice A n cap] w fun e w' => e = .returned (.tuple #[firstV A cap l, .bool (firstN l).isSome]) ∧ w = w' := by
  have hl := hR.length
  by_cases h4 : n < 4
  · have e : firstN l = none := firstN_len (by omega)
    unfold firstV
    rw [e]
    exact first_no0 hn h4
  by_cases hm : 65536 < getN l 0
  · have e : firstN l = none := by unfold firstN; rw [if_neg (by omega), if_pos hm]
    unfold firstV
    rw [e]
    exact first_no1 hn (by omega) hR hm
  by_cases h8 : n < getN l 0 + 8
  · have e : firstN l = none := by unfold firstN; rw [if_neg (by omega), if_neg hm, if_pos (by omega)]
    unfold firstV
    rw [e]
    exact first_no2 hn (by omega) hR (by omega) h8
  obtain ⟨g, off, rfl, _, _⟩ := hR.cells (by omega)
  obtain ⟨m, hmm⟩ : ∃ m, getN l 0 = m := ⟨_, rfl⟩
  have HG := get_N (cap := cap) 0 (by omega) hn w hR
  rw [hmm] at hm h8 HG
  obtain ⟨vv, hvv⟩ : ∃ vv, getN l (4 + m) = vv := ⟨_, rfl⟩
  obtain ⟨cc, hcc⟩ : ∃ cc, crcMore 0 (l.take (4 + m)) = cc := ⟨_, rfl⟩
  have HG2 := get_N (cap := cap) (4 + m) (by omega) hn w hR
  have HC := crc_any (some ⟨g, off, none⟩) (4 + m) cap (l.take (4 + m)) (by omega) w (hR.take (by omega))
  have hv := getN_lt hR.bytes (4 + m)
  rw [hvv] at hv HG2
  rw [hcc] at HC
  have hlen : ((l.drop 4).take m).length = m := by rw [List.length_take, List.length_drop]; omega
  have hf : firstN l = if vv = cc then some ((l.drop 4).take m) else none := by
    conv => lhs; unfold firstN
    rw [hmm, hvv, hcc, if_neg (by omega), if_neg hm, if_neg (by omega)]
  have e1 : wrap32 (m : Int) = (m : Int) := wrap32_self _ (by omega)
  have e2 : ((4 + m : Nat) : Int) = 4 + (m : Int) := by omega
  have e3 := wrap_back vv hv
  have e0 : ((0 : Nat) : Int) = 0 := rfl
  rw [e1, e0] at HG
  rw [e2] at HG2
  clear hvv hcc hmm hR
  exact first_fin m vv cc hf hlen (by omega) (by omega) hnc hcm e3 HG HG2 HC
end Go.Proofs.Ytjcknjadapbooaa
