/-
  Contracts of the document's own Dec at any word, of its Parse, and of the law's cut.
-/
import Derived.Test.YthgkkgjnealkbaaDoorTexts
import Derived.Lib.IndexBytes
import Derived.Deep.Cut
namespace Go.Proofs.YthgkkgjnealkbaaDoor
open Go.RowKit

theorem ref_dec_any (n : Int) (hn : -2147483648 ≤ n ∧ n ≤ 2147483647) (w : World) :
    Calls Tryd.prog 22 #[.int .i64 n] w fun e w' => e = .returned (.string ⟨(Lib.itoa n).toArray⟩) ∧ Below w.heap.size w w' := by
  by_cases h : 0 ≤ n
  · have e := itoa_pos n h
    rw [e]
    have hc := ref_dec n.toNat w (by omega)
    rwa [show ((n.toNat : Nat) : Int) = n from by omega] at hc
  · have E := Lib.hid (itoa_neg' n (by omega))
    have hc := ref_dec n.natAbs w (by omega)
    rw [show ((n.natAbs : Nat) : Int) = -n from by omega] at hc
    have H := Lib.hid hc
    have hlen := dd_len n.natAbs (by omega)
    have h' : n < 0 := by omega
    clear hc h
    go_enter Tryd.func22, Tryd.ntmps22
    go_wp2_with (go_at_call 22; refine H.out.mono ?_; rintro e w1 ⟨rfl, hB⟩)
    go_ret
    exact ⟨by rw [E.out, show (45 : UInt8) :: Lib.decDigits n.natAbs = [45] ++ Lib.decDigits n.natAbs from rfl, ← str_append]; rfl, hB⟩

/-- The first 3000 bytes. -/
theorem cut_any (s : ByteArray) (hs : s.size ≤ 9223372036854775807) (w : World) :
    Calls Tryd.prog 19 #[.string s] w fun e w' => e = .returned (.string (s.extract 0 (min (s.size : Int) 3000).toNat)) ∧ w = w' := by
  by_cases h : s.size ≤ 3000 <;>
  · go_enter Tryd.func19, Tryd.ntmps19
    go_wp2
    go_ret
    exact ⟨rfl, rfl⟩
theorem cut_size (s : ByteArray) : (s.extract 0 (min (s.size : Int) 3000).toNat).size ≤ 3000 := by
  rw [ByteArray.size_extract]; omega

/-- What the document's Parse answers of a text. -/
def RefParsed (s : List UInt8) (e : Ending) : Prop :=
  (∃ v, e = .returned (.tuple #[.int .i32 v, .bool true]) ∧ inWord v ∧ Lib.itoa v = s) ∨ (e = .returned (.tuple #[.int .i32 0, .bool false]) ∧ ∀ v, inWord v → Lib.itoa v ≠ s)
theorem RefParsed.no {s : List UInt8} {e : Ending} (he : e = .returned (.tuple #[.int .i32 0, .bool false])) (h : ∀ v, inWord v → Lib.itoa v = s → False) : RefParsed s e := .inr ⟨he, fun v hv e => h v hv e⟩

theorem num_neg (v : Int) (t : List UInt8) (e : Lib.itoa v = 45 :: t) : v < 0 ∧ t = Lib.decDigits v.natAbs := by
  by_cases h : v < 0
  · rw [itoa_neg' v h, List.cons.injEq] at e
    exact ⟨h, e.2.symm⟩
  · rw [itoa_pos v (by omega)] at e
    have := dd_ok v.toNat 45 (by rw [e]; simp)
    exact absurd this (by unfold digitOk; decide)
theorem num_pos (v : Int) (t : List UInt8) (hh : t.head? ≠ some 45) (e : Lib.itoa v = t) : 0 ≤ v ∧ t = Lib.decDigits v.natAbs := by
  by_cases h : v < 0
  · rw [itoa_neg' v h] at e
    subst e
    exact absurd rfl hh
  · rw [itoa_pos v (by omega)] at e
    exact ⟨by omega, by rw [← e]; congr 1; omega⟩
theorem ba_mem (t : ByteArray) (k : Nat) (h : k < t.size) : t[k] ∈ t.data.toList := by
  have h' : k < t.data.toList.length := h
  have e : t.data.toList[k] = t[k] := rfl
  rw [← e]
  exact List.getElem_mem h'
theorem ba_head (t : ByteArray) (h : 0 < t.size) : t.data.toList.head? = some t[0] := by
  have h' : 0 < t.data.toList.length := h
  rw [List.head?_eq_getElem?, List.getElem?_eq_getElem h']
  rfl
theorem ba_len (t : ByteArray) : t.data.toList.length = t.size := rfl
theorem ba_tail (s : ByteArray) (h : 0 < s.size) (h45 : s[0].toNat = 45) : s.data.toList = 45 :: (s.extract 1 s.size).data.toList := by
  have h' : 0 < s.data.toList.length := h
  rw [Lib.extract_to_end]
  have e : s.data.toList[0] = 45 := by
    show s[0] = 45
    exact UInt8.toNat_inj.1 h45
  obtain ⟨c, r, er⟩ := List.exists_cons_of_ne_nil (List.length_pos_iff.1 h')
  rw [er]
  simp only [er, List.getElem_cons_zero] at e
  rw [e]
  rfl
theorem ba_take (t : ByteArray) (k : Nat) (h : k < t.size) : t.data.toList.take (k + 1) = t.data.toList.take k ++ [t[k]] := by
  rw [List.take_succ_eq_append_getElem (by simpa using h)]; rfl
theorem ba_all (t : ByteArray) : t.data.toList.take t.size = t.data.toList := List.take_of_length_le (Nat.le_refl _)
theorem decVal_bd (l : List UInt8) (h : ∀ c ∈ l, digitOk c) : decVal l < 10 ^ l.length := by
  obtain ⟨n, hn⟩ : ∃ n, n = l.length := ⟨_, rfl⟩
  induction n generalizing l with
  | zero =>
    have : l = [] := List.eq_nil_of_length_eq_zero hn.symm
    subst this
    decide
  | succ n ih =>
    rcases List.eq_nil_or_concat l with rfl | ⟨r, c, rfl⟩
    · cases hn
    · rw [List.concat_eq_append] at *
      rw [List.length_append, List.length_singleton] at hn
      have h1 := ih r (fun x hx => h x (by simp [hx])) (by omega)
      have hc : digitOk c := h c (by simp)
      obtain ⟨a, b⟩ := hc
      rw [decVal_snoc, List.length_append, List.length_singleton, Nat.pow_succ]
      omega
theorem decVal_le (l : List UInt8) (h : ∀ c ∈ l, digitOk c) (hl : l.length ≤ 10) : decVal l ≤ 10000000000 := by
  have h1 := decVal_bd l h
  have h2 : (10 : Nat) ^ l.length ≤ 10 ^ 10 := Nat.pow_le_pow_right (by omega) hl
  omega
theorem head0 (u : Nat) (c : UInt8) (r : List UInt8) (e : Lib.decDigits u = c :: r) (h : c.toNat = 48) : r = [] ∧ u = 0 := by
  have hc : c = 48 := UInt8.toNat_inj.1 h
  rcases dd_head u with h1 | ⟨c', r', e', hne⟩
  · rw [e, List.length_cons] at h1
    have hr : r = [] := List.eq_nil_of_length_eq_zero (by omega)
    subst hr
    have hv := dd_val u
    rw [e, hc] at hv
    exact ⟨rfl, by rw [← hv]; decide⟩
  · rw [e, List.cons.injEq] at e'
    exact absurd (e'.1.symm.trans hc) hne
theorem ba_cons (t : ByteArray) (h : 0 < t.size) : ∃ r, t.data.toList = t[0] :: r := by
  have h' : 0 < t.data.toList.length := h
  obtain ⟨c, r, er⟩ := List.exists_cons_of_ne_nil (List.length_pos_iff.1 h')
  have hh := ba_head t h
  rw [er] at hh
  injection hh with hh
  exact ⟨r, by rw [er, hh]⟩
theorem plain_of (t : ByteArray) (h0 : 0 < t.size) (hd : ∀ c ∈ t.data.toList, digitOk c) (hh : t.size = 1 ∨ t[0].toNat ≠ 48) : Lib.decDigits (decVal t.data.toList) = t.data.toList := by
  refine plain_dd _ ⟨List.length_pos_iff.1 h0, hd, ?_⟩
  rcases hh with hh | hh
  · exact .inl hh
  · obtain ⟨r, er⟩ := ba_cons t h0
    exact .inr ⟨_, r, er, fun e => hh (by rw [e]; rfl)⟩

set_option maxHeartbeats 1000000 in
set_option maxRecDepth 100000 in
theorem ref_parse_neg (s : ByteArray) (hs : s.size ≤ 3000) (h0 : 0 < s.size) (h45 : s[0].toNat = 45) (w : World) :
    Calls Tryd.prog 23 #[.string s] w fun e w' => RefParsed s.data.toList e ∧ w = w' := by
  have HS := Lib.hid (ba_tail s h0 h45)
  have hb : ((s[0].toNat : Int) == 45) = true := by rw [beq_iff_eq]; omega
  have hts : (s.extract 1 s.size).size = s.size - 1 := by rw [ByteArray.size_extract]; omega
  go_enter Tryd.func23, Tryd.ntmps23
  go_upto_region 5 with fail
  generalize s.extract 1 s.size = t at *
  have h00 : 0 < t.size ∨ t.size = 0 := by omega
  have htb : t.size ≤ 3000 := by omega
  clear hts
  by_cases hz : t.size = 0
  · have hz1 : ((t.size : Int) == 0) = true := by rw [beq_iff_eq]; omega
    go_wp2
    go_ret2
    exact ⟨RefParsed.no rfl (fun v hv e => by
      obtain ⟨hsg, et⟩ := num_neg v _ (e.trans HS.out)
      have := List.length_pos_iff.2 (dd_ne v.natAbs)
      rw [← et, ba_len] at this
      omega), rfl⟩
  have hz1 : ((t.size : Int) == 0) = false := by rw [beq_eq_false_iff_ne]; omega
  have h0' : 0 < t.size := by omega
  clear h00
  by_cases hten : (10 : Int) < (t.size : Int)
  · go_wp2
    go_ret2
    exact ⟨RefParsed.no rfl (fun v hv e => by
      obtain ⟨hsg, et⟩ := num_neg v _ (e.trans HS.out)
      have := dd_len v.natAbs (by have := hv.1; have := hv.2; omega)
      rw [← et, ba_len] at this
      omega), rfl⟩
  by_cases h48 : t[0].toNat = 48
  · have h481 : ((t[0].toNat : Int) == 48) = true := by rw [beq_iff_eq]; omega
    have h48i : (t[0].toNat : Int) = 48 := by omega
    by_cases h1 : (1 : Int) < (t.size : Int)
    · go_wp2
      go_ret2
      exact ⟨RefParsed.no rfl (fun v hv e => by
        obtain ⟨hsg, et⟩ := num_neg v _ (e.trans HS.out)
        obtain ⟨r, er⟩ := ba_cons t (by omega)
        have := head0 v.natAbs _ r (et.symm.trans er) (by omega)
        omega), rfl⟩
    · go_wp2
      go_ret2
      exact ⟨RefParsed.no rfl (fun v hv e => by
        obtain ⟨hsg, et⟩ := num_neg v _ (e.trans HS.out)
        obtain ⟨r, er⟩ := ba_cons t (by omega)
        have := head0 v.natAbs _ r (et.symm.trans er) (by omega)
        omega), rfl⟩
  · have h481 : ((t[0].toNat : Int) == 48) = false := by rw [beq_eq_false_iff_ne]; omega
    have h48i : ¬ (t[0].toNat : Int) = 48 := by omega
    go_wp2_with fail
    go_loop [6, 7] (fun n i => ∃ k : Nat, k ≤ t.size ∧ i = .int .i64 k ∧ n = .int .i64 (decVal (t.data.toList.take k)) ∧ Hid (∀ c ∈ t.data.toList.take k, digitOk c)) (fun _ i => t.size - (intOf i).toNat)
    case atStart => exact ⟨0, by omega, rfl, rfl, Lib.hid (by simp)⟩
    case round =>
      obtain ⟨k, hk, rfl, rfl, HD⟩ := hrel
      by_cases hlt : k < t.size
      · have hbd := decVal_le _ HD.out (by rw [List.length_take]; omega)
        have HT := Lib.hid (ba_take t k hlt)
        by_cases hd1 : (t[k].toNat : Int) < 48
        · go_wp2
          go_ret2
          exact ⟨RefParsed.no rfl (fun v hv e => by
            obtain ⟨hsg, et⟩ := num_neg v _ (e.trans HS.out)
            have := dd_ok v.natAbs t[k] (by rw [← et]; exact ba_mem t k (by omega))
            obtain ⟨x, y⟩ := this
            omega), rfl⟩
        · by_cases hd2 : (57 : Int) < (t[k].toNat : Int)
          · go_wp2
            go_ret2
            exact ⟨RefParsed.no rfl (fun v hv e => by
              obtain ⟨hsg, et⟩ := num_neg v _ (e.trans HS.out)
              have := dd_ok v.natAbs t[k] (by rw [← et]; exact ba_mem t k (by omega))
              obtain ⟨x, y⟩ := this
              omega), rfl⟩
          · have hdk : digitOk t[k] := ⟨by omega, by omega⟩
            have HDK := Lib.hid hdk
            obtain ⟨hd3, hd4⟩ : (48 : Int) ≤ (t[k].toNat : Int) ∧ (t[k].toNat : Int) ≤ 57 := ⟨by omega, by omega⟩
            obtain ⟨m, hm⟩ : ∃ m : Int, m = (decVal (t.data.toList.take k) : Int) := ⟨_, rfl⟩
            obtain ⟨hm1, hm2⟩ : 0 ≤ m ∧ m ≤ 10000000000 := ⟨by omega, by omega⟩
            rw [← hm]
            have HM := Lib.hid hm
            clear hm hbd hdk
            go_wp2
            go_round
            case rel =>
              refine ⟨k + 1, by omega, by go_num, ?_, ?_⟩
              · rw [HT.out, decVal_snoc]
                have := HM.out
                congr 1
                omega
              · refine Lib.hid ?_
                rw [HT.out]
                intro c hc
                rcases List.mem_append.1 hc with hc | hc
                · exact HD.out c hc
                · rw [List.mem_singleton.1 hc]; exact HDK.out
            case measure => simp [intOf]; omega
      · obtain rfl : k = t.size := by omega
        rw [ba_all t] at HD ⊢
        have hbd := decVal_le _ HD.out (by rw [ba_len]; omega)
        have HP := Lib.hid (plain_of t (by omega) HD.out (.inr h48))
        obtain ⟨m, hm⟩ : ∃ m : Int, m = (decVal t.data.toList : Int) := ⟨_, rfl⟩
        obtain ⟨hm1, hm2⟩ : 0 ≤ m ∧ m ≤ 10000000000 := ⟨by omega, by omega⟩
        rw [← hm]
        have HM := Lib.hid hm
        clear hm hbd
        by_cases hbig : 2147483648 < m
        · go_wp2
          go_ret2
          exact ⟨RefParsed.no rfl (fun v hv e => by
            obtain ⟨hsg, et⟩ := num_neg v _ (e.trans HS.out)
            have hm := dd_val v.natAbs
            rw [← et] at hm
            have hmm := HM.out
            have := hv.1
            have := hv.2
            omega), rfl⟩
        · have hz : m ≠ 0 := by
            intro e
            have hm := HM.out
            have hp := HP.out
            rw [show decVal t.data.toList = 0 from by omega, dd_lt 0 (by omega)] at hp
            obtain ⟨r, er⟩ := ba_cons t (by omega)
            rw [er, List.cons.injEq] at hp
            exact h48 (by rw [← hp.1]; rfl)
          have hsm : ¬ -m < -2147483648 := by omega
          have HF : Hid (inWord (-m) ∧ Lib.itoa (-m) = s.data.toList) := Lib.hid ⟨⟨by omega, by omega⟩, by
            have hm := HM.out
            rw [itoa_neg' (-m) (by omega), HS.out, show (-m).natAbs = decVal t.data.toList from by omega, HP.out]⟩
          go_wp2
          go_ret2
          exact ⟨.inl ⟨-m, rfl, HF.out⟩, rfl⟩

set_option maxHeartbeats 1000000 in
set_option maxRecDepth 100000 in
theorem ref_parse_pos (s : ByteArray) (hs : s.size ≤ 3000) (h0 : 0 < s.size) (h45 : ¬ s[0].toNat = 45) (w : World) :
    Calls Tryd.prog 23 #[.string s] w fun e w' => RefParsed s.data.toList e ∧ w = w' := by
  have HH : Hid (s.data.toList.head? ≠ some 45) := Lib.hid (by
    rw [ba_head s h0]
    intro e
    injection e with e
    rw [e] at h45
    exact h45 rfl)
  have hb : ((s[0].toNat : Int) == 45) = false := by rw [beq_eq_false_iff_ne]; omega
  go_enter Tryd.func23, Tryd.ntmps23
  go_upto_region 5 with fail
  obtain ⟨t, rfl⟩ : ∃ t, t = s := ⟨s, rfl⟩
  have hz1 : ((t.size : Int) == 0) = false := by rw [beq_eq_false_iff_ne]; omega
  by_cases hten : (10 : Int) < (t.size : Int)
  · go_wp2
    go_ret2
    exact ⟨RefParsed.no rfl (fun v hv e => by
      obtain ⟨hsg, et⟩ := num_pos v _ HH.out e
      have := dd_len v.natAbs (by have := hv.1; have := hv.2; omega)
      rw [← et, ba_len] at this
      omega), rfl⟩
  by_cases h48 : t[0].toNat = 48
  · have h481 : ((t[0].toNat : Int) == 48) = true := by rw [beq_iff_eq]; omega
    have h48i : (t[0].toNat : Int) = 48 := by omega
    by_cases h1 : (1 : Int) < (t.size : Int)
    · go_wp2
      go_ret2
      exact ⟨RefParsed.no rfl (fun v hv e => by
        obtain ⟨hsg, et⟩ := num_pos v _ HH.out e
        obtain ⟨r, er⟩ := ba_cons t (by omega)
        obtain ⟨hr, _⟩ := head0 v.natAbs _ r (et.symm.trans er) (by omega)
        have hl := congrArg List.length er
        rw [hr, ba_len] at hl
        simp at hl
        omega), rfl⟩
    · have HONE : Hid (t.size = 1) := Lib.hid (by omega)
      go_wp2_with fail
      go_loop [6, 7] (fun n i => ∃ k : Nat, k ≤ t.size ∧ i = .int .i64 k ∧ n = .int .i64 (decVal (t.data.toList.take k)) ∧ Hid (∀ c ∈ t.data.toList.take k, digitOk c)) (fun _ i => t.size - (intOf i).toNat)
      case atStart => exact ⟨0, by omega, rfl, rfl, Lib.hid (by simp)⟩
      case round =>
        obtain ⟨k, hk, rfl, rfl, HD⟩ := hrel
        by_cases hlt : k < t.size
        · have hbd := decVal_le _ HD.out (by rw [List.length_take]; omega)
          have HT := Lib.hid (ba_take t k hlt)
          by_cases hd1 : (t[k].toNat : Int) < 48
          · go_wp2
            go_ret2
            exact ⟨RefParsed.no rfl (fun v hv e => by
              obtain ⟨hsg, et⟩ := num_pos v _ HH.out e
              have := dd_ok v.natAbs t[k] (by rw [← et]; exact ba_mem t k (by omega))
              obtain ⟨x, y⟩ := this
              omega), rfl⟩
          · by_cases hd2 : (57 : Int) < (t[k].toNat : Int)
            · go_wp2
              go_ret2
              exact ⟨RefParsed.no rfl (fun v hv e => by
                obtain ⟨hsg, et⟩ := num_pos v _ HH.out e
                have := dd_ok v.natAbs t[k] (by rw [← et]; exact ba_mem t k (by omega))
                obtain ⟨x, y⟩ := this
                omega), rfl⟩
            · have hdk : digitOk t[k] := ⟨by omega, by omega⟩
              have HDK := Lib.hid hdk
              obtain ⟨hd3, hd4⟩ : (48 : Int) ≤ (t[k].toNat : Int) ∧ (t[k].toNat : Int) ≤ 57 := ⟨by omega, by omega⟩
              obtain ⟨m, hm⟩ : ∃ m : Int, m = (decVal (t.data.toList.take k) : Int) := ⟨_, rfl⟩
              obtain ⟨hm1, hm2⟩ : 0 ≤ m ∧ m ≤ 10000000000 := ⟨by omega, by omega⟩
              rw [← hm]
              have HM := Lib.hid hm
              clear hm hbd hdk
              go_wp2
              go_round
              case rel =>
                refine ⟨k + 1, by omega, by go_num, ?_, ?_⟩
                · rw [HT.out, decVal_snoc]
                  have := HM.out
                  congr 1
                  omega
                · refine Lib.hid ?_
                  rw [HT.out]
                  intro c hc
                  rcases List.mem_append.1 hc with hc | hc
                  · exact HD.out c hc
                  · rw [List.mem_singleton.1 hc]; exact HDK.out
              case measure => simp [intOf]; omega
        · obtain rfl : k = t.size := by omega
          rw [ba_all t] at HD ⊢
          have hbd := decVal_le _ HD.out (by rw [ba_len]; omega)
          have HP := Lib.hid (plain_of t (by omega) HD.out (.inl HONE.out))
          obtain ⟨m, hm⟩ : ∃ m : Int, m = (decVal t.data.toList : Int) := ⟨_, rfl⟩
          obtain ⟨hm1, hm2⟩ : 0 ≤ m ∧ m ≤ 10000000000 := ⟨by omega, by omega⟩
          rw [← hm]
          have HM := Lib.hid hm
          clear hm hbd
          by_cases hbig : 2147483647 < m
          · go_wp2
            go_ret2
            exact ⟨RefParsed.no rfl (fun v hv e => by
              obtain ⟨hsg, et⟩ := num_pos v _ HH.out e
              have hm := dd_val v.natAbs
              rw [← et] at hm
              have hmm := HM.out
              have := hv.1
              have := hv.2
              omega), rfl⟩
          · have hsm : ¬ m < -2147483648 := by omega
            have HF : Hid (inWord m ∧ Lib.itoa m = t.data.toList) := Lib.hid ⟨⟨by omega, by omega⟩, by
              have hm := HM.out
              rw [itoa_pos m hm1, show m.toNat = decVal t.data.toList from by omega, HP.out]⟩
            go_wp2
            go_ret2
            exact ⟨.inl ⟨m, rfl, HF.out⟩, rfl⟩
  · have h481 : ((t[0].toNat : Int) == 48) = false := by rw [beq_eq_false_iff_ne]; omega
    have h48i : ¬ (t[0].toNat : Int) = 48 := by omega
    go_wp2_with fail
    go_loop [6, 7] (fun n i => ∃ k : Nat, k ≤ t.size ∧ i = .int .i64 k ∧ n = .int .i64 (decVal (t.data.toList.take k)) ∧ Hid (∀ c ∈ t.data.toList.take k, digitOk c)) (fun _ i => t.size - (intOf i).toNat)
    case atStart => exact ⟨0, by omega, rfl, rfl, Lib.hid (by simp)⟩
    case round =>
      obtain ⟨k, hk, rfl, rfl, HD⟩ := hrel
      by_cases hlt : k < t.size
      · have hbd := decVal_le _ HD.out (by rw [List.length_take]; omega)
        have HT := Lib.hid (ba_take t k hlt)
        by_cases hd1 : (t[k].toNat : Int) < 48
        · go_wp2
          go_ret2
          exact ⟨RefParsed.no rfl (fun v hv e => by
            obtain ⟨hsg, et⟩ := num_pos v _ HH.out e
            have := dd_ok v.natAbs t[k] (by rw [← et]; exact ba_mem t k (by omega))
            obtain ⟨x, y⟩ := this
            omega), rfl⟩
        · by_cases hd2 : (57 : Int) < (t[k].toNat : Int)
          · go_wp2
            go_ret2
            exact ⟨RefParsed.no rfl (fun v hv e => by
              obtain ⟨hsg, et⟩ := num_pos v _ HH.out e
              have := dd_ok v.natAbs t[k] (by rw [← et]; exact ba_mem t k (by omega))
              obtain ⟨x, y⟩ := this
              omega), rfl⟩
          · have hdk : digitOk t[k] := ⟨by omega, by omega⟩
            have HDK := Lib.hid hdk
            obtain ⟨hd3, hd4⟩ : (48 : Int) ≤ (t[k].toNat : Int) ∧ (t[k].toNat : Int) ≤ 57 := ⟨by omega, by omega⟩
            obtain ⟨m, hm⟩ : ∃ m : Int, m = (decVal (t.data.toList.take k) : Int) := ⟨_, rfl⟩
            obtain ⟨hm1, hm2⟩ : 0 ≤ m ∧ m ≤ 10000000000 := ⟨by omega, by omega⟩
            rw [← hm]
            have HM := Lib.hid hm
            clear hm hbd hdk
            go_wp2
            go_round
            case rel =>
              refine ⟨k + 1, by omega, by go_num, ?_, ?_⟩
              · rw [HT.out, decVal_snoc]
                have := HM.out
                congr 1
                omega
              · refine Lib.hid ?_
                rw [HT.out]
                intro c hc
                rcases List.mem_append.1 hc with hc | hc
                · exact HD.out c hc
                · rw [List.mem_singleton.1 hc]; exact HDK.out
            case measure => simp [intOf]; omega
      · obtain rfl : k = t.size := by omega
        rw [ba_all t] at HD ⊢
        have hbd := decVal_le _ HD.out (by rw [ba_len]; omega)
        have HP := Lib.hid (plain_of t (by omega) HD.out (.inr h48))
        obtain ⟨m, hm⟩ : ∃ m : Int, m = (decVal t.data.toList : Int) := ⟨_, rfl⟩
        obtain ⟨hm1, hm2⟩ : 0 ≤ m ∧ m ≤ 10000000000 := ⟨by omega, by omega⟩
        rw [← hm]
        have HM := Lib.hid hm
        clear hm hbd
        by_cases hbig : 2147483647 < m
        · go_wp2
          go_ret2
          exact ⟨RefParsed.no rfl (fun v hv e => by
            obtain ⟨hsg, et⟩ := num_pos v _ HH.out e
            have hm := dd_val v.natAbs
            rw [← et] at hm
            have hmm := HM.out
            have := hv.1
            have := hv.2
            omega), rfl⟩
        · have hsm : ¬ m < -2147483648 := by omega
          have HF : Hid (inWord m ∧ Lib.itoa m = t.data.toList) := Lib.hid ⟨⟨by omega, by omega⟩, by
            have hm := HM.out
            rw [itoa_pos m hm1, show m.toNat = decVal t.data.toList from by omega, HP.out]⟩
          go_wp2
          go_ret2
          exact ⟨.inl ⟨m, rfl, HF.out⟩, rfl⟩

theorem ref_parse (s : ByteArray) (hs : s.size ≤ 3000) (w : World) :
    Calls Tryd.prog 23 #[.string s] w fun e w' => RefParsed s.data.toList e ∧ w = w' := by
  by_cases h0 : 0 < s.size
  · by_cases h45 : s[0].toNat = 45
    · exact ref_parse_neg s hs h0 h45 w
    · exact ref_parse_pos s hs h0 h45 w
  · have e0 : s = ByteArray.empty := by
      apply ByteArray.ext
      exact Array.eq_empty_of_size_eq_zero (by have : s.data.size = s.size := rfl; omega)
    subst e0
    go_enter Tryd.func23, Tryd.ntmps23
    go_wp2
    go_ret2
    exact ⟨RefParsed.no rfl (fun v _ e => by
      have hne : Lib.itoa v ≠ [] := by
        by_cases h : 0 ≤ v
        · rw [itoa_pos v h]; exact dd_ne _
        · rw [itoa_neg' v (by omega)]; simp
      exact hne e), rfl⟩
end Go.Proofs.YthgkkgjnealkbaaDoor
