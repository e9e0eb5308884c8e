/-
  What SetsRows leans on: From of a row, the document's Drop, a map of texts that stands beside a row.
-/
import Derived.Test.YthijggnpkomdcaaRIQ
import Derived.Test.YthijggnpkomdcaaRIE
import Derived.Test.YthijggnpkomdcaaRg
import Derived.Test.YthijggnpkomdcaaLv
import Derived.Maps.StringElems
namespace Go.Proofs.Ythijggnpkomdcaa
open Go.RowKit Go.Shelf
attribute [local go_sem] Oper.semAt_some
set_option linter.unusedVariables false
set_option maxRecDepth 100000

/-- A line without its first elements. -/
theorem SLine.tail {s : Nat} {w : World} {g off n c : Nat} {xs : List Value} (h : SLine s w (some ⟨g, off, none⟩) n c xs) (i : Nat) (hi : i ≤ n) (A' : Option Addr) (hA' : A' = if c = i then some ⟨g, off, none⟩ else some ⟨g, off + i * s, none⟩) : SLine s w A' (n - i) (c - i) (xs.drop (i * s)) := by
  have h1 := h.1
  have h2 := h.2.1
  have h3 := h.2.2.1
  obtain ⟨_, _, e, hg, hc, hf⟩ := h.2.2.2.2 _ rfl
  cases e
  have hms : (n - i) * s = n * s - i * s := Nat.sub_mul ..
  have hcs : (c - i) * s = c * s - i * s := Nat.sub_mul ..
  refine ⟨by rw [List.length_drop]; omega, by omega, by omega, fun e => ?_, fun ad e => ?_⟩
  · rw [hA'] at e
    split at e <;> cases e
  · rw [hA'] at e
    split at e
    · next hci =>
      cases e
      have h0 : (n - i) * s = 0 := by rw [show n - i = 0 from by omega, Nat.zero_mul]
      have h4 : (c - i) * s = 0 := by rw [show c - i = 0 from by omega, Nat.zero_mul]
      exact ⟨g, off, rfl, hg, fun j hj => by omega, fun j hj => by omega⟩
    · cases e
      refine ⟨g, off + i * s, rfl, hg, fun j hj => ?_, fun j hj => ?_⟩
      · rw [Nat.add_assoc, hc (i * s + j) (by omega), List.getElem?_drop]
      · rw [Nat.add_assoc]
        exact hf (i * s + j) (by omega)
def tailA (A : Option Addr) (c i : Nat) : Option Addr := match A with | none => none | some a => if c = i then some a else some ⟨a.block, a.off + i * 2, none⟩
theorem RowG.tail {w : World} {A : Option Addr} {n c : Nat} {ps : List (Int × Value)} (h : RowG encI ltI w A n c ps) (i : Nat) (hi : i ≤ n) (A' : Option Addr) (hA' : A' = tailA A c i) : RowG encI ltI w A' (n - i) (c - i) (ps.drop i) := by
  have hl := h.len
  have hr : Rises ltI (ps.drop i) := List.Pairwise.sublist (List.drop_sublist i ps) h.rises
  have h1 : ∀ p ∈ ps.drop i, p.2.oneCell' = true := fun p hp => h.one p (List.mem_of_mem_drop hp)
  cases A with
  | none =>
    have hc := h.line.2.2.2.1 rfl
    have hn := h.line.2.1
    obtain rfl : n = 0 := by omega
    obtain rfl : i = 0 := by omega
    subst hc
    subst hA'
    exact ⟨by simpa [tailA] using h.line, hr, h1⟩
  | some a =>
    obtain ⟨g, off, rfl, _⟩ := h.line.2.2.2.2 a rfl
    refine ⟨?_, hr, h1⟩
    rw [(cellsP_split encI ps i (by omega)).2]
    exact h.line.tail i hi A' hA'
theorem spot_rest {ps : List (Int × Value)} {k : Int} {i : Nat} (h : Spot ltI ps k i) : ps.filter (fun p => !ltI p.1 k) = ps.drop i := by
  conv => lhs; rw [← List.take_append_drop i ps]
  rw [List.filter_append, List.filter_eq_nil_iff.2 (fun x hx => by obtain ⟨j, h1, h2⟩ := mem_take_at hx; rw [h.2.1 j x h1 h2]; simp), List.nil_append]
  exact List.filter_eq_self.2 (fun x hx => by obtain ⟨j, h1, h2⟩ := mem_drop_at hx; rw [h.2.2 j x h1 h2]; rfl)
theorem rfrom (w : World) (p : Option Addr) (k : Int) :
    Calls Try.prog 17 #[.pointer p, .int .i64 k] w fun e w' => e = .returned (.func (.func 54) #[] #[.pointer (some ⟨w.heap.size, 0, none⟩), .pointer (some ⟨w.heap.size + 1, 0, none⟩)]) ∧ w' = (w.alloc (.cells #[.pointer p] 94)).alloc (.cells #[.int .i64 k] 3) := by
  have hmf : ∀ (fn : Fn) (first cap : Array Value) (w : World), (Instr.makeFunc fn first cap).run Try.prog w = .ok (.func fn first cap) w := fun _ _ _ _ => rfl
  go_enter Try.func17, Try.ntmps17
  go_wp2
  go_ret
  exact ⟨rfl, rfl⟩
set_option maxHeartbeats 2000000 in
set_option maxRecDepth 100000 in
theorem from1_I (w : World) (Bx Bk q o : Nat) (A : Option Addr) (m c : Nat) (ps : List (Int × Value)) (k : Int) (hbx : w.cell? ⟨Bx, 0, none⟩ = some (.pointer (some ⟨q, o, none⟩))) (hbk : w.cell? ⟨Bk, 0, none⟩ = some (.int .i64 k)) (hP : RowAtI w q o A m c ps) (hm : m ≤ 1000000) (hsh : ∀ p ∈ ps, ∃ s : ByteArray, p.2 = .string s) :
    IterOk Try.prog 54 #[.pointer (some ⟨Bx, 0, none⟩), .pointer (some ⟨Bk, 0, none⟩)] arI 2 (ps.filter (fun p => !ltI p.1 k)) w := by
  intro n hn l J Jx hJ h0 hY
  have HF := Lib.hid (rfind_I w q o A m c ps hP k hm)
  have hn1 : 1 ≤ n := by omega
  have hbw := World.block_lt_of_cell? w _ hbx
  have hbw2 := World.block_lt_of_cell? w _ hbk
  have HP := Lib.hid hP
  have HJ := Lib.hid hJ
  have H0 := Lib.hid h0
  have HY := Lib.hid hY
  have HSH := Lib.hid hsh
  have hmc := hP.row.line.2.1
  have hc63 : c ≤ 9223372036854775807 := by have := hP.row.line.2.2.1; unfold maxLen at this; omega
  have hnone : A = none → c = 0 := hP.row.line.2.2.2.1
  have HSM : Hid (∀ a, A = some a → ∃ g off, a = ⟨g, off, none⟩) := Lib.hid (fun a e => by obtain ⟨g, off, e2, _⟩ := hP.row.line.2.2.2.2 a e; exact ⟨g, off, e2⟩)
  clear hP hJ h0 hY hsh
  simp only [List.append_toArray, List.cons_append, List.nil_append]
  refine callsIn_of_wp Try.func54 rfl trivial ?_ rfl
  simp only [Try.ntmps54, List.size_toArray, List.length_cons, List.length_nil, Nat.reduceAdd, Nat.reduceSub, Array.replicate_succ, Array.replicate_zero, List.push_toArray, List.append_toArray, List.nil_append, List.cons_append]
  gi_wp2_with fail
  refine ⟨trivial, ?_⟩
  refine (callsIn_wide.2 HF.out).mono ?_
  rintro e w1 ⟨⟨i, hs, rfl⟩, hb⟩
  have HSP := Lib.hid hs
  have HB := Lib.hid hb
  have hl := HP.out.row.len
  have him : i ≤ m := by have := hs.1; omega
  have hP1 : RowAtI w1 q o A m c ps := ⟨(hb.cell (p := ⟨q, o, none⟩) (World.block_lt_of_cell? w _ HP.out.cell)).trans HP.out.cell, HP.out.row.below hb⟩
  have hbx1 := (hb.cell (p := ⟨Bx, 0, none⟩) hbw).trans hbx
  have HH := Lib.hid (rheld_I w1 q o _ hP1.cell)
  have HT : Hid (∀ A' x y, A' = tailA A c i → x = m - i → y = c - i → CallsIn Fence.wide (n - 1) Try.prog 53 #[.slice A' x y, .func (.yield l) #[] #[]] w1 fun e W' => (∃ v, e = .returned v) ∧ ∃ C, w.heap.size ≤ C ∧ (J C (ps.filter (fun p => !ltI p.1 k)) W' ∨ ∃ pre, pre <+: ps.filter (fun p => !ltI p.1 k) ∧ Jx C pre W')) := Lib.hid (fun A' x y hA' hx hy => by
    subst hx hy
    rw [spot_rest hs]
    have := tell_I (n - 1) (by omega) l A' (m - i) (c - i) (ps.drop i) w1 (hP1.row.tail i him A' hA') (by omega) (fun p hp => HSH.out p (List.mem_of_mem_drop hp)) J Jx HJ.out (fun C W2 hC hb2 => H0.out C W2 (Nat.le_trans hb.size hC) (hb.trans (hb2.mono hb.size))) ?_
    · refine this.mono ?_
      rintro e W' ⟨hv, C, hC, hX⟩
      exact ⟨hv, C, Nat.le_trans hb.size hC, hX⟩
    · rw [show n - 1 - 1 = n - 2 from by omega]
      intro C pre x W2 hC hlt hj hp
      refine HY.out C pre x W2 (Nat.le_trans hb.size hC) hlt hj ?_
      rw [spot_rest hs]
      exact hp)
  have hi0 : (i : Int) ≤ (m : Int) := by omega
  have hic : i ≤ c := by omega
  clear hs hb hP1 hl HF HJ H0 HY
  rcases A with _ | a
  · have h0 := hnone rfl
    obtain rfl : i = 0 := by omega
    obtain rfl : c = 0 := by omega
    obtain rfl : m = 0 := by omega
    have HT2 := Lib.hid (HT.out none 0 0 rfl rfl rfl)
    gi_wp2_with (first
      | (refine ⟨trivial, ?_⟩; gi_at_call 51; refine (callsIn_wide.2 HH.out).mono ?_; rintro e w' ⟨rfl, rfl⟩)
      | (refine ⟨trivial, ?_⟩; gi_at_call 53; with_reducible refine HT2.out.mono ?_; rintro e w1 ⟨⟨v, rfl⟩, hX⟩; have HX := Lib.hid hX; clear hX))
    go_end0
    exact ⟨⟨_, rfl⟩, HX.out⟩
  · obtain ⟨g, off, rfl⟩ := HSM.out a rfl
    by_cases hci : c = i
    · subst hci
      obtain rfl : m = c := by omega
      have HT2 := Lib.hid (HT.out (some ⟨g, off, none⟩) 0 0 (by simp [tailA]) (by omega) (by omega))
      gi_wp2_with (first
        | (refine ⟨trivial, ?_⟩; gi_at_call 51; refine (callsIn_wide.2 HH.out).mono ?_; rintro e w' ⟨rfl, rfl⟩)
        | (refine ⟨trivial, ?_⟩; gi_at_call 53; with_reducible refine HT2.out.mono ?_; rintro e w1 ⟨⟨v, rfl⟩, hX⟩; have HX := Lib.hid hX; clear hX))
      go_end0
      exact ⟨⟨_, rfl⟩, HX.out⟩
    · have HT2 := Lib.hid (HT.out (some ⟨g, off + i * 2, none⟩) (m - i) (c - i) (by simp [tailA, hci]) rfl rfl)
      gi_wp2_with (first
        | (refine ⟨trivial, ?_⟩; gi_at_call 51; refine (callsIn_wide.2 HH.out).mono ?_; rintro e w' ⟨rfl, rfl⟩)
        | (refine ⟨trivial, ?_⟩; gi_at_call 53; with_reducible refine HT2.out.mono ?_; rintro e w1 ⟨⟨v, rfl⟩, hX⟩; have HX := Lib.hid hX; clear hX))
      go_end0
      exact ⟨⟨_, rfl⟩, HX.out⟩
set_option maxHeartbeats 400000 in
set_option maxRecDepth 100000 in
/-- The document's Drop, of a line that may be written. -/
theorem rdrop_line (w : World) (A : Option Addr) (n c : Nat) (zs : List Int) (hA : LineAt w A n c (cellsI zs)) (hn : n ≤ 100000) (x : Int) :
    Calls Try.prog 13 #[.slice A n c, .int .i64 x] w fun e w' => (∃ A' c', e = .returned (.slice A' (dropL zs x).length c') ∧ LineAt w' A' (dropL zs x).length c' (cellsI (dropL zs x)) ∧ ∀ j ∈ blk A', w.heap.size ≤ j) ∧ Below w.heap.size w w' := by
  have hlen : zs.length = n := by have := hA.1; rwa [cellsI_length] at this
  have HA := Lib.hid hA
  have HLEN := Lib.hid hlen
  clear hA hlen
  go_enter Try.func13, Try.ntmps13
  go_wp2
  go_loopw [5, 10] (fun v i wr => ∃ (k : Nat) (A1 : Option Addr) (q c1 : Nat), k ≤ n ∧ i = .int .i64 k ∧ v = .slice A1 q c1 ∧ LineAt wr A1 q c1 (cellsI (dropL (zs.take k) x)) ∧ (∀ j ∈ blk A1, w.heap.size ≤ j) ∧ Below w.heap.size w wr) (fun _ i _ => n - (intOf i).toNat)
  case atStart => exact ⟨0, none, 0, 0, by omega, rfl, rfl, LineAt.nil _, (fun j hj => by cases hj), Below.refl _ _⟩
  case round =>
    obtain ⟨k, A1, q, c1, hk, rfl, rfl, hO, hj, hB⟩ := hrel
    have hsz := hB.size
    have HO := Lib.hid hO
    have HB := Lib.hid hB
    have HJ := Lib.hid hj
    clear hO hB hj
    rcases Nat.lt_or_ge k n with hkn | hkn
    · obtain ⟨b, off, rfl, hb, hcs0, _⟩ := HA.out.at (by omega)
      have hkl : k < zs.length := by rw [HLEN.out]; exact hkn
      have hck : wr.cell? ⟨b, off + k, none⟩ = some (.int .i64 (zs.getD k 0)) := by
        refine (HB.out.cell (p := ⟨b, off + k, none⟩) hb).trans ((hcs0 k hkn).trans ?_)
        simp [cellsI, List.getD, hkl]
      have hkn' : (k : Int) < (n : Int) := by omega
      have hq : q ≤ 1000000 := by
        have h1 := filter_len zs (fun z => decide (z ≠ x)) k
        have h2 := HO.out.1
        rw [cellsI_length] at h2
        unfold dropL at h2
        omega
      have EY : Hid (zs.getD k 0 ≠ x → dropL (zs.take (k + 1)) x = dropL (zs.take k) x ++ [zs.getD k 0]) := Lib.hid (fun e => filter_take_yes _ hkl (decide_eq_true e))
      have EN : Hid (zs.getD k 0 = x → dropL (zs.take (k + 1)) x = dropL (zs.take k) x) := Lib.hid (fun e => filter_take_no _ hkl (decide_eq_false (fun h => h e)))
      clear hcs0 hkl
      generalize zs.getD k 0 = z at *
      by_cases e : z = x
      · subst e
        have HE := Lib.hid (EN.out rfl)
        have hb : (z != z) = false := by simp
        go_wp2
        go_roundw
        case rel => exact ⟨k + 1, A1, q, c1, by omega, by go_num, rfl, by rw [HE.out]; exact HO.out, HJ.out, HB.out⟩
        case measure => simp [intOf]; omega
      · have hb : (z != x) = true := by simpa using e
        have HE := Lib.hid (EY.out e)
        obtain ⟨A2, c2, w1, hr, h2, h3, h4⟩ := line_push wr 26 3 26 (.int .i64 0) 8 Try.underlying26 info_int rfl (by decide) A1 q c1 _ HO.out (fun u hu => by obtain ⟨y, _, rfl⟩ := List.mem_map.1 hu; rfl) hq (.int .i64 z) rfl
        have HR := Lib.hid hr
        have H2 := Lib.hid h2
        have H3 := Lib.hid (HB.out.trans (h3.toBelow HJ.out hsz))
        have H4 : Hid (∀ j ∈ blk A2, w.heap.size ≤ j) := Lib.hid (fun j hj => by rcases h4 j hj with h5 | h5; exact HJ.out j h5; omega)
        clear e hr h2 h3 h4
        go_wp2_with (at_builtin; refine Lib.wpList_append_run _ rfl _ _ _ _ rfl _ _ rfl rfl _ _ HR.out ?_)
        go_roundw
        case rel => exact ⟨k + 1, A2, q + 1, c2, by omega, by go_num, rfl, by rw [HE.out, cellsI_append]; exact H2.out, H4.out, H3.out⟩
        case measure => simp [intOf]; omega
    · obtain rfl : k = n := by omega
      have HX : Hid ((∃ A' c', (Ending.returned (.slice A1 q c1)) = .returned (.slice A' (dropL zs x).length c') ∧ LineAt wr A' (dropL zs x).length c' (cellsI (dropL zs x)) ∧ ∀ j ∈ blk A', w.heap.size ≤ j) ∧ Below w.heap.size w wr) := by
        have h1 := HO.out
        rw [List.take_of_length_le (by rw [HLEN.out]; exact Nat.le_refl _)] at h1
        obtain rfl : (dropL zs x).length = q := by have := h1.1; rwa [cellsI_length] at this
        exact Lib.hid ⟨⟨A1, c1, rfl, h1, HJ.out⟩, HB.out⟩
      go_wp2
      go_ret
      exact HX.out
/-- The map in block m, of at most k entries, says what the row ps says. -/
def MapS (w : World) (m k : Nat) (ps : List (Int × Value)) : Prop :=
  ∃ D : DataW Unit, w.ownsMap Try.prog 3 (plainElem Try.prog 9) m k D ∧ ∀ x, FitsI x → Maps.has D (keyI x) = hasP ltI ps x ∧ ∀ s, lookP ltI ps x = some (.string s) → D.atKey (keyI x) (.lit (.string [])) = .lit (.string s.data.toList)
theorem zeroTx (w : World) : (zeroValue 9).run Try.prog w = .ok (.string ⟨#[]⟩) w := by kernel_rfl
section
variable {w w' : World} {m k : Nat} {ps : List (Int × Value)}
theorem MapS.lt (h : MapS w m k ps) : m < w.heap.size := by
  obtain ⟨D, ho, _⟩ := h
  exact ho.lt
theorem MapS.same (h : MapS w m k ps) (hb : w'.heap[m]? = w.heap[m]?) : MapS w' m k ps := by
  obtain ⟨D, ⟨es, clock, h1, r⟩, hh⟩ := h
  exact ⟨D, ⟨es, clock, hb.trans h1, r⟩, hh⟩
theorem MapS.made (w : World) : MapS (w.alloc (.map #[] 0)) w.heap.size 0 [] :=
  ⟨.map [], World.ownsMap_made w _ _ _, fun x hx => ⟨rfl, fun s hs => by cases hs⟩⟩
/-- 'v, ok := m[x]'. -/
theorem MapS.look (h : MapS w m k ps) (hsh : ∀ p ∈ ps, ∃ s : ByteArray, p.2 = .string s) (hr : Rises ltI ps) (x : Int) (hx : FitsI x) :
    (Instr.lookup 27 (.map (some m)) (.int .i64 x) true).run Try.prog w = .ok (.tuple #[(lookP ltI ps x).getD (.string ⟨#[]⟩), .bool (hasP ltI ps x)]) w := by
  obtain ⟨D, ho, hh⟩ := h
  obtain ⟨hhas, hat⟩ := hh x hx
  obtain ⟨v, pl, hrun, hv⟩ := ho.look_ok lawI Try.underlying27 (zeroTx w) (zd := .lit (.string [])) (zp := []) (plainElem_string Try.underlying9 (by unfold maxLen; decide)) (keyOfI hx)
  rw [hhas] at hrun
  rw [hrun]
  obtain ⟨s, rfl, hs, _⟩ := plainElem_string_inv Try.underlying9 hv
  simp only [Prod.mk.injEq] at hs
  have e : (lookP ltI ps x).getD (.string ⟨#[]⟩) = .string s := by
    cases hl : lookP ltI ps x with
    | none =>
      have hno : Maps.has D (keyI x) = false := by rw [hhas]; unfold hasP; rw [hl]; rfl
      have := hs.1
      rw [Maps.atKey_of_not_has hno] at this
      injection this with this
      injection this with this
      have e2 : s = ⟨#[]⟩ := by
        cases s
        congr 1
        apply Array.ext'
        exact this.symm
      rw [e2]
      rfl
    | some u =>
      obtain ⟨t, ht⟩ := hsh _ ((look_some orders_I hr).1 hl)
      simp only at ht
      subst ht
      have h1 := hat t hl
      rw [hs.1] at h1
      injection h1 with h1
      injection h1 with h1
      have e2 : s = t := by
        cases s; cases t
        congr 1
        exact Array.ext' h1
      rw [e2]
      rfl
  rw [e]
/-- 'm[x] = s'. -/
theorem MapS.put (h : MapS w m k ps) (hr : Rises ltI ps) (hk : k ≤ 100000) (x : Int) (hx : FitsI x) (s : ByteArray) (hs : s.size ≤ maxLen) :
    ∃ w', (Instr.mapUpdate 27 (.map (some m)) (.int .i64 x) (.string s)).run Try.prog w = .ok () w' ∧ MapS w' m (k + 1) (putP ltI ps x (.string s)) ∧ w.grownBy w' (some m) := by
  obtain ⟨D, ho, hh⟩ := h
  obtain ⟨w', hrun, h1, h2⟩ := ho.update lawI Try.underlying27 (by unfold maxLen; omega) (keyOfI hx) (plainElem_string Try.underlying9 hs)
  refine ⟨w', hrun, ⟨_, h1, fun y hy => ?_⟩, h2⟩
  obtain ⟨hhas, hat⟩ := hh y hy
  have hlp := look_put orders_I hr (.string s) (k := x) y
  by_cases e : y = x
  · subst e
    rw [if_pos rfl] at hlp
    refine ⟨by rw [Maps.has_put_same ho.isMap (by exact trivial)]; unfold hasP; rw [hlp]; rfl, fun t ht => ?_⟩
    rw [hlp] at ht
    cases ht
    rw [Maps.atKey_put_same ho.isMap (by exact trivial)]
  · rw [if_neg e] at hlp
    refine ⟨by rw [Maps.has_put_other (fun e' => e (key_injI e')), hhas]; unfold hasP; rw [hlp], fun t ht => ?_⟩
    rw [hlp] at ht
    rw [Maps.atKey_put_other (fun e' => e (key_injI e'))]
    exact hat t ht
/-- 'delete(m, x)'. -/
theorem MapS.drop (h : MapS w m k ps) (hr : Rises ltI ps) (x : Int) (hx : FitsI x) (ty : TypeId) :
    ∃ w', (Builtin.delete_ #[27, 3] ty #[.map (some m), .int .i64 x]).run Try.prog w = .ok (.tuple #[]) w' ∧ MapS w' m k (dropP ltI ps x) ∧ w.grownBy w' (some m) := by
  obtain ⟨D, ho, hh⟩ := h
  obtain ⟨w', hrun, h1, h2⟩ := ho.drop lawI Try.underlying27 (keyOfI hx) ty
  refine ⟨w', hrun, ⟨_, h1, fun y hy => ?_⟩, h2.grown⟩
  obtain ⟨hhas, hat⟩ := hh y hy
  have hlp := look_drop orders_I hr (k := x) y
  by_cases e : y = x
  · subst e
    rw [if_pos rfl] at hlp
    refine ⟨by rw [Maps.has_del_same]; unfold hasP; rw [hlp]; rfl, fun t ht => ?_⟩
    rw [hlp] at ht
    cases ht
  · rw [if_neg e] at hlp
    refine ⟨by rw [Maps.has_del_other (fun e' => e (key_injI e')), hhas]; unfold hasP; rw [hlp], fun t ht => ?_⟩
    rw [hlp] at ht
    rw [Maps.atKey_del_other (fun e' => e (key_injI e'))]
    exact hat t ht
end
end Go.Proofs.Ythijggnpkomdcaa
