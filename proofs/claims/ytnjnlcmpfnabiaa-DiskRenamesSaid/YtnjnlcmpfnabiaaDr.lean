/-
  The contract of the disk's forget$1: whether a file is none of the numbers in a map.
-/
import Derived.Test.YtnjnlcmpfnabiaaDq
import Derived.Maps.OwnSet
import Derived.Maps.Views
namespace Go.Proofs.Ytnjnlcmpfnabiaa
open Go.RowKit Go.Maps
set_option linter.unusedVariables false
set_option maxRecDepth 100000

theorem keyI : Keyed Try.prog 3 := int_keyed Try.underlying3
theorem zeroU (w : World) : (zeroValue 128).run Try.prog w = .ok (.agg #[]) w := by kernel_rfl
def litsN (S : List Nat) : List Lit := S.map fun (n : Nat) => Lit.int .i64 (n : Int)
theorem lits_key (S : List Nat) : ∀ x ∈ litsN S, WideAt.IsKeyLit x := by
  intro x hx
  obtain ⟨n, _, rfl⟩ := List.mem_map.1 hx
  trivial
theorem has_lits (S : List Nat) (n : Nat) : Maps.has (setOf (H := Unit) (.agg []) (litsN S)) (.int .i64 (n : Int)) = decide (n ∈ S) := by
  rw [has_setOf _ _ _ (lits_key S)]
  unfold litsN
  rw [List.any_map]
  induction S with
  | nil => simp
  | cons a S ih =>
    rw [List.any_cons, ih]
    have : (Lit.int .i64 (a : Int)).sameKey (.int .i64 (n : Int)) = decide (n = a) := by
      simp only [Lit.sameKey]
      by_cases h : n = a
      · subst h; simp
      · have : ¬ (a : Int) = (n : Int) := by omega
        simp [h, this]
    simp only [Function.comp, this, List.mem_cons]
    by_cases h : n = a <;> simp [h]
theorem keyOf_num (n : Nat) (h : n ≤ 9000000) : keyOf Try.prog 3 (.int .i64 (n : Int)) = some (.int .i64 (n : Int)) := keyOf_int_mk Try.underlying3 (WalkArith.wf_i64 (by omega))
/-- The map in block M holds the numbers S. -/
def NumsAt (w : World) (M : Nat) (S : List Nat) : Prop := w.ownsMap Try.prog 3 (unitElem (H := Unit)) M S.length (setOf (.agg []) (litsN S))
theorem NumsAt.below {w w' : World} {M : Nat} {S : List Nat} (h : NumsAt w M S) (hb : w'.heap[M]? = w.heap[M]?) : NumsAt w' M S := by
  obtain ⟨es, clock, h1, h2⟩ := h
  exact ⟨es, clock, hb.trans h1, h2⟩
theorem NumsAt.lt {w : World} {M : Nat} {S : List Nat} (h : NumsAt w M S) : M < w.heap.size := World.ownsMap.lt h
theorem NumsAt.new (w : World) : NumsAt (w.alloc (.map #[] 0)) w.heap.size [] := World.ownsMap_made _ _ _ _
/-- One number more. -/
theorem NumsAt.put {w : World} {M : Nat} {S : List Nat} (h : NumsAt w M S) (n : Nat) (hn : n ≤ 9000000) (hS : S.length ≤ 1000000) :
    ∃ w', (Instr.mapUpdate 127 (.map (some M)) (.int .i64 (n : Int)) (.agg #[])).run Try.prog w = .ok () w' ∧ NumsAt w' M (S ++ [n]) ∧ Chg [M] w w' := by
  obtain ⟨w', h1, h2, h3⟩ := World.ownsMap.update (P := Try.prog) h keyI Try.underlying127 (by unfold maxLen; omega) (keyOf_num n hn) (unitElem_mk (H := Unit))
  refine ⟨w', h1, ?_, ?_⟩
  · unfold NumsAt
    rw [List.length_append]
    have : litsN (S ++ [n]) = litsN S ++ [.int .i64 (n : Int)] := by unfold litsN; rw [List.map_append]; rfl
    rw [this, setOf_snoc]
    exact h2
  · exact (Chg.refl _ w).grown h3 (fun k hk => by injection hk with hk; subst hk; exact .inl (by simp))
set_option maxHeartbeats 1600000 in
theorem forget1_any (w : World) (f num : Nat) (A : Option Addr) (n c sure : Nat) (hF : FileAt w f num A n c sure) (hnum : num ≤ 1000000) (B M : Nat) (hB : w.cell? ⟨B, 0, none⟩ = some (.map (some M))) (S : List Nat) (hM : NumsAt w M S) :
    Calls Try.prog 73 #[.pointer (some ⟨f, 0, none⟩), .pointer (some ⟨B, 0, none⟩)] w fun e w' => e = .returned (.bool (!decide (num ∈ S))) ∧ Below w.heap.size w w' := by
  obtain ⟨W1, hW1⟩ : ∃ W1, w.alloc (.cells #[] 128) = W1 := ⟨_, rfl⟩
  have hb1 : Below w.heap.size w W1 := by rw [← hW1]; exact (Below.refl _ w).alloc (Nat.le_refl _) _
  have hF1 := hF.same (hb1.block f (lt_of_block hF))
  have c0 := hF1.c0
  have c0' := hF.c0
  have hB1 : W1.cell? ⟨B, 0, none⟩ = some (.map (some M)) := (hb1.cell (p := ⟨B, 0, none⟩) (World.block_lt_of_cell? w _ hB)).trans hB
  have hM1 : NumsAt W1 M S := hM.below (hb1.block M hM.lt)
  obtain ⟨v, ps, hrun, hv⟩ := World.ownsMap.look_ok (P := Try.prog) (w := W1.drew) (World.ownsMap.drew hM1) keyI Try.underlying127 (zeroU _) (unitElem_mk (H := Unit)) (keyOf_num num (by omega))
  obtain ⟨rfl, _⟩ := unitElem_inv hv
  obtain ⟨v', ps', hrun', hv'⟩ := World.ownsMap.look_ok (P := Try.prog) (w := w.drew) (World.ownsMap.drew hM) keyI Try.underlying127 (zeroU _) (unitElem_mk (H := Unit)) (keyOf_num num (by omega))
  obtain ⟨rfl, _⟩ := unitElem_inv hv'
  rw [has_lits] at hrun hrun'
  obtain ⟨t, ht⟩ : ∃ t, decide (num ∈ S) = t := ⟨_, rfl⟩
  rw [ht] at hrun hrun' ⊢
  have HB := Lib.hid hb1
  clear hF hM hv hv' ht hF1 hM1 hb1
  go_enter Try.func73, Try.ntmps73
  go_wp2_with fail
  go_region
  go_wp2
  go_ret
  exact ⟨rfl, HB.out.drew⟩
/-- Files in a slice: each with its number. -/
def FsIn (w : World) (nm : Value → Nat) (fs : List Value) : Prop := ∀ v ∈ fs, ∃ f A n c sure, v = Value.pointer (some ⟨f, 0, none⟩) ∧ FileAt w f (nm v) A n c sure ∧ nm v ≤ 1000000
theorem FsIn.below {w w' : World} {nm : Value → Nat} {fs : List Value} (h : FsIn w nm fs) (hb : Below w.heap.size w w') : FsIn w' nm fs := fun v hv => by
  obtain ⟨f, A, n, c, sure, e, h1, h2⟩ := h v hv
  exact ⟨f, A, n, c, sure, e, h1.same (hb.block f (lt_of_block h1)), h2⟩
def keepV (nm : Value → Nat) (S : List Nat) (v : Value) : Bool := decide (nm v ∈ S)
set_option maxHeartbeats 1600000 in
theorem index_any (w : World) (F : Option Addr) (fn fc : Nat) (fs : List Value) (hL : SLine 1 w F fn fc fs) (hn : fn ≤ 1000000) (nm : Value → Nat) (hfs : FsIn w nm fs) (B M : Nat) (hB : w.cell? ⟨B, 0, none⟩ = some (.map (some M))) (S : List Nat) (hM : NumsAt w M S) :
    Calls Try.prog 80 #[.slice F fn fc, .func (.func 73) #[] #[.pointer (some ⟨B, 0, none⟩)]] w fun e w' => (∃ z : Int, e = .returned (.int .i64 z) ∧ ((z = -1 ∧ ∀ v ∈ fs, keepV nm S v = true) ∨ ∃ k : Nat, k < fn ∧ z = (k : Int) ∧ (∀ v ∈ fs.take k, keepV nm S v = true) ∧ ∃ v, fs[k]? = some v ∧ keepV nm S v = false)) ∧ Below w.heap.size w w' := by
  have hlen : fs.length = fn := by have := hL.1; omega
  have HL := Lib.hid hL
  have HF := Lib.hid hfs
  have HB := Lib.hid hB
  have HM := Lib.hid hM
  have HN := Lib.hid hlen
  have hbl := World.block_lt_of_cell? w _ hB
  clear hL hfs hB hM hlen
  go_enter Try.func80, Try.ntmps80
  go_wp2
  go_loopw [8] (fun i wr => ∃ k : Nat, k ≤ fn ∧ i = .int .i64 k ∧ Hid ((∀ v ∈ fs.take k, keepV nm S v = true) ∧ Below w.heap.size w wr)) (fun i _ => fn - (intOf i).toNat)
  case atStart => exact ⟨0, by omega, rfl, Lib.hid ⟨fun v hv => by simp at hv, Below.refl _ _⟩⟩
  case round =>
    obtain ⟨k, hk, rfl, HI⟩ := hrel
    rcases Nat.lt_or_ge k fn with hkn | hkn
    · have hb := HI.out.2
      obtain ⟨g, off, rfl, hg, hc, _⟩ := (HL.out.below hb).at (by omega)
      obtain ⟨v, hv⟩ : ∃ v, fs[k]? = some v := ⟨_, List.getElem?_eq_getElem (by rw [HN.out]; exact hkn)⟩
      have hck := hc k (by omega)
      rw [hv] at hck
      obtain ⟨f, A, n, c, sure, rfl, hf, hnum⟩ := (HF.out.below hb) v (List.mem_of_getElem? hv)
      obtain ⟨num, hnm⟩ : ∃ num, nm (.pointer (some ⟨f, 0, none⟩)) = num := ⟨_, rfl⟩
      rw [hnm] at hf hnum
      have H1 := Lib.hid (forget1_any wr f num A n c sure hf hnum B M ((hb.cell (p := ⟨B, 0, none⟩) hbl).trans HB.out) S (HM.out.below (hb.block M HM.out.lt)))
      have hkp : keepV nm S (.pointer (some ⟨f, 0, none⟩)) = decide (num ∈ S) := by unfold keepV; rw [hnm]
      have HV := Lib.hid (And.intro hv (And.intro hb hkp))
      obtain ⟨t, ht⟩ : ∃ t, decide (num ∈ S) = t := ⟨_, rfl⟩
      have HT := Lib.hid ht
      rw [ht] at H1
      have hkn' : (k : Int) < (fn : Int) := by omega
      have hk0 : (0 : Int) ≤ (k : Int) := by omega
      clear hc hv hf hnum hnm hb hkp ht hg
      cases t with
      | true =>
        go_wp2_with (go_at_call 73; refine H1.out.mono ?_; rintro e w2 ⟨rfl, hb2⟩; have HB2 : Hid (Below w.heap.size w w2) := Lib.hid (HV.out.2.1.trans (hb2.mono HV.out.2.1.size)); clear hb2)
        go_roundw
        case rel => exact ⟨k + 1, by omega, by go_num, Lib.hid ⟨fun v hv => by
          rw [List.take_add_one, HV.out.1] at hv
          rcases List.mem_append.1 hv with h | h
          · exact HI.out.1 v h
          · simp at h
            subst h
            rw [HV.out.2.2, HT.out], HB2.out⟩⟩
        case measure => simp [intOf]; omega
      | false =>
        go_wp2_with (go_at_call 73; refine H1.out.mono ?_; rintro e w2 ⟨rfl, hb2⟩; have HB2 : Hid (Below w.heap.size w w2) := Lib.hid (HV.out.2.1.trans (hb2.mono HV.out.2.1.size)); clear hb2)
        go_ret
        exact ⟨⟨_, rfl, .inr ⟨k, hkn, rfl, HI.out.1, _, HV.out.1, by rw [HV.out.2.2, HT.out]⟩⟩, HB2.out⟩
    · obtain rfl : k = fn := by omega
      have HE : Hid (∀ v ∈ fs, keepV nm S v = true) := Lib.hid (by
        have := HI.out.1
        rw [List.take_of_length_le (by rw [HN.out]; exact Nat.le_refl _)] at this
        exact this)
      go_wp2
      go_ret
      exact ⟨⟨_, rfl, .inl ⟨rfl, HE.out⟩⟩, HI.out.2⟩
end Go.Proofs.Ytnjnlcmpfnabiaa
