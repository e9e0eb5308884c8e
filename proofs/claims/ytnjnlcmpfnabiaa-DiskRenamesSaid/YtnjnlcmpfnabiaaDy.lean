/-
  What a loss leaves of the files: the step of Crash's loop.
-/
import Derived.Test.YtnjnlcmpfnabiaaDx
namespace Go.Proofs.Ytnjnlcmpfnabiaa
open Go.RowKit Go.Maps
set_option linter.unusedVariables false
set_option maxRecDepth 100000

/-- Where a file stands among files whose numbers rise. -/
def standN (fs : List Value) (nm : Value → Nat) (v : Value) : Nat := (fs.filter fun u => decide (nm u < nm v)).length
theorem standN_eq (nm : Value → Nat) (v : Value) : ∀ (fs : List Value), (fs.Pairwise fun u v => nm u < nm v) → ∀ i : Nat, fs[i]? = some v → standN fs nm v = i := by
  intro fs
  induction fs with
  | nil => intro _ i h; simp at h
  | cons x l ih =>
    intro hp i h
    obtain ⟨h1, h2⟩ := List.pairwise_cons.1 hp
    cases i with
    | zero =>
      rw [List.getElem?_cons_zero] at h
      cases h
      unfold standN
      rw [List.filter_eq_nil_iff.2]
      · rfl
      · intro u hu
        rcases List.mem_cons.1 hu with e | e
        · rw [e]; simp
        · have := h1 u e
          simp; omega
    | succ k =>
      rw [List.getElem?_cons_succ] at h
      have hx := h1 v (List.mem_of_getElem? h)
      have := ih h2 k h
      unfold standN at this ⊢
      rw [List.filter_cons_of_pos (by simpa using hx), List.length_cons, this]
/-- How many bytes a loss leaves of a file. -/
def leftV (zs : List Int) (nm : Value → Nat) (dt : Value → List Value) (su : Value → Nat) (v : Value) : Nat := leftN (dt v).length (su v) (keptZ zs (nm v))
/-- Ahead of round j of the loop over the files. -/
structure LostAt (w : World) (own : Nat → Nat) (fs : List Value) (zs : List Int) (nm : Value → Nat) (dt : Value → List Value) (su : Value → Nat) (j : Nat) (own' : Nat → Nat) (wr : World) : Prop where
  below : Below 0 w wr
  ag : ∀ i, i < w.heap.size → own' i = own i
  same : ∀ i, i < w.heap.size → own i ≠ 7 → wr.heap[i]? = w.heap[i]?
  lost : ∀ (i : Nat) (v : Value), fs[i]? = some v → i < j → FileO wr own' v i ((dt v).take (leftV zs nm dt su v)) (leftV zs nm dt su v)
  still : ∀ (i : Nat) (v : Value), fs[i]? = some v → j ≤ i → FileO wr own' v (nm v) (dt v) (su v)
theorem FileO.carry2 {w w' : World} {own own' : Nat → Nat} {v : Value} {num sure f : Nat} {xs : List Value} (h : FileO w own v num xs sure) (hz : w.heap.size ≤ w'.heap.size) (ho : ∀ k, k < w.heap.size → own' k = own k) (hs : ∀ k, k < w.heap.size → k ≠ f → w'.heap[k]? = w.heap[k]?) (hf : own f = 7) (hv : v ≠ .pointer (some ⟨f, 0, none⟩)) : FileO w' own' v num xs sure := by
  obtain ⟨g, A, n, c, e, h1, h2, h3, h4, h5⟩ := h
  have hg := lt_of_block h2
  have hgf : g ≠ f := fun e' => hv (by rw [e, e'])
  exact ⟨g, A, n, c, e, (ho g hg).trans h1, h2.same (hs g hg hgf), h3.same hz (fun k hk => hs k (h3.lt k hk) (fun e' => by have := h4 k hk; rw [e'] at this; omega)), fun k hk => (ho k (h3.lt k hk)).trans (h4 k hk), h5⟩
theorem leftN_le (n sure : Nat) (others : Int) (h : sure ≤ n) : leftN n sure others ≤ n := by unfold leftN; omega
theorem LostAt.step {w wr w' : World} {own own' : Nat → Nat} {fs : List Value} {zs : List Int} {nm su : Value → Nat} {dt : Value → List Value} {j f : Nat} (h : LostAt w own fs zs nm dt su j own' wr) (hr : fs.Pairwise fun u v => nm u < nm v) (v : Value) (hv : fs[j]? = some v) (e : v = .pointer (some ⟨f, 0, none⟩)) (hf : own' f = 7) (hfw : f < w.heap.size) (hown : own f = 7) (hfl : f < wr.heap.size) (hln : (dt v).length ≤ 1048576) (hsu : su v ≤ (dt v).length)
    (A : Option Addr) (c : Nat) (h1 : FileAt w' f j A (leftV zs nm dt su v) c (leftV zs nm dt su v)) (h2 : SLine 1 w' A (leftV zs nm dt su v) c ((dt v).take (leftV zs nm dt su v))) (h3 : ∀ k ∈ blk A, wr.heap.size ≤ k) (hc : Chg [f] wr w') :
    ∃ own'', LostAt w own fs zs nm dt su (j + 1) own'' w' := by
  have hz := hc.size
  have hz0 := h.below.size
  have hs : ∀ k, k < wr.heap.size → k ≠ f → w'.heap[k]? = wr.heap[k]? := fun k hk hn => hc.same k hk (fun hm => by rw [List.mem_singleton] at hm; exact hn hm)
  have hlef : leftV zs nm dt su v ≤ (dt v).length := leftN_le _ _ _ hsu
  have hne : ∀ (i : Nat) (u : Value), fs[i]? = some u → i ≠ j → u ≠ .pointer (some ⟨f, 0, none⟩) := fun i u hu hij he => by
    rw [← e] at he
    subst he
    have a := standN_eq nm u fs hr i hu
    have b := standN_eq nm u fs hr j hv
    omega
  refine ⟨fun k => if k < wr.heap.size then own' k else if k ∈ blk A then 8 + j else 0, ?_⟩
  have ho : ∀ k, k < wr.heap.size → (if k < wr.heap.size then own' k else if k ∈ blk A then 8 + j else 0) = own' k := fun k hk => if_pos hk
  exact {
    below := h.below.trans (hc.below)
    ag := fun i hi => (ho i (by omega)).trans (h.ag i hi)
    same := fun i hi hn => (hs i (by omega) (fun e' => hn (by rw [e']; exact hown))).trans (h.same i hi hn)
    lost := fun i u hu hij => by
      by_cases hj : i = j
      · subst hj
        rw [hv] at hu
        cases hu
        refine ⟨f, A, _, c, e, (ho f hfl).trans hf, h1, h2, fun k hk => ?_, by omega, Nat.le_refl _⟩
        have := h3 k hk
        simp only [show ¬ k < wr.heap.size by omega, if_false, hk, if_true]
      · exact (h.lost i u hu (by omega)).carry2 hz ho hs hf (hne i u hu hj)
    still := fun i u hu hij => (h.still i u hu (by omega)).carry2 hz ho hs hf (hne i u hu (by omega)) }
theorem LostAt.start {w : World} {own : Nat → Nat} {fs : List Value} {zs : List Int} {nm su : Value → Nat} {dt : Value → List Value} (h : ∀ v ∈ fs, FileO w own v (nm v) (dt v) (su v)) : LostAt w own fs zs nm dt su 0 own w where
  below := Below.refl _ _
  ag := fun _ _ => rfl
  same := fun _ _ _ => rfl
  lost := fun i v _ h => by omega
  still := fun i v hv _ => h v (List.mem_of_getElem? hv)
/-- The loop's end, and the box's last words: a whole disk again. -/
theorem LostAt.disk {w wr w' : World} {d : Nat} {own own' : Nat → Nat} {b : DBox} {F RA SA C : Option Addr} {fn fc rn rc sn sc cn cc : Nat} {fs css : List Value} {R : List (ByteArray × Value)} {zs : List Int} {nm su : Value → Nat} {dt : Value → List Value}
    (H : DiskIn w d own b F fn fc RA rn rc SA sn sc C cn cc fs R R css [] nm dt su) (h : LostAt w own fs zs nm dt su fn own' wr) (hc : Chg [d] wr w') (hD : DBoxAt w' d { b with made := (fn : Int), full := false, ahead := -1, off := false }) :
    Only own w own' w' ∧ DiskIn w' d own' { b with made := (fn : Int), full := false, ahead := -1, off := false } F fn fc RA rn rc SA sn sc C cn cc fs R R css [] (standN fs nm) (fun v => (dt v).take (leftV zs nm dt su v)) (leftV zs nm dt su) := by
  have hz0 := h.below.size
  have hz := hc.size
  have hdl := H.box.lt
  have hs1 : ∀ k, k < wr.heap.size → own' k ≠ 1 → w'.heap[k]? = wr.heap[k]? := fun k hk hn => hc.same k hk (fun hm => by rw [List.mem_singleton] at hm; rw [hm, h.ag d hdl] at hn; exact hn H.od)
  have hs : ∀ k, k < w.heap.size → own k ≠ 1 → own k ≠ 7 → w'.heap[k]? = w.heap[k]? := fun k hk h1 h7 => (hs1 k (by omega) (by rw [h.ag k hk]; exact h1)).trans (h.same k hk h7)
  have hln : fs.length = fn := by have := H.line.1; omega
  have hst : ∀ v ∈ fs, ∃ i, i < fn ∧ fs[i]? = some v ∧ standN fs nm v = i := fun v hv => by
    obtain ⟨i, hi, e⟩ := List.mem_iff_getElem.1 hv
    have e2 : fs[i]? = some v := by rw [List.getElem?_eq_getElem hi, e]
    exact ⟨i, by omega, e2, standN_eq nm v fs H.rises i e2⟩
  refine ⟨⟨h.below.trans hc.below, h.ag, fun i hi h0 => hs i hi (by omega) (by omega)⟩, ?_⟩
  have hF := H.lenF
  have hC := H.lenC
  exact {
    box := hD
    od := (h.ag d hdl).trans H.od
    files := H.files
    line := H.line.same (by omega) fun k hk => hs k (H.line.lt k hk) (by rw [H.oF k hk]; omega) (by rw [H.oF k hk]; omega)
    oF := fun k hk => (h.ag k (H.line.lt k hk)).trans (H.oF k hk)
    now := H.now
    nrow := H.nrow.same (by omega) fun k hk => hs k (H.nrow.lt' k hk) (by rw [H.oR k hk]; omega) (by rw [H.oR k hk]; omega)
    oR := fun k hk => (h.ag k (H.nrow.lt' k hk)).trans (H.oR k hk)
    sure := H.sure
    srow := H.srow.same (by omega) fun k hk => hs k (H.srow.lt' k hk) (by rw [H.oS k hk]; omega) (by rw [H.oS k hk]; omega)
    oS := fun k hk => (h.ag k (H.srow.lt' k hk)).trans (H.oS k hk)
    changes := H.changes
    cline := H.cline.same (by omega) fun k hk => hs k (H.cline.lt k hk) (by rw [H.oC k hk]; omega) (by rw [H.oC k hk]; omega)
    oC := fun k hk => (h.ag k (H.cline.lt k hk)).trans (H.oC k hk)
    chs := H.chs.carry (by omega) h.ag fun k hk h6 => hs k hk (by omega) (by omega)
    file := fun v hv => by
      obtain ⟨i, hi, e, es⟩ := hst v hv
      have h1 := h.lost i v e hi
      rw [es]
      exact h1.carry hz (fun _ _ => rfl) fun k hk h8 => hs1 k hk (by omega)
    num := fun v hv => by obtain ⟨i, hi, e, es⟩ := hst v hv; rw [es]; show (i : Int) < (fn : Int); omega
    bytes := fun v hv u hu => H.bytes v hv u (List.mem_of_mem_take hu)
    rises := by
      rw [List.pairwise_iff_getElem]
      intro i j hi hj hij
      rw [standN_eq nm _ fs H.rises i (List.getElem?_eq_getElem hi), standN_eq nm _ fs H.rises j (List.getElem?_eq_getElem hj)]
      exact hij
    lay := H.lay
    sin := H.sin
    cin := H.cin
    made := by show 0 ≤ (fn : Int) ∧ (fn : Int) ≤ 80000; omega
    quota := H.quota
    calls := H.calls
    ahead := by show (-1 : Int) ≤ _; omega
    lenF := H.lenF
    lenC := H.lenC }
end Go.Proofs.Ytnjnlcmpfnabiaa
