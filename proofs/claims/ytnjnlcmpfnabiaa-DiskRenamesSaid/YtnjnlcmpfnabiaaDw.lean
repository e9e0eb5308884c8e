/-
  settle on a whole disk; SyncDir.
-/
import Derived.Test.YtnjnlcmpfnabiaaDv
namespace Go.Proofs.Ytnjnlcmpfnabiaa
open Go.RowKit Go.Maps
set_option linter.unusedVariables false
set_option maxRecDepth 100000

/-- What a call leaves alone: whatever isn't the disk's. -/
def Only (own : Nat → Nat) (w : World) (own' : Nat → Nat) (w' : World) : Prop :=
  Below 0 w w' ∧ (∀ i, i < w.heap.size → own' i = own i) ∧ ∀ i, i < w.heap.size → own i = 0 → w'.heap[i]? = w.heap[i]?
theorem Only.refl (own : Nat → Nat) (w : World) : Only own w own w := ⟨Below.refl _ _, fun _ _ => rfl, fun _ _ _ => rfl⟩
theorem Only.trans {own own' own'' : Nat → Nat} {w w' w'' : World} (h : Only own w own' w') (h2 : Only own' w' own'' w'') : Only own w own'' w'' :=
  ⟨h.1.trans h2.1, fun i hi => (h2.2.1 i (by have := h.1.size; omega)).trans (h.2.1 i hi), fun i hi h0 => (h2.2.2 i (by have := h.1.size; omega) (by rw [h.2.1 i hi]; exact h0)).trans (h.2.2 i hi h0)⟩
theorem Only.of_chg {own : Nat → Nat} {w w' : World} {l : List Nat} (hc : Chg l w w') (hl : ∀ k ∈ l, own k ≠ 0 ∨ w.heap.size ≤ k) : Only own w own w' :=
  ⟨hc.below, fun _ _ => rfl, fun i hi h0 => hc.same i hi (fun hm => by rcases hl i hm with h | h; exact h h0; omega)⟩
theorem ChsO.two {w : World} {own : Nat → Nat} {css : List Value} {chl : List (List (ByteArray × Value))} (h : ChsO w own css chl) : ∀ c ∈ chl, c.length ≤ 2 := by
  intro c hc
  obtain ⟨i, hi, e⟩ := List.mem_iff_getElem.1 hc
  obtain ⟨pb, _, _, _, h2, _⟩ := h.2 i (css[i]'(by rw [h.1]; exact hi)) c (List.getElem?_eq_getElem _) (by rw [List.getElem?_eq_getElem hi, e])
  exact h2
section
variable {w w' : World} {d : Nat} {own own' : Nat → Nat} {b : DBox} {F RA SA C : Option Addr} {fn fc rn rc sn sc cn cc : Nat} {fs css : List Value} {ps ss : List (ByteArray × Value)} {chl : List (List (ByteArray × Value))} {nm su : Value → Nat} {dt : Value → List Value}
theorem DiskIn.fsIn (H : DiskIn w d own b F fn fc RA rn rc SA sn sc C cn cc fs ps ss css chl nm dt su) : FsIn w nm fs := fun v hv => by
  obtain ⟨f, A, n, c, e, _, h2, _⟩ := H.file v hv
  have := H.num v hv
  have := H.made
  exact ⟨f, A, n, c, _, e, h2, by omega⟩
theorem DiskIn.ownf (H : DiskIn w d own b F fn fc RA rn rc SA sn sc C cn cc fs ps ss css chl nm dt su) (f : Nat) (hf : Value.pointer (some ⟨f, 0, none⟩) ∈ fs) : own f = 7 := by
  obtain ⟨f', A, n, c, e, h1, _⟩ := H.file _ hf
  cases e
  exact h1
/-- What settle leaves of a whole disk. -/
def SettledO (w : World) (d : Nat) (own : Nat → Nat) (b : DBox) (F : Option Addr) (fc : Nat) (fs : List Value) (nm : Value → Nat) (dt : Value → List Value) (su : Value → Nat) (R : List (ByteArray × Value)) (w' : World) : Prop :=
  ∃ own' A2 n2 c2 A3 n3 c3 kf, Only own w own' w' ∧ DiskIn w' d own' { b with files := .slice F kf fc, now := .slice A3 n3 c3, sure := .slice A2 n2 c2, changes := .slice none 0 0 } F kf fc A3 n3 c3 A2 n2 c2 none 0 0 (fs.filter (keepV nm (R.map fun p => nm p.2))) R R [] [] nm dt su
theorem DiskIn.of_settled (H : DiskIn w d own b F fn fc RA rn rc SA sn sc C cn cc fs ps ss css chl nm dt su) (k : Nat) (hk : k ≤ cn) (hS : Settled w d b SA F fc fs nm (layAll ss (chl.take k)) w') : SettledO w d own b F fc fs nm dt su (layAll ss (chl.take k)) w' := by
  obtain ⟨A2, n2, c2, A3, n3, c3, kf, hD, hR2, hR3, hkf, hL, hC, hA2, hA3, hA23⟩ := hS
  have hin : ∀ p ∈ layAll ss (chl.take k), p.2 ∈ fs := layAll_in _ _ H.sin (fun c hc => H.cin c (List.mem_of_mem_take hc))
  have hlen := (layAll_len (chl.take k) ss H.srow.rises (fun c hc => H.chs.two c (List.mem_of_mem_take hc))).2
  have hss := H.srow.len
  have htk : (chl.take k).length ≤ k := by rw [List.length_take]; omega
  have hlC := H.lenC
  have hn2 := hR2.len
  generalize layAll ss (chl.take k) = R at *
  obtain ⟨own', hown⟩ : ∃ own' : Nat → Nat, own' = fun i => if i < w.heap.size then own i else if i ∈ blk A3 then 3 else if i ∈ blk A2 then 4 else 0 := ⟨_, rfl⟩
  have ho : ∀ i, i < w.heap.size → own' i = own i := fun i hi => by rw [hown]; simp only [hi, if_true]
  have hsz := hC.size
  have hs : ∀ i, i < w.heap.size → own i ≠ 1 → own i ≠ 4 → own i ≠ 2 → w'.heap[i]? = w.heap[i]? := fun i hi h1 h4 h2 => hC.same i hi (fun hm => by
    rcases List.mem_cons.1 hm with h | h
    · rw [h] at h1; exact h1 H.od
    · rcases List.mem_append.1 h with h | h
      · exact h4 (H.oS i h)
      · exact h2 (H.oF i h))
  have hsub : ∀ v ∈ fs.filter (keepV nm (R.map fun p => nm p.2)), v ∈ fs := fun v hv => (List.mem_filter.1 hv).1
  have hfl : (fs.filter (keepV nm (R.map fun p => nm p.2))).length ≤ fs.length := List.length_filter_le _ _
  have hfs := H.line.1
  have hlF := H.lenF
  refine ⟨own', A2, n2, c2, A3, n3, c3, kf, ⟨hC.below, ho, fun i hi h0 => hs i hi (by omega) (by omega) (by omega)⟩, ?_⟩
  exact {
    box := hD
    od := (ho d H.box.lt).trans H.od
    files := rfl
    line := hL
    oF := fun i hi => (ho i (H.line.lt i hi)).trans (H.oF i hi)
    now := rfl
    nrow := hR3
    oR := fun i hi => by have := hA3 i hi; rw [hown]; simp only [show ¬ i < w.heap.size by omega, if_false, hi, if_true]
    sure := rfl
    srow := hR2
    oS := fun i hi => by
      rcases Nat.lt_or_ge i w.heap.size with h | h
      · rw [ho i h]
        rcases hA2 i hi with h' | h'
        · exact H.oS i h'
        · omega
      · rw [hown]; simp only [show ¬ i < w.heap.size by omega, if_false, hA23 i hi, hi, if_true]
    changes := rfl
    cline := SLine.nil 1 _
    oC := fun i hi => by obtain ⟨ad, ea, _⟩ := mem_blk.1 hi; cases ea
    chs := ⟨rfl, fun i v c h => by simp at h⟩
    file := fun v hv => (H.file v (hsub v hv)).carry hsz ho fun i hi h => hs i hi (by omega) (by omega) (by omega)
    num := fun v hv => H.num v (hsub v hv)
    bytes := fun v hv => H.bytes v (hsub v hv)
    rises := List.Pairwise.filter _ H.rises
    lay := rfl
    sin := fun p hp => List.mem_filter.2 ⟨hin p hp, by unfold keepV; exact decide_eq_true (List.mem_map.2 ⟨p, hp, rfl⟩)⟩
    cin := fun c hc => by cases hc
    made := H.made
    quota := H.quota
    calls := H.calls
    ahead := H.ahead
    lenF := by omega
    lenC := by omega }
theorem DiskIn.settle (H : DiskIn w d own b F fn fc RA rn rc SA sn sc C cn cc fs ps ss css chl nm dt su) (k : Nat) (hk : k ≤ cn) :
    Calls Try.prog 42 #[.pointer (some ⟨d, 0, none⟩), .int .i64 (k : Int)] w fun e w' => (∃ v, e = .returned v) ∧ SettledO w d own b F fc fs nm dt su (layAll ss (chl.take k)) w' := by
  have hlC := H.lenC
  have hss := H.srow.len
  have hlF := H.lenF
  have hcl : ChsIn w (d :: blk SA) css chl := ⟨H.chs.1, fun i v c h1 h2 => by
    obtain ⟨pb, e, h3, h4, h5⟩ := H.chs.2 i v c h1 h2
    refine ⟨pb, e, h3, fun hm => ?_, h5⟩
    rcases List.mem_cons.1 hm with h | h
    · rw [h, H.od] at h4; omega
    · rw [H.oS pb h] at h4; omega⟩
  refine (settle_any w d b H.box SA sn sc H.sure ss H.srow (fun hm => by have := H.oS d hm; have := H.od; omega) C cn cc H.changes css H.cline (fun hm => by have := H.oC d hm; have := H.od; omega) (fun i h1 h2 => by have := H.oC i h1; have := H.oS i h2; omega) chl hcl (by omega) k hk (fun j hj => ?_) F fn fc H.files fs H.line (by omega) nm H.fsIn
    (fun f hf hm => by have := H.ownf f hf; have := H.oF f hm; omega) (fun hm => by have := H.oF d hm; have := H.od; omega) (fun i h1 h2 => by have := H.oF i h1; have := H.oS i h2; omega) (fun f hf => ⟨fun e => by have := H.ownf f hf; rw [e, H.od] at this; omega, fun hm => by have := H.ownf f hf; have := H.oS f hm; omega⟩) (layAll_in _ _ H.sin (fun c hc => H.cin c (List.mem_of_mem_take hc)))).mono ?_
  · have hlen := (layAll_len (chl.take j) ss H.srow.rises (fun c hc => H.chs.two c (List.mem_of_mem_take hc))).2
    have htk : (chl.take j).length ≤ j := by rw [List.length_take]; omega
    omega
  · rintro e w' ⟨h1, h2⟩
    exact ⟨h1, H.of_settled k hk h2⟩
end
end Go.Proofs.Ytnjnlcmpfnabiaa
