/-
  Create, Remove and Rename on a whole disk.
-/
import Derived.Test.YtnjnlcmpfnabiaaDx
import Derived.Test.YtnjnlcmpfnabiaaDl
namespace Go.Proofs.Ytnjnlcmpfnabiaa
open Go.RowKit Go.Maps
set_option linter.unusedVariables false
set_option maxRecDepth 100000

/-- Is it the pointer to this box? -/
def ptrIs (fb : Nat) (v : Value) : Bool := match v with
  | .pointer (some ⟨f, 0, none⟩) => f == fb
  | _ => false
def updP {α : Type} (g : Value → α) (fb : Nat) (x : α) (v : Value) : α := if ptrIs fb v = true then x else g v
theorem updP_same {α : Type} (g : Value → α) (fb : Nat) (x : α) : updP g fb x (.pointer (some ⟨fb, 0, none⟩)) = x := by unfold updP ptrIs; simp
theorem updP_other {α : Type} (g : Value → α) (fb : Nat) (x : α) (f : Nat) (h : f ≠ fb) : updP g fb x (.pointer (some ⟨f, 0, none⟩)) = g (.pointer (some ⟨f, 0, none⟩)) := by unfold updP ptrIs; simp [h]
section
variable {w w' : World} {d : Nat} {own own' : Nat → Nat} {b : DBox} {F RA SA C : Option Addr} {fn fc rn rc sn sc cn cc : Nat} {fs css : List Value} {ps ss : List (ByteArray × Value)} {chl : List (List (ByteArray × Value))} {nm su : Value → Nat} {dt : Value → List Value}
theorem DiskIn.nowAt (H : DiskIn w d own b F fn fc RA rn rc SA sn sc C cn cc fs ps ss css chl nm dt su) : NowAt w d b RA rn rc ps where
  box := H.box
  calls := by have := H.calls; omega
  ahead := H.ahead
  now := H.now
  row := H.nrow
  apart := fun hm => by have := H.oR d hm; have := H.od; omega
  len := by
    have h1 := (layAll_len chl ss H.srow.rises H.chs.two).2
    rw [← H.lay, H.nrow.len, H.srow.len] at h1
    have := H.chs.1
    have := H.cline.1
    have := H.lenC
    omega
theorem DiskIn.chAt (H : DiskIn w d own b F fn fc RA rn rc SA sn sc C cn cc fs ps ss css chl nm dt su) : ChAt w d b RA C cn cc css where
  is := H.changes
  line := H.cline
  apart := fun hm => by have := H.oC d hm; have := H.od; omega
  apart2 := fun k h1 h2 => by have := H.oC k h1; have := H.oR k h2; omega
  len := by have := H.lenC; omega
theorem DiskIn.flAt (H : DiskIn w d own b F fn fc RA rn rc SA sn sc C cn cc fs ps ss css chl nm dt su) : FlAt w d b RA C F fn fc fs where
  is := H.files
  line := H.line
  apart := fun hm => by have := H.oF d hm; have := H.od; omega
  apart2 := fun k h1 h2 => by have := H.oF k h1; have := H.oR k h2; omega
  apart3 := fun k h1 h2 => by have := H.oF k h1; have := H.oC k h2; omega
  len := by have := H.lenF; omega
theorem blk_one {pb k : Nat} (h : k ∈ blk (some (⟨pb, 0, none⟩ : Addr))) : k = pb := by obtain ⟨ad, ea, he⟩ := mem_blk.1 h; cases ea; exact he.symm
/-- Boxes that hold the same, but for quota, power and calls. -/
structure Like (b' b : DBox) : Prop where
  files : b'.files = b.files
  made : b'.made = b.made
  now : b'.now = b.now
  sure : b'.sure = b.sure
  changes : b'.changes = b.changes
  quota : 0 ≤ b'.quota ∧ b'.quota ≤ 9223372036854775807
  calls : 0 ≤ b'.calls ∧ b'.calls ≤ 80000
  ahead : b'.ahead ≤ 9223372036854775807
theorem DiskIn.likeP (H : DiskIn w d own b F fn fc RA rn rc SA sn sc C cn cc fs ps ss css chl nm dt su) (hb : b.calls < 80000) : Like (poweredB b) b :=
  ⟨powered_files b, powered_made b, powered_now b, powered_sure b, powered_changes b, by rw [powered_quota]; exact H.quota, by have := powered_calls b; have := H.calls; omega, by have := powered_ahead b; have := H.ahead; omega⟩
/-- A change of the directory, on a whole disk: the change's files lie among the disk's. -/
theorem DiskIn.turned (H : DiskIn w d own b F fn fc RA rn rc SA sn sc C cn cc fs ps ss css chl nm dt su) {b' : DBox} (L : Like b' b) (chs : List (ByteArray × Value)) (hk : chs.length ≤ 2) (hin : ∀ p ∈ chs, p.2 = .pointer none ∨ p.2 ∈ fs) (hlc : sn + 2 * (cn + 1) ≤ 80000) (hT : Turned w d b' RA C cn ps css chs w') :
    ∃ own' A' n' c' C' cc' pb, Only own w own' w' ∧ DiskIn w' d own' { b' with now := .slice A' n' c', changes := .slice C' (cn + 1) cc' } F fn fc A' n' c' SA sn sc C' (cn + 1) cc' fs (layP ps chs) ss (css ++ [.slice (some ⟨pb, 0, none⟩) chs.length chs.length]) (chl ++ [chs]) nm dt su := by
  obtain ⟨A', n', c', C', cc', pb, hD, hR, hC, hP, hc, hA, hCC, hCA, hpb, hpA, hpC⟩ := hT
  obtain ⟨own', hown⟩ : ∃ own' : Nat → Nat, own' = fun i => if i < w.heap.size then own i else if i ∈ blk A' then 3 else if i ∈ blk C' then 5 else if i = pb then 6 else 0 := ⟨_, rfl⟩
  have ho : ∀ i, i < w.heap.size → own' i = own i := fun i hi => by rw [hown]; simp only [hi, if_true]
  have hz := hc.size
  have hs : ∀ i, i < w.heap.size → own i ≠ 1 → own i ≠ 3 → own i ≠ 5 → w'.heap[i]? = w.heap[i]? := fun i hi h1 h3 h5 => hc.same i hi (fun hm => by
    rcases List.mem_cons.1 hm with h | h
    · rw [h] at h1; exact h1 H.od
    · rcases List.mem_append.1 h with h | h
      · exact h3 (H.oR i h)
      · exact h5 (H.oC i h))
  have hopb : own' pb = 6 := by rw [hown]; simp only [show ¬ pb < w.heap.size by omega, if_false, hpA, hpC, if_true]
  refine ⟨own', A', n', c', C', cc', pb, ⟨hc.below, ho, fun i hi h0 => hs i hi (by omega) (by omega) (by omega)⟩, ?_⟩
  exact {
    box := hD
    od := (ho d H.box.lt).trans H.od
    files := L.files.trans H.files
    line := H.line.same hz fun k hk => hs k (H.line.lt k hk) (by rw [H.oF k hk]; omega) (by rw [H.oF k hk]; omega) (by rw [H.oF k hk]; omega)
    oF := fun k hk => (ho k (H.line.lt k hk)).trans (H.oF k hk)
    now := rfl
    nrow := hR
    oR := fun i hi => by
      rcases Nat.lt_or_ge i w.heap.size with h | h
      · rw [ho i h]
        rcases hA i hi with h' | h'
        · exact H.oR i h'
        · omega
      · rw [hown]; simp only [show ¬ i < w.heap.size by omega, if_false, hi, if_true]
    sure := L.sure.trans H.sure
    srow := H.srow.same hz fun k hk => hs k (H.srow.lt' k hk) (by rw [H.oS k hk]; omega) (by rw [H.oS k hk]; omega) (by rw [H.oS k hk]; omega)
    oS := fun k hk => (ho k (H.srow.lt' k hk)).trans (H.oS k hk)
    changes := rfl
    cline := hC
    oC := fun i hi => by
      rcases Nat.lt_or_ge i w.heap.size with h | h
      · rw [ho i h]
        rcases hCC i hi with h' | h'
        · exact H.oC i h'
        · omega
      · rw [hown]; simp only [show ¬ i < w.heap.size by omega, if_false, hCA i hi, hi, if_true]
    chs := by
      have h0 := H.chs.carry hz ho fun k hk h6 => hs k hk (by omega) (by omega) (by omega)
      refine ⟨by simp [h0.1], fun i v c hv hcc => ?_⟩
      rcases Nat.lt_or_ge i css.length with h | h
      · rw [List.getElem?_append_left h] at hv
        rw [List.getElem?_append_left (by rw [← H.chs.1]; exact h)] at hcc
        exact h0.2 i v c hv hcc
      · have hi : i = css.length := by
          have := (List.getElem?_eq_some_iff.1 hv).1
          simp at this
          omega
        subst hi
        rw [List.getElem?_append_right (Nat.le_refl _), Nat.sub_self] at hv
        rw [H.chs.1, List.getElem?_append_right (Nat.le_refl _), Nat.sub_self] at hcc
        cases hv
        cases hcc
        refine ⟨pb, rfl, hP, hopb, hk, fun p hp => ?_⟩
        rcases hin p hp with h | h
        · exact ⟨none, h⟩
        · obtain ⟨f, _, _, _, e, _⟩ := H.file _ h
          exact ⟨_, e⟩
    file := fun v hv => (H.file v hv).carry hz ho fun k hk h => hs k hk (by omega) (by omega) (by omega)
    num := fun v hv => by show (nm v : Int) < b'.made; rw [L.made]; exact H.num v hv
    bytes := H.bytes
    rises := H.rises
    lay := by rw [layAll_snoc, ← H.lay]
    sin := H.sin
    cin := fun c hcm => by
      rcases List.mem_append.1 hcm with h | h
      · exact H.cin c h
      · rw [List.mem_singleton] at h; rw [h]; exact hin
    made := by show 0 ≤ b'.made ∧ b'.made ≤ 80000; rw [L.made]; exact H.made
    quota := L.quota
    calls := L.calls
    ahead := L.ahead
    lenF := H.lenF
    lenC := hlc }
/-- A file more, without a name yet. -/
theorem DiskIn.made1 (H : DiskIn w d own b F fn fc RA rn rc SA sn sc C cn cc fs ps ss css chl nm dt su) {b' : DBox} (L : Like b' b) (num : Nat) (hnum : b.made = (num : Int)) (hlm : num < 80000) (hlf : fn < 80000) (F' : Option Addr) (fc' fb : Nat)
    (hM : Made w d b' RA C F rn rc cn cc fn fc ps css fs num F' fc' fb w') :
    ∃ own', Only own w own' w' ∧ DiskIn w' d own' { b' with made := (num : Int) + 1, files := .slice F' (fn + 1) fc' } F' (fn + 1) fc' RA rn rc SA sn sc C cn cc (fs ++ [.pointer (some ⟨fb, 0, none⟩)]) ps ss css chl (updP nm fb num) (updP dt fb []) (updP su fb 0) := by
  obtain ⟨hD, hR, hC, hF, hfile, hc, hF', hfb, hfF⟩ := hM
  obtain ⟨own', hown⟩ : ∃ own' : Nat → Nat, own' = fun i => if i < w.heap.size then own i else if i ∈ blk F' then 2 else if i = fb then 7 else 0 := ⟨_, rfl⟩
  have ho : ∀ i, i < w.heap.size → own' i = own i := fun i hi => by rw [hown]; simp only [hi, if_true]
  have hz := hc.size
  have hs : ∀ i, i < w.heap.size → own i ≠ 1 → own i ≠ 2 → w'.heap[i]? = w.heap[i]? := fun i hi h1 h2 => hc.same i hi (fun hm => by
    rcases List.mem_cons.1 hm with h | h
    · rw [h] at h1; exact h1 H.od
    · exact h2 (H.oF i h))
  have hofb : own' fb = 7 := by rw [hown]; simp only [show ¬ fb < w.heap.size by omega, if_false, hfF, if_true]
  have hold : ∀ v ∈ fs, ∃ f, v = .pointer (some ⟨f, 0, none⟩) ∧ f ≠ fb := fun v hv => by
    obtain ⟨f, _, _, _, e, _, h2, _⟩ := H.file v hv
    exact ⟨f, e, fun e' => by have := lt_of_block h2; omega⟩
  have hn : ∀ v ∈ fs, updP nm fb num v = nm v := fun v hv => by obtain ⟨f, e, h⟩ := hold v hv; rw [e]; exact updP_other _ _ _ _ h
  have hd : ∀ v ∈ fs, updP dt fb [] v = dt v := fun v hv => by obtain ⟨f, e, h⟩ := hold v hv; rw [e]; exact updP_other _ _ _ _ h
  have hu : ∀ v ∈ fs, updP su fb 0 v = su v := fun v hv => by obtain ⟨f, e, h⟩ := hold v hv; rw [e]; exact updP_other _ _ _ _ h
  refine ⟨own', ⟨hc.below, ho, fun i hi h0 => hs i hi (by omega) (by omega)⟩, ?_⟩
  exact {
    box := hD
    od := (ho d H.box.lt).trans H.od
    files := rfl
    line := hF.line
    oF := fun i hi => by
      rcases Nat.lt_or_ge i w.heap.size with h | h
      · rw [ho i h]
        rcases hF' i hi with h' | h'
        · exact H.oF i h'
        · omega
      · rw [hown]; simp only [show ¬ i < w.heap.size by omega, if_false, hi, if_true]
    now := L.now.trans H.now
    nrow := hR
    oR := fun k hk => (ho k (H.nrow.lt' k hk)).trans (H.oR k hk)
    sure := L.sure.trans H.sure
    srow := H.srow.same hz fun k hk => hs k (H.srow.lt' k hk) (by rw [H.oS k hk]; omega) (by rw [H.oS k hk]; omega)
    oS := fun k hk => (ho k (H.srow.lt' k hk)).trans (H.oS k hk)
    changes := L.changes.trans H.changes
    cline := hC.line
    oC := fun k hk => (ho k (H.cline.lt k hk)).trans (H.oC k hk)
    chs := H.chs.carry hz ho fun k hk h6 => hs k hk (by omega) (by omega)
    file := fun v hv => by
      rcases List.mem_append.1 hv with h | h
      · rw [hn v h, hd v h, hu v h]
        exact (H.file v h).carry hz ho fun k hk h => hs k hk (by omega) (by omega)
      · rw [List.mem_singleton] at h
        subst h
        rw [updP_same, updP_same, updP_same]
        exact ⟨fb, none, 0, 0, rfl, hofb, hfile, SLine.nil 1 _, fun k hk => (by obtain ⟨ad, ea, _⟩ := mem_blk.1 hk; cases ea), by omega, by omega⟩
    num := fun v hv => by
      show ((updP nm fb num v : Nat) : Int) < (num : Int) + 1
      rcases List.mem_append.1 hv with h | h
      · rw [hn v h]; have := H.num v h; omega
      · rw [List.mem_singleton] at h; rw [h, updP_same]; omega
    bytes := fun v hv => by
      rcases List.mem_append.1 hv with h | h
      · rw [hd v h]; exact H.bytes v h
      · rw [List.mem_singleton] at h; rw [h, updP_same]; exact fun u hu => by cases hu
    rises := by
      refine List.pairwise_append.2 ⟨H.rises.imp_of_mem (fun h1 h2 h => by rw [hn _ h1, hn _ h2]; exact h), List.pairwise_singleton _ _, fun u hu' v hv => ?_⟩
      rw [List.mem_singleton] at hv
      rw [hv, updP_same, hn u hu']
      have := H.num u hu'
      omega
    lay := H.lay
    sin := fun p hp => List.mem_append_left _ (H.sin p hp)
    cin := fun c hcm p hp => (H.cin c hcm p hp).imp id (List.mem_append_left _)
    made := by show 0 ≤ (num : Int) + 1 ∧ (num : Int) + 1 ≤ 80000; omega
    quota := L.quota
    calls := L.calls
    ahead := L.ahead
    lenF := by omega
    lenC := H.lenC }
end
end Go.Proofs.Ytnjnlcmpfnabiaa
