/-
  The contract of the disk's SyncDir.
  Create, Remove and Rename on a whole disk.
  Create, Remove, Rename, Sync on a whole disk.
  Append, Read, New on a whole disk.
  What the calls refuse, on a whole disk; Stop.
  Turn, where it turns nothing.
-/
import Derived.Test.YtkjdjglknbgeaaaGreatDoorZbc
import Derived.Test.YtkjdjglknbgeaaaGreatDoorZas
import Derived.Test.YtkjdjglknbgeaaaGreatDoorZbb
namespace Go.Proofs.YtkjdjglknbgeaaaGreatDoor
open Go.RowKit Go.Maps
set_option linter.unusedVariables false
set_option maxRecDepth 100000

theorem powered_calls (b : DBox) : b.calls ≤ (poweredB b).calls ∧ (poweredB b).calls ≤ b.calls + 1 := by unfold poweredB; split; omega; split; simp only; omega; split <;> (simp only; omega)
theorem powered_ahead (b : DBox) : (poweredB b).ahead ≤ b.ahead := by unfold poweredB; split; omega; split; simp only; omega; split <;> (simp only; omega)
theorem names0 (w : World) : NamesAt w none 0 [] := ⟨rfl, fun s hs => (by cases hs), fun h => (by omega)⟩
section
variable {w w' : World} {d : Nat} {own own' : Nat → Nat} {b : DBox} {F RA SA C : Option Addr} {fn fc rn rc sn sc cn cc : Nat} {fs css : List Value} {ps ss : List (ByteArray × Value)} {chl : List (List (ByteArray × Value))} {nm su : Value → Nat} {dt : Value → List Value}
theorem DiskIn.powered (H : DiskIn w d own b F fn fc RA rn rc SA sn sc C cn cc fs ps ss css chl nm dt su) (hb : b.calls < 80000) (hD : DBoxAt w' d (poweredB b)) (hc : Chg [d] w w') : DiskIn w' d own (poweredB b) F fn fc RA rn rc SA sn sc C cn cc fs ps ss css chl nm dt su :=
  H.boxed hc _ hD (powered_files b) (powered_now b) (powered_sure b) (powered_changes b) (powered_made b) (by rw [powered_quota]; exact H.quota) (by have := powered_calls b; have := H.calls; omega) (by have := powered_ahead b; have := H.ahead; omega)
set_option maxHeartbeats 1600000 in
theorem DiskIn.syncDir_off (H : DiskIn w d own b F fn fc RA rn rc SA sn sc C cn cc fs ps ss css chl nm dt su) (hb : b.calls < 80000) (hp : powerB b = false) :
    Calls Tryz.prog 56 #[.pointer (some ⟨d, 0, none⟩)] w fun e w' => e = .returned (.int .i64 5) ∧ Only own w own w' ∧ DiskIn w' d own (poweredB b) F fn fc RA rn rc SA sn sc C cn cc fs ps ss css chl nm dt su := by
  have hE : beginE b [] = 5 := by unfold beginE; rw [hp]; rfl
  have HB := Lib.hid (begin_any w d b H.box (by have := H.calls; omega) H.ahead none 0 0 [] (names0 w) (by omega) (by simp [blk]))
  rw [hE] at HB
  have HH := Lib.hid (And.intro H hb)
  clear H hb hp hE
  go_enter Tryz.func56, Tryz.ntmps56
  go_wp2_with fail
  refine HB.out.mono ?_
  rintro e w1 ⟨rfl, hd1, hc1⟩
  have HX := Lib.hid (And.intro (Only.of_chg (own := own) hc1 (fun k hk => by rw [List.mem_singleton] at hk; rw [hk, HH.out.1.od]; exact .inl (by omega))) (HH.out.1.powered HH.out.2 hd1 hc1))
  clear hd1 hc1
  go_wp2
  go_ret
  exact ⟨rfl, HX.out⟩
set_option maxHeartbeats 1600000 in
theorem DiskIn.syncDir_on (H : DiskIn w d own b F fn fc RA rn rc SA sn sc C cn cc fs ps ss css chl nm dt su) (hb : b.calls < 80000) (hp : powerB b = true) :
    Calls Tryz.prog 56 #[.pointer (some ⟨d, 0, none⟩)] w fun e w' => e = .returned (.int .i64 0) ∧ ∃ own' A2 n2 c2 A3 n3 c3 kf, Only own w own' w' ∧ DiskIn w' d own' { poweredB b with files := .slice F kf fc, now := .slice A3 n3 c3, sure := .slice A2 n2 c2, changes := .slice none 0 0 } F kf fc A3 n3 c3 A2 n2 c2 none 0 0 (fs.filter (keepV nm (ps.map fun p => nm p.2))) ps ps [] [] nm dt su := by
  have hE : beginE b [] = 0 := by unfold beginE; rw [hp]; rfl
  have HB := Lib.hid (begin_any w d b H.box (by have := H.calls; omega) H.ahead none 0 0 [] (names0 w) (by omega) (by simp [blk]))
  rw [hE] at HB
  have HH := Lib.hid (And.intro H hb)
  clear H hb hp hE
  go_enter Tryz.func56, Tryz.ntmps56
  go_wp2_with fail
  refine HB.out.mono ?_
  rintro e w1 ⟨rfl, hd1, hc1⟩
  have h1 := HH.out.1.powered HH.out.2 hd1 hc1
  have ho := Only.of_chg (own := own) hc1 (fun k hk => by rw [List.mem_singleton] at hk; rw [hk, HH.out.1.od]; exact .inl (by omega))
  have c4 : w1.cell? ⟨d, 4, none⟩ = some (poweredB b).changes := h1.box.cell 4 _ rfl
  rw [h1.changes] at c4
  have hcl : chl.take cn = chl := List.take_of_length_le (by have := h1.cline.1; have := h1.chs.1; omega)
  have HS := Lib.hid (h1.settle cn (Nat.le_refl _))
  rw [hcl, ← h1.lay] at HS
  have HO := Lib.hid ho
  clear h1 ho hd1 hc1 hcl
  go_wp2_with fail
  refine HS.out.mono ?_
  rintro e w2 ⟨⟨v, rfl⟩, own', A2, n2, c2, A3, n3, c3, kf, h2, h3⟩
  have HX := Lib.hid (And.intro (HO.out.trans h2) h3)
  clear h2 h3
  go_wp2
  go_ret
  exact ⟨rfl, own', A2, n2, c2, A3, n3, c3, kf, HX.out⟩
end
end Go.Proofs.YtkjdjglknbgeaaaGreatDoor
namespace Go.Proofs.YtkjdjglknbgeaaaGreatDoor
open Go.RowKit Go.Maps
set_option linter.unusedVariables false
set_option maxRecDepth 100000

/-- Is it the pointer to this box? -/
def ptrIs (fb : Nat) (v : Value) : Bool := match v with
  | .pointer (some ⟨f, 0, none⟩) => f == fb
  | _ => false
def updP {α : Type} (g : Value → α) (fb : Nat) (x : α) (v : Value) : α := if ptrIs fb v = true then x else g v
theorem updP_same {α : Type} (g : Value → α) (fb : Nat) (x : α) : updP g fb x (.pointer (some ⟨fb, 0, none⟩)) = x := by unfold updP ptrIs; simp
theorem updP_other {α : Type} (g : Value → α) (fb : Nat) (x : α) (f : Nat) (h : f ≠ fb) : updP g fb x (.pointer (some ⟨f, 0, none⟩)) = g (.pointer (some ⟨f, 0, none⟩)) := by unfold updP ptrIs; simp [h]
section
variable {w w' : World} {d : Nat} {own own' : Nat → Nat} {b : DBox} {F RA SA C : Option Addr} {fn fc rn rc sn sc cn cc : Nat} {fs css : List Value} {ps ss : List (ByteArray × Value)} {chl : List (List (ByteArray × Value))} {nm su : Value → Nat} {dt : Value → List Value}
theorem DiskIn.nowAt (H : DiskIn w d own b F fn fc RA rn rc SA sn sc C cn cc fs ps ss css chl nm dt su) : NowAt w d b RA rn rc ps where
  box := H.box
  calls := by have := H.calls; omega
  ahead := H.ahead
  now := H.now
  row := H.nrow
  apart := fun hm => by have := H.oR d hm; have := H.od; omega
  len := by
    have h1 := (layAll_len chl ss H.srow.rises H.chs.two).2
    rw [← H.lay, H.nrow.len, H.srow.len] at h1
    have := H.chs.1
    have := H.cline.1
    have := H.lenC
    omega
theorem DiskIn.chAt (H : DiskIn w d own b F fn fc RA rn rc SA sn sc C cn cc fs ps ss css chl nm dt su) : ChAt w d b RA C cn cc css where
  is := H.changes
  line := H.cline
  apart := fun hm => by have := H.oC d hm; have := H.od; omega
  apart2 := fun k h1 h2 => by have := H.oC k h1; have := H.oR k h2; omega
  len := by have := H.lenC; omega
theorem DiskIn.flAt (H : DiskIn w d own b F fn fc RA rn rc SA sn sc C cn cc fs ps ss css chl nm dt su) : FlAt w d b RA C F fn fc fs where
  is := H.files
  line := H.line
  apart := fun hm => by have := H.oF d hm; have := H.od; omega
  apart2 := fun k h1 h2 => by have := H.oF k h1; have := H.oR k h2; omega
  apart3 := fun k h1 h2 => by have := H.oF k h1; have := H.oC k h2; omega
  len := by have := H.lenF; omega
theorem blk_one {pb k : Nat} (h : k ∈ blk (some (⟨pb, 0, none⟩ : Addr))) : k = pb := by obtain ⟨ad, ea, he⟩ := mem_blk.1 h; cases ea; exact he.symm
/-- Boxes that hold the same, but for quota, power and calls. -/
structure Like (b' b : DBox) : Prop where
  files : b'.files = b.files
  made : b'.made = b.made
  now : b'.now = b.now
  sure : b'.sure = b.sure
  changes : b'.changes = b.changes
  quota : 0 ≤ b'.quota ∧ b'.quota ≤ 9223372036854775807
  calls : 0 ≤ b'.calls ∧ b'.calls ≤ 80000
  ahead : b'.ahead ≤ 9223372036854775807
theorem DiskIn.likeP (H : DiskIn w d own b F fn fc RA rn rc SA sn sc C cn cc fs ps ss css chl nm dt su) (hb : b.calls < 80000) : Like (poweredB b) b :=
  ⟨powered_files b, powered_made b, powered_now b, powered_sure b, powered_changes b, by rw [powered_quota]; exact H.quota, by have := powered_calls b; have := H.calls; omega, by have := powered_ahead b; have := H.ahead; omega⟩
/-- A change of the directory, on a whole disk: the change's files lie among the disk's. -/
theorem DiskIn.turned (H : DiskIn w d own b F fn fc RA rn rc SA sn sc C cn cc fs ps ss css chl nm dt su) {b' : DBox} (L : Like b' b) (chs : List (ByteArray × Value)) (hk : chs.length ≤ 2) (hin : ∀ p ∈ chs, p.2 = .pointer none ∨ p.2 ∈ fs) (hlc : sn + 2 * (cn + 1) ≤ 80000) (hT : Turned w d b' RA C cn ps css chs w') :
    ∃ own' A' n' c' C' cc' pb, Only own w own' w' ∧ DiskIn w' d own' { b' with now := .slice A' n' c', changes := .slice C' (cn + 1) cc' } F fn fc A' n' c' SA sn sc C' (cn + 1) cc' fs (layP ps chs) ss (css ++ [.slice (some ⟨pb, 0, none⟩) chs.length chs.length]) (chl ++ [chs]) nm dt su := by
  obtain ⟨A', n', c', C', cc', pb, hD, hR, hC, hP, hc, hA, hCC, hCA, hpb, hpA, hpC⟩ := hT
  obtain ⟨own', hown⟩ : ∃ own' : Nat → Nat, own' = fun i => if i < w.heap.size then own i else if i ∈ blk A' then 3 else if i ∈ blk C' then 5 else if i = pb then 6 else 0 := ⟨_, rfl⟩
  have ho : ∀ i, i < w.heap.size → own' i = own i := fun i hi => by rw [hown]; simp only [hi, if_true]
  have hz := hc.size
  have hs : ∀ i, i < w.heap.size → own i ≠ 1 → own i ≠ 3 → own i ≠ 5 → w'.heap[i]? = w.heap[i]? := fun i hi h1 h3 h5 => hc.same i hi (fun hm => by
    rcases List.mem_cons.1 hm with h | h
    · rw [h] at h1; exact h1 H.od
    · rcases List.mem_append.1 h with h | h
      · exact h3 (H.oR i h)
      · exact h5 (H.oC i h))
  have hopb : own' pb = 6 := by rw [hown]; simp only [show ¬ pb < w.heap.size by omega, if_false, hpA, hpC, if_true]
  refine ⟨own', A', n', c', C', cc', pb, ⟨hc.below, ho, fun i hi h0 => hs i hi (by omega) (by omega) (by omega)⟩, ?_⟩
  exact {
    box := hD
    od := (ho d H.box.lt).trans H.od
    files := L.files.trans H.files
    line := H.line.same hz fun k hk => hs k (H.line.lt k hk) (by rw [H.oF k hk]; omega) (by rw [H.oF k hk]; omega) (by rw [H.oF k hk]; omega)
    oF := fun k hk => (ho k (H.line.lt k hk)).trans (H.oF k hk)
    now := rfl
    nrow := hR
    oR := fun i hi => by
      rcases Nat.lt_or_ge i w.heap.size with h | h
      · rw [ho i h]
        rcases hA i hi with h' | h'
        · exact H.oR i h'
        · omega
      · rw [hown]; simp only [show ¬ i < w.heap.size by omega, if_false, hi, if_true]
    sure := L.sure.trans H.sure
    srow := H.srow.same hz fun k hk => hs k (H.srow.lt' k hk) (by rw [H.oS k hk]; omega) (by rw [H.oS k hk]; omega) (by rw [H.oS k hk]; omega)
    oS := fun k hk => (ho k (H.srow.lt' k hk)).trans (H.oS k hk)
    changes := rfl
    cline := hC
    oC := fun i hi => by
      rcases Nat.lt_or_ge i w.heap.size with h | h
      · rw [ho i h]
        rcases hCC i hi with h' | h'
        · exact H.oC i h'
        · omega
      · rw [hown]; simp only [show ¬ i < w.heap.size by omega, if_false, hCA i hi, hi, if_true]
    chs := by
      have h0 := H.chs.carry hz ho fun k hk h6 => hs k hk (by omega) (by omega) (by omega)
      refine ⟨by simp [h0.1], fun i v c hv hcc => ?_⟩
      rcases Nat.lt_or_ge i css.length with h | h
      · rw [List.getElem?_append_left h] at hv
        rw [List.getElem?_append_left (by rw [← H.chs.1]; exact h)] at hcc
        exact h0.2 i v c hv hcc
      · have hi : i = css.length := by
          have := (List.getElem?_eq_some_iff.1 hv).1
          simp at this
          omega
        subst hi
        rw [List.getElem?_append_right (Nat.le_refl _), Nat.sub_self] at hv
        rw [H.chs.1, List.getElem?_append_right (Nat.le_refl _), Nat.sub_self] at hcc
        cases hv
        cases hcc
        refine ⟨_, _, rfl, hP, fun k hk => by obtain ⟨ad, ea, he⟩ := mem_blk.1 hk; cases ea; rw [← he]; exact hopb, hk, fun p hp => ?_⟩
        rcases hin p hp with h | h
        · exact ⟨none, h⟩
        · obtain ⟨f, _, _, _, e, _⟩ := H.file _ h
          exact ⟨_, e⟩
    file := fun v hv => (H.file v hv).carry hz ho fun k hk h => hs k hk (by omega) (by omega) (by omega)
    num := fun v hv => by show (nm v : Int) < b'.made; rw [L.made]; exact H.num v hv
    bytes := H.bytes
    rises := H.rises
    lay := by rw [layAll_snoc, ← H.lay]
    sin := H.sin
    cin := fun c hcm => by
      rcases List.mem_append.1 hcm with h | h
      · exact H.cin c h
      · rw [List.mem_singleton] at h; rw [h]; exact hin
    made := by show 0 ≤ b'.made ∧ b'.made ≤ 80000; rw [L.made]; exact H.made
    quota := L.quota
    calls := L.calls
    ahead := L.ahead
    lenF := H.lenF
    lenC := hlc }
/-- A file more, without a name yet. -/
theorem DiskIn.made1 (H : DiskIn w d own b F fn fc RA rn rc SA sn sc C cn cc fs ps ss css chl nm dt su) {b' : DBox} (L : Like b' b) (num : Nat) (hnum : b.made = (num : Int)) (hlm : num < 80000) (hlf : fn < 80000) (F' : Option Addr) (fc' fb : Nat)
    (hM : Made w d b' RA C F rn rc cn cc fn fc ps css fs num F' fc' fb w') :
    ∃ own', Only own w own' w' ∧ DiskIn w' d own' { b' with made := (num : Int) + 1, files := .slice F' (fn + 1) fc' } F' (fn + 1) fc' RA rn rc SA sn sc C cn cc (fs ++ [.pointer (some ⟨fb, 0, none⟩)]) ps ss css chl (updP nm fb num) (updP dt fb []) (updP su fb 0) := by
  obtain ⟨hD, hR, hC, hF, hfile, hc, hF', hfb, hfF⟩ := hM
  obtain ⟨own', hown⟩ : ∃ own' : Nat → Nat, own' = fun i => if i < w.heap.size then own i else if i ∈ blk F' then 2 else if i = fb then 7 else 0 := ⟨_, rfl⟩
  have ho : ∀ i, i < w.heap.size → own' i = own i := fun i hi => by rw [hown]; simp only [hi, if_true]
  have hz := hc.size
  have hs : ∀ i, i < w.heap.size → own i ≠ 1 → own i ≠ 2 → w'.heap[i]? = w.heap[i]? := fun i hi h1 h2 => hc.same i hi (fun hm => by
    rcases List.mem_cons.1 hm with h | h
    · rw [h] at h1; exact h1 H.od
    · exact h2 (H.oF i h))
  have hofb : own' fb = 7 := by rw [hown]; simp only [show ¬ fb < w.heap.size by omega, if_false, hfF, if_true]
  have hold : ∀ v ∈ fs, ∃ f, v = .pointer (some ⟨f, 0, none⟩) ∧ f ≠ fb := fun v hv => by
    obtain ⟨f, _, _, _, e, _, h2, _⟩ := H.file v hv
    exact ⟨f, e, fun e' => by have := lt_of_block h2; omega⟩
  have hn : ∀ v ∈ fs, updP nm fb num v = nm v := fun v hv => by obtain ⟨f, e, h⟩ := hold v hv; rw [e]; exact updP_other _ _ _ _ h
  have hd : ∀ v ∈ fs, updP dt fb [] v = dt v := fun v hv => by obtain ⟨f, e, h⟩ := hold v hv; rw [e]; exact updP_other _ _ _ _ h
  have hu : ∀ v ∈ fs, updP su fb 0 v = su v := fun v hv => by obtain ⟨f, e, h⟩ := hold v hv; rw [e]; exact updP_other _ _ _ _ h
  refine ⟨own', ⟨hc.below, ho, fun i hi h0 => hs i hi (by omega) (by omega)⟩, ?_⟩
  exact {
    box := hD
    od := (ho d H.box.lt).trans H.od
    files := rfl
    line := hF.line
    oF := fun i hi => by
      rcases Nat.lt_or_ge i w.heap.size with h | h
      · rw [ho i h]
        rcases hF' i hi with h' | h'
        · exact H.oF i h'
        · omega
      · rw [hown]; simp only [show ¬ i < w.heap.size by omega, if_false, hi, if_true]
    now := L.now.trans H.now
    nrow := hR
    oR := fun k hk => (ho k (H.nrow.lt' k hk)).trans (H.oR k hk)
    sure := L.sure.trans H.sure
    srow := H.srow.same hz fun k hk => hs k (H.srow.lt' k hk) (by rw [H.oS k hk]; omega) (by rw [H.oS k hk]; omega)
    oS := fun k hk => (ho k (H.srow.lt' k hk)).trans (H.oS k hk)
    changes := L.changes.trans H.changes
    cline := hC.line
    oC := fun k hk => (ho k (H.cline.lt k hk)).trans (H.oC k hk)
    chs := H.chs.carry hz ho fun k hk h6 => hs k hk (by omega) (by omega)
    file := fun v hv => by
      rcases List.mem_append.1 hv with h | h
      · rw [hn v h, hd v h, hu v h]
        exact (H.file v h).carry hz ho fun k hk h => hs k hk (by omega) (by omega)
      · rw [List.mem_singleton] at h
        subst h
        rw [updP_same, updP_same, updP_same]
        exact ⟨fb, none, 0, 0, rfl, hofb, hfile, SLine.nil 1 _, fun k hk => (by obtain ⟨ad, ea, _⟩ := mem_blk.1 hk; cases ea), by omega, by omega⟩
    num := fun v hv => by
      show ((updP nm fb num v : Nat) : Int) < (num : Int) + 1
      rcases List.mem_append.1 hv with h | h
      · rw [hn v h]; have := H.num v h; omega
      · rw [List.mem_singleton] at h; rw [h, updP_same]; omega
    bytes := fun v hv => by
      rcases List.mem_append.1 hv with h | h
      · rw [hd v h]; exact H.bytes v h
      · rw [List.mem_singleton] at h; rw [h, updP_same]; exact fun u hu => by cases hu
    rises := by
      refine List.pairwise_append.2 ⟨H.rises.imp_of_mem (fun h1 h2 h => by rw [hn _ h1, hn _ h2]; exact h), List.pairwise_singleton _ _, fun u hu' v hv => ?_⟩
      rw [List.mem_singleton] at hv
      rw [hv, updP_same, hn u hu']
      have := H.num u hu'
      omega
    lay := H.lay
    sin := fun p hp => List.mem_append_left _ (H.sin p hp)
    cin := fun c hcm p hp => (H.cin c hcm p hp).imp id (List.mem_append_left _)
    made := by show 0 ≤ (num : Int) + 1 ∧ (num : Int) + 1 ≤ 80000; omega
    quota := L.quota
    calls := L.calls
    ahead := L.ahead
    lenF := by omega
    lenC := H.lenC }
end
end Go.Proofs.YtkjdjglknbgeaaaGreatDoor
namespace Go.Proofs.YtkjdjglknbgeaaaGreatDoor
open Go.RowKit Go.Maps
set_option linter.unusedVariables false
set_option maxRecDepth 100000

section
variable {w w' : World} {d : Nat} {own own' : Nat → Nat} {b : DBox} {F RA SA C : Option Addr} {fn fc rn rc sn sc cn cc : Nat} {fs css : List Value} {ps ss : List (ByteArray × Value)} {chl : List (List (ByteArray × Value))} {nm su : Value → Nat} {dt : Value → List Value}
/-- Power taken, and nothing else. -/
theorem DiskIn.off1 (H : DiskIn w d own b F fn fc RA rn rc SA sn sc C cn cc fs ps ss css chl nm dt su) (hb : b.calls < 80000) (hD : DBoxAt w' d (poweredB b)) (hc : Chg [d] w w') :
    Only own w own w' ∧ DiskIn w' d own (poweredB b) F fn fc RA rn rc SA sn sc C cn cc fs ps ss css chl nm dt su :=
  ⟨Only.of_chg hc (fun k hk => by rw [List.mem_singleton] at hk; rw [hk, H.od]; exact .inl (by omega)), H.powered hb hD hc⟩
theorem DiskIn.look (H : DiskIn w d own b F fn fc RA rn rc SA sn sc C cn cc fs ps ss css chl nm dt su) (x : ByteArray) (v : Value) (h : lookP ltS ps x = some v) : v ∈ fs := by
  unfold lookP at h
  obtain ⟨p, hp, e⟩ := Option.map_eq_some_iff.1 h
  have hm := List.mem_of_find?_eq_some hp
  have hin := layAll_in chl ss H.sin H.cin p (by rw [← H.lay]; exact hm)
  rw [← e]
  exact hin
theorem DiskIn.nin (H : DiskIn w d own b F fn fc RA rn rc SA sn sc C cn cc fs ps ss css chl nm dt su) : ∀ p ∈ ps, p.2 ∈ fs := fun p hp => layAll_in chl ss H.sin H.cin p (by rw [← H.lay]; exact hp)
theorem withF_look (b : DBox) (ns : List ByteArray) (ps : List (ByteArray × Value)) (x : ByteArray) (h : withE b ns ps x = 0) : lookP ltS ps x = some (withF b ns ps x) := by
  have hh : hasP ltS ps x = true := by
    unfold withE at h
    split at h
    · split at h
      · assumption
      · omega
    · exact absurd h (by assumption)
  unfold withF
  rw [if_pos h]
  unfold hasP at hh
  obtain ⟨v, hv⟩ := Option.isSome_iff_exists.1 hh
  rw [hv]
  rfl
/-- What Create leaves of a whole disk. -/
def CreatedO (w : World) (d : Nat) (own : Nat → Nat) (b : DBox) (fn : Nat) (SA : Option Addr) (sn sc cn : Nat) (fs css : List Value) (ps ss : List (ByteArray × Value)) (chl : List (List (ByteArray × Value))) (nm : Value → Nat) (dt : Value → List Value) (su : Value → Nat) (num : Nat) (x : ByteArray) (w' : World) : Prop :=
  ∃ own' F' fc' fb A' n' c' C' cc' pb, Only own w own' w' ∧ DiskIn w' d own' { poweredB b with made := (num : Int) + 1, files := .slice F' (fn + 1) fc', now := .slice A' n' c', changes := .slice C' (cn + 1) cc' } F' (fn + 1) fc' A' n' c' SA sn sc C' (cn + 1) cc' (fs ++ [.pointer (some ⟨fb, 0, none⟩)]) (layP ps [(x, .pointer (some ⟨fb, 0, none⟩))]) ss (css ++ [.slice (some ⟨pb, 0, none⟩) 1 1]) (chl ++ [[(x, .pointer (some ⟨fb, 0, none⟩))]]) (updP nm fb num) (updP dt fb []) (updP su fb 0)
theorem DiskIn.create_yes (H : DiskIn w d own b F fn fc RA rn rc SA sn sc C cn cc fs ps ss css chl nm dt su) (hb : b.calls < 80000) (num : Nat) (hnum : b.made = (num : Int)) (hlm : num < 80000) (hlf : fn < 80000) (hlc : sn + 2 * (cn + 1) ≤ 80000) (x : ByteArray) (hsz : x.size ≤ 1000000) (hE : beginE b [x] = 0) (hok : hasP ltS ps x = true ∨ rn < 1024) :
    Calls Tryz.prog 38 #[.pointer (some ⟨d, 0, none⟩), .string x] w fun e w' => e = .returned (.int .i64 0) ∧ CreatedO w d own b fn SA sn sc cn fs css ps ss chl nm dt su num x w' := by
  refine (create_ok H.nowAt H.chAt H.flAt (by omega) num hnum (by omega) x hsz hE hok).mono ?_
  rintro e w' ⟨rfl, F', fc', fb, W, hM, hT⟩
  refine ⟨rfl, ?_⟩
  obtain ⟨own1, O1, H1⟩ := H.made1 (H.likeP hb) num hnum hlm hlf F' fc' fb hM
  have L1 : Like { poweredB b with made := (num : Int) + 1, files := Value.slice F' (fn + 1) fc' } { poweredB b with made := (num : Int) + 1, files := Value.slice F' (fn + 1) fc' } := ⟨rfl, rfl, rfl, rfl, rfl, H1.quota, H1.calls, H1.ahead⟩
  obtain ⟨own2, A', n', c', C', cc', pb, O2, H2⟩ := H1.turned L1 [(x, .pointer (some ⟨fb, 0, none⟩))] (by simp) (fun p hp => by rw [List.mem_singleton] at hp; rw [hp]; exact .inr (List.mem_append_right _ (List.mem_singleton.2 rfl))) hlc hT
  exact ⟨own2, F', fc', fb, A', n', c', C', cc', pb, O1.trans O2, H2⟩
/-- What a change of the directory leaves of a whole disk. -/
def TurnedO (w : World) (d : Nat) (own : Nat → Nat) (b : DBox) (F : Option Addr) (fn fc : Nat) (SA : Option Addr) (sn sc cn : Nat) (fs css : List Value) (ps ss : List (ByteArray × Value)) (chl : List (List (ByteArray × Value))) (nm : Value → Nat) (dt : Value → List Value) (su : Value → Nat) (chs : List (ByteArray × Value)) (w' : World) : Prop :=
  ∃ own' A' n' c' C' cc' pb, Only own w own' w' ∧ DiskIn w' d own' { poweredB b with now := .slice A' n' c', changes := .slice C' (cn + 1) cc' } F fn fc A' n' c' SA sn sc C' (cn + 1) cc' fs (layP ps chs) ss (css ++ [.slice (some ⟨pb, 0, none⟩) chs.length chs.length]) (chl ++ [chs]) nm dt su
theorem DiskIn.remove_yes (H : DiskIn w d own b F fn fc RA rn rc SA sn sc C cn cc fs ps ss css chl nm dt su) (hb : b.calls < 80000) (hlc : sn + 2 * (cn + 1) ≤ 80000) (x : ByteArray) (hsz : x.size ≤ 1000000) (hE : withE b [x] ps x = 0) :
    Calls Tryz.prog 55 #[.pointer (some ⟨d, 0, none⟩), .string x] w fun e w' => e = .returned (.int .i64 0) ∧ TurnedO w d own b F fn fc SA sn sc cn fs css ps ss chl nm dt su [(x, .pointer none)] w' := by
  have hl := H.look x _ (withF_look b [x] ps x hE)
  obtain ⟨f, _, _, _, e, _⟩ := H.file _ hl
  refine (Go.Proofs.YtkjdjglknbgeaaaGreatDoor.remove_yes H.nowAt H.chAt x hsz hE _ e).mono ?_
  rintro e w' ⟨rfl, hT⟩
  exact ⟨rfl, H.turned (H.likeP hb) _ (by simp) (fun p hp => by rw [List.mem_singleton] at hp; rw [hp]; exact .inl rfl) hlc hT⟩
theorem DiskIn.rename_yes (H : DiskIn w d own b F fn fc RA rn rc SA sn sc C cn cc fs ps ss css chl nm dt su) (hb : b.calls < 80000) (hlc : sn + 2 * (cn + 1) ≤ 80000) (x y : ByteArray) (hsz : x.size ≤ 1000000) (hsz2 : y.size ≤ 1000000) (hE : withE b [x, y] ps x = 0) :
    Calls Tryz.prog 96 #[.pointer (some ⟨d, 0, none⟩), .string x, .string y] w fun e w' => e = .returned (.int .i64 0) ∧ TurnedO w d own b F fn fc SA sn sc cn fs css ps ss chl nm dt su [(x, .pointer none), (y, withF b [x, y] ps x)] w' := by
  have hl := H.look x _ (withF_look b [x, y] ps x hE)
  obtain ⟨f, _, _, _, e, _⟩ := H.file _ hl
  refine (Go.Proofs.YtkjdjglknbgeaaaGreatDoor.rename_yes H.nowAt H.chAt x y hsz hsz2 hE _ e).mono ?_
  rintro e' w' ⟨rfl, hT⟩
  rw [← e] at hT
  refine ⟨rfl, H.turned (H.likeP hb) _ (by simp) (fun p hp => ?_) hlc hT⟩
  simp only [List.mem_cons, List.not_mem_nil, or_false] at hp
  rcases hp with h | h
  · rw [h]; exact .inl rfl
  · rw [h]; exact .inr hl
/-- One file anew: its bytes, how many are sure. -/
theorem DiskIn.refiled (H : DiskIn w d own b F fn fc RA rn rc SA sn sc C cn cc fs ps ss css chl nm dt su) {b' : DBox} (L : Like b' b) (f : Nat) (hf : Value.pointer (some ⟨f, 0, none⟩) ∈ fs) (A A' : Option Addr) (n c n' c' s' : Nat) (xs : List Value) (hold : FileAt w f (nm (.pointer (some ⟨f, 0, none⟩))) A n c (su (.pointer (some ⟨f, 0, none⟩)))) (hln : n' ≤ 1048576) (hs' : s' ≤ n') (hxs : ∀ u ∈ xs, ∃ z : Int, 0 ≤ z ∧ z < 256 ∧ u = .int .u8 z)
    (hD : DBoxAt w' d b') (h1 : FileAt w' f (nm (.pointer (some ⟨f, 0, none⟩))) A' n' c' s') (h2 : SLine 1 w' A' n' c' xs) (hc : Chg (d :: f :: blk A) w w') (hA : ∀ k ∈ blk A', k ∈ blk A ∨ w.heap.size ≤ k) :
    ∃ own', Only own w own' w' ∧ DiskIn w' d own' b' F fn fc RA rn rc SA sn sc C cn cc fs ps ss css chl nm (updP dt f xs) (updP su f s') := by
  obtain ⟨f0, A0, n0, c0, e0, hf7, hfa, hsl, hoA, hn1, hsu⟩ := H.file _ hf
  cases e0
  obtain ⟨rfl, rfl, rfl⟩ : A0 = A ∧ n0 = n ∧ c0 = c := by
    have := hfa.c1.symm.trans hold.c1
    simp only [Option.some.injEq, Value.slice.injEq] at this
    exact this
  obtain ⟨num, hnum⟩ : ∃ num, nm (.pointer (some ⟨f, 0, none⟩)) = num := ⟨_, rfl⟩
  rw [hnum] at hoA
  have hfl := lt_of_block hfa
  obtain ⟨own', hown⟩ : ∃ own' : Nat → Nat, own' = fun i => if i < w.heap.size then own i else if i ∈ blk A' then 8 + num else 0 := ⟨_, rfl⟩
  have ho : ∀ i, i < w.heap.size → own' i = own i := fun i hi => by rw [hown]; simp only [hi, if_true]
  have hz := hc.size
  have hs : ∀ i, i < w.heap.size → own i ≠ 1 → i ≠ f → own i ≠ 8 + num → w'.heap[i]? = w.heap[i]? := fun i hi h1 h7 h8 => hc.same i hi (fun hm => by
    rcases List.mem_cons.1 hm with h | h
    · rw [h] at h1; exact h1 H.od
    · rcases List.mem_cons.1 h with h | h
      · exact h7 h
      · exact h8 (hoA i h))
  have hs2 : ∀ i, i < w.heap.size → own i ≠ 1 → own i ≠ 7 → own i ≠ 8 + num → w'.heap[i]? = w.heap[i]? := fun i hi h1 h7 h8 => hs i hi h1 (fun e => h7 (by rw [e]; exact hf7)) h8
  have hdo : ∀ g, g ≠ f → updP dt f xs (.pointer (some ⟨g, 0, none⟩)) = dt (.pointer (some ⟨g, 0, none⟩)) := fun g hg => updP_other _ _ _ _ hg
  refine ⟨own', ⟨hc.below, ho, fun i hi h0 => hs2 i hi (by omega) (by omega) (by omega)⟩, ?_⟩
  exact {
    box := hD
    od := (ho d H.box.lt).trans H.od
    files := L.files.trans H.files
    line := H.line.same hz fun k hk => hs2 k (H.line.lt k hk) (by rw [H.oF k hk]; omega) (by rw [H.oF k hk]; omega) (by rw [H.oF k hk]; omega)
    oF := fun k hk => (ho k (H.line.lt k hk)).trans (H.oF k hk)
    now := L.now.trans H.now
    nrow := H.nrow.same hz fun k hk => hs2 k (H.nrow.lt' k hk) (by rw [H.oR k hk]; omega) (by rw [H.oR k hk]; omega) (by rw [H.oR k hk]; omega)
    oR := fun k hk => (ho k (H.nrow.lt' k hk)).trans (H.oR k hk)
    sure := L.sure.trans H.sure
    srow := H.srow.same hz fun k hk => hs2 k (H.srow.lt' k hk) (by rw [H.oS k hk]; omega) (by rw [H.oS k hk]; omega) (by rw [H.oS k hk]; omega)
    oS := fun k hk => (ho k (H.srow.lt' k hk)).trans (H.oS k hk)
    changes := L.changes.trans H.changes
    cline := H.cline.same hz fun k hk => hs2 k (H.cline.lt k hk) (by rw [H.oC k hk]; omega) (by rw [H.oC k hk]; omega) (by rw [H.oC k hk]; omega)
    oC := fun k hk => (ho k (H.cline.lt k hk)).trans (H.oC k hk)
    chs := H.chs.carry hz ho fun k hk h6 => hs2 k hk (by omega) (by omega) (by omega)
    file := fun v hv => by
      obtain ⟨g, B, m, cg, e, hg7, hga, hgl, hoB, hm1, hms⟩ := H.file v hv
      subst e
      by_cases hgf : g = f
      · subst hgf
        rw [updP_same, updP_same, hnum]
        rw [hnum] at h1
        refine ⟨g, A', n', c', rfl, (ho g hfl).trans hf7, h1, h2, fun k hk => ?_, hln, hs'⟩
        rcases Nat.lt_or_ge k w.heap.size with h | h
        · rw [ho k h]
          rcases hA k hk with h' | h'
          · exact hoA k h'
          · omega
        · rw [hown]; simp only [show ¬ k < w.heap.size by omega, if_false, hk, if_true]
      · rw [hdo g hgf, updP_other _ _ _ _ hgf]
        have hgn : nm (.pointer (some ⟨g, 0, none⟩)) ≠ num := fun e' => by
          obtain ⟨i, hi, ei⟩ := List.mem_iff_getElem.1 hv
          obtain ⟨j, hj, ej⟩ := List.mem_iff_getElem.1 hf
          have hij : i ≠ j := fun e'' => by subst e''; rw [ei] at ej; cases ej; exact hgf rfl
          have hp := List.pairwise_iff_getElem.1 H.rises
          rcases Nat.lt_or_ge i j with h | h
          · have := hp i j hi hj h; rw [ei, ej] at this; omega
          · have := hp j i hj hi (by omega); rw [ei, ej] at this; omega
        have hgl' := lt_of_block hga
        exact ⟨g, B, m, cg, rfl, (ho g hgl').trans hg7, hga.same (hs g hgl' (by omega) hgf (by omega)), hgl.same hz (fun k hk => hs k (hgl.lt k hk) (by have := hoB k hk; omega) (fun e'' => by have := hoB k hk; rw [e'', hf7] at this; omega) (by have := hoB k hk; omega)), fun k hk => (ho k (hgl.lt k hk)).trans (hoB k hk), hm1, hms⟩
    num := fun v hv => by rw [L.made]; exact H.num v hv
    bytes := fun v hv => by
      obtain ⟨g, _, _, _, e, _⟩ := H.file v hv
      subst e
      by_cases hgf : g = f
      · subst hgf; rw [updP_same]; exact hxs
      · rw [hdo g hgf]; exact H.bytes _ hv
    rises := H.rises
    lay := H.lay
    sin := H.sin
    cin := H.cin
    made := by rw [L.made]; exact H.made
    quota := L.quota
    calls := L.calls
    ahead := L.ahead
    lenF := H.lenF
    lenC := H.lenC }
/-- What a call that writes one file leaves of a whole disk. -/
def FiledO (w : World) (d : Nat) (own : Nat → Nat) (b' : DBox) (F : Option Addr) (fn fc : Nat) (RA : Option Addr) (rn rc : Nat) (SA : Option Addr) (sn sc : Nat) (C : Option Addr) (cn cc : Nat) (fs css : List Value) (ps ss : List (ByteArray × Value)) (chl : List (List (ByteArray × Value))) (nm : Value → Nat) (dt : Value → List Value) (su : Value → Nat) (w' : World) : Prop :=
  ∃ own', Only own w own' w' ∧ DiskIn w' d own' b' F fn fc RA rn rc SA sn sc C cn cc fs ps ss css chl nm dt su
theorem DiskIn.sync_yes (H : DiskIn w d own b F fn fc RA rn rc SA sn sc C cn cc fs ps ss css chl nm dt su) (hb : b.calls < 80000) (x : ByteArray) (hsz : x.size ≤ 1000000) (hE : withE b [x] ps x = 0) (f : Nat) (hF : withF b [x] ps x = .pointer (some ⟨f, 0, none⟩)) :
    Calls Tryz.prog 94 #[.pointer (some ⟨d, 0, none⟩), .string x] w fun e w' => e = .returned (.int .i64 0) ∧ FiledO w d own (poweredB b) F fn fc RA rn rc SA sn sc C cn cc fs css ps ss chl nm (updP dt f (dt (.pointer (some ⟨f, 0, none⟩)))) (updP su f (dt (.pointer (some ⟨f, 0, none⟩))).length) w' := by
  have hl := H.look x _ (withF_look b [x] ps x hE)
  rw [hF] at hl
  obtain ⟨f0, A, n, c, e, hf7, hfa, hsl, hoA, hn1, hsu⟩ := H.file _ hl
  cases e
  obtain rfl : n = (dt (.pointer (some ⟨f, 0, none⟩))).length := by have := hsl.1; omega
  refine (Go.Proofs.YtkjdjglknbgeaaaGreatDoor.sync_yes H.nowAt x hsz hE f _ hF A _ c _ hfa (fun e => by rw [e, H.od] at hf7; omega)).mono ?_
  rintro e w' ⟨rfl, hD, hf', hc⟩
  have hc' : Chg (d :: f :: blk A) w w' := hc.weaken (fun k hk => .inl (by simp only [List.mem_cons, List.not_mem_nil, or_false] at hk ⊢; rcases hk with h | h; exact .inl h; exact .inr (.inl h)))
  refine ⟨rfl, H.refiled (H.likeP hb) f hl A A _ c _ c _ _ hfa hn1 (Nat.le_refl _) (H.bytes _ hl) hD hf' ?_ hc' (fun k hk => .inl hk)⟩
  refine hsl.chg hc (fun k hk hm => ?_)
  have := hoA k hk
  simp only [List.mem_cons, List.not_mem_nil, or_false] at hm
  rcases hm with h | h
  · rw [h, H.od] at this; omega
  · rw [h, hf7] at this; omega
end
end Go.Proofs.YtkjdjglknbgeaaaGreatDoor
namespace Go.Proofs.YtkjdjglknbgeaaaGreatDoor
open Go.RowKit Go.Maps
set_option linter.unusedVariables false
set_option maxRecDepth 100000

theorem sumLen_le (ln : Value → Nat) (m : Nat) : ∀ ps : List (ByteArray × Value), (∀ p ∈ ps, ln p.2 ≤ m) → sumLen ln ps ≤ ps.length * m := by
  intro ps
  induction ps with
  | nil => intro _; simp [sumLen]
  | cons p l ih =>
    intro h
    have h1 := h p (List.mem_cons_self ..)
    have h2 := ih (fun q hq => h q (List.mem_cons_of_mem _ hq))
    have e : sumLen ln (p :: l) = ln p.2 + sumLen ln l := by unfold sumLen; simp
    rw [e, List.length_cons, Nat.succ_mul]
    omega
section
variable {w w' : World} {d : Nat} {own own' : Nat → Nat} {b : DBox} {F RA SA C : Option Addr} {fn fc rn rc sn sc cn cc : Nat} {fs css : List Value} {ps ss : List (ByteArray × Value)} {chl : List (List (ByteArray × Value))} {nm su : Value → Nat} {dt : Value → List Value}
/-- How many bytes a disk's names have. -/
def usedO (dt : Value → List Value) (ps : List (ByteArray × Value)) : Nat := sumLen (fun v => (dt v).length) ps
theorem DiskIn.filesIn (H : DiskIn w d own b F fn fc RA rn rc SA sn sc C cn cc fs ps ss css chl nm dt su) : FilesIn w (fun v => (dt v).length) ps := fun p hp => by
  obtain ⟨f, A, n, c, e, h7, hfa, hsl, _⟩ := H.file _ (H.nin p hp)
  obtain rfl : n = (dt p.2).length := by have := hsl.1; omega
  exact ⟨f, _, A, c, _, e, hfa⟩
theorem DiskIn.usedLe (H : DiskIn w d own b F fn fc RA rn rc SA sn sc C cn cc fs ps ss css chl nm dt su) : usedO dt ps ≤ 1000000000000 := by
  have h := sumLen_le (fun v => (dt v).length) 1048576 ps (fun p hp => by
    obtain ⟨f, A, n, c, e, h7, hfa, hsl, hoA, hn, _⟩ := H.file _ (H.nin p hp)
    have := hsl.1
    show (dt p.2).length ≤ _
    omega)
  have h2 := H.nowAt.len
  have h3 := H.nrow.len
  unfold usedO
  omega
theorem DiskIn.notBox (H : DiskIn w d own b F fn fc RA rn rc SA sn sc C cn cc fs ps ss css chl nm dt su) : ∀ p ∈ ps, p.2 ≠ .pointer (some ⟨d, 0, none⟩) := fun p hp e => by
  have h := H.nin p hp
  rw [e] at h
  have := H.ownf d h
  have := H.od
  omega
theorem DiskIn.append_big (H : DiskIn w d own b F fn fc RA rn rc SA sn sc C cn cc fs ps ss css chl nm dt su) (hb : b.calls < 80000) (x : ByteArray) (hsz : x.size ≤ 1000000) (hE : withE b [x] ps x = 0) (f : Nat) (hF : withF b [x] ps x = .pointer (some ⟨f, 0, none⟩)) (BA : Option Addr) (bn bc : Nat) (hbn : bn ≤ 10000000) (hbig : 1048576 < (dt (.pointer (some ⟨f, 0, none⟩))).length + bn) :
    Calls Tryz.prog 39 #[.pointer (some ⟨d, 0, none⟩), .string x, .slice BA bn bc] w fun e w' => e = .returned (.int .i64 2) ∧ Only own w own w' ∧ DiskIn w' d own (poweredB b) F fn fc RA rn rc SA sn sc C cn cc fs ps ss css chl nm dt su := by
  have hl := H.look x _ (withF_look b [x] ps x hE)
  rw [hF] at hl
  obtain ⟨f0, A, n, c, e, hf7, hfa, hsl, hoA, hn1, hsu⟩ := H.file _ hl
  cases e
  obtain rfl : n = (dt (.pointer (some ⟨f, 0, none⟩))).length := by have := hsl.1; omega
  refine (Go.Proofs.YtkjdjglknbgeaaaGreatDoor.append_big H.nowAt x hsz hE f _ hF A _ c _ hfa (fun e => by rw [e, H.od] at hf7; omega) BA bn bc (by omega) hbn hbig).mono ?_
  rintro e w' ⟨rfl, hD, hc⟩
  exact ⟨rfl, H.off1 hb hD hc⟩
theorem DiskIn.append_no (H : DiskIn w d own b F fn fc RA rn rc SA sn sc C cn cc fs ps ss css chl nm dt su) (hb : b.calls < 80000) (x : ByteArray) (hsz : x.size ≤ 1000000) (hE : withE b [x] ps x ≠ 0) (BA : Option Addr) (bn bc : Nat) :
    Calls Tryz.prog 39 #[.pointer (some ⟨d, 0, none⟩), .string x, .slice BA bn bc] w fun e w' => e = .returned (.int .i64 (withE b [x] ps x)) ∧ Only own w own w' ∧ DiskIn w' d own (poweredB b) F fn fc RA rn rc SA sn sc C cn cc fs ps ss css chl nm dt su := by
  refine (Go.Proofs.YtkjdjglknbgeaaaGreatDoor.append_no H.nowAt x hsz hE BA bn bc).mono ?_
  rintro e w' ⟨rfl, hD, hc⟩
  exact ⟨rfl, H.off1 hb hD hc⟩
theorem DiskIn.append_full (H : DiskIn w d own b F fn fc RA rn rc SA sn sc C cn cc fs ps ss css chl nm dt su) (hb : b.calls < 80000) (x : ByteArray) (hsz : x.size ≤ 1000000) (hE : withE b [x] ps x = 0) (f : Nat) (hF : withF b [x] ps x = .pointer (some ⟨f, 0, none⟩)) (BA : Option Addr) (bn bc : Nat) (hsmall : (dt (.pointer (some ⟨f, 0, none⟩))).length + bn ≤ 1048576) (hfull : b.quota < (usedO dt ps : Int) + (bn : Int)) :
    Calls Tryz.prog 39 #[.pointer (some ⟨d, 0, none⟩), .string x, .slice BA bn bc] w fun e w' => e = .returned (.int .i64 4) ∧ Only own w own w' ∧ DiskIn w' d own { poweredB b with full := true } F fn fc RA rn rc SA sn sc C cn cc fs ps ss css chl nm dt su := by
  have hl := H.look x _ (withF_look b [x] ps x hE)
  rw [hF] at hl
  obtain ⟨f0, A, n, c, e, hf7, hfa, hsl, hoA, hn1, hsu⟩ := H.file _ hl
  cases e
  obtain rfl : n = (dt (.pointer (some ⟨f, 0, none⟩))).length := by have := hsl.1; omega
  refine (Go.Proofs.YtkjdjglknbgeaaaGreatDoor.append_full H.nowAt x hsz hE f _ hF A _ c _ hfa (fun e => by rw [e, H.od] at hf7; omega) BA bn bc (by omega) (by omega) hsmall _ H.filesIn H.notBox H.usedLe hfull).mono ?_
  rintro e w' ⟨rfl, hD, hc⟩
  have L := H.likeP hb
  exact ⟨rfl, Only.of_chg hc (fun k hk => by rw [List.mem_singleton] at hk; rw [hk, H.od]; exact .inl (by omega)), H.boxed hc _ hD L.files L.now L.sure L.changes L.made L.quota L.calls L.ahead⟩
theorem DiskIn.append_yes (H : DiskIn w d own b F fn fc RA rn rc SA sn sc C cn cc fs ps ss css chl nm dt su) (hb : b.calls < 80000) (x : ByteArray) (hsz : x.size ≤ 1000000) (hE : withE b [x] ps x = 0) (f : Nat) (hF : withF b [x] ps x = .pointer (some ⟨f, 0, none⟩)) (BA : Option Addr) (bn bc : Nat) (hsmall : (dt (.pointer (some ⟨f, 0, none⟩))).length + bn ≤ 1048576) (hroom : (usedO dt ps : Int) + (bn : Int) ≤ b.quota)
    (news : List Value) (hnews : ∀ u ∈ news, ∃ z : Int, 0 ≤ z ∧ z < 256 ∧ u = .int .u8 z) (hsrc : ∀ W, Chg [d] w W → Src Tryz.prog 1 22 (.slice BA bn bc) bn news W) :
    Calls Tryz.prog 39 #[.pointer (some ⟨d, 0, none⟩), .string x, .slice BA bn bc] w fun e w' => e = .returned (.int .i64 0) ∧ FiledO w d own (poweredB b) F fn fc RA rn rc SA sn sc C cn cc fs css ps ss chl nm (updP dt f (dt (.pointer (some ⟨f, 0, none⟩)) ++ news)) (updP su f (su (.pointer (some ⟨f, 0, none⟩)))) w' := by
  have hl := H.look x _ (withF_look b [x] ps x hE)
  rw [hF] at hl
  obtain ⟨f0, A, n, c, e, hf7, hfa, hsl, hoA, hn1, hsu⟩ := H.file _ hl
  cases e
  obtain rfl : n = (dt (.pointer (some ⟨f, 0, none⟩))).length := by have := hsl.1; omega
  refine (append_ok H.nowAt x hsz hE f _ hF A _ c _ hfa (fun e => by rw [e, H.od] at hf7; omega) BA bn bc (by omega) (by omega) hsmall _ H.filesIn H.notBox H.usedLe hroom _ hsl (fun hm => by have := hoA f hm; omega) (fun hm => by have := hoA d hm; have := H.od; omega) news hsrc).mono ?_
  rintro e w' ⟨rfl, A', c', hD, hf', hsl', hc, hA'⟩
  exact ⟨rfl, H.refiled (H.likeP hb) f hl A A' _ c _ c' _ _ hfa hsmall (by omega) (fun u hu => by
    rcases List.mem_append.1 hu with h | h
    · exact H.bytes _ hl u h
    · exact hnews u h) hD hf' hsl' hc hA'⟩
theorem DiskIn.read_yes (H : DiskIn w d own b F fn fc RA rn rc SA sn sc C cn cc fs ps ss css chl nm dt su) (x : ByteArray) (v : Value) (hv : lookP ltS ps x = some v) :
    Calls Tryz.prog 36 #[.pointer (some ⟨d, 0, none⟩), .string x] w fun e w' => ∃ A' c', e = .returned (.tuple #[.slice A' (dt v).length c', .int .i64 0]) ∧ SLine 1 w' A' (dt v).length c' (dt v) ∧ (∀ k ∈ blk A', w.heap.size ≤ k) ∧ Below w.heap.size w w' := by
  have hl := H.look x _ hv
  obtain ⟨f, A, n, c, rfl, hf7, hfa, hsl, hoA, hn1, hsu⟩ := H.file _ hl
  obtain rfl : n = (dt (.pointer (some ⟨f, 0, none⟩))).length := by have := hsl.1; omega
  exact Go.Proofs.YtkjdjglknbgeaaaGreatDoor.read_yes H.nowAt x f _ hv A _ c _ _ hfa hsl (by omega) (fun u hu => by obtain ⟨z, _, _, ez⟩ := H.bytes _ hl u hu; rw [ez]; rfl)
theorem DiskIn.read_no (H : DiskIn w d own b F fn fc RA rn rc SA sn sc C cn cc fs ps ss css chl nm dt su) (x : ByteArray) (hno : hasP ltS ps x = false) :
    Calls Tryz.prog 36 #[.pointer (some ⟨d, 0, none⟩), .string x] w fun e w' => e = .returned (.tuple #[.slice none 0 0, .int .i64 3]) ∧ Below w.heap.size w w' := Go.Proofs.YtkjdjglknbgeaaaGreatDoor.read_no H.nowAt x hno
end
/-- A new disk. -/
def newB (q : Int) : DBox := ⟨.slice none 0 0, 0, .slice none 0 0, .slice none 0 0, .slice none 0 0, max q 0, false, -1, false, 0⟩
theorem DiskIn.new (q : Int) (hq : q ≤ 9223372036854775807) (w : World) (own : Nat → Nat) (nm su : Value → Nat) (dt : Value → List Value) : Calls Tryz.prog 17 #[.int .i64 q] w fun e w' =>
    e = .returned (.pointer (some ⟨w.heap.size, 0, none⟩)) ∧ ∃ own', (∀ i, i < w.heap.size → own' i = own i) ∧ DiskIn w' w.heap.size own' (newB q) none 0 0 none 0 0 none 0 0 none 0 0 [] [] [] [] [] nm dt su ∧ Below w.heap.size w w' := by
  refine (dnew_any q w).mono ?_
  rintro e w' ⟨rfl, hD, hB⟩
  refine ⟨rfl, fun i => if i < w.heap.size then own i else 1, fun i hi => if_pos hi, ?_, hB⟩
  have hn : ∀ k, k ∈ blk none → False := fun k hk => by obtain ⟨ad, ea, _⟩ := mem_blk.1 hk; cases ea
  exact {
    box := hD
    od := if_neg (Nat.lt_irrefl _)
    files := rfl
    line := SLine.nil 1 _
    oF := fun k hk => (hn k hk).elim
    now := rfl
    nrow := RowG.nil _
    oR := fun k hk => (hn k hk).elim
    sure := rfl
    srow := RowG.nil _
    oS := fun k hk => (hn k hk).elim
    changes := rfl
    cline := SLine.nil 1 _
    oC := fun k hk => (hn k hk).elim
    chs := ⟨rfl, fun i v c h => by simp at h⟩
    file := fun v hv => by cases hv
    num := fun v hv => by cases hv
    bytes := fun v hv => by cases hv
    rises := List.Pairwise.nil
    lay := rfl
    sin := fun p hp => by cases hp
    cin := fun c hc => by cases hc
    made := by show (0 : Int) ≤ 0 ∧ (0 : Int) ≤ 80000; omega
    quota := by show 0 ≤ max q 0 ∧ max q 0 ≤ 9223372036854775807; omega
    calls := by show (0 : Int) ≤ 0 ∧ (0 : Int) ≤ 80000; omega
    ahead := by show (-1 : Int) ≤ 9223372036854775807; omega
    lenF := by omega
    lenC := by omega }
end Go.Proofs.YtkjdjglknbgeaaaGreatDoor
namespace Go.Proofs.YtkjdjglknbgeaaaGreatDoor
open Go.RowKit Go.Maps
set_option linter.unusedVariables false
set_option maxRecDepth 100000

section
variable {w w' : World} {d : Nat} {own own' : Nat → Nat} {b : DBox} {F RA SA C : Option Addr} {fn fc rn rc sn sc cn cc : Nat} {fs css : List Value} {ps ss : List (ByteArray × Value)} {chl : List (List (ByteArray × Value))} {nm su : Value → Nat} {dt : Value → List Value}
theorem DiskIn.create_no (H : DiskIn w d own b F fn fc RA rn rc SA sn sc C cn cc fs ps ss css chl nm dt su) (hb : b.calls < 80000) (x : ByteArray) (hsz : x.size ≤ 1000000) (hE : beginE b [x] ≠ 0) :
    Calls Tryz.prog 38 #[.pointer (some ⟨d, 0, none⟩), .string x] w fun e w' => e = .returned (.int .i64 (beginE b [x])) ∧ Only own w own w' ∧ DiskIn w' d own (poweredB b) F fn fc RA rn rc SA sn sc C cn cc fs ps ss css chl nm dt su := by
  refine (create_err H.nowAt x hsz hE).mono ?_
  rintro e w' ⟨rfl, hD, hc⟩
  exact ⟨rfl, H.off1 hb hD hc⟩
theorem DiskIn.create_big (H : DiskIn w d own b F fn fc RA rn rc SA sn sc C cn cc fs ps ss css chl nm dt su) (hb : b.calls < 80000) (x : ByteArray) (hsz : x.size ≤ 1000000) (hE : beginE b [x] = 0) (hno : hasP ltS ps x = false) (hbig : 1024 ≤ rn) :
    Calls Tryz.prog 38 #[.pointer (some ⟨d, 0, none⟩), .string x] w fun e w' => e = .returned (.int .i64 2) ∧ Only own w own w' ∧ DiskIn w' d own (poweredB b) F fn fc RA rn rc SA sn sc C cn cc fs ps ss css chl nm dt su := by
  refine (Go.Proofs.YtkjdjglknbgeaaaGreatDoor.create_big H.nowAt x hsz hE hno hbig).mono ?_
  rintro e w' ⟨rfl, hD, hc⟩
  exact ⟨rfl, H.off1 hb hD hc⟩
theorem DiskIn.sync_no (H : DiskIn w d own b F fn fc RA rn rc SA sn sc C cn cc fs ps ss css chl nm dt su) (hb : b.calls < 80000) (x : ByteArray) (hsz : x.size ≤ 1000000) (hE : withE b [x] ps x ≠ 0) :
    Calls Tryz.prog 94 #[.pointer (some ⟨d, 0, none⟩), .string x] w fun e w' => e = .returned (.int .i64 (withE b [x] ps x)) ∧ Only own w own w' ∧ DiskIn w' d own (poweredB b) F fn fc RA rn rc SA sn sc C cn cc fs ps ss css chl nm dt su := by
  refine (Go.Proofs.YtkjdjglknbgeaaaGreatDoor.sync_no H.nowAt x hsz hE).mono ?_
  rintro e w' ⟨rfl, hD, hc⟩
  exact ⟨rfl, H.off1 hb hD hc⟩
theorem DiskIn.remove_no (H : DiskIn w d own b F fn fc RA rn rc SA sn sc C cn cc fs ps ss css chl nm dt su) (hb : b.calls < 80000) (x : ByteArray) (hsz : x.size ≤ 1000000) (hE : withE b [x] ps x ≠ 0) :
    Calls Tryz.prog 55 #[.pointer (some ⟨d, 0, none⟩), .string x] w fun e w' => e = .returned (.int .i64 (withE b [x] ps x)) ∧ Only own w own w' ∧ DiskIn w' d own (poweredB b) F fn fc RA rn rc SA sn sc C cn cc fs ps ss css chl nm dt su := by
  refine (Go.Proofs.YtkjdjglknbgeaaaGreatDoor.remove_no H.nowAt x hsz hE).mono ?_
  rintro e w' ⟨rfl, hD, hc⟩
  exact ⟨rfl, H.off1 hb hD hc⟩
theorem DiskIn.rename_no (H : DiskIn w d own b F fn fc RA rn rc SA sn sc C cn cc fs ps ss css chl nm dt su) (hb : b.calls < 80000) (x y : ByteArray) (hsz : x.size ≤ 1000000) (hsz2 : y.size ≤ 1000000) (hE : withE b [x, y] ps x ≠ 0) :
    Calls Tryz.prog 96 #[.pointer (some ⟨d, 0, none⟩), .string x, .string y] w fun e w' => e = .returned (.int .i64 (withE b [x, y] ps x)) ∧ Only own w own w' ∧ DiskIn w' d own (poweredB b) F fn fc RA rn rc SA sn sc C cn cc fs ps ss css chl nm dt su := by
  refine (Go.Proofs.YtkjdjglknbgeaaaGreatDoor.rename_no H.nowAt x y hsz hsz2 hE).mono ?_
  rintro e w' ⟨rfl, hD, hc⟩
  exact ⟨rfl, H.off1 hb hD hc⟩
theorem DiskIn.stop (H : DiskIn w d own b F fn fc RA rn rc SA sn sc C cn cc fs ps ss css chl nm dt su) (k : Int) (hk : k ≤ 9223372036854775807) :
    Calls Tryz.prog 31 #[.pointer (some ⟨d, 0, none⟩), .int .i64 k] w fun e w' => (∃ v, e = .returned v) ∧ Only own w own w' ∧ DiskIn w' d own { b with ahead := k } F fn fc RA rn rc SA sn sc C cn cc fs ps ss css chl nm dt su := by
  refine (dstop_any w d b H.box k).mono ?_
  rintro e w' ⟨he, hD, hc⟩
  exact ⟨he, Only.of_chg hc (fun k hk => by rw [List.mem_singleton] at hk; rw [hk, H.od]; exact .inl (by omega)), H.boxed hc _ hD rfl rfl rfl rfl rfl H.quota H.calls hk⟩
set_option maxHeartbeats 800000 in
theorem DiskIn.quotaTo (H : DiskIn w d own b F fn fc RA rn rc SA sn sc C cn cc fs ps ss css chl nm dt su) (n : Int) (hn : -9223372036854775808 ≤ n ∧ n ≤ 9223372036854775807) :
    Calls Tryz.prog 41 #[.pointer (some ⟨d, 0, none⟩), .int .i64 n] w fun e w' => (∃ v, e = .returned v) ∧ Only own w own w' ∧ DiskIn w' d own { b with quota := max n 0, full := false } F fn fc RA rn rc SA sn sc C cn cc fs ps ss css chl nm dt su := by
  obtain ⟨m, hm⟩ : ∃ m, max n 0 = m := ⟨_, rfl⟩
  have hm0 : 0 ≤ m ∧ m ≤ 9223372036854775807 := by omega
  rw [hm]
  have c5 : w.cell? ⟨d, 5, none⟩ = some (.int .i64 b.quota) := H.box.cell 5 _ rfl
  have f5 := H.box.free 5
  obtain ⟨wA, hwA⟩ : ∃ wA, w.setCell ⟨d, 5, none⟩ (.int .i64 m) = wA := ⟨_, rfl⟩
  have hDA : DBoxAt wA d { b with quota := m } := by rw [← hwA]; exact H.box.set 5 _ _ rfl
  have c6 : wA.cell? ⟨d, 6, none⟩ = some (.bool b.full) := hDA.cell 6 _ rfl
  have f6 := hDA.free 6
  obtain ⟨wB, hwB⟩ : ∃ wB, wA.setCell ⟨d, 6, none⟩ (.bool false) = wB := ⟨_, rfl⟩
  have hDB : DBoxAt wB d { b with quota := m, full := false } := by rw [← hwB]; exact hDA.set 6 _ _ rfl
  have hcB : Chg [d] w wB := by
    rw [← hwB, ← hwA]
    exact ((Chg.refl _ w).setCell d 5 _ (.inl (by simp))).setCell d 6 _ (.inl (by simp))
  have HEND := Lib.hid (And.intro (Only.of_chg (own := own) hcB (fun k hk => by rw [List.mem_singleton] at hk; rw [hk, H.od]; exact .inl (by omega))) (H.boxed hcB _ hDB rfl rfl rfl rfl rfl hm0 H.calls H.ahead))
  clear H hDA hDB hcB hm0
  go_enter Tryz.func41, Tryz.ntmps41
  go_wp2
  go_end0
  exact ⟨⟨_, rfl⟩, HEND.out⟩
end
end Go.Proofs.YtkjdjglknbgeaaaGreatDoor
namespace Go.Proofs.YtkjdjglknbgeaaaGreatDoor
open Go.RowKit Go.Maps
set_option linter.unusedVariables false
set_option maxRecDepth 100000

section
variable {w w' : World} {d : Nat} {own own' : Nat → Nat} {b : DBox} {F RA SA C : Option Addr} {fn fc rn rc sn sc cn cc : Nat} {fs css : List Value} {ps ss : List (ByteArray × Value)} {chl : List (List (ByteArray × Value))} {nm su : Value → Nat} {dt : Value → List Value}
set_option maxHeartbeats 800000 in
theorem DiskIn.turn_no (H : DiskIn w d own b F fn fc RA rn rc SA sn sc C cn cc fs ps ss css chl nm dt su) (x : ByteArray) (hno : hasP ltS ps x = false) (at_ : Int) (hat : -9223372036854775808 ≤ at_ ∧ at_ ≤ 9223372036854775807) (mask : Int) :
    Calls Tryz.prog 37 #[.pointer (some ⟨d, 0, none⟩), .string x, .int .i64 at_, .int .u8 mask] w fun e w' => e = .returned (.bool false) ∧ Below w.heap.size w w' := by
  have HN := Lib.hid (dnames_any w d)
  have HGET := Lib.hid (rget_S w d 2 RA rn rc ps H.nowAt.rowAt x (by have := H.nowAt.len; omega))
  have hl : lookP ltS ps x = none := by unfold hasP at hno; cases h : lookP ltS ps x with | none => rfl | some _ => rw [h] at hno; cases hno
  rw [hno, hl] at HGET
  clear H hno hl
  go_enter Tryz.func37, Tryz.ntmps37
  go_wp2_with (first
    | (go_at_call 66; refine HN.out.mono ?_; rintro e w1 ⟨rfl, rfl⟩)
    | (go_at_call 76; refine HGET.out.mono ?_; rintro e w2 ⟨rfl, hb⟩; have HB := Lib.hid hb; clear hb))
  go_ret
  exact ⟨rfl, HB.out⟩
set_option maxHeartbeats 800000 in
theorem DiskIn.turn_out (H : DiskIn w d own b F fn fc RA rn rc SA sn sc C cn cc fs ps ss css chl nm dt su) (x : ByteArray) (v : Value) (hv : lookP ltS ps x = some v) (at_ : Int) (hat : -9223372036854775808 ≤ at_ ∧ at_ ≤ 9223372036854775807) (hout : at_ < 0 ∨ ((dt v).length : Int) ≤ at_) (mask : Int) :
    Calls Tryz.prog 37 #[.pointer (some ⟨d, 0, none⟩), .string x, .int .i64 at_, .int .u8 mask] w fun e w' => e = .returned (.bool false) ∧ Below w.heap.size w w' := by
  have HN := Lib.hid (dnames_any w d)
  have HGET := Lib.hid (rget_S w d 2 RA rn rc ps H.nowAt.rowAt x (by have := H.nowAt.len; omega))
  have hh : hasP ltS ps x = true := by unfold hasP; rw [hv]; rfl
  have hl := H.look x _ hv
  obtain ⟨f, A, n, c, rfl, hf7, hfa, hsl, hoA, hn1, hsu⟩ := H.file _ hl
  obtain rfl : n = (dt (.pointer (some ⟨f, 0, none⟩))).length := by have := hsl.1; omega
  obtain ⟨n, hn⟩ : ∃ n, (dt (.pointer (some ⟨f, 0, none⟩))).length = n := ⟨_, rfl⟩
  rw [hn] at hout hfa hsl hn1
  rw [hh, hv] at HGET
  simp only [Option.getD_some] at HGET
  have HF := Lib.hid hfa
  clear H hh hl hv hfa hsl hoA hsu hn hf7
  rcases hout with h | h
  all_goals
    first | (have h0 : ¬ (0 : Int) ≤ at_ := by omega) | (have h0 : True := trivial)
    go_enter Tryz.func37, Tryz.ntmps37
    go_wp2_with (first
      | (go_at_call 66; refine HN.out.mono ?_; rintro e w1 ⟨rfl, rfl⟩)
      | (go_at_call 76; refine HGET.out.mono ?_; rintro e w2 ⟨rfl, hb⟩; have HB := Lib.hid hb; have hf2 := HF.out.same (hb.block f (lt_of_block HF.out)); have c1 := hf2.c1; clear hb hf2))
    all_goals
      go_ret
      exact ⟨rfl, HB.out⟩
set_option maxHeartbeats 1600000 in
theorem DiskIn.turn_yes (H : DiskIn w d own b F fn fc RA rn rc SA sn sc C cn cc fs ps ss css chl nm dt su) (x : ByteArray) (f : Nat) (hv : lookP ltS ps x = some (.pointer (some ⟨f, 0, none⟩))) (k : Nat) (hk : k < (dt (.pointer (some ⟨f, 0, none⟩))).length) (mask : Nat) (hmask : mask < 256) :
    Calls Tryz.prog 37 #[.pointer (some ⟨d, 0, none⟩), .string x, .int .i64 (k : Int), .int .u8 (mask : Int)] w fun e w' => e = .returned (.bool true) ∧ ∃ u : Nat, (dt (.pointer (some ⟨f, 0, none⟩)))[k]? = some (.int .u8 (u : Int)) ∧ u < 256 ∧ FiledO w d own b F fn fc RA rn rc SA sn sc C cn cc fs css ps ss chl nm (updP dt f ((dt (.pointer (some ⟨f, 0, none⟩))).set k (.int .u8 ((u ^^^ mask : Nat) : Int)))) (updP su f (su (.pointer (some ⟨f, 0, none⟩)))) w' := by
  have HN := Lib.hid (dnames_any w d)
  have HGET := Lib.hid (rget_S w d 2 RA rn rc ps H.nowAt.rowAt x (by have := H.nowAt.len; omega))
  have hh : hasP ltS ps x = true := by unfold hasP; rw [hv]; rfl
  have hl := H.look x _ hv
  obtain ⟨f0, A, n, c, e0, hf7, hfa, hsl, hoA, hn1, hsu⟩ := H.file _ hl
  cases e0
  obtain rfl : n = (dt (.pointer (some ⟨f, 0, none⟩))).length := by have := hsl.1; omega
  obtain ⟨z, hz0, hz1, hz⟩ := H.bytes _ hl _ (List.getElem_mem hk)
  obtain ⟨y, rfl⟩ : ∃ y : Nat, z = (y : Int) := ⟨z.toNat, by omega⟩
  have hg := List.getElem?_eq_getElem hk
  rw [hz] at hg
  have hy : y < 256 := by omega
  have hlm := hsl.1
  have L : Like b b := ⟨rfl, rfl, rfl, rfl, rfl, H.quota, H.calls, H.ahead⟩
  have hx256 : y ^^^ mask < 256 := Nat.xor_lt_two_pow (n := 8) hy hmask
  have HFIN : Hid (∀ (W W' : World) (g off : Nat), A = some ⟨g, off, none⟩ → Below w.heap.size w W → W.setCell ⟨g, off + k, none⟩ (.int .u8 ((y ^^^ mask : Nat) : Int)) = W' → FiledO w d own b F fn fc RA rn rc SA sn sc C cn cc fs css ps ss chl nm (updP dt f ((dt (.pointer (some ⟨f, 0, none⟩))).set k (.int .u8 ((y ^^^ mask : Nat) : Int)))) (updP su f (su (.pointer (some ⟨f, 0, none⟩)))) W') := Lib.hid (by
    rintro W W' g off rfl hB rfl
    have hog := hoA g (mem_blk.2 ⟨_, rfl, rfl⟩)
    have hc1 : Chg [g] W (W.setCell ⟨g, off + k, none⟩ (.int .u8 ((y ^^^ mask : Nat) : Int))) := (Chg.refl _ W).setCell g _ _ (.inl (by simp))
    have hfg : f ∉ [g] := fun hm => by rw [List.mem_singleton] at hm; rw [hm] at hf7; omega
    have hdg : d ∉ [g] := fun hm => by rw [List.mem_singleton] at hm; have := H.od; rw [hm] at this; omega
    have hset := (hsl.below hB).set k [.int .u8 ((y ^^^ mask : Nat) : Int)] (by simp; omega)
    rw [setCells_one] at hset
    refine H.refiled L f hl _ (some ⟨g, off, none⟩) _ c _ c _ _ hfa hn1 hsu ?_ ((H.box.below hB).chg hc1 hdg) ((hfa.same (hB.block f (lt_of_block hfa))).same (hc1.same f (by have := lt_of_block hfa; have := hB.size; omega) hfg)) ?_ ((Chg.of_below hB).andThen hc1 (fun i hi => .inl (by rw [List.mem_singleton] at hi; rw [hi]; exact List.mem_cons_of_mem _ (List.mem_cons_of_mem _ (mem_blk.2 ⟨_, rfl, rfl⟩))))) (fun i hi => .inl hi)
    · intro u hu
      rcases List.mem_or_eq_of_mem_set hu with h | h
      · exact H.bytes _ hl u h
      · exact ⟨_, by omega, by omega, h⟩
    · rw [List.set_eq_take_append_cons_drop, if_pos hk]
      simpa using hset)
  have hxr := u8_xor_nat y mask hy hmask
  obtain ⟨nx, hnx⟩ : ∃ nx, y ^^^ mask = nx := ⟨_, rfl⟩
  rw [hnx] at hxr HFIN hx256
  have HG := Lib.hid (And.intro hg (And.intro hy hnx))
  obtain ⟨n, hn⟩ : ∃ n, (dt (.pointer (some ⟨f, 0, none⟩))).length = n := ⟨_, rfl⟩
  rw [hn] at hfa hsl hn1 hk
  obtain ⟨g, off, rfl, hgl, hcs, hfr⟩ := hsl.at (by omega)
  have hck := hcs k (by omega)
  rw [hg] at hck
  have hfk := (hfr k (by have := hsl.2.1; omega)).2
  rw [hh, hv] at HGET
  simp only [Option.getD_some] at HGET
  have HF := Lib.hid (And.intro hfa (And.intro hck (And.intro hfk hgl)))
  have hkn : (k : Int) < (n : Int) := by omega
  have hk0 : (0 : Int) ≤ (k : Int) := by omega
  have hcc : n ≤ c := hsl.2.1
  clear H hh hl hv hfa hsl hoA hsu hf7 hz hz0 hz1 hg hcs hfr hck hfk hnx L hx256 hlm hn1
  have hkd : decide ((k : Int) < 0) = false := decide_eq_false (by omega)
  go_enter Tryz.func37, Tryz.ntmps37
  go_wp2_with (first
    | (go_at_call 66; refine HN.out.mono ?_; rintro e w1 ⟨rfl, rfl⟩)
    | (go_at_call 76; refine HGET.out.mono ?_; rintro e w2 ⟨rfl, hb⟩; have HB := Lib.hid hb; have hf2 := HF.out.1.same (hb.block f (lt_of_block HF.out.1)); have c1 := hf2.c1; have e1 : w2.frozen? ⟨g, off + k, none⟩ = false := (World.frozen?_of_block (w := w) (a := ⟨g, off + k, none⟩) (hb.block g HF.out.2.2.2)).trans HF.out.2.2.1; have d1 := (World.cell?_of_block (w := w) (a := ⟨g, off + k, none⟩) (hb.block g HF.out.2.2.2)).trans HF.out.2.1; clear hb hf2))
  go_ret
  refine ⟨rfl, y, HG.out.1, HG.out.2.1, ?_⟩
  rw [HG.out.2.2]
  exact HFIN.out _ _ g off rfl HB.out rfl
end
end Go.Proofs.YtkjdjglknbgeaaaGreatDoor
