/- Create, Remove and Rename on a whole disk. -/
import Derived.Test.YtdjnebgjdekmaaaGreatDoorZbd
import Derived.Test.YtdjnebgjdekmaaaGreatDoorZau
import Derived.Sort.CutIn
set_option linter.unusedVariables false
set_option maxRecDepth 100000
namespace Go.Proofs.YtdjnebgjdekmaaaGreatDoor
open Go.RowKit Go.Maps
def ptrIs (fb : Nat) (v : Value) : Bool := match v with
 | .pointer (some ⟨f, 0, none⟩) => f == fb
 | _ => false
def updP {α : Type} (g : Value → α) (fb : Nat) (x : α) (v : Value) : α := if ptrIs fb v = true then x else g v
theorem updP_same {α : Type} (g : Value → α) (fb : Nat) (x : α) : updP g fb x (.pointer (some ⟨fb, 0, none⟩)) = x := by unfold updP ptrIs; simp
theorem updP_other {α : Type} (g : Value → α) (fb : Nat) (x : α) (f : Nat) (h : f ≠ fb) : updP g fb x (.pointer (some ⟨f, 0, none⟩)) = g (.pointer (some ⟨f, 0, none⟩)) := by unfold updP ptrIs; simp [h]
section
variable {w w' : World} {d : Nat} {own own' : Nat → Nat} {b : DBox} {F RA SA C : Option Addr} {fn fc rn rc sn sc cn cc : Nat} {fs css : List Value} {ps ss : List (ByteArray × Value)} {chl : List (List (ByteArray × Value))} {nm su : Value → Nat} {dt : Value → List Value}
theorem DiskIn.nowAt (H : DiskIn w d own b F fn fc RA rn rc SA sn sc C cn cc fs ps ss css chl nm dt su) : NowAt w d b RA rn rc ps where
 box := H.box
 calls := by have := H.calls; omega
 ahead := H.ahead
 now := H.now
 row := H.nrow
 apart := fun hm => by have := H.oR d hm; have := H.od; omega
 len := by
  have h1 := (layAll_len chl ss H.srow.rises H.chs.two).2
  rw [← H.lay, H.nrow.len, H.srow.len] at h1
  have := H.chs.1
  have := H.cline.1
  have := H.lenC
  omega
theorem DiskIn.chAt (H : DiskIn w d own b F fn fc RA rn rc SA sn sc C cn cc fs ps ss css chl nm dt su) : ChAt w d b RA C cn cc css where
 is := H.changes
 line := H.cline
 apart := fun hm => by have := H.oC d hm; have := H.od; omega
 apart2 := fun k h1 h2 => by have := H.oC k h1; have := H.oR k h2; omega
 len := by have := H.lenC; omega
theorem DiskIn.flAt (H : DiskIn w d own b F fn fc RA rn rc SA sn sc C cn cc fs ps ss css chl nm dt su) : FlAt w d b RA C F fn fc fs where
 is := H.files
 line := H.line
 apart := fun hm => by have := H.oF d hm; have := H.od; omega
 apart2 := fun k h1 h2 => by have := H.oF k h1; have := H.oR k h2; omega
 apart3 := fun k h1 h2 => by have := H.oF k h1; have := H.oC k h2; omega
 len := by have := H.lenF; omega
theorem blk_one {pb k : Nat} (h : k ∈ blk (some (⟨pb, 0, none⟩ : Addr))) : k = pb := by obtain ⟨ad, ea, he⟩ := mem_blk.1 h; cases ea; exact he.symm
structure Like (b' b : DBox) : Prop where
 files : b'.files = b.files
 made : b'.made = b.made
 now : b'.now = b.now
 sure : b'.sure = b.sure
 changes : b'.changes = b.changes
 quota : 0 ≤ b'.quota ∧ b'.quota ≤ 9223372036854775807
 calls : 0 ≤ b'.calls ∧ b'.calls ≤ 80000
 ahead : b'.ahead ≤ 9223372036854775807
theorem DiskIn.likeP (H : DiskIn w d own b F fn fc RA rn rc SA sn sc C cn cc fs ps ss css chl nm dt su) (hb : b.calls < 80000) : Like (poweredB b) b :=
 ⟨powered_files b, powered_made b, powered_now b, powered_sure b, powered_changes b, by rw [powered_quota]; exact H.quota, by have := powered_calls b; have := H.calls; omega, by have := powered_ahead b; have := H.ahead; omega⟩
theorem DiskIn.turned (H : DiskIn w d own b F fn fc RA rn rc SA sn sc C cn cc fs ps ss css chl nm dt su) {b' : DBox} (L : Like b' b) (chs : List (ByteArray × Value)) (hk : chs.length ≤ 2) (hin : ∀ p ∈ chs, p.2 = .pointer none ∨ p.2 ∈ fs) (hlc : sn + 2 * (cn + 1) ≤ 80000) (hT : Turned w d b' RA C cn ps css chs w') :
 ∃ own' A' n' c' C' cc' pb, Only own w own' w' ∧ DiskIn w' d own' { b' with now := .slice A' n' c', changes := .slice C' (cn + 1) cc' } F fn fc A' n' c' SA sn sc C' (cn + 1) cc' fs (layP ps chs) ss (css ++ [.slice (some ⟨pb, 0, none⟩) chs.length chs.length]) (chl ++ [chs]) nm dt su := by
 obtain ⟨A', n', c', C', cc', pb, hD, hR, hC, hP, hc, hA, hCC, hCA, hpb, hpA, hpC⟩ := hT
 obtain ⟨own', hown⟩ : ∃ own' : Nat → Nat, own' = fun i => if i < w.heap.size then own i else if i ∈ blk A' then 3 else if i ∈ blk C' then 5 else if i = pb then 6 else 0 := ⟨_, rfl⟩
 have ho : ∀ i, i < w.heap.size → own' i = own i := fun i hi => by rw [hown]; simp only [hi, if_true]
 have hz := hc.size
 have hs : ∀ i, i < w.heap.size → own i ≠ 1 → own i ≠ 3 → own i ≠ 5 → w'.heap[i]? = w.heap[i]? := fun i hi h1 h3 h5 => hc.same i hi (fun hm => by
  rcases List.mem_cons.1 hm with h | h
  · rw [h] at h1; exact h1 H.od
  · rcases List.mem_append.1 h with h | h
    · exact h3 (H.oR i h)
    · exact h5 (H.oC i h))
 have hopb : own' pb = 6 := by rw [hown]; simp only [show ¬ pb < w.heap.size by omega, if_false, hpA, hpC, if_true]
 refine ⟨own', A', n', c', C', cc', pb, ⟨hc.below, ho, fun i hi h0 => hs i hi (by omega) (by omega) (by omega)⟩, ?_⟩
 exact {
  box := hD
  od := (ho d H.box.lt).trans H.od
  files := L.files.trans H.files
  line := H.line.same hz fun k hk => hs k (H.line.lt k hk) (by rw [H.oF k hk]; omega) (by rw [H.oF k hk]; omega) (by rw [H.oF k hk]; omega)
  oF := fun k hk => (ho k (H.line.lt k hk)).trans (H.oF k hk)
  now := rfl
  nrow := hR
  oR := fun i hi => by
   rcases Nat.lt_or_ge i w.heap.size with h | h
   · rw [ho i h]
     rcases hA i hi with h' | h'
     · exact H.oR i h'
     · omega
   · rw [hown]; simp only [show ¬ i < w.heap.size by omega, if_false, hi, if_true]
  sure := L.sure.trans H.sure
  srow := H.srow.same hz fun k hk => hs k (H.srow.lt' k hk) (by rw [H.oS k hk]; omega) (by rw [H.oS k hk]; omega) (by rw [H.oS k hk]; omega)
  oS := fun k hk => (ho k (H.srow.lt' k hk)).trans (H.oS k hk)
  changes := rfl
  cline := hC
  oC := fun i hi => by
   rcases Nat.lt_or_ge i w.heap.size with h | h
   · rw [ho i h]
     rcases hCC i hi with h' | h'
     · exact H.oC i h'
     · omega
   · rw [hown]; simp only [show ¬ i < w.heap.size by omega, if_false, hCA i hi, hi, if_true]
  chs := by
   have h0 := H.chs.carry hz ho fun k hk h6 => hs k hk (by omega) (by omega) (by omega)
   refine ⟨by simp [h0.1], fun i v c hv hcc => ?_⟩
   rcases Nat.lt_or_ge i css.length with h | h
   · rw [List.getElem?_append_left h] at hv
     rw [List.getElem?_append_left (by rw [← H.chs.1]; exact h)] at hcc
     exact h0.2 i v c hv hcc
   · have hi : i = css.length := by
      have := (List.getElem?_eq_some_iff.1 hv).1
      simp at this
      omega
     subst hi
     rw [List.getElem?_append_right (Nat.le_refl _), Nat.sub_self] at hv
     rw [H.chs.1, List.getElem?_append_right (Nat.le_refl _), Nat.sub_self] at hcc
     cases hv
     cases hcc
     refine ⟨_, _, rfl, hP, fun k hk => by obtain ⟨ad, ea, he⟩ := mem_blk.1 hk; cases ea; rw [← he]; exact hopb, hk, fun p hp => ?_⟩
     rcases hin p hp with h | h
     · exact ⟨none, h⟩
     · obtain ⟨f, _, _, _, e, _⟩ := H.file _ h
       exact ⟨_, e⟩
  file := fun v hv => (H.file v hv).carry hz ho fun k hk h => hs k hk (by omega) (by omega) (by omega)
  num := fun v hv => by show (nm v : Int) < b'.made; rw [L.made]; exact H.num v hv
  bytes := H.bytes
  rises := H.rises
  lay := by rw [layAll_snoc, ← H.lay]
  sin := H.sin
  cin := fun c hcm => by
   rcases List.mem_append.1 hcm with h | h
   · exact H.cin c h
   · rw [List.mem_singleton] at h; rw [h]; exact hin
  made := by show 0 ≤ b'.made ∧ b'.made ≤ 80000; rw [L.made]; exact H.made
  quota := L.quota
  calls := L.calls
  ahead := L.ahead
  lenF := H.lenF
  lenC := hlc }
theorem DiskIn.made1 (H : DiskIn w d own b F fn fc RA rn rc SA sn sc C cn cc fs ps ss css chl nm dt su) {b' : DBox} (L : Like b' b) (num : Nat) (hnum : b.made = (num : Int)) (hlm : num < 80000) (hlf : fn < 80000) (F' : Option Addr) (fc' fb : Nat)
 (hM : Made w d b' RA C F rn rc cn cc fn fc ps css fs num F' fc' fb w') :
 ∃ own', Only own w own' w' ∧ DiskIn w' d own' { b' with made := (num : Int) + 1, files := .slice F' (fn + 1) fc' } F' (fn + 1) fc' RA rn rc SA sn sc C cn cc (fs ++ [.pointer (some ⟨fb, 0, none⟩)]) ps ss css chl (updP nm fb num) (updP dt fb []) (updP su fb 0) := by
 obtain ⟨hD, hR, hC, hF, hfile, hc, hF', hfb, hfF⟩ := hM
 obtain ⟨own', hown⟩ : ∃ own' : Nat → Nat, own' = fun i => if i < w.heap.size then own i else if i ∈ blk F' then 2 else if i = fb then 7 else 0 := ⟨_, rfl⟩
 have ho : ∀ i, i < w.heap.size → own' i = own i := fun i hi => by rw [hown]; simp only [hi, if_true]
 have hz := hc.size
 have hs : ∀ i, i < w.heap.size → own i ≠ 1 → own i ≠ 2 → w'.heap[i]? = w.heap[i]? := fun i hi h1 h2 => hc.same i hi (fun hm => by
  rcases List.mem_cons.1 hm with h | h
  · rw [h] at h1; exact h1 H.od
  · exact h2 (H.oF i h))
 have hofb : own' fb = 7 := by rw [hown]; simp only [show ¬ fb < w.heap.size by omega, if_false, hfF, if_true]
 have hold : ∀ v ∈ fs, ∃ f, v = .pointer (some ⟨f, 0, none⟩) ∧ f ≠ fb := fun v hv => by
  obtain ⟨f, _, _, _, e, _, h2, _⟩ := H.file v hv
  exact ⟨f, e, fun e' => by have := lt_of_block h2; omega⟩
 have hn : ∀ v ∈ fs, updP nm fb num v = nm v := fun v hv => by obtain ⟨f, e, h⟩ := hold v hv; rw [e]; exact updP_other _ _ _ _ h
 have hd : ∀ v ∈ fs, updP dt fb [] v = dt v := fun v hv => by obtain ⟨f, e, h⟩ := hold v hv; rw [e]; exact updP_other _ _ _ _ h
 have hu : ∀ v ∈ fs, updP su fb 0 v = su v := fun v hv => by obtain ⟨f, e, h⟩ := hold v hv; rw [e]; exact updP_other _ _ _ _ h
 refine ⟨own', ⟨hc.below, ho, fun i hi h0 => hs i hi (by omega) (by omega)⟩, ?_⟩
 exact {
  box := hD
  od := (ho d H.box.lt).trans H.od
  files := rfl
  line := hF.line
  oF := fun i hi => by
   rcases Nat.lt_or_ge i w.heap.size with h | h
   · rw [ho i h]
     rcases hF' i hi with h' | h'
     · exact H.oF i h'
     · omega
   · rw [hown]; simp only [show ¬ i < w.heap.size by omega, if_false, hi, if_true]
  now := L.now.trans H.now
  nrow := hR
  oR := fun k hk => (ho k (H.nrow.lt' k hk)).trans (H.oR k hk)
  sure := L.sure.trans H.sure
  srow := H.srow.same hz fun k hk => hs k (H.srow.lt' k hk) (by rw [H.oS k hk]; omega) (by rw [H.oS k hk]; omega)
  oS := fun k hk => (ho k (H.srow.lt' k hk)).trans (H.oS k hk)
  changes := L.changes.trans H.changes
  cline := hC.line
  oC := fun k hk => (ho k (H.cline.lt k hk)).trans (H.oC k hk)
  chs := H.chs.carry hz ho fun k hk h6 => hs k hk (by omega) (by omega)
  file := fun v hv => by
   rcases List.mem_append.1 hv with h | h
   · rw [hn v h, hd v h, hu v h]
     exact (H.file v h).carry hz ho fun k hk h => hs k hk (by omega) (by omega)
   · rw [List.mem_singleton] at h
     subst h
     rw [updP_same, updP_same, updP_same]
     exact ⟨fb, none, 0, 0, rfl, hofb, hfile, SLine.nil 1 _, fun k hk => (by obtain ⟨ad, ea, _⟩ := mem_blk.1 hk; cases ea), by omega, by omega⟩
  num := fun v hv => by
   show ((updP nm fb num v : Nat) : Int) < (num : Int) + 1
   rcases List.mem_append.1 hv with h | h
   · rw [hn v h]; have := H.num v h; omega
   · rw [List.mem_singleton] at h; rw [h, updP_same]; omega
  bytes := fun v hv => by
   rcases List.mem_append.1 hv with h | h
   · rw [hd v h]; exact H.bytes v h
   · rw [List.mem_singleton] at h; rw [h, updP_same]; exact fun u hu => by cases hu
  rises := by
   refine List.pairwise_append.2 ⟨H.rises.imp_of_mem (fun h1 h2 h => by rw [hn _ h1, hn _ h2]; exact h), List.pairwise_singleton _ _, fun u hu' v hv => ?_⟩
   rw [List.mem_singleton] at hv
   rw [hv, updP_same, hn u hu']
   have := H.num u hu'
   omega
  lay := H.lay
  sin := fun p hp => List.mem_append_left _ (H.sin p hp)
  cin := fun c hcm p hp => (H.cin c hcm p hp).imp id (List.mem_append_left _)
  made := by show 0 ≤ (num : Int) + 1 ∧ (num : Int) + 1 ≤ 80000; omega
  quota := L.quota
  calls := L.calls
  ahead := L.ahead
  lenF := by omega
  lenC := H.lenC }
end
section
variable {w w' : World} {d : Nat} {own own' : Nat → Nat} {b : DBox} {F RA SA C : Option Addr} {fn fc rn rc sn sc cn cc : Nat} {fs css : List Value} {ps ss : List (ByteArray × Value)} {chl : List (List (ByteArray × Value))} {nm su : Value → Nat} {dt : Value → List Value}
theorem DiskIn.off1 (H : DiskIn w d own b F fn fc RA rn rc SA sn sc C cn cc fs ps ss css chl nm dt su) (hb : b.calls < 80000) (hD : DBoxAt w' d (poweredB b)) (hc : Chg [d] w w') :
 Only own w own w' ∧ DiskIn w' d own (poweredB b) F fn fc RA rn rc SA sn sc C cn cc fs ps ss css chl nm dt su :=
 ⟨Only.of_chg hc (fun k hk => by rw [List.mem_singleton] at hk; rw [hk, H.od]; exact .inl (by omega)), H.powered hb hD hc⟩
theorem DiskIn.look (H : DiskIn w d own b F fn fc RA rn rc SA sn sc C cn cc fs ps ss css chl nm dt su) (x : ByteArray) (v : Value) (h : lookP ltS ps x = some v) : v ∈ fs := by
 unfold lookP at h
 obtain ⟨p, hp, e⟩ := Option.map_eq_some_iff.1 h
 have hm := List.mem_of_find?_eq_some hp
 have hin := layAll_in chl ss H.sin H.cin p (by rw [← H.lay]; exact hm)
 rw [← e]
 exact hin
theorem DiskIn.nin (H : DiskIn w d own b F fn fc RA rn rc SA sn sc C cn cc fs ps ss css chl nm dt su) : ∀ p ∈ ps, p.2 ∈ fs := fun p hp => layAll_in chl ss H.sin H.cin p (by rw [← H.lay]; exact hp)
theorem withF_look (b : DBox) (ns : List ByteArray) (ps : List (ByteArray × Value)) (x : ByteArray) (h : withE b ns ps x = 0) : lookP ltS ps x = some (withF b ns ps x) := by
 have hh : hasP ltS ps x = true := by
  unfold withE at h
  split at h
  · split at h
    · assumption
    · omega
  · exact absurd h (by assumption)
 unfold withF
 rw [if_pos h]
 unfold hasP at hh
 obtain ⟨v, hv⟩ := Option.isSome_iff_exists.1 hh
 rw [hv]
 rfl
def CreatedO (w : World) (d : Nat) (own : Nat → Nat) (b : DBox) (fn : Nat) (SA : Option Addr) (sn sc cn : Nat) (fs css : List Value) (ps ss : List (ByteArray × Value)) (chl : List (List (ByteArray × Value))) (nm : Value → Nat) (dt : Value → List Value) (su : Value → Nat) (num : Nat) (x : ByteArray) (w' : World) : Prop :=
 ∃ own' F' fc' fb A' n' c' C' cc' pb, Only own w own' w' ∧ DiskIn w' d own' { poweredB b with made := (num : Int) + 1, files := .slice F' (fn + 1) fc', now := .slice A' n' c', changes := .slice C' (cn + 1) cc' } F' (fn + 1) fc' A' n' c' SA sn sc C' (cn + 1) cc' (fs ++ [.pointer (some ⟨fb, 0, none⟩)]) (layP ps [(x, .pointer (some ⟨fb, 0, none⟩))]) ss (css ++ [.slice (some ⟨pb, 0, none⟩) 1 1]) (chl ++ [[(x, .pointer (some ⟨fb, 0, none⟩))]]) (updP nm fb num) (updP dt fb []) (updP su fb 0)
theorem DiskIn.create_yes (H : DiskIn w d own b F fn fc RA rn rc SA sn sc C cn cc fs ps ss css chl nm dt su) (hb : b.calls < 80000) (num : Nat) (hnum : b.made = (num : Int)) (hlm : num < 80000) (hlf : fn < 80000) (hlc : sn + 2 * (cn + 1) ≤ 80000) (x : ByteArray) (hsz : x.size ≤ 1000000) (hE : beginE b [x] = 0) (hok : hasP ltS ps x = true ∨ rn < 1024) :
 Calls Tryz.prog 20 #[.pointer (some ⟨d, 0, none⟩), .string x] w fun e w' => e = .returned (.int .i64 0) ∧ CreatedO w d own b fn SA sn sc cn fs css ps ss chl nm dt su num x w' := by
 refine (create_ok H.nowAt H.chAt H.flAt (by omega) num hnum (by omega) x hsz hE hok).mono ?_
 rintro e w' ⟨rfl, F', fc', fb, W, hM, hT⟩
 refine ⟨rfl, ?_⟩
 obtain ⟨own1, O1, H1⟩ := H.made1 (H.likeP hb) num hnum hlm hlf F' fc' fb hM
 have L1 : Like { poweredB b with made := (num : Int) + 1, files := Value.slice F' (fn + 1) fc' } { poweredB b with made := (num : Int) + 1, files := Value.slice F' (fn + 1) fc' } := ⟨rfl, rfl, rfl, rfl, rfl, H1.quota, H1.calls, H1.ahead⟩
 obtain ⟨own2, A', n', c', C', cc', pb, O2, H2⟩ := H1.turned L1 [(x, .pointer (some ⟨fb, 0, none⟩))] (by simp) (fun p hp => by rw [List.mem_singleton] at hp; rw [hp]; exact .inr (List.mem_append_right _ (List.mem_singleton.2 rfl))) hlc hT
 exact ⟨own2, F', fc', fb, A', n', c', C', cc', pb, O1.trans O2, H2⟩
def TurnedO (w : World) (d : Nat) (own : Nat → Nat) (b : DBox) (F : Option Addr) (fn fc : Nat) (SA : Option Addr) (sn sc cn : Nat) (fs css : List Value) (ps ss : List (ByteArray × Value)) (chl : List (List (ByteArray × Value))) (nm : Value → Nat) (dt : Value → List Value) (su : Value → Nat) (chs : List (ByteArray × Value)) (w' : World) : Prop :=
 ∃ own' A' n' c' C' cc' pb, Only own w own' w' ∧ DiskIn w' d own' { poweredB b with now := .slice A' n' c', changes := .slice C' (cn + 1) cc' } F fn fc A' n' c' SA sn sc C' (cn + 1) cc' fs (layP ps chs) ss (css ++ [.slice (some ⟨pb, 0, none⟩) chs.length chs.length]) (chl ++ [chs]) nm dt su
theorem DiskIn.remove_yes (H : DiskIn w d own b F fn fc RA rn rc SA sn sc C cn cc fs ps ss css chl nm dt su) (hb : b.calls < 80000) (hlc : sn + 2 * (cn + 1) ≤ 80000) (x : ByteArray) (hsz : x.size ≤ 1000000) (hE : withE b [x] ps x = 0) :
 Calls Tryz.prog 30 #[.pointer (some ⟨d, 0, none⟩), .string x] w fun e w' => e = .returned (.int .i64 0) ∧ TurnedO w d own b F fn fc SA sn sc cn fs css ps ss chl nm dt su [(x, .pointer none)] w' := by
 have hl := H.look x _ (withF_look b [x] ps x hE)
 obtain ⟨f, _, _, _, e, _⟩ := H.file _ hl
 refine (Go.Proofs.YtdjnebgjdekmaaaGreatDoor.remove_yes H.nowAt H.chAt x hsz hE _ e).mono ?_
 rintro e w' ⟨rfl, hT⟩
 exact ⟨rfl, H.turned (H.likeP hb) _ (by simp) (fun p hp => by rw [List.mem_singleton] at hp; rw [hp]; exact .inl rfl) hlc hT⟩
theorem DiskIn.rename_yes (H : DiskIn w d own b F fn fc RA rn rc SA sn sc C cn cc fs ps ss css chl nm dt su) (hb : b.calls < 80000) (hlc : sn + 2 * (cn + 1) ≤ 80000) (x y : ByteArray) (hsz : x.size ≤ 1000000) (hsz2 : y.size ≤ 1000000) (hE : withE b [x, y] ps x = 0) :
 Calls Tryz.prog 67 #[.pointer (some ⟨d, 0, none⟩), .string x, .string y] w fun e w' => e = .returned (.int .i64 0) ∧ TurnedO w d own b F fn fc SA sn sc cn fs css ps ss chl nm dt su [(x, .pointer none), (y, withF b [x, y] ps x)] w' := by
 have hl := H.look x _ (withF_look b [x, y] ps x hE)
 obtain ⟨f, _, _, _, e, _⟩ := H.file _ hl
 refine (Go.Proofs.YtdjnebgjdekmaaaGreatDoor.rename_yes H.nowAt H.chAt x y hsz hsz2 hE _ e).mono ?_
 rintro e' w' ⟨rfl, hT⟩
 rw [← e] at hT
 refine ⟨rfl, H.turned (H.likeP hb) _ (by simp) (fun p hp => ?_) hlc hT⟩
 simp only [List.mem_cons, List.not_mem_nil, or_false] at hp
 rcases hp with h | h
 · rw [h]; exact .inl rfl
 · rw [h]; exact .inr hl
theorem DiskIn.refiled (H : DiskIn w d own b F fn fc RA rn rc SA sn sc C cn cc fs ps ss css chl nm dt su) {b' : DBox} (L : Like b' b) (f : Nat) (hf : Value.pointer (some ⟨f, 0, none⟩) ∈ fs) (A A' : Option Addr) (n c n' c' s' : Nat) (xs : List Value) (hold : FileAt w f (nm (.pointer (some ⟨f, 0, none⟩))) A n c (su (.pointer (some ⟨f, 0, none⟩)))) (hln : n' ≤ 1048576) (hs' : s' ≤ n') (hxs : ∀ u ∈ xs, ∃ z : Int, 0 ≤ z ∧ z < 256 ∧ u = .int .u8 z)
 (hD : DBoxAt w' d b') (h1 : FileAt w' f (nm (.pointer (some ⟨f, 0, none⟩))) A' n' c' s') (h2 : SLine 1 w' A' n' c' xs) (hc : Chg (d :: f :: blk A) w w') (hA : ∀ k ∈ blk A', k ∈ blk A ∨ w.heap.size ≤ k) :
 ∃ own', Only own w own' w' ∧ DiskIn w' d own' b' F fn fc RA rn rc SA sn sc C cn cc fs ps ss css chl nm (updP dt f xs) (updP su f s') := by
 obtain ⟨f0, A0, n0, c0, e0, hf7, hfa, hsl, hoA, hn1, hsu⟩ := H.file _ hf
 cases e0
 obtain ⟨rfl, rfl, rfl⟩ : A0 = A ∧ n0 = n ∧ c0 = c := by
  have := hfa.c1.symm.trans hold.c1
  simp only [Option.some.injEq, Value.slice.injEq] at this
  exact this
 obtain ⟨num, hnum⟩ : ∃ num, nm (.pointer (some ⟨f, 0, none⟩)) = num := ⟨_, rfl⟩
 rw [hnum] at hoA
 have hfl := lt_of_block hfa
 obtain ⟨own', hown⟩ : ∃ own' : Nat → Nat, own' = fun i => if i < w.heap.size then own i else if i ∈ blk A' then 8 + num else 0 := ⟨_, rfl⟩
 have ho : ∀ i, i < w.heap.size → own' i = own i := fun i hi => by rw [hown]; simp only [hi, if_true]
 have hz := hc.size
 have hs : ∀ i, i < w.heap.size → own i ≠ 1 → i ≠ f → own i ≠ 8 + num → w'.heap[i]? = w.heap[i]? := fun i hi h1 h7 h8 => hc.same i hi (fun hm => by
  rcases List.mem_cons.1 hm with h | h
  · rw [h] at h1; exact h1 H.od
  · rcases List.mem_cons.1 h with h | h
    · exact h7 h
    · exact h8 (hoA i h))
 have hs2 : ∀ i, i < w.heap.size → own i ≠ 1 → own i ≠ 7 → own i ≠ 8 + num → w'.heap[i]? = w.heap[i]? := fun i hi h1 h7 h8 => hs i hi h1 (fun e => h7 (by rw [e]; exact hf7)) h8
 have hdo : ∀ g, g ≠ f → updP dt f xs (.pointer (some ⟨g, 0, none⟩)) = dt (.pointer (some ⟨g, 0, none⟩)) := fun g hg => updP_other _ _ _ _ hg
 refine ⟨own', ⟨hc.below, ho, fun i hi h0 => hs2 i hi (by omega) (by omega) (by omega)⟩, ?_⟩
 exact {
  box := hD
  od := (ho d H.box.lt).trans H.od
  files := L.files.trans H.files
  line := H.line.same hz fun k hk => hs2 k (H.line.lt k hk) (by rw [H.oF k hk]; omega) (by rw [H.oF k hk]; omega) (by rw [H.oF k hk]; omega)
  oF := fun k hk => (ho k (H.line.lt k hk)).trans (H.oF k hk)
  now := L.now.trans H.now
  nrow := H.nrow.same hz fun k hk => hs2 k (H.nrow.lt' k hk) (by rw [H.oR k hk]; omega) (by rw [H.oR k hk]; omega) (by rw [H.oR k hk]; omega)
  oR := fun k hk => (ho k (H.nrow.lt' k hk)).trans (H.oR k hk)
  sure := L.sure.trans H.sure
  srow := H.srow.same hz fun k hk => hs2 k (H.srow.lt' k hk) (by rw [H.oS k hk]; omega) (by rw [H.oS k hk]; omega) (by rw [H.oS k hk]; omega)
  oS := fun k hk => (ho k (H.srow.lt' k hk)).trans (H.oS k hk)
  changes := L.changes.trans H.changes
  cline := H.cline.same hz fun k hk => hs2 k (H.cline.lt k hk) (by rw [H.oC k hk]; omega) (by rw [H.oC k hk]; omega) (by rw [H.oC k hk]; omega)
  oC := fun k hk => (ho k (H.cline.lt k hk)).trans (H.oC k hk)
  chs := H.chs.carry hz ho fun k hk h6 => hs2 k hk (by omega) (by omega) (by omega)
  file := fun v hv => by
   obtain ⟨g, B, m, cg, e, hg7, hga, hgl, hoB, hm1, hms⟩ := H.file v hv
   subst e
   by_cases hgf : g = f
   · subst hgf
     rw [updP_same, updP_same, hnum]
     rw [hnum] at h1
     refine ⟨g, A', n', c', rfl, (ho g hfl).trans hf7, h1, h2, fun k hk => ?_, hln, hs'⟩
     rcases Nat.lt_or_ge k w.heap.size with h | h
     · rw [ho k h]
       rcases hA k hk with h' | h'
       · exact hoA k h'
       · omega
     · rw [hown]; simp only [show ¬ k < w.heap.size by omega, if_false, hk, if_true]
   · rw [hdo g hgf, updP_other _ _ _ _ hgf]
     have hgn : nm (.pointer (some ⟨g, 0, none⟩)) ≠ num := fun e' => by
      obtain ⟨i, hi, ei⟩ := List.mem_iff_getElem.1 hv
      obtain ⟨j, hj, ej⟩ := List.mem_iff_getElem.1 hf
      have hij : i ≠ j := fun e'' => by subst e''; rw [ei] at ej; cases ej; exact hgf rfl
      have hp := List.pairwise_iff_getElem.1 H.rises
      rcases Nat.lt_or_ge i j with h | h
      · have := hp i j hi hj h; rw [ei, ej] at this; omega
      · have := hp j i hj hi (by omega); rw [ei, ej] at this; omega
     have hgl' := lt_of_block hga
     exact ⟨g, B, m, cg, rfl, (ho g hgl').trans hg7, hga.same (hs g hgl' (by omega) hgf (by omega)), hgl.same hz (fun k hk => hs k (hgl.lt k hk) (by have := hoB k hk; omega) (fun e'' => by have := hoB k hk; rw [e'', hf7] at this; omega) (by have := hoB k hk; omega)), fun k hk => (ho k (hgl.lt k hk)).trans (hoB k hk), hm1, hms⟩
  num := fun v hv => by rw [L.made]; exact H.num v hv
  bytes := fun v hv => by
   obtain ⟨g, _, _, _, e, _⟩ := H.file v hv
   subst e
   by_cases hgf : g = f
   · subst hgf; rw [updP_same]; exact hxs
   · rw [hdo g hgf]; exact H.bytes _ hv
  rises := H.rises
  lay := H.lay
  sin := H.sin
  cin := H.cin
  made := by rw [L.made]; exact H.made
  quota := L.quota
  calls := L.calls
  ahead := L.ahead
  lenF := H.lenF
  lenC := H.lenC }
def FiledO (w : World) (d : Nat) (own : Nat → Nat) (b' : DBox) (F : Option Addr) (fn fc : Nat) (RA : Option Addr) (rn rc : Nat) (SA : Option Addr) (sn sc : Nat) (C : Option Addr) (cn cc : Nat) (fs css : List Value) (ps ss : List (ByteArray × Value)) (chl : List (List (ByteArray × Value))) (nm : Value → Nat) (dt : Value → List Value) (su : Value → Nat) (w' : World) : Prop :=
 ∃ own', Only own w own' w' ∧ DiskIn w' d own' b' F fn fc RA rn rc SA sn sc C cn cc fs ps ss css chl nm dt su
theorem DiskIn.sync_yes (H : DiskIn w d own b F fn fc RA rn rc SA sn sc C cn cc fs ps ss css chl nm dt su) (hb : b.calls < 80000) (x : ByteArray) (hsz : x.size ≤ 1000000) (hE : withE b [x] ps x = 0) (f : Nat) (hF : withF b [x] ps x = .pointer (some ⟨f, 0, none⟩)) :
 Calls Tryz.prog 65 #[.pointer (some ⟨d, 0, none⟩), .string x] w fun e w' => e = .returned (.int .i64 0) ∧ FiledO w d own (poweredB b) F fn fc RA rn rc SA sn sc C cn cc fs css ps ss chl nm (updP dt f (dt (.pointer (some ⟨f, 0, none⟩)))) (updP su f (dt (.pointer (some ⟨f, 0, none⟩))).length) w' := by
 have hl := H.look x _ (withF_look b [x] ps x hE)
 rw [hF] at hl
 obtain ⟨f0, A, n, c, e, hf7, hfa, hsl, hoA, hn1, hsu⟩ := H.file _ hl
 cases e
 obtain rfl : n = (dt (.pointer (some ⟨f, 0, none⟩))).length := by have := hsl.1; omega
 refine (Go.Proofs.YtdjnebgjdekmaaaGreatDoor.sync_yes H.nowAt x hsz hE f _ hF A _ c _ hfa (fun e => by rw [e, H.od] at hf7; omega)).mono ?_
 rintro e w' ⟨rfl, hD, hf', hc⟩
 have hc' : Chg (d :: f :: blk A) w w' := hc.weaken (fun k hk => .inl (by simp only [List.mem_cons, List.not_mem_nil, or_false] at hk ⊢; rcases hk with h | h; exact .inl h; exact .inr (.inl h)))
 refine ⟨rfl, H.refiled (H.likeP hb) f hl A A _ c _ c _ _ hfa hn1 (Nat.le_refl _) (H.bytes _ hl) hD hf' ?_ hc' (fun k hk => .inl hk)⟩
 refine hsl.chg hc (fun k hk hm => ?_)
 have := hoA k hk
 simp only [List.mem_cons, List.not_mem_nil, or_false] at hm
 rcases hm with h | h
 · rw [h, H.od] at this; omega
 · rw [h, hf7] at this; omega
end
theorem sumLen_le (ln : Value → Nat) (m : Nat) : ∀ ps : List (ByteArray × Value), (∀ p ∈ ps, ln p.2 ≤ m) → sumLen ln ps ≤ ps.length * m := by
 intro ps
 induction ps with
 | nil => intro _; simp [sumLen]
 | cons p l ih =>
  intro h
  have h1 := h p (List.mem_cons_self ..)
  have h2 := ih (fun q hq => h q (List.mem_cons_of_mem _ hq))
  have e : sumLen ln (p :: l) = ln p.2 + sumLen ln l := by unfold sumLen; simp
  rw [e, List.length_cons, Nat.succ_mul]
  omega
section
variable {w w' : World} {d : Nat} {own own' : Nat → Nat} {b : DBox} {F RA SA C : Option Addr} {fn fc rn rc sn sc cn cc : Nat} {fs css : List Value} {ps ss : List (ByteArray × Value)} {chl : List (List (ByteArray × Value))} {nm su : Value → Nat} {dt : Value → List Value}
def usedO (dt : Value → List Value) (ps : List (ByteArray × Value)) : Nat := sumLen (fun v => (dt v).length) ps
theorem DiskIn.filesIn (H : DiskIn w d own b F fn fc RA rn rc SA sn sc C cn cc fs ps ss css chl nm dt su) : FilesIn w (fun v => (dt v).length) ps := fun p hp => by
 obtain ⟨f, A, n, c, e, h7, hfa, hsl, _⟩ := H.file _ (H.nin p hp)
 obtain rfl : n = (dt p.2).length := by have := hsl.1; omega
 exact ⟨f, _, A, c, _, e, hfa⟩
theorem DiskIn.usedLe (H : DiskIn w d own b F fn fc RA rn rc SA sn sc C cn cc fs ps ss css chl nm dt su) : usedO dt ps ≤ 1000000000000 := by
 have h := sumLen_le (fun v => (dt v).length) 1048576 ps (fun p hp => by
  obtain ⟨f, A, n, c, e, h7, hfa, hsl, hoA, hn, _⟩ := H.file _ (H.nin p hp)
  have := hsl.1
  show (dt p.2).length ≤ _
  omega)
 have h2 := H.nowAt.len
 have h3 := H.nrow.len
 unfold usedO
 omega
theorem DiskIn.notBox (H : DiskIn w d own b F fn fc RA rn rc SA sn sc C cn cc fs ps ss css chl nm dt su) : ∀ p ∈ ps, p.2 ≠ .pointer (some ⟨d, 0, none⟩) := fun p hp e => by
 have h := H.nin p hp
 rw [e] at h
 have := H.ownf d h
 have := H.od
 omega
theorem DiskIn.append_big (H : DiskIn w d own b F fn fc RA rn rc SA sn sc C cn cc fs ps ss css chl nm dt su) (hb : b.calls < 80000) (x : ByteArray) (hsz : x.size ≤ 1000000) (hE : withE b [x] ps x = 0) (f : Nat) (hF : withF b [x] ps x = .pointer (some ⟨f, 0, none⟩)) (BA : Option Addr) (bn bc : Nat) (hbn : bn ≤ 10000000) (hbig : 1048576 < (dt (.pointer (some ⟨f, 0, none⟩))).length + bn) :
 Calls Tryz.prog 21 #[.pointer (some ⟨d, 0, none⟩), .string x, .slice BA bn bc] w fun e w' => e = .returned (.int .i64 2) ∧ Only own w own w' ∧ DiskIn w' d own (poweredB b) F fn fc RA rn rc SA sn sc C cn cc fs ps ss css chl nm dt su := by
 have hl := H.look x _ (withF_look b [x] ps x hE)
 rw [hF] at hl
 obtain ⟨f0, A, n, c, e, hf7, hfa, hsl, hoA, hn1, hsu⟩ := H.file _ hl
 cases e
 obtain rfl : n = (dt (.pointer (some ⟨f, 0, none⟩))).length := by have := hsl.1; omega
 refine (Go.Proofs.YtdjnebgjdekmaaaGreatDoor.append_big H.nowAt x hsz hE f _ hF A _ c _ hfa (fun e => by rw [e, H.od] at hf7; omega) BA bn bc (by omega) hbn hbig).mono ?_
 rintro e w' ⟨rfl, hD, hc⟩
 exact ⟨rfl, H.off1 hb hD hc⟩
theorem DiskIn.append_no (H : DiskIn w d own b F fn fc RA rn rc SA sn sc C cn cc fs ps ss css chl nm dt su) (hb : b.calls < 80000) (x : ByteArray) (hsz : x.size ≤ 1000000) (hE : withE b [x] ps x ≠ 0) (BA : Option Addr) (bn bc : Nat) :
 Calls Tryz.prog 21 #[.pointer (some ⟨d, 0, none⟩), .string x, .slice BA bn bc] w fun e w' => e = .returned (.int .i64 (withE b [x] ps x)) ∧ Only own w own w' ∧ DiskIn w' d own (poweredB b) F fn fc RA rn rc SA sn sc C cn cc fs ps ss css chl nm dt su := by
 refine (Go.Proofs.YtdjnebgjdekmaaaGreatDoor.append_no H.nowAt x hsz hE BA bn bc).mono ?_
 rintro e w' ⟨rfl, hD, hc⟩
 exact ⟨rfl, H.off1 hb hD hc⟩
theorem DiskIn.append_full (H : DiskIn w d own b F fn fc RA rn rc SA sn sc C cn cc fs ps ss css chl nm dt su) (hb : b.calls < 80000) (x : ByteArray) (hsz : x.size ≤ 1000000) (hE : withE b [x] ps x = 0) (f : Nat) (hF : withF b [x] ps x = .pointer (some ⟨f, 0, none⟩)) (BA : Option Addr) (bn bc : Nat) (hsmall : (dt (.pointer (some ⟨f, 0, none⟩))).length + bn ≤ 1048576) (hfull : b.quota < (usedO dt ps : Int) + (bn : Int)) :
 Calls Tryz.prog 21 #[.pointer (some ⟨d, 0, none⟩), .string x, .slice BA bn bc] w fun e w' => e = .returned (.int .i64 4) ∧ Only own w own w' ∧ DiskIn w' d own { poweredB b with full := true } F fn fc RA rn rc SA sn sc C cn cc fs ps ss css chl nm dt su := by
 have hl := H.look x _ (withF_look b [x] ps x hE)
 rw [hF] at hl
 obtain ⟨f0, A, n, c, e, hf7, hfa, hsl, hoA, hn1, hsu⟩ := H.file _ hl
 cases e
 obtain rfl : n = (dt (.pointer (some ⟨f, 0, none⟩))).length := by have := hsl.1; omega
 refine (Go.Proofs.YtdjnebgjdekmaaaGreatDoor.append_full H.nowAt x hsz hE f _ hF A _ c _ hfa (fun e => by rw [e, H.od] at hf7; omega) BA bn bc (by omega) (by omega) hsmall _ H.filesIn H.notBox H.usedLe hfull).mono ?_
 rintro e w' ⟨rfl, hD, hc⟩
 have L := H.likeP hb
 exact ⟨rfl, Only.of_chg hc (fun k hk => by rw [List.mem_singleton] at hk; rw [hk, H.od]; exact .inl (by omega)), H.boxed hc _ hD L.files L.now L.sure L.changes L.made L.quota L.calls L.ahead⟩
theorem DiskIn.append_yes (H : DiskIn w d own b F fn fc RA rn rc SA sn sc C cn cc fs ps ss css chl nm dt su) (hb : b.calls < 80000) (x : ByteArray) (hsz : x.size ≤ 1000000) (hE : withE b [x] ps x = 0) (f : Nat) (hF : withF b [x] ps x = .pointer (some ⟨f, 0, none⟩)) (BA : Option Addr) (bn bc : Nat) (hsmall : (dt (.pointer (some ⟨f, 0, none⟩))).length + bn ≤ 1048576) (hroom : (usedO dt ps : Int) + (bn : Int) ≤ b.quota)
 (news : List Value) (hnews : ∀ u ∈ news, ∃ z : Int, 0 ≤ z ∧ z < 256 ∧ u = .int .u8 z) (hsrc : ∀ W, Chg [d] w W → Src Tryz.prog 1 40 (.slice BA bn bc) bn news W) :
 Calls Tryz.prog 21 #[.pointer (some ⟨d, 0, none⟩), .string x, .slice BA bn bc] w fun e w' => e = .returned (.int .i64 0) ∧ FiledO w d own (poweredB b) F fn fc RA rn rc SA sn sc C cn cc fs css ps ss chl nm (updP dt f (dt (.pointer (some ⟨f, 0, none⟩)) ++ news)) (updP su f (su (.pointer (some ⟨f, 0, none⟩)))) w' := by
 have hl := H.look x _ (withF_look b [x] ps x hE)
 rw [hF] at hl
 obtain ⟨f0, A, n, c, e, hf7, hfa, hsl, hoA, hn1, hsu⟩ := H.file _ hl
 cases e
 obtain rfl : n = (dt (.pointer (some ⟨f, 0, none⟩))).length := by have := hsl.1; omega
 refine (append_ok H.nowAt x hsz hE f _ hF A _ c _ hfa (fun e => by rw [e, H.od] at hf7; omega) BA bn bc (by omega) (by omega) hsmall _ H.filesIn H.notBox H.usedLe hroom _ hsl (fun hm => by have := hoA f hm; omega) (fun hm => by have := hoA d hm; have := H.od; omega) news hsrc).mono ?_
 rintro e w' ⟨rfl, A', c', hD, hf', hsl', hc, hA'⟩
 exact ⟨rfl, H.refiled (H.likeP hb) f hl A A' _ c _ c' _ _ hfa hsmall (by omega) (fun u hu => by
  rcases List.mem_append.1 hu with h | h
  · exact H.bytes _ hl u h
  · exact hnews u h) hD hf' hsl' hc hA'⟩
theorem DiskIn.read_yes (H : DiskIn w d own b F fn fc RA rn rc SA sn sc C cn cc fs ps ss css chl nm dt su) (x : ByteArray) (v : Value) (hv : lookP ltS ps x = some v) :
 Calls Tryz.prog 23 #[.pointer (some ⟨d, 0, none⟩), .string x] w fun e w' => ∃ A' c', e = .returned (.tuple #[.slice A' (dt v).length c', .int .i64 0]) ∧ SLine 1 w' A' (dt v).length c' (dt v) ∧ (∀ k ∈ blk A', w.heap.size ≤ k) ∧ Below w.heap.size w w' := by
 have hl := H.look x _ hv
 obtain ⟨f, A, n, c, rfl, hf7, hfa, hsl, hoA, hn1, hsu⟩ := H.file _ hl
 obtain rfl : n = (dt (.pointer (some ⟨f, 0, none⟩))).length := by have := hsl.1; omega
 exact Go.Proofs.YtdjnebgjdekmaaaGreatDoor.read_yes H.nowAt x f _ hv A _ c _ _ hfa hsl (by omega) (fun u hu => by obtain ⟨z, _, _, ez⟩ := H.bytes _ hl u hu; rw [ez]; rfl)
theorem DiskIn.read_no (H : DiskIn w d own b F fn fc RA rn rc SA sn sc C cn cc fs ps ss css chl nm dt su) (x : ByteArray) (hno : hasP ltS ps x = false) :
 Calls Tryz.prog 23 #[.pointer (some ⟨d, 0, none⟩), .string x] w fun e w' => e = .returned (.tuple #[.slice none 0 0, .int .i64 3]) ∧ Below w.heap.size w w' := Go.Proofs.YtdjnebgjdekmaaaGreatDoor.read_no H.nowAt x hno
end
def newB (q : Int) : DBox := ⟨.slice none 0 0, 0, .slice none 0 0, .slice none 0 0, .slice none 0 0, max q 0, false, -1, false, 0⟩
theorem DiskIn.new (q : Int) (hq : q ≤ 9223372036854775807) (w : World) (own : Nat → Nat) (nm su : Value → Nat) (dt : Value → List Value) : Calls Tryz.prog 7 #[.int .i64 q] w fun e w' =>
 e = .returned (.pointer (some ⟨w.heap.size, 0, none⟩)) ∧ ∃ own', (∀ i, i < w.heap.size → own' i = own i) ∧ DiskIn w' w.heap.size own' (newB q) none 0 0 none 0 0 none 0 0 none 0 0 [] [] [] [] [] nm dt su ∧ Below w.heap.size w w' := by
 refine (dnew_any q w).mono ?_
 rintro e w' ⟨rfl, hD, hB⟩
 refine ⟨rfl, fun i => if i < w.heap.size then own i else 1, fun i hi => if_pos hi, ?_, hB⟩
 have hn : ∀ k, k ∈ blk none → False := fun k hk => by obtain ⟨ad, ea, _⟩ := mem_blk.1 hk; cases ea
 exact {
  box := hD
  od := if_neg (Nat.lt_irrefl _)
  files := rfl
  line := SLine.nil 1 _
  oF := fun k hk => (hn k hk).elim
  now := rfl
  nrow := RowG.nil _
  oR := fun k hk => (hn k hk).elim
  sure := rfl
  srow := RowG.nil _
  oS := fun k hk => (hn k hk).elim
  changes := rfl
  cline := SLine.nil 1 _
  oC := fun k hk => (hn k hk).elim
  chs := ⟨rfl, fun i v c h => by simp at h⟩
  file := fun v hv => by cases hv
  num := fun v hv => by cases hv
  bytes := fun v hv => by cases hv
  rises := List.Pairwise.nil
  lay := rfl
  sin := fun p hp => by cases hp
  cin := fun c hc => by cases hc
  made := by show (0 : Int) ≤ 0 ∧ (0 : Int) ≤ 80000; omega
  quota := by show 0 ≤ max q 0 ∧ max q 0 ≤ 9223372036854775807; omega
  calls := by show (0 : Int) ≤ 0 ∧ (0 : Int) ≤ 80000; omega
  ahead := by show (-1 : Int) ≤ 9223372036854775807; omega
  lenF := by omega
  lenC := by omega }
section
variable {w w' : World} {d : Nat} {own own' : Nat → Nat} {b : DBox} {F RA SA C : Option Addr} {fn fc rn rc sn sc cn cc : Nat} {fs css : List Value} {ps ss : List (ByteArray × Value)} {chl : List (List (ByteArray × Value))} {nm su : Value → Nat} {dt : Value → List Value}
theorem DiskIn.create_no (H : DiskIn w d own b F fn fc RA rn rc SA sn sc C cn cc fs ps ss css chl nm dt su) (hb : b.calls < 80000) (x : ByteArray) (hsz : x.size ≤ 1000000) (hE : beginE b [x] ≠ 0) :
 Calls Tryz.prog 20 #[.pointer (some ⟨d, 0, none⟩), .string x] w fun e w' => e = .returned (.int .i64 (beginE b [x])) ∧ Only own w own w' ∧ DiskIn w' d own (poweredB b) F fn fc RA rn rc SA sn sc C cn cc fs ps ss css chl nm dt su := by
 refine (create_err H.nowAt x hsz hE).mono ?_
 rintro e w' ⟨rfl, hD, hc⟩
 exact ⟨rfl, H.off1 hb hD hc⟩
theorem DiskIn.create_big (H : DiskIn w d own b F fn fc RA rn rc SA sn sc C cn cc fs ps ss css chl nm dt su) (hb : b.calls < 80000) (x : ByteArray) (hsz : x.size ≤ 1000000) (hE : beginE b [x] = 0) (hno : hasP ltS ps x = false) (hbig : 1024 ≤ rn) :
 Calls Tryz.prog 20 #[.pointer (some ⟨d, 0, none⟩), .string x] w fun e w' => e = .returned (.int .i64 2) ∧ Only own w own w' ∧ DiskIn w' d own (poweredB b) F fn fc RA rn rc SA sn sc C cn cc fs ps ss css chl nm dt su := by
 refine (Go.Proofs.YtdjnebgjdekmaaaGreatDoor.create_big H.nowAt x hsz hE hno hbig).mono ?_
 rintro e w' ⟨rfl, hD, hc⟩
 exact ⟨rfl, H.off1 hb hD hc⟩
theorem DiskIn.sync_no (H : DiskIn w d own b F fn fc RA rn rc SA sn sc C cn cc fs ps ss css chl nm dt su) (hb : b.calls < 80000) (x : ByteArray) (hsz : x.size ≤ 1000000) (hE : withE b [x] ps x ≠ 0) :
 Calls Tryz.prog 65 #[.pointer (some ⟨d, 0, none⟩), .string x] w fun e w' => e = .returned (.int .i64 (withE b [x] ps x)) ∧ Only own w own w' ∧ DiskIn w' d own (poweredB b) F fn fc RA rn rc SA sn sc C cn cc fs ps ss css chl nm dt su := by
 refine (Go.Proofs.YtdjnebgjdekmaaaGreatDoor.sync_no H.nowAt x hsz hE).mono ?_
 rintro e w' ⟨rfl, hD, hc⟩
 exact ⟨rfl, H.off1 hb hD hc⟩
theorem DiskIn.remove_no (H : DiskIn w d own b F fn fc RA rn rc SA sn sc C cn cc fs ps ss css chl nm dt su) (hb : b.calls < 80000) (x : ByteArray) (hsz : x.size ≤ 1000000) (hE : withE b [x] ps x ≠ 0) :
 Calls Tryz.prog 30 #[.pointer (some ⟨d, 0, none⟩), .string x] w fun e w' => e = .returned (.int .i64 (withE b [x] ps x)) ∧ Only own w own w' ∧ DiskIn w' d own (poweredB b) F fn fc RA rn rc SA sn sc C cn cc fs ps ss css chl nm dt su := by
 refine (Go.Proofs.YtdjnebgjdekmaaaGreatDoor.remove_no H.nowAt x hsz hE).mono ?_
 rintro e w' ⟨rfl, hD, hc⟩
 exact ⟨rfl, H.off1 hb hD hc⟩
theorem DiskIn.rename_no (H : DiskIn w d own b F fn fc RA rn rc SA sn sc C cn cc fs ps ss css chl nm dt su) (hb : b.calls < 80000) (x y : ByteArray) (hsz : x.size ≤ 1000000) (hsz2 : y.size ≤ 1000000) (hE : withE b [x, y] ps x ≠ 0) :
 Calls Tryz.prog 67 #[.pointer (some ⟨d, 0, none⟩), .string x, .string y] w fun e w' => e = .returned (.int .i64 (withE b [x, y] ps x)) ∧ Only own w own w' ∧ DiskIn w' d own (poweredB b) F fn fc RA rn rc SA sn sc C cn cc fs ps ss css chl nm dt su := by
 refine (Go.Proofs.YtdjnebgjdekmaaaGreatDoor.rename_no H.nowAt x y hsz hsz2 hE).mono ?_
 rintro e w' ⟨rfl, hD, hc⟩
 exact ⟨rfl, H.off1 hb hD hc⟩
theorem DiskIn.stop (H : DiskIn w d own b F fn fc RA rn rc SA sn sc C cn cc fs ps ss css chl nm dt su) (k : Int) (hk : k ≤ 9223372036854775807) :
 Calls Tryz.prog 9 #[.pointer (some ⟨d, 0, none⟩), .int .i64 k] w fun e w' => (∃ v, e = .returned v) ∧ Only own w own w' ∧ DiskIn w' d own { b with ahead := k } F fn fc RA rn rc SA sn sc C cn cc fs ps ss css chl nm dt su := by
 refine (dstop_any w d b H.box k).mono ?_
 rintro e w' ⟨he, hD, hc⟩
 exact ⟨he, Only.of_chg hc (fun k hk => by rw [List.mem_singleton] at hk; rw [hk, H.od]; exact .inl (by omega)), H.boxed hc _ hD rfl rfl rfl rfl rfl H.quota H.calls hk⟩
end
section
variable {w w' : World} {d : Nat} {own own' : Nat → Nat} {b : DBox} {F RA SA C : Option Addr} {fn fc rn rc sn sc cn cc : Nat} {fs css : List Value} {ps ss : List (ByteArray × Value)} {chl : List (List (ByteArray × Value))} {nm su : Value → Nat} {dt : Value → List Value}
end
def standN (fs : List Value) (nm : Value → Nat) (v : Value) : Nat := (fs.filter fun u => decide (nm u < nm v)).length
theorem standN_eq (nm : Value → Nat) (v : Value) : ∀ (fs : List Value), (fs.Pairwise fun u v => nm u < nm v) → ∀ i : Nat, fs[i]? = some v → standN fs nm v = i := by
 intro fs
 induction fs with
 | nil => intro _ i h; simp at h
 | cons x l ih =>
  intro hp i h
  obtain ⟨h1, h2⟩ := List.pairwise_cons.1 hp
  cases i with
  | zero =>
   rw [List.getElem?_cons_zero] at h
   cases h
   unfold standN
   rw [List.filter_eq_nil_iff.2]
   · rfl
   · intro u hu
     rcases List.mem_cons.1 hu with e | e
     · rw [e]; simp
     · have := h1 u e
       simp; omega
  | succ k =>
   rw [List.getElem?_cons_succ] at h
   have hx := h1 v (List.mem_of_getElem? h)
   have := ih h2 k h
   unfold standN at this ⊢
   rw [List.filter_cons_of_pos (by simpa using hx), List.length_cons, this]
def leftV (zs : List Int) (nm : Value → Nat) (dt : Value → List Value) (su : Value → Nat) (v : Value) : Nat := leftN (dt v).length (su v) (keptZ zs (nm v))
structure LostAt (w : World) (own : Nat → Nat) (fs : List Value) (zs : List Int) (nm : Value → Nat) (dt : Value → List Value) (su : Value → Nat) (j : Nat) (own' : Nat → Nat) (wr : World) : Prop where
 below : Below 0 w wr
 ag : ∀ i, i < w.heap.size → own' i = own i
 same : ∀ i, i < w.heap.size → own i ≠ 7 → wr.heap[i]? = w.heap[i]?
 lost : ∀ (i : Nat) (v : Value), fs[i]? = some v → i < j → FileO wr own' v i ((dt v).take (leftV zs nm dt su v)) (leftV zs nm dt su v)
 still : ∀ (i : Nat) (v : Value), fs[i]? = some v → j ≤ i → FileO wr own' v (nm v) (dt v) (su v)
theorem FileO.carry2 {w w' : World} {own own' : Nat → Nat} {v : Value} {num sure f : Nat} {xs : List Value} (h : FileO w own v num xs sure) (hz : w.heap.size ≤ w'.heap.size) (ho : ∀ k, k < w.heap.size → own' k = own k) (hs : ∀ k, k < w.heap.size → k ≠ f → w'.heap[k]? = w.heap[k]?) (hf : own f = 7) (hv : v ≠ .pointer (some ⟨f, 0, none⟩)) : FileO w' own' v num xs sure := by
 obtain ⟨g, A, n, c, e, h1, h2, h3, h4, h5⟩ := h
 have hg := lt_of_block h2
 have hgf : g ≠ f := fun e' => hv (by rw [e, e'])
 exact ⟨g, A, n, c, e, (ho g hg).trans h1, h2.same (hs g hg hgf), h3.same hz (fun k hk => hs k (h3.lt k hk) (fun e' => by have := h4 k hk; rw [e'] at this; omega)), fun k hk => (ho k (h3.lt k hk)).trans (h4 k hk), h5⟩
theorem leftN_le (n sure : Nat) (others : Int) (h : sure ≤ n) : leftN n sure others ≤ n := by unfold leftN; omega
theorem LostAt.step {w wr w' : World} {own own' : Nat → Nat} {fs : List Value} {zs : List Int} {nm su : Value → Nat} {dt : Value → List Value} {j f : Nat} (h : LostAt w own fs zs nm dt su j own' wr) (hr : fs.Pairwise fun u v => nm u < nm v) (v : Value) (hv : fs[j]? = some v) (e : v = .pointer (some ⟨f, 0, none⟩)) (hf : own' f = 7) (hfw : f < w.heap.size) (hown : own f = 7) (hfl : f < wr.heap.size) (hln : (dt v).length ≤ 1048576) (hsu : su v ≤ (dt v).length)
 (A : Option Addr) (c : Nat) (h1 : FileAt w' f j A (leftV zs nm dt su v) c (leftV zs nm dt su v)) (h2 : SLine 1 w' A (leftV zs nm dt su v) c ((dt v).take (leftV zs nm dt su v))) (h3 : ∀ k ∈ blk A, wr.heap.size ≤ k) (hc : Chg [f] wr w') :
 ∃ own'', LostAt w own fs zs nm dt su (j + 1) own'' w' := by
 have hz := hc.size
 have hz0 := h.below.size
 have hs : ∀ k, k < wr.heap.size → k ≠ f → w'.heap[k]? = wr.heap[k]? := fun k hk hn => hc.same k hk (fun hm => by rw [List.mem_singleton] at hm; exact hn hm)
 have hlef : leftV zs nm dt su v ≤ (dt v).length := leftN_le _ _ _ hsu
 have hne : ∀ (i : Nat) (u : Value), fs[i]? = some u → i ≠ j → u ≠ .pointer (some ⟨f, 0, none⟩) := fun i u hu hij he => by
  rw [← e] at he
  subst he
  have a := standN_eq nm u fs hr i hu
  have b := standN_eq nm u fs hr j hv
  omega
 refine ⟨fun k => if k < wr.heap.size then own' k else if k ∈ blk A then 8 + j else 0, ?_⟩
 have ho : ∀ k, k < wr.heap.size → (if k < wr.heap.size then own' k else if k ∈ blk A then 8 + j else 0) = own' k := fun k hk => if_pos hk
 exact {
  below := h.below.trans (hc.below)
  ag := fun i hi => (ho i (by omega)).trans (h.ag i hi)
  same := fun i hi hn => (hs i (by omega) (fun e' => hn (by rw [e']; exact hown))).trans (h.same i hi hn)
  lost := fun i u hu hij => by
   by_cases hj : i = j
   · subst hj
     rw [hv] at hu
     cases hu
     refine ⟨f, A, _, c, e, (ho f hfl).trans hf, h1, h2, fun k hk => ?_, by omega, Nat.le_refl _⟩
     have := h3 k hk
     simp only [show ¬ k < wr.heap.size by omega, if_false, hk, if_true]
   · exact (h.lost i u hu (by omega)).carry2 hz ho hs hf (hne i u hu hj)
  still := fun i u hu hij => (h.still i u hu (by omega)).carry2 hz ho hs hf (hne i u hu (by omega)) }
theorem LostAt.start {w : World} {own : Nat → Nat} {fs : List Value} {zs : List Int} {nm su : Value → Nat} {dt : Value → List Value} (h : ∀ v ∈ fs, FileO w own v (nm v) (dt v) (su v)) : LostAt w own fs zs nm dt su 0 own w where
 below := Below.refl _ _
 ag := fun _ _ => rfl
 same := fun _ _ _ => rfl
 lost := fun i v _ h => by omega
 still := fun i v hv _ => h v (List.mem_of_getElem? hv)
theorem LostAt.disk {w wr w' : World} {d : Nat} {own own' : Nat → Nat} {b : DBox} {F RA SA C : Option Addr} {fn fc rn rc sn sc cn cc : Nat} {fs css : List Value} {R : List (ByteArray × Value)} {zs : List Int} {nm su : Value → Nat} {dt : Value → List Value}
 (H : DiskIn w d own b F fn fc RA rn rc SA sn sc C cn cc fs R R css [] nm dt su) (h : LostAt w own fs zs nm dt su fn own' wr) (hc : Chg [d] wr w') (hD : DBoxAt w' d { b with made := (fn : Int), full := false, ahead := -1, off := false }) :
 Only own w own' w' ∧ DiskIn w' d own' { b with made := (fn : Int), full := false, ahead := -1, off := false } F fn fc RA rn rc SA sn sc C cn cc fs R R css [] (standN fs nm) (fun v => (dt v).take (leftV zs nm dt su v)) (leftV zs nm dt su) := by
 have hz0 := h.below.size
 have hz := hc.size
 have hdl := H.box.lt
 have hs1 : ∀ k, k < wr.heap.size → own' k ≠ 1 → w'.heap[k]? = wr.heap[k]? := fun k hk hn => hc.same k hk (fun hm => by rw [List.mem_singleton] at hm; rw [hm, h.ag d hdl] at hn; exact hn H.od)
 have hs : ∀ k, k < w.heap.size → own k ≠ 1 → own k ≠ 7 → w'.heap[k]? = w.heap[k]? := fun k hk h1 h7 => (hs1 k (by omega) (by rw [h.ag k hk]; exact h1)).trans (h.same k hk h7)
 have hln : fs.length = fn := by have := H.line.1; omega
 have hst : ∀ v ∈ fs, ∃ i, i < fn ∧ fs[i]? = some v ∧ standN fs nm v = i := fun v hv => by
  obtain ⟨i, hi, e⟩ := List.mem_iff_getElem.1 hv
  have e2 : fs[i]? = some v := by rw [List.getElem?_eq_getElem hi, e]
  exact ⟨i, by omega, e2, standN_eq nm v fs H.rises i e2⟩
 refine ⟨⟨h.below.trans hc.below, h.ag, fun i hi h0 => hs i hi (by omega) (by omega)⟩, ?_⟩
 have hF := H.lenF
 have hC := H.lenC
 exact {
  box := hD
  od := (h.ag d hdl).trans H.od
  files := H.files
  line := H.line.same (by omega) fun k hk => hs k (H.line.lt k hk) (by rw [H.oF k hk]; omega) (by rw [H.oF k hk]; omega)
  oF := fun k hk => (h.ag k (H.line.lt k hk)).trans (H.oF k hk)
  now := H.now
  nrow := H.nrow.same (by omega) fun k hk => hs k (H.nrow.lt' k hk) (by rw [H.oR k hk]; omega) (by rw [H.oR k hk]; omega)
  oR := fun k hk => (h.ag k (H.nrow.lt' k hk)).trans (H.oR k hk)
  sure := H.sure
  srow := H.srow.same (by omega) fun k hk => hs k (H.srow.lt' k hk) (by rw [H.oS k hk]; omega) (by rw [H.oS k hk]; omega)
  oS := fun k hk => (h.ag k (H.srow.lt' k hk)).trans (H.oS k hk)
  changes := H.changes
  cline := H.cline.same (by omega) fun k hk => hs k (H.cline.lt k hk) (by rw [H.oC k hk]; omega) (by rw [H.oC k hk]; omega)
  oC := fun k hk => (h.ag k (H.cline.lt k hk)).trans (H.oC k hk)
  chs := H.chs.carry (by omega) h.ag fun k hk h6 => hs k hk (by omega) (by omega)
  file := fun v hv => by
   obtain ⟨i, hi, e, es⟩ := hst v hv
   have h1 := h.lost i v e hi
   rw [es]
   exact h1.carry hz (fun _ _ => rfl) fun k hk h8 => hs1 k hk (by omega)
  num := fun v hv => by obtain ⟨i, hi, e, es⟩ := hst v hv; rw [es]; show (i : Int) < (fn : Int); omega
  bytes := fun v hv u hu => H.bytes v hv u (List.mem_of_mem_take hu)
  rises := by
   rw [List.pairwise_iff_getElem]
   intro i j hi hj hij
   rw [standN_eq nm _ fs H.rises i (List.getElem?_eq_getElem hi), standN_eq nm _ fs H.rises j (List.getElem?_eq_getElem hj)]
   exact hij
  lay := H.lay
  sin := H.sin
  cin := H.cin
  made := by show 0 ≤ (fn : Int) ∧ (fn : Int) ≤ 80000; omega
  quota := H.quota
  calls := H.calls
  ahead := by show (-1 : Int) ≤ _; omega
  lenF := H.lenF
  lenC := H.lenC }
section
variable {w w' : World} {d : Nat} {own own' : Nat → Nat} {b : DBox} {F RA SA C : Option Addr} {fn fc rn rc sn sc cn cc : Nat} {fs css : List Value} {ps ss : List (ByteArray × Value)} {chl : List (List (ByteArray × Value))} {nm su : Value → Nat} {dt : Value → List Value}
theorem DiskIn.heapEq (H : DiskIn w d own b F fn fc RA rn rc SA sn sc C cn cc fs ps ss css chl nm dt su) (h : w'.heap = w.heap) : DiskIn w' d own b F fn fc RA rn rc SA sn sc C cn cc fs ps ss css chl nm dt su := H.carry (by rw [h]; exact Nat.le_refl _) (fun _ _ => rfl) (fun k _ _ => by rw [h])
def CrashedO (w : World) (d : Nat) (own : Nat → Nat) (b : DBox) (F : Option Addr) (fc : Nat) (fs1 : List Value) (R : List (ByteArray × Value)) (zs : List Int) (nm : Value → Nat) (dt : Value → List Value) (su : Value → Nat) (w' : World) : Prop :=
 ∃ own' A2 n2 c2 A3 n3 c3 kf, Only own w own' w' ∧ DiskIn w' d own' { b with files := .slice F kf fc, now := .slice A3 n3 c3, sure := .slice A2 n2 c2, changes := .slice none 0 0, made := (kf : Int), full := false, ahead := -1, off := false } F kf fc A3 n3 c3 A2 n2 c2 none 0 0 fs1 R R [] [] (standN fs1 nm) (fun v => (dt v).take (leftV zs nm dt su v)) (leftV zs nm dt su)
set_option maxHeartbeats 3200000 in
theorem DiskIn.crash (H : DiskIn w d own b F fn fc RA rn rc SA sn sc C cn cc fs ps ss css chl nm dt su) (dir : Int) (hdir : -9223372036854775808 ≤ dir ∧ dir ≤ 9223372036854775807) (KA : Option Addr) (kn kc : Nat) (zs : List Int) (hK : ZsAt w KA kn zs) (hkn : kn ≤ 1000000) (hKo : 0 < kn → ∀ k ∈ blk KA, own k = 0) (hzs : ∀ z ∈ zs, z ≤ 9223372036854775807)
 (R : List (ByteArray × Value)) (hR : layAll ss (chl.take (min (max dir 0) (cn : Int)).toNat) = R) (fs1 : List Value) (hfs1 : fs.filter (keepV nm (R.map fun p => nm p.2)) = fs1) :
 Calls Tryz.prog 14 #[.pointer (some ⟨d, 0, none⟩), .agg #[.int .i64 dir, .slice KA kn kc]] w fun e w' => (∃ v, e = .returned v) ∧ CrashedO w d own b F fc fs1 R zs nm dt su w' := by
 obtain ⟨k, hk⟩ : ∃ k : Nat, (min (max dir 0) (cn : Int)).toNat = k := ⟨_, rfl⟩
 have hkZ : min (max dir 0) (cn : Int) = (k : Int) := by omega
 have hkc : k ≤ cn := by omega
 rw [hk] at hR
 obtain ⟨w0, hw0⟩ : ∃ w0, w.alloc (.cells #[.int .i64 dir, .slice KA kn kc] 25) = w0 := ⟨_, rfl⟩
 have hB0 : Below w.heap.size w w0 := by rw [← hw0]; exact (Below.refl _ w).alloc (Nat.le_refl _) _
 have hs0 : w0.heap.size = w.heap.size + 1 := by rw [← hw0]; simp
 have q0 : w0.heap[w.heap.size]? = some (.cells #[.int .i64 dir, .slice KA kn kc] 25 (0, 0)) := by rw [← hw0]; show (w.heap.push _)[w.heap.size]? = _; rw [Array.getElem?_push_size]
 have q1 : w0.cell? ⟨w.heap.size, 0, none⟩ = some (.int .i64 dir) := by rw [cell_of_row w0 w.heap.size 0 _ _ (0, 0) q0]; rfl
 obtain ⟨own0, hown0⟩ : ∃ own0 : Nat → Nat, own0 = fun i => if i < w.heap.size then own i else 0 := ⟨_, rfl⟩
 have ho0 : ∀ i, i < w.heap.size → own0 i = own i := fun i hi => by rw [hown0]; simp only [hi, if_true]
 have hoq : own0 w.heap.size = 0 := by rw [hown0]; simp only [Nat.lt_irrefl, if_false]
 have H0 := H.carry (own' := own0) hB0.size ho0 (fun i hi _ => hB0.block i hi)
 have O0 : Only own w own0 w0 := ⟨hB0.mono (Nat.zero_le _), ho0, fun i hi _ => hB0.block i hi⟩
 have HQ := Lib.hid (And.intro q0 (And.intro hoq (And.intro hs0 (And.intro ho0 (And.intro O0 hB0)))))
 have c4 : w0.cell? ⟨d, 4, none⟩ = some b.changes := H0.box.cell 4 _ rfl
 rw [H.changes] at c4
 have HS := Lib.hid (fun (W : World) (hW : W.heap = w0.heap) => (H0.heapEq hW).settle k hkc)
 rw [hR] at HS
 have HK := Lib.hid (And.intro hK (And.intro hKo hzs))
 have HFS := Lib.hid hfs1
 have hdl := H.box.lt
 clear hk hR q0 hown0 ho0 hoq H0 O0 hB0 hs0 hK hKo hzs hfs1 H
 go_enter Tryz.func14, Tryz.ntmps14
 go_upto_region 2 with fail
 go_cut [] from 8 to 18 (fun wx => Hid (SettledO w0 d own0 b F fc fs nm dt su R wx))
 case first =>
  go_region_with (go_at_call 37; refine (HS.out w0.drew rfl).mono ?_; rintro e w1 ⟨⟨v, rfl⟩, own1, A2, n2, c2, A3, n3, c3, kf, ho1, H1⟩; have HR1 : Hid (SettledO w0 d own0 b F fc fs nm dt su R w1) := Lib.hid ⟨own1, A2, n2, c2, A3, n3, c3, kf, (Only.of_chg ((Chg.refl [] w0).drew) (by simp)).trans ho1, H1⟩; clear ho1 H1)
  all_goals
   go_wp2_with fail
   go_meet
   exact HR1
 case rest =>
  obtain ⟨own1, A2, n2, c2, A3, n3, c3, kf, ho1, H1⟩ := hcut.out
  rw [HFS.out] at H1
  have x0 : wc.cell? ⟨d, 0, none⟩ = some (.slice F kf fc) := H1.box.cell 0 _ rfl
  have HD := Lib.hid (And.intro H1 ho1)
  have hcc : kf ≤ fc := H1.line.2.1
  have hcc63 : fc ≤ 9223372036854775807 := by have := H1.line.2.2.1; unfold maxLen at this; omega
  clear ho1 H1 hcut q1 c4 HS
  go_wp2_with fail
  go_loopw [24] (fun i wr => ∃ j : Nat, j ≤ kf ∧ i = .int .i64 j ∧ Hid (∃ own2, LostAt wc own1 fs1 zs nm dt su j own2 wr)) (fun i _ => kf - (intOf i).toNat)
  case atStart => exact ⟨0, by omega, rfl, Lib.hid ⟨own1, LostAt.start HD.out.1.file⟩⟩
  case round =>
   obtain ⟨j, hj, rfl, HI⟩ := hrel
   obtain ⟨own2, hL⟩ := HI.out
   obtain ⟨H1, ho1⟩ := HD.out
   obtain ⟨hq0, hoq, hs0, ho0, hO0, hB0⟩ := HQ.out
   have hfl1 : fs1.length = kf := by have := H1.line.1; omega
   have hz1 := ho1.1.size
   have hz2 := hL.below.size
   rcases Nat.lt_or_ge j kf with hjk | hjk
   · obtain ⟨v, hv⟩ : ∃ v, fs1[j]? = some v := ⟨_, List.getElem?_eq_getElem (by omega)⟩
     have hvm := List.mem_of_getElem? hv
     obtain ⟨f, A, n, c, e, hf7, hfa, hsl, hoA, hn1, hsu⟩ := hL.still j v hv (Nat.le_refl _)
     obtain rfl : n = (dt v).length := by have := hsl.1; omega
     obtain ⟨f', _, _, _, e', hf7', hfa', _⟩ := H1.file v hvm
     rw [e] at e'
     cases e'
     have hfw := lt_of_block hfa'
     have hflr := lt_of_block hfa
     have hline : SLine 1 wr F kf fc fs1 := H1.line.same hz2 fun x hx => hL.same x (H1.line.lt x hx) (by rw [H1.oF x hx]; omega)
     obtain ⟨g, off, rfl, hg, hcs, _⟩ := hline.at (by omega)
     have hck := hcs j (by omega)
     rw [hv, e] at hck
     have hq1 : own1 w.heap.size = 0 := (ho1.2.1 _ (by omega)).trans hoq
     have hqr : wr.heap[w.heap.size]? = some (.cells #[.int .i64 dir, .slice KA kn kc] 25 (0, 0)) := (hL.same _ (by omega) (by omega)).trans ((ho1.2.2 _ (by omega) hoq).trans hq0)
     have hq2 : wr.cell? ⟨w.heap.size, 1, none⟩ = some (.slice KA kn kc) := by rw [cell_of_row wr w.heap.size 1 _ _ (0, 0) hqr]; rfl
     have hKr : ZsAt wr KA kn zs := by
      rcases Nat.eq_zero_or_pos kn with hk0 | hk0
      · exact ⟨HK.out.1.1, fun hlt => by omega⟩
      · exact HK.out.1.same (by omega) (fun x hx hxl => by
         have hx0 := HK.out.2.1 hk0 x hx
         have hx1 : own0 x = 0 := (ho0 x hxl).trans hx0
         have hx2 : own1 x = 0 := (ho1.2.1 x (by omega)).trans hx1
         exact (hL.same x (by omega) (by omega)).trans ((ho1.2.2 x (by omega) hx1).trans (hB0.block x hxl)))
     have hnum : nm v ≤ 1000000 := by have := H1.num v hvm; have h := H1.made; dsimp only at this h; omega
     have hc0 := hfa.c0
     have HKEPT := Lib.hid (fun (W : World) (hW : W.heap = wr.heap) => kept_any W KA kn kc zs (hKr.same (by rw [hW]; exact Nat.le_refl _) (fun _ _ _ => by rw [hW])) hkn (nm v) hnum)
     have hkz : keptZ zs (nm v) ≤ 9223372036854775807 := by
      unfold keptZ
      split
      · omega
      · rename_i h0
        have hm : nm v % zs.length < zs.length := Nat.mod_lt _ (by omega)
        rw [List.getD_eq_getElem?_getD, List.getElem?_eq_getElem hm, Option.getD_some]
        exact HK.out.2.2 _ (List.getElem_mem hm)
     have HLOSE := Lib.hid (fun (W : World) (hW : W.heap = wr.heap) => lose_any W f (nm v) A (dt v).length c (su v) (dt v) (keptZ zs (nm v)) (hfa.same (by rw [hW])) (hsl.same (by rw [hW]; exact Nat.le_refl _) (fun _ _ => by rw [hW])) (by omega) (fun u hu => by obtain ⟨z, _, _, ez⟩ := H1.bytes v hvm u hu; rw [ez]; rfl) hsu (fun hm => by have := hoA f hm; omega) hkz)
     have HX := Lib.hid (And.intro hL (And.intro H1.rises (And.intro hv (And.intro e (And.intro hf7 (And.intro hfw (And.intro hf7' (And.intro hflr (And.intro hn1 hsu)))))))))
     obtain ⟨num, hnm⟩ : ∃ num, nm v = num := ⟨_, rfl⟩
     obtain ⟨kz, hkze⟩ : ∃ kz, keptZ zs (nm v) = kz := ⟨_, rfl⟩
     have HLV : Hid (leftN (dt v).length (su v) kz = leftV zs nm dt su v) := Lib.hid (by rw [← hkze]; rfl)
     rw [hkze] at HKEPT HLOSE
     rw [hnm] at hc0 HKEPT HLOSE
     have hjk' : (j : Int) < (kf : Int) := by omega
     have hj0 : (0 : Int) ≤ (j : Int) := by omega
     clear hL H1 ho1 hq0 hoq hs0 ho0 hO0 hB0 hfl1 hvm hfa hsl hoA hfa' hfw hflr hline hg hcs hq1 hqr hKr hnum hkz hnm hkze hn1 hsu hf7 hf7' hv e HI
     go_wp2_with fail
     go_region_with (first
      | (go_at_call 39; refine (HKEPT.out wr.drew rfl).mono ?_; rintro e w2 ⟨rfl, rfl⟩)
      | (go_at_call 38; refine (HLOSE.out wr.drew rfl).mono ?_; rintro e w5 ⟨⟨v5, rfl⟩, A5, c5, hf5, hl5, ha5, hc5⟩; have z0 := hf5.c0; have zf := hf5.free 0; have H5 := Lib.hid (And.intro hf5 (And.intro hl5 (And.intro ha5 hc5))); clear hf5 hl5 ha5 hc5))
     all_goals
      obtain ⟨w6, hw6⟩ : ∃ w6, w5.setCell ⟨f, 0, none⟩ (.int .i64 (j : Int)) = w6 := ⟨_, rfl⟩
      have HNEW : Hid (∃ own2, LostAt wc own1 fs1 zs nm dt su (j + 1) own2 w6) := Lib.hid (by
       obtain ⟨hL, hr1, hv, e, hf7, hfw, hf7', hflr, hn1, hsu⟩ := HX.out
       obtain ⟨hf5, hl5, ha5, hc5⟩ := H5.out
       rw [HLV.out] at hf5 hl5
       have hA5 : ∀ x ∈ blk A5, x ≠ f := fun x hx ex => by have h5 : wr.heap.size ≤ x := ha5 x hx; omega
       have hc6 : Chg [f] w5 w6 := by rw [← hw6]; exact (Chg.refl _ w5).setCell f 0 _ (.inl (by simp))
       refine hL.step hr1 v hv e hf7 hfw hf7' hflr hn1 hsu A5 c5 (by rw [← hw6]; exact hf5.setNum j) (hl5.chg hc6 (fun x hx hm => hA5 x hx (List.mem_singleton.1 hm))) (fun x hx => ha5 x hx) ?_
       exact ((Chg.refl _ wr).drew.trans hc5).trans hc6)
      clear H5 HX HLOSE HKEPT
      go_wp2
      go_roundw
      case rel => exact ⟨j + 1, by omega, by go_num, HNEW⟩
      case measure => simp [intOf]; omega
   · obtain rfl : j = kf := by omega
     have hdr : own1 d = 1 := H1.od
     have hDr : DBoxAt wr d _ := (hL.same d H1.box.lt (by omega)).trans H1.box
     have x0r : wr.cell? ⟨d, 0, none⟩ = some (.slice F j fc) := hDr.cell 0 _ rfl
     have x1r : wr.cell? ⟨d, 1, none⟩ = some (.int .i64 b.made) := hDr.cell 1 _ rfl
     have f1r := hDr.free 1
     obtain ⟨wA, hwA⟩ : ∃ wA, wr.setCell ⟨d, 1, none⟩ (.int .i64 (j : Int)) = wA := ⟨_, rfl⟩
     have hDA : DBoxAt wA d { files := .slice F j fc, made := (j : Int), now := .slice A3 n3 c3, sure := .slice A2 n2 c2, changes := .slice none 0 0, quota := b.quota, full := b.full, ahead := b.ahead, off := b.off, calls := b.calls } := by rw [← hwA]; exact hDr.set 1 _ _ rfl
     have x6 : wA.cell? ⟨d, 6, none⟩ = some (.bool b.full) := hDA.cell 6 _ rfl
     have f6 := hDA.free 6
     obtain ⟨wB, hwB⟩ : ∃ wB, wA.setCell ⟨d, 6, none⟩ (.bool false) = wB := ⟨_, rfl⟩
     have hDB : DBoxAt wB d { files := .slice F j fc, made := (j : Int), now := .slice A3 n3 c3, sure := .slice A2 n2 c2, changes := .slice none 0 0, quota := b.quota, full := false, ahead := b.ahead, off := b.off, calls := b.calls } := by rw [← hwB]; exact hDA.set 6 _ _ rfl
     have x8 : wB.cell? ⟨d, 8, none⟩ = some (.bool b.off) := hDB.cell 8 _ rfl
     have f8 := hDB.free 8
     obtain ⟨wC, hwC⟩ : ∃ wC, wB.setCell ⟨d, 8, none⟩ (.bool false) = wC := ⟨_, rfl⟩
     have hDC : DBoxAt wC d { files := .slice F j fc, made := (j : Int), now := .slice A3 n3 c3, sure := .slice A2 n2 c2, changes := .slice none 0 0, quota := b.quota, full := false, ahead := b.ahead, off := false, calls := b.calls } := by rw [← hwC]; exact hDB.set 8 _ _ rfl
     have x7 : wC.cell? ⟨d, 7, none⟩ = some (.int .i64 b.ahead) := hDC.cell 7 _ rfl
     have f7 := hDC.free 7
     obtain ⟨wD, hwD⟩ : ∃ wD, wC.setCell ⟨d, 7, none⟩ (.int .i64 (-1)) = wD := ⟨_, rfl⟩
     have hDD : DBoxAt wD d { files := .slice F j fc, made := (j : Int), now := .slice A3 n3 c3, sure := .slice A2 n2 c2, changes := .slice none 0 0, quota := b.quota, full := false, ahead := -1, off := false, calls := b.calls } := by rw [← hwD]; exact hDC.set 7 _ _ rfl
     have hcD : Chg [d] wr wD := by
      rw [← hwD, ← hwC, ← hwB, ← hwA]
      exact ((((Chg.refl _ wr).setCell d 1 _ (.inl (by simp))).setCell d 6 _ (.inl (by simp))).setCell d 8 _ (.inl (by simp))).setCell d 7 _ (.inl (by simp))
     have h9 := LostAt.disk H1 hL hcD hDD
     have HEND : Hid (CrashedO w d own b F fc fs1 R zs nm dt su wD) := Lib.hid ⟨own2, A2, n2, c2, A3, n3, c3, j, (hO0.trans ho1).trans h9.1, h9.2⟩
     clear hL H1 ho1 hq0 hoq hs0 ho0 hO0 hB0 hfl1 hDr hDA hDB hDC hDD hcD HI h9
     go_wp2
     go_end0
     exact ⟨⟨_, rfl⟩, HEND.out⟩
end
structure Fl where
 data : List Value
 sure : Nat
structure RD where
 files : List Fl
 sure : List (ByteArray × Value)
 chs : List (List (ByteArray × Value))
 quota : Int
 full : Bool
 off : Bool
 stop : Int
 calls : Nat
def numV (n : Nat) : Value := .int .i64 (n : Int)
def numOf (v : Value) : Nat := match v with | .int _ z => z.toNat | _ => 0
theorem numOf_numV (n : Nat) : numOf (numV n) = n := by simp [numOf, numV]
def xorV (mask : Nat) (v : Value) : Value := match v with | .int k z => .int k ((z.toNat ^^^ mask : Nat) : Int) | v => v
namespace RD
def now (r : RD) : List (ByteArray × Value) := layAll r.sure r.chs
def file (r : RD) (k : Nat) : Fl := r.files.getD k ⟨[], 0⟩
def on (r : RD) : Bool := !r.off && r.stop != 0
def powered (r : RD) : RD := if r.off = true then r else if r.stop = 0 then { r with calls := r.calls + 1, off := true } else if 0 < r.stop then { r with calls := r.calls + 1, stop := r.stop - 1 } else { r with calls := r.calls + 1 }
def begE (r : RD) (ns : List ByteArray) : Int := if r.on = true then (if ns.all nameOk = true then 0 else 1) else 5
def witE (r : RD) (ns : List ByteArray) (x : ByteArray) : Int := if r.begE ns = 0 then (if hasP ltS r.now x = true then 0 else 3) else r.begE ns
def num (r : RD) (x : ByteArray) : Nat := numOf ((lookP ltS r.now x).getD (numV 0))
def get (r : RD) (x : ByteArray) : Fl := r.file (r.num x)
def used (r : RD) : Nat := sumLen (fun v => (r.file (numOf v)).data.length) r.now
def create (r : RD) (x : ByteArray) : Int × RD :=
 if r.begE [x] = 0 then (if hasP ltS r.now x = false ∧ 1024 ≤ r.now.length then (2, r.powered) else (0, { r.powered with files := r.files ++ [⟨[], 0⟩], chs := r.chs ++ [[(x, numV r.files.length)]] })) else (r.begE [x], r.powered)
def append (r : RD) (x : ByteArray) (bs : List Value) : Int × RD :=
 if r.witE [x] x = 0 then (if 1048576 < (r.get x).data.length + bs.length then (2, r.powered) else if r.quota < (r.used : Int) + (bs.length : Int) then (4, { r.powered with full := true }) else (0, { r.powered with files := r.files.set (r.num x) ⟨(r.get x).data ++ bs, (r.get x).sure⟩ })) else (r.witE [x] x, r.powered)
def sync (r : RD) (x : ByteArray) : Int × RD :=
 if r.witE [x] x = 0 then (0, { r.powered with files := r.files.set (r.num x) ⟨(r.get x).data, (r.get x).data.length⟩ }) else (r.witE [x] x, r.powered)
def syncDir (r : RD) : Int × RD := if r.on = true then (0, { r.powered with sure := r.now, chs := [] }) else (5, r.powered)
def rename (r : RD) (x y : ByteArray) : Int × RD :=
 if r.witE [x, y] x = 0 then (0, { r.powered with chs := r.chs ++ [[(x, .pointer none), (y, numV (r.num x))]] }) else (r.witE [x, y] x, r.powered)
def remove (r : RD) (x : ByteArray) : Int × RD :=
 if r.witE [x] x = 0 then (0, { r.powered with chs := r.chs ++ [[(x, .pointer none)]] }) else (r.witE [x] x, r.powered)
def stopAt (r : RD) (k : Int) : RD := { r with stop := max k (-1) }
def cutF (zs : List Int) (i : Nat) (f : Fl) : Fl := ⟨f.data.take (leftN f.data.length f.sure (keptZ zs i)), leftN f.data.length f.sure (keptZ zs i)⟩
def left (r : RD) (dir : Int) : List (ByteArray × Value) := layAll r.sure (r.chs.take dir.toNat)
def keep (r : RD) (dir : Int) : List Nat := (List.range r.files.length).filter fun i => decide (i ∈ (r.left dir).map fun p => numOf p.2)
def crash (r : RD) (dir : Int) (zs : List Int) : RD where
 files := (r.keep dir).map fun i => cutF zs i (r.file i)
 sure := (r.left dir).map fun p => (p.1, numV ((r.keep dir).filter fun u => decide (u < numOf p.2)).length)
 chs := []
 quota := r.quota
 full := false
 off := false
 stop := -1
 calls := r.calls
def size (r : RD) : Nat := r.calls + r.files.length + r.sure.length + 2 * r.chs.length
def fresh (q : Int) : RD := ⟨[], [], [], max q 0, false, false, -1, 0⟩
end RD
def tag (nm : Value → Nat) (v : Value) : Value := match v with | .pointer none => .pointer none | v => numV (nm v)
def mapT (nm : Value → Nat) (ps : List (ByteArray × Value)) : List (ByteArray × Value) := ps.map fun p => (p.1, tag nm p.2)
theorem tag_some (nm : Value → Nat) (v : Value) (h : v ≠ .pointer none) : tag nm v = numV (nm v) := by
 unfold tag
 split
 · exact absurd rfl h
 · rfl
theorem mapT_put (nm : Value → Nat) (ps : List (ByteArray × Value)) (k : ByteArray) (v : Value) : mapT nm (putP ltS ps k v) = putP ltS (mapT nm ps) k (tag nm v) := by
 unfold mapT putP
 rw [List.map_append, List.map_cons, List.filter_map, List.filter_map]
 rfl
theorem mapT_drop (nm : Value → Nat) (ps : List (ByteArray × Value)) (k : ByteArray) : mapT nm (dropP ltS ps k) = dropP ltS (mapT nm ps) k := by
 unfold mapT dropP
 rw [List.map_append, List.filter_map, List.filter_map]
 rfl
theorem layOne_put (ps : List (ByteArray × Value)) (c : ByteArray × Value) (h : c.2 ≠ .pointer none) : layOne ps c = putP ltS ps c.1 c.2 := by
 unfold layOne
 split
 · rename_i e; exact absurd e h
 · rfl
theorem layOne_drop (ps : List (ByteArray × Value)) (k : ByteArray) : layOne ps (k, .pointer none) = dropP ltS ps k := rfl
theorem layOne_tag (nm : Value → Nat) (ps : List (ByteArray × Value)) (c : ByteArray × Value) : mapT nm (layOne ps c) = layOne (mapT nm ps) (c.1, tag nm c.2) := by
 obtain ⟨k, v⟩ := c
 by_cases h : v = .pointer none
 · subst h
   exact mapT_drop nm ps k
 · rw [layOne_put _ _ h, mapT_put, layOne_put]
   show tag nm v ≠ _
   rw [tag_some nm v h]
   exact fun e => by cases e
theorem layP_tag (nm : Value → Nat) (cs : List (ByteArray × Value)) : ∀ ps : List (ByteArray × Value), mapT nm (layP ps cs) = layP (mapT nm ps) (mapT nm cs) := by
 induction cs with
 | nil => exact fun ps => rfl
 | cons c l ih =>
  intro ps
  show mapT nm (layP (layOne ps c) l) = layP (layOne (mapT nm ps) (c.1, tag nm c.2)) (mapT nm l)
  rw [ih, layOne_tag]
theorem layAll_tag (nm : Value → Nat) (chl : List (List (ByteArray × Value))) : ∀ ps : List (ByteArray × Value), mapT nm (layAll ps chl) = layAll (mapT nm ps) (chl.map (mapT nm)) := by
 induction chl with
 | nil => exact fun ps => rfl
 | cons c l ih =>
  intro ps
  show mapT nm (layAll (layP ps c) l) = layAll (layP (mapT nm ps) (mapT nm c)) (l.map (mapT nm))
  rw [ih, layP_tag]
theorem look_tag (nm : Value → Nat) (x : ByteArray) : ∀ ps : List (ByteArray × Value), lookP ltS (mapT nm ps) x = (lookP ltS ps x).map (tag nm) := by
 intro ps
 unfold lookP mapT
 rw [List.find?_map]
 simp only [Option.map_map]
 rfl
theorem has_tag (nm : Value → Nat) (x : ByteArray) (ps : List (ByteArray × Value)) : hasP ltS (mapT nm ps) x = hasP ltS ps x := by
 unfold hasP
 rw [look_tag, Option.isSome_map]
theorem sumLen_tag (nm : Value → Nat) (g : Value → Nat) (ps : List (ByteArray × Value)) : sumLen g (mapT nm ps) = sumLen (fun v => g (tag nm v)) ps := by
 unfold sumLen mapT
 rw [List.map_map]
 rfl
theorem mapT_congr (nm nm' : Value → Nat) (ps : List (ByteArray × Value)) (h : ∀ p ∈ ps, p.2 ≠ .pointer none → nm' p.2 = nm p.2) : mapT nm' ps = mapT nm ps := by
 unfold mapT
 refine List.map_congr_left fun p hp => ?_
 by_cases e : p.2 = .pointer none
 · rw [e]; rfl
 · rw [tag_some _ _ e, tag_some _ _ e, h p hp e]
theorem rises_inj {fs : List Value} {nm : Value → Nat} (h : fs.Pairwise fun u v => nm u < nm v) {u v : Value} (hu : u ∈ fs) (hv : v ∈ fs) (e : nm u = nm v) : u = v := by
 obtain ⟨i, hi, rfl⟩ := List.mem_iff_getElem.1 hu
 obtain ⟨j, hj, rfl⟩ := List.mem_iff_getElem.1 hv
 have hp := List.pairwise_iff_getElem.1 h
 rcases Nat.lt_trichotomy i j with hij | hij | hij
 · have := hp i j hi hj hij; omega
 · subst hij; rfl
 · have := hp j i hj hi hij; omega
theorem rises_len {nm : Value → Nat} : ∀ (fs : List Value) (lo hi : Nat), (fs.Pairwise fun u v => nm u < nm v) → (∀ v ∈ fs, lo ≤ nm v ∧ nm v < hi) → fs.length + lo ≤ max hi lo := by
 intro fs
 induction fs with
 | nil => intro lo hi _ _; simp; omega
 | cons x l ih =>
  intro lo hi hp hb
  obtain ⟨h1, h2⟩ := List.pairwise_cons.1 hp
  have hx := hb x (List.mem_cons_self ..)
  have := ih (nm x + 1) hi h2 (fun v hv => ⟨h1 v hv, (hb v (List.mem_cons_of_mem _ hv)).2⟩)
  rw [List.length_cons]
  omega
theorem rises_eq : ∀ (a b : List Nat), a.Pairwise (· < ·) → b.Pairwise (· < ·) → (∀ i, i ∈ a ↔ i ∈ b) → a = b := by
 intro a
 induction a with
 | nil =>
  intro b _ _ h
  cases b with
  | nil => rfl
  | cons y m => exact absurd ((h y).2 (List.mem_cons_self ..)) (by simp)
 | cons x l ih =>
  intro b ha hb h
  cases b with
  | nil => exact absurd ((h x).1 (List.mem_cons_self ..)) (by simp)
  | cons y m =>
   obtain ⟨a1, a2⟩ := List.pairwise_cons.1 ha
   obtain ⟨b1, b2⟩ := List.pairwise_cons.1 hb
   have hxy : x = y := by
    have h1 : x ∈ y :: m := (h x).1 (List.mem_cons_self ..)
    have h2 : y ∈ x :: l := (h y).2 (List.mem_cons_self ..)
    rcases List.mem_cons.1 h1 with e | e
    · exact e
    · rcases List.mem_cons.1 h2 with e' | e'
      · exact e'.symm
      · have := b1 x e; have := a1 y e'; omega
   subst hxy
   rw [ih m a2 b2 (fun i => ⟨fun hi => by
    rcases List.mem_cons.1 ((h i).1 (List.mem_cons_of_mem _ hi)) with e | e
    · have := a1 i hi; omega
    · exact e, fun hi => by
    rcases List.mem_cons.1 ((h i).2 (List.mem_cons_of_mem _ hi)) with e | e
    · have := b1 i hi; omega
    · exact e⟩)]
structure Reads (r : RD) (b : DBox) (fs : List Value) (ss : List (ByteArray × Value)) (chl : List (List (ByteArray × Value))) (nm : Value → Nat) (dt : Value → List Value) (su : Value → Nat) : Prop where
 files : ∀ v ∈ fs, r.files[nm v]? = some ⟨dt v, su v⟩
 sure : r.sure = mapT nm ss
 chs : r.chs = chl.map (mapT nm)
 made : b.made = (r.files.length : Int)
 quota : b.quota = r.quota
 full : b.full = r.full
 off : b.off = r.off
 stop : r.stop = max b.ahead (-1)
 calls : b.calls = (r.calls : Int)
def IsD (w : World) (d : Nat) (own : Nat → Nat) (r : RD) : Prop :=
 (∀ i, w.heap.size ≤ i → own i = 0) ∧ ∃ b F fn fc RA rn rc SA sn sc C cn cc fs ps ss css chl nm dt su, DiskIn w d own b F fn fc RA rn rc SA sn sc C cn cc fs ps ss css chl nm dt su ∧ Reads r b fs ss chl nm dt su
def DNext (w : World) (d : Nat) (own : Nat → Nat) (r : RD) (w' : World) : Prop := ∃ own', Only own w own' w' ∧ IsD w' d own' r
theorem RD.powered_files (r : RD) : r.powered.files = r.files := by unfold RD.powered; split; rfl; split; rfl; split <;> rfl
theorem RD.powered_sure (r : RD) : r.powered.sure = r.sure := by unfold RD.powered; split; rfl; split; rfl; split <;> rfl
theorem RD.powered_chs (r : RD) : r.powered.chs = r.chs := by unfold RD.powered; split; rfl; split; rfl; split <;> rfl
theorem RD.powered_quota (r : RD) : r.powered.quota = r.quota := by unfold RD.powered; split; rfl; split; rfl; split <;> rfl
theorem RD.powered_full (r : RD) : r.powered.full = r.full := by unfold RD.powered; split; rfl; split; rfl; split <;> rfl
theorem RD.powered_calls (r : RD) : r.powered.calls ≤ r.calls + 1 := by unfold RD.powered; split; omega; split; exact Nat.le_refl _; split <;> exact Nat.le_refl _
section
variable {w w' : World} {d : Nat} {own own' : Nat → Nat} {b : DBox} {F RA SA C : Option Addr} {fn fc rn rc sn sc cn cc : Nat} {fs css : List Value} {ps ss : List (ByteArray × Value)} {chl : List (List (ByteArray × Value))} {nm su : Value → Nat} {dt : Value → List Value} {r : RD}
theorem Reads.powered (R : Reads r b fs ss chl nm dt su) : Reads r.powered (poweredB b) fs ss chl nm dt su := by
 have h : (poweredB b).off = r.powered.off ∧ r.powered.stop = max (poweredB b).ahead (-1) ∧ (poweredB b).calls = (r.powered.calls : Int) := by
  have h1 := R.off
  have h2 := R.stop
  have h3 := R.calls
  unfold poweredB RD.powered
  rw [h1]
  by_cases ho : r.off = true
  · rw [if_pos ho, if_pos ho]
    exact ⟨h1, h2, h3⟩
  · rw [if_neg ho, if_neg ho]
    by_cases h0 : b.ahead = 0
    · rw [if_pos h0, if_pos (show r.stop = 0 by omega)]
      exact ⟨rfl, h2, by show b.calls + 1 = ((r.calls + 1 : Nat) : Int); omega⟩
    · rw [if_neg h0, if_neg (show ¬ r.stop = 0 by omega)]
      by_cases hp : 0 < b.ahead
      · rw [if_pos hp, if_pos (show 0 < r.stop by omega)]
        exact ⟨rfl, by show r.stop - 1 = max (b.ahead - 1) (-1); omega, by show b.calls + 1 = ((r.calls + 1 : Nat) : Int); omega⟩
      · rw [if_neg hp, if_neg (show ¬ 0 < r.stop by omega)]
        exact ⟨rfl, h2, by show b.calls + 1 = ((r.calls + 1 : Nat) : Int); omega⟩
 exact ⟨by rw [r.powered_files]; exact R.files, by rw [r.powered_sure]; exact R.sure, by rw [r.powered_chs]; exact R.chs, by rw [Go.Proofs.YtdjnebgjdekmaaaGreatDoor.powered_made, r.powered_files]; exact R.made, by rw [Go.Proofs.YtdjnebgjdekmaaaGreatDoor.powered_quota, r.powered_quota]; exact R.quota, by rw [r.powered_full, ← R.full]; unfold poweredB; split; rfl; split; rfl; split <;> rfl, h.1, h.2.1, h.2.2⟩
theorem Reads.on (R : Reads r b fs ss chl nm dt su) : powerB b = r.on := by
 unfold powerB RD.on
 rw [R.off]
 congr 1
 have h := R.stop
 by_cases h0 : b.ahead = 0
 · rw [h0, show r.stop = 0 by omega]
 · have h1 : (b.ahead != 0) = true := by simpa using h0
   have h2 : (r.stop != 0) = true := by simp; omega
   rw [h1, h2]
theorem Reads.begE (R : Reads r b fs ss chl nm dt su) (ns : List ByteArray) : beginE b ns = r.begE ns := by unfold beginE RD.begE; rw [R.on]
theorem DiskIn.rnow (H : DiskIn w d own b F fn fc RA rn rc SA sn sc C cn cc fs ps ss css chl nm dt su) (R : Reads r b fs ss chl nm dt su) : r.now = mapT nm ps := by
 unfold RD.now
 rw [H.lay, layAll_tag, R.sure, R.chs]
theorem DiskIn.rwit (H : DiskIn w d own b F fn fc RA rn rc SA sn sc C cn cc fs ps ss css chl nm dt su) (R : Reads r b fs ss chl nm dt su) (ns : List ByteArray) (x : ByteArray) : withE b ns ps x = r.witE ns x := by
 unfold withE RD.witE
 rw [R.begE, H.rnow R, has_tag]
theorem DiskIn.ptr (H : DiskIn w d own b F fn fc RA rn rc SA sn sc C cn cc fs ps ss css chl nm dt su) (v : Value) (hv : v ∈ fs) : ∃ f, v = .pointer (some ⟨f, 0, none⟩) := by
 obtain ⟨f, _, _, _, e, _⟩ := H.file v hv
 exact ⟨f, e⟩
theorem DiskIn.ne (H : DiskIn w d own b F fn fc RA rn rc SA sn sc C cn cc fs ps ss css chl nm dt su) (v : Value) (hv : v ∈ fs) : v ≠ .pointer none := fun e => by
 obtain ⟨f, e'⟩ := H.ptr v hv
 rw [e] at e'
 cases e'
theorem DiskIn.rnum (H : DiskIn w d own b F fn fc RA rn rc SA sn sc C cn cc fs ps ss css chl nm dt su) (R : Reads r b fs ss chl nm dt su) (x : ByteArray) (v : Value) (hv : lookP ltS ps x = Option.some v) : r.num x = nm v ∧ r.get x = ⟨dt v, su v⟩ := by
 have hm := H.look x v hv
 have e : r.num x = nm v := by
  unfold RD.num
  rw [H.rnow R, look_tag, hv, Option.map_some, Option.getD_some, tag_some _ _ (H.ne v hm), numOf_numV]
 refine ⟨e, ?_⟩
 unfold RD.get RD.file
 rw [e, List.getD_eq_getElem?_getD, R.files v hm]
 rfl
theorem DiskIn.rused (H : DiskIn w d own b F fn fc RA rn rc SA sn sc C cn cc fs ps ss css chl nm dt su) (R : Reads r b fs ss chl nm dt su) : r.used = usedO dt ps := by
 unfold RD.used usedO
 rw [H.rnow R, sumLen_tag]
 unfold sumLen
 congr 1
 refine List.map_congr_left fun p hp => ?_
 have hm := H.nin p hp
 unfold RD.file
 show (r.files.getD (numOf (tag nm p.2)) ⟨[], 0⟩).data.length = (dt p.2).length
 rw [tag_some _ _ (H.ne _ hm), numOf_numV, List.getD_eq_getElem?_getD, R.files _ hm]
 rfl
theorem DiskIn.rlen (H : DiskIn w d own b F fn fc RA rn rc SA sn sc C cn cc fs ps ss css chl nm dt su) (R : Reads r b fs ss chl nm dt su) : fn ≤ r.files.length ∧ sn = r.sure.length ∧ cn = r.chs.length ∧ rn = r.now.length := by
 have h1 := rises_len fs 0 r.files.length H.rises (fun v hv => ⟨Nat.zero_le _, by have := (List.getElem?_eq_some_iff.1 (R.files v hv)).1; exact this⟩)
 have h2 := H.line.1
 have h3 := H.srow.len
 have h4 := H.cline.1
 have h5 := H.chs.1
 have h6 := H.nrow.len
 refine ⟨by omega, ?_, ?_, ?_⟩
 · rw [R.sure]; unfold mapT; rw [List.length_map]; omega
 · rw [R.chs, List.length_map]; omega
 · rw [H.rnow R]; unfold mapT; rw [List.length_map]; omega
theorem DNext.of (hF : ∀ i, w.heap.size ≤ i → own i = 0) (hO : Only own w own' w') (H : DiskIn w' d own' b F fn fc RA rn rc SA sn sc C cn cc fs ps ss css chl nm dt su) (R : Reads r b fs ss chl nm dt su) : DNext w d own r w' := by
 have hz := hO.1.size
 refine ⟨fun i => if i < w'.heap.size then own' i else 0, ⟨hO.1, fun i hi => (if_pos (by omega)).trans (hO.2.1 i hi), hO.2.2⟩, fun i hi => if_neg (by omega), b, F, fn, fc, RA, rn, rc, SA, sn, sc, C, cn, cc, fs, ps, ss, css, chl, nm, dt, su, ?_, R⟩
 exact H.carry (Nat.le_refl _) (fun i hi => if_pos hi) (fun i hi _ => rfl)
theorem updP_ne {α : Type} (g : Value → α) (fb : Nat) (x : α) (v : Value) (h : v ≠ .pointer (Option.some ⟨fb, 0, none⟩)) : updP g fb x v = g v := by
 unfold updP
 split
 · rename_i e
   unfold ptrIs at e
   split at e
   · rw [beq_iff_eq] at e; rw [e] at h; exact absurd rfl h
   · cases e
 · rfl
end
theorem IsD.carry {w w' : World} {d : Nat} {own own' : Nat → Nat} {r : RD} (h : IsD w d own r) (hz : w.heap.size ≤ w'.heap.size) (ho : ∀ k, k < w.heap.size → own' k = own k) (hs : ∀ k, k < w.heap.size → own k ≠ 0 → w'.heap[k]? = w.heap[k]?) (hF : ∀ i, w'.heap.size ≤ i → own' i = 0) : IsD w' d own' r := by
 obtain ⟨_, b, F, fn, fc, RA, rn, rc, SA, sn, sc, C, cn, cc, fs, ps, ss, css, chl, nm, dt, su, H, R⟩ := h
 exact ⟨hF, b, F, fn, fc, RA, rn, rc, SA, sn, sc, C, cn, cc, fs, ps, ss, css, chl, nm, dt, su, H.carry hz ho hs, R⟩
theorem IsD.below {w w' : World} {d : Nat} {own : Nat → Nat} {r : RD} (h : IsD w d own r) (hB : Below w.heap.size w w') : IsD w' d own r := h.carry hB.size (fun _ _ => rfl) (fun k hk _ => hB.block k hk) (fun i hi => h.1 i (by have := hB.size; omega))
theorem IsD.chg {w w' : World} {d : Nat} {own : Nat → Nat} {r : RD} {l : List Nat} (h : IsD w d own r) (hc : Chg l w w') (hl : ∀ k ∈ l, own k = 0) : IsD w' d own r := h.carry hc.size (fun _ _ => rfl) (fun k hk h0 => hc.same k hk (fun hm => h0 (hl k hm))) (fun i hi => h.1 i (by have := hc.size; omega))
theorem IsD.od {w : World} {d : Nat} {own : Nat → Nat} {r : RD} (h : IsD w d own r) : own d ≠ 0 := by
 obtain ⟨_, b, F, fn, fc, RA, rn, rc, SA, sn, sc, C, cn, cc, fs, ps, ss, css, chl, nm, dt, su, H, R⟩ := h
 rw [H.od]
 omega
section
variable {w w' : World} {d : Nat} {own own' : Nat → Nat} {b : DBox} {F RA SA C : Option Addr} {fn fc rn rc sn sc cn cc : Nat} {fs css : List Value} {ps ss : List (ByteArray × Value)} {chl : List (List (ByteArray × Value))} {nm su : Value → Nat} {dt : Value → List Value} {r : RD}
theorem DiskIn.made_reads (H : DiskIn w d own b F fn fc RA rn rc SA sn sc C cn cc fs ps ss css chl nm dt su) (R : Reads r b fs ss chl nm dt su) (x : ByteArray) (fb : Nat) (b' : DBox) (hne : ∀ v ∈ fs, v ≠ .pointer (some ⟨fb, 0, none⟩))
 (e1 : b'.made = (r.files.length : Int) + 1) (e2 : b'.quota = (poweredB b).quota) (e3 : b'.full = (poweredB b).full) (e4 : b'.off = (poweredB b).off) (e5 : b'.ahead = (poweredB b).ahead) (e6 : b'.calls = (poweredB b).calls) :
 Reads { r.powered with files := r.files ++ [⟨[], 0⟩], chs := r.chs ++ [[(x, numV r.files.length)]] } b' (fs ++ [.pointer (some ⟨fb, 0, none⟩)]) ss (chl ++ [[(x, .pointer (some ⟨fb, 0, none⟩))]]) (updP nm fb r.files.length) (updP dt fb []) (updP su fb 0) := by
 have Rp := R.powered
 refine ⟨fun v hv => ?_, ?_, ?_, ?_, e2.trans Rp.quota, e3.trans Rp.full, e4.trans Rp.off, (by rw [e5]; exact Rp.stop), e6.trans Rp.calls⟩
 · show (r.files ++ [(⟨[], 0⟩ : Fl)])[_]? = _
   rcases List.mem_append.1 hv with h | h
   · rw [updP_ne _ _ _ _ (hne v h), updP_ne _ _ _ _ (hne v h), updP_ne _ _ _ _ (hne v h), List.getElem?_append_left (List.getElem?_eq_some_iff.1 (R.files v h)).1]
     exact R.files v h
   · rw [List.mem_singleton] at h
     rw [h, updP_same, updP_same, updP_same, List.getElem?_append_right (Nat.le_refl _), Nat.sub_self]
     rfl
 · show r.powered.sure = _
   rw [r.powered_sure, R.sure]
   exact (mapT_congr _ _ _ fun p hp _ => updP_ne _ _ _ _ (hne _ (H.sin p hp))).symm
 · show r.chs ++ _ = _
   rw [List.map_append, R.chs]
   congr 1
   · refine List.map_congr_left fun c hc => (mapT_congr _ _ _ fun p hp h => updP_ne _ _ _ _ (hne _ ?_)).symm
     rcases H.cin c hc p hp with h' | h'
     · exact absurd h' h
     · exact h'
   · show _ = [[(x, numV (updP nm fb r.files.length (.pointer (some ⟨fb, 0, none⟩))))]]
     rw [updP_same]
 · rw [e1]
   show _ = ((r.files ++ [(⟨[], 0⟩ : Fl)]).length : Int)
   rw [List.length_append]
   simp
theorem DiskIn.filed_reads (H : DiskIn w d own b F fn fc RA rn rc SA sn sc C cn cc fs ps ss css chl nm dt su) (R : Reads r b fs ss chl nm dt su) (f : Nat) (hf : Value.pointer (some ⟨f, 0, none⟩) ∈ fs) (xs : List Value) (s : Nat) (b' : DBox) (r' : RD) (Rp : Reads r' b' fs ss chl nm dt su) (hr : r'.files = r.files) :
 Reads { r' with files := r.files.set (nm (.pointer (some ⟨f, 0, none⟩))) ⟨xs, s⟩ } b' fs ss chl nm (updP dt f xs) (updP su f s) := by
 refine ⟨fun v hv => ?_, Rp.sure, Rp.chs, ?_, Rp.quota, Rp.full, Rp.off, Rp.stop, Rp.calls⟩
 · show (r.files.set _ _)[_]? = _
   by_cases e : v = .pointer (some ⟨f, 0, none⟩)
   · subst e
     rw [updP_same, updP_same, List.getElem?_set_self (List.getElem?_eq_some_iff.1 (R.files _ hf)).1]
   · rw [updP_ne _ _ _ _ e, updP_ne _ _ _ _ e, List.getElem?_set_ne (fun e' => e (rises_inj H.rises hf hv e').symm)]
     exact R.files v hv
 · rw [Rp.made, hr]
   show _ = ((r.files.set _ _).length : Int)
   rw [List.length_set]
theorem DiskIn.turned_reads (R : Reads r b fs ss chl nm dt su) (chs chs' : List (ByteArray × Value)) (he : mapT nm chs = chs') (b' : DBox)
 (e1 : b'.made = (poweredB b).made) (e2 : b'.quota = (poweredB b).quota) (e3 : b'.full = (poweredB b).full) (e4 : b'.off = (poweredB b).off) (e5 : b'.ahead = (poweredB b).ahead) (e6 : b'.calls = (poweredB b).calls) :
 Reads { r.powered with chs := r.chs ++ [chs'] } b' fs ss (chl ++ [chs]) nm dt su := by
 have Rp := R.powered
 refine ⟨Rp.files, Rp.sure, ?_, e1.trans Rp.made, e2.trans Rp.quota, e3.trans Rp.full, e4.trans Rp.off, (by rw [e5]; exact Rp.stop), e6.trans Rp.calls⟩
 show r.chs ++ _ = _
 rw [List.map_append, R.chs, ← he]
 rfl
end
section
variable {w w' : World} {d : Nat} {own own' : Nat → Nat} {r : RD}
theorem IsD.create (h : IsD w d own r) (hs : r.size + 4 ≤ 80000) (x : ByteArray) (hsz : x.size ≤ 1000000) :
 Calls Tryz.prog 20 #[.pointer (some ⟨d, 0, none⟩), .string x] w fun e w' => e = .returned (.int .i64 (r.create x).1) ∧ DNext w d own (r.create x).2 w' := by
 obtain ⟨hF, b, F, fn, fc, RA, rn, rc, SA, sn, sc, C, cn, cc, fs, ps, ss, css, chl, nm, dt, su, H, R⟩ := h
 obtain ⟨l1, l2, l3, l4⟩ := H.rlen R
 have hcl := R.calls
 unfold RD.size at hs
 have hb : b.calls < 80000 := by omega
 have hE := R.begE [x]
 have hh : hasP ltS r.now x = hasP ltS ps x := by rw [H.rnow R, has_tag]
 by_cases h0 : beginE b [x] = 0
 · have h0' : r.begE [x] = 0 := by rw [← hE]; exact h0
   by_cases hbig : hasP ltS ps x = false ∧ 1024 ≤ rn
   · have e : r.create x = (2, r.powered) := by
      unfold RD.create
      rw [if_pos h0', if_pos ⟨hh.trans hbig.1, by omega⟩]
     rw [e]
     refine (H.create_big hb x hsz h0 hbig.1 hbig.2).mono ?_
     rintro e' w' ⟨rfl, O, H'⟩
     exact ⟨rfl, DNext.of hF O H' R.powered⟩
   · have e : r.create x = (0, { r.powered with files := r.files ++ [⟨[], 0⟩], chs := r.chs ++ [[(x, numV r.files.length)]] }) := by
      unfold RD.create
      rw [if_pos h0', if_neg]
      rintro ⟨q1, q2⟩
      exact hbig ⟨hh.symm.trans q1, by omega⟩
     rw [e]
     refine (H.create_yes hb r.files.length R.made (by omega) (by omega) (by omega) x hsz h0 (by
      cases hq : hasP ltS ps x with
      | true => exact .inl rfl
      | false => exact .inr (by rcases Nat.lt_or_ge rn 1024 with q | q; exact q; exact absurd ⟨hq, q⟩ hbig))).mono ?_
     rintro e' w' ⟨rfl, own', F', fc', fb, A', n', c', C', cc', pb, O, H'⟩
     refine ⟨rfl, DNext.of hF O H' (H.made_reads R x fb _ (fun v hv e => ?_) rfl rfl rfl rfl rfl rfl)⟩
     have := (List.pairwise_append.1 H'.rises).2.2 v hv _ (List.mem_singleton.2 rfl)
     rw [e] at this
     omega
 · have e : r.create x = (r.begE [x], r.powered) := by
    unfold RD.create
    rw [if_neg (by rw [← hE]; exact h0)]
   rw [e, ← hE]
   refine (H.create_no hb x hsz h0).mono ?_
   rintro e' w' ⟨rfl, O, H'⟩
   exact ⟨rfl, DNext.of hF O H' R.powered⟩
theorem IsD.append (h : IsD w d own r) (hs : r.size + 4 ≤ 80000) (x : ByteArray) (hsz : x.size ≤ 1000000) (BA : Option Addr) (bn bc : Nat) (hbn : bn ≤ 10000000) (news : List Value) (hnl : news.length = bn) (hnews : ∀ u ∈ news, ∃ z : Int, 0 ≤ z ∧ z < 256 ∧ u = .int .u8 z) (hsrc : ∀ W, Chg [d] w W → Src Tryz.prog 1 40 (.slice BA bn bc) bn news W) :
 Calls Tryz.prog 21 #[.pointer (some ⟨d, 0, none⟩), .string x, .slice BA bn bc] w fun e w' => e = .returned (.int .i64 (r.append x news).1) ∧ DNext w d own (r.append x news).2 w' := by
 obtain ⟨hF, b, F, fn, fc, RA, rn, rc, SA, sn, sc, C, cn, cc, fs, ps, ss, css, chl, nm, dt, su, H, R⟩ := h
 obtain ⟨l1, l2, l3, l4⟩ := H.rlen R
 have hcl := R.calls
 unfold RD.size at hs
 have hb : b.calls < 80000 := by omega
 have hE := H.rwit R [x] x
 by_cases h0 : withE b [x] ps x = 0
 · have h0' : r.witE [x] x = 0 := by rw [← hE]; exact h0
   have hlk := withF_look b [x] ps x h0
   have hm := H.look x _ hlk
   obtain ⟨f, hf⟩ := H.ptr _ hm
   obtain ⟨n1, n2⟩ := H.rnum R x _ hlk
   rw [hf] at n1 n2 hm
   by_cases hbig : 1048576 < (dt (.pointer (some ⟨f, 0, none⟩))).length + bn
   · have e : r.append x news = (2, r.powered) := by
      unfold RD.append
      rw [if_pos h0', if_pos (by rw [n2, hnl]; exact hbig)]
     rw [e]
     refine (H.append_big hb x hsz h0 f hf BA bn bc hbn hbig).mono ?_
     rintro e' w' ⟨rfl, O, H'⟩
     exact ⟨rfl, DNext.of hF O H' R.powered⟩
   · by_cases hfull : b.quota < (usedO dt ps : Int) + (bn : Int)
     · have e : r.append x news = (4, { r.powered with full := true }) := by
        unfold RD.append
        rw [if_pos h0', if_neg (by rw [n2, hnl]; exact hbig), if_pos (by rw [← R.quota, H.rused R, hnl]; exact hfull)]
       rw [e]
       refine (H.append_full hb x hsz h0 f hf BA bn bc (by omega) hfull).mono ?_
       rintro e' w' ⟨rfl, O, H'⟩
       have Rp := R.powered
       exact ⟨rfl, DNext.of hF O H' ⟨Rp.files, Rp.sure, Rp.chs, Rp.made, Rp.quota, rfl, Rp.off, Rp.stop, Rp.calls⟩⟩
     · have e : r.append x news = (0, { r.powered with files := r.files.set (r.num x) ⟨(r.get x).data ++ news, (r.get x).sure⟩ }) := by
        unfold RD.append
        rw [if_pos h0', if_neg (by rw [n2, hnl]; exact hbig), if_neg (by rw [← R.quota, H.rused R, hnl]; exact hfull)]
       rw [e, n1, n2]
       refine (H.append_yes hb x hsz h0 f hf BA bn bc (by omega) (by omega) news hnews hsrc).mono ?_
       rintro e' w' ⟨rfl, own', O, H'⟩
       exact ⟨rfl, DNext.of hF O H' (H.filed_reads R f hm _ _ _ _ R.powered r.powered_files)⟩
 · have e : r.append x news = (r.witE [x] x, r.powered) := by
    unfold RD.append
    rw [if_neg (by rw [← hE]; exact h0)]
   rw [e, ← hE]
   refine (H.append_no hb x hsz h0 BA bn bc).mono ?_
   rintro e' w' ⟨rfl, O, H'⟩
   exact ⟨rfl, DNext.of hF O H' R.powered⟩
theorem IsD.sync (h : IsD w d own r) (hs : r.size + 4 ≤ 80000) (x : ByteArray) (hsz : x.size ≤ 1000000) :
 Calls Tryz.prog 65 #[.pointer (some ⟨d, 0, none⟩), .string x] w fun e w' => e = .returned (.int .i64 (r.sync x).1) ∧ DNext w d own (r.sync x).2 w' := by
 obtain ⟨hF, b, F, fn, fc, RA, rn, rc, SA, sn, sc, C, cn, cc, fs, ps, ss, css, chl, nm, dt, su, H, R⟩ := h
 have hcl := R.calls
 unfold RD.size at hs
 have hb : b.calls < 80000 := by omega
 have hE := H.rwit R [x] x
 by_cases h0 : withE b [x] ps x = 0
 · have h0' : r.witE [x] x = 0 := by rw [← hE]; exact h0
   have hlk := withF_look b [x] ps x h0
   have hm := H.look x _ hlk
   obtain ⟨f, hf⟩ := H.ptr _ hm
   obtain ⟨n1, n2⟩ := H.rnum R x _ hlk
   rw [hf] at n1 n2 hm
   have e : r.sync x = (0, { r.powered with files := r.files.set (r.num x) ⟨(r.get x).data, (r.get x).data.length⟩ }) := by
    unfold RD.sync
    rw [if_pos h0']
   rw [e, n1, n2]
   refine (H.sync_yes hb x hsz h0 f hf).mono ?_
   rintro e' w' ⟨rfl, own', O, H'⟩
   exact ⟨rfl, DNext.of hF O H' (H.filed_reads R f hm _ _ _ _ R.powered r.powered_files)⟩
 · have e : r.sync x = (r.witE [x] x, r.powered) := by
    unfold RD.sync
    rw [if_neg (by rw [← hE]; exact h0)]
   rw [e, ← hE]
   refine (H.sync_no hb x hsz h0).mono ?_
   rintro e' w' ⟨rfl, O, H'⟩
   exact ⟨rfl, DNext.of hF O H' R.powered⟩
theorem IsD.syncDir (h : IsD w d own r) (hs : r.size + 4 ≤ 80000) :
 Calls Tryz.prog 31 #[.pointer (some ⟨d, 0, none⟩)] w fun e w' => e = .returned (.int .i64 r.syncDir.1) ∧ DNext w d own r.syncDir.2 w' := by
 obtain ⟨hF, b, F, fn, fc, RA, rn, rc, SA, sn, sc, C, cn, cc, fs, ps, ss, css, chl, nm, dt, su, H, R⟩ := h
 have hcl := R.calls
 unfold RD.size at hs
 have hb : b.calls < 80000 := by omega
 have hE := R.on
 cases hp : powerB b with
 | true =>
  have e : r.syncDir = (0, { r.powered with sure := r.now, chs := [] }) := by
   unfold RD.syncDir
   rw [if_pos (by rw [← hE]; exact hp)]
  rw [e]
  refine (H.syncDir_on hb hp).mono ?_
  rintro e' w' ⟨rfl, own', A2, n2, c2, A3, n3, c3, kf, O, H'⟩
  have Rp := R.powered
  exact ⟨rfl, DNext.of hF O H' ⟨fun v hv => Rp.files v (List.mem_filter.1 hv).1, H.rnow R, rfl, Rp.made, Rp.quota, Rp.full, Rp.off, Rp.stop, Rp.calls⟩⟩
 | false =>
  have e : r.syncDir = (5, r.powered) := by
   unfold RD.syncDir
   rw [if_neg (by rw [← hE, hp]; exact fun e => by cases e)]
  rw [e]
  refine (H.syncDir_off hb hp).mono ?_
  rintro e' w' ⟨rfl, O, H'⟩
  exact ⟨rfl, DNext.of hF O H' R.powered⟩
theorem IsD.rename (h : IsD w d own r) (hs : r.size + 4 ≤ 80000) (x y : ByteArray) (hsz : x.size ≤ 1000000) (hsz2 : y.size ≤ 1000000) :
 Calls Tryz.prog 67 #[.pointer (some ⟨d, 0, none⟩), .string x, .string y] w fun e w' => e = .returned (.int .i64 (r.rename x y).1) ∧ DNext w d own (r.rename x y).2 w' := by
 obtain ⟨hF, b, F, fn, fc, RA, rn, rc, SA, sn, sc, C, cn, cc, fs, ps, ss, css, chl, nm, dt, su, H, R⟩ := h
 obtain ⟨l1, l2, l3, l4⟩ := H.rlen R
 have hcl := R.calls
 unfold RD.size at hs
 have hb : b.calls < 80000 := by omega
 have hE := H.rwit R [x, y] x
 by_cases h0 : withE b [x, y] ps x = 0
 · have h0' : r.witE [x, y] x = 0 := by rw [← hE]; exact h0
   have hlk := withF_look b [x, y] ps x h0
   have hm := H.look x _ hlk
   obtain ⟨n1, n2⟩ := H.rnum R x _ hlk
   have e : r.rename x y = (0, { r.powered with chs := r.chs ++ [[(x, .pointer none), (y, numV (r.num x))]] }) := by
    unfold RD.rename
    rw [if_pos h0']
   rw [e]
   refine (H.rename_yes hb (by omega) x y hsz hsz2 h0).mono ?_
   rintro e' w' ⟨rfl, own', A', n', c', C', cc', pb, O, H'⟩
   refine ⟨rfl, DNext.of hF O H' (DiskIn.turned_reads R _ _ ?_ _ rfl rfl rfl rfl rfl rfl)⟩
   show [(x, Value.pointer none), (y, tag nm _)] = _
   rw [tag_some _ _ (H.ne _ hm), ← n1]
 · have e : r.rename x y = (r.witE [x, y] x, r.powered) := by
    unfold RD.rename
    rw [if_neg (by rw [← hE]; exact h0)]
   rw [e, ← hE]
   refine (H.rename_no hb x y hsz hsz2 h0).mono ?_
   rintro e' w' ⟨rfl, O, H'⟩
   exact ⟨rfl, DNext.of hF O H' R.powered⟩
theorem IsD.remove (h : IsD w d own r) (hs : r.size + 4 ≤ 80000) (x : ByteArray) (hsz : x.size ≤ 1000000) :
 Calls Tryz.prog 30 #[.pointer (some ⟨d, 0, none⟩), .string x] w fun e w' => e = .returned (.int .i64 (r.remove x).1) ∧ DNext w d own (r.remove x).2 w' := by
 obtain ⟨hF, b, F, fn, fc, RA, rn, rc, SA, sn, sc, C, cn, cc, fs, ps, ss, css, chl, nm, dt, su, H, R⟩ := h
 obtain ⟨l1, l2, l3, l4⟩ := H.rlen R
 have hcl := R.calls
 unfold RD.size at hs
 have hb : b.calls < 80000 := by omega
 have hE := H.rwit R [x] x
 by_cases h0 : withE b [x] ps x = 0
 · have h0' : r.witE [x] x = 0 := by rw [← hE]; exact h0
   have e : r.remove x = (0, { r.powered with chs := r.chs ++ [[(x, .pointer none)]] }) := by
    unfold RD.remove
    rw [if_pos h0']
   rw [e]
   refine (H.remove_yes hb (by omega) x hsz h0).mono ?_
   rintro e' w' ⟨rfl, own', A', n', c', C', cc', pb, O, H'⟩
   exact ⟨rfl, DNext.of hF O H' (DiskIn.turned_reads R [(x, .pointer none)] [(x, .pointer none)] rfl _ rfl rfl rfl rfl rfl rfl)⟩
 · have e : r.remove x = (r.witE [x] x, r.powered) := by
    unfold RD.remove
    rw [if_neg (by rw [← hE]; exact h0)]
   rw [e, ← hE]
   refine (H.remove_no hb x hsz h0).mono ?_
   rintro e' w' ⟨rfl, O, H'⟩
   exact ⟨rfl, DNext.of hF O H' R.powered⟩
theorem IsD.stop (h : IsD w d own r) (k : Int) (hk : k ≤ 9223372036854775807) :
 Calls Tryz.prog 9 #[.pointer (some ⟨d, 0, none⟩), .int .i64 k] w fun e w' => (∃ v, e = .returned v) ∧ DNext w d own (r.stopAt k) w' := by
 obtain ⟨hF, b, F, fn, fc, RA, rn, rc, SA, sn, sc, C, cn, cc, fs, ps, ss, css, chl, nm, dt, su, H, R⟩ := h
 refine (H.stop k hk).mono ?_
 rintro e w' ⟨he, O, H'⟩
 exact ⟨he, DNext.of hF O H' ⟨R.files, R.sure, R.chs, R.made, R.quota, R.full, R.off, rfl, R.calls⟩⟩
end
theorem IsD.new (q : Int) (hq : q ≤ 9223372036854775807) (w : World) : Calls Tryz.prog 7 #[.int .i64 q] w fun e w' =>
 e = .returned (.pointer (some ⟨w.heap.size, 0, none⟩)) ∧ ∃ own', (∀ i, i < w.heap.size → own' i = 0) ∧ IsD w' w.heap.size own' (RD.fresh q) ∧ Below w.heap.size w w' := by
 refine (DiskIn.new q hq w (fun _ => 0) (fun _ => 0) (fun _ => 0) (fun _ => [])).mono ?_
 rintro e w' ⟨rfl, own', ho, H, hB⟩
 refine ⟨rfl, fun i => if i < w'.heap.size then own' i else 0, fun i hi => (if_pos (by have := hB.size; omega)).trans (ho i hi), ?_, hB⟩
 exact ⟨fun i hi => if_neg (by omega), _, _, _, _, _, _, _, _, _, _, _, _, _, _, _, _, _, _, _, _, _, H.carry (Nat.le_refl _) (fun i hi => if_pos hi) (fun i hi _ => rfl), ⟨fun v hv => (by cases hv), rfl, rfl, rfl, rfl, rfl, rfl, rfl, rfl⟩⟩
theorem Only.of_below {w w' : World} (own : Nat → Nat) (hB : Below w.heap.size w w') : Only own w own w' := ⟨hB.mono (Nat.zero_le _), fun _ _ => rfl, fun i hi _ => hB.block i hi⟩
theorem DNext.still {w w' : World} {d : Nat} {own : Nat → Nat} {r : RD} (h : IsD w d own r) (hB : Below w.heap.size w w') : DNext w d own r w' := ⟨own, Only.of_below own hB, h.below hB⟩
section
variable {w w' : World} {d : Nat} {own own' : Nat → Nat} {r : RD}
theorem IsD.crash (h : IsD w d own r) (dir : Int) (hdir : -9223372036854775808 ≤ dir ∧ dir ≤ 9223372036854775807) (KA : Option Addr) (kn kc : Nat) (zs : List Int) (hK : ZsAt w KA kn zs) (hkn : kn ≤ 1000000) (hKo : 0 < kn → ∀ k ∈ blk KA, own k = 0) (hzs : ∀ z ∈ zs, z ≤ 9223372036854775807) :
 Calls Tryz.prog 14 #[.pointer (some ⟨d, 0, none⟩), .agg #[.int .i64 dir, .slice KA kn kc]] w fun e w' => (∃ v, e = .returned v) ∧ DNext w d own (r.crash dir zs) w' := by
 obtain ⟨hF, b, F, fn, fc, RA, rn, rc, SA, sn, sc, C, cn, cc, fs, ps, ss, css, chl, nm, dt, su, H, R⟩ := h
 obtain ⟨Rr, hRr⟩ : ∃ Rr, layAll ss (chl.take (min (max dir 0) (cn : Int)).toNat) = Rr := ⟨_, rfl⟩
 have hcl : chl.length = cn := by have := H.chs.1; have := H.cline.1; omega
 have htk : chl.take dir.toNat = chl.take (min (max dir 0) (cn : Int)).toNat := by
  rcases Nat.lt_or_ge dir.toNat cn with q | q
  · congr 1
    omega
  · rw [List.take_of_length_le (by omega), List.take_of_length_le (by omega)]
 have hleft : r.left dir = mapT nm Rr := by
  unfold RD.left
  rw [R.sure, R.chs, ← List.map_take, ← layAll_tag, htk, hRr]
 have hin : ∀ p ∈ Rr, p.2 ∈ fs := by
  rw [← hRr]
  exact layAll_in _ _ H.sin (fun c hc => H.cin c (List.mem_of_mem_take hc))
 have hnums : (r.left dir).map (fun p => numOf p.2) = Rr.map fun p => nm p.2 := by
  rw [hleft]
  unfold mapT
  rw [List.map_map]
  refine List.map_congr_left fun p hp => ?_
  show numOf (tag nm p.2) = _
  rw [tag_some _ _ (H.ne _ (hin p hp)), numOf_numV]
 obtain ⟨fs1, hfs1⟩ : ∃ fs1, fs.filter (keepV nm (Rr.map fun p => nm p.2)) = fs1 := ⟨_, rfl⟩
 have hkeep : fs1.map nm = r.keep dir := by
  refine rises_eq _ _ ?_ ?_ fun i => ?_
  · rw [← hfs1]
    exact List.pairwise_map.2 (H.rises.filter _)
  · unfold RD.keep
    exact List.pairwise_lt_range.filter _
  · unfold RD.keep
    rw [List.mem_filter, List.mem_range, decide_eq_true_eq, hnums, List.mem_map]
    constructor
    · rintro ⟨v, hv, rfl⟩
      rw [← hfs1, List.mem_filter] at hv
      obtain ⟨h1, h2⟩ := hv
      unfold keepV at h2
      exact ⟨(List.getElem?_eq_some_iff.1 (R.files v h1)).1, of_decide_eq_true h2⟩
    · rintro ⟨h1, h2⟩
      obtain ⟨p, hp, e⟩ := List.mem_map.1 h2
      refine ⟨p.2, ?_, e⟩
      rw [← hfs1, List.mem_filter]
      unfold keepV
      exact ⟨hin p hp, decide_eq_true (List.mem_map.2 ⟨p, hp, rfl⟩)⟩
 refine (H.crash dir hdir KA kn kc zs hK hkn hKo hzs Rr hRr fs1 hfs1).mono ?_
 rintro e w' ⟨he, own', A2, n2, c2, A3, n3, c3, kf, O, H'⟩
 have hr1 : fs1.Pairwise fun u v => nm u < nm v := by rw [← hfs1]; exact H.rises.filter _
 refine ⟨he, DNext.of hF O H' ⟨fun v hv => ?_, ?_, rfl, ?_, R.quota, rfl, rfl, rfl, R.calls⟩⟩
 · obtain ⟨i, hi, ei⟩ := List.mem_iff_getElem.1 hv
   have hi' : fs1[i]? = some v := by rw [List.getElem?_eq_getElem hi, ei]
   rw [standN_eq nm v fs1 hr1 i hi']
   have hk : (r.keep dir)[i]? = some (nm v) := by rw [← hkeep, List.getElem?_map, hi']; rfl
   have hvf : v ∈ fs := by rw [← hfs1] at hv; exact (List.mem_filter.1 hv).1
   show ((r.keep dir).map _)[i]? = _
   rw [List.getElem?_map, hk]
   have hfile : r.file (nm v) = ⟨dt v, su v⟩ := by unfold RD.file; rw [List.getD_eq_getElem?_getD, R.files v hvf]; rfl
   show some (RD.cutF zs (nm v) (r.file (nm v))) = _
   rw [hfile]
   rfl
 · show (r.left dir).map _ = _
   rw [hleft]
   unfold mapT
   rw [List.map_map]
   refine List.map_congr_left fun p hp => ?_
   have hne := H.ne _ (hin p hp)
   show (p.1, numV ((r.keep dir).filter fun u => decide (u < numOf (tag nm p.2))).length) = (p.1, tag (standN fs1 nm) p.2)
   rw [tag_some _ _ hne, tag_some _ _ hne, numOf_numV, ← hkeep, List.filter_map, List.length_map]
   rfl
 · have h1 := H'.line.1
   show (kf : Int) = (((r.keep dir).map _).length : Int)
   rw [List.length_map, ← hkeep, List.length_map]
   omega
theorem IsD.bytes (h : IsD w d own r) (x : ByteArray) (hx : hasP ltS r.now x = true) : (∀ u ∈ (r.get x).data, ∃ z : Int, 0 ≤ z ∧ z < 256 ∧ u = .int .u8 z) ∧ (r.get x).data.length ≤ 1048576 ∧ (r.get x).sure ≤ (r.get x).data.length := by
 obtain ⟨hF, b, F, fn, fc, RA, rn, rc, SA, sn, sc, C, cn, cc, fs, ps, ss, css, chl, nm, dt, su, H, R⟩ := h
 have hh : hasP ltS r.now x = hasP ltS ps x := by rw [H.rnow R, has_tag]
 rw [hh] at hx
 unfold hasP at hx
 obtain ⟨v, hv⟩ := Option.isSome_iff_exists.1 hx
 obtain ⟨n1, n2⟩ := H.rnum R x _ hv
 have hm := H.look x _ hv
 obtain ⟨f, A, n, c, rfl, hf7, hfa, hsl, hoA, hn1, hsu⟩ := H.file _ hm
 have h1 := hsl.1
 rw [n2]
 exact ⟨H.bytes _ hm, by show (dt _).length ≤ _; omega, by show su _ ≤ (dt _).length; omega⟩
theorem IsD.read_yes (h : IsD w d own r) (x : ByteArray) (hx : hasP ltS r.now x = true) :
 Calls Tryz.prog 23 #[.pointer (some ⟨d, 0, none⟩), .string x] w fun e w' => (∃ A' c', e = .returned (.tuple #[.slice A' (r.get x).data.length c', .int .i64 0]) ∧ SLine 1 w' A' (r.get x).data.length c' (r.get x).data ∧ (∀ k ∈ blk A', w.heap.size ≤ k)) ∧ Below w.heap.size w w' := by
 obtain ⟨hF, b, F, fn, fc, RA, rn, rc, SA, sn, sc, C, cn, cc, fs, ps, ss, css, chl, nm, dt, su, H, R⟩ := h
 have hh : hasP ltS r.now x = hasP ltS ps x := by rw [H.rnow R, has_tag]
 rw [hh] at hx
 unfold hasP at hx
 obtain ⟨v, hv⟩ := Option.isSome_iff_exists.1 hx
 obtain ⟨n1, n2⟩ := H.rnum R x _ hv
 rw [n2]
 refine (H.read_yes x v hv).mono ?_
 rintro e w' ⟨A', c', h1, h2, h3, h4⟩
 exact ⟨⟨A', c', h1, h2, h3⟩, h4⟩
theorem IsD.read_no (h : IsD w d own r) (x : ByteArray) (hx : hasP ltS r.now x = false) :
 Calls Tryz.prog 23 #[.pointer (some ⟨d, 0, none⟩), .string x] w fun e w' => e = .returned (.tuple #[.slice none 0 0, .int .i64 3]) ∧ Below w.heap.size w w' := by
 obtain ⟨hF, b, F, fn, fc, RA, rn, rc, SA, sn, sc, C, cn, cc, fs, ps, ss, css, chl, nm, dt, su, H, R⟩ := h
 have hh : hasP ltS r.now x = hasP ltS ps x := by rw [H.rnow R, has_tag]
 exact H.read_no x (hh.symm.trans hx)
theorem IsD.isOff (h : IsD w d own r) : Calls Tryz.prog 27 #[.pointer (some ⟨d, 0, none⟩)] w fun e w' => e = .returned (.bool r.off) ∧ w = w' := by
 obtain ⟨hF, b, F, fn, fc, RA, rn, rc, SA, sn, sc, C, cn, cc, fs, ps, ss, css, chl, nm, dt, su, H, R⟩ := h
 rw [← R.off]
 exact doff_any w d b H.box
end
theorem RD.powered_size (r : RD) : r.powered.size ≤ r.size + 1 := by unfold RD.size; rw [r.powered_files, r.powered_sure, r.powered_chs]; have := r.powered_calls; omega
theorem lay_len (r : RD) (hr : Rises ltS r.sure) (hc : ∀ c ∈ r.chs, c.length ≤ 2) (k : Nat) : (layAll r.sure (r.chs.take k)).length ≤ r.sure.length + 2 * r.chs.length := by
 have h := (layAll_len (r.chs.take k) r.sure hr (fun c h => hc c (List.mem_of_mem_take h))).2
 have : (r.chs.take k).length ≤ r.chs.length := by rw [List.length_take]; omega
 omega
theorem IsD.shape {w : World} {d : Nat} {own : Nat → Nat} {r : RD} (h : IsD w d own r) : Rises ltS r.sure ∧ (∀ c ∈ r.chs, c.length ≤ 2) ∧ Rises ltS r.now := by
 obtain ⟨hF, b, F, fn, fc, RA, rn, rc, SA, sn, sc, C, cn, cc, fs, ps, ss, css, chl, nm, dt, su, H, R⟩ := h
 have hm : ∀ l : List (ByteArray × Value), Rises ltS l → Rises ltS (mapT nm l) := fun l hl => List.pairwise_map.2 hl
 refine ⟨by rw [R.sure]; exact hm _ H.srow.rises, fun c hc => ?_, by rw [H.rnow R]; exact hm _ H.nrow.rises⟩
 rw [R.chs] at hc
 obtain ⟨c', h1, rfl⟩ := List.mem_map.1 hc
 unfold mapT
 rw [List.length_map]
 exact H.chs.two c' h1
section
variable {x : ByteArray} {q : Int} {w w' : World} {d k n s : Nat} {own : Nat → Nat} {st : Bool}
end
theorem Only.toBelow {B : Nat} {own own' : Nat → Nat} {w w' : World} (h : Only own w own' w') (h0 : ∀ i, i < B → own i = 0) (hB : B ≤ w.heap.size) : Below B w w' := ⟨h.1.os, h.1.tape, h.1.output, h.1.size, fun k hk => h.2.2 k (by omega) (h0 k hk)⟩
section
variable {B : Nat} {w0 W W' : World} {x : ByteArray} {q : Int} {d k n s g : Nat} {own own' : Nat → Nat} {st : Bool} {us : List Value}
end
section
variable {B : Nat} {w0 W W' : World} {x : ByteArray} {q : Int} {d k n s g : Nat} {own own' : Nat → Nat} {st : Bool} {us : List Value}
end
theorem beq_bytes {a b : ByteArray} : (a.toList == b.toList) = decide (a = b) := by
 by_cases h : a = b
 · subst h; simp
 · rw [decide_eq_false h]
   simp only [beq_eq_false_iff_ne, ne_eq]
   exact fun e => h (bytes_inj e)
end Go.Proofs.YtdjnebgjdekmaaaGreatDoor
