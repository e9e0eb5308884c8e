/-
  Create, Remove, Rename, Sync on a whole disk.
-/
import Derived.Test.YtnjnlcmpfnabiaaGa
namespace Go.Proofs.Ytnjnlcmpfnabiaa
open Go.RowKit Go.Maps
set_option linter.unusedVariables false
set_option maxRecDepth 100000

section
variable {w w' : World} {d : Nat} {own own' : Nat → Nat} {b : DBox} {F RA SA C : Option Addr} {fn fc rn rc sn sc cn cc : Nat} {fs css : List Value} {ps ss : List (ByteArray × Value)} {chl : List (List (ByteArray × Value))} {nm su : Value → Nat} {dt : Value → List Value}
/-- Power taken, and nothing else. -/
theorem DiskIn.off1 (H : DiskIn w d own b F fn fc RA rn rc SA sn sc C cn cc fs ps ss css chl nm dt su) (hb : b.calls < 80000) (hD : DBoxAt w' d (poweredB b)) (hc : Chg [d] w w') :
    Only own w own w' ∧ DiskIn w' d own (poweredB b) F fn fc RA rn rc SA sn sc C cn cc fs ps ss css chl nm dt su :=
  ⟨Only.of_chg hc (fun k hk => by rw [List.mem_singleton] at hk; rw [hk, H.od]; exact .inl (by omega)), H.powered hb hD hc⟩
theorem DiskIn.look (H : DiskIn w d own b F fn fc RA rn rc SA sn sc C cn cc fs ps ss css chl nm dt su) (x : ByteArray) (v : Value) (h : lookP ltS ps x = some v) : v ∈ fs := by
  unfold lookP at h
  obtain ⟨p, hp, e⟩ := Option.map_eq_some_iff.1 h
  have hm := List.mem_of_find?_eq_some hp
  have hin := layAll_in chl ss H.sin H.cin p (by rw [← H.lay]; exact hm)
  rw [← e]
  exact hin
theorem DiskIn.nin (H : DiskIn w d own b F fn fc RA rn rc SA sn sc C cn cc fs ps ss css chl nm dt su) : ∀ p ∈ ps, p.2 ∈ fs := fun p hp => layAll_in chl ss H.sin H.cin p (by rw [← H.lay]; exact hp)
theorem withF_look (b : DBox) (ns : List ByteArray) (ps : List (ByteArray × Value)) (x : ByteArray) (h : withE b ns ps x = 0) : lookP ltS ps x = some (withF b ns ps x) := by
  have hh : hasP ltS ps x = true := by
    unfold withE at h
    split at h
    · split at h
      · assumption
      · omega
    · exact absurd h (by assumption)
  unfold withF
  rw [if_pos h]
  unfold hasP at hh
  obtain ⟨v, hv⟩ := Option.isSome_iff_exists.1 hh
  rw [hv]
  rfl
/-- What Create leaves of a whole disk. -/
def CreatedO (w : World) (d : Nat) (own : Nat → Nat) (b : DBox) (fn : Nat) (SA : Option Addr) (sn sc cn : Nat) (fs css : List Value) (ps ss : List (ByteArray × Value)) (chl : List (List (ByteArray × Value))) (nm : Value → Nat) (dt : Value → List Value) (su : Value → Nat) (num : Nat) (x : ByteArray) (w' : World) : Prop :=
  ∃ own' F' fc' fb A' n' c' C' cc' pb, Only own w own' w' ∧ DiskIn w' d own' { poweredB b with made := (num : Int) + 1, files := .slice F' (fn + 1) fc', now := .slice A' n' c', changes := .slice C' (cn + 1) cc' } F' (fn + 1) fc' A' n' c' SA sn sc C' (cn + 1) cc' (fs ++ [.pointer (some ⟨fb, 0, none⟩)]) (layP ps [(x, .pointer (some ⟨fb, 0, none⟩))]) ss (css ++ [.slice (some ⟨pb, 0, none⟩) 1 1]) (chl ++ [[(x, .pointer (some ⟨fb, 0, none⟩))]]) (updP nm fb num) (updP dt fb []) (updP su fb 0)
theorem DiskIn.create_yes (H : DiskIn w d own b F fn fc RA rn rc SA sn sc C cn cc fs ps ss css chl nm dt su) (hb : b.calls < 80000) (num : Nat) (hnum : b.made = (num : Int)) (hlm : num < 80000) (hlf : fn < 80000) (hlc : sn + 2 * (cn + 1) ≤ 80000) (x : ByteArray) (hsz : x.size ≤ 1000000) (hE : beginE b [x] = 0) (hok : hasP ltS ps x = true ∨ rn < 1024) :
    Calls Try.prog 18 #[.pointer (some ⟨d, 0, none⟩), .string x] w fun e w' => e = .returned (.int .i64 0) ∧ CreatedO w d own b fn SA sn sc cn fs css ps ss chl nm dt su num x w' := by
  refine (create_ok H.nowAt H.chAt H.flAt (by omega) num hnum (by omega) x hsz hE hok).mono ?_
  rintro e w' ⟨rfl, F', fc', fb, W, hM, hT⟩
  refine ⟨rfl, ?_⟩
  obtain ⟨own1, O1, H1⟩ := H.made1 (H.likeP hb) num hnum hlm hlf F' fc' fb hM
  have L1 : Like { poweredB b with made := (num : Int) + 1, files := Value.slice F' (fn + 1) fc' } { poweredB b with made := (num : Int) + 1, files := Value.slice F' (fn + 1) fc' } := ⟨rfl, rfl, rfl, rfl, rfl, H1.quota, H1.calls, H1.ahead⟩
  obtain ⟨own2, A', n', c', C', cc', pb, O2, H2⟩ := H1.turned L1 [(x, .pointer (some ⟨fb, 0, none⟩))] (by simp) (fun p hp => by rw [List.mem_singleton] at hp; rw [hp]; exact .inr (List.mem_append_right _ (List.mem_singleton.2 rfl))) hlc hT
  exact ⟨own2, F', fc', fb, A', n', c', C', cc', pb, O1.trans O2, H2⟩
/-- What a change of the directory leaves of a whole disk. -/
def TurnedO (w : World) (d : Nat) (own : Nat → Nat) (b : DBox) (F : Option Addr) (fn fc : Nat) (SA : Option Addr) (sn sc cn : Nat) (fs css : List Value) (ps ss : List (ByteArray × Value)) (chl : List (List (ByteArray × Value))) (nm : Value → Nat) (dt : Value → List Value) (su : Value → Nat) (chs : List (ByteArray × Value)) (w' : World) : Prop :=
  ∃ own' A' n' c' C' cc' pb, Only own w own' w' ∧ DiskIn w' d own' { poweredB b with now := .slice A' n' c', changes := .slice C' (cn + 1) cc' } F fn fc A' n' c' SA sn sc C' (cn + 1) cc' fs (layP ps chs) ss (css ++ [.slice (some ⟨pb, 0, none⟩) chs.length chs.length]) (chl ++ [chs]) nm dt su
theorem DiskIn.remove_yes (H : DiskIn w d own b F fn fc RA rn rc SA sn sc C cn cc fs ps ss css chl nm dt su) (hb : b.calls < 80000) (hlc : sn + 2 * (cn + 1) ≤ 80000) (x : ByteArray) (hsz : x.size ≤ 1000000) (hE : withE b [x] ps x = 0) :
    Calls Try.prog 38 #[.pointer (some ⟨d, 0, none⟩), .string x] w fun e w' => e = .returned (.int .i64 0) ∧ TurnedO w d own b F fn fc SA sn sc cn fs css ps ss chl nm dt su [(x, .pointer none)] w' := by
  have hl := H.look x _ (withF_look b [x] ps x hE)
  obtain ⟨f, _, _, _, e, _⟩ := H.file _ hl
  refine (Go.Proofs.Ytnjnlcmpfnabiaa.remove_yes H.nowAt H.chAt x hsz hE _ e).mono ?_
  rintro e w' ⟨rfl, hT⟩
  exact ⟨rfl, H.turned (H.likeP hb) _ (by simp) (fun p hp => by rw [List.mem_singleton] at hp; rw [hp]; exact .inl rfl) hlc hT⟩
theorem DiskIn.rename_yes (H : DiskIn w d own b F fn fc RA rn rc SA sn sc C cn cc fs ps ss css chl nm dt su) (hb : b.calls < 80000) (hlc : sn + 2 * (cn + 1) ≤ 80000) (x y : ByteArray) (hsz : x.size ≤ 1000000) (hsz2 : y.size ≤ 1000000) (hE : withE b [x, y] ps x = 0) :
    Calls Try.prog 30 #[.pointer (some ⟨d, 0, none⟩), .string x, .string y] w fun e w' => e = .returned (.int .i64 0) ∧ TurnedO w d own b F fn fc SA sn sc cn fs css ps ss chl nm dt su [(x, .pointer none), (y, withF b [x, y] ps x)] w' := by
  have hl := H.look x _ (withF_look b [x, y] ps x hE)
  obtain ⟨f, _, _, _, e, _⟩ := H.file _ hl
  refine (Go.Proofs.Ytnjnlcmpfnabiaa.rename_yes H.nowAt H.chAt x y hsz hsz2 hE _ e).mono ?_
  rintro e' w' ⟨rfl, hT⟩
  rw [← e] at hT
  refine ⟨rfl, H.turned (H.likeP hb) _ (by simp) (fun p hp => ?_) hlc hT⟩
  simp only [List.mem_cons, List.not_mem_nil, or_false] at hp
  rcases hp with h | h
  · rw [h]; exact .inl rfl
  · rw [h]; exact .inr hl
/-- One file anew: its bytes, how many are sure. -/
theorem DiskIn.refiled (H : DiskIn w d own b F fn fc RA rn rc SA sn sc C cn cc fs ps ss css chl nm dt su) {b' : DBox} (L : Like b' b) (f : Nat) (hf : Value.pointer (some ⟨f, 0, none⟩) ∈ fs) (A A' : Option Addr) (n c n' c' s' : Nat) (xs : List Value) (hold : FileAt w f (nm (.pointer (some ⟨f, 0, none⟩))) A n c (su (.pointer (some ⟨f, 0, none⟩)))) (hln : n' ≤ 1048576) (hs' : s' ≤ n') (hxs : ∀ u ∈ xs, ∃ z : Int, 0 ≤ z ∧ z < 256 ∧ u = .int .u8 z)
    (hD : DBoxAt w' d b') (h1 : FileAt w' f (nm (.pointer (some ⟨f, 0, none⟩))) A' n' c' s') (h2 : SLine 1 w' A' n' c' xs) (hc : Chg (d :: f :: blk A) w w') (hA : ∀ k ∈ blk A', k ∈ blk A ∨ w.heap.size ≤ k) :
    ∃ own', Only own w own' w' ∧ DiskIn w' d own' b' F fn fc RA rn rc SA sn sc C cn cc fs ps ss css chl nm (updP dt f xs) (updP su f s') := by
  obtain ⟨f0, A0, n0, c0, e0, hf7, hfa, hsl, hoA, hn1, hsu⟩ := H.file _ hf
  cases e0
  obtain ⟨rfl, rfl, rfl⟩ : A0 = A ∧ n0 = n ∧ c0 = c := by
    have := hfa.c1.symm.trans hold.c1
    simp only [Option.some.injEq, Value.slice.injEq] at this
    exact this
  obtain ⟨num, hnum⟩ : ∃ num, nm (.pointer (some ⟨f, 0, none⟩)) = num := ⟨_, rfl⟩
  rw [hnum] at hoA
  have hfl := lt_of_block hfa
  obtain ⟨own', hown⟩ : ∃ own' : Nat → Nat, own' = fun i => if i < w.heap.size then own i else if i ∈ blk A' then 8 + num else 0 := ⟨_, rfl⟩
  have ho : ∀ i, i < w.heap.size → own' i = own i := fun i hi => by rw [hown]; simp only [hi, if_true]
  have hz := hc.size
  have hs : ∀ i, i < w.heap.size → own i ≠ 1 → i ≠ f → own i ≠ 8 + num → w'.heap[i]? = w.heap[i]? := fun i hi h1 h7 h8 => hc.same i hi (fun hm => by
    rcases List.mem_cons.1 hm with h | h
    · rw [h] at h1; exact h1 H.od
    · rcases List.mem_cons.1 h with h | h
      · exact h7 h
      · exact h8 (hoA i h))
  have hs2 : ∀ i, i < w.heap.size → own i ≠ 1 → own i ≠ 7 → own i ≠ 8 + num → w'.heap[i]? = w.heap[i]? := fun i hi h1 h7 h8 => hs i hi h1 (fun e => h7 (by rw [e]; exact hf7)) h8
  have hdo : ∀ g, g ≠ f → updP dt f xs (.pointer (some ⟨g, 0, none⟩)) = dt (.pointer (some ⟨g, 0, none⟩)) := fun g hg => updP_other _ _ _ _ hg
  refine ⟨own', ⟨hc.below, ho, fun i hi h0 => hs2 i hi (by omega) (by omega) (by omega)⟩, ?_⟩
  exact {
    box := hD
    od := (ho d H.box.lt).trans H.od
    files := L.files.trans H.files
    line := H.line.same hz fun k hk => hs2 k (H.line.lt k hk) (by rw [H.oF k hk]; omega) (by rw [H.oF k hk]; omega) (by rw [H.oF k hk]; omega)
    oF := fun k hk => (ho k (H.line.lt k hk)).trans (H.oF k hk)
    now := L.now.trans H.now
    nrow := H.nrow.same hz fun k hk => hs2 k (H.nrow.lt' k hk) (by rw [H.oR k hk]; omega) (by rw [H.oR k hk]; omega) (by rw [H.oR k hk]; omega)
    oR := fun k hk => (ho k (H.nrow.lt' k hk)).trans (H.oR k hk)
    sure := L.sure.trans H.sure
    srow := H.srow.same hz fun k hk => hs2 k (H.srow.lt' k hk) (by rw [H.oS k hk]; omega) (by rw [H.oS k hk]; omega) (by rw [H.oS k hk]; omega)
    oS := fun k hk => (ho k (H.srow.lt' k hk)).trans (H.oS k hk)
    changes := L.changes.trans H.changes
    cline := H.cline.same hz fun k hk => hs2 k (H.cline.lt k hk) (by rw [H.oC k hk]; omega) (by rw [H.oC k hk]; omega) (by rw [H.oC k hk]; omega)
    oC := fun k hk => (ho k (H.cline.lt k hk)).trans (H.oC k hk)
    chs := H.chs.carry hz ho fun k hk h6 => hs2 k hk (by omega) (by omega) (by omega)
    file := fun v hv => by
      obtain ⟨g, B, m, cg, e, hg7, hga, hgl, hoB, hm1, hms⟩ := H.file v hv
      subst e
      by_cases hgf : g = f
      · subst hgf
        rw [updP_same, updP_same, hnum]
        rw [hnum] at h1
        refine ⟨g, A', n', c', rfl, (ho g hfl).trans hf7, h1, h2, fun k hk => ?_, hln, hs'⟩
        rcases Nat.lt_or_ge k w.heap.size with h | h
        · rw [ho k h]
          rcases hA k hk with h' | h'
          · exact hoA k h'
          · omega
        · rw [hown]; simp only [show ¬ k < w.heap.size by omega, if_false, hk, if_true]
      · rw [hdo g hgf, updP_other _ _ _ _ hgf]
        have hgn : nm (.pointer (some ⟨g, 0, none⟩)) ≠ num := fun e' => by
          obtain ⟨i, hi, ei⟩ := List.mem_iff_getElem.1 hv
          obtain ⟨j, hj, ej⟩ := List.mem_iff_getElem.1 hf
          have hij : i ≠ j := fun e'' => by subst e''; rw [ei] at ej; cases ej; exact hgf rfl
          have hp := List.pairwise_iff_getElem.1 H.rises
          rcases Nat.lt_or_ge i j with h | h
          · have := hp i j hi hj h; rw [ei, ej] at this; omega
          · have := hp j i hj hi (by omega); rw [ei, ej] at this; omega
        have hgl' := lt_of_block hga
        exact ⟨g, B, m, cg, rfl, (ho g hgl').trans hg7, hga.same (hs g hgl' (by omega) hgf (by omega)), hgl.same hz (fun k hk => hs k (hgl.lt k hk) (by have := hoB k hk; omega) (fun e'' => by have := hoB k hk; rw [e'', hf7] at this; omega) (by have := hoB k hk; omega)), fun k hk => (ho k (hgl.lt k hk)).trans (hoB k hk), hm1, hms⟩
    num := fun v hv => by rw [L.made]; exact H.num v hv
    bytes := fun v hv => by
      obtain ⟨g, _, _, _, e, _⟩ := H.file v hv
      subst e
      by_cases hgf : g = f
      · subst hgf; rw [updP_same]; exact hxs
      · rw [hdo g hgf]; exact H.bytes _ hv
    rises := H.rises
    lay := H.lay
    sin := H.sin
    cin := H.cin
    made := by rw [L.made]; exact H.made
    quota := L.quota
    calls := L.calls
    ahead := L.ahead
    lenF := H.lenF
    lenC := H.lenC }
/-- What a call that writes one file leaves of a whole disk. -/
def FiledO (w : World) (d : Nat) (own : Nat → Nat) (b' : DBox) (F : Option Addr) (fn fc : Nat) (RA : Option Addr) (rn rc : Nat) (SA : Option Addr) (sn sc : Nat) (C : Option Addr) (cn cc : Nat) (fs css : List Value) (ps ss : List (ByteArray × Value)) (chl : List (List (ByteArray × Value))) (nm : Value → Nat) (dt : Value → List Value) (su : Value → Nat) (w' : World) : Prop :=
  ∃ own', Only own w own' w' ∧ DiskIn w' d own' b' F fn fc RA rn rc SA sn sc C cn cc fs ps ss css chl nm dt su
theorem DiskIn.sync_yes (H : DiskIn w d own b F fn fc RA rn rc SA sn sc C cn cc fs ps ss css chl nm dt su) (hb : b.calls < 80000) (x : ByteArray) (hsz : x.size ≤ 1000000) (hE : withE b [x] ps x = 0) (f : Nat) (hF : withF b [x] ps x = .pointer (some ⟨f, 0, none⟩)) :
    Calls Try.prog 20 #[.pointer (some ⟨d, 0, none⟩), .string x] w fun e w' => e = .returned (.int .i64 0) ∧ FiledO w d own (poweredB b) F fn fc RA rn rc SA sn sc C cn cc fs css ps ss chl nm (updP dt f (dt (.pointer (some ⟨f, 0, none⟩)))) (updP su f (dt (.pointer (some ⟨f, 0, none⟩))).length) w' := by
  have hl := H.look x _ (withF_look b [x] ps x hE)
  rw [hF] at hl
  obtain ⟨f0, A, n, c, e, hf7, hfa, hsl, hoA, hn1, hsu⟩ := H.file _ hl
  cases e
  obtain rfl : n = (dt (.pointer (some ⟨f, 0, none⟩))).length := by have := hsl.1; omega
  refine (Go.Proofs.Ytnjnlcmpfnabiaa.sync_yes H.nowAt x hsz hE f _ hF A _ c _ hfa (fun e => by rw [e, H.od] at hf7; omega)).mono ?_
  rintro e w' ⟨rfl, hD, hf', hc⟩
  have hc' : Chg (d :: f :: blk A) w w' := hc.weaken (fun k hk => .inl (by simp only [List.mem_cons, List.not_mem_nil, or_false] at hk ⊢; rcases hk with h | h; exact .inl h; exact .inr (.inl h)))
  refine ⟨rfl, H.refiled (H.likeP hb) f hl A A _ c _ c _ _ hfa hn1 (Nat.le_refl _) (H.bytes _ hl) hD hf' ?_ hc' (fun k hk => .inl hk)⟩
  refine hsl.chg hc (fun k hk hm => ?_)
  have := hoA k hk
  simp only [List.mem_cons, List.not_mem_nil, or_false] at hm
  rcases hm with h | h
  · rw [h, H.od] at this; omega
  · rw [h, hf7] at this; omega
end
end Go.Proofs.Ytnjnlcmpfnabiaa
