/-
  A disk behind calls, in a world that has gone on from w0: what was there at w0 is as it was. Bytes that came in.
  Open of a file that there isn't yet.
-/
import Derived.Test.YtfeccceemledjaaZav
import Derived.Test.YtfeccceemledjaaZaw
import Derived.Test.YtfeccceemledjaaZag
import Derived.Test.YtfeccceemledjaaZas
import Derived.Test.YtfeccceemledjaaZao
import Derived.Deep.RegionWith
namespace Go.Proofs.Ytfeccceemledjaa
open Go.RowKit Go.Maps
set_option linter.unusedVariables false
set_option maxRecDepth 100000

/-- A disk in a world that has gone on from w0, where it was not yet. -/
def DF (w0 W : World) (d : Nat) (own : Nat → Nat) (r : RD) : Prop := (∀ i, i < w0.heap.size → own i = 0) ∧ Below w0.heap.size w0 W ∧ IsD W d own r
section
variable {w0 W W' : World} {d : Nat} {own own' : Nat → Nat} {r r' : RD} {x y : ByteArray} {a : Int}
theorem DF.next (h : DF w0 W d own r) (hN : DNext W d own r' W') : ∃ own', Only own W own' W' ∧ DF w0 W' d own' r' := by
  obtain ⟨own', O, H⟩ := hN
  have hz := h.2.1.size
  refine ⟨own', O, fun i hi => (O.2.1 i (by omega)).trans (h.1 i hi), h.2.1.trans (O.toBelow h.1 hz), H⟩
theorem DF.below (h : DF w0 W d own r) (hB : Below W.heap.size W W') : DF w0 W' d own r := ⟨h.1, h.2.1.trans (hB.mono h.2.1.size), h.2.2.below hB⟩
theorem DF.create (h : DF w0 W d own r) (hp : r.create x = (a, r')) (hs : r.size + 4 ≤ 80000) (hsz : x.size ≤ 1000000) :
    Calls Try.prog 30 #[.pointer (some ⟨d, 0, none⟩), .string x] W fun e w' => e = .returned (.int .i64 a) ∧ ∃ own', Only own W own' w' ∧ DF w0 w' d own' r' :=
  (h.2.2.create hs x hsz).mono fun e w' hh => by rw [hp] at hh; exact ⟨hh.1, h.next hh.2⟩
theorem DF.sync (h : DF w0 W d own r) (hp : r.sync x = (a, r')) (hs : r.size + 4 ≤ 80000) (hsz : x.size ≤ 1000000) :
    Calls Try.prog 36 #[.pointer (some ⟨d, 0, none⟩), .string x] W fun e w' => e = .returned (.int .i64 a) ∧ ∃ own', Only own W own' w' ∧ DF w0 w' d own' r' :=
  (h.2.2.sync hs x hsz).mono fun e w' hh => by rw [hp] at hh; exact ⟨hh.1, h.next hh.2⟩
theorem DF.syncDir (h : DF w0 W d own r) (hp : r.syncDir = (a, r')) (hs : r.size + 4 ≤ 80000) :
    Calls Try.prog 31 #[.pointer (some ⟨d, 0, none⟩)] W fun e w' => e = .returned (.int .i64 a) ∧ ∃ own', Only own W own' w' ∧ DF w0 w' d own' r' :=
  (h.2.2.syncDir hs).mono fun e w' hh => by rw [hp] at hh; exact ⟨hh.1, h.next hh.2⟩
theorem DF.rename (h : DF w0 W d own r) (hp : r.rename x y = (a, r')) (hs : r.size + 4 ≤ 80000) (hsz : x.size ≤ 1000000) (hsz2 : y.size ≤ 1000000) :
    Calls Try.prog 56 #[.pointer (some ⟨d, 0, none⟩), .string x, .string y] W fun e w' => e = .returned (.int .i64 a) ∧ ∃ own', Only own W own' w' ∧ DF w0 w' d own' r' :=
  (h.2.2.rename hs x y hsz hsz2).mono fun e w' hh => by rw [hp] at hh; exact ⟨hh.1, h.next hh.2⟩
theorem DF.remove (h : DF w0 W d own r) (hp : r.remove x = (a, r')) (hs : r.size + 4 ≤ 80000) (hsz : x.size ≤ 1000000) :
    Calls Try.prog 58 #[.pointer (some ⟨d, 0, none⟩), .string x] W fun e w' => e = .returned (.int .i64 a) ∧ ∃ own', Only own W own' w' ∧ DF w0 w' d own' r' :=
  (h.2.2.remove hs x hsz).mono fun e w' hh => by rw [hp] at hh; exact ⟨hh.1, h.next hh.2⟩
/-- A slice of bytes, to be appended. -/
theorem RowZ.toSrc {w : World} {A : Option Addr} {n : Nat} {zs : List Int} (h : RowZ w A n zs) (c : Nat) : Src Try.prog 1 30 (.slice A n c) n (cellsZ zs) w := by
  cases A with
  | none =>
    rcases Nat.eq_zero_or_pos n with h0 | h0
    · subst h0
      have e : zs = [] := List.eq_nil_of_length_eq_zero h.1
      subst e
      exact Src.ofNil w Try.underlying30 c
    · obtain ⟨_, _, e, _⟩ := h.2.2 h0
      cases e
  | some ad =>
    refine Src.ofSlice w Try.underlying30 ad n c _ ?_ (fun j u hj => ?_) (one_u8 zs)
    · unfold cellsZ
      rw [List.length_map, h.1, Nat.mul_one]
    · have hn : 0 < n := by
        have h1 := (List.getElem?_eq_some_iff.1 hj).1
        unfold cellsZ at h1
        rw [List.length_map, h.1] at h1
        omega
      obtain ⟨ad', e, hc⟩ := h.src hn
      cases e
      exact hc j u hj
theorem RowZ.chg {w w' : World} {A : Option Addr} {n : Nat} {zs : List Int} {l : List Nat} (h : RowZ w A n zs) (hc : Chg l w w') (hl : ∀ k ∈ l, ∀ ad, A = some ad → ad.block ≠ k) : RowZ w' A n zs := by
  refine ⟨h.1, h.2.1, fun hn => ?_⟩
  obtain ⟨b, off, e, hlt, hcc⟩ := h.2.2 hn
  have hb : w'.heap[b]? = w.heap[b]? := hc.same b hlt (fun hm => hl b hm _ e rfl)
  exact ⟨b, off, e, by have := hc.size; omega, fun i hi => (World.cell?_of_block (w := w) (a := ⟨b, off + i, none⟩) hb).trans (hcc i hi)⟩
theorem RowZ.only {w w' : World} {A : Option Addr} {n : Nat} {zs : List Int} {own own' : Nat → Nat} (h : RowZ w A n zs) (hO : Only own w own' w') (hl : ∀ ad, A = some ad → own ad.block = 0) : RowZ w' A n zs := by
  refine ⟨h.1, h.2.1, fun hn => ?_⟩
  obtain ⟨b, off, e, hlt, hcc⟩ := h.2.2 hn
  have hb : w'.heap[b]? = w.heap[b]? := hO.2.2 b hlt (hl _ e)
  exact ⟨b, off, e, by have := hO.1.size; omega, fun i hi => (World.cell?_of_block (w := w) (a := ⟨b, off + i, none⟩) hb).trans (hcc i hi)⟩
theorem bytes_cellsZ {zs : List Int} (h : ∀ z ∈ zs, 0 ≤ z ∧ z ≤ 255) : ∀ u ∈ cellsZ zs, ∃ z : Int, 0 ≤ z ∧ z < 256 ∧ u = .int .u8 z := fun u hu => by
  obtain ⟨z, hz, rfl⟩ := List.mem_map.1 hu
  have := h z hz
  exact ⟨z, by omega, by omega, rfl⟩
theorem cellsZ_length (zs : List Int) : (cellsZ zs).length = zs.length := by unfold cellsZ; rw [List.length_map]
/-- Bytes of somebody else's are appended. -/
theorem DF.append {A : Option Addr} {n c : Nat} {zs : List Int} (h : DF w0 W d own r) (hR : RowZ W A n zs) (hown : ∀ ad, A = some ad → own ad.block = 0) (hp : r.append x (cellsZ zs) = (a, r')) (hs : r.size + 4 ≤ 80000) (hsz : x.size ≤ 1000000) (hn : n ≤ 10000000) :
    Calls Try.prog 32 #[.pointer (some ⟨d, 0, none⟩), .string x, .slice A n c] W fun e w' => e = .returned (.int .i64 a) ∧ ∃ own', Only own W own' w' ∧ DF w0 w' d own' r' := by
  refine (h.2.2.append hs x hsz A n c hn (cellsZ zs) (by rw [cellsZ_length]; exact hR.1) (bytes_cellsZ hR.2.1) (fun V hc => ?_)).mono fun e w' hh => by rw [hp] at hh; exact ⟨hh.1, h.next hh.2⟩
  exact (hR.chg hc (fun k hk ad e he => by rw [List.mem_singleton] at hk; rw [hk] at he; have := h.2.2.od; rw [← he] at this; exact this (hown ad e))).toSrc c
/-- Bytes that were there at w0 are appended. -/
theorem DF.append0 {A : Option Addr} {n c : Nat} {zs : List Int} (h : DF w0 W d own r) (hR : RowZ w0 A n zs) (hp : r.append x (cellsZ zs) = (a, r')) (hs : r.size + 4 ≤ 80000) (hsz : x.size ≤ 1000000) (hn : n ≤ 10000000) :
    Calls Try.prog 32 #[.pointer (some ⟨d, 0, none⟩), .string x, .slice A n c] W fun e w' => e = .returned (.int .i64 a) ∧ ∃ own', Only own W own' w' ∧ DF w0 w' d own' r' := by
  rcases Nat.eq_zero_or_pos n with h0 | h0
  · subst h0
    have e : zs = [] := List.eq_nil_of_length_eq_zero hR.1
    subst e
    refine (h.2.2.append hs x hsz A 0 c (by omega) [] rfl (fun u hu => by cases hu) (fun V hc => ?_)).mono fun e w' hh => by rw [show ([] : List Value) = cellsZ [] from rfl, hp] at hh; exact ⟨hh.1, h.next hh.2⟩
    exact RowZ.toSrc (zs := []) ⟨rfl, fun z hz => (by cases hz), fun h0 => absurd h0 (Nat.lt_irrefl 0)⟩ c
  · refine h.append (hR.below h.2.1) (fun ad e => ?_) hp hs hsz hn
    obtain ⟨b, off, e', hlt, _⟩ := hR.2.2 h0
    rw [e'] at e
    cases e
    exact h.1 b hlt
theorem ZsAt.below {w w' : World} {A : Option Addr} {n : Nat} {zs : List Int} (h : ZsAt w A n zs) (hB : Below w.heap.size w w') : ZsAt w' A n zs := h.same hB.size (fun k _ hk => hB.block k hk)
theorem DF.crash0 {KA : Option Addr} {kn kc : Nat} {dir : Int} {zs : List Int} (h : DF w0 W d own r) (hp : r.crash dir zs = r') (hdir : -9223372036854775808 ≤ dir ∧ dir ≤ 9223372036854775807) (hK : ZsAt w0 KA kn zs) (hkn : kn ≤ 1000000) (hzs : ∀ z ∈ zs, z ≤ 9223372036854775807) :
    Calls Try.prog 22 #[.pointer (some ⟨d, 0, none⟩), .agg #[.int .i64 dir, .slice KA kn kc]] W fun e w' => (∃ v, e = .returned v) ∧ ∃ own', Only own W own' w' ∧ DF w0 w' d own' r' := by
  refine (h.2.2.crash dir hdir KA kn kc zs (hK.below h.2.1) hkn (fun h0 k hk => ?_) hzs).mono fun e w' hh => by rw [hp] at hh; exact ⟨hh.1, h.next hh.2⟩
  obtain ⟨g, off, e', hlt, _⟩ := hK.2 h0
  obtain ⟨ad, ea, he⟩ := mem_blk.1 hk
  rw [e'] at ea
  cases ea
  rw [← he]
  exact h.1 g hlt
end
end Go.Proofs.Ytfeccceemledjaa
namespace Go.Proofs.Ytfeccceemledjaa
open Go.RowKit Go.Shelf
set_option linter.unusedVariables false
set_option maxRecDepth 100000

theorem syncDir_enters : Enters Try.prog 31 := enters_of Try.func31 (by kernel_rfl) rfl
theorem open1_enters : Enters Try.prog 29 := enters_of Try.func29 (by kernel_rfl) rfl
theorem open1_any (W : World) (p q : Nat) (d : Nat) (x : ByteArray) (k0 : W.cell? ⟨p, 0, none⟩ = some (.pointer (some ⟨d, 0, none⟩))) (k1 : W.cell? ⟨q, 0, none⟩ = some (.string x)) (K : Int → World → Prop)
    (h : Calls Try.prog 30 #[.pointer (some ⟨d, 0, none⟩), .string x] W fun e w' => ∃ a, e = .returned (.int .i64 a) ∧ K a w') :
    Calls Try.prog 29 #[.pointer (some ⟨p, 0, none⟩), .pointer (some ⟨q, 0, none⟩)] W fun e w' => ∃ a, e = .returned (.int .i64 a) ∧ K a w' := by
  have HC := Lib.hid h
  clear h
  go_enter Try.func29, Try.ntmps29
  go_wp2_with (go_at_call 30; refine HC.out.mono ?_; rintro e w1 ⟨a, rfl, hK⟩; have HK := Lib.hid hK; clear hK)
  go_ret
  exact ⟨a, rfl, HK.out⟩
/-- A log in memory, over the disk d in state r; more has gone on since w. -/
structure LogAt (w : World) (d : Nat) (own : Nat → Nat) (r : RD) (l : Nat) (x : ByteArray) (b cnt siz : Int) (own' : Nat → Nat) (W : World) : Prop where
  only : Only own w own' W
  disk : IsD W d own' r
  box : LBox W l (.pointer (some ⟨d, 0, none⟩)) (.string x) b (.int .i64 cnt) (.int .i64 siz)
  free : own' l = 0
  new : w.heap.size ≤ l
section
variable {w W W' : World} {d l : Nat} {own own' : Nat → Nat} {r r' : RD} {x : ByteArray} {b cnt siz : Int}
theorem LogAt.next (h : LogAt w d own r l x b cnt siz own' W) (hN : DNext W d own' r' W') : ∃ own'', LogAt w d own r' l x b cnt siz own'' W' ∧ ∀ k, k < W.heap.size → own' k = 0 → own'' k = 0 ∧ W'.heap[k]? = W.heap[k]? := by
  obtain ⟨own'', O, H⟩ := hN
  have hl := h.box.lt
  refine ⟨own'', ⟨h.only.trans O, H, (O.2.2 l hl h.free).trans h.box, (O.2.1 l hl).trans h.free, h.new⟩, fun k hk h0 => ⟨(O.2.1 k hk).trans h0, O.2.2 k hk h0⟩⟩
theorem LogAt.chg {k : List Nat} (h : LogAt w d own r l x b cnt siz own' W) (hc : Chg k W W') (hk : ∀ j ∈ k, own' j = 0 ∧ j ≠ l ∧ (w.heap.size ≤ j)) : LogAt w d own r l x b cnt siz own' W' := by
  have hz := h.only.1.size
  refine ⟨⟨h.only.1.trans hc.below, h.only.2.1, fun i hi h0 => (hc.same i (by omega) (fun hm => by have := (hk i hm).2.2; omega)).trans (h.only.2.2 i hi h0)⟩, h.disk.chg hc (fun j hj => (hk j hj).1), h.box.chg hc (fun hm => (hk l hm).2.1 rfl), h.free, h.new⟩
theorem LogAt.below (h : LogAt w d own r l x b cnt siz own' W) (hb : Below W.heap.size W W') : LogAt w d own r l x b cnt siz own' W' := by
  have hz := h.only.1.size
  exact ⟨⟨h.only.1.trans (hb.mono (Nat.zero_le _)), h.only.2.1, fun i hi h0 => (hb.block i (by omega)).trans (h.only.2.2 i hi h0)⟩, h.disk.below hb, h.box.below hb, h.free, h.new⟩
theorem LogAt.bad (h : LogAt w d own r l x b cnt siz own' W) (a : Int) : LogAt w d own r l x a cnt siz own' (W.setCell ⟨l, 2, none⟩ (.int .i64 a)) := by
  have hc : Chg [l] W (W.setCell ⟨l, 2, none⟩ (.int .i64 a)) := (Chg.refl _ W).setCell l 2 _ (.inl (by simp))
  have hz := h.only.1.size
  have hn := h.new
  refine ⟨⟨h.only.1.trans hc.below, h.only.2.1, fun i hi h0 => (hc.same i (by omega) (fun hm => by rw [List.mem_singleton] at hm; omega)).trans (h.only.2.2 i hi h0)⟩, h.disk.chg hc (fun j hj => by rw [List.mem_singleton] at hj; rw [hj]; exact h.free), h.box.bad a, h.free, h.new⟩
end
/-- Open's steps in memory. -/
structure OpenAt (w : World) (d : Nat) (own : Nat → Nat) (r : RD) (l sb hd : Nat) (x : ByteArray) (fs : List Value) (own' : Nat → Nat) (W : World) : Prop where
  log : LogAt w d own r l x 0 0 0 own' W
  free : own' sb = 0 ∧ own' hd = 0 ∧ own' (hd + 1) = 0
  st : ∃ T, W.heap[sb]? = some (.cells fs.toArray T (0, 0))
  k0 : W.heap[hd]? = some (.cells #[.pointer (some ⟨d, 0, none⟩)] 23 (0, 0))
  k1 : W.heap[hd + 1]? = some (.cells #[.string x] 9 (0, 0))
  ne : sb ≠ l ∧ hd ≠ l ∧ hd + 1 ≠ l
section
variable {w W W' : World} {d l sb hd : Nat} {own own' : Nat → Nat} {r r' : RD} {x : ByteArray} {fs : List Value}
theorem OpenAt.next (h : OpenAt w d own r l sb hd x fs own' W) (hN : DNext W d own' r' W') : ∃ own'', OpenAt w d own r' l sb hd x fs own'' W' := by
  obtain ⟨h2, h3, h4⟩ := h.free
  obtain ⟨T, hT⟩ := h.st
  obtain ⟨own'', g1, g2⟩ := h.log.next hN
  have b1 := g2 sb (lt_of_block hT) h2
  have b2 := g2 hd (lt_of_block h.k0) h3
  have b3 := g2 (hd + 1) (lt_of_block h.k1) h4
  exact ⟨own'', g1, ⟨b1.1, b2.1, b3.1⟩, ⟨T, b1.2.trans hT⟩, b2.2.trans h.k0, b3.2.trans h.k1, h.ne⟩
theorem OpenAt.set (h : OpenAt w d own r l sb hd x fs own' W) : OpenAt w d own r l sb hd x fs own' (W.setCell ⟨l, 2, none⟩ (.int .i64 0)) := by
  obtain ⟨T, hT⟩ := h.st
  have hc : Chg [l] W (W.setCell ⟨l, 2, none⟩ (.int .i64 0)) := (Chg.refl _ W).setCell l 2 _ (.inl (by simp))
  exact ⟨h.log.bad 0, h.free, ⟨T, (hc.same sb (lt_of_block hT) (by rw [List.mem_singleton]; exact h.ne.1)).trans hT⟩, (hc.same hd (lt_of_block h.k0) (by rw [List.mem_singleton]; exact h.ne.2.1)).trans h.k0, (hc.same _ (lt_of_block h.k1) (by rw [List.mem_singleton]; exact h.ne.2.2)).trans h.k1, h.ne⟩
end
def openFs (d hd : Nat) : List Value := [.func (.func 29) #[] #[.pointer (some ⟨hd, 0, none⟩), .pointer (some ⟨hd + 1, 0, none⟩)], .func (.func 31) #[.pointer (some ⟨d, 0, none⟩)] #[]]
/-- Open's two steps, done. -/
theorem open_do {w W : World} {d l sb hd : Nat} {own own' : Nat → Nat} {r r1 r2 : RD} {x : ByteArray} (sc : Nat) (h : OpenAt w d own r l sb hd x (openFs d hd) own' W) (hx : x.size ≤ 900000) (hs : r.size + 4 ≤ 80000) (hs1 : r1.size + 4 ≤ 80000) (hc : r.create x = (0, r1)) (hc2 : r1.syncDir = (0, r2)) :
    Calls Try.prog 28 #[.pointer (some ⟨l, 0, none⟩), .slice (some ⟨sb, 0, none⟩) 2 sc] W fun e w' => e = .returned (.int .i64 0) ∧ ∃ own'', OpenAt w d own r2 l sb hd x (openFs d hd) own'' w' := by
  refine (do_any W l sb 0 sc 2 (openFs d hd) rfl (by omega) (.pointer (some ⟨d, 0, none⟩)) (.string x) (.int .i64 0) (.int .i64 0) 0 (fun k b V => b = 0 ∧ ∃ own'', OpenAt w d own (if k = 0 then r else if k = 1 then r1 else r2) l sb hd x (openFs d hd) own'' V) ?_ ⟨rfl, own', h⟩ ?_ ?_).mono ?_
  · rintro k b V ⟨rfl, own'', hV⟩
    obtain ⟨T, hT⟩ := hV.st
    refine ⟨hV.log.box, fun j v hj => ?_⟩
    rw [cell_of_row V sb (0 + j) _ _ (0, 0) hT, Nat.zero_add]
    simpa using hj
  · rintro k b V hb hk ⟨h0, _⟩
    exact absurd h0 hb
  · rintro k V hk ⟨_, own'', hV⟩
    rcases (by omega : k = 0 ∨ k = 1) with rfl | rfl
    · refine ⟨29, _, _, rfl, open1_enters, ?_⟩
      rw [if_pos rfl] at hV
      refine (open1_any V hd (hd + 1) d x (cell_of_one hV.k0) (cell_of_one hV.k1) (fun a V' => a = 0 ∧ ∃ own3, OpenAt w d own r1 l sb hd x (openFs d hd) own3 V') ?_).mono ?_
      · refine (hV.log.disk.create hs x (by omega)).mono ?_
        rintro e V' ⟨rfl, hN⟩
        rw [hc] at hN ⊢
        exact ⟨0, rfl, rfl, hV.next hN⟩
      · rintro e V' ⟨a, rfl, rfl, own3, hV'⟩
        exact ⟨0, rfl, hV'.log.box, rfl, own3, hV'.set⟩
    · refine ⟨31, _, _, rfl, syncDir_enters, ?_⟩
      rw [if_neg (by omega), if_pos rfl] at hV
      refine (hV.log.disk.syncDir hs1).mono ?_
      rintro e V' ⟨rfl, hN⟩
      rw [hc2] at hN ⊢
      obtain ⟨own3, hV'⟩ := hV.next hN
      exact ⟨0, rfl, hV'.log.box, rfl, own3, hV'.set⟩
  · rintro e V ⟨b, rfl, rfl, hV⟩
    exact ⟨rfl, hV⟩
theorem parse_nil : parseN [] = [] := by
  have h := parse_small (t := []) (by simp)
  exact h
set_option maxHeartbeats 3200000 in
theorem open_fresh (w : World) (d : Nat) (own : Nat → Nat) (r r1 r2 : RD) (x : ByteArray) (H : IsD w d own r) (hx : x.size ≤ 900000) (hok : logOk x = true) (hon : r.off = false) (hno : hasP ltS r.now x = false)
    (hs : r.size + 4 ≤ 80000) (hs1 : r1.size + 4 ≤ 80000) (hc : r.create x = (0, r1)) (hc2 : r1.syncDir = (0, r2)) :
    Calls Try.prog 8 #[.pointer (some ⟨d, 0, none⟩), .string x] w fun e w' => ∃ own' l R c, e = .returned (.tuple #[.pointer (some ⟨l, 0, none⟩), .slice R 0 c, .int .i64 0]) ∧ LogAt w d own r2 l x 0 0 0 own' w' := by
  obtain ⟨W2, hW2, hB2, hs2, k0, k1⟩ := box2 w (.pointer (some ⟨d, 0, none⟩)) (.string x) 23 9
  obtain ⟨hh, hhe⟩ : ∃ hh, w.heap.size = hh := ⟨_, rfl⟩
  rw [hhe] at k0 k1 hs2
  have c0 := cell_of_one k0
  have c1 := cell_of_one k1
  unfold logOk at hok
  have h1 : nameOk x = true := (Bool.and_eq_true_iff.1 hok).1
  have h2 : nameOk (x ++ spareB) = true := (Bool.and_eq_true_iff.1 hok).2
  have HM := Lib.hid (mayName_any x (by omega))
  have HM2 := Lib.hid (mayName_any (x ++ spareB) (by rw [spare_size]; omega))
  rw [h1] at HM
  rw [h2] at HM2
  unfold spareB at HM2
  have H2 := H.below hB2
  have HO := Lib.hid H2.isOff
  rw [hon] at HO
  have HRD := Lib.hid (H2.read_no x hno)
  have HH := Lib.hid H
  have HB := Lib.hid hB2
  have HHE := Lib.hid hhe
  have HK0 := Lib.hid k0
  have HK1 := Lib.hid k1
  have HS2 := Lib.hid hs2
  clear hB2 hs2 k0 k1 hok h1 h2 H2 H hon hno
  go_enter Try.func8, Try.ntmps8
  go_wp2_with (first
    | (go_at_call 25; first | (with_reducible refine (HM.out _).mono ?_; rintro e w1 ⟨rfl, rfl⟩) | (with_reducible refine (HM2.out _).mono ?_; rintro e w1 ⟨rfl, rfl⟩))
    | (go_at_call 26; refine HO.out.mono ?_; rintro e w1 ⟨rfl, rfl⟩)
    | (go_at_call 17; refine HRD.out.mono ?_; rintro e w3 ⟨rfl, hb3⟩; have HP := Lib.hid (parse_any w3 none 0 0 [] (by omega) (by omega) (by omega) RowN.nil); rw [parse_nil] at HP; have HB3 := Lib.hid hb3; clear hb3 c0 c1))
  rw [show (allN []).length = 0 from rfl] at HP
  refine HP.out.mono ?_
  rintro e w4 ⟨R, c4, vs, rfl, _, _, _, hb4⟩
  have hB24 : Below W2.heap.size W2 w4 := HB3.out.trans (hb4.mono HB3.out.size)
  obtain ⟨W5, hW5⟩ : ∃ W5, w4.alloc (.cells #[.pointer (some ⟨d, 0, none⟩), .string x, .int .i64 0, .int .i64 0, .int .i64 0] 68) = W5 := ⟨_, rfl⟩
  obtain ⟨l, hl⟩ : ∃ l, w4.heap.size = l := ⟨_, rfl⟩
  have hB45 : Below w4.heap.size w4 W5 := by rw [← hW5]; exact (Below.refl _ w4).alloc (Nat.le_refl _) _
  have hbx : LBox W5 l (.pointer (some ⟨d, 0, none⟩)) (.string x) 0 (.int .i64 0) (.int .i64 0) := by rw [← hW5, ← hl]; exact heap_alloc_new w4 _
  have hs5 : W5.heap.size = l + 1 := by rw [← hW5, ← hl]; simp
  have hB25 : Below W2.heap.size W2 W5 := hB24.trans (hB45.mono hB24.size)
  have hlh : hh + 2 ≤ l := by have := hB24.size; have := HS2.out; omega
  obtain ⟨W6, hW6⟩ : ∃ W6, W5.drew.alloc (.cells #[.func (.func 29) #[] #[.pointer (some ⟨hh, 0, none⟩), .pointer (some ⟨hh + 1, 0, none⟩)], .func (.func 31) #[.pointer (some ⟨d, 0, none⟩)] #[]] 36) = W6 := ⟨_, rfl⟩
  have hB56 : Below W5.heap.size W5 W6 := by rw [← hW6]; exact (Below.refl _ W5).drew.alloc (Nat.le_refl _) _
  have hst : W6.heap[l + 1]? = some (.cells #[.func (.func 29) #[] #[.pointer (some ⟨hh, 0, none⟩), .pointer (some ⟨hh + 1, 0, none⟩)], .func (.func 31) #[.pointer (some ⟨d, 0, none⟩)] #[]] 36 (0, 0)) := by
    have := heap_alloc_new W5.drew (.cells #[.func (.func 29) #[] #[.pointer (some ⟨hh, 0, none⟩), .pointer (some ⟨hh + 1, 0, none⟩)], .func (.func 31) #[.pointer (some ⟨d, 0, none⟩)] #[]] 36 (0, 0))
    rw [hW6] at this
    rw [← hs5]
    exact this
  have hB26 : Below W2.heap.size W2 W6 := hB25.trans (hB56.mono hB25.size)
  have hB06 : Below w.heap.size w W6 := HB.out.trans (hB26.mono HB.out.size)
  have HOP : Hid (OpenAt w d own r l (l + 1) hh x (openFs d hh) own W6) := Lib.hid ⟨⟨⟨hB06.mono (Nat.zero_le _), fun _ _ => rfl, fun i hi _ => hB06.block i hi⟩, HH.out.below hB06, hbx.below hB56, HH.out.1 l (by have := HHE.out; omega), by have := HHE.out; omega⟩, ⟨HH.out.1 _ (by have := HHE.out; omega), HH.out.1 _ (by have := HHE.out; omega), HH.out.1 _ (by have := HHE.out; omega)⟩, ⟨_, hst⟩, (hB26.block hh (by have := HS2.out; omega)).trans HK0.out, (hB26.block (hh + 1) (by have := HS2.out; omega)).trans HK1.out, ⟨by omega, by omega, by omega⟩⟩
  have c40 := cell_of_one ((hB24.block hh (by have := HS2.out; omega)).trans HK0.out)
  have c41 := cell_of_one ((hB24.block (hh + 1) (by have := HS2.out; omega)).trans HK1.out)
  have c0 := cell_of_one ((hB25.block hh (by have := HS2.out; omega)).trans HK0.out)
  have HDO := Lib.hid (open_do 2 HOP.out hx hs hs1 hc hc2)
  clear hb4 hB24 hB45 hbx hB25 hlh hB56 hst hB26 hB06 HOP
  go_wp2_with fail
  go_region_with (go_at_call 28; with_reducible refine HDO.out.mono ?_; rintro e w7 ⟨rfl, own7, h7⟩; have HX := Lib.hid h7.log; clear h7)
  all_goals
    go_wp2
    go_ret3
    exact ⟨own7, l, R, c4, rfl, HX.out⟩
end Go.Proofs.Ytfeccceemledjaa
