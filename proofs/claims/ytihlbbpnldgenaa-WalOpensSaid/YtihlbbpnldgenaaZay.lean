/-
  A disk behind calls, in a world that has gone on from w0: what was there at w0 is as it was. Bytes that came in.
  Open of a file that there isn't yet.
  A log's Add.
  write: a file of frames, its bytes sure.
  A log's steps: one, or two.
  A log's Reset, whatever comes of laying the frames anew.
  The steps of anew and of Sync.
-/
import Derived.Test.YtihlbbpnldgenaaZaw
import Derived.Test.YtihlbbpnldgenaaZax
import Derived.Test.YtihlbbpnldgenaaZah
import Derived.Test.YtihlbbpnldgenaaZat
import Derived.Test.YtihlbbpnldgenaaZap
import Derived.Deep.RegionWith
import Derived.Test.YtihlbbpnldgenaaZan
import Derived.Test.YtihlbbpnldgenaaZao
namespace Go.Proofs.Ytihlbbpnldgenaa
open Go.RowKit Go.Maps
set_option linter.unusedVariables false
set_option maxRecDepth 100000

/-- A disk in a world that has gone on from w0, where it was not yet. -/
def DF (w0 W : World) (d : Nat) (own : Nat → Nat) (r : RD) : Prop := (∀ i, i < w0.heap.size → own i = 0) ∧ Below w0.heap.size w0 W ∧ IsD W d own r
section
variable {w0 W W' : World} {d : Nat} {own own' : Nat → Nat} {r r' : RD} {x y : ByteArray} {a : Int}
theorem DF.next (h : DF w0 W d own r) (hN : DNext W d own r' W') : ∃ own', Only own W own' W' ∧ DF w0 W' d own' r' := by
  obtain ⟨own', O, H⟩ := hN
  have hz := h.2.1.size
  refine ⟨own', O, fun i hi => (O.2.1 i (by omega)).trans (h.1 i hi), h.2.1.trans (O.toBelow h.1 hz), H⟩
theorem DF.below (h : DF w0 W d own r) (hB : Below W.heap.size W W') : DF w0 W' d own r := ⟨h.1, h.2.1.trans (hB.mono h.2.1.size), h.2.2.below hB⟩
theorem DF.create (h : DF w0 W d own r) (hp : r.create x = (a, r')) (hs : r.size + 4 ≤ 80000) (hsz : x.size ≤ 1000000) :
    Calls Try.prog 27 #[.pointer (some ⟨d, 0, none⟩), .string x] W fun e w' => e = .returned (.int .i64 a) ∧ ∃ own', Only own W own' w' ∧ DF w0 w' d own' r' :=
  (h.2.2.create hs x hsz).mono fun e w' hh => by rw [hp] at hh; exact ⟨hh.1, h.next hh.2⟩
theorem DF.sync (h : DF w0 W d own r) (hp : r.sync x = (a, r')) (hs : r.size + 4 ≤ 80000) (hsz : x.size ≤ 1000000) :
    Calls Try.prog 34 #[.pointer (some ⟨d, 0, none⟩), .string x] W fun e w' => e = .returned (.int .i64 a) ∧ ∃ own', Only own W own' w' ∧ DF w0 w' d own' r' :=
  (h.2.2.sync hs x hsz).mono fun e w' hh => by rw [hp] at hh; exact ⟨hh.1, h.next hh.2⟩
theorem DF.syncDir (h : DF w0 W d own r) (hp : r.syncDir = (a, r')) (hs : r.size + 4 ≤ 80000) :
    Calls Try.prog 28 #[.pointer (some ⟨d, 0, none⟩)] W fun e w' => e = .returned (.int .i64 a) ∧ ∃ own', Only own W own' w' ∧ DF w0 w' d own' r' :=
  (h.2.2.syncDir hs).mono fun e w' hh => by rw [hp] at hh; exact ⟨hh.1, h.next hh.2⟩
theorem DF.rename (h : DF w0 W d own r) (hp : r.rename x y = (a, r')) (hs : r.size + 4 ≤ 80000) (hsz : x.size ≤ 1000000) (hsz2 : y.size ≤ 1000000) :
    Calls Try.prog 54 #[.pointer (some ⟨d, 0, none⟩), .string x, .string y] W fun e w' => e = .returned (.int .i64 a) ∧ ∃ own', Only own W own' w' ∧ DF w0 w' d own' r' :=
  (h.2.2.rename hs x y hsz hsz2).mono fun e w' hh => by rw [hp] at hh; exact ⟨hh.1, h.next hh.2⟩
theorem DF.remove (h : DF w0 W d own r) (hp : r.remove x = (a, r')) (hs : r.size + 4 ≤ 80000) (hsz : x.size ≤ 1000000) :
    Calls Try.prog 56 #[.pointer (some ⟨d, 0, none⟩), .string x] W fun e w' => e = .returned (.int .i64 a) ∧ ∃ own', Only own W own' w' ∧ DF w0 w' d own' r' :=
  (h.2.2.remove hs x hsz).mono fun e w' hh => by rw [hp] at hh; exact ⟨hh.1, h.next hh.2⟩
/-- A slice of bytes, to be appended. -/
theorem RowZ.toSrc {w : World} {A : Option Addr} {n : Nat} {zs : List Int} (h : RowZ w A n zs) (c : Nat) : Src Try.prog 1 30 (.slice A n c) n (cellsZ zs) w := by
  cases A with
  | none =>
    rcases Nat.eq_zero_or_pos n with h0 | h0
    · subst h0
      have e : zs = [] := List.eq_nil_of_length_eq_zero h.1
      subst e
      exact Src.ofNil w Try.underlying30 c
    · obtain ⟨_, _, e, _⟩ := h.2.2 h0
      cases e
  | some ad =>
    refine Src.ofSlice w Try.underlying30 ad n c _ ?_ (fun j u hj => ?_) (one_u8 zs)
    · unfold cellsZ
      rw [List.length_map, h.1, Nat.mul_one]
    · have hn : 0 < n := by
        have h1 := (List.getElem?_eq_some_iff.1 hj).1
        unfold cellsZ at h1
        rw [List.length_map, h.1] at h1
        omega
      obtain ⟨ad', e, hc⟩ := h.src hn
      cases e
      exact hc j u hj
theorem RowZ.chg {w w' : World} {A : Option Addr} {n : Nat} {zs : List Int} {l : List Nat} (h : RowZ w A n zs) (hc : Chg l w w') (hl : ∀ k ∈ l, ∀ ad, A = some ad → ad.block ≠ k) : RowZ w' A n zs := by
  refine ⟨h.1, h.2.1, fun hn => ?_⟩
  obtain ⟨b, off, e, hlt, hcc⟩ := h.2.2 hn
  have hb : w'.heap[b]? = w.heap[b]? := hc.same b hlt (fun hm => hl b hm _ e rfl)
  exact ⟨b, off, e, by have := hc.size; omega, fun i hi => (World.cell?_of_block (w := w) (a := ⟨b, off + i, none⟩) hb).trans (hcc i hi)⟩
theorem RowZ.only {w w' : World} {A : Option Addr} {n : Nat} {zs : List Int} {own own' : Nat → Nat} (h : RowZ w A n zs) (hO : Only own w own' w') (hl : ∀ ad, A = some ad → own ad.block = 0) : RowZ w' A n zs := by
  refine ⟨h.1, h.2.1, fun hn => ?_⟩
  obtain ⟨b, off, e, hlt, hcc⟩ := h.2.2 hn
  have hb : w'.heap[b]? = w.heap[b]? := hO.2.2 b hlt (hl _ e)
  exact ⟨b, off, e, by have := hO.1.size; omega, fun i hi => (World.cell?_of_block (w := w) (a := ⟨b, off + i, none⟩) hb).trans (hcc i hi)⟩
theorem bytes_cellsZ {zs : List Int} (h : ∀ z ∈ zs, 0 ≤ z ∧ z ≤ 255) : ∀ u ∈ cellsZ zs, ∃ z : Int, 0 ≤ z ∧ z < 256 ∧ u = .int .u8 z := fun u hu => by
  obtain ⟨z, hz, rfl⟩ := List.mem_map.1 hu
  have := h z hz
  exact ⟨z, by omega, by omega, rfl⟩
theorem cellsZ_length (zs : List Int) : (cellsZ zs).length = zs.length := by unfold cellsZ; rw [List.length_map]
/-- Bytes of somebody else's are appended. -/
theorem DF.append {A : Option Addr} {n c : Nat} {zs : List Int} (h : DF w0 W d own r) (hR : RowZ W A n zs) (hown : ∀ ad, A = some ad → own ad.block = 0) (hp : r.append x (cellsZ zs) = (a, r')) (hs : r.size + 4 ≤ 80000) (hsz : x.size ≤ 1000000) (hn : n ≤ 10000000) :
    Calls Try.prog 30 #[.pointer (some ⟨d, 0, none⟩), .string x, .slice A n c] W fun e w' => e = .returned (.int .i64 a) ∧ ∃ own', Only own W own' w' ∧ DF w0 w' d own' r' := by
  refine (h.2.2.append hs x hsz A n c hn (cellsZ zs) (by rw [cellsZ_length]; exact hR.1) (bytes_cellsZ hR.2.1) (fun V hc => ?_)).mono fun e w' hh => by rw [hp] at hh; exact ⟨hh.1, h.next hh.2⟩
  exact (hR.chg hc (fun k hk ad e he => by rw [List.mem_singleton] at hk; rw [hk] at he; have := h.2.2.od; rw [← he] at this; exact this (hown ad e))).toSrc c
/-- Bytes that were there at w0 are appended. -/
theorem DF.append0 {A : Option Addr} {n c : Nat} {zs : List Int} (h : DF w0 W d own r) (hR : RowZ w0 A n zs) (hp : r.append x (cellsZ zs) = (a, r')) (hs : r.size + 4 ≤ 80000) (hsz : x.size ≤ 1000000) (hn : n ≤ 10000000) :
    Calls Try.prog 30 #[.pointer (some ⟨d, 0, none⟩), .string x, .slice A n c] W fun e w' => e = .returned (.int .i64 a) ∧ ∃ own', Only own W own' w' ∧ DF w0 w' d own' r' := by
  rcases Nat.eq_zero_or_pos n with h0 | h0
  · subst h0
    have e : zs = [] := List.eq_nil_of_length_eq_zero hR.1
    subst e
    refine (h.2.2.append hs x hsz A 0 c (by omega) [] rfl (fun u hu => by cases hu) (fun V hc => ?_)).mono fun e w' hh => by rw [show ([] : List Value) = cellsZ [] from rfl, hp] at hh; exact ⟨hh.1, h.next hh.2⟩
    exact RowZ.toSrc (zs := []) ⟨rfl, fun z hz => (by cases hz), fun h0 => absurd h0 (Nat.lt_irrefl 0)⟩ c
  · refine h.append (hR.below h.2.1) (fun ad e => ?_) hp hs hsz hn
    obtain ⟨b, off, e', hlt, _⟩ := hR.2.2 h0
    rw [e'] at e
    cases e
    exact h.1 b hlt
theorem ZsAt.below {w w' : World} {A : Option Addr} {n : Nat} {zs : List Int} (h : ZsAt w A n zs) (hB : Below w.heap.size w w') : ZsAt w' A n zs := h.same hB.size (fun k _ hk => hB.block k hk)
theorem DF.crash0 {KA : Option Addr} {kn kc : Nat} {dir : Int} {zs : List Int} (h : DF w0 W d own r) (hp : r.crash dir zs = r') (hdir : -9223372036854775808 ≤ dir ∧ dir ≤ 9223372036854775807) (hK : ZsAt w0 KA kn zs) (hkn : kn ≤ 1000000) (hzs : ∀ z ∈ zs, z ≤ 9223372036854775807) :
    Calls Try.prog 20 #[.pointer (some ⟨d, 0, none⟩), .agg #[.int .i64 dir, .slice KA kn kc]] W fun e w' => (∃ v, e = .returned v) ∧ ∃ own', Only own W own' w' ∧ DF w0 w' d own' r' := by
  refine (h.2.2.crash dir hdir KA kn kc zs (hK.below h.2.1) hkn (fun h0 k hk => ?_) hzs).mono fun e w' hh => by rw [hp] at hh; exact ⟨hh.1, h.next hh.2⟩
  obtain ⟨g, off, e', hlt, _⟩ := hK.2 h0
  obtain ⟨ad, ea, he⟩ := mem_blk.1 hk
  rw [e'] at ea
  cases ea
  rw [← he]
  exact h.1 g hlt
end
end Go.Proofs.Ytihlbbpnldgenaa
namespace Go.Proofs.Ytihlbbpnldgenaa
open Go.RowKit Go.Shelf
set_option linter.unusedVariables false
set_option maxRecDepth 100000

theorem syncDir_enters : Enters Try.prog 28 := enters_of Try.func28 (by kernel_rfl) rfl
theorem open1_enters : Enters Try.prog 26 := enters_of Try.func26 (by kernel_rfl) rfl
theorem open1_any (W : World) (p q : Nat) (d : Nat) (x : ByteArray) (k0 : W.cell? ⟨p, 0, none⟩ = some (.pointer (some ⟨d, 0, none⟩))) (k1 : W.cell? ⟨q, 0, none⟩ = some (.string x)) (K : Int → World → Prop)
    (h : Calls Try.prog 27 #[.pointer (some ⟨d, 0, none⟩), .string x] W fun e w' => ∃ a, e = .returned (.int .i64 a) ∧ K a w') :
    Calls Try.prog 26 #[.pointer (some ⟨p, 0, none⟩), .pointer (some ⟨q, 0, none⟩)] W fun e w' => ∃ a, e = .returned (.int .i64 a) ∧ K a w' := by
  have HC := Lib.hid h
  clear h
  go_enter Try.func26, Try.ntmps26
  go_wp2_with (go_at_call 27; refine HC.out.mono ?_; rintro e w1 ⟨a, rfl, hK⟩; have HK := Lib.hid hK; clear hK)
  go_ret
  exact ⟨a, rfl, HK.out⟩
/-- A log in memory, over the disk d in state r; more has gone on since w. -/
structure LogAt (w : World) (d : Nat) (own : Nat → Nat) (r : RD) (l : Nat) (x : ByteArray) (b cnt siz : Int) (own' : Nat → Nat) (W : World) : Prop where
  only : Only own w own' W
  disk : IsD W d own' r
  box : LBox W l (.pointer (some ⟨d, 0, none⟩)) (.string x) b (.int .i64 cnt) (.int .i64 siz)
  free : own' l = 0
  new : w.heap.size ≤ l
section
variable {w W W' : World} {d l : Nat} {own own' : Nat → Nat} {r r' : RD} {x : ByteArray} {b cnt siz : Int}
theorem LogAt.next (h : LogAt w d own r l x b cnt siz own' W) (hN : DNext W d own' r' W') : ∃ own'', LogAt w d own r' l x b cnt siz own'' W' ∧ ∀ k, k < W.heap.size → own' k = 0 → own'' k = 0 ∧ W'.heap[k]? = W.heap[k]? := by
  obtain ⟨own'', O, H⟩ := hN
  have hl := h.box.lt
  refine ⟨own'', ⟨h.only.trans O, H, (O.2.2 l hl h.free).trans h.box, (O.2.1 l hl).trans h.free, h.new⟩, fun k hk h0 => ⟨(O.2.1 k hk).trans h0, O.2.2 k hk h0⟩⟩
theorem LogAt.chg {k : List Nat} (h : LogAt w d own r l x b cnt siz own' W) (hc : Chg k W W') (hk : ∀ j ∈ k, own' j = 0 ∧ j ≠ l ∧ (w.heap.size ≤ j)) : LogAt w d own r l x b cnt siz own' W' := by
  have hz := h.only.1.size
  refine ⟨⟨h.only.1.trans hc.below, h.only.2.1, fun i hi h0 => (hc.same i (by omega) (fun hm => by have := (hk i hm).2.2; omega)).trans (h.only.2.2 i hi h0)⟩, h.disk.chg hc (fun j hj => (hk j hj).1), h.box.chg hc (fun hm => (hk l hm).2.1 rfl), h.free, h.new⟩
theorem LogAt.below (h : LogAt w d own r l x b cnt siz own' W) (hb : Below W.heap.size W W') : LogAt w d own r l x b cnt siz own' W' := by
  have hz := h.only.1.size
  exact ⟨⟨h.only.1.trans (hb.mono (Nat.zero_le _)), h.only.2.1, fun i hi h0 => (hb.block i (by omega)).trans (h.only.2.2 i hi h0)⟩, h.disk.below hb, h.box.below hb, h.free, h.new⟩
theorem LogAt.bad (h : LogAt w d own r l x b cnt siz own' W) (a : Int) : LogAt w d own r l x a cnt siz own' (W.setCell ⟨l, 2, none⟩ (.int .i64 a)) := by
  have hc : Chg [l] W (W.setCell ⟨l, 2, none⟩ (.int .i64 a)) := (Chg.refl _ W).setCell l 2 _ (.inl (by simp))
  have hz := h.only.1.size
  have hn := h.new
  refine ⟨⟨h.only.1.trans hc.below, h.only.2.1, fun i hi h0 => (hc.same i (by omega) (fun hm => by rw [List.mem_singleton] at hm; omega)).trans (h.only.2.2 i hi h0)⟩, h.disk.chg hc (fun j hj => by rw [List.mem_singleton] at hj; rw [hj]; exact h.free), h.box.bad a, h.free, h.new⟩
end
/-- Open's steps in memory. -/
structure OpenAt (w : World) (d : Nat) (own : Nat → Nat) (r : RD) (l sb hd : Nat) (x : ByteArray) (fs : List Value) (own' : Nat → Nat) (W : World) : Prop where
  log : LogAt w d own r l x 0 0 0 own' W
  free : own' sb = 0 ∧ own' hd = 0 ∧ own' (hd + 1) = 0
  st : ∃ T, W.heap[sb]? = some (.cells fs.toArray T (0, 0))
  k0 : W.heap[hd]? = some (.cells #[.pointer (some ⟨d, 0, none⟩)] 23 (0, 0))
  k1 : W.heap[hd + 1]? = some (.cells #[.string x] 9 (0, 0))
  ne : sb ≠ l ∧ hd ≠ l ∧ hd + 1 ≠ l
section
variable {w W W' : World} {d l sb hd : Nat} {own own' : Nat → Nat} {r r' : RD} {x : ByteArray} {fs : List Value}
theorem OpenAt.next (h : OpenAt w d own r l sb hd x fs own' W) (hN : DNext W d own' r' W') : ∃ own'', OpenAt w d own r' l sb hd x fs own'' W' := by
  obtain ⟨h2, h3, h4⟩ := h.free
  obtain ⟨T, hT⟩ := h.st
  obtain ⟨own'', g1, g2⟩ := h.log.next hN
  have b1 := g2 sb (lt_of_block hT) h2
  have b2 := g2 hd (lt_of_block h.k0) h3
  have b3 := g2 (hd + 1) (lt_of_block h.k1) h4
  exact ⟨own'', g1, ⟨b1.1, b2.1, b3.1⟩, ⟨T, b1.2.trans hT⟩, b2.2.trans h.k0, b3.2.trans h.k1, h.ne⟩
theorem OpenAt.set (h : OpenAt w d own r l sb hd x fs own' W) : OpenAt w d own r l sb hd x fs own' (W.setCell ⟨l, 2, none⟩ (.int .i64 0)) := by
  obtain ⟨T, hT⟩ := h.st
  have hc : Chg [l] W (W.setCell ⟨l, 2, none⟩ (.int .i64 0)) := (Chg.refl _ W).setCell l 2 _ (.inl (by simp))
  exact ⟨h.log.bad 0, h.free, ⟨T, (hc.same sb (lt_of_block hT) (by rw [List.mem_singleton]; exact h.ne.1)).trans hT⟩, (hc.same hd (lt_of_block h.k0) (by rw [List.mem_singleton]; exact h.ne.2.1)).trans h.k0, (hc.same _ (lt_of_block h.k1) (by rw [List.mem_singleton]; exact h.ne.2.2)).trans h.k1, h.ne⟩
end
def openFs (d hd : Nat) : List Value := [.func (.func 26) #[] #[.pointer (some ⟨hd, 0, none⟩), .pointer (some ⟨hd + 1, 0, none⟩)], .func (.func 28) #[.pointer (some ⟨d, 0, none⟩)] #[]]
/-- Open's two steps, done. -/
theorem open_do {w W : World} {d l sb hd : Nat} {own own' : Nat → Nat} {r r1 r2 : RD} {x : ByteArray} (sc : Nat) (h : OpenAt w d own r l sb hd x (openFs d hd) own' W) (hx : x.size ≤ 900000) (hs : r.size + 4 ≤ 80000) (hs1 : r1.size + 4 ≤ 80000) (hc : r.create x = (0, r1)) (hc2 : r1.syncDir = (0, r2)) :
    Calls Try.prog 25 #[.pointer (some ⟨l, 0, none⟩), .slice (some ⟨sb, 0, none⟩) 2 sc] W fun e w' => e = .returned (.int .i64 0) ∧ ∃ own'', OpenAt w d own r2 l sb hd x (openFs d hd) own'' w' := by
  refine (do_any W l sb 0 sc 2 (openFs d hd) rfl (by omega) (.pointer (some ⟨d, 0, none⟩)) (.string x) (.int .i64 0) (.int .i64 0) 0 (fun k b V => b = 0 ∧ ∃ own'', OpenAt w d own (if k = 0 then r else if k = 1 then r1 else r2) l sb hd x (openFs d hd) own'' V) ?_ ⟨rfl, own', h⟩ ?_ ?_).mono ?_
  · rintro k b V ⟨rfl, own'', hV⟩
    obtain ⟨T, hT⟩ := hV.st
    refine ⟨hV.log.box, fun j v hj => ?_⟩
    rw [cell_of_row V sb (0 + j) _ _ (0, 0) hT, Nat.zero_add]
    simpa using hj
  · rintro k b V hb hk ⟨h0, _⟩
    exact absurd h0 hb
  · rintro k V hk ⟨_, own'', hV⟩
    rcases (by omega : k = 0 ∨ k = 1) with rfl | rfl
    · refine ⟨26, _, _, rfl, open1_enters, ?_⟩
      rw [if_pos rfl] at hV
      refine (open1_any V hd (hd + 1) d x (cell_of_one hV.k0) (cell_of_one hV.k1) (fun a V' => a = 0 ∧ ∃ own3, OpenAt w d own r1 l sb hd x (openFs d hd) own3 V') ?_).mono ?_
      · refine (hV.log.disk.create hs x (by omega)).mono ?_
        rintro e V' ⟨rfl, hN⟩
        rw [hc] at hN ⊢
        exact ⟨0, rfl, rfl, hV.next hN⟩
      · rintro e V' ⟨a, rfl, rfl, own3, hV'⟩
        exact ⟨0, rfl, hV'.log.box, rfl, own3, hV'.set⟩
    · refine ⟨28, _, _, rfl, syncDir_enters, ?_⟩
      rw [if_neg (by omega), if_pos rfl] at hV
      refine (hV.log.disk.syncDir hs1).mono ?_
      rintro e V' ⟨rfl, hN⟩
      rw [hc2] at hN ⊢
      obtain ⟨own3, hV'⟩ := hV.next hN
      exact ⟨0, rfl, hV'.log.box, rfl, own3, hV'.set⟩
  · rintro e V ⟨b, rfl, rfl, hV⟩
    exact ⟨rfl, hV⟩
theorem parse_nil : parseN [] = [] := by
  have h := parse_small (t := []) (by simp)
  exact h
set_option maxHeartbeats 3200000 in
theorem open_fresh (w : World) (d : Nat) (own : Nat → Nat) (r r1 r2 : RD) (x : ByteArray) (H : IsD w d own r) (hx : x.size ≤ 900000) (hok : logOk x = true) (hon : r.off = false) (hno : hasP ltS r.now x = false)
    (hs : r.size + 4 ≤ 80000) (hs1 : r1.size + 4 ≤ 80000) (hc : r.create x = (0, r1)) (hc2 : r1.syncDir = (0, r2)) :
    Calls Try.prog 6 #[.pointer (some ⟨d, 0, none⟩), .string x] w fun e w' => ∃ own' l R c, e = .returned (.tuple #[.pointer (some ⟨l, 0, none⟩), .slice R 0 c, .int .i64 0]) ∧ LogAt w d own r2 l x 0 0 0 own' w' := by
  obtain ⟨W2, hW2, hB2, hs2, k0, k1⟩ := box2 w (.pointer (some ⟨d, 0, none⟩)) (.string x) 23 9
  obtain ⟨hh, hhe⟩ : ∃ hh, w.heap.size = hh := ⟨_, rfl⟩
  rw [hhe] at k0 k1 hs2
  have c0 := cell_of_one k0
  have c1 := cell_of_one k1
  unfold logOk at hok
  have h1 : nameOk x = true := (Bool.and_eq_true_iff.1 hok).1
  have h2 : nameOk (x ++ spareB) = true := (Bool.and_eq_true_iff.1 hok).2
  have HM := Lib.hid (mayName_any x (by omega))
  have HM2 := Lib.hid (mayName_any (x ++ spareB) (by rw [spare_size]; omega))
  rw [h1] at HM
  rw [h2] at HM2
  unfold spareB at HM2
  have H2 := H.below hB2
  have HO := Lib.hid H2.isOff
  rw [hon] at HO
  have HRD := Lib.hid (H2.read_no x hno)
  have HH := Lib.hid H
  have HB := Lib.hid hB2
  have HHE := Lib.hid hhe
  have HK0 := Lib.hid k0
  have HK1 := Lib.hid k1
  have HS2 := Lib.hid hs2
  clear hB2 hs2 k0 k1 hok h1 h2 H2 H hon hno
  go_enter Try.func6, Try.ntmps6
  go_wp2_with (first
    | (go_at_call 22; first | (with_reducible refine (HM.out _).mono ?_; rintro e w1 ⟨rfl, rfl⟩) | (with_reducible refine (HM2.out _).mono ?_; rintro e w1 ⟨rfl, rfl⟩))
    | (go_at_call 23; refine HO.out.mono ?_; rintro e w1 ⟨rfl, rfl⟩)
    | (go_at_call 15; refine HRD.out.mono ?_; rintro e w3 ⟨rfl, hb3⟩; have HP := Lib.hid (parse_any w3 none 0 0 [] (by omega) (by omega) (by omega) RowN.nil); rw [parse_nil] at HP; have HB3 := Lib.hid hb3; clear hb3 c0 c1))
  rw [show (allN []).length = 0 from rfl] at HP
  refine HP.out.mono ?_
  rintro e w4 ⟨R, c4, vs, rfl, _, _, _, hb4⟩
  have hB24 : Below W2.heap.size W2 w4 := HB3.out.trans (hb4.mono HB3.out.size)
  obtain ⟨W5, hW5⟩ : ∃ W5, w4.alloc (.cells #[.pointer (some ⟨d, 0, none⟩), .string x, .int .i64 0, .int .i64 0, .int .i64 0] 65) = W5 := ⟨_, rfl⟩
  obtain ⟨l, hl⟩ : ∃ l, w4.heap.size = l := ⟨_, rfl⟩
  have hB45 : Below w4.heap.size w4 W5 := by rw [← hW5]; exact (Below.refl _ w4).alloc (Nat.le_refl _) _
  have hbx : LBox W5 l (.pointer (some ⟨d, 0, none⟩)) (.string x) 0 (.int .i64 0) (.int .i64 0) := by rw [← hW5, ← hl]; exact heap_alloc_new w4 _
  have hs5 : W5.heap.size = l + 1 := by rw [← hW5, ← hl]; simp
  have hB25 : Below W2.heap.size W2 W5 := hB24.trans (hB45.mono hB24.size)
  have hlh : hh + 2 ≤ l := by have := hB24.size; have := HS2.out; omega
  obtain ⟨W6, hW6⟩ : ∃ W6, W5.drew.alloc (.cells #[.func (.func 26) #[] #[.pointer (some ⟨hh, 0, none⟩), .pointer (some ⟨hh + 1, 0, none⟩)], .func (.func 28) #[.pointer (some ⟨d, 0, none⟩)] #[]] 36) = W6 := ⟨_, rfl⟩
  have hB56 : Below W5.heap.size W5 W6 := by rw [← hW6]; exact (Below.refl _ W5).drew.alloc (Nat.le_refl _) _
  have hst : W6.heap[l + 1]? = some (.cells #[.func (.func 26) #[] #[.pointer (some ⟨hh, 0, none⟩), .pointer (some ⟨hh + 1, 0, none⟩)], .func (.func 28) #[.pointer (some ⟨d, 0, none⟩)] #[]] 36 (0, 0)) := by
    have := heap_alloc_new W5.drew (.cells #[.func (.func 26) #[] #[.pointer (some ⟨hh, 0, none⟩), .pointer (some ⟨hh + 1, 0, none⟩)], .func (.func 28) #[.pointer (some ⟨d, 0, none⟩)] #[]] 36 (0, 0))
    rw [hW6] at this
    rw [← hs5]
    exact this
  have hB26 : Below W2.heap.size W2 W6 := hB25.trans (hB56.mono hB25.size)
  have hB06 : Below w.heap.size w W6 := HB.out.trans (hB26.mono HB.out.size)
  have HOP : Hid (OpenAt w d own r l (l + 1) hh x (openFs d hh) own W6) := Lib.hid ⟨⟨⟨hB06.mono (Nat.zero_le _), fun _ _ => rfl, fun i hi _ => hB06.block i hi⟩, HH.out.below hB06, hbx.below hB56, HH.out.1 l (by have := HHE.out; omega), by have := HHE.out; omega⟩, ⟨HH.out.1 _ (by have := HHE.out; omega), HH.out.1 _ (by have := HHE.out; omega), HH.out.1 _ (by have := HHE.out; omega)⟩, ⟨_, hst⟩, (hB26.block hh (by have := HS2.out; omega)).trans HK0.out, (hB26.block (hh + 1) (by have := HS2.out; omega)).trans HK1.out, ⟨by omega, by omega, by omega⟩⟩
  have c40 := cell_of_one ((hB24.block hh (by have := HS2.out; omega)).trans HK0.out)
  have c41 := cell_of_one ((hB24.block (hh + 1) (by have := HS2.out; omega)).trans HK1.out)
  have c0 := cell_of_one ((hB25.block hh (by have := HS2.out; omega)).trans HK0.out)
  have HDO := Lib.hid (open_do 2 HOP.out hx hs hs1 hc hc2)
  clear hb4 hB24 hB45 hbx hB25 hlh hB56 hst hB26 hB06 HOP
  go_wp2_with fail
  go_region_with (go_at_call 25; with_reducible refine HDO.out.mono ?_; rintro e w7 ⟨rfl, own7, h7⟩; have HX := Lib.hid h7.log; clear h7)
  all_goals
    go_wp2
    go_ret3
    exact ⟨own7, l, R, c4, rfl, HX.out⟩
end Go.Proofs.Ytihlbbpnldgenaa
namespace Go.Proofs.Ytihlbbpnldgenaa
open Go.RowKit Go.Shelf
set_option linter.unusedVariables false
set_option maxRecDepth 100000

section
variable {w W W' : World} {d l : Nat} {own own' : Nat → Nat} {r r' : RD} {x : ByteArray} {b cnt siz : Int}
theorem LogAt.set {b' cnt' siz' : Int} (h : LogAt w d own r l x b cnt siz own' W) (i : Nat) (v : Value) (e : (#[.pointer (some ⟨d, 0, none⟩), .string x, .int .i64 b, .int .i64 cnt, .int .i64 siz] : Array Value).setIfInBounds i v = #[.pointer (some ⟨d, 0, none⟩), .string x, .int .i64 b', .int .i64 cnt', .int .i64 siz']) :
    LogAt w d own r l x b' cnt' siz' own' (W.setCell ⟨l, i, none⟩ v) := by
  have hc : Chg [l] W (W.setCell ⟨l, i, none⟩ v) := (Chg.refl _ W).setCell l i _ (.inl (by simp))
  have hz := h.only.1.size
  have hn := h.new
  refine ⟨⟨h.only.1.trans hc.below, h.only.2.1, fun j hj h0 => (hc.same j (by omega) (fun hm => by rw [List.mem_singleton] at hm; omega)).trans (h.only.2.2 j hj h0)⟩, h.disk.chg hc (fun j hj => by rw [List.mem_singleton] at hj; rw [hj]; exact h.free), ?_, h.free, h.new⟩
  unfold LBox
  rw [heap_setCell_same W l i _ _ _ h.box, e]
/-- All blocks of somebody else's stay, but for the log's box. -/
def Kept (l : Nat) (o1 : Nat → Nat) (W1 : World) (o2 : Nat → Nat) (W2 : World) : Prop := W1.heap.size ≤ W2.heap.size ∧ ∀ k, k < W1.heap.size → o1 k = 0 → k ≠ l → o2 k = 0 ∧ W2.heap[k]? = W1.heap[k]?
theorem Kept.refl (l : Nat) (o : Nat → Nat) (W : World) : Kept l o W o W := ⟨Nat.le_refl _, fun _ _ h _ => ⟨h, rfl⟩⟩
theorem Kept.trans {o1 o2 o3 : Nat → Nat} {W1 W2 W3 : World} (h : Kept l o1 W1 o2 W2) (h2 : Kept l o2 W2 o3 W3) : Kept l o1 W1 o3 W3 :=
  ⟨Nat.le_trans h.1 h2.1, fun k hk h0 hl => by
    have a := h.2 k hk h0 hl
    have b := h2.2 k (Nat.lt_of_lt_of_le hk h.1) a.1 hl
    exact ⟨b.1, b.2.trans a.2⟩⟩
theorem Kept.of_below (l : Nat) (o : Nat → Nat) (hb : Below W.heap.size W W') : Kept l o W o W' := ⟨hb.size, fun k hk h0 _ => ⟨h0, hb.block k hk⟩⟩
theorem Kept.of_set (l i : Nat) (v : Value) (o : Nat → Nat) (W : World) : Kept l o W o (W.setCell ⟨l, i, none⟩ v) := by
  have hc : Chg [l] W (W.setCell ⟨l, i, none⟩ v) := (Chg.refl _ W).setCell l i _ (.inl (by simp))
  exact ⟨hc.size, fun k hk h0 hl => ⟨h0, hc.same k hk (by rw [List.mem_singleton]; exact hl)⟩⟩
theorem Kept.of_only (l : Nat) {o o' : Nat → Nat} (hO : Only o W o' W') : Kept l o W o' W' := ⟨hO.1.size, fun k hk h0 _ => ⟨(hO.2.1 k hk).trans h0, hO.2.2 k hk h0⟩⟩
/-- Bytes in a new block, behind a call that only makes: what Append wants. -/
theorem LogAt.append (h : LogAt w d own r l x b cnt siz own' W) (hx : x.size ≤ 900000) (hs : r.size + 4 ≤ 80000) (g n c : Nat) (zs : List Nat) (hn : n ≤ 70000) (hf : BLine W (some ⟨g, 0, none⟩) n c zs) (hg : own' g = 0) (a : Int) (hp : r.append x (cellsZ (asZ zs)) = (a, r')) :
    Calls Try.prog 30 #[.pointer (some ⟨d, 0, none⟩), .string x, .slice (some ⟨g, 0, none⟩) n c] W fun e w' => e = .returned (.int .i64 a) ∧ ∃ own'', LogAt w d own r' l x b cnt siz own'' w' ∧ Kept l own' W own'' w' := by
  have hr := hf.row
  have hod := h.disk.od
  refine (h.disk.append hs x (by omega) (some ⟨g, 0, none⟩) n c (by omega) (cellsZ (asZ zs)) (by rw [cellsZ_length]; exact hr.1) (bytes_cellsZ hr.2.1) (fun V hc => ?_)).mono fun e w' hh => ?_
  · exact (RowZ.chg hr hc (fun k hk ad e he => by rw [List.mem_singleton] at hk; cases e; rw [hk] at he; rw [← he] at hod; exact hod hg)).toSrc c
  · rw [hp] at hh
    obtain ⟨own'', O, _⟩ := hh.2
    obtain ⟨own3, q1, q2⟩ := h.next hh.2
    have hz : W.heap.size ≤ w'.heap.size := O.1.size
    exact ⟨hh.1, own3, q1, hz, fun k hk h0 _ => q2 k hk h0⟩
end
set_option maxHeartbeats 3200000 in
theorem ladd_any (w W : World) (d l : Nat) (own own' : Nat → Nat) (r r' : RD) (x : ByteArray) (cnt siz : Int) (h : LogAt w d own r l x 0 cnt siz own' W) (hx : x.size ≤ 900000) (hs : r.size + 4 ≤ 80000) (A : Option Addr) (n cap : Nat) (zs : List Nat) (hR : RowN W A n zs) (hn : n ≤ 65536)
    (hcnt : 0 ≤ cnt ∧ cnt ≤ 1000000000) (hsiz : 0 ≤ siz ∧ siz ≤ 1000000000) (a : Int) (hp : r.append x (cellsZ (asZ (frameN zs))) = (a, r')) :
    Calls Try.prog 8 #[.pointer (some ⟨l, 0, none⟩), .slice A n cap] W fun e w' => e = .returned (.int .i64 a) ∧ ∃ own'', LogAt w d own r' l x (if a = 0 ∨ a = 2 ∨ a = 4 then 0 else a) (if a = 0 then cnt + 1 else cnt) (if a = 0 then siz + (n + 8) else siz) own'' w' ∧ Kept l own' W own'' w' := by
  have HBAD := Lib.hid (lbad_any h.box)
  have HFR := Lib.hid (frame_any A n cap zs hn W hR)
  have HH := Lib.hid h
  clear h hR
  obtain ⟨b', hb'⟩ : ∃ b' : Int, (if a = 0 ∨ a = 2 ∨ a = 4 then 0 else a) = b' := ⟨_, rfl⟩
  obtain ⟨cnt', hcnt'⟩ : ∃ z : Int, (if a = 0 then cnt + 1 else cnt) = z := ⟨_, rfl⟩
  obtain ⟨siz', hsiz'⟩ : ∃ z : Int, (if a = 0 then siz + (n + 8) else siz) = z := ⟨_, rfl⟩
  rw [hb', hcnt', hsiz']
  have HAPP : Hid (∀ (w2 : World) (g c : Nat), Below W.heap.size W w2 → W.heap.size ≤ g → BLine w2 (some ⟨g, 0, none⟩) (n + 8) c (frameN zs) → LBox w2 l (.pointer (some ⟨d, 0, none⟩)) (.string x) 0 (.int .i64 cnt) (.int .i64 siz) ∧ Calls Try.prog 30 #[.pointer (some ⟨d, 0, none⟩), .string x, .slice (some ⟨g, 0, none⟩) (n + 8) c] w2 fun e w' => e = .returned (.int .i64 a) ∧ ∃ own'', LogAt w d own r' l x 0 cnt siz own'' w' ∧ Kept l own' W own'' w') := Lib.hid (fun w2 g c hb hg hf => by
    have h2 := HH.out.below hb
    refine ⟨h2.box, (h2.append hx hs g (n + 8) c (frameN zs) (by omega) hf (HH.out.disk.1 g hg) a hp).mono fun e w' hh => ⟨hh.1, ?_⟩⟩
    obtain ⟨own'', q, q2⟩ := hh.2
    exact ⟨own'', q, (Kept.of_below l own' hb).trans q2⟩)
  obtain ⟨hc0, hc1⟩ := hcnt
  obtain ⟨hz0, hz1⟩ := hsiz
  by_cases h0 : a = 0
  · subst h0
    rw [if_pos (.inl rfl)] at hb'
    rw [if_pos rfl] at hcnt' hsiz'
    subst hb' hcnt' hsiz'
    go_enter Try.func8, Try.ntmps8
    go_wp2_with (first
      | (go_at_call 19; refine HBAD.out.mono ?_; rintro e w1 ⟨rfl, rfl⟩)
      | (go_at_call 29; refine HFR.out.mono ?_; rintro e w2 ⟨⟨g, c, rfl, hg, hf⟩, hb⟩; have HA2 := Lib.hid (HAPP.out w2.drew g c hb.drew hg (hf.below (Below.refl _ w2).drew)); have hbx := HH.out.box.below hb; have q0 := hbx.cell 0 _ rfl; have q1 := hbx.cell 1 _ rfl; clear hg hf hb hbx))
    go_region_with (go_at_call 30; refine HA2.out.2.mono ?_; rintro e w3 ⟨rfl, own3, h3, hk3⟩; have HL3 := Lib.hid h3; have HK3 := Lib.hid hk3; clear h3 hk3)
    all_goals
      clear q0 q1
      obtain ⟨W4, hW4⟩ : ∃ W4, w3.setCell ⟨l, 3, none⟩ (.int .i64 (cnt + 1)) = W4 := ⟨_, rfl⟩
      obtain ⟨W5, hW5⟩ : ∃ W5, W4.setCell ⟨l, 4, none⟩ (.int .i64 (siz + ((n : Int) + 8))) = W5 := ⟨_, rfl⟩
      have h4 : LogAt w d own r' l x 0 (cnt + 1) siz own3 W4 := by rw [← hW4]; exact HL3.out.set 3 _ rfl
      have h5 : LogAt w d own r' l x 0 (cnt + 1) (siz + ((n : Int) + 8)) own3 W5 := by rw [← hW5]; exact h4.set 4 _ rfl
      have y3 := HL3.out.box.cell 3 _ rfl
      have y3f := HL3.out.box.free 3
      have y4 := h4.box.cell 4 _ rfl
      have y4f := h4.box.free 4
      have H5 := Lib.hid h5
      have HK5 : Hid (Kept l own' W own3 W5) := Lib.hid (HK3.out.trans (by rw [← hW5, ← hW4]; exact (Kept.of_set l 3 _ own3 w3).trans (Kept.of_set l 4 _ own3 _)))
      clear h4 h5
      go_wp2
      go_ret
      exact ⟨rfl, own3, H5.out, HK5.out⟩
  · rw [if_neg h0] at hcnt' hsiz'
    subst hcnt' hsiz'
    by_cases h2 : a = 2
    · subst h2
      rw [if_pos (.inr (.inl rfl))] at hb'
      subst hb'
      go_enter Try.func8, Try.ntmps8
      go_wp2_with (first
        | (go_at_call 19; refine HBAD.out.mono ?_; rintro e w1 ⟨rfl, rfl⟩)
        | (go_at_call 29; refine HFR.out.mono ?_; rintro e w2 ⟨⟨g, c, rfl, hg, hf⟩, hb⟩; have HA2 := Lib.hid (HAPP.out w2.drew g c hb.drew hg (hf.below (Below.refl _ w2).drew)); have hbx := HH.out.box.below hb; have q0 := hbx.cell 0 _ rfl; have q1 := hbx.cell 1 _ rfl; clear hg hf hb hbx))
      go_region_with (go_at_call 30; refine HA2.out.2.mono ?_; rintro e w3 ⟨rfl, own3, h3, hk3⟩; have HL3 := Lib.hid h3; have HK3 := Lib.hid hk3; clear h3 hk3)
      all_goals
        clear q0 q1
        go_wp2
        go_ret
        exact ⟨rfl, own3, HL3.out, HK3.out⟩
    · by_cases h4 : a = 4
      · subst h4
        rw [if_pos (.inr (.inr rfl))] at hb'
        subst hb'
        go_enter Try.func8, Try.ntmps8
        go_wp2_with (first
          | (go_at_call 19; refine HBAD.out.mono ?_; rintro e w1 ⟨rfl, rfl⟩)
          | (go_at_call 29; refine HFR.out.mono ?_; rintro e w2 ⟨⟨g, c, rfl, hg, hf⟩, hb⟩; have HA2 := Lib.hid (HAPP.out w2.drew g c hb.drew hg (hf.below (Below.refl _ w2).drew)); have hbx := HH.out.box.below hb; have q0 := hbx.cell 0 _ rfl; have q1 := hbx.cell 1 _ rfl; clear hg hf hb hbx))
        go_region_with (go_at_call 30; refine HA2.out.2.mono ?_; rintro e w3 ⟨rfl, own3, h3, hk3⟩; have HL3 := Lib.hid h3; have HK3 := Lib.hid hk3; clear h3 hk3)
        all_goals
          clear q0 q1
          go_wp2
          go_ret
          exact ⟨rfl, own3, HL3.out, HK3.out⟩
      · rw [if_neg (by omega)] at hb'
        subst hb'
        go_enter Try.func8, Try.ntmps8
        go_wp2_with (first
          | (go_at_call 19; refine HBAD.out.mono ?_; rintro e w1 ⟨rfl, rfl⟩)
          | (go_at_call 29; refine HFR.out.mono ?_; rintro e w2 ⟨⟨g, c, rfl, hg, hf⟩, hb⟩; have HA2 := Lib.hid (HAPP.out w2.drew g c hb.drew hg (hf.below (Below.refl _ w2).drew)); have hbx := HH.out.box.below hb; have q0 := hbx.cell 0 _ rfl; have q1 := hbx.cell 1 _ rfl; clear hg hf hb hbx))
        go_region_with (go_at_call 30; refine HA2.out.2.mono ?_; rintro e w3 ⟨rfl, own3, h3, hk3⟩; have HL3 := Lib.hid h3; have HK3 := Lib.hid hk3; clear h3 hk3)
        all_goals
          clear q0 q1
          have y2 := HL3.out.box.cell 2 _ rfl
          have y2f := HL3.out.box.free 2
          have H5 := Lib.hid (HL3.out.bad a)
          go_wp2
          go_ret
          exact ⟨rfl, own3, H5.out, HK3.out.trans (Kept.of_set l 2 _ own3 w3)⟩
end Go.Proofs.Ytihlbbpnldgenaa
namespace Go.Proofs.Ytihlbbpnldgenaa
open Go.RowKit Go.Shelf
set_option linter.unusedVariables false
set_option maxRecDepth 100000

namespace RD
theorem size_powered (r : RD) : r.powered.size ≤ r.size + 1 := by
  unfold RD.size
  rw [r.powered_files, r.powered_sure, r.powered_chs]
  have := r.powered_calls
  omega
theorem size_create (r : RD) (x : ByteArray) : (r.create x).2.size ≤ r.size + 4 := by
  have h := r.size_powered
  unfold RD.create
  split
  · split
    · show r.powered.size ≤ _
      omega
    · unfold RD.size at *
      simp only [List.length_append, List.length_singleton]
      rw [r.powered_files, r.powered_chs] at h
      omega
  · show r.powered.size ≤ _
    omega
theorem size_append (r : RD) (x : ByteArray) (b : List Value) : (r.append x b).2.size ≤ r.size + 1 := by
  have h := r.size_powered
  unfold RD.append
  split
  · split
    · exact h
    · split
      · exact h
      · unfold RD.size at *
        rw [r.powered_files] at h
        simp only [List.length_set]
        exact h
  · exact h
/-- Frames one behind the other, till one goes wrong. -/
def writeL : RD → ByteArray → List (List Nat) → Int × RD
  | r, _, [] => (0, r)
  | r, x, f :: fs => if (r.append x (cellsZ (asZ f))).1 = 0 then writeL (r.append x (cellsZ (asZ f))).2 x fs else r.append x (cellsZ (asZ f))
def write (r : RD) (x : ByteArray) (fs : List (List Nat)) : Int × RD :=
  if (r.create x).1 = 0 then (if (writeL (r.create x).2 x fs).1 = 0 then (writeL (r.create x).2 x fs).2.sync x else writeL (r.create x).2 x fs) else r.create x
end RD
/-- Frames in memory, none of it the disk's. -/
def FrAt (W : World) (own : Nat → Nat) (A : Option Addr) (n : Nat) (fs : List (List Nat)) : Prop :=
  fs.length = n ∧ ∀ k f, fs[k]? = some f → ∃ g off b o c, A = some ⟨g, off, none⟩ ∧ g < W.heap.size ∧ own g = 0 ∧ W.cell? ⟨g, off + k, none⟩ = some (.slice (some ⟨b, o, none⟩) f.length c) ∧ RowN W (some ⟨b, o, none⟩) f.length f ∧ b < W.heap.size ∧ own b = 0
theorem FrAt.only {W W' : World} {own own' : Nat → Nat} {A : Option Addr} {n : Nat} {fs : List (List Nat)} (h : FrAt W own A n fs) (hO : Only own W own' W') : FrAt W' own' A n fs := by
  refine ⟨h.1, fun k f hk => ?_⟩
  obtain ⟨g, off, b, o, c, e, hg, h0, hc, hr, hb, hb0⟩ := h.2 k f hk
  have hz := hO.1.size
  exact ⟨g, off, b, o, c, e, by omega, (hO.2.1 g hg).trans h0, (World.cell?_of_block (w := W) (a := ⟨g, off + k, none⟩) (hO.2.2 g hg h0)).trans hc, RowZ.only hr hO (fun ad ea => by cases ea; exact hb0), by omega, (hO.2.1 b hb).trans hb0⟩
set_option maxHeartbeats 3200000 in
theorem write_any (W : World) (d : Nat) (own : Nat → Nat) (r : RD) (x : ByteArray) (H : IsD W d own r) (hx : x.size ≤ 900000) (A : Option Addr) (n cap : Nat) (fs : List (List Nat)) (hF : FrAt W own A n fs) (hn : n ≤ 1000) (hlen : ∀ f ∈ fs, f.length ≤ 70000) (hs : r.size + n + 12 ≤ 80000) :
    Calls Try.prog 52 #[.pointer (some ⟨d, 0, none⟩), .string x, .slice A n cap] W fun e w' => e = .returned (.int .i64 (r.write x fs).1) ∧ ∃ own', Only own W own' w' ∧ IsD w' d own' (r.write x fs).2 := by
  have HC := Lib.hid (H.create (by omega) x (by omega))
  obtain ⟨a, r1, hp⟩ : ∃ a r1, r.create x = (a, r1) := ⟨_, _, rfl⟩
  have hz1 : r1.size ≤ r.size + 4 := by have := r.size_create x; rw [hp] at this; exact this
  have hwr : r.write x fs = if a = 0 then (if (r1.writeL x fs).1 = 0 then (r1.writeL x fs).2.sync x else r1.writeL x fs) else (a, r1) := by unfold RD.write; rw [hp]
  rw [hp] at HC
  have HF := Lib.hid hF
  have HLEN := Lib.hid hlen
  obtain ⟨out, hout⟩ : ∃ out, r.write x fs = out := ⟨_, rfl⟩
  rw [hout]
  rw [hout] at hwr
  have hfn := hF.1
  clear hp hF hlen hout H
  by_cases h0 : a = 0
  · subst h0
    rw [if_pos rfl] at hwr
    have HWR := Lib.hid hwr
    clear hwr
    go_enter Try.func52, Try.ntmps52
    go_wp2_with (go_at_call 27; refine HC.out.mono ?_; rintro e w1 ⟨rfl, own1, hO1, hD1⟩; have HX1 := Lib.hid (And.intro hO1 hD1); clear hO1 hD1)
    go_loopw [19] (fun i wr => ∃ k : Nat, k ≤ n ∧ i = .int .i64 k ∧ ∃ own' r', Hid (Only own W own' wr ∧ IsD wr d own' r' ∧ r'.size ≤ r.size + 4 + k ∧ r1.writeL x fs = r'.writeL x (fs.drop k))) (fun i _ => n - (intOf i).toNat)
    case atStart => exact ⟨0, by omega, rfl, own1, r1, Lib.hid ⟨HX1.out.1, HX1.out.2, by omega, by rw [List.drop_zero]⟩⟩
    case round =>
      obtain ⟨k, hk, rfl, own', r', HI⟩ := hrel
      obtain ⟨hO, hD, hsz, hw⟩ := HI.out
      rcases Nat.lt_or_ge k n with hkn | hkn
      · obtain ⟨f, hf⟩ : ∃ f, fs[k]? = some f := ⟨_, List.getElem?_eq_getElem (by rw [hfn]; exact hkn)⟩
        obtain ⟨g, off, b, o, c, rfl, hg, hg0, hc, hr, hb, hb0⟩ := (HF.out.only hO).2 k f hf
        have hfl := HLEN.out f (List.mem_of_getElem? hf)
        obtain ⟨a2, r2, hp2⟩ : ∃ a2 r2, r'.append x (cellsZ (asZ f)) = (a2, r2) := ⟨_, _, rfl⟩
        have hz2 : r2.size ≤ r'.size + 1 := by have := r'.size_append x (cellsZ (asZ f)); rw [hp2] at this; exact this
        have hod := hD.od
        have hap : Calls Try.prog 30 #[.pointer (some ⟨d, 0, none⟩), .string x, .slice (some ⟨b, o, none⟩) f.length c] wr fun e w' => e = .returned (.int .i64 a2) ∧ DNext wr d own' r2 w' := by
          refine (hD.append (by omega) x (by omega) (some ⟨b, o, none⟩) f.length c (by omega) (cellsZ (asZ f)) (by rw [cellsZ_length]; exact hr.1) (bytes_cellsZ hr.2.1) (fun V hc => ?_)).mono fun e w' hh => ?_
          · exact (RowZ.chg hr hc (fun k hk ad e he => by rw [List.mem_singleton] at hk; cases e; rw [hk] at he; rw [← he] at hod; exact hod hb0)).toSrc c
          · rw [hp2] at hh; exact hh
        have hdrop : fs.drop k = f :: fs.drop (k + 1) := by
          obtain ⟨hk', e⟩ := List.getElem?_eq_some_iff.1 hf
          rw [List.drop_eq_getElem_cons hk', e]
        have hw2 : r1.writeL x fs = if a2 = 0 then r2.writeL x (fs.drop (k + 1)) else (a2, r2) := by
          rw [hw, hdrop]
          show (if (r'.append x (cellsZ (asZ f))).1 = 0 then RD.writeL (r'.append x (cellsZ (asZ f))).2 x (fs.drop (k + 1)) else r'.append x (cellsZ (asZ f))) = _
          rw [hp2]
        have HAP := Lib.hid hap
        have HO := Lib.hid hO
        obtain ⟨fl, hfle⟩ : ∃ fl, f.length = fl := ⟨_, rfl⟩
        rw [hfle] at hc HAP
        have hkn' : (k : Int) < (n : Int) := by omega
        have hk0 : (0 : Int) ≤ (k : Int) := by omega
        clear hf hg hg0 hr hb hb0 hfl hp2 hod hap hdrop hO hD hw hfle
        by_cases h2 : a2 = 0
        · subst h2
          rw [if_pos rfl] at hw2
          have HW2 := Lib.hid hw2
          clear hw2
          go_wp2_with (go_at_call 30; refine HAP.out.mono ?_; rintro e w2 ⟨rfl, own2, hO2, hD2⟩; have HX2 := Lib.hid (And.intro (HO.out.trans hO2) hD2); clear hO2 hD2)
          go_roundw
          case rel => exact ⟨k + 1, by omega, by go_num, own2, r2, Lib.hid ⟨HX2.out.1, HX2.out.2, by omega, HW2.out⟩⟩
          case measure => simp [intOf]; omega
        · rw [if_neg h2] at hw2
          have he : out = (a2, r2) := by rw [HWR.out, hw2, if_neg h2]
          have HE := Lib.hid he
          clear hw2 he
          go_wp2_with (go_at_call 30; refine HAP.out.mono ?_; rintro e w2 ⟨rfl, own2, hO2, hD2⟩; have HX2 := Lib.hid (And.intro (HO.out.trans hO2) hD2); clear hO2 hD2)
          go_ret
          rw [HE.out]
          exact ⟨rfl, own2, HX2.out⟩
      · obtain rfl : k = n := by omega
        have hd0 : r1.writeL x fs = (0, r') := by rw [hw, List.drop_of_length_le (by rw [hfn]; exact Nat.le_refl _)]; rfl
        have HSY := Lib.hid (hD.sync (by omega) x (by omega))
        have HO := Lib.hid hO
        obtain ⟨a3, r3, hp3⟩ : ∃ a3 r3, r'.sync x = (a3, r3) := ⟨_, _, rfl⟩
        rw [hp3] at HSY
        have he : out = (a3, r3) := by rw [HWR.out, hd0, if_pos rfl, hp3]
        have HE := Lib.hid he
        clear hd0 hO hD hw hp3 he
        go_wp2_with (go_at_call 34; refine HSY.out.mono ?_; rintro e w2 ⟨rfl, own2, hO2, hD2⟩; have HX2 := Lib.hid (And.intro (HO.out.trans hO2) hD2); clear hO2 hD2)
        go_ret
        rw [HE.out]
        exact ⟨rfl, own2, HX2.out⟩
  · have e : out = (a, r1) := by rw [hwr, if_neg h0]
    have HE := Lib.hid e
    clear e hwr
    go_enter Try.func52, Try.ntmps52
    go_wp2_with (go_at_call 27; refine HC.out.mono ?_; rintro e w1 ⟨rfl, own1, hO1, hD1⟩; have HX1 := Lib.hid (And.intro hO1 hD1); clear hO1 hD1)
    go_ret
    rw [HE.out]
    exact ⟨rfl, own1, HX1.out⟩
end Go.Proofs.Ytihlbbpnldgenaa
namespace Go.Proofs.Ytihlbbpnldgenaa
open Go.RowKit Go.Shelf
set_option linter.unusedVariables false
set_option maxRecDepth 100000

/-- A log in memory, and what stays since W0. -/
structure DoAt (w : World) (d : Nat) (own : Nat → Nat) (r : RD) (l : Nat) (x : ByteArray) (b cnt siz : Int) (o0 : Nat → Nat) (W0 : World) (own' : Nat → Nat) (W : World) : Prop where
  log : LogAt w d own r l x b cnt siz own' W
  keep : Kept l o0 W0 own' W
section
variable {w W W' W0 : World} {d l : Nat} {own own' o0 : Nat → Nat} {r r' r1 r2 : RD} {x : ByteArray} {b cnt siz : Int}
theorem DoAt.next (h : DoAt w d own r l x b cnt siz o0 W0 own' W) (hN : DNext W d own' r' W') : ∃ own'', DoAt w d own r' l x b cnt siz o0 W0 own'' W' := by
  obtain ⟨own'', g1, g2⟩ := h.log.next hN
  obtain ⟨own3, O, _⟩ := hN
  exact ⟨own'', g1, h.keep.trans ⟨O.1.size, fun k hk h0 _ => g2 k hk h0⟩⟩
theorem DoAt.bad (h : DoAt w d own r l x b cnt siz o0 W0 own' W) (a : Int) : DoAt w d own r l x a cnt siz o0 W0 own' (W.setCell ⟨l, 2, none⟩ (.int .i64 a)) := ⟨h.log.bad a, h.keep.trans (Kept.of_set l 2 _ own' W)⟩
theorem DoAt.block (h : DoAt w d own r l x b cnt siz o0 W0 own' W) (k : Nat) (o : Obj) (hk : W0.heap[k]? = some o) (h0 : o0 k = 0) (hl : k ≠ l) : W.heap[k]? = some o := (h.keep.2 k (Array.getElem?_eq_some_iff.1 hk).1 h0 hl).2.trans hk
theorem do2_any (sb sc : Nat) (T : TypeId) (g1 g2 : FuncId) (p1 c1 p2 c2 : Array Value) (a1 a2 : Int) (h : DoAt w d own r l x 0 cnt siz o0 W0 own' W) (hst : W0.heap[sb]? = some (.cells #[.func (.func g1) p1 c1, .func (.func g2) p2 c2] T (0, 0))) (hs0 : o0 sb = 0) (hsl : sb ≠ l) (e1 : Enters Try.prog g1) (e2 : Enters Try.prog g2)
    (h1 : ∀ own'' V, DoAt w d own r l x 0 cnt siz o0 W0 own'' V → Calls Try.prog g1 (p1 ++ c1) V fun e V' => e = .returned (.int .i64 a1) ∧ DNext V d own'' r1 V')
    (h2 : a1 = 0 → ∀ own'' V, DoAt w d own r1 l x 0 cnt siz o0 W0 own'' V → Calls Try.prog g2 (p2 ++ c2) V fun e V' => e = .returned (.int .i64 a2) ∧ DNext V d own'' r2 V')
    (hfin : a1 ≠ 0 → a2 = a1 ∧ r2 = r1) :
    Calls Try.prog 25 #[.pointer (some ⟨l, 0, none⟩), .slice (some ⟨sb, 0, none⟩) 2 sc] W fun e w' => e = .returned (.int .i64 a2) ∧ ∃ own'', DoAt w d own r2 l x a2 cnt siz o0 W0 own'' w' := by
  refine (do_any W l sb 0 sc 2 [.func (.func g1) p1 c1, .func (.func g2) p2 c2] rfl (by omega) (.pointer (some ⟨d, 0, none⟩)) (.string x) (.int .i64 cnt) (.int .i64 siz) 0 (fun k b V => b = (if k = 0 then 0 else if k = 1 then a1 else a2) ∧ ∃ own'', DoAt w d own (if k = 0 then r else if k = 1 then r1 else r2) l x b cnt siz o0 W0 own'' V) ?_ ⟨rfl, own', h⟩ ?_ ?_).mono ?_
  · rintro k b V ⟨_, own'', hV⟩
    refine ⟨hV.log.box, fun j v hj => ?_⟩
    rw [cell_of_row V sb (0 + j) _ _ (0, 0) (hV.block sb _ hst hs0 hsl), Nat.zero_add]
    simpa using hj
  · rintro k b V hb hk ⟨h0, own'', hV⟩
    rcases (by omega : k = 0 ∨ k = 1) with rfl | rfl
    · exact absurd h0 hb
    · rw [if_neg (by omega), if_pos rfl] at h0 hV
      have hf := hfin (by rw [← h0]; exact hb)
      show b = a2 ∧ ∃ own'', DoAt w d own r2 l x b cnt siz o0 W0 own'' V
      rw [hf.1, hf.2]
      exact ⟨h0, own'', hV⟩
  · rintro k V hk ⟨h0, own'', hV⟩
    rcases (by omega : k = 0 ∨ k = 1) with rfl | rfl
    · refine ⟨g1, _, _, rfl, e1, ?_⟩
      rw [if_pos rfl] at hV
      refine (h1 own'' V hV).mono ?_
      rintro e V' ⟨rfl, hN⟩
      obtain ⟨own3, hV'⟩ := hV.next hN
      exact ⟨a1, rfl, hV'.log.box, rfl, own3, hV'.bad a1⟩
    · refine ⟨g2, _, _, rfl, e2, ?_⟩
      rw [if_neg (by omega), if_pos rfl] at hV h0
      refine (h2 h0.symm own'' V hV).mono ?_
      rintro e V' ⟨rfl, hN⟩
      obtain ⟨own3, hV'⟩ := hV.next hN
      exact ⟨a2, rfl, hV'.log.box, rfl, own3, hV'.bad a2⟩
  · rintro e V ⟨b, rfl, hb, hV⟩
    have hb' : b = a2 := hb
    subst hb'
    exact ⟨rfl, hV⟩
theorem do1_any (sb sc : Nat) (T : TypeId) (g1 : FuncId) (p1 c1 : Array Value) (a1 : Int) (h : DoAt w d own r l x 0 cnt siz o0 W0 own' W) (hst : W0.heap[sb]? = some (.cells #[.func (.func g1) p1 c1] T (0, 0))) (hs0 : o0 sb = 0) (hsl : sb ≠ l) (e1 : Enters Try.prog g1)
    (h1 : ∀ own'' V, DoAt w d own r l x 0 cnt siz o0 W0 own'' V → Calls Try.prog g1 (p1 ++ c1) V fun e V' => e = .returned (.int .i64 a1) ∧ DNext V d own'' r1 V') :
    Calls Try.prog 25 #[.pointer (some ⟨l, 0, none⟩), .slice (some ⟨sb, 0, none⟩) 1 sc] W fun e w' => e = .returned (.int .i64 a1) ∧ ∃ own'', DoAt w d own r1 l x a1 cnt siz o0 W0 own'' w' := by
  refine (do_any W l sb 0 sc 1 [.func (.func g1) p1 c1] rfl (by omega) (.pointer (some ⟨d, 0, none⟩)) (.string x) (.int .i64 cnt) (.int .i64 siz) 0 (fun k b V => b = (if k = 0 then 0 else a1) ∧ ∃ own'', DoAt w d own (if k = 0 then r else r1) l x b cnt siz o0 W0 own'' V) ?_ ⟨rfl, own', h⟩ ?_ ?_).mono ?_
  · rintro k b V ⟨_, own'', hV⟩
    refine ⟨hV.log.box, fun j v hj => ?_⟩
    rw [cell_of_row V sb (0 + j) _ _ (0, 0) (hV.block sb _ hst hs0 hsl), Nat.zero_add]
    simpa using hj
  · rintro k b V hb hk ⟨h0, own'', hV⟩
    obtain rfl : k = 0 := by omega
    exact absurd h0 hb
  · rintro k V hk ⟨h0, own'', hV⟩
    obtain rfl : k = 0 := by omega
    refine ⟨g1, _, _, rfl, e1, ?_⟩
    rw [if_pos rfl] at hV
    refine (h1 own'' V hV).mono ?_
    rintro e V' ⟨rfl, hN⟩
    obtain ⟨own3, hV'⟩ := hV.next hN
    exact ⟨a1, rfl, hV'.log.box, rfl, own3, hV'.bad a1⟩
  · rintro e V ⟨b, rfl, hb, hV⟩
    have hb' : b = a1 := hb
    subst hb'
    exact ⟨rfl, hV⟩
end
end Go.Proofs.Ytihlbbpnldgenaa
namespace Go.Proofs.Ytihlbbpnldgenaa
open Go.RowKit Go.Shelf
set_option linter.unusedVariables false
set_option maxRecDepth 100000

/-- Frames in a line are frames in memory, none of it the disk's. -/
theorem frAt_of {W : World} {own : Nat → Nat} {B n : Nat} {R : Option Addr} {c : Nat} {vs : List Value} {rs : List (List Nat)} (hl : SLine 1 W R n c vs) (hr : RecsAt W B (blk R) vs (rs.map frameN)) (hn : rs.length = n) (h0 : ∀ k, B ≤ k → own k = 0) (hR : ∀ k ∈ blk R, B ≤ k) : FrAt W own R n (rs.map frameN) := by
  refine ⟨by rw [List.length_map]; exact hn, fun k f hk => ?_⟩
  have hkn : k < n := by have := (List.getElem?_eq_some_iff.1 hk).1; rw [List.length_map] at this; omega
  obtain ⟨g, off, e, hg, hc, _⟩ := hl.at (by omega)
  have hlv : vs.length = n := by have := hl.1; omega
  obtain ⟨v, hv⟩ : ∃ v, vs[k]? = some v := ⟨_, List.getElem?_eq_getElem (by omega)⟩
  obtain ⟨A, c', e2, hb, hk2⟩ := hr.2 k v f hv hk
  have hf8 : 0 < f.length := by
    obtain ⟨r, _, rfl⟩ := List.mem_map.1 (List.mem_of_getElem? hk)
    rw [frameN_length]; omega
  obtain ⟨b, o, e3, hb1, _⟩ := hb.row.cells hf8
  subst e3
  have hbk : B ≤ b := (hk2 b (mem_blk.2 ⟨_, rfl, rfl⟩)).1
  refine ⟨g, off, b, o, c', e, hg, h0 g (hR g (mem_blk.2 ⟨_, e, rfl⟩)), ?_, hb.row, hb1, h0 b hbk⟩
  rw [hc k (by omega), hv, e2]
theorem allN_take (rs : List (List Nat)) (k : Nat) : (allN (rs.take k)).length ≤ (allN rs).length := by
  have e : allN rs = allN (rs.take k) ++ allN (rs.drop k) := by rw [← allN_append, List.take_append_drop]
  rw [e, List.length_append]
  omega
set_option maxHeartbeats 6400000 in
theorem lreset_any (w W : World) (d l : Nat) (own own' : Nat → Nat) (r r2 : RD) (x : ByteArray) (cnt siz : Int) (h : LogAt w d own r l x 0 cnt siz own' W) (A : Option Addr) (n cap : Nat) (rs : List (List Nat)) (hR : Recs W A n rs) (hn : n ≤ 1000) (hrs : ∀ q ∈ rs, q.length ≤ 65536) (htot : (allN rs).length ≤ 1000000) (a2 b2 : Int)
    (hanew : ∀ W' A' c', LogAt w d own r l x 0 cnt siz own' W' → FrAt W' own' A' n (rs.map frameN) → Calls Try.prog 32 #[.pointer (some ⟨l, 0, none⟩), .slice A' n c'] W' fun e w' => e = .returned (.int .i64 a2) ∧ ∃ own'', LogAt w d own r2 l x b2 cnt siz own'' w' ∧ Kept l own' W' own'' w') :
    Calls Try.prog 13 #[.pointer (some ⟨l, 0, none⟩), .slice A n cap] W fun e w' => e = .returned (.int .i64 a2) ∧ ∃ own'', LogAt w d own r2 l x b2 (if a2 = 0 then (n : Int) else cnt) (if a2 = 0 then ((allN rs).length : Int) else siz) own'' w' ∧ Kept l own' W own'' w' := by
  have HBAD := Lib.hid (lbad_any h.box)
  have hrl : rs.length = n := hR.len
  have HR := Lib.hid hR
  have HH := Lib.hid h
  have HA := Lib.hid hanew
  have HRS := Lib.hid hrs
  have HRL := Lib.hid hrl
  clear hR h hanew hrs hrl
  go_enter Try.func13, Try.ntmps13
  go_wp2_with (go_at_call 19; refine HBAD.out.mono ?_; rintro e w1 ⟨rfl, rfl⟩)
  go_loopw [6, 7, 20] (fun v z i wr => ∃ (k : Nat) (R : Option Addr) (c S : Nat) (vs : List Value), k ≤ n ∧ i = .int .i64 k ∧ v = .slice R k c ∧ z = .int .i64 S ∧ S ≤ 1000000 ∧ Hid (S = (allN (rs.take k)).length ∧ SLine 1 wr R k c vs ∧ RecsAt wr W.heap.size (blk R) vs ((rs.take k).map frameN) ∧ (∀ j ∈ blk R, W.heap.size ≤ j) ∧ Below W.heap.size W wr)) (fun _ _ i _ => n - (intOf i).toNat)
  case atStart => exact ⟨0, none, 0, 0, [], by omega, rfl, rfl, rfl, by omega, Lib.hid ⟨rfl, SLine.nil 1 _, RecsAt.nil _ _ _, fun j hj => (by cases hj), Below.refl _ _⟩⟩
  case round =>
    obtain ⟨k, R, c, S, vs, hk, rfl, rfl, rfl, hS, HI⟩ := hrel
    have hk0 : (0 : Int) ≤ (k : Int) := by omega
    rcases Nat.lt_or_ge k n with hkn | hkn
    · have hkn' : (k : Int) < (n : Int) := by omega
      obtain ⟨g, off, q, A', c', rfl, hg, hq, hc, hqc, hrow⟩ := HR.out.at hkn
      have hql := HRS.out q (List.mem_of_getElem? hq)
      have hck : wr.cell? ⟨g, off + k, none⟩ = some (.slice A' q.length c') := (HI.out.2.2.2.2.cell (p := ⟨g, off + k, none⟩) hg).trans hc
      have htake : rs.take (k + 1) = rs.take k ++ [q] := by rw [List.take_add_one, hq]; rfl
      have hS2 : S + (q.length + 8) = (allN (rs.take (k + 1))).length := by rw [htake, allN_snoc, List.length_append, frameN_length, HI.out.1]
      have hS3 : S + (q.length + 8) ≤ 1000000 := by rw [hS2]; have := allN_take rs (k + 1); omega
      have HFR := Lib.hid (frame_any A' q.length c' q hql wr (hrow.below HI.out.2.2.2.2))
      have HTK := Lib.hid (And.intro htake hS2)
      obtain ⟨m, hm⟩ : ∃ m, q.length = m := ⟨_, rfl⟩
      have HM := Lib.hid hm
      rw [hm] at hck HFR hS3
      clear hg hq hc hqc hrow hql htake hS2 hm
      go_wp2_with (first | (at_builtin; refine Lib.wpList_append_run _ rfl _ _ _ _ rfl _ _ rfl rfl _ _ HR3.out ?_) | (go_at_call 29; refine HFR.out.mono ?_; rintro e w2 ⟨⟨fb, fc, rfl, hfb, hfl⟩, hb2⟩; obtain ⟨R', c2, w3, hr3, hl3, hc3, hf3⟩ := recs_push w2 22 R k c vs (HI.out.2.1.below hb2) (by omega) (some ⟨fb, 0, none⟩) (m + 8) fc; have HR3 := Lib.hid hr3; have HX := Lib.hid (And.intro hfb (And.intro hfl (And.intro hb2 (And.intro hl3 (And.intro hc3 hf3))))); clear hfb hfl hb2 hr3 hl3 hc3 hf3))
      have HNEW : Hid (S + (m + 8) = (allN (rs.take (k + 1))).length ∧ SLine 1 w3 R' (k + 1) c2 (vs ++ [.slice (some ⟨fb, 0, none⟩) (m + 8) fc]) ∧ RecsAt w3 W.heap.size (blk R') (vs ++ [.slice (some ⟨fb, 0, none⟩) (m + 8) fc]) ((rs.take (k + 1)).map frameN) ∧ (∀ j ∈ blk R', W.heap.size ≤ j) ∧ Below W.heap.size W w3) := Lib.hid (by
        obtain ⟨_, i1, i2, i3, i4⟩ := HI.out
        obtain ⟨x1, x2, x3, x4, x5, x6⟩ := HX.out
        have hz := i4.size
        have hz2 := x3.size
        refine ⟨by rw [← HM.out]; exact HTK.out.2, x4, ?_, fun j hj => ?_, (i4.trans (x3.mono hz)).trans (x5.toBelow (fun j hj => i3 j hj) (by omega))⟩
        · have r1 : RecsAt w2 W.heap.size (blk R) vs ((rs.take k).map frameN) := i2.chg (M := []) (Chg.of_below x3) (fun j hj => by cases hj) (fun j hj => .inl hj)
          have hfl : (frameN q).length = m + 8 := by rw [frameN_length, HM.out]
          have r2 := r1.snoc (A := some ⟨fb, 0, none⟩) (c := fc) (r := frameN q) (by rw [hfl]; exact x2) (fun j hj => by
            obtain ⟨ad, ea, hb⟩ := mem_blk.1 hj
            cases ea
            rw [← hb]
            exact ⟨by show W.heap.size ≤ fb; omega, fun hm => by have := i1.lt _ hm; have h9 : wr.heap.size ≤ fb := x1; simp only at this; omega⟩)
          rw [hfl] at r2
          rw [HTK.out.1, List.map_append]
          exact r2.chg x5 (fun j hj => .inl hj) (fun j hj => x6 j hj)
        · rcases x6 j hj with e | e
          · exact i3 j e
          · omega)
      clear HR3
      go_roundw
      case rel => exact ⟨k + 1, R', c2, S + (m + 8), _, by omega, by go_num, rfl, by go_num, by omega, HNEW⟩
      case measure => simp [intOf]; omega
    · obtain rfl : k = n := by omega
      have hL := HH.out.below HI.out.2.2.2.2
      have hFr : FrAt wr own' R k (rs.map frameN) := by
        obtain ⟨_, i1, i2, i3, i4⟩ := HI.out
        rw [List.take_of_length_le (by rw [HRL.out]; exact Nat.le_refl _)] at i2
        exact frAt_of i1 i2 HRL.out (fun j hj => HH.out.disk.1 j hj) i3
      have HAN := Lib.hid (HA.out wr R c hL hFr)
      have hSe : S = (allN rs).length := by have := HI.out.1; rw [List.take_of_length_le (by rw [HRL.out]; exact Nat.le_refl _)] at this; exact this
      have HKB : Hid (Kept l own' W own' wr) := Lib.hid (Kept.of_below l own' HI.out.2.2.2.2)
      have HSE := Lib.hid hSe
      clear hL hFr hSe
      by_cases h0 : a2 = 0
      · subst h0
        go_wp2_with (go_at_call 32; refine HAN.out.mono ?_; rintro e w4 ⟨rfl, own4, h4, hk4⟩; have HX4 := Lib.hid (And.intro h4 hk4); have y3f := h4.box.free 3; have z3 := h4.box.cell 3 _ rfl; obtain ⟨W5, hW5⟩ : ∃ W5, w4.setCell ⟨l, 3, none⟩ (.int .i64 (k : Int)) = W5 := ⟨_, rfl⟩; have h5 : LogAt w d own r2 l x b2 k siz own4 W5 := (by rw [← hW5]; exact h4.set 3 _ rfl); have y4f := h5.box.free 4; have z4 := h5.box.cell 4 _ rfl; have H5 := Lib.hid h5; clear h4 hk4 h5)
        go_ret
        rw [← HSE.out]
        have hk5 : Kept l own4 w4 own4 W5 := by rw [← hW5]; exact Kept.of_set l 3 _ own4 w4
        exact ⟨rfl, own4, H5.out.set 4 _ rfl, ((HKB.out.trans HX4.out.2).trans hk5).trans (Kept.of_set l 4 _ own4 W5)⟩
      · go_wp2_with (go_at_call 32; refine HAN.out.mono ?_; rintro e w4 ⟨rfl, own4, h4, hk4⟩; have HX4 := Lib.hid (And.intro h4 hk4); clear h4 hk4)
        go_ret
        exact ⟨rfl, own4, HX4.out.1, HKB.out.trans HX4.out.2⟩
end Go.Proofs.Ytihlbbpnldgenaa
namespace Go.Proofs.Ytihlbbpnldgenaa
open Go.RowKit Go.Shelf
set_option linter.unusedVariables false
set_option maxRecDepth 100000

theorem anew1_enters : Enters Try.prog 53 := enters_of Try.func53 (by kernel_rfl) rfl
theorem anew2_enters : Enters Try.prog 55 := enters_of Try.func55 (by kernel_rfl) rfl
theorem sync1_enters : Enters Try.prog 33 := enters_of Try.func33 (by kernel_rfl) rfl
section
variable (W : World) (p q l d : Nat) (x y : ByteArray) (dv xv c s : Value) (b : Int)
set_option maxHeartbeats 3200000 in
theorem anew1_any (K : Ending → World → Prop) (a : Int) (k0 : W.cell? ⟨p, 0, none⟩ = some (.pointer (some ⟨l, 0, none⟩))) (k1 : W.cell? ⟨q, 0, none⟩ = some (.string y)) (hb : LBox W l (.pointer (some ⟨d, 0, none⟩)) (.string x) b c s)
    (h : Calls Try.prog 54 #[.pointer (some ⟨d, 0, none⟩), .string y, .string x] W.drew fun e w' => e = .returned (.int .i64 a) ∧ K e w') :
    Calls Try.prog 53 #[.pointer (some ⟨p, 0, none⟩), .pointer (some ⟨q, 0, none⟩)] W fun e w' => e = .returned (.int .i64 a) ∧ K e w' := by
  have HC := Lib.hid h
  have y0 := hb.cell 0 _ rfl
  have y1 := hb.cell 1 _ rfl
  clear h hb
  go_enter Try.func53, Try.ntmps53
  go_wp2_with fail
  go_region_with (go_at_call 54; refine HC.out.mono ?_; rintro e w1 ⟨rfl, hK⟩; have HK := Lib.hid hK; clear hK)
  all_goals
    go_wp2
    go_ret
    exact ⟨rfl, HK.out⟩
set_option maxHeartbeats 3200000 in
theorem anew2_any (K : Ending → World → Prop) (a : Int) (k0 : W.cell? ⟨p, 0, none⟩ = some (.pointer (some ⟨l, 0, none⟩))) (k1 : W.cell? ⟨q, 0, none⟩ = some (.string y)) (hb : LBox W l (.pointer (some ⟨d, 0, none⟩)) (.string x) b c s)
    (h : Calls Try.prog 56 #[.pointer (some ⟨d, 0, none⟩), .string y] W.drew fun e w' => e = .returned (.int .i64 a) ∧ K e w') :
    Calls Try.prog 55 #[.pointer (some ⟨p, 0, none⟩), .pointer (some ⟨q, 0, none⟩)] W fun e w' => e = .returned (.int .i64 a) ∧ K e w' := by
  have HC := Lib.hid h
  have y0 := hb.cell 0 _ rfl
  have y1 := hb.cell 1 _ rfl
  clear h hb
  go_enter Try.func55, Try.ntmps55
  go_wp2_with fail
  go_region_with (go_at_call 56; refine HC.out.mono ?_; rintro e w1 ⟨rfl, hK⟩; have HK := Lib.hid hK; clear hK)
  all_goals
    go_wp2
    go_ret
    exact ⟨rfl, HK.out⟩
set_option maxHeartbeats 3200000 in
theorem sync1_any (K : Ending → World → Prop) (a : Int) (k0 : W.cell? ⟨p, 0, none⟩ = some (.pointer (some ⟨l, 0, none⟩))) (hb : LBox W l (.pointer (some ⟨d, 0, none⟩)) (.string x) b c s)
    (h : Calls Try.prog 34 #[.pointer (some ⟨d, 0, none⟩), .string x] W.drew fun e w' => e = .returned (.int .i64 a) ∧ K e w') :
    Calls Try.prog 33 #[.pointer (some ⟨p, 0, none⟩)] W fun e w' => e = .returned (.int .i64 a) ∧ K e w' := by
  have HC := Lib.hid h
  have y0 := hb.cell 0 _ rfl
  have y1 := hb.cell 1 _ rfl
  clear h hb
  go_enter Try.func33, Try.ntmps33
  go_wp2_with fail
  go_region_with (go_at_call 34; refine HC.out.mono ?_; rintro e w1 ⟨rfl, hK⟩; have HK := Lib.hid hK; clear hK)
  all_goals
    go_wp2
    go_ret
    exact ⟨rfl, HK.out⟩
end
end Go.Proofs.Ytihlbbpnldgenaa
