/-
  A disk behind calls, in a world that has gone on from w0: what was there at w0 is as it was. Bytes that came in.
-/
import Derived.Test.YtdjnebgjdekmaaaGreatDoorZbe
import Derived.Test.YtdjnebgjdekmaaaGreatDoorZah
namespace Go.Proofs.YtdjnebgjdekmaaaGreatDoor
open Go.RowKit Go.Maps
set_option linter.unusedVariables false
set_option maxRecDepth 100000

/-- A disk in a world that has gone on from w0, where it was not yet. -/
def DF (w0 W : World) (d : Nat) (own : Nat → Nat) (r : RD) : Prop := (∀ i, i < w0.heap.size → own i = 0) ∧ Below w0.heap.size w0 W ∧ IsD W d own r
section
variable {w0 W W' : World} {d : Nat} {own own' : Nat → Nat} {r r' : RD} {x y : ByteArray} {a : Int}
theorem DF.next (h : DF w0 W d own r) (hN : DNext W d own r' W') : ∃ own', Only own W own' W' ∧ DF w0 W' d own' r' := by
  obtain ⟨own', O, H⟩ := hN
  have hz := h.2.1.size
  refine ⟨own', O, fun i hi => (O.2.1 i (by omega)).trans (h.1 i hi), h.2.1.trans (O.toBelow h.1 hz), H⟩
theorem DF.below (h : DF w0 W d own r) (hB : Below W.heap.size W W') : DF w0 W' d own r := ⟨h.1, h.2.1.trans (hB.mono h.2.1.size), h.2.2.below hB⟩
theorem DF.create (h : DF w0 W d own r) (hp : r.create x = (a, r')) (hs : r.size + 4 ≤ 80000) (hsz : x.size ≤ 1000000) :
    Calls Tryz.prog 20 #[.pointer (some ⟨d, 0, none⟩), .string x] W fun e w' => e = .returned (.int .i64 a) ∧ ∃ own', Only own W own' w' ∧ DF w0 w' d own' r' :=
  (h.2.2.create hs x hsz).mono fun e w' hh => by rw [hp] at hh; exact ⟨hh.1, h.next hh.2⟩
theorem DF.sync (h : DF w0 W d own r) (hp : r.sync x = (a, r')) (hs : r.size + 4 ≤ 80000) (hsz : x.size ≤ 1000000) :
    Calls Tryz.prog 65 #[.pointer (some ⟨d, 0, none⟩), .string x] W fun e w' => e = .returned (.int .i64 a) ∧ ∃ own', Only own W own' w' ∧ DF w0 w' d own' r' :=
  (h.2.2.sync hs x hsz).mono fun e w' hh => by rw [hp] at hh; exact ⟨hh.1, h.next hh.2⟩
theorem DF.syncDir (h : DF w0 W d own r) (hp : r.syncDir = (a, r')) (hs : r.size + 4 ≤ 80000) :
    Calls Tryz.prog 31 #[.pointer (some ⟨d, 0, none⟩)] W fun e w' => e = .returned (.int .i64 a) ∧ ∃ own', Only own W own' w' ∧ DF w0 w' d own' r' :=
  (h.2.2.syncDir hs).mono fun e w' hh => by rw [hp] at hh; exact ⟨hh.1, h.next hh.2⟩
theorem DF.rename (h : DF w0 W d own r) (hp : r.rename x y = (a, r')) (hs : r.size + 4 ≤ 80000) (hsz : x.size ≤ 1000000) (hsz2 : y.size ≤ 1000000) :
    Calls Tryz.prog 67 #[.pointer (some ⟨d, 0, none⟩), .string x, .string y] W fun e w' => e = .returned (.int .i64 a) ∧ ∃ own', Only own W own' w' ∧ DF w0 w' d own' r' :=
  (h.2.2.rename hs x y hsz hsz2).mono fun e w' hh => by rw [hp] at hh; exact ⟨hh.1, h.next hh.2⟩
theorem DF.remove (h : DF w0 W d own r) (hp : r.remove x = (a, r')) (hs : r.size + 4 ≤ 80000) (hsz : x.size ≤ 1000000) :
    Calls Tryz.prog 30 #[.pointer (some ⟨d, 0, none⟩), .string x] W fun e w' => e = .returned (.int .i64 a) ∧ ∃ own', Only own W own' w' ∧ DF w0 w' d own' r' :=
  (h.2.2.remove hs x hsz).mono fun e w' hh => by rw [hp] at hh; exact ⟨hh.1, h.next hh.2⟩
/-- A slice of bytes, to be appended. -/
theorem RowZ.toSrc {w : World} {A : Option Addr} {n : Nat} {zs : List Int} (h : RowZ w A n zs) (c : Nat) : Src Tryz.prog 1 40 (.slice A n c) n (cellsZ zs) w := by
  cases A with
  | none =>
    rcases Nat.eq_zero_or_pos n with h0 | h0
    · subst h0
      have e : zs = [] := List.eq_nil_of_length_eq_zero h.1
      subst e
      exact Src.ofNil w Tryz.underlying40 c
    · obtain ⟨_, _, e, _⟩ := h.2.2 h0
      cases e
  | some ad =>
    refine Src.ofSlice w Tryz.underlying40 ad n c _ ?_ (fun j u hj => ?_) (one_u8 zs)
    · unfold cellsZ
      rw [List.length_map, h.1, Nat.mul_one]
    · have hn : 0 < n := by
        have h1 := (List.getElem?_eq_some_iff.1 hj).1
        unfold cellsZ at h1
        rw [List.length_map, h.1] at h1
        omega
      obtain ⟨ad', e, hc⟩ := h.src hn
      cases e
      exact hc j u hj
theorem RowZ.chg {w w' : World} {A : Option Addr} {n : Nat} {zs : List Int} {l : List Nat} (h : RowZ w A n zs) (hc : Chg l w w') (hl : ∀ k ∈ l, ∀ ad, A = some ad → ad.block ≠ k) : RowZ w' A n zs := by
  refine ⟨h.1, h.2.1, fun hn => ?_⟩
  obtain ⟨b, off, e, hlt, hcc⟩ := h.2.2 hn
  have hb : w'.heap[b]? = w.heap[b]? := hc.same b hlt (fun hm => hl b hm _ e rfl)
  exact ⟨b, off, e, by have := hc.size; omega, fun i hi => (World.cell?_of_block (w := w) (a := ⟨b, off + i, none⟩) hb).trans (hcc i hi)⟩
theorem RowZ.only {w w' : World} {A : Option Addr} {n : Nat} {zs : List Int} {own own' : Nat → Nat} (h : RowZ w A n zs) (hO : Only own w own' w') (hl : ∀ ad, A = some ad → own ad.block = 0) : RowZ w' A n zs := by
  refine ⟨h.1, h.2.1, fun hn => ?_⟩
  obtain ⟨b, off, e, hlt, hcc⟩ := h.2.2 hn
  have hb : w'.heap[b]? = w.heap[b]? := hO.2.2 b hlt (hl _ e)
  exact ⟨b, off, e, by have := hO.1.size; omega, fun i hi => (World.cell?_of_block (w := w) (a := ⟨b, off + i, none⟩) hb).trans (hcc i hi)⟩
theorem bytes_cellsZ {zs : List Int} (h : ∀ z ∈ zs, 0 ≤ z ∧ z ≤ 255) : ∀ u ∈ cellsZ zs, ∃ z : Int, 0 ≤ z ∧ z < 256 ∧ u = .int .u8 z := fun u hu => by
  obtain ⟨z, hz, rfl⟩ := List.mem_map.1 hu
  have := h z hz
  exact ⟨z, by omega, by omega, rfl⟩
theorem cellsZ_length (zs : List Int) : (cellsZ zs).length = zs.length := by unfold cellsZ; rw [List.length_map]
/-- Bytes of somebody else's are appended. -/
theorem DF.append {A : Option Addr} {n c : Nat} {zs : List Int} (h : DF w0 W d own r) (hR : RowZ W A n zs) (hown : ∀ ad, A = some ad → own ad.block = 0) (hp : r.append x (cellsZ zs) = (a, r')) (hs : r.size + 4 ≤ 80000) (hsz : x.size ≤ 1000000) (hn : n ≤ 10000000) :
    Calls Tryz.prog 21 #[.pointer (some ⟨d, 0, none⟩), .string x, .slice A n c] W fun e w' => e = .returned (.int .i64 a) ∧ ∃ own', Only own W own' w' ∧ DF w0 w' d own' r' := by
  refine (h.2.2.append hs x hsz A n c hn (cellsZ zs) (by rw [cellsZ_length]; exact hR.1) (bytes_cellsZ hR.2.1) (fun V hc => ?_)).mono fun e w' hh => by rw [hp] at hh; exact ⟨hh.1, h.next hh.2⟩
  exact (hR.chg hc (fun k hk ad e he => by rw [List.mem_singleton] at hk; rw [hk] at he; have := h.2.2.od; rw [← he] at this; exact this (hown ad e))).toSrc c
/-- Bytes that were there at w0 are appended. -/
theorem DF.append0 {A : Option Addr} {n c : Nat} {zs : List Int} (h : DF w0 W d own r) (hR : RowZ w0 A n zs) (hp : r.append x (cellsZ zs) = (a, r')) (hs : r.size + 4 ≤ 80000) (hsz : x.size ≤ 1000000) (hn : n ≤ 10000000) :
    Calls Tryz.prog 21 #[.pointer (some ⟨d, 0, none⟩), .string x, .slice A n c] W fun e w' => e = .returned (.int .i64 a) ∧ ∃ own', Only own W own' w' ∧ DF w0 w' d own' r' := by
  rcases Nat.eq_zero_or_pos n with h0 | h0
  · subst h0
    have e : zs = [] := List.eq_nil_of_length_eq_zero hR.1
    subst e
    refine (h.2.2.append hs x hsz A 0 c (by omega) [] rfl (fun u hu => by cases hu) (fun V hc => ?_)).mono fun e w' hh => by rw [show ([] : List Value) = cellsZ [] from rfl, hp] at hh; exact ⟨hh.1, h.next hh.2⟩
    exact RowZ.toSrc (zs := []) ⟨rfl, fun z hz => (by cases hz), fun h0 => absurd h0 (Nat.lt_irrefl 0)⟩ c
  · refine h.append (hR.below h.2.1) (fun ad e => ?_) hp hs hsz hn
    obtain ⟨b, off, e', hlt, _⟩ := hR.2.2 h0
    rw [e'] at e
    cases e
    exact h.1 b hlt
theorem ZsAt.below {w w' : World} {A : Option Addr} {n : Nat} {zs : List Int} (h : ZsAt w A n zs) (hB : Below w.heap.size w w') : ZsAt w' A n zs := h.same hB.size (fun k _ hk => hB.block k hk)
end
end Go.Proofs.YtdjnebgjdekmaaaGreatDoor
