/-
  A log's Sync.
  anew: a file's frames laid anew, whole.
  anew, where there is no room: all is as it was.
  The document's disk through what a log does to it: one file, added to; laid anew.
-/
import Derived.Test.YtihlbbpnldgenaaZay
namespace Go.Proofs.Ytihlbbpnldgenaa
open Go.RowKit Go.Shelf
set_option linter.unusedVariables false
set_option maxRecDepth 100000

section
variable {w W W' : World} {d l : Nat} {own own' own'' : Nat → Nat} {r r' : RD} {x : ByteArray} {b cnt siz : Int}
theorem LogAt.go (h : LogAt w d own r l x b cnt siz own' W) (O : Only own' W own'' W') (H : IsD W' d own'' r') : LogAt w d own r' l x b cnt siz own'' W' :=
  ⟨h.only.trans O, H, (O.2.2 l h.box.lt h.free).trans h.box, (O.2.1 l h.box.lt).trans h.free, h.new⟩
theorem DNext.undrew (h : DNext W.drew d own r W') : DNext W d own r W' := by
  obtain ⟨own', O, H⟩ := h
  have hb : Below W.heap.size W W.drew := (Below.refl _ W).drew
  exact ⟨own', ⟨(hb.mono (Nat.zero_le _)).trans O.1, fun i hi => O.2.1 i hi, fun i hi h0 => O.2.2 i hi h0⟩, H⟩
end
set_option maxHeartbeats 3200000 in
theorem lsync_any (w W : World) (d l : Nat) (own own' : Nat → Nat) (r r1 : RD) (x : ByteArray) (cnt siz : Int) (h : LogAt w d own r l x 0 cnt siz own' W) (hx : x.size ≤ 900000) (hs : r.size + 4 ≤ 80000) (a : Int) (hp : r.sync x = (a, r1)) :
    Calls Try.prog 14 #[.pointer (some ⟨l, 0, none⟩)] W fun e w' => e = .returned (.int .i64 a) ∧ ∃ own'', LogAt w d own r1 l x a cnt siz own'' w' ∧ Kept l own' W own'' w' := by
  obtain ⟨hb, hhb⟩ : ∃ hb, W.heap.size = hb := ⟨_, rfl⟩
  have hl := h.box.lt
  obtain ⟨W1, hW1⟩ : ∃ W1, W.alloc (.cells #[.pointer (some ⟨l, 0, none⟩)] 25) = W1 := ⟨_, rfl⟩
  have hB1 : Below W.heap.size W W1 := by rw [← hW1]; exact (Below.refl _ W).alloc (Nat.le_refl _) _
  have hs1 : W1.heap.size = hb + 1 := by rw [← hW1, ← hhb]; simp
  have k0 : W1.heap[hb]? = some (.cells #[.pointer (some ⟨l, 0, none⟩)] 25 (0, 0)) := by rw [← hW1, ← hhb]; exact heap_alloc_new W _
  have y0 := cell_of_one k0
  have HBAD := Lib.hid (lbad_any (h.box.below hB1))
  obtain ⟨W2, hW2⟩ : ∃ W2, W1.alloc (.cells #[.func (.func 33) #[] #[.pointer (some ⟨hb, 0, none⟩)]] 36) = W2 := ⟨_, rfl⟩
  have hB2 : Below W1.heap.size W1 W2 := by rw [← hW2]; exact (Below.refl _ W1).alloc (Nat.le_refl _) _
  have k1 : W2.heap[hb + 1]? = some (.cells #[.func (.func 33) #[] #[.pointer (some ⟨hb, 0, none⟩)]] 36 (0, 0)) := by rw [← hW2, ← hs1]; exact heap_alloc_new W1 _
  have k2 : W2.heap[hb]? = some (.cells #[.pointer (some ⟨l, 0, none⟩)] 25 (0, 0)) := (hB2.block hb (by omega)).trans k0
  have hB02 := hB1.trans (hB2.mono hB1.size)
  have hz0 := h.disk.1 hb (by omega)
  have hz1 := h.disk.1 (hb + 1) (by omega)
  have hdo := do1_any (r1 := r1) (hb + 1) 1 36 33 #[] #[.pointer (some ⟨hb, 0, none⟩)] a (⟨h.below hB02, Kept.refl l own' W2⟩ : DoAt w d own r l x 0 cnt siz own' W2 own' W2) k1 hz1 (by omega) sync1_enters (fun own'' V hV => by
    rw [Array.empty_append]
    have hD : IsD V.drew d own'' r := hV.log.disk.below (Below.refl _ V).drew
    refine (sync1_any V hb l d x (.int .i64 cnt) (.int .i64 siz) 0 (fun _ V' => DNext V.drew d own'' r1 V') a (cell_of_one (hV.block hb _ k2 hz0 (by omega))) hV.log.box ?_).mono fun e V' hh => ⟨hh.1, hh.2.undrew⟩
    refine (hD.sync hs x (by omega)).mono fun e V' hh => ?_
    rw [hp] at hh
    exact hh)
  have HDO := Lib.hid hdo
  have HKB := Lib.hid (Kept.of_below l own' hB02)
  clear hB1 k0 hB2 k1 k2 hB02 hz0 hz1 hdo h hl
  go_enter Try.func14, Try.ntmps14
  go_wp2_with (first
    | (go_at_call 19; refine HBAD.out.mono ?_; rintro e w1 ⟨rfl, rfl⟩)
    | (go_at_call 25; refine HDO.out.mono ?_; rintro e w3 ⟨rfl, own3, h3⟩; have H3 := Lib.hid h3; clear h3))
  go_ret
  exact ⟨rfl, own3, H3.out.log, HKB.out.trans H3.out.keep⟩
end Go.Proofs.Ytihlbbpnldgenaa
namespace Go.Proofs.Ytihlbbpnldgenaa
open Go.RowKit Go.Shelf
set_option linter.unusedVariables false
set_option maxRecDepth 100000

theorem FrAt.below {W W' : World} {own : Nat → Nat} {A : Option Addr} {n : Nat} {fs : List (List Nat)} (h : FrAt W own A n fs) (hb : Below W.heap.size W W') : FrAt W' own A n fs :=
  h.only ⟨hb.mono (Nat.zero_le _), fun _ _ => rfl, fun i hi _ => hb.block i hi⟩
set_option maxHeartbeats 6400000 in
theorem anew_ok (w W : World) (d l : Nat) (own own' : Nat → Nat) (r : RD) (x : ByteArray) (cnt siz : Int) (h : LogAt w d own r l x 0 cnt siz own' W) (hx : x.size ≤ 800000) (A : Option Addr) (n cap : Nat) (fs : List (List Nat)) (hF : FrAt W own' A n fs) (hn : n ≤ 1000) (hlen : ∀ f ∈ fs, f.length ≤ 70000) (hs : r.size + n + 12 ≤ 80000)
    (qr r1 r2 : RD) (a1 a2 : Int) (hq : r.write (x ++ spareB) fs = (0, qr)) (hqs : qr.size + 4 ≤ 80000) (hp1 : qr.rename (x ++ spareB) x = (a1, r1)) (hs1 : r1.size + 4 ≤ 80000) (hp2 : a1 = 0 → r1.syncDir = (a2, r2)) (hfin : a1 ≠ 0 → a2 = a1 ∧ r2 = r1) :
    Calls Try.prog 32 #[.pointer (some ⟨l, 0, none⟩), .slice A n cap] W fun e w' => e = .returned (.int .i64 a2) ∧ ∃ own'', LogAt w d own r2 l x a2 cnt siz own'' w' ∧ Kept l own' W own'' w' := by
  obtain ⟨y, hy⟩ : ∃ y, x ++ spareB = y := ⟨_, rfl⟩
  have hysz : y.size ≤ 900000 := by rw [← hy, spare_size]; omega
  have hy' : x ++ (⟨#[46, 116, 109, 112]⟩ : ByteArray) = y := hy
  rw [hy] at hq hp1
  obtain ⟨hb, hhb⟩ : ∃ hb, W.heap.size = hb := ⟨_, rfl⟩
  have hl := h.box.lt
  obtain ⟨W1, hW1⟩ : ∃ W1, W.alloc (.cells #[.pointer (some ⟨l, 0, none⟩)] 85) = W1 := ⟨_, rfl⟩
  have hB1 : Below W.heap.size W W1 := by rw [← hW1]; exact (Below.refl _ W).alloc (Nat.le_refl _) _
  have hs1' : W1.heap.size = hb + 1 := by rw [← hW1, ← hhb]; simp
  have k0 : W1.heap[hb]? = some (.cells #[.pointer (some ⟨l, 0, none⟩)] 85 (0, 0)) := by rw [← hW1, ← hhb]; exact heap_alloc_new W _
  have y0 := cell_of_one k0
  have y1 := (h.box.below hB1).cell 1 _ rfl
  obtain ⟨W2, hW2⟩ : ∃ W2, W1.alloc (.cells #[.string ⟨#[]⟩] 9) = W2 := ⟨_, rfl⟩
  have hB2 : Below W1.heap.size W1 W2 := by rw [← hW2]; exact (Below.refl _ W1).alloc (Nat.le_refl _) _
  have hs2' : W2.heap.size = hb + 2 := by rw [← hW2]; simp [hs1']
  have k2 : W2.heap[hb + 1]? = some (.cells #[.string ⟨#[]⟩] 9 (0, 0)) := by rw [← hW2, ← hs1']; exact heap_alloc_new W1 _
  have y2 := cell_of_one k2
  have y2f := free_of_one k2
  obtain ⟨W3, hW3⟩ : ∃ W3, W2.setCell ⟨hb + 1, 0, none⟩ (.string y) = W3 := ⟨_, rfl⟩
  have hC3 : Chg [hb + 1] W2 W3 := by rw [← hW3]; exact (Chg.refl _ W2).setCell (hb + 1) 0 _ (.inl (by simp))
  have hB3 : Below W.heap.size W W3 := (hB1.trans (hB2.mono hB1.size)).trans (hC3.toBelow (fun k hk => by rw [List.mem_singleton] at hk; omega) (by omega))
  have hs3' : W3.heap.size = hb + 2 := by rw [← hW3]; simp [hs2']
  have k3 : W3.heap[hb + 1]? = some (.cells #[.string y] 9 (0, 0)) := by rw [← hW3]; exact one_setCell k2
  have k3b : W3.heap[hb]? = some (.cells #[.pointer (some ⟨l, 0, none⟩)] 85 (0, 0)) := (hC3.same hb (by omega) (by rw [List.mem_singleton]; omega)).trans ((hB2.block hb (by omega)).trans k0)
  have z0 := cell_of_one k3b
  have z1 := cell_of_one k3
  have z2 := (h.box.below hB3).cell 0 _ rfl
  have h3 : LogAt w d own r l x 0 cnt siz own' W3.drew := (h.below hB3).below (Below.refl _ W3).drew
  have HWR := Lib.hid (write_any W3.drew d own' r y h3.disk hysz A n cap fs ((hF.below hB3).below (Below.refl _ W3).drew) hn hlen hs)
  rw [hq] at HWR
  have HX3 := Lib.hid (And.intro h3 (And.intro k3 (And.intro k3b (And.intro hB3 hs3'))))
  have HOZ := Lib.hid (And.intro (h.disk.1 hb (by omega)) (h.disk.1 (hb + 1) (by omega)))
  have HHB := Lib.hid hhb
  have HL := Lib.hid hl
  clear hF hlen hq hB1 k0 hB2 hs2' k2 hC3 hB3 hs3' k3 k3b h3 h hl
  go_enter Try.func32, Try.ntmps32
  go_wp2_with fail
  go_region_with (go_at_call 52; refine HWR.out.mono ?_; rintro e w4 ⟨rfl, own4, hO4, hD4⟩; have HX4 := Lib.hid (And.intro hO4 hD4); clear hO4 hD4)
  all_goals
    clear z0 z1 z2
    obtain ⟨sb, hsb⟩ : ∃ sb, w4.heap.size = sb := ⟨_, rfl⟩
    have hdr : W3.drew.heap = W3.heap := rfl
    have log4 := HX3.out.1.go HX4.out.1 HX4.out.2
    have hs3 : hb + 2 = W3.drew.heap.size := by rw [hdr]; exact HX3.out.2.2.2.2.symm
    have kb : w4.heap[hb]? = some (.cells #[.pointer (some ⟨l, 0, none⟩)] 85 (0, 0)) := (HX4.out.1.2.2 hb (by omega) HOZ.out.1).trans (by rw [hdr]; exact HX3.out.2.2.1)
    have kn : w4.heap[hb + 1]? = some (.cells #[.string y] 9 (0, 0)) := (HX4.out.1.2.2 (hb + 1) (by omega) HOZ.out.2).trans (by rw [hdr]; exact HX3.out.2.1)
    have o4 : own4 hb = 0 ∧ own4 (hb + 1) = 0 := ⟨(HX4.out.1.2.1 hb (by omega)).trans HOZ.out.1, (HX4.out.1.2.1 (hb + 1) (by omega)).trans HOZ.out.2⟩
    have z0 := cell_of_one kb
    have z1 := cell_of_one kn
    have z2 := log4.box.cell 0 _ rfl
    obtain ⟨W5, hW5⟩ : ∃ W5, w4.drew.alloc (.cells #[.func (.func 53) #[] #[.pointer (some ⟨hb, 0, none⟩), .pointer (some ⟨hb + 1, 0, none⟩)], .func (.func 28) #[.pointer (some ⟨d, 0, none⟩)] #[]] 36) = W5 := ⟨_, rfl⟩
    have hB5 : Below w4.heap.size w4 W5 := by rw [← hW5]; exact (Below.refl _ w4).drew.alloc (Nat.le_refl _) _
    have hst : W5.heap[sb]? = some (.cells #[.func (.func 53) #[] #[.pointer (some ⟨hb, 0, none⟩), .pointer (some ⟨hb + 1, 0, none⟩)], .func (.func 28) #[.pointer (some ⟨d, 0, none⟩)] #[]] 36 (0, 0)) := by
      rw [← hW5, ← hsb]
      exact heap_alloc_new w4.drew _
    have k5b := (hB5.block hb (by have := lt_of_block kb; omega)).trans kb
    have k5n := (hB5.block (hb + 1) (by have := lt_of_block kn; omega)).trans kn
    have z5 := cell_of_one k5b
    have hlb : l < hb := by have := HL.out; omega
    have hsl : l < w4.heap.size := log4.box.lt
    have hdo := do2_any (r1 := r1) (r2 := r2) sb 2 36 53 28 #[] #[.pointer (some ⟨hb, 0, none⟩), .pointer (some ⟨hb + 1, 0, none⟩)] #[.pointer (some ⟨d, 0, none⟩)] #[] a1 a2 (⟨log4.below hB5, Kept.refl l own4 W5⟩ : DoAt w d own qr l x 0 cnt siz own4 W5 own4 W5) hst (log4.disk.1 sb (by omega)) (by omega) anew1_enters syncDir_enters (fun own'' V hV => by
      rw [Array.empty_append]
      have hD : IsD V.drew d own'' qr := hV.log.disk.below (Below.refl _ V).drew
      refine (anew1_any V hb (hb + 1) l d x y (.int .i64 cnt) (.int .i64 siz) 0 (fun _ V' => DNext V.drew d own'' r1 V') a1 (cell_of_one (hV.block hb _ k5b o4.1 (by omega))) (cell_of_one (hV.block (hb + 1) _ k5n o4.2 (by omega))) hV.log.box ?_).mono fun e V' hh => ⟨hh.1, hh.2.undrew⟩
      refine (hD.rename hqs y x (by omega) (by omega)).mono fun e V' hh => ?_
      rw [hp1] at hh
      exact hh) (fun h0 own'' V hV => by
      rw [Array.append_empty]
      refine (hV.log.disk.syncDir hs1).mono fun e V' hh => ?_
      rw [hp2 h0] at hh
      exact hh) hfin
    have HDO := Lib.hid hdo
    have HKP : Hid (Kept l own' W own4 W5) := Lib.hid (((Kept.of_below l own' HX3.out.2.2.2.1).trans ((Kept.of_below l own' (Below.refl _ W3).drew).trans (Kept.of_only l HX4.out.1))).trans (Kept.of_below l own4 hB5))
    clear hdr log4 hs3 kb kn o4 hB5 hst k5b k5n hdo hlb hsl
    go_wp2_with fail
    go_region_with (go_at_call 25; refine HDO.out.mono ?_; rintro e w7 ⟨rfl, own7, h7⟩; have H7 := Lib.hid h7; clear h7)
    all_goals
      go_wp2
      go_ret
      exact ⟨rfl, own7, H7.out.log, HKP.out.trans H7.out.keep⟩
end Go.Proofs.Ytihlbbpnldgenaa
namespace Go.Proofs.Ytihlbbpnldgenaa
open Go.RowKit Go.Shelf
set_option linter.unusedVariables false
set_option maxRecDepth 100000

theorem FrAt.under {W W' : World} {own : Nat → Nat} {A : Option Addr} {n : Nat} {fs : List (List Nat)} (h : FrAt W own A n fs) (hb : Below W.heap.size W W') : FrAt W' own A n fs :=
  h.only ⟨hb.mono (Nat.zero_le _), fun _ _ => rfl, fun i hi _ => hb.block i hi⟩
set_option maxHeartbeats 6400000 in
theorem anew_full (w W : World) (d l : Nat) (own own' : Nat → Nat) (r : RD) (x : ByteArray) (cnt siz : Int) (h : LogAt w d own r l x 0 cnt siz own' W) (hx : x.size ≤ 800000) (A : Option Addr) (n cap : Nat) (fs : List (List Nat)) (hF : FrAt W own' A n fs) (hn : n ≤ 1000) (hlen : ∀ f ∈ fs, f.length ≤ 70000) (hs : r.size + n + 12 ≤ 80000)
    (qr r1 : RD) (a1 : Int) (hq : r.write (x ++ spareB) fs = (4, qr)) (hqs : qr.size + 4 ≤ 80000) (hp1 : qr.remove (x ++ spareB) = (a1, r1)) :
    Calls Try.prog 32 #[.pointer (some ⟨l, 0, none⟩), .slice A n cap] W fun e w' => e = .returned (.int .i64 4) ∧ ∃ own'', LogAt w d own r1 l x a1 cnt siz own'' w' ∧ Kept l own' W own'' w' := by
  obtain ⟨y, hy⟩ : ∃ y, x ++ spareB = y := ⟨_, rfl⟩
  have hysz : y.size ≤ 900000 := by rw [← hy, spare_size]; omega
  have hy' : x ++ (⟨#[46, 116, 109, 112]⟩ : ByteArray) = y := hy
  rw [hy] at hq hp1
  obtain ⟨hb, hhb⟩ : ∃ hb, W.heap.size = hb := ⟨_, rfl⟩
  have hl := h.box.lt
  obtain ⟨W1, hW1⟩ : ∃ W1, W.alloc (.cells #[.pointer (some ⟨l, 0, none⟩)] 85) = W1 := ⟨_, rfl⟩
  have hB1 : Below W.heap.size W W1 := by rw [← hW1]; exact (Below.refl _ W).alloc (Nat.le_refl _) _
  have hs1' : W1.heap.size = hb + 1 := by rw [← hW1, ← hhb]; simp
  have k0 : W1.heap[hb]? = some (.cells #[.pointer (some ⟨l, 0, none⟩)] 85 (0, 0)) := by rw [← hW1, ← hhb]; exact heap_alloc_new W _
  have y0 := cell_of_one k0
  have y1 := (h.box.below hB1).cell 1 _ rfl
  obtain ⟨W2, hW2⟩ : ∃ W2, W1.alloc (.cells #[.string ⟨#[]⟩] 9) = W2 := ⟨_, rfl⟩
  have hB2 : Below W1.heap.size W1 W2 := by rw [← hW2]; exact (Below.refl _ W1).alloc (Nat.le_refl _) _
  have hs2' : W2.heap.size = hb + 2 := by rw [← hW2]; simp [hs1']
  have k2 : W2.heap[hb + 1]? = some (.cells #[.string ⟨#[]⟩] 9 (0, 0)) := by rw [← hW2, ← hs1']; exact heap_alloc_new W1 _
  have y2 := cell_of_one k2
  have y2f := free_of_one k2
  obtain ⟨W3, hW3⟩ : ∃ W3, W2.setCell ⟨hb + 1, 0, none⟩ (.string y) = W3 := ⟨_, rfl⟩
  have hC3 : Chg [hb + 1] W2 W3 := by rw [← hW3]; exact (Chg.refl _ W2).setCell (hb + 1) 0 _ (.inl (by simp))
  have hB3 : Below W.heap.size W W3 := (hB1.trans (hB2.mono hB1.size)).trans (hC3.toBelow (fun k hk => by rw [List.mem_singleton] at hk; omega) (by omega))
  have hs3' : W3.heap.size = hb + 2 := by rw [← hW3]; simp [hs2']
  have k3 : W3.heap[hb + 1]? = some (.cells #[.string y] 9 (0, 0)) := by rw [← hW3]; exact one_setCell k2
  have k3b : W3.heap[hb]? = some (.cells #[.pointer (some ⟨l, 0, none⟩)] 85 (0, 0)) := (hC3.same hb (by omega) (by rw [List.mem_singleton]; omega)).trans ((hB2.block hb (by omega)).trans k0)
  have z0 := cell_of_one k3b
  have z1 := cell_of_one k3
  have z2 := (h.box.below hB3).cell 0 _ rfl
  have h3 : LogAt w d own r l x 0 cnt siz own' W3.drew := (h.below hB3).below (Below.refl _ W3).drew
  have HWR := Lib.hid (write_any W3.drew d own' r y h3.disk hysz A n cap fs ((hF.under hB3).under (Below.refl _ W3).drew) hn hlen hs)
  rw [hq] at HWR
  have HX3 := Lib.hid (And.intro h3 (And.intro k3 (And.intro k3b (And.intro hB3 hs3'))))
  have HOZ := Lib.hid (And.intro (h.disk.1 hb (by omega)) (h.disk.1 (hb + 1) (by omega)))
  have HHB := Lib.hid hhb
  have HL := Lib.hid hl
  clear hF hlen hq hB1 k0 hB2 hs2' k2 hC3 hB3 hs3' k3 k3b h3 h hl
  go_enter Try.func32, Try.ntmps32
  go_wp2_with fail
  go_region_with (go_at_call 52; refine HWR.out.mono ?_; rintro e w4 ⟨rfl, own4, hO4, hD4⟩; have HX4 := Lib.hid (And.intro hO4 hD4); clear hO4 hD4)
  all_goals
    clear z0 z1 z2
    obtain ⟨sb, hsb⟩ : ∃ sb, w4.heap.size = sb := ⟨_, rfl⟩
    have hdr : W3.drew.heap = W3.heap := rfl
    have log4 := HX3.out.1.go HX4.out.1 HX4.out.2
    have hs3 : hb + 2 = W3.drew.heap.size := by rw [hdr]; exact HX3.out.2.2.2.2.symm
    have kb : w4.heap[hb]? = some (.cells #[.pointer (some ⟨l, 0, none⟩)] 85 (0, 0)) := (HX4.out.1.2.2 hb (by omega) HOZ.out.1).trans (by rw [hdr]; exact HX3.out.2.2.1)
    have kn : w4.heap[hb + 1]? = some (.cells #[.string y] 9 (0, 0)) := (HX4.out.1.2.2 (hb + 1) (by omega) HOZ.out.2).trans (by rw [hdr]; exact HX3.out.2.1)
    have o4 : own4 hb = 0 ∧ own4 (hb + 1) = 0 := ⟨(HX4.out.1.2.1 hb (by omega)).trans HOZ.out.1, (HX4.out.1.2.1 (hb + 1) (by omega)).trans HOZ.out.2⟩
    have z0 := cell_of_one kb
    have z1 := cell_of_one kn
    have z2 := log4.box.cell 0 _ rfl
    obtain ⟨W5, hW5⟩ : ∃ W5, w4.alloc (.cells #[.func (.func 55) #[] #[.pointer (some ⟨hb, 0, none⟩), .pointer (some ⟨hb + 1, 0, none⟩)]] 36) = W5 := ⟨_, rfl⟩
    have hB5 : Below w4.heap.size w4 W5 := by rw [← hW5]; exact (Below.refl _ w4).alloc (Nat.le_refl _) _
    have hst : W5.heap[sb]? = some (.cells #[.func (.func 55) #[] #[.pointer (some ⟨hb, 0, none⟩), .pointer (some ⟨hb + 1, 0, none⟩)]] 36 (0, 0)) := by
      rw [← hW5, ← hsb]
      exact heap_alloc_new w4 _
    have k5b := (hB5.block hb (by have := lt_of_block kb; omega)).trans kb
    have k5n := (hB5.block (hb + 1) (by have := lt_of_block kn; omega)).trans kn
    have hlb : l < hb := by have := HL.out; omega
    have hsl : l < w4.heap.size := log4.box.lt
    have hdo := do1_any (r1 := r1) sb 1 36 55 #[] #[.pointer (some ⟨hb, 0, none⟩), .pointer (some ⟨hb + 1, 0, none⟩)] a1 (⟨log4.below hB5, Kept.refl l own4 W5⟩ : DoAt w d own qr l x 0 cnt siz own4 W5 own4 W5) hst (log4.disk.1 sb (by omega)) (by omega) anew2_enters (fun own'' V hV => by
      rw [Array.empty_append]
      have hD : IsD V.drew d own'' qr := hV.log.disk.below (Below.refl _ V).drew
      refine (anew2_any V hb (hb + 1) l d x y (.int .i64 cnt) (.int .i64 siz) 0 (fun _ V' => DNext V.drew d own'' r1 V') a1 (cell_of_one (hV.block hb _ k5b o4.1 (by omega))) (cell_of_one (hV.block (hb + 1) _ k5n o4.2 (by omega))) hV.log.box ?_).mono fun e V' hh => ⟨hh.1, hh.2.undrew⟩
      refine (hD.remove hqs y (by omega)).mono fun e V' hh => ?_
      rw [hp1] at hh
      exact hh)
    have HDO := Lib.hid hdo
    have HKP : Hid (Kept l own' W own4 W5) := Lib.hid (((Kept.of_below l own' HX3.out.2.2.2.1).trans ((Kept.of_below l own' (Below.refl _ W3).drew).trans (Kept.of_only l HX4.out.1))).trans (Kept.of_below l own4 hB5))
    clear hdr log4 hs3 kb kn o4 hB5 hst k5b k5n hdo hlb hsl
    go_wp2_with (go_at_call 25; refine HDO.out.mono ?_; rintro e w7 ⟨rfl, own7, h7⟩; have H7 := Lib.hid h7; clear h7)
    go_ret
    exact ⟨rfl, own7, H7.out.log, HKP.out.trans H7.out.keep⟩
end Go.Proofs.Ytihlbbpnldgenaa
namespace Go.Proofs.Ytihlbbpnldgenaa
open Go.RowKit Go.Maps
set_option linter.unusedVariables false
set_option linter.unusedSimpArgs false
set_option maxRecDepth 100000

/-- One file, sure by name. -/
def logS (o : ByteArray) (xs : List Value) (s : Nat) (q : Int) (fl : Bool) (n : Nat) : RD := ⟨[⟨xs, s⟩], [(o, numV 0)], [], q, fl, false, -1, n⟩
/-- Another one beside it, its name not sure. -/
def logC (o t : ByteArray) (xs : List Value) (s : Nat) (ys : List Value) (s2 : Nat) (q : Int) (fl : Bool) (n : Nat) : RD := ⟨[⟨xs, s⟩, ⟨ys, s2⟩], [(o, numV 0)], [[(t, numV 1)]], q, fl, false, -1, n⟩
/-- The other one in its place. -/
def logR (o t : ByteArray) (xs : List Value) (s : Nat) (ys : List Value) (s2 : Nat) (q : Int) (fl : Bool) (n : Nat) : RD := ⟨[⟨xs, s⟩, ⟨ys, s2⟩], [(o, numV 0)], [[(t, numV 1)], [(t, .pointer none), (o, numV 1)]], q, fl, false, -1, n⟩
def logE (o : ByteArray) (xs : List Value) (s : Nat) (ys : List Value) (s2 : Nat) (q : Int) (fl : Bool) (n : Nat) : RD := ⟨[⟨xs, s⟩, ⟨ys, s2⟩], [(o, numV 1)], [], q, fl, false, -1, n⟩
/-- The other one gone again. -/
def logF (o t : ByteArray) (xs : List Value) (s : Nat) (ys : List Value) (s2 : Nat) (q : Int) (fl : Bool) (n : Nat) : RD := ⟨[⟨xs, s⟩, ⟨ys, s2⟩], [(o, numV 0)], [[(t, numV 1)], [(t, .pointer none)]], q, fl, false, -1, n⟩
section
variable (o t : ByteArray) (ho : nameOk o = true) (ht : nameOk t = true) (hot : ltS o t = true) (xs ys b : List Value) (s s2 n : Nat) (q : Int) (fl : Bool)
theorem logNew (ho : nameOk o = true) : (RD.fresh q).create o = (0, ⟨[⟨[], 0⟩], [], [[(o, numV 0)]], max q 0, false, false, -1, 1⟩) ∧ RD.syncDir ⟨[⟨[], 0⟩], [], [[(o, numV 0)]], max q 0, false, false, -1, 1⟩ = (0, logS o [] 0 (max q 0) false 2) := by
  have i := orders_S.irr o
  constructor
  · simp [RD.fresh, RD.create, RD.begE, RD.on, RD.powered, RD.now, layAll, lookP, hasP, ho]
  · simp [logS, RD.syncDir, RD.on, RD.powered, RD.now, layAll, layP, layOne, putP, numV]
theorem logAdd (ho : nameOk o = true) (h1 : xs.length + b.length ≤ 1048576) (h2 : (xs.length : Int) + (b.length : Int) ≤ q) : (logS o xs s q fl n).append o b = (0, logS o (xs ++ b) s q fl (n + 1)) := by
  have i := orders_S.irr o
  have l1 : ¬ 1048576 < xs.length + b.length := by omega
  have l2 : ¬ q < (xs.length : Int) + (b.length : Int) := by omega
  simp [l1, l2, logS, RD.append, RD.witE, RD.begE, RD.on, RD.powered, RD.now, RD.get, RD.file, RD.num, RD.used, sumLen, layAll, layP, layOne, putP, lookP, hasP, numV, numOf, ho, i]
theorem logAddF (ho : nameOk o = true) (h1 : xs.length + b.length ≤ 1048576) (h2 : q < (xs.length : Int) + (b.length : Int)) : (logS o xs s q fl n).append o b = (4, logS o xs s q true (n + 1)) := by
  have i := orders_S.irr o
  have l1 : ¬ 1048576 < xs.length + b.length := by omega
  simp [l1, h2, logS, RD.append, RD.witE, RD.begE, RD.on, RD.powered, RD.now, RD.get, RD.file, RD.num, RD.used, sumLen, layAll, layP, layOne, putP, lookP, hasP, numV, numOf, ho, i]
theorem logMake (ht : nameOk t = true) : (logS o xs s q fl n).create t = (0, logC o t xs s [] 0 q fl (n + 1)) := by
  simp [logS, logC, RD.create, RD.begE, RD.on, RD.powered, RD.now, layAll, ht]
theorem logPut (ht : nameOk t = true) (hot : ltS o t = true) (h1 : ys.length + b.length ≤ 1048576) (h2 : (xs.length : Int) + ((ys.length : Int) + (b.length : Int)) ≤ q) : (logC o t xs s ys s2 q fl n).append t b = (0, logC o t xs s (ys ++ b) s2 q fl (n + 1)) := by
  have i := orders_S.irr o
  have j := orders_S.irr t
  have k := orders_S.asym hot
  have l1 : ¬ 1048576 < ys.length + b.length := by omega
  have l2 : ¬ q < (xs.length : Int) + (ys.length : Int) + (b.length : Int) := by omega
  simp [l1, l2, logC, RD.append, RD.witE, RD.begE, RD.on, RD.powered, RD.now, RD.get, RD.file, RD.num, RD.used, sumLen, layAll, layP, layOne, putP, lookP, hasP, numV, numOf, ht, i, j, k, hot]
theorem logPutF (ht : nameOk t = true) (hot : ltS o t = true) (h1 : ys.length + b.length ≤ 1048576) (h2 : q < (xs.length : Int) + ((ys.length : Int) + (b.length : Int))) : (logC o t xs s ys s2 q fl n).append t b = (4, logC o t xs s ys s2 q true (n + 1)) := by
  have i := orders_S.irr o
  have j := orders_S.irr t
  have k := orders_S.asym hot
  have l1 : ¬ 1048576 < ys.length + b.length := by omega
  have l2 : q < (xs.length : Int) + (ys.length : Int) + (b.length : Int) := by omega
  simp [l1, l2, logC, RD.append, RD.witE, RD.begE, RD.on, RD.powered, RD.now, RD.get, RD.file, RD.num, RD.used, sumLen, layAll, layP, layOne, putP, lookP, hasP, numV, numOf, ht, i, j, k, hot]
theorem logSync (ht : nameOk t = true) (hot : ltS o t = true) : (logC o t xs s ys s2 q fl n).sync t = (0, logC o t xs s ys ys.length q fl (n + 1)) := by
  have i := orders_S.irr o
  have j := orders_S.irr t
  have k := orders_S.asym hot
  simp [logC, RD.sync, RD.witE, RD.begE, RD.on, RD.powered, RD.now, RD.get, RD.file, RD.num, layAll, layP, layOne, putP, lookP, hasP, numV, numOf, ht, i, j, k, hot]
theorem logName (ho : nameOk o = true) (ht : nameOk t = true) (hot : ltS o t = true) : (logC o t xs s ys s2 q fl n).rename t o = (0, logR o t xs s ys s2 q fl (n + 1)) := by
  have i := orders_S.irr o
  have j := orders_S.irr t
  have k := orders_S.asym hot
  simp [logC, logR, RD.rename, RD.witE, RD.begE, RD.on, RD.powered, RD.now, RD.get, RD.file, RD.num, layAll, layP, layOne, putP, lookP, hasP, numV, numOf, ho, ht, i, j, k, hot]
theorem logDir (hot : ltS o t = true) : (logR o t xs s ys s2 q fl n).syncDir = (0, logE o xs s ys s2 q fl (n + 1)) := by
  have i := orders_S.irr o
  have j := orders_S.irr t
  have k := orders_S.asym hot
  simp [logR, logE, RD.syncDir, RD.on, RD.powered, RD.now, layAll, layP, layOne, putP, dropP, numV, i, j, k, hot]
theorem logGone (ht : nameOk t = true) (hot : ltS o t = true) : (logC o t xs s ys s2 q fl n).remove t = (0, logF o t xs s ys s2 q fl (n + 1)) := by
  have i := orders_S.irr o
  have j := orders_S.irr t
  have k := orders_S.asym hot
  simp [logC, logF, RD.remove, RD.witE, RD.begE, RD.on, RD.powered, RD.now, RD.get, RD.file, RD.num, layAll, layP, layOne, putP, lookP, hasP, numV, numOf, ht, i, j, k, hot]
theorem logS_sees : (logS o xs s q fl n).now = [(o, numV 0)] ∧ hasP ltS (logS o xs s q fl n).now o = true ∧ (logS o xs s q fl n).get o = ⟨xs, s⟩ ∧ (logS o xs s q fl n).off = false ∧ (logS o xs s q fl n).size = n + 2 := by
  have i := orders_S.irr o
  refine ⟨rfl, ?_, ?_, rfl, rfl⟩
  · simp [logS, RD.now, layAll, lookP, hasP, i]
  · simp [logS, RD.now, RD.get, RD.file, RD.num, layAll, lookP, numV, numOf, i]
theorem logE_sees : (logE o xs s ys s2 q fl n).now = [(o, numV 1)] ∧ hasP ltS (logE o xs s ys s2 q fl n).now o = true ∧ (logE o xs s ys s2 q fl n).get o = ⟨ys, s2⟩ ∧ (logE o xs s ys s2 q fl n).off = false ∧ (logE o xs s ys s2 q fl n).size = n + 3 := by
  have i := orders_S.irr o
  refine ⟨rfl, ?_, ?_, rfl, rfl⟩
  · simp [logE, RD.now, layAll, lookP, hasP, i]
  · simp [logE, RD.now, RD.get, RD.file, RD.num, layAll, lookP, numV, numOf, i]
theorem logF_sees (hot : ltS o t = true) : (logF o t xs s ys s2 q fl n).now = [(o, numV 0)] ∧ hasP ltS (logF o t xs s ys s2 q fl n).now o = true ∧ (logF o t xs s ys s2 q fl n).get o = ⟨xs, s⟩ ∧ (logF o t xs s ys s2 q fl n).off = false ∧ (logF o t xs s ys s2 q fl n).size = n + 7 := by
  have i := orders_S.irr o
  have j := orders_S.irr t
  have k := orders_S.asym hot
  have h : (logF o t xs s ys s2 q fl n).now = [(o, numV 0)] := by simp [logF, RD.now, layAll, layP, layOne, putP, dropP, numV, i, j, k, hot]
  refine ⟨h, ?_, ?_, rfl, rfl⟩
  · rw [h]; simp [lookP, hasP, i]
  · unfold RD.get RD.num
    rw [h]
    simp [logF, RD.file, lookP, numV, numOf, i]
/-- All the bytes of some pieces. -/
def flatV : List (List Nat) → List Value
  | [] => []
  | f :: fs => cellsZ (asZ f) ++ flatV fs
theorem logLay (ht : nameOk t = true) (hot : ltS o t = true) : ∀ (fs : List (List Nat)) (ys : List Value) (n : Nat), ys.length + (flatV fs).length ≤ 1048576 → (xs.length : Int) + ((ys.length : Int) + ((flatV fs).length : Int)) ≤ q →
    RD.writeL (logC o t xs s ys 0 q fl n) t fs = (0, logC o t xs s (ys ++ flatV fs) 0 q fl (n + fs.length)) := by
  intro fs
  induction fs with
  | nil => intro ys n _ _; unfold RD.writeL flatV; rw [List.append_nil]; rfl
  | cons f fs ih =>
    intro ys n h1 h2
    have e : flatV (f :: fs) = cellsZ (asZ f) ++ flatV fs := rfl
    rw [e, List.length_append] at h1 h2
    have hp := logPut o t xs ys (cellsZ (asZ f)) s 0 n q fl ht hot (by omega) (by omega)
    show (if ((logC o t xs s ys 0 q fl n).append t (cellsZ (asZ f))).1 = 0 then RD.writeL ((logC o t xs s ys 0 q fl n).append t (cellsZ (asZ f))).2 t fs else _) = _
    rw [hp, if_pos rfl]
    rw [ih (ys ++ cellsZ (asZ f)) (n + 1) (by rw [List.length_append]; omega) (by rw [List.length_append]; omega), e, List.append_assoc, List.length_cons]
    congr 2
    omega
theorem logLayF (ht : nameOk t = true) (hot : ltS o t = true) : ∀ (fs : List (List Nat)) (ys : List Value) (n : Nat), ys.length + (flatV fs).length ≤ 1048576 → (xs.length : Int) + (ys.length : Int) ≤ q → q < (xs.length : Int) + ((ys.length : Int) + ((flatV fs).length : Int)) →
    ∃ zs m, RD.writeL (logC o t xs s ys 0 q fl n) t fs = (4, logC o t xs s zs 0 q true m) ∧ m ≤ n + fs.length := by
  intro fs
  induction fs with
  | nil => intro ys n _ h1 h2; simp only [flatV, List.length_nil] at h2; omega
  | cons f fs ih =>
    intro ys n h1 h2 h3
    have e : flatV (f :: fs) = cellsZ (asZ f) ++ flatV fs := rfl
    rw [e, List.length_append] at h1 h3
    by_cases h4 : q < (xs.length : Int) + ((ys.length : Int) + ((cellsZ (asZ f)).length : Int))
    · have hp := logPutF o t xs ys (cellsZ (asZ f)) s 0 n q fl ht hot (by omega) h4
      refine ⟨ys, n + 1, ?_, by rw [List.length_cons]; omega⟩
      show (if ((logC o t xs s ys 0 q fl n).append t (cellsZ (asZ f))).1 = 0 then RD.writeL ((logC o t xs s ys 0 q fl n).append t (cellsZ (asZ f))).2 t fs else (logC o t xs s ys 0 q fl n).append t (cellsZ (asZ f))) = _
      rw [hp, if_neg (show ¬ (4 : Int) = 0 by decide)]
    · have hp := logPut o t xs ys (cellsZ (asZ f)) s 0 n q fl ht hot (by omega) (by omega)
      obtain ⟨zs, m, hh, hm⟩ := ih (ys ++ cellsZ (asZ f)) (n + 1) (by rw [List.length_append]; omega) (by rw [List.length_append]; omega) (by rw [List.length_append]; omega)
      refine ⟨zs, m, ?_, by rw [List.length_cons]; omega⟩
      show (if ((logC o t xs s ys 0 q fl n).append t (cellsZ (asZ f))).1 = 0 then RD.writeL ((logC o t xs s ys 0 q fl n).append t (cellsZ (asZ f))).2 t fs else _) = _
      rw [hp, if_pos rfl]
      exact hh
/-- All frames laid down beside the file. -/
theorem logWrite (ht : nameOk t = true) (hot : ltS o t = true) (fs : List (List Nat)) (h1 : (flatV fs).length ≤ 1048576) (h2 : (xs.length : Int) + ((flatV fs).length : Int) ≤ q) :
    (logS o xs s q fl n).write t fs = (0, logC o t xs s (flatV fs) (flatV fs).length q fl (n + fs.length + 2)) := by
  unfold RD.write
  rw [logMake o t xs s n q fl ht, if_pos rfl]
  have h := logLay o t xs s q fl ht hot fs [] (n + 1) (by simpa using h1) (by simpa using h2)
  rw [List.nil_append] at h
  rw [h, if_pos rfl]
  have e : n + 1 + fs.length + 1 = n + fs.length + 2 := by omega
  rw [logSync o t xs (flatV fs) s 0 (n + 1 + fs.length) q fl ht hot, e]
theorem logWriteF (ht : nameOk t = true) (hot : ltS o t = true) (fs : List (List Nat)) (h1 : (flatV fs).length ≤ 1048576) (h0 : (xs.length : Int) ≤ q) (h2 : q < (xs.length : Int) + ((flatV fs).length : Int)) :
    ∃ zs m, (logS o xs s q fl n).write t fs = (4, logC o t xs s zs 0 q true m) ∧ m ≤ n + fs.length + 1 := by
  unfold RD.write
  rw [logMake o t xs s n q fl ht, if_pos rfl]
  obtain ⟨zs, m, h, hm⟩ := logLayF o t xs s q fl ht hot fs [] (n + 1) (by simpa using h1) (by simpa using h0) (by simpa using h2)
  refine ⟨zs, m, ?_, by omega⟩
  rw [h, if_neg (show ¬ (4 : Int) = 0 by decide)]
theorem flatV_frames : ∀ rs : List (List Nat), flatV (rs.map frameN) = cellsZ (asZ (allN rs)) := by
  intro rs
  induction rs with
  | nil => rfl
  | cons r rs ih =>
    show cellsZ (asZ (frameN r)) ++ flatV (rs.map frameN) = cellsZ (asZ (frameN r ++ allN rs))
    rw [ih, asZ_append, cellsZ_append]
end
end Go.Proofs.Ytihlbbpnldgenaa
