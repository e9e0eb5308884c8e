/-
  A whole disk as it lies in memory, and who owns which block; settle on a whole disk.
-/
import Derived.Test.YtnjnlcmpfnabiaaDu
namespace Go.Proofs.Ytnjnlcmpfnabiaa
open Go.RowKit Go.Maps
set_option linter.unusedVariables false
set_option maxRecDepth 100000

theorem layOne_len (ps : List (ByteArray × Value)) (h : Rises ltS ps) (p : ByteArray × Value) : Rises ltS (layOne ps p) ∧ (layOne ps p).length ≤ ps.length + 1 := by
  unfold layOne
  split
  · exact ⟨rises_drop orders_S h, by have := dropP_length ps p.1; omega⟩
  · exact ⟨rises_put orders_S h _, putP_length ps h p.1 _⟩
theorem layP_len (chs : List (ByteArray × Value)) : ∀ ps : List (ByteArray × Value), Rises ltS ps → Rises ltS (layP ps chs) ∧ (layP ps chs).length ≤ ps.length + chs.length := by
  induction chs with
  | nil => exact fun ps h => ⟨h, by simp [layP]⟩
  | cons c l ih =>
    intro ps h
    obtain ⟨h1, h2⟩ := layOne_len ps h c
    obtain ⟨h3, h4⟩ := ih _ h1
    have e : layP ps (c :: l) = layP (layOne ps c) l := rfl
    rw [e]
    exact ⟨h3, by rw [List.length_cons]; omega⟩
theorem layAll_len (chl : List (List (ByteArray × Value))) : ∀ ps : List (ByteArray × Value), Rises ltS ps → (∀ c ∈ chl, c.length ≤ 2) → Rises ltS (layAll ps chl) ∧ (layAll ps chl).length ≤ ps.length + 2 * chl.length := by
  induction chl with
  | nil => exact fun ps h _ => ⟨h, by simp [layAll]⟩
  | cons c l ih =>
    intro ps h hc
    obtain ⟨h1, h2⟩ := layP_len c ps h
    obtain ⟨h3, h4⟩ := ih _ h1 (fun x hx => hc x (List.mem_cons_of_mem _ hx))
    have e : layAll ps (c :: l) = layAll (layP ps c) l := rfl
    have := hc c (List.mem_cons_self ..)
    rw [e]
    exact ⟨h3, by rw [List.length_cons]; omega⟩
theorem layOne_in {S : List Value} (ps : List (ByteArray × Value)) (hp : ∀ p ∈ ps, p.2 ∈ S) (c : ByteArray × Value) (hc : c.2 = .pointer none ∨ c.2 ∈ S) : ∀ p ∈ layOne ps c, p.2 ∈ S := by
  intro p hm
  unfold layOne at hm
  split at hm
  · exact hp p ((mem_dropP orders_S).1 hm).1
  · rename_i hne
    rcases (mem_putP orders_S).1 hm with h | h
    · rw [h]
      rcases hc with h | h
      · exact absurd h hne
      · exact h
    · exact hp p h.1
theorem layP_in {S : List Value} (chs : List (ByteArray × Value)) : ∀ ps : List (ByteArray × Value), (∀ p ∈ ps, p.2 ∈ S) → (∀ c ∈ chs, c.2 = .pointer none ∨ c.2 ∈ S) → ∀ p ∈ layP ps chs, p.2 ∈ S := by
  induction chs with
  | nil => exact fun ps h _ => h
  | cons c l ih => exact fun ps h hc => ih _ (layOne_in ps h c (hc c (List.mem_cons_self ..))) (fun x hx => hc x (List.mem_cons_of_mem _ hx))
theorem layAll_in {S : List Value} (chl : List (List (ByteArray × Value))) : ∀ ps : List (ByteArray × Value), (∀ p ∈ ps, p.2 ∈ S) → (∀ c ∈ chl, ∀ p ∈ c, p.2 = .pointer none ∨ p.2 ∈ S) → ∀ p ∈ layAll ps chl, p.2 ∈ S := by
  induction chl with
  | nil => exact fun ps h _ => h
  | cons c l ih => exact fun ps h hc => ih _ (layP_in c ps h (hc c (List.mem_cons_self ..))) (fun x hx => hc x (List.mem_cons_of_mem _ hx))

/-- The changes as they lie in memory, with their owner's mark. -/
def ChsO (w : World) (own : Nat → Nat) (css : List Value) (chl : List (List (ByteArray × Value))) : Prop :=
  css.length = chl.length ∧ ∀ (i : Nat) (v : Value) (chs : List (ByteArray × Value)), css[i]? = some v → chl[i]? = some chs → ∃ pb : Nat, v = Value.slice (some ⟨pb, 0, none⟩) chs.length chs.length ∧ SLine 2 w (some ⟨pb, 0, none⟩) chs.length chs.length (cellsP encS chs) ∧ own pb = 6 ∧ chs.length ≤ 2 ∧ ∀ p ∈ chs, ∃ a : Option Addr, p.2 = .pointer a
/-- A file as it lies in memory, with its owner's marks. -/
def FileO (w : World) (own : Nat → Nat) (v : Value) (num : Nat) (xs : List Value) (sure : Nat) : Prop :=
  ∃ f A n c, v = Value.pointer (some ⟨f, 0, none⟩) ∧ own f = 7 ∧ FileAt w f num A n c sure ∧ SLine 1 w A n c xs ∧ (∀ k ∈ blk A, own k = 8 + num) ∧ n ≤ 1048576 ∧ sure ≤ n
/-- A whole disk. own tells who a block belongs to: 1 the disk's box, 2 its files' line, 3 the directory as it is, 4 the sure one, 5 the line of changes, 6 a change, 7 a file's box, 8 and the file's number its bytes; 0: somebody else. -/
structure DiskIn (w : World) (d : Nat) (own : Nat → Nat) (b : DBox) (F : Option Addr) (fn fc : Nat) (RA : Option Addr) (rn rc : Nat) (SA : Option Addr) (sn sc : Nat) (C : Option Addr) (cn cc : Nat)
    (fs : List Value) (ps ss : List (ByteArray × Value)) (css : List Value) (chl : List (List (ByteArray × Value))) (nm : Value → Nat) (dt : Value → List Value) (su : Value → Nat) : Prop where
  box : DBoxAt w d b
  od : own d = 1
  files : b.files = .slice F fn fc
  line : SLine 1 w F fn fc fs
  oF : ∀ k ∈ blk F, own k = 2
  now : b.now = .slice RA rn rc
  nrow : RowG encS ltS w RA rn rc ps
  oR : ∀ k ∈ blk RA, own k = 3
  sure : b.sure = .slice SA sn sc
  srow : RowG encS ltS w SA sn sc ss
  oS : ∀ k ∈ blk SA, own k = 4
  changes : b.changes = .slice C cn cc
  cline : SLine 1 w C cn cc css
  oC : ∀ k ∈ blk C, own k = 5
  chs : ChsO w own css chl
  file : ∀ v ∈ fs, FileO w own v (nm v) (dt v) (su v)
  num : ∀ v ∈ fs, (nm v : Int) < b.made
  bytes : ∀ v ∈ fs, ∀ u ∈ dt v, ∃ z : Int, 0 ≤ z ∧ z < 256 ∧ u = .int .u8 z
  rises : fs.Pairwise fun u v => nm u < nm v
  lay : ps = layAll ss chl
  sin : ∀ p ∈ ss, p.2 ∈ fs
  cin : ∀ c ∈ chl, ∀ p ∈ c, p.2 = .pointer none ∨ p.2 ∈ fs
  made : 0 ≤ b.made ∧ b.made ≤ 80000
  quota : 0 ≤ b.quota ∧ b.quota ≤ 9223372036854775807
  calls : 0 ≤ b.calls ∧ b.calls ≤ 80000
  ahead : b.ahead ≤ 9223372036854775807
  lenF : fn ≤ 80000
  lenC : sn + 2 * cn ≤ 80000
section
variable {w w' : World} {d : Nat} {own own' : Nat → Nat} {b : DBox} {F RA SA C : Option Addr} {fn fc rn rc sn sc cn cc : Nat} {fs css : List Value} {ps ss : List (ByteArray × Value)} {chl : List (List (ByteArray × Value))} {nm su : Value → Nat} {dt : Value → List Value}
theorem FileO.carry {v : Value} {num sure : Nat} {xs : List Value} (h : FileO w own v num xs sure) (hz : w.heap.size ≤ w'.heap.size) (ho : ∀ k, k < w.heap.size → own' k = own k) (hs : ∀ k, k < w.heap.size → (own k = 7 ∨ own k = 8 + num) → w'.heap[k]? = w.heap[k]?) : FileO w' own' v num xs sure := by
  obtain ⟨f, A, n, c, e, h1, h2, h3, h4, h5⟩ := h
  have hf := lt_of_block h2
  exact ⟨f, A, n, c, e, (ho f hf).trans h1, h2.same (hs f hf (.inl h1)), h3.same hz (fun k hk => hs k (h3.lt k hk) (.inr (h4 k hk))), fun k hk => (ho k (h3.lt k hk)).trans (h4 k hk), h5⟩
theorem ChsO.carry (h : ChsO w own css chl) (hz : w.heap.size ≤ w'.heap.size) (ho : ∀ k, k < w.heap.size → own' k = own k) (hs : ∀ k, k < w.heap.size → own k = 6 → w'.heap[k]? = w.heap[k]?) : ChsO w' own' css chl := by
  refine ⟨h.1, fun i v chs h1 h2 => ?_⟩
  obtain ⟨pb, e, h3, h4, h5⟩ := h.2 i v chs h1 h2
  have hb : ∀ k ∈ blk (some (⟨pb, 0, none⟩ : Addr)), k = pb := fun k hk => by obtain ⟨ad, ea, he⟩ := mem_blk.1 hk; cases ea; exact he.symm
  have hl : pb < w.heap.size := h3.lt pb (mem_blk.2 ⟨_, rfl, rfl⟩)
  exact ⟨pb, e, h3.same hz (fun k hk => by rw [hb k hk]; exact hs pb hl h4), (ho pb hl).trans h4, h5⟩
/-- Where nothing of the disk's was written, the disk is as it was. -/
theorem DiskIn.carry (H : DiskIn w d own b F fn fc RA rn rc SA sn sc C cn cc fs ps ss css chl nm dt su) (hz : w.heap.size ≤ w'.heap.size) (ho : ∀ k, k < w.heap.size → own' k = own k) (hs : ∀ k, k < w.heap.size → own k ≠ 0 → w'.heap[k]? = w.heap[k]?) :
    DiskIn w' d own' b F fn fc RA rn rc SA sn sc C cn cc fs ps ss css chl nm dt su where
  box := (hs d H.box.lt (by rw [H.od]; omega)).trans H.box
  od := (ho d H.box.lt).trans H.od
  files := H.files
  line := H.line.same hz fun k hk => hs k (H.line.lt k hk) (by rw [H.oF k hk]; omega)
  oF := fun k hk => (ho k (H.line.lt k hk)).trans (H.oF k hk)
  now := H.now
  nrow := H.nrow.same hz fun k hk => hs k (H.nrow.lt' k hk) (by rw [H.oR k hk]; omega)
  oR := fun k hk => (ho k (H.nrow.lt' k hk)).trans (H.oR k hk)
  sure := H.sure
  srow := H.srow.same hz fun k hk => hs k (H.srow.lt' k hk) (by rw [H.oS k hk]; omega)
  oS := fun k hk => (ho k (H.srow.lt' k hk)).trans (H.oS k hk)
  changes := H.changes
  cline := H.cline.same hz fun k hk => hs k (H.cline.lt k hk) (by rw [H.oC k hk]; omega)
  oC := fun k hk => (ho k (H.cline.lt k hk)).trans (H.oC k hk)
  chs := H.chs.carry hz ho fun k hk h => hs k hk (by rw [h]; omega)
  file := fun v hv => (H.file v hv).carry hz ho fun k hk h => hs k hk (by omega)
  num := H.num
  bytes := H.bytes
  rises := H.rises
  lay := H.lay
  sin := H.sin
  cin := H.cin
  made := H.made
  quota := H.quota
  calls := H.calls
  ahead := H.ahead
  lenF := H.lenF
  lenC := H.lenC
theorem DiskIn.below (H : DiskIn w d own b F fn fc RA rn rc SA sn sc C cn cc fs ps ss css chl nm dt su) (hb : Below w.heap.size w w') : DiskIn w' d own b F fn fc RA rn rc SA sn sc C cn cc fs ps ss css chl nm dt su := H.carry hb.size (fun _ _ => rfl) (fun k hk _ => hb.block k hk)
/-- Where the box alone was written, and in it nothing of what it holds. -/
theorem DiskIn.boxed (H : DiskIn w d own b F fn fc RA rn rc SA sn sc C cn cc fs ps ss css chl nm dt su) (hc : Chg [d] w w') (b' : DBox) (hb : DBoxAt w' d b') (e1 : b'.files = b.files) (e2 : b'.now = b.now) (e3 : b'.sure = b.sure) (e4 : b'.changes = b.changes) (e5 : b'.made = b.made)
    (h6 : 0 ≤ b'.quota ∧ b'.quota ≤ 9223372036854775807) (h7 : 0 ≤ b'.calls ∧ b'.calls ≤ 80000) (h8 : b'.ahead ≤ 9223372036854775807) :
    DiskIn w' d own b' F fn fc RA rn rc SA sn sc C cn cc fs ps ss css chl nm dt su := by
  have hs : ∀ k, k < w.heap.size → own k ≠ 1 → w'.heap[k]? = w.heap[k]? := fun k hk h => hc.same k hk (fun hm => by rw [List.mem_singleton] at hm; rw [hm] at h; exact h H.od)
  exact {
    box := hb, od := H.od, files := e1.trans H.files
    line := H.line.same hc.size fun k hk => hs k (H.line.lt k hk) (by rw [H.oF k hk]; omega)
    oF := H.oF, now := e2.trans H.now
    nrow := H.nrow.same hc.size fun k hk => hs k (H.nrow.lt' k hk) (by rw [H.oR k hk]; omega)
    oR := H.oR, sure := e3.trans H.sure
    srow := H.srow.same hc.size fun k hk => hs k (H.srow.lt' k hk) (by rw [H.oS k hk]; omega)
    oS := H.oS, changes := e4.trans H.changes
    cline := H.cline.same hc.size fun k hk => hs k (H.cline.lt k hk) (by rw [H.oC k hk]; omega)
    oC := H.oC
    chs := H.chs.carry hc.size (fun _ _ => rfl) fun k hk h => hs k hk (by rw [h]; omega)
    file := fun v hv => (H.file v hv).carry hc.size (fun _ _ => rfl) fun k hk h => hs k hk (by omega)
    num := fun v hv => by rw [e5]; exact H.num v hv
    bytes := H.bytes, rises := H.rises, lay := H.lay, sin := H.sin, cin := H.cin
    made := by rw [e5]; exact H.made
    quota := h6, calls := h7, ahead := h8, lenF := H.lenF, lenC := H.lenC }
end
end Go.Proofs.Ytnjnlcmpfnabiaa
