/-
  The document's disk as it lies in memory; New, Used.
  The document's disk in memory: what its calls leave (no walk here).
  The document's disk: Call, where the power goes; where it lasts and the names may not be.
  The document's disk: Call 3 (SyncDir) with power.
-/
import Derived.Test.YtbjlikppboggmaaZat
import Derived.Test.YtbjlikppboggmaaZau
namespace Go.Proofs.Ytbjlikppboggmaa
open Go.RowKit Go.Maps
set_option linter.unusedVariables false
set_option maxRecDepth 100000

structure XBox where
  files : Value
  now : Value
  sure : Value
  changes : Value
  quota : Int
  full : Bool
  off : Bool
  stop : Int
  calls : Int
def XBox.cells (b : XBox) : Array Value := #[b.files, b.now, b.sure, b.changes, .int .i64 b.quota, .bool b.full, .bool b.off, .int .i64 b.stop, .int .i64 b.calls]
def XBoxAt (w : World) (x : Nat) (b : XBox) : Prop := w.heap[x]? = some (.cells b.cells 75 (0, 0))
section
variable {w w' : World} {x : Nat} {b : XBox}
theorem XBoxAt.lt (h : XBoxAt w x b) : x < w.heap.size := lt_of_block h
theorem XBoxAt.cell (h : XBoxAt w x b) (i : Nat) (v : Value) (hv : b.cells[i]? = some v) : w.cell? ⟨x, i, none⟩ = some v := by
  rw [cell_of_row w x i _ _ (0, 0) h]
  exact hv
theorem XBoxAt.free (h : XBoxAt w x b) (i : Nat) : w.frozen? ⟨x, i, none⟩ = false := frozen_of_row w x i _ _ h
theorem XBoxAt.set (h : XBoxAt w x b) (i : Nat) (v : Value) (b' : XBox) (hb : b.cells.setIfInBounds i v = b'.cells) : XBoxAt (w.setCell ⟨x, i, none⟩ v) x b' := by
  unfold XBoxAt
  rw [heap_setCell_same w x i _ _ v h, hb]
theorem XBoxAt.chg {l : List Nat} (h : XBoxAt w x b) (hc : Chg l w w') (hl : x ∉ l) : XBoxAt w' x b := (hc.same x h.lt hl).trans h
theorem XBoxAt.below (h : XBoxAt w x b) (hb : Below w.heap.size w w') : XBoxAt w' x b := (hb.block x h.lt).trans h
end
/-- Files as they lie in a line: of each its slice, and how many bytes are sure. -/
def flatF (vs : List (Value × Nat)) : List Value := vs.flatMap fun v => [v.1, .int .i64 (v.2 : Int)]
/-- Changes as they lie in a line: what goes, what is put, its number. -/
def flatC (cs : List (ByteArray × ByteArray × Nat)) : List Value := cs.flatMap fun c => [.string c.1, .string c.2.1, .int .i64 (c.2.2 : Int)]
/-- A change in pairs. -/
def pairs (c : ByteArray × ByteArray × Nat) : List (ByteArray × Value) := (if c.1 = ⟨#[]⟩ then [] else [(c.1, .pointer none)]) ++ (if c.2.1 = ⟨#[]⟩ then [] else [(c.2.1, numV c.2.2)])
theorem flatF_length (vs : List (Value × Nat)) : (flatF vs).length = vs.length * 2 := by
  induction vs with
  | nil => rfl
  | cons v l ih => unfold flatF at *; rw [List.flatMap_cons, List.length_append, ih, List.length_cons]; simp; omega
theorem flatC_length (cs : List (ByteArray × ByteArray × Nat)) : (flatC cs).length = cs.length * 3 := by
  induction cs with
  | nil => rfl
  | cons v l ih => unfold flatC at *; rw [List.flatMap_cons, List.length_append, ih, List.length_cons]; simp; omega
theorem flatF_at : ∀ (vs : List (Value × Nat)) (j : Nat) (v : Value × Nat), vs[j]? = some v → (flatF vs)[j * 2]? = some v.1 ∧ (flatF vs)[j * 2 + 1]? = some (.int .i64 (v.2 : Int)) := by
  intro vs
  induction vs with
  | nil => intro j v h; simp at h
  | cons u l ih =>
    intro j v h
    have e : flatF (u :: l) = [u.1, .int .i64 (u.2 : Int)] ++ flatF l := rfl
    cases j with
    | zero => simp at h; subst h; rw [e]; simp
    | succ k =>
      rw [List.getElem?_cons_succ] at h
      obtain ⟨h1, h2⟩ := ih k v h
      rw [e]
      constructor
      · rw [List.getElem?_append_right (by simp; omega)]; simp only [List.length_cons, List.length_nil]; rw [show (k + 1) * 2 - (0 + 1 + 1) = k * 2 by omega]; exact h1
      · rw [List.getElem?_append_right (by simp; omega)]; simp only [List.length_cons, List.length_nil]; rw [show (k + 1) * 2 + 1 - (0 + 1 + 1) = k * 2 + 1 by omega]; exact h2
/-- The files' bytes. -/
def FilesR (w : World) (ox : Nat → Nat) (vs : List (Value × Nat)) (fs : List Fl) : Prop :=
  vs.length = fs.length ∧ ∀ (i : Nat) (v : Value × Nat) (f : Fl), vs[i]? = some v → fs[i]? = some f → v.2 = f.sure ∧ ∃ A c, v.1 = .slice A f.data.length c ∧ SLine 1 w A f.data.length c f.data ∧ ∀ k ∈ blk A, ox k = 4
/-- The document's disk in memory: 1 its box, 2 its files' line, 3 its changes' line, 4 what is never written again. -/
structure RefIn (w : World) (x : Nat) (ox : Nat → Nat) (b : XBox) (FA : Option Addr) (fn fc : Nat) (NA : Option Addr) (nn nc : Nat) (SA : Option Addr) (sn sc : Nat) (CA : Option Addr) (cn cc : Nat) (vs : List (Value × Nat)) (cs : List (ByteArray × ByteArray × Nat)) (r : RD) : Prop where
  box : XBoxAt w x b
  ob : ox x = 1
  files : b.files = .slice FA fn fc
  fline : SLine 2 w FA fn fc (flatF vs)
  oF : ∀ k ∈ blk FA, ox k = 2
  fdata : FilesR w ox vs r.files
  now : b.now = .slice NA nn nc
  nrow : RowG encS ltS w NA nn nc r.now
  oN : ∀ k ∈ blk NA, ox k = 4
  sure : b.sure = .slice SA sn sc
  srow : RowG encS ltS w SA sn sc r.sure
  oS : ∀ k ∈ blk SA, ox k = 4
  changes : b.changes = .slice CA cn cc
  cline : SLine 3 w CA cn cc (flatC cs)
  oC : ∀ k ∈ blk CA, ox k = 3
  chs : r.chs = cs.map pairs
  quota : b.quota = r.quota
  full : b.full = r.full
  off : b.off = r.off
  stop : b.stop = r.stop
  calls : b.calls = (r.calls : Int)
def IsR (w : World) (x : Nat) (ox : Nat → Nat) (r : RD) : Prop := (∀ i, w.heap.size ≤ i → ox i = 0) ∧ ∃ b FA fn fc NA nn nc SA sn sc CA cn cc vs cs, RefIn w x ox b FA fn fc NA nn nc SA sn sc CA cn cc vs cs r
def RNext (w : World) (x : Nat) (ox : Nat → Nat) (r : RD) (w' : World) : Prop := ∃ ox', Only ox w ox' w' ∧ IsR w' x ox' r
/-- What holds of a disk that calls have made. -/
structure Fct (r : RD) : Prop where
  rn : Rises ltS r.now
  rs : Rises ltS r.sure
  nn : ∀ p ∈ r.now, ∃ k : Nat, p.2 = numV k ∧ k < r.files.length
  ns : ∀ p ∈ r.sure, ∃ k : Nat, p.2 = numV k ∧ k < r.files.length
  two : ∀ c ∈ r.chs, c.length ≤ 2
  data : ∀ p ∈ r.now, (r.file (numOf p.2)).data.length ≤ 1048576
  used : r.used ≤ 1000000000000
  quota : 0 ≤ r.quota ∧ r.quota ≤ 9223372036854775807
  stop : r.stop ≤ 9223372036854775807
section
variable {w w' : World} {x : Nat} {ox ox' : Nat → Nat} {b : XBox} {FA NA SA CA : Option Addr} {fn fc nn nc sn sc cn cc : Nat} {vs : List (Value × Nat)} {cs : List (ByteArray × ByteArray × Nat)} {r : RD}
theorem FilesR.carry {fs : List Fl} (h : FilesR w ox vs fs) (hz : w.heap.size ≤ w'.heap.size) (ho : ∀ k, k < w.heap.size → ox' k = ox k) (hs : ∀ k, k < w.heap.size → ox k = 4 → w'.heap[k]? = w.heap[k]?) : FilesR w' ox' vs fs := by
  refine ⟨h.1, fun i v f hv hf => ?_⟩
  obtain ⟨e1, A, c, e2, hl, h4⟩ := h.2 i v f hv hf
  exact ⟨e1, A, c, e2, hl.same hz (fun k hk => hs k (hl.lt k hk) (h4 k hk)), fun k hk => (ho k (hl.lt k hk)).trans (h4 k hk)⟩
theorem RefIn.carry (H : RefIn w x ox b FA fn fc NA nn nc SA sn sc CA cn cc vs cs r) (hz : w.heap.size ≤ w'.heap.size) (ho : ∀ k, k < w.heap.size → ox' k = ox k) (hs : ∀ k, k < w.heap.size → ox k ≠ 0 → w'.heap[k]? = w.heap[k]?) : RefIn w' x ox' b FA fn fc NA nn nc SA sn sc CA cn cc vs cs r :=
  { H with
    box := (hs x H.box.lt (by rw [H.ob]; omega)).trans H.box
    ob := (ho x H.box.lt).trans H.ob
    fline := H.fline.same hz fun k hk => hs k (H.fline.lt k hk) (by rw [H.oF k hk]; omega)
    oF := fun k hk => (ho k (H.fline.lt k hk)).trans (H.oF k hk)
    fdata := H.fdata.carry hz ho fun k hk h => hs k hk (by omega)
    nrow := H.nrow.same hz fun k hk => hs k (H.nrow.lt' k hk) (by rw [H.oN k hk]; omega)
    oN := fun k hk => (ho k (H.nrow.lt' k hk)).trans (H.oN k hk)
    srow := H.srow.same hz fun k hk => hs k (H.srow.lt' k hk) (by rw [H.oS k hk]; omega)
    oS := fun k hk => (ho k (H.srow.lt' k hk)).trans (H.oS k hk)
    cline := H.cline.same hz fun k hk => hs k (H.cline.lt k hk) (by rw [H.oC k hk]; omega)
    oC := fun k hk => (ho k (H.cline.lt k hk)).trans (H.oC k hk) }
theorem RefIn.below (H : RefIn w x ox b FA fn fc NA nn nc SA sn sc CA cn cc vs cs r) (hb : Below w.heap.size w w') : RefIn w' x ox b FA fn fc NA nn nc SA sn sc CA cn cc vs cs r := H.carry hb.size (fun _ _ => rfl) (fun k hk _ => hb.block k hk)
theorem RNext.of (hF : ∀ i, w.heap.size ≤ i → ox i = 0) (hO : Only ox w ox' w') (H : RefIn w' x ox' b FA fn fc NA nn nc SA sn sc CA cn cc vs cs r) : RNext w x ox r w' := by
  have hz := hO.1.size
  refine ⟨fun i => if i < w'.heap.size then ox' i else 0, ⟨hO.1, fun i hi => (if_pos (by omega)).trans (hO.2.1 i hi), hO.2.2⟩, fun i hi => if_neg (by omega), b, FA, fn, fc, NA, nn, nc, SA, sn, sc, CA, cn, cc, vs, cs, ?_⟩
  exact H.carry (Nat.le_refl _) (fun i hi => if_pos hi) (fun i hi _ => rfl)
theorem IsR.carry (h : IsR w x ox r) (hz : w.heap.size ≤ w'.heap.size) (ho : ∀ k, k < w.heap.size → ox' k = ox k) (hs : ∀ k, k < w.heap.size → ox k ≠ 0 → w'.heap[k]? = w.heap[k]?) (hF : ∀ i, w'.heap.size ≤ i → ox' i = 0) : IsR w' x ox' r := by
  obtain ⟨_, b, FA, fn, fc, NA, nn, nc, SA, sn, sc, CA, cn, cc, vs, cs, H⟩ := h
  exact ⟨hF, b, FA, fn, fc, NA, nn, nc, SA, sn, sc, CA, cn, cc, vs, cs, H.carry hz ho hs⟩
theorem IsR.below (h : IsR w x ox r) (hB : Below w.heap.size w w') : IsR w' x ox r := h.carry hB.size (fun _ _ => rfl) (fun k hk _ => hB.block k hk) (fun i hi => h.1 i (by have := hB.size; omega))
theorem IsR.ob (h : IsR w x ox r) : ox x ≠ 0 := by
  obtain ⟨_, b, FA, fn, fc, NA, nn, nc, SA, sn, sc, CA, cn, cc, vs, cs, H⟩ := h
  rw [H.ob]
  omega
theorem Fct.nums (F : Fct r) (hs : r.size ≤ 80000) : Nums r.now := fun p hp => by
  obtain ⟨k, e, hk⟩ := F.nn p hp
  unfold RD.size at hs
  exact ⟨k, e, by omega⟩
theorem Fct.len (F : Fct r) (hs : r.size ≤ 80000) : r.now.length ≤ 80000 := by
  have h := (layAll_len r.chs r.sure F.rs F.two).2
  unfold RD.size at hs
  unfold RD.now
  omega
set_option maxHeartbeats 1600000 in
theorem RefIn.isUsed (H : RefIn w x ox b FA fn fc NA nn nc SA sn sc CA cn cc vs cs r) (F : Fct r) (hs : r.size ≤ 80000) :
    Calls Try.prog 38 #[.pointer (some ⟨x, 0, none⟩)] w fun e w' => e = .returned (.int .i64 (r.used : Int)) ∧ Below w.heap.size w w' := by
  have c0 : w.cell? ⟨x, 0, none⟩ = some (.slice FA fn fc) := H.box.cell 0 _ (by show some b.files = _; rw [H.files])
  have c1 : w.cell? ⟨x, 1, none⟩ = some (.slice NA nn nc) := H.box.cell 1 _ (by show some b.now = _; rw [H.now])
  have hxl := H.box.lt
  have hlen := F.len hs
  have hnl := H.nrow.len
  have HH := Lib.hid H
  have HF := Lib.hid F
  have hnum := F.nums hs
  have HN := Lib.hid hnum
  obtain ⟨ln, hln⟩ : ∃ ln : Value → Nat, ln = fun v => (r.file (numOf v)).data.length := ⟨_, rfl⟩
  have HLN := Lib.hid hln
  have hus : r.used = sumLen ln r.now := by rw [hln]; rfl
  have HUS := Lib.hid (And.intro hus F.used)
  have HNL := Lib.hid hnl
  have hnn : nn ≤ 80000 := by omega
  clear H F hln hus hnum hs hlen hnl
  go_enter Try.func38, Try.ntmps38
  go_wp2
  go_loopw [3, 11] (fun s i wr => ∃ k : Nat, k ≤ nn ∧ i = .int .i64 k ∧ s = .int .i64 (sumLen ln (r.now.take k) : Nat) ∧ Hid (Below w.heap.size w wr)) (fun _ i _ => nn - (intOf i).toNat)
  case atStart => exact ⟨0, by omega, rfl, rfl, Lib.hid (Below.refl _ _)⟩
  case round =>
    obtain ⟨k, hk, rfl, rfl, HB⟩ := hrel
    rcases Nat.lt_or_ge k nn with hkn | hkn
    · obtain ⟨p, hp⟩ : ∃ p, r.now[k]? = some p := ⟨_, List.getElem?_eq_getElem (by rw [HNL.out]; exact hkn)⟩
      obtain ⟨nm, v⟩ := p
      obtain ⟨num, hnum, hnf⟩ := HF.out.nn _ (List.mem_of_getElem? hp)
      simp only at hnum
      subst hnum
      have hd := HF.out.data _ (List.mem_of_getElem? hp)
      simp only [numOf_numV] at hd
      have HTK : Hid (sumLen ln (r.now.take (k + 1)) = sumLen ln (r.now.take k) + (r.file num).data.length) := Lib.hid (by
        rw [List.take_add_one, hp]
        show sumLen ln (r.now.take k ++ [(nm, numV num)]) = _
        rw [sumLen_snoc]
        rw [HLN.out]
        simp only [numOf_numV])
      have hle : sumLen ln (r.now.take k) ≤ 1000000000000 := Nat.le_trans (sumLen_prefix ln (List.take_prefix _ _)) (by rw [← HUS.out.1]; exact HUS.out.2)
      have H2 := HH.out.below HB.out
      obtain ⟨g, off, rfl, hg, hcs, _⟩ := H2.nrow.at (by omega)
      obtain ⟨d0, d1⟩ := hcs k _ hp
      unfold encS at d0
      unfold numV at d1
      have hfl : num < fn := by have h1 := H2.fline.1; rw [flatF_length, H2.fdata.1] at h1; omega
      obtain ⟨fv, hfv⟩ : ∃ fv, vs[num]? = some fv := ⟨_, List.getElem?_eq_getElem (by rw [H2.fdata.1]; exact hnf)⟩
      obtain ⟨_, A9, c9, e9, hl9, _⟩ := H2.fdata.2 num fv (r.file num) hfv (by unfold RD.file; rw [List.getD_eq_getElem?_getD, List.getElem?_eq_getElem hnf]; rfl)
      obtain ⟨y0, y1⟩ := flatF_at vs num fv hfv
      rw [e9] at y0
      obtain ⟨g2, o2, rfl, hg2, hcs2, _⟩ := H2.fline.at (by omega)
      obtain ⟨Wa, hWa⟩ : ∃ Wa, wr.alloc (.cells #[.string nm, .int .i64 (num : Int)] 79) = Wa := ⟨_, rfl⟩
      have hBa : Below wr.heap.size wr Wa := by rw [← hWa]; exact (Below.refl _ wr).alloc (Nat.le_refl _) _
      have hva : Wa.heap[wr.heap.size]? = some (.cells #[.string nm, .int .i64 (num : Int)] 79 (0, 0)) := by rw [← hWa]; exact heap_alloc_new wr _
      have z0 : Wa.cell? ⟨x, 0, none⟩ = some (.slice (some ⟨g2, o2, none⟩) fn fc) := (H2.box.below hBa).cell 0 _ (by show some b.files = _; rw [H2.files])
      have z1 : Wa.cell? ⟨g2, o2 + num * 2, none⟩ = some (.slice A9 (r.file num).data.length c9) := by
        rw [World.cell?_of_block (w := wr) (a := ⟨g2, o2 + num * 2, none⟩) (hBa.block g2 hg2)]
        exact (hcs2 (num * 2) (by omega)).trans y0
      obtain ⟨va, hvae⟩ : ∃ va, wr.heap.size = va := ⟨_, rfl⟩
      rw [hvae] at hva
      have e0 : Wa.cell? ⟨va, 0, none⟩ = some (.string nm) := by rw [cell_of_row _ va 0 _ _ (0, 0) hva]; rfl
      have e1 : Wa.cell? ⟨va, 1, none⟩ = some (.int .i64 (num : Int)) := by rw [cell_of_row _ va 1 _ _ (0, 0) hva]; rfl
      have x0 : Wa.frozen? ⟨va, 0, none⟩ = false := frozen_of_row Wa va 0 _ _ hva
      have x1 : Wa.frozen? ⟨va, 1, none⟩ = false := frozen_of_row Wa va 1 _ _ hva
      have HBA : ∀ n, Hid (Below w.heap.size w (Wa.drewN n)) := fun n => Lib.hid (HB.out.trans ((hBa.trans (((below_drewN Wa n)).mono hBa.size)).mono HB.out.size))
      have hkn' : (k : Int) < (nn : Int) := by omega
      have hk0 : (0 : Int) ≤ (k : Int) := by omega
      have hn1 : (num : Int) < (fn : Int) := by omega
      have hn0 : (0 : Int) ≤ (num : Int) := by omega
      obtain ⟨S, hS⟩ : ∃ S, sumLen ln (r.now.take k) = S := ⟨_, rfl⟩
      obtain ⟨L, hL⟩ : ∃ L, (r.file num).data.length = L := ⟨_, rfl⟩
      rw [hS] at hle HTK ⊢
      rw [hL] at hd HTK z1
      have hwr : IntKind.i64.wrap ((S : Int) + (L : Int)) = (S : Int) + (L : Int) := by rw [IntKind.wrap_i64]; omega
      clear hS hL H2 hg hcs hp hg2 hcs2 hfv hl9 y0 y1 hBa hva hnf hfl
      go_wp2_with fail
      go_quiet (fail)
      go_wp2
      go_roundw
      case rel => exact ⟨k + 1, by omega, by go_num, by rw [HTK.out]; go_num, HBA _⟩
      case measure => simp [intOf] <;> omega
    · obtain rfl : k = nn := by omega
      have HR : Hid (sumLen ln (r.now.take k) = r.used) := Lib.hid (by rw [List.take_of_length_le (by rw [HNL.out]; exact Nat.le_refl _), HUS.out.1])
      go_wp2
      go_ret
      exact ⟨by rw [HR.out]; rfl, HB.out⟩
end
theorem IsR.isUsed {w : World} {x : Nat} {ox : Nat → Nat} {r : RD} (h : IsR w x ox r) (F : Fct r) (hs : r.size ≤ 80000) :
    Calls Try.prog 38 #[.pointer (some ⟨x, 0, none⟩)] w fun e w' => e = .returned (.int .i64 (r.used : Int)) ∧ Below w.heap.size w w' := by
  obtain ⟨_, b, FA, fn, fc, NA, nn, nc, SA, sn, sc, CA, cn, cc, vs, cs, H⟩ := h
  exact H.isUsed F hs
theorem IsR.new (q : Int) (hq : q ≤ 9223372036854775807) (w : World) : Calls Try.prog 8 #[.int .i64 q] w fun e w' =>
    e = .returned (.pointer (some ⟨w.heap.size, 0, none⟩)) ∧ ∃ ox', (∀ i, i < w.heap.size → ox' i = 0) ∧ IsR w' w.heap.size ox' (RD.fresh q) ∧ Below w.heap.size w w' := by
  obtain ⟨m, hm⟩ : ∃ m, max q 0 = m := ⟨_, rfl⟩
  have HFIN : Hid (∃ ox' : Nat → Nat, (∀ i, i < w.heap.size → ox' i = 0) ∧ IsR (w.alloc (.cells #[.slice none 0 0, .slice none 0 0, .slice none 0 0, .slice none 0 0, .int .i64 m, .bool false, .bool false, .int .i64 (-1), .int .i64 0] 75)) w.heap.size ox' (RD.fresh q) ∧ Below w.heap.size w (w.alloc (.cells #[.slice none 0 0, .slice none 0 0, .slice none 0 0, .slice none 0 0, .int .i64 m, .bool false, .bool false, .int .i64 (-1), .int .i64 0] 75))) := Lib.hid (by
    refine ⟨fun i => if i = w.heap.size then 1 else 0, fun i hi => if_neg (by omega), ⟨fun i hi => if_neg (by simp at hi; omega), ⟨.slice none 0 0, .slice none 0 0, .slice none 0 0, .slice none 0 0, m, false, false, -1, 0⟩, none, 0, 0, none, 0, 0, none, 0, 0, none, 0, 0, [], [], ?_⟩, (Below.refl _ w).alloc (Nat.le_refl _) _⟩
    have hn : ∀ k, k ∈ blk none → False := fun k hk => by obtain ⟨ad, ea, _⟩ := mem_blk.1 hk; cases ea
    exact {
      box := heap_alloc_new w _
      ob := if_pos rfl
      files := rfl
      fline := SLine.nil 2 _
      oF := fun k hk => (hn k hk).elim
      fdata := ⟨rfl, fun i v f h => by simp at h⟩
      now := rfl
      nrow := RowG.nil _
      oN := fun k hk => (hn k hk).elim
      sure := rfl
      srow := RowG.nil _
      oS := fun k hk => (hn k hk).elim
      changes := rfl
      cline := SLine.nil 3 _
      oC := fun k hk => (hn k hk).elim
      chs := rfl
      quota := hm.symm
      full := rfl
      off := rfl
      stop := rfl
      calls := rfl })
  go_enter Try.func8, Try.ntmps8
  go_wp2
  go_ret
  exact ⟨rfl, HFIN.out⟩
end Go.Proofs.Ytbjlikppboggmaa
namespace Go.Proofs.Ytbjlikppboggmaa
open Go.RowKit Go.Maps
set_option linter.unusedVariables false
set_option maxRecDepth 100000

theorem rises_ext : ∀ (a b : List (ByteArray × Value)), Rises ltS a → Rises ltS b → (∀ q, q ∈ a ↔ q ∈ b) → a = b := by
  intro a
  induction a with
  | nil =>
    intro b _ _ h
    cases b with
    | nil => rfl
    | cons y m => exact absurd ((h y).2 (List.mem_cons_self ..)) (by simp)
  | cons x l ih =>
    intro b ha hb h
    cases b with
    | nil => exact absurd ((h x).1 (List.mem_cons_self ..)) (by simp)
    | cons y m =>
      obtain ⟨a1, a2⟩ := List.pairwise_cons.1 ha
      obtain ⟨b1, b2⟩ := List.pairwise_cons.1 hb
      have hxy : x = y := by
        rcases List.mem_cons.1 ((h x).1 (List.mem_cons_self ..)) with e | e
        · exact e
        · rcases List.mem_cons.1 ((h y).2 (List.mem_cons_self ..)) with e' | e'
          · exact e'.symm
          · have h1 := b1 x e
            have h2 := a1 y e'
            have := orders_S.asym h1
            rw [this] at h2
            cases h2
      subst hxy
      rw [ih m a2 b2 (fun q => ⟨fun hq => by
        rcases List.mem_cons.1 ((h q).1 (List.mem_cons_of_mem _ hq)) with e | e
        · have := a1 q hq; rw [e, orders_S.irr] at this; cases this
        · exact e, fun hq => by
        rcases List.mem_cons.1 ((h q).2 (List.mem_cons_of_mem _ hq)) with e | e
        · have := b1 q hq; rw [e, orders_S.irr] at this; cases this
        · exact e⟩)]
theorem mem_out {ps : List (ByteArray × Value)} {g p : ByteArray} {q : ByteArray × Value} : q ∈ outP ps g p ↔ q ∈ ps ∧ q.1 ≠ g ∧ q.1 ≠ p := by
  unfold outP
  rw [List.mem_filter, decide_eq_true_eq]
theorem applyN_lay {ps : List (ByteArray × Value)} (hr : Rises ltS ps) (he : ∀ q ∈ ps, q.1 ≠ ⟨#[]⟩) (g p : ByteArray) (k : Nat) : applyN ps g p k = layP ps (pairs (g, p, k)) := by
  have hv : ∀ l : List (ByteArray × Value), ∀ c, layP l [c] = layOne l c := fun l c => rfl
  have hv2 : ∀ l : List (ByteArray × Value), ∀ c e, layP l [c, e] = layOne (layOne l c) e := fun l c e => rfl
  have hn : ∀ l : List (ByteArray × Value), ∀ z, layOne l (z, numV k) = putP ltS l z (numV k) := fun l z => layOne_put l (z, numV k) (fun e => by cases e)
  unfold applyN pairs
  by_cases hp : p = ⟨#[]⟩
  · rw [if_pos hp]
    simp only [hp, if_true, List.append_nil]
    by_cases hg : g = ⟨#[]⟩
    · rw [if_pos hg]
      show _ = ps
      unfold outP
      rw [List.filter_eq_self]
      intro q hq
      exact decide_eq_true ⟨by rw [hg]; exact he q hq, he q hq⟩
    · rw [if_neg hg, hv, layOne_drop]
      refine rises_ext _ _ (rises_out hr _ _) (rises_drop orders_S hr) fun q => ?_
      rw [mem_out, mem_dropP orders_S]
      exact ⟨fun h => ⟨h.1, h.2.1⟩, fun h => ⟨h.1, h.2, he q h.1⟩⟩
  · rw [if_neg hp]
    by_cases hg : g = ⟨#[]⟩
    · simp only [hg, hp, if_true, if_false, List.nil_append]
      rw [hv, hn]
      refine rises_ext _ _ (rises_put orders_S (rises_out hr _ _) _) (rises_put orders_S hr _) fun q => ?_
      rw [mem_putP orders_S, mem_putP orders_S, mem_out]
      exact ⟨fun h => h.imp id (fun h => ⟨h.1.1, h.2⟩), fun h => h.imp id (fun h => ⟨⟨h.1, he q h.1, h.2⟩, h.2⟩)⟩
    · simp only [hg, hp, if_false, List.cons_append, List.nil_append]
      rw [hv2, layOne_drop, hn]
      refine rises_ext _ _ (rises_put orders_S (rises_out hr _ _) _) (rises_put orders_S (rises_drop orders_S hr) _) fun q => ?_
      rw [mem_putP orders_S, mem_putP orders_S, mem_out, mem_dropP orders_S]
      exact ⟨fun h => h.imp id (fun h => ⟨⟨h.1.1, h.1.2.1⟩, h.2⟩), fun h => h.imp id (fun h => ⟨⟨h.1.1, h.1.2, h.2⟩, h.2⟩)⟩
theorem flatC_snoc (cs : List (ByteArray × ByteArray × Nat)) (c : ByteArray × ByteArray × Nat) : flatC (cs ++ [c]) = flatC cs ++ [.string c.1, .string c.2.1, .int .i64 (c.2.2 : Int)] := by unfold flatC; rw [List.flatMap_append]; rfl
theorem flatF_snoc (vs : List (Value × Nat)) (v : Value × Nat) : flatF (vs ++ [v]) = flatF vs ++ [v.1, .int .i64 (v.2 : Int)] := by unfold flatF; rw [List.flatMap_append]; rfl
theorem atN_num {r : RD} (F : Fct r) (x : ByteArray) : (atN r.now x = -1 ∧ hasP ltS r.now x = false) ∨ (atN r.now x = (r.num x : Int) ∧ hasP ltS r.now x = true ∧ r.num x < r.files.length ∧ lookP ltS r.now x = some (numV (r.num x))) := by
  unfold atN hasP RD.num
  cases h : lookP ltS r.now x with
  | none => exact .inl ⟨rfl, rfl⟩
  | some v =>
    obtain ⟨k, e, hk⟩ := F.nn _ ((look_some orders_S F.rn).1 h)
    simp only at e
    subst e
    refine .inr ⟨rfl, rfl, ?_, ?_⟩
    · rw [Option.getD_some, numOf_numV]; exact hk
    · rw [Option.getD_some, numOf_numV]
section
variable {w w' : World} {x : Nat} {ox ox' : Nat → Nat} {b : XBox} {FA NA SA CA : Option Addr} {fn fc nn nc sn sc cn cc : Nat} {vs : List (Value × Nat)} {cs : List (ByteArray × ByteArray × Nat)} {r : RD}
/-- Where the box alone was written, and none of its lines is another. -/
theorem RefIn.boxed (H : RefIn w x ox b FA fn fc NA nn nc SA sn sc CA cn cc vs cs r) (hc : Chg [x] w w') (b' : XBox) (hb : XBoxAt w' x b') (r' : RD) (e1 : b'.files = b.files) (e2 : b'.now = b.now) (e3 : b'.sure = b.sure) (e4 : b'.changes = b.changes) (e5 : r'.files = r.files) (e6 : r'.sure = r.sure) (e7 : r'.chs = r.chs)
    (q : b'.quota = r'.quota) (f : b'.full = r'.full) (o : b'.off = r'.off) (s : b'.stop = r'.stop) (c : b'.calls = (r'.calls : Int)) : RefIn w' x ox b' FA fn fc NA nn nc SA sn sc CA cn cc vs cs r' := by
  have hs : ∀ k, k < w.heap.size → ox k ≠ 1 → w'.heap[k]? = w.heap[k]? := fun k hk h => hc.same k hk (fun hm => by rw [List.mem_singleton] at hm; rw [hm] at h; exact h H.ob)
  have en : r'.now = r.now := by unfold RD.now; rw [e6, e7]
  exact {
    box := hb, ob := H.ob, files := e1.trans H.files
    fline := H.fline.same hc.size fun k hk => hs k (H.fline.lt k hk) (by rw [H.oF k hk]; omega)
    oF := H.oF
    fdata := by rw [e5]; exact H.fdata.carry hc.size (fun _ _ => rfl) fun k hk h => hs k hk (by omega)
    now := e2.trans H.now
    nrow := by rw [en]; exact H.nrow.same hc.size fun k hk => hs k (H.nrow.lt' k hk) (by rw [H.oN k hk]; omega)
    oN := H.oN
    sure := e3.trans H.sure
    srow := by rw [e6]; exact H.srow.same hc.size fun k hk => hs k (H.srow.lt' k hk) (by rw [H.oS k hk]; omega)
    oS := H.oS
    changes := e4.trans H.changes
    cline := H.cline.same hc.size fun k hk => hs k (H.cline.lt k hk) (by rw [H.oC k hk]; omega)
    oC := H.oC
    chs := by rw [e7]; exact H.chs
    quota := q, full := f, off := o, stop := s, calls := c }
theorem RefIn.only1 (H : RefIn w x ox b FA fn fc NA nn nc SA sn sc CA cn cc vs cs r) (hc : Chg [x] w w') : Only ox w ox w' := Only.of_chg hc (fun k hk => by rw [List.mem_singleton] at hk; rw [hk, H.ob]; exact .inl (by omega))
/-- A change of the directory: the new names, the changes' line grown. -/
theorem RefIn.turned (H : RefIn w x ox b FA fn fc NA nn nc SA sn sc CA cn cc vs cs r) (c : ByteArray × ByteArray × Nat) {V3 V4 V5 V6 V7 : World} (hB3 : Below w.heap.size w V3) (A' : Option Addr) (n' c' : Nat) (hrow : RowG encS ltS V3 A' n' c' (layP r.now (pairs c))) (hA' : ∀ k ∈ blk A', w.heap.size ≤ k)
    (e4 : V3.setCell ⟨x, 1, none⟩ (.slice A' n' c') = V4) (hB5 : Below V4.heap.size V4 V5) (C' : Option Addr) (c2 : Nat) (hl : SLine 3 V6 C' (cn + 1) c2 (flatC (cs ++ [c]))) (hc6 : Chg (blk CA) V5 V6) (hC' : ∀ k ∈ blk C', k ∈ blk CA ∨ V5.heap.size ≤ k) (e7 : V6.setCell ⟨x, 3, none⟩ (.slice C' (cn + 1) c2) = V7) :
    ∃ ox', Only ox w ox' V7 ∧ RefIn V7 x ox' { b with now := .slice A' n' c', changes := .slice C' (cn + 1) c2 } FA fn fc A' n' c' SA sn sc C' (cn + 1) c2 vs (cs ++ [c]) { r with chs := r.chs ++ [pairs c] } := by
  have hx := H.box.lt
  have hb3 := H.box.below hB3
  have hc4 : Chg [x] V3 V4 := by rw [← e4]; exact (Chg.refl _ V3).setCell x 1 _ (.inl (by simp))
  have hb4 : XBoxAt V4 x { b with now := .slice A' n' c' } := by rw [← e4]; exact hb3.set 1 _ _ rfl
  have hz3 := hB3.size
  have hz4 := hc4.size
  have hz5 := hB5.size
  have hz6 := hc6.size
  have hb5 := hb4.below hB5
  have hxC : x ∉ blk CA := fun hm => by have := H.oC x hm; have := H.ob; omega
  have hb6 := hb5.chg hc6 hxC
  have hc7 : Chg [x] V6 V7 := by rw [← e7]; exact (Chg.refl _ V6).setCell x 3 _ (.inl (by simp))
  have hb7 : XBoxAt V7 x { b with now := .slice A' n' c', changes := .slice C' (cn + 1) c2 } := by rw [← e7]; exact hb6.set 3 _ _ rfl
  have hz7 := hc7.size
  have hC'w : ∀ k ∈ blk C', k ∈ blk CA ∨ w.heap.size ≤ k := fun k hk => (hC' k hk).imp id (fun h => by omega)
  have hA5 : ∀ k ∈ blk A', k < V3.heap.size := hrow.lt'
  have hxA : x ∉ blk A' := fun hm => by have := hA' x hm; omega
  have hxC' : x ∉ blk C' := fun hm => by rcases hC'w x hm with h | h; exact hxC h; omega
  have hAC : ∀ k ∈ blk A', k ∉ blk CA := fun k hk hm => by have := hA' k hk; have := H.cline.lt k hm; omega
  have hAC' : ∀ k ∈ blk A', k ∉ blk C' := fun k hk hm => by
    rcases hC' k hm with h | h
    · exact hAC k hk h
    · have := hA5 k hk; omega
  have hsame : ∀ k, k < w.heap.size → k ≠ x → k ∉ blk CA → V7.heap[k]? = w.heap[k]? := fun k hk h1 h3 =>
    (hc7.same k (by omega) (by rw [List.mem_singleton]; exact h1)).trans ((hc6.same k (by omega) h3).trans ((hB5.block k (by omega)).trans ((hc4.same k (by omega) (by rw [List.mem_singleton]; exact h1)).trans (hB3.block k hk))))
  obtain ⟨ox', hox⟩ : ∃ ox' : Nat → Nat, ox' = fun i => if i < w.heap.size then ox i else if i ∈ blk A' then 4 else if i ∈ blk C' then 3 else 0 := ⟨_, rfl⟩
  have ho : ∀ i, i < w.heap.size → ox' i = ox i := fun i hi => by rw [hox]; simp only [hi, if_true]
  have hs : ∀ i, i < w.heap.size → ox i ≠ 1 → ox i ≠ 3 → V7.heap[i]? = w.heap[i]? := fun i hi h1 h3 => hsame i hi (fun e => h1 (by rw [e]; exact H.ob)) (fun hm => h3 (H.oC i hm))
  refine ⟨ox', ⟨hB3.mono (Nat.zero_le _) |>.trans (hc4.below.trans ((hB5.mono (Nat.zero_le _)).trans (hc6.below.trans hc7.below))), ho, fun i hi h0 => hs i hi (by omega) (by omega)⟩, ?_⟩
  have hnow : RD.now { r with chs := r.chs ++ [pairs c] } = layP r.now (pairs c) := by
    unfold RD.now
    exact layAll_snoc _ _ _
  exact {
    box := hb7
    ob := (ho x hx).trans H.ob
    files := H.files
    fline := H.fline.same (by omega) fun k hk => hs k (H.fline.lt k hk) (by rw [H.oF k hk]; omega) (by rw [H.oF k hk]; omega)
    oF := fun k hk => (ho k (H.fline.lt k hk)).trans (H.oF k hk)
    fdata := H.fdata.carry (by omega) ho fun k hk h => hs k hk (by omega) (by omega)
    now := rfl
    nrow := by
      rw [hnow]
      exact ((hrow.chg hc4 (fun k hk hm => hxA (by rw [List.mem_singleton] at hm; rw [← hm]; exact hk))).below hB5).chg hc6 hAC |>.chg hc7 (fun k hk hm => hxA (by rw [List.mem_singleton] at hm; rw [← hm]; exact hk))
    oN := fun i hi => by have := hA' i hi; rw [hox]; simp only [show ¬ i < w.heap.size by omega, if_false, hi, if_true]
    sure := H.sure
    srow := H.srow.same (by omega) fun k hk => hs k (H.srow.lt' k hk) (by rw [H.oS k hk]; omega) (by rw [H.oS k hk]; omega)
    oS := fun k hk => (ho k (H.srow.lt' k hk)).trans (H.oS k hk)
    changes := rfl
    cline := hl.chg hc7 (fun k hk hm => hxC' (by rw [List.mem_singleton] at hm; rw [← hm]; exact hk))
    oC := fun i hi => by
      rcases Nat.lt_or_ge i w.heap.size with h | h
      · rw [ho i h]
        rcases hC'w i hi with h' | h'
        · exact H.oC i h'
        · omega
      · have hnA : i ∉ blk A' := fun hm => hAC' i hm hi
        rw [hox]; simp only [show ¬ i < w.heap.size by omega, if_false, hnA, hi, if_true]
    chs := by rw [List.map_append, ← H.chs]; rfl
    quota := H.quota, full := H.full, off := H.off, stop := H.stop, calls := H.calls }
end
end Go.Proofs.Ytbjlikppboggmaa
namespace Go.Proofs.Ytbjlikppboggmaa
open Go.RowKit Go.Maps
set_option linter.unusedVariables false
set_option maxRecDepth 100000

/-- The box behind the counting of a call. -/
def poweredX (b : XBox) : XBox := if b.off = true then b else if b.stop = 0 then { b with calls := b.calls + 1, off := true } else if 0 < b.stop then { b with calls := b.calls + 1, stop := b.stop - 1 } else { b with calls := b.calls + 1 }
section
variable {w w' : World} {x : Nat} {ox ox' : Nat → Nat} {b : XBox} {FA NA SA CA : Option Addr} {fn fc nn nc sn sc cn cc : Nat} {vs : List (Value × Nat)} {cs : List (ByteArray × ByteArray × Nat)} {r : RD}
theorem RefIn.powered (H : RefIn w x ox b FA fn fc NA nn nc SA sn sc CA cn cc vs cs r) (hc : Chg [x] w w') (hb : XBoxAt w' x (poweredX b)) : RefIn w' x ox (poweredX b) FA fn fc NA nn nc SA sn sc CA cn cc vs cs r.powered := by
  have h : (poweredX b).files = b.files ∧ (poweredX b).now = b.now ∧ (poweredX b).sure = b.sure ∧ (poweredX b).changes = b.changes ∧ (poweredX b).quota = b.quota ∧ (poweredX b).full = b.full := by
    unfold poweredX; split; exact ⟨rfl, rfl, rfl, rfl, rfl, rfl⟩; split; exact ⟨rfl, rfl, rfl, rfl, rfl, rfl⟩; split <;> exact ⟨rfl, rfl, rfl, rfl, rfl, rfl⟩
  have h2 : (poweredX b).off = r.powered.off ∧ (poweredX b).stop = r.powered.stop ∧ (poweredX b).calls = (r.powered.calls : Int) := by
    have h1 := H.off
    have h2 := H.stop
    have h3 := H.calls
    unfold poweredX RD.powered
    rw [h1, h2]
    split
    · exact ⟨h1, h2, h3⟩
    · split
      · exact ⟨rfl, rfl, by show b.calls + 1 = ((r.calls + 1 : Nat) : Int); omega⟩
      · split
        · exact ⟨rfl, rfl, by show b.calls + 1 = ((r.calls + 1 : Nat) : Int); omega⟩
        · exact ⟨rfl, rfl, by show b.calls + 1 = ((r.calls + 1 : Nat) : Int); omega⟩
  exact H.boxed hc _ hb r.powered h.1 h.2.1 h.2.2.1 h.2.2.2.1 r.powered_files r.powered_sure r.powered_chs (by rw [h.2.2.2.2.1, r.powered_quota]; exact H.quota) (by rw [h.2.2.2.2.2, r.powered_full]; exact H.full) h2.1 h2.2.1 h2.2.2
set_option maxHeartbeats 1600000 in
/-- No power. -/
theorem RefIn.call_off (H : RefIn w x ox b FA fn fc NA nn nc SA sn sc CA cn cc vs cs r) (hF : ∀ i, w.heap.size ≤ i → ox i = 0) (hs : r.size ≤ 79000) (hon : r.on = false) (kind : Int) (nm to_ : ByteArray) (BA : Option Addr) (bn bc : Nat) :
    Calls Try.prog 33 #[.pointer (some ⟨x, 0, none⟩), .int .i64 kind, .string nm, .string to_, .slice BA bn bc] w fun e w' => e = .returned (.int .i64 5) ∧ RNext w x ox r.powered w' := by
  have hcl : b.calls = (r.calls : Int) := H.calls
  have hcb : 0 ≤ b.calls ∧ b.calls ≤ 80000 := by unfold RD.size at hs; omega
  have HH := Lib.hid (And.intro H hF)
  have hof := H.off
  have hst := H.stop
  unfold RD.on at hon
  rw [← hof, ← hst] at hon
  have c6 : w.cell? ⟨x, 6, none⟩ = some (.bool b.off) := H.box.cell 6 _ rfl
  have c7 : w.cell? ⟨x, 7, none⟩ = some (.int .i64 b.stop) := H.box.cell 7 _ rfl
  have c8 : w.cell? ⟨x, 8, none⟩ = some (.int .i64 b.calls) := H.box.cell 8 _ rfl
  have f6 := H.box.free 6
  have f8 := H.box.free 8
  cases ho : b.off with
  | true =>
    have HP : Hid (poweredX b = b) := Lib.hid (by unfold poweredX; rw [if_pos ho])
    rw [ho] at c6
    clear H hF hof hst hon hcl hs ho
    go_enter Try.func33, Try.ntmps33
    go_wp2
    go_ret
    exact ⟨rfl, RNext.of HH.out.2 (Only.refl _ _) (HH.out.1.powered (Chg.refl _ _) (by rw [HP.out]; exact HH.out.1.box))⟩
  | false =>
    rw [ho] at c6 hon
    have hs0 : b.stop = 0 := by simpa using hon
    rw [hs0] at c7
    obtain ⟨wA, hwA⟩ : ∃ wA, w.setCell ⟨x, 8, none⟩ (.int .i64 (b.calls + 1)) = wA := ⟨_, rfl⟩
    have hbA : XBoxAt wA x { b with calls := b.calls + 1 } := by rw [← hwA]; exact H.box.set 8 _ _ rfl
    have a7 : wA.cell? ⟨x, 7, none⟩ = some (.int .i64 0) := by rw [← hs0]; exact hbA.cell 7 _ rfl
    have a6 : wA.cell? ⟨x, 6, none⟩ = some (.bool false) := by rw [← ho]; exact hbA.cell 6 _ rfl
    have g6 := hbA.free 6
    obtain ⟨wB, hwB⟩ : ∃ wB, wA.setCell ⟨x, 6, none⟩ (.bool true) = wB := ⟨_, rfl⟩
    have hbB : XBoxAt wB x { b with calls := b.calls + 1, off := true } := by rw [← hwB]; exact hbA.set 6 _ _ rfl
    have hcB : Chg [x] w wB := by
      rw [← hwB, ← hwA]
      exact ((Chg.refl _ w).setCell x 8 _ (.inl (by simp))).setCell x 6 _ (.inl (by simp))
    have HP : Hid (poweredX b = { b with calls := b.calls + 1, off := true }) := Lib.hid (by unfold poweredX; rw [if_neg (by rw [ho]; exact fun e => by cases e), if_pos hs0])
    have HB := Lib.hid (And.intro hcB hbB)
    clear H hF hof hst hon hcl hs ho hs0 hbA hbB hcB
    go_enter Try.func33, Try.ntmps33
    go_wp2
    go_ret
    exact ⟨rfl, RNext.of HH.out.2 (HH.out.1.only1 HB.out.1) (HH.out.1.powered HB.out.1 (by rw [HP.out]; exact HB.out.2))⟩
end
/-- Power: the calls counted, the stop nearer. -/
structure OnW (w : World) (x : Nat) (b : XBox) (wB : World) : Prop where
  box : XBoxAt wB x (poweredX b)
  chg : Chg [x] w wB
end Go.Proofs.Ytbjlikppboggmaa
namespace Go.Proofs.Ytbjlikppboggmaa
open Go.RowKit Go.Maps
set_option linter.unusedVariables false
set_option maxRecDepth 100000

section
variable {w w' : World} {x : Nat} {ox ox' : Nat → Nat} {b : XBox} {FA NA SA CA : Option Addr} {fn fc nn nc sn sc cn cc : Nat} {vs : List (Value × Nat)} {cs : List (ByteArray × ByteArray × Nat)} {r : RD}
set_option maxHeartbeats 3200000 in
theorem RefIn.syncDir_on (H : RefIn w x ox b FA fn fc NA nn nc SA sn sc CA cn cc vs cs r) (hF : ∀ i, w.heap.size ≤ i → ox i = 0) (F : Fct r) (hs : r.size ≤ 79000) (hon : r.on = true)  :
    Calls Try.prog 33 #[.pointer (some ⟨x, 0, none⟩), .int .i64 3, .string ⟨#[]⟩, .string ⟨#[]⟩, .slice none 0 0] w fun e w' => e = .returned (.int .i64 0) ∧ RNext w x ox { r.powered with sure := r.now, chs := [] } w' := by
  have hcl : b.calls = (r.calls : Int) := H.calls
  have hcb : 0 ≤ b.calls ∧ b.calls ≤ 80000 := by unfold RD.size at hs; omega
  have hqb := F.stop
  have HF := Lib.hid F
  have HH := Lib.hid (And.intro H hF)
  have HS := Lib.hid hs
  have hof := H.off
  have hst := H.stop
  unfold RD.on at hon
  rw [← hof, ← hst] at hon
  rw [← hst] at hqb
  have c6 : w.cell? ⟨x, 6, none⟩ = some (.bool false) := by
    have h : w.cell? ⟨x, 6, none⟩ = some (.bool b.off) := H.box.cell 6 _ rfl
    have h2 : b.off = false := by cases h : b.off with | false => rfl | true => rw [h] at hon; cases hon
    rw [h, h2]
  have hoff : b.off = false := by cases h : b.off with | false => rfl | true => rw [h] at hon; cases hon
  have hne : b.stop ≠ 0 := by rw [hoff] at hon; simpa using hon
  have c7 : w.cell? ⟨x, 7, none⟩ = some (.int .i64 b.stop) := H.box.cell 7 _ rfl
  have c8 : w.cell? ⟨x, 8, none⟩ = some (.int .i64 b.calls) := H.box.cell 8 _ rfl
  have f8 := H.box.free 8
  obtain ⟨wA, hwA⟩ : ∃ wA, w.setCell ⟨x, 8, none⟩ (.int .i64 (b.calls + 1)) = wA := ⟨_, rfl⟩
  have hbA : XBoxAt wA x { b with calls := b.calls + 1 } := by rw [← hwA]; exact H.box.set 8 _ _ rfl
  have a7 : wA.cell? ⟨x, 7, none⟩ = some (.int .i64 b.stop) := hbA.cell 7 _ rfl
  have g7 := hbA.free 7
  have hcA : Chg [x] w wA := by rw [← hwA]; exact (Chg.refl _ w).setCell x 8 _ (.inl (by simp))
  rcases (show 0 < b.stop ∨ b.stop < 0 by omega) with hway | hway
  · have hne2 : (b.stop == 0) = false := by simpa using hne
    obtain ⟨wB, hwB⟩ : ∃ wB, wA.setCell ⟨x, 7, none⟩ (.int .i64 (b.stop - 1)) = wB := ⟨_, rfl⟩
    have hbB : XBoxAt wB x (poweredX b) := by
      have e : poweredX b = { b with calls := b.calls + 1, stop := b.stop - 1 } := by unfold poweredX; rw [if_neg (by rw [hoff]; exact fun e => by cases e), if_neg hne, if_pos hway]
      rw [e, ← hwB]; exact hbA.set 7 _ _ rfl
    have hcB : Chg [x] w wB := by rw [← hwB]; exact hcA.setCell x 7 _ (.inl (by simp))
    have HB := Lib.hid (OnW.mk hbB hcB)
    clear H F hF hs hof hst hon hcl hbA hbB hcB hcA
    have H1 := HH.out.1.powered HB.out.chg HB.out.box
    have hen : r.powered.now = r.now := by unfold RD.now; rw [r.powered_sure, r.powered_chs]
    have b1 : wB.cell? ⟨x, 1, none⟩ = some (.slice NA nn nc) := HB.out.box.cell 1 _ (by show some (poweredX b).now = _; rw [H1.now])
    have hnr := H1.nrow
    rw [hen] at hnr
    have hnl := HF.out.len (by have := HS.out; omega)
    have hnn : nn ≤ 80000 := by have := hnr.len; omega
    have HAT := Lib.hid (at_any wB NA nn nc r.now hnr (by omega) (HF.out.nums (by have := HS.out; omega)) ⟨#[]⟩)
    have H1h := Lib.hid H1
    clear H1 hnr hnl
    go_enter Try.func33, Try.ntmps33
    go_wp2_with fail
    refine HAT.out.mono ?_
    rintro e w2 ⟨rfl, hB2⟩
    have H2 := H1h.out.below hB2
    obtain ⟨w3, hw3⟩ : ∃ w3, w2.alloc (.cells #[.string ⟨#[]⟩, .string ⟨#[]⟩, .int .i64 0] 114) = w3 := ⟨_, rfl⟩
    have hB3 : Below w2.heap.size w2 w3 := by rw [← hw3]; exact (Below.refl _ w2).alloc (Nat.le_refl _) _
    have H3 := H2.below hB3
    have hva : w3.heap[w2.heap.size]? = some (.cells #[.string ⟨#[]⟩, .string ⟨#[]⟩, .int .i64 0] 114 (0, 0)) := by rw [← hw3]; exact heap_alloc_new w2 _
    obtain ⟨va, hvae⟩ : ∃ va, w2.heap.size = va := ⟨_, rfl⟩
    rw [hvae] at hva
    have i0 : w3.cell? ⟨va, 0, none⟩ = some (.string ⟨#[]⟩) := by rw [cell_of_row _ va 0 _ _ (0, 0) hva]; rfl
    have i1 : w3.cell? ⟨va, 1, none⟩ = some (.string ⟨#[]⟩) := by rw [cell_of_row _ va 1 _ _ (0, 0) hva]; rfl
    have i2 : w3.cell? ⟨va, 2, none⟩ = some (.int .i64 0) := by rw [cell_of_row _ va 2 _ _ (0, 0) hva]; rfl
    have k0 : w3.frozen? ⟨va, 0, none⟩ = false := frozen_of_row w3 va 0 _ _ hva
    have k1 : w3.frozen? ⟨va, 1, none⟩ = false := frozen_of_row w3 va 1 _ _ hva
    have k2 : w3.frozen? ⟨va, 2, none⟩ = false := frozen_of_row w3 va 2 _ _ hva
    have j0 : w3.setCell ⟨va, 0, none⟩ (.string ⟨#[]⟩) = w3 := setCell_id hva rfl
    have j1 : w3.setCell ⟨va, 1, none⟩ (.string ⟨#[]⟩) = w3 := setCell_id hva rfl
    have j2 : w3.setCell ⟨va, 2, none⟩ (.int .i64 0) = w3 := setCell_id hva rfl
    have HVA := Lib.hid hva
    have d1 : w3.cell? ⟨x, 1, none⟩ = some (.slice NA nn nc) := H3.box.cell 1 _ (by show some (poweredX b).now = _; rw [H3.now])
    have d2 : w3.cell? ⟨x, 2, none⟩ = some (.slice SA sn sc) := H3.box.cell 2 _ (by show some (poweredX b).sure = _; rw [H3.sure])
    have e2 := H3.box.free 2
    obtain ⟨w4, hw4⟩ : ∃ w4, w3.setCell ⟨x, 2, none⟩ (.slice NA nn nc) = w4 := ⟨_, rfl⟩
    have hb4 : XBoxAt w4 x { poweredX b with sure := .slice NA nn nc } := by rw [← hw4]; exact H3.box.set 2 _ _ rfl
    have d3 : w4.cell? ⟨x, 3, none⟩ = some (.slice CA cn cc) := hb4.cell 3 _ (by show some (poweredX b).changes = _; rw [H3.changes])
    have e3 := hb4.free 3
    obtain ⟨w5, hw5⟩ : ∃ w5, w4.setCell ⟨x, 3, none⟩ (.slice none 0 0) = w5 := ⟨_, rfl⟩
    have hb5 : XBoxAt w5 x { poweredX b with sure := .slice NA nn nc, changes := .slice none 0 0 } := by rw [← hw5]; exact hb4.set 3 _ _ rfl
    have hc5 : Chg [x] w3 w5 := by rw [← hw5, ← hw4]; exact ((Chg.refl _ w3).setCell x 2 _ (.inl (by simp))).setCell x 3 _ (.inl (by simp))
    have HFIN : Hid (RNext w x ox { r.powered with sure := r.now, chs := [] } w5) := Lib.hid (by
      have hO : Only ox w ox w5 := ((HH.out.1.only1 HB.out.chg).trans (Only.of_below ox hB2)).trans ((Only.of_below ox hB3).trans (H3.only1 hc5))
      have hsm : ∀ k, k < w3.heap.size → ox k ≠ 1 → w5.heap[k]? = w3.heap[k]? := fun k hk h => hc5.same k hk (fun hm => by rw [List.mem_singleton] at hm; rw [hm] at h; exact h H3.ob)
      refine RNext.of HH.out.2 hO (b := { poweredX b with sure := .slice NA nn nc, changes := .slice none 0 0 }) (FA := FA) (fn := fn) (fc := fc) (NA := NA) (nn := nn) (nc := nc) (SA := NA) (sn := nn) (sc := nc) (CA := none) (cn := 0) (cc := 0) (vs := vs) (cs := []) ?_
      have hrow : RowG encS ltS w5 NA nn nc r.now := by rw [← hen]; exact H3.nrow.same hc5.size fun k hk => hsm k (H3.nrow.lt' k hk) (by rw [H3.oN k hk]; omega)
      exact {
        box := hb5
        ob := H3.ob
        files := H3.files
        fline := H3.fline.same hc5.size fun k hk => hsm k (H3.fline.lt k hk) (by rw [H3.oF k hk]; omega)
        oF := H3.oF
        fdata := H3.fdata.carry hc5.size (fun _ _ => rfl) fun k hk h => hsm k hk (by omega)
        now := H3.now
        nrow := hrow
        oN := H3.oN
        sure := rfl
        srow := hrow
        oS := H3.oN
        changes := rfl
        cline := SLine.nil 3 _
        oC := fun k hk => by obtain ⟨ad, ea, _⟩ := mem_blk.1 hk; cases ea
        chs := rfl
        quota := H3.quota, full := H3.full, off := H3.off, stop := H3.stop, calls := H3.calls })
    clear H2 H3 hB2 hB3 hb4 hb5 hc5 hen hva
    go_wp2
    go_ret
    exact ⟨rfl, HFIN.out⟩
  · have hne2 : (b.stop == 0) = false := by simpa using hne
    have hway2 : ¬ (0 : Int) < b.stop := by omega
    obtain ⟨wB, hwB⟩ : ∃ wB, wA = wB := ⟨_, rfl⟩
    subst hwB
    have hbB : XBoxAt wA x (poweredX b) := by
      have e : poweredX b = { b with calls := b.calls + 1 } := by unfold poweredX; rw [if_neg (by rw [hoff]; exact fun e => by cases e), if_neg hne, if_neg hway2]
      rw [e]; exact hbA
    have HB := Lib.hid (OnW.mk hbB hcA)
    clear H F hF hs hof hst hon hcl hbA hbB hcA
    have H1 := HH.out.1.powered HB.out.chg HB.out.box
    have hen : r.powered.now = r.now := by unfold RD.now; rw [r.powered_sure, r.powered_chs]
    have b1 : wA.cell? ⟨x, 1, none⟩ = some (.slice NA nn nc) := HB.out.box.cell 1 _ (by show some (poweredX b).now = _; rw [H1.now])
    have hnr := H1.nrow
    rw [hen] at hnr
    have hnl := HF.out.len (by have := HS.out; omega)
    have hnn : nn ≤ 80000 := by have := hnr.len; omega
    have HAT := Lib.hid (at_any wA NA nn nc r.now hnr (by omega) (HF.out.nums (by have := HS.out; omega)) ⟨#[]⟩)
    have H1h := Lib.hid H1
    clear H1 hnr hnl
    go_enter Try.func33, Try.ntmps33
    go_wp2_with fail
    refine HAT.out.mono ?_
    rintro e w2 ⟨rfl, hB2⟩
    have H2 := H1h.out.below hB2
    obtain ⟨w3, hw3⟩ : ∃ w3, w2.alloc (.cells #[.string ⟨#[]⟩, .string ⟨#[]⟩, .int .i64 0] 114) = w3 := ⟨_, rfl⟩
    have hB3 : Below w2.heap.size w2 w3 := by rw [← hw3]; exact (Below.refl _ w2).alloc (Nat.le_refl _) _
    have H3 := H2.below hB3
    have hva : w3.heap[w2.heap.size]? = some (.cells #[.string ⟨#[]⟩, .string ⟨#[]⟩, .int .i64 0] 114 (0, 0)) := by rw [← hw3]; exact heap_alloc_new w2 _
    obtain ⟨va, hvae⟩ : ∃ va, w2.heap.size = va := ⟨_, rfl⟩
    rw [hvae] at hva
    have i0 : w3.cell? ⟨va, 0, none⟩ = some (.string ⟨#[]⟩) := by rw [cell_of_row _ va 0 _ _ (0, 0) hva]; rfl
    have i1 : w3.cell? ⟨va, 1, none⟩ = some (.string ⟨#[]⟩) := by rw [cell_of_row _ va 1 _ _ (0, 0) hva]; rfl
    have i2 : w3.cell? ⟨va, 2, none⟩ = some (.int .i64 0) := by rw [cell_of_row _ va 2 _ _ (0, 0) hva]; rfl
    have k0 : w3.frozen? ⟨va, 0, none⟩ = false := frozen_of_row w3 va 0 _ _ hva
    have k1 : w3.frozen? ⟨va, 1, none⟩ = false := frozen_of_row w3 va 1 _ _ hva
    have k2 : w3.frozen? ⟨va, 2, none⟩ = false := frozen_of_row w3 va 2 _ _ hva
    have j0 : w3.setCell ⟨va, 0, none⟩ (.string ⟨#[]⟩) = w3 := setCell_id hva rfl
    have j1 : w3.setCell ⟨va, 1, none⟩ (.string ⟨#[]⟩) = w3 := setCell_id hva rfl
    have j2 : w3.setCell ⟨va, 2, none⟩ (.int .i64 0) = w3 := setCell_id hva rfl
    have HVA := Lib.hid hva
    have d1 : w3.cell? ⟨x, 1, none⟩ = some (.slice NA nn nc) := H3.box.cell 1 _ (by show some (poweredX b).now = _; rw [H3.now])
    have d2 : w3.cell? ⟨x, 2, none⟩ = some (.slice SA sn sc) := H3.box.cell 2 _ (by show some (poweredX b).sure = _; rw [H3.sure])
    have e2 := H3.box.free 2
    obtain ⟨w4, hw4⟩ : ∃ w4, w3.setCell ⟨x, 2, none⟩ (.slice NA nn nc) = w4 := ⟨_, rfl⟩
    have hb4 : XBoxAt w4 x { poweredX b with sure := .slice NA nn nc } := by rw [← hw4]; exact H3.box.set 2 _ _ rfl
    have d3 : w4.cell? ⟨x, 3, none⟩ = some (.slice CA cn cc) := hb4.cell 3 _ (by show some (poweredX b).changes = _; rw [H3.changes])
    have e3 := hb4.free 3
    obtain ⟨w5, hw5⟩ : ∃ w5, w4.setCell ⟨x, 3, none⟩ (.slice none 0 0) = w5 := ⟨_, rfl⟩
    have hb5 : XBoxAt w5 x { poweredX b with sure := .slice NA nn nc, changes := .slice none 0 0 } := by rw [← hw5]; exact hb4.set 3 _ _ rfl
    have hc5 : Chg [x] w3 w5 := by rw [← hw5, ← hw4]; exact ((Chg.refl _ w3).setCell x 2 _ (.inl (by simp))).setCell x 3 _ (.inl (by simp))
    have HFIN : Hid (RNext w x ox { r.powered with sure := r.now, chs := [] } w5) := Lib.hid (by
      have hO : Only ox w ox w5 := ((HH.out.1.only1 HB.out.chg).trans (Only.of_below ox hB2)).trans ((Only.of_below ox hB3).trans (H3.only1 hc5))
      have hsm : ∀ k, k < w3.heap.size → ox k ≠ 1 → w5.heap[k]? = w3.heap[k]? := fun k hk h => hc5.same k hk (fun hm => by rw [List.mem_singleton] at hm; rw [hm] at h; exact h H3.ob)
      refine RNext.of HH.out.2 hO (b := { poweredX b with sure := .slice NA nn nc, changes := .slice none 0 0 }) (FA := FA) (fn := fn) (fc := fc) (NA := NA) (nn := nn) (nc := nc) (SA := NA) (sn := nn) (sc := nc) (CA := none) (cn := 0) (cc := 0) (vs := vs) (cs := []) ?_
      have hrow : RowG encS ltS w5 NA nn nc r.now := by rw [← hen]; exact H3.nrow.same hc5.size fun k hk => hsm k (H3.nrow.lt' k hk) (by rw [H3.oN k hk]; omega)
      exact {
        box := hb5
        ob := H3.ob
        files := H3.files
        fline := H3.fline.same hc5.size fun k hk => hsm k (H3.fline.lt k hk) (by rw [H3.oF k hk]; omega)
        oF := H3.oF
        fdata := H3.fdata.carry hc5.size (fun _ _ => rfl) fun k hk h => hsm k hk (by omega)
        now := H3.now
        nrow := hrow
        oN := H3.oN
        sure := rfl
        srow := hrow
        oS := H3.oN
        changes := rfl
        cline := SLine.nil 3 _
        oC := fun k hk => by obtain ⟨ad, ea, _⟩ := mem_blk.1 hk; cases ea
        chs := rfl
        quota := H3.quota, full := H3.full, off := H3.off, stop := H3.stop, calls := H3.calls })
    clear H2 H3 hB2 hB3 hb4 hb5 hc5 hen hva
    go_wp2
    go_ret
    exact ⟨rfl, HFIN.out⟩
end
end Go.Proofs.Ytbjlikppboggmaa
