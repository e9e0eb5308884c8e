/-
  The document's disk, without addresses: what each call answers and what it leaves; what of it a disk in memory shows.
-/
import Derived.Test.YtnjnlcmpfnabiaaGg
import Derived.Test.YtnjnlcmpfnabiaaDz
namespace Go.Proofs.Ytnjnlcmpfnabiaa
open Go.RowKit Go.Maps
set_option linter.unusedVariables false
set_option maxRecDepth 100000

/-- A file: its bytes, and how many of them are sure. -/
structure Fl where
  data : List Value
  sure : Nat
/-- A disk: its files by number, the sure directory, the changes since; the directory's files are told by their numbers. -/
structure RD where
  files : List Fl
  sure : List (ByteArray × Value)
  chs : List (List (ByteArray × Value))
  quota : Int
  full : Bool
  off : Bool
  stop : Int
  calls : Nat
def numV (n : Nat) : Value := .int .i64 (n : Int)
def numOf (v : Value) : Nat := match v with | .int _ z => z.toNat | _ => 0
theorem numOf_numV (n : Nat) : numOf (numV n) = n := by simp [numOf, numV]
def xorV (mask : Nat) (v : Value) : Value := match v with | .int k z => .int k ((z.toNat ^^^ mask : Nat) : Int) | v => v
namespace RD
def now (r : RD) : List (ByteArray × Value) := layAll r.sure r.chs
def file (r : RD) (k : Nat) : Fl := r.files.getD k ⟨[], 0⟩
def on (r : RD) : Bool := !r.off && r.stop != 0
def powered (r : RD) : RD := if r.off = true then r else if r.stop = 0 then { r with calls := r.calls + 1, off := true } else if 0 < r.stop then { r with calls := r.calls + 1, stop := r.stop - 1 } else { r with calls := r.calls + 1 }
def begE (r : RD) (ns : List ByteArray) : Int := if r.on = true then (if ns.all nameOk = true then 0 else 1) else 5
def witE (r : RD) (ns : List ByteArray) (x : ByteArray) : Int := if r.begE ns = 0 then (if hasP ltS r.now x = true then 0 else 3) else r.begE ns
def num (r : RD) (x : ByteArray) : Nat := numOf ((lookP ltS r.now x).getD (numV 0))
def get (r : RD) (x : ByteArray) : Fl := r.file (r.num x)
def used (r : RD) : Nat := sumLen (fun v => (r.file (numOf v)).data.length) r.now
def create (r : RD) (x : ByteArray) : Int × RD :=
  if r.begE [x] = 0 then (if hasP ltS r.now x = false ∧ 1024 ≤ r.now.length then (2, r.powered) else (0, { r.powered with files := r.files ++ [⟨[], 0⟩], chs := r.chs ++ [[(x, numV r.files.length)]] })) else (r.begE [x], r.powered)
def append (r : RD) (x : ByteArray) (bs : List Value) : Int × RD :=
  if r.witE [x] x = 0 then (if 1048576 < (r.get x).data.length + bs.length then (2, r.powered) else if r.quota < (r.used : Int) + (bs.length : Int) then (4, { r.powered with full := true }) else (0, { r.powered with files := r.files.set (r.num x) ⟨(r.get x).data ++ bs, (r.get x).sure⟩ })) else (r.witE [x] x, r.powered)
def sync (r : RD) (x : ByteArray) : Int × RD :=
  if r.witE [x] x = 0 then (0, { r.powered with files := r.files.set (r.num x) ⟨(r.get x).data, (r.get x).data.length⟩ }) else (r.witE [x] x, r.powered)
def syncDir (r : RD) : Int × RD := if r.on = true then (0, { r.powered with sure := r.now, chs := [] }) else (5, r.powered)
def rename (r : RD) (x y : ByteArray) : Int × RD :=
  if r.witE [x, y] x = 0 then (0, { r.powered with chs := r.chs ++ [[(x, .pointer none), (y, numV (r.num x))]] }) else (r.witE [x, y] x, r.powered)
def remove (r : RD) (x : ByteArray) : Int × RD :=
  if r.witE [x] x = 0 then (0, { r.powered with chs := r.chs ++ [[(x, .pointer none)]] }) else (r.witE [x] x, r.powered)
def stopAt (r : RD) (k : Int) : RD := { r with stop := k }
def quotaTo (r : RD) (n : Int) : RD := { r with quota := max n 0, full := false }
/-- What a loss leaves of a file. -/
def cutF (zs : List Int) (i : Nat) (f : Fl) : Fl := ⟨f.data.take (leftN f.data.length f.sure (keptZ zs i)), leftN f.data.length f.sure (keptZ zs i)⟩
def left (r : RD) (dir : Int) : List (ByteArray × Value) := layAll r.sure (r.chs.take dir.toNat)
def keep (r : RD) (dir : Int) : List Nat := (List.range r.files.length).filter fun i => decide (i ∈ (r.left dir).map fun p => numOf p.2)
def crash (r : RD) (dir : Int) (zs : List Int) : RD where
  files := (r.keep dir).map fun i => cutF zs i (r.file i)
  sure := (r.left dir).map fun p => (p.1, numV ((r.keep dir).filter fun u => decide (u < numOf p.2)).length)
  chs := []
  quota := r.quota
  full := false
  off := false
  stop := -1
  calls := r.calls
def turns (r : RD) (x : ByteArray) (at_ : Int) : Bool := hasP ltS r.now x && decide (0 ≤ at_ ∧ at_ < ((r.get x).data.length : Int))
def turn (r : RD) (x : ByteArray) (at_ : Int) (mask : Nat) : RD :=
  if r.turns x at_ = true then { r with files := r.files.set (r.num x) ⟨(r.get x).data.set at_.toNat (xorV mask ((r.get x).data.getD at_.toNat (.int .u8 0))), (r.get x).sure⟩ } else r
/-- How great a disk has become. -/
def size (r : RD) : Nat := r.calls + r.files.length + r.sure.length + 2 * r.chs.length
def fresh (q : Int) : RD := ⟨[], [], [], max q 0, false, false, -1, 0⟩
end RD
/-- A file's number in place of its address. -/
def tag (nm : Value → Nat) (v : Value) : Value := match v with | .pointer none => .pointer none | v => numV (nm v)
def mapT (nm : Value → Nat) (ps : List (ByteArray × Value)) : List (ByteArray × Value) := ps.map fun p => (p.1, tag nm p.2)
theorem tag_some (nm : Value → Nat) (v : Value) (h : v ≠ .pointer none) : tag nm v = numV (nm v) := by
  unfold tag
  split
  · exact absurd rfl h
  · rfl
theorem mapT_put (nm : Value → Nat) (ps : List (ByteArray × Value)) (k : ByteArray) (v : Value) : mapT nm (putP ltS ps k v) = putP ltS (mapT nm ps) k (tag nm v) := by
  unfold mapT putP
  rw [List.map_append, List.map_cons, List.filter_map, List.filter_map]
  rfl
theorem mapT_drop (nm : Value → Nat) (ps : List (ByteArray × Value)) (k : ByteArray) : mapT nm (dropP ltS ps k) = dropP ltS (mapT nm ps) k := by
  unfold mapT dropP
  rw [List.map_append, List.filter_map, List.filter_map]
  rfl
theorem layOne_put (ps : List (ByteArray × Value)) (c : ByteArray × Value) (h : c.2 ≠ .pointer none) : layOne ps c = putP ltS ps c.1 c.2 := by
  unfold layOne
  split
  · rename_i e; exact absurd e h
  · rfl
theorem layOne_drop (ps : List (ByteArray × Value)) (k : ByteArray) : layOne ps (k, .pointer none) = dropP ltS ps k := rfl
theorem layOne_tag (nm : Value → Nat) (ps : List (ByteArray × Value)) (c : ByteArray × Value) : mapT nm (layOne ps c) = layOne (mapT nm ps) (c.1, tag nm c.2) := by
  obtain ⟨k, v⟩ := c
  by_cases h : v = .pointer none
  · subst h
    exact mapT_drop nm ps k
  · rw [layOne_put _ _ h, mapT_put, layOne_put]
    show tag nm v ≠ _
    rw [tag_some nm v h]
    exact fun e => by cases e
theorem layP_tag (nm : Value → Nat) (cs : List (ByteArray × Value)) : ∀ ps : List (ByteArray × Value), mapT nm (layP ps cs) = layP (mapT nm ps) (mapT nm cs) := by
  induction cs with
  | nil => exact fun ps => rfl
  | cons c l ih =>
    intro ps
    show mapT nm (layP (layOne ps c) l) = layP (layOne (mapT nm ps) (c.1, tag nm c.2)) (mapT nm l)
    rw [ih, layOne_tag]
theorem layAll_tag (nm : Value → Nat) (chl : List (List (ByteArray × Value))) : ∀ ps : List (ByteArray × Value), mapT nm (layAll ps chl) = layAll (mapT nm ps) (chl.map (mapT nm)) := by
  induction chl with
  | nil => exact fun ps => rfl
  | cons c l ih =>
    intro ps
    show mapT nm (layAll (layP ps c) l) = layAll (layP (mapT nm ps) (mapT nm c)) (l.map (mapT nm))
    rw [ih, layP_tag]
theorem look_tag (nm : Value → Nat) (x : ByteArray) : ∀ ps : List (ByteArray × Value), lookP ltS (mapT nm ps) x = (lookP ltS ps x).map (tag nm) := by
  intro ps
  unfold lookP mapT
  rw [List.find?_map]
  simp only [Option.map_map]
  rfl
theorem has_tag (nm : Value → Nat) (x : ByteArray) (ps : List (ByteArray × Value)) : hasP ltS (mapT nm ps) x = hasP ltS ps x := by
  unfold hasP
  rw [look_tag, Option.isSome_map]
theorem sumLen_tag (nm : Value → Nat) (g : Value → Nat) (ps : List (ByteArray × Value)) : sumLen g (mapT nm ps) = sumLen (fun v => g (tag nm v)) ps := by
  unfold sumLen mapT
  rw [List.map_map]
  rfl
theorem mapT_congr (nm nm' : Value → Nat) (ps : List (ByteArray × Value)) (h : ∀ p ∈ ps, p.2 ≠ .pointer none → nm' p.2 = nm p.2) : mapT nm' ps = mapT nm ps := by
  unfold mapT
  refine List.map_congr_left fun p hp => ?_
  by_cases e : p.2 = .pointer none
  · rw [e]; rfl
  · rw [tag_some _ _ e, tag_some _ _ e, h p hp e]
theorem rises_inj {fs : List Value} {nm : Value → Nat} (h : fs.Pairwise fun u v => nm u < nm v) {u v : Value} (hu : u ∈ fs) (hv : v ∈ fs) (e : nm u = nm v) : u = v := by
  obtain ⟨i, hi, rfl⟩ := List.mem_iff_getElem.1 hu
  obtain ⟨j, hj, rfl⟩ := List.mem_iff_getElem.1 hv
  have hp := List.pairwise_iff_getElem.1 h
  rcases Nat.lt_trichotomy i j with hij | hij | hij
  · have := hp i j hi hj hij; omega
  · subst hij; rfl
  · have := hp j i hj hi hij; omega
theorem rises_len {nm : Value → Nat} : ∀ (fs : List Value) (lo hi : Nat), (fs.Pairwise fun u v => nm u < nm v) → (∀ v ∈ fs, lo ≤ nm v ∧ nm v < hi) → fs.length + lo ≤ max hi lo := by
  intro fs
  induction fs with
  | nil => intro lo hi _ _; simp; omega
  | cons x l ih =>
    intro lo hi hp hb
    obtain ⟨h1, h2⟩ := List.pairwise_cons.1 hp
    have hx := hb x (List.mem_cons_self ..)
    have := ih (nm x + 1) hi h2 (fun v hv => ⟨h1 v hv, (hb v (List.mem_cons_of_mem _ hv)).2⟩)
    rw [List.length_cons]
    omega
theorem rises_eq : ∀ (a b : List Nat), a.Pairwise (· < ·) → b.Pairwise (· < ·) → (∀ i, i ∈ a ↔ i ∈ b) → a = b := by
  intro a
  induction a with
  | nil =>
    intro b _ _ h
    cases b with
    | nil => rfl
    | cons y m => exact absurd ((h y).2 (List.mem_cons_self ..)) (by simp)
  | cons x l ih =>
    intro b ha hb h
    cases b with
    | nil => exact absurd ((h x).1 (List.mem_cons_self ..)) (by simp)
    | cons y m =>
      obtain ⟨a1, a2⟩ := List.pairwise_cons.1 ha
      obtain ⟨b1, b2⟩ := List.pairwise_cons.1 hb
      have hxy : x = y := by
        have h1 : x ∈ y :: m := (h x).1 (List.mem_cons_self ..)
        have h2 : y ∈ x :: l := (h y).2 (List.mem_cons_self ..)
        rcases List.mem_cons.1 h1 with e | e
        · exact e
        · rcases List.mem_cons.1 h2 with e' | e'
          · exact e'.symm
          · have := b1 x e; have := a1 y e'; omega
      subst hxy
      rw [ih m a2 b2 (fun i => ⟨fun hi => by
        rcases List.mem_cons.1 ((h i).1 (List.mem_cons_of_mem _ hi)) with e | e
        · have := a1 i hi; omega
        · exact e, fun hi => by
        rcases List.mem_cons.1 ((h i).2 (List.mem_cons_of_mem _ hi)) with e | e
        · have := b1 i hi; omega
        · exact e⟩)]
/-- What of the document's disk is told by what lies in memory. -/
structure Reads (r : RD) (b : DBox) (fs : List Value) (ss : List (ByteArray × Value)) (chl : List (List (ByteArray × Value))) (nm : Value → Nat) (dt : Value → List Value) (su : Value → Nat) : Prop where
  files : ∀ v ∈ fs, r.files[nm v]? = some ⟨dt v, su v⟩
  sure : r.sure = mapT nm ss
  chs : r.chs = chl.map (mapT nm)
  made : b.made = (r.files.length : Int)
  quota : b.quota = r.quota
  full : b.full = r.full
  off : b.off = r.off
  stop : b.ahead = r.stop
  calls : b.calls = (r.calls : Int)
/-- A disk in memory is the document's. -/
def IsD (w : World) (d : Nat) (own : Nat → Nat) (r : RD) : Prop :=
  (∀ i, w.heap.size ≤ i → own i = 0) ∧ ∃ b F fn fc RA rn rc SA sn sc C cn cc fs ps ss css chl nm dt su, DiskIn w d own b F fn fc RA rn rc SA sn sc C cn cc fs ps ss css chl nm dt su ∧ Reads r b fs ss chl nm dt su
/-- What a call leaves: the document's disk behind it, and all else as it was. -/
def DNext (w : World) (d : Nat) (own : Nat → Nat) (r : RD) (w' : World) : Prop := ∃ own', Only own w own' w' ∧ IsD w' d own' r
theorem RD.powered_files (r : RD) : r.powered.files = r.files := by unfold RD.powered; split; rfl; split; rfl; split <;> rfl
theorem RD.powered_sure (r : RD) : r.powered.sure = r.sure := by unfold RD.powered; split; rfl; split; rfl; split <;> rfl
theorem RD.powered_chs (r : RD) : r.powered.chs = r.chs := by unfold RD.powered; split; rfl; split; rfl; split <;> rfl
theorem RD.powered_quota (r : RD) : r.powered.quota = r.quota := by unfold RD.powered; split; rfl; split; rfl; split <;> rfl
theorem RD.powered_full (r : RD) : r.powered.full = r.full := by unfold RD.powered; split; rfl; split; rfl; split <;> rfl
theorem RD.powered_calls (r : RD) : r.powered.calls ≤ r.calls + 1 := by unfold RD.powered; split; omega; split; exact Nat.le_refl _; split <;> exact Nat.le_refl _
section
variable {w w' : World} {d : Nat} {own own' : Nat → Nat} {b : DBox} {F RA SA C : Option Addr} {fn fc rn rc sn sc cn cc : Nat} {fs css : List Value} {ps ss : List (ByteArray × Value)} {chl : List (List (ByteArray × Value))} {nm su : Value → Nat} {dt : Value → List Value} {r : RD}
theorem Reads.powered (R : Reads r b fs ss chl nm dt su) : Reads r.powered (poweredB b) fs ss chl nm dt su := by
  have h : (poweredB b).off = r.powered.off ∧ (poweredB b).ahead = r.powered.stop ∧ (poweredB b).calls = (r.powered.calls : Int) := by
    have h1 := R.off
    have h2 := R.stop
    have h3 := R.calls
    unfold poweredB RD.powered
    rw [h1, h2]
    split
    · exact ⟨h1, h2, h3⟩
    · split
      · exact ⟨rfl, rfl, by show b.calls + 1 = ((r.calls + 1 : Nat) : Int); omega⟩
      · split
        · exact ⟨rfl, rfl, by show b.calls + 1 = ((r.calls + 1 : Nat) : Int); omega⟩
        · exact ⟨rfl, rfl, by show b.calls + 1 = ((r.calls + 1 : Nat) : Int); omega⟩
  exact ⟨by rw [r.powered_files]; exact R.files, by rw [r.powered_sure]; exact R.sure, by rw [r.powered_chs]; exact R.chs, by rw [Go.Proofs.Ytnjnlcmpfnabiaa.powered_made, r.powered_files]; exact R.made, by rw [Go.Proofs.Ytnjnlcmpfnabiaa.powered_quota, r.powered_quota]; exact R.quota, by rw [r.powered_full, ← R.full]; unfold poweredB; split; rfl; split; rfl; split <;> rfl, h.1, h.2.1, h.2.2⟩
theorem Reads.on (R : Reads r b fs ss chl nm dt su) : powerB b = r.on := by unfold powerB RD.on; rw [R.off, R.stop]
theorem Reads.begE (R : Reads r b fs ss chl nm dt su) (ns : List ByteArray) : beginE b ns = r.begE ns := by unfold beginE RD.begE; rw [R.on]
theorem DiskIn.rnow (H : DiskIn w d own b F fn fc RA rn rc SA sn sc C cn cc fs ps ss css chl nm dt su) (R : Reads r b fs ss chl nm dt su) : r.now = mapT nm ps := by
  unfold RD.now
  rw [H.lay, layAll_tag, R.sure, R.chs]
theorem DiskIn.rwit (H : DiskIn w d own b F fn fc RA rn rc SA sn sc C cn cc fs ps ss css chl nm dt su) (R : Reads r b fs ss chl nm dt su) (ns : List ByteArray) (x : ByteArray) : withE b ns ps x = r.witE ns x := by
  unfold withE RD.witE
  rw [R.begE, H.rnow R, has_tag]
theorem DiskIn.ptr (H : DiskIn w d own b F fn fc RA rn rc SA sn sc C cn cc fs ps ss css chl nm dt su) (v : Value) (hv : v ∈ fs) : ∃ f, v = .pointer (some ⟨f, 0, none⟩) := by
  obtain ⟨f, _, _, _, e, _⟩ := H.file v hv
  exact ⟨f, e⟩
theorem DiskIn.ne (H : DiskIn w d own b F fn fc RA rn rc SA sn sc C cn cc fs ps ss css chl nm dt su) (v : Value) (hv : v ∈ fs) : v ≠ .pointer none := fun e => by
  obtain ⟨f, e'⟩ := H.ptr v hv
  rw [e] at e'
  cases e'
theorem DiskIn.rnum (H : DiskIn w d own b F fn fc RA rn rc SA sn sc C cn cc fs ps ss css chl nm dt su) (R : Reads r b fs ss chl nm dt su) (x : ByteArray) (v : Value) (hv : lookP ltS ps x = Option.some v) : r.num x = nm v ∧ r.get x = ⟨dt v, su v⟩ := by
  have hm := H.look x v hv
  have e : r.num x = nm v := by
    unfold RD.num
    rw [H.rnow R, look_tag, hv, Option.map_some, Option.getD_some, tag_some _ _ (H.ne v hm), numOf_numV]
  refine ⟨e, ?_⟩
  unfold RD.get RD.file
  rw [e, List.getD_eq_getElem?_getD, R.files v hm]
  rfl
theorem DiskIn.rused (H : DiskIn w d own b F fn fc RA rn rc SA sn sc C cn cc fs ps ss css chl nm dt su) (R : Reads r b fs ss chl nm dt su) : r.used = usedO dt ps := by
  unfold RD.used usedO
  rw [H.rnow R, sumLen_tag]
  unfold sumLen
  congr 1
  refine List.map_congr_left fun p hp => ?_
  have hm := H.nin p hp
  unfold RD.file
  show (r.files.getD (numOf (tag nm p.2)) ⟨[], 0⟩).data.length = (dt p.2).length
  rw [tag_some _ _ (H.ne _ hm), numOf_numV, List.getD_eq_getElem?_getD, R.files _ hm]
  rfl
theorem DiskIn.rlen (H : DiskIn w d own b F fn fc RA rn rc SA sn sc C cn cc fs ps ss css chl nm dt su) (R : Reads r b fs ss chl nm dt su) : fn ≤ r.files.length ∧ sn = r.sure.length ∧ cn = r.chs.length ∧ rn = r.now.length := by
  have h1 := rises_len fs 0 r.files.length H.rises (fun v hv => ⟨Nat.zero_le _, by have := (List.getElem?_eq_some_iff.1 (R.files v hv)).1; exact this⟩)
  have h2 := H.line.1
  have h3 := H.srow.len
  have h4 := H.cline.1
  have h5 := H.chs.1
  have h6 := H.nrow.len
  refine ⟨by omega, ?_, ?_, ?_⟩
  · rw [R.sure]; unfold mapT; rw [List.length_map]; omega
  · rw [R.chs, List.length_map]; omega
  · rw [H.rnow R]; unfold mapT; rw [List.length_map]; omega
/-- Behind a call. -/
theorem DNext.of (hF : ∀ i, w.heap.size ≤ i → own i = 0) (hO : Only own w own' w') (H : DiskIn w' d own' b F fn fc RA rn rc SA sn sc C cn cc fs ps ss css chl nm dt su) (R : Reads r b fs ss chl nm dt su) : DNext w d own r w' := by
  have hz := hO.1.size
  refine ⟨fun i => if i < w'.heap.size then own' i else 0, ⟨hO.1, fun i hi => (if_pos (by omega)).trans (hO.2.1 i hi), hO.2.2⟩, fun i hi => if_neg (by omega), b, F, fn, fc, RA, rn, rc, SA, sn, sc, C, cn, cc, fs, ps, ss, css, chl, nm, dt, su, ?_, R⟩
  exact H.carry (Nat.le_refl _) (fun i hi => if_pos hi) (fun i hi _ => rfl)
theorem updP_ne {α : Type} (g : Value → α) (fb : Nat) (x : α) (v : Value) (h : v ≠ .pointer (Option.some ⟨fb, 0, none⟩)) : updP g fb x v = g v := by
  unfold updP
  split
  · rename_i e
    unfold ptrIs at e
    split at e
    · rw [beq_iff_eq] at e; rw [e] at h; exact absurd rfl h
    · cases e
  · rfl
end
theorem IsD.carry {w w' : World} {d : Nat} {own own' : Nat → Nat} {r : RD} (h : IsD w d own r) (hz : w.heap.size ≤ w'.heap.size) (ho : ∀ k, k < w.heap.size → own' k = own k) (hs : ∀ k, k < w.heap.size → own k ≠ 0 → w'.heap[k]? = w.heap[k]?) (hF : ∀ i, w'.heap.size ≤ i → own' i = 0) : IsD w' d own' r := by
  obtain ⟨_, b, F, fn, fc, RA, rn, rc, SA, sn, sc, C, cn, cc, fs, ps, ss, css, chl, nm, dt, su, H, R⟩ := h
  exact ⟨hF, b, F, fn, fc, RA, rn, rc, SA, sn, sc, C, cn, cc, fs, ps, ss, css, chl, nm, dt, su, H.carry hz ho hs, R⟩
theorem IsD.below {w w' : World} {d : Nat} {own : Nat → Nat} {r : RD} (h : IsD w d own r) (hB : Below w.heap.size w w') : IsD w' d own r := h.carry hB.size (fun _ _ => rfl) (fun k hk _ => hB.block k hk) (fun i hi => h.1 i (by have := hB.size; omega))
/-- Where nothing of the disk's was written. -/
theorem IsD.chg {w w' : World} {d : Nat} {own : Nat → Nat} {r : RD} {l : List Nat} (h : IsD w d own r) (hc : Chg l w w') (hl : ∀ k ∈ l, own k = 0) : IsD w' d own r := h.carry hc.size (fun _ _ => rfl) (fun k hk h0 => hc.same k hk (fun hm => h0 (hl k hm))) (fun i hi => h.1 i (by have := hc.size; omega))
theorem IsD.od {w : World} {d : Nat} {own : Nat → Nat} {r : RD} (h : IsD w d own r) : own d ≠ 0 := by
  obtain ⟨_, b, F, fn, fc, RA, rn, rc, SA, sn, sc, C, cn, cc, fs, ps, ss, css, chl, nm, dt, su, H, R⟩ := h
  rw [H.od]
  omega
end Go.Proofs.Ytnjnlcmpfnabiaa
