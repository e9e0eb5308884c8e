/- Reading for layer 6's laws: a disk's Read and the document's Parse in one form; two disks, of which one was cloned; slices of keys that came in. -/
import Derived.Test.YtdjnebgjdekmaaaGreatDoorZbo
import Derived.Test.YtdjnebgjdekmaaaGreatDoorZbh
import Derived.Test.YtdjnebgjdekmaaaGreatDoorZan
import Derived.Test.YtdjnebgjdekmaaaGreatDoorZbl
import Derived.Test.YtdjnebgjdekmaaaGreatDoorZbk
import Derived.Test.YtdjnebgjdekmaaaGreatDoorZbp
import Derived.Test.YtdjnebgjdekmaaaGreatDoorZbq
set_option linter.unusedVariables false
set_option maxRecDepth 100000
namespace Go.Proofs.YtdjnebgjdekmaaaGreatDoor
section
open Go.RowKit Go.Maps
theorem nilRowQ (w : World) : RowN w none 0 [] := ⟨rfl, fun z hz => by simp [asZ] at hz, fun h => absurd h (by omega)⟩
theorem IsD.aside {w w1 w2 : World} {d c : Nat} {own own2 own3 : Nat → Nat} {r : RD} (hF : ∀ i, w.heap.size ≤ i → own i = 0) (h0 : ∀ i, i < w.heap.size → own2 i = 0) (hc : IsD w1 c own2 r) (hO : Only own w1 own3 w2) : IsD w2 c own2 r :=
 hc.carry hO.1.size (fun _ _ => rfl) (fun k hk h => hO.2.2 k hk (hF k (by
  rcases Nat.lt_or_ge k w.heap.size with q | q
  · exact absurd (h0 k q) h
  · exact q))) (fun i hi => hc.1 i (by have := hO.1.size; omega))
def sureH (r : RD) (x : ByteArray) : Option (List Nat) := (lookP ltS r.sure x).map fun v => natsV (r.file (numOf v)).data
def fsH (fs : List RF) (x : ByteArray) : Option (List Nat) := (fs.find? (isAt x)).map RF.data
theorem isAt_iff {x : ByteArray} {o : RF} : isAt x o = true ↔ o.name = x := by
 unfold isAt
 rw [decide_eq_true_eq]
 exact ⟨fun h => bytes_inj h, fun h => by rw [h]⟩
theorem isAt_no {x : ByteArray} {o : RF} (h : o.name ≠ x) : isAt x o = false := by
 cases e : isAt x o with
 | false => rfl
 | true => exact absurd (isAt_iff.1 e) h
theorem idx_find (p : RF → Bool) : ∀ fs : List RF, ((fs.findIdx? p).bind fun i => fs[i]?) = fs.find? p
 | [] => rfl
 | a :: l => by
  rw [List.findIdx?_cons, List.find?_cons]
  cases h : p a with
  | true => rfl
  | false =>
   rw [← idx_find p l]
   show ((l.findIdx? p).map (fun i => i + 1)).bind (fun i => (a :: l)[i]?) = _
   cases l.findIdx? p <;> rfl
theorem rfile_find (fs : List RF) (l : List Nat) (dn s : Nat) : rfile fs l dn s = fs.find? (isAt (fileB l dn s)) := idx_find _ fs
def dropF (fs : List RF) (x : ByteArray) : List RF := match fs.findIdx? (isAt x) with
 | some i => fs.take i ++ fs.drop (i + 1)
 | none => fs
theorem dropF_cons (x : ByteArray) (o : RF) (t : List RF) : dropF (o :: t) x = if isAt x o = true then t else o :: dropF t x := by
 unfold dropF
 rw [List.findIdx?_cons]
 cases h : isAt x o with
 | true => simp
 | false =>
  rw [if_neg (by decide), if_neg (by decide)]
  cases t.findIdx? (isAt x) with
  | none => rfl
  | some i => rfl
theorem dropF_sub (x : ByteArray) : ∀ fs : List RF, (dropF fs x).Sublist fs
 | [] => List.Sublist.refl _
 | o :: t => by
  rw [dropF_cons]
  split
  · exact List.sublist_cons_self _ _
  · exact (dropF_sub x t).cons_cons _
theorem fsH_none {fs : List RF} {x : ByteArray} (h : ∀ o ∈ fs, o.name ≠ x) : fsH fs x = none := by
 unfold fsH
 rw [List.find?_eq_none.2 (fun o ho => by rw [isAt_no (h o ho)]; decide)]
 rfl
theorem fsH_cons (o : RF) (t : List RF) (z : ByteArray) : fsH (o :: t) z = if o.name = z then some o.data else fsH t z := by
 unfold fsH
 rw [List.find?_cons]
 by_cases h : o.name = z
 · rw [if_pos h, isAt_iff.2 h]; rfl
 · rw [if_neg h, isAt_no h]
theorem fsH_drop (x z : ByteArray) : ∀ fs : List RF, fs.Pairwise (fun o o' => o.name ≠ o'.name) → fsH (dropF fs x) z = if z = x then none else fsH fs z
 | [], _ => by
  show fsH [] z = _
  rw [show fsH [] z = none from rfl]
  split <;> rfl
 | o :: t, h => by
  obtain ⟨h1, h2⟩ := List.pairwise_cons.1 h
  have ih := fsH_drop x z t h2
  rw [dropF_cons, fsH_cons]
  by_cases hx : o.name = x
  · rw [if_pos (isAt_iff.2 hx)]
    by_cases hz : z = x
    · rw [if_pos hz]
      exact fsH_none (fun o' ho' e => h1 o' ho' (by rw [hx, e, hz]))
    · rw [if_neg hz, if_neg (fun e => hz (by rw [← e, hx]))]
  · rw [if_neg (by rw [isAt_no hx]; decide), fsH_cons, ih]
    by_cases hz : z = x
    · rw [if_pos hz, if_pos hz, if_neg (fun e => hx (by rw [e, hz]))]
    · rw [if_neg hz, if_neg hz]
theorem fsH_snoc (o : RF) (z : ByteArray) : ∀ fs : List RF, fsH fs o.name = none → fsH (fs ++ [o]) z = if z = o.name then some o.data else fsH fs z
 | [], _ => by
  show fsH [o] z = _
  rw [fsH_cons]
  by_cases h : o.name = z
  · rw [if_pos h, if_pos h.symm]
  · rw [if_neg h, if_neg (fun e => h e.symm)]
 | a :: t, h => by
  rw [fsH_cons] at h
  by_cases ha : a.name = o.name
  · rw [if_pos ha] at h; cases h
  · rw [if_neg ha] at h
    have ih := fsH_snoc o z t h
    show fsH (a :: (t ++ [o])) z = _
    rw [fsH_cons, fsH_cons, ih]
    by_cases hz : a.name = z
    · rw [if_pos hz, if_pos hz, if_neg (fun e => ha (by rw [hz, e]))]
    · rw [if_neg hz, if_neg hz]
theorem names_snoc {fs : List RF} {o : RF} (h : fs.Pairwise (fun o o' => o.name ≠ o'.name)) (hn : fsH fs o.name = none) : (fs ++ [o]).Pairwise (fun o o' => o.name ≠ o'.name) := by
 rw [List.pairwise_append]
 refine ⟨h, List.pairwise_singleton _ _, fun a ha b hb => ?_⟩
 rw [List.mem_singleton] at hb
 rw [hb]
 intro e
 unfold fsH at hn
 cases hf : fs.find? (isAt o.name) with
 | some _ => rw [hf] at hn; cases hn
 | none =>
  have := List.find?_eq_none.1 hf a ha
  rw [isAt_iff.2 e] at this
  exact this rfl
theorem rhit_hit {fs : List RF} {r : RD} {l : List Nat} {dn s : Nat} (h : fsH fs (fileB l dn s) = holdR r (fileB l dn s)) : rhit fs l dn s = hitR r l dn s := by
 unfold rhit hitR
 rw [rfile_find, ← h]
 unfold fsH
 cases fs.find? (isAt (fileB l dn s)) <;> rfl
theorem rget_find {fs : List RF} {r : RD} {l : List Nat} {dn : Nat} (h : ∀ s, s < 8 → fsH fs (fileB l dn s) = holdR r (fileB l dn s)) : rget fs l dn = findR r l dn := by
 unfold rget findR
 have : ∀ L : List Nat, (∀ s ∈ L, s < 8) → L.findSome? (fun s => (rhit fs l dn s).map fun a => (s, a)) = L.findSome? (fun s => (hitR r l dn s).map fun a => (s, a)) := by
  intro L
  induction L with
  | nil => exact fun _ => rfl
  | cons s L ih =>
   intro hL
   rw [List.findSome?_cons, List.findSome?_cons, rhit_hit (h s (hL s (List.mem_cons_self ..))), ih (fun t ht => hL t (List.mem_cons_of_mem _ ht))]
 exact this _ (fun s hs => List.mem_range.1 hs)
def Pend (puts : List (List Nat × List Nat)) (fs : List RF) (r : RD) : Prop :=
 r.chs = [] ∨ (∃ k s n, s < 8 ∧ n < r.files.length ∧ r.chs = [[(spareF k 1 s, numV n)]]) ∨
 (∃ k a s n, s < 8 ∧ n < r.files.length ∧ (k, a) ∈ puts ∧ r.chs = [[(spareF k 1 s, numV n)], [(spareF k 1 s, .pointer none), (fileB k 1 s, numV n)]] ∧ r.file n = ⟨bytesE k a, (bytesE k a).length⟩ ∧ (∀ s' a', s' < 8 → (sureH r (fileB k 1 s')).bind splitE ≠ some (k, a')) ∧ sureH r (fileB k 1 s) = none) ∨
 (∃ x, r.chs = [[(x, .pointer none)]] ∧ fsH fs x = none)
structure CrS (puts : List (List Nat × List Nat)) (fs : List RF) (m : Nat) (r : RD) : Prop where
 good : ∀ x b, sureH r x = some b → ∃ k a s, s < 8 ∧ x = fileB k 1 s ∧ b = entryN k a ∧ (k, a) ∈ puts
 full : ∀ p ∈ r.sure, (r.file (numOf p.2)).sure = (r.file (numOf p.2)).data.length
 uniq : ∀ k a a' s s', s < 8 → s' < 8 → (sureH r (fileB k 1 s)).bind splitE = some (k, a) → (sureH r (fileB k 1 s')).bind splitE = some (k, a') → s = s'
 doc : ∀ x b, fsH fs x = some b → sureH r x = some b
 names : fs.Pairwise (fun o o' => o.name ≠ o'.name)
 on : r.off = false → r.chs = [] ∧ ∀ x b, sureH r x = some b → fsH fs x = some b
 pend : Pend puts fs r
 small : ∀ f ∈ r.files, f.data.length ≤ 416
 quota : r.quota = 1048576
 nfiles : r.files.length ≤ m
 nsure : r.sure.length ≤ 2 * m
 nchs : r.chs.length ≤ 2
 ncalls : r.calls ≤ 5 * m
def PutsOk (puts : List (List Nat × List Nat)) : Prop := ∀ p ∈ puts, p.1.length ≤ 200 ∧ p.2.length ≤ 200
section
variable {puts : List (List Nat × List Nat)} {fs : List RF} {m : Nat} {r : RD}
theorem CrS.size (C : CrS puts fs m r) : r.size ≤ 8 * m + 4 := by
 have h1 := C.nfiles
 have h2 := C.nsure
 have h3 := C.nchs
 have h4 := C.ncalls
 unfold RD.size
 omega
theorem CrS.smallD (C : CrS puts fs m r) : SmallD r := small_of (fun f hf => by have := C.small f hf; omega)
theorem CrS.fresh (q : Int) (hq : q = 1048576) (st : Int) : CrS puts [] 0 ⟨[], [], [], q, false, false, st, 0⟩ where
 good := fun x b h => by cases h
 full := fun p hp => by cases hp
 uniq := fun k a a' s s' _ _ h => by cases h
 doc := fun x b h => by cases h
 names := List.Pairwise.nil
 on := fun _ => ⟨rfl, fun x b h => by cases h⟩
 pend := .inl rfl
 small := fun f hf => by cases hf
 quota := hq
 nfiles := Nat.le_refl _
 nsure := Nat.le_refl _
 nchs := Nat.zero_le _
 ncalls := Nat.le_refl _
theorem hold_sure (hc : r.chs = []) (x : ByteArray) : holdR r x = sureH r x := by
 have hn : r.now = r.sure := by unfold RD.now; rw [hc]; rfl
 unfold holdR sureH RD.get RD.num
 rw [hn]
 unfold hasP
 cases lookP ltS r.sure x <;> rfl
theorem CrS.same (C : CrS puts fs m r) (h1 : r.off = false) (x : ByteArray) : fsH fs x = holdR r x := by
 obtain ⟨hc, hon⟩ := C.on h1
 rw [hold_sure hc]
 cases hs : sureH r x with
 | some b => exact hon x b hs
 | none =>
  cases hf : fsH fs x with
  | none => rfl
  | some b =>
   have := C.doc x b hf
   rw [hs] at this
   cases this
theorem CrS.noSpare (C : CrS puts fs m r) {k : List Nat} {s : Nat} (hs : s < 8) : sureH r (spareF k 1 s) = none := by
 cases h : sureH r (spareF k 1 s) with
 | none => rfl
 | some b =>
  obtain ⟨k', a, s', hs', e, _⟩ := C.good _ _ h
  exact absurd e.symm (fileB_spare hs' hs)
theorem has_sure {x : ByteArray} (h : sureH r x = none) : hasP ltS r.sure x = false := by
 unfold sureH at h
 unfold hasP
 cases e : lookP ltS r.sure x with
 | none => rfl
 | some v => rw [e] at h; cases h
theorem has_sure_some {x : ByteArray} {b : List Nat} (h : sureH r x = some b) : hasP ltS r.sure x = true := by
 unfold sureH at h
 unfold hasP
 cases e : lookP ltS r.sure x with
 | none => rw [e] at h; cases h
 | some v => rfl
theorem CrS.used (C : CrS puts fs m r) (hc : r.chs = []) : r.used ≤ 416 * (2 * m) := by
 have hn : r.now = r.sure := by unfold RD.now; rw [hc]; rfl
 unfold RD.used
 rw [hn]
 refine Nat.le_trans (sumLen_all _ 416 _ (fun p hp => ?_)) (Nat.mul_le_mul_left _ C.nsure)
 unfold RD.file
 rw [List.getD_eq_getElem?_getD]
 cases e : r.files[numOf p.2]? with
 | none => exact Nat.zero_le _
 | some f => exact C.small f (List.mem_of_getElem? e)
theorem file_more {f : Fl} {i : Nat} (h : i < r.files.length) {r' : RD} (hf : r'.files = r.files ++ [f]) : r'.file i = r.file i := by
 unfold RD.file
 rw [hf, List.getD_eq_getElem?_getD, List.getD_eq_getElem?_getD, List.getElem?_append_left h]
theorem file_new {f : Fl} {r' : RD} (hf : r'.files = r.files ++ [f]) : r'.file r.files.length = f := by
 unfold RD.file
 rw [hf]
 simp
theorem sure_more (F : Fct r) {f : Fl} {r' : RD} (hf : r'.files = r.files ++ [f]) (hs : r'.sure = r.sure) (x : ByteArray) : sureH r' x = sureH r x := by
 unfold sureH
 rw [hs]
 cases e : lookP ltS r.sure x with
 | none => rfl
 | some v =>
  obtain ⟨i, hv, hi⟩ := F.ns _ ((look_some orders_S F.rs).1 e)
  simp only at hv
  rw [hv]
  show some (natsV (r'.file (numOf (numV i))).data) = some (natsV (r.file (numOf (numV i))).data)
  rw [numOf_numV, file_more hi hf]
theorem sure_put (F : Fct r) {f : Fl} {x : ByteArray} {r' : RD} (hf : r'.files = r.files ++ [f]) (hs : r'.sure = putP ltS r.sure x (numV r.files.length)) (z : ByteArray) : sureH r' z = if z = x then some (natsV f.data) else sureH r z := by
 unfold sureH
 rw [hs, look_put orders_S F.rs]
 by_cases hz : z = x
 · rw [if_pos hz, if_pos hz]
   show some (natsV (r'.file (numOf (numV r.files.length))).data) = _
   rw [numOf_numV, file_new hf]
 · rw [if_neg hz, if_neg hz]
   cases e : lookP ltS r.sure z with
   | none => rfl
   | some v =>
    obtain ⟨i, hv, hi⟩ := F.ns _ ((look_some orders_S F.rs).1 e)
    simp only at hv
    rw [hv]
    show some (natsV (r'.file (numOf (numV i))).data) = some (natsV (r.file (numOf (numV i))).data)
    rw [numOf_numV, file_more hi hf]
theorem sure_drop (F : Fct r) {x : ByteArray} {r' : RD} (hf : r'.files = r.files) (hs : r'.sure = dropP ltS r.sure x) (z : ByteArray) : sureH r' z = if z = x then none else sureH r z := by
 unfold sureH RD.file
 rw [hs, hf, look_drop orders_S F.rs]
 by_cases hz : z = x
 · rw [if_pos hz, if_pos hz]; rfl
 · rw [if_neg hz, if_neg hz]
theorem sure_same {r' : RD} (hf : r'.files = r.files) (hs : r'.sure = r.sure) (z : ByteArray) : sureH r' z = sureH r z := by
 unfold sureH RD.file
 rw [hs, hf]
theorem absent_le : ∀ (P : List (ByteArray × Value)) (x : ByteArray), (P.filter fun p => ltS p.1 x).length + (P.filter fun p => ltS x p.1).length ≤ P.length
 | [], _ => by simp
 | p :: l, x => by
  have ih := absent_le l x
  rw [List.filter_cons, List.filter_cons]
  by_cases h1 : ltS p.1 x = true
  · rw [if_pos h1, if_neg (by rw [orders_S.asym h1]; decide)]
    simp only [List.length_cons]
    omega
  · rw [if_neg h1]
    split <;> simp only [List.length_cons] <;> omega
theorem put_len (F : Fct r) (x : ByteArray) (v : Value) : (putP ltS r.sure x v).length ≤ r.sure.length + 2 ∧ (dropP ltS r.sure x).length ≤ r.sure.length := by
 refine ⟨?_, ?_⟩
 · unfold putP
   rw [List.length_append, List.length_cons]
   have h := (absent_le r.sure x)
   omega
 · unfold dropP
   rw [List.length_append]
   exact absent_le r.sure x
end
section
variable {puts : List (List Nat × List Nat)} {fs fs' : List RF} {m : Nat} {r r' : RD}
theorem Pend.shrink (h : Pend puts fs r) (hs : ∀ x b, fsH fs' x = some b → fsH fs x = some b) : Pend puts fs' r := by
 rcases h with h | h | h | ⟨x, h1, h2⟩
 · exact .inl h
 · exact .inr (.inl h)
 · exact .inr (.inr (.inl h))
 · refine .inr (.inr (.inr ⟨x, h1, ?_⟩))
   cases e : fsH fs' x with
   | none => rfl
   | some b => rw [hs x b e] at h2; cases h2
theorem CrS.more (C : CrS puts fs m r) : CrS puts fs (m + 1) r :=
 { C with
  nfiles := by have := C.nfiles; omega
  nsure := by have := C.nsure; omega
  ncalls := by have := C.ncalls; omega }
theorem CrS.shrink (C : CrS puts fs m r) (ho : r.off = true) (hs : ∀ x b, fsH fs' x = some b → fsH fs x = some b) (hn : fs'.Pairwise (fun o o' => o.name ≠ o'.name)) : CrS puts fs' m r :=
 { C with
  doc := fun x b h => C.doc x b (hs x b h)
  names := hn
  on := fun h => by rw [ho] at h; cases h
  pend := C.pend.shrink hs }
theorem CrS.went (C : CrS puts fs m r) (F : Fct r) (ho : r'.off = true) (hsu : r'.sure = r.sure) (hf : r'.files = r.files ∨ ∃ f, r'.files = r.files ++ [f] ∧ f.data.length ≤ 416) (hc : r'.chs.length ≤ 2) (hq : r'.quota = r.quota) (hca : r'.calls ≤ r.calls + 5) (hp : Pend puts fs' r')
 (hs : ∀ x b, fsH fs' x = some b → fsH fs x = some b) (hn : fs'.Pairwise (fun o o' => o.name ≠ o'.name)) : CrS puts fs' (m + 1) r' := by
 have hS : ∀ x, sureH r' x = sureH r x := fun x => by
  rcases hf with hf | ⟨f, hf, _⟩
  · exact sure_same hf hsu x
  · exact sure_more F hf hsu x
 have hF : ∀ p ∈ r.sure, r'.file (numOf p.2) = r.file (numOf p.2) := fun p h => by
  rcases hf with hf | ⟨f, hf, _⟩
  · unfold RD.file; rw [hf]
  · obtain ⟨i, hv, hi⟩ := F.ns p h
    rw [hv, numOf_numV]
    exact file_more hi hf
 exact {
  good := fun x b h => C.good x b (by rw [← hS]; exact h)
  full := fun p h => by
   rw [hsu] at h
   rw [hF p h]
   exact C.full p h
  uniq := fun k a a' s s' h1 h2 h3 h4 => C.uniq k a a' s s' h1 h2 (by rw [← hS]; exact h3) (by rw [← hS]; exact h4)
  doc := fun x b h => by rw [hS]; exact C.doc x b (hs x b h)
  names := hn
  on := fun h => by rw [ho] at h; cases h
  pend := hp
  small := fun f h => by
   rcases hf with hf | ⟨g, hf, hg⟩
   · rw [hf] at h; exact C.small f h
   · rw [hf] at h
     rcases List.mem_append.1 h with q | q
     · exact C.small f q
     · rw [List.mem_singleton] at q; rw [q]; exact hg
  quota := by rw [hq]; exact C.quota
  nfiles := by
   have := C.nfiles
   rcases hf with hf | ⟨g, hf, hg⟩
   · rw [hf]; omega
   · rw [hf, List.length_append]; simp only [List.length_cons, List.length_nil]; omega
  nsure := by rw [hsu]; have := C.nsure; omega
  nchs := hc
  ncalls := by have := C.ncalls; omega }
theorem no_key {k : List Nat} (h1 : r.chs = []) (h : findR r k 1 = none) (s : Nat) (a : List Nat) (hs : s < 8) : (sureH r (fileB k 1 s)).bind splitE ≠ some (k, a) := by
 intro e
 have h2 : hitR r k 1 s = some a := by
  unfold hitR
  rw [hold_sure h1, e]
  exact if_pos rfl
 unfold findR at h
 rw [List.findSome?_eq_none_iff] at h
 have h3 := h s (List.mem_range.2 hs)
 rw [h2] at h3
 cases h3
theorem room_first {k : List Nat} {s : Nat} (h : roomR r k 1 = some s) : s < 8 ∧ holdR r (fileB k 1 s) = none ∧ ∀ t, t < s → (holdR r (fileB k 1 t)).isSome = true := by
 unfold roomR at h
 rw [List.find?_range_eq_some] at h
 obtain ⟨h1, h2, h3⟩ := h
 refine ⟨List.mem_range.1 h2, ?_, fun t ht => ?_⟩
 · unfold freeR at h1
   exact Option.isNone_iff_eq_none.1 h1
 · have h4 := h3 t ht
   unfold freeR at h4
   cases e : holdR r (fileB k 1 t) with
   | none => rw [e] at h4; simp at h4
   | some _ => rfl
theorem CrS.put (C : CrS puts fs m r) (F : Fct r) (hP : PutsOk puts) (hm : m ≤ 100) {k a : List Nat} (hka : (k, a) ∈ puts) {out : Int × RD} (hout : putR r k a 1 = out) :
 (out.1 = 0 ∧ CrS puts fs (m + 1) out.2 ∧ ∃ p, rget fs k 1 = some p) ∨
 (out.1 = 0 ∧ rget fs k 1 = none ∧ ∃ s, s < 8 ∧ (∀ t, t < s → (fsH fs (fileB k 1 t)).isSome = true) ∧ fsH fs (fileB k 1 s) = none ∧ ∀ o : RF, o.name = fileB k 1 s → o.data = entryN k a → CrS puts (fs ++ [o]) (m + 1) out.2) ∨
 (out.1 ≠ 0 ∧ CrS puts fs (m + 1) out.2) := by
 obtain ⟨hk2, ha2⟩ := hP _ hka
 simp only at hk2 ha2
 subst hout
 unfold putR
 cases ho : r.off with
 | true => rw [if_pos rfl]; exact .inr (.inr ⟨show (5 : Int) ≠ 0 by decide, C.more⟩)
 | false =>
  rw [if_neg (by decide)]
  have hsame := C.same ho
  have hget : rget fs k 1 = findR r k 1 := rget_find (fun s _ => hsame _)
  obtain ⟨hc, hon⟩ := C.on ho
  cases hf : findR r k 1 with
  | some p => exact .inl ⟨rfl, C.more, p, by rw [hget, hf]⟩
  | none =>
   simp only
   cases hr : roomR r k 1 with
   | none => exact .inr (.inr ⟨by simp, C.more⟩)
   | some s =>
    simp only
    obtain ⟨hs8, hfree, hfirst⟩ := room_first hr
    have hnk := no_key hc hf
    have hsx : sureH r (fileB k 1 s) = none := by rw [← hold_sure hc]; exact hfree
    have hbl := bytesE_length k a
    have hns := C.nsure
    have hus := C.used hc
    have L := lay_stop (bs := bytesE k a) ho hc F (fileB_ok k 1 s (by omega) hs8) (spareF_ok k 1 s (by omega) hs8) (fileB_spare hs8 hs8) (has_sure (C.noSpare hs8)) (by omega) (by omega) (by rw [C.quota]; omega)
    unfold layR
    rw [spare_name, show cellsZ (asZ (entryN k a)) = bytesE k a from rfl]
    generalize runL (spareF k 1 s) (layS (fileB k 1 s) (spareF k 1 s) (bytesE k a)) r = R at L ⊢
    obtain ⟨l1, l2, l3⟩ := L
    rcases l3 with ⟨e0, e1, e2, e3, e4⟩ | ⟨e0, e1, e2, e3⟩
    · refine .inr (.inl ⟨e0, by rw [hget, hf], s, hs8, fun t ht => by rw [hsame]; exact hfirst t ht, by rw [hsame]; exact hfree, fun o hon1 hon2 => ?_⟩)
      have hS := sure_put F e2 e3
      rw [natsV_E] at hS
      have hfx : fsH fs o.name = none := by rw [hon1, hsame]; exact hfree
      have hD : ∀ z, fsH (fs ++ [o]) z = if z = fileB k 1 s then some (entryN k a) else fsH fs z := fun z => by rw [fsH_snoc o z fs hfx, hon1, hon2]
      have hsp := split_entry k a (by omega) (by omega)
      exact {
       good := fun x b h => by
        rw [hS] at h
        by_cases hx : x = fileB k 1 s
        · rw [if_pos hx] at h
          cases h
          exact ⟨k, a, s, hs8, hx, rfl, hka⟩
        · rw [if_neg hx] at h
          exact C.good x b h
       full := fun p h => by
        rw [e3] at h
        rcases (mem_putP orders_S).1 h with q | q
        · rw [q]
          show (R.2.file (numOf (numV r.files.length))).sure = (R.2.file (numOf (numV r.files.length))).data.length
          rw [numOf_numV, file_new e2]
        · obtain ⟨i, hv, hi⟩ := F.ns p q.1
          have h2 := C.full p q.1
          rw [hv, numOf_numV] at h2 ⊢
          rw [file_more hi e2]
          exact h2
       uniq := fun k' a1 a2 s1 s2 h1 h2 h3 h4 => by
        rw [hS] at h3 h4
        by_cases q1 : fileB k' 1 s1 = fileB k 1 s
        · by_cases q2 : fileB k' 1 s2 = fileB k 1 s
          · rw [(fileB_inj h1 hs8 q1).2, (fileB_inj h2 hs8 q2).2]
          · rw [if_pos q1, Option.bind_some, hsp] at h3
            cases h3
            rw [if_neg q2] at h4
            exact absurd h4 (hnk s2 a2 h2)
        · by_cases q2 : fileB k' 1 s2 = fileB k 1 s
          · rw [if_pos q2, Option.bind_some, hsp] at h4
            cases h4
            rw [if_neg q1] at h3
            exact absurd h3 (hnk s1 a1 h1)
          · rw [if_neg q1] at h3
            rw [if_neg q2] at h4
            exact C.uniq k' a1 a2 s1 s2 h1 h2 h3 h4
       doc := fun x b h => by
        rw [hD] at h
        rw [hS]
        by_cases hx : x = fileB k 1 s
        · rw [if_pos hx] at h ⊢; exact h
        · rw [if_neg hx] at h ⊢; exact C.doc x b h
       names := names_snoc C.names hfx
       on := fun _ => ⟨e4, fun x b h => by
        rw [hS] at h
        rw [hD]
        by_cases hx : x = fileB k 1 s
        · rw [if_pos hx] at h ⊢; exact h
        · rw [if_neg hx] at h ⊢; exact hon x b h⟩
       pend := .inl e4
       small := fun f h => by
        rw [e2] at h
        rcases List.mem_append.1 h with q | q
        · exact C.small f q
        · rw [List.mem_singleton] at q; rw [q]; show (bytesE k a).length ≤ 416; omega
       quota := by rw [l1]; exact C.quota
       nfiles := by have := C.nfiles; rw [e2, List.length_append]; simp only [List.length_cons, List.length_nil]; omega
       nsure := by have h := (put_len F (fileB k 1 s) (numV r.files.length)).1; rw [e3]; omega
       nchs := by rw [e4]; exact Nat.zero_le _
       ncalls := by have := C.ncalls; omega }
    · refine .inr (.inr ⟨by rw [e0]; decide, ?_⟩)
      rcases e3 with ⟨f1, f2⟩ | ⟨f, f1, f2, f3⟩ | ⟨f1, f2⟩
      · exact C.went F e1 e2 (.inl f1) (by rw [f2]; exact Nat.zero_le _) l1 l2 (.inl f2) (fun x b h => h) C.names
      · exact C.went F e1 e2 (.inr ⟨f, f1, by omega⟩) (by rw [f3]; simp) l1 l2 (.inr (.inl ⟨k, s, r.files.length, hs8, by rw [f1, List.length_append]; simp, f3⟩)) (fun x b h => h) C.names
      · refine C.went F e1 e2 (.inr ⟨_, f1, by show (bytesE k a).length ≤ 416; omega⟩) (by rw [f2]; simp) l1 l2 (.inr (.inr (.inl ⟨k, a, s, r.files.length, hs8, by rw [f1, List.length_append]; simp, hka, f2, file_new f1, fun s' a' h9 => ?_, ?_⟩))) (fun x b h => h) C.names
        · rw [sure_more F f1 e2]
          exact hnk s' a' h9
        · rw [sure_more F f1 e2]
          exact hsx
def dropG (fs : List RF) (k : List Nat) : List RF := match rget fs k 1 with
 | none => fs
 | some (s, _) => dropF fs (fileB k 1 s)
theorem dropG_sub (C : CrS puts fs m r) (k : List Nat) : (∀ x b, fsH (dropG fs k) x = some b → fsH fs x = some b) ∧ (dropG fs k).Pairwise (fun o o' => o.name ≠ o'.name) := by
 unfold dropG
 cases rget fs k 1 with
 | none => exact ⟨fun x b h => h, C.names⟩
 | some p =>
  obtain ⟨s, a⟩ := p
  refine ⟨fun x b h => ?_, C.names.sublist (dropF_sub _ _)⟩
  simp only at h
  rw [fsH_drop _ _ _ C.names] at h
  split at h
  · cases h
  · exact h
theorem CrS.drop (C : CrS puts fs m r) (F : Fct r) (hm : m ≤ 100) (k : List Nat) {out : Int × RD} (hout : dropR r k 1 = out) :
 ((out.1 = 0 ∨ out.1 = 5) ∧ CrS puts (dropG fs k) (m + 1) out.2) ∨ (out.1 = 3 ∧ CrS puts fs (m + 1) out.2) := by
 subst hout
 unfold dropR
 cases hf : findR r k 1 with
 | none => exact .inr ⟨rfl, C.more⟩
 | some p =>
  obtain ⟨s, a⟩ := p
  simp only
  obtain ⟨hs8, hhit⟩ := findR_lt hf
  obtain ⟨hsub, hnam⟩ := dropG_sub C k
  refine .inl ?_
  cases ho : r.off with
  | true =>
   have e : r.remove (fileB k 1 s) = (5, r) := by
    have hon : r.on = false := by unfold RD.on; rw [ho]; rfl
    have hb : r.begE [fileB k 1 s] = 5 := by unfold RD.begE; rw [hon]; rfl
    have hw : r.witE [fileB k 1 s] (fileB k 1 s) = 5 := by unfold RD.witE; rw [hb, if_neg (by decide)]
    have hp : r.powered = r := by unfold RD.powered; rw [if_pos ho]
    unfold RD.remove
    rw [hw, if_neg (by decide), hp]
   rw [e, if_neg (show ¬ (5 : Int) = 0 by decide)]
   exact ⟨.inr rfl, (C.shrink ho hsub hnam).more⟩
  | false =>
   obtain ⟨hc, hon⟩ := C.on ho
   have hsx : ∃ b, sureH r (fileB k 1 s) = some b := by
    unfold hitR at hhit
    rw [hold_sure hc] at hhit
    cases e : sureH r (fileB k 1 s) with
    | some b => exact ⟨b, rfl⟩
    | none => rw [e] at hhit; cases hhit
   obtain ⟨b, hsx⟩ := hsx
   have hget : rget fs k 1 = some (s, a) := by rw [rget_find (fun s _ => C.same ho _), hf]
   have hG : dropG fs k = dropF fs (fileB k 1 s) := by unfold dropG; rw [hget]
   have hD : ∀ z, fsH (dropG fs k) z = if z = fileB k 1 s then none else fsH fs z := fun z => by rw [hG]; exact fsH_drop _ _ _ C.names
   have G := gone_stop ho hc (fileB_ok k 1 s (by omega) hs8) (has_sure_some hsx)
   generalize (if (r.remove (fileB k 1 s)).1 = 0 then (r.remove (fileB k 1 s)).2.syncDir else r.remove (fileB k 1 s)) = R at G ⊢
   obtain ⟨l1, l2, l3, l4⟩ := G
   rcases l4 with ⟨e0, e1, e2, e3⟩ | ⟨e0, e1, e2, e3⟩
   · refine ⟨.inl e0, ?_⟩
     have hS := sure_drop F l3 e2
     exact {
      good := fun x b h => by
       rw [hS] at h
       split at h
       · cases h
       · exact C.good x b h
      full := fun p h => by
       rw [e2] at h
       have h2 := C.full p ((mem_dropP orders_S).1 h).1
       unfold RD.file at h2 ⊢
       rw [l3]
       exact h2
      uniq := fun k' a1 a2 s1 s2 h1 h2 h3 h4 => by
       rw [hS] at h3 h4
       split at h3
       · cases h3
       · split at h4
         · cases h4
         · exact C.uniq k' a1 a2 s1 s2 h1 h2 h3 h4
      doc := fun x b h => by
       rw [hD] at h
       rw [hS]
       split at h
       · cases h
       · rename_i hx; rw [if_neg hx]; exact C.doc x b h
      names := hnam
      on := fun _ => ⟨e3, fun x b h => by
       rw [hS] at h
       rw [hD]
       split at h
       · cases h
       · rename_i hx; rw [if_neg hx]; exact hon x b h⟩
      pend := .inl e3
      small := fun f h => by rw [l3] at h; exact C.small f h
      quota := by rw [l1]; exact C.quota
      nfiles := by have := C.nfiles; rw [l3]; omega
      nsure := by have h := (put_len F (fileB k 1 s) (numV 0)).2; have := C.nsure; rw [e2]; omega
      nchs := by rw [e3]; exact Nat.zero_le _
      ncalls := by have := C.ncalls; omega }
   · refine ⟨.inr e0, C.went F e1 e2 (.inl l3) ?_ l1 (by omega) ?_ hsub hnam⟩
     · rcases e3 with e3 | e3 <;> rw [e3] <;> simp
     · rcases e3 with e3 | e3
       · exact .inl e3
       · exact .inr (.inr (.inr ⟨_, e3, by rw [hD, if_pos rfl]⟩))
end
theorem named_file (l : List Nat) (n s : Nat) : namedB (fileB l n s) = true := by
 unfold namedB fileB
 rw [txt_data]
 unfold fileN stemN
 simp [Lib.hasPrefix]
theorem named_spare (l : List Nat) (n s : Nat) : namedB (spareF l n s) = true := by
 unfold namedB spareF
 rw [txt_data]
 unfold spareN fileN stemN
 simp [Lib.hasPrefix]
theorem hold_has {r : RD} {x : ByteArray} {b : List Nat} (h : holdR r x = some b) : hasP ltS r.now x = true ∧ natsV (r.get x).data = b := by
 unfold holdR at h
 split at h
 · rename_i e; cases h; exact ⟨e, rfl⟩
 · cases h
theorem keep_file {r : RD} {k a : List Nat} {s : Nat} (hs : s < 8) (hk : k.length ≤ 65536) (ha : a.length ≤ 65536) (h : holdR r (fileB k 1 s) = some (entryN k a)) : keepX r 1 (fileB k 1 s) = true := by
 unfold keepX badQ
 rw [(hold_has h).2, named_file, Bool.true_and]
 show (!(soundN (fileB k 1 s) (entryN k a) 1).isNone) = true
 unfold soundN
 rw [named_file, if_pos rfl, split_entry k a hk ha]
 simp only
 rw [if_pos (List.any_eq_true.2 ⟨s, List.mem_range.2 hs, decide_eq_true rfl⟩)]
 rfl
theorem keep_spare {r : RD} {k : List Nat} {s : Nat} (hs : s < 8) : keepX r 1 (spareF k 1 s) = false := by
 unfold keepX badQ
 rw [named_spare, Bool.true_and]
 show (!(soundN (spareF k 1 s) (natsV (r.get (spareF k 1 s)).data) 1).isNone) = false
 unfold soundN
 rw [named_spare, if_pos rfl]
 cases splitE (natsV (r.get (spareF k 1 s)).data) with
 | none => rfl
 | some p =>
  obtain ⟨k', a⟩ := p
  simp only
  rw [if_neg]
  · rfl
  · rw [List.any_eq_true]
    rintro ⟨t, ht, h⟩
    exact fileB_spare (List.mem_range.1 ht) hs (of_decide_eq_true h)
section
variable {puts : List (List Nat × List Nat)} {fs : List RF} {m : Nat} {r r4 : RD}
theorem crash_hold (F : Fct r) (P : Puts r) (dir : Int) (zs : List Int) (z : ByteArray) : holdR (r.crash dir zs) z = (lookP ltS (r.left dir) z).map fun v => natsV (RD.cutF zs (numOf v) (r.file (numOf v))).data := by
 cases h : lookP ltS (r.left dir) z with
 | none =>
  unfold holdR
  rw [has_crash]
  unfold hasP
  rw [h]
  rfl
 | some v =>
  have m0 := (look_some orders_S (left_rises F dir)).1 h
  obtain ⟨i, q, hlt⟩ := left_numsB F P dir _ m0
  simp only at q
  subst q
  obtain ⟨g1, g2⟩ := lost_get dir zs (left_rises F dir) h hlt
  unfold holdR
  rw [g1, g2, if_pos rfl]
  simp only [Option.map_some, numOf_numV]
theorem cut_full {zs : List Int} {i : Nat} {f : Fl} (h : f.sure = f.data.length) : (RD.cutF zs i f).data = f.data := by
 show f.data.take (leftN _ _ _) = _
 have hl : leftN f.data.length f.sure (keptZ zs i) = f.data.length := by
  rw [h]
  unfold leftN
  omega
 rw [hl, List.take_length]
theorem CrS.lost (C : CrS puts fs m r) (F : Fct r) (zs : List Int) (z : ByteArray) : (lookP ltS r.sure z).map (fun v => natsV (RD.cutF zs (numOf v) (r.file (numOf v))).data) = sureH r z := by
 unfold sureH
 cases h : lookP ltS r.sure z with
 | none => rfl
 | some v =>
  simp only [Option.map_some]
  rw [cut_full (C.full _ ((look_some orders_S F.rs).1 h))]
def LeftA (puts : List (List Nat × List Nat)) (fs : List RF) (r r3 : RD) : Prop :=
 (∀ z, holdR r3 z = sureH r z) ∨
 (∃ k s b, s < 8 ∧ ∀ z, holdR r3 z = if z = spareF k 1 s then some b else sureH r z) ∨
 (∃ k a s, s < 8 ∧ (k, a) ∈ puts ∧ (∀ s' a', s' < 8 → (sureH r (fileB k 1 s')).bind splitE ≠ some (k, a')) ∧ sureH r (fileB k 1 s) = none ∧ ∀ z, holdR r3 z = if z = fileB k 1 s then some (entryN k a) else sureH r z) ∨
 (∃ x, fsH fs x = none ∧ ∀ z, holdR r3 z = if z = x then none else sureH r z)
theorem CrS.left (C : CrS puts fs m r) (F : Fct r) (P : Puts r) (dir : Int) (zs : List Int) : LeftA puts fs r (r.crash dir zs) := by
 have hH := crash_hold F P dir zs
 have h0 : r.left dir = r.sure → LeftA puts fs r (r.crash dir zs) := fun e => .inl (fun z => by rw [hH, e]; exact C.lost F zs z)
 have hrs := F.rs
 have hlost := C.lost F zs
 rcases C.pend with hc | ⟨k, s, n, hs, hn, hc⟩ | ⟨k, a, s, n, hs, hn, hka, hc, hf, hno, hns⟩ | ⟨x, hc, hx⟩
 · exact h0 (by unfold RD.left; rw [hc, List.take_nil]; rfl)
 · cases ht : dir.toNat with
   | zero => exact h0 (by unfold RD.left; rw [ht, List.take_zero]; rfl)
   | succ t =>
    have e : r.left dir = putP ltS r.sure (spareF k 1 s) (numV n) := by
     unfold RD.left
     rw [hc, ht, List.take_succ_cons, List.take_nil]
     rfl
    refine .inr (.inl ⟨k, s, natsV (RD.cutF zs n (r.file n)).data, hs, fun z => ?_⟩)
    rw [hH, e, look_put orders_S hrs]
    by_cases hz : z = spareF k 1 s
    · rw [if_pos hz, if_pos hz]
      simp only [Option.map_some, numOf_numV]
    · rw [if_neg hz, if_neg hz, hlost]
 · cases ht : dir.toNat with
   | zero => exact h0 (by unfold RD.left; rw [ht, List.take_zero]; rfl)
   | succ t =>
    cases t with
    | zero =>
     have e : r.left dir = putP ltS r.sure (spareF k 1 s) (numV n) := by
      unfold RD.left
      rw [hc, ht]
      rfl
     refine .inr (.inl ⟨k, s, natsV (RD.cutF zs n (r.file n)).data, hs, fun z => ?_⟩)
     rw [hH, e, look_put orders_S hrs]
     by_cases hz : z = spareF k 1 s
     · rw [if_pos hz, if_pos hz]
       simp only [Option.map_some, numOf_numV]
     · rw [if_neg hz, if_neg hz, hlost]
    | succ t =>
     have e : r.left dir = putP ltS r.sure (fileB k 1 s) (numV n) := by
      unfold RD.left
      rw [hc, ht, List.take_succ_cons, List.take_succ_cons, List.take_nil]
      show layP (layP r.sure [(spareF k 1 s, numV n)]) [(spareF k 1 s, .pointer none), (fileB k 1 s, numV n)] = _
      rw [layP_one, layP_two, drop_put hrs (has_sure (C.noSpare hs))]
     refine .inr (.inr (.inl ⟨k, a, s, hs, hka, hno, hns, fun z => ?_⟩))
     rw [hH, e, look_put orders_S hrs]
     by_cases hz : z = fileB k 1 s
     · rw [if_pos hz, if_pos hz]
       simp only [Option.map_some, numOf_numV]
       rw [hf, cut_full rfl, natsV_E]
     · rw [if_neg hz, if_neg hz, hlost]
 · cases ht : dir.toNat with
   | zero => exact h0 (by unfold RD.left; rw [ht, List.take_zero]; rfl)
   | succ t =>
    have e : r.left dir = dropP ltS r.sure x := by
     unfold RD.left
     rw [hc, ht, List.take_succ_cons, List.take_nil]
     rfl
    refine .inr (.inr (.inr ⟨x, hx, fun z => ?_⟩))
    rw [hH, e, look_drop orders_S hrs]
    by_cases hz : z = x
    · rw [if_pos hz, if_pos hz]
      rfl
    · rw [if_neg hz, if_neg hz, hlost]
structure CrF (puts : List (List Nat × List Nat)) (fs : List RF) (r4 : RD) : Prop where
 good : ∀ x b, holdR r4 x = some b → ∃ k a s, s < 8 ∧ x = fileB k 1 s ∧ b = entryN k a ∧ (k, a) ∈ puts
 uniq : ∀ k a a' s s', s < 8 → s' < 8 → (holdR r4 (fileB k 1 s)).bind splitE = some (k, a) → (holdR r4 (fileB k 1 s')).bind splitE = some (k, a') → s = s'
 doc : ∀ x b, fsH fs x = some b → holdR r4 x = some b
theorem CrS.fin (C : CrS puts fs m r) (hP : PutsOk puts) {r3 : RD} (hL : LeftA puts fs r r3) (hB : RecB 1 r3 r4) : CrF puts fs r4 := by
 have hK : ∀ x b, sureH r x = some b → holdR r3 x = some b → holdR r4 x = some b := fun x b h1 h2 => by
  obtain ⟨k, a, s, hs, rfl, rfl, hka⟩ := C.good x b h1
  obtain ⟨q1, q2⟩ := hP _ hka
  rw [hB.hold, if_pos (keep_file hs (by simp only at q1; omega) (by simp only at q2; omega) h2)]
  exact h2
 have h43 : ∀ x b, holdR r4 x = some b → holdR r3 x = some b ∧ keepX r3 1 x = true := fun x b h => by
  rw [hB.hold] at h
  split at h
  · rename_i e; exact ⟨h, e⟩
  · cases h
 rcases hL with h | ⟨k, s, b, hs, h⟩ | ⟨k, a, s, hs, hka, hno, hns, h⟩ | ⟨x, hx, h⟩
 · have h4 : ∀ x b, holdR r4 x = some b ↔ sureH r x = some b := fun x b => ⟨fun e => by rw [← h]; exact (h43 x b e).1, fun e => hK x b e (by rw [h]; exact e)⟩
   exact ⟨fun x b e => C.good x b ((h4 x b).1 e), fun k a a' s s' h1 h2 h3 h5 => by
    obtain ⟨b1, e1, e2⟩ := Option.bind_eq_some_iff.1 h3
    obtain ⟨b2, e3, e4⟩ := Option.bind_eq_some_iff.1 h5
    exact C.uniq k a a' s s' h1 h2 (by rw [(h4 _ _).1 e1]; exact e2) (by rw [(h4 _ _).1 e3]; exact e4), fun x b e => (h4 x b).2 (C.doc x b e)⟩
 · have h4 : ∀ x b, holdR r4 x = some b ↔ sureH r x = some b := fun x b' => by
    constructor
    · intro e
      obtain ⟨e1, e2⟩ := h43 x b' e
      rw [h] at e1
      split at e1
      · rename_i hx
        rw [hx, keep_spare hs] at e2
        cases e2
      · exact e1
    · intro e
      refine hK x b' e ?_
      rw [h, if_neg (fun hx => by rw [hx, C.noSpare hs] at e; cases e)]
      exact e
   exact ⟨fun x b e => C.good x b ((h4 x b).1 e), fun k a a' s s' h1 h2 h3 h5 => by
    obtain ⟨b1, e1, e2⟩ := Option.bind_eq_some_iff.1 h3
    obtain ⟨b2, e3, e4⟩ := Option.bind_eq_some_iff.1 h5
    exact C.uniq k a a' s s' h1 h2 (by rw [(h4 _ _).1 e1]; exact e2) (by rw [(h4 _ _).1 e3]; exact e4), fun x b e => (h4 x b).2 (C.doc x b e)⟩
 · obtain ⟨q1, q2⟩ := hP _ hka
   simp only at q1 q2
   have hsp := split_entry k a (by omega) (by omega)
   have h4 : ∀ x b, holdR r4 x = some b → (x = fileB k 1 s ∧ b = entryN k a) ∨ (x ≠ fileB k 1 s ∧ sureH r x = some b) := fun x b' e => by
    obtain ⟨e1, e2⟩ := h43 x b' e
    rw [h] at e1
    split at e1
    · rename_i hx; cases e1; exact .inl ⟨hx, rfl⟩
    · rename_i hx; exact .inr ⟨hx, e1⟩
   exact ⟨fun x b e => by
    rcases h4 x b e with ⟨rfl, rfl⟩ | ⟨_, e⟩
    · exact ⟨k, a, s, hs, rfl, rfl, hka⟩
    · exact C.good x b e, fun k' a1 a2 s1 s2 h1 h2 h3 h5 => by
    obtain ⟨b1, e1, e2⟩ := Option.bind_eq_some_iff.1 h3
    obtain ⟨b2, e3, e4⟩ := Option.bind_eq_some_iff.1 h5
    rcases h4 _ _ e1 with ⟨p1, p2⟩ | ⟨p1, p2⟩
    · rcases h4 _ _ e3 with ⟨p3, p4⟩ | ⟨p3, p4⟩
      · rw [(fileB_inj h1 hs p1).2, (fileB_inj h2 hs p3).2]
      · rw [p2, hsp] at e2
        cases e2
        exact absurd (by rw [p4]; exact e4) (hno s2 a2 h2)
    · rcases h4 _ _ e3 with ⟨p3, p4⟩ | ⟨p3, p4⟩
      · rw [p4, hsp] at e4
        cases e4
        exact absurd (by rw [p2]; exact e2) (hno s1 a1 h1)
      · exact C.uniq k' a1 a2 s1 s2 h1 h2 (by rw [p2]; exact e2) (by rw [p4]; exact e4), fun x b e => by
    have e1 := C.doc x b e
    refine hK x b e1 ?_
    rw [h, if_neg (fun hx => by rw [hx, hns] at e1; cases e1)]
    exact e1⟩
 · have h4 : ∀ x b, holdR r4 x = some b → sureH r x = some b := fun y b' e => by
    have e1 := (h43 y b' e).1
    rw [h] at e1
    split at e1
    · cases e1
    · exact e1
   exact ⟨fun x b e => C.good x b (h4 x b e), fun k a a' s s' h1 h2 h3 h5 => by
    obtain ⟨b1, e1, e2⟩ := Option.bind_eq_some_iff.1 h3
    obtain ⟨b2, e3, e4⟩ := Option.bind_eq_some_iff.1 h5
    exact C.uniq k a a' s s' h1 h2 (by rw [h4 _ _ e1]; exact e2) (by rw [h4 _ _ e3]; exact e4), fun y b e => by
    have e1 := C.doc y b e
    refine hK y b e1 ?_
    rw [h, if_neg (fun hy => by rw [hy, hx] at e; cases e)]
    exact e1⟩
end
end
section
open Go.RowKit Go.Maps Go.Shelf
set_option maxHeartbeats 1600000 in
theorem rentry_new (A B : Option Addr) (n c m c2 : Nat) (k a : List Nat) (hn : n ≤ 65536) (hm : m ≤ 65536) (w : World) (hk : RowN w A n k) (ha : RowN w B m a) :
 Calls Tryz.prog 36 #[.slice A n c, .slice B m c2] w fun e w' => (∃ A' c', e = .returned (.slice A' (n + m + 16) c') ∧ RowN w' A' (n + m + 16) (entryN k a) ∧ n + m + 16 ≤ c' ∧ c' ≤ 9223372036854775807 ∧ ∀ j ∈ blk A', w.heap.size ≤ j ∧ j < w'.heap.size) ∧ Below w.heap.size w w' := by
 have H1 := Lib.hid (refframe_any A n c k hn w hk)
 have HA := Lib.hid ha
 clear hk ha
 go_enter Tryz.func36, Tryz.ntmps36
 go_wp2_with fail
 refine H1.out.mono ?_
 rintro e w1 ⟨⟨A1, d1, rfl, hf1, hl1⟩, hb1⟩
 have H2 := Lib.hid (refframe_any B m c2 a hm w1 (HA.out.below hb1))
 have HL1 := Lib.hid (And.intro hl1 (And.intro hf1 hb1))
 clear hl1 hf1 hb1 H1
 go_wp2_with fail
 refine H2.out.mono ?_
 rintro e w2 ⟨⟨A2, d2, rfl, hf2, hl2⟩, hb2⟩
 have hl1 := HL1.out.1.below hb2
 obtain ⟨A3, c3, W3, hrun, hl3, hch, hfr, hne⟩ := bytes_push w2 A1 _ d1 _ hl1 (by omega) A2 (m + 8) d2 (frameN a) hl2.row (by omega) (fun e => by omega)
 have hb3 : Below w.heap.size w W3 := (HL1.out.2.2.trans (hb2.mono HL1.out.2.2.size)).trans (hch.toBelow (fun i hi => HL1.out.2.1 i hi) (Nat.le_trans HL1.out.2.2.size hb2.size))
 have e1 : n + 8 + (m + 8) = n + m + 16 := by omega
 rw [e1] at hrun hl3
 have HR := Lib.hid hrun
 have hnew : ∀ j ∈ blk A3, w.heap.size ≤ j ∧ j < W3.heap.size := fun j hj => ⟨by
  rcases hfr j hj with q | q
  · exact HL1.out.2.1 j q
  · have := HL1.out.2.2.size; have := hb2.size; omega, hl3.2.lt j hj⟩
 have HX := Lib.hid (And.intro (And.intro hl3.row (And.intro hl3.2.2.1 (And.intro hl3.2.2.2.1 hnew))) hb3)
 clear hnew hl1 hl2 hf2 hb2 hrun hl3 hch hfr hne hb3 e1 HL1 H2
 go_wp2_with (at_builtin; refine Lib.wpList_append_run _ rfl _ _ _ _ rfl _ _ rfl rfl _ _ HR.out ?_)
 go_ret
 exact ⟨⟨A3, c3, rfl, HX.out.1⟩, HX.out.2⟩
structure RStX (B : Nat) (w : World) (own : Nat → Nat) (s dn : Nat) (A : Option Addr) (c : Nat) (fs : List RF) : Prop where
 st : RSt w s dn A c fs
 os : B ≤ s ∧ own s = 0
 oA : ∀ k ∈ blk A, B ≤ k ∧ own k = 0
 oD : ∀ o ∈ fs, ∀ k ∈ blk o.dA, B ≤ k ∧ own k = 0 ∧ k < w.heap.size ∧ k ≠ s ∧ k ∉ blk A
 caps : ∀ o ∈ fs, o.data.length ≤ 90000 ∧ o.dc ≤ 9223372036854775807
theorem RStX.only {B : Nat} {w w' : World} {own own' : Nat → Nat} {s dn : Nat} {A : Option Addr} {c : Nat} {fs : List RF} (h : RStX B w own s dn A c fs) (hO : Only own w own' w') : RStX B w' own' s dn A c fs := by
 have hs := lt_of_block h.st.box
 have hz := hO.1.size
 refine ⟨⟨(hO.2.2 s hs h.os.2).trans h.st.box, h.st.line.same hz (fun k hk => hO.2.2 k (h.st.line.lt k hk) (h.oA k hk).2), h.st.apart, fun o ho => ⟨?_, (h.st.rows o ho).2⟩⟩, ⟨h.os.1, (hO.2.1 s hs).trans h.os.2⟩, fun k hk => ⟨(h.oA k hk).1, (hO.2.1 k (h.st.line.lt k hk)).trans (h.oA k hk).2⟩, fun o ho k hk => ?_, h.caps⟩
 · exact RowZ.only (h.st.rows o ho).1 hO (fun ad e => (h.oD o ho ad.block (mem_blk.2 ⟨ad, e, rfl⟩)).2.1)
 · obtain ⟨q1, q2, q3, q4, q5⟩ := h.oD o ho k hk
   exact ⟨q1, (hO.2.1 k q3).trans q2, by omega, q4, q5⟩
theorem atF_none {fs : List RF} {l : List Nat} {dn t : Nat} (h : fsH fs (fileB l dn t) = none) : atF fs (fileB l dn t) = -1 := by
 rcases atF_cases fs l dn t with ⟨h1, _⟩ | ⟨i, o, _, _, h1⟩
 · exact h1
 · rw [rfile_find] at h1
   unfold fsH at h
   rw [h1] at h
   cases h
theorem atF_some {fs : List RF} {l : List Nat} {dn t : Nat} (h : (fsH fs (fileB l dn t)).isSome = true) : ∃ i : Nat, atF fs (fileB l dn t) = (i : Int) := by
 rcases atF_cases fs l dn t with ⟨_, h1⟩ | ⟨i, o, h1, _, _⟩
 · rw [rfile_find] at h1
   unfold fsH at h
   rw [h1] at h
   cases h
 · exact ⟨i, h1⟩
theorem infoFl : (Tryz.prog.info? 56).map (fun i => (i.zero, i.size, i.bytes)) = some (some (.agg #[.string ⟨#[]⟩, .slice none 0 0]), 2, 40) := by kernel_rfl
theorem rput_push (w3 : World) (s dn : Nat) (A : Option Addr) (c : Nat) (fs : List RF) (h : RSt w3 s dn A c fs) (hsA : s ∉ blk A) (hdat : ∀ o ∈ fs, ∀ k ∈ blk o.dA, k ≠ s ∧ k ∉ blk A) (hn : fs.length ≤ 1000) (x : ByteArray) (N : Nat) (b : List Nat) (w4 : World) (A4 : Option Addr) (c4 : Nat) (hb4 : Below w3.heap.size w3 w4) (hr4 : RowN w4 A4 N b) (hc4 : N ≤ c4) (hcm4 : c4 ≤ 9223372036854775807) (hn4 : ∀ j ∈ blk A4, w3.heap.size ≤ j ∧ j < w4.heap.size) :
 ∃ A5 c5 W5 W6, (Builtin.append_ #[36, 36] 36 #[.slice A fs.length c, .slice (some ⟨w4.heap.size, 0, none⟩) 1 1]).run Tryz.prog (w4.alloc (.cells #[.string x, .slice A4 N c4] 56)) = .ok (.slice A5 (fs.length + 1) c5) W5 ∧
  w4.cell? ⟨s, 1, none⟩ = some (.slice A fs.length c) ∧ (w4.alloc (.cells #[.string x, .slice A4 N c4] 56)).cell? ⟨s, 1, none⟩ = some (.slice A fs.length c) ∧ W5.cell? ⟨s, 1, none⟩ = some (.slice A fs.length c) ∧ W5.frozen? ⟨s, 1, none⟩ = false ∧ W5.setCell ⟨s, 1, none⟩ (.slice A5 (fs.length + 1) c5) = W6 ∧
  ∃ A' c' o, o.name = x ∧ o.data = b ∧ RSt W6 s dn A' c' (fs ++ [o]) ∧ Chg (s :: blk A) w3 W6 ∧ (∀ k ∈ blk A', k ∈ blk A ∨ w3.heap.size ≤ k) ∧ (∀ k ∈ blk o.dA, w3.heap.size ≤ k ∧ k < W6.heap.size ∧ k ∉ blk A') ∧ o.dc ≤ 9223372036854775807 ∧ s ∉ blk A' := by
 have hN := hr4.length
 have hS4 := h.below hb4
 have hs3 := lt_of_block h.box
 have hs4 := lt_of_block hS4.box
 have hba : Below w4.heap.size w4 (w4.alloc (.cells #[.string x, .slice A4 N c4] 56)) := (Below.refl _ w4).alloc (Nat.le_refl _) _
 obtain ⟨A5, c5, W5, hrun, hl5, hch5, hfr5, hne5⟩ := push_s 2 w4 36 56 36 _ 40 Tryz.underlying36 infoFl rfl (by decide) A fs.length c _ hS4.line (by omega) [.string x, .slice A4 N c4] rfl (fun u hu => by
  simp only [List.mem_cons, List.not_mem_nil, or_false] at hu
  rcases hu with rfl | rfl <;> rfl)
 have hbox5 : W5.heap[s]? = some (.cells #[.int .i64 (dn : Int), .slice A fs.length c] 38 (0, 0)) := (hch5.same s hs4 hsA).trans hS4.box
 have hz5 := hch5.size
 have hz4 := hb4.size
 obtain ⟨W6, hW6⟩ : ∃ W6, W5.setCell ⟨s, 1, none⟩ (.slice A5 (fs.length + 1) c5) = W6 := ⟨_, rfl⟩
 have hc6 : Chg [s] W5 W6 := by rw [← hW6]; exact (Chg.refl [s] W5).setCell s 1 _ (.inl (by simp))
 have hbox6 : W6.heap[s]? = some (.cells #[.int .i64 (dn : Int), .slice A5 (fs.length + 1) c5] 38 (0, 0)) := by
  rw [← hW6]
  simp [World.setCell, Array.getElem?_modify, hbox5]
 have hall : Chg (s :: blk A) w3 W6 := ((Chg.of_below hb4).trans (hch5.weaken (fun k hk => .inl (List.mem_cons_of_mem _ hk)))).trans (hc6.weaken (fun k hk => by rw [List.mem_singleton] at hk; rw [hk]; exact .inl (List.mem_cons_self ..)))
 have hs5 : s ∉ blk A5 := fun hm => by
  rcases hfr5 s hm with q | q
  · exact hsA q
  · omega
 have hd4 : ∀ k ∈ blk A4, k ≠ s ∧ k ∉ blk A := fun k hk => by
  have h1 := hn4 k hk
  refine ⟨by omega, fun hm => ?_⟩
  have := h.line.lt k hm
  omega
 refine ⟨A5, c5, W5, W6, hrun, by rw [cell_of_row _ s 1 _ _ (0, 0) hS4.box]; rfl, by rw [cell_of_row _ s 1 _ _ (0, 0) ((hba.block s hs4).trans hS4.box)]; rfl, by rw [cell_of_row _ s 1 _ _ (0, 0) hbox5]; rfl, frozen_of_row _ s 1 _ _ hbox5, hW6, A5, c5, ⟨x, A4, c4, b⟩, rfl, rfl, ⟨?_, ?_, ?_, ?_⟩, hall, ?_, ?_, hcm4, hs5⟩
 · rw [List.length_append]
   exact hbox6
 · rw [List.length_append, List.flatMap_append]
   have h1 := hl5.chg hc6 (fun k hk hm => hs5 (by rw [List.mem_singleton] at hm; rw [← hm]; exact hk))
   show SLine 2 W6 A5 (fs.length + 1) c5 (fs.flatMap RF.cells ++ [.string x, .slice A4 b.length c4])
   rw [hN]
   exact h1
 · exact fun k hk e => hs5 (by rw [← e]; exact hk)
 · intro o ho
   rcases List.mem_append.1 ho with q | q
   · obtain ⟨r1, r2⟩ := h.rows o q
     refine ⟨RowZ.chg r1 hall (fun k hk ad e he => ?_), r2⟩
     have h9 := hdat o q ad.block (mem_blk.2 ⟨ad, e, rfl⟩)
     rcases List.mem_cons.1 hk with q2 | q2
     · exact h9.1 (by rw [he, q2])
     · exact h9.2 (by rw [he]; exact q2)
   · rw [List.mem_singleton] at q
     subst q
     refine ⟨?_, by show b.length ≤ c4; omega⟩
     show RowN W6 A4 b.length b
     rw [hN]
     refine RowZ.chg (RowZ.chg hr4 hch5 (fun k hk ad e he => (hd4 ad.block (mem_blk.2 ⟨ad, e, rfl⟩)).2 (by rw [he]; exact hk))) hc6 (fun k hk ad e he => ?_)
     rw [List.mem_singleton] at hk
     exact (hd4 ad.block (mem_blk.2 ⟨ad, e, rfl⟩)).1 (by rw [he, hk])
 · intro k hk
   rcases hfr5 k hk with q | q
   · exact .inl q
   · exact .inr (by omega)
 · intro k hk
   have h1 := hn4 k hk
   have hz6 := hc6.size
   refine ⟨h1.1, by omega, fun hm => ?_⟩
   rcases hfr5 k hm with q | q
   · exact (hd4 k hk).2 q
   · omega
set_option maxHeartbeats 3200000 in
theorem rput_same (w : World) (s dn : Nat) (A : Option Addr) (c : Nat) (fs : List RF) (h : RSt w s dn A c fs) (hn : fs.length ≤ 1000) (hb : ∀ o ∈ fs, o.data.length ≤ 90000 ∧ o.dc ≤ 9223372036854775807) (hdn : dn ≤ 64) (KA : Option Addr) (kn kc : Nat) (l : List Nat) (hk : Held w KA kn kc l) (hkn : kn ≤ 3000) (AA : Option Addr) (an ac : Nat) (p : Nat × List Nat) (hg : rget fs l dn = some p) :
 Calls Tryz.prog 13 #[.pointer (some ⟨s, 0, none⟩), .slice KA kn kc, .slice AA an ac] w fun e w' => e = .returned (.int .i64 0) ∧ Below w.heap.size w w' := by
 have HG := Lib.hid (rget_any w s dn A c fs h (by omega) hb hdn KA kn kc l hk hkn)
 obtain ⟨q, x⟩ := p
 have HP := Lib.hid hg
 clear h hb hk hg
 go_enter Tryz.func13, Tryz.ntmps13
 go_wp2_with fail
 refine HG.out.mono ?_
 rintro e w1 ⟨hans, hb1⟩
 unfold RGetAns at hans
 rw [HP.out] at hans
 obtain ⟨A1, c1, rfl, _⟩ := hans
 have HB := Lib.hid hb1
 have hq : (0 : Int) ≤ (q : Int) := by omega
 clear hb1 HG
 go_wp2
 go_ret
 exact ⟨rfl, HB.out⟩
section
variable {P : Program} {md : Region.Mode} {ops : Array Oper} {Q : Exit → Act → World → Prop}
theorem ta9 (i : Nat) (v : Value) {oi : Oper} {fuel : Nat} {listed : Array Bool} {a : Act} {w : World} (hi : ops[i]? = some oi)
 (h : wpAny P md ops Q fuel (listed.setIfInBounds i true) (a.put oi.dst v) w)
 (hs : Region.noSelect ops = true := by kernel_rfl) (hf : Region.free md ops listed i = true := by kernel_rfl) (hr : (Region.ready md ops listed).contains i = true := by kernel_rfl)
 (hQ : ∀ c a w, Q (.panic c) (a.put oi.dst v) w → Q (.panic c) a w := by exact fun _ _ _ h => h) (hy : Yields P ops oi v a := by exact Or.inl ⟨by rfl, (by intro w; go_simp)⟩) : wpAny P md ops Q (fuel + 1) listed a w :=
 wpAny_take hi hs hf hr hQ hy h
end
set_option maxHeartbeats 6400000 in
theorem rput_new (w : World) (s dn : Nat) (A : Option Addr) (c : Nat) (fs : List RF) (h : RSt w s dn A c fs) (hn : fs.length ≤ 1000) (hb : ∀ o ∈ fs, o.data.length ≤ 90000 ∧ o.dc ≤ 9223372036854775807) (hdn : dn ≤ 64) (KA : Option Addr) (kn kc : Nat) (l : List Nat) (hk : Held w KA kn kc l) (hkn : kn ≤ 3000) (AA : Option Addr) (an ac : Nat) (a : List Nat) (ha : RowN w AA an a) (han : an ≤ 3000)
 (hsA : s ∉ blk A) (hdat : ∀ o ∈ fs, ∀ k ∈ blk o.dA, k ≠ s ∧ k ∉ blk A) (hg : rget fs l dn = none) (t : Nat) (ht : t < 8) (hfirst : ∀ u, u < t → (fsH fs (fileB l dn u)).isSome = true) (hfree : fsH fs (fileB l dn t) = none) :
 Calls Tryz.prog 13 #[.pointer (some ⟨s, 0, none⟩), .slice KA kn kc, .slice AA an ac] w fun e w' => e = .returned (.int .i64 0) ∧ ∃ A' c' o, o.name = fileB l dn t ∧ o.data = entryN l a ∧ RSt w' s dn A' c' (fs ++ [o]) ∧ Chg (s :: blk A) w w' ∧ (∀ k ∈ blk A', k ∈ blk A ∨ w.heap.size ≤ k) ∧ (∀ k ∈ blk o.dA, w.heap.size ≤ k ∧ k < w'.heap.size ∧ k ∉ blk A') ∧ o.dc ≤ 9223372036854775807 ∧ s ∉ blk A' := by
 have HG := Lib.hid (rget_any w s dn A c fs h (by omega) hb hdn KA kn kc l hk hkn)
 have HL := Lib.hid h
 have HK := Lib.hid hk
 have HA := Lib.hid ha
 have HFI := Lib.hid hfirst
 have HFR := Lib.hid hfree
 have HGN := Lib.hid hg
 have HSA := Lib.hid (And.intro hsA hdat)
 clear h hb hk ha hfirst hfree hg hsA hdat
 go_enter Tryz.func13, Tryz.ntmps13
 go_wp2_with fail
 refine HG.out.mono ?_
 rintro e w1 ⟨hans, hb1⟩
 unfold RGetAns at hans
 rw [HGN.out] at hans
 simp only at hans
 subst hans
 have HB1 := Lib.hid hb1
 clear hb1 HG
 go_wp2_with fail
 go_loopw [9] (fun i wr => ∃ j : Nat, j ≤ t ∧ i = .int .i64 (j : Int) ∧ Hid (Below w.heap.size w wr)) (fun i _ => 8 - (intOf i).toNat)
 case atStart => exact ⟨0, Nat.zero_le _, rfl, HB1⟩
 case round =>
  obtain ⟨j, hj, rfl, HB⟩ := hrel
  have hj8 : (j : Int) < 8 := by omega
  have hj0 : (0 : Int) ≤ (j : Int) := by omega
  have hS := HL.out.below HB.out
  have y0 : wr.cell? ⟨s, 0, none⟩ = some (.int .i64 (dn : Int)) := by rw [cell_of_row _ s 0 _ _ (0, 0) hS.box]; rfl
  have HFO := Lib.hid (rfileOf_any KA kn kc l dn j hkn hdn (by omega) wr (HK.out.below HB.out).1)
  clear hS HB1
  go_wp2_with fail
  refine HFO.out.mono ?_
  rintro e w2 ⟨rfl, hb2⟩
  have hB2 : Below w.heap.size w w2 := HB.out.trans (hb2.mono HB.out.size)
  have HAT := Lib.hid (rat6_any w2 s dn A c fs (HL.out.below hB2) (by omega) (fileB l dn j))
  have HB2 := Lib.hid hB2
  clear hb2 hB2 HFO y0
  rcases Nat.lt_or_ge j t with hjt | hjt
  · obtain ⟨i, hi⟩ := atF_some (HFI.out j hjt)
    rw [hi] at HAT
    have hi0 : ¬ (i : Int) < 0 := by omega
    clear hi
    go_wp2_with fail
    refine HAT.out.mono ?_
    rintro e w3 ⟨rfl, hb3⟩
    have HB3 := Lib.hid (HB2.out.trans (hb3.mono HB2.out.size))
    clear hb3 HAT
    go_wp2
    go_roundw
    case rel => exact ⟨j + 1, by omega, by go_num, HB3⟩
    case measure => simp [intOf] <;> omega
  · obtain rfl : j = t := by omega
    rw [atF_none HFR.out] at HAT
    go_wp2_with fail
    refine HAT.out.mono ?_
    rintro e w3 ⟨rfl, hb3⟩
    have hB3 : Below w.heap.size w w3 := HB2.out.trans (hb3.mono HB2.out.size)
    have hS3 := HL.out.below hB3
    have y1 : w3.cell? ⟨s, 1, none⟩ = some (.slice A fs.length c) := by rw [cell_of_row _ s 1 _ _ (0, 0) hS3.box]; rfl
    have HE := Lib.hid (fun (V : World) (hV : Below w3.heap.size w3 V) => rentry_new KA AA kn kc an ac l a (by omega) (by omega) V (HK.out.1.below (hB3.trans (hV.mono hB3.size))) (HA.out.below (hB3.trans (hV.mono hB3.size))))
    have HD3 := Lib.hid (Below.refl w3.heap.size w3).drew
    obtain ⟨x, hx⟩ : ∃ x, fileB l dn j = x := ⟨_, rfl⟩
    obtain ⟨N, hN⟩ : ∃ N, kn + an + 16 = N := ⟨_, rfl⟩
    obtain ⟨b, hbb⟩ : ∃ b, entryN l a = b := ⟨_, rfl⟩
    obtain ⟨fl, hfl⟩ : ∃ fl, fs.length = fl := ⟨_, rfl⟩
    have HPUSH : Hid (∀ w4 A4 c4, Below w3.heap.size w3.drew w4 → RowN w4 A4 N b → N ≤ c4 → c4 ≤ 9223372036854775807 → (∀ j ∈ blk A4, w3.drew.heap.size ≤ j ∧ j < w4.heap.size) → ∃ A5 c5 W5 W6, (Builtin.append_ #[36, 36] 36 #[.slice A fl c, .slice (some ⟨w4.heap.size, 0, none⟩) 1 1]).run Tryz.prog (w4.alloc (.cells #[.string x, .slice A4 N c4] 56)) = .ok (.slice A5 (fl + 1) c5) W5 ∧
     w4.cell? ⟨s, 1, none⟩ = some (.slice A fl c) ∧ (w4.alloc (.cells #[.string x, .slice A4 N c4] 56)).cell? ⟨s, 1, none⟩ = some (.slice A fl c) ∧ W5.cell? ⟨s, 1, none⟩ = some (.slice A fl c) ∧ W5.frozen? ⟨s, 1, none⟩ = false ∧ W5.setCell ⟨s, 1, none⟩ (.slice A5 (fl + 1) c5) = W6 ∧
     ∃ A' c' o, o.name = fileB l dn j ∧ o.data = entryN l a ∧ RSt W6 s dn A' c' (fs ++ [o]) ∧ Chg (s :: blk A) w W6 ∧ (∀ k ∈ blk A', k ∈ blk A ∨ w.heap.size ≤ k) ∧ (∀ k ∈ blk o.dA, w.heap.size ≤ k ∧ k < W6.heap.size ∧ k ∉ blk A') ∧ o.dc ≤ 9223372036854775807 ∧ s ∉ blk A') := Lib.hid (fun w4 A4 c4 hb4 hr4 hc4 hcm4 hn4 => by
     rw [← hfl]
     obtain ⟨A5, c5, W5, W6, h1, h2, h3, h4, h5, h6, A', c', o, h7, h8, h9, h10, h11, h12, h13, h14⟩ := rput_push w3.drew s dn A c fs (hS3.below (Below.refl _ w3).drew) HSA.out.1 HSA.out.2 hn x N b w4 A4 c4 hb4 hr4 hc4 hcm4 hn4
     have hz := hB3.size
     exact ⟨A5, c5, W5, W6, h1, h2, h3, h4, h5, h6, A', c', o, h7.trans hx.symm, h8.trans hbb.symm, h9, (Chg.of_below (hB3.trans ((Below.refl _ w3).drew.mono hz))).trans h10, fun k hk => (h11 k hk).imp id (fun q => Nat.le_trans hz q), fun k hk => ⟨Nat.le_trans hz (h12 k hk).1, (h12 k hk).2⟩, h13, h14⟩)
    rw [hN, hbb] at HE
    rw [hfl] at y1
    rw [hx]
    clear hb3 hB3 hS3 HAT hx hN hbb hfl HL HK HA HB HB2 HFI HFR HSA
    go_wp2_with fail
    refine wp_region_any (by kernel_rfl) ?_
    change wpAny _ _ _ _ _ _ _ (World.drew _)
    refine ta9 0 (.pointer (some ⟨s, 0, none⟩)) rfl ?_
    refine ta9 1 (.pointer (some ⟨s, 0, none⟩)) rfl ?_
    refine ta9 2 (.pointer (some ⟨s, 0, none⟩)) rfl ?_
    refine ta9 3 (.pointer (some ⟨s, 1, none⟩)) rfl ?_
    refine ta9 5 (.string x) rfl ?_
    refine ta9 6 (.slice KA kn kc) rfl ?_
    refine ta9 7 (.slice AA an ac) rfl ?_
    refine wpAny_ready (rs := [4, 8]) (by kernel_rfl) (by simp) ?_
    refine AllReady.cons rfl (fun K hK => ?_) (AllReady.cons rfl (fun K hK => ?_) AllReady.nil)
    · go_simp
      refine hK _ _ ?_
      clear hK K
      refine wpAny_ready (rs := [8]) (by kernel_rfl) (by simp) ?_
      refine AllReady.cons rfl (fun K hK => ?_) AllReady.nil
      go_simp
      go_at_call 36
      refine (HE.out _ HD3.out).mono ?_
      rintro e w4 ⟨⟨A4, c4, rfl, hr4, hc4, hcm4, hn4⟩, hb4⟩
      obtain ⟨A5, c5, W5, W6, hrun, y4, y5, y6, f6, hW6, hfin⟩ := HPUSH.out w4 A4 c4 hb4 hr4 hc4 hcm4 hn4
      have HRUN := Lib.hid hrun
      have HFIN := Lib.hid hfin
      clear hr4 hc4 hcm4 hn4 hb4 hrun hfin
      try go_wp2_with fail
      refine ta9 9 (.agg #[.string x, .slice A4 N c4]) rfl ?_
      refine wpAny_ready (rs := [10]) (by kernel_rfl) (by simp) ?_
      refine AllReady.cons rfl (fun K hK => ?_) AllReady.nil
      go_simp
      refine hK _ _ ?_
      clear hK K
      refine wpAny_ready (rs := [11]) (by kernel_rfl) (by simp) ?_
      refine append_ready rfl (by kernel_rfl) _ _ _ _ rfl _ _ rfl rfl _ _ HRUN.out ?_
      refine ta9 12 (.pointer (some ⟨s, 0, none⟩)) rfl ?_
      refine ta9 13 (.pointer (some ⟨s, 1, none⟩)) rfl ?_
      refine wpAny_ready (rs := [14]) (by kernel_rfl) (by simp) ?_
      refine AllReady.cons rfl (fun K hK => ?_) AllReady.nil
      go_simp
      refine hK _ _ ?_
      clear hK K
      refine wpAny_done (by kernel_rfl) ?_ _
      go_wp2
      go_ret
      exact ⟨rfl, HFIN.out⟩
    · go_simp
      go_at_call 36
      refine (HE.out _ HD3.out).mono ?_
      rintro e w4 ⟨⟨A4, c4, rfl, hr4, hc4, hcm4, hn4⟩, hb4⟩
      obtain ⟨A5, c5, W5, W6, hrun, y4, y5, y6, f6, hW6, hfin⟩ := HPUSH.out w4 A4 c4 hb4 hr4 hc4 hcm4 hn4
      have HRUN := Lib.hid hrun
      have HFIN := Lib.hid hfin
      clear hr4 hc4 hcm4 hn4 hb4 hrun hfin
      try go_wp2_with fail
      refine ta9 9 (.agg #[.string x, .slice A4 N c4]) rfl ?_
      refine wpAny_ready (rs := [4, 10]) (by kernel_rfl) (by simp) ?_
      refine AllReady.cons rfl (fun K hK => ?_) (AllReady.cons rfl (fun K hK => ?_) AllReady.nil)
      · go_simp
        refine hK _ _ ?_
        clear hK K
        refine wpAny_ready (rs := [10]) (by kernel_rfl) (by simp) ?_
        refine AllReady.cons rfl (fun K hK => ?_) AllReady.nil
        go_simp
        refine hK _ _ ?_
        clear hK K
        refine wpAny_ready (rs := [11]) (by kernel_rfl) (by simp) ?_
        refine append_ready rfl (by kernel_rfl) _ _ _ _ rfl _ _ rfl rfl _ _ HRUN.out ?_
        refine ta9 12 (.pointer (some ⟨s, 0, none⟩)) rfl ?_
        refine ta9 13 (.pointer (some ⟨s, 1, none⟩)) rfl ?_
        refine wpAny_ready (rs := [14]) (by kernel_rfl) (by simp) ?_
        refine AllReady.cons rfl (fun K hK => ?_) AllReady.nil
        go_simp
        refine hK _ _ ?_
        clear hK K
        refine wpAny_done (by kernel_rfl) ?_ _
        go_wp2
        go_ret
        exact ⟨rfl, HFIN.out⟩
      · go_simp
        refine hK _ _ ?_
        clear hK K
        refine wpAny_ready (rs := [4]) (by kernel_rfl) (by simp) ?_
        refine AllReady.cons rfl (fun K hK => ?_) AllReady.nil
        go_simp
        refine hK _ _ ?_
        clear hK K
        refine wpAny_ready (rs := [11]) (by kernel_rfl) (by simp) ?_
        refine append_ready rfl (by kernel_rfl) _ _ _ _ rfl _ _ rfl rfl _ _ HRUN.out ?_
        refine ta9 12 (.pointer (some ⟨s, 0, none⟩)) rfl ?_
        refine ta9 13 (.pointer (some ⟨s, 1, none⟩)) rfl ?_
        refine wpAny_ready (rs := [14]) (by kernel_rfl) (by simp) ?_
        refine AllReady.cons rfl (fun K hK => ?_) AllReady.nil
        go_simp
        refine hK _ _ ?_
        clear hK K
        refine wpAny_done (by kernel_rfl) ?_ _
        go_wp2
        go_ret
        exact ⟨rfl, HFIN.out⟩
theorem cells_take : ∀ (fs : List RF) (i : Nat), (fs.flatMap RF.cells).take (i * 2) = (fs.take i).flatMap RF.cells
 | [], i => by simp
 | o :: t, 0 => by simp
 | o :: t, i + 1 => by
  rw [List.flatMap_cons, List.take_succ_cons, List.flatMap_cons, ← cells_take t i, show (i + 1) * 2 = o.cells.length + i * 2 by show _ = 2 + i * 2; omega, List.take_length_add_append]
theorem cells_drop : ∀ (fs : List RF) (i : Nat), (fs.flatMap RF.cells).drop (i * 2) = (fs.drop i).flatMap RF.cells
 | [], i => by simp
 | o :: t, 0 => by simp
 | o :: t, i + 1 => by
  rw [List.flatMap_cons, List.drop_succ_cons, ← cells_drop t i, show (i + 1) * 2 = o.cells.length + i * 2 by show _ = 2 + i * 2; omega, List.drop_length_add_append]
theorem cells_oneF (fs : List RF) : ∀ u ∈ fs.flatMap RF.cells, u.oneCell' = true := fun u hu => by
 obtain ⟨o, _, h⟩ := List.mem_flatMap.1 hu
 unfold RF.cells at h
 simp only [List.mem_cons, List.not_mem_nil, or_false] at h
 rcases h with rfl | rfl <;> rfl
theorem rdrop_runs (V : World) (g off n c : Nat) (xs : List Value) (h : SLine 2 V (some ⟨g, off, none⟩) n c xs) (h1 : ∀ u ∈ xs, u.oneCell' = true) (i : Nat) (hi : i ≤ n) (hn : n ≤ 1000) (X : Value) (k : Nat) (hk : k ≤ 1000) (ys : List Value) (hX : ∀ V', Below V.heap.size V V' → Src Tryz.prog 2 36 X k ys V') :
 ∃ A1 c1 W1 A2 c2 W2, (Builtin.append_ #[36, 36] 36 #[.slice (some ⟨V.heap.size, 0, none⟩) 0 0, .slice (some ⟨g, off, none⟩) i c]).run Tryz.prog (V.alloc (.cells #[] 56)) = .ok (.slice A1 i c1) W1 ∧
  (Builtin.append_ #[36, 36] 36 #[.slice A1 i c1, X]).run Tryz.prog W1 = .ok (.slice A2 (i + k) c2) W2 ∧ SLine 2 W2 A2 (i + k) c2 (xs.take (i * 2) ++ ys) ∧ Below V.heap.size V W1 ∧ Below V.heap.size V W2 ∧ ∀ b ∈ blk A2, V.heap.size ≤ b := by
 obtain ⟨Vn, hVn⟩ : ∃ Vn, V.alloc (.cells #[] 56) = Vn := ⟨_, rfl⟩
 have hBn : Below V.heap.size V Vn := by rw [← hVn]; exact (Below.refl _ V).alloc (Nat.le_refl _) _
 have hsn : Vn.heap.size = V.heap.size + 1 := by rw [← hVn]; simp
 have hL : SLine 2 Vn (some ⟨V.heap.size, 0, none⟩) 0 0 [] := ⟨rfl, Nat.le_refl _, by unfold maxLen; omega, (fun e => by cases e), fun ad e => by
  cases e
  exact ⟨_, _, rfl, by omega, fun i hi => by omega, fun i hi => by omega⟩⟩
 have hsh := h.shrink i hi
 have h1' : ∀ u ∈ xs.take (i * 2), u.oneCell' = true := fun u hu => h1 u (List.mem_of_mem_take hu)
 obtain ⟨A1, c1, W1, hr1, hl1, hc1, hf1, hne1⟩ := sline_append 2 Vn 36 56 36 _ 40 Tryz.underlying36 infoFl rfl (by decide) _ 0 0 _ hL (by omega) (.slice (some ⟨g, off, none⟩) i c) i (by omega) (fun e => by cases e) _ ((hsh.below hBn).src Tryz.underlying36 h1' (fun e => by cases e) c)
 rw [Nat.zero_add] at hr1 hl1
 rw [List.nil_append] at hl1
 have hb1 : ∀ b ∈ blk A1, V.heap.size ≤ b := fun b hb => by
  rcases hf1 b hb with q | q
  · rw [blk_one q]; exact Nat.le_refl _
  · omega
 have hB1 : Below V.heap.size V W1 := hBn.trans (hc1.toBelow (fun b hb => by rw [blk_one hb]; exact Nat.le_refl _) (by omega))
 obtain ⟨A2, c2, W2, hr2, hl2, hc2, hf2, _⟩ := sline_append 2 W1 36 56 36 _ 40 Tryz.underlying36 infoFl rfl (by decide) A1 i c1 _ hl1 (by omega) X k (by omega) (fun e => absurd e hne1) ys (hX _ hB1)
 have hz1 := hB1.size
 rw [hVn]
 exact ⟨A1, c1, W1, A2, c2, W2, hr1, hr2, hl2, hB1, hB1.trans (hc2.toBelow hb1 hz1), fun b hb => by
  rcases hf2 b hb with q | q
  · exact hb1 b q
  · omega⟩
theorem rhit_lt {fs : List RF} {l : List Nat} {dn q : Nat} {x : List Nat} (h : rget fs l dn = some (q, x)) : q < 8 ∧ rhit fs l dn q = some x := by
 unfold rget at h
 obtain ⟨t, ht, he⟩ := List.exists_of_findSome?_eq_some h
 cases hh : rhit fs l dn t with
 | none => rw [hh] at he; cases he
 | some b =>
  rw [hh] at he
  cases he
  exact ⟨List.mem_range.1 ht, hh⟩
theorem rget_idx {fs : List RF} {l : List Nat} {dn q : Nat} {x : List Nat} (h : rget fs l dn = some (q, x)) : ∃ (i : Nat) (o : RF), atF fs (fileB l dn q) = (i : Int) ∧ fs[i]? = some o ∧ dropF fs (fileB l dn q) = fs.take i ++ fs.drop (i + 1) := by
 have hh := (rhit_lt h).2
 unfold rhit at hh
 unfold atF dropF
 unfold rfile at hh
 cases e : fs.findIdx? (isAt (fileB l dn q)) with
 | none => rw [e] at hh; cases hh
 | some i =>
  have hi := (List.findIdx?_eq_some_iff_getElem.1 e).1
  exact ⟨i, fs[i], rfl, List.getElem?_eq_getElem hi, rfl⟩
set_option maxHeartbeats 3200000 in
theorem rdrop_none (w : World) (s dn : Nat) (A : Option Addr) (c : Nat) (fs : List RF) (h : RSt w s dn A c fs) (hn : fs.length ≤ 1000) (hb : ∀ o ∈ fs, o.data.length ≤ 90000 ∧ o.dc ≤ 9223372036854775807) (hdn : dn ≤ 64) (KA : Option Addr) (kn kc : Nat) (l : List Nat) (hk : Held w KA kn kc l) (hkn : kn ≤ 3000) (hg : rget fs l dn = none) :
 Calls Tryz.prog 11 #[.pointer (some ⟨s, 0, none⟩), .slice KA kn kc] w fun e w' => e = .returned (.int .i64 3) ∧ Below w.heap.size w w' := by
 have HG := Lib.hid (rget_any w s dn A c fs h (by omega) hb hdn KA kn kc l hk hkn)
 have HP := Lib.hid hg
 clear h hb hk hg
 go_enter Tryz.func11, Tryz.ntmps11
 go_wp2_with fail
 refine HG.out.mono ?_
 rintro e w1 ⟨hans, hb1⟩
 unfold RGetAns at hans
 rw [HP.out] at hans
 simp only at hans
 subst hans
 have HB := Lib.hid hb1
 clear hb1 HG
 go_wp2
 go_ret
 exact ⟨rfl, HB.out⟩
set_option maxHeartbeats 6400000 in
theorem rdrop_some (w : World) (s dn : Nat) (A : Option Addr) (c : Nat) (fs : List RF) (h : RSt w s dn A c fs) (hn : fs.length ≤ 1000) (hb : ∀ o ∈ fs, o.data.length ≤ 90000 ∧ o.dc ≤ 9223372036854775807) (hdn : dn ≤ 64) (KA : Option Addr) (kn kc : Nat) (l : List Nat) (hk : Held w KA kn kc l) (hkn : kn ≤ 3000)
 (hdat : ∀ o ∈ fs, ∀ k ∈ blk o.dA, k ≠ s) (q : Nat) (x : List Nat) (hg : rget fs l dn = some (q, x)) :
 Calls Tryz.prog 11 #[.pointer (some ⟨s, 0, none⟩), .slice KA kn kc] w fun e w' => e = .returned (.int .i64 0) ∧ ∃ A' c', RSt w' s dn A' c' (dropF fs (fileB l dn q)) ∧ Chg [s] w w' ∧ ∀ k ∈ blk A', w.heap.size ≤ k := by
 have HG := Lib.hid (rget_any w s dn A c fs h (by omega) hb hdn KA kn kc l hk hkn)
 have HP := Lib.hid hg
 have HL := Lib.hid h
 have HK := Lib.hid hk
 obtain ⟨i, o, hat, hio, hdr⟩ := rget_idx hg
 have hq8 := (rhit_lt hg).1
 have HAT := Lib.hid hat
 have HDR := Lib.hid hdr
 have HDA := Lib.hid hdat
 have hil := (List.getElem?_eq_some_iff.1 hio).1
 clear h hb hk hg hat hio hdr hdat
 go_enter Tryz.func11, Tryz.ntmps11
 go_wp2_with fail
 refine HG.out.mono ?_
 rintro e w1 ⟨hans, hb1⟩
 unfold RGetAns at hans
 rw [HP.out] at hans
 obtain ⟨A1, c1, rfl, _⟩ := hans
 have hS1 := HL.out.below hb1
 have y0 : w1.cell? ⟨s, 0, none⟩ = some (.int .i64 (dn : Int)) := by rw [cell_of_row _ s 0 _ _ (0, 0) hS1.box]; rfl
 have HFO := Lib.hid (rfileOf_any KA kn kc l dn q hkn hdn hq8 w1 (HK.out.below hb1).1)
 have HB1 := Lib.hid hb1
 have hq0 : ¬ (q : Int) < 0 := by omega
 clear hb1 HG hS1
 go_wp2_with fail
 refine HFO.out.mono ?_
 rintro e w2 ⟨rfl, hb2⟩
 have hB2 : Below w.heap.size w w2 := HB1.out.trans (hb2.mono HB1.out.size)
 have HA2 := rat6_any w2 s dn A c fs (HL.out.below hB2) (by omega) (fileB l dn q)
 rw [HAT.out] at HA2
 have HA2 := Lib.hid HA2
 have HB2 := Lib.hid hB2
 clear hb2 hB2 HFO y0
 go_wp2_with fail
 refine HA2.out.mono ?_
 rintro e w3 ⟨rfl, hb3⟩
 have hB3 : Below w.heap.size w w3 := HB2.out.trans (hb3.mono HB2.out.size)
 have hS3 := HL.out.below hB3
 obtain ⟨n, hfl⟩ : ∃ n, fs.length = n := ⟨_, rfl⟩
 have hlin := hS3.line
 have hbox := hS3.box
 rw [hfl] at hil hlin hbox
 obtain ⟨g, off, rfl, hg3, _, _⟩ := hlin.at (by omega)
 have hcn := hlin.2.1
 have y1 : w3.cell? ⟨s, 1, none⟩ = some (.slice (some ⟨g, off, none⟩) n c) := by rw [cell_of_row _ s 1 _ _ (0, 0) hbox]; rfl
 obtain ⟨p, hp⟩ : ∃ p, i + 1 = p := ⟨_, rfl⟩
 have hp14 : (i : Int) + 1 = (p : Int) := by omega
 have hpn : p ≤ n := by omega
 have hwp : IntKind.i64.wrap (p : Int) = (p : Int) := by rw [IntKind.wrap_i64]; omega
 have hwp2 : IntKind.i64.wrap ((i : Int) + 1) = (p : Int) := by rw [hp14]; exact hwp
 have hi0 : (0 : Int) ≤ (i : Int) := by omega
 have hic : (i : Int) ≤ (c : Int) := by omega
 have hp0 : (0 : Int) ≤ (p : Int) := by omega
 have hpn' : (p : Int) ≤ (n : Int) := by omega
 have hnc' : (n : Int) ≤ (c : Int) := by omega
 have hpc : (p : Int) ≤ (c : Int) := by omega
 have hzw := hB3.size
 have hEND : ∀ (A2 : Option Addr) (c2 : Nat) (W2 : World), SLine 2 W2 A2 (i + (n - p)) c2 ((fs.flatMap RF.cells).take (i * 2) ++ (fs.flatMap RF.cells).drop (p * 2)) → Below w3.heap.size w3.drew W2 → (∀ b ∈ blk A2, w3.heap.size ≤ b) → W2.cell? ⟨s, 1, none⟩ = some (.slice (some ⟨g, off, none⟩) n c) ∧ W2.frozen? ⟨s, 1, none⟩ = false ∧ ∃ W6, W2.setCell ⟨s, 1, none⟩ (.slice A2 (i + (n - p)) c2) = W6 ∧ ∃ A' c', RSt W6 s dn A' c' (dropF fs (fileB l dn q)) ∧ Chg [s] w W6 ∧ ∀ k ∈ blk A', w.heap.size ≤ k := by
  intro A2 c2 W2 hl2 hb2 hnew
  have hs3 := lt_of_block hbox
  have hbox2 : W2.heap[s]? = some (.cells #[.int .i64 (dn : Int), .slice (some ⟨g, off, none⟩) n c] 38 (0, 0)) := (hb2.block s hs3).trans hbox
  obtain ⟨W6, hW6⟩ : ∃ W6, W2.setCell ⟨s, 1, none⟩ (.slice A2 (i + (n - p)) c2) = W6 := ⟨_, rfl⟩
  have hc6 : Chg [s] W2 W6 := by rw [← hW6]; exact (Chg.refl [s] W2).setCell s 1 _ (.inl (by simp))
  have hbox6 : W6.heap[s]? = some (.cells #[.int .i64 (dn : Int), .slice A2 (i + (n - p)) c2] 38 (0, 0)) := by
   rw [← hW6]
   simp [World.setCell, Array.getElem?_modify, hbox2]
  have hlen : (dropF fs (fileB l dn q)).length = i + (n - p) := by rw [HDR.out, List.length_append, List.length_take, List.length_drop]; omega
  have hcells : (dropF fs (fileB l dn q)).flatMap RF.cells = (fs.flatMap RF.cells).take (i * 2) ++ (fs.flatMap RF.cells).drop (p * 2) := by rw [HDR.out, List.flatMap_append, ← cells_take, ← cells_drop, hp]
  have hb32 : Below w3.heap.size w3 W2 := (Below.refl w3.heap.size w3).drew.trans hb2
  have hall : Chg [s] w W6 := (Chg.of_below (hB3.trans (hb32.mono hzw))).trans hc6
  have hns : s ∉ blk A2 := fun hm => by have := hnew s hm; omega
  refine ⟨by rw [cell_of_row _ s 1 _ _ (0, 0) hbox2]; rfl, frozen_of_row _ s 1 _ _ hbox2, W6, hW6, A2, c2, ⟨by rw [hlen]; exact hbox6, ?_, fun k hk e => hns (by rw [← e]; exact hk), ?_⟩, hall, fun k hk => by have := hnew k hk; omega⟩
  · rw [hlen, hcells]
    exact hl2.chg hc6 (fun k hk hm => hns (by rw [List.mem_singleton] at hm; rw [← hm]; exact hk))
  · intro o ho
    have ho' : o ∈ fs := (dropF_sub _ _).subset ho
    obtain ⟨r1, r2⟩ := HL.out.rows o ho'
    exact ⟨RowZ.chg r1 hall (fun k hk ad e he => HDA.out o ho' ad.block (mem_blk.2 ⟨ad, e, rfl⟩) (by rw [List.mem_singleton] at hk; rw [he, hk])), r2⟩
 have hone := cells_oneF fs
 have hlin3 : SLine 2 w3.drew (some ⟨g, off, none⟩) n c (fs.flatMap RF.cells) := hlin
 have y2 : (w3.drew.alloc (.cells #[] 56)).cell? ⟨s, 1, none⟩ = some (.slice (some ⟨g, off, none⟩) n c) := by
  have hb : Below w3.heap.size w3 (w3.drew.alloc (.cells #[] 56)) := ((Below.refl _ w3).drew).alloc (Nat.le_refl _) _
  rw [cell_of_row _ s 1 _ _ (0, 0) ((hb.block s (lt_of_block hbox)).trans hbox)]
  rfl
 have y2b : (w3.alloc (.cells #[] 56)).cell? ⟨s, 1, none⟩ = some (.slice (some ⟨g, off, none⟩) n c) := by
  rw [cell_of_row _ s 1 _ _ (0, 0) ((((Below.refl w3.heap.size w3).alloc (Nat.le_refl _) _).block s (lt_of_block hbox)).trans hbox)]
  rfl
 have HBX := Lib.hid hbox
 rcases Nat.lt_or_ge p c with hlt | hge
 · obtain ⟨A4, c4, W4, A5, c5, W5, hr1, hr2, hl2, hb41, hb42, hnew⟩ := rdrop_runs w3.drew g off n c _ hlin3 hone i (by omega) (by omega) (.slice (some ⟨g, off + p * 2, none⟩) (n - p) (c - p)) (n - p) (by omega) ((fs.flatMap RF.cells).drop (p * 2)) (fun V' hB' => (hlin3.below hB').srcFrom Tryz.underlying36 hone p hpn _)
   obtain ⟨y4, f4, W6, hW6, hfin⟩ := hEND A5 c5 W5 hl2 hb42 hnew
   have y3 : W4.cell? ⟨s, 1, none⟩ = some (.slice (some ⟨g, off, none⟩) n c) := by
    rw [cell_of_row _ s 1 _ _ (0, 0) ((hb41.block s (lt_of_block HBX.out)).trans HBX.out)]
    rfl
   have HR1 := Lib.hid hr1
   have HR2 := Lib.hid hr2
   have HFIN := Lib.hid hfin
   have hpc2 : (p : Int) < (c : Int) := by omega
   have hcp : ¬ c = p := by omega
   have hpc3 : ¬ p = c := by omega
   clear hr1 hr2 hl2 hb41 hb42 hnew hfin hEND hone hlin hlin3 hbox hg3 hb3 hB3 hS3 hfl HA2 HB2 HB1 HL HK HP HAT HDR HDA hp hzw
   go_wp2_with fail
   refine wp_region_any (by kernel_rfl) ?_
   change wpAny _ _ _ _ _ _ _ (World.drew _)
   refine ta9 0 (.pointer (some ⟨s, 0, none⟩)) rfl ?_
   refine ta9 2 (.pointer (some ⟨s, 0, none⟩)) rfl ?_
   refine ta9 3 (.pointer (some ⟨s, 0, none⟩)) rfl ?_
   refine ta9 4 (.pointer (some ⟨s, 1, none⟩)) rfl ?_
   refine ta9 6 (.int .i64 (i : Int)) rfl ?_
   refine ta9 9 (.pointer (some ⟨s, 0, none⟩)) rfl ?_
   refine ta9 10 (.pointer (some ⟨s, 0, none⟩)) rfl ?_
   refine ta9 11 (.pointer (some ⟨s, 1, none⟩)) rfl ?_
   refine ta9 13 (.int .i64 (i : Int)) rfl ?_
   refine ta9 14 (.int .i64 (p : Int)) rfl ?_
   refine wpAny_ready (rs := [1, 5, 12]) (by kernel_rfl) (by simp) ?_
   refine AllReady.cons rfl (fun K hK => ?_) (AllReady.cons rfl (fun K hK => ?_) (AllReady.cons rfl (fun K hK => ?_) AllReady.nil))
   · go_simp
     refine hK _ _ ?_
     clear hK K
     refine wpAny_ready (rs := [5, 12]) (by kernel_rfl) (by simp) ?_
     refine AllReady.cons rfl (fun K hK => ?_) (AllReady.cons rfl (fun K hK => ?_) AllReady.nil)
     · go_simp
       refine hK _ _ ?_
       clear hK K
       refine ta9 7 (.slice (some ⟨g, off, none⟩) i c) rfl ?_
       refine wpAny_ready (rs := [8, 12]) (by kernel_rfl) (by simp) ?_
       refine AllReady.cons rfl (fun K hK => ?_) (AllReady.cons rfl (fun K hK => ?_) AllReady.nil)
       · rw [if_pos (by kernel_rfl)]
         refine Lib.wp_append_run _ _ _ _ _ rfl _ _ rfl rfl _ _ HR1.out (hK _ _ ?_)
         clear hK K
         refine wpAny_ready (rs := [12]) (by kernel_rfl) (by simp) ?_
         refine AllReady.cons rfl (fun K hK => ?_) AllReady.nil
         go_simp
         refine hK _ _ ?_
         clear hK K
         refine ta9 15 (.slice (some ⟨g, off + p * 2, none⟩) (n - p) (c - p)) rfl ?_
         refine wpAny_ready (rs := [16]) (by kernel_rfl) (by simp) ?_
         refine append_ready rfl (by kernel_rfl) _ _ _ _ rfl _ _ rfl rfl _ _ HR2.out ?_
         refine ta9 17 (.pointer (some ⟨s, 0, none⟩)) rfl ?_
         refine ta9 18 (.pointer (some ⟨s, 1, none⟩)) rfl ?_
         refine wpAny_ready (rs := [19]) (by kernel_rfl) (by simp) ?_
         refine AllReady.cons rfl (fun K hK => ?_) AllReady.nil
         go_simp
         refine hK _ _ ?_
         clear hK K
         refine wpAny_done (by kernel_rfl) ?_ _
         go_wp2
         go_ret
         exact ⟨rfl, HFIN.out⟩
       · go_simp
         refine hK _ _ ?_
         clear hK K
         refine ta9 15 (.slice (some ⟨g, off + p * 2, none⟩) (n - p) (c - p)) rfl ?_
         refine wpAny_ready (rs := [8]) (by kernel_rfl) (by simp) ?_
         refine append_ready rfl (by kernel_rfl) _ _ _ _ rfl _ _ rfl rfl _ _ HR1.out ?_
         refine wpAny_ready (rs := [16]) (by kernel_rfl) (by simp) ?_
         refine append_ready rfl (by kernel_rfl) _ _ _ _ rfl _ _ rfl rfl _ _ HR2.out ?_
         refine ta9 17 (.pointer (some ⟨s, 0, none⟩)) rfl ?_
         refine ta9 18 (.pointer (some ⟨s, 1, none⟩)) rfl ?_
         refine wpAny_ready (rs := [19]) (by kernel_rfl) (by simp) ?_
         refine AllReady.cons rfl (fun K hK => ?_) AllReady.nil
         go_simp
         refine hK _ _ ?_
         clear hK K
         refine wpAny_done (by kernel_rfl) ?_ _
         go_wp2
         go_ret
         exact ⟨rfl, HFIN.out⟩
     · go_simp
       refine hK _ _ ?_
       clear hK K
       refine ta9 15 (.slice (some ⟨g, off + p * 2, none⟩) (n - p) (c - p)) rfl ?_
       refine wpAny_ready (rs := [5]) (by kernel_rfl) (by simp) ?_
       refine AllReady.cons rfl (fun K hK => ?_) AllReady.nil
       go_simp
       refine hK _ _ ?_
       clear hK K
       refine ta9 7 (.slice (some ⟨g, off, none⟩) i c) rfl ?_
       refine wpAny_ready (rs := [8]) (by kernel_rfl) (by simp) ?_
       refine append_ready rfl (by kernel_rfl) _ _ _ _ rfl _ _ rfl rfl _ _ HR1.out ?_
       refine wpAny_ready (rs := [16]) (by kernel_rfl) (by simp) ?_
       refine append_ready rfl (by kernel_rfl) _ _ _ _ rfl _ _ rfl rfl _ _ HR2.out ?_
       refine ta9 17 (.pointer (some ⟨s, 0, none⟩)) rfl ?_
       refine ta9 18 (.pointer (some ⟨s, 1, none⟩)) rfl ?_
       refine wpAny_ready (rs := [19]) (by kernel_rfl) (by simp) ?_
       refine AllReady.cons rfl (fun K hK => ?_) AllReady.nil
       go_simp
       refine hK _ _ ?_
       clear hK K
       refine wpAny_done (by kernel_rfl) ?_ _
       go_wp2
       go_ret
       exact ⟨rfl, HFIN.out⟩
   · go_simp
     refine hK _ _ ?_
     clear hK K
     refine ta9 7 (.slice (some ⟨g, off, none⟩) i c) rfl ?_
     refine wpAny_ready (rs := [1, 12]) (by kernel_rfl) (by simp) ?_
     refine AllReady.cons rfl (fun K hK => ?_) (AllReady.cons rfl (fun K hK => ?_) AllReady.nil)
     · go_simp
       refine hK _ _ ?_
       clear hK K
       refine wpAny_ready (rs := [8, 12]) (by kernel_rfl) (by simp) ?_
       refine AllReady.cons rfl (fun K hK => ?_) (AllReady.cons rfl (fun K hK => ?_) AllReady.nil)
       · rw [if_pos (by kernel_rfl)]
         refine Lib.wp_append_run _ _ _ _ _ rfl _ _ rfl rfl _ _ HR1.out (hK _ _ ?_)
         clear hK K
         refine wpAny_ready (rs := [12]) (by kernel_rfl) (by simp) ?_
         refine AllReady.cons rfl (fun K hK => ?_) AllReady.nil
         go_simp
         refine hK _ _ ?_
         clear hK K
         refine ta9 15 (.slice (some ⟨g, off + p * 2, none⟩) (n - p) (c - p)) rfl ?_
         refine wpAny_ready (rs := [16]) (by kernel_rfl) (by simp) ?_
         refine append_ready rfl (by kernel_rfl) _ _ _ _ rfl _ _ rfl rfl _ _ HR2.out ?_
         refine ta9 17 (.pointer (some ⟨s, 0, none⟩)) rfl ?_
         refine ta9 18 (.pointer (some ⟨s, 1, none⟩)) rfl ?_
         refine wpAny_ready (rs := [19]) (by kernel_rfl) (by simp) ?_
         refine AllReady.cons rfl (fun K hK => ?_) AllReady.nil
         go_simp
         refine hK _ _ ?_
         clear hK K
         refine wpAny_done (by kernel_rfl) ?_ _
         go_wp2
         go_ret
         exact ⟨rfl, HFIN.out⟩
       · go_simp
         refine hK _ _ ?_
         clear hK K
         refine ta9 15 (.slice (some ⟨g, off + p * 2, none⟩) (n - p) (c - p)) rfl ?_
         refine wpAny_ready (rs := [8]) (by kernel_rfl) (by simp) ?_
         refine append_ready rfl (by kernel_rfl) _ _ _ _ rfl _ _ rfl rfl _ _ HR1.out ?_
         refine wpAny_ready (rs := [16]) (by kernel_rfl) (by simp) ?_
         refine append_ready rfl (by kernel_rfl) _ _ _ _ rfl _ _ rfl rfl _ _ HR2.out ?_
         refine ta9 17 (.pointer (some ⟨s, 0, none⟩)) rfl ?_
         refine ta9 18 (.pointer (some ⟨s, 1, none⟩)) rfl ?_
         refine wpAny_ready (rs := [19]) (by kernel_rfl) (by simp) ?_
         refine AllReady.cons rfl (fun K hK => ?_) AllReady.nil
         go_simp
         refine hK _ _ ?_
         clear hK K
         refine wpAny_done (by kernel_rfl) ?_ _
         go_wp2
         go_ret
         exact ⟨rfl, HFIN.out⟩
     · go_simp
       refine hK _ _ ?_
       clear hK K
       refine ta9 15 (.slice (some ⟨g, off + p * 2, none⟩) (n - p) (c - p)) rfl ?_
       refine wpAny_ready (rs := [1]) (by kernel_rfl) (by simp) ?_
       refine AllReady.cons rfl (fun K hK => ?_) AllReady.nil
       go_simp
       refine hK _ _ ?_
       clear hK K
       refine wpAny_ready (rs := [8]) (by kernel_rfl) (by simp) ?_
       refine append_ready rfl (by kernel_rfl) _ _ _ _ rfl _ _ rfl rfl _ _ HR1.out ?_
       refine wpAny_ready (rs := [16]) (by kernel_rfl) (by simp) ?_
       refine append_ready rfl (by kernel_rfl) _ _ _ _ rfl _ _ rfl rfl _ _ HR2.out ?_
       refine ta9 17 (.pointer (some ⟨s, 0, none⟩)) rfl ?_
       refine ta9 18 (.pointer (some ⟨s, 1, none⟩)) rfl ?_
       refine wpAny_ready (rs := [19]) (by kernel_rfl) (by simp) ?_
       refine AllReady.cons rfl (fun K hK => ?_) AllReady.nil
       go_simp
       refine hK _ _ ?_
       clear hK K
       refine wpAny_done (by kernel_rfl) ?_ _
       go_wp2
       go_ret
       exact ⟨rfl, HFIN.out⟩
   · go_simp
     refine hK _ _ ?_
     clear hK K
     refine ta9 15 (.slice (some ⟨g, off + p * 2, none⟩) (n - p) (c - p)) rfl ?_
     refine wpAny_ready (rs := [1, 5]) (by kernel_rfl) (by simp) ?_
     refine AllReady.cons rfl (fun K hK => ?_) (AllReady.cons rfl (fun K hK => ?_) AllReady.nil)
     · go_simp
       refine hK _ _ ?_
       clear hK K
       refine wpAny_ready (rs := [5]) (by kernel_rfl) (by simp) ?_
       refine AllReady.cons rfl (fun K hK => ?_) AllReady.nil
       go_simp
       refine hK _ _ ?_
       clear hK K
       refine ta9 7 (.slice (some ⟨g, off, none⟩) i c) rfl ?_
       refine wpAny_ready (rs := [8]) (by kernel_rfl) (by simp) ?_
       refine append_ready rfl (by kernel_rfl) _ _ _ _ rfl _ _ rfl rfl _ _ HR1.out ?_
       refine wpAny_ready (rs := [16]) (by kernel_rfl) (by simp) ?_
       refine append_ready rfl (by kernel_rfl) _ _ _ _ rfl _ _ rfl rfl _ _ HR2.out ?_
       refine ta9 17 (.pointer (some ⟨s, 0, none⟩)) rfl ?_
       refine ta9 18 (.pointer (some ⟨s, 1, none⟩)) rfl ?_
       refine wpAny_ready (rs := [19]) (by kernel_rfl) (by simp) ?_
       refine AllReady.cons rfl (fun K hK => ?_) AllReady.nil
       go_simp
       refine hK _ _ ?_
       clear hK K
       refine wpAny_done (by kernel_rfl) ?_ _
       go_wp2
       go_ret
       exact ⟨rfl, HFIN.out⟩
     · go_simp
       refine hK _ _ ?_
       clear hK K
       refine ta9 7 (.slice (some ⟨g, off, none⟩) i c) rfl ?_
       refine wpAny_ready (rs := [1]) (by kernel_rfl) (by simp) ?_
       refine AllReady.cons rfl (fun K hK => ?_) AllReady.nil
       go_simp
       refine hK _ _ ?_
       clear hK K
       refine wpAny_ready (rs := [8]) (by kernel_rfl) (by simp) ?_
       refine append_ready rfl (by kernel_rfl) _ _ _ _ rfl _ _ rfl rfl _ _ HR1.out ?_
       refine wpAny_ready (rs := [16]) (by kernel_rfl) (by simp) ?_
       refine append_ready rfl (by kernel_rfl) _ _ _ _ rfl _ _ rfl rfl _ _ HR2.out ?_
       refine ta9 17 (.pointer (some ⟨s, 0, none⟩)) rfl ?_
       refine ta9 18 (.pointer (some ⟨s, 1, none⟩)) rfl ?_
       refine wpAny_ready (rs := [19]) (by kernel_rfl) (by simp) ?_
       refine AllReady.cons rfl (fun K hK => ?_) AllReady.nil
       go_simp
       refine hK _ _ ?_
       clear hK K
       refine wpAny_done (by kernel_rfl) ?_ _
       go_wp2
       go_ret
       exact ⟨rfl, HFIN.out⟩
 · obtain rfl : p = c := by omega
   obtain rfl : n = p := by omega
   obtain ⟨A4, c4, W4, A5, c5, W5, hr1, hr2, hl2, hb41, hb42, hnew⟩ := rdrop_runs w3.drew g off n n _ hlin3 hone i (by omega) (by omega) (.slice (some ⟨g, off, none⟩) 0 0) (n - n) (by omega) ((fs.flatMap RF.cells).drop (n * 2)) (fun V' hB' => by
    have e : (fs.flatMap RF.cells).drop (n * 2) = [] := List.drop_eq_nil_of_le (by rw [hlin3.1]; exact Nat.le_refl _)
    rw [e, Nat.sub_self]
    exact Src.ofSlice V' Tryz.underlying36 _ 0 0 [] rfl (fun j u hj => by simp at hj) (fun u hu => by cases hu))
   obtain ⟨y4, f4, W6, hW6, hfin⟩ := hEND A5 c5 W5 hl2 hb42 hnew
   rw [Nat.sub_self, Nat.add_zero] at hW6
   have y3 : W4.cell? ⟨s, 1, none⟩ = some (.slice (some ⟨g, off, none⟩) n n) := by
    rw [cell_of_row _ s 1 _ _ (0, 0) ((hb41.block s (lt_of_block HBX.out)).trans HBX.out)]
    rfl
   have HR1 := Lib.hid hr1
   have HR2 := Lib.hid hr2
   have HFIN := Lib.hid hfin
   obtain ⟨c, hcc⟩ : ∃ c, c = n := ⟨_, rfl⟩
   clear hr1 hr2 hl2 hb41 hb42 hnew hfin hEND hone hlin hlin3 hbox hg3 hb3 hB3 hS3 hfl HA2 HB2 HB1 HL HK HP HAT HDR HDA hp hzw hcc
   go_wp2_with fail
   refine wp_region_any (by kernel_rfl) ?_
   change wpAny _ _ _ _ _ _ _ (World.drew _)
   refine ta9 0 (.pointer (some ⟨s, 0, none⟩)) rfl ?_
   refine ta9 2 (.pointer (some ⟨s, 0, none⟩)) rfl ?_
   refine ta9 3 (.pointer (some ⟨s, 0, none⟩)) rfl ?_
   refine ta9 4 (.pointer (some ⟨s, 1, none⟩)) rfl ?_
   refine ta9 6 (.int .i64 (i : Int)) rfl ?_
   refine ta9 9 (.pointer (some ⟨s, 0, none⟩)) rfl ?_
   refine ta9 10 (.pointer (some ⟨s, 0, none⟩)) rfl ?_
   refine ta9 11 (.pointer (some ⟨s, 1, none⟩)) rfl ?_
   refine ta9 13 (.int .i64 (i : Int)) rfl ?_
   refine ta9 14 (.int .i64 (n : Int)) rfl ?_
   refine wpAny_ready (rs := [1, 5, 12]) (by kernel_rfl) (by simp) ?_
   refine AllReady.cons rfl (fun K hK => ?_) (AllReady.cons rfl (fun K hK => ?_) (AllReady.cons rfl (fun K hK => ?_) AllReady.nil))
   · go_simp
     refine hK _ _ ?_
     clear hK K
     refine wpAny_ready (rs := [5, 12]) (by kernel_rfl) (by simp) ?_
     refine AllReady.cons rfl (fun K hK => ?_) (AllReady.cons rfl (fun K hK => ?_) AllReady.nil)
     · go_simp
       refine hK _ _ ?_
       clear hK K
       refine ta9 7 (.slice (some ⟨g, off, none⟩) i n) rfl ?_
       refine wpAny_ready (rs := [8, 12]) (by kernel_rfl) (by simp) ?_
       refine AllReady.cons rfl (fun K hK => ?_) (AllReady.cons rfl (fun K hK => ?_) AllReady.nil)
       · rw [if_pos (by kernel_rfl)]
         refine Lib.wp_append_run _ _ _ _ _ rfl _ _ rfl rfl _ _ HR1.out (hK _ _ ?_)
         clear hK K
         refine wpAny_ready (rs := [12]) (by kernel_rfl) (by simp) ?_
         refine AllReady.cons rfl (fun K hK => ?_) AllReady.nil
         go_simp
         refine hK _ _ ?_
         clear hK K
         refine ta9 15 (.slice (some ⟨g, off, none⟩) 0 0) rfl ?_
         refine wpAny_ready (rs := [16]) (by kernel_rfl) (by simp) ?_
         refine append_ready rfl (by kernel_rfl) _ _ _ _ rfl _ _ rfl rfl _ _ HR2.out ?_
         refine ta9 17 (.pointer (some ⟨s, 0, none⟩)) rfl ?_
         refine ta9 18 (.pointer (some ⟨s, 1, none⟩)) rfl ?_
         refine wpAny_ready (rs := [19]) (by kernel_rfl) (by simp) ?_
         refine AllReady.cons rfl (fun K hK => ?_) AllReady.nil
         go_simp
         refine hK _ _ ?_
         clear hK K
         refine wpAny_done (by kernel_rfl) ?_ _
         go_wp2
         go_ret
         exact ⟨rfl, HFIN.out⟩
       · go_simp
         refine hK _ _ ?_
         clear hK K
         refine ta9 15 (.slice (some ⟨g, off, none⟩) 0 0) rfl ?_
         refine wpAny_ready (rs := [8]) (by kernel_rfl) (by simp) ?_
         refine append_ready rfl (by kernel_rfl) _ _ _ _ rfl _ _ rfl rfl _ _ HR1.out ?_
         refine wpAny_ready (rs := [16]) (by kernel_rfl) (by simp) ?_
         refine append_ready rfl (by kernel_rfl) _ _ _ _ rfl _ _ rfl rfl _ _ HR2.out ?_
         refine ta9 17 (.pointer (some ⟨s, 0, none⟩)) rfl ?_
         refine ta9 18 (.pointer (some ⟨s, 1, none⟩)) rfl ?_
         refine wpAny_ready (rs := [19]) (by kernel_rfl) (by simp) ?_
         refine AllReady.cons rfl (fun K hK => ?_) AllReady.nil
         go_simp
         refine hK _ _ ?_
         clear hK K
         refine wpAny_done (by kernel_rfl) ?_ _
         go_wp2
         go_ret
         exact ⟨rfl, HFIN.out⟩
     · go_simp
       refine hK _ _ ?_
       clear hK K
       refine ta9 15 (.slice (some ⟨g, off, none⟩) 0 0) rfl ?_
       refine wpAny_ready (rs := [5]) (by kernel_rfl) (by simp) ?_
       refine AllReady.cons rfl (fun K hK => ?_) AllReady.nil
       go_simp
       refine hK _ _ ?_
       clear hK K
       refine ta9 7 (.slice (some ⟨g, off, none⟩) i n) rfl ?_
       refine wpAny_ready (rs := [8]) (by kernel_rfl) (by simp) ?_
       refine append_ready rfl (by kernel_rfl) _ _ _ _ rfl _ _ rfl rfl _ _ HR1.out ?_
       refine wpAny_ready (rs := [16]) (by kernel_rfl) (by simp) ?_
       refine append_ready rfl (by kernel_rfl) _ _ _ _ rfl _ _ rfl rfl _ _ HR2.out ?_
       refine ta9 17 (.pointer (some ⟨s, 0, none⟩)) rfl ?_
       refine ta9 18 (.pointer (some ⟨s, 1, none⟩)) rfl ?_
       refine wpAny_ready (rs := [19]) (by kernel_rfl) (by simp) ?_
       refine AllReady.cons rfl (fun K hK => ?_) AllReady.nil
       go_simp
       refine hK _ _ ?_
       clear hK K
       refine wpAny_done (by kernel_rfl) ?_ _
       go_wp2
       go_ret
       exact ⟨rfl, HFIN.out⟩
   · go_simp
     refine hK _ _ ?_
     clear hK K
     refine ta9 7 (.slice (some ⟨g, off, none⟩) i n) rfl ?_
     refine wpAny_ready (rs := [1, 12]) (by kernel_rfl) (by simp) ?_
     refine AllReady.cons rfl (fun K hK => ?_) (AllReady.cons rfl (fun K hK => ?_) AllReady.nil)
     · go_simp
       refine hK _ _ ?_
       clear hK K
       refine wpAny_ready (rs := [8, 12]) (by kernel_rfl) (by simp) ?_
       refine AllReady.cons rfl (fun K hK => ?_) (AllReady.cons rfl (fun K hK => ?_) AllReady.nil)
       · rw [if_pos (by kernel_rfl)]
         refine Lib.wp_append_run _ _ _ _ _ rfl _ _ rfl rfl _ _ HR1.out (hK _ _ ?_)
         clear hK K
         refine wpAny_ready (rs := [12]) (by kernel_rfl) (by simp) ?_
         refine AllReady.cons rfl (fun K hK => ?_) AllReady.nil
         go_simp
         refine hK _ _ ?_
         clear hK K
         refine ta9 15 (.slice (some ⟨g, off, none⟩) 0 0) rfl ?_
         refine wpAny_ready (rs := [16]) (by kernel_rfl) (by simp) ?_
         refine append_ready rfl (by kernel_rfl) _ _ _ _ rfl _ _ rfl rfl _ _ HR2.out ?_
         refine ta9 17 (.pointer (some ⟨s, 0, none⟩)) rfl ?_
         refine ta9 18 (.pointer (some ⟨s, 1, none⟩)) rfl ?_
         refine wpAny_ready (rs := [19]) (by kernel_rfl) (by simp) ?_
         refine AllReady.cons rfl (fun K hK => ?_) AllReady.nil
         go_simp
         refine hK _ _ ?_
         clear hK K
         refine wpAny_done (by kernel_rfl) ?_ _
         go_wp2
         go_ret
         exact ⟨rfl, HFIN.out⟩
       · go_simp
         refine hK _ _ ?_
         clear hK K
         refine ta9 15 (.slice (some ⟨g, off, none⟩) 0 0) rfl ?_
         refine wpAny_ready (rs := [8]) (by kernel_rfl) (by simp) ?_
         refine append_ready rfl (by kernel_rfl) _ _ _ _ rfl _ _ rfl rfl _ _ HR1.out ?_
         refine wpAny_ready (rs := [16]) (by kernel_rfl) (by simp) ?_
         refine append_ready rfl (by kernel_rfl) _ _ _ _ rfl _ _ rfl rfl _ _ HR2.out ?_
         refine ta9 17 (.pointer (some ⟨s, 0, none⟩)) rfl ?_
         refine ta9 18 (.pointer (some ⟨s, 1, none⟩)) rfl ?_
         refine wpAny_ready (rs := [19]) (by kernel_rfl) (by simp) ?_
         refine AllReady.cons rfl (fun K hK => ?_) AllReady.nil
         go_simp
         refine hK _ _ ?_
         clear hK K
         refine wpAny_done (by kernel_rfl) ?_ _
         go_wp2
         go_ret
         exact ⟨rfl, HFIN.out⟩
     · go_simp
       refine hK _ _ ?_
       clear hK K
       refine ta9 15 (.slice (some ⟨g, off, none⟩) 0 0) rfl ?_
       refine wpAny_ready (rs := [1]) (by kernel_rfl) (by simp) ?_
       refine AllReady.cons rfl (fun K hK => ?_) AllReady.nil
       go_simp
       refine hK _ _ ?_
       clear hK K
       refine wpAny_ready (rs := [8]) (by kernel_rfl) (by simp) ?_
       refine append_ready rfl (by kernel_rfl) _ _ _ _ rfl _ _ rfl rfl _ _ HR1.out ?_
       refine wpAny_ready (rs := [16]) (by kernel_rfl) (by simp) ?_
       refine append_ready rfl (by kernel_rfl) _ _ _ _ rfl _ _ rfl rfl _ _ HR2.out ?_
       refine ta9 17 (.pointer (some ⟨s, 0, none⟩)) rfl ?_
       refine ta9 18 (.pointer (some ⟨s, 1, none⟩)) rfl ?_
       refine wpAny_ready (rs := [19]) (by kernel_rfl) (by simp) ?_
       refine AllReady.cons rfl (fun K hK => ?_) AllReady.nil
       go_simp
       refine hK _ _ ?_
       clear hK K
       refine wpAny_done (by kernel_rfl) ?_ _
       go_wp2
       go_ret
       exact ⟨rfl, HFIN.out⟩
   · go_simp
     refine hK _ _ ?_
     clear hK K
     refine ta9 15 (.slice (some ⟨g, off, none⟩) 0 0) rfl ?_
     refine wpAny_ready (rs := [1, 5]) (by kernel_rfl) (by simp) ?_
     refine AllReady.cons rfl (fun K hK => ?_) (AllReady.cons rfl (fun K hK => ?_) AllReady.nil)
     · go_simp
       refine hK _ _ ?_
       clear hK K
       refine wpAny_ready (rs := [5]) (by kernel_rfl) (by simp) ?_
       refine AllReady.cons rfl (fun K hK => ?_) AllReady.nil
       go_simp
       refine hK _ _ ?_
       clear hK K
       refine ta9 7 (.slice (some ⟨g, off, none⟩) i n) rfl ?_
       refine wpAny_ready (rs := [8]) (by kernel_rfl) (by simp) ?_
       refine append_ready rfl (by kernel_rfl) _ _ _ _ rfl _ _ rfl rfl _ _ HR1.out ?_
       refine wpAny_ready (rs := [16]) (by kernel_rfl) (by simp) ?_
       refine append_ready rfl (by kernel_rfl) _ _ _ _ rfl _ _ rfl rfl _ _ HR2.out ?_
       refine ta9 17 (.pointer (some ⟨s, 0, none⟩)) rfl ?_
       refine ta9 18 (.pointer (some ⟨s, 1, none⟩)) rfl ?_
       refine wpAny_ready (rs := [19]) (by kernel_rfl) (by simp) ?_
       refine AllReady.cons rfl (fun K hK => ?_) AllReady.nil
       go_simp
       refine hK _ _ ?_
       clear hK K
       refine wpAny_done (by kernel_rfl) ?_ _
       go_wp2
       go_ret
       exact ⟨rfl, HFIN.out⟩
     · go_simp
       refine hK _ _ ?_
       clear hK K
       refine ta9 7 (.slice (some ⟨g, off, none⟩) i n) rfl ?_
       refine wpAny_ready (rs := [1]) (by kernel_rfl) (by simp) ?_
       refine AllReady.cons rfl (fun K hK => ?_) AllReady.nil
       go_simp
       refine hK _ _ ?_
       clear hK K
       refine wpAny_ready (rs := [8]) (by kernel_rfl) (by simp) ?_
       refine append_ready rfl (by kernel_rfl) _ _ _ _ rfl _ _ rfl rfl _ _ HR1.out ?_
       refine wpAny_ready (rs := [16]) (by kernel_rfl) (by simp) ?_
       refine append_ready rfl (by kernel_rfl) _ _ _ _ rfl _ _ rfl rfl _ _ HR2.out ?_
       refine ta9 17 (.pointer (some ⟨s, 0, none⟩)) rfl ?_
       refine ta9 18 (.pointer (some ⟨s, 1, none⟩)) rfl ?_
       refine wpAny_ready (rs := [19]) (by kernel_rfl) (by simp) ?_
       refine AllReady.cons rfl (fun K hK => ?_) AllReady.nil
       go_simp
       refine hK _ _ ?_
       clear hK K
       refine wpAny_done (by kernel_rfl) ?_ _
       go_wp2
       go_ret
       exact ⟨rfl, HFIN.out⟩
end
end Go.Proofs.YtdjnebgjdekmaaaGreatDoor
