/- The mathematics of entries and of their files' names. -/
import Derived.Test.YtdjnebgjdekmaaaGreatDoorZax
import Derived.Test.YtdjnebgjdekmaaaGreatDoorZaf
import Derived.Test.YtdjnebgjdekmaaaGreatDoorZao
set_option linter.unusedVariables false
set_option maxRecDepth 100000
namespace Go.Proofs.YtdjnebgjdekmaaaGreatDoor
open Go.RowKit
def numV8 (v : Value) : Nat := match v with | .int _ z => z.toNat | _ => 0
def natsV (vs : List Value) : List Nat := vs.map numV8
theorem natsV_cells (l : List Nat) : natsV (cellsZ (asZ l)) = l := by
 unfold natsV cellsZ asZ
 rw [List.map_map, List.map_map]
 conv => rhs; rw [← List.map_id l]
 exact List.map_congr_left fun x _ => by simp [numV8]
theorem cells_natsV (vs : List Value) (h : ∀ u ∈ vs, ∃ z : Int, 0 ≤ z ∧ z < 256 ∧ u = .int .u8 z) : cellsZ (asZ (natsV vs)) = vs ∧ bytesN (natsV vs) := by
 constructor
 · unfold natsV cellsZ asZ
   rw [List.map_map, List.map_map]
   conv => rhs; rw [← List.map_id vs]
   refine List.map_congr_left fun u hu => ?_
   obtain ⟨z, h0, _, rfl⟩ := h u hu
   simp [numV8, Int.toNat_of_nonneg h0]
 · intro x hx
   obtain ⟨u, hu, rfl⟩ := List.mem_map.1 hx
   obtain ⟨z, h0, h1, rfl⟩ := h u hu
   show z.toNat < 256
   omega
def entryN (k a : List Nat) : List Nat := frameN k ++ frameN a
theorem entryN_all (k a : List Nat) : allN [k, a] = entryN k a := by
 show frameN k ++ (frameN a ++ []) = _
 rw [List.append_nil]
 rfl
theorem entryN_length (k a : List Nat) : (entryN k a).length = k.length + a.length + 16 := by
 unfold entryN
 rw [List.length_append, frameN_length, frameN_length]
 omega
def splitE (b : List Nat) : Option (List Nat × List Nat) :=
 match parseN b with
 | [k, a] => if b.length = (allN [k, a]).length then some (k, a) else none
 | _ => none
theorem split_entry (k a : List Nat) (hk : k.length ≤ 65536) (ha : a.length ≤ 65536) : splitE (entryN k a) = some (k, a) := by
 have h := parse_all [k, a] (fun r hr => by
  simp only [List.mem_cons, List.not_mem_nil, or_false] at hr
  rcases hr with rfl | rfl
  · exact hk
  · exact ha) []
 rw [List.append_nil, entryN_all, parse_small (t := []) (by decide), List.append_nil] at h
 unfold splitE
 rw [h]
 show (if _ then _ else _) = _
 rw [if_pos (by rw [entryN_all])]
theorem split_some {b k a : List Nat} (hb : bytesN b) (h : splitE b = some (k, a)) : b = entryN k a ∧ bytesN k ∧ bytesN a ∧ k.length ≤ 65536 ∧ a.length ≤ 65536 ∧ parseN b = [k, a] := by
 unfold splitE at h
 split at h
 · rename_i k' a' hp
   split at h
   · rename_i hl
     cases h
     obtain ⟨h1, h2⟩ := all_parse b.length b (Nat.le_refl _) hb
     have h3 := parse_lt hb
     rw [hp] at h1 h2 h3
     obtain ⟨t, ht⟩ := h1
     have h4 := congrArg List.length ht
     rw [List.length_append] at h4
     have h5 : t = [] := List.eq_nil_of_length_eq_zero (by omega)
     rw [h5, List.append_nil, entryN_all] at ht
     exact ⟨ht.symm, h3 k (by simp), h3 a (by simp), h2 k (by simp), h2 a (by simp), hp⟩
   · cases h
 · cases h
def sumN (l : List Nat) : List Nat := (hexZ (asZ (shaN l))).map Int.toNat
theorem hexZ_good : ∀ (zs : List Int), (∀ z ∈ zs, 0 ≤ z ∧ z ≤ 255) → ∀ y ∈ hexZ zs, 0 ≤ y ∧ y ≤ 255 ∧ nameB y = true
 | [], _, y, hy => by simp [hexZ] at hy
 | z :: r, h, y, hy => by
  have hz := h z (List.mem_cons_self ..)
  have hd : ∀ d : Int, 0 ≤ d ∧ d < 16 → 0 ≤ hexD d ∧ hexD d ≤ 255 ∧ nameB (hexD d) = true := fun d hd => by
   unfold hexD nameB
   split
   · refine ⟨by omega, by omega, ?_⟩
     have a1 : decide ((48 : Int) ≤ 48 + d) = true := decide_eq_true (by omega)
     have a2 : decide (48 + d ≤ 57) = true := decide_eq_true (by omega)
     rw [a1, a2]
     simp
   · refine ⟨by omega, by omega, ?_⟩
     have a1 : decide ((97 : Int) ≤ 87 + d) = true := decide_eq_true (by omega)
     have a2 : decide (87 + d ≤ 122) = true := decide_eq_true (by omega)
     rw [a1, a2]
     simp
  simp only [hexZ, List.mem_cons] at hy
  rcases hy with rfl | rfl | hy
  · exact hd _ ⟨by omega, by omega⟩
  · exact hd _ ⟨by omega, by omega⟩
  · exact hexZ_good r (fun x hx => h x (List.mem_cons_of_mem _ hx)) y hy
theorem shaZ_bd (l : List Nat) : ∀ z ∈ asZ (shaN l), 0 ≤ z ∧ z ≤ 255 := fun z hz => by
 obtain ⟨x, hx, rfl⟩ := List.mem_map.1 hz
 have := shaN_lt l x hx
 exact ⟨Int.natCast_nonneg _, by show ((x : Nat) : Int) ≤ 255; omega⟩
theorem sumN_length (l : List Nat) : (sumN l).length = 64 := by
 unfold sumN
 rw [List.length_map, hexZ_length, asZ_length, shaN_length]
theorem sumN_good (l : List Nat) : ∀ x ∈ sumN l, x < 256 ∧ nameB (x : Int) = true := fun x hx => by
 obtain ⟨y, hy, rfl⟩ := List.mem_map.1 hx
 obtain ⟨h0, h1, h2⟩ := hexZ_good _ (shaZ_bd l) y hy
 exact ⟨by omega, by rw [Int.toNat_of_nonneg h0]; exact h2⟩
theorem asZ_sumN (l : List Nat) : asZ (sumN l) = hexZ (asZ (shaN l)) := by
 unfold sumN asZ
 rw [List.map_map]
 conv => rhs; rw [← List.map_id (hexZ (List.map Int.ofNat (shaN l)))]
 refine List.map_congr_left fun y hy => ?_
 exact Int.toNat_of_nonneg (hexZ_good _ (shaZ_bd l) y hy).1
theorem txt_sum (l : List Nat) : strOfNums (hexZ (asZ (shaN l))) = txt (sumN l) := by
 unfold txt
 rw [asZ_sumN]
theorem txt_append (a b : List Nat) : txt a ++ txt b = txt (a ++ b) := by
 apply ByteArray.ext
 simp [txt, strOfNums, asZ]
theorem txt_extract (a : List Nat) (n : Nat) : (txt a).extract 0 n = txt (a.take n) := by
 apply ByteArray.ext
 simp [txt, strOfNums, asZ, ByteArray.data_extract, List.map_take]
theorem txt_size (a : List Nat) : (txt a).size = a.length := by
 show (txt a).data.size = _
 simp [txt, strOfNums, asZ]
theorem txt_data (a : List Nat) : (txt a).data.toList = a.map UInt8.ofNat := by
 simp [txt, strOfNums, asZ]
theorem txt_inj {a b : List Nat} (ha : bytesN a) (hb : bytesN b) (h : txt a = txt b) : a = b := ofNat_inj ha hb (by rw [← txt_data, ← txt_data, h])
def stemN (l : List Nat) (n : Nat) : List Nat := [99, 45] ++ (sumN l).take n ++ [45]
def fileN (l : List Nat) (n s : Nat) : List Nat := stemN l n ++ [48 + s]
def spareN (l : List Nat) (n s : Nat) : List Nat := fileN l n s ++ [46, 116, 109, 112]
def fileB (l : List Nat) (n s : Nat) : ByteArray := txt (fileN l n s)
def spareF (l : List Nat) (n s : Nat) : ByteArray := txt (spareN l n s)
theorem stemN_good (l : List Nat) (n : Nat) : ∀ x ∈ stemN l n, x < 256 ∧ nameB (x : Int) = true := fun x hx => by
 simp only [stemN, List.mem_append, List.mem_cons, List.not_mem_nil, or_false] at hx
 rcases hx with ((rfl | rfl) | hx) | rfl
 · exact ⟨by omega, by decide⟩
 · exact ⟨by omega, by decide⟩
 · exact sumN_good l x (List.mem_of_mem_take hx)
 · exact ⟨by omega, by decide⟩
theorem fileN_good (l : List Nat) (n s : Nat) (hs : s < 8) : ∀ x ∈ fileN l n s, x < 256 ∧ nameB (x : Int) = true := fun x hx => by
 simp only [fileN, List.mem_append, List.mem_cons, List.not_mem_nil, or_false] at hx
 rcases hx with hx | rfl
 · exact stemN_good l n x hx
 · have : s = 0 ∨ s = 1 ∨ s = 2 ∨ s = 3 ∨ s = 4 ∨ s = 5 ∨ s = 6 ∨ s = 7 := by omega
   rcases this with rfl | rfl | rfl | rfl | rfl | rfl | rfl | rfl <;> exact ⟨by omega, by decide⟩
theorem spareN_good (l : List Nat) (n s : Nat) (hs : s < 8) : ∀ x ∈ spareN l n s, x < 256 ∧ nameB (x : Int) = true := fun x hx => by
 simp only [spareN, List.mem_append, List.mem_cons, List.not_mem_nil, or_false] at hx
 rcases hx with hx | rfl | rfl | rfl | rfl
 · exact fileN_good l n s hs x hx
 all_goals exact ⟨by omega, by decide⟩
theorem stemN_length (l : List Nat) (n : Nat) (hn : n ≤ 64) : (stemN l n).length = n + 3 := by
 simp only [stemN, List.length_append, List.length_take, sumN_length, List.length_cons, List.length_nil]
 omega
theorem fileN_length (l : List Nat) (n s : Nat) (hn : n ≤ 64) : (fileN l n s).length = n + 4 := by
 unfold fileN
 rw [List.length_append, stemN_length l n hn]
 rfl
theorem spareN_length (l : List Nat) (n s : Nat) (hn : n ≤ 64) : (spareN l n s).length = n + 8 := by
 unfold spareN
 rw [List.length_append, fileN_length l n s hn]
 rfl
theorem txt_ok (a : List Nat) (h : ∀ x ∈ a, x < 256 ∧ nameB (x : Int) = true) (h1 : 1 ≤ a.length) (h2 : a.length ≤ 80) : nameOk (txt a) = true := by
 unfold nameOk
 rw [txt_size, txt_data, decide_eq_true h1, decide_eq_true h2, Bool.and_true, Bool.and_true, List.all_eq_true]
 intro b hb
 obtain ⟨x, hx, rfl⟩ := List.mem_map.1 hb
 obtain ⟨h3, h4⟩ := h x hx
 have : ((UInt8.ofNat x).toNat : Int) = (x : Int) := by
  have : (UInt8.ofNat x).toNat = x := by simp; omega
  rw [this]
 rw [this]
 exact h4
theorem fileB_ok (l : List Nat) (n s : Nat) (hn : n ≤ 64) (hs : s < 8) : nameOk (fileB l n s) = true := txt_ok _ (fileN_good l n s hs) (by rw [fileN_length l n s hn]; omega) (by rw [fileN_length l n s hn]; omega)
theorem spareF_ok (l : List Nat) (n s : Nat) (hn : n ≤ 64) (hs : s < 8) : nameOk (spareF l n s) = true := txt_ok _ (spareN_good l n s hs) (by rw [spareN_length l n s hn]; omega) (by rw [spareN_length l n s hn]; omega)
theorem good_bytes {a : List Nat} (h : ∀ x ∈ a, x < 256 ∧ nameB (x : Int) = true) : bytesN a := fun x hx => (h x hx).1
theorem fileB_inj {l l' : List Nat} {n s s' : Nat} (hs : s < 8) (hs' : s' < 8) (h : fileB l n s = fileB l' n s') : stemN l n = stemN l' n ∧ s = s' := by
 have h1 := txt_inj (good_bytes (fileN_good l n s hs)) (good_bytes (fileN_good l' n s' hs')) h
 unfold fileN at h1
 have h2 := List.append_inj_left' h1 rfl
 have h3 := List.append_inj_right' h1 rfl
 simp at h3
 exact ⟨h2, h3⟩
theorem fileB_spare {l l' : List Nat} {n s s' : Nat} (hs : s < 8) (hs' : s' < 8) : ¬ fileB l n s = spareF l' n s' := fun h => by
 have h1 := txt_inj (good_bytes (fileN_good l n s hs)) (good_bytes (spareN_good l' n s' hs')) h
 have h2 := congrArg List.reverse h1
 simp only [fileN, spareN, List.reverse_append, List.reverse_cons, List.reverse_nil, List.nil_append, List.cons_append, List.cons.injEq] at h2
 omega
end Go.Proofs.YtdjnebgjdekmaaaGreatDoor
