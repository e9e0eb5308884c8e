/-
  What the walk of CodeBytes takes: appends, words out of bytes.
-/
import Derived.Test.YtonkpojoniehlaaDoorKmx
import Derived.Test.YtonkpojoniehlaaDoorKmr
namespace Go.Proofs.YtonkpojoniehlaaDoor
open Go.RowKit
set_option linter.unusedVariables false
set_option linter.unusedSimpArgs false
set_option maxRecDepth 100000
theorem enc_num20 {i : Ins} {v : Nat} (h : encI i = some v) : -2147483648 ≤ i.n ∧ i.n ≤ 2147483647 := by
  have hd := dec_enc i v h
  unfold decI at hd
  cases e : (List.range 31).find? fun op => hitI op v with
  | none => rw [e] at hd; cases hd
  | some op =>
    rw [e] at hd
    obtain rfl := Option.some.inj hd
    exact num_bd _ _
theorem sline_empty (w : World) (t : TypeId) : SLine 1 (w.alloc (.cells #[] t)) (some ⟨w.heap.size, 0, none⟩) 0 0 [] :=
  ⟨rfl, Nat.le_refl _, Nat.zero_le _, fun h => (by cases h), fun ad h => by
    cases h
    exact ⟨w.heap.size, 0, rfl, by simp, fun i hi => absurd hi (by omega), fun i hi => absurd hi (by omega)⟩⟩
theorem src_of {w : World} {O : Option Addr} {n c : Nat} {zs : List Int} (h : SLine 1 w O n c (cellsZ zs)) : Src Tryd.prog 1 37 (.slice O n c) n (cellsZ zs) w := by
  have hl : (cellsZ zs).length = n := by have := h.1; omega
  cases O with
  | none =>
    have h0 : c = 0 := h.2.2.2.1 rfl
    have hn : n = 0 := by have := h.2.1; omega
    subst hn
    have : cellsZ zs = [] := List.eq_nil_of_length_eq_zero hl
    rw [this]
    exact Src.ofNil w Tryd.underlying37 c
  | some ad =>
    obtain ⟨g, off, rfl, hg, hc, -⟩ := h.2.2.2.2 ad rfl
    refine Src.ofSlice w Tryd.underlying37 _ n c _ (by omega) (fun j u hu => ?_) (fun u hu => ?_)
    · have hj : j < n := by have := (List.getElem?_eq_some_iff.1 hu).1; omega
      have e9 : (⟨g, off, none⟩ : Addr).add j = ⟨g, off + j, none⟩ := by unfold Addr.add; split <;> simp_all
      rw [e9, hc j (by omega), hu]
    · obtain ⟨z, -, rfl⟩ := List.mem_map.1 hu
      rfl
/-- append(append([]byte{}, out..), 0, 0, 0). -/
theorem two_appends (w : World) (O : Option Addr) (n c : Nat) (zs : List Int) (h : SLine 1 w O n c (cellsZ zs)) (hn : n ≤ 100000) :
    ∃ A1 c1 w1 A2 c2 w2, (Builtin.append_ #[37, 37] 37 #[.slice (some ⟨w.heap.size, 0, none⟩) 0 0, .slice O n c]).run Tryd.prog (w.alloc (.cells #[] 5)) = .ok (.slice A1 n c1) w1 ∧
      (Builtin.append_ #[37, 37] 37 #[.slice A1 n c1, .slice (some ⟨w1.heap.size, 0, none⟩) 3 3]).run Tryd.prog (w1.alloc (.cells #[.int .u8 0, .int .u8 0, .int .u8 0] 5)) = .ok (.slice A2 (n + 3) c2) w2 ∧
      SLine 1 w2 A2 (n + 3) c2 (cellsZ (zs ++ [0, 0, 0])) ∧ Below w.heap.size w w2 := by
  have hb0 : Below w.heap.size w (w.alloc (.cells #[] 5)) := (Below.refl _ w).alloc (Nat.le_refl _) _
  obtain ⟨A1, c1, w1, r1, s1, g1, f1, -⟩ := sline_append 1 _ 37 5 37 _ 1 Tryd.underlying37 infoU8 rfl (by decide) _ 0 0 [] (sline_empty w 5) (by omega) _ n (by omega) (fun h => (by cases h)) _ (src_of (h.below hb0))
  rw [Nat.zero_add, List.nil_append] at s1
  rw [Nat.zero_add] at r1
  have hf1 : ∀ k ∈ blk A1, w.heap.size ≤ k := fun k hk => by
    rcases f1 k hk with q | q
    · obtain ⟨ad, e1, e2⟩ := mem_blk.1 q
      cases e1
      rw [← e2]
      exact Nat.le_refl _
    · have := hb0.size; omega
  have hb1 : Below w.heap.size w w1 := hb0.trans (g1.toBelow (fun k hk => by
    obtain ⟨ad, e1, e2⟩ := mem_blk.1 hk
    cases e1
    rw [← e2]
    exact Nat.le_refl _) hb0.size)
  have hb2 : Below w1.heap.size w1 (w1.alloc (.cells #[.int .u8 0, .int .u8 0, .int .u8 0] 5)) := (Below.refl _ w1).alloc (Nat.le_refl _) _
  obtain ⟨A2, c2, w2, r2, s2, g2, f2, -⟩ := sline_append 1 _ 37 5 37 _ 1 Tryd.underlying37 infoU8 rfl (by decide) A1 n c1 _ (s1.below hb2) (by omega) (.slice (some ⟨w1.heap.size, 0, none⟩) 3 3) 3 (by omega) (fun _ => by omega) [.int .u8 0, .int .u8 0, .int .u8 0]
    (Src.ofSlice _ Tryd.underlying37 ⟨w1.heap.size, 0, none⟩ 3 3 _ rfl (new_cells19 w1 [.int .u8 0, .int .u8 0, .int .u8 0] _) (by intro u hu; simp at hu; rw [hu]; rfl))
  refine ⟨A1, c1, w1, A2, c2, w2, r1, r2, ?_, ?_⟩
  · rw [show cellsZ (zs ++ [0, 0, 0]) = cellsZ zs ++ [.int .u8 0, .int .u8 0, .int .u8 0] from by simp [cellsZ]]
    exact s2
  · have hb3 := hb1.trans (hb2.mono hb1.size)
    exact hb3.trans (g2.toBelow hf1 hb3.size)
theorem lns_back (ls : List Ln) (h : allE ls = true) : (ls.map Ln.ins).map Ins.ln = ls := by
  rw [List.map_map]
  refine (List.map_congr_left fun l hl => ?_).trans (List.map_id ls)
  obtain ⟨v, hv⟩ := Option.isSome_iff_exists.1 (List.all_eq_true.1 h l hl)
  exact (ln_of_enc hv).symm

theorem or4w (x0 x1 x2 x3 : Int) (a0 : 0 ≤ x0) (a1 : x0 ≤ 255) (b0 : 0 ≤ x1) (b1 : x1 ≤ 255) (d0 : 0 ≤ x2) (d1 : x2 ≤ 255) (e0 : 0 ≤ x3) (e1 : x3 ≤ 255) :
    bits .or .u32 (bits .or .u32 (bits .or .u32 (IntKind.u32.wrap x0) (IntKind.u32.wrap (IntKind.u32.wrap x1 * 256))) (IntKind.u32.wrap (IntKind.u32.wrap x2 * 65536))) (IntKind.u32.wrap (IntKind.u32.wrap x3 * 16777216)) = x0 + x1 * 256 + x2 * 65536 + x3 * 16777216 := by
  have e : ∀ x : Int, IntKind.u32.wrap x = x % 4294967296 := fun x => rfl
  obtain ⟨-, o1, o2, o3⟩ := or4 x0 x1 x2 x3 a0 a1 b0 b1 d0 d1 e0 e1
  rw [e, e, e, e, e, e, e, Int.emod_eq_of_lt (a := x0) (by omega) (by omega), Int.emod_eq_of_lt (a := x1) (by omega) (by omega), Int.emod_eq_of_lt (a := x2) (by omega) (by omega), Int.emod_eq_of_lt (a := x3) (by omega) (by omega),
    Int.emod_eq_of_lt (a := x1 * 256) (by omega) (by omega), Int.emod_eq_of_lt (a := x2 * 65536) (by omega) (by omega), Int.emod_eq_of_lt (a := x3 * 16777216) (by omega) (by omega), o1, o2, o3]
end Go.Proofs.YtonkpojoniehlaaDoor
