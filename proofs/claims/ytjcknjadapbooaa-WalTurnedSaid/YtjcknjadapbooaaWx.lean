/-
  Contracts of the document's Frame, Same and Begins.
-/
import Derived.Test.YtjcknjadapbooaaWu
namespace Go.Proofs.Ytjcknjadapbooaa
open Go.RowKit Go.Shelf
set_option linter.unusedVariables false
set_option maxRecDepth 100000

theorem ref_putN (N : Int) (m : Nat) (hm : m < 4294967296) (hN : N % 4294967296 = (m : Int)) (hb : -2147483648 ≤ N ∧ N ≤ 2147483647) (w : World) :
    Calls Try.prog 19 #[.int .i32 N] w fun e w' => (∃ g, e = .returned (.slice (some ⟨g, 0, none⟩) 4 4) ∧ w.heap.size ≤ g ∧ BLine w' (some ⟨g, 0, none⟩) 4 4 (le4 m)) ∧ Below w.heap.size w w' := by
  refine (ref_put N hb w).mono ?_
  rintro e w' ⟨⟨g, rfl, hg, hr, hl⟩, hB⟩
  rw [word4_of N m hm hN] at hl
  exact ⟨⟨g, rfl, hg, le4_lt m, hl⟩, hB⟩
/-- Four bytes of a word behind a line. -/
theorem word_push (w : World) (A : Option Addr) (n c : Nat) (l : List Nat) (h : BLine w A n c l) (hn : n ≤ 100000) (x : Nat) (hx : x < 4294967296) :
    ∃ A' c' w', (Builtin.append_ #[22, 22] 22 #[.slice A n c, .slice (some ⟨w.heap.size, 0, none⟩) 4 4]).run Try.prog (w.alloc (.cells #[.int .u8 ((x : Int) % 256), .int .u8 ((x : Int) / 256 % 256), .int .u8 ((x : Int) / 65536 % 256), .int .u8 ((x : Int) / 16777216)] 5)) = .ok (.slice A' (n + 4) c') w' ∧ BLine w' A' (n + 4) c' (l ++ le4 x) ∧ Chg (blk A) w w' ∧ (∀ k ∈ blk A', k ∈ blk A ∨ w.heap.size ≤ k) ∧ A' ≠ none := by
  have e4 : #[Value.int .u8 ((x : Int) % 256), .int .u8 ((x : Int) / 256 % 256), .int .u8 ((x : Int) / 65536 % 256), .int .u8 ((x : Int) / 16777216)] = (cellsZ (asZ (le4 x))).toArray := by
    have h3 : x / 16777216 % 256 = x / 16777216 := Nat.mod_eq_of_lt (by omega)
    unfold cellsZ asZ le4
    rw [h3]
    simp
  rw [e4]
  have ho : (w.alloc (.cells (cellsZ (asZ (le4 x))).toArray 5)).ownsRow w.heap.size 5 1 (.slice (some ⟨w.heap.size, 0, none⟩) 4 4) 4 (cellsZ (asZ (le4 x))) :=
    own_of_heap (ys := []) (by rw [List.append_nil]; exact heap_alloc_new w _) (Nat.le_refl _) rfl rfl (by omega)
  have hb : Below w.heap.size w (w.alloc (.cells (cellsZ (asZ (le4 x))).toArray 5)) := (Below.refl _ w).alloc (Nat.le_refl _) _
  have hs : (w.alloc (.cells (cellsZ (asZ (le4 x))).toArray 5)).heap.size = w.heap.size + 1 := by simp
  have hB4 : BLine (w.alloc (.cells (cellsZ (asZ (le4 x))).toArray 5)) (some ⟨w.heap.size, 0, none⟩) 4 4 (le4 x) := ⟨le4_lt x, own_line ho⟩
  obtain ⟨A', c', w', hr, hl, hc, hf, hne⟩ := sline_append 1 (w.alloc (.cells (cellsZ (asZ (le4 x))).toArray 5)) 22 5 22 _ 1 Try.underlying22 info_u8 rfl (by decide) A n c _ (h.below hb).2 (by omega) _ 4 (by omega) (fun _ => by omega) _ (hB4.row.src (cap := 4))
  refine ⟨A', c', w', hr, ⟨bytesN_append h.1 (le4_lt x), ?_⟩, (Chg.of_below hb).trans hc, fun k hk => ?_, hne⟩
  · rw [asZ_append, cellsZ_append]; exact hl
  · rcases hf k hk with h1 | h1
    · exact .inl h1
    · exact .inr (by omega)
set_option maxHeartbeats 1600000 in
theorem refframe_any (A : Option Addr) (n cap : Nat) (l : List Nat) (hn : n ≤ 65536) (w : World) (hR : RowN w A n l) :
    Calls Try.prog 9 #[.slice A n cap] w fun e w' => (∃ A' c, e = .returned (.slice A' (n + 8) c) ∧ (∀ k ∈ blk A', w.heap.size ≤ k) ∧ BLine w' A' (n + 8) c (frameN l)) ∧ Below w.heap.size w w' := by
  have hlen := hR.length
  have HP1 := Lib.hid (ref_putN (n : Int) n (by omega) (by omega) (by omega) w)
  have HR := Lib.hid hR
  have HL := Lib.hid hlen
  have hn' : (n : Int) ≤ 65536 := by omega
  clear hR hlen
  go_enter Try.func9, Try.ntmps9
  go_wp2_with fail
  refine HP1.out.mono ?_
  rintro e w1 ⟨⟨g, rfl, hg, hl1⟩, hb1⟩
  obtain ⟨A2, c2, w2, hr, hl2, hc2, hf2, hne⟩ := sline_append 1 w1 22 5 22 _ 1 Try.underlying22 info_u8 rfl (by decide) _ 4 4 _ hl1.2 (by omega) _ n (by omega) (fun e => by cases e) _ ((HR.out.below hb1).src (cap := cap))
  have hB2 : Below w.heap.size w w2 := hb1.trans (hc2.toBelow (fun k hk => by obtain ⟨ad, ea, hb⟩ := mem_blk.1 hk; cases ea; rw [← hb]; exact hg) hb1.size)
  have hL2 : BLine w2 A2 (4 + n) c2 (headN l) := ⟨headN_lt HR.out.bytes, by
    have e : cellsZ (asZ (headN l)) = cellsZ (asZ (le4 n)) ++ cellsZ (asZ l) := by unfold headN; rw [HL.out, asZ_append, cellsZ_append]
    rw [e]; exact hl2⟩
  have hge2 : ∀ k ∈ blk A2, w.heap.size ≤ k := fun k hk => by
    rcases hf2 k hk with h | h
    · obtain ⟨ad, ea, hb⟩ := mem_blk.1 h; cases ea; rw [← hb]; exact hg
    · have := hb1.size; omega
  have HR2 := Lib.hid hr
  obtain ⟨cc, hcc⟩ : ∃ cc, crcMore 0 (headN l) = cc := ⟨_, rfl⟩
  have hcl : cc < 4294967296 := by rw [← hcc]; exact crcMore_lt _ _
  have HC := Lib.hid (refcrc_any A2 (4 + n) c2 (headN l) (by omega) w2 hL2.row)
  rw [hcc] at HC
  obtain ⟨A3, c3, w3, hr3, hl3, hc3, hf3, hne3⟩ := word_push w2 A2 (4 + n) c2 (headN l) hL2 (by omega) cc hcl
  have HR3 := Lib.hid hr3
  have HX : Hid ((∀ k ∈ blk A3, w.heap.size ≤ k) ∧ BLine w3 A3 (n + 8) c3 (frameN l) ∧ Below w.heap.size w w3) := Lib.hid (by
    refine ⟨fun k hk => ?_, ?_, hB2.trans (hc3.toBelow hge2 hB2.size)⟩
    · rcases hf3 k hk with h | h
      · exact hge2 k h
      · have := hB2.size; omega
    · unfold frameN
      rw [hcc, show n + 8 = 4 + n + 4 from by omega]
      exact hl3)
  have e8 : 4 + n + 4 = n + 8 := by omega
  have hcl' : (cc : Int) < 4294967296 := by omega
  rw [e8] at HR3
  clear hl1 hb1 hr hl2 hc2 hf2 hne hB2 hL2 hcc hr3 hl3 hc3 hf3 hne3 hge2 hcl e8
  go_wp2_with (first
    | (at_builtin; refine Lib.wpList_append_run _ rfl _ _ _ _ rfl _ _ rfl rfl _ _ HR2.out ?_)
    | (at_builtin; refine Lib.wpList_append_run _ rfl _ _ _ _ rfl _ _ rfl rfl _ _ HR3.out ?_)
    | (go_at_call 20; refine HC.out.mono ?_; rintro e w' ⟨rfl, rfl⟩))
  go_ret
  exact ⟨⟨A3, c3, rfl, HX.out.1, HX.out.2.1⟩, HX.out.2.2⟩
end Go.Proofs.Ytjcknjadapbooaa
