/-
  Contracts of slices.Clone of words, (*Bits).Clone, Put and Drop at any number, sets.Of.
-/
import Derived.Test.YtjkcomoadpileaaDoorBe
import Derived.Laws.AppendOwnNone
namespace Go.Proofs.YtjkcomoadpileaaDoor
open Go.RowKit
set_option linter.unusedVariables false

theorem info_bits : (Tryd.prog.info? 49).map (fun i => (i.zero, i.size, i.bytes)) = some (some (.agg #[.slice none 0 0]), 1, 24) := by kernel_rfl
theorem cloneW_nil (w : World) : Calls Tryd.prog 35 #[.slice none 0 0] w fun e w' => e = .returned (.slice none 0 0) ∧ w = w' := by
  have heq := fun w => Lib.run_eql_slice_nil (P := Tryd.prog) w 47 51 none 0 0 0 0 Tryd.underlying47
  go_enter Tryd.func35, Tryd.ntmps35
  go_wp2
  go_ret
  exact ⟨rfl, rfl⟩
theorem src_of_own {w : World} {base g n c : Nat} {e : TypeId} {xs : List Value} (h : w.ownsRow base e 1 (.slice (some ⟨g, 0, none⟩) n c) n xs) : ∀ j u, xs[j]? = some u → w.cell? ((⟨g, 0, none⟩ : Addr).add j) = some u := h.cells rfl
theorem cloneW_any (w : World) (g n c : Nat) (ws : List Nat) (hown : w.ownsRow 0 51 1 (.slice (some ⟨g, 0, none⟩) n c) n (cellsW ws)) (hn : n ≤ 1024) :
    Calls Tryd.prog 35 #[.slice (some ⟨g, 0, none⟩) n c] w fun e w' => (∃ v', e = .returned v' ∧ w'.ownsRow w.heap.size 51 1 v' n (cellsW ws)) ∧ Below w.heap.size w w' := by
  have HO := Lib.hid hown
  obtain ⟨i0, hi, hz0, hz1, hz2⟩ := info_parts info_u64
  have hlen : (cellsW ws).length = n * 1 := hown.1
  have hsrc : ∀ j u, (cellsW ws)[j]? = some u → (w.alloc (.cells #[] 51)).cell? ((⟨g, 0, none⟩ : Addr).add j) = some u := (src_of_own (hown.alloc _))
  have hemp : (w.alloc (.cells #[] 51)).ownsRow w.heap.size 51 1 (.slice (some ⟨w.heap.size, 0, none⟩) 0 0) 0 [] := World.ownsRow_made w #[] 0 (Nat.le_refl _) (by unfold maxLen; omega) rfl
  obtain ⟨v', w', hr, h2, h3, h4⟩ := run_append_own (P := Tryd.prog) (w.alloc (.cells #[] 51)) w.heap.size 47 47 51 i0 (.int .u64 0) 1 8 Tryd.underlying47 hi hz0 hz1 hz2 rfl (by decide) (.slice (some ⟨w.heap.size, 0, none⟩) 0 0) 0 [] hemp ⟨g, 0, none⟩ n c (cellsW ws) hlen hsrc (one_W ws) (by unfold maxLen; omega) (by omega) (by simp)
  have hB : Below w.heap.size w w' := ((Below.refl _ w).alloc (Nat.le_refl _) _).grown h3 (by simp) (fun k hk => by simp only [Value.ownBlock, Option.some.injEq] at hk; omega)
  rw [Nat.zero_add, List.nil_append] at h2
  have heq := fun w => Lib.run_eql_slice_nil (P := Tryd.prog) w 47 51 (some ⟨g, 0, none⟩) n c 0 0 Tryd.underlying47
  have HR := Lib.hid hr
  have H2 := Lib.hid h2
  have HB := Lib.hid hB
  clear hown hlen hsrc hemp hr h2 h3 h4 hB hi hz0 hz1 hz2
  go_enter Tryd.func35, Tryd.ntmps35
  go_wp2_with (at_builtin; refine Lib.wpList_append_run _ rfl _ _ _ _ rfl _ _ rfl rfl _ _ HR.out ?_)
  go_ret
  exact ⟨⟨_, rfl, H2.out⟩, HB.out⟩
theorem own_shape {w : World} {base : Nat} {e : TypeId} {size : Nat} {v : Value} {n : Nat} {xs : List Value} (h : w.ownsRow base e size v n xs) : ∃ A c, v = .slice A n c := by
  rcases h.2 with ⟨rfl, hn⟩ | ⟨g, cap, cur, rfl, _⟩
  · exact ⟨none, 0, by rw [hn]⟩
  · exact ⟨_, _, rfl⟩
/-- A new set that holds ws, at a place of its own. -/
def Fresh (w : World) (e : Ending) (ws : List Nat) (w' : World) : Prop :=
  ∃ b v, e = .returned (.pointer (some ⟨b, 0, none⟩)) ∧ SetG w' b v ws ∧ (∀ k ∈ foot b v, w.heap.size ≤ k) ∧ Below w.heap.size w w'
theorem fresh_box {w w1 : World} {v : Value} {ws : List Nat} (hB : Below w.heap.size w w1) (hown : w1.ownsRow w.heap.size 51 1 v ws.length (cellsW ws)) (hs : Small ws) (hl : ws.length ≤ 1024) :
    Fresh w (.returned (.pointer (some ⟨w1.heap.size, 0, none⟩))) ws (w1.alloc (.cells #[v] 49)) := by
  have hge : ∀ k, v.ownBlock = some k → w.heap.size ≤ k ∧ k < w1.heap.size := fun k hk => hown.lt k hk
  refine ⟨w1.heap.size, v, rfl, ⟨heap_alloc_new w1 _, ?_, fun e => by have := (hge _ e).2; omega, hs, hl⟩, fun k hk => ?_, hB.alloc hB.size _⟩
  · have h1 := hown.alloc (.cells #[v] 49)
    refine ⟨h1.1, ?_⟩
    rcases h1.2 with h | ⟨g, cap, cur, e, hb, r⟩
    · exact .inl h
    · exact .inr ⟨g, cap, cur, e, Nat.zero_le _, r⟩
  · rcases mem_foot.1 hk with rfl | hk
    · exact hB.size
    · exact (hge k hk).1
theorem own_nil (w : World) (base : Nat) : w.ownsRow base 51 1 (.slice none 0 0) 0 (cellsW []) := ⟨rfl, .inl ⟨rfl, rfl⟩⟩
theorem clone_nil (w : World) : Calls Tryd.prog 20 #[.pointer none] w fun e w' => Fresh w e [] w' := by
  have HF := Lib.hid (fresh_box (Below.refl _ w) (own_nil w _) (fun x hx => by cases hx) (Nat.zero_le _))
  go_enter Tryd.func20, Tryd.ntmps20
  go_wp2_with (first
    | ((with_reducible refine (held_nil _).mono ?_); rintro e w' ⟨rfl, rfl⟩)
    | ((with_reducible refine (cloneW_nil _).mono ?_); rintro e w' ⟨rfl, rfl⟩))
  go_ret
  exact HF.out
theorem clone_any (w : World) (b : Nat) (v : Value) (ws : List Nat) (hS : SetG w b v ws) : Calls Tryd.prog 20 #[.pointer (some ⟨b, 0, none⟩)] w fun e w' => Fresh w e ws w' := by
  have hc1 := hS.cell
  have hsm := hS.small
  have hsh := hS.short
  rcases hS.own.2 with ⟨rfl, hn⟩ | ⟨g, cap, cur, rfl, _⟩
  · have e : ws = [] := List.eq_nil_of_length_eq_zero hn
    subst e
    have HF := Lib.hid (fresh_box (Below.refl _ w) (own_nil w _) (fun x hx => by cases hx) (Nat.zero_le _))
    clear hS hsm hsh
    go_enter Tryd.func20, Tryd.ntmps20
    go_wp2_with (first
      | ((with_reducible refine (held_any _ _ _ hc1).mono ?_); rintro e w' ⟨rfl, rfl⟩)
      | ((with_reducible refine (cloneW_nil _).mono ?_); rintro e w' ⟨rfl, rfl⟩))
    go_ret
    exact HF.out
  · have HC := Lib.hid (cloneW_any w g ws.length cap ws hS.own hsh)
    have HF : ∀ v' w1, Below w.heap.size w w1 → w1.ownsRow w.heap.size 51 1 v' ws.length (cellsW ws) → Fresh w (.returned (.pointer (some ⟨w1.heap.size, 0, none⟩))) ws (w1.alloc (.cells #[v'] 49)) := fun v' w1 h1 h2 => fresh_box h1 h2 hsm hsh
    have HFF := Lib.hid HF
    clear HF hS hsm hsh
    go_enter Tryd.func20, Tryd.ntmps20
    go_wp2_with (first
      | ((with_reducible refine (held_any _ _ _ hc1).mono ?_); rintro e w' ⟨rfl, rfl⟩)
      | (go_at_call 35; refine HC.out.mono ?_; rintro e w1 ⟨⟨v', rfl, ho⟩, hb⟩; have HX := Lib.hid (HFF.out v' w1 hb ho); obtain ⟨A', c', rfl⟩ := own_shape ho; clear ho hb))
    go_ret
    exact HX.out
end Go.Proofs.YtjkcomoadpileaaDoor
