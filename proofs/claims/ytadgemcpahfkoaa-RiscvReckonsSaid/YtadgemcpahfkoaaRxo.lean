/-
  The helper lives of layer 18's statements answers true.
-/
import Derived.Test.YtadgemcpahfkoaaRxn
import Derived.Test.YtadgemcpahfkoaaKmh
namespace Go.Proofs.Ytadgemcpahfkoaa
open Go.RowKit
set_option linter.unusedVariables false
set_option linter.unusedSimpArgs false
set_option maxRecDepth 100000
namespace Rv
def Ln.ins (l : Ln) : Ins := ⟨l.op, l.d, l.a, l.b, l.n⟩
theorem ins_any (op d a n : Int) (w : World) : Calls Try.prog 23 #[.int .i64 op, .int .i64 d, .int .i64 a, .int .i32 n] w fun e w' => e = .returned (.agg #[.int .i64 2, .int .i64 op, .int .i64 d, .int .i64 a, .int .i64 0, .int .i32 n, .string ⟨#[]⟩]) ∧ Below w.heap.size w w' := by
  go_enter Try.func23, Try.ntmps23
  go_wp2_with fail
  exact bodyPost_ret (results_cell_row rfl _ _ w.heap.size _ _ (0, 0) _ rfl (heap_alloc_new w _) Try.underlying39 rfl (by kernel_rfl)) rfl ⟨rfl, (Below.refl _ _).alloc (Nat.le_refl _) _⟩
/-- An instruction without a symbol. -/
structure Plain (l : Ln) : Prop where
  k : l.k = 2
  s : l.s = ⟨#[]⟩
  n : -2147483648 ≤ l.n ∧ l.n ≤ 2147483647
theorem plain_may {l : Ln} (h : Plain l) (W : World) : Calls Try.prog 50 #[l.val] W fun e w' => e = .returned (.bool (mayI l.ins)) ∧ Below W.heap.size W w' := by
  obtain ⟨k, op, d, a, b, n, s⟩ := l
  obtain ⟨h1, h2, h3⟩ := h
  dsimp only at h1 h2 h3
  subst h1 h2
  exact mayLine_any op d a b n h3.1 h3.2 W
theorem regOk_rng {b : Bool} {r : Int} (h : regOk b r = true) : 0 ≤ r ∧ r < 32 := by
  unfold regOk at h
  split at h
  · simpa using h
  · have : r = 0 := by simpa using h
    omega
theorem ok_of_may {l : Ln} (hk : l.k = 2) (hn : -2147483648 ≤ l.n ∧ l.n ≤ 2147483647) (h : mayI l.ins = true) : l.Ok := by
  unfold mayI Ln.ins at h
  simp only [Bool.and_eq_true, decide_eq_true_eq] at h
  obtain ⟨⟨⟨⟨⟨h1, h2⟩, h3⟩, h4⟩, h5⟩, h6⟩ := h
  refine ⟨hk, ⟨h1, h2⟩, regOk_rng h3, regOk_rng h4, regOk_rng h5, hn, fun hs => ?_⟩
  rcases hs with hs | hs
  · rw [hs] at h3
    have : regOk false l.d = true := h3
    simpa [regOk] using this
  · rw [hs] at h3
    have : regOk false l.d = true := h3
    simpa [regOk] using this
def f0 : ByteArray → Option Int := fun _ => none
theorem noS_empty : noS ⟨#[]⟩ = true := rfl
theorem layL_plain (s : LS) : ∀ ls : List Ln, (∀ l ∈ ls, l.k = 2) → (ls.foldl stepL s).f = s.f ∧ (ls.foldl stepL s).ok = s.ok ∧ (ls.foldl stepL s).n = s.n
  | [], _ => ⟨rfl, rfl, rfl⟩
  | l :: ls, h => by
    have h1 := layL_plain (stepL s l) ls (fun x hx => h x (List.mem_cons_of_mem _ hx))
    have e : stepL s l = { s with cnt := s.cnt + 1 } := by unfold stepL; rw [if_pos (h l (List.mem_cons_self ..))]
    rw [e] at h1
    simp only [List.foldl_cons]
    rw [e]
    exact h1
theorem resI_plain (f : ByteArray → Option Int) : ∀ (ls acc : List Ln), (∀ l ∈ ls, Plain l) → (∀ l ∈ ls, okJ l = true) → resI f acc ls = some (acc ++ ls)
  | [], acc, _, _ => by simp [resI]
  | l :: ls, acc, h, hj => by
    have hl := h l (List.mem_cons_self ..)
    have e : fixL f l acc.length = l := by unfold fixL; rw [hl.s, if_pos noS_empty]
    show (if l.k = 2 then (if okJ (fixL f l acc.length) = true then resI f (acc ++ [fixL f l acc.length]) ls else none) else resI f acc ls) = _
    rw [if_pos hl.k, e, if_pos (hj l (List.mem_cons_self ..)), resI_plain f ls _ (fun x hx => h x (List.mem_cons_of_mem _ hx)) (fun x hx => hj x (List.mem_cons_of_mem _ hx))]
    simp
theorem okJ_of_may {l : Ln} (h : mayI l.ins = true) : okJ l = true := by
  unfold okJ
  by_cases h28 : l.op = 28
  · unfold mayI Ln.ins at h
    simp only [Bool.and_eq_true] at h
    have h6 := h.2
    rw [h28] at h6
    have h7 : numOk 8 l.n = true := h6
    simp [numOk] at h7
    simp
    right
    omega
  · simp [h28]
/-- A program of instructions without symbols, and nothing else, is loaded as it is. -/
theorem loadI_plain (mg : Gl → Bool) {ls : List Ln} (h : ∀ l ∈ ls, Plain l) (hm : ∀ l ∈ ls, mayI l.ins = true) : loadI mg (fun l => mayI l.ins) [] 0 ls = .ok ls f0 0 := by
  have e1 : mayA mg (fun l => mayI l.ins) [] 0 ls = true := by
    unfold mayA
    rw [List.all_eq_true.2 hm]
    rfl
  obtain ⟨g1, g2, g3⟩ := layL_plain ⟨0, fun _ => none, true, 0⟩ ls (fun l hl => (h l hl).k)
  have e2 : (layG ls []).f = f0 ∧ (layG ls []).ok = true ∧ (layG ls []).cnt = 0 := ⟨g1, g2, rfl⟩
  have e3 : knowsB f0 ls = true := by
    unfold knowsB
    exact List.all_eq_true.2 fun l hl => by rw [(h l hl).s, noS_empty]; rfl
  have e4 := resI_plain f0 ls [] h (fun l hl => okJ_of_may (hm l hl))
  unfold loadI
  rw [if_pos e1, if_pos e2.2.1, e2.1, if_pos e3, e4, e2.2.2]
  rfl
theorem load_plain (W : World) (LA : Option Addr) (n c : Nat) (ls : List Ln) (hL : LnsAt W LA n ls) (hn : n ≤ 1000) (h : ∀ l ∈ ls, Plain l) (hm : ∀ l ∈ ls, mayI l.ins = true) :
    Calls Try.prog 9 #[.agg #[.slice none 0 0, .int .i64 0, .slice LA n c]] W (LoadOut W (.ok ls f0 0)) := by
  have := load_any (fun _ => true) (fun l => mayI l.ins) W none LA 0 0 n c 0 [] ls ⟨rfl, fun h => by omega⟩ hL (by omega) hn (fun l hl => by cases hl) (fun l hl W => plain_may (h l hl) W) (fun g hg => by cases hg) (fun g hg => by cases hg) (fun l hl => by rw [(h l hl).s]; exact Nat.zero_le _) (fun l hl => (h l hl).n)
  rw [loadI_plain _ h hm] at this
  exact this
theorem len_any (w : World) (m : Nat) (LA : Option Addr) (ln lc M : Nat) (words : Int) (h : ImAt w m LA ln lc M words) :
    Calls Try.prog 11 #[.pointer (some ⟨m, 0, none⟩)] w fun e w' => e = .returned (.int .i64 (ln : Int)) ∧ w' = w := by
  obtain ⟨y0, y1, y2, y3⟩ := h.cells
  clear h
  go_enter Try.func11, Try.ntmps11
  go_wp2_with fail
  go_ret
  exact ⟨rfl, rfl⟩
theorem SLine.lnsAt {w : World} {A : Option Addr} {c : Nat} {ls : List Ln} (h : SLine 7 w A ls.length c (ls.flatMap Ln.cells)) : LnsAt w A ls.length ls := by
  refine ⟨rfl, fun hn => ?_⟩
  obtain ⟨g, off, e, hg, hc, -⟩ := h.at hn
  refine ⟨g, off, e, hg, fun i l hi j v hj => ?_⟩
  have hj7 : j < 7 := (List.getElem?_eq_some_iff.1 hj).1
  have hi7 : i < ls.length := (List.getElem?_eq_some_iff.1 hi).1
  rw [Nat.add_assoc, hc (i * 7 + j) (by omega)]
  have flat : ∀ (ls : List Ln) (i : Nat), ls[i]? = some l → (ls.flatMap Ln.cells)[i * 7 + j]? = l.cells[j]? := by
    intro ls
    induction ls with
    | nil => intro i h; cases h
    | cons x xs ih =>
      intro i h
      have hx : x.cells.length = 7 := rfl
      rw [List.flatMap_cons]
      cases i with
      | zero =>
        cases h
        rw [List.getElem?_append_left (by rw [hx]; omega), Nat.zero_mul, Nat.zero_add]
      | succ i =>
        rw [List.getElem?_append_right (by rw [hx]; omega), hx, show (i + 1) * 7 + j - 7 = i * 7 + j from by omega]
        exact ih i (by simpa using h)
  rw [flat ls i hi]
  exact hj
/-- What is loaded of such a program runs. -/
theorem run_plain (w0 w : World) (m M : Nat) (A : Option Addr) (c : Nat) (acc : List Ln) (n : Nat) (h : ResAt w0 m M w A c acc 0 n f0) (hok : ∀ l ∈ acc, l.Ok) (hl : acc.length ≤ 1000) (iA : Option Addr) (im ic : Nat) (inp : List Int) (hR : RowK .i32 w iA im inp) (hin : im ≤ 90000) (fuel : Int) (hfu : fuel ≤ 80000) :
    Calls Try.prog 19 #[.pointer (some ⟨m, 0, none⟩), .slice iA im ic, .int .i64 fuel] w (RunOut w (runR acc inp fuel (newS 0 0))) :=
  run_any w m A acc.length c M n 0 f0 h.im h.sym (by omega) acc (SLine.lnsAt h.line) hok (by omega) (by constructor <;> (show _ ≤ _; simp [f0])) iA im ic inp hR hin fuel hfu
theorem setCell_idR {w : World} {b i : Nat} {cs : Array Value} {T : TypeId} {v : Value} (h : w.heap[b]? = some (.cells cs T (0, 0))) (hv : cs[i]? = some v) : w.setCell ⟨b, i, none⟩ v = w := by
  have hi : i < cs.size := (Array.getElem?_eq_some_iff.1 hv).1
  have hset : cs.setIfInBounds i v = cs := by
    apply Array.ext
    · simp
    · intro j h1 h2
      rw [Array.getElem_setIfInBounds]
      split
      · next e => subst e; exact (Array.getElem?_eq_some_iff.1 hv).2.symm
      · rfl
  have hh : (w.setCell ⟨b, i, none⟩ v).heap = w.heap := by
    apply Array.ext_getElem?
    intro k
    by_cases hk : k = b
    · subst hk
      rw [heap_setCell_same w k i _ _ _ h, hset, h]
    · exact heap_setCell_other w _ _ _ hk
  unfold World.setCell at hh ⊢
  simp only at hh
  rw [hh]
/-- The document's example. -/
def liveL : List Ln := [⟨2, 2, 10, 0, 0, 7, ⟨#[]⟩⟩, ⟨2, 2, 17, 0, 0, 3, ⟨#[]⟩⟩, ⟨2, 30, 0, 0, 0, 0, ⟨#[]⟩⟩]
theorem live_plain : ∀ l ∈ liveL, Plain l := by
  intro l hl
  simp only [liveL, List.mem_cons, List.not_mem_nil, or_false] at hl
  rcases hl with rfl | rfl | rfl <;> exact ⟨rfl, rfl, by decide⟩
theorem live_may : ∀ l ∈ liveL, mayI l.ins = true := by
  intro l hl
  simp only [liveL, List.mem_cons, List.not_mem_nil, or_false] at hl
  rcases hl with rfl | rfl | rfl <;> rfl
theorem live_run : runR liveL [] 100 (newS 0 0) = ⟨1, 7, [], 3, 0⟩ := by kernel_rfl
set_option maxHeartbeats 3200000 in
theorem lives18 (w : World) : Calls Try.prog 8 #[] w fun e w' => e = .returned (.bool true) ∧ Below w.heap.size w w' := by
  have HLD := Lib.hid (fun (W : World) (A : Option Addr) (h : LnsAt W A 3 liveL) => load_plain W A 3 3 liveL h (by omega) live_plain live_may)
  have HB := Lib.hid (Below.refl w.heap.size w)
  go_enter Try.func8, Try.ntmps8
  go_wp2_with (go_at_call 23; refine (ins_any _ _ _ _ _).mono ?_; rintro e w' ⟨rfl, hb'⟩; have HB := Lib.hid (HB.out.trans (hb'.mono HB.out.size)); clear hb')
  obtain ⟨W5, hW5⟩ : ∃ W5, w'.alloc (.cells #[.int .i64 2, .int .i64 2, .int .i64 10, .int .i64 0, .int .i64 0, .int .i32 7, .string ⟨#[]⟩, .int .i64 2, .int .i64 2, .int .i64 17, .int .i64 0, .int .i64 0, .int .i32 3, .string ⟨#[]⟩, .int .i64 2, .int .i64 30, .int .i64 0, .int .i64 0, .int .i64 0, .int .i32 0, .string ⟨#[]⟩] 39) = W5 := ⟨_, rfl⟩
  have hL5 : LnsAt W5 (some ⟨w'.heap.size, 0, none⟩) 3 liveL := by
    refine ⟨rfl, fun _ => ⟨w'.heap.size, 0, rfl, by rw [← hW5]; simp, fun i l hi j v hj => ?_⟩⟩
    rw [← hW5, cell_of_row _ _ _ _ _ (0, 0) (heap_alloc_new w' _)]
    have hi3 : i < 3 := (List.getElem?_eq_some_iff.1 hi).1
    have hj7 : j < 7 := (List.getElem?_eq_some_iff.1 hj).1
    obtain rfl | rfl | rfl : i = 0 ∨ i = 1 ∨ i = 2 := by omega
    all_goals
      cases hi
      obtain rfl | rfl | rfl | rfl | rfl | rfl | rfl : j = 0 ∨ j = 1 ∨ j = 2 ∨ j = 3 ∨ j = 4 ∨ j = 5 ∨ j = 6 := by omega
      all_goals
        cases hj
        rfl
  have hb5 : Below w.heap.size w W5 := by
    have h5 : Below w'.heap.size w' W5 := by rw [← hW5]; exact (Below.refl _ _).alloc (Nat.le_refl _) _
    exact HB.out.trans (h5.mono HB.out.size)
  have HB5 := Lib.hid hb5
  clear hb5
  rw [hW5]
  refine (HLD.out W5 _ hL5).mono ?_
  clear hL5 hW5
  rintro e w6 ⟨m, M, A, c, n, rfl, hR⟩
  have HR := Lib.hid hR
  have HRUN := Lib.hid (run_plain W5 w6 m M A c liveL n hR (fun l hl => ok_of_may (live_plain l hl).k (live_plain l hl).n (live_may l hl)) (by decide) none 0 0 [] ⟨rfl, fun h => by omega⟩ (by omega) 100 (by omega))
  rw [live_run] at HRUN
  have HRUN2 := Lib.hid (HRUN.out.mono (R' := fun e w' => ∃ A c, e = .returned (.agg #[.int .i64 1, .int .i32 7, .slice A 0 c, .int .i64 3, .int .i64 0]) ∧ Below w6.heap.size w6 w') (fun e w' h => by
    obtain ⟨A, c, he, _, hb, _⟩ := h
    exact ⟨A, c, he, hb⟩))
  clear hR HRUN
  go_wp2_with fail
  refine HRUN2.out.mono ?_
  rintro e w7 ⟨A7, c7, rfl, hb7⟩
  have HR7 := Lib.hid (HR.out.grow hb7)
  clear hb7 HRUN2 HR
  obtain ⟨W8, hW8⟩ : ∃ W8, w7.alloc (.cells #[.int .i64 1, .int .i32 7, .slice A7 0 c7, .int .i64 3, .int .i64 0] 57) = W8 := ⟨_, rfl⟩
  have hb8 : Below w7.heap.size w7 W8 := by rw [← hW8]; exact (Below.refl _ _).alloc (Nat.le_refl _) _
  have hx8 : W8.heap[w7.heap.size]? = some (.cells #[.int .i64 1, .int .i32 7, .slice A7 0 c7, .int .i64 3, .int .i64 0] 57 (0, 0)) := by rw [← hW8]; exact heap_alloc_new w7 _
  have h8 := HR7.out.grow hb8
  have x0 : W8.cell? ⟨w7.heap.size, 0, none⟩ = some (.int .i64 1) := by rw [cell_of_row _ _ 0 _ _ (0, 0) hx8]; rfl
  have x1 : W8.cell? ⟨w7.heap.size, 1, none⟩ = some (.int .i32 7) := by rw [cell_of_row _ _ 1 _ _ (0, 0) hx8]; rfl
  have x3 : W8.cell? ⟨w7.heap.size, 3, none⟩ = some (.int .i64 3) := by rw [cell_of_row _ _ 3 _ _ (0, 0) hx8]; rfl
  have x4 : W8.cell? ⟨w7.heap.size, 4, none⟩ = some (.int .i64 0) := by rw [cell_of_row _ _ 4 _ _ (0, 0) hx8]; rfl
  have f4 := frozen_of_row _ w7.heap.size 4 _ _ hx8
  have s4 : W8.setCell ⟨w7.heap.size, 4, none⟩ (.int .i64 0) = W8 := setCell_idR hx8 rfl
  have HLEN := Lib.hid (len_any W8 m A liveL.length c M 0 h8.im)
  have HF := Lib.hid (HB5.out.trans (h8.below.mono HB5.out.size))
  clear hb8 hx8 h8
  change Hid (Calls _ _ _ _ fun e w' => e = .returned (.int .i64 3) ∧ w' = W8) at HLEN
  have e3 : ((3 : Int) == 3) = true := rfl
  go_wp2_with (go_at_call 11; (with_reducible refine HLEN.out.mono ?_); rintro e w9 ⟨rfl, rfl⟩)
  go_ret
  exact ⟨rfl, HF.out⟩
end Rv
end Go.Proofs.Ytadgemcpahfkoaa
