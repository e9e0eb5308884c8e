/-
  Instructions are taken over, with numbers in the place of symbols: (*Image).resolve.
-/
import Derived.Test.YtadgemcpahfkoaaRxl
namespace Go.Proofs.Ytadgemcpahfkoaa
open Go.RowKit
set_option linter.unusedVariables false
set_option linter.unusedSimpArgs false
set_option maxRecDepth 100000
namespace Rv
def fixL (f : ByteArray → Option Int) (l : Ln) (c : Nat) : Ln := if noS l.s then l else { l with n := numI f l c, s := ⟨#[]⟩ }
def okJ (l : Ln) : Bool := !(l.op == 28) || (decide (-1048576 ≤ l.n) && decide (l.n < 1048576))
def resI (f : ByteArray → Option Int) : List Ln → List Ln → Option (List Ln)
  | acc, [] => some acc
  | acc, l :: ls => if l.k = 2 then (if okJ (fixL f l acc.length) = true then resI f (acc ++ [fixL f l acc.length]) ls else none) else resI f acc ls
/-- An image whose instructions so far are acc. -/
structure ResAt (w0 : World) (m M : Nat) (w : World) (A : Option Addr) (c : Nat) (acc : List Ln) (words : Int) (n : Nat) (f : ByteArray → Option Int) : Prop where
  below : Below w0.heap.size w0 w
  mge : w0.heap.size ≤ m
  Mge : w0.heap.size ≤ M
  ne : m ≠ M
  im : ImAt w m A acc.length c M words
  sym : SymAt w M n f
  line : SLine 7 w A acc.length c (acc.flatMap Ln.cells)
  bl : ∀ k ∈ blk A, w0.heap.size ≤ k ∧ k ≠ m ∧ k ≠ M
theorem ResAt.grow {w0 : World} {m M : Nat} {w w' : World} {A : Option Addr} {c : Nat} {acc : List Ln} {words : Int} {n : Nat} {f : ByteArray → Option Int} (h : ResAt w0 m M w A c acc words n f) (hb : Below w.heap.size w w') : ResAt w0 m M w' A c acc words n f :=
  ⟨h.below.trans (hb.mono h.below.size), h.mge, h.Mge, h.ne, (hb.block m (Array.getElem?_eq_some_iff.1 h.im).1).trans h.im, h.sym.same (hb.block M h.sym.lt), h.line.below hb, h.bl⟩
theorem ResAt.drew {w0 : World} {m M : Nat} {w : World} {A : Option Addr} {c : Nat} {acc : List Ln} {words : Int} {n : Nat} {f : ByteArray → Option Int} (h : ResAt w0 m M w A c acc words n f) : ResAt w0 m M w.drew A c acc words n f :=
  ⟨h.below.drew, h.mge, h.Mge, h.ne, h.im, h.sym.drew, h.line.drew, h.bl⟩
/-- Another block is another. -/
theorem ResAt.far {w0 : World} {m M : Nat} {w w' : World} {A : Option Addr} {c : Nat} {acc : List Ln} {words : Int} {n : Nat} {f : ByteArray → Option Int} (h : ResAt w0 m M w A c acc words n f) {b : Nat} (hc : Chg [b] w w') (h0 : w0.heap.size ≤ b) (h1 : b ≠ m) (h2 : b ≠ M) (h3 : b ∉ blk A) : ResAt w0 m M w' A c acc words n f :=
  ⟨h.below.trans (hc.toBelow (fun k hk => by rw [List.mem_singleton] at hk; subst hk; exact h0) h.below.size), h.mge, h.Mge, h.ne, (hc.same m (Array.getElem?_eq_some_iff.1 h.im).1 (by rw [List.mem_singleton]; exact h1.symm)).trans h.im,
    h.sym.same (hc.same M h.sym.lt (by rw [List.mem_singleton]; exact h2.symm)), h.line.chg hc (fun k hk => by rw [List.mem_singleton]; intro e; subst e; exact h3 hk), h.bl⟩
def ResOut (w0 : World) (m M : Nat) (words : Int) (n : Nat) (f : ByteArray → Option Int) (r : Option (List Ln)) (e : Ending) (w' : World) : Prop :=
  match r with
  | some acc => e = .returned (.bool true) ∧ ∃ A c, ResAt w0 m M w' A c acc words n f
  | none => e = .returned (.bool false) ∧ Below w0.heap.size w0 w'
theorem infoLnR : (Try.prog.info? 39).map (fun i => (i.zero, i.size, i.bytes)) = some (some (.agg #[.int .i64 0, .int .i64 0, .int .i64 0, .int .i64 0, .int .i64 0, .int .i32 0, .string ⟨#[]⟩]), 7, 64) := by kernel_rfl
theorem box7 {V : World} {bx : Nat} {lk lo ld la lb lnn : Int} {lsym : ByteArray} (h : V.heap[bx]? = some (.cells #[.int .i64 lk, .int .i64 lo, .int .i64 ld, .int .i64 la, .int .i64 lb, .int .i32 lnn, .string lsym] 39 (0, 0))) :
    V.cell? ⟨bx, 0, none⟩ = some (.int .i64 lk) ∧ V.cell? ⟨bx, 1, none⟩ = some (.int .i64 lo) ∧ V.cell? ⟨bx, 2, none⟩ = some (.int .i64 ld) ∧ V.cell? ⟨bx, 3, none⟩ = some (.int .i64 la) ∧ V.cell? ⟨bx, 4, none⟩ = some (.int .i64 lb) ∧ V.cell? ⟨bx, 5, none⟩ = some (.int .i32 lnn) ∧ V.cell? ⟨bx, 6, none⟩ = some (.string lsym) ∧ ∀ j, V.frozen? ⟨bx, j, none⟩ = false := by
  refine ⟨?_, ?_, ?_, ?_, ?_, ?_, ?_, fun j => frozen_of_row _ bx j _ _ h⟩ <;> (rw [cell_of_row _ bx _ _ _ (0, 0) h]; rfl)
/-- A line more. -/
theorem ResAt.push {w0 : World} {m M : Nat} {w : World} {A : Option Addr} {c : Nat} {acc : List Ln} {words : Int} {n : Nat} {f : ByteArray → Option Int} (h : ResAt w0 m M w A c acc words n f) (hl : acc.length ≤ 10000) (lk lo ld la lb lnn : Int) (lsym : ByteArray) :
    ∃ A' c' w2, (Builtin.append_ #[23, 23] 23 #[.slice A acc.length c, .slice (some ⟨w.heap.size, 0, none⟩) 1 1]).run Try.prog (w.alloc (.cells #[.int .i64 lk, .int .i64 lo, .int .i64 ld, .int .i64 la, .int .i64 lb, .int .i32 lnn, .string lsym] 39)) = .ok (.slice A' (acc.length + 1) c') w2 ∧
      Chg (blk A) w w2 ∧ ResAt w0 m M (w2.setCell ⟨m, 0, none⟩ (.slice A' (acc.length + 1) c')) A' c' (acc ++ [⟨lk, lo, ld, la, lb, lnn, lsym⟩]) words n f := by
  obtain ⟨A', c', w2, h1, h2, h3, h4, _⟩ := push_sR 7 w 23 39 23 _ 64 Try.underlying23 infoLnR rfl (by decide) A acc.length c _ h.line (by omega) (Ln.mk lk lo ld la lb lnn lsym).cells rfl (by
    intro u hu
    simp only [Ln.cells, List.mem_cons, List.not_mem_nil, or_false] at hu
    rcases hu with h | h | h | h | h | h | h <;> (rw [h]; rfl))
  have hm : m < w.heap.size := (Array.getElem?_eq_some_iff.1 h.im).1
  have hM : M < w.heap.size := h.sym.lt
  have hmA : m ∉ blk A := fun hk => (h.bl _ hk).2.1 rfl
  have hMA : M ∉ blk A := fun hk => (h.bl _ hk).2.2 rfl
  have hB := h.below.size
  have hc3 : Chg (m :: blk A) w (w2.setCell ⟨m, 0, none⟩ (.slice A' (acc.length + 1) c')) := (h3.weaken (fun k hk => .inl (List.mem_cons_of_mem _ hk))).setCell m 0 _ (.inl (by simp))
  have hlen : (acc ++ [(⟨lk, lo, ld, la, lb, lnn, lsym⟩ : Ln)]).length = acc.length + 1 := by simp
  have hbl : ∀ k ∈ blk A', w0.heap.size ≤ k ∧ k ≠ m ∧ k ≠ M := fun k hk => by
    rcases h4 k hk with q | q
    · exact h.bl k q
    · exact ⟨by omega, by omega, by omega⟩
  refine ⟨A', c', w2, h1, h3, ⟨h.below.trans (hc3.toBelow (fun k hk => by rcases List.mem_cons.1 hk with rfl | hk; exact h.mge; exact (h.bl k hk).1) hB), h.mge, h.Mge, h.ne, ?_, ?_, ?_, hbl⟩⟩
  · have hi := h.im
    unfold ImAt at hi ⊢
    rw [heap_setCell_same w2 m 0 _ _ _ ((h3.same m hm hmA).trans hi), hlen]
    rfl
  · exact h.sym.same (hc3.same M hM (by simp only [List.mem_cons, not_or]; exact ⟨h.ne.symm, hMA⟩))
  · rw [hlen, List.flatMap_append]
    have h2' : SLine 7 w2 A' (acc.length + 1) c' (acc.flatMap Ln.cells ++ [(⟨lk, lo, ld, la, lb, lnn, lsym⟩ : Ln)].flatMap Ln.cells) := by simpa using h2
    exact h2'.chg ((Chg.refl [m] w2).setCell m 0 _ (.inl (by simp))) (fun k hk => by rw [List.mem_singleton]; exact (hbl k hk).2.1)
set_option maxHeartbeats 12800000 in
theorem resolve_any (w0 w : World) (m M : Nat) (words : Int) (n : Nat) (f : ByteArray → Option Int) (h : LayAt w0 m M w words n f) (LA : Option Addr) (ln lc : Nat) (ls : List Ln) (hL : LnsAt w0 LA ln ls) (hln : ln ≤ 1000) (hls : ∀ l ∈ ls, l.s.size ≤ 1000000) (hnn : ∀ l ∈ ls, -2147483648 ≤ l.n ∧ l.n ≤ 2147483647) :
    Calls Try.prog 28 #[.pointer (some ⟨m, 0, none⟩), .slice LA ln lc] w (ResOut w0 m M words n f (resI f [] ls)) := by
  have H1 : Hid (ResAt w0 m M w none 0 [] words n f) := Lib.hid ⟨h.below, h.mge, h.Mge, h.ne, h.im, h.sym, SLine.nil 7 _, fun k hk => (by cases hk)⟩
  have HL := Lib.hid hL
  have HLS := Lib.hid hls
  have HNN := Lib.hid hnn
  have HN := Lib.hid hL.1
  have hln2 : (ln : Int) ≤ 1000 := by omega
  clear h hL hls hnn
  go_enter Try.func28, Try.ntmps28
  go_wp2_with fail
  go_loopw [9] (fun i wr => ∃ k : Nat, k ≤ ln ∧ i = .int .i64 k ∧ Hid (∃ acc A c, acc.length ≤ k ∧ resI f [] ls = resI f acc (ls.drop k) ∧ ResAt w0 m M wr A c acc words n f)) (fun i _ => ln - (intOf i).toNat)
  case atStart => exact ⟨0, by omega, rfl, Lib.hid ⟨[], none, 0, Nat.le_refl _, rfl, H1.out⟩⟩
  case round =>
    clear H1
    obtain ⟨k, hk, rfl, HI⟩ := hrel
    rcases Nat.lt_or_ge k ln with hlt | hge
    · have hlt' : (k : Int) < (ln : Int) := by omega
      have hk0 : (0 : Int) ≤ (k : Int) := by omega
      obtain ⟨l, hl⟩ : ∃ l, ls[k]? = some l := ⟨_, List.getElem?_eq_getElem (by have := HN.out; omega)⟩
      obtain ⟨g, off, rfl, hg, hc⟩ := HL.out.2 (by omega)
      have hsz := HLS.out l (List.mem_of_getElem? hl)
      have hnn := HNN.out l (List.mem_of_getElem? hl)
      obtain ⟨acc, A, c, hal, hres, hR⟩ := HI.out
      have hcell := fun j u hj => (hR.below.cell (p := ⟨g, off + k * 7 + j, none⟩) hg).trans (hc k _ hl j u hj)
      have hdrop : ls.drop k = l :: ls.drop (k + 1) := by
        rw [List.drop_eq_getElem_cons (by have := HN.out; omega)]
        congr 1
        exact Option.some.inj ((List.getElem?_eq_getElem (by have := HN.out; omega)).symm.trans hl)
      rw [hdrop] at hres
      obtain ⟨lk, lo, ld, la, lb, lnn, lsym⟩ := l
      dsimp only at hsz hnn
      have d0 := hcell 0 _ rfl
      have d1 := hcell 1 _ rfl
      have d2 := hcell 2 _ rfl
      have d3 := hcell 3 _ rfl
      have d4 := hcell 4 _ rfl
      have d5 := hcell 5 _ rfl
      have d6 := hcell 6 _ rfl
      rw [Nat.add_zero] at d0
      obtain ⟨bx, hbx⟩ : ∃ bx, wr.heap.size = bx := ⟨_, rfl⟩
      obtain ⟨W4, hW4⟩ : ∃ W4, wr.alloc (.cells #[.int .i64 lk, .int .i64 lo, .int .i64 ld, .int .i64 la, .int .i64 lb, .int .i32 lnn, .string lsym] 39) = W4 := ⟨_, rfl⟩
      have hb4 : Below wr.heap.size wr W4 := by rw [← hW4]; exact (Below.refl _ _).alloc (Nat.le_refl _) _
      have hn4 : W4.heap[bx]? = some (.cells #[.int .i64 lk, .int .i64 lo, .int .i64 ld, .int .i64 la, .int .i64 lb, .int .i32 lnn, .string lsym] 39 (0, 0)) := by rw [← hW4, ← hbx]; exact heap_alloc_new wr _
      obtain ⟨u0, u1, u2, u3, u4, u5, u6, uf⟩ := box7 hn4
      have hR4 := hR.grow hb4
      have hfar : bx ≠ m ∧ bx ≠ M ∧ bx ∉ blk A ∧ w0.heap.size ≤ bx := by
        have h1 := (Array.getElem?_eq_some_iff.1 hR.im).1
        have h2 := hR.sym.lt
        have h3 := hR.below.size
        refine ⟨by omega, by omega, fun hk => ?_, by omega⟩
        have := hR.line.lt _ hk
        omega
      have HFAR := Lib.hid hfar
      have HR4 := Lib.hid hR4
      have HN4 := Lib.hid hn4
      have HRES := Lib.hid hres
      have HAL := Lib.hid hal
      clear hc hg hl hcell hR hb4 hn4 HI hR4 hfar hdrop hres
      by_cases hk2 : lk = 2
      · have b2 : (lk == 2) = true := by simp [hk2]
        cases hne : noS lsym with
        | true =>
          have e1 : lsym.toList.isEmpty = true := by rw [ba_toList]; exact hne
          have e2 : lsym.toList = [] := by rw [ba_toList]; simpa [noS] using hne
          have HFX : Hid (fixL f ⟨lk, lo, ld, la, lb, lnn, lsym⟩ acc.length = ⟨lk, lo, ld, la, lb, lnn, lsym⟩) := Lib.hid (by unfold fixL; rw [if_pos hne])
          have HK2 := Lib.hid hk2
          obtain ⟨nn1, nn2⟩ := hnn
          clear hne hk2

          by_cases h28 : lo = 28
          · have b28 : (lo == 28) = true := by simp [h28]
            have HFT := Lib.hid (fits_21 (lnn) (by omega) (by omega))
            by_cases hr1 : -1048576 ≤ lnn ∧ lnn < 1048576
            · have hfb : (decide (-1048576 ≤ lnn) && decide (lnn < 1048576)) = true := by simp [hr1]
              rw [hfb] at HFT
              clear h28 hr1
              go_upto_region 10 with (go_at_call 54; (with_reducible refine (HFT.out _).mono ?_); rintro e w' ⟨rfl, rfl⟩)
              have HOK : Hid (okJ ⟨lk, lo, ld, la, lb, lnn, lsym⟩ = true) := Lib.hid (by unfold okJ; dsimp only; rw [hfb]; simp)
              obtain ⟨A', c', w7, hrun, hc7, hR7⟩ := HR4.out.drew.push (by have := HAL.out; omega) lk lo ld la lb lnn lsym
              have hc7' : Chg (blk A) W4 w7 := ((Chg.refl (blk A) W4).drew).trans hc7
              have HRUN := Lib.hid hrun
              have hbxlt := (Array.getElem?_eq_some_iff.1 HN4.out).1
              have HB7 : Hid (w7.heap[bx]? = some (.cells #[.int .i64 lk, .int .i64 lo, .int .i64 ld, .int .i64 la, .int .i64 lb, .int .i32 lnn, .string lsym] 39 (0, 0))) := Lib.hid ((hc7'.same bx hbxlt HFAR.out.2.2.1).trans HN4.out)
              have HB8 : Hid ((w7.setCell ⟨m, 0, none⟩ (.slice A' (acc.length + 1) c')).heap[bx]? = some (.cells #[.int .i64 lk, .int .i64 lo, .int .i64 ld, .int .i64 la, .int .i64 lb, .int .i32 lnn, .string lsym] 39 (0, 0))) := Lib.hid ((setCell_off _ _ _ _ _ HFAR.out.1).trans HB7.out)
              have HBA : Hid ((W4.alloc (.cells #[.int .i64 lk, .int .i64 lo, .int .i64 ld, .int .i64 la, .int .i64 lb, .int .i32 lnn, .string lsym] 39)).drew.heap[bx]? = some (.cells #[.int .i64 lk, .int .i64 lo, .int .i64 ld, .int .i64 la, .int .i64 lb, .int .i32 lnn, .string lsym] 39 (0, 0))) := Lib.hid ((((Below.refl W4.heap.size W4).alloc (Nat.le_refl _) _).block bx hbxlt).trans HN4.out)
              have HB0 : Hid (W4.drew.heap[bx]? = some (.cells #[.int .i64 lk, .int .i64 lo, .int .i64 ld, .int .i64 la, .int .i64 lb, .int .i32 lnn, .string lsym] 39 (0, 0))) := Lib.hid HN4.out
              obtain ⟨m0, m1, m2, mf⟩ := HR4.out.im.cells
              have a0 : (W4.alloc (.cells #[.int .i64 lk, .int .i64 lo, .int .i64 ld, .int .i64 la, .int .i64 lb, .int .i32 lnn, .string lsym] 39)).drew.cell? ⟨m, 0, none⟩ = some (.slice A acc.length c) := Chg.readR ((Chg.refl [] W4).alloc _) m 0 (by simp) m0
              have hmA : m ∉ blk A := fun hk => (HR4.out.bl _ hk).2.1 rfl
              have q0 : w7.cell? ⟨m, 0, none⟩ = some (.slice A acc.length c) := Chg.readR hc7' m 0 hmA m0
              have g0 : w7.frozen? ⟨m, 0, none⟩ = false := by
                rw [World.frozen?_of_block (w := W4) (a := ⟨m, 0, none⟩) (hc7'.same m (World.block_lt_of_cell? W4 _ m0) hmA)]
                exact mf 0
              have HR7 := Lib.hid hR7
              clear hrun hc7 hc7' hR7 hbxlt m1 m2 mf hmA
              refine wp_region_held_drew (S := fun V => V.heap[bx]? = some (.cells #[.int .i64 lk, .int .i64 lo, .int .i64 ld, .int .i64 la, .int .i64 lb, .int .i32 lnn, .string lsym] 39 (0, 0))) (by kernel_rfl) HB0.out (fun _ => ?_)
              refine takeH 0 33 (v := (.pointer (some ⟨m, 0, none⟩))) rfl rfl (by kernel_rfl) (by kernel_rfl) (by kernel_rfl) (fun _ _ _ h => h) (by rfl) ?_ HB0.out ?_
              · intro w hSw
                obtain ⟨y0, y1, y2, y3, y4, y5, y6, yf⟩ := box7 hSw
                go_simp
              try simp only [Act.put, List.setIfInBounds_toArray, List.set_cons_zero, List.set_cons_succ]
              refine takeH 1 34 (v := (.pointer (some ⟨m, 0, none⟩))) rfl rfl (by kernel_rfl) (by kernel_rfl) (by kernel_rfl) (fun _ _ _ h => h) (by rfl) ?_ HB0.out ?_
              · intro w hSw
                obtain ⟨y0, y1, y2, y3, y4, y5, y6, yf⟩ := box7 hSw
                go_simp
              try simp only [Act.put, List.setIfInBounds_toArray, List.set_cons_zero, List.set_cons_succ]
              refine takeH 2 35 (v := (.pointer (some ⟨m, 0, none⟩))) rfl rfl (by kernel_rfl) (by kernel_rfl) (by kernel_rfl) (fun _ _ _ h => h) (by rfl) ?_ HB0.out ?_
              · intro w hSw
                obtain ⟨y0, y1, y2, y3, y4, y5, y6, yf⟩ := box7 hSw
                go_simp
              try simp only [Act.put, List.setIfInBounds_toArray, List.set_cons_zero, List.set_cons_succ]
              refine takeH 3 36 (v := (.pointer (some ⟨m, 0, none⟩))) rfl rfl (by kernel_rfl) (by kernel_rfl) (by kernel_rfl) (fun _ _ _ h => h) (by rfl) ?_ HB0.out ?_
              · intro w hSw
                obtain ⟨y0, y1, y2, y3, y4, y5, y6, yf⟩ := box7 hSw
                go_simp
              try simp only [Act.put, List.setIfInBounds_toArray, List.set_cons_zero, List.set_cons_succ]
              refine takeH 5 38 (v := (.agg #[.int .i64 lk, .int .i64 lo, .int .i64 ld, .int .i64 la, .int .i64 lb, .int .i32 lnn, .string lsym])) rfl rfl (by kernel_rfl) (by kernel_rfl) (by kernel_rfl) (fun _ _ _ h => h) (by rfl) ?_ HB0.out ?_
              · intro w hSw
                obtain ⟨y0, y1, y2, y3, y4, y5, y6, yf⟩ := box7 hSw
                go_simp
              try simp only [Act.put, List.setIfInBounds_toArray, List.set_cons_zero, List.set_cons_succ]
              refine wpAnyH_ready (rs := [4, 6]) (by kernel_rfl) (by simp) ?_
              refine AllReadyH.cons rfl (fun K hK => ?_) (AllReadyH.cons rfl (fun K hK => ?_) AllReadyH.nil)
              · go_simp
                refine hK.out _ _ HB0.out (fun _ => ?_)
                clear hK K
                try simp only [Act.put, List.setIfInBounds_toArray, List.set_cons_zero, List.set_cons_succ]
                refine wpAnyH_ready (rs := [6]) (by kernel_rfl) (by simp) ?_
                refine AllReadyH.cons rfl (fun K hK => ?_) AllReadyH.nil
                go_simp
                refine hK.out _ _ HBA.out (fun _ => ?_)
                clear hK K
                try simp only [Act.put, List.setIfInBounds_toArray, List.set_cons_zero, List.set_cons_succ]
                refine wpAnyH_ready (rs := [7]) (by kernel_rfl) (by simp) ?_
                refine appendT_ready rfl (by kernel_rfl) _ _ _ _ rfl _ _ rfl rfl _ _ HRUN.out HB7.out ?_
                try simp only [Act.put, List.setIfInBounds_toArray, List.set_cons_zero, List.set_cons_succ]
                refine takeH 8 41 (v := (.pointer (some ⟨m, 0, none⟩))) rfl rfl (by kernel_rfl) (by kernel_rfl) (by kernel_rfl) (fun _ _ _ h => h) (by rfl) ?_ HB7.out ?_
                · intro w hSw
                  obtain ⟨y0, y1, y2, y3, y4, y5, y6, yf⟩ := box7 hSw
                  go_simp
                try simp only [Act.put, List.setIfInBounds_toArray, List.set_cons_zero, List.set_cons_succ]
                refine takeH 9 42 (v := (.pointer (some ⟨m, 0, none⟩))) rfl rfl (by kernel_rfl) (by kernel_rfl) (by kernel_rfl) (fun _ _ _ h => h) (by rfl) ?_ HB7.out ?_
                · intro w hSw
                  obtain ⟨y0, y1, y2, y3, y4, y5, y6, yf⟩ := box7 hSw
                  go_simp
                try simp only [Act.put, List.setIfInBounds_toArray, List.set_cons_zero, List.set_cons_succ]
                refine wpAnyH_ready (rs := [10]) (by kernel_rfl) (by simp) ?_
                refine AllReadyH.cons rfl (fun K hK => ?_) AllReadyH.nil
                go_simp
                refine hK.out _ _ HB8.out (fun _ => ?_)
                clear hK K
                try simp only [Act.put, List.setIfInBounds_toArray, List.set_cons_zero, List.set_cons_succ]
                refine wpAnyH_done (by kernel_rfl) ?_ _
                go_wp2_with fail
                go_roundw
                case rel => exact ⟨k + 1, by omega, by go_num, Lib.hid ⟨acc ++ [⟨lk, lo, ld, la, lb, lnn, lsym⟩], A', c', by have := HAL.out; simp; omega, by
                  rw [HRES.out]
                  show (if lk = 2 then (if okJ (fixL f ⟨lk, lo, ld, la, lb, lnn, lsym⟩ acc.length) = true then resI f (acc ++ [fixL f ⟨lk, lo, ld, la, lb, lnn, lsym⟩ acc.length]) (ls.drop (k + 1)) else none) else resI f acc (ls.drop (k + 1))) = _
                  rw [if_pos HK2.out, HFX.out, if_pos HOK.out], HR7.out⟩⟩
                case measure => simp [intOf] <;> omega
              · go_simp
                refine hK.out _ _ HBA.out (fun _ => ?_)
                clear hK K
                try simp only [Act.put, List.setIfInBounds_toArray, List.set_cons_zero, List.set_cons_succ]
                refine wpAnyH_ready (rs := [4]) (by kernel_rfl) (by simp) ?_
                refine AllReadyH.cons rfl (fun K hK => ?_) AllReadyH.nil
                go_simp
                refine hK.out _ _ HBA.out (fun _ => ?_)
                clear hK K
                try simp only [Act.put, List.setIfInBounds_toArray, List.set_cons_zero, List.set_cons_succ]
                refine wpAnyH_ready (rs := [7]) (by kernel_rfl) (by simp) ?_
                refine appendT_ready rfl (by kernel_rfl) _ _ _ _ rfl _ _ rfl rfl _ _ HRUN.out HB7.out ?_
                try simp only [Act.put, List.setIfInBounds_toArray, List.set_cons_zero, List.set_cons_succ]
                refine takeH 8 41 (v := (.pointer (some ⟨m, 0, none⟩))) rfl rfl (by kernel_rfl) (by kernel_rfl) (by kernel_rfl) (fun _ _ _ h => h) (by rfl) ?_ HB7.out ?_
                · intro w hSw
                  obtain ⟨y0, y1, y2, y3, y4, y5, y6, yf⟩ := box7 hSw
                  go_simp
                try simp only [Act.put, List.setIfInBounds_toArray, List.set_cons_zero, List.set_cons_succ]
                refine takeH 9 42 (v := (.pointer (some ⟨m, 0, none⟩))) rfl rfl (by kernel_rfl) (by kernel_rfl) (by kernel_rfl) (fun _ _ _ h => h) (by rfl) ?_ HB7.out ?_
                · intro w hSw
                  obtain ⟨y0, y1, y2, y3, y4, y5, y6, yf⟩ := box7 hSw
                  go_simp
                try simp only [Act.put, List.setIfInBounds_toArray, List.set_cons_zero, List.set_cons_succ]
                refine wpAnyH_ready (rs := [10]) (by kernel_rfl) (by simp) ?_
                refine AllReadyH.cons rfl (fun K hK => ?_) AllReadyH.nil
                go_simp
                refine hK.out _ _ HB8.out (fun _ => ?_)
                clear hK K
                try simp only [Act.put, List.setIfInBounds_toArray, List.set_cons_zero, List.set_cons_succ]
                refine wpAnyH_done (by kernel_rfl) ?_ _
                go_wp2_with fail
                go_roundw
                case rel => exact ⟨k + 1, by omega, by go_num, Lib.hid ⟨acc ++ [⟨lk, lo, ld, la, lb, lnn, lsym⟩], A', c', by have := HAL.out; simp; omega, by
                  rw [HRES.out]
                  show (if lk = 2 then (if okJ (fixL f ⟨lk, lo, ld, la, lb, lnn, lsym⟩ acc.length) = true then resI f (acc ++ [fixL f ⟨lk, lo, ld, la, lb, lnn, lsym⟩ acc.length]) (ls.drop (k + 1)) else none) else resI f acc (ls.drop (k + 1))) = _
                  rw [if_pos HK2.out, HFX.out, if_pos HOK.out], HR7.out⟩⟩
                case measure => simp [intOf] <;> omega
            · have hfb : (decide (-1048576 ≤ lnn) && decide (lnn < 1048576)) = false := by simpa using hr1
              rw [hfb] at HFT
              have HOK : Hid (okJ ⟨lk, lo, ld, la, lb, lnn, lsym⟩ = false) := Lib.hid (by unfold okJ; dsimp only; rw [hfb, b28]; rfl)
              clear h28 hr1
              go_wp2_with (go_at_call 54; (with_reducible refine (HFT.out _).mono ?_); rintro e w' ⟨rfl, rfl⟩)
              go_ret
              show ResOut w0 m M words n f (resI f [] ls) _ _
              have hz : resI f [] ls = none := by
                rw [HRES.out]
                show (if lk = 2 then (if okJ (fixL f ⟨lk, lo, ld, la, lb, lnn, lsym⟩ acc.length) = true then resI f (acc ++ [fixL f ⟨lk, lo, ld, la, lb, lnn, lsym⟩ acc.length]) (ls.drop (k + 1)) else none) else resI f acc (ls.drop (k + 1))) = _
                rw [if_pos HK2.out, HFX.out, HOK.out]
                rfl
              rw [hz]
              exact ⟨rfl, HR4.out.below⟩
          · have b28 : (lo == 28) = false := by simp [h28]
            clear h28
            go_upto_region 10 with fail
            have HOK : Hid (okJ ⟨lk, lo, ld, la, lb, lnn, lsym⟩ = true) := Lib.hid (by unfold okJ; dsimp only; rw [b28]; rfl)
            obtain ⟨A', c', w7, hrun, hc7, hR7⟩ := HR4.out.drew.push (by have := HAL.out; omega) lk lo ld la lb lnn lsym
            have hc7' : Chg (blk A) W4 w7 := ((Chg.refl (blk A) W4).drew).trans hc7
            have HRUN := Lib.hid hrun
            have hbxlt := (Array.getElem?_eq_some_iff.1 HN4.out).1
            have HB7 : Hid (w7.heap[bx]? = some (.cells #[.int .i64 lk, .int .i64 lo, .int .i64 ld, .int .i64 la, .int .i64 lb, .int .i32 lnn, .string lsym] 39 (0, 0))) := Lib.hid ((hc7'.same bx hbxlt HFAR.out.2.2.1).trans HN4.out)
            have HB8 : Hid ((w7.setCell ⟨m, 0, none⟩ (.slice A' (acc.length + 1) c')).heap[bx]? = some (.cells #[.int .i64 lk, .int .i64 lo, .int .i64 ld, .int .i64 la, .int .i64 lb, .int .i32 lnn, .string lsym] 39 (0, 0))) := Lib.hid ((setCell_off _ _ _ _ _ HFAR.out.1).trans HB7.out)
            have HBA : Hid ((W4.alloc (.cells #[.int .i64 lk, .int .i64 lo, .int .i64 ld, .int .i64 la, .int .i64 lb, .int .i32 lnn, .string lsym] 39)).drew.heap[bx]? = some (.cells #[.int .i64 lk, .int .i64 lo, .int .i64 ld, .int .i64 la, .int .i64 lb, .int .i32 lnn, .string lsym] 39 (0, 0))) := Lib.hid ((((Below.refl W4.heap.size W4).alloc (Nat.le_refl _) _).block bx hbxlt).trans HN4.out)
            have HB0 : Hid (W4.drew.heap[bx]? = some (.cells #[.int .i64 lk, .int .i64 lo, .int .i64 ld, .int .i64 la, .int .i64 lb, .int .i32 lnn, .string lsym] 39 (0, 0))) := Lib.hid HN4.out
            obtain ⟨m0, m1, m2, mf⟩ := HR4.out.im.cells
            have a0 : (W4.alloc (.cells #[.int .i64 lk, .int .i64 lo, .int .i64 ld, .int .i64 la, .int .i64 lb, .int .i32 lnn, .string lsym] 39)).drew.cell? ⟨m, 0, none⟩ = some (.slice A acc.length c) := Chg.readR ((Chg.refl [] W4).alloc _) m 0 (by simp) m0
            have hmA : m ∉ blk A := fun hk => (HR4.out.bl _ hk).2.1 rfl
            have q0 : w7.cell? ⟨m, 0, none⟩ = some (.slice A acc.length c) := Chg.readR hc7' m 0 hmA m0
            have g0 : w7.frozen? ⟨m, 0, none⟩ = false := by
              rw [World.frozen?_of_block (w := W4) (a := ⟨m, 0, none⟩) (hc7'.same m (World.block_lt_of_cell? W4 _ m0) hmA)]
              exact mf 0
            have HR7 := Lib.hid hR7
            clear hrun hc7 hc7' hR7 hbxlt m1 m2 mf hmA
            refine wp_region_held_drew (S := fun V => V.heap[bx]? = some (.cells #[.int .i64 lk, .int .i64 lo, .int .i64 ld, .int .i64 la, .int .i64 lb, .int .i32 lnn, .string lsym] 39 (0, 0))) (by kernel_rfl) HB0.out (fun _ => ?_)
            refine takeH 0 33 (v := (.pointer (some ⟨m, 0, none⟩))) rfl rfl (by kernel_rfl) (by kernel_rfl) (by kernel_rfl) (fun _ _ _ h => h) (by rfl) ?_ HB0.out ?_
            · intro w hSw
              obtain ⟨y0, y1, y2, y3, y4, y5, y6, yf⟩ := box7 hSw
              go_simp
            try simp only [Act.put, List.setIfInBounds_toArray, List.set_cons_zero, List.set_cons_succ]
            refine takeH 1 34 (v := (.pointer (some ⟨m, 0, none⟩))) rfl rfl (by kernel_rfl) (by kernel_rfl) (by kernel_rfl) (fun _ _ _ h => h) (by rfl) ?_ HB0.out ?_
            · intro w hSw
              obtain ⟨y0, y1, y2, y3, y4, y5, y6, yf⟩ := box7 hSw
              go_simp
            try simp only [Act.put, List.setIfInBounds_toArray, List.set_cons_zero, List.set_cons_succ]
            refine takeH 2 35 (v := (.pointer (some ⟨m, 0, none⟩))) rfl rfl (by kernel_rfl) (by kernel_rfl) (by kernel_rfl) (fun _ _ _ h => h) (by rfl) ?_ HB0.out ?_
            · intro w hSw
              obtain ⟨y0, y1, y2, y3, y4, y5, y6, yf⟩ := box7 hSw
              go_simp
            try simp only [Act.put, List.setIfInBounds_toArray, List.set_cons_zero, List.set_cons_succ]
            refine takeH 3 36 (v := (.pointer (some ⟨m, 0, none⟩))) rfl rfl (by kernel_rfl) (by kernel_rfl) (by kernel_rfl) (fun _ _ _ h => h) (by rfl) ?_ HB0.out ?_
            · intro w hSw
              obtain ⟨y0, y1, y2, y3, y4, y5, y6, yf⟩ := box7 hSw
              go_simp
            try simp only [Act.put, List.setIfInBounds_toArray, List.set_cons_zero, List.set_cons_succ]
            refine takeH 5 38 (v := (.agg #[.int .i64 lk, .int .i64 lo, .int .i64 ld, .int .i64 la, .int .i64 lb, .int .i32 lnn, .string lsym])) rfl rfl (by kernel_rfl) (by kernel_rfl) (by kernel_rfl) (fun _ _ _ h => h) (by rfl) ?_ HB0.out ?_
            · intro w hSw
              obtain ⟨y0, y1, y2, y3, y4, y5, y6, yf⟩ := box7 hSw
              go_simp
            try simp only [Act.put, List.setIfInBounds_toArray, List.set_cons_zero, List.set_cons_succ]
            refine wpAnyH_ready (rs := [4, 6]) (by kernel_rfl) (by simp) ?_
            refine AllReadyH.cons rfl (fun K hK => ?_) (AllReadyH.cons rfl (fun K hK => ?_) AllReadyH.nil)
            · go_simp
              refine hK.out _ _ HB0.out (fun _ => ?_)
              clear hK K
              try simp only [Act.put, List.setIfInBounds_toArray, List.set_cons_zero, List.set_cons_succ]
              refine wpAnyH_ready (rs := [6]) (by kernel_rfl) (by simp) ?_
              refine AllReadyH.cons rfl (fun K hK => ?_) AllReadyH.nil
              go_simp
              refine hK.out _ _ HBA.out (fun _ => ?_)
              clear hK K
              try simp only [Act.put, List.setIfInBounds_toArray, List.set_cons_zero, List.set_cons_succ]
              refine wpAnyH_ready (rs := [7]) (by kernel_rfl) (by simp) ?_
              refine appendT_ready rfl (by kernel_rfl) _ _ _ _ rfl _ _ rfl rfl _ _ HRUN.out HB7.out ?_
              try simp only [Act.put, List.setIfInBounds_toArray, List.set_cons_zero, List.set_cons_succ]
              refine takeH 8 41 (v := (.pointer (some ⟨m, 0, none⟩))) rfl rfl (by kernel_rfl) (by kernel_rfl) (by kernel_rfl) (fun _ _ _ h => h) (by rfl) ?_ HB7.out ?_
              · intro w hSw
                obtain ⟨y0, y1, y2, y3, y4, y5, y6, yf⟩ := box7 hSw
                go_simp
              try simp only [Act.put, List.setIfInBounds_toArray, List.set_cons_zero, List.set_cons_succ]
              refine takeH 9 42 (v := (.pointer (some ⟨m, 0, none⟩))) rfl rfl (by kernel_rfl) (by kernel_rfl) (by kernel_rfl) (fun _ _ _ h => h) (by rfl) ?_ HB7.out ?_
              · intro w hSw
                obtain ⟨y0, y1, y2, y3, y4, y5, y6, yf⟩ := box7 hSw
                go_simp
              try simp only [Act.put, List.setIfInBounds_toArray, List.set_cons_zero, List.set_cons_succ]
              refine wpAnyH_ready (rs := [10]) (by kernel_rfl) (by simp) ?_
              refine AllReadyH.cons rfl (fun K hK => ?_) AllReadyH.nil
              go_simp
              refine hK.out _ _ HB8.out (fun _ => ?_)
              clear hK K
              try simp only [Act.put, List.setIfInBounds_toArray, List.set_cons_zero, List.set_cons_succ]
              refine wpAnyH_done (by kernel_rfl) ?_ _
              go_wp2_with fail
              go_roundw
              case rel => exact ⟨k + 1, by omega, by go_num, Lib.hid ⟨acc ++ [⟨lk, lo, ld, la, lb, lnn, lsym⟩], A', c', by have := HAL.out; simp; omega, by
                rw [HRES.out]
                show (if lk = 2 then (if okJ (fixL f ⟨lk, lo, ld, la, lb, lnn, lsym⟩ acc.length) = true then resI f (acc ++ [fixL f ⟨lk, lo, ld, la, lb, lnn, lsym⟩ acc.length]) (ls.drop (k + 1)) else none) else resI f acc (ls.drop (k + 1))) = _
                rw [if_pos HK2.out, HFX.out, if_pos HOK.out], HR7.out⟩⟩
              case measure => simp [intOf] <;> omega
            · go_simp
              refine hK.out _ _ HBA.out (fun _ => ?_)
              clear hK K
              try simp only [Act.put, List.setIfInBounds_toArray, List.set_cons_zero, List.set_cons_succ]
              refine wpAnyH_ready (rs := [4]) (by kernel_rfl) (by simp) ?_
              refine AllReadyH.cons rfl (fun K hK => ?_) AllReadyH.nil
              go_simp
              refine hK.out _ _ HBA.out (fun _ => ?_)
              clear hK K
              try simp only [Act.put, List.setIfInBounds_toArray, List.set_cons_zero, List.set_cons_succ]
              refine wpAnyH_ready (rs := [7]) (by kernel_rfl) (by simp) ?_
              refine appendT_ready rfl (by kernel_rfl) _ _ _ _ rfl _ _ rfl rfl _ _ HRUN.out HB7.out ?_
              try simp only [Act.put, List.setIfInBounds_toArray, List.set_cons_zero, List.set_cons_succ]
              refine takeH 8 41 (v := (.pointer (some ⟨m, 0, none⟩))) rfl rfl (by kernel_rfl) (by kernel_rfl) (by kernel_rfl) (fun _ _ _ h => h) (by rfl) ?_ HB7.out ?_
              · intro w hSw
                obtain ⟨y0, y1, y2, y3, y4, y5, y6, yf⟩ := box7 hSw
                go_simp
              try simp only [Act.put, List.setIfInBounds_toArray, List.set_cons_zero, List.set_cons_succ]
              refine takeH 9 42 (v := (.pointer (some ⟨m, 0, none⟩))) rfl rfl (by kernel_rfl) (by kernel_rfl) (by kernel_rfl) (fun _ _ _ h => h) (by rfl) ?_ HB7.out ?_
              · intro w hSw
                obtain ⟨y0, y1, y2, y3, y4, y5, y6, yf⟩ := box7 hSw
                go_simp
              try simp only [Act.put, List.setIfInBounds_toArray, List.set_cons_zero, List.set_cons_succ]
              refine wpAnyH_ready (rs := [10]) (by kernel_rfl) (by simp) ?_
              refine AllReadyH.cons rfl (fun K hK => ?_) AllReadyH.nil
              go_simp
              refine hK.out _ _ HB8.out (fun _ => ?_)
              clear hK K
              try simp only [Act.put, List.setIfInBounds_toArray, List.set_cons_zero, List.set_cons_succ]
              refine wpAnyH_done (by kernel_rfl) ?_ _
              go_wp2_with fail
              go_roundw
              case rel => exact ⟨k + 1, by omega, by go_num, Lib.hid ⟨acc ++ [⟨lk, lo, ld, la, lb, lnn, lsym⟩], A', c', by have := HAL.out; simp; omega, by
                rw [HRES.out]
                show (if lk = 2 then (if okJ (fixL f ⟨lk, lo, ld, la, lb, lnn, lsym⟩ acc.length) = true then resI f (acc ++ [fixL f ⟨lk, lo, ld, la, lb, lnn, lsym⟩ acc.length]) (ls.drop (k + 1)) else none) else resI f acc (ls.drop (k + 1))) = _
                rw [if_pos HK2.out, HFX.out, if_pos HOK.out], HR7.out⟩⟩
              case measure => simp [intOf] <;> omega
        | false =>
          have e1 : lsym.toList.isEmpty = false := by rw [ba_toList]; exact hne
          have e2 : ¬ lsym.toList = [] := by rw [ba_toList]; simpa [noS] using hne
          obtain ⟨nv, hnv⟩ : ∃ nv, numI f ⟨lk, lo, ld, la, lb, lnn, lsym⟩ acc.length = nv := ⟨_, rfl⟩
          have HFX : Hid (fixL f ⟨lk, lo, ld, la, lb, lnn, lsym⟩ acc.length = ⟨lk, lo, ld, la, lb, nv, ⟨#[]⟩⟩) := Lib.hid (by unfold fixL; rw [hne, ← hnv]; rfl)
          have hnvb : -2147483648 ≤ nv ∧ nv ≤ 2147483647 := by
            rw [← hnv]
            unfold numI
            split
            · have := split_hi ((f lsym).getD 0 - splitLo ((f lsym).getD 0)); unfold splitHi; dsimp only; omega
            · split
              · have := split_lo ((f lsym).getD 0); unfold splitLo; dsimp only; omega
              · exact wrap_rng _
          have HNB := Lib.hid (number_any W4 m M A acc.length c n words f HR4.out.im HR4.out.sym (by have := HAL.out; omega) lk lo ld la lb lnn lsym hsz)
          rw [hnv] at HNB
          have HK2 := Lib.hid hk2
          obtain ⟨nn1, nn2⟩ := hnvb
          clear hne hk2 hnv hnn
          go_upto_region 7 with (go_at_call 53; (with_reducible refine HNB.out.mono ?_); rintro e w5 ⟨rfl, hb5⟩; have hn5 := (hb5.block bx (Array.getElem?_eq_some_iff.1 HN4.out).1).trans HN4.out; have HN5 := Lib.hid hn5; have HR5 := Lib.hid (HR4.out.grow hb5); obtain ⟨v0, v1, v2, v3, v4, v5, v6, vf⟩ := box7 hn5; clear hb5 hn5)
          obtain ⟨W6, hW6⟩ : ∃ W6, w5.setCell ⟨bx, 5, none⟩ (.int .i32 nv) = W6 := ⟨_, rfl⟩
          obtain ⟨W7, hW7⟩ : ∃ W7, W6.setCell ⟨bx, 6, none⟩ (.string ⟨#[]⟩) = W7 := ⟨_, rfl⟩
          have hn6 : W6.heap[bx]? = some (.cells #[.int .i64 lk, .int .i64 lo, .int .i64 ld, .int .i64 la, .int .i64 lb, .int .i32 nv, .string lsym] 39 (0, 0)) := by rw [← hW6, heap_setCell_same w5 bx 5 _ _ _ HN5.out]; rfl
          have hn7 : W7.heap[bx]? = some (.cells #[.int .i64 lk, .int .i64 lo, .int .i64 ld, .int .i64 la, .int .i64 lb, .int .i32 nv, .string ⟨#[]⟩] 39 (0, 0)) := by rw [← hW7, heap_setCell_same W6 bx 6 _ _ _ hn6]; rfl
          have hc7 : Chg [bx] w5 W7 := by rw [← hW7, ← hW6]; exact ((Chg.refl [bx] w5).setCell bx 5 _ (.inl (by simp))).setCell bx 6 _ (.inl (by simp))
          have HN7 := Lib.hid hn7
          have HR7q := Lib.hid (HR5.out.far hc7 HFAR.out.2.2.2 HFAR.out.1 HFAR.out.2.1 HFAR.out.2.2.1)
          obtain ⟨p0, p1, p2, p3, p4, p5, p6, pf⟩ := box7 hn6
          obtain ⟨t0, t1, t2, t3, t4, t5, t6, tf⟩ := box7 hn7
          clear hn6 hn7 hc7
          go_upto_region 8 with fail
          clear hW6 hW7 v0 v1 v2 v3 v4 v5 v6 vf p0 p1 p2 p3 p4 p5 p6 pf u0 u1 u2 u3 u4 u5 u6 uf
          by_cases h28 : lo = 28
          · have b28 : (lo == 28) = true := by simp [h28]
            have HFT := Lib.hid (fits_21 (nv) (by omega) (by omega))
            by_cases hr1 : -1048576 ≤ nv ∧ nv < 1048576
            · have hfb : (decide (-1048576 ≤ nv) && decide (nv < 1048576)) = true := by simp [hr1]
              rw [hfb] at HFT
              clear h28 hr1
              go_upto_region 10 with (go_at_call 54; (with_reducible refine (HFT.out _).mono ?_); rintro e w' ⟨rfl, rfl⟩)
              have HOK : Hid (okJ ⟨lk, lo, ld, la, lb, nv, ⟨#[]⟩⟩ = true) := Lib.hid (by unfold okJ; dsimp only; rw [hfb]; simp)
              obtain ⟨A', c', w7, hrun, hc7, hR7⟩ := HR7q.out.drew.push (by have := HAL.out; omega) lk lo ld la lb nv ⟨#[]⟩
              have hc7' : Chg (blk A) W7 w7 := ((Chg.refl (blk A) W7).drew).trans hc7
              have HRUN := Lib.hid hrun
              have hbxlt := (Array.getElem?_eq_some_iff.1 HN7.out).1
              have HB7 : Hid (w7.heap[bx]? = some (.cells #[.int .i64 lk, .int .i64 lo, .int .i64 ld, .int .i64 la, .int .i64 lb, .int .i32 nv, .string ⟨#[]⟩] 39 (0, 0))) := Lib.hid ((hc7'.same bx hbxlt HFAR.out.2.2.1).trans HN7.out)
              have HB8 : Hid ((w7.setCell ⟨m, 0, none⟩ (.slice A' (acc.length + 1) c')).heap[bx]? = some (.cells #[.int .i64 lk, .int .i64 lo, .int .i64 ld, .int .i64 la, .int .i64 lb, .int .i32 nv, .string ⟨#[]⟩] 39 (0, 0))) := Lib.hid ((setCell_off _ _ _ _ _ HFAR.out.1).trans HB7.out)
              have HBA : Hid ((W7.alloc (.cells #[.int .i64 lk, .int .i64 lo, .int .i64 ld, .int .i64 la, .int .i64 lb, .int .i32 nv, .string ⟨#[]⟩] 39)).drew.heap[bx]? = some (.cells #[.int .i64 lk, .int .i64 lo, .int .i64 ld, .int .i64 la, .int .i64 lb, .int .i32 nv, .string ⟨#[]⟩] 39 (0, 0))) := Lib.hid ((((Below.refl W7.heap.size W7).alloc (Nat.le_refl _) _).block bx hbxlt).trans HN7.out)
              have HB0 : Hid (W7.drew.heap[bx]? = some (.cells #[.int .i64 lk, .int .i64 lo, .int .i64 ld, .int .i64 la, .int .i64 lb, .int .i32 nv, .string ⟨#[]⟩] 39 (0, 0))) := Lib.hid HN7.out
              obtain ⟨m0, m1, m2, mf⟩ := HR7q.out.im.cells
              have a0 : (W7.alloc (.cells #[.int .i64 lk, .int .i64 lo, .int .i64 ld, .int .i64 la, .int .i64 lb, .int .i32 nv, .string ⟨#[]⟩] 39)).drew.cell? ⟨m, 0, none⟩ = some (.slice A acc.length c) := Chg.readR ((Chg.refl [] W7).alloc _) m 0 (by simp) m0
              have hmA : m ∉ blk A := fun hk => (HR7q.out.bl _ hk).2.1 rfl
              have q0 : w7.cell? ⟨m, 0, none⟩ = some (.slice A acc.length c) := Chg.readR hc7' m 0 hmA m0
              have g0 : w7.frozen? ⟨m, 0, none⟩ = false := by
                rw [World.frozen?_of_block (w := W7) (a := ⟨m, 0, none⟩) (hc7'.same m (World.block_lt_of_cell? W7 _ m0) hmA)]
                exact mf 0
              have HR7 := Lib.hid hR7
              clear hrun hc7 hc7' hR7 hbxlt m1 m2 mf hmA
              refine wp_region_held_drew (S := fun V => V.heap[bx]? = some (.cells #[.int .i64 lk, .int .i64 lo, .int .i64 ld, .int .i64 la, .int .i64 lb, .int .i32 nv, .string ⟨#[]⟩] 39 (0, 0))) (by kernel_rfl) HB0.out (fun _ => ?_)
              refine takeH 0 33 (v := (.pointer (some ⟨m, 0, none⟩))) rfl rfl (by kernel_rfl) (by kernel_rfl) (by kernel_rfl) (fun _ _ _ h => h) (by rfl) ?_ HB0.out ?_
              · intro w hSw
                obtain ⟨y0, y1, y2, y3, y4, y5, y6, yf⟩ := box7 hSw
                go_simp
              try simp only [Act.put, List.setIfInBounds_toArray, List.set_cons_zero, List.set_cons_succ]
              refine takeH 1 34 (v := (.pointer (some ⟨m, 0, none⟩))) rfl rfl (by kernel_rfl) (by kernel_rfl) (by kernel_rfl) (fun _ _ _ h => h) (by rfl) ?_ HB0.out ?_
              · intro w hSw
                obtain ⟨y0, y1, y2, y3, y4, y5, y6, yf⟩ := box7 hSw
                go_simp
              try simp only [Act.put, List.setIfInBounds_toArray, List.set_cons_zero, List.set_cons_succ]
              refine takeH 2 35 (v := (.pointer (some ⟨m, 0, none⟩))) rfl rfl (by kernel_rfl) (by kernel_rfl) (by kernel_rfl) (fun _ _ _ h => h) (by rfl) ?_ HB0.out ?_
              · intro w hSw
                obtain ⟨y0, y1, y2, y3, y4, y5, y6, yf⟩ := box7 hSw
                go_simp
              try simp only [Act.put, List.setIfInBounds_toArray, List.set_cons_zero, List.set_cons_succ]
              refine takeH 3 36 (v := (.pointer (some ⟨m, 0, none⟩))) rfl rfl (by kernel_rfl) (by kernel_rfl) (by kernel_rfl) (fun _ _ _ h => h) (by rfl) ?_ HB0.out ?_
              · intro w hSw
                obtain ⟨y0, y1, y2, y3, y4, y5, y6, yf⟩ := box7 hSw
                go_simp
              try simp only [Act.put, List.setIfInBounds_toArray, List.set_cons_zero, List.set_cons_succ]
              refine takeH 5 38 (v := (.agg #[.int .i64 lk, .int .i64 lo, .int .i64 ld, .int .i64 la, .int .i64 lb, .int .i32 nv, .string ⟨#[]⟩])) rfl rfl (by kernel_rfl) (by kernel_rfl) (by kernel_rfl) (fun _ _ _ h => h) (by rfl) ?_ HB0.out ?_
              · intro w hSw
                obtain ⟨y0, y1, y2, y3, y4, y5, y6, yf⟩ := box7 hSw
                go_simp
              try simp only [Act.put, List.setIfInBounds_toArray, List.set_cons_zero, List.set_cons_succ]
              refine wpAnyH_ready (rs := [4, 6]) (by kernel_rfl) (by simp) ?_
              refine AllReadyH.cons rfl (fun K hK => ?_) (AllReadyH.cons rfl (fun K hK => ?_) AllReadyH.nil)
              · go_simp
                refine hK.out _ _ HB0.out (fun _ => ?_)
                clear hK K
                try simp only [Act.put, List.setIfInBounds_toArray, List.set_cons_zero, List.set_cons_succ]
                refine wpAnyH_ready (rs := [6]) (by kernel_rfl) (by simp) ?_
                refine AllReadyH.cons rfl (fun K hK => ?_) AllReadyH.nil
                go_simp
                refine hK.out _ _ HBA.out (fun _ => ?_)
                clear hK K
                try simp only [Act.put, List.setIfInBounds_toArray, List.set_cons_zero, List.set_cons_succ]
                refine wpAnyH_ready (rs := [7]) (by kernel_rfl) (by simp) ?_
                refine appendT_ready rfl (by kernel_rfl) _ _ _ _ rfl _ _ rfl rfl _ _ HRUN.out HB7.out ?_
                try simp only [Act.put, List.setIfInBounds_toArray, List.set_cons_zero, List.set_cons_succ]
                refine takeH 8 41 (v := (.pointer (some ⟨m, 0, none⟩))) rfl rfl (by kernel_rfl) (by kernel_rfl) (by kernel_rfl) (fun _ _ _ h => h) (by rfl) ?_ HB7.out ?_
                · intro w hSw
                  obtain ⟨y0, y1, y2, y3, y4, y5, y6, yf⟩ := box7 hSw
                  go_simp
                try simp only [Act.put, List.setIfInBounds_toArray, List.set_cons_zero, List.set_cons_succ]
                refine takeH 9 42 (v := (.pointer (some ⟨m, 0, none⟩))) rfl rfl (by kernel_rfl) (by kernel_rfl) (by kernel_rfl) (fun _ _ _ h => h) (by rfl) ?_ HB7.out ?_
                · intro w hSw
                  obtain ⟨y0, y1, y2, y3, y4, y5, y6, yf⟩ := box7 hSw
                  go_simp
                try simp only [Act.put, List.setIfInBounds_toArray, List.set_cons_zero, List.set_cons_succ]
                refine wpAnyH_ready (rs := [10]) (by kernel_rfl) (by simp) ?_
                refine AllReadyH.cons rfl (fun K hK => ?_) AllReadyH.nil
                go_simp
                refine hK.out _ _ HB8.out (fun _ => ?_)
                clear hK K
                try simp only [Act.put, List.setIfInBounds_toArray, List.set_cons_zero, List.set_cons_succ]
                refine wpAnyH_done (by kernel_rfl) ?_ _
                go_wp2_with fail
                go_roundw
                case rel => exact ⟨k + 1, by omega, by go_num, Lib.hid ⟨acc ++ [⟨lk, lo, ld, la, lb, nv, ⟨#[]⟩⟩], A', c', by have := HAL.out; simp; omega, by
                  rw [HRES.out]
                  show (if lk = 2 then (if okJ (fixL f ⟨lk, lo, ld, la, lb, lnn, lsym⟩ acc.length) = true then resI f (acc ++ [fixL f ⟨lk, lo, ld, la, lb, lnn, lsym⟩ acc.length]) (ls.drop (k + 1)) else none) else resI f acc (ls.drop (k + 1))) = _
                  rw [if_pos HK2.out, HFX.out, if_pos HOK.out], HR7.out⟩⟩
                case measure => simp [intOf] <;> omega
              · go_simp
                refine hK.out _ _ HBA.out (fun _ => ?_)
                clear hK K
                try simp only [Act.put, List.setIfInBounds_toArray, List.set_cons_zero, List.set_cons_succ]
                refine wpAnyH_ready (rs := [4]) (by kernel_rfl) (by simp) ?_
                refine AllReadyH.cons rfl (fun K hK => ?_) AllReadyH.nil
                go_simp
                refine hK.out _ _ HBA.out (fun _ => ?_)
                clear hK K
                try simp only [Act.put, List.setIfInBounds_toArray, List.set_cons_zero, List.set_cons_succ]
                refine wpAnyH_ready (rs := [7]) (by kernel_rfl) (by simp) ?_
                refine appendT_ready rfl (by kernel_rfl) _ _ _ _ rfl _ _ rfl rfl _ _ HRUN.out HB7.out ?_
                try simp only [Act.put, List.setIfInBounds_toArray, List.set_cons_zero, List.set_cons_succ]
                refine takeH 8 41 (v := (.pointer (some ⟨m, 0, none⟩))) rfl rfl (by kernel_rfl) (by kernel_rfl) (by kernel_rfl) (fun _ _ _ h => h) (by rfl) ?_ HB7.out ?_
                · intro w hSw
                  obtain ⟨y0, y1, y2, y3, y4, y5, y6, yf⟩ := box7 hSw
                  go_simp
                try simp only [Act.put, List.setIfInBounds_toArray, List.set_cons_zero, List.set_cons_succ]
                refine takeH 9 42 (v := (.pointer (some ⟨m, 0, none⟩))) rfl rfl (by kernel_rfl) (by kernel_rfl) (by kernel_rfl) (fun _ _ _ h => h) (by rfl) ?_ HB7.out ?_
                · intro w hSw
                  obtain ⟨y0, y1, y2, y3, y4, y5, y6, yf⟩ := box7 hSw
                  go_simp
                try simp only [Act.put, List.setIfInBounds_toArray, List.set_cons_zero, List.set_cons_succ]
                refine wpAnyH_ready (rs := [10]) (by kernel_rfl) (by simp) ?_
                refine AllReadyH.cons rfl (fun K hK => ?_) AllReadyH.nil
                go_simp
                refine hK.out _ _ HB8.out (fun _ => ?_)
                clear hK K
                try simp only [Act.put, List.setIfInBounds_toArray, List.set_cons_zero, List.set_cons_succ]
                refine wpAnyH_done (by kernel_rfl) ?_ _
                go_wp2_with fail
                go_roundw
                case rel => exact ⟨k + 1, by omega, by go_num, Lib.hid ⟨acc ++ [⟨lk, lo, ld, la, lb, nv, ⟨#[]⟩⟩], A', c', by have := HAL.out; simp; omega, by
                  rw [HRES.out]
                  show (if lk = 2 then (if okJ (fixL f ⟨lk, lo, ld, la, lb, lnn, lsym⟩ acc.length) = true then resI f (acc ++ [fixL f ⟨lk, lo, ld, la, lb, lnn, lsym⟩ acc.length]) (ls.drop (k + 1)) else none) else resI f acc (ls.drop (k + 1))) = _
                  rw [if_pos HK2.out, HFX.out, if_pos HOK.out], HR7.out⟩⟩
                case measure => simp [intOf] <;> omega
            · have hfb : (decide (-1048576 ≤ nv) && decide (nv < 1048576)) = false := by simpa using hr1
              rw [hfb] at HFT
              have HOK : Hid (okJ ⟨lk, lo, ld, la, lb, nv, ⟨#[]⟩⟩ = false) := Lib.hid (by unfold okJ; dsimp only; rw [hfb, b28]; rfl)
              clear h28 hr1
              go_wp2_with (go_at_call 54; (with_reducible refine (HFT.out _).mono ?_); rintro e w' ⟨rfl, rfl⟩)
              go_ret
              show ResOut w0 m M words n f (resI f [] ls) _ _
              have hz : resI f [] ls = none := by
                rw [HRES.out]
                show (if lk = 2 then (if okJ (fixL f ⟨lk, lo, ld, la, lb, lnn, lsym⟩ acc.length) = true then resI f (acc ++ [fixL f ⟨lk, lo, ld, la, lb, lnn, lsym⟩ acc.length]) (ls.drop (k + 1)) else none) else resI f acc (ls.drop (k + 1))) = _
                rw [if_pos HK2.out, HFX.out, HOK.out]
                rfl
              rw [hz]
              exact ⟨rfl, HR7q.out.below⟩
          · have b28 : (lo == 28) = false := by simp [h28]
            clear h28
            go_upto_region 10 with fail
            have HOK : Hid (okJ ⟨lk, lo, ld, la, lb, nv, ⟨#[]⟩⟩ = true) := Lib.hid (by unfold okJ; dsimp only; rw [b28]; rfl)
            obtain ⟨A', c', w7, hrun, hc7, hR7⟩ := HR7q.out.drew.push (by have := HAL.out; omega) lk lo ld la lb nv ⟨#[]⟩
            have hc7' : Chg (blk A) W7 w7 := ((Chg.refl (blk A) W7).drew).trans hc7
            have HRUN := Lib.hid hrun
            have hbxlt := (Array.getElem?_eq_some_iff.1 HN7.out).1
            have HB7 : Hid (w7.heap[bx]? = some (.cells #[.int .i64 lk, .int .i64 lo, .int .i64 ld, .int .i64 la, .int .i64 lb, .int .i32 nv, .string ⟨#[]⟩] 39 (0, 0))) := Lib.hid ((hc7'.same bx hbxlt HFAR.out.2.2.1).trans HN7.out)
            have HB8 : Hid ((w7.setCell ⟨m, 0, none⟩ (.slice A' (acc.length + 1) c')).heap[bx]? = some (.cells #[.int .i64 lk, .int .i64 lo, .int .i64 ld, .int .i64 la, .int .i64 lb, .int .i32 nv, .string ⟨#[]⟩] 39 (0, 0))) := Lib.hid ((setCell_off _ _ _ _ _ HFAR.out.1).trans HB7.out)
            have HBA : Hid ((W7.alloc (.cells #[.int .i64 lk, .int .i64 lo, .int .i64 ld, .int .i64 la, .int .i64 lb, .int .i32 nv, .string ⟨#[]⟩] 39)).drew.heap[bx]? = some (.cells #[.int .i64 lk, .int .i64 lo, .int .i64 ld, .int .i64 la, .int .i64 lb, .int .i32 nv, .string ⟨#[]⟩] 39 (0, 0))) := Lib.hid ((((Below.refl W7.heap.size W7).alloc (Nat.le_refl _) _).block bx hbxlt).trans HN7.out)
            have HB0 : Hid (W7.drew.heap[bx]? = some (.cells #[.int .i64 lk, .int .i64 lo, .int .i64 ld, .int .i64 la, .int .i64 lb, .int .i32 nv, .string ⟨#[]⟩] 39 (0, 0))) := Lib.hid HN7.out
            obtain ⟨m0, m1, m2, mf⟩ := HR7q.out.im.cells
            have a0 : (W7.alloc (.cells #[.int .i64 lk, .int .i64 lo, .int .i64 ld, .int .i64 la, .int .i64 lb, .int .i32 nv, .string ⟨#[]⟩] 39)).drew.cell? ⟨m, 0, none⟩ = some (.slice A acc.length c) := Chg.readR ((Chg.refl [] W7).alloc _) m 0 (by simp) m0
            have hmA : m ∉ blk A := fun hk => (HR7q.out.bl _ hk).2.1 rfl
            have q0 : w7.cell? ⟨m, 0, none⟩ = some (.slice A acc.length c) := Chg.readR hc7' m 0 hmA m0
            have g0 : w7.frozen? ⟨m, 0, none⟩ = false := by
              rw [World.frozen?_of_block (w := W7) (a := ⟨m, 0, none⟩) (hc7'.same m (World.block_lt_of_cell? W7 _ m0) hmA)]
              exact mf 0
            have HR7 := Lib.hid hR7
            clear hrun hc7 hc7' hR7 hbxlt m1 m2 mf hmA
            refine wp_region_held_drew (S := fun V => V.heap[bx]? = some (.cells #[.int .i64 lk, .int .i64 lo, .int .i64 ld, .int .i64 la, .int .i64 lb, .int .i32 nv, .string ⟨#[]⟩] 39 (0, 0))) (by kernel_rfl) HB0.out (fun _ => ?_)
            refine takeH 0 33 (v := (.pointer (some ⟨m, 0, none⟩))) rfl rfl (by kernel_rfl) (by kernel_rfl) (by kernel_rfl) (fun _ _ _ h => h) (by rfl) ?_ HB0.out ?_
            · intro w hSw
              obtain ⟨y0, y1, y2, y3, y4, y5, y6, yf⟩ := box7 hSw
              go_simp
            try simp only [Act.put, List.setIfInBounds_toArray, List.set_cons_zero, List.set_cons_succ]
            refine takeH 1 34 (v := (.pointer (some ⟨m, 0, none⟩))) rfl rfl (by kernel_rfl) (by kernel_rfl) (by kernel_rfl) (fun _ _ _ h => h) (by rfl) ?_ HB0.out ?_
            · intro w hSw
              obtain ⟨y0, y1, y2, y3, y4, y5, y6, yf⟩ := box7 hSw
              go_simp
            try simp only [Act.put, List.setIfInBounds_toArray, List.set_cons_zero, List.set_cons_succ]
            refine takeH 2 35 (v := (.pointer (some ⟨m, 0, none⟩))) rfl rfl (by kernel_rfl) (by kernel_rfl) (by kernel_rfl) (fun _ _ _ h => h) (by rfl) ?_ HB0.out ?_
            · intro w hSw
              obtain ⟨y0, y1, y2, y3, y4, y5, y6, yf⟩ := box7 hSw
              go_simp
            try simp only [Act.put, List.setIfInBounds_toArray, List.set_cons_zero, List.set_cons_succ]
            refine takeH 3 36 (v := (.pointer (some ⟨m, 0, none⟩))) rfl rfl (by kernel_rfl) (by kernel_rfl) (by kernel_rfl) (fun _ _ _ h => h) (by rfl) ?_ HB0.out ?_
            · intro w hSw
              obtain ⟨y0, y1, y2, y3, y4, y5, y6, yf⟩ := box7 hSw
              go_simp
            try simp only [Act.put, List.setIfInBounds_toArray, List.set_cons_zero, List.set_cons_succ]
            refine takeH 5 38 (v := (.agg #[.int .i64 lk, .int .i64 lo, .int .i64 ld, .int .i64 la, .int .i64 lb, .int .i32 nv, .string ⟨#[]⟩])) rfl rfl (by kernel_rfl) (by kernel_rfl) (by kernel_rfl) (fun _ _ _ h => h) (by rfl) ?_ HB0.out ?_
            · intro w hSw
              obtain ⟨y0, y1, y2, y3, y4, y5, y6, yf⟩ := box7 hSw
              go_simp
            try simp only [Act.put, List.setIfInBounds_toArray, List.set_cons_zero, List.set_cons_succ]
            refine wpAnyH_ready (rs := [4, 6]) (by kernel_rfl) (by simp) ?_
            refine AllReadyH.cons rfl (fun K hK => ?_) (AllReadyH.cons rfl (fun K hK => ?_) AllReadyH.nil)
            · go_simp
              refine hK.out _ _ HB0.out (fun _ => ?_)
              clear hK K
              try simp only [Act.put, List.setIfInBounds_toArray, List.set_cons_zero, List.set_cons_succ]
              refine wpAnyH_ready (rs := [6]) (by kernel_rfl) (by simp) ?_
              refine AllReadyH.cons rfl (fun K hK => ?_) AllReadyH.nil
              go_simp
              refine hK.out _ _ HBA.out (fun _ => ?_)
              clear hK K
              try simp only [Act.put, List.setIfInBounds_toArray, List.set_cons_zero, List.set_cons_succ]
              refine wpAnyH_ready (rs := [7]) (by kernel_rfl) (by simp) ?_
              refine appendT_ready rfl (by kernel_rfl) _ _ _ _ rfl _ _ rfl rfl _ _ HRUN.out HB7.out ?_
              try simp only [Act.put, List.setIfInBounds_toArray, List.set_cons_zero, List.set_cons_succ]
              refine takeH 8 41 (v := (.pointer (some ⟨m, 0, none⟩))) rfl rfl (by kernel_rfl) (by kernel_rfl) (by kernel_rfl) (fun _ _ _ h => h) (by rfl) ?_ HB7.out ?_
              · intro w hSw
                obtain ⟨y0, y1, y2, y3, y4, y5, y6, yf⟩ := box7 hSw
                go_simp
              try simp only [Act.put, List.setIfInBounds_toArray, List.set_cons_zero, List.set_cons_succ]
              refine takeH 9 42 (v := (.pointer (some ⟨m, 0, none⟩))) rfl rfl (by kernel_rfl) (by kernel_rfl) (by kernel_rfl) (fun _ _ _ h => h) (by rfl) ?_ HB7.out ?_
              · intro w hSw
                obtain ⟨y0, y1, y2, y3, y4, y5, y6, yf⟩ := box7 hSw
                go_simp
              try simp only [Act.put, List.setIfInBounds_toArray, List.set_cons_zero, List.set_cons_succ]
              refine wpAnyH_ready (rs := [10]) (by kernel_rfl) (by simp) ?_
              refine AllReadyH.cons rfl (fun K hK => ?_) AllReadyH.nil
              go_simp
              refine hK.out _ _ HB8.out (fun _ => ?_)
              clear hK K
              try simp only [Act.put, List.setIfInBounds_toArray, List.set_cons_zero, List.set_cons_succ]
              refine wpAnyH_done (by kernel_rfl) ?_ _
              go_wp2_with fail
              go_roundw
              case rel => exact ⟨k + 1, by omega, by go_num, Lib.hid ⟨acc ++ [⟨lk, lo, ld, la, lb, nv, ⟨#[]⟩⟩], A', c', by have := HAL.out; simp; omega, by
                rw [HRES.out]
                show (if lk = 2 then (if okJ (fixL f ⟨lk, lo, ld, la, lb, lnn, lsym⟩ acc.length) = true then resI f (acc ++ [fixL f ⟨lk, lo, ld, la, lb, lnn, lsym⟩ acc.length]) (ls.drop (k + 1)) else none) else resI f acc (ls.drop (k + 1))) = _
                rw [if_pos HK2.out, HFX.out, if_pos HOK.out], HR7.out⟩⟩
              case measure => simp [intOf] <;> omega
            · go_simp
              refine hK.out _ _ HBA.out (fun _ => ?_)
              clear hK K
              try simp only [Act.put, List.setIfInBounds_toArray, List.set_cons_zero, List.set_cons_succ]
              refine wpAnyH_ready (rs := [4]) (by kernel_rfl) (by simp) ?_
              refine AllReadyH.cons rfl (fun K hK => ?_) AllReadyH.nil
              go_simp
              refine hK.out _ _ HBA.out (fun _ => ?_)
              clear hK K
              try simp only [Act.put, List.setIfInBounds_toArray, List.set_cons_zero, List.set_cons_succ]
              refine wpAnyH_ready (rs := [7]) (by kernel_rfl) (by simp) ?_
              refine appendT_ready rfl (by kernel_rfl) _ _ _ _ rfl _ _ rfl rfl _ _ HRUN.out HB7.out ?_
              try simp only [Act.put, List.setIfInBounds_toArray, List.set_cons_zero, List.set_cons_succ]
              refine takeH 8 41 (v := (.pointer (some ⟨m, 0, none⟩))) rfl rfl (by kernel_rfl) (by kernel_rfl) (by kernel_rfl) (fun _ _ _ h => h) (by rfl) ?_ HB7.out ?_
              · intro w hSw
                obtain ⟨y0, y1, y2, y3, y4, y5, y6, yf⟩ := box7 hSw
                go_simp
              try simp only [Act.put, List.setIfInBounds_toArray, List.set_cons_zero, List.set_cons_succ]
              refine takeH 9 42 (v := (.pointer (some ⟨m, 0, none⟩))) rfl rfl (by kernel_rfl) (by kernel_rfl) (by kernel_rfl) (fun _ _ _ h => h) (by rfl) ?_ HB7.out ?_
              · intro w hSw
                obtain ⟨y0, y1, y2, y3, y4, y5, y6, yf⟩ := box7 hSw
                go_simp
              try simp only [Act.put, List.setIfInBounds_toArray, List.set_cons_zero, List.set_cons_succ]
              refine wpAnyH_ready (rs := [10]) (by kernel_rfl) (by simp) ?_
              refine AllReadyH.cons rfl (fun K hK => ?_) AllReadyH.nil
              go_simp
              refine hK.out _ _ HB8.out (fun _ => ?_)
              clear hK K
              try simp only [Act.put, List.setIfInBounds_toArray, List.set_cons_zero, List.set_cons_succ]
              refine wpAnyH_done (by kernel_rfl) ?_ _
              go_wp2_with fail
              go_roundw
              case rel => exact ⟨k + 1, by omega, by go_num, Lib.hid ⟨acc ++ [⟨lk, lo, ld, la, lb, nv, ⟨#[]⟩⟩], A', c', by have := HAL.out; simp; omega, by
                rw [HRES.out]
                show (if lk = 2 then (if okJ (fixL f ⟨lk, lo, ld, la, lb, lnn, lsym⟩ acc.length) = true then resI f (acc ++ [fixL f ⟨lk, lo, ld, la, lb, lnn, lsym⟩ acc.length]) (ls.drop (k + 1)) else none) else resI f acc (ls.drop (k + 1))) = _
                rw [if_pos HK2.out, HFX.out, if_pos HOK.out], HR7.out⟩⟩
              case measure => simp [intOf] <;> omega
      · have b2 : (lk == 2) = false := by simp [hk2]
        have HK2 := Lib.hid hk2
        clear hk2
        go_wp2_with fail
        go_roundw
        case rel => exact ⟨k + 1, by omega, by go_num, Lib.hid ⟨acc, A, c, by have := HAL.out; omega, by
          rw [HRES.out]
          show (if lk = 2 then (if okJ (fixL f ⟨lk, lo, ld, la, lb, lnn, lsym⟩ acc.length) = true then resI f (acc ++ [fixL f ⟨lk, lo, ld, la, lb, lnn, lsym⟩ acc.length]) (ls.drop (k + 1)) else none) else resI f acc (ls.drop (k + 1))) = _
          rw [if_neg HK2.out], HR4.out⟩⟩
        case measure => simp [intOf] <;> omega
    · obtain rfl : ln = k := by omega
      obtain ⟨acc, A, c, hal, hres, hR⟩ := HI.out
      have HRES : Hid (resI f [] ls = some acc) := Lib.hid (by rw [hres, List.drop_eq_nil_of_le (by rw [HN.out]; exact Nat.le_refl _)]; rfl)
      have HRR := Lib.hid hR
      clear HI hres hR
      go_wp2_with fail
      go_ret
      show ResOut w0 m M words n f (resI f [] ls) _ _
      rw [HRES.out]
      exact ⟨rfl, A, c, HRR.out⟩
end Rv
end Go.Proofs.Ytadgemcpahfkoaa
