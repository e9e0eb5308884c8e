/-
  The walk of the law DiskClones.
-/
import Derived.Test.YtbjlikppboggmaaZbv
import Derived.Test.YtbjlikppboggmaaZas
import Derived.Test.YtbjlikppboggmaaZau
import Derived.Test.YtbjlikppboggmaaZbi
import Derived.Test.YtbjlikppboggmaaZbl
import Derived.Test.YtbjlikppboggmaaZaa
namespace Go.Proofs.Ytbjlikppboggmaa
open Go.RowKit Go.Shelf
attribute [local go_sem] Oper.semAt_some
set_option linter.unusedVariables false
set_option linter.unusedSimpArgs false
set_option maxRecDepth 100000
attribute [local instance] keepNo

theorem results_clones (tmps : Array Value) (w : World) (g : Nat) (b : Bool) (hp : tmps.getD 4 undef = .pointer (some ⟨g, 0, none⟩)) (hg : w.cell? ⟨g, 0, none⟩ = some (.bool b)) : (results Try.f6 tmps).run Try.prog w = .ok (.bool b) w := by
  have hp' : tmps[4]?.getD undef = .pointer (some ⟨g, 0, none⟩) := by simpa using hp
  simp [results, Try.results6, hp', asAddr, go_sem, hg]
theorem one_new (w : World) (o : Obj) : (w.alloc o).heap[w.heap.size]? = some o ∧ Below w.heap.size w (w.alloc o) ∧ (w.alloc o).heap.size = w.heap.size + 1 := ⟨heap_alloc_new w o, (Below.refl _ w).alloc (Nat.le_refl _) _, by simp⟩
theorem eqlFn (w : World) (bE : Nat) : (binOp .eql 59 (.func (.func 54) #[] #[.pointer (some ⟨bE, 0, none⟩)]) .nilFunc).run Try.prog w = .ok (.bool false) w := by kernel_rfl
theorem doff_nilB (w : World) : Calls Try.prog 22 #[.pointer none] w fun e w' => e = .returned (.bool true) ∧ Below w.heap.size w w' := (doff_nil w).mono fun e w' h => ⟨h.1, by rw [← h.2]; exact Below.refl _ _⟩
theorem dfull_nilB (w : World) : Calls Try.prog 23 #[.pointer none] w fun e w' => e = .returned (.bool false) ∧ Below w.heap.size w w' := (dfull_nil w).mono fun e w' h => ⟨h.1, by rw [← h.2]; exact Below.refl _ _⟩
theorem dcalls_nilB (w : World) : Calls Try.prog 31 #[.pointer none] w fun e w' => e = .returned (.int .i64 0) ∧ Below w.heap.size w w' := (dcalls_nil w).mono fun e w' h => ⟨h.1, by rw [← h.2]; exact Below.refl _ _⟩
theorem clone_nilB (w : World) : Calls Try.prog 21 #[.pointer none] w fun e w' => e = .returned (.pointer none) ∧ Below w.heap.size w w' := (clone_nil w).mono fun e w' h => ⟨h.1, by rw [← h.2]; exact Below.refl _ _⟩
theorem cellsZ_injC {a b : List Int} (h : cellsZ a = cellsZ b) : a = b := by
  unfold cellsZ at h
  exact (List.map_inj_right (fun x y e => by injection e)).1 h
/-- What stays while the clone goes on: the disk, the other clone, the law's own boxes. -/
@[reducible] def keepC (own own3 : Nat → Nat) (b0 b5 b9 : Nat) (V : World) : Keep := ⟨fun i => if own i ≠ 0 ∨ own3 i ≠ 0 ∨ i = b0 ∨ i = b5 ∨ i = b9 ∨ i + 1 = V.heap.size then V.heap[i]? else none⟩
/-- The clone and the document's disk. -/
def CloneOn (own own3 : Nat → Nat) (b0 b5 b9 : Nat) (V : World) (w0 W : World) (c x : Nat) (r : RD) (C : List OpR) (j : Nat) : Prop := @PlayOn (keepC own own3 b0 b5 b9 V) w0 W c x r C j
theorem clone_on {own own2 own3 ox : Nat → Nat} {w0 w2 w3 V : World} {d x cb b0 b5 b9 : Nat} {r : RD} (hb : @Both keepNo w0 w2 d x own ox r) (hB23 : Below w2.heap.size w2 w3) (h2z : ∀ i, i < w3.heap.size → own2 i = 0) (h2 : IsD V cb own2 r) (hBV : Below w3.heap.size w3 V) (w4 : World) (h24 : ∀ i, w4.heap.size ≤ i → own2 i = 0) (h3z : ∀ i, i < w4.heap.size → own3 i = 0) (hz34 : w3.heap.size ≤ w4.heap.size)
    (q0 : b0 < w0.heap.size) (q5 : w2.heap.size ≤ b5 ∧ b5 < w3.heap.size) (q9 : w4.heap.size ≤ b9) (qV : w4.heap.size < V.heap.size) (hs : r.size ≤ 240) (C : List OpR) : CloneOn own own3 b0 b5 b9 V w0 V cb x r C 0 := by
  have hz := hb.on.size
  have hz2 := hB23.size
  have hzV := hBV.size
  have hBV2 : Below w2.heap.size w2 V := hB23.trans (hBV.mono hz2)
  refine ⟨own2, ox, @Both.mk (keepC own own3 b0 b5 b9 V) w0 V cb x own2 ox r (fun i hi => h2z i (by omega)) hb.x0 (hb.on.trans (hBV2.mono hz)) h2 (hb.isR.below hBV2) (fun i => ?_) hb.named (fun i o hi => ?_), by show r.size ≤ _; omega⟩
  · rcases Nat.lt_or_ge i w2.heap.size with q | q
    · exact .inl (h2z i (by omega))
    · exact .inr (hb.isR.1 i q)
  · have hi' : (if own i ≠ 0 ∨ own3 i ≠ 0 ∨ i = b0 ∨ i = b5 ∨ i = b9 ∨ i + 1 = V.heap.size then V.heap[i]? else none) = some o := hi
    split at hi'
    · rename_i hc
      have hc2 : own2 i = 0 ∧ ox i = 0 := by
        rcases hc with q | q | q | q | q | q
        · have hlt : i < w2.heap.size := by
            rcases Nat.lt_or_ge i w2.heap.size with p | p
            · exact p
            · exact absurd (hb.isD.1 i p) q
          exact ⟨h2z i (by omega), (hb.apart i).resolve_left q⟩
        · have hge : w4.heap.size ≤ i := by
            rcases Nat.lt_or_ge i w4.heap.size with p | p
            · exact absurd (h3z i p) q
            · exact p
          exact ⟨h24 i hge, hb.isR.1 i (by omega)⟩
        · exact ⟨h2z i (by omega), hb.x0 i (by omega)⟩
        · exact ⟨h2z i (by omega), hb.isR.1 i (by omega)⟩
        · exact ⟨h24 i (by omega), hb.isR.1 i (by omega)⟩
        · exact ⟨h24 i (by omega), hb.isR.1 i (by omega)⟩
      exact ⟨hc2.1, hc2.2, hi'⟩
    · cases hi'
section
variable {own own3 : Nat → Nat} {b0 b5 b9 : Nat} {V w0 W W' : World} {c x : Nat} {r : RD} {C : List OpR} {j : Nat}
theorem CloneOn.below (h : CloneOn own own3 b0 b5 b9 V w0 W c x r C j) (hB : Below W.heap.size W W') : CloneOn own own3 b0 b5 b9 V w0 W' c x r C j := @PlayOn.below (keepC own own3 b0 b5 b9 V) w0 W W' c x r C j h hB
theorem CloneOn.on (h : CloneOn own own3 b0 b5 b9 V w0 W c x r C j) : Below w0.heap.size w0 W := @PlayOn.on (keepC own own3 b0 b5 b9 V) w0 W c x r C j h
theorem CloneOn.kept (h : CloneOn own own3 b0 b5 b9 V w0 W c x r C j) (i : Nat) (hi : i < V.heap.size) (hk : own i ≠ 0 ∨ own3 i ≠ 0 ∨ i = b0 ∨ i = b5 ∨ i = b9 ∨ i + 1 = V.heap.size) : W.heap[i]? = V.heap[i]? := by
  obtain ⟨o, ho⟩ : ∃ o, V.heap[i]? = some o := ⟨_, Array.getElem?_eq_getElem hi⟩
  rw [ho]
  exact @PlayOn.kept (keepC own own3 b0 b5 b9 V) w0 W c x r C j h i o (show (if own i ≠ 0 ∨ own3 i ≠ 0 ∨ i = b0 ∨ i = b5 ∨ i = b9 ∨ i + 1 = V.heap.size then V.heap[i]? else none) = some o by rw [if_pos hk]; exact ho)
theorem CloneOn.grows (h : CloneOn own own3 b0 b5 b9 V w0 W c x r C j) (hV : 0 < V.heap.size) : V.heap.size ≤ W.heap.size := by
  have h1 := h.kept (V.heap.size - 1) (by omega) (.inr (.inr (.inr (.inr (.inr (by omega))))))
  have h2 : V.heap[V.heap.size - 1]? = some V.heap[V.heap.size - 1] := Array.getElem?_eq_getElem (by omega)
  rw [h2] at h1
  have := (Array.getElem?_eq_some_iff.1 h1).1
  omega
/-- A disk that stayed. -/
theorem CloneOn.stays (h : CloneOn own own3 b0 b5 b9 V w0 W c x r C j) (hV : 0 < V.heap.size) {e : Nat} {o : Nat → Nat} {q : RD} (hD : IsD V e o q) (ho : ∀ k, o k ≠ 0 → own k ≠ 0 ∨ own3 k ≠ 0) : IsD W e o q :=
  hD.carry (h.grows hV) (fun _ _ => rfl) (fun k hk hne => h.kept k hk ((ho k hne).elim .inl (fun q => .inr (.inl q)))) (fun i hi => hD.1 i (by have := h.grows hV; omega))
theorem CloneOn.go (h : CloneOn own own3 b0 b5 b9 V w0 W c x r C j) (hC : C.length ≤ 60) {o : OpR} (ho : C[j]? = some o) (hi : o.In w0) (hm : o.small = true) :
    Calls Try.prog 10 #[.pointer (some ⟨c, 0, none⟩), .pointer (some ⟨x, 0, none⟩), .agg o.cells.toArray] W fun e w' => e = .returned (.bool true) ∧ CloneOn own own3 b0 b5 b9 V w0 w' c x r C (j + 1) := @PlayOn.go (keepC own own3 b0 b5 b9 V) w0 W c x r C j h hC o ho hi hm
theorem CloneOn.alike (h : CloneOn own own3 b0 b5 b9 V w0 W c x r C j) (hj : j ≤ 1000) :
    Calls Try.prog 11 #[.pointer (some ⟨c, 0, none⟩), .pointer (some ⟨x, 0, none⟩)] W fun e w' => e = .returned (.bool true) ∧ Below W.heap.size W w' := @PlayOn.alike (keepC own own3 b0 b5 b9 V) w0 W c x r C j h hj
end
/-- What all calls that only make memory leave. -/
structure CloK (W : World) (d wb b0 b5 b9 : Nat) (own own3 : Nat → Nat) (r : RD) (V : World) : Prop where
  on : Below W.heap.size W V
  dk : IsD V d own r
  was : IsD V wb own3 r
  c0 : V.heap[b0]? = some (.cells #[.bool false] 4 (0, 0))
  c5 : V.heap[b5]? = some (.cells #[.pointer (some ⟨d, 0, none⟩)] 23 (0, 0))
  c9 : V.heap[b9]? = some (.cells #[.pointer (some ⟨wb, 0, none⟩)] 23 (0, 0))
theorem CloK.below {W : World} {d wb b0 b5 b9 : Nat} {own own3 : Nat → Nat} {r : RD} {V V' : World} (h : CloK W d wb b0 b5 b9 own own3 r V) (hb : Below V.heap.size V V') : CloK W d wb b0 b5 b9 own own3 r V' :=
  ⟨h.on.trans (hb.mono h.on.size), h.dk.below hb, h.was.below hb, (hb.block b0 (lt_of_block h.c0)).trans h.c0, (hb.block b5 (lt_of_block h.c5)).trans h.c5, (hb.block b9 (lt_of_block h.c9)).trans h.c9⟩
/-- While the loop of DiskClones goes over the copies: the disk, that makes a file each time, and all that stays. -/
structure CloI (W w12 : World) (d wb b0 b5 b9 b13 : Nat) (own3 : Nat → Nat) (r : RD) (zf : Value → List Int) (ps : List (ByteArray × Value)) (C : Nat) (ys pre : List (ByteArray × Value)) (Wr : World) : Prop where
  on : Below W.heap.size W Wr
  st : ∃ own' r' M, IsD Wr d own' r' ∧ r'.size ≤ 1000 + 4 * pre.length ∧ (∀ i, i < W.heap.size → own' i = 0) ∧ w12.heap.size + 2 ≤ M ∧ M ≤ Wr.heap.size ∧ (∀ k, w12.heap.size ≤ k → k < M → own' k = 0) ∧ (C < M ∨ ys = []) ∧ ys.length = ps.length ∧
    (∀ (i : Nat) (p : ByteArray × Value), ps[i]? = some p → ∃ (A : Option Addr) (c : Nat), ys[i]? = some (p.1, .slice A (zf p.2).length c) ∧ RowZ Wr A (zf p.2).length (zf p.2) ∧ ∀ k ∈ blk A, w12.heap.size + 2 ≤ k ∧ k < M) ∧
    (∀ k, own3 k ≠ 0 → own' k = 0) ∧ own' b0 = 0 ∧ own' b5 = 0 ∧ own' b9 = 0 ∧ own' b13 = 0
  was : IsD Wr wb own3 r
  c0 : Wr.heap[b0]? = some (.cells #[.bool false] 4 (0, 0))
  c5 : Wr.heap[b5]? = some (.cells #[.pointer (some ⟨d, 0, none⟩)] 23 (0, 0))
  c9 : Wr.heap[b9]? = some (.cells #[.pointer (some ⟨wb, 0, none⟩)] 23 (0, 0))
  c13 : Wr.heap[b13]? = some (.cells #[.int .i64 (pre.length : Int)] 3 (0, 0))
/-- How the law's own boxes lie, and that the clone's blocks are none of the loop's. -/
def CloP (W w12 : World) (b0 b5 b9 b13 : Nat) (own3 : Nat → Nat) : Prop := W.heap.size ≤ b0 ∧ b0 < w12.heap.size ∧ b5 < w12.heap.size ∧ b9 < w12.heap.size ∧ b13 < w12.heap.size ∧ W.heap.size ≤ b13 ∧ W.heap.size ≤ w12.heap.size ∧ b13 ≠ b0 ∧ b13 ≠ b5 ∧ b13 ≠ b9 ∧ own3 b13 = 0 ∧ ∀ i, w12.heap.size ≤ i → own3 i = 0
section
variable {W w12 : World} {d wb b0 b5 b9 b13 : Nat} {own3 : Nat → Nat} {r : RD} {zf : Value → List Int} {ps : List (ByteArray × Value)} {C : Nat} {ys pre : List (ByteArray × Value)}
theorem CloI.steady (P : CloP W w12 b0 b5 b9 b13 own3) : SteadyIt w12.heap.size (CloI W w12 d wb b0 b5 b9 b13 own3 r zf ps C ys pre) := by
  intro V V' h hc
  obtain ⟨p0, p1, p2, p3, p4, p5, p6, p7, p8, p9, p10, p11⟩ := P
  obtain ⟨own', r', M, s1, s2, s3, s4, s5, s6, s7, s8, s9, s10⟩ := h.st
  have hz := hc.size
  have hs : ∀ k, k < V.heap.size → k ≠ w12.heap.size → k ≠ w12.heap.size + 1 → V'.heap[k]? = V.heap[k]? := fun k h1 h2 h3 => hc.same k h1 (by simp only [List.mem_cons, List.not_mem_nil, or_false]; omega)
  refine ⟨h.on.trans (hc.toBelow (fun k hk => by simp only [List.mem_cons, List.not_mem_nil, or_false] at hk; omega) h.on.size), ⟨own', r', M, s1.chg hc (fun k hk => by simp only [List.mem_cons, List.not_mem_nil, or_false] at hk; exact s6 k (by omega) (by omega)), s2, s3, s4, by omega, s6, s7, s8, fun i p hp => ?_, s10⟩, h.was.chg hc (fun k hk => by simp only [List.mem_cons, List.not_mem_nil, or_false] at hk; exact p11 k (by omega)), (hs b0 (lt_of_block h.c0) (by omega) (by omega)).trans h.c0, (hs b5 (lt_of_block h.c5) (by omega) (by omega)).trans h.c5, (hs b9 (lt_of_block h.c9) (by omega) (by omega)).trans h.c9, (hs b13 (lt_of_block h.c13) (by omega) (by omega)).trans h.c13⟩
  obtain ⟨A, c, e1, e2, e3⟩ := s9 i p hp
  exact ⟨A, c, e1, rowZ_same e2 hz (fun k hk => hs k (by have := (e3 k hk).2; omega) (by have := (e3 k hk).1; omega) (by have := (e3 k hk).1; omega)), e3⟩
theorem CloI.step (P : CloP W w12 b0 b5 b9 b13 own3) {Wr : World} (h : CloI W w12 d wb b0 b5 b9 b13 own3 r zf ps C ys pre Wr) (x : ByteArray × Value) (hpre : pre ++ [x] <+: ys) (hpl : pre.length ≤ 1000) (hC : C < Wr.heap.size) (hC2 : w12.heap.size + 2 ≤ C) (nm : ByteArray) (hnm : nm.size ≤ 1000000) : ∀ V, Below Wr.heap.size Wr V →
    Calls Try.prog 16 #[.pointer (some ⟨d, 0, none⟩), .string nm] V fun e w' => (∃ a : Int, e = .returned (.int .i64 a)) ∧ w'.heap[b13]? = some (.cells #[.int .i64 (pre.length : Int)] 3 (0, 0)) ∧
      KeepsIt w12.heap.size C Wr (w'.setCell ⟨b13, 0, none⟩ (.int .i64 ((pre.length : Int) + 1))) ∧ CloI W w12 d wb b0 b5 b9 b13 own3 r zf ps C ys (pre ++ [x]) (w'.setCell ⟨b13, 0, none⟩ (.int .i64 ((pre.length : Int) + 1))) := by
  intro V hV
  obtain ⟨p0, p1, p2, p3, p4, p5, p6, p7, p8, p9, p10, p11⟩ := P
  obtain ⟨own', r', M, s1, s2, s3, s4, s5, s6, s7, s8, s9, s10, t0, t5, t9, t13⟩ := h.st
  have hzV := hV.size
  have hCM : C < M := by
    rcases s7 with q | q
    · exact q
    · rw [q] at hpre
      exact absurd hpre.length_le (by simp)
  refine ((s1.below hV).create (by omega) nm hnm).mono ?_
  rintro e w' ⟨rfl, own'', O, hD⟩
  have hzO := O.1.size
  have hO : ∀ k, k < Wr.heap.size → own' k = 0 → own'' k = 0 ∧ w'.heap[k]? = Wr.heap[k]? := fun k hk h0 => ⟨(O.2.1 k (by omega)).trans h0, (O.2.2 k (by omega) h0).trans (hV.block k hk)⟩
  have q13 := (hO b13 (lt_of_block h.c13) t13).2.trans h.c13
  obtain ⟨w4, hw4⟩ : ∃ w4, w'.setCell ⟨b13, 0, none⟩ (.int .i64 ((pre.length : Int) + 1)) = w4 := ⟨_, rfl⟩
  have hc4 : Chg [b13] w' w4 := by rw [← hw4]; exact (Chg.refl _ w').setCell b13 0 _ (.inl (by simp))
  have hz4 := hc4.size
  have hk : ∀ k, k < Wr.heap.size → own' k = 0 → k ≠ b13 → w4.heap[k]? = Wr.heap[k]? := fun k h1 h2 h3 => (hc4.same k (by omega) (by simp only [List.mem_singleton]; exact h3)).trans (hO k h1 h2).2
  rw [hw4]
  refine ⟨⟨_, rfl⟩, q13, ⟨by omega, hk _ (by omega) (s6 _ (Nat.le_refl _) (by omega)) (by omega), hk _ (by omega) (s6 _ (by omega) (by omega)) (by omega), ?_⟩, ?_⟩
  · exact hk C hC (s6 C (by omega) hCM) (by omega)
  · refine ⟨?_, ⟨own'', _, M, hD.chg hc4 (fun k hk => ?_), ?_, fun i hi => ?_, s4, by omega, fun k h1 h2 => (hO k (by omega) (s6 k h1 h2)).1, s7, s8, fun i p hp => ?_, fun k hk3 => ?_, ?_⟩, ?_, ?_, ?_, ?_, ?_⟩
    · exact (h.on.trans (hV.mono h.on.size)).trans ((O.toBelow s3 (by have := h.on.size; omega)).trans (hc4.toBelow (fun k hk => by rw [List.mem_singleton] at hk; omega) (by have := h.on.size; omega)))
    · rw [List.mem_singleton] at hk
      rw [hk]
      exact (hO b13 (lt_of_block h.c13) t13).1
    · have := size_create (r := r') nm
      rw [List.length_append]
      simp only [List.length_cons, List.length_nil]
      omega
    · exact (hO i (by have := h.on.size; omega) (s3 i hi)).1
    · obtain ⟨A, c, e1, e2, e3⟩ := s9 i p hp
      exact ⟨A, c, e1, rowZ_same e2 (by omega) (fun k hk5 => hk k (by have := (e3 k hk5).2; omega) (s6 k (by have := (e3 k hk5).1; omega) (e3 k hk5).2) (by have := (e3 k hk5).1; omega)), e3⟩
    · have hlt : k < Wr.heap.size := by
        rcases Nat.lt_or_ge k w12.heap.size with q | q
        · omega
        · exact absurd (p11 k q) hk3
      exact (hO k hlt (s10 k hk3)).1
    · exact ⟨(hO b0 (lt_of_block h.c0) t0).1, (hO b5 (lt_of_block h.c5) t5).1, (hO b9 (lt_of_block h.c9) t9).1, (hO b13 (lt_of_block h.c13) t13).1⟩
    · refine h.was.carry (by omega) (fun _ _ => rfl) (fun k hk6 hne => hk k hk6 (s10 k hne) (fun e => by rw [e] at hne; exact hne p10)) (fun i hi => h.was.1 i (by omega))
    · exact (hk b0 (lt_of_block h.c0) t0 (by omega)).trans h.c0
    · exact (hk b5 (lt_of_block h.c5) t5 (by omega)).trans h.c5
    · exact (hk b9 (lt_of_block h.c9) t9 (by omega)).trans h.c9
    · rw [← hw4, one_setCell q13, List.length_append]
      rfl
end
set_option maxHeartbeats 12800000 in
theorem diskClones_walk (A : Option Addr) (n c : Nat) (os : List OpR) (B : Option Addr) (n2 c2 : Nat) (os2 : List OpR) (W : World) (h : OpsIn W A n os) (hnc : n ≤ c) (hcm : c ≤ maxLen) (h2 : OpsIn W B n2 os2) (hnc2 : n2 ≤ c2) (hcm2 : c2 ≤ maxLen) :
    Calls Try.prog 6 #[.slice A n c, .slice B n2 c2] W fun e w' => e = .returned (.bool true) ∧ Below W.heap.size W w' := by
  obtain ⟨b0, hb0⟩ : ∃ b0, W.heap.size = b0 := ⟨_, rfl⟩
  obtain ⟨W1, hW1⟩ : ∃ W1, W.alloc (.cells #[.bool false] 4) = W1 := ⟨_, rfl⟩
  have hN1 := one_new W (.cells #[.bool false] 4)
  rw [hW1] at hN1
  have HPLAY := Lib.hid (play_any A n c os 500 W1 (h.below hN1.2.1) hnc hcm (by omega))
  have HCUT := Lib.hid (fun (V : World) (hV : Below W1.heap.size W1 V) => cut_from W1 V hV B n2 c2 os2 (h2.below hN1.2.1) hnc2 hcm2)
  have hL60 := cutL_len os2
  have HSM : Hid (∀ o ∈ cutL os2, o.In W1 ∧ o.small = true) := Lib.hid (fun o ho => ⟨(h2.below hN1.2.1).2.1 o (cutL_in os2 o ho), cutL_small os2 o ho⟩)
  generalize cutL os2 = C2 at *
  have HLV := Lib.hid lives_any
  have HN1 := Lib.hid hN1
  have HB0 := Lib.hid hb0
  clear h hnc hcm h2 hnc2 hcm2 hN1
  rw [hb0]
  refine (callsIn_wide (n := 8)).1 ?_
  refine callsIn_of_wp_marks Try.func6 rfl trivial ?_ rfl
  simp only [Try.ntmps6, List.size_toArray, List.length_cons, List.length_nil, Nat.reduceAdd, Nat.reduceSub, Array.replicate_succ, Array.replicate_zero, List.push_toArray, List.append_toArray, List.nil_append, List.cons_append]
  refine wpIn_wide.2 ?_
  go_wp2_with fail
  refine HPLAY.out.mono ?_
  rintro e w2 ⟨d, x, own, ox, rfl, hBo, hsz⟩
  generalize (RD.fresh 500).doAll (cutL os) = r at hBo hsz
  obtain ⟨w3, hw3⟩ : ∃ w3, w2.alloc (.cells #[.pointer (some ⟨d, 0, none⟩)] 23) = w3 := ⟨_, rfl⟩
  have hN3 := one_new w2 (.cells #[.pointer (some ⟨d, 0, none⟩)] 23)
  rw [hw3] at hN3
  have y5 := cell_of_one hN3.1
  have HCL := Lib.hid (hBo.isD.below hN3.2.1).clone
  have HBO := Lib.hid (And.intro hBo hsz)
  have HN3 := Lib.hid hN3
  clear hBo hsz hN3 HPLAY
  obtain ⟨b5, hb5⟩ : ∃ b5, w2.heap.size = b5 := ⟨_, rfl⟩
  have HB5 := Lib.hid hb5
  rw [hb5] at y5
  go_wp2_with fail
  with_reducible refine HCL.out.mono ?_
  rintro e w4 ⟨cb, own2, rfl, hz4, hI4, hB4⟩
  have y5' : w4.cell? ⟨b5, 0, none⟩ = some (.pointer (some ⟨d, 0, none⟩)) := (hB4.cell (p := ⟨b5, 0, none⟩) (show b5 < w3.heap.size by have := HN3.out.2.2; have := HB5.out; omega)).trans y5
  have HCL2 := Lib.hid (((HBO.out.1.isD.below HN3.out.2.1).below hB4).clone)
  have HI4 := Lib.hid (And.intro hz4 (And.intro hI4 hB4))
  clear hz4 hI4 hB4 HCL y5
  go_wp2_with fail
  with_reducible refine HCL2.out.mono ?_
  rintro e w5 ⟨wb, own3, rfl, hz5, hI5, hB5⟩
  have HI5 := Lib.hid (And.intro hz5 (And.intro hI5 hB5))
  clear hz5 hI5 hB5 HCL2 y5'
  obtain ⟨w6, hw6⟩ : ∃ w6, w5.alloc (.cells #[.pointer (some ⟨wb, 0, none⟩)] 23) = w6 := ⟨_, rfl⟩
  have hN6 := one_new w5 (.cells #[.pointer (some ⟨wb, 0, none⟩)] 23)
  rw [hw6] at hN6
  have HN6 := Lib.hid hN6
  obtain ⟨b9, hb9⟩ : ∃ b9, w5.heap.size = b9 := ⟨_, rfl⟩
  have HB9 := Lib.hid hb9
  have HW16 : Hid (Below W1.heap.size W1 w6) := Lib.hid (by
    have e1 := HBO.out.1.on
    have e2 := HN3.out.2.1
    have e3 := HI4.out.2.2
    have e4 := HI5.out.2.2
    have e5 := HN6.out.2.1
    exact e1.trans ((e2.trans ((e3.trans ((e4.trans (e5.mono e4.size)).mono e3.size)).mono e2.size)).mono e1.size))
  clear hN6
  go_wp2_with fail
  refine (HCUT.out w6 HW16.out).mono ?_
  rintro e w7 ⟨⟨A1, c1, rfl, hO⟩, hB7⟩
  have HO := Lib.hid hO
  have hs0 : CloneOn own own3 b0 b5 b9 w7 W1 w7 cb x r C2 0 := by
    have e3 := HI4.out.2.2
    have e4 := HI5.out.2.2
    have e5 := HN6.out.2.1
    have e37 : Below w3.heap.size w3 w7 := e3.trans ((e4.trans ((e5.trans (hB7.mono e5.size)).mono e4.size)).mono e3.size)
    have e47 : Below w4.heap.size w4 w7 := e4.trans ((e5.trans (hB7.mono e5.size)).mono e4.size)
    have := HN3.out.2.2
    have := HB5.out
    have := HB9.out
    have := HB0.out
    have := HN1.out.2.2
    exact clone_on HBO.out.1 HN3.out.2.1 HI4.out.1 (HI4.out.2.1.below e47) e37 w4 HI4.out.2.1.1 HI5.out.1 e3.size (by omega) (by omega) (by have := e4.size; omega) (by have := e4.size; have := hB7.size; have := HN6.out.2.2; omega) HBO.out.2 C2
  have HS := Lib.hid hs0
  have HB7 := Lib.hid hB7
  clear hO hs0 hB7 HCUT
  go_wp2_with fail
  go_loopg [36] (C2.length + 1) (fun kx i wq => ∃ j : Nat, i = .int .i64 j ∧ j ≤ C2.length ∧ Hid (CloneOn own own3 b0 b5 b9 w7 W1 wq cb x r C2 j) ∧ C2.length - j + 1 ≤ kx)
  case atStart => exact ⟨0, rfl, Nat.zero_le _, HS, Nat.le_refl _⟩
  case round =>
    obtain ⟨j, rfl, hj, HI, hm⟩ := hrel
    by_cases hlt : j < C2.length
    · obtain ⟨o, ho⟩ : ∃ o, C2[j]? = some o := ⟨_, List.getElem?_eq_getElem hlt⟩
      obtain ⟨g, off, rfl, hg, hc⟩ := (HO.out.below HI.out.on).2.2 (by omega)
      have hcs := hc j o ho
      obtain ⟨hin, hsm⟩ := HSM.out o (List.mem_of_getElem? ho)
      have HCE : Hid (o.cells = [.int .u64 (o.kind : Int), .string o.a, .string o.b, .slice o.dA o.dn o.dc, .int .i64 o.n, .int .i64 o.dir, .slice o.kA o.kn o.kc]) := Lib.hid rfl
      have d0 := hcs 0 _ rfl
      have d1 := hcs 1 _ rfl
      have d2 := hcs 2 _ rfl
      have d3 := hcs 3 _ rfl
      have d4 := hcs 4 _ rfl
      have d5 := hcs 5 _ rfl
      have d6 := hcs 6 _ rfl
      rw [Nat.add_zero] at d0
      have hlt' : (j : Int) < (C2.length : Int) := by omega
      have hj0 : (0 : Int) ≤ (j : Int) := by omega
      obtain ⟨Wa, hWa⟩ : ∃ Wa, wr.alloc (.cells o.cells.toArray 34) = Wa := ⟨_, rfl⟩
      have hBa : Below wr.heap.size wr Wa := by rw [← hWa]; exact (Below.refl _ wr).alloc (Nat.le_refl _) _
      have hva : Wa.heap[wr.heap.size]? = some (.cells o.cells.toArray 34 (0, 0)) := by rw [← hWa]; exact heap_alloc_new wr _
      have hgo := (HI.out.below hBa).go hL60 ho hin hsm
      rw [HCE.out] at hWa hva hgo
      obtain ⟨va, hvae⟩ : ∃ va, wr.heap.size = va := ⟨_, rfl⟩
      rw [hvae] at hva
      have e0 : Wa.cell? ⟨va, 0, none⟩ = some (.int .u64 (o.kind : Int)) := by rw [cell_of_row _ va 0 _ _ (0, 0) hva]; rfl
      have e1 : Wa.cell? ⟨va, 1, none⟩ = some (.string o.a) := by rw [cell_of_row _ va 1 _ _ (0, 0) hva]; rfl
      have e2 : Wa.cell? ⟨va, 2, none⟩ = some (.string o.b) := by rw [cell_of_row _ va 2 _ _ (0, 0) hva]; rfl
      have e3 : Wa.cell? ⟨va, 3, none⟩ = some (.slice o.dA o.dn o.dc) := by rw [cell_of_row _ va 3 _ _ (0, 0) hva]; rfl
      have e4 : Wa.cell? ⟨va, 4, none⟩ = some (.int .i64 o.n) := by rw [cell_of_row _ va 4 _ _ (0, 0) hva]; rfl
      have e5 : Wa.cell? ⟨va, 5, none⟩ = some (.int .i64 o.dir) := by rw [cell_of_row _ va 5 _ _ (0, 0) hva]; rfl
      have e6 : Wa.cell? ⟨va, 6, none⟩ = some (.slice o.kA o.kn o.kc) := by rw [cell_of_row _ va 6 _ _ (0, 0) hva]; rfl
      have HGO := Lib.hid hgo
      clear hc hcs hin hsm hva hBa hgo ho hg HI
      obtain ⟨kind, a, b, dA, dn, dc, dz, nn, dir, kA, kn, kc, kz⟩ := o
      dsimp only at *
      go_wp2_with (go_at_call 10; (with_reducible refine HGO.out.mono ?_); rintro e w5' ⟨rfl, hs5⟩; have HS5 := Lib.hid hs5; clear hs5)
      go_roundg (C2.length - (j + 1) + 1)
      case measure => omega
      case rel => exact ⟨j + 1, by go_num, by omega, HS5, Nat.le_refl _⟩
    · obtain rfl : j = C2.length := by omega
      rename World => w8
      have hV0 : 0 < w7.heap.size := by have := HB7.out.size; have := HN6.out.2.2; omega
      have e3 := HI4.out.2.2
      have e4 := HI5.out.2.2
      have e57 : Below w5.heap.size w5 w7 := HN6.out.2.1.trans (HB7.out.mono HN6.out.2.1.size)
      have e47 : Below w4.heap.size w4 w7 := e4.trans (e57.mono e4.size)
      have e37 : Below w3.heap.size w3 w7 := e3.trans (e47.mono e3.size)
      have e27 : Below w2.heap.size w2 w7 := HN3.out.2.1.trans (e37.mono HN3.out.2.1.size)
      have e17 : Below W1.heap.size W1 w7 := HW16.out.trans (HB7.out.mono HW16.out.size)
      have hk8 : CloK W d wb b0 b5 b9 own own3 r w8 := by
        have f1 := HN1.out.2.2
        have f3 := HN3.out.2.2
        have f6 := HN6.out.2.2
        have g0 := HB0.out
        have g5 := HB5.out
        have g9 := HB9.out
        have z1 := e17.size
        have z3 := e37.size
        have z6 := HB7.out.size
        refine ⟨HN1.out.2.1.trans (HI.out.on.mono HN1.out.2.1.size), HI.out.stays hV0 (HBO.out.1.isD.below e27) (fun k hk => .inl hk), HI.out.stays hV0 (HI5.out.2.1.below e57) (fun k hk => .inr hk), ?_, ?_, ?_⟩
        · refine (HI.out.kept b0 (by omega) (.inr (.inr (.inl rfl)))).trans ((e17.block b0 (by omega)).trans ?_)
          rw [← g0]
          exact HN1.out.1
        · refine (HI.out.kept b5 (by omega) (.inr (.inr (.inr (.inl rfl))))).trans ((e37.block b5 (by omega)).trans ?_)
          rw [← g5]
          exact HN3.out.1
        · refine (HI.out.kept b9 (by omega) (.inr (.inr (.inr (.inr (.inl rfl)))))).trans ((HB7.out.block b9 (by omega)).trans ?_)
          rw [← g9]
          exact HN6.out.1
      have HP0 : Hid (W.heap.size ≤ b0 ∧ b0 < b5 ∧ b5 < b9 ∧ b9 < w8.heap.size ∧ (∀ i, b5 ≤ i → own i = 0) ∧ (∀ i, i < W.heap.size → own i = 0) ∧ own b0 = 0 ∧ (∀ i, b9 ≤ i → own3 i = 0) ∧ (∀ i, own3 i ≠ 0 → own i = 0)) := Lib.hid (by
        have f1 := HN1.out.2.2
        have f3 := HN3.out.2.2
        have g0 := HB0.out
        have g5 := HB5.out
        have g9 := HB9.out
        have z2 := HBO.out.1.on.size
        have z3 := e3.size
        have z4 := e4.size
        refine ⟨by omega, by omega, by omega, lt_of_block hk8.c9, fun i hi => HBO.out.1.isD.1 i (by omega), fun i hi => HBO.out.1.d0 i (by omega), HBO.out.1.d0 b0 (by omega), fun i hi => HI5.out.2.1.1 i (by omega), fun i hne => ?_⟩
        rcases Nat.lt_or_ge i w4.heap.size with q | q
        · exact absurd (HI5.out.1 i q) hne
        · exact HBO.out.1.isD.1 i (by omega))
      have HSIZE := Lib.hid HBO.out.2
      have HAL := Lib.hid (HI.out.alike (by omega))
      have HK8 := Lib.hid hk8
      clear hV0 e3 e4 e57 e47 e37 e27 e17 hk8 HI HS HO HSM HBO HN3 HI4 HI5 HN6 HW16 HB7 HN1 hw3 hw6 hb9
      go_wp2_with fail
      with_reducible refine HAL.out.mono ?_
      rintro e w9 ⟨rfl, hb9'⟩
      have hk9 := HK8.out.below hb9'
      have y5 := cell_of_one hk9.c5
      have y9 := cell_of_one hk9.c9
      have HSA := Lib.hid (hk9.dk.same hk9.was rfl (fun _ _ => rfl))
      have HK9 := Lib.hid hk9
      clear hb9' hk9 HAL HK8
      go_wp2_with fail
      with_reducible refine HSA.out.mono ?_
      rintro e w10 ⟨rfl, hb10⟩
      have hk10 := HK9.out.below hb10
      clear y5 y9
      have y5 := cell_of_one hk10.c5
      have HZ := Lib.hid (Nat.lt_of_lt_of_le (lt_of_block HK9.out.c9) hb10.size)
      have HK10 := Lib.hid hk10
      clear hb10 hk10 HSA HK9
      go_wp2_with fail
      refine (eachD w10 (some ⟨d, 0, none⟩)).mono ?_
      rintro e w11' ⟨rfl, rfl⟩
      obtain ⟨w11, hw11⟩ : ∃ w11, w10.alloc (.cells #[.pointer (some ⟨d, 0, none⟩)] 23) = w11 := ⟨_, rfl⟩
      have hN11 := one_new w10 (.cells #[.pointer (some ⟨d, 0, none⟩)] 23)
      rw [hw11] at hN11 ⊢
      obtain ⟨bE, hbE⟩ : ∃ bE, w10.heap.size = bE := ⟨_, rfl⟩
      rw [hbE] at hN11 ⊢
      obtain ⟨w12, hw12⟩ : ∃ w12, w11.alloc (.cells #[.int .i64 0] 3) = w12 := ⟨_, rfl⟩
      have hN12 := one_new w11 (.cells #[.int .i64 0] 3)
      rw [hw12] at hN12
      obtain ⟨b13, hb13⟩ : ∃ b13, w11.heap.size = b13 := ⟨_, rfl⟩
      rw [hb13] at hN12
      have hk12 := (HK10.out.below (by rw [hbE]; exact hN11.2.1)).below (by rw [hb13]; exact hN12.2.1)
      have hcE : w12.heap[bE]? = some (.cells #[.pointer (some ⟨d, 0, none⟩)] 23 (0, 0)) := (hN12.2.1.block bE (by have := hN11.2.2; omega)).trans hN11.1
      have HK12 := Lib.hid hk12
      have HCE := Lib.hid hcE
      have HC13 := Lib.hid hN12.1
      have y13 := cell_of_one hN12.1
      have y13f := free_of_one hN12.1
      have hid12 : w12.setCell ⟨b13, 0, none⟩ (.int .i64 0) = w12 := setCell_id hN12.1 rfl
      have HSZ : Hid (b9 < bE ∧ bE < b13 ∧ w12.heap.size = b13 + 1) := Lib.hid (by
        have h1 := lt_of_block HK10.out.c9
        have h2 := hN11.2.2
        have h3 := hN12.2.2
        omega)
      clear hN11 hN12 hk12 hcE HK10 y5 HZ
      have hqf := fun (w : World) => eqlFn w bE
      go_wp2_with fail
      clear hqf y13 y13f hid12
      obtain ⟨RA, rn, rc, ps, zf, hrow, hrn, hfz, hpl, hps⟩ := HK12.out.dk.each
      have hF12 := HK12.out.dk.fct.1
      have hp240 : ps.length ≤ 240 := by
        have h1 := (layAll_len r.chs r.sure hF12.rs hF12.two).2
        have h2 := HSIZE.out
        unfold RD.size at h2
        unfold RD.now at hpl
        omega
      have HPL := Lib.hid (And.intro hp240 (And.intro hpl hps))
      have hP : CloP W w12 b0 b5 b9 b13 own3 := by
        obtain ⟨a1, a2, a3, a4, a5, a6, a7, a8, a9⟩ := HP0.out
        have a10 := HSZ.out
        exact ⟨by omega, by omega, by omega, by omega, by omega, by omega, by omega, by omega, by omega, by omega, a8 _ (by omega), fun i hi => a8 i (by omega)⟩
      have HP := Lib.hid hP
      have hdl : d < w12.heap.size := World.block_lt_of_cell? w12 _ hrow.cell
      have HIT : Hid (∀ W1, Below w12.heap.size w12 W1 → IterX Try.prog 54 #[.pointer (some ⟨bE, 0, none⟩)] arS 1 (fun B C ys V => HeldX B [C] zf ps ys V ∧ (C < V.heap.size ∨ ys = [])) W1) := Lib.hid (fun W1 hb => eachD1 W1 bE d RA rn rc ps (cell_of_one ((hb.block bE (by have := HSZ.out; omega)).trans HCE.out)) ⟨(hb.cell (p := ⟨d, 2, none⟩) hdl).trans hrow.cell, hrow.row.below hb⟩ hrn zf (hfz.below hb))
      clear hrow hrn hfz hpl hps hF12 hp240 hP hdl
      refine (wpIn_wide (n := 8)).1 ?_
      refine range_itX 8 1 (by decide) 54 #[.pointer (some ⟨bE, 0, none⟩)] arS rfl eachD_enters (fun _ => rfl) _ HIT.out (fun C ys pre V => CloI W w12 d wb b0 b5 b9 b13 own3 r zf ps C ys pre V) (fun _ _ _ _ _ => False) (fun C ys pre => CloI.steady HP.out) (fun _ _ _ _ _ _ h _ => h) ?h0 ?hab ?hdone (fun _ _ _ _ _ _ h _ => h.elim)
      case h0 =>
        intro B C ys V hB hC hVs hb hX
        obtain ⟨a1, a2, a3, a4, a5, a6, a7, a8, a9⟩ := HP0.out
        have a10 := HSZ.out
        have hk := HK12.out.below hb
        refine ⟨hk.on, ⟨own, r, V.heap.size, hk.dk, by have := HSIZE.out; omega, a6, hVs, Nat.le_refl _, fun k h1 _ => a5 k (by omega), hX.2, hX.1.1, fun i p hp => ?_, a9, a7, a5 _ (Nat.le_refl _), a5 _ (by omega), a5 _ (by omega)⟩, hk.was, hk.c0, hk.c5, hk.c9, (hb.block b13 (by omega)).trans HC13.out⟩
        obtain ⟨A', c', e1, e2, e3⟩ := hX.1.2 i p hp
        exact ⟨A', c', e1, e2, fun k hk => ⟨by have := (e3 k hk).1; omega, (e3 k hk).2.1⟩⟩
      case hab =>
        apply Exists.intro
        refine ⟨?hassign, ?hbody⟩
        case hassign =>
          intro x W K hK
          unfold arS encS
          gi_wp2
          exact hK
        case hbody =>
          intro C ys pre x' Wr hC hCW hD1 hI hpre
          obtain ⟨nm, v⟩ := x'
          have hyx : ys[pre.length]? = some (nm, v) := by
            obtain ⟨t, rfl⟩ := hpre
            rw [List.append_assoc, List.getElem?_append_right (Nat.le_refl _), Nat.sub_self]
            rfl
          have hpl := (List.getElem?_eq_some_iff.1 hyx).1
          have hst := hI.st
          obtain ⟨own', r', M, s1, s2, s3, s4, s5, s6, s7, s8, s9, s10⟩ := hst
          obtain ⟨p, hp⟩ : ∃ p, ps[pre.length]? = some p := ⟨_, List.getElem?_eq_getElem (by omega)⟩
          obtain ⟨FA, fc, e1, hrz, _⟩ := s9 _ p hp
          rw [hyx] at e1
          obtain ⟨hhas, hdat⟩ := HPL.out.2.2 p (List.mem_of_getElem? hp)
          obtain ⟨px, pv⟩ := p
          obtain ⟨zs, hzs⟩ : ∃ zs, zf pv = zs := ⟨_, rfl⟩
          obtain ⟨L, hL⟩ : ∃ L, zs.length = L := ⟨_, rfl⟩
          simp only [Option.some.injEq, Prod.mk.injEq, hzs, hL] at e1
          simp only [hzs, hL] at hrz
          obtain ⟨rfl, rfl⟩ := e1
          dsimp only at hhas hdat
          obtain ⟨zs2, hz2, _, hread⟩ := hI.was.readZ nm hhas
          rw [hdat, hzs] at hz2
          obtain rfl := cellsZ_injC hz2
          rw [hL] at hread
          have HRD := Lib.hid (hread Wr (Below.refl _ _))
          have hp1000 : pre.length ≤ 1000 := by have := HPL.out.1; omega
          have HCR := Lib.hid (CloI.step HP.out hI (nm, .slice FA L fc) hpre hp1000 hCW hC ⟨#[111, 116, 104, 101, 114]⟩ (by decide))
          have HRZ := Lib.hid hrz
          have HC5 := Lib.hid hI.c5
          have y9 := cell_of_one hI.c9
          obtain ⟨ss, hss⟩ : ∃ ss, strOfNums zs = ss := ⟨_, rfl⟩
          have HSS := Lib.hid hss
          obtain ⟨q, hq⟩ : ∃ q, pre.length = q := ⟨_, rfl⟩
          rw [hq] at HCR hp1000
          clear hyx hpl s1 s2 s3 s4 s5 s6 s7 s8 s9 s10 hp hrz hhas hdat hzs hL hz2 hread hI hpre hss hq
          gi_wp2_with (first
            | (refine ⟨trivial, ?_⟩; gi_at_call 20; refine (CallsIn.inRound _ (callsIn_wide.2 HRD.out)).mono ?_; rintro e8 Wg ⟨⟨A7, c7, rfl, hz7, hc7⟩, hbg⟩; have k1 := conv_row hz7 c7; have k2 := conv_row (HRZ.out.below hbg) fc; rw [HSS.out] at k1 k2; have y5g := cell_of_one ((hbg.block b5 (lt_of_block HC5.out)).trans HC5.out); have HCRg := Lib.hid (HCR.out Wg hbg); clear hz7 hc7 hbg y9)
            | (refine ⟨trivial, ?_⟩; gi_at_call 16; refine (CallsIn.inRound _ (callsIn_wide.2 HCRg.out)).mono ?_; rintro e8 Wc ⟨⟨a, rfl⟩, hb13c, hk7, hi7⟩; have y13 := cell_of_one hb13c; have y13f := free_of_one hb13c; have HFI := Lib.hid (And.intro hk7 hi7); clear hb13c hk7 hi7))
          exact HFI.out
      case hdone =>
        intro C ys Wl hI hK
        obtain ⟨own', r', M, s1, s2, s3, s4, s5, s6, s7, s8, s9, s10⟩ := hI.st
        obtain ⟨nn, hnn⟩ : ∃ nn, ys.length = nn := ⟨_, rfl⟩
        have hI2 := hI
        have HNN : Hid (r.now.length = nn) := Lib.hid (by have := HPL.out.2.1; omega)
        have hc13 := hI.c13
        rw [hnn] at hc13
        have HON := Lib.hid hI.on
        have HW := Lib.hid (And.intro hI.was (And.intro hI.c0 (And.intro hI.c5 (And.intro hI.c9 hc13))))
        have HK := Lib.hid hK
        have hnn60 : nn ≤ 240 := by have := HPL.out.1; omega
        clear s1 s2 s3 s4 s5 s6 s7 s8 s9 s10 hI hI2 hK hc13 hnn
        go_wp2_with fail
        refine (crash_nil Wl _ _ _ _).mono ?_
        rintro e u1 ⟨⟨q1, rfl⟩, hu1⟩
        have HU1 := Lib.hid hu1
        clear hu1
        go_wp2_with fail
        refine (dstop_nil _ _).mono ?_
        rintro e u2 ⟨⟨q2, rfl⟩, hu2⟩
        subst hu2
        go_wp2_with fail
        refine (quota_nil _ _).mono ?_
        rintro e u3 ⟨⟨q3, rfl⟩, hu3⟩
        subst hu3
        go_wp2_with fail
        refine (read_nil _ _).mono ?_
        rintro e u4 ⟨rfl, hu4⟩
        have hbl : Below Wl.heap.size Wl u4.drew := (HU1.out.trans (hu4.mono HU1.out.size)).drew
        have hw31 : ∀ V, Below u4.drew.heap.size u4.drew V → Below Wl.heap.size Wl V := fun V hV => hbl.trans (hV.mono hbl.size)
        have HSB : Hid (∀ V, Below u4.drew.heap.size u4.drew V → V.cell? ⟨b13, 0, none⟩ = some (.int .i64 (nn : Int)) ∧ V.cell? ⟨b9, 0, none⟩ = some (.pointer (some ⟨wb, 0, none⟩)) ∧ V.cell? ⟨b5, 0, none⟩ = some (.pointer (some ⟨d, 0, none⟩))) := Lib.hid (fun V hV => ⟨cell_of_one (((hw31 V hV).block b13 (lt_of_block HW.out.2.2.2.2)).trans HW.out.2.2.2.2), cell_of_one (((hw31 V hV).block b9 (lt_of_block HW.out.2.2.2.1)).trans HW.out.2.2.2.1), cell_of_one (((hw31 V hV).block b5 (lt_of_block HW.out.2.2.1)).trans HW.out.2.2.1)⟩)
        have HS31 := Lib.hid (HSB.out _ (Below.refl _ _))
        have HB0S : Hid (∀ V, Below u4.drew.heap.size u4.drew V → V.heap[b0]? = some (.cells #[.bool false] 4 (0, 0))) := Lib.hid (fun V hV => ((hw31 V hV).block b0 (lt_of_block HW.out.2.1)).trans HW.out.2.1)
        have hli := (HW.out.1.below hbl).list
        rw [HNN.out] at hli
        have HLI := Lib.hid hli
        have HFIN : Hid (∀ V, Below u4.drew.heap.size u4.drew V → ∀ vF, V.setCell ⟨b0, 0, none⟩ (.bool true) = vF → (vF.cell? ⟨b13, 0, none⟩ = some (.int .i64 (nn : Int)) ∧ vF.cell? ⟨b9, 0, none⟩ = some (.pointer (some ⟨wb, 0, none⟩)) ∧ vF.cell? ⟨b5, 0, none⟩ = some (.pointer (some ⟨d, 0, none⟩))) ∧ vF.heap[b0]? = some (.cells #[.bool true] 4 (0, 0)) ∧ vF.heap[w12.heap.size]? = some (.deferred (some [])) ∧ Below W.heap.size W vF) := Lib.hid (fun V hV vF hvF => by
          obtain ⟨a1, a2, a3, a4, a5, a6, a7, a8, a9⟩ := HP0.out
          have a10 := HSZ.out
          have hb := hw31 V hV
          have hcv : Chg [b0] V vF := by rw [← hvF]; exact (Chg.refl _ V).setCell b0 0 _ (.inl (by simp))
          have hbz := hb.size
          have hs : ∀ k, k < Wl.heap.size → k ≠ b0 → vF.heap[k]? = Wl.heap[k]? := fun k h1 h2 => (hcv.same k (by omega) (by simp only [List.mem_singleton]; exact h2)).trans (hb.block k h1)
          refine ⟨⟨cell_of_one ((hs b13 (lt_of_block HW.out.2.2.2.2) (by omega)).trans HW.out.2.2.2.2), cell_of_one ((hs b9 (lt_of_block HW.out.2.2.2.1) (by omega)).trans HW.out.2.2.2.1), cell_of_one ((hs b5 (lt_of_block HW.out.2.2.1) (by omega)).trans HW.out.2.2.1)⟩, ?_, (hs _ (lt_of_block HK.out) (by omega)).trans HK.out, ?_⟩
          · rw [← hvF]
            exact one_setCell ((hb.block b0 (lt_of_block HW.out.2.1)).trans HW.out.2.1)
          · exact (HON.out.trans (hb.mono HON.out.size)).trans (hcv.toBelow (fun k hk => by rw [List.mem_singleton] at hk; omega) (by have := HON.out.size; omega)))
        have hb0D : b0 ≠ w12.heap.size := by have := HP0.out.1; have := HP0.out.2.1; have := HSZ.out; have := HP0.out.2.2.1; omega
        clear hu4 hbl hw31 hli
        go_upto_region 31 with fail
        refine wp_region_noPanic ?_
        refine wp_region_held_drew (S := fun V => V.cell? ⟨b13, 0, none⟩ = some (.int .i64 (nn : Int)) ∧ V.cell? ⟨b9, 0, none⟩ = some (.pointer (some ⟨wb, 0, none⟩)) ∧ V.cell? ⟨b5, 0, none⟩ = some (.pointer (some ⟨d, 0, none⟩))) (by kernel_rfl) HS31.out (fun _ => ?_)
        refine ty 0 94 (v := (.int .i64 (nn : Int))) rfl rfl ?_ HS31.out ?_
        · intro w hSw
          obtain ⟨s0, s1, s2⟩ := hSw
          go_simp
        simp only [Act.put, List.setIfInBounds_toArray, List.set_cons_zero, List.set_cons_succ]
        refine ty 1 95 (v := (.pointer (some ⟨wb, 0, none⟩))) rfl rfl ?_ HS31.out ?_
        · intro w hSw
          obtain ⟨s0, s1, s2⟩ := hSw
          go_simp
        simp only [Act.put, List.setIfInBounds_toArray, List.set_cons_zero, List.set_cons_succ]
        refine wpAnyH_ready (rs := [2]) (by kernel_rfl) (by simp) ?_
        refine AllReadyH.cons rfl (fun K hK => ?_) AllReadyH.nil
        go_simp
        go_at_call 24
        with_reducible refine HLI.out.mono ?_
        rintro e v1 ⟨⟨A9, c9', rfl, hl9, hf9⟩, hb⟩
        have HB1x : Hid (Below u4.drew.heap.size u4.drew v1) := Lib.hid (hb)
        clear hb hl9 hf9
        refine hK.out _ _ (HSB.out _ HB1x.out) (fun _ => ?_)
        clear hK K
        try simp only [Act.put, List.setIfInBounds_toArray, List.set_cons_zero, List.set_cons_succ]
        refine ty 3 97 (v := (.int .i64 (nn : Int))) rfl rfl ?_ (HSB.out _ HB1x.out) ?_
        · intro w hSw
          go_simp
        simp only [Act.put, List.setIfInBounds_toArray, List.set_cons_zero, List.set_cons_succ]
        refine ty 4 98 (v := (.bool true)) rfl rfl ?_ (HSB.out _ HB1x.out) ?_
        · intro w hSw
          go_simp
        simp only [Act.put, List.setIfInBounds_toArray, List.set_cons_zero, List.set_cons_succ]
        refine ty 5 99 (v := (.bool true)) rfl rfl ?_ (HSB.out _ HB1x.out) ?_
        · intro w hSw
          go_simp
        simp only [Act.put, List.setIfInBounds_toArray, List.set_cons_zero, List.set_cons_succ]
        refine ty 6 100 (v := (.pointer none)) rfl rfl ?_ (HSB.out _ HB1x.out) ?_
        · intro w hSw
          go_simp
        simp only [Act.put, List.setIfInBounds_toArray, List.set_cons_zero, List.set_cons_succ]
        refine wpAnyH_ready (rs := [7]) (by kernel_rfl) (by simp) ?_
        refine AllReadyH.cons rfl (fun K hK => ?_) AllReadyH.nil
        go_simp
        go_at_call 16
        with_reducible refine (create_nil _ _).mono ?_
        rintro e v2 ⟨rfl, hb⟩
        have HB2x : Hid (Below u4.drew.heap.size u4.drew v2) := Lib.hid (HB1x.out.trans (hb.mono HB1x.out.size))
        clear hb
        refine hK.out _ _ (HSB.out _ HB2x.out) (fun _ => ?_)
        clear hK K
        try simp only [Act.put, List.setIfInBounds_toArray, List.set_cons_zero, List.set_cons_succ]
        refine ty 8 102 (v := (.bool true)) rfl rfl ?_ (HSB.out _ HB2x.out) ?_
        · intro w hSw
          go_simp
        simp only [Act.put, List.setIfInBounds_toArray, List.set_cons_zero, List.set_cons_succ]
        refine ty 9 103 (v := (.bool true)) rfl rfl ?_ (HSB.out _ HB2x.out) ?_
        · intro w hSw
          go_simp
        simp only [Act.put, List.setIfInBounds_toArray, List.set_cons_zero, List.set_cons_succ]
        refine ty 10 104 (v := (.bool true)) rfl rfl ?_ (HSB.out _ HB2x.out) ?_
        · intro w hSw
          go_simp
        simp only [Act.put, List.setIfInBounds_toArray, List.set_cons_zero, List.set_cons_succ]
        refine ty 11 105 (v := (.pointer none)) rfl rfl ?_ (HSB.out _ HB2x.out) ?_
        · intro w hSw
          go_simp
        simp only [Act.put, List.setIfInBounds_toArray, List.set_cons_zero, List.set_cons_succ]
        refine wpAnyH_ready (rs := [12]) (by kernel_rfl) (by simp) ?_
        refine AllReadyH.cons rfl (fun K hK => ?_) AllReadyH.nil
        go_simp
        go_at_call 19
        with_reducible refine (syncDir_nil _).mono ?_
        rintro e v3 ⟨rfl, hb⟩
        have HB3x : Hid (Below u4.drew.heap.size u4.drew v3) := Lib.hid (HB2x.out.trans (hb.mono HB2x.out.size))
        clear hb
        refine hK.out _ _ (HSB.out _ HB3x.out) (fun _ => ?_)
        clear hK K
        try simp only [Act.put, List.setIfInBounds_toArray, List.set_cons_zero, List.set_cons_succ]
        refine ty 13 107 (v := (.bool true)) rfl rfl ?_ (HSB.out _ HB3x.out) ?_
        · intro w hSw
          go_simp
        simp only [Act.put, List.setIfInBounds_toArray, List.set_cons_zero, List.set_cons_succ]
        refine ty 14 108 (v := (.bool true)) rfl rfl ?_ (HSB.out _ HB3x.out) ?_
        · intro w hSw
          go_simp
        simp only [Act.put, List.setIfInBounds_toArray, List.set_cons_zero, List.set_cons_succ]
        refine ty 15 109 (v := (.bool true)) rfl rfl ?_ (HSB.out _ HB3x.out) ?_
        · intro w hSw
          go_simp
        simp only [Act.put, List.setIfInBounds_toArray, List.set_cons_zero, List.set_cons_succ]
        refine ty 16 110 (v := (.pointer none)) rfl rfl ?_ (HSB.out _ HB3x.out) ?_
        · intro w hSw
          go_simp
        simp only [Act.put, List.setIfInBounds_toArray, List.set_cons_zero, List.set_cons_succ]
        refine wpAnyH_ready (rs := [17]) (by kernel_rfl) (by simp) ?_
        refine AllReadyH.cons rfl (fun K hK => ?_) AllReadyH.nil
        go_simp
        go_at_call 22
        with_reducible refine (doff_nilB _).mono ?_
        rintro e v4 ⟨rfl, hb⟩
        have HB4x : Hid (Below u4.drew.heap.size u4.drew v4) := Lib.hid (HB3x.out.trans (hb.mono HB3x.out.size))
        clear hb
        refine hK.out _ _ (HSB.out _ HB4x.out) (fun _ => ?_)
        clear hK K
        try simp only [Act.put, List.setIfInBounds_toArray, List.set_cons_zero, List.set_cons_succ]
        refine ty 18 112 (v := (.bool true)) rfl rfl ?_ (HSB.out _ HB4x.out) ?_
        · intro w hSw
          go_simp
        simp only [Act.put, List.setIfInBounds_toArray, List.set_cons_zero, List.set_cons_succ]
        refine ty 19 113 (v := (.bool true)) rfl rfl ?_ (HSB.out _ HB4x.out) ?_
        · intro w hSw
          go_simp
        simp only [Act.put, List.setIfInBounds_toArray, List.set_cons_zero, List.set_cons_succ]
        refine ty 20 114 (v := (.pointer none)) rfl rfl ?_ (HSB.out _ HB4x.out) ?_
        · intro w hSw
          go_simp
        simp only [Act.put, List.setIfInBounds_toArray, List.set_cons_zero, List.set_cons_succ]
        refine wpAnyH_ready (rs := [21]) (by kernel_rfl) (by simp) ?_
        refine AllReadyH.cons rfl (fun K hK => ?_) AllReadyH.nil
        go_simp
        go_at_call 23
        with_reducible refine (dfull_nilB _).mono ?_
        rintro e v5 ⟨rfl, hb⟩
        have HB5x : Hid (Below u4.drew.heap.size u4.drew v5) := Lib.hid (HB4x.out.trans (hb.mono HB4x.out.size))
        clear hb
        refine hK.out _ _ (HSB.out _ HB5x.out) (fun _ => ?_)
        clear hK K
        try simp only [Act.put, List.setIfInBounds_toArray, List.set_cons_zero, List.set_cons_succ]
        refine ty 22 116 (v := (.bool true)) rfl rfl ?_ (HSB.out _ HB5x.out) ?_
        · intro w hSw
          go_simp
        simp only [Act.put, List.setIfInBounds_toArray, List.set_cons_zero, List.set_cons_succ]
        refine ty 23 117 (v := (.bool true)) rfl rfl ?_ (HSB.out _ HB5x.out) ?_
        · intro w hSw
          go_simp
        simp only [Act.put, List.setIfInBounds_toArray, List.set_cons_zero, List.set_cons_succ]
        refine ty 24 118 (v := (.bool true)) rfl rfl ?_ (HSB.out _ HB5x.out) ?_
        · intro w hSw
          go_simp
        simp only [Act.put, List.setIfInBounds_toArray, List.set_cons_zero, List.set_cons_succ]
        refine ty 25 119 (v := (.pointer none)) rfl rfl ?_ (HSB.out _ HB5x.out) ?_
        · intro w hSw
          go_simp
        simp only [Act.put, List.setIfInBounds_toArray, List.set_cons_zero, List.set_cons_succ]
        refine ty 28 122 (v := (.pointer none)) rfl rfl ?_ (HSB.out _ HB5x.out) ?_
        · intro w hSw
          go_simp
        simp only [Act.put, List.setIfInBounds_toArray, List.set_cons_zero, List.set_cons_succ]
        refine ty 31 125 (v := (.pointer none)) rfl rfl ?_ (HSB.out _ HB5x.out) ?_
        · intro w hSw
          go_simp
        simp only [Act.put, List.setIfInBounds_toArray, List.set_cons_zero, List.set_cons_succ]
        refine wpAnyH_ready (rs := [26]) (by kernel_rfl) (by simp) ?_
        refine AllReadyH.cons rfl (fun K hK => ?_) AllReadyH.nil
        go_simp
        go_at_call 24
        with_reducible refine (list_nil _).mono ?_
        rintro e v6 ⟨rfl, hb⟩
        have HB6x : Hid (Below u4.drew.heap.size u4.drew v6) := Lib.hid (HB5x.out.trans (hb.mono HB5x.out.size))
        clear hb
        refine hK.out _ _ (HSB.out _ HB6x.out) (fun _ => ?_)
        clear hK K
        try simp only [Act.put, List.setIfInBounds_toArray, List.set_cons_zero, List.set_cons_succ]
        refine ty 27 121 (v := (.int .i64 0)) rfl rfl ?_ (HSB.out _ HB6x.out) ?_
        · intro w hSw
          go_simp
        simp only [Act.put, List.setIfInBounds_toArray, List.set_cons_zero, List.set_cons_succ]
        refine wpAnyH_ready (rs := [29]) (by kernel_rfl) (by simp) ?_
        refine AllReadyH.cons rfl (fun K hK => ?_) AllReadyH.nil
        go_simp
        go_at_call 30
        with_reducible refine (used_nil _).mono ?_
        rintro e v7 ⟨rfl, hb⟩
        have HB7x : Hid (Below u4.drew.heap.size u4.drew v7) := Lib.hid (HB6x.out.trans (hb.mono HB6x.out.size))
        clear hb
        refine hK.out _ _ (HSB.out _ HB7x.out) (fun _ => ?_)
        clear hK K
        try simp only [Act.put, List.setIfInBounds_toArray, List.set_cons_zero, List.set_cons_succ]
        refine ty 30 124 (v := (.int .i64 0)) rfl rfl ?_ (HSB.out _ HB7x.out) ?_
        · intro w hSw
          go_simp
          rfl
        simp only [Act.put, List.setIfInBounds_toArray, List.set_cons_zero, List.set_cons_succ]
        refine wpAnyH_ready (rs := [32]) (by kernel_rfl) (by simp) ?_
        refine AllReadyH.cons rfl (fun K hK => ?_) AllReadyH.nil
        go_simp
        go_at_call 31
        with_reducible refine (dcalls_nilB _).mono ?_
        rintro e v8 ⟨rfl, hb⟩
        have HB8x : Hid (Below u4.drew.heap.size u4.drew v8) := Lib.hid (HB7x.out.trans (hb.mono HB7x.out.size))
        clear hb
        refine hK.out _ _ (HSB.out _ HB8x.out) (fun _ => ?_)
        clear hK K
        try simp only [Act.put, List.setIfInBounds_toArray, List.set_cons_zero, List.set_cons_succ]
        refine ty 33 127 (v := (.int .i64 0)) rfl rfl ?_ (HSB.out _ HB8x.out) ?_
        · intro w hSw
          go_simp
          rfl
        simp only [Act.put, List.setIfInBounds_toArray, List.set_cons_zero, List.set_cons_succ]
        refine ty 34 128 (v := (.bool true)) rfl rfl ?_ (HSB.out _ HB8x.out) ?_
        · intro w hSw
          go_simp
        simp only [Act.put, List.setIfInBounds_toArray, List.set_cons_zero, List.set_cons_succ]
        refine ty 35 129 (v := (.bool true)) rfl rfl ?_ (HSB.out _ HB8x.out) ?_
        · intro w hSw
          go_simp
        simp only [Act.put, List.setIfInBounds_toArray, List.set_cons_zero, List.set_cons_succ]
        refine ty 36 130 (v := (.bool true)) rfl rfl ?_ (HSB.out _ HB8x.out) ?_
        · intro w hSw
          go_simp
        simp only [Act.put, List.setIfInBounds_toArray, List.set_cons_zero, List.set_cons_succ]
        refine ty 37 131 (v := (.pointer none)) rfl rfl ?_ (HSB.out _ HB8x.out) ?_
        · intro w hSw
          go_simp
        simp only [Act.put, List.setIfInBounds_toArray, List.set_cons_zero, List.set_cons_succ]
        refine wpAnyH_ready (rs := [38]) (by kernel_rfl) (by simp) ?_
        refine AllReadyH.cons rfl (fun K hK => ?_) AllReadyH.nil
        go_simp
        go_at_call 21
        with_reducible refine (clone_nilB _).mono ?_
        rintro e v9 ⟨rfl, hb⟩
        have HB9x : Hid (Below u4.drew.heap.size u4.drew v9) := Lib.hid (HB8x.out.trans (hb.mono HB8x.out.size))
        clear hb
        refine hK.out _ _ (HSB.out _ HB9x.out) (fun _ => ?_)
        clear hK K
        try simp only [Act.put, List.setIfInBounds_toArray, List.set_cons_zero, List.set_cons_succ]
        refine ty 39 133 (v := (.bool true)) rfl rfl ?_ (HSB.out _ HB9x.out) ?_
        · intro w hSw
          go_simp
        simp only [Act.put, List.setIfInBounds_toArray, List.set_cons_zero, List.set_cons_succ]
        refine ty 40 134 (v := (.bool true)) rfl rfl ?_ (HSB.out _ HB9x.out) ?_
        · intro w hSw
          go_simp
        simp only [Act.put, List.setIfInBounds_toArray, List.set_cons_zero, List.set_cons_succ]
        refine ty 41 135 (v := (.bool true)) rfl rfl ?_ (HSB.out _ HB9x.out) ?_
        · intro w hSw
          go_simp
        simp only [Act.put, List.setIfInBounds_toArray, List.set_cons_zero, List.set_cons_succ]
        refine ty 42 136 (v := (.int .i64 3)) rfl rfl ?_ (HSB.out _ HB9x.out) ?_
        · intro w hSw
          go_simp
        simp only [Act.put, List.setIfInBounds_toArray, List.set_cons_zero, List.set_cons_succ]
        refine ty 43 137 (v := (.bool true)) rfl rfl ?_ (HSB.out _ HB9x.out) ?_
        · intro w hSw
          go_simp
        simp only [Act.put, List.setIfInBounds_toArray, List.set_cons_zero, List.set_cons_succ]
        refine ty 44 138 (v := (.bool true)) rfl rfl ?_ (HSB.out _ HB9x.out) ?_
        · intro w hSw
          go_simp
        simp only [Act.put, List.setIfInBounds_toArray, List.set_cons_zero, List.set_cons_succ]
        refine ty 45 139 (v := (.bool true)) rfl rfl ?_ (HSB.out _ HB9x.out) ?_
        · intro w hSw
          go_simp
        simp only [Act.put, List.setIfInBounds_toArray, List.set_cons_zero, List.set_cons_succ]
        refine ty 46 140 (v := (.pointer none)) rfl rfl ?_ (HSB.out _ HB9x.out) ?_
        · intro w hSw
          go_simp
        simp only [Act.put, List.setIfInBounds_toArray, List.set_cons_zero, List.set_cons_succ]
        refine wpAnyH_ready (rs := [47]) (by kernel_rfl) (by simp) ?_
        refine AllReadyH.cons rfl (fun K hK => ?_) AllReadyH.nil
        go_simp
        go_at_call 32
        with_reducible refine (turn_nil _ _ _ _).mono ?_
        rintro e v10 ⟨rfl, hb⟩
        have HB10x : Hid (Below u4.drew.heap.size u4.drew v10) := Lib.hid (HB9x.out.trans (hb.mono HB9x.out.size))
        clear hb
        refine hK.out _ _ (HSB.out _ HB10x.out) (fun _ => ?_)
        clear hK K
        try simp only [Act.put, List.setIfInBounds_toArray, List.set_cons_zero, List.set_cons_succ]
        refine ty 48 142 (v := (.bool true)) rfl rfl ?_ (HSB.out _ HB10x.out) ?_
        · intro w hSw
          go_simp
        simp only [Act.put, List.setIfInBounds_toArray, List.set_cons_zero, List.set_cons_succ]
        refine ty 49 143 (v := (.bool true)) rfl rfl ?_ (HSB.out _ HB10x.out) ?_
        · intro w hSw
          go_simp
        simp only [Act.put, List.setIfInBounds_toArray, List.set_cons_zero, List.set_cons_succ]
        refine ty 50 144 (v := (.bool true)) rfl rfl ?_ (HSB.out _ HB10x.out) ?_
        · intro w hSw
          go_simp
        simp only [Act.put, List.setIfInBounds_toArray, List.set_cons_zero, List.set_cons_succ]
        refine ty 51 145 (v := (.pointer none)) rfl rfl ?_ (HSB.out _ HB10x.out) ?_
        · intro w hSw
          go_simp
        simp only [Act.put, List.setIfInBounds_toArray, List.set_cons_zero, List.set_cons_succ]
        refine wpAnyH_ready (rs := [52]) (by kernel_rfl) (by simp) ?_
        refine AllReadyH.cons rfl (fun K hK => ?_) AllReadyH.nil
        go_simp
        go_at_call 27
        with_reducible refine (same_none _).mono ?_
        rintro e v11 ⟨rfl, hb⟩
        have HB11x : Hid (Below u4.drew.heap.size u4.drew v11) := Lib.hid (HB10x.out.trans (hb.mono HB10x.out.size))
        clear hb
        refine hK.out _ _ (HSB.out _ HB11x.out) (fun _ => ?_)
        clear hK K
        try simp only [Act.put, List.setIfInBounds_toArray, List.set_cons_zero, List.set_cons_succ]
        refine ty 53 147 (v := (.bool true)) rfl rfl ?_ (HSB.out _ HB11x.out) ?_
        · intro w hSw
          go_simp
        simp only [Act.put, List.setIfInBounds_toArray, List.set_cons_zero, List.set_cons_succ]
        refine ty 54 148 (v := (.bool true)) rfl rfl ?_ (HSB.out _ HB11x.out) ?_
        · intro w hSw
          go_simp
        simp only [Act.put, List.setIfInBounds_toArray, List.set_cons_zero, List.set_cons_succ]
        refine ty 55 149 (v := (.pointer none)) rfl rfl ?_ (HSB.out _ HB11x.out) ?_
        · intro w hSw
          go_simp
        simp only [Act.put, List.setIfInBounds_toArray, List.set_cons_zero, List.set_cons_succ]
        refine ty 56 150 (v := (.pointer (some ⟨d, 0, none⟩))) rfl rfl ?_ (HSB.out _ HB11x.out) ?_
        · intro w hSw
          obtain ⟨s0, s1, s2⟩ := hSw
          go_simp
        simp only [Act.put, List.setIfInBounds_toArray, List.set_cons_zero, List.set_cons_succ]
        refine wpAnyH_ready (rs := [57]) (by kernel_rfl) (by simp) ?_
        refine AllReadyH.cons rfl (fun K hK => ?_) AllReadyH.nil
        go_simp
        go_at_call 27
        with_reducible refine (same_half _ _).mono ?_
        rintro e v12 ⟨rfl, hb⟩
        have HB12x : Hid (Below u4.drew.heap.size u4.drew v12) := Lib.hid (HB11x.out.trans (hb.mono HB11x.out.size))
        clear hb
        refine hK.out _ _ (HSB.out _ HB12x.out) (fun _ => ?_)
        clear hK K
        try simp only [Act.put, List.setIfInBounds_toArray, List.set_cons_zero, List.set_cons_succ]
        refine ty 58 152 (v := (.bool true)) rfl rfl ?_ (HSB.out _ HB12x.out) ?_
        · intro w hSw
          go_simp
        simp only [Act.put, List.setIfInBounds_toArray, List.set_cons_zero, List.set_cons_succ]
        refine ty 59 153 (v := (.bool true)) rfl rfl ?_ (HSB.out _ HB12x.out) ?_
        · intro w hSw
          go_simp
        simp only [Act.put, List.setIfInBounds_toArray, List.set_cons_zero, List.set_cons_succ]
        refine ty 60 154 (v := (.bool true)) rfl rfl ?_ (HSB.out _ HB12x.out) ?_
        · intro w hSw
          go_simp
        simp only [Act.put, List.setIfInBounds_toArray, List.set_cons_zero, List.set_cons_succ]
        refine wpAnyH_ready (rs := [61]) (by kernel_rfl) (by simp) ?_
        refine AllReadyH.cons rfl (fun K hK => ?_) AllReadyH.nil
        go_simp
        go_at_call 12
        with_reducible refine (HLV.out _).mono ?_
        rintro e v13 ⟨rfl, hb⟩
        have HB13x : Hid (Below u4.drew.heap.size u4.drew v13) := Lib.hid (HB12x.out.trans (hb.mono HB12x.out.size))
        clear hb
        refine hK.out _ _ (HSB.out _ HB13x.out) (fun _ => ?_)
        clear hK K
        try simp only [Act.put, List.setIfInBounds_toArray, List.set_cons_zero, List.set_cons_succ]
        refine ty 62 156 (v := (.bool true)) rfl rfl ?_ (HSB.out _ HB13x.out) ?_
        · intro w hSw
          go_simp
        simp only [Act.put, List.setIfInBounds_toArray, List.set_cons_zero, List.set_cons_succ]
        have z0 := cell_of_one (HB0S.out _ HB13x.out)
        have z0f := free_of_one (HB0S.out _ HB13x.out)
        obtain ⟨vF, hvF⟩ : ∃ vF, v13.setCell ⟨b0, 0, none⟩ (.bool true) = vF := ⟨_, rfl⟩
        have HSF := Lib.hid (HFIN.out v13 HB13x.out vF hvF)
        refine wpAnyH_ready (rs := [63]) (by kernel_rfl) (by simp) ?_
        refine AllReadyH.cons rfl (fun K hK => ?_) AllReadyH.nil
        go_simp
        refine hK.out _ _ HSF.out.1 (fun _ => ?_)
        clear hK K
        try simp only [Act.put, List.setIfInBounds_toArray, List.set_cons_zero, List.set_cons_succ]
        refine wpAnyH_done (by kernel_rfl) ?_ _
        refine NoPanic.normal ?_
        go_wp2
        have hcp := chg_putObjIt vF w12.heap.size (.deferred none)
        refine ⟨by simp, .inl ⟨_, _, rfl, run_takeDeferred HSF.out.2.2.1, ?_⟩⟩
        have hbf := HSF.out.2.2.2
        have hz12 := HP.out.2.2.2.2.2.2.1
        have hE := hbf.trans (hcp.toBelow (fun k hk => by rw [List.mem_singleton] at hk; omega) hbf.size)
        rw [HB0.out] at hE
        exact ⟨_, results_clones _ _ b0 true rfl (cell_of_one ((World.putObj_heap_other (by omega)).trans HSF.out.2.1)), rfl, hE⟩
end Go.Proofs.Ytbjlikppboggmaa
