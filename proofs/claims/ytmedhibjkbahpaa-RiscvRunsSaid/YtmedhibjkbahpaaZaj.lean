/-
  A line in memory, and out of its reading.
  The document's MayLine, of an instruction without a symbol.
-/
import Derived.Test.YtmedhibjkbahpaaZai
import Derived.Deep.RegionHeld3
namespace Go.Proofs.Ytmedhibjkbahpaa
open Go.RowKit
open Go.ChangeShapes Go.WideShapes
set_option linter.unusedVariables false
set_option linter.unusedSimpArgs false
set_option maxRecDepth 100000

/-- A line in memory: its seven cells. -/
def LnAt (w : World) (p : Nat) (k op d a b n : Int) (s : ByteArray) : Prop :=
  p < w.heap.size ∧ w.cell? ⟨p, 0, none⟩ = some (.int .i64 k) ∧ w.cell? ⟨p, 1, none⟩ = some (.int .i64 op) ∧ w.cell? ⟨p, 2, none⟩ = some (.int .i64 d) ∧ w.cell? ⟨p, 3, none⟩ = some (.int .i64 a) ∧
  w.cell? ⟨p, 4, none⟩ = some (.int .i64 b) ∧ w.cell? ⟨p, 5, none⟩ = some (.int .i32 n) ∧ w.cell? ⟨p, 6, none⟩ = some (.string s)
theorem LnAt.below {w w' : World} {p : Nat} {k op d a b n : Int} {s : ByteArray} (h : LnAt w p k op d a b n s) (hb : Below w.heap.size w w') : LnAt w' p k op d a b n s := by
  obtain ⟨h0, a0, a1, a2, a3, a4, a5, a6⟩ := h
  exact ⟨Nat.lt_of_lt_of_le h0 hb.size, (hb.cell (p := ⟨p, 0, none⟩) h0).trans a0, (hb.cell (p := ⟨p, 1, none⟩) h0).trans a1, (hb.cell (p := ⟨p, 2, none⟩) h0).trans a2, (hb.cell (p := ⟨p, 3, none⟩) h0).trans a3, (hb.cell (p := ⟨p, 4, none⟩) h0).trans a4, (hb.cell (p := ⟨p, 5, none⟩) h0).trans a5, (hb.cell (p := ⟨p, 6, none⟩) h0).trans a6⟩
theorem LnAt.new (w : World) (k op d a b n : Int) (s : ByteArray) (t : TypeId) : LnAt (w.alloc (.cells #[.int .i64 k, .int .i64 op, .int .i64 d, .int .i64 a, .int .i64 b, .int .i32 n, .string s] t)) w.heap.size k op d a b n s := by
  have h := fun j => cell_of_row (w.alloc (.cells #[.int .i64 k, .int .i64 op, .int .i64 d, .int .i64 a, .int .i64 b, .int .i32 n, .string s] t)) w.heap.size j _ t (0, 0) (heap_alloc_new w _)
  refine ⟨by simp, ?_, ?_, ?_, ?_, ?_, ?_, ?_⟩ <;> rw [h] <;> rfl

theorem bounds_i32' {n : Int} (h : (Lit.int .i32 n).wf = true) : -2147483648 ≤ n ∧ n ≤ 2147483647 := by
  simp only [Lit.wf, Bool.and_eq_true, decide_eq_true_eq] at h
  exact h

theorem seven_of {α : Type} (cs : List α) (h : cs.length = 7) : ∃ a b c d e f g, cs = [a, b, c, d, e, f, g] := by
  match cs, h with
  | [a, b, c, d, e, f, g], _ => exact ⟨a, b, c, d, e, f, g, rfl⟩

/-- A line out of its reading. -/
theorem line_of {H : Type} {enc : TypeId × Value → H} {W : World} {base fuel : Nat} {spare : Nat → Bool} {held : Bool} {cs : List Value} {x : DataW H × List MemPlace}
    (h : DataW.trod enc Try.prog W base spare held fuel 39 cs = some x) :
    ∃ (k op d a b n : Int) (s : ByteArray), cs = [.int .i64 k, .int .i64 op, .int .i64 d, .int .i64 a, .int .i64 b, .int .i32 n, .string s] ∧ (-2147483648 ≤ n ∧ n ≤ 2147483647) ∧ s.size ≤ maxLen := by
  obtain ⟨xs, m, _, rfl, hl, hlen, hf⟩ := DataW.trod_struct Try.underlying39 h
  have hc : Try.prog.cellsOf 39 = 7 := by kernel_rfl
  have hc1 : Try.prog.cellsOf 3 = 1 := by kernel_rfl
  have hc2 : Try.prog.cellsOf 21 = 1 := by kernel_rfl
  have hc3 : Try.prog.cellsOf 9 = 1 := by kernel_rfl
  rw [hc] at hl
  obtain ⟨c0, c1, c2, c3, c4, c5, c6, rfl⟩ := seven_of cs hl
  obtain ⟨y0, y1, y2, y3, y4, y5, y6, rfl⟩ := seven_of xs hlen
  have g0 := hf 0 { name := "Kind", type := 3, offset := 0, embedded := false, tag := "", pkgPath := "", byteOffset := 0 } rfl
  have g1 := hf 1 { name := "Op", type := 3, offset := 1, embedded := false, tag := "", pkgPath := "", byteOffset := 8 } rfl
  have g2 := hf 2 { name := "D", type := 3, offset := 2, embedded := false, tag := "", pkgPath := "", byteOffset := 16 } rfl
  have g3 := hf 3 { name := "A", type := 3, offset := 3, embedded := false, tag := "", pkgPath := "", byteOffset := 24 } rfl
  have g4 := hf 4 { name := "B", type := 3, offset := 4, embedded := false, tag := "", pkgPath := "", byteOffset := 32 } rfl
  have g5 := hf 5 { name := "Num", type := 21, offset := 5, embedded := false, tag := "", pkgPath := "", byteOffset := 40 } rfl
  have g6 := hf 6 { name := "Sym", type := 9, offset := 6, embedded := false, tag := "", pkgPath := "", byteOffset := 48 } rfl
  simp only [hc1, hc2, hc3, List.drop_zero, List.drop_succ_cons, List.take_succ_cons, List.take_zero, List.getElem?_cons_zero, List.getElem?_cons_succ] at g0 g1 g2 g3 g4 g5 g6
  obtain ⟨n0, e0, -, -⟩ := DataW.trod_int Try.underlying3 g0
  obtain ⟨n1, e1, -, -⟩ := DataW.trod_int Try.underlying3 g1
  obtain ⟨n2, e2, -, -⟩ := DataW.trod_int Try.underlying3 g2
  obtain ⟨n3, e3, -, -⟩ := DataW.trod_int Try.underlying3 g3
  obtain ⟨n4, e4, -, -⟩ := DataW.trod_int Try.underlying3 g4
  obtain ⟨n5, e5, -, w5⟩ := DataW.trod_int Try.underlying21 g5
  obtain ⟨n6, e6, -, w6⟩ := DataW.trod_string Try.underlying9 g6
  simp only [List.cons.injEq, and_true] at e0 e1 e2 e3 e4 e5 e6
  subst e0 e1 e2 e3 e4 e5 e6
  exact ⟨n0, n1, n2, n3, n4, n5, n6, rfl, bounds_i32' w5, w6⟩
end Go.Proofs.Ytmedhibjkbahpaa
namespace Go.Proofs.Ytmedhibjkbahpaa
open Go.RowKit
set_option linter.unusedVariables false
set_option linter.unusedSimpArgs false
set_option maxRecDepth 100000

theorem quiet_left {P : Program} {f : FuncId} {args : Array Value} {w : World} {n : Nat} {v : Value}
    (h : Calls P f args (w.drewN n) fun e w' => e = .returned v ∧ w.drewN n = w') : Calls P f args (w.drewN n) fun e w'' => e = .returned v ∧ ∃ m, w'' = w.drewN m :=
  h.mono fun _ _ ⟨he, hm⟩ => ⟨he, n, hm.symm⟩
def shp (op : Int) : ByteArray :=
  if op = 1 ∨ op = 28 then ⟨#[68, 78]⟩ else if 2 ≤ op ∧ op ≤ 10 then ⟨#[68, 65, 78]⟩ else if 11 ≤ op ∧ op ≤ 23 then ⟨#[68, 65, 66]⟩ else if op = 24 ∨ op = 29 then ⟨#[68, 80]⟩ else if op = 25 then ⟨#[66, 80]⟩ else if op = 26 ∨ op = 27 then ⟨#[65, 66, 78]⟩ else ⟨#[]⟩
def hA (op : Int) : Bool := decide (2 ≤ op ∧ op ≤ 23) || decide (op = 26 ∨ op = 27)
def hP (op : Int) : Bool := decide (op = 24 ∨ op = 25 ∨ op = 29)
theorem hAP (op : Int) (h1 : 1 ≤ op) (h2 : op ≤ 30) : (hA op || hP op) = hasAN (formN op.toNat) := by
  rcases ops30 op h1 h2 with rfl | rfl | rfl | rfl | rfl | rfl | rfl | rfl | rfl | rfl | rfl | rfl | rfl | rfl | rfl | rfl | rfl | rfl | rfl | rfl | rfl | rfl | rfl | rfl | rfl | rfl | rfl | rfl | rfl | rfl <;> decide
theorem shape_any (op : Int) (h1 : 1 ≤ op) (h2 : op ≤ 30) (w : World) : Calls Try.prog 33 #[.int .i64 op] w fun e w' => e = .returned (.string (shp op)) ∧ w = w' := by
  rcases ops30 op h1 h2 with rfl | rfl | rfl | rfl | rfl | rfl | rfl | rfl | rfl | rfl | rfl | rfl | rfl | rfl | rfl | rfl | rfl | rfl | rfl | rfl | rfl | rfl | rfl | rfl | rfl | rfl | rfl | rfl | rfl | rfl
  · exact shape_1 w
  · exact shape_2 w
  · exact shape_3 w
  · exact shape_4 w
  · exact shape_5 w
  · exact shape_6 w
  · exact shape_7 w
  · exact shape_8 w
  · exact shape_9 w
  · exact shape_10 w
  · exact shape_11 w
  · exact shape_12 w
  · exact shape_13 w
  · exact shape_14 w
  · exact shape_15 w
  · exact shape_16 w
  · exact shape_17 w
  · exact shape_18 w
  · exact shape_19 w
  · exact shape_20 w
  · exact shape_21 w
  · exact shape_22 w
  · exact shape_23 w
  · exact shape_24 w
  · exact shape_25 w
  · exact shape_26 w
  · exact shape_27 w
  · exact shape_28 w
  · exact shape_29 w
  · exact shape_30 w
theorem hs_D (op : Int) (h1 : 1 ≤ op) (h2 : op ≤ 30) (w : World) : Calls Try.prog 36 #[.string (shp op), .int .u8 68] w fun e w' => e = .returned (.bool (hasDN (formN op.toNat))) ∧ w = w' := by
  rcases ops30 op h1 h2 with rfl | rfl | rfl | rfl | rfl | rfl | rfl | rfl | rfl | rfl | rfl | rfl | rfl | rfl | rfl | rfl | rfl | rfl | rfl | rfl | rfl | rfl | rfl | rfl | rfl | rfl | rfl | rfl | rfl | rfl
  · exact has_DN_D w
  · exact has_DAN_D w
  · exact has_DAN_D w
  · exact has_DAN_D w
  · exact has_DAN_D w
  · exact has_DAN_D w
  · exact has_DAN_D w
  · exact has_DAN_D w
  · exact has_DAN_D w
  · exact has_DAN_D w
  · exact has_DAB_D w
  · exact has_DAB_D w
  · exact has_DAB_D w
  · exact has_DAB_D w
  · exact has_DAB_D w
  · exact has_DAB_D w
  · exact has_DAB_D w
  · exact has_DAB_D w
  · exact has_DAB_D w
  · exact has_DAB_D w
  · exact has_DAB_D w
  · exact has_DAB_D w
  · exact has_DAB_D w
  · exact has_DP_D w
  · exact has_BP_D w
  · exact has_ABN_D w
  · exact has_ABN_D w
  · exact has_DN_D w
  · exact has_DP_D w
  · exact has_no_D w
theorem hs_A (op : Int) (h1 : 1 ≤ op) (h2 : op ≤ 30) (w : World) : Calls Try.prog 36 #[.string (shp op), .int .u8 65] w fun e w' => e = .returned (.bool (hA op)) ∧ w = w' := by
  rcases ops30 op h1 h2 with rfl | rfl | rfl | rfl | rfl | rfl | rfl | rfl | rfl | rfl | rfl | rfl | rfl | rfl | rfl | rfl | rfl | rfl | rfl | rfl | rfl | rfl | rfl | rfl | rfl | rfl | rfl | rfl | rfl | rfl
  · exact has_DN_A w
  · exact has_DAN_A w
  · exact has_DAN_A w
  · exact has_DAN_A w
  · exact has_DAN_A w
  · exact has_DAN_A w
  · exact has_DAN_A w
  · exact has_DAN_A w
  · exact has_DAN_A w
  · exact has_DAN_A w
  · exact has_DAB_A w
  · exact has_DAB_A w
  · exact has_DAB_A w
  · exact has_DAB_A w
  · exact has_DAB_A w
  · exact has_DAB_A w
  · exact has_DAB_A w
  · exact has_DAB_A w
  · exact has_DAB_A w
  · exact has_DAB_A w
  · exact has_DAB_A w
  · exact has_DAB_A w
  · exact has_DAB_A w
  · exact has_DP_A w
  · exact has_BP_A w
  · exact has_ABN_A w
  · exact has_ABN_A w
  · exact has_DN_A w
  · exact has_DP_A w
  · exact has_no_A w
theorem hs_P (op : Int) (h1 : 1 ≤ op) (h2 : op ≤ 30) (w : World) : Calls Try.prog 36 #[.string (shp op), .int .u8 80] w fun e w' => e = .returned (.bool (hP op)) ∧ w = w' := by
  rcases ops30 op h1 h2 with rfl | rfl | rfl | rfl | rfl | rfl | rfl | rfl | rfl | rfl | rfl | rfl | rfl | rfl | rfl | rfl | rfl | rfl | rfl | rfl | rfl | rfl | rfl | rfl | rfl | rfl | rfl | rfl | rfl | rfl
  · exact has_DN_P w
  · exact has_DAN_P w
  · exact has_DAN_P w
  · exact has_DAN_P w
  · exact has_DAN_P w
  · exact has_DAN_P w
  · exact has_DAN_P w
  · exact has_DAN_P w
  · exact has_DAN_P w
  · exact has_DAN_P w
  · exact has_DAB_P w
  · exact has_DAB_P w
  · exact has_DAB_P w
  · exact has_DAB_P w
  · exact has_DAB_P w
  · exact has_DAB_P w
  · exact has_DAB_P w
  · exact has_DAB_P w
  · exact has_DAB_P w
  · exact has_DAB_P w
  · exact has_DAB_P w
  · exact has_DAB_P w
  · exact has_DAB_P w
  · exact has_DP_P w
  · exact has_BP_P w
  · exact has_ABN_P w
  · exact has_ABN_P w
  · exact has_DN_P w
  · exact has_DP_P w
  · exact has_no_P w
theorem hs_B (op : Int) (h1 : 1 ≤ op) (h2 : op ≤ 30) (w : World) : Calls Try.prog 36 #[.string (shp op), .int .u8 66] w fun e w' => e = .returned (.bool (hasBN (formN op.toNat))) ∧ w = w' := by
  rcases ops30 op h1 h2 with rfl | rfl | rfl | rfl | rfl | rfl | rfl | rfl | rfl | rfl | rfl | rfl | rfl | rfl | rfl | rfl | rfl | rfl | rfl | rfl | rfl | rfl | rfl | rfl | rfl | rfl | rfl | rfl | rfl | rfl
  · exact has_DN_B w
  · exact has_DAN_B w
  · exact has_DAN_B w
  · exact has_DAN_B w
  · exact has_DAN_B w
  · exact has_DAN_B w
  · exact has_DAN_B w
  · exact has_DAN_B w
  · exact has_DAN_B w
  · exact has_DAN_B w
  · exact has_DAB_B w
  · exact has_DAB_B w
  · exact has_DAB_B w
  · exact has_DAB_B w
  · exact has_DAB_B w
  · exact has_DAB_B w
  · exact has_DAB_B w
  · exact has_DAB_B w
  · exact has_DAB_B w
  · exact has_DAB_B w
  · exact has_DAB_B w
  · exact has_DAB_B w
  · exact has_DAB_B w
  · exact has_DP_B w
  · exact has_BP_B w
  · exact has_ABN_B w
  · exact has_ABN_B w
  · exact has_DN_B w
  · exact has_DP_B w
  · exact has_no_B w
theorem rnum_any (op n : Int) (h1 : 1 ≤ op) (h2 : op ≤ 30) (b1 : -2147483648 ≤ n) (b2 : n ≤ 2147483647) (w : World) : Calls Try.prog 34 #[.int .i64 op, .int .i32 n] w fun e w' => e = .returned (.bool (numOk (formN op.toNat) n)) ∧ w = w' := by
  rcases ops30 op h1 h2 with rfl | rfl | rfl | rfl | rfl | rfl | rfl | rfl | rfl | rfl | rfl | rfl | rfl | rfl | rfl | rfl | rfl | rfl | rfl | rfl | rfl | rfl | rfl | rfl | rfl | rfl | rfl | rfl | rfl | rfl
  · exact rnum_1 n b1 b2 w
  · exact rnum_2 n b1 b2 w
  · exact rnum_3 n b1 b2 w
  · exact rnum_4 n b1 b2 w
  · exact rnum_5 n b1 b2 w
  · exact rnum_6 n b1 b2 w
  · exact rnum_7 n b1 b2 w
  · exact rnum_8 n b1 b2 w
  · exact rnum_9 n b1 b2 w
  · exact rnum_10 n b1 b2 w
  · exact rnum_11 n b1 b2 w
  · exact rnum_12 n b1 b2 w
  · exact rnum_13 n b1 b2 w
  · exact rnum_14 n b1 b2 w
  · exact rnum_15 n b1 b2 w
  · exact rnum_16 n b1 b2 w
  · exact rnum_17 n b1 b2 w
  · exact rnum_18 n b1 b2 w
  · exact rnum_19 n b1 b2 w
  · exact rnum_20 n b1 b2 w
  · exact rnum_21 n b1 b2 w
  · exact rnum_22 n b1 b2 w
  · exact rnum_23 n b1 b2 w
  · exact rnum_24 n b1 b2 w
  · exact rnum_25 n b1 b2 w
  · exact rnum_26 n b1 b2 w
  · exact rnum_27 n b1 b2 w
  · exact rnum_28 n b1 b2 w
  · exact rnum_29 n b1 b2 w
  · exact rnum_30 n b1 b2 w
set_option maxHeartbeats 3200000 in
theorem rmayLine_any (op d a b n : Int) (b1 : -2147483648 ≤ n) (b2 : n ≤ 2147483647) (w : World) :
    Calls Try.prog 15 #[.agg #[.int .i64 2, .int .i64 op, .int .i64 d, .int .i64 a, .int .i64 b, .int .i32 n, .string ⟨#[]⟩]] w fun e w' => e = .returned (.bool (mayI ⟨op, d, a, b, n⟩)) ∧ Below w.heap.size w w' := by
  by_cases hop : 1 ≤ op ∧ op ≤ 30
  · obtain ⟨h1, h2⟩ := hop
    have HM : mayI ⟨op, d, a, b, n⟩ = (regOk (hasDN (formN op.toNat)) d && regOk (hasAN (formN op.toNat)) a && regOk (hasBN (formN op.toNat)) b && numOk (formN op.toNat) n) := by
      simp [mayI, h1, h2]
    rw [HM, ← hAP op h1 h2]
    have C1 := Lib.hid (shape_any op h1 h2)
    have C2 := Lib.hid (rnum_any op n h1 h2 b1 b2)
    have C3 := Lib.hid (hs_D op h1 h2)
    have C4 := Lib.hid (hs_A op h1 h2)
    have C5 := Lib.hid (hs_P op h1 h2)
    have C6 := Lib.hid (hs_B op h1 h2)
    have K1 := reg_any (hasDN (formN op.toNat)) d
    have K2 := reg_any (hA op || hP op) a
    have K3 := reg_any (hasBN (formN op.toNat)) b
    clear HM
    generalize regOk (hasDN (formN op.toNat)) d = q1 at *
    generalize regOk (hA op || hP op) a = q2 at *
    generalize regOk (hasBN (formN op.toNat)) b = q3 at *
    generalize numOk (formN op.toNat) n = q0 at *
    generalize hasDN (formN op.toNat) = x1 at *
    generalize hA op = x2 at *
    generalize hP op = x3 at *
    generalize hasBN (formN op.toNat) = x4 at *
    generalize shp op = sh at *
    have R1 := Lib.hid K1
    have R3 := Lib.hid K3
    clear K1 K3
    obtain ⟨v0, hv0⟩ : ∃ v0, w.heap.size = v0 := ⟨_, rfl⟩
    obtain ⟨W0, hW0⟩ : ∃ W0, w.alloc (.cells #[.int .i64 2, .int .i64 op, .int .i64 d, .int .i64 a, .int .i64 b, .int .i32 n, .string ⟨#[]⟩] 39) = W0 := ⟨_, rfl⟩
    have hB0 : Below w.heap.size w W0 := by rw [← hW0]; exact (Below.refl _ _).alloc (Nat.le_refl _) _
    have hLn : LnAt W0 v0 2 op d a b n ⟨#[]⟩ := by rw [← hW0, ← hv0]; exact LnAt.new _ _ _ _ _ _ _ _ _
    obtain ⟨-, z0, z1, z2, z3, z4, z5, z6⟩ := hLn
    have q9 : W0.drew.cell? ⟨v0, 2, none⟩ = some (.int .i64 d) ∧ W0.drew.cell? ⟨v0, 3, none⟩ = some (.int .i64 a) ∧ W0.drew.cell? ⟨v0, 4, none⟩ = some (.int .i64 b) := ⟨z2, z3, z4⟩
    have HB0 := Lib.hid hB0
    clear hB0
    have hl1 : decide (op < 1) = false := by simp; omega
    have hl2 : decide (30 < op) = false := by simp; omega
    clear h1 h2
    cases q0
    · have R2 := Lib.hid K2
      clear K2
      simp only [Bool.and_false]
      go_enter Try.func15, Try.ntmps15
      go_wp2_with (first
        | (go_at_call 33; (with_reducible refine (C1.out _).mono ?_); rintro e w' ⟨rfl, rfl⟩)
        | (go_at_call 34; (with_reducible refine (C2.out _).mono ?_); rintro e w' ⟨rfl, rfl⟩))
      go_ret
      exact ⟨rfl, HB0.out⟩
    · cases q1
      · have R2 := Lib.hid K2
        clear K2
        go_enter Try.func15, Try.ntmps15
        go_wp2_with (first
          | (go_at_call 33; (with_reducible refine (C1.out _).mono ?_); rintro e w' ⟨rfl, rfl⟩)
          | (go_at_call 34; (with_reducible refine (C2.out _).mono ?_); rintro e w' ⟨rfl, rfl⟩))
        go_big_quiet ((first | (go_at_call 36; with_reducible exact quiet_left (C3.out _)) | (go_at_call 36; with_reducible exact quiet_left (C4.out _)) | (go_at_call 36; with_reducible exact quiet_left (C5.out _)) | (go_at_call 36; with_reducible exact quiet_left (C6.out _)) | (go_at_call 35; with_reducible exact quiet_left (R1.out _)) | (go_at_call 35; with_reducible exact quiet_left (R2.out _)) | (go_at_call 35; with_reducible exact quiet_left (R3.out _))))
        go_wp2
        go_ret
        exact ⟨rfl, below_drewN HB0.out _⟩
      · cases x2
        · simp only [Bool.false_or] at K2
          have R2 := Lib.hid K2
          clear K2
          cases q2
          · go_enter Try.func15, Try.ntmps15
            go_wp2_with (first
              | (go_at_call 33; (with_reducible refine (C1.out _).mono ?_); rintro e w' ⟨rfl, rfl⟩)
              | (go_at_call 34; (with_reducible refine (C2.out _).mono ?_); rintro e w' ⟨rfl, rfl⟩))
            go_big_quiet ((first | (go_at_call 36; with_reducible exact quiet_left (C3.out _)) | (go_at_call 36; with_reducible exact quiet_left (C4.out _)) | (go_at_call 36; with_reducible exact quiet_left (C5.out _)) | (go_at_call 36; with_reducible exact quiet_left (C6.out _)) | (go_at_call 35; with_reducible exact quiet_left (R1.out _)) | (go_at_call 35; with_reducible exact quiet_left (R2.out _)) | (go_at_call 35; with_reducible exact quiet_left (R3.out _))))
            go_wp2
            go_ret
            exact ⟨rfl, below_drewN HB0.out _⟩
          · cases q3
            · go_enter Try.func15, Try.ntmps15
              go_wp2_with (first
                | (go_at_call 33; (with_reducible refine (C1.out _).mono ?_); rintro e w' ⟨rfl, rfl⟩)
                | (go_at_call 34; (with_reducible refine (C2.out _).mono ?_); rintro e w' ⟨rfl, rfl⟩))
              go_big_quiet ((first | (go_at_call 36; with_reducible exact quiet_left (C3.out _)) | (go_at_call 36; with_reducible exact quiet_left (C4.out _)) | (go_at_call 36; with_reducible exact quiet_left (C5.out _)) | (go_at_call 36; with_reducible exact quiet_left (C6.out _)) | (go_at_call 35; with_reducible exact quiet_left (R1.out _)) | (go_at_call 35; with_reducible exact quiet_left (R2.out _)) | (go_at_call 35; with_reducible exact quiet_left (R3.out _))))
              go_wp2
              go_ret
              exact ⟨rfl, below_drewN HB0.out _⟩
            · go_enter Try.func15, Try.ntmps15
              go_wp2_with (first
                | (go_at_call 33; (with_reducible refine (C1.out _).mono ?_); rintro e w' ⟨rfl, rfl⟩)
                | (go_at_call 34; (with_reducible refine (C2.out _).mono ?_); rintro e w' ⟨rfl, rfl⟩))
              go_big_quiet ((first | (go_at_call 36; with_reducible exact quiet_left (C3.out _)) | (go_at_call 36; with_reducible exact quiet_left (C4.out _)) | (go_at_call 36; with_reducible exact quiet_left (C5.out _)) | (go_at_call 36; with_reducible exact quiet_left (C6.out _)) | (go_at_call 35; with_reducible exact quiet_left (R1.out _)) | (go_at_call 35; with_reducible exact quiet_left (R2.out _)) | (go_at_call 35; with_reducible exact quiet_left (R3.out _))))
              go_wp2
              go_ret
              exact ⟨rfl, below_drewN HB0.out _⟩
        · simp only [Bool.true_or] at K2
          have R2 := Lib.hid K2
          clear K2
          cases q2
          · go_enter Try.func15, Try.ntmps15
            go_wp2_with (first
              | (go_at_call 33; (with_reducible refine (C1.out _).mono ?_); rintro e w' ⟨rfl, rfl⟩)
              | (go_at_call 34; (with_reducible refine (C2.out _).mono ?_); rintro e w' ⟨rfl, rfl⟩))
            go_big_quiet ((first | (go_at_call 36; with_reducible exact quiet_left (C3.out _)) | (go_at_call 36; with_reducible exact quiet_left (C4.out _)) | (go_at_call 36; with_reducible exact quiet_left (C5.out _)) | (go_at_call 36; with_reducible exact quiet_left (C6.out _)) | (go_at_call 35; with_reducible exact quiet_left (R1.out _)) | (go_at_call 35; with_reducible exact quiet_left (R2.out _)) | (go_at_call 35; with_reducible exact quiet_left (R3.out _))))
            go_wp2
            go_ret
            exact ⟨rfl, below_drewN HB0.out _⟩
          · cases q3
            · go_enter Try.func15, Try.ntmps15
              go_wp2_with (first
                | (go_at_call 33; (with_reducible refine (C1.out _).mono ?_); rintro e w' ⟨rfl, rfl⟩)
                | (go_at_call 34; (with_reducible refine (C2.out _).mono ?_); rintro e w' ⟨rfl, rfl⟩))
              go_big_quiet ((first | (go_at_call 36; with_reducible exact quiet_left (C3.out _)) | (go_at_call 36; with_reducible exact quiet_left (C4.out _)) | (go_at_call 36; with_reducible exact quiet_left (C5.out _)) | (go_at_call 36; with_reducible exact quiet_left (C6.out _)) | (go_at_call 35; with_reducible exact quiet_left (R1.out _)) | (go_at_call 35; with_reducible exact quiet_left (R2.out _)) | (go_at_call 35; with_reducible exact quiet_left (R3.out _))))
              go_wp2
              go_ret
              exact ⟨rfl, below_drewN HB0.out _⟩
            · go_enter Try.func15, Try.ntmps15
              go_wp2_with (first
                | (go_at_call 33; (with_reducible refine (C1.out _).mono ?_); rintro e w' ⟨rfl, rfl⟩)
                | (go_at_call 34; (with_reducible refine (C2.out _).mono ?_); rintro e w' ⟨rfl, rfl⟩))
              go_big_quiet ((first | (go_at_call 36; with_reducible exact quiet_left (C3.out _)) | (go_at_call 36; with_reducible exact quiet_left (C4.out _)) | (go_at_call 36; with_reducible exact quiet_left (C5.out _)) | (go_at_call 36; with_reducible exact quiet_left (C6.out _)) | (go_at_call 35; with_reducible exact quiet_left (R1.out _)) | (go_at_call 35; with_reducible exact quiet_left (R2.out _)) | (go_at_call 35; with_reducible exact quiet_left (R3.out _))))
              go_wp2
              go_ret
              exact ⟨rfl, below_drewN HB0.out _⟩
  · have HM : mayI ⟨op, d, a, b, n⟩ = false := by
      simp only [not_and, Int.not_le] at hop
      unfold mayI
      by_cases h1 : 1 ≤ op
      · have := hop h1
        simp only [show decide (op ≤ 30) = false from by simp; omega, Bool.and_false, Bool.false_and]
      · simp only [show decide (1 ≤ op) = false from by simp; omega, Bool.false_and]
    rw [HM]
    by_cases h : op < 1
    · have C := Lib.hid (shape_lo op h)
      clear hop HM
      go_enter Try.func15, Try.ntmps15
      go_wp2_with (go_at_call 33; refine (C.out _).mono ?_; rintro e w' ⟨rfl, rfl⟩)
      go_ret
      exact ⟨rfl, (Below.refl _ _).alloc (Nat.le_refl _) _⟩
    · have h9 : 30 < op := by omega
      have C := Lib.hid (shape_hi op h9)
      clear hop HM
      go_enter Try.func15, Try.ntmps15
      go_wp2_with (go_at_call 33; refine (C.out _).mono ?_; rintro e w' ⟨rfl, rfl⟩)
      go_ret
      exact ⟨rfl, (Below.refl _ _).alloc (Nat.le_refl _) _⟩
end Go.Proofs.Ytmedhibjkbahpaa
