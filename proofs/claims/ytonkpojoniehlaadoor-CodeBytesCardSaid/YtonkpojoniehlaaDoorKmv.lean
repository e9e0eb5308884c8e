/-
  Lines in memory, many of them; contract of code.Bytes.
-/
import Derived.Test.YtonkpojoniehlaaDoorSlw
import Derived.Test.YtonkpojoniehlaaDoorKmu
namespace Go.Proofs.YtonkpojoniehlaaDoor
open Go.RowKit
set_option linter.unusedVariables false
set_option linter.unusedSimpArgs false
set_option maxRecDepth 100000

theorem reg_up19 (x : Nat) (h : x < 32) : x * 2 ^ 7 < 4294967296 ∧ x * 2 ^ 15 < 4294967296 ∧ x * 2 ^ 20 < 4294967296 := by omega
theorem word_lt19 (op D A B N : Nat) (ho : op < 31) (hD : D < 32) (hA : A < 32) (hB : B < 32) : encN op D A B N < 4294967296 := by
  have h1 := reg_up19 D hD
  have h2 := reg_up19 A hA
  have h3 := reg_up19 B hB
  have hs := stamp_lt op ho
  have hl := laid_lt (formN op) N
  have hS : stampW (lowN op) (midN op) (highN op) < 4294967296 := or_lt _ _ (or_lt _ _ hs.1 hs.2.1) hs.2.2
  unfold encN wordW
  exact or_lt _ _ (or_lt _ _ (or_lt _ _ (or_lt _ _ hS h1.1) h2.2.1) h3.2.2) hl
theorem enc_lt19 {i : Ins} {v : Nat} (h : encI i = some v) : v < 4294967296 := by
  obtain ⟨hm, hv⟩ := enc_some h
  obtain ⟨ho, hd, ha, hb⟩ := may_nat _ hm
  rw [← hv]
  exact word_lt19 _ _ _ _ _ (by omega) (by omega) (by omega) (by omega)
structure Ln where
  k : Int
  op : Int
  d : Int
  a : Int
  b : Int
  n : Int
  s : ByteArray
def Ln.ins (l : Ln) : Ins := ⟨l.op, l.d, l.a, l.b, l.n⟩
def Ln.cells (l : Ln) : List Value := [.int .i64 l.k, .int .i64 l.op, .int .i64 l.d, .int .i64 l.a, .int .i64 l.b, .int .i32 l.n, .string l.s]
def Ln.enc (l : Ln) : Option Nat := encV l.k l.s l.ins
def Ln.ok (l : Ln) : Prop := -2147483648 ≤ l.n ∧ l.n ≤ 2147483647
/-- Lines in memory. -/
def LnsAt (w : World) (A : Option Addr) (n : Nat) (ls : List Ln) : Prop :=
  ls.length = n ∧ (∀ l ∈ ls, l.ok) ∧ (0 < n → ∃ g off, A = some ⟨g, off, none⟩ ∧ g < w.heap.size ∧ ∀ i l, ls[i]? = some l → ∀ j v, l.cells[j]? = some v → w.cell? ⟨g, off + i * 7 + j, none⟩ = some v)
theorem LnsAt.below {w w' : World} {A : Option Addr} {n : Nat} {ls : List Ln} (h : LnsAt w A n ls) (hb : Below w.heap.size w w') : LnsAt w' A n ls := by
  refine ⟨h.1, h.2.1, fun hn => ?_⟩
  obtain ⟨g, off, e, hg, hc⟩ := h.2.2 hn
  exact ⟨g, off, e, Nat.lt_of_lt_of_le hg hb.size, fun i l hi j v hj => (hb.cell (p := ⟨g, off + i * 7 + j, none⟩) hg).trans (hc i l hi j v hj)⟩
theorem LnsAt.take {w : World} {A : Option Addr} {n m : Nat} {ls : List Ln} (h : LnsAt w A n ls) (hm : m ≤ n) : LnsAt w A m (ls.take m) := by
  refine ⟨by rw [List.length_take, h.1]; omega, fun l hl => h.2.1 l (List.mem_of_mem_take hl), fun hn => ?_⟩
  obtain ⟨g, off, e, hg, hc⟩ := h.2.2 (by omega)
  refine ⟨g, off, e, hg, fun i l hi j v hj => hc i l ?_ j v hj⟩
  rw [List.getElem?_take] at hi
  split at hi
  · exact hi
  · cases hi

/-- The bytes of a word, the lowest first. -/
def bytesN (v : Nat) : List Int := [(v : Int) % 256, (v : Int) / 256 % 256, (v : Int) / 65536 % 256, (v : Int) / 16777216]
def bytesL (ls : List Ln) : List Int := ls.flatMap fun l => bytesN (l.enc.getD 0)
def allE (ls : List Ln) : Bool := ls.all fun l => l.enc.isSome

theorem new_cells19 (W : World) (news : List Value) (T : TypeId) : ∀ j u, news[j]? = some u → (W.alloc (.cells news.toArray T)).cell? ((⟨W.heap.size, 0, none⟩ : Addr).add j) = some u := by
  intro j u hu
  have e9 : (⟨W.heap.size, 0, none⟩ : Addr).add j = ⟨W.heap.size, j, none⟩ := by unfold Addr.add; split <;> simp_all
  rw [e9, cell_of_row _ W.heap.size j _ _ (0, 0) (heap_alloc_new W _)]
  rw [← hu]
  simp
theorem push_s19 (s : Nat) (w : World) (t e ty : TypeId) (z : Value) (bytes : Nat) (ht : Tryd.prog.underlying t = some (.slice e)) (hinfo : (Tryd.prog.info? e).map (fun i => (i.zero, i.size, i.bytes)) = some (some z, s, bytes)) (hz1 : z.cells.size = s) (hby : bytes ≤ 256)
    (C : Option Addr) (n c : Nat) (xs : List Value) (h : SLine s w C n c xs) (hn : n ≤ 100000) (news : List Value) (hnl : news.length = s) (h1 : ∀ u ∈ news, u.oneCell' = true) :
    ∃ C' c' w', (Builtin.append_ #[t, t] ty #[.slice C n c, .slice (some ⟨w.heap.size, 0, none⟩) 1 1]).run Tryd.prog (w.alloc (.cells news.toArray e)) = .ok (.slice C' (n + 1) c') w' ∧ SLine s w' C' (n + 1) c' (xs ++ news) ∧ Chg (blk C) w w' ∧ (∀ k ∈ blk C', k ∈ blk C ∨ w.heap.size ≤ k) ∧ C' ≠ none := by
  have hb : Below w.heap.size w (w.alloc (.cells news.toArray e)) := (Below.refl _ w).alloc (Nat.le_refl _) _
  have hs : (w.alloc (.cells news.toArray e)).heap.size = w.heap.size + 1 := by simp
  have hsrc : Src Tryd.prog s t (.slice (some ⟨w.heap.size, 0, none⟩) 1 1) 1 news (w.alloc (.cells news.toArray e)) := Src.ofSlice _ ht ⟨w.heap.size, 0, none⟩ 1 1 news (by rw [hnl, Nat.one_mul]) (new_cells19 w _ _) h1
  obtain ⟨C', c', w', hr, hl, hc, hf, hne⟩ := sline_append s (w.alloc (.cells news.toArray e)) t e ty z bytes ht hinfo hz1 hby C n c xs (h.below hb) (by omega) _ 1 (by omega) (fun _ => by omega) _ hsrc
  exact ⟨C', c', w', hr, hl, (Chg.of_below hb).trans hc, fun k hk => by
    rcases hf k hk with h1 | h1
    · exact .inl h1
    · exact .inr (by omega), hne⟩
theorem infoU8 : (Tryd.prog.info? 5).map (fun i => (i.zero, i.size, i.bytes)) = some (some (.int .u8 0), 1, 1) := by kernel_rfl
theorem infoLn : (Tryd.prog.info? 23).map (fun i => (i.zero, i.size, i.bytes)) = some (some (.agg #[.int .i64 0, .int .i64 0, .int .i64 0, .int .i64 0, .int .i64 0, .int .i32 0, .string ⟨#[]⟩]), 7, 64) := by kernel_rfl
/-- A byte more behind those that a call made itself. -/
theorem byte_push (B : Nat) (w0 w : World) (A : Option Addr) (n c : Nat) (xs : List Int) (h : SLine 1 w A n c (cellsZ xs)) (hf : ∀ k ∈ blk A, B ≤ k) (hb : Below B w0 w) (hB : B ≤ w.heap.size) (hn : n ≤ 100000) (x : Int) :
    ∃ A' c' w', (Builtin.append_ #[37, 37] 37 #[.slice A n c, .slice (some ⟨w.heap.size, 0, none⟩) 1 1]).run Tryd.prog (w.alloc (.cells #[.int .u8 x] 5)) = .ok (.slice A' (n + 1) c') w' ∧ SLine 1 w' A' (n + 1) c' (cellsZ (xs ++ [x])) ∧ (∀ k ∈ blk A', B ≤ k) ∧ Below B w0 w' := by
  obtain ⟨A', c', w', hr, hl, hc, hf', -⟩ := push_s19 1 w 37 5 37 _ 1 Tryd.underlying37 infoU8 rfl (by decide) A n c _ h hn [.int .u8 x] rfl (by intro u hu; simp at hu; rw [hu]; rfl)
  exact ⟨A', c', w', hr, by rw [show cellsZ (xs ++ [x]) = cellsZ xs ++ [.int .u8 x] from by simp [cellsZ]]; exact hl, fun k hk => by
    rcases hf' k hk with h1 | h1
    · exact hf k h1
    · omega, hb.trans (hc.toBelow hf hB)⟩
/-- A line more behind those that a call made itself. -/
theorem ln_push (B : Nat) (w0 w : World) (A : Option Addr) (n c : Nat) (xs : List Value) (h : SLine 7 w A n c xs) (hf : ∀ k ∈ blk A, B ≤ k) (hb : Below B w0 w) (hB : B ≤ w.heap.size) (hn : n ≤ 100000) (l : Ln) :
    ∃ A' c' w', (Builtin.append_ #[36, 36] 36 #[.slice A n c, .slice (some ⟨w.heap.size, 0, none⟩) 1 1]).run Tryd.prog (w.alloc (.cells #[.int .i64 l.k, .int .i64 l.op, .int .i64 l.d, .int .i64 l.a, .int .i64 l.b, .int .i32 l.n, .string l.s] 23)) = .ok (.slice A' (n + 1) c') w' ∧ SLine 7 w' A' (n + 1) c' (xs ++ l.cells) ∧ (∀ k ∈ blk A', B ≤ k) ∧ Below B w0 w' := by
  obtain ⟨A', c', w', hr, hl, hc, hf', -⟩ := push_s19 7 w 36 23 36 _ 64 Tryd.underlying36 infoLn rfl (by decide) A n c _ h hn l.cells rfl (by
    intro u hu
    simp only [Ln.cells, List.mem_cons, List.not_mem_nil, or_false] at hu
    rcases hu with h | h | h | h | h | h | h <;> (rw [h]; rfl))
  exact ⟨A', c', w', hr, hl, fun k hk => by
    rcases hf' k hk with h1 | h1
    · exact hf k h1
    · omega, hb.trans (hc.toBelow hf hB)⟩
theorem allE_take_no {ls : List Ln} {k : Nat} {l : Ln} (h : ls[k]? = some l) (he : l.enc = none) : allE ls = false := by
  cases e : allE ls with
  | false => rfl
  | true =>
    have := List.all_eq_true.1 e l (List.mem_of_getElem? h)
    rw [he] at this
    cases this
theorem allE_of {ls : List Ln} (h : ∀ (j : Nat) (l : Ln), ls[j]? = some l → l.enc.isSome = true) : allE ls = true :=
  List.all_eq_true.2 fun l hl => by
    obtain ⟨j, hj⟩ := List.getElem?_of_mem hl
    exact h j l hj
theorem bytesL_step {ls : List Ln} {k : Nat} {l : Ln} {v : Nat} (h : ls[k]? = some l) (he : l.enc = some v) :
    bytesL (ls.take k) ++ [(v : Int) % 256] ++ [(v : Int) / 256 % 256] ++ [(v : Int) / 65536 % 256] ++ [(v : Int) / 16777216] = bytesL (ls.take (k + 1)) := by
  rw [List.take_add_one, h]
  simp [bytesL, he, bytesN]
/-- What Bytes hands back. -/
def BytesOut (ls : List Ln) (w w' : World) (e : Ending) : Prop :=
  (allE ls = true ∧ ∃ O c, e = .returned (.tuple #[.slice O (4 * ls.length) c, .bool true]) ∧ SLine 1 w' O (4 * ls.length) c (cellsZ (bytesL ls)) ∧ ∀ k ∈ blk O, w.heap.size ≤ k) ∨
  (allE ls = false ∧ e = .returned (.tuple #[.slice none 0 0, .bool false]))
set_option maxHeartbeats 6400000 in
theorem bytes_any (w : World) (A : Option Addr) (n c : Nat) (ls : List Ln) (h : LnsAt w A n ls) (hn : n ≤ 1000) (hR : RowsOk w) :
    Calls Tryd.prog 16 #[.slice A n c] w fun e w' => BytesOut ls w w' e ∧ Below w.heap.size w w' := by
  have HL := Lib.hid h
  have HR := Lib.hid hR
  have HN := Lib.hid h.1
  have hn2 : (n : Int) ≤ 1000 := by omega
  clear h hR
  go_enter Tryd.func16, Tryd.ntmps16
  go_wp2_with fail
  go_loopw [4, 12] (fun v i wr => ∃ (k : Nat) (O : Option Addr) (oc : Nat), k ≤ n ∧ i = .int .i64 k ∧ v = .slice O (4 * k) oc ∧ Hid (SLine 1 wr O (4 * k) oc (cellsZ (bytesL (ls.take k))) ∧ (∀ b ∈ blk O, w.heap.size ≤ b) ∧ Below w.heap.size w wr ∧ ∀ j l, j < k → ls[j]? = some l → l.enc.isSome = true)) (fun _ i _ => n - (intOf i).toNat)
  case atStart => exact ⟨0, none, 0, by omega, rfl, rfl, Lib.hid ⟨SLine.nil 1 _, fun k hk => (by cases hk), Below.refl _ _, fun j l hj => by omega⟩⟩
  case round =>
    obtain ⟨k, O, oc, hk, rfl, rfl, HI⟩ := hrel
    rcases Nat.lt_or_ge k n with hlt | hge
    · have hlt' : (k : Int) < (n : Int) := by omega
      have hk0 : (0 : Int) ≤ (k : Int) := by omega
      obtain ⟨l, hl⟩ : ∃ l, ls[k]? = some l := ⟨_, List.getElem?_eq_getElem (by have := HN.out; omega)⟩
      have hok := HL.out.2.1 l (List.mem_of_getElem? hl)
      obtain ⟨g, off, rfl, hg, hc⟩ := HL.out.2.2 (by omega)
      have HLC := Lib.hid (hc k l hl)
      have HLW := Lib.hid (And.intro hl hg)
      obtain ⟨lk, lo, ld, la, lb, ln, lsym⟩ := l
      have hcell := fun j v hj => (HI.out.2.2.1.cell (p := ⟨g, off + k * 7 + j, none⟩) hg).trans (HLC.out j v hj)
      have d0 := hcell 0 _ rfl
      have d1 := hcell 1 _ rfl
      have d2 := hcell 2 _ rfl
      have d3 := hcell 3 _ rfl
      have d4 := hcell 4 _ rfl
      have d5 := hcell 5 _ rfl
      have d6 := hcell 6 _ rfl
      rw [Nat.add_zero] at d0
      have KE := fun w hR => encode_any lk lo ld la lb ln lsym hok.1 hok.2 w hR
      have hEnc : (Ln.mk lk lo ld la lb ln lsym).enc = encV lk lsym ⟨lo, ld, la, lb, ln⟩ := rfl
      have HEnc := Lib.hid hEnc
      clear hc hl hg hcell hok hEnc
      cases hE : encV lk lsym ⟨lo, ld, la, lb, ln⟩ with
      | none =>
        rw [hE] at KE
        simp only [Option.getD_none, Option.isSome_none] at KE
        have HK := Lib.hid KE
        have HA : Hid (allE ls = false) := Lib.hid (allE_take_no HLW.out.1 (by rw [HEnc.out]; exact hE))
        have HBB := Lib.hid (And.intro HI.out.2.2.1 (HR.out.below HI.out.2.2.1))
        clear KE hE
        go_wp2_with fail
        have hbx : Below wr.heap.size wr (wr.alloc (.cells #[.int .i64 lk, .int .i64 lo, .int .i64 ld, .int .i64 la, .int .i64 lb, .int .i32 ln, .string lsym] 23)) := (Below.refl _ _).alloc (Nat.le_refl _) _
        refine (HK.out _ (HBB.out.2.below hbx)).mono ?_
        rintro e w5 ⟨rfl, hb5⟩
        have HB5 := Lib.hid (HBB.out.1.trans ((hbx.trans (hb5.mono hbx.size)).mono HBB.out.1.size))
        clear hbx hb5
        go_wp2_with fail
        go_ret2
        exact ⟨.inr ⟨HA.out, rfl⟩, HB5.out⟩
      | some v =>
        rw [hE] at KE
        simp only [Option.getD_some, Option.isSome_some] at KE
        have HK := Lib.hid KE
        have HV := Lib.hid (show (Ln.mk lk lo ld la lb ln lsym).enc = some v from by rw [HEnc.out]; exact hE)
        have hvlt : v < 4294967296 := by
          unfold encV at hE
          split at hE
          · exact enc_lt19 hE
          · cases hE
        have hv2 : (v : Int) < 4294967296 := by omega
        clear KE hE
        go_wp2_with fail
        have hbx : Below wr.heap.size wr (wr.alloc (.cells #[.int .i64 lk, .int .i64 lo, .int .i64 ld, .int .i64 la, .int .i64 lb, .int .i32 ln, .string lsym] 23)) := (Below.refl _ _).alloc (Nat.le_refl _) _
        refine (HK.out _ ((HR.out.below HI.out.2.2.1).below hbx)).mono ?_
        rintro e w5 ⟨rfl, hb5⟩
        have hb6 := hbx.trans (hb5.mono hbx.size)
        have s5 := HI.out.1.below hb6
        have b5 := HI.out.2.2.1.trans (hb6.mono HI.out.2.2.1.size)
        have z5 : w.heap.size ≤ w5.heap.size := b5.size
        obtain ⟨O1, c1, w6, r1, s6, f6, b6⟩ := byte_push w.heap.size w w5 O (4 * k) oc _ s5 HI.out.2.1 b5 z5 (by omega) ((v : Int) % 256)
        obtain ⟨O2, c2, w7, r2, s7, f7, b7⟩ := byte_push w.heap.size w w6 O1 (4 * k + 1) c1 _ s6 f6 b6 b6.size (by omega) ((v : Int) / 256 % 256)
        obtain ⟨O3, c3, w8, r3, s8, f8, b8⟩ := byte_push w.heap.size w w7 O2 (4 * k + 1 + 1) c2 _ s7 f7 b7 b7.size (by omega) ((v : Int) / 65536 % 256)
        obtain ⟨O4, c4, w9, r4, s9, f9, b9⟩ := byte_push w.heap.size w w8 O3 (4 * k + 1 + 1 + 1) c3 _ s8 f8 b8 b8.size (by omega) ((v : Int) / 16777216)
        rw [bytesL_step HLW.out.1 HV.out] at s9
        have hst : ∀ j l, j < k + 1 → ls[j]? = some l → l.enc.isSome = true := fun j l hj hjl => by
          rcases Nat.lt_or_ge j k with q | q
          · exact HI.out.2.2.2 j l q hjl
          · obtain rfl : j = k := by omega
            rw [HLW.out.1] at hjl
            cases hjl
            rw [HV.out]; rfl
        have HN9 : Hid (SLine 1 w9 O4 (4 * (k + 1)) c4 (cellsZ (bytesL (ls.take (k + 1)))) ∧ (∀ b ∈ blk O4, w.heap.size ≤ b) ∧ Below w.heap.size w w9 ∧ ∀ j l, j < k + 1 → ls[j]? = some l → l.enc.isSome = true) := Lib.hid ⟨s9, f9, b9, hst⟩
        have R1 := Lib.hid r1
        have R2 := Lib.hid r2
        have R3 := Lib.hid r3
        have R4 := Lib.hid r4
        clear hbx hb5 hb6 s5 b5 z5 s6 f6 b6 s7 f7 b7 s8 f8 b8 s9 f9 b9 hst r1 r2 r3 r4
        go_wp2_with fail
        refine wp_loop_rounds 5 ?_
        rw [rounds_succ]
        go_wp2_with (at_builtin; refine Lib.wpList_append_run _ rfl _ _ _ _ rfl _ _ rfl rfl _ _ R1.out ?_)
        rw [rounds_succ]
        go_wp2_with (at_builtin; refine Lib.wpList_append_run _ rfl _ _ _ _ rfl _ _ rfl rfl _ _ R2.out ?_)
        rw [rounds_succ]
        go_wp2_with (at_builtin; refine Lib.wpList_append_run _ rfl _ _ _ _ rfl _ _ rfl rfl _ _ R3.out ?_)
        rw [rounds_succ]
        go_wp2_with (at_builtin; refine Lib.wpList_append_run _ rfl _ _ _ _ rfl _ _ rfl rfl _ _ R4.out ?_)
        rw [rounds_succ]
        go_wp2_with fail
        go_roundw
        case rel => exact ⟨k + 1, O4, c4, by omega, by go_num, by first | rfl | go_num, HN9⟩
        case measure => simp [intOf] <;> omega
    · obtain rfl : k = n := by omega
      have hall : allE ls = true := allE_of fun j l hj => HI.out.2.2.2 j l (by have := HN.out; have := (List.getElem?_eq_some_iff.1 hj).1; omega) hj
      have HO : Hid (BytesOut ls w wr (.returned (.tuple #[.slice O (4 * k) oc, .bool true])) ∧ Below w.heap.size w wr) := Lib.hid ⟨.inl ⟨hall, O, oc, by rw [HN.out], by
        have h := HI.out.1
        rw [List.take_of_length_le (by have := HN.out; omega)] at h
        rw [HN.out]
        exact h, HI.out.2.1⟩, HI.out.2.2.1⟩
      clear HI hall
      go_wp2_with fail
      go_ret2
      exact HO.out
end Go.Proofs.YtonkpojoniehlaaDoor
