/-
  The walk of the law LexerRises: it answers true and writes nothing that was there.
-/
import Derived.Test.YtkpgkobhnldhpaaDoorLexerBackW
import Derived.Test.YtkpgkobhnldhpaaDoorLexerAllW
import Derived.Test.YtkpgkobhnldhpaaDoorLxX
import Derived.Deep.Cut
import Derived.Deep.CutRange
import Derived.Deep.RegionHeld3
import Derived.IntWalk
namespace Go.Proofs.YtkpgkobhnldhpaaDoor
open Go.RowKit
set_option linter.unusedVariables false
set_option maxRecDepth 100000

theorem all_none (p : ByteArray) (hs : p.size ≤ 4000000000) (h : allN p.data.toList = .ok []) (W : World) : Calls Tryd.prog 12 #[.string p] W fun e w' => ∃ A c, e = .returned (.tuple #[.slice A 0 c, .int .i64 0, .int .i64 0]) ∧ Below W.heap.size W w' := (rall_any p hs W).mono fun e w' q => by
  unfold RAllOut at q
  rw [h] at q
  obtain ⟨A, c, he, _, _, hb⟩ := q
  exact ⟨A, c, he, hb⟩
theorem chain0 (text : List UInt8) (ts : List Tok) (h : Chain text 0 ts) (k : Nat) (t : Tok) (hk : ts[k]? = some t) : endAt ts k ≤ t.off ∧ t.off + t.txt.length ≤ text.length ∧ (text.drop t.off).take t.txt.length = t.txt ∧ t.txt ≠ [] ∧ skipN (text.drop (endAt ts k)) = (t.off - endAt ts k, true) := by
  have := chain_at text ts 0 h k t hk
  have e : (if k = 0 then 0 else endAt ts k) = endAt ts k := by
    split
    · subst k; rfl
    · rfl
  rw [e] at this
  exact this
theorem chain0_end (text : List UInt8) (ts : List Tok) (h : Chain text 0 ts) : skipN (text.drop (endAt ts ts.length)) = (text.length - endAt ts ts.length, true) ∧ endAt ts ts.length ≤ text.length := by
  have := chain_end text ts 0 h
  have e : (if ts.length = 0 then 0 else endAt ts ts.length) = endAt ts ts.length := by
    split
    · rename_i h0; rw [h0]; rfl
    · rfl
  rw [e] at this
  exact this
theorem endAt_succ (ts : List Tok) (k : Nat) (t : Tok) (h : ts[k]? = some t) : endAt ts (k + 1) = t.off + t.txt.length := by
  show (match ts[k]? with | some t => t.off + t.txt.length | none => 0) = _
  rw [h]
/-- What is so of a token's cells in a box. -/
def TkBox (w : World) (b : Nat) (t : Tk) : Prop := w.heap[b]? = some (.cells #[.int .i64 t.kd, .string t.tx, .int .i32 t.nm, .int .i64 t.o, .int .i64 t.l, .int .i64 t.c] 33 (0, 0))
theorem TkBox.facts {w : World} {b : Nat} {kd nm o l c : Int} {tx : ByteArray} (h : TkBox w b ⟨kd, tx, nm, o, l, c⟩) : w.cell? ⟨b, 1, none⟩ = some (.string tx) ∧ w.cell? ⟨b, 3, none⟩ = some (.int .i64 o) ∧ w.cell? ⟨b, 4, none⟩ = some (.int .i64 l) ∧ w.cell? ⟨b, 5, none⟩ = some (.int .i64 c) := by
  unfold TkBox at h
  refine ⟨?_, ?_, ?_, ?_⟩ <;> rw [cell_of_row _ b _ _ _ (0, 0) h] <;> rfl
theorem TkBox.on {w w1 w2 : World} {b : Nat} {t : Tk} (h : TkBox w b t) (h1 : w1.heap = w.heap) (hb : Below w1.heap.size w1 w2) : TkBox w2 b t := by
  have hl : b < w1.heap.size := by rw [h1]; exact lt_of_block h
  unfold TkBox at *
  rw [hb.block b hl, h1]
  exact h
theorem lexerRises_bad (s : ByteArray) (hs : s.size ≤ 2000) (W : World) (hL : Laid W) (er o : Nat) (h : allN s.data.toList = .bad er o) (hne : er ≠ 0) (a0 : ByteArray) (w0 : a0.size ≤ 9223372036854775807) (hcut : a0.extract 0 (min (a0.size : Int) 2000).toNat = s) :
    Calls Tryd.prog 7 #[.string a0] W fun e w' => e = .returned (.bool true) ∧ Below W.heap.size W w' := by
  have HL := Lib.hid hL
  have H1 := Lib.hid (one2 s (by omega) er o h er o rfl rfl)
  have hneb : ((er : Int) == 0) = false := by rw [beq_eq_false_iff_ne]; omega
  have hneq : ((er : Int) != 0) = true := by rw [bne_iff_ne]; omega
  have HC := Lib.hid hcut
  clear hL h hne hcut
  go_enter Tryd.func7, Tryd.ntmps7
  go_wp2_with (go_at_call 10; refine (lcut_any _ w0 _).mono ?_; rintro e w' ⟨rfl, rfl⟩)
  rw [HC.out]
  refine (H1.out _ HL.out).mono ?_
  rintro e w1 ⟨x, y, rfl, hB1⟩
  have HB1 := Lib.hid (hB1.alloc hB1.size (.cells #[.int .i64 (o : Int), .int .i64 x, .int .i64 y] 26))
  clear hB1
  go_wp2_with fail
  refine (lives_true _ (HL.out.below HB1.out)).mono ?_
  rintro e w5 ⟨rfl, hB6⟩
  have HB6 := Lib.hid (HB1.out.trans (hB6.mono HB1.out.size))
  clear hB6
  go_wp2
  go_ret
  exact ⟨rfl, HB6.out⟩
set_option maxHeartbeats 2000000 in
theorem lexerRises_ok (s : ByteArray) (hs : s.size ≤ 2000) (W : World) (hL : Laid W) (ts : List Tok) (h : allN s.data.toList = .ok ts) (hlen : ts.length ≤ 2000) (a0 : ByteArray) (w0 : a0.size ≤ 9223372036854775807) (hcut : a0.extract 0 (min (a0.size : Int) 2000).toNat = s) :
    Calls Tryd.prog 7 #[.string a0] W fun e w' => e = .returned (.bool true) ∧ Below W.heap.size W w' := by
  have HL := Lib.hid hL
  have H1 := Lib.hid (all_ok s (by omega) ts h)
  have HCH := Lib.hid (allN_chain s.data.toList ts h)
  have HC := Lib.hid hcut
  obtain ⟨n, hn⟩ : ∃ n, n = ts.length := ⟨_, rfl⟩
  rw [← hn] at hlen H1
  have HN := Lib.hid hn
  clear h hL hcut hn
  go_enter Tryd.func7, Tryd.ntmps7
  go_wp2_with (go_at_call 10; refine (lcut_any _ w0 _).mono ?_; rintro e w' ⟨rfl, rfl⟩)
  rw [HC.out]
  refine (H1.out _ HL.out).mono ?_
  rintro e w1 ⟨A, c, rfl, hr1, hc1, hB1⟩
  have HR1 := Lib.hid (hr1.below ((Below.refl _ w1).alloc (Nat.le_refl _) (.cells #[.int .i64 0, .int .i64 0, .int .i64 0] 26)))
  have HB1 := Lib.hid (hB1.alloc hB1.size (.cells #[.int .i64 0, .int .i64 0, .int .i64 0] 26))
  clear hr1 hB1
  go_wp2_with fail
  generalize w1.alloc (.cells #[.int .i64 0, .int .i64 0, .int .i64 0] 26) = V0 at *
  go_loopg [6, 29] (n + 1) (fun kx v i wr => ∃ k : Nat, k ≤ n ∧ v = .int .i64 (endAt ts k : Int) ∧ i = .int .i64 k ∧ Hid (Below V0.heap.size V0 wr ∧ Below W.heap.size W wr) ∧ n - k + 1 ≤ kx)
  case atStart => exact ⟨0, Nat.zero_le _, rfl, rfl, Lib.hid ⟨Below.refl _ _, HB1.out⟩, Nat.le_refl _⟩
  case round =>
    obtain ⟨k, hk, rfl, rfl, HI, hm⟩ := hrel
    by_cases hlt : k < n
    · obtain ⟨t, ht⟩ : ∃ t, ts[k]? = some t := ⟨_, List.getElem?_eq_getElem (by have := HN.out; omega)⟩
      obtain ⟨g1, g2, g3, g4, g5⟩ := chain0 _ ts HCH.out k t ht
      have hES := endAt_succ ts k t ht
      obtain ⟨g, off, rfl, hg, c0, c1, c2, c3, c4, c5⟩ := (HR1.out.below HI.out.1).2 k (tkOf s.data.toList t) (by rw [List.getElem?_map, ht]; rfl)
      have hat : ∀ W : World, Calls Tryd.prog 14 #[.string s, .int .i64 (t.off : Int)] W fun e w' => e = .returned (.agg #[.int .i64 (t.off : Int), .int .i64 (lineOf (s.data.toList.take t.off) : Int), .int .i64 (colOf (s.data.toList.take t.off) : Int)]) ∧ Below W.heap.size W w' := fun W => by
        rw [ba_length] at g2
        have h := rat_any s (by omega) (t.off : Int) (by omega) W
        have hc : clampO s.size (t.off : Int) = t.off := by unfold clampO; omega
        rw [hc] at h
        exact h
      have HG := Lib.hid (all_none (s.extract (endAt ts k) t.off) (by rw [ByteArray.size_extract]; omega) (by
        rw [extract_mid, strL_list]
        exact lex_gap _ _ g5 (by rw [ba_length] at g2; omega)))
      unfold tkOf at c0 c1 c2 c3 c4 c5
      dsimp only at c0 c1 c2 c3 c4 c5
      have htx : (strL t.txt).size = t.txt.length := strL_size _
      rw [← htx] at g2 hES
      rw [ba_length] at g2
      have hex : s.extract t.off (t.off + (strL t.txt).size) = strL t.txt := by
        rw [extract_mid, Nat.add_sub_cancel_left, htx, g3]
      obtain ⟨f1, f2⟩ := str_full _ g4
      have HES := Lib.hid hES
      have HAT := Lib.hid hat
      clear hat hES g3 g4 g5 htx ht
      generalize strL t.txt = tx at *
      generalize (lineOf (s.data.toList.take t.off) : Int) = l at *
      generalize (colOf (s.data.toList.take t.off) : Int) = cc at *
      generalize (t.kind : Int) = kd at *
      generalize (t.num : Int) = nm at *
      generalize t.off = q at *
      generalize hE : endAt ts k = E at *
      have HE := Lib.hid hE
      clear hE
      have hEs : E ≤ s.size := by omega
      have e1 : ¬ (q : Int) < (E : Int) := by omega
      have e2 : ¬ (q : Int) > (s.size : Int) - (tx.size : Int) := by omega
      have hbx : TkBox (wr.alloc (.cells #[.int .i64 kd, .string tx, .int .i32 nm, .int .i64 q, .int .i64 l, .int .i64 cc] 33)) wr.heap.size ⟨kd, tx, nm, q, l, cc⟩ := heap_alloc_new wr _
      have HBX := Lib.hid (And.intro hbx (And.intro (HI.out.1.alloc HI.out.1.size (.cells #[.int .i64 kd, .string tx, .int .i32 nm, .int .i64 q, .int .i64 l, .int .i64 cc] 33)) (HI.out.2.alloc HI.out.2.size (.cells #[.int .i64 kd, .string tx, .int .i32 nm, .int .i64 q, .int .i64 l, .int .i64 cc] 33))))
      clear hbx HI
      go_upto_region 10 with fail
      generalize wr.alloc (.cells #[.int .i64 kd, .string tx, .int .i32 nm, .int .i64 q, .int .i64 l, .int .i64 cc] 33) = V1 at *
      generalize wr.heap.size = B at *
      go_cut [74] from 36 to 73 (fun v wx => v = .bool false ∧ Hid (TkBox wx B ⟨kd, tx, nm, q, l, cc⟩ ∧ Below V0.heap.size V0 wx ∧ Below W.heap.size W wx))
      case first =>
        obtain ⟨b1, b3, b4, b5⟩ := HBX.out.1.facts
        have HD : Hid (∀ w1 w2 : World, w1.heap = V1.heap → Below w1.heap.size w1 w2 → w2.cell? ⟨B, 1, none⟩ = some (.string tx) ∧ w2.cell? ⟨B, 3, none⟩ = some (.int .i64 q) ∧ w2.cell? ⟨B, 4, none⟩ = some (.int .i64 l) ∧ w2.cell? ⟨B, 5, none⟩ = some (.int .i64 cc)) := Lib.hid fun w1 w2 h1 h2 => (HBX.out.1.on h1 h2).facts
        clear c0 c1 c2 c3 c4 c5
        have p1 : decide ((q : Int) < (E : Int)) = false := decide_eq_false e1
        have p2 : IntKind.i64.wrap ((s.size : Int) - (tx.size : Int)) = (s.size : Int) - (tx.size : Int) := IntWalk.i64_in _ (by omega)
        have p3 : decide ((s.size : Int) - (tx.size : Int) < (q : Int)) = false := decide_eq_false e2
        have p4 : IntKind.i64.wrap ((q : Int) + (tx.size : Int)) = (q : Int) + (tx.size : Int) := IntWalk.i64_in _ (by omega)
        have p5 : (0 : Int) ≤ (q : Int) + (tx.size : Int) := by omega
        have p6 : ((q : Int) + (tx.size : Int)).toNat = q + tx.size := by omega
        have p7 : (q : Int) + (tx.size : Int) ≤ (s.size : Int) := by omega
        have p8 : (q : Int) ≤ (q : Int) + (tx.size : Int) := by omega
        have p9 : (0 : Int) ≤ (q : Int) := by omega
        clear hlt hm hk hlen w0 hc1 hs hg hEs g2 e1 e2
--RISE
        refine wp_region_held_drew (S := fun w' => w'.cell? ⟨B, 1, none⟩ = some (.string tx) ∧ w'.cell? ⟨B, 3, none⟩ = some (.int .i64 (q : Int)) ∧ w'.cell? ⟨B, 4, none⟩ = some (.int .i64 l) ∧ w'.cell? ⟨B, 5, none⟩ = some (.int .i64 cc)) (by kernel_rfl) ?_ (fun hHeld => ?_)
        · exact ⟨b1, b3, b4, b5⟩
        refine wpAnyH_take (i := 0) (oi := { dst := some 36, op := Op.move (Operand.tmp 9), type := 3, pos := "law.go:95", after := #[], guard := none }) (v := (.int .i64 (q : Int))) rfl (by kernel_rfl) (by kernel_rfl) (by kernel_rfl) (fun _ _ _ h => h) (Or.inl ⟨by rfl, ?_⟩) (by assumption) ?_
        · intro w hSw
          obtain ⟨y1, y3, y4, y5⟩ := hSw
          go_simp
        simp only [Act.put, List.setIfInBounds_toArray, List.set_cons_zero, List.set_cons_succ]
        refine wpAnyH_take (i := 1) (oi := { dst := some 37, op := Op.move (Operand.tmp 6), type := 3, pos := "law.go:95", after := #[], guard := none }) (v := (.int .i64 (E : Int))) rfl (by kernel_rfl) (by kernel_rfl) (by kernel_rfl) (fun _ _ _ h => h) (Or.inl ⟨by rfl, ?_⟩) (by assumption) ?_
        · intro w hSw
          obtain ⟨y1, y3, y4, y5⟩ := hSw
          go_simp
        simp only [Act.put, List.setIfInBounds_toArray, List.set_cons_zero, List.set_cons_succ]
        refine wpAnyH_take (i := 2) (oi := { dst := some 38, op := Op.binOp BinOp.lss 3 (Operand.tmp 36) (Operand.tmp 37) 3, type := 4, pos := "law.go:95", after := #[{ on := 0, ground := Ground.data }, { on := 1, ground := Ground.data }], guard := none }) (v := (.bool false)) rfl (by kernel_rfl) (by kernel_rfl) (by kernel_rfl) (fun _ _ _ h => h) (Or.inl ⟨by rfl, ?_⟩) (by assumption) ?_
        · intro w hSw
          obtain ⟨y1, y3, y4, y5⟩ := hSw
          go_simp
        simp only [Act.put, List.setIfInBounds_toArray, List.set_cons_zero, List.set_cons_succ]
        refine wpAnyH_take (i := 3) (oi := { dst := some 39, op := Op.move (Operand.tmp 38), type := 4, pos := "law.go:95", after := #[{ on := 2, ground := Ground.data }], guard := none }) (v := (.bool false)) rfl (by kernel_rfl) (by kernel_rfl) (by kernel_rfl) (fun _ _ _ h => h) (Or.inl ⟨by rfl, ?_⟩) (by assumption) ?_
        · intro w hSw
          obtain ⟨y1, y3, y4, y5⟩ := hSw
          go_simp
        simp only [Act.put, List.setIfInBounds_toArray, List.set_cons_zero, List.set_cons_succ]
        refine wpAnyH_take (i := 4) (oi := { dst := some 40, op := Op.move (Operand.tmp 9), type := 3, pos := "law.go:95", after := #[{ on := 3, ground := Ground.guard }], guard := some (3, false) }) (v := (.int .i64 (q : Int))) rfl (by kernel_rfl) (by kernel_rfl) (by kernel_rfl) (fun _ _ _ h => h) (Or.inl ⟨by rfl, ?_⟩) (by assumption) ?_
        · intro w hSw
          obtain ⟨y1, y3, y4, y5⟩ := hSw
          go_simp
        simp only [Act.put, List.setIfInBounds_toArray, List.set_cons_zero, List.set_cons_succ]
        refine wpAnyH_take (i := 5) (oi := { dst := some 41, op := Op.move (Operand.tmp 0), type := 9, pos := "law.go:95", after := #[{ on := 3, ground := Ground.guard }], guard := some (3, false) }) (v := (.string s)) rfl (by kernel_rfl) (by kernel_rfl) (by kernel_rfl) (fun _ _ _ h => h) (Or.inl ⟨by rfl, ?_⟩) (by assumption) ?_
        · intro w hSw
          obtain ⟨y1, y3, y4, y5⟩ := hSw
          go_simp
        simp only [Act.put, List.setIfInBounds_toArray, List.set_cons_zero, List.set_cons_succ]
        refine wpAnyH_take (i := 6) (oi := { dst := some 42, op := Op.call { callee := Callee.builtin Builtin.len, args := #[Operand.tmp 41], argTypes := #[9] }, type := 3, pos := "law.go:95", after := #[{ on := 5, ground := Ground.data }, { on := 3, ground := Ground.guard }], guard := some (3, false) }) (v := (.int .i64 (s.size : Int))) rfl (by kernel_rfl) (by kernel_rfl) (by kernel_rfl) (fun _ _ _ h => h) (Or.inl ⟨by rfl, ?_⟩) (by assumption) ?_
        · intro w hSw
          obtain ⟨y1, y3, y4, y5⟩ := hSw
          go_simp
        simp only [Act.put, List.setIfInBounds_toArray, List.set_cons_zero, List.set_cons_succ]
        refine wpAnyH_take (i := 7) (oi := { dst := some 43, op := Op.fieldAddr 33 (Operand.tmp 8) 1, type := 0, pos := "law.go:95", after := #[{ on := 3, ground := Ground.guard }], guard := some (3, false) }) (v := (.pointer (some ⟨B, 1, none⟩))) rfl (by kernel_rfl) (by kernel_rfl) (by kernel_rfl) (fun _ _ _ h => h) (Or.inl ⟨by rfl, ?_⟩) (by assumption) ?_
        · intro w hSw
          obtain ⟨y1, y3, y4, y5⟩ := hSw
          go_simp
        simp only [Act.put, List.setIfInBounds_toArray, List.set_cons_zero, List.set_cons_succ]
        refine wpAnyH_take (i := 8) (oi := { dst := some 44, op := Op.load 9 (Operand.tmp 43), type := 9, pos := "law.go:95", after := #[{ on := 7, ground := Ground.data }, { on := 3, ground := Ground.guard }], guard := some (3, false) }) (v := (.string tx)) rfl (by kernel_rfl) (by kernel_rfl) (by kernel_rfl) (fun _ _ _ h => h) (Or.inl ⟨by rfl, ?_⟩) (by assumption) ?_
        · intro w hSw
          obtain ⟨y1, y3, y4, y5⟩ := hSw
          go_simp
        simp only [Act.put, List.setIfInBounds_toArray, List.set_cons_zero, List.set_cons_succ]
        refine wpAnyH_take (i := 9) (oi := { dst := some 45, op := Op.call { callee := Callee.builtin Builtin.len, args := #[Operand.tmp 44], argTypes := #[9] }, type := 3, pos := "law.go:95", after := #[{ on := 8, ground := Ground.data }, { on := 3, ground := Ground.guard }], guard := some (3, false) }) (v := (.int .i64 (tx.size : Int))) rfl (by kernel_rfl) (by kernel_rfl) (by kernel_rfl) (fun _ _ _ h => h) (Or.inl ⟨by rfl, ?_⟩) (by assumption) ?_
        · intro w hSw
          obtain ⟨y1, y3, y4, y5⟩ := hSw
          go_simp
        simp only [Act.put, List.setIfInBounds_toArray, List.set_cons_zero, List.set_cons_succ]
        refine wpAnyH_take (i := 10) (oi := { dst := some 46, op := Op.binOp BinOp.sub 3 (Operand.tmp 42) (Operand.tmp 45) 3, type := 3, pos := "law.go:95", after := #[{ on := 6, ground := Ground.data }, { on := 9, ground := Ground.data }, { on := 3, ground := Ground.guard }], guard := some (3, false) }) (v := (.int .i64 ((s.size : Int) - (tx.size : Int)))) rfl (by kernel_rfl) (by kernel_rfl) (by kernel_rfl) (fun _ _ _ h => h) (Or.inl ⟨by rfl, ?_⟩) (by assumption) ?_
        · intro w hSw
          obtain ⟨y1, y3, y4, y5⟩ := hSw
          go_simp
        simp only [Act.put, List.setIfInBounds_toArray, List.set_cons_zero, List.set_cons_succ]
        refine wpAnyH_take (i := 11) (oi := { dst := some 47, op := Op.binOp BinOp.gtr 3 (Operand.tmp 40) (Operand.tmp 46) 3, type := 4, pos := "law.go:95", after := #[{ on := 4, ground := Ground.data }, { on := 10, ground := Ground.data }, { on := 3, ground := Ground.guard }], guard := some (3, false) }) (v := (.bool false)) rfl (by kernel_rfl) (by kernel_rfl) (by kernel_rfl) (fun _ _ _ h => h) (Or.inl ⟨by rfl, ?_⟩) (by assumption) ?_
        · intro w hSw
          obtain ⟨y1, y3, y4, y5⟩ := hSw
          go_simp
        simp only [Act.put, List.setIfInBounds_toArray, List.set_cons_zero, List.set_cons_succ]
        refine wpAnyH_take (i := 12) (oi := { dst := some 48, op := Op.pick (Operand.tmp 39) (Operand.const (Value.bool true)) (Operand.tmp 47), type := 4, pos := "law.go:95", after := #[{ on := 3, ground := Ground.data }, { on := 11, ground := Ground.data }], guard := none }) (v := (.bool false)) rfl (by kernel_rfl) (by kernel_rfl) (by kernel_rfl) (fun _ _ _ h => h) (Or.inl ⟨by rfl, ?_⟩) (by assumption) ?_
        · intro w hSw
          obtain ⟨y1, y3, y4, y5⟩ := hSw
          go_simp
        simp only [Act.put, List.setIfInBounds_toArray, List.set_cons_zero, List.set_cons_succ]
        refine wpAnyH_take (i := 13) (oi := { dst := some 49, op := Op.move (Operand.tmp 48), type := 4, pos := "law.go:95", after := #[{ on := 12, ground := Ground.data }, { on := 3, ground := Ground.chain }], guard := none }) (v := (.bool false)) rfl (by kernel_rfl) (by kernel_rfl) (by kernel_rfl) (fun _ _ _ h => h) (Or.inl ⟨by rfl, ?_⟩) (by assumption) ?_
        · intro w hSw
          obtain ⟨y1, y3, y4, y5⟩ := hSw
          go_simp
        simp only [Act.put, List.setIfInBounds_toArray, List.set_cons_zero, List.set_cons_succ]
        refine wpAnyH_take (i := 14) (oi := { dst := some 50, op := Op.move (Operand.tmp 0), type := 9, pos := "law.go:95", after := #[{ on := 13, ground := Ground.guard }], guard := some (13, false) }) (v := (.string s)) rfl (by kernel_rfl) (by kernel_rfl) (by kernel_rfl) (fun _ _ _ h => h) (Or.inl ⟨by rfl, ?_⟩) (by assumption) ?_
        · intro w hSw
          obtain ⟨y1, y3, y4, y5⟩ := hSw
          go_simp
        simp only [Act.put, List.setIfInBounds_toArray, List.set_cons_zero, List.set_cons_succ]
        refine wpAnyH_take (i := 15) (oi := { dst := some 51, op := Op.move (Operand.tmp 9), type := 3, pos := "law.go:95", after := #[{ on := 13, ground := Ground.guard }], guard := some (13, false) }) (v := (.int .i64 (q : Int))) rfl (by kernel_rfl) (by kernel_rfl) (by kernel_rfl) (fun _ _ _ h => h) (Or.inl ⟨by rfl, ?_⟩) (by assumption) ?_
        · intro w hSw
          obtain ⟨y1, y3, y4, y5⟩ := hSw
          go_simp
        simp only [Act.put, List.setIfInBounds_toArray, List.set_cons_zero, List.set_cons_succ]
        refine wpAnyH_take (i := 16) (oi := { dst := some 52, op := Op.move (Operand.tmp 9), type := 3, pos := "law.go:95", after := #[{ on := 13, ground := Ground.guard }], guard := some (13, false) }) (v := (.int .i64 (q : Int))) rfl (by kernel_rfl) (by kernel_rfl) (by kernel_rfl) (fun _ _ _ h => h) (Or.inl ⟨by rfl, ?_⟩) (by assumption) ?_
        · intro w hSw
          obtain ⟨y1, y3, y4, y5⟩ := hSw
          go_simp
        simp only [Act.put, List.setIfInBounds_toArray, List.set_cons_zero, List.set_cons_succ]
        refine wpAnyH_take (i := 17) (oi := { dst := some 53, op := Op.fieldAddr 33 (Operand.tmp 8) 1, type := 0, pos := "law.go:95", after := #[{ on := 13, ground := Ground.guard }], guard := some (13, false) }) (v := (.pointer (some ⟨B, 1, none⟩))) rfl (by kernel_rfl) (by kernel_rfl) (by kernel_rfl) (fun _ _ _ h => h) (Or.inl ⟨by rfl, ?_⟩) (by assumption) ?_
        · intro w hSw
          obtain ⟨y1, y3, y4, y5⟩ := hSw
          go_simp
        simp only [Act.put, List.setIfInBounds_toArray, List.set_cons_zero, List.set_cons_succ]
        refine wpAnyH_take (i := 18) (oi := { dst := some 54, op := Op.load 9 (Operand.tmp 53), type := 9, pos := "law.go:95", after := #[{ on := 17, ground := Ground.data }, { on := 13, ground := Ground.guard }], guard := some (13, false) }) (v := (.string tx)) rfl (by kernel_rfl) (by kernel_rfl) (by kernel_rfl) (fun _ _ _ h => h) (Or.inl ⟨by rfl, ?_⟩) (by assumption) ?_
        · intro w hSw
          obtain ⟨y1, y3, y4, y5⟩ := hSw
          go_simp
        simp only [Act.put, List.setIfInBounds_toArray, List.set_cons_zero, List.set_cons_succ]
        refine wpAnyH_take (i := 19) (oi := { dst := some 55, op := Op.call { callee := Callee.builtin Builtin.len, args := #[Operand.tmp 54], argTypes := #[9] }, type := 3, pos := "law.go:95", after := #[{ on := 18, ground := Ground.data }, { on := 13, ground := Ground.guard }], guard := some (13, false) }) (v := (.int .i64 (tx.size : Int))) rfl (by kernel_rfl) (by kernel_rfl) (by kernel_rfl) (fun _ _ _ h => h) (Or.inl ⟨by rfl, ?_⟩) (by assumption) ?_
        · intro w hSw
          obtain ⟨y1, y3, y4, y5⟩ := hSw
          go_simp
        simp only [Act.put, List.setIfInBounds_toArray, List.set_cons_zero, List.set_cons_succ]
        refine wpAnyH_take (i := 20) (oi := { dst := some 56, op := Op.binOp BinOp.add 3 (Operand.tmp 52) (Operand.tmp 55) 3, type := 3, pos := "law.go:95", after := #[{ on := 16, ground := Ground.data }, { on := 19, ground := Ground.data }, { on := 13, ground := Ground.guard }], guard := some (13, false) }) (v := (.int .i64 ((q : Int) + (tx.size : Int)))) rfl (by kernel_rfl) (by kernel_rfl) (by kernel_rfl) (fun _ _ _ h => h) (Or.inl ⟨by rfl, ?_⟩) (by assumption) ?_
        · intro w hSw
          obtain ⟨y1, y3, y4, y5⟩ := hSw
          go_simp
        simp only [Act.put, List.setIfInBounds_toArray, List.set_cons_zero, List.set_cons_succ]
        refine wpAnyH_take (i := 21) (oi := { dst := some 57, op := Op.slice 9 (Operand.tmp 50) (some (Operand.tmp 51)) (some (Operand.tmp 56)) none, type := 9, pos := "law.go:95", after := #[{ on := 14, ground := Ground.data }, { on := 15, ground := Ground.data }, { on := 20, ground := Ground.data }, { on := 13, ground := Ground.guard }], guard := some (13, false) }) (v := (.string tx)) rfl (by kernel_rfl) (by kernel_rfl) (by kernel_rfl) (fun _ _ _ h => h) (Or.inl ⟨by rfl, ?_⟩) (by assumption) ?_
        · intro w hSw
          obtain ⟨y1, y3, y4, y5⟩ := hSw
          go_simp
        simp only [Act.put, List.setIfInBounds_toArray, List.set_cons_zero, List.set_cons_succ]
        refine wpAnyH_take (i := 22) (oi := { dst := some 58, op := Op.fieldAddr 33 (Operand.tmp 8) 1, type := 0, pos := "law.go:95", after := #[{ on := 13, ground := Ground.guard }], guard := some (13, false) }) (v := (.pointer (some ⟨B, 1, none⟩))) rfl (by kernel_rfl) (by kernel_rfl) (by kernel_rfl) (fun _ _ _ h => h) (Or.inl ⟨by rfl, ?_⟩) (by assumption) ?_
        · intro w hSw
          obtain ⟨y1, y3, y4, y5⟩ := hSw
          go_simp
        simp only [Act.put, List.setIfInBounds_toArray, List.set_cons_zero, List.set_cons_succ]
        refine wpAnyH_take (i := 23) (oi := { dst := some 59, op := Op.load 9 (Operand.tmp 58), type := 9, pos := "law.go:95", after := #[{ on := 22, ground := Ground.data }, { on := 13, ground := Ground.guard }], guard := some (13, false) }) (v := (.string tx)) rfl (by kernel_rfl) (by kernel_rfl) (by kernel_rfl) (fun _ _ _ h => h) (Or.inl ⟨by rfl, ?_⟩) (by assumption) ?_
        · intro w hSw
          obtain ⟨y1, y3, y4, y5⟩ := hSw
          go_simp
        simp only [Act.put, List.setIfInBounds_toArray, List.set_cons_zero, List.set_cons_succ]
        refine wpAnyH_take (i := 24) (oi := { dst := some 60, op := Op.binOp BinOp.neq 9 (Operand.tmp 57) (Operand.tmp 59) 9, type := 4, pos := "law.go:95", after := #[{ on := 21, ground := Ground.data }, { on := 23, ground := Ground.data }, { on := 13, ground := Ground.guard }], guard := some (13, false) }) (v := (.bool false)) rfl (by kernel_rfl) (by kernel_rfl) (by kernel_rfl) (fun _ _ _ h => h) (Or.inl ⟨by rfl, ?_⟩) (by assumption) ?_
        · intro w hSw
          obtain ⟨y1, y3, y4, y5⟩ := hSw
          go_simp
        simp only [Act.put, List.setIfInBounds_toArray, List.set_cons_zero, List.set_cons_succ]
        refine wpAnyH_take (i := 25) (oi := { dst := some 61, op := Op.pick (Operand.tmp 49) (Operand.const (Value.bool true)) (Operand.tmp 60), type := 4, pos := "law.go:95", after := #[{ on := 13, ground := Ground.data }, { on := 24, ground := Ground.data }], guard := none }) (v := (.bool false)) rfl (by kernel_rfl) (by kernel_rfl) (by kernel_rfl) (fun _ _ _ h => h) (Or.inl ⟨by rfl, ?_⟩) (by assumption) ?_
        · intro w hSw
          obtain ⟨y1, y3, y4, y5⟩ := hSw
          go_simp
        simp only [Act.put, List.setIfInBounds_toArray, List.set_cons_zero, List.set_cons_succ]
        refine wpAnyH_take (i := 26) (oi := { dst := some 62, op := Op.move (Operand.tmp 61), type := 4, pos := "law.go:95", after := #[{ on := 25, ground := Ground.data }, { on := 13, ground := Ground.chain }], guard := none }) (v := (.bool false)) rfl (by kernel_rfl) (by kernel_rfl) (by kernel_rfl) (fun _ _ _ h => h) (Or.inl ⟨by rfl, ?_⟩) (by assumption) ?_
        · intro w hSw
          obtain ⟨y1, y3, y4, y5⟩ := hSw
          go_simp
        simp only [Act.put, List.setIfInBounds_toArray, List.set_cons_zero, List.set_cons_succ]
        refine wpAnyH_take (i := 27) (oi := { dst := some 63, op := Op.fieldAddr 33 (Operand.tmp 8) 3, type := 0, pos := "law.go:95", after := #[{ on := 26, ground := Ground.guard }], guard := some (26, false) }) (v := (.pointer (some ⟨B, 3, none⟩))) rfl (by kernel_rfl) (by kernel_rfl) (by kernel_rfl) (fun _ _ _ h => h) (Or.inl ⟨by rfl, ?_⟩) (by assumption) ?_
        · intro w hSw
          obtain ⟨y1, y3, y4, y5⟩ := hSw
          go_simp
        simp only [Act.put, List.setIfInBounds_toArray, List.set_cons_zero, List.set_cons_succ]
        refine wpAnyH_take (i := 28) (oi := { dst := some 64, op := Op.load 26 (Operand.tmp 63), type := 26, pos := "law.go:95", after := #[{ on := 27, ground := Ground.data }, { on := 26, ground := Ground.guard }], guard := some (26, false) }) (v := (.agg #[.int .i64 (q : Int), .int .i64 l, .int .i64 cc])) rfl (by kernel_rfl) (by kernel_rfl) (by kernel_rfl) (fun _ _ _ h => h) (Or.inl ⟨by rfl, ?_⟩) (by assumption) ?_
        · intro w hSw
          obtain ⟨y1, y3, y4, y5⟩ := hSw
          go_simp
        simp only [Act.put, List.setIfInBounds_toArray, List.set_cons_zero, List.set_cons_succ]
        refine wpAnyH_take (i := 29) (oi := { dst := some 65, op := Op.move (Operand.tmp 0), type := 9, pos := "law.go:95", after := #[{ on := 26, ground := Ground.guard }], guard := some (26, false) }) (v := (.string s)) rfl (by kernel_rfl) (by kernel_rfl) (by kernel_rfl) (fun _ _ _ h => h) (Or.inl ⟨by rfl, ?_⟩) (by assumption) ?_
        · intro w hSw
          obtain ⟨y1, y3, y4, y5⟩ := hSw
          go_simp
        simp only [Act.put, List.setIfInBounds_toArray, List.set_cons_zero, List.set_cons_succ]
        refine wpAnyH_take (i := 30) (oi := { dst := some 66, op := Op.move (Operand.tmp 9), type := 3, pos := "law.go:95", after := #[{ on := 26, ground := Ground.guard }], guard := some (26, false) }) (v := (.int .i64 (q : Int))) rfl (by kernel_rfl) (by kernel_rfl) (by kernel_rfl) (fun _ _ _ h => h) (Or.inl ⟨by rfl, ?_⟩) (by assumption) ?_
        · intro w hSw
          obtain ⟨y1, y3, y4, y5⟩ := hSw
          go_simp
        simp only [Act.put, List.setIfInBounds_toArray, List.set_cons_zero, List.set_cons_succ]
        refine wpAnyH_ready (rs := [31]) (by kernel_rfl) (by simp) ?_
        refine AllReadyH.cons (o := { dst := some 67, op := Op.call { callee := Callee.value (Operand.func 14), args := #[Operand.tmp 65, Operand.tmp 66], argTypes := #[9, 3] }, type := 26, pos := "law.go:95", after := #[{ on := 29, ground := Ground.data }, { on := 30, ground := Ground.data }, { on := 26, ground := Ground.chain }, { on := 26, ground := Ground.guard }], guard := some (26, false) }) rfl (fun K hK => ?_) AllReadyH.nil
        go_simp
        go_at_call 14
        with_reducible refine (HAT.out _).mono ?_
        rintro e w2 ⟨rfl, hB2⟩
        obtain ⟨d1, d3, d4, d5⟩ := HD.out V1.drew w2 rfl hB2
        have HB2 := Lib.hid hB2
        clear hB2
        try go_wp2_with fail
        refine hK.out _ _ ?_ (fun hHeld => ?_)
        · exact ⟨d1, d3, d4, d5⟩
        clear hK K
        try simp only [Act.put, List.setIfInBounds_toArray, List.set_cons_zero, List.set_cons_succ]
        refine wpAnyH_take (i := 32) (oi := { dst := some 68, op := Op.binOp BinOp.neq 26 (Operand.tmp 64) (Operand.tmp 67) 26, type := 4, pos := "law.go:95", after := #[{ on := 28, ground := Ground.data }, { on := 31, ground := Ground.data }, { on := 26, ground := Ground.guard }], guard := some (26, false) }) (v := (.bool false)) rfl (by kernel_rfl) (by kernel_rfl) (by kernel_rfl) (fun _ _ _ h => h) (Or.inl ⟨by rfl, ?_⟩) (by assumption) ?_
        · intro w hSw
          obtain ⟨y1, y3, y4, y5⟩ := hSw
          go_simp
        simp only [Act.put, List.setIfInBounds_toArray, List.set_cons_zero, List.set_cons_succ]
        refine wpAnyH_take (i := 33) (oi := { dst := some 69, op := Op.pick (Operand.tmp 62) (Operand.const (Value.bool true)) (Operand.tmp 68), type := 4, pos := "law.go:95", after := #[{ on := 26, ground := Ground.data }, { on := 32, ground := Ground.data }], guard := none }) (v := (.bool false)) rfl (by kernel_rfl) (by kernel_rfl) (by kernel_rfl) (fun _ _ _ h => h) (Or.inl ⟨by rfl, ?_⟩) (by assumption) ?_
        · intro w hSw
          obtain ⟨y1, y3, y4, y5⟩ := hSw
          go_simp
        simp only [Act.put, List.setIfInBounds_toArray, List.set_cons_zero, List.set_cons_succ]
        refine wpAnyH_take (i := 34) (oi := { dst := some 70, op := Op.move (Operand.tmp 69), type := 4, pos := "law.go:95", after := #[{ on := 33, ground := Ground.data }, { on := 31, ground := Ground.chain }], guard := none }) (v := (.bool false)) rfl (by kernel_rfl) (by kernel_rfl) (by kernel_rfl) (fun _ _ _ h => h) (Or.inl ⟨by rfl, ?_⟩) (by assumption) ?_
        · intro w hSw
          obtain ⟨y1, y3, y4, y5⟩ := hSw
          go_simp
        simp only [Act.put, List.setIfInBounds_toArray, List.set_cons_zero, List.set_cons_succ]
        refine wpAnyH_take (i := 35) (oi := { dst := some 71, op := Op.fieldAddr 33 (Operand.tmp 8) 1, type := 0, pos := "law.go:95", after := #[{ on := 34, ground := Ground.guard }], guard := some (34, false) }) (v := (.pointer (some ⟨B, 1, none⟩))) rfl (by kernel_rfl) (by kernel_rfl) (by kernel_rfl) (fun _ _ _ h => h) (Or.inl ⟨by rfl, ?_⟩) (by assumption) ?_
        · intro w hSw
          obtain ⟨y1, y3, y4, y5⟩ := hSw
          go_simp
        simp only [Act.put, List.setIfInBounds_toArray, List.set_cons_zero, List.set_cons_succ]
        refine wpAnyH_take (i := 36) (oi := { dst := some 72, op := Op.load 9 (Operand.tmp 71), type := 9, pos := "law.go:95", after := #[{ on := 35, ground := Ground.data }, { on := 34, ground := Ground.guard }], guard := some (34, false) }) (v := (.string tx)) rfl (by kernel_rfl) (by kernel_rfl) (by kernel_rfl) (fun _ _ _ h => h) (Or.inl ⟨by rfl, ?_⟩) (by assumption) ?_
        · intro w hSw
          obtain ⟨y1, y3, y4, y5⟩ := hSw
          go_simp
        simp only [Act.put, List.setIfInBounds_toArray, List.set_cons_zero, List.set_cons_succ]
        refine wpAnyH_take (i := 37) (oi := { dst := some 73, op := Op.binOp BinOp.eql 9 (Operand.tmp 72) (Operand.const (Value.string { data := #[] })) 9, type := 4, pos := "law.go:95", after := #[{ on := 36, ground := Ground.data }, { on := 34, ground := Ground.guard }], guard := some (34, false) }) (v := (.bool false)) rfl (by kernel_rfl) (by kernel_rfl) (by kernel_rfl) (fun _ _ _ h => h) (Or.inl ⟨by rfl, ?_⟩) (by assumption) ?_
        · intro w hSw
          obtain ⟨y1, y3, y4, y5⟩ := hSw
          go_simp
        simp only [Act.put, List.setIfInBounds_toArray, List.set_cons_zero, List.set_cons_succ]
        refine wpAnyH_take (i := 38) (oi := { dst := some 74, op := Op.pick (Operand.tmp 70) (Operand.const (Value.bool true)) (Operand.tmp 73), type := 4, pos := "law.go:95", after := #[{ on := 34, ground := Ground.data }, { on := 37, ground := Ground.data }], guard := none }) (v := (.bool false)) rfl (by kernel_rfl) (by kernel_rfl) (by kernel_rfl) (fun _ _ _ h => h) (Or.inl ⟨by rfl, ?_⟩) (by assumption) ?_
        · intro w hSw
          obtain ⟨y1, y3, y4, y5⟩ := hSw
          go_simp
        simp only [Act.put, List.setIfInBounds_toArray, List.set_cons_zero, List.set_cons_succ]
        refine wpAnyH_done (by kernel_rfl) ?_ _
--ESIR
        go_wp2_with fail
        go_meet
        exact ⟨rfl, Lib.hid ⟨HBX.out.1.on (w1 := V1.drew) rfl HB2.out, HBX.out.2.1.drew.trans (HB2.out.mono HBX.out.2.1.size), HBX.out.2.2.drew.trans (HB2.out.mono HBX.out.2.2.size)⟩⟩
      case rest =>
        obtain ⟨rfl, HX⟩ := hcut
        have r1 : (0 : Int) ≤ (E : Int) := by omega
        have r2 : (E : Int) ≤ (q : Int) := by omega
        have r3 : (q : Int) ≤ (s.size : Int) := by omega
        have r4 : q ≤ s.size := by omega
        clear HBX HAT hex f1 f2 c0 c1 c2 c3 c4 c5 e1 e2
        go_wp2_with fail
        refine (HG.out _).mono ?_
        rintro e w3 ⟨A3, c3, rfl, hB3⟩
        obtain ⟨d1, _, _, _⟩ := (HX.out.1.on rfl hB3).facts
        have HY := Lib.hid (And.intro (HX.out.2.1.trans (hB3.mono HX.out.2.1.size)) (HX.out.2.2.trans (hB3.mono HX.out.2.2.size)))
        have p4 : IntKind.i64.wrap ((q : Int) + (tx.size : Int)) = (q : Int) + (tx.size : Int) := IntWalk.i64_in _ (by omega)
        clear hB3 HX HG
        go_wp2
        go_roundg (n - (k + 1) + 1)
        case measure => omega
        case rel => exact ⟨k + 1, by omega, by rw [HES.out]; go_num, by go_num, HY, Nat.le_refl _⟩
    · obtain rfl : k = n := by omega
      obtain ⟨g1, g2⟩ := chain0_end _ ts HCH.out
      rw [← HN.out] at g1 g2
      have HG := Lib.hid (all_none (s.extract (endAt ts k) s.size) (by rw [ByteArray.size_extract]; omega) (by
        rw [extract_mid, strL_list]
        rw [ba_length] at g1
        exact lex_gap _ _ g1 (by omega)))
      rw [ba_length] at g2
      clear g1
      generalize endAt ts k = E at *
      have r1 : (0 : Int) ≤ (E : Int) := by omega
      have r2 : (E : Int) ≤ (s.size : Int) := by omega
      go_wp2_with fail
      refine (HG.out _).mono ?_
      rintro e w3 ⟨A3, c3, rfl, hB3⟩
      have HY := Lib.hid (HI.out.2.trans (hB3.mono HI.out.2.size))
      clear hB3 HG
      go_wp2_with fail
      refine (lives_true _ (HL.out.below HY.out)).mono ?_
      rintro e w4 ⟨rfl, hB4⟩
      have HZ := Lib.hid (HY.out.trans (hB4.mono HY.out.size))
      clear hB4
      go_wp2
      go_ret
      exact ⟨rfl, HZ.out⟩
theorem lexerRises_walk (a0 : ByteArray) (W : World) (w0 : a0.size ≤ maxLen) (_hs : a0.data.toList.length ≤ reachBytes) (hL : laidMetH Tryd.prog Rows.lexerRisesRow.laid W) (hsh : W.ShapedOpen Tryd.prog) :
    Calls Tryd.prog 7 #[.string a0] W fun e w' => e = .returned (.bool true) ∧ Below W.heap.size W w' := by
  have hts := lcut_size a0
  unfold maxLen at w0
  cases h : allN (a0.extract 0 (min (a0.size : Int) 2000).toNat).data.toList with
  | ok ts =>
    have hf := allN_few _ _ h
    rw [ba_length] at hf
    exact lexerRises_ok _ hts W (laid_of W hL hsh) ts h (by omega) a0 (by omega) rfl
  | bad er o => exact lexerRises_bad _ hts W (laid_of W hL hsh) er o h (allN_bad _ _ _ h).1 a0 (by omega) rfl
end Go.Proofs.YtkpgkobhnldhpaaDoor
