/-
  The law's dead: a call that finds no power.
  The six calls in one: what each leaves; the law's Do and dead told in one; what so many calls leave of the power.
  A disk that stops behind so many calls, beside the document's that doesn't: step by step.
  What both disks show at the end: each name of the document's directory, its bytes, and what the disk's Read answers.
-/
import Derived.Test.YthfoojagnfbdpaaZbe
import Derived.Test.YthfoojagnfbdpaaZbb
namespace Go.Proofs.Ythfoojagnfbdpaa
open Go.RowKit Go.Maps
set_option linter.unusedVariables false
set_option maxRecDepth 100000

section
variable {w0 W W' : World} {d x : Nat} {own ox : Nat → Nat} {r r' r2 : RD}
theorem off_create (x : ByteArray) (h : r.on = false) : r.create x = (5, r.powered) := by unfold RD.create; rw [begE_off _ h]; rfl
theorem off_append (x : ByteArray) (bs : List Value) (h : r.on = false) : r.append x bs = (5, r.powered) := by unfold RD.append RD.witE; rw [begE_off _ h]; rfl
theorem off_sync (x : ByteArray) (h : r.on = false) : r.sync x = (5, r.powered) := by unfold RD.sync RD.witE; rw [begE_off _ h]; rfl
theorem off_syncDir (h : r.on = false) : r.syncDir = (5, r.powered) := by unfold RD.syncDir; rw [h]; rfl
theorem off_rename (x y : ByteArray) (h : r.on = false) : r.rename x y = (5, r.powered) := by unfold RD.rename RD.witE; rw [begE_off _ h]; rfl
theorem off_remove (x : ByteArray) (h : r.on = false) : r.remove x = (5, r.powered) := by unfold RD.remove RD.witE; rw [begE_off _ h]; rfl
set_option maxHeartbeats 1600000 in
theorem dead0_any (h : Half w0 W d x own ox r r') (hoff : r'.on = false) (hs : r'.size + 4 ≤ 80000) (A B : ByteArray) (hA : A.size ≤ 1000000) (hB : B.size ≤ 1000000) (DA : Option Addr) (dn dc : Nat) (N dir : Int) (KA : Option Addr) (kn kc : Nat) (kind : Nat) (hk : kind % 10 = 0) (zs : List Int) (hD : RowZ w0 DA dn zs) (hdn : dn ≤ 10000000) :
    Calls Try.prog 10 #[.pointer (some ⟨d, 0, none⟩), .agg #[.int .u64 (kind : Int), .string A, .string B, .slice DA dn dc, .int .i64 N, .int .i64 dir, .slice KA kn kc]] W fun e w' => e = .returned (.bool true) ∧ ∃ own', Half w0 w' d x own' ox r r'.powered := by
  have hk' : (kind : Int) % 10 = 0 := by omega
  obtain ⟨W1, hW1⟩ : ∃ W1, W.alloc (.cells #[.int .u64 (kind : Int), .string A, .string B, .slice DA dn dc, .int .i64 N, .int .i64 dir, .slice KA kn kc] 30) = W1 := ⟨_, rfl⟩
  have hB1 : Below W.heap.size W W1 := by rw [← hW1]; exact (Below.refl _ W).alloc (Nat.le_refl _) _
  have hbx : W1.heap[W.heap.size]? = some (.cells #[.int .u64 (kind : Int), .string A, .string B, .slice DA dn dc, .int .i64 N, .int .i64 dir, .slice KA kn kc] 30 (0, 0)) := by rw [← hW1]; exact heap_alloc_new W _
  obtain ⟨bx, hbxe⟩ : ∃ bx, W.heap.size = bx := ⟨_, rfl⟩
  have h1 : Half w0 W1 d x own ox r r' := h.below hB1
  rw [hbxe] at hbx
  have b0 : W1.cell? ⟨bx, 0, none⟩ = some (.int .u64 (kind : Int)) := by rw [cell_of_row _ bx 0 _ _ (0, 0) hbx]; rfl
  have b1 : W1.cell? ⟨bx, 1, none⟩ = some (.string A) := by rw [cell_of_row _ bx 1 _ _ (0, 0) hbx]; rfl
  have b2 : W1.cell? ⟨bx, 2, none⟩ = some (.string B) := by rw [cell_of_row _ bx 2 _ _ (0, 0) hbx]; rfl
  have b3 : W1.cell? ⟨bx, 3, none⟩ = some (.slice DA dn dc) := by rw [cell_of_row _ bx 3 _ _ (0, 0) hbx]; rfl
  have HSRC1 : Hid (∀ V, Chg [d] W1 V → Src Try.prog 1 25 (.slice DA dn dc) dn (cellsZ zs) V) := Lib.hid (fun V hc => ((hD.below h1.on).blk hc.size (fun h0 b off e hb => hc.same b hb (fun hm => by
    rw [List.mem_singleton] at hm
    obtain ⟨b', off', e', hlt, _⟩ := hD.2.2 h0
    rw [e'] at e
    cases e
    have := h1.d0 b hlt
    rw [hm] at this
    exact h1.isD.od this))).toSrc dc)
  have HC1 := Lib.hid ((h1.isD.create hs A hA).mono fun e w' hh => (by rw [off_create A hoff] at hh; exact ⟨hh.1, h1.disk hh.2⟩ : e = .returned (.int .i64 5) ∧ ∃ own', Only own W1 own' w' ∧ Half w0 w' d x own' ox r r'.powered))
  clear h hs hB1 hbx h1 hoff hk hD HSRC1
  go_enter Try.func10, Try.ntmps10
  go_wp2_with fail
  refine HC1.out.mono ?_
  rintro e w2 ⟨rfl, own2, O2, h2⟩
  have H2 := Lib.hid h2
  clear O2 h2
  go_wp2
  go_ret
  exact ⟨rfl, own2, H2.out⟩
set_option maxHeartbeats 1600000 in
theorem dead1_any (h : Half w0 W d x own ox r r') (hoff : r'.on = false) (hs : r'.size + 4 ≤ 80000) (A B : ByteArray) (hA : A.size ≤ 1000000) (hB : B.size ≤ 1000000) (DA : Option Addr) (dn dc : Nat) (N dir : Int) (KA : Option Addr) (kn kc : Nat) (kind : Nat) (hk : kind % 10 = 1) (zs : List Int) (hD : RowZ w0 DA dn zs) (hdn : dn ≤ 10000000) :
    Calls Try.prog 10 #[.pointer (some ⟨d, 0, none⟩), .agg #[.int .u64 (kind : Int), .string A, .string B, .slice DA dn dc, .int .i64 N, .int .i64 dir, .slice KA kn kc]] W fun e w' => e = .returned (.bool true) ∧ ∃ own', Half w0 w' d x own' ox r r'.powered := by
  have hk' : (kind : Int) % 10 = 1 := by omega
  obtain ⟨W1, hW1⟩ : ∃ W1, W.alloc (.cells #[.int .u64 (kind : Int), .string A, .string B, .slice DA dn dc, .int .i64 N, .int .i64 dir, .slice KA kn kc] 30) = W1 := ⟨_, rfl⟩
  have hB1 : Below W.heap.size W W1 := by rw [← hW1]; exact (Below.refl _ W).alloc (Nat.le_refl _) _
  have hbx : W1.heap[W.heap.size]? = some (.cells #[.int .u64 (kind : Int), .string A, .string B, .slice DA dn dc, .int .i64 N, .int .i64 dir, .slice KA kn kc] 30 (0, 0)) := by rw [← hW1]; exact heap_alloc_new W _
  obtain ⟨bx, hbxe⟩ : ∃ bx, W.heap.size = bx := ⟨_, rfl⟩
  have h1 : Half w0 W1 d x own ox r r' := h.below hB1
  rw [hbxe] at hbx
  have b0 : W1.cell? ⟨bx, 0, none⟩ = some (.int .u64 (kind : Int)) := by rw [cell_of_row _ bx 0 _ _ (0, 0) hbx]; rfl
  have b1 : W1.cell? ⟨bx, 1, none⟩ = some (.string A) := by rw [cell_of_row _ bx 1 _ _ (0, 0) hbx]; rfl
  have b2 : W1.cell? ⟨bx, 2, none⟩ = some (.string B) := by rw [cell_of_row _ bx 2 _ _ (0, 0) hbx]; rfl
  have b3 : W1.cell? ⟨bx, 3, none⟩ = some (.slice DA dn dc) := by rw [cell_of_row _ bx 3 _ _ (0, 0) hbx]; rfl
  have HSRC1 : Hid (∀ V, Chg [d] W1 V → Src Try.prog 1 25 (.slice DA dn dc) dn (cellsZ zs) V) := Lib.hid (fun V hc => ((hD.below h1.on).blk hc.size (fun h0 b off e hb => hc.same b hb (fun hm => by
    rw [List.mem_singleton] at hm
    obtain ⟨b', off', e', hlt, _⟩ := hD.2.2 h0
    rw [e'] at e
    cases e
    have := h1.d0 b hlt
    rw [hm] at this
    exact h1.isD.od this))).toSrc dc)
  have HC1 := Lib.hid ((h1.isD.append hs A hA DA dn dc hdn (cellsZ zs) (by rw [cellsZ_length]; exact hD.1) (bytes_cellsZ hD.2.1) HSRC1.out).mono fun e w' hh => (by rw [off_append A (cellsZ zs) hoff] at hh; exact ⟨hh.1, h1.disk hh.2⟩ : e = .returned (.int .i64 5) ∧ ∃ own', Only own W1 own' w' ∧ Half w0 w' d x own' ox r r'.powered))
  clear h hs hB1 hbx h1 hoff hk hD HSRC1
  go_enter Try.func10, Try.ntmps10
  go_wp2_with fail
  refine HC1.out.mono ?_
  rintro e w2 ⟨rfl, own2, O2, h2⟩
  have H2 := Lib.hid h2
  clear O2 h2
  go_wp2
  go_ret
  exact ⟨rfl, own2, H2.out⟩
set_option maxHeartbeats 1600000 in
theorem dead2_any (h : Half w0 W d x own ox r r') (hoff : r'.on = false) (hs : r'.size + 4 ≤ 80000) (A B : ByteArray) (hA : A.size ≤ 1000000) (hB : B.size ≤ 1000000) (DA : Option Addr) (dn dc : Nat) (N dir : Int) (KA : Option Addr) (kn kc : Nat) (kind : Nat) (hk : kind % 10 = 2) (zs : List Int) (hD : RowZ w0 DA dn zs) (hdn : dn ≤ 10000000) :
    Calls Try.prog 10 #[.pointer (some ⟨d, 0, none⟩), .agg #[.int .u64 (kind : Int), .string A, .string B, .slice DA dn dc, .int .i64 N, .int .i64 dir, .slice KA kn kc]] W fun e w' => e = .returned (.bool true) ∧ ∃ own', Half w0 w' d x own' ox r r'.powered := by
  have hk' : (kind : Int) % 10 = 2 := by omega
  obtain ⟨W1, hW1⟩ : ∃ W1, W.alloc (.cells #[.int .u64 (kind : Int), .string A, .string B, .slice DA dn dc, .int .i64 N, .int .i64 dir, .slice KA kn kc] 30) = W1 := ⟨_, rfl⟩
  have hB1 : Below W.heap.size W W1 := by rw [← hW1]; exact (Below.refl _ W).alloc (Nat.le_refl _) _
  have hbx : W1.heap[W.heap.size]? = some (.cells #[.int .u64 (kind : Int), .string A, .string B, .slice DA dn dc, .int .i64 N, .int .i64 dir, .slice KA kn kc] 30 (0, 0)) := by rw [← hW1]; exact heap_alloc_new W _
  obtain ⟨bx, hbxe⟩ : ∃ bx, W.heap.size = bx := ⟨_, rfl⟩
  have h1 : Half w0 W1 d x own ox r r' := h.below hB1
  rw [hbxe] at hbx
  have b0 : W1.cell? ⟨bx, 0, none⟩ = some (.int .u64 (kind : Int)) := by rw [cell_of_row _ bx 0 _ _ (0, 0) hbx]; rfl
  have b1 : W1.cell? ⟨bx, 1, none⟩ = some (.string A) := by rw [cell_of_row _ bx 1 _ _ (0, 0) hbx]; rfl
  have b2 : W1.cell? ⟨bx, 2, none⟩ = some (.string B) := by rw [cell_of_row _ bx 2 _ _ (0, 0) hbx]; rfl
  have b3 : W1.cell? ⟨bx, 3, none⟩ = some (.slice DA dn dc) := by rw [cell_of_row _ bx 3 _ _ (0, 0) hbx]; rfl
  have HSRC1 : Hid (∀ V, Chg [d] W1 V → Src Try.prog 1 25 (.slice DA dn dc) dn (cellsZ zs) V) := Lib.hid (fun V hc => ((hD.below h1.on).blk hc.size (fun h0 b off e hb => hc.same b hb (fun hm => by
    rw [List.mem_singleton] at hm
    obtain ⟨b', off', e', hlt, _⟩ := hD.2.2 h0
    rw [e'] at e
    cases e
    have := h1.d0 b hlt
    rw [hm] at this
    exact h1.isD.od this))).toSrc dc)
  have HC1 := Lib.hid ((h1.isD.sync hs A hA).mono fun e w' hh => (by rw [off_sync A hoff] at hh; exact ⟨hh.1, h1.disk hh.2⟩ : e = .returned (.int .i64 5) ∧ ∃ own', Only own W1 own' w' ∧ Half w0 w' d x own' ox r r'.powered))
  clear h hs hB1 hbx h1 hoff hk hD HSRC1
  go_enter Try.func10, Try.ntmps10
  go_wp2_with fail
  refine HC1.out.mono ?_
  rintro e w2 ⟨rfl, own2, O2, h2⟩
  have H2 := Lib.hid h2
  clear O2 h2
  go_wp2
  go_ret
  exact ⟨rfl, own2, H2.out⟩
set_option maxHeartbeats 1600000 in
theorem dead3_any (h : Half w0 W d x own ox r r') (hoff : r'.on = false) (hs : r'.size + 4 ≤ 80000) (A B : ByteArray) (hA : A.size ≤ 1000000) (hB : B.size ≤ 1000000) (DA : Option Addr) (dn dc : Nat) (N dir : Int) (KA : Option Addr) (kn kc : Nat) (kind : Nat) (hk : kind % 10 = 3) (zs : List Int) (hD : RowZ w0 DA dn zs) (hdn : dn ≤ 10000000) :
    Calls Try.prog 10 #[.pointer (some ⟨d, 0, none⟩), .agg #[.int .u64 (kind : Int), .string A, .string B, .slice DA dn dc, .int .i64 N, .int .i64 dir, .slice KA kn kc]] W fun e w' => e = .returned (.bool true) ∧ ∃ own', Half w0 w' d x own' ox r r'.powered := by
  have hk' : (kind : Int) % 10 = 3 := by omega
  obtain ⟨W1, hW1⟩ : ∃ W1, W.alloc (.cells #[.int .u64 (kind : Int), .string A, .string B, .slice DA dn dc, .int .i64 N, .int .i64 dir, .slice KA kn kc] 30) = W1 := ⟨_, rfl⟩
  have hB1 : Below W.heap.size W W1 := by rw [← hW1]; exact (Below.refl _ W).alloc (Nat.le_refl _) _
  have hbx : W1.heap[W.heap.size]? = some (.cells #[.int .u64 (kind : Int), .string A, .string B, .slice DA dn dc, .int .i64 N, .int .i64 dir, .slice KA kn kc] 30 (0, 0)) := by rw [← hW1]; exact heap_alloc_new W _
  obtain ⟨bx, hbxe⟩ : ∃ bx, W.heap.size = bx := ⟨_, rfl⟩
  have h1 : Half w0 W1 d x own ox r r' := h.below hB1
  rw [hbxe] at hbx
  have b0 : W1.cell? ⟨bx, 0, none⟩ = some (.int .u64 (kind : Int)) := by rw [cell_of_row _ bx 0 _ _ (0, 0) hbx]; rfl
  have b1 : W1.cell? ⟨bx, 1, none⟩ = some (.string A) := by rw [cell_of_row _ bx 1 _ _ (0, 0) hbx]; rfl
  have b2 : W1.cell? ⟨bx, 2, none⟩ = some (.string B) := by rw [cell_of_row _ bx 2 _ _ (0, 0) hbx]; rfl
  have b3 : W1.cell? ⟨bx, 3, none⟩ = some (.slice DA dn dc) := by rw [cell_of_row _ bx 3 _ _ (0, 0) hbx]; rfl
  have HSRC1 : Hid (∀ V, Chg [d] W1 V → Src Try.prog 1 25 (.slice DA dn dc) dn (cellsZ zs) V) := Lib.hid (fun V hc => ((hD.below h1.on).blk hc.size (fun h0 b off e hb => hc.same b hb (fun hm => by
    rw [List.mem_singleton] at hm
    obtain ⟨b', off', e', hlt, _⟩ := hD.2.2 h0
    rw [e'] at e
    cases e
    have := h1.d0 b hlt
    rw [hm] at this
    exact h1.isD.od this))).toSrc dc)
  have HC1 := Lib.hid ((h1.isD.syncDir hs).mono fun e w' hh => (by rw [off_syncDir hoff] at hh; exact ⟨hh.1, h1.disk hh.2⟩ : e = .returned (.int .i64 5) ∧ ∃ own', Only own W1 own' w' ∧ Half w0 w' d x own' ox r r'.powered))
  clear h hs hB1 hbx h1 hoff hk hD HSRC1
  go_enter Try.func10, Try.ntmps10
  go_wp2_with fail
  refine HC1.out.mono ?_
  rintro e w2 ⟨rfl, own2, O2, h2⟩
  have H2 := Lib.hid h2
  clear O2 h2
  go_wp2
  go_ret
  exact ⟨rfl, own2, H2.out⟩
set_option maxHeartbeats 1600000 in
theorem dead4_any (h : Half w0 W d x own ox r r') (hoff : r'.on = false) (hs : r'.size + 4 ≤ 80000) (A B : ByteArray) (hA : A.size ≤ 1000000) (hB : B.size ≤ 1000000) (DA : Option Addr) (dn dc : Nat) (N dir : Int) (KA : Option Addr) (kn kc : Nat) (kind : Nat) (hk : kind % 10 = 4) (zs : List Int) (hD : RowZ w0 DA dn zs) (hdn : dn ≤ 10000000) :
    Calls Try.prog 10 #[.pointer (some ⟨d, 0, none⟩), .agg #[.int .u64 (kind : Int), .string A, .string B, .slice DA dn dc, .int .i64 N, .int .i64 dir, .slice KA kn kc]] W fun e w' => e = .returned (.bool true) ∧ ∃ own', Half w0 w' d x own' ox r r'.powered := by
  have hk' : (kind : Int) % 10 = 4 := by omega
  obtain ⟨W1, hW1⟩ : ∃ W1, W.alloc (.cells #[.int .u64 (kind : Int), .string A, .string B, .slice DA dn dc, .int .i64 N, .int .i64 dir, .slice KA kn kc] 30) = W1 := ⟨_, rfl⟩
  have hB1 : Below W.heap.size W W1 := by rw [← hW1]; exact (Below.refl _ W).alloc (Nat.le_refl _) _
  have hbx : W1.heap[W.heap.size]? = some (.cells #[.int .u64 (kind : Int), .string A, .string B, .slice DA dn dc, .int .i64 N, .int .i64 dir, .slice KA kn kc] 30 (0, 0)) := by rw [← hW1]; exact heap_alloc_new W _
  obtain ⟨bx, hbxe⟩ : ∃ bx, W.heap.size = bx := ⟨_, rfl⟩
  have h1 : Half w0 W1 d x own ox r r' := h.below hB1
  rw [hbxe] at hbx
  have b0 : W1.cell? ⟨bx, 0, none⟩ = some (.int .u64 (kind : Int)) := by rw [cell_of_row _ bx 0 _ _ (0, 0) hbx]; rfl
  have b1 : W1.cell? ⟨bx, 1, none⟩ = some (.string A) := by rw [cell_of_row _ bx 1 _ _ (0, 0) hbx]; rfl
  have b2 : W1.cell? ⟨bx, 2, none⟩ = some (.string B) := by rw [cell_of_row _ bx 2 _ _ (0, 0) hbx]; rfl
  have b3 : W1.cell? ⟨bx, 3, none⟩ = some (.slice DA dn dc) := by rw [cell_of_row _ bx 3 _ _ (0, 0) hbx]; rfl
  have HSRC1 : Hid (∀ V, Chg [d] W1 V → Src Try.prog 1 25 (.slice DA dn dc) dn (cellsZ zs) V) := Lib.hid (fun V hc => ((hD.below h1.on).blk hc.size (fun h0 b off e hb => hc.same b hb (fun hm => by
    rw [List.mem_singleton] at hm
    obtain ⟨b', off', e', hlt, _⟩ := hD.2.2 h0
    rw [e'] at e
    cases e
    have := h1.d0 b hlt
    rw [hm] at this
    exact h1.isD.od this))).toSrc dc)
  have HC1 := Lib.hid ((h1.isD.rename hs A B hA hB).mono fun e w' hh => (by rw [off_rename A B hoff] at hh; exact ⟨hh.1, h1.disk hh.2⟩ : e = .returned (.int .i64 5) ∧ ∃ own', Only own W1 own' w' ∧ Half w0 w' d x own' ox r r'.powered))
  clear h hs hB1 hbx h1 hoff hk hD HSRC1
  go_enter Try.func10, Try.ntmps10
  go_wp2_with fail
  refine HC1.out.mono ?_
  rintro e w2 ⟨rfl, own2, O2, h2⟩
  have H2 := Lib.hid h2
  clear O2 h2
  go_wp2
  go_ret
  exact ⟨rfl, own2, H2.out⟩
set_option maxHeartbeats 1600000 in
theorem dead5_any (h : Half w0 W d x own ox r r') (hoff : r'.on = false) (hs : r'.size + 4 ≤ 80000) (A B : ByteArray) (hA : A.size ≤ 1000000) (hB : B.size ≤ 1000000) (DA : Option Addr) (dn dc : Nat) (N dir : Int) (KA : Option Addr) (kn kc : Nat) (kind : Nat) (hk : kind % 10 = 5) (zs : List Int) (hD : RowZ w0 DA dn zs) (hdn : dn ≤ 10000000) :
    Calls Try.prog 10 #[.pointer (some ⟨d, 0, none⟩), .agg #[.int .u64 (kind : Int), .string A, .string B, .slice DA dn dc, .int .i64 N, .int .i64 dir, .slice KA kn kc]] W fun e w' => e = .returned (.bool true) ∧ ∃ own', Half w0 w' d x own' ox r r'.powered := by
  have hk' : (kind : Int) % 10 = 5 := by omega
  obtain ⟨W1, hW1⟩ : ∃ W1, W.alloc (.cells #[.int .u64 (kind : Int), .string A, .string B, .slice DA dn dc, .int .i64 N, .int .i64 dir, .slice KA kn kc] 30) = W1 := ⟨_, rfl⟩
  have hB1 : Below W.heap.size W W1 := by rw [← hW1]; exact (Below.refl _ W).alloc (Nat.le_refl _) _
  have hbx : W1.heap[W.heap.size]? = some (.cells #[.int .u64 (kind : Int), .string A, .string B, .slice DA dn dc, .int .i64 N, .int .i64 dir, .slice KA kn kc] 30 (0, 0)) := by rw [← hW1]; exact heap_alloc_new W _
  obtain ⟨bx, hbxe⟩ : ∃ bx, W.heap.size = bx := ⟨_, rfl⟩
  have h1 : Half w0 W1 d x own ox r r' := h.below hB1
  rw [hbxe] at hbx
  have b0 : W1.cell? ⟨bx, 0, none⟩ = some (.int .u64 (kind : Int)) := by rw [cell_of_row _ bx 0 _ _ (0, 0) hbx]; rfl
  have b1 : W1.cell? ⟨bx, 1, none⟩ = some (.string A) := by rw [cell_of_row _ bx 1 _ _ (0, 0) hbx]; rfl
  have b2 : W1.cell? ⟨bx, 2, none⟩ = some (.string B) := by rw [cell_of_row _ bx 2 _ _ (0, 0) hbx]; rfl
  have b3 : W1.cell? ⟨bx, 3, none⟩ = some (.slice DA dn dc) := by rw [cell_of_row _ bx 3 _ _ (0, 0) hbx]; rfl
  have HSRC1 : Hid (∀ V, Chg [d] W1 V → Src Try.prog 1 25 (.slice DA dn dc) dn (cellsZ zs) V) := Lib.hid (fun V hc => ((hD.below h1.on).blk hc.size (fun h0 b off e hb => hc.same b hb (fun hm => by
    rw [List.mem_singleton] at hm
    obtain ⟨b', off', e', hlt, _⟩ := hD.2.2 h0
    rw [e'] at e
    cases e
    have := h1.d0 b hlt
    rw [hm] at this
    exact h1.isD.od this))).toSrc dc)
  have HC1 := Lib.hid ((h1.isD.remove hs A hA).mono fun e w' hh => (by rw [off_remove A hoff] at hh; exact ⟨hh.1, h1.disk hh.2⟩ : e = .returned (.int .i64 5) ∧ ∃ own', Only own W1 own' w' ∧ Half w0 w' d x own' ox r r'.powered))
  clear h hs hB1 hbx h1 hoff hk hD HSRC1
  go_enter Try.func10, Try.ntmps10
  go_wp2_with fail
  refine HC1.out.mono ?_
  rintro e w2 ⟨rfl, own2, O2, h2⟩
  have H2 := Lib.hid h2
  clear O2 h2
  go_wp2
  go_ret
  exact ⟨rfl, own2, H2.out⟩
end
end Go.Proofs.Ythfoojagnfbdpaa
namespace Go.Proofs.Ythfoojagnfbdpaa
open Go.RowKit Go.Maps
set_option linter.unusedVariables false
set_option maxRecDepth 100000

/-- What one of the six calls leaves. -/
def RD.op (r : RD) (o : OpR) : RD :=
  if o.kind % 10 = 0 then (r.create o.a).2 else if o.kind % 10 = 1 then (r.append o.a (cellsZ o.dz)).2 else if o.kind % 10 = 2 then (r.sync o.a).2 else if o.kind % 10 = 3 then r.syncDir.2 else if o.kind % 10 = 4 then (r.rename o.a o.b).2 else (r.remove o.a).2
/-- What of the power a call leaves is what power alone leaves. -/
def SamePow (r r' : RD) : Prop := r'.calls = r.powered.calls ∧ r'.off = r.powered.off ∧ r'.stop = r.powered.stop
theorem SamePow.self (r : RD) : SamePow r r.powered := ⟨rfl, rfl, rfl⟩
theorem pow_create (r : RD) (x : ByteArray) : SamePow r (r.create x).2 := by
  unfold RD.create
  split
  · split <;> exact SamePow.self r
  · exact SamePow.self r
theorem pow_append (r : RD) (x : ByteArray) (bs : List Value) : SamePow r (r.append x bs).2 := by
  unfold RD.append
  split
  · split
    · exact SamePow.self r
    · split <;> exact SamePow.self r
  · exact SamePow.self r
theorem pow_sync (r : RD) (x : ByteArray) : SamePow r (r.sync x).2 := by
  unfold RD.sync
  split <;> exact SamePow.self r
theorem pow_syncDir (r : RD) : SamePow r r.syncDir.2 := by
  unfold RD.syncDir
  split <;> exact SamePow.self r
theorem pow_rename (r : RD) (x y : ByteArray) : SamePow r (r.rename x y).2 := by
  unfold RD.rename
  split <;> exact SamePow.self r
theorem pow_remove (r : RD) (x : ByteArray) : SamePow r (r.remove x).2 := by
  unfold RD.remove
  split <;> exact SamePow.self r
theorem pow_op (r : RD) (o : OpR) : SamePow r (r.op o) := by
  unfold RD.op
  split
  · exact pow_create r o.a
  split
  · exact pow_append r o.a _
  split
  · exact pow_sync r o.a
  split
  · exact pow_syncDir r
  split
  · exact pow_rename r o.a o.b
  · exact pow_remove r o.a
def RD.ops (r : RD) (l : List OpR) : RD := l.foldl RD.op r
theorem ops_snoc (r : RD) (l : List OpR) (o : OpR) : r.ops (l ++ [o]) = (r.ops l).op o := by
  unfold RD.ops
  rw [List.foldl_append]
  rfl
/-- As long as there is power for so many calls, each is counted, and none finds it off. -/
theorem ops_live (k c : Nat) : ∀ (l : List OpR) (r : RD), r.off = false → r.stop = (k : Int) → r.calls = c → l.length ≤ k → (r.ops l).off = false ∧ (r.ops l).stop = ((k - l.length : Nat) : Int) ∧ (r.ops l).calls = c + l.length := by
  intro l
  induction l generalizing k c with
  | nil => intro r h1 h2 h3 _; exact ⟨h1, h2, h3⟩
  | cons o l ih =>
    intro r h1 h2 h3 hl
    rw [List.length_cons] at hl
    obtain ⟨p1, p2, p3⟩ := pow_op r o
    have e : r.powered = { r with calls := r.calls + 1, stop := r.stop - 1 } := by
      unfold RD.powered
      rw [if_neg (by rw [h1]; simp), if_neg (by omega), if_pos (by omega)]
    rw [e] at p1 p2 p3
    have := ih (k - 1) (c + 1) (r.op o) (p2.trans h1) (by rw [p3]; show r.stop - 1 = _; omega) (by rw [p1]; show r.calls + 1 = _; omega) (by omega)
    obtain ⟨q1, q2, q3⟩ := this
    rw [List.length_cons]
    exact ⟨q1, by show ((r.op o).ops l).stop = _; rw [q2]; congr 1; omega, by show ((r.op o).ops l).calls = _; rw [q3]; omega⟩
/-- The document's disk beside one that will stop. -/
def RD.unstop (r : RD) : RD := { r with stop := -1, off := false }
theorem unstop_now (r : RD) : r.unstop.now = r.now := rfl
theorem unstop_on (r : RD) : r.unstop.on = true := rfl
theorem unstop_pow (r : RD) (h : r.on = true) : r.unstop.powered = r.powered.unstop := by
  unfold RD.on at h
  have h1 : r.off = false := by cases e : r.off with | false => rfl | true => rw [e] at h; cases h
  have h2 : r.stop ≠ 0 := by rw [h1] at h; simpa using h
  unfold RD.powered RD.unstop
  rw [if_neg (by simp), if_neg (by show ¬ (-1 : Int) = 0; decide), if_neg (by show ¬ (0 : Int) < -1; decide), if_neg (by rw [h1]; simp), if_neg h2]
  split <;> rfl
theorem unstop_beg (r : RD) (h : r.on = true) (ns : List ByteArray) : r.unstop.begE ns = r.begE ns := by
  unfold RD.begE
  rw [unstop_on, h]
theorem unstop_wit (r : RD) (h : r.on = true) (ns : List ByteArray) (x : ByteArray) : r.unstop.witE ns x = r.witE ns x := by
  unfold RD.witE
  rw [unstop_beg r h, unstop_now]
theorem unstop_create (r : RD) (h : r.on = true) (x : ByteArray) : r.unstop.create x = ((r.create x).1, (r.create x).2.unstop) := by
  unfold RD.create
  rw [unstop_beg r h, unstop_now, unstop_pow r h]
  split
  · split <;> rfl
  · rfl
theorem unstop_append (r : RD) (h : r.on = true) (x : ByteArray) (bs : List Value) : r.unstop.append x bs = ((r.append x bs).1, (r.append x bs).2.unstop) := by
  unfold RD.append
  rw [unstop_wit r h, unstop_pow r h]
  split
  · show (if 1048576 < (r.get x).data.length + bs.length then _ else _) = _
    split
    · rfl
    · show (if r.quota < (r.used : Int) + (bs.length : Int) then _ else _) = _
      split <;> rfl
  · rfl
theorem unstop_sync (r : RD) (h : r.on = true) (x : ByteArray) : r.unstop.sync x = ((r.sync x).1, (r.sync x).2.unstop) := by
  unfold RD.sync
  rw [unstop_wit r h, unstop_pow r h]
  split <;> rfl
theorem unstop_syncDir (r : RD) (h : r.on = true) : r.unstop.syncDir = (r.syncDir.1, r.syncDir.2.unstop) := by
  unfold RD.syncDir
  rw [unstop_on, h, unstop_pow r h]
  rfl
theorem unstop_rename (r : RD) (h : r.on = true) (x y : ByteArray) : r.unstop.rename x y = ((r.rename x y).1, (r.rename x y).2.unstop) := by
  unfold RD.rename
  rw [unstop_wit r h, unstop_pow r h]
  split <;> rfl
theorem unstop_remove (r : RD) (h : r.on = true) (x : ByteArray) : r.unstop.remove x = ((r.remove x).1, (r.remove x).2.unstop) := by
  unfold RD.remove
  rw [unstop_wit r h, unstop_pow r h]
  split <;> rfl
theorem unstop_fct {r : RD} (h : Fct r) : Fct r.unstop := { h with stop := (by show (-1 : Int) ≤ 9223372036854775807; decide) }
theorem unstop_named {r : RD} (h : Named r) : Named r.unstop := h
/-- Once it goes off it stays so. -/
theorem powered_off (r : RD) (h : r.off = false) (hs : r.stop = 0) : r.on = false ∧ r.powered.off = true ∧ r.powered.calls = r.calls + 1 ∧ r.powered.on = false ∧ r.powered.powered = r.powered := by
  have e : r.powered = { r with calls := r.calls + 1, off := true } := by
    unfold RD.powered
    rw [if_neg (by rw [h]; simp), if_pos hs]
  refine ⟨by unfold RD.on; rw [hs]; simp, by rw [e], by rw [e], by rw [e]; unfold RD.on; simp, ?_⟩
  rw [e]
  unfold RD.powered
  rw [if_pos rfl]
section
variable {w0 W : World} {d x : Nat} {own ox : Nat → Nat} {r r' : RD}
theorem op_size (F : Fct r) (o : OpR) : (r.op o).size ≤ r.size + 4 := by
  unfold RD.op
  split
  · exact size_create o.a
  split
  · exact size_append o.a _
  split
  · exact size_sync o.a
  split
  · exact size_syncDir F
  split
  · exact size_rename o.a o.b
  · exact size_remove o.a
theorem op_named (h : Named r) (o : OpR) : Named (r.op o) := by
  unfold RD.op
  split
  · exact h.create o.a
  split
  · exact h.append o.a _
  split
  · exact h.sync o.a
  split
  · exact h.syncDir
  split
  · exact h.rename o.a o.b
  · exact h.remove o.a
theorem small_sizes {o : OpR} (h : o.small = true) : o.a.size ≤ 1000000 ∧ o.b.size ≤ 1000000 ∧ o.dn ≤ 10000000 := by
  unfold OpR.small at h
  have := of_decide_eq_true h
  omega
theorem size_unstop (r : RD) : r.unstop.size = r.size := rfl
theorem do_stop (h : Half w0 W d x own ox r.unstop r) (hon : r.on = true) (hn : Named r) (hs : r.size + 4 ≤ 79000) (o : OpR) (hi : o.In w0) (hm : o.small = true) (hk : o.kind % 10 < 6) :
    Calls Try.prog 9 #[.pointer (some ⟨d, 0, none⟩), .pointer (some ⟨x, 0, none⟩), .agg o.cells.toArray] W fun e w' => e = .returned (.bool true) ∧ ∃ own' ox', Half w0 w' d x own' ox' (r.op o).unstop (r.op o) := by
  obtain ⟨ha, hb, hdn⟩ := small_sizes hm
  have hD := hi.data
  have hF := h.isD.fct
  have hq : r.unstop.size ≤ 79000 := by rw [size_unstop]; omega
  have hnu := unstop_named hn
  have hfu := unstop_fct hF.1
  obtain ⟨kind, a, b, dA, dn, dc, dz, n, dir, kA, kn, kc, kz⟩ := o
  dsimp only at ha hb hdn hD hk
  unfold OpR.cells RD.op
  dsimp only
  by_cases h0 : kind % 10 = 0
  · have e := unstop_create r hon a
    rw [if_pos h0, show (r.create a).2.unstop = (r.unstop.create a).2 from by rw [e]]
    exact do0_two h hnu hfu hs hq a b ha hb dA dn dc n dir kA kn kc kind h0 (by rw [e])
  rw [if_neg h0]
  by_cases h1 : kind % 10 = 1
  · have e := unstop_append r hon a (cellsZ dz)
    rw [if_pos h1, show (r.append a (cellsZ dz)).2.unstop = (r.unstop.append a (cellsZ dz)).2 from by rw [e]]
    exact do1_two h hnu hfu hs hq a b ha hb dA dn dc n dir kA kn kc kind h1 dz hD hdn (hF.2 a) (by rw [e])
  rw [if_neg h1]
  by_cases h2 : kind % 10 = 2
  · have e := unstop_sync r hon a
    rw [if_pos h2, show (r.sync a).2.unstop = (r.unstop.sync a).2 from by rw [e]]
    exact do2_two h hnu hfu hs hq a b ha hb dA dn dc n dir kA kn kc kind h2 (by rw [e])
  rw [if_neg h2]
  by_cases h3 : kind % 10 = 3
  · have e := unstop_syncDir r hon
    rw [if_pos h3, show r.syncDir.2.unstop = r.unstop.syncDir.2 from by rw [e]]
    exact do3_two h hnu hfu hs hq a b ha hb dA dn dc n dir kA kn kc kind h3 (by rw [e])
  rw [if_neg h3]
  by_cases h4 : kind % 10 = 4
  · have e := unstop_rename r hon a b
    rw [if_pos h4, show (r.rename a b).2.unstop = (r.unstop.rename a b).2 from by rw [e]]
    exact do4_two h hnu hfu hs hq a b ha hb dA dn dc n dir kA kn kc kind h4 (by rw [e])
  rw [if_neg h4]
  have e := unstop_remove r hon a
  rw [show (r.remove a).2.unstop = (r.unstop.remove a).2 from by rw [e]]
  exact do5_two h hnu hfu hs hq a b ha hb dA dn dc n dir kA kn kc kind (by omega) (by rw [e])
theorem dead_any (h : Half w0 W d x own ox r r') (hoff : r'.on = false) (hs : r'.size + 4 ≤ 80000) (o : OpR) (hi : o.In w0) (hm : o.small = true) (hk : o.kind % 10 < 6) :
    Calls Try.prog 10 #[.pointer (some ⟨d, 0, none⟩), .agg o.cells.toArray] W fun e w' => e = .returned (.bool true) ∧ ∃ own', Half w0 w' d x own' ox r r'.powered := by
  obtain ⟨ha, hb, hdn⟩ := small_sizes hm
  have hD := hi.data
  obtain ⟨kind, a, b, dA, dn, dc, dz, n, dir, kA, kn, kc, kz⟩ := o
  dsimp only at ha hb hdn hD hk
  unfold OpR.cells
  dsimp only
  by_cases h0 : kind % 10 = 0
  · exact dead0_any h hoff hs a b ha hb dA dn dc n dir kA kn kc kind h0 dz hD hdn
  by_cases h1 : kind % 10 = 1
  · exact dead1_any h hoff hs a b ha hb dA dn dc n dir kA kn kc kind h1 dz hD hdn
  by_cases h2 : kind % 10 = 2
  · exact dead2_any h hoff hs a b ha hb dA dn dc n dir kA kn kc kind h2 dz hD hdn
  by_cases h3 : kind % 10 = 3
  · exact dead3_any h hoff hs a b ha hb dA dn dc n dir kA kn kc kind h3 dz hD hdn
  by_cases h4 : kind % 10 = 4
  · exact dead4_any h hoff hs a b ha hb dA dn dc n dir kA kn kc kind h4 dz hD hdn
  exact dead5_any h hoff hs a b ha hb dA dn dc n dir kA kn kc kind (by omega) dz hD hdn
end
end Go.Proofs.Ythfoojagnfbdpaa
namespace Go.Proofs.Ythfoojagnfbdpaa
open Go.RowKit Go.Maps
set_option linter.unusedVariables false
set_option maxRecDepth 100000

/-- How both are behind the first j calls: with power up to K, without behind that. -/
def StopIs (w0 W : World) (d x : Nat) (r0 : RD) (K : Nat) (C : List OpR) (j : Nat) : Prop :=
  ∃ own ox, (j ≤ K ∧ Half w0 W d x own ox (r0.ops (C.take j)).unstop (r0.ops (C.take j)) ∧ Named (r0.ops (C.take j)) ∧ (r0.ops (C.take j)).size ≤ 4 * j) ∨ (K < j ∧ Half w0 W d x own ox (r0.ops (C.take K)).unstop (r0.ops (C.take K)).powered ∧ Named (r0.ops (C.take K)) ∧ (r0.ops (C.take K)).size ≤ 4 * K)
/-- A disk that has just been told to stop behind K calls. -/
structure WillStop (r0 : RD) (K : Nat) : Prop where
  off : r0.off = false
  stop : r0.stop = (K : Int)
  calls : r0.calls = 0
theorem take_len {C : List OpR} {j : Nat} (h : j ≤ C.length) : (C.take j).length = j := by rw [List.length_take]; omega
section
variable {w0 W W' : World} {d x : Nat} {r0 : RD} {K j : Nat} {C : List OpR}
theorem WillStop.at (h : WillStop r0 K) (hj : j ≤ C.length) (hk : j ≤ K) : (r0.ops (C.take j)).off = false ∧ (r0.ops (C.take j)).stop = ((K - j : Nat) : Int) ∧ (r0.ops (C.take j)).calls = j := by
  have := ops_live K 0 (C.take j) r0 h.off h.stop h.calls (by rw [take_len hj]; exact hk)
  rw [take_len hj, Nat.zero_add] at this
  exact this
theorem StopIs.on (h : StopIs w0 W d x r0 K C j) : Below w0.heap.size w0 W := by
  obtain ⟨own, ox, ⟨_, h, _⟩ | ⟨_, h, _⟩⟩ := h <;> exact h.on
theorem StopIs.below (h : StopIs w0 W d x r0 K C j) (hB : Below W.heap.size W W') : StopIs w0 W' d x r0 K C j := by
  obtain ⟨own, ox, ⟨h1, h, h2⟩ | ⟨h1, h, h2⟩⟩ := h
  · exact ⟨own, ox, .inl ⟨h1, h.below hB, h2⟩⟩
  · exact ⟨own, ox, .inr ⟨h1, h.below hB, h2⟩⟩
theorem StopIs.off_live (h : StopIs w0 W d x r0 K C j) (hf : WillStop r0 K) (hj : j ≤ C.length) (hk : j < K) :
    Calls Try.prog 8 #[.pointer (some ⟨d, 0, none⟩)] W fun e w' => e = .returned (.bool false) ∧ W = w' := by
  obtain ⟨own, ox, ⟨h1, h, _⟩ | ⟨h1, _⟩⟩ := h
  · have := h.isD.isOff
    rw [(hf.at hj (by omega)).1] at this
    exact this
  · omega
theorem take_succ' {j : Nat} {o : OpR} (ho : C[j]? = some o) : C.take (j + 1) = C.take j ++ [o] := by
  obtain ⟨hk, e⟩ := List.getElem?_eq_some_iff.1 ho
  rw [List.take_succ_eq_append_getElem hk, e]
theorem StopIs.go_live (h : StopIs w0 W d x r0 K C j) (hf : WillStop r0 K) (hk : j < K) (hK : K ≤ 1000) {o : OpR} (ho : C[j]? = some o) (hi : o.In w0) (hm : o.small = true) (hkd : o.kind % 10 < 6) :
    Calls Try.prog 9 #[.pointer (some ⟨d, 0, none⟩), .pointer (some ⟨x, 0, none⟩), .agg o.cells.toArray] W fun e w' => e = .returned (.bool true) ∧ StopIs w0 w' d x r0 K C (j + 1) := by
  have hj : j < C.length := (List.getElem?_eq_some_iff.1 ho).1
  obtain ⟨own, ox, ⟨h1, h, hn, hs⟩ | ⟨h1, _⟩⟩ := h
  · obtain ⟨p1, p2, p3⟩ := hf.at (C := C) (by omega) h1
    have hon : (r0.ops (C.take j)).on = true := by
      unfold RD.on
      rw [p1, p2]
      simp
      omega
    refine (do_stop h hon hn (by omega) o hi hm hkd).mono ?_
    rintro e w' ⟨rfl, own', ox', h'⟩
    refine ⟨rfl, own', ox', .inl ⟨hk, ?_⟩⟩
    rw [take_succ' ho, ops_snoc]
    exact ⟨h', op_named hn o, by have := op_size h.isD.fct.1 o; omega⟩
  · omega
theorem StopIs.go_dead (h : StopIs w0 W d x r0 K C j) (hf : WillStop r0 K) (hk : K ≤ j) (hK : K ≤ 1000) {o : OpR} (ho : C[j]? = some o) (hi : o.In w0) (hm : o.small = true) (hkd : o.kind % 10 < 6) :
    Calls Try.prog 10 #[.pointer (some ⟨d, 0, none⟩), .agg o.cells.toArray] W fun e w' => e = .returned (.bool true) ∧ StopIs w0 w' d x r0 K C (j + 1) := by
  have hj : j < C.length := (List.getElem?_eq_some_iff.1 ho).1
  obtain ⟨own, ox, ⟨h1, h, hn, hs⟩ | ⟨h1, h, hn, hs⟩⟩ := h
  · obtain rfl : j = K := by omega
    obtain ⟨p1, p2, p3⟩ := hf.at (C := C) (by omega) h1
    rw [Nat.sub_self] at p2
    obtain ⟨q1, q2, q3, q4, q5⟩ := powered_off _ p1 p2
    refine (dead_any h q1 (by omega) o hi hm hkd).mono ?_
    rintro e w' ⟨rfl, own', h'⟩
    exact ⟨rfl, own', ox, .inr ⟨by omega, h', hn, hs⟩⟩
  · obtain ⟨p1, p2, p3⟩ := hf.at (j := K) (C := C) (by omega) (Nat.le_refl _)
    rw [Nat.sub_self] at p2
    obtain ⟨q1, q2, q3, q4, q5⟩ := powered_off _ p1 p2
    have hsz := (r0.ops (C.take K)).powered_size
    refine (dead_any h q4 (by omega) o hi hm hkd).mono ?_
    rintro e w' ⟨rfl, own', h'⟩
    rw [q5] at h'
    exact ⟨rfl, own', ox, .inr ⟨by omega, h', hn, hs⟩⟩
theorem StopIs.off_dead (h : StopIs w0 W d x r0 K C j) (hf : WillStop r0 K) (hj : j ≤ C.length) (hk : K < j) :
    Calls Try.prog 8 #[.pointer (some ⟨d, 0, none⟩)] W fun e w' => e = .returned (.bool true) ∧ W = w' := by
  obtain ⟨own, ox, ⟨h1, _⟩ | ⟨h1, h, hn, hs⟩⟩ := h
  · omega
  · obtain ⟨p1, p2, p3⟩ := hf.at (j := K) (C := C) (by omega) (Nat.le_refl _)
    rw [Nat.sub_self] at p2
    obtain ⟨q1, q2, q3, q4, q5⟩ := powered_off _ p1 p2
    have := h.isD.isOff
    rw [q2] at this
    exact this
/-- At the end: what the disk tells of its calls, and the document's of its directory. -/
theorem StopIs.calls (h : StopIs w0 W d x r0 K C C.length) (hf : WillStop r0 K) :
    Calls Try.prog 13 #[.pointer (some ⟨d, 0, none⟩)] W fun e w' => e = .returned (.int .i64 ((min C.length (K + 1) : Nat) : Int)) ∧ W = w' := by
  obtain ⟨own, ox, ⟨h1, h, hn, hs⟩ | ⟨h1, h, hn, hs⟩⟩ := h
  · have e := (hf.at (C := C) (Nat.le_refl _) h1).2.2
    have := h.isD.allCalls
    rw [e] at this
    rw [show min C.length (K + 1) = C.length by omega]
    exact this
  · obtain ⟨p1, p2, p3⟩ := hf.at (j := K) (C := C) (by omega) (Nat.le_refl _)
    rw [Nat.sub_self] at p2
    obtain ⟨q1, q2, q3, q4, q5⟩ := powered_off _ p1 p2
    have := h.isD.allCalls
    rw [q3, p3] at this
    rw [show min C.length (K + 1) = K + 1 by omega]
    exact this
/-- At the end both have one directory and one row of files, told of one state. -/
theorem StopIs.fin (h : StopIs w0 W d x r0 K C j) : ∃ own ox r r', Half w0 W d x own ox r r' ∧ r'.now = r.now ∧ r'.files = r.files := by
  obtain ⟨own, ox, ⟨h1, h, hn, hs⟩ | ⟨h1, h, hn, hs⟩⟩ := h
  · exact ⟨own, ox, _, _, h, rfl, rfl⟩
  · refine ⟨own, ox, _, _, h, ?_, RD.powered_files _⟩
    show layAll _ _ = layAll _ _
    rw [RD.powered_sure, RD.powered_chs]
    rfl
end
end Go.Proofs.Ythfoojagnfbdpaa
namespace Go.Proofs.Ythfoojagnfbdpaa
open Go.RowKit Go.Maps
set_option linter.unusedVariables false
set_option maxRecDepth 100000

theorem cellsZ_of : ∀ l : List Value, (∀ u ∈ l, ∃ z : Int, 0 ≤ z ∧ z < 256 ∧ u = .int .u8 z) → ∃ zs : List Int, l = cellsZ zs ∧ ∀ z ∈ zs, 0 ≤ z ∧ z ≤ 255 := by
  intro l
  induction l with
  | nil => intro _; exact ⟨[], rfl, fun z hz => by cases hz⟩
  | cons u l ih =>
    intro h
    obtain ⟨zs, h1, h2⟩ := ih fun v hv => h v (by simp [hv])
    obtain ⟨z, z0, z1, rfl⟩ := h u (by simp)
    refine ⟨z :: zs, by rw [h1]; rfl, fun y hy => ?_⟩
    rcases List.mem_cons.1 hy with rfl | hy
    · omega
    · exact h2 y hy
section
variable {w0 W : World} {d x : Nat} {own ox : Nat → Nat} {r r' : RD}
theorem end_at (h : Half w0 W d x own ox r r') (e1 : r'.now = r.now) (e2 : r'.files = r.files) :
    ∃ FA fn fc NA nn nc, W.cell? ⟨x, 0, none⟩ = some (.slice FA fn fc) ∧ W.cell? ⟨x, 1, none⟩ = some (.slice NA nn nc) ∧ x < W.heap.size ∧ r'.now.length = nn ∧ nn ≤ 1000000 ∧
      ∀ k, k < nn → ∃ (nm : ByteArray) (q g off gf fo : Nat) (A : Option Addr) (m c : Nat) (zs : List Int), NA = some ⟨g, off, none⟩ ∧ FA = some ⟨gf, fo, none⟩ ∧ q < fn ∧ g < W.heap.size ∧ gf < W.heap.size ∧
        W.cell? ⟨g, off + k * 2, none⟩ = some (.string nm) ∧ W.cell? ⟨g, off + k * 2 + 1, none⟩ = some (.int .i64 (q : Int)) ∧ W.cell? ⟨gf, fo + q * 2, none⟩ = some (.slice A m c) ∧ RowZ W A m zs ∧
        ∀ V, Below W.heap.size W V → Calls Try.prog 12 #[.pointer (some ⟨d, 0, none⟩), .string nm] V fun e w' => (∃ A' c', e = .returned (.tuple #[.slice A' m c', .int .i64 0]) ∧ RowZ w' A' m zs) ∧ Below V.heap.size V w' := by
  have hF := h.isD.fct.1
  obtain ⟨hz, b, FA, fn, fc, NA, nn, nc, SA, sn, sc, CA, cn, cc, vs, cs, H⟩ := h.isR
  have hlen : r.now.length = nn := H.nrow.len
  have hvl : vs.length = fn := by have := H.fline.1; rw [flatF_length] at this; omega
  have hfl : vs.length = r.files.length := H.fdata.1
  have c0 : W.cell? ⟨x, 0, none⟩ = some b.files := H.box.cell 0 _ rfl
  have c1 : W.cell? ⟨x, 1, none⟩ = some b.now := H.box.cell 1 _ rfl
  rw [H.files] at c0
  rw [H.now] at c1
  refine ⟨FA, fn, fc, NA, nn, nc, c0, c1, World.block_lt_of_cell? W _ c0, by rw [e1]; exact hlen, ?_, fun k hk => ?_⟩
  · obtain ⟨_, b', F', fn', fc', RA, rn, rc, SA', sn', sc', C', cn', cc', fs, ps, ss, css, chl, nm, dt, su, H', R'⟩ := h.isD
    have e3 := congrArg List.length (H'.rnow R')
    unfold mapT at e3
    rw [List.length_map, H'.nrow.len, e1, hlen] at e3
    have := H'.nowAt.len
    omega
  · obtain ⟨⟨nm, v⟩, hp⟩ : ∃ p, r.now[k]? = some p := ⟨_, List.getElem?_eq_getElem (by omega)⟩
    have hp' : r'.now[k]? = some (nm, v) := by rw [e1]; exact hp
    obtain ⟨q, hq, hqf⟩ := hF.nn _ (List.mem_of_getElem? hp')
    dsimp only at hq
    subst hq
    rw [e2] at hqf
    obtain ⟨f, hf⟩ : ∃ f, r.files[q]? = some f := ⟨_, List.getElem?_eq_getElem hqf⟩
    obtain ⟨u, hu⟩ : ∃ u, vs[q]? = some u := ⟨_, List.getElem?_eq_getElem (by omega)⟩
    obtain ⟨hs, A, c, hu1, hl, _⟩ := H.fdata.2 q u f hu hf
    obtain ⟨g, off, eN, hg, hgc, _⟩ := H.nrow.line.at (by omega)
    obtain ⟨gf, fo, eF, hgf, hfc, _⟩ := H.fline.at (by omega)
    obtain ⟨p1, p2⟩ := cellsP_at encS r.now k _ hp
    obtain ⟨s1, _⟩ := flatF_at vs q _ hu
    have hlook := look_here hF.rn hp'
    have hhas : hasP ltS r'.now nm = true := by unfold hasP; rw [hlook]; rfl
    have hget : r'.get nm = f := by
      unfold RD.get RD.num RD.file
      rw [hlook]
      show r'.files.getD (numOf (numV q)) _ = f
      rw [numOf_numV, e2, List.getD_eq_getElem?_getD, hf]
      rfl
    obtain ⟨b1, b2, b3⟩ := h.isD.bytes nm hhas
    rw [hget] at b1
    obtain ⟨zs, hzs, hz1⟩ := cellsZ_of _ b1
    have hm : f.data.length = zs.length := by rw [hzs, cellsZ_length]
    refine ⟨nm, q, g, off, gf, fo, A, f.data.length, c, zs, eN, eF, by omega, hg, hgf, ?_, ?_, ?_, ?_, fun V hV => ?_⟩
    · rw [hgc (k * 2) (by omega)]; exact p1
    · rw [Nat.add_assoc, hgc (k * 2 + 1) (by omega)]; exact p2
    · rw [hfc (q * 2) (by omega), s1, hu1]
    · rw [hzs] at hl ⊢
      exact hl.toRowZ hz1
    · have hr := (h.below hV).isD.read_yes nm hhas
      rw [hget] at hr
      refine hr.mono ?_
      rintro e w' ⟨⟨A', c', rfl, hl', _⟩, hB⟩
      refine ⟨⟨A', c', rfl, ?_⟩, hB⟩
      rw [hzs] at hl' ⊢
      exact hl'.toRowZ hz1
end
end Go.Proofs.Ythfoojagnfbdpaa
