/-
  Contracts of word.Put, word.Get and the document's Put, where bytes may be many.
-/
import Derived.Test.YtjcknjadapbooaaCrcw
import Derived.Test.YtjcknjadapbooaaWordMathB
namespace Go.Proofs.Ytjcknjadapbooaa
open Go.RowKit
set_option linter.unusedVariables false

/-- The four bytes of a word, the lowest first. -/
def word4 (n : Int) : List Int := [n % 256, n % 4294967296 / 256 % 256, n % 4294967296 / 65536 % 256, n % 4294967296 / 16777216]
/-- The word of four bytes. -/
def getV (a b c d : Int) : Int := wrap32 (a + b * 256 + c * 65536 + d * 16777216)
theorem getV_word4 (n : Int) (h : -2147483648 ≤ n ∧ n ≤ 2147483647) : getV (n % 256) (n % 4294967296 / 256 % 256) (n % 4294967296 / 65536 % 256) (n % 4294967296 / 16777216) = n := by
  unfold getV wrap32; omega
theorem word4_getV (a b c d : Int) (ha : 0 ≤ a ∧ a ≤ 255) (hb : 0 ≤ b ∧ b ≤ 255) (hc : 0 ≤ c ∧ c ≤ 255) (hd : 0 ≤ d ∧ d ≤ 255) : word4 (getV a b c d) = [a, b, c, d] := by
  unfold word4 getV wrap32
  simp only [List.cons.injEq, and_true]
  omega

/-- Byte k of a word. -/
def byteI (N : Int) (k : Nat) : Int := N % 4294967296 / 256 ^ k % 256
theorem word4_bd (N : Int) : ∀ z ∈ word4 N, 0 ≤ z ∧ z ≤ 255 := by
  intro z hz
  simp only [word4, List.mem_cons, List.not_mem_nil, or_false] at hz
  omega

theorem own_line {w : World} {B g n c : Nat} {e : TypeId} {xs : List Value} (h : w.ownsRow B e 1 (.slice (some ⟨g, 0, none⟩) n c) n xs) : SLine 1 w (some ⟨g, 0, none⟩) n c xs := by
  rcases h.2 with ⟨e, _⟩ | ⟨g', cap, cur, e1, _, hh, h1, h2, h3, h4⟩
  · cases e
  · injection e1 with e1 _ e3
    injection e1 with e1
    injection e1 with e1
    subst e1 e3
    rw [Nat.mul_one] at h3 h4
    refine ⟨h.1, h1, h2, (fun e => by cases e), fun ad e => ?_⟩
    cases e
    have hc : ∀ i, w.cell? ⟨g, 0 + i, none⟩ = cur[i]? := fun i => by rw [Nat.zero_add, cell_of_row w g i cur _ (0, 0) hh]
    refine ⟨g, 0, rfl, lt_of_block hh, fun i hi => ?_, fun i hi => ⟨?_, ?_⟩⟩
    · rw [hc, ← h4, List.getElem?_take, if_pos (by omega)]
      simp
    · rw [hc]
      simp [show i < cur.size by omega]
    · rw [Nat.zero_add]
      exact frozen_of_row w g i cur _ hh
set_option maxHeartbeats 1000000 in
theorem put_any (A : Option Addr) (n cap : Nat) (zs : List Int) (N : Int) (hn : n ≤ 90000) (w : World) (hR : RowZ w A n zs) :
    Calls Try.prog 15 #[.slice A n cap, .int .i32 N] w fun e w' => (∃ g, e = .returned (.slice (some ⟨g, 0, none⟩) (n + 4) (n + 4)) ∧ w.heap.size ≤ g ∧ RowZ w' (some ⟨g, 0, none⟩) (n + 4) (zs ++ word4 N) ∧ SLine 1 w' (some ⟨g, 0, none⟩) (n + 4) (n + 4) (cellsZ (zs ++ word4 N))) ∧ Below w.heap.size w w' := by
  have hmk := make_bytes n (n + 4) (by omega) (by omega)
  rw [show ((n + 4 : Nat) : Int) = (n : Int) + 4 from by omega] at hmk
  obtain ⟨W2, hcopy, hg2, hb2⟩ := copy_run A n (n + 4) cap zs (List.replicate (n + 4) 0) w hR (by simp) (by omega)
  have HR := Lib.hid hR
  have HG := Lib.hid hg2
  obtain ⟨i0, hi, hz0, hz1, hz2⟩ := info_parts info_u8
  have HI := Lib.hid hi
  have HZ1 := Lib.hid hz1
  clear hR hi hz0 hz1 hz2 hg2
  go_enter Try.func15, Try.ntmps15
  go_wp2_with fail
  have HO : Hid (W2.ownsRow w.heap.size 5 1 (.slice (some ⟨w.heap.size, 0, none⟩) n (n + 4)) n (cellsZ zs)) :=
    Lib.hid (own_of_heap HG.out (Nat.le_refl _) (by simp [cellsZ, HR.out.1]) (by simp [cellsZ, HR.out.1]) (by omega))
  go_loopw [5, 16] (fun v i wr => ∃ k : Nat, k ≤ 4 ∧ i = .int .i64 k ∧ v = .slice (some ⟨w.heap.size, 0, none⟩) (n + k) (n + 4) ∧ Hid (wr.ownsRow w.heap.size 5 1 (.slice (some ⟨w.heap.size, 0, none⟩) (n + k) (n + 4)) (n + k) (cellsZ (zs ++ (word4 N).take k))) ∧ Below w.heap.size w wr) (fun _ i _ => 4 - (intOf i).toNat)
  case atStart => exact ⟨0, by omega, rfl, rfl, by simpa using HO, hb2⟩
  case round =>
    obtain ⟨k, hk, rfl, rfl, HO2, hbr⟩ := hrel
    have hcases : k = 0 ∨ k = 1 ∨ k = 2 ∨ k = 3 ∨ k = 4 := by omega
    rcases hcases with rfl | rfl | rfl | rfl | rfl
    · have hown := (HO2.out.alloc (.cells #[.int .u8 (N % 256)] 5))
      have HW := Lib.hid hown
      have HN := Lib.hid (new_cell wr (.int .u8 (N % 256)) 5)
      clear hown
      go_wp2_with (at_builtin; go_loud (refine wpList_append_fits _ (by rfl) (.tmp 19) (.tmp 27) 22 (by rfl) w.heap.size 5 i0 1 Try.underlying22 HI.out HZ1.out w.heap.size (n + 0) (n + 4) _ (by rfl) HW.out ⟨wr.heap.size, 0, none⟩ 1 1 [.int .u8 (N % 256)] (by rfl) rfl HN.out (one_u8 [N % 256]) (by omega) ?_); intro w3 hown3 hgrow3)
      have H3 : Hid (w3.ownsRow w.heap.size 5 1 (.slice (some ⟨w.heap.size, 0, none⟩) (n + 1) (n + 4)) (n + 1) (cellsZ (zs ++ (word4 N).take 1))) := by
        have e : cellsZ (zs ++ (word4 N).take 1) = cellsZ (zs ++ (word4 N).take 0) ++ [.int .u8 (N % 256)] := by simp [cellsZ, word4]
        rw [e]
        exact Lib.hid hown3
      have hb3 : Below w.heap.size w w3 := (hbr.alloc hbr.size _).grown hgrow3 (by have := hbr.size; simp; omega) (fun q hq => by injection hq with hq; omega)
      clear hown3 hgrow3
      go_wp2
      go_roundw
      case rel => exact ⟨1, by omega, rfl, rfl, H3, hb3⟩
      case measure => simp [intOf]
    · have hown := (HO2.out.alloc (.cells #[.int .u8 (N % 4294967296 / 256 % 256)] 5))
      have HW := Lib.hid hown
      have HN := Lib.hid (new_cell wr (.int .u8 (N % 4294967296 / 256 % 256)) 5)
      clear hown
      go_wp2_with (at_builtin; go_loud (refine wpList_append_fits _ (by rfl) (.tmp 19) (.tmp 27) 22 (by rfl) w.heap.size 5 i0 1 Try.underlying22 HI.out HZ1.out w.heap.size (n + 1) (n + 4) _ (by rfl) HW.out ⟨wr.heap.size, 0, none⟩ 1 1 [.int .u8 (N % 4294967296 / 256 % 256)] (by rfl) rfl HN.out (one_u8 [N % 4294967296 / 256 % 256]) (by omega) ?_); intro w3 hown3 hgrow3)
      have H3 : Hid (w3.ownsRow w.heap.size 5 1 (.slice (some ⟨w.heap.size, 0, none⟩) (n + 2) (n + 4)) (n + 2) (cellsZ (zs ++ (word4 N).take 2))) := by
        have e : cellsZ (zs ++ (word4 N).take 2) = cellsZ (zs ++ (word4 N).take 1) ++ [.int .u8 (N % 4294967296 / 256 % 256)] := by simp [cellsZ, word4]
        rw [e]
        exact Lib.hid hown3
      have hb3 : Below w.heap.size w w3 := (hbr.alloc hbr.size _).grown hgrow3 (by have := hbr.size; simp; omega) (fun q hq => by injection hq with hq; omega)
      clear hown3 hgrow3
      go_wp2
      go_roundw
      case rel => exact ⟨2, by omega, rfl, rfl, H3, hb3⟩
      case measure => simp [intOf]
    · have hown := (HO2.out.alloc (.cells #[.int .u8 (N % 4294967296 / 65536 % 256)] 5))
      have HW := Lib.hid hown
      have HN := Lib.hid (new_cell wr (.int .u8 (N % 4294967296 / 65536 % 256)) 5)
      clear hown
      go_wp2_with (at_builtin; go_loud (refine wpList_append_fits _ (by rfl) (.tmp 19) (.tmp 27) 22 (by rfl) w.heap.size 5 i0 1 Try.underlying22 HI.out HZ1.out w.heap.size (n + 2) (n + 4) _ (by rfl) HW.out ⟨wr.heap.size, 0, none⟩ 1 1 [.int .u8 (N % 4294967296 / 65536 % 256)] (by rfl) rfl HN.out (one_u8 [N % 4294967296 / 65536 % 256]) (by omega) ?_); intro w3 hown3 hgrow3)
      have H3 : Hid (w3.ownsRow w.heap.size 5 1 (.slice (some ⟨w.heap.size, 0, none⟩) (n + 3) (n + 4)) (n + 3) (cellsZ (zs ++ (word4 N).take 3))) := by
        have e : cellsZ (zs ++ (word4 N).take 3) = cellsZ (zs ++ (word4 N).take 2) ++ [.int .u8 (N % 4294967296 / 65536 % 256)] := by simp [cellsZ, word4]
        rw [e]
        exact Lib.hid hown3
      have hb3 : Below w.heap.size w w3 := (hbr.alloc hbr.size _).grown hgrow3 (by have := hbr.size; simp; omega) (fun q hq => by injection hq with hq; omega)
      clear hown3 hgrow3
      go_wp2
      go_roundw
      case rel => exact ⟨3, by omega, rfl, rfl, H3, hb3⟩
      case measure => simp [intOf]
    · have hown := (HO2.out.alloc (.cells #[.int .u8 (N % 4294967296 / 16777216)] 5))
      have HW := Lib.hid hown
      have HN := Lib.hid (new_cell wr (.int .u8 (N % 4294967296 / 16777216)) 5)
      clear hown
      go_wp2_with (at_builtin; go_loud (refine wpList_append_fits _ (by rfl) (.tmp 19) (.tmp 27) 22 (by rfl) w.heap.size 5 i0 1 Try.underlying22 HI.out HZ1.out w.heap.size (n + 3) (n + 4) _ (by rfl) HW.out ⟨wr.heap.size, 0, none⟩ 1 1 [.int .u8 (N % 4294967296 / 16777216)] (by rfl) rfl HN.out (one_u8 [N % 4294967296 / 16777216]) (by omega) ?_); intro w3 hown3 hgrow3)
      have H3 : Hid (w3.ownsRow w.heap.size 5 1 (.slice (some ⟨w.heap.size, 0, none⟩) (n + 4) (n + 4)) (n + 4) (cellsZ (zs ++ (word4 N).take 4))) := by
        have e : cellsZ (zs ++ (word4 N).take 4) = cellsZ (zs ++ (word4 N).take 3) ++ [.int .u8 (N % 4294967296 / 16777216)] := by simp [cellsZ, word4]
        rw [e]
        exact Lib.hid hown3
      have hb3 : Below w.heap.size w w3 := (hbr.alloc hbr.size _).grown hgrow3 (by have := hbr.size; simp; omega) (fun q hq => by injection hq with hq; omega)
      clear hown3 hgrow3
      go_wp2
      go_roundw
      case rel => exact ⟨4, by omega, rfl, rfl, H3, hb3⟩
      case measure => simp [intOf]
    · go_wp2
      go_ret
      have hl : (zs ++ word4 N).length = n + 4 := by rw [List.length_append, HR.out.1]; rfl
      have ho := HO2.out
      rw [show (word4 N).take 4 = word4 N from rfl] at ho
      exact ⟨⟨w.heap.size, rfl, Nat.le_refl _, row_of_own ho (fun z hz => by
        rcases List.mem_append.1 hz with hz | hz
        · exact HR.out.2.1 z hz
        · exact word4_bd N z hz) hl, own_line ho⟩, hbr⟩

theorem bits_put (n : Int) (h : -2147483648 ≤ n ∧ n ≤ 2147483647) (w : World) :
    Calls Try.prog 24 #[.int .i32 n] w fun e w' => e = .returned (.int .i64 (n % 4294967296)) ∧ w = w' := by
  by_cases hn : n < 0
  · go_enter Try.func24, Try.ntmps24
    go_wp2
    go_ret
    exact ⟨ret_int (by omega), rfl⟩
  · go_enter Try.func24, Try.ntmps24
    go_wp2
    go_ret
    exact ⟨ret_int (by omega), rfl⟩
theorem ref_put (N : Int) (hN : -2147483648 ≤ N ∧ N ≤ 2147483647) (w : World) :
    Calls Try.prog 19 #[.int .i32 N] w fun e w' => (∃ g, e = .returned (.slice (some ⟨g, 0, none⟩) 4 4) ∧ w.heap.size ≤ g ∧ RowZ w' (some ⟨g, 0, none⟩) 4 (word4 N) ∧ SLine 1 w' (some ⟨g, 0, none⟩) 4 4 (cellsZ (word4 N))) ∧ Below w.heap.size w w' := by
  have hB : Below w.heap.size w (w.alloc (.cells (cellsZ (word4 N)).toArray 5)) := (Below.refl _ _).alloc (Nat.le_refl _) _
  have hR : RowZ (w.alloc (.cells (cellsZ (word4 N)).toArray 5)) (some ⟨w.heap.size, 0, none⟩) 4 (word4 N) := by
    have ho : (w.alloc (.cells (cellsZ (word4 N)).toArray 5)).ownsRow w.heap.size 5 1 (.slice (some ⟨w.heap.size, 0, none⟩) 4 4) 4 (cellsZ (word4 N)) :=
      own_of_heap (ys := []) (by rw [List.append_nil]; exact heap_alloc_new w _) (Nat.le_refl _) rfl rfl (by omega)
    exact row_of_own ho (word4_bd N) rfl
  have hL : SLine 1 (w.alloc (.cells (cellsZ (word4 N)).toArray 5)) (some ⟨w.heap.size, 0, none⟩) 4 4 (cellsZ (word4 N)) := by
    have ho : (w.alloc (.cells (cellsZ (word4 N)).toArray 5)).ownsRow w.heap.size 5 1 (.slice (some ⟨w.heap.size, 0, none⟩) 4 4) 4 (cellsZ (word4 N)) :=
      own_of_heap (ys := []) (by rw [List.append_nil]; exact heap_alloc_new w _) (Nat.le_refl _) rfl rfl (by omega)
    exact own_line ho
  have HR := Lib.hid (And.intro hR hL)
  have HBB := Lib.hid hB
  clear hR hB hL
  go_enter Try.func19, Try.ntmps19
  go_wp2_with (go_at_call 24; refine (bits_put N hN _).mono ?_; rintro e w' ⟨rfl, rfl⟩)
  go_ret
  exact ⟨⟨w.heap.size, rfl, Nat.le_refl _, HR.out⟩, HBB.out⟩

theorem get_no (A : Option Addr) (n cap : Nat) (at_ : Int) (hat : at_ < 0 ∨ (n : Int) - 4 < at_) (hn : n ≤ 90000) (w : World) :
    Calls Try.prog 25 #[.slice A n cap, .int .i64 at_] w fun e w' => e = .returned (.tuple #[.int .i32 0, .bool false]) ∧ w = w' := by
  rcases hat with h | h
  · go_enter Try.func25, Try.ntmps25
    go_wp2
    go_ret2
    exact ⟨rfl, rfl⟩
  · by_cases h2 : at_ < 0
    · go_enter Try.func25, Try.ntmps25
      go_wp2
      go_ret2
      exact ⟨rfl, rfl⟩
    · go_enter Try.func25, Try.ntmps25
      go_wp2
      go_ret2
      exact ⟨rfl, rfl⟩
theorem or_join (i : Nat) (x y : Int) (hx : 0 ≤ x) (hx2 : x < ((2 ^ i : Nat) : Int)) (hy : 0 ≤ y) (hy2 : y * ((2 ^ i : Nat) : Int) < 4294967296) (hi : ((2 ^ i : Nat) : Int) ≤ 4294967296) : bits .or .u32 x (y * ((2 ^ i : Nat) : Int)) = x + y * ((2 ^ i : Nat) : Int) := by
  have hp : 0 ≤ y * ((2 ^ i : Nat) : Int) := Int.mul_nonneg hy (by omega)
  rw [u32_or x _ hx (by omega) hp hy2]
  obtain ⟨a, rfl⟩ := Int.eq_ofNat_of_zero_le hx
  obtain ⟨b, rfl⟩ := Int.eq_ofNat_of_zero_le hy
  have e : ((b : Int) * ((2 ^ i : Nat) : Int)).toNat = b * 2 ^ i := by rw [← Int.natCast_mul, Int.toNat_natCast]
  rw [e, Int.toNat_natCast, Nat.or_comm, nat_join i (b * 2 ^ i) a (Nat.mul_mod_left _ _) (by omega), Int.natCast_add, Int.natCast_mul]
  omega
theorem get_yes (A : Option Addr) (n cap : Nat) (zs : List Int) (j : Nat) (hj : j + 4 ≤ n) (hn : n ≤ 90000) (w : World) (hR : RowZ w A n zs) :
    Calls Try.prog 25 #[.slice A n cap, .int .i64 j] w fun e w' => e = .returned (.tuple #[.int .i32 (getV (zs.getD j 0) (zs.getD (j + 1) 0) (zs.getD (j + 2) 0) (zs.getD (j + 3) 0)), .bool true]) ∧ w = w' := by
  obtain ⟨b, off, rfl, hlt, hc⟩ := hR.2.2 (by omega)
  have c0 := hc j (by omega)
  have c1 := hc (j + 1) (by omega)
  have c2 := hc (j + 2) (by omega)
  have c3 := hc (j + 3) (by omega)
  have hz : ∀ i, i < n → 0 ≤ zs.getD i 0 ∧ zs.getD i 0 ≤ 255 := fun i hi => by
    have hi' : i < zs.length := by rw [hR.1]; exact hi
    have e : zs.getD i 0 = zs[i] := by simp [List.getD, hi']
    rw [e]
    exact hR.2.1 _ (List.getElem_mem hi')
  obtain ⟨a0, a1⟩ := hz j (by omega)
  obtain ⟨b0, b1⟩ := hz (j + 1) (by omega)
  obtain ⟨d0, d1⟩ := hz (j + 2) (by omega)
  obtain ⟨e0, e1⟩ := hz (j + 3) (by omega)
  clear hz hc hR
  generalize zs.getD j 0 = x0 at *
  generalize zs.getD (j + 1) 0 = x1 at *
  generalize zs.getD (j + 2) 0 = x2 at *
  generalize zs.getD (j + 3) 0 = x3 at *
  have o0 : bits .or .u32 0 x0 = x0 := by
    have h := or_join 0 0 x0 (by omega) (by decide) a0 (by simp; omega) (by decide)
    simpa using h
  have o1 : bits .or .u32 x0 (x1 * 256) = x0 + x1 * 256 := or_join 8 x0 x1 a0 (by simp; omega) b0 (by simp; omega) (by decide)
  have o2 : bits .or .u32 (x0 + x1 * 256) (x2 * 65536) = x0 + x1 * 256 + x2 * 65536 := or_join 16 _ x2 (by omega) (by simp; omega) d0 (by simp; omega) (by decide)
  have o3 : bits .or .u32 (x0 + x1 * 256 + x2 * 65536) (x3 * 16777216) = x0 + x1 * 256 + x2 * 65536 + x3 * 16777216 := or_join 24 _ x3 (by omega) (by simp; omega) e0 (by simp; omega) (by decide)
  go_enter Try.func25, Try.ntmps25
  go_wp2_with fail
  refine wp_loop_rounds 5 ?_
  rw [rounds_succ]
  go_wp2
  rw [rounds_succ]
  go_wp2
  rw [rounds_succ]
  go_wp2
  rw [rounds_succ]
  go_wp2
  rw [rounds_succ]
  go_wp2
  go_ret2
  exact ⟨rfl, rfl⟩

end Go.Proofs.Ytjcknjadapbooaa
