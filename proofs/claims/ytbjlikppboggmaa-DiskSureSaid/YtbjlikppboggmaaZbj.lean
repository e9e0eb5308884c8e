/-
  The walk of the law DiskSure.
-/
import Derived.Test.YtbjlikppboggmaaZbh
import Derived.Test.YtbjlikppboggmaaZas
import Derived.Test.YtbjlikppboggmaaZau
import Derived.Test.YtbjlikppboggmaaZbi
import Derived.Test.YtbjlikppboggmaaZaa
namespace Go.Proofs.Ytbjlikppboggmaa
open Go.RowKit Go.Maps
set_option linter.unusedVariables false
set_option maxRecDepth 100000
attribute [local instance] keepNo

theorem sureN_ok : nameOk ⟨#[115, 117, 114, 101]⟩ = true := by decide
theorem sn_append (a b : List Int) : strOfNums a ++ strOfNums b = strOfNums (a ++ b) := by
  apply ByteArray.ext
  simp [strOfNums, ByteArray.data_append]
theorem sn_size (a : List Int) : (strOfNums a).size = a.length := by simp [strOfNums, ByteArray.size]
theorem sn_take (a : List Int) (l : Nat) : (strOfNums a).extract 0 l = strOfNums (a.take l) := by
  apply ByteArray.ext
  simp [strOfNums, ByteArray.data_extract]
theorem cellsZ_take (a : List Int) (l : Nat) : (cellsZ a).take l = cellsZ (a.take l) := by unfold cellsZ; rw [List.map_take]
theorem RowZ.bytes {w : World} {A : Option Addr} {n : Nat} {zs : List Int} (h : RowZ w A n zs) : ∀ z ∈ zs, 0 ≤ z ∧ z ≤ 255 := h.2.1
section
variable (A : Option Addr) (n c : Nat) (os : List OpR) (xA : Option Addr) (xl xc : Nat) (xz : List Int) (yA : Option Addr) (yl yc : Nat) (yz : List Int) (dir : Int) (kA : Option Addr) (kl kc : Nat) (kz : List Int) (W : World)
/-- The arguments' two boxes. -/
theorem sure_start (h : OpsIn W A n os) (hnc : n ≤ c) (hcm : c ≤ maxLen) : ∃ W2, (W.alloc (.cells #[.slice xA xl xc, .slice yA yl yc] 39)).alloc (.cells #[.int .i64 dir, .slice kA kl kc] 32) = W2 ∧ Below W.heap.size W W2 ∧ W2.heap.size = W.heap.size + 2 ∧
    W2.cell? ⟨W.heap.size, 0, none⟩ = some (.slice xA xl xc) ∧ W2.cell? ⟨W.heap.size, 1, none⟩ = some (.slice yA yl yc) ∧ W2.heap[W.heap.size + 1]? = some (.cells #[.int .i64 dir, .slice kA kl kc] 32 (0, 0)) ∧
    ∀ V, Below W2.heap.size W2 V → Calls Try.prog 13 #[.int .i64 1048576, .slice A n c] V fun e w' => ∃ d x own ox, e = .returned (.tuple #[.pointer (some ⟨d, 0, none⟩), .pointer (some ⟨x, 0, none⟩), .bool true]) ∧ Both V w' d x own ox ((RD.fresh 1048576).doAll (cutL os)) ∧ ((RD.fresh 1048576).doAll (cutL os)).size ≤ 240 := by
  refine ⟨_, rfl, ((Below.refl _ W).alloc (Nat.le_refl _) _).alloc (by simp) _, by simp, ?_, ?_, ?_, fun V hV => ?_⟩
  · have q0 : ((W.alloc (.cells #[.slice xA xl xc, .slice yA yl yc] 39)).alloc (.cells #[.int .i64 dir, .slice kA kl kc] 32)).heap[W.heap.size]? = some (.cells #[.slice xA xl xc, .slice yA yl yc] 39 (0, 0)) := by
      show ((W.heap.push _).push _)[W.heap.size]? = _
      rw [Array.getElem?_push_lt (by simp), Array.getElem_push_eq]
    rw [cell_of_row _ W.heap.size 0 _ _ (0, 0) q0]; rfl
  · have q0 : ((W.alloc (.cells #[.slice xA xl xc, .slice yA yl yc] 39)).alloc (.cells #[.int .i64 dir, .slice kA kl kc] 32)).heap[W.heap.size]? = some (.cells #[.slice xA xl xc, .slice yA yl yc] 39 (0, 0)) := by
      show ((W.heap.push _).push _)[W.heap.size]? = _
      rw [Array.getElem?_push_lt (by simp), Array.getElem_push_eq]
    rw [cell_of_row _ W.heap.size 1 _ _ (0, 0) q0]; rfl
  · show ((W.heap.push _).push _)[W.heap.size + 1]? = _
    rw [show W.heap.size + 1 = (W.heap.push (Obj.cells #[.slice xA xl xc, .slice yA yl yc] 39 (0, 0))).size by simp, Array.getElem?_push_size]
  · refine play_any A n c os 1048576 V ((h.below (((Below.refl _ W).alloc (Nat.le_refl _) _).alloc (by simp) _)).below hV) hnc hcm (by omega)
/-- The pure states behind the play. -/
theorem sure_pure {r : RD} (hr : r = (RD.fresh 1048576).doAll (cutL os)) (hz : ∀ o ∈ cutL os, o.dz.length ≤ 300) (hs : r.size ≤ 240) (F : Fct r) (hsz : ((r.crash 0 []).quotaTo 1073741824).size ≤ 240) (F2 : Fct ((r.crash 0 []).quotaTo 1073741824)) :
    (((r.crash 0 []).quotaTo 1073741824).create ⟨#[115, 117, 114, 101]⟩).1 = 0 ∧ HasF (((r.crash 0 []).quotaTo 1073741824).create ⟨#[115, 117, 114, 101]⟩).2 ⟨#[115, 117, 114, 101]⟩ ((r.crash 0 []).quotaTo 1073741824).files.length ⟨[], 0⟩ := by
  have hl : LenLe 100000 r := by
    rw [hr]
    have h1 := LenLe.doAll (cutL os) 0 _ (LenLe.fresh 1048576) hz
    exact h1.mono (by have := cutL_len os; omega)
  have h2 : LenLe 100000 ((r.crash 0 []).quotaTo 1073741824) := hl.crash 0 []
  refine made rfl rfl ?_ rfl sureN_ok F2.rs ?_ h2
  · show max (1073741824 : Int) 0 = _
    omega
  · unfold RD.size at hsz
    omega
set_option maxHeartbeats 6400000 in
theorem sure_long (h : OpsIn W A n os) (hnc : n ≤ c) (hcm : c ≤ maxLen) (hlong : 300 < xl ∨ 300 < yl ∨ 300 < kl) :
    Calls Try.prog 4 #[.slice A n c, .agg #[.slice xA xl xc, .slice yA yl yc], .agg #[.int .i64 dir, .slice kA kl kc]] W fun e w' => e = .returned (.bool true) ∧ Below W.heap.size W w' := by
  obtain ⟨W2, hW2, hB2, hs2, c0, c1, q1, hplay⟩ := sure_start A n c os xA xl xc yA yl yc dir kA kl kc W h hnc hcm
  have HPLAY := Lib.hid hplay
  have HLV := Lib.hid lives_any
  have HB2 := Lib.hid hB2
  have HQ := Lib.hid (And.intro q1 hs2)
  clear h hnc hcm hB2 hs2 q1 hplay
  go_enter Try.func4, Try.ntmps4
  go_upto_region 1 with fail
  go_region
  go_wp2_with fail
  refine (HPLAY.out W2.drew (Below.refl _ W2).drew).mono ?_
  rintro e w1 ⟨d, x, own, ox, rfl, hBo, hsz⟩
  have HON := Lib.hid (HB2.out.trans ((((Below.refl _ W2).drew).trans hBo.on).mono HB2.out.size))
  have m3 : w1.cell? ⟨W.heap.size + 1, 1, none⟩ = some (.slice kA kl kc) := by
    have hq := (hBo.on.block (W.heap.size + 1) (by have := HQ.out.2; show _ < W2.heap.size; omega)).trans HQ.out.1
    rw [cell_of_row w1 (W.heap.size + 1) 1 _ _ (0, 0) hq]; rfl
  clear hBo hsz HPLAY c0 c1
  rcases (show (300 : Int) < (xl : Int) ∨ (¬ (300 : Int) < (xl : Int) ∧ (300 : Int) < (yl : Int)) ∨ (¬ (300 : Int) < (xl : Int) ∧ ¬ (300 : Int) < (yl : Int) ∧ (300 : Int) < (kl : Int)) by omega) with g1 | ⟨g1, g2⟩ | ⟨g1, g2, g3⟩
  all_goals
    clear hlong
    go_wp2_with fail
    refine (HLV.out _).mono ?_
    rintro e wF ⟨rfl, hBF⟩
    have HEND := Lib.hid (HON.out.trans (hBF.mono HON.out.size))
    clear hBF
    go_wp2
    go_ret
    exact ⟨rfl, HEND.out⟩
set_option maxHeartbeats 6400000 in
theorem sure_main (h : OpsIn W A n os) (hnc : n ≤ c) (hcm : c ≤ maxLen) (hx : RowZ W xA xl xz) (hy : RowZ W yA yl yz) (hd : -9223372036854775808 ≤ dir ∧ dir ≤ 9223372036854775807) (hk : ZsAt W kA kl kz) (hkz : ∀ z ∈ kz, z ≤ 9223372036854775807) (h1 : xl ≤ 300) (h2 : yl ≤ 300) (h3 : kl ≤ 300) (hz : ∀ o ∈ cutL os, o.dz.length ≤ 300) :
    Calls Try.prog 4 #[.slice A n c, .agg #[.slice xA xl xc, .slice yA yl yc], .agg #[.int .i64 dir, .slice kA kl kc]] W fun e w' => e = .returned (.bool true) ∧ Below W.heap.size W w' := by
  have g1 : ¬ (300 : Int) < (xl : Int) := by omega
  have g2 : ¬ (300 : Int) < (yl : Int) := by omega
  have g3 : ¬ (300 : Int) < (kl : Int) := by omega
  obtain ⟨W2, hW2, hB2, hs2, c0, c1, q1, hplay⟩ := sure_start A n c os xA xl xc yA yl yc dir kA kl kc W h hnc hcm
  have HPLAY := Lib.hid hplay
  have HLV := Lib.hid lives_any
  have HB2 := Lib.hid hB2
  have HQ := Lib.hid (And.intro q1 hs2)
  have HX := Lib.hid ((hx.below hB2).below (Below.refl _ W2).drew)
  have HY := Lib.hid ((hy.below hB2).below (Below.refl _ W2).drew)
  have HK := Lib.hid (And.intro ((hk.below hB2).below (Below.refl _ W2).drew) (And.intro hkz hd))
  have HZ := Lib.hid hz
  clear h hnc hcm hB2 hs2 q1 hplay hx hy hk hkz hd hz
  go_enter Try.func4, Try.ntmps4
  go_upto_region 1 with fail
  go_region
  obtain ⟨W3, hW3⟩ : ∃ W3, W2.drew = W3 := ⟨_, rfl⟩
  have hB3 : Below W2.heap.size W2 W3 := by rw [← hW3]; exact (Below.refl _ W2).drew
  rw [hW3] at HX HY HK
  have HP3 := Lib.hid (HPLAY.out W3 hB3)
  have HB3 := Lib.hid (HB2.out.trans (hB3.mono HB2.out.size))
  have HQ3 : Hid (W3.heap[W.heap.size + 1]? = some (.cells #[.int .i64 dir, .slice kA kl kc] 32 (0, 0)) ∧ W.heap.size + 1 < W3.heap.size) := Lib.hid ⟨by rw [← hW3]; exact HQ.out.1, by rw [← hW3]; show _ < W2.heap.size; have := HQ.out.2; omega⟩
  clear hB3 HPLAY HQ c0 c1 HB2 hW2
  go_wp2_with fail
  refine HP3.out.mono ?_
  rintro e w1 ⟨d, x, own, ox, rfl, hBo, hsz⟩
  clear HP3
  have m3 : w1.cell? ⟨W.heap.size + 1, 1, none⟩ = some (.slice kA kl kc) := by
    have hq := (hBo.on.block (W.heap.size + 1) HQ3.out.2).trans HQ3.out.1
    rw [cell_of_row w1 (W.heap.size + 1) 1 _ _ (0, 0) hq]; rfl
  obtain ⟨r, hr⟩ : ∃ r, (RD.fresh 1048576).doAll (cutL os) = r := ⟨_, rfl⟩
  rw [hr] at hBo hsz
  have D1 : DF W3 w1 d own r := ⟨hBo.d0, hBo.on, hBo.isD⟩
  have HR := Lib.hid (And.intro hr.symm (And.intro hsz hBo.fct))
  have HC1 := Lib.hid (D1.crash0 (KA := none) (kn := 0) (kc := 0) (dir := 0) (zs := []) rfl (by omega) ⟨rfl, fun h0 => absurd h0 (Nat.lt_irrefl 0)⟩ (by omega) (fun z hz => by cases hz))
  clear hr hBo hsz D1
  go_wp2_with fail
  with_reducible refine HC1.out.mono ?_
  rintro e w2 ⟨⟨v2, rfl⟩, own2, O2, D2⟩
  have HC2 := Lib.hid ((D2.2.2.quotaTo 1073741824 (by omega)).mono fun e w' hh => (⟨hh.1, D2.next hh.2⟩ : (∃ v, e = .returned v) ∧ ∃ own', Only own2 w2 own' w' ∧ DF W3 w' d own' ((r.crash 0 []).quotaTo 1073741824)))
  clear O2 D2 HC1
  go_wp2_with fail
  with_reducible refine HC2.out.mono ?_
  rintro e w3 ⟨⟨v3, rfl⟩, own3, O3, D3⟩
  have hsz3 : ((r.crash 0 []).quotaTo 1073741824).size ≤ 240 := Nat.le_trans (size_crash HR.out.2.2 0 []) HR.out.2.1
  have hpure := sure_pure os HR.out.1 HZ.out HR.out.2.1 HR.out.2.2 hsz3 D3.2.2.fct.1
  obtain ⟨r3, hr3⟩ : ∃ r3, (r.crash 0 []).quotaTo 1073741824 = r3 := ⟨_, rfl⟩
  rw [hr3] at hsz3 hpure D3
  obtain ⟨fn, hfn⟩ : ∃ fn, r3.files.length = fn := ⟨_, rfl⟩
  rw [hfn] at hpure
  obtain ⟨r4, hr4⟩ : ∃ r4, (r3.create ⟨#[115, 117, 114, 101]⟩).2 = r4 := ⟨_, rfl⟩
  have hsz4 : r4.size ≤ 244 := by rw [← hr4]; exact Nat.le_trans (size_create _) (by omega)
  rw [hr4] at hpure
  have HC3 := Lib.hid (D3.create (a := 0) (r' := r4) (Prod.ext hpure.1 hr4) (by omega) (by decide))
  have HF4 := Lib.hid (And.intro hpure.2 hsz4)
  clear O3 D3 HC2 HR hr3 hfn hr4 hpure hsz3 hsz4
  go_wp2_with fail
  with_reducible refine HC3.out.mono ?_
  rintro e w4 ⟨rfl, own4, O4, D4⟩
  have hlx : (cellsZ xz).length ≤ 300 := by rw [cellsZ_length, HX.out.1]; exact h1
  have hly : (cellsZ yz).length ≤ 300 := by rw [cellsZ_length, HY.out.1]; exact h2
  have hp5 := HF4.out.1.appended sureN_ok (cellsZ xz) hlx (by simp)
  obtain ⟨r5, hr5⟩ : ∃ r5, (r4.append ⟨#[115, 117, 114, 101]⟩ (cellsZ xz)).2 = r5 := ⟨_, rfl⟩
  have hsz5 : r5.size ≤ 248 := by rw [← hr5]; exact Nat.le_trans (size_append _ _) (by have := HF4.out.2; omega)
  rw [hr5] at hp5
  have HC4 := Lib.hid (D4.append0 (c := xc) HX.out (a := 0) (r' := r5) (Prod.ext hp5.1 hr5) (by have := HF4.out.2; omega) (by decide) (by omega))
  have HF5 := Lib.hid (And.intro hp5.2.1 hsz5)
  have HLXY := Lib.hid (And.intro hlx hly)
  clear O4 D4 HC3 HF4 hr5 hp5 hsz5 hlx hly
  go_wp2_with fail
  with_reducible refine HC4.out.mono ?_
  rintro e w5 ⟨rfl, own5, O5, D5⟩
  have hp6 := HF5.out.1.synced sureN_ok (by have := HLXY.out.1; show ([] ++ cellsZ xz).length ≤ _; rw [List.nil_append]; omega)
  obtain ⟨r6, hr6⟩ : ∃ r6, (r5.sync ⟨#[115, 117, 114, 101]⟩).2 = r6 := ⟨_, rfl⟩
  have hsz6 : r6.size ≤ 252 := by rw [← hr6]; exact Nat.le_trans (size_sync _) (by have := HF5.out.2; omega)
  rw [hr6] at hp6
  have HC5 := Lib.hid (D5.sync (a := 0) (r' := r6) (Prod.ext hp6.1 hr6) (by have := HF5.out.2; omega) (by decide))
  have HF6 := Lib.hid (And.intro hp6.2.1 hsz6)
  clear O5 D5 HC4 HF5 hr6 hp6 hsz6
  go_wp2_with fail
  with_reducible refine HC5.out.mono ?_
  rintro e w6 ⟨rfl, own6, O6, D6⟩
  have hp7 := HF6.out.1.dirred
  obtain ⟨r7, hr7⟩ : ∃ r7, r6.syncDir.2 = r7 := ⟨_, rfl⟩
  have hsz7 : r7.size ≤ 256 := by rw [← hr7]; exact Nat.le_trans (size_syncDir D6.2.2.fct.1) (by have := HF6.out.2; omega)
  rw [hr7] at hp7
  have HC6 := Lib.hid (D6.syncDir (a := 0) (r' := r7) (Prod.ext hp7.1 hr7) (by have := HF6.out.2; omega))
  have HF7 := Lib.hid (And.intro hp7.2 hsz7)
  clear O6 D6 HC5 HF6 hr7 hp7 hsz7
  go_wp2_with fail
  with_reducible refine HC6.out.mono ?_
  rintro e w7 ⟨rfl, own7, O7, D7⟩
  have hp8 := HF7.out.1.1.appended sureN_ok (cellsZ yz) HLXY.out.2 (by have := HLXY.out.1; show ([] ++ cellsZ xz).length ≤ _; rw [List.nil_append]; omega)
  obtain ⟨r8, hr8⟩ : ∃ r8, (r7.append ⟨#[115, 117, 114, 101]⟩ (cellsZ yz)).2 = r8 := ⟨_, rfl⟩
  have hsz8 : r8.size ≤ 260 := by rw [← hr8]; exact Nat.le_trans (size_append _ _) (by have := HF7.out.2; omega)
  rw [hr8, HF7.out.1.2] at hp8
  have HC7 := Lib.hid (D7.append0 (c := yc) HY.out (a := 0) (r' := r8) (Prod.ext hp8.1 hr8) (by have := HF7.out.2; omega) (by decide) (by omega))
  have HF8 := Lib.hid (And.intro hp8.2 hsz8)
  clear O7 D7 HC6 HF7 hr8 hp8 hsz8
  go_wp2_with fail
  with_reducible refine HC7.out.mono ?_
  rintro e w8 ⟨rfl, own8, O8, D8⟩
  have q8 := (D8.2.1.block (W.heap.size + 1) HQ3.out.2).trans HQ3.out.1
  have k2 : w8.cell? ⟨W.heap.size + 1, 0, none⟩ = some (.int .i64 dir) := by rw [cell_of_row w8 (W.heap.size + 1) 0 _ _ (0, 0) q8]; rfl
  have k3 : w8.cell? ⟨W.heap.size + 1, 1, none⟩ = some (.slice kA kl kc) := by rw [cell_of_row w8 (W.heap.size + 1) 1 _ _ (0, 0) q8]; rfl
  have hlost := HF8.out.1.1.lost HF8.out.1.2 dir kz D8.2.2.fct.1.rs
  have HC8 := Lib.hid (D8.crash0 (kc := kc) (dir := dir) (zs := kz) rfl HK.out.2.2 HK.out.1 (by omega) HK.out.2.1)
  obtain ⟨l, hl1, hl2, hcut⟩ := cut_between kz fn (cellsZ xz) (cellsZ yz)
  have hget : (r8.crash dir kz).get ⟨#[115, 117, 114, 101]⟩ = ⟨cellsZ ((xz ++ yz).take l), l⟩ := by
    rw [hlost.2]
    show RD.cutF kz fn ⟨[] ++ cellsZ xz ++ cellsZ yz, ([] ++ cellsZ xz).length⟩ = _
    rw [List.nil_append, hcut, ← cellsZ_append, cellsZ_take]
  have HL := Lib.hid (And.intro hlost.1 hget)
  rw [cellsZ_length, HX.out.1] at hl1
  rw [cellsZ_length, cellsZ_length, HX.out.1, HY.out.1] at hl2
  have HCUT := Lib.hid (And.intro hl1 hl2)
  clear O8 D8 HC7 q8 hlost hcut hget HF8 m3 HLXY
  go_wp2_with fail
  with_reducible refine HC8.out.mono ?_
  rintro e w9 ⟨⟨v9, rfl⟩, own9, O9, D9⟩
  have hRD := D9.2.2.read_yes ⟨#[115, 117, 114, 101]⟩ HL.out.1
  rw [HL.out.2] at hRD
  dsimp only at hRD
  have hzl : (cellsZ ((xz ++ yz).take l)).length = l := by
    rw [cellsZ_length, List.length_take, List.length_append, HX.out.1, HY.out.1]
    have := HCUT.out.2
    omega
  rw [hzl] at hRD
  have HRD := Lib.hid hRD
  have HON := Lib.hid D9.2.1
  clear O9 D9 HC8 hRD hzl k2 k3
  go_wp2_with fail
  refine HRD.out.mono ?_
  rintro e wR ⟨⟨A', c', rfl, hsl, hfr⟩, hBR⟩
  have hbytes : ∀ z ∈ (xz ++ yz).take l, 0 ≤ z ∧ z ≤ 255 := fun z hz => by
    rcases List.mem_append.1 (List.mem_of_mem_take hz) with q | q
    · exact HX.out.bytes z q
    · exact HY.out.bytes z q
  have hrow : RowZ wR A' l ((xz ++ yz).take l) := hsl.toRowZ hbytes
  have hON := HON.out.trans (hBR.mono HON.out.size)
  have k1 := conv_row (HX.out.below hON) xc
  have k2 := conv_row (HY.out.below hON) yc
  have hsx : (strOfNums xz).size = xl := by rw [sn_size, HX.out.1]
  have hsy : (strOfNums yz).size = yl := by rw [sn_size, HY.out.1]
  obtain ⟨all, hall⟩ : ∃ all, strOfNums xz ++ strOfNums yz = all := ⟨_, rfl⟩
  have hasz : all.size = xl + yl := by rw [← hall, sn_append, sn_size, List.length_append, HX.out.1, HY.out.1]
  have hext : all.extract 0 l = strOfNums ((xz ++ yz).take l) := by rw [← hall, sn_append, sn_take]
  obtain ⟨sx, hsxe⟩ : ∃ sx, strOfNums xz = sx := ⟨_, rfl⟩
  obtain ⟨sy, hsye⟩ : ∃ sy, strOfNums yz = sy := ⟨_, rfl⟩
  obtain ⟨sr, hsr⟩ : ∃ sr, strOfNums ((xz ++ yz).take l) = sr := ⟨_, rfl⟩
  rw [hsxe] at k1 hall hsx
  rw [hsye] at k2 hall hsy
  rw [hsr] at hext
  have hcap : sx.size + sy.size ≤ 9223372036854775807 := by omega
  have HROW := Lib.hid hrow
  have HSR := Lib.hid hsr
  have HONR := Lib.hid (HB3.out.trans (hON.mono HB3.out.size))
  have l1 : (xl : Int) ≤ (l : Int) := by have := HCUT.out.1; omega
  have l2 : (l : Int) ≤ (all.size : Int) := by have := HCUT.out.2; omega
  have l0 : (0 : Int) ≤ (l : Int) := by omega
  clear hbytes hrow hsl hfr hBR hON hsxe hsye hsr HRD HL HON hasz
  go_upto_region 16 with fail
  refine wp_region_held_drew (S := fun V => RowZ V A' l ((xz ++ yz).take l)) (by kernel_rfl) HROW.out (fun _ => ?_)
  refine takeH 0 83 (v := (.int .i64 0)) rfl rfl (by kernel_rfl) (by kernel_rfl) (by kernel_rfl) (fun _ _ _ h => h) (by rfl) ?_ HROW.out ?_
  · intro w hSw
    have k1 := conv_row hSw c'
    rw [HSR.out] at k1
    go_simp
  simp only [Act.put, List.setIfInBounds_toArray, List.set_cons_zero, List.set_cons_succ]
  refine takeH 1 84 (v := (.bool true)) rfl rfl (by kernel_rfl) (by kernel_rfl) (by kernel_rfl) (fun _ _ _ h => h) (by rfl) ?_ HROW.out ?_
  · intro w hSw
    have k1 := conv_row hSw c'
    rw [HSR.out] at k1
    go_simp
  simp only [Act.put, List.setIfInBounds_toArray, List.set_cons_zero, List.set_cons_succ]
  refine takeH 2 85 (v := (.bool true)) rfl rfl (by kernel_rfl) (by kernel_rfl) (by kernel_rfl) (fun _ _ _ h => h) (by rfl) ?_ HROW.out ?_
  · intro w hSw
    have k1 := conv_row hSw c'
    rw [HSR.out] at k1
    go_simp
  simp only [Act.put, List.setIfInBounds_toArray, List.set_cons_zero, List.set_cons_succ]
  refine takeH 3 86 (v := (.int .i64 0)) rfl rfl (by kernel_rfl) (by kernel_rfl) (by kernel_rfl) (fun _ _ _ h => h) (by rfl) ?_ HROW.out ?_
  · intro w hSw
    have k1 := conv_row hSw c'
    rw [HSR.out] at k1
    go_simp
  simp only [Act.put, List.setIfInBounds_toArray, List.set_cons_zero, List.set_cons_succ]
  refine takeH 4 87 (v := (.bool true)) rfl rfl (by kernel_rfl) (by kernel_rfl) (by kernel_rfl) (fun _ _ _ h => h) (by rfl) ?_ HROW.out ?_
  · intro w hSw
    have k1 := conv_row hSw c'
    rw [HSR.out] at k1
    go_simp
  simp only [Act.put, List.setIfInBounds_toArray, List.set_cons_zero, List.set_cons_succ]
  refine takeH 5 88 (v := (.bool true)) rfl rfl (by kernel_rfl) (by kernel_rfl) (by kernel_rfl) (fun _ _ _ h => h) (by rfl) ?_ HROW.out ?_
  · intro w hSw
    have k1 := conv_row hSw c'
    rw [HSR.out] at k1
    go_simp
  simp only [Act.put, List.setIfInBounds_toArray, List.set_cons_zero, List.set_cons_succ]
  refine takeH 6 89 (v := (.bool true)) rfl rfl (by kernel_rfl) (by kernel_rfl) (by kernel_rfl) (fun _ _ _ h => h) (by rfl) ?_ HROW.out ?_
  · intro w hSw
    have k1 := conv_row hSw c'
    rw [HSR.out] at k1
    go_simp
  simp only [Act.put, List.setIfInBounds_toArray, List.set_cons_zero, List.set_cons_succ]
  refine takeH 7 90 (v := (.int .i64 0)) rfl rfl (by kernel_rfl) (by kernel_rfl) (by kernel_rfl) (fun _ _ _ h => h) (by rfl) ?_ HROW.out ?_
  · intro w hSw
    have k1 := conv_row hSw c'
    rw [HSR.out] at k1
    go_simp
  simp only [Act.put, List.setIfInBounds_toArray, List.set_cons_zero, List.set_cons_succ]
  refine takeH 8 91 (v := (.bool true)) rfl rfl (by kernel_rfl) (by kernel_rfl) (by kernel_rfl) (fun _ _ _ h => h) (by rfl) ?_ HROW.out ?_
  · intro w hSw
    have k1 := conv_row hSw c'
    rw [HSR.out] at k1
    go_simp
  simp only [Act.put, List.setIfInBounds_toArray, List.set_cons_zero, List.set_cons_succ]
  refine takeH 9 92 (v := (.bool true)) rfl rfl (by kernel_rfl) (by kernel_rfl) (by kernel_rfl) (fun _ _ _ h => h) (by rfl) ?_ HROW.out ?_
  · intro w hSw
    have k1 := conv_row hSw c'
    rw [HSR.out] at k1
    go_simp
  simp only [Act.put, List.setIfInBounds_toArray, List.set_cons_zero, List.set_cons_succ]
  refine takeH 10 93 (v := (.bool true)) rfl rfl (by kernel_rfl) (by kernel_rfl) (by kernel_rfl) (fun _ _ _ h => h) (by rfl) ?_ HROW.out ?_
  · intro w hSw
    have k1 := conv_row hSw c'
    rw [HSR.out] at k1
    go_simp
  simp only [Act.put, List.setIfInBounds_toArray, List.set_cons_zero, List.set_cons_succ]
  refine takeH 11 94 (v := (.int .i64 0)) rfl rfl (by kernel_rfl) (by kernel_rfl) (by kernel_rfl) (fun _ _ _ h => h) (by rfl) ?_ HROW.out ?_
  · intro w hSw
    have k1 := conv_row hSw c'
    rw [HSR.out] at k1
    go_simp
  simp only [Act.put, List.setIfInBounds_toArray, List.set_cons_zero, List.set_cons_succ]
  refine takeH 12 95 (v := (.bool true)) rfl rfl (by kernel_rfl) (by kernel_rfl) (by kernel_rfl) (fun _ _ _ h => h) (by rfl) ?_ HROW.out ?_
  · intro w hSw
    have k1 := conv_row hSw c'
    rw [HSR.out] at k1
    go_simp
  simp only [Act.put, List.setIfInBounds_toArray, List.set_cons_zero, List.set_cons_succ]
  refine takeH 13 96 (v := (.bool true)) rfl rfl (by kernel_rfl) (by kernel_rfl) (by kernel_rfl) (fun _ _ _ h => h) (by rfl) ?_ HROW.out ?_
  · intro w hSw
    have k1 := conv_row hSw c'
    rw [HSR.out] at k1
    go_simp
  simp only [Act.put, List.setIfInBounds_toArray, List.set_cons_zero, List.set_cons_succ]
  refine takeH 14 97 (v := (.bool true)) rfl rfl (by kernel_rfl) (by kernel_rfl) (by kernel_rfl) (fun _ _ _ h => h) (by rfl) ?_ HROW.out ?_
  · intro w hSw
    have k1 := conv_row hSw c'
    rw [HSR.out] at k1
    go_simp
  simp only [Act.put, List.setIfInBounds_toArray, List.set_cons_zero, List.set_cons_succ]
  refine takeH 15 98 (v := (.int .i64 0)) rfl rfl (by kernel_rfl) (by kernel_rfl) (by kernel_rfl) (fun _ _ _ h => h) (by rfl) ?_ HROW.out ?_
  · intro w hSw
    have k1 := conv_row hSw c'
    rw [HSR.out] at k1
    go_simp
  simp only [Act.put, List.setIfInBounds_toArray, List.set_cons_zero, List.set_cons_succ]
  refine takeH 16 99 (v := (.bool true)) rfl rfl (by kernel_rfl) (by kernel_rfl) (by kernel_rfl) (fun _ _ _ h => h) (by rfl) ?_ HROW.out ?_
  · intro w hSw
    have k1 := conv_row hSw c'
    rw [HSR.out] at k1
    go_simp
  simp only [Act.put, List.setIfInBounds_toArray, List.set_cons_zero, List.set_cons_succ]
  refine takeH 17 100 (v := (.bool true)) rfl rfl (by kernel_rfl) (by kernel_rfl) (by kernel_rfl) (fun _ _ _ h => h) (by rfl) ?_ HROW.out ?_
  · intro w hSw
    have k1 := conv_row hSw c'
    rw [HSR.out] at k1
    go_simp
  simp only [Act.put, List.setIfInBounds_toArray, List.set_cons_zero, List.set_cons_succ]
  refine takeH 18 101 (v := (.bool true)) rfl rfl (by kernel_rfl) (by kernel_rfl) (by kernel_rfl) (fun _ _ _ h => h) (by rfl) ?_ HROW.out ?_
  · intro w hSw
    have k1 := conv_row hSw c'
    rw [HSR.out] at k1
    go_simp
  simp only [Act.put, List.setIfInBounds_toArray, List.set_cons_zero, List.set_cons_succ]
  refine takeH 19 102 (v := (.slice A' l c')) rfl rfl (by kernel_rfl) (by kernel_rfl) (by kernel_rfl) (fun _ _ _ h => h) (by rfl) ?_ HROW.out ?_
  · intro w hSw
    have k1 := conv_row hSw c'
    rw [HSR.out] at k1
    go_simp
  simp only [Act.put, List.setIfInBounds_toArray, List.set_cons_zero, List.set_cons_succ]
  refine takeH 20 103 (v := (.int .i64 (l : Int))) rfl rfl (by kernel_rfl) (by kernel_rfl) (by kernel_rfl) (fun _ _ _ h => h) (by rfl) ?_ HROW.out ?_
  · intro w hSw
    have k1 := conv_row hSw c'
    rw [HSR.out] at k1
    go_simp
  simp only [Act.put, List.setIfInBounds_toArray, List.set_cons_zero, List.set_cons_succ]
  refine takeH 21 104 (v := (.slice xA xl xc)) rfl rfl (by kernel_rfl) (by kernel_rfl) (by kernel_rfl) (fun _ _ _ h => h) (by rfl) ?_ HROW.out ?_
  · intro w hSw
    have k1 := conv_row hSw c'
    rw [HSR.out] at k1
    go_simp
  simp only [Act.put, List.setIfInBounds_toArray, List.set_cons_zero, List.set_cons_succ]
  refine takeH 22 105 (v := (.int .i64 (xl : Int))) rfl rfl (by kernel_rfl) (by kernel_rfl) (by kernel_rfl) (fun _ _ _ h => h) (by rfl) ?_ HROW.out ?_
  · intro w hSw
    have k1 := conv_row hSw c'
    rw [HSR.out] at k1
    go_simp
  simp only [Act.put, List.setIfInBounds_toArray, List.set_cons_zero, List.set_cons_succ]
  refine takeH 23 106 (v := (.bool true)) rfl rfl (by kernel_rfl) (by kernel_rfl) (by kernel_rfl) (fun _ _ _ h => h) (by rfl) ?_ HROW.out ?_
  · intro w hSw
    have k1 := conv_row hSw c'
    rw [HSR.out] at k1
    go_simp
  simp only [Act.put, List.setIfInBounds_toArray, List.set_cons_zero, List.set_cons_succ]
  refine takeH 24 107 (v := (.bool true)) rfl rfl (by kernel_rfl) (by kernel_rfl) (by kernel_rfl) (fun _ _ _ h => h) (by rfl) ?_ HROW.out ?_
  · intro w hSw
    have k1 := conv_row hSw c'
    rw [HSR.out] at k1
    go_simp
  simp only [Act.put, List.setIfInBounds_toArray, List.set_cons_zero, List.set_cons_succ]
  refine takeH 25 108 (v := (.bool true)) rfl rfl (by kernel_rfl) (by kernel_rfl) (by kernel_rfl) (fun _ _ _ h => h) (by rfl) ?_ HROW.out ?_
  · intro w hSw
    have k1 := conv_row hSw c'
    rw [HSR.out] at k1
    go_simp
  simp only [Act.put, List.setIfInBounds_toArray, List.set_cons_zero, List.set_cons_succ]
  refine takeH 26 109 (v := (.slice A' l c')) rfl rfl (by kernel_rfl) (by kernel_rfl) (by kernel_rfl) (fun _ _ _ h => h) (by rfl) ?_ HROW.out ?_
  · intro w hSw
    have k1 := conv_row hSw c'
    rw [HSR.out] at k1
    go_simp
  simp only [Act.put, List.setIfInBounds_toArray, List.set_cons_zero, List.set_cons_succ]
  refine takeH 27 110 (v := (.int .i64 (l : Int))) rfl rfl (by kernel_rfl) (by kernel_rfl) (by kernel_rfl) (fun _ _ _ h => h) (by rfl) ?_ HROW.out ?_
  · intro w hSw
    have k1 := conv_row hSw c'
    rw [HSR.out] at k1
    go_simp
  simp only [Act.put, List.setIfInBounds_toArray, List.set_cons_zero, List.set_cons_succ]
  refine takeH 28 111 (v := (.string all)) rfl rfl (by kernel_rfl) (by kernel_rfl) (by kernel_rfl) (fun _ _ _ h => h) (by rfl) ?_ HROW.out ?_
  · intro w hSw
    have k1 := conv_row hSw c'
    rw [HSR.out] at k1
    go_simp
  simp only [Act.put, List.setIfInBounds_toArray, List.set_cons_zero, List.set_cons_succ]
  refine takeH 29 112 (v := (.int .i64 (all.size : Int))) rfl rfl (by kernel_rfl) (by kernel_rfl) (by kernel_rfl) (fun _ _ _ h => h) (by rfl) ?_ HROW.out ?_
  · intro w hSw
    have k1 := conv_row hSw c'
    rw [HSR.out] at k1
    go_simp
  simp only [Act.put, List.setIfInBounds_toArray, List.set_cons_zero, List.set_cons_succ]
  refine takeH 30 113 (v := (.bool true)) rfl rfl (by kernel_rfl) (by kernel_rfl) (by kernel_rfl) (fun _ _ _ h => h) (by rfl) ?_ HROW.out ?_
  · intro w hSw
    have k1 := conv_row hSw c'
    rw [HSR.out] at k1
    go_simp
  simp only [Act.put, List.setIfInBounds_toArray, List.set_cons_zero, List.set_cons_succ]
  refine takeH 31 114 (v := (.bool true)) rfl rfl (by kernel_rfl) (by kernel_rfl) (by kernel_rfl) (fun _ _ _ h => h) (by rfl) ?_ HROW.out ?_
  · intro w hSw
    have k1 := conv_row hSw c'
    rw [HSR.out] at k1
    go_simp
  simp only [Act.put, List.setIfInBounds_toArray, List.set_cons_zero, List.set_cons_succ]
  refine takeH 32 115 (v := (.bool true)) rfl rfl (by kernel_rfl) (by kernel_rfl) (by kernel_rfl) (fun _ _ _ h => h) (by rfl) ?_ HROW.out ?_
  · intro w hSw
    have k1 := conv_row hSw c'
    rw [HSR.out] at k1
    go_simp
  simp only [Act.put, List.setIfInBounds_toArray, List.set_cons_zero, List.set_cons_succ]
  refine takeH 33 116 (v := (.slice A' l c')) rfl rfl (by kernel_rfl) (by kernel_rfl) (by kernel_rfl) (fun _ _ _ h => h) (by rfl) ?_ HROW.out ?_
  · intro w hSw
    have k1 := conv_row hSw c'
    rw [HSR.out] at k1
    go_simp
  simp only [Act.put, List.setIfInBounds_toArray, List.set_cons_zero, List.set_cons_succ]
  refine takeH 34 117 (v := (.string sr)) rfl rfl (by kernel_rfl) (by kernel_rfl) (by kernel_rfl) (fun _ _ _ h => h) (by rfl) ?_ HROW.out ?_
  · intro w hSw
    have k1 := conv_row hSw c'
    rw [HSR.out] at k1
    go_simp
  simp only [Act.put, List.setIfInBounds_toArray, List.set_cons_zero, List.set_cons_succ]
  refine takeH 35 118 (v := (.string all)) rfl rfl (by kernel_rfl) (by kernel_rfl) (by kernel_rfl) (fun _ _ _ h => h) (by rfl) ?_ HROW.out ?_
  · intro w hSw
    have k1 := conv_row hSw c'
    rw [HSR.out] at k1
    go_simp
  simp only [Act.put, List.setIfInBounds_toArray, List.set_cons_zero, List.set_cons_succ]
  refine takeH 36 119 (v := (.slice A' l c')) rfl rfl (by kernel_rfl) (by kernel_rfl) (by kernel_rfl) (fun _ _ _ h => h) (by rfl) ?_ HROW.out ?_
  · intro w hSw
    have k1 := conv_row hSw c'
    rw [HSR.out] at k1
    go_simp
  simp only [Act.put, List.setIfInBounds_toArray, List.set_cons_zero, List.set_cons_succ]
  refine takeH 37 120 (v := (.int .i64 (l : Int))) rfl rfl (by kernel_rfl) (by kernel_rfl) (by kernel_rfl) (fun _ _ _ h => h) (by rfl) ?_ HROW.out ?_
  · intro w hSw
    have k1 := conv_row hSw c'
    rw [HSR.out] at k1
    go_simp
  simp only [Act.put, List.setIfInBounds_toArray, List.set_cons_zero, List.set_cons_succ]
  refine takeH 38 121 (v := (.string sr)) rfl rfl (by kernel_rfl) (by kernel_rfl) (by kernel_rfl) (fun _ _ _ h => h) (by rfl) ?_ HROW.out ?_
  · intro w hSw
    have k1 := conv_row hSw c'
    rw [HSR.out] at k1
    go_simp
  simp only [Act.put, List.setIfInBounds_toArray, List.set_cons_zero, List.set_cons_succ]
  refine takeH 39 122 (v := (.bool true)) rfl rfl (by kernel_rfl) (by kernel_rfl) (by kernel_rfl) (fun _ _ _ h => h) (by rfl) ?_ HROW.out ?_
  · intro w hSw
    have k1 := conv_row hSw c'
    rw [HSR.out] at k1
    go_simp
  simp only [Act.put, List.setIfInBounds_toArray, List.set_cons_zero, List.set_cons_succ]
  refine takeH 40 123 (v := (.bool true)) rfl rfl (by kernel_rfl) (by kernel_rfl) (by kernel_rfl) (fun _ _ _ h => h) (by rfl) ?_ HROW.out ?_
  · intro w hSw
    have k1 := conv_row hSw c'
    rw [HSR.out] at k1
    go_simp
  simp only [Act.put, List.setIfInBounds_toArray, List.set_cons_zero, List.set_cons_succ]
  refine takeH 41 124 (v := (.bool true)) rfl rfl (by kernel_rfl) (by kernel_rfl) (by kernel_rfl) (fun _ _ _ h => h) (by rfl) ?_ HROW.out ?_
  · intro w hSw
    have k1 := conv_row hSw c'
    rw [HSR.out] at k1
    go_simp
  simp only [Act.put, List.setIfInBounds_toArray, List.set_cons_zero, List.set_cons_succ]
  refine wpAnyH_ready (rs := [42]) (by kernel_rfl) (by simp) ?_
  refine AllReadyH.cons rfl (fun K hK => ?_) AllReadyH.nil
  go_simp
  go_at_call 12
  refine (HLV.out _).mono ?_
  rintro e wF ⟨rfl, hBF0⟩
  have hBF : Below wR.heap.size wR wF := (Below.refl _ wR).drew.trans hBF0
  have HRF : Hid (RowZ wF A' l ((xz ++ yz).take l)) := Lib.hid (HROW.out.below hBF)
  have HEND := Lib.hid (HONR.out.trans (hBF.mono HONR.out.size))
  clear hBF hBF0
  refine hK.out _ _ HRF.out (fun _ => ?_)
  clear hK K
  refine takeH 43 126 (v := (.bool true)) rfl rfl (by kernel_rfl) (by kernel_rfl) (by kernel_rfl) (fun _ _ _ h => h) (by rfl) ?_ HRF.out ?_
  · intro w hSw
    have k1 := conv_row hSw c'
    rw [HSR.out] at k1
    go_simp
  simp only [Act.put, List.setIfInBounds_toArray, List.set_cons_zero, List.set_cons_succ]
  refine takeH 44 6 (v := (.bool true)) rfl rfl (by kernel_rfl) (by kernel_rfl) (by kernel_rfl) (fun _ _ _ h => h) (by rfl) ?_ HRF.out ?_
  · intro w hSw
    have k1 := conv_row hSw c'
    rw [HSR.out] at k1
    go_simp
  simp only [Act.put, List.setIfInBounds_toArray, List.set_cons_zero, List.set_cons_succ]
  refine wpAnyH_done (by kernel_rfl) ?_ _
  go_wp2
  go_ret
  exact ⟨rfl, HEND.out⟩
end
theorem diskSure_walk (A : Option Addr) (n c : Nat) (os : List OpR) (xA : Option Addr) (xl xc : Nat) (xz : List Int) (yA : Option Addr) (yl yc : Nat) (yz : List Int) (dir : Int) (kA : Option Addr) (kl kc : Nat) (kz : List Int) (W : World) (h : OpsIn W A n os) (hnc : n ≤ c) (hcm : c ≤ maxLen) (hx : IsRow .u8 W xA xl xc xz) (hy : IsRow .u8 W yA yl yc yz) (hd : (Lit.int .i64 dir).wf = true) (hk : IsRow .i64 W kA kl kc kz) :
    Calls Try.prog 4 #[.slice A n c, .agg #[.slice xA xl xc, .slice yA yl yc], .agg #[.int .i64 dir, .slice kA kl kc]] W fun e w' => e = .returned (.bool true) ∧ Below W.heap.size W w' := by
  by_cases hlong : 300 < xl ∨ 300 < yl ∨ 300 < kl
  · exact sure_long A n c os xA xl xc yA yl yc dir kA kl kc W h hnc hcm hlong
  · obtain ⟨k, kz'⟩ := ZsAt.of_isRow hk
    refine sure_main A n c os xA xl xc _ yA yl yc _ dir kA kl kc _ W h hnc hcm (RowZ.of_isRow hx) (RowZ.of_isRow hy) (bounds_i64 hd) k kz' (by omega) (by omega) (by omega) (fun o ho => ?_)
    have h1 := (small_all (cutL_small os o ho)).2.2.1
    have h2 := (h.2.1 o (cutL_in os o ho)).data.1
    omega
end Go.Proofs.Ytbjlikppboggmaa
