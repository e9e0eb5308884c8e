/-
  Contract of riscv.Run.
-/
import Derived.Test.YtadgemcpahfkoaaRxf
namespace Go.Proofs.Ytadgemcpahfkoaa
open Go.RowKit
set_option linter.unusedVariables false
set_option linter.unusedSimpArgs false
set_option maxRecDepth 100000
namespace Rv
set_option maxHeartbeats 6400000 in
theorem run_any (w : World) (m : Nat) (LA : Option Addr) (ln lc M k n : Nat) (f : ByteArray → Option Int) (hI : ImAt w m LA ln lc M (n : Int)) (hS : SymAt w M k f) (hn : n ≤ 100000)
    (ls : List Ln) (hL : LnsAt w LA ln ls) (hok : ∀ l ∈ ls, l.Ok) (hll : ls.length ≤ 100000) (hpc : -2147483648 ≤ (f ⟨#[46, 115, 116, 97, 114, 116]⟩).getD 0 ∧ (f ⟨#[46, 115, 116, 97, 114, 116]⟩).getD 0 ≤ 2147483647)
    (iA : Option Addr) (im ic : Nat) (inp : List Int) (hR : RowK .i32 w iA im inp) (hin : im ≤ 90000) (fuel : Int) (hfu : fuel ≤ 80000) :
    Calls Try.prog 19 #[.pointer (some ⟨m, 0, none⟩), .slice iA im ic, .int .i64 fuel] w (RunOut w (runR ls inp fuel (newS n ((f ⟨#[46, 115, 116, 97, 114, 116]⟩).getD 0)))) := by
  have hmf : ∀ (fn : Go.Fn) (first cap : Array Value) (w : World), (Instr.makeFunc fn first cap).run Try.prog w = .ok (.func fn first cap) w := fun _ _ _ _ => rfl
  obtain ⟨pc0, hpc0⟩ : ∃ pc0, (f ⟨#[46, 115, 116, 97, 114, 116]⟩).getD 0 = pc0 := ⟨_, rfl⟩
  obtain ⟨W1, hW1⟩ : ∃ W1, w.alloc (.cells #[.int .i64 0, .int .i32 0, .slice none 0 0, .int .i64 0, .int .i64 0] 57) = W1 := ⟨_, rfl⟩
  have hs1 : W1.heap.size = w.heap.size + 1 := by rw [← hW1]; simp
  have hB1 : Below w.heap.size w W1 := by rw [← hW1]; exact (Below.refl _ _).alloc (Nat.le_refl _) _
  have hr1 : W1.heap[w.heap.size]? = some (.cells #[.int .i64 0, .int .i32 0, .slice none 0 0, .int .i64 0, .int .i64 0] 57 (0, 0)) := by rw [← hW1]; exact heap_alloc_new w _
  have hm : m < w.heap.size := (Array.getElem?_eq_some_iff.1 hI).1
  have hI1 : ImAt W1 m LA ln lc M (n : Int) := (hB1.block m hm).trans hI
  have HST := Lib.hid (started_any W1 m LA ln lc M k n f hI1 (hS.same (hB1.block M hS.lt)) iA im ic fuel hn)
  have HL1 := Lib.hid (hL.below hB1)
  have HR1 := Lib.hid (hR.below hB1)
  have HB1 := Lib.hid hB1
  have HRB := Lib.hid hr1
  have HS1 := Lib.hid hs1
  have HOK := Lib.hid (And.intro hok hll)
  have HPC := Lib.hid hpc
  rw [hpc0] at HST HPC ⊢
  have him : inp.length = im := hR.1
  have HIM := Lib.hid him
  clear hI hS hL hR hB1 hr1 hs1 hI1 hok hll hpc hpc0 him hm
  go_enter_defers Try.func19, Try.ntmps19
  go_wp2_with fail
  refine HST.out.mono ?_
  rintro e w2 ⟨rfl, hb2, hs2, hc2, hm2⟩
  obtain ⟨p, hp⟩ : ∃ p, W1.heap.size + 1 = p := ⟨_, rfl⟩
  obtain ⟨W3, hW3⟩ : ∃ W3, w2.alloc (.cells #[.pointer (some ⟨p, 0, none⟩)] 83) = W3 := ⟨_, rfl⟩
  obtain ⟨xb, hxb⟩ : ∃ xb, w2.heap.size = xb := ⟨_, rfl⟩
  obtain ⟨E, hE⟩ : ∃ E, (⟨W1, p, xb, ⟨LA, ln, lc, W1.heap.size, n, iA, im, ic, fuel⟩, ls, inp⟩ : Env) = E := ⟨_, rfl⟩
  have hB3 : Below w2.heap.size w2 W3 := by rw [← hW3]; exact (Below.refl _ _).alloc (Nat.le_refl _) _
  have h3 : MAt E W3 (newS n pc0) := by
    rw [← hE]
    refine ⟨hb2.trans (hB3.mono hb2.size), ⟨by dsimp only; omega, by dsimp only; omega, by dsimp only; omega⟩, ⟨by dsimp only; omega, by dsimp only; omega, by dsimp only; omega⟩, ?_, ?_, by simp [newS], by simp [newS], HL1.out, HR1.out, none, 0, ?_, SLine.nil 1 _, fun k hk => (by cases hk)⟩
    · dsimp only; rw [← hW3, ← hxb]; exact heap_alloc_new w2 _
    · exact hm2.same (hB3.block _ (by omega))
    · dsimp only; rw [hp] at hc2; exact hc2.same (hB3.block _ (by omega))
  have HM3 := Lib.hid h3
  have HP := Lib.hid (And.intro hp (And.intro hxb hs2))
  have HE := Lib.hid hE
  clear hb2 hs2 hc2 hm2 hB3 h3 hE HST HL1 HR1
  rw [hp]
  clear hp
  go_wp2_with fail
  clear hxb hW3
  go_loopg [16, 17] (fuel.toNat + 1) (fun kx v v2 wr => Hid (∃ s, MAt E wr s ∧ Good inp s ∧ SoFar ls inp fuel (newS n pc0) s ∧ fuel.toNat - s.steps + 1 ≤ kx))
  case atStart =>
    exact Lib.hid ⟨_, HM3.out, ⟨HPC.out, by simp [newS], by simp [newS]⟩, ⟨rfl, Nat.zero_le _⟩, by omega⟩
  case round =>
    clear HM3
    have hr := hrel.out
    clear hrel
    obtain ⟨s, hM, hG, hS, hkx⟩ := hr
    have hEp : E.p = p := by rw [← HE.out]
    have hEl : E.ls = ls := by rw [← HE.out]
    have hEi : E.inp = inp := by rw [← HE.out]
    have hEf : E.q.fuel = fuel := by rw [← HE.out]
    have hEx : E.xb = xb := by rw [← HE.out]
    have hEn : E.q.mn = n := by rw [← HE.out]
    have hst := stepM_all hM (by rw [hEi]; exact hG) (by rw [hEl]; exact HOK.out.1) (by rw [hEl]; exact HOK.out.2) (by rw [hEn]; exact hn) (by rw [hEi, HIM.out]; exact hin) (by have := hS.2; omega)
    have hx := hM.xb
    rw [hEx, hEp] at hx
    rw [hEp, hEl, hEi, hEf] at hst
    have hx0 : wr.cell? ⟨xb, 0, none⟩ = some (.pointer (some ⟨p, 0, none⟩)) := cell_of_one hx
    cases hs : stepM ls inp fuel s with
    | go s' =>
      rw [hs] at hst
      obtain ⟨n1, n2, n3⟩ := hS.next hG hs
      have HST := Lib.hid hst
      have HN := Lib.hid (And.intro n1 (And.intro n2 n3))
      have hlt : fuel.toNat - s'.steps + 1 < gk := by
        have := n1.2
        omega
      obtain ⟨kk, hkk⟩ : ∃ kk, fuel.toNat - s'.steps + 1 = kk := ⟨_, rfl⟩
      have HKK := Lib.hid hkk
      rw [hkk] at hlt
      clear hst n1 n2 n3 hEp hEl hEi hEf hEx hEn hM hG hS hx hs hkk hkx
      go_wp2_with fail
      refine HST.out.mono ?_
      rintro e w5 ⟨rfl, hM'⟩
      have HM' := Lib.hid hM'
      clear hM'
      go_wp2_with fail
      go_roundg kk
      case measure => exact hlt
      case rel => exact Lib.hid ⟨s', HM'.out, HN.out.2.1, HN.out.1, by rw [HKK.out]; exact Nat.le_refl _⟩
    | fin kf s' =>
      rw [hs] at hst
      have hres := hS.done hs
      have HST := Lib.hid hst
      have HR : Hid (runR ls inp fuel (newS n pc0) = ⟨kf, s'.v, s'.tr, s'.steps, s'.reads⟩) := Lib.hid hres
      have HP2 : Hid (E.p = p ∧ E.xb = xb ∧ E.w0 = W1) := Lib.hid ⟨hEp, hEx, by rw [← HE.out]⟩
      clear hst hres hEp hEl hEi hEf hEx hEn hM hG hS hx hs hkx
      go_wp2_with fail
      refine HST.out.mono ?_
      rintro e w5 ⟨he, hT⟩
      unfold Ends at he
      subst he
      obtain ⟨tA, tc, hcl, hsl, hbl⟩ := hT.box
      have hz := HS1.out
      have j1 : w5.heap[w.heap.size]? = some (.cells #[.int .i64 0, .int .i32 0, .slice none 0 0, .int .i64 0, .int .i64 0] 57 (0, 0)) := by
        have hb := hT.below
        rw [HP2.out.2.2] at hb
        exact (hb.block _ (by omega)).trans HRB.out
      have HJ := Lib.hid (run1_pan kf [] hT w.heap.size _ _ _ _ _ j1 (by rw [HP2.out.2.2]; omega) tA tc hcl)
      rw [HP2.out.1, HP2.out.2.1] at HJ
      have HT : Hid (Below W1.heap.size W1 w5 ∧ SLine 1 w5 tA s'.tr.length tc (cellsW s'.tr) ∧ (∀ k ∈ blk tA, W1.heap.size ≤ k ∧ k ≠ p) ∧ W1.heap.size ≤ p) := Lib.hid (by
        have hb := hT.below
        have hpg := hT.pge.1
        rw [HP2.out.2.2] at hb hpg hbl
        rw [HP2.out.1] at hpg hbl
        exact ⟨hb, hsl, fun k hk => ⟨(hbl k hk).1, (hbl k hk).2.1⟩, hpg⟩)
      clear hcl hsl hbl hT j1 hz HST
      go_wp2_with fail
      refine leaves_cons (f := 42) (args := #[.pointer (some ⟨xb, 0, none⟩), .pointer (some ⟨w.heap.size, 0, none⟩)]) (by simp) (by simp [go_sem]) ?_
      refine HJ.out.mono ?_
      rintro e u' w3 ⟨rfl, rfl, hc3, q0⟩
      have p0 := (cell_of_row _ (w.heap.size) 0 _ _ (0, 0) q0).trans (show _ = some (Value.int .i64 kf) from rfl)
      have p1 := (cell_of_row _ (w.heap.size) 1 _ _ (0, 0) q0).trans (show _ = some (Value.int .i32 s'.v) from rfl)
      have p2 := (cell_of_row _ (w.heap.size) 2 _ _ (0, 0) q0).trans (show _ = some (Value.slice tA s'.tr.length tc) from rfl)
      have p3 := (cell_of_row _ (w.heap.size) 3 _ _ (0, 0) q0).trans (show _ = some (Value.int .i64 (s'.steps : Int)) from rfl)
      have p4 := (cell_of_row _ (w.heap.size) 4 _ _ (0, 0) q0).trans (show _ = some (Value.int .i64 (s'.reads : Int)) from rfl)
      have HOUT : Hid (RunOut w (runR ls inp fuel (newS n pc0)) (.returned (.agg #[.int .i64 kf, .int .i32 s'.v, .slice tA s'.tr.length tc, .int .i64 (s'.steps : Int), .int .i64 (s'.reads : Int)])) w3) := Lib.hid (by
        obtain ⟨tB, tl, tge, tp⟩ := HT.out
        rw [HR.out]
        have hz := HB1.out.size
        have hz2 := HS1.out
        refine ⟨tA, tc, rfl, ?_, ?_, fun b hb => by have := tge b hb; omega⟩
        · exact tl.chg hc3 (fun b hb => by have := tge b hb; simp only [List.mem_cons, List.not_mem_nil, or_false]; omega)
        · have tB2 := tB.size
          exact (HB1.out.trans (tB.mono hz)).trans (hc3.toBelow (fun b hb => by simp only [List.mem_cons, List.not_mem_nil, or_false] at hb; omega) (by omega)))
      clear q0 hc3 HJ HT HR
      simp [Leaves, settle, results, Try.results19, go_sem, p0, p1, p2, p3, p4]
      exact HOUT.out
end Rv
end Go.Proofs.Ytadgemcpahfkoaa
