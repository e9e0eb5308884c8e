/-
  Run: what a program does: the walk.
-/
import Derived.Test.YtcanjkjpdnbcnaaZaw
namespace Go.Proofs.Ytcanjkjpdnbcnaa
open Go.RowKit
set_option linter.unusedVariables false
set_option linter.unusedSimpArgs false
set_option maxRecDepth 100000

/-- A step, so many steps being left. -/
def stepF (F : ByteArray → Option MFn) (inp : List Int) (fuel : Int) (s : PS) : PO := if fuel ≤ (s.steps : Int) then .fin 5 0 s else stepP F inp s
theorem step_all {e : Env} {q : Plc} {w : World} {s : PS} (h : MachAt e q w s) (hg : Good e.F e.G e.inp s) (hF : ∀ x f, e.F x = some f → FnOk e.F e.G f) (hI : ∀ v ∈ e.inp, I32 v) (hfu : e.fuel ≤ 80000) (hin : e.inp.length ≤ 90000) :
    Calls Try.prog 20 #[.pointer (some ⟨e.p, 0, none⟩)] w (Out e (stepF e.F e.inp e.fuel s)) := by
  unfold stepF
  by_cases hf : e.fuel ≤ (s.steps : Int)
  · rw [if_pos hf]
    exact step_open h hf
  · rw [if_neg hf]
    exact step_mach h hg hF hI (by omega) hfu hin
/-- So far a run has come. -/
def SoFar (F : ByteArray → Option MFn) (inp : List Int) (fuel : Int) (s0 s : PS) : Prop := runP F inp s.steps s0 = .go s ∧ s.steps ≤ fuel.toNat
theorem SoFar.next {F : ByteArray → Option MFn} {G : ByteArray → Prop} {inp : List Int} {fuel : Int} {s0 s s' : PS} (hF : ∀ x f, F x = some f → FnOk F G f) (hI : ∀ v ∈ inp, I32 v) (h : SoFar F inp fuel s0 s) (hg : Good F G inp s) (hs : stepF F inp fuel s = .go s') : SoFar F inp fuel s0 s' ∧ Good F G inp s' ∧ s'.steps = s.steps + 1 := by
  unfold stepF at hs
  split at hs
  · cases hs
  · next hf =>
    obtain ⟨h1, h2⟩ := stepP_good hF hI hg
    rw [hs] at h1
    have e1 : s'.steps = s.steps + 1 := h1.1
    refine ⟨⟨?_, by omega⟩, h2 s' hs, e1⟩
    rw [e1, runP_more, h.1]
    show runP F inp 1 s = _
    show (match stepP F inp s with | .go s' => runP F inp 0 s' | .fin k v s' => .fin k v s') = _
    rw [hs]
    rfl
theorem SoFar.done {F : ByteArray → Option MFn} {inp : List Int} {fuel : Int} {s0 s s' : PS} {k v : Int} (h : SoFar F inp fuel s0 s) (hs : stepF F inp fuel s = .fin k v s') : (runP F inp fuel.toNat s0).res = ⟨k, v, s'.tr, s'.steps, s'.reads⟩ := by
  unfold stepF at hs
  have h2 := h.2
  split at hs
  · next hf =>
    cases hs
    have e : fuel.toNat = s.steps := by omega
    rw [e, h.1]
    rfl
  · next hf =>
    have e : fuel.toNat = s.steps + ((fuel.toNat - s.steps - 1) + 1) := by omega
    rw [e, runP_more, h.1]
    show (match stepP F inp s with | .go s' => runP F inp _ s' | .fin k v s' => .fin k v s').res = _
    rw [hs]
    rfl
/-- What a run hands back. -/
def RunOut (w : World) (R : PR) (e : Ending) (w' : World) : Prop :=
  ∃ A c, e = .returned (.agg #[.int .i64 R.fin, .int .i32 R.value, .slice A R.tr.length c, .int .i64 (R.steps : Int), .int .i64 (R.reads : Int)]) ∧ SLine 1 w' A R.tr.length c (cellsN R.tr) ∧ Below w.heap.size w w' ∧ ∀ k ∈ blk A, w.heap.size ≤ k
theorem four_new (w : World) (a b c d : Obj) : ∃ W2 W, (w.alloc a).alloc b = W2 ∧ (W2.alloc c).alloc d = W ∧ W2.heap.size = w.heap.size + 2 ∧ W.heap.size = w.heap.size + 4 ∧ W.heap[w.heap.size]? = some a ∧ W.heap[w.heap.size + 1]? = some b ∧ W.heap[w.heap.size + 2]? = some c ∧ W.heap[w.heap.size + 3]? = some d ∧ Below w.heap.size w W2 ∧ Below W2.heap.size W2 W := by
  have s1 : (w.alloc a).heap.size = w.heap.size + 1 := by simp
  have s2 : ((w.alloc a).alloc b).heap.size = w.heap.size + 2 := by simp
  have s3 : (((w.alloc a).alloc b).alloc c).heap.size = w.heap.size + 3 := by simp
  refine ⟨_, _, rfl, rfl, s2, by simp, ?_, ?_, ?_, ?_, (((Below.refl w.heap.size w).alloc (Nat.le_refl _) a).alloc (by simp) b), (((Below.refl _ _).alloc (Nat.le_refl _) c).alloc (by simp) d)⟩
  · rw [Lib.alloc_old _ _ _ (by omega), Lib.alloc_old _ _ _ (by omega), Lib.alloc_old _ _ _ (by omega)]; exact heap_alloc_new w a
  · rw [Lib.alloc_old _ _ _ (by omega), Lib.alloc_old _ _ _ (by omega), ← s1]; exact heap_alloc_new _ b
  · rw [Lib.alloc_old _ _ _ (by omega), ← s2]; exact heap_alloc_new _ c
  · rw [← s3]; exact heap_alloc_new _ d
set_option maxHeartbeats 6400000 in
theorem run_any (w : World) (GA FA : Option Addr) (gn gc fn fc : Nat) (gs : List MGl) (fs : List MFn) (hg : MGls w GA gn gs) (hf : MFns w FA fn fs) (iA : Option Addr) (ic : Nat) (inp : List Int) (hI : RowK .i32 w iA inp.length inp) (hin : inp.length ≤ 90000) (fuel : Int) (hfu : fuel ≤ 80000)
    (hm : MidOk gs fs) (hi : ∀ v ∈ inp, I32 v) :
    Calls Try.prog 10 #[.agg #[.slice GA gn gc, .slice FA fn fc], .slice iA inp.length ic, .int .i64 fuel] w (RunOut w (progR gs fs inp fuel.toNat)) := by
  have hmf : ∀ (fn : Go.Fn) (first cap : Array Value) (w : World), (Instr.makeFunc fn first cap).run Try.prog w = .ok (.func fn first cap) w := fun _ _ _ _ => rfl
  obtain ⟨W2, W4, hW2, hW4, hs2, hs4, k0, k1, k2, k3, hB2, hB4⟩ := four_new w (.cells #[.slice GA gn gc, .slice FA fn fc] 25) (.cells #[.int .i64 0, .int .i32 0, .slice none 0 0, .int .i64 0, .int .i64 0] 32)
    (.cells #[.map none, .map none, .slice iA inp.length ic, .int .i64 fuel, .slice none 0 0, .int .i64 0, .int .i32 0, .slice none 0 0, .int .i64 0, .int .i64 0] 54) (.cells #[.pointer (some ⟨w.heap.size + 2, 0, none⟩)] 49)
  have hsw2 := hB2.size
  have hk0 := cell_of_row W4 w.heap.size 0 _ _ (0, 0) k0
  have hk1 := cell_of_row W4 w.heap.size 1 _ _ (0, 0) k0
  have b0 : W4.cell? ⟨w.heap.size, 0, none⟩ = some (.slice GA gn gc) := hk0.trans rfl
  have b1 : W4.cell? ⟨w.heap.size, 1, none⟩ = some (.slice FA fn fc) := hk1.trans rfl
  have x0 : W4.cell? ⟨w.heap.size + 2 + 1, 0, none⟩ = some (.pointer (some ⟨w.heap.size + 2, 0, none⟩)) := cell_of_one k3
  have hg4 := hg.below (hB2.trans (hB4.mono hB2.size))
  have hf4 := hf.below (hB2.trans (hB4.mono hB2.size))
  have HLAY := Lib.hid (lay_any W4 (w.heap.size + 2) ⟨none, none, iA, inp.length, ic, fuel, none, 0, 0, 0, 0, none, 0, 0, 0, 0⟩ k2 GA FA gn gc fn fc gs fs hg4 hf4 (by rw [← hg.1]; exact hm.gn) (by rw [← hf.1]; exact hm.fn) hm.apG hm.apF hm.sz
    (fun hn g off e => by obtain ⟨g', off', e1, e2, _⟩ := hg.2.2 hn; rw [e] at e1; cases e1; omega) (fun hn g off e => by obtain ⟨g', off', e1, e2, _⟩ := hf.2.2 hn; rw [e] at e1; cases e1; omega))
  have HF2 := Lib.hid (hf.below hB2)
  have HI2 := Lib.hid (hI.below hB2)
  have HK3 := Lib.hid k3
  have HK1 : Hid (W2.heap[w.heap.size + 1]? = some (.cells #[.int .i64 0, .int .i32 0, .slice none 0 0, .int .i64 0, .int .i64 0] 32 (0, 0))) := Lib.hid ((hB4.block _ (by omega)).symm.trans k1)
  have HB2 := Lib.hid hB2
  have HB4 := Lib.hid hB4
  have HS := Lib.hid (And.intro hs2 hs4)
  have HM := Lib.hid hm
  have HI := Lib.hid hi
  obtain ⟨E, hE⟩ : ∃ E, (⟨W2, w.heap.size + 2, fnOf fs, isGl gs, inp, iA, ic, fuel, w.heap.size + 2 + 1⟩ : Env) = E := ⟨_, rfl⟩
  have HE := Lib.hid hE
  clear hk0 hk1 hg4 hf4 k0 k1 k2 k3 hB2 hB4 hs4 hm hi hg hf hI hE hsw2
  go_enter_defers Try.func10, Try.ntmps10
  go_wp2_with fail
  refine HLAY.out.mono ?_
  rintro e w5 ⟨rfl, mb, fm, wm, box, hmb, hB⟩
  have hs := HS.out
  have hw4 := HB2.out.size
  obtain ⟨q0, h0⟩ : ∃ q0, MachAt E q0 w5 ⟨wdOf gs, [], [], 0, 0⟩ := by
    rw [← HE.out]
    exact hB.mach (w0 := W2) fn HM.out (by omega) (by omega) (by omega) hmb HB4.out HK3.out HF2.out HI2.out
  have hp : E.p = w.heap.size + 2 := by rw [← HE.out]
  have hFF : E.F = fnOf fs := by rw [← HE.out]
  have hx := h0.xb.1
  obtain ⟨f, hf, hfp⟩ := HM.out.main
  have hok := HM.out.ok f (fnOf_mem hf)
  have hrg := hok.regs
  obtain ⟨nf, φ, hφ, hφ2⟩ := h0.fns
  obtain ⟨a2, hva, hfn⟩ := hφ2 ⟨#[109, 97, 105, 110]⟩ f (by rw [hFF]; exact hf)
  have hfn2 := hfn
  obtain ⟨g2, o2, rfl, hg2, _, hfc⟩ := hfn2
  have hrn : f.regs = (f.regs.toNat : Int) := by omega
  have f2 : w5.cell? ⟨g2, o2 + 2, none⟩ = some (.int .i64 (f.regs.toNat : Int)) := by rw [← hrn]; exact (h0.below.cell (p := ⟨g2, o2 + 2, none⟩) hg2).trans (hfc 2 _ rfl)
  have hpk : E.p ∉ blk q0.kA := fun hm => by have := h0.ownk _ hm; have := h0.ownp; omega
  have hen := enter_any w5 E.p q0.fm nf g2 o2 f.regs.toNat 0 q0.kc 0 0 (-1) ⟨#[109, 97, 105, 110]⟩ φ q0.kA none (ptrsOf q0.bs) [] (h0.rcell 0 _ rfl) (h0.rcell 4 _ rfl) (h0.rfree 4) hφ (by show (4 : Nat) ≤ maxLen; unfold maxLen; omega) hva f2 (by omega) (by omega) h0.line (SLine.nil 1 _) (by omega) hpk
  have HEN : Hid (Calls Try.prog 19 #[.pointer (some ⟨w.heap.size + 2, 0, none⟩), .string ⟨#[109, 97, 105, 110]⟩, .int .i64 (-1), .slice none 0 0] w5 fun en w' => en = .returned (.tuple #[]) ∧ ∃ q', MachAt E q' w' (mainP (fnOf fs) (wdOf gs) ⟨#[109, 97, 105, 110]⟩)) := Lib.hid (by
    rw [hp] at hen
    refine hen.mono fun en w' hE2 => ?_
    rw [← hp] at hE2
    have h1 := h0.enter (f := f) (m := 0) hfn rfl (Nat.zero_le _) hE2
    have e1 : mainP (fnOf fs) (wdOf gs) ⟨#[109, 97, 105, 110]⟩ = ⟨wdOf gs, [⟨f, List.replicate f.regs.toNat 0, 0, 0, -1⟩], [], 0, 0⟩ := by unfold mainP; rw [hf]
    rw [e1]
    simpa using h1)
  have hx5 : w5.cell? ⟨w.heap.size + 2 + 1, 0, none⟩ = some (.pointer (some ⟨w.heap.size + 2, 0, none⟩)) := by
    have e2 : E.xb = w.heap.size + 2 + 1 := by rw [← HE.out]
    have := h0.xb.1
    rw [e2, hp] at this
    exact cell_of_one this
  clear hB hs hw4 h0 hp hFF hx hf hfp hok hrg hφ hφ2 hva hfn hfc hrn f2 hpk hen hg2 x0 b0 b1 hmb HLAY HS HK3 HF2 HI2 hW2 hW4 hs2
  go_wp2_with fail
  refine HEN.out.mono ?_
  rintro e w6 ⟨rfl, q1, h1⟩
  have HM1 := Lib.hid h1
  clear h1 hx5 HEN
  go_wp2_with fail
  go_loopg [18, 19] (fuel.toNat + 1) (fun kx v v2 wr => Hid (∃ q s, MachAt E q wr s ∧ Good (fnOf fs) (isGl gs) inp s ∧ SoFar (fnOf fs) inp fuel (mainP (fnOf fs) (wdOf gs) ⟨#[109, 97, 105, 110]⟩) s ∧ fuel.toNat - s.steps + 1 ≤ kx))
  case atStart =>
    refine Lib.hid ⟨q1, _, HM1.out, main_good HM.out inp, ⟨?_, ?_⟩, ?_⟩
    · obtain ⟨f, hf, _⟩ := HM.out.main
      unfold mainP
      rw [hf]
      rfl
    · obtain ⟨f, hf, _⟩ := HM.out.main
      unfold mainP
      rw [hf]
      exact Nat.zero_le _
    · omega
  case round =>
    clear HM1
    have hr := hrel.out
    clear hrel
    obtain ⟨q, s, hM, hG, hS, hkx⟩ := hr
    have hp : E.p = w.heap.size + 2 := by rw [← HE.out]
    have hFF : E.F = fnOf fs := by rw [← HE.out]
    have hGG : E.G = isGl gs := by rw [← HE.out]
    have hII : E.inp = inp := by rw [← HE.out]
    have hfl : E.fuel = fuel := by rw [← HE.out]
    have hxb : E.xb = w.heap.size + 2 + 1 := by rw [← HE.out]
    have hw0 : E.w0 = W2 := by rw [← HE.out]
    have hFO : ∀ x f, fnOf fs x = some f → FnOk (fnOf fs) (isGl gs) f := fun x f h => HM.out.ok f (fnOf_mem h)
    have hst := step_all hM (by rw [hFF, hGG, hII]; exact hG) (by rw [hFF, hGG]; exact hFO) (by rw [hII]; exact HI.out) (by rw [hfl]; exact hfu) (by rw [hII]; exact hin)
    have hx := hM.xb.1
    rw [hxb, hp] at hx
    rw [hp, hFF, hII, hfl] at hst
    have hx0 : wr.cell? ⟨w.heap.size + 2 + 1, 0, none⟩ = some (.pointer (some ⟨w.heap.size + 2, 0, none⟩)) := cell_of_one hx
    cases hs : stepF (fnOf fs) inp fuel s with
    | go s' =>
      rw [hs] at hst
      obtain ⟨n1, n2, n3⟩ := hS.next hFO HI.out hG hs
      have HST := Lib.hid hst
      have HN := Lib.hid (And.intro n1 (And.intro n2 n3))
      have hlt : fuel.toNat - s'.steps + 1 < gk := by
        have := n1.2
        omega
      obtain ⟨kk, hkk⟩ : ∃ kk, fuel.toNat - s'.steps + 1 = kk := ⟨_, rfl⟩
      have HKK := Lib.hid hkk
      rw [hkk] at hlt
      clear hst n1 n2 n3 hp hFF hGG hII hfl hxb hw0 hFO hM hG hS hx hs hkk hkx
      go_wp2_with fail
      refine HST.out.mono ?_
      rintro e w2 ⟨rfl, q', hM'⟩
      have HM' := Lib.hid hM'
      clear hM'
      go_wp2_with fail
      go_roundg kk
      case measure => exact hlt
      case rel => exact Lib.hid ⟨q', s', HM'.out, HN.out.2.1, HN.out.1, by rw [HKK.out]; exact Nat.le_refl _⟩
    | fin k v s' =>
      rw [hs] at hst
      have hres := hS.done hs
      have HST := Lib.hid hst
      have HR : Hid (progR gs fs inp fuel.toNat = ⟨k, v, s'.tr, s'.steps, s'.reads⟩) := Lib.hid hres
      have HP := Lib.hid (And.intro hp (And.intro hxb hw0))
      clear hst hres hp hFF hGG hII hfl hxb hw0 hFO hM hG hS hx hs hkx
      go_wp2_with fail
      refine HST.out.mono ?_
      rintro e w2 ⟨he, hT⟩
      have he2 : e = .panicked [{ v := .iface 55 (.int .i64 k), recovered := false }] := he
      subst he2
      obtain ⟨tB, tle, r, tr, tv, tn, ts, td, tl, tnp, tge, txb, txp⟩ := hT
      rw [HP.out.2.2] at tB tge tle
      rw [HP.out.1] at tr tnp txb txp tle
      rw [HP.out.2.1] at txb txp
      have hz := HB2.out.size
      have tB2 := tB.size
      have h1 : w.heap.size + 1 < W2.heap.size := (Array.getElem?_eq_some_iff.1 HK1.out).1
      have j1 := (tB.block _ h1).trans HK1.out
      have HJ := Lib.hid (run1_pan k [] (w.heap.size + 2 + 1) (w.heap.size + 1) (w.heap.size + 2) w2 r _ _ _ _ _ txb j1 tr txp (by omega) (by omega))
      have HT : Hid (Below W2.heap.size W2 w2 ∧ r.value = v ∧ r.tn = s'.tr.length ∧ r.steps = s'.steps ∧ r.reads = s'.reads ∧ SLine 1 w2 r.tA r.tn r.tc (cellsN s'.tr) ∧ (w.heap.size + 2 ∉ blk r.tA) ∧ (∀ k ∈ blk r.tA, W2.heap.size ≤ k) ∧ w.heap.size + 1 < W2.heap.size ∧ W2.heap.size ≤ w.heap.size + 2) := Lib.hid ⟨tB, tv, tn, ts, td, tl, tnp, tge, h1, tle⟩
      clear tB tle tr tv tn ts td tl tnp tge txb txp j1 hz tB2 h1 he HST
      go_wp2_with fail
      refine leaves_cons (f := 17) (args := #[.pointer (some ⟨w.heap.size + 2 + 1, 0, none⟩), .pointer (some ⟨w.heap.size + 1, 0, none⟩)]) (by simp) (by simp [go_sem]) ?_
      refine HJ.out.mono ?_
      rintro e u' w3 ⟨rfl, rfl, hc3, q0⟩
      have p0 := (cell_of_row _ (w.heap.size + 1) 0 _ _ (0, 0) q0).trans (show _ = some (Value.int .i64 k) from rfl)
      have p1 := (cell_of_row _ (w.heap.size + 1) 1 _ _ (0, 0) q0).trans (show _ = some (Value.int .i32 r.value) from rfl)
      have p2 := (cell_of_row _ (w.heap.size + 1) 2 _ _ (0, 0) q0).trans (show _ = some (Value.slice r.tA r.tn r.tc) from rfl)
      have p3 := (cell_of_row _ (w.heap.size + 1) 3 _ _ (0, 0) q0).trans (show _ = some (Value.int .i64 r.steps) from rfl)
      have p4 := (cell_of_row _ (w.heap.size + 1) 4 _ _ (0, 0) q0).trans (show _ = some (Value.int .i64 (r.reads : Int)) from rfl)
      have HOUT : Hid (RunOut w (progR gs fs inp fuel.toNat) (.returned (.agg #[.int .i64 k, .int .i32 r.value, .slice r.tA r.tn r.tc, .int .i64 r.steps, .int .i64 (r.reads : Int)])) w3) := Lib.hid (by
        obtain ⟨tB, tv, tn, ts, td, tl, tnp, tge, h1, h2⟩ := HT.out
        rw [HR.out]
        refine ⟨r.tA, r.tc, ?_, ?_, ?_, fun b hb => by have := tge b hb; have := HB2.out.size; omega⟩
        · rw [tv, tn, ts, td]
        · show SLine 1 w3 r.tA s'.tr.length r.tc (cellsN s'.tr)
          rw [← tn]
          exact tl.chg hc3 (fun b hb => by have := tge b hb; simp only [List.mem_cons, List.not_mem_nil, or_false]; rintro (e | e); exact tnp (e ▸ hb); omega)
        · have hz := HB2.out.size
          have tB2 := tB.size
          exact (HB2.out.trans (tB.mono hz)).trans (hc3.toBelow (fun b hb => by simp only [List.mem_cons, List.not_mem_nil, or_false] at hb; omega) (by omega)))
      clear q0 hc3 HJ HT HR
      simp [Leaves, settle, results, Try.results10, go_sem, p0, p1, p2, p3, p4]
      exact HOUT.out
end Go.Proofs.Ytcanjkjpdnbcnaa
