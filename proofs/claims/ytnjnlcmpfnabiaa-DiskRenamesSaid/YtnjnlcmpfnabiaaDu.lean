/-
  The contract of the disk's settle.
-/
import Derived.Test.YtnjnlcmpfnabiaaDt
namespace Go.Proofs.Ytnjnlcmpfnabiaa
open Go.RowKit Go.Maps
set_option linter.unusedVariables false
set_option maxRecDepth 100000

/-- Changes laid over a directory, one behind the other. -/
def layAll (ps : List (ByteArray × Value)) (chl : List (List (ByteArray × Value))) : List (ByteArray × Value) := chl.foldl layP ps
theorem layAll_snoc (ps : List (ByteArray × Value)) (chl : List (List (ByteArray × Value))) (c : List (ByteArray × Value)) : layAll ps (chl ++ [c]) = layP (layAll ps chl) c := by unfold layAll; rw [List.foldl_append]; rfl
/-- Changes as they lie in memory, none of their blocks in L. -/
def ChsIn (w : World) (L : List Nat) (css : List Value) (chl : List (List (ByteArray × Value))) : Prop :=
  css.length = chl.length ∧ ∀ (i : Nat) (v : Value) (chs : List (ByteArray × Value)), css[i]? = some v → chl[i]? = some chs → ∃ pb : Nat, v = Value.slice (some ⟨pb, 0, none⟩) chs.length chs.length ∧ SLine 2 w (some ⟨pb, 0, none⟩) chs.length chs.length (cellsP encS chs) ∧ pb ∉ L ∧ chs.length ≤ 2 ∧ ∀ p ∈ chs, ∃ a : Option Addr, p.2 = .pointer a
theorem mapF_id (ps : List (ByteArray × Value)) (h : ∀ p ∈ ps, ∃ a : Option Addr, p.2 = .pointer a) : mapF (fun a => a) ps = ps := by
  unfold mapF
  conv => rhs; rw [← List.map_id ps]
  apply List.map_congr_left
  rintro ⟨x, v⟩ hp
  obtain ⟨a, ha⟩ := h _ hp
  simp only at ha
  subst ha
  rfl
theorem settle_enters (args : Array Value) (w : World) : (callFunc 63 args).run Try.prog w = .ok (.enter 63 args) w := enters_of Try.func63 (by kernel_rfl) rfl args w
/-- What settle leaves: the directory R, sure and as it is. -/
def Settled (w : World) (d : Nat) (b : DBox) (SA F : Option Addr) (fc : Nat) (fs : List Value) (nm : Value → Nat) (R : List (ByteArray × Value)) (w' : World) : Prop :=
  ∃ A2 n2 c2 A3 n3 c3 kf, DBoxAt w' d { b with files := .slice F kf fc, now := .slice A3 n3 c3, sure := .slice A2 n2 c2, changes := .slice none 0 0 } ∧ RowG encS ltS w' A2 n2 c2 R ∧ RowG encS ltS w' A3 n3 c3 R ∧
    kf = (fs.filter (keepV nm (R.map fun p => nm p.2))).length ∧ SLine 1 w' F kf fc (fs.filter (keepV nm (R.map fun p => nm p.2))) ∧ Chg (d :: (blk SA ++ blk F)) w w' ∧ (∀ k ∈ blk A2, k ∈ blk SA ∨ w.heap.size ≤ k) ∧ (∀ k ∈ blk A3, w.heap.size ≤ k) ∧ ∀ k ∈ blk A2, k ∉ blk A3
set_option maxHeartbeats 3200000 in
theorem settle_any (w : World) (d : Nat) (b : DBox) (hD : DBoxAt w d b) (SA : Option Addr) (sn sc : Nat) (hsure : b.sure = .slice SA sn sc) (ss : List (ByteArray × Value)) (hS : RowG encS ltS w SA sn sc ss) (hdS : d ∉ blk SA)
    (C : Option Addr) (cn cc : Nat) (hch : b.changes = .slice C cn cc) (css : List Value) (hC : SLine 1 w C cn cc css) (hdC : d ∉ blk C) (hCS : ∀ k ∈ blk C, k ∉ blk SA) (chl : List (List (ByteArray × Value))) (hcl : ChsIn w (d :: blk SA) css chl) (hcn : cn ≤ 90000)
    (k : Nat) (hk : k ≤ cn) (hlen : ∀ j, j ≤ k → (layAll ss (chl.take j)).length ≤ 90000)
    (F : Option Addr) (fn fc : Nat) (hfi : b.files = .slice F fn fc) (fs : List Value) (hL : SLine 1 w F fn fc fs) (hfn : fn ≤ 100000) (nm : Value → Nat) (hfs : FsIn w nm fs) (hfF : ∀ f, Value.pointer (some ⟨f, 0, none⟩) ∈ fs → f ∉ blk F) (hdF : d ∉ blk F) (hFS : ∀ j ∈ blk F, j ∉ blk SA)
    (hfa : ∀ f, Value.pointer (some ⟨f, 0, none⟩) ∈ fs → f ≠ d ∧ f ∉ blk SA) (hin : ∀ p ∈ layAll ss (chl.take k), p.2 ∈ fs) :
    Calls Try.prog 42 #[.pointer (some ⟨d, 0, none⟩), .int .i64 (k : Int)] w fun e w' => (∃ v, e = .returned v) ∧ Settled w d b SA F fc fs nm (layAll ss (chl.take k)) w' := by
  have hcl1 := hcl.1
  have hcs1 : css.length = cn := by have := hC.1; omega
  have c4 : w.cell? ⟨d, 4, none⟩ = some b.changes := hD.cell 4 _ rfl
  rw [hch] at c4
  have hcc : cn ≤ cc := hC.2.1
  have hcc63 : cc ≤ 9223372036854775807 := by have := hC.2.2.1; unfold maxLen at this; omega
  have hk0 : (0 : Int) ≤ (k : Int) := by omega
  have hkc : (k : Int) ≤ (cc : Int) := by omega
  have HH := Lib.hid (And.intro hD (And.intro hsure (And.intro hS (And.intro hdS (And.intro hC (And.intro hdC (And.intro hCS (And.intro hcl hlen))))))))
  have HF := Lib.hid (And.intro hfi (And.intro hL (And.intro hfs (And.intro hfF (And.intro hdF (And.intro hFS (And.intro hfa hin)))))))
  have HN := Lib.hid (And.intro hcl1 hcs1)
  clear hD hsure hS hdS hC hdC hCS hcl hlen hfi hL hfs hfF hdF hFS hfa hin hcl1 hcs1
  go_enter Try.func42, Try.ntmps42
  go_wp2
  clear c4
  go_loopw [13] (fun i wr => ∃ j : Nat, j ≤ k ∧ i = .int .i64 j ∧ Hid (∃ A' n' c', DBoxAt wr d { b with sure := .slice A' n' c' } ∧ RowG encS ltS wr A' n' c' (layAll ss (chl.take j)) ∧ Chg (d :: blk SA) w wr ∧ ∀ x ∈ blk A', x ∈ blk SA ∨ w.heap.size ≤ x)) (fun i _ => k - (intOf i).toNat)
  case atStart =>
    refine ⟨0, by omega, rfl, Lib.hid ⟨SA, sn, sc, ?_, HH.out.2.2.1, Chg.refl _ _, fun x hx => .inl hx⟩⟩
    have := HH.out.1
    have e : { b with sure := .slice SA sn sc } = b := by rw [← HH.out.2.1]
    rw [e]
    exact this
  case round =>
    obtain ⟨j, hj, rfl, HI⟩ := hrel
    obtain ⟨A', n', c', hD', hR', hC', hA'⟩ := HI.out
    obtain ⟨hD, hsure, hS, hdS, hCl, hdC, hCS, hcl, hlen⟩ := HH.out
    have hdl := hD.lt
    have hdA' : d ∉ blk A' := fun hm => by
      rcases hA' d hm with h | h
      · exact hdS h
      · omega
    rcases Nat.lt_or_ge j k with hjk | hjk
    · have hjc : j < cn := by omega
      have hCw : SLine 1 wr C cn cc css := hCl.chg hC' (fun x hx hm => by
        rcases List.mem_cons.1 hm with h | h
        · rw [h] at hx; exact hdC hx
        · exact hCS x hx h)
      obtain ⟨g, off, rfl, hg, hcs, _⟩ := hCw.at (by omega)
      obtain ⟨v, hv⟩ : ∃ v, css[j]? = some v := ⟨_, List.getElem?_eq_getElem (by rw [HN.out.2]; exact hjc)⟩
      obtain ⟨chs, hchs⟩ : ∃ chs, chl[j]? = some chs := ⟨_, List.getElem?_eq_getElem (by rw [← HN.out.1, HN.out.2]; exact hjc)⟩
      obtain ⟨pb, rfl, hline, hpb, h2, hsh⟩ := hcl.2 j v chs hv hchs
      have hck := hcs j (by omega)
      rw [hv] at hck
      have hpl : pb < w.heap.size := hline.lt pb (mem_blk.2 ⟨_, rfl, rfl⟩)
      have hblkp : ∀ x ∈ blk (some (⟨pb, 0, none⟩ : Addr)), x = pb := fun x hx => by obtain ⟨ad, ea, he⟩ := mem_blk.1 hx; cases ea; exact he.symm
      have hline' : SLine 2 wr (some ⟨pb, 0, none⟩) chs.length chs.length (cellsP encS chs) := hline.chg hC' (fun x hx => by rw [hblkp x hx]; exact hpb)
      have hn' : n' ≤ 90000 := by rw [← hR'.len]; exact hlen j (by omega)
      have HLAY := Lib.hid (lay_any wr d 3 ({ b with sure := .slice A' n' c' } : DBox).cells 83 A' n' c' _ hD' rfl hdA' hR' (some ⟨pb, 0, none⟩) chs.length chs.length chs hline' hsh (fun hm => hpb (by rw [← hblkp d hm]; exact List.mem_cons_self ..)) (fun x hx hm => by
        rw [hblkp x hx] at hm
        rcases hA' pb hm with h | h
        · exact hpb (List.mem_cons_of_mem _ h)
        · omega) (by omega))
      have hT : layAll ss (chl.take (j + 1)) = layP (layAll ss (chl.take j)) chs := by rw [List.take_add_one, hchs]; exact layAll_snoc _ _ _
      have HT := Lib.hid hT
      have HX := Lib.hid (And.intro hC' (And.intro hA' hdA'))
      obtain ⟨m, hm⟩ : ∃ m, chs.length = m := ⟨_, rfl⟩
      rw [hm] at hck HLAY
      have hjk' : (j : Int) < (k : Int) := by omega
      have hj0 : (0 : Int) ≤ (j : Int) := by omega
      clear hD' hR' hC' hA' hdA' hD hsure hS hdS hCl hdC hCS hcl hlen hCw hcs hv hchs hline hpb hsh hline' hT hblkp hm hg
      go_wp2_with fail
      refine HLAY.out.mono ?_
      rintro e w2 ⟨⟨v2, rfl⟩, A2, n2, c2, hb2, hR2, hC2, hF2⟩
      have HNEW : Hid (∃ A' n' c', DBoxAt w2 d { b with sure := .slice A' n' c' } ∧ RowG encS ltS w2 A' n' c' (layAll ss (chl.take (j + 1))) ∧ Chg (d :: blk SA) w w2 ∧ ∀ x ∈ blk A', x ∈ blk SA ∨ w.heap.size ≤ x) := Lib.hid (by
        refine ⟨A2, n2, c2, hb2, by rw [HT.out]; exact hR2, HX.out.1.andThen hC2 (fun x hx => ?_), fun x hx => ?_⟩
        · rcases List.mem_cons.1 hx with h | h
          · exact .inl (by rw [h]; exact List.mem_cons_self ..)
          · rcases HX.out.2.1 x h with h | h
            · exact .inl (List.mem_cons_of_mem _ h)
            · exact .inr h
        · have := HX.out.1.size
          rcases hF2 x hx with h | h
          · exact HX.out.2.1 x h
          · exact .inr (by omega))
      clear hb2 hR2 hC2 hF2
      go_wp2
      go_roundw
      case rel => exact ⟨j + 1, by omega, by go_num, HNEW⟩
      case measure => simp [intOf]; omega
    · obtain rfl : j = k := by omega
      have c4 : wr.cell? ⟨d, 4, none⟩ = some b.changes := hD'.cell 4 _ rfl
      have f4 := hD'.free 4
      obtain ⟨w4, hw4⟩ : ∃ w4, wr.setCell ⟨d, 4, none⟩ (.slice none 0 0) = w4 := ⟨_, rfl⟩
      have hD4 : DBoxAt w4 d { b with sure := .slice A' n' c', changes := .slice none 0 0 } := by rw [← hw4]; exact hD'.set 4 (.slice none 0 0) _ rfl
      have hC4 : Chg [d] wr w4 := by rw [← hw4]; exact (Chg.refl _ wr).setCell d 4 _ (.inl (by simp))
      have hndA : ∀ x ∈ blk A', x ∉ [d] := fun x hx hm => by rw [List.mem_singleton] at hm; rw [hm] at hx; exact hdA' hx
      have hR4 := hR'.chg hC4 hndA
      have hCw4 : Chg (d :: blk SA) w w4 := hC'.andThen hC4 (fun x hx => .inl (by rw [List.mem_singleton] at hx; rw [hx]; exact List.mem_cons_self ..))
      obtain ⟨hfi, hL, hfs, hfF, hdF, hFS, hfa, hin⟩ := HF.out
      obtain ⟨R, hRe⟩ : ∃ R, layAll ss (chl.take j) = R := ⟨_, rfl⟩
      have hn' : n' ≤ 90000 := by rw [← hR'.len]; exact hlen j (by omega)
      rw [hRe] at hR4 hin
      have hsh : ∀ p ∈ R, ∃ a : Option Addr, p.2 = .pointer a := fun p hp => by
        obtain ⟨f, _, _, _, _, e, _⟩ := hfs _ (hin p hp)
        exact ⟨_, e⟩
      have hc3 : w4.cell? ⟨d, 3, none⟩ = some (.slice A' n' c') := hD4.cell 3 _ rfl
      have HCP := Lib.hid (copied_any w4 d 3 A' n' c' R ⟨hc3, hR4⟩ (by omega) hsh 63 #[] settle_enters (fun a => a) (fun W hW p hp a ha => (settleId W a).mono (by rintro e w' ⟨rfl, rfl⟩; exact ⟨rfl, Below.refl _ _⟩)))
      rw [mapF_id R hsh] at HCP
      have HX := Lib.hid (And.intro hD4 (And.intro hR4 (And.intro hCw4 (And.intro hA' (And.intro hdA' hdl)))))
      have HR := Lib.hid hRe
      clear hD' hR' hC' hA' hdA' hD hsure hS hdS hCl hdC hCS hcl hlen hD4 hC4 hndA hR4 hCw4 hfi hL hfs hfF hdF hFS hfa hin hRe hsh hc3 hdl
      go_wp2_with fail
      refine HCP.out.mono ?_
      rintro e w5 ⟨⟨A3, n3, c3, rfl, hR5, hf5⟩, hB5⟩
      obtain ⟨hD4, hR4, hCw4, hA', hdA', hdl⟩ := HX.out
      obtain ⟨hfi, hL, hfs, hfF, hdF, hFS, hfa, hin⟩ := HF.out
      rw [HR.out] at hin
      have hsz4 := hCw4.size
      have hD5 := hD4.below hB5
      have c2 : w5.cell? ⟨d, 2, none⟩ = some b.now := hD5.cell 2 _ rfl
      have f2 := hD5.free 2
      obtain ⟨w6, hw6⟩ : ∃ w6, w5.setCell ⟨d, 2, none⟩ (.slice A3 n3 c3) = w6 := ⟨_, rfl⟩
      have hD6 : DBoxAt w6 d { b with now := .slice A3 n3 c3, sure := .slice A' n' c', changes := .slice none 0 0 } := by rw [← hw6]; exact hD5.set 2 (.slice A3 n3 c3) _ rfl
      have hc6 : Chg [d] w5 w6 := by rw [← hw6]; exact (Chg.refl _ w5).setCell d 2 _ (.inl (by simp))
      have hall : Chg (d :: blk SA) w w6 := (hCw4.trans (Chg.of_below hB5)).andThen hc6 (fun x hx => .inl (by rw [List.mem_singleton] at hx; rw [hx]; exact List.mem_cons_self ..))
      have hdA3 : ∀ x ∈ blk A3, x ∉ [d] := fun x hx hm => by rw [List.mem_singleton] at hm; have := hf5 x hx; omega
      have hR6 := hR5.chg hc6 hdA3
      have hRA6 : RowG encS ltS w6 A' n' c' R := (hR4.below hB5).chg hc6 (fun x hx hm => by rw [List.mem_singleton] at hm; rw [hm] at hx; exact hdA' hx)
      have hL6 : SLine 1 w6 F fn fc fs := hL.chg hall (fun x hx hm => by
        rcases List.mem_cons.1 hm with h | h
        · rw [h] at hx; exact hdF hx
        · exact hFS x hx h)
      have hfs6 : FsIn w6 nm fs := fun v hv => by
        obtain ⟨f, A, n, c, sure, e, h1, h2⟩ := hfs v hv
        refine ⟨f, A, n, c, sure, e, h1.same (hall.same f (lt_of_block h1) (fun hm => ?_)), h2⟩
        rw [e] at hv
        rcases List.mem_cons.1 hm with h | h
        · exact (hfa f hv).1 h
        · exact (hfa f hv).2 h
      have hps6 : NumsIn w6 nm R := fun p hp => hfs6 _ (hin p hp)
      have hFG := Lib.hid (forget_any w6 d _ hD6 A3 n3 c3 rfl R hR6 (by rw [← hR6.len, hR4.len]; exact hn') nm hps6 F fn fc hfi fs hL6 hfn hfs6 hfF hdF)
      have HY4 := Lib.hid hR4.lt'
      have HY := Lib.hid (And.intro hall (And.intro hRA6 (And.intro hR6 (And.intro hf5 (And.intro hsz4 (And.intro hA' (And.intro hdA' (And.intro hdl (And.intro hL (And.intro hFS hB5.size))))))))))
      clear hD4 hR4 hCw4 hA' hdA' hdl hfi hL hfs hfF hdF hFS hfa hin hsz4 hD5 hD6 hc6 hall hdA3 hR6 hRA6 hL6 hfs6 hps6 hR5 hf5 hB5
      go_wp2_with fail
      refine hFG.out.mono ?_
      rintro e w7 ⟨⟨v7, rfl⟩, kf, hkf, hD7, hL7, hc7⟩
      obtain ⟨hall, hRA6, hR6, hf5, hsz4, hA', hdA', hdl, hL, hFS, hs5⟩ := HY.out
      have hA4 := HY4.out
      have HEND : Hid (Settled w d b SA F fc fs nm (layAll ss (chl.take j)) w7) := Lib.hid (by
        rw [HR.out]
        have hapA : ∀ x ∈ blk A', x ∉ d :: blk F := fun x hx hm => by
          rcases List.mem_cons.1 hm with h | h
          · rw [h] at hx; exact hdA' hx
          · rcases hA' x hx with h' | h'
            · exact hFS x h h'
            · have := hL.lt x h; omega
        have hapB : ∀ x ∈ blk A3, x ∉ d :: blk F := fun x hx hm => by
          have := hf5 x hx
          rcases List.mem_cons.1 hm with h | h
          · omega
          · have := hL.lt x h; omega
        refine ⟨A', n', c', A3, n3, c3, kf, hD7, hRA6.chg hc7 hapA, hR6.chg hc7 hapB, hkf, hL7, ?_, hA', fun x hx => by have := hf5 x hx; omega, fun x hx hx3 => ?_⟩
        · refine (hall.weaken (fun x hx => .inl ?_)).andThen hc7 (fun x hx => .inl ?_)
          · rcases List.mem_cons.1 hx with h | h
            · rw [h]; exact List.mem_cons_self ..
            · exact List.mem_cons_of_mem _ (List.mem_append_left _ h)
          · rcases List.mem_cons.1 hx with h | h
            · rw [h]; exact List.mem_cons_self ..
            · exact List.mem_cons_of_mem _ (List.mem_append_right _ h)
        · have h3 := hf5 x hx3
          have := hA4 x hx
          omega)
      clear hall hRA6 hR6 hf5 hsz4 hA' hdA' hdl hL hFS hs5 hD7 hL7 hc7 hkf
      go_wp2_with fail
      go_end0
      exact ⟨⟨_, rfl⟩, HEND.out⟩
end Go.Proofs.Ytnjnlcmpfnabiaa
