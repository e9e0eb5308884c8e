/- The contract of the disk's beginWith. -/
import Derived.Test.YtdjnebgjdekmaaaGreatDoorZaf
import Derived.Test.YtdjnebgjdekmaaaGreatDoorZah
import Derived.Deep.CutRange
import Derived.Deep.RegionHeld3
import Derived.Deep.RegionWith
set_option linter.unusedVariables false
set_option maxRecDepth 100000
namespace Go.Proofs.YtdjnebgjdekmaaaGreatDoor
open Go.RowKit
theorem powered_now (b : DBox) : (poweredB b).now = b.now := by unfold poweredB; split; rfl; split; rfl; split <;> rfl
theorem powered_files (b : DBox) : (poweredB b).files = b.files := by unfold poweredB; split; rfl; split; rfl; split <;> rfl
theorem powered_changes (b : DBox) : (poweredB b).changes = b.changes := by unfold poweredB; split; rfl; split; rfl; split <;> rfl
theorem powered_made (b : DBox) : (poweredB b).made = b.made := by unfold poweredB; split; rfl; split; rfl; split <;> rfl
theorem powered_sure (b : DBox) : (poweredB b).sure = b.sure := by unfold poweredB; split; rfl; split; rfl; split <;> rfl
theorem powered_quota (b : DBox) : (poweredB b).quota = b.quota := by unfold poweredB; split; rfl; split; rfl; split <;> rfl
theorem powered_full (b : DBox) : (poweredB b).full = b.full := by unfold poweredB; split; rfl; split; rfl; split <;> rfl
def withE (b : DBox) (ns : List ByteArray) (ps : List (ByteArray × Value)) (nm : ByteArray) : Int := if beginE b ns = 0 then (if hasP ltS ps nm = true then 0 else 3) else beginE b ns
def withF (b : DBox) (ns : List ByteArray) (ps : List (ByteArray × Value)) (nm : ByteArray) : Value := if withE b ns ps nm = 0 then (lookP ltS ps nm).getD (.pointer none) else .pointer none
theorem beginE_cases (b : DBox) (ns : List ByteArray) : beginE b ns = 0 ∨ beginE b ns = 1 ∨ beginE b ns = 5 := by unfold beginE; split; split; exact .inl rfl; exact .inr (.inl rfl); exact .inr (.inr rfl)
set_option maxHeartbeats 1600000 in
theorem beginWith_any (w : World) (d : Nat) (b : DBox) (h : DBoxAt w d b) (hcl : 0 ≤ b.calls ∧ b.calls ≤ 1000000) (hah : b.ahead ≤ 9223372036854775807) (A : Option Addr) (m c : Nat) (ns : List ByteArray) (hN : NamesAt w A m ns) (hm : m ≤ 1000) (hd : d ∉ blk A)
 (nm : ByteArray) (hnm : ns[0]? = some nm) (RA : Option Addr) (rn rc : Nat) (hnow : b.now = .slice RA rn rc) (ps : List (ByteArray × Value)) (hrow : RowG encS ltS w RA rn rc ps) (hdR : d ∉ blk RA) (hrn : rn ≤ 1000000) :
 Calls Tryz.prog 50 #[.pointer (some ⟨d, 0, none⟩), .slice A m c] w fun e w' => e = .returned (.tuple #[withF b ns ps nm, .int .i64 (withE b ns ps nm)]) ∧ DBoxAt w' d (poweredB b) ∧ Chg [d] w w' := by
 have HB := Lib.hid (begin_any w d b h hcl hah A m c ns hN hm hd)
 have hm0 : 0 < m := by have := hN.1; have := (List.getElem?_eq_some_iff.1 hnm).1; omega
 obtain ⟨g, off, rfl, hg, hcs⟩ := hN.2.2 hm0
 have hck := hcs 0 nm hnm
 have hdg : d ≠ g := fun e => hd (mem_blk.2 ⟨_, rfl, e.symm⟩)
 have HCK := Lib.hid (And.intro hck (And.intro hg hdg))
 have hrd : ∀ k ∈ blk RA, k ∉ [d] := fun k hk hm => by rw [List.mem_singleton] at hm; rw [hm] at hk; exact hdR hk
 have HROW := Lib.hid (And.intro hrow hrd)
 have HNOW : Hid ((poweredB b).now = .slice RA rn rc) := Lib.hid ((powered_now b).trans hnow)
 have hm' : (0 : Int) < (m : Int) := by omega
 have hcases := beginE_cases b ns
 clear hnow hN hd hcl hah hcs hck hdg hrow hrd hdR hnm h
 obtain ⟨b2, hb2⟩ : ∃ b2, poweredB b = b2 := ⟨_, rfl⟩
 have HW : Hid (beginE b ns ≠ 0 → withE b ns ps nm = beginE b ns ∧ withF b ns ps nm = .pointer none) := Lib.hid fun h0 => by
  have e1 : withE b ns ps nm = beginE b ns := by unfold withE; rw [if_neg h0]
  exact ⟨e1, by unfold withF; rw [e1, if_neg h0]⟩
 have HW0 : Hid (beginE b ns = 0 → withE b ns ps nm = (if hasP ltS ps nm = true then 0 else 3) ∧ withF b ns ps nm = if hasP ltS ps nm = true then (lookP ltS ps nm).getD (.pointer none) else .pointer none) := Lib.hid fun h0 => by
  have e1 : withE b ns ps nm = (if hasP ltS ps nm = true then 0 else 3) := by unfold withE; rw [if_pos h0]
  refine ⟨e1, ?_⟩
  unfold withF
  rw [e1]
  cases hasP ltS ps nm <;> simp
 obtain ⟨wE, hwE⟩ : ∃ wE, withE b ns ps nm = wE := ⟨_, rfl⟩
 obtain ⟨wF, hwF⟩ : ∃ wF, withF b ns ps nm = wF := ⟨_, rfl⟩
 rw [hwE, hwF] at HW HW0
 rw [hb2] at HB HNOW
 rw [hwE, hwF, hb2]
 clear hwE hwF hb2
 obtain ⟨E, hE⟩ : ∃ E, beginE b ns = E := ⟨_, rfl⟩
 rw [hE] at HB HW HW0 hcases
 clear hE
 by_cases hE0 : E = 0
 · subst hE0
   obtain ⟨h1, h2⟩ := HW0.out rfl
   subst h1 h2
   clear HW HW0 hcases
   obtain ⟨v, hv⟩ : ∃ v, (lookP ltS ps nm).getD (.pointer none) = v := ⟨_, rfl⟩
   obtain ⟨t, ht⟩ : ∃ t, hasP ltS ps nm = t := ⟨_, rfl⟩
   rw [hv, ht]
   have HV := Lib.hid (And.intro hv ht)
   clear hv ht
   cases t
   all_goals
    simp only [↓reduceIte, Bool.false_eq_true]
    go_enter Tryz.func50, Tryz.ntmps50
    go_wp2_with fail
    refine HB.out.mono ?_
    rintro e w1 ⟨rfl, hd1, hc1⟩
    have hc2 : w1.cell? ⟨d, 2, none⟩ = some b2.now := hd1.cell 2 _ rfl
    have hg1 : w1.cell? ⟨g, off, none⟩ = some (.string nm) := (World.cell?_of_block (w := w) (a := ⟨g, off, none⟩) (hc1.same g HCK.out.2.1 (by simp only [List.mem_singleton]; exact fun e => HCK.out.2.2 e.symm))).trans HCK.out.1
    have hR1 : RowG encS ltS w1 RA rn rc ps := HROW.out.1.chg hc1 HROW.out.2
    rw [HNOW.out] at hc2
    have HGET := Lib.hid (fun (W : World) (hW : W.heap = w1.heap) => rget_S W d 2 RA rn rc ps ⟨(World.cell?_of_block (w := w1) (a := ⟨d, 2, none⟩) (by rw [hW])).trans hc2, hR1.same (by rw [hW]; exact Nat.le_refl _) (fun k _ => by rw [hW])⟩ nm hrn)
    rw [HV.out.1, HV.out.2] at HGET
    have HD := Lib.hid (And.intro hd1 hc1)
    have HG1 := Lib.hid hg1
    clear hd1 hc1 hc2 hR1
    go_wp2_with fail
    go_region_with (go_at_call 46; refine (HGET.out w1.drew rfl).mono ?_; rintro e w2 ⟨rfl, hB⟩; have HX : Hid (DBoxAt w2 d b2 ∧ Chg [d] w w2) := Lib.hid ⟨(hB.block d (show d < w1.heap.size from HD.out.1.lt)).trans HD.out.1, HD.out.2.drew.trans (Chg.of_below hB)⟩; clear hB)
    all_goals
     go_wp2
     go_ret2
     exact ⟨rfl, HX.out⟩
 · obtain ⟨h1, h2⟩ := HW.out hE0
   subst h1 h2
   have hEb : (wE == 0) = false := by simpa using hE0
   clear HW HW0
   go_enter Tryz.func50, Tryz.ntmps50
   go_wp2_with fail
   refine HB.out.mono ?_
   rintro e w1 ⟨rfl, hd1, hc1⟩
   have HX := Lib.hid (And.intro hd1 hc1)
   clear hd1 hc1
   go_wp2
   go_ret2
   exact ⟨rfl, HX.out⟩
end Go.Proofs.YtdjnebgjdekmaaaGreatDoor
