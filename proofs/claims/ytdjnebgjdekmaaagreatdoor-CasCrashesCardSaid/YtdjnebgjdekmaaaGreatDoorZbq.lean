/- The document's store of layer 6: Get. -/
import Derived.Test.YtdjnebgjdekmaaaGreatDoorZbj
import Derived.Test.YtdjnebgjdekmaaaGreatDoorZbl
import Derived.Test.YtdjnebgjdekmaaaGreatDoorZbk
set_option linter.unusedVariables false
set_option maxRecDepth 100000
namespace Go.Proofs.YtdjnebgjdekmaaaGreatDoor
open Go.RowKit Go.Maps
def rfile (fs : List RF) (l : List Nat) (dn s : Nat) : Option RF := (fs.findIdx? (isAt (fileB l dn s))).bind fun i => fs[i]?
def rhit (fs : List RF) (l : List Nat) (dn s : Nat) : Option (List Nat) :=
 match (rfile fs l dn s).bind fun o => splitE o.data with
 | some (k, a) => if k = l then some a else none
 | none => none
def rget (fs : List RF) (l : List Nat) (dn : Nat) : Option (Nat × List Nat) := (List.range 8).findSome? fun s => (rhit fs l dn s).map fun a => (s, a)
theorem rget_none {fs : List RF} {l : List Nat} {dn : Nat} (h : ∀ t, t < 8 → rhit fs l dn t = none) : rget fs l dn = none := by
 unfold rget
 rw [List.findSome?_eq_none_iff]
 intro t ht
 rw [h t (List.mem_range.1 ht)]
 rfl
theorem rget_some {fs : List RF} {l : List Nat} {dn s : Nat} {a : List Nat} (hs : s < 8) (h : ∀ t, t < s → rhit fs l dn t = none) (ha : rhit fs l dn s = some a) : rget fs l dn = some (s, a) := by
 unfold rget
 rw [show List.range 8 = List.range s ++ (s :: (List.range (7 - s)).map (· + (s + 1))) by
  have : s = 0 ∨ s = 1 ∨ s = 2 ∨ s = 3 ∨ s = 4 ∨ s = 5 ∨ s = 6 ∨ s = 7 := by omega
  rcases this with rfl | rfl | rfl | rfl | rfl | rfl | rfl | rfl <;> rfl]
 rw [List.findSome?_append, List.findSome?_eq_none_iff.2 (fun t ht => by rw [h t (List.mem_range.1 ht)]; rfl), List.findSome?_cons, ha]
 rfl
def RGetAns (fs : List RF) (l : List Nat) (dn : Nat) (e : Ending) (W : World) : Prop :=
 match rget fs l dn with
 | none => e = .returned (.tuple #[.slice none 0 0, .int .i64 (-1)])
 | some (s, a) => ∃ A c, e = .returned (.tuple #[.slice A a.length c, .int .i64 (s : Int)]) ∧ RowN W A a.length a
theorem atF_cases (fs : List RF) (l : List Nat) (dn s : Nat) : (atF fs (fileB l dn s) = -1 ∧ rfile fs l dn s = none) ∨ ∃ i o, atF fs (fileB l dn s) = ((i : Nat) : Int) ∧ fs[i]? = some o ∧ rfile fs l dn s = some o := by
 unfold atF rfile
 cases hf : fs.findIdx? (isAt (fileB l dn s)) with
 | none => exact .inl ⟨rfl, rfl⟩
 | some i =>
  have hi := (List.findIdx?_eq_some_iff_getElem.1 hf).1
  exact .inr ⟨i, fs[i], rfl, List.getElem?_eq_getElem hi, by show fs[i]? = _; exact List.getElem?_eq_getElem hi⟩
set_option maxHeartbeats 3200000 in
theorem rget_any (w : World) (s dn : Nat) (A : Option Addr) (c : Nat) (fs : List RF) (h : RSt w s dn A c fs) (hn : fs.length ≤ 100000) (hb : ∀ o ∈ fs, o.data.length ≤ 90000 ∧ o.dc ≤ 9223372036854775807) (hdn : dn ≤ 64) (KA : Option Addr) (kn kc : Nat) (l : List Nat) (hk : Held w KA kn kc l) (hkn : kn ≤ 3000) :
 Calls Tryz.prog 17 #[.pointer (some ⟨s, 0, none⟩), .slice KA kn kc] w fun e w' => RGetAns fs l dn e w' ∧ Below w.heap.size w w' := by
 have HL := Lib.hid h
 have HK := Lib.hid hk
 have HBO := Lib.hid hb
 clear h hk hb
 go_enter Tryz.func17, Tryz.ntmps17
 go_wp2
 go_loopw [6] (fun i wr => ∃ k : Nat, k ≤ 8 ∧ i = .int .i64 k ∧ Hid (∀ t, t < k → rhit fs l dn t = none) ∧ Hid (Below w.heap.size w wr)) (fun i _ => 8 - (intOf i).toNat)
 case atStart => exact ⟨0, by omega, rfl, Lib.hid (fun j hj => by omega), Lib.hid (Below.refl _ _)⟩
 case round =>
  obtain ⟨k, hk8, rfl, HI, HB⟩ := hrel
  rcases Nat.lt_or_ge k 8 with hkm | hkm
  · have hS := HL.out.below HB.out
    have y0 : wr.cell? ⟨s, 0, none⟩ = some (.int .i64 (dn : Int)) := by rw [cell_of_row _ s 0 _ _ (0, 0) hS.box]; rfl
    have HFO := Lib.hid (rfileOf_any KA kn kc l dn k hkn hdn hkm wr (HK.out.below HB.out).1)
    have HNEXT : Hid (rhit fs l dn k = none → ∀ t, t < k + 1 → rhit fs l dn t = none) := Lib.hid (fun h t ht => by
     rcases Nat.lt_or_ge t k with q | q
     · exact HI.out t q
     · obtain rfl : t = k := by omega
       exact h)
    have hkm' : (k : Int) < 8 := by omega
    have hk0 : (0 : Int) ≤ (k : Int) := by omega
    clear hS
    go_wp2_with fail
    refine HFO.out.mono ?_
    rintro e w1 ⟨rfl, hb1⟩
    have hB1 : Below w.heap.size w w1 := HB.out.trans (hb1.mono HB.out.size)
    have HAT := Lib.hid (rat6_any w1 s dn A c fs (HL.out.below hB1) hn (fileB l dn k))
    have HB1 := Lib.hid hB1
    clear hb1 hB1 HFO y0
    rcases atF_cases fs l dn k with ⟨ha, hr⟩ | ⟨i, o, ha, ho, hr⟩
    · rw [ha] at HAT
      have HN := Lib.hid (HNEXT.out (by unfold rhit; rw [hr]; rfl))
      clear ha hr HNEXT HI
      go_wp2_with fail
      refine HAT.out.mono ?_
      rintro e w2 ⟨rfl, hb2⟩
      have HB2 := Lib.hid (HB1.out.trans (hb2.mono HB1.out.size))
      clear hb2 HAT
      go_wp2
      go_roundw
      case rel => exact ⟨k + 1, by omega, by go_num, HN, HB2⟩
      case measure => simp [intOf] <;> omega
    · rw [ha] at HAT
      have hil := (List.getElem?_eq_some_iff.1 ho).1
      have hi63 : ¬ (i : Int) < 0 := by omega
      have hi0 : (0 : Int) ≤ (i : Int) := by omega
      have hi1 : (i : Int) < (fs.length : Int) := by omega
      have hi2 : (i : Int) ≤ 100000 := by omega
      have HO := Lib.hid (And.intro ho hr)
      clear ha ho hr
      go_wp2_with fail
      refine HAT.out.mono ?_
      rintro e w2 ⟨rfl, hb2⟩
      have hB2 : Below w.heap.size w w2 := HB1.out.trans (hb2.mono HB1.out.size)
      have hS2 := HL.out.below hB2
      have y1 : w2.cell? ⟨s, 1, none⟩ = some (.slice A fs.length c) := by rw [cell_of_row _ s 1 _ _ (0, 0) hS2.box]; rfl
      obtain ⟨g, off, hAe, hg, d0, d1⟩ := hS2.at HO.out.1
      obtain ⟨r1, r2⟩ := hS2.rows o (List.mem_of_getElem? HO.out.1)
      obtain ⟨r3, r4⟩ := HBO.out o (List.mem_of_getElem? HO.out.1)
      have HP := Lib.hid (rsplit_any w2 o.dA o.data.length o.dc o.data r3 r2 r4 r1)
      have HB2 := Lib.hid hB2
      subst hAe
      have hcl : fs.length ≤ c := hS2.line.2.1
      obtain ⟨fl, hfl⟩ : ∃ fl, fs.length = fl := ⟨_, rfl⟩
      rw [hfl] at y1 hi1 hcl
      obtain ⟨dl, hdl⟩ : ∃ dl, o.data.length = dl := ⟨_, rfl⟩
      rw [hdl] at HP d1
      clear hb2 hB2 hS2 hg r1 r2 r3 r4 HAT hfl hdl hil
      go_wp2_with fail
      refine HP.out.mono ?_
      rintro e w3 ⟨hans, hb3⟩
      have hB3 : Below w.heap.size w w3 := HB2.out.trans (hb3.mono HB2.out.size)
      have HB3 := Lib.hid hB3
      unfold RSplit at hans
      cases hsp : splitE o.data with
      | none =>
       rw [hsp] at hans
       simp only at hans
       subst hans
       have HN := Lib.hid (HNEXT.out (by unfold rhit; rw [HO.out.2]; simp [hsp]))
       clear HNEXT HI HO HP hb3 hB3 hsp d0 d1 y1
       go_wp2
       go_roundw
       case rel => exact ⟨k + 1, by omega, by go_num, HN, HB3⟩
       case measure => simp [intOf] <;> omega
      | some p =>
       obtain ⟨k', a⟩ := p
       rw [hsp] at hans
       simp only at hans
       obtain ⟨A1, c1, A2, c2, rfl, q1, q2⟩ := hans
       have v1 := conv_row q1 c1
       have v2 := conv_row (HK.out.1.below hB3) kc
       have hbq := txt_beq q1.bytes (HK.out.1).bytes
       unfold txt at hbq
       have HQ2 := Lib.hid q2
       generalize strOfNums (asZ k') = sk at *
       generalize strOfNums (asZ l) = sl at *
       by_cases he : k' = l
       · rw [decide_eq_true he] at hbq
         have HG : Hid (rget fs l dn = some (k, a)) := Lib.hid (rget_some hkm HI.out (by unfold rhit; rw [HO.out.2]; simp [hsp, he]))
         clear HNEXT HI HO HP hb3 hB3 hsp d0 d1 y1 q1 q2 he
         go_wp2
         go_ret2
         unfold RGetAns
         rw [HG.out]
         exact ⟨⟨A2, c2, rfl, HQ2.out⟩, HB3.out⟩
       · rw [decide_eq_false he] at hbq
         have HN := Lib.hid (HNEXT.out (by unfold rhit; rw [HO.out.2]; simp [hsp, he]))
         clear HNEXT HI HO HP hb3 hB3 hsp d0 d1 y1 q1 q2 he
         go_wp2
         go_roundw
         case rel => exact ⟨k + 1, by omega, by go_num, HN, HB3⟩
         case measure => simp [intOf] <;> omega
  · obtain rfl : k = 8 := by omega
    have HG : Hid (rget fs l dn = none) := Lib.hid (rget_none HI.out)
    clear HI
    go_wp2
    go_ret2
    unfold RGetAns
    rw [HG.out]
    exact ⟨rfl, HB.out⟩
end Go.Proofs.YtdjnebgjdekmaaaGreatDoor
