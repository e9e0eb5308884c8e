/- Contracts of the document's own FileOf. -/
import Derived.Test.YtdjnebgjdekmaaaGreatDoorZbi
import Derived.Test.YtdjnebgjdekmaaaGreatDoorZat
import Derived.Test.YtdjnebgjdekmaaaGreatDoorZba
set_option linter.unusedVariables false
set_option maxRecDepth 100000
namespace Go.Proofs.YtdjnebgjdekmaaaGreatDoor
open Go.RowKit Go.Shelf
theorem rfileOf_no (A : Option Addr) (n c : Nat) (d s : Int) (h : ¬ (0 ≤ d ∧ d ≤ 64) ∨ s < 0 ∨ 8 ≤ s) (w : World) :
 Calls Tryz.prog 25 #[.slice A n c, .int .i64 d, .int .i64 s] w fun e w' => e = .returned (.string ⟨#[]⟩) ∧ w = w' := by
 have h' : d < 0 ∨ (¬ d < 0 ∧ 64 < d) ∨ (¬ d < 0 ∧ ¬ 64 < d ∧ s < 0) ∨ (¬ d < 0 ∧ ¬ 64 < d ∧ ¬ s < 0 ∧ 7 < s) := by omega
 clear h
 rcases h' with h1 | ⟨h1, h2⟩ | ⟨h1, h2, h3⟩ | ⟨h1, h2, h3, h4⟩
 all_goals
  go_enter Tryz.func25, Tryz.ntmps25
  go_wp2
  go_ret
  exact ⟨rfl, rfl⟩
set_option maxHeartbeats 3200000 in
theorem rfileOf_any (A : Option Addr) (n c : Nat) (l : List Nat) (dn s : Nat) (hn : n ≤ 3000) (hdn : dn ≤ 64) (hs : s < 8) (w : World) (hK : RowN w A n l) :
 Calls Tryz.prog 25 #[.slice A n c, .int .i64 (dn : Int), .int .i64 (s : Int)] w fun e w' => e = .returned (.string (fileB l dn s)) ∧ Below w.heap.size w w' := by
 have HS := Lib.hid (fun (W : World) (h : Below w.heap.size w W) => refsha_any A n c l hn W (hK.below h))
 have HX := Lib.hid (fun (W : World) (g c1 : Nat) (h : RowN W (some ⟨g, 0, none⟩) 32 (shaN l)) => ref_hex (some ⟨g, 0, none⟩) 32 c1 (asZ (shaN l)) (by omega) W h)
 rw [txt_sum l] at HX
 have HD := Lib.hid (Below.refl w.heap.size w).drew
 have hsz : (txt (sumN l)).size = 64 := by rw [txt_size, sumN_length]
 have HT : Hid (fileB l dn s = (⟨#[99, 45]⟩ : ByteArray) ++ (txt (sumN l)).extract 0 dn ++ ⟨#[45]⟩ ++ strOfNums [48 + (s : Int)]) := Lib.hid (by
  rw [stem_text l dn]
  show txt (stemN l dn ++ [48 + s]) = _
  rw [← txt_append]
  rfl)
 rw [HT.out]
 generalize hsh : shaN l = sh at *
 generalize txt (sumN l) = t at *
 have h1 : ¬ (dn : Int) < 0 := by omega
 have h2 : ¬ 64 < (dn : Int) := by omega
 have h3 : ¬ (s : Int) < 0 := by omega
 have h4 : ¬ 7 < (s : Int) := by omega
 have hw1 : IntKind.i64.wrap (48 + (s : Int)) = 48 + (s : Int) := by
  have : s = 0 ∨ s = 1 ∨ s = 2 ∨ s = 3 ∨ s = 4 ∨ s = 5 ∨ s = 6 ∨ s = 7 := by omega
  rcases this with rfl | rfl | rfl | rfl | rfl | rfl | rfl | rfl <;> decide
 have hw2 : IntKind.u8.wrap (48 + (s : Int)) = 48 + (s : Int) := by
  have : s = 0 ∨ s = 1 ∨ s = 2 ∨ s = 3 ∨ s = 4 ∨ s = 5 ∨ s = 6 ∨ s = 7 := by omega
  rcases this with rfl | rfl | rfl | rfl | rfl | rfl | rfl | rfl <;> decide
 have L1 : Hid (∀ (W : World) (fz : Nat × Nat), RowZ (W.alloc (.cells #[.int .u8 (48 + (s : Int))] 5 fz)) (some ⟨W.heap.size, 0, none⟩) 1 [48 + (s : Int)]) := Lib.hid (fun W fz => by
  have h := lit_row W [48 + s] fz (fun x hx => by simp only [List.mem_cons, List.not_mem_nil, or_false] at hx; omega)
  unfold RowN at h
  exact h)
 have hcv : ∀ (W : World) (fz : Nat × Nat), (convert 40 9 (.slice (some ⟨W.heap.size, 0, none⟩) 1 1)).run Tryz.prog (W.alloc (.cells #[.int .u8 (48 + (s : Int))] 5 fz)) = .ok (.string (strOfNums [48 + (s : Int)])) (W.alloc (.cells #[.int .u8 (48 + (s : Int))] 5 fz)) := fun W fz => conv_row (L1.out W fz) 1
 have CV : Hid (∀ (W : World) (A : Option Addr), RowZ W A 1 [48 + (s : Int)] → (convert 40 9 (.slice A 1 1)).run Tryz.prog W = .ok (.string (strOfNums [48 + (s : Int)])) W) := Lib.hid (fun W A h => conv_row h 1)
 have v0 := CV.out (w.alloc (.cells #[.int .u8 (48 + (s : Int))] 5)).drew (some ⟨w.heap.size, 0, none⟩) ((L1.out w (0, 0)).below (Below.refl _ _).drew)
 have hus : (strOfNums [48 + (s : Int)]).size = 1 := rfl
 generalize strOfNums [48 + (s : Int)] = u at *
 clear hK hsh HT
 go_enter Tryz.func25, Tryz.ntmps25
 go_wp2_with fail
 go_region_with (first
  | (go_at_call 55
     first
      | (refine (HS.out _ HD.out).mono ?_
         rintro e w1 ⟨⟨g, c1, rfl, hr⟩, hb⟩
         have HB1 := Lib.hid (HD.out.trans (hb.mono HD.out.size))
         have HR := Lib.hid hr
         clear hr hb)
      | (refine (HS.out _ (HD.out.alloc HD.out.size _)).mono ?_
         rintro e w1 ⟨⟨g, c1, rfl, hr⟩, hb⟩
         have r1 : Hid (RowZ w1 (some ⟨w.heap.size, 0, none⟩) 1 [48 + (s : Int)]) := Lib.hid ((L1.out w.drew _).below hb)
         have v1 := CV.out _ _ r1.out
         have HB1 := Lib.hid ((HD.out.alloc HD.out.size _).trans (hb.mono (HD.out.alloc HD.out.size _).size))
         have HR := Lib.hid hr
         clear hr hb))
  | (go_at_call 54
     first
      | (refine (HX.out w1 g c1 HR.out).mono ?_
         rintro e w2 ⟨rfl, hb⟩
         have HB2 := Lib.hid (HB1.out.trans (hb.mono HB1.out.size))
         try (have v2 := CV.out _ _ (r1.out.below hb))
         clear hb)
      | (refine (HX.out _ g c1 (HR.out.below ((Below.refl _ w1).alloc (Nat.le_refl _) _))).mono ?_
         rintro e w2 ⟨rfl, hb⟩
         have v2 := CV.out _ _ ((L1.out w1 _).below hb)
         have HB2 := Lib.hid ((HB1.out.alloc HB1.out.size _).trans (hb.mono (HB1.out.alloc HB1.out.size _).size))
         clear hb)))
 all_goals
  go_wp2
  go_ret
  first
   | exact ⟨rfl, HB2.out⟩
   | exact ⟨rfl, HB2.out.alloc HB2.out.size _⟩
end Go.Proofs.YtdjnebgjdekmaaaGreatDoor
