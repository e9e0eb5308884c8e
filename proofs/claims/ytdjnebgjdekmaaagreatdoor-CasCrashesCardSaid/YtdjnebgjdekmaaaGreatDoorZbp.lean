/- Layer 6's example is as the document says: the helper 'lives' of its statements. -/
import Derived.Test.YtdjnebgjdekmaaaGreatDoorZbo
import Derived.Test.YtdjnebgjdekmaaaGreatDoorZba
set_option linter.unusedVariables false
set_option maxRecDepth 100000
namespace Go.Proofs.YtdjnebgjdekmaaaGreatDoor
section
open Go.RowKit Go.Shelf Go.Maps
theorem lit_key (w : World) (l : List Nat) (fz : Nat × Nat) (h : bytesN l) (hl : l.length ≤ 1000) : KeyAt (w.alloc (.cells (cellsZ (asZ l)).toArray 5 fz)) (some ⟨w.heap.size, 0, none⟩) l.length l.length l :=
 ⟨⟨lit_row w l fz h, fun e => (by cases e), Nat.le_refl _⟩, by omega, by omega⟩
theorem livSmall0 : SmallD liv0 := fun x h => by
 have : hasP ltS liv0.now x = false := rfl
 rw [this] at h
 cases h
theorem small_of {r : RD} (h : ∀ f ∈ r.files, f.data.length ≤ 90000) : SmallD r := fun x hx => by
 unfold RD.get RD.file
 rw [List.getD_eq_getElem?_getD]
 cases hg : r.files[r.num x]? with
 | none => simp
 | some f => exact h f (List.mem_of_getElem? hg)
set_option maxHeartbeats 3200000 in
theorem casLives (w : World) (hR : RootsOk w) : Calls Tryz.prog 5 #[] w fun e w' => e = .returned (.bool true) ∧ Below w.heap.size w w' := by
 have kc := fun (w : World) (C : Array Value) (n c : Nat) => Lib.run_convert_bytes_const (P := Tryz.prog) w 40 5 C n c Tryz.underlying40 Tryz.underlying5
 have HN := Lib.hid (IsD.new 1000 (by omega) w)
 have HR := Lib.hid hR
 clear hR
 go_enter Tryz.func5, Tryz.ntmps5
 go_wp2_with fail
 refine HN.out.mono ?_
 rintro e w1 ⟨rfl, own0, hz0, hD0, hb0⟩
 obtain ⟨d, hd⟩ : ∃ d, w.heap.size = d := ⟨_, rfl⟩
 have hro0 : own0 1 = 0 := hz0 _ HR.out.1
 have hF0 : Fct liv0 := hD0.fct.1
 have HO := Lib.hid (open_ok w1 w.heap.size 0 own0 (RD.fresh 1000) liv0 hD0 livSmall0 (by omega) (HR.out.below hb0) hro0 (fun p hp => by cases hp) (by decide) rfl rec0)
 have HX0 := Lib.hid (And.intro hz0 (And.intro hb0 hF0))
 rw [hd] at HO ⊢
 clear hz0 hD0 hb0 hro0 hF0 HN
 go_wp2_with fail
 refine HO.out.mono ?_
 rintro e w2 ⟨s, own1, rfl, hs1, hsb, hso, hO1, hD1⟩
 have hst : StAt w w2 d s 0 own1 liv0 := by
  have hz := HX0.out.2.1.size
  exact ⟨HX0.out.2.1.trans (hO1.toBelow HX0.out.1 hz), fun i hi => (hO1.2.1 i (by omega)).trans (HX0.out.1 i hi), hsb, hso, by omega, hD1, (HR.out.below HX0.out.2.1).only hO1 (HX0.out.1 _ HR.out.1), HR.out.1⟩
 have HST := Lib.hid hst
 clear hs1 hsb hso hO1 hD1 hst HO
 -- Put(k1, x)
 obtain ⟨v2, hv2⟩ : ∃ v2, w2.alloc (.cells #[.int .u8 107, .int .u8 49] 5 (2, 3)) = v2 := ⟨_, rfl⟩
 obtain ⟨u2, hu2⟩ : ∃ u2, v2.alloc (.cells #[.int .u8 120] 5 (1, 2)) = u2 := ⟨_, rfl⟩
 have hbv : Below w2.heap.size w2 v2 := by rw [← hv2]; exact (Below.refl _ w2).alloc (Nat.le_refl _) _
 have hbu : Below v2.heap.size v2 u2 := by rw [← hu2]; exact (Below.refl _ v2).alloc (Nat.le_refl _) _
 have hk1 : KeyAt v2 (some ⟨w2.heap.size, 0, none⟩) 2 2 [107, 49] := by rw [← hv2]; exact lit_key w2 [107, 49] (2, 3) (fun x hx => by simp only [List.mem_cons, List.not_mem_nil, or_false] at hx; omega) (by decide)
 have ha1 : RowN u2 (some ⟨v2.heap.size, 0, none⟩) 1 [120] := by rw [← hu2]; exact lit_row v2 [120] (1, 2) (fun x hx => by simp only [List.mem_cons, List.not_mem_nil, or_false] at hx; omega)
 have hbu2 : Below w2.heap.size w2 u2 := hbv.trans (hbu.mono hbv.size)
 have HP1 := Lib.hid ((HST.out.below hbu2).put livSmall0 (by omega) (c2 := 1) (hk1.below hbu) ha1 (by omega) (by omega) (by decide) (liv1_eq (k1 := [107, 49]) (a1 := [120]) rfl rfl HX0.out.2.2))
 clear hbv hbu hk1 ha1 hbu2
 go_wp2_with fail
 refine HP1.out.mono ?_
 rintro e w3 ⟨rfl, own3, hO3, hst3⟩
 have hF1 : Fct (liv1 (bytesE [107, 49] [120])) := hst3.disk.fct.1
 have hsm1 : SmallD (liv1 (bytesE [107, 49] [120])) := small_of (fun f hf => by
  rw [show (liv1 (bytesE [107, 49] [120])).files = [⟨bytesE [107, 49] [120], (bytesE [107, 49] [120]).length⟩] from rfl, List.mem_singleton] at hf
  rw [hf]
  show (bytesE [107, 49] [120]).length ≤ 90000
  rw [bytesE_length]
  decide)
 have HST3 := Lib.hid hst3
 clear hO3 hst3 HP1 hv2 hu2
 obtain ⟨v3, hv3⟩ : ∃ v3, w3.alloc (.cells #[.int .u8 107, .int .u8 50] 5 (2, 3)) = v3 := ⟨_, rfl⟩
 obtain ⟨u3, hu3⟩ : ∃ u3, v3.alloc (.cells #[.int .u8 121] 5 (1, 2)) = u3 := ⟨_, rfl⟩
 have hbv : Below w3.heap.size w3 v3 := by rw [← hv3]; exact (Below.refl _ w3).alloc (Nat.le_refl _) _
 have hbu : Below v3.heap.size v3 u3 := by rw [← hu3]; exact (Below.refl _ v3).alloc (Nat.le_refl _) _
 have hk1 : KeyAt v3 (some ⟨w3.heap.size, 0, none⟩) 2 2 [107, 50] := by rw [← hv3]; exact lit_key w3 [107, 50] (2, 3) (fun x hx => by simp only [List.mem_cons, List.not_mem_nil, or_false] at hx; omega) (by decide)
 have ha1 : RowN u3 (some ⟨v3.heap.size, 0, none⟩) 1 [121] := by rw [← hu3]; exact lit_row v3 [121] (1, 2) (fun x hx => by simp only [List.mem_cons, List.not_mem_nil, or_false] at hx; omega)
 have hbu2 : Below w3.heap.size w3 u3 := hbv.trans (hbu.mono hbv.size)
 have HP2 := Lib.hid ((HST3.out.below hbu2).put hsm1 (by omega) (c2 := 1) (hk1.below hbu) ha1 (by omega) (by omega) (by show 5 + 1 + 1 + 2 * 0 + 40 ≤ 80000; omega) (liv2_eq (k1 := [107, 49]) (a1 := [120]) (k2 := [107, 50]) (a2 := [121]) rfl rfl rfl rfl (by decide) HX0.out.2.2 hF1))
 have HF1 := Lib.hid hF1
 clear hbv hbu hk1 ha1 hbu2 hF1 hsm1
 go_wp2_with fail
 refine HP2.out.mono ?_
 rintro e w4 ⟨rfl, own4, hO4, hst4⟩
 have hsm2 : SmallD (liv2 (bytesE [107, 49] [120]) (bytesE [107, 50] [121])) := small_of (fun f hf => by
  rw [show (liv2 (bytesE [107, 49] [120]) (bytesE [107, 50] [121])).files = [⟨bytesE [107, 49] [120], (bytesE [107, 49] [120]).length⟩, ⟨bytesE [107, 50] [121], (bytesE [107, 50] [121]).length⟩] from rfl, List.mem_cons, List.mem_singleton] at hf
  rcases hf with hf | hf
  · rw [hf]
    show (bytesE [107, 49] [120]).length ≤ 90000
    rw [bytesE_length]
    decide
  · rw [hf]
    show (bytesE [107, 50] [121]).length ≤ 90000
    rw [bytesE_length]
    decide)
 have HST4 := Lib.hid hst4
 have HL := Lib.hid hst4.disk.list
 clear hO4 hst4 HP2 hv3 hu3
 rw [show (liv2 (bytesE [107, 49] [120]) (bytesE [107, 50] [121])).now = [(txt [99, 45, 45, 48], numV 0), (txt [99, 45, 45, 49], numV 1)] from rfl] at HL
 have HSM2 := Lib.hid hsm2
 clear hsm2
 go_wp2_with fail
 refine HL.out.mono ?_
 rintro e w5 ⟨⟨LA, lc, rfl, hll, hlb⟩, hb5⟩
 rw [show ([(txt [99, 45, 45, 48], numV 0), (txt [99, 45, 45, 49], numV 1)] : List (ByteArray × Value)).length = 2 from rfl] at hll ⊢
 -- Get(k1)
 have hst5 := HST4.out.below hb5
 obtain ⟨v5, hv5⟩ : ∃ v5, w5.alloc (.cells #[.int .u8 107, .int .u8 49] 5 (2, 3)) = v5 := ⟨_, rfl⟩
 have hb6 : Below w5.heap.size w5 v5 := by rw [← hv5]; exact (Below.refl _ w5).alloc (Nat.le_refl _) _
 have hk5 : KeyAt v5 (some ⟨w5.heap.size, 0, none⟩) 2 2 [107, 49] := by rw [← hv5]; exact lit_key w5 [107, 49] (2, 3) (fun x hx => by simp only [List.mem_cons, List.not_mem_nil, or_false] at hx; omega) (by decide)
 have HG1 := Lib.hid ((hst5.below hb6).get HSM2.out (by omega) hk5)
 have HST6 := Lib.hid (hst5.below hb6)
 have HLL := Lib.hid (hll.below hb6)
 have hs1 := see1 (k1 := [107, 49]) (a1 := [120]) (k2 := [107, 50]) (a2 := [121]) rfl rfl HX0.out.2.2 HF1.out
 clear hst5 hb6 hk5 hll hlb hb5 HL
 go_wp2_with fail
 refine HG1.out.mono ?_
 rintro e w6 ⟨ha, hb6⟩
 unfold GetAns at ha
 rw [hs1] at ha
 simp only at ha
 obtain ⟨A6, c6, rfl, hl6, _⟩ := ha
 have hst6 := HST6.out.below hb6
 have hll6 := HLL.out.below hb6
 clear hs1 HG1 hv5
 -- Get(k2)
 obtain ⟨v6, hv6⟩ : ∃ v6, w6.alloc (.cells #[.int .u8 107, .int .u8 50] 5 (2, 3)) = v6 := ⟨_, rfl⟩
 have hb7 : Below w6.heap.size w6 v6 := by rw [← hv6]; exact (Below.refl _ w6).alloc (Nat.le_refl _) _
 have hk6 : KeyAt v6 (some ⟨w6.heap.size, 0, none⟩) 2 2 [107, 50] := by rw [← hv6]; exact lit_key w6 [107, 50] (2, 3) (fun x hx => by simp only [List.mem_cons, List.not_mem_nil, or_false] at hx; omega) (by decide)
 have HG2 := Lib.hid ((hst6.below hb7).get HSM2.out (by omega) hk6)
 have HST7 := Lib.hid (hst6.below hb7)
 have HLL7 := Lib.hid (hll6.below hb7)
 have HL6 := Lib.hid (hl6.below hb7)
 have hs2 := see2 (k1 := [107, 49]) (a1 := [120]) (k2 := [107, 50]) (a2 := [121]) rfl rfl rfl rfl (by decide) HX0.out.2.2 HF1.out
 rw [show ([120] : List Nat).length = 1 from rfl] at HL6 ⊢
 clear hst6 hb7 hk6 hll6 hl6 hb6
 go_wp2_with fail
 refine HG2.out.mono ?_
 rintro e w8 ⟨ha, hb8⟩
 unfold GetAns at ha
 rw [hs2] at ha
 simp only at ha
 obtain ⟨A8, c8, rfl, hl8, _⟩ := ha
 rw [show ([121] : List Nat).length = 1 from rfl] at hl8 ⊢
 have hst8 := HST7.out.below hb8
 have hll8 := HLL7.out.below hb8
 have hl68 := HL6.out.below hb8
 have n1 := conv_row hl68.row c6
 have n2 := conv_row hl8.row c8
 rw [show strOfNums (asZ [120]) = ⟨#[120]⟩ from rfl] at n1
 rw [show strOfNums (asZ [121]) = ⟨#[121]⟩ from rfl] at n2
 obtain ⟨g, off, rfl, hg, hcs, _⟩ := hll8.at (by omega)
 have x0 : w8.cell? ⟨g, off, none⟩ = some (.string ⟨#[99, 45, 45, 48]⟩) := by have := hcs 0 (by omega); rw [Nat.add_zero] at this; exact this
 have x1 : w8.cell? ⟨g, off + 1, none⟩ = some (.string ⟨#[99, 45, 45, 49]⟩) := hcs 1 (by omega)
 have HON := Lib.hid hst8.on
 rw [hd] at HON
 clear hs2 HG2 hv6 hst8 hll8 hl68 hl8 hcs hb8
 go_wp2
 go_ret
 exact ⟨rfl, by rw [hd]; exact HON.out⟩
end
section
open Go.RowKit Go.Shelf
set_option maxHeartbeats 1600000 in
theorem cdrop_any (w : World) (s d dn : Nat) (own : Nat → Nat) (r : RD) (A : Option Addr) (n c : Nat) (l : List Nat) (hS : SBox w s d dn) (hos : own s = 0) (hD : IsD w d own r) (hsm : SmallD r) (hdn : dn ≤ 64) (hK : KeyAt w A n c l) (hR : RootsOk w) (hsz : r.size + 40 ≤ 80000) :
 Calls Tryz.prog 10 #[.pointer (some ⟨s, 0, none⟩), .slice A n c] w fun e w' => e = .returned (.int .i64 (dropR r l dn).1) ∧ DNext w d own (dropR r l dn).2 w' := by
 have HFI := Lib.hid (find_any w s d dn own r A n c l hS hD hsm hdn hK hR)
 have HS := Lib.hid hS
 have HD := Lib.hid hD
 have HOS := Lib.hid hos
 obtain ⟨out, hout⟩ : ∃ out, dropR r l dn = out := ⟨_, rfl⟩
 rw [hout]
 unfold dropR at hout
 clear hS hD hK hR hsm hos
 cases hf : findR r l dn with
 | none =>
  rw [hf] at hout
  simp only at hout
  have HO := Lib.hid hout
  clear hout
  go_enter Tryz.func10, Tryz.ntmps10
  go_wp2_with fail
  refine HFI.out.mono ?_
  rintro e w1 ⟨ha, hb1⟩
  unfold FindAns at ha
  rw [hf] at ha
  simp only at ha
  subst ha
  have HB1 := Lib.hid hb1
  clear hb1
  go_wp2
  go_ret
  rw [← HO.out]
  exact ⟨rfl, DNext.still HD.out HB1.out⟩
 | some sa =>
  obtain ⟨t, a⟩ := sa
  rw [hf] at hout
  simp only at hout
  have hsz4 := fileB_size l dn t hdn
  have HO := Lib.hid hout
  have HLT := Lib.hid (size_remove (r := r) (fileB l dn t))
  clear hout
  go_enter Tryz.func10, Tryz.ntmps10
  go_wp2_with fail
  refine HFI.out.mono ?_
  rintro e w1 ⟨ha, hb1⟩
  unfold FindAns at ha
  rw [hf] at ha
  simp only at ha
  obtain ⟨A1, c1, rfl, _, _⟩ := ha
  have y0 := (HS.out.below hb1).cells.1
  have hs1 : s < w1.heap.size := Nat.lt_of_lt_of_le HS.out.lt hb1.size
  have HRM := Lib.hid ((HD.out.below hb1).remove (by omega) (fileB l dn t) (by omega))
  have HB1 := Lib.hid hb1
  have HS1 := Lib.hid (And.intro hs1 (HS.out.below hb1))
  obtain ⟨q, hq⟩ : ∃ q, r.remove (fileB l dn t) = q := ⟨_, rfl⟩
  rw [hq] at HRM HO HLT
  obtain ⟨q1, q2⟩ := q
  clear hb1 hs1 hq
  generalize fileB l dn t = x at *
  go_wp2_with fail
  refine HRM.out.mono ?_
  rintro e w2 ⟨rfl, own2, hO2, hD2⟩
  have hO12 : Only own w own2 w2 := (Only.of_below own HB1.out).trans hO2
  have hsb : SBox w2 s d dn := (hO2.2.2 s HS1.out.1 HOS.out).trans HS1.out.2
  have y1 := hsb.cells.1
  have H2 := Lib.hid (And.intro hO12 hD2)
  have HSD := Lib.hid (hD2.syncDir (by have h9 : q2.size ≤ r.size + 4 := HLT.out; omega))
  by_cases h0 : q1 = 0
  · have HO' := HO.out
    rw [if_pos h0] at HO'
    have HO' := Lib.hid HO'
    subst h0
    clear hO2 hD2 hO12 HO HLT HRM HFI
    go_wp2_with fail
    refine HSD.out.mono ?_
    rintro e w3 ⟨rfl, own3, hO3, hD3⟩
    have H3 := Lib.hid (And.intro hO3 hD3)
    clear hO3 hD3
    go_wp2
    go_ret
    rw [← HO'.out]
    exact ⟨rfl, own3, H2.out.1.trans H3.out.1, H3.out.2⟩
  · have HO' := HO.out
    rw [if_neg h0] at HO'
    have HO' := Lib.hid HO'
    have h0' : (q1 == 0) = false := by simp [h0]
    clear hO2 hD2 hO12 HO HLT HRM HFI HSD
    go_wp2
    go_ret
    rw [← HO'.out]
    exact ⟨rfl, own2, H2.out.1, H2.out.2⟩
end
end Go.Proofs.YtdjnebgjdekmaaaGreatDoor
