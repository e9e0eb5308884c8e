/-
  The law's Alike: a disk and the document's tell the same of all.
-/
import Derived.Test.YtbjlikppboggmaaZbh
import Derived.Test.YtbjlikppboggmaaZbl
import Derived.Test.YtbjlikppboggmaaZaa
import Derived.Deep.Cut
import Derived.Deep.CutRange
namespace Go.Proofs.Ytbjlikppboggmaa
section
variable {P : Program} {md : Region.Mode} {ops : Array Oper} {Q : Exit → Act → World → Prop} {S : World → Prop}
/-- takeH, what is reckoned left to be reckoned. -/
theorem ty (i : Nat) (d : Tmp) {oi : Oper} {v : Value} {fuel : Nat} {listed : Array Bool} {a : Act} {w : World} (hi : ops[i]? = some oi) (hd : oi.dst = some d)
    (hy : ∀ w, S w → (execOp a.eval oi).run P w = .ok (.value v) w) (hS : S w)
    (h : wpAnyH P md ops Q S fuel (listed.setIfInBounds i true) (a.put (some d) v) w)
    (hs : Region.noSelect ops = true := by kernel_rfl) (hf : Region.free md ops listed i = true := by kernel_rfl) (hr : (Region.ready md ops listed).contains i = true := by kernel_rfl)
    (hQ : ∀ c a w, Q (.panic c) (a.put (some d) v) w → Q (.panic c) a w := by exact fun _ _ _ h => h) (hw : Region.wanted oi (yielded ops a.tmps) = true := by rfl) : wpAnyH P md ops Q S (fuel + 1) listed a w :=
  takeH i d hi hd hs hf hr hQ hw hy hS h
end
open Go.RowKit Go.Maps
set_option linter.unusedVariables false
set_option maxRecDepth 100000

theorem cellsZ_from : ∀ l : List Value, (∀ u ∈ l, ∃ z : Int, 0 ≤ z ∧ z < 256 ∧ u = .int .u8 z) → ∃ zs : List Int, l = cellsZ zs ∧ ∀ z ∈ zs, 0 ≤ z ∧ z ≤ 255 := by
  intro l
  induction l with
  | nil => intro _; exact ⟨[], rfl, fun z hz => by cases hz⟩
  | cons u l ih =>
    intro h
    obtain ⟨zs, h1, h2⟩ := ih fun v hv => h v (by simp [hv])
    obtain ⟨z, z0, z1, rfl⟩ := h u (by simp)
    refine ⟨z :: zs, by rw [h1]; rfl, fun y hy => ?_⟩
    rcases List.mem_cons.1 hy with rfl | hy
    · omega
    · exact h2 y hy
section
variable [Keep] {w0 W : World} {d x : Nat} {own ox : Nat → Nat} {r : RD}
/-- What both show: each name, its bytes, and what Read answers. -/
theorem show_at (h : Both w0 W d x own ox r) (hs : r.size ≤ 79000) :
    ∃ b FA fn fc NA nn nc, XBoxAt W x b ∧ b.files = .slice FA fn fc ∧ b.now = .slice NA nn nc ∧ b.full = r.full ∧ b.off = r.off ∧ b.calls = (r.calls : Int) ∧ r.now.length = nn ∧ nn ≤ 80000 ∧ fn ≤ fc ∧ nn ≤ nc ∧
      ∀ k, k < nn → ∃ (nm : ByteArray) (q g off gf fo : Nat) (A : Option Addr) (m c : Nat) (zs : List Int), (namesV r.now)[k]? = some (.string nm) ∧ NA = some ⟨g, off, none⟩ ∧ FA = some ⟨gf, fo, none⟩ ∧ q < fn ∧ g < W.heap.size ∧ gf < W.heap.size ∧
        W.cell? ⟨g, off + k * 2, none⟩ = some (.string nm) ∧ W.cell? ⟨g, off + k * 2 + 1, none⟩ = some (.int .i64 (q : Int)) ∧ W.cell? ⟨gf, fo + q * 2, none⟩ = some (.slice A m c) ∧ RowZ W A m zs ∧
        ∀ V, Below W.heap.size W V → Calls Try.prog 20 #[.pointer (some ⟨d, 0, none⟩), .string nm] V fun e w' => (∃ A' c', e = .returned (.tuple #[.slice A' m c', .int .i64 0]) ∧ RowZ w' A' m zs) ∧ Below V.heap.size V w' := by
  have hF := h.fct
  obtain ⟨hz, b, FA, fn, fc, NA, nn, nc, SA, sn, sc, CA, cn, cc, vs, cs, H⟩ := h.isR
  have hlen : r.now.length = nn := H.nrow.len
  have hvl : vs.length = fn := by have := H.fline.1; rw [flatF_length] at this; omega
  have hfl : vs.length = r.files.length := H.fdata.1
  refine ⟨b, FA, fn, fc, NA, nn, nc, H.box, H.files, H.now, H.full, H.off, H.calls, hlen, by have := hF.len (by omega : r.size ≤ 80000); omega, H.fline.2.1, H.nrow.line.2.1, fun k hk => ?_⟩
  obtain ⟨⟨nm, v⟩, hp⟩ : ∃ p, r.now[k]? = some p := ⟨_, List.getElem?_eq_getElem (by omega)⟩
  obtain ⟨q, hq, hqf⟩ := hF.nn _ (List.mem_of_getElem? hp)
  dsimp only at hq
  subst hq
  obtain ⟨f, hf⟩ : ∃ f, r.files[q]? = some f := ⟨_, List.getElem?_eq_getElem hqf⟩
  obtain ⟨u, hu⟩ : ∃ u, vs[q]? = some u := ⟨_, List.getElem?_eq_getElem (by omega)⟩
  obtain ⟨hs, A, c, hu1, hl, _⟩ := H.fdata.2 q u f hu hf
  obtain ⟨g, off, eN, hg, hgc, _⟩ := H.nrow.line.at (by omega)
  obtain ⟨gf, fo, eF, hgf, hfc, _⟩ := H.fline.at (by omega)
  obtain ⟨p1, p2⟩ := cellsP_at encS r.now k _ hp
  obtain ⟨s1, _⟩ := flatF_at vs q _ hu
  have hlook := look_here hF.rn hp
  have hhas : hasP ltS r.now nm = true := by unfold hasP; rw [hlook]; rfl
  have hget : r.get nm = f := by
    unfold RD.get RD.num RD.file
    rw [hlook]
    show r.files.getD (numOf (numV q)) _ = f
    rw [numOf_numV, List.getD_eq_getElem?_getD, hf]
    rfl
  obtain ⟨b1, b2, b3⟩ := h.isD.bytes nm hhas
  rw [hget] at b1
  obtain ⟨zs, hzs, hz1⟩ := cellsZ_from _ b1
  have hm : f.data.length = zs.length := by rw [hzs, cellsZ_length]
  refine ⟨nm, q, g, off, gf, fo, A, f.data.length, c, zs, ?_, eN, eF, by omega, hg, hgf, ?_, ?_, ?_, ?_, fun V hV => ?_⟩
  · unfold namesV; rw [List.getElem?_map, hp]; rfl
  · rw [hgc (k * 2) (by omega)]; exact p1
  · rw [Nat.add_assoc, hgc (k * 2 + 1) (by omega)]; exact p2
  · rw [hfc (q * 2) (by omega), s1, hu1]
  · rw [hzs] at hl ⊢
    exact hl.toRowZ hz1
  · have hr := (h.half.below hV).isD.read_yes nm hhas
    rw [hget] at hr
    refine hr.mono ?_
    rintro e w' ⟨⟨A', c', rfl, hl', _⟩, hB⟩
    refine ⟨⟨A', c', rfl, ?_⟩, hB⟩
    rw [hzs] at hl' ⊢
    exact hl'.toRowZ hz1
set_option maxHeartbeats 6400000 in
theorem alike_any (h : Both w0 W d x own ox r) (hs : r.size ≤ 79000) :
    Calls Try.prog 11 #[.pointer (some ⟨d, 0, none⟩), .pointer (some ⟨x, 0, none⟩)] W fun e w' => e = .returned (.bool true) ∧ Below W.heap.size W w' := by
  obtain ⟨b, FA, fn, fc, NA, nn, nc, hbox, hbf, hbn, hbfu, hbo, hbc, hlen, hn80, hfc, hnc, hrow⟩ := show_at h hs
  have hF := h.fct
  have hLI := h.isD.list
  rw [hlen] at hLI
  have HLI := Lib.hid hLI
  have HROW := Lib.hid hrow
  obtain ⟨names, hnames⟩ : ∃ names, namesV r.now = names := ⟨_, rfl⟩
  rw [hnames] at HLI HROW
  obtain ⟨full, hfull⟩ : ∃ full, r.full = full := ⟨_, rfl⟩
  obtain ⟨off, hoff⟩ : ∃ off, r.off = off := ⟨_, rfl⟩
  obtain ⟨cal, hcal⟩ : ∃ cal, r.calls = cal := ⟨_, rfl⟩
  obtain ⟨U, hU⟩ : ∃ U, r.used = U := ⟨_, rfl⟩
  have HU0 := Lib.hid (fun (V : World) (hV : Below W.heap.size W V) => (h.half.below hV).isD.isUsed)
  have HUX0 := Lib.hid (fun (V : World) (hV : Below W.heap.size W V) => (h.half.below hV).isR.isUsed hF (by omega))
  have HFU0 := Lib.hid (fun (V : World) (hV : Below W.heap.size W V) => (h.half.below hV).isD.isFull)
  have HOF0 := Lib.hid (fun (V : World) (hV : Below W.heap.size W V) => (h.half.below hV).isD.isOff)
  have HCA0 := Lib.hid (fun (V : World) (hV : Below W.heap.size W V) => (h.half.below hV).isD.allCalls)
  rw [hU] at HU0 HUX0
  rw [hfull] at HFU0 hbfu
  rw [hoff] at HOF0 hbo
  rw [hcal] at HCA0 hbc
  have HBX0 := Lib.hid hbox
  have HBF : Hid (b.cells[1]? = some (.slice NA nn nc) ∧ b.cells[5]? = some (.bool full) ∧ b.cells[6]? = some (.bool off) ∧ b.cells[8]? = some (.int .i64 (cal : Int))) := Lib.hid ⟨by show some b.now = _; rw [hbn], by show some (Value.bool b.full) = _; rw [hbfu], by show some (Value.bool b.off) = _; rw [hbo], by show some (Value.int .i64 b.calls) = _; rw [hbc]⟩
  have HB0 : Hid (b.cells[0]? = some (.slice FA fn fc)) := Lib.hid (by show some b.files = _; rw [hbf])
  clear h hs hF hLI hrow hnames hfull hoff hcal hU hbox hbf hbn hbfu hbo hbc hlen
  go_enter Try.func11, Try.ntmps11
  go_wp2_with fail
  refine HLI.out.mono ?_
  rintro e w1 ⟨⟨A1, c1, rfl, hl1, hf1⟩, hB1⟩
  have HL1 := Lib.hid (And.intro hl1 hB1)
  have HBX : Hid (XBoxAt w1 x b) := Lib.hid (HBX0.out.below hB1)
  have HU : Hid (∀ V, Below w1.heap.size w1 V → _) := Lib.hid (fun V hV => HU0.out V (hB1.trans (hV.mono hB1.size)))
  have HUX : Hid (∀ V, Below w1.heap.size w1 V → _) := Lib.hid (fun V hV => HUX0.out V (hB1.trans (hV.mono hB1.size)))
  have HFU : Hid (∀ V, Below w1.heap.size w1 V → _) := Lib.hid (fun V hV => HFU0.out V (hB1.trans (hV.mono hB1.size)))
  have HOF : Hid (∀ V, Below w1.heap.size w1 V → _) := Lib.hid (fun V hV => HOF0.out V (hB1.trans (hV.mono hB1.size)))
  have HCA : Hid (∀ V, Below w1.heap.size w1 V → _) := Lib.hid (fun V hV => HCA0.out V (hB1.trans (hV.mono hB1.size)))
  have HON1 : Hid (Below w1.heap.size w1 w1.drew) := Lib.hid (Below.refl _ w1).drew
  have HS1 : Hid (XBoxAt w1.drew x b) := Lib.hid (HBX.out.below (Below.refl _ w1).drew)
  clear hl1 hf1 hB1 HU0 HUX0 HFU0 HOF0 HCA0 HLI HBX0
  go_upto_region 2 with fail
  refine wp_region_held_drew (S := fun V => XBoxAt V x b) (by kernel_rfl) HS1.out (fun _ => ?_)
  refine ty 0 12 (v := (.slice A1 nn c1)) rfl rfl ?_ HS1.out ?_
  · intro w hSw
    go_simp
  simp only [Act.put, List.setIfInBounds_toArray, List.set_cons_zero, List.set_cons_succ]
  refine ty 1 13 (v := (.int .i64 (nn : Int))) rfl rfl ?_ HS1.out ?_
  · intro w hSw
    go_simp
  simp only [Act.put, List.setIfInBounds_toArray, List.set_cons_zero, List.set_cons_succ]
  refine ty 2 14 (v := (.pointer (some ⟨x, 0, none⟩))) rfl rfl ?_ HS1.out ?_
  · intro w hSw
    go_simp
  simp only [Act.put, List.setIfInBounds_toArray, List.set_cons_zero, List.set_cons_succ]
  refine ty 3 15 (v := (.pointer (some ⟨x, 0, none⟩))) rfl rfl ?_ HS1.out ?_
  · intro w hSw
    go_simp
  simp only [Act.put, List.setIfInBounds_toArray, List.set_cons_zero, List.set_cons_succ]
  refine ty 4 16 (v := (.pointer (some ⟨x, 1, none⟩))) rfl rfl ?_ HS1.out ?_
  · intro w hSw
    go_simp
  simp only [Act.put, List.setIfInBounds_toArray, List.set_cons_zero, List.set_cons_succ]
  refine ty 5 17 (v := (.slice NA nn nc)) rfl rfl ?_ HS1.out ?_
  · intro w hSw
    have x1 := hSw.cell 1 _ (HBF.out.1)
    have x5 := hSw.cell 5 _ (HBF.out.2.1)
    have x6 := hSw.cell 6 _ (HBF.out.2.2.1)
    have x8 := hSw.cell 8 _ (HBF.out.2.2.2)
    go_simp
  simp only [Act.put, List.setIfInBounds_toArray, List.set_cons_zero, List.set_cons_succ]
  refine ty 6 18 (v := (.int .i64 (nn : Int))) rfl rfl ?_ HS1.out ?_
  · intro w hSw
    go_simp
  simp only [Act.put, List.setIfInBounds_toArray, List.set_cons_zero, List.set_cons_succ]
  refine ty 7 19 (v := (.bool false)) rfl rfl ?_ HS1.out ?_
  · intro w hSw
    go_simp
  simp only [Act.put, List.setIfInBounds_toArray, List.set_cons_zero, List.set_cons_succ]
  refine ty 8 20 (v := (.bool false)) rfl rfl ?_ HS1.out ?_
  · intro w hSw
    go_simp
  simp only [Act.put, List.setIfInBounds_toArray, List.set_cons_zero, List.set_cons_succ]
  refine ty 9 21 (v := (.pointer (some ⟨d, 0, none⟩))) rfl rfl ?_ HS1.out ?_
  · intro w hSw
    go_simp
  simp only [Act.put, List.setIfInBounds_toArray, List.set_cons_zero, List.set_cons_succ]
  refine ty 11 23 (v := (.pointer (some ⟨x, 0, none⟩))) rfl rfl ?_ HS1.out ?_
  · intro w hSw
    go_simp
  simp only [Act.put, List.setIfInBounds_toArray, List.set_cons_zero, List.set_cons_succ]
  refine wpAnyH_ready (rs := [10]) (by kernel_rfl) (by simp) ?_
  refine AllReadyH.cons rfl (fun K hK => ?_) AllReadyH.nil
  go_simp
  go_at_call 30
  with_reducible refine (HU.out _ HON1.out).mono ?_
  rintro e wq2 ⟨rfl, hb2⟩
  have HON2 := Lib.hid (HON1.out.trans (hb2.mono HON1.out.size))
  have HS2 : Hid (XBoxAt wq2 x b) := Lib.hid (HBX.out.below HON2.out)
  clear hb2
  refine hK.out _ _ HS2.out (fun _ => ?_)
  clear hK K
  try simp only [Act.put, List.setIfInBounds_toArray, List.set_cons_zero, List.set_cons_succ]
  refine wpAnyH_ready (rs := [12]) (by kernel_rfl) (by simp) ?_
  refine AllReadyH.cons rfl (fun K hK => ?_) AllReadyH.nil
  go_simp
  go_at_call 38
  with_reducible refine (HUX.out _ HON2.out).mono ?_
  rintro e wq3 ⟨rfl, hb3⟩
  have HON3 := Lib.hid (HON2.out.trans (hb3.mono HON2.out.size))
  have HS3 : Hid (XBoxAt wq3 x b) := Lib.hid (HBX.out.below HON3.out)
  clear hb3
  refine hK.out _ _ HS3.out (fun _ => ?_)
  clear hK K
  try simp only [Act.put, List.setIfInBounds_toArray, List.set_cons_zero, List.set_cons_succ]
  refine ty 13 25 (v := (.bool false)) rfl rfl ?_ HS3.out ?_
  · intro w hSw
    go_simp
  simp only [Act.put, List.setIfInBounds_toArray, List.set_cons_zero, List.set_cons_succ]
  refine ty 14 26 (v := (.bool false)) rfl rfl ?_ HS3.out ?_
  · intro w hSw
    go_simp
  simp only [Act.put, List.setIfInBounds_toArray, List.set_cons_zero, List.set_cons_succ]
  refine ty 15 27 (v := (.bool false)) rfl rfl ?_ HS3.out ?_
  · intro w hSw
    go_simp
  simp only [Act.put, List.setIfInBounds_toArray, List.set_cons_zero, List.set_cons_succ]
  refine ty 16 28 (v := (.pointer (some ⟨d, 0, none⟩))) rfl rfl ?_ HS3.out ?_
  · intro w hSw
    go_simp
  simp only [Act.put, List.setIfInBounds_toArray, List.set_cons_zero, List.set_cons_succ]
  refine ty 18 30 (v := (.pointer (some ⟨x, 0, none⟩))) rfl rfl ?_ HS3.out ?_
  · intro w hSw
    go_simp
  simp only [Act.put, List.setIfInBounds_toArray, List.set_cons_zero, List.set_cons_succ]
  refine ty 19 31 (v := (.pointer (some ⟨x, 0, none⟩))) rfl rfl ?_ HS3.out ?_
  · intro w hSw
    go_simp
  simp only [Act.put, List.setIfInBounds_toArray, List.set_cons_zero, List.set_cons_succ]
  refine ty 20 32 (v := (.pointer (some ⟨x, 5, none⟩))) rfl rfl ?_ HS3.out ?_
  · intro w hSw
    go_simp
  simp only [Act.put, List.setIfInBounds_toArray, List.set_cons_zero, List.set_cons_succ]
  refine ty 21 33 (v := (.bool full)) rfl rfl ?_ HS3.out ?_
  · intro w hSw
    have x1 := hSw.cell 1 _ (HBF.out.1)
    have x5 := hSw.cell 5 _ (HBF.out.2.1)
    have x6 := hSw.cell 6 _ (HBF.out.2.2.1)
    have x8 := hSw.cell 8 _ (HBF.out.2.2.2)
    go_simp
  simp only [Act.put, List.setIfInBounds_toArray, List.set_cons_zero, List.set_cons_succ]
  refine wpAnyH_ready (rs := [17]) (by kernel_rfl) (by simp) ?_
  refine AllReadyH.cons rfl (fun K hK => ?_) AllReadyH.nil
  go_simp
  go_at_call 23
  with_reducible refine (HFU.out _ HON3.out).mono ?_
  rintro e wq4 ⟨rfl, hb4⟩
  have HON4 : Hid (Below w1.heap.size w1 wq4) := Lib.hid (by rw [← hb4]; exact HON3.out)
  have HS4 : Hid (XBoxAt wq4 x b) := Lib.hid (HBX.out.below HON4.out)
  clear hb4
  refine hK.out _ _ HS4.out (fun _ => ?_)
  clear hK K
  try simp only [Act.put, List.setIfInBounds_toArray, List.set_cons_zero, List.set_cons_succ]
  refine ty 22 34 (v := (.bool false)) rfl rfl ?_ HS4.out ?_
  · intro w hSw
    go_simp
  simp only [Act.put, List.setIfInBounds_toArray, List.set_cons_zero, List.set_cons_succ]
  refine ty 23 35 (v := (.bool false)) rfl rfl ?_ HS4.out ?_
  · intro w hSw
    go_simp
  simp only [Act.put, List.setIfInBounds_toArray, List.set_cons_zero, List.set_cons_succ]
  refine ty 24 36 (v := (.bool false)) rfl rfl ?_ HS4.out ?_
  · intro w hSw
    go_simp
  simp only [Act.put, List.setIfInBounds_toArray, List.set_cons_zero, List.set_cons_succ]
  refine ty 25 37 (v := (.pointer (some ⟨d, 0, none⟩))) rfl rfl ?_ HS4.out ?_
  · intro w hSw
    go_simp
  simp only [Act.put, List.setIfInBounds_toArray, List.set_cons_zero, List.set_cons_succ]
  refine ty 27 39 (v := (.pointer (some ⟨x, 0, none⟩))) rfl rfl ?_ HS4.out ?_
  · intro w hSw
    go_simp
  simp only [Act.put, List.setIfInBounds_toArray, List.set_cons_zero, List.set_cons_succ]
  refine ty 28 40 (v := (.pointer (some ⟨x, 0, none⟩))) rfl rfl ?_ HS4.out ?_
  · intro w hSw
    go_simp
  simp only [Act.put, List.setIfInBounds_toArray, List.set_cons_zero, List.set_cons_succ]
  refine ty 29 41 (v := (.pointer (some ⟨x, 6, none⟩))) rfl rfl ?_ HS4.out ?_
  · intro w hSw
    go_simp
  simp only [Act.put, List.setIfInBounds_toArray, List.set_cons_zero, List.set_cons_succ]
  refine ty 30 42 (v := (.bool off)) rfl rfl ?_ HS4.out ?_
  · intro w hSw
    have x1 := hSw.cell 1 _ (HBF.out.1)
    have x5 := hSw.cell 5 _ (HBF.out.2.1)
    have x6 := hSw.cell 6 _ (HBF.out.2.2.1)
    have x8 := hSw.cell 8 _ (HBF.out.2.2.2)
    go_simp
  simp only [Act.put, List.setIfInBounds_toArray, List.set_cons_zero, List.set_cons_succ]
  refine wpAnyH_ready (rs := [26]) (by kernel_rfl) (by simp) ?_
  refine AllReadyH.cons rfl (fun K hK => ?_) AllReadyH.nil
  go_simp
  go_at_call 22
  with_reducible refine (HOF.out _ HON4.out).mono ?_
  rintro e wq5 ⟨rfl, hb5⟩
  have HON5 : Hid (Below w1.heap.size w1 wq5) := Lib.hid (by rw [← hb5]; exact HON4.out)
  have HS5 : Hid (XBoxAt wq5 x b) := Lib.hid (HBX.out.below HON5.out)
  clear hb5
  refine hK.out _ _ HS5.out (fun _ => ?_)
  clear hK K
  try simp only [Act.put, List.setIfInBounds_toArray, List.set_cons_zero, List.set_cons_succ]
  refine ty 31 43 (v := (.bool false)) rfl rfl ?_ HS5.out ?_
  · intro w hSw
    go_simp
  simp only [Act.put, List.setIfInBounds_toArray, List.set_cons_zero, List.set_cons_succ]
  refine ty 32 44 (v := (.bool false)) rfl rfl ?_ HS5.out ?_
  · intro w hSw
    go_simp
  simp only [Act.put, List.setIfInBounds_toArray, List.set_cons_zero, List.set_cons_succ]
  refine ty 33 45 (v := (.bool false)) rfl rfl ?_ HS5.out ?_
  · intro w hSw
    go_simp
  simp only [Act.put, List.setIfInBounds_toArray, List.set_cons_zero, List.set_cons_succ]
  refine ty 34 46 (v := (.pointer (some ⟨d, 0, none⟩))) rfl rfl ?_ HS5.out ?_
  · intro w hSw
    go_simp
  simp only [Act.put, List.setIfInBounds_toArray, List.set_cons_zero, List.set_cons_succ]
  refine ty 36 48 (v := (.pointer (some ⟨x, 0, none⟩))) rfl rfl ?_ HS5.out ?_
  · intro w hSw
    go_simp
  simp only [Act.put, List.setIfInBounds_toArray, List.set_cons_zero, List.set_cons_succ]
  refine ty 37 49 (v := (.pointer (some ⟨x, 0, none⟩))) rfl rfl ?_ HS5.out ?_
  · intro w hSw
    go_simp
  simp only [Act.put, List.setIfInBounds_toArray, List.set_cons_zero, List.set_cons_succ]
  refine ty 38 50 (v := (.pointer (some ⟨x, 8, none⟩))) rfl rfl ?_ HS5.out ?_
  · intro w hSw
    go_simp
  simp only [Act.put, List.setIfInBounds_toArray, List.set_cons_zero, List.set_cons_succ]
  refine ty 39 51 (v := (.int .i64 (cal : Int))) rfl rfl ?_ HS5.out ?_
  · intro w hSw
    have x1 := hSw.cell 1 _ (HBF.out.1)
    have x5 := hSw.cell 5 _ (HBF.out.2.1)
    have x6 := hSw.cell 6 _ (HBF.out.2.2.1)
    have x8 := hSw.cell 8 _ (HBF.out.2.2.2)
    go_simp
  simp only [Act.put, List.setIfInBounds_toArray, List.set_cons_zero, List.set_cons_succ]
  refine wpAnyH_ready (rs := [35]) (by kernel_rfl) (by simp) ?_
  refine AllReadyH.cons rfl (fun K hK => ?_) AllReadyH.nil
  go_simp
  go_at_call 31
  with_reducible refine (HCA.out _ HON5.out).mono ?_
  rintro e wq6 ⟨rfl, hb6⟩
  have HON6 : Hid (Below w1.heap.size w1 wq6) := Lib.hid (by rw [← hb6]; exact HON5.out)
  have HS6 : Hid (XBoxAt wq6 x b) := Lib.hid (HBX.out.below HON6.out)
  clear hb6
  refine hK.out _ _ HS6.out (fun _ => ?_)
  clear hK K
  try simp only [Act.put, List.setIfInBounds_toArray, List.set_cons_zero, List.set_cons_succ]
  refine ty 40 52 (v := (.bool false)) rfl rfl ?_ HS6.out ?_
  · intro w hSw
    go_simp
  simp only [Act.put, List.setIfInBounds_toArray, List.set_cons_zero, List.set_cons_succ]
  refine ty 41 53 (v := (.bool false)) rfl rfl ?_ HS6.out ?_
  · intro w hSw
    go_simp
  simp only [Act.put, List.setIfInBounds_toArray, List.set_cons_zero, List.set_cons_succ]
  refine wpAnyH_done (by kernel_rfl) ?_ _
  have x1 := HS6.out.cell 1 _ HBF.out.1
  clear HU HUX HFU HOF HCA
  go_wp2_with fail
  have HWt := Lib.hid (HL1.out.2.trans (HON6.out.mono HL1.out.2.size))
  have HIN0 : Hid (Below wq6.heap.size wq6 wq6) := Lib.hid (Below.refl _ _)
  go_loopg [59] (nn + 1) (fun kx i wq => ∃ k : Nat, i = .int .i64 k ∧ k ≤ nn ∧ Hid (Below wq6.heap.size wq6 wq) ∧ nn - k + 1 ≤ kx)
  case atStart => exact ⟨0, rfl, Nat.zero_le _, HIN0, Nat.le_refl _⟩
  case round =>
    clear HIN0 x1
    obtain ⟨k, rfl, hk, HQ, hm⟩ := hrel
    by_cases hlt : k < nn
    · obtain ⟨nm, q, g2, off2, gf, fo, A6, m6, c6, zs, hnm, rfl, rfl, hq, hg2, hgf, z0, z1, z2, hz, hread⟩ := HROW.out k hlt
      have hBW := HWt.out.trans (HQ.out.mono HWt.out.size)
      have u0 : wr.cell? ⟨g2, off2 + k * 2, none⟩ = some (.string nm) := (hBW.cell (p := ⟨g2, off2 + k * 2, none⟩) hg2).trans z0
      have u1 : wr.cell? ⟨g2, off2 + k * 2 + 1, none⟩ = some (.int .i64 (q : Int)) := (hBW.cell (p := ⟨g2, off2 + k * 2 + 1, none⟩) hg2).trans z1
      obtain ⟨g1, o1, rfl, hg1, hcs1, _⟩ := HL1.out.1.at (by omega)
      have hl1 := (hcs1 k (by omega)).trans hnm
      have hcc1 := HL1.out.1.2.1
      obtain ⟨Wa, hWa⟩ : ∃ Wa, wr.alloc (.cells #[.string nm, .int .i64 (q : Int)] 79) = Wa := ⟨_, rfl⟩
      have hBa : Below wr.heap.size wr Wa := by rw [← hWa]; exact (Below.refl _ wr).alloc (Nat.le_refl _) _
      have hva : Wa.heap[wr.heap.size]? = some (.cells #[.string nm, .int .i64 (q : Int)] 79 (0, 0)) := by rw [← hWa]; exact heap_alloc_new wr _
      have HBa := Lib.hid (HQ.out.trans (hBa.mono HQ.out.size))
      have HBWa := Lib.hid (hBW.trans (hBa.mono hBW.size))
      have HRD := Lib.hid (hread Wa HBWa.out)
      obtain ⟨va, hvae⟩ : ∃ va, wr.heap.size = va := ⟨_, rfl⟩
      rw [hvae] at hva
      have v0 : Wa.cell? ⟨va, 0, none⟩ = some (.string nm) := by rw [cell_of_row _ va 0 _ _ (0, 0) hva]; rfl
      have v1 : Wa.cell? ⟨va, 1, none⟩ = some (.int .i64 (q : Int)) := by rw [cell_of_row _ va 1 _ _ (0, 0) hva]; rfl
      have hval : va < Wa.heap.size := lt_of_block hva
      have hlt' : (k : Int) < (nn : Int) := by omega
      have hk0 : (0 : Int) ≤ (k : Int) := by omega
      have hq' : (q : Int) < (fn : Int) := by omega
      have hq0 : (0 : Int) ≤ (q : Int) := by omega
      have HZ := Lib.hid (And.intro hz (And.intro z2 (And.intro hgf (And.intro hg1 hl1))))
      clear hread hz z0 z1 z2 hBa hva hq hg2 hgf hBW hg1 hcs1 hl1 hnm
      go_wp2_with fail
      refine HRD.out.mono ?_
      rintro e w6 ⟨⟨A7, c7, rfl, hz7⟩, hB6⟩
      have hB7 := HBa.out.trans (hB6.mono HBa.out.size)
      have hBW7 := HBWa.out.trans (hB6.mono HBWa.out.size)
      have hON7 := HON6.out.trans (hB7.mono HON6.out.size)
      have HB7 := Lib.hid hB7
      have HS6 : Hid (w6.cell? ⟨g1, o1 + k, none⟩ = some (.string nm) ∧ w6.cell? ⟨va, 0, none⟩ = some (.string nm) ∧ w6.cell? ⟨va, 1, none⟩ = some (.int .i64 (q : Int)) ∧ w6.cell? ⟨x, 0, none⟩ = some (.slice (some ⟨gf, fo, none⟩) fn fc) ∧ w6.cell? ⟨gf, fo + q * 2, none⟩ = some (.slice A6 m6 c6) ∧ RowZ w6 A7 m6 zs ∧ RowZ w6 A6 m6 zs) :=
        Lib.hid ⟨(hON7.cell (p := ⟨g1, o1 + k, none⟩) HZ.out.2.2.2.1).trans HZ.out.2.2.2.2, (hB6.cell (p := ⟨va, 0, none⟩) hval).trans v0, (hB6.cell (p := ⟨va, 1, none⟩) hval).trans v1, (HBX.out.below hON7).cell 0 _ HB0.out, (hBW7.cell (p := ⟨gf, fo + q * 2, none⟩) HZ.out.2.2.1).trans HZ.out.2.1, hz7, HZ.out.1.below hBW7⟩
      clear hz7 hB6 hB7 hBW7 hON7 HZ HRD u0 u1 v0 v1
      obtain ⟨ss, hss⟩ : ∃ ss, strOfNums zs = ss := ⟨_, rfl⟩
      go_upto_region 8 with fail
      refine wp_region_held_drew (S := fun V => V.cell? ⟨g1, o1 + k, none⟩ = some (.string nm) ∧ V.cell? ⟨va, 0, none⟩ = some (.string nm) ∧ V.cell? ⟨va, 1, none⟩ = some (.int .i64 (q : Int)) ∧ V.cell? ⟨x, 0, none⟩ = some (.slice (some ⟨gf, fo, none⟩) fn fc) ∧ V.cell? ⟨gf, fo + q * 2, none⟩ = some (.slice A6 m6 c6) ∧ RowZ V A7 m6 zs ∧ RowZ V A6 m6 zs) (by kernel_rfl) HS6.out (fun _ => ?_)
      refine ty 0 71 (v := (.slice (some ⟨g1, o1, none⟩) nn c1)) rfl rfl ?_ HS6.out ?_
      · intro w hSw
        obtain ⟨s0, s1, s2, s3, s4, s5, s6⟩ := hSw
        have k1 := conv_row s5 c7
        have k2 := conv_row s6 c6
        rw [hss] at k1 k2
        go_simp
      simp only [Act.put, List.setIfInBounds_toArray, List.set_cons_zero, List.set_cons_succ]
      refine ty 1 72 (v := (.int .i64 (k : Int))) rfl rfl ?_ HS6.out ?_
      · intro w hSw
        obtain ⟨s0, s1, s2, s3, s4, s5, s6⟩ := hSw
        have k1 := conv_row s5 c7
        have k2 := conv_row s6 c6
        rw [hss] at k1 k2
        go_simp
      simp only [Act.put, List.setIfInBounds_toArray, List.set_cons_zero, List.set_cons_succ]
      refine ty 2 73 (v := (.pointer (some ⟨g1, o1 + k, none⟩))) rfl rfl ?_ HS6.out ?_
      · intro w hSw
        obtain ⟨s0, s1, s2, s3, s4, s5, s6⟩ := hSw
        have k1 := conv_row s5 c7
        have k2 := conv_row s6 c6
        rw [hss] at k1 k2
        go_simp
      simp only [Act.put, List.setIfInBounds_toArray, List.set_cons_zero, List.set_cons_succ]
      refine ty 3 74 (v := (.string nm)) rfl rfl ?_ HS6.out ?_
      · intro w hSw
        obtain ⟨s0, s1, s2, s3, s4, s5, s6⟩ := hSw
        have k1 := conv_row s5 c7
        have k2 := conv_row s6 c6
        rw [hss] at k1 k2
        go_simp
      simp only [Act.put, List.setIfInBounds_toArray, List.set_cons_zero, List.set_cons_succ]
      refine ty 4 75 (v := (.pointer (some ⟨va, 0, none⟩))) rfl rfl ?_ HS6.out ?_
      · intro w hSw
        obtain ⟨s0, s1, s2, s3, s4, s5, s6⟩ := hSw
        have k1 := conv_row s5 c7
        have k2 := conv_row s6 c6
        rw [hss] at k1 k2
        go_simp
      simp only [Act.put, List.setIfInBounds_toArray, List.set_cons_zero, List.set_cons_succ]
      refine ty 5 76 (v := (.string nm)) rfl rfl ?_ HS6.out ?_
      · intro w hSw
        obtain ⟨s0, s1, s2, s3, s4, s5, s6⟩ := hSw
        have k1 := conv_row s5 c7
        have k2 := conv_row s6 c6
        rw [hss] at k1 k2
        go_simp
      simp only [Act.put, List.setIfInBounds_toArray, List.set_cons_zero, List.set_cons_succ]
      refine ty 6 77 (v := (.bool false)) rfl rfl ?_ HS6.out ?_
      · intro w hSw
        obtain ⟨s0, s1, s2, s3, s4, s5, s6⟩ := hSw
        have k1 := conv_row s5 c7
        have k2 := conv_row s6 c6
        rw [hss] at k1 k2
        go_simp
      simp only [Act.put, List.setIfInBounds_toArray, List.set_cons_zero, List.set_cons_succ]
      refine ty 7 78 (v := (.bool false)) rfl rfl ?_ HS6.out ?_
      · intro w hSw
        obtain ⟨s0, s1, s2, s3, s4, s5, s6⟩ := hSw
        have k1 := conv_row s5 c7
        have k2 := conv_row s6 c6
        rw [hss] at k1 k2
        go_simp
      simp only [Act.put, List.setIfInBounds_toArray, List.set_cons_zero, List.set_cons_succ]
      refine ty 8 79 (v := (.int .i64 0)) rfl rfl ?_ HS6.out ?_
      · intro w hSw
        obtain ⟨s0, s1, s2, s3, s4, s5, s6⟩ := hSw
        have k1 := conv_row s5 c7
        have k2 := conv_row s6 c6
        rw [hss] at k1 k2
        go_simp
      simp only [Act.put, List.setIfInBounds_toArray, List.set_cons_zero, List.set_cons_succ]
      refine ty 9 80 (v := (.bool false)) rfl rfl ?_ HS6.out ?_
      · intro w hSw
        obtain ⟨s0, s1, s2, s3, s4, s5, s6⟩ := hSw
        have k1 := conv_row s5 c7
        have k2 := conv_row s6 c6
        rw [hss] at k1 k2
        go_simp
      simp only [Act.put, List.setIfInBounds_toArray, List.set_cons_zero, List.set_cons_succ]
      refine ty 10 81 (v := (.bool false)) rfl rfl ?_ HS6.out ?_
      · intro w hSw
        obtain ⟨s0, s1, s2, s3, s4, s5, s6⟩ := hSw
        have k1 := conv_row s5 c7
        have k2 := conv_row s6 c6
        rw [hss] at k1 k2
        go_simp
      simp only [Act.put, List.setIfInBounds_toArray, List.set_cons_zero, List.set_cons_succ]
      refine ty 11 82 (v := (.bool false)) rfl rfl ?_ HS6.out ?_
      · intro w hSw
        obtain ⟨s0, s1, s2, s3, s4, s5, s6⟩ := hSw
        have k1 := conv_row s5 c7
        have k2 := conv_row s6 c6
        rw [hss] at k1 k2
        go_simp
      simp only [Act.put, List.setIfInBounds_toArray, List.set_cons_zero, List.set_cons_succ]
      refine ty 12 83 (v := (.slice A7 m6 c7)) rfl rfl ?_ HS6.out ?_
      · intro w hSw
        obtain ⟨s0, s1, s2, s3, s4, s5, s6⟩ := hSw
        have k1 := conv_row s5 c7
        have k2 := conv_row s6 c6
        rw [hss] at k1 k2
        go_simp
      simp only [Act.put, List.setIfInBounds_toArray, List.set_cons_zero, List.set_cons_succ]
      refine ty 13 84 (v := (.string ss)) rfl rfl ?_ HS6.out ?_
      · intro w hSw
        obtain ⟨s0, s1, s2, s3, s4, s5, s6⟩ := hSw
        have k1 := conv_row s5 c7
        have k2 := conv_row s6 c6
        rw [hss] at k1 k2
        go_simp
      simp only [Act.put, List.setIfInBounds_toArray, List.set_cons_zero, List.set_cons_succ]
      refine ty 14 85 (v := (.pointer (some ⟨x, 0, none⟩))) rfl rfl ?_ HS6.out ?_
      · intro w hSw
        obtain ⟨s0, s1, s2, s3, s4, s5, s6⟩ := hSw
        have k1 := conv_row s5 c7
        have k2 := conv_row s6 c6
        rw [hss] at k1 k2
        go_simp
      simp only [Act.put, List.setIfInBounds_toArray, List.set_cons_zero, List.set_cons_succ]
      refine ty 15 86 (v := (.pointer (some ⟨x, 0, none⟩))) rfl rfl ?_ HS6.out ?_
      · intro w hSw
        obtain ⟨s0, s1, s2, s3, s4, s5, s6⟩ := hSw
        have k1 := conv_row s5 c7
        have k2 := conv_row s6 c6
        rw [hss] at k1 k2
        go_simp
      simp only [Act.put, List.setIfInBounds_toArray, List.set_cons_zero, List.set_cons_succ]
      refine ty 16 87 (v := (.pointer (some ⟨x, 0, none⟩))) rfl rfl ?_ HS6.out ?_
      · intro w hSw
        obtain ⟨s0, s1, s2, s3, s4, s5, s6⟩ := hSw
        have k1 := conv_row s5 c7
        have k2 := conv_row s6 c6
        rw [hss] at k1 k2
        go_simp
      simp only [Act.put, List.setIfInBounds_toArray, List.set_cons_zero, List.set_cons_succ]
      refine ty 17 88 (v := (.slice (some ⟨gf, fo, none⟩) fn fc)) rfl rfl ?_ HS6.out ?_
      · intro w hSw
        obtain ⟨s0, s1, s2, s3, s4, s5, s6⟩ := hSw
        have k1 := conv_row s5 c7
        have k2 := conv_row s6 c6
        rw [hss] at k1 k2
        go_simp
      simp only [Act.put, List.setIfInBounds_toArray, List.set_cons_zero, List.set_cons_succ]
      refine ty 18 89 (v := (.pointer (some ⟨va, 1, none⟩))) rfl rfl ?_ HS6.out ?_
      · intro w hSw
        obtain ⟨s0, s1, s2, s3, s4, s5, s6⟩ := hSw
        have k1 := conv_row s5 c7
        have k2 := conv_row s6 c6
        rw [hss] at k1 k2
        go_simp
      simp only [Act.put, List.setIfInBounds_toArray, List.set_cons_zero, List.set_cons_succ]
      refine ty 19 90 (v := (.int .i64 (q : Int))) rfl rfl ?_ HS6.out ?_
      · intro w hSw
        obtain ⟨s0, s1, s2, s3, s4, s5, s6⟩ := hSw
        have k1 := conv_row s5 c7
        have k2 := conv_row s6 c6
        rw [hss] at k1 k2
        go_simp
      simp only [Act.put, List.setIfInBounds_toArray, List.set_cons_zero, List.set_cons_succ]
      refine ty 20 91 (v := (.pointer (some ⟨gf, fo + q * 2, none⟩))) rfl rfl ?_ HS6.out ?_
      · intro w hSw
        obtain ⟨s0, s1, s2, s3, s4, s5, s6⟩ := hSw
        have k1 := conv_row s5 c7
        have k2 := conv_row s6 c6
        rw [hss] at k1 k2
        go_simp
      simp only [Act.put, List.setIfInBounds_toArray, List.set_cons_zero, List.set_cons_succ]
      refine ty 21 92 (v := (.pointer (some ⟨gf, fo + q * 2, none⟩))) rfl rfl ?_ HS6.out ?_
      · intro w hSw
        obtain ⟨s0, s1, s2, s3, s4, s5, s6⟩ := hSw
        have k1 := conv_row s5 c7
        have k2 := conv_row s6 c6
        rw [hss] at k1 k2
        go_simp
      simp only [Act.put, List.setIfInBounds_toArray, List.set_cons_zero, List.set_cons_succ]
      refine ty 22 93 (v := (.slice A6 m6 c6)) rfl rfl ?_ HS6.out ?_
      · intro w hSw
        obtain ⟨s0, s1, s2, s3, s4, s5, s6⟩ := hSw
        have k1 := conv_row s5 c7
        have k2 := conv_row s6 c6
        rw [hss] at k1 k2
        go_simp
      simp only [Act.put, List.setIfInBounds_toArray, List.set_cons_zero, List.set_cons_succ]
      refine ty 23 94 (v := (.string ss)) rfl rfl ?_ HS6.out ?_
      · intro w hSw
        obtain ⟨s0, s1, s2, s3, s4, s5, s6⟩ := hSw
        have k1 := conv_row s5 c7
        have k2 := conv_row s6 c6
        rw [hss] at k1 k2
        go_simp
      simp only [Act.put, List.setIfInBounds_toArray, List.set_cons_zero, List.set_cons_succ]
      refine ty 24 95 (v := (.bool false)) rfl rfl ?_ HS6.out ?_
      · intro w hSw
        obtain ⟨s0, s1, s2, s3, s4, s5, s6⟩ := hSw
        have k1 := conv_row s5 c7
        have k2 := conv_row s6 c6
        rw [hss] at k1 k2
        go_simp
      simp only [Act.put, List.setIfInBounds_toArray, List.set_cons_zero, List.set_cons_succ]
      refine ty 25 96 (v := (.bool false)) rfl rfl ?_ HS6.out ?_
      · intro w hSw
        obtain ⟨s0, s1, s2, s3, s4, s5, s6⟩ := hSw
        have k1 := conv_row s5 c7
        have k2 := conv_row s6 c6
        rw [hss] at k1 k2
        go_simp
      simp only [Act.put, List.setIfInBounds_toArray, List.set_cons_zero, List.set_cons_succ]
      refine wpAnyH_done (by kernel_rfl) ?_ _
      go_wp2
      go_roundg (nn - (k + 1) + 1)
      case measure => omega
      case rel => exact ⟨k + 1, by go_num, by omega, Lib.hid (HB7.out.drew), Nat.le_refl _⟩
    · have HE := Lib.hid (HWt.out.trans (HQ.out.mono HWt.out.size))
      clear HROW
      go_wp2
      go_ret
      exact ⟨rfl, HE.out⟩
end
end Go.Proofs.Ytbjlikppboggmaa
