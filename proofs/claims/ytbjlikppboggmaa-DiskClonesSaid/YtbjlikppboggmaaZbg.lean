/-
  The document's disk: Crash, walked.
-/
import Derived.Test.YtbjlikppboggmaaZbf
import Derived.Deep.Cut
import Derived.Deep.CutRange
import Derived.Deep.CutBlock
import Derived.Deep.QuietTactic
import Derived.BigQuiet
namespace Go.Proofs.Ytbjlikppboggmaa
open Go.RowKit Go.Maps
set_option linter.unusedVariables false
set_option maxRecDepth 100000
section
variable {w w' : World} {x : Nat} {ox ox' : Nat → Nat} {b : XBox} {FA NA SA CA : Option Addr} {fn fc nn nc sn sc cn cc : Nat} {vs : List (Value × Nat)} {cs : List (ByteArray × ByteArray × Nat)} {r : RD}
/-- What the stores at the end leave. -/
theorem RefIn.lost (H : RefIn w x ox b FA fn fc NA nn nc SA sn sc CA cn cc vs cs r) (hF : ∀ i, w.heap.size ≤ i → ox i = 0) (F : Fct r) (P : Puts r) {w8 wr V : World} {zs : List Int} {dir : Int} {m : Nat} {a8 : Option Addr} {n8 c8 : Nat} {FA' : Option Addr} {c' : Nat} {vs' : List (Value × Nat)} (hB8 : Below w.heap.size w w8)
    (T : TurnR w w8 wr ox r zs dir m 0 a8 n8 c8 FA' c' vs') (hm : m = r.files.length) (ha8 : ∀ i ∈ blk a8, w.heap.size ≤ i ∧ i < w8.heap.size) (hV : Chg [x] wr V)
    (hb : XBoxAt V x ⟨.slice FA' vs'.length c', .slice a8 n8 c8, .slice a8 n8 c8, .slice none 0 0, b.quota, false, false, -1, b.calls⟩) : RNext w x ox (r.crash dir zs) V := by
  subst hm
  have hBr : Below w.heap.size w wr := hB8.trans (T.chg.toBelow (fun k hk => (ha8 k hk).1) hB8.size)
  have hz8 := hB8.size
  have hzr := hBr.size
  have hzV := hV.size
  have hx := H.box.lt
  obtain ⟨ox', hox⟩ : ∃ ox' : Nat → Nat, ox' = fun i => if i < w.heap.size then ox i else if i ∈ blk FA' then 2 else if i ∈ blk a8 then 4 else 0 := ⟨_, rfl⟩
  have ho : ∀ i, i < w.heap.size → ox' i = ox i := fun i hi => by rw [hox]; simp only [hi, if_true]
  have hsame : ∀ i, i < w.heap.size → i ≠ x → V.heap[i]? = w.heap[i]? := fun i hi hne => (hV.same i (by omega) (by rw [List.mem_singleton]; exact hne)).trans (hBr.block i hi)
  have oF' : ∀ k ∈ blk FA', ox' k = 2 := fun k hk => by
    have := T.new k hk
    rw [hox]
    simp only [show ¬ k < w.heap.size by omega, if_false, hk, if_true]
  have oN' : ∀ k ∈ blk a8, ox' k = 4 := fun k hk => by
    have h1 := ha8 k hk
    have h2 : k ∉ blk FA' := fun h => by have := T.new k h; omega
    rw [hox]
    simp only [show ¬ k < w.heap.size by omega, if_false, h2, hk, if_true]
  have hL : Rises ltS (r.left dir) := (laidN_len F dir.toNat).1
  have hall := left_all r dir zs (fun p hp => by obtain ⟨k, e, hk⟩ := left_nums F P dir p hp; rw [e, numOf_numV]; exact hk)
  have hnames := T.names.chg hV (fun k hk hm => by rw [List.mem_singleton] at hm; have := ha8 k hk; omega)
  rw [hall] at hnames
  have hrow : RowG encS ltS V a8 n8 c8 (r.crash dir zs).sure := ⟨hnames, List.pairwise_map.2 hL, fun p hp => by obtain ⟨p', _, rfl⟩ := List.mem_map.1 hp; rfl⟩
  refine RNext.of hF ⟨(hBr.mono (Nat.zero_le _)).trans hV.below, ho, fun i hi h0 => hsame i hi (fun e => by rw [e, H.ob] at h0; omega)⟩ (b := ⟨.slice FA' vs'.length c', .slice a8 n8 c8, .slice a8 n8 c8, .slice none 0 0, b.quota, false, false, -1, b.calls⟩) (FA := FA') (fn := vs'.length) (fc := c') (NA := a8) (nn := n8) (nc := c8) (SA := a8) (sn := n8) (sc := c8) (CA := none) (cn := 0) (cc := 0) (vs := vs') (cs := []) ?_
  exact {
    box := hb
    ob := (ho x hx).trans H.ob
    files := rfl
    fline := T.line.chg hV (fun k hk hm => by rw [List.mem_singleton] at hm; have := T.new k hk; omega)
    oF := oF'
    fdata := T.files.carry (by omega) ho (fun k hk h4 => hsame k hk (fun e => by rw [e, H.ob] at h4; omega))
    now := rfl
    nrow := hrow
    oN := oN'
    sure := rfl
    srow := hrow
    oS := oN'
    changes := rfl
    cline := SLine.nil 3 _
    oC := fun k hk => by obtain ⟨ad, e, _⟩ := mem_blk.1 hk; cases e
    chs := rfl
    quota := H.quota
    full := rfl
    off := rfl
    stop := rfl
    calls := H.calls }
theorem namedN_iff {L : List (ByteArray × Value)} {i : Nat} : namedN L i = true ↔ ∃ j p, j < L.length ∧ L[j]? = some p ∧ numOf p.2 = i := by
  unfold namedN
  rw [decide_eq_true_eq, List.mem_map]
  constructor
  · rintro ⟨p, hp, e⟩
    obtain ⟨j, hj, ej⟩ := List.mem_iff_getElem.1 hp
    exact ⟨j, p, hj, by rw [List.getElem?_eq_getElem hj, ej], e⟩
  · rintro ⟨j, p, _, hp, e⟩
    exact ⟨p, List.mem_of_getElem? hp, e⟩
set_option maxHeartbeats 12800000 in
theorem RefIn.crash (H : RefIn w x ox b FA fn fc NA nn nc SA sn sc CA cn cc vs cs r) (hF : ∀ i, w.heap.size ≤ i → ox i = 0) (F : Fct r) (N : Named r) (P : Puts r) (hs : r.size ≤ 79000) (dir : Int) (hdir : -9223372036854775808 ≤ dir ∧ dir ≤ 9223372036854775807) (KA : Option Addr) (kn kc : Nat) (zs : List Int) (hK : ZsAt w KA kn zs) (hkn : kn ≤ 1000000)
    (hzs : ∀ z ∈ zs, z ≤ 9223372036854775807) (hsu : ∀ i ∈ r.keep dir, (r.file i).sure ≤ (r.file i).data.length) :
    Calls Try.prog 36 #[.pointer (some ⟨x, 0, none⟩), .agg #[.int .i64 dir, .slice KA kn kc]] w fun e w' => (∃ v, e = .returned v) ∧ RNext w x ox (r.crash dir zs) w' := by
  obtain ⟨w0, hw0⟩ : ∃ w0, w.alloc (.cells #[.int .i64 dir, .slice KA kn kc] 32) = w0 := ⟨_, rfl⟩
  have hB0 : Below w.heap.size w w0 := by rw [← hw0]; exact (Below.refl _ w).alloc (Nat.le_refl _) _
  have hs0 : w0.heap.size = w.heap.size + 1 := by rw [← hw0]; simp
  have q0 : w0.heap[w.heap.size]? = some (.cells #[.int .i64 dir, .slice KA kn kc] 32 (0, 0)) := by rw [← hw0]; exact heap_alloc_new w _
  have hql : w.heap.size < w0.heap.size := by omega
  have HQ : Hid (w.heap.size < w0.heap.size ∧ ∀ W, Below w0.heap.size w0 W → W.cell? ⟨w.heap.size, 0, none⟩ = some (.int .i64 dir) ∧ W.cell? ⟨w.heap.size, 1, none⟩ = some (.slice KA kn kc)) := Lib.hid ⟨hql, fun W hW => by
    have h1 := (hW.block w.heap.size hql).trans q0
    exact ⟨by rw [cell_of_row W w.heap.size 0 _ _ (0, 0) h1]; rfl, by rw [cell_of_row W w.heap.size 1 _ _ (0, 0) h1]; rfl⟩⟩
  have hx := H.box.lt
  have c2 : w0.cell? ⟨x, 2, none⟩ = some (.slice SA sn sc) := (H.box.below hB0).cell 2 _ (by show some b.sure = _; rw [H.sure])
  have c3 : w0.cell? ⟨x, 3, none⟩ = some (.slice CA cn cc) := (H.box.below hB0).cell 3 _ (by show some b.changes = _; rw [H.changes])
  obtain ⟨D, hD⟩ : ∃ D, dir.toNat = D := ⟨_, rfl⟩
  have hcl : cs.length = cn := by have := H.cline.1; rw [flatC_length] at this; omega
  have hcr : cn = r.chs.length := by rw [H.chs, List.length_map]; exact hcl.symm
  have hcn : cn ≤ 79000 := by unfold RD.size at hs; omega
  have hfl : fn = r.files.length := by have h1 := H.fline.1; rw [flatF_length, H.fdata.1] at h1; omega
  have hfn : fn ≤ 79000 := by unfold RD.size at hs; omega
  have HL0 : Hid (LaidR w w0 w0 ox r (min 0 D) SA sn sc) := Lib.hid ⟨by rw [Nat.zero_min, laidN_zero]; exact H.srow.below hB0, fun i hi => .inl ⟨H.oS i hi, H.srow.lt' i hi⟩, Below.refl _ _⟩
  have HH := Lib.hid (And.intro H (And.intro hF (And.intro F (And.intro N (And.intro P (And.intro hs (And.intro hK (And.intro hzs (And.intro hsu (And.intro hB0 (And.intro hs0 (And.intro hcl (And.intro hcr (And.intro hfl hD))))))))))))))
  clear H hF F N P hs hK hzs hsu hB0 hs0 hcl hcr hfl q0 hql
  go_enter Try.func36, Try.ntmps36
  go_wp2_with fail
  go_loopg [4, 25] (cn + 1) (fun kx s4 i wr => ∃ (k : Nat) (A : Option Addr) (n c : Nat), s4 = .slice A n c ∧ i = .int .i64 k ∧ k ≤ cn ∧ Hid (LaidR w w0 wr ox r (min k D) A n c) ∧ cn - k + 1 ≤ kx)
  case atStart => exact ⟨0, SA, sn, sc, rfl, rfl, Nat.zero_le _, HL0, Nat.le_refl _⟩
  case round =>
    clear HL0
    obtain ⟨k, A, n, c, rfl, rfl, hk, HI, hm⟩ := hrel
    obtain ⟨H, hF, F, N, P, hs, hK, hzs, hsu, hB0, hs0, hcl, hcr, hfl, hD⟩ := HH.out
    have hBr : Below w.heap.size w wr := hB0.trans (HI.out.on.mono hB0.size)
    by_cases hlt : k < cn
    · obtain ⟨ch, hch⟩ : ∃ ch, cs[k]? = some ch := ⟨_, List.getElem?_eq_getElem (by omega)⟩
      obtain ⟨g, p, num⟩ := ch
      obtain ⟨gc, oc, rfl, hgc, hcs, _⟩ := (H.cline.below hBr).at (by omega)
      obtain ⟨y0, y1, y2⟩ := flatC_at cs k _ hch
      have d0 := (hcs (k * 3) (by omega)).trans y0
      have d1 := (hcs (k * 3 + 1) (by omega)).trans y1
      have d2 := (hcs (k * 3 + 2) (by omega)).trans y2
      rw [← Nat.add_assoc] at d1 d2
      dsimp only at d0 d1 d2
      obtain ⟨Wa, hWa⟩ : ∃ Wa, wr.alloc (.cells #[.string g, .string p, .int .i64 (num : Int)] 114) = Wa := ⟨_, rfl⟩
      have hBa : Below wr.heap.size wr Wa := by rw [← hWa]; exact (Below.refl _ wr).alloc (Nat.le_refl _) _
      have hva : Wa.heap[wr.heap.size]? = some (.cells #[.string g, .string p, .int .i64 (num : Int)] 114 (0, 0)) := by rw [← hWa]; exact heap_alloc_new wr _
      obtain ⟨va, hvae⟩ : ∃ va, wr.heap.size = va := ⟨_, rfl⟩
      rw [hvae] at hva
      have e0 : Wa.cell? ⟨va, 0, none⟩ = some (.string g) := by rw [cell_of_row _ va 0 _ _ (0, 0) hva]; rfl
      have e1 : Wa.cell? ⟨va, 1, none⟩ = some (.string p) := by rw [cell_of_row _ va 1 _ _ (0, 0) hva]; rfl
      have e2 : Wa.cell? ⟨va, 2, none⟩ = some (.int .i64 (num : Int)) := by rw [cell_of_row _ va 2 _ _ (0, 0) hva]; rfl
      have hon : Below w0.heap.size w0 Wa := HI.out.on.trans (hBa.mono HI.out.on.size)
      have qd := (HQ.out.2 Wa hon).1
      have hlt' : (k : Int) < (cn : Int) := by omega
      have hk0 : (0 : Int) ≤ (k : Int) := by omega
      have hcc := H.cline.2.1
      by_cases hkd : (k : Int) < dir
      · have hkD : k < D := by omega
        have hmin : min k D = k := by omega
        have hmin2 : min (k + 1) D = k + 1 := by omega
        have hrow := HI.out.row
        rw [hmin] at hrow
        have hln := (laidN_len F k).2
        have hlen := hrow.len
        have hnums := laidN_nums F P k
        have hnn : n ≤ 90000 := by unfold RD.size at hs; omega
        have hpair : r.chs[k]? = some (pairs (g, p, num)) := by rw [H.chs, List.getElem?_map, hch]; rfl
        have HAP := Lib.hid (apply_free Wa A n c (laidN r k) (hrow.below hBa) hnn (fun p hp => by obtain ⟨m, h1, h2⟩ := hnums p hp; exact ⟨m, h1, by unfold RD.size at hs; omega⟩) g p num)
        have hsn : applyN (laidN r k) g p num = laidN r (k + 1) := by rw [applyN_lay (laidN_len F k).1 (laidN_named N k) g p num, laidN_snoc r k _ hpair]
        rw [hsn] at HAP
        have HON := Lib.hid hon
        have HMIN := Lib.hid hmin2
        clear H hF F N P hs hK hzs hsu hB0 hs0 hcl hcr hfl hD hBr hch y0 y1 y2 hcs hgc hBa hva hrow hln hlen hnums hnn hpair hmin hmin2 hon hsn hcc HI
        go_wp2_with fail
        refine HAP.out.mono ?_
        rintro e w2 ⟨⟨A', c', rfl, hrow2, hnew⟩, hB2⟩
        have HNEW : Hid (LaidR w w0 w2 ox r (min (k + 1) D) A' (laidN r (k + 1)).length c') := Lib.hid ⟨by rw [HMIN.out]; exact hrow2, fun i hi => .inr (by have := hnew i hi; have := HON.out.size; omega), HON.out.trans (hB2.mono HON.out.size)⟩
        clear hrow2 hnew hB2 HAP e0 e1 e2 qd
        go_wp2
        go_roundg (cn - (k + 1) + 1)
        case measure => omega
        case rel => exact ⟨k + 1, A', _, c', rfl, by go_num, by omega, HNEW, Nat.le_refl _⟩
      · have hkd2 : dir ≤ (k : Int) := by omega
        have HNEW : Hid (LaidR w w0 Wa ox r (min (k + 1) D) A n c) := Lib.hid (by
          have e : min (k + 1) D = min k D := by omega
          rw [e]
          exact ⟨HI.out.row.below hBa, HI.out.at_, hon⟩)
        clear H hF F N P hs hK hzs hsu hB0 hs0 hcl hcr hfl hD hBr hch y0 y1 y2 hcs hgc hBa hva hon hcc HI
        go_wp2
        go_roundg (cn - (k + 1) + 1)
        case measure => omega
        case rel => exact ⟨k + 1, A, n, c, rfl, by go_num, by omega, HNEW, Nat.le_refl _⟩
    · obtain rfl : k = cn := by omega
      have hleft : laidN r (min k D) = r.left dir := by rw [← hD]; exact laidN_left r dir k hcr
      have hrow := HI.out.row
      rw [hleft] at hrow
      have hLn := hrow.len
      have hLb := (laidN_len F (min k D)).2
      rw [hleft] at hLb
      have hnn : n ≤ 90000 := by unfold RD.size at hs; omega
      obtain ⟨A8, c8, W8, hr8, hl8, hc8, hf8, _⟩ := sline_append_all 2 wr 72 79 72 _ 24 Try.underlying72 infoName rfl (by decide) none 0 0 [] (SLine.nil 2 wr) (by omega) (.slice A n c) n (by omega) (cellsP encS (r.left dir)) (hrow.line.srcN Try.underlying72 (cellsP_one encS (fun a => rfl) _ hrow.one) c)
      rw [Nat.zero_add] at hr8
      rw [Nat.zero_add, List.nil_append] at hl8
      have hnone : ∀ j, j ∈ blk none → False := fun j hj => by obtain ⟨ad, e, _⟩ := mem_blk.1 hj; cases e
      have hBw8 : Below w.heap.size w W8 := hBr.trans (hc8.toBelow (fun j hj => (hnone j hj).elim) hBr.size)
      have hBq8 : Below w0.heap.size w0 W8 := HI.out.on.trans (hc8.toBelow (fun j hj => (hnone j hj).elim) HI.out.on.size)
      have hA8 : ∀ j ∈ blk A8, w.heap.size ≤ j ∧ w0.heap.size ≤ j ∧ j < W8.heap.size ∧ j ∉ blk A := fun j hj => by
        have h1 := (hf8 j hj).resolve_left (fun h => hnone j h)
        have h2 := hBr.size
        have h3 := HI.out.on.size
        exact ⟨by omega, by omega, hl8.lt j hj, fun h => by have := hrow.lt' j h; omega⟩
      have z0 : W8.cell? ⟨x, 0, none⟩ = some (.slice FA fn fc) := (H.box.below hBw8).cell 0 _ (by show some b.files = _; rw [H.files])
      have hrow8 := hrow.chg hc8 (fun j _ h => hnone j h)
      have HT0 : Hid (TurnR w W8 W8 ox r zs dir 0 0 A8 n c8 none 0 []) := Lib.hid ⟨Chg.refl _ _, SLine.nil 2 _, fun j hj => (hnone j hj).elim, ⟨rfl, fun i v f h => by simp at h⟩, by rw [renN_zero (fun p hp => by obtain ⟨k, e, _⟩ := left_nums F P dir p hp; exact ⟨k, e⟩)]; exact hl8⟩
      have HR8 := Lib.hid hr8
      have H8 := Lib.hid (And.intro hBw8 (And.intro hBq8 (And.intro hA8 (And.intro hrow8 (And.intro hLn hl8)))))
      clear H hF F N P hs hK hzs hsu hB0 hs0 hcl hcr hfl hD hBr hleft hrow hLn hLb hr8 hl8 hc8 hf8 hnone hBw8 hBq8 hA8 hrow8 HI hlt hm hk c3
      go_wp2_with (at_builtin; refine Lib.wpList_append_run _ rfl _ _ _ _ rfl _ _ rfl rfl _ _ HR8.out ?_)
      clear HR8
      obtain ⟨wu, hwu⟩ : ∃ wu : World, wu = wr := ⟨_, rfl⟩
      subst hwu
      go_loopg [7, 46] (fn + 1) (fun kx s7 ix wq => ∃ (i : Nat) (vs' : List (Value × Nat)) (FA' : Option Addr) (c' : Nat), s7 = .slice FA' vs'.length c' ∧ ix = .int .i64 i ∧ i ≤ fn ∧ Hid (TurnR w W8 wq ox r zs dir i 0 A8 n c8 FA' c' vs') ∧ fn - i + 1 ≤ kx)
      case atStart => exact ⟨0, [], none, 0, rfl, rfl, Nat.zero_le _, HT0, Nat.le_refl _⟩
      case round =>
        clear HT0
        obtain ⟨i, vs', FA', c', rfl, rfl, hi, HI, hm⟩ := hrel
        obtain ⟨H, hF, F, N, P, hs, hK, hzs, hsu, hB0, hs0, hcl, hcr, hfl, hD⟩ := HH.out
        obtain ⟨hBw8, hBq8, hA8, hrow8, hLn, hl8⟩ := H8.out
        have hBr : Below w.heap.size w wr := hBw8.trans (HI.out.chg.toBelow (fun j hj => (hA8 j hj).1) hBw8.size)
        have hBq : Below w0.heap.size w0 wr := hBq8.trans (HI.out.chg.toBelow (fun j hj => (hA8 j hj).2.1) hBq8.size)
        by_cases hlt : i < fn
        · obtain ⟨f, hf⟩ : ∃ f, r.files[i]? = some f := ⟨_, List.getElem?_eq_getElem (by omega)⟩
          have hfile : r.file i = f := by unfold RD.file; rw [List.getD_eq_getElem?_getD, hf]; rfl
          obtain ⟨g2, o2, A9, c9, hFA, HR⟩ := H.fileAt i f hf
          have z1 := (hBr.cell (p := ⟨g2, o2 + i * 2, none⟩) HR.ltg).trans HR.z1
          have z2 := (hBr.cell (p := ⟨g2, o2 + i * 2 + 1, none⟩) HR.ltg).trans HR.z2
          obtain ⟨L, hL⟩ : ∃ L, f.data.length = L := ⟨_, rfl⟩
          obtain ⟨su, hsuE⟩ : ∃ su, f.sure = su := ⟨_, rfl⟩
          rw [hL] at z1
          rw [hsuE] at z2
          obtain ⟨Wa, hWa⟩ : ∃ Wa, wr.alloc (.cells #[.slice A9 L c9, .int .i64 (su : Int)] 81) = Wa := ⟨_, rfl⟩
          have hBa : Below wr.heap.size wr Wa := by rw [← hWa]; exact (Below.refl _ wr).alloc (Nat.le_refl _) _
          have hva : Wa.heap[wr.heap.size]? = some (.cells #[.slice A9 L c9, .int .i64 (su : Int)] 81 (0, 0)) := by rw [← hWa]; exact heap_alloc_new wr _
          obtain ⟨va, hvae⟩ : ∃ va, wr.heap.size = va := ⟨_, rfl⟩
          have hvs : va < Wa.heap.size := by rw [← hvae]; exact lt_of_block hva
          have hv8 : W8.heap.size ≤ va := by rw [← hvae]; exact HI.out.chg.size
          rw [hvae] at hva
          have HVA := Lib.hid (And.intro hva (And.intro hvs (And.intro hv8 (And.intro (HI.out.below hBa) (hBq.trans (hBa.mono hBq.size))))))
          have HFILE := Lib.hid (And.intro hf (And.intro hfile (And.intro HR (And.intro hL hsuE))))
          have hlt' : (i : Int) < (fn : Int) := by omega
          have hi0 : (0 : Int) ≤ (i : Int) := by omega
          have hfc := HR.lefc
          have HIN0 : Hid (SawN (r.left dir) i 0 false ∧ TurnR w W8 Wa ox r zs dir i 0 A8 n c8 FA' c' vs' ∧ Chg (blk A8) Wa Wa) := Lib.hid ⟨⟨fun h => (by cases h), fun ⟨j, p, h, _⟩ => by omega⟩, HI.out.below hBa, Chg.refl _ _⟩
          subst hFA
          clear H hF F N P hs hK hzs hsu hB0 hs0 hcl hcr hfl hD hBr hBq hBw8 hBq8 hA8 hrow8 hLn hl8 HI hf hfile HR hL hsuE hBa hva hvs hv8
          go_wp2_with fail
          obtain ⟨wo, hwo⟩ : ∃ wo : World, wo = wr := ⟨_, rfl⟩
          subst hwo
          go_loopg [11, 53] (n + 1) (fun kx nm kk wq => ∃ (k' : Nat) (bb : Bool), nm = .bool bb ∧ kk = .int .i64 k' ∧ k' ≤ n ∧ Hid (SawN (r.left dir) i k' bb ∧ TurnR w W8 wq ox r zs dir i k' A8 n c8 FA' c' vs' ∧ Chg (blk A8) Wa wq) ∧ n - k' + 1 ≤ kx)
          case atStart => exact ⟨0, false, rfl, rfl, Nat.zero_le _, HIN0, Nat.le_refl _⟩
          case round =>
            clear HIN0
            obtain ⟨k', bb, rfl, rfl, hk', HI2, hm2⟩ := hrel
            obtain ⟨H, hF, F, N, P, hs, hK, hzs, hsu, hB0, hs0, hcl, hcr, hfl, hD⟩ := HH.out
            obtain ⟨hBw8, hBq8, hA8, hrow8, hLn, hl8⟩ := H8.out
            have hdis : ∀ j ∈ blk A, j ∉ blk A8 := fun j hj h => (hA8 j h).2.2.2 hj
            have hrow := hrow8.chg HI2.out.2.1.chg hdis
            by_cases hlt2 : k' < n
            · obtain ⟨p, hp⟩ : ∃ p, (r.left dir)[k']? = some p := ⟨_, List.getElem?_eq_getElem (by omega)⟩
              obtain ⟨num, hnum, hnb⟩ := left_nums F P dir p (List.mem_of_getElem? hp)
              obtain ⟨nm, v⟩ := p
              simp only at hnum
              subst hnum
              obtain ⟨g4, o4, rfl, hg4, hcs4, _⟩ := hrow.at (by omega)
              obtain ⟨d0, d1⟩ := hcs4 k' _ hp
              unfold encS at d0
              unfold numV at d1
              have hnc4 := hrow.line.2.1
              obtain ⟨Wb, hWb⟩ : ∃ Wb, wr.alloc (.cells #[.string nm, .int .i64 (num : Int)] 79) = Wb := ⟨_, rfl⟩
              have hBb : Below wr.heap.size wr Wb := by rw [← hWb]; exact (Below.refl _ wr).alloc (Nat.le_refl _) _
              have hvb : Wb.heap[wr.heap.size]? = some (.cells #[.string nm, .int .i64 (num : Int)] 79 (0, 0)) := by rw [← hWb]; exact heap_alloc_new wr _
              obtain ⟨vb, hvbe⟩ : ∃ vb, wr.heap.size = vb := ⟨_, rfl⟩
              rw [hvbe] at hvb
              have e0 : Wb.cell? ⟨vb, 0, none⟩ = some (.string nm) := by rw [cell_of_row _ vb 0 _ _ (0, 0) hvb]; rfl
              have e1 : Wb.cell? ⟨vb, 1, none⟩ = some (.int .i64 (num : Int)) := by rw [cell_of_row _ vb 1 _ _ (0, 0) hvb]; rfl
              have hlt2' : (k' : Int) < (n : Int) := by omega
              have hk0 : (0 : Int) ≤ (k' : Int) := by omega
              have hTb := HI2.out.2.1.below hBb
              have hCb : Chg (blk A8) Wa Wb := HI2.out.2.2.trans (Chg.of_below hBb)
              by_cases hni : num = i
              · obtain ⟨g8, o8, rfl, hg8, hcs8, hfr8⟩ := hTb.names.at (by omega)
                have hpl : ∀ u, (renN (rankN r dir) (r.left dir) i k')[k']? = some u → Wb.cell? ⟨g8, o8 + k' * 2 + 1, none⟩ = some u.2 := fun u hu => by
                  rw [Nat.add_assoc]
                  exact (hcs8 (k' * 2 + 1) (by omega)).trans (cellsP_at encS _ k' u hu).2
                have u1 := hpl _ (renN_at hp)
                have u1f : Wb.frozen? ⟨g8, o8 + k' * 2 + 1, none⟩ = false := by rw [Nat.add_assoc]; exact (hfr8 (k' * 2 + 1) (by have := hTb.names.2.1; omega)).2
                have hnc8 := hTb.names.2.1
                have hg88 : g8 < W8.heap.size := (hA8 g8 (mem_blk.2 ⟨_, rfl, rfl⟩)).2.2.1
                obtain ⟨V, hV⟩ : ∃ V, Wb.setCell ⟨g8, o8 + k' * 2 + 1, none⟩ (.int .i64 (vs'.length : Int)) = V := ⟨_, rfl⟩
                have HNEW : Hid (SawN (r.left dir) i (k' + 1) true ∧ TurnR w W8 V ox r zs dir i (k' + 1) (some ⟨g8, o8, none⟩) n c8 FA' c' vs' ∧ Chg (blk (some (⟨g8, o8, none⟩ : Addr))) Wa V) := Lib.hid (by
                  refine ⟨⟨fun _ => ⟨k', _, Nat.lt_succ_self _, hp, by rw [numOf_numV]; exact hni⟩, fun _ => rfl⟩, ?_, ?_⟩
                  · rw [← hV]
                    exact hTb.step hg88 (by omega) hp hLn (by rw [numOf_numV]; exact hni)
                  · rw [← hV]
                    exact hCb.setCell g8 _ _ (.inl (mem_blk.2 ⟨_, rfl, rfl⟩)))
                obtain ⟨old, hold⟩ : ∃ old, (numV (if numOf (numV num) < i ∨ (numOf (numV num) = i ∧ k' < k') then rankN r dir (numOf (numV num)) else numOf (numV num))) = old := ⟨_, rfl⟩
                dsimp only at u1
                rw [hold] at u1
                rw [hni] at e1 d1
                rw [hni] at hWb
                clear H hF F N P hs hK hzs hsu hB0 hs0 hcl hcr hfl hD hBw8 hBq8 hA8 hrow8 hLn hl8 hdis hrow hp hnb hg4 hcs4 hBb hvb hTb hCb hni hg8 hcs8 hfr8 hpl hg88 hold HI2
                go_wp2
                go_roundg (n - (k' + 1) + 1)
                case measure => omega
                case rel => exact ⟨k' + 1, true, rfl, by go_num, by omega, HNEW, Nat.le_refl _⟩
              · have hni1 : ((num : Int) == (i : Int)) = false := by simp; omega
                have hni2 : ¬ (num : Int) = (i : Int) := by omega
                have HNEW : Hid (SawN (r.left dir) i (k' + 1) bb ∧ TurnR w W8 Wb ox r zs dir i (k' + 1) A8 n c8 FA' c' vs' ∧ Chg (blk A8) Wa Wb) := Lib.hid (by
                  refine ⟨?_, hTb.skip hp (by rw [numOf_numV]; exact hni), hCb⟩
                  refine HI2.out.1.trans ?_
                  constructor
                  · rintro ⟨j, p, h1, h2, h3⟩
                    exact ⟨j, p, by omega, h2, h3⟩
                  · rintro ⟨j, p, h1, h2, h3⟩
                    by_cases hj : j = k'
                    · subst hj
                      rw [hp] at h2
                      cases h2
                      rw [numOf_numV] at h3
                      exact absurd h3 hni
                    · exact ⟨j, p, by omega, h2, h3⟩)
                clear H hF F N P hs hK hzs hsu hB0 hs0 hcl hcr hfl hD hBw8 hBq8 hA8 hrow8 hLn hl8 hdis hrow hp hnb hg4 hcs4 hBb hvb hTb hCb hni HI2
                go_wp2
                go_roundg (n - (k' + 1) + 1)
                case measure => omega
                case rel => exact ⟨k' + 1, bb, rfl, by go_num, by omega, HNEW, Nat.le_refl _⟩
            · obtain rfl : k' = n := by omega
              have hT := HI2.out.2.1
              have hnm : bb = namedN (r.left dir) i := Bool.eq_iff_iff.2 (by
                have h1 := HI2.out.1
                unfold SawN at h1
                rw [← hLn] at h1
                exact h1.trans namedN_iff.symm)
              cases bb with
              | false =>
                have HNXT : Hid (TurnR w W8 wr ox r zs dir (i + 1) 0 A8 k' c8 FA' c' vs') := Lib.hid (hT.next hLn hnm.symm)
                clear H hF F N P hs hK hzs hsu hB0 hs0 hcl hcr hfl hD hBw8 hBq8 hA8 hrow8 hLn hl8 hdis hrow hT hnm HI2
                go_wp2
                go_roundg (fn - (i + 1) + 1)
                case measure => omega
                case rel => exact ⟨i + 1, vs', FA', c', rfl, by go_num, by omega, HNXT, Nat.le_refl _⟩
              | true =>
                obtain ⟨hf, hfile, HR, hL, hsuE⟩ := HFILE.out
                obtain ⟨hva, hvs, hv8, hTa, hBqa⟩ := HVA.out
                have hvr := (HI2.out.2.2.same va hvs (fun h => by have := (hA8 va h).2.2.1; omega)).trans hva
                have t0 : wr.cell? ⟨va, 0, none⟩ = some (.slice A9 L c9) := by rw [cell_of_row _ va 0 _ _ (0, 0) hvr]; rfl
                have t1 : wr.cell? ⟨va, 1, none⟩ = some (.int .i64 (su : Int)) := by rw [cell_of_row _ va 1 _ _ (0, 0) hvr]; rfl
                have hvl : va < wr.heap.size := lt_of_block hvr
                have hBqr : Below w0.heap.size w0 wr := hBqa.trans (HI2.out.2.2.toBelow (fun j hj => (hA8 j hj).2.1) hBqa.size)
                have hBwr : Below w.heap.size w wr := hB0.trans (hBqr.mono hB0.size)
                have q1 := (HQ.out.2 wr hBqr).2
                have hql : w.heap.size < wr.heap.size := Nat.lt_of_lt_of_le HQ.out.1 hBqr.size
                have hsle : su ≤ L := by have := hsu i (keep_of r dir i (by omega) hnm.symm); rw [hfile, hL, hsuE] at this; exact this
                have hLc := HR.line.2.1
                have hcm := HR.line.2.2.1
                rw [hL] at hLc
                unfold maxLen at hcm
                have hlen : vs'.length ≤ 79000 := by
                  have h1 := hT.files.1
                  have h2 := keptF_len r zs (r.left dir) i
                  omega
                have HPUSH : Hid (∀ (V0 : World) (m : Nat), Below wr.heap.size wr V0 → m = leftN L su (keptZ zs i) → ∃ FA2 c2 V, (Builtin.append_ #[71, 71] 71 #[.slice FA' vs'.length c', .slice (some ⟨V0.heap.size, 0, none⟩) 1 1]).run Try.prog (V0.alloc (.cells #[.slice A9 m c9, .int .i64 (m : Int)] 81)) = .ok (.slice FA2 (vs'.length + 1) c2) V ∧ ∃ vs2, vs2.length = vs'.length + 1 ∧ TurnR w W8 V ox r zs dir (i + 1) 0 A8 k' c8 FA2 c2 vs2) := Lib.hid (by
                  intro V0 m hV0 hm
                  obtain ⟨FA2, c2, V, hr, hl2, hC, hf2, _⟩ := push_s 2 V0 71 81 71 _ 32 Try.underlying71 infoFile rfl (by decide) FA' vs'.length c' (flatF vs') (hT.line.below hV0) (by omega) [.slice A9 m c9, .int .i64 (m : Int)] rfl (fun u hu => by simp only [List.mem_cons, List.not_mem_nil, or_false] at hu; rcases hu with h | h <;> (rw [h]; rfl))
                  refine ⟨FA2, c2, V, hr, ?_⟩
                  exact (hT.below hV0).more hLn hnm.symm (fun j hj => (hA8 j hj).2.2.1) A9 c9 (by rw [hfile]; exact HR.line) HR.own (by rw [hfile, hL, hsuE]; exact hsle) m (by rw [hfile, hL, hsuE]; exact hm) hC hl2 hf2)
                have hZr : ZsAt wr KA kn zs := hK.same hBwr.size (fun j _ hj => hBwr.block j hj)
                have hzz := hzs
                clear H hF F N P hs hK hzs hsu hB0 hs0 hcl hcr hfl hD hBw8 hBq8 hA8 hrow8 hLn hl8 hdis hrow hT hnm HI2 hf hfile HR hL hsuE hva hvs hv8 hTa hBqa hvr hBqr hBwr hlen
                rcases Nat.eq_zero_or_pos kn with hk0 | hk0
                · subst hk0
                  have hkz : keptZ zs i = 0 := by unfold keptZ; rw [if_pos hZr.1]
                  obtain ⟨FA2, c2, V, hr, vs2, hl2, hT2⟩ := HPUSH.out wr su (Below.refl _ _) (by rw [hkz]; unfold leftN; omega)
                  have HR29 := Lib.hid hr
                  have HT2 := Lib.hid hT2
                  have HL2 := Lib.hid hl2
                  clear hr hT2 hl2 HPUSH hZr hzz hkz
                  go_wp2_with (at_builtin; refine Lib.wpList_append_run _ rfl _ _ _ _ rfl _ _ rfl rfl _ _ HR29.out ?_)
                  go_roundg (fn - (i + 1) + 1)
                  case measure => omega
                  case rel => exact ⟨i + 1, vs2, FA2, c2, by rw [HL2.out], by go_num, by omega, HT2, Nat.le_refl _⟩
                · obtain ⟨gz, ok, rfl, hgz, hcsk⟩ := hZr.2 hk0
                  obtain ⟨kz, hkz⟩ : ∃ kz, keptZ zs i = kz := ⟨_, rfl⟩
                  rw [hkz] at HPUSH
                  have hmod : i % kn < kn := Nat.mod_lt _ hk0
                  have hzl := hZr.1
                  have hzi : zs[i % kn]? = some kz := by
                    rw [← hkz]
                    unfold keptZ
                    rw [if_neg (by omega), hzl, List.getD_eq_getElem?_getD, List.getElem?_eq_getElem (by omega)]
                    rfl
                  have qk := hcsk _ _ hzi
                  have hkzm := hzz _ (List.mem_of_getElem? hzi)
                  obtain ⟨rr, hrr⟩ : ∃ rr, i % kn = rr := ⟨_, rfl⟩
                  rw [hrr] at qk hmod
                  have hm1 : Int.tmod (i : Int) (kn : Int) = (rr : Int) := by rw [← hrr, Int.ofNat_tmod]
                  have hn0 : (kn : Int) ≠ 0 := by omega
                  have hn1 : ¬ (kn : Int) = 0 := by omega
                  have hnp : (0 : Int) < (kn : Int) := by omega
                  have hr0 : (0 : Int) ≤ (rr : Int) := by omega
                  have hr1 : (rr : Int) < (kn : Int) := by omega
                  clear hZr hzz hkz hzl hzi hcsk
                  obtain ⟨m, hm0⟩ : ∃ m, leftN L su kz = m := ⟨_, rfl⟩
                  have hmle : (su : Int) + min (max kz 0) ((L : Int) - (su : Int)) = (m : Int) := by unfold leftN at hm0; omega
                  have HM0 := Lib.hid hm0
                  clear hm0
                  go_upto_block 6 with fail
                  obtain ⟨wp, hwp⟩ : ∃ wp : World, wp = wr := ⟨_, rfl⟩
                  subst hwp
                  go_cut [14, 15] from 77 to 98 (fun sn sx wx => sn = .int .i64 (m : Int) ∧ (∃ t : Nat, sx = .int .i64 (t : Int)) ∧ Hid (Below wp.heap.size wp wx))
                  case first =>
                    go_wp2_with fail
                    go_loopg [14, 15] (L - su + 1) (fun kx sn sx wk => ∃ t : Nat, sn = .int .i64 ((su : Int) + (t : Int)) ∧ sx = .int .i64 (t : Int) ∧ (su : Int) + (t : Int) ≤ (m : Int) ∧ Hid (Below wp.heap.size wp wk) ∧ L - su - t + 1 ≤ kx)
                    case atStart => exact ⟨0, by simp, rfl, by omega, Lib.hid (Below.refl _ _), by omega⟩
                    case round =>
                      obtain ⟨t, rfl, rfl, ht, HK, hmt⟩ := hrel
                      have a0 : wr.cell? ⟨va, 0, none⟩ = some (.slice A9 L c9) := (HK.out.cell (p := ⟨va, 0, none⟩) hvl).trans t0
                      have a1 : wr.cell? ⟨w.heap.size, 1, none⟩ = some (.slice (some ⟨gz, ok, none⟩) kn kc) := (HK.out.cell (p := ⟨w.heap.size, 1, none⟩) hql).trans q1
                      have a2 : wr.cell? ⟨gz, ok + rr, none⟩ = some (.int .i64 kz) := (HK.out.cell (p := ⟨gz, ok + rr, none⟩) hgz).trans qk
                      clear t0 t1 q1 qk HPUSH
                      by_cases hk1 : (t : Int) < kz
                      · have hd1 : decide ((t : Int) < kz) = true := decide_eq_true hk1
                        by_cases hk2 : (su : Int) + (t : Int) < (L : Int)
                        · have hd2 : decide ((su : Int) + (t : Int) < (L : Int)) = true := decide_eq_true hk2
                          have HB2 : ∀ n, Hid (Below wp.heap.size wp (wr.drewN n)) := fun n => Lib.hid (HK.out.trans ((below_drewN wr n).mono HK.out.size))
                          go_wp2_with fail
                          go_quiet (fail)
                          go_wp2
                          go_roundg (L - su - (t + 1) + 1)
                          case measure => omega
                          case rel => exact ⟨t + 1, by go_num, by go_num, by omega, HB2 _, Nat.le_refl _⟩
                        · have hd2 : decide ((su : Int) + (t : Int) < (L : Int)) = false := decide_eq_false hk2
                          have hend : (su : Int) + (t : Int) = (m : Int) := by omega
                          have HEND := Lib.hid hend
                          have HB2 : ∀ n, Hid (Below wp.heap.size wp (wr.drewN n)) := fun n => Lib.hid (HK.out.trans ((below_drewN wr n).mono HK.out.size))
                          clear hend
                          go_wp2_with fail
                          go_quiet (fail)
                          go_wp2
                          go_meet
                          exact ⟨by rw [HEND.out], ⟨t, rfl⟩, HB2 _⟩
                      · have hd1 : decide ((t : Int) < kz) = false := decide_eq_false hk1
                        have hend : (su : Int) + (t : Int) = (m : Int) := by omega
                        have HEND := Lib.hid hend
                        have HB2 : ∀ n, Hid (Below wp.heap.size wp (wr.drewN n)) := fun n => Lib.hid (HK.out.trans ((below_drewN wr n).mono HK.out.size))
                        clear hend
                        go_wp2_with fail
                        go_quiet (fail)
                        go_wp2
                        go_meet
                        exact ⟨by rw [HEND.out], ⟨t, rfl⟩, HB2 _⟩
                  case rest =>
                    obtain ⟨rfl, ⟨t, rfl⟩, HC⟩ := hcut
                    obtain ⟨FA2, c2, V, hr, vs2, hl2, hT2⟩ := HPUSH.out wc m HC.out HM0.out.symm
                    have u0 : wc.cell? ⟨va, 0, none⟩ = some (.slice A9 L c9) := (HC.out.cell (p := ⟨va, 0, none⟩) hvl).trans t0
                    have hmL : (m : Int) ≤ (L : Int) := by omega
                    have hmc : (m : Int) ≤ (c9 : Int) := by omega
                    have hm0 : (0 : Int) ≤ (m : Int) := by omega
                    have HR29 := Lib.hid hr
                    have HT2 := Lib.hid hT2
                    have HL2 := Lib.hid hl2
                    clear hr hT2 hl2 HPUSH HM0 hmle t0 t1 q1 qk
                    go_wp2_with (at_builtin; refine Lib.wpList_append_run _ rfl _ _ _ _ rfl _ _ rfl rfl _ _ HR29.out ?_)
                    go_roundg (fn - (i + 1) + 1)
                    case measure => omega
                    case rel => exact ⟨i + 1, vs2, FA2, c2, by rw [HL2.out], by go_num, by omega, HT2, Nat.le_refl _⟩
        · obtain rfl : i = fn := by omega
          have hT := HI.out
          have hx0 : x < w.heap.size := hx
          have hxb : XBoxAt wr x b := H.box.below hBr
          have hx8 : ∀ j ∈ blk A8, w.heap.size ≤ j ∧ j < W8.heap.size := fun j hj => ⟨(hA8 j hj).1, (hA8 j hj).2.2.1⟩
          have o0 := hxb.cell 0 _ rfl
          have p0 := hxb.free 0
          obtain ⟨V1, hV1⟩ : ∃ V1, wr.setCell ⟨x, 0, none⟩ (.slice FA' vs'.length c') = V1 := ⟨_, rfl⟩
          have b1 := hxb.set 0 (.slice FA' vs'.length c') { b with files := .slice FA' vs'.length c' } rfl
          rw [hV1] at b1
          have o1 := b1.cell 1 _ rfl
          have p1 := b1.free 1
          obtain ⟨V2, hV2⟩ : ∃ V2, V1.setCell ⟨x, 1, none⟩ (.slice A8 n c8) = V2 := ⟨_, rfl⟩
          have b2 := b1.set 1 (.slice A8 n c8) { b with files := .slice FA' vs'.length c', now := .slice A8 n c8 } rfl
          rw [hV2] at b2
          have o2 := b2.cell 2 _ rfl
          have p2 := b2.free 2
          obtain ⟨V3, hV3⟩ : ∃ V3, V2.setCell ⟨x, 2, none⟩ (.slice A8 n c8) = V3 := ⟨_, rfl⟩
          have b3 := b2.set 2 (.slice A8 n c8) { b with files := .slice FA' vs'.length c', now := .slice A8 n c8, sure := .slice A8 n c8 } rfl
          rw [hV3] at b3
          have o3 := b3.cell 3 _ rfl
          have p3 := b3.free 3
          obtain ⟨V4, hV4⟩ : ∃ V4, V3.setCell ⟨x, 3, none⟩ (.slice none 0 0) = V4 := ⟨_, rfl⟩
          have b4 := b3.set 3 (.slice none 0 0) { b with files := .slice FA' vs'.length c', now := .slice A8 n c8, sure := .slice A8 n c8, changes := .slice none 0 0 } rfl
          rw [hV4] at b4
          have o4 := b4.cell 6 _ rfl
          have p4 := b4.free 6
          obtain ⟨V5, hV5⟩ : ∃ V5, V4.setCell ⟨x, 6, none⟩ (.bool false) = V5 := ⟨_, rfl⟩
          have b5 := b4.set 6 (.bool false) { b with files := .slice FA' vs'.length c', now := .slice A8 n c8, sure := .slice A8 n c8, changes := .slice none 0 0, off := false } rfl
          rw [hV5] at b5
          have o5 := b5.cell 7 _ rfl
          have p5 := b5.free 7
          obtain ⟨V6, hV6⟩ : ∃ V6, V5.setCell ⟨x, 7, none⟩ (.int .i64 (-1)) = V6 := ⟨_, rfl⟩
          have b6 := b5.set 7 (.int .i64 (-1)) { b with files := .slice FA' vs'.length c', now := .slice A8 n c8, sure := .slice A8 n c8, changes := .slice none 0 0, off := false, stop := -1 } rfl
          rw [hV6] at b6
          have o6 := b6.cell 5 _ rfl
          have p6 := b6.free 5
          obtain ⟨V7, hV7⟩ : ∃ V7, V6.setCell ⟨x, 5, none⟩ (.bool false) = V7 := ⟨_, rfl⟩
          have b7 := b6.set 5 (.bool false) { b with files := .slice FA' vs'.length c', now := .slice A8 n c8, sure := .slice A8 n c8, changes := .slice none 0 0, off := false, stop := -1, full := false } rfl
          rw [hV7] at b7
          have hch : Chg [x] wr V7 := by
            rw [← hV7, ← hV6, ← hV5, ← hV4, ← hV3, ← hV2, ← hV1]
            have hm : ∀ k, x ∈ [x] ∨ wr.heap.size ≤ k := fun k => .inl (by simp)
            exact (((((((Chg.refl [x] wr).setCell x 0 _ (.inl (by simp))).setCell x 1 _ (.inl (by simp))).setCell x 2 _ (.inl (by simp))).setCell x 3 _ (.inl (by simp))).setCell x 6 _ (.inl (by simp))).setCell x 7 _ (.inl (by simp))).setCell x 5 _ (.inl (by simp))
          have HFIN := Lib.hid (H.lost hF F P hBw8 hT hfl hx8 hch b7)
          clear H hF F N P hs hK hzs hsu hB0 hs0 hcl hcr hfl hD hBr hBq hBw8 hBq8 hA8 hrow8 hLn hl8 HI hT hxb hx8 b1 b2 b3 b4 b5 b6 b7 hch
          go_wp2
          go_end0
          exact ⟨⟨_, rfl⟩, HFIN.out⟩
end
end Go.Proofs.Ytbjlikppboggmaa
