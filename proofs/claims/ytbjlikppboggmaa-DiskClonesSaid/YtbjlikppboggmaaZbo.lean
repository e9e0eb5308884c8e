/-
  Clone: the map of twins, the function that takes a file to its twin, copiedChange.
  Clone: the twins of the files, one by one; pairs of files and twins.
  Clone: files beside their twins, without memory; the disk that the twins make.
-/
import Derived.Test.YtbjlikppboggmaaZap
import Derived.Test.YtbjlikppboggmaaZat
import Derived.Test.YtbjlikppboggmaaZaa
import Derived.Test.YtbjlikppboggmaaZar
namespace Go.Proofs.Ytbjlikppboggmaa
open Go.RowKit Go.Maps
set_option linter.unusedVariables false
set_option linter.unusedSimpArgs false
set_option maxRecDepth 100000

/-- How a file's address reads as a map's element. -/
def twE : Value → Option (DataW Unit × List MemPlace)
  | .pointer none => some (.lit (.int .i64 (-1)), [])
  | .pointer (some ⟨b, 0, none⟩) => some (.lit (.int .i64 (b : Int)), [])
  | _ => none
theorem twE_some (b : Nat) : twE (.pointer (some ⟨b, 0, none⟩)) = some (.lit (.int .i64 (b : Int)), []) := rfl
theorem twE_inv {b : Nat} {v : Value} {ps : List MemPlace} (h : twE v = some (.lit (.int .i64 (b : Int)), ps)) : v = .pointer (some ⟨b, 0, none⟩) := by
  unfold twE at h
  split at h
  · simp at h
  · rename_i b'
    simp at h
    obtain ⟨h, _⟩ := h
    have : b' = b := by omega
    rw [this]
  · cases h
/-- The map in block M takes each file's number to its twin's block. -/
def TwinsAt (w : World) (M : Nat) (L : List (Nat × Nat)) : Prop := ∃ D, w.ownsMap Try.prog 3 twE M L.length D ∧ ∀ p ∈ L, ∀ z, D.atKey (.int .i64 (p.1 : Int)) z = .lit (.int .i64 (p.2 : Int))
theorem TwinsAt.new (w : World) : TwinsAt (w.alloc (.map #[] 0)) w.heap.size [] := ⟨_, World.ownsMap_made _ _ _ _, fun p hp => by cases hp⟩
theorem TwinsAt.same {w w' : World} {M : Nat} {L : List (Nat × Nat)} (h : TwinsAt w M L) (hb : w'.heap[M]? = w.heap[M]?) : TwinsAt w' M L := by
  obtain ⟨D, ⟨es, clock, h1, h2⟩, h3⟩ := h
  exact ⟨D, ⟨es, clock, hb.trans h1, h2⟩, h3⟩
theorem TwinsAt.lt {w : World} {M : Nat} {L : List (Nat × Nat)} (h : TwinsAt w M L) : M < w.heap.size := by
  obtain ⟨D, h1, _⟩ := h
  exact World.ownsMap.lt h1
theorem TwinsAt.put {w : World} {M : Nat} {L : List (Nat × Nat)} (h : TwinsAt w M L) (n b : Nat) (hn : n ≤ 9000000) (hL : L.length ≤ 1000000) (hnew : ∀ p ∈ L, p.1 ≠ n) :
    ∃ w', (Instr.mapUpdate 97 (.map (some M)) (.int .i64 (n : Int)) (.pointer (some ⟨b, 0, none⟩))).run Try.prog w = .ok () w' ∧ TwinsAt w' M (L ++ [(n, b)]) ∧ Chg [M] w w' := by
  obtain ⟨D, hD, hL2⟩ := h
  obtain ⟨w', h1, h2, h3⟩ := World.ownsMap.update (P := Try.prog) hD keyI Try.underlying97 (by unfold maxLen; omega) (keyOf_num n hn) (twE_some b)
  refine ⟨w', h1, ⟨_, by rw [List.length_append]; exact h2, fun p hp z => ?_⟩, (Chg.refl _ w).grown h3 (fun k hk => by injection hk with hk; subst hk; exact .inl (by simp))⟩
  rcases List.mem_append.1 hp with hp | hp
  · have hne : p.1 ≠ n := hnew p hp
    rw [atKey_put_other (by intro e; simp at e; omega)]
    exact hL2 p hp z
  · rw [List.mem_singleton] at hp
    subst hp
    exact atKey_put_same hD.isMap (show WideAt.IsKeyLit (Lit.int .i64 (n : Int)) from trivial) _ z
theorem TwinsAt.get {w : World} {M : Nat} {L : List (Nat × Nat)} (h : TwinsAt w M L) {n b : Nat} (hp : (n, b) ∈ L) (hn : n ≤ 9000000) :
    (Instr.lookup 97 (.map (some M)) (.int .i64 (n : Int)) false).run Try.prog w = .ok (.pointer (some ⟨b, 0, none⟩)) w := by
  obtain ⟨D, hD, hL⟩ := h
  obtain ⟨v, ps, h1, h2⟩ := World.ownsMap.lookup (P := Try.prog) hD keyI Try.underlying97 (zeroFP w) (show twE (.pointer none) = some (.lit (.int .i64 (-1)), []) from rfl) (keyOf_num n hn)
  rw [hL (n, b) hp] at h2
  rw [h1, twE_inv h2]
set_option maxHeartbeats 1600000 in
theorem twin_any (w : World) (f num : Nat) (A : Option Addr) (n c sure : Nat) (hF : FileAt w f num A n c sure) (hnum : num ≤ 1000000) (B M : Nat) (hB : w.cell? ⟨B, 0, none⟩ = some (.map (some M))) (L : List (Nat × Nat)) (hM : TwinsAt w M L) (b : Nat) (hp : (num, b) ∈ L) :
    Calls Try.prog 49 #[.pointer (some ⟨f, 0, none⟩), .pointer (some ⟨B, 0, none⟩)] w fun e w' => e = .returned (.pointer (some ⟨b, 0, none⟩)) ∧ Below w.heap.size w w' := by
  have c0 := hF.c0
  have hrun := (hM.same (w' := w.drew) rfl).get hp (by omega)
  have hrun' := hM.get hp (by omega)
  clear hM hF hp
  go_enter Try.func49, Try.ntmps49
  go_wp2_with fail
  go_region
  go_wp2
  go_ret
  exact ⟨rfl, (Below.refl _ w).drew⟩
theorem twin_nil (w : World) (B : Nat) : Calls Try.prog 49 #[.pointer none, .pointer (some ⟨B, 0, none⟩)] w fun e w' => e = .returned (.pointer none) ∧ Below w.heap.size w w' := by
  go_enter Try.func49, Try.ntmps49
  go_wp2
  go_ret
  exact ⟨rfl, Below.refl _ _⟩
theorem clone1_enters (args : Array Value) (w : World) : (callFunc 49 args).run Try.prog w = .ok (.enter 49 args) w := enters_of Try.func49 (by kernel_rfl) rfl args w
theorem infoPair : (Try.prog.info? 91).map (fun i => (i.zero, i.size, i.bytes)) = some (some (.agg #[.string ⟨#[]⟩, .pointer none]), 2, 24) := by kernel_rfl
theorem mapF_append (φ : Option Addr → Option Addr) (a b : List (ByteArray × Value)) : mapF φ (a ++ b) = mapF φ a ++ mapF φ b := by unfold mapF; rw [List.map_append]
theorem mapF_length (φ : Option Addr → Option Addr) (a : List (ByteArray × Value)) : (mapF φ a).length = a.length := by unfold mapF; rw [List.length_map]
/-- An append in a region that draws its order, its run given as an equation, the condition on the world kept. -/
theorem appendR_ready {P : Program} {md : Region.Mode} {ops : Array Oper} {Q : Exit → Act → World → Prop} {S : World → Prop} {fuel : Nat} {listed : Array Bool} {a : Act} {w : World} {i : Nat} {o : Oper} (ho : ops[i]? = some o) (hw : Region.wanted o (yielded ops a.tmps) = true)
    (s x : Operand) (t tn : TypeId) (hop : o.op = Op.call { callee := Callee.builtin Builtin.append, args := #[s, x], argTypes := #[t, tn] }) (vs vx : Value) (hs : a.eval s = vs) (hx : a.eval x = vx)
    (v' : Value) (w' : World) (hr : (Builtin.append_ #[t, tn] o.type #[vs, vx]).run P w = .ok v' w') (hS : S w') (h : wpAnyH P md ops Q S fuel (listed.setIfInBounds i true) (a.put o.dst v') w') : AllReadyH P md ops Q S fuel listed a w [i] := by
  refine AllReadyH.cons ho (fun K' hK => ?_) AllReadyH.nil
  rw [if_pos hw]
  exact Lib.wp_append_run w s x t tn hop vs vx hs hx v' w' hr (hK.out _ _ hS (fun _ => h))
theorem Chg.cell_new {w w2 w3 : World} {l : List Nat} {b i : Nat} (hc : Chg l w2 w3) (hb : Below w.heap.size w w2) (h0 : b ∉ l) (hl : b < w.heap.size) : w3.cell? ⟨b, i, none⟩ = w.cell? ⟨b, i, none⟩ :=
  (World.cell?_of_block (w := w2) (a := ⟨b, i, none⟩) (hc.same b (by have := hb.size; omega) h0)).trans (hb.cell (p := ⟨b, i, none⟩) hl)
section
variable {P : Program} {md : Region.Mode} {ops : Array Oper} {Q : Exit → Act → World → Prop} {S : World → Prop}
/-- takeH, what is reckoned left to be reckoned. -/
theorem tz (i : Nat) (d : Tmp) {oi : Oper} {v : Value} {fuel : Nat} {listed : Array Bool} {a : Act} {w : World} (hi : ops[i]? = some oi) (hd : oi.dst = some d)
    (hy : ∀ w, S w → (execOp a.eval oi).run P w = .ok (.value v) w) (hS : S w)
    (h : wpAnyH P md ops Q S fuel (listed.setIfInBounds i true) (a.put (some d) v) w)
    (hs : Region.noSelect ops = true := by kernel_rfl) (hf : Region.free md ops listed i = true := by kernel_rfl) (hr : (Region.ready md ops listed).contains i = true := by kernel_rfl)
    (hQ : ∀ c a w, Q (.panic c) (a.put (some d) v) w → Q (.panic c) a w := by exact fun _ _ _ h => h) (hw : Region.wanted oi (yielded ops a.tmps) = true := by rfl) : wpAnyH P md ops Q S (fuel + 1) listed a w :=
  takeH i d hi hd hs hf hr hQ hw hy hS h
end
set_option maxHeartbeats 3200000 in
theorem copiedChange_any (w : World) (P : Option Addr) (m c : Nat) (chs : List (ByteArray × Value)) (hP : SLine 2 w P m c (cellsP encS chs)) (hsh : ∀ p ∈ chs, ∃ a : Option Addr, p.2 = .pointer a) (hm : m ≤ 90000) (tb : Nat) (φ : Option Addr → Option Addr)
    (hother : ∀ W, Below w.heap.size w W → ∀ p ∈ chs, ∀ a, p.2 = .pointer a → Calls Try.prog 49 #[.pointer a, .pointer (some ⟨tb, 0, none⟩)] W fun e W' => e = .returned (.pointer (φ a)) ∧ Below W.heap.size W W') :
    Calls Try.prog 51 #[.slice P m c, .func (.func 49) #[] #[.pointer (some ⟨tb, 0, none⟩)]] w fun e w' => (∃ A' c', e = .returned (.slice A' m c') ∧ SLine 2 w' A' m c' (cellsP encS (mapF φ chs)) ∧ ∀ k ∈ blk A', w.heap.size ≤ k) ∧ Below w.heap.size w w' := by
  have hlen : chs.length = m := by have := hP.1; rw [cellsP_length] at this; omega
  have hmc : m ≤ c := hP.2.1
  have HP := Lib.hid hP
  have HSH := Lib.hid hsh
  have HO := Lib.hid hother
  have HLEN := Lib.hid hlen
  clear hP hsh hother hlen
  go_enter Try.func51, Try.ntmps51
  go_wp2_with fail
  go_loopw [5, 10] (fun v i wr => ∃ (j : Nat) (A : Option Addr) (c' : Nat), j ≤ m ∧ i = .int .i64 j ∧ v = .slice A j c' ∧ Hid (SLine 2 wr A j c' (cellsP encS (mapF φ (chs.take j))) ∧ (∀ k ∈ blk A, w.heap.size ≤ k) ∧ Below w.heap.size w wr)) (fun _ i _ => m - (intOf i).toNat)
  case atStart => exact ⟨0, none, 0, by omega, rfl, rfl, Lib.hid ⟨SLine.nil 2 _, fun k hk => (by cases hk), Below.refl _ _⟩⟩
  case round =>
    obtain ⟨j, A, c', hj, rfl, rfl, HI⟩ := hrel
    rcases Nat.lt_or_ge j m with hlt | hge
    · obtain ⟨⟨x, v⟩, hq⟩ : ∃ p, chs[j]? = some p := ⟨_, List.getElem?_eq_getElem (by have := HLEN.out; omega)⟩
      obtain ⟨a, ha⟩ := HSH.out _ (List.mem_of_getElem? hq)
      dsimp only at ha
      subst ha
      obtain ⟨g, off, rfl, hg, hcs, _⟩ := (HP.out.below HI.out.2.2).at (by omega)
      obtain ⟨p1, p2⟩ := cellsP_at encS chs j _ hq
      have d0 := (hcs (j * 2) (by omega)).trans p1
      have d1 : wr.cell? ⟨g, off + j * 2 + 1, none⟩ = some (.pointer a) := by rw [Nat.add_assoc]; exact (hcs (j * 2 + 1) (by omega)).trans p2
      unfold encS at d0
      obtain ⟨Wa, hWa⟩ : ∃ Wa, wr.alloc (.cells #[.string x, .pointer a] 91) = Wa := ⟨_, rfl⟩
      have hBa : Below wr.heap.size wr Wa := by rw [← hWa]; exact (Below.refl _ wr).alloc (Nat.le_refl _) _
      have hva : Wa.heap[wr.heap.size]? = some (.cells #[.string x, .pointer a] 91 (0, 0)) := by rw [← hWa]; exact heap_alloc_new wr _
      have hwr := HI.out.2.2.size
      have hvA : wr.heap.size ∉ blk A := fun hm => by have := HI.out.1.lt _ hm; omega
      have HBw : Hid (Below w.heap.size w Wa.drew) := Lib.hid (HI.out.2.2.trans (hBa.mono hwr)).drew
      have HL2 : Hid (∀ V, Below Wa.drew.heap.size Wa.drew V → SLine 2 V A j c' (cellsP encS (mapF φ (chs.take j)))) := Lib.hid (fun V hV => (HI.out.1.below hBa).drew.below hV)
      have HOT := Lib.hid (HO.out Wa.drew HBw.out _ (List.mem_of_getElem? hq) a rfl)
      have HSTEP : Hid (∀ (w2 : World), Below Wa.drew.heap.size Wa.drew w2 → ∀ (C2 : Option Addr) (c2 : Nat) (w3 : World), SLine 2 w3 C2 (j + 1) c2 (cellsP encS (mapF φ (chs.take j)) ++ [.string x, .pointer (φ a)]) → Chg (blk A) w2 w3 → (∀ k ∈ blk C2, k ∈ blk A ∨ w2.heap.size ≤ k) →
          SLine 2 w3 C2 (j + 1) c2 (cellsP encS (mapF φ (chs.take (j + 1)))) ∧ (∀ k ∈ blk C2, w.heap.size ≤ k) ∧ Below w.heap.size w w3) := Lib.hid (fun w2 hb2 C2 c2 w3 hl hc hf => by
        have hz := HBw.out.size
        have hz2 := hb2.size
        have hbw := HBw.out.trans (hb2.mono hz)
        refine ⟨?_, fun k hk => ?_, hbw.trans (hc.toBelow HI.out.2.1 (by omega))⟩
        · rw [List.take_add_one, hq, mapF_append, cellsP_append]
          exact hl
        · rcases hf k hk with h | h
          · exact HI.out.2.1 k h
          · omega)
      obtain ⟨va, hvae⟩ : ∃ va, wr.heap.size = va := ⟨_, rfl⟩
      rw [hvae] at hva hvA
      have HSa : Hid (Wa.drew.cell? ⟨va, 0, none⟩ = some (.string x) ∧ Wa.drew.cell? ⟨va, 1, none⟩ = some (.pointer a)) := Lib.hid ⟨by rw [cell_of_row Wa.drew va 0 _ _ (0, 0) hva]; rfl, by rw [cell_of_row Wa.drew va 1 _ _ (0, 0) hva]; rfl⟩
      have hval : va < Wa.drew.heap.size := lt_of_block hva
      have hlt' : (j : Int) < (m : Int) := by omega
      have hj0 : (0 : Int) ≤ (j : Int) := by omega
      clear hBa hva hcs p1 p2 hwr hq
      go_upto_region 5 with fail
      refine wp_region_held_drew (S := fun V => V.cell? ⟨va, 0, none⟩ = some (.string x) ∧ V.cell? ⟨va, 1, none⟩ = some (.pointer a)) (by kernel_rfl) HSa.out (fun _ => ?_)
      refine tz 0 14 (v := (.slice A j c')) rfl rfl ?_ HSa.out ?_
      · intro w hSw
        go_simp
      simp only [Act.put, List.setIfInBounds_toArray, List.set_cons_zero, List.set_cons_succ]
      refine tz 1 15 (v := (.pointer (some ⟨va, 0, none⟩))) rfl rfl ?_ HSa.out ?_
      · intro w hSw
        go_simp
      simp only [Act.put, List.setIfInBounds_toArray, List.set_cons_zero, List.set_cons_succ]
      refine tz 2 16 (v := (.string x)) rfl rfl ?_ HSa.out ?_
      · intro w hSw
        obtain ⟨s0, s1⟩ := hSw
        go_simp
      simp only [Act.put, List.setIfInBounds_toArray, List.set_cons_zero, List.set_cons_succ]
      refine tz 3 17 (v := (.func (.func 49) #[] #[.pointer (some ⟨tb, 0, none⟩)])) rfl rfl ?_ HSa.out ?_
      · intro w hSw
        go_simp
      simp only [Act.put, List.setIfInBounds_toArray, List.set_cons_zero, List.set_cons_succ]
      refine tz 4 18 (v := (.pointer (some ⟨va, 1, none⟩))) rfl rfl ?_ HSa.out ?_
      · intro w hSw
        go_simp
      simp only [Act.put, List.setIfInBounds_toArray, List.set_cons_zero, List.set_cons_succ]
      refine tz 5 19 (v := (.pointer a)) rfl rfl ?_ HSa.out ?_
      · intro w hSw
        obtain ⟨s0, s1⟩ := hSw
        go_simp
      simp only [Act.put, List.setIfInBounds_toArray, List.set_cons_zero, List.set_cons_succ]
      refine wpAnyH_ready (rs := [6]) (by kernel_rfl) (by simp) ?_
      refine AllReadyH.cons rfl (fun K hK => ?_) AllReadyH.nil
      go_simp
      go_at_call 49
      with_reducible refine HOT.out.mono ?_
      rintro e w2 ⟨rfl, hb2⟩
      obtain ⟨C2, c2, w3, hr, hl, hc, hf, _⟩ := push_s 2 w2 101 91 101 _ 24 Try.underlying101 infoPair rfl (by decide) A j c' _ (HL2.out w2 hb2) (by omega) [.string x, .pointer (φ a)] rfl (fun u hu => by simp only [List.mem_cons, List.not_mem_nil, or_false] at hu; rcases hu with h | h <;> (rw [h]; rfl))
      have HR := Lib.hid hr
      have HNEW := Lib.hid (HSTEP.out w2 hb2 C2 c2 w3 hl hc hf)
      have HS2 : Hid (w2.cell? ⟨va, 0, none⟩ = some (.string x) ∧ w2.cell? ⟨va, 1, none⟩ = some (.pointer a)) := Lib.hid ⟨(hb2.cell (p := ⟨va, 0, none⟩) hval).trans HSa.out.1, (hb2.cell (p := ⟨va, 1, none⟩) hval).trans HSa.out.2⟩
      have HS2b : Hid (w3.cell? ⟨va, 0, none⟩ = some (.string x) ∧ w3.cell? ⟨va, 1, none⟩ = some (.pointer a)) := Lib.hid ⟨(hc.cell_new hb2 hvA hval).trans HSa.out.1, (hc.cell_new hb2 hvA hval).trans HSa.out.2⟩
      have hb2a : Below w2.heap.size w2 (w2.alloc (.cells #[.string x, .pointer (φ a)] 91)) := (Below.refl _ w2).alloc (Nat.le_refl _) _
      have HS2a : Hid ((w2.alloc (.cells #[.string x, .pointer (φ a)] 91)).cell? ⟨va, 0, none⟩ = some (.string x) ∧ (w2.alloc (.cells #[.string x, .pointer (φ a)] 91)).cell? ⟨va, 1, none⟩ = some (.pointer a)) := Lib.hid ⟨(hb2a.cell (p := ⟨va, 0, none⟩) (by have := hb2.size; show va < _; omega)).trans HS2.out.1, (hb2a.cell (p := ⟨va, 1, none⟩) (by have := hb2.size; show va < _; omega)).trans HS2.out.2⟩
      clear hb2 hr hl hc hf hb2a
      refine hK.out _ _ HS2.out (fun _ => ?_)
      clear hK K
      try simp only [Act.put, List.setIfInBounds_toArray, List.set_cons_zero, List.set_cons_succ]
      refine tz 7 21 (v := (.agg #[.string x, .pointer (φ a)])) rfl rfl ?_ HS2.out ?_
      · intro w hSw
        go_simp
      simp only [Act.put, List.setIfInBounds_toArray, List.set_cons_zero, List.set_cons_succ]
      refine wpAnyH_ready (rs := [8]) (by kernel_rfl) (by simp) ?_
      refine AllReadyH.cons rfl (fun K hK => ?_) AllReadyH.nil
      go_simp
      refine hK.out _ _ HS2a.out (fun _ => ?_)
      clear hK K
      try simp only [Act.put, List.setIfInBounds_toArray, List.set_cons_zero, List.set_cons_succ]
      refine wpAnyH_ready (rs := [9]) (by kernel_rfl) (by simp) ?_
      refine appendR_ready rfl (by kernel_rfl) _ _ _ _ rfl _ _ rfl rfl _ _ HR.out HS2b.out ?_
      try simp only [Act.put, List.setIfInBounds_toArray, List.set_cons_zero, List.set_cons_succ]
      refine tz 10 5 (v := (.slice C2 (j + 1) c2)) rfl rfl ?_ HS2b.out ?_
      · intro w hSw
        go_simp
      simp only [Act.put, List.setIfInBounds_toArray, List.set_cons_zero, List.set_cons_succ]
      refine wpAnyH_done (by kernel_rfl) ?_ _
      go_wp2
      go_roundw
      case rel => exact ⟨j + 1, C2, c2, by omega, by go_num, rfl, HNEW⟩
      case measure => simp [intOf]; omega
    · obtain rfl : j = m := by omega
      have HE := HI
      rw [← HLEN.out, List.take_length, HLEN.out] at HE
      clear HI
      go_wp2
      go_ret
      exact ⟨⟨A, c', rfl, HE.out.1, HE.out.2.1⟩, HE.out.2.2⟩
end Go.Proofs.Ytbjlikppboggmaa
namespace Go.Proofs.Ytbjlikppboggmaa
open Go.RowKit Go.Maps
set_option linter.unusedVariables false
set_option maxRecDepth 100000

/-- A disk that is being copied: so many of its files have a twin. -/
structure TwIn (w wr : World) (cb M tb : Nat) (own2 : Nat → Nat) (b : DBox) (GA : Option Addr) (j gc : Nat) (fs gs : List Value) (L : List (Nat × Nat)) (nm su : Value → Nat) (dt : Value → List Value) : Prop where
  below : Below w.heap.size w wr
  box : DBoxAt wr cb { b with files := .slice GA j gc }
  var : wr.heap[tb]? = some (.cells #[.map (some M)] 97 (0, 0))
  twins : TwinsAt wr M L
  line : SLine 1 wr GA j gc gs
  o1 : own2 cb = 1
  oM : own2 M = 0
  oT : own2 tb = 0
  o0 : ∀ i, i < w.heap.size → own2 i = 0
  oN : ∀ i, wr.heap.size ≤ i → own2 i = 0
  oF : ∀ k ∈ blk GA, own2 k = 2
  two : ∀ i f, fs[i]? = some f → i < j → ∃ tf : Nat, gs[i]? = some (.pointer (some ⟨tf, 0, none⟩)) ∧ (nm f, tf) ∈ L ∧ FileO wr own2 (.pointer (some ⟨tf, 0, none⟩)) (nm f) (dt f) (su f)
  num : ∀ p ∈ L, ∃ f ∈ fs.take j, p.1 = nm f
  len : L.length = j
section
variable {w wr : World} {cb M tb : Nat} {own2 : Nat → Nat} {b : DBox} {GA : Option Addr} {j gc : Nat} {fs gs : List Value} {L : List (Nat × Nat)} {nm su : Value → Nat} {dt : Value → List Value}
theorem TwIn.glen (T : TwIn w wr cb M tb own2 b GA j gc fs gs L nm su dt) : gs.length = j := by have := T.line.1; omega
theorem TwIn.step (T : TwIn w wr cb M tb own2 b GA j gc fs gs L nm su dt) (hM : M < w.heap.size + 3 ∧ w.heap.size ≤ M) (hMt : M ≠ tb) (hMc : M ≠ cb) (htc : tb ≠ cb) (v : Value) (hv : fs[j]? = some v) (n : Nat) (A' : Option Addr) (c' : Nat) (w2 : World) (hB2 : Below wr.heap.size wr w2)
    (hl2 : SLine 1 w2 A' n c' (dt v)) (hA' : ∀ k ∈ blk A', wr.heap.size ≤ k) (hn : n ≤ 1048576) (hs : su v ≤ n) (w3 : World) (hw3 : w2.alloc (.cells #[.int .i64 (nm v : Int), .slice A' n c', .int .i64 (su v : Int)] 85) = w3) (w4 : World) (hT4 : TwinsAt w4 M (L ++ [(nm v, w2.heap.size)])) (hc4 : Chg [M] w3 w4)
    (C2 : Option Addr) (c2 : Nat) (w5 : World) (hl5 : SLine 1 w5 C2 (j + 1) c2 (gs ++ [.pointer (some ⟨w2.heap.size, 0, none⟩)])) (hc5 : Chg (blk GA) w4 w5) (hf5 : ∀ k ∈ blk C2, k ∈ blk GA ∨ w4.heap.size ≤ k) :
    ∃ own', TwIn w (w5.setCell ⟨cb, 0, none⟩ (.slice C2 (j + 1) c2)) cb M tb own' b C2 (j + 1) c2 fs (gs ++ [.pointer (some ⟨w2.heap.size, 0, none⟩)]) (L ++ [(nm v, w2.heap.size)]) nm su dt := by
  have z2 := hB2.size
  have z3 : w3.heap.size = w2.heap.size + 1 := by rw [← hw3]; simp
  have hB3 : Below w2.heap.size w2 w3 := by rw [← hw3]; exact (Below.refl _ w2).alloc (Nat.le_refl _) _
  have hf3 : w3.heap[w2.heap.size]? = some (.cells #[.int .i64 (nm v : Int), .slice A' n c', .int .i64 (su v : Int)] 85 (0, 0)) := by rw [← hw3]; exact heap_alloc_new w2 _
  have z4 := hc4.size
  have z5 := hc5.size
  have hcbl := T.box.lt
  have htl := lt_of_block T.var
  have hMl := T.twins.lt
  have hGl := T.line.lt
  have zw := T.below.size
  have hc6 : Chg [cb] w5 (w5.setCell ⟨cb, 0, none⟩ (.slice C2 (j + 1) c2)) := (Chg.refl _ w5).setCell cb 0 _ (.inl (by simp))
  have z6 := hc6.size
  obtain ⟨w6, hw6⟩ : ∃ w6, w5.setCell ⟨cb, 0, none⟩ (.slice C2 (j + 1) c2) = w6 := ⟨_, rfl⟩
  have hcbG : cb ∉ blk GA := fun hm => by have := T.oF cb hm; have := T.o1; omega
  have htG : tb ∉ blk GA := fun hm => by have := T.oF tb hm; have := T.oT; omega
  have hMG : M ∉ blk GA := fun hm => by have := T.oF M hm; have := T.oM; omega
  have hGw : ∀ k ∈ blk GA, w.heap.size ≤ k := fun k hk => by
    rcases Nat.lt_or_ge k w.heap.size with q | q
    · have := T.o0 k q
      have := T.oF k hk
      omega
    · exact q
  have hcw : w.heap.size ≤ cb := by
    rcases Nat.lt_or_ge cb w.heap.size with q | q
    · have := T.o0 cb q
      have := T.o1
      omega
    · exact q
  have hk5 : ∀ k, k < wr.heap.size → k ≠ M → k ∉ blk GA → w5.heap[k]? = wr.heap[k]? := fun k h1 h2 h3 => (hc5.same k (by omega) h3).trans ((hc4.same k (by omega) (by simp only [List.mem_singleton]; exact h2)).trans ((hB3.block k (by omega)).trans (hB2.block k h1)))
  have hk6 : ∀ k, k < w5.heap.size → k ≠ cb → w6.heap[k]? = w5.heap[k]? := fun k h1 h2 => by rw [← hw6]; exact hc6.same k h1 (by simp only [List.mem_singleton]; exact h2)
  have hbox5 : DBoxAt w5 cb { b with files := .slice GA j gc } := (hk5 cb hcbl hMc.symm hcbG).trans T.box
  have hbox6 : DBoxAt w6 cb { b with files := .slice C2 (j + 1) c2 } := by rw [← hw6]; exact hbox5.set 0 _ _ rfl
  rw [hw6]
  rw [hw6] at z6
  have hfb5 : w5.heap[w2.heap.size]? = w3.heap[w2.heap.size]? := (hc5.same _ (by omega) (fun hm => by have := hGl _ hm; omega)).trans (hc4.same _ (by omega) (by simp only [List.mem_singleton]; omega))
  obtain ⟨own', hown⟩ : ∃ own' : Nat → Nat, own' = fun k => if k ∈ blk A' then 8 + nm v else if k = w2.heap.size then 7 else if k ∈ blk C2 then 2 else own2 k := ⟨_, rfl⟩
  have hA2 : ∀ k ∈ blk A', k < w2.heap.size := hl2.lt
  have hold : ∀ k, k < wr.heap.size → own' k = own2 k := fun k hk => by
    rw [hown]
    simp only [show ¬ k ∈ blk A' from fun hm => by have := hA' k hm; omega, if_false, show ¬ k = w2.heap.size by omega]
    by_cases hm : k ∈ blk C2
    · rw [if_pos hm]
      rcases hf5 k hm with h | h
      · exact (T.oF k h).symm
      · omega
    · rw [if_neg hm]
  refine ⟨own', ?_, hbox6, ?_, ?_, ?_, ?_, ?_, ?_, ?_, ?_, ?_, ?_, ?_, ?_⟩
  · exact ((((T.below.trans (hB2.mono zw)).trans (hB3.mono (by omega))).trans (hc4.toBelow (fun k hk => by simp only [List.mem_singleton] at hk; omega) (by omega))).trans (hc5.toBelow hGw (by omega))).trans (by rw [← hw6]; exact hc6.toBelow (fun k hk => by rw [List.mem_singleton] at hk; omega) (by omega))
  · exact (hk6 tb (by omega) htc).trans ((hk5 tb htl hMt.symm htG).trans T.var)
  · exact (hT4.same (hc5.same M (by omega) hMG)).same (hk6 M (by omega) hMc)
  · exact hl5.same z6 (fun k hk => hk6 k (hl5.lt k hk) (fun e => by
      rw [e] at hk
      rcases hf5 cb hk with h | h
      · exact hcbG h
      · omega))
  · rw [hold cb hcbl]; exact T.o1
  · rw [hold M hMl]; exact T.oM
  · rw [hold tb htl]; exact T.oT
  · exact fun i hi => (hold i (by omega)).trans (T.o0 i hi)
  · intro i hi
    rw [hown]
    simp only [show ¬ i ∈ blk A' from fun hm => by have := hA2 i hm; omega, if_false, show ¬ i = w2.heap.size by omega, show ¬ i ∈ blk C2 from fun hm => by have := hl5.lt i hm; omega]
    exact T.oN i (by omega)
  · intro k hk
    rcases hf5 k hk with h | h
    · exact (hold k (hGl k h)).trans (T.oF k h)
    · rw [hown]
      simp only [show ¬ k ∈ blk A' from fun hm => by have := hA2 k hm; omega, if_false, show ¬ k = w2.heap.size by omega, hk, if_true]
  · intro i f hf hi
    rcases Nat.lt_or_ge i j with hij | hij
    · obtain ⟨tf, h1, h2, h3⟩ := T.two i f hf hij
      refine ⟨tf, by rw [List.getElem?_append_left (by rw [T.glen]; exact hij)]; exact h1, List.mem_append_left _ h2, ?_⟩
      refine h3.carry (by omega) hold (fun k hk ho => ?_)
      have hkc : k ≠ cb := fun e => by rw [e, T.o1] at ho; omega
      exact (hk6 k (by omega) hkc).trans (hk5 k hk (fun e => by rw [e, T.oM] at ho; omega) (fun hm => by have := T.oF k hm; omega))
    · obtain rfl : i = j := by omega
      rw [hv] at hf
      cases hf
      refine ⟨w2.heap.size, by rw [List.getElem?_append_right (by rw [T.glen]; exact Nat.le_refl _), T.glen, Nat.sub_self]; rfl, List.mem_append_right _ (by simp), w2.heap.size, A', n, c', rfl, ?_, ?_, ?_, ?_, hn, hs⟩
      · rw [hown]
        simp only [show ¬ w2.heap.size ∈ blk A' from fun hm => by have := hA2 _ hm; omega, if_false, if_true]
      · exact (hk6 _ (by omega) (by omega)).trans (hfb5.trans hf3)
      · refine hl2.same (by omega) (fun k hk => ?_)
        have h1 := hA2 k hk
        have h2 := hA' k hk
        exact (hk6 k (by omega) (by omega)).trans ((hc5.same k (by omega) (fun hm => by have := hGl k hm; omega)).trans ((hc4.same k (by omega) (by simp only [List.mem_singleton]; omega)).trans (hB3.block k h1)))
      · intro k hk
        rw [hown]
        simp only [hk, if_true]
  · intro p hp
    rcases List.mem_append.1 hp with h | h
    · obtain ⟨f, h1, h2⟩ := T.num p h
      exact ⟨f, List.mem_of_mem_take (i := j) (by rw [List.take_take, Nat.min_eq_left (Nat.le_succ j)]; exact h1), h2⟩
    · rw [List.mem_singleton] at h
      exact ⟨v, by rw [List.take_add_one, hv]; simp, by rw [h]⟩
  · rw [List.length_append, T.len]; rfl
end
end Go.Proofs.Ytbjlikppboggmaa
namespace Go.Proofs.Ytbjlikppboggmaa
open Go.RowKit Go.Maps
set_option linter.unusedVariables false
set_option maxRecDepth 100000

/-- Each file beside its twin. -/
structure Pairs (fs gs : List Value) : Prop where
  len : gs.length = fs.length
  fi : ∀ (i k : Nat) (v : Value), fs[i]? = some v → fs[k]? = some v → i = k
  gi : ∀ (i k : Nat) (v : Value), gs[i]? = some v → gs[k]? = some v → i = k
  fp : ∀ v ∈ fs, ∃ f : Nat, v = .pointer (some ⟨f, 0, none⟩)
  gp : ∀ v ∈ gs, ∃ g : Nat, v = .pointer (some ⟨g, 0, none⟩)
theorem Pairs.symm {fs gs : List Value} (P : Pairs fs gs) : Pairs gs fs := ⟨P.len.symm, P.gi, P.fi, P.gp, P.fp⟩
def sameP (u v : Value) : Bool := match u, v with | .pointer (some a), .pointer (some b) => a.block == b.block | _, _ => false
def mateV (fs gs : List Value) (v : Value) : Value := match (fs.zip gs).find? (fun p => sameP p.1 v) with | some p => p.2 | none => .pointer none
theorem mate_at {fs gs : List Value} (P : Pairs fs gs) {i : Nat} {v u : Value} (h1 : fs[i]? = some v) (h2 : gs[i]? = some u) : mateV fs gs v = u := by
  obtain ⟨f, rfl⟩ := P.fp v (List.mem_of_getElem? h1)
  have hz : (fs.zip gs)[i]? = some (.pointer (some ⟨f, 0, none⟩), u) := by rw [List.getElem?_zip_eq_some]; exact ⟨h1, h2⟩
  unfold mateV
  cases hf : (fs.zip gs).find? (fun p => sameP p.1 (.pointer (some ⟨f, 0, none⟩))) with
  | none =>
    have := List.find?_eq_none.1 hf _ (List.mem_of_getElem? hz)
    simp [sameP] at this
  | some p =>
    have h3 := List.find?_some hf
    obtain ⟨k, hk, e⟩ := List.mem_iff_getElem.1 (List.mem_of_find?_eq_some hf)
    have hk' : (fs.zip gs)[k]? = some p := by rw [List.getElem?_eq_getElem hk, e]
    obtain ⟨p1, p2⟩ := p
    rw [List.getElem?_zip_eq_some] at hk'
    obtain ⟨f', rfl⟩ := P.fp p1 (List.mem_of_getElem? hk'.1)
    have hff : f' = f := by simpa [sameP] using h3
    rw [hff] at hk'
    have := P.fi k i _ hk'.1 h1
    rw [this, h2] at hk'
    exact (Option.some.inj hk'.2).symm
theorem mate_nil (fs gs : List Value) : mateV fs gs (.pointer none) = .pointer none := by
  unfold mateV
  rw [List.find?_eq_none.2 (fun p _ => by unfold sameP; split <;> simp_all)]
theorem mate_mem {fs gs : List Value} (P : Pairs fs gs) {v : Value} (h : v ∈ fs) : mateV fs gs v ∈ gs ∧ mateV gs fs (mateV fs gs v) = v ∧ ∃ g : Nat, mateV fs gs v = .pointer (some ⟨g, 0, none⟩) := by
  obtain ⟨i, hi, e⟩ := List.mem_iff_getElem.1 h
  have h1 : fs[i]? = some v := by rw [List.getElem?_eq_getElem hi, e]
  obtain ⟨u, h2⟩ : ∃ u, gs[i]? = some u := ⟨_, List.getElem?_eq_getElem (by rw [P.len]; exact hi)⟩
  rw [mate_at P h1 h2]
  exact ⟨List.mem_of_getElem? h2, mate_at P.symm h2 h1, P.gp u (List.mem_of_getElem? h2)⟩
def phi (fs gs : List Value) (a : Option Addr) : Option Addr := match mateV fs gs (.pointer a) with | .pointer g => g | _ => none
theorem phi_nil (fs gs : List Value) : phi fs gs none = none := by unfold phi; rw [mate_nil]
theorem phi_at {fs gs : List Value} (P : Pairs fs gs) {i f g : Nat} (h1 : fs[i]? = some (.pointer (some ⟨f, 0, none⟩))) (h2 : gs[i]? = some (.pointer (some ⟨g, 0, none⟩))) : phi fs gs (some ⟨f, 0, none⟩) = some ⟨g, 0, none⟩ := by
  unfold phi
  rw [mate_at P h1 h2]
/-- Other files in a directory's place. -/
def mapG (g : Value → Value) (ps : List (ByteArray × Value)) : List (ByteArray × Value) := ps.map fun p => (p.1, g p.2)
theorem mapF_mate {fs gs : List Value} (P : Pairs fs gs) (ps : List (ByteArray × Value)) (h : ∀ p ∈ ps, p.2 = .pointer none ∨ p.2 ∈ fs) : mapF (phi fs gs) ps = mapG (mateV fs gs) ps := by
  unfold mapF mapG
  refine List.map_congr_left fun p hp => ?_
  rcases h p hp with e | e
  · rw [e, mate_nil]
    show (p.1, Value.pointer (phi fs gs none)) = _
    rw [phi_nil]
  · obtain ⟨f, ef⟩ := P.fp _ e
    obtain ⟨_, _, g, eg⟩ := mate_mem P e
    rw [ef] at eg ⊢
    show (p.1, Value.pointer (phi fs gs (some ⟨f, 0, none⟩))) = _
    unfold phi
    rw [eg]
theorem mapG_put (g : Value → Value) (ps : List (ByteArray × Value)) (k : ByteArray) (v : Value) : mapG g (putP ltS ps k v) = putP ltS (mapG g ps) k (g v) := by
  unfold mapG putP
  rw [List.map_append, List.map_cons, List.filter_map, List.filter_map]
  rfl
theorem mapG_drop (g : Value → Value) (ps : List (ByteArray × Value)) (k : ByteArray) : mapG g (dropP ltS ps k) = dropP ltS (mapG g ps) k := by
  unfold mapG dropP
  rw [List.map_append, List.filter_map, List.filter_map]
  rfl
theorem layOne_G {g : Value → Value} (h0 : g (.pointer none) = .pointer none) (ps : List (ByteArray × Value)) (c : ByteArray × Value) (h1 : c.2 ≠ .pointer none → g c.2 ≠ .pointer none) : mapG g (layOne ps c) = layOne (mapG g ps) (c.1, g c.2) := by
  obtain ⟨k, v⟩ := c
  by_cases h : v = .pointer none
  · subst h
    show mapG g (dropP ltS ps k) = layOne (mapG g ps) (k, g (.pointer none))
    rw [h0, layOne_drop]
    exact mapG_drop g ps k
  · rw [layOne_put _ _ h, mapG_put, layOne_put _ _ (h1 h)]
theorem layP_G {g : Value → Value} (h0 : g (.pointer none) = .pointer none) (cs : List (ByteArray × Value)) : ∀ ps : List (ByteArray × Value), (∀ c ∈ cs, c.2 ≠ .pointer none → g c.2 ≠ .pointer none) → mapG g (layP ps cs) = layP (mapG g ps) (mapG g cs) := by
  induction cs with
  | nil => exact fun ps _ => rfl
  | cons c l ih =>
    intro ps h
    show mapG g (layP (layOne ps c) l) = layP (layOne (mapG g ps) (c.1, g c.2)) (mapG g l)
    rw [ih _ (fun x hx => h x (List.mem_cons_of_mem _ hx)), layOne_G h0 _ _ (h c (List.mem_cons_self ..))]
theorem layAll_G {g : Value → Value} (h0 : g (.pointer none) = .pointer none) (chl : List (List (ByteArray × Value))) : ∀ ps : List (ByteArray × Value), (∀ cs ∈ chl, ∀ c ∈ cs, c.2 ≠ .pointer none → g c.2 ≠ .pointer none) → mapG g (layAll ps chl) = layAll (mapG g ps) (chl.map (mapG g)) := by
  induction chl with
  | nil => exact fun ps _ => rfl
  | cons c l ih =>
    intro ps h
    show mapG g (layAll (layP ps c) l) = layAll (layP (mapG g ps) (mapG g c)) (l.map (mapG g))
    rw [ih _ (fun x hx => h x (List.mem_cons_of_mem _ hx)), layP_G h0 _ _ (h c (List.mem_cons_self ..))]
theorem mapT_G {nm nm2 : Value → Nat} {g : Value → Value} (ps : List (ByteArray × Value)) (h : ∀ p ∈ ps, tag nm2 (g p.2) = tag nm p.2) : mapT nm2 (mapG g ps) = mapT nm ps := by
  unfold mapT mapG
  rw [List.map_map]
  refine List.map_congr_left fun p hp => ?_
  show (p.1, tag nm2 (g p.2)) = _
  rw [h p hp]
theorem mem_take_at' {l : List Value} {j : Nat} {v : Value} (h : v ∈ l.take j) : ∃ i, i < j ∧ l[i]? = some v := by
  obtain ⟨i, hi, e⟩ := List.mem_iff_getElem.1 h
  rw [List.length_take] at hi
  exact ⟨i, by omega, by rw [List.getElem_take] at e; rw [List.getElem?_eq_getElem (by omega), e]⟩
section
variable {w : World} {d : Nat} {own : Nat → Nat} {b : DBox} {F RA SA C : Option Addr} {fn fc rn rc sn sc cn cc : Nat} {fs css : List Value} {ps ss : List (ByteArray × Value)} {chl : List (List (ByteArray × Value))} {nm su : Value → Nat} {dt : Value → List Value} {r : RD}
theorem DiskIn.fi (H : DiskIn w d own b F fn fc RA rn rc SA sn sc C cn cc fs ps ss css chl nm dt su) : ∀ (i k : Nat) (v : Value), fs[i]? = some v → fs[k]? = some v → i = k := by
  intro i k v h1 h2
  obtain ⟨hi, e1⟩ := List.getElem?_eq_some_iff.1 h1
  obtain ⟨hk, e2⟩ := List.getElem?_eq_some_iff.1 h2
  have hp := List.pairwise_iff_getElem.1 H.rises
  rcases Nat.lt_trichotomy i k with q | q | q
  · have := hp i k hi hk q; rw [e1, e2] at this; omega
  · exact q
  · have := hp k i hk hi q; rw [e1, e2] at this; omega
/-- Files and twins, where each twin lies in memory. -/
theorem DiskIn.pairs (H : DiskIn w d own b F fn fc RA rn rc SA sn sc C cn cc fs ps ss css chl nm dt su) {W' : World} {own2 : Nat → Nat} {gs : List Value} (hlen : gs.length = fs.length) (hfile : ∀ (i : Nat) (f : Value), fs[i]? = some f → ∃ tf : Nat, gs[i]? = some (.pointer (some ⟨tf, 0, none⟩)) ∧ FileO W' own2 (.pointer (some ⟨tf, 0, none⟩)) (nm f) (dt f) (su f)) : Pairs fs gs := by
  refine ⟨hlen, H.fi, fun i k v h1 h2 => ?_, H.ptr, fun v hv => ?_⟩
  · obtain ⟨hi, _⟩ := List.getElem?_eq_some_iff.1 h1
    obtain ⟨hk, _⟩ := List.getElem?_eq_some_iff.1 h2
    have f1 : fs[i]? = some (fs[i]'(by omega)) := List.getElem?_eq_getElem _
    have f2 : fs[k]? = some (fs[k]'(by omega)) := List.getElem?_eq_getElem _
    obtain ⟨t1, g1, o1⟩ := hfile i _ f1
    obtain ⟨t2, g2, o2⟩ := hfile k _ f2
    rw [h1] at g1
    rw [h2] at g2
    cases g1
    cases g2
    obtain ⟨b1, _, _, _, e1, _, q1, _⟩ := o1
    obtain ⟨b2, _, _, _, e2, _, q2, _⟩ := o2
    cases e1
    cases e2
    have h3 := q1.c0
    rw [q2.c0] at h3
    have hnm : nm (fs[k]'(by omega)) = nm (fs[i]'(by omega)) := by
      injection h3 with h3
      injection h3 with _ h3
      omega
    have := rises_inj H.rises (List.getElem_mem _) (List.getElem_mem _) hnm
    rw [this] at f2
    exact H.fi i k _ f1 f2
  · obtain ⟨i, hi, e⟩ := List.mem_iff_getElem.1 hv
    obtain ⟨tf, h1, _⟩ := hfile i _ (List.getElem?_eq_getElem (by omega))
    rw [List.getElem?_eq_getElem hi, e] at h1
    exact ⟨tf, Option.some.inj h1⟩
/-- The disk that the twins make. -/
theorem DiskIn.twin (H : DiskIn w d own b F fn fc RA rn rc SA sn sc C cn cc fs ps ss css chl nm dt su) (R : Reads r b fs ss chl nm dt su) {W' : World} {cb : Nat} {own2 : Nat → Nat} {gs : List Value} (P : Pairs fs gs)
    (hfile : ∀ (i : Nat) (f : Value), fs[i]? = some f → ∃ tf : Nat, gs[i]? = some (.pointer (some ⟨tf, 0, none⟩)) ∧ FileO W' own2 (.pointer (some ⟨tf, 0, none⟩)) (nm f) (dt f) (su f)) {GA RA2 SA2 CA2 : Option Addr} {gc rn2 rc2 sn2 sc2 cc2 : Nat} {css2 : List Value}
    (hbox : DBoxAt W' cb { b with files := .slice GA fn gc, now := .slice RA2 rn2 rc2, sure := .slice SA2 sn2 sc2, changes := .slice CA2 cn cc2 }) (o1 : own2 cb = 1) (hl : SLine 1 W' GA fn gc gs) (oF : ∀ k ∈ blk GA, own2 k = 2)
    (hnow : RowG encS ltS W' RA2 rn2 rc2 (mapF (phi fs gs) ps)) (oR : ∀ k ∈ blk RA2, own2 k = 3) (hsure : RowG encS ltS W' SA2 sn2 sc2 (mapF (phi fs gs) ss)) (oS : ∀ k ∈ blk SA2, own2 k = 4)
    (hcl : SLine 1 W' CA2 cn cc2 css2) (oC : ∀ k ∈ blk CA2, own2 k = 5) (hchs : ChsO W' own2 css2 (chl.map (mapF (phi fs gs)))) (oN : ∀ i, W'.heap.size ≤ i → own2 i = 0) : IsD W' cb own2 r := by
  have hps : mapF (phi fs gs) ps = mapG (mateV fs gs) ps := mapF_mate P ps (fun p hp => .inr (H.nin p hp))
  have hss : mapF (phi fs gs) ss = mapG (mateV fs gs) ss := mapF_mate P ss (fun p hp => .inr (H.sin p hp))
  have hcc : chl.map (mapF (phi fs gs)) = chl.map (mapG (mateV fs gs)) := List.map_congr_left fun c hc => mapF_mate P c (fun p hp => H.cin c hc p hp)
  rw [hps] at hnow
  rw [hss] at hsure
  rw [hcc] at hchs
  have hnm2 : ∀ v ∈ fs, nm (mateV gs fs (mateV fs gs v)) = nm v := fun v hv => by rw [(mate_mem P hv).2.1]
  have hback : ∀ v ∈ gs, ∃ (i : Nat) (f : Value), fs[i]? = some f ∧ gs[i]? = some v ∧ mateV gs fs v = f ∧ f ∈ fs := fun v hv => by
    obtain ⟨i, hi, e⟩ := List.mem_iff_getElem.1 hv
    have h1 : gs[i]? = some v := by rw [List.getElem?_eq_getElem hi, e]
    obtain ⟨f, h2⟩ : ∃ f, fs[i]? = some f := ⟨_, List.getElem?_eq_getElem (by rw [← P.len]; exact hi)⟩
    exact ⟨i, f, h2, h1, mate_at P.symm h1 h2, List.mem_of_getElem? h2⟩
  have htag : ∀ v, (v = .pointer none ∨ v ∈ fs) → tag (fun u => nm (mateV gs fs u)) (mateV fs gs v) = tag nm v := fun v hv => by
    rcases hv with e | e
    · rw [e, mate_nil]; rfl
    · obtain ⟨_, h2, g, h3⟩ := mate_mem P e
      rw [tag_some _ _ (by rw [h3]; exact fun e => by cases e), tag_some _ _ (H.ne v e), h2]
  have hne : ∀ c ∈ chl, ∀ p ∈ c, p.2 ≠ .pointer none → mateV fs gs p.2 ≠ .pointer none := fun c hc p hp h0 => by
    rcases H.cin c hc p hp with e | e
    · exact absurd e h0
    · obtain ⟨_, _, g, h3⟩ := mate_mem P e
      rw [h3]
      exact fun e => by cases e
  have hsn : sn2 = sn := by
    have h1 := hsure.len
    have h2 := H.srow.len
    unfold mapG at h1
    rw [List.length_map] at h1
    omega
  refine ⟨oN, { b with files := .slice GA fn gc, now := .slice RA2 rn2 rc2, sure := .slice SA2 sn2 sc2, changes := .slice CA2 cn cc2 }, GA, fn, gc, RA2, rn2, rc2, SA2, sn2, sc2, CA2, cn, cc2, gs, mapG (mateV fs gs) ps, mapG (mateV fs gs) ss, css2, chl.map (mapG (mateV fs gs)), fun u => nm (mateV gs fs u), fun u => dt (mateV gs fs u), fun u => su (mateV gs fs u), ?_, ?_⟩
  · exact {
      box := hbox, od := o1, files := rfl, line := hl, oF := oF, now := rfl, nrow := hnow, oR := oR, sure := rfl, srow := hsure, oS := oS, changes := rfl, cline := hcl, oC := oC, chs := hchs
      file := fun v hv => by
        obtain ⟨i, f, h1, h2, h3, h4⟩ := hback v hv
        obtain ⟨tf, h5, h6⟩ := hfile i f h1
        rw [h2] at h5
        cases h5
        show FileO W' own2 _ (nm (mateV gs fs _)) (dt (mateV gs fs _)) (su (mateV gs fs _))
        rw [h3]
        exact h6
      num := fun v hv => by
        obtain ⟨i, f, h1, h2, h3, h4⟩ := hback v hv
        show ((nm (mateV gs fs v) : Nat) : Int) < b.made
        rw [h3]
        exact H.num f h4
      bytes := fun v hv => by
        obtain ⟨i, f, h1, h2, h3, h4⟩ := hback v hv
        show ∀ u ∈ dt (mateV gs fs v), _
        rw [h3]
        exact H.bytes f h4
      rises := by
        rw [List.pairwise_iff_getElem]
        intro i k hi hk hik
        show nm (mateV gs fs _) < nm (mateV gs fs _)
        rw [mate_at P.symm (List.getElem?_eq_getElem hi) (List.getElem?_eq_getElem (by rw [← P.len]; exact hi)), mate_at P.symm (List.getElem?_eq_getElem hk) (List.getElem?_eq_getElem (by rw [← P.len]; exact hk))]
        exact List.pairwise_iff_getElem.1 H.rises i k _ _ hik
      lay := by rw [H.lay]; exact layAll_G (mate_nil fs gs) chl ss hne
      sin := fun p hp => by
        obtain ⟨q, hq, rfl⟩ := List.mem_map.1 hp
        exact (mate_mem P (H.sin q hq)).1
      cin := fun c hc p hp => by
        obtain ⟨c', hc', rfl⟩ := List.mem_map.1 hc
        obtain ⟨q, hq, rfl⟩ := List.mem_map.1 hp
        rcases H.cin c' hc' q hq with e | e
        · exact .inl (by show mateV fs gs q.2 = _; rw [e, mate_nil])
        · exact .inr (mate_mem P e).1
      made := H.made, quota := H.quota, calls := H.calls, ahead := H.ahead, lenF := H.lenF
      lenC := by rw [hsn]; exact H.lenC }
  · exact {
      files := fun v hv => by
        obtain ⟨i, f, h1, h2, h3, h4⟩ := hback v hv
        show r.files[nm (mateV gs fs v)]? = some ⟨dt (mateV gs fs v), su (mateV gs fs v)⟩
        rw [h3]
        exact R.files f h4
      sure := by rw [R.sure]; exact (mapT_G ss (fun p hp => htag p.2 (.inr (H.sin p hp)))).symm
      chs := by
        rw [R.chs, List.map_map]
        exact List.map_congr_left fun c hc => (mapT_G c (fun p hp => htag p.2 (H.cin c hc p hp))).symm
      made := R.made, quota := R.quota, full := R.full, off := R.off, stop := R.stop, calls := R.calls }
end
/-- Changes that are being copied: so many are there. -/
structure ChIn (w1 wr : World) (n0 : Nat) (φ : Option Addr → Option Addr) (b : DBox) (CA : Option Addr) (k cc2 : Nat) (css2 : List Value) (chl : List (List (ByteArray × Value))) : Prop where
  chg : Chg [n0] w1 wr
  lt : n0 < w1.heap.size
  box : DBoxAt wr n0 { b with changes := .slice CA k cc2 }
  line : SLine 1 wr CA k cc2 css2
  new : ∀ j ∈ blk CA, w1.heap.size ≤ j
  chs : ∀ (i : Nat) (v : Value) (c : List (ByteArray × Value)), css2[i]? = some v → chl[i]? = some c → ∃ (pA : Option Addr) (pc : Nat), v = Value.slice pA c.length pc ∧ SLine 2 wr pA c.length pc (cellsP encS (mapF φ c)) ∧ ∀ j ∈ blk pA, w1.heap.size ≤ j ∧ j ∉ blk CA
theorem ChIn.drew {w1 wr : World} {n0 : Nat} {φ : Option Addr → Option Addr} {b : DBox} {CA : Option Addr} {k cc2 : Nat} {css2 : List Value} {chl : List (List (ByteArray × Value))} (T : ChIn w1 wr n0 φ b CA k cc2 css2 chl) : ChIn w1 wr.drew n0 φ b CA k cc2 css2 chl :=
  ⟨T.chg.drew, T.lt, T.box, T.line.drew, T.new, T.chs⟩
theorem ChIn.step {w1 wr : World} {n0 : Nat} {φ : Option Addr → Option Addr} {b : DBox} {CA : Option Addr} {k cc2 : Nat} {css2 : List Value} {chl : List (List (ByteArray × Value))} (T : ChIn w1 wr n0 φ b CA k cc2 css2 chl) (hk : k ≤ 90000) (c : List (ByteArray × Value)) (hc : chl[k]? = some c) (w2 : World) (hB : Below wr.heap.size wr w2) (A' : Option Addr) (c' : Nat)
    (hl : SLine 2 w2 A' c.length c' (cellsP encS (mapF φ c))) (hA : ∀ j ∈ blk A', wr.heap.size ≤ j) :
    ∃ w2a C2 c2 w3, w2.alloc (.cells #[.slice A' c.length c'] 101) = w2a ∧ (Builtin.append_ #[68, 68] 68 #[.slice CA k cc2, .slice (some ⟨w2.heap.size, 0, none⟩) 1 1]).run Try.prog w2a = .ok (.slice C2 (k + 1) c2) w3 ∧
      w2.cell? ⟨n0, 4, none⟩ = some (.slice CA k cc2) ∧ w2a.cell? ⟨n0, 4, none⟩ = some (.slice CA k cc2) ∧ w3.cell? ⟨n0, 4, none⟩ = some (.slice CA k cc2) ∧ w3.frozen? ⟨n0, 4, none⟩ = false ∧ ChIn w1 (w3.setCell ⟨n0, 4, none⟩ (.slice C2 (k + 1) c2)) n0 φ b C2 (k + 1) c2 (css2 ++ [.slice A' c.length c']) chl := by
  have hz := T.chg.size
  have hz2 := hB.size
  have hlt := T.lt
  have hb2 := T.box.below hB
  have hL2 := T.line.below hB
  have hCl := T.line.lt
  obtain ⟨w2a, hw2a⟩ : ∃ w2a, w2.alloc (.cells #[.slice A' c.length c'] 101) = w2a := ⟨_, rfl⟩
  obtain ⟨C2, c2, w3, hr, hl3, hc3, hf3⟩ := changes_push w2 68 CA k cc2 css2 hL2 (by omega) A' c.length c'
  rw [hw2a] at hr
  have hBa : Below w2.heap.size w2 w2a := by rw [← hw2a]; exact (Below.refl _ w2).alloc (Nat.le_refl _) _
  have hn0 : n0 ∉ blk CA := fun hm => by have := T.new n0 hm; omega
  have hb3 := hb2.chg hc3 hn0
  have hz3 := hc3.size
  have hc4 : Chg [n0] w3 (w3.setCell ⟨n0, 4, none⟩ (.slice C2 (k + 1) c2)) := (Chg.refl _ w3).setCell n0 4 _ (.inl (by simp))
  have hC2l := hl3.lt
  have hn2 : n0 ∉ blk C2 := fun hm => by rcases hf3 n0 hm with h | h; exact hn0 h; omega
  have hAn : ∀ j ∈ blk A', j ∉ blk CA := fun j hj hm => by have := hCl j hm; have := hA j hj; omega
  refine ⟨w2a, C2, c2, w3, hw2a, hr, hb2.cell 4 _ rfl, (hb2.below hBa).cell 4 _ rfl, hb3.cell 4 _ rfl, hb3.free 4, ?_, T.lt, ?_, ?_, ?_, ?_⟩
  · exact ((T.chg.trans (Chg.of_below hB)).andThen hc3 (fun j hj => .inr (T.new j hj))).andThen hc4 (fun j hj => .inl hj)
  · exact hb3.set 4 _ _ rfl
  · exact hl3.chg hc4 (fun j hj hm => by rw [List.mem_singleton] at hm; rw [hm] at hj; exact hn2 hj)
  · intro j hj
    rcases hf3 j hj with h | h
    · exact T.new j h
    · omega
  · intro i v cx hv hcx
    have hlen : css2.length = k := by have := T.line.1; omega
    rcases Nat.lt_or_ge i css2.length with h | h
    · rw [List.getElem?_append_left h] at hv
      obtain ⟨pA, pc, e, h1, h2⟩ := T.chs i v cx hv hcx
      refine ⟨pA, pc, e, ?_, fun j hj => ⟨(h2 j hj).1, fun hm => ?_⟩⟩
      · exact ((h1.below hB).chg hc3 (fun j hj => (h2 j hj).2)).chg hc4 (fun j hj hm => by rw [List.mem_singleton] at hm; have := (h2 j hj).1; omega)
      · rcases hf3 j hm with h | h
        · exact (h2 j hj).2 h
        · have := h1.lt j hj; omega
    · have hi : i = k := by
        have := (List.getElem?_eq_some_iff.1 hv).1
        simp at this
        omega
      subst hi
      rw [List.getElem?_append_right h, hlen, Nat.sub_self] at hv
      rw [hc] at hcx
      cases hv
      cases hcx
      refine ⟨A', c', rfl, ?_, fun j hj => ⟨by have := hA j hj; omega, fun hm => ?_⟩⟩
      · exact (hl.chg hc3 hAn).chg hc4 (fun j hj hm => by rw [List.mem_singleton] at hm; have := hA j hj; omega)
      · rcases hf3 j hm with h | h
        · exact hAn j hj h
        · have := hl.lt j hj; omega
/-- The clone whole. -/
theorem twin_end {w : World} {d : Nat} {own : Nat → Nat} {b : DBox} {F RA SA C : Option Addr} {fn fc rn rc sn sc cn cc : Nat} {fs css : List Value} {ps ss : List (ByteArray × Value)} {chl : List (List (ByteArray × Value))} {nm su : Value → Nat} {dt : Value → List Value} {r : RD} (H : DiskIn w d own b F fn fc RA rn rc SA sn sc C cn cc fs ps ss css chl nm dt su) (R : Reads r b fs ss chl nm dt su)
    {wr : World} {n0 M tb : Nat} {own2 : Nat → Nat} {GA : Option Addr} {gc : Nat} {gs : List Value} {L : List (Nat × Nat)} (T : TwIn w wr n0 M tb own2 b GA fn gc fs gs L nm su dt) (P : Pairs fs gs) {w6 : World} (hB6 : Below wr.heap.size wr w6) {A2 A3 : Option Addr} {n2 c2 n3 c3 : Nat}
    (h2 : RowG encS ltS w6 A2 n2 c2 (mapF (phi fs gs) ps)) (h2b : ∀ k ∈ blk A2, wr.heap.size ≤ k) (h3 : RowG encS ltS w6 A3 n3 c3 (mapF (phi fs gs) ss)) (h3b : ∀ k ∈ blk A3, wr.heap.size ≤ k) (h23 : ∀ k ∈ blk A2, k ∉ blk A3) {w9 : World} (h69 : Chg [n0] w6 w9) {wf : World} {CA : Option Addr} {cc2 : Nat} {css2 : List Value}
    (K : ChIn w9 wf n0 (phi fs gs) { b with files := .slice GA fn gc, now := .slice A2 n2 c2, sure := .slice A3 n3 c3 } CA cn cc2 css2 chl) : ∃ own3, (∀ i, i < w.heap.size → own3 i = 0) ∧ IsD wf n0 own3 r ∧ Below w.heap.size w wf := by
  have hn0 := T.box.lt
  have zw := T.below.size
  have z6 := hB6.size
  have z9 := h69.size
  have zf := K.chg.size
  have hGl := T.line.lt
  have h2l := h2.lt'
  have h3l := h3.lt'
  have hcw : w.heap.size ≤ n0 := by
    rcases Nat.lt_or_ge n0 w.heap.size with q | q
    · have := T.o0 n0 q
      have := T.o1
      omega
    · exact q
  obtain ⟨own3, hown⟩ : ∃ own3 : Nat → Nat, own3 = fun k => if k ∈ blk CA then 5 else if w9.heap.size ≤ k ∧ k < wf.heap.size then 6 else if k ∈ blk A2 then 3 else if k ∈ blk A3 then 4 else own2 k := ⟨_, rfl⟩
  have hold : ∀ k, k < wr.heap.size → own3 k = own2 k := fun k hk => by
    rw [hown]
    simp only [show ¬ k ∈ blk CA from fun hm => by have := K.new k hm; omega, if_false, show ¬ (w9.heap.size ≤ k ∧ k < wf.heap.size) by omega, show ¬ k ∈ blk A2 from fun hm => by have := h2b k hm; omega, show ¬ k ∈ blk A3 from fun hm => by have := h3b k hm; omega]
  have hsame : ∀ k, k < w6.heap.size → k ≠ n0 → wf.heap[k]? = w6.heap[k]? := fun k h1 h2 => (K.chg.same k (by omega) (by simp only [List.mem_singleton]; exact h2)).trans (h69.same k h1 (by simp only [List.mem_singleton]; exact h2))
  have hsr : ∀ k, k < wr.heap.size → k ≠ n0 → wf.heap[k]? = wr.heap[k]? := fun k h1 h2 => (hsame k (by omega) h2).trans (hB6.block k h1)
  have hfile : ∀ (i : Nat) (f : Value), fs[i]? = some f → ∃ tf : Nat, gs[i]? = some (.pointer (some ⟨tf, 0, none⟩)) ∧ FileO wf own3 (.pointer (some ⟨tf, 0, none⟩)) (nm f) (dt f) (su f) := fun i f hf => by
    obtain ⟨tf, t1, t2, t3⟩ := T.two i f hf (by have := (List.getElem?_eq_some_iff.1 hf).1; have := H.line.1; omega)
    exact ⟨tf, t1, t3.carry (by omega) hold (fun k hk ho => hsr k hk (fun e => by rw [e, T.o1] at ho; omega))⟩
  refine ⟨own3, fun i hi => (hold i (by omega)).trans (T.o0 i hi), ?_, ?_⟩
  · refine H.twin R P hfile K.box ?_ (T.line.same (by omega) (fun k hk => hsr k (hGl k hk) (fun e => by rw [e] at hk; have := T.oF n0 hk; have := T.o1; omega))) (fun k hk => (hold k (hGl k hk)).trans (T.oF k hk)) (h2.same (by omega) (fun k hk => hsame k (h2l k hk) (fun e => by have := h2b k hk; omega))) ?_ (h3.same (by omega) (fun k hk => hsame k (h3l k hk) (fun e => by have := h3b k hk; omega))) ?_ K.line ?_ ?_ ?_
    · rw [hold n0 hn0]; exact T.o1
    · intro k hk
      rw [hown]
      have := h2l k hk
      simp only [show ¬ k ∈ blk CA from fun hm => by have := K.new k hm; omega, if_false, show ¬ (w9.heap.size ≤ k ∧ k < wf.heap.size) by omega, hk, if_true]
    · intro k hk
      rw [hown]
      have := h3l k hk
      simp only [show ¬ k ∈ blk CA from fun hm => by have := K.new k hm; omega, if_false, show ¬ (w9.heap.size ≤ k ∧ k < wf.heap.size) by omega, show ¬ k ∈ blk A2 from fun hm => h23 k hm hk, hk, if_true]
    · intro k hk
      rw [hown]
      simp only [hk, if_true]
    · refine ⟨?_, fun i v c hv hc => ?_⟩
      · rw [List.length_map]
        have h1 := K.line.1
        have h4 := H.chs.1
        have h5 := H.cline.1
        omega
      · rw [List.getElem?_map] at hc
        obtain ⟨c0, hc0, rfl⟩ := Option.map_eq_some_iff.1 hc
        obtain ⟨pA, pc, e, h1, h4⟩ := K.chs i v c0 hv hc0
        have hml := mapF_length (phi fs gs) c0
        refine ⟨pA, pc, by rw [hml]; exact e, by rw [hml]; exact h1, fun j hj => ?_, ?_, fun p hp => ?_⟩
        · rw [hown]
          simp only [show ¬ j ∈ blk CA from (h4 j hj).2, if_false, show w9.heap.size ≤ j ∧ j < wf.heap.size from ⟨(h4 j hj).1, h1.lt j hj⟩, and_self, if_true]
        · rw [hml]
          exact H.chs.two c0 (List.mem_of_getElem? hc0)
        · obtain ⟨q, hq, rfl⟩ := List.mem_map.1 hp
          rcases H.cin c0 (List.mem_of_getElem? hc0) q hq with e | e
          · exact ⟨phi fs gs none, by rw [e]⟩
          · obtain ⟨a, ea⟩ := P.fp _ e
            exact ⟨phi fs gs (some ⟨a, 0, none⟩), by rw [ea]⟩
    · intro i hi
      rw [hown]
      simp only [show ¬ i ∈ blk CA from fun hm => by have := K.line.lt i hm; omega, if_false, show ¬ (w9.heap.size ≤ i ∧ i < wf.heap.size) by omega, show ¬ i ∈ blk A2 from fun hm => by have := h2l i hm; omega, show ¬ i ∈ blk A3 from fun hm => by have := h3l i hm; omega]
      exact T.oN i (by omega)
  · exact ((T.below.trans (hB6.mono zw)).trans (h69.toBelow (fun k hk => by rw [List.mem_singleton] at hk; omega) (by omega))).trans (K.chg.toBelow (fun k hk => by rw [List.mem_singleton] at hk; omega) (by omega))
end Go.Proofs.Ytbjlikppboggmaa
