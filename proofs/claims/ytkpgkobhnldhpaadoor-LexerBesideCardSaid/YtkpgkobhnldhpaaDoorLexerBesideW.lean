/-
  The walk of the law LexerBeside: it answers true and writes nothing that was there.
-/
import Derived.Test.YtkpgkobhnldhpaaDoorLexerBackW
import Derived.Deep.Cut
import Derived.IntWalk
import Derived.Test.YtkpgkobhnldhpaaDoorLexerPrintsW
namespace Go.Proofs.YtkpgkobhnldhpaaDoor
open Go.RowKit
set_option linter.unusedVariables false
set_option maxRecDepth 100000

/-- The law's gaps. -/
def gapG (note : List UInt8) : Nat → List UInt8
  | 0 => [32]
  | 1 => [10]
  | 2 => [9] ++ ([13] ++ [32])
  | 3 => [32] ++ (47 :: 47 :: note ++ [10])
  | 4 => [32] ++ (47 :: 42 :: note ++ [42, 47])
  | _ => [32] ++ ((47 :: 42 :: [32, 10, 32] ++ [42, 47]) ++ [32])
theorem gapG_skip (note : List UInt8) (h : ∀ c ∈ note, c.toNat ≠ 10 ∧ c.toNat ≠ 42) (j : Nat) : SkipS (gapG note j) := by
  match j with
  | 0 => exact SkipS.blank 32 (by decide)
  | 1 => exact SkipS.blank 10 (by decide)
  | 2 => exact (SkipS.blank 9 (by decide)).app ((SkipS.blank 13 (by decide)).app (SkipS.blank 32 (by decide)))
  | 3 => exact (SkipS.blank 32 (by decide)).app (SkipS.line note (fun c hc => (h c hc).1))
  | 4 => exact (SkipS.blank 32 (by decide)).app (SkipS.block note (fun c hc => (h c hc).2))
  | j + 5 => exact (SkipS.blank 32 (by decide)).app ((SkipS.block [32, 10, 32] (by decide)).app (SkipS.blank 32 (by decide)))
theorem gapG_head (note : List UInt8) (j : Nat) : headBl (gapG note j) := by
  match j with
  | 0 => exact ⟨32, _, rfl, by decide⟩
  | 1 => exact ⟨10, _, rfl, by decide⟩
  | 2 => exact ⟨9, _, rfl, by decide⟩
  | 3 => exact ⟨32, _, rfl, by decide⟩
  | 4 => exact ⟨32, _, rfl, by decide⟩
  | j + 5 => exact ⟨32, _, rfl, by decide⟩
theorem gapG_len (note : List UInt8) (j : Nat) : (gapG note j).length ≤ note.length + 10 := by
  match j with
  | 0 => simp [gapG]
  | 1 => simp [gapG]
  | 2 => simp [gapG]
  | 3 => simp [gapG]
  | 4 => simp [gapG]
  | j + 5 => simp [gapG]
/-- Which gap stands behind the k-th token. -/
def gapI (how k : Nat) : Nat := (how + k) % 18446744073709551616 % 6
def gapsB (note : List UInt8) (how : Nat) : Nat → List Tok → List (List UInt8)
  | _, [] => []
  | k, _ :: ts => gapG note (gapI how k) :: gapsB note how (k + 1) ts
theorem wok_gaps (note : List UInt8) (hn : ∀ c ∈ note, c.toNat ≠ 10 ∧ c.toNat ≠ 42) (how : Nat) (ts : List Tok) (h : ∀ t ∈ ts, GoodT t) : ∀ k, WOK ts (gapsB note how k ts) := by
  induction ts with
  | nil => intro k; trivial
  | cons t ts ih =>
    intro k
    exact ⟨h t (by simp), gapG_skip note hn _, .inl (gapG_head note _), ih (fun x hx => h x (by simp [hx])) (k + 1)⟩
/-- What has been written when k tokens were. -/
def outB (note : List UInt8) (how : Nat) (ts : List Tok) : List UInt8 := weave ts (gapsB note how 0 ts)
theorem weave_snoc (note : List UInt8) (how : Nat) (t : Tok) : ∀ (ts : List Tok) (k : Nat), weave (ts ++ [t]) (gapsB note how k (ts ++ [t])) = weave ts (gapsB note how k ts) ++ (t.txt ++ gapG note (gapI how (k + ts.length))) := by
  intro ts
  induction ts with
  | nil => intro k; simp [weave, gapsB]
  | cons u r ih =>
    intro k
    show u.txt ++ (gapG note (gapI how k) ++ weave (r ++ [t]) (gapsB note how (k + 1) (r ++ [t]))) = (u.txt ++ (gapG note (gapI how k) ++ weave r (gapsB note how (k + 1) r))) ++ _
    rw [ih (k + 1), show k + 1 + r.length = k + (u :: r).length from by simp; omega]
    simp [List.append_assoc]
theorem outB_snoc (note : List UInt8) (how : Nat) (ts : List Tok) (t : Tok) : outB note how (ts ++ [t]) = outB note how ts ++ (t.txt ++ gapG note (gapI how ts.length)) := by
  have := weave_snoc note how t ts 0
  rw [Nat.zero_add] at this
  exact this
theorem outB_lex (note : List UInt8) (hn : ∀ c ∈ note, c.toNat ≠ 10 ∧ c.toNat ≠ 42) (how : Nat) (ts : List Tok) (h : ∀ t ∈ ts, GoodT t) (hlen : (gapG note (gapI how 0) ++ outB note how ts).length ≤ 65536) : ∃ us, allN (gapG note (gapI how 0) ++ outB note how ts) = .ok us ∧ sameTs ts us := by
  obtain ⟨us, h1, h2⟩ := lex_weave ts (gapsB note how 0 ts) (wok_gaps note hn how ts h 0) (0 + (gapG note (gapI how 0)).length)
  refine ⟨us, ?_, h2⟩
  unfold allN
  rw [if_neg (by omega), allAt_gap _ _ (gapG_skip note hn _)]
  exact h1
theorem outB_len (note : List UInt8) (how : Nat) (ts : List Tok) : (outB note how ts).length ≤ (ts.map fun t => t.txt.length).sum + ts.length * (note.length + 10) := by
  have key : ∀ (ts : List Tok) (k : Nat), (weave ts (gapsB note how k ts)).length ≤ (ts.map fun t => t.txt.length).sum + ts.length * (note.length + 10) := by
    intro ts
    induction ts with
    | nil => intro k; simp [weave]
    | cons t r ih =>
      intro k
      have h1 := ih (k + 1)
      have h2 := gapG_len note (gapI how k)
      show (t.txt ++ (gapG note (gapI how k) ++ weave r (gapsB note how (k + 1) r))).length ≤ _
      rw [List.length_append, List.length_append, List.map_cons, List.sum_cons, List.length_cons, Nat.add_mul]
      omega
  exact key ts 0
theorem gap_cells (a1 : ByteArray) (w : World) (j : Nat) (hj : j < 6) : (w.alloc (.cells #[.string ⟨#[32]⟩, .string ⟨#[10]⟩, .string ⟨#[9, 13, 32]⟩, .string (⟨#[32, 47, 47]⟩ ++ a1 ++ ⟨#[10]⟩), .string (⟨#[32, 47, 42]⟩ ++ a1 ++ ⟨#[42, 47]⟩), .string ⟨#[32, 47, 42, 32, 10, 32, 42, 47, 32]⟩] 9)).cell? ⟨w.heap.size, j, none⟩ = some (.string (strL (gapG a1.data.toList j))) := by
  rw [cell_of_row _ _ j _ _ (0, 0) (heap_alloc_new w _)]
  have e3 : (⟨#[32, 47, 47]⟩ ++ a1 ++ ⟨#[10]⟩ : ByteArray) = strL (gapG a1.data.toList 3) := by
    have e1 : (⟨#[32, 47, 47]⟩ : ByteArray) = strL [32, 47, 47] := rfl
    have e2 : (⟨#[10]⟩ : ByteArray) = strL [10] := rfl
    rw [e1, e2]
    conv => lhs; lhs; rhs; rw [← strL_back a1]
    rw [strL_add, strL_add]
    rfl
  have e4 : (⟨#[32, 47, 42]⟩ ++ a1 ++ ⟨#[42, 47]⟩ : ByteArray) = strL (gapG a1.data.toList 4) := by
    have e1 : (⟨#[32, 47, 42]⟩ : ByteArray) = strL [32, 47, 42] := rfl
    have e2 : (⟨#[42, 47]⟩ : ByteArray) = strL [42, 47] := rfl
    rw [e1, e2]
    conv => lhs; lhs; rhs; rw [← strL_back a1]
    rw [strL_add, strL_add]
    rfl
  rw [e3, e4]
  match j, hj with
  | 0, _ => rfl
  | 1, _ => rfl
  | 2, _ => rfl
  | 3, _ => rfl
  | 4, _ => rfl
  | 5, _ => rfl
theorem sum_take (ts : List Tok) (k : Nat) : ((ts.take k).map fun t => t.txt.length).sum ≤ (ts.map fun t => t.txt.length).sum := by
  conv => rhs; rw [← List.take_append_drop k ts]
  rw [List.map_append, List.sum_append]
  omega
theorem out_small (a1 : ByteArray) (h1 : a1.size ≤ 100) (how g0 : Nat) (ts : List Tok) (h2 : ts.length ≤ 1000) (h3 : (ts.map fun t => t.txt.length).sum ≤ 1000) (k : Nat) : (gapG a1.data.toList g0 ++ outB a1.data.toList how (ts.take k)).length ≤ 200000 := by
  have e1 := gapG_len a1.data.toList g0
  have e2 := outB_len a1.data.toList how (ts.take k)
  have e3 := sum_take ts k
  rw [ba_length] at e1 e2
  have e4 : (ts.take k).length * (a1.size + 10) ≤ 1000 * 110 := Nat.mul_le_mul (by rw [List.length_take]; omega) (by omega)
  rw [List.length_append]
  omega
set_option maxHeartbeats 4000000 in
theorem lexerBeside_walk (a0 a1 : ByteArray) (a2 : Int) (W : World) (w0 : a0.size ≤ maxLen) (w1 : a1.size ≤ maxLen) (w2 : (Lit.int .u64 a2).wf = true) (_hs0 : a0.data.toList.length ≤ reachBytes) (_hs1 : a1.data.toList.length ≤ reachBytes) (hL : laidMetH Tryd.prog Rows.lexerBesideRow.laid W) (hsh : W.ShapedOpen Tryd.prog) :
    Calls Tryd.prog 6 #[.string a0, .string a1, .int .u64 a2] W fun e w' => e = .returned (.bool true) ∧ Below W.heap.size W w' := by
  have HL := Lib.hid (laid_of W hL hsh)
  obtain ⟨hh0, hh1⟩ := bounds_u64 w2
  unfold maxLen at w0 w1
  have hts : (a0.extract 0 (min (a0.size : Int) 1000).toNat).size ≤ 1000 := by rw [ByteArray.size_extract]; omega
  have HTS := Lib.hid hts
  clear hL hsh _hs0 _hs1 hts w2
  go_enter Tryd.func6, Tryd.ntmps6
  go_upto_region 2 with fail
  generalize a0.extract 0 (min (a0.size : Int) 1000).toNat = s at *
  by_cases h100 : (100 : Int) < (a1.size : Int)
  · go_wp2_with fail
    refine (lives_true _ HL.out).mono ?_
    rintro e w5 ⟨rfl, hB5⟩
    have HB5 := Lib.hid hB5
    clear hB5
    go_wp2
    go_ret
    exact ⟨rfl, HB5.out⟩
  go_wp2_with fail
  go_loop [29] (fun i => ∃ k : Nat, k ≤ a1.size ∧ i = .int .i64 k ∧ Hid (∀ c ∈ a1.data.toList.take k, c.toNat ≠ 10 ∧ c.toNat ≠ 42)) (fun i => a1.size - (intOf i).toNat)
  case atStart => exact ⟨0, Nat.zero_le _, rfl, Lib.hid (by simp)⟩
  case round =>
    obtain ⟨k, hk, rfl, HN⟩ := hrel
    by_cases hlt : k < a1.size
    · have HT := Lib.hid (ba_takeS a1 k hlt)
      by_cases h10 : ((a1[k].toNat : Int) == 10) = true
      · go_wp2_with fail
        refine (lives_true _ HL.out).mono ?_
        rintro e w5 ⟨rfl, hB5⟩
        have HB5 := Lib.hid hB5
        clear hB5
        go_wp2
        go_ret
        exact ⟨rfl, HB5.out⟩
      · simp only [Bool.not_eq_true] at h10
        by_cases h42 : ((a1[k].toNat : Int) == 42) = true
        · go_wp2_with fail
          refine (lives_true _ HL.out).mono ?_
          rintro e w5 ⟨rfl, hB5⟩
          have HB5 := Lib.hid hB5
          clear hB5
          go_wp2
          go_ret
          exact ⟨rfl, HB5.out⟩
        · simp only [Bool.not_eq_true] at h42
          have HN2 : Hid (∀ c ∈ a1.data.toList.take (k + 1), c.toNat ≠ 10 ∧ c.toNat ≠ 42) := Lib.hid (by
            rw [HT.out]
            intro c hc
            rcases List.mem_append.1 hc with h | h
            · exact HN.out c h
            · rw [List.mem_singleton] at h
              subst h
              simp only [beq_eq_false_iff_ne] at h10 h42
              omega)
          go_wp2
          go_round
          case rel => exact ⟨k + 1, by omega, by go_num, HN2⟩
          case measure => simp [intOf]; omega
    · have HNOTE : Hid (∀ c ∈ a1.data.toList, c.toNat ≠ 10 ∧ c.toNat ≠ 42) := Lib.hid (fun c hc => HN.out c (by rw [List.take_of_length_le (by rw [ba_length]; omega)]; exact hc))
      cases h : allN s.data.toList with
      | bad er o =>
        have hne := (allN_bad _ _ _ h).1
        have H1 := Lib.hid (one2 s (by have := HTS.out; omega) er o h er o rfl rfl)
        have hneb : ((er : Int) == 0) = false := by rw [beq_eq_false_iff_ne]; omega
        have hneq : ((er : Int) != 0) = true := by rw [bne_iff_ne]; omega
        clear h hne HN
        go_wp2_with fail
        refine (H1.out _ HL.out).mono ?_
        rintro e w1 ⟨x, y, rfl, hB1⟩
        have HB1 := Lib.hid (hB1.alloc hB1.size (.cells #[.int .i64 (o : Int), .int .i64 x, .int .i64 y] 26))
        clear hB1
        go_wp2_with fail
        refine (lives_true _ (HL.out.below HB1.out)).mono ?_
        rintro e w5 ⟨rfl, hB6⟩
        have HB6 := Lib.hid (HB1.out.trans (hB6.mono HB1.out.size))
        clear hB6
        go_wp2
        go_ret
        exact ⟨rfl, HB6.out⟩
      | ok ts =>
        have hf := allN_few _ _ h
        obtain ⟨hgood, hsum⟩ := allN_good _ _ h
        rw [ba_length] at hf hsum
        have hs1000 := HTS.out
        have H1 := Lib.hid (all_ok s (by omega) ts h)
        obtain ⟨how, hhow⟩ : ∃ how : Nat, (how : Int) = a2 := ⟨a2.toNat, by omega⟩
        subst hhow
        have HG := Lib.hid (And.intro hgood (And.intro hsum hf))
        have hn1000 : ts.length ≤ 1000 := by omega
        clear h HN hgood hsum hf
        have h6 : (how : Int) % 6 = ((gapI how 0 : Nat) : Int) := by unfold gapI; omega
        have hg6 : gapI how 0 < 6 := by unfold gapI; omega
        go_wp2_with fail
        refine (H1.out _ HL.out).mono ?_
        rintro e w1 ⟨A, c, rfl, hr1, hc1, hB1⟩
        have HR1 := Lib.hid (hr1.below ((Below.refl _ w1).alloc (Nat.le_refl _) (.cells #[.int .i64 0, .int .i64 0, .int .i64 0] 26)))
        have HB1 := Lib.hid (hB1.alloc hB1.size (.cells #[.int .i64 0, .int .i64 0, .int .i64 0] 26))
        clear hr1 hB1
        go_upto_region 14 with fail
        have hcl := gap_cells a1 (w1.alloc (.cells #[.int .i64 0, .int .i64 0, .int .i64 0] 26))
        rw [show (w1.alloc (.cells #[.int .i64 0, .int .i64 0, .int .i64 0] 26)).heap.size = w1.heap.size + 1 from by simp] at hcl
        obtain ⟨V, hV⟩ : ∃ V, V = (w1.alloc (.cells #[.int .i64 0, .int .i64 0, .int .i64 0] 26)).alloc (.cells #[.string ⟨#[32]⟩, .string ⟨#[10]⟩, .string ⟨#[9, 13, 32]⟩, .string (⟨#[32, 47, 47]⟩ ++ a1 ++ ⟨#[10]⟩), .string (⟨#[32, 47, 42]⟩ ++ a1 ++ ⟨#[42, 47]⟩), .string ⟨#[32, 47, 42, 32, 10, 32, 42, 47, 32]⟩] 9) := ⟨_, rfl⟩
        have HRV : Hid (Rd6 V A ts.length (ts.map (tkOf s.data.toList))) := Lib.hid (by rw [hV]; exact HR1.out.below ((Below.refl _ _).alloc (Nat.le_refl _) _))
        have HBV : Hid (Below W.heap.size W V) := Lib.hid (by rw [hV]; exact HB1.out.alloc HB1.out.size _)
        have hgb : w1.heap.size + 1 < V.heap.size := by rw [hV]; simp
        rw [← hV] at hcl ⊢
        clear hV HR1 HB1
        obtain ⟨gb, hgbe⟩ : ∃ gb, gb = w1.heap.size + 1 := ⟨_, rfl⟩
        rw [← hgbe] at hcl hgb ⊢
        have hc0 := hcl (gapI how 0) hg6
        have HCL := Lib.hid hcl
        clear hcl hgbe
        obtain ⟨xs, hxs⟩ : ∃ xs, xs = ts.map (tkOf s.data.toList) := ⟨_, rfl⟩
        have HXS := Lib.hid hxs
        rw [← hxs] at HRV
        clear hxs
        obtain ⟨g0, hg0⟩ : ∃ g0, g0 = gapI how 0 := ⟨_, rfl⟩
        have HG0 := Lib.hid hg0
        rw [← hg0] at hc0 hg6 h6
        clear hg0
        go_wp2_with fail
        go_loopw [12, 67] (fun v i wr => ∃ k : Nat, k ≤ ts.length ∧ i = .int .i64 k ∧ v = .string (strL (gapG a1.data.toList g0 ++ outB a1.data.toList how (ts.take k))) ∧ Hid (Below V.heap.size V wr)) (fun _ i _ => ts.length - (intOf i).toNat)
        case atStart => exact ⟨0, Nat.zero_le _, rfl, by show _ = Value.string (strL (_ ++ [])); rw [List.append_nil], Lib.hid (Below.refl _ _)⟩
        case round =>
          obtain ⟨j, hj, rfl, rfl, HB⟩ := hrel
          have hol := outB_len a1.data.toList how (ts.take j)
          by_cases hjl : j < ts.length
          · obtain ⟨t0, ht0⟩ : ∃ t0, ts[j]? = some t0 := ⟨_, List.getElem?_eq_getElem hjl⟩
            have hx : xs[j]? = some (tkOf s.data.toList t0) := by rw [HXS.out, List.getElem?_map, ht0]; rfl
            obtain ⟨g, off, rfl, hg, c0, c1, c2, c3, c4, c5⟩ := (HRV.out.below HB.out).2 j _ hx
            have hgc := (HB.out.cell (p := ⟨gb, gapI how j, none⟩) hgb).trans (HCL.out (gapI how j) (by unfold gapI; omega))
            have hsn := outB_snoc a1.data.toList how (ts.take j) t0
            rw [← take_snoc' ts j t0 ht0, List.length_take, Nat.min_eq_left hj] at hsn
            have hj6 : gapI how j < 6 := by unfold gapI; omega
            have e1 : IntKind.u64.wrap (j : Int) = (j : Int) := by rw [show IntKind.u64.wrap (j : Int) = (j : Int) % 18446744073709551616 from rfl]; omega
            obtain ⟨S, hS⟩ : ∃ S : Nat, S = (how + j) % 18446744073709551616 := ⟨_, rfl⟩
            have e2 : IntKind.u64.wrap ((how : Int) + (j : Int)) = (S : Int) := by rw [show IntKind.u64.wrap ((how : Int) + (j : Int)) = ((how : Int) + (j : Int)) % 18446744073709551616 from rfl]; omega
            have e3 : (S : Int) % 6 = ((gapI how j : Nat) : Int) := by unfold gapI; omega
            have e4 : (S : Int).tmod 6 = ((gapI how j : Nat) : Int) := by rw [Int.tmod_eq_emod_of_nonneg (by omega)]; exact e3
            have hO := out_small a1 (by omega) how g0 ts hn1000 (by have := HG.out.2.1; omega) j
            have hO2 := out_small a1 (by omega) how g0 ts hn1000 (by have := HG.out.2.1; omega) (j + 1)
            have htx : t0.txt.length ≤ 1000 := by
              have := le_sum _ _ (List.mem_map.2 ⟨t0, List.mem_of_getElem? ht0, rfl⟩ : t0.txt.length ∈ ts.map fun t => t.txt.length)
              have := HG.out.2.1
              omega
            have hgl := gapG_len a1.data.toList (gapI how j)
            rw [ba_length] at hgl
            have HP : Hid (strL (gapG a1.data.toList g0 ++ outB a1.data.toList how (ts.take j)) ++ (strL t0.txt ++ strL (gapG a1.data.toList (gapI how j))) = strL (gapG a1.data.toList g0 ++ outB a1.data.toList how (ts.take (j + 1)))) := Lib.hid (by
              rw [strL_add, strL_add, hsn, List.append_assoc])
            rw [show (tkOf s.data.toList t0).tx = strL t0.txt from rfl] at c1
            have z1 : (strL (gapG a1.data.toList g0 ++ outB a1.data.toList how (ts.take j))).size ≤ 200000 := by rw [strL_size]; exact hO
            have z2 : (strL t0.txt).size ≤ 1000 := by rw [strL_size]; exact htx
            have z3 : (strL (gapG a1.data.toList (gapI how j))).size ≤ 110 := by rw [strL_size]; omega
            have HBN := Lib.hid HB.out
            generalize gapI how j = gj at *
            have hgbr : gb < wr.heap.size := by have := HB.out.size; omega
            have hgbn : ¬ gb = wr.heap.size := by omega
            have hgbm : ¬ wr.heap.size = gb := by omega
            have hj6i : (gj : Int) < 6 := by omega
            have hj60 : (0 : Int) ≤ (gj : Int) := by omega
            have hjt : ((gj : Int)).toNat = gj := by omega
            generalize strL (gapG a1.data.toList g0 ++ outB a1.data.toList how (ts.take j)) = O1 at *
            generalize strL t0.txt = tx at *
            generalize strL (gapG a1.data.toList gj) = G1 at *
            generalize tkOf s.data.toList t0 = tk at *
            obtain ⟨kd, tx', nm, o, l, cc⟩ := tk
            dsimp only at c0 c2 c3 c4 c5
            have hal := HB.out.alloc HB.out.size (.cells #[.int .i64 kd, .string tx, .int .i32 nm, .int .i64 o, .int .i64 l, .int .i64 cc] 33)
            have HAL : Hid (∀ n, Below V.heap.size V ((wr.alloc (.cells #[.int .i64 kd, .string tx, .int .i32 nm, .int .i64 o, .int .i64 l, .int .i64 cc] 33)).drewN n)) := Lib.hid (fun n => ⟨hal.os, hal.tape, hal.output, hal.size, hal.block⟩)
            clear hal hO hO2 htx hgl hsn ht0 hx hol HB hS
            go_wp2
            go_quiet (fail)
            go_wp2
            go_roundw
            case rel => exact ⟨j + 1, by omega, by go_num, by rw [HP.out], Lib.hid (HAL.out _)⟩
            case measure => simp [intOf]; omega
          · obtain rfl : j = ts.length := by omega
            have htk : ts.take ts.length = ts := List.take_of_length_le (Nat.le_refl _)
            have hO := out_small a1 (by omega) how g0 ts hn1000 (by have := HG.out.2.1; omega) ts.length
            rw [htk] at hO ⊢
            have HB2 := Lib.hid (HBV.out.trans (HB.out.mono HBV.out.size))
            have HRX := Lib.hid (HRV.out.below HB.out)
            by_cases hbig : (gapG a1.data.toList g0 ++ outB a1.data.toList how ts).length ≤ 65536
            · have hb0 : (gapG a1.data.toList (gapI how 0) ++ outB a1.data.toList how ts).length ≤ 65536 := by rw [← HG0.out]; exact hbig
              obtain ⟨us, hu, hsame⟩ := outB_lex a1.data.toList HNOTE.out how ts HG.out.1 hb0
              rw [← HG0.out] at hu
              have hlu := hsame.1
              have H2 := all_ok (strL (gapG a1.data.toList g0 ++ outB a1.data.toList how ts)) (by rw [strL_size]; omega) us (by rw [strL_list]; exact hu)
              rw [← hlu] at H2
              have htkk := sameTs_tk hsame s.data.toList (strL (gapG a1.data.toList g0 ++ outB a1.data.toList how ts)).data.toList
              rw [← HXS.out] at htkk
              have hsz : ((strL (gapG a1.data.toList g0 ++ outB a1.data.toList how ts)).size : Int) ≤ 65536 := by rw [strL_size]; omega
              generalize us.map (tkOf (strL (gapG a1.data.toList g0 ++ outB a1.data.toList how ts)).data.toList) = ys at *
              generalize strL (gapG a1.data.toList g0 ++ outB a1.data.toList how ts) = O1 at *
              have H2' := Lib.hid H2
              have HTK := Lib.hid htkk
              clear H2 htkk hlu hu hsame hb0 hbig hO htk hol HB
              generalize ts.length = n at *
              go_wp2_with fail
              refine (H2'.out _ (HL.out.below HB2.out)).mono ?_
              rintro e w3 ⟨A2, c2, rfl, hr3, hc3, hB3⟩
              have HR3 := Lib.hid (And.intro ((HRX.out.below hB3).below ((Below.refl _ w3).alloc (Nat.le_refl _) (.cells #[.int .i64 0, .int .i64 0, .int .i64 0] 26))) (hr3.below ((Below.refl _ w3).alloc (Nat.le_refl _) (.cells #[.int .i64 0, .int .i64 0, .int .i64 0] 26))))
              have HB3 := Lib.hid ((HB2.out.trans (hB3.mono HB2.out.size)).alloc (HB2.out.trans (hB3.mono HB2.out.size)).size (.cells #[.int .i64 0, .int .i64 0, .int .i64 0] 26))
              clear hr3 hB3
              go_wp2_with fail
              refine (same_yes _ A A2 n c c2 xs ys (by omega) HR3.out.1 HR3.out.2 HTK.out).mono ?_
              rintro e w4 ⟨rfl, hB4⟩
              have HB4 := Lib.hid (HB3.out.trans (hB4.mono HB3.out.size))
              clear hB4 HB3 HR3
              go_wp2_with fail
              refine (lives_true _ (HL.out.below HB4.out)).mono ?_
              rintro e w7 ⟨rfl, hB7⟩
              have HB7 := Lib.hid (HB4.out.trans (hB7.mono HB4.out.size))
              clear hB7
              go_wp2
              go_ret
              exact ⟨rfl, HB7.out⟩
            · have hbad : allN (strL (gapG a1.data.toList g0 ++ outB a1.data.toList how ts)).data.toList = .bad 2 0 := by
                rw [strL_list]
                unfold allN
                rw [if_pos (by omega)]
              have H2 := Lib.hid (one2 (strL (gapG a1.data.toList g0 ++ outB a1.data.toList how ts)) (by rw [strL_size]; omega) 2 0 hbad 2 0 rfl rfl)
              have hsz : (65536 : Int) < ((strL (gapG a1.data.toList g0 ++ outB a1.data.toList how ts)).size : Int) := by rw [strL_size]; omega
              generalize strL (gapG a1.data.toList g0 ++ outB a1.data.toList how ts) = O1 at *
              clear hbad hbig hO htk hol HB
              generalize ts.length = n at *
              go_wp2_with fail
              refine (H2.out _ (HL.out.below HB2.out)).mono ?_
              rintro e w3 ⟨x, y, rfl, hB3⟩
              have HB3 := Lib.hid ((HB2.out.trans (hB3.mono HB2.out.size)).alloc (HB2.out.trans (hB3.mono HB2.out.size)).size (.cells #[.int .i64 0, .int .i64 x, .int .i64 y] 26))
              clear hB3
              go_wp2_with fail
              refine (lives_true _ (HL.out.below HB3.out)).mono ?_
              rintro e w7 ⟨rfl, hB7⟩
              have HB7 := Lib.hid (HB3.out.trans (hB7.mono HB3.out.size))
              clear hB7
              go_wp2
              go_ret
              exact ⟨rfl, HB7.out⟩
end Go.Proofs.YtkpgkobhnldhpaaDoor
