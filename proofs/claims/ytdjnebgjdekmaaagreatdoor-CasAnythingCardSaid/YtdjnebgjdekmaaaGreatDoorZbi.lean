/-
  Create of a name that may not be one, however long it is.
  The disk's List, told of the abstract disk.
-/
import Derived.Test.YtdjnebgjdekmaaaGreatDoorZbh
import Derived.Test.YtdjnebgjdekmaaaGreatDoorZbf
import Derived.Test.YtdjnebgjdekmaaaGreatDoorZbg
namespace Go.Proofs.YtdjnebgjdekmaaaGreatDoor
open Go.RowKit Go.Maps
set_option linter.unusedVariables false
set_option maxRecDepth 100000

set_option maxHeartbeats 3200000 in
theorem mayName_long (s : ByteArray) (hs : s.size ≤ 9223372036854775807) (w : World) : Calls Tryz.prog 78 #[.string s] w fun e w' => e = .returned (.bool (nameOk s)) ∧ w = w' := by
  go_enter Tryz.func78, Tryz.ntmps78
  go_wp2
  go_loop [7] (fun i => ∃ k : Nat, k ≤ s.size ∧ i = .int .i64 k ∧ Hid (nameUp s k)) (fun i => s.size - (intOf i).toNat)
  case atStart => exact ⟨0, by omega, rfl, Lib.hid (fun j hj => by omega)⟩
  case round =>
    obtain ⟨k, hk, rfl, HU⟩ := hrel
    rcases Nat.lt_or_ge k s.size with hkn | hkn
    · have hkn' : (k : Int) < (s.size : Int) := by omega
      have hc0 : (0 : Int) ≤ (s[k].toNat : Int) ∧ (s[k].toNat : Int) ≤ 255 := ⟨by omega, by have := s[k].toNat_lt; omega⟩
      have HN := Lib.hid (nameUp_not s k hkn)
      have HY : Hid (nameB (s[k].toNat : Int) = true → nameUp s (k + 1)) := Lib.hid (fun h j hj hjs => by
        rcases Nat.lt_or_ge j k with h1 | h1
        · exact HU.out j h1 hjs
        · obtain rfl : j = k := by omega
          exact h)
      obtain ⟨c, hc⟩ : ∃ c : Int, (s[k].toNat : Int) = c := ⟨_, rfl⟩
      rw [hc] at hc0 HN HY
      have HC0 := Lib.hid hc0
      by_cases a1 : c < 97
      · have b1 : ¬ (97 : Int) ≤ c := by omega
        by_cases a2 : c < 48
        · have b2 : ¬ (48 : Int) ≤ c := by omega
          by_cases d1 : c = 46
          · have q0 : (c != 46) = false := by simp [d1]
            have HE : Hid (nameB c = true) := Lib.hid (by unfold nameB; simp only [Bool.or_eq_true, Bool.and_eq_true, decide_eq_true_eq, beq_iff_eq]; omega)
            clear HN
            go_wp2
            go_round
            case rel => exact ⟨k + 1, by omega, by go_num, Lib.hid (HY.out HE.out)⟩
            case measure => simp [intOf]; omega
          · have q0 : (c != 46) = true := by simpa using d1
            by_cases d2 : c = 45
            · have q1 : (c != 45) = false := by simp [d2]
              have HE : Hid (nameB c = true) := Lib.hid (by unfold nameB; simp only [Bool.or_eq_true, Bool.and_eq_true, decide_eq_true_eq, beq_iff_eq]; omega)
              clear HN
              go_wp2
              go_round
              case rel => exact ⟨k + 1, by omega, by go_num, Lib.hid (HY.out HE.out)⟩
              case measure => simp [intOf]; omega
            · have q1 : (c != 45) = true := by simpa using d2
              have d3 : c ≠ 95 := by omega
              have q2 : (c != 95) = true := by simpa using d3
              have HE : Hid (nameB c = false) := Lib.hid (by unfold nameB; simp only [Bool.or_eq_false_iff, Bool.and_eq_false_iff, decide_eq_false_iff_not, beq_eq_false_iff_ne]; omega)
              clear HY
              go_wp2
              go_ret
              exact ⟨by rw [HN.out HE.out]; rfl, rfl⟩
        · have b2 : (48 : Int) ≤ c := by omega
          have d1 : c ≠ 46 := by omega
          have d2 : c ≠ 45 := by omega
          have q0 : (c != 46) = true := by simpa using d1
          have q1 : (c != 45) = true := by simpa using d2
          by_cases a3 : (57 : Int) < c
          · have b3 : ¬ c ≤ (57 : Int) := by omega
            by_cases d3 : c = 95
            · have q2 : (c != 95) = false := by simp [d3]
              have HE : Hid (nameB c = true) := Lib.hid (by unfold nameB; simp only [Bool.or_eq_true, Bool.and_eq_true, decide_eq_true_eq, beq_iff_eq]; omega)
              clear HN
              go_wp2
              go_round
              case rel => exact ⟨k + 1, by omega, by go_num, Lib.hid (HY.out HE.out)⟩
              case measure => simp [intOf]; omega
            · have q2 : (c != 95) = true := by simpa using d3
              have HE : Hid (nameB c = false) := Lib.hid (by unfold nameB; simp only [Bool.or_eq_false_iff, Bool.and_eq_false_iff, decide_eq_false_iff_not, beq_eq_false_iff_ne]; omega)
              clear HY
              go_wp2
              go_ret
              exact ⟨by rw [HN.out HE.out]; rfl, rfl⟩
          · have b3 : c ≤ (57 : Int) := by omega
            have HE : Hid (nameB c = true) := Lib.hid (by unfold nameB; simp only [Bool.or_eq_true, Bool.and_eq_true, decide_eq_true_eq, beq_iff_eq]; omega)
            clear HN
            go_wp2
            go_round
            case rel => exact ⟨k + 1, by omega, by go_num, Lib.hid (HY.out HE.out)⟩
            case measure => simp [intOf]; omega
      · have b1 : (97 : Int) ≤ c := by omega
        have a2 : ¬ c < 48 := by omega
        have b2 : (48 : Int) ≤ c := by omega
        have a3 : (57 : Int) < c := by omega
        have b3 : ¬ c ≤ (57 : Int) := by omega
        by_cases a4 : (122 : Int) < c
        · have b4 : ¬ c ≤ (122 : Int) := by omega
          have d1 : c ≠ 46 := by omega
          have d2 : c ≠ 45 := by omega
          have d3 : c ≠ 95 := by omega
          have q0 : (c != 46) = true := by simpa using d1
          have q1 : (c != 45) = true := by simpa using d2
          have q2 : (c != 95) = true := by simpa using d3
          have HE : Hid (nameB c = false) := Lib.hid (by unfold nameB; simp only [Bool.or_eq_false_iff, Bool.and_eq_false_iff, decide_eq_false_iff_not, beq_eq_false_iff_ne]; omega)
          clear HY
          go_wp2
          go_ret
          exact ⟨by rw [HN.out HE.out]; rfl, rfl⟩
        · have b4 : c ≤ (122 : Int) := by omega
          have HE : Hid (nameB c = true) := Lib.hid (by unfold nameB; simp only [Bool.or_eq_true, Bool.and_eq_true, decide_eq_true_eq, beq_iff_eq]; omega)
          clear HN
          go_wp2
          go_round
          case rel => exact ⟨k + 1, by omega, by go_num, Lib.hid (HY.out HE.out)⟩
          case measure => simp [intOf]; omega
    · obtain rfl : k = s.size := by omega
      have HALL := Lib.hid (nameUp_all s HU.out)
      have HF : Hid (nameOk s = (decide (1 ≤ s.size) && decide (s.size ≤ 80))) := Lib.hid (by unfold nameOk; rw [HALL.out]; simp)
      by_cases e1 : 1 ≤ s.size
      · have x1 : (1 : Int) ≤ (s.size : Int) := by omega
        have x1' : (0 : Int) < (s.size : Int) := by omega
        by_cases e2 : s.size ≤ 80
        · have x2 : (s.size : Int) ≤ 80 := by omega
          have x2' : (s.size : Int) < 81 := by omega
          have HR : Hid (nameOk s = true) := Lib.hid (by rw [HF.out, decide_eq_true e1, decide_eq_true e2]; rfl)
          go_wp2
          go_ret
          exact ⟨by rw [HR.out]; rfl, rfl⟩
        · have x2 : ¬ (s.size : Int) ≤ 80 := by omega
          have x2' : ¬ (s.size : Int) < 81 := by omega
          have HR : Hid (nameOk s = false) := Lib.hid (by rw [HF.out, decide_eq_false e2]; simp)
          go_wp2
          go_ret
          exact ⟨by rw [HR.out]; rfl, rfl⟩
      · have x1 : ¬ (1 : Int) ≤ (s.size : Int) := by omega
        have x1' : ¬ (0 : Int) < (s.size : Int) := by omega
        have HR : Hid (nameOk s = false) := Lib.hid (by rw [HF.out, decide_eq_false e1]; rfl)
        go_wp2
        go_ret
        exact ⟨by rw [HR.out]; rfl, rfl⟩
def NamesL (w : World) (A : Option Addr) (m : Nat) (ns : List ByteArray) : Prop :=
  ns.length = m ∧ (∀ s ∈ ns, s.size ≤ 9223372036854775807) ∧ (0 < m → ∃ g off, A = some ⟨g, off, none⟩ ∧ g < w.heap.size ∧ ∀ j s, ns[j]? = some s → w.cell? ⟨g, off + j, none⟩ = some (.string s))
theorem NamesL.same {w w' : World} {A : Option Addr} {m : Nat} {ns : List ByteArray} (h : NamesL w A m ns) (hz : w.heap.size ≤ w'.heap.size) (hs : ∀ k ∈ blk A, k < w.heap.size → w'.heap[k]? = w.heap[k]?) : NamesL w' A m ns := by
  refine ⟨h.1, h.2.1, fun h0 => ?_⟩
  obtain ⟨g, off, rfl, hg, hc⟩ := h.2.2 h0
  refine ⟨g, off, rfl, Nat.lt_of_lt_of_le hg hz, fun j s hj => ?_⟩
  exact (World.cell?_of_block (w := w) (a := ⟨g, off + j, none⟩) (hs g (mem_blk.2 ⟨_, rfl, rfl⟩) hg)).trans (hc j s hj)
set_option maxHeartbeats 3200000 in
theorem begin_long (w : World) (d : Nat) (b : DBox) (h : DBoxAt w d b) (hcl : 0 ≤ b.calls ∧ b.calls ≤ 1000000) (hah : b.ahead ≤ 9223372036854775807) (A : Option Addr) (m c : Nat) (ns : List ByteArray) (hN : NamesL w A m ns) (hm : m ≤ 1000) (hd : d ∉ blk A) :
    Calls Tryz.prog 48 #[.pointer (some ⟨d, 0, none⟩), .slice A m c] w fun e w' => e = .returned (.int .i64 (beginE b ns)) ∧ DBoxAt w' d (poweredB b) ∧ Chg [d] w w' := by
  have HP := Lib.hid (power_any w d b h hcl hah)
  have HN := Lib.hid hN
  have HD := Lib.hid hd
  clear h hcl hah hN hd
  cases hp : powerB b with
  | false =>
    have HE : Hid (beginE b ns = 5) := Lib.hid (by unfold beginE; rw [hp]; rfl)
    rw [hp] at HP
    clear hp
    go_enter Tryz.func48, Tryz.ntmps48
    go_wp2_with fail
    refine HP.out.mono ?_
    rintro e w1 ⟨rfl, hb1, hc1⟩
    have HX := Lib.hid (And.intro hb1 hc1)
    clear hb1 hc1
    go_wp2
    go_ret
    exact ⟨by rw [HE.out]; rfl, HX.out⟩
  | true =>
    have HE : Hid (beginE b ns = if ns.all nameOk = true then 0 else 1) := Lib.hid (by unfold beginE; rw [hp]; rfl)
    rw [hp] at HP
    clear hp
    go_enter Tryz.func48, Tryz.ntmps48
    go_wp2_with fail
    refine HP.out.mono ?_
    rintro e w1 ⟨rfl, hb1, hc1⟩
    have HX := Lib.hid (And.intro hb1 hc1)
    have HN1 := Lib.hid (HN.out.same hc1.size (fun k hk hlt => hc1.same k hlt (by simp only [List.mem_singleton]; intro e; exact HD.out (by rw [← e]; exact hk))))
    clear hb1 hc1 HN HP
    go_wp2
    go_loopw [12] (fun i wr => ∃ k : Nat, k ≤ m ∧ i = .int .i64 k ∧ wr = w1 ∧ Hid ((ns.take k).all nameOk = true)) (fun i _ => m - (intOf i).toNat)
    case atStart => exact ⟨0, by omega, rfl, rfl, Lib.hid (by simp)⟩
    case round =>
      obtain ⟨k, hk, rfl, rfl, HA⟩ := hrel
      rcases Nat.lt_or_ge k m with hkm | hkm
      · obtain ⟨g, off, rfl, hg, hcs⟩ := HN1.out.2.2 (by omega)
        obtain ⟨s, hs⟩ : ∃ s, ns[k]? = some s := ⟨_, List.getElem?_eq_getElem (by rw [HN1.out.1]; exact hkm)⟩
        have hck := hcs k s hs
        have hsz := HN1.out.2.1 s (List.mem_of_getElem? hs)
        have HM := Lib.hid (mayName_long s hsz wr)
        have HT : Hid (ns.take (k + 1) = ns.take k ++ [s]) := Lib.hid (by rw [List.take_add_one, hs]; rfl)
        have HMEM := Lib.hid (List.mem_of_getElem? hs)
        have hkm' : (k : Int) < (m : Int) := by omega
        clear hcs hs
        cases hn : nameOk s with
        | true =>
          have HO := Lib.hid hn
          rw [hn] at HM
          clear hn
          go_wp2_with (go_at_call 78; refine HM.out.mono ?_; rintro e w' ⟨rfl, rfl⟩)
          go_roundw
          case rel => exact ⟨k + 1, by omega, by go_num, trivial, Lib.hid (by rw [HT.out, List.all_append, HA.out]; simp [HO.out])⟩
          case measure => simp [intOf]; omega
        | false =>
          have HO := Lib.hid hn
          rw [hn] at HM
          clear hn
          have HR : Hid (beginE b ns = 1) := Lib.hid (by
            rw [HE.out, if_neg (by
              intro h
              rw [List.all_eq_true] at h
              have := h s HMEM.out
              rw [HO.out] at this
              cases this)])
          go_wp2_with (go_at_call 78; refine HM.out.mono ?_; rintro e w' ⟨rfl, rfl⟩)
          go_ret
          exact ⟨by rw [HR.out]; rfl, HX.out⟩
      · obtain rfl : k = m := by omega
        have HR : Hid (beginE b ns = 0) := Lib.hid (by
          have h1 := HA.out
          rw [List.take_of_length_le (by rw [HN1.out.1]; exact Nat.le_refl _)] at h1
          rw [HE.out, if_pos h1])
        go_wp2
        go_ret
        exact ⟨by rw [HR.out]; rfl, HX.out⟩
theorem names1L (w : World) (nm : ByteArray) (hsz : nm.size ≤ 9223372036854775807) : NamesL (w.alloc (.cells #[.string nm] 9)) (some ⟨w.heap.size, 0, none⟩) 1 [nm] := by
  refine ⟨rfl, fun s hs => by simp only [List.mem_singleton] at hs; rw [hs]; exact hsz, fun _ => ⟨w.heap.size, 0, rfl, by simp, fun j s hj => ?_⟩⟩
  have hjl := (List.getElem?_eq_some_iff.1 hj).1
  simp only [List.length_cons, List.length_nil] at hjl
  obtain rfl : j = 0 := by omega
  simp only [List.getElem?_cons_zero, Option.some.injEq] at hj
  subst hj
  exact cell_of_one (heap_alloc_new w _)
section
variable {w : World} {d : Nat} {b : DBox} {RA C F : Option Addr} {rn rc cn cc fn fc : Nat} {ps : List (ByteArray × Value)} {css fs : List Value}
theorem begin1L (H : NowAt w d b RA rn rc ps) (nm : ByteArray) (hsz : nm.size ≤ 9223372036854775807) :
    Calls Tryz.prog 48 #[.pointer (some ⟨d, 0, none⟩), .slice (some ⟨w.heap.size, 0, none⟩) 1 1] (w.alloc (.cells #[.string nm] 9)) fun e w' => e = .returned (.int .i64 (beginE b [nm])) ∧ DBoxAt w' d (poweredB b) ∧ Chg [d] w w' := by
  have hb : Below w.heap.size w (w.alloc (.cells #[.string nm] 9)) := (Below.refl _ w).alloc (Nat.le_refl _) _
  have hd := H.box.lt
  refine (begin_long _ d b (H.box.below hb) H.calls H.ahead _ 1 1 [nm] (names1L w nm hsz) (by omega) (fun hm => by obtain ⟨ad, ea, he⟩ := mem_blk.1 hm; cases ea; dsimp only at he; omega)).mono ?_
  rintro e w' ⟨he, hx, hc⟩
  exact ⟨he, hx, (Chg.of_below hb).trans hc⟩
set_option maxHeartbeats 3200000 in
theorem create_errL (H : NowAt w d b RA rn rc ps) (nm : ByteArray) (hsz : nm.size ≤ 9223372036854775807) (hE : beginE b [nm] ≠ 0) :
    Calls Tryz.prog 20 #[.pointer (some ⟨d, 0, none⟩), .string nm] w fun e w' => e = .returned (.int .i64 (beginE b [nm])) ∧ DBoxAt w' d (poweredB b) ∧ Chg [d] w w' := by
  have HW := Lib.hid (begin1L H nm hsz)
  obtain ⟨E, hEE⟩ : ∃ E, beginE b [nm] = E := ⟨_, rfl⟩
  rw [hEE] at HW hE ⊢
  clear hEE H
  have hEb : (E == 0) = false := by simpa using hE
  go_enter Tryz.func20, Tryz.ntmps20
  go_wp2_with fail
  refine HW.out.mono ?_
  rintro e w1 ⟨rfl, hd1, hc1⟩
  have HX := Lib.hid (And.intro hd1 hc1)
  clear hd1 hc1
  go_wp2
  go_ret
  exact ⟨rfl, HX.out⟩
end
section
variable {w w' : World} {d : Nat} {own own' : Nat → Nat} {b : DBox} {F RA SA C : Option Addr} {fn fc rn rc sn sc cn cc : Nat} {fs css : List Value} {ps ss : List (ByteArray × Value)} {chl : List (List (ByteArray × Value))} {nm su : Value → Nat} {dt : Value → List Value} {r : RD}
theorem DiskIn.create_noL (H : DiskIn w d own b F fn fc RA rn rc SA sn sc C cn cc fs ps ss css chl nm dt su) (hb : b.calls < 80000) (x : ByteArray) (hsz : x.size ≤ 9223372036854775807) (hE : beginE b [x] ≠ 0) :
    Calls Tryz.prog 20 #[.pointer (some ⟨d, 0, none⟩), .string x] w fun e w' => e = .returned (.int .i64 (beginE b [x])) ∧ Only own w own w' ∧ DiskIn w' d own (poweredB b) F fn fc RA rn rc SA sn sc C cn cc fs ps ss css chl nm dt su := by
  refine (create_errL H.nowAt x hsz hE).mono ?_
  rintro e w' ⟨rfl, hD, hc⟩
  exact ⟨rfl, H.off1 hb hD hc⟩
theorem IsD.create_noL (h : IsD w d own r) (hs : r.size + 4 ≤ 80000) (x : ByteArray) (hsz : x.size ≤ 9223372036854775807) (h0' : r.begE [x] ≠ 0) :
    Calls Tryz.prog 20 #[.pointer (some ⟨d, 0, none⟩), .string x] w fun e w' => e = .returned (.int .i64 (r.create x).1) ∧ DNext w d own (r.create x).2 w' := by
  obtain ⟨hF, b, F, fn, fc, RA, rn, rc, SA, sn, sc, C, cn, cc, fs, ps, ss, css, chl, nm, dt, su, H, R⟩ := h
  obtain ⟨l1, l2, l3, l4⟩ := H.rlen R
  have hcl := R.calls
  unfold RD.size at hs
  have hb : b.calls < 80000 := by omega
  have hE := R.begE [x]
  have h0 : ¬ beginE b [x] = 0 := by rw [hE]; exact h0'
  have e : r.create x = (r.begE [x], r.powered) := by
    unfold RD.create
    rw [if_neg h0']
  rw [e, ← hE]
  refine (H.create_noL hb x hsz h0).mono ?_
  rintro e' w' ⟨rfl, O, H'⟩
  exact ⟨rfl, DNext.of hF O H' R.powered⟩
end
end Go.Proofs.YtdjnebgjdekmaaaGreatDoor
namespace Go.Proofs.YtdjnebgjdekmaaaGreatDoor
open Go.RowKit Go.Maps
set_option linter.unusedVariables false
set_option maxRecDepth 100000

theorem names_tag (nm : Value → Nat) (ps : List (ByteArray × Value)) : namesV (mapT nm ps) = namesV ps := by
  unfold namesV mapT
  rw [List.map_map]
  rfl
theorem IsD.list {w : World} {d : Nat} {own : Nat → Nat} {r : RD} (h : IsD w d own r) :
    Calls Tryz.prog 22 #[.pointer (some ⟨d, 0, none⟩)] w fun e w' => (∃ A' c', e = .returned (.slice A' r.now.length c') ∧ SLine 1 w' A' r.now.length c' (namesV r.now) ∧ ∀ k ∈ blk A', w.heap.size ≤ k) ∧ Below w.heap.size w w' := by
  obtain ⟨hF, b, F, fn, fc, RA, rn, rc, SA, sn, sc, C, cn, cc, fs, ps, ss, css, chl, nm, dt, su, H, R⟩ := h
  rw [H.rnow R, names_tag, show (mapT nm ps).length = ps.length from by unfold mapT; rw [List.length_map]]
  refine list_any w d RA rn rc ps H.nowAt.rowAt H.nowAt.len fun p hp => ?_
  obtain ⟨f, num, A, c, sure, e, _⟩ := H.filesIn p hp
  exact ⟨_, e⟩
end Go.Proofs.YtdjnebgjdekmaaaGreatDoor
