/-
  The contract of the disk's begin.
-/
import Derived.Test.YtbjlikppboggmaaZae
namespace Go.Proofs.Ytbjlikppboggmaa
open Go.RowKit
set_option linter.unusedVariables false
set_option maxRecDepth 100000

/-- The slice A of m texts holds ns. -/
def NamesAt (w : World) (A : Option Addr) (m : Nat) (ns : List ByteArray) : Prop :=
  ns.length = m ∧ (∀ s ∈ ns, s.size ≤ 1000000) ∧ (0 < m → ∃ g off, A = some ⟨g, off, none⟩ ∧ g < w.heap.size ∧ ∀ j s, ns[j]? = some s → w.cell? ⟨g, off + j, none⟩ = some (.string s))
theorem NamesAt.same {w w' : World} {A : Option Addr} {m : Nat} {ns : List ByteArray} (h : NamesAt w A m ns) (hz : w.heap.size ≤ w'.heap.size) (hs : ∀ k ∈ blk A, k < w.heap.size → w'.heap[k]? = w.heap[k]?) : NamesAt w' A m ns := by
  refine ⟨h.1, h.2.1, fun h0 => ?_⟩
  obtain ⟨g, off, rfl, hg, hc⟩ := h.2.2 h0
  refine ⟨g, off, rfl, Nat.lt_of_lt_of_le hg hz, fun j s hj => ?_⟩
  exact (World.cell?_of_block (w := w) (a := ⟨g, off + j, none⟩) (hs g (mem_blk.2 ⟨_, rfl, rfl⟩) hg)).trans (hc j s hj)
/-- What begin answers: 0, 1 (a name may not be), 5 (no power). -/
def beginE (b : DBox) (ns : List ByteArray) : Int := if powerB b = true then (if ns.all nameOk = true then 0 else 1) else 5
set_option maxHeartbeats 1600000 in
theorem begin_any (w : World) (d : Nat) (b : DBox) (h : DBoxAt w d b) (hcl : 0 ≤ b.calls ∧ b.calls ≤ 1000000) (hah : b.ahead ≤ 9223372036854775807) (A : Option Addr) (m c : Nat) (ns : List ByteArray) (hN : NamesAt w A m ns) (hm : m ≤ 1000) (hd : d ∉ blk A) :
    Calls Try.prog 42 #[.pointer (some ⟨d, 0, none⟩), .slice A m c] w fun e w' => e = .returned (.int .i64 (beginE b ns)) ∧ DBoxAt w' d (poweredB b) ∧ Chg [d] w w' := by
  have HP := Lib.hid (power_any w d b h hcl hah)
  have HN := Lib.hid hN
  have HD := Lib.hid hd
  clear h hcl hah hN hd
  cases hp : powerB b with
  | false =>
    have HE : Hid (beginE b ns = 5) := Lib.hid (by unfold beginE; rw [hp]; rfl)
    rw [hp] at HP
    clear hp
    go_enter Try.func42, Try.ntmps42
    go_wp2_with fail
    refine HP.out.mono ?_
    rintro e w1 ⟨rfl, hb1, hc1⟩
    have HX := Lib.hid (And.intro hb1 hc1)
    clear hb1 hc1
    go_wp2
    go_ret
    exact ⟨by rw [HE.out]; rfl, HX.out⟩
  | true =>
    have HE : Hid (beginE b ns = if ns.all nameOk = true then 0 else 1) := Lib.hid (by unfold beginE; rw [hp]; rfl)
    rw [hp] at HP
    clear hp
    go_enter Try.func42, Try.ntmps42
    go_wp2_with fail
    refine HP.out.mono ?_
    rintro e w1 ⟨rfl, hb1, hc1⟩
    have HX := Lib.hid (And.intro hb1 hc1)
    have HN1 := Lib.hid (HN.out.same hc1.size (fun k hk hlt => hc1.same k hlt (by simp only [List.mem_singleton]; intro e; exact HD.out (by rw [← e]; exact hk))))
    clear hb1 hc1 HN HP
    go_wp2
    go_loopw [12] (fun i wr => ∃ k : Nat, k ≤ m ∧ i = .int .i64 k ∧ wr = w1 ∧ Hid ((ns.take k).all nameOk = true)) (fun i _ => m - (intOf i).toNat)
    case atStart => exact ⟨0, by omega, rfl, rfl, Lib.hid (by simp)⟩
    case round =>
      obtain ⟨k, hk, rfl, rfl, HA⟩ := hrel
      rcases Nat.lt_or_ge k m with hkm | hkm
      · obtain ⟨g, off, rfl, hg, hcs⟩ := HN1.out.2.2 (by omega)
        obtain ⟨s, hs⟩ : ∃ s, ns[k]? = some s := ⟨_, List.getElem?_eq_getElem (by rw [HN1.out.1]; exact hkm)⟩
        have hck := hcs k s hs
        have hsz := HN1.out.2.1 s (List.mem_of_getElem? hs)
        have HM := Lib.hid (mayName_any s hsz wr)
        have HT : Hid (ns.take (k + 1) = ns.take k ++ [s]) := Lib.hid (by rw [List.take_add_one, hs]; rfl)
        have HMEM := Lib.hid (List.mem_of_getElem? hs)
        have hkm' : (k : Int) < (m : Int) := by omega
        clear hcs hs
        cases hn : nameOk s with
        | true =>
          have HO := Lib.hid hn
          rw [hn] at HM
          clear hn
          go_wp2_with (go_at_call 25; refine HM.out.mono ?_; rintro e w' ⟨rfl, rfl⟩)
          go_roundw
          case rel => exact ⟨k + 1, by omega, by go_num, trivial, Lib.hid (by rw [HT.out, List.all_append, HA.out]; simp [HO.out])⟩
          case measure => simp [intOf]; omega
        | false =>
          have HO := Lib.hid hn
          rw [hn] at HM
          clear hn
          have HR : Hid (beginE b ns = 1) := Lib.hid (by
            rw [HE.out, if_neg (by
              intro h
              rw [List.all_eq_true] at h
              have := h s HMEM.out
              rw [HO.out] at this
              cases this)])
          go_wp2_with (go_at_call 25; refine HM.out.mono ?_; rintro e w' ⟨rfl, rfl⟩)
          go_ret
          exact ⟨by rw [HR.out]; rfl, HX.out⟩
      · obtain rfl : k = m := by omega
        have HR : Hid (beginE b ns = 0) := Lib.hid (by
          have h1 := HA.out
          rw [List.take_of_length_le (by rw [HN1.out.1]; exact Nat.le_refl _)] at h1
          rw [HE.out, if_pos h1])
        go_wp2
        go_ret
        exact ⟨by rw [HR.out]; rfl, HX.out⟩
end Go.Proofs.Ytbjlikppboggmaa
