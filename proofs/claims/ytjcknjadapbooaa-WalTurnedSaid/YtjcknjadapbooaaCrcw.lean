/-
  Contracts of digest.More, digest.Crc and the document's Crc.
-/
import Derived.Test.YtjcknjadapbooaaSlw
import Derived.Test.YtjcknjadapbooaaCrcMath
namespace Go.Proofs.Ytjcknjadapbooaa
open Go.RowKit
set_option linter.unusedVariables false

/-- A list of numbers as integers. -/
def asZ (l : List Nat) : List Int := l.map Int.ofNat
/-- The slice at A of n elements holds the bytes l. -/
def RowN (w : World) (A : Option Addr) (n : Nat) (l : List Nat) : Prop := RowZ w A n (asZ l)
theorem asZ_append (a b : List Nat) : asZ (a ++ b) = asZ a ++ asZ b := List.map_append
theorem asZ_take (a : List Nat) (k : Nat) : asZ (a.take k) = (asZ a).take k := List.map_take
theorem asZ_length (a : List Nat) : (asZ a).length = a.length := List.length_map ..
theorem asZ_getD (l : List Nat) (i : Nat) : (asZ l).getD i 0 = ((l.getD i 0 : Nat) : Int) := by
  unfold asZ
  by_cases h : i < l.length
  · simp [List.getD, h]
  · simp [List.getD, h]
theorem RowN.length {w : World} {A : Option Addr} {n : Nat} {l : List Nat} (h : RowN w A n l) : l.length = n := by
  have := h.1
  rwa [asZ_length] at this
theorem RowN.lt {w : World} {A : Option Addr} {n : Nat} {l : List Nat} (h : RowN w A n l) : ∀ x ∈ l, x < 256 := fun x hx => by
  have := h.2.1 (x : Int) (List.mem_map.2 ⟨x, hx, rfl⟩)
  omega
theorem getD_lt {l : List Nat} {b : Nat} (hb : 0 < b) (h : ∀ x ∈ l, x < b) (i : Nat) : l.getD i 0 < b := by
  by_cases hi : i < l.length
  · have e : l.getD i 0 = l[i] := by simp [List.getD, hi]
    rw [e]
    exact h _ (List.getElem_mem hi)
  · have e : l.getD i 0 = 0 := by simp [List.getD, hi]
    omega
theorem RowN.below {w w' : World} {A : Option Addr} {n : Nat} {l : List Nat} (h : RowN w A n l) (hb : Below w.heap.size w w') : RowN w' A n l := RowZ.below h hb
theorem RowN.take {w : World} {A : Option Addr} {n k : Nat} {l : List Nat} (h : RowN w A n l) (hk : k ≤ n) : RowN w A k (l.take k) := by
  unfold RowN
  rw [asZ_take]
  exact RowZ.take h hk
theorem RowZ.toN {w : World} {A : Option Addr} {n : Nat} {zs : List Int} (h : RowZ w A n zs) : RowN w A n (zs.map Int.toNat) := by
  have e : asZ (zs.map Int.toNat) = zs := by
    unfold asZ
    rw [List.map_map]
    conv => rhs; rw [← List.map_id zs]
    apply List.map_congr_left
    intro z hz
    have := h.2.1 z hz
    show ((z.toNat : Nat) : Int) = z
    omega
  unfold RowN
  rwa [e]
/-- Where the elements lie. -/
theorem RowN.cells {w : World} {A : Option Addr} {n : Nat} {l : List Nat} (h : RowN w A n l) (hn : 0 < n) : ∃ b off, A = some ⟨b, off, none⟩ ∧ b < w.heap.size ∧ ∀ i, i < n → w.cell? ⟨b, off + i, none⟩ = some (.int .u8 ((l.getD i 0 : Nat) : Int)) := by
  obtain ⟨b, off, e, hlt, hc⟩ := h.2.2 hn
  exact ⟨b, off, e, hlt, fun i hi => by rw [hc i hi, asZ_getD]⟩
theorem take_succ_getDN {l : List Nat} {k : Nat} (hk : k < l.length) : l.take (k + 1) = l.take k ++ [l.getD k 0] := by
  rw [List.take_add_one]
  simp [hk]

theorem and_one (x m : Nat) (hx : x < 256) : bits .and .u32 ((x : Int) / 2 ^ m % 4294967296) 1 = ((x / 2 ^ m % 2 : Nat) : Int) := by
  have h1 : x / 2 ^ m ≤ x := Nat.div_le_self _ _
  have e : (x : Int) / 2 ^ m % 4294967296 = ((x / 2 ^ m : Nat) : Int) := by
    have : ((x / 2 ^ m : Nat) : Int) = (x : Int) / 2 ^ m := by simp
    rw [← this]
    exact Int.emod_eq_of_lt (Int.natCast_nonneg _) (show ((x / 2 ^ m : Nat) : Int) < ((4294967296 : Nat) : Int) from Int.ofNat_lt.2 (by omega))
  rw [e]
  have h := u32_and_nat (x / 2 ^ m) 1 (by omega) (by decide)
  rw [nat_mask1] at h
  exact h
theorem not_u32 (s : Nat) (hs : s < 4294967296) : bits .xor .u32 IntKind.u32.max (s : Int) = ((notN s : Nat) : Int) := by
  have h1 : bits .xor .u32 IntKind.u32.max (s : Int) = IntKind.u32.wrap ((BitVec.ofInt 32 4294967295 ^^^ BitVec.ofInt 32 (s : Int)).toNat : Int) := rfl
  rw [h1, show BitVec.ofInt 32 4294967295 = BitVec.allOnes 32 from by decide, BitVec.allOnes_xor, BitVec.toNat_not, ofInt_u32 s hs, IntKind.wrap_u32']
  unfold notN
  omega
theorem and_low (q : Nat) (hq : q < 4294967296) : bits .and .u32 (q : Int) 1 = ((q % 2 : Nat) : Int) := by
  have h := u32_and_nat q 1 hq (by decide)
  rwa [nat_mask1] at h
theorem poly_of (q : Nat) (hq : q < 4294967296) (ho : q % 2 = 1) : bits .xor .u32 ((q : Int) / 2) 3988292384 = ((crcStep q : Nat) : Int) := by
  have h := u32_xor_nat (q / 2) 3988292384 (by omega) (by decide)
  unfold crcStep
  rw [if_pos ho]
  exact h

set_option maxHeartbeats 400000 in
theorem more_any (A : Option Addr) (n cap : Nat) (l : List Nat) (s : Nat) (hs : s < 4294967296) (hn : n ≤ 100000) (w : World) (hR : RowN w A n l) :
    Calls Try.prog 21 #[.int .u32 s, .slice A n cap] w fun e w' => e = .returned (.int .u32 (crcMore s l)) ∧ w = w' := by
  have HR := Lib.hid hR
  clear hR
  have h0 := not_u32 s hs
  have h9 := not_u32 (crcFold (notN s) l) (crcFold_lt _ _ (notN_lt s))
  go_enter Try.func21, Try.ntmps21
  go_wp2
  go_loop [5, 14] (fun r i => ∃ k : Nat, k ≤ n ∧ i = .int .i64 k ∧ r = .int .u32 (crcFold (notN s) (l.take k))) (fun _ i => n - (intOf i).toNat)
  case atStart => exact ⟨0, by omega, rfl, rfl⟩
  case round =>
    obtain ⟨k, hk, rfl, rfl⟩ := hrel
    clear h0
    rcases Nat.lt_or_ge k n with hkn | hkn
    · obtain ⟨b, off, rfl, hlt, hc⟩ := HR.out.cells (by omega)
      have hck := hc k hkn
      have ET : Hid (crcFold (notN s) (l.take (k + 1)) = crcByte (crcFold (notN s) (l.take k)) (l.getD k 0)) := Lib.hid (by rw [take_succ_getDN (by rw [HR.out.length]; exact hkn), crcFold_snoc])
      have hr := crcFold_lt (l.take k) (notN s) (notN_lt s)
      have hx := getD_lt (by decide) HR.out.lt k
      clear hc hlt h9
      generalize crcFold (notN s) (l.take k) = r at *
      generalize l.getD k 0 = x at *
      have hkn' : (k : Int) < (n : Int) := by omega
      have hk0 : (0 : Int) ≤ (k : Int) := by omega
      go_wp2
      go_loop [5, 18] (fun q j => ∃ m : Nat, m ≤ 8 ∧ j = .int .i64 m ∧ q = .int .u32 (crcBits r x m)) (fun _ i => 8 - (intOf i).toNat)
      case atStart => exact ⟨0, by omega, rfl, rfl⟩
      case round =>
        obtain ⟨m, hm, rfl, rfl⟩ := hrel
        by_cases hm8 : m < 8
        · have hq := crcBits_lt r x hr m
          have hm8' : (m : Int) < 8 := by omega
          have h1 := and_one x m hx
          have h2 := u32_xor_nat (crcBits r x m) (x / 2 ^ m % 2) hq (by omega)
          have hq' : crcBits r x m ^^^ (x / 2 ^ m % 2) < 4294967296 := Nat.xor_lt_two_pow (n := 32) hq (by omega)
          have ES : Hid (crcBits r x (m + 1) = crcStep (crcBits r x m ^^^ (x / 2 ^ m % 2))) := Lib.hid rfl
          generalize x / 2 ^ m % 2 = bt at *
          generalize crcBits r x m ^^^ bt = q at *
          have h3 := and_low q hq'
          by_cases ho : q % 2 = 1
          · have h4 := poly_of q hq' ho
            rw [ho] at h3
            have h3' : bits .and .u32 (q : Int) 1 = 1 := h3
            clear h3 ho
            go_wp2
            go_round
            case rel => exact ⟨m + 1, by omega, by go_num, by rw [ES.out]⟩
            case measure => simp [intOf]; omega
          · have h5 : q % 2 = 0 := by omega
            rw [h5] at h3
            have h3' : bits .and .u32 (q : Int) 1 = 0 := h3
            have HN := Lib.hid ho
            clear h3 h5 ho
            go_wp2
            go_round
            case rel => exact ⟨m + 1, by omega, by go_num, by rw [ES.out]; unfold crcStep; rw [if_neg HN.out]; rfl⟩
            case measure => simp [intOf]; omega
        · obtain rfl : m = 8 := by omega
          go_wp2
          go_round
          case rel => exact ⟨k + 1, by omega, by go_num, by rw [ET.out]; rfl⟩
          case measure => simp [intOf]; omega
    · obtain rfl : k = n := by omega
      have EL : Hid (l.take k = l) := Lib.hid (List.take_of_length_le (by rw [HR.out.length]; omega))
      rw [EL.out]
      go_wp2
      go_ret
      exact ⟨rfl, rfl⟩

theorem crc_any (A : Option Addr) (n cap : Nat) (l : List Nat) (hn : n ≤ 100000) (w : World) (hR : RowN w A n l) :
    Calls Try.prog 16 #[.slice A n cap] w fun e w' => e = .returned (.int .u32 (crcMore 0 l)) ∧ w = w' := by
  have HR := Lib.hid hR
  clear hR
  go_enter Try.func16, Try.ntmps16
  go_wp2_with (go_at_call 21; refine (more_any A n cap l 0 (by decide) hn _ HR.out).mono ?_; rintro e w' ⟨rfl, rfl⟩)
  go_ret
  exact ⟨rfl, rfl⟩

theorem bne_no (q x m : Nat) (h : q % 2 = x / 2 ^ m % 2) : ((q : Int) % 2 != (x : Int) / 2 ^ m % 2) = false := by
  have e : (q : Int) % 2 = (x : Int) / 2 ^ m % 2 := by
    have := congrArg (Int.ofNat) h
    simpa using this
  rw [e]
  simp
theorem bne_yes (q x m : Nat) (h : ¬ q % 2 = x / 2 ^ m % 2) : ((q : Int) % 2 != (x : Int) / 2 ^ m % 2) = true := by
  rw [bne_iff_ne]
  intro e
  apply h
  have e1 : ((q % 2 : Nat) : Int) = ((x / 2 ^ m % 2 : Nat) : Int) := by simpa using e
  exact Int.ofNat.inj e1

set_option maxHeartbeats 400000 in
theorem refcrc_any (A : Option Addr) (n cap : Nat) (l : List Nat) (hn : n ≤ 100000) (w : World) (hR : RowN w A n l) :
    Calls Try.prog 20 #[.slice A n cap] w fun e w' => e = .returned (.int .u32 (crcMore 0 l)) ∧ w = w' := by
  have HR := Lib.hid hR
  clear hR
  have h9 := crcFold_lt l 4294967295 (by decide)
  go_enter Try.func20, Try.ntmps20
  go_wp2
  go_loop [3, 10] (fun r i => ∃ k : Nat, k ≤ n ∧ i = .int .i64 k ∧ r = .int .u32 (crcFold 4294967295 (l.take k))) (fun _ i => n - (intOf i).toNat)
  case atStart => exact ⟨0, by omega, rfl, rfl⟩
  case round =>
    obtain ⟨k, hk, rfl, rfl⟩ := hrel
    rcases Nat.lt_or_ge k n with hkn | hkn
    · obtain ⟨b, off, rfl, hlt, hc⟩ := HR.out.cells (by omega)
      have hck := hc k hkn
      have ET : Hid (crcFold 4294967295 (l.take (k + 1)) = crcByte (crcFold 4294967295 (l.take k)) (l.getD k 0)) := Lib.hid (by rw [take_succ_getDN (by rw [HR.out.length]; exact hkn), crcFold_snoc])
      have hr := crcFold_lt (l.take k) 4294967295 (by decide)
      have hx := getD_lt (by decide) HR.out.lt k
      clear hc hlt h9
      generalize crcFold 4294967295 (l.take k) = r at *
      generalize l.getD k 0 = x at *
      have hkn' : (k : Int) < (n : Int) := by omega
      have hk0 : (0 : Int) ≤ (k : Int) := by omega
      go_wp2
      go_loop [3, 6] (fun q j => ∃ m : Nat, m ≤ 8 ∧ j = .int .i64 m ∧ q = .int .u32 (crcBits r x m)) (fun _ i => 8 - (intOf i).toNat)
      case atStart => exact ⟨0, by omega, rfl, rfl⟩
      case round =>
        obtain ⟨m, hm, rfl, rfl⟩ := hrel
        by_cases hm8 : m < 8
        · have hq := crcBits_lt r x hr m
          have hm8' : (m : Int) < 8 := by omega
          by_cases ho : crcBits r x m % 2 = x / 2 ^ m % 2
          · have ES : Hid (crcBits r x (m + 1) = crcBits r x m / 2) := Lib.hid (crcBit_no _ _ (by omega) ho)
            have hne := bne_no _ _ _ ho
            clear ho
            generalize crcBits r x m = q at *
            go_wp2
            go_round
            case rel => exact ⟨m + 1, by omega, by go_num, by rw [ES.out]; rfl⟩
            case measure => simp [intOf]; omega
          · have ES : Hid (crcBits r x (m + 1) = (crcBits r x m / 2) ^^^ 3988292384) := Lib.hid (crcBit_yes _ _ (by omega) ho)
            have hne := bne_yes _ _ _ ho
            clear ho
            generalize crcBits r x m = q at *
            have HX : Hid (bits .xor .u32 ((q : Int) / 2) 3988292384 = (((q / 2) ^^^ 3988292384 : Nat) : Int)) := Lib.hid (u32_xor_nat (q / 2) 3988292384 (by omega) (by decide))
            go_wp2
            go_round
            case rel => exact ⟨m + 1, by omega, by go_num, by rw [ES.out, HX.out]⟩
            case measure => simp [intOf]; omega
        · obtain rfl : m = 8 := by omega
          go_wp2
          go_round
          case rel => exact ⟨k + 1, by omega, by go_num, by rw [ET.out]; rfl⟩
          case measure => simp [intOf]; omega
    · obtain rfl : k = n := by omega
      have EL : Hid (l.take k = l) := Lib.hid (List.take_of_length_le (by rw [HR.out.length]; omega))
      rw [EL.out]
      go_wp2
      go_ret
      exact ⟨ret_int (by unfold crcMore notN; rw [show 4294967295 - 0 = 4294967295 from rfl]; omega), rfl⟩
end Go.Proofs.Ytjcknjadapbooaa
