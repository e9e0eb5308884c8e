/-
  Append, Read, New on a whole disk.
-/
import Derived.Test.YtnjnlcmpfnabiaaGb
import Derived.Test.YtnjnlcmpfnabiaaDq
import Derived.Test.YtnjnlcmpfnabiaaDm
namespace Go.Proofs.Ytnjnlcmpfnabiaa
open Go.RowKit Go.Maps
set_option linter.unusedVariables false
set_option maxRecDepth 100000

theorem sumLen_le (ln : Value → Nat) (m : Nat) : ∀ ps : List (ByteArray × Value), (∀ p ∈ ps, ln p.2 ≤ m) → sumLen ln ps ≤ ps.length * m := by
  intro ps
  induction ps with
  | nil => intro _; simp [sumLen]
  | cons p l ih =>
    intro h
    have h1 := h p (List.mem_cons_self ..)
    have h2 := ih (fun q hq => h q (List.mem_cons_of_mem _ hq))
    have e : sumLen ln (p :: l) = ln p.2 + sumLen ln l := by unfold sumLen; simp
    rw [e, List.length_cons, Nat.succ_mul]
    omega
section
variable {w w' : World} {d : Nat} {own own' : Nat → Nat} {b : DBox} {F RA SA C : Option Addr} {fn fc rn rc sn sc cn cc : Nat} {fs css : List Value} {ps ss : List (ByteArray × Value)} {chl : List (List (ByteArray × Value))} {nm su : Value → Nat} {dt : Value → List Value}
/-- How many bytes a disk's names have. -/
def usedO (dt : Value → List Value) (ps : List (ByteArray × Value)) : Nat := sumLen (fun v => (dt v).length) ps
theorem DiskIn.filesIn (H : DiskIn w d own b F fn fc RA rn rc SA sn sc C cn cc fs ps ss css chl nm dt su) : FilesIn w (fun v => (dt v).length) ps := fun p hp => by
  obtain ⟨f, A, n, c, e, h7, hfa, hsl, _⟩ := H.file _ (H.nin p hp)
  obtain rfl : n = (dt p.2).length := by have := hsl.1; omega
  exact ⟨f, _, A, c, _, e, hfa⟩
theorem DiskIn.usedLe (H : DiskIn w d own b F fn fc RA rn rc SA sn sc C cn cc fs ps ss css chl nm dt su) : usedO dt ps ≤ 1000000000000 := by
  have h := sumLen_le (fun v => (dt v).length) 1048576 ps (fun p hp => by
    obtain ⟨f, A, n, c, e, h7, hfa, hsl, hoA, hn, _⟩ := H.file _ (H.nin p hp)
    have := hsl.1
    show (dt p.2).length ≤ _
    omega)
  have h2 := H.nowAt.len
  have h3 := H.nrow.len
  unfold usedO
  omega
theorem DiskIn.notBox (H : DiskIn w d own b F fn fc RA rn rc SA sn sc C cn cc fs ps ss css chl nm dt su) : ∀ p ∈ ps, p.2 ≠ .pointer (some ⟨d, 0, none⟩) := fun p hp e => by
  have h := H.nin p hp
  rw [e] at h
  have := H.ownf d h
  have := H.od
  omega
theorem DiskIn.append_big (H : DiskIn w d own b F fn fc RA rn rc SA sn sc C cn cc fs ps ss css chl nm dt su) (hb : b.calls < 80000) (x : ByteArray) (hsz : x.size ≤ 1000000) (hE : withE b [x] ps x = 0) (f : Nat) (hF : withF b [x] ps x = .pointer (some ⟨f, 0, none⟩)) (BA : Option Addr) (bn bc : Nat) (hbn : bn ≤ 10000000) (hbig : 1048576 < (dt (.pointer (some ⟨f, 0, none⟩))).length + bn) :
    Calls Try.prog 19 #[.pointer (some ⟨d, 0, none⟩), .string x, .slice BA bn bc] w fun e w' => e = .returned (.int .i64 2) ∧ Only own w own w' ∧ DiskIn w' d own (poweredB b) F fn fc RA rn rc SA sn sc C cn cc fs ps ss css chl nm dt su := by
  have hl := H.look x _ (withF_look b [x] ps x hE)
  rw [hF] at hl
  obtain ⟨f0, A, n, c, e, hf7, hfa, hsl, hoA, hn1, hsu⟩ := H.file _ hl
  cases e
  obtain rfl : n = (dt (.pointer (some ⟨f, 0, none⟩))).length := by have := hsl.1; omega
  refine (Go.Proofs.Ytnjnlcmpfnabiaa.append_big H.nowAt x hsz hE f _ hF A _ c _ hfa (fun e => by rw [e, H.od] at hf7; omega) BA bn bc (by omega) hbn hbig).mono ?_
  rintro e w' ⟨rfl, hD, hc⟩
  exact ⟨rfl, H.off1 hb hD hc⟩
theorem DiskIn.append_no (H : DiskIn w d own b F fn fc RA rn rc SA sn sc C cn cc fs ps ss css chl nm dt su) (hb : b.calls < 80000) (x : ByteArray) (hsz : x.size ≤ 1000000) (hE : withE b [x] ps x ≠ 0) (BA : Option Addr) (bn bc : Nat) :
    Calls Try.prog 19 #[.pointer (some ⟨d, 0, none⟩), .string x, .slice BA bn bc] w fun e w' => e = .returned (.int .i64 (withE b [x] ps x)) ∧ Only own w own w' ∧ DiskIn w' d own (poweredB b) F fn fc RA rn rc SA sn sc C cn cc fs ps ss css chl nm dt su := by
  refine (Go.Proofs.Ytnjnlcmpfnabiaa.append_no H.nowAt x hsz hE BA bn bc).mono ?_
  rintro e w' ⟨rfl, hD, hc⟩
  exact ⟨rfl, H.off1 hb hD hc⟩
theorem DiskIn.append_full (H : DiskIn w d own b F fn fc RA rn rc SA sn sc C cn cc fs ps ss css chl nm dt su) (hb : b.calls < 80000) (x : ByteArray) (hsz : x.size ≤ 1000000) (hE : withE b [x] ps x = 0) (f : Nat) (hF : withF b [x] ps x = .pointer (some ⟨f, 0, none⟩)) (BA : Option Addr) (bn bc : Nat) (hsmall : (dt (.pointer (some ⟨f, 0, none⟩))).length + bn ≤ 1048576) (hfull : b.quota < (usedO dt ps : Int) + (bn : Int)) :
    Calls Try.prog 19 #[.pointer (some ⟨d, 0, none⟩), .string x, .slice BA bn bc] w fun e w' => e = .returned (.int .i64 4) ∧ Only own w own w' ∧ DiskIn w' d own { poweredB b with full := true } F fn fc RA rn rc SA sn sc C cn cc fs ps ss css chl nm dt su := by
  have hl := H.look x _ (withF_look b [x] ps x hE)
  rw [hF] at hl
  obtain ⟨f0, A, n, c, e, hf7, hfa, hsl, hoA, hn1, hsu⟩ := H.file _ hl
  cases e
  obtain rfl : n = (dt (.pointer (some ⟨f, 0, none⟩))).length := by have := hsl.1; omega
  refine (Go.Proofs.Ytnjnlcmpfnabiaa.append_full H.nowAt x hsz hE f _ hF A _ c _ hfa (fun e => by rw [e, H.od] at hf7; omega) BA bn bc (by omega) (by omega) hsmall _ H.filesIn H.notBox H.usedLe hfull).mono ?_
  rintro e w' ⟨rfl, hD, hc⟩
  have L := H.likeP hb
  exact ⟨rfl, Only.of_chg hc (fun k hk => by rw [List.mem_singleton] at hk; rw [hk, H.od]; exact .inl (by omega)), H.boxed hc _ hD L.files L.now L.sure L.changes L.made L.quota L.calls L.ahead⟩
theorem DiskIn.append_yes (H : DiskIn w d own b F fn fc RA rn rc SA sn sc C cn cc fs ps ss css chl nm dt su) (hb : b.calls < 80000) (x : ByteArray) (hsz : x.size ≤ 1000000) (hE : withE b [x] ps x = 0) (f : Nat) (hF : withF b [x] ps x = .pointer (some ⟨f, 0, none⟩)) (BA : Option Addr) (bn bc : Nat) (hsmall : (dt (.pointer (some ⟨f, 0, none⟩))).length + bn ≤ 1048576) (hroom : (usedO dt ps : Int) + (bn : Int) ≤ b.quota)
    (news : List Value) (hnews : ∀ u ∈ news, ∃ z : Int, 0 ≤ z ∧ z < 256 ∧ u = .int .u8 z) (hsrc : ∀ W, Chg [d] w W → Src Try.prog 1 29 (.slice BA bn bc) bn news W) :
    Calls Try.prog 19 #[.pointer (some ⟨d, 0, none⟩), .string x, .slice BA bn bc] w fun e w' => e = .returned (.int .i64 0) ∧ FiledO w d own (poweredB b) F fn fc RA rn rc SA sn sc C cn cc fs css ps ss chl nm (updP dt f (dt (.pointer (some ⟨f, 0, none⟩)) ++ news)) (updP su f (su (.pointer (some ⟨f, 0, none⟩)))) w' := by
  have hl := H.look x _ (withF_look b [x] ps x hE)
  rw [hF] at hl
  obtain ⟨f0, A, n, c, e, hf7, hfa, hsl, hoA, hn1, hsu⟩ := H.file _ hl
  cases e
  obtain rfl : n = (dt (.pointer (some ⟨f, 0, none⟩))).length := by have := hsl.1; omega
  refine (append_ok H.nowAt x hsz hE f _ hF A _ c _ hfa (fun e => by rw [e, H.od] at hf7; omega) BA bn bc (by omega) (by omega) hsmall _ H.filesIn H.notBox H.usedLe hroom _ hsl (fun hm => by have := hoA f hm; omega) (fun hm => by have := hoA d hm; have := H.od; omega) news hsrc).mono ?_
  rintro e w' ⟨rfl, A', c', hD, hf', hsl', hc, hA'⟩
  exact ⟨rfl, H.refiled (H.likeP hb) f hl A A' _ c _ c' _ _ hfa hsmall (by omega) (fun u hu => by
    rcases List.mem_append.1 hu with h | h
    · exact H.bytes _ hl u h
    · exact hnews u h) hD hf' hsl' hc hA'⟩
theorem DiskIn.read_yes (H : DiskIn w d own b F fn fc RA rn rc SA sn sc C cn cc fs ps ss css chl nm dt su) (x : ByteArray) (v : Value) (hv : lookP ltS ps x = some v) :
    Calls Try.prog 22 #[.pointer (some ⟨d, 0, none⟩), .string x] w fun e w' => ∃ A' c', e = .returned (.tuple #[.slice A' (dt v).length c', .int .i64 0]) ∧ SLine 1 w' A' (dt v).length c' (dt v) ∧ (∀ k ∈ blk A', w.heap.size ≤ k) ∧ Below w.heap.size w w' := by
  have hl := H.look x _ hv
  obtain ⟨f, A, n, c, rfl, hf7, hfa, hsl, hoA, hn1, hsu⟩ := H.file _ hl
  obtain rfl : n = (dt (.pointer (some ⟨f, 0, none⟩))).length := by have := hsl.1; omega
  exact Go.Proofs.Ytnjnlcmpfnabiaa.read_yes H.nowAt x f _ hv A _ c _ _ hfa hsl (by omega) (fun u hu => by obtain ⟨z, _, _, ez⟩ := H.bytes _ hl u hu; rw [ez]; rfl)
theorem DiskIn.read_no (H : DiskIn w d own b F fn fc RA rn rc SA sn sc C cn cc fs ps ss css chl nm dt su) (x : ByteArray) (hno : hasP ltS ps x = false) :
    Calls Try.prog 22 #[.pointer (some ⟨d, 0, none⟩), .string x] w fun e w' => e = .returned (.tuple #[.slice none 0 0, .int .i64 3]) ∧ Below w.heap.size w w' := Go.Proofs.Ytnjnlcmpfnabiaa.read_no H.nowAt x hno
end
/-- A new disk. -/
def newB (q : Int) : DBox := ⟨.slice none 0 0, 0, .slice none 0 0, .slice none 0 0, .slice none 0 0, max q 0, false, -1, false, 0⟩
theorem DiskIn.new (q : Int) (hq : q ≤ 9223372036854775807) (w : World) (own : Nat → Nat) (nm su : Value → Nat) (dt : Value → List Value) : Calls Try.prog 9 #[.int .i64 q] w fun e w' =>
    e = .returned (.pointer (some ⟨w.heap.size, 0, none⟩)) ∧ ∃ own', (∀ i, i < w.heap.size → own' i = own i) ∧ DiskIn w' w.heap.size own' (newB q) none 0 0 none 0 0 none 0 0 none 0 0 [] [] [] [] [] nm dt su ∧ Below w.heap.size w w' := by
  refine (dnew_any q w).mono ?_
  rintro e w' ⟨rfl, hD, hB⟩
  refine ⟨rfl, fun i => if i < w.heap.size then own i else 1, fun i hi => if_pos hi, ?_, hB⟩
  have hn : ∀ k, k ∈ blk none → False := fun k hk => by obtain ⟨ad, ea, _⟩ := mem_blk.1 hk; cases ea
  exact {
    box := hD
    od := if_neg (Nat.lt_irrefl _)
    files := rfl
    line := SLine.nil 1 _
    oF := fun k hk => (hn k hk).elim
    now := rfl
    nrow := RowG.nil _
    oR := fun k hk => (hn k hk).elim
    sure := rfl
    srow := RowG.nil _
    oS := fun k hk => (hn k hk).elim
    changes := rfl
    cline := SLine.nil 1 _
    oC := fun k hk => (hn k hk).elim
    chs := ⟨rfl, fun i v c h => by simp at h⟩
    file := fun v hv => by cases hv
    num := fun v hv => by cases hv
    bytes := fun v hv => by cases hv
    rises := List.Pairwise.nil
    lay := rfl
    sin := fun p hp => by cases hp
    cin := fun c hc => by cases hc
    made := by show (0 : Int) ≤ 0 ∧ (0 : Int) ≤ 80000; omega
    quota := by show 0 ≤ max q 0 ∧ max q 0 ≤ 9223372036854775807; omega
    calls := by show (0 : Int) ≤ 0 ∧ (0 : Int) ≤ 80000; omega
    ahead := by show (-1 : Int) ≤ 9223372036854775807; omega
    lenF := by omega
    lenC := by omega }
end Go.Proofs.Ytnjnlcmpfnabiaa
