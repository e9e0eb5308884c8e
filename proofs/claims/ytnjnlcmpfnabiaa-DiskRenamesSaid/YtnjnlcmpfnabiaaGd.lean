/-
  A disk with one file: what the calls of the document's example answer there.
-/
import Derived.Test.YtnjnlcmpfnabiaaGc
import Derived.Test.YtnjnlcmpfnabiaaDz
namespace Go.Proofs.Ytnjnlcmpfnabiaa
open Go.RowKit Go.Maps
set_option linter.unusedVariables false
set_option maxRecDepth 100000

theorem look_one (x : ByteArray) (v : Value) : lookP ltS [(x, v)] x = some v := by
  unfold lookP
  rw [List.find?_cons_of_pos (by simp [orders_S.irr])]
  rfl
theorem put_nil (x : ByteArray) (v : Value) : putP ltS [] x v = [(x, v)] := rfl
/-- A disk with one file, x, of n bytes, s of them sure; its power on. -/
def One (x : ByteArray) (q : Int) (w : World) (d : Nat) (own : Nat → Nat) (k n s : Nat) (st : Bool) : Prop :=
  ∃ b F fc RA rc SA sn sc C cn cc f ss css chl nm dt su, DiskIn w d own b F 1 fc RA 1 rc SA sn sc C cn cc [.pointer (some ⟨f, 0, none⟩)] [(x, .pointer (some ⟨f, 0, none⟩))] ss css chl nm dt su ∧
    b.calls = (k : Int) ∧ b.ahead = -1 ∧ b.off = false ∧ b.quota = q ∧ (dt (.pointer (some ⟨f, 0, none⟩))).length = n ∧ su (.pointer (some ⟨f, 0, none⟩)) = s ∧ nm (.pointer (some ⟨f, 0, none⟩)) = 0 ∧ (st = true → ss = [(x, .pointer (some ⟨f, 0, none⟩))] ∧ cn = 0)
theorem One.below {x : ByteArray} {q : Int} {w w' : World} {d k n s : Nat} {own : Nat → Nat} {st : Bool} (h : One x q w d own k n s st) (hB : Below w.heap.size w w') (own' : Nat → Nat) (ho : ∀ i, i < w.heap.size → own' i = own i) : One x q w' d own' k n s st := by
  obtain ⟨b, F, fc, RA, rc, SA, sn, sc, C, cn, cc, f, ss, css, chl, nm, dt, su, H, h⟩ := h
  exact ⟨b, F, fc, RA, rc, SA, sn, sc, C, cn, cc, f, ss, css, chl, nm, dt, su, H.carry hB.size ho (fun i hi _ => hB.block i hi), h⟩
theorem begin_one (b : DBox) (x : ByteArray) (hx : nameOk x = true) (ha : b.ahead = -1) (ho : b.off = false) : beginE b [x] = 0 := by unfold beginE powerB; rw [ha, ho]; simp [hx]
theorem with_one (b : DBox) (x : ByteArray) (v : Value) (hx : nameOk x = true) (ha : b.ahead = -1) (ho : b.off = false) : withE b [x] [(x, v)] x = 0 ∧ withF b [x] [(x, v)] x = v := by
  have h : withE b [x] [(x, v)] x = 0 := by unfold withE hasP; rw [begin_one b x hx ha ho, look_one]; rfl
  refine ⟨h, ?_⟩
  have := withF_look b [x] [(x, v)] x h
  rw [look_one] at this
  exact (Option.some.inj this).symm
theorem powered_on (b : DBox) (ha : b.ahead = -1) (ho : b.off = false) : poweredB b = { b with calls := b.calls + 1 } := by unfold poweredB; rw [ha, ho]; rfl
section
variable {x : ByteArray} {q : Int} {w w' : World} {d k n s : Nat} {own : Nat → Nat} {st : Bool}
theorem One.full (h : One x q w d own k n s st) (hx : nameOk x = true) (hsz : x.size ≤ 1000000) (hk : k < 80000) (BA : Option Addr) (bn bc : Nat) (h1 : n + bn ≤ 1048576) (h2 : q < ((n + bn : Nat) : Int)) :
    Calls Try.prog 19 #[.pointer (some ⟨d, 0, none⟩), .string x, .slice BA bn bc] w fun e w' => e = .returned (.int .i64 4) ∧ ∃ own', Only own w own' w' ∧ One x q w' d own' (k + 1) n s st := by
  obtain ⟨b, F, fc, RA, rc, SA, sn, sc, C, cn, cc, f, ss, css, chl, nm, dt, su, H, e1, e2, e3, e4, e5, e6, e7, e8⟩ := h
  obtain ⟨hE, hF⟩ := with_one b x (.pointer (some ⟨f, 0, none⟩)) hx e2 e3
  have hu : usedO dt [(x, Value.pointer (some ⟨f, 0, none⟩))] = n := by unfold usedO sumLen; simp [e5]
  refine (H.append_full (by omega) x hsz hE f hF BA bn bc (by omega) (by rw [hu, e4]; omega)).mono ?_
  rintro e w' ⟨rfl, O, H'⟩
  rw [powered_on b e2 e3] at H'
  exact ⟨rfl, own, O, _, F, fc, RA, rc, SA, sn, sc, C, cn, cc, f, ss, css, chl, nm, dt, su, H', by show b.calls + 1 = _; omega, e2, e3, e4, e5, e6, e7, e8⟩
theorem One.append (h : One x q w d own k n s st) (hx : nameOk x = true) (hsz : x.size ≤ 1000000) (hk : k < 80000) (BA : Option Addr) (bn bc : Nat) (h1 : n + bn ≤ 1048576) (h2 : ((n + bn : Nat) : Int) ≤ q)
    (news : List Value) (hnl : news.length = bn) (hnews : ∀ u ∈ news, ∃ z : Int, 0 ≤ z ∧ z < 256 ∧ u = .int .u8 z) (hsrc : ∀ W, Chg [d] w W → Src Try.prog 1 29 (.slice BA bn bc) bn news W) :
    Calls Try.prog 19 #[.pointer (some ⟨d, 0, none⟩), .string x, .slice BA bn bc] w fun e w' => e = .returned (.int .i64 0) ∧ ∃ own', Only own w own' w' ∧ One x q w' d own' (k + 1) (n + bn) s st := by
  obtain ⟨b, F, fc, RA, rc, SA, sn, sc, C, cn, cc, f, ss, css, chl, nm, dt, su, H, e1, e2, e3, e4, e5, e6, e7, e8⟩ := h
  obtain ⟨hE, hF⟩ := with_one b x (.pointer (some ⟨f, 0, none⟩)) hx e2 e3
  have hu : usedO dt [(x, Value.pointer (some ⟨f, 0, none⟩))] = n := by unfold usedO sumLen; simp [e5]
  refine (H.append_yes (by omega) x hsz hE f hF BA bn bc (by omega) (by rw [hu, e4]; omega) news hnews hsrc).mono ?_
  rintro e w' ⟨rfl, own', O, H'⟩
  rw [powered_on b e2 e3] at H'
  exact ⟨rfl, own', O, _, F, fc, RA, rc, SA, sn, sc, C, cn, cc, f, ss, css, chl, nm, _, _, H', by show b.calls + 1 = _; omega, e2, e3, e4, by rw [updP_same, List.length_append]; omega, by rw [updP_same]; exact e6, e7, e8⟩
theorem One.sync (h : One x q w d own k n s st) (hx : nameOk x = true) (hsz : x.size ≤ 1000000) (hk : k < 80000) :
    Calls Try.prog 20 #[.pointer (some ⟨d, 0, none⟩), .string x] w fun e w' => e = .returned (.int .i64 0) ∧ ∃ own', Only own w own' w' ∧ One x q w' d own' (k + 1) n n st := by
  obtain ⟨b, F, fc, RA, rc, SA, sn, sc, C, cn, cc, f, ss, css, chl, nm, dt, su, H, e1, e2, e3, e4, e5, e6, e7, e8⟩ := h
  obtain ⟨hE, hF⟩ := with_one b x (.pointer (some ⟨f, 0, none⟩)) hx e2 e3
  refine (H.sync_yes (by omega) x hsz hE f hF).mono ?_
  rintro e w' ⟨rfl, own', O, H'⟩
  rw [powered_on b e2 e3] at H'
  exact ⟨rfl, own', O, _, F, fc, RA, rc, SA, sn, sc, C, cn, cc, f, ss, css, chl, nm, _, _, H', by show b.calls + 1 = _; omega, e2, e3, e4, by rw [updP_same]; exact e5, by rw [updP_same]; exact e5, e7, e8⟩
theorem One.syncDir (h : One x q w d own k n s st) (hk : k < 80000) :
    Calls Try.prog 21 #[.pointer (some ⟨d, 0, none⟩)] w fun e w' => e = .returned (.int .i64 0) ∧ ∃ own', Only own w own' w' ∧ One x q w' d own' (k + 1) n s true := by
  obtain ⟨b, F, fc, RA, rc, SA, sn, sc, C, cn, cc, f, ss, css, chl, nm, dt, su, H, e1, e2, e3, e4, e5, e6, e7, e8⟩ := h
  refine (H.syncDir_on (by omega) (by unfold powerB; rw [e2, e3]; rfl)).mono ?_
  rintro e w' ⟨rfl, own', A2, n2, c2, A3, n3, c3, kf, O, H'⟩
  rw [powered_on b e2 e3] at H'
  have hfl : [Value.pointer (some ⟨f, 0, none⟩)].filter (keepV nm ([(x, Value.pointer (some ⟨f, 0, none⟩))].map fun p => nm p.2)) = [Value.pointer (some ⟨f, 0, none⟩)] := by simp [keepV]
  rw [hfl] at H'
  obtain rfl : kf = 1 := by have := H'.line.1; simp at this; omega
  obtain rfl : n3 = 1 := by have := H'.nrow.len; simp at this; omega
  exact ⟨rfl, own', O, _, F, fc, A3, c3, A2, n2, c2, none, 0, 0, f, _, [], [], nm, dt, su, H', by show b.calls + 1 = _; omega, e2, e3, e4, e5, e6, e7, fun _ => ⟨rfl, rfl⟩⟩
theorem One.crash (h : One x q w d own k n s true) (dir : Int) (hdir : -9223372036854775808 ≤ dir ∧ dir ≤ 9223372036854775807) (KA : Option Addr) (kn kc : Nat) (zs : List Int) (hK : ZsAt w KA kn zs) (hkn : kn ≤ 1000000) (hKo : ∀ k ∈ blk KA, own k = 0) (hzs : ∀ z ∈ zs, z ≤ 9223372036854775807) :
    Calls Try.prog 16 #[.pointer (some ⟨d, 0, none⟩), .agg #[.int .i64 dir, .slice KA kn kc]] w fun e w' => (∃ v, e = .returned v) ∧ ∃ own', Only own w own' w' ∧ One x q w' d own' k (leftN n s (keptZ zs 0)) (leftN n s (keptZ zs 0)) true := by
  obtain ⟨b, F, fc, RA, rc, SA, sn, sc, C, cn, cc, f, ss, css, chl, nm, dt, su, H, e1, e2, e3, e4, e5, e6, e7, e8⟩ := h
  obtain ⟨rfl, rfl⟩ := e8 rfl
  have hchl : chl = [] := by have := H.chs.1; have := H.cline.1; exact List.eq_nil_of_length_eq_zero (by omega)
  subst hchl
  have hfl : [Value.pointer (some ⟨f, 0, none⟩)].filter (keepV nm ([(x, Value.pointer (some ⟨f, 0, none⟩))].map fun p => nm p.2)) = [Value.pointer (some ⟨f, 0, none⟩)] := by simp [keepV]
  have hsu : s ≤ n := by
    obtain ⟨_, _, m, _, _, _, _, h4, _, _, h7⟩ := H.file _ (List.mem_singleton.2 rfl)
    have := h4.1
    omega
  refine (H.crash dir hdir KA kn kc zs hK hkn (fun _ => hKo) hzs [(x, .pointer (some ⟨f, 0, none⟩))] (by rw [List.take_nil]; rfl) _ hfl).mono ?_
  rintro e w' ⟨h0, own', A2, n2, c2, A3, n3, c3, kf, O, H'⟩
  obtain rfl : kf = 1 := by have := H'.line.1; simp at this; omega
  obtain rfl : n3 = 1 := by have := H'.nrow.len; simp at this; omega
  have hlv : leftV zs nm dt su (.pointer (some ⟨f, 0, none⟩)) = leftN n s (keptZ zs 0) := by unfold leftV; rw [e5, e6, e7]
  refine ⟨h0, own', O, _, F, fc, A3, c3, A2, n2, c2, none, 0, 0, f, _, [], [], _, _, _, H', e1, rfl, rfl, e4, ?_, hlv, ?_, fun _ => ⟨rfl, rfl⟩⟩
  · have := leftN_le n s (keptZ zs 0) hsu
    rw [List.length_take, hlv, e5]
    omega
  · exact standN_eq nm _ _ H.rises 0 rfl
theorem One.read (h : One x q w d own k n s st) :
    Calls Try.prog 22 #[.pointer (some ⟨d, 0, none⟩), .string x] w fun e w' => (∃ A' c', e = .returned (.tuple #[.slice A' n c', .int .i64 0])) ∧ Below w.heap.size w w' := by
  obtain ⟨b, F, fc, RA, rc, SA, sn, sc, C, cn, cc, f, ss, css, chl, nm, dt, su, H, e1, e2, e3, e4, e5, e6, e7, e8⟩ := h
  refine (H.read_yes x _ (look_one x _)).mono ?_
  rintro e w' ⟨A', c', h1, _, _, hB⟩
  rw [e5] at h1
  exact ⟨⟨A', c', h1⟩, hB⟩
end
theorem One.create (x : ByteArray) (q : Int) (hq : 0 ≤ q) (w : World) (d : Nat) (own : Nat → Nat) (nm su : Value → Nat) (dt : Value → List Value) (H : DiskIn w d own (newB q) none 0 0 none 0 0 none 0 0 none 0 0 [] [] [] [] [] nm dt su) (hx : nameOk x = true) (hsz : x.size ≤ 1000000) :
    Calls Try.prog 18 #[.pointer (some ⟨d, 0, none⟩), .string x] w fun e w' => e = .returned (.int .i64 0) ∧ ∃ own', Only own w own' w' ∧ One x q w' d own' 1 0 0 false := by
  refine (H.create_yes (by show (0 : Int) < 80000; omega) 0 rfl (by omega) (by omega) (by omega) x hsz (begin_one _ x hx rfl rfl) (.inr (by omega))).mono ?_
  rintro e w' ⟨rfl, own', F', fc', fb, A', n', c', C', cc', pb, O, H'⟩
  have hlp : layP [] [(x, Value.pointer (some ⟨fb, 0, none⟩))] = [(x, Value.pointer (some ⟨fb, 0, none⟩))] := rfl
  rw [hlp] at H'
  obtain rfl : n' = 1 := by have := H'.nrow.len; simp at this; omega
  refine ⟨rfl, own', O, _, F', fc', A', c', none, 0, 0, C', 1, cc', fb, _, _, _, _, _, _, H', rfl, rfl, rfl, ?_, by rw [updP_same]; rfl, by rw [updP_same], by rw [updP_same], fun h => by cases h⟩
  show max q 0 = q
  omega
end Go.Proofs.Ytnjnlcmpfnabiaa
