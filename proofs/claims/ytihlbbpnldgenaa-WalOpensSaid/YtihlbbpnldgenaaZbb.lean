/-
  The log of the laws: its Add and its Reset, with or without room.
  The log of the laws: Reset with other records; Sync behind it.
  Open of a file that has whole frames alone.
-/
import Derived.Test.YtihlbbpnldgenaaZay
import Derived.Test.YtihlbbpnldgenaaZaz
import Derived.Test.YtihlbbpnldgenaaZar
namespace Go.Proofs.Ytihlbbpnldgenaa
open Go.RowKit Go.Shelf
set_option linter.unusedVariables false
set_option maxRecDepth 100000

def LOG : ByteArray := ⟨#[108, 111, 103]⟩
def LOGT : ByteArray := LOG ++ spareB
theorem log_ok : nameOk LOG = true := by decide
theorem logt_ok : nameOk LOGT = true := by decide
theorem log_lt : ltS LOG LOGT = true := by decide +kernel
theorem log_both : logOk LOG = true := by decide
/-- The bytes of some frames. -/
def valsN (us : List (List Nat)) : List Value := cellsZ (asZ (allN us))
theorem valsN_length (us : List (List Nat)) : (valsN us).length = (allN us).length := by unfold valsN; rw [cellsZ_length, asZ_length]
theorem valsN_snoc (us : List (List Nat)) (z : List Nat) : valsN us ++ cellsZ (asZ (frameN z)) = valsN (us ++ [z]) := by unfold valsN; rw [allN_snoc, asZ_append, cellsZ_append]
section
variable {w W : World} {d l : Nat} {own own' : Nat → Nat} {us : List (List Nat)} {cnt siz : Int} {q : Int} {fl : Bool} {n : Nat}
theorem add_yes (h : LogAt w d own (logS LOG (valsN us) 0 q fl n) l LOG 0 cnt siz own' W) (hn : n ≤ 1000) (A : Option Addr) (k cap : Nat) (z : List Nat) (hR : RowN W A k z) (hk : k ≤ 300) (hs : (allN us).length ≤ 100000) (hc : 0 ≤ cnt ∧ cnt ≤ 1000000000) (hz : 0 ≤ siz ∧ siz ≤ 1000000000) (hfit : ((allN us).length : Int) + (k : Int) + 8 ≤ q) :
    Calls Try.prog 8 #[.pointer (some ⟨l, 0, none⟩), .slice A k cap] W fun e w' => e = .returned (.int .i64 0) ∧ ∃ own'', LogAt w d own (logS LOG (valsN (us ++ [z])) 0 q fl (n + 1)) l LOG 0 (cnt + 1) (siz + (k + 8)) own'' w' ∧ Kept l own' W own'' w' := by
  have hl := hR.length
  have hp := logAdd LOG (valsN us) (cellsZ (asZ (frameN z))) 0 n q fl log_ok (by rw [valsN_length, cellsZ_length, asZ_length, frameN_length]; omega) (by rw [valsN_length, cellsZ_length, asZ_length, frameN_length]; omega)
  rw [valsN_snoc] at hp
  have hh := ladd_any w W d l own own' _ _ LOG cnt siz h (by decide) (by rw [(logS_sees LOG (valsN us) 0 n q fl).2.2.2.2]; omega) A k cap z hR (by omega) hc hz 0 hp
  rw [if_pos (.inl rfl), if_pos rfl, if_pos rfl] at hh
  exact hh
theorem add_no (h : LogAt w d own (logS LOG (valsN us) 0 q fl n) l LOG 0 cnt siz own' W) (hn : n ≤ 1000) (A : Option Addr) (k cap : Nat) (z : List Nat) (hR : RowN W A k z) (hk : k ≤ 300) (hs : (allN us).length ≤ 100000) (hc : 0 ≤ cnt ∧ cnt ≤ 1000000000) (hz : 0 ≤ siz ∧ siz ≤ 1000000000) (hfit : ¬ ((allN us).length : Int) + (k : Int) + 8 ≤ q) :
    Calls Try.prog 8 #[.pointer (some ⟨l, 0, none⟩), .slice A k cap] W fun e w' => e = .returned (.int .i64 4) ∧ ∃ own'', LogAt w d own (logS LOG (valsN us) 0 q true (n + 1)) l LOG 0 cnt siz own'' w' ∧ Kept l own' W own'' w' := by
  have hl := hR.length
  have hp := logAddF LOG (valsN us) (cellsZ (asZ (frameN z))) 0 n q fl log_ok (by rw [valsN_length, cellsZ_length, asZ_length, frameN_length]; omega) (by rw [valsN_length, cellsZ_length, asZ_length, frameN_length]; omega)
  have hh := ladd_any w W d l own own' _ _ LOG cnt siz h (by decide) (by rw [(logS_sees LOG (valsN us) 0 n q fl).2.2.2.2]; omega) A k cap z hR (by omega) hc hz 4 hp
  rw [if_pos (.inr (.inr rfl)), if_neg (show ¬ (4 : Int) = 0 by decide), if_neg (show ¬ (4 : Int) = 0 by decide)] at hh
  exact hh
theorem reset_yes (h : LogAt w d own (logS LOG (valsN us) 0 q fl n) l LOG 0 cnt siz own' W) (hn : n ≤ 1000) (A : Option Addr) (k cap : Nat) (hR : Recs W A k us) (hs : SmallRs us) (hfit : 2 * ((allN us).length : Int) ≤ q) :
    Calls Try.prog 13 #[.pointer (some ⟨l, 0, none⟩), .slice A k cap] W fun e w' => e = .returned (.int .i64 0) ∧ ∃ own'', LogAt w d own (logE LOG (valsN us) 0 (valsN us) (valsN us).length q fl (n + us.length + 4)) l LOG 0 k ((allN us).length : Int) own'' w' ∧ Kept l own' W own'' w' := by
  have hk := hR.len
  have hb := hs.bytes
  have h30 := hs.1
  have hv := valsN_length us
  have hfv : flatV (us.map frameN) = valsN us := flatV_frames us
  have hw := logWrite LOG LOGT (valsN us) 0 n q fl logt_ok log_lt (us.map frameN) (by rw [hfv]; omega) (by rw [hfv]; omega)
  rw [hfv, List.length_map] at hw
  have hh := lreset_any w W d l own own' _ (logE LOG (valsN us) 0 (valsN us) (valsN us).length q fl (n + us.length + 4)) LOG cnt siz h A k cap us hR (by omega) hs.short (by omega) 0 0 (fun W' A' c' hL hF => anew_ok w W' d l own own' _ LOG cnt siz hL (by decide) A' k c' (us.map frameN) hF (by omega) (fun f hf => by
    obtain ⟨r, hr, rfl⟩ := List.mem_map.1 hf
    rw [frameN_length]; have := (hs.2 r hr).1; omega) (by rw [(logS_sees LOG (valsN us) 0 n q fl).2.2.2.2]; omega) _ _ _ 0 0 hw (by show n + us.length + 2 + 2 + 1 + 2 * 1 + 4 ≤ 80000; omega) (logName LOG LOGT (valsN us) (valsN us) 0 (valsN us).length (n + us.length + 2) q fl log_ok logt_ok log_lt) (by show n + us.length + 2 + 1 + 2 + 1 + 2 * 2 + 4 ≤ 80000; omega) (fun _ => logDir LOG LOGT (valsN us) (valsN us) 0 (valsN us).length (n + us.length + 2 + 1) q fl log_lt) (fun h0 => absurd rfl h0))
  rw [if_pos rfl, if_pos rfl] at hh
  exact hh
theorem reset_no (h : LogAt w d own (logS LOG (valsN us) 0 q fl n) l LOG 0 cnt siz own' W) (hn : n ≤ 1000) (A : Option Addr) (k cap : Nat) (hR : Recs W A k us) (hs : SmallRs us) (h0 : ((allN us).length : Int) ≤ q) (hfit : ¬ 2 * ((allN us).length : Int) ≤ q) :
    Calls Try.prog 13 #[.pointer (some ⟨l, 0, none⟩), .slice A k cap] W fun e w' => e = .returned (.int .i64 4) ∧ ∃ own'' zs m, LogAt w d own (logF LOG LOGT (valsN us) 0 zs 0 q true m) l LOG 0 cnt siz own'' w' ∧ Kept l own' W own'' w' ∧ m ≤ n + us.length + 2 := by
  have hk := hR.len
  have hb := hs.bytes
  have h30 := hs.1
  have hv := valsN_length us
  have hfv : flatV (us.map frameN) = valsN us := flatV_frames us
  obtain ⟨zs, m, hw, hm⟩ := logWriteF LOG LOGT (valsN us) 0 n q fl logt_ok log_lt (us.map frameN) (by rw [hfv]; omega) (by rw [hv]; exact h0) (by rw [hfv]; omega)
  rw [List.length_map] at hm
  have hh := lreset_any w W d l own own' _ (logF LOG LOGT (valsN us) 0 zs 0 q true (m + 1)) LOG cnt siz h A k cap us hR (by omega) hs.short (by omega) 4 0 (fun W' A' c' hL hF => anew_full w W' d l own own' _ LOG cnt siz hL (by decide) A' k c' (us.map frameN) hF (by omega) (fun f hf => by
    obtain ⟨r, hr, rfl⟩ := List.mem_map.1 hf
    rw [frameN_length]; have := (hs.2 r hr).1; omega) (by rw [(logS_sees LOG (valsN us) 0 n q fl).2.2.2.2]; omega) _ _ 0 hw (by show m + 2 + 1 + 2 * 1 + 4 ≤ 80000; omega) (logGone LOG LOGT (valsN us) zs 0 0 m q true logt_ok log_lt))
  rw [if_neg (show ¬ (4 : Int) = 0 by decide), if_neg (show ¬ (4 : Int) = 0 by decide)] at hh
  refine hh.mono fun e w' hq => ⟨hq.1, ?_⟩
  obtain ⟨own'', q1, q2⟩ := hq.2
  exact ⟨own'', zs, m + 1, q1, q2, by omega⟩
end
end Go.Proofs.Ytihlbbpnldgenaa
namespace Go.Proofs.Ytihlbbpnldgenaa
open Go.RowKit Go.Shelf Go.Maps
set_option linter.unusedVariables false
set_option linter.unusedSimpArgs false
set_option maxRecDepth 100000

theorem logESync (o : ByteArray) (xs ys : List Value) (s s2 n : Nat) (q : Int) (fl : Bool) (ho : nameOk o = true) : (logE o xs s ys s2 q fl n).sync o = (0, logE o xs s ys ys.length q fl (n + 1)) := by
  have i := orders_S.irr o
  simp [logE, RD.sync, RD.witE, RD.begE, RD.on, RD.powered, RD.now, RD.get, RD.file, RD.num, layAll, lookP, hasP, numV, numOf, ho, i]
section
variable {w W : World} {d l : Nat} {own own' : Nat → Nat} {us ps : List (List Nat)} {cnt siz : Int} {q : Int} {fl : Bool} {n : Nat}
theorem reset_to (h : LogAt w d own (logS LOG (valsN us) 0 q fl n) l LOG 0 cnt siz own' W) (hn : n ≤ 1000) (A : Option Addr) (k cap : Nat) (hR : Recs W A k ps) (hs : SmallRs ps) (hfit : ((allN us).length : Int) + ((allN ps).length : Int) ≤ q) :
    Calls Try.prog 13 #[.pointer (some ⟨l, 0, none⟩), .slice A k cap] W fun e w' => e = .returned (.int .i64 0) ∧ ∃ own'', LogAt w d own (logE LOG (valsN us) 0 (valsN ps) (valsN ps).length q fl (n + ps.length + 4)) l LOG 0 k ((allN ps).length : Int) own'' w' ∧ Kept l own' W own'' w' := by
  have hk := hR.len
  have hb := hs.bytes
  have h30 := hs.1
  have hv := valsN_length us
  have hw := valsN_length ps
  have hfv : flatV (ps.map frameN) = valsN ps := flatV_frames ps
  have hwr := logWrite LOG LOGT (valsN us) 0 n q fl logt_ok log_lt (ps.map frameN) (by rw [hfv]; omega) (by rw [hfv]; omega)
  rw [hfv, List.length_map] at hwr
  have hh := lreset_any w W d l own own' _ (logE LOG (valsN us) 0 (valsN ps) (valsN ps).length q fl (n + ps.length + 4)) LOG cnt siz h A k cap ps hR (by omega) hs.short (by omega) 0 0 (fun W' A' c' hL hF => anew_ok w W' d l own own' _ LOG cnt siz hL (by decide) A' k c' (ps.map frameN) hF (by omega) (fun f hf => by
    obtain ⟨r, hr, rfl⟩ := List.mem_map.1 hf
    rw [frameN_length]; have := (hs.2 r hr).1; omega) (by rw [(logS_sees LOG (valsN us) 0 n q fl).2.2.2.2]; omega) _ _ _ 0 0 hwr (by show n + ps.length + 2 + 2 + 1 + 2 * 1 + 4 ≤ 80000; omega) (logName LOG LOGT (valsN us) (valsN ps) 0 (valsN ps).length (n + ps.length + 2) q fl log_ok logt_ok log_lt) (by show n + ps.length + 2 + 1 + 2 + 1 + 2 * 2 + 4 ≤ 80000; omega) (fun _ => logDir LOG LOGT (valsN us) (valsN ps) 0 (valsN ps).length (n + ps.length + 2 + 1) q fl log_lt) (fun h0 => absurd rfl h0))
  rw [if_pos rfl, if_pos rfl] at hh
  exact hh
theorem sync_reset (h : LogAt w d own (logE LOG (valsN us) 0 (valsN ps) (valsN ps).length q fl n) l LOG 0 cnt siz own' W) (hn : n ≤ 2000) :
    Calls Try.prog 14 #[.pointer (some ⟨l, 0, none⟩)] W fun e w' => e = .returned (.int .i64 0) ∧ ∃ own'', LogAt w d own (logE LOG (valsN us) 0 (valsN ps) (valsN ps).length q fl (n + 1)) l LOG 0 cnt siz own'' w' ∧ Kept l own' W own'' w' :=
  lsync_any w W d l own own' _ _ LOG cnt siz h (by decide) (by rw [(logE_sees LOG (valsN us) (valsN ps) 0 (valsN ps).length n q fl).2.2.2.2]; omega) 0 (logESync LOG (valsN us) (valsN ps) 0 (valsN ps).length n q fl log_ok)
end
end Go.Proofs.Ytihlbbpnldgenaa
namespace Go.Proofs.Ytihlbbpnldgenaa
open Go.RowKit Go.Shelf
set_option linter.unusedVariables false
set_option maxRecDepth 100000

theorem parse_whole (rs : List (List Nat)) (h : shortN rs) : parseN (allN rs) = rs := by
  have e := parse_all rs h []
  rw [List.append_nil, parse_nil, List.append_nil] at e
  exact e
set_option maxHeartbeats 3200000 in
theorem open_there (w : World) (d : Nat) (own : Nat → Nat) (r : RD) (x : ByteArray) (H : IsD w d own r) (hx : x.size ≤ 900000) (hok : logOk x = true) (hon : r.off = false) (hin : hasP ltS r.now x = true)
    (rs : List (List Nat)) (hshort : shortN rs) (hbs : bytesN (allN rs)) (hlen : (allN rs).length ≤ 90000) (hdata : (r.get x).data = cellsZ (asZ (allN rs))) :
    Calls Try.prog 6 #[.pointer (some ⟨d, 0, none⟩), .string x] w fun e w' => ∃ l R c, e = .returned (.tuple #[.pointer (some ⟨l, 0, none⟩), .slice R rs.length c, .int .i64 0]) ∧ LogAt w d own r l x 0 rs.length (allN rs).length own w' ∧ Recs w' R rs.length rs ∧ Below w.heap.size w w' := by
  obtain ⟨W2, hW2, hB2, hs2, k0, k1⟩ := box2 w (.pointer (some ⟨d, 0, none⟩)) (.string x) 23 9
  obtain ⟨hh, hhe⟩ : ∃ hh, w.heap.size = hh := ⟨_, rfl⟩
  rw [hhe] at k0 k1 hs2
  have c0 := cell_of_one k0
  have c1 := cell_of_one k1
  unfold logOk at hok
  have h1 : nameOk x = true := (Bool.and_eq_true_iff.1 hok).1
  have h2 : nameOk (x ++ spareB) = true := (Bool.and_eq_true_iff.1 hok).2
  have HM := Lib.hid (mayName_any x (by omega))
  have HM2 := Lib.hid (mayName_any (x ++ spareB) (by rw [spare_size]; omega))
  rw [h1] at HM
  rw [h2] at HM2
  unfold spareB at HM2
  have H2 := H.below hB2
  have HO := Lib.hid H2.isOff
  rw [hon] at HO
  have HRD := Lib.hid (H2.read_yes x hin)
  rw [hdata, cellsZ_length, asZ_length] at HRD
  obtain ⟨G, hG⟩ : ∃ G, (allN rs).length = G := ⟨_, rfl⟩
  obtain ⟨P, hP⟩ : ∃ P, rs.length = P := ⟨_, rfl⟩
  have HPA := Lib.hid (fun (w3 : World) (A : Option Addr) (c : Nat) (hl : SLine 1 w3 A (allN rs).length c (cellsZ (asZ (allN rs)))) (hc : c ≤ maxLen) => parse_any w3 A (allN rs).length c (allN rs) (by omega) hl.2.1 (by unfold maxLen at hc; omega) (BLine.row ⟨hbs, hl⟩))
  rw [parse_whole rs hshort] at HPA
  rw [hG] at HRD HPA ⊢
  rw [hP] at HPA ⊢
  have HH := Lib.hid H
  have HB := Lib.hid hB2
  have HHE := Lib.hid hhe
  have HK0 := Lib.hid k0
  have HK1 := Lib.hid k1
  have HS2 := Lib.hid hs2
  have HGP := Lib.hid (And.intro hG hP)
  clear hB2 hs2 k0 k1 hok h1 h2 H2 H hon hin hshort hbs hdata hlen hG hP
  go_enter Try.func6, Try.ntmps6
  go_wp2_with (first
    | (go_at_call 22; first | (with_reducible refine (HM.out _).mono ?_; rintro e w1 ⟨rfl, rfl⟩) | (with_reducible refine (HM2.out _).mono ?_; rintro e w1 ⟨rfl, rfl⟩))
    | (go_at_call 23; refine HO.out.mono ?_; rintro e w1 ⟨rfl, rfl⟩)
    | (go_at_call 15; refine HRD.out.mono ?_; rintro e w3 ⟨⟨A3, c3, rfl, hl3, _⟩, hb3⟩; have HP := Lib.hid (HPA.out w3 A3 c3 hl3 hl3.2.2.1); have HB3 := Lib.hid hb3; clear hb3 c0 c1 hl3))
  refine HP.out.mono ?_
  rintro e w4 ⟨R, c4, vs, rfl, hl4, hr4, _, hb4⟩
  have hB24 : Below W2.heap.size W2 w4 := HB3.out.trans (hb4.mono HB3.out.size)
  have hrc : Recs w4 R P rs := recs_of hl4 hr4
  obtain ⟨W5, hW5⟩ : ∃ W5, w4.alloc (.cells #[.pointer (some ⟨d, 0, none⟩), .string x, .int .i64 0, .int .i64 (P : Int), .int .i64 (G : Int)] 65) = W5 := ⟨_, rfl⟩
  obtain ⟨l, hl⟩ : ∃ l, w4.heap.size = l := ⟨_, rfl⟩
  have hB45 : Below w4.heap.size w4 W5 := by rw [← hW5]; exact (Below.refl _ w4).alloc (Nat.le_refl _) _
  have hbx : LBox W5 l (.pointer (some ⟨d, 0, none⟩)) (.string x) 0 (.int .i64 (P : Int)) (.int .i64 (G : Int)) := by rw [← hW5, ← hl]; exact heap_alloc_new w4 _
  have hB25 : Below W2.heap.size W2 W5 := hB24.trans (hB45.mono hB24.size)
  have hlh : hh + 2 ≤ l := by have := hB24.size; have := HS2.out; omega
  have hB05 : Below w.heap.size w W5 := HB.out.trans (hB25.mono HB.out.size)
  have HX : Hid (LogAt w d own r l x 0 P G own W5 ∧ Recs W5 R P rs ∧ Below w.heap.size w W5) := Lib.hid ⟨⟨⟨hB05.mono (Nat.zero_le _), fun _ _ => rfl, fun i hi _ => hB05.block i hi⟩, HH.out.below hB05, hbx, HH.out.1 l (by have := HHE.out; omega), by have := HHE.out; omega⟩, hrc.below hB45, hB05⟩
  have c40 := cell_of_one ((hB24.block hh (by have := HS2.out; omega)).trans HK0.out)
  have c41 := cell_of_one ((hB24.block (hh + 1) (by have := HS2.out; omega)).trans HK1.out)
  clear hb4 hB24 hB45 hbx hB25 hlh hB05 hl4 hr4 hrc
  go_wp2
  go_ret3
  exact ⟨l, R, c4, rfl, HX.out⟩
end Go.Proofs.Ytihlbbpnldgenaa
