/-
  The law's sole.
  What DiskBeginnings and DiskClones need of the states: which names there are, which file a name has that was made once, a loss behind a loss; Clone, Same and Read told of the abstract disk.
-/
import Derived.Test.YtbjlikppboggmaaZbh
import Derived.Test.YtbjlikppboggmaaZbp
import Derived.Test.YtbjlikppboggmaaZbq
import Derived.Test.YtbjlikppboggmaaZbm
namespace Go.Proofs.Ytbjlikppboggmaa
open Go.RowKit Go.Maps
set_option linter.unusedVariables false
set_option maxRecDepth 100000

end Go.Proofs.Ytbjlikppboggmaa
namespace Go.Proofs.Ytbjlikppboggmaa
open Go.RowKit Go.Maps
set_option linter.unusedVariables false
set_option maxRecDepth 100000

section
variable {Q : ByteArray × Value → Prop}
variable {r : RD}
end
section
variable {r : RD}
end
section
variable {w W : World} {d e : Nat} {own own' : Nat → Nat} {r r' : RD}
theorem IsD.clone (h : IsD w d own r) : Calls Try.prog 21 #[.pointer (some ⟨d, 0, none⟩)] w fun e w' => ∃ c own2, e = .returned (.pointer (some ⟨c, 0, none⟩)) ∧ (∀ i, i < w.heap.size → own2 i = 0) ∧ IsD w' c own2 r ∧ Below w.heap.size w w' := by
  obtain ⟨hF, b, F, fn, fc, RA, rn, rc, SA, sn, sc, C, cn, cc, fs, ps, ss, css, chl, nm, dt, su, H, R⟩ := h
  obtain ⟨files, made, now, sure, changes, quota, full, ahead, off, calls⟩ := b
  have e1 := H.files
  have e2 := H.now
  have e3 := H.sure
  have e4 := H.changes
  dsimp only at e1 e2 e3 e4
  subst e1 e2 e3 e4
  exact H.clone R
/-- What a name shows, for a Read to come. -/
theorem IsD.readZ (h : IsD w d own r) (nm : ByteArray) (hh : hasP ltS r.now nm = true) : ∃ zs, (r.get nm).data = cellsZ zs ∧ zs.length ≤ 1048576 ∧ ∀ V, Below w.heap.size w V → Calls Try.prog 20 #[.pointer (some ⟨d, 0, none⟩), .string nm] V fun e w' => (∃ A' c', e = .returned (.tuple #[.slice A' zs.length c', .int .i64 0]) ∧ RowZ w' A' zs.length zs ∧ zs.length ≤ c') ∧ Below V.heap.size V w' := by
  obtain ⟨b1, b2, b3⟩ := h.bytes nm hh
  obtain ⟨zs, hzs, hz1⟩ := cellsZ_from _ b1
  have hm : (r.get nm).data.length = zs.length := by rw [hzs, cellsZ_length]
  refine ⟨zs, hzs, by omega, fun V hV => ?_⟩
  refine ((h.below hV).read_yes nm hh).mono ?_
  rintro e w' ⟨⟨A', c', rfl, hl', _⟩, hB⟩
  rw [hm, hzs] at hl'
  rw [hm]
  exact ⟨⟨A', c', rfl, hl'.toRowZ hz1, hl'.2.1⟩, hB⟩
/-- Both show the same. -/
theorem IsD.same (h : IsD w d own r) (h' : IsD w e own' r') (hn : r.now.map (·.1) = r'.now.map (·.1)) (hd : ∀ x, hasP ltS r.now x = true → (r.get x).data = (r'.get x).data) :
    Calls Try.prog 27 #[.pointer (some ⟨d, 0, none⟩), .pointer (some ⟨e, 0, none⟩)] w fun ed w' => ed = .returned (.bool true) ∧ Below w.heap.size w w' := by
  have hF := h.fct.1
  have hF' := h'.fct.1
  have hb := h.bytes
  obtain ⟨_, b, F, fn, fc, RA, rn, rc, SA, sn, sc, C, cn, cc, fs, ps, ss, css, chl, nm, dt, su, H, R⟩ := h
  obtain ⟨_, b', F', fn', fc', RA', rn', rc', SA', sn', sc', C', cn', cc', fs', ps', ss', css', chl', nm', dt', su', H', R'⟩ := h'
  have hk : ps.map (·.1) = ps'.map (·.1) := by
    rw [H.rnow R, H'.rnow R'] at hn
    unfold mapT at hn
    rw [List.map_map, List.map_map] at hn
    exact hn
  have hlen : rn = rn' := by
    have h1 := H.nrow.len
    have h2 := H'.nrow.len
    have h3 := congrArg List.length hk
    rw [List.length_map, List.length_map] at h3
    omega
  subst hlen
  refine same_any w d e RA RA' rn rc rc' ps ps' H.nowAt.rowAt H'.nowAt.rowAt H.nowAt.len fun p hp => ?_
  obtain ⟨x, v⟩ := p
  have hlk : lookP ltS ps x = some v := (look_some orders_S H.nrow.rises).2 hp
  have hx : x ∈ ps'.map (·.1) := by rw [← hk]; exact List.mem_map.2 ⟨_, hp, rfl⟩
  obtain ⟨⟨x2, v'⟩, hp', ex⟩ := List.mem_map.1 hx
  dsimp only at ex
  subst ex
  have hlk' : lookP ltS ps' x2 = some v' := (look_some orders_S H'.nrow.rises).2 hp'
  have hm := H.nin _ hp
  have hm' := H'.nin _ hp'
  obtain ⟨f, A, n, c, ef, _, hfa, hsl, _, _, _⟩ := H.file v hm
  obtain ⟨g, A', n', c', eg, _, hfa', hsl', _, _, _⟩ := H'.file v' hm'
  have hhas : hasP ltS r.now x2 = true := by rw [H.rnow R, has_tag]; unfold hasP; rw [hlk]; rfl
  have hdat := hd x2 hhas
  rw [(H.rnum R x2 v hlk).2, (H'.rnum R' x2 v' hlk').2] at hdat
  dsimp only at hdat
  have hby := H.bytes v hm
  obtain ⟨zs, hzs, hz1⟩ := cellsZ_from _ hby
  have hnn : n = zs.length := by have h1 := hsl.1; rw [hzs, cellsZ_length] at h1; omega
  have hnn' : n' = zs.length := by have h1 := hsl'.1; rw [← hdat, hzs, cellsZ_length] at h1; omega
  subst hnn hnn'
  rw [hzs] at hsl
  rw [← hdat, hzs] at hsl'
  exact ⟨f, g, _, _, A, A', _, c, c', _, _, zs, ef, by rw [hlk', eg], hfa, hfa', hsl.toRowZ hz1, hsl'.toRowZ hz1⟩
end
end Go.Proofs.Ytbjlikppboggmaa
