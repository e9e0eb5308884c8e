/-
  'append(s, make([]uint64, m)...)' onto words of the call's own.
-/
import Derived.Test.YthijggnpkomdcaaWd
import Derived.Lib.AppendZerosOnto
namespace Go.Proofs.Ythijggnpkomdcaa
open Go.RowKit
set_option linter.unusedVariables false
set_option maxRecDepth 100000

theorem zeros_one (x : Value) (m : Nat) : (Builtin.zeroCells #[x] m).toList = List.replicate m x := by
  apply List.ext_getElem?
  intro j
  unfold Builtin.zeroCells
  rcases Nat.lt_or_ge j m with h | h
  · simp [h, Nat.mod_one]
  · rw [List.getElem?_eq_none (by simpa using h), List.getElem?_eq_none (by simpa using h)]
theorem run_append_zeros_room {P : Program} (w : World) (t tn ty e : TypeId) (i : TypeInfo) (z : Value) (kq kn : IntKind) (ht : P.underlying t = some (.slice e)) (htn : P.underlying tn = some (.int kn)) (hi : P.info? e = some i) (hz : i.zero = some z) (hs1 : i.size = 1) (hzs : z.cells = #[z])
    (g n cap m : Nat) (cur : Array Value) (hg : w.heap[g]? = some (.cells cur e (0, 0))) (h0 : 0 < m) (h63 : (m : Int) ≤ 9223372036854775807) (h48 : m * i.bytes ≤ 281474976710656) (hroom : n + m ≤ cap) (hcs : cur.size = cap) (h1 : z.oneCell' = true) :
    (Builtin.append_ #[t, tn] ty #[.slice (some ⟨g, 0, none⟩) n cap, .int kq m]).run P w = .ok (.slice (some ⟨g, 0, none⟩) (n + m) cap) (w.setRow g (cur.toList.take n ++ List.replicate m z ++ cur.toList.drop (n + m)).toArray) := by
  have hk : m ≠ 0 := by omega
  have hw : IntKind.i64.wrap (m : Int) = m := by rw [IntKind.wrap_i64]; omega
  have h48i : ¬ (281474976710656 < (m : Int) * (i.bytes : Int)) := by
    rw [← Int.natCast_mul]
    omega
  have hneg : ¬ ((m : Int) < 0) := by omega
  have hst := run_storeCells_at P g n e (List.replicate m z) 0 cur w hg (by simp; omega) (fun v hv => by rw [List.eq_of_mem_replicate hv]; exact h1)
  simp only [Nat.add_zero, List.length_replicate] at hst
  have hzl := zeros_one z m
  simp [Builtin.append_, run_underlying ht, run_underlying htn, sizeOf, typeInfo, zeroValue, hi, hz, hs1, hzs, asInt, asIntOf, hw, hk, hneg, h48i, hroom, Addr.add_lit, hzl, hst]

/-- m words more, all 0. -/
theorem grow_run (w : World) (v : Value) (ws : List Nat) (hown : w.ownsRow 0 161 1 v ws.length (cellsW ws)) (m : Nat) (h0 : 0 < m) (hb : ws.length + m ≤ 4096) (ty : TypeId) :
    ∃ v' w', (Builtin.append_ #[154, 3] ty #[v, .int .i64 (m : Int)]).run Try.prog w = .ok v' w' ∧ w'.ownsRow 0 161 1 v' (ws.length + m) (cellsW (ws ++ List.replicate m 0)) ∧ w.grownBy w' v.ownBlock ∧
      (∀ k, v'.ownBlock = some k → v.ownBlock = some k ∨ w.heap.size ≤ k) := by
  obtain ⟨i0, hi, hz0, hz1, hz2⟩ := info_parts info_u64
  have hlen : (cellsW (ws ++ List.replicate m 0)).length = (ws.length + m) * 1 := by rw [cellsW_length, List.length_append, List.length_replicate]; omega
  have hrep : cellsW (List.replicate m 0) = List.replicate m (.int .u64 0) := by simp [cellsW]
  have grown : ∀ (A : Option Addr) (c : Nat), (Builtin.firstCells i0.size ws.length (.slice A ws.length c)).run Try.prog w.drew = .ok (cellsW ws).toArray w.drew → c < ws.length + m →
      ∃ v' w', (Builtin.append_ #[154, 3] ty #[.slice A ws.length c, .int .i64 (m : Int)]).run Try.prog w = .ok v' w' ∧ w'.ownsRow 0 161 1 v' (ws.length + m) (cellsW (ws ++ List.replicate m 0)) ∧ w.grownBy w' none ∧
        (∀ k, v'.ownBlock = some k → w.heap.size ≤ k) := by
    intro A c hold hc
    have hr := Lib.run_append_grow_zeros (P := Try.prog) w 154 3 ty 161 i0 (.int .u64 0) .i64 .i64 Try.underlying154 Try.underlying3 hi hz0 A ws.length c (cellsW ws) hold m h0 (by rw [hz1]; decide) hc (by omega) (by rw [hz2]; omega) (growslice_fits hc (by rw [hz2]; omega))
    refine ⟨_, _, hr, ⟨hlen, .inr ⟨w.heap.size, _, _, rfl, Nat.zero_le _, heap_alloc_new w.drew _, grownCap_ge _ _ _ _, grownCap_le_maxLen _ _ _ _ (by unfold maxLen; omega), ?_, ?_⟩⟩, ⟨rfl, rfl, rfl, by simp, fun k hk _ => Below.heap_alloc w.drew _ k hk⟩, ?_⟩
    · have := grownCap_ge w (ws.length + m) c 161
      simp only [Array.size_append, List.size_toArray, size_zeroCells, cellsW_length]
      show ws.length + m * 1 + (_ - _) * 1 = _
      omega
    · simp only [Array.toList_append, List.append_assoc]
      rw [← List.append_assoc, show (Value.int IntKind.u64 0).cells = #[Value.int IntKind.u64 0] from rfl, zeros_one, zeros_one, ← hrep, ← cellsW_append, ← hlen]
      exact List.take_left
    · intro k hk
      simp only [Value.ownBlock, Option.some.injEq] at hk
      omega
  rcases hown.2 with ⟨rfl, hn⟩ | ⟨g, cap, cur, rfl, hbg, hg, hnc, hcm, hcs, htake⟩
  · have hws : ws = [] := List.eq_nil_of_length_eq_zero hn
    subst hws
    obtain ⟨v', w', h1, h2, h3, h4⟩ := grown none 0 (run_firstCells_none _ _ _ _ _) (by simpa using h0)
    exact ⟨v', w', h1, h2, ⟨h3.os, h3.tape, h3.output, h3.size, fun k hk _ => h3.block k hk (by simp)⟩, fun k hk => .inr (h4 k hk)⟩
  · by_cases hroom : ws.length + m ≤ cap
    · have hr := run_append_zeros_room (P := Try.prog) w 154 3 ty 161 i0 (.int .u64 0) .i64 .i64 Try.underlying154 Try.underlying3 hi hz0 hz1 rfl g ws.length cap m cur hg h0 (by omega) (by rw [hz2]; omega) hroom (by omega) rfl
      refine ⟨_, _, hr, ⟨hlen, .inr ⟨g, cap, _, rfl, hbg, setRow_heap w g cur _ _ _ hg, hroom, hcm, ?_, ?_⟩⟩, ⟨rfl, rfl, rfl, by simp, fun k _ hk => setRow_other w g k _ (fun e => hk (by simp [Value.ownBlock, e]))⟩, fun k hk => .inl hk⟩
      · simp only [List.size_toArray, List.length_append, List.length_take, List.length_drop, Array.length_toList, List.length_replicate]
        omega
      · rw [Nat.mul_one] at htake
        show List.take ((ws.length + m) * 1) (_ ++ _ ++ _) = _
        rw [htake, ← hrep, ← cellsW_append, ← hlen]
        exact List.take_left
    · have holds : ∀ j u, (cellsW ws)[j]? = some u → w.cell? ((⟨g, 0, none⟩ : Addr).add j) = some u := hown.cells (g := g) rfl
      have hfo := run_firstCells_some (P := Try.prog) w.drew i0.size ws.length ⟨g, 0, none⟩ ws.length cap (cellsW ws) (by rw [hz1, cellsW_length]; omega) (by simpa using holds)
      obtain ⟨v', w', h1, h2, h3, h4⟩ := grown (some ⟨g, 0, none⟩) cap hfo (by omega)
      exact ⟨v', w', h1, h2, ⟨h3.os, h3.tape, h3.output, h3.size, fun k hk _ => h3.block k hk (by simp)⟩, fun k hk => .inr (h4 k hk)⟩
end Go.Proofs.Ythijggnpkomdcaa
