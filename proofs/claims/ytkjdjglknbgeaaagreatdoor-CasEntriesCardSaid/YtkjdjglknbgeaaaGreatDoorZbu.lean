/-
  SHA-256 of the whole message, laid out at once, is that of its blocks and what is left. No call in sight.
-/
import Derived.Test.YtkjdjglknbgeaaaGreatDoorZao
namespace Go.Proofs.YtkjdjglknbgeaaaGreatDoor
open Go.RowKit
set_option linter.unusedVariables false

/-- The message with all that is laid behind it. -/
def padN (l : List Nat) : List Nat := l ++ ([128] ++ (List.replicate (zc (l.length % 64)) 0 ++ lenBytes l.length))
theorem blocksN_take (ks : List Nat) (s : St) (l m : List Nat) : ∀ k, l.take (64 * k) = m.take (64 * k) → blocksN ks s l k = blocksN ks s m k
  | 0, _ => rfl
  | k + 1, h => by
    have h1 : l.take (64 * k) = m.take (64 * k) := by
      have := congrArg (List.take (64 * k)) h
      rwa [List.take_take, List.take_take, Nat.min_eq_left (by omega)] at this
    have h2 : (l.drop (64 * k)).take 64 = (m.drop (64 * k)).take 64 := by
      have := congrArg (List.drop (64 * k)) h
      rw [List.drop_take, List.drop_take] at this
      rwa [show 64 * (k + 1) - 64 * k = 64 from by omega] at this
    rw [blocksN, blocksN, blocksN_take ks s l m k h1, h2]
theorem blocksN_add (ks : List Nat) (s : St) (l : List Nat) (k : Nat) : ∀ j, blocksN ks s l (k + j) = blocksN ks (blocksN ks s l k) (l.drop (64 * k)) j
  | 0 => rfl
  | j + 1 => by
    rw [← Nat.add_assoc, blocksN, blocksN_add ks s l k j, blocksN, List.drop_drop, show 64 * k + 64 * j = 64 * (k + j) from by omega]
theorem padN_is (l : List Nat) : padN l = l.take (64 * (l.length / 64)) ++ tailN (l.drop (64 * (l.length / 64))) l.length := by
  have e : (l.drop (64 * (l.length / 64))).length = l.length % 64 := by rw [List.length_drop]; omega
  unfold padN tailN
  rw [e, ← List.append_assoc (l.take _), List.take_append_drop]
theorem padN_length (l : List Nat) : (padN l).length = 64 * (l.length / 64) + (tailN (l.drop (64 * (l.length / 64))) l.length).length := by
  rw [padN_is, List.length_append, List.length_take]
  omega
theorem padN_64 (l : List Nat) : (padN l).length % 64 = 0 := by
  have h := zc_yes (l.length % 64) (Nat.mod_lt _ (by decide))
  unfold padN
  rw [List.length_append, List.length_append, List.length_append, List.length_replicate, lenBytes_length, List.length_singleton]
  omega
theorem padN_lt (l : List Nat) (h : ∀ x ∈ l, x < 256) : ∀ x ∈ padN l, x < 256 := by
  intro x hx
  rw [padN_is] at hx
  rcases List.mem_append.1 hx with hx | hx
  · exact h x (List.mem_of_mem_take hx)
  · exact tailN_lt _ _ (fun y hy => h y (List.mem_of_mem_drop hy)) x hx
/-- The sum's words of a message. -/
def shaS (l : List Nat) : St := endS (blocksN rootsN startN l (l.length / 64)) (l.drop (64 * (l.length / 64))) l.length
theorem shaN_is (l : List Nat) : shaN l = outN (shaS l) := rfl
theorem shaS_pad (l : List Nat) : shaS l = blocksN rootsN startN (padN l) ((padN l).length / 64) := by
  have hl : (l.take (64 * (l.length / 64))).length = 64 * (l.length / 64) := by rw [List.length_take]; omega
  unfold shaS endS
  rw [padN_length, show (64 * (l.length / 64) + (tailN (l.drop (64 * (l.length / 64))) l.length).length) / 64 = l.length / 64 + (tailN (l.drop (64 * (l.length / 64))) l.length).length / 64 from by omega, blocksN_add]
  have hd : (padN l).drop (64 * (l.length / 64)) = tailN (l.drop (64 * (l.length / 64))) l.length := by
    rw [padN_is, List.drop_append_of_le_length (by omega), List.drop_eq_nil_of_le (by omega), List.nil_append]
  have ht : blocksN rootsN startN (padN l) (l.length / 64) = blocksN rootsN startN l (l.length / 64) := by
    refine blocksN_take _ _ _ _ _ ?_
    rw [padN_is, List.take_append_of_le_length (by omega), List.take_take, Nat.min_self]
  rw [hd, ht]
/-- A word of the schedule behind the sixteenth. -/
theorem sched_getD (ws : List Nat) (h : ws.length = 16) : ∀ m t, t < 16 + m → (sched ws m).getD t 0 = (sched ws (t + 1 - 16)).getD t 0
  | 0, t, ht => by rw [show t + 1 - 16 = 0 from by omega]
  | m + 1, t, ht => by
    rcases Nat.lt_or_ge t (16 + m) with h1 | h1
    · rw [← sched_getD ws h m t h1, sched, List.getD_eq_getElem?_getD, List.getD_eq_getElem?_getD, List.getElem?_append_left (by rw [sched_length]; omega)]
    · rw [show t + 1 - 16 = m + 1 from by omega]
theorem sched_low (ws : List Nat) (h : ws.length = 16) (m t : Nat) (ht : t < 16) : (sched ws m).getD t 0 = ws.getD t 0 := by
  rw [sched_getD ws h m t (by omega), show t + 1 - 16 = 0 from by omega]
  rfl
theorem sched_high (ws : List Nat) (h : ws.length = 16) (m t : Nat) (h16 : 16 ≤ t) (ht : t < 16 + m) :
    (sched ws m).getD t 0 = addM (addM (addM ((sched ws m).getD (t - 16) 0) (sig0 ((sched ws m).getD (t - 15) 0))) ((sched ws m).getD (t - 7) 0)) (sig1 ((sched ws m).getD (t - 2) 0)) := by
  obtain ⟨q, rfl⟩ : ∃ q, t = 16 + q := ⟨t - 16, by omega⟩
  have up : ∀ i, i < 16 + q → (sched ws m).getD i 0 = (sched ws q).getD i 0 := fun i hi => by
    rw [sched_getD ws h m i (by omega), sched_getD ws h q i hi]
  rw [up (16 + q - 16) (by omega), up (16 + q - 15) (by omega), up (16 + q - 7) (by omega), up (16 + q - 2) (by omega), sched_getD ws h m (16 + q) ht, show 16 + q + 1 - 16 = q + 1 from by omega, sched]
  have hl : (sched ws q).length = 16 + q := by rw [sched_length]; omega
  rw [List.getD_eq_getElem?_getD, List.getElem?_append_right (by omega), hl, Nat.sub_self]
  show nextW (sched ws q) = _
  rw [nextW_is ws h q, show 16 + q - 16 = q from by omega, show 16 + q - 15 = q + 1 from by omega, show 16 + q - 7 = q + 9 from by omega, show 16 + q - 2 = q + 14 from by omega]
end Go.Proofs.YtkjdjglknbgeaaaGreatDoor
