/-
  SHA-256 on plain numbers. No program in sight.
-/
import Derived.RowKit
import Derived.WalkKit
import Derived.Laws.BitsAllLaws
namespace Go.Proofs.YtkjdjglknbgeaaaGreatDoor
open Go.RowKit
set_option linter.unusedVariables false

/-- A word turned down by k, on plain numbers. -/
def dn (x k : Nat) : Nat := (x / 2 ^ k) ||| (x * 2 ^ (32 - k) % 4294967296)
theorem dn_lt (x k : Nat) (hx : x < 4294967296) : dn x k < 4294967296 := by
  unfold dn
  exact Nat.or_lt_two_pow (n := 32) (Nat.lt_of_le_of_lt (Nat.div_le_self _ _) hx) (Nat.mod_lt _ (by decide))
def addM (a b : Nat) : Nat := (a + b) % 4294967296
theorem addM_lt (a b : Nat) : addM a b < 4294967296 := Nat.mod_lt _ (by decide)
/-- The number of bytes, the highest first. -/
def be (l : List Nat) : Nat := l.foldl (fun a x => a * 256 + x) 0
theorem be_snoc (l : List Nat) (x : Nat) : be (l ++ [x]) = be l * 256 + x := by
  unfold be
  rw [List.foldl_append]
  rfl
theorem be_fold_lt : ∀ (l : List Nat) (a : Nat), (∀ x ∈ l, x < 256) → l.foldl (fun a x => a * 256 + x) a < (a + 1) * 256 ^ l.length
  | [], a, _ => by simp
  | x :: l, a, h => by
    have h1 := be_fold_lt l (a * 256 + x) (fun y hy => h y (List.mem_cons_of_mem _ hy))
    have h2 := h x (List.mem_cons_self ..)
    have h3 : (a * 256 + x + 1) * 256 ^ l.length ≤ ((a + 1) * 256) * 256 ^ l.length := Nat.mul_le_mul_right _ (by omega)
    rw [List.foldl_cons, List.length_cons, Nat.pow_succ]
    rw [Nat.mul_assoc, Nat.mul_comm 256] at h3
    omega
theorem be_lt (l : List Nat) (h : ∀ x ∈ l, x < 256) : be l < 256 ^ l.length := by
  have := be_fold_lt l 0 h
  unfold be
  simpa using this
def sig0 (x : Nat) : Nat := (dn x 7 ^^^ dn x 18) ^^^ (x / 8)
def sig1 (x : Nat) : Nat := (dn x 17 ^^^ dn x 19) ^^^ (x / 1024)
def nextW (ws : List Nat) : Nat := addM (addM (addM (ws.getD (ws.length - 16) 0) (sig0 (ws.getD (ws.length - 15) 0))) (ws.getD (ws.length - 7) 0)) (sig1 (ws.getD (ws.length - 2) 0))
/-- The words of a block, and m more. -/
def sched (ws : List Nat) : Nat → List Nat
  | 0 => ws
  | m + 1 => sched ws m ++ [nextW (sched ws m)]
theorem sched_length (ws : List Nat) : ∀ m, (sched ws m).length = ws.length + m
  | 0 => rfl
  | m + 1 => by rw [sched, List.length_append, sched_length ws m]; rfl
theorem nextW_lt (ws : List Nat) : nextW ws < 4294967296 := addM_lt _ _
theorem sched_lt (ws : List Nat) (h : ∀ x ∈ ws, x < 4294967296) : ∀ m, ∀ x ∈ sched ws m, x < 4294967296
  | 0, x, hx => h x hx
  | m + 1, x, hx => by
    rw [sched] at hx
    rcases List.mem_append.1 hx with hx | hx
    · exact sched_lt ws h m x hx
    · simp only [List.mem_cons, List.not_mem_nil, or_false] at hx
      rw [hx]
      exact nextW_lt _
/-- Word j of the first k bytes. -/
def partW (l : List Nat) (k j : Nat) : Nat := be (((l.take k).drop (4 * j)).take 4)
def words (l : List Nat) : List Nat := (List.range 16).map fun j => be ((l.drop (4 * j)).take 4)
def sched64 (l : List Nat) : List Nat := sched (words l) 48

theorem partW_same (l : List Nat) (k : Nat) (hk : k < l.length) : partW l (k + 1) (k / 4) = partW l k (k / 4) * 256 + l.getD k 0 := by
  unfold partW
  have e : l.take (k + 1) = l.take k ++ [l.getD k 0] := by
    rw [List.take_add_one]
    simp [hk]
  have hl : (l.take k).length = k := by rw [List.length_take]; omega
  have h1 : ((l.take k).drop (4 * (k / 4))).length ≤ 3 := by rw [List.length_drop, hl]; omega
  rw [e, List.drop_append_of_le_length (by rw [hl]; omega)]
  generalize (l.take k).drop (4 * (k / 4)) = q at *
  rw [List.take_of_length_le (l := q ++ [l.getD k 0]) (by rw [List.length_append, List.length_singleton]; omega), List.take_of_length_le (l := q) (by omega), be_snoc]
theorem partW_other (l : List Nat) (k j : Nat) (hk : k < l.length) (hj : j ≠ k / 4) : partW l (k + 1) j = partW l k j := by
  unfold partW
  have e : l.take (k + 1) = l.take k ++ [l.getD k 0] := by
    rw [List.take_add_one]
    simp [hk]
  have hl : (l.take k).length = k := by rw [List.length_take]; omega
  rcases Nat.lt_or_ge j (k / 4) with h | h
  · rw [e, List.drop_append_of_le_length (by rw [hl]; omega), List.take_append_of_le_length (by rw [List.length_drop, hl]; omega)]
  · rw [List.drop_eq_nil_of_le (by rw [List.length_take]; omega), List.drop_eq_nil_of_le (by rw [List.length_take]; omega)]
/-- The words while the bytes come in. -/
def partial_ (l : List Nat) (k : Nat) : List Nat := (List.range 64).map (partW l k)
theorem partial_length (l : List Nat) (k : Nat) : (partial_ l k).length = 64 := by simp [partial_]
theorem partial_getD (l : List Nat) (k j : Nat) (hj : j < 64) : (partial_ l k).getD j 0 = partW l k j := by simp [partial_, List.getD, hj]
theorem partial_set (l : List Nat) (k : Nat) (hk : k < l.length) (h64 : k < 64) : (partial_ l k).set (k / 4) (partW l k (k / 4) * 256 + l.getD k 0) = partial_ l (k + 1) := by
  apply List.ext_getElem?
  intro i
  rw [List.getElem?_set]
  unfold partial_
  by_cases hi : k / 4 = i
  · subst hi
    have : k / 4 < 64 := by omega
    simp [this, partW_same l k hk]
  · rw [if_neg hi]
    by_cases h : i < 64
    · simp [h, partW_other l k i hk (fun e => hi e.symm)]
    · simp [h]
theorem partW_lt (l : List Nat) (k : Nat) (h : ∀ x ∈ l, x < 256) : partW l k (k / 4) < 16777216 := by
  unfold partW
  have h1 := be_lt (((l.take k).drop (4 * (k / 4))).take 4) (fun x hx => h x (List.mem_of_mem_take (List.mem_of_mem_drop (List.mem_of_mem_take hx))))
  have h2 : (((l.take k).drop (4 * (k / 4))).take 4).length ≤ 3 := by
    rw [List.length_take, List.length_drop, List.length_take]; omega
  have h3 : 256 ^ (((l.take k).drop (4 * (k / 4))).take 4).length ≤ 256 ^ 3 := Nat.pow_le_pow_right (by decide) h2
  omega
theorem partial_zero (l : List Nat) : partial_ l 0 = List.replicate 64 0 := by
  apply List.ext_getElem?
  intro i
  rw [List.getElem?_replicate]
  by_cases h : i < 64
  · rw [if_pos h]; simp [partial_, h, partW, be]
  · rw [if_neg h]; simp [partial_, h]
theorem partial_end (l : List Nat) (hl : l.length = 64) : partial_ l 64 = words l ++ List.replicate 48 0 := by
  apply List.ext_getElem?
  intro i
  have ht : l.take 64 = l := List.take_of_length_le (by omega)
  by_cases h : i < 16
  · rw [List.getElem?_append_left (by simp [words]; omega)]
    have h64 : i < 64 := by omega
    simp [partial_, words, h, h64, partW, ht]
  · rw [List.getElem?_append_right (by simp [words]; omega), List.getElem?_replicate]
    have hwl : (words l).length = 16 := by simp [words]
    rw [hwl]
    by_cases h64 : i < 64
    · have h48 : i - 16 < 48 := by omega
      have hd : l.drop (4 * i) = [] := List.drop_eq_nil_of_le (by omega)
      rw [if_pos h48]
      simp [partial_, h64, partW, ht, hd, be]
    · have h48 : ¬ i - 16 < 48 := by omega
      rw [if_neg h48]
      simp [partial_, h64]
theorem words_length (l : List Nat) : (words l).length = 16 := by simp [words]
theorem words_lt (l : List Nat) (h : ∀ x ∈ l, x < 256) : ∀ x ∈ words l, x < 4294967296 := by
  intro x hx
  obtain ⟨j, _, rfl⟩ := List.mem_map.1 hx
  have h1 := be_lt ((l.drop (4 * j)).take 4) (fun x hx => h x (List.mem_of_mem_drop (List.mem_of_mem_take hx)))
  have h2 : ((l.drop (4 * j)).take 4).length ≤ 4 := by rw [List.length_take]; omega
  have h3 : 256 ^ ((l.drop (4 * j)).take 4).length ≤ 256 ^ 4 := Nat.pow_le_pow_right (by decide) h2
  omega
/-- The array of words while m of them have been made. -/
def schedA (ws : List Nat) (m : Nat) : List Nat := sched ws m ++ List.replicate (48 - m) 0
theorem schedA_length (ws : List Nat) (h : ws.length = 16) (m : Nat) (hm : m ≤ 48) : (schedA ws m).length = 64 := by
  unfold schedA
  rw [List.length_append, sched_length, List.length_replicate]
  omega
theorem schedA_getD (ws : List Nat) (h : ws.length = 16) (m i : Nat) (hi : i < 16 + m) : (schedA ws m).getD i 0 = (sched ws m).getD i 0 := by
  unfold schedA
  have hl : i < (sched ws m).length := by rw [sched_length]; omega
  rw [List.getD_eq_getElem?_getD, List.getD_eq_getElem?_getD, List.getElem?_append_left hl]
theorem schedA_set (ws : List Nat) (h : ws.length = 16) (m : Nat) (hm : m < 48) : (schedA ws m).set (m + 16) (nextW (sched ws m)) = schedA ws (m + 1) := by
  have hl : (sched ws m).length = m + 16 := by rw [sched_length]; omega
  have e : List.replicate (48 - m) 0 = 0 :: List.replicate (48 - (m + 1)) 0 := by
    rw [show 48 - m = (48 - (m + 1)) + 1 from by omega, List.replicate_succ]
  unfold schedA
  rw [e, List.set_append_right _ _ (by omega), hl, Nat.sub_self, List.set_cons_zero, sched, List.append_assoc]
  rfl
theorem nextW_is (ws : List Nat) (h : ws.length = 16) (m : Nat) : nextW (sched ws m) = addM (addM (addM ((sched ws m).getD m 0) (sig0 ((sched ws m).getD (m + 1) 0))) ((sched ws m).getD (m + 9) 0)) (sig1 ((sched ws m).getD (m + 14) 0)) := by
  unfold nextW
  rw [sched_length, h, show 16 + m - 16 = m from by omega, show 16 + m - 15 = m + 1 from by omega, show 16 + m - 7 = m + 9 from by omega, show 16 + m - 2 = m + 14 from by omega]
theorem sched_getD_lt (ws : List Nat) (h : ∀ x ∈ ws, x < 4294967296) (m i : Nat) : (sched ws m).getD i 0 < 4294967296 := by
  rw [List.getD_eq_getElem?_getD]
  by_cases hi : i < (sched ws m).length
  · simp [hi, sched_lt ws h m _ (List.getElem_mem hi)]
  · simp [hi]
theorem sig0_lt (x : Nat) (h : x < 4294967296) : sig0 x < 4294967296 := by
  unfold sig0
  exact Nat.xor_lt_two_pow (n := 32) (Nat.xor_lt_two_pow (n := 32) (dn_lt _ _ h) (dn_lt _ _ h)) (Nat.lt_of_le_of_lt (Nat.div_le_self _ _) h)
theorem sig1_lt (x : Nat) (h : x < 4294967296) : sig1 x < 4294967296 := by
  unfold sig1
  exact Nat.xor_lt_two_pow (n := 32) (Nat.xor_lt_two_pow (n := 32) (dn_lt _ _ h) (dn_lt _ _ h)) (Nat.lt_of_le_of_lt (Nat.div_le_self _ _) h)
def notN32 (r : Nat) : Nat := 4294967295 - r
theorem notN32_lt (r : Nat) : notN32 r < 4294967296 := by unfold notN32; omega
theorem xor_lt (a b : Nat) (ha : a < 4294967296) (hb : b < 4294967296) : a ^^^ b < 4294967296 := Nat.xor_lt_two_pow (n := 32) ha hb
theorem and_ltS (a b : Nat) (ha : a < 4294967296) : a &&& b < 4294967296 := Nat.lt_of_le_of_lt Nat.and_le_left ha
def bS1 (e : Nat) : Nat := (dn e 6 ^^^ dn e 11) ^^^ dn e 25
def bS0 (a : Nat) : Nat := (dn a 2 ^^^ dn a 13) ^^^ dn a 22
def chN (e f g : Nat) : Nat := (e &&& f) ^^^ (notN32 e &&& g)
def majN (a b c : Nat) : Nat := ((a &&& b) ^^^ (a &&& c)) ^^^ (b &&& c)
theorem bS1_lt (e : Nat) (h : e < 4294967296) : bS1 e < 4294967296 := xor_lt _ _ (xor_lt _ _ (dn_lt _ _ h) (dn_lt _ _ h)) (dn_lt _ _ h)
theorem bS0_lt (e : Nat) (h : e < 4294967296) : bS0 e < 4294967296 := xor_lt _ _ (xor_lt _ _ (dn_lt _ _ h) (dn_lt _ _ h)) (dn_lt _ _ h)
theorem chN_lt (e f g : Nat) (h : e < 4294967296) : chN e f g < 4294967296 := xor_lt _ _ (and_ltS _ _ h) (and_ltS _ _ (notN32_lt e))
theorem majN_lt (a b c : Nat) (h : a < 4294967296) (hb : b < 4294967296) : majN a b c < 4294967296 := xor_lt _ _ (xor_lt _ _ (and_ltS _ _ h) (and_ltS _ _ h)) (and_ltS _ _ hb)
/-- The eight words. -/
structure St where
  a : Nat
  b : Nat
  c : Nat
  d : Nat
  e : Nat
  f : Nat
  g : Nat
  h : Nat
def St.ok (s : St) : Prop := s.a < 4294967296 ∧ s.b < 4294967296 ∧ s.c < 4294967296 ∧ s.d < 4294967296 ∧ s.e < 4294967296 ∧ s.f < 4294967296 ∧ s.g < 4294967296 ∧ s.h < 4294967296
def St.list (s : St) : List Nat := [s.a, s.b, s.c, s.d, s.e, s.f, s.g, s.h]
def tOne (s : St) (k w : Nat) : Nat := addM (addM (addM (addM s.h (bS1 s.e)) (chN s.e s.f s.g)) k) w
def tTwo (s : St) : Nat := addM (bS0 s.a) (majN s.a s.b s.c)
def rnd (s : St) (k w : Nat) : St := ⟨addM (tOne s k w) (tTwo s), s.a, s.b, s.c, addM s.d (tOne s k w), s.e, s.f, s.g⟩
theorem rnd_ok (s : St) (k w : Nat) (h : s.ok) : (rnd s k w).ok := ⟨addM_lt _ _, h.1, h.2.1, h.2.2.1, addM_lt _ _, h.2.2.2.2.1, h.2.2.2.2.2.1, h.2.2.2.2.2.2.1⟩
/-- The first t rounds. -/
def rnds (ks ws : List Nat) (s : St) : Nat → St
  | 0 => s
  | t + 1 => rnd (rnds ks ws s t) (ks.getD t 0) (ws.getD t 0)
theorem rnds_ok (ks ws : List Nat) (s : St) (h : s.ok) : ∀ t, (rnds ks ws s t).ok
  | 0 => h
  | t + 1 => rnd_ok _ _ _ (rnds_ok ks ws s h t)
def St.add (s r : St) : St := ⟨addM s.a r.a, addM s.b r.b, addM s.c r.c, addM s.d r.d, addM s.e r.e, addM s.f r.f, addM s.g r.g, addM s.h r.h⟩
theorem St.add_ok (s r : St) : (s.add r).ok := ⟨addM_lt _ _, addM_lt _ _, addM_lt _ _, addM_lt _ _, addM_lt _ _, addM_lt _ _, addM_lt _ _, addM_lt _ _⟩
/-- One block taken into the sum. -/
def mixN (ks : List Nat) (s : St) (block : List Nat) : St := s.add (rnds ks (sched (words block) 48) s 64)
end Go.Proofs.YtkjdjglknbgeaaaGreatDoor
