/- CRC-32 on plain numbers: the register bit by bit. No program in sight. -/
import Derived.RowKit
import Derived.WalkKit
import Derived.Laws.BitsAllLaws
set_option linter.unusedVariables false
namespace Go.Proofs.YtdjnebgjdekmaaaGreatDoor
open Go.RowKit
def crcStep (r : Nat) : Nat := if r % 2 = 1 then (r / 2) ^^^ 3988292384 else r / 2
def crcBit (r b : Nat) : Nat := crcStep (r ^^^ b)
def crcBits (r x : Nat) : Nat → Nat
 | 0 => r
 | k + 1 => crcBit (crcBits r x k) (x / 2 ^ k % 2)
def crcByte (r x : Nat) : Nat := crcBits r x 8
def crcFold (r : Nat) (l : List Nat) : Nat := l.foldl crcByte r
def notN (r : Nat) : Nat := 4294967295 - r
def crcMore (s : Nat) (l : List Nat) : Nat := notN (crcFold (notN s) l)
theorem crcStep_lt (r : Nat) (h : r < 4294967296) : crcStep r < 4294967296 := by
 unfold crcStep
 split
 · exact Nat.xor_lt_two_pow (n := 32) (by omega) (by omega)
 · omega
theorem crcBit_lt (r b : Nat) (h : r < 4294967296) (hb : b < 2) : crcBit r b < 4294967296 :=
 crcStep_lt _ (Nat.xor_lt_two_pow (n := 32) h (by omega))
theorem crcBits_lt (r x : Nat) (h : r < 4294967296) : ∀ k, crcBits r x k < 4294967296
 | 0 => h
 | k + 1 => crcBit_lt _ _ (crcBits_lt r x h k) (by omega)
theorem crcByte_lt (r x : Nat) (h : r < 4294967296) : crcByte r x < 4294967296 := crcBits_lt r x h 8
theorem crcFold_lt : ∀ (l : List Nat) (r : Nat), r < 4294967296 → crcFold r l < 4294967296
 | [], r, h => h
 | x :: l, _, h => crcFold_lt l _ (crcByte_lt _ x h)
theorem crcFold_append (r : Nat) (a b : List Nat) : crcFold r (a ++ b) = crcFold (crcFold r a) b := List.foldl_append ..
theorem crcFold_snoc (r : Nat) (a : List Nat) (x : Nat) : crcFold r (a ++ [x]) = crcByte (crcFold r a) x := by rw [crcFold_append]; rfl
theorem notN_lt (r : Nat) : notN r < 4294967296 := by unfold notN; omega
theorem crcMore_lt (s : Nat) (l : List Nat) : crcMore s l < 4294967296 := notN_lt _
theorem xor_bit_div (r b : Nat) (hb : b < 2) : (r ^^^ b) / 2 = r / 2 := by
 have h := Nat.xor_div_two (a := r) (b := b)
 rw [h, show b / 2 = 0 from by omega, Nat.xor_zero]
theorem xor_bit_mod (r b : Nat) (hb : b < 2) : (r ^^^ b) % 2 = 1 ↔ r % 2 ≠ b := by
 have h := Nat.xor_mod_two_eq_one (a := r) (b := b)
 omega
theorem crcBit_yes (r b : Nat) (hb : b < 2) (h : r % 2 ≠ b) : crcBit r b = (r / 2) ^^^ 3988292384 := by
 unfold crcBit crcStep
 rw [if_pos ((xor_bit_mod r b hb).2 h), xor_bit_div r b hb]
theorem crcBit_no (r b : Nat) (hb : b < 2) (h : r % 2 = b) : crcBit r b = r / 2 := by
 unfold crcBit crcStep
 rw [if_neg (fun e => (xor_bit_mod r b hb).1 e h), xor_bit_div r b hb]
def pbit (p i : Nat) : Nat := p / 2 ^ i % 2
def turned (p : Nat) : Nat → Bool
 | 0 => false
 | i + 1 => if pbit p i = 1 then true else turned p i
def le4 (n : Nat) : List Nat := [n % 256, n / 256 % 256, n / 65536 % 256, n / 16777216 % 256]
def getN (l : List Nat) (j : Nat) : Nat := l.getD j 0 + l.getD (j + 1) 0 * 256 + l.getD (j + 2) 0 * 65536 + l.getD (j + 3) 0 * 16777216
def bytesN (l : List Nat) : Prop := ∀ x ∈ l, x < 256
theorem le4_length (n : Nat) : (le4 n).length = 4 := rfl
theorem le4_lt (n : Nat) : bytesN (le4 n) := by
 intro x hx
 simp only [le4, List.mem_cons, List.not_mem_nil, or_false] at hx
 omega
theorem bytesN_append {a b : List Nat} (ha : bytesN a) (hb : bytesN b) : bytesN (a ++ b) := fun x hx => by
 rcases List.mem_append.1 hx with h | h
 · exact ha x h
 · exact hb x h
theorem bytesN_take {a : List Nat} (ha : bytesN a) (k : Nat) : bytesN (a.take k) := fun x hx => ha x (List.mem_of_mem_take hx)
theorem bytesN_drop {a : List Nat} (ha : bytesN a) (k : Nat) : bytesN (a.drop k) := fun x hx => ha x (List.mem_of_mem_drop hx)
theorem bytesN_nil : bytesN [] := fun x hx => by cases hx
theorem getN_front (a b c d : Nat) (t : List Nat) : getN (a :: b :: c :: d :: t) 0 = a + b * 256 + c * 65536 + d * 16777216 := rfl
theorem getN_le4 (n : Nat) (h : n < 4294967296) (t : List Nat) : getN (le4 n ++ t) 0 = n := by
 show getN (_ :: _ :: _ :: _ :: t) 0 = n
 rw [getN_front]
 omega
theorem getN_drop (l : List Nat) (j : Nat) : getN l j = getN (l.drop j) 0 := by
 unfold getN
 simp [List.getD, List.getElem?_drop]
theorem four_of {l : List Nat} (h : 4 ≤ l.length) : ∃ a b c d t, l = a :: b :: c :: d :: t := by
 match l, h with
 | a :: b :: c :: d :: t, _ => exact ⟨a, b, c, d, t, rfl⟩
theorem le4_getN0 {l : List Nat} (hb : bytesN l) (h : 4 ≤ l.length) : le4 (getN l 0) = l.take 4 := by
 obtain ⟨a, b, c, d, t, rfl⟩ := four_of h
 have h1 := hb a (by simp)
 have h2 := hb b (by simp)
 have h3 := hb c (by simp)
 have h4 := hb d (by simp)
 rw [getN_front]
 simp only [le4, List.take_succ_cons, List.take_zero, List.cons.injEq, and_true]
 omega
theorem le4_getN {l : List Nat} (hb : bytesN l) (j : Nat) (h : j + 4 ≤ l.length) : le4 (getN l j) = (l.drop j).take 4 := by
 rw [getN_drop]
 exact le4_getN0 (bytesN_drop hb j) (by rw [List.length_drop]; omega)
theorem getN_lt {l : List Nat} (hb : bytesN l) (j : Nat) : getN l j < 4294967296 := by
 have h : ∀ i, l.getD i 0 < 256 := fun i => by
  by_cases hi : i < l.length
  · have e : l.getD i 0 = l[i] := by simp [List.getD, hi]
    rw [e]
    exact hb _ (List.getElem_mem hi)
  · have e : l.getD i 0 = 0 := by simp [List.getD, hi]
    omega
 have h1 := h j
 have h2 := h (j + 1)
 have h3 := h (j + 2)
 have h4 := h (j + 3)
 unfold getN
 omega
def headN (r : List Nat) : List Nat := le4 r.length ++ r
def frameN (r : List Nat) : List Nat := headN r ++ le4 (crcMore 0 (headN r))
theorem headN_length (r : List Nat) : (headN r).length = r.length + 4 := by unfold headN; rw [List.length_append, le4_length]; omega
theorem frameN_length (r : List Nat) : (frameN r).length = r.length + 8 := by unfold frameN; rw [List.length_append, headN_length, le4_length]
theorem headN_lt {r : List Nat} (h : bytesN r) : bytesN (headN r) := bytesN_append (le4_lt _) h
def firstN (b : List Nat) : Option (List Nat) :=
 if b.length < 4 then none
 else if 65536 < getN b 0 then none
 else if b.length < getN b 0 + 8 then none
 else if getN b (4 + getN b 0) = crcMore 0 (b.take (4 + getN b 0)) then some ((b.drop 4).take (getN b 0)) else none
theorem first_len {b r : List Nat} (h : firstN b = some r) : r.length = getN b 0 ∧ r.length + 8 ≤ b.length ∧ r.length ≤ 65536 ∧ r = (b.drop 4).take (getN b 0) ∧ getN b (4 + getN b 0) = crcMore 0 (b.take (4 + getN b 0)) := by
 unfold firstN at h
 split at h
 · cases h
 split at h
 · cases h
 split at h
 · cases h
 split at h
 · rename_i h1 h2 h3 h4
   cases h
   have : ((b.drop 4).take (getN b 0)).length = getN b 0 := by rw [List.length_take, List.length_drop]; omega
   exact ⟨this, by omega, by omega, rfl, h4⟩
 · cases h
theorem first_some {b r : List Nat} (hb : bytesN b) (h : firstN b = some r) : r.length ≤ 65536 ∧ frameN r <+: b := by
 obtain ⟨h1, h2, h3, h4, h5⟩ := first_len h
 refine ⟨h3, ?_⟩
 have e1 : b.take 4 = le4 r.length := by rw [h1, le4_getN0 hb (by omega)]
 have e2 : b.take (4 + r.length) = headN r := by
  rw [List.take_add, e1]
  unfold headN
  rw [h1, ← h4]
 have e3 : le4 (crcMore 0 (headN r)) = (b.drop (4 + r.length)).take 4 := by
  rw [← e2, h1, ← h5, le4_getN hb _ (by omega)]
 unfold frameN
 rw [e3, ← e2, ← List.take_add]
 exact List.take_prefix _ _
theorem headN_front (r t : List Nat) (h : r.length ≤ 65536) : getN (headN r ++ t) 0 = r.length := by
 unfold headN
 rw [List.append_assoc]
 exact getN_le4 _ (by omega) _
theorem first_frame (r t : List Nat) (hl : r.length ≤ 65536) : firstN (frameN r ++ t) = some r := by
 have e0 : frameN r ++ t = headN r ++ (le4 (crcMore 0 (headN r)) ++ t) := by unfold frameN; rw [List.append_assoc]
 have hlen : (frameN r ++ t).length = r.length + 8 + t.length := by rw [List.length_append, frameN_length]
 have g0 : getN (frameN r ++ t) 0 = r.length := by rw [e0, headN_front r _ hl]
 have g1 : getN (frameN r ++ t) (4 + r.length) = crcMore 0 (headN r) := by
  rw [getN_drop, e0, List.drop_left' (by rw [headN_length]; omega)]
  exact getN_le4 _ (crcMore_lt _ _) _
 have g2 : (frameN r ++ t).take (4 + r.length) = headN r := by rw [e0, List.take_left' (by rw [headN_length]; omega)]
 have g3 : ((frameN r ++ t).drop 4).take r.length = r := by
  rw [e0]
  unfold headN
  rw [List.append_assoc, List.drop_left' (le4_length _), List.take_left' rfl]
 unfold firstN
 rw [g0, g1, g2, g3, hlen, if_neg (by omega), if_neg (by omega), if_neg (by omega), if_pos rfl]
def parseN (b : List Nat) : List (List Nat) :=
 match h : firstN b with
 | none => []
 | some r => r :: parseN (b.drop (r.length + 8))
termination_by b.length
decreasing_by
 have := first_len h
 rw [List.length_drop]
 omega
theorem parse_none {b : List Nat} (h : firstN b = none) : parseN b = [] := by
 rw [parseN]
 split
 · rfl
 · rename_i r h2
   rw [h] at h2
   cases h2
theorem parse_some {b r : List Nat} (h : firstN b = some r) : parseN b = r :: parseN (b.drop (r.length + 8)) := by
 rw [parseN]
 split
 · rename_i h2
   rw [h] at h2
   cases h2
 · rename_i r' h2
   rw [h] at h2
   injection h2 with h2
   rw [h2]
def allN : List (List Nat) → List Nat
 | [] => []
 | r :: rs => frameN r ++ allN rs
theorem allN_append (a b : List (List Nat)) : allN (a ++ b) = allN a ++ allN b := by
 induction a with
 | nil => rfl
 | cons r a ih => show frameN r ++ allN (a ++ b) = frameN r ++ allN a ++ allN b; rw [ih, List.append_assoc]
theorem allN_snoc (a : List (List Nat)) (r : List Nat) : allN (a ++ [r]) = allN a ++ frameN r := by rw [allN_append]; show _ ++ (frameN r ++ []) = _; rw [List.append_nil]
def shortN (rs : List (List Nat)) : Prop := ∀ r ∈ rs, r.length ≤ 65536
theorem parse_all (rs : List (List Nat)) (h : shortN rs) (t : List Nat) : parseN (allN rs ++ t) = rs ++ parseN t := by
 induction rs with
 | nil => rfl
 | cons r rs ih =>
  show parseN (frameN r ++ allN rs ++ t) = r :: (rs ++ parseN t)
  rw [List.append_assoc, parse_some (first_frame r _ (h r (by simp))), List.drop_left' (frameN_length r), ih fun x hx => h x (by simp [hx])]
theorem first_small {t : List Nat} (h : t.length < 8) : firstN t = none := by
 cases e : firstN t with
 | none => rfl
 | some r => have := first_len e; omega
theorem parse_small {t : List Nat} (h : t.length < 8) : parseN t = [] := parse_none (first_small h)
theorem all_parse : ∀ (n : Nat) (b : List Nat), b.length ≤ n → bytesN b → allN (parseN b) <+: b ∧ shortN (parseN b) := by
 intro n
 induction n with
 | zero =>
  intro b hn hb
  rw [parse_small (by omega)]
  exact ⟨List.nil_prefix, fun r hr => by cases hr⟩
 | succ n ih =>
  intro b hn hb
  cases e : firstN b with
  | none =>
   rw [parse_none e]
   exact ⟨List.nil_prefix, fun r hr => by cases hr⟩
  | some r =>
   obtain ⟨h1, h2⟩ := first_some hb e
   have h3 := (first_len e).2.1
   obtain ⟨h4, h5⟩ := ih (b.drop (r.length + 8)) (by rw [List.length_drop]; omega) (bytesN_drop hb _)
   rw [parse_some e]
   refine ⟨?_, fun x hx => ?_⟩
   · obtain ⟨t, ht⟩ := h2
     show frameN r ++ allN (parseN (b.drop (r.length + 8))) <+: b
     rw [← ht, List.drop_left' (frameN_length r)] at h4 ⊢
     exact List.prefix_append_right_inj (frameN r) |>.2 h4
   · rcases List.mem_cons.1 hx with rfl | hx
     · exact h1
     · exact h5 x hx
theorem parse_lt {b : List Nat} (hb : bytesN b) : ∀ r ∈ parseN b, bytesN r := by
 have : ∀ (n : Nat) (b : List Nat), b.length ≤ n → bytesN b → ∀ r ∈ parseN b, bytesN r := by
  intro n
  induction n with
  | zero =>
   intro b hn hb r hr
   rw [parse_small (by omega)] at hr
   cases hr
  | succ n ih =>
   intro b hn hb r hr
   cases e : firstN b with
   | none => rw [parse_none e] at hr; cases hr
   | some x =>
    have h := first_len e
    rw [parse_some e] at hr
    rcases List.mem_cons.1 hr with rfl | hr
    · rw [h.2.2.2.1]
      exact bytesN_take (bytesN_drop hb _) _
    · exact ih _ (by rw [List.length_drop]; omega) (bytesN_drop hb _) r hr
 exact this _ b (Nat.le_refl _) hb
def wd (ws : List Nat) (k : Nat) : Nat := ws.getD k 0
def grown (ws : List Nat) (k : Nat) : List Nat := ws ++ List.replicate (k - ws.length) 0
theorem wrap32_ex (x : Int) : ∃ k : Int, wrap32 x = x + 4294967296 * k := by
 refine ⟨-((x + 2147483648) / 4294967296), ?_⟩
 unfold wrap32
 have := Int.emod_add_mul_ediv (x + 2147483648) 4294967296
 omega
theorem wrap32_self (x : Int) (h : -2147483648 ≤ x ∧ x ≤ 2147483647) : wrap32 x = x := by
 unfold wrap32; omega
def dn (x k : Nat) : Nat := (x / 2 ^ k) ||| (x * 2 ^ (32 - k) % 4294967296)
theorem dn_lt (x k : Nat) (hx : x < 4294967296) : dn x k < 4294967296 := by
 unfold dn
 exact Nat.or_lt_two_pow (n := 32) (Nat.lt_of_le_of_lt (Nat.div_le_self _ _) hx) (Nat.mod_lt _ (by decide))
def addM (a b : Nat) : Nat := (a + b) % 4294967296
theorem addM_lt (a b : Nat) : addM a b < 4294967296 := Nat.mod_lt _ (by decide)
def be (l : List Nat) : Nat := l.foldl (fun a x => a * 256 + x) 0
theorem be_snoc (l : List Nat) (x : Nat) : be (l ++ [x]) = be l * 256 + x := by
 unfold be
 rw [List.foldl_append]
 rfl
theorem be_fold_lt : ∀ (l : List Nat) (a : Nat), (∀ x ∈ l, x < 256) → l.foldl (fun a x => a * 256 + x) a < (a + 1) * 256 ^ l.length
 | [], a, _ => by simp
 | x :: l, a, h => by
  have h1 := be_fold_lt l (a * 256 + x) (fun y hy => h y (List.mem_cons_of_mem _ hy))
  have h2 := h x (List.mem_cons_self ..)
  have h3 : (a * 256 + x + 1) * 256 ^ l.length ≤ ((a + 1) * 256) * 256 ^ l.length := Nat.mul_le_mul_right _ (by omega)
  rw [List.foldl_cons, List.length_cons, Nat.pow_succ]
  rw [Nat.mul_assoc, Nat.mul_comm 256] at h3
  omega
theorem be_lt (l : List Nat) (h : ∀ x ∈ l, x < 256) : be l < 256 ^ l.length := by
 have := be_fold_lt l 0 h
 unfold be
 simpa using this
def sig0 (x : Nat) : Nat := (dn x 7 ^^^ dn x 18) ^^^ (x / 8)
def sig1 (x : Nat) : Nat := (dn x 17 ^^^ dn x 19) ^^^ (x / 1024)
def nextW (ws : List Nat) : Nat := addM (addM (addM (ws.getD (ws.length - 16) 0) (sig0 (ws.getD (ws.length - 15) 0))) (ws.getD (ws.length - 7) 0)) (sig1 (ws.getD (ws.length - 2) 0))
def sched (ws : List Nat) : Nat → List Nat
 | 0 => ws
 | m + 1 => sched ws m ++ [nextW (sched ws m)]
theorem sched_length (ws : List Nat) : ∀ m, (sched ws m).length = ws.length + m
 | 0 => rfl
 | m + 1 => by rw [sched, List.length_append, sched_length ws m]; rfl
theorem nextW_lt (ws : List Nat) : nextW ws < 4294967296 := addM_lt _ _
theorem sched_lt (ws : List Nat) (h : ∀ x ∈ ws, x < 4294967296) : ∀ m, ∀ x ∈ sched ws m, x < 4294967296
 | 0, x, hx => h x hx
 | m + 1, x, hx => by
  rw [sched] at hx
  rcases List.mem_append.1 hx with hx | hx
  · exact sched_lt ws h m x hx
  · simp only [List.mem_cons, List.not_mem_nil, or_false] at hx
    rw [hx]
    exact nextW_lt _
def partW (l : List Nat) (k j : Nat) : Nat := be (((l.take k).drop (4 * j)).take 4)
def words (l : List Nat) : List Nat := (List.range 16).map fun j => be ((l.drop (4 * j)).take 4)
theorem partW_same (l : List Nat) (k : Nat) (hk : k < l.length) : partW l (k + 1) (k / 4) = partW l k (k / 4) * 256 + l.getD k 0 := by
 unfold partW
 have e : l.take (k + 1) = l.take k ++ [l.getD k 0] := by
  rw [List.take_add_one]
  simp [hk]
 have hl : (l.take k).length = k := by rw [List.length_take]; omega
 have h1 : ((l.take k).drop (4 * (k / 4))).length ≤ 3 := by rw [List.length_drop, hl]; omega
 rw [e, List.drop_append_of_le_length (by rw [hl]; omega)]
 generalize (l.take k).drop (4 * (k / 4)) = q at *
 rw [List.take_of_length_le (l := q ++ [l.getD k 0]) (by rw [List.length_append, List.length_singleton]; omega), List.take_of_length_le (l := q) (by omega), be_snoc]
theorem partW_other (l : List Nat) (k j : Nat) (hk : k < l.length) (hj : j ≠ k / 4) : partW l (k + 1) j = partW l k j := by
 unfold partW
 have e : l.take (k + 1) = l.take k ++ [l.getD k 0] := by
  rw [List.take_add_one]
  simp [hk]
 have hl : (l.take k).length = k := by rw [List.length_take]; omega
 rcases Nat.lt_or_ge j (k / 4) with h | h
 · rw [e, List.drop_append_of_le_length (by rw [hl]; omega), List.take_append_of_le_length (by rw [List.length_drop, hl]; omega)]
 · rw [List.drop_eq_nil_of_le (by rw [List.length_take]; omega), List.drop_eq_nil_of_le (by rw [List.length_take]; omega)]
def partial_ (l : List Nat) (k : Nat) : List Nat := (List.range 64).map (partW l k)
theorem partial_length (l : List Nat) (k : Nat) : (partial_ l k).length = 64 := by simp [partial_]
theorem partial_getD (l : List Nat) (k j : Nat) (hj : j < 64) : (partial_ l k).getD j 0 = partW l k j := by simp [partial_, List.getD, hj]
theorem partial_set (l : List Nat) (k : Nat) (hk : k < l.length) (h64 : k < 64) : (partial_ l k).set (k / 4) (partW l k (k / 4) * 256 + l.getD k 0) = partial_ l (k + 1) := by
 apply List.ext_getElem?
 intro i
 rw [List.getElem?_set]
 unfold partial_
 by_cases hi : k / 4 = i
 · subst hi
   have : k / 4 < 64 := by omega
   simp [this, partW_same l k hk]
 · rw [if_neg hi]
   by_cases h : i < 64
   · simp [h, partW_other l k i hk (fun e => hi e.symm)]
   · simp [h]
theorem partW_lt (l : List Nat) (k : Nat) (h : ∀ x ∈ l, x < 256) : partW l k (k / 4) < 16777216 := by
 unfold partW
 have h1 := be_lt (((l.take k).drop (4 * (k / 4))).take 4) (fun x hx => h x (List.mem_of_mem_take (List.mem_of_mem_drop (List.mem_of_mem_take hx))))
 have h2 : (((l.take k).drop (4 * (k / 4))).take 4).length ≤ 3 := by
  rw [List.length_take, List.length_drop, List.length_take]; omega
 have h3 : 256 ^ (((l.take k).drop (4 * (k / 4))).take 4).length ≤ 256 ^ 3 := Nat.pow_le_pow_right (by decide) h2
 omega
theorem partial_zero (l : List Nat) : partial_ l 0 = List.replicate 64 0 := by
 apply List.ext_getElem?
 intro i
 rw [List.getElem?_replicate]
 by_cases h : i < 64
 · rw [if_pos h]; simp [partial_, h, partW, be]
 · rw [if_neg h]; simp [partial_, h]
theorem partial_end (l : List Nat) (hl : l.length = 64) : partial_ l 64 = words l ++ List.replicate 48 0 := by
 apply List.ext_getElem?
 intro i
 have ht : l.take 64 = l := List.take_of_length_le (by omega)
 by_cases h : i < 16
 · rw [List.getElem?_append_left (by simp [words]; omega)]
   have h64 : i < 64 := by omega
   simp [partial_, words, h, h64, partW, ht]
 · rw [List.getElem?_append_right (by simp [words]; omega), List.getElem?_replicate]
   have hwl : (words l).length = 16 := by simp [words]
   rw [hwl]
   by_cases h64 : i < 64
   · have h48 : i - 16 < 48 := by omega
     have hd : l.drop (4 * i) = [] := List.drop_eq_nil_of_le (by omega)
     rw [if_pos h48]
     simp [partial_, h64, partW, ht, hd, be]
   · have h48 : ¬ i - 16 < 48 := by omega
     rw [if_neg h48]
     simp [partial_, h64]
theorem words_length (l : List Nat) : (words l).length = 16 := by simp [words]
theorem words_lt (l : List Nat) (h : ∀ x ∈ l, x < 256) : ∀ x ∈ words l, x < 4294967296 := by
 intro x hx
 obtain ⟨j, _, rfl⟩ := List.mem_map.1 hx
 have h1 := be_lt ((l.drop (4 * j)).take 4) (fun x hx => h x (List.mem_of_mem_drop (List.mem_of_mem_take hx)))
 have h2 : ((l.drop (4 * j)).take 4).length ≤ 4 := by rw [List.length_take]; omega
 have h3 : 256 ^ ((l.drop (4 * j)).take 4).length ≤ 256 ^ 4 := Nat.pow_le_pow_right (by decide) h2
 omega
def schedA (ws : List Nat) (m : Nat) : List Nat := sched ws m ++ List.replicate (48 - m) 0
theorem schedA_length (ws : List Nat) (h : ws.length = 16) (m : Nat) (hm : m ≤ 48) : (schedA ws m).length = 64 := by
 unfold schedA
 rw [List.length_append, sched_length, List.length_replicate]
 omega
theorem schedA_getD (ws : List Nat) (h : ws.length = 16) (m i : Nat) (hi : i < 16 + m) : (schedA ws m).getD i 0 = (sched ws m).getD i 0 := by
 unfold schedA
 have hl : i < (sched ws m).length := by rw [sched_length]; omega
 rw [List.getD_eq_getElem?_getD, List.getD_eq_getElem?_getD, List.getElem?_append_left hl]
theorem schedA_set (ws : List Nat) (h : ws.length = 16) (m : Nat) (hm : m < 48) : (schedA ws m).set (m + 16) (nextW (sched ws m)) = schedA ws (m + 1) := by
 have hl : (sched ws m).length = m + 16 := by rw [sched_length]; omega
 have e : List.replicate (48 - m) 0 = 0 :: List.replicate (48 - (m + 1)) 0 := by
  rw [show 48 - m = (48 - (m + 1)) + 1 from by omega, List.replicate_succ]
 unfold schedA
 rw [e, List.set_append_right _ _ (by omega), hl, Nat.sub_self, List.set_cons_zero, sched, List.append_assoc]
 rfl
theorem nextW_is (ws : List Nat) (h : ws.length = 16) (m : Nat) : nextW (sched ws m) = addM (addM (addM ((sched ws m).getD m 0) (sig0 ((sched ws m).getD (m + 1) 0))) ((sched ws m).getD (m + 9) 0)) (sig1 ((sched ws m).getD (m + 14) 0)) := by
 unfold nextW
 rw [sched_length, h, show 16 + m - 16 = m from by omega, show 16 + m - 15 = m + 1 from by omega, show 16 + m - 7 = m + 9 from by omega, show 16 + m - 2 = m + 14 from by omega]
theorem sched_getD_lt (ws : List Nat) (h : ∀ x ∈ ws, x < 4294967296) (m i : Nat) : (sched ws m).getD i 0 < 4294967296 := by
 rw [List.getD_eq_getElem?_getD]
 by_cases hi : i < (sched ws m).length
 · simp [hi, sched_lt ws h m _ (List.getElem_mem hi)]
 · simp [hi]
def notN32 (r : Nat) : Nat := 4294967295 - r
theorem notN32_lt (r : Nat) : notN32 r < 4294967296 := by unfold notN32; omega
theorem xor_lt (a b : Nat) (ha : a < 4294967296) (hb : b < 4294967296) : a ^^^ b < 4294967296 := Nat.xor_lt_two_pow (n := 32) ha hb
theorem and_ltS (a b : Nat) (ha : a < 4294967296) : a &&& b < 4294967296 := Nat.lt_of_le_of_lt Nat.and_le_left ha
def bS1 (e : Nat) : Nat := (dn e 6 ^^^ dn e 11) ^^^ dn e 25
def bS0 (a : Nat) : Nat := (dn a 2 ^^^ dn a 13) ^^^ dn a 22
def chN (e f g : Nat) : Nat := (e &&& f) ^^^ (notN32 e &&& g)
def majN (a b c : Nat) : Nat := ((a &&& b) ^^^ (a &&& c)) ^^^ (b &&& c)
structure St where
 a : Nat
 b : Nat
 c : Nat
 d : Nat
 e : Nat
 f : Nat
 g : Nat
 h : Nat
def St.ok (s : St) : Prop := s.a < 4294967296 ∧ s.b < 4294967296 ∧ s.c < 4294967296 ∧ s.d < 4294967296 ∧ s.e < 4294967296 ∧ s.f < 4294967296 ∧ s.g < 4294967296 ∧ s.h < 4294967296
def St.list (s : St) : List Nat := [s.a, s.b, s.c, s.d, s.e, s.f, s.g, s.h]
def tOne (s : St) (k w : Nat) : Nat := addM (addM (addM (addM s.h (bS1 s.e)) (chN s.e s.f s.g)) k) w
def tTwo (s : St) : Nat := addM (bS0 s.a) (majN s.a s.b s.c)
def rnd (s : St) (k w : Nat) : St := ⟨addM (tOne s k w) (tTwo s), s.a, s.b, s.c, addM s.d (tOne s k w), s.e, s.f, s.g⟩
theorem rnd_ok (s : St) (k w : Nat) (h : s.ok) : (rnd s k w).ok := ⟨addM_lt _ _, h.1, h.2.1, h.2.2.1, addM_lt _ _, h.2.2.2.2.1, h.2.2.2.2.2.1, h.2.2.2.2.2.2.1⟩
def rnds (ks ws : List Nat) (s : St) : Nat → St
 | 0 => s
 | t + 1 => rnd (rnds ks ws s t) (ks.getD t 0) (ws.getD t 0)
theorem rnds_ok (ks ws : List Nat) (s : St) (h : s.ok) : ∀ t, (rnds ks ws s t).ok
 | 0 => h
 | t + 1 => rnd_ok _ _ _ (rnds_ok ks ws s h t)
def St.add (s r : St) : St := ⟨addM s.a r.a, addM s.b r.b, addM s.c r.c, addM s.d r.d, addM s.e r.e, addM s.f r.f, addM s.g r.g, addM s.h r.h⟩
theorem St.add_ok (s r : St) : (s.add r).ok := ⟨addM_lt _ _, addM_lt _ _, addM_lt _ _, addM_lt _ _, addM_lt _ _, addM_lt _ _, addM_lt _ _, addM_lt _ _⟩
def mixN (ks : List Nat) (s : St) (block : List Nat) : St := s.add (rnds ks (sched (words block) 48) s 64)
end Go.Proofs.YtdjnebgjdekmaaaGreatDoor
