/-
  The signs of layer 7 as a list: the first that fits is the longest that stands there. Plain mathematics.
-/
import Derived.Test.YtkpgkobhnldhpaaDoorLxJ
namespace Go.Proofs.YtkpgkobhnldhpaaDoor
set_option linter.unusedVariables false
set_option maxRecDepth 100000

def signsL : List (List UInt8) := [[60, 60], [62, 62], [60, 61], [62, 61], [61, 61], [33, 61], [38, 38], [124, 124], [43], [45], [42], [47], [37], [38], [124], [94], [60], [62], [33], [126], [61], [40], [41], [123], [125], [91], [93], [44], [59]]
def signF (l : List UInt8) : Option (List UInt8) := signsL.find? fun p => preB p l
theorem signN_two (a b : UInt8) (r : List UInt8) : signN (a :: b :: r) = signAB a.toNat b.toNat := rfl
theorem preB_two1 (c a b : UInt8) (r : List UInt8) : preB [c] (a :: b :: r) = (c == a) := by simp [preB, List.isPrefixOf]
theorem preB_two2 (c d a b : UInt8) (r : List UInt8) : preB [c, d] (a :: b :: r) = (c == a && d == b) := by simp [preB, List.isPrefixOf]
theorem toNat_ne {a : UInt8} {k : Nat} (c : UInt8) (hk : c.toNat = k) (h : (c == a) = false) : a.toNat ≠ k := fun e => by
  rw [beq_eq_false_iff_ne] at h
  exact h (UInt8.toNat_inj.1 (by omega))
theorem signF_two (a b : UInt8) (r : List UInt8) : signF (a :: b :: r) = if signN (a :: b :: r) = 0 then none else some ((a :: b :: r).take (signN (a :: b :: r))) := by
  rw [signN_two]
  by_cases h33 : a = 33
  · subst h33
    by_cases g61 : b = 61
    · subst g61; rfl
    have k61 : ((61 : UInt8) == b) = false := by rw [beq_eq_false_iff_ne]; exact fun e => g61 e.symm
    have n61 := toNat_ne 61 (k := 61) rfl k61
    have e : signAB (33 : UInt8).toNat b.toNat = 1 := by
      show signAB 33 b.toNat = 1
      unfold signAB
      simp [n61]
    rw [e]
    simp [signF, signsL, preB_two1, preB_two2, k61]
  by_cases h37 : a = 37
  · subst h37
    have e : signAB (37 : UInt8).toNat b.toNat = 1 := by rfl
    rw [e]
    simp [signF, signsL, preB_two1, preB_two2]
  by_cases h38 : a = 38
  · subst h38
    by_cases g38 : b = 38
    · subst g38; rfl
    have k38 : ((38 : UInt8) == b) = false := by rw [beq_eq_false_iff_ne]; exact fun e => g38 e.symm
    have n38 := toNat_ne 38 (k := 38) rfl k38
    have e : signAB (38 : UInt8).toNat b.toNat = 1 := by
      show signAB 38 b.toNat = 1
      unfold signAB
      simp [n38]
    rw [e]
    simp [signF, signsL, preB_two1, preB_two2, k38]
  by_cases h40 : a = 40
  · subst h40
    have e : signAB (40 : UInt8).toNat b.toNat = 1 := by rfl
    rw [e]
    simp [signF, signsL, preB_two1, preB_two2]
  by_cases h41 : a = 41
  · subst h41
    have e : signAB (41 : UInt8).toNat b.toNat = 1 := by rfl
    rw [e]
    simp [signF, signsL, preB_two1, preB_two2]
  by_cases h42 : a = 42
  · subst h42
    have e : signAB (42 : UInt8).toNat b.toNat = 1 := by rfl
    rw [e]
    simp [signF, signsL, preB_two1, preB_two2]
  by_cases h43 : a = 43
  · subst h43
    have e : signAB (43 : UInt8).toNat b.toNat = 1 := by rfl
    rw [e]
    simp [signF, signsL, preB_two1, preB_two2]
  by_cases h44 : a = 44
  · subst h44
    have e : signAB (44 : UInt8).toNat b.toNat = 1 := by rfl
    rw [e]
    simp [signF, signsL, preB_two1, preB_two2]
  by_cases h45 : a = 45
  · subst h45
    have e : signAB (45 : UInt8).toNat b.toNat = 1 := by rfl
    rw [e]
    simp [signF, signsL, preB_two1, preB_two2]
  by_cases h47 : a = 47
  · subst h47
    have e : signAB (47 : UInt8).toNat b.toNat = 1 := by rfl
    rw [e]
    simp [signF, signsL, preB_two1, preB_two2]
  by_cases h59 : a = 59
  · subst h59
    have e : signAB (59 : UInt8).toNat b.toNat = 1 := by rfl
    rw [e]
    simp [signF, signsL, preB_two1, preB_two2]
  by_cases h60 : a = 60
  · subst h60
    by_cases g60 : b = 60
    · subst g60; rfl
    by_cases g61 : b = 61
    · subst g61; rfl
    have k60 : ((60 : UInt8) == b) = false := by rw [beq_eq_false_iff_ne]; exact fun e => g60 e.symm
    have n60 := toNat_ne 60 (k := 60) rfl k60
    have k61 : ((61 : UInt8) == b) = false := by rw [beq_eq_false_iff_ne]; exact fun e => g61 e.symm
    have n61 := toNat_ne 61 (k := 61) rfl k61
    have e : signAB (60 : UInt8).toNat b.toNat = 1 := by
      show signAB 60 b.toNat = 1
      unfold signAB
      simp [n60, n61]
    rw [e]
    simp [signF, signsL, preB_two1, preB_two2, k60, k61]
  by_cases h61 : a = 61
  · subst h61
    by_cases g61 : b = 61
    · subst g61; rfl
    have k61 : ((61 : UInt8) == b) = false := by rw [beq_eq_false_iff_ne]; exact fun e => g61 e.symm
    have n61 := toNat_ne 61 (k := 61) rfl k61
    have e : signAB (61 : UInt8).toNat b.toNat = 1 := by
      show signAB 61 b.toNat = 1
      unfold signAB
      simp [n61]
    rw [e]
    simp [signF, signsL, preB_two1, preB_two2, k61]
  by_cases h62 : a = 62
  · subst h62
    by_cases g62 : b = 62
    · subst g62; rfl
    by_cases g61 : b = 61
    · subst g61; rfl
    have k62 : ((62 : UInt8) == b) = false := by rw [beq_eq_false_iff_ne]; exact fun e => g62 e.symm
    have n62 := toNat_ne 62 (k := 62) rfl k62
    have k61 : ((61 : UInt8) == b) = false := by rw [beq_eq_false_iff_ne]; exact fun e => g61 e.symm
    have n61 := toNat_ne 61 (k := 61) rfl k61
    have e : signAB (62 : UInt8).toNat b.toNat = 1 := by
      show signAB 62 b.toNat = 1
      unfold signAB
      simp [n62, n61]
    rw [e]
    simp [signF, signsL, preB_two1, preB_two2, k62, k61]
  by_cases h91 : a = 91
  · subst h91
    have e : signAB (91 : UInt8).toNat b.toNat = 1 := by rfl
    rw [e]
    simp [signF, signsL, preB_two1, preB_two2]
  by_cases h93 : a = 93
  · subst h93
    have e : signAB (93 : UInt8).toNat b.toNat = 1 := by rfl
    rw [e]
    simp [signF, signsL, preB_two1, preB_two2]
  by_cases h94 : a = 94
  · subst h94
    have e : signAB (94 : UInt8).toNat b.toNat = 1 := by rfl
    rw [e]
    simp [signF, signsL, preB_two1, preB_two2]
  by_cases h123 : a = 123
  · subst h123
    have e : signAB (123 : UInt8).toNat b.toNat = 1 := by rfl
    rw [e]
    simp [signF, signsL, preB_two1, preB_two2]
  by_cases h124 : a = 124
  · subst h124
    by_cases g124 : b = 124
    · subst g124; rfl
    have k124 : ((124 : UInt8) == b) = false := by rw [beq_eq_false_iff_ne]; exact fun e => g124 e.symm
    have n124 := toNat_ne 124 (k := 124) rfl k124
    have e : signAB (124 : UInt8).toNat b.toNat = 1 := by
      show signAB 124 b.toNat = 1
      unfold signAB
      simp [n124]
    rw [e]
    simp [signF, signsL, preB_two1, preB_two2, k124]
  by_cases h125 : a = 125
  · subst h125
    have e : signAB (125 : UInt8).toNat b.toNat = 1 := by rfl
    rw [e]
    simp [signF, signsL, preB_two1, preB_two2]
  by_cases h126 : a = 126
  · subst h126
    have e : signAB (126 : UInt8).toNat b.toNat = 1 := by rfl
    rw [e]
    simp [signF, signsL, preB_two1, preB_two2]
  have k33 : ((33 : UInt8) == a) = false := by rw [beq_eq_false_iff_ne]; exact fun e => h33 e.symm
  have n33 := toNat_ne 33 (k := 33) rfl k33
  have k37 : ((37 : UInt8) == a) = false := by rw [beq_eq_false_iff_ne]; exact fun e => h37 e.symm
  have n37 := toNat_ne 37 (k := 37) rfl k37
  have k38 : ((38 : UInt8) == a) = false := by rw [beq_eq_false_iff_ne]; exact fun e => h38 e.symm
  have n38 := toNat_ne 38 (k := 38) rfl k38
  have k40 : ((40 : UInt8) == a) = false := by rw [beq_eq_false_iff_ne]; exact fun e => h40 e.symm
  have n40 := toNat_ne 40 (k := 40) rfl k40
  have k41 : ((41 : UInt8) == a) = false := by rw [beq_eq_false_iff_ne]; exact fun e => h41 e.symm
  have n41 := toNat_ne 41 (k := 41) rfl k41
  have k42 : ((42 : UInt8) == a) = false := by rw [beq_eq_false_iff_ne]; exact fun e => h42 e.symm
  have n42 := toNat_ne 42 (k := 42) rfl k42
  have k43 : ((43 : UInt8) == a) = false := by rw [beq_eq_false_iff_ne]; exact fun e => h43 e.symm
  have n43 := toNat_ne 43 (k := 43) rfl k43
  have k44 : ((44 : UInt8) == a) = false := by rw [beq_eq_false_iff_ne]; exact fun e => h44 e.symm
  have n44 := toNat_ne 44 (k := 44) rfl k44
  have k45 : ((45 : UInt8) == a) = false := by rw [beq_eq_false_iff_ne]; exact fun e => h45 e.symm
  have n45 := toNat_ne 45 (k := 45) rfl k45
  have k47 : ((47 : UInt8) == a) = false := by rw [beq_eq_false_iff_ne]; exact fun e => h47 e.symm
  have n47 := toNat_ne 47 (k := 47) rfl k47
  have k59 : ((59 : UInt8) == a) = false := by rw [beq_eq_false_iff_ne]; exact fun e => h59 e.symm
  have n59 := toNat_ne 59 (k := 59) rfl k59
  have k60 : ((60 : UInt8) == a) = false := by rw [beq_eq_false_iff_ne]; exact fun e => h60 e.symm
  have n60 := toNat_ne 60 (k := 60) rfl k60
  have k61 : ((61 : UInt8) == a) = false := by rw [beq_eq_false_iff_ne]; exact fun e => h61 e.symm
  have n61 := toNat_ne 61 (k := 61) rfl k61
  have k62 : ((62 : UInt8) == a) = false := by rw [beq_eq_false_iff_ne]; exact fun e => h62 e.symm
  have n62 := toNat_ne 62 (k := 62) rfl k62
  have k91 : ((91 : UInt8) == a) = false := by rw [beq_eq_false_iff_ne]; exact fun e => h91 e.symm
  have n91 := toNat_ne 91 (k := 91) rfl k91
  have k93 : ((93 : UInt8) == a) = false := by rw [beq_eq_false_iff_ne]; exact fun e => h93 e.symm
  have n93 := toNat_ne 93 (k := 93) rfl k93
  have k94 : ((94 : UInt8) == a) = false := by rw [beq_eq_false_iff_ne]; exact fun e => h94 e.symm
  have n94 := toNat_ne 94 (k := 94) rfl k94
  have k123 : ((123 : UInt8) == a) = false := by rw [beq_eq_false_iff_ne]; exact fun e => h123 e.symm
  have n123 := toNat_ne 123 (k := 123) rfl k123
  have k124 : ((124 : UInt8) == a) = false := by rw [beq_eq_false_iff_ne]; exact fun e => h124 e.symm
  have n124 := toNat_ne 124 (k := 124) rfl k124
  have k125 : ((125 : UInt8) == a) = false := by rw [beq_eq_false_iff_ne]; exact fun e => h125 e.symm
  have n125 := toNat_ne 125 (k := 125) rfl k125
  have k126 : ((126 : UInt8) == a) = false := by rw [beq_eq_false_iff_ne]; exact fun e => h126 e.symm
  have n126 := toNat_ne 126 (k := 126) rfl k126
  have e : signAB a.toNat b.toNat = 0 := by
    unfold signAB
    simp [n33, n37, n38, n40, n41, n42, n43, n44, n45, n47, n59, n60, n61, n62, n91, n93, n94, n123, n124, n125, n126]
  rw [e]
  simp [signF, signsL, preB_two1, preB_two2, k33, k37, k38, k40, k41, k42, k43, k44, k45, k47, k59, k60, k61, k62, k91, k93, k94, k123, k124, k125, k126]
theorem preB_one1 (c a : UInt8) : preB [c] [a] = (c == a) := by simp [preB, List.isPrefixOf]
theorem preB_one2 (c d a : UInt8) : preB [c, d] [a] = false := by simp [preB, List.isPrefixOf]
theorem signN_one (a : UInt8) : signN [a] = signAB a.toNat 0 := rfl
theorem signF_one (a : UInt8) : signF [a] = if signN [a] = 0 then none else some ([a].take (signN [a])) := by
  rw [signN_one]
  by_cases h33 : a = 33
  · subst h33; rfl
  by_cases h37 : a = 37
  · subst h37; rfl
  by_cases h38 : a = 38
  · subst h38; rfl
  by_cases h40 : a = 40
  · subst h40; rfl
  by_cases h41 : a = 41
  · subst h41; rfl
  by_cases h42 : a = 42
  · subst h42; rfl
  by_cases h43 : a = 43
  · subst h43; rfl
  by_cases h44 : a = 44
  · subst h44; rfl
  by_cases h45 : a = 45
  · subst h45; rfl
  by_cases h47 : a = 47
  · subst h47; rfl
  by_cases h59 : a = 59
  · subst h59; rfl
  by_cases h60 : a = 60
  · subst h60; rfl
  by_cases h61 : a = 61
  · subst h61; rfl
  by_cases h62 : a = 62
  · subst h62; rfl
  by_cases h91 : a = 91
  · subst h91; rfl
  by_cases h93 : a = 93
  · subst h93; rfl
  by_cases h94 : a = 94
  · subst h94; rfl
  by_cases h123 : a = 123
  · subst h123; rfl
  by_cases h124 : a = 124
  · subst h124; rfl
  by_cases h125 : a = 125
  · subst h125; rfl
  by_cases h126 : a = 126
  · subst h126; rfl
  have k33 : ((33 : UInt8) == a) = false := by rw [beq_eq_false_iff_ne]; exact fun e => h33 e.symm
  have n33 := toNat_ne 33 (k := 33) rfl k33
  have k37 : ((37 : UInt8) == a) = false := by rw [beq_eq_false_iff_ne]; exact fun e => h37 e.symm
  have n37 := toNat_ne 37 (k := 37) rfl k37
  have k38 : ((38 : UInt8) == a) = false := by rw [beq_eq_false_iff_ne]; exact fun e => h38 e.symm
  have n38 := toNat_ne 38 (k := 38) rfl k38
  have k40 : ((40 : UInt8) == a) = false := by rw [beq_eq_false_iff_ne]; exact fun e => h40 e.symm
  have n40 := toNat_ne 40 (k := 40) rfl k40
  have k41 : ((41 : UInt8) == a) = false := by rw [beq_eq_false_iff_ne]; exact fun e => h41 e.symm
  have n41 := toNat_ne 41 (k := 41) rfl k41
  have k42 : ((42 : UInt8) == a) = false := by rw [beq_eq_false_iff_ne]; exact fun e => h42 e.symm
  have n42 := toNat_ne 42 (k := 42) rfl k42
  have k43 : ((43 : UInt8) == a) = false := by rw [beq_eq_false_iff_ne]; exact fun e => h43 e.symm
  have n43 := toNat_ne 43 (k := 43) rfl k43
  have k44 : ((44 : UInt8) == a) = false := by rw [beq_eq_false_iff_ne]; exact fun e => h44 e.symm
  have n44 := toNat_ne 44 (k := 44) rfl k44
  have k45 : ((45 : UInt8) == a) = false := by rw [beq_eq_false_iff_ne]; exact fun e => h45 e.symm
  have n45 := toNat_ne 45 (k := 45) rfl k45
  have k47 : ((47 : UInt8) == a) = false := by rw [beq_eq_false_iff_ne]; exact fun e => h47 e.symm
  have n47 := toNat_ne 47 (k := 47) rfl k47
  have k59 : ((59 : UInt8) == a) = false := by rw [beq_eq_false_iff_ne]; exact fun e => h59 e.symm
  have n59 := toNat_ne 59 (k := 59) rfl k59
  have k60 : ((60 : UInt8) == a) = false := by rw [beq_eq_false_iff_ne]; exact fun e => h60 e.symm
  have n60 := toNat_ne 60 (k := 60) rfl k60
  have k61 : ((61 : UInt8) == a) = false := by rw [beq_eq_false_iff_ne]; exact fun e => h61 e.symm
  have n61 := toNat_ne 61 (k := 61) rfl k61
  have k62 : ((62 : UInt8) == a) = false := by rw [beq_eq_false_iff_ne]; exact fun e => h62 e.symm
  have n62 := toNat_ne 62 (k := 62) rfl k62
  have k91 : ((91 : UInt8) == a) = false := by rw [beq_eq_false_iff_ne]; exact fun e => h91 e.symm
  have n91 := toNat_ne 91 (k := 91) rfl k91
  have k93 : ((93 : UInt8) == a) = false := by rw [beq_eq_false_iff_ne]; exact fun e => h93 e.symm
  have n93 := toNat_ne 93 (k := 93) rfl k93
  have k94 : ((94 : UInt8) == a) = false := by rw [beq_eq_false_iff_ne]; exact fun e => h94 e.symm
  have n94 := toNat_ne 94 (k := 94) rfl k94
  have k123 : ((123 : UInt8) == a) = false := by rw [beq_eq_false_iff_ne]; exact fun e => h123 e.symm
  have n123 := toNat_ne 123 (k := 123) rfl k123
  have k124 : ((124 : UInt8) == a) = false := by rw [beq_eq_false_iff_ne]; exact fun e => h124 e.symm
  have n124 := toNat_ne 124 (k := 124) rfl k124
  have k125 : ((125 : UInt8) == a) = false := by rw [beq_eq_false_iff_ne]; exact fun e => h125 e.symm
  have n125 := toNat_ne 125 (k := 125) rfl k125
  have k126 : ((126 : UInt8) == a) = false := by rw [beq_eq_false_iff_ne]; exact fun e => h126 e.symm
  have n126 := toNat_ne 126 (k := 126) rfl k126
  have e : signAB a.toNat 0 = 0 := by
    unfold signAB
    simp [n33, n37, n38, n40, n41, n42, n43, n44, n45, n47, n59, n60, n61, n62, n91, n93, n94, n123, n124, n125, n126]
  rw [e]
  simp [signF, signsL, preB_one1, preB_one2, k33, k37, k38, k40, k41, k42, k43, k44, k45, k47, k59, k60, k61, k62, k91, k93, k94, k123, k124, k125, k126]
theorem signF_any (l : List UInt8) : signF l = if signN l = 0 then none else some (l.take (signN l)) := by
  match l with
  | [] => rfl
  | [a] => exact signF_one a
  | a :: b :: r => exact signF_two a b r
end Go.Proofs.YtkpgkobhnldhpaaDoor
