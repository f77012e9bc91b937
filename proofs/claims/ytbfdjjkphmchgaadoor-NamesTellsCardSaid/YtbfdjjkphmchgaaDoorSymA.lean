/-
  The exchange (Sort.swp) on rows that are told piece by piece.
-/
import Derived.Test.YtbfdjjkphmchgaaDoorSymP
import Derived.Sort.LotA
namespace Go.Proofs.YtbfdjjkphmchgaaDoor.Sym
open Go.Sort
set_option linter.unusedVariables false
set_option linter.unusedSectionVars false
set_option linter.unnecessarySimpa false
variable {α : Type} [Inhabited α]

theorem swp_toList (d : Array α) (i j : Nat) : (swp d i j).toList = (d.toList.set i d[j]!).set j d[i]! := by
  simp [swp]
theorem bang_of {d : Array α} {i : Nat} {x : α} (h : d.toList[i]? = some x) : d[i]! = x := by
  rw [Array.getElem?_toList] at h
  rw [getElem!_def, h]
theorem set_mid {X S Z : List α} {i : Nat} (hi : i < S.length) (v : α) : (X ++ (S ++ Z)).set (X.length + i) v = X ++ (S.set i v ++ Z) := by
  rw [List.set_append_right _ _ (by omega), show X.length + i - X.length = i by omega, List.set_append_left _ _ hi]
theorem get_mid {X S Z : List α} {i : Nat} (hi : i < S.length) : (X ++ (S ++ Z))[X.length + i]? = S[i]? := by
  rw [List.getElem?_append_right (by omega), show X.length + i - X.length = i by omega, List.getElem?_append_left hi]

/-- A round of swapRange. -/
theorem swap_round {d : Array α} {X P M Q Y : List α} {i : Nat} (h : d.toList = X ++ ((swapped P Q i).1 ++ (M ++ ((swapped P Q i).2 ++ Y)))) (hi : i < P.length) (hl : P.length = Q.length) :
    (swp d (X.length + i) (X.length + P.length + M.length + i)).toList = X ++ ((swapped P Q (i + 1)).1 ++ (M ++ ((swapped P Q (i + 1)).2 ++ Y))) := by
  have l1 : (swapped P Q i).1.length = P.length := by simp only [swapped]; rw [List.length_append, List.length_take, List.length_drop]; omega
  have l2 : (swapped P Q i).2.length = P.length := by simp only [swapped]; rw [List.length_append, List.length_take, List.length_drop]; omega
  have hp : P[i]? = some P[i] := List.getElem?_eq_getElem hi
  have hq : Q[i]? = some (Q[i]'(by omega)) := List.getElem?_eq_getElem (by omega)
  have g1 : d[X.length + i]! = P[i] := bang_of (by
    rw [h, get_mid (by omega)]
    simp only [swapped]
    rw [List.getElem?_append_right (by rw [List.length_take]; omega), List.length_take, Nat.min_eq_left (by omega), Nat.sub_self, List.getElem?_drop]
    simpa using hp)
  have e : X ++ ((swapped P Q i).1 ++ (M ++ ((swapped P Q i).2 ++ Y))) = (X ++ ((swapped P Q i).1 ++ M)) ++ ((swapped P Q i).2 ++ Y) := by simp
  have hlen : X.length + P.length + M.length + i = (X ++ ((swapped P Q i).1 ++ M)).length + i := by simp only [List.length_append, l1]; omega
  have g2 : d[X.length + P.length + M.length + i]! = Q[i]'(by omega) := bang_of (by
    rw [h, e, hlen, get_mid (by omega)]
    simp only [swapped]
    rw [List.getElem?_append_right (by rw [List.length_take]; omega), List.length_take, Nat.min_eq_left (by omega), Nat.sub_self, List.getElem?_drop]
    simpa using hq)
  rw [swp_toList, g1, g2, h, set_mid (by omega), swapped_succ hp hq]
  have e2 : X ++ ((swapped P Q i).1.set i (Q[i]'(by omega)) ++ (M ++ ((swapped P Q i).2 ++ Y))) = (X ++ ((swapped P Q i).1.set i (Q[i]'(by omega)) ++ M)) ++ ((swapped P Q i).2 ++ Y) := by simp
  have hlen2 : X.length + P.length + M.length + i = (X ++ ((swapped P Q i).1.set i (Q[i]'(by omega)) ++ M)).length + i := by simp only [List.length_append, List.length_set, l1]; omega
  rw [e2, hlen2, set_mid (by omega)]
  simp

/-- An element carried up by one. -/
theorem carry_up {d : Array α} {X B Y : List α} {x : α} {i : Nat} (h : d.toList = X ++ (carried x B i ++ Y)) (hi : i < B.length) :
    (swp d (X.length + i) (X.length + (i + 1))).toList = X ++ (carried x B (i + 1) ++ Y) := by
  obtain ⟨k1, k2⟩ := carried_at (x := x) (List.getElem?_eq_getElem hi)
  have hl : (carried x B i).length = B.length + 1 := by simp only [carried, List.length_append, List.length_take, List.length_cons, List.length_drop]; omega
  rw [swp_toList, bang_of (x := B[i]) (by rw [h, get_mid (by omega)]; exact k2), bang_of (x := x) (by rw [h, get_mid (by omega)]; exact k1), h, set_mid (by omega), set_mid (by rw [List.length_set]; omega), carried_succ (List.getElem?_eq_getElem hi)]
/-- .. down by one. -/
theorem carry_down {d : Array α} {X B Y : List α} {x : α} {i : Nat} (h : d.toList = X ++ (carried x B (i + 1) ++ Y)) (hi : i < B.length) :
    (swp d (X.length + (i + 1)) (X.length + i)).toList = X ++ (carried x B i ++ Y) := by
  have hl : (carried x B i).length = B.length + 1 := by simp only [carried, List.length_append, List.length_take, List.length_cons, List.length_drop]; omega
  obtain ⟨k1, k2⟩ := carried_at (x := x) (List.getElem?_eq_getElem hi)
  have hs := carried_succ (x := x) (List.getElem?_eq_getElem hi)
  have hl' : (carried x B (i + 1)).length = B.length + 1 := by rw [hs, List.length_set, List.length_set, hl]
  have a1 : (carried x B (i + 1))[i]? = some B[i] := by rw [hs, List.getElem?_set_ne (by omega), List.getElem?_set_self (by omega)]
  have a2 : (carried x B (i + 1))[i + 1]? = some x := by rw [hs, List.getElem?_set_self (by rw [List.length_set]; omega)]
  rw [swp_toList, bang_of (x := B[i]) (by rw [h, get_mid (by omega)]; exact a1), bang_of (x := x) (by rw [h, get_mid (by omega)]; exact a2), h, set_mid (by omega), set_mid (by rw [List.length_set]; omega)]
  congr 2
  apply List.ext_getElem?
  intro k
  rw [hs]
  by_cases h1 : k = i
  · subst h1
    rw [List.getElem?_set_self (by simp only [List.length_set]; omega)]
    exact k1.symm
  · by_cases h2 : k = i + 1
    · subst h2
      rw [List.getElem?_set_ne (by omega), List.getElem?_set_self (by simp only [List.length_set]; omega)]
      exact k2.symm
    · simp only [List.getElem?_set_ne (Ne.symm h1), List.getElem?_set_ne (Ne.symm h2)]
end Go.Proofs.YtbfdjjkphmchgaaDoor.Sym
