/-
  slices.SortStableFunc beyond one block, the plain side: rows put together of two in order, by SymMerge; rows turned about; rows in order are told by what they hold. (Words of lists alone: nothing of a program.)
-/
import Init
namespace Go.Proofs.YtbfdjjkphmchgaaDoor.Sym
set_option linter.unusedVariables false
set_option linter.unusedSectionVars false
variable {α : Type} {LE : α → α → Prop}

/-- In order. -/
def Ord (LE : α → α → Prop) (l : List α) : Prop := l.Pairwise LE
theorem Ord.append {l r : List α} : Ord LE (l ++ r) ↔ Ord LE l ∧ Ord LE r ∧ ∀ x ∈ l, ∀ y ∈ r, LE x y := List.pairwise_append
theorem Ord.nil : Ord LE ([] : List α) := List.Pairwise.nil
theorem Ord.one (x : α) : Ord LE [x] := List.pairwise_singleton _ _

/-- One element ahead of a row, put where it belongs. -/
theorem one_left {x : α} {B1 B2 : List α} (h : Ord LE (B1 ++ B2)) (h1 : ∀ b ∈ B1, LE b x) (h2 : ∀ b ∈ B2, LE x b) : Ord LE (B1 ++ x :: B2) ∧ (B1 ++ x :: B2).Perm ([x] ++ (B1 ++ B2)) := by
  obtain ⟨a1, a2, a3⟩ := Ord.append.1 h
  refine ⟨Ord.append.2 ⟨a1, List.pairwise_cons.2 ⟨h2, a2⟩, ?_⟩, List.perm_middle⟩
  intro p hp q hq
  rcases List.mem_cons.1 hq with rfl | hq
  · exact h1 p hp
  · exact a3 p hp q hq
/-- One element behind a row. -/
theorem one_right {y : α} {A1 A2 : List α} (h : Ord LE (A1 ++ A2)) (h1 : ∀ b ∈ A1, LE b y) (h2 : ∀ b ∈ A2, LE y b) : Ord LE (A1 ++ y :: A2) ∧ (A1 ++ y :: A2).Perm ((A1 ++ A2) ++ [y]) :=
  ⟨(one_left h h1 h2).1, (one_left h h1 h2).2.trans List.perm_append_comm⟩

theorem le_last (tr : ∀ x y z, LE x y → LE y z → LE x z) {l : List α} {z : α} (h : Ord LE (l ++ [z])) : ∀ x ∈ l ++ [z], x = z ∨ LE x z := by
  intro x hx
  rcases List.mem_append.1 hx with hx | hx
  · exact Or.inr ((Ord.append.1 h).2.2 x hx z (by simp))
  · exact Or.inl (List.mem_singleton.1 hx)
theorem head_le {l : List α} {z : α} (h : Ord LE (z :: l)) : ∀ x ∈ z :: l, x = z ∨ LE z x := by
  intro x hx
  rcases List.mem_cons.1 hx with hx | hx
  · exact Or.inl hx
  · exact Or.inr ((List.pairwise_cons.1 h).1 x hx)

/-- What a search by halves leaves is enough: one place on either side. -/
theorem all_left (tr : ∀ x y z, LE x y → LE y z → LE x z) {B : List α} {x : α} (hB : Ord LE B) (h : ∀ B' z, B = B' ++ [z] → LE z x) : ∀ b ∈ B, LE b x := by
  intro b hb
  obtain ⟨B', z, rfl⟩ : ∃ B' z, B = B' ++ [z] := ⟨B.dropLast, B.getLast (List.ne_nil_of_mem hb), (List.dropLast_concat_getLast _).symm⟩
  rcases le_last tr hB b hb with rfl | h'
  · exact h B' b rfl
  · exact tr _ _ _ h' (h B' z rfl)
theorem all_right (tr : ∀ x y z, LE x y → LE y z → LE x z) {B : List α} {x : α} (hB : Ord LE B) (h : ∀ z B', B = z :: B' → LE x z) : ∀ b ∈ B, LE x b := by
  intro b hb
  cases B with
  | nil => cases hb
  | cons z B' =>
    rcases head_le hB b hb with rfl | h'
    · exact h b B' rfl
    · exact tr _ _ _ (h z B' rfl) h'
/-- An element carried up place by place: swaps of neighbours from its place on. -/
def carried (x : α) (B : List α) (i : Nat) : List α := B.take i ++ x :: B.drop i
theorem carried_zero (x : α) (B : List α) : carried x B 0 = x :: B := by simp [carried]
theorem carried_at {x y : α} {B : List α} {i : Nat} (h : B[i]? = some y) : (carried x B i)[i]? = some x ∧ (carried x B i)[i + 1]? = some y := by
  obtain ⟨hi, rfl⟩ := List.getElem?_eq_some_iff.1 h
  have hl : (B.take i).length = i := by rw [List.length_take]; omega
  constructor
  · rw [carried, List.getElem?_append_right (by omega), hl, Nat.sub_self]; rfl
  · rw [carried, List.getElem?_append_right (by omega), hl, show i + 1 - i = 1 by omega, List.getElem?_cons_succ, List.getElem?_drop]; simp
theorem carried_succ {x y : α} {B : List α} {i : Nat} (h : B[i]? = some y) : carried x B (i + 1) = ((carried x B i).set i y).set (i + 1) x := by
  obtain ⟨hi, rfl⟩ := List.getElem?_eq_some_iff.1 h
  have hl : (B.take i).length = i := by rw [List.length_take]; omega
  rw [carried, carried, List.set_append_right _ _ (by omega), hl, Nat.sub_self, List.set_cons_zero, List.set_append_right _ _ (by omega), hl, show i + 1 - i = 1 by omega, List.set_cons_succ, List.drop_eq_getElem_cons hi, List.set_cons_zero, List.take_succ_eq_append_getElem hi, List.append_assoc]
  rfl

/-- SymMerge's cut: what is left of it stands nowhere above what is right of it. -/
theorem halves (tr : ∀ x y z, LE x y → LE y z → LE x z) {A1 A2 B1 B2 : List α} (hA : Ord LE (A1 ++ A2)) (hB : Ord LE (B1 ++ B2))
    (h1 : ∀ B' z x A', B1 = B' ++ [z] → A2 = x :: A' → LE z x) (h2 : ∀ A' z x B', A1 = A' ++ [z] → B2 = x :: B' → LE z x) :
    ∀ p ∈ A1 ++ B1, ∀ q ∈ A2 ++ B2, LE p q := by
  obtain ⟨a1, a2, a3⟩ := Ord.append.1 hA
  obtain ⟨b1, b2, b3⟩ := Ord.append.1 hB
  have cross : ∀ {L R : List α}, Ord LE L → Ord LE R → (∀ L' z x R', L = L' ++ [z] → R = x :: R' → LE z x) → ∀ p ∈ L, ∀ q ∈ R, LE p q := by
    intro L R hL hR h p hp q hq
    obtain ⟨L', z, rfl⟩ : ∃ L' z, L = L' ++ [z] := ⟨L.dropLast, L.getLast (List.ne_nil_of_mem hp), (List.dropLast_concat_getLast _).symm⟩
    obtain ⟨x, R', rfl⟩ : ∃ x R', R = x :: R' := by
      cases R with
      | nil => cases hq
      | cons x R' => exact ⟨x, R', rfl⟩
    have hz := h L' z x R' rfl rfl
    have hpx : LE p x := by
      rcases le_last tr hL p hp with rfl | hp'
      · exact hz
      · exact tr _ _ _ hp' hz
    rcases head_le hR q hq with rfl | hq'
    · exact hpx
    · exact tr _ _ _ hpx hq'
  intro p hp q hq
  rcases List.mem_append.1 hp with hp | hp <;> rcases List.mem_append.1 hq with hq | hq
  · exact a3 p hp q hq
  · exact cross a1 b2 h2 p hp q hq
  · exact cross b1 a2 h1 p hp q hq
  · exact b3 p hp q hq

/-- SymMerge's round: the two halves in order make the whole. -/
theorem round (tr : ∀ x y z, LE x y → LE y z → LE x z) {A1 A2 B1 B2 C1 C2 : List α} (hA : Ord LE (A1 ++ A2)) (hB : Ord LE (B1 ++ B2))
    (h1 : ∀ B' z x A', B1 = B' ++ [z] → A2 = x :: A' → LE z x) (h2 : ∀ A' z x B', A1 = A' ++ [z] → B2 = x :: B' → LE z x)
    (p1 : C1.Perm (A1 ++ B1)) (p2 : C2.Perm (A2 ++ B2)) (o1 : Ord LE C1) (o2 : Ord LE C2) : Ord LE (C1 ++ C2) ∧ (C1 ++ C2).Perm ((A1 ++ A2) ++ (B1 ++ B2)) := by
  refine ⟨Ord.append.2 ⟨o1, o2, fun p hp q hq => halves tr hA hB h1 h2 p (p1.mem_iff.1 hp) q (p2.mem_iff.1 hq)⟩, ?_⟩
  refine (p1.append p2).trans ?_
  rw [List.append_assoc, List.append_assoc]
  refine List.Perm.append_left A1 ?_
  rw [← List.append_assoc, ← List.append_assoc]
  exact List.Perm.append_right B2 List.perm_append_comm

/-- Rows turned about (rotateCmpFunc): what stands between the turns: U of i places ahead of m, V of j behind; what is asked in the end: V U. The first i > j, the second i < j; at i = j one swap ends it. -/
theorem turn_more {U : List α} {j : Nat} (h : j ≤ U.length) : ∃ U1 U2, U = U1 ++ U2 ∧ U1.length = j ∧ U2.length = U.length - j :=
  ⟨U.take j, U.drop j, (List.take_append_drop _ _).symm, by rw [List.length_take]; omega, by rw [List.length_drop]⟩
theorem turn_less {V : List α} {i : Nat} (h : i ≤ V.length) : ∃ V1 V2, V = V1 ++ V2 ∧ V2.length = i ∧ V1.length = V.length - i :=
  ⟨V.take (V.length - i), V.drop (V.length - i), (List.take_append_drop _ _).symm, by rw [List.length_drop]; omega, by rw [List.length_take]; omega⟩
/-- The relation of its loop: row = X ++ U ++ V ++ Y, and turning U and V about gives what is asked. -/
def Turns (T : List α) (lo m : Nat) (d : List α) (i j : Nat) : Prop := ∃ X U V Y, d = X ++ U ++ V ++ Y ∧ U.length = i ∧ V.length = j ∧ X.length + i = m ∧ lo ≤ X.length ∧ T = X ++ V ++ U ++ Y
theorem Turns.more {T d : List α} {lo m i j : Nat} (h : Turns T lo m d i j) (hij : j < i) (hj : 0 < j) :
    ∃ X P M Q Y, d = X ++ P ++ M ++ Q ++ Y ∧ P.length = j ∧ Q.length = j ∧ X.length + i = m ∧ X.length + P.length + M.length = m ∧ Turns T lo m (X ++ Q ++ M ++ P ++ Y) (i - j) j := by
  obtain ⟨X, U, V, Y, rfl, hU, hV, hm, hl, rfl⟩ := h
  obtain ⟨U1, U2, rfl, h1, h2⟩ := turn_more (U := U) (j := j) (by omega)
  refine ⟨X, U1, U2, V, Y, by simp, h1, hV, hm, by rw [h1, h2]; omega, X ++ V, U2, U1, Y, by simp, by omega, h1, by rw [List.length_append]; omega, by rw [List.length_append]; omega, by simp⟩
theorem Turns.less {T d : List α} {lo m i j : Nat} (h : Turns T lo m d i j) (hij : i < j) :
    ∃ X P M Q Y, d = X ++ P ++ M ++ Q ++ Y ∧ P.length = i ∧ Q.length = i ∧ X.length + i = m ∧ X.length + P.length + M.length = m + (j - i) ∧ Turns T lo m (X ++ Q ++ M ++ P ++ Y) i (j - i) := by
  obtain ⟨X, U, V, Y, rfl, hU, hV, hm, hl, rfl⟩ := h
  obtain ⟨V1, V2, rfl, h1, h2⟩ := turn_less (V := V) (i := i) (by omega)
  refine ⟨X, U, V1, V2, Y, by simp, hU, h1, hm, by rw [hU, h2]; omega, X, V2, V1, U ++ Y, by simp, h1, by omega, hm, hl, by simp⟩
theorem Turns.last {T d : List α} {lo m i : Nat} (h : Turns T lo m d i i) :
    ∃ X P Q Y, d = X ++ P ++ Q ++ Y ∧ P.length = i ∧ Q.length = i ∧ X.length + i = m ∧ T = X ++ Q ++ P ++ Y := by
  obtain ⟨X, U, V, Y, rfl, hU, hV, hm, hl, rfl⟩ := h
  exact ⟨X, U, V, Y, rfl, hU, hV, hm, rfl⟩
/-- Two stretches as long as each other, swapped place by place: behind i rounds. -/
def swapped (P Q : List α) (i : Nat) : List α × List α := (Q.take i ++ P.drop i, P.take i ++ Q.drop i)
theorem swapped_zero (P Q : List α) : swapped P Q 0 = (P, Q) := by simp [swapped]
theorem swapped_all {P Q : List α} (h : P.length = Q.length) : swapped P Q P.length = (Q, P) := by
  simp only [swapped]
  rw [List.take_of_length_le (by omega), List.drop_of_length_le (Nat.le_refl _), List.take_of_length_le (Nat.le_refl _), List.drop_of_length_le (by omega)]
  simp
theorem swapped_succ {P Q : List α} {i : Nat} {p q : α} (hp : P[i]? = some p) (hq : Q[i]? = some q) :
    swapped P Q (i + 1) = ((swapped P Q i).1.set i q, (swapped P Q i).2.set i p) := by
  obtain ⟨hi, rfl⟩ := List.getElem?_eq_some_iff.1 hp
  obtain ⟨hj, rfl⟩ := List.getElem?_eq_some_iff.1 hq
  have key : ∀ (S T : List α) (hS : i < S.length) (hT : i < T.length), T.take (i + 1) ++ S.drop (i + 1) = (T.take i ++ S.drop i).set i T[i] := by
    intro S T hS hT
    rw [List.set_append_right _ _ (by rw [List.length_take]; omega), List.length_take, Nat.min_eq_left (by omega), Nat.sub_self, List.drop_eq_getElem_cons hS, List.set_cons_zero, List.take_succ_eq_append_getElem hT, List.append_assoc]
    rfl
  simp only [swapped]
  rw [key P Q hi hj, key Q P hj hi]

/-- Rows in order that hold the same are the same, where none but itself stands with another either way. -/
theorem told (anti : ∀ x y, LE x y → LE y x → x = y) : ∀ {l r : List α}, Ord LE l → Ord LE r → l.Perm r → l = r
  | [], r, _, _, h => (List.nil_perm.1 h).symm ▸ rfl
  | x :: l, [], _, _, h => absurd h.length_eq (by simp)
  | x :: l, y :: r, hl, hr, h => by
    have hxy : x = y := by
      have m1 : x ∈ y :: r := h.mem_iff.1 (by simp)
      have m2 : y ∈ x :: l := h.mem_iff.2 (by simp)
      rcases head_le hr x m1 with e | h1
      · exact e
      · rcases head_le hl y m2 with e | h2
        · exact e.symm
        · exact anti _ _ h2 h1
    subst hxy
    rw [told anti (List.pairwise_cons.1 hl).2 (List.pairwise_cons.1 hr).2 (List.Perm.cons_inv h)]
end Go.Proofs.YtbfdjjkphmchgaaDoor.Sym
