/-
  Points of the plane by 10007, their next ones, chains; rows of bytes. No program is named here.
-/
namespace Go.Proofs.Ythlngicfcmiedaa

/-- All are bytes. -/
def Byt (l : List Int) : Prop := ∀ x ∈ l, 0 ≤ x ∧ x ≤ 255
theorem Byt.at_ {l : List Int} (h : Byt l) (k : Nat) : 0 ≤ l[k]?.getD 0 ∧ l[k]?.getD 0 ≤ 255 := by
  rcases Nat.lt_or_ge k l.length with hk | hk
  · rw [List.getElem?_eq_getElem hk]; exact h _ (List.getElem_mem hk)
  · rw [List.getElem?_eq_none hk]; simp
theorem Byt.append {l m : List Int} (h : Byt l) (h' : Byt m) : Byt (l ++ m) := fun x hx => by
  rcases List.mem_append.1 hx with hx | hx
  · exact h x hx
  · exact h' x hx
theorem Byt.nil : Byt [] := fun x hx => by cases hx
theorem byt_lit {l : List Int} (h : (l.all fun x => decide (0 ≤ x) && decide (x ≤ 255)) = true) : Byt l := fun x hx => by
  have := List.all_eq_true.1 h x hx
  simpa using this
theorem take_snoc {l : List Int} {k : Nat} (hk : k < l.length) : l.take (k + 1) = l.take k ++ [l[k]?.getD 0] := by
  rw [List.take_add_one, List.getElem?_eq_getElem hk]; rfl

/-- Both parts lie from 0 to 10006. -/
def InP (p : Int × Int) : Prop := (0 ≤ p.1 ∧ p.1 ≤ 10006) ∧ 0 ≤ p.2 ∧ p.2 ≤ 10006
def nextP (p : Int × Int) (c : Int) : Int × Int := ((p.1 * 3 - p.2 * 5 + (c + 1)) % 10007, (p.1 * 5 + p.2 * 3) % 10007)
def chainP (p : Int × Int) (l : List Int) : Int × Int := l.foldl nextP p
theorem nextP_in (p : Int × Int) (c : Int) : InP (nextP p c) := by
  unfold InP nextP
  simp only
  omega
theorem chainP_nil (p : Int × Int) : chainP p [] = p := rfl
theorem chainP_cons (p : Int × Int) (c : Int) (l : List Int) : chainP p (c :: l) = chainP (nextP p c) l := rfl
theorem chainP_append (p : Int × Int) (l m : List Int) : chainP p (l ++ m) = chainP (chainP p l) m := List.foldl_append
theorem chainP_snoc (p : Int × Int) (l : List Int) (c : Int) : chainP p (l ++ [c]) = nextP (chainP p l) c := by rw [chainP_append]; rfl
theorem chainP_in {p : Int × Int} (h : InP p) (l : List Int) : InP (chainP p l) := by
  induction l generalizing p with
  | nil => exact h
  | cons c l ih => exact ih (nextP_in p c)

/-! ### Apart -/
theorem nextP_byte {p : Int × Int} {x y : Int} (hx : 0 ≤ x ∧ x ≤ 255) (hy : 0 ≤ y ∧ y ≤ 255) (h : nextP p x = nextP p y) : x = y := by
  have h1 := congrArg Prod.fst h
  simp only [nextP] at h1
  omega
theorem by_34 {u k : Int} (h : u * 34 = 10007 * k) (hu : -10007 < u ∧ u < 10007) : u = 0 := by omega
theorem same_rest {a b : Int} (h : a % 10007 = b % 10007) : ∃ k, a - b = 10007 * k := ⟨a / 10007 - b / 10007, by omega⟩
theorem same_rest_of {a b k : Int} (h : a - b = 10007 * k) : a % 10007 = b % 10007 := by omega
theorem rest_same {a b c d k : Int} (h : a - b - (c - d) = 10007 * k) : (a % 10007 - b % 10007) % 10007 = (c % 10007 - d % 10007) % 10007 := by
  rw [← Int.sub_emod, ← Int.sub_emod]
  exact same_rest_of h
theorem two_rests {u v k l : Int} (h1 : u * 3 - v * 5 = 10007 * k) (h2 : u * 5 + v * 3 = 10007 * l) (hu : -10007 < u ∧ u < 10007) (hv : -10007 < v ∧ v < 10007) : u = 0 ∧ v = 0 :=
  ⟨by_34 (k := 3 * k + 5 * l) (by omega) hu, by_34 (k := 3 * l - 5 * k) (by omega) hv⟩
theorem same_pair {a b c d : Int} (h1 : a - c = 0) (h2 : b - d = 0) : a = c ∧ b = d := ⟨by omega, by omega⟩
theorem two_rests' {a b c d x k l : Int} (h1 : a * 3 - b * 5 + (x + 1) - (c * 3 - d * 5 + (x + 1)) = 10007 * k) (h2 : a * 5 + b * 3 - (c * 5 + d * 3) = 10007 * l)
    (ha : 0 ≤ a ∧ a ≤ 10006) (hb : 0 ≤ b ∧ b ≤ 10006) (hc : 0 ≤ c ∧ c ≤ 10006) (hd : 0 ≤ d ∧ d ≤ 10006) : a = c ∧ b = d := by
  have h3 : (a - c) * 3 - (b - d) * 5 = 10007 * k := by rw [← h1, Int.sub_mul, Int.sub_mul]; clear h1 h2; omega
  have h4 : (a - c) * 5 + (b - d) * 3 = 10007 * l := by rw [← h2, Int.sub_mul, Int.sub_mul]; clear h1 h2; omega
  clear h1 h2
  have hu : -10007 < a - c ∧ a - c < 10007 := by clear h3 h4; omega
  have hv : -10007 < b - d ∧ b - d < 10007 := by clear h3 h4; omega
  obtain ⟨h5, h6⟩ := two_rests h3 h4 hu hv
  exact same_pair h5 h6
theorem nextP_point {p q : Int × Int} {x : Int} (hp : InP p) (hq : InP q) (h : nextP p x = nextP q x) : p = q := by
  obtain ⟨a, b⟩ := p
  obtain ⟨c, d⟩ := q
  obtain ⟨k, hk⟩ := same_rest (congrArg Prod.fst h)
  obtain ⟨l, hl⟩ := same_rest (congrArg Prod.snd h)
  obtain ⟨rfl, rfl⟩ := two_rests' hk hl hp.1 hp.2 hq.1 hq.2
  rfl
theorem chainP_point {p q : Int × Int} (hp : InP p) (hq : InP q) (l : List Int) (h : chainP p l = chainP q l) : p = q := by
  induction l generalizing p q with
  | nil => exact h
  | cons c l ih => exact nextP_point hp hq (ih (nextP_in _ _) (nextP_in _ _) h)
/-- With one byte that is another one a chain leads elsewhere. -/
theorem chainP_set {p : Int × Int} {l : List Int} {k : Nat} {x : Int} (hk : k < l.length) (hb : Byt l) (hx : 0 ≤ x ∧ x ≤ 255) (hne : x ≠ l[k]?.getD 0) : chainP p (l.set k x) ≠ chainP p l := by
  intro h
  have e1 : l = l.take k ++ l[k]?.getD 0 :: l.drop (k + 1) := by
    have : l.drop k = l[k]?.getD 0 :: l.drop (k + 1) := by rw [List.drop_eq_getElem_cons hk, List.getElem?_eq_getElem hk]; rfl
    rw [← this, List.take_append_drop]
  have e2 : l.set k x = l.take k ++ x :: l.drop (k + 1) := by
    rw [List.set_eq_take_append_cons_drop, if_pos hk]
  rw [e2] at h
  conv at h => rhs; rw [e1]
  rw [chainP_append, chainP_append, chainP_cons, chainP_cons] at h
  have h1 := chainP_point (nextP_in _ _) (nextP_in _ _) _ h
  exact hne (nextP_byte hx (hb.at_ k) h1)

/-! ### The way apart -/
def apartP (p q : Int × Int) : Int × Int := ((p.1 - q.1) % 10007, (p.2 - q.2) % 10007)
theorem apartP_next {p q p' q' : Int × Int} (h : apartP p q = apartP p' q') (x y : Int) : apartP (nextP p x) (nextP q x) = apartP (nextP p' y) (nextP q' y) := by
  obtain ⟨k, hk⟩ := same_rest (congrArg Prod.fst h)
  obtain ⟨l, hl⟩ := same_rest (congrArg Prod.snd h)
  clear h
  simp only [apartP, nextP]
  refine Prod.ext ?_ ?_
  · simp only
    exact rest_same (k := 3 * k - 5 * l) (by omega)
  · simp only
    exact rest_same (k := 5 * k + 3 * l) (by omega)
theorem apartP_chain (l : List Int) : ∀ (m : List Int) {p q p' q' : Int × Int}, l.length = m.length → apartP p q = apartP p' q' → apartP (chainP p l) (chainP q l) = apartP (chainP p' m) (chainP q' m) := by
  induction l with
  | nil =>
    intro m p q p' q' hl h
    cases m with
    | nil => exact h
    | cons c m => simp at hl
  | cons c l ih =>
    intro m p q p' q' hl h
    cases m with
    | nil => simp at hl
    | cons d m => exact ih m (by simpa using hl) (apartP_next h c d)

/-! ### A point's four bytes -/
def bytesP (p : Int × Int) : List Int := [p.1 / 256, p.1 % 256, p.2 / 256, p.2 % 256]

end Go.Proofs.Ythlngicfcmiedaa
