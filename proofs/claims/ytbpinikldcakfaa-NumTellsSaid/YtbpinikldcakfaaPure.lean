/-
  Numbers as bytes, as plain functions on lists; no program is named here.
-/
namespace Go.Proofs.Ytbpinikldcakfaa

/-- One number is a number of the document: 0 to 2^30. -/
def isNum (n : Int) : Bool := decide (0 ≤ n) && decide (n ≤ 1073741824)
def allNum (l : List Int) : Bool := l.all isNum
theorem isNum_iff {n : Int} : isNum n = true ↔ 0 ≤ n ∧ n ≤ 1073741824 := by simp [isNum]
theorem allNum_nil : allNum [] = true := rfl
theorem allNum_snoc (l : List Int) (x : Int) : allNum (l ++ [x]) = (allNum l && isNum x) := by simp [allNum]
theorem allNum_no {l : List Int} {k : Nat} (hk : k < l.length) (h : isNum (l[k]?.getD 0) = false) : allNum l = false := by
  rw [List.getElem?_eq_getElem hk] at h
  simp only [allNum, List.all_eq_false]
  exact ⟨l[k], List.getElem_mem hk, by simpa using h⟩
theorem allNum_at {l : List Int} (h : allNum l = true) {k : Nat} (hk : k < l.length) : 0 ≤ l[k]?.getD 0 ∧ l[k]?.getD 0 ≤ 1073741824 := by
  rw [List.getElem?_eq_getElem hk]
  exact isNum_iff.1 (List.all_eq_true.1 h _ (List.getElem_mem hk))
theorem take_snoc {l : List Int} {k : Nat} (hk : k < l.length) : l.take (k + 1) = l.take k ++ [l[k]?.getD 0] := by
  rw [List.take_add_one, List.getElem?_eq_getElem hk]; rfl
theorem drop_cons {l : List Int} {k : Nat} (hk : k < l.length) : l.drop k = l[k]?.getD 0 :: l.drop (k + 1) := by
  rw [List.drop_eq_getElem_cons hk, List.getElem?_eq_getElem hk]; rfl

/-- All are bytes. -/
def Byt (l : List Int) : Prop := ∀ x ∈ l, 0 ≤ x ∧ x ≤ 255
theorem Byt.at_ {l : List Int} (h : Byt l) (k : Nat) : 0 ≤ l[k]?.getD 0 ∧ l[k]?.getD 0 ≤ 255 := by
  rcases Nat.lt_or_ge k l.length with hk | hk
  · rw [List.getElem?_eq_getElem hk]; exact h _ (List.getElem_mem hk)
  · rw [List.getElem?_eq_none hk]; simp
theorem Byt.drop {l : List Int} (h : Byt l) (k : Nat) : Byt (l.drop k) := fun x hx => h x (List.mem_of_mem_drop hx)
theorem Byt.append {l m : List Int} (h : Byt l) (h' : Byt m) : Byt (l ++ m) := fun x hx => by
  rcases List.mem_append.1 hx with hx | hx
  · exact h x hx
  · exact h' x hx

/-- The digits of short bytes, taken from the first on: so many more may come; the sum of those that came, how many came. The answer: the number, how many bytes, the error. -/
def takeGo : Nat → List Int → Int → Nat → Int × Nat × Int
  | 0, _, _, _ => (0, 0, 11)
  | _ + 1, [], _, _ => (0, 0, 10)
  | f + 1, d :: r, s, u => if 128 ≤ d then takeGo f r (s * 128 + (d - 128)) (u + 1) else if 1073741824 < s * 128 + d then (0, 0, 11) else (s * 128 + d, u + 1, 0)
def takeP (b : List Int) : Int × Nat × Int := if b[0]? = some 128 then (0, 0, 11) else takeGo 5 b 0 0

theorem takeGo_zero (b : List Int) (s : Int) (u : Nat) : takeGo 0 b s u = (0, 0, 11) := rfl
theorem takeGo_nil (f : Nat) (s : Int) (u : Nat) : takeGo (f + 1) [] s u = (0, 0, 10) := rfl
theorem takeGo_more {f : Nat} {d : Int} {r : List Int} {s : Int} {u : Nat} (h : 128 ≤ d) : takeGo (f + 1) (d :: r) s u = takeGo f r (s * 128 + (d - 128)) (u + 1) := by
  rw [takeGo, if_pos h]
theorem takeGo_big {f : Nat} {d : Int} {r : List Int} {s : Int} {u : Nat} (h : d < 128) (hs : 1073741824 < s * 128 + d) : takeGo (f + 1) (d :: r) s u = (0, 0, 11) := by
  rw [takeGo, if_neg (by omega), if_pos hs]
theorem takeGo_end {f : Nat} {d : Int} {r : List Int} {s : Int} {u : Nat} (h : d < 128) (hs : s * 128 + d ≤ 1073741824) : takeGo (f + 1) (d :: r) s u = (s * 128 + d, u + 1, 0) := by
  rw [takeGo, if_neg (by omega), if_neg (by omega)]

/-- What comes of it: an error, and nothing; or a number, out of at least one byte. -/
theorem takeGo_fine : ∀ (f : Nat) (b : List Int) (s : Int) (u : Nat), Byt b → 0 ≤ s →
    (takeGo f b s u = (0, 0, 10) ∨ takeGo f b s u = (0, 0, 11)) ∨ ∃ n m, takeGo f b s u = (n, m, 0) ∧ 0 ≤ n ∧ n ≤ 1073741824 ∧ u < m ∧ m ≤ u + f ∧ m - u ≤ b.length := by
  intro f
  induction f with
  | zero => intro b s u _ _; exact .inl (.inr rfl)
  | succ f ih =>
    intro b s u hb hs
    cases b with
    | nil => exact .inl (.inl rfl)
    | cons d r =>
      have hd := hb d (by simp)
      by_cases h : 128 ≤ d
      · rw [takeGo_more h]
        rcases ih r (s * 128 + (d - 128)) (u + 1) (fun x hx => hb x (by simp [hx])) (by omega) with h1 | ⟨n, m, h1, h2, h3, h4, h5, h6⟩
        · exact .inl h1
        · exact .inr ⟨n, m, h1, h2, h3, by omega, by omega, by simp; omega⟩
      · by_cases hs' : 1073741824 < s * 128 + d
        · rw [takeGo_big (by omega) hs']; exact .inl (.inr rfl)
        · rw [takeGo_end (by omega) (by omega)]
          exact .inr ⟨_, _, rfl, by omega, by omega, by omega, by omega, by simp⟩
theorem takeP_fine {b : List Int} (hb : Byt b) :
    (takeP b = (0, 0, 10) ∨ takeP b = (0, 0, 11)) ∨ ∃ n m, takeP b = (n, m, 0) ∧ 0 ≤ n ∧ n ≤ 1073741824 ∧ 0 < m ∧ m ≤ 5 ∧ m ≤ b.length := by
  unfold takeP
  split
  · exact .inl (.inr rfl)
  · rcases takeGo_fine 5 b 0 0 hb (by omega) with h | ⟨n, m, h1, h2, h3, h4, h5, h6⟩
    · exact .inl h
    · exact .inr ⟨n, m, h1, h2, h3, h4, by omega, by omega⟩

/-- What holds at the label: the bytes up to u are taken, their sum is s, and the rest comes to what all come to. -/
def AtNext (n : Nat) (l : List Int) (u : Nat) (s : Int) : Prop := l.length = n ∧ u ≤ 5 ∧ u ≤ n ∧ 0 ≤ s ∧ s < 128 ^ u ∧ takeGo (5 - u) (l.drop u) s u = takeP l
theorem takeP_head {l : List Int} (hl : 0 < l.length) (h : l[0]?.getD 0 = 128) : takeP l = (0, 0, 11) := by
  unfold takeP
  rw [if_pos (by rw [List.getElem?_eq_getElem hl] at h ⊢; rw [← h]; rfl)]
theorem AtNext.first {n : Nat} {l : List Int} (hl : l.length = n) (h : n = 0 ∨ l[0]?.getD 0 ≠ 128) : AtNext n l 0 0 := by
  refine ⟨hl, by omega, by omega, by omega, by decide, ?_⟩
  unfold takeP
  rw [if_neg ?_]
  · rfl
  · intro e
    rcases h with h | h
    · rw [List.getElem?_eq_none (by omega)] at e; cases e
    · rw [e] at h; exact h rfl
theorem AtNext.five {n : Nat} {l : List Int} {u : Nat} {s : Int} (h : AtNext n l u s) (hu : 5 ≤ u) : takeP l = (0, 0, 11) := by
  obtain ⟨_, h5, _, _, _, h⟩ := h
  obtain rfl : u = 5 := by omega
  rw [← h]; rfl
theorem AtNext.short {n : Nat} {l : List Int} {u : Nat} {s : Int} (h : AtNext n l u s) (hu : u < 5) (hn : n ≤ u) : takeP l = (0, 0, 10) := by
  obtain ⟨hl, _, _, _, _, h⟩ := h
  obtain ⟨f, hf⟩ : ∃ f, 5 - u = f + 1 := ⟨4 - u, by omega⟩
  rw [← h, hf, List.drop_of_length_le (by omega)]; rfl
theorem AtNext.go {n : Nat} {l : List Int} {u : Nat} {s : Int} (h : AtNext n l u s) (hu : u < 5) (hn : u < n) :
    takeP l = takeGo (4 - u + 1) (l[u]?.getD 0 :: l.drop (u + 1)) s u := by
  obtain ⟨hl, _, _, _, _, h⟩ := h
  rw [← h, drop_cons (by omega), show 5 - u = 4 - u + 1 by omega]
theorem AtNext.more {n : Nat} {l : List Int} {u : Nat} {s : Int} (h : AtNext n l u s) (hu : u < 5) (hn : u < n) (hd : 128 ≤ l[u]?.getD 0) (hd2 : l[u]?.getD 0 ≤ 255) : AtNext n l (u + 1) (s * 128 + l[u]?.getD 0 % 128) := by
  have hg := h.go hu hn
  have h' := h
  obtain ⟨hl, h5, _, hs, hs2, _⟩ := h'
  rw [takeGo_more hd] at hg
  have e : l[u]?.getD 0 % 128 = l[u]?.getD 0 - 128 := by omega
  exact ⟨hl, by omega, by omega, by omega, by rw [Int.pow_succ]; omega, by rw [hg, e, show 5 - (u + 1) = 4 - u by omega]⟩
theorem AtNext.bound {n : Nat} {l : List Int} {u : Nat} {s : Int} (h : AtNext n l u s) (hu : u < 5) : s < 268435456 := by
  obtain ⟨_, _, _, _, hs, _⟩ := h
  rcases (by omega : u = 0 ∨ u = 1 ∨ u = 2 ∨ u = 3 ∨ u = 4) with rfl | rfl | rfl | rfl | rfl <;> omega
theorem AtNext.big {n : Nat} {l : List Int} {u : Nat} {s : Int} (h : AtNext n l u s) (hu : u < 5) (hn : u < n) (hd : l[u]?.getD 0 < 128) (hs : 1073741824 < s * 128 + l[u]?.getD 0) : takeP l = (0, 0, 11) := by
  rw [h.go hu hn, takeGo_big hd hs]
theorem AtNext.done {n : Nat} {l : List Int} {u : Nat} {s : Int} (h : AtNext n l u s) (hu : u < 5) (hn : u < n) (hd : l[u]?.getD 0 < 128) (hs : s * 128 + l[u]?.getD 0 ≤ 1073741824) : takeP l = (s * 128 + l[u]?.getD 0, u + 1, 0) := by
  rw [h.go hu hn, takeGo_end hd hs]

/-! ### Long bytes -/
def sumL (l : List Int) : Int := l.foldl (fun s d => s * 256 + d) 0
theorem sumL_snoc (l : List Int) (d : Int) : sumL (l ++ [d]) = sumL l * 256 + d := by simp [sumL]
theorem sumL_next {l : List Int} {k : Nat} (hk : k < l.length) : sumL (l.take (k + 1)) = sumL (l.take k) * 256 + l[k]?.getD 0 := by rw [take_snoc hk, sumL_snoc]
theorem sumL_bound {l : List Int} (hb : Byt l) : ∀ k, k ≤ l.length → 0 ≤ sumL (l.take k) ∧ sumL (l.take k) < 256 ^ k := by
  intro k
  induction k with
  | zero => intro _; simp [sumL]
  | succ k ih =>
    intro hk
    have h := ih (by omega)
    have hx := hb.at_ k
    rw [sumL_next (by omega), Int.pow_succ]
    omega
theorem sumL_small {l : List Int} (hb : Byt l) {k : Nat} (hk : k < 5) (hl : k ≤ l.length) : 0 ≤ sumL (l.take k) ∧ sumL (l.take k) < 4294967296 := by
  have h := sumL_bound hb k hl
  rcases (by omega : k = 0 ∨ k = 1 ∨ k = 2 ∨ k = 3 ∨ k = 4) with rfl | rfl | rfl | rfl | rfl <;> omega
/-- TakeLong's answer: the number, what stands behind, the error. -/
def longP (l : List Int) : Int × List Int × Int :=
  if l.length < 5 then (0, [], 10) else if 1073741824 < sumL (l.take 5) then (0, [], 11) else (sumL (l.take 5), l.drop 5, 0)
theorem longP_short {l : List Int} (h : l.length < 5) : longP l = (0, [], 10) := by rw [longP, if_pos h]
theorem longP_big {l : List Int} (h : 5 ≤ l.length) (hs : 1073741824 < sumL (l.take 5)) : longP l = (0, [], 11) := by rw [longP, if_neg (by omega), if_pos hs]
theorem longP_ok {l : List Int} (h : 5 ≤ l.length) (hs : sumL (l.take 5) ≤ 1073741824) : longP l = (sumL (l.take 5), l.drop 5, 0) := by rw [longP, if_neg (by omega), if_neg (by omega)]

end Go.Proofs.Ytbpinikldcakfaa
