/-
  What is put is taken, what is taken is put: plain facts on lists; no program is named here.
-/
import Derived.Lib.ItoaNum
import Derived.Test.YtbpinikldcakfaaPureC
namespace Go.Proofs.Ytbpinikldcakfaa
open Go

theorem bl_gt {x k : Nat} (h : 2 ^ k ≤ x) (hx : x < 2 ^ 64) : k < Lib.bitLen x := by
  rcases Nat.lt_or_ge k (Lib.bitLen x) with h1 | h1
  · exact h1
  · have h0 : x ≠ 0 := by
      intro e
      have := Nat.two_pow_pos k
      omega
    have h2 := (Lib.bitLenAux_bounds 64 x hx h0).2.2
    have h3 : 2 ^ Lib.bitLen x ≤ 2 ^ k := Nat.pow_le_pow_right (by omega) h1
    have h4 : x < 2 ^ Lib.bitLen x := h2
    omega
theorem cnt_of {n : Int} (k : Nat) (hk : 1 ≤ k) (h1 : k = 1 ∨ 2 ^ (7 * (k - 1)) ≤ n.toNat) (h2 : n.toNat < 2 ^ (7 * k)) (h3 : n ≤ 1073741824) (hk5 : k ≤ 5) : cnt n = k := by
  have hle := Lib.bitLen_le n.toNat (7 * k) (by omega) h2
  have hge : k = 1 ∨ 7 * (k - 1) < Lib.bitLen n.toNat := by
    rcases h1 with h1 | h1
    · exact .inl h1
    · exact .inr (bl_gt h1 (by omega))
  unfold cnt howMany
  omega
theorem cnt_1 {n : Int} (h : n < 128) : cnt n = 1 := cnt_of 1 (by omega) (.inl rfl) (by omega) (by omega) (by omega)
theorem cnt_2 {n : Int} (h : 128 ≤ n) (h' : n < 16384) : cnt n = 2 := cnt_of 2 (by omega) (.inr (by omega)) (by omega) (by omega) (by omega)
theorem cnt_3 {n : Int} (h : 16384 ≤ n) (h' : n < 2097152) : cnt n = 3 := cnt_of 3 (by omega) (.inr (by omega)) (by omega) (by omega) (by omega)
theorem cnt_4 {n : Int} (h : 2097152 ≤ n) (h' : n < 268435456) : cnt n = 4 := cnt_of 4 (by omega) (.inr (by omega)) (by omega) (by omega) (by omega)
theorem cnt_5 {n : Int} (h : 268435456 ≤ n) (h' : n ≤ 1073741824) : cnt n = 5 := cnt_of 5 (by omega) (.inr (by omega)) (by omega) (by omega) (by omega)

theorem short_1 {n : Int} (h0 : 0 ≤ n) (h : n < 128) : shortOf n = [n] := by
  simp [shortOf, cnt_1 h, upTo, roundAt, digit, putShort]
  omega
theorem short_2 {n : Int} (h : 128 ≤ n) (h' : n < 16384) : shortOf n = [n / 128 + 128, n % 128] := by
  simp [shortOf, cnt_2 h h', upTo, roundAt, digit, putShort, List.range_succ]
  omega
theorem short_3 {n : Int} (h : 16384 ≤ n) (h' : n < 2097152) : shortOf n = [n / 16384 + 128, n / 128 % 128 + 128, n % 128] := by
  simp [shortOf, cnt_3 h h', upTo, roundAt, digit, putShort, List.range_succ]
  omega
theorem short_4 {n : Int} (h : 2097152 ≤ n) (h' : n < 268435456) : shortOf n = [n / 2097152 + 128, n / 16384 % 128 + 128, n / 128 % 128 + 128, n % 128] := by
  simp [shortOf, cnt_4 h h', upTo, roundAt, digit, putShort, List.range_succ]
  omega
theorem short_5 {n : Int} (h : 268435456 ≤ n) (h' : n ≤ 1073741824) : shortOf n = [n / 268435456 + 128, n / 2097152 % 128 + 128, n / 16384 % 128 + 128, n / 128 % 128 + 128, n % 128] := by
  simp [shortOf, cnt_5 h h', upTo, roundAt, digit, putShort, List.range_succ]
  omega
theorem long_eq (n : Int) : longOf n = [n / 4294967296 % 256, n / 16777216 % 256, n / 65536 % 256, n / 256 % 256, n % 256] := by
  simp [longOf, upTo, roundAt, digit, putLong, List.range_succ]

theorem five {n : Int} (h0 : 0 ≤ n) (h1 : n ≤ 1073741824) : n < 128 ∨ (128 ≤ n ∧ n < 16384) ∨ (16384 ≤ n ∧ n < 2097152) ∨ (2097152 ≤ n ∧ n < 268435456) ∨ (268435456 ≤ n ∧ n ≤ 1073741824) := by omega

theorem takeP_go {b : List Int} (h : b[0]?.getD 0 ≠ 128) : takeP b = takeGo 5 b 0 0 := by
  unfold takeP
  rw [if_neg]
  intro e
  rw [e] at h
  exact h rfl

/-- What was put is taken, whatever stands behind. -/
theorem takeP_short {n : Int} (h0 : 0 ≤ n) (h1 : n ≤ 1073741824) (rest : List Int) : takeP (shortOf n ++ rest) = (n, cnt n, 0) := by
  rcases five h0 h1 with h | ⟨h, h'⟩ | ⟨h, h'⟩ | ⟨h, h'⟩ | ⟨h, h'⟩
  · rw [short_1 h0 h, cnt_1 h, takeP_go (by simp; omega)]
    simp only [List.cons_append, List.nil_append]
    rw [takeGo_end h (by omega)]
    simp
  · rw [short_2 h h', cnt_2 h h', takeP_go (by simp; omega)]
    simp only [List.cons_append, List.nil_append]
    rw [takeGo_more (by omega), takeGo_end (by omega) (by omega)]
    simp; omega
  · rw [short_3 h h', cnt_3 h h', takeP_go (by simp; omega)]
    simp only [List.cons_append, List.nil_append]
    rw [takeGo_more (by omega), takeGo_more (by omega), takeGo_end (by omega) (by omega)]
    simp; omega
  · rw [short_4 h h', cnt_4 h h', takeP_go (by simp; omega)]
    simp only [List.cons_append, List.nil_append]
    rw [takeGo_more (by omega), takeGo_more (by omega), takeGo_more (by omega), takeGo_end (by omega) (by omega)]
    simp; omega
  · rw [short_5 h h', cnt_5 h h', takeP_go (by simp; omega)]
    simp only [List.cons_append, List.nil_append]
    rw [takeGo_more (by omega), takeGo_more (by omega), takeGo_more (by omega), takeGo_more (by omega), takeGo_end (by omega) (by omega)]
    simp; omega

/-- With one byte fewer there are too few. -/
theorem takeP_fewer {n : Int} (h0 : 0 ≤ n) (h1 : n ≤ 1073741824) : takeP ((shortOf n).take (cnt n - 1)) = (0, 0, 10) := by
  rcases five h0 h1 with h | ⟨h, h'⟩ | ⟨h, h'⟩ | ⟨h, h'⟩ | ⟨h, h'⟩
  · rw [short_1 h0 h, cnt_1 h]; rfl
  · rw [short_2 h h', cnt_2 h h']
    simp only [Nat.reduceSub, List.take_succ_cons, List.take_zero]
    rw [takeP_go (by simp; omega), takeGo_more (by omega)]; rfl
  · rw [short_3 h h', cnt_3 h h']
    simp only [Nat.reduceSub, List.take_succ_cons, List.take_zero]
    rw [takeP_go (by simp; omega), takeGo_more (by omega), takeGo_more (by omega)]; rfl
  · rw [short_4 h h', cnt_4 h h']
    simp only [Nat.reduceSub, List.take_succ_cons, List.take_zero]
    rw [takeP_go (by simp; omega), takeGo_more (by omega), takeGo_more (by omega), takeGo_more (by omega)]; rfl
  · rw [short_5 h h', cnt_5 h h']
    simp only [Nat.reduceSub, List.take_succ_cons, List.take_zero]
    rw [takeP_go (by simp; omega), takeGo_more (by omega), takeGo_more (by omega), takeGo_more (by omega), takeGo_more (by omega)]; rfl

/-- Many: what was put is taken. -/
theorem takesGo_short {l : List Int} (h : allNum l = true) : ∀ (rest acc : List Int), takesGo l.length (shortsOf l ++ rest) acc = (acc ++ l, rest, 0) := by
  induction l with
  | nil => intro rest acc; simp [takesGo, shortsOf]
  | cons x l ih =>
    intro rest acc
    simp only [allNum, List.all_cons, Bool.and_eq_true] at h
    have hx := isNum_iff.1 h.1
    rw [show shortsOf (x :: l) = shortOf x ++ shortsOf l from rfl, List.append_assoc, List.length_cons, takesGo, takeP_short hx.1 hx.2]
    simp only [if_true]
    rw [show (shortOf x ++ (shortsOf l ++ rest)).drop (cnt x) = shortsOf l ++ rest from by rw [← shortOf_length x, List.drop_left], ih h.2]
    simp
theorem takesP_short {l : List Int} (h : allNum l = true) (rest : List Int) : takesP (shortsOf l ++ rest) (l.length : Int) = (l, rest, 0) := by
  unfold takesP
  rw [Int.toNat_natCast, takesGo_short h rest []]
  simp

theorem takeGo_inv {f : Nat} {b : List Int} {s n : Int} {u m : Nat} (h : takeGo (f + 1) b s u = (n, m, 0)) :
    ∃ d r, b = d :: r ∧ ((d < 128 ∧ n = s * 128 + d ∧ n ≤ 1073741824 ∧ m = u + 1) ∨ (128 ≤ d ∧ takeGo f r (s * 128 + (d - 128)) (u + 1) = (n, m, 0))) := by
  cases b with
  | nil => rw [takeGo_nil] at h; simp at h
  | cons d r =>
    refine ⟨d, r, rfl, ?_⟩
    by_cases hd : 128 ≤ d
    · rw [takeGo_more hd] at h
      exact .inr ⟨hd, h⟩
    · by_cases hs : 1073741824 < s * 128 + d
      · rw [takeGo_big (by omega) hs] at h; simp at h
      · rw [takeGo_end (by omega) (by omega)] at h
        simp at h
        exact .inl ⟨by omega, by omega, by omega, by omega⟩
/-- What is taken is put as the bytes that were there. -/
theorem short_takeP {b : List Int} (hb : Byt b) {n : Int} {m : Nat} (h : takeP b = (n, m, 0)) : shortOf n = b.take m ∧ m = cnt n ∧ 0 ≤ n ∧ n ≤ 1073741824 := by
  have hne : b[0]? ≠ some 128 := by
    intro e
    unfold takeP at h
    rw [if_pos e] at h
    simp at h
  unfold takeP at h
  rw [if_neg hne] at h
  obtain ⟨d0, r0, rfl, h0⟩ := takeGo_inv h
  have b0 := hb d0 (by simp)
  have hd0 : d0 ≠ 128 := by intro e; subst e; exact hne rfl
  rcases h0 with ⟨g0, hn, hmax, hm⟩ | ⟨g0, h0⟩
  · have e1 : n < 128 := by omega
    rw [short_1 (by omega) e1, cnt_1 e1]
    subst hm
    refine ⟨?_, rfl, by omega, by omega⟩
    simp; omega
  obtain ⟨d1, r1, rfl, h1⟩ := takeGo_inv h0
  have b1 := hb d1 (by simp)
  rcases h1 with ⟨g1, hn, hmax, hm⟩ | ⟨g1, h1⟩
  · have e1 : 128 ≤ n := by omega
    have e2 : n < 16384 := by omega
    rw [short_2 e1 e2, cnt_2 e1 e2]
    subst hm
    refine ⟨?_, rfl, by omega, by omega⟩
    simp; omega
  obtain ⟨d2, r2, rfl, h2⟩ := takeGo_inv h1
  have b2 := hb d2 (by simp)
  rcases h2 with ⟨g2, hn, hmax, hm⟩ | ⟨g2, h2⟩
  · have e1 : 16384 ≤ n := by omega
    have e2 : n < 2097152 := by omega
    rw [short_3 e1 e2, cnt_3 e1 e2]
    subst hm
    refine ⟨?_, rfl, by omega, by omega⟩
    simp; omega
  obtain ⟨d3, r3, rfl, h3⟩ := takeGo_inv h2
  have b3 := hb d3 (by simp)
  rcases h3 with ⟨g3, hn, hmax, hm⟩ | ⟨g3, h3⟩
  · have e1 : 2097152 ≤ n := by omega
    have e2 : n < 268435456 := by omega
    rw [short_4 e1 e2, cnt_4 e1 e2]
    subst hm
    refine ⟨?_, rfl, by omega, by omega⟩
    simp; omega
  obtain ⟨d4, r4, rfl, h4⟩ := takeGo_inv h3
  have b4 := hb d4 (by simp)
  rcases h4 with ⟨g4, hn, hmax, hm⟩ | ⟨g4, h4⟩
  · have e1 : 268435456 ≤ n := by omega
    rw [short_5 e1 hmax, cnt_5 e1 hmax]
    subst hm
    refine ⟨?_, rfl, by omega, by omega⟩
    simp; omega
  · rw [takeGo_zero] at h4; simp at h4

/-- Long bytes. -/
theorem longP_long {n : Int} (h0 : 0 ≤ n) (h1 : n ≤ 1073741824) (rest : List Int) : longP (longOf n ++ rest) = (n, rest, 0) := by
  rw [long_eq]
  simp only [List.cons_append, List.nil_append]
  rw [longP_ok (by simp) (by simp [sumL]; omega)]
  simp [sumL]
  omega
theorem long_longP {b : List Int} (hb : Byt b) {n : Int} {r : List Int} (h : longP b = (n, r, 0)) : longOf n ++ r = b ∧ 0 ≤ n ∧ n ≤ 1073741824 := by
  by_cases hl : b.length < 5
  · rw [longP_short hl] at h; simp at h
  · by_cases hs : 1073741824 < sumL (b.take 5)
    · rw [longP_big (by omega) hs] at h; simp at h
    · rw [longP_ok (by omega) (by omega)] at h
      simp only [Prod.mk.injEq, and_true] at h
      obtain ⟨h1, h2⟩ := h
      match b, hl with
      | d0 :: d1 :: d2 :: d3 :: d4 :: q, _ =>
        have b0 := hb d0 (by simp)
        have b1 := hb d1 (by simp)
        have b2 := hb d2 (by simp)
        have b3 := hb d3 (by simp)
        have b4 := hb d4 (by simp)
        simp [sumL] at h1 h2 hs
        subst h2
        rw [long_eq]
        refine ⟨?_, by omega, by omega⟩
        simp
        omega
      | [], hl => simp at hl
      | [_], hl => simp at hl
      | [_, _], hl => simp at hl
      | [_, _, _], hl => simp at hl
      | [_, _, _, _], hl => simp at hl

end Go.Proofs.Ytbpinikldcakfaa
