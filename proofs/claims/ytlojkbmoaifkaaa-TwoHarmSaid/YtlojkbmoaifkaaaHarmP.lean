/-
  A byte of a block that is another one, of the same highest bit, and not the block's first one: the block is none. No program is named here but the numbers of types.
-/
import Derived.Test.YtlojkbmoaifkaaaTwoP
namespace Go.Proofs.Ytlojkbmoaifkaaa
open Go.RowKit
set_option linter.unusedVariables false
set_option linter.unusedSimpArgs false

/-! ### Exclusive or of bytes -/
theorem byte_nat (a : Nat) (ha : a < 256) : (BitVec.ofInt 8 (a : Int)).toNat = a := by
  rw [BitVec.ofInt_natCast, BitVec.toNat_ofNat]
  omega
theorem xor_nat (a b : Nat) (ha : a < 256) (hb : b < 256) : bits .xor .u8 (a : Int) (b : Int) = ((a ^^^ b : Nat) : Int) := by
  have hx : a ^^^ b < 256 := Nat.xor_lt_two_pow (n := 8) ha hb
  show IntKind.u8.wrap ((BitVec.ofInt 8 (a : Int) ^^^ BitVec.ofInt 8 (b : Int)).toNat : Int) = _
  rw [BitVec.toNat_xor, byte_nat a ha, byte_nat b hb, IntKind.wrap_u8]
  omega
theorem xor_self_mid (a b : Nat) : a ^^^ (a ^^^ b) = b := by rw [← Nat.xor_assoc, Nat.xor_self, Nat.zero_xor]
theorem xor_turn {x y : Int} (hx : 0 ≤ x ∧ x ≤ 255) (hy : 1 ≤ y ∧ y ≤ 127) : (0 ≤ bits .xor .u8 x y ∧ bits .xor .u8 x y ≤ 255) ∧ bits .xor .u8 x y ≠ x ∧ (decide (bits .xor .u8 x y < 128) = decide (x < 128)) := by
  have e := xor_nat x.toNat y.toNat (by omega) (by omega)
  rw [show ((x.toNat : Nat) : Int) = x by omega, show ((y.toNat : Nat) : Int) = y by omega] at e
  rw [e]
  obtain ⟨a, ha⟩ : ∃ a, a = x.toNat := ⟨_, rfl⟩
  obtain ⟨b, hb⟩ : ∃ b, b = y.toNat := ⟨_, rfl⟩
  rw [← ha, ← hb]
  have hlt : a ^^^ b < 256 := Nat.xor_lt_two_pow (n := 8) (by omega) (by omega)
  have hne : a ^^^ b ≠ a := by
    intro h
    have h1 := xor_self_mid a b
    rw [h, Nat.xor_self] at h1
    omega
  have hdiv : (a ^^^ b) / 128 = a / 128 := by
    have h := Nat.shiftRight_xor_distrib (a := a) (b := b) (i := 7)
    rw [Nat.shiftRight_eq_div_pow, Nat.shiftRight_eq_div_pow, Nat.shiftRight_eq_div_pow] at h
    rw [show (2 : Nat) ^ 7 = 128 from rfl] at h
    rw [h, show b / 128 = 0 by omega, Nat.xor_zero]
  refine ⟨by omega, by omega, ?_⟩
  rw [decide_eq_decide]
  omega

/-! ### Where numbers end is told by the highest bits -/
def low (x : Int) : Bool := decide (x < 128)
def endsAt : Nat → List Bool → Nat
  | 0, _ => 0
  | _ + 1, [] => 0
  | k + 1, true :: t => 1 + endsAt k t
  | k + 1, false :: t => 1 + endsAt (k + 1) t
theorem low_yes {x : Int} (h : x < 128) : low x = true := decide_eq_true h
theorem low_no {x : Int} (h : ¬ x < 128) : low x = false := decide_eq_false h
theorem endsAt_one {n : Int} (h0 : 0 ≤ n) (h1 : n ≤ 1073741824) (k : Nat) (r : List Bool) : endsAt (k + 1) ((Nu.shortOf n).map low ++ r) = (Nu.shortOf n).length + endsAt k r := by
  by_cases c1 : n < 128
  · rw [Nu.short_1 h0 c1]
    simp only [List.map_cons, List.map_nil, List.cons_append, List.nil_append, low_yes c1, endsAt, List.length_cons, List.length_nil]
  by_cases c2 : n < 16384
  · rw [Nu.short_2 (by omega) c2]
    simp only [List.map_cons, List.map_nil, List.cons_append, List.nil_append, low_no (x := n / 128 + 128) (by omega), low_yes (x := n % 128) (by omega), endsAt, List.length_cons, List.length_nil]
    omega
  by_cases c3 : n < 2097152
  · rw [Nu.short_3 (by omega) c3]
    simp only [List.map_cons, List.map_nil, List.cons_append, List.nil_append, low_no (x := n / 16384 + 128) (by omega), low_no (x := n / 128 % 128 + 128) (by omega), low_yes (x := n % 128) (by omega), endsAt, List.length_cons, List.length_nil]
    omega
  by_cases c4 : n < 268435456
  · rw [Nu.short_4 (by omega) c4]
    simp only [List.map_cons, List.map_nil, List.cons_append, List.nil_append, low_no (x := n / 2097152 + 128) (by omega), low_no (x := n / 16384 % 128 + 128) (by omega), low_no (x := n / 128 % 128 + 128) (by omega), low_yes (x := n % 128) (by omega), endsAt, List.length_cons, List.length_nil]
    omega
  · rw [Nu.short_5 (by omega) h1]
    simp only [List.map_cons, List.map_nil, List.cons_append, List.nil_append, low_no (x := n / 268435456 + 128) (by omega), low_no (x := n / 2097152 % 128 + 128) (by omega), low_no (x := n / 16384 % 128 + 128) (by omega), low_no (x := n / 128 % 128 + 128) (by omega), low_yes (x := n % 128) (by omega), endsAt, List.length_cons, List.length_nil]
    omega
theorem endsAt_all {l : List Int} (h : Nu.allNum l = true) (r : List Int) : endsAt l.length ((Nu.shortsOf l ++ r).map low) = (Nu.shortsOf l).length := by
  induction l with
  | nil => simp [endsAt, Nu.shortsOf]
  | cons n l ih =>
    rw [Nu.allNum, List.all_cons, Bool.and_eq_true] at h
    have h1 := Nu.isNum_iff.1 h.1
    have h2 := ih h.2
    rw [show Nu.shortsOf (n :: l) = Nu.shortOf n ++ Nu.shortsOf l from rfl, List.append_assoc, List.map_append, List.length_cons, endsAt_one h1.1 h1.2, h2, List.length_append]
theorem low_set {L : List Int} {i : Nat} {x : Int} (h : low x = low (L[i]?.getD 0)) : (L.set i x).map low = L.map low := by
  by_cases hi : i < L.length
  · rw [List.map_set, h]
    apply List.ext_getElem?
    intro j
    rw [List.getElem?_set]
    split
    · subst i; simp [List.getElem?_map, List.getElem?_eq_getElem hi, hi]
    · rfl
  · rw [List.set_eq_of_length_le (by omega)]

/-! ### The harmed block -/
theorem harm_block {p : Int × Int} (hp : Ga.InP p) {l : List EnP} (hl : GoodC l) (r : List Int) {j : Nat} (h1 : 1 ≤ j) (hj : j < (blockL p l).length) {x : Int} (hx : 0 ≤ x ∧ x ≤ 255) (hne : x ≠ (blockL p l)[j]?.getD 0) (hlow : low x = low ((blockL p l)[j]?.getD 0)) :
    NoBlock p ((blockL p l ++ r).set j x) := by
  rintro m ⟨hm, s, e⟩
  obtain ⟨i, rfl⟩ : ∃ i, j = i + 1 := ⟨j - 1, by omega⟩
  have hb : blockL p l = (l.length : Int) :: (Nu.shortsOf (numsL l) ++ Ga.bytesP (endP p l)) := by simp [blockL, bodyL]
  obtain ⟨S, hS⟩ : ∃ S, S = Nu.shortsOf (numsL l) := ⟨_, rfl⟩
  obtain ⟨F, hF⟩ : ∃ F, F = Ga.bytesP (endP p l) := ⟨_, rfl⟩
  have hF4 : F.length = 4 := by rw [hF]; rfl
  rw [← hS, ← hF] at hb
  have hgd : (blockL p l)[i + 1]?.getD 0 = (S ++ F)[i]?.getD 0 := by rw [hb, List.getElem?_cons_succ]
  rw [hgd] at hne hlow
  have hi : i < (S ++ F).length := by rw [hb, List.length_cons] at hj; omega
  have e0 : (l.length : Int) = (m.length : Int) ∧ ((S ++ F) ++ r).set i x = Nu.shortsOf (numsL m) ++ (Ga.bytesP (endP p m) ++ s) := by
    rw [hb] at e
    simp only [List.cons_append, List.set_cons_succ, blockL, bodyL, List.cons.injEq, List.append_assoc] at e ⊢
    exact e
  have hlen : l.length = m.length := by have := e0.1; omega
  have hset : ((S ++ F) ++ r).set i x = (S ++ F).set i x ++ r := List.set_append_left _ _ hi
  have hends : S.length = (Nu.shortsOf (numsL m)).length := by
    have h2 := endsAt_all (allR_nums hl.2.2) (F ++ r)
    have h3 := endsAt_all (allR_nums hm.2.2) (Ga.bytesP (endP p m) ++ s)
    rw [← e0.2, hset, List.map_append, low_set hlow, ← List.map_append, List.append_assoc, hS, nums_length, ← hlen, ← nums_length, h2] at h3
    rw [hS]; exact h3
  rw [hset] at e0
  by_cases hiS : i < S.length
  · have h4 : (S ++ F).set i x = S.set i x ++ F := List.set_append_left _ _ hiS
    rw [h4, List.append_assoc] at e0
    obtain ⟨h5, h6⟩ := List.append_inj e0.2 (by rw [List.length_set]; exact hends)
    obtain ⟨h7, _⟩ := List.append_inj h6 (by rw [hF4]; rfl)
    have h8 : endP p m = endP p l := (bytesP_inj (endP_in hp m) (endP_in hp l) (by rw [← h7, hF]))
    have h9 : bodyL m = (bodyL l).set (i + 1) x := by
      simp only [bodyL, List.set_cons_succ]
      rw [← h5, hS, hlen]
    have h10 : (S ++ F)[i]?.getD 0 = S[i]?.getD 0 := by rw [List.getElem?_append_left hiS]
    refine Ga.chainP_set (p := p) (l := bodyL l) (k := i + 1) (x := x) ?_ (body_byt hl) hx ?_ ?_
    · rw [body_length, ← hS]; omega
    · rw [bodyL, List.getElem?_cons_succ, ← hS, ← h10]; exact hne
    · rw [← h9]; exact h8
  · have h4 : (S ++ F).set i x = S ++ F.set (i - S.length) x := List.set_append_right _ _ (by omega)
    rw [h4, List.append_assoc] at e0
    obtain ⟨h5, h6⟩ := List.append_inj e0.2 hends
    have h7 : l = m := nums_inj (shorts_same (r := []) (s := []) (allR_nums hl.2.2) (allR_nums hm.2.2) (by rw [nums_length, nums_length, hlen]) (by rw [← hS, h5])).1
    subst h7
    rw [← hF] at h6
    obtain ⟨h8, _⟩ := List.append_inj h6 (by rw [List.length_set])
    have h9 := congrArg (fun L : List Int => L[i - S.length]?.getD 0) h8
    have hi4 : i - S.length < F.length := by rw [List.length_append] at hi; omega
    simp only [List.getElem?_set, hi4, if_true, Option.getD_some] at h9
    rw [List.getElem?_append_right (by omega)] at hne
    exact hne (by simpa using h9)

/-! ### The harmed segment -/
/-- Where the j-th block begins. -/
def posOf (f : Int) (cs : List (List EnP)) (j : Nat) : Nat := (headL f ++ blksL (headE f) (cs.take j)).length
theorem posOf_zero (f : Int) (cs : List (List EnP)) : posOf f cs 0 = (headL f).length := by simp [posOf, blksL]
theorem posOf_succ {f : Int} {cs : List (List EnP)} {j : Nat} {c : List EnP} (h : cs[j]? = some c) : posOf f cs (j + 1) = posOf f cs j + (blockL (blksE (headE f) (cs.take j)) c).length := by
  have h1 : cs.take (j + 1) = cs.take j ++ [c] := by rw [List.take_add_one, h]; rfl
  simp only [posOf, h1, blksL_append, blksL, List.append_nil, List.length_append]
  omega
theorem posOf_le {f : Int} {cs : List (List EnP)} {i j : Nat} (h : i ≤ j) : posOf f cs i ≤ posOf f cs j := by
  obtain ⟨k, rfl⟩ : ∃ k, j = i + k := ⟨j - i, by omega⟩
  induction k with
  | zero => exact Nat.le_refl _
  | succ k ih =>
    refine Nat.le_trans (ih (by omega)) ?_
    cases hc : cs[i + k]? with
    | none =>
      have : cs.length ≤ i + k := List.getElem?_eq_none_iff.1 hc
      simp only [posOf]
      rw [List.take_of_length_le (by omega), List.take_of_length_le (by omega)]
      exact Nat.le_refl _
    | some c => rw [← Nat.add_assoc, posOf_succ hc]; omega
theorem posOf_all {f : Int} {cs : List (List EnP)} {j : Nat} (h : cs.length ≤ j) : posOf f cs j = (headL f ++ blksL (headE f) cs).length := by
  rw [posOf, List.take_of_length_le h]
theorem harm_scan {f : Int} (hf : Num f) {cs : List (List EnP)} (hg : Good cs) {a at0 : Nat} (ha : a < cs.length) (h1 : posOf f cs a < at0) (h2 : at0 < posOf f cs (a + 1)) {B : List Int} (hB : B = headL f ++ blksL (headE f) cs) {x : Int} (hx : 0 ≤ x ∧ x ≤ 255) (hne : x ≠ B[at0]?.getD 0) (hlow : low x = low (B[at0]?.getD 0)) :
    ∃ r, ScanIs (B.set at0 x) f (cs.take a) r := by
  obtain ⟨c, hc⟩ : ∃ c, cs[a]? = some c := ⟨_, List.getElem?_eq_getElem ha⟩
  rw [posOf_succ hc] at h2
  obtain ⟨P, hP⟩ : ∃ P, P = headL f ++ blksL (headE f) (cs.take a) := ⟨_, rfl⟩
  obtain ⟨q, hq⟩ : ∃ q, q = blksE (headE f) (cs.take a) := ⟨_, rfl⟩
  have hpl : posOf f cs a = P.length := by rw [posOf, ← hP]
  rw [hpl] at h1 h2
  rw [← hq] at h2
  obtain ⟨r, hr⟩ : ∃ r, r = blksL (endP q c) (cs.drop (a + 1)) := ⟨_, rfl⟩
  have hBe : B = P ++ (blockL q c ++ r) := by
    have h3 : cs = cs.take a ++ (c :: cs.drop (a + 1)) := by
      have h4 : cs.drop a = c :: cs.drop (a + 1) := by rw [List.drop_eq_getElem_cons ha, (List.getElem?_eq_some_iff.1 hc).2]
      rw [← h4, List.take_append_drop]
    rw [hB, h3, blksL_append, ← List.append_assoc, ← hP, ← hq, hr]
    rfl
  have hset : B.set at0 x = P ++ (blockL q c ++ r).set (at0 - P.length) x := by rw [hBe, List.set_append_right _ _ (by omega)]
  have hget : B[at0]?.getD 0 = (blockL q c)[at0 - P.length]?.getD 0 := by
    rw [hBe, List.getElem?_append_right (by omega), List.getElem?_append_left (by omega)]
  rw [hget] at hne hlow
  refine ⟨(blockL q c ++ r).set (at0 - P.length) x, ?_⟩
  obtain ⟨T, hT⟩ : ∃ T, T = (blockL q c ++ r).set (at0 - P.length) x := ⟨_, rfl⟩
  have hn : NoBlock (blksE (headE f) (cs.take a)) T := by
    rw [← hq, hT]
    exact harm_block (by rw [hq]; exact blksE_in (headE_in f) _) (hg c (List.mem_of_getElem? hc)) r (by omega) (by omega) hx hne hlow
  rw [hset, ← hT, hP]
  exact scan_of hf (hg.take a) hn
end Go.Proofs.Ytlojkbmoaifkaaa
