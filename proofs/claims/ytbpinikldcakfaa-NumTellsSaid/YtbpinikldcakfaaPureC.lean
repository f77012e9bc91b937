/-
  Digits, as plain functions on lists; no program is named here.
-/
import Derived.Lib.BitFns
import Derived.Test.YtbpinikldcakfaaPureB
namespace Go.Proofs.Ytbpinikldcakfaa
open Go

/-- How many digits: at least so many, and as many as the bits want. -/
def howMany (n width least : Int) : Int := max least ((((Lib.bitLen n.toNat : Nat) : Int) + width - 1) / width)

/-- What has come when k rounds are over. -/
def upTo {α : Type} (f : Nat → α) (k : Nat) : List α := (List.range k).map f
theorem upTo_succ {α : Type} (f : Nat → α) (k : Nat) : upTo f (k + 1) = upTo f k ++ [f k] := by simp [upTo, List.range_succ]
theorem upTo_length {α : Type} (f : Nat → α) (k : Nat) : (upTo f k).length = k := by simp [upTo]

/-- The digit behind which so many stand. -/
def digit (n : Int) (width left : Nat) : Int := n / 2 ^ (left * width) % 2 ^ width
/-- The k-th round's two values. -/
def roundAt (n : Int) (width m k : Nat) : Int × Int := ((m - 1 - k : Nat), digit n width (m - 1 - k))
theorem roundAt_of {n : Int} {width m k : Nat} (left : Nat) {d : Int} (h : m - 1 - k = left) (hd : n / 2 ^ (left * width) % 2 ^ width = d) : roundAt n width m k = ((left : Int), d) := by
  unfold roundAt digit
  rw [h, hd]

/-- A short digit as it is put: 128 more, if another one stands behind it. -/
def putShort (x : Int × Int) : Int := if 0 < x.1 then (x.2 + 128) % 256 else x.2
/-- How many short digits. -/
def cnt (n : Int) : Nat := (howMany n 7 1).toNat
def shortOf (n : Int) : List Int := (upTo (roundAt n 7 (cnt n)) (cnt n)).map putShort
def shortsOf (l : List Int) : List Int := l.flatMap shortOf
/-- A long digit as it is put. -/
def putLong (x : Int × Int) : Int := x.2
def longOf (n : Int) : List Int := (upTo (roundAt n 8 5) 5).map putLong
def longsOf (l : List Int) : List Int := l.flatMap longOf
theorem shortsOf_snoc (l : List Int) (x : Int) : shortsOf (l ++ [x]) = shortsOf l ++ shortOf x := by simp [shortsOf]
theorem longsOf_snoc (l : List Int) (x : Int) : longsOf (l ++ [x]) = longsOf l ++ longOf x := by simp [longsOf]
theorem bitLen_31 {n : Int} (hn : 0 ≤ n ∧ n ≤ 1073741824) : Lib.bitLen n.toNat ≤ 31 := Lib.bitLen_le n.toNat 31 (by omega) (by omega)
theorem howMany_7 {n : Int} (hn : 0 ≤ n ∧ n ≤ 1073741824) : howMany n 7 1 = (cnt n : Int) ∧ 1 ≤ cnt n ∧ cnt n ≤ 5 := by
  have h := bitLen_31 hn
  unfold cnt howMany
  omega
theorem howMany_8 {n : Int} (hn : 0 ≤ n ∧ n ≤ 1073741824) : howMany n 8 5 = ((5 : Nat) : Int) := by
  have h := bitLen_31 hn
  unfold howMany
  omega
theorem shortOf_length (n : Int) : (shortOf n).length = cnt n := by simp [shortOf, upTo_length]
theorem longOf_length (n : Int) : (longOf n).length = 5 := by simp [longOf, upTo_length]
theorem shortsOf_length {l : List Int} (h : allNum l = true) : (shortsOf l).length ≤ 5 * l.length := by
  induction l with
  | nil => simp [shortsOf]
  | cons x l ih =>
    simp only [allNum, List.all_cons, Bool.and_eq_true] at h
    have h1 := ih h.2
    have h2 := (howMany_7 (isNum_iff.1 h.1)).2
    rw [show shortsOf (x :: l) = shortOf x ++ shortsOf l from rfl, List.length_append, shortOf_length, List.length_cons]
    omega
theorem longsOf_length (l : List Int) : (longsOf l).length = 5 * l.length := by
  induction l with
  | nil => simp [longsOf]
  | cons x l ih =>
    rw [show longsOf (x :: l) = longOf x ++ longsOf l from rfl, List.length_append, longOf_length, ih, List.length_cons]
    omega
theorem allNum_take {l : List Int} (h : allNum l = true) (k : Nat) : allNum (l.take k) = true :=
  List.all_eq_true.2 fun x hx => List.all_eq_true.1 h x (List.mem_of_mem_take hx)
theorem digit_byte (n : Int) (width left : Nat) (hw : width = 7 ∨ width = 8) : 0 ≤ digit n width left ∧ digit n width left < 2 ^ width := by
  unfold digit
  rcases hw with rfl | rfl
  · exact ⟨Int.emod_nonneg _ (by decide), Int.emod_lt_of_pos _ (by decide)⟩
  · exact ⟨Int.emod_nonneg _ (by decide), Int.emod_lt_of_pos _ (by decide)⟩

end Go.Proofs.Ytbpinikldcakfaa
