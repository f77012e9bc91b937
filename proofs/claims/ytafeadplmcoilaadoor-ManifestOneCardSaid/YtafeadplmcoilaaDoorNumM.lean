/-
  Numbers as bytes: num's Long and TakeLong: their contracts (stage 1's texts, as one).
-/
import Derived.Lib.BitFns
import Derived.Lib.ItoaNum
import Derived.Test.YtafeadplmcoilaaDoorBase
import Derived.Test.YtafeadplmcoilaaDoorShelf
import Derived.RangeFuncBox
import Derived.Deep.RegionWith
import Derived.Deep.RegionHeld3
import Derived.BigRegion
import Derived.Outline
import Derived.StillTailTactics
import Derived.RangeFuncNested
import Derived.RangeFuncBound
import Derived.RangeFuncCalls
import Derived.RangeFuncLeaves
import Derived.Shelf.Abstract
import Derived.Shelf.RegionOpen
import Derived.OwnWalkIn
import Derived.TacticsInMore
import Derived.LoopNIn
import Derived.LoopIn
import Derived.Laws.BitsAllLaws
import Derived.Laws.BitsLemmas
import Derived.Test.YtafeadplmcoilaaDoorMarks
import Derived.Laws.Slices
import Derived.WalkSpells
import Derived.OwnWalk
import Derived.RegionTactic
import Derived.OpenShut
namespace Go.Proofs.YtafeadplmcoilaaDoor.Nu
/-- One number is a number of the document: 0 to 2^30. -/
def isNum (n : Int) : Bool := decide (0 ≤ n) && decide (n ≤ 1073741824)
def allNum (l : List Int) : Bool := l.all isNum
theorem isNum_iff {n : Int} : isNum n = true ↔ 0 ≤ n ∧ n ≤ 1073741824 := by simp [isNum]
theorem allNum_nil : allNum [] = true := rfl
theorem allNum_snoc (l : List Int) (x : Int) : allNum (l ++ [x]) = (allNum l && isNum x) := by simp [allNum]
theorem allNum_no {l : List Int} {k : Nat} (hk : k < l.length) (h : isNum (l[k]?.getD 0) = false) : allNum l = false := by
  rw [List.getElem?_eq_getElem hk] at h
  simp only [allNum, List.all_eq_false]
  exact ⟨l[k], List.getElem_mem hk, by simpa using h⟩
theorem allNum_at {l : List Int} (h : allNum l = true) {k : Nat} (hk : k < l.length) : 0 ≤ l[k]?.getD 0 ∧ l[k]?.getD 0 ≤ 1073741824 := by
  rw [List.getElem?_eq_getElem hk]
  exact isNum_iff.1 (List.all_eq_true.1 h _ (List.getElem_mem hk))
theorem take_snoc {l : List Int} {k : Nat} (hk : k < l.length) : l.take (k + 1) = l.take k ++ [l[k]?.getD 0] := by
  rw [List.take_add_one, List.getElem?_eq_getElem hk]; rfl
theorem drop_cons {l : List Int} {k : Nat} (hk : k < l.length) : l.drop k = l[k]?.getD 0 :: l.drop (k + 1) := by
  rw [List.drop_eq_getElem_cons hk, List.getElem?_eq_getElem hk]; rfl

/-- All are bytes. -/
def Byt (l : List Int) : Prop := ∀ x ∈ l, 0 ≤ x ∧ x ≤ 255
theorem Byt.at_ {l : List Int} (h : Byt l) (k : Nat) : 0 ≤ l[k]?.getD 0 ∧ l[k]?.getD 0 ≤ 255 := by
  rcases Nat.lt_or_ge k l.length with hk | hk
  · rw [List.getElem?_eq_getElem hk]; exact h _ (List.getElem_mem hk)
  · rw [List.getElem?_eq_none hk]; simp
theorem Byt.drop {l : List Int} (h : Byt l) (k : Nat) : Byt (l.drop k) := fun x hx => h x (List.mem_of_mem_drop hx)
theorem Byt.append {l m : List Int} (h : Byt l) (h' : Byt m) : Byt (l ++ m) := fun x hx => by
  rcases List.mem_append.1 hx with hx | hx
  · exact h x hx
  · exact h' x hx

/-- The digits of short bytes, taken from the first on: so many more may come; the sum of those that came, how many came. The answer: the number, how many bytes, the error. -/
def takeGo : Nat → List Int → Int → Nat → Int × Nat × Int
  | 0, _, _, _ => (0, 0, 11)
  | _ + 1, [], _, _ => (0, 0, 10)
  | f + 1, d :: r, s, u => if 128 ≤ d then takeGo f r (s * 128 + (d - 128)) (u + 1) else if 1073741824 < s * 128 + d then (0, 0, 11) else (s * 128 + d, u + 1, 0)
def takeP (b : List Int) : Int × Nat × Int := if b[0]? = some 128 then (0, 0, 11) else takeGo 5 b 0 0

theorem takeGo_zero (b : List Int) (s : Int) (u : Nat) : takeGo 0 b s u = (0, 0, 11) := rfl
theorem takeGo_nil (f : Nat) (s : Int) (u : Nat) : takeGo (f + 1) [] s u = (0, 0, 10) := rfl
theorem takeGo_more {f : Nat} {d : Int} {r : List Int} {s : Int} {u : Nat} (h : 128 ≤ d) : takeGo (f + 1) (d :: r) s u = takeGo f r (s * 128 + (d - 128)) (u + 1) := by
  rw [takeGo, if_pos h]
theorem takeGo_big {f : Nat} {d : Int} {r : List Int} {s : Int} {u : Nat} (h : d < 128) (hs : 1073741824 < s * 128 + d) : takeGo (f + 1) (d :: r) s u = (0, 0, 11) := by
  rw [takeGo, if_neg (by omega), if_pos hs]
theorem takeGo_end {f : Nat} {d : Int} {r : List Int} {s : Int} {u : Nat} (h : d < 128) (hs : s * 128 + d ≤ 1073741824) : takeGo (f + 1) (d :: r) s u = (s * 128 + d, u + 1, 0) := by
  rw [takeGo, if_neg (by omega), if_neg (by omega)]

/-- What comes of it: an error, and nothing; or a number, out of at least one byte. -/
theorem takeGo_fine : ∀ (f : Nat) (b : List Int) (s : Int) (u : Nat), Byt b → 0 ≤ s →
    (takeGo f b s u = (0, 0, 10) ∨ takeGo f b s u = (0, 0, 11)) ∨ ∃ n m, takeGo f b s u = (n, m, 0) ∧ 0 ≤ n ∧ n ≤ 1073741824 ∧ u < m ∧ m ≤ u + f ∧ m - u ≤ b.length := by
  intro f
  induction f with
  | zero => intro b s u _ _; exact .inl (.inr rfl)
  | succ f ih =>
    intro b s u hb hs
    cases b with
    | nil => exact .inl (.inl rfl)
    | cons d r =>
      have hd := hb d (by simp)
      by_cases h : 128 ≤ d
      · rw [takeGo_more h]
        rcases ih r (s * 128 + (d - 128)) (u + 1) (fun x hx => hb x (by simp [hx])) (by omega) with h1 | ⟨n, m, h1, h2, h3, h4, h5, h6⟩
        · exact .inl h1
        · exact .inr ⟨n, m, h1, h2, h3, by omega, by omega, by simp; omega⟩
      · by_cases hs' : 1073741824 < s * 128 + d
        · rw [takeGo_big (by omega) hs']; exact .inl (.inr rfl)
        · rw [takeGo_end (by omega) (by omega)]
          exact .inr ⟨_, _, rfl, by omega, by omega, by omega, by omega, by simp⟩
theorem takeP_fine {b : List Int} (hb : Byt b) :
    (takeP b = (0, 0, 10) ∨ takeP b = (0, 0, 11)) ∨ ∃ n m, takeP b = (n, m, 0) ∧ 0 ≤ n ∧ n ≤ 1073741824 ∧ 0 < m ∧ m ≤ 5 ∧ m ≤ b.length := by
  unfold takeP
  split
  · exact .inl (.inr rfl)
  · rcases takeGo_fine 5 b 0 0 hb (by omega) with h | ⟨n, m, h1, h2, h3, h4, h5, h6⟩
    · exact .inl h
    · exact .inr ⟨n, m, h1, h2, h3, h4, by omega, by omega⟩

/-- What holds at the label: the bytes up to u are taken, their sum is s, and the rest comes to what all come to. -/
def AtNext (n : Nat) (l : List Int) (u : Nat) (s : Int) : Prop := l.length = n ∧ u ≤ 5 ∧ u ≤ n ∧ 0 ≤ s ∧ s < 128 ^ u ∧ takeGo (5 - u) (l.drop u) s u = takeP l
theorem takeP_head {l : List Int} (hl : 0 < l.length) (h : l[0]?.getD 0 = 128) : takeP l = (0, 0, 11) := by
  unfold takeP
  rw [if_pos (by rw [List.getElem?_eq_getElem hl] at h ⊢; rw [← h]; rfl)]
theorem AtNext.first {n : Nat} {l : List Int} (hl : l.length = n) (h : n = 0 ∨ l[0]?.getD 0 ≠ 128) : AtNext n l 0 0 := by
  refine ⟨hl, by omega, by omega, by omega, by decide, ?_⟩
  unfold takeP
  rw [if_neg ?_]
  · rfl
  · intro e
    rcases h with h | h
    · rw [List.getElem?_eq_none (by omega)] at e; cases e
    · rw [e] at h; exact h rfl
theorem AtNext.five {n : Nat} {l : List Int} {u : Nat} {s : Int} (h : AtNext n l u s) (hu : 5 ≤ u) : takeP l = (0, 0, 11) := by
  obtain ⟨_, h5, _, _, _, h⟩ := h
  obtain rfl : u = 5 := by omega
  rw [← h]; rfl
theorem AtNext.short {n : Nat} {l : List Int} {u : Nat} {s : Int} (h : AtNext n l u s) (hu : u < 5) (hn : n ≤ u) : takeP l = (0, 0, 10) := by
  obtain ⟨hl, _, _, _, _, h⟩ := h
  obtain ⟨f, hf⟩ : ∃ f, 5 - u = f + 1 := ⟨4 - u, by omega⟩
  rw [← h, hf, List.drop_of_length_le (by omega)]; rfl
theorem AtNext.go {n : Nat} {l : List Int} {u : Nat} {s : Int} (h : AtNext n l u s) (hu : u < 5) (hn : u < n) :
    takeP l = takeGo (4 - u + 1) (l[u]?.getD 0 :: l.drop (u + 1)) s u := by
  obtain ⟨hl, _, _, _, _, h⟩ := h
  rw [← h, drop_cons (by omega), show 5 - u = 4 - u + 1 by omega]
theorem AtNext.more {n : Nat} {l : List Int} {u : Nat} {s : Int} (h : AtNext n l u s) (hu : u < 5) (hn : u < n) (hd : 128 ≤ l[u]?.getD 0) (hd2 : l[u]?.getD 0 ≤ 255) : AtNext n l (u + 1) (s * 128 + l[u]?.getD 0 % 128) := by
  have hg := h.go hu hn
  have h' := h
  obtain ⟨hl, h5, _, hs, hs2, _⟩ := h'
  rw [takeGo_more hd] at hg
  have e : l[u]?.getD 0 % 128 = l[u]?.getD 0 - 128 := by omega
  exact ⟨hl, by omega, by omega, by omega, by rw [Int.pow_succ]; omega, by rw [hg, e, show 5 - (u + 1) = 4 - u by omega]⟩
theorem AtNext.bound {n : Nat} {l : List Int} {u : Nat} {s : Int} (h : AtNext n l u s) (hu : u < 5) : s < 268435456 := by
  obtain ⟨_, _, _, _, hs, _⟩ := h
  rcases (by omega : u = 0 ∨ u = 1 ∨ u = 2 ∨ u = 3 ∨ u = 4) with rfl | rfl | rfl | rfl | rfl <;> omega
theorem AtNext.big {n : Nat} {l : List Int} {u : Nat} {s : Int} (h : AtNext n l u s) (hu : u < 5) (hn : u < n) (hd : l[u]?.getD 0 < 128) (hs : 1073741824 < s * 128 + l[u]?.getD 0) : takeP l = (0, 0, 11) := by
  rw [h.go hu hn, takeGo_big hd hs]
theorem AtNext.done {n : Nat} {l : List Int} {u : Nat} {s : Int} (h : AtNext n l u s) (hu : u < 5) (hn : u < n) (hd : l[u]?.getD 0 < 128) (hs : s * 128 + l[u]?.getD 0 ≤ 1073741824) : takeP l = (s * 128 + l[u]?.getD 0, u + 1, 0) := by
  rw [h.go hu hn, takeGo_end hd hs]

/-! ### Long bytes -/
def sumL (l : List Int) : Int := l.foldl (fun s d => s * 256 + d) 0
theorem sumL_snoc (l : List Int) (d : Int) : sumL (l ++ [d]) = sumL l * 256 + d := by simp [sumL]
theorem sumL_next {l : List Int} {k : Nat} (hk : k < l.length) : sumL (l.take (k + 1)) = sumL (l.take k) * 256 + l[k]?.getD 0 := by rw [take_snoc hk, sumL_snoc]
theorem sumL_bound {l : List Int} (hb : Byt l) : ∀ k, k ≤ l.length → 0 ≤ sumL (l.take k) ∧ sumL (l.take k) < 256 ^ k := by
  intro k
  induction k with
  | zero => intro _; simp [sumL]
  | succ k ih =>
    intro hk
    have h := ih (by omega)
    have hx := hb.at_ k
    rw [sumL_next (by omega), Int.pow_succ]
    omega
theorem sumL_small {l : List Int} (hb : Byt l) {k : Nat} (hk : k < 5) (hl : k ≤ l.length) : 0 ≤ sumL (l.take k) ∧ sumL (l.take k) < 4294967296 := by
  have h := sumL_bound hb k hl
  rcases (by omega : k = 0 ∨ k = 1 ∨ k = 2 ∨ k = 3 ∨ k = 4) with rfl | rfl | rfl | rfl | rfl <;> omega
/-- TakeLong's answer: the number, what stands behind, the error. -/
def longP (l : List Int) : Int × List Int × Int :=
  if l.length < 5 then (0, [], 10) else if 1073741824 < sumL (l.take 5) then (0, [], 11) else (sumL (l.take 5), l.drop 5, 0)
theorem longP_short {l : List Int} (h : l.length < 5) : longP l = (0, [], 10) := by rw [longP, if_pos h]
theorem longP_big {l : List Int} (h : 5 ≤ l.length) (hs : 1073741824 < sumL (l.take 5)) : longP l = (0, [], 11) := by rw [longP, if_neg (by omega), if_pos hs]
theorem longP_ok {l : List Int} (h : 5 ≤ l.length) (hs : sumL (l.take 5) ≤ 1073741824) : longP l = (sumL (l.take 5), l.drop 5, 0) := by rw [longP, if_neg (by omega), if_neg (by omega)]
end Go.Proofs.YtafeadplmcoilaaDoor.Nu

namespace Go.Proofs.YtafeadplmcoilaaDoor.Nu
/-! ### Many numbers, one behind the other -/
def takesGo : Nat → List Int → List Int → List Int × List Int × Int
  | 0, r, acc => (acc, r, 0)
  | f + 1, r, acc => if (takeP r).2.2 = 0 then takesGo f (r.drop (takeP r).2.1) (acc ++ [(takeP r).1]) else ([], [], (takeP r).2.2)
def takesP (l : List Int) (many : Int) : List Int × List Int × Int := takesGo many.toNat l []
/-- What holds at the label of Takes. -/
def AtMany (l : List Int) (many : Int) (p : Nat) (acc : List Int) : Prop :=
  p ≤ l.length ∧ acc.length ≤ p ∧ acc.length ≤ many.toNat ∧ takesGo (many.toNat - acc.length) (l.drop p) acc = takesP l many
theorem AtMany.first (l : List Int) (many : Int) : AtMany l many 0 [] := ⟨Nat.zero_le _, Nat.zero_le _, Nat.zero_le _, rfl⟩
theorem AtMany.full {l : List Int} {many : Int} {p : Nat} {acc : List Int} (h : AtMany l many p acc) (hm : many ≤ acc.length) : takesP l many = (acc, l.drop p, 0) := by
  obtain ⟨_, _, _, h⟩ := h
  rw [← h, show many.toNat - acc.length = 0 by omega]; rfl
theorem AtMany.go {l : List Int} {many : Int} {p : Nat} {acc : List Int} (h : AtMany l many p acc) (hm : (acc.length : Int) < many) :
    takesP l many = if (takeP (l.drop p)).2.2 = 0 then takesGo (many.toNat - (acc.length + 1)) ((l.drop p).drop (takeP (l.drop p)).2.1) (acc ++ [(takeP (l.drop p)).1]) else ([], [], (takeP (l.drop p)).2.2) := by
  obtain ⟨_, _, _, h⟩ := h
  rw [← h, show many.toNat - acc.length = (many.toNat - (acc.length + 1)) + 1 by omega]; rfl
theorem AtMany.err {l : List Int} {many : Int} {p : Nat} {acc : List Int} (h : AtMany l many p acc) (hm : (acc.length : Int) < many) {e : Int} (he : takeP (l.drop p) = (0, 0, e)) (hne : e ≠ 0) : takesP l many = ([], [], e) := by
  rw [h.go hm, he, if_neg hne]
theorem AtMany.next {l : List Int} {many : Int} {p : Nat} {acc : List Int} (h : AtMany l many p acc) (hm : (acc.length : Int) < many) {x : Int} {m : Nat} (he : takeP (l.drop p) = (x, m, 0)) (h0 : 0 < m) (h1 : m ≤ l.length - p) :
    AtMany l many (p + m) (acc ++ [x]) := by
  have hg := h.go hm
  rw [he] at hg
  simp only [if_true, List.drop_drop] at hg
  obtain ⟨hp, h2, h3, _⟩ := h
  exact ⟨by omega, by simp; omega, by simp; omega, by rw [hg]; simp⟩
end Go.Proofs.YtafeadplmcoilaaDoor.Nu

namespace Go.Proofs.YtafeadplmcoilaaDoor.Nu
open Go

/-- How many digits: at least so many, and as many as the bits want. -/
def howMany (n width least : Int) : Int := max least ((((Lib.bitLen n.toNat : Nat) : Int) + width - 1) / width)

/-- What has come when k rounds are over. -/
def upTo {α : Type} (f : Nat → α) (k : Nat) : List α := (List.range k).map f
theorem upTo_succ {α : Type} (f : Nat → α) (k : Nat) : upTo f (k + 1) = upTo f k ++ [f k] := by simp [upTo, List.range_succ]
theorem upTo_length {α : Type} (f : Nat → α) (k : Nat) : (upTo f k).length = k := by simp [upTo]

/-- The digit behind which so many stand. -/
def digit (n : Int) (width left : Nat) : Int := n / 2 ^ (left * width) % 2 ^ width
/-- The k-th round's two values. -/
def roundAt (n : Int) (width m k : Nat) : Int × Int := ((m - 1 - k : Nat), digit n width (m - 1 - k))
theorem roundAt_of {n : Int} {width m k : Nat} (left : Nat) {d : Int} (h : m - 1 - k = left) (hd : n / 2 ^ (left * width) % 2 ^ width = d) : roundAt n width m k = ((left : Int), d) := by
  unfold roundAt digit
  rw [h, hd]

/-- A short digit as it is put: 128 more, if another one stands behind it. -/
def putShort (x : Int × Int) : Int := if 0 < x.1 then (x.2 + 128) % 256 else x.2
/-- How many short digits. -/
def cnt (n : Int) : Nat := (howMany n 7 1).toNat
def shortOf (n : Int) : List Int := (upTo (roundAt n 7 (cnt n)) (cnt n)).map putShort
def shortsOf (l : List Int) : List Int := l.flatMap shortOf
/-- A long digit as it is put. -/
def putLong (x : Int × Int) : Int := x.2
def longOf (n : Int) : List Int := (upTo (roundAt n 8 5) 5).map putLong
def longsOf (l : List Int) : List Int := l.flatMap longOf
theorem shortsOf_snoc (l : List Int) (x : Int) : shortsOf (l ++ [x]) = shortsOf l ++ shortOf x := by simp [shortsOf]
theorem longsOf_snoc (l : List Int) (x : Int) : longsOf (l ++ [x]) = longsOf l ++ longOf x := by simp [longsOf]
theorem bitLen_31 {n : Int} (hn : 0 ≤ n ∧ n ≤ 1073741824) : Lib.bitLen n.toNat ≤ 31 := Lib.bitLen_le n.toNat 31 (by omega) (by omega)
theorem howMany_7 {n : Int} (hn : 0 ≤ n ∧ n ≤ 1073741824) : howMany n 7 1 = (cnt n : Int) ∧ 1 ≤ cnt n ∧ cnt n ≤ 5 := by
  have h := bitLen_31 hn
  unfold cnt howMany
  omega
theorem howMany_8 {n : Int} (hn : 0 ≤ n ∧ n ≤ 1073741824) : howMany n 8 5 = ((5 : Nat) : Int) := by
  have h := bitLen_31 hn
  unfold howMany
  omega
theorem shortOf_length (n : Int) : (shortOf n).length = cnt n := by simp [shortOf, upTo_length]
theorem longOf_length (n : Int) : (longOf n).length = 5 := by simp [longOf, upTo_length]
theorem shortsOf_length {l : List Int} (h : allNum l = true) : (shortsOf l).length ≤ 5 * l.length := by
  induction l with
  | nil => simp [shortsOf]
  | cons x l ih =>
    simp only [allNum, List.all_cons, Bool.and_eq_true] at h
    have h1 := ih h.2
    have h2 := (howMany_7 (isNum_iff.1 h.1)).2
    rw [show shortsOf (x :: l) = shortOf x ++ shortsOf l from rfl, List.length_append, shortOf_length, List.length_cons]
    omega
theorem longsOf_length (l : List Int) : (longsOf l).length = 5 * l.length := by
  induction l with
  | nil => simp [longsOf]
  | cons x l ih =>
    rw [show longsOf (x :: l) = longOf x ++ longsOf l from rfl, List.length_append, longOf_length, ih, List.length_cons]
    omega
theorem allNum_take {l : List Int} (h : allNum l = true) (k : Nat) : allNum (l.take k) = true :=
  List.all_eq_true.2 fun x hx => List.all_eq_true.1 h x (List.mem_of_mem_take hx)
theorem digit_byte (n : Int) (width left : Nat) (hw : width = 7 ∨ width = 8) : 0 ≤ digit n width left ∧ digit n width left < 2 ^ width := by
  unfold digit
  rcases hw with rfl | rfl
  · exact ⟨Int.emod_nonneg _ (by decide), Int.emod_lt_of_pos _ (by decide)⟩
  · exact ⟨Int.emod_nonneg _ (by decide), Int.emod_lt_of_pos _ (by decide)⟩
end Go.Proofs.YtafeadplmcoilaaDoor.Nu

namespace Go.Proofs.YtafeadplmcoilaaDoor.Nu
open Go

theorem bl_gt {x k : Nat} (h : 2 ^ k ≤ x) (hx : x < 2 ^ 64) : k < Lib.bitLen x := by
  rcases Nat.lt_or_ge k (Lib.bitLen x) with h1 | h1
  · exact h1
  · have h0 : x ≠ 0 := by
      intro e
      have := Nat.two_pow_pos k
      omega
    have h2 := (Lib.bitLenAux_bounds 64 x hx h0).2.2
    have h3 : 2 ^ Lib.bitLen x ≤ 2 ^ k := Nat.pow_le_pow_right (by omega) h1
    have h4 : x < 2 ^ Lib.bitLen x := h2
    omega
theorem cnt_of {n : Int} (k : Nat) (hk : 1 ≤ k) (h1 : k = 1 ∨ 2 ^ (7 * (k - 1)) ≤ n.toNat) (h2 : n.toNat < 2 ^ (7 * k)) (h3 : n ≤ 1073741824) (hk5 : k ≤ 5) : cnt n = k := by
  have hle := Lib.bitLen_le n.toNat (7 * k) (by omega) h2
  have hge : k = 1 ∨ 7 * (k - 1) < Lib.bitLen n.toNat := by
    rcases h1 with h1 | h1
    · exact .inl h1
    · exact .inr (bl_gt h1 (by omega))
  unfold cnt howMany
  omega
theorem cnt_1 {n : Int} (h : n < 128) : cnt n = 1 := cnt_of 1 (by omega) (.inl rfl) (by omega) (by omega) (by omega)
theorem cnt_2 {n : Int} (h : 128 ≤ n) (h' : n < 16384) : cnt n = 2 := cnt_of 2 (by omega) (.inr (by omega)) (by omega) (by omega) (by omega)
theorem cnt_3 {n : Int} (h : 16384 ≤ n) (h' : n < 2097152) : cnt n = 3 := cnt_of 3 (by omega) (.inr (by omega)) (by omega) (by omega) (by omega)
theorem cnt_4 {n : Int} (h : 2097152 ≤ n) (h' : n < 268435456) : cnt n = 4 := cnt_of 4 (by omega) (.inr (by omega)) (by omega) (by omega) (by omega)
theorem cnt_5 {n : Int} (h : 268435456 ≤ n) (h' : n ≤ 1073741824) : cnt n = 5 := cnt_of 5 (by omega) (.inr (by omega)) (by omega) (by omega) (by omega)

theorem short_1 {n : Int} (h0 : 0 ≤ n) (h : n < 128) : shortOf n = [n] := by
  simp [shortOf, cnt_1 h, upTo, roundAt, digit, putShort]
  omega
theorem short_2 {n : Int} (h : 128 ≤ n) (h' : n < 16384) : shortOf n = [n / 128 + 128, n % 128] := by
  simp [shortOf, cnt_2 h h', upTo, roundAt, digit, putShort, List.range_succ]
  omega
theorem short_3 {n : Int} (h : 16384 ≤ n) (h' : n < 2097152) : shortOf n = [n / 16384 + 128, n / 128 % 128 + 128, n % 128] := by
  simp [shortOf, cnt_3 h h', upTo, roundAt, digit, putShort, List.range_succ]
  omega
theorem short_4 {n : Int} (h : 2097152 ≤ n) (h' : n < 268435456) : shortOf n = [n / 2097152 + 128, n / 16384 % 128 + 128, n / 128 % 128 + 128, n % 128] := by
  simp [shortOf, cnt_4 h h', upTo, roundAt, digit, putShort, List.range_succ]
  omega
theorem short_5 {n : Int} (h : 268435456 ≤ n) (h' : n ≤ 1073741824) : shortOf n = [n / 268435456 + 128, n / 2097152 % 128 + 128, n / 16384 % 128 + 128, n / 128 % 128 + 128, n % 128] := by
  simp [shortOf, cnt_5 h h', upTo, roundAt, digit, putShort, List.range_succ]
  omega
theorem long_eq (n : Int) : longOf n = [n / 4294967296 % 256, n / 16777216 % 256, n / 65536 % 256, n / 256 % 256, n % 256] := by
  simp [longOf, upTo, roundAt, digit, putLong, List.range_succ]

theorem five {n : Int} (h0 : 0 ≤ n) (h1 : n ≤ 1073741824) : n < 128 ∨ (128 ≤ n ∧ n < 16384) ∨ (16384 ≤ n ∧ n < 2097152) ∨ (2097152 ≤ n ∧ n < 268435456) ∨ (268435456 ≤ n ∧ n ≤ 1073741824) := by omega

theorem takeP_go {b : List Int} (h : b[0]?.getD 0 ≠ 128) : takeP b = takeGo 5 b 0 0 := by
  unfold takeP
  rw [if_neg]
  intro e
  rw [e] at h
  exact h rfl

/-- What was put is taken, whatever stands behind. -/
theorem takeP_short {n : Int} (h0 : 0 ≤ n) (h1 : n ≤ 1073741824) (rest : List Int) : takeP (shortOf n ++ rest) = (n, cnt n, 0) := by
  rcases five h0 h1 with h | ⟨h, h'⟩ | ⟨h, h'⟩ | ⟨h, h'⟩ | ⟨h, h'⟩
  · rw [short_1 h0 h, cnt_1 h, takeP_go (by simp; omega)]
    simp only [List.cons_append, List.nil_append]
    rw [takeGo_end h (by omega)]
    simp
  · rw [short_2 h h', cnt_2 h h', takeP_go (by simp; omega)]
    simp only [List.cons_append, List.nil_append]
    rw [takeGo_more (by omega), takeGo_end (by omega) (by omega)]
    simp; omega
  · rw [short_3 h h', cnt_3 h h', takeP_go (by simp; omega)]
    simp only [List.cons_append, List.nil_append]
    rw [takeGo_more (by omega), takeGo_more (by omega), takeGo_end (by omega) (by omega)]
    simp; omega
  · rw [short_4 h h', cnt_4 h h', takeP_go (by simp; omega)]
    simp only [List.cons_append, List.nil_append]
    rw [takeGo_more (by omega), takeGo_more (by omega), takeGo_more (by omega), takeGo_end (by omega) (by omega)]
    simp; omega
  · rw [short_5 h h', cnt_5 h h', takeP_go (by simp; omega)]
    simp only [List.cons_append, List.nil_append]
    rw [takeGo_more (by omega), takeGo_more (by omega), takeGo_more (by omega), takeGo_more (by omega), takeGo_end (by omega) (by omega)]
    simp; omega

/-- With one byte fewer there are too few. -/
theorem takeP_fewer {n : Int} (h0 : 0 ≤ n) (h1 : n ≤ 1073741824) : takeP ((shortOf n).take (cnt n - 1)) = (0, 0, 10) := by
  rcases five h0 h1 with h | ⟨h, h'⟩ | ⟨h, h'⟩ | ⟨h, h'⟩ | ⟨h, h'⟩
  · rw [short_1 h0 h, cnt_1 h]; rfl
  · rw [short_2 h h', cnt_2 h h']
    simp only [Nat.reduceSub, List.take_succ_cons, List.take_zero]
    rw [takeP_go (by simp; omega), takeGo_more (by omega)]; rfl
  · rw [short_3 h h', cnt_3 h h']
    simp only [Nat.reduceSub, List.take_succ_cons, List.take_zero]
    rw [takeP_go (by simp; omega), takeGo_more (by omega), takeGo_more (by omega)]; rfl
  · rw [short_4 h h', cnt_4 h h']
    simp only [Nat.reduceSub, List.take_succ_cons, List.take_zero]
    rw [takeP_go (by simp; omega), takeGo_more (by omega), takeGo_more (by omega), takeGo_more (by omega)]; rfl
  · rw [short_5 h h', cnt_5 h h']
    simp only [Nat.reduceSub, List.take_succ_cons, List.take_zero]
    rw [takeP_go (by simp; omega), takeGo_more (by omega), takeGo_more (by omega), takeGo_more (by omega), takeGo_more (by omega)]; rfl

/-- Many: what was put is taken. -/
theorem takesGo_short {l : List Int} (h : allNum l = true) : ∀ (rest acc : List Int), takesGo l.length (shortsOf l ++ rest) acc = (acc ++ l, rest, 0) := by
  induction l with
  | nil => intro rest acc; simp [takesGo, shortsOf]
  | cons x l ih =>
    intro rest acc
    simp only [allNum, List.all_cons, Bool.and_eq_true] at h
    have hx := isNum_iff.1 h.1
    rw [show shortsOf (x :: l) = shortOf x ++ shortsOf l from rfl, List.append_assoc, List.length_cons, takesGo, takeP_short hx.1 hx.2]
    simp only [if_true]
    rw [show (shortOf x ++ (shortsOf l ++ rest)).drop (cnt x) = shortsOf l ++ rest from by rw [← shortOf_length x, List.drop_left], ih h.2]
    simp
theorem takesP_short {l : List Int} (h : allNum l = true) (rest : List Int) : takesP (shortsOf l ++ rest) (l.length : Int) = (l, rest, 0) := by
  unfold takesP
  rw [Int.toNat_natCast, takesGo_short h rest []]
  simp

theorem takeGo_inv {f : Nat} {b : List Int} {s n : Int} {u m : Nat} (h : takeGo (f + 1) b s u = (n, m, 0)) :
    ∃ d r, b = d :: r ∧ ((d < 128 ∧ n = s * 128 + d ∧ n ≤ 1073741824 ∧ m = u + 1) ∨ (128 ≤ d ∧ takeGo f r (s * 128 + (d - 128)) (u + 1) = (n, m, 0))) := by
  cases b with
  | nil => rw [takeGo_nil] at h; simp at h
  | cons d r =>
    refine ⟨d, r, rfl, ?_⟩
    by_cases hd : 128 ≤ d
    · rw [takeGo_more hd] at h
      exact .inr ⟨hd, h⟩
    · by_cases hs : 1073741824 < s * 128 + d
      · rw [takeGo_big (by omega) hs] at h; simp at h
      · rw [takeGo_end (by omega) (by omega)] at h
        simp at h
        exact .inl ⟨by omega, by omega, by omega, by omega⟩
/-- What is taken is put as the bytes that were there. -/
theorem short_takeP {b : List Int} (hb : Byt b) {n : Int} {m : Nat} (h : takeP b = (n, m, 0)) : shortOf n = b.take m ∧ m = cnt n ∧ 0 ≤ n ∧ n ≤ 1073741824 := by
  have hne : b[0]? ≠ some 128 := by
    intro e
    unfold takeP at h
    rw [if_pos e] at h
    simp at h
  unfold takeP at h
  rw [if_neg hne] at h
  obtain ⟨d0, r0, rfl, h0⟩ := takeGo_inv h
  have b0 := hb d0 (by simp)
  have hd0 : d0 ≠ 128 := by intro e; subst e; exact hne rfl
  rcases h0 with ⟨g0, hn, hmax, hm⟩ | ⟨g0, h0⟩
  · have e1 : n < 128 := by omega
    rw [short_1 (by omega) e1, cnt_1 e1]
    subst hm
    refine ⟨?_, rfl, by omega, by omega⟩
    simp; omega
  obtain ⟨d1, r1, rfl, h1⟩ := takeGo_inv h0
  have b1 := hb d1 (by simp)
  rcases h1 with ⟨g1, hn, hmax, hm⟩ | ⟨g1, h1⟩
  · have e1 : 128 ≤ n := by omega
    have e2 : n < 16384 := by omega
    rw [short_2 e1 e2, cnt_2 e1 e2]
    subst hm
    refine ⟨?_, rfl, by omega, by omega⟩
    simp; omega
  obtain ⟨d2, r2, rfl, h2⟩ := takeGo_inv h1
  have b2 := hb d2 (by simp)
  rcases h2 with ⟨g2, hn, hmax, hm⟩ | ⟨g2, h2⟩
  · have e1 : 16384 ≤ n := by omega
    have e2 : n < 2097152 := by omega
    rw [short_3 e1 e2, cnt_3 e1 e2]
    subst hm
    refine ⟨?_, rfl, by omega, by omega⟩
    simp; omega
  obtain ⟨d3, r3, rfl, h3⟩ := takeGo_inv h2
  have b3 := hb d3 (by simp)
  rcases h3 with ⟨g3, hn, hmax, hm⟩ | ⟨g3, h3⟩
  · have e1 : 2097152 ≤ n := by omega
    have e2 : n < 268435456 := by omega
    rw [short_4 e1 e2, cnt_4 e1 e2]
    subst hm
    refine ⟨?_, rfl, by omega, by omega⟩
    simp; omega
  obtain ⟨d4, r4, rfl, h4⟩ := takeGo_inv h3
  have b4 := hb d4 (by simp)
  rcases h4 with ⟨g4, hn, hmax, hm⟩ | ⟨g4, h4⟩
  · have e1 : 268435456 ≤ n := by omega
    rw [short_5 e1 hmax, cnt_5 e1 hmax]
    subst hm
    refine ⟨?_, rfl, by omega, by omega⟩
    simp; omega
  · rw [takeGo_zero] at h4; simp at h4

/-- Long bytes. -/
theorem longP_long {n : Int} (h0 : 0 ≤ n) (h1 : n ≤ 1073741824) (rest : List Int) : longP (longOf n ++ rest) = (n, rest, 0) := by
  rw [long_eq]
  simp only [List.cons_append, List.nil_append]
  rw [longP_ok (by simp) (by simp [sumL]; omega)]
  simp [sumL]
  omega
theorem long_longP {b : List Int} (hb : Byt b) {n : Int} {r : List Int} (h : longP b = (n, r, 0)) : longOf n ++ r = b ∧ 0 ≤ n ∧ n ≤ 1073741824 := by
  by_cases hl : b.length < 5
  · rw [longP_short hl] at h; simp at h
  · by_cases hs : 1073741824 < sumL (b.take 5)
    · rw [longP_big (by omega) hs] at h; simp at h
    · rw [longP_ok (by omega) (by omega)] at h
      simp only [Prod.mk.injEq, and_true] at h
      obtain ⟨h1, h2⟩ := h
      match b, hl with
      | d0 :: d1 :: d2 :: d3 :: d4 :: q, _ =>
        have b0 := hb d0 (by simp)
        have b1 := hb d1 (by simp)
        have b2 := hb d2 (by simp)
        have b3 := hb d3 (by simp)
        have b4 := hb d4 (by simp)
        simp [sumL] at h1 h2 hs
        subst h2
        rw [long_eq]
        refine ⟨?_, by omega, by omega⟩
        simp
        omega
      | [], hl => simp at hl
      | [_], hl => simp at hl
      | [_, _], hl => simp at hl
      | [_, _, _], hl => simp at hl
      | [_, _, _, _], hl => simp at hl
end Go.Proofs.YtafeadplmcoilaaDoor.Nu

namespace Go.Proofs.YtafeadplmcoilaaDoor.Nu
open Go.RowKit

set_option maxRecDepth 100000 in
theorem bits_len (x : Int) (w : World) (h0 : 0 ≤ x) (h1 : x ≤ 18446744073709551615) :
    Calls Tryd.prog 64 #[.int .u64 x] w fun e w' => e = .returned (.int .i64 (Lib.bitLen x.toNat)) ∧ w' = w := by
  go_enter Tryd.func64, Tryd.ntmps64
  go_wp2_with (go_at_call 71; refine (Tryd.bits_Len64 x _ h0 h1).mono ?_; rintro e w' ⟨rfl, rfl⟩)
  go_ret
  exact ⟨rfl, rfl⟩
end Go.Proofs.YtafeadplmcoilaaDoor.Nu

namespace Go.Proofs.YtafeadplmcoilaaDoor.Nu
open Go.RowKit

theorem len_at (n : Int) (w : World) (h0 : 0 ≤ n) (h1 : n ≤ 1073741824) :
    Calls Tryd.prog 64 #[.int .u64 (IntKind.u64.wrap n)] w fun e w' => e = .returned (.int .i64 (Lib.bitLen n.toNat)) ∧ w = w' := by
  have e : IntKind.u64.wrap n = n := by rw [IntKind.wrap_u64]; omega
  rw [e]
  exact (bits_len n w h0 (by omega)).mono fun _ _ ⟨a, b⟩ => ⟨a, b.symm⟩

/-- The iterator's value, and what it has captured. -/
def DigOut (n width least : Int) (w : World) (e : Ending) (w' : World) : Prop :=
  e = .returned (.func (.func 65) #[] #[.pointer (some ⟨w.heap.size + 2, 0, none⟩), .pointer (some ⟨w.heap.size, 0, none⟩), .pointer (some ⟨w.heap.size + 1, 0, none⟩)]) ∧
  Boxed w' w.heap.size 3 (.int .i64 n) ∧ Boxed w' (w.heap.size + 1) 3 (.int .i64 width) ∧ Boxed w' (w.heap.size + 2) 3 (.int .i64 (howMany n width least)) ∧
  w'.heap.size = w.heap.size + 3 ∧ Below w.heap.size w w'
theorem DigOut.mk (n width least : Int) (w : World) :
    DigOut n width least w (.returned (.func (.func 65) #[] #[.pointer (some ⟨w.heap.size + 1 + 1, 0, none⟩), .pointer (some ⟨w.heap.size, 0, none⟩), .pointer (some ⟨w.heap.size + 1, 0, none⟩)]))
      (((w.alloc (.cells #[.int .i64 n] 3)).alloc (.cells #[.int .i64 width] 3)).alloc (.cells #[.int .i64 (max least ((((Lib.bitLen n.toNat : Nat) : Int) + width - 1) / width))] 3)).drew := by
  have h1 := (((Boxed.new w 3 (.int .i64 n)).alloc (.cells #[.int .i64 width] 3)).alloc (.cells #[.int .i64 (max least ((((Lib.bitLen n.toNat : Nat) : Int) + width - 1) / width))] 3))
  have h2 := (Boxed.new (w.alloc (.cells #[.int .i64 n] 3)) 3 (.int .i64 width)).alloc (.cells #[.int .i64 (max least ((((Lib.bitLen n.toNat : Nat) : Int) + width - 1) / width))] 3)
  have h3 := Boxed.new ((w.alloc (.cells #[.int .i64 n] 3)).alloc (.cells #[.int .i64 width] 3)) 3 (.int .i64 (max least ((((Lib.bitLen n.toNat : Nat) : Int) + width - 1) / width)))
  rw [World.size_alloc] at h2
  rw [World.size_alloc, World.size_alloc] at h3
  refine ⟨rfl, h1, h2, h3, ?_, ?_⟩
  · show (((w.alloc _).alloc _).alloc _).heap.size = _
    rw [World.size_alloc, World.size_alloc, World.size_alloc]
  · exact ((((Below.refl _ w).alloc (Nat.le_refl _) _).alloc (by simp) _).alloc (by simp; omega) _).drew

set_option maxRecDepth 100000 in
set_option maxHeartbeats 400000 in
theorem digits_any (n width least : Int) (w : World) (hn : 0 ≤ n ∧ n ≤ 1073741824) (hw : 7 ≤ width ∧ width ≤ 8) :
    Calls Tryd.prog 51 #[.int .i64 n, .int .i64 width, .int .i64 least] w (DigOut n width least w) := by
  have hL : ((Lib.bitLen n.toNat : Nat) : Int) ≤ 31 := by
    have := Lib.bitLen_le n.toNat 31 (by omega) (by omega)
    omega
  have hL0 : 0 ≤ ((Lib.bitLen n.toNat : Nat) : Int) := by omega
  have hw0 : ¬ width = 0 := by omega
  go_enter Tryd.func51, Tryd.ntmps51
  go_wp2
  go_region_held3 (fun w' => w'.cell? ⟨w.heap.size, 0, none⟩ = some (.int .i64 n) ∧ w'.cell? ⟨w.heap.size + 1, 0, none⟩ = some (.int .i64 width)) (go_keep)
    (first | (go_at_call 64; refine (len_at n _ (by omega) (by omega)).mono ?_; rintro e w' ⟨rfl, rfl⟩))
  all_goals
    go_wp2
    go_ret
    exact DigOut.mk n width least w
end Go.Proofs.YtafeadplmcoilaaDoor.Nu

namespace Go.Proofs.YtafeadplmcoilaaDoor.Nu
open Go.RowKit Go.Shelf

attribute [local go_sem] Oper.semAt_some

/-- What 64 bits hold of a number that is not below 0. -/
theorem bits_nat (a : Nat) (ha : a < 9223372036854775808) : (BitVec.ofInt 64 (a : Int)).toNat = a := by
  rw [BitVec.ofInt_natCast, BitVec.toNat_ofNat]
  omega
theorem i64_and_nat (a b : Nat) (ha : a < 9223372036854775808) (hb : b < 9223372036854775808) : bits .and .i64 (a : Int) (b : Int) = ((a &&& b : Nat) : Int) := by
  have hx : a &&& b ≤ a := Nat.and_le_left
  show IntKind.i64.wrap ((BitVec.ofInt 64 (a : Int) &&& BitVec.ofInt 64 (b : Int)).toNat : Int) = _
  rw [BitVec.toNat_and, bits_nat a ha, bits_nat b hb, IntKind.wrap_i64]
  omega
theorem i64_and_low (x : Int) (h0 : 0 ≤ x) (h1 : x ≤ 1073741824) : bits .and .i64 x 127 = x % 128 ∧ bits .and .i64 x 255 = x % 256 := by
  have e1 := i64_and_nat x.toNat 127 (by omega) (by omega)
  have e2 := i64_and_nat x.toNat 255 (by omega) (by omega)
  rw [show ((x.toNat : Nat) : Int) = x by omega] at e1 e2
  have e3 : x.toNat &&& 127 = x.toNat % 128 := Nat.and_two_pow_sub_one_eq_mod x.toNat 7
  have e4 : x.toNat &&& 255 = x.toNat % 256 := Nat.and_two_pow_sub_one_eq_mod x.toNat 8
  rw [e3] at e1
  rw [e4] at e2
  exact ⟨e1.trans (by omega), e2.trans (by omega)⟩
abbrev encs (p : Int × Int) : Array Value := #[.int .i64 p.1, .int .u8 p.2]

/-- What a round must leave alone: the three boxes that the iterator reads. -/
def Kp3 (bm bn bw : Nat) (A B : World) : Prop := B.heap[bm]? = A.heap[bm]? ∧ B.heap[bn]? = A.heap[bn]? ∧ B.heap[bw]? = A.heap[bw]?
theorem Kp3.refl (bm bn bw : Nat) (A : World) : Kp3 bm bn bw A A := ⟨rfl, rfl, rfl⟩
theorem Kp3.trans {bm bn bw : Nat} {A B C : World} (h : Kp3 bm bn bw A B) (k : Kp3 bm bn bw B C) : Kp3 bm bn bw A C := ⟨k.1.trans h.1, k.2.1.trans h.2.1, k.2.2.trans h.2.2⟩
theorem Kp3.drew {bm bn bw : Nat} {A B : World} (h : Kp3 bm bn bw A B) : Kp3 bm bn bw A B.drew := h

set_option maxRecDepth 100000 in
set_option maxHeartbeats 2000000 in
theorem iter_in (l bm bn bw m width : Nat) (n : Int) (hn : 0 ≤ n ∧ n ≤ 1073741824) (hw : width = 7 ∨ width = 8) (hm : 1 ≤ m ∧ m ≤ 5) (J Jx : List (Int × Int) → World → Prop)
    (hJd : ∀ pre W, J pre W → J pre W.drew) (hY : ∀ pre x W, J pre W → pre.length < m → YieldAt Fence.wide 2 Tryd.prog l (encs x) W fun e W' =>
      (e = .returned (.bool true) ∧ J (pre ++ [x]) W' ∧ Kp3 bm bn bw W W') ∨ (e = .returned (.bool false) ∧ Jx (pre ++ [x]) W'))
    (W : World) (hcm : W.cell? ⟨bm, 0, none⟩ = some (.int .i64 m)) (hcn : W.cell? ⟨bn, 0, none⟩ = some (.int .i64 n)) (hcw : W.cell? ⟨bw, 0, none⟩ = some (.int .i64 width)) (h0 : J [] W) :
    CallsIn Fence.wide 3 Tryd.prog 65 #[.func (.yield l) #[] #[], .pointer (some ⟨bm, 0, none⟩), .pointer (some ⟨bn, 0, none⟩), .pointer (some ⟨bw, 0, none⟩)] W fun e W' => (∃ v, e = .returned v) ∧
      ((∃ ys, ys = upTo (roundAt n width m) m ∧ J ys W') ∨ (∃ pre, True ∧ Jx pre W')) := by
  refine callsIn_of_wp Tryd.func65 rfl trivial ?_ rfl
  simp only [Tryd.ntmps65, List.size_toArray, List.length_cons, List.length_nil, Nat.reduceAdd, Nat.reduceSub, Array.replicate_succ, Array.replicate_zero, List.push_toArray, List.append_toArray, List.nil_append, List.cons_append]
  gi_wp2
  gi_loopw [5] (fun i wr => ∃ (k r : Nat), k + r = m ∧ i = .int .i64 ((r : Int) - 1) ∧ J (upTo (roundAt n width m) k) wr ∧ Kp3 bm bn bw W wr)
    (fun i _ => (intOf i + 1).toNat)
  case atStart => exact ⟨0, m, by omega, rfl, h0, Kp3.refl _ _ _ _⟩
  case round =>
    obtain ⟨k, r, hk, rfl, hJs, hnx⟩ := hrel
    have mixed : Tryd.prog.follows .mixedOrders = true := by kernel_rfl
    by_cases hlt : 0 < r
    · have hcn' := (World.cell?_of_block (a := ⟨bn, 0, none⟩) hnx.2.1).trans hcn
      have hcw' := (World.cell?_of_block (a := ⟨bw, 0, none⟩) hnx.2.2).trans hcw
      have hJd' := hJd _ _ hJs
      rcases hw with rfl | rfl
      all_goals
        rcases (by omega : r = 1 ∨ r = 2 ∨ r = 3 ∨ r = 4 ∨ r = 5) with rfl | rfl | rfl | rfl | rfl
      · have Hx : Hid (roundAt n 7 m k = (0, n % 128)) := Lib.hid (roundAt_of 0 (by omega) (by simp))
        have hb := (i64_and_low (n) (by omega) (by omega)).1
        obtain ⟨fn, tmps, assign, body, hy, hR⟩ := hY _ (0, n % 128) _ hJd' (by rw [upTo_length]; omega)
        dsimp only [encs] at hy
        gi_wp2
        gi_region_o
        gi_wp2
        refine hR.mono ?_
        rintro e W3 (⟨rfl, hJ3, hk3⟩ | ⟨rfl, hJx3⟩)
        · gi_wp2
          go_roundw
          case rel => exact ⟨k + 1, 0, by omega, by simp, by rw [upTo_succ, Hx.out]; exact hJ3, (hnx.drew).trans hk3⟩
          case measure => simp [intOf]
        · gi_wp2
          refine bodyPost_ret (results_none rfl _ _ _) rfl ?_
          exact ⟨⟨_, rfl⟩, .inr ⟨_, trivial, hJx3⟩⟩
      · have Hx : Hid (roundAt n 7 m k = (1, n / 128 % 128)) := Lib.hid (roundAt_of 1 (by omega) (by simp))
        have hb := (i64_and_low (n / 128) (by omega) (by omega)).1
        obtain ⟨fn, tmps, assign, body, hy, hR⟩ := hY _ (1, n / 128 % 128) _ hJd' (by rw [upTo_length]; omega)
        dsimp only [encs] at hy
        gi_wp2
        gi_region_o
        gi_wp2
        refine hR.mono ?_
        rintro e W3 (⟨rfl, hJ3, hk3⟩ | ⟨rfl, hJx3⟩)
        · gi_wp2
          go_roundw
          case rel => exact ⟨k + 1, 1, by omega, by simp, by rw [upTo_succ, Hx.out]; exact hJ3, (hnx.drew).trans hk3⟩
          case measure => simp [intOf]
        · gi_wp2
          refine bodyPost_ret (results_none rfl _ _ _) rfl ?_
          exact ⟨⟨_, rfl⟩, .inr ⟨_, trivial, hJx3⟩⟩
      · have Hx : Hid (roundAt n 7 m k = (2, n / 16384 % 128)) := Lib.hid (roundAt_of 2 (by omega) (by simp))
        have hb := (i64_and_low (n / 16384) (by omega) (by omega)).1
        obtain ⟨fn, tmps, assign, body, hy, hR⟩ := hY _ (2, n / 16384 % 128) _ hJd' (by rw [upTo_length]; omega)
        dsimp only [encs] at hy
        gi_wp2
        gi_region_o
        gi_wp2
        refine hR.mono ?_
        rintro e W3 (⟨rfl, hJ3, hk3⟩ | ⟨rfl, hJx3⟩)
        · gi_wp2
          go_roundw
          case rel => exact ⟨k + 1, 2, by omega, by simp, by rw [upTo_succ, Hx.out]; exact hJ3, (hnx.drew).trans hk3⟩
          case measure => simp [intOf]
        · gi_wp2
          refine bodyPost_ret (results_none rfl _ _ _) rfl ?_
          exact ⟨⟨_, rfl⟩, .inr ⟨_, trivial, hJx3⟩⟩
      · have Hx : Hid (roundAt n 7 m k = (3, n / 2097152 % 128)) := Lib.hid (roundAt_of 3 (by omega) (by simp))
        have hb := (i64_and_low (n / 2097152) (by omega) (by omega)).1
        obtain ⟨fn, tmps, assign, body, hy, hR⟩ := hY _ (3, n / 2097152 % 128) _ hJd' (by rw [upTo_length]; omega)
        dsimp only [encs] at hy
        gi_wp2
        gi_region_o
        gi_wp2
        refine hR.mono ?_
        rintro e W3 (⟨rfl, hJ3, hk3⟩ | ⟨rfl, hJx3⟩)
        · gi_wp2
          go_roundw
          case rel => exact ⟨k + 1, 3, by omega, by simp, by rw [upTo_succ, Hx.out]; exact hJ3, (hnx.drew).trans hk3⟩
          case measure => simp [intOf]
        · gi_wp2
          refine bodyPost_ret (results_none rfl _ _ _) rfl ?_
          exact ⟨⟨_, rfl⟩, .inr ⟨_, trivial, hJx3⟩⟩
      · have Hx : Hid (roundAt n 7 m k = (4, n / 268435456 % 128)) := Lib.hid (roundAt_of 4 (by omega) (by simp))
        have hb := (i64_and_low (n / 268435456) (by omega) (by omega)).1
        obtain ⟨fn, tmps, assign, body, hy, hR⟩ := hY _ (4, n / 268435456 % 128) _ hJd' (by rw [upTo_length]; omega)
        dsimp only [encs] at hy
        gi_wp2
        gi_region_o
        gi_wp2
        refine hR.mono ?_
        rintro e W3 (⟨rfl, hJ3, hk3⟩ | ⟨rfl, hJx3⟩)
        · gi_wp2
          go_roundw
          case rel => exact ⟨k + 1, 4, by omega, by simp, by rw [upTo_succ, Hx.out]; exact hJ3, (hnx.drew).trans hk3⟩
          case measure => simp [intOf]
        · gi_wp2
          refine bodyPost_ret (results_none rfl _ _ _) rfl ?_
          exact ⟨⟨_, rfl⟩, .inr ⟨_, trivial, hJx3⟩⟩
      · have Hx : Hid (roundAt n 8 m k = (0, n % 256)) := Lib.hid (roundAt_of 0 (by omega) (by simp))
        have hb := (i64_and_low (n) (by omega) (by omega)).2
        obtain ⟨fn, tmps, assign, body, hy, hR⟩ := hY _ (0, n % 256) _ hJd' (by rw [upTo_length]; omega)
        dsimp only [encs] at hy
        gi_wp2
        gi_region_o
        gi_wp2
        refine hR.mono ?_
        rintro e W3 (⟨rfl, hJ3, hk3⟩ | ⟨rfl, hJx3⟩)
        · gi_wp2
          go_roundw
          case rel => exact ⟨k + 1, 0, by omega, by simp, by rw [upTo_succ, Hx.out]; exact hJ3, (hnx.drew).trans hk3⟩
          case measure => simp [intOf]
        · gi_wp2
          refine bodyPost_ret (results_none rfl _ _ _) rfl ?_
          exact ⟨⟨_, rfl⟩, .inr ⟨_, trivial, hJx3⟩⟩
      · have Hx : Hid (roundAt n 8 m k = (1, n / 256 % 256)) := Lib.hid (roundAt_of 1 (by omega) (by simp))
        have hb := (i64_and_low (n / 256) (by omega) (by omega)).2
        obtain ⟨fn, tmps, assign, body, hy, hR⟩ := hY _ (1, n / 256 % 256) _ hJd' (by rw [upTo_length]; omega)
        dsimp only [encs] at hy
        gi_wp2
        gi_region_o
        gi_wp2
        refine hR.mono ?_
        rintro e W3 (⟨rfl, hJ3, hk3⟩ | ⟨rfl, hJx3⟩)
        · gi_wp2
          go_roundw
          case rel => exact ⟨k + 1, 1, by omega, by simp, by rw [upTo_succ, Hx.out]; exact hJ3, (hnx.drew).trans hk3⟩
          case measure => simp [intOf]
        · gi_wp2
          refine bodyPost_ret (results_none rfl _ _ _) rfl ?_
          exact ⟨⟨_, rfl⟩, .inr ⟨_, trivial, hJx3⟩⟩
      · have Hx : Hid (roundAt n 8 m k = (2, n / 65536 % 256)) := Lib.hid (roundAt_of 2 (by omega) (by simp))
        have hb := (i64_and_low (n / 65536) (by omega) (by omega)).2
        obtain ⟨fn, tmps, assign, body, hy, hR⟩ := hY _ (2, n / 65536 % 256) _ hJd' (by rw [upTo_length]; omega)
        dsimp only [encs] at hy
        gi_wp2
        gi_region_o
        gi_wp2
        refine hR.mono ?_
        rintro e W3 (⟨rfl, hJ3, hk3⟩ | ⟨rfl, hJx3⟩)
        · gi_wp2
          go_roundw
          case rel => exact ⟨k + 1, 2, by omega, by simp, by rw [upTo_succ, Hx.out]; exact hJ3, (hnx.drew).trans hk3⟩
          case measure => simp [intOf]
        · gi_wp2
          refine bodyPost_ret (results_none rfl _ _ _) rfl ?_
          exact ⟨⟨_, rfl⟩, .inr ⟨_, trivial, hJx3⟩⟩
      · have Hx : Hid (roundAt n 8 m k = (3, n / 16777216 % 256)) := Lib.hid (roundAt_of 3 (by omega) (by simp))
        have hb := (i64_and_low (n / 16777216) (by omega) (by omega)).2
        obtain ⟨fn, tmps, assign, body, hy, hR⟩ := hY _ (3, n / 16777216 % 256) _ hJd' (by rw [upTo_length]; omega)
        dsimp only [encs] at hy
        gi_wp2
        gi_region_o
        gi_wp2
        refine hR.mono ?_
        rintro e W3 (⟨rfl, hJ3, hk3⟩ | ⟨rfl, hJx3⟩)
        · gi_wp2
          go_roundw
          case rel => exact ⟨k + 1, 3, by omega, by simp, by rw [upTo_succ, Hx.out]; exact hJ3, (hnx.drew).trans hk3⟩
          case measure => simp [intOf]
        · gi_wp2
          refine bodyPost_ret (results_none rfl _ _ _) rfl ?_
          exact ⟨⟨_, rfl⟩, .inr ⟨_, trivial, hJx3⟩⟩
      · have Hx : Hid (roundAt n 8 m k = (4, n / 4294967296 % 256)) := Lib.hid (roundAt_of 4 (by omega) (by simp))
        have hb := (i64_and_low (n / 4294967296) (by omega) (by omega)).2
        obtain ⟨fn, tmps, assign, body, hy, hR⟩ := hY _ (4, n / 4294967296 % 256) _ hJd' (by rw [upTo_length]; omega)
        dsimp only [encs] at hy
        gi_wp2
        gi_region_o
        gi_wp2
        refine hR.mono ?_
        rintro e W3 (⟨rfl, hJ3, hk3⟩ | ⟨rfl, hJx3⟩)
        · gi_wp2
          go_roundw
          case rel => exact ⟨k + 1, 4, by omega, by simp, by rw [upTo_succ, Hx.out]; exact hJ3, (hnx.drew).trans hk3⟩
          case measure => simp [intOf]
        · gi_wp2
          refine bodyPost_ret (results_none rfl _ _ _) rfl ?_
          exact ⟨⟨_, rfl⟩, .inr ⟨_, trivial, hJx3⟩⟩
    · obtain rfl : r = 0 := by omega
      gi_wp2
      go_end0
      exact ⟨⟨_, rfl⟩, .inl ⟨_, by rw [show m = k by omega], hJs⟩⟩

/-- The iterator's contract. -/
theorem iter_stops (bm bn bw m width : Nat) (n : Int) (hn : 0 ≤ n ∧ n ≤ 1073741824) (hw : width = 7 ∨ width = 8) (hm : 1 ≤ m ∧ m ≤ 5) (w : World)
    (hbm : Boxed w bm 3 (.int .i64 m)) (hbn : Boxed w bn 3 (.int .i64 n)) (hbw : Boxed w bw 3 (.int .i64 width)) :
    SeqStopsK Fence.wide 3 Tryd.prog 65 #[.pointer (some ⟨bm, 0, none⟩), .pointer (some ⟨bn, 0, none⟩), .pointer (some ⟨bw, 0, none⟩)] encs (Kp3 bm bn bw)
      (fun ys => ys = upTo (roundAt n width m) m) (fun _ => True) m w := fun l J Jx W hW hJ _ hY h0 =>
  iter_in l bm bn bw m width n hn hw hm J Jx (fun pre X h => hJ pre X X.drew none h ⟨rfl, rfl, rfl, Nat.le_refl _, fun _ _ _ => rfl⟩ (fun r e => by cases e)) hY W
    ((hW.cell (p := ⟨bm, 0, none⟩) hbm.lt).trans hbm.cell) ((hW.cell (p := ⟨bn, 0, none⟩) hbn.lt).trans hbn.cell) ((hW.cell (p := ⟨bw, 0, none⟩) hbw.lt).trans hbw.cell) h0
end Go.Proofs.YtafeadplmcoilaaDoor.Nu

namespace Go.Proofs.YtafeadplmcoilaaDoor.Nu
open Go.RowKit Go.Shelf

/-- Between two rounds: the box bB holds a slice that owns the bytes so far; what lay when the call began lies; the marks' blocks hold nothing; the iterator's three boxes (from block s on) hold what they held. -/
def SI (w : World) (bB : Nat) (acc : List Int) (ds : List Nat) (s : Nat) (m n width : Int) (f : Int × Int → Int) (pre : List (Int × Int)) (W : World) : Prop :=
  (∃ v, Boxed W bB 27 v ∧ W.ownsRow w.heap.size 5 1 v (acc ++ pre.map f).length ((acc ++ pre.map f).map (Value.int .u8))) ∧ Below w.heap.size w W ∧ (∀ d ∈ ds, W.heap[d]? = some (.deferred (some []))) ∧
  Boxed W s 3 (.int .i64 n) ∧ Boxed W (s + 1) 3 (.int .i64 width) ∧ Boxed W (s + 2) 3 (.int .i64 m)

theorem some_ne_row {W W' : World} {row : Option Nat} {B b : Nat} {o : Obj} (_hg : W.grownBy W' row) (hr : ∀ r, row = some r → B ≤ r ∧ ∃ o : Obj, W.heap[r]? = some o ∧ o.isCells = false) (hb : W.heap[b]? = some o) (h : b < B ∨ o.isCells = true) : some b ≠ row := by
  intro e
  obtain ⟨hB, o', ho, hc⟩ := hr b e.symm
  rcases h with h | h
  · omega
  · rw [hb] at ho
    cases ho
    rw [h] at hc
    cases hc

theorem SI.own {w : World} {bB : Nat} {acc : List Int} {ds : List Nat} {s : Nat} {m n width : Int} {f : Int × Int → Int} {B : Nat} (hd : ∀ d ∈ ds, d < B) (hw : w.heap.size ≤ B) : OwnFrom B (SI w bB acc ds s m n width f) := by
  rintro pre W W' row ⟨⟨v, hv, hrow⟩, hB, hM, b1, b2, b3⟩ hg hr
  refine ⟨⟨v, hv.kept hg (some_ne_row hg hr hv (.inr rfl)), hrow.kept hg ?_⟩, ?_, fun d hd' => ?_, b1.kept hg (some_ne_row hg hr b1 (.inr rfl)), b2.kept hg (some_ne_row hg hr b2 (.inr rfl)), b3.kept hg (some_ne_row hg hr b3 (.inr rfl))⟩
  · rcases hrow.2 with ⟨rfl, _⟩ | ⟨g, cap, cur, rfl, _, hgb, _⟩
    · exact .inl rfl
    · exact .inr (some_ne_row hg hr hgb (.inr rfl))
  · exact hB.grown hg hB.size (fun k e => by have := (hr k e).1; omega)
  · have h1 := hM d hd'
    exact (hg.block d (Array.getElem?_eq_some_iff.1 h1).1 (some_ne_row hg hr h1 (.inl (hd d hd')))).trans h1

/-- Behind 'append' and the store of what it gave. -/
theorem SI.step {w : World} {bB : Nat} {acc : List Int} {ds : List Nat} {s : Nat} {m n width : Int} {f : Int × Int → Int} {pre : List (Int × Int)} {x : Int × Int} {W w1 : World} {v v' : Value} {tmp : Obj} {k : Nat} {ys : List Value} (B : Nat)
    (hbB : bB < s) (hw : w.heap.size ≤ bB) (hv : Boxed W bB 27 v) (hrow : W.ownsRow w.heap.size 5 1 v (acc ++ pre.map f).length ((acc ++ pre.map f).map (Value.int .u8))) (hB : Below w.heap.size w W)
    (hM : ∀ d ∈ ds, W.heap[d]? = some (.deferred (some []))) (b1 : Boxed W s 3 (.int .i64 n)) (b2 : Boxed W (s + 1) 3 (.int .i64 width)) (b3 : Boxed W (s + 2) 3 (.int .i64 m))
    (hown : w1.ownsRow w.heap.size 5 1 v' k ys) (hk : k = (acc ++ pre.map f).length + 1) (hys : ys = (acc ++ pre.map f).map (Value.int .u8) ++ [Value.int .u8 (f x)]) (hgrow : (W.alloc tmp).grownBy w1 v.ownBlock) :
    KeepsFrom B W (w1.setCell ⟨bB, 0, none⟩ v') ∧ Kp3 (s + 2) s (s + 1) W (w1.setCell ⟨bB, 0, none⟩ v') ∧ SI w bB acc ds s m n width f (pre ++ [x]) (w1.setCell ⟨bB, 0, none⟩ v') := by
  obtain ⟨_, hv2, hr2, hk2, hb2⟩ := hv.appended (by decide) hrow hB.size hw hown hgrow
  have key : ∀ (b : Nat) (u : Value), bB < b → Boxed W b 3 u → Boxed (w1.setCell ⟨bB, 0, none⟩ v') b 3 u := fun b u hb hx =>
    ((hx.alloc tmp).kept hgrow (hx.not_row (by decide) hrow)).kept (grownBy_setCell' w1 bB v') (by simp; omega)
  have c1 := key _ _ hbB b1
  have c2 := key _ _ (by omega) b2
  have c3 := key _ _ (by omega) b3
  refine ⟨hk2.from _, ⟨Eq.trans c3 (Eq.symm b3), Eq.trans c1 (Eq.symm b1), Eq.trans c2 (Eq.symm b2)⟩, ⟨v', hv2, ?_⟩, hB.trans hb2, fun d hd => hk2.same d _ (hM d hd) rfl, c1, c2, c3⟩
  subst hk hys
  have e1 : acc ++ (pre ++ [x]).map f = (acc ++ pre.map f) ++ [f x] := by simp
  rw [e1, List.length_append, List.map_append]
  exact hr2

/-- The law of the loop wants these two of what a round must keep. -/
theorem kp3_b {w2 : World} {s : Nat} (hs : w2.heap.size = s + 3) (W : World) (l : Nat) (o o' : Obj) (hl : w2.heap.size ≤ l) (_h : W.heap[l]? = some o) (_ : o.isCells = false) (_ : o.isWalk = false) : Kp3 (s + 2) s (s + 1) W (W.putObj l o') :=
  ⟨World.putObj_heap_other (by omega), World.putObj_heap_other (by omega), World.putObj_heap_other (by omega)⟩
end Go.Proofs.YtafeadplmcoilaaDoor.Nu

namespace Go.Proofs.YtafeadplmcoilaaDoor.Nu
open Go.RowKit

set_option maxRecDepth 100000 in
set_option maxHeartbeats 400000 in
/-- num.Is: it tells whether all are numbers; nothing turns. -/
theorem is_any (A : Option Addr) (n c : Nat) (l : List Int) (w : World) (hr : Rd w w.heap.size .i64 A n l) (hn : n ≤ 140737488355328) :
    Calls Tryd.prog 38 #[.slice A n c] w fun e w' => e = .returned (.bool (allNum l)) ∧ w = w' := by
  have hl : l.length = n := hr.1
  go_enter Tryd.func38, Tryd.ntmps38
  go_wp2
  go_loop [7] (fun i => ∃ k : Nat, k ≤ n ∧ i = .int .i64 k ∧ allNum (l.take k) = true) (fun i => n - (intOf i).toNat)
  case atStart => exact ⟨0, Nat.zero_le _, rfl, rfl⟩
  case round =>
    obtain ⟨k, hk, rfl, hall⟩ := hrel
    have Hall := Lib.hid hall
    clear hall
    have Hl := Lib.hid hl
    clear hl
    by_cases hlt : k < n
    · obtain ⟨b, off, rfl, hB, hc⟩ := hr.at_ (by omega)
      have hck := hc k hlt
      clear hc
      by_cases h0 : l[k]?.getD 0 < 0
      · have hd : decide (l[k]?.getD 0 < 0) = true := by simpa using h0
        go_wp2
        go_ret
        exact ⟨ret_bool (by rw [allNum_no (k := k) (by rw [Hl.out]; exact hlt) (by simp [isNum]; omega)]), rfl⟩
      · have hd : decide (l[k]?.getD 0 < 0) = false := by simpa using h0
        by_cases h1 : 1073741824 < l[k]?.getD 0
        · go_wp2
          go_ret
          exact ⟨ret_bool (by rw [allNum_no (k := k) (by rw [Hl.out]; exact hlt) (by simp [isNum]; omega)]), rfl⟩
        · go_wp2
          go_round
          case rel => exact ⟨k + 1, by omega, by go_num, by rw [take_snoc (by rw [Hl.out]; exact hlt), allNum_snoc, Hall.out]; simp [isNum]; omega⟩
          case measure => simp [intOf]; omega
    · have : k = n := by omega
      have hf : allNum l = true := by rw [← Hall.out, List.take_of_length_le (by rw [Hl.out]; omega)]
      have Hf := Lib.hid hf
      clear hf this
      go_wp2
      go_ret
      exact ⟨ret_bool (by rw [Hf.out]), rfl⟩
end Go.Proofs.YtafeadplmcoilaaDoor.Nu

namespace Go.Proofs.YtafeadplmcoilaaDoor.Nu
open Go.RowKit

/-- A result: a slice that holds l, in memory that lies behind. -/
def Gives (k : IntKind) (l : List Int) (v : Value) (w' : World) : Prop := ∃ A c, v = .slice A l.length c ∧ l.length ≤ c ∧ Rd w' w'.heap.size k A l.length l

theorem Gives.on {k : IntKind} {l : List Int} {v : Value} {w w' : World} (h : Gives k l v w) (hb : Below w.heap.size w w') : Gives k l v w' := by
  obtain ⟨A, c, rfl, hc, hr⟩ := h
  exact ⟨A, c, rfl, hc, hr.on hb hb.size⟩
theorem Gives.own {k : IntKind} {l : List Int} {v : Value} {w : World} {base : Nat} {e : TypeId} (h : w.ownsRow base e 1 v l.length (l.map (Value.int k))) : Gives k l v w := by
  obtain ⟨A, c, rfl, hc, hr⟩ := own_rd h
  exact ⟨A, c, rfl, hc, hr⟩
end Go.Proofs.YtafeadplmcoilaaDoor.Nu

namespace Go.Proofs.YtafeadplmcoilaaDoor.Nu
open Go.RowKit

/-- A slice of q cells that holds R, in memory that lies behind. -/
def Row (k : IntKind) (R : List Int) (q : Nat) (A : Option Addr) (c : Nat) (w : World) : Prop := q ≤ c ∧ Rd w w.heap.size k A q R
theorem Row.rd {k : IntKind} {R : List Int} {q : Nat} {A : Option Addr} {c : Nat} {w : World} (h : Row k R q A c w) : Rd w w.heap.size k A q R := h.2
theorem Row.on {k : IntKind} {R : List Int} {q : Nat} {A : Option Addr} {c : Nat} {w w' : World} (h : Row k R q A c w) (hb : Below w.heap.size w w') : Row k R q A c w' := ⟨h.1, h.2.on hb hb.size⟩
theorem Gives.row {k : IntKind} {l R : List Int} {q : Nat} {v : Value} {w : World} (h : Gives k l v w) (hR : l = R) (hq : R.length = q) : ∃ A c, v = .slice A q c ∧ Row k R q A c w := by
  subst hR hq
  obtain ⟨A, c, rfl, hc, hr⟩ := h
  exact ⟨A, c, rfl, hc, hr⟩

/-- The slice that a literal makes. -/
theorem Rd.made (w : World) (k : IntKind) (t : TypeId) (l : List Int) {g : Nat} (hg : g = w.heap.size) : Rd (w.alloc (.cells (l.map (Value.int k)).toArray t)) (w.alloc (.cells (l.map (Value.int k)).toArray t)).heap.size k (some ⟨g, 0, none⟩) l.length l := by
  subst hg
  refine ⟨rfl, fun _ => ⟨w.heap.size, 0, rfl, by simp, fun i hi => ?_⟩⟩
  rw [cell_of_row _ _ _ _ _ _ (World.alloc_heap_new w _)]
  simp [hi]

section
variable (A : Option Addr) (n c : Nat) (l : List Int) (w : World)

variable (hr : Rd w w.heap.size .u8 A n l) (hb : Byt l) (hnc : n ≤ c) (hn : n ≤ 1099511627776)
include hr hb hnc hn
end
end Go.Proofs.YtafeadplmcoilaaDoor.Nu

namespace Go.Proofs.YtafeadplmcoilaaDoor.Nu
open Go.RowKit

section
variable {P : Program} {w : World} {base B : Nat} {t ty e : TypeId} {i : TypeInfo} {z : Value} {bytes n m c : Nat} {v : Value} {xs : List Value} {A : Option Addr} {R : List Int} {k : IntKind}

/-- What append leaves: a row of the call's own that has both, and a world in which no other block has turned. -/
def Longer (base : Nat) (e : TypeId) (w : World) (v : Value) (n : Nat) (xs : List Value) (v' : Value) (w' : World) : Prop :=
  w'.ownsRow base e 1 v' n xs ∧ w.grownBy w' v.ownBlock ∧ (v'.ownBlock = v.ownBlock ∨ v'.ownBlock = some w.heap.size)

theorem run_append_rd (ht : P.underlying t = some (.slice e)) (hi : P.info? e = some i) (hz : i.zero = some z) (h1 : i.size = 1) (h2 : i.bytes = bytes) (hzs : z.cells.size = 1)
    (hown : w.ownsRow base e 1 v n xs) (hr : Rd w B k A m R) (b1 : n + m ≤ maxLen) (b2 : (n + m) * bytes ≤ 140737488355328) (b3 : base ≤ w.heap.size) :
    ∃ v' w', (Builtin.append_ #[t, t] ty #[v, .slice A m c]).run P w = .ok v' w' ∧ Longer base e w v (n + m) (xs ++ R.map (Value.int k)) v' w' := by
  rcases A with _ | a
  · obtain ⟨rfl, rfl⟩ := hr.none_
    refine ⟨v, w, ?_, by simpa using hown, World.grownBy.refl w _, .inl rfl⟩
    rcases hown.2 with ⟨rfl, rfl⟩ | ⟨g, cap, cur, rfl, _, _, hnc, _⟩
    · simp [Builtin.append_, run_underlying ht, sizeOf, typeInfo, hi, Builtin.lenOf, Builtin.firstCells]
    · simp [Builtin.append_, run_underlying ht, sizeOf, typeInfo, hi, Builtin.lenOf, Builtin.firstCells, hnc, storeCells]
  · obtain ⟨v', w', hrun, r1, r2, _, r3⟩ := run_append_own_at (P := P) w base t ty e i z 1 bytes ht hi hz h1 h2 hzs (by omega) v n xs hown a m c (R.map (Value.int k)) (by simp [hr.1]) hr.cells
      (fun u hu => by obtain ⟨x, _, rfl⟩ := List.mem_map.1 hu; rfl) b1 b2 b3
    exact ⟨v', w', hrun, r1, r2, r3⟩

theorem wp_append_rd {o : Oper} {a : Act} {K : Act → World → Prop} {Q : Exit → Act → World → Prop} (s x : Operand) (t : TypeId)
    (ht : P.underlying t = some (.slice e)) (hi : P.info? e = some i) (hz : i.zero = some z) (h1 : i.size = 1) (h2 : i.bytes = bytes) (hzs : z.cells.size = 1)
    (hown : w.ownsRow base e 1 v n xs) (hr : Rd w B k A m R) (b1 : n + m ≤ maxLen) (b2 : (n + m) * bytes ≤ 140737488355328) (b3 : base ≤ w.heap.size)
    (ho : o.op = .call { callee := .builtin .append, args := #[s, x], argTypes := #[t, t] }) (hs : a.eval s = v) (hx : a.eval x = .slice A m c)
    (h : ∀ v' w', Longer base e w v (n + m) (xs ++ R.map (Value.int k)) v' w' → K (a.put o.dst v') w') : o.wp P a w K Q := by
  obtain ⟨v', w', hrun, h2⟩ := run_append_rd (c := c) (ty := o.type) ht hi hz h1 h2 hzs hown hr b1 b2 b3
  unfold Oper.wp execOp
  simp only [ho, resolve, invoke, builtin, Sem.run_bind, Sem.run_pure, Result.andThen_ok, List.map_toArray, List.map_cons, List.map_nil, hs, hx, hrun]
  exact h v' w' h2
theorem wpList_append_rd {ops : Array Oper} {rest : List Oper} {o : Oper} {a : Act} {Q : Exit → Act → World → Prop} (s x : Operand) (t : TypeId)
    (ht : P.underlying t = some (.slice e)) (hi : P.info? e = some i) (hz : i.zero = some z) (h1 : i.size = 1) (h2 : i.bytes = bytes) (hzs : z.cells.size = 1)
    (hown : w.ownsRow base e 1 v n xs) (hr : Rd w B k A m R) (b1 : n + m ≤ maxLen) (b2 : (n + m) * bytes ≤ 140737488355328) (b3 : base ≤ w.heap.size)
    (hgd : o.guard = none) (ho : o.op = .call { callee := .builtin .append, args := #[s, x], argTypes := #[t, t] }) (hs : a.eval s = v) (hx : a.eval x = .slice A m c)
    (h : ∀ v' w', Longer base e w v (n + m) (xs ++ R.map (Value.int k)) v' w' → wpList P ops Q rest (a.put o.dst v') w') : wpList P ops Q (o :: rest) a w :=
  wpList_plain hgd fun _ hK => wp_append_rd s x t ht hi hz h1 h2 hzs hown hr b1 b2 b3 ho hs hx fun v' w' h' => hK _ _ (h v' w' h')
theorem wpList_append_rdg {ops : Array Oper} {rest : List Oper} {o : Oper} {a : Act} {Q : Exit → Act → World → Prop} (s x : Operand) (t : TypeId)
    (ht : P.underlying t = some (.slice e)) (hi : P.info? e = some i) (hz : i.zero = some z) (h1 : i.size = 1) (h2 : i.bytes = bytes) (hzs : z.cells.size = 1)
    (hown : w.ownsRow base e 1 v n xs) (hr : Rd w B k A m R) (b1 : n + m ≤ maxLen) (b2 : (n + m) * bytes ≤ 140737488355328) (b3 : base ≤ w.heap.size)
    (hw : Region.wanted o (yielded ops a.tmps) = true) (ho : o.op = .call { callee := .builtin .append, args := #[s, x], argTypes := #[t, t] }) (hs : a.eval s = v) (hx : a.eval x = .slice A m c)
    (h : ∀ v' w', Longer base e w v (n + m) (xs ++ R.map (Value.int k)) v' w' → wpList P ops Q rest (a.put o.dst v') w') : wpList P ops Q (o :: rest) a w :=
  BigFrame.wpList_want hw fun _ hK => wp_append_rd s x t ht hi hz h1 h2 hzs hown hr b1 b2 b3 ho hs hx fun v' w' h' => hK _ _ (h v' w' h')
end

/-- The walk stops at a goal that is held. -/
theorem hold {p : Prop} (h : Hid p) : p := h
theorem unhold {p : Prop} (h : p) : Hid p := h
theorem byte_cells : (Value.int .u8 0).cells.size = 1 := rfl
/-- A row that is made empty, ahead of an append onto it. -/
theorem own_empty (w : World) (base : Nat) (e : TypeId) (h : base ≤ w.heap.size) : (w.alloc (.cells #[] e)).ownsRow base e 1 (.slice (some ⟨w.heap.size, 0, none⟩) 0 0) 0 [] :=
  World.ownsRow_made w #[] 0 h (Nat.zero_le _) rfl
theorem Longer.below {base B : Nat} {e : TypeId} {w0 w w' : World} {v v' : Value} {n : Nat} {xs : List Value} (h : Longer base e w v n xs v' w') (hB : Below B w0 w) (hb : B ≤ w.heap.size) (hv : ∀ g, v.ownBlock = some g → B ≤ g) : Below B w0 w' :=
  hB.grown h.2.1 hb hv
/-- Two appends onto an empty row: what stands in it, and that nothing below the empty row's block has turned. -/
theorem Longer.two {base : Nat} {e : TypeId} {W w1 w2 : World} {v1 v2 : Value} {n1 n2 : Nat} {R S : List Int} {k : IntKind}
    (h1 : Longer base e (W.alloc (.cells #[] e)) (.slice (some ⟨W.heap.size, 0, none⟩) 0 0) n1 ([] ++ R.map (Value.int k)) v1 w1) (h2 : Longer base e w1 v1 n2 (([] ++ R.map (Value.int k)) ++ S.map (Value.int k)) v2 w2) :
    (∃ A c q, v2 = .slice A q c ∧ Row k (R ++ S) q A c w2) ∧ Below W.heap.size W w2 := by
  refine ⟨?_, ?_⟩
  · have h := h2.1
    rw [List.nil_append, ← List.map_append] at h
    obtain ⟨A, c, rfl, hc, hr⟩ := own_rd h
    exact ⟨A, c, _, rfl, hc, hr⟩
  · have hb1 := h1.below ((Below.refl W.heap.size W).alloc (Nat.le_refl _) _) (by simp) (fun g hg => by simp [Value.ownBlock] at hg; omega)
    have hs := h1.2.1.size
    refine h2.below hb1 hb1.size (fun g hg => ?_)
    rcases h1.2.2 with e1 | e1
    · rw [e1] at hg; simp [Value.ownBlock] at hg; omega
    · rw [e1] at hg; simp at hg; omega
/-- One append onto an empty row. -/
theorem Longer.one {base : Nat} {e : TypeId} {W w1 : World} {v1 : Value} {n1 : Nat} {R : List Int} {k : IntKind}
    (h1 : Longer base e (W.alloc (.cells #[] e)) (.slice (some ⟨W.heap.size, 0, none⟩) 0 0) n1 ([] ++ R.map (Value.int k)) v1 w1) :
    (∃ A c q, v1 = .slice A q c ∧ Row k R q A c w1) ∧ Below W.heap.size W w1 := by
  refine ⟨?_, ?_⟩
  · have h := h1.1
    rw [List.nil_append] at h
    obtain ⟨A, c, rfl, hc, hr⟩ := own_rd h
    exact ⟨A, c, _, rfl, hc, hr⟩
  · exact h1.below ((Below.refl W.heap.size W).alloc (Nat.le_refl _) _) (by simp) (fun g hg => by simp [Value.ownBlock] at hg; omega)

/-- A slice of whole numbers that came in. -/
def IsRow (k : IntKind) (w : World) (a : Option Addr) (len cap : Nat) (zs : List Int) : Prop :=
  (a = none ∧ len = 0 ∧ cap = 0 ∧ zs = []) ∨
  ∃ x, a = some x ∧ len ≤ cap ∧ cap ≤ maxLen ∧ zs.length = cap ∧ (∀ i, i < zs.length → w.cell? (x.add i) = some (.int k (zs.getD i 0))) ∧ ∀ n ∈ zs, (Lit.int k n).wf = true
theorem IsRow.rd {k : IntKind} {w : World} {a : Option Addr} {len cap : Nat} {zs : List Int} (h : IsRow k w a len cap zs) : len ≤ cap ∧ Rd w w.heap.size k a len (zs.take len) ∧ ∀ n ∈ zs.take len, (Lit.int k n).wf = true := by
  rcases h with ⟨rfl, rfl, rfl, rfl⟩ | ⟨x, rfl, hl, hm, hz, hc, hw⟩
  · exact ⟨Nat.le_refl _, Rd.nil, fun n hn => by cases hn⟩
  · refine ⟨hl, ⟨by rw [List.length_take, hz]; omega, fun h0 => ?_⟩, fun n hn => hw n (List.mem_of_mem_take hn)⟩
    obtain ⟨b, off, rfl, hc'⟩ := ints_at hc (by omega)
    have h00 := hc' 0 (by omega)
    refine ⟨b, off, rfl, World.block_lt_of_cell? w _ h00, fun j hj => ?_⟩
    rw [hc' j (by omega), List.getElem?_take, if_pos hj]
    rfl
end Go.Proofs.YtafeadplmcoilaaDoor.Nu

namespace Go.Proofs.YtafeadplmcoilaaDoor.Nu
open Go.RowKit

theorem byte_info : (Tryd.prog.info? 5).map (fun i => (i.zero, i.size, i.bytes)) = some (some (.int .u8 0), 1, 1) := by kernel_rfl
set_option maxRecDepth 100000 in
set_option maxHeartbeats 400000 in
theorem clone_none (n c : Nat) (w : World) : Calls Tryd.prog 58 #[.slice none n c] w fun e w' => e = .returned (.slice none 0 0) ∧ w' = w := by
  have hq : (binOp .eql 27 (.slice none n c) (.slice none 0 0)).run Tryd.prog w = .ok (.bool true) w := by
    simp only [binOp]
    simp [Op.equal, Op.maxDepth, Lib.run_equalIn_slice_nil w 9999 27 5 none n c 0 0 Tryd.underlying27]
  go_enter Tryd.func58, Tryd.ntmps58
  go_wp2_with fail
  go_ret
  exact ⟨rfl, rfl⟩
set_option maxRecDepth 100000 in
set_option maxHeartbeats 400000 in
/-- bytes.Clone of a slice that is there: its bytes, in new memory. -/
theorem clone_there (a : Addr) (n c : Nat) (l : List Int) (w : World) (hr : Rd w w.heap.size .u8 (some a) n l) (hn : n ≤ 140737488355328) :
    Calls Tryd.prog 58 #[.slice (some a) n c] w fun e w' => (∃ A' c', e = .returned (.slice A' n c') ∧ n ≤ c' ∧ Rd w' w'.heap.size .u8 A' n l) ∧ Below w.heap.size w w' := by
  obtain ⟨i0, hi, hz0, hz1, hz2⟩ := info_parts byte_info
  have hq : (binOp .eql 27 (.slice (some a) n c) (.slice none 0 0)).run Tryd.prog w = .ok (.bool false) w := by
    simp only [binOp]
    simp [Op.equal, Op.maxDepth, Lib.run_equalIn_slice_nil w 9999 27 5 (some a) n c 0 0 Tryd.underlying27]
  go_enter Tryd.func58, Tryd.ntmps58
  go_wp2_with (at_builtin; refine hold ?_)
  refine unhold (wpList_append_rd (.tmp 5) (.tmp 6) 27 Tryd.underlying27 hi hz0 hz1 hz2 byte_cells (own_empty w w.heap.size 5 (Nat.le_refl _)) (hr.below ((Below.refl _ w).alloc (Nat.le_refl _) _)) (by unfold maxLen; omega) (by omega) (by simp) rfl rfl rfl rfl ?_)
  intro v1 w5 L3
  have hb5 : Below w.heap.size w w5 := L3.below ((Below.refl _ w).alloc (Nat.le_refl _) _) (by simp) (fun g hg => by simp [Value.ownBlock] at hg; omega)
  have own := L3.1
  rw [Nat.zero_add, List.nil_append] at own
  obtain ⟨A', c', rfl, hc', hr'⟩ := own_rd own
  clear L3 own
  go_wp2_with fail
  go_ret
  exact ⟨⟨A', c', rfl, hc', hr'⟩, hb5⟩
theorem clone_any (A : Option Addr) (n c : Nat) (l : List Int) (w : World) (hr : Rd w w.heap.size .u8 A n l) (hn : n ≤ 140737488355328) :
    Calls Tryd.prog 58 #[.slice A n c] w fun e w' => ∃ v, e = .returned v ∧ Gives .u8 l v w' ∧ Below w.heap.size w w' := by
  have hl := hr.1
  subst hl
  rcases A with _ | a
  · obtain ⟨h0, rfl⟩ := hr.none_
    refine (clone_none _ c w).mono ?_
    rintro e w' ⟨rfl, rfl⟩
    exact ⟨_, rfl, ⟨none, 0, rfl, Nat.le_refl _, Rd.nil⟩, Below.refl _ _⟩
  · refine (clone_there a l.length c l w hr hn).mono ?_
    rintro e w' ⟨⟨A', c', rfl, hc', hrd⟩, hb⟩
    exact ⟨_, rfl, ⟨A', c', rfl, hc', hrd⟩, hb⟩
end Go.Proofs.YtafeadplmcoilaaDoor.Nu

namespace Go.Proofs.YtafeadplmcoilaaDoor.Nu
open Go.RowKit Go.Shelf

attribute [local go_sem] Oper.semAt_some

theorem info_byte : (Tryd.prog.info? 5).map (fun i => (i.zero, i.size, i.bytes)) = some (some (.int .u8 0), 1, 1) := by kernel_rfl
end Go.Proofs.YtafeadplmcoilaaDoor.Nu

namespace Go.Proofs.YtafeadplmcoilaaDoor.Nu
open Go.RowKit Go.Shelf

attribute [local go_sem] Oper.semAt_some

/-- Long's answer, as a whole. -/
def LongPut (l : List Int) (e : Ending) (w' : World) : Prop :=
  ∃ v, e = .returned (.tuple #[v, .int .i64 (if allNum l then 0 else 2)]) ∧ Gives .u8 (if allNum l then longsOf l else []) v w'
theorem LongPut.no {l : List Int} {w' : World} (h : allNum l = false) : LongPut l (.returned (.tuple #[.slice none 0 0, .int .i64 2])) w' :=
  ⟨_, by rw [h]; rfl, by rw [h]; exact ⟨none, 0, rfl, Nat.le_refl _, Rd.nil⟩⟩
theorem LongPut.yes {l : List Int} {v : Value} {w' : World} (h : allNum l = true) (hg : Gives .u8 (longsOf l) v w') : LongPut l (.returned (.tuple #[v, .int .i64 0])) w' :=
  ⟨_, by rw [h]; rfl, by rw [h]; exact hg⟩

/-- What holds at the head of Long's loop. -/
def LInv (A : Option Addr) (n c : Nat) (l : List Int) (w : World) (bB : Nat) (a' : Act) (w' : World) : Prop :=
  ∃ (k : Nat) (ds : List Nat) (v u6 u8 u19 u20 u21 u22 u23 u24 u25 u26 u27 u28 u29 u30 : Value), k ≤ n ∧ Boxed w' bB 27 v ∧ w'.ownsRow w.heap.size 5 1 v (longsOf (l.take k)).length ((longsOf (l.take k)).map (Value.int .u8)) ∧
    Below w.heap.size w w' ∧ Marks w.heap.size ds w' ∧
    a' = { tmps := #[.slice A n c, undef, .slice none 0 0, .int .i64 0, .pointer (some ⟨bB, 0, none⟩), undef, u6, undef, u8, .slice A n c, .bool true, .bool false, .slice A n c, .int .i64 n, .int .i64 (5 * n), .slice (some ⟨w.heap.size, 0, none⟩) 0 (5 * n), .slice A n c, .int .i64 n, .int .i64 k, u19, u20, u21, u22, u23, u24, u25, u26, u27, u28, u29, u30, undef], defers := ds.map mark }

end Go.Proofs.YtafeadplmcoilaaDoor.Nu

namespace Go.Proofs.YtafeadplmcoilaaDoor.Nu
open Go.RowKit

/-- TakeLong's answer, as a whole. -/
def LongOut (l : List Int) (e : Ending) (w' : World) : Prop :=
  ∃ v, e = .returned (.tuple #[.int .i64 (longP l).1, v, .int .i64 (longP l).2.2]) ∧ Gives .u8 (longP l).2.1 v w'
theorem LongOut.mk {l : List Int} {x e : Int} {r : List Int} {v : Value} {w' : World} (h : longP l = (x, r, e)) (hg : Gives .u8 r v w') : LongOut l (.returned (.tuple #[.int .i64 x, v, .int .i64 e])) w' := by
  refine ⟨v, ?_, ?_⟩
  · rw [h]
  · rw [h]; exact hg
theorem Gives.nil (k : IntKind) (w : World) : Gives k [] (.slice none 0 0) w := ⟨none, 0, rfl, Nat.le_refl _, Rd.nil⟩

end Go.Proofs.YtafeadplmcoilaaDoor.Nu

