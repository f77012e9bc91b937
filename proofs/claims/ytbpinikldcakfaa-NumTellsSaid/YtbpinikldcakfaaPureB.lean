/-
  Numbers as bytes, more: many numbers one behind the other; no program is named here.
-/
import Derived.Test.YtbpinikldcakfaaPure
namespace Go.Proofs.Ytbpinikldcakfaa

/-! ### Many numbers, one behind the other -/
def takesGo : Nat → List Int → List Int → List Int × List Int × Int
  | 0, r, acc => (acc, r, 0)
  | f + 1, r, acc => if (takeP r).2.2 = 0 then takesGo f (r.drop (takeP r).2.1) (acc ++ [(takeP r).1]) else ([], [], (takeP r).2.2)
def takesP (l : List Int) (many : Int) : List Int × List Int × Int := takesGo many.toNat l []
/-- What holds at the label of Takes. -/
def AtMany (l : List Int) (many : Int) (p : Nat) (acc : List Int) : Prop :=
  p ≤ l.length ∧ acc.length ≤ p ∧ acc.length ≤ many.toNat ∧ takesGo (many.toNat - acc.length) (l.drop p) acc = takesP l many
theorem AtMany.first (l : List Int) (many : Int) : AtMany l many 0 [] := ⟨Nat.zero_le _, Nat.zero_le _, Nat.zero_le _, rfl⟩
theorem AtMany.full {l : List Int} {many : Int} {p : Nat} {acc : List Int} (h : AtMany l many p acc) (hm : many ≤ acc.length) : takesP l many = (acc, l.drop p, 0) := by
  obtain ⟨_, _, _, h⟩ := h
  rw [← h, show many.toNat - acc.length = 0 by omega]; rfl
theorem AtMany.go {l : List Int} {many : Int} {p : Nat} {acc : List Int} (h : AtMany l many p acc) (hm : (acc.length : Int) < many) :
    takesP l many = if (takeP (l.drop p)).2.2 = 0 then takesGo (many.toNat - (acc.length + 1)) ((l.drop p).drop (takeP (l.drop p)).2.1) (acc ++ [(takeP (l.drop p)).1]) else ([], [], (takeP (l.drop p)).2.2) := by
  obtain ⟨_, _, _, h⟩ := h
  rw [← h, show many.toNat - acc.length = (many.toNat - (acc.length + 1)) + 1 by omega]; rfl
theorem AtMany.err {l : List Int} {many : Int} {p : Nat} {acc : List Int} (h : AtMany l many p acc) (hm : (acc.length : Int) < many) {e : Int} (he : takeP (l.drop p) = (0, 0, e)) (hne : e ≠ 0) : takesP l many = ([], [], e) := by
  rw [h.go hm, he, if_neg hne]
theorem AtMany.next {l : List Int} {many : Int} {p : Nat} {acc : List Int} (h : AtMany l many p acc) (hm : (acc.length : Int) < many) {x : Int} {m : Nat} (he : takeP (l.drop p) = (x, m, 0)) (h0 : 0 < m) (h1 : m ≤ l.length - p) :
    AtMany l many (p + m) (acc ++ [x]) := by
  have hg := h.go hm
  rw [he] at hg
  simp only [if_true, List.drop_drop] at hg
  obtain ⟨hp, h2, h3, _⟩ := h
  exact ⟨by omega, by simp; omega, by simp; omega, by rw [hg]; simp⟩
end Go.Proofs.Ytbpinikldcakfaa
