/-
  The arguments of laws on entries: an entry, a row of entries (stage 6's texts, as one).
-/
import Derived.Test.YtdggacabjlengaaDoorRow
import Derived.OpenShut
import Derived.Deep.Slices
import Derived.Deep.Fields
import Derived.ChangeSame
import Derived.Test.YtdggacabjlengaaDoorEntM
namespace Go.Proofs.YtdggacabjlengaaDoor
open Go.RowKit Go.ChangeShapes Go.WideShapes

theorem list_two {α : Type} (l : List α) (h : l.length = 2) : ∃ a b, l = [a, b] := by
  match l, h with
  | [a, b], _ => exact ⟨a, b, rfl⟩
theorem list_three {α : Type} (l : List α) (h : l.length = 3) : ∃ a b c, l = [a, b, c] := by
  match l, h with
  | [a, b, c], _ => exact ⟨a, b, c, rfl⟩
theorem list_five {α : Type} (l : List α) (h : l.length = 5) : ∃ a b c d e, l = [a, b, c, d, e] := by
  match l, h with
  | [a, b, c, d, e], _ => exact ⟨a, b, c, d, e, rfl⟩
section
variable {H : Type} {enc : TypeId × Value → H} {w : World} {base : Nat} {sp : Nat → Bool} {held : Bool} {fuel : Nat}
/-- Each of a slice's elements opened: a row of them. -/
theorem rows_of {α : Type} {cs : α → List Value} {P : α → Prop} {a : Addr} {len K : Nat} (hK : 0 < K) (h : ∀ i, i < len → ∃ x, (∀ j, j < K → w.cell? ((a.add (i * K)).add j) = (cs x)[j]?) ∧ (cs x).length = K ∧ P x) :
    ∃ xs, Row K cs w w.heap.size (some a) len xs ∧ ∀ x ∈ xs, P x := by
  have key : ∀ n, n ≤ len → ∃ xs : List α, xs.length = n ∧ (∀ i x, xs[i]? = some x → (∀ j, j < K → w.cell? ((a.add (i * K)).add j) = (cs x)[j]?) ∧ (cs x).length = K) ∧ ∀ x ∈ xs, P x := by
    intro n
    induction n with
    | zero => exact fun _ => ⟨[], rfl, fun i x hx => by simp at hx, fun x hx => by cases hx⟩
    | succ n ih =>
      intro hn
      obtain ⟨xs, h1, h2, h3⟩ := ih (by omega)
      obtain ⟨x, e1, e2, e3⟩ := h n (by omega)
      refine ⟨xs ++ [x], by simp [h1], fun i y hy => ?_, fun y hy => ?_⟩
      · rw [List.getElem?_append] at hy
        split at hy
        · exact h2 i y hy
        · have hi : i = n := by
            have := (List.getElem?_eq_some_iff.1 hy).1
            simp at this
            omega
          subst hi
          rw [h1, Nat.sub_self] at hy
          cases hy
          exact ⟨e1, e2⟩
      · rcases List.mem_append.1 hy with hy | hy
        · exact h3 y hy
        · rw [List.mem_singleton.1 hy]
          exact e3
  obtain ⟨xs, h1, h2, h3⟩ := key len (Nat.le_refl _)
  refine ⟨xs, ⟨h1, fun h0 => ?_⟩, h3⟩
  have hx0 : xs[0]? = some xs[0] := List.getElem?_eq_getElem (by omega)
  obtain ⟨c0, l0⟩ := h2 0 _ hx0
  have c00 := c0 0 hK
  rw [List.getElem?_eq_getElem (by omega)] at c00
  obtain ⟨b, off, spot⟩ := a
  have hspot : spot = none := by simpa [Addr.add] using World.cell?_spot c00
  subst hspot
  refine ⟨b, off, rfl, ?_, fun i x hx j hj => ?_⟩
  · have := World.block_lt_of_cell? w _ c00
    simpa [Addr.add] using this
  · have h4 := (h2 i x hx).1 j hj
    rw [add_plain, add_plain, Nat.add_assoc] at h4
    exact h4
theorem list_arr {α : Type} (a : Array α) {n : Nat} (h : a.size = n) : ∃ l : List α, a = ⟨l⟩ ∧ l.length = n := by
  obtain ⟨l⟩ := a
  exact ⟨l, rfl, h⟩
/-- A slice of whole numbers that came in. -/
theorem open_numsv {P : Program} {t e : TypeId} {k : IntKind} {r : Reach} {b0 : Nat} {v : Value} {d : DataW H} {pl : List MemPlace} (ht : P.underlying t = some (.slice e)) (he : P.underlying e = some (.int k)) (h1 : P.cellsOf e = 1)
    (hval : Value.okWide P w r b0 t v) (hd : DataW.Trod enc P w base sp held t v d pl) :
    ∃ A n c l, v = .slice A n c ∧ n ≤ c ∧ Rd w w.heap.size k A n l ∧ ∀ x ∈ l, (Lit.int k x).wf = true := by
  obtain ⟨A, n, c, rfl⟩ := okWide_slice ht hval
  obtain ⟨fuel, hf⟩ := hd
  rcases open_ints ht he h1 hf with ⟨hcs, _⟩ | ⟨x, len, cap, zs, hcs, _, hl, _, hz, _, hcell, hw⟩
  · simp [Value.cells] at hcs
    obtain ⟨rfl, rfl, rfl⟩ := hcs
    exact ⟨none, 0, 0, [], rfl, Nat.le_refl _, Rd.nil, fun x hx => by cases hx⟩
  · simp [Value.cells] at hcs
    obtain ⟨rfl, rfl, rfl⟩ := hcs
    have hlen : n ≤ zs.length := by rw [hz]; split <;> omega
    refine ⟨some x, n, c, zs.take n, rfl, hl, ⟨by rw [List.length_take]; omega, fun h0 => ?_⟩, fun y hy => hw y (List.mem_of_mem_take hy)⟩
    obtain ⟨b, off, rfl, hc'⟩ := ints_at hcell (by omega)
    have h00 := hc' 0 (by omega)
    refine ⟨b, off, rfl, World.block_lt_of_cell? w _ h00, fun j hj => ?_⟩
    rw [hc' j (by omega), List.getElem?_take, if_pos hj]
    rfl
end
end Go.Proofs.YtdggacabjlengaaDoor

namespace Go.Proofs.YtdggacabjlengaaDoor
open Go.RowKit Go.ChangeShapes Go.WideShapes

theorem one_int : Tryd.prog.cellsOf 3 = 1 := by kernel_rfl
theorem ok_of {x : Int} (h : (Lit.int .i64 x).wf = true) : -9223372036854775808 ≤ x ∧ x ≤ 9223372036854775807 := by
  simp only [Lit.wf, Bool.and_eq_true, decide_eq_true_eq] at h
  exact h
section
variable {H : Type} {enc : TypeId × Value → H} {w : World} {base : Nat} {sp : Nat → Bool} {held : Bool} {fuel : Nat}
end
end Go.Proofs.YtdggacabjlengaaDoor

