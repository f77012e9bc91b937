/-
  The arguments of laws on entries: an entry, a row of entries (stage 6's texts, as one).
-/
import Derived.Test.YtbhnlmlaebngmaaRow
import Derived.OpenShut
import Derived.Deep.Slices
import Derived.Deep.Fields
import Derived.ChangeSame
import Derived.Test.YtbhnlmlaebngmaaEntM
namespace Go.Proofs.Ytbhnlmlaebngmaa
open Go.RowKit Go.ChangeShapes Go.WideShapes

theorem list_two {α : Type} (l : List α) (h : l.length = 2) : ∃ a b, l = [a, b] := by
  match l, h with
  | [a, b], _ => exact ⟨a, b, rfl⟩
theorem list_three {α : Type} (l : List α) (h : l.length = 3) : ∃ a b c, l = [a, b, c] := by
  match l, h with
  | [a, b, c], _ => exact ⟨a, b, c, rfl⟩
theorem list_five {α : Type} (l : List α) (h : l.length = 5) : ∃ a b c d e, l = [a, b, c, d, e] := by
  match l, h with
  | [a, b, c, d, e], _ => exact ⟨a, b, c, d, e, rfl⟩
section
variable {H : Type} {enc : TypeId × Value → H} {w : World} {base : Nat} {sp : Nat → Bool} {held : Bool} {fuel : Nat}
/-- Each of a slice's elements opened: a row of them. -/
theorem rows_of {α : Type} {cs : α → List Value} {P : α → Prop} {a : Addr} {len K : Nat} (hK : 0 < K) (h : ∀ i, i < len → ∃ x, (∀ j, j < K → w.cell? ((a.add (i * K)).add j) = (cs x)[j]?) ∧ (cs x).length = K ∧ P x) :
    ∃ xs, Row K cs w w.heap.size (some a) len xs ∧ ∀ x ∈ xs, P x := by
  have key : ∀ n, n ≤ len → ∃ xs : List α, xs.length = n ∧ (∀ i x, xs[i]? = some x → (∀ j, j < K → w.cell? ((a.add (i * K)).add j) = (cs x)[j]?) ∧ (cs x).length = K) ∧ ∀ x ∈ xs, P x := by
    intro n
    induction n with
    | zero => exact fun _ => ⟨[], rfl, fun i x hx => by simp at hx, fun x hx => by cases hx⟩
    | succ n ih =>
      intro hn
      obtain ⟨xs, h1, h2, h3⟩ := ih (by omega)
      obtain ⟨x, e1, e2, e3⟩ := h n (by omega)
      refine ⟨xs ++ [x], by simp [h1], fun i y hy => ?_, fun y hy => ?_⟩
      · rw [List.getElem?_append] at hy
        split at hy
        · exact h2 i y hy
        · have hi : i = n := by
            have := (List.getElem?_eq_some_iff.1 hy).1
            simp at this
            omega
          subst hi
          rw [h1, Nat.sub_self] at hy
          cases hy
          exact ⟨e1, e2⟩
      · rcases List.mem_append.1 hy with hy | hy
        · exact h3 y hy
        · rw [List.mem_singleton.1 hy]
          exact e3
  obtain ⟨xs, h1, h2, h3⟩ := key len (Nat.le_refl _)
  refine ⟨xs, ⟨h1, fun h0 => ?_⟩, h3⟩
  have hx0 : xs[0]? = some xs[0] := List.getElem?_eq_getElem (by omega)
  obtain ⟨c0, l0⟩ := h2 0 _ hx0
  have c00 := c0 0 hK
  rw [List.getElem?_eq_getElem (by omega)] at c00
  obtain ⟨b, off, spot⟩ := a
  have hspot : spot = none := by simpa [Addr.add] using World.cell?_spot c00
  subst hspot
  refine ⟨b, off, rfl, ?_, fun i x hx j hj => ?_⟩
  · have := World.block_lt_of_cell? w _ c00
    simpa [Addr.add] using this
  · have h4 := (h2 i x hx).1 j hj
    rw [add_plain, add_plain, Nat.add_assoc] at h4
    exact h4
theorem list_arr {α : Type} (a : Array α) {n : Nat} (h : a.size = n) : ∃ l : List α, a = ⟨l⟩ ∧ l.length = n := by
  obtain ⟨l⟩ := a
  exact ⟨l, rfl, h⟩
/-- A slice of whole numbers that came in. -/
theorem open_numsv {P : Program} {t e : TypeId} {k : IntKind} {r : Reach} {b0 : Nat} {v : Value} {d : DataW H} {pl : List MemPlace} (ht : P.underlying t = some (.slice e)) (he : P.underlying e = some (.int k)) (h1 : P.cellsOf e = 1)
    (hval : Value.okWide P w r b0 t v) (hd : DataW.Trod enc P w base sp held t v d pl) :
    ∃ A n c l, v = .slice A n c ∧ n ≤ c ∧ Rd w w.heap.size k A n l ∧ ∀ x ∈ l, (Lit.int k x).wf = true := by
  obtain ⟨A, n, c, rfl⟩ := okWide_slice ht hval
  obtain ⟨fuel, hf⟩ := hd
  rcases open_ints ht he h1 hf with ⟨hcs, _⟩ | ⟨x, len, cap, zs, hcs, _, hl, _, hz, _, hcell, hw⟩
  · simp [Value.cells] at hcs
    obtain ⟨rfl, rfl, rfl⟩ := hcs
    exact ⟨none, 0, 0, [], rfl, Nat.le_refl _, Rd.nil, fun x hx => by cases hx⟩
  · simp [Value.cells] at hcs
    obtain ⟨rfl, rfl, rfl⟩ := hcs
    have hlen : n ≤ zs.length := by rw [hz]; split <;> omega
    refine ⟨some x, n, c, zs.take n, rfl, hl, ⟨by rw [List.length_take]; omega, fun h0 => ?_⟩, fun y hy => hw y (List.mem_of_mem_take hy)⟩
    obtain ⟨b, off, rfl, hc'⟩ := ints_at hcell (by omega)
    have h00 := hc' 0 (by omega)
    refine ⟨b, off, rfl, World.block_lt_of_cell? w _ h00, fun j hj => ?_⟩
    rw [hc' j (by omega), List.getElem?_take, if_pos hj]
    rfl
end
end Go.Proofs.Ytbhnlmlaebngmaa

namespace Go.Proofs.Ytbhnlmlaebngmaa
open Go.RowKit Go.ChangeShapes Go.WideShapes

theorem one_int : Try.prog.cellsOf 3 = 1 := by kernel_rfl
theorem three_entry : Try.prog.cellsOf 39 = 3 := by kernel_rfl
theorem ok_of {x : Int} (h : (Lit.int .i64 x).wf = true) : -9223372036854775808 ≤ x ∧ x ≤ 9223372036854775807 := by
  simp only [Lit.wf, Bool.and_eq_true, decide_eq_true_eq] at h
  exact h
section
variable {H : Type} {enc : TypeId × Value → H} {w : World} {base : Nat} {sp : Nat → Bool} {held : Bool} {fuel : Nat}
theorem open_entry {cs : List Value} {x : DataW H × List MemPlace} (h : DataW.trod enc Try.prog w base sp held fuel 39 cs = some x) : ∃ e : EnP, cs = e.cs ∧ e.Ok := by
  obtain ⟨xs, n, _, _, hl, hx, hf⟩ := DataW.trod_struct Try.underlying39 h
  rw [three_entry] at hl
  obtain ⟨c0, c1, c2, rfl⟩ := list_three cs hl
  obtain ⟨x0, x1, x2, rfl⟩ := list_three xs hx
  have h0 : DataW.trod enc Try.prog w base sp held n 3 (([c0, c1, c2].drop 0).take (Try.prog.cellsOf 3)) = some x0 := hf 0 _ rfl
  have h1 : DataW.trod enc Try.prog w base sp held n 3 (([c0, c1, c2].drop 1).take (Try.prog.cellsOf 3)) = some x1 := hf 1 _ rfl
  have h2 : DataW.trod enc Try.prog w base sp held n 3 (([c0, c1, c2].drop 2).take (Try.prog.cellsOf 3)) = some x2 := hf 2 _ rfl
  rw [one_int] at h0 h1 h2
  obtain ⟨a, e0, _, wa⟩ := DataW.trod_int Try.underlying3 h0
  obtain ⟨b, e1, _, wb⟩ := DataW.trod_int Try.underlying3 h1
  obtain ⟨c, e2, _, wc⟩ := DataW.trod_int Try.underlying3 h2
  simp at e0 e1 e2
  exact ⟨⟨a, b, c⟩, by rw [e0, e1, e2]; rfl, ⟨(ok_of wa).1, (ok_of wa).2, (ok_of wb).1, (ok_of wb).2, (ok_of wc).1, (ok_of wc).2⟩⟩
set_option maxRecDepth 100000 in
/-- An entry that came in. -/
theorem open_entryv {r : Reach} {b0 : Nat} {v : Value} {d : DataW H} {pl : List MemPlace} (hval : Value.okWide Try.prog w r b0 39 v) (hd : DataW.Trod enc Try.prog w base sp held 39 v d pl) : ∃ e : EnP, v = e.v ∧ e.Ok := by
  obtain ⟨ca, rfl, hsz⟩ := okWide_struct Try.underlying39 hval
  rw [three_entry] at hsz
  obtain ⟨cs, rfl, hl⟩ := list_arr ca hsz
  obtain ⟨c0, c1, c2, rfl⟩ := list_three cs hl
  obtain ⟨fuel, hd⟩ := hd
  obtain ⟨e, he, h1⟩ := open_entry hd
  have e' : [c0, c1, c2] = e.cs := he
  rw [e']
  exact ⟨e, rfl, h1⟩
set_option maxRecDepth 100000 in
/-- Entries that came in. -/
theorem open_entriesv {r : Reach} {b0 : Nat} {v : Value} {d : DataW H} {pl : List MemPlace} (hval : Value.okWide Try.prog w r b0 24 v) (hd : DataW.Trod enc Try.prog w base sp held 24 v d pl) :
    ∃ A n c l, v = .slice A n c ∧ n ≤ c ∧ Es w w.heap.size A n l ∧ ∀ e ∈ l, EnP.Ok e := by
  obtain ⟨A, n, c, rfl⟩ := okWide_slice Try.underlying24 hval
  obtain ⟨fuel, hd⟩ := hd
  rcases Deep.open_slice Try.underlying24 hd with ⟨hc, _⟩ | ⟨a, len, cap, m, n', D, Pl, hc, _, hl, _, hm, _, hi⟩
  · simp [Value.cells] at hc
    obtain ⟨rfl, rfl, rfl⟩ := hc
    exact ⟨none, 0, 0, [], rfl, Nat.le_refl _, Row.nil, fun _ h => by cases h⟩
  · simp [Value.cells] at hc
    obtain ⟨rfl, rfl, rfl⟩ := hc
    have hlm : n ≤ m := by rw [hm]; split <;> omega
    rw [three_entry] at hi
    obtain ⟨l, hr, hp⟩ := rows_of (w := w) (cs := EnP.cs) (P := EnP.Ok) (a := a) (len := n) (K := 3) (by omega) (fun i hil => by
      obtain ⟨cs', h1, h2⟩ := hi i (by omega)
      obtain ⟨e, rfl, he⟩ := open_entry h2
      obtain ⟨_, h4, h5⟩ := World.cells?_some h1
      exact ⟨e, h5, h4, he⟩)
    exact ⟨_, _, _, l, rfl, hl, hr, hp⟩
end
end Go.Proofs.Ytbhnlmlaebngmaa

