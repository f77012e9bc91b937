/-
  The arguments of laws on tuples: a row of deeds that came in.
-/
import Derived.Test.YtbhnlmlaebngmaaOpenT
import Derived.Test.YtbhnlmlaebngmaaRight
namespace Go.Proofs.Ytbhnlmlaebngmaa
open Go.RowKit Go.ChangeShapes Go.WideShapes
set_option linter.unusedVariables false

theorem one_u8T : Try.prog.cellsOf 5 = 1 := by kernel_rfl
theorem ten_deedT : Try.prog.cellsOf 50 = 10 := by kernel_rfl
section
variable {H : Type} {enc : TypeId × Value → H} {w : World} {base : Nat} {sp : Nat → Bool} {held : Bool} {fuel : Nat}
set_option maxRecDepth 100000 in
/-- A deed's cells. -/
theorem open_deedT {cs : List Value} {x : DataW H × List MemPlace} (h : DataW.trod enc Try.prog w base sp held fuel 50 cs = some x) : ∃ d : DeedP, cs = d.cs ∧ DeedP.Ok w w.heap.size d := by
  obtain ⟨xs, n, _, _, hl, hx, hf⟩ := DataW.trod_struct Try.underlying50 h
  rw [ten_deedT] at hl
  obtain ⟨c0, c1, c2, c3, c4, c5, c6, c7, c8, c9, rfl⟩ := list_tenT cs hl
  obtain ⟨x0, x1, x2, x3, x4, x5, rfl⟩ := list_sixT xs hx
  have h0 : DataW.trod enc Try.prog w base sp held n 5 (([c0, c1, c2, c3, c4, c5, c6, c7, c8, c9].drop 0).take (Try.prog.cellsOf 5)) = some x0 := hf 0 _ rfl
  have h1 : DataW.trod enc Try.prog w base sp held n 24 (([c0, c1, c2, c3, c4, c5, c6, c7, c8, c9].drop 1).take (Try.prog.cellsOf 24)) = some x1 := hf 1 _ rfl
  have h2 : DataW.trod enc Try.prog w base sp held n 3 (([c0, c1, c2, c3, c4, c5, c6, c7, c8, c9].drop 2).take (Try.prog.cellsOf 3)) = some x2 := hf 2 _ rfl
  have h3 : DataW.trod enc Try.prog w base sp held n 23 (([c0, c1, c2, c3, c4, c5, c6, c7, c8, c9].drop 3).take (Try.prog.cellsOf 23)) = some x3 := hf 3 _ rfl
  have h4 : DataW.trod enc Try.prog w base sp held n 3 (([c0, c1, c2, c3, c4, c5, c6, c7, c8, c9].drop 8).take (Try.prog.cellsOf 3)) = some x4 := hf 4 _ rfl
  have h5 : DataW.trod enc Try.prog w base sp held n 3 (([c0, c1, c2, c3, c4, c5, c6, c7, c8, c9].drop 9).take (Try.prog.cellsOf 3)) = some x5 := hf 5 _ rfl
  rw [one_u8T] at h0
  rw [one_sliceT] at h1
  rw [one_int] at h2 h4 h5
  rw [five_state] at h3
  obtain ⟨wh, e0, _, ww⟩ := DataW.trod_int Try.underlying5 h0
  have h1' : DataW.trod enc Try.prog w base sp held n 24 [c1] = some x1 := h1
  obtain ⟨A, m, k, l, rfl, hmk, hE, _⟩ := open_entsT h1'
  obtain ⟨a, e2, _, wa⟩ := DataW.trod_int Try.underlying3 h2
  obtain ⟨s, e3, hs⟩ := open_stateT h3
  obtain ⟨b, e4, _, _⟩ := DataW.trod_int Try.underlying3 h4
  obtain ⟨g, e5, _, _⟩ := DataW.trod_int Try.underlying3 h5
  simp at e0 e2 e3 e4 e5
  obtain ⟨rfl, rfl, rfl, rfl, rfl⟩ := e3
  subst e0 e2 e4 e5
  have hw : 0 ≤ wh ∧ wh ≤ 255 := by
    simp only [Lit.wf, Bool.and_eq_true, decide_eq_true_eq] at ww
    exact ww
  exact ⟨⟨wh, A, m, k, l, a, s, b, g⟩, rfl, ⟨hw, hE, hmk, ok_of wa, ⟨hs.1, hs.2⟩⟩⟩
set_option maxRecDepth 100000 in
/-- Deeds that came in. -/
theorem open_deedsv {r : Reach} {b0 : Nat} {v : Value} {d : DataW H} {pl : List MemPlace} (hval : Value.okWide Try.prog w r b0 48 v) (hd : DataW.Trod enc Try.prog w base sp held 48 v d pl) :
    ∃ A n c l, v = .slice A n c ∧ n ≤ c ∧ Ds w w.heap.size A n l := by
  obtain ⟨A, n, c, rfl⟩ := okWide_slice Try.underlying48 hval
  obtain ⟨fuel, hd⟩ := hd
  rcases Deep.open_slice Try.underlying48 hd with ⟨hc, _⟩ | ⟨a, len, cap, m, n', D, Pl, hc, _, hl, _, hm, _, hi⟩
  · simp [Value.cells] at hc
    obtain ⟨rfl, rfl, rfl⟩ := hc
    exact ⟨none, 0, 0, [], rfl, Nat.le_refl _, ⟨Row.nil, fun _ h => by cases h⟩⟩
  · simp [Value.cells] at hc
    obtain ⟨rfl, rfl, rfl⟩ := hc
    have hlm : n ≤ m := by rw [hm]; split <;> omega
    rw [ten_deedT] at hi
    obtain ⟨l, hr, hp⟩ := rows_of (w := w) (cs := DeedP.cs) (P := DeedP.Ok w w.heap.size) (a := a) (len := n) (K := 10) (by omega) (fun i hil => by
      obtain ⟨cs', h1, h2⟩ := hi i (by omega)
      obtain ⟨e, rfl, he⟩ := open_deedT h2
      obtain ⟨_, h4, h5⟩ := World.cells?_some h1
      exact ⟨e, h5, h4, he⟩)
    exact ⟨_, _, _, l, rfl, hl, hr, hp⟩
end
end Go.Proofs.Ytbhnlmlaebngmaa
