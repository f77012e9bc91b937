/-
  The arguments of laws on tuples: a tuple that came in.
-/
import Derived.Test.YtbhnlmlaebngmaaStO
import Derived.Test.YtbhnlmlaebngmaaTupU
namespace Go.Proofs.Ytbhnlmlaebngmaa
open Go.RowKit Go.ChangeShapes Go.WideShapes
set_option linter.unusedVariables false

theorem list_fourT {α : Type} (l : List α) (h : l.length = 4) : ∃ a b c d, l = [a, b, c, d] := by
  match l, h with
  | [a, b, c, d], _ => exact ⟨a, b, c, d, rfl⟩
theorem list_sixT {α : Type} (l : List α) (h : l.length = 6) : ∃ a b c d e f, l = [a, b, c, d, e, f] := by
  match l, h with
  | [a, b, c, d, e, f], _ => exact ⟨a, b, c, d, e, f, rfl⟩
theorem list_eightT {α : Type} (l : List α) (h : l.length = 8) : ∃ a b c d e f g i, l = [a, b, c, d, e, f, g, i] := by
  match l, h with
  | [a, b, c, d, e, f, g, i], _ => exact ⟨a, b, c, d, e, f, g, i, rfl⟩
theorem list_tenT {α : Type} (l : List α) (h : l.length = 10) : ∃ a b c d e f g i j k, l = [a, b, c, d, e, f, g, i, j, k] := by
  match l, h with
  | [a, b, c, d, e, f, g, i, j, k], _ => exact ⟨a, b, c, d, e, f, g, i, j, k, rfl⟩
theorem one_sliceT : Try.prog.cellsOf 24 = 1 := by kernel_rfl
theorem eight_tupT : Try.prog.cellsOf 26 = 8 := by kernel_rfl
section
variable {H : Type} {enc : TypeId × Value → H} {w : World} {base : Nat} {sp : Nat → Bool} {held : Bool} {fuel : Nat}
/-- A state's cells. -/
theorem open_stateT {cs : List Value} {x : DataW H × List MemPlace} (h : DataW.trod enc Try.prog w base sp held fuel 23 cs = some x) :
    ∃ s : StP, cs = [.int .i64 s.ix, .int .i64 s.tm, .int .i64 s.sm, .int .i64 s.lv, .bool s.fn] ∧ s.Ok := by
  obtain ⟨xs, n, _, _, hl, hx, hf⟩ := DataW.trod_struct Try.underlying23 h
  rw [five_state] at hl
  obtain ⟨c0, c1, c2, c3, c4, rfl⟩ := list_five cs hl
  obtain ⟨x0, x1, x2, x3, x4, rfl⟩ := list_five xs hx
  have h0 : DataW.trod enc Try.prog w base sp held n 3 (([c0, c1, c2, c3, c4].drop 0).take (Try.prog.cellsOf 3)) = some x0 := hf 0 _ rfl
  have h1 : DataW.trod enc Try.prog w base sp held n 3 (([c0, c1, c2, c3, c4].drop 1).take (Try.prog.cellsOf 3)) = some x1 := hf 1 _ rfl
  have h2 : DataW.trod enc Try.prog w base sp held n 3 (([c0, c1, c2, c3, c4].drop 2).take (Try.prog.cellsOf 3)) = some x2 := hf 2 _ rfl
  have h3 : DataW.trod enc Try.prog w base sp held n 3 (([c0, c1, c2, c3, c4].drop 3).take (Try.prog.cellsOf 3)) = some x3 := hf 3 _ rfl
  have h4 : DataW.trod enc Try.prog w base sp held n 4 (([c0, c1, c2, c3, c4].drop 4).take (Try.prog.cellsOf 4)) = some x4 := hf 4 _ rfl
  rw [one_int] at h0 h1 h2 h3
  rw [one_bool] at h4
  obtain ⟨a, e0, _, wa⟩ := DataW.trod_int Try.underlying3 h0
  obtain ⟨b, e1, _, wb⟩ := DataW.trod_int Try.underlying3 h1
  obtain ⟨c, e2, _, wc⟩ := DataW.trod_int Try.underlying3 h2
  obtain ⟨d', e3, _, wd⟩ := DataW.trod_int Try.underlying3 h3
  obtain ⟨f, e4, _⟩ := DataW.trod_bool Try.underlying4 h4
  simp at e0 e1 e2 e3 e4
  subst e0 e1 e2 e3 e4
  exact ⟨⟨a, b, c, d', f⟩, rfl, ⟨(ok_of wa).1, (ok_of wa).2, (ok_of wb).1, (ok_of wb).2, (ok_of wc).1, (ok_of wc).2, (ok_of wd).1, (ok_of wd).2⟩⟩
/-- A slice of entries, as one cell. -/
theorem open_entsT {c : Value} {x : DataW H × List MemPlace} (h : DataW.trod enc Try.prog w base sp held fuel 24 [c] = some x) :
    ∃ A n k l, c = .slice A n k ∧ n ≤ k ∧ Es w w.heap.size A n l ∧ ∀ e ∈ l, EnP.Ok e := by
  rcases Deep.open_slice Try.underlying24 h with ⟨hc, _⟩ | ⟨adr, len, cap, k, n', D, Pl, hc, _, hl', _, hm, _, hi⟩
  · obtain rfl : c = .slice none 0 0 := by simpa using hc
    exact ⟨none, 0, 0, [], rfl, Nat.le_refl _, Row.nil, fun s hs => by cases hs⟩
  · obtain rfl : c = .slice (some adr) len cap := by simpa using hc
    have hlm : len ≤ k := by rw [hm]; split <;> omega
    rw [three_entry] at hi
    obtain ⟨l, hr, hp⟩ := rows_of (w := w) (cs := EnP.cs) (P := EnP.Ok) (a := adr) (len := len) (K := 3) (by omega) (fun i hil => by
      obtain ⟨cs', h1, h2⟩ := hi i (by omega)
      obtain ⟨e, rfl, he⟩ := open_entry h2
      obtain ⟨_, h4, h5⟩ := World.cells?_some h1
      exact ⟨e, h5, h4, he⟩)
    exact ⟨_, _, _, l, rfl, hl', hr, hp⟩
set_option maxRecDepth 100000 in
/-- A tuple that came in. -/
theorem open_tupv {r : Reach} {b0 : Nat} {v : Value} {d : DataW H} {pl : List MemPlace} (hval : Value.okWide Try.prog w r b0 26 v) (hd : DataW.Trod enc Try.prog w base sp held 26 v d pl) :
    ∃ t A n c, v = tupV t (.slice A n c) ∧ n ≤ c ∧ Es w w.heap.size A n t.lg := by
  obtain ⟨ca, rfl, hsz⟩ := okWide_struct Try.underlying26 hval
  rw [eight_tupT] at hsz
  obtain ⟨cs, rfl, hl⟩ := list_arr ca hsz
  obtain ⟨c0, c1, c2, c3, c4, c5, c6, c7, rfl⟩ := list_eightT cs hl
  obtain ⟨fuel, hd⟩ := hd
  obtain ⟨xs, n, _, _, _, hx, hf⟩ := DataW.trod_struct Try.underlying26 hd
  obtain ⟨x0, x1, x2, x3, rfl⟩ := list_fourT xs hx
  have h0 : DataW.trod enc Try.prog w base sp held n 23 (([c0, c1, c2, c3, c4, c5, c6, c7].drop 0).take (Try.prog.cellsOf 23)) = some x0 := hf 0 _ rfl
  have h1 : DataW.trod enc Try.prog w base sp held n 24 (([c0, c1, c2, c3, c4, c5, c6, c7].drop 5).take (Try.prog.cellsOf 24)) = some x1 := hf 1 _ rfl
  have h2 : DataW.trod enc Try.prog w base sp held n 3 (([c0, c1, c2, c3, c4, c5, c6, c7].drop 6).take (Try.prog.cellsOf 3)) = some x2 := hf 2 _ rfl
  have h3 : DataW.trod enc Try.prog w base sp held n 3 (([c0, c1, c2, c3, c4, c5, c6, c7].drop 7).take (Try.prog.cellsOf 3)) = some x3 := hf 3 _ rfl
  rw [five_state] at h0
  rw [one_sliceT] at h1
  rw [one_int] at h2 h3
  obtain ⟨s, e0, _⟩ := open_stateT h0
  have h1' : DataW.trod enc Try.prog w base sp held n 24 [c5] = some x1 := h1
  obtain ⟨A, m, k, l, rfl, hmk, hE, _⟩ := open_entsT h1'
  obtain ⟨a, e2, _, _⟩ := DataW.trod_int Try.underlying3 h2
  obtain ⟨b, e3, _, _⟩ := DataW.trod_int Try.underlying3 h3
  simp at e0 e2 e3
  obtain ⟨rfl, rfl, rfl, rfl, rfl⟩ := e0
  subst e2 e3
  exact ⟨⟨s, l, a, b⟩, A, m, k, rfl, hmk, hE⟩
end
end Go.Proofs.Ytbhnlmlaebngmaa
