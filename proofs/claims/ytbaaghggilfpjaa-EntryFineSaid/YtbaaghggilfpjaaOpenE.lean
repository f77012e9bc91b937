/-
  The arguments of the entries' laws: a state, an entry, a row of entries.
-/
import Derived.Test.YtbaaghggilfpjaaOpenG
import Derived.Test.YtbaaghggilfpjaaRAll
namespace Go.Proofs.Ytbaaghggilfpjaa
open Go.RowKit Go.ChangeShapes Go.WideShapes

theorem one_int : Try.prog.cellsOf 3 = 1 := by kernel_rfl
theorem one_bool : Try.prog.cellsOf 4 = 1 := by kernel_rfl
theorem three_entry : Try.prog.cellsOf 25 = 3 := by kernel_rfl
theorem five_state : Try.prog.cellsOf 23 = 5 := by kernel_rfl
theorem ok_of {x : Int} (h : (Lit.int .i64 x).wf = true) : -9223372036854775808 ≤ x ∧ x ≤ 9223372036854775807 := by
  simp only [Lit.wf, Bool.and_eq_true, decide_eq_true_eq] at h
  exact h
section
variable {H : Type} {enc : TypeId × Value → H} {w : World} {base : Nat} {sp : Nat → Bool} {held : Bool} {fuel : Nat}
theorem open_entry {cs : List Value} {x : DataW H × List MemPlace} (h : DataW.trod enc Try.prog w base sp held fuel 25 cs = some x) : ∃ e : EnP, cs = e.cs ∧ e.Ok := by
  obtain ⟨xs, n, _, _, hl, hx, hf⟩ := DataW.trod_struct Try.underlying25 h
  rw [three_entry] at hl
  obtain ⟨c0, c1, c2, rfl⟩ := list_three cs hl
  obtain ⟨x0, x1, x2, rfl⟩ := list_three xs hx
  have h0 : DataW.trod enc Try.prog w base sp held n 3 (([c0, c1, c2].drop 0).take (Try.prog.cellsOf 3)) = some x0 := hf 0 _ rfl
  have h1 : DataW.trod enc Try.prog w base sp held n 3 (([c0, c1, c2].drop 1).take (Try.prog.cellsOf 3)) = some x1 := hf 1 _ rfl
  have h2 : DataW.trod enc Try.prog w base sp held n 3 (([c0, c1, c2].drop 2).take (Try.prog.cellsOf 3)) = some x2 := hf 2 _ rfl
  rw [one_int] at h0 h1 h2
  obtain ⟨a, e0, _, wa⟩ := DataW.trod_int Try.underlying3 h0
  obtain ⟨b, e1, _, wb⟩ := DataW.trod_int Try.underlying3 h1
  obtain ⟨c, e2, _, wc⟩ := DataW.trod_int Try.underlying3 h2
  simp at e0 e1 e2
  exact ⟨⟨a, b, c⟩, by rw [e0, e1, e2]; rfl, ⟨(ok_of wa).1, (ok_of wa).2, (ok_of wb).1, (ok_of wb).2, (ok_of wc).1, (ok_of wc).2⟩⟩
set_option maxRecDepth 100000 in
/-- An entry that came in. -/
theorem open_entryv {r : Reach} {b0 : Nat} {v : Value} {d : DataW H} {pl : List MemPlace} (hval : Value.okWide Try.prog w r b0 25 v) (hd : DataW.Trod enc Try.prog w base sp held 25 v d pl) : ∃ e : EnP, v = e.v ∧ e.Ok := by
  obtain ⟨ca, rfl, hsz⟩ := okWide_struct Try.underlying25 hval
  rw [three_entry] at hsz
  obtain ⟨cs, rfl, hl⟩ := list_arr ca hsz
  obtain ⟨c0, c1, c2, rfl⟩ := list_three cs hl
  obtain ⟨fuel, hd⟩ := hd
  obtain ⟨e, he, h1⟩ := open_entry hd
  have e' : [c0, c1, c2] = e.cs := he
  rw [e']
  exact ⟨e, rfl, h1⟩
set_option maxRecDepth 100000 in
/-- A state that came in. -/
theorem open_statev {r : Reach} {b0 : Nat} {v : Value} {d : DataW H} {pl : List MemPlace} (hval : Value.okWide Try.prog w r b0 23 v) (hd : DataW.Trod enc Try.prog w base sp held 23 v d pl) : ∃ s : StP, v = s.v ∧ s.Ok := by
  obtain ⟨ca, rfl, hsz⟩ := okWide_struct Try.underlying23 hval
  rw [five_state] at hsz
  obtain ⟨cs, rfl, hl⟩ := list_arr ca hsz
  obtain ⟨c0, c1, c2, c3, c4, rfl⟩ := list_five cs hl
  obtain ⟨fuel, hd⟩ := hd
  obtain ⟨xs, n, _, _, _, hx, hf⟩ := DataW.trod_struct Try.underlying23 hd
  obtain ⟨x0, x1, x2, x3, x4, rfl⟩ := list_five xs hx
  have h0 : DataW.trod enc Try.prog w base sp held n 3 (([c0, c1, c2, c3, c4].drop 0).take (Try.prog.cellsOf 3)) = some x0 := hf 0 _ rfl
  have h1 : DataW.trod enc Try.prog w base sp held n 3 (([c0, c1, c2, c3, c4].drop 1).take (Try.prog.cellsOf 3)) = some x1 := hf 1 _ rfl
  have h2 : DataW.trod enc Try.prog w base sp held n 3 (([c0, c1, c2, c3, c4].drop 2).take (Try.prog.cellsOf 3)) = some x2 := hf 2 _ rfl
  have h3 : DataW.trod enc Try.prog w base sp held n 3 (([c0, c1, c2, c3, c4].drop 3).take (Try.prog.cellsOf 3)) = some x3 := hf 3 _ rfl
  have h4 : DataW.trod enc Try.prog w base sp held n 4 (([c0, c1, c2, c3, c4].drop 4).take (Try.prog.cellsOf 4)) = some x4 := hf 4 _ rfl
  rw [one_int] at h0 h1 h2 h3
  rw [one_bool] at h4
  obtain ⟨a, e0, _, wa⟩ := DataW.trod_int Try.underlying3 h0
  obtain ⟨b, e1, _, wb⟩ := DataW.trod_int Try.underlying3 h1
  obtain ⟨c, e2, _, wc⟩ := DataW.trod_int Try.underlying3 h2
  obtain ⟨d', e3, _, wd⟩ := DataW.trod_int Try.underlying3 h3
  obtain ⟨f, e4, _⟩ := DataW.trod_bool Try.underlying4 h4
  simp at e0 e1 e2 e3 e4
  subst e0 e1 e2 e3 e4
  exact ⟨⟨a, b, c, d', f⟩, rfl, ⟨(ok_of wa).1, (ok_of wa).2, (ok_of wb).1, (ok_of wb).2, (ok_of wc).1, (ok_of wc).2, (ok_of wd).1, (ok_of wd).2⟩⟩
set_option maxRecDepth 100000 in
/-- Entries that came in. -/
theorem open_entriesv {r : Reach} {b0 : Nat} {v : Value} {d : DataW H} {pl : List MemPlace} (hval : Value.okWide Try.prog w r b0 26 v) (hd : DataW.Trod enc Try.prog w base sp held 26 v d pl) :
    ∃ A n c l, v = .slice A n c ∧ n ≤ c ∧ Es w w.heap.size A n l ∧ ∀ e ∈ l, EnP.Ok e := by
  obtain ⟨A, n, c, rfl⟩ := okWide_slice Try.underlying26 hval
  obtain ⟨fuel, hd⟩ := hd
  rcases Deep.open_slice Try.underlying26 hd with ⟨hc, _⟩ | ⟨a, len, cap, m, n', D, Pl, hc, _, hl, _, hm, _, hi⟩
  · simp [Value.cells] at hc
    obtain ⟨rfl, rfl, rfl⟩ := hc
    exact ⟨none, 0, 0, [], rfl, Nat.le_refl _, Row.nil, fun _ h => by cases h⟩
  · simp [Value.cells] at hc
    obtain ⟨rfl, rfl, rfl⟩ := hc
    have hlm : n ≤ m := by rw [hm]; split <;> omega
    rw [three_entry] at hi
    obtain ⟨l, hr, hp⟩ := rows_of (w := w) (cs := EnP.cs) (P := EnP.Ok) (a := a) (len := n) (K := 3) (by omega) (fun i hil => by
      obtain ⟨cs', h1, h2⟩ := hi i (by omega)
      obtain ⟨e, rfl, he⟩ := open_entry h2
      obtain ⟨_, h4, h5⟩ := World.cells?_some h1
      exact ⟨e, h5, h4, he⟩)
    exact ⟨_, _, _, l, rfl, hl, hr, hp⟩
end

end Go.Proofs.Ytbaaghggilfpjaa
