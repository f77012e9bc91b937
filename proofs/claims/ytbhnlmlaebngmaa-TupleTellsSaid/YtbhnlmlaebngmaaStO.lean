/-
  The arguments of laws on states: a state that came in (stage 6's text).
-/
import Derived.Test.YtbhnlmlaebngmaaEntO
namespace Go.Proofs.Ytbhnlmlaebngmaa
open Go.RowKit Go.ChangeShapes Go.WideShapes

theorem one_bool : Try.prog.cellsOf 4 = 1 := by kernel_rfl
theorem five_state : Try.prog.cellsOf 23 = 5 := by kernel_rfl
section
variable {H : Type} {enc : TypeId × Value → H} {w : World} {base : Nat} {sp : Nat → Bool} {held : Bool} {fuel : Nat}
set_option maxRecDepth 100000 in
/-- A state that came in. -/
theorem open_statev {r : Reach} {b0 : Nat} {v : Value} {d : DataW H} {pl : List MemPlace} (hval : Value.okWide Try.prog w r b0 23 v) (hd : DataW.Trod enc Try.prog w base sp held 23 v d pl) : ∃ s : StP, v = s.v ∧ s.Ok := by
  obtain ⟨ca, rfl, hsz⟩ := okWide_struct Try.underlying23 hval
  rw [five_state] at hsz
  obtain ⟨cs, rfl, hl⟩ := list_arr ca hsz
  obtain ⟨c0, c1, c2, c3, c4, rfl⟩ := list_five cs hl
  obtain ⟨fuel, hd⟩ := hd
  obtain ⟨xs, n, _, _, _, hx, hf⟩ := DataW.trod_struct Try.underlying23 hd
  obtain ⟨x0, x1, x2, x3, x4, rfl⟩ := list_five xs hx
  have h0 : DataW.trod enc Try.prog w base sp held n 3 (([c0, c1, c2, c3, c4].drop 0).take (Try.prog.cellsOf 3)) = some x0 := hf 0 _ rfl
  have h1 : DataW.trod enc Try.prog w base sp held n 3 (([c0, c1, c2, c3, c4].drop 1).take (Try.prog.cellsOf 3)) = some x1 := hf 1 _ rfl
  have h2 : DataW.trod enc Try.prog w base sp held n 3 (([c0, c1, c2, c3, c4].drop 2).take (Try.prog.cellsOf 3)) = some x2 := hf 2 _ rfl
  have h3 : DataW.trod enc Try.prog w base sp held n 3 (([c0, c1, c2, c3, c4].drop 3).take (Try.prog.cellsOf 3)) = some x3 := hf 3 _ rfl
  have h4 : DataW.trod enc Try.prog w base sp held n 4 (([c0, c1, c2, c3, c4].drop 4).take (Try.prog.cellsOf 4)) = some x4 := hf 4 _ rfl
  rw [one_int] at h0 h1 h2 h3
  rw [one_bool] at h4
  obtain ⟨a, e0, _, wa⟩ := DataW.trod_int Try.underlying3 h0
  obtain ⟨b, e1, _, wb⟩ := DataW.trod_int Try.underlying3 h1
  obtain ⟨c, e2, _, wc⟩ := DataW.trod_int Try.underlying3 h2
  obtain ⟨d', e3, _, wd⟩ := DataW.trod_int Try.underlying3 h3
  obtain ⟨f, e4, _⟩ := DataW.trod_bool Try.underlying4 h4
  simp at e0 e1 e2 e3 e4
  subst e0 e1 e2 e3 e4
  exact ⟨⟨a, b, c, d', f⟩, rfl, ⟨(ok_of wa).1, (ok_of wa).2, (ok_of wb).1, (ok_of wb).2, (ok_of wc).1, (ok_of wc).2, (ok_of wd).1, (ok_of wd).2⟩⟩
end
end Go.Proofs.Ytbhnlmlaebngmaa
