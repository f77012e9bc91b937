/-
  The arguments of the names' laws: what a name says.
-/
import Derived.Test.YtbfdjjkphmchgaaDoorOpenG
import Derived.Test.YtbfdjjkphmchgaaDoorIdP
namespace Go.Proofs.YtbfdjjkphmchgaaDoor
open Go.RowKit Go.ChangeShapes Go.WideShapes

theorem one_int : Tryd.prog.cellsOf 3 = 1 := by kernel_rfl
theorem one_u8 : Tryd.prog.cellsOf 5 = 1 := by kernel_rfl
theorem three_ident : Tryd.prog.cellsOf 23 = 3 := by kernel_rfl
theorem ok_of {x : Int} (h : (Lit.int .i64 x).wf = true) : -9223372036854775808 ≤ x ∧ x ≤ 9223372036854775807 := by
  simp only [Lit.wf, Bool.and_eq_true, decide_eq_true_eq] at h
  exact h
theorem ok_u8 {x : Int} (h : (Lit.int .u8 x).wf = true) : 0 ≤ x ∧ x ≤ 255 := by
  simp only [Lit.wf, Bool.and_eq_true, decide_eq_true_eq] at h
  exact h
section
variable {H : Type} {enc : TypeId × Value → H} {w : World} {base : Nat} {sp : Nat → Bool} {held : Bool} {fuel : Nat}
theorem open_ident {cs : List Value} {x : DataW H × List MemPlace} (h : DataW.trod enc Tryd.prog w base sp held fuel 23 cs = some x) : ∃ e : IdP, cs = e.cs ∧ e.Ok := by
  obtain ⟨xs, n, _, _, hl, hx, hf⟩ := DataW.trod_struct Tryd.underlying23 h
  rw [three_ident] at hl
  obtain ⟨c0, c1, c2, rfl⟩ := list_three cs hl
  obtain ⟨x0, x1, x2, rfl⟩ := list_three xs hx
  have h0 : DataW.trod enc Tryd.prog w base sp held n 5 (([c0, c1, c2].drop 0).take (Tryd.prog.cellsOf 5)) = some x0 := hf 0 _ rfl
  have h1 : DataW.trod enc Tryd.prog w base sp held n 3 (([c0, c1, c2].drop 1).take (Tryd.prog.cellsOf 3)) = some x1 := hf 1 _ rfl
  have h2 : DataW.trod enc Tryd.prog w base sp held n 3 (([c0, c1, c2].drop 2).take (Tryd.prog.cellsOf 3)) = some x2 := hf 2 _ rfl
  rw [one_int] at h1 h2
  rw [one_u8] at h0
  obtain ⟨a, e0, _, wa⟩ := DataW.trod_int Tryd.underlying5 h0
  obtain ⟨b, e1, _, wb⟩ := DataW.trod_int Tryd.underlying3 h1
  obtain ⟨c, e2, _, wc⟩ := DataW.trod_int Tryd.underlying3 h2
  simp at e0 e1 e2
  exact ⟨⟨a, b, c⟩, by rw [e0, e1, e2]; rfl, ⟨(ok_u8 wa).1, (ok_u8 wa).2, (ok_of wb).1, (ok_of wb).2, (ok_of wc).1, (ok_of wc).2⟩⟩
set_option maxRecDepth 100000 in
/-- What a name says, that came in. -/
theorem open_identv {r : Reach} {b0 : Nat} {v : Value} {d : DataW H} {pl : List MemPlace} (hval : Value.okWide Tryd.prog w r b0 23 v) (hd : DataW.Trod enc Tryd.prog w base sp held 23 v d pl) : ∃ e : IdP, v = e.v ∧ e.Ok := by
  obtain ⟨ca, rfl, hsz⟩ := okWide_struct Tryd.underlying23 hval
  rw [three_ident] at hsz
  obtain ⟨cs, rfl, hl⟩ := list_arr ca hsz
  obtain ⟨c0, c1, c2, rfl⟩ := list_three cs hl
  obtain ⟨fuel, hd⟩ := hd
  obtain ⟨e, he, h1⟩ := open_ident hd
  have e' : [c0, c1, c2] = e.cs := he
  rw [e']
  exact ⟨e, rfl, h1⟩
end

end Go.Proofs.YtbfdjjkphmchgaaDoor
