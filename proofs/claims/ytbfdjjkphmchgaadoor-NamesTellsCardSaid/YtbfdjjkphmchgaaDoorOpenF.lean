/-
  The arguments of the names' laws: rows of files, of what names say.
-/
import Derived.Test.YtbfdjjkphmchgaaDoorOpenI
import Derived.Test.YtbfdjjkphmchgaaDoorFileN
import Derived.Test.YtbfdjjkphmchgaaDoorRestP
namespace Go.Proofs.YtbfdjjkphmchgaaDoor
open Go.RowKit Go.ChangeShapes Go.WideShapes

theorem one_text : Tryd.prog.cellsOf 9 = 1 := by kernel_rfl
theorem one_row : Tryd.prog.cellsOf 44 = 1 := by kernel_rfl
theorem two_file : Tryd.prog.cellsOf 46 = 2 := by kernel_rfl
section
variable {H : Type} {enc : TypeId × Value → H} {w : World} {base : Nat} {sp : Nat → Bool} {held : Bool} {fuel : Nat}
theorem open_slicec {cs : List Value} {x : DataW H × List MemPlace} (h : DataW.trod enc Tryd.prog w base sp held fuel 44 cs = some x) : ∃ A n c, cs = [.slice A n c] := by
  rcases Deep.open_slice Tryd.underlying44 h with ⟨hc, _⟩ | ⟨a, len, cap, m, n', D, Pl, hc, _⟩
  · exact ⟨_, _, _, hc⟩
  · exact ⟨_, _, _, hc⟩
theorem open_filec {cs : List Value} {x : DataW H × List MemPlace} (h : DataW.trod enc Tryd.prog w base sp held fuel 46 cs = some x) : ∃ f : FlP, cs = f.cs := by
  obtain ⟨xs, n, _, _, hl, hx, hf⟩ := DataW.trod_struct Tryd.underlying46 h
  rw [two_file] at hl
  obtain ⟨c0, c1, rfl⟩ := list_two cs hl
  obtain ⟨x0, x1, rfl⟩ := list_two xs hx
  have h0 : DataW.trod enc Tryd.prog w base sp held n 9 (([c0, c1].drop 0).take (Tryd.prog.cellsOf 9)) = some x0 := hf 0 _ rfl
  have h1 : DataW.trod enc Tryd.prog w base sp held n 44 (([c0, c1].drop 1).take (Tryd.prog.cellsOf 44)) = some x1 := hf 1 _ rfl
  rw [one_text] at h0
  rw [one_row] at h1
  obtain ⟨s, e0, _, ws⟩ := DataW.trod_string Tryd.underlying9 h0
  obtain ⟨A, n, c, e1⟩ := open_slicec h1
  simp at e0 e1
  exact ⟨⟨s, A, n, c⟩, by rw [e0, e1]; rfl⟩
set_option maxRecDepth 100000 in
/-- Files that came in. -/
theorem open_filesv {r : Reach} {b0 : Nat} {v : Value} {d : DataW H} {pl : List MemPlace} (hval : Value.okWide Tryd.prog w r b0 24 v) (hd : DataW.Trod enc Tryd.prog w base sp held 24 v d pl) :
    ∃ A n c l, v = .slice A n c ∧ n ≤ c ∧ Fl w w.heap.size A n l := by
  obtain ⟨A, n, c, rfl⟩ := okWide_slice Tryd.underlying24 hval
  obtain ⟨fuel, hd⟩ := hd
  rcases Deep.open_slice Tryd.underlying24 hd with ⟨hc, _⟩ | ⟨a, len, cap, m, n', D, Pl, hc, _, hl, _, hm, _, hi⟩
  · simp [Value.cells] at hc
    obtain ⟨rfl, rfl, rfl⟩ := hc
    exact ⟨none, 0, 0, [], rfl, Nat.le_refl _, Row.nil⟩
  · simp [Value.cells] at hc
    obtain ⟨rfl, rfl, rfl⟩ := hc
    have hlm : n ≤ m := by rw [hm]; split <;> omega
    rw [two_file] at hi
    obtain ⟨l, hr, hp⟩ := rows_of (w := w) (cs := FlP.cs) (P := fun _ => True) (a := a) (len := n) (K := 2) (by omega) (fun i hil => by
      obtain ⟨cs', h1, h2⟩ := hi i (by omega)
      obtain ⟨e, rfl⟩ := open_filec h2
      obtain ⟨_, h4, h5⟩ := World.cells?_some h1
      exact ⟨e, h5, h4, trivial⟩)
    exact ⟨_, _, _, l, rfl, hl, hr⟩
set_option maxRecDepth 100000 in
/-- What names say, that came in. -/
theorem open_idsv {r : Reach} {b0 : Nat} {v : Value} {d : DataW H} {pl : List MemPlace} (hval : Value.okWide Tryd.prog w r b0 25 v) (hd : DataW.Trod enc Tryd.prog w base sp held 25 v d pl) :
    ∃ A n c l, v = .slice A n c ∧ n ≤ c ∧ Ids w w.heap.size A n l ∧ ∀ e ∈ l, IdP.Ok e := by
  obtain ⟨A, n, c, rfl⟩ := okWide_slice Tryd.underlying25 hval
  obtain ⟨fuel, hd⟩ := hd
  rcases Deep.open_slice Tryd.underlying25 hd with ⟨hc, _⟩ | ⟨a, len, cap, m, n', D, Pl, hc, _, hl, _, hm, _, hi⟩
  · simp [Value.cells] at hc
    obtain ⟨rfl, rfl, rfl⟩ := hc
    exact ⟨none, 0, 0, [], rfl, Nat.le_refl _, Row.nil, fun _ h => by cases h⟩
  · simp [Value.cells] at hc
    obtain ⟨rfl, rfl, rfl⟩ := hc
    have hlm : n ≤ m := by rw [hm]; split <;> omega
    rw [three_ident] at hi
    obtain ⟨l, hr, hp⟩ := rows_of (w := w) (cs := IdP.cs) (P := IdP.Ok) (a := a) (len := n) (K := 3) (by omega) (fun i hil => by
      obtain ⟨cs', h1, h2⟩ := hi i (by omega)
      obtain ⟨e, rfl, he⟩ := open_ident h2
      obtain ⟨_, h4, h5⟩ := World.cells?_some h1
      exact ⟨e, h5, h4, he⟩)
    exact ⟨_, _, _, l, rfl, hl, hr, hp⟩
end

end Go.Proofs.YtbfdjjkphmchgaaDoor
