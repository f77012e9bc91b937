/-
  The arguments of laws on manifests: a manifest that came in.
-/
import Derived.Test.YtafeadplmcoilaaDoorRow
import Derived.OpenShut
import Derived.Deep.Slices
import Derived.Deep.Fields
import Derived.ChangeSame
import Derived.Test.YtafeadplmcoilaaDoorManS
import Derived.Test.YtafeadplmcoilaaDoorNumbd
namespace Go.Proofs.YtafeadplmcoilaaDoor
open Go.RowKit Go.ChangeShapes Go.WideShapes
set_option linter.unusedVariables false

section
variable {H : Type} {enc : TypeId × Value → H} {w : World} {base : Nat} {sp : Nat → Bool} {held : Bool} {fuel : Nat}
/-- Each of a slice's elements opened: a row of them. -/
theorem rows_of {α : Type} {cs : α → List Value} {P : α → Prop} {a : Addr} {len K : Nat} (hK : 0 < K) (h : ∀ i, i < len → ∃ x, (∀ j, j < K → w.cell? ((a.add (i * K)).add j) = (cs x)[j]?) ∧ (cs x).length = K ∧ P x) :
    ∃ xs, Row K cs w w.heap.size (some a) len xs ∧ ∀ x ∈ xs, P x := by
  have key : ∀ n, n ≤ len → ∃ xs : List α, xs.length = n ∧ (∀ i x, xs[i]? = some x → (∀ j, j < K → w.cell? ((a.add (i * K)).add j) = (cs x)[j]?) ∧ (cs x).length = K) ∧ ∀ x ∈ xs, P x := by
    intro n
    induction n with
    | zero => exact fun _ => ⟨[], rfl, fun i x hx => by simp at hx, fun x hx => by cases hx⟩
    | succ n ih =>
      intro hn
      obtain ⟨xs, h1, h2, h3⟩ := ih (by omega)
      obtain ⟨x, e1, e2, e3⟩ := h n (by omega)
      refine ⟨xs ++ [x], by simp [h1], fun i y hy => ?_, fun y hy => ?_⟩
      · rw [List.getElem?_append] at hy
        split at hy
        · exact h2 i y hy
        · have hi : i = n := by
            have := (List.getElem?_eq_some_iff.1 hy).1
            simp at this
            omega
          subst hi
          rw [h1, Nat.sub_self] at hy
          cases hy
          exact ⟨e1, e2⟩
      · rcases List.mem_append.1 hy with hy | hy
        · exact h3 y hy
        · rw [List.mem_singleton.1 hy]
          exact e3
  obtain ⟨xs, h1, h2, h3⟩ := key len (Nat.le_refl _)
  refine ⟨xs, ⟨h1, fun h0 => ?_⟩, h3⟩
  have hx0 : xs[0]? = some xs[0] := List.getElem?_eq_getElem (by omega)
  obtain ⟨c0, l0⟩ := h2 0 _ hx0
  have c00 := c0 0 hK
  rw [List.getElem?_eq_getElem (by omega)] at c00
  obtain ⟨b, off, spot⟩ := a
  have hspot : spot = none := by simpa [Addr.add] using World.cell?_spot c00
  subst hspot
  refine ⟨b, off, rfl, ?_, fun i x hx j hj => ?_⟩
  · have := World.block_lt_of_cell? w _ c00
    simpa [Addr.add] using this
  · have h4 := (h2 i x hx).1 j hj
    rw [add_plain, add_plain, Nat.add_assoc] at h4
    exact h4
theorem list_arr {α : Type} (a : Array α) {n : Nat} (h : a.size = n) : ∃ l : List α, a = ⟨l⟩ ∧ l.length = n := by
  obtain ⟨l⟩ := a
  exact ⟨l, rfl, h⟩
end
theorem list_oneM {α : Type} (l : List α) (h : l.length = 1) : ∃ a, l = [a] := by
  match l, h with
  | [a], _ => exact ⟨a, rfl⟩
theorem list_twoM {α : Type} (l : List α) (h : l.length = 2) : ∃ a b, l = [a, b] := by
  match l, h with
  | [a, b], _ => exact ⟨a, b, rfl⟩
theorem list_fourM {α : Type} (l : List α) (h : l.length = 4) : ∃ a b c d, l = [a, b, c, d] := by
  match l, h with
  | [a, b, c, d], _ => exact ⟨a, b, c, d, rfl⟩
theorem list_fiveM {α : Type} (l : List α) (h : l.length = 5) : ∃ a b c d e, l = [a, b, c, d, e] := by
  match l, h with
  | [a, b, c, d, e], _ => exact ⟨a, b, c, d, e, rfl⟩
theorem list_sixM {α : Type} (l : List α) (h : l.length = 6) : ∃ a b c d e f, l = [a, b, c, d, e, f] := by
  match l, h with
  | [a, b, c, d, e, f], _ => exact ⟨a, b, c, d, e, f, rfl⟩
theorem one_intM : Tryd.prog.cellsOf 3 = 1 := by kernel_rfl
theorem four_segM : Tryd.prog.cellsOf 51 = 4 := by kernel_rfl
theorem two_refM : Tryd.prog.cellsOf 23 = 2 := by kernel_rfl
theorem one_sliceM : Tryd.prog.cellsOf 24 = 1 := by kernel_rfl
theorem six_manM : Tryd.prog.cellsOf 26 = 6 := by kernel_rfl
theorem ok_ofM {x : Int} (h : (Lit.int .i64 x).wf = true) : -9223372036854775808 ≤ x ∧ x ≤ 9223372036854775807 := by
  simp only [Lit.wf, Bool.and_eq_true, decide_eq_true_eq] at h
  exact h
def I64 (x : Int) : Prop := -9223372036854775808 ≤ x ∧ x ≤ 9223372036854775807
structure SegP.Ok (s : SegP) : Prop where
  sq : I64 s.sq
  fm : I64 s.fm
  fi : I64 s.fi
  ct : I64 s.ct
structure ManP.Ok (m : ManP) : Prop where
  nx : I64 m.nx
  tm : I64 m.tm
  vt : I64 m.vt
  ss : I64 m.ss
  sf : I64 m.sf
  sg : ∀ s ∈ m.sg, s.Ok
theorem ManP.Ok.mok {m : ManP} (h : m.Ok) : MOk m := fun x hx => by
  unfold filesP at hx
  rcases List.mem_append.1 hx with hx | hx
  · unfold snapF at hx
    split at hx
    · cases hx
    · obtain rfl := List.mem_singleton.1 hx
      exact h.ss
  · obtain ⟨s, hs, rfl⟩ := List.mem_map.1 hx
    exact (h.sg s hs).sq
section
variable {H : Type} {enc : TypeId × Value → H} {w : World} {base : Nat} {sp : Nat → Bool} {held : Bool} {fuel : Nat}
theorem open_segM {cs : List Value} {x : DataW H × List MemPlace} (h : DataW.trod enc Tryd.prog w base sp held fuel 51 cs = some x) : ∃ e : SegP, cs = e.cs ∧ e.Ok := by
  obtain ⟨xs, n, _, _, hl, hx, hf⟩ := DataW.trod_struct Tryd.underlying51 h
  rw [four_segM] at hl
  obtain ⟨c0, c1, c2, c3, rfl⟩ := list_fourM cs hl
  obtain ⟨x0, x1, x2, x3, rfl⟩ := list_fourM xs hx
  have h0 : DataW.trod enc Tryd.prog w base sp held n 3 (([c0, c1, c2, c3].drop 0).take (Tryd.prog.cellsOf 3)) = some x0 := hf 0 _ rfl
  have h1 : DataW.trod enc Tryd.prog w base sp held n 3 (([c0, c1, c2, c3].drop 1).take (Tryd.prog.cellsOf 3)) = some x1 := hf 1 _ rfl
  have h2 : DataW.trod enc Tryd.prog w base sp held n 3 (([c0, c1, c2, c3].drop 2).take (Tryd.prog.cellsOf 3)) = some x2 := hf 2 _ rfl
  have h3 : DataW.trod enc Tryd.prog w base sp held n 3 (([c0, c1, c2, c3].drop 3).take (Tryd.prog.cellsOf 3)) = some x3 := hf 3 _ rfl
  rw [one_intM] at h0 h1 h2 h3
  obtain ⟨a, e0, _, wa⟩ := DataW.trod_int Tryd.underlying3 h0
  obtain ⟨b, e1, _, wb⟩ := DataW.trod_int Tryd.underlying3 h1
  obtain ⟨c, e2, _, wc⟩ := DataW.trod_int Tryd.underlying3 h2
  obtain ⟨d, e3, _, wd⟩ := DataW.trod_int Tryd.underlying3 h3
  simp at e0 e1 e2 e3
  exact ⟨⟨a, b, c, d⟩, by rw [e0, e1, e2, e3]; rfl, ⟨ok_ofM wa, ok_ofM wb, ok_ofM wc, ok_ofM wd⟩⟩
theorem open_refM {cs : List Value} {x : DataW H × List MemPlace} (h : DataW.trod enc Tryd.prog w base sp held fuel 23 cs = some x) : ∃ a b : Int, cs = [.int .i64 a, .int .i64 b] ∧ I64 a ∧ I64 b := by
  obtain ⟨xs, n, _, _, hl, hx, hf⟩ := DataW.trod_struct Tryd.underlying23 h
  rw [two_refM] at hl
  obtain ⟨c0, c1, rfl⟩ := list_twoM cs hl
  obtain ⟨x0, x1, rfl⟩ := list_twoM xs hx
  have h0 : DataW.trod enc Tryd.prog w base sp held n 3 (([c0, c1].drop 0).take (Tryd.prog.cellsOf 3)) = some x0 := hf 0 _ rfl
  have h1 : DataW.trod enc Tryd.prog w base sp held n 3 (([c0, c1].drop 1).take (Tryd.prog.cellsOf 3)) = some x1 := hf 1 _ rfl
  rw [one_intM] at h0 h1
  obtain ⟨a, e0, _, wa⟩ := DataW.trod_int Tryd.underlying3 h0
  obtain ⟨b, e1, _, wb⟩ := DataW.trod_int Tryd.underlying3 h1
  simp at e0 e1
  exact ⟨a, b, by rw [e0, e1], ok_ofM wa, ok_ofM wb⟩
set_option maxRecDepth 100000 in
/-- A manifest that came in. -/
theorem open_manv {r : Reach} {b0 : Nat} {v : Value} {d : DataW H} {pl : List MemPlace} (hval : Value.okWide Tryd.prog w r b0 26 v) (hd : DataW.Trod enc Tryd.prog w base sp held 26 v d pl) :
    ∃ m A n c, v = manV m (.slice A n c) ∧ n ≤ c ∧ Sg w w.heap.size A n m.sg ∧ m.Ok := by
  obtain ⟨ca, rfl, hsz⟩ := okWide_struct Tryd.underlying26 hval
  rw [six_manM] at hsz
  obtain ⟨cs, rfl, hl⟩ := list_arr ca hsz
  obtain ⟨c0, c1, c2, c3, c4, c5, rfl⟩ := list_sixM cs hl
  obtain ⟨fuel, hd⟩ := hd
  obtain ⟨xs, n, _, _, _, hx, hf⟩ := DataW.trod_struct Tryd.underlying26 hd
  obtain ⟨x0, x1, x2, x3, x4, rfl⟩ := list_fiveM xs hx
  have h0 : DataW.trod enc Tryd.prog w base sp held n 3 (([c0, c1, c2, c3, c4, c5].drop 0).take (Tryd.prog.cellsOf 3)) = some x0 := hf 0 _ rfl
  have h1 : DataW.trod enc Tryd.prog w base sp held n 3 (([c0, c1, c2, c3, c4, c5].drop 1).take (Tryd.prog.cellsOf 3)) = some x1 := hf 1 _ rfl
  have h2 : DataW.trod enc Tryd.prog w base sp held n 3 (([c0, c1, c2, c3, c4, c5].drop 2).take (Tryd.prog.cellsOf 3)) = some x2 := hf 2 _ rfl
  have h3 : DataW.trod enc Tryd.prog w base sp held n 23 (([c0, c1, c2, c3, c4, c5].drop 3).take (Tryd.prog.cellsOf 23)) = some x3 := hf 3 _ rfl
  have h4 : DataW.trod enc Tryd.prog w base sp held n 24 (([c0, c1, c2, c3, c4, c5].drop 5).take (Tryd.prog.cellsOf 24)) = some x4 := hf 4 _ rfl
  rw [one_intM] at h0 h1 h2
  rw [two_refM] at h3
  rw [one_sliceM] at h4
  obtain ⟨a, e0, _, wa⟩ := DataW.trod_int Tryd.underlying3 h0
  obtain ⟨b, e1, _, wb⟩ := DataW.trod_int Tryd.underlying3 h1
  obtain ⟨c, e2, _, wc⟩ := DataW.trod_int Tryd.underlying3 h2
  obtain ⟨e, f, e3, we, wf⟩ := open_refM h3
  simp at e0 e1 e2 e3
  obtain ⟨rfl, rfl⟩ := e3
  subst e0 e1 e2
  have h4' : DataW.trod enc Tryd.prog w base sp held n 24 [c5] = some x4 := h4
  rcases Deep.open_slice Tryd.underlying24 h4' with ⟨hc, _⟩ | ⟨adr, len, cap, k, n', D, Pl, hc, _, hl', _, hm, _, hi⟩
  · obtain rfl : c5 = .slice none 0 0 := by simpa using hc
    exact ⟨⟨a, b, c, e, f, []⟩, none, 0, 0, rfl, Nat.le_refl _, Row.nil, ⟨ok_ofM wa, ok_ofM wb, ok_ofM wc, we, wf, fun s hs => by cases hs⟩⟩
  · obtain rfl : c5 = .slice (some adr) len cap := by simpa using hc
    have hlm : len ≤ k := by rw [hm]; split <;> omega
    rw [four_segM] at hi
    obtain ⟨l, hr, hp⟩ := rows_of (w := w) (cs := SegP.cs) (P := SegP.Ok) (a := adr) (len := len) (K := 4) (by omega) (fun i hil => by
      obtain ⟨cs', h1, h2⟩ := hi i (by omega)
      obtain ⟨s, rfl, hs⟩ := open_segM h2
      obtain ⟨_, h4, h5⟩ := World.cells?_some h1
      exact ⟨s, h5, h4, hs⟩)
    exact ⟨⟨a, b, c, e, f, l⟩, some adr, len, cap, rfl, hl', hr, ⟨ok_ofM wa, ok_ofM wb, ok_ofM wc, we, wf, hp⟩⟩
end
end Go.Proofs.YtafeadplmcoilaaDoor
