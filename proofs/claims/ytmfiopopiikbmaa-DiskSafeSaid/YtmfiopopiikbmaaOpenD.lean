/-
  The arguments of the disk's laws: rows of files, of operations; a disk.
-/
import Derived.Test.YtmfiopopiikbmaaNow
import Derived.Test.YtmfiopopiikbmaaNms
import Derived.OpenShut
import Derived.Deep.Slices
import Derived.Deep.Fields
import Derived.ChangeSame
namespace Go.Proofs.Ytmfiopopiikbmaa
open Go.RowKit Go.ChangeShapes Go.WideShapes

theorem one_byte : Try.prog.cellsOf 5 = 1 := by kernel_rfl
theorem one_text : Try.prog.cellsOf 9 = 1 := by kernel_rfl
theorem one_row : Try.prog.cellsOf 26 = 1 := by kernel_rfl
theorem one_int : Try.prog.cellsOf 3 = 1 := by kernel_rfl
theorem one_bool : Try.prog.cellsOf 4 = 1 := by kernel_rfl
theorem one_files : Try.prog.cellsOf 22 = 1 := by kernel_rfl
theorem one_ops : Try.prog.cellsOf 23 = 1 := by kernel_rfl
theorem two_file : Try.prog.cellsOf 47 = 2 := by kernel_rfl
theorem four_op : Try.prog.cellsOf 28 = 4 := by kernel_rfl
theorem five_disk : Try.prog.cellsOf 25 = 5 := by kernel_rfl
theorem list_two {α : Type} (l : List α) (h : l.length = 2) : ∃ a b, l = [a, b] := by
  match l, h with
  | [a, b], _ => exact ⟨a, b, rfl⟩
theorem list_four {α : Type} (l : List α) (h : l.length = 4) : ∃ a b c d, l = [a, b, c, d] := by
  match l, h with
  | [a, b, c, d], _ => exact ⟨a, b, c, d, rfl⟩
theorem list_five {α : Type} (l : List α) (h : l.length = 5) : ∃ a b c d e, l = [a, b, c, d, e] := by
  match l, h with
  | [a, b, c, d, e], _ => exact ⟨a, b, c, d, e, rfl⟩

section
variable {H : Type} {enc : TypeId × Value → H} {w : World} {base : Nat} {sp : Nat → Bool} {held : Bool} {fuel : Nat}
theorem open_byts {cs : List Value} {x : DataW H × List MemPlace} (h : DataW.trod enc Try.prog w base sp held fuel 26 cs = some x) :
    ∃ p : Byts, cs = [.slice p.A p.n p.c] ∧ p.Ok w w.heap.size := by
  rcases open_ints Try.underlying26 Try.underlying5 one_byte h with ⟨hc, _⟩ | ⟨a, len, cap, zs, hc, _, hl, _, hz, _, hcell, hw⟩
  · exact ⟨⟨none, 0, 0, []⟩, hc, ⟨Rd.nil, fun n hn => by (cases hn), Nat.le_refl _⟩⟩
  · have hlen : len ≤ zs.length := by rw [hz]; split <;> omega
    refine ⟨⟨some a, len, cap, zs.take len⟩, hc, ⟨⟨show (zs.take len).length = len by rw [List.length_take]; omega, fun h0 => ?_⟩, byt_of fun n hn => hw n (List.mem_of_mem_take hn), hl⟩⟩
    simp only at h0
    obtain ⟨b, off, rfl, hc'⟩ := ints_at hcell (by omega)
    have h00 := hc' 0 (by omega)
    refine ⟨b, off, rfl, World.block_lt_of_cell? w _ h00, fun j hj => ?_⟩
    simp only at hj
    rw [hc' j (by omega), List.getElem?_take, if_pos hj]
    rfl
theorem open_file {cs : List Value} {x : DataW H × List MemPlace} (h : DataW.trod enc Try.prog w base sp held fuel 47 cs = some x) :
    ∃ f : FileM, cs = f.cs ∧ f.p.Ok w w.heap.size ∧ f.name.size ≤ maxLen := by
  obtain ⟨xs, n, _, _, hl, hx, hf⟩ := DataW.trod_struct Try.underlying47 h
  rw [two_file] at hl
  obtain ⟨c0, c1, rfl⟩ := list_two cs hl
  obtain ⟨x0, x1, rfl⟩ := list_two xs hx
  have h0 : DataW.trod enc Try.prog w base sp held n 9 (([c0, c1].drop 0).take (Try.prog.cellsOf 9)) = some x0 := hf 0 _ rfl
  have h1 : DataW.trod enc Try.prog w base sp held n 26 (([c0, c1].drop 1).take (Try.prog.cellsOf 26)) = some x1 := hf 1 _ rfl
  rw [one_text] at h0
  rw [one_row] at h1
  obtain ⟨s, e0, _, ws⟩ := DataW.trod_string Try.underlying9 h0
  obtain ⟨p, e1, hp⟩ := open_byts h1
  simp at e0 e1
  exact ⟨⟨s, p⟩, by rw [e0, e1]; rfl, hp, ws⟩
theorem open_op {cs : List Value} {x : DataW H × List MemPlace} (h : DataW.trod enc Try.prog w base sp held fuel 28 cs = some x) :
    ∃ o : OpM, cs = o.cs ∧ o.p.Ok w w.heap.size ∧ (0 ≤ o.kind ∧ o.kind ≤ 255) ∧ o.name.size ≤ maxLen ∧ o.to.size ≤ maxLen := by
  obtain ⟨xs, n, _, _, hl, hx, hf⟩ := DataW.trod_struct Try.underlying28 h
  rw [four_op] at hl
  obtain ⟨c0, c1, c2, c3, rfl⟩ := list_four cs hl
  obtain ⟨x0, x1, x2, x3, rfl⟩ := list_four xs hx
  have h0 : DataW.trod enc Try.prog w base sp held n 5 (([c0, c1, c2, c3].drop 0).take (Try.prog.cellsOf 5)) = some x0 := hf 0 _ rfl
  have h1 : DataW.trod enc Try.prog w base sp held n 9 (([c0, c1, c2, c3].drop 1).take (Try.prog.cellsOf 9)) = some x1 := hf 1 _ rfl
  have h2 : DataW.trod enc Try.prog w base sp held n 9 (([c0, c1, c2, c3].drop 2).take (Try.prog.cellsOf 9)) = some x2 := hf 2 _ rfl
  have h3 : DataW.trod enc Try.prog w base sp held n 26 (([c0, c1, c2, c3].drop 3).take (Try.prog.cellsOf 26)) = some x3 := hf 3 _ rfl
  rw [one_byte] at h0
  rw [one_text] at h1 h2
  rw [one_row] at h3
  obtain ⟨z, e0, _, wz⟩ := DataW.trod_int Try.underlying5 h0
  obtain ⟨s, e1, _, ws⟩ := DataW.trod_string Try.underlying9 h1
  obtain ⟨t, e2, _, wt⟩ := DataW.trod_string Try.underlying9 h2
  obtain ⟨p, e3, hp⟩ := open_byts h3
  simp at e0 e1 e2 e3
  simp only [Lit.wf, Bool.and_eq_true, decide_eq_true_eq] at wz
  exact ⟨⟨z, s, t, p⟩, by rw [e0, e1, e2, e3]; rfl, hp, ⟨wz.1, wz.2⟩, ws, wt⟩
/-- Each of a slice's elements opened: a row of them. -/
theorem rows_of {α : Type} {cs : α → List Value} {P : α → Prop} {a : Addr} {len K : Nat} (hK : 0 < K) (h : ∀ i, i < len → ∃ x, (∀ j, j < K → w.cell? ((a.add (i * K)).add j) = (cs x)[j]?) ∧ (cs x).length = K ∧ P x) :
    ∃ xs, Row K cs w w.heap.size (some a) len xs ∧ ∀ x ∈ xs, P x := by
  have key : ∀ n, n ≤ len → ∃ xs : List α, xs.length = n ∧ (∀ i x, xs[i]? = some x → (∀ j, j < K → w.cell? ((a.add (i * K)).add j) = (cs x)[j]?) ∧ (cs x).length = K) ∧ ∀ x ∈ xs, P x := by
    intro n
    induction n with
    | zero => exact fun _ => ⟨[], rfl, fun i x hx => by simp at hx, fun x hx => by cases hx⟩
    | succ n ih =>
      intro hn
      obtain ⟨xs, h1, h2, h3⟩ := ih (by omega)
      obtain ⟨x, e1, e2, e3⟩ := h n (by omega)
      refine ⟨xs ++ [x], by simp [h1], fun i y hy => ?_, fun y hy => ?_⟩
      · rw [List.getElem?_append] at hy
        split at hy
        · exact h2 i y hy
        · have hi : i = n := by
            have := (List.getElem?_eq_some_iff.1 hy).1
            simp at this
            omega
          subst hi
          rw [h1, Nat.sub_self] at hy
          cases hy
          exact ⟨e1, e2⟩
      · rcases List.mem_append.1 hy with hy | hy
        · exact h3 y hy
        · rw [List.mem_singleton.1 hy]
          exact e3
  obtain ⟨xs, h1, h2, h3⟩ := key len (Nat.le_refl _)
  refine ⟨xs, ⟨h1, fun h0 => ?_⟩, h3⟩
  have hx0 : xs[0]? = some xs[0] := List.getElem?_eq_getElem (by omega)
  obtain ⟨c0, l0⟩ := h2 0 _ hx0
  have c00 := c0 0 hK
  rw [List.getElem?_eq_getElem (by omega)] at c00
  obtain ⟨b, off, spot⟩ := a
  have hspot : spot = none := by simpa [Addr.add] using World.cell?_spot c00
  subst hspot
  refine ⟨b, off, rfl, ?_, fun i x hx j hj => ?_⟩
  · have := World.block_lt_of_cell? w _ c00
    simpa [Addr.add] using this
  · have h4 := (h2 i x hx).1 j hj
    rw [add_plain, add_plain, Nat.add_assoc] at h4
    exact h4
theorem open_files {cs : List Value} {x : DataW H × List MemPlace} (h : DataW.trod enc Try.prog w base sp held fuel 22 cs = some x) :
    ∃ A n c fs, cs = [.slice A n c] ∧ n ≤ c ∧ Fs w w.heap.size A n fs ∧ NmF (fs.map FileM.pure) := by
  rcases Deep.open_slice Try.underlying22 h with ⟨hc, _⟩ | ⟨a, len, cap, m, n, D, Pl, hc, _, hl, _, hm, _, hi⟩
  · exact ⟨none, 0, 0, [], hc, Nat.le_refl _, Fs.nil, fun _ hf => by cases hf⟩
  · have hlm : len ≤ m := by rw [hm]; split <;> omega
    rw [two_file] at hi
    obtain ⟨fs, hr, hp⟩ := rows_of (w := w) (cs := FileM.cs) (P := fun f : FileM => f.p.Ok w w.heap.size ∧ f.name.size ≤ maxLen) (a := a) (len := len) (K := 2) (by omega) (fun i hil => by
      obtain ⟨cs', h1, h2⟩ := hi i (by omega)
      obtain ⟨f, rfl, hf⟩ := open_file h2
      obtain ⟨_, h4, h5⟩ := World.cells?_some h1
      exact ⟨f, h5, h4, hf⟩)
    exact ⟨_, _, _, fs, hc, hl, ⟨hr, fun f hf => (hp f hf).1⟩, fun g hg => by
      obtain ⟨f, hf, rfl⟩ := List.mem_map.1 hg
      exact (hp f hf).2⟩
theorem open_ops {cs : List Value} {x : DataW H × List MemPlace} (h : DataW.trod enc Try.prog w base sp held fuel 23 cs = some x) :
    ∃ A n c os, cs = [.slice A n c] ∧ n ≤ c ∧ Os w w.heap.size A n os ∧ NmO (os.map OpM.pure) := by
  rcases Deep.open_slice Try.underlying23 h with ⟨hc, _⟩ | ⟨a, len, cap, m, n, D, Pl, hc, _, hl, _, hm, _, hi⟩
  · exact ⟨none, 0, 0, [], hc, Nat.le_refl _, Os.nil, fun _ hf => by cases hf⟩
  · have hlm : len ≤ m := by rw [hm]; split <;> omega
    rw [four_op] at hi
    obtain ⟨os, hr, hp⟩ := rows_of (w := w) (cs := OpM.cs) (P := fun o : OpM => o.p.Ok w w.heap.size ∧ (0 ≤ o.kind ∧ o.kind ≤ 255) ∧ o.name.size ≤ maxLen ∧ o.to.size ≤ maxLen) (a := a) (len := len) (K := 4) (by omega) (fun i hil => by
      obtain ⟨cs', h1, h2⟩ := hi i (by omega)
      obtain ⟨o, rfl, hf⟩ := open_op h2
      obtain ⟨_, h4, h5⟩ := World.cells?_some h1
      exact ⟨o, h5, h4, hf⟩)
    exact ⟨_, _, _, os, hc, hl, ⟨hr, fun o ho => ⟨(hp o ho).1, (hp o ho).2.1⟩⟩, fun g hg => by
      obtain ⟨o, ho, rfl⟩ := List.mem_map.1 hg
      exact (hp o ho).2.2⟩
theorem list_arr {α : Type} (a : Array α) {n : Nat} (h : a.size = n) : ∃ l : List α, a = ⟨l⟩ ∧ l.length = n := by
  obtain ⟨l⟩ := a
  exact ⟨l, rfl, h⟩
set_option maxRecDepth 100000 in
/-- A disk that came in: its five fields. -/
theorem open_disk {r : Reach} {b0 : Nat} {v : Value} {d : DataW H} {pl : List MemPlace} (hval : Value.okWide Try.prog w r b0 25 v) (hd : DataW.Trod enc Try.prog w base sp held 25 v d pl) :
    ∃ A n c B m k q u dd fl qu, v = .agg #[.slice A n c, .slice B m k, .int .i64 q, .int .i64 u, .bool dd] ∧ DAt w ⟨fl, qu, q, u, dd⟩ A n c B m k ∧ Nms ⟨fl, qu, q, u, dd⟩ ∧ (Lit.int .i64 q).wf = true ∧ (Lit.int .i64 u).wf = true := by
  obtain ⟨ca, rfl, hsz⟩ := okWide_struct Try.underlying25 hval
  rw [five_disk] at hsz
  obtain ⟨cs, rfl, hl⟩ := list_arr ca hsz
  obtain ⟨c0, c1, c2, c3, c4, rfl⟩ := list_five cs hl
  obtain ⟨fuel, hd⟩ := hd
  obtain ⟨xs, n, _, _, _, hx, hf⟩ := DataW.trod_struct Try.underlying25 hd
  obtain ⟨x0, x1, x2, x3, x4, rfl⟩ := list_five xs hx
  have h0 : DataW.trod enc Try.prog w base sp held n 22 (([c0, c1, c2, c3, c4].drop 0).take (Try.prog.cellsOf 22)) = some x0 := hf 0 _ rfl
  have h1 : DataW.trod enc Try.prog w base sp held n 23 (([c0, c1, c2, c3, c4].drop 1).take (Try.prog.cellsOf 23)) = some x1 := hf 1 _ rfl
  have h2 : DataW.trod enc Try.prog w base sp held n 3 (([c0, c1, c2, c3, c4].drop 2).take (Try.prog.cellsOf 3)) = some x2 := hf 2 _ rfl
  have h3 : DataW.trod enc Try.prog w base sp held n 3 (([c0, c1, c2, c3, c4].drop 3).take (Try.prog.cellsOf 3)) = some x3 := hf 3 _ rfl
  have h4 : DataW.trod enc Try.prog w base sp held n 4 (([c0, c1, c2, c3, c4].drop 4).take (Try.prog.cellsOf 4)) = some x4 := hf 4 _ rfl
  rw [one_files] at h0
  rw [one_ops] at h1
  rw [one_int] at h2 h3
  rw [one_bool] at h4
  obtain ⟨A, na, ca, fs, e0, hc, hfs, nf⟩ := open_files h0
  obtain ⟨B, m, k, os, e1, hk, hos, no⟩ := open_ops h1
  obtain ⟨q, e2, _, wq⟩ := DataW.trod_int Try.underlying3 h2
  obtain ⟨u, e3, _, wu⟩ := DataW.trod_int Try.underlying3 h3
  obtain ⟨dd, e4, _⟩ := DataW.trod_bool Try.underlying4 h4
  simp at e0 e1 e2 e3 e4
  subst e0 e1 e2 e3 e4
  exact ⟨A, na, ca, B, m, k, q, u, dd, _, _, rfl, ⟨hc, hk, ⟨fs, hfs, rfl⟩, ⟨os, hos, rfl⟩⟩, ⟨nf, no⟩, wq, wu⟩
set_option maxRecDepth 100000 in
/-- An operation that came in. -/
theorem open_opv {r : Reach} {b0 : Nat} {v : Value} {d : DataW H} {pl : List MemPlace} (hval : Value.okWide Try.prog w r b0 28 v) (hd : DataW.Trod enc Try.prog w base sp held 28 v d pl) :
    ∃ o : OpM, v = .agg #[.int .u8 o.kind, .string o.name, .string o.to, .slice o.p.A o.p.n o.p.c] ∧ o.p.Ok w w.heap.size ∧ (0 ≤ o.kind ∧ o.kind ≤ 255) ∧ o.name.size ≤ maxLen ∧ o.to.size ≤ maxLen := by
  obtain ⟨ca, rfl, hsz⟩ := okWide_struct Try.underlying28 hval
  rw [four_op] at hsz
  obtain ⟨cs, rfl, hl⟩ := list_arr ca hsz
  obtain ⟨c0, c1, c2, c3, rfl⟩ := list_four cs hl
  obtain ⟨fuel, hd⟩ := hd
  obtain ⟨o, e, h1, h2⟩ := open_op hd
  have e' : [c0, c1, c2, c3] = o.cs := e
  rw [e']
  exact ⟨o, rfl, h1, h2⟩
set_option maxRecDepth 100000 in
/-- Operations that came in. -/
theorem open_opsv {r : Reach} {b0 : Nat} {v : Value} {d : DataW H} {pl : List MemPlace} (hval : Value.okWide Try.prog w r b0 23 v) (hd : DataW.Trod enc Try.prog w base sp held 23 v d pl) :
    ∃ A n c os, v = .slice A n c ∧ n ≤ c ∧ Os w w.heap.size A n os ∧ NmO (os.map OpM.pure) := by
  obtain ⟨A, n, c, rfl⟩ := okWide_slice Try.underlying23 hval
  obtain ⟨fuel, hd⟩ := hd
  obtain ⟨A', n', c', os, e, h1, h2, h3⟩ := open_ops hd
  simp [Value.cells] at e
  obtain ⟨rfl, rfl, rfl⟩ := e
  exact ⟨_, _, _, os, rfl, h1, h2, h3⟩
end

end Go.Proofs.Ytmfiopopiikbmaa
