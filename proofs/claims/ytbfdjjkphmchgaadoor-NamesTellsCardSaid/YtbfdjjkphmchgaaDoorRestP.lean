/-
  names.Rest: plain; a set of names; what it keeps between two rounds.
-/
import Derived.Test.YtbfdjjkphmchgaaDoorFindP
import Derived.Maps.OwnSet
import Derived.StringKeys
import Derived.Maps.AppendAt
import Derived.Laws.MakeOwn
namespace Go.Proofs.YtbfdjjkphmchgaaDoor
open Go.RowKit Go.Shelf Go.Maps

/-- What is called so, of those that may be. -/
def keptP (ks : List IdP) : List ByteArray := (ks.filter fun x => decide (MayP x)).map nameP
theorem kept_yes {ks : List IdP} {k : Nat} {x : IdP} (h : ks[k]? = some x) (hM : MayP x) : keptP (ks.take (k + 1)) = keptP (ks.take k) ++ [nameP x] := by
  unfold keptP
  rw [List.take_add_one, h, List.filter_append, List.map_append]
  simp [hM]
theorem kept_no {ks : List IdP} {k : Nat} {x : IdP} (h : ks[k]? = some x) (hM : ¬ MayP x) : keptP (ks.take (k + 1)) = keptP (ks.take k) := by
  unfold keptP
  rw [List.take_add_one, h, List.filter_append, List.map_append]
  simp [hM]
/-- Is it one of K? -/
def inB (K : List ByteArray) (s : ByteArray) : Bool := K.any fun t => decide (t = s)
theorem inB_snoc (K : List ByteArray) (t s : ByteArray) : inB (K ++ [t]) s = (inB K s || decide (t = s)) := by
  unfold inB
  rw [List.any_append]
  simp
/-- Those that are none of K, in order. -/
def restN (K : List ByteArray) (ys : List (Nat × ByteArray)) : List ByteArray := (ys.map (·.2)).filter fun s => !inB K s
theorem rest_yes {K : List ByteArray} {pre : List (Nat × ByteArray)} {x : Nat × ByteArray} (h : inB K x.2 = true) : restN K (pre ++ [x]) = restN K pre := by
  unfold restN
  rw [List.map_append, List.filter_append]
  simp [h]
theorem rest_no {K : List ByteArray} {pre : List (Nat × ByteArray)} {x : Nat × ByteArray} (h : inB K x.2 = false) : restN K (pre ++ [x]) = restN K pre ++ [x.2] := by
  unfold restN
  rw [List.map_append, List.filter_append]
  simp [h]
theorem restN_le (K : List ByteArray) (ys : List (Nat × ByteArray)) : (restN K ys).length ≤ ys.length := by
  unfold restN
  refine Nat.le_trans (List.length_filter_le _ _) ?_
  rw [List.length_map]
  exact Nat.le_refl _
/-- The names of the files that are none of those of ks. -/
def restP (l : List FlP) (ks : List IdP) : List ByteArray := restN (keptP ks) (callsP l)

theorem name_size (x : IdP) : (nameP x).size ≤ 2000000000 := by
  unfold nameP
  split
  · rename_i h
    show (txtP x).toArray.size ≤ _
    rw [List.size_toArray]
    rcases h with ⟨hk, _, _⟩ | ⟨hk, h1, h2, hf⟩
    · unfold txtP
      rcases hk with hk | hk
      · rw [if_pos hk]; simp
      · rw [if_neg (by omega), if_pos hk]; simp
    · rw [txt_seg ⟨h1, h2⟩ hk hf]
      have h3 := nDigits_le x.seq.toNat
      simp only [List.length_cons, List.length_append, List.length_nil, Lib.decDigits_length]
      omega
  · show 0 ≤ _; omega

/-- A row of idents that lies below B. -/
abbrev Ids (w : World) (B : Nat) (A : Option Addr) (n : Nat) (l : List IdP) : Prop := Row 3 IdP.cs w B A n l
theorem Ids.get {w : World} {B n : Nat} {A : Option Addr} {l : List IdP} (h : Ids w B A n l) {k : Nat} (hk : k < n) :
    ∃ b off x, A = some ⟨b, off, none⟩ ∧ b < B ∧ l[k]? = some x ∧ w.cell? ⟨b, off + k * 3, none⟩ = some (.int .u8 x.kind) ∧ w.cell? ⟨b, off + k * 3 + 1, none⟩ = some (.int .i64 x.seq) ∧ w.cell? ⟨b, off + k * 3 + 2, none⟩ = some (.int .i64 x.fmt) := by
  obtain ⟨b, off, x, e, hb, hf, hc⟩ := Row.at_ h hk
  exact ⟨b, off, x, e, hb, hf, hc 0 (by omega), hc 1 (by omega), hc 2 (by omega)⟩

/-- Block b is a set that holds K, nothing else. -/
def SetIs (w : World) (b n : Nat) (K : List ByteArray) : Prop :=
  ∃ D : DataW Nat, w.ownsMap Tryd.prog 9 unitElem b n D ∧ ∀ s : ByteArray, has D (.string s.data.toList) = inB K s
theorem str_keyed : Keyed Tryd.prog 9 := string_keyed Tryd.underlying9
theorem zero_unit (w : World) : (zeroValue 60).run Tryd.prog w = .ok (.agg #[]) w := by kernel_rfl
section
variable {w w' : World} {b n : Nat} {K : List ByteArray}
theorem SetIs.made (w : World) : SetIs (w.alloc (.map #[] 0)) w.heap.size 0 [] := ⟨.map [], World.ownsMap_made w _ _ _, fun s => by simp [has_eq, inB]⟩
theorem SetIs.kept {row : Option Nat} (h : SetIs w b n K) (hg : w.grownBy w' row) (hne : some b ≠ row) : SetIs w' b n K := by
  obtain ⟨D, h1, h2⟩ := h
  exact ⟨D, h1.kept hg hne, h2⟩
theorem SetIs.same (h : SetIs w b n K) (hs : w'.heap[b]? = w.heap[b]?) : SetIs w' b n K := by
  obtain ⟨D, ⟨es, clock, h1, h3⟩, h2⟩ := h
  exact ⟨D, ⟨es, clock, hs.trans h1, h3⟩, h2⟩
theorem SetIs.lt (h : SetIs w b n K) : b < w.heap.size := by
  obtain ⟨D, h1, _⟩ := h
  exact h1.lt
theorem SetIs.mono (h : SetIs w b n K) {n' : Nat} (hn : n ≤ n') : SetIs w b n' K := by
  obtain ⟨D, h1, h2⟩ := h
  exact ⟨D, h1.mono hn, h2⟩
theorem SetIs.alloc (h : SetIs w b n K) (o : Obj) : SetIs (w.alloc o) b n K := h.kept (World.grownBy_alloc w o none) (by simp)
theorem SetIs.below (h : SetIs w b n K) (hb : Below w.heap.size w w') : SetIs w' b n K := h.same (hb.block b h.lt)
theorem SetIs.walks (h : SetIs w b n K) : ∃ o : Obj, w.heap[b]? = some o ∧ o.isCells = false := by
  obtain ⟨D, ⟨es, clock, h1, h3⟩, h2⟩ := h
  exact ⟨_, h1, rfl⟩
theorem SetIs.put (h : SetIs w b n K) {s : ByteArray} (hn : n < maxLen) (hs : s.size ≤ maxLen) :
    ∃ w', (Instr.mapUpdate 59 (.map (some b)) (.string s) (.agg #[])).run Tryd.prog w = .ok () w' ∧ SetIs w' b (n + 1) (K ++ [s]) ∧ w.grownBy w' (some b) := by
  obtain ⟨D, h1, h2⟩ := h
  obtain ⟨w', r, h3, g⟩ := h1.update str_keyed Tryd.underlying59 hn (WideMaps.keyOf_string_mk Tryd.underlying9 hs) (val := .agg #[]) (d := .agg []) (ps := []) unitElem_mk
  refine ⟨w', r, ⟨_, h3, fun t => ?_⟩, g⟩
  rw [inB_snoc]
  by_cases e : t = s
  · subst e
    rw [has_put_same h1.isMap (by simp [WideAt.IsKeyLit]), decide_eq_true rfl, Bool.or_true]
  · rw [has_put_other (fun e' => e (by injection e' with e'; exact ba_ext (Array.toList_inj.1 e'))), h2, decide_eq_false (fun e' => e e'.symm), Bool.or_false]
theorem SetIs.look (h : SetIs w b n K) {s : ByteArray} (hs : s.size ≤ maxLen) :
    (Instr.lookup 59 (.map (some b)) (.string s) true).run Tryd.prog w = .ok (.tuple #[.agg #[], .bool (inB K s)]) w := by
  obtain ⟨D, h1, h2⟩ := h
  obtain ⟨v, ps, r, hv⟩ := h1.look_ok str_keyed Tryd.underlying59 (zero_unit w) (zd := .agg []) (zp := []) unitElem_mk (WideMaps.keyOf_string_mk Tryd.underlying9 hs)
  obtain ⟨rfl, _⟩ := unitElem_inv hv
  rw [r, h2]
theorem SetIs.not_row (h : SetIs w b n K) {base k : Nat} {v : Value} {xs : List Value} (hr : w.ownsRow base 9 1 v k xs) : some b ≠ v.ownBlock := by
  obtain ⟨o, h1, h2⟩ := h.walks
  rcases hr.2 with ⟨rfl, _⟩ | ⟨g, cap, cur, rfl, _, hg, _⟩
  · simp [Value.ownBlock]
  · intro e
    obtain rfl : b = g := by simpa [Value.ownBlock] using e
    rw [h1] at hg
    cases hg
    cases h2
end
theorem info_str : (Tryd.prog.info? 9).map (fun i => (i.zero, i.size, i.bytes)) = some (some (.string ⟨#[]⟩), 1, 16) := by kernel_rfl
def strV (s : ByteArray) : Value := .string s

theorem grown_of {A B : World} (h : Below A.heap.size A B) : A.grownBy B none := ⟨h.os, h.tape, h.output, h.size, fun k hk _ => h.block k hk⟩
theorem own_marks {w w' : World} {B base : Nat} {e : TypeId} {size : Nat} {v : Value} {n : Nat} {xs : List Value} (h : w.ownsRow base e size v n xs) (hb : CellsKept B w w') : w'.ownsRow base e size v n xs := by
  refine ⟨h.1, ?_⟩
  rcases h.2 with a | ⟨g, cap, cur, e1, hbg, hh, r⟩
  · exact .inl a
  · exact .inr ⟨g, cap, cur, e1, hbg, hb.2 g _ hh rfl, r⟩
/-- Between two rounds: the box b holds a row of the call's own of what is none of K; the box s holds the set. -/
structure RInv (w : World) (b s g m D : Nat) (K : List ByteArray) (pre : List (Nat × ByteArray)) (W : World) : Prop where
  row : ∃ v, Boxed W b 38 v ∧ W.ownsRow w.heap.size 9 1 v (restN K pre).length ((restN K pre).map strV)
  bs : Boxed W s 59 (.map (some g))
  set : SetIs W g m K
  low : Below w.heap.size w W
  size : D ≤ W.heap.size
theorem row_ne {W : World} {base : Nat} {v : Value} {k : Nat} {xs : List Value} (h : W.ownsRow base 9 1 v k xs) {row : Option Nat} (hr : ∀ r, row = some r → ∃ o : Obj, W.heap[r]? = some o ∧ (o.isCells = false ∨ ∃ cur fr, o = .cells cur 46 fr)) : v.ownBlock = none ∨ v.ownBlock ≠ row := by
  rcases h.2 with ⟨rfl, _⟩ | ⟨g, cap, cur, rfl, _, hg, _⟩
  · exact .inl rfl
  · refine .inr fun e => ?_
    obtain ⟨o, ho, h1⟩ := hr g e.symm
    rw [hg] at ho
    cases ho
    rcases h1 with h1 | ⟨_, _, h1⟩ <;> cases h1
theorem RInv.own {w : World} {b s g m D : Nat} {K : List ByteArray} (hb : b < D) (hs : s < D) (hgD : g < D) (hw : w.heap.size ≤ D) : OwnT 46 D (RInv w b s g m D K) := fun _ W W' row h hg hr => by
  obtain ⟨⟨v, hv, hrow⟩, hbs, hset, hlow, hsz⟩ := h
  have hne : ∀ k, k < D → some k ≠ row := fun k hk e => by have := (hr k e.symm).1; omega
  refine ⟨⟨v, (hg.block b hv.lt (hne b hb)).trans hv, hrow.kept hg (row_ne hrow fun r e => (hr r e).2)⟩, (hg.block s hbs.lt (hne s hs)).trans hbs, hset.kept hg (hne g hgD), ?_, Nat.le_trans hsz hg.size⟩
  exact hlow.grown hg hlow.size (fun k e => by have := (hr k e).1; omega)

end Go.Proofs.YtbfdjjkphmchgaaDoor
