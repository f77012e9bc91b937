/-
  Rows of structs in memory, what keeps them, append onto a row of the call's own.
-/
import Derived.Test.YtbhnlmlaebngmaaBase
import Derived.Laws.OwnMore
import Derived.OwnWalk
import Derived.RangeFuncBox
import Derived.RegionTactic
import Derived.Maps.AppendAt
import Derived.Deep.RegionHeld3
namespace Go.Proofs.Ytbhnlmlaebngmaa
open Go.RowKit

theorem flat_get {α : Type} {m : Nat} (cs : α → List Value) (hm : 0 < m) (hc : ∀ x, (cs x).length = m) : ∀ (xs : List α) (j : Nat), (xs.flatMap cs)[j]? = (xs[j / m]?).bind fun x => (cs x)[j % m]? := by
  intro xs
  induction xs with
  | nil => intro j; simp
  | cons x xs ih =>
    intro j
    rw [List.flatMap_cons]
    by_cases hj : j < m
    · rw [List.getElem?_append_left (by rw [hc]; exact hj), Nat.div_eq_of_lt hj, Nat.mod_eq_of_lt hj]
      rfl
    · have e1 : j / m = (j - m) / m + 1 := Nat.div_eq_sub_div hm (by omega)
      have e2 : j % m = (j - m) % m := Nat.mod_eq_sub_mod (by omega)
      rw [List.getElem?_append_right (by rw [hc]; omega), hc, ih, e1, e2]
      rfl
theorem flat_length {α : Type} {m : Nat} (cs : α → List Value) (hc : ∀ x, (cs x).length = m) (xs : List α) : (xs.flatMap cs).length = xs.length * m := by
  induction xs with
  | nil => simp
  | cons x xs ih => rw [List.flatMap_cons, List.length_append, hc, ih, List.length_cons, Nat.succ_mul, Nat.add_comm]

/-- A row of structs of m cells each. -/
def Row {α : Type} (m : Nat) (cs : α → List Value) (w : World) (B : Nat) (A : Option Addr) (n : Nat) (xs : List α) : Prop :=
  xs.length = n ∧ (0 < n → ∃ b off, A = some ⟨b, off, none⟩ ∧ b < B ∧ ∀ i x, xs[i]? = some x → ∀ j, j < m → w.cell? ⟨b, off + (i * m + j), none⟩ = (cs x)[j]?)
section
variable {α : Type} {m : Nat} {cs : α → List Value} {w w' : World} {B B' n : Nat} {A : Option Addr} {xs : List α}
theorem Row.nil : Row m cs w B A 0 [] := ⟨rfl, fun h => absurd h (by omega)⟩
theorem Row.on (h : Row m cs w B A n xs) (hb : Below B w w') (hB : B ≤ B') : Row m cs w' B' A n xs :=
  ⟨h.1, fun hn => by
    obtain ⟨b, off, e, hlt, hc⟩ := h.2 hn
    exact ⟨b, off, e, by omega, fun i x hi j hj => (hb.cell (p := ⟨b, off + (i * m + j), none⟩) hlt).trans (hc i x hi j hj)⟩⟩
theorem Row.at_ (h : Row m cs w B A n xs) {k : Nat} (hk : k < n) :
    ∃ b off x, A = some ⟨b, off, none⟩ ∧ b < B ∧ xs[k]? = some x ∧ ∀ j, j < m → w.cell? ⟨b, off + (k * m + j), none⟩ = (cs x)[j]? := by
  obtain ⟨b, off, rfl, hb, hc⟩ := h.2 (by omega)
  have hk' : k < xs.length := by rw [h.1]; exact hk
  exact ⟨b, off, _, rfl, hb, List.getElem?_eq_getElem hk', fun j hj => hc k _ (List.getElem?_eq_getElem hk') j hj⟩
theorem Row.first {k : Nat} (h : Row m cs w B A n xs) (hk : k ≤ n) : Row m cs w B A k (xs.take k) :=
  ⟨by rw [List.length_take, h.1]; omega, fun h0 => by
    obtain ⟨b, off, rfl, hb, hc⟩ := h.2 (by omega)
    refine ⟨b, off, rfl, hb, fun i x hi j hj => hc i x ?_ j hj⟩
    have hl := (List.getElem?_eq_some_iff.1 hi).1
    rw [List.length_take] at hl
    rwa [List.getElem?_take, if_pos (by omega)] at hi⟩
theorem Row.none_ (h : Row m cs w B none n xs) : n = 0 ∧ xs = [] := by
  rcases Nat.eq_zero_or_pos n with h0 | h0
  · exact ⟨h0, List.eq_nil_of_length_eq_zero (by rw [h.1, h0])⟩
  · obtain ⟨_, _, e, _⟩ := h.2 h0
    cases e
theorem Row.rest {k : Nat} (h : Row m cs w B A n xs) (hk : k ≤ n) : Row m cs w B (A.map (·.add (k * m))) (n - k) (xs.drop k) :=
  ⟨by rw [List.length_drop, h.1], fun h0 => by
    obtain ⟨b, off, rfl, hb, hc⟩ := h.2 (by omega)
    refine ⟨b, off + k * m, ?_, hb, fun i x hi j hj => ?_⟩
    · simp only [Option.map_some, Addr.add]
      split
      · rename_i e; rw [e]; rfl
      · rfl
    · rw [List.getElem?_drop] at hi
      have h1 := hc (k + i) x hi j hj
      rw [Nat.add_mul] at h1
      rw [← h1]
      congr 2
      omega⟩
theorem add_plain' (b off k : Nat) : (⟨b, off, none⟩ : Addr).add k = ⟨b, off + k, none⟩ := by
  unfold Addr.add
  split
  · rename_i h0; subst h0; rfl
  · rfl
/-- The cells as the laws on append want them. -/
theorem Row.cells (hm : 0 < m) (hc : ∀ x, (cs x).length = m) {a : Addr} (h : Row m cs w B (some a) n xs) : ∀ j u, (xs.flatMap cs)[j]? = some u → w.cell? (a.add j) = some u := by
  intro j u hj
  rw [flat_get cs hm hc] at hj
  obtain ⟨x, hx, hu⟩ := Option.bind_eq_some_iff.1 hj
  have hlt := (List.getElem?_eq_some_iff.1 hx).1
  have hn : 0 < n := by rw [← h.1]; exact Nat.lt_of_le_of_lt (Nat.zero_le _) hlt
  obtain ⟨b, off, e, hb, hcell⟩ := h.2 hn
  injection e with e
  subst e
  rw [add_plain', ← hu, ← hcell (j / m) x hx (j % m) (Nat.mod_lt _ hm)]
  congr 2
  rw [Nat.mul_comm, Nat.div_add_mod]
theorem Row.of_own {base : Nat} {e : TypeId} {c : Nat} (hm : 0 < m) (hc : ∀ x, (cs x).length = m) (h : w.ownsRow base e m (.slice A n c) n (xs.flatMap cs)) : Row m cs w w.heap.size A n xs := by
  have hl : xs.length = n := by
    have := h.1
    rw [flat_length cs hc] at this
    exact Nat.eq_of_mul_eq_mul_right hm this
  refine ⟨hl, fun hn => ?_⟩
  obtain ⟨g, cap, hv, _, hlt⟩ := h.form hn
  have hA : A = some ⟨g, 0, none⟩ := by injection hv
  subst hA
  refine ⟨g, 0, rfl, hlt, fun i x hx j hj => ?_⟩
  have hi := (List.getElem?_eq_some_iff.1 hx).1
  have hb : i * m + j < n * m := by
    have h1 : (i + 1) * m ≤ n * m := Nat.mul_le_mul_right m (by omega)
    rw [Nat.succ_mul] at h1
    omega
  rw [Nat.zero_add, h.cellAt _ hb, flat_get cs hm hc, show (i * m + j) / m = i by rw [Nat.mul_comm, Nat.mul_add_div hm, Nat.div_eq_of_lt hj, Nat.add_zero], show (i * m + j) % m = j by rw [Nat.mul_comm, Nat.mul_add_mod, Nat.mod_eq_of_lt hj], hx]
  rfl
end

section
variable {P : Program} {w : World} {base B : Nat} {t ty e : TypeId} {i : TypeInfo} {z : Value} {size bytes n m c : Nat} {v : Value} {xs : List Value} {A : Option Addr} {news : List Value}
/-- What append leaves: a row of the call's own that has both, and a world in which no other block has turned. -/
def Longer (base : Nat) (e : TypeId) (size : Nat) (w : World) (v : Value) (n : Nat) (xs : List Value) (v' : Value) (w' : World) : Prop :=
  w'.ownsRow base e size v' n xs ∧ w.grownBy w' v.ownBlock ∧ (v'.ownBlock = v.ownBlock ∨ v'.ownBlock = some w.heap.size)
/-- What is appended: nothing, or the cells news. -/
def Source (w : World) (size : Nat) (A : Option Addr) (m : Nat) (news : List Value) : Prop :=
  news.length = m * size ∧ (∀ u ∈ news, u.oneCell' = true) ∧ ((A = none ∧ m = 0) ∨ ∃ a, A = some a ∧ ∀ j u, news[j]? = some u → w.cell? (a.add j) = some u)
theorem Source.on {w' : World} (h : Source w size A m news) (hb : Below w.heap.size w w') : Source w' size A m news := by
  obtain ⟨h1, h2, h3⟩ := h
  refine ⟨h1, h2, ?_⟩
  rcases h3 with h3 | ⟨a, e, hc⟩
  · exact .inl h3
  · refine .inr ⟨a, e, fun j u hj => ?_⟩
    have h4 := hc j u hj
    exact (hb.cell (World.block_lt_of_cell? w _ h4)).trans h4
theorem run_append (ht : P.underlying t = some (.slice e)) (hi : P.info? e = some i) (hz : i.zero = some z) (h1 : i.size = size) (h2 : i.bytes = bytes) (hzs : z.cells.size = size) (hsz : 0 < size)
    (hown : w.ownsRow base e size v n xs) (hr : Source w size A m news) (b1 : n + m ≤ maxLen) (b2 : (n + m) * bytes ≤ 140737488355328) (b3 : base ≤ w.heap.size) :
    ∃ v' w', (Builtin.append_ #[t, t] ty #[v, .slice A m c]).run P w = .ok v' w' ∧ Longer base e size w v (n + m) (xs ++ news) v' w' := by
  obtain ⟨hl, hone, ⟨rfl, rfl⟩ | ⟨a, rfl, hcell⟩⟩ := hr
  · obtain rfl : news = [] := List.eq_nil_of_length_eq_zero (by rw [hl]; simp)
    refine ⟨v, w, ?_, by simpa using hown, World.grownBy.refl w _, .inl rfl⟩
    rcases hown.2 with ⟨rfl, rfl⟩ | ⟨g, cap, cur, rfl, _, _, hnc, _⟩
    · simp [Builtin.append_, run_underlying ht, sizeOf, typeInfo, hi, Builtin.lenOf, Builtin.firstCells]
    · simp [Builtin.append_, run_underlying ht, sizeOf, typeInfo, hi, Builtin.lenOf, Builtin.firstCells, hnc, storeCells]
  · obtain ⟨v', w', hrun, r1, r2, _, r3⟩ := run_append_own_at (P := P) w base t ty e i z size bytes ht hi hz h1 h2 hzs hsz v n xs hown a m c news hl hcell hone b1 b2 b3
    exact ⟨v', w', hrun, r1, r2, r3⟩
theorem wp_append {o : Oper} {a : Act} {K : Act → World → Prop} {Q : Exit → Act → World → Prop} (s x : Operand) (t : TypeId)
    (ht : P.underlying t = some (.slice e)) (hi : P.info? e = some i) (hz : i.zero = some z) (h1 : i.size = size) (h2 : i.bytes = bytes) (hzs : z.cells.size = size) (hsz : 0 < size)
    (hown : w.ownsRow base e size v n xs) (hr : Source w size A m news) (b1 : n + m ≤ maxLen) (b2 : (n + m) * bytes ≤ 140737488355328) (b3 : base ≤ w.heap.size)
    (ho : o.op = .call { callee := .builtin .append, args := #[s, x], argTypes := #[t, t] }) (hs : a.eval s = v) (hx : a.eval x = .slice A m c)
    (h : ∀ v' w', Longer base e size w v (n + m) (xs ++ news) v' w' → K (a.put o.dst v') w') : o.wp P a w K Q := by
  obtain ⟨v', w', hrun, h2⟩ := run_append (c := c) (ty := o.type) ht hi hz h1 h2 hzs hsz hown hr b1 b2 b3
  unfold Oper.wp execOp
  simp only [ho, resolve, invoke, builtin, Sem.run_bind, Sem.run_pure, Result.andThen_ok, List.map_toArray, List.map_cons, List.map_nil, hs, hx, hrun]
  exact h v' w' h2
theorem wpList_append {ops : Array Oper} {rest : List Oper} {o : Oper} {a : Act} {Q : Exit → Act → World → Prop} (s x : Operand) (t : TypeId)
    (ht : P.underlying t = some (.slice e)) (hi : P.info? e = some i) (hz : i.zero = some z) (h1 : i.size = size) (h2 : i.bytes = bytes) (hzs : z.cells.size = size) (hsz : 0 < size)
    (hown : w.ownsRow base e size v n xs) (hr : Source w size A m news) (b1 : n + m ≤ maxLen) (b2 : (n + m) * bytes ≤ 140737488355328) (b3 : base ≤ w.heap.size)
    (hgd : o.guard = none) (ho : o.op = .call { callee := .builtin .append, args := #[s, x], argTypes := #[t, t] }) (hs : a.eval s = v) (hx : a.eval x = .slice A m c)
    (h : ∀ v' w', Longer base e size w v (n + m) (xs ++ news) v' w' → wpList P ops Q rest (a.put o.dst v') w') : wpList P ops Q (o :: rest) a w :=
  wpList_plain hgd fun _ hK => wp_append s x t ht hi hz h1 h2 hzs hsz hown hr b1 b2 b3 ho hs hx fun v' w' h' => hK _ _ (h v' w' h')
/-- .. as a region's step. -/
theorem step_append {ops : Array Oper} {o : Oper} {a : Act} {K : Act → World → Prop} {Q : Exit → Act → World → Prop} {E : Prop} (s x : Operand) (t : TypeId) (hgd : o.guard = none)
    (ho : o.op = .call { callee := .builtin .append, args := #[s, x], argTypes := #[t, t] })
    (ht : P.underlying t = some (.slice e)) (hi : P.info? e = some i) (hz : i.zero = some z) (h1 : i.size = size) (h2 : i.bytes = bytes) (hzs : z.cells.size = size) (hsz : 0 < size)
    (hs : a.eval s = v) (hx : a.eval x = .slice A m c) (hown : w.ownsRow base e size v n xs) (hr : Source w size A m news) (b1 : n + m ≤ maxLen) (b2 : (n + m) * bytes ≤ 140737488355328) (b3 : base ≤ w.heap.size)
    (h : ∀ v' w', Longer base e size w v (n + m) (xs ++ news) v' w' → K (a.put o.dst v') w') :
    if Region.wanted o (yielded ops a.tmps) = true then Oper.wp P o a w K Q else E := by
  have hw : Region.wanted o (yielded ops a.tmps) = true := by simp [Region.wanted, hgd]
  rw [if_pos hw]
  exact wp_append s x t ht hi hz h1 h2 hzs hsz hown hr b1 b2 b3 ho hs hx h
theorem Longer.below {B n : Nat} {w0 w' : World} {v' : Value} (h : Longer base e size w v n xs v' w') (hB : Below B w0 w) (hb : B ≤ w.heap.size) (hv : ∀ g, v.ownBlock = some g → B ≤ g) : Below B w0 w' := hB.grown h.2.1 hb hv
theorem Longer.new {B n : Nat} {w' : World} {v' : Value} (h : Longer base e size w v n xs v' w') (hv : ∀ g, v.ownBlock = some g → B ≤ g) (hB : B ≤ w.heap.size) : ∀ g, v'.ownBlock = some g → B ≤ g := by
  intro g hg
  rcases h.2.2 with e1 | e1
  · exact hv g (by rw [← e1]; exact hg)
  · rw [e1] at hg
    have := Option.some.inj hg
    omega
theorem own_slice (h : w.ownsRow base e size v n xs) : ∃ A c, v = .slice A n c ∧ n ≤ c := by
  rcases h.2 with ⟨rfl, rfl⟩ | ⟨g, cap, cur, rfl, _, _, hnc, _⟩
  · exact ⟨none, 0, rfl, Nat.le_refl _⟩
  · exact ⟨_, cap, rfl, hnc⟩
theorem own_empty (w : World) (base : Nat) (e : TypeId) (size : Nat) (h : base ≤ w.heap.size) : (w.alloc (.cells #[] e)).ownsRow base e size (.slice (some ⟨w.heap.size, 0, none⟩) 0 0) 0 [] :=
  World.ownsRow_made w #[] 0 h (Nat.zero_le _) (by simp)
end
theorem Row.source {α : Type} {m : Nat} {cs : α → List Value} {w : World} {B : Nat} {A : Option Addr} {n : Nat} {xs : List α} (hm : 0 < m) (hc : ∀ x, (cs x).length = m) (h1 : ∀ x, ∀ u ∈ cs x, u.oneCell' = true) (h : Row m cs w B A n xs) : Source w m A n (xs.flatMap cs) := by
  refine ⟨by rw [flat_length cs hc, h.1], fun u hu => ?_, ?_⟩
  · obtain ⟨x, _, hx⟩ := List.mem_flatMap.1 hu
    exact h1 x u hx
  · rcases A with _ | a
    · exact .inl ⟨rfl, h.none_.1⟩
    · exact .inr ⟨a, rfl, h.cells hm hc⟩
/-- The slice of one element that a call's argument list makes. -/
theorem Source.one {w : World} {t : TypeId} {cs : List Value} {size g : Nat} (hs : cs.length = size) (h1 : ∀ u ∈ cs, u.oneCell' = true) (hg : g = w.heap.size) : Source (w.alloc (.cells cs.toArray t)) size (some ⟨g, 0, none⟩) 1 cs := by
  subst hg
  refine ⟨by simp [hs], h1, .inr ⟨_, rfl, fun j u hj => ?_⟩⟩
  rw [add_plain', Nat.zero_add, cell_of_row _ _ _ _ _ _ (World.alloc_heap_new w _)]
  have := (List.getElem?_eq_some_iff.1 hj).1
  simpa using hj

theorem Source.drew {w : World} {size m : Nat} {A : Option Addr} {news : List Value} (h : Source w size A m news) : Source w.drew size A m news := h.on (Below.refl _ w).drew
theorem Source.alloc {w : World} {size m : Nat} {A : Option Addr} {news : List Value} (h : Source w size A m news) (o : Obj) : Source (w.alloc o) size A m news := h.on ((Below.refl _ w).alloc (Nat.le_refl _) o)
theorem Source.grown {w w' : World} {size m g : Nat} {news : List Value} {row : Option Nat} (h : Source w size (some ⟨g, 0, none⟩) m news) (hg : w.grownBy w' row) (hne : some g ≠ row) : Source w' size (some ⟨g, 0, none⟩) m news := by
  obtain ⟨h1, h2, h3⟩ := h
  refine ⟨h1, h2, ?_⟩
  rcases h3 with h3 | ⟨a, e, hc⟩
  · exact .inl h3
  · refine .inr ⟨a, e, fun j u hj => ?_⟩
    injection e with e
    subst e
    have h4 := hc j u hj
    rw [add_plain'] at h4 ⊢
    have hlt := World.block_lt_of_cell? w _ h4
    exact (World.cell?_of_block (a := ⟨g, 0 + j, none⟩) (hg.block g hlt hne)).trans h4
theorem own_emptyG {w : World} {base g : Nat} {e : TypeId} {size : Nat} (hg : g = w.heap.size) (h : base ≤ w.heap.size) : (w.alloc (.cells #[] e)).ownsRow base e size (.slice (some ⟨g, 0, none⟩) 0 0) 0 [] := by
  subst hg
  exact own_empty w base e size h

/-- The walk stops at a goal that is held. -/
theorem hold {p : Prop} (h : Hid p) : p := h
theorem unhold {p : Prop} (h : p) : Hid p := h
theorem info_partsV {P : Program} {t : TypeId} {z : Value} {s b : Nat} (h : (P.info? t).map (fun i => (i.zero, i.size, i.bytes)) = some (some z, s, b)) : ∃ i, P.info? t = some i ∧ i.zero = some z ∧ i.size = s ∧ i.bytes = b := by
  obtain ⟨i, hi, he⟩ := Option.map_eq_some_iff.1 h
  simp only [Prod.mk.injEq] at he
  exact ⟨i, hi, he.1, he.2.1, he.2.2⟩

end Go.Proofs.Ytbhnlmlaebngmaa
