/-
  Sums by whatever rows: plain mathematics.
-/
import Derived.Test.YtcpdjhkpmaamdaaGreatBase
import Derived.Test.YtcpdjhkpmaamdaaGreatByt
import Derived.OwnWalk
import Derived.Laws.OwnMore
import Derived.RangeFuncBox
import Derived.RegionTactic
import Derived.OpenShut
import Derived.Laws.IdiomArrays
import Derived.ChangeKeysEq
import Derived.Laws.StructEq
import Derived.Laws.Slices
import Derived.Deep.RegionHeld3
import Derived.WalkLawsBesides
import Derived.Laws.BitsAllLaws
import Derived.Laws.BitsLemmas
import Derived.Deep.QuietTactic
import Derived.BigQuiet
import Derived.Outline
import Derived.Laws.Strings
import Derived.WideShapes
import Derived.Deep.AppendLies
namespace Go.Proofs.YtcpdjhkpmaamdaaGreat.Cr
open Go.RowKit

/-- A slice of bytes: its address, length, capacity, bytes. -/
structure Part where
  A : Option Addr
  n : Nat
  c : Nat
  l : List Int
def Part.v (p : Part) : Value := .slice p.A p.n p.c
def flat (ps : List Part) : List Int := (ps.map Part.l).flatten
theorem flat_nil : flat [] = [] := rfl
theorem flat_cons (p : Part) (ps : List Part) : flat (p :: ps) = p.l ++ flat ps := rfl
theorem flat_take {ps : List Part} {k : Nat} {q : Part} (h : ps[k]? = some q) : flat (ps.take (k + 1)) = flat (ps.take k) ++ q.l := by
  unfold flat
  rw [List.take_add_one, h]
  simp

/-- The slice of address A and length n holds the slices ps; all lies below B. -/
structure Rds (w : World) (B : Nat) (A : Option Addr) (n : Nat) (ps : List Part) : Prop where
  len : ps.length = n
  row : 0 < n → ∃ b off, A = some ⟨b, off, none⟩ ∧ b < B ∧ ∀ i, i < n → w.cell? ⟨b, off + i, none⟩ = ps[i]?.map Part.v
  parts : ∀ p ∈ ps, Rd w B .u8 p.A p.n p.l ∧ Byt p.l ∧ p.n ≤ 140737488355328
theorem Rds.at_ {w : World} {B : Nat} {A : Option Addr} {n : Nat} {ps : List Part} (h : Rds w B A n ps) {k : Nat} (hk : k < n) :
    ∃ b off q, A = some ⟨b, off, none⟩ ∧ b < B ∧ ps[k]? = some q ∧ w.cell? ⟨b, off + k, none⟩ = some (.slice q.A q.n q.c) ∧ Rd w B .u8 q.A q.n q.l ∧ Byt q.l ∧ q.n ≤ 140737488355328 := by
  obtain ⟨b, off, rfl, hb, hc⟩ := h.row (by omega)
  have hk' : k < ps.length := by rw [h.len]; exact hk
  have he : ps[k]? = some ps[k] := List.getElem?_eq_getElem hk'
  have h1 := hc k hk
  rw [he] at h1
  exact ⟨b, off, ps[k], rfl, hb, he, h1, h.parts _ (List.getElem_mem hk')⟩
theorem Rds.on {w w' : World} {B B' : Nat} {A : Option Addr} {n : Nat} {ps : List Part} (h : Rds w B A n ps) (hb : Below B w w') (hB : B ≤ B') : Rds w' B' A n ps where
  len := h.len
  row := fun hn => by
    obtain ⟨b, off, e, hlt, hc⟩ := h.row hn
    exact ⟨b, off, e, by omega, fun i hi => (hb.cell (p := ⟨b, off + i, none⟩) hlt).trans (hc i hi)⟩
  parts := fun p hp => ⟨(h.parts p hp).1.on hb hB, (h.parts p hp).2⟩

theorem flat_byt {w : World} {B : Nat} {A : Option Addr} {n : Nat} {ps : List Part} (h : Rds w B A n ps) : Byt (flat ps) := by
  intro x hx
  unfold flat at hx
  obtain ⟨l, hl, hxl⟩ := List.mem_flatten.1 hx
  obtain ⟨p, hp, rfl⟩ := List.mem_map.1 hl
  exact (h.parts p hp).2.1 x hxl

theorem flat_lt {ps : List Part} {k j : Nat} {q : Part} (h : ps[k]? = some q) (hj : j < q.l.length) : (flat (ps.take k) ++ q.l.take j).length < (flat ps).length := by
  obtain ⟨hk, he⟩ := List.getElem?_eq_some_iff.1 h
  have e1 : ps = ps.take k ++ q :: ps.drop (k + 1) := by
    rw [← he, ← List.drop_eq_getElem_cons hk, List.take_append_drop]
  have e2 : flat ps = flat (ps.take k) ++ (q.l ++ flat (ps.drop (k + 1))) := by
    conv => lhs; rw [e1]
    unfold flat
    simp
  rw [e2]
  simp only [List.length_append, List.length_take]
  omega
end Go.Proofs.YtcpdjhkpmaamdaaGreat.Cr

namespace Go.Proofs.YtcpdjhkpmaamdaaGreat.Cr
open Go.RowKit

/-- The slice of slices that a literal, or a call with parts written out, makes. -/
theorem Rds.made (w : World) (t : TypeId) (ps : List Part) {g : Nat} (hg : g = w.heap.size) (h : ∀ p ∈ ps, Rd w w.heap.size .u8 p.A p.n p.l ∧ Byt p.l ∧ p.n ≤ 140737488355328) :
    Rds (w.alloc (.cells (ps.map Part.v).toArray t)) (w.alloc (.cells (ps.map Part.v).toArray t)).heap.size (some ⟨g, 0, none⟩) ps.length ps where
  len := rfl
  row := fun _ => ⟨g, 0, rfl, by subst hg; simp, fun i hi => by
    subst hg
    rw [cell_of_row _ _ _ _ _ _ (World.alloc_heap_new w _)]
    simp [hi]⟩
  parts := fun p hp => ⟨(h p hp).1.on ((Below.refl _ w).alloc (Nat.le_refl _) _) (by simp), (h p hp).2⟩
theorem Rds.none_ (w : World) (B : Nat) : Rds w B none 0 [] where
  len := rfl
  row := fun h => absurd h (by omega)
  parts := fun p hp => by cases hp
/-- The slice that a literal makes. -/
theorem Rd.made (w : World) (k : IntKind) (t : TypeId) (l : List Int) {g : Nat} (hg : g = w.heap.size) : Rd (w.alloc (.cells (l.map (Value.int k)).toArray t)) (w.alloc (.cells (l.map (Value.int k)).toArray t)).heap.size k (some ⟨g, 0, none⟩) l.length l := by
  subst hg
  refine ⟨rfl, fun _ => ⟨w.heap.size, 0, rfl, by simp, fun i hi => ?_⟩⟩
  rw [cell_of_row _ _ _ _ _ _ (World.alloc_heap_new w _)]
  simp [hi]

/-- .. of a constant text: its row bears the run-time's mark behind its last cell. -/
theorem Rd.const (w : World) (k : IntKind) (t : TypeId) (l : List Int) (fr : Nat × Nat) {g : Nat} (hg : g = w.heap.size) : Rd (w.alloc (.cells (l.map (Value.int k)).toArray t fr)) (w.alloc (.cells (l.map (Value.int k)).toArray t fr)).heap.size k (some ⟨g, 0, none⟩) l.length l := by
  subst hg
  refine ⟨rfl, fun _ => ⟨w.heap.size, 0, rfl, by simp, fun i hi => ?_⟩⟩
  rw [cell_of_row _ _ _ _ _ _ (World.alloc_heap_new w _)]
  simp [hi]
/-- The walk stops at a goal that is held. -/
theorem hold {p : Prop} (h : Hid p) : p := h
theorem unhold {p : Prop} (h : p) : Hid p := h
theorem made_list (n : Nat) : (madeCells (Value.int .u8 0).cells (n * 1)).toList = (List.replicate n (0 : Int)).map (Value.int .u8) := by
  have h : (Value.int .u8 0).cells = #[.int .u8 0] := rfl
  rw [h, Nat.mul_one, toList_madeCells_one, List.map_replicate]
end Go.Proofs.YtcpdjhkpmaamdaaGreat.Cr

namespace Go.Proofs.YtcpdjhkpmaamdaaGreat.Cr
open Go.RowKit

section
variable {P : Program} {w : World} {base B : Nat} {t ty e : TypeId} {i : TypeInfo} {z : Value} {bytes n m c : Nat} {v : Value} {xs : List Value} {A : Option Addr} {R : List Int} {k : IntKind}

/-- What append leaves: a row of the call's own that has both, and a world in which no other block has turned. -/
def Longer (base : Nat) (e : TypeId) (w : World) (v : Value) (n : Nat) (xs : List Value) (v' : Value) (w' : World) : Prop :=
  w'.ownsRow base e 1 v' n xs ∧ w.grownBy w' v.ownBlock ∧ (v'.ownBlock = v.ownBlock ∨ v'.ownBlock = some w.heap.size)

theorem run_append_rd (ht : P.underlying t = some (.slice e)) (hi : P.info? e = some i) (hz : i.zero = some z) (h1 : i.size = 1) (h2 : i.bytes = bytes) (hzs : z.cells.size = 1)
    (hown : w.ownsRow base e 1 v n xs) (hr : Rd w B k A m R) (b1 : n + m ≤ maxLen) (b2 : (n + m) * bytes ≤ 140737488355328) (b3 : base ≤ w.heap.size) :
    ∃ v' w', (Builtin.append_ #[t, t] ty #[v, .slice A m c]).run P w = .ok v' w' ∧ Longer base e w v (n + m) (xs ++ R.map (Value.int k)) v' w' := by
  rcases A with _ | a
  · obtain ⟨rfl, rfl⟩ := hr.none_
    refine ⟨v, w, ?_, by simpa using hown, World.grownBy.refl w _, .inl rfl⟩
    rcases hown.2 with ⟨rfl, rfl⟩ | ⟨g, cap, cur, rfl, _, _, hnc, _⟩
    · simp [Builtin.append_, run_underlying ht, sizeOf, typeInfo, hi, Builtin.lenOf, Builtin.firstCells]
    · simp [Builtin.append_, run_underlying ht, sizeOf, typeInfo, hi, Builtin.lenOf, Builtin.firstCells, hnc, storeCells]
  · obtain ⟨v', w', hrun, r1, r2, _, r3⟩ := run_append_own_at (P := P) w base t ty e i z 1 bytes ht hi hz h1 h2 hzs (by omega) v n xs hown a m c (R.map (Value.int k)) (by simp [hr.1]) hr.cells
      (fun u hu => by obtain ⟨x, _, rfl⟩ := List.mem_map.1 hu; rfl) b1 b2 b3
    exact ⟨v', w', hrun, r1, r2, r3⟩

theorem wp_append_rd {o : Oper} {a : Act} {K : Act → World → Prop} {Q : Exit → Act → World → Prop} (s x : Operand) (t : TypeId)
    (ht : P.underlying t = some (.slice e)) (hi : P.info? e = some i) (hz : i.zero = some z) (h1 : i.size = 1) (h2 : i.bytes = bytes) (hzs : z.cells.size = 1)
    (hown : w.ownsRow base e 1 v n xs) (hr : Rd w B k A m R) (b1 : n + m ≤ maxLen) (b2 : (n + m) * bytes ≤ 140737488355328) (b3 : base ≤ w.heap.size)
    (ho : o.op = .call { callee := .builtin .append, args := #[s, x], argTypes := #[t, t] }) (hs : a.eval s = v) (hx : a.eval x = .slice A m c)
    (h : ∀ v' w', Longer base e w v (n + m) (xs ++ R.map (Value.int k)) v' w' → K (a.put o.dst v') w') : o.wp P a w K Q := by
  obtain ⟨v', w', hrun, h2⟩ := run_append_rd (c := c) (ty := o.type) ht hi hz h1 h2 hzs hown hr b1 b2 b3
  unfold Oper.wp execOp
  simp only [ho, resolve, invoke, builtin, Sem.run_bind, Sem.run_pure, Result.andThen_ok, List.map_toArray, List.map_cons, List.map_nil, hs, hx, hrun]
  exact h v' w' h2
theorem wpList_append_rd {ops : Array Oper} {rest : List Oper} {o : Oper} {a : Act} {Q : Exit → Act → World → Prop} (s x : Operand) (t : TypeId)
    (ht : P.underlying t = some (.slice e)) (hi : P.info? e = some i) (hz : i.zero = some z) (h1 : i.size = 1) (h2 : i.bytes = bytes) (hzs : z.cells.size = 1)
    (hown : w.ownsRow base e 1 v n xs) (hr : Rd w B k A m R) (b1 : n + m ≤ maxLen) (b2 : (n + m) * bytes ≤ 140737488355328) (b3 : base ≤ w.heap.size)
    (hgd : o.guard = none) (ho : o.op = .call { callee := .builtin .append, args := #[s, x], argTypes := #[t, t] }) (hs : a.eval s = v) (hx : a.eval x = .slice A m c)
    (h : ∀ v' w', Longer base e w v (n + m) (xs ++ R.map (Value.int k)) v' w' → wpList P ops Q rest (a.put o.dst v') w') : wpList P ops Q (o :: rest) a w :=
  wpList_plain hgd fun _ hK => wp_append_rd s x t ht hi hz h1 h2 hzs hown hr b1 b2 b3 ho hs hx fun v' w' h' => hK _ _ (h v' w' h')
theorem wpList_append_rdg {ops : Array Oper} {rest : List Oper} {o : Oper} {a : Act} {Q : Exit → Act → World → Prop} (s x : Operand) (t : TypeId)
    (ht : P.underlying t = some (.slice e)) (hi : P.info? e = some i) (hz : i.zero = some z) (h1 : i.size = 1) (h2 : i.bytes = bytes) (hzs : z.cells.size = 1)
    (hown : w.ownsRow base e 1 v n xs) (hr : Rd w B k A m R) (b1 : n + m ≤ maxLen) (b2 : (n + m) * bytes ≤ 140737488355328) (b3 : base ≤ w.heap.size)
    (hw : Region.wanted o (yielded ops a.tmps) = true) (ho : o.op = .call { callee := .builtin .append, args := #[s, x], argTypes := #[t, t] }) (hs : a.eval s = v) (hx : a.eval x = .slice A m c)
    (h : ∀ v' w', Longer base e w v (n + m) (xs ++ R.map (Value.int k)) v' w' → wpList P ops Q rest (a.put o.dst v') w') : wpList P ops Q (o :: rest) a w :=
  BigFrame.wpList_want hw fun _ hK => wp_append_rd s x t ht hi hz h1 h2 hzs hown hr b1 b2 b3 ho hs hx fun v' w' h' => hK _ _ (h v' w' h')
end

theorem byte_cells : (Value.int .u8 0).cells.size = 1 := rfl
/-- A row that is made empty, ahead of an append onto it. -/
theorem own_empty (w : World) (base : Nat) (e : TypeId) (h : base ≤ w.heap.size) : (w.alloc (.cells #[] e)).ownsRow base e 1 (.slice (some ⟨w.heap.size, 0, none⟩) 0 0) 0 [] :=
  World.ownsRow_made w #[] 0 h (Nat.zero_le _) rfl
theorem Longer.below {base B : Nat} {e : TypeId} {w0 w w' : World} {v v' : Value} {n : Nat} {xs : List Value} (h : Longer base e w v n xs v' w') (hB : Below B w0 w) (hb : B ≤ w.heap.size) (hv : ∀ g, v.ownBlock = some g → B ≤ g) : Below B w0 w' :=
  hB.grown h.2.1 hb hv
theorem Longer.rd {base : Nat} {e : TypeId} {w w' : World} {v v' : Value} {n : Nat} {R : List Int} {k : IntKind} (h : Longer base e w v n (R.map (Value.int k)) v' w') : ∃ A c, v' = .slice A n c ∧ n ≤ c ∧ Rd w' w'.heap.size k A n R := own_rd h.1
/-- Two appends onto an empty row. -/
theorem Longer.two {base : Nat} {e : TypeId} {W w1 w2 : World} {v1 v2 : Value} {n1 n2 : Nat} {R S : List Int} {k : IntKind}
    (h1 : Longer base e (W.alloc (.cells #[] e)) (.slice (some ⟨W.heap.size, 0, none⟩) 0 0) n1 ([] ++ R.map (Value.int k)) v1 w1) (h2 : Longer base e w1 v1 n2 (([] ++ R.map (Value.int k)) ++ S.map (Value.int k)) v2 w2) :
    (∃ A c, v2 = .slice A n2 c ∧ n2 ≤ c ∧ Rd w2 w2.heap.size k A n2 (R ++ S)) ∧ Below W.heap.size W w2 := by
  refine ⟨?_, ?_⟩
  · have h := h2.1
    rw [List.nil_append, ← List.map_append] at h
    exact own_rd h
  · have hb1 := h1.below ((Below.refl W.heap.size W).alloc (Nat.le_refl _) _) (by simp) (fun g hg => by simp [Value.ownBlock] at hg; omega)
    have hs := h1.2.1.size
    refine h2.below hb1 hb1.size (fun g hg => ?_)
    rcases h1.2.2 with e1 | e1
    · rw [e1] at hg; simp [Value.ownBlock] at hg; omega
    · rw [e1] at hg; simp at hg; omega
end Go.Proofs.YtcpdjhkpmaamdaaGreat.Cr

namespace Go.Proofs.YtcpdjhkpmaamdaaGreat.Cr
open Go.RowKit Go.ChangeShapes Go.WideShapes

/-- A slice of whole numbers that came in. -/
def IsRow (k : IntKind) (w : World) (a : Option Addr) (len cap : Nat) (zs : List Int) : Prop :=
  (a = none ∧ len = 0 ∧ cap = 0 ∧ zs = []) ∨
  ∃ x, a = some x ∧ len ≤ cap ∧ cap ≤ maxLen ∧ zs.length = cap ∧ (∀ i, i < zs.length → w.cell? (x.add i) = some (.int k (zs.getD i 0))) ∧ ∀ n ∈ zs, (Lit.int k n).wf = true
theorem IsRow.rd {k : IntKind} {w : World} {a : Option Addr} {len cap : Nat} {zs : List Int} (h : IsRow k w a len cap zs) : len ≤ cap ∧ Rd w w.heap.size k a len (zs.take len) ∧ ∀ n ∈ zs.take len, (Lit.int k n).wf = true := by
  rcases h with ⟨rfl, rfl, rfl, rfl⟩ | ⟨x, rfl, hl, hm, hz, hc, hw⟩
  · exact ⟨Nat.le_refl _, Rd.nil, fun n hn => by cases hn⟩
  · refine ⟨hl, ⟨by rw [List.length_take, hz]; omega, fun h0 => ?_⟩, fun n hn => hw n (List.mem_of_mem_take hn)⟩
    obtain ⟨b, off, rfl, hc'⟩ := ints_at hc (by omega)
    have h00 := hc' 0 (by omega)
    refine ⟨b, off, rfl, World.block_lt_of_cell? w _ h00, fun j hj => ?_⟩
    rw [hc' j (by omega), List.getElem?_take, if_pos hj]
    rfl
set_option maxRecDepth 100000 in
/-- A slice of bytes that came in. -/
theorem open_row {H : Type} {enc : TypeId × Value → H} {w : World} {r : Reach} {b0 base : Nat} {v : Value} {d : DataW H} {pl : List MemPlace}
    (hval : Value.okWide Tryz.prog w r b0 23 v) (hd : DataW.Trod enc Tryz.prog w base (fun _ => true) true 23 v d pl) :
    ∃ A n c l, v = .slice A n c ∧ Rd w w.heap.size .u8 A n l ∧ Byt l ∧ n ≤ c := by
  obtain ⟨A, n, c, rfl⟩ := okWide_slice Tryz.underlying23 hval
  obtain ⟨z, hz⟩ : ∃ zs, IsRow .u8 w A n c zs := by
    obtain ⟨fuel, hf⟩ := hd
    rcases open_ints Tryz.underlying23 Tryz.underlying5 (by kernel_rfl) hf with ⟨hcs, _⟩ | ⟨x, l, c, zs, hcs, _, hl, hm, hz, _, hcell, hwz⟩
    · simp [Value.cells] at hcs
      obtain ⟨rfl, rfl, rfl⟩ := hcs
      exact ⟨[], .inl ⟨rfl, rfl, rfl, rfl⟩⟩
    · simp [Value.cells] at hcs
      obtain ⟨rfl, rfl, rfl⟩ := hcs
      exact ⟨zs, .inr ⟨_, rfl, hl, hm, by simpa using hz, hcell, hwz⟩⟩
  exact ⟨A, n, c, _, rfl, hz.rd.2.1, byt_of hz.rd.2.2, hz.rd.1⟩
/-- In a context of its own, that the match carry nothing else. -/
theorem list4 {α : Type} (l : List α) (h : (⟨l⟩ : Array α).size = 4) : ∃ a b c d, l = [a, b, c, d] := by
  match l, h with
  | [a, b, c, d], _ => exact ⟨a, b, c, d, rfl⟩
end Go.Proofs.YtcpdjhkpmaamdaaGreat.Cr

namespace Go.Proofs.YtcpdjhkpmaamdaaGreat.Cr
open Go.RowKit Go.ChangeShapes Go.WideShapes

theorem info_u8 : (Tryz.prog.info? 5).map (fun i => (i.zero, i.size, i.bytes)) = some (some (.int .u8 0), 1, 1) := by kernel_rfl
theorem cells_u8 : Tryz.prog.cellsOf 5 = 1 := by kernel_rfl
theorem eql_same4 (a b c d : Int) (w : World) : (binOp .eql 99 (.agg #[.int .u8 a, .int .u8 b, .int .u8 c, .int .u8 d]) (.agg #[.int .u8 a, .int .u8 b, .int .u8 c, .int .u8 d])).run Tryz.prog w = .ok (.bool true) w := by
  obtain ⟨i, hi, _, _, _⟩ := info_parts info_u8
  rw [run_eql_struct, run_equalIn_array w 9999 _ _ Tryz.underlying99 hi, cells_u8]
  simp [Op.eqItems, List.range, List.range.loop, part, go_sem]
theorem cells_arr : Tryz.prog.cellsOf 99 = 4 := by kernel_rfl
set_option maxRecDepth 100000 in
theorem open_bytes4 {H : Type} {enc : TypeId × Value → H} {w : World} {r : Reach} {b0 base : Nat} {sp : Nat → Bool} {held : Bool} {v : Value} {d : DataW H} {ps : List MemPlace}
    (hval : Value.okWide Tryz.prog w r b0 99 v) (hd : DataW.Trod enc Tryz.prog w base sp held 99 v d ps) :
    ∃ a b c e : Int, v = .agg #[.int .u8 a, .int .u8 b, .int .u8 c, .int .u8 e] ∧ (Lit.int .u8 a).wf = true ∧ (Lit.int .u8 b).wf = true ∧ (Lit.int .u8 c).wf = true ∧ (Lit.int .u8 e).wf = true := by
  obtain ⟨cs, rfl, hsz, _⟩ : ∃ cs, v = .agg cs ∧ cs.size = Tryz.prog.cellsOf 99 ∧ Row.okWide Tryz.prog w r b0 99 cs := by
    simpa [Value.okWide, Tryz.underlying99] using hval
  rw [cells_arr] at hsz
  obtain ⟨l⟩ := cs
  obtain ⟨c0, c1, c2, c3, rfl⟩ := list4 l hsz
  obtain ⟨fuel, hf⟩ := hd
  obtain ⟨y0, y1, y2, y3, m, hx, hy0, hy1, hy2, hy3⟩ := trod_array4 Tryz.underlying99 cells_u8 hf
  obtain ⟨x0, e0, rfl, w0⟩ := DataW.trod_int Tryz.underlying5 hy0
  obtain ⟨x1, e1, rfl, w1⟩ := DataW.trod_int Tryz.underlying5 hy1
  obtain ⟨x2, e2, rfl, w2⟩ := DataW.trod_int Tryz.underlying5 hy2
  obtain ⟨x3, e3, rfl, w3⟩ := DataW.trod_int Tryz.underlying5 hy3
  simp at e0 e1 e2 e3
  subst e0 e1 e2 e3
  exact ⟨_, _, _, _, rfl, w0, w1, w2, w3⟩
end Go.Proofs.YtcpdjhkpmaamdaaGreat.Cr

namespace Go.Proofs.YtcpdjhkpmaamdaaGreat.Cr
open Go.RowKit

/-! ### Pieces of a slice -/
theorem cut_first {P : Program} {t e : TypeId} {i : TypeInfo} (ht : P.underlying t = some (.slice e)) (hi : P.info? e = some i) (h1 : i.size = 1) (A : Option Addr) (n c k : Nat) (hk : k ≤ c) (W : World) :
    (Instr.slice t (.slice A n c) none (some (.int .i64 (k : Int))) none).run P W = .ok (.slice A k c) W := by
  have he : P.elem t = e := by simp [Program.elem, ht]
  have hu : P.underlying t = some (.slice (P.elem t)) := by rw [he]; exact ht
  rw [run_slice_h W t A n c hu .i64 (k : Int) (by omega) (by omega), he]
  simp [sizeOf, run_typeInfo, hi, h1, sliced, go_sem]
theorem cut_mid {P : Program} {t e : TypeId} {i : TypeInfo} (ht : P.underlying t = some (.slice e)) (hi : P.info? e = some i) (h1 : i.size = 1) (A : Option Addr) (n c j k : Nat) (hj : j ≤ k) (hk : k ≤ n) (hnc : n ≤ c) :
    ∃ A' c', (∀ W : World, (Instr.slice t (.slice A n c) (some (.int .i64 (j : Int))) (some (.int .i64 (k : Int))) none).run P W = .ok (.slice A' (k - j) c') W) ∧ ∀ {w : World} {B : Nat} {kd : IntKind} {l : List Int}, Rd w B kd A n l → Rd w B kd A' (k - j) ((l.take k).drop j) := by
  have he : P.elem t = e := by simp [Program.elem, ht]
  have hu : P.underlying t = some (.slice (P.elem t)) := by rw [he]; exact ht
  refine ⟨if c = j then A else A.map (·.add j), c - j, fun W => ?_, fun h => (h.first hk).cut hj (by omega)⟩
  rw [run_slice_lh W t A n c hu .i64 .i64 (j : Int) (k : Int) (by omega) (by omega) (by omega), he]
  simp [sizeOf, run_typeInfo, hi, h1, sliced, go_sem]
theorem cut_rest {P : Program} {t e : TypeId} {i : TypeInfo} (ht : P.underlying t = some (.slice e)) (hi : P.info? e = some i) (h1 : i.size = 1) (A : Option Addr) (n c k : Nat) (hk : k ≤ n) (hnc : n ≤ c) :
    ∃ A' c', (∀ W : World, (Instr.slice t (.slice A n c) (some (.int .i64 (k : Int))) none none).run P W = .ok (.slice A' (n - k) c') W) ∧ ∀ {w : World} {B : Nat} {kd : IntKind} {l : List Int}, Rd w B kd A n l → Rd w B kd A' (n - k) (l.drop k) := by
  have he : P.elem t = e := by simp [Program.elem, ht]
  have hu : P.underlying t = some (.slice (P.elem t)) := by rw [he]; exact ht
  refine ⟨if c = k then A else A.map (·.add k), c - k, fun W => ?_, fun h => h.cut hk hnc⟩
  rw [run_slice_l W t A n c hu .i64 (k : Int) (by omega) (by omega), he]
  simp [sizeOf, run_typeInfo, hi, h1, sliced, go_sem]

/-! ### min, max of two -/
theorem min2_run {P : Program} (a b : Int) : ∃ m : Int, (∀ ts t w, (Builtin.min_ ts t #[.int .i64 a, .int .i64 b]).run P w = .ok (.int .i64 m) w) ∧ m ≤ a ∧ m ≤ b ∧ (m = a ∨ m = b) := by
  refine ⟨_, fun ts t w => by simp [Builtin.min_, Builtin.min2]; rfl, ?_⟩
  split <;> omega
theorem max2_run {P : Program} (a b : Int) : ∃ m : Int, (∀ ts t w, (Builtin.max_ ts t #[.int .i64 a, .int .i64 b]).run P w = .ok (.int .i64 m) w) ∧ a ≤ m ∧ b ≤ m ∧ (m = a ∨ m = b) := by
  refine ⟨_, fun ts t w => by simp [Builtin.max_, Builtin.max2]; rfl, ?_⟩
  split <;> omega
end Go.Proofs.YtcpdjhkpmaamdaaGreat.Cr

namespace Go.Proofs.YtcpdjhkpmaamdaaGreat.Cr
/-- The sixteen rows that the variable holds, whatever they are. -/
structure Rows16 where
  row : Nat → BitVec 32
def rowOf [Inhabited Rows16] (i : Nat) : Nat := ((default : Rows16).row i).toNat
theorem rowOf_lt [Inhabited Rows16] (i : Nat) : rowOf i < 4294967296 := ((default : Rows16).row i).isLt
/-! ### Exclusive or -/
theorem xor_half (a b : Nat) : (a ^^^ b) / 2 = a / 2 ^^^ b / 2 := by
  have h := Nat.shiftRight_xor_distrib (a := a) (b := b) (i := 1)
  simpa [Nat.shiftRight_eq_div_pow] using h
theorem xor_odd (a b : Nat) : (a ^^^ b) % 2 = (a + b) % 2 := by
  have h := Nat.xor_mod_two_pow (a := a) (b := b) (n := 1)
  rw [Nat.pow_one] at h
  rw [h]
  rcases Nat.mod_two_eq_zero_or_one a with h1 | h1 <;> rcases Nat.mod_two_eq_zero_or_one b with h2 | h2 <;> rw [h1, h2] <;> simp <;> omega
theorem xor_self_mid (a b : Nat) : a ^^^ (a ^^^ b) = b := by rw [← Nat.xor_assoc, Nat.xor_self, Nat.zero_xor]
theorem xor_eq_zero {a b : Nat} (h : a ^^^ b = 0) : a = b := by
  have h1 : a ^^^ (a ^^^ b) = a ^^^ 0 := by rw [h]
  rw [xor_self_mid, Nat.xor_zero] at h1
  exact h1.symm
/-- Of numbers that share no bit it is the sum. -/
theorem xor_apart {a x k : Nat} (h : a < 2 ^ k) : a ^^^ x * 2 ^ k = x * 2 ^ k + a := by
  apply Nat.eq_of_testBit_eq
  intro i
  rw [Nat.testBit_xor, Nat.mul_comm x, Nat.testBit_two_pow_mul_add _ h, Nat.mul_comm, Nat.testBit_mul_two_pow]
  by_cases hi : i < k
  · rw [if_pos hi, decide_eq_false (by omega)]
    simp
  · rw [if_neg hi, decide_eq_true (show k ≤ i by omega), Nat.testBit_lt_two_pow (Nat.lt_of_lt_of_le h (Nat.pow_le_pow_right (by omega) (by omega)))]
    simp
/-! ### Halves, bytes, rows -/
/-- The step of a half. -/
def stepN [Inhabited Cr.Rows16] (s h : Nat) : Nat := rowOf ((s ^^^ h % 16) % 16) ^^^ (s ^^^ h % 16) / 16
def byteN [Inhabited Cr.Rows16] (s b : Nat) : Nat := stepN (stepN s (b % 16)) (b / 16)
def rowN [Inhabited Cr.Rows16] (s : Nat) (l : List Nat) : Nat := l.foldl byteN s
/-- All 32 bits turned about. -/
def notN (s : Nat) : Nat := 4294967295 - s
def nextN [Inhabited Cr.Rows16] (s : Nat) (l : List Nat) : Nat := notN (rowN (notN s) l)
def sumN [Inhabited Cr.Rows16] (l : List Nat) : Nat := nextN 0 l

theorem notN_xor {s : Nat} (h : s < 4294967296) : notN s = s ^^^ 4294967295 := by
  have h1 : ((BitVec.ofNat 32 s) ^^^ BitVec.allOnes 32).toNat = (~~~ (BitVec.ofNat 32 s)).toNat := by rw [BitVec.xor_allOnes]
  rw [BitVec.toNat_xor, BitVec.toNat_not, BitVec.toNat_ofNat, BitVec.toNat_allOnes, Nat.mod_eq_of_lt (show s < 2 ^ 32 from h)] at h1
  exact h1.symm
theorem stepN_lt [Inhabited Cr.Rows16] {s : Nat} (h : Nat) (hs : s < 4294967296) : stepN s h < 4294967296 := by
  unfold stepN
  have h1 : s ^^^ h % 16 < 4294967296 := Nat.xor_lt_two_pow (n := 32) hs (by omega)
  exact Nat.xor_lt_two_pow (n := 32) (rowOf_lt _) (by omega)
theorem byteN_lt [Inhabited Cr.Rows16] {s : Nat} (b : Nat) (hs : s < 4294967296) : byteN s b < 4294967296 := stepN_lt _ (stepN_lt _ hs)
theorem rowN_lt [Inhabited Cr.Rows16] {s : Nat} (l : List Nat) (hs : s < 4294967296) : rowN s l < 4294967296 := by
  unfold rowN
  induction l generalizing s with
  | nil => exact hs
  | cons b l ih => exact ih (byteN_lt b hs)
theorem rowN_append [Inhabited Cr.Rows16] (s : Nat) (l m : List Nat) : rowN s (l ++ m) = rowN (rowN s l) m := List.foldl_append

theorem nextN_lt [Inhabited Cr.Rows16] (s : Nat) (l : List Nat) : nextN s l < 4294967296 := by
  unfold nextN notN
  omega
theorem notN_notN {s : Nat} (h : s < 4294967296) : notN (notN s) = s := by unfold notN; omega
theorem notN_lt (s : Nat) : notN s < 4294967296 := by unfold notN; omega
theorem notN_same {s t : Nat} (hs : s < 4294967296) (ht : t < 4294967296) (h : notN s = notN t) : s = t := by unfold notN at h; omega
/-- A sum goes on. -/
theorem nextN_append [Inhabited Cr.Rows16] (s : Nat) (l m : List Nat) : nextN s (l ++ m) = nextN (nextN s l) m := by
  unfold nextN
  rw [rowN_append, notN_notN (rowN_lt l (notN_lt s))]
theorem nextN_nil [Inhabited Cr.Rows16] {s : Nat} (h : s < 4294967296) : nextN s [] = s := notN_notN h
theorem byte_xor {a b : Nat} (ha : a < 256) (hb : b < 256) : a ^^^ b < 256 := Nat.xor_lt_two_pow (n := 8) ha hb
/-- Four bytes, the lowest first, as one number. -/
def fourN (a b c d : Nat) : Nat := a + 256 * b + 65536 * c + 16777216 * d
theorem fourN_lt {a b c d : Nat} (ha : a < 256) (hb : b < 256) (hc : c < 256) (hd : d < 256) : fourN a b c d < 4294967296 := by unfold fourN; omega
theorem fourN_nought {a b c d : Nat} (h : fourN a b c d = 0) : a = 0 ∧ b = 0 ∧ c = 0 ∧ d = 0 := by unfold fourN at h; omega
theorem fourN_same {a b c d a' b' c' d' : Nat} (ha : a < 256) (hb : b < 256) (hc : c < 256) (ha' : a' < 256) (hb' : b' < 256) (hc' : c' < 256) (h : fourN a b c d = fourN a' b' c' d') : a = a' ∧ b = b' ∧ c = c' ∧ d = d' := by
  unfold fourN at h
  omega
/-- A sum's four bytes. -/
def bytesN (s : Nat) : List Nat := [s % 256, s / 256 % 256, s / 65536 % 256, s / 16777216]
theorem bytesN_four {s : Nat} : fourN (s % 256) (s / 256 % 256) (s / 65536 % 256) (s / 16777216) = s := by unfold fourN; omega
end Go.Proofs.YtcpdjhkpmaamdaaGreat.Cr

namespace Go.Proofs.YtcpdjhkpmaamdaaGreat.Cr
open Go.RowKit

theorem u32_nat (a : Nat) (ha : a < 4294967296) : (BitVec.ofInt 32 (a : Int)).toNat = a := by
  rw [BitVec.ofInt_natCast, BitVec.toNat_ofNat]
  omega
theorem u32_xor_nat (a b : Nat) (ha : a < 4294967296) (hb : b < 4294967296) : bits .xor .u32 (a : Int) (b : Int) = ((a ^^^ b : Nat) : Int) := by
  have hx : a ^^^ b < 4294967296 := Nat.xor_lt_two_pow (n := 32) ha hb
  show IntKind.u32.wrap ((BitVec.ofInt 32 (a : Int) ^^^ BitVec.ofInt 32 (b : Int)).toNat : Int) = _
  rw [BitVec.toNat_xor, u32_nat a ha, u32_nat b hb, IntKind.wrap_u32]
  omega
theorem u32_xor {x y : Int} (hx : 0 ≤ x ∧ x < 4294967296) (hy : 0 ≤ y ∧ y < 4294967296) : ∃ z : Int, bits .xor .u32 x y = z ∧ (0 ≤ z ∧ z < 4294967296) ∧ z.toNat = x.toNat ^^^ y.toNat := by
  have e := u32_xor_nat x.toNat y.toNat (by omega) (by omega)
  rw [show ((x.toNat : Nat) : Int) = x by omega, show ((y.toNat : Nat) : Int) = y by omega] at e
  have hlt : x.toNat ^^^ y.toNat < 4294967296 := Nat.xor_lt_two_pow (n := 32) (by omega) (by omega)
  exact ⟨_, e, by omega, by omega⟩
/-- A sum, as a value. -/
def sumV (n : Nat) : Value := .int .u32 (n : Int)
def Is32 (x : Int) (n : Nat) : Prop := (0 ≤ x ∧ x < 4294967296) ∧ x.toNat = n
/-! ### Rows -/
def natL (l : List Int) : List Nat := l.map Int.toNat
theorem natL_append (l m : List Int) : natL (l ++ m) = natL l ++ natL m := List.map_append
theorem rowN_snoc [Inhabited Cr.Rows16] (s : Nat) (l : List Nat) (b : Nat) : rowN s (l ++ [b]) = byteN (rowN s l) b := by rw [rowN_append]; rfl
/-- Not, of 32 bits. -/
theorem u32_not {x : Int} (hx : 0 ≤ x ∧ x < 4294967296) : ∃ z, bits .xor .u32 IntKind.u32.max x = z ∧ Is32 z (notN x.toNat) := by
  have h := u32_xor_nat 4294967295 x.toNat (by omega) (by omega)
  rw [show ((x.toNat : Nat) : Int) = x by omega, Nat.xor_comm, ← notN_xor (by omega)] at h
  have hl := notN_lt x.toNat
  exact ⟨_, h, by omega, by omega⟩
/-- Sums of parts. -/
theorem natL_take {ps : List Part} {k : Nat} {q : Part} (h : ps[k]? = some q) : natL (flat (ps.take (k + 1))) = natL (flat (ps.take k)) ++ natL q.l := by rw [flat_take h, natL_append]

/-- A sum's four bytes, as whole numbers. -/
def fourI (s : Int) : List Int := [s % 256, s / 256 % 256, s / 65536 % 256, s / 16777216]

end Go.Proofs.YtcpdjhkpmaamdaaGreat.Cr

namespace Go.Proofs.YtcpdjhkpmaamdaaGreat.Cr
open Go.RowKit

/-- The text that bytes make. -/
def txt (l : List Int) : ByteArray := ⟨(l.map fun n => UInt8.ofNat n.toNat).toArray⟩
theorem txt_push (ns : List Int) : ∀ s : ByteArray, ns.foldl (fun r n => r.push (UInt8.ofNat n.toNat)) s = ⟨s.data ++ (ns.map fun n => UInt8.ofNat n.toNat).toArray⟩ := by
  induction ns with
  | nil => intro s; simp
  | cons n ns ih =>
    intro s
    rw [List.foldl_cons, ih]
    cases s
    simp [ByteArray.push]
theorem txt_eq {l m : List Int} (hl : Byt l) (hm : Byt m) : txt l = txt m ↔ l = m := by
  constructor
  · intro h
    simp only [txt, ByteArray.mk.injEq] at h
    replace h := congrArg Array.toList h
    simp only at h
    have key : ∀ (l m : List Int), Byt l → Byt m → (l.map fun n => UInt8.ofNat n.toNat) = (m.map fun n => UInt8.ofNat n.toNat) → l = m := by
      intro l
      induction l with
      | nil => intro m _ _ h; simpa using h.symm
      | cons a l ih =>
        intro m hl hm h
        cases m with
        | nil => simp at h
        | cons b m =>
          simp only [List.map_cons, List.cons.injEq] at h
          have ha := hl a (by simp)
          have hb := hm b (by simp)
          have h1 : (UInt8.ofNat a.toNat).toNat = (UInt8.ofNat b.toNat).toNat := by rw [h.1]
          rw [UInt8.toNat_ofNat_of_lt' (by simp [UInt8.size]; omega), UInt8.toNat_ofNat_of_lt' (by simp [UInt8.size]; omega)] at h1
          rw [ih m (fun x hx => hl x (by simp [hx])) (fun x hx => hm x (by simp [hx])) h.2]
          congr 1
          omega
    exact key l m hl hm h
  · rintro rfl; rfl
/-- A slice that is read makes its bytes' text. -/
theorem run_txt {P : Program} {w : World} {B n c : Nat} {A : Option Addr} {l : List Int} (src dst e : TypeId)
    (hs : P.underlying src = some (.slice e)) (he : P.underlying e = some (.int .u8)) (hd : P.underlying dst = some .string) (hr : Rd w B .u8 A n l) :
    (convert src dst (.slice A n c)).run P w = .ok (.string (txt l)) w := by
  rw [run_convert_bytes_string w src dst e A n c hs he hd]
  rcases A with _ | a
  · obtain ⟨rfl, rfl⟩ := hr.none_
    rfl
  · have h := run_loadCells_list (P := P) (w := w) a (l.map (Value.int .u8)) hr.cells
    rw [List.length_map, hr.1] at h
    rw [run_bytesToString w a n c l h, txt_push]
    simp [txt]

/-- Whether two rows are the same. -/
def eqB (l m : List Int) : Bool := decide (l = m)
theorem eqB_true {l m : List Int} (h : l = m) : eqB l m = true := decide_eq_true h
theorem eqB_iff {l m : List Int} : eqB l m = true ↔ l = m := by simp [eqB]
theorem txt_beq {l m : List Int} (hl : Byt l) (hm : Byt m) : ((txt l).toList == (txt m).toList) = eqB l m := by
  rw [ByteArray.toList_eq, ByteArray.toList_eq, Bool.eq_iff_iff, beq_iff_eq, eqB_iff, ← txt_eq hl hm]
  exact ⟨fun h => Go.WideShapes.bytes_inj h, fun h => by rw [h]⟩
end Go.Proofs.YtcpdjhkpmaamdaaGreat.Cr

namespace Go.Proofs.YtcpdjhkpmaamdaaGreat.Cr
open Go.RowKit

theorem fourI_four {x : Int} (h : 0 ≤ x ∧ x < 4294967296) : natL (fourI x) = bytesN x.toNat := by
  unfold natL fourI bytesN
  simp only [List.map_cons, List.map_nil, List.cons.injEq, and_true]
  omega
theorem fourI_byt {x : Int} (h : 0 ≤ x ∧ x < 4294967296) : Byt (fourI x) := by
  intro y hy
  simp [fourI] at hy
  omega
/-- An append that is a region's step, of a slice that is read. -/
theorem step_append_rd {P : Program} {w : World} {base B : Nat} {e : TypeId} {i : TypeInfo} {z : Value} {bytes n m c : Nat} {v : Value} {xs : List Value} {A : Option Addr} {R : List Int} {k : IntKind}
    {ops : Array Oper} {o : Oper} {a : Act} {K : Act → World → Prop} {Q : Exit → Act → World → Prop} {E : Prop} (s x : Operand) (t : TypeId) (hgd : o.guard = none)
    (ho : o.op = .call { callee := .builtin .append, args := #[s, x], argTypes := #[t, t] })
    (ht : P.underlying t = some (.slice e)) (hi : P.info? e = some i) (hz : i.zero = some z) (h1 : i.size = 1) (h2 : i.bytes = bytes) (hzs : z.cells.size = 1)
    (hs : a.eval s = v) (hx : a.eval x = .slice A m c) (hown : w.ownsRow base e 1 v n xs) (hr : Rd w B k A m R) (b1 : n + m ≤ maxLen) (b2 : (n + m) * bytes ≤ 140737488355328) (b3 : base ≤ w.heap.size)
    (h : ∀ v' w', Longer base e w v (n + m) (xs ++ R.map (Value.int k)) v' w' → K (a.put o.dst v') w') :
    if Region.wanted o (yielded ops a.tmps) = true then Oper.wp P o a w K Q else E := by
  have hw : Region.wanted o (yielded ops a.tmps) = true := by simp [Region.wanted, hgd]
  rw [if_pos hw]
  exact wp_append_rd s x t ht hi hz h1 h2 hzs hown hr b1 b2 b3 ho hs hx h

/-- Where an appended row lies: where it lay, or in a new block. -/
theorem Longer.new {base B : Nat} {e : TypeId} {w w' : World} {v v' : Value} {n : Nat} {xs : List Value} (h : Longer base e w v n xs v' w') (hv : ∀ g, v.ownBlock = some g → B ≤ g) (hB : B ≤ w.heap.size) : ∀ g, v'.ownBlock = some g → B ≤ g := by
  intro g hg
  rcases h.2.2 with e1 | e1
  · exact hv g (by rw [← e1]; exact hg)
  · rw [e1] at hg
    have := Option.some.inj hg
    omega

/-- A row's sum. -/
def sumI [Inhabited Cr.Rows16] (l : List Int) : Int := ((sumN (natL l) : Nat) : Int)
theorem sumI_range [Inhabited Cr.Rows16] (l : List Int) : 0 ≤ sumI l ∧ sumI l < 4294967296 := by
  have := nextN_lt 0 (natL l)
  unfold sumI sumN
  omega
theorem Is32.sum [Inhabited Cr.Rows16] {x : Int} {l : List Int} (h : Is32 x (sumN (natL l))) : x = sumI l := by
  have h1 := h.1
  have h2 := h.2
  unfold sumI
  omega
/-- Are a row's last four bytes those of the sum of what stands ahead? -/
def okB [Inhabited Cr.Rows16] (l : List Int) : Bool := decide (4 ≤ l.length) && eqB (l.take (l.length - 4) ++ fourI (sumI (l.take (l.length - 4)))) l
/-- What Take answers. -/
def TakeOut [Inhabited Cr.Rows16] (l : List Int) (e : Ending) (w' : World) : Prop :=
  (okB l = false ∧ e = .returned (.tuple #[.slice none 0 0, .bool false])) ∨
  (okB l = true ∧ ∃ A c, e = .returned (.tuple #[.slice A (l.length - 4) c, .bool true]) ∧ l.length - 4 ≤ c ∧ Rd w' w'.heap.size .u8 A (l.length - 4) (l.take (l.length - 4)))

end Go.Proofs.YtcpdjhkpmaamdaaGreat.Cr

