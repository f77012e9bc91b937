/-
  Sums: plain mathematics, and the document's own functions of layer 3 (stage 3's texts, as one).
-/
import Derived.Test.YtafeadplmcoilaaDoorBase
import Derived.Test.YtafeadplmcoilaaDoorByt
import Derived.OwnWalk
import Derived.Laws.OwnMore
import Derived.RangeFuncBox
import Derived.RegionTactic
import Derived.OpenShut
import Derived.Laws.IdiomArrays
import Derived.ChangeKeysEq
import Derived.Laws.StructEq
import Derived.Laws.Slices
import Derived.Deep.RegionHeld3
import Derived.WalkLawsBesides
import Derived.Laws.BitsAllLaws
import Derived.Laws.BitsLemmas
import Derived.Deep.QuietTactic
import Derived.BigQuiet
import Derived.Outline
import Derived.Laws.Strings
import Derived.WideShapes
import Derived.Deep.AppendLies
namespace Go.Proofs.YtafeadplmcoilaaDoor.Cr
open Go.RowKit

/-- A slice of bytes: its address, length, capacity, bytes. -/
structure Part where
  A : Option Addr
  n : Nat
  c : Nat
  l : List Int
def Part.v (p : Part) : Value := .slice p.A p.n p.c
def flat (ps : List Part) : List Int := (ps.map Part.l).flatten
theorem flat_nil : flat [] = [] := rfl
theorem flat_cons (p : Part) (ps : List Part) : flat (p :: ps) = p.l ++ flat ps := rfl
theorem flat_take {ps : List Part} {k : Nat} {q : Part} (h : ps[k]? = some q) : flat (ps.take (k + 1)) = flat (ps.take k) ++ q.l := by
  unfold flat
  rw [List.take_add_one, h]
  simp

/-- The slice of address A and length n holds the slices ps; all lies below B. -/
structure Rds (w : World) (B : Nat) (A : Option Addr) (n : Nat) (ps : List Part) : Prop where
  len : ps.length = n
  row : 0 < n → ∃ b off, A = some ⟨b, off, none⟩ ∧ b < B ∧ ∀ i, i < n → w.cell? ⟨b, off + i, none⟩ = ps[i]?.map Part.v
  parts : ∀ p ∈ ps, Rd w B .u8 p.A p.n p.l ∧ Byt p.l ∧ p.n ≤ 140737488355328
theorem Rds.at_ {w : World} {B : Nat} {A : Option Addr} {n : Nat} {ps : List Part} (h : Rds w B A n ps) {k : Nat} (hk : k < n) :
    ∃ b off q, A = some ⟨b, off, none⟩ ∧ b < B ∧ ps[k]? = some q ∧ w.cell? ⟨b, off + k, none⟩ = some (.slice q.A q.n q.c) ∧ Rd w B .u8 q.A q.n q.l ∧ Byt q.l ∧ q.n ≤ 140737488355328 := by
  obtain ⟨b, off, rfl, hb, hc⟩ := h.row (by omega)
  have hk' : k < ps.length := by rw [h.len]; exact hk
  have he : ps[k]? = some ps[k] := List.getElem?_eq_getElem hk'
  have h1 := hc k hk
  rw [he] at h1
  exact ⟨b, off, ps[k], rfl, hb, he, h1, h.parts _ (List.getElem_mem hk')⟩
theorem Rds.on {w w' : World} {B B' : Nat} {A : Option Addr} {n : Nat} {ps : List Part} (h : Rds w B A n ps) (hb : Below B w w') (hB : B ≤ B') : Rds w' B' A n ps where
  len := h.len
  row := fun hn => by
    obtain ⟨b, off, e, hlt, hc⟩ := h.row hn
    exact ⟨b, off, e, by omega, fun i hi => (hb.cell (p := ⟨b, off + i, none⟩) hlt).trans (hc i hi)⟩
  parts := fun p hp => ⟨(h.parts p hp).1.on hb hB, (h.parts p hp).2⟩

theorem flat_byt {w : World} {B : Nat} {A : Option Addr} {n : Nat} {ps : List Part} (h : Rds w B A n ps) : Byt (flat ps) := by
  intro x hx
  unfold flat at hx
  obtain ⟨l, hl, hxl⟩ := List.mem_flatten.1 hx
  obtain ⟨p, hp, rfl⟩ := List.mem_map.1 hl
  exact (h.parts p hp).2.1 x hxl

theorem flat_lt {ps : List Part} {k j : Nat} {q : Part} (h : ps[k]? = some q) (hj : j < q.l.length) : (flat (ps.take k) ++ q.l.take j).length < (flat ps).length := by
  obtain ⟨hk, he⟩ := List.getElem?_eq_some_iff.1 h
  have e1 : ps = ps.take k ++ q :: ps.drop (k + 1) := by
    rw [← he, ← List.drop_eq_getElem_cons hk, List.take_append_drop]
  have e2 : flat ps = flat (ps.take k) ++ (q.l ++ flat (ps.drop (k + 1))) := by
    conv => lhs; rw [e1]
    unfold flat
    simp
  rw [e2]
  simp only [List.length_append, List.length_take]
  omega
end Go.Proofs.YtafeadplmcoilaaDoor.Cr

namespace Go.Proofs.YtafeadplmcoilaaDoor.Cr
open Go.RowKit

/-- The slice of slices that a literal, or a call with parts written out, makes. -/
theorem Rds.made (w : World) (t : TypeId) (ps : List Part) {g : Nat} (hg : g = w.heap.size) (h : ∀ p ∈ ps, Rd w w.heap.size .u8 p.A p.n p.l ∧ Byt p.l ∧ p.n ≤ 140737488355328) :
    Rds (w.alloc (.cells (ps.map Part.v).toArray t)) (w.alloc (.cells (ps.map Part.v).toArray t)).heap.size (some ⟨g, 0, none⟩) ps.length ps where
  len := rfl
  row := fun _ => ⟨g, 0, rfl, by subst hg; simp, fun i hi => by
    subst hg
    rw [cell_of_row _ _ _ _ _ _ (World.alloc_heap_new w _)]
    simp [hi]⟩
  parts := fun p hp => ⟨(h p hp).1.on ((Below.refl _ w).alloc (Nat.le_refl _) _) (by simp), (h p hp).2⟩
theorem Rds.none_ (w : World) (B : Nat) : Rds w B none 0 [] where
  len := rfl
  row := fun h => absurd h (by omega)
  parts := fun p hp => by cases hp
/-- The slice that a literal makes. -/
theorem Rd.made (w : World) (k : IntKind) (t : TypeId) (l : List Int) {g : Nat} (hg : g = w.heap.size) : Rd (w.alloc (.cells (l.map (Value.int k)).toArray t)) (w.alloc (.cells (l.map (Value.int k)).toArray t)).heap.size k (some ⟨g, 0, none⟩) l.length l := by
  subst hg
  refine ⟨rfl, fun _ => ⟨w.heap.size, 0, rfl, by simp, fun i hi => ?_⟩⟩
  rw [cell_of_row _ _ _ _ _ _ (World.alloc_heap_new w _)]
  simp [hi]

/-- .. of a constant text: its row bears the run-time's mark behind its last cell. -/
theorem Rd.const (w : World) (k : IntKind) (t : TypeId) (l : List Int) (fr : Nat × Nat) {g : Nat} (hg : g = w.heap.size) : Rd (w.alloc (.cells (l.map (Value.int k)).toArray t fr)) (w.alloc (.cells (l.map (Value.int k)).toArray t fr)).heap.size k (some ⟨g, 0, none⟩) l.length l := by
  subst hg
  refine ⟨rfl, fun _ => ⟨w.heap.size, 0, rfl, by simp, fun i hi => ?_⟩⟩
  rw [cell_of_row _ _ _ _ _ _ (World.alloc_heap_new w _)]
  simp [hi]
/-- The walk stops at a goal that is held. -/
theorem hold {p : Prop} (h : Hid p) : p := h
theorem unhold {p : Prop} (h : p) : Hid p := h
theorem made_list (n : Nat) : (madeCells (Value.int .u8 0).cells (n * 1)).toList = (List.replicate n (0 : Int)).map (Value.int .u8) := by
  have h : (Value.int .u8 0).cells = #[.int .u8 0] := rfl
  rw [h, Nat.mul_one, toList_madeCells_one, List.map_replicate]
/-- 'make' of n noughts. -/
theorem wpList_make_noughts {P : Program} {w : World} {ops : Array Oper} {rest : List Oper} {o : Oper} {a : Act} {Q : Exit → Act → World → Prop} {t e : TypeId} {i : TypeInfo} {kl kc : IntKind} {n : Nat}
    (hg : o.guard = none) (l c : Operand) (hop : o.op = Op.makeSlice t l c) (h1 : P.underlying t = some (.slice e)) (h2 : P.info? e = some i) (h3 : i.zero = some (.int .u8 0)) (h4 : i.size = 1) (h5 : i.bytes = 1)
    (hl : a.eval l = .int kl n) (hc : a.eval c = .int kc n) (b2 : n ≤ 1048576)
    (hK : ∀ w', Rd w' w'.heap.size .u8 (some ⟨w.heap.size, 0, none⟩) n (List.replicate n 0) → Below w.heap.size w w' → wpList P ops Q rest (a.put o.dst (.slice (some ⟨w.heap.size, 0, none⟩) n n)) w') :
    wpList P ops Q (o :: rest) a w := by
  refine wpList_plain hg fun K hK' => ?_
  obtain ⟨w', hrun, r1, r2⟩ := run_makeSlice_full (P := P) w w.heap.size t e i _ 1 h1 h2 h3 h4 kl kc n (by omega) (by rw [h5]; omega) (by unfold maxLen; omega) (Nat.le_refl _)
  rw [made_list] at r1
  unfold Oper.wp
  simp [execOp, hop, hl, hc, hrun, Result.andThen]
  exact hK' _ _ (hK w' (Rd.of_own r1) ((Below.refl _ w).grown r2 (Nat.le_refl _) (fun k e => by cases e)))
end Go.Proofs.YtafeadplmcoilaaDoor.Cr

namespace Go.Proofs.YtafeadplmcoilaaDoor.Cr
open Go.RowKit

section
variable {P : Program} {w : World} {base B : Nat} {t ty e : TypeId} {i : TypeInfo} {z : Value} {bytes n m c : Nat} {v : Value} {xs : List Value} {A : Option Addr} {R : List Int} {k : IntKind}

/-- What append leaves: a row of the call's own that has both, and a world in which no other block has turned. -/
def Longer (base : Nat) (e : TypeId) (w : World) (v : Value) (n : Nat) (xs : List Value) (v' : Value) (w' : World) : Prop :=
  w'.ownsRow base e 1 v' n xs ∧ w.grownBy w' v.ownBlock ∧ (v'.ownBlock = v.ownBlock ∨ v'.ownBlock = some w.heap.size)

theorem run_append_rd (ht : P.underlying t = some (.slice e)) (hi : P.info? e = some i) (hz : i.zero = some z) (h1 : i.size = 1) (h2 : i.bytes = bytes) (hzs : z.cells.size = 1)
    (hown : w.ownsRow base e 1 v n xs) (hr : Rd w B k A m R) (b1 : n + m ≤ maxLen) (b2 : (n + m) * bytes ≤ 140737488355328) (b3 : base ≤ w.heap.size) :
    ∃ v' w', (Builtin.append_ #[t, t] ty #[v, .slice A m c]).run P w = .ok v' w' ∧ Longer base e w v (n + m) (xs ++ R.map (Value.int k)) v' w' := by
  rcases A with _ | a
  · obtain ⟨rfl, rfl⟩ := hr.none_
    refine ⟨v, w, ?_, by simpa using hown, World.grownBy.refl w _, .inl rfl⟩
    rcases hown.2 with ⟨rfl, rfl⟩ | ⟨g, cap, cur, rfl, _, _, hnc, _⟩
    · simp [Builtin.append_, run_underlying ht, sizeOf, typeInfo, hi, Builtin.lenOf, Builtin.firstCells]
    · simp [Builtin.append_, run_underlying ht, sizeOf, typeInfo, hi, Builtin.lenOf, Builtin.firstCells, hnc, storeCells]
  · obtain ⟨v', w', hrun, r1, r2, _, r3⟩ := run_append_own_at (P := P) w base t ty e i z 1 bytes ht hi hz h1 h2 hzs (by omega) v n xs hown a m c (R.map (Value.int k)) (by simp [hr.1]) hr.cells
      (fun u hu => by obtain ⟨x, _, rfl⟩ := List.mem_map.1 hu; rfl) b1 b2 b3
    exact ⟨v', w', hrun, r1, r2, r3⟩

theorem wp_append_rd {o : Oper} {a : Act} {K : Act → World → Prop} {Q : Exit → Act → World → Prop} (s x : Operand) (t : TypeId)
    (ht : P.underlying t = some (.slice e)) (hi : P.info? e = some i) (hz : i.zero = some z) (h1 : i.size = 1) (h2 : i.bytes = bytes) (hzs : z.cells.size = 1)
    (hown : w.ownsRow base e 1 v n xs) (hr : Rd w B k A m R) (b1 : n + m ≤ maxLen) (b2 : (n + m) * bytes ≤ 140737488355328) (b3 : base ≤ w.heap.size)
    (ho : o.op = .call { callee := .builtin .append, args := #[s, x], argTypes := #[t, t] }) (hs : a.eval s = v) (hx : a.eval x = .slice A m c)
    (h : ∀ v' w', Longer base e w v (n + m) (xs ++ R.map (Value.int k)) v' w' → K (a.put o.dst v') w') : o.wp P a w K Q := by
  obtain ⟨v', w', hrun, h2⟩ := run_append_rd (c := c) (ty := o.type) ht hi hz h1 h2 hzs hown hr b1 b2 b3
  unfold Oper.wp execOp
  simp only [ho, resolve, invoke, builtin, Sem.run_bind, Sem.run_pure, Result.andThen_ok, List.map_toArray, List.map_cons, List.map_nil, hs, hx, hrun]
  exact h v' w' h2
theorem wpList_append_rd {ops : Array Oper} {rest : List Oper} {o : Oper} {a : Act} {Q : Exit → Act → World → Prop} (s x : Operand) (t : TypeId)
    (ht : P.underlying t = some (.slice e)) (hi : P.info? e = some i) (hz : i.zero = some z) (h1 : i.size = 1) (h2 : i.bytes = bytes) (hzs : z.cells.size = 1)
    (hown : w.ownsRow base e 1 v n xs) (hr : Rd w B k A m R) (b1 : n + m ≤ maxLen) (b2 : (n + m) * bytes ≤ 140737488355328) (b3 : base ≤ w.heap.size)
    (hgd : o.guard = none) (ho : o.op = .call { callee := .builtin .append, args := #[s, x], argTypes := #[t, t] }) (hs : a.eval s = v) (hx : a.eval x = .slice A m c)
    (h : ∀ v' w', Longer base e w v (n + m) (xs ++ R.map (Value.int k)) v' w' → wpList P ops Q rest (a.put o.dst v') w') : wpList P ops Q (o :: rest) a w :=
  wpList_plain hgd fun _ hK => wp_append_rd s x t ht hi hz h1 h2 hzs hown hr b1 b2 b3 ho hs hx fun v' w' h' => hK _ _ (h v' w' h')
theorem wpList_append_rdg {ops : Array Oper} {rest : List Oper} {o : Oper} {a : Act} {Q : Exit → Act → World → Prop} (s x : Operand) (t : TypeId)
    (ht : P.underlying t = some (.slice e)) (hi : P.info? e = some i) (hz : i.zero = some z) (h1 : i.size = 1) (h2 : i.bytes = bytes) (hzs : z.cells.size = 1)
    (hown : w.ownsRow base e 1 v n xs) (hr : Rd w B k A m R) (b1 : n + m ≤ maxLen) (b2 : (n + m) * bytes ≤ 140737488355328) (b3 : base ≤ w.heap.size)
    (hw : Region.wanted o (yielded ops a.tmps) = true) (ho : o.op = .call { callee := .builtin .append, args := #[s, x], argTypes := #[t, t] }) (hs : a.eval s = v) (hx : a.eval x = .slice A m c)
    (h : ∀ v' w', Longer base e w v (n + m) (xs ++ R.map (Value.int k)) v' w' → wpList P ops Q rest (a.put o.dst v') w') : wpList P ops Q (o :: rest) a w :=
  BigFrame.wpList_want hw fun _ hK => wp_append_rd s x t ht hi hz h1 h2 hzs hown hr b1 b2 b3 ho hs hx fun v' w' h' => hK _ _ (h v' w' h')
end

theorem byte_cells : (Value.int .u8 0).cells.size = 1 := rfl
/-- A row that is made empty, ahead of an append onto it. -/
theorem own_empty (w : World) (base : Nat) (e : TypeId) (h : base ≤ w.heap.size) : (w.alloc (.cells #[] e)).ownsRow base e 1 (.slice (some ⟨w.heap.size, 0, none⟩) 0 0) 0 [] :=
  World.ownsRow_made w #[] 0 h (Nat.zero_le _) rfl
theorem Longer.below {base B : Nat} {e : TypeId} {w0 w w' : World} {v v' : Value} {n : Nat} {xs : List Value} (h : Longer base e w v n xs v' w') (hB : Below B w0 w) (hb : B ≤ w.heap.size) (hv : ∀ g, v.ownBlock = some g → B ≤ g) : Below B w0 w' :=
  hB.grown h.2.1 hb hv
theorem Longer.rd {base : Nat} {e : TypeId} {w w' : World} {v v' : Value} {n : Nat} {R : List Int} {k : IntKind} (h : Longer base e w v n (R.map (Value.int k)) v' w') : ∃ A c, v' = .slice A n c ∧ n ≤ c ∧ Rd w' w'.heap.size k A n R := own_rd h.1
/-- Two appends onto an empty row. -/
theorem Longer.two {base : Nat} {e : TypeId} {W w1 w2 : World} {v1 v2 : Value} {n1 n2 : Nat} {R S : List Int} {k : IntKind}
    (h1 : Longer base e (W.alloc (.cells #[] e)) (.slice (some ⟨W.heap.size, 0, none⟩) 0 0) n1 ([] ++ R.map (Value.int k)) v1 w1) (h2 : Longer base e w1 v1 n2 (([] ++ R.map (Value.int k)) ++ S.map (Value.int k)) v2 w2) :
    (∃ A c, v2 = .slice A n2 c ∧ n2 ≤ c ∧ Rd w2 w2.heap.size k A n2 (R ++ S)) ∧ Below W.heap.size W w2 := by
  refine ⟨?_, ?_⟩
  · have h := h2.1
    rw [List.nil_append, ← List.map_append] at h
    exact own_rd h
  · have hb1 := h1.below ((Below.refl W.heap.size W).alloc (Nat.le_refl _) _) (by simp) (fun g hg => by simp [Value.ownBlock] at hg; omega)
    have hs := h1.2.1.size
    refine h2.below hb1 hb1.size (fun g hg => ?_)
    rcases h1.2.2 with e1 | e1
    · rw [e1] at hg; simp [Value.ownBlock] at hg; omega
    · rw [e1] at hg; simp at hg; omega
end Go.Proofs.YtafeadplmcoilaaDoor.Cr

namespace Go.Proofs.YtafeadplmcoilaaDoor.Cr
open Go.RowKit Go.ChangeShapes Go.WideShapes

/-- A slice of whole numbers that came in. -/
def IsRow (k : IntKind) (w : World) (a : Option Addr) (len cap : Nat) (zs : List Int) : Prop :=
  (a = none ∧ len = 0 ∧ cap = 0 ∧ zs = []) ∨
  ∃ x, a = some x ∧ len ≤ cap ∧ cap ≤ maxLen ∧ zs.length = cap ∧ (∀ i, i < zs.length → w.cell? (x.add i) = some (.int k (zs.getD i 0))) ∧ ∀ n ∈ zs, (Lit.int k n).wf = true
theorem IsRow.rd {k : IntKind} {w : World} {a : Option Addr} {len cap : Nat} {zs : List Int} (h : IsRow k w a len cap zs) : len ≤ cap ∧ Rd w w.heap.size k a len (zs.take len) ∧ ∀ n ∈ zs.take len, (Lit.int k n).wf = true := by
  rcases h with ⟨rfl, rfl, rfl, rfl⟩ | ⟨x, rfl, hl, hm, hz, hc, hw⟩
  · exact ⟨Nat.le_refl _, Rd.nil, fun n hn => by cases hn⟩
  · refine ⟨hl, ⟨by rw [List.length_take, hz]; omega, fun h0 => ?_⟩, fun n hn => hw n (List.mem_of_mem_take hn)⟩
    obtain ⟨b, off, rfl, hc'⟩ := ints_at hc (by omega)
    have h00 := hc' 0 (by omega)
    refine ⟨b, off, rfl, World.block_lt_of_cell? w _ h00, fun j hj => ?_⟩
    rw [hc' j (by omega), List.getElem?_take, if_pos hj]
    rfl
set_option maxRecDepth 100000 in
/-- A slice of bytes that came in. -/
theorem open_row {H : Type} {enc : TypeId × Value → H} {w : World} {r : Reach} {b0 base : Nat} {v : Value} {d : DataW H} {pl : List MemPlace}
    (hval : Value.okWide Tryd.prog w r b0 27 v) (hd : DataW.Trod enc Tryd.prog w base (fun _ => true) true 27 v d pl) :
    ∃ A n c l, v = .slice A n c ∧ Rd w w.heap.size .u8 A n l ∧ Byt l ∧ n ≤ c := by
  obtain ⟨A, n, c, rfl⟩ := okWide_slice Tryd.underlying27 hval
  obtain ⟨z, hz⟩ : ∃ zs, IsRow .u8 w A n c zs := by
    obtain ⟨fuel, hf⟩ := hd
    rcases open_ints Tryd.underlying27 Tryd.underlying5 (by kernel_rfl) hf with ⟨hcs, _⟩ | ⟨x, l, c, zs, hcs, _, hl, hm, hz, _, hcell, hwz⟩
    · simp [Value.cells] at hcs
      obtain ⟨rfl, rfl, rfl⟩ := hcs
      exact ⟨[], .inl ⟨rfl, rfl, rfl, rfl⟩⟩
    · simp [Value.cells] at hcs
      obtain ⟨rfl, rfl, rfl⟩ := hcs
      exact ⟨zs, .inr ⟨_, rfl, hl, hm, by simpa using hz, hcell, hwz⟩⟩
  exact ⟨A, n, c, _, rfl, hz.rd.2.1, byt_of hz.rd.2.2, hz.rd.1⟩
/-- In a context of its own, that the match carry nothing else. -/
theorem list4 {α : Type} (l : List α) (h : (⟨l⟩ : Array α).size = 4) : ∃ a b c d, l = [a, b, c, d] := by
  match l, h with
  | [a, b, c, d], _ => exact ⟨a, b, c, d, rfl⟩
end Go.Proofs.YtafeadplmcoilaaDoor.Cr

namespace Go.Proofs.YtafeadplmcoilaaDoor.Cr
open Go.RowKit Go.ChangeShapes Go.WideShapes

theorem info_u8 : (Tryd.prog.info? 5).map (fun i => (i.zero, i.size, i.bytes)) = some (some (.int .u8 0), 1, 1) := by kernel_rfl
theorem cells_u8 : Tryd.prog.cellsOf 5 = 1 := by kernel_rfl
theorem eql_same4 (a b c d : Int) (w : World) : (binOp .eql 84 (.agg #[.int .u8 a, .int .u8 b, .int .u8 c, .int .u8 d]) (.agg #[.int .u8 a, .int .u8 b, .int .u8 c, .int .u8 d])).run Tryd.prog w = .ok (.bool true) w := by
  obtain ⟨i, hi, _, _, _⟩ := info_parts info_u8
  rw [run_eql_struct, run_equalIn_array w 9999 _ _ Tryd.underlying84 hi, cells_u8]
  simp [Op.eqItems, List.range, List.range.loop, part, go_sem]
theorem cells_arr : Tryd.prog.cellsOf 84 = 4 := by kernel_rfl
set_option maxRecDepth 100000 in
theorem open_bytes4 {H : Type} {enc : TypeId × Value → H} {w : World} {r : Reach} {b0 base : Nat} {sp : Nat → Bool} {held : Bool} {v : Value} {d : DataW H} {ps : List MemPlace}
    (hval : Value.okWide Tryd.prog w r b0 84 v) (hd : DataW.Trod enc Tryd.prog w base sp held 84 v d ps) :
    ∃ a b c e : Int, v = .agg #[.int .u8 a, .int .u8 b, .int .u8 c, .int .u8 e] ∧ (Lit.int .u8 a).wf = true ∧ (Lit.int .u8 b).wf = true ∧ (Lit.int .u8 c).wf = true ∧ (Lit.int .u8 e).wf = true := by
  obtain ⟨cs, rfl, hsz, _⟩ : ∃ cs, v = .agg cs ∧ cs.size = Tryd.prog.cellsOf 84 ∧ Row.okWide Tryd.prog w r b0 84 cs := by
    simpa [Value.okWide, Tryd.underlying84] using hval
  rw [cells_arr] at hsz
  obtain ⟨l⟩ := cs
  obtain ⟨c0, c1, c2, c3, rfl⟩ := list4 l hsz
  obtain ⟨fuel, hf⟩ := hd
  obtain ⟨y0, y1, y2, y3, m, hx, hy0, hy1, hy2, hy3⟩ := trod_array4 Tryd.underlying84 cells_u8 hf
  obtain ⟨x0, e0, rfl, w0⟩ := DataW.trod_int Tryd.underlying5 hy0
  obtain ⟨x1, e1, rfl, w1⟩ := DataW.trod_int Tryd.underlying5 hy1
  obtain ⟨x2, e2, rfl, w2⟩ := DataW.trod_int Tryd.underlying5 hy2
  obtain ⟨x3, e3, rfl, w3⟩ := DataW.trod_int Tryd.underlying5 hy3
  simp at e0 e1 e2 e3
  subst e0 e1 e2 e3
  exact ⟨_, _, _, _, rfl, w0, w1, w2, w3⟩
end Go.Proofs.YtafeadplmcoilaaDoor.Cr

namespace Go.Proofs.YtafeadplmcoilaaDoor.Cr
open Go.RowKit

/-! ### Pieces of a slice -/
theorem cut_first {P : Program} {t e : TypeId} {i : TypeInfo} (ht : P.underlying t = some (.slice e)) (hi : P.info? e = some i) (h1 : i.size = 1) (A : Option Addr) (n c k : Nat) (hk : k ≤ c) (W : World) :
    (Instr.slice t (.slice A n c) none (some (.int .i64 (k : Int))) none).run P W = .ok (.slice A k c) W := by
  have he : P.elem t = e := by simp [Program.elem, ht]
  have hu : P.underlying t = some (.slice (P.elem t)) := by rw [he]; exact ht
  rw [run_slice_h W t A n c hu .i64 (k : Int) (by omega) (by omega), he]
  simp [sizeOf, run_typeInfo, hi, h1, sliced, go_sem]
theorem cut_mid {P : Program} {t e : TypeId} {i : TypeInfo} (ht : P.underlying t = some (.slice e)) (hi : P.info? e = some i) (h1 : i.size = 1) (A : Option Addr) (n c j k : Nat) (hj : j ≤ k) (hk : k ≤ n) (hnc : n ≤ c) :
    ∃ A' c', (∀ W : World, (Instr.slice t (.slice A n c) (some (.int .i64 (j : Int))) (some (.int .i64 (k : Int))) none).run P W = .ok (.slice A' (k - j) c') W) ∧ ∀ {w : World} {B : Nat} {kd : IntKind} {l : List Int}, Rd w B kd A n l → Rd w B kd A' (k - j) ((l.take k).drop j) := by
  have he : P.elem t = e := by simp [Program.elem, ht]
  have hu : P.underlying t = some (.slice (P.elem t)) := by rw [he]; exact ht
  refine ⟨if c = j then A else A.map (·.add j), c - j, fun W => ?_, fun h => (h.first hk).cut hj (by omega)⟩
  rw [run_slice_lh W t A n c hu .i64 .i64 (j : Int) (k : Int) (by omega) (by omega) (by omega), he]
  simp [sizeOf, run_typeInfo, hi, h1, sliced, go_sem]
theorem cut_rest {P : Program} {t e : TypeId} {i : TypeInfo} (ht : P.underlying t = some (.slice e)) (hi : P.info? e = some i) (h1 : i.size = 1) (A : Option Addr) (n c k : Nat) (hk : k ≤ n) (hnc : n ≤ c) :
    ∃ A' c', (∀ W : World, (Instr.slice t (.slice A n c) (some (.int .i64 (k : Int))) none none).run P W = .ok (.slice A' (n - k) c') W) ∧ ∀ {w : World} {B : Nat} {kd : IntKind} {l : List Int}, Rd w B kd A n l → Rd w B kd A' (n - k) (l.drop k) := by
  have he : P.elem t = e := by simp [Program.elem, ht]
  have hu : P.underlying t = some (.slice (P.elem t)) := by rw [he]; exact ht
  refine ⟨if c = k then A else A.map (·.add k), c - k, fun W => ?_, fun h => h.cut hk hnc⟩
  rw [run_slice_l W t A n c hu .i64 (k : Int) (by omega) (by omega), he]
  simp [sizeOf, run_typeInfo, hi, h1, sliced, go_sem]

/-! ### min, max of two -/
theorem min2_run {P : Program} (a b : Int) : ∃ m : Int, (∀ ts t w, (Builtin.min_ ts t #[.int .i64 a, .int .i64 b]).run P w = .ok (.int .i64 m) w) ∧ m ≤ a ∧ m ≤ b ∧ (m = a ∨ m = b) := by
  refine ⟨_, fun ts t w => by simp [Builtin.min_, Builtin.min2]; rfl, ?_⟩
  split <;> omega
theorem max2_run {P : Program} (a b : Int) : ∃ m : Int, (∀ ts t w, (Builtin.max_ ts t #[.int .i64 a, .int .i64 b]).run P w = .ok (.int .i64 m) w) ∧ a ≤ m ∧ b ≤ m ∧ (m = a ∨ m = b) := by
  refine ⟨_, fun ts t w => by simp [Builtin.max_, Builtin.max2]; rfl, ?_⟩
  split <;> omega
end Go.Proofs.YtafeadplmcoilaaDoor.Cr

namespace Go.Proofs.YtafeadplmcoilaaDoor.Cr
/-- One bit's turn. -/
def turn (s : Nat) : Nat := if s % 2 = 1 then (s / 2) ^^^ 2197175160 else s / 2
def turns : Nat → Nat → Nat
  | 0, s => s
  | k + 1, s => turns k (turn s)
theorem turns_add (k l s : Nat) : turns (k + l) s = turns l (turns k s) := by
  induction k generalizing s with
  | zero => rw [Nat.zero_add]; rfl
  | succ k ih => rw [Nat.succ_add]; exact ih (turn s)

/-! ### Exclusive or -/
theorem xor_half (a b : Nat) : (a ^^^ b) / 2 = a / 2 ^^^ b / 2 := by
  have h := Nat.shiftRight_xor_distrib (a := a) (b := b) (i := 1)
  simpa [Nat.shiftRight_eq_div_pow] using h
theorem xor_odd (a b : Nat) : (a ^^^ b) % 2 = (a + b) % 2 := by
  have h := Nat.xor_mod_two_pow (a := a) (b := b) (n := 1)
  rw [Nat.pow_one] at h
  rw [h]
  rcases Nat.mod_two_eq_zero_or_one a with h1 | h1 <;> rcases Nat.mod_two_eq_zero_or_one b with h2 | h2 <;> rw [h1, h2] <;> simp <;> omega
theorem xor_self_mid (a b : Nat) : a ^^^ (a ^^^ b) = b := by rw [← Nat.xor_assoc, Nat.xor_self, Nat.zero_xor]
theorem xor_eq_zero {a b : Nat} (h : a ^^^ b = 0) : a = b := by
  have h1 : a ^^^ (a ^^^ b) = a ^^^ 0 := by rw [h]
  rw [xor_self_mid, Nat.xor_zero] at h1
  exact h1.symm
/-- Of numbers that share no bit it is the sum. -/
theorem xor_apart {a x k : Nat} (h : a < 2 ^ k) : a ^^^ x * 2 ^ k = x * 2 ^ k + a := by
  apply Nat.eq_of_testBit_eq
  intro i
  rw [Nat.testBit_xor, Nat.mul_comm x, Nat.testBit_two_pow_mul_add _ h, Nat.mul_comm, Nat.testBit_mul_two_pow]
  by_cases hi : i < k
  · rw [if_pos hi, decide_eq_false (by omega)]
    simp
  · rw [if_neg hi, decide_eq_true (show k ≤ i by omega), Nat.testBit_lt_two_pow (Nat.lt_of_lt_of_le h (Nat.pow_le_pow_right (by omega) (by omega)))]
    simp
theorem turn_xor (s t : Nat) : turn (s ^^^ t) = turn s ^^^ turn t := by
  unfold turn
  rw [xor_half, xor_odd]
  rcases Nat.mod_two_eq_zero_or_one s with h1 | h1 <;> rcases Nat.mod_two_eq_zero_or_one t with h2 | h2
  · rw [if_neg (by omega), if_neg (by omega), if_neg (by omega)]
  · rw [if_pos (by omega), if_neg (by omega), if_pos (by omega), Nat.xor_assoc]
  · rw [if_pos (by omega), if_pos (by omega), if_neg (by omega), Nat.xor_assoc, Nat.xor_assoc, Nat.xor_comm (t / 2)]
  · rw [if_neg (by omega), if_pos (by omega), if_pos (by omega), Nat.xor_assoc, Nat.xor_comm (t / 2), ← Nat.xor_assoc 2197175160, Nat.xor_self, Nat.zero_xor]
theorem turns_xor (k s t : Nat) : turns k (s ^^^ t) = turns k s ^^^ turns k t := by
  induction k generalizing s t with
  | zero => rfl
  | succ k ih => rw [turns, turns, turns, turn_xor, ih]
theorem turn_zero : turn 0 = 0 := rfl
theorem turns_zero (k : Nat) : turns k 0 = 0 := by
  induction k with
  | zero => rfl
  | succ k ih => rw [turns, turn_zero, ih]
theorem turn_lt {s : Nat} (h : s < 4294967296) : turn s < 4294967296 := by
  unfold turn
  split
  · exact Nat.xor_lt_two_pow (n := 32) (by omega) (by decide)
  · omega
theorem turns_lt (k : Nat) {s : Nat} (h : s < 4294967296) : turns k s < 4294967296 := by
  induction k generalizing s with
  | zero => exact h
  | succ k ih => exact ih (turn_lt h)
/-- No sum but nought turns to nought: the highest bit tells the lowest one. -/
theorem turn_nought {s : Nat} (hs : s < 4294967296) (h : turn s = 0) : s = 0 := by
  unfold turn at h
  split at h
  · rename_i h1
    exfalso
    have := xor_eq_zero h
    omega
  · omega
theorem turns_nought (k : Nat) {s : Nat} (hs : s < 4294967296) (h : turns k s = 0) : s = 0 := by
  induction k generalizing s with
  | zero => exact h
  | succ k ih => exact turn_nought hs (ih (turn_lt hs) h)
theorem turns_same (k : Nat) {s t : Nat} (hs : s < 4294967296) (ht : t < 4294967296) (h : turns k s = turns k t) : s = t := by
  refine xor_eq_zero (turns_nought k (Nat.xor_lt_two_pow (n := 32) hs ht) ?_)
  rw [turns_xor, h, Nat.xor_self]
/-- What lies above the lowest k bits only moves down. -/
theorem turns_high (k x : Nat) : turns k (x * 2 ^ k) = x := by
  induction k generalizing x with
  | zero => rw [Nat.pow_zero, Nat.mul_one]; rfl
  | succ k ih =>
    rw [turns]
    have h : turn (x * 2 ^ (k + 1)) = x * 2 ^ k := by
      unfold turn
      rw [Nat.pow_succ, ← Nat.mul_assoc, if_neg (by omega), Nat.mul_div_cancel _ (by omega)]
    rw [h, ih]

/-! ### Halves, bytes, rows -/
/-- The step of a half. -/
def stepN (s h : Nat) : Nat := turns 4 (s ^^^ h % 16)
def byteN (s b : Nat) : Nat := stepN (stepN s (b % 16)) (b / 16)
def rowN (s : Nat) (l : List Nat) : Nat := l.foldl byteN s
/-- All 32 bits turned about. -/
def notN (s : Nat) : Nat := 4294967295 - s
def nextN (s : Nat) (l : List Nat) : Nat := notN (rowN (notN s) l)
def sumN (l : List Nat) : Nat := nextN 0 l

theorem notN_xor {s : Nat} (h : s < 4294967296) : notN s = s ^^^ 4294967295 := by
  have h1 : ((BitVec.ofNat 32 s) ^^^ BitVec.allOnes 32).toNat = (~~~ (BitVec.ofNat 32 s)).toNat := by rw [BitVec.xor_allOnes]
  rw [BitVec.toNat_xor, BitVec.toNat_not, BitVec.toNat_ofNat, BitVec.toNat_allOnes, Nat.mod_eq_of_lt (show s < 2 ^ 32 from h)] at h1
  exact h1.symm
theorem stepN_lt {s : Nat} (h : Nat) (hs : s < 4294967296) : stepN s h < 4294967296 := by
  unfold stepN
  exact turns_lt 4 (Nat.xor_lt_two_pow (n := 32) hs (by omega))
theorem byteN_eq (s : Nat) {b : Nat} (hb : b < 256) : byteN s b = turns 8 (s ^^^ b) := by
  unfold byteN stepN
  rw [Nat.mod_mod, Nat.mod_eq_of_lt (show b / 16 < 16 by omega)]
  have h1 : b / 16 = turns 4 (b / 16 * 2 ^ 4) := (turns_high 4 _).symm
  have h2 : b % 16 ^^^ b / 16 * 2 ^ 4 = b := by
    rw [xor_apart (show b % 16 < 2 ^ 4 by omega)]
    omega
  rw [h1, ← turns_xor, ← turns_add, Nat.xor_assoc, h2]
theorem byteN_lt {s : Nat} (b : Nat) (hs : s < 4294967296) : byteN s b < 4294967296 := stepN_lt _ (stepN_lt _ hs)
theorem rowN_lt {s : Nat} (l : List Nat) (hs : s < 4294967296) : rowN s l < 4294967296 := by
  unfold rowN
  induction l generalizing s with
  | nil => exact hs
  | cons b l ih => exact ih (byteN_lt b hs)
theorem rowN_append (s : Nat) (l m : List Nat) : rowN s (l ++ m) = rowN (rowN s l) m := List.foldl_append

theorem nextN_lt (s : Nat) (l : List Nat) : nextN s l < 4294967296 := by
  unfold nextN notN
  omega
theorem notN_notN {s : Nat} (h : s < 4294967296) : notN (notN s) = s := by unfold notN; omega
theorem notN_lt (s : Nat) : notN s < 4294967296 := by unfold notN; omega
theorem notN_same {s t : Nat} (hs : s < 4294967296) (ht : t < 4294967296) (h : notN s = notN t) : s = t := by unfold notN at h; omega
/-- A sum goes on. -/
theorem nextN_append (s : Nat) (l m : List Nat) : nextN s (l ++ m) = nextN (nextN s l) m := by
  unfold nextN
  rw [rowN_append, notN_notN (rowN_lt l (notN_lt s))]
theorem nextN_nil {s : Nat} (h : s < 4294967296) : nextN s [] = s := notN_notN h
/-- A step out of a row of sixteen. -/
theorem turns_four (s : Nat) : turns 4 s = turns 4 (s % 16) ^^^ s / 16 := by
  have h : s % 16 ^^^ s / 16 * 2 ^ 4 = s := by
    rw [xor_apart (show s % 16 < 2 ^ 4 by omega)]
    omega
  conv => lhs; rw [← h]
  rw [turns_xor, turns_high]

/-! ### Rows put together by exclusive or -/
def BytN (l : List Nat) : Prop := ∀ x ∈ l, x < 256
def xorL (l m : List Nat) : List Nat := List.zipWith (fun x y => x ^^^ y) l m
theorem byte_xor {a b : Nat} (ha : a < 256) (hb : b < 256) : a ^^^ b < 256 := Nat.xor_lt_two_pow (n := 8) ha hb
theorem byteN_xor (s t : Nat) {a b : Nat} (ha : a < 256) (hb : b < 256) : byteN (s ^^^ t) (a ^^^ b) = byteN s a ^^^ byteN t b := by
  rw [byteN_eq _ ha, byteN_eq _ hb, byteN_eq _ (byte_xor ha hb), ← turns_xor]
  congr 1
  rw [Nat.xor_assoc, Nat.xor_assoc, ← Nat.xor_assoc t, Nat.xor_comm t a, Nat.xor_assoc a]
theorem stepN_xor (s t : Nat) (h k : Nat) : stepN (s ^^^ t) (h ^^^ k) = stepN s h ^^^ stepN t k := by
  unfold stepN
  have e : (h ^^^ k) % 16 = h % 16 ^^^ k % 16 := Nat.xor_mod_two_pow (a := h) (b := k) (n := 4)
  rw [e, ← turns_xor]
  congr 1
  rw [Nat.xor_assoc, Nat.xor_assoc, ← Nat.xor_assoc t, Nat.xor_comm t (h % 16), Nat.xor_assoc (h % 16)]
theorem rowN_xor (l : List Nat) : ∀ (m : List Nat) (s t : Nat), l.length = m.length → BytN l → BytN m → rowN (s ^^^ t) (xorL l m) = rowN s l ^^^ rowN t m := by
  induction l with
  | nil =>
    intro m s t h _ _
    cases m with
    | nil => rfl
    | cons b m => simp at h
  | cons a l ih =>
    intro m s t h hl hm
    cases m with
    | nil => simp at h
    | cons b m =>
      show rowN (byteN (s ^^^ t) (a ^^^ b)) (xorL l m) = rowN (byteN s a) l ^^^ rowN (byteN t b) m
      rw [byteN_xor s t (hl a (by simp)) (hm b (by simp))]
      exact ih m _ _ (by simpa using h) (fun x hx => hl x (by simp [hx])) (fun x hx => hm x (by simp [hx]))
theorem xorL_length {l m : List Nat} (h : l.length = m.length) : (xorL l m).length = l.length := by
  unfold xorL
  rw [List.length_zipWith, h, Nat.min_self]
theorem xorL_byt (l : List Nat) : ∀ (m : List Nat), BytN l → BytN m → BytN (xorL l m) := by
  induction l with
  | nil => intro m _ _ x hx; simp [xorL] at hx
  | cons a l ih =>
    intro m hl hm
    cases m with
    | nil => intro x hx; simp [xorL] at hx
    | cons b m =>
      intro x hx
      rcases List.mem_cons.1 (show x ∈ (a ^^^ b) :: xorL l m from hx) with h | h
      · rw [h]; exact byte_xor (hl a (by simp)) (hm b (by simp))
      · exact ih m (fun x hx => hl x (by simp [hx])) (fun x hx => hm x (by simp [hx])) x h
/-- Three rows. -/
theorem sumN_three {a b c : List Nat} (h1 : a.length = b.length) (h2 : a.length = c.length) (ha : BytN a) (hb : BytN b) (hc : BytN c) :
    sumN (xorL (xorL a b) c) = sumN a ^^^ sumN b ^^^ sumN c := by
  have e0 : notN 0 = 4294967295 := rfl
  have e1 : rowN (notN 0) (xorL (xorL a b) c) = rowN (notN 0) a ^^^ rowN (notN 0) b ^^^ rowN (notN 0) c := by
    have e2 : notN 0 = notN 0 ^^^ notN 0 ^^^ notN 0 := by rw [Nat.xor_self, Nat.zero_xor]
    conv => lhs; rw [e2]
    rw [rowN_xor _ _ _ _ (by rw [xorL_length h1, h2]) (xorL_byt _ _ ha hb) hc, rowN_xor _ _ _ _ h1 ha hb]
  unfold sumN nextN
  have hA := rowN_lt a (notN_lt 0)
  have hB := rowN_lt b (notN_lt 0)
  have hC := rowN_lt c (notN_lt 0)
  rw [e1, notN_xor hA, notN_xor hB, notN_xor hC, notN_xor (Nat.xor_lt_two_pow (n := 32) (Nat.xor_lt_two_pow (n := 32) hA hB) hC)]
  generalize rowN (notN 0) a = x
  generalize rowN (notN 0) b = y
  generalize rowN (notN 0) c = z
  generalize (4294967295 : Nat) = o
  have e3 : (x ^^^ o) ^^^ (y ^^^ o) = x ^^^ y := by
    rw [Nat.xor_assoc, Nat.xor_comm o, Nat.xor_assoc, Nat.xor_self, Nat.xor_zero]
  rw [e3, Nat.xor_assoc (x ^^^ y)]

/-! ### Bursts -/
def noughts (k : Nat) : List Nat := List.replicate k 0
theorem rowN_noughts (k s : Nat) : rowN s (noughts k) = turns (8 * k) s := by
  induction k generalizing s with
  | zero => rfl
  | succ k ih =>
    show rowN (byteN s 0) (noughts k) = _
    rw [ih, byteN_eq s (show 0 < 256 by omega), Nat.xor_zero, ← turns_add]
    congr 1
    omega
/-- Four bytes, the lowest first, as one number. -/
def fourN (a b c d : Nat) : Nat := a + 256 * b + 65536 * c + 16777216 * d
theorem turns_low {k l x : Nat} {a : Nat} (h : a < 2 ^ k) : turns (k + l) (x * 2 ^ k + a) = turns l (turns k a ^^^ x) := by
  rw [turns_add, ← xor_apart h, turns_xor, turns_high]
theorem rowN_four (s : Nat) {a b c d : Nat} (ha : a < 256) (hb : b < 256) (hc : c < 256) (hd : d < 256) : rowN s [a, b, c, d] = turns 32 (s ^^^ fourN a b c d) := by
  show byteN (byteN (byteN (byteN s a) b) c) d = _
  rw [byteN_eq _ hd, byteN_eq _ hc, byteN_eq _ hb, byteN_eq _ ha]
  have e1 : fourN a b c d = a ^^^ (fourN b c d 0) * 2 ^ 8 := by
    rw [xor_apart (show a < 2 ^ 8 by omega)]; unfold fourN; omega
  have e2 : fourN b c d 0 = b ^^^ (fourN c d 0 0) * 2 ^ 8 := by
    rw [xor_apart (show b < 2 ^ 8 by omega)]; unfold fourN; omega
  have e3 : fourN c d 0 0 = c ^^^ d * 2 ^ 8 := by
    rw [xor_apart (show c < 2 ^ 8 by omega)]; unfold fourN; omega
  rw [show (32 : Nat) = 8 + (8 + (8 + 8)) from rfl, turns_add, turns_add 8 (8 + 8), turns_add 8 8, e1, ← Nat.xor_assoc, turns_xor 8 (s ^^^ a), turns_high, e2, ← Nat.xor_assoc, turns_xor 8 (turns 8 (s ^^^ a) ^^^ b), turns_high, e3, ← Nat.xor_assoc, turns_xor 8 (turns 8 (turns 8 (s ^^^ a) ^^^ b) ^^^ c), turns_high]
/-- A row that is nought but for four bytes side by side. -/
def burst (k a b c d r : Nat) : List Nat := noughts k ++ ([a, b, c, d] ++ noughts r)
theorem noughts_byt (k : Nat) : BytN (noughts k) := fun x hx => by
  have := List.eq_of_mem_replicate hx
  omega
theorem burst_byt {k a b c d r : Nat} (ha : a < 256) (hb : b < 256) (hc : c < 256) (hd : d < 256) : BytN (burst k a b c d r) := by
  intro x hx
  unfold burst at hx
  rcases List.mem_append.1 hx with h | h
  · exact noughts_byt k x h
  · rcases List.mem_append.1 h with h | h
    · simp at h
      omega
    · exact noughts_byt r x h
theorem burst_length (k a b c d r : Nat) : (burst k a b c d r).length = k + 4 + r := by
  unfold burst noughts
  simp
  omega
theorem fourN_lt {a b c d : Nat} (ha : a < 256) (hb : b < 256) (hc : c < 256) (hd : d < 256) : fourN a b c d < 4294967296 := by unfold fourN; omega
theorem fourN_nought {a b c d : Nat} (h : fourN a b c d = 0) : a = 0 ∧ b = 0 ∧ c = 0 ∧ d = 0 := by unfold fourN at h; omega
theorem fourN_same {a b c d a' b' c' d' : Nat} (ha : a < 256) (hb : b < 256) (hc : c < 256) (ha' : a' < 256) (hb' : b' < 256) (hc' : c' < 256) (h : fourN a b c d = fourN a' b' c' d') : a = a' ∧ b = b' ∧ c = c' ∧ d = d' := by
  unfold fourN at h
  omega
theorem rowN_burst {k a b c d r : Nat} (ha : a < 256) (hb : b < 256) (hc : c < 256) (hd : d < 256) (h : ¬ (a = 0 ∧ b = 0 ∧ c = 0 ∧ d = 0)) : rowN 0 (burst k a b c d r) ≠ 0 := by
  intro h0
  unfold burst at h0
  rw [rowN_append, rowN_noughts, turns_zero, rowN_append, rowN_four 0 ha hb hc hd, rowN_noughts, Nat.zero_xor] at h0
  have hl := fourN_lt ha hb hc hd
  exact h (fourN_nought (turns_nought 32 hl (turns_nought _ (turns_lt 32 hl) h0)))
theorem rowN_differs {l : List Nat} {k a b c d r s : Nat} (hlen : l.length = k + 4 + r) (hl : BytN l) (ha : a < 256) (hb : b < 256) (hc : c < 256) (hd : d < 256) (h : ¬ (a = 0 ∧ b = 0 ∧ c = 0 ∧ d = 0)) :
    rowN s (xorL l (burst k a b c d r)) ≠ rowN s l := by
  intro h0
  have e := rowN_xor l (burst k a b c d r) s 0 (by rw [hlen, burst_length]) hl (burst_byt ha hb hc hd)
  rw [Nat.xor_zero, h0] at e
  have h1 := congrArg (fun x => rowN s l ^^^ x) e
  simp only [Nat.xor_self, xor_self_mid] at h1
  exact rowN_burst ha hb hc hd h h1.symm
/-- Within four bytes side by side alone: the sums are not the same. -/
theorem sumN_differs {l : List Nat} {k a b c d r : Nat} (hlen : l.length = k + 4 + r) (hl : BytN l) (ha : a < 256) (hb : b < 256) (hc : c < 256) (hd : d < 256) (h : ¬ (a = 0 ∧ b = 0 ∧ c = 0 ∧ d = 0)) :
    sumN (xorL l (burst k a b c d r)) ≠ sumN l := fun h0 =>
  rowN_differs hlen hl ha hb hc hd h (notN_same (rowN_lt _ (notN_lt 0)) (rowN_lt _ (notN_lt 0)) h0)
/-- A sum's four bytes. -/
def bytesN (s : Nat) : List Nat := [s % 256, s / 256 % 256, s / 65536 % 256, s / 16777216]
theorem bytesN_four {s : Nat} : fourN (s % 256) (s / 256 % 256) (s / 65536 % 256) (s / 16777216) = s := by unfold fourN; omega
/-- Behind a row and its sum's four bytes there is always one and the same; and behind no other four bytes. -/
theorem rowN_sum (l : List Nat) : rowN (notN 0) (l ++ bytesN (sumN l)) = turns 32 4294967295 := by
  have hlt : sumN l < 4294967296 := nextN_lt 0 l
  rw [rowN_append]
  unfold bytesN
  rw [rowN_four _ (by omega) (by omega) (by omega) (by omega), bytesN_four]
  congr 1
  unfold sumN nextN
  rw [notN_xor (rowN_lt l (notN_lt 0)), xor_self_mid]
theorem take_differs {l : List Nat} {n k a b c d r : Nat} (hn : l.length = n) (hlen : n + 4 = k + 4 + r) (hl : BytN l) (ha : a < 256) (hb : b < 256) (hc : c < 256) (hd : d < 256) (h : ¬ (a = 0 ∧ b = 0 ∧ c = 0 ∧ d = 0)) :
    (xorL (l ++ bytesN (sumN l)) (burst k a b c d r)).drop n ≠ bytesN (sumN ((xorL (l ++ bytesN (sumN l)) (burst k a b c d r)).take n)) := by
  intro h0
  have hb4 : BytN (bytesN (sumN l)) := by
    have hlt : sumN l < 4294967296 := nextN_lt 0 l
    intro x hx
    simp [bytesN] at hx
    omega
  have h1 : (l ++ bytesN (sumN l)).length = k + 4 + r := by rw [List.length_append, hn]; exact hlen
  have h2 := rowN_differs (s := notN 0) h1 (fun x hx => by
    rcases List.mem_append.1 hx with h | h
    · exact hl x h
    · exact hb4 x h) ha hb hc hd h
  rw [rowN_sum] at h2
  refine h2 ?_
  have h3 := rowN_sum ((xorL (l ++ bytesN (sumN l)) (burst k a b c d r)).take n)
  rw [← h0, List.take_append_drop] at h3
  exact h3
end Go.Proofs.YtafeadplmcoilaaDoor.Cr

namespace Go.Proofs.YtafeadplmcoilaaDoor.Cr
open Go.RowKit

theorem u32_nat (a : Nat) (ha : a < 4294967296) : (BitVec.ofInt 32 (a : Int)).toNat = a := by
  rw [BitVec.ofInt_natCast, BitVec.toNat_ofNat]
  omega
theorem u32_xor_nat (a b : Nat) (ha : a < 4294967296) (hb : b < 4294967296) : bits .xor .u32 (a : Int) (b : Int) = ((a ^^^ b : Nat) : Int) := by
  have hx : a ^^^ b < 4294967296 := Nat.xor_lt_two_pow (n := 32) ha hb
  show IntKind.u32.wrap ((BitVec.ofInt 32 (a : Int) ^^^ BitVec.ofInt 32 (b : Int)).toNat : Int) = _
  rw [BitVec.toNat_xor, u32_nat a ha, u32_nat b hb, IntKind.wrap_u32]
  omega
theorem u32_xor {x y : Int} (hx : 0 ≤ x ∧ x < 4294967296) (hy : 0 ≤ y ∧ y < 4294967296) : ∃ z : Int, bits .xor .u32 x y = z ∧ (0 ≤ z ∧ z < 4294967296) ∧ z.toNat = x.toNat ^^^ y.toNat := by
  have e := u32_xor_nat x.toNat y.toNat (by omega) (by omega)
  rw [show ((x.toNat : Nat) : Int) = x by omega, show ((y.toNat : Nat) : Int) = y by omega] at e
  have hlt : x.toNat ^^^ y.toNat < 4294967296 := Nat.xor_lt_two_pow (n := 32) (by omega) (by omega)
  exact ⟨_, e, by omega, by omega⟩
/-- A sum, as a value. -/
def sumV (n : Nat) : Value := .int .u32 (n : Int)
def Is32 (x : Int) (n : Nat) : Prop := (0 ≤ x ∧ x < 4294967296) ∧ x.toNat = n
theorem turns_succ (k s : Nat) : turns (k + 1) s = turn (turns k s) := by rw [turns_add]; rfl

set_option maxRecDepth 100000 in
set_option maxHeartbeats 400000 in
theorem rstep_any (s h : Int) (w : World) (hs : 0 ≤ s ∧ s < 4294967296) (hh : 0 ≤ h ∧ h ≤ 255) :
    Calls Tryd.prog 74 #[.int .u32 s, .int .u8 h] w fun e w' => (∃ x, e = .returned (.int .u32 x) ∧ Is32 x (stepN s.toNat h.toNat)) ∧ w = w' := by
  obtain ⟨z, hz, hz0, hz1⟩ := u32_xor hs (show 0 ≤ h % 16 ∧ h % 16 < 4294967296 by omega)
  have Hz := Lib.hid (show Is32 z (turns 0 (s.toNat ^^^ h.toNat % 16)) from ⟨hz0, by rw [hz1]; show _ = s.toNat ^^^ h.toNat % 16; congr 1; omega⟩)
  clear hz1
  go_enter Tryd.func74, Tryd.ntmps74
  go_wp2
  go_loop [0, 5] (fun x i => ∃ (k : Nat) (y : Int), k ≤ 4 ∧ i = .int .i64 k ∧ x = .int .u32 y ∧ Is32 y (turns k (s.toNat ^^^ h.toNat % 16))) (fun _ i => 4 - (intOf i).toNat)
  case atStart => exact ⟨0, _, by omega, rfl, rfl, Hz.out⟩
  case round =>
    obtain ⟨k, y, hk, rfl, rfl, ⟨hy0, hy1⟩, hy2⟩ := hrel
    have Hy := Lib.hid hy2
    clear hy2 hz
    by_cases hlt : k < 4
    · obtain ⟨u, hu, hu0, hu1⟩ := u32_xor (show 0 ≤ y / 2 ∧ y / 2 < 4294967296 by omega) (show (0 : Int) ≤ 2197175160 ∧ (2197175160 : Int) < 4294967296 by omega)
      have Hu := Lib.hid hu1
      clear hu1
      by_cases hodd : y % 2 = 1
      · have hd : (y % 2 == 1) = true := by simpa using hodd
        have Ho : Hid (turns (k + 1) (s.toNat ^^^ h.toNat % 16) = u.toNat) := by
          show turns (k + 1) _ = _
          rw [turns_succ, ← Hy.out, Hu.out]
          unfold turn
          rw [if_pos (by omega)]
          congr 1
          omega
        clear hodd
        go_wp2
        go_round
        case rel => exact ⟨k + 1, _, by omega, by go_num, rfl, hu0, Ho.out.symm⟩
        case measure => simp [intOf]; omega
      · have hd : (y % 2 == 1) = false := by simpa using hodd
        have Ho : Hid (turns (k + 1) (s.toNat ^^^ h.toNat % 16) = (y / 2).toNat) := by
          show turns (k + 1) _ = _
          rw [turns_succ, ← Hy.out]
          unfold turn
          rw [if_neg (by omega)]
          omega
        clear hodd
        go_wp2
        go_round
        case rel => exact ⟨k + 1, _, by omega, by go_num, rfl, by omega, Ho.out.symm⟩
        case measure => simp [intOf]; omega
    · obtain rfl : k = 4 := by omega
      go_wp2
      go_ret
      exact ⟨⟨_, rfl, ⟨hy0, hy1⟩, Hy.out⟩, rfl⟩


/-! ### Rows -/
def natL (l : List Int) : List Nat := l.map Int.toNat
theorem natL_byt {l : List Int} (h : Byt l) : BytN (natL l) := fun x hx => by
  obtain ⟨y, hy, rfl⟩ := List.mem_map.1 hx
  have := h y hy
  omega
theorem natL_append (l m : List Int) : natL (l ++ m) = natL l ++ natL m := List.map_append
theorem rowN_snoc (s : Nat) (l : List Nat) (b : Nat) : rowN s (l ++ [b]) = byteN (rowN s l) b := by rw [rowN_append]; rfl
/-- Not, of 32 bits. -/
theorem u32_not {x : Int} (hx : 0 ≤ x ∧ x < 4294967296) : ∃ z, bits .xor .u32 IntKind.u32.max x = z ∧ Is32 z (notN x.toNat) := by
  have h := u32_xor_nat 4294967295 x.toNat (by omega) (by omega)
  rw [show ((x.toNat : Nat) : Int) = x by omega, Nat.xor_comm, ← notN_xor (by omega)] at h
  have hl := notN_lt x.toNat
  exact ⟨_, h, by omega, by omega⟩
theorem rstep_q (s h : Int) (hs : 0 ≤ s ∧ s < 4294967296) (hh : 0 ≤ h ∧ h ≤ 255) :
    ∃ x, Is32 x (stepN s.toNat h.toNat) ∧ ∀ w, Calls Tryd.prog 74 #[.int .u32 s, .int .u8 h] w fun e w' => e = .returned (.int .u32 x) ∧ w' = w := by
  refine ⟨((stepN s.toNat h.toNat : Nat) : Int), ⟨by have := stepN_lt h.toNat (s := s.toNat) (by omega); omega, by omega⟩, fun w => ?_⟩
  refine (rstep_any s h w hs hh).mono fun e w' ⟨⟨x, he, hx⟩, hw⟩ => ⟨?_, hw.symm⟩
  rw [he, show x = ((stepN s.toNat h.toNat : Nat) : Int) by have := hx.1; have := hx.2; omega]

set_option maxRecDepth 100000 in
set_option maxHeartbeats 800000 in
theorem rnext_any (s : Int) (A : Option Addr) (n c : Nat) (l : List Int) (w : World) (hs : 0 ≤ s ∧ s < 4294967296) (hr : Rd w w.heap.size .u8 A n l) (hb : Byt l) (hn : n ≤ 140737488355328) :
    Calls Tryd.prog 67 #[.int .u32 s, .slice A n c] w fun e w' => (∃ x, e = .returned (.int .u32 x) ∧ Is32 x (nextN s.toNat (natL l))) ∧ Below w.heap.size w w' := by
  have Hl := Lib.hid hr.1
  obtain ⟨s0, h0, ⟨s1, s2⟩, s3⟩ := u32_not hs
  have Hs := Lib.hid s3
  clear s3
  go_enter Tryd.func67, Tryd.ntmps67
  go_wp2
  go_loopw [0, 5] (fun x i wr => ∃ (k : Nat) (y : Int), k ≤ n ∧ i = .int .i64 k ∧ x = .int .u32 y ∧ Is32 y (rowN (notN s.toNat) (natL (l.take k))) ∧ Below w.heap.size w wr) (fun _ i _ => n - (intOf i).toNat)
  case atStart => exact ⟨0, _, Nat.zero_le _, rfl, rfl, ⟨⟨s1, s2⟩, Hs.out⟩, Below.refl _ _⟩
  case round =>
    obtain ⟨k, y, hk, rfl, rfl, ⟨hy, hy2⟩, hB⟩ := hrel
    have Hy := Lib.hid hy2
    clear hy2
    by_cases hlt : k < n
    · obtain ⟨b, off, rfl, hbl, hc⟩ := (hr.on hB hB.size).at_ (by omega)
      have hck := hc k hlt
      have hx := hb.at_ k
      have Hsn := Lib.hid (take_snoc (l := l) (k := k) (by rw [Hl.out]; exact hlt))
      clear hc
      obtain ⟨u, hu, hcu⟩ := rstep_q y (l[k]?.getD 0 % 16) hy (by omega)
      obtain ⟨v, hv, hcv⟩ := rstep_q u (l[k]?.getD 0 / 16) hu.1 (by omega)
      have Hv : Hid (Is32 v (rowN (notN s.toNat) (natL (l.take (k + 1))))) := by
        rw [Hsn.out, natL_append, show natL [l[k]?.getD 0] = [(l[k]?.getD 0).toNat] from rfl, rowN_snoc, ← Hy.out]
        have e : byteN y.toNat (l[k]?.getD 0).toNat = stepN u.toNat (l[k]?.getD 0 / 16).toNat := by
          unfold byteN
          rw [hu.2]
          congr 1
          · congr 1; omega
          · omega
        rw [e]
        exact hv
      have Hcu := Lib.hid hcu
      have Hcv := Lib.hid hcv
      have hul := hu.1
      clear hcu hcv hu hv
      go_wp2_with fail
      go_quiet (first | (with_reducible exact Calls.quiet_of_same (Hcu.out _)) | (with_reducible exact Calls.quiet_of_same (Hcv.out _)))
      go_wp2_with fail
      go_roundw
      case rel => exact ⟨k + 1, v, by omega, by go_num, rfl, Hv.out, below_drewN hB _⟩
      case measure => simp [intOf]; omega
    · obtain rfl : k = n := by omega
      have hf : Is32 y (rowN (notN s.toNat) (natL l)) := by
        have h1 := Hy.out
        rw [List.take_of_length_le (by rw [Hl.out]; exact Nat.le_refl _)] at h1
        exact ⟨hy, h1⟩
      obtain ⟨z, hz, z0, z1⟩ := u32_not hy
      have Hf : Hid (Is32 z (nextN s.toNat (natL l))) := ⟨z0, by rw [z1, hf.2]; rfl⟩
      clear hf z1
      go_wp2
      go_ret
      exact ⟨⟨_, rfl, Hf.out⟩, hB⟩

/-- Sums of parts. -/
theorem natL_take {ps : List Part} {k : Nat} {q : Part} (h : ps[k]? = some q) : natL (flat (ps.take (k + 1))) = natL (flat (ps.take k)) ++ natL q.l := by rw [flat_take h, natL_append]

set_option maxRecDepth 100000 in
set_option maxHeartbeats 800000 in
theorem rsum_any (A : Option Addr) (n c : Nat) (ps : List Part) (w : World) (hr : Rds w w.heap.size A n ps) (hn : n ≤ 140737488355328) :
    Calls Tryd.prog 56 #[.slice A n c] w fun e w' => (∃ x, e = .returned (.int .u32 x) ∧ Is32 x (sumN (natL (flat ps)))) ∧ Below w.heap.size w w' := by
  have Hl := Lib.hid hr.len
  go_enter Tryd.func56, Tryd.ntmps56
  go_wp2
  go_loopw [3, 4] (fun x i wr => ∃ (k : Nat) (y : Int), k ≤ n ∧ i = .int .i64 k ∧ x = .int .u32 y ∧ Is32 y (sumN (natL (flat (ps.take k)))) ∧ Below w.heap.size w wr) (fun _ i _ => n - (intOf i).toNat)
  case atStart => exact ⟨0, 0, Nat.zero_le _, rfl, rfl, ⟨by omega, by rw [List.take_zero]; rfl⟩, Below.refl _ _⟩
  case round =>
    obtain ⟨k, y, hk, rfl, rfl, ⟨hy, hy2⟩, hB⟩ := hrel
    have Hy := Lib.hid hy2
    clear hy2
    by_cases hlt : k < n
    · obtain ⟨bl, off, q, rfl, hbl, hq, hc, hrq, hbq, hnq⟩ := (hr.on hB hB.size).at_ hlt
      have Hq := Lib.hid (natL_take hq)
      clear hq
      have hsz := hB.size
      go_wp2_with fail
      refine (rnext_any y _ _ _ q.l _ hy hrq hbq hnq).mono ?_
      rintro e w1 ⟨⟨x, rfl, hx⟩, hb1⟩
      have Hx : Hid (Is32 x (sumN (natL (flat (ps.take (k + 1)))))) := by
        rw [Hq.out]
        unfold sumN
        rw [nextN_append]
        rw [Hy.out] at hx
        exact hx
      clear hx
      go_wp2_with fail
      go_roundw
      case rel => exact ⟨k + 1, x, by omega, by go_num, rfl, Hx.out, hB.trans (hb1.mono hsz)⟩
      case measure => simp [intOf]; omega
    · obtain rfl : k = n := by omega
      have hf : Is32 y (sumN (natL (flat ps))) := by
        have h1 := Hy.out
        rw [List.take_of_length_le (by rw [Hl.out]; exact Nat.le_refl _)] at h1
        exact ⟨hy, h1⟩
      have Hf := Lib.hid hf
      clear hf
      go_wp2
      go_ret
      exact ⟨⟨_, rfl, Hf.out⟩, hB⟩

/-- A sum's four bytes, as whole numbers. -/
def fourI (s : Int) : List Int := [s % 256, s / 256 % 256, s / 65536 % 256, s / 16777216]

set_option maxRecDepth 100000 in
set_option maxHeartbeats 400000 in
theorem rfour_any (s : Int) (w : World) (hs : 0 ≤ s ∧ s < 4294967296) :
    Calls Tryd.prog 55 #[.int .u32 s] w fun e w' => e = .returned (.agg #[.int .u8 (s % 256), .int .u8 (s / 256 % 256), .int .u8 (s / 65536 % 256), .int .u8 (s / 16777216)]) ∧ Below w.heap.size w w' := by
  go_enter Tryd.func55, Tryd.ntmps55
  go_wp2
  exact bodyPost_ret (v := .agg #[.int .u8 (s % 256), .int .u8 (s / 256 % 256), .int .u8 (s / 65536 % 256), .int .u8 (s / 16777216)]) (by simp [results, Tryd.results55, go_sem]) rfl ⟨rfl, (Below.refl _ _).alloc (Nat.le_refl _) _⟩
end Go.Proofs.YtafeadplmcoilaaDoor.Cr

namespace Go.Proofs.YtafeadplmcoilaaDoor.Cr
open Go.RowKit

/-- The text that bytes make. -/
def txt (l : List Int) : ByteArray := ⟨(l.map fun n => UInt8.ofNat n.toNat).toArray⟩
theorem txt_push (ns : List Int) : ∀ s : ByteArray, ns.foldl (fun r n => r.push (UInt8.ofNat n.toNat)) s = ⟨s.data ++ (ns.map fun n => UInt8.ofNat n.toNat).toArray⟩ := by
  induction ns with
  | nil => intro s; simp
  | cons n ns ih =>
    intro s
    rw [List.foldl_cons, ih]
    cases s
    simp [ByteArray.push]
theorem txt_eq {l m : List Int} (hl : Byt l) (hm : Byt m) : txt l = txt m ↔ l = m := by
  constructor
  · intro h
    simp only [txt, ByteArray.mk.injEq] at h
    replace h := congrArg Array.toList h
    simp only at h
    have key : ∀ (l m : List Int), Byt l → Byt m → (l.map fun n => UInt8.ofNat n.toNat) = (m.map fun n => UInt8.ofNat n.toNat) → l = m := by
      intro l
      induction l with
      | nil => intro m _ _ h; simpa using h.symm
      | cons a l ih =>
        intro m hl hm h
        cases m with
        | nil => simp at h
        | cons b m =>
          simp only [List.map_cons, List.cons.injEq] at h
          have ha := hl a (by simp)
          have hb := hm b (by simp)
          have h1 : (UInt8.ofNat a.toNat).toNat = (UInt8.ofNat b.toNat).toNat := by rw [h.1]
          rw [UInt8.toNat_ofNat_of_lt' (by simp [UInt8.size]; omega), UInt8.toNat_ofNat_of_lt' (by simp [UInt8.size]; omega)] at h1
          rw [ih m (fun x hx => hl x (by simp [hx])) (fun x hx => hm x (by simp [hx])) h.2]
          congr 1
          omega
    exact key l m hl hm h
  · rintro rfl; rfl
/-- A slice that is read makes its bytes' text. -/
theorem run_txt {P : Program} {w : World} {B n c : Nat} {A : Option Addr} {l : List Int} (src dst e : TypeId)
    (hs : P.underlying src = some (.slice e)) (he : P.underlying e = some (.int .u8)) (hd : P.underlying dst = some .string) (hr : Rd w B .u8 A n l) :
    (convert src dst (.slice A n c)).run P w = .ok (.string (txt l)) w := by
  rw [run_convert_bytes_string w src dst e A n c hs he hd]
  rcases A with _ | a
  · obtain ⟨rfl, rfl⟩ := hr.none_
    rfl
  · have h := run_loadCells_list (P := P) (w := w) a (l.map (Value.int .u8)) hr.cells
    rw [List.length_map, hr.1] at h
    rw [run_bytesToString w a n c l h, txt_push]
    simp [txt]

/-- Whether two rows are the same. -/
def eqB (l m : List Int) : Bool := decide (l = m)
theorem eqB_true {l m : List Int} (h : l = m) : eqB l m = true := decide_eq_true h
theorem eqB_iff {l m : List Int} : eqB l m = true ↔ l = m := by simp [eqB]
theorem txt_beq {l m : List Int} (hl : Byt l) (hm : Byt m) : ((txt l).toList == (txt m).toList) = eqB l m := by
  rw [ByteArray.toList_eq, ByteArray.toList_eq, Bool.eq_iff_iff, beq_iff_eq, eqB_iff, ← txt_eq hl hm]
  exact ⟨fun h => Go.WideShapes.bytes_inj h, fun h => by rw [h]⟩
end Go.Proofs.YtafeadplmcoilaaDoor.Cr

namespace Go.Proofs.YtafeadplmcoilaaDoor.Cr
open Go.RowKit

theorem fourI_four {x : Int} (h : 0 ≤ x ∧ x < 4294967296) : natL (fourI x) = bytesN x.toNat := by
  unfold natL fourI bytesN
  simp only [List.map_cons, List.map_nil, List.cons.injEq, and_true]
  omega
theorem fourI_byt {x : Int} (h : 0 ≤ x ∧ x < 4294967296) : Byt (fourI x) := by
  intro y hy
  simp [fourI] at hy
  omega
/-- An append that is a region's step, of a slice that is read. -/
theorem step_append_rd {P : Program} {w : World} {base B : Nat} {e : TypeId} {i : TypeInfo} {z : Value} {bytes n m c : Nat} {v : Value} {xs : List Value} {A : Option Addr} {R : List Int} {k : IntKind}
    {ops : Array Oper} {o : Oper} {a : Act} {K : Act → World → Prop} {Q : Exit → Act → World → Prop} {E : Prop} (s x : Operand) (t : TypeId) (hgd : o.guard = none)
    (ho : o.op = .call { callee := .builtin .append, args := #[s, x], argTypes := #[t, t] })
    (ht : P.underlying t = some (.slice e)) (hi : P.info? e = some i) (hz : i.zero = some z) (h1 : i.size = 1) (h2 : i.bytes = bytes) (hzs : z.cells.size = 1)
    (hs : a.eval s = v) (hx : a.eval x = .slice A m c) (hown : w.ownsRow base e 1 v n xs) (hr : Rd w B k A m R) (b1 : n + m ≤ maxLen) (b2 : (n + m) * bytes ≤ 140737488355328) (b3 : base ≤ w.heap.size)
    (h : ∀ v' w', Longer base e w v (n + m) (xs ++ R.map (Value.int k)) v' w' → K (a.put o.dst v') w') :
    if Region.wanted o (yielded ops a.tmps) = true then Oper.wp P o a w K Q else E := by
  have hw : Region.wanted o (yielded ops a.tmps) = true := by simp [Region.wanted, hgd]
  rw [if_pos hw]
  exact wp_append_rd s x t ht hi hz h1 h2 hzs hown hr b1 b2 b3 ho hs hx h

/-- Where an appended row lies: where it lay, or in a new block. -/
theorem Longer.new {base B : Nat} {e : TypeId} {w w' : World} {v v' : Value} {n : Nat} {xs : List Value} (h : Longer base e w v n xs v' w') (hv : ∀ g, v.ownBlock = some g → B ≤ g) (hB : B ≤ w.heap.size) : ∀ g, v'.ownBlock = some g → B ≤ g := by
  intro g hg
  rcases h.2.2 with e1 | e1
  · exact hv g (by rw [← e1]; exact hg)
  · rw [e1] at hg
    have := Option.some.inj hg
    omega

set_option maxRecDepth 100000 in
set_option maxHeartbeats 1000000 in
theorem rput_any (A : Option Addr) (n c : Nat) (l : List Int) (w : World) (hr : Rd w w.heap.size .u8 A n l) (hb : Byt l) (hn : n ≤ 1048576) :
    Calls Tryd.prog 33 #[.slice A n c] w fun e w' => (∃ x A' c', Is32 x (sumN (natL l)) ∧ e = .returned (.slice A' (n + 4) c') ∧ n + 4 ≤ c' ∧ Rd w' w'.heap.size .u8 A' (n + 4) (l ++ fourI x)) ∧ Below w.heap.size w w' := by
  obtain ⟨i0, hi, hz0, hz1, hz2⟩ := info_parts info_u8
  go_enter Tryd.func33, Tryd.ntmps33
  go_wp2_with fail
  refine (rsum_any _ 1 1 [⟨A, n, c, l⟩] _ (Rds.made w _ [⟨A, n, c, l⟩] rfl (fun q hq => by
    obtain rfl := List.mem_singleton.1 hq
    exact ⟨hr, hb, by simp only; omega⟩)) (by omega)).mono ?_
  rintro e w1 ⟨⟨x, rfl, hx⟩, hb1⟩
  have hB : Below w.heap.size w w1 := ((Below.refl _ w).alloc (Nat.le_refl _) _).trans (hb1.mono (by simp))
  rw [flat_cons, flat_nil, List.append_nil] at hx
  have Hx := Lib.hid hx
  have hx0 := hx.1
  clear hx hb1
  have hsz := hB.size
  go_wp2_with fail
  refine (rfour_any x _ hx0).mono ?_
  rintro e w2 ⟨rfl, hb2⟩
  replace hB : Below w.heap.size w w2 := hB.trans (hb2.mono hsz)
  clear hb2 hsz
  have hsz := hB.size
  go_wp2_with fail
  obtain ⟨g, hg⟩ : ∃ g, g = w2.heap.size := ⟨_, rfl⟩
  obtain ⟨w3, hw3⟩ : ∃ w3, w3 = w2.alloc (.cells #[.int .u8 (x % 256), .int .u8 (x / 256 % 256), .int .u8 (x / 65536 % 256), .int .u8 (x / 16777216)] 84) := ⟨_, rfl⟩
  have hq3 : Rd w3 w3.heap.size .u8 (some ⟨g, 0, none⟩) 4 (fourI x) := by rw [hw3]; exact Rd.made w2 .u8 84 (fourI x) hg
  have hB3 : Below w.heap.size w w3 := by rw [hw3]; exact hB.alloc hsz _
  have hr3 : Rd w3 w3.heap.size .u8 A n l := hr.on hB3 hB3.size
  rw [← hw3, ← hg]
  clear hw3 hg hB hsz
  go_region_held3 (fun W => Below w3.heap.size w3 W)
    (first | assumption | exact Below.refl _ _ | exact (Below.refl _ _).drew | exact (Below.refl _ w3).alloc (Nat.le_refl _) _ | exact ((Below.refl _ w3).alloc (Nat.le_refl _) _).drew)
    (first
      | ((refine step_append_rd (.tmp 8) (.tmp 9) 27 (by rfl) (by rfl) Tryd.underlying27 hi hz0 hz1 hz2 byte_cells (by rfl) (by rfl) ((own_empty w3 w3.heap.size 5 (Nat.le_refl _)).drew) (hr3.below (((Below.refl _ w3).alloc (Nat.le_refl _) _).drew)) (by unfold maxLen; omega) (by omega) (by simp) ?_; intro v1 w4 L3; have hS4 : Below w3.heap.size w3 w4 := L3.below (((Below.refl _ w3).alloc (Nat.le_refl _) _).drew) (by simp) (fun g hg => by simp [Value.ownBlock] at hg; omega)))
      | ((refine step_append_rd (.tmp 10) (.tmp 11) 27 (by rfl) (by rfl) Tryd.underlying27 hi hz0 hz1 hz2 byte_cells (by rfl) (by rfl) L3.1 (hq3.below hS4) (by unfold maxLen; omega) (by omega) hS4.size ?_; intro v2 w5 L4; have hS5 : Below w3.heap.size w3 w5 := L4.below hS4 hS4.size (L3.new (fun g hg => by simp [Value.ownBlock] at hg; omega) (by simp)))))
  have own := L4.1
  rw [Nat.zero_add, List.nil_append, ← List.map_append] at own
  obtain ⟨A', c', rfl, hc', hr'⟩ := own_rd own
  clear L3 L4 own
  go_wp2
  go_ret
  exact ⟨⟨x, A', c', Hx.out, rfl, hc', hr'⟩, hB3.trans (hS5.mono hB3.size)⟩


/-- A row's sum. -/
def sumI (l : List Int) : Int := ((sumN (natL l) : Nat) : Int)
theorem sumI_range (l : List Int) : 0 ≤ sumI l ∧ sumI l < 4294967296 := by
  have := nextN_lt 0 (natL l)
  unfold sumI sumN
  omega
theorem Is32.sum {x : Int} {l : List Int} (h : Is32 x (sumN (natL l))) : x = sumI l := by
  have h1 := h.1
  have h2 := h.2
  unfold sumI
  omega
/-- Are a row's last four bytes those of the sum of what stands ahead? -/
def okB (l : List Int) : Bool := decide (4 ≤ l.length) && eqB (l.take (l.length - 4) ++ fourI (sumI (l.take (l.length - 4)))) l
/-- What Take answers. -/
def TakeOut (l : List Int) (e : Ending) (w' : World) : Prop :=
  (okB l = false ∧ e = .returned (.tuple #[.slice none 0 0, .bool false])) ∨
  (okB l = true ∧ ∃ A c, e = .returned (.tuple #[.slice A (l.length - 4) c, .bool true]) ∧ l.length - 4 ≤ c ∧ Rd w' w'.heap.size .u8 A (l.length - 4) (l.take (l.length - 4)))

set_option maxRecDepth 100000 in
set_option maxHeartbeats 1000000 in
theorem rtake_few (A : Option Addr) (n c : Nat) (w : World) (h : n < 4) :
    Calls Tryd.prog 36 #[.slice A n c] w fun e w' => e = .returned (.tuple #[.slice none 0 0, .bool false]) ∧ Below w.heap.size w w' := by
  have hd : decide ((n : Int) - 4 < 0) = true := by simp; omega
  go_enter Tryd.func36, Tryd.ntmps36
  go_wp2_with fail
  go_quiet (fail)
  go_wp2
  go_ret2
  exact ⟨rfl, below_drewN (Below.refl _ _) _⟩

set_option maxRecDepth 100000 in
set_option maxHeartbeats 1000000 in
theorem rtake_in (A : Option Addr) (n c : Nat) (l : List Int) (w : World) (hr : Rd w w.heap.size .u8 A n l) (hb : Byt l) (hnc : n ≤ c) (hn : 4 ≤ n ∧ n ≤ 1048576) :
    Calls Tryd.prog 36 #[.slice A n c] w fun e w' => TakeOut l e w' ∧ Below w.heap.size w w' := by
  obtain ⟨i0, hi, hz0, hz1, hz2⟩ := info_parts info_u8
  have hd : decide ((n : Int) - 4 < 0) = false := by simp; omega
  obtain ⟨k, hk⟩ : ∃ k : Nat, (n : Int) - 4 = (k : Int) := ⟨n - 4, by omega⟩
  have hkn : k ≤ n := by omega
  have hkc : (k : Int) ≤ (c : Int) := by omega
  have hk0 : (0 : Int) ≤ (k : Int) := Int.natCast_nonneg _
  have Hk := Lib.hid hk
  have hc0 : ∀ W, Below w.heap.size w W → (convert 27 9 (.slice A n c)).run Tryd.prog W = .ok (.string (txt l)) W := fun W hW =>
    run_txt 27 9 5 Tryd.underlying27 Tryd.underlying5 Tryd.underlying9 (hr.below hW)
  go_enter Tryd.func36, Tryd.ntmps36
  go_wp2_with fail
  go_region_held (fun W => Below w.heap.size w W)
    (first | assumption | exact Below.refl _ _ | exact (Below.refl _ _).drew)
    (first
      | (go_at_call 33; refine (rput_any A k c (l.take k) _ ((hr.below (Below.refl _ w).drew).first hkn) (hb.take k) (by omega)).mono ?_; rintro e w4 ⟨⟨x, A', c', hx, rfl, hc', hr'⟩, hb4⟩; have hS4 : Below w.heap.size w w4 := (Below.refl _ w).drew.trans hb4; have hc4 := run_txt (P := Tryd.prog) (c := c') 27 9 5 Tryd.underlying27 Tryd.underlying5 Tryd.underlying9 hr'))
  obtain rfl : x = sumI (l.take k) := hx.sum
  have Ht := Lib.hid (txt_beq ((hb.take k).append (fourI_byt hx.1)) hb)
  have Hkl := Lib.hid (show l.length - 4 = k by have := hr.1; omega)
  have H4 := Lib.hid (show decide (4 ≤ l.length) = true by rw [hr.1]; simp; omega)
  clear hb4 hc4 hc0 hx hr' hk
  have hkf : decide ((k : Int) < 0) = false := by simp
  obtain ⟨bv, hbv⟩ : ∃ bv, ((txt (l.take k ++ fourI (sumI (l.take k)))).toList == (txt l).toList) = bv := ⟨_, rfl⟩
  rw [hbv, hkf]
  have heq : eqB (l.take k ++ fourI (sumI (l.take k))) l = bv := by rw [← Ht.out, hbv]
  clear hbv hkf
  cases bv
  · have Hf : Hid (okB l = false) := by unfold okB; rw [Hkl.out, H4.out, heq]; rfl
    clear heq
    go_wp2
    go_ret2
    exact ⟨.inl ⟨Hf.out, rfl⟩, hS4⟩
  · have Hf : Hid (okB l = true) := by unfold okB; rw [Hkl.out, H4.out, heq]; rfl
    clear heq
    have hsz := hS4.size
    go_wp2_with (at_builtin; refine hold ?_)
    refine unhold (wpList_append_rdg (.tmp 20) (.tmp 23) 27 Tryd.underlying27 hi hz0 hz1 hz2 byte_cells (own_empty w4 w4.heap.size 5 (Nat.le_refl _)) (((hr.on hS4 hsz).below ((Below.refl _ w4).alloc (Nat.le_refl _) _)).first hkn) (by unfold maxLen; omega) (by omega) (by simp) rfl rfl rfl rfl ?_)
    intro v1 w5 L3
    have hb5 : Below w4.heap.size w4 w5 := L3.below ((Below.refl _ w4).alloc (Nat.le_refl _) _) (by simp) (fun g hg => by simp [Value.ownBlock] at hg; omega)
    have own := L3.1
    rw [Nat.zero_add, List.nil_append] at own
    obtain ⟨A', c', rfl, hc', hr'⟩ := own_rd own
    clear L3 own
    go_wp2_with fail
    go_ret2
    exact ⟨.inr ⟨Hf.out, A', c', by rw [Hkl.out]; rfl, by rw [Hkl.out]; exact hc', by rw [Hkl.out]; exact hr'⟩, hS4.trans (hb5.mono hsz)⟩
end Go.Proofs.YtafeadplmcoilaaDoor.Cr

