/-
  What a literal, a make, a call with parts written out leaves in memory.
-/
import Derived.Test.YtcpdjhkpmaamdaaGreatParts
import Derived.OwnWalk
import Derived.Laws.OwnMore
import Derived.RangeFuncBox
namespace Go.Proofs.YtcpdjhkpmaamdaaGreat
open Go.RowKit

/-- The slice of slices that a literal, or a call with parts written out, makes. -/
theorem Rds.made (w : World) (t : TypeId) (ps : List Part) {g : Nat} (hg : g = w.heap.size) (h : ∀ p ∈ ps, Rd w w.heap.size .u8 p.A p.n p.l ∧ Byt p.l ∧ p.n ≤ 140737488355328) :
    Rds (w.alloc (.cells (ps.map Part.v).toArray t)) (w.alloc (.cells (ps.map Part.v).toArray t)).heap.size (some ⟨g, 0, none⟩) ps.length ps where
  len := rfl
  row := fun _ => ⟨g, 0, rfl, by subst hg; simp, fun i hi => by
    subst hg
    rw [cell_of_row _ _ _ _ _ _ (World.alloc_heap_new w _)]
    simp [hi]⟩
  parts := fun p hp => ⟨(h p hp).1.on ((Below.refl _ w).alloc (Nat.le_refl _) _) (by simp), (h p hp).2⟩
theorem Rds.none_ (w : World) (B : Nat) : Rds w B none 0 [] where
  len := rfl
  row := fun h => absurd h (by omega)
  parts := fun p hp => by cases hp
/-- The slice that a literal makes. -/
theorem Rd.made (w : World) (k : IntKind) (t : TypeId) (l : List Int) {g : Nat} (hg : g = w.heap.size) : Rd (w.alloc (.cells (l.map (Value.int k)).toArray t)) (w.alloc (.cells (l.map (Value.int k)).toArray t)).heap.size k (some ⟨g, 0, none⟩) l.length l := by
  subst hg
  refine ⟨rfl, fun _ => ⟨w.heap.size, 0, rfl, by simp, fun i hi => ?_⟩⟩
  rw [cell_of_row _ _ _ _ _ _ (World.alloc_heap_new w _)]
  simp [hi]

/-- .. of a constant text: its row bears the run-time's mark behind its last cell. -/
theorem Rd.const (w : World) (k : IntKind) (t : TypeId) (l : List Int) (fr : Nat × Nat) {g : Nat} (hg : g = w.heap.size) : Rd (w.alloc (.cells (l.map (Value.int k)).toArray t fr)) (w.alloc (.cells (l.map (Value.int k)).toArray t fr)).heap.size k (some ⟨g, 0, none⟩) l.length l := by
  subst hg
  refine ⟨rfl, fun _ => ⟨w.heap.size, 0, rfl, by simp, fun i hi => ?_⟩⟩
  rw [cell_of_row _ _ _ _ _ _ (World.alloc_heap_new w _)]
  simp [hi]
/-- The walk stops at a goal that is held. -/
theorem hold {p : Prop} (h : Hid p) : p := h
theorem unhold {p : Prop} (h : p) : Hid p := h
theorem made_list (n : Nat) : (madeCells (Value.int .u8 0).cells (n * 1)).toList = (List.replicate n (0 : Int)).map (Value.int .u8) := by
  have h : (Value.int .u8 0).cells = #[.int .u8 0] := rfl
  rw [h, Nat.mul_one, toList_madeCells_one, List.map_replicate]
/-- 'make' of n noughts. -/
theorem wpList_make_noughts {P : Program} {w : World} {ops : Array Oper} {rest : List Oper} {o : Oper} {a : Act} {Q : Exit → Act → World → Prop} {t e : TypeId} {i : TypeInfo} {kl kc : IntKind} {n : Nat}
    (hg : o.guard = none) (l c : Operand) (hop : o.op = Op.makeSlice t l c) (h1 : P.underlying t = some (.slice e)) (h2 : P.info? e = some i) (h3 : i.zero = some (.int .u8 0)) (h4 : i.size = 1) (h5 : i.bytes = 1)
    (hl : a.eval l = .int kl n) (hc : a.eval c = .int kc n) (b2 : n ≤ 1048576)
    (hK : ∀ w', Rd w' w'.heap.size .u8 (some ⟨w.heap.size, 0, none⟩) n (List.replicate n 0) → Below w.heap.size w w' → wpList P ops Q rest (a.put o.dst (.slice (some ⟨w.heap.size, 0, none⟩) n n)) w') :
    wpList P ops Q (o :: rest) a w := by
  refine wpList_plain hg fun K hK' => ?_
  obtain ⟨w', hrun, r1, r2⟩ := run_makeSlice_full (P := P) w w.heap.size t e i _ 1 h1 h2 h3 h4 kl kc n (by omega) (by rw [h5]; omega) (by unfold maxLen; omega) (Nat.le_refl _)
  rw [made_list] at r1
  unfold Oper.wp
  simp [execOp, hop, hl, hc, hrun, Result.andThen]
  exact hK' _ _ (hK w' (Rd.of_own r1) ((Below.refl _ w).grown r2 (Nat.le_refl _) (fun k e => by cases e)))

end Go.Proofs.YtcpdjhkpmaamdaaGreat
