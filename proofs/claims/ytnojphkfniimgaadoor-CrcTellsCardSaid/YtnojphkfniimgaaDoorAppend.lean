/-
  append onto a row of the call's own, of a slice that is read, nil or not.
-/
import Derived.Test.YtnojphkfniimgaaDoorMade
import Derived.Laws.OwnMore
import Derived.OwnWalk
import Derived.RegionTactic
import Derived.OpenShut
namespace Go.Proofs.YtnojphkfniimgaaDoor
open Go.RowKit

section
variable {P : Program} {w : World} {base B : Nat} {t ty e : TypeId} {i : TypeInfo} {z : Value} {bytes n m c : Nat} {v : Value} {xs : List Value} {A : Option Addr} {R : List Int} {k : IntKind}

/-- What append leaves: a row of the call's own that has both, and a world in which no other block has turned. -/
def Longer (base : Nat) (e : TypeId) (w : World) (v : Value) (n : Nat) (xs : List Value) (v' : Value) (w' : World) : Prop :=
  w'.ownsRow base e 1 v' n xs ∧ w.grownBy w' v.ownBlock ∧ (v'.ownBlock = v.ownBlock ∨ v'.ownBlock = some w.heap.size)

theorem run_append_rd (ht : P.underlying t = some (.slice e)) (hi : P.info? e = some i) (hz : i.zero = some z) (h1 : i.size = 1) (h2 : i.bytes = bytes) (hzs : z.cells.size = 1)
    (hown : w.ownsRow base e 1 v n xs) (hr : Rd w B k A m R) (b1 : n + m ≤ maxLen) (b2 : (n + m) * bytes ≤ 140737488355328) (b3 : base ≤ w.heap.size) :
    ∃ v' w', (Builtin.append_ #[t, t] ty #[v, .slice A m c]).run P w = .ok v' w' ∧ Longer base e w v (n + m) (xs ++ R.map (Value.int k)) v' w' := by
  rcases A with _ | a
  · obtain ⟨rfl, rfl⟩ := hr.none_
    refine ⟨v, w, ?_, by simpa using hown, World.grownBy.refl w _, .inl rfl⟩
    rcases hown.2 with ⟨rfl, rfl⟩ | ⟨g, cap, cur, rfl, _, _, hnc, _⟩
    · simp [Builtin.append_, run_underlying ht, sizeOf, typeInfo, hi, Builtin.lenOf, Builtin.firstCells]
    · simp [Builtin.append_, run_underlying ht, sizeOf, typeInfo, hi, Builtin.lenOf, Builtin.firstCells, hnc, storeCells]
  · obtain ⟨v', w', hrun, r1, r2, _, r3⟩ := run_append_own_at (P := P) w base t ty e i z 1 bytes ht hi hz h1 h2 hzs (by omega) v n xs hown a m c (R.map (Value.int k)) (by simp [hr.1]) hr.cells
      (fun u hu => by obtain ⟨x, _, rfl⟩ := List.mem_map.1 hu; rfl) b1 b2 b3
    exact ⟨v', w', hrun, r1, r2, r3⟩

theorem wp_append_rd {o : Oper} {a : Act} {K : Act → World → Prop} {Q : Exit → Act → World → Prop} (s x : Operand) (t : TypeId)
    (ht : P.underlying t = some (.slice e)) (hi : P.info? e = some i) (hz : i.zero = some z) (h1 : i.size = 1) (h2 : i.bytes = bytes) (hzs : z.cells.size = 1)
    (hown : w.ownsRow base e 1 v n xs) (hr : Rd w B k A m R) (b1 : n + m ≤ maxLen) (b2 : (n + m) * bytes ≤ 140737488355328) (b3 : base ≤ w.heap.size)
    (ho : o.op = .call { callee := .builtin .append, args := #[s, x], argTypes := #[t, t] }) (hs : a.eval s = v) (hx : a.eval x = .slice A m c)
    (h : ∀ v' w', Longer base e w v (n + m) (xs ++ R.map (Value.int k)) v' w' → K (a.put o.dst v') w') : o.wp P a w K Q := by
  obtain ⟨v', w', hrun, h2⟩ := run_append_rd (c := c) (ty := o.type) ht hi hz h1 h2 hzs hown hr b1 b2 b3
  unfold Oper.wp execOp
  simp only [ho, resolve, invoke, builtin, Sem.run_bind, Sem.run_pure, Result.andThen_ok, List.map_toArray, List.map_cons, List.map_nil, hs, hx, hrun]
  exact h v' w' h2
theorem wpList_append_rd {ops : Array Oper} {rest : List Oper} {o : Oper} {a : Act} {Q : Exit → Act → World → Prop} (s x : Operand) (t : TypeId)
    (ht : P.underlying t = some (.slice e)) (hi : P.info? e = some i) (hz : i.zero = some z) (h1 : i.size = 1) (h2 : i.bytes = bytes) (hzs : z.cells.size = 1)
    (hown : w.ownsRow base e 1 v n xs) (hr : Rd w B k A m R) (b1 : n + m ≤ maxLen) (b2 : (n + m) * bytes ≤ 140737488355328) (b3 : base ≤ w.heap.size)
    (hgd : o.guard = none) (ho : o.op = .call { callee := .builtin .append, args := #[s, x], argTypes := #[t, t] }) (hs : a.eval s = v) (hx : a.eval x = .slice A m c)
    (h : ∀ v' w', Longer base e w v (n + m) (xs ++ R.map (Value.int k)) v' w' → wpList P ops Q rest (a.put o.dst v') w') : wpList P ops Q (o :: rest) a w :=
  wpList_plain hgd fun _ hK => wp_append_rd s x t ht hi hz h1 h2 hzs hown hr b1 b2 b3 ho hs hx fun v' w' h' => hK _ _ (h v' w' h')
theorem wpList_append_rdg {ops : Array Oper} {rest : List Oper} {o : Oper} {a : Act} {Q : Exit → Act → World → Prop} (s x : Operand) (t : TypeId)
    (ht : P.underlying t = some (.slice e)) (hi : P.info? e = some i) (hz : i.zero = some z) (h1 : i.size = 1) (h2 : i.bytes = bytes) (hzs : z.cells.size = 1)
    (hown : w.ownsRow base e 1 v n xs) (hr : Rd w B k A m R) (b1 : n + m ≤ maxLen) (b2 : (n + m) * bytes ≤ 140737488355328) (b3 : base ≤ w.heap.size)
    (hw : Region.wanted o (yielded ops a.tmps) = true) (ho : o.op = .call { callee := .builtin .append, args := #[s, x], argTypes := #[t, t] }) (hs : a.eval s = v) (hx : a.eval x = .slice A m c)
    (h : ∀ v' w', Longer base e w v (n + m) (xs ++ R.map (Value.int k)) v' w' → wpList P ops Q rest (a.put o.dst v') w') : wpList P ops Q (o :: rest) a w :=
  BigFrame.wpList_want hw fun _ hK => wp_append_rd s x t ht hi hz h1 h2 hzs hown hr b1 b2 b3 ho hs hx fun v' w' h' => hK _ _ (h v' w' h')
end

theorem byte_cells : (Value.int .u8 0).cells.size = 1 := rfl
/-- A row that is made empty, ahead of an append onto it. -/
theorem own_empty (w : World) (base : Nat) (e : TypeId) (h : base ≤ w.heap.size) : (w.alloc (.cells #[] e)).ownsRow base e 1 (.slice (some ⟨w.heap.size, 0, none⟩) 0 0) 0 [] :=
  World.ownsRow_made w #[] 0 h (Nat.zero_le _) rfl
theorem Longer.below {base B : Nat} {e : TypeId} {w0 w w' : World} {v v' : Value} {n : Nat} {xs : List Value} (h : Longer base e w v n xs v' w') (hB : Below B w0 w) (hb : B ≤ w.heap.size) (hv : ∀ g, v.ownBlock = some g → B ≤ g) : Below B w0 w' :=
  hB.grown h.2.1 hb hv
theorem Longer.rd {base : Nat} {e : TypeId} {w w' : World} {v v' : Value} {n : Nat} {R : List Int} {k : IntKind} (h : Longer base e w v n (R.map (Value.int k)) v' w') : ∃ A c, v' = .slice A n c ∧ n ≤ c ∧ Rd w' w'.heap.size k A n R := own_rd h.1
/-- Two appends onto an empty row. -/
theorem Longer.two {base : Nat} {e : TypeId} {W w1 w2 : World} {v1 v2 : Value} {n1 n2 : Nat} {R S : List Int} {k : IntKind}
    (h1 : Longer base e (W.alloc (.cells #[] e)) (.slice (some ⟨W.heap.size, 0, none⟩) 0 0) n1 ([] ++ R.map (Value.int k)) v1 w1) (h2 : Longer base e w1 v1 n2 (([] ++ R.map (Value.int k)) ++ S.map (Value.int k)) v2 w2) :
    (∃ A c, v2 = .slice A n2 c ∧ n2 ≤ c ∧ Rd w2 w2.heap.size k A n2 (R ++ S)) ∧ Below W.heap.size W w2 := by
  refine ⟨?_, ?_⟩
  · have h := h2.1
    rw [List.nil_append, ← List.map_append] at h
    exact own_rd h
  · have hb1 := h1.below ((Below.refl W.heap.size W).alloc (Nat.le_refl _) _) (by simp) (fun g hg => by simp [Value.ownBlock] at hg; omega)
    have hs := h1.2.1.size
    refine h2.below hb1 hb1.size (fun g hg => ?_)
    rcases h1.2.2 with e1 | e1
    · rw [e1] at hg; simp [Value.ownBlock] at hg; omega
    · rw [e1] at hg; simp at hg; omega

end Go.Proofs.YtnojphkfniimgaaDoor
