/-
  What holds between two digits' rounds, and what an append in a round does to it.
-/
import Derived.Test.YtbpinikldcakfaaIter
import Derived.Test.YtbpinikldcakfaaMarks
namespace Go.Proofs.Ytbpinikldcakfaa
open Go.RowKit Go.Shelf

/-- Between two rounds: the box bB holds a slice that owns the bytes so far; what lay when the call began lies; the marks' blocks hold nothing; the iterator's three boxes (from block s on) hold what they held. -/
def SI (w : World) (bB : Nat) (acc : List Int) (ds : List Nat) (s : Nat) (m n width : Int) (f : Int × Int → Int) (pre : List (Int × Int)) (W : World) : Prop :=
  (∃ v, Boxed W bB 23 v ∧ W.ownsRow w.heap.size 5 1 v (acc ++ pre.map f).length ((acc ++ pre.map f).map (Value.int .u8))) ∧ Below w.heap.size w W ∧ (∀ d ∈ ds, W.heap[d]? = some (.deferred (some []))) ∧
  Boxed W s 3 (.int .i64 n) ∧ Boxed W (s + 1) 3 (.int .i64 width) ∧ Boxed W (s + 2) 3 (.int .i64 m)

theorem some_ne_row {W W' : World} {row : Option Nat} {B b : Nat} {o : Obj} (_hg : W.grownBy W' row) (hr : ∀ r, row = some r → B ≤ r ∧ ∃ o : Obj, W.heap[r]? = some o ∧ o.isCells = false) (hb : W.heap[b]? = some o) (h : b < B ∨ o.isCells = true) : some b ≠ row := by
  intro e
  obtain ⟨hB, o', ho, hc⟩ := hr b e.symm
  rcases h with h | h
  · omega
  · rw [hb] at ho
    cases ho
    rw [h] at hc
    cases hc

theorem SI.own {w : World} {bB : Nat} {acc : List Int} {ds : List Nat} {s : Nat} {m n width : Int} {f : Int × Int → Int} {B : Nat} (hd : ∀ d ∈ ds, d < B) (hw : w.heap.size ≤ B) : OwnFrom B (SI w bB acc ds s m n width f) := by
  rintro pre W W' row ⟨⟨v, hv, hrow⟩, hB, hM, b1, b2, b3⟩ hg hr
  refine ⟨⟨v, hv.kept hg (some_ne_row hg hr hv (.inr rfl)), hrow.kept hg ?_⟩, ?_, fun d hd' => ?_, b1.kept hg (some_ne_row hg hr b1 (.inr rfl)), b2.kept hg (some_ne_row hg hr b2 (.inr rfl)), b3.kept hg (some_ne_row hg hr b3 (.inr rfl))⟩
  · rcases hrow.2 with ⟨rfl, _⟩ | ⟨g, cap, cur, rfl, _, hgb, _⟩
    · exact .inl rfl
    · exact .inr (some_ne_row hg hr hgb (.inr rfl))
  · exact hB.grown hg hB.size (fun k e => by have := (hr k e).1; omega)
  · have h1 := hM d hd'
    exact (hg.block d (Array.getElem?_eq_some_iff.1 h1).1 (some_ne_row hg hr h1 (.inl (hd d hd')))).trans h1

/-- Behind 'append' and the store of what it gave. -/
theorem SI.step {w : World} {bB : Nat} {acc : List Int} {ds : List Nat} {s : Nat} {m n width : Int} {f : Int × Int → Int} {pre : List (Int × Int)} {x : Int × Int} {W w1 : World} {v v' : Value} {tmp : Obj} {k : Nat} {ys : List Value} (B : Nat)
    (hbB : bB < s) (hw : w.heap.size ≤ bB) (hv : Boxed W bB 23 v) (hrow : W.ownsRow w.heap.size 5 1 v (acc ++ pre.map f).length ((acc ++ pre.map f).map (Value.int .u8))) (hB : Below w.heap.size w W)
    (hM : ∀ d ∈ ds, W.heap[d]? = some (.deferred (some []))) (b1 : Boxed W s 3 (.int .i64 n)) (b2 : Boxed W (s + 1) 3 (.int .i64 width)) (b3 : Boxed W (s + 2) 3 (.int .i64 m))
    (hown : w1.ownsRow w.heap.size 5 1 v' k ys) (hk : k = (acc ++ pre.map f).length + 1) (hys : ys = (acc ++ pre.map f).map (Value.int .u8) ++ [Value.int .u8 (f x)]) (hgrow : (W.alloc tmp).grownBy w1 v.ownBlock) :
    KeepsFrom B W (w1.setCell ⟨bB, 0, none⟩ v') ∧ Kp3 (s + 2) s (s + 1) W (w1.setCell ⟨bB, 0, none⟩ v') ∧ SI w bB acc ds s m n width f (pre ++ [x]) (w1.setCell ⟨bB, 0, none⟩ v') := by
  obtain ⟨_, hv2, hr2, hk2, hb2⟩ := hv.appended (by decide) hrow hB.size hw hown hgrow
  have key : ∀ (b : Nat) (u : Value), bB < b → Boxed W b 3 u → Boxed (w1.setCell ⟨bB, 0, none⟩ v') b 3 u := fun b u hb hx =>
    ((hx.alloc tmp).kept hgrow (hx.not_row (by decide) hrow)).kept (grownBy_setCell' w1 bB v') (by simp; omega)
  have c1 := key _ _ hbB b1
  have c2 := key _ _ (by omega) b2
  have c3 := key _ _ (by omega) b3
  refine ⟨hk2.from _, ⟨Eq.trans c3 (Eq.symm b3), Eq.trans c1 (Eq.symm b1), Eq.trans c2 (Eq.symm b2)⟩, ⟨v', hv2, ?_⟩, hB.trans hb2, fun d hd => hk2.same d _ (hM d hd) rfl, c1, c2, c3⟩
  subst hk hys
  have e1 : acc ++ (pre ++ [x]).map f = (acc ++ pre.map f) ++ [f x] := by simp
  rw [e1, List.length_append, List.map_append]
  exact hr2

/-- The law of the loop wants these two of what a round must keep. -/
theorem kp3_b {w2 : World} {s : Nat} (hs : w2.heap.size = s + 3) (W : World) (l : Nat) (o o' : Obj) (hl : w2.heap.size ≤ l) (_h : W.heap[l]? = some o) (_ : o.isCells = false) (_ : o.isWalk = false) : Kp3 (s + 2) s (s + 1) W (W.putObj l o') :=
  ⟨World.putObj_heap_other (by omega), World.putObj_heap_other (by omega), World.putObj_heap_other (by omega)⟩

end Go.Proofs.Ytbpinikldcakfaa
