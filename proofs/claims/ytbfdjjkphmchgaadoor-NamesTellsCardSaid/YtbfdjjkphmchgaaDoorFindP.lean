/-
  names.Find: plain; what it and Rest keep between two rounds.
-/
import Derived.Test.YtbfdjjkphmchgaaDoorIter
import Derived.Test.YtbfdjjkphmchgaaDoorParse
namespace Go.Proofs.YtbfdjjkphmchgaaDoor
open Go.RowKit Go.Shelf

/-- The place of the first that is called so, or -1. -/
def findP (l : List FlP) (N : ByteArray) : Int := match (callsP l).find? (fun y => decide (y.2 = N)) with
  | some y => (y.1 : Int)
  | none => -1
theorem find_hit {l : List FlP} {N : ByteArray} {pre : List (Nat × ByteArray)} {x : Nat × ByteArray} (h : pre ++ [x] <+: callsP l) (hn : ∀ y ∈ pre, y.2 ≠ N) (hx : x.2 = N) : findP l N = (x.1 : Int) := by
  obtain ⟨r, hr⟩ := h
  unfold findP
  rw [← hr, List.append_assoc, List.find?_append, List.find?_eq_none.2 (fun y hy => by simpa using hn y hy)]
  simp [hx]
theorem find_miss {l : List FlP} {N : ByteArray} (hn : ∀ y ∈ callsP l, y.2 ≠ N) : findP l N = -1 := by
  unfold findP
  rw [List.find?_eq_none.2 (fun y hy => by simpa using hn y hy)]
/-- What Find answers. -/
def foundP (l : List FlP) (x : IdP) : Int := if MayP x then findP l (nameP x) else -1

theorem names_eq {N M : ByteArray} (h : N = M) : (N.toList == M.toList) = true := by rw [h]; simp
theorem names_ne {N M : ByteArray} (h : ¬ N = M) : (N.toList == M.toList) = false := by
  rw [ByteArray.toList_eq, ByteArray.toList_eq]
  exact beq_eq_false_iff_ne.2 fun e => h (ba_ext (Array.toList_inj.1 e))

/-- What speaks of blocks below B alone stays, whatever is turned from B on. -/
theorem ownT_low {β : Type} {t : TypeId} {B : Nat} {I : β → World → Prop} (hsz : ∀ s W, I s W → B ≤ W.heap.size) (h : ∀ s W W', I s W → Below B W W' → I s W') : OwnT t B I := fun s W W' row hs hg hr =>
  h s W W' hs ⟨hg.os, hg.tape, hg.output, hg.size, fun k hk => hg.block k (Nat.lt_of_lt_of_le hk (hsz s W hs)) (fun e => by have := (hr k e.symm).1; omega)⟩
theorem set_grown (W : World) (b : Nat) (v : Value) : W.grownBy (W.setCell ⟨b, 0, none⟩ v) (some b) := by
  have h := (Below.refl 0 W).setCell (p := ⟨b, 0, none⟩) (Nat.zero_le _) v
  exact ⟨h.os, h.tape, h.output, h.size, fun k _ hk => Below.heap_setCell _ _ _ k (by simpa using fun e => hk (by rw [e]))⟩

/-- Between two rounds: none that has come is called so; the boxes of the name and of the answer. -/
structure FInv (w : World) (N : ByteArray) (bN bR D : Nat) (pre : List (Nat × ByteArray)) (W : World) : Prop where
  none_ : ∀ y ∈ pre, y.2 ≠ N
  bn : Boxed W bN 9 (.string N)
  br : Boxed W bR 3 (.int .i64 0)
  low : Below w.heap.size w W
  size : D ≤ W.heap.size
/-- .. and when one has been found. -/
structure FEnd (w : World) (l : List FlP) (N : ByteArray) (bR D : Nat) (W : World) : Prop where
  br : Boxed W bR 3 (.int .i64 (findP l N))
  low : Below w.heap.size w W
  size : D ≤ W.heap.size
theorem FInv.own {w : World} {N : ByteArray} {bN bR D : Nat} (h1 : bN < D) (h2 : bR < D) (h3 : w.heap.size ≤ D) : OwnT 46 D (FInv w N bN bR D) :=
  ownT_low (fun _ _ h => h.size) fun _ _ _ h hb => ⟨h.none_, (hb.block bN h1).trans h.bn, (hb.block bR h2).trans h.br, h.low.trans (hb.mono h3), Nat.le_trans h.size hb.size⟩
theorem FEnd.own {w : World} {l : List FlP} {N : ByteArray} {bR D : Nat} (h2 : bR < D) (h3 : w.heap.size ≤ D) (c : Code) : OwnT 46 D (fun (_ : List (Nat × ByteArray)) W => c = Code.ret ∧ FEnd w l N bR D W) :=
  ownT_low (fun _ _ h => h.2.size) fun _ _ _ h hb => ⟨h.1, (hb.block bR h2).trans h.2.br, h.2.low.trans (hb.mono h3), Nat.le_trans h.2.size hb.size⟩

end Go.Proofs.YtbfdjjkphmchgaaDoor
