/-
  A region that draws its order, by hand: append onto a row of the call's own.
-/
import Derived.Test.YtafeadplmcoilaaDoorDraw
import Derived.Test.YtafeadplmcoilaaDoorRow
namespace Go.Proofs.YtafeadplmcoilaaDoor
open Go Go.RowKit

theorem br_append {P : Program} {ops : Array Oper} {Q : Exit → Act → World → Prop} {md : Region.Mode} {S : World → Prop} {i d : Nat} {oi : Oper} {fuel : Nat} {listed : Array Bool} {T : List Value} {ds : List Deferred} {w : World}
    {t e : TypeId} {ii : TypeInfo} {z : Value} {size bytes n m c base : Nat} {v : Value} {xs news : List Value} {A : Option Addr} (s x : Operand)
    (ht : P.underlying t = some (.slice e)) (hii : P.info? e = some ii) (hz : ii.zero = some z) (h1 : ii.size = size) (h2 : ii.bytes = bytes) (hzs : z.cells.size = size) (hsz : 0 < size)
    (hown : w.ownsRow base e size v n xs) (hr : Source w size A m news) (b1 : n + m ≤ maxLen) (b2 : (n + m) * bytes ≤ 140737488355328) (b3 : base ≤ w.heap.size)
    (hi : ops[i]? = some oi) (hd : oi.dst = some d) (hw : Region.wanted oi (yielded ops T.toArray) = true)
    (ho : oi.op = .call { callee := .builtin .append, args := #[s, x], argTypes := #[t, t] }) (hs : (Act.mk T.toArray ds).eval s = v) (hx : (Act.mk T.toArray ds).eval x = .slice A m c)
    (h : ∀ v' w', Longer base e size w v (n + m) (xs ++ news) v' w' → S w' ∧ (S w' → wpAnyH P md ops Q S fuel (listed.setIfInBounds i true) ⟨(T.set d v').toArray, ds⟩ w')) :
    AllReadyH P md ops Q S fuel listed ⟨T.toArray, ds⟩ w [i] := by
  refine AllReadyH.cons hi (fun K hK => ?_) AllReadyH.nil
  rw [if_pos hw]
  refine wp_append s x t ht hii hz h1 h2 hzs hsz hown hr b1 b2 b3 ho hs hx fun v' w' hL => ?_
  obtain ⟨h3, h4⟩ := h v' w' hL
  rw [hd]
  refine hK.out _ _ h3 (fun h5 => ?_)
  simpa [Act.put] using h4 h5

end Go.Proofs.YtafeadplmcoilaaDoor
