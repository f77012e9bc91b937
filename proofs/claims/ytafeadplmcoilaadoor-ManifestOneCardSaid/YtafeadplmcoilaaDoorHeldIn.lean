/-
  A region that draws its order, by a script, within a round of a loop over a function.
-/
import Derived.Test.YtafeadplmcoilaaDoorStillIn
import Derived.Deep.RegionHeld3
namespace Go.Proofs.YtafeadplmcoilaaDoor
open Go Go.RowKit

section
variable {l0 n : Nat} {P : Program} {ops : Array Oper} {Q : Exit → Act → World → Prop} {md : Region.Mode} {S : World → Prop}

theorem rows_round {row : String} {args : Array Value} {w : World} {R R' : Value → World → Prop} (h : Rows P row args w R) (hr : ∀ v w', R v w' → R' v w') : RowsIn (Fence.wide.inRound l0) n P row args w R' :=
  fun c cs _ => let ⟨v, w', r, s⟩ := h c cs; ⟨v, w', hr _ _ r, stepsIn_wide.2 s⟩
theorem wpIn_of_wp_round {o : Oper} (hd : ∀ c, o.op ≠ .defer c) {a : Act} {w : World} {K K' : Act → World → Prop} (h : ∀ a w, K a w → K' a w) (hh : o.wp P a w K Q) : o.wpIn (Fence.wide.inRound l0) n P a w K' Q := by
  refine ⟨fun f _ => trivial, ?_⟩
  rw [show o.semAt (Fence.wide.inRound l0).round a.eval = execOp a.eval o from Oper.semAt_some l0 _ o hd]
  unfold Oper.wp at hh
  generalize (execOp a.eval o).run P w = r at *
  cases r with
  | ok x w' =>
    cases x <;> simp only [Oper.upon] at hh <;> simp only [Oper.uponIn]
    case enter f args =>
      refine ⟨fun h => (by cases h), ?_⟩
      refine CallsIn.inRound l0 (callsIn_wide.2 ?_)
      exact Calls.mono hh (fun e w'' he => by cases e <;> first | exact h _ _ he | exact he)
    case row row args =>
      exact ⟨fun h => (by cases h), rows_round hh fun v w'' he => h _ _ he⟩
    all_goals first | exact h _ _ hh | exact hh.elim
  | halt x w' => cases x <;> simp only [Oper.upon] at hh <;> simp only [Oper.uponIn] <;> first | exact hh | exact hh.elim
theorem wpOpIn_of_wpOp_round (hd : ∀ (i : Nat) (o : Oper), ops[i]? = some o → ∀ c, o.op ≠ .defer c) (hno : ¬ LetsOut Q) {i : Nat} {a : Act} {w : World} {K K' : Act → World → Prop} (h : ∀ a w, K a w → K' a w) (hh : wpOp P ops Q i K a w) : wpOpIn (Fence.wide.inRound l0) n P ops Q i K' a w := by
  unfold wpOp at hh
  unfold wpOpIn
  split
  · rename_i ho
    simp only [ho] at hh
    exact h _ _ hh
  · rename_i o ho
    simp only [ho] at hh
    split
    · rename_i hw
      simp only [hw, if_true] at hh
      rcases hh with hh | hh
      · exact wpIn_of_wp_round (hd i o ho) h hh
      · exact absurd hh.2 hno
    · rename_i hw
      simp only [hw] at hh
      exact ⟨fun _ _ => trivial, h _ _ hh⟩
theorem wpAnyIn_of_held_round (hd : ∀ (i : Nat) (o : Oper), ops[i]? = some o → ∀ c, o.op ≠ .defer c) (hno : ¬ LetsOut Q) :
    ∀ (fuel : Nat) (listed : Array Bool) (a : Act) (w : World), wpAnyH P md ops Q S fuel listed a w → wpAnyIn (Fence.wide.inRound l0) n P md ops Q fuel listed a w
  | 0, _, _, _, h => h
  | fuel + 1, _, _, _, h => ⟨h.1, fun i hi => wpOpIn_of_wpOp_round hd hno (fun a' w' h' => wpAnyIn_of_held_round hd hno fuel _ a' w' h'.2) (h.2 i hi)⟩
theorem wpIn_region_held_round {id : Nat} {a : Act} {w : World} {l : List Oper} (hm : P.follows .mixedOrders = true) (hd : ∀ o ∈ l, ∀ c, o.op ≠ .defer c) (hno : ¬ LetsOut Q) (hS : S w.drew)
    (h : S w.drew → wpAnyH P .any l.toArray Q S l.toArray.size (Array.replicate l.toArray.size false) a w.drew) : (Code.region id l.toArray true).wpIn (Fence.wide.inRound l0) n P Q a w :=
  wpIn_region_any hm (wpAnyIn_of_held_round (S := S) (fun i o ho => hd o (List.mem_of_getElem? (by simpa using ho))) hno _ _ _ _ (h hS))
end
end Go.Proofs.YtafeadplmcoilaaDoor
