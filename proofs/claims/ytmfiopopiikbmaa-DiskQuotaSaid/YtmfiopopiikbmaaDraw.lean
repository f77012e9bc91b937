/-
  A region that draws its order, one operation at a time, by hand: an operation that yields, one that is not wanted, a call; each by its number and its slot.
-/
import Derived.Deep.RegionHeld3
import Derived.Test.YtmfiopopiikbmaaBase
namespace Go.Proofs.Ytmfiopopiikbmaa
open Go

section
variable {P : Program} {ops : Array Oper} {Q : Exit → Act → World → Prop} {md : Region.Mode} {S : World → Prop}

theorem take_at {i d : Nat} {oi : Oper} {v : Value} {fuel : Nat} {listed : Array Bool} {T : List Value} {ds : List Deferred} {w : World} (hi : ops[i]? = some oi) (hd : oi.dst = some d)
    (hs : Region.noSelect ops = true) (hf : Region.free md ops listed i = true) (hr : (Region.ready md ops listed).contains i = true)
    (hw : Region.wanted oi (yielded ops T.toArray) = true)
    (hy : ∀ w, S w → (execOp (Act.mk T.toArray ds).eval oi).run P w = .ok (.value v) w)
    (hQ : ∀ c a w, Q (.panic c) (a.put (some d) v) w → Q (.panic c) a w) (hS : S w)
    (h : wpAnyH P md ops Q S fuel (listed.setIfInBounds i true) ⟨(T.set d v).toArray, ds⟩ w) : wpAnyH P md ops Q S (fuel + 1) listed ⟨T.toArray, ds⟩ w := by
  refine wpAnyH_take hi hs hf hr (by rw [hd]; exact hQ) (Or.inl ⟨hw, hy⟩) hS ?_
  rw [hd]
  simpa [Act.put] using h

theorem skip_at {i d : Nat} {oi : Oper} {fuel : Nat} {listed : Array Bool} {T : List Value} {ds : List Deferred} {w : World} (hi : ops[i]? = some oi) (hd : oi.dst = some d)
    (hs : Region.noSelect ops = true) (hf : Region.free md ops listed i = true) (hr : (Region.ready md ops listed).contains i = true)
    (hw : Region.wanted oi (yielded ops T.toArray) = false)
    (hQ : ∀ c a w, Q (.panic c) (a.put (some d) undef) w → Q (.panic c) a w) (hS : S w)
    (h : wpAnyH P md ops Q S fuel (listed.setIfInBounds i true) ⟨(T.set d undef).toArray, ds⟩ w) : wpAnyH P md ops Q S (fuel + 1) listed ⟨T.toArray, ds⟩ w := by
  refine wpAnyH_take hi hs hf hr (by rw [hd]; exact hQ) (Or.inr ⟨hw, rfl⟩) hS ?_
  rw [hd]
  simpa [Act.put] using h

theorem call_at {i d : Nat} {oi : Oper} {fuel : Nat} {listed : Array Bool} {T : List Value} {ds : List Deferred} {w : World} {f : FuncId} {args : Array Value} (hi : ops[i]? = some oi) (hd : oi.dst = some d)
    (hr : Region.ready md ops listed = [i]) (hw : Region.wanted oi (yielded ops T.toArray) = true)
    (he : (execOp (Act.mk T.toArray ds).eval oi).run P w = .ok (.enter f args) w)
    (hc : Calls P f args w fun e w' => ∃ v, e = .returned v ∧ S w' ∧ (S w' → wpAnyH P md ops Q S fuel (listed.setIfInBounds i true) ⟨(T.set d v).toArray, ds⟩ w')) :
    wpAnyH P md ops Q S (fuel + 1) listed ⟨T.toArray, ds⟩ w := by
  refine wpAnyH_ready hr (by simp) (AllReadyH.cons hi (fun K hK => ?_) AllReadyH.nil)
  rw [if_pos hw]
  unfold Oper.wp
  rw [he, Oper.upon_enter]
  refine hc.mono ?_
  rintro e w' ⟨v, rfl, hS, hn⟩
  rw [hd]
  refine hK.out _ _ hS (fun hS => ?_)
  simpa [Act.put] using hn hS

end

end Go.Proofs.Ytmfiopopiikbmaa
