/-
  A region that draws its order, one operation at a time, by hand: an operation that yields, one that is not wanted, a call; each by its number and its slot.
-/
import Derived.Deep.RegionHeld3
import Derived.Test.YtbhnlmlaebngmaaBase
namespace Go.Proofs.Ytbhnlmlaebngmaa
open Go

section
variable {P : Program} {ops : Array Oper} {Q : Exit → Act → World → Prop} {md : Region.Mode} {S : World → Prop}

theorem take_at {i d : Nat} {oi : Oper} {v : Value} {fuel : Nat} {listed : Array Bool} {T : List Value} {ds : List Deferred} {w : World} (hi : ops[i]? = some oi) (hd : oi.dst = some d)
    (hs : Region.noSelect ops = true) (hf : Region.free md ops listed i = true) (hr : (Region.ready md ops listed).contains i = true)
    (hw : Region.wanted oi (yielded ops T.toArray) = true)
    (hy : ∀ w, S w → (execOp (Act.mk T.toArray ds).eval oi).run P w = .ok (.value v) w)
    (hQ : ∀ c a w, Q (.panic c) (a.put (some d) v) w → Q (.panic c) a w) (hS : S w)
    (h : wpAnyH P md ops Q S fuel (listed.setIfInBounds i true) ⟨(T.set d v).toArray, ds⟩ w) : wpAnyH P md ops Q S (fuel + 1) listed ⟨T.toArray, ds⟩ w := by
  refine wpAnyH_take hi hs hf hr (by rw [hd]; exact hQ) (Or.inl ⟨hw, hy⟩) hS ?_
  rw [hd]
  simpa [Act.put] using h

theorem skip_at {i d : Nat} {oi : Oper} {fuel : Nat} {listed : Array Bool} {T : List Value} {ds : List Deferred} {w : World} (hi : ops[i]? = some oi) (hd : oi.dst = some d)
    (hs : Region.noSelect ops = true) (hf : Region.free md ops listed i = true) (hr : (Region.ready md ops listed).contains i = true)
    (hw : Region.wanted oi (yielded ops T.toArray) = false)
    (hQ : ∀ c a w, Q (.panic c) (a.put (some d) undef) w → Q (.panic c) a w) (hS : S w)
    (h : wpAnyH P md ops Q S fuel (listed.setIfInBounds i true) ⟨(T.set d undef).toArray, ds⟩ w) : wpAnyH P md ops Q S (fuel + 1) listed ⟨T.toArray, ds⟩ w := by
  refine wpAnyH_take hi hs hf hr (by rw [hd]; exact hQ) (Or.inr ⟨hw, rfl⟩) hS ?_
  rw [hd]
  simpa [Act.put] using h

theorem call_at {i d : Nat} {oi : Oper} {fuel : Nat} {listed : Array Bool} {T : List Value} {ds : List Deferred} {w : World} {f : FuncId} {args : Array Value} (hi : ops[i]? = some oi) (hd : oi.dst = some d)
    (hr : Region.ready md ops listed = [i]) (hw : Region.wanted oi (yielded ops T.toArray) = true)
    (he : (execOp (Act.mk T.toArray ds).eval oi).run P w = .ok (.enter f args) w)
    (hc : Calls P f args w fun e w' => ∃ v, e = .returned v ∧ S w' ∧ (S w' → wpAnyH P md ops Q S fuel (listed.setIfInBounds i true) ⟨(T.set d v).toArray, ds⟩ w')) :
    wpAnyH P md ops Q S (fuel + 1) listed ⟨T.toArray, ds⟩ w := by
  refine wpAnyH_ready hr (by simp) (AllReadyH.cons hi (fun K hK => ?_) AllReadyH.nil)
  rw [if_pos hw]
  unfold Oper.wp
  rw [he, Oper.upon_enter]
  refine hc.mono ?_
  rintro e w' ⟨v, rfl, hS, hn⟩
  rw [hd]
  refine hK.out _ _ hS (fun hS => ?_)
  simpa [Act.put] using hn hS

/-! Several that may come up: each in turn. -/
theorem two_ready {fuel : Nat} {listed : Array Bool} {a : Act} {w : World} {i : Nat} {rs : List Nat} (h : AllReadyH P md ops Q S fuel listed a w [i]) (more : AllReadyH P md ops Q S fuel listed a w rs) : AllReadyH P md ops Q S fuel listed a w (i :: rs) := fun j hj => by
  rcases List.mem_cons.1 hj with rfl | hj
  · exact h _ (by simp)
  · exact more _ hj
theorem br_call {i d : Nat} {oi : Oper} {fuel : Nat} {listed : Array Bool} {T : List Value} {ds : List Deferred} {w : World} {f : FuncId} {args : Array Value} (hi : ops[i]? = some oi) (hd : oi.dst = some d)
    (hw : Region.wanted oi (yielded ops T.toArray) = true)
    (he : (execOp (Act.mk T.toArray ds).eval oi).run P w = .ok (.enter f args) w)
    (hc : Calls P f args w fun e w' => ∃ v, e = .returned v ∧ S w' ∧ (S w' → wpAnyH P md ops Q S fuel (listed.setIfInBounds i true) ⟨(T.set d v).toArray, ds⟩ w')) :
    AllReadyH P md ops Q S fuel listed ⟨T.toArray, ds⟩ w [i] := by
  refine AllReadyH.cons hi (fun K hK => ?_) AllReadyH.nil
  rw [if_pos hw]
  unfold Oper.wp
  rw [he, Oper.upon_enter]
  refine hc.mono ?_
  rintro e w' ⟨v, rfl, hS, hn⟩
  rw [hd]
  refine hK.out _ _ hS (fun hS => ?_)
  simpa [Act.put] using hn hS
theorem br_val {i d : Nat} {oi : Oper} {fuel : Nat} {listed : Array Bool} {T : List Value} {ds : List Deferred} {w w' : World} {v : Value} (hi : ops[i]? = some oi) (hd : oi.dst = some d)
    (hw : Region.wanted oi (yielded ops T.toArray) = true)
    (he : (execOp (Act.mk T.toArray ds).eval oi).run P w = .ok (.value v) w') (hS : S w')
    (h : S w' → wpAnyH P md ops Q S fuel (listed.setIfInBounds i true) ⟨(T.set d v).toArray, ds⟩ w') :
    AllReadyH P md ops Q S fuel listed ⟨T.toArray, ds⟩ w [i] := by
  refine AllReadyH.cons hi (fun K hK => ?_) AllReadyH.nil
  rw [if_pos hw]
  unfold Oper.wp
  rw [he, Oper.upon_value, hd]
  refine hK.out _ _ hS (fun hS => ?_)
  simpa [Act.put] using h hS
theorem br_store {i : Nat} {oi : Oper} {fuel : Nat} {listed : Array Bool} {T : List Value} {ds : List Deferred} {w w' : World} (hi : ops[i]? = some oi) (hd : oi.dst = none)
    (hw : Region.wanted oi (yielded ops T.toArray) = true)
    (he : (execOp (Act.mk T.toArray ds).eval oi).run P w = .ok .skip w') (hS : S w')
    (h : S w' → wpAnyH P md ops Q S fuel (listed.setIfInBounds i true) ⟨T.toArray, ds⟩ w') :
    AllReadyH P md ops Q S fuel listed ⟨T.toArray, ds⟩ w [i] := by
  refine AllReadyH.cons hi (fun K hK => ?_) AllReadyH.nil
  rw [if_pos hw]
  unfold Oper.wp
  rw [he, Oper.upon_skip, hd]
  refine hK.out _ _ hS (fun hS => ?_)
  exact h hS

/-! The ways through a guarded part meet again. -/
theorem join1 {d1 : Nat} {L : List Nat} {fuel fuel' : Nat} {listed : Array Bool} {T : List Value} {ds : List Deferred} {w : World} (R : Value →  World → Prop)
    (rest : ∀ v1 w', R v1 w' → S w' → wpAnyH P md ops Q S fuel' (L.foldl (fun l i => l.setIfInBounds i true) listed) ⟨(T.set d1 v1).toArray, ds⟩ w')
    (first : (∀ v1 w', R v1 w' → S w' → wpAnyH P md ops Q S fuel' (L.foldl (fun l i => l.setIfInBounds i true) listed) ⟨(T.set d1 v1).toArray, ds⟩ w') → wpAnyH P md ops Q S fuel listed ⟨T.toArray, ds⟩ w) :
    wpAnyH P md ops Q S fuel listed ⟨T.toArray, ds⟩ w := first rest
theorem join2 {d1 d2 : Nat} {L : List Nat} {fuel fuel' : Nat} {listed : Array Bool} {T : List Value} {ds : List Deferred} {w : World} (R : Value → Value →  World → Prop)
    (rest : ∀ v1 v2 w', R v1 v2 w' → S w' → wpAnyH P md ops Q S fuel' (L.foldl (fun l i => l.setIfInBounds i true) listed) ⟨((T.set d1 v1).set d2 v2).toArray, ds⟩ w')
    (first : (∀ v1 v2 w', R v1 v2 w' → S w' → wpAnyH P md ops Q S fuel' (L.foldl (fun l i => l.setIfInBounds i true) listed) ⟨((T.set d1 v1).set d2 v2).toArray, ds⟩ w') → wpAnyH P md ops Q S fuel listed ⟨T.toArray, ds⟩ w) :
    wpAnyH P md ops Q S fuel listed ⟨T.toArray, ds⟩ w := first rest
theorem join3 {d1 d2 d3 : Nat} {L : List Nat} {fuel fuel' : Nat} {listed : Array Bool} {T : List Value} {ds : List Deferred} {w : World} (R : Value → Value → Value →  World → Prop)
    (rest : ∀ v1 v2 v3 w', R v1 v2 v3 w' → S w' → wpAnyH P md ops Q S fuel' (L.foldl (fun l i => l.setIfInBounds i true) listed) ⟨(((T.set d1 v1).set d2 v2).set d3 v3).toArray, ds⟩ w')
    (first : (∀ v1 v2 v3 w', R v1 v2 v3 w' → S w' → wpAnyH P md ops Q S fuel' (L.foldl (fun l i => l.setIfInBounds i true) listed) ⟨(((T.set d1 v1).set d2 v2).set d3 v3).toArray, ds⟩ w') → wpAnyH P md ops Q S fuel listed ⟨T.toArray, ds⟩ w) :
    wpAnyH P md ops Q S fuel listed ⟨T.toArray, ds⟩ w := first rest
theorem join4 {d1 d2 d3 d4 : Nat} {L : List Nat} {fuel fuel' : Nat} {listed : Array Bool} {T : List Value} {ds : List Deferred} {w : World} (R : Value → Value → Value → Value →  World → Prop)
    (rest : ∀ v1 v2 v3 v4 w', R v1 v2 v3 v4 w' → S w' → wpAnyH P md ops Q S fuel' (L.foldl (fun l i => l.setIfInBounds i true) listed) ⟨((((T.set d1 v1).set d2 v2).set d3 v3).set d4 v4).toArray, ds⟩ w')
    (first : (∀ v1 v2 v3 v4 w', R v1 v2 v3 v4 w' → S w' → wpAnyH P md ops Q S fuel' (L.foldl (fun l i => l.setIfInBounds i true) listed) ⟨((((T.set d1 v1).set d2 v2).set d3 v3).set d4 v4).toArray, ds⟩ w') → wpAnyH P md ops Q S fuel listed ⟨T.toArray, ds⟩ w) :
    wpAnyH P md ops Q S fuel listed ⟨T.toArray, ds⟩ w := first rest
theorem join5 {d1 d2 d3 d4 d5 : Nat} {L : List Nat} {fuel fuel' : Nat} {listed : Array Bool} {T : List Value} {ds : List Deferred} {w : World} (R : Value → Value → Value → Value → Value →  World → Prop)
    (rest : ∀ v1 v2 v3 v4 v5 w', R v1 v2 v3 v4 v5 w' → S w' → wpAnyH P md ops Q S fuel' (L.foldl (fun l i => l.setIfInBounds i true) listed) ⟨(((((T.set d1 v1).set d2 v2).set d3 v3).set d4 v4).set d5 v5).toArray, ds⟩ w')
    (first : (∀ v1 v2 v3 v4 v5 w', R v1 v2 v3 v4 v5 w' → S w' → wpAnyH P md ops Q S fuel' (L.foldl (fun l i => l.setIfInBounds i true) listed) ⟨(((((T.set d1 v1).set d2 v2).set d3 v3).set d4 v4).set d5 v5).toArray, ds⟩ w') → wpAnyH P md ops Q S fuel listed ⟨T.toArray, ds⟩ w) :
    wpAnyH P md ops Q S fuel listed ⟨T.toArray, ds⟩ w := first rest
theorem join6 {d1 d2 d3 d4 d5 d6 : Nat} {L : List Nat} {fuel fuel' : Nat} {listed : Array Bool} {T : List Value} {ds : List Deferred} {w : World} (R : Value → Value → Value → Value → Value → Value →  World → Prop)
    (rest : ∀ v1 v2 v3 v4 v5 v6 w', R v1 v2 v3 v4 v5 v6 w' → S w' → wpAnyH P md ops Q S fuel' (L.foldl (fun l i => l.setIfInBounds i true) listed) ⟨((((((T.set d1 v1).set d2 v2).set d3 v3).set d4 v4).set d5 v5).set d6 v6).toArray, ds⟩ w')
    (first : (∀ v1 v2 v3 v4 v5 v6 w', R v1 v2 v3 v4 v5 v6 w' → S w' → wpAnyH P md ops Q S fuel' (L.foldl (fun l i => l.setIfInBounds i true) listed) ⟨((((((T.set d1 v1).set d2 v2).set d3 v3).set d4 v4).set d5 v5).set d6 v6).toArray, ds⟩ w') → wpAnyH P md ops Q S fuel listed ⟨T.toArray, ds⟩ w) :
    wpAnyH P md ops Q S fuel listed ⟨T.toArray, ds⟩ w := first rest
theorem join7 {d1 d2 d3 d4 d5 d6 d7 : Nat} {L : List Nat} {fuel fuel' : Nat} {listed : Array Bool} {T : List Value} {ds : List Deferred} {w : World} (R : Value → Value → Value → Value → Value → Value → Value →  World → Prop)
    (rest : ∀ v1 v2 v3 v4 v5 v6 v7 w', R v1 v2 v3 v4 v5 v6 v7 w' → S w' → wpAnyH P md ops Q S fuel' (L.foldl (fun l i => l.setIfInBounds i true) listed) ⟨(((((((T.set d1 v1).set d2 v2).set d3 v3).set d4 v4).set d5 v5).set d6 v6).set d7 v7).toArray, ds⟩ w')
    (first : (∀ v1 v2 v3 v4 v5 v6 v7 w', R v1 v2 v3 v4 v5 v6 v7 w' → S w' → wpAnyH P md ops Q S fuel' (L.foldl (fun l i => l.setIfInBounds i true) listed) ⟨(((((((T.set d1 v1).set d2 v2).set d3 v3).set d4 v4).set d5 v5).set d6 v6).set d7 v7).toArray, ds⟩ w') → wpAnyH P md ops Q S fuel listed ⟨T.toArray, ds⟩ w) :
    wpAnyH P md ops Q S fuel listed ⟨T.toArray, ds⟩ w := first rest
theorem join8 {d1 d2 d3 d4 d5 d6 d7 d8 : Nat} {L : List Nat} {fuel fuel' : Nat} {listed : Array Bool} {T : List Value} {ds : List Deferred} {w : World} (R : Value → Value → Value → Value → Value → Value → Value → Value →  World → Prop)
    (rest : ∀ v1 v2 v3 v4 v5 v6 v7 v8 w', R v1 v2 v3 v4 v5 v6 v7 v8 w' → S w' → wpAnyH P md ops Q S fuel' (L.foldl (fun l i => l.setIfInBounds i true) listed) ⟨((((((((T.set d1 v1).set d2 v2).set d3 v3).set d4 v4).set d5 v5).set d6 v6).set d7 v7).set d8 v8).toArray, ds⟩ w')
    (first : (∀ v1 v2 v3 v4 v5 v6 v7 v8 w', R v1 v2 v3 v4 v5 v6 v7 v8 w' → S w' → wpAnyH P md ops Q S fuel' (L.foldl (fun l i => l.setIfInBounds i true) listed) ⟨((((((((T.set d1 v1).set d2 v2).set d3 v3).set d4 v4).set d5 v5).set d6 v6).set d7 v7).set d8 v8).toArray, ds⟩ w') → wpAnyH P md ops Q S fuel listed ⟨T.toArray, ds⟩ w) :
    wpAnyH P md ops Q S fuel listed ⟨T.toArray, ds⟩ w := first rest
theorem join9 {d1 d2 d3 d4 d5 d6 d7 d8 d9 : Nat} {L : List Nat} {fuel fuel' : Nat} {listed : Array Bool} {T : List Value} {ds : List Deferred} {w : World} (R : Value → Value → Value → Value → Value → Value → Value → Value → Value →  World → Prop)
    (rest : ∀ v1 v2 v3 v4 v5 v6 v7 v8 v9 w', R v1 v2 v3 v4 v5 v6 v7 v8 v9 w' → S w' → wpAnyH P md ops Q S fuel' (L.foldl (fun l i => l.setIfInBounds i true) listed) ⟨(((((((((T.set d1 v1).set d2 v2).set d3 v3).set d4 v4).set d5 v5).set d6 v6).set d7 v7).set d8 v8).set d9 v9).toArray, ds⟩ w')
    (first : (∀ v1 v2 v3 v4 v5 v6 v7 v8 v9 w', R v1 v2 v3 v4 v5 v6 v7 v8 v9 w' → S w' → wpAnyH P md ops Q S fuel' (L.foldl (fun l i => l.setIfInBounds i true) listed) ⟨(((((((((T.set d1 v1).set d2 v2).set d3 v3).set d4 v4).set d5 v5).set d6 v6).set d7 v7).set d8 v8).set d9 v9).toArray, ds⟩ w') → wpAnyH P md ops Q S fuel listed ⟨T.toArray, ds⟩ w) :
    wpAnyH P md ops Q S fuel listed ⟨T.toArray, ds⟩ w := first rest
theorem join10 {d1 d2 d3 d4 d5 d6 d7 d8 d9 d10 : Nat} {L : List Nat} {fuel fuel' : Nat} {listed : Array Bool} {T : List Value} {ds : List Deferred} {w : World} (R : Value → Value → Value → Value → Value → Value → Value → Value → Value → Value →  World → Prop)
    (rest : ∀ v1 v2 v3 v4 v5 v6 v7 v8 v9 v10 w', R v1 v2 v3 v4 v5 v6 v7 v8 v9 v10 w' → S w' → wpAnyH P md ops Q S fuel' (L.foldl (fun l i => l.setIfInBounds i true) listed) ⟨((((((((((T.set d1 v1).set d2 v2).set d3 v3).set d4 v4).set d5 v5).set d6 v6).set d7 v7).set d8 v8).set d9 v9).set d10 v10).toArray, ds⟩ w')
    (first : (∀ v1 v2 v3 v4 v5 v6 v7 v8 v9 v10 w', R v1 v2 v3 v4 v5 v6 v7 v8 v9 v10 w' → S w' → wpAnyH P md ops Q S fuel' (L.foldl (fun l i => l.setIfInBounds i true) listed) ⟨((((((((((T.set d1 v1).set d2 v2).set d3 v3).set d4 v4).set d5 v5).set d6 v6).set d7 v7).set d8 v8).set d9 v9).set d10 v10).toArray, ds⟩ w') → wpAnyH P md ops Q S fuel listed ⟨T.toArray, ds⟩ w) :
    wpAnyH P md ops Q S fuel listed ⟨T.toArray, ds⟩ w := first rest
theorem join11 {d1 d2 d3 d4 d5 d6 d7 d8 d9 d10 d11 : Nat} {L : List Nat} {fuel fuel' : Nat} {listed : Array Bool} {T : List Value} {ds : List Deferred} {w : World} (R : Value → Value → Value → Value → Value → Value → Value → Value → Value → Value → Value →  World → Prop)
    (rest : ∀ v1 v2 v3 v4 v5 v6 v7 v8 v9 v10 v11 w', R v1 v2 v3 v4 v5 v6 v7 v8 v9 v10 v11 w' → S w' → wpAnyH P md ops Q S fuel' (L.foldl (fun l i => l.setIfInBounds i true) listed) ⟨(((((((((((T.set d1 v1).set d2 v2).set d3 v3).set d4 v4).set d5 v5).set d6 v6).set d7 v7).set d8 v8).set d9 v9).set d10 v10).set d11 v11).toArray, ds⟩ w')
    (first : (∀ v1 v2 v3 v4 v5 v6 v7 v8 v9 v10 v11 w', R v1 v2 v3 v4 v5 v6 v7 v8 v9 v10 v11 w' → S w' → wpAnyH P md ops Q S fuel' (L.foldl (fun l i => l.setIfInBounds i true) listed) ⟨(((((((((((T.set d1 v1).set d2 v2).set d3 v3).set d4 v4).set d5 v5).set d6 v6).set d7 v7).set d8 v8).set d9 v9).set d10 v10).set d11 v11).toArray, ds⟩ w') → wpAnyH P md ops Q S fuel listed ⟨T.toArray, ds⟩ w) :
    wpAnyH P md ops Q S fuel listed ⟨T.toArray, ds⟩ w := first rest
theorem join12 {d1 d2 d3 d4 d5 d6 d7 d8 d9 d10 d11 d12 : Nat} {L : List Nat} {fuel fuel' : Nat} {listed : Array Bool} {T : List Value} {ds : List Deferred} {w : World} (R : Value → Value → Value → Value → Value → Value → Value → Value → Value → Value → Value → Value →  World → Prop)
    (rest : ∀ v1 v2 v3 v4 v5 v6 v7 v8 v9 v10 v11 v12 w', R v1 v2 v3 v4 v5 v6 v7 v8 v9 v10 v11 v12 w' → S w' → wpAnyH P md ops Q S fuel' (L.foldl (fun l i => l.setIfInBounds i true) listed) ⟨((((((((((((T.set d1 v1).set d2 v2).set d3 v3).set d4 v4).set d5 v5).set d6 v6).set d7 v7).set d8 v8).set d9 v9).set d10 v10).set d11 v11).set d12 v12).toArray, ds⟩ w')
    (first : (∀ v1 v2 v3 v4 v5 v6 v7 v8 v9 v10 v11 v12 w', R v1 v2 v3 v4 v5 v6 v7 v8 v9 v10 v11 v12 w' → S w' → wpAnyH P md ops Q S fuel' (L.foldl (fun l i => l.setIfInBounds i true) listed) ⟨((((((((((((T.set d1 v1).set d2 v2).set d3 v3).set d4 v4).set d5 v5).set d6 v6).set d7 v7).set d8 v8).set d9 v9).set d10 v10).set d11 v11).set d12 v12).toArray, ds⟩ w') → wpAnyH P md ops Q S fuel listed ⟨T.toArray, ds⟩ w) :
    wpAnyH P md ops Q S fuel listed ⟨T.toArray, ds⟩ w := first rest

end

end Go.Proofs.Ytbhnlmlaebngmaa
