/-
  Package tuple: has, saved; the steps of Append and Hard: their contracts.
-/
import Derived.Test.YtbhnlmlaebngmaaTupY
import Derived.Test.YtbhnlmlaebngmaaTupN
namespace Go.Proofs.Ytbhnlmlaebngmaa
open Go.RowKit Go.Shelf
set_option linter.unusedVariables false
set_option linter.unusedSimpArgs false
/-- What is behind, of a row of the call's own. -/
theorem cut_restF {P : Program} {t e : TypeId} {i : TypeInfo} (ht : P.underlying t = some (.slice e)) (hi : P.info? e = some i) (h1 : i.size = 3) (A : Option Addr) (n c k : Nat) (hk : k ≤ n) (hnc : n ≤ c) :
    ∃ A', (∀ W : World, (Instr.slice t (.slice A n c) (some (.int .i64 (k : Int))) none none).run P W = .ok (.slice A' (n - k) (c - k)) W) ∧ ∀ {w : World} {B : Nat} {l : List EnP}, OwnF w B (.slice A n c) n l → OwnF w B (.slice A' (n - k) (c - k)) (n - k) (l.drop k) := by
  have he : P.elem t = e := by simp [Program.elem, ht]
  have hu : P.underlying t = some (.slice (P.elem t)) := by rw [he]; exact ht
  refine ⟨if c = k then A else A.map (·.add (k * 3)), fun W => ?_, fun {w B l} h => ?_⟩
  · rw [run_slice_l W t A n c hu .i64 (k : Int) (by omega) (by omega), he]
    simp [sizeOf, run_typeInfo, hi, h1, sliced, go_sem]
  · have hes := h.es
    obtain ⟨A0, c0, e0, _, h2⟩ := h
    injection e0 with e1 e2 e3
    subst e1
    refine ⟨_, _, rfl, ?_, fun a ha => ?_⟩
    · by_cases hc : c = k
      · have hd : l.drop k = [] := List.drop_of_length_le (by have := Es.len hes; omega)
        rw [hd, show n - k = 0 by omega]
        exact Row.nil
      · rw [if_neg hc]
        exact Row.rest hes hk
    · by_cases hc : c = k
      · rw [if_pos hc] at ha
        exact h2 a ha
      · rw [if_neg hc] at ha
        obtain ⟨b, hb, rfl⟩ := Option.map_eq_some_iff.1 ha
        have h3 := h2 b hb
        unfold Addr.add
        split <;> exact h3
theorem own_firstF {w : World} {B n c k : Nat} {A : Option Addr} {l : List EnP} (h : OwnF w B (.slice A n c) n l) (hk : k ≤ n) : OwnF w B (.slice A k c) k (l.take k) := by
  have hes := h.es
  obtain ⟨A0, c0, e0, _, h2⟩ := h
  injection e0 with e1 e2 e3
  subst e1
  exact ⟨_, _, rfl, Row.first hes hk, h2⟩
theorem set_ownF {W : World} {z i base n : Nat} {t : TupP} {u v x : Value} {l : List EnP} (hz : BoxU W z t u) (h : OwnF W base v n l) : OwnF (W.setCell ⟨z, i, none⟩ x) base v n l := keepF_at h (by simp) fun g cur fr hg => Below.heap_setCell _ _ _ g (by
  have hne : g ≠ z := by
    rintro rfl
    have h1 := hg.symm.trans (show W.heap[g]? = _ from hz)
    simp at h1
  simpa using hne)
set_option maxRecDepth 100000 in
set_option maxHeartbeats 8000000 in
theorem has_none (t : TupP) (A : Option Addr) (n c : Nat) (s : StP) (w : World) (hS : Es w w.heap.size A n t.lg) (hn : n ≤ 100000) (hx : Mid t.sn.ix) (hi : I64 s.ix) (h : termAtP t s.ix = none) :
    Calls Try.prog 46 #[tupV t (.slice A n c), s.v] w fun e w' => e = .returned (.bool false) ∧ Below w.heap.size w w' := by
  have HV := Lib.hid (show TermV t s.ix = .tuple #[.int .i64 0, .bool false] from term_no h)
  have HX := Lib.hid (⟨hx, hi⟩ : _ ∧ _)
  clear h hx hi
  unfold StP.v
  obtain ⟨z1, hz1⟩ : ∃ z, z = w.heap.size := ⟨_, rfl⟩
  obtain ⟨w1, hw1⟩ : ∃ x, x = w.alloc (.cells #[.int .i64 t.sn.ix, .int .i64 t.sn.tm, .int .i64 t.sn.sm, .int .i64 t.sn.lv, .bool t.sn.fn, .slice A n c, .int .i64 t.tm, .int .i64 t.vt] 26) := ⟨_, rfl⟩
  have bb : Below w.heap.size w w1 := by rw [hw1]; exact below_al (below_d0 _) _
  have bz : BoxU w1 z1 t (.slice A n c) := by rw [hw1, hz1]; exact BoxU.new w t _
  replace hS := hS.on bb bb.size
  have B1 := bb
  clear bb
  obtain ⟨z2, hz2⟩ : ∃ z, z = w1.heap.size := ⟨_, rfl⟩
  obtain ⟨w2, hw2⟩ : ∃ x, x = w1.alloc (.cells #[.int .i64 s.ix, .int .i64 s.tm, .int .i64 s.sm, .int .i64 s.lv, .bool s.fn] 23) := ⟨_, rfl⟩
  have bb : Below w1.heap.size w1 w2 := by rw [hw2]; exact below_al (below_d0 _) _
  have bs : BoxS w2 z2 s := by rw [hw2, hz2]; exact BoxS.new w1 s
  replace bz := bz.below bb
  replace hS := hS.on bb bb.size
  have B2 := B1.trans (bb.mono B1.size)
  clear bb B1
  have hp2 : z1 + 1 = z2 := by rw [hz2, hw1, hz1]; simp
  have lz2 : w.heap.size ≤ z2 := by omega
  have ne12 : z1 ≠ z2 := by omega
  have HE := Lib.hid (⟨hw1, hw2, hz1, hp2⟩ : _ ∧ _ ∧ _ ∧ _)
  have HLZ := Lib.hid lz2
  clear hw1 hz1 hw2 hz2 hp2 lz2
  unfold tupV
  go_enter Try.func46, Try.ntmps46
  obtain ⟨k0, k1, k2, k3, k4, k5, k6, k7⟩ := bz.cells
  obtain ⟨j0, j1, j2, j3, j4⟩ := bs.cells
  go_wp2_with fail
  clear k0 k1 k2 k3 k4 k5 k6 k7
  clear j0 j1 j2 j3 j4
  rw [← HE.out.1, ← HE.out.2.1, ← HE.out.2.2.1]
  (try rw [HE.out.2.2.2])
  clear HE
  refine Calls.mono (show Calls Try.prog 21 #[.agg #[.int .i64 t.sn.ix, .int .i64 t.sn.tm, .int .i64 t.sn.sm, .int .i64 t.sn.lv, .bool t.sn.fn, .slice A n c, .int .i64 t.tm, .int .i64 t.vt], .int .i64 s.ix] w2 (fun e w' => e = .returned (.tuple #[.int .i64 0, .bool false]) ∧ Below w2.heap.size w2 w') from by rw [← HV.out]; exact termAt_any t A n c s.ix w2 hS hn HX.out.1 HX.out.2) ?_
  intro e w3 hh
  obtain ⟨rfl, bb⟩ := hh
  (try clear hh)
  replace bz := bz.below bb
  replace bs := bs.below bb
  replace hS := hS.on bb bb.size
  have B3 := B2.trans (bb.mono B2.size)
  clear bb B2
  obtain ⟨j0, j1, j2, j3, j4⟩ := bs.cells
  go_wp2_with fail
  clear j0 j1 j2 j3 j4
  go_ret
  exact ⟨rfl, B3⟩
set_option maxRecDepth 100000 in
set_option maxHeartbeats 8000000 in
theorem has_no (t : TupP) (A : Option Addr) (n c : Nat) (s : StP) (w : World) (hS : Es w w.heap.size A n t.lg) (hn : n ≤ 100000) (hx : Mid t.sn.ix) (hi : I64 s.ix) (x : Int) (h : termAtP t s.ix = some x) (hne : ¬ x = s.tm) :
    Calls Try.prog 46 #[tupV t (.slice A n c), s.v] w fun e w' => e = .returned (.bool false) ∧ Below w.heap.size w w' := by
  have HV := Lib.hid (show TermV t s.ix = .tuple #[.int .i64 x, .bool true] from term_yes h)
  have HX := Lib.hid (⟨hx, hi⟩ : _ ∧ _)
  clear h hx hi
  have q0 : (x == s.tm) = false := by simpa using hne
  clear hne
  unfold StP.v
  obtain ⟨z1, hz1⟩ : ∃ z, z = w.heap.size := ⟨_, rfl⟩
  obtain ⟨w1, hw1⟩ : ∃ x, x = w.alloc (.cells #[.int .i64 t.sn.ix, .int .i64 t.sn.tm, .int .i64 t.sn.sm, .int .i64 t.sn.lv, .bool t.sn.fn, .slice A n c, .int .i64 t.tm, .int .i64 t.vt] 26) := ⟨_, rfl⟩
  have bb : Below w.heap.size w w1 := by rw [hw1]; exact below_al (below_d0 _) _
  have bz : BoxU w1 z1 t (.slice A n c) := by rw [hw1, hz1]; exact BoxU.new w t _
  replace hS := hS.on bb bb.size
  have B1 := bb
  clear bb
  obtain ⟨z2, hz2⟩ : ∃ z, z = w1.heap.size := ⟨_, rfl⟩
  obtain ⟨w2, hw2⟩ : ∃ x, x = w1.alloc (.cells #[.int .i64 s.ix, .int .i64 s.tm, .int .i64 s.sm, .int .i64 s.lv, .bool s.fn] 23) := ⟨_, rfl⟩
  have bb : Below w1.heap.size w1 w2 := by rw [hw2]; exact below_al (below_d0 _) _
  have bs : BoxS w2 z2 s := by rw [hw2, hz2]; exact BoxS.new w1 s
  replace bz := bz.below bb
  replace hS := hS.on bb bb.size
  have B2 := B1.trans (bb.mono B1.size)
  clear bb B1
  have hp2 : z1 + 1 = z2 := by rw [hz2, hw1, hz1]; simp
  have lz2 : w.heap.size ≤ z2 := by omega
  have ne12 : z1 ≠ z2 := by omega
  have HE := Lib.hid (⟨hw1, hw2, hz1, hp2⟩ : _ ∧ _ ∧ _ ∧ _)
  have HLZ := Lib.hid lz2
  clear hw1 hz1 hw2 hz2 hp2 lz2
  unfold tupV
  go_enter Try.func46, Try.ntmps46
  obtain ⟨k0, k1, k2, k3, k4, k5, k6, k7⟩ := bz.cells
  obtain ⟨j0, j1, j2, j3, j4⟩ := bs.cells
  go_wp2_with fail
  clear k0 k1 k2 k3 k4 k5 k6 k7
  clear j0 j1 j2 j3 j4
  rw [← HE.out.1, ← HE.out.2.1, ← HE.out.2.2.1]
  (try rw [HE.out.2.2.2])
  clear HE
  refine Calls.mono (show Calls Try.prog 21 #[.agg #[.int .i64 t.sn.ix, .int .i64 t.sn.tm, .int .i64 t.sn.sm, .int .i64 t.sn.lv, .bool t.sn.fn, .slice A n c, .int .i64 t.tm, .int .i64 t.vt], .int .i64 s.ix] w2 (fun e w' => e = .returned (.tuple #[.int .i64 x, .bool true]) ∧ Below w2.heap.size w2 w') from by rw [← HV.out]; exact termAt_any t A n c s.ix w2 hS hn HX.out.1 HX.out.2) ?_
  intro e w3 hh
  obtain ⟨rfl, bb⟩ := hh
  (try clear hh)
  replace bz := bz.below bb
  replace bs := bs.below bb
  replace hS := hS.on bb bb.size
  have B3 := B2.trans (bb.mono B2.size)
  clear bb B2
  obtain ⟨j0, j1, j2, j3, j4⟩ := bs.cells
  go_wp2_with fail
  clear j0 j1 j2 j3 j4
  go_ret
  exact ⟨rfl, B3⟩
set_option maxRecDepth 100000 in
set_option maxHeartbeats 8000000 in
theorem has_yes (t : TupP) (A : Option Addr) (n c : Nat) (s : StP) (w : World) (hS : Es w w.heap.size A n t.lg) (hn : n ≤ 100000) (hx : Mid t.sn.ix) (hi : I64 s.ix) (h : termAtP t s.ix = some s.tm) :
    Calls Try.prog 46 #[tupV t (.slice A n c), s.v] w fun e w' => e = .returned (.bool true) ∧ Below w.heap.size w w' := by
  have HV := Lib.hid (show TermV t s.ix = .tuple #[.int .i64 s.tm, .bool true] from term_yes h)
  have HX := Lib.hid (⟨hx, hi⟩ : _ ∧ _)
  clear h hx hi
  unfold StP.v
  obtain ⟨z1, hz1⟩ : ∃ z, z = w.heap.size := ⟨_, rfl⟩
  obtain ⟨w1, hw1⟩ : ∃ x, x = w.alloc (.cells #[.int .i64 t.sn.ix, .int .i64 t.sn.tm, .int .i64 t.sn.sm, .int .i64 t.sn.lv, .bool t.sn.fn, .slice A n c, .int .i64 t.tm, .int .i64 t.vt] 26) := ⟨_, rfl⟩
  have bb : Below w.heap.size w w1 := by rw [hw1]; exact below_al (below_d0 _) _
  have bz : BoxU w1 z1 t (.slice A n c) := by rw [hw1, hz1]; exact BoxU.new w t _
  replace hS := hS.on bb bb.size
  have B1 := bb
  clear bb
  obtain ⟨z2, hz2⟩ : ∃ z, z = w1.heap.size := ⟨_, rfl⟩
  obtain ⟨w2, hw2⟩ : ∃ x, x = w1.alloc (.cells #[.int .i64 s.ix, .int .i64 s.tm, .int .i64 s.sm, .int .i64 s.lv, .bool s.fn] 23) := ⟨_, rfl⟩
  have bb : Below w1.heap.size w1 w2 := by rw [hw2]; exact below_al (below_d0 _) _
  have bs : BoxS w2 z2 s := by rw [hw2, hz2]; exact BoxS.new w1 s
  replace bz := bz.below bb
  replace hS := hS.on bb bb.size
  have B2 := B1.trans (bb.mono B1.size)
  clear bb B1
  have hp2 : z1 + 1 = z2 := by rw [hz2, hw1, hz1]; simp
  have lz2 : w.heap.size ≤ z2 := by omega
  have ne12 : z1 ≠ z2 := by omega
  have HE := Lib.hid (⟨hw1, hw2, hz1, hp2⟩ : _ ∧ _ ∧ _ ∧ _)
  have HLZ := Lib.hid lz2
  clear hw1 hz1 hw2 hz2 hp2 lz2
  unfold tupV
  go_enter Try.func46, Try.ntmps46
  obtain ⟨k0, k1, k2, k3, k4, k5, k6, k7⟩ := bz.cells
  obtain ⟨j0, j1, j2, j3, j4⟩ := bs.cells
  go_wp2_with fail
  clear k0 k1 k2 k3 k4 k5 k6 k7
  clear j0 j1 j2 j3 j4
  rw [← HE.out.1, ← HE.out.2.1, ← HE.out.2.2.1]
  (try rw [HE.out.2.2.2])
  clear HE
  refine Calls.mono (show Calls Try.prog 21 #[.agg #[.int .i64 t.sn.ix, .int .i64 t.sn.tm, .int .i64 t.sn.sm, .int .i64 t.sn.lv, .bool t.sn.fn, .slice A n c, .int .i64 t.tm, .int .i64 t.vt], .int .i64 s.ix] w2 (fun e w' => e = .returned (.tuple #[.int .i64 s.tm, .bool true]) ∧ Below w2.heap.size w2 w') from by rw [← HV.out]; exact termAt_any t A n c s.ix w2 hS hn HX.out.1 HX.out.2) ?_
  intro e w3 hh
  obtain ⟨rfl, bb⟩ := hh
  (try clear hh)
  replace bz := bz.below bb
  replace bs := bs.below bb
  replace hS := hS.on bb bb.size
  have B3 := B2.trans (bb.mono B2.size)
  clear bb B2
  obtain ⟨j0, j1, j2, j3, j4⟩ := bs.cells
  go_wp2_with fail
  clear j0 j1 j2 j3 j4
  go_ret
  exact ⟨rfl, B3⟩
/-- The term at s's Index is s's. -/
def hasB (t : TupP) (s : StP) : Bool := decide (termAtP t s.ix = some s.tm)
theorem has_any (t : TupP) (A : Option Addr) (n c : Nat) (s : StP) (w : World) (hS : Es w w.heap.size A n t.lg) (hn : n ≤ 100000) (hx : Mid t.sn.ix) (hi : I64 s.ix) :
    Calls Try.prog 46 #[tupV t (.slice A n c), s.v] w fun e w' => e = .returned (.bool (hasB t s)) ∧ Below w.heap.size w w' := by
  unfold hasB
  cases h : termAtP t s.ix with
  | none =>
    rw [decide_eq_false (fun h => by cases h)]
    exact has_none t A n c s w hS hn hx hi h
  | some x =>
    by_cases hne : x = s.tm
    · subst hne
      rw [decide_eq_true rfl]
      exact has_yes t A n c s w hS hn hx hi h
    · rw [decide_eq_false (fun h => hne (Option.some.inj h))]
      exact has_no t A n c s w hS hn hx hi x h hne
theorem put00U {W : World} {z : Nat} {t : TupP} {v : Value} (h : BoxU W z t v) (s : StP) : BoxU (W.setCell ⟨z, 0, none⟩ (.int .i64 s.ix)) z { t with sn := { t.sn with ix := s.ix } } v := by
  have h8 := (heap_set (i := 0) (show W.heap[z]? = _ from h) (.int .i64 s.ix))
  simp only [List.setIfInBounds_toArray, List.set_cons_zero, List.set_cons_succ] at h8
  exact h8
theorem put01U {W : World} {z : Nat} {t : TupP} {v : Value} (h : BoxU W z t v) (s : StP) : BoxU ((W.setCell ⟨z, 0, none⟩ (.int .i64 s.ix)).setCell ⟨z, 1, none⟩ (.int .i64 s.tm)) z { t with sn := { t.sn with ix := s.ix, tm := s.tm } } v := by
  have h8 := (heap_set (i := 1) (heap_set (i := 0) (show W.heap[z]? = _ from h) (.int .i64 s.ix)) (.int .i64 s.tm))
  simp only [List.setIfInBounds_toArray, List.set_cons_zero, List.set_cons_succ] at h8
  exact h8
theorem put02U {W : World} {z : Nat} {t : TupP} {v : Value} (h : BoxU W z t v) (s : StP) : BoxU (((W.setCell ⟨z, 0, none⟩ (.int .i64 s.ix)).setCell ⟨z, 1, none⟩ (.int .i64 s.tm)).setCell ⟨z, 2, none⟩ (.int .i64 s.sm)) z { t with sn := { t.sn with ix := s.ix, tm := s.tm, sm := s.sm } } v := by
  have h8 := (heap_set (i := 2) (heap_set (i := 1) (heap_set (i := 0) (show W.heap[z]? = _ from h) (.int .i64 s.ix)) (.int .i64 s.tm)) (.int .i64 s.sm))
  simp only [List.setIfInBounds_toArray, List.set_cons_zero, List.set_cons_succ] at h8
  exact h8
theorem put03U {W : World} {z : Nat} {t : TupP} {v : Value} (h : BoxU W z t v) (s : StP) : BoxU ((((W.setCell ⟨z, 0, none⟩ (.int .i64 s.ix)).setCell ⟨z, 1, none⟩ (.int .i64 s.tm)).setCell ⟨z, 2, none⟩ (.int .i64 s.sm)).setCell ⟨z, 3, none⟩ (.int .i64 s.lv)) z { t with sn := { t.sn with ix := s.ix, tm := s.tm, sm := s.sm, lv := s.lv } } v := by
  have h8 := (heap_set (i := 3) (heap_set (i := 2) (heap_set (i := 1) (heap_set (i := 0) (show W.heap[z]? = _ from h) (.int .i64 s.ix)) (.int .i64 s.tm)) (.int .i64 s.sm)) (.int .i64 s.lv))
  simp only [List.setIfInBounds_toArray, List.set_cons_zero, List.set_cons_succ] at h8
  exact h8
set_option maxRecDepth 100000 in
set_option maxHeartbeats 8000000 in
theorem saved_any (t : TupP) (A : Option Addr) (n c : Nat) (s : StP) (base : Nat) (w : World) (own : OwnF w base (.slice A n c) n t.lg) (hB : base ≤ w.heap.size) (hn : n ≤ 1000000) (hnc : n ≤ c) (hx : Mid t.sn.ix) (hr : t.sn.ix ≤ s.ix ∧ s.ix ≤ lastT t) :
    Calls Try.prog 47 #[tupV t (.slice A n c), s.v] w fun e w' => (∃ (A' : Option Addr) (n' c' : Nat), e = .returned (tupV (saveT t s) (.slice A' n' c')) ∧ n' ≤ c' ∧ n' ≤ 1000000 ∧ OwnF w' base (.slice A' n' c') n' (saveT t s).lg) ∧ Below w.heap.size w w' := by
  have hl := lenF own
  have hix : t.sn.ix ≤ s.ix ∧ s.ix ≤ lastT t := hr
  obtain ⟨u, hu⟩ : ∃ u : Nat, (u : Int) = s.ix - t.sn.ix := ⟨(s.ix - t.sn.ix).toNat, by omega⟩
  have hun : u ≤ n := by unfold lastT at hix; omega
  have HU := Lib.hid (show saveT t s = { t with sn := s, lg := t.lg.drop u } by unfold saveT; rw [show (s.ix - t.sn.ix).toNat = u by omega])
  have r3 : IntKind.i64.wrap (s.ix - t.sn.ix) = (u : Int) := by unfold Mid at hx; unfold lastT at hix; rw [IntKind.wrap_i64]; omega
  obtain ⟨i0, hi0, hz0, hz1, hz2⟩ := info_partsV info_entry
  obtain ⟨A7, hsl, hes⟩ := cut_restF Try.underlying24 hi0 hz1 A n c u hun hnc
  obtain ⟨u1, hu1⟩ : ∃ u1, u1 = n - u := ⟨_, rfl⟩
  obtain ⟨c1, hc1⟩ : ∃ c1, c1 = c - u := ⟨_, rfl⟩
  rw [← hu1, ← hc1] at hsl hes
  have hsl2 : ∀ W : World, (Instr.slice 24 (.slice A n c) (some (.int .i64 (u : Int))) none none).run Try.prog W = .ok (.slice A7 u1 c1) W := hsl
  have HO := Lib.hid (⟨own, hB, (show u1 ≤ c1 by omega), (show u1 ≤ 1000000 by omega)⟩ : _ ∧ _ ∧ _ ∧ _)
  clear hsl hu hu1 hc1 hix hr hx own hl hi0 hz0 hz1 hz2 hB
  unfold StP.v
  obtain ⟨z1, hz1⟩ : ∃ z, z = w.heap.size := ⟨_, rfl⟩
  obtain ⟨w1, hw1⟩ : ∃ x, x = w.alloc (.cells #[.int .i64 t.sn.ix, .int .i64 t.sn.tm, .int .i64 t.sn.sm, .int .i64 t.sn.lv, .bool t.sn.fn, .slice A n c, .int .i64 t.tm, .int .i64 t.vt] 26) := ⟨_, rfl⟩
  have bb : Below w.heap.size w w1 := by rw [hw1]; exact below_al (below_d0 _) _
  have bz : BoxU w1 z1 t (.slice A n c) := by rw [hw1, hz1]; exact BoxU.new w t _
  have B1 := bb
  clear bb
  obtain ⟨z2, hz2⟩ : ∃ z, z = w1.heap.size := ⟨_, rfl⟩
  obtain ⟨w2, hw2⟩ : ∃ x, x = w1.alloc (.cells #[.int .i64 s.ix, .int .i64 s.tm, .int .i64 s.sm, .int .i64 s.lv, .bool s.fn] 23) := ⟨_, rfl⟩
  have bb : Below w1.heap.size w1 w2 := by rw [hw2]; exact below_al (below_d0 _) _
  have bs : BoxS w2 z2 s := by rw [hw2, hz2]; exact BoxS.new w1 s
  replace bz := bz.below bb
  have B2 := B1.trans (bb.mono B1.size)
  clear bb B1
  obtain ⟨z3, hz3⟩ : ∃ z, z = w2.heap.size := ⟨_, rfl⟩
  obtain ⟨w3, hw3⟩ : ∃ x, x = w2.alloc (.cells #[.int .i64 0, .int .i64 0, .int .i64 0, .int .i64 0, .bool false, .slice none 0 0, .int .i64 0, .int .i64 0] 26) := ⟨_, rfl⟩
  have bb : Below w2.heap.size w2 w3 := by rw [hw3]; exact below_al (below_d0 _) _
  have br : BoxU w3 z3 noneT (.slice none 0 0) := by rw [hw3, hz3]; exact BoxU.new w2 noneT _
  replace bz := bz.below bb
  replace bs := bs.below bb
  have B3 := B2.trans (bb.mono B2.size)
  clear bb B2
  have hp2 : z1 + 1 = z2 := by rw [hz2, hw1, hz1]; simp
  have hp3 : z2 + 1 = z3 := by rw [hz3, hw2, hz2]; simp
  have lz2 : w.heap.size ≤ z2 := by omega
  have lz3 : w.heap.size ≤ z3 := by omega
  have ne12 : z1 ≠ z2 := by omega
  have ne13 : z1 ≠ z3 := by omega
  have ne23 : z2 ≠ z3 := by omega
  have HZZ1 := Lib.hid (show w.heap.size ≤ z1 by omega)
  have HE := Lib.hid (⟨hw1, hw2, hw3, hz1, hp2, hp3⟩ : _ ∧ _ ∧ _ ∧ _ ∧ _ ∧ _)
  have HLZ := Lib.hid (⟨lz2, lz3⟩ : _ ∧ _)
  clear hw1 hz1 hw2 hz2 hw3 hz3 hp2 hp3 lz2 lz3
  unfold tupV
  go_enter Try.func47, Try.ntmps47
  go_upto_region 1 with fail
  rw [← HE.out.1, ← HE.out.2.1, ← HE.out.2.2.1, ← HE.out.2.2.2.1]
  (try rw [HE.out.2.2.2.2.1])
  (try rw [HE.out.2.2.2.2.2])
  clear HE
  have own := keepF HO.out.1 B3
  have HZ1 := Lib.hid HZZ1.out
  obtain ⟨k0, k1, k2, k3, k4, k5, k6, k7⟩ := bz.cells
  obtain ⟨j0, j1, j2, j3, j4⟩ := bs.cells
  have f5 := bz.frozen 5
  go_upto_region 2 with fail
  clear k0 k1 k2 k3 k4 k5 k6 k7
  clear j0 j1 j2 j3 j4
  clear f5 hsl2 r3
  obtain ⟨w4, hw4⟩ : ∃ x, x = w3.setCell ⟨z1, 5, none⟩ (.slice A7 u1 c1) := ⟨_, rfl⟩
  replace own : OwnF w4 base (.slice A7 u1 c1) u1 (t.lg.drop u) := by rw [hw4]; exact set_ownF bz (hes own)
  replace bs : BoxS w4 z2 s := by rw [hw4]; exact bs.other (fun h => ne12 h.symm) _
  replace br : BoxU w4 z3 noneT (.slice none 0 0) := by rw [hw4]; exact set_boxU br (fun h => ne13 h.symm)
  replace bz : BoxU w4 z1 { t with lg := t.lg.drop u } (.slice A7 u1 c1) := by rw [hw4]; exact put5U bz (t.lg.drop u) _
  have B4 : Below w.heap.size w w4 := by rw [hw4]; exact B3.setCell (p := ⟨z1, 5, none⟩) HZ1.out _
  rw [← hw4]
  clear hw4 B3
  have f0 := bz.frozen 0
  have f1 := bz.frozen 1
  have f2 := bz.frozen 2
  have f3 := bz.frozen 3
  have f4 := bz.frozen 4
  obtain ⟨k0, k1, k2, k3, k4, k5, k6, k7⟩ := bz.cells
  obtain ⟨j0, j1, j2, j3, j4⟩ := bs.cells
  go_upto_region 3 with fail
  clear k0 k1 k2 k3 k4 k5 k6 k7
  clear j0 j1 j2 j3 j4
  clear f0 f1 f2 f3 f4
  obtain ⟨w5, hw5⟩ : ∃ x, x = (((((w4.setCell ⟨z1, 0, none⟩ (.int .i64 s.ix)).setCell ⟨z1, 1, none⟩ (.int .i64 s.tm)).setCell ⟨z1, 2, none⟩ (.int .i64 s.sm)).setCell ⟨z1, 3, none⟩ (.int .i64 s.lv)).setCell ⟨z1, 4, none⟩ (.bool s.fn)) := ⟨_, rfl⟩
  replace own : OwnF w5 base (.slice A7 u1 c1) u1 (t.lg.drop u) := by rw [hw5]; exact set_ownF (put03U bz s) (set_ownF (put02U bz s) (set_ownF (put01U bz s) (set_ownF (put00U bz s) (set_ownF bz own))))
  replace br : BoxU w5 z3 noneT (.slice none 0 0) := by rw [hw5]; have h := (fun h => ne13 h.symm : z3 ≠ z1); exact set_boxU (set_boxU (set_boxU (set_boxU (set_boxU br h) h) h) h) h
  replace bz : BoxU w5 z1 { t with sn := s, lg := t.lg.drop u } (.slice A7 u1 c1) := by rw [hw5]; exact put04U bz s
  have B5 : Below w.heap.size w w5 := by rw [hw5]; exact ((((B4.setCell (p := ⟨z1, 0, none⟩) HZ1.out _).setCell (p := ⟨z1, 1, none⟩) HZ1.out _).setCell (p := ⟨z1, 2, none⟩) HZ1.out _).setCell (p := ⟨z1, 3, none⟩) HZ1.out _).setCell (p := ⟨z1, 4, none⟩) HZ1.out _
  rw [← hw5]
  clear hw5 B4 bs
  obtain ⟨k0, k1, k2, k3, k4, k5, k6, k7⟩ := bz.cells
  (try dsimp only at k0)
  (try dsimp only at k1)
  (try dsimp only at k2)
  (try dsimp only at k3)
  (try dsimp only at k4)
  (try dsimp only at k5)
  (try dsimp only at k6)
  (try dsimp only at k7)
  obtain ⟨g0, g1, g2, g3, g4, g5, g6, g7⟩ := br.cells
  have f0 := br.frozen 0
  have f1 := br.frozen 1
  have f2 := br.frozen 2
  have f3 := br.frozen 3
  have f4 := br.frozen 4
  have f5 := br.frozen 5
  have f6 := br.frozen 6
  have f7 := br.frozen 7
  go_wp2_with fail
  clear k0 k1 k2 k3 k4 k5 k6 k7
  obtain ⟨W', hW'⟩ : ∃ W', W' = putU w5 z3 { t with sn := s, lg := t.lg.drop u } (.slice A7 u1 c1) := ⟨_, rfl⟩
  have b9 := putU_box br { t with sn := s, lg := t.lg.drop u } (.slice A7 u1 c1)
  have B9 := putU_below HLZ.out.2 { t with sn := s, lg := t.lg.drop u } (.slice A7 u1 c1) B5
  have own9 : OwnF W' base (.slice A7 u1 c1) u1 (t.lg.drop u) := by rw [hW']; exact putU_ownF br own
  rw [← hW'] at b9 B9
  have e9 : W' = ((((((((w5.setCell ⟨z3, 0, none⟩ (.int .i64 s.ix)).setCell ⟨z3, 1, none⟩ (.int .i64 s.tm)).setCell ⟨z3, 2, none⟩ (.int .i64 s.sm)).setCell ⟨z3, 3, none⟩ (.int .i64 s.lv)).setCell ⟨z3, 4, none⟩ (.bool s.fn)).setCell ⟨z3, 5, none⟩ (.slice A7 u1 c1)).setCell ⟨z3, 6, none⟩ (.int .i64 t.tm)).setCell ⟨z3, 7, none⟩ (.int .i64 t.vt)) := hW'
  rw [← e9]
  clear e9 hW' g0 g1 g2 g3 g4 g5 g6 g7 f0 f1 f2 f3 f4 f5 f6 f7
  obtain ⟨g0, g1, g2, g3, g4, g5, g6, g7⟩ := b9.cells
  exact bodyPost_ret (v := tupV { t with sn := s, lg := t.lg.drop u } (.slice A7 u1 c1)) (by unfold tupV; simp [results, Try.results47, go_sem, g0, g1, g2, g3, g4, g5, g6, g7]) rfl ⟨⟨A7, u1, c1, (by rw [HU.out]; rfl), HO.out.2.2.1, HO.out.2.2.2, by rw [HU.out]; exact own9⟩, B9⟩
set_option maxRecDepth 100000 in
set_option maxHeartbeats 8000000 in
theorem step_app (t : TupP) (l : List EnP) (A' : Option Addr) (m c' zl : Nat) (w0 : World) (bl : BoxV w0 zl 24 (.slice A' m c')) (hL : Es w0 w0.heap.size A' m l) (hm : m ≤ 100000) :
    StepIs 40 #[.pointer (some ⟨zl, 0, none⟩)] t (appendT t l) True w0 := by
  intro hM B1 w A n c hB hBw hw own hnc
  have hn : n ≤ 200 := by have := hM.few; have := own_len own; omega
  obtain ⟨i0, hi, hz0, hz1, hz2⟩ := info_partsV info_entry
  replace bl := bl.below hw
  replace hL := hL.on hw hw.size
  have HB := Lib.hid (⟨hBw, hm, hn⟩ : _ ∧ _ ∧ _)
  clear hw hB hM hBw hm hn
  obtain ⟨z1, hz1⟩ : ∃ z, z = w.heap.size := ⟨_, rfl⟩
  obtain ⟨w1, hw1⟩ : ∃ x, x = w.alloc (.cells #[.int .i64 t.sn.ix, .int .i64 t.sn.tm, .int .i64 t.sn.sm, .int .i64 t.sn.lv, .bool t.sn.fn, .slice A n c, .int .i64 t.tm, .int .i64 t.vt] 26) := ⟨_, rfl⟩
  have bb : Below w.heap.size w w1 := by rw [hw1]; exact below_al (below_d0 _) _
  have bz : BoxU w1 z1 t (.slice A n c) := by rw [hw1, hz1]; exact BoxU.new w t _
  replace own := own_keep own bb
  replace bl := bl.below bb
  replace hL := hL.on bb bb.size
  have B1 := bb
  clear bb
  obtain ⟨z2, hz2⟩ : ∃ z, z = w1.heap.size := ⟨_, rfl⟩
  obtain ⟨w2, hw2⟩ : ∃ x, x = w1.alloc (.cells #[.int .i64 0, .int .i64 0, .int .i64 0, .int .i64 0, .bool false, .slice none 0 0, .int .i64 0, .int .i64 0] 26) := ⟨_, rfl⟩
  have bb : Below w1.heap.size w1 w2 := by rw [hw2]; exact below_al (below_d0 _) _
  have br : BoxU w2 z2 noneT (.slice none 0 0) := by rw [hw2, hz2]; exact BoxU.new w1 noneT _
  replace own := own_keep own bb
  replace bl := bl.below bb
  replace bz := bz.below bb
  replace hL := hL.on bb bb.size
  have B2 := B1.trans (bb.mono B1.size)
  clear bb B1
  have hp2 : z1 + 1 = z2 := by rw [hz2, hw1, hz1]; simp
  have lz2 : w.heap.size ≤ z2 := by omega
  have ne12 : z1 ≠ z2 := by omega
  have HZZ1 := Lib.hid (show w.heap.size ≤ z1 by omega)
  have HE := Lib.hid (⟨hw1, hw2, hz1, hp2⟩ : _ ∧ _ ∧ _ ∧ _)
  have HLZ := Lib.hid lz2
  clear hw1 hz1 hw2 hz2 hp2 lz2
  unfold tupV
  show Calls Try.prog 40 #[.agg #[.int .i64 t.sn.ix, .int .i64 t.sn.tm, .int .i64 t.sn.sm, .int .i64 t.sn.lv, .bool t.sn.fn, .slice A n c, .int .i64 t.tm, .int .i64 t.vt], .pointer (some ⟨zl, 0, none⟩)] w _
  go_enter Try.func40, Try.ntmps40
  go_upto_region 1 with fail
  rw [← HE.out.1, ← HE.out.2.1, ← HE.out.2.2.1]
  (try rw [HE.out.2.2.2])
  clear HE
  have src := Row.source (by omega) EnP.len EnP.one hL
  have hzz := HZZ1.out
  have HZ1 := Lib.hid (show B1 ≤ z1 ∧ B1 ≤ z2 by have := HLZ.out; have := HB.out.1; omega)
  clear hzz
  have BB : Below B1 w w2 := B2.mono HB.out.1
  clear B2
  obtain ⟨k0, k1, k2, k3, k4, k5, k6, k7⟩ := bz.cells
  have f5 := bz.frozen 5
  have l5 := bl.cell
  go_wp2_with (at_builtin; refine hold ?_)
  refine unhold (wpList_append (.tmp 5) (.tmp 6) 24 Try.underlying24 hi hz0 hz1 hz2 entry_cells (by omega) own src (by have := HB.out.2; unfold maxLen; omega) (by have := HB.out.2; omega) (by have := BB.size; have := HB.out.1; omega) rfl rfl rfl rfl ?_)
  intro v1 w3 L
  have own1 : OwnE w3 B1 v1 (n + m) (t.lg ++ l) := by
    unfold OwnE
    rw [List.flatMap_append]
    exact L.1
  have bz1 : BoxU w3 z1 t (.slice A n c) := (L.2.1.block z1 bz.lt (fun e => own_boxU bz own z1 e.symm rfl)).trans bz
  have br1 : BoxU w3 z2 noneT (.slice none 0 0) := (L.2.1.block z2 br.lt (fun e => own_boxU br own z2 e.symm rfl)).trans br
  have B3 : Below B1 w w3 := L.below BB (by have := BB.size; have := HB.out.1; omega) (fun g hg => (own.lt g hg).1)
  obtain ⟨A6, c6, rfl, hnc6⟩ := own_slice own1
  clear own L src k0 k1 k2 k3 k4 k5 k6 k7 f5 l5 bz br bl hL BB hi hz0 hz1 hz2
  obtain ⟨k0, k1, k2, k3, k4, k5, k6, k7⟩ := bz1.cells
  have f5 := bz1.frozen 5
  go_upto_region 2 with fail
  clear k0 k1 k2 k3 k4 k5 k6 k7 f5
  obtain ⟨w4, hw4⟩ : ∃ x, x = w3.setCell ⟨z1, 5, none⟩ (.slice A6 (n + m) c6) := ⟨_, rfl⟩
  have own : OwnF w4 B1 (.slice A6 (n + m) c6) (n + m) (t.lg ++ l) := by rw [hw4]; exact set_ownF bz1 (OwnF.of own1)
  have br : BoxU w4 z2 noneT (.slice none 0 0) := by rw [hw4]; exact set_boxU br1 (fun h => ne12 h.symm)
  have bz : BoxU w4 z1 (appendT t l) (.slice A6 (n + m) c6) := by rw [hw4]; exact put5U bz1 (t.lg ++ l) _
  have B4 : Below B1 w w4 := by rw [hw4]; exact B3.setCell (p := ⟨z1, 5, none⟩) HZ1.out.1 _
  rw [← hw4]
  clear hw4 B3 own1 bz1 br1
  obtain ⟨k0, k1, k2, k3, k4, k5, k6, k7⟩ := bz.cells
  (try dsimp only [appendT] at k0)
  (try dsimp only [appendT] at k1)
  (try dsimp only [appendT] at k2)
  (try dsimp only [appendT] at k3)
  (try dsimp only [appendT] at k4)
  (try dsimp only [appendT] at k5)
  (try dsimp only [appendT] at k6)
  (try dsimp only [appendT] at k7)
  obtain ⟨g0, g1, g2, g3, g4, g5, g6, g7⟩ := br.cells
  have f0 := br.frozen 0
  have f1 := br.frozen 1
  have f2 := br.frozen 2
  have f3 := br.frozen 3
  have f4 := br.frozen 4
  have f5 := br.frozen 5
  have f6 := br.frozen 6
  have f7 := br.frozen 7
  go_wp2_with fail
  clear k0 k1 k2 k3 k4 k5 k6 k7
  obtain ⟨W', hW'⟩ : ∃ W', W' = putU w4 z2 (appendT t l) (.slice A6 (n + m) c6) := ⟨_, rfl⟩
  have b9 := putU_box br (appendT t l) (.slice A6 (n + m) c6)
  have B9 := putU_below HZ1.out.2 (appendT t l) (.slice A6 (n + m) c6) B4
  have own9 : OwnF W' B1 (.slice A6 (n + m) c6) (n + m) (t.lg ++ l) := by rw [hW']; exact putU_ownF br own
  rw [← hW'] at b9 B9
  have e9 : W' = ((((((((w4.setCell ⟨z2, 0, none⟩ (.int .i64 t.sn.ix)).setCell ⟨z2, 1, none⟩ (.int .i64 t.sn.tm)).setCell ⟨z2, 2, none⟩ (.int .i64 t.sn.sm)).setCell ⟨z2, 3, none⟩ (.int .i64 t.sn.lv)).setCell ⟨z2, 4, none⟩ (.bool t.sn.fn)).setCell ⟨z2, 5, none⟩ (.slice A6 (n + m) c6)).setCell ⟨z2, 6, none⟩ (.int .i64 t.tm)).setCell ⟨z2, 7, none⟩ (.int .i64 t.vt)) := hW'
  rw [← e9]
  clear e9 hW' g0 g1 g2 g3 g4 g5 g6 g7 f0 f1 f2 f3 f4 f5 f6 f7
  obtain ⟨g0, g1, g2, g3, g4, g5, g6, g7⟩ := b9.cells
  exact bodyPost_ret (v := tupV (appendT t l) (.slice A6 (n + m) c6)) (by unfold tupV; simp [results, Try.results40, go_sem, g0, g1, g2, g3, g4, g5, g6, g7]) rfl ⟨.inl ⟨trivial, A6, n + m, c6, rfl, hnc6, by have := HB.out.2; omega, own9⟩, B9⟩
set_option maxRecDepth 100000 in
set_option maxHeartbeats 8000000 in
theorem step_hard0 (t : TupP) (a b : Int) (za zb : Nat) (w0 : World) (ba : BoxV w0 za 3 (.int .i64 a)) (bb' : BoxV w0 zb 3 (.int .i64 b)) (c1 : t.tm < a) :
    StepIs 49 #[.pointer (some ⟨za, 0, none⟩), .pointer (some ⟨zb, 0, none⟩)] t (hardT t a b) (t.tm < a ∨ (a = t.tm ∧ (t.vt = 0 ∨ t.vt = b))) w0 := by
  intro hM B1 w A n c hB hBw hw own hnc
  have hn : n ≤ 200 := by have := hM.few; have := own_len own; omega
  replace ba := ba.below hw
  replace bb' := bb'.below hw
  have hzl : za < w.heap.size ∧ zb < w.heap.size := ⟨ba.lt, bb'.lt⟩
  have HB := Lib.hid (⟨hBw, hnc, hn, hzl⟩ : _ ∧ _ ∧ _ ∧ _)
  clear hw hB hM hBw hn hnc hzl
  have HC := Lib.hid (show (t.tm < a ∨ (a = t.tm ∧ (t.vt = 0 ∨ t.vt = b))) by omega)
  have q0 : decide (t.tm < a) = true := decide_eq_true c1
  clear c1
  obtain ⟨z1, hz1⟩ : ∃ z, z = w.heap.size := ⟨_, rfl⟩
  obtain ⟨w1, hw1⟩ : ∃ x, x = w.alloc (.cells #[.int .i64 t.sn.ix, .int .i64 t.sn.tm, .int .i64 t.sn.sm, .int .i64 t.sn.lv, .bool t.sn.fn, .slice A n c, .int .i64 t.tm, .int .i64 t.vt] 26) := ⟨_, rfl⟩
  have bb : Below w.heap.size w w1 := by rw [hw1]; exact below_al (below_d0 _) _
  have bz : BoxU w1 z1 t (.slice A n c) := by rw [hw1, hz1]; exact BoxU.new w t _
  replace own := own_keep own bb
  replace ba := ba.below bb
  replace bb' := bb'.below bb
  have B1 := bb
  clear bb
  obtain ⟨z2, hz2⟩ : ∃ z, z = w1.heap.size := ⟨_, rfl⟩
  obtain ⟨w2, hw2⟩ : ∃ x, x = w1.alloc (.cells #[.int .i64 0, .int .i64 0, .int .i64 0, .int .i64 0, .bool false, .slice none 0 0, .int .i64 0, .int .i64 0] 26) := ⟨_, rfl⟩
  have bb : Below w1.heap.size w1 w2 := by rw [hw2]; exact below_al (below_d0 _) _
  have br : BoxU w2 z2 noneT (.slice none 0 0) := by rw [hw2, hz2]; exact BoxU.new w1 noneT _
  replace own := own_keep own bb
  replace ba := ba.below bb
  replace bb' := bb'.below bb
  replace bz := bz.below bb
  have B2 := B1.trans (bb.mono B1.size)
  clear bb B1
  have hp2 : z1 + 1 = z2 := by rw [hz2, hw1, hz1]; simp
  have lz2 : w.heap.size ≤ z2 := by omega
  have ne12 : z1 ≠ z2 := by omega
  have HZZ1 := Lib.hid (show w.heap.size ≤ z1 by omega)
  have HE := Lib.hid (⟨hw1, hw2, hz1, hp2⟩ : _ ∧ _ ∧ _ ∧ _)
  have HLZ := Lib.hid lz2
  clear hw1 hz1 hw2 hz2 hp2 lz2
  unfold tupV
  show Calls Try.prog 49 #[.agg #[.int .i64 t.sn.ix, .int .i64 t.sn.tm, .int .i64 t.sn.sm, .int .i64 t.sn.lv, .bool t.sn.fn, .slice A n c, .int .i64 t.tm, .int .i64 t.vt], .pointer (some ⟨za, 0, none⟩), .pointer (some ⟨zb, 0, none⟩)] w _
  go_enter Try.func49, Try.ntmps49
  go_upto_region 1 with fail
  rw [← HE.out.1, ← HE.out.2.1, ← HE.out.2.2.1]
  (try rw [HE.out.2.2.2])
  clear HE
  have HZ1 := Lib.hid (show B1 ≤ z1 ∧ B1 ≤ z2 by have := HZZ1.out; have := HLZ.out; have := HB.out.1; omega)
  have HN := Lib.hid (show za ≠ z1 ∧ zb ≠ z1 by have := HZZ1.out; have := HB.out.2.2.2; omega)
  have BB : Below B1 w w2 := B2.mono HB.out.1
  clear B2
  obtain ⟨k0, k1, k2, k3, k4, k5, k6, k7⟩ := bz.cells
  have la := ba.cell
  have lb := bb'.cell
  go_wp2_with fail
  clear k0 k1 k2 k3 k4 k5 k6 k7
  clear q0
  refine Calls.mono (must_yes w2) ?_
  intro e wv hh
  obtain ⟨rfl, hwv⟩ := hh
  replace hwv := hwv.symm
  subst hwv
  clear la lb
  go_upto_region 2 with fail
  have hDb : BoxV w2.drew za 3 (.int .i64 a) ∧ BoxV w2.drew zb 3 (.int .i64 b) := ⟨ba, bb'⟩
  have bz' : BoxU w2.drew z1 t (.slice A n c) := bz
  have br' : BoxU w2.drew z2 noneT (.slice none 0 0) := br
  have own' := keepF (OwnF.of own) ((Below.refl w2.heap.size w2).drew)
  have BB' : Below B1 w w2.drew := BB.drew
  have kf6 := bz.frozen 6
  obtain ⟨k0, k1, k2, k3, k4, k5, k6, k7⟩ := bz.cells
  refine wp_region_held_drew (S := (fun X => BoxV X za 3 (.int .i64 a) ∧ BoxV X zb 3 (.int .i64 b))) (by kernel_rfl) hDb (fun hHeld => ?_)
  refine take_at (i := 0) (d := 27) (oi := ?o1) (v := ?v1) ?hi1 ?hd1 (by kernel_rfl) (by kernel_rfl) (by kernel_rfl) ?hw1 ?hy1 ?hq1 (by assumption) ?r1
  case hi1 => (simp only [List.getElem?_toArray, List.getElem?_cons_zero]; rfl)
  case hd1 => rfl
  case hw1 => rfl
  case hy1 => ((intro w hSw; (try dsimp only at hSw); obtain ⟨s0, s1⟩ : _ ∧ _ := ⟨BoxV.cell hSw.1, BoxV.cell hSw.2⟩; go_simp) <;> (with_reducible rfl))
  case hq1 => exact fun _ _ _ h => h
  simp only [List.set_cons_succ, List.set_cons_zero]
  refine take_at (i := 1) (d := 28) (oi := ?o2) (v := ?v2) ?hi2 ?hd2 (by kernel_rfl) (by kernel_rfl) (by kernel_rfl) ?hw2 ?hy2 ?hq2 (by assumption) ?r2
  case hi2 => (simp only [List.getElem?_toArray, List.getElem?_cons_succ, List.getElem?_cons_zero]; rfl)
  case hd2 => rfl
  case hw2 => rfl
  case hy2 => ((intro w hSw; (try dsimp only at hSw); obtain ⟨s0, s1⟩ : _ ∧ _ := ⟨BoxV.cell hSw.1, BoxV.cell hSw.2⟩; go_simp) <;> (with_reducible rfl))
  case hq2 => exact fun _ _ _ h => h
  simp only [List.set_cons_succ, List.set_cons_zero]
  refine take_at (i := 2) (d := 29) (oi := ?o3) (v := ?v3) ?hi3 ?hd3 (by kernel_rfl) (by kernel_rfl) (by kernel_rfl) ?hw3 ?hy3 ?hq3 (by assumption) ?r3
  case hi3 => (simp only [List.getElem?_toArray, List.getElem?_cons_succ, List.getElem?_cons_zero]; rfl)
  case hd3 => rfl
  case hw3 => rfl
  case hy3 => ((intro w hSw; (try dsimp only at hSw); obtain ⟨s0, s1⟩ : _ ∧ _ := ⟨BoxV.cell hSw.1, BoxV.cell hSw.2⟩; go_simp) <;> (with_reducible rfl))
  case hq3 => exact fun _ _ _ h => h
  simp only [List.set_cons_succ, List.set_cons_zero]
  obtain ⟨y1, hy1⟩ : ∃ x, x = w2.drew.setCell ⟨z1, 6, none⟩ (.int .i64 a) := ⟨_, rfl⟩
  have hD1 : BoxV y1 za 3 (.int .i64 a) ∧ BoxV y1 zb 3 (.int .i64 b) := by
    rw [hy1]
    exact ⟨(Below.heap_setCell _ _ _ za (by simpa using HN.out.1)).trans hDb.1, (Below.heap_setCell _ _ _ zb (by simpa using HN.out.2)).trans hDb.2⟩
  refine wpAnyH_ready (rs := [3]) (by kernel_rfl) (by simp) ?_
  refine br_store (i := 3) (oi := ?o4) (w' := y1) ?hi4 ?hd4 ?hw4 ?he4 hD1 ?hc4
  case hi4 => (simp only [List.getElem?_toArray, List.getElem?_cons_succ, List.getElem?_cons_zero]; rfl)
  case hd4 => rfl
  case hw4 => rfl
  case he4 => (rw [hy1]; go_simp <;> with_reducible rfl)
  intro hHeld
  have bz1 : BoxU y1 z1 { t with tm := a } (.slice A n c) := by rw [hy1]; exact put6U bz' a
  have br1 : BoxU y1 z2 noneT (.slice none 0 0) := by rw [hy1]; exact set_boxU br' (fun h => ne12 h.symm)
  have own1 : OwnF y1 B1 (.slice A n c) n t.lg := by rw [hy1]; exact set_ownF bz' own'
  have BB1 : Below B1 w y1 := by rw [hy1]; exact BB'.setCell (p := ⟨z1, 6, none⟩) HZ1.out.1 _
  clear hy1 kf6 k0 k1 k2 k3 k4 k5 k6 k7
  have kf7 := bz1.frozen 7
  obtain ⟨k0, k1, k2, k3, k4, k5, k6, k7⟩ := bz1.cells
  refine take_at (i := 4) (d := 30) (oi := ?o5) (v := ?v5) ?hi5 ?hd5 (by kernel_rfl) (by kernel_rfl) (by kernel_rfl) ?hw5 ?hy5 ?hq5 (by assumption) ?r5
  case hi5 => (simp only [List.getElem?_toArray, List.getElem?_cons_succ, List.getElem?_cons_zero]; rfl)
  case hd5 => rfl
  case hw5 => rfl
  case hy5 => ((intro w hSw; (try dsimp only at hSw); obtain ⟨s0, s1⟩ : _ ∧ _ := ⟨BoxV.cell hSw.1, BoxV.cell hSw.2⟩; go_simp) <;> (with_reducible rfl))
  case hq5 => exact fun _ _ _ h => h
  simp only [List.set_cons_succ, List.set_cons_zero]
  obtain ⟨w3, hw3⟩ : ∃ x, x = y1.setCell ⟨z1, 7, none⟩ (.int .i64 b) := ⟨_, rfl⟩
  have hD2 : BoxV w3 za 3 (.int .i64 a) ∧ BoxV w3 zb 3 (.int .i64 b) := by
    rw [hw3]
    exact ⟨(Below.heap_setCell _ _ _ za (by simpa using HN.out.1)).trans hD1.1, (Below.heap_setCell _ _ _ zb (by simpa using HN.out.2)).trans hD1.2⟩
  refine wpAnyH_ready (rs := [5]) (by kernel_rfl) (by simp) ?_
  refine br_store (i := 5) (oi := ?o6) (w' := w3) ?hi6 ?hd6 ?hw6 ?he6 hD2 ?hc6
  case hi6 => (simp only [List.getElem?_toArray, List.getElem?_cons_succ, List.getElem?_cons_zero]; rfl)
  case hd6 => rfl
  case hw6 => rfl
  case he6 => (rw [hw3]; go_simp <;> with_reducible rfl)
  intro hHeld
  have bz2 : BoxU w3 z1 (hardT t a b) (.slice A n c) := by rw [hw3]; exact put7U bz1 b
  have br2 : BoxU w3 z2 noneT (.slice none 0 0) := by rw [hw3]; exact set_boxU br1 (fun h => ne12 h.symm)
  have own2 : OwnF w3 B1 (.slice A n c) n t.lg := by rw [hw3]; exact set_ownF bz1 own1
  have BB2 : Below B1 w w3 := by rw [hw3]; exact BB1.setCell (p := ⟨z1, 7, none⟩) HZ1.out.1 _
  clear hw3 kf7 k0 k1 k2 k3 k4 k5 k6 k7
  refine wpAnyH_done (by kernel_rfl) ?_ _
  clear hHeld hD1 hD2 hDb bz bz' bz1 br br' br1 own own' own1 BB BB' BB1 ba bb'
  obtain ⟨k0, k1, k2, k3, k4, k5, k6, k7⟩ := bz2.cells
  (try dsimp only [hardT] at k0)
  (try dsimp only [hardT] at k1)
  (try dsimp only [hardT] at k2)
  (try dsimp only [hardT] at k3)
  (try dsimp only [hardT] at k4)
  (try dsimp only [hardT] at k5)
  (try dsimp only [hardT] at k6)
  (try dsimp only [hardT] at k7)
  obtain ⟨g0, g1, g2, g3, g4, g5, g6, g7⟩ := br2.cells
  have f0 := br2.frozen 0
  have f1 := br2.frozen 1
  have f2 := br2.frozen 2
  have f3 := br2.frozen 3
  have f4 := br2.frozen 4
  have f5 := br2.frozen 5
  have f6 := br2.frozen 6
  have f7 := br2.frozen 7
  go_wp2_with fail
  clear k0 k1 k2 k3 k4 k5 k6 k7
  obtain ⟨W', hW'⟩ : ∃ W', W' = putU w3 z2 (hardT t a b) (.slice A n c) := ⟨_, rfl⟩
  have b9 := putU_box br2 (hardT t a b) (.slice A n c)
  have B9 := putU_below HZ1.out.2 (hardT t a b) (.slice A n c) BB2
  have own9 : OwnF W' B1 (.slice A n c) n t.lg := by rw [hW']; exact putU_ownF br2 own2
  rw [← hW'] at b9 B9
  have e9 : W' = ((((((((w3.setCell ⟨z2, 0, none⟩ (.int .i64 t.sn.ix)).setCell ⟨z2, 1, none⟩ (.int .i64 t.sn.tm)).setCell ⟨z2, 2, none⟩ (.int .i64 t.sn.sm)).setCell ⟨z2, 3, none⟩ (.int .i64 t.sn.lv)).setCell ⟨z2, 4, none⟩ (.bool t.sn.fn)).setCell ⟨z2, 5, none⟩ (.slice A n c)).setCell ⟨z2, 6, none⟩ (.int .i64 a)).setCell ⟨z2, 7, none⟩ (.int .i64 b)) := hW'
  rw [← e9]
  clear e9 hW' g0 g1 g2 g3 g4 g5 g6 g7 f0 f1 f2 f3 f4 f5 f6 f7
  obtain ⟨g0, g1, g2, g3, g4, g5, g6, g7⟩ := b9.cells
  exact bodyPost_ret (v := tupV (hardT t a b) (.slice A n c)) (by unfold tupV; simp [results, Try.results49, go_sem, g0, g1, g2, g3, g4, g5, g6, g7]) rfl ⟨.inl ⟨HC.out, A, n, c, rfl, HB.out.2.1, by have := HB.out.2.2.1; omega, own9⟩, B9⟩
set_option maxRecDepth 100000 in
set_option maxHeartbeats 8000000 in
theorem step_hard1 (t : TupP) (a b : Int) (za zb : Nat) (w0 : World) (ba : BoxV w0 za 3 (.int .i64 a)) (bb' : BoxV w0 zb 3 (.int .i64 b)) (c1 : ¬ t.tm < a) (c2 : ¬ a = t.tm) :
    StepIs 49 #[.pointer (some ⟨za, 0, none⟩), .pointer (some ⟨zb, 0, none⟩)] t (hardT t a b) (t.tm < a ∨ (a = t.tm ∧ (t.vt = 0 ∨ t.vt = b))) w0 := by
  intro hM B1 w A n c hB hBw hw own hnc
  have hn : n ≤ 200 := by have := hM.few; have := own_len own; omega
  replace ba := ba.below hw
  replace bb' := bb'.below hw
  have hzl : za < w.heap.size ∧ zb < w.heap.size := ⟨ba.lt, bb'.lt⟩
  have HB := Lib.hid (⟨hBw, hnc, hn, hzl⟩ : _ ∧ _ ∧ _ ∧ _)
  clear hw hB hM hBw hn hnc hzl
  have HC := Lib.hid (show ¬ (t.tm < a ∨ (a = t.tm ∧ (t.vt = 0 ∨ t.vt = b))) by omega)
  have q0 : decide (t.tm < a) = false := decide_eq_false c1
  have q1 : (a == t.tm) = false := by simpa using c2
  clear c1 c2
  obtain ⟨z1, hz1⟩ : ∃ z, z = w.heap.size := ⟨_, rfl⟩
  obtain ⟨w1, hw1⟩ : ∃ x, x = w.alloc (.cells #[.int .i64 t.sn.ix, .int .i64 t.sn.tm, .int .i64 t.sn.sm, .int .i64 t.sn.lv, .bool t.sn.fn, .slice A n c, .int .i64 t.tm, .int .i64 t.vt] 26) := ⟨_, rfl⟩
  have bb : Below w.heap.size w w1 := by rw [hw1]; exact below_al (below_d0 _) _
  have bz : BoxU w1 z1 t (.slice A n c) := by rw [hw1, hz1]; exact BoxU.new w t _
  replace own := own_keep own bb
  replace ba := ba.below bb
  replace bb' := bb'.below bb
  have B1 := bb
  clear bb
  obtain ⟨z2, hz2⟩ : ∃ z, z = w1.heap.size := ⟨_, rfl⟩
  obtain ⟨w2, hw2⟩ : ∃ x, x = w1.alloc (.cells #[.int .i64 0, .int .i64 0, .int .i64 0, .int .i64 0, .bool false, .slice none 0 0, .int .i64 0, .int .i64 0] 26) := ⟨_, rfl⟩
  have bb : Below w1.heap.size w1 w2 := by rw [hw2]; exact below_al (below_d0 _) _
  have br : BoxU w2 z2 noneT (.slice none 0 0) := by rw [hw2, hz2]; exact BoxU.new w1 noneT _
  replace own := own_keep own bb
  replace ba := ba.below bb
  replace bb' := bb'.below bb
  replace bz := bz.below bb
  have B2 := B1.trans (bb.mono B1.size)
  clear bb B1
  have hp2 : z1 + 1 = z2 := by rw [hz2, hw1, hz1]; simp
  have lz2 : w.heap.size ≤ z2 := by omega
  have ne12 : z1 ≠ z2 := by omega
  have HZZ1 := Lib.hid (show w.heap.size ≤ z1 by omega)
  have HE := Lib.hid (⟨hw1, hw2, hz1, hp2⟩ : _ ∧ _ ∧ _ ∧ _)
  have HLZ := Lib.hid lz2
  clear hw1 hz1 hw2 hz2 hp2 lz2
  unfold tupV
  show Calls Try.prog 49 #[.agg #[.int .i64 t.sn.ix, .int .i64 t.sn.tm, .int .i64 t.sn.sm, .int .i64 t.sn.lv, .bool t.sn.fn, .slice A n c, .int .i64 t.tm, .int .i64 t.vt], .pointer (some ⟨za, 0, none⟩), .pointer (some ⟨zb, 0, none⟩)] w _
  go_enter Try.func49, Try.ntmps49
  go_upto_region 1 with fail
  rw [← HE.out.1, ← HE.out.2.1, ← HE.out.2.2.1]
  (try rw [HE.out.2.2.2])
  clear HE
  have HZ1 := Lib.hid (show B1 ≤ z1 ∧ B1 ≤ z2 by have := HZZ1.out; have := HLZ.out; have := HB.out.1; omega)
  have HN := Lib.hid (show za ≠ z1 ∧ zb ≠ z1 by have := HZZ1.out; have := HB.out.2.2.2; omega)
  have BB : Below B1 w w2 := B2.mono HB.out.1
  clear B2
  obtain ⟨k0, k1, k2, k3, k4, k5, k6, k7⟩ := bz.cells
  have la := ba.cell
  have lb := bb'.cell
  go_wp2_with fail
  clear k0 k1 k2 k3 k4 k5 k6 k7
  clear q0 q1
  refine Calls.mono (must_no w2) ?_
  intro e wv hh
  obtain ⟨rfl, hwv⟩ := hh
  replace hwv := hwv.symm
  subst hwv
  exact ⟨rfl, .inr ⟨HC.out, rfl⟩, BB⟩
set_option maxRecDepth 100000 in
set_option maxHeartbeats 8000000 in
theorem step_hard2 (t : TupP) (a b : Int) (za zb : Nat) (w0 : World) (ba : BoxV w0 za 3 (.int .i64 a)) (bb' : BoxV w0 zb 3 (.int .i64 b)) (c1 : ¬ t.tm < a) (c2 : a = t.tm) (c3 : t.vt = 0) :
    StepIs 49 #[.pointer (some ⟨za, 0, none⟩), .pointer (some ⟨zb, 0, none⟩)] t (hardT t a b) (t.tm < a ∨ (a = t.tm ∧ (t.vt = 0 ∨ t.vt = b))) w0 := by
  intro hM B1 w A n c hB hBw hw own hnc
  have hn : n ≤ 200 := by have := hM.few; have := own_len own; omega
  replace ba := ba.below hw
  replace bb' := bb'.below hw
  have hzl : za < w.heap.size ∧ zb < w.heap.size := ⟨ba.lt, bb'.lt⟩
  have HB := Lib.hid (⟨hBw, hnc, hn, hzl⟩ : _ ∧ _ ∧ _ ∧ _)
  clear hw hB hM hBw hn hnc hzl
  have HC := Lib.hid (show (t.tm < a ∨ (a = t.tm ∧ (t.vt = 0 ∨ t.vt = b))) by omega)
  have q0 : decide (t.tm < a) = false := decide_eq_false c1
  have q1 : (a == t.tm) = true := by simpa using c2
  have q2 : (t.vt == 0) = true := by simpa using c3
  clear c1 c2 c3
  obtain ⟨z1, hz1⟩ : ∃ z, z = w.heap.size := ⟨_, rfl⟩
  obtain ⟨w1, hw1⟩ : ∃ x, x = w.alloc (.cells #[.int .i64 t.sn.ix, .int .i64 t.sn.tm, .int .i64 t.sn.sm, .int .i64 t.sn.lv, .bool t.sn.fn, .slice A n c, .int .i64 t.tm, .int .i64 t.vt] 26) := ⟨_, rfl⟩
  have bb : Below w.heap.size w w1 := by rw [hw1]; exact below_al (below_d0 _) _
  have bz : BoxU w1 z1 t (.slice A n c) := by rw [hw1, hz1]; exact BoxU.new w t _
  replace own := own_keep own bb
  replace ba := ba.below bb
  replace bb' := bb'.below bb
  have B1 := bb
  clear bb
  obtain ⟨z2, hz2⟩ : ∃ z, z = w1.heap.size := ⟨_, rfl⟩
  obtain ⟨w2, hw2⟩ : ∃ x, x = w1.alloc (.cells #[.int .i64 0, .int .i64 0, .int .i64 0, .int .i64 0, .bool false, .slice none 0 0, .int .i64 0, .int .i64 0] 26) := ⟨_, rfl⟩
  have bb : Below w1.heap.size w1 w2 := by rw [hw2]; exact below_al (below_d0 _) _
  have br : BoxU w2 z2 noneT (.slice none 0 0) := by rw [hw2, hz2]; exact BoxU.new w1 noneT _
  replace own := own_keep own bb
  replace ba := ba.below bb
  replace bb' := bb'.below bb
  replace bz := bz.below bb
  have B2 := B1.trans (bb.mono B1.size)
  clear bb B1
  have hp2 : z1 + 1 = z2 := by rw [hz2, hw1, hz1]; simp
  have lz2 : w.heap.size ≤ z2 := by omega
  have ne12 : z1 ≠ z2 := by omega
  have HZZ1 := Lib.hid (show w.heap.size ≤ z1 by omega)
  have HE := Lib.hid (⟨hw1, hw2, hz1, hp2⟩ : _ ∧ _ ∧ _ ∧ _)
  have HLZ := Lib.hid lz2
  clear hw1 hz1 hw2 hz2 hp2 lz2
  unfold tupV
  show Calls Try.prog 49 #[.agg #[.int .i64 t.sn.ix, .int .i64 t.sn.tm, .int .i64 t.sn.sm, .int .i64 t.sn.lv, .bool t.sn.fn, .slice A n c, .int .i64 t.tm, .int .i64 t.vt], .pointer (some ⟨za, 0, none⟩), .pointer (some ⟨zb, 0, none⟩)] w _
  go_enter Try.func49, Try.ntmps49
  go_upto_region 1 with fail
  rw [← HE.out.1, ← HE.out.2.1, ← HE.out.2.2.1]
  (try rw [HE.out.2.2.2])
  clear HE
  have HZ1 := Lib.hid (show B1 ≤ z1 ∧ B1 ≤ z2 by have := HZZ1.out; have := HLZ.out; have := HB.out.1; omega)
  have HN := Lib.hid (show za ≠ z1 ∧ zb ≠ z1 by have := HZZ1.out; have := HB.out.2.2.2; omega)
  have BB : Below B1 w w2 := B2.mono HB.out.1
  clear B2
  obtain ⟨k0, k1, k2, k3, k4, k5, k6, k7⟩ := bz.cells
  have la := ba.cell
  have lb := bb'.cell
  go_wp2_with fail
  clear k0 k1 k2 k3 k4 k5 k6 k7
  clear q0 q1 q2
  refine Calls.mono (must_yes w2) ?_
  intro e wv hh
  obtain ⟨rfl, hwv⟩ := hh
  replace hwv := hwv.symm
  subst hwv
  clear la lb
  go_upto_region 2 with fail
  have hDb : BoxV w2.drew za 3 (.int .i64 a) ∧ BoxV w2.drew zb 3 (.int .i64 b) := ⟨ba, bb'⟩
  have bz' : BoxU w2.drew z1 t (.slice A n c) := bz
  have br' : BoxU w2.drew z2 noneT (.slice none 0 0) := br
  have own' := keepF (OwnF.of own) ((Below.refl w2.heap.size w2).drew)
  have BB' : Below B1 w w2.drew := BB.drew
  have kf6 := bz.frozen 6
  obtain ⟨k0, k1, k2, k3, k4, k5, k6, k7⟩ := bz.cells
  refine wp_region_held_drew (S := (fun X => BoxV X za 3 (.int .i64 a) ∧ BoxV X zb 3 (.int .i64 b))) (by kernel_rfl) hDb (fun hHeld => ?_)
  refine take_at (i := 0) (d := 27) (oi := ?o7) (v := ?v7) ?hi7 ?hd7 (by kernel_rfl) (by kernel_rfl) (by kernel_rfl) ?hw7 ?hy7 ?hq7 (by assumption) ?r7
  case hi7 => (simp only [List.getElem?_toArray, List.getElem?_cons_zero]; rfl)
  case hd7 => rfl
  case hw7 => rfl
  case hy7 => ((intro w hSw; (try dsimp only at hSw); obtain ⟨s0, s1⟩ : _ ∧ _ := ⟨BoxV.cell hSw.1, BoxV.cell hSw.2⟩; go_simp) <;> (with_reducible rfl))
  case hq7 => exact fun _ _ _ h => h
  simp only [List.set_cons_succ, List.set_cons_zero]
  refine take_at (i := 1) (d := 28) (oi := ?o8) (v := ?v8) ?hi8 ?hd8 (by kernel_rfl) (by kernel_rfl) (by kernel_rfl) ?hw8 ?hy8 ?hq8 (by assumption) ?r8
  case hi8 => (simp only [List.getElem?_toArray, List.getElem?_cons_succ, List.getElem?_cons_zero]; rfl)
  case hd8 => rfl
  case hw8 => rfl
  case hy8 => ((intro w hSw; (try dsimp only at hSw); obtain ⟨s0, s1⟩ : _ ∧ _ := ⟨BoxV.cell hSw.1, BoxV.cell hSw.2⟩; go_simp) <;> (with_reducible rfl))
  case hq8 => exact fun _ _ _ h => h
  simp only [List.set_cons_succ, List.set_cons_zero]
  refine take_at (i := 2) (d := 29) (oi := ?o9) (v := ?v9) ?hi9 ?hd9 (by kernel_rfl) (by kernel_rfl) (by kernel_rfl) ?hw9 ?hy9 ?hq9 (by assumption) ?r9
  case hi9 => (simp only [List.getElem?_toArray, List.getElem?_cons_succ, List.getElem?_cons_zero]; rfl)
  case hd9 => rfl
  case hw9 => rfl
  case hy9 => ((intro w hSw; (try dsimp only at hSw); obtain ⟨s0, s1⟩ : _ ∧ _ := ⟨BoxV.cell hSw.1, BoxV.cell hSw.2⟩; go_simp) <;> (with_reducible rfl))
  case hq9 => exact fun _ _ _ h => h
  simp only [List.set_cons_succ, List.set_cons_zero]
  obtain ⟨y1, hy1⟩ : ∃ x, x = w2.drew.setCell ⟨z1, 6, none⟩ (.int .i64 a) := ⟨_, rfl⟩
  have hD1 : BoxV y1 za 3 (.int .i64 a) ∧ BoxV y1 zb 3 (.int .i64 b) := by
    rw [hy1]
    exact ⟨(Below.heap_setCell _ _ _ za (by simpa using HN.out.1)).trans hDb.1, (Below.heap_setCell _ _ _ zb (by simpa using HN.out.2)).trans hDb.2⟩
  refine wpAnyH_ready (rs := [3]) (by kernel_rfl) (by simp) ?_
  refine br_store (i := 3) (oi := ?o10) (w' := y1) ?hi10 ?hd10 ?hw10 ?he10 hD1 ?hc10
  case hi10 => (simp only [List.getElem?_toArray, List.getElem?_cons_succ, List.getElem?_cons_zero]; rfl)
  case hd10 => rfl
  case hw10 => rfl
  case he10 => (rw [hy1]; go_simp <;> with_reducible rfl)
  intro hHeld
  have bz1 : BoxU y1 z1 { t with tm := a } (.slice A n c) := by rw [hy1]; exact put6U bz' a
  have br1 : BoxU y1 z2 noneT (.slice none 0 0) := by rw [hy1]; exact set_boxU br' (fun h => ne12 h.symm)
  have own1 : OwnF y1 B1 (.slice A n c) n t.lg := by rw [hy1]; exact set_ownF bz' own'
  have BB1 : Below B1 w y1 := by rw [hy1]; exact BB'.setCell (p := ⟨z1, 6, none⟩) HZ1.out.1 _
  clear hy1 kf6 k0 k1 k2 k3 k4 k5 k6 k7
  have kf7 := bz1.frozen 7
  obtain ⟨k0, k1, k2, k3, k4, k5, k6, k7⟩ := bz1.cells
  refine take_at (i := 4) (d := 30) (oi := ?o11) (v := ?v11) ?hi11 ?hd11 (by kernel_rfl) (by kernel_rfl) (by kernel_rfl) ?hw11 ?hy11 ?hq11 (by assumption) ?r11
  case hi11 => (simp only [List.getElem?_toArray, List.getElem?_cons_succ, List.getElem?_cons_zero]; rfl)
  case hd11 => rfl
  case hw11 => rfl
  case hy11 => ((intro w hSw; (try dsimp only at hSw); obtain ⟨s0, s1⟩ : _ ∧ _ := ⟨BoxV.cell hSw.1, BoxV.cell hSw.2⟩; go_simp) <;> (with_reducible rfl))
  case hq11 => exact fun _ _ _ h => h
  simp only [List.set_cons_succ, List.set_cons_zero]
  obtain ⟨w3, hw3⟩ : ∃ x, x = y1.setCell ⟨z1, 7, none⟩ (.int .i64 b) := ⟨_, rfl⟩
  have hD2 : BoxV w3 za 3 (.int .i64 a) ∧ BoxV w3 zb 3 (.int .i64 b) := by
    rw [hw3]
    exact ⟨(Below.heap_setCell _ _ _ za (by simpa using HN.out.1)).trans hD1.1, (Below.heap_setCell _ _ _ zb (by simpa using HN.out.2)).trans hD1.2⟩
  refine wpAnyH_ready (rs := [5]) (by kernel_rfl) (by simp) ?_
  refine br_store (i := 5) (oi := ?o12) (w' := w3) ?hi12 ?hd12 ?hw12 ?he12 hD2 ?hc12
  case hi12 => (simp only [List.getElem?_toArray, List.getElem?_cons_succ, List.getElem?_cons_zero]; rfl)
  case hd12 => rfl
  case hw12 => rfl
  case he12 => (rw [hw3]; go_simp <;> with_reducible rfl)
  intro hHeld
  have bz2 : BoxU w3 z1 (hardT t a b) (.slice A n c) := by rw [hw3]; exact put7U bz1 b
  have br2 : BoxU w3 z2 noneT (.slice none 0 0) := by rw [hw3]; exact set_boxU br1 (fun h => ne12 h.symm)
  have own2 : OwnF w3 B1 (.slice A n c) n t.lg := by rw [hw3]; exact set_ownF bz1 own1
  have BB2 : Below B1 w w3 := by rw [hw3]; exact BB1.setCell (p := ⟨z1, 7, none⟩) HZ1.out.1 _
  clear hw3 kf7 k0 k1 k2 k3 k4 k5 k6 k7
  refine wpAnyH_done (by kernel_rfl) ?_ _
  clear hHeld hD1 hD2 hDb bz bz' bz1 br br' br1 own own' own1 BB BB' BB1 ba bb'
  obtain ⟨k0, k1, k2, k3, k4, k5, k6, k7⟩ := bz2.cells
  (try dsimp only [hardT] at k0)
  (try dsimp only [hardT] at k1)
  (try dsimp only [hardT] at k2)
  (try dsimp only [hardT] at k3)
  (try dsimp only [hardT] at k4)
  (try dsimp only [hardT] at k5)
  (try dsimp only [hardT] at k6)
  (try dsimp only [hardT] at k7)
  obtain ⟨g0, g1, g2, g3, g4, g5, g6, g7⟩ := br2.cells
  have f0 := br2.frozen 0
  have f1 := br2.frozen 1
  have f2 := br2.frozen 2
  have f3 := br2.frozen 3
  have f4 := br2.frozen 4
  have f5 := br2.frozen 5
  have f6 := br2.frozen 6
  have f7 := br2.frozen 7
  go_wp2_with fail
  clear k0 k1 k2 k3 k4 k5 k6 k7
  obtain ⟨W', hW'⟩ : ∃ W', W' = putU w3 z2 (hardT t a b) (.slice A n c) := ⟨_, rfl⟩
  have b9 := putU_box br2 (hardT t a b) (.slice A n c)
  have B9 := putU_below HZ1.out.2 (hardT t a b) (.slice A n c) BB2
  have own9 : OwnF W' B1 (.slice A n c) n t.lg := by rw [hW']; exact putU_ownF br2 own2
  rw [← hW'] at b9 B9
  have e9 : W' = ((((((((w3.setCell ⟨z2, 0, none⟩ (.int .i64 t.sn.ix)).setCell ⟨z2, 1, none⟩ (.int .i64 t.sn.tm)).setCell ⟨z2, 2, none⟩ (.int .i64 t.sn.sm)).setCell ⟨z2, 3, none⟩ (.int .i64 t.sn.lv)).setCell ⟨z2, 4, none⟩ (.bool t.sn.fn)).setCell ⟨z2, 5, none⟩ (.slice A n c)).setCell ⟨z2, 6, none⟩ (.int .i64 a)).setCell ⟨z2, 7, none⟩ (.int .i64 b)) := hW'
  rw [← e9]
  clear e9 hW' g0 g1 g2 g3 g4 g5 g6 g7 f0 f1 f2 f3 f4 f5 f6 f7
  obtain ⟨g0, g1, g2, g3, g4, g5, g6, g7⟩ := b9.cells
  exact bodyPost_ret (v := tupV (hardT t a b) (.slice A n c)) (by unfold tupV; simp [results, Try.results49, go_sem, g0, g1, g2, g3, g4, g5, g6, g7]) rfl ⟨.inl ⟨HC.out, A, n, c, rfl, HB.out.2.1, by have := HB.out.2.2.1; omega, own9⟩, B9⟩
set_option maxRecDepth 100000 in
set_option maxHeartbeats 8000000 in
theorem step_hard3 (t : TupP) (a b : Int) (za zb : Nat) (w0 : World) (ba : BoxV w0 za 3 (.int .i64 a)) (bb' : BoxV w0 zb 3 (.int .i64 b)) (c1 : ¬ t.tm < a) (c2 : a = t.tm) (c3 : ¬ t.vt = 0) (c4 : t.vt = b) :
    StepIs 49 #[.pointer (some ⟨za, 0, none⟩), .pointer (some ⟨zb, 0, none⟩)] t (hardT t a b) (t.tm < a ∨ (a = t.tm ∧ (t.vt = 0 ∨ t.vt = b))) w0 := by
  intro hM B1 w A n c hB hBw hw own hnc
  have hn : n ≤ 200 := by have := hM.few; have := own_len own; omega
  replace ba := ba.below hw
  replace bb' := bb'.below hw
  have hzl : za < w.heap.size ∧ zb < w.heap.size := ⟨ba.lt, bb'.lt⟩
  have HB := Lib.hid (⟨hBw, hnc, hn, hzl⟩ : _ ∧ _ ∧ _ ∧ _)
  clear hw hB hM hBw hn hnc hzl
  have HC := Lib.hid (show (t.tm < a ∨ (a = t.tm ∧ (t.vt = 0 ∨ t.vt = b))) by omega)
  have q0 : decide (t.tm < a) = false := decide_eq_false c1
  have q1 : (a == t.tm) = true := by simpa using c2
  have q2 : (t.vt == 0) = false := by simpa using c3
  have q3 : (t.vt == b) = true := by simpa using c4
  clear c1 c2 c3 c4
  obtain ⟨z1, hz1⟩ : ∃ z, z = w.heap.size := ⟨_, rfl⟩
  obtain ⟨w1, hw1⟩ : ∃ x, x = w.alloc (.cells #[.int .i64 t.sn.ix, .int .i64 t.sn.tm, .int .i64 t.sn.sm, .int .i64 t.sn.lv, .bool t.sn.fn, .slice A n c, .int .i64 t.tm, .int .i64 t.vt] 26) := ⟨_, rfl⟩
  have bb : Below w.heap.size w w1 := by rw [hw1]; exact below_al (below_d0 _) _
  have bz : BoxU w1 z1 t (.slice A n c) := by rw [hw1, hz1]; exact BoxU.new w t _
  replace own := own_keep own bb
  replace ba := ba.below bb
  replace bb' := bb'.below bb
  have B1 := bb
  clear bb
  obtain ⟨z2, hz2⟩ : ∃ z, z = w1.heap.size := ⟨_, rfl⟩
  obtain ⟨w2, hw2⟩ : ∃ x, x = w1.alloc (.cells #[.int .i64 0, .int .i64 0, .int .i64 0, .int .i64 0, .bool false, .slice none 0 0, .int .i64 0, .int .i64 0] 26) := ⟨_, rfl⟩
  have bb : Below w1.heap.size w1 w2 := by rw [hw2]; exact below_al (below_d0 _) _
  have br : BoxU w2 z2 noneT (.slice none 0 0) := by rw [hw2, hz2]; exact BoxU.new w1 noneT _
  replace own := own_keep own bb
  replace ba := ba.below bb
  replace bb' := bb'.below bb
  replace bz := bz.below bb
  have B2 := B1.trans (bb.mono B1.size)
  clear bb B1
  have hp2 : z1 + 1 = z2 := by rw [hz2, hw1, hz1]; simp
  have lz2 : w.heap.size ≤ z2 := by omega
  have ne12 : z1 ≠ z2 := by omega
  have HZZ1 := Lib.hid (show w.heap.size ≤ z1 by omega)
  have HE := Lib.hid (⟨hw1, hw2, hz1, hp2⟩ : _ ∧ _ ∧ _ ∧ _)
  have HLZ := Lib.hid lz2
  clear hw1 hz1 hw2 hz2 hp2 lz2
  unfold tupV
  show Calls Try.prog 49 #[.agg #[.int .i64 t.sn.ix, .int .i64 t.sn.tm, .int .i64 t.sn.sm, .int .i64 t.sn.lv, .bool t.sn.fn, .slice A n c, .int .i64 t.tm, .int .i64 t.vt], .pointer (some ⟨za, 0, none⟩), .pointer (some ⟨zb, 0, none⟩)] w _
  go_enter Try.func49, Try.ntmps49
  go_upto_region 1 with fail
  rw [← HE.out.1, ← HE.out.2.1, ← HE.out.2.2.1]
  (try rw [HE.out.2.2.2])
  clear HE
  have HZ1 := Lib.hid (show B1 ≤ z1 ∧ B1 ≤ z2 by have := HZZ1.out; have := HLZ.out; have := HB.out.1; omega)
  have HN := Lib.hid (show za ≠ z1 ∧ zb ≠ z1 by have := HZZ1.out; have := HB.out.2.2.2; omega)
  have BB : Below B1 w w2 := B2.mono HB.out.1
  clear B2
  obtain ⟨k0, k1, k2, k3, k4, k5, k6, k7⟩ := bz.cells
  have la := ba.cell
  have lb := bb'.cell
  go_wp2_with fail
  clear k0 k1 k2 k3 k4 k5 k6 k7
  clear q0 q1 q2 q3
  refine Calls.mono (must_yes w2) ?_
  intro e wv hh
  obtain ⟨rfl, hwv⟩ := hh
  replace hwv := hwv.symm
  subst hwv
  clear la lb
  go_upto_region 2 with fail
  have hDb : BoxV w2.drew za 3 (.int .i64 a) ∧ BoxV w2.drew zb 3 (.int .i64 b) := ⟨ba, bb'⟩
  have bz' : BoxU w2.drew z1 t (.slice A n c) := bz
  have br' : BoxU w2.drew z2 noneT (.slice none 0 0) := br
  have own' := keepF (OwnF.of own) ((Below.refl w2.heap.size w2).drew)
  have BB' : Below B1 w w2.drew := BB.drew
  have kf6 := bz.frozen 6
  obtain ⟨k0, k1, k2, k3, k4, k5, k6, k7⟩ := bz.cells
  refine wp_region_held_drew (S := (fun X => BoxV X za 3 (.int .i64 a) ∧ BoxV X zb 3 (.int .i64 b))) (by kernel_rfl) hDb (fun hHeld => ?_)
  refine take_at (i := 0) (d := 27) (oi := ?o13) (v := ?v13) ?hi13 ?hd13 (by kernel_rfl) (by kernel_rfl) (by kernel_rfl) ?hw13 ?hy13 ?hq13 (by assumption) ?r13
  case hi13 => (simp only [List.getElem?_toArray, List.getElem?_cons_zero]; rfl)
  case hd13 => rfl
  case hw13 => rfl
  case hy13 => ((intro w hSw; (try dsimp only at hSw); obtain ⟨s0, s1⟩ : _ ∧ _ := ⟨BoxV.cell hSw.1, BoxV.cell hSw.2⟩; go_simp) <;> (with_reducible rfl))
  case hq13 => exact fun _ _ _ h => h
  simp only [List.set_cons_succ, List.set_cons_zero]
  refine take_at (i := 1) (d := 28) (oi := ?o14) (v := ?v14) ?hi14 ?hd14 (by kernel_rfl) (by kernel_rfl) (by kernel_rfl) ?hw14 ?hy14 ?hq14 (by assumption) ?r14
  case hi14 => (simp only [List.getElem?_toArray, List.getElem?_cons_succ, List.getElem?_cons_zero]; rfl)
  case hd14 => rfl
  case hw14 => rfl
  case hy14 => ((intro w hSw; (try dsimp only at hSw); obtain ⟨s0, s1⟩ : _ ∧ _ := ⟨BoxV.cell hSw.1, BoxV.cell hSw.2⟩; go_simp) <;> (with_reducible rfl))
  case hq14 => exact fun _ _ _ h => h
  simp only [List.set_cons_succ, List.set_cons_zero]
  refine take_at (i := 2) (d := 29) (oi := ?o15) (v := ?v15) ?hi15 ?hd15 (by kernel_rfl) (by kernel_rfl) (by kernel_rfl) ?hw15 ?hy15 ?hq15 (by assumption) ?r15
  case hi15 => (simp only [List.getElem?_toArray, List.getElem?_cons_succ, List.getElem?_cons_zero]; rfl)
  case hd15 => rfl
  case hw15 => rfl
  case hy15 => ((intro w hSw; (try dsimp only at hSw); obtain ⟨s0, s1⟩ : _ ∧ _ := ⟨BoxV.cell hSw.1, BoxV.cell hSw.2⟩; go_simp) <;> (with_reducible rfl))
  case hq15 => exact fun _ _ _ h => h
  simp only [List.set_cons_succ, List.set_cons_zero]
  obtain ⟨y1, hy1⟩ : ∃ x, x = w2.drew.setCell ⟨z1, 6, none⟩ (.int .i64 a) := ⟨_, rfl⟩
  have hD1 : BoxV y1 za 3 (.int .i64 a) ∧ BoxV y1 zb 3 (.int .i64 b) := by
    rw [hy1]
    exact ⟨(Below.heap_setCell _ _ _ za (by simpa using HN.out.1)).trans hDb.1, (Below.heap_setCell _ _ _ zb (by simpa using HN.out.2)).trans hDb.2⟩
  refine wpAnyH_ready (rs := [3]) (by kernel_rfl) (by simp) ?_
  refine br_store (i := 3) (oi := ?o16) (w' := y1) ?hi16 ?hd16 ?hw16 ?he16 hD1 ?hc16
  case hi16 => (simp only [List.getElem?_toArray, List.getElem?_cons_succ, List.getElem?_cons_zero]; rfl)
  case hd16 => rfl
  case hw16 => rfl
  case he16 => (rw [hy1]; go_simp <;> with_reducible rfl)
  intro hHeld
  have bz1 : BoxU y1 z1 { t with tm := a } (.slice A n c) := by rw [hy1]; exact put6U bz' a
  have br1 : BoxU y1 z2 noneT (.slice none 0 0) := by rw [hy1]; exact set_boxU br' (fun h => ne12 h.symm)
  have own1 : OwnF y1 B1 (.slice A n c) n t.lg := by rw [hy1]; exact set_ownF bz' own'
  have BB1 : Below B1 w y1 := by rw [hy1]; exact BB'.setCell (p := ⟨z1, 6, none⟩) HZ1.out.1 _
  clear hy1 kf6 k0 k1 k2 k3 k4 k5 k6 k7
  have kf7 := bz1.frozen 7
  obtain ⟨k0, k1, k2, k3, k4, k5, k6, k7⟩ := bz1.cells
  refine take_at (i := 4) (d := 30) (oi := ?o17) (v := ?v17) ?hi17 ?hd17 (by kernel_rfl) (by kernel_rfl) (by kernel_rfl) ?hw17 ?hy17 ?hq17 (by assumption) ?r17
  case hi17 => (simp only [List.getElem?_toArray, List.getElem?_cons_succ, List.getElem?_cons_zero]; rfl)
  case hd17 => rfl
  case hw17 => rfl
  case hy17 => ((intro w hSw; (try dsimp only at hSw); obtain ⟨s0, s1⟩ : _ ∧ _ := ⟨BoxV.cell hSw.1, BoxV.cell hSw.2⟩; go_simp) <;> (with_reducible rfl))
  case hq17 => exact fun _ _ _ h => h
  simp only [List.set_cons_succ, List.set_cons_zero]
  obtain ⟨w3, hw3⟩ : ∃ x, x = y1.setCell ⟨z1, 7, none⟩ (.int .i64 b) := ⟨_, rfl⟩
  have hD2 : BoxV w3 za 3 (.int .i64 a) ∧ BoxV w3 zb 3 (.int .i64 b) := by
    rw [hw3]
    exact ⟨(Below.heap_setCell _ _ _ za (by simpa using HN.out.1)).trans hD1.1, (Below.heap_setCell _ _ _ zb (by simpa using HN.out.2)).trans hD1.2⟩
  refine wpAnyH_ready (rs := [5]) (by kernel_rfl) (by simp) ?_
  refine br_store (i := 5) (oi := ?o18) (w' := w3) ?hi18 ?hd18 ?hw18 ?he18 hD2 ?hc18
  case hi18 => (simp only [List.getElem?_toArray, List.getElem?_cons_succ, List.getElem?_cons_zero]; rfl)
  case hd18 => rfl
  case hw18 => rfl
  case he18 => (rw [hw3]; go_simp <;> with_reducible rfl)
  intro hHeld
  have bz2 : BoxU w3 z1 (hardT t a b) (.slice A n c) := by rw [hw3]; exact put7U bz1 b
  have br2 : BoxU w3 z2 noneT (.slice none 0 0) := by rw [hw3]; exact set_boxU br1 (fun h => ne12 h.symm)
  have own2 : OwnF w3 B1 (.slice A n c) n t.lg := by rw [hw3]; exact set_ownF bz1 own1
  have BB2 : Below B1 w w3 := by rw [hw3]; exact BB1.setCell (p := ⟨z1, 7, none⟩) HZ1.out.1 _
  clear hw3 kf7 k0 k1 k2 k3 k4 k5 k6 k7
  refine wpAnyH_done (by kernel_rfl) ?_ _
  clear hHeld hD1 hD2 hDb bz bz' bz1 br br' br1 own own' own1 BB BB' BB1 ba bb'
  obtain ⟨k0, k1, k2, k3, k4, k5, k6, k7⟩ := bz2.cells
  (try dsimp only [hardT] at k0)
  (try dsimp only [hardT] at k1)
  (try dsimp only [hardT] at k2)
  (try dsimp only [hardT] at k3)
  (try dsimp only [hardT] at k4)
  (try dsimp only [hardT] at k5)
  (try dsimp only [hardT] at k6)
  (try dsimp only [hardT] at k7)
  obtain ⟨g0, g1, g2, g3, g4, g5, g6, g7⟩ := br2.cells
  have f0 := br2.frozen 0
  have f1 := br2.frozen 1
  have f2 := br2.frozen 2
  have f3 := br2.frozen 3
  have f4 := br2.frozen 4
  have f5 := br2.frozen 5
  have f6 := br2.frozen 6
  have f7 := br2.frozen 7
  go_wp2_with fail
  clear k0 k1 k2 k3 k4 k5 k6 k7
  obtain ⟨W', hW'⟩ : ∃ W', W' = putU w3 z2 (hardT t a b) (.slice A n c) := ⟨_, rfl⟩
  have b9 := putU_box br2 (hardT t a b) (.slice A n c)
  have B9 := putU_below HZ1.out.2 (hardT t a b) (.slice A n c) BB2
  have own9 : OwnF W' B1 (.slice A n c) n t.lg := by rw [hW']; exact putU_ownF br2 own2
  rw [← hW'] at b9 B9
  have e9 : W' = ((((((((w3.setCell ⟨z2, 0, none⟩ (.int .i64 t.sn.ix)).setCell ⟨z2, 1, none⟩ (.int .i64 t.sn.tm)).setCell ⟨z2, 2, none⟩ (.int .i64 t.sn.sm)).setCell ⟨z2, 3, none⟩ (.int .i64 t.sn.lv)).setCell ⟨z2, 4, none⟩ (.bool t.sn.fn)).setCell ⟨z2, 5, none⟩ (.slice A n c)).setCell ⟨z2, 6, none⟩ (.int .i64 a)).setCell ⟨z2, 7, none⟩ (.int .i64 b)) := hW'
  rw [← e9]
  clear e9 hW' g0 g1 g2 g3 g4 g5 g6 g7 f0 f1 f2 f3 f4 f5 f6 f7
  obtain ⟨g0, g1, g2, g3, g4, g5, g6, g7⟩ := b9.cells
  exact bodyPost_ret (v := tupV (hardT t a b) (.slice A n c)) (by unfold tupV; simp [results, Try.results49, go_sem, g0, g1, g2, g3, g4, g5, g6, g7]) rfl ⟨.inl ⟨HC.out, A, n, c, rfl, HB.out.2.1, by have := HB.out.2.2.1; omega, own9⟩, B9⟩
set_option maxRecDepth 100000 in
set_option maxHeartbeats 8000000 in
theorem step_hard4 (t : TupP) (a b : Int) (za zb : Nat) (w0 : World) (ba : BoxV w0 za 3 (.int .i64 a)) (bb' : BoxV w0 zb 3 (.int .i64 b)) (c1 : ¬ t.tm < a) (c2 : a = t.tm) (c3 : ¬ t.vt = 0) (c4 : ¬ t.vt = b) :
    StepIs 49 #[.pointer (some ⟨za, 0, none⟩), .pointer (some ⟨zb, 0, none⟩)] t (hardT t a b) (t.tm < a ∨ (a = t.tm ∧ (t.vt = 0 ∨ t.vt = b))) w0 := by
  intro hM B1 w A n c hB hBw hw own hnc
  have hn : n ≤ 200 := by have := hM.few; have := own_len own; omega
  replace ba := ba.below hw
  replace bb' := bb'.below hw
  have hzl : za < w.heap.size ∧ zb < w.heap.size := ⟨ba.lt, bb'.lt⟩
  have HB := Lib.hid (⟨hBw, hnc, hn, hzl⟩ : _ ∧ _ ∧ _ ∧ _)
  clear hw hB hM hBw hn hnc hzl
  have HC := Lib.hid (show ¬ (t.tm < a ∨ (a = t.tm ∧ (t.vt = 0 ∨ t.vt = b))) by omega)
  have q0 : decide (t.tm < a) = false := decide_eq_false c1
  have q1 : (a == t.tm) = true := by simpa using c2
  have q2 : (t.vt == 0) = false := by simpa using c3
  have q3 : (t.vt == b) = false := by simpa using c4
  clear c1 c2 c3 c4
  obtain ⟨z1, hz1⟩ : ∃ z, z = w.heap.size := ⟨_, rfl⟩
  obtain ⟨w1, hw1⟩ : ∃ x, x = w.alloc (.cells #[.int .i64 t.sn.ix, .int .i64 t.sn.tm, .int .i64 t.sn.sm, .int .i64 t.sn.lv, .bool t.sn.fn, .slice A n c, .int .i64 t.tm, .int .i64 t.vt] 26) := ⟨_, rfl⟩
  have bb : Below w.heap.size w w1 := by rw [hw1]; exact below_al (below_d0 _) _
  have bz : BoxU w1 z1 t (.slice A n c) := by rw [hw1, hz1]; exact BoxU.new w t _
  replace own := own_keep own bb
  replace ba := ba.below bb
  replace bb' := bb'.below bb
  have B1 := bb
  clear bb
  obtain ⟨z2, hz2⟩ : ∃ z, z = w1.heap.size := ⟨_, rfl⟩
  obtain ⟨w2, hw2⟩ : ∃ x, x = w1.alloc (.cells #[.int .i64 0, .int .i64 0, .int .i64 0, .int .i64 0, .bool false, .slice none 0 0, .int .i64 0, .int .i64 0] 26) := ⟨_, rfl⟩
  have bb : Below w1.heap.size w1 w2 := by rw [hw2]; exact below_al (below_d0 _) _
  have br : BoxU w2 z2 noneT (.slice none 0 0) := by rw [hw2, hz2]; exact BoxU.new w1 noneT _
  replace own := own_keep own bb
  replace ba := ba.below bb
  replace bb' := bb'.below bb
  replace bz := bz.below bb
  have B2 := B1.trans (bb.mono B1.size)
  clear bb B1
  have hp2 : z1 + 1 = z2 := by rw [hz2, hw1, hz1]; simp
  have lz2 : w.heap.size ≤ z2 := by omega
  have ne12 : z1 ≠ z2 := by omega
  have HZZ1 := Lib.hid (show w.heap.size ≤ z1 by omega)
  have HE := Lib.hid (⟨hw1, hw2, hz1, hp2⟩ : _ ∧ _ ∧ _ ∧ _)
  have HLZ := Lib.hid lz2
  clear hw1 hz1 hw2 hz2 hp2 lz2
  unfold tupV
  show Calls Try.prog 49 #[.agg #[.int .i64 t.sn.ix, .int .i64 t.sn.tm, .int .i64 t.sn.sm, .int .i64 t.sn.lv, .bool t.sn.fn, .slice A n c, .int .i64 t.tm, .int .i64 t.vt], .pointer (some ⟨za, 0, none⟩), .pointer (some ⟨zb, 0, none⟩)] w _
  go_enter Try.func49, Try.ntmps49
  go_upto_region 1 with fail
  rw [← HE.out.1, ← HE.out.2.1, ← HE.out.2.2.1]
  (try rw [HE.out.2.2.2])
  clear HE
  have HZ1 := Lib.hid (show B1 ≤ z1 ∧ B1 ≤ z2 by have := HZZ1.out; have := HLZ.out; have := HB.out.1; omega)
  have HN := Lib.hid (show za ≠ z1 ∧ zb ≠ z1 by have := HZZ1.out; have := HB.out.2.2.2; omega)
  have BB : Below B1 w w2 := B2.mono HB.out.1
  clear B2
  obtain ⟨k0, k1, k2, k3, k4, k5, k6, k7⟩ := bz.cells
  have la := ba.cell
  have lb := bb'.cell
  go_wp2_with fail
  clear k0 k1 k2 k3 k4 k5 k6 k7
  clear q0 q1 q2 q3
  refine Calls.mono (must_no w2) ?_
  intro e wv hh
  obtain ⟨rfl, hwv⟩ := hh
  replace hwv := hwv.symm
  subst hwv
  exact ⟨rfl, .inr ⟨HC.out, rfl⟩, BB⟩
theorem step_hard (t : TupP) (a b : Int) (za zb : Nat) (w0 : World) (ba : BoxV w0 za 3 (.int .i64 a)) (bb : BoxV w0 zb 3 (.int .i64 b)) :
    StepIs 49 #[.pointer (some ⟨za, 0, none⟩), .pointer (some ⟨zb, 0, none⟩)] t (hardT t a b) (t.tm < a ∨ (a = t.tm ∧ (t.vt = 0 ∨ t.vt = b))) w0 := by
  by_cases c1 : t.tm < a
  · exact step_hard0 t a b za zb w0 ba bb c1
  by_cases c2 : a = t.tm
  case neg => exact step_hard1 t a b za zb w0 ba bb c1 c2
  by_cases c3 : t.vt = 0
  · exact step_hard2 t a b za zb w0 ba bb c1 c2 c3
  by_cases c4 : t.vt = b
  · exact step_hard3 t a b za zb w0 ba bb c1 c2 c3 c4
  · exact step_hard4 t a b za zb w0 ba bb c1 c2 c3 c4
end Go.Proofs.Ytbhnlmlaebngmaa
