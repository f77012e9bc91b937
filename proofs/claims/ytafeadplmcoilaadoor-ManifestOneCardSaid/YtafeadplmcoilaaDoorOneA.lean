/-
  ManifestOne: plain facts, the early ways out, what four boxes and four rows keep.
-/
import Derived.Test.YtafeadplmcoilaaDoorManD
import Derived.Test.YtafeadplmcoilaaDoorNamR
import Derived.Test.YtafeadplmcoilaaDoorWakesM
import Derived.Test.YtafeadplmcoilaaDoorManK
import Derived.Test.YtafeadplmcoilaaDoorDraw
import Derived.Test.YtafeadplmcoilaaDoorKeepM
import Derived.Test.YtafeadplmcoilaaDoorAppM
import Derived.Test.YtafeadplmcoilaaDoorDrawA
namespace Go.Proofs.YtafeadplmcoilaaDoor
open Go.RowKit
set_option linter.unusedVariables false

theorem one_next {m : ManP} {k : Int} (hk : 1 ≤ k) : ¬ May { m with nx := -k } := fun h => by
  have := h.nx.1
  simp only at this
  omega
theorem one_term {m : ManP} {k : Int} (hk : 1 ≤ k) : ¬ May { m with tm := -k } := fun h => by
  have := h.tm.1
  simp only at this
  omega
theorem one_vote {m : ManP} {k : Int} (hk : 1 ≤ k) : ¬ May { m with vt := 5 + k } := fun h => by
  have := h.vt.2
  simp only at this
  omega
theorem one_snap {m : ManP} {k : Int} (hk : 1 ≤ k) : ¬ May { m with ss := m.nx - 1 + k, sf := 1 } := fun h => by
  rcases h.snap with ⟨_, a⟩ | ⟨_, a, _⟩
  · simp only at a
    omega
  · simp only at a
    omega
/-- The segment at a place is another one. -/
def setM (m : ManP) (i : Nat) (s : SegP) : ManP := { m with sg := m.sg.set i s }
theorem setM_at {m : ManP} {i : Nat} {s t : SegP} (hi : m.sg[i]? = some t) : (setM m i s).sg[i]? = some s := by
  have := (List.getElem?_eq_some_iff.1 hi).1
  simp [setM, this]
theorem set_not {m : ManP} {i : Nat} {s t : SegP} (hi : m.sg[i]? = some t) (h : ¬ SegM (setM m i s) i s) : ¬ May (setM m i s) := fun hM => h (hM.segs i s (setM_at hi))
theorem set_other {m : ManP} {i : Nat} {s t : SegP} (hi : m.sg[i]? = some t) (h : s ≠ t) : setM m i s ≠ m := fun e => by
  have h1 := setM_at (s := s) hi
  rw [e, hi] at h1
  exact h (Option.some.inj h1).symm
section
variable {m : ManP} {i : Nat} {t : SegP} {k : Int} (hM : May m) (hi : m.sg[i]? = some t) (hk : 1 ≤ k)
include hM hi hk
theorem one_0 : ¬ May (setM m i { t with sq := m.nx - 1 + k }) ∧ setM m i { t with sq := m.nx - 1 + k } ≠ m := by
  have hf := (hM.segs i t hi).file.2.1
  refine ⟨set_not hi fun h => ?_, set_other hi fun e => ?_⟩
  · have := h.file.2.1
    simp only [setM] at this
    omega
  · have := congrArg SegP.sq e
    simp only at this
    omega
theorem one_1 : ¬ May (setM m i { t with fm := 2 + k }) ∧ setM m i { t with fm := 2 + k } ≠ m := by
  have hf := (hM.segs i t hi).file.2.2
  refine ⟨set_not hi fun h => ?_, set_other hi fun e => ?_⟩
  · have := h.file.2.2
    simp only at this
    omega
  · have := congrArg SegP.fm e
    simp only at this
    omega
theorem one_2 : ¬ May (setM m i { t with fi := -k }) ∧ setM m i { t with fi := -k } ≠ m := by
  have hf := (hM.segs i t hi).first.1
  refine ⟨set_not hi fun h => ?_, set_other hi fun e => ?_⟩
  · have := h.first.1
    simp only at this
    omega
  · have := congrArg SegP.fi e
    simp only at this
    omega
theorem one_3 : ¬ May (setM m i { t with ct := 4 + k }) ∧ setM m i { t with ct := 4 + k } ≠ m := by
  have hf := (hM.segs i t hi).count
  refine ⟨set_not hi fun h => ?_, set_other hi fun e => ?_⟩
  · have := h.count
    simp only at this
    omega
  · have := congrArg SegP.ct e
    simp only at this
    omega
theorem one_4 : ¬ May (setM m i { t with ct := -1 - k }) ∧ setM m i { t with ct := -1 - k } ≠ m := by
  have hf := (hM.segs i t hi).count
  refine ⟨set_not hi fun h => ?_, set_other hi fun e => ?_⟩
  · have := h.count
    simp only at this
    omega
  · have := congrArg SegP.ct e
    simp only at this
    omega
omit hM hk in
theorem one_5 : ¬ May { m with sg := m.sg ++ [t] } ∧ ({ m with sg := m.sg ++ [t] } : ManP) ≠ m := by
  have hlt := (List.getElem?_eq_some_iff.1 hi).1
  refine ⟨fun h => ?_, fun e => ?_⟩
  · have h1 : (m.sg ++ [t])[m.sg.length]? = some t := by simp
    have h2 : (m.sg ++ [t])[i]? = some t := by rw [List.getElem?_append_left hlt]; exact hi
    exact (h.segs m.sg.length t h1).new i t hlt h2 rfl
  · have := congrArg (fun x : ManP => x.sg.length) e
    simp at this
end
end Go.Proofs.YtafeadplmcoilaaDoor
namespace Go.Proofs.YtafeadplmcoilaaDoor
open Go.RowKit
set_option linter.unusedVariables false

theorem mok_of {m : ManP} (h0 : -9223372036854775808 ≤ m.ss ∧ m.ss ≤ 9223372036854775807) (h : ∀ s ∈ m.sg, -9223372036854775808 ≤ s.sq ∧ s.sq ≤ 9223372036854775807) : MOk m := fun x hx => by
  rcases mfile_in hx with ⟨_, rfl⟩ | ⟨i, s, hi, rfl⟩
  · exact h0
  · exact h s (List.mem_of_getElem? hi)
section
variable {m : ManP} (hM : May m)
include hM
theorem may_ss : 0 ≤ m.ss ∧ m.ss ≤ 1073741824 := by
  have := hM.nx
  rcases hM.snap with ⟨a, _⟩ | ⟨a, b, _⟩ <;> omega
theorem may_sq : ∀ s ∈ m.sg, 0 ≤ s.sq ∧ s.sq ≤ 1073741824 := fun s hs => by
  obtain ⟨i, hi⟩ := List.mem_iff_getElem?.1 hs
  have h := (hM.segs i s hi).file
  have := hM.nx
  exact ⟨by have := h.1; omega, by have := h.2.1; omega⟩
theorem mok_nx (x : Int) : MOk { m with nx := x } := mok_of (by have := may_ss hM; exact ⟨by show _ ≤ m.ss; omega, by show m.ss ≤ _; omega⟩) fun s hs => by have := may_sq hM s hs; omega
theorem mok_tm (x : Int) : MOk { m with tm := x } := mok_of (by have := may_ss hM; exact ⟨by show _ ≤ m.ss; omega, by show m.ss ≤ _; omega⟩) fun s hs => by have := may_sq hM s hs; omega
theorem mok_vt (x : Int) : MOk { m with vt := x } := mok_of (by have := may_ss hM; exact ⟨by show _ ≤ m.ss; omega, by show m.ss ≤ _; omega⟩) fun s hs => by have := may_sq hM s hs; omega
theorem mok_ss {k : Int} (hk : 1 ≤ k ∧ k ≤ 1073741824) (f : Int) : MOk { m with ss := m.nx - 1 + k, sf := f } := mok_of (by have := hM.nx; exact ⟨by show _ ≤ m.nx - 1 + k; omega, by show m.nx - 1 + k ≤ _; omega⟩) fun s hs => by have := may_sq hM s hs; omega
theorem mok_set (i : Nat) (s : SegP) (h : -9223372036854775808 ≤ s.sq ∧ s.sq ≤ 9223372036854775807) : MOk (setM m i s) := mok_of (by have := may_ss hM; exact ⟨by show _ ≤ m.ss; omega, by show m.ss ≤ _; omega⟩) fun t ht => by
  rcases List.mem_or_eq_of_mem_set ht with h1 | rfl
  · have := may_sq hM t h1
    omega
  · exact h
theorem mok_app {t : SegP} (ht : t ∈ m.sg) : MOk { m with sg := m.sg ++ [t] } := mok_of (by have := may_ss hM; exact ⟨by show _ ≤ m.ss; omega, by show m.ss ≤ _; omega⟩) fun s hs => by
  rcases List.mem_append.1 hs with h | h
  · have := may_sq hM s h
    omega
  · obtain rfl := List.mem_singleton.1 h
    have := may_sq hM s ht
    omega
end
end Go.Proofs.YtafeadplmcoilaaDoor
namespace Go.Proofs.YtafeadplmcoilaaDoor
open Go.RowKit
set_option linter.unusedVariables false
set_option linter.unusedSimpArgs false

set_option maxRecDepth 100000 in
set_option maxHeartbeats 8000000 in
theorem one_great (m : ManP) (A : Option Addr) (n c : Nat) (at_ k : Int) (w : World) (hT : Cr.Tab w) (hS : Sg w w.heap.size A n m.sg) (hg : 59 < n) :
    Calls Tryd.prog 7 #[manV m (.slice A n c), .int .i64 at_, .int .i64 k] w fun e w' => e = .returned (.bool true) ∧ Below w.heap.size w w' := by
  have HT := Lib.hid hT
  clear hT
  have t0 : decide ((59 : Int) < (n : Int)) = true := by simp; omega
  obtain ⟨z1, hz1⟩ : ∃ z, z = w.heap.size := ⟨_, rfl⟩
  obtain ⟨w1, hw1⟩ : ∃ x, x = w.alloc (.cells #[.int .i64 m.nx, .int .i64 m.tm, .int .i64 m.vt, .int .i64 m.ss, .int .i64 m.sf, .slice A n c] 26) := ⟨_, rfl⟩
  have bb : Below w.heap.size w w1 := by rw [hw1]; exact below_al (below_d0 _) _
  have bz : BoxM w1 z1 m (.slice A n c) := by rw [hw1, hz1]; exact BoxM.new w m _
  replace hS := hS.on bb bb.size
  have B1 := bb
  clear bb
  have HE := Lib.hid (⟨hw1, hz1⟩ : _ ∧ _)
  clear hw1 hz1
  unfold manV
  go_enter Tryd.func7, Tryd.ntmps7
  go_wp2_with fail
  rw [← HE.out.1, ← HE.out.2]
  clear HE
  refine Calls.mono (wakes_true w1 (HT.out.on B1)) ?_
  rintro e w2 ⟨rfl, bb⟩
  replace bz := bz.below bb
  replace hS := hS.on bb bb.size
  have B2 := B1.trans (bb.mono B1.size)
  clear bb B1
  go_wp2_with fail
  go_ret
  exact ⟨rfl, B2⟩
set_option maxRecDepth 100000 in
set_option maxHeartbeats 8000000 in
theorem one_no (m : ManP) (A : Option Addr) (n c : Nat) (at_ k : Int) (w : World) (hT : Cr.Tab w) (hS : Sg w w.heap.size A n m.sg) (hg : n ≤ 59) (hM : ¬ May m) :
    Calls Tryd.prog 7 #[manV m (.slice A n c), .int .i64 at_, .int .i64 k] w fun e w' => e = .returned (.bool true) ∧ Below w.heap.size w w' := by
  have HT := Lib.hid hT
  clear hT
  have t0 : decide ((59 : Int) < (n : Int)) = false := by simp; omega
  have HM := Lib.hid hM
  clear hM
  obtain ⟨z1, hz1⟩ : ∃ z, z = w.heap.size := ⟨_, rfl⟩
  obtain ⟨w1, hw1⟩ : ∃ x, x = w.alloc (.cells #[.int .i64 m.nx, .int .i64 m.tm, .int .i64 m.vt, .int .i64 m.ss, .int .i64 m.sf, .slice A n c] 26) := ⟨_, rfl⟩
  have bb : Below w.heap.size w w1 := by rw [hw1]; exact below_al (below_d0 _) _
  have bz : BoxM w1 z1 m (.slice A n c) := by rw [hw1, hz1]; exact BoxM.new w m _
  replace hS := hS.on bb bb.size
  have B1 := bb
  clear bb
  have HE := Lib.hid (⟨hw1, hz1⟩ : _ ∧ _)
  clear hw1 hz1
  unfold manV
  go_enter Tryd.func7, Tryd.ntmps7
  go_wp2_with fail
  rw [← HE.out.1, ← HE.out.2]
  clear HE
  refine Calls.mono (show Calls Tryd.prog 19 #[.agg #[.int .i64 m.nx, .int .i64 m.tm, .int .i64 m.vt, .int .i64 m.ss, .int .i64 m.sf, .slice A n c]] w1 (fun e w' => (∃ r, CheckIs m r ∧ e = .returned (.int .i64 r)) ∧ Below w1.heap.size w1 w') from rcheck_any m A n c w1 hS (by omega)) ?_
  intro e w2 hh
  obtain ⟨⟨r, hr, rfl⟩, bb⟩ := hh
  (try clear hh)
  replace bz := bz.below bb
  replace hS := hS.on bb bb.size
  have B2 := B1.trans (bb.mono B1.size)
  clear bb B1
  obtain rfl := hr.same (.inr ⟨HM.out, rfl⟩)
  clear hr
  go_wp2_with fail
  refine Calls.mono (wakes_true w2 (HT.out.on B2)) ?_
  rintro e w3 ⟨rfl, bb⟩
  replace bz := bz.below bb
  replace hS := hS.on bb bb.size
  have B3 := B2.trans (bb.mono B2.size)
  clear bb B2
  go_wp2_with fail
  go_ret
  exact ⟨rfl, B3⟩
set_option maxRecDepth 100000 in
set_option maxHeartbeats 8000000 in
theorem one_small (m : ManP) (A : Option Addr) (n c : Nat) (at_ k : Int) (w : World) (hT : Cr.Tab w) (hS : Sg w w.heap.size A n m.sg) (hg : n ≤ 59) (hM : May m) (hk : k < 1) :
    Calls Tryd.prog 7 #[manV m (.slice A n c), .int .i64 at_, .int .i64 k] w fun e w' => e = .returned (.bool true) ∧ Below w.heap.size w w' := by
  have HT := Lib.hid hT
  clear hT
  have t0 : decide ((59 : Int) < (n : Int)) = false := by simp; omega
  have t1 : decide (k < (1 : Int)) = true := by simp; omega
  have HM := Lib.hid hM
  clear hM
  obtain ⟨z1, hz1⟩ : ∃ z, z = w.heap.size := ⟨_, rfl⟩
  obtain ⟨w1, hw1⟩ : ∃ x, x = w.alloc (.cells #[.int .i64 m.nx, .int .i64 m.tm, .int .i64 m.vt, .int .i64 m.ss, .int .i64 m.sf, .slice A n c] 26) := ⟨_, rfl⟩
  have bb : Below w.heap.size w w1 := by rw [hw1]; exact below_al (below_d0 _) _
  have bz : BoxM w1 z1 m (.slice A n c) := by rw [hw1, hz1]; exact BoxM.new w m _
  replace hS := hS.on bb bb.size
  have B1 := bb
  clear bb
  have HE := Lib.hid (⟨hw1, hz1⟩ : _ ∧ _)
  clear hw1 hz1
  unfold manV
  go_enter Tryd.func7, Tryd.ntmps7
  go_wp2_with fail
  rw [← HE.out.1, ← HE.out.2]
  clear HE
  refine Calls.mono (show Calls Tryd.prog 19 #[.agg #[.int .i64 m.nx, .int .i64 m.tm, .int .i64 m.vt, .int .i64 m.ss, .int .i64 m.sf, .slice A n c]] w1 (fun e w' => (∃ r, CheckIs m r ∧ e = .returned (.int .i64 r)) ∧ Below w1.heap.size w1 w') from rcheck_any m A n c w1 hS (by omega)) ?_
  intro e w2 hh
  obtain ⟨⟨r, hr, rfl⟩, bb⟩ := hh
  (try clear hh)
  replace bz := bz.below bb
  replace hS := hS.on bb bb.size
  have B2 := B1.trans (bb.mono B1.size)
  clear bb B1
  obtain rfl := hr.same (.inl ⟨HM.out, rfl⟩)
  clear hr
  go_wp2_with fail
  refine Calls.mono (wakes_true w2 (HT.out.on B2)) ?_
  rintro e w3 ⟨rfl, bb⟩
  replace bz := bz.below bb
  replace hS := hS.on bb bb.size
  have B3 := B2.trans (bb.mono B2.size)
  clear bb B2
  go_wp2_with fail
  go_ret
  exact ⟨rfl, B3⟩
set_option maxRecDepth 100000 in
set_option maxHeartbeats 8000000 in
theorem one_big (m : ManP) (A : Option Addr) (n c : Nat) (at_ k : Int) (w : World) (hT : Cr.Tab w) (hS : Sg w w.heap.size A n m.sg) (hg : n ≤ 59) (hM : May m) (hk : 1 ≤ k) (hk2 : 1073741824 < k) :
    Calls Tryd.prog 7 #[manV m (.slice A n c), .int .i64 at_, .int .i64 k] w fun e w' => e = .returned (.bool true) ∧ Below w.heap.size w w' := by
  have HT := Lib.hid hT
  clear hT
  have t0 : decide ((59 : Int) < (n : Int)) = false := by simp; omega
  have t1 : decide (k < (1 : Int)) = false := by simp; omega
  have t2 : decide ((1073741824 : Int) < k) = true := by simp; omega
  have HM := Lib.hid hM
  clear hM
  obtain ⟨z1, hz1⟩ : ∃ z, z = w.heap.size := ⟨_, rfl⟩
  obtain ⟨w1, hw1⟩ : ∃ x, x = w.alloc (.cells #[.int .i64 m.nx, .int .i64 m.tm, .int .i64 m.vt, .int .i64 m.ss, .int .i64 m.sf, .slice A n c] 26) := ⟨_, rfl⟩
  have bb : Below w.heap.size w w1 := by rw [hw1]; exact below_al (below_d0 _) _
  have bz : BoxM w1 z1 m (.slice A n c) := by rw [hw1, hz1]; exact BoxM.new w m _
  replace hS := hS.on bb bb.size
  have B1 := bb
  clear bb
  have HE := Lib.hid (⟨hw1, hz1⟩ : _ ∧ _)
  clear hw1 hz1
  unfold manV
  go_enter Tryd.func7, Tryd.ntmps7
  go_wp2_with fail
  rw [← HE.out.1, ← HE.out.2]
  clear HE
  refine Calls.mono (show Calls Tryd.prog 19 #[.agg #[.int .i64 m.nx, .int .i64 m.tm, .int .i64 m.vt, .int .i64 m.ss, .int .i64 m.sf, .slice A n c]] w1 (fun e w' => (∃ r, CheckIs m r ∧ e = .returned (.int .i64 r)) ∧ Below w1.heap.size w1 w') from rcheck_any m A n c w1 hS (by omega)) ?_
  intro e w2 hh
  obtain ⟨⟨r, hr, rfl⟩, bb⟩ := hh
  (try clear hh)
  replace bz := bz.below bb
  replace hS := hS.on bb bb.size
  have B2 := B1.trans (bb.mono B1.size)
  clear bb B1
  obtain rfl := hr.same (.inl ⟨HM.out, rfl⟩)
  clear hr
  go_wp2_with fail
  refine Calls.mono (wakes_true w2 (HT.out.on B2)) ?_
  rintro e w3 ⟨rfl, bb⟩
  replace bz := bz.below bb
  replace hS := hS.on bb bb.size
  have B3 := B2.trans (bb.mono B2.size)
  clear bb B2
  go_wp2_with fail
  go_ret
  exact ⟨rfl, B3⟩
end Go.Proofs.YtafeadplmcoilaaDoor
namespace Go.Proofs.YtafeadplmcoilaaDoor
open Go.RowKit
set_option linter.unusedVariables false
set_option linter.unusedSimpArgs false

theorem own_low {w : World} {base base' size n : Nat} {e : TypeId} {v : Value} {xs : List Value} (h : w.ownsRow base e size v n xs) (hb : base' ≤ base) : w.ownsRow base' e size v n xs := by
  refine ⟨h.1, ?_⟩
  rcases h.2 with a | ⟨g, cap, cur, e1, hbg, r⟩
  · exact .inl a
  · exact .inr ⟨g, cap, cur, e1, Nat.le_trans hb hbg, r⟩
theorem own_box {W : World} {z base n : Nat} {m : ManP} {u v : Value} {l : List SegP} (hz : BoxM W z m u) (h : OwnS W base v n l) : ∀ g, v.ownBlock = some g → g ≠ z := fun g hg e => by
  subst e
  rcases row_neF (t := 26) (by decide) h (row := some g) (fun r hr => ⟨_, by obtain rfl := Option.some.inj hr; exact hz, .inr ⟨_, _, rfl⟩⟩) with a | a
  · rw [hg] at a; cases a
  · exact a hg
theorem putM_own {W : World} {z base n : Nat} {m t : ManP} {u v x : Value} {l : List SegP} (hz : BoxM W z t u) (h : OwnS W base v n l) : OwnS (putM W z m x) base v n l := own_at h fun g hg => putM_other m x (own_box hz h g hg)
theorem putM_boxes {W : World} {z y : Nat} {m t : ManP} {u x : Value} (h : BoxM W y t u) (hne : y ≠ z) : BoxM (putM W z m x) y t u := (putM_other m x hne).trans h
theorem set_boxes {W : World} {z y i : Nat} {t : ManP} {u x : Value} (h : BoxM W y t u) (hne : y ≠ z) : BoxM (W.setCell ⟨z, i, none⟩ x) y t u := (Below.heap_setCell _ _ _ y (by simpa using hne)).trans h
theorem set_own {W : World} {z i base n : Nat} {t : ManP} {u v x : Value} {l : List SegP} (hz : BoxM W z t u) (h : OwnS W base v n l) : OwnS (W.setCell ⟨z, i, none⟩ x) base v n l := own_at h fun g hg => Below.heap_setCell _ _ _ g (by simpa using own_box hz h g hg)
/-- A segment of a row of the call's own, and one number of it written. -/
theorem seg_frozen {W : World} {base n p f cap g : Nat} {l : List SegP} (h : OwnS W base (.slice (some ⟨g, 0, none⟩) n cap) n l) (hp : p < n) : W.frozen? ⟨g, p * 4 + f, none⟩ = false := by
  rcases h.2 with ⟨e, _⟩ | ⟨g', cap', cur, e, _, hh, _⟩
  · cases e
  · obtain ⟨rfl, _⟩ : g = g' ∧ True := ⟨by simp at e; exact e.1, trivial⟩
    simp [World.frozen?, hh]
theorem seg_set {W : World} {base n p cap g : Nat} {l : List SegP} {t : SegP} (h : OwnS W base (.slice (some ⟨g, 0, none⟩) n cap) n l) (hp : p < n) (ht : l[p]? = some t) {f : Nat} (hf : f < 4) {v : Value} {s : SegP} (hs : ∀ j, j < 4 → s.cs[j]? = if j = f then some v else t.cs[j]?) :
    Sg (W.setCell ⟨g, p * 4 + f, none⟩ v) (W.setCell ⟨g, p * 4 + f, none⟩ v).heap.size (some ⟨g, 0, none⟩) n (l.set p s) := by
  have hS : Row 4 SegP.cs W W.heap.size (some ⟨g, 0, none⟩) n l := h.sg
  obtain ⟨b, off, e, hlt, hc⟩ := hS.2 (by omega)
  obtain ⟨rfl, rfl⟩ : g = b ∧ 0 = off := by simpa using e
  refine ⟨by rw [List.length_set]; exact hS.1, fun _ => ⟨g, 0, rfl, by simpa using hlt, fun i x hi j hj => ?_⟩⟩
  have hpl : p < l.length := by rw [hS.1]; exact hp
  by_cases hip : i = p
  · subst hip
    obtain rfl : s = x := by simpa [List.getElem?_set, hpl] using hi
    rw [hs j hj]
    by_cases hjf : j = f
    · subst hjf
      rw [if_pos rfl, show 0 + (i * 4 + j) = i * 4 + j by omega]
      have h1 := hc i t ht j hj
      rw [show 0 + (i * 4 + j) = i * 4 + j by omega] at h1
      obtain ⟨u, hu⟩ : ∃ u, t.cs[j]? = some u := ⟨t.cs[j]'(by rw [SegP.len]; exact hj), List.getElem?_eq_getElem _⟩
      rw [hu] at h1
      exact World.cell?_setCell_same _ _ _ h1
    · rw [if_neg hjf, ← hc i t ht j hj]
      refine World.cell?_setCell_other _ _ _ _ fun e' => ?_
      have e2 := congrArg Addr.off e'
      dsimp only at e2
      omega
  · rw [List.getElem?_set_ne (by omega)] at hi
    rw [← hc i x hi j hj]
    refine World.cell?_setCell_other _ _ _ _ fun e' => ?_
    have e2 := congrArg Addr.off e'
    dsimp only at e2
    omega
theorem seg_cellsP {W : World} {base n p cap g : Nat} {l : List SegP} {t : SegP} (h : OwnS W base (.slice (some ⟨g, 0, none⟩) n cap) n l) (hp : p < n) (ht : l[p]? = some t) :
    W.cell? ⟨g, p * 4, none⟩ = some (.int .i64 t.sq) ∧ W.cell? ⟨g, p * 4 + 1, none⟩ = some (.int .i64 t.fm) ∧ W.cell? ⟨g, p * 4 + 2, none⟩ = some (.int .i64 t.fi) ∧ W.cell? ⟨g, p * 4 + 3, none⟩ = some (.int .i64 t.ct) := by
  obtain ⟨b, off, s, e, _, hs, a⟩ := h.sg.at_ hp
  obtain ⟨rfl, rfl⟩ : g = b ∧ 0 = off := by simpa using e
  obtain rfl : t = s := Option.some.inj (ht.symm.trans hs)
  simpa using a
theorem sg_lit1 {w W : World} {s : SegP} {y : Nat} (hy : y = w.heap.size) (hW : W = w.alloc (.cells #[.int .i64 s.sq, .int .i64 s.fm, .int .i64 s.fi, .int .i64 s.ct] 51)) : Sg W W.heap.size (some ⟨y, 0, none⟩) 1 [s] := by
  subst hy hW
  refine ⟨rfl, fun _ => ⟨w.heap.size, 0, rfl, by simp, fun i x hi j hj => ?_⟩⟩
  have hi0 : i = 0 := by have := (List.getElem?_eq_some_iff.1 hi).1; simp at this; omega
  subst hi0
  obtain rfl : s = x := Option.some.inj hi
  rw [cell_of_row _ _ _ _ _ _ (World.alloc_heap_new w _)]
  simp [SegP.cs]
/-- A row that was made for one of the calls. -/
def OwnV (m : ManP) (n B : Nat) (u : Value) (W : World) : Prop := ∃ A c, u = manV m (.slice A n c) ∧ OwnS W B (.slice A n c) n m.sg
/-- A box that was made. -/
def BoxV (B : Nat) (u : Value) (W : World) : Prop := ∃ z, u = .pointer (some ⟨z, 0, none⟩) ∧ B ≤ z ∧ BoxM W z noneM (.slice none 0 0)
theorem OwnV.on {m : ManP} {n B : Nat} {u : Value} {W W' : World} (h : OwnV m n B u W) (hb : Below W.heap.size W W') : OwnV m n B u W' := by
  obtain ⟨A, c, rfl, o⟩ := h
  exact ⟨A, c, rfl, own_keep o hb⟩
theorem BoxV.on {B : Nat} {u : Value} {W W' : World} (h : BoxV B u W) (hb : Below W.heap.size W W') : BoxV B u W' := by
  obtain ⟨z, rfl, hz, b⟩ := h
  exact ⟨z, rfl, hz, b.below hb⟩
theorem BoxV.ne {B z : Nat} {u : Value} {W : World} (h : BoxV B u W) (hz : z = W.heap.size) : u ≠ .pointer (some ⟨z, 0, none⟩) := by
  obtain ⟨y, rfl, hy, b⟩ := h
  intro e
  have h1 : y = z := by simpa using e
  have := b.lt
  omega
theorem BoxV.new {B z : Nat} {W W' : World} (hz : z = W.heap.size) (hB : B ≤ W.heap.size) (hw : W' = W.alloc (.cells #[.int .i64 0, .int .i64 0, .int .i64 0, .int .i64 0, .int .i64 0, .slice none 0 0] 26)) : BoxV B (.pointer (some ⟨z, 0, none⟩)) W' := ⟨z, rfl, by omega, by rw [hw, hz]; exact BoxM.new W noneM _⟩
structure R3 (m : ManP) (n B : Nat) (c : Nat) (a b d e : Bool) (u7 u8 u9 u10 u33 u35 u37 u39 : Value) (W : World) : Prop where
  o1 : 0 < c → OwnV m n B u33 W
  o2 : 1 < c → OwnV m n B u35 W
  o3 : 2 < c → OwnV m n B u37 W
  o4 : 3 < c → OwnV m n B u39 W
  b1 : a = true → BoxV B u7 W
  b2 : b = true → BoxV B u8 W
  b3 : d = true → BoxV B u9 W
  b4 : e = true → BoxV B u10 W
  n12 : a = true → b = true → u7 ≠ u8
  n13 : a = true → d = true → u7 ≠ u9
  n14 : a = true → e = true → u7 ≠ u10
  n23 : b = true → d = true → u8 ≠ u9
  n24 : b = true → e = true → u8 ≠ u10
  n34 : d = true → e = true → u9 ≠ u10
section
variable {m : ManP} {n B : Nat} {c : Nat} {a b d e : Bool} {u7 u8 u9 u10 u33 u35 u37 u39 : Value} {W W' : World}
theorem R3.first : R3 m n B 0 false false false false u7 u8 u9 u10 u33 u35 u37 u39 W :=
  ⟨(by omega), (by omega), (by omega), (by omega), (by simp), (by simp), (by simp), (by simp), (by simp), (by simp), (by simp), (by simp), (by simp), (by simp)⟩
theorem R3.on (h : R3 m n B c a b d e u7 u8 u9 u10 u33 u35 u37 u39 W) (hb : Below W.heap.size W W') : R3 m n B c a b d e u7 u8 u9 u10 u33 u35 u37 u39 W' :=
  ⟨fun x => (h.o1 x).on hb, fun x => (h.o2 x).on hb, fun x => (h.o3 x).on hb, fun x => (h.o4 x).on hb, fun x => (h.b1 x).on hb, fun x => (h.b2 x).on hb, fun x => (h.b3 x).on hb, fun x => (h.b4 x).on hb, h.n12, h.n13, h.n14, h.n23, h.n24, h.n34⟩
theorem R3.call1 (h : R3 m n B 0 a b d e u7 u8 u9 u10 u33 u35 u37 u39 W) {v : Value} (hv : OwnV m n B v W) : R3 m n B 1 a b d e u7 u8 u9 u10 v u35 u37 u39 W := { h with o1 := fun _ => hv, o2 := fun x => absurd x (by omega), o3 := fun x => absurd x (by omega), o4 := fun x => absurd x (by omega) }
theorem R3.call2 (h : R3 m n B 1 a b d e u7 u8 u9 u10 u33 u35 u37 u39 W) {v : Value} (hv : OwnV m n B v W) : R3 m n B 2 a b d e u7 u8 u9 u10 u33 v u37 u39 W := { h with o1 := fun _ => h.o1 (by omega), o2 := fun _ => hv, o3 := fun x => absurd x (by omega), o4 := fun x => absurd x (by omega) }
theorem R3.call3 (h : R3 m n B 2 a b d e u7 u8 u9 u10 u33 u35 u37 u39 W) {v : Value} (hv : OwnV m n B v W) : R3 m n B 3 a b d e u7 u8 u9 u10 u33 u35 v u39 W := { h with o1 := fun _ => h.o1 (by omega), o2 := fun _ => h.o2 (by omega), o3 := fun _ => hv, o4 := fun x => absurd x (by omega) }
theorem R3.call4 (h : R3 m n B 3 a b d e u7 u8 u9 u10 u33 u35 u37 u39 W) {v : Value} (hv : OwnV m n B v W) : R3 m n B 4 a b d e u7 u8 u9 u10 u33 u35 u37 v W := { h with o1 := fun _ => h.o1 (by omega), o2 := fun _ => h.o2 (by omega), o3 := fun _ => h.o3 (by omega), o4 := fun _ => hv }
theorem R3.box1 (h : R3 m n B c false b d e u7 u8 u9 u10 u33 u35 u37 u39 W) (hb : Below W.heap.size W W') {z : Nat} (hz : z = W.heap.size) (hv : BoxV B (.pointer (some ⟨z, 0, none⟩)) W') : R3 m n B c true b d e (.pointer (some ⟨z, 0, none⟩)) u8 u9 u10 u33 u35 u37 u39 W' :=
  { h.on hb with b1 := fun _ => hv, n12 := fun _ y => ((h.b2 y).ne hz).symm, n13 := fun _ y => ((h.b3 y).ne hz).symm, n14 := fun _ y => ((h.b4 y).ne hz).symm }
theorem R3.box2 (h : R3 m n B c a false d e u7 u8 u9 u10 u33 u35 u37 u39 W) (hb : Below W.heap.size W W') {z : Nat} (hz : z = W.heap.size) (hv : BoxV B (.pointer (some ⟨z, 0, none⟩)) W') : R3 m n B c a true d e u7 (.pointer (some ⟨z, 0, none⟩)) u9 u10 u33 u35 u37 u39 W' :=
  { h.on hb with b2 := fun _ => hv, n12 := fun y _ => (h.b1 y).ne hz, n23 := fun _ y => ((h.b3 y).ne hz).symm, n24 := fun _ y => ((h.b4 y).ne hz).symm }
theorem R3.box3 (h : R3 m n B c a b false e u7 u8 u9 u10 u33 u35 u37 u39 W) (hb : Below W.heap.size W W') {z : Nat} (hz : z = W.heap.size) (hv : BoxV B (.pointer (some ⟨z, 0, none⟩)) W') : R3 m n B c a b true e u7 u8 (.pointer (some ⟨z, 0, none⟩)) u10 u33 u35 u37 u39 W' :=
  { h.on hb with b3 := fun _ => hv, n13 := fun y _ => (h.b1 y).ne hz, n23 := fun y _ => (h.b2 y).ne hz, n34 := fun _ y => ((h.b4 y).ne hz).symm }
theorem R3.box4 (h : R3 m n B c a b d false u7 u8 u9 u10 u33 u35 u37 u39 W) (hb : Below W.heap.size W W') {z : Nat} (hz : z = W.heap.size) (hv : BoxV B (.pointer (some ⟨z, 0, none⟩)) W') : R3 m n B c a b d true u7 u8 u9 (.pointer (some ⟨z, 0, none⟩)) u33 u35 u37 u39 W' :=
  { h.on hb with b4 := fun _ => hv, n14 := fun y _ => (h.b1 y).ne hz, n24 := fun y _ => (h.b2 y).ne hz, n34 := fun y _ => (h.b3 y).ne hz }
end
/-- What is listed: the loads, so many calls, these boxes. -/
def lst (c : Nat) (a b d e : Bool) : Array Bool := #[true, decide (0 < c), true, decide (1 < c), true, decide (2 < c), true, decide (3 < c), a, b, d, e, false, false, false, false]
def ok3 (c : Nat) (a b d e : Bool) (i : Nat) : Bool :=
  (i == 1 && c == 0) || (i == 3 && c == 1) || (i == 5 && c == 2) || (i == 7 && c == 3) || (i == 8 && !a) || (i == 9 && !b) || (i == 10 && !d) || (i == 11 && !e) || (i == 12 && (c == 4 && a && b && d && e))
def tbl3 (ops : Array Oper) : Bool :=
  [0, 1, 2, 3, 4].all fun c => [false, true].all fun a => [false, true].all fun b => [false, true].all fun d => [false, true].all fun e => let rs := Region.ready .any ops (lst c a b d e); !rs.isEmpty && rs.all (ok3 c a b d e)
theorem tbl3_at {ops : Array Oper} (h : tbl3 ops = true) {c : Nat} (hc : c ≤ 4) (a b d e : Bool) : Region.ready .any ops (lst c a b d e) ≠ [] ∧ ∀ i ∈ Region.ready .any ops (lst c a b d e), ok3 c a b d e i = true := by
  have h1 : [0, 1, 2, 3, 4].all (fun c => [false, true].all fun a => [false, true].all fun b => [false, true].all fun d => [false, true].all fun e => let rs := Region.ready .any ops (lst c a b d e); !rs.isEmpty && rs.all (ok3 c a b d e)) = true := h
  have hb : ∀ x : Bool, x ∈ [false, true] := fun x => by cases x <;> simp
  have h2 := List.all_eq_true.1 h1 c (by simp; omega)
  have h3 := List.all_eq_true.1 (List.all_eq_true.1 (List.all_eq_true.1 (List.all_eq_true.1 h2 a (hb a)) b (hb b)) d (hb d)) e (hb e)
  simp only [Bool.and_eq_true, Bool.not_eq_true', List.isEmpty_eq_false_iff] at h3
  exact ⟨h3.1, fun i hi => List.all_eq_true.1 h3.2 i hi⟩
section
variable {P : Program} {ops : Array Oper} {Q : Exit → Act → World → Prop} {md : Region.Mode} {S : World → Prop} {f : Nat} {l l' : Array Bool} {act : Act} {w : World}
theorem name_ops (h : ∀ o, o = ops → wpAnyH P md o Q S f l act w) : wpAnyH P md ops Q S f l act w := h _ rfl
theorem name_lst (e : l = l') (h : wpAnyH P md ops Q S f l' act w) : wpAnyH P md ops Q S f l act w := e ▸ h
theorem all_each {rs : List Nat} (h : ∀ i ∈ rs, AllReadyH P md ops Q S f l act w [i]) : AllReadyH P md ops Q S f l act w rs := fun j hj => h j hj j (by simp)
end
end Go.Proofs.YtafeadplmcoilaaDoor
