/-
  The document's Right, Last, Great (of tuples): their contracts.
-/
import Derived.Test.YtbhnlmlaebngmaaTupU
namespace Go.Proofs.Ytbhnlmlaebngmaa
open Go.RowKit
set_option linter.unusedVariables false
set_option linter.unusedSimpArgs false

def MayIs (t : TupP) (b : Bool) : Prop := b = true ↔ MayT t
theorem MayIs.same {t : TupP} {a b : Bool} (h : MayIs t a) (h' : MayIs t b) : a = b := Bool.eq_iff_iff.2 (h.trans h'.symm)
theorem mayNo {t : TupP} (h : ¬ MayT t) : MayIs t false := ⟨(fun h => by cases h), fun k => absurd k h⟩
theorem mayYes {t : TupP} (h : MayT t) : MayIs t true := ⟨(fun _ => h), fun _ => rfl⟩
/-- What the loop knows. -/
structure RInv (t : TupP) (k : Nat) (a : Int) : Prop where
  last : lastTm t.sn.tm (t.lg.take k) = a
  ents : ∀ e ∈ t.lg.take k, RightP e
  rise : RiseP t.sn.tm (t.lg.take k)
theorem RInv.first (t : TupP) : RInv t 0 t.sn.tm := ⟨rfl, fun e h => by simp at h, by simpa using RiseP.nil _⟩
theorem RInv.next {t : TupP} {k : Nat} {a : Int} {e : EnP} (h : RInv t k a) (he : t.lg[k]? = some e) (h1 : RightP e) (h2 : a ≤ e.tm) : RInv t (k + 1) e.tm := by
  have ht := take_succ he
  refine ⟨by rw [ht, lastTm_snoc], fun d hd => ?_, ?_⟩
  · rw [ht] at hd
    rcases List.mem_append.1 hd with hd | hd
    · exact h.ents d hd
    · obtain rfl := List.mem_singleton.1 hd
      exact h1
  · rw [ht, rise_append]
    refine ⟨h.rise, rise_cons.2 ⟨by rw [h.last]; exact h2, RiseP.nil _⟩⟩
theorem RInv.bad1 {t : TupP} {k : Nat} {e : EnP} (he : t.lg[k]? = some e) (h1 : ¬ RightP e) : ¬ MayT t := fun h => h1 (h.ents e (List.mem_of_getElem? he))
theorem RInv.bad2 {t : TupP} {k : Nat} {a : Int} {e : EnP} (h : RInv t k a) (he : t.lg[k]? = some e) (h2 : e.tm < a) : ¬ MayT t := fun hM => by
  have := hM.rise k e he
  rw [h.last] at this
  omega
theorem RInv.done {t : TupP} {n : Nat} {a : Int} (h : RInv t n a) (hn : t.lg.length = n) : lastTm t.sn.tm t.lg = a ∧ (∀ e ∈ t.lg, RightP e) ∧ RiseP t.sn.tm t.lg := by
  have ht : t.lg.take n = t.lg := List.take_of_length_le (by omega)
  obtain ⟨h1, h2, h3⟩ := h
  rw [ht] at h1 h2 h3
  exact ⟨h1, h2, h3⟩
set_option maxRecDepth 100000 in
set_option maxHeartbeats 8000000 in
theorem right_no0 (t : TupP) (A : Option Addr) (n c : Nat) (w : World) (hS : Es w w.heap.size A n t.lg) (h0 : fineB t.sn = false) (hno : ¬ MayT t) :
    Calls Try.prog 28 #[tupV t (.slice A n c)] w fun e w' => (∃ b, MayIs t b ∧ e = .returned (.bool b)) ∧ Below w.heap.size w w' := by
  obtain ⟨z1, hz1⟩ : ∃ z, z = w.heap.size := ⟨_, rfl⟩
  obtain ⟨w1, hw1⟩ : ∃ x, x = w.alloc (.cells #[.int .i64 t.sn.ix, .int .i64 t.sn.tm, .int .i64 t.sn.sm, .int .i64 t.sn.lv, .bool t.sn.fn, .slice A n c, .int .i64 t.tm, .int .i64 t.vt] 26) := ⟨_, rfl⟩
  have bb : Below w.heap.size w w1 := by rw [hw1]; exact below_al (below_d0 _) _
  have bz : BoxU w1 z1 t (.slice A n c) := by rw [hw1, hz1]; exact BoxU.new w t _
  replace hS := hS.on bb bb.size
  have B1 := bb
  clear bb
  have HE := Lib.hid (⟨hw1, hz1⟩ : _ ∧ _)
  clear hw1 hz1
  have HN := Lib.hid hno
  clear hno
  unfold tupV
  go_enter Try.func28, Try.ntmps28
  go_wp2_with fail
  rw [← HE.out.1, ← HE.out.2]
  clear HE
  refine Calls.mono (show Calls Try.prog 37 #[.agg #[.int .i64 t.sn.ix, .int .i64 t.sn.tm, .int .i64 t.sn.sm, .int .i64 t.sn.lv, .bool t.sn.fn]] w1 (fun r w' => r = .returned (.bool (fineB t.sn)) ∧ Below w1.heap.size w1 w') from rfine_any t.sn w1) ?_
  intro e w2 hh
  obtain ⟨rfl, bb⟩ := hh
  (try clear hh)
  replace bz := bz.below bb
  replace hS := hS.on bb bb.size
  have B2 := B1.trans (bb.mono B1.size)
  clear bb B1
  rw [h0]
  obtain ⟨k0, k1, k2, k3, k4, k5, k6, k7⟩ := bz.cells
  go_wp2_with fail
  clear k0 k1 k2 k3 k4 k5 k6 k7
  go_ret
  exact ⟨⟨false, mayNo HN.out, rfl⟩, B2⟩
set_option maxRecDepth 100000 in
set_option maxHeartbeats 8000000 in
theorem right_no1 (t : TupP) (A : Option Addr) (n c : Nat) (w : World) (hS : Es w w.heap.size A n t.lg) (h0 : fineB t.sn = true) (h1 : decide ((1073740824 : Int) < t.sn.ix) = true) (hno : ¬ MayT t) :
    Calls Try.prog 28 #[tupV t (.slice A n c)] w fun e w' => (∃ b, MayIs t b ∧ e = .returned (.bool b)) ∧ Below w.heap.size w w' := by
  obtain ⟨z1, hz1⟩ : ∃ z, z = w.heap.size := ⟨_, rfl⟩
  obtain ⟨w1, hw1⟩ : ∃ x, x = w.alloc (.cells #[.int .i64 t.sn.ix, .int .i64 t.sn.tm, .int .i64 t.sn.sm, .int .i64 t.sn.lv, .bool t.sn.fn, .slice A n c, .int .i64 t.tm, .int .i64 t.vt] 26) := ⟨_, rfl⟩
  have bb : Below w.heap.size w w1 := by rw [hw1]; exact below_al (below_d0 _) _
  have bz : BoxU w1 z1 t (.slice A n c) := by rw [hw1, hz1]; exact BoxU.new w t _
  replace hS := hS.on bb bb.size
  have B1 := bb
  clear bb
  have HE := Lib.hid (⟨hw1, hz1⟩ : _ ∧ _)
  clear hw1 hz1
  have HN := Lib.hid hno
  clear hno
  unfold tupV
  go_enter Try.func28, Try.ntmps28
  go_wp2_with fail
  rw [← HE.out.1, ← HE.out.2]
  clear HE
  refine Calls.mono (show Calls Try.prog 37 #[.agg #[.int .i64 t.sn.ix, .int .i64 t.sn.tm, .int .i64 t.sn.sm, .int .i64 t.sn.lv, .bool t.sn.fn]] w1 (fun r w' => r = .returned (.bool (fineB t.sn)) ∧ Below w1.heap.size w1 w') from rfine_any t.sn w1) ?_
  intro e w2 hh
  obtain ⟨rfl, bb⟩ := hh
  (try clear hh)
  replace bz := bz.below bb
  replace hS := hS.on bb bb.size
  have B2 := B1.trans (bb.mono B1.size)
  clear bb B1
  rw [h0]
  obtain ⟨k0, k1, k2, k3, k4, k5, k6, k7⟩ := bz.cells
  go_wp2_with fail
  clear k0 k1 k2 k3 k4 k5 k6 k7
  go_ret
  exact ⟨⟨false, mayNo HN.out, rfl⟩, B2⟩
set_option maxRecDepth 100000 in
set_option maxHeartbeats 8000000 in
theorem right_no2 (t : TupP) (A : Option Addr) (n c : Nat) (w : World) (hS : Es w w.heap.size A n t.lg) (h0 : fineB t.sn = true) (h1 : decide ((1073740824 : Int) < t.sn.ix) = false) (h2 : decide ((200 : Int) < (n : Int)) = true) (hno : ¬ MayT t) :
    Calls Try.prog 28 #[tupV t (.slice A n c)] w fun e w' => (∃ b, MayIs t b ∧ e = .returned (.bool b)) ∧ Below w.heap.size w w' := by
  obtain ⟨z1, hz1⟩ : ∃ z, z = w.heap.size := ⟨_, rfl⟩
  obtain ⟨w1, hw1⟩ : ∃ x, x = w.alloc (.cells #[.int .i64 t.sn.ix, .int .i64 t.sn.tm, .int .i64 t.sn.sm, .int .i64 t.sn.lv, .bool t.sn.fn, .slice A n c, .int .i64 t.tm, .int .i64 t.vt] 26) := ⟨_, rfl⟩
  have bb : Below w.heap.size w w1 := by rw [hw1]; exact below_al (below_d0 _) _
  have bz : BoxU w1 z1 t (.slice A n c) := by rw [hw1, hz1]; exact BoxU.new w t _
  replace hS := hS.on bb bb.size
  have B1 := bb
  clear bb
  have HE := Lib.hid (⟨hw1, hz1⟩ : _ ∧ _)
  clear hw1 hz1
  have HN := Lib.hid hno
  clear hno
  unfold tupV
  go_enter Try.func28, Try.ntmps28
  go_wp2_with fail
  rw [← HE.out.1, ← HE.out.2]
  clear HE
  refine Calls.mono (show Calls Try.prog 37 #[.agg #[.int .i64 t.sn.ix, .int .i64 t.sn.tm, .int .i64 t.sn.sm, .int .i64 t.sn.lv, .bool t.sn.fn]] w1 (fun r w' => r = .returned (.bool (fineB t.sn)) ∧ Below w1.heap.size w1 w') from rfine_any t.sn w1) ?_
  intro e w2 hh
  obtain ⟨rfl, bb⟩ := hh
  (try clear hh)
  replace bz := bz.below bb
  replace hS := hS.on bb bb.size
  have B2 := B1.trans (bb.mono B1.size)
  clear bb B1
  rw [h0]
  obtain ⟨k0, k1, k2, k3, k4, k5, k6, k7⟩ := bz.cells
  go_wp2_with fail
  clear k0 k1 k2 k3 k4 k5 k6 k7
  go_ret
  exact ⟨⟨false, mayNo HN.out, rfl⟩, B2⟩
set_option maxRecDepth 100000 in
set_option maxHeartbeats 8000000 in
theorem right_no3 (t : TupP) (A : Option Addr) (n c : Nat) (w : World) (hS : Es w w.heap.size A n t.lg) (h0 : fineB t.sn = true) (h1 : decide ((1073740824 : Int) < t.sn.ix) = false) (h2 : decide ((200 : Int) < (n : Int)) = false) (h3 : decide (t.vt < (0 : Int)) = true) (hno : ¬ MayT t) :
    Calls Try.prog 28 #[tupV t (.slice A n c)] w fun e w' => (∃ b, MayIs t b ∧ e = .returned (.bool b)) ∧ Below w.heap.size w w' := by
  obtain ⟨z1, hz1⟩ : ∃ z, z = w.heap.size := ⟨_, rfl⟩
  obtain ⟨w1, hw1⟩ : ∃ x, x = w.alloc (.cells #[.int .i64 t.sn.ix, .int .i64 t.sn.tm, .int .i64 t.sn.sm, .int .i64 t.sn.lv, .bool t.sn.fn, .slice A n c, .int .i64 t.tm, .int .i64 t.vt] 26) := ⟨_, rfl⟩
  have bb : Below w.heap.size w w1 := by rw [hw1]; exact below_al (below_d0 _) _
  have bz : BoxU w1 z1 t (.slice A n c) := by rw [hw1, hz1]; exact BoxU.new w t _
  replace hS := hS.on bb bb.size
  have B1 := bb
  clear bb
  have HE := Lib.hid (⟨hw1, hz1⟩ : _ ∧ _)
  clear hw1 hz1
  have HN := Lib.hid hno
  clear hno
  unfold tupV
  go_enter Try.func28, Try.ntmps28
  go_wp2_with fail
  rw [← HE.out.1, ← HE.out.2]
  clear HE
  refine Calls.mono (show Calls Try.prog 37 #[.agg #[.int .i64 t.sn.ix, .int .i64 t.sn.tm, .int .i64 t.sn.sm, .int .i64 t.sn.lv, .bool t.sn.fn]] w1 (fun r w' => r = .returned (.bool (fineB t.sn)) ∧ Below w1.heap.size w1 w') from rfine_any t.sn w1) ?_
  intro e w2 hh
  obtain ⟨rfl, bb⟩ := hh
  (try clear hh)
  replace bz := bz.below bb
  replace hS := hS.on bb bb.size
  have B2 := B1.trans (bb.mono B1.size)
  clear bb B1
  rw [h0]
  obtain ⟨k0, k1, k2, k3, k4, k5, k6, k7⟩ := bz.cells
  go_wp2_with fail
  clear k0 k1 k2 k3 k4 k5 k6 k7
  go_ret
  exact ⟨⟨false, mayNo HN.out, rfl⟩, B2⟩
set_option maxRecDepth 100000 in
set_option maxHeartbeats 8000000 in
theorem right_no4 (t : TupP) (A : Option Addr) (n c : Nat) (w : World) (hS : Es w w.heap.size A n t.lg) (h0 : fineB t.sn = true) (h1 : decide ((1073740824 : Int) < t.sn.ix) = false) (h2 : decide ((200 : Int) < (n : Int)) = false) (h3 : decide (t.vt < (0 : Int)) = false) (h4 : decide ((5 : Int) < t.vt) = true) (hno : ¬ MayT t) :
    Calls Try.prog 28 #[tupV t (.slice A n c)] w fun e w' => (∃ b, MayIs t b ∧ e = .returned (.bool b)) ∧ Below w.heap.size w w' := by
  obtain ⟨z1, hz1⟩ : ∃ z, z = w.heap.size := ⟨_, rfl⟩
  obtain ⟨w1, hw1⟩ : ∃ x, x = w.alloc (.cells #[.int .i64 t.sn.ix, .int .i64 t.sn.tm, .int .i64 t.sn.sm, .int .i64 t.sn.lv, .bool t.sn.fn, .slice A n c, .int .i64 t.tm, .int .i64 t.vt] 26) := ⟨_, rfl⟩
  have bb : Below w.heap.size w w1 := by rw [hw1]; exact below_al (below_d0 _) _
  have bz : BoxU w1 z1 t (.slice A n c) := by rw [hw1, hz1]; exact BoxU.new w t _
  replace hS := hS.on bb bb.size
  have B1 := bb
  clear bb
  have HE := Lib.hid (⟨hw1, hz1⟩ : _ ∧ _)
  clear hw1 hz1
  have HN := Lib.hid hno
  clear hno
  unfold tupV
  go_enter Try.func28, Try.ntmps28
  go_wp2_with fail
  rw [← HE.out.1, ← HE.out.2]
  clear HE
  refine Calls.mono (show Calls Try.prog 37 #[.agg #[.int .i64 t.sn.ix, .int .i64 t.sn.tm, .int .i64 t.sn.sm, .int .i64 t.sn.lv, .bool t.sn.fn]] w1 (fun r w' => r = .returned (.bool (fineB t.sn)) ∧ Below w1.heap.size w1 w') from rfine_any t.sn w1) ?_
  intro e w2 hh
  obtain ⟨rfl, bb⟩ := hh
  (try clear hh)
  replace bz := bz.below bb
  replace hS := hS.on bb bb.size
  have B2 := B1.trans (bb.mono B1.size)
  clear bb B1
  rw [h0]
  obtain ⟨k0, k1, k2, k3, k4, k5, k6, k7⟩ := bz.cells
  go_wp2_with fail
  clear k0 k1 k2 k3 k4 k5 k6 k7
  go_ret
  exact ⟨⟨false, mayNo HN.out, rfl⟩, B2⟩
set_option maxRecDepth 100000 in
set_option maxHeartbeats 8000000 in
theorem right_loop (t : TupP) (A : Option Addr) (n c : Nat) (w : World) (hS : Es w w.heap.size A n t.lg) (h0 : fineB t.sn = true) (h1 : decide ((1073740824 : Int) < t.sn.ix) = false) (h2 : decide ((200 : Int) < (n : Int)) = false) (h3 : decide (t.vt < (0 : Int)) = false) (h4 : decide ((5 : Int) < t.vt) = false) (hh : FineP t.sn ∧ t.sn.ix ≤ 1073740824 ∧ n ≤ 200 ∧ 0 ≤ t.vt ∧ t.vt ≤ 5) :
    Calls Try.prog 28 #[tupV t (.slice A n c)] w fun e w' => (∃ b, MayIs t b ∧ e = .returned (.bool b)) ∧ Below w.heap.size w w' := by
  obtain ⟨z1, hz1⟩ : ∃ z, z = w.heap.size := ⟨_, rfl⟩
  obtain ⟨w1, hw1⟩ : ∃ x, x = w.alloc (.cells #[.int .i64 t.sn.ix, .int .i64 t.sn.tm, .int .i64 t.sn.sm, .int .i64 t.sn.lv, .bool t.sn.fn, .slice A n c, .int .i64 t.tm, .int .i64 t.vt] 26) := ⟨_, rfl⟩
  have bb : Below w.heap.size w w1 := by rw [hw1]; exact below_al (below_d0 _) _
  have bz : BoxU w1 z1 t (.slice A n c) := by rw [hw1, hz1]; exact BoxU.new w t _
  replace hS := hS.on bb bb.size
  have B1 := bb
  clear bb
  have HE := Lib.hid (⟨hw1, hz1⟩ : _ ∧ _)
  clear hw1 hz1
  have hn : n ≤ 200 := hh.2.2.1
  have HH := Lib.hid hh
  clear hh
  unfold tupV
  go_enter Try.func28, Try.ntmps28
  go_wp2_with fail
  rw [← HE.out.1, ← HE.out.2]
  clear HE
  refine Calls.mono (show Calls Try.prog 37 #[.agg #[.int .i64 t.sn.ix, .int .i64 t.sn.tm, .int .i64 t.sn.sm, .int .i64 t.sn.lv, .bool t.sn.fn]] w1 (fun r w' => r = .returned (.bool (fineB t.sn)) ∧ Below w1.heap.size w1 w') from rfine_any t.sn w1) ?_
  intro e w2 hh
  obtain ⟨rfl, bb⟩ := hh
  (try clear hh)
  replace bz := bz.below bb
  replace hS := hS.on bb bb.size
  have B2 := B1.trans (bb.mono B1.size)
  clear bb B1
  rw [h0]
  obtain ⟨k0, k1, k2, k3, k4, k5, k6, k7⟩ := bz.cells
  go_wp2_with fail
  clear k0 k1 k2 k3 k4 k5 k6 k7
  clear h0 h1 h2 h3 h4
  have HZ := Lib.hid (⟨bz, hS, B2⟩ : _ ∧ _ ∧ _)
  clear bz hS B2
  go_loopw [3, 4] (fun x v wr => ∃ (k : Nat) (a : Int), k ≤ n ∧ x = .int .i64 a ∧ v = .int .i64 k ∧ RInv t k a ∧ Below w2.heap.size w2 wr) (fun _ v _ => n - (intOf v).toNat)
  case atStart => exact ⟨0, _, Nat.zero_le _, rfl, rfl, RInv.first t, Below.refl _ _⟩
  obtain ⟨k, a, hk, rfl, rfl, hI, hB⟩ := hrel
  have HI := Lib.hid hI
  clear hI
  obtain ⟨bz, hS, B2⟩ := HZ.out
  replace bz := bz.below hB
  replace hS := hS.on hB hB.size
  have B3 := B2.trans (hB.mono B2.size)
  clear B2
  by_cases hlt : k < n
  · obtain ⟨b, off, e, rfl, hb, he, d0, d1, d2⟩ := hS.at_ hlt
    have HD := Lib.hid he
    clear he hb
    obtain ⟨k0, k1, k2, k3, k4, k5, k6, k7⟩ := bz.cells
    go_wp2_with fail
    clear k0 k1 k2 k3 k4 k5 k6 k7
    have HB := Lib.hid hB
    clear hB
    refine Calls.mono (show Calls Try.prog 56 #[.agg #[.int .i64 e.tm, .int .i64 e.kd, .int .i64 e.vl]] wr (fun r w' => r = .returned (.bool (rightB e)) ∧ Below wr.heap.size wr w') from rright_any e wr) ?_
    intro e w1 hh
    obtain ⟨rfl, bb⟩ := hh
    (try clear hh)
    replace bz := bz.below bb
    replace hS := hS.on bb bb.size
    have B1 := bb
    clear bb
    have B5 := B3.trans (B1.mono B3.size)
    obtain ⟨b', off', e', hbo, hb', he', g0, g1, g2⟩ := hS.at_ hlt
    obtain ⟨rfl, rfl⟩ : b = b' ∧ off = off' := by simpa using hbo
    obtain rfl : e = e' := Option.some.inj (HD.out.symm.trans he')
    clear hbo hb' he' d0 d1 d2
    by_cases hr : RightP e
    case neg =>
      rw [rightB_not.2 hr]
      obtain ⟨k0, k1, k2, k3, k4, k5, k6, k7⟩ := bz.cells
      go_wp2_with fail
      clear k0 k1 k2 k3 k4 k5 k6 k7
      go_ret
      exact ⟨⟨false, mayNo (RInv.bad1 HD.out hr), rfl⟩, B5⟩
    rw [rightB_iff.2 hr]
    by_cases hlo : e.tm < a
    case pos =>
      have q1 : decide (e.tm < a) = true := decide_eq_true hlo
      obtain ⟨k0, k1, k2, k3, k4, k5, k6, k7⟩ := bz.cells
      go_wp2_with fail
      clear k0 k1 k2 k3 k4 k5 k6 k7
      go_ret
      exact ⟨⟨false, mayNo (HI.out.bad2 HD.out hlo), rfl⟩, B5⟩
    have q1 : decide (e.tm < a) = false := decide_eq_false hlo
    obtain ⟨k0, k1, k2, k3, k4, k5, k6, k7⟩ := bz.cells
    go_wp2_with fail
    clear k0 k1 k2 k3 k4 k5 k6 k7
    go_roundw
    case rel => exact ⟨k + 1, _, by omega, rfl, by go_num, HI.out.next HD.out hr (by omega), HB.out.trans (B1.mono HB.out.size)⟩
    case measure => simp [intOf]; omega
  · obtain rfl : k = n := by omega
    obtain ⟨hl, he, hri⟩ := HI.out.done hS.len
    have HL := Lib.hid (⟨hl, he, hri, hS.len⟩ : _ ∧ _ ∧ _ ∧ _)
    clear hl he hri
    by_cases g0 : a ≤ t.tm
    case neg =>
      have q0 : decide (a ≤ t.tm) = false := decide_eq_false g0
      obtain ⟨k0, k1, k2, k3, k4, k5, k6, k7⟩ := bz.cells
      go_wp2_with fail
      clear k0 k1 k2 k3 k4 k5 k6 k7
      go_ret
      have hno : ¬ MayT t := fun h => by have h1 := h.tm; rw [HL.out.1] at h1; omega
      first | exact ⟨⟨false, mayNo hno, rfl⟩, B3⟩ | exact ⟨.inl ⟨mayNo hno, rfl⟩, B3⟩
    have q0 : decide (a ≤ t.tm) = true := decide_eq_true g0
    by_cases g1 : 0 ≤ t.tm
    case neg =>
      have q1 : decide ((0 : Int) ≤ t.tm) = false := decide_eq_false g1
      obtain ⟨k0, k1, k2, k3, k4, k5, k6, k7⟩ := bz.cells
      go_wp2_with fail
      clear k0 k1 k2 k3 k4 k5 k6 k7
      go_ret
      have hno : ¬ MayT t := fun h => by have h1 := h.tm; rw [HL.out.1] at h1; omega
      first | exact ⟨⟨false, mayNo hno, rfl⟩, B3⟩ | exact ⟨.inl ⟨mayNo hno, rfl⟩, B3⟩
    have q1 : decide ((0 : Int) ≤ t.tm) = true := decide_eq_true g1
    by_cases g2 : t.tm ≤ 1073741824
    case neg =>
      have q2 : decide (t.tm ≤ (1073741824 : Int)) = false := decide_eq_false g2
      obtain ⟨k0, k1, k2, k3, k4, k5, k6, k7⟩ := bz.cells
      go_wp2_with fail
      clear k0 k1 k2 k3 k4 k5 k6 k7
      go_ret
      have hno : ¬ MayT t := fun h => by have h1 := h.tm; rw [HL.out.1] at h1; omega
      first | exact ⟨⟨false, mayNo hno, rfl⟩, B3⟩ | exact ⟨.inl ⟨mayNo hno, rfl⟩, B3⟩
    have q2 : decide (t.tm ≤ (1073741824 : Int)) = true := decide_eq_true g2
    obtain ⟨k0, k1, k2, k3, k4, k5, k6, k7⟩ := bz.cells
    go_wp2_with fail
    clear k0 k1 k2 k3 k4 k5 k6 k7
    go_ret
    exact ⟨⟨true, mayYes ⟨HH.out.1, HH.out.2.1, by rw [HL.out.2.2.2]; exact HH.out.2.2.1, HH.out.2.2.2, HL.out.2.1, HL.out.2.2.1, by rw [HL.out.1]; omega⟩, rfl⟩, B3⟩
theorem rrightT_any (t : TupP) (A : Option Addr) (n c : Nat) (w : World) (hS : Es w w.heap.size A n t.lg) :
    Calls Try.prog 28 #[tupV t (.slice A n c)] w fun e w' => (∃ b, MayIs t b ∧ e = .returned (.bool b)) ∧ Below w.heap.size w w' := by
  have hl := hS.len
  by_cases g0 : FineP t.sn
  case neg => exact right_no0 t A n c w hS (fineB_not.2 g0) (fun h => g0 h.fine)
  have h0 := fineB_iff.2 g0
  by_cases g1 : 1073740824 < t.sn.ix
  · exact right_no1 t A n c w hS h0 (decide_eq_true g1) (fun h => by have := h.ix; omega)
  by_cases g2 : 200 < n
  · exact right_no2 t A n c w hS h0 (decide_eq_false g1) (decide_eq_true (by omega)) (fun h => by have := h.few; omega)
  by_cases g3 : t.vt < 0
  · exact right_no3 t A n c w hS h0 (decide_eq_false g1) (decide_eq_false (by omega)) (decide_eq_true g3) (fun h => by have := h.vt; omega)
  by_cases g4 : 5 < t.vt
  · exact right_no4 t A n c w hS h0 (decide_eq_false g1) (decide_eq_false (by omega)) (decide_eq_false g3) (decide_eq_true g4) (fun h => by have := h.vt; omega)
  exact right_loop t A n c w hS h0 (decide_eq_false g1) (decide_eq_false (by omega)) (decide_eq_false g3) (decide_eq_false g4) ⟨g0, by omega, by omega, by omega, by omega⟩
set_option maxRecDepth 100000 in
set_option maxHeartbeats 4000000 in
theorem rlastT_any (t : TupP) (A : Option Addr) (n c : Nat) (w : World) (hS : Es w w.heap.size A n t.lg) (hn : n ≤ 1000000) (hi : -1099511627776 ≤ t.sn.ix ∧ t.sn.ix ≤ 1099511627776) :
    Calls Try.prog 30 #[tupV t (.slice A n c)] w fun e w' => e = .returned (.int .i64 (lastT t)) ∧ Below w.heap.size w w' := by
  have hl := hS.len
  have q : IntKind.i64.wrap (t.sn.ix + (n : Int)) = lastT t := by rw [IntKind.wrap_i64]; unfold lastT; omega
  have q2 : wrap64 (t.sn.ix + (n : Int)) = lastT t := by unfold wrap64 lastT; omega
  clear hl
  obtain ⟨z1, hz1⟩ : ∃ z, z = w.heap.size := ⟨_, rfl⟩
  obtain ⟨w1, hw1⟩ : ∃ x, x = w.alloc (.cells #[.int .i64 t.sn.ix, .int .i64 t.sn.tm, .int .i64 t.sn.sm, .int .i64 t.sn.lv, .bool t.sn.fn, .slice A n c, .int .i64 t.tm, .int .i64 t.vt] 26) := ⟨_, rfl⟩
  have bb : Below w.heap.size w w1 := by rw [hw1]; exact below_al (below_d0 _) _
  have bz : BoxU w1 z1 t (.slice A n c) := by rw [hw1, hz1]; exact BoxU.new w t _
  replace hS := hS.on bb bb.size
  have B1 := bb
  clear bb
  have HE := Lib.hid (⟨hw1, hz1⟩ : _ ∧ _)
  clear hw1 hz1
  unfold tupV
  go_enter Try.func30, Try.ntmps30
  go_wp2_with fail
  go_ret
  refine ⟨?_, by rw [← HE.out.1]; exact B1⟩
  exact rfl
set_option maxRecDepth 100000 in
set_option maxHeartbeats 4000000 in
theorem rgreatT_any (t : TupP) (A : Option Addr) (n c : Nat) (w : World) (hS : Es w w.heap.size A n t.lg)   :
    Calls Try.prog 8 #[tupV t (.slice A n c)] w fun e w' => e = .returned (.bool (decide (250 < n))) ∧ Below w.heap.size w w' := by
  have q : decide ((250 : Int) < (n : Int)) = decide (250 < n) := by simp [decide_eq_decide]; omega
  obtain ⟨z1, hz1⟩ : ∃ z, z = w.heap.size := ⟨_, rfl⟩
  obtain ⟨w1, hw1⟩ : ∃ x, x = w.alloc (.cells #[.int .i64 t.sn.ix, .int .i64 t.sn.tm, .int .i64 t.sn.sm, .int .i64 t.sn.lv, .bool t.sn.fn, .slice A n c, .int .i64 t.tm, .int .i64 t.vt] 26) := ⟨_, rfl⟩
  have bb : Below w.heap.size w w1 := by rw [hw1]; exact below_al (below_d0 _) _
  have bz : BoxU w1 z1 t (.slice A n c) := by rw [hw1, hz1]; exact BoxU.new w t _
  replace hS := hS.on bb bb.size
  have B1 := bb
  clear bb
  have HE := Lib.hid (⟨hw1, hz1⟩ : _ ∧ _)
  clear hw1 hz1
  unfold tupV
  go_enter Try.func8, Try.ntmps8
  go_wp2_with fail
  go_ret
  refine ⟨?_, by rw [← HE.out.1]; exact B1⟩
  exact rfl
end Go.Proofs.Ytbhnlmlaebngmaa
