/-
  The document's At, TermAt (of tuples): their contracts.
-/
import Derived.Test.YtbhnlmlaebngmaaTupR
namespace Go.Proofs.Ytbhnlmlaebngmaa
open Go.RowKit
set_option linter.unusedVariables false
set_option linter.unusedSimpArgs false

def zeroE : EnP := ⟨0, 0, 0⟩
/-- A whole entry written into a box. -/
def putE (W : World) (z : Nat) (e : EnP) : World := (((W.setCell ⟨z, 0, none⟩ (.int .i64 e.tm)).setCell ⟨z, 1, none⟩ (.int .i64 e.kd)).setCell ⟨z, 2, none⟩ (.int .i64 e.vl))
theorem putE_box {W : World} {z : Nat} {d : EnP} (h : BoxE W z d) (e : EnP) : BoxE (putE W z e) z e := heap_set (heap_set (heap_set (show W.heap[z]? = _ from h) _) _) _
theorem putE_below {w W : World} {z B : Nat} (hz : B ≤ z) (e : EnP) (h : Below B w W) : Below B w (putE W z e) := ((h.setCell (p := ⟨z, 0, none⟩) hz _).setCell (p := ⟨z, 1, none⟩) hz _).setCell (p := ⟨z, 2, none⟩) hz _
theorem BoxE.frozen {W : World} {z : Nat} {e : EnP} (h : BoxE W z e) (i : Nat) : W.frozen? ⟨z, i, none⟩ = false := by
  simp [World.frozen?, show W.heap[z]? = _ from h]
theorem at_low {t : TupP} {i : Int} (h : i ≤ t.sn.ix) : atP t i = none := if_pos h
theorem at_high {t : TupP} {i : Int} (h : lastT t < i) : atP t i = none := by
  unfold atP
  unfold lastT at h
  split
  · rfl
  · exact List.getElem?_eq_none (by omega)
theorem at_in {t : TupP} {i : Int} {k : Nat} (h : (k : Int) = i - t.sn.ix - 1) : atP t i = t.lg[k]? := by
  unfold atP
  rw [if_neg (by omega)]
  congr 1
  omega
/-- What At answers. -/
def AtV (t : TupP) (i : Int) : Value := .tuple #[.agg #[.int .i64 ((atP t i).getD zeroE).tm, .int .i64 ((atP t i).getD zeroE).kd, .int .i64 ((atP t i).getD zeroE).vl], .bool (atP t i).isSome]
def TermV (t : TupP) (i : Int) : Value := .tuple #[.int .i64 ((termAtP t i).getD 0), .bool (termAtP t i).isSome]
set_option maxRecDepth 100000 in
set_option maxHeartbeats 8000000 in
theorem rat_low (t : TupP) (A : Option Addr) (n c : Nat) (i : Int) (w : World) (hS : Es w w.heap.size A n t.lg) (hn : n ≤ 1000000) (hx : -1099511627776 ≤ t.sn.ix ∧ t.sn.ix ≤ 1099511627776) (hi : -1099511627776 ≤ i ∧ i ≤ 1099511627776) (h0 : i ≤ t.sn.ix) :
    Calls Try.prog 24 #[tupV t (.slice A n c), .int .i64 i] w fun e w' => e = .returned (AtV t i) ∧ Below w.heap.size w w' := by
  have q0 : decide (i ≤ t.sn.ix) = true := decide_eq_true h0
  obtain ⟨z1, hz1⟩ : ∃ z, z = w.heap.size := ⟨_, rfl⟩
  obtain ⟨w1, hw1⟩ : ∃ x, x = w.alloc (.cells #[.int .i64 t.sn.ix, .int .i64 t.sn.tm, .int .i64 t.sn.sm, .int .i64 t.sn.lv, .bool t.sn.fn, .slice A n c, .int .i64 t.tm, .int .i64 t.vt] 26) := ⟨_, rfl⟩
  have bb : Below w.heap.size w w1 := by rw [hw1]; exact below_al (below_d0 _) _
  have bz : BoxU w1 z1 t (.slice A n c) := by rw [hw1, hz1]; exact BoxU.new w t _
  replace hS := hS.on bb bb.size
  have B1 := bb
  clear bb
  obtain ⟨z2, hz2⟩ : ∃ z, z = w1.heap.size := ⟨_, rfl⟩
  obtain ⟨w2, hw2⟩ : ∃ x, x = w1.alloc (.cells #[.int .i64 0, .int .i64 0, .int .i64 0] 39) := ⟨_, rfl⟩
  have bb : Below w1.heap.size w1 w2 := by rw [hw2]; exact below_al (below_d0 _) _
  have be : BoxE w2 z2 zeroE := by rw [hw2, hz2]; exact BoxE.new w1 zeroE
  replace bz := bz.below bb
  replace hS := hS.on bb bb.size
  have B2 := B1.trans (bb.mono B1.size)
  clear bb B1
  have hzz : z1 + 1 = z2 := by rw [hz2, hw1, hz1]; simp
  have lz : w.heap.size ≤ z2 := by omega
  have HE := Lib.hid (⟨hw1, hw2, hz1, hzz⟩ : _ ∧ _ ∧ _ ∧ _)
  have HL := Lib.hid (⟨hx, hi, lz⟩ : _ ∧ _ ∧ _)
  clear hw1 hz1 hw2 hz2 hzz lz
  have HV := Lib.hid (show AtV t i = .tuple #[.agg #[.int .i64 0, .int .i64 0, .int .i64 0], .bool false] by unfold AtV; rw [at_low h0]; rfl)
  unfold tupV
  go_enter Try.func24, Try.ntmps24
  obtain ⟨g0, g1, g2⟩ := be.cells
  rw [show z2 = w.heap.size + 1 by rw [← HE.out.2.2.2, HE.out.2.2.1]] at g0 g1 g2
  go_wp2_with fail
  rw [← HE.out.1, ← HE.out.2.1]
  exact bodyPost_ret (v := AtV t i) (by rw [show AtV t i = _ from HV.out]; simp [results, Try.results24, go_sem, g0, g1, g2, zeroE]) rfl ⟨rfl, B2⟩
set_option maxRecDepth 100000 in
set_option maxHeartbeats 8000000 in
theorem rat_high (t : TupP) (A : Option Addr) (n c : Nat) (i : Int) (w : World) (hS : Es w w.heap.size A n t.lg) (hn : n ≤ 1000000) (hx : -1099511627776 ≤ t.sn.ix ∧ t.sn.ix ≤ 1099511627776) (hi : -1099511627776 ≤ i ∧ i ≤ 1099511627776) (h0 : ¬ i ≤ t.sn.ix) (h1 : lastT t < i) :
    Calls Try.prog 24 #[tupV t (.slice A n c), .int .i64 i] w fun e w' => e = .returned (AtV t i) ∧ Below w.heap.size w w' := by
  have q0 : decide (i ≤ t.sn.ix) = false := decide_eq_false h0
  have q1 : decide (lastT t < i) = true := decide_eq_true h1
  obtain ⟨z1, hz1⟩ : ∃ z, z = w.heap.size := ⟨_, rfl⟩
  obtain ⟨w1, hw1⟩ : ∃ x, x = w.alloc (.cells #[.int .i64 t.sn.ix, .int .i64 t.sn.tm, .int .i64 t.sn.sm, .int .i64 t.sn.lv, .bool t.sn.fn, .slice A n c, .int .i64 t.tm, .int .i64 t.vt] 26) := ⟨_, rfl⟩
  have bb : Below w.heap.size w w1 := by rw [hw1]; exact below_al (below_d0 _) _
  have bz : BoxU w1 z1 t (.slice A n c) := by rw [hw1, hz1]; exact BoxU.new w t _
  replace hS := hS.on bb bb.size
  have B1 := bb
  clear bb
  obtain ⟨z2, hz2⟩ : ∃ z, z = w1.heap.size := ⟨_, rfl⟩
  obtain ⟨w2, hw2⟩ : ∃ x, x = w1.alloc (.cells #[.int .i64 0, .int .i64 0, .int .i64 0] 39) := ⟨_, rfl⟩
  have bb : Below w1.heap.size w1 w2 := by rw [hw2]; exact below_al (below_d0 _) _
  have be : BoxE w2 z2 zeroE := by rw [hw2, hz2]; exact BoxE.new w1 zeroE
  replace bz := bz.below bb
  replace hS := hS.on bb bb.size
  have B2 := B1.trans (bb.mono B1.size)
  clear bb B1
  have hzz : z1 + 1 = z2 := by rw [hz2, hw1, hz1]; simp
  have lz : w.heap.size ≤ z2 := by omega
  have HE := Lib.hid (⟨hw1, hw2, hz1, hzz⟩ : _ ∧ _ ∧ _ ∧ _)
  have HL := Lib.hid (⟨hx, hi, lz⟩ : _ ∧ _ ∧ _)
  clear hw1 hz1 hw2 hz2 hzz lz
  have HV := Lib.hid (show AtV t i = .tuple #[.agg #[.int .i64 0, .int .i64 0, .int .i64 0], .bool false] by unfold AtV; rw [at_high h1]; rfl)
  unfold tupV
  go_enter Try.func24, Try.ntmps24
  obtain ⟨k0, k1, k2, k3, k4, k5, k6, k7⟩ := bz.cells
  go_wp2_with fail
  clear k0 k1 k2 k3 k4 k5 k6 k7
  rw [← HE.out.1, ← HE.out.2.1, ← HE.out.2.2.1, HE.out.2.2.2]
  clear HE
  refine Calls.mono (show Calls Try.prog 30 #[.agg #[.int .i64 t.sn.ix, .int .i64 t.sn.tm, .int .i64 t.sn.sm, .int .i64 t.sn.lv, .bool t.sn.fn, .slice A n c, .int .i64 t.tm, .int .i64 t.vt]] w2 (fun e w' => e = .returned (.int .i64 (lastT t)) ∧ Below w2.heap.size w2 w') from rlastT_any t A n c w2 hS hn HL.out.1) ?_
  intro e w3 hh
  obtain ⟨rfl, bb⟩ := hh
  (try clear hh)
  replace bz := bz.below bb
  replace be := be.below bb
  replace hS := hS.on bb bb.size
  have B3 := B2.trans (bb.mono B2.size)
  clear bb B2
  obtain ⟨g0, g1, g2⟩ := be.cells
  have f0 := be.frozen 0
  have f1 := be.frozen 1
  have f2 := be.frozen 2
  go_wp2_with fail
  obtain ⟨W', hW'⟩ : ∃ W', W' = putE w3 z2 zeroE := ⟨_, rfl⟩
  have b9 := putE_box be zeroE
  have B9 := putE_below HL.out.2.2 zeroE B3
  rw [← hW'] at b9 B9
  have e9 : W' = (((w3.setCell ⟨z2, 0, none⟩ (.int .i64 0)).setCell ⟨z2, 1, none⟩ (.int .i64 0)).setCell ⟨z2, 2, none⟩ (.int .i64 0)) := hW'
  rw [← e9]
  clear e9 hW' g0 g1 g2 f0 f1 f2
  obtain ⟨g0, g1, g2⟩ := b9.cells
  exact bodyPost_ret (v := AtV t i) (by rw [show AtV t i = _ from HV.out]; simp [results, Try.results24, go_sem, g0, g1, g2, zeroE]) rfl ⟨rfl, B9⟩
set_option maxRecDepth 100000 in
set_option maxHeartbeats 8000000 in
theorem rat_in (t : TupP) (A : Option Addr) (n c : Nat) (i : Int) (w : World) (hS : Es w w.heap.size A n t.lg) (hn : n ≤ 1000000) (hx : -1099511627776 ≤ t.sn.ix ∧ t.sn.ix ≤ 1099511627776) (hi : -1099511627776 ≤ i ∧ i ≤ 1099511627776) (h0 : ¬ i ≤ t.sn.ix) (h1 : ¬ lastT t < i) :
    Calls Try.prog 24 #[tupV t (.slice A n c), .int .i64 i] w fun e w' => e = .returned (AtV t i) ∧ Below w.heap.size w w' := by
  have q0 : decide (i ≤ t.sn.ix) = false := decide_eq_false h0
  have q1 : decide (lastT t < i) = false := decide_eq_false h1
  obtain ⟨k, hk⟩ : ∃ k : Nat, (k : Int) = i - t.sn.ix - 1 := ⟨(i - t.sn.ix - 1).toNat, by omega⟩
  have hkn : k < n := by have := hS.len; unfold lastT at h1; omega
  obtain ⟨dd, hdd⟩ : ∃ d : Int, d = i - t.sn.ix := ⟨_, rfl⟩
  have r0 : wrap64 (i - t.sn.ix) = dd := by unfold wrap64; omega
  have r1 : IntKind.i64.wrap (i - t.sn.ix) = dd := by rw [IntKind.wrap_i64]; omega
  have r2 : wrap64 (dd - 1) = (k : Int) := by unfold wrap64; omega
  have r3 : IntKind.i64.wrap (dd - 1) = (k : Int) := by rw [IntKind.wrap_i64]; omega
  obtain ⟨z1, hz1⟩ : ∃ z, z = w.heap.size := ⟨_, rfl⟩
  obtain ⟨w1, hw1⟩ : ∃ x, x = w.alloc (.cells #[.int .i64 t.sn.ix, .int .i64 t.sn.tm, .int .i64 t.sn.sm, .int .i64 t.sn.lv, .bool t.sn.fn, .slice A n c, .int .i64 t.tm, .int .i64 t.vt] 26) := ⟨_, rfl⟩
  have bb : Below w.heap.size w w1 := by rw [hw1]; exact below_al (below_d0 _) _
  have bz : BoxU w1 z1 t (.slice A n c) := by rw [hw1, hz1]; exact BoxU.new w t _
  replace hS := hS.on bb bb.size
  have B1 := bb
  clear bb
  obtain ⟨z2, hz2⟩ : ∃ z, z = w1.heap.size := ⟨_, rfl⟩
  obtain ⟨w2, hw2⟩ : ∃ x, x = w1.alloc (.cells #[.int .i64 0, .int .i64 0, .int .i64 0] 39) := ⟨_, rfl⟩
  have bb : Below w1.heap.size w1 w2 := by rw [hw2]; exact below_al (below_d0 _) _
  have be : BoxE w2 z2 zeroE := by rw [hw2, hz2]; exact BoxE.new w1 zeroE
  replace bz := bz.below bb
  replace hS := hS.on bb bb.size
  have B2 := B1.trans (bb.mono B1.size)
  clear bb B1
  have hzz : z1 + 1 = z2 := by rw [hz2, hw1, hz1]; simp
  have lz : w.heap.size ≤ z2 := by omega
  have HE := Lib.hid (⟨hw1, hw2, hz1, hzz⟩ : _ ∧ _ ∧ _ ∧ _)
  have HL := Lib.hid (⟨hx, hi, lz⟩ : _ ∧ _ ∧ _)
  clear hw1 hz1 hw2 hz2 hzz lz
  obtain ⟨b, off, e, rfl, hb, he, d0, d1, d2⟩ := hS.at_ hkn
  clear d0 d1 d2 hb
  have HV := Lib.hid (show AtV t i = .tuple #[.agg #[.int .i64 e.tm, .int .i64 e.kd, .int .i64 e.vl], .bool true] by unfold AtV; rw [at_in hk, he]; rfl)
  have HD := Lib.hid he
  clear he hk hdd
  unfold tupV
  go_enter Try.func24, Try.ntmps24
  obtain ⟨k0, k1, k2, k3, k4, k5, k6, k7⟩ := bz.cells
  go_wp2_with fail
  clear k0 k1 k2 k3 k4 k5 k6 k7
  rw [← HE.out.1, ← HE.out.2.1, ← HE.out.2.2.1, HE.out.2.2.2]
  clear HE
  refine Calls.mono (show Calls Try.prog 30 #[.agg #[.int .i64 t.sn.ix, .int .i64 t.sn.tm, .int .i64 t.sn.sm, .int .i64 t.sn.lv, .bool t.sn.fn, .slice (some ⟨b, off, none⟩) n c, .int .i64 t.tm, .int .i64 t.vt]] w2 (fun e w' => e = .returned (.int .i64 (lastT t)) ∧ Below w2.heap.size w2 w') from rlastT_any t _ n c w2 hS hn HL.out.1) ?_
  intro e w3 hh
  obtain ⟨rfl, bb⟩ := hh
  (try clear hh)
  replace bz := bz.below bb
  replace be := be.below bb
  replace hS := hS.on bb bb.size
  have B3 := B2.trans (bb.mono B2.size)
  clear bb B2
  obtain ⟨b', off', e', hbo, hb', he', d0, d1, d2⟩ := hS.at_ hkn
  obtain ⟨rfl, rfl⟩ : b = b' ∧ off = off' := by simpa using hbo
  obtain rfl : e = e' := Option.some.inj (HD.out.symm.trans he')
  clear hbo hb' he'
  have hki : (0 : Int) ≤ (k : Int) ∧ (k : Int) < (n : Int) := by omega
  obtain ⟨g0, g1, g2⟩ := be.cells
  have f0 := be.frozen 0
  have f1 := be.frozen 1
  have f2 := be.frozen 2
  obtain ⟨k0, k1, k2, k3, k4, k5, k6, k7⟩ := bz.cells
  go_wp2_with fail
  clear k0 k1 k2 k3 k4 k5 k6 k7
  clear d0 d1 d2
  obtain ⟨W', hW'⟩ : ∃ W', W' = putE w3 z2 e := ⟨_, rfl⟩
  have b9 := putE_box be e
  have B9 := putE_below HL.out.2.2 e B3
  rw [← hW'] at b9 B9
  have e9 : W' = (((w3.setCell ⟨z2, 0, none⟩ (.int .i64 e.tm)).setCell ⟨z2, 1, none⟩ (.int .i64 e.kd)).setCell ⟨z2, 2, none⟩ (.int .i64 e.vl)) := hW'
  rw [← e9]
  clear e9 hW' g0 g1 g2 f0 f1 f2
  obtain ⟨g0, g1, g2⟩ := b9.cells
  exact bodyPost_ret (v := AtV t i) (by rw [show AtV t i = _ from HV.out]; simp [results, Try.results24, go_sem, g0, g1, g2]) rfl ⟨rfl, B9⟩
theorem ratT_any (t : TupP) (A : Option Addr) (n c : Nat) (i : Int) (w : World) (hS : Es w w.heap.size A n t.lg) (hn : n ≤ 1000000) (hx : -1099511627776 ≤ t.sn.ix ∧ t.sn.ix ≤ 1099511627776) (hi : -1099511627776 ≤ i ∧ i ≤ 1099511627776) :
    Calls Try.prog 24 #[tupV t (.slice A n c), .int .i64 i] w fun e w' => e = .returned (AtV t i) ∧ Below w.heap.size w w' := by
  by_cases h0 : i ≤ t.sn.ix
  · exact rat_low t A n c i w hS hn hx hi h0
  by_cases h1 : lastT t < i
  · exact rat_high t A n c i w hS hn hx hi h0 h1
  exact rat_in t A n c i w hS hn hx hi h0 h1
set_option maxRecDepth 100000 in
set_option maxHeartbeats 8000000 in
theorem rtermAtT_any (t : TupP) (A : Option Addr) (n c : Nat) (i : Int) (w : World) (hS : Es w w.heap.size A n t.lg) (hn : n ≤ 1000000) (hx : -1099511627776 ≤ t.sn.ix ∧ t.sn.ix ≤ 1099511627776) (hi : -1099511627776 ≤ i ∧ i ≤ 1099511627776) :
    Calls Try.prog 22 #[tupV t (.slice A n c), .int .i64 i] w fun e w' => e = .returned (TermV t i) ∧ Below w.heap.size w w' := by
  by_cases h0 : i = t.sn.ix
  · have q0 : (i == t.sn.ix) = true := by simpa using h0
    have HV := Lib.hid (show TermV t i = .tuple #[.int .i64 t.sn.tm, .bool true] by unfold TermV termAtP; rw [if_pos h0]; rfl)
    clear h0
    obtain ⟨z1, hz1⟩ : ∃ z, z = w.heap.size := ⟨_, rfl⟩
    obtain ⟨w1, hw1⟩ : ∃ x, x = w.alloc (.cells #[.int .i64 t.sn.ix, .int .i64 t.sn.tm, .int .i64 t.sn.sm, .int .i64 t.sn.lv, .bool t.sn.fn, .slice A n c, .int .i64 t.tm, .int .i64 t.vt] 26) := ⟨_, rfl⟩
    have bb : Below w.heap.size w w1 := by rw [hw1]; exact below_al (below_d0 _) _
    have bz : BoxU w1 z1 t (.slice A n c) := by rw [hw1, hz1]; exact BoxU.new w t _
    replace hS := hS.on bb bb.size
    have B1 := bb
    clear bb
    have HE := Lib.hid (⟨hw1, hz1⟩ : _ ∧ _)
    clear hw1 hz1
    unfold tupV
    go_enter Try.func22, Try.ntmps22
    go_wp2_with fail
    rw [← HE.out.1]
    exact bodyPost_ret (v := TermV t i) (by rw [show TermV t i = _ from HV.out]; simp [results, Try.results22, go_sem]) rfl ⟨rfl, B1⟩
  · have q0 : (i == t.sn.ix) = false := by simpa using h0
    have HV := Lib.hid (show TermV t i = .tuple #[.int .i64 ((atP t i).getD zeroE).tm, .bool (atP t i).isSome] by unfold TermV termAtP; rw [if_neg h0]; cases atP t i <;> rfl)
    clear h0
    obtain ⟨z1, hz1⟩ : ∃ z, z = w.heap.size := ⟨_, rfl⟩
    obtain ⟨w1, hw1⟩ : ∃ x, x = w.alloc (.cells #[.int .i64 t.sn.ix, .int .i64 t.sn.tm, .int .i64 t.sn.sm, .int .i64 t.sn.lv, .bool t.sn.fn, .slice A n c, .int .i64 t.tm, .int .i64 t.vt] 26) := ⟨_, rfl⟩
    have bb : Below w.heap.size w w1 := by rw [hw1]; exact below_al (below_d0 _) _
    have bz : BoxU w1 z1 t (.slice A n c) := by rw [hw1, hz1]; exact BoxU.new w t _
    replace hS := hS.on bb bb.size
    have B1 := bb
    clear bb
    have HE := Lib.hid (⟨hw1, hz1⟩ : _ ∧ _)
    clear hw1 hz1
    unfold tupV
    go_enter Try.func22, Try.ntmps22
    go_wp2_with fail
    rw [← HE.out.1]
    refine Calls.mono (show Calls Try.prog 24 #[.agg #[.int .i64 t.sn.ix, .int .i64 t.sn.tm, .int .i64 t.sn.sm, .int .i64 t.sn.lv, .bool t.sn.fn, .slice A n c, .int .i64 t.tm, .int .i64 t.vt], .int .i64 i] w1 (fun e w' => e = .returned (AtV t i) ∧ Below w1.heap.size w1 w') from ratT_any t A n c i w1 hS hn hx hi) ?_
    intro e w2 hh
    obtain ⟨rfl, bb⟩ := hh
    (try clear hh)
    replace bz := bz.below bb
    replace hS := hS.on bb bb.size
    have B2 := B1.trans (bb.mono B1.size)
    clear bb B1
    unfold AtV
    have HV2 := HV
    go_wp2_with fail
    skip
    exact bodyPost_ret (v := TermV t i) (by rw [show TermV t i = _ from HV.out]; simp [results, Try.results22, go_sem]) rfl ⟨rfl, by first | exact B2 | exact below_al B2 _⟩
end Go.Proofs.Ytbhnlmlaebngmaa
