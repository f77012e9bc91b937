/-
  TupleTells: it returns true, whatever package tuple's contracts are proved by.
-/
import Derived.Test.YtbhnlmlaebngmaaTupL
import Derived.Deep.DeepCutAuto
namespace Go.Proofs.Ytbhnlmlaebngmaa
open Go.RowKit
set_option linter.unusedVariables false
set_option linter.unusedSimpArgs false

theorem neq_sameE (s : EnP) (w : World) : (binOp .neq 39 (.agg #[.int .i64 s.tm, .int .i64 s.kd, .int .i64 s.vl]) (.agg #[.int .i64 s.tm, .int .i64 s.kd, .int .i64 s.vl])).run Try.prog w = .ok (.bool false) w := by
  rw [run_neq_struct, equal_en]
  simp
theorem termV_is (t : TupP) (i : Int) : ∃ x ok, TermV t i = .tuple #[.int .i64 x, .bool ok] := ⟨_, _, rfl⟩
theorem atV_is (t : TupP) (i : Int) : ∃ (y : EnP) (ok : Bool), AtV t i = .tuple #[.agg #[.int .i64 y.tm, .int .i64 y.kd, .int .i64 y.vl], .bool ok] := ⟨_, _, rfl⟩
theorem stateV_is (t : TupP) (i : Int) : ∃ (y : StP) (ok : Bool), StateV t i = .tuple #[.agg #[.int .i64 y.ix, .int .i64 y.tm, .int .i64 y.sm, .int .i64 y.lv, .bool y.fn], .bool ok] := ⟨_, _, rfl⟩
set_option maxRecDepth 100000 in
set_option maxHeartbeats 32000000 in
theorem tells_0 (D : Dev12) (t o : TupP) (l : List EnP) (s : StP) (i a b : Int) (A A' Al : Option Addr) (n c n' c' m cl : Nat) (w : World) (hS : Es w w.heap.size A n t.lg) (hnc : n ≤ c) (hO : Es w w.heap.size A' n' o.lg) (hL : Es w w.heap.size Al m l) (hml : m ≤ cl) (h0 : decide (250 < n) = true) :
    Calls Try.prog 3 #[tupV t (.slice A n c), tupV o (.slice A' n' c'), .slice Al m cl, s.v, .int .i64 i, .int .i64 a, .int .i64 b] w fun e w' => e = .returned (.bool true) ∧ Below w.heap.size w w' := by
  have G0 := Lib.hid h0
  clear h0
  have HS0 := Lib.hid (⟨hS, hO, hL⟩ : _ ∧ _ ∧ _)
  obtain ⟨z1, hz1⟩ : ∃ z, z = w.heap.size := ⟨_, rfl⟩
  obtain ⟨w1, hw1⟩ : ∃ x, x = w.alloc (.cells #[.int .i64 t.sn.ix, .int .i64 t.sn.tm, .int .i64 t.sn.sm, .int .i64 t.sn.lv, .bool t.sn.fn, .slice A n c, .int .i64 t.tm, .int .i64 t.vt] 26) := ⟨_, rfl⟩
  have bb : Below w.heap.size w w1 := by rw [hw1]; exact below_al (below_d0 _) _
  have bz : BoxU w1 z1 t (.slice A n c) := by rw [hw1, hz1]; exact BoxU.new w t _
  replace hS := hS.on bb bb.size
  replace hO := hO.on bb bb.size
  replace hL := hL.on bb bb.size
  have B1 := bb
  clear bb
  obtain ⟨z2, hz2⟩ : ∃ z, z = w1.heap.size := ⟨_, rfl⟩
  obtain ⟨w2, hw2⟩ : ∃ x, x = w1.alloc (.cells #[.int .i64 o.sn.ix, .int .i64 o.sn.tm, .int .i64 o.sn.sm, .int .i64 o.sn.lv, .bool o.sn.fn, .slice A' n' c', .int .i64 o.tm, .int .i64 o.vt] 26) := ⟨_, rfl⟩
  have bb : Below w1.heap.size w1 w2 := by rw [hw2]; exact below_al (below_d0 _) _
  have bo : BoxU w2 z2 o (.slice A' n' c') := by rw [hw2, hz2]; exact BoxU.new w1 o _
  replace bz := bz.below bb
  replace hS := hS.on bb bb.size
  replace hO := hO.on bb bb.size
  replace hL := hL.on bb bb.size
  have B2 := B1.trans (bb.mono B1.size)
  clear bb B1
  obtain ⟨z3, hz3⟩ : ∃ z, z = w2.heap.size := ⟨_, rfl⟩
  obtain ⟨w3, hw3⟩ : ∃ x, x = w2.alloc (.cells #[.int .i64 s.ix, .int .i64 s.tm, .int .i64 s.sm, .int .i64 s.lv, .bool s.fn] 23) := ⟨_, rfl⟩
  have bb : Below w2.heap.size w2 w3 := by rw [hw3]; exact below_al (below_d0 _) _
  have bs : BoxS w3 z3 s := by rw [hw3, hz3]; exact BoxS.new w2 s
  replace bz := bz.below bb
  replace bo := bo.below bb
  replace hS := hS.on bb bb.size
  replace hO := hO.on bb bb.size
  replace hL := hL.on bb bb.size
  have B3 := B2.trans (bb.mono B2.size)
  clear bb B2
  have hp2 : z1 + 1 = z2 := by rw [hz2, hw1, hz1]; simp
  have hp3 : z2 + 1 = z3 := by rw [hz3, hw2, hz2]; simp
  have lz2 : w.heap.size ≤ z2 := by omega
  have lz3 : w.heap.size ≤ z3 := by omega
  have ne12 : z1 ≠ z2 := by omega
  have ne13 : z1 ≠ z3 := by omega
  have ne23 : z2 ≠ z3 := by omega
  have HE := Lib.hid (⟨hw1, hw2, hw3, hz1, hp2, hp3⟩ : _ ∧ _ ∧ _ ∧ _ ∧ _ ∧ _)
  have HLZ := Lib.hid (⟨lz2, lz3⟩ : _ ∧ _)
  clear hw1 hz1 hw2 hz2 hw3 hz3 hp2 hp3 lz2 lz3
  skip
  unfold StP.v
  unfold tupV
  go_enter Try.func3, Try.ntmps3
  obtain ⟨k0, k1, k2, k3, k4, k5, k6, k7⟩ := bz.cells
  obtain ⟨j0, j1, j2, j3, j4, j5, j6, j7⟩ := bo.cells
  obtain ⟨x0, x1, x2, x3, x4⟩ := bs.cells
  go_wp2_with fail
  clear k0 k1 k2 k3 k4 k5 k6 k7
  clear j0 j1 j2 j3 j4 j5 j6 j7
  clear x0 x1 x2 x3 x4
  rw [← HE.out.1, ← HE.out.2.1, ← HE.out.2.2.1, ← HE.out.2.2.2.1]
  (try rw [HE.out.2.2.2.2.1])
  (try rw [HE.out.2.2.2.2.2])
  clear HE
  refine Calls.mono (show Calls Try.prog 8 #[.agg #[.int .i64 t.sn.ix, .int .i64 t.sn.tm, .int .i64 t.sn.sm, .int .i64 t.sn.lv, .bool t.sn.fn, .slice A n c, .int .i64 t.tm, .int .i64 t.vt]] w3 (fun e w' => e = .returned (.bool (decide (250 < n))) ∧ Below w3.heap.size w3 w') from rgreatT_any t A n c w3 hS) ?_
  intro e w4 hh
  obtain ⟨rfl, bb⟩ := hh
  (try clear hh)
  replace bz := bz.below bb
  replace bo := bo.below bb
  replace bs := bs.below bb
  replace hS := hS.on bb bb.size
  replace hO := hO.on bb bb.size
  replace hL := hL.on bb bb.size
  have B4 := B3.trans (bb.mono B3.size)
  clear bb B3
  rw [G0.out]
  obtain ⟨k0, k1, k2, k3, k4, k5, k6, k7⟩ := bz.cells
  obtain ⟨j0, j1, j2, j3, j4, j5, j6, j7⟩ := bo.cells
  obtain ⟨x0, x1, x2, x3, x4⟩ := bs.cells
  go_wp2_with fail
  clear k0 k1 k2 k3 k4 k5 k6 k7
  clear j0 j1 j2 j3 j4 j5 j6 j7
  clear x0 x1 x2 x3 x4
  refine Calls.mono (wakes12 D w4) ?_
  rintro e w5 ⟨rfl, bb⟩
  replace bz := bz.below bb
  replace bo := bo.below bb
  replace bs := bs.below bb
  replace hS := hS.on bb bb.size
  replace hO := hO.on bb bb.size
  replace hL := hL.on bb bb.size
  have B5 := B4.trans (bb.mono B4.size)
  clear bb B4
  go_wp2_with fail
  go_ret
  exact ⟨rfl, B5⟩
set_option maxRecDepth 100000 in
set_option maxHeartbeats 32000000 in
theorem tells_1 (D : Dev12) (t o : TupP) (l : List EnP) (s : StP) (i a b : Int) (A A' Al : Option Addr) (n c n' c' m cl : Nat) (w : World) (hS : Es w w.heap.size A n t.lg) (hnc : n ≤ c) (hO : Es w w.heap.size A' n' o.lg) (hL : Es w w.heap.size Al m l) (hml : m ≤ cl) (h0 : decide (250 < n) = false) (h1 : decide (250 < n') = true) :
    Calls Try.prog 3 #[tupV t (.slice A n c), tupV o (.slice A' n' c'), .slice Al m cl, s.v, .int .i64 i, .int .i64 a, .int .i64 b] w fun e w' => e = .returned (.bool true) ∧ Below w.heap.size w w' := by
  have G0 := Lib.hid h0
  have G1 := Lib.hid h1
  clear h1
  clear h0
  have HS0 := Lib.hid (⟨hS, hO, hL⟩ : _ ∧ _ ∧ _)
  obtain ⟨z1, hz1⟩ : ∃ z, z = w.heap.size := ⟨_, rfl⟩
  obtain ⟨w1, hw1⟩ : ∃ x, x = w.alloc (.cells #[.int .i64 t.sn.ix, .int .i64 t.sn.tm, .int .i64 t.sn.sm, .int .i64 t.sn.lv, .bool t.sn.fn, .slice A n c, .int .i64 t.tm, .int .i64 t.vt] 26) := ⟨_, rfl⟩
  have bb : Below w.heap.size w w1 := by rw [hw1]; exact below_al (below_d0 _) _
  have bz : BoxU w1 z1 t (.slice A n c) := by rw [hw1, hz1]; exact BoxU.new w t _
  replace hS := hS.on bb bb.size
  replace hO := hO.on bb bb.size
  replace hL := hL.on bb bb.size
  have B1 := bb
  clear bb
  obtain ⟨z2, hz2⟩ : ∃ z, z = w1.heap.size := ⟨_, rfl⟩
  obtain ⟨w2, hw2⟩ : ∃ x, x = w1.alloc (.cells #[.int .i64 o.sn.ix, .int .i64 o.sn.tm, .int .i64 o.sn.sm, .int .i64 o.sn.lv, .bool o.sn.fn, .slice A' n' c', .int .i64 o.tm, .int .i64 o.vt] 26) := ⟨_, rfl⟩
  have bb : Below w1.heap.size w1 w2 := by rw [hw2]; exact below_al (below_d0 _) _
  have bo : BoxU w2 z2 o (.slice A' n' c') := by rw [hw2, hz2]; exact BoxU.new w1 o _
  replace bz := bz.below bb
  replace hS := hS.on bb bb.size
  replace hO := hO.on bb bb.size
  replace hL := hL.on bb bb.size
  have B2 := B1.trans (bb.mono B1.size)
  clear bb B1
  obtain ⟨z3, hz3⟩ : ∃ z, z = w2.heap.size := ⟨_, rfl⟩
  obtain ⟨w3, hw3⟩ : ∃ x, x = w2.alloc (.cells #[.int .i64 s.ix, .int .i64 s.tm, .int .i64 s.sm, .int .i64 s.lv, .bool s.fn] 23) := ⟨_, rfl⟩
  have bb : Below w2.heap.size w2 w3 := by rw [hw3]; exact below_al (below_d0 _) _
  have bs : BoxS w3 z3 s := by rw [hw3, hz3]; exact BoxS.new w2 s
  replace bz := bz.below bb
  replace bo := bo.below bb
  replace hS := hS.on bb bb.size
  replace hO := hO.on bb bb.size
  replace hL := hL.on bb bb.size
  have B3 := B2.trans (bb.mono B2.size)
  clear bb B2
  have hp2 : z1 + 1 = z2 := by rw [hz2, hw1, hz1]; simp
  have hp3 : z2 + 1 = z3 := by rw [hz3, hw2, hz2]; simp
  have lz2 : w.heap.size ≤ z2 := by omega
  have lz3 : w.heap.size ≤ z3 := by omega
  have ne12 : z1 ≠ z2 := by omega
  have ne13 : z1 ≠ z3 := by omega
  have ne23 : z2 ≠ z3 := by omega
  have HE := Lib.hid (⟨hw1, hw2, hw3, hz1, hp2, hp3⟩ : _ ∧ _ ∧ _ ∧ _ ∧ _ ∧ _)
  have HLZ := Lib.hid (⟨lz2, lz3⟩ : _ ∧ _)
  clear hw1 hz1 hw2 hz2 hw3 hz3 hp2 hp3 lz2 lz3
  skip
  unfold StP.v
  unfold tupV
  go_enter Try.func3, Try.ntmps3
  obtain ⟨k0, k1, k2, k3, k4, k5, k6, k7⟩ := bz.cells
  obtain ⟨j0, j1, j2, j3, j4, j5, j6, j7⟩ := bo.cells
  obtain ⟨x0, x1, x2, x3, x4⟩ := bs.cells
  go_wp2_with fail
  clear k0 k1 k2 k3 k4 k5 k6 k7
  clear j0 j1 j2 j3 j4 j5 j6 j7
  clear x0 x1 x2 x3 x4
  rw [← HE.out.1, ← HE.out.2.1, ← HE.out.2.2.1, ← HE.out.2.2.2.1]
  (try rw [HE.out.2.2.2.2.1])
  (try rw [HE.out.2.2.2.2.2])
  clear HE
  refine Calls.mono (show Calls Try.prog 8 #[.agg #[.int .i64 t.sn.ix, .int .i64 t.sn.tm, .int .i64 t.sn.sm, .int .i64 t.sn.lv, .bool t.sn.fn, .slice A n c, .int .i64 t.tm, .int .i64 t.vt]] w3 (fun e w' => e = .returned (.bool (decide (250 < n))) ∧ Below w3.heap.size w3 w') from rgreatT_any t A n c w3 hS) ?_
  intro e w4 hh
  obtain ⟨rfl, bb⟩ := hh
  (try clear hh)
  replace bz := bz.below bb
  replace bo := bo.below bb
  replace bs := bs.below bb
  replace hS := hS.on bb bb.size
  replace hO := hO.on bb bb.size
  replace hL := hL.on bb bb.size
  have B4 := B3.trans (bb.mono B3.size)
  clear bb B3
  rw [G0.out]
  obtain ⟨k0, k1, k2, k3, k4, k5, k6, k7⟩ := bz.cells
  obtain ⟨j0, j1, j2, j3, j4, j5, j6, j7⟩ := bo.cells
  obtain ⟨x0, x1, x2, x3, x4⟩ := bs.cells
  go_wp2_with fail
  clear k0 k1 k2 k3 k4 k5 k6 k7
  clear j0 j1 j2 j3 j4 j5 j6 j7
  clear x0 x1 x2 x3 x4
  refine Calls.mono (show Calls Try.prog 8 #[.agg #[.int .i64 o.sn.ix, .int .i64 o.sn.tm, .int .i64 o.sn.sm, .int .i64 o.sn.lv, .bool o.sn.fn, .slice A' n' c', .int .i64 o.tm, .int .i64 o.vt]] w4 (fun e w' => e = .returned (.bool (decide (250 < n'))) ∧ Below w4.heap.size w4 w') from rgreatT_any o A' n' c' w4 hO) ?_
  intro e w5 hh
  obtain ⟨rfl, bb⟩ := hh
  (try clear hh)
  replace bz := bz.below bb
  replace bo := bo.below bb
  replace bs := bs.below bb
  replace hS := hS.on bb bb.size
  replace hO := hO.on bb bb.size
  replace hL := hL.on bb bb.size
  have B5 := B4.trans (bb.mono B4.size)
  clear bb B4
  rw [G1.out]
  obtain ⟨k0, k1, k2, k3, k4, k5, k6, k7⟩ := bz.cells
  obtain ⟨j0, j1, j2, j3, j4, j5, j6, j7⟩ := bo.cells
  obtain ⟨x0, x1, x2, x3, x4⟩ := bs.cells
  go_wp2_with fail
  clear k0 k1 k2 k3 k4 k5 k6 k7
  clear j0 j1 j2 j3 j4 j5 j6 j7
  clear x0 x1 x2 x3 x4
  refine Calls.mono (wakes12 D w5) ?_
  rintro e w6 ⟨rfl, bb⟩
  replace bz := bz.below bb
  replace bo := bo.below bb
  replace bs := bs.below bb
  replace hS := hS.on bb bb.size
  replace hO := hO.on bb bb.size
  replace hL := hL.on bb bb.size
  have B6 := B5.trans (bb.mono B5.size)
  clear bb B5
  go_wp2_with fail
  go_ret
  exact ⟨rfl, B6⟩
set_option maxRecDepth 100000 in
set_option maxHeartbeats 32000000 in
theorem tells_2 (D : Dev12) (t o : TupP) (l : List EnP) (s : StP) (i a b : Int) (A A' Al : Option Addr) (n c n' c' m cl : Nat) (w : World) (hS : Es w w.heap.size A n t.lg) (hnc : n ≤ c) (hO : Es w w.heap.size A' n' o.lg) (hL : Es w w.heap.size Al m l) (hml : m ≤ cl) (h0 : decide (250 < n) = false) (h1 : decide (250 < n') = false) (h2 : decide ((100 : Int) < (m : Int)) = true) :
    Calls Try.prog 3 #[tupV t (.slice A n c), tupV o (.slice A' n' c'), .slice Al m cl, s.v, .int .i64 i, .int .i64 a, .int .i64 b] w fun e w' => e = .returned (.bool true) ∧ Below w.heap.size w w' := by
  have h2b : decide (100 < m) = true := decide_eq_true (by have := of_decide_eq_true h2; omega)
  have G0 := Lib.hid h0
  have G1 := Lib.hid h1
  clear h1
  clear h0
  have HS0 := Lib.hid (⟨hS, hO, hL⟩ : _ ∧ _ ∧ _)
  obtain ⟨z1, hz1⟩ : ∃ z, z = w.heap.size := ⟨_, rfl⟩
  obtain ⟨w1, hw1⟩ : ∃ x, x = w.alloc (.cells #[.int .i64 t.sn.ix, .int .i64 t.sn.tm, .int .i64 t.sn.sm, .int .i64 t.sn.lv, .bool t.sn.fn, .slice A n c, .int .i64 t.tm, .int .i64 t.vt] 26) := ⟨_, rfl⟩
  have bb : Below w.heap.size w w1 := by rw [hw1]; exact below_al (below_d0 _) _
  have bz : BoxU w1 z1 t (.slice A n c) := by rw [hw1, hz1]; exact BoxU.new w t _
  replace hS := hS.on bb bb.size
  replace hO := hO.on bb bb.size
  replace hL := hL.on bb bb.size
  have B1 := bb
  clear bb
  obtain ⟨z2, hz2⟩ : ∃ z, z = w1.heap.size := ⟨_, rfl⟩
  obtain ⟨w2, hw2⟩ : ∃ x, x = w1.alloc (.cells #[.int .i64 o.sn.ix, .int .i64 o.sn.tm, .int .i64 o.sn.sm, .int .i64 o.sn.lv, .bool o.sn.fn, .slice A' n' c', .int .i64 o.tm, .int .i64 o.vt] 26) := ⟨_, rfl⟩
  have bb : Below w1.heap.size w1 w2 := by rw [hw2]; exact below_al (below_d0 _) _
  have bo : BoxU w2 z2 o (.slice A' n' c') := by rw [hw2, hz2]; exact BoxU.new w1 o _
  replace bz := bz.below bb
  replace hS := hS.on bb bb.size
  replace hO := hO.on bb bb.size
  replace hL := hL.on bb bb.size
  have B2 := B1.trans (bb.mono B1.size)
  clear bb B1
  obtain ⟨z3, hz3⟩ : ∃ z, z = w2.heap.size := ⟨_, rfl⟩
  obtain ⟨w3, hw3⟩ : ∃ x, x = w2.alloc (.cells #[.int .i64 s.ix, .int .i64 s.tm, .int .i64 s.sm, .int .i64 s.lv, .bool s.fn] 23) := ⟨_, rfl⟩
  have bb : Below w2.heap.size w2 w3 := by rw [hw3]; exact below_al (below_d0 _) _
  have bs : BoxS w3 z3 s := by rw [hw3, hz3]; exact BoxS.new w2 s
  replace bz := bz.below bb
  replace bo := bo.below bb
  replace hS := hS.on bb bb.size
  replace hO := hO.on bb bb.size
  replace hL := hL.on bb bb.size
  have B3 := B2.trans (bb.mono B2.size)
  clear bb B2
  have hp2 : z1 + 1 = z2 := by rw [hz2, hw1, hz1]; simp
  have hp3 : z2 + 1 = z3 := by rw [hz3, hw2, hz2]; simp
  have lz2 : w.heap.size ≤ z2 := by omega
  have lz3 : w.heap.size ≤ z3 := by omega
  have ne12 : z1 ≠ z2 := by omega
  have ne13 : z1 ≠ z3 := by omega
  have ne23 : z2 ≠ z3 := by omega
  have HE := Lib.hid (⟨hw1, hw2, hw3, hz1, hp2, hp3⟩ : _ ∧ _ ∧ _ ∧ _ ∧ _ ∧ _)
  have HLZ := Lib.hid (⟨lz2, lz3⟩ : _ ∧ _)
  clear hw1 hz1 hw2 hz2 hw3 hz3 hp2 hp3 lz2 lz3
  skip
  unfold StP.v
  unfold tupV
  go_enter Try.func3, Try.ntmps3
  obtain ⟨k0, k1, k2, k3, k4, k5, k6, k7⟩ := bz.cells
  obtain ⟨j0, j1, j2, j3, j4, j5, j6, j7⟩ := bo.cells
  obtain ⟨x0, x1, x2, x3, x4⟩ := bs.cells
  go_wp2_with fail
  clear k0 k1 k2 k3 k4 k5 k6 k7
  clear j0 j1 j2 j3 j4 j5 j6 j7
  clear x0 x1 x2 x3 x4
  rw [← HE.out.1, ← HE.out.2.1, ← HE.out.2.2.1, ← HE.out.2.2.2.1]
  (try rw [HE.out.2.2.2.2.1])
  (try rw [HE.out.2.2.2.2.2])
  clear HE
  refine Calls.mono (show Calls Try.prog 8 #[.agg #[.int .i64 t.sn.ix, .int .i64 t.sn.tm, .int .i64 t.sn.sm, .int .i64 t.sn.lv, .bool t.sn.fn, .slice A n c, .int .i64 t.tm, .int .i64 t.vt]] w3 (fun e w' => e = .returned (.bool (decide (250 < n))) ∧ Below w3.heap.size w3 w') from rgreatT_any t A n c w3 hS) ?_
  intro e w4 hh
  obtain ⟨rfl, bb⟩ := hh
  (try clear hh)
  replace bz := bz.below bb
  replace bo := bo.below bb
  replace bs := bs.below bb
  replace hS := hS.on bb bb.size
  replace hO := hO.on bb bb.size
  replace hL := hL.on bb bb.size
  have B4 := B3.trans (bb.mono B3.size)
  clear bb B3
  rw [G0.out]
  obtain ⟨k0, k1, k2, k3, k4, k5, k6, k7⟩ := bz.cells
  obtain ⟨j0, j1, j2, j3, j4, j5, j6, j7⟩ := bo.cells
  obtain ⟨x0, x1, x2, x3, x4⟩ := bs.cells
  go_wp2_with fail
  clear k0 k1 k2 k3 k4 k5 k6 k7
  clear j0 j1 j2 j3 j4 j5 j6 j7
  clear x0 x1 x2 x3 x4
  refine Calls.mono (show Calls Try.prog 8 #[.agg #[.int .i64 o.sn.ix, .int .i64 o.sn.tm, .int .i64 o.sn.sm, .int .i64 o.sn.lv, .bool o.sn.fn, .slice A' n' c', .int .i64 o.tm, .int .i64 o.vt]] w4 (fun e w' => e = .returned (.bool (decide (250 < n'))) ∧ Below w4.heap.size w4 w') from rgreatT_any o A' n' c' w4 hO) ?_
  intro e w5 hh
  obtain ⟨rfl, bb⟩ := hh
  (try clear hh)
  replace bz := bz.below bb
  replace bo := bo.below bb
  replace bs := bs.below bb
  replace hS := hS.on bb bb.size
  replace hO := hO.on bb bb.size
  replace hL := hL.on bb bb.size
  have B5 := B4.trans (bb.mono B4.size)
  clear bb B4
  rw [G1.out]
  obtain ⟨k0, k1, k2, k3, k4, k5, k6, k7⟩ := bz.cells
  obtain ⟨j0, j1, j2, j3, j4, j5, j6, j7⟩ := bo.cells
  obtain ⟨x0, x1, x2, x3, x4⟩ := bs.cells
  go_wp2_with fail
  clear k0 k1 k2 k3 k4 k5 k6 k7
  clear j0 j1 j2 j3 j4 j5 j6 j7
  clear x0 x1 x2 x3 x4
  refine Calls.mono (wakes12 D w5) ?_
  rintro e w6 ⟨rfl, bb⟩
  replace bz := bz.below bb
  replace bo := bo.below bb
  replace bs := bs.below bb
  replace hS := hS.on bb bb.size
  replace hO := hO.on bb bb.size
  replace hL := hL.on bb bb.size
  have B6 := B5.trans (bb.mono B5.size)
  clear bb B5
  go_wp2_with fail
  go_ret
  exact ⟨rfl, B6⟩
set_option maxRecDepth 100000 in
set_option maxHeartbeats 32000000 in
theorem tells_3 (D : Dev12) (t o : TupP) (l : List EnP) (s : StP) (i a b : Int) (A A' Al : Option Addr) (n c n' c' m cl : Nat) (w : World) (hS : Es w w.heap.size A n t.lg) (hnc : n ≤ c) (hO : Es w w.heap.size A' n' o.lg) (hL : Es w w.heap.size Al m l) (hml : m ≤ cl) (h0 : decide (250 < n) = false) (h1 : decide (250 < n') = false) (h2 : decide ((100 : Int) < (m : Int)) = false) (h3 : decide ((1099511627776 : Int) < t.sn.ix) = true) :
    Calls Try.prog 3 #[tupV t (.slice A n c), tupV o (.slice A' n' c'), .slice Al m cl, s.v, .int .i64 i, .int .i64 a, .int .i64 b] w fun e w' => e = .returned (.bool true) ∧ Below w.heap.size w w' := by
  have h2b : decide (100 < m) = false := decide_eq_false (by have := of_decide_eq_false h2; omega)
  have G0 := Lib.hid h0
  have G1 := Lib.hid h1
  clear h1
  clear h0
  have HS0 := Lib.hid (⟨hS, hO, hL⟩ : _ ∧ _ ∧ _)
  obtain ⟨z1, hz1⟩ : ∃ z, z = w.heap.size := ⟨_, rfl⟩
  obtain ⟨w1, hw1⟩ : ∃ x, x = w.alloc (.cells #[.int .i64 t.sn.ix, .int .i64 t.sn.tm, .int .i64 t.sn.sm, .int .i64 t.sn.lv, .bool t.sn.fn, .slice A n c, .int .i64 t.tm, .int .i64 t.vt] 26) := ⟨_, rfl⟩
  have bb : Below w.heap.size w w1 := by rw [hw1]; exact below_al (below_d0 _) _
  have bz : BoxU w1 z1 t (.slice A n c) := by rw [hw1, hz1]; exact BoxU.new w t _
  replace hS := hS.on bb bb.size
  replace hO := hO.on bb bb.size
  replace hL := hL.on bb bb.size
  have B1 := bb
  clear bb
  obtain ⟨z2, hz2⟩ : ∃ z, z = w1.heap.size := ⟨_, rfl⟩
  obtain ⟨w2, hw2⟩ : ∃ x, x = w1.alloc (.cells #[.int .i64 o.sn.ix, .int .i64 o.sn.tm, .int .i64 o.sn.sm, .int .i64 o.sn.lv, .bool o.sn.fn, .slice A' n' c', .int .i64 o.tm, .int .i64 o.vt] 26) := ⟨_, rfl⟩
  have bb : Below w1.heap.size w1 w2 := by rw [hw2]; exact below_al (below_d0 _) _
  have bo : BoxU w2 z2 o (.slice A' n' c') := by rw [hw2, hz2]; exact BoxU.new w1 o _
  replace bz := bz.below bb
  replace hS := hS.on bb bb.size
  replace hO := hO.on bb bb.size
  replace hL := hL.on bb bb.size
  have B2 := B1.trans (bb.mono B1.size)
  clear bb B1
  obtain ⟨z3, hz3⟩ : ∃ z, z = w2.heap.size := ⟨_, rfl⟩
  obtain ⟨w3, hw3⟩ : ∃ x, x = w2.alloc (.cells #[.int .i64 s.ix, .int .i64 s.tm, .int .i64 s.sm, .int .i64 s.lv, .bool s.fn] 23) := ⟨_, rfl⟩
  have bb : Below w2.heap.size w2 w3 := by rw [hw3]; exact below_al (below_d0 _) _
  have bs : BoxS w3 z3 s := by rw [hw3, hz3]; exact BoxS.new w2 s
  replace bz := bz.below bb
  replace bo := bo.below bb
  replace hS := hS.on bb bb.size
  replace hO := hO.on bb bb.size
  replace hL := hL.on bb bb.size
  have B3 := B2.trans (bb.mono B2.size)
  clear bb B2
  have hp2 : z1 + 1 = z2 := by rw [hz2, hw1, hz1]; simp
  have hp3 : z2 + 1 = z3 := by rw [hz3, hw2, hz2]; simp
  have lz2 : w.heap.size ≤ z2 := by omega
  have lz3 : w.heap.size ≤ z3 := by omega
  have ne12 : z1 ≠ z2 := by omega
  have ne13 : z1 ≠ z3 := by omega
  have ne23 : z2 ≠ z3 := by omega
  have HE := Lib.hid (⟨hw1, hw2, hw3, hz1, hp2, hp3⟩ : _ ∧ _ ∧ _ ∧ _ ∧ _ ∧ _)
  have HLZ := Lib.hid (⟨lz2, lz3⟩ : _ ∧ _)
  clear hw1 hz1 hw2 hz2 hw3 hz3 hp2 hp3 lz2 lz3
  skip
  unfold StP.v
  unfold tupV
  go_enter Try.func3, Try.ntmps3
  obtain ⟨k0, k1, k2, k3, k4, k5, k6, k7⟩ := bz.cells
  obtain ⟨j0, j1, j2, j3, j4, j5, j6, j7⟩ := bo.cells
  obtain ⟨x0, x1, x2, x3, x4⟩ := bs.cells
  go_wp2_with fail
  clear k0 k1 k2 k3 k4 k5 k6 k7
  clear j0 j1 j2 j3 j4 j5 j6 j7
  clear x0 x1 x2 x3 x4
  rw [← HE.out.1, ← HE.out.2.1, ← HE.out.2.2.1, ← HE.out.2.2.2.1]
  (try rw [HE.out.2.2.2.2.1])
  (try rw [HE.out.2.2.2.2.2])
  clear HE
  refine Calls.mono (show Calls Try.prog 8 #[.agg #[.int .i64 t.sn.ix, .int .i64 t.sn.tm, .int .i64 t.sn.sm, .int .i64 t.sn.lv, .bool t.sn.fn, .slice A n c, .int .i64 t.tm, .int .i64 t.vt]] w3 (fun e w' => e = .returned (.bool (decide (250 < n))) ∧ Below w3.heap.size w3 w') from rgreatT_any t A n c w3 hS) ?_
  intro e w4 hh
  obtain ⟨rfl, bb⟩ := hh
  (try clear hh)
  replace bz := bz.below bb
  replace bo := bo.below bb
  replace bs := bs.below bb
  replace hS := hS.on bb bb.size
  replace hO := hO.on bb bb.size
  replace hL := hL.on bb bb.size
  have B4 := B3.trans (bb.mono B3.size)
  clear bb B3
  rw [G0.out]
  obtain ⟨k0, k1, k2, k3, k4, k5, k6, k7⟩ := bz.cells
  obtain ⟨j0, j1, j2, j3, j4, j5, j6, j7⟩ := bo.cells
  obtain ⟨x0, x1, x2, x3, x4⟩ := bs.cells
  go_wp2_with fail
  clear k0 k1 k2 k3 k4 k5 k6 k7
  clear j0 j1 j2 j3 j4 j5 j6 j7
  clear x0 x1 x2 x3 x4
  refine Calls.mono (show Calls Try.prog 8 #[.agg #[.int .i64 o.sn.ix, .int .i64 o.sn.tm, .int .i64 o.sn.sm, .int .i64 o.sn.lv, .bool o.sn.fn, .slice A' n' c', .int .i64 o.tm, .int .i64 o.vt]] w4 (fun e w' => e = .returned (.bool (decide (250 < n'))) ∧ Below w4.heap.size w4 w') from rgreatT_any o A' n' c' w4 hO) ?_
  intro e w5 hh
  obtain ⟨rfl, bb⟩ := hh
  (try clear hh)
  replace bz := bz.below bb
  replace bo := bo.below bb
  replace bs := bs.below bb
  replace hS := hS.on bb bb.size
  replace hO := hO.on bb bb.size
  replace hL := hL.on bb bb.size
  have B5 := B4.trans (bb.mono B4.size)
  clear bb B4
  rw [G1.out]
  obtain ⟨k0, k1, k2, k3, k4, k5, k6, k7⟩ := bz.cells
  obtain ⟨j0, j1, j2, j3, j4, j5, j6, j7⟩ := bo.cells
  obtain ⟨x0, x1, x2, x3, x4⟩ := bs.cells
  go_wp2_with fail
  clear k0 k1 k2 k3 k4 k5 k6 k7
  clear j0 j1 j2 j3 j4 j5 j6 j7
  clear x0 x1 x2 x3 x4
  refine Calls.mono (wakes12 D w5) ?_
  rintro e w6 ⟨rfl, bb⟩
  replace bz := bz.below bb
  replace bo := bo.below bb
  replace bs := bs.below bb
  replace hS := hS.on bb bb.size
  replace hO := hO.on bb bb.size
  replace hL := hL.on bb bb.size
  have B6 := B5.trans (bb.mono B5.size)
  clear bb B5
  go_wp2_with fail
  go_ret
  exact ⟨rfl, B6⟩
set_option maxRecDepth 100000 in
set_option maxHeartbeats 32000000 in
theorem tells_4 (D : Dev12) (t o : TupP) (l : List EnP) (s : StP) (i a b : Int) (A A' Al : Option Addr) (n c n' c' m cl : Nat) (w : World) (hS : Es w w.heap.size A n t.lg) (hnc : n ≤ c) (hO : Es w w.heap.size A' n' o.lg) (hL : Es w w.heap.size Al m l) (hml : m ≤ cl) (h0 : decide (250 < n) = false) (h1 : decide (250 < n') = false) (h2 : decide ((100 : Int) < (m : Int)) = false) (h3 : decide ((1099511627776 : Int) < t.sn.ix) = false) (h4 : decide (t.sn.ix < (-1099511627776 : Int)) = true) :
    Calls Try.prog 3 #[tupV t (.slice A n c), tupV o (.slice A' n' c'), .slice Al m cl, s.v, .int .i64 i, .int .i64 a, .int .i64 b] w fun e w' => e = .returned (.bool true) ∧ Below w.heap.size w w' := by
  have h2b : decide (100 < m) = false := decide_eq_false (by have := of_decide_eq_false h2; omega)
  have G0 := Lib.hid h0
  have G1 := Lib.hid h1
  clear h1
  clear h0
  have HS0 := Lib.hid (⟨hS, hO, hL⟩ : _ ∧ _ ∧ _)
  obtain ⟨z1, hz1⟩ : ∃ z, z = w.heap.size := ⟨_, rfl⟩
  obtain ⟨w1, hw1⟩ : ∃ x, x = w.alloc (.cells #[.int .i64 t.sn.ix, .int .i64 t.sn.tm, .int .i64 t.sn.sm, .int .i64 t.sn.lv, .bool t.sn.fn, .slice A n c, .int .i64 t.tm, .int .i64 t.vt] 26) := ⟨_, rfl⟩
  have bb : Below w.heap.size w w1 := by rw [hw1]; exact below_al (below_d0 _) _
  have bz : BoxU w1 z1 t (.slice A n c) := by rw [hw1, hz1]; exact BoxU.new w t _
  replace hS := hS.on bb bb.size
  replace hO := hO.on bb bb.size
  replace hL := hL.on bb bb.size
  have B1 := bb
  clear bb
  obtain ⟨z2, hz2⟩ : ∃ z, z = w1.heap.size := ⟨_, rfl⟩
  obtain ⟨w2, hw2⟩ : ∃ x, x = w1.alloc (.cells #[.int .i64 o.sn.ix, .int .i64 o.sn.tm, .int .i64 o.sn.sm, .int .i64 o.sn.lv, .bool o.sn.fn, .slice A' n' c', .int .i64 o.tm, .int .i64 o.vt] 26) := ⟨_, rfl⟩
  have bb : Below w1.heap.size w1 w2 := by rw [hw2]; exact below_al (below_d0 _) _
  have bo : BoxU w2 z2 o (.slice A' n' c') := by rw [hw2, hz2]; exact BoxU.new w1 o _
  replace bz := bz.below bb
  replace hS := hS.on bb bb.size
  replace hO := hO.on bb bb.size
  replace hL := hL.on bb bb.size
  have B2 := B1.trans (bb.mono B1.size)
  clear bb B1
  obtain ⟨z3, hz3⟩ : ∃ z, z = w2.heap.size := ⟨_, rfl⟩
  obtain ⟨w3, hw3⟩ : ∃ x, x = w2.alloc (.cells #[.int .i64 s.ix, .int .i64 s.tm, .int .i64 s.sm, .int .i64 s.lv, .bool s.fn] 23) := ⟨_, rfl⟩
  have bb : Below w2.heap.size w2 w3 := by rw [hw3]; exact below_al (below_d0 _) _
  have bs : BoxS w3 z3 s := by rw [hw3, hz3]; exact BoxS.new w2 s
  replace bz := bz.below bb
  replace bo := bo.below bb
  replace hS := hS.on bb bb.size
  replace hO := hO.on bb bb.size
  replace hL := hL.on bb bb.size
  have B3 := B2.trans (bb.mono B2.size)
  clear bb B2
  have hp2 : z1 + 1 = z2 := by rw [hz2, hw1, hz1]; simp
  have hp3 : z2 + 1 = z3 := by rw [hz3, hw2, hz2]; simp
  have lz2 : w.heap.size ≤ z2 := by omega
  have lz3 : w.heap.size ≤ z3 := by omega
  have ne12 : z1 ≠ z2 := by omega
  have ne13 : z1 ≠ z3 := by omega
  have ne23 : z2 ≠ z3 := by omega
  have HE := Lib.hid (⟨hw1, hw2, hw3, hz1, hp2, hp3⟩ : _ ∧ _ ∧ _ ∧ _ ∧ _ ∧ _)
  have HLZ := Lib.hid (⟨lz2, lz3⟩ : _ ∧ _)
  clear hw1 hz1 hw2 hz2 hw3 hz3 hp2 hp3 lz2 lz3
  skip
  unfold StP.v
  unfold tupV
  go_enter Try.func3, Try.ntmps3
  obtain ⟨k0, k1, k2, k3, k4, k5, k6, k7⟩ := bz.cells
  obtain ⟨j0, j1, j2, j3, j4, j5, j6, j7⟩ := bo.cells
  obtain ⟨x0, x1, x2, x3, x4⟩ := bs.cells
  go_wp2_with fail
  clear k0 k1 k2 k3 k4 k5 k6 k7
  clear j0 j1 j2 j3 j4 j5 j6 j7
  clear x0 x1 x2 x3 x4
  rw [← HE.out.1, ← HE.out.2.1, ← HE.out.2.2.1, ← HE.out.2.2.2.1]
  (try rw [HE.out.2.2.2.2.1])
  (try rw [HE.out.2.2.2.2.2])
  clear HE
  refine Calls.mono (show Calls Try.prog 8 #[.agg #[.int .i64 t.sn.ix, .int .i64 t.sn.tm, .int .i64 t.sn.sm, .int .i64 t.sn.lv, .bool t.sn.fn, .slice A n c, .int .i64 t.tm, .int .i64 t.vt]] w3 (fun e w' => e = .returned (.bool (decide (250 < n))) ∧ Below w3.heap.size w3 w') from rgreatT_any t A n c w3 hS) ?_
  intro e w4 hh
  obtain ⟨rfl, bb⟩ := hh
  (try clear hh)
  replace bz := bz.below bb
  replace bo := bo.below bb
  replace bs := bs.below bb
  replace hS := hS.on bb bb.size
  replace hO := hO.on bb bb.size
  replace hL := hL.on bb bb.size
  have B4 := B3.trans (bb.mono B3.size)
  clear bb B3
  rw [G0.out]
  obtain ⟨k0, k1, k2, k3, k4, k5, k6, k7⟩ := bz.cells
  obtain ⟨j0, j1, j2, j3, j4, j5, j6, j7⟩ := bo.cells
  obtain ⟨x0, x1, x2, x3, x4⟩ := bs.cells
  go_wp2_with fail
  clear k0 k1 k2 k3 k4 k5 k6 k7
  clear j0 j1 j2 j3 j4 j5 j6 j7
  clear x0 x1 x2 x3 x4
  refine Calls.mono (show Calls Try.prog 8 #[.agg #[.int .i64 o.sn.ix, .int .i64 o.sn.tm, .int .i64 o.sn.sm, .int .i64 o.sn.lv, .bool o.sn.fn, .slice A' n' c', .int .i64 o.tm, .int .i64 o.vt]] w4 (fun e w' => e = .returned (.bool (decide (250 < n'))) ∧ Below w4.heap.size w4 w') from rgreatT_any o A' n' c' w4 hO) ?_
  intro e w5 hh
  obtain ⟨rfl, bb⟩ := hh
  (try clear hh)
  replace bz := bz.below bb
  replace bo := bo.below bb
  replace bs := bs.below bb
  replace hS := hS.on bb bb.size
  replace hO := hO.on bb bb.size
  replace hL := hL.on bb bb.size
  have B5 := B4.trans (bb.mono B4.size)
  clear bb B4
  rw [G1.out]
  obtain ⟨k0, k1, k2, k3, k4, k5, k6, k7⟩ := bz.cells
  obtain ⟨j0, j1, j2, j3, j4, j5, j6, j7⟩ := bo.cells
  obtain ⟨x0, x1, x2, x3, x4⟩ := bs.cells
  go_wp2_with fail
  clear k0 k1 k2 k3 k4 k5 k6 k7
  clear j0 j1 j2 j3 j4 j5 j6 j7
  clear x0 x1 x2 x3 x4
  refine Calls.mono (wakes12 D w5) ?_
  rintro e w6 ⟨rfl, bb⟩
  replace bz := bz.below bb
  replace bo := bo.below bb
  replace bs := bs.below bb
  replace hS := hS.on bb bb.size
  replace hO := hO.on bb bb.size
  replace hL := hL.on bb bb.size
  have B6 := B5.trans (bb.mono B5.size)
  clear bb B5
  go_wp2_with fail
  go_ret
  exact ⟨rfl, B6⟩
set_option maxRecDepth 100000 in
set_option maxHeartbeats 32000000 in
theorem tells_5 (D : Dev12) (t o : TupP) (l : List EnP) (s : StP) (i a b : Int) (A A' Al : Option Addr) (n c n' c' m cl : Nat) (w : World) (hS : Es w w.heap.size A n t.lg) (hnc : n ≤ c) (hO : Es w w.heap.size A' n' o.lg) (hL : Es w w.heap.size Al m l) (hml : m ≤ cl) (h0 : decide (250 < n) = false) (h1 : decide (250 < n') = false) (h2 : decide ((100 : Int) < (m : Int)) = false) (h3 : decide ((1099511627776 : Int) < t.sn.ix) = false) (h4 : decide (t.sn.ix < (-1099511627776 : Int)) = false) (h5 : decide ((1099511627776 : Int) < i) = true) :
    Calls Try.prog 3 #[tupV t (.slice A n c), tupV o (.slice A' n' c'), .slice Al m cl, s.v, .int .i64 i, .int .i64 a, .int .i64 b] w fun e w' => e = .returned (.bool true) ∧ Below w.heap.size w w' := by
  have h2b : decide (100 < m) = false := decide_eq_false (by have := of_decide_eq_false h2; omega)
  have G0 := Lib.hid h0
  have G1 := Lib.hid h1
  clear h1
  clear h0
  have HS0 := Lib.hid (⟨hS, hO, hL⟩ : _ ∧ _ ∧ _)
  obtain ⟨z1, hz1⟩ : ∃ z, z = w.heap.size := ⟨_, rfl⟩
  obtain ⟨w1, hw1⟩ : ∃ x, x = w.alloc (.cells #[.int .i64 t.sn.ix, .int .i64 t.sn.tm, .int .i64 t.sn.sm, .int .i64 t.sn.lv, .bool t.sn.fn, .slice A n c, .int .i64 t.tm, .int .i64 t.vt] 26) := ⟨_, rfl⟩
  have bb : Below w.heap.size w w1 := by rw [hw1]; exact below_al (below_d0 _) _
  have bz : BoxU w1 z1 t (.slice A n c) := by rw [hw1, hz1]; exact BoxU.new w t _
  replace hS := hS.on bb bb.size
  replace hO := hO.on bb bb.size
  replace hL := hL.on bb bb.size
  have B1 := bb
  clear bb
  obtain ⟨z2, hz2⟩ : ∃ z, z = w1.heap.size := ⟨_, rfl⟩
  obtain ⟨w2, hw2⟩ : ∃ x, x = w1.alloc (.cells #[.int .i64 o.sn.ix, .int .i64 o.sn.tm, .int .i64 o.sn.sm, .int .i64 o.sn.lv, .bool o.sn.fn, .slice A' n' c', .int .i64 o.tm, .int .i64 o.vt] 26) := ⟨_, rfl⟩
  have bb : Below w1.heap.size w1 w2 := by rw [hw2]; exact below_al (below_d0 _) _
  have bo : BoxU w2 z2 o (.slice A' n' c') := by rw [hw2, hz2]; exact BoxU.new w1 o _
  replace bz := bz.below bb
  replace hS := hS.on bb bb.size
  replace hO := hO.on bb bb.size
  replace hL := hL.on bb bb.size
  have B2 := B1.trans (bb.mono B1.size)
  clear bb B1
  obtain ⟨z3, hz3⟩ : ∃ z, z = w2.heap.size := ⟨_, rfl⟩
  obtain ⟨w3, hw3⟩ : ∃ x, x = w2.alloc (.cells #[.int .i64 s.ix, .int .i64 s.tm, .int .i64 s.sm, .int .i64 s.lv, .bool s.fn] 23) := ⟨_, rfl⟩
  have bb : Below w2.heap.size w2 w3 := by rw [hw3]; exact below_al (below_d0 _) _
  have bs : BoxS w3 z3 s := by rw [hw3, hz3]; exact BoxS.new w2 s
  replace bz := bz.below bb
  replace bo := bo.below bb
  replace hS := hS.on bb bb.size
  replace hO := hO.on bb bb.size
  replace hL := hL.on bb bb.size
  have B3 := B2.trans (bb.mono B2.size)
  clear bb B2
  have hp2 : z1 + 1 = z2 := by rw [hz2, hw1, hz1]; simp
  have hp3 : z2 + 1 = z3 := by rw [hz3, hw2, hz2]; simp
  have lz2 : w.heap.size ≤ z2 := by omega
  have lz3 : w.heap.size ≤ z3 := by omega
  have ne12 : z1 ≠ z2 := by omega
  have ne13 : z1 ≠ z3 := by omega
  have ne23 : z2 ≠ z3 := by omega
  have HE := Lib.hid (⟨hw1, hw2, hw3, hz1, hp2, hp3⟩ : _ ∧ _ ∧ _ ∧ _ ∧ _ ∧ _)
  have HLZ := Lib.hid (⟨lz2, lz3⟩ : _ ∧ _)
  clear hw1 hz1 hw2 hz2 hw3 hz3 hp2 hp3 lz2 lz3
  skip
  unfold StP.v
  unfold tupV
  go_enter Try.func3, Try.ntmps3
  obtain ⟨k0, k1, k2, k3, k4, k5, k6, k7⟩ := bz.cells
  obtain ⟨j0, j1, j2, j3, j4, j5, j6, j7⟩ := bo.cells
  obtain ⟨x0, x1, x2, x3, x4⟩ := bs.cells
  go_wp2_with fail
  clear k0 k1 k2 k3 k4 k5 k6 k7
  clear j0 j1 j2 j3 j4 j5 j6 j7
  clear x0 x1 x2 x3 x4
  rw [← HE.out.1, ← HE.out.2.1, ← HE.out.2.2.1, ← HE.out.2.2.2.1]
  (try rw [HE.out.2.2.2.2.1])
  (try rw [HE.out.2.2.2.2.2])
  clear HE
  refine Calls.mono (show Calls Try.prog 8 #[.agg #[.int .i64 t.sn.ix, .int .i64 t.sn.tm, .int .i64 t.sn.sm, .int .i64 t.sn.lv, .bool t.sn.fn, .slice A n c, .int .i64 t.tm, .int .i64 t.vt]] w3 (fun e w' => e = .returned (.bool (decide (250 < n))) ∧ Below w3.heap.size w3 w') from rgreatT_any t A n c w3 hS) ?_
  intro e w4 hh
  obtain ⟨rfl, bb⟩ := hh
  (try clear hh)
  replace bz := bz.below bb
  replace bo := bo.below bb
  replace bs := bs.below bb
  replace hS := hS.on bb bb.size
  replace hO := hO.on bb bb.size
  replace hL := hL.on bb bb.size
  have B4 := B3.trans (bb.mono B3.size)
  clear bb B3
  rw [G0.out]
  obtain ⟨k0, k1, k2, k3, k4, k5, k6, k7⟩ := bz.cells
  obtain ⟨j0, j1, j2, j3, j4, j5, j6, j7⟩ := bo.cells
  obtain ⟨x0, x1, x2, x3, x4⟩ := bs.cells
  go_wp2_with fail
  clear k0 k1 k2 k3 k4 k5 k6 k7
  clear j0 j1 j2 j3 j4 j5 j6 j7
  clear x0 x1 x2 x3 x4
  refine Calls.mono (show Calls Try.prog 8 #[.agg #[.int .i64 o.sn.ix, .int .i64 o.sn.tm, .int .i64 o.sn.sm, .int .i64 o.sn.lv, .bool o.sn.fn, .slice A' n' c', .int .i64 o.tm, .int .i64 o.vt]] w4 (fun e w' => e = .returned (.bool (decide (250 < n'))) ∧ Below w4.heap.size w4 w') from rgreatT_any o A' n' c' w4 hO) ?_
  intro e w5 hh
  obtain ⟨rfl, bb⟩ := hh
  (try clear hh)
  replace bz := bz.below bb
  replace bo := bo.below bb
  replace bs := bs.below bb
  replace hS := hS.on bb bb.size
  replace hO := hO.on bb bb.size
  replace hL := hL.on bb bb.size
  have B5 := B4.trans (bb.mono B4.size)
  clear bb B4
  rw [G1.out]
  obtain ⟨k0, k1, k2, k3, k4, k5, k6, k7⟩ := bz.cells
  obtain ⟨j0, j1, j2, j3, j4, j5, j6, j7⟩ := bo.cells
  obtain ⟨x0, x1, x2, x3, x4⟩ := bs.cells
  go_wp2_with fail
  clear k0 k1 k2 k3 k4 k5 k6 k7
  clear j0 j1 j2 j3 j4 j5 j6 j7
  clear x0 x1 x2 x3 x4
  refine Calls.mono (wakes12 D w5) ?_
  rintro e w6 ⟨rfl, bb⟩
  replace bz := bz.below bb
  replace bo := bo.below bb
  replace bs := bs.below bb
  replace hS := hS.on bb bb.size
  replace hO := hO.on bb bb.size
  replace hL := hL.on bb bb.size
  have B6 := B5.trans (bb.mono B5.size)
  clear bb B5
  go_wp2_with fail
  go_ret
  exact ⟨rfl, B6⟩
set_option maxRecDepth 100000 in
set_option maxHeartbeats 32000000 in
theorem tells_6 (D : Dev12) (t o : TupP) (l : List EnP) (s : StP) (i a b : Int) (A A' Al : Option Addr) (n c n' c' m cl : Nat) (w : World) (hS : Es w w.heap.size A n t.lg) (hnc : n ≤ c) (hO : Es w w.heap.size A' n' o.lg) (hL : Es w w.heap.size Al m l) (hml : m ≤ cl) (h0 : decide (250 < n) = false) (h1 : decide (250 < n') = false) (h2 : decide ((100 : Int) < (m : Int)) = false) (h3 : decide ((1099511627776 : Int) < t.sn.ix) = false) (h4 : decide (t.sn.ix < (-1099511627776 : Int)) = false) (h5 : decide ((1099511627776 : Int) < i) = false) (h6 : decide (i < (-1099511627776 : Int)) = true) :
    Calls Try.prog 3 #[tupV t (.slice A n c), tupV o (.slice A' n' c'), .slice Al m cl, s.v, .int .i64 i, .int .i64 a, .int .i64 b] w fun e w' => e = .returned (.bool true) ∧ Below w.heap.size w w' := by
  have h2b : decide (100 < m) = false := decide_eq_false (by have := of_decide_eq_false h2; omega)
  have G0 := Lib.hid h0
  have G1 := Lib.hid h1
  clear h1
  clear h0
  have HS0 := Lib.hid (⟨hS, hO, hL⟩ : _ ∧ _ ∧ _)
  obtain ⟨z1, hz1⟩ : ∃ z, z = w.heap.size := ⟨_, rfl⟩
  obtain ⟨w1, hw1⟩ : ∃ x, x = w.alloc (.cells #[.int .i64 t.sn.ix, .int .i64 t.sn.tm, .int .i64 t.sn.sm, .int .i64 t.sn.lv, .bool t.sn.fn, .slice A n c, .int .i64 t.tm, .int .i64 t.vt] 26) := ⟨_, rfl⟩
  have bb : Below w.heap.size w w1 := by rw [hw1]; exact below_al (below_d0 _) _
  have bz : BoxU w1 z1 t (.slice A n c) := by rw [hw1, hz1]; exact BoxU.new w t _
  replace hS := hS.on bb bb.size
  replace hO := hO.on bb bb.size
  replace hL := hL.on bb bb.size
  have B1 := bb
  clear bb
  obtain ⟨z2, hz2⟩ : ∃ z, z = w1.heap.size := ⟨_, rfl⟩
  obtain ⟨w2, hw2⟩ : ∃ x, x = w1.alloc (.cells #[.int .i64 o.sn.ix, .int .i64 o.sn.tm, .int .i64 o.sn.sm, .int .i64 o.sn.lv, .bool o.sn.fn, .slice A' n' c', .int .i64 o.tm, .int .i64 o.vt] 26) := ⟨_, rfl⟩
  have bb : Below w1.heap.size w1 w2 := by rw [hw2]; exact below_al (below_d0 _) _
  have bo : BoxU w2 z2 o (.slice A' n' c') := by rw [hw2, hz2]; exact BoxU.new w1 o _
  replace bz := bz.below bb
  replace hS := hS.on bb bb.size
  replace hO := hO.on bb bb.size
  replace hL := hL.on bb bb.size
  have B2 := B1.trans (bb.mono B1.size)
  clear bb B1
  obtain ⟨z3, hz3⟩ : ∃ z, z = w2.heap.size := ⟨_, rfl⟩
  obtain ⟨w3, hw3⟩ : ∃ x, x = w2.alloc (.cells #[.int .i64 s.ix, .int .i64 s.tm, .int .i64 s.sm, .int .i64 s.lv, .bool s.fn] 23) := ⟨_, rfl⟩
  have bb : Below w2.heap.size w2 w3 := by rw [hw3]; exact below_al (below_d0 _) _
  have bs : BoxS w3 z3 s := by rw [hw3, hz3]; exact BoxS.new w2 s
  replace bz := bz.below bb
  replace bo := bo.below bb
  replace hS := hS.on bb bb.size
  replace hO := hO.on bb bb.size
  replace hL := hL.on bb bb.size
  have B3 := B2.trans (bb.mono B2.size)
  clear bb B2
  have hp2 : z1 + 1 = z2 := by rw [hz2, hw1, hz1]; simp
  have hp3 : z2 + 1 = z3 := by rw [hz3, hw2, hz2]; simp
  have lz2 : w.heap.size ≤ z2 := by omega
  have lz3 : w.heap.size ≤ z3 := by omega
  have ne12 : z1 ≠ z2 := by omega
  have ne13 : z1 ≠ z3 := by omega
  have ne23 : z2 ≠ z3 := by omega
  have HE := Lib.hid (⟨hw1, hw2, hw3, hz1, hp2, hp3⟩ : _ ∧ _ ∧ _ ∧ _ ∧ _ ∧ _)
  have HLZ := Lib.hid (⟨lz2, lz3⟩ : _ ∧ _)
  clear hw1 hz1 hw2 hz2 hw3 hz3 hp2 hp3 lz2 lz3
  skip
  unfold StP.v
  unfold tupV
  go_enter Try.func3, Try.ntmps3
  obtain ⟨k0, k1, k2, k3, k4, k5, k6, k7⟩ := bz.cells
  obtain ⟨j0, j1, j2, j3, j4, j5, j6, j7⟩ := bo.cells
  obtain ⟨x0, x1, x2, x3, x4⟩ := bs.cells
  go_wp2_with fail
  clear k0 k1 k2 k3 k4 k5 k6 k7
  clear j0 j1 j2 j3 j4 j5 j6 j7
  clear x0 x1 x2 x3 x4
  rw [← HE.out.1, ← HE.out.2.1, ← HE.out.2.2.1, ← HE.out.2.2.2.1]
  (try rw [HE.out.2.2.2.2.1])
  (try rw [HE.out.2.2.2.2.2])
  clear HE
  refine Calls.mono (show Calls Try.prog 8 #[.agg #[.int .i64 t.sn.ix, .int .i64 t.sn.tm, .int .i64 t.sn.sm, .int .i64 t.sn.lv, .bool t.sn.fn, .slice A n c, .int .i64 t.tm, .int .i64 t.vt]] w3 (fun e w' => e = .returned (.bool (decide (250 < n))) ∧ Below w3.heap.size w3 w') from rgreatT_any t A n c w3 hS) ?_
  intro e w4 hh
  obtain ⟨rfl, bb⟩ := hh
  (try clear hh)
  replace bz := bz.below bb
  replace bo := bo.below bb
  replace bs := bs.below bb
  replace hS := hS.on bb bb.size
  replace hO := hO.on bb bb.size
  replace hL := hL.on bb bb.size
  have B4 := B3.trans (bb.mono B3.size)
  clear bb B3
  rw [G0.out]
  obtain ⟨k0, k1, k2, k3, k4, k5, k6, k7⟩ := bz.cells
  obtain ⟨j0, j1, j2, j3, j4, j5, j6, j7⟩ := bo.cells
  obtain ⟨x0, x1, x2, x3, x4⟩ := bs.cells
  go_wp2_with fail
  clear k0 k1 k2 k3 k4 k5 k6 k7
  clear j0 j1 j2 j3 j4 j5 j6 j7
  clear x0 x1 x2 x3 x4
  refine Calls.mono (show Calls Try.prog 8 #[.agg #[.int .i64 o.sn.ix, .int .i64 o.sn.tm, .int .i64 o.sn.sm, .int .i64 o.sn.lv, .bool o.sn.fn, .slice A' n' c', .int .i64 o.tm, .int .i64 o.vt]] w4 (fun e w' => e = .returned (.bool (decide (250 < n'))) ∧ Below w4.heap.size w4 w') from rgreatT_any o A' n' c' w4 hO) ?_
  intro e w5 hh
  obtain ⟨rfl, bb⟩ := hh
  (try clear hh)
  replace bz := bz.below bb
  replace bo := bo.below bb
  replace bs := bs.below bb
  replace hS := hS.on bb bb.size
  replace hO := hO.on bb bb.size
  replace hL := hL.on bb bb.size
  have B5 := B4.trans (bb.mono B4.size)
  clear bb B4
  rw [G1.out]
  obtain ⟨k0, k1, k2, k3, k4, k5, k6, k7⟩ := bz.cells
  obtain ⟨j0, j1, j2, j3, j4, j5, j6, j7⟩ := bo.cells
  obtain ⟨x0, x1, x2, x3, x4⟩ := bs.cells
  go_wp2_with fail
  clear k0 k1 k2 k3 k4 k5 k6 k7
  clear j0 j1 j2 j3 j4 j5 j6 j7
  clear x0 x1 x2 x3 x4
  refine Calls.mono (wakes12 D w5) ?_
  rintro e w6 ⟨rfl, bb⟩
  replace bz := bz.below bb
  replace bo := bo.below bb
  replace bs := bs.below bb
  replace hS := hS.on bb bb.size
  replace hO := hO.on bb bb.size
  replace hL := hL.on bb bb.size
  have B6 := B5.trans (bb.mono B5.size)
  clear bb B5
  go_wp2_with fail
  go_ret
  exact ⟨rfl, B6⟩
set_option maxRecDepth 100000 in
set_option maxHeartbeats 32000000 in
theorem tells_7 (D : Dev12) (t o : TupP) (l : List EnP) (s : StP) (i a b : Int) (A A' Al : Option Addr) (n c n' c' m cl : Nat) (w : World) (hS : Es w w.heap.size A n t.lg) (hnc : n ≤ c) (hO : Es w w.heap.size A' n' o.lg) (hL : Es w w.heap.size Al m l) (hml : m ≤ cl) (h0 : decide (250 < n) = false) (h1 : decide (250 < n') = false) (h2 : decide ((100 : Int) < (m : Int)) = false) (h3 : decide ((1099511627776 : Int) < t.sn.ix) = false) (h4 : decide (t.sn.ix < (-1099511627776 : Int)) = false) (h5 : decide ((1099511627776 : Int) < i) = false) (h6 : decide (i < (-1099511627776 : Int)) = false) (h7 : decide ((1099511627776 : Int) < s.ix) = true) :
    Calls Try.prog 3 #[tupV t (.slice A n c), tupV o (.slice A' n' c'), .slice Al m cl, s.v, .int .i64 i, .int .i64 a, .int .i64 b] w fun e w' => e = .returned (.bool true) ∧ Below w.heap.size w w' := by
  have h2b : decide (100 < m) = false := decide_eq_false (by have := of_decide_eq_false h2; omega)
  have G0 := Lib.hid h0
  have G1 := Lib.hid h1
  clear h1
  clear h0
  have HS0 := Lib.hid (⟨hS, hO, hL⟩ : _ ∧ _ ∧ _)
  obtain ⟨z1, hz1⟩ : ∃ z, z = w.heap.size := ⟨_, rfl⟩
  obtain ⟨w1, hw1⟩ : ∃ x, x = w.alloc (.cells #[.int .i64 t.sn.ix, .int .i64 t.sn.tm, .int .i64 t.sn.sm, .int .i64 t.sn.lv, .bool t.sn.fn, .slice A n c, .int .i64 t.tm, .int .i64 t.vt] 26) := ⟨_, rfl⟩
  have bb : Below w.heap.size w w1 := by rw [hw1]; exact below_al (below_d0 _) _
  have bz : BoxU w1 z1 t (.slice A n c) := by rw [hw1, hz1]; exact BoxU.new w t _
  replace hS := hS.on bb bb.size
  replace hO := hO.on bb bb.size
  replace hL := hL.on bb bb.size
  have B1 := bb
  clear bb
  obtain ⟨z2, hz2⟩ : ∃ z, z = w1.heap.size := ⟨_, rfl⟩
  obtain ⟨w2, hw2⟩ : ∃ x, x = w1.alloc (.cells #[.int .i64 o.sn.ix, .int .i64 o.sn.tm, .int .i64 o.sn.sm, .int .i64 o.sn.lv, .bool o.sn.fn, .slice A' n' c', .int .i64 o.tm, .int .i64 o.vt] 26) := ⟨_, rfl⟩
  have bb : Below w1.heap.size w1 w2 := by rw [hw2]; exact below_al (below_d0 _) _
  have bo : BoxU w2 z2 o (.slice A' n' c') := by rw [hw2, hz2]; exact BoxU.new w1 o _
  replace bz := bz.below bb
  replace hS := hS.on bb bb.size
  replace hO := hO.on bb bb.size
  replace hL := hL.on bb bb.size
  have B2 := B1.trans (bb.mono B1.size)
  clear bb B1
  obtain ⟨z3, hz3⟩ : ∃ z, z = w2.heap.size := ⟨_, rfl⟩
  obtain ⟨w3, hw3⟩ : ∃ x, x = w2.alloc (.cells #[.int .i64 s.ix, .int .i64 s.tm, .int .i64 s.sm, .int .i64 s.lv, .bool s.fn] 23) := ⟨_, rfl⟩
  have bb : Below w2.heap.size w2 w3 := by rw [hw3]; exact below_al (below_d0 _) _
  have bs : BoxS w3 z3 s := by rw [hw3, hz3]; exact BoxS.new w2 s
  replace bz := bz.below bb
  replace bo := bo.below bb
  replace hS := hS.on bb bb.size
  replace hO := hO.on bb bb.size
  replace hL := hL.on bb bb.size
  have B3 := B2.trans (bb.mono B2.size)
  clear bb B2
  have hp2 : z1 + 1 = z2 := by rw [hz2, hw1, hz1]; simp
  have hp3 : z2 + 1 = z3 := by rw [hz3, hw2, hz2]; simp
  have lz2 : w.heap.size ≤ z2 := by omega
  have lz3 : w.heap.size ≤ z3 := by omega
  have ne12 : z1 ≠ z2 := by omega
  have ne13 : z1 ≠ z3 := by omega
  have ne23 : z2 ≠ z3 := by omega
  have HE := Lib.hid (⟨hw1, hw2, hw3, hz1, hp2, hp3⟩ : _ ∧ _ ∧ _ ∧ _ ∧ _ ∧ _)
  have HLZ := Lib.hid (⟨lz2, lz3⟩ : _ ∧ _)
  clear hw1 hz1 hw2 hz2 hw3 hz3 hp2 hp3 lz2 lz3
  skip
  unfold StP.v
  unfold tupV
  go_enter Try.func3, Try.ntmps3
  obtain ⟨k0, k1, k2, k3, k4, k5, k6, k7⟩ := bz.cells
  obtain ⟨j0, j1, j2, j3, j4, j5, j6, j7⟩ := bo.cells
  obtain ⟨x0, x1, x2, x3, x4⟩ := bs.cells
  go_wp2_with fail
  clear k0 k1 k2 k3 k4 k5 k6 k7
  clear j0 j1 j2 j3 j4 j5 j6 j7
  clear x0 x1 x2 x3 x4
  rw [← HE.out.1, ← HE.out.2.1, ← HE.out.2.2.1, ← HE.out.2.2.2.1]
  (try rw [HE.out.2.2.2.2.1])
  (try rw [HE.out.2.2.2.2.2])
  clear HE
  refine Calls.mono (show Calls Try.prog 8 #[.agg #[.int .i64 t.sn.ix, .int .i64 t.sn.tm, .int .i64 t.sn.sm, .int .i64 t.sn.lv, .bool t.sn.fn, .slice A n c, .int .i64 t.tm, .int .i64 t.vt]] w3 (fun e w' => e = .returned (.bool (decide (250 < n))) ∧ Below w3.heap.size w3 w') from rgreatT_any t A n c w3 hS) ?_
  intro e w4 hh
  obtain ⟨rfl, bb⟩ := hh
  (try clear hh)
  replace bz := bz.below bb
  replace bo := bo.below bb
  replace bs := bs.below bb
  replace hS := hS.on bb bb.size
  replace hO := hO.on bb bb.size
  replace hL := hL.on bb bb.size
  have B4 := B3.trans (bb.mono B3.size)
  clear bb B3
  rw [G0.out]
  obtain ⟨k0, k1, k2, k3, k4, k5, k6, k7⟩ := bz.cells
  obtain ⟨j0, j1, j2, j3, j4, j5, j6, j7⟩ := bo.cells
  obtain ⟨x0, x1, x2, x3, x4⟩ := bs.cells
  go_wp2_with fail
  clear k0 k1 k2 k3 k4 k5 k6 k7
  clear j0 j1 j2 j3 j4 j5 j6 j7
  clear x0 x1 x2 x3 x4
  refine Calls.mono (show Calls Try.prog 8 #[.agg #[.int .i64 o.sn.ix, .int .i64 o.sn.tm, .int .i64 o.sn.sm, .int .i64 o.sn.lv, .bool o.sn.fn, .slice A' n' c', .int .i64 o.tm, .int .i64 o.vt]] w4 (fun e w' => e = .returned (.bool (decide (250 < n'))) ∧ Below w4.heap.size w4 w') from rgreatT_any o A' n' c' w4 hO) ?_
  intro e w5 hh
  obtain ⟨rfl, bb⟩ := hh
  (try clear hh)
  replace bz := bz.below bb
  replace bo := bo.below bb
  replace bs := bs.below bb
  replace hS := hS.on bb bb.size
  replace hO := hO.on bb bb.size
  replace hL := hL.on bb bb.size
  have B5 := B4.trans (bb.mono B4.size)
  clear bb B4
  rw [G1.out]
  obtain ⟨k0, k1, k2, k3, k4, k5, k6, k7⟩ := bz.cells
  obtain ⟨j0, j1, j2, j3, j4, j5, j6, j7⟩ := bo.cells
  obtain ⟨x0, x1, x2, x3, x4⟩ := bs.cells
  go_wp2_with fail
  clear k0 k1 k2 k3 k4 k5 k6 k7
  clear j0 j1 j2 j3 j4 j5 j6 j7
  clear x0 x1 x2 x3 x4
  refine Calls.mono (wakes12 D w5) ?_
  rintro e w6 ⟨rfl, bb⟩
  replace bz := bz.below bb
  replace bo := bo.below bb
  replace bs := bs.below bb
  replace hS := hS.on bb bb.size
  replace hO := hO.on bb bb.size
  replace hL := hL.on bb bb.size
  have B6 := B5.trans (bb.mono B5.size)
  clear bb B5
  go_wp2_with fail
  go_ret
  exact ⟨rfl, B6⟩
set_option maxRecDepth 100000 in
set_option maxHeartbeats 32000000 in
theorem tells_8 (D : Dev12) (t o : TupP) (l : List EnP) (s : StP) (i a b : Int) (A A' Al : Option Addr) (n c n' c' m cl : Nat) (w : World) (hS : Es w w.heap.size A n t.lg) (hnc : n ≤ c) (hO : Es w w.heap.size A' n' o.lg) (hL : Es w w.heap.size Al m l) (hml : m ≤ cl) (h0 : decide (250 < n) = false) (h1 : decide (250 < n') = false) (h2 : decide ((100 : Int) < (m : Int)) = false) (h3 : decide ((1099511627776 : Int) < t.sn.ix) = false) (h4 : decide (t.sn.ix < (-1099511627776 : Int)) = false) (h5 : decide ((1099511627776 : Int) < i) = false) (h6 : decide (i < (-1099511627776 : Int)) = false) (h7 : decide ((1099511627776 : Int) < s.ix) = false) (h8 : decide (s.ix < (-1099511627776 : Int)) = true) :
    Calls Try.prog 3 #[tupV t (.slice A n c), tupV o (.slice A' n' c'), .slice Al m cl, s.v, .int .i64 i, .int .i64 a, .int .i64 b] w fun e w' => e = .returned (.bool true) ∧ Below w.heap.size w w' := by
  have h2b : decide (100 < m) = false := decide_eq_false (by have := of_decide_eq_false h2; omega)
  have G0 := Lib.hid h0
  have G1 := Lib.hid h1
  clear h1
  clear h0
  have HS0 := Lib.hid (⟨hS, hO, hL⟩ : _ ∧ _ ∧ _)
  obtain ⟨z1, hz1⟩ : ∃ z, z = w.heap.size := ⟨_, rfl⟩
  obtain ⟨w1, hw1⟩ : ∃ x, x = w.alloc (.cells #[.int .i64 t.sn.ix, .int .i64 t.sn.tm, .int .i64 t.sn.sm, .int .i64 t.sn.lv, .bool t.sn.fn, .slice A n c, .int .i64 t.tm, .int .i64 t.vt] 26) := ⟨_, rfl⟩
  have bb : Below w.heap.size w w1 := by rw [hw1]; exact below_al (below_d0 _) _
  have bz : BoxU w1 z1 t (.slice A n c) := by rw [hw1, hz1]; exact BoxU.new w t _
  replace hS := hS.on bb bb.size
  replace hO := hO.on bb bb.size
  replace hL := hL.on bb bb.size
  have B1 := bb
  clear bb
  obtain ⟨z2, hz2⟩ : ∃ z, z = w1.heap.size := ⟨_, rfl⟩
  obtain ⟨w2, hw2⟩ : ∃ x, x = w1.alloc (.cells #[.int .i64 o.sn.ix, .int .i64 o.sn.tm, .int .i64 o.sn.sm, .int .i64 o.sn.lv, .bool o.sn.fn, .slice A' n' c', .int .i64 o.tm, .int .i64 o.vt] 26) := ⟨_, rfl⟩
  have bb : Below w1.heap.size w1 w2 := by rw [hw2]; exact below_al (below_d0 _) _
  have bo : BoxU w2 z2 o (.slice A' n' c') := by rw [hw2, hz2]; exact BoxU.new w1 o _
  replace bz := bz.below bb
  replace hS := hS.on bb bb.size
  replace hO := hO.on bb bb.size
  replace hL := hL.on bb bb.size
  have B2 := B1.trans (bb.mono B1.size)
  clear bb B1
  obtain ⟨z3, hz3⟩ : ∃ z, z = w2.heap.size := ⟨_, rfl⟩
  obtain ⟨w3, hw3⟩ : ∃ x, x = w2.alloc (.cells #[.int .i64 s.ix, .int .i64 s.tm, .int .i64 s.sm, .int .i64 s.lv, .bool s.fn] 23) := ⟨_, rfl⟩
  have bb : Below w2.heap.size w2 w3 := by rw [hw3]; exact below_al (below_d0 _) _
  have bs : BoxS w3 z3 s := by rw [hw3, hz3]; exact BoxS.new w2 s
  replace bz := bz.below bb
  replace bo := bo.below bb
  replace hS := hS.on bb bb.size
  replace hO := hO.on bb bb.size
  replace hL := hL.on bb bb.size
  have B3 := B2.trans (bb.mono B2.size)
  clear bb B2
  have hp2 : z1 + 1 = z2 := by rw [hz2, hw1, hz1]; simp
  have hp3 : z2 + 1 = z3 := by rw [hz3, hw2, hz2]; simp
  have lz2 : w.heap.size ≤ z2 := by omega
  have lz3 : w.heap.size ≤ z3 := by omega
  have ne12 : z1 ≠ z2 := by omega
  have ne13 : z1 ≠ z3 := by omega
  have ne23 : z2 ≠ z3 := by omega
  have HE := Lib.hid (⟨hw1, hw2, hw3, hz1, hp2, hp3⟩ : _ ∧ _ ∧ _ ∧ _ ∧ _ ∧ _)
  have HLZ := Lib.hid (⟨lz2, lz3⟩ : _ ∧ _)
  clear hw1 hz1 hw2 hz2 hw3 hz3 hp2 hp3 lz2 lz3
  skip
  unfold StP.v
  unfold tupV
  go_enter Try.func3, Try.ntmps3
  obtain ⟨k0, k1, k2, k3, k4, k5, k6, k7⟩ := bz.cells
  obtain ⟨j0, j1, j2, j3, j4, j5, j6, j7⟩ := bo.cells
  obtain ⟨x0, x1, x2, x3, x4⟩ := bs.cells
  go_wp2_with fail
  clear k0 k1 k2 k3 k4 k5 k6 k7
  clear j0 j1 j2 j3 j4 j5 j6 j7
  clear x0 x1 x2 x3 x4
  rw [← HE.out.1, ← HE.out.2.1, ← HE.out.2.2.1, ← HE.out.2.2.2.1]
  (try rw [HE.out.2.2.2.2.1])
  (try rw [HE.out.2.2.2.2.2])
  clear HE
  refine Calls.mono (show Calls Try.prog 8 #[.agg #[.int .i64 t.sn.ix, .int .i64 t.sn.tm, .int .i64 t.sn.sm, .int .i64 t.sn.lv, .bool t.sn.fn, .slice A n c, .int .i64 t.tm, .int .i64 t.vt]] w3 (fun e w' => e = .returned (.bool (decide (250 < n))) ∧ Below w3.heap.size w3 w') from rgreatT_any t A n c w3 hS) ?_
  intro e w4 hh
  obtain ⟨rfl, bb⟩ := hh
  (try clear hh)
  replace bz := bz.below bb
  replace bo := bo.below bb
  replace bs := bs.below bb
  replace hS := hS.on bb bb.size
  replace hO := hO.on bb bb.size
  replace hL := hL.on bb bb.size
  have B4 := B3.trans (bb.mono B3.size)
  clear bb B3
  rw [G0.out]
  obtain ⟨k0, k1, k2, k3, k4, k5, k6, k7⟩ := bz.cells
  obtain ⟨j0, j1, j2, j3, j4, j5, j6, j7⟩ := bo.cells
  obtain ⟨x0, x1, x2, x3, x4⟩ := bs.cells
  go_wp2_with fail
  clear k0 k1 k2 k3 k4 k5 k6 k7
  clear j0 j1 j2 j3 j4 j5 j6 j7
  clear x0 x1 x2 x3 x4
  refine Calls.mono (show Calls Try.prog 8 #[.agg #[.int .i64 o.sn.ix, .int .i64 o.sn.tm, .int .i64 o.sn.sm, .int .i64 o.sn.lv, .bool o.sn.fn, .slice A' n' c', .int .i64 o.tm, .int .i64 o.vt]] w4 (fun e w' => e = .returned (.bool (decide (250 < n'))) ∧ Below w4.heap.size w4 w') from rgreatT_any o A' n' c' w4 hO) ?_
  intro e w5 hh
  obtain ⟨rfl, bb⟩ := hh
  (try clear hh)
  replace bz := bz.below bb
  replace bo := bo.below bb
  replace bs := bs.below bb
  replace hS := hS.on bb bb.size
  replace hO := hO.on bb bb.size
  replace hL := hL.on bb bb.size
  have B5 := B4.trans (bb.mono B4.size)
  clear bb B4
  rw [G1.out]
  obtain ⟨k0, k1, k2, k3, k4, k5, k6, k7⟩ := bz.cells
  obtain ⟨j0, j1, j2, j3, j4, j5, j6, j7⟩ := bo.cells
  obtain ⟨x0, x1, x2, x3, x4⟩ := bs.cells
  go_wp2_with fail
  clear k0 k1 k2 k3 k4 k5 k6 k7
  clear j0 j1 j2 j3 j4 j5 j6 j7
  clear x0 x1 x2 x3 x4
  refine Calls.mono (wakes12 D w5) ?_
  rintro e w6 ⟨rfl, bb⟩
  replace bz := bz.below bb
  replace bo := bo.below bb
  replace bs := bs.below bb
  replace hS := hS.on bb bb.size
  replace hO := hO.on bb bb.size
  replace hL := hL.on bb bb.size
  have B6 := B5.trans (bb.mono B5.size)
  clear bb B5
  go_wp2_with fail
  go_ret
  exact ⟨rfl, B6⟩
set_option maxRecDepth 100000 in
set_option maxHeartbeats 32000000 in
theorem tells_main (D : Dev12) (t o : TupP) (l : List EnP) (s : StP) (i a b : Int) (A A' Al : Option Addr) (n c n' c' m cl : Nat) (w : World) (hS : Es w w.heap.size A n t.lg) (hnc : n ≤ c) (hO : Es w w.heap.size A' n' o.lg) (hL : Es w w.heap.size Al m l) (hml : m ≤ cl) (h0 : decide (250 < n) = false) (h1 : decide (250 < n') = false) (h2 : decide ((100 : Int) < (m : Int)) = false) (h3 : decide ((1099511627776 : Int) < t.sn.ix) = false) (h4 : decide (t.sn.ix < (-1099511627776 : Int)) = false) (h5 : decide ((1099511627776 : Int) < i) = false) (h6 : decide (i < (-1099511627776 : Int)) = false) (h7 : decide ((1099511627776 : Int) < s.ix) = false) (h8 : decide (s.ix < (-1099511627776 : Int)) = false) :
    Calls Try.prog 3 #[tupV t (.slice A n c), tupV o (.slice A' n' c'), .slice Al m cl, s.v, .int .i64 i, .int .i64 a, .int .i64 b] w fun e w' => e = .returned (.bool true) ∧ Below w.heap.size w w' := by
  have h2b : decide (100 < m) = false := decide_eq_false (by have := of_decide_eq_false h2; omega)
  have hn : n ≤ 250 := by have := of_decide_eq_false h0; omega
  have hn' : n' ≤ 250 := by have := of_decide_eq_false h1; omega
  have hm : m ≤ 100 := by have := of_decide_eq_false h2b; omega
  have hmt : Mid t.sn.ix := mid_of ⟨by have := of_decide_eq_false h4; omega, by have := of_decide_eq_false h3; omega⟩
  have hmi : Mid i := mid_of ⟨by have := of_decide_eq_false h6; omega, by have := of_decide_eq_false h5; omega⟩
  have hms : Mid s.ix := mid_of ⟨by have := of_decide_eq_false h8; omega, by have := of_decide_eq_false h7; omega⟩
  have HM := Lib.hid (⟨hmt, hmi, hms⟩ : _ ∧ _ ∧ _)
  have G0 := Lib.hid h0
  have G1 := Lib.hid h1
  clear hmt hmi hms h0 h1
  have HS0 := Lib.hid (⟨hS, hO, hL⟩ : _ ∧ _ ∧ _)
  obtain ⟨z1, hz1⟩ : ∃ z, z = w.heap.size := ⟨_, rfl⟩
  obtain ⟨w1, hw1⟩ : ∃ x, x = w.alloc (.cells #[.int .i64 t.sn.ix, .int .i64 t.sn.tm, .int .i64 t.sn.sm, .int .i64 t.sn.lv, .bool t.sn.fn, .slice A n c, .int .i64 t.tm, .int .i64 t.vt] 26) := ⟨_, rfl⟩
  have bb : Below w.heap.size w w1 := by rw [hw1]; exact below_al (below_d0 _) _
  have bz : BoxU w1 z1 t (.slice A n c) := by rw [hw1, hz1]; exact BoxU.new w t _
  replace hS := hS.on bb bb.size
  replace hO := hO.on bb bb.size
  replace hL := hL.on bb bb.size
  have B1 := bb
  clear bb
  obtain ⟨z2, hz2⟩ : ∃ z, z = w1.heap.size := ⟨_, rfl⟩
  obtain ⟨w2, hw2⟩ : ∃ x, x = w1.alloc (.cells #[.int .i64 o.sn.ix, .int .i64 o.sn.tm, .int .i64 o.sn.sm, .int .i64 o.sn.lv, .bool o.sn.fn, .slice A' n' c', .int .i64 o.tm, .int .i64 o.vt] 26) := ⟨_, rfl⟩
  have bb : Below w1.heap.size w1 w2 := by rw [hw2]; exact below_al (below_d0 _) _
  have bo : BoxU w2 z2 o (.slice A' n' c') := by rw [hw2, hz2]; exact BoxU.new w1 o _
  replace bz := bz.below bb
  replace hS := hS.on bb bb.size
  replace hO := hO.on bb bb.size
  replace hL := hL.on bb bb.size
  have B2 := B1.trans (bb.mono B1.size)
  clear bb B1
  obtain ⟨z3, hz3⟩ : ∃ z, z = w2.heap.size := ⟨_, rfl⟩
  obtain ⟨w3, hw3⟩ : ∃ x, x = w2.alloc (.cells #[.int .i64 s.ix, .int .i64 s.tm, .int .i64 s.sm, .int .i64 s.lv, .bool s.fn] 23) := ⟨_, rfl⟩
  have bb : Below w2.heap.size w2 w3 := by rw [hw3]; exact below_al (below_d0 _) _
  have bs : BoxS w3 z3 s := by rw [hw3, hz3]; exact BoxS.new w2 s
  replace bz := bz.below bb
  replace bo := bo.below bb
  replace hS := hS.on bb bb.size
  replace hO := hO.on bb bb.size
  replace hL := hL.on bb bb.size
  have B3 := B2.trans (bb.mono B2.size)
  clear bb B2
  have hp2 : z1 + 1 = z2 := by rw [hz2, hw1, hz1]; simp
  have hp3 : z2 + 1 = z3 := by rw [hz3, hw2, hz2]; simp
  have lz2 : w.heap.size ≤ z2 := by omega
  have lz3 : w.heap.size ≤ z3 := by omega
  have ne12 : z1 ≠ z2 := by omega
  have ne13 : z1 ≠ z3 := by omega
  have ne23 : z2 ≠ z3 := by omega
  have HE := Lib.hid (⟨hw1, hw2, hw3, hz1, hp2, hp3⟩ : _ ∧ _ ∧ _ ∧ _ ∧ _ ∧ _)
  have HLZ := Lib.hid (⟨lz2, lz3⟩ : _ ∧ _)
  clear hw1 hz1 hw2 hz2 hw3 hz3 hp2 hp3 lz2 lz3
  skip
  unfold StP.v
  unfold tupV
  go_enter Try.func3, Try.ntmps3
  obtain ⟨k0, k1, k2, k3, k4, k5, k6, k7⟩ := bz.cells
  obtain ⟨j0, j1, j2, j3, j4, j5, j6, j7⟩ := bo.cells
  obtain ⟨x0, x1, x2, x3, x4⟩ := bs.cells
  go_wp2_with fail
  clear k0 k1 k2 k3 k4 k5 k6 k7
  clear j0 j1 j2 j3 j4 j5 j6 j7
  clear x0 x1 x2 x3 x4
  rw [← HE.out.1, ← HE.out.2.1, ← HE.out.2.2.1, ← HE.out.2.2.2.1]
  (try rw [HE.out.2.2.2.2.1])
  (try rw [HE.out.2.2.2.2.2])
  clear HE
  refine Calls.mono (show Calls Try.prog 8 #[.agg #[.int .i64 t.sn.ix, .int .i64 t.sn.tm, .int .i64 t.sn.sm, .int .i64 t.sn.lv, .bool t.sn.fn, .slice A n c, .int .i64 t.tm, .int .i64 t.vt]] w3 (fun e w' => e = .returned (.bool (decide (250 < n))) ∧ Below w3.heap.size w3 w') from rgreatT_any t A n c w3 hS) ?_
  intro e w4 hh
  obtain ⟨rfl, bb⟩ := hh
  (try clear hh)
  replace bz := bz.below bb
  replace bo := bo.below bb
  replace bs := bs.below bb
  replace hS := hS.on bb bb.size
  replace hO := hO.on bb bb.size
  replace hL := hL.on bb bb.size
  have B4 := B3.trans (bb.mono B3.size)
  clear bb B3
  rw [G0.out]
  obtain ⟨k0, k1, k2, k3, k4, k5, k6, k7⟩ := bz.cells
  obtain ⟨j0, j1, j2, j3, j4, j5, j6, j7⟩ := bo.cells
  obtain ⟨x0, x1, x2, x3, x4⟩ := bs.cells
  go_wp2_with fail
  clear k0 k1 k2 k3 k4 k5 k6 k7
  clear j0 j1 j2 j3 j4 j5 j6 j7
  clear x0 x1 x2 x3 x4
  refine Calls.mono (show Calls Try.prog 8 #[.agg #[.int .i64 o.sn.ix, .int .i64 o.sn.tm, .int .i64 o.sn.sm, .int .i64 o.sn.lv, .bool o.sn.fn, .slice A' n' c', .int .i64 o.tm, .int .i64 o.vt]] w4 (fun e w' => e = .returned (.bool (decide (250 < n'))) ∧ Below w4.heap.size w4 w') from rgreatT_any o A' n' c' w4 hO) ?_
  intro e w5 hh
  obtain ⟨rfl, bb⟩ := hh
  (try clear hh)
  replace bz := bz.below bb
  replace bo := bo.below bb
  replace bs := bs.below bb
  replace hS := hS.on bb bb.size
  replace hO := hO.on bb bb.size
  replace hL := hL.on bb bb.size
  have B5 := B4.trans (bb.mono B4.size)
  clear bb B4
  rw [G1.out]
  obtain ⟨k0, k1, k2, k3, k4, k5, k6, k7⟩ := bz.cells
  obtain ⟨j0, j1, j2, j3, j4, j5, j6, j7⟩ := bo.cells
  obtain ⟨x0, x1, x2, x3, x4⟩ := bs.cells
  go_wp2_with fail
  clear k0 k1 k2 k3 k4 k5 k6 k7
  clear j0 j1 j2 j3 j4 j5 j6 j7
  clear x0 x1 x2 x3 x4
  clear h2 h2b h3 h4 h5 h6 h7 h8
  have B5y := B5
  refine Calls.mono (show Calls Try.prog 10 #[.agg #[.int .i64 t.sn.ix, .int .i64 t.sn.tm, .int .i64 t.sn.sm, .int .i64 t.sn.lv, .bool t.sn.fn, .slice A n c, .int .i64 t.tm, .int .i64 t.vt], .slice Al m cl] w5 (OutF (AppendIs t l) w5.heap.size w5) from D.append t A n c Al m cl l w5 hS (by omega) hnc HM.out.1 hL (by omega) hml) ?_
  intro e w6 hh
  obtain ⟨⟨o1, e1, A1, n1, c1, rfl, hR1, hnc1, own1⟩, bb⟩ := hh
  (try clear hh)
  replace bz := bz.below bb
  replace bo := bo.below bb
  replace bs := bs.below bb
  replace hS := hS.on bb bb.size
  replace hO := hO.on bb bb.size
  replace hL := hL.on bb bb.size
  have B6 := B5.trans (bb.mono B5.size)
  clear bb B5
  unfold tupV
  have B6y := B6
  have lbz := bz.lt
  have lbo := bo.lt
  have lbs := bs.lt
  obtain ⟨z7, hz7⟩ : ∃ z, z = w6.heap.size := ⟨_, rfl⟩
  obtain ⟨w7, hw7⟩ : ∃ x, x = w6.alloc (.cells #[.int .i64 o1.sn.ix, .int .i64 o1.sn.tm, .int .i64 o1.sn.sm, .int .i64 o1.sn.lv, .bool o1.sn.fn, .slice A1 n1 c1, .int .i64 o1.tm, .int .i64 o1.vt] 26) := ⟨_, rfl⟩
  have bb : Below w6.heap.size w6 w7 := by rw [hw7]; exact below_al (below_d0 _) _
  have ba : BoxU w7 z7 o1 (.slice A1 n1 c1) := by rw [hw7, hz7]; exact BoxU.new w6 o1 _
  replace own1 := keepF own1 bb
  replace bz := bz.below bb
  replace bo := bo.below bb
  replace bs := bs.below bb
  replace hS := hS.on bb bb.size
  replace hO := hO.on bb bb.size
  replace hL := hL.on bb bb.size
  have B7 := B6.trans (bb.mono B6.size)
  clear bb B6
  have nebzba : z1 ≠ z7 := by omega
  have neboba : z2 ≠ z7 := by omega
  have nebsba : z3 ≠ z7 := by omega
  have lzba := Lib.hid (show w.heap.size ≤ z7 by rw [hz7]; exact (B6y).size)
  clear lbz lbo lbs B6y
  have HE7 := Lib.hid (⟨hw7, hz7⟩ : _ ∧ _)
  clear hw7 hz7
  go_upto_region 4 with fail
  rw [← HE7.out.1, ← HE7.out.2]
  clear HE7
  obtain ⟨k0, k1, k2, k3, k4, k5, k6, k7⟩ := bz.cells
  go_wp2_with fail
  clear k0 k1 k2 k3 k4 k5 k6 k7
  refine Calls.mono (show Calls Try.prog 11 #[.agg #[.int .i64 t.sn.ix, .int .i64 t.sn.tm, .int .i64 t.sn.sm, .int .i64 t.sn.lv, .bool t.sn.fn, .slice A n c, .int .i64 t.tm, .int .i64 t.vt], .slice Al m cl] w7 (OutF (AppendIs t l) w7.heap.size w7) from rappendF_any t A n c Al m cl l w7 hS (by omega) hL (by omega)) ?_
  intro e w8 hh
  obtain ⟨⟨o2, e2, A2, n2, c2, rfl, hR2, hnc2, own2⟩, bb⟩ := hh
  (try clear hh)
  replace own1 := keepF own1 bb
  replace bz := bz.below bb
  replace bo := bo.below bb
  replace bs := bs.below bb
  replace ba := ba.below bb
  replace hS := hS.on bb bb.size
  replace hO := hO.on bb bb.size
  replace hL := hL.on bb bb.size
  have B8 := B7.trans (bb.mono B7.size)
  clear bb B7
  unfold tupV
  have hlen : o1.lg.length ≤ 1000000 := by have h1 := hS.len; have h2 := hL.len; rcases hR1 with ⟨_, _, _, h, _⟩ | ⟨_, h, _⟩ <;> rw [h] <;> (try simp only [appendT, List.length_append]) <;> omega
  obtain ⟨ho, he⟩ := ToldIs.same hR1 hR2
  subst ho
  subst he
  clear hR1 hR2
  have hleno1 := hlen
  clear hlen
  have B8y := B8
  have lbz := bz.lt
  have lbo := bo.lt
  have lbs := bs.lt
  have lba := ba.lt
  obtain ⟨z9, hz9⟩ : ∃ z, z = w8.heap.size := ⟨_, rfl⟩
  obtain ⟨w9, hw9⟩ : ∃ x, x = w8.alloc (.cells #[.int .i64 o1.sn.ix, .int .i64 o1.sn.tm, .int .i64 o1.sn.sm, .int .i64 o1.sn.lv, .bool o1.sn.fn, .slice A2 n2 c2, .int .i64 o1.tm, .int .i64 o1.vt] 26) := ⟨_, rfl⟩
  have bb : Below w8.heap.size w8 w9 := by rw [hw9]; exact below_al (below_d0 _) _
  have bb4 : BoxU w9 z9 o1 (.slice A2 n2 c2) := by rw [hw9, hz9]; exact BoxU.new w8 o1 _
  replace own1 := keepF own1 bb
  replace own2 := keepF own2 bb
  replace bz := bz.below bb
  replace bo := bo.below bb
  replace bs := bs.below bb
  replace ba := ba.below bb
  replace hS := hS.on bb bb.size
  replace hO := hO.on bb bb.size
  replace hL := hL.on bb bb.size
  have B9 := B8.trans (bb.mono B8.size)
  clear bb B8
  have nebzbb4 : z1 ≠ z9 := by omega
  have nebobb4 : z2 ≠ z9 := by omega
  have nebsbb4 : z3 ≠ z9 := by omega
  have nebabb4 : z7 ≠ z9 := by omega
  have lzbb4 := Lib.hid (show w.heap.size ≤ z9 by rw [hz9]; exact (B8y).size)
  clear lbz lbo lbs lba B8y
  have HE9 := Lib.hid (⟨hw9, hz9⟩ : _ ∧ _)
  clear hw9 hz9
  go_upto_region 5 with fail
  rw [← HE9.out.1, ← HE9.out.2]
  clear HE9
  obtain ⟨k0, k1, k2, k3, k4, k5, k6, k7⟩ := bz.cells
  go_wp2_with fail
  clear k0 k1 k2 k3 k4 k5 k6 k7
  refine Calls.mono (show Calls Try.prog 12 #[.agg #[.int .i64 t.sn.ix, .int .i64 t.sn.tm, .int .i64 t.sn.sm, .int .i64 t.sn.lv, .bool t.sn.fn, .slice A n c, .int .i64 t.tm, .int .i64 t.vt], .int .i64 i] w9 (OutF (CutIs t i) w9.heap.size w9) from D.cut t A n c i w9 hS (by omega) hnc HM.out.1 (Mid.i64 HM.out.2.1)) ?_
  intro e w10 hh
  obtain ⟨⟨o3, e3, A3, n3, c3, rfl, hR3, hnc3, own3⟩, bb⟩ := hh
  (try clear hh)
  replace own1 := keepF own1 bb
  replace own2 := keepF own2 bb
  replace bz := bz.below bb
  replace bo := bo.below bb
  replace bs := bs.below bb
  replace ba := ba.below bb
  replace bb4 := bb4.below bb
  replace hS := hS.on bb bb.size
  replace hO := hO.on bb bb.size
  replace hL := hL.on bb bb.size
  have B10 := B9.trans (bb.mono B9.size)
  clear bb B9
  unfold tupV
  have B10y := B10
  have lbz := bz.lt
  have lbo := bo.lt
  have lbs := bs.lt
  have lba := ba.lt
  have lbb4 := bb4.lt
  obtain ⟨z11, hz11⟩ : ∃ z, z = w10.heap.size := ⟨_, rfl⟩
  obtain ⟨w11, hw11⟩ : ∃ x, x = w10.alloc (.cells #[.int .i64 o3.sn.ix, .int .i64 o3.sn.tm, .int .i64 o3.sn.sm, .int .i64 o3.sn.lv, .bool o3.sn.fn, .slice A3 n3 c3, .int .i64 o3.tm, .int .i64 o3.vt] 26) := ⟨_, rfl⟩
  have bb : Below w10.heap.size w10 w11 := by rw [hw11]; exact below_al (below_d0 _) _
  have bc : BoxU w11 z11 o3 (.slice A3 n3 c3) := by rw [hw11, hz11]; exact BoxU.new w10 o3 _
  replace own1 := keepF own1 bb
  replace own2 := keepF own2 bb
  replace own3 := keepF own3 bb
  replace bz := bz.below bb
  replace bo := bo.below bb
  replace bs := bs.below bb
  replace ba := ba.below bb
  replace bb4 := bb4.below bb
  replace hS := hS.on bb bb.size
  replace hO := hO.on bb bb.size
  replace hL := hL.on bb bb.size
  have B11 := B10.trans (bb.mono B10.size)
  clear bb B10
  have nebzbc : z1 ≠ z11 := by omega
  have nebobc : z2 ≠ z11 := by omega
  have nebsbc : z3 ≠ z11 := by omega
  have nebabc : z7 ≠ z11 := by omega
  have nebb4bc : z9 ≠ z11 := by omega
  have lzbc := Lib.hid (show w.heap.size ≤ z11 by rw [hz11]; exact (B10y).size)
  clear lbz lbo lbs lba lbb4 B10y
  have HE11 := Lib.hid (⟨hw11, hz11⟩ : _ ∧ _)
  clear hw11 hz11
  go_upto_region 6 with fail
  rw [← HE11.out.1, ← HE11.out.2]
  clear HE11
  obtain ⟨k0, k1, k2, k3, k4, k5, k6, k7⟩ := bz.cells
  go_wp2_with fail
  clear k0 k1 k2 k3 k4 k5 k6 k7
  refine Calls.mono (show Calls Try.prog 13 #[.agg #[.int .i64 t.sn.ix, .int .i64 t.sn.tm, .int .i64 t.sn.sm, .int .i64 t.sn.lv, .bool t.sn.fn, .slice A n c, .int .i64 t.tm, .int .i64 t.vt], .int .i64 i] w11 (OutF (CutIs t i) w11.heap.size w11) from rcutF_any t A n c i w11 hS (by omega) hnc HM.out.1 HM.out.2.1) ?_
  intro e w12 hh
  obtain ⟨⟨o4, e4, A4, n4, c4, rfl, hR4, hnc4, own4⟩, bb⟩ := hh
  (try clear hh)
  replace own1 := keepF own1 bb
  replace own2 := keepF own2 bb
  replace own3 := keepF own3 bb
  replace bz := bz.below bb
  replace bo := bo.below bb
  replace bs := bs.below bb
  replace ba := ba.below bb
  replace bb4 := bb4.below bb
  replace bc := bc.below bb
  replace hS := hS.on bb bb.size
  replace hO := hO.on bb bb.size
  replace hL := hL.on bb bb.size
  have B12 := B11.trans (bb.mono B11.size)
  clear bb B11
  unfold tupV
  have hlen : o3.lg.length ≤ 1000000 := by have h1 := hS.len; rcases hR3 with ⟨_, _, _, h, _⟩ | ⟨_, h, _⟩ <;> rw [h] <;> (try simp only [cutT, List.length_take]) <;> omega
  obtain ⟨ho, he⟩ := ToldIs.same hR3 hR4
  subst ho
  subst he
  clear hR3 hR4
  have hleno3 := hlen
  clear hlen
  have B12y := B12
  have lbz := bz.lt
  have lbo := bo.lt
  have lbs := bs.lt
  have lba := ba.lt
  have lbb4 := bb4.lt
  have lbc := bc.lt
  obtain ⟨z13, hz13⟩ : ∃ z, z = w12.heap.size := ⟨_, rfl⟩
  obtain ⟨w13, hw13⟩ : ∃ x, x = w12.alloc (.cells #[.int .i64 o3.sn.ix, .int .i64 o3.sn.tm, .int .i64 o3.sn.sm, .int .i64 o3.sn.lv, .bool o3.sn.fn, .slice A4 n4 c4, .int .i64 o3.tm, .int .i64 o3.vt] 26) := ⟨_, rfl⟩
  have bb : Below w12.heap.size w12 w13 := by rw [hw13]; exact below_al (below_d0 _) _
  have bd : BoxU w13 z13 o3 (.slice A4 n4 c4) := by rw [hw13, hz13]; exact BoxU.new w12 o3 _
  replace own1 := keepF own1 bb
  replace own2 := keepF own2 bb
  replace own3 := keepF own3 bb
  replace own4 := keepF own4 bb
  replace bz := bz.below bb
  replace bo := bo.below bb
  replace bs := bs.below bb
  replace ba := ba.below bb
  replace bb4 := bb4.below bb
  replace bc := bc.below bb
  replace hS := hS.on bb bb.size
  replace hO := hO.on bb bb.size
  replace hL := hL.on bb bb.size
  have B13 := B12.trans (bb.mono B12.size)
  clear bb B12
  have nebzbd : z1 ≠ z13 := by omega
  have nebobd : z2 ≠ z13 := by omega
  have nebsbd : z3 ≠ z13 := by omega
  have nebabd : z7 ≠ z13 := by omega
  have nebb4bd : z9 ≠ z13 := by omega
  have nebcbd : z11 ≠ z13 := by omega
  have lzbd := Lib.hid (show w.heap.size ≤ z13 by rw [hz13]; exact (B12y).size)
  clear lbz lbo lbs lba lbb4 lbc B12y
  have HE13 := Lib.hid (⟨hw13, hz13⟩ : _ ∧ _)
  clear hw13 hz13
  go_upto_region 7 with fail
  rw [← HE13.out.1, ← HE13.out.2]
  clear HE13
  have p1 : (e1 != e1) = false := by simp
  have p3 : (e3 != e3) = false := by simp
  obtain ⟨k0, k1, k2, k3, k4, k5, k6, k7⟩ := ba.cells
  obtain ⟨j0, j1, j2, j3, j4, j5, j6, j7⟩ := bb4.cells
  obtain ⟨x0, x1, x2, x3, x4, x5, x6, x7⟩ := bc.cells
  obtain ⟨y0, y1, y2, y3, y4, y5, y6, y7⟩ := bd.cells
  go_wp2_with fail
  clear k0 k1 k2 k3 k4 k5 k6 k7
  clear j0 j1 j2 j3 j4 j5 j6 j7
  clear x0 x1 x2 x3 x4 x5 x6 x7
  clear y0 y1 y2 y3 y4 y5 y6 y7
  refine Calls.mono (show Calls Try.prog 14 #[.agg #[.int .i64 o1.sn.ix, .int .i64 o1.sn.tm, .int .i64 o1.sn.sm, .int .i64 o1.sn.lv, .bool o1.sn.fn, .slice A1 n1 c1, .int .i64 o1.tm, .int .i64 o1.vt], .agg #[.int .i64 o1.sn.ix, .int .i64 o1.sn.tm, .int .i64 o1.sn.sm, .int .i64 o1.sn.lv, .bool o1.sn.fn, .slice A2 n2 c2, .int .i64 o1.tm, .int .i64 o1.vt]] w13 (fun e w' => (∃ r, SameT o1 o1 r ∧ e = .returned (.bool r)) ∧ Below w13.heap.size w13 w') from rsameT_any o1 o1 A1 A2 n1 n2 c1 c2 w13 (OwnF.es own1) (OwnF.es own2) (by rw [← lenF own1]; exact hleno1) (by rw [← lenF own2]; exact hleno1)) ?_
  intro e w14 hh
  obtain ⟨⟨r, hr, rfl⟩, bb⟩ := hh
  (try clear hh)
  replace own1 := keepF own1 bb
  replace own2 := keepF own2 bb
  replace own3 := keepF own3 bb
  replace own4 := keepF own4 bb
  replace bz := bz.below bb
  replace bo := bo.below bb
  replace bs := bs.below bb
  replace ba := ba.below bb
  replace bb4 := bb4.below bb
  replace bc := bc.below bb
  replace bd := bd.below bb
  replace hS := hS.on bb bb.size
  replace hO := hO.on bb bb.size
  replace hL := hL.on bb bb.size
  have B14 := B13.trans (bb.mono B13.size)
  clear bb B13
  obtain rfl := hr.same (sameT_yes rfl)
  clear hr
  obtain ⟨k0, k1, k2, k3, k4, k5, k6, k7⟩ := ba.cells
  obtain ⟨j0, j1, j2, j3, j4, j5, j6, j7⟩ := bb4.cells
  obtain ⟨x0, x1, x2, x3, x4, x5, x6, x7⟩ := bc.cells
  obtain ⟨y0, y1, y2, y3, y4, y5, y6, y7⟩ := bd.cells
  go_wp2_with fail
  clear k0 k1 k2 k3 k4 k5 k6 k7
  clear j0 j1 j2 j3 j4 j5 j6 j7
  clear x0 x1 x2 x3 x4 x5 x6 x7
  clear y0 y1 y2 y3 y4 y5 y6 y7
  refine Calls.mono (show Calls Try.prog 14 #[.agg #[.int .i64 o3.sn.ix, .int .i64 o3.sn.tm, .int .i64 o3.sn.sm, .int .i64 o3.sn.lv, .bool o3.sn.fn, .slice A3 n3 c3, .int .i64 o3.tm, .int .i64 o3.vt], .agg #[.int .i64 o3.sn.ix, .int .i64 o3.sn.tm, .int .i64 o3.sn.sm, .int .i64 o3.sn.lv, .bool o3.sn.fn, .slice A4 n4 c4, .int .i64 o3.tm, .int .i64 o3.vt]] w14 (fun e w' => (∃ r, SameT o3 o3 r ∧ e = .returned (.bool r)) ∧ Below w14.heap.size w14 w') from rsameT_any o3 o3 A3 A4 n3 n4 c3 c4 w14 (OwnF.es own3) (OwnF.es own4) (by rw [← lenF own3]; exact hleno3) (by rw [← lenF own4]; exact hleno3)) ?_
  intro e w15 hh
  obtain ⟨⟨r, hr, rfl⟩, bb⟩ := hh
  (try clear hh)
  replace own1 := keepF own1 bb
  replace own2 := keepF own2 bb
  replace own3 := keepF own3 bb
  replace own4 := keepF own4 bb
  replace bz := bz.below bb
  replace bo := bo.below bb
  replace bs := bs.below bb
  replace ba := ba.below bb
  replace bb4 := bb4.below bb
  replace bc := bc.below bb
  replace bd := bd.below bb
  replace hS := hS.on bb bb.size
  replace hO := hO.on bb bb.size
  replace hL := hL.on bb bb.size
  have B15 := B14.trans (bb.mono B14.size)
  clear bb B14
  obtain rfl := hr.same (sameT_yes rfl)
  clear hr
  go_upto_region 9 with fail
  clear p1 p3
  obtain ⟨k0, k1, k2, k3, k4, k5, k6, k7⟩ := bz.cells
  obtain ⟨x0, x1, x2, x3, x4⟩ := bs.cells
  go_wp2_with fail
  clear k0 k1 k2 k3 k4 k5 k6 k7
  clear x0 x1 x2 x3 x4
  clear own1 hleno1
  refine Calls.mono (show Calls Try.prog 15 #[.agg #[.int .i64 t.sn.ix, .int .i64 t.sn.tm, .int .i64 t.sn.sm, .int .i64 t.sn.lv, .bool t.sn.fn, .slice A n c, .int .i64 t.tm, .int .i64 t.vt], .agg #[.int .i64 s.ix, .int .i64 s.tm, .int .i64 s.sm, .int .i64 s.lv, .bool s.fn]] w15 (OutF (SaveIs t s) w15.heap.size w15) from D.save t A n c s w15 hS (by omega) hnc HM.out.1 (Mid.i64 HM.out.2.2)) ?_
  intro e w16 hh
  obtain ⟨⟨o5, e5, A5, n5, c5, rfl, hR5, hnc5, own5⟩, bb⟩ := hh
  (try clear hh)
  replace own2 := keepF own2 bb
  replace own3 := keepF own3 bb
  replace own4 := keepF own4 bb
  replace bz := bz.below bb
  replace bo := bo.below bb
  replace bs := bs.below bb
  replace ba := ba.below bb
  replace bb4 := bb4.below bb
  replace bc := bc.below bb
  replace bd := bd.below bb
  replace hS := hS.on bb bb.size
  replace hO := hO.on bb bb.size
  replace hL := hL.on bb bb.size
  have B16 := B15.trans (bb.mono B15.size)
  clear bb B15
  unfold tupV
  obtain ⟨g0, g1, g2, g3, g4, g5, g6, g7⟩ := ba.cells
  have f0 := ba.frozen 0
  have f1 := ba.frozen 1
  have f2 := ba.frozen 2
  have f3 := ba.frozen 3
  have f4 := ba.frozen 4
  have f5 := ba.frozen 5
  have f6 := ba.frozen 6
  have f7 := ba.frozen 7
  go_upto_region 10 with fail
  clear g0 g1 g2 g3 g4 g5 g6 g7 f0 f1 f2 f3 f4 f5 f6 f7
  obtain ⟨w17, hw17⟩ : ∃ x, x = putU w16 z7 o5 (.slice A5 n5 c5) := ⟨_, rfl⟩
  have e9 : w17 = ((((((((w16.setCell ⟨z7, 0, none⟩ (.int .i64 o5.sn.ix)).setCell ⟨z7, 1, none⟩ (.int .i64 o5.sn.tm)).setCell ⟨z7, 2, none⟩ (.int .i64 o5.sn.sm)).setCell ⟨z7, 3, none⟩ (.int .i64 o5.sn.lv)).setCell ⟨z7, 4, none⟩ (.bool o5.sn.fn)).setCell ⟨z7, 5, none⟩ (.slice A5 n5 c5)).setCell ⟨z7, 6, none⟩ (.int .i64 o5.tm)).setCell ⟨z7, 7, none⟩ (.int .i64 o5.vt)) := hw17
  rw [← e9]
  clear e9
  have B17 : Below w.heap.size w w17 := by rw [hw17]; exact putU_below lzba.out _ _ B16
  have bz9 : BoxU w17 z1 t (.slice A n c) := by rw [hw17]; exact putU_boxes bz nebzba
  have bo9 : BoxU w17 z2 o (.slice A' n' c') := by rw [hw17]; exact putU_boxes bo neboba
  have bs9 : BoxS w17 z3 s := by rw [hw17]; exact (putU_other _ _ nebsba).trans bs
  have bb49 : BoxU w17 z9 o1 (.slice A2 n2 c2) := by rw [hw17]; exact putU_boxes bb4 nebabb4.symm
  have bc9 : BoxU w17 z11 o3 (.slice A3 n3 c3) := by rw [hw17]; exact putU_boxes bc nebabc.symm
  have bd9 : BoxU w17 z13 o3 (.slice A4 n4 c4) := by rw [hw17]; exact putU_boxes bd nebabd.symm
  have ba9 : BoxU w17 z7 o5 (.slice A5 n5 c5) := by rw [hw17]; exact putU_box ba _ _
  have own29 := putU_ownF (m := o5) (x := .slice A5 n5 c5) ba own2
  rw [← hw17] at own29
  have own39 := putU_ownF (m := o5) (x := .slice A5 n5 c5) ba own3
  rw [← hw17] at own39
  have own49 := putU_ownF (m := o5) (x := .slice A5 n5 c5) ba own4
  rw [← hw17] at own49
  have own59 := putU_ownF (m := o5) (x := .slice A5 n5 c5) ba own5
  rw [← hw17] at own59
  clear bz bo bs ba bb4 bc bd own2 own3 own4 own5 hS hO hL B16 hw17
  have bz := bz9
  clear bz9
  have bo := bo9
  clear bo9
  have bs := bs9
  clear bs9
  have ba := ba9
  clear ba9
  have bb4 := bb49
  clear bb49
  have bc := bc9
  clear bc9
  have bd := bd9
  clear bd9
  have own2 := own29
  clear own29
  have own3 := own39
  clear own39
  have own4 := own49
  clear own49
  have own5 := own59
  clear own59
  have hS := Row.on HS0.out.1 B17 B17.size
  have hO := Row.on HS0.out.2.1 B17 B17.size
  have hL := Row.on HS0.out.2.2 B17 B17.size
  have hS : Es w17 w17.heap.size A n t.lg := hS
  have hO : Es w17 w17.heap.size A' n' o.lg := hO
  have hL : Es w17 w17.heap.size Al m l := hL
  obtain ⟨k0, k1, k2, k3, k4, k5, k6, k7⟩ := bz.cells
  obtain ⟨x0, x1, x2, x3, x4⟩ := bs.cells
  go_wp2_with fail
  clear k0 k1 k2 k3 k4 k5 k6 k7
  clear x0 x1 x2 x3 x4
  clear own2
  refine Calls.mono (show Calls Try.prog 16 #[.agg #[.int .i64 t.sn.ix, .int .i64 t.sn.tm, .int .i64 t.sn.sm, .int .i64 t.sn.lv, .bool t.sn.fn, .slice A n c, .int .i64 t.tm, .int .i64 t.vt], .agg #[.int .i64 s.ix, .int .i64 s.tm, .int .i64 s.sm, .int .i64 s.lv, .bool s.fn]] w17 (OutF (SaveIs t s) w17.heap.size w17) from rsaveF_any t A n c s w17 hS (by omega) hnc HM.out.1 HM.out.2.2) ?_
  intro e w18 hh
  obtain ⟨⟨o6, e6, A6, n6, c6, rfl, hR6, hnc6, own6⟩, bb⟩ := hh
  (try clear hh)
  replace own3 := keepF own3 bb
  replace own4 := keepF own4 bb
  replace own5 := keepF own5 bb
  replace bz := bz.below bb
  replace bo := bo.below bb
  replace bs := bs.below bb
  replace ba := ba.below bb
  replace bb4 := bb4.below bb
  replace bc := bc.below bb
  replace bd := bd.below bb
  replace hS := hS.on bb bb.size
  replace hO := hO.on bb bb.size
  replace hL := hL.on bb bb.size
  have B18 := B17.trans (bb.mono B17.size)
  clear bb B17
  unfold tupV
  have hlen : o5.lg.length ≤ 1000000 := by have h1 := hS.len; rcases hR5 with ⟨_, _, _, h, _⟩ | ⟨_, h, _⟩ <;> rw [h] <;> (try simp only [saveT, List.length_drop]) <;> omega
  obtain ⟨ho, he⟩ := ToldIs.same hR5 hR6
  subst ho
  subst he
  clear hR5 hR6
  have hleno5 := hlen
  clear hlen
  obtain ⟨g0, g1, g2, g3, g4, g5, g6, g7⟩ := bb4.cells
  have f0 := bb4.frozen 0
  have f1 := bb4.frozen 1
  have f2 := bb4.frozen 2
  have f3 := bb4.frozen 3
  have f4 := bb4.frozen 4
  have f5 := bb4.frozen 5
  have f6 := bb4.frozen 6
  have f7 := bb4.frozen 7
  go_upto_region 11 with fail
  clear g0 g1 g2 g3 g4 g5 g6 g7 f0 f1 f2 f3 f4 f5 f6 f7
  obtain ⟨w19, hw19⟩ : ∃ x, x = putU w18 z9 o5 (.slice A6 n6 c6) := ⟨_, rfl⟩
  have e9 : w19 = ((((((((w18.setCell ⟨z9, 0, none⟩ (.int .i64 o5.sn.ix)).setCell ⟨z9, 1, none⟩ (.int .i64 o5.sn.tm)).setCell ⟨z9, 2, none⟩ (.int .i64 o5.sn.sm)).setCell ⟨z9, 3, none⟩ (.int .i64 o5.sn.lv)).setCell ⟨z9, 4, none⟩ (.bool o5.sn.fn)).setCell ⟨z9, 5, none⟩ (.slice A6 n6 c6)).setCell ⟨z9, 6, none⟩ (.int .i64 o5.tm)).setCell ⟨z9, 7, none⟩ (.int .i64 o5.vt)) := hw19
  rw [← e9]
  clear e9
  have B19 : Below w.heap.size w w19 := by rw [hw19]; exact putU_below lzbb4.out _ _ B18
  have bz9 : BoxU w19 z1 t (.slice A n c) := by rw [hw19]; exact putU_boxes bz nebzbb4
  have bo9 : BoxU w19 z2 o (.slice A' n' c') := by rw [hw19]; exact putU_boxes bo nebobb4
  have bs9 : BoxS w19 z3 s := by rw [hw19]; exact (putU_other _ _ nebsbb4).trans bs
  have ba9 : BoxU w19 z7 o5 (.slice A5 n5 c5) := by rw [hw19]; exact putU_boxes ba nebabb4
  have bc9 : BoxU w19 z11 o3 (.slice A3 n3 c3) := by rw [hw19]; exact putU_boxes bc nebb4bc.symm
  have bd9 : BoxU w19 z13 o3 (.slice A4 n4 c4) := by rw [hw19]; exact putU_boxes bd nebb4bd.symm
  have bb49 : BoxU w19 z9 o5 (.slice A6 n6 c6) := by rw [hw19]; exact putU_box bb4 _ _
  have own39 := putU_ownF (m := o5) (x := .slice A6 n6 c6) bb4 own3
  rw [← hw19] at own39
  have own49 := putU_ownF (m := o5) (x := .slice A6 n6 c6) bb4 own4
  rw [← hw19] at own49
  have own59 := putU_ownF (m := o5) (x := .slice A6 n6 c6) bb4 own5
  rw [← hw19] at own59
  have own69 := putU_ownF (m := o5) (x := .slice A6 n6 c6) bb4 own6
  rw [← hw19] at own69
  clear bz bo bs ba bb4 bc bd own3 own4 own5 own6 hS hO hL B18 hw19
  have bz := bz9
  clear bz9
  have bo := bo9
  clear bo9
  have bs := bs9
  clear bs9
  have ba := ba9
  clear ba9
  have bb4 := bb49
  clear bb49
  have bc := bc9
  clear bc9
  have bd := bd9
  clear bd9
  have own3 := own39
  clear own39
  have own4 := own49
  clear own49
  have own5 := own59
  clear own59
  have own6 := own69
  clear own69
  have hS := Row.on HS0.out.1 B19 B19.size
  have hO := Row.on HS0.out.2.1 B19 B19.size
  have hL := Row.on HS0.out.2.2 B19 B19.size
  have hS : Es w19 w19.heap.size A n t.lg := hS
  have hO : Es w19 w19.heap.size A' n' o.lg := hO
  have hL : Es w19 w19.heap.size Al m l := hL
  obtain ⟨k0, k1, k2, k3, k4, k5, k6, k7⟩ := bz.cells
  obtain ⟨x0, x1, x2, x3, x4⟩ := bs.cells
  go_wp2_with fail
  clear k0 k1 k2 k3 k4 k5 k6 k7
  clear x0 x1 x2 x3 x4
  clear own3 hleno3
  refine Calls.mono (show Calls Try.prog 17 #[.agg #[.int .i64 t.sn.ix, .int .i64 t.sn.tm, .int .i64 t.sn.sm, .int .i64 t.sn.lv, .bool t.sn.fn, .slice A n c, .int .i64 t.tm, .int .i64 t.vt], .agg #[.int .i64 s.ix, .int .i64 s.tm, .int .i64 s.sm, .int .i64 s.lv, .bool s.fn]] w19 (OutF (InstallIs t s) w19.heap.size w19) from D.install t A n c s w19 hS (by omega) hnc HM.out.1 (Mid.i64 HM.out.2.2)) ?_
  intro e w20 hh
  obtain ⟨⟨o7, e7, A7, n7, c7, rfl, hR7, hnc7, own7⟩, bb⟩ := hh
  (try clear hh)
  replace own4 := keepF own4 bb
  replace own5 := keepF own5 bb
  replace own6 := keepF own6 bb
  replace bz := bz.below bb
  replace bo := bo.below bb
  replace bs := bs.below bb
  replace ba := ba.below bb
  replace bb4 := bb4.below bb
  replace bc := bc.below bb
  replace bd := bd.below bb
  replace hS := hS.on bb bb.size
  replace hO := hO.on bb bb.size
  replace hL := hL.on bb bb.size
  have B20 := B19.trans (bb.mono B19.size)
  clear bb B19
  unfold tupV
  obtain ⟨g0, g1, g2, g3, g4, g5, g6, g7⟩ := bc.cells
  have f0 := bc.frozen 0
  have f1 := bc.frozen 1
  have f2 := bc.frozen 2
  have f3 := bc.frozen 3
  have f4 := bc.frozen 4
  have f5 := bc.frozen 5
  have f6 := bc.frozen 6
  have f7 := bc.frozen 7
  go_upto_region 12 with fail
  clear g0 g1 g2 g3 g4 g5 g6 g7 f0 f1 f2 f3 f4 f5 f6 f7
  obtain ⟨w21, hw21⟩ : ∃ x, x = putU w20 z11 o7 (.slice A7 n7 c7) := ⟨_, rfl⟩
  have e9 : w21 = ((((((((w20.setCell ⟨z11, 0, none⟩ (.int .i64 o7.sn.ix)).setCell ⟨z11, 1, none⟩ (.int .i64 o7.sn.tm)).setCell ⟨z11, 2, none⟩ (.int .i64 o7.sn.sm)).setCell ⟨z11, 3, none⟩ (.int .i64 o7.sn.lv)).setCell ⟨z11, 4, none⟩ (.bool o7.sn.fn)).setCell ⟨z11, 5, none⟩ (.slice A7 n7 c7)).setCell ⟨z11, 6, none⟩ (.int .i64 o7.tm)).setCell ⟨z11, 7, none⟩ (.int .i64 o7.vt)) := hw21
  rw [← e9]
  clear e9
  have B21 : Below w.heap.size w w21 := by rw [hw21]; exact putU_below lzbc.out _ _ B20
  have bz9 : BoxU w21 z1 t (.slice A n c) := by rw [hw21]; exact putU_boxes bz nebzbc
  have bo9 : BoxU w21 z2 o (.slice A' n' c') := by rw [hw21]; exact putU_boxes bo nebobc
  have bs9 : BoxS w21 z3 s := by rw [hw21]; exact (putU_other _ _ nebsbc).trans bs
  have ba9 : BoxU w21 z7 o5 (.slice A5 n5 c5) := by rw [hw21]; exact putU_boxes ba nebabc
  have bb49 : BoxU w21 z9 o5 (.slice A6 n6 c6) := by rw [hw21]; exact putU_boxes bb4 nebb4bc
  have bd9 : BoxU w21 z13 o3 (.slice A4 n4 c4) := by rw [hw21]; exact putU_boxes bd nebcbd.symm
  have bc9 : BoxU w21 z11 o7 (.slice A7 n7 c7) := by rw [hw21]; exact putU_box bc _ _
  have own49 := putU_ownF (m := o7) (x := .slice A7 n7 c7) bc own4
  rw [← hw21] at own49
  have own59 := putU_ownF (m := o7) (x := .slice A7 n7 c7) bc own5
  rw [← hw21] at own59
  have own69 := putU_ownF (m := o7) (x := .slice A7 n7 c7) bc own6
  rw [← hw21] at own69
  have own79 := putU_ownF (m := o7) (x := .slice A7 n7 c7) bc own7
  rw [← hw21] at own79
  clear bz bo bs ba bb4 bc bd own4 own5 own6 own7 hS hO hL B20 hw21
  have bz := bz9
  clear bz9
  have bo := bo9
  clear bo9
  have bs := bs9
  clear bs9
  have ba := ba9
  clear ba9
  have bb4 := bb49
  clear bb49
  have bc := bc9
  clear bc9
  have bd := bd9
  clear bd9
  have own4 := own49
  clear own49
  have own5 := own59
  clear own59
  have own6 := own69
  clear own69
  have own7 := own79
  clear own79
  have hS := Row.on HS0.out.1 B21 B21.size
  have hO := Row.on HS0.out.2.1 B21 B21.size
  have hL := Row.on HS0.out.2.2 B21 B21.size
  have hS : Es w21 w21.heap.size A n t.lg := hS
  have hO : Es w21 w21.heap.size A' n' o.lg := hO
  have hL : Es w21 w21.heap.size Al m l := hL
  obtain ⟨k0, k1, k2, k3, k4, k5, k6, k7⟩ := bz.cells
  obtain ⟨x0, x1, x2, x3, x4⟩ := bs.cells
  go_wp2_with fail
  clear k0 k1 k2 k3 k4 k5 k6 k7
  clear x0 x1 x2 x3 x4
  clear own4
  refine Calls.mono (show Calls Try.prog 18 #[.agg #[.int .i64 t.sn.ix, .int .i64 t.sn.tm, .int .i64 t.sn.sm, .int .i64 t.sn.lv, .bool t.sn.fn, .slice A n c, .int .i64 t.tm, .int .i64 t.vt], .agg #[.int .i64 s.ix, .int .i64 s.tm, .int .i64 s.sm, .int .i64 s.lv, .bool s.fn]] w21 (OutF (InstallIs t s) w21.heap.size w21) from rinstallF_any t A n c s w21 hS (by omega) hnc HM.out.1 HM.out.2.2) ?_
  intro e w22 hh
  obtain ⟨⟨o8, e8, A8, n8, c8, rfl, hR8, hnc8, own8⟩, bb⟩ := hh
  (try clear hh)
  replace own5 := keepF own5 bb
  replace own6 := keepF own6 bb
  replace own7 := keepF own7 bb
  replace bz := bz.below bb
  replace bo := bo.below bb
  replace bs := bs.below bb
  replace ba := ba.below bb
  replace bb4 := bb4.below bb
  replace bc := bc.below bb
  replace bd := bd.below bb
  replace hS := hS.on bb bb.size
  replace hO := hO.on bb bb.size
  replace hL := hL.on bb bb.size
  have B22 := B21.trans (bb.mono B21.size)
  clear bb B21
  unfold tupV
  have hlen : o7.lg.length ≤ 1000000 := by have h1 := hS.len; rcases hR7 with ⟨_, ⟨_, _, _, h, _⟩ | ⟨_, h, _⟩⟩ | ⟨_, ⟨_, _, _, h, _⟩ | ⟨_, h, _⟩⟩ <;> rw [h] <;> (try simp only [saveT, goneT, List.length_drop, List.length_nil]) <;> omega
  obtain ⟨ho, he⟩ := InstallIs.same hR7 hR8
  subst ho
  subst he
  clear hR7 hR8
  have hleno7 := hlen
  clear hlen
  obtain ⟨g0, g1, g2, g3, g4, g5, g6, g7⟩ := bd.cells
  have f0 := bd.frozen 0
  have f1 := bd.frozen 1
  have f2 := bd.frozen 2
  have f3 := bd.frozen 3
  have f4 := bd.frozen 4
  have f5 := bd.frozen 5
  have f6 := bd.frozen 6
  have f7 := bd.frozen 7
  go_upto_region 13 with fail
  clear g0 g1 g2 g3 g4 g5 g6 g7 f0 f1 f2 f3 f4 f5 f6 f7
  obtain ⟨w23, hw23⟩ : ∃ x, x = putU w22 z13 o7 (.slice A8 n8 c8) := ⟨_, rfl⟩
  have e9 : w23 = ((((((((w22.setCell ⟨z13, 0, none⟩ (.int .i64 o7.sn.ix)).setCell ⟨z13, 1, none⟩ (.int .i64 o7.sn.tm)).setCell ⟨z13, 2, none⟩ (.int .i64 o7.sn.sm)).setCell ⟨z13, 3, none⟩ (.int .i64 o7.sn.lv)).setCell ⟨z13, 4, none⟩ (.bool o7.sn.fn)).setCell ⟨z13, 5, none⟩ (.slice A8 n8 c8)).setCell ⟨z13, 6, none⟩ (.int .i64 o7.tm)).setCell ⟨z13, 7, none⟩ (.int .i64 o7.vt)) := hw23
  rw [← e9]
  clear e9
  have B23 : Below w.heap.size w w23 := by rw [hw23]; exact putU_below lzbd.out _ _ B22
  have bz9 : BoxU w23 z1 t (.slice A n c) := by rw [hw23]; exact putU_boxes bz nebzbd
  have bo9 : BoxU w23 z2 o (.slice A' n' c') := by rw [hw23]; exact putU_boxes bo nebobd
  have bs9 : BoxS w23 z3 s := by rw [hw23]; exact (putU_other _ _ nebsbd).trans bs
  have ba9 : BoxU w23 z7 o5 (.slice A5 n5 c5) := by rw [hw23]; exact putU_boxes ba nebabd
  have bb49 : BoxU w23 z9 o5 (.slice A6 n6 c6) := by rw [hw23]; exact putU_boxes bb4 nebb4bd
  have bc9 : BoxU w23 z11 o7 (.slice A7 n7 c7) := by rw [hw23]; exact putU_boxes bc nebcbd
  have bd9 : BoxU w23 z13 o7 (.slice A8 n8 c8) := by rw [hw23]; exact putU_box bd _ _
  have own59 := putU_ownF (m := o7) (x := .slice A8 n8 c8) bd own5
  rw [← hw23] at own59
  have own69 := putU_ownF (m := o7) (x := .slice A8 n8 c8) bd own6
  rw [← hw23] at own69
  have own79 := putU_ownF (m := o7) (x := .slice A8 n8 c8) bd own7
  rw [← hw23] at own79
  have own89 := putU_ownF (m := o7) (x := .slice A8 n8 c8) bd own8
  rw [← hw23] at own89
  clear bz bo bs ba bb4 bc bd own5 own6 own7 own8 hS hO hL B22 hw23
  have bz := bz9
  clear bz9
  have bo := bo9
  clear bo9
  have bs := bs9
  clear bs9
  have ba := ba9
  clear ba9
  have bb4 := bb49
  clear bb49
  have bc := bc9
  clear bc9
  have bd := bd9
  clear bd9
  have own5 := own59
  clear own59
  have own6 := own69
  clear own69
  have own7 := own79
  clear own79
  have own8 := own89
  clear own89
  have hS := Row.on HS0.out.1 B23 B23.size
  have hO := Row.on HS0.out.2.1 B23 B23.size
  have hL := Row.on HS0.out.2.2 B23 B23.size
  have hS : Es w23 w23.heap.size A n t.lg := hS
  have hO : Es w23 w23.heap.size A' n' o.lg := hO
  have hL : Es w23 w23.heap.size Al m l := hL
  have p1 : (e5 != e5) = false := by simp
  have p3 : (e7 != e7) = false := by simp
  obtain ⟨k0, k1, k2, k3, k4, k5, k6, k7⟩ := ba.cells
  obtain ⟨j0, j1, j2, j3, j4, j5, j6, j7⟩ := bb4.cells
  obtain ⟨x0, x1, x2, x3, x4, x5, x6, x7⟩ := bc.cells
  obtain ⟨y0, y1, y2, y3, y4, y5, y6, y7⟩ := bd.cells
  go_wp2_with fail
  clear k0 k1 k2 k3 k4 k5 k6 k7
  clear j0 j1 j2 j3 j4 j5 j6 j7
  clear x0 x1 x2 x3 x4 x5 x6 x7
  clear y0 y1 y2 y3 y4 y5 y6 y7
  refine Calls.mono (show Calls Try.prog 14 #[.agg #[.int .i64 o5.sn.ix, .int .i64 o5.sn.tm, .int .i64 o5.sn.sm, .int .i64 o5.sn.lv, .bool o5.sn.fn, .slice A5 n5 c5, .int .i64 o5.tm, .int .i64 o5.vt], .agg #[.int .i64 o5.sn.ix, .int .i64 o5.sn.tm, .int .i64 o5.sn.sm, .int .i64 o5.sn.lv, .bool o5.sn.fn, .slice A6 n6 c6, .int .i64 o5.tm, .int .i64 o5.vt]] w23 (fun e w' => (∃ r, SameT o5 o5 r ∧ e = .returned (.bool r)) ∧ Below w23.heap.size w23 w') from rsameT_any o5 o5 A5 A6 n5 n6 c5 c6 w23 (OwnF.es own5) (OwnF.es own6) (by rw [← lenF own5]; exact hleno5) (by rw [← lenF own6]; exact hleno5)) ?_
  intro e w24 hh
  obtain ⟨⟨r, hr, rfl⟩, bb⟩ := hh
  (try clear hh)
  replace own5 := keepF own5 bb
  replace own6 := keepF own6 bb
  replace own7 := keepF own7 bb
  replace own8 := keepF own8 bb
  replace bz := bz.below bb
  replace bo := bo.below bb
  replace bs := bs.below bb
  replace ba := ba.below bb
  replace bb4 := bb4.below bb
  replace bc := bc.below bb
  replace bd := bd.below bb
  replace hS := hS.on bb bb.size
  replace hO := hO.on bb bb.size
  replace hL := hL.on bb bb.size
  have B24 := B23.trans (bb.mono B23.size)
  clear bb B23
  obtain rfl := hr.same (sameT_yes rfl)
  clear hr
  obtain ⟨k0, k1, k2, k3, k4, k5, k6, k7⟩ := ba.cells
  obtain ⟨j0, j1, j2, j3, j4, j5, j6, j7⟩ := bb4.cells
  obtain ⟨x0, x1, x2, x3, x4, x5, x6, x7⟩ := bc.cells
  obtain ⟨y0, y1, y2, y3, y4, y5, y6, y7⟩ := bd.cells
  go_wp2_with fail
  clear k0 k1 k2 k3 k4 k5 k6 k7
  clear j0 j1 j2 j3 j4 j5 j6 j7
  clear x0 x1 x2 x3 x4 x5 x6 x7
  clear y0 y1 y2 y3 y4 y5 y6 y7
  refine Calls.mono (show Calls Try.prog 14 #[.agg #[.int .i64 o7.sn.ix, .int .i64 o7.sn.tm, .int .i64 o7.sn.sm, .int .i64 o7.sn.lv, .bool o7.sn.fn, .slice A7 n7 c7, .int .i64 o7.tm, .int .i64 o7.vt], .agg #[.int .i64 o7.sn.ix, .int .i64 o7.sn.tm, .int .i64 o7.sn.sm, .int .i64 o7.sn.lv, .bool o7.sn.fn, .slice A8 n8 c8, .int .i64 o7.tm, .int .i64 o7.vt]] w24 (fun e w' => (∃ r, SameT o7 o7 r ∧ e = .returned (.bool r)) ∧ Below w24.heap.size w24 w') from rsameT_any o7 o7 A7 A8 n7 n8 c7 c8 w24 (OwnF.es own7) (OwnF.es own8) (by rw [← lenF own7]; exact hleno7) (by rw [← lenF own8]; exact hleno7)) ?_
  intro e w25 hh
  obtain ⟨⟨r, hr, rfl⟩, bb⟩ := hh
  (try clear hh)
  replace own5 := keepF own5 bb
  replace own6 := keepF own6 bb
  replace own7 := keepF own7 bb
  replace own8 := keepF own8 bb
  replace bz := bz.below bb
  replace bo := bo.below bb
  replace bs := bs.below bb
  replace ba := ba.below bb
  replace bb4 := bb4.below bb
  replace bc := bc.below bb
  replace bd := bd.below bb
  replace hS := hS.on bb bb.size
  replace hO := hO.on bb bb.size
  replace hL := hL.on bb bb.size
  have B25 := B24.trans (bb.mono B24.size)
  clear bb B24
  obtain rfl := hr.same (sameT_yes rfl)
  clear hr
  go_upto_region 15 with fail
  clear p1 p3 hleno7 own7 own8 bc bd
  clear nebzbc nebobc nebsbc nebabc nebb4bc nebzbd nebobd nebsbd nebabd nebb4bd nebcbd
  obtain ⟨k0, k1, k2, k3, k4, k5, k6, k7⟩ := bz.cells
  go_wp2_with fail
  clear k0 k1 k2 k3 k4 k5 k6 k7
  clear own5 hleno5
  refine Calls.mono (show Calls Try.prog 19 #[.agg #[.int .i64 t.sn.ix, .int .i64 t.sn.tm, .int .i64 t.sn.sm, .int .i64 t.sn.lv, .bool t.sn.fn, .slice A n c, .int .i64 t.tm, .int .i64 t.vt], .int .i64 a, .int .i64 b] w25 (OutF (HardIs t a b) w25.heap.size w25) from D.hard t A n c a b w25 hS (by omega) hnc HM.out.1) ?_
  intro e w26 hh
  obtain ⟨⟨o9, e9, A9, n9, c9, rfl, hR9, hnc9, own9⟩, bb⟩ := hh
  (try clear hh)
  replace own6 := keepF own6 bb
  replace bz := bz.below bb
  replace bo := bo.below bb
  replace bs := bs.below bb
  replace ba := ba.below bb
  replace bb4 := bb4.below bb
  replace hS := hS.on bb bb.size
  replace hO := hO.on bb bb.size
  replace hL := hL.on bb bb.size
  have B26 := B25.trans (bb.mono B25.size)
  clear bb B25
  unfold tupV
  obtain ⟨g0, g1, g2, g3, g4, g5, g6, g7⟩ := ba.cells
  have f0 := ba.frozen 0
  have f1 := ba.frozen 1
  have f2 := ba.frozen 2
  have f3 := ba.frozen 3
  have f4 := ba.frozen 4
  have f5 := ba.frozen 5
  have f6 := ba.frozen 6
  have f7 := ba.frozen 7
  go_upto_region 16 with fail
  clear g0 g1 g2 g3 g4 g5 g6 g7 f0 f1 f2 f3 f4 f5 f6 f7
  obtain ⟨w27, hw27⟩ : ∃ x, x = putU w26 z7 o9 (.slice A9 n9 c9) := ⟨_, rfl⟩
  have e9 : w27 = ((((((((w26.setCell ⟨z7, 0, none⟩ (.int .i64 o9.sn.ix)).setCell ⟨z7, 1, none⟩ (.int .i64 o9.sn.tm)).setCell ⟨z7, 2, none⟩ (.int .i64 o9.sn.sm)).setCell ⟨z7, 3, none⟩ (.int .i64 o9.sn.lv)).setCell ⟨z7, 4, none⟩ (.bool o9.sn.fn)).setCell ⟨z7, 5, none⟩ (.slice A9 n9 c9)).setCell ⟨z7, 6, none⟩ (.int .i64 o9.tm)).setCell ⟨z7, 7, none⟩ (.int .i64 o9.vt)) := hw27
  rw [← e9]
  clear e9
  have B27 : Below w.heap.size w w27 := by rw [hw27]; exact putU_below lzba.out _ _ B26
  have bz9 : BoxU w27 z1 t (.slice A n c) := by rw [hw27]; exact putU_boxes bz nebzba
  have bo9 : BoxU w27 z2 o (.slice A' n' c') := by rw [hw27]; exact putU_boxes bo neboba
  have bs9 : BoxS w27 z3 s := by rw [hw27]; exact (putU_other _ _ nebsba).trans bs
  have bb49 : BoxU w27 z9 o5 (.slice A6 n6 c6) := by rw [hw27]; exact putU_boxes bb4 nebabb4.symm
  have ba9 : BoxU w27 z7 o9 (.slice A9 n9 c9) := by rw [hw27]; exact putU_box ba _ _
  have own69 := putU_ownF (m := o9) (x := .slice A9 n9 c9) ba own6
  rw [← hw27] at own69
  have own99 := putU_ownF (m := o9) (x := .slice A9 n9 c9) ba own9
  rw [← hw27] at own99
  clear bz bo bs ba bb4 own6 own9 hS hO hL B26 hw27
  have bz := bz9
  clear bz9
  have bo := bo9
  clear bo9
  have bs := bs9
  clear bs9
  have ba := ba9
  clear ba9
  have bb4 := bb49
  clear bb49
  have own6 := own69
  clear own69
  have own9 := own99
  clear own99
  have hS := Row.on HS0.out.1 B27 B27.size
  have hO := Row.on HS0.out.2.1 B27 B27.size
  have hL := Row.on HS0.out.2.2 B27 B27.size
  have hS : Es w27 w27.heap.size A n t.lg := hS
  have hO : Es w27 w27.heap.size A' n' o.lg := hO
  have hL : Es w27 w27.heap.size Al m l := hL
  obtain ⟨k0, k1, k2, k3, k4, k5, k6, k7⟩ := bz.cells
  go_wp2_with fail
  clear k0 k1 k2 k3 k4 k5 k6 k7
  clear own6
  refine Calls.mono (show Calls Try.prog 20 #[.agg #[.int .i64 t.sn.ix, .int .i64 t.sn.tm, .int .i64 t.sn.sm, .int .i64 t.sn.lv, .bool t.sn.fn, .slice A n c, .int .i64 t.tm, .int .i64 t.vt], .int .i64 a, .int .i64 b] w27 (OutF (HardIs t a b) w27.heap.size w27) from rhardF_any t A n c a b w27 hS (by omega)) ?_
  intro e w28 hh
  obtain ⟨⟨o10, e10, A10, n10, c10, rfl, hR10, hnc10, own10⟩, bb⟩ := hh
  (try clear hh)
  replace own9 := keepF own9 bb
  replace bz := bz.below bb
  replace bo := bo.below bb
  replace bs := bs.below bb
  replace ba := ba.below bb
  replace bb4 := bb4.below bb
  replace hS := hS.on bb bb.size
  replace hO := hO.on bb bb.size
  replace hL := hL.on bb bb.size
  have B28 := B27.trans (bb.mono B27.size)
  clear bb B27
  unfold tupV
  have hlen : o9.lg.length ≤ 1000000 := by have h1 := hS.len; rcases hR9 with ⟨_, _, _, h, _⟩ | ⟨_, h, _⟩ <;> rw [h] <;> (try simp only [hardT]) <;> omega
  obtain ⟨ho, he⟩ := ToldIs.same hR9 hR10
  subst ho
  subst he
  clear hR9 hR10
  have hleno9 := hlen
  clear hlen
  obtain ⟨g0, g1, g2, g3, g4, g5, g6, g7⟩ := bb4.cells
  have f0 := bb4.frozen 0
  have f1 := bb4.frozen 1
  have f2 := bb4.frozen 2
  have f3 := bb4.frozen 3
  have f4 := bb4.frozen 4
  have f5 := bb4.frozen 5
  have f6 := bb4.frozen 6
  have f7 := bb4.frozen 7
  go_upto_region 17 with fail
  clear g0 g1 g2 g3 g4 g5 g6 g7 f0 f1 f2 f3 f4 f5 f6 f7
  obtain ⟨w29, hw29⟩ : ∃ x, x = putU w28 z9 o9 (.slice A10 n10 c10) := ⟨_, rfl⟩
  have e9 : w29 = ((((((((w28.setCell ⟨z9, 0, none⟩ (.int .i64 o9.sn.ix)).setCell ⟨z9, 1, none⟩ (.int .i64 o9.sn.tm)).setCell ⟨z9, 2, none⟩ (.int .i64 o9.sn.sm)).setCell ⟨z9, 3, none⟩ (.int .i64 o9.sn.lv)).setCell ⟨z9, 4, none⟩ (.bool o9.sn.fn)).setCell ⟨z9, 5, none⟩ (.slice A10 n10 c10)).setCell ⟨z9, 6, none⟩ (.int .i64 o9.tm)).setCell ⟨z9, 7, none⟩ (.int .i64 o9.vt)) := hw29
  rw [← e9]
  clear e9
  have B29 : Below w.heap.size w w29 := by rw [hw29]; exact putU_below lzbb4.out _ _ B28
  have bz9 : BoxU w29 z1 t (.slice A n c) := by rw [hw29]; exact putU_boxes bz nebzbb4
  have bo9 : BoxU w29 z2 o (.slice A' n' c') := by rw [hw29]; exact putU_boxes bo nebobb4
  have bs9 : BoxS w29 z3 s := by rw [hw29]; exact (putU_other _ _ nebsbb4).trans bs
  have ba9 : BoxU w29 z7 o9 (.slice A9 n9 c9) := by rw [hw29]; exact putU_boxes ba nebabb4
  have bb49 : BoxU w29 z9 o9 (.slice A10 n10 c10) := by rw [hw29]; exact putU_box bb4 _ _
  have own99 := putU_ownF (m := o9) (x := .slice A10 n10 c10) bb4 own9
  rw [← hw29] at own99
  have own109 := putU_ownF (m := o9) (x := .slice A10 n10 c10) bb4 own10
  rw [← hw29] at own109
  clear bz bo bs ba bb4 own9 own10 hS hO hL B28 hw29
  have bz := bz9
  clear bz9
  have bo := bo9
  clear bo9
  have bs := bs9
  clear bs9
  have ba := ba9
  clear ba9
  have bb4 := bb49
  clear bb49
  have own9 := own99
  clear own99
  have own10 := own109
  clear own109
  have hS := Row.on HS0.out.1 B29 B29.size
  have hO := Row.on HS0.out.2.1 B29 B29.size
  have hL := Row.on HS0.out.2.2 B29 B29.size
  have hS : Es w29 w29.heap.size A n t.lg := hS
  have hO : Es w29 w29.heap.size A' n' o.lg := hO
  have hL : Es w29 w29.heap.size Al m l := hL
  obtain ⟨tx, tok, htv⟩ := termV_is t i
  obtain ⟨ey, eok, hav⟩ := atV_is t i
  obtain ⟨sy, sok, hsv⟩ := stateV_is t i
  have HV := Lib.hid (⟨htv, hav, hsv⟩ : _ ∧ _ ∧ _)
  clear htv hav hsv
  obtain ⟨k0, k1, k2, k3, k4, k5, k6, k7⟩ := bz.cells
  go_wp2_with fail
  clear k0 k1 k2 k3 k4 k5 k6 k7
  refine Calls.mono (show Calls Try.prog 21 #[.agg #[.int .i64 t.sn.ix, .int .i64 t.sn.tm, .int .i64 t.sn.sm, .int .i64 t.sn.lv, .bool t.sn.fn, .slice A n c, .int .i64 t.tm, .int .i64 t.vt], .int .i64 i] w29 (fun e w' => e = .returned (.tuple #[.int .i64 tx, .bool tok]) ∧ Below w29.heap.size w29 w') from by rw [← HV.out.1]; exact D.termAt t A n c i w29 hS (by omega) HM.out.1 (Mid.i64 HM.out.2.1)) ?_
  intro e w30 hh
  obtain ⟨rfl, bb⟩ := hh
  (try clear hh)
  replace own9 := keepF own9 bb
  replace own10 := keepF own10 bb
  replace bz := bz.below bb
  replace bo := bo.below bb
  replace bs := bs.below bb
  replace ba := ba.below bb
  replace bb4 := bb4.below bb
  replace hS := hS.on bb bb.size
  replace hO := hO.on bb bb.size
  replace hL := hL.on bb bb.size
  have B30 := B29.trans (bb.mono B29.size)
  clear bb B29
  obtain ⟨k0, k1, k2, k3, k4, k5, k6, k7⟩ := bz.cells
  go_wp2_with fail
  clear k0 k1 k2 k3 k4 k5 k6 k7
  refine Calls.mono (show Calls Try.prog 22 #[.agg #[.int .i64 t.sn.ix, .int .i64 t.sn.tm, .int .i64 t.sn.sm, .int .i64 t.sn.lv, .bool t.sn.fn, .slice A n c, .int .i64 t.tm, .int .i64 t.vt], .int .i64 i] w30 (fun e w' => e = .returned (.tuple #[.int .i64 tx, .bool tok]) ∧ Below w30.heap.size w30 w') from by rw [← HV.out.1]; exact rtermAtT_any t A n c i w30 hS (by omega) HM.out.1 HM.out.2.1) ?_
  intro e w31 hh
  obtain ⟨rfl, bb⟩ := hh
  (try clear hh)
  replace own9 := keepF own9 bb
  replace own10 := keepF own10 bb
  replace bz := bz.below bb
  replace bo := bo.below bb
  replace bs := bs.below bb
  replace ba := ba.below bb
  replace bb4 := bb4.below bb
  replace hS := hS.on bb bb.size
  replace hO := hO.on bb bb.size
  replace hL := hL.on bb bb.size
  have B31 := B30.trans (bb.mono B30.size)
  clear bb B30
  obtain ⟨k0, k1, k2, k3, k4, k5, k6, k7⟩ := bz.cells
  go_wp2_with fail
  clear k0 k1 k2 k3 k4 k5 k6 k7
  refine Calls.mono (show Calls Try.prog 23 #[.agg #[.int .i64 t.sn.ix, .int .i64 t.sn.tm, .int .i64 t.sn.sm, .int .i64 t.sn.lv, .bool t.sn.fn, .slice A n c, .int .i64 t.tm, .int .i64 t.vt], .int .i64 i] w31 (fun e w' => e = .returned (.tuple #[.agg #[.int .i64 ey.tm, .int .i64 ey.kd, .int .i64 ey.vl], .bool eok]) ∧ Below w31.heap.size w31 w') from by rw [← HV.out.2.1]; exact D.at_ t A n c i w31 hS (by omega) HM.out.1 (Mid.i64 HM.out.2.1)) ?_
  intro e w32 hh
  obtain ⟨rfl, bb⟩ := hh
  (try clear hh)
  replace own9 := keepF own9 bb
  replace own10 := keepF own10 bb
  replace bz := bz.below bb
  replace bo := bo.below bb
  replace bs := bs.below bb
  replace ba := ba.below bb
  replace bb4 := bb4.below bb
  replace hS := hS.on bb bb.size
  replace hO := hO.on bb bb.size
  replace hL := hL.on bb bb.size
  have B32 := B31.trans (bb.mono B31.size)
  clear bb B31
  obtain ⟨z33, hz33⟩ : ∃ z, z = w32.heap.size := ⟨_, rfl⟩
  obtain ⟨w33, hw33⟩ : ∃ x, x = w32.alloc (.cells #[.int .i64 ey.tm, .int .i64 ey.kd, .int .i64 ey.vl] 39) := ⟨_, rfl⟩
  have bb : Below w32.heap.size w32 w33 := by rw [hw33]; exact below_al (below_d0 _) _
  have be1 : BoxE w33 z33 ey := by rw [hw33, hz33]; exact BoxE.new w32 ey
  replace own9 := keepF own9 bb
  replace own10 := keepF own10 bb
  replace bz := bz.below bb
  replace bo := bo.below bb
  replace bs := bs.below bb
  replace ba := ba.below bb
  replace bb4 := bb4.below bb
  replace hS := hS.on bb bb.size
  replace hO := hO.on bb bb.size
  replace hL := hL.on bb bb.size
  have B33 := B32.trans (bb.mono B32.size)
  clear bb B32
  have HE33 := Lib.hid (⟨hw33, hz33⟩ : _ ∧ _)
  clear hw33 hz33
  go_upto_region 20 with fail
  rw [← HE33.out.1, ← HE33.out.2]
  clear HE33
  obtain ⟨k0, k1, k2, k3, k4, k5, k6, k7⟩ := bz.cells
  go_wp2_with fail
  clear k0 k1 k2 k3 k4 k5 k6 k7
  refine Calls.mono (show Calls Try.prog 24 #[.agg #[.int .i64 t.sn.ix, .int .i64 t.sn.tm, .int .i64 t.sn.sm, .int .i64 t.sn.lv, .bool t.sn.fn, .slice A n c, .int .i64 t.tm, .int .i64 t.vt], .int .i64 i] w33 (fun e w' => e = .returned (.tuple #[.agg #[.int .i64 ey.tm, .int .i64 ey.kd, .int .i64 ey.vl], .bool eok]) ∧ Below w33.heap.size w33 w') from by rw [← HV.out.2.1]; exact ratT_any t A n c i w33 hS (by omega) HM.out.1 HM.out.2.1) ?_
  intro e w34 hh
  obtain ⟨rfl, bb⟩ := hh
  (try clear hh)
  replace own9 := keepF own9 bb
  replace own10 := keepF own10 bb
  replace bz := bz.below bb
  replace bo := bo.below bb
  replace bs := bs.below bb
  replace ba := ba.below bb
  replace bb4 := bb4.below bb
  replace be1 := be1.below bb
  replace hS := hS.on bb bb.size
  replace hO := hO.on bb bb.size
  replace hL := hL.on bb bb.size
  have B34 := B33.trans (bb.mono B33.size)
  clear bb B33
  obtain ⟨z35, hz35⟩ : ∃ z, z = w34.heap.size := ⟨_, rfl⟩
  obtain ⟨w35, hw35⟩ : ∃ x, x = w34.alloc (.cells #[.int .i64 ey.tm, .int .i64 ey.kd, .int .i64 ey.vl] 39) := ⟨_, rfl⟩
  have bb : Below w34.heap.size w34 w35 := by rw [hw35]; exact below_al (below_d0 _) _
  have be2 : BoxE w35 z35 ey := by rw [hw35, hz35]; exact BoxE.new w34 ey
  replace own9 := keepF own9 bb
  replace own10 := keepF own10 bb
  replace bz := bz.below bb
  replace bo := bo.below bb
  replace bs := bs.below bb
  replace ba := ba.below bb
  replace bb4 := bb4.below bb
  replace be1 := be1.below bb
  replace hS := hS.on bb bb.size
  replace hO := hO.on bb bb.size
  replace hL := hL.on bb bb.size
  have B35 := B34.trans (bb.mono B34.size)
  clear bb B34
  have HE35 := Lib.hid (⟨hw35, hz35⟩ : _ ∧ _)
  clear hw35 hz35
  go_upto_region 21 with fail
  rw [← HE35.out.1, ← HE35.out.2]
  clear HE35
  obtain ⟨k0, k1, k2, k3, k4, k5, k6, k7⟩ := bz.cells
  go_wp2_with fail
  clear k0 k1 k2 k3 k4 k5 k6 k7
  refine Calls.mono (show Calls Try.prog 25 #[.agg #[.int .i64 t.sn.ix, .int .i64 t.sn.tm, .int .i64 t.sn.sm, .int .i64 t.sn.lv, .bool t.sn.fn, .slice A n c, .int .i64 t.tm, .int .i64 t.vt], .int .i64 i] w35 (fun e w' => e = .returned (.tuple #[.agg #[.int .i64 sy.ix, .int .i64 sy.tm, .int .i64 sy.sm, .int .i64 sy.lv, .bool sy.fn], .bool sok]) ∧ Below w35.heap.size w35 w') from by rw [← HV.out.2.2]; exact D.state t A n c i w35 hS (by omega) hnc HM.out.1 (Mid.i64 HM.out.2.1)) ?_
  intro e w36 hh
  obtain ⟨rfl, bb⟩ := hh
  (try clear hh)
  replace own9 := keepF own9 bb
  replace own10 := keepF own10 bb
  replace bz := bz.below bb
  replace bo := bo.below bb
  replace bs := bs.below bb
  replace ba := ba.below bb
  replace bb4 := bb4.below bb
  replace be1 := be1.below bb
  replace be2 := be2.below bb
  replace hS := hS.on bb bb.size
  replace hO := hO.on bb bb.size
  replace hL := hL.on bb bb.size
  have B36 := B35.trans (bb.mono B35.size)
  clear bb B35
  obtain ⟨z37, hz37⟩ : ∃ z, z = w36.heap.size := ⟨_, rfl⟩
  obtain ⟨w37, hw37⟩ : ∃ x, x = w36.alloc (.cells #[.int .i64 sy.ix, .int .i64 sy.tm, .int .i64 sy.sm, .int .i64 sy.lv, .bool sy.fn] 23) := ⟨_, rfl⟩
  have bb : Below w36.heap.size w36 w37 := by rw [hw37]; exact below_al (below_d0 _) _
  have bs1 : BoxS w37 z37 sy := by rw [hw37, hz37]; exact BoxS.new w36 sy
  replace own9 := keepF own9 bb
  replace own10 := keepF own10 bb
  replace bz := bz.below bb
  replace bo := bo.below bb
  replace bs := bs.below bb
  replace ba := ba.below bb
  replace bb4 := bb4.below bb
  replace be1 := be1.below bb
  replace be2 := be2.below bb
  replace hS := hS.on bb bb.size
  replace hO := hO.on bb bb.size
  replace hL := hL.on bb bb.size
  have B37 := B36.trans (bb.mono B36.size)
  clear bb B36
  have HE37 := Lib.hid (⟨hw37, hz37⟩ : _ ∧ _)
  clear hw37 hz37
  go_upto_region 22 with fail
  rw [← HE37.out.1, ← HE37.out.2]
  clear HE37
  obtain ⟨k0, k1, k2, k3, k4, k5, k6, k7⟩ := bz.cells
  go_wp2_with fail
  clear k0 k1 k2 k3 k4 k5 k6 k7
  refine Calls.mono (show Calls Try.prog 26 #[.agg #[.int .i64 t.sn.ix, .int .i64 t.sn.tm, .int .i64 t.sn.sm, .int .i64 t.sn.lv, .bool t.sn.fn, .slice A n c, .int .i64 t.tm, .int .i64 t.vt], .int .i64 i] w37 (fun e w' => e = .returned (.tuple #[.agg #[.int .i64 sy.ix, .int .i64 sy.tm, .int .i64 sy.sm, .int .i64 sy.lv, .bool sy.fn], .bool sok]) ∧ Below w37.heap.size w37 w') from by rw [← HV.out.2.2]; exact rstateT_any t A n c i w37 hS (by omega) hnc HM.out.1 HM.out.2.1) ?_
  intro e w38 hh
  obtain ⟨rfl, bb⟩ := hh
  (try clear hh)
  replace own9 := keepF own9 bb
  replace own10 := keepF own10 bb
  replace bz := bz.below bb
  replace bo := bo.below bb
  replace bs := bs.below bb
  replace ba := ba.below bb
  replace bb4 := bb4.below bb
  replace be1 := be1.below bb
  replace be2 := be2.below bb
  replace bs1 := bs1.below bb
  replace hS := hS.on bb bb.size
  replace hO := hO.on bb bb.size
  replace hL := hL.on bb bb.size
  have B38 := B37.trans (bb.mono B37.size)
  clear bb B37
  obtain ⟨z39, hz39⟩ : ∃ z, z = w38.heap.size := ⟨_, rfl⟩
  obtain ⟨w39, hw39⟩ : ∃ x, x = w38.alloc (.cells #[.int .i64 sy.ix, .int .i64 sy.tm, .int .i64 sy.sm, .int .i64 sy.lv, .bool sy.fn] 23) := ⟨_, rfl⟩
  have bb : Below w38.heap.size w38 w39 := by rw [hw39]; exact below_al (below_d0 _) _
  have bs2 : BoxS w39 z39 sy := by rw [hw39, hz39]; exact BoxS.new w38 sy
  replace own9 := keepF own9 bb
  replace own10 := keepF own10 bb
  replace bz := bz.below bb
  replace bo := bo.below bb
  replace bs := bs.below bb
  replace ba := ba.below bb
  replace bb4 := bb4.below bb
  replace be1 := be1.below bb
  replace be2 := be2.below bb
  replace bs1 := bs1.below bb
  replace hS := hS.on bb bb.size
  replace hO := hO.on bb bb.size
  replace hL := hL.on bb bb.size
  have B39 := B38.trans (bb.mono B38.size)
  clear bb B38
  have HE39 := Lib.hid (⟨hw39, hz39⟩ : _ ∧ _)
  clear hw39 hz39
  go_upto_region 23 with fail
  rw [← HE39.out.1, ← HE39.out.2]
  clear HE39
  have p1 : (e9 != e9) = false := by simp
  have p2 : (tx != tx) = false := by simp
  have p3 : (tok != tok) = false := by simp
  have p4 : (eok != eok) = false := by simp
  have p5 : (sok != sok) = false := by simp
  have p6 : ∀ W : World, (binOp .neq 39 (.agg #[.int .i64 ey.tm, .int .i64 ey.kd, .int .i64 ey.vl]) (.agg #[.int .i64 ey.tm, .int .i64 ey.kd, .int .i64 ey.vl])).run Try.prog W = .ok (.bool false) W := fun W => neq_sameE ey W
  have p7 : ∀ W : World, (binOp .neq 23 (.agg #[.int .i64 sy.ix, .int .i64 sy.tm, .int .i64 sy.sm, .int .i64 sy.lv, .bool sy.fn]) (.agg #[.int .i64 sy.ix, .int .i64 sy.tm, .int .i64 sy.sm, .int .i64 sy.lv, .bool sy.fn])).run Try.prog W = .ok (.bool false) W := fun W => neq_same sy W
  obtain ⟨k0, k1, k2, k3, k4, k5, k6, k7⟩ := ba.cells
  obtain ⟨j0, j1, j2, j3, j4, j5, j6, j7⟩ := bb4.cells
  obtain ⟨x0, x1, x2⟩ := be1.cells
  obtain ⟨y0, y1, y2⟩ := be2.cells
  obtain ⟨u0, u1, u2, u3, u4⟩ := bs1.cells
  obtain ⟨v0, v1, v2, v3, v4⟩ := bs2.cells
  go_wp2_with fail
  clear k0 k1 k2 k3 k4 k5 k6 k7
  clear j0 j1 j2 j3 j4 j5 j6 j7
  clear x0 x1 x2 y0 y1 y2 u0 u1 u2 u3 u4 v0 v1 v2 v3 v4
  refine Calls.mono (show Calls Try.prog 14 #[.agg #[.int .i64 o9.sn.ix, .int .i64 o9.sn.tm, .int .i64 o9.sn.sm, .int .i64 o9.sn.lv, .bool o9.sn.fn, .slice A9 n9 c9, .int .i64 o9.tm, .int .i64 o9.vt], .agg #[.int .i64 o9.sn.ix, .int .i64 o9.sn.tm, .int .i64 o9.sn.sm, .int .i64 o9.sn.lv, .bool o9.sn.fn, .slice A10 n10 c10, .int .i64 o9.tm, .int .i64 o9.vt]] w39 (fun e w' => (∃ r, SameT o9 o9 r ∧ e = .returned (.bool r)) ∧ Below w39.heap.size w39 w') from rsameT_any o9 o9 A9 A10 n9 n10 c9 c10 w39 (OwnF.es own9) (OwnF.es own10) (by rw [← lenF own9]; exact hleno9) (by rw [← lenF own10]; exact hleno9)) ?_
  intro e w40 hh
  obtain ⟨⟨r, hr, rfl⟩, bb⟩ := hh
  (try clear hh)
  replace own9 := keepF own9 bb
  replace own10 := keepF own10 bb
  replace bz := bz.below bb
  replace bo := bo.below bb
  replace bs := bs.below bb
  replace ba := ba.below bb
  replace bb4 := bb4.below bb
  replace be1 := be1.below bb
  replace be2 := be2.below bb
  replace bs1 := bs1.below bb
  replace bs2 := bs2.below bb
  replace hS := hS.on bb bb.size
  replace hO := hO.on bb bb.size
  replace hL := hL.on bb bb.size
  have B40 := B39.trans (bb.mono B39.size)
  clear bb B39
  obtain rfl := hr.same (sameT_yes rfl)
  clear hr
  obtain ⟨k0, k1, k2, k3, k4, k5, k6, k7⟩ := ba.cells
  obtain ⟨j0, j1, j2, j3, j4, j5, j6, j7⟩ := bb4.cells
  obtain ⟨x0, x1, x2⟩ := be1.cells
  obtain ⟨y0, y1, y2⟩ := be2.cells
  obtain ⟨u0, u1, u2, u3, u4⟩ := bs1.cells
  obtain ⟨v0, v1, v2, v3, v4⟩ := bs2.cells
  go_wp2_with fail
  clear k0 k1 k2 k3 k4 k5 k6 k7
  clear j0 j1 j2 j3 j4 j5 j6 j7
  clear x0 x1 x2 y0 y1 y2 u0 u1 u2 u3 u4 v0 v1 v2 v3 v4
  clear p1 p2 p3 p4 p5 p6 p7 ba bb4 be1 be2 bs1 bs2 own9 own10 hleno9
  obtain ⟨mb, hmb⟩ : ∃ b, MayIs t b := ⟨decide (MayT t), by simp [MayIs]⟩
  obtain ⟨sb, hsb⟩ : ∃ b, SameT t o b := ⟨decide (t = o), by simp [SameT]⟩
  obtain ⟨LL, hLL⟩ : ∃ x, x = lastT t := ⟨_, rfl⟩
  have HH := Lib.hid (⟨hmb, hsb, hLL⟩ : _ ∧ _ ∧ _)
  clear hmb hsb hLL
  have p1 : (mb == mb) = true := by simp
  have p2 : (sb == sb) = true := by simp
  have p3 : (LL == LL) = true := by simp
  have HZ := Lib.hid (fun (Y : World) (hY : Below w40.heap.size w40 Y) => (⟨(bz.below hY).cells, (bo.below hY).cells⟩ : _ ∧ _))
  have kD : Below w40.heap.size w40 w40.drew := (Below.refl _ _).drew
  refine wp_region_held_drew (S := (fun Y => Below w40.heap.size w40 Y)) (by kernel_rfl) kD (fun hHeld => ?_)
  refine take_at (i := 0) (d := 254) (oi := ?o1) (v := ?v1) ?hi1 ?hd1 (by kernel_rfl) (by kernel_rfl) (by kernel_rfl) ?hw1 ?hy1 ?hq1 (by assumption) ?r1
  case hi1 => (simp only [List.getElem?_toArray, List.getElem?_cons_zero]; rfl)
  case hd1 => rfl
  case hw1 => rfl
  case hy1 => ((intro w hSw; (try dsimp only at hSw); obtain ⟨⟨s0, s1, s2, s3, s4, s5, s6, s7⟩, ⟨o0, o1, o2, o3, o4, o5, o6, o7⟩⟩ := HZ.out w hSw; go_simp) <;> (with_reducible rfl))
  case hq1 => exact fun _ _ _ h => h
  simp only [List.set_cons_succ, List.set_cons_zero]
  refine take_at (i := 2) (d := 256) (oi := ?o2) (v := ?v2) ?hi2 ?hd2 (by kernel_rfl) (by kernel_rfl) (by kernel_rfl) ?hw2 ?hy2 ?hq2 (by assumption) ?r2
  case hi2 => (simp only [List.getElem?_toArray, List.getElem?_cons_succ, List.getElem?_cons_zero]; rfl)
  case hd2 => rfl
  case hw2 => rfl
  case hy2 => ((intro w hSw; (try dsimp only at hSw); obtain ⟨⟨s0, s1, s2, s3, s4, s5, s6, s7⟩, ⟨o0, o1, o2, o3, o4, o5, o6, o7⟩⟩ := HZ.out w hSw; go_simp) <;> (with_reducible rfl))
  case hq2 => exact fun _ _ _ h => h
  simp only [List.set_cons_succ, List.set_cons_zero]
  refine call_at (i := 1) (d := 255) (oi := ?o3) (f := ?f3) (args := ?a3) ?hi3 ?hd3 (by kernel_rfl) ?hw3 ?he3 ?hc3
  case hi3 => (simp only [List.getElem?_toArray, List.getElem?_cons_succ, List.getElem?_cons_zero]; rfl)
  case hd3 => rfl
  case hw3 => rfl
  case he3 => (go_simp; constructor <;> with_reducible rfl)
  refine Calls.mono (show Calls Try.prog 27 #[.agg #[.int .i64 t.sn.ix, .int .i64 t.sn.tm, .int .i64 t.sn.sm, .int .i64 t.sn.lv, .bool t.sn.fn, .slice A n c, .int .i64 t.tm, .int .i64 t.vt]] w40.drew (fun e w' => (∃ b, MayIs t b ∧ e = .returned (.bool b)) ∧ Below w40.drew.heap.size w40.drew w') from D.right t A n c w40.drew (hS.on kD kD.size) (by omega) HM.out.1) ?_
  rintro e x1a ⟨⟨b1, hb1, rfl⟩, bA⟩
  obtain rfl := hb1.same HH.out.1
  have k1a := below_on kD bA
  refine ⟨_, rfl, k1a, fun hHeld => ?_⟩
  simp only [List.set_cons_succ, List.set_cons_zero]
  clear bA
  refine call_at (i := 3) (d := 257) (oi := ?o4) (f := ?f4) (args := ?a4) ?hi4 ?hd4 (by kernel_rfl) ?hw4 ?he4 ?hc4
  case hi4 => (simp only [List.getElem?_toArray, List.getElem?_cons_succ, List.getElem?_cons_zero]; rfl)
  case hd4 => rfl
  case hw4 => rfl
  case he4 => (go_simp; constructor <;> with_reducible rfl)
  refine Calls.mono (show Calls Try.prog 28 #[.agg #[.int .i64 t.sn.ix, .int .i64 t.sn.tm, .int .i64 t.sn.sm, .int .i64 t.sn.lv, .bool t.sn.fn, .slice A n c, .int .i64 t.tm, .int .i64 t.vt]] x1a (fun e w' => (∃ b, MayIs t b ∧ e = .returned (.bool b)) ∧ Below x1a.heap.size x1a w') from rrightT_any t A n c x1a (hS.on k1a k1a.size)) ?_
  rintro e x2a ⟨⟨b2, hb2, rfl⟩, bA⟩
  obtain rfl := hb2.same hb1
  have k2a := below_on k1a bA
  refine ⟨_, rfl, k2a, fun hHeld => ?_⟩
  simp only [List.set_cons_succ, List.set_cons_zero]
  clear bA
  refine take_at (i := 4) (d := 258) (oi := ?o5) (v := ?v5) ?hi5 ?hd5 (by kernel_rfl) (by kernel_rfl) (by kernel_rfl) ?hw5 ?hy5 ?hq5 (by assumption) ?r5
  case hi5 => (simp only [List.getElem?_toArray, List.getElem?_cons_succ, List.getElem?_cons_zero]; rfl)
  case hd5 => rfl
  case hw5 => rfl
  case hy5 => ((intro w hSw; (try dsimp only at hSw); obtain ⟨⟨s0, s1, s2, s3, s4, s5, s6, s7⟩, ⟨o0, o1, o2, o3, o4, o5, o6, o7⟩⟩ := HZ.out w hSw; go_simp) <;> (with_reducible rfl))
  case hq5 => exact fun _ _ _ h => h
  simp only [List.set_cons_succ, List.set_cons_zero]
  refine take_at (i := 5) (d := 259) (oi := ?o6) (v := ?v6) ?hi6 ?hd6 (by kernel_rfl) (by kernel_rfl) (by kernel_rfl) ?hw6 ?hy6 ?hq6 (by assumption) ?r6
  case hi6 => (simp only [List.getElem?_toArray, List.getElem?_cons_succ, List.getElem?_cons_zero]; rfl)
  case hd6 => rfl
  case hw6 => rfl
  case hy6 => ((intro w hSw; (try dsimp only at hSw); obtain ⟨⟨s0, s1, s2, s3, s4, s5, s6, s7⟩, ⟨o0, o1, o2, o3, o4, o5, o6, o7⟩⟩ := HZ.out w hSw; go_simp) <;> (with_reducible rfl))
  case hq6 => exact fun _ _ _ h => h
  simp only [List.set_cons_succ, List.set_cons_zero]
  refine take_at (i := 6) (d := 260) (oi := ?o7) (v := ?v7) ?hi7 ?hd7 (by kernel_rfl) (by kernel_rfl) (by kernel_rfl) ?hw7 ?hy7 ?hq7 (by assumption) ?r7
  case hi7 => (simp only [List.getElem?_toArray, List.getElem?_cons_succ, List.getElem?_cons_zero]; rfl)
  case hd7 => rfl
  case hw7 => rfl
  case hy7 => ((intro w hSw; (try dsimp only at hSw); obtain ⟨⟨s0, s1, s2, s3, s4, s5, s6, s7⟩, ⟨o0, o1, o2, o3, o4, o5, o6, o7⟩⟩ := HZ.out w hSw; go_simp) <;> (with_reducible rfl))
  case hq7 => exact fun _ _ _ h => h
  simp only [List.set_cons_succ, List.set_cons_zero]
  refine take_at (i := 8) (d := 262) (oi := ?o8) (v := ?v8) ?hi8 ?hd8 (by kernel_rfl) (by kernel_rfl) (by kernel_rfl) ?hw8 ?hy8 ?hq8 (by assumption) ?r8
  case hi8 => (simp only [List.getElem?_toArray, List.getElem?_cons_succ, List.getElem?_cons_zero]; rfl)
  case hd8 => rfl
  case hw8 => rfl
  case hy8 => ((intro w hSw; (try dsimp only at hSw); obtain ⟨⟨s0, s1, s2, s3, s4, s5, s6, s7⟩, ⟨o0, o1, o2, o3, o4, o5, o6, o7⟩⟩ := HZ.out w hSw; go_simp) <;> (with_reducible rfl))
  case hq8 => exact fun _ _ _ h => h
  simp only [List.set_cons_succ, List.set_cons_zero]
  refine call_at (i := 7) (d := 261) (oi := ?o9) (f := ?f9) (args := ?a9) ?hi9 ?hd9 (by kernel_rfl) ?hw9 ?he9 ?hc9
  case hi9 => (simp only [List.getElem?_toArray, List.getElem?_cons_succ, List.getElem?_cons_zero]; rfl)
  case hd9 => rfl
  case hw9 => rfl
  case he9 => (go_simp; constructor <;> with_reducible rfl)
  refine Calls.mono (show Calls Try.prog 29 #[.agg #[.int .i64 t.sn.ix, .int .i64 t.sn.tm, .int .i64 t.sn.sm, .int .i64 t.sn.lv, .bool t.sn.fn, .slice A n c, .int .i64 t.tm, .int .i64 t.vt]] x2a (fun e w' => e = .returned (.int .i64 LL) ∧ Below x2a.heap.size x2a w') from by rw [HH.out.2.2]; exact D.last t A n c x2a (hS.on k2a k2a.size) (by omega) HM.out.1) ?_
  rintro e x3a ⟨rfl, bA⟩
  have k3a := below_on k2a bA
  refine ⟨_, rfl, k3a, fun hHeld => ?_⟩
  simp only [List.set_cons_succ, List.set_cons_zero]
  clear bA
  refine call_at (i := 9) (d := 263) (oi := ?o10) (f := ?f10) (args := ?a10) ?hi10 ?hd10 (by kernel_rfl) ?hw10 ?he10 ?hc10
  case hi10 => (simp only [List.getElem?_toArray, List.getElem?_cons_succ, List.getElem?_cons_zero]; rfl)
  case hd10 => rfl
  case hw10 => rfl
  case he10 => (go_simp; constructor <;> with_reducible rfl)
  refine Calls.mono (show Calls Try.prog 30 #[.agg #[.int .i64 t.sn.ix, .int .i64 t.sn.tm, .int .i64 t.sn.sm, .int .i64 t.sn.lv, .bool t.sn.fn, .slice A n c, .int .i64 t.tm, .int .i64 t.vt]] x3a (fun e w' => e = .returned (.int .i64 LL) ∧ Below x3a.heap.size x3a w') from by rw [HH.out.2.2]; exact rlastT_any t A n c x3a (hS.on k3a k3a.size) (by omega) HM.out.1) ?_
  rintro e x4a ⟨rfl, bA⟩
  have k4a := below_on k3a bA
  refine ⟨_, rfl, k4a, fun hHeld => ?_⟩
  simp only [List.set_cons_succ, List.set_cons_zero]
  clear bA
  refine take_at (i := 10) (d := 264) (oi := ?o11) (v := ?v11) ?hi11 ?hd11 (by kernel_rfl) (by kernel_rfl) (by kernel_rfl) ?hw11 ?hy11 ?hq11 (by assumption) ?r11
  case hi11 => (simp only [List.getElem?_toArray, List.getElem?_cons_succ, List.getElem?_cons_zero]; rfl)
  case hd11 => rfl
  case hw11 => rfl
  case hy11 => ((intro w hSw; (try dsimp only at hSw); obtain ⟨⟨s0, s1, s2, s3, s4, s5, s6, s7⟩, ⟨o0, o1, o2, o3, o4, o5, o6, o7⟩⟩ := HZ.out w hSw; go_simp) <;> (with_reducible rfl))
  case hq11 => exact fun _ _ _ h => h
  simp only [List.set_cons_succ, List.set_cons_zero]
  refine take_at (i := 11) (d := 265) (oi := ?o12) (v := ?v12) ?hi12 ?hd12 (by kernel_rfl) (by kernel_rfl) (by kernel_rfl) ?hw12 ?hy12 ?hq12 (by assumption) ?r12
  case hi12 => (simp only [List.getElem?_toArray, List.getElem?_cons_succ, List.getElem?_cons_zero]; rfl)
  case hd12 => rfl
  case hw12 => rfl
  case hy12 => ((intro w hSw; (try dsimp only at hSw); obtain ⟨⟨s0, s1, s2, s3, s4, s5, s6, s7⟩, ⟨o0, o1, o2, o3, o4, o5, o6, o7⟩⟩ := HZ.out w hSw; go_simp) <;> (with_reducible rfl))
  case hq12 => exact fun _ _ _ h => h
  simp only [List.set_cons_succ, List.set_cons_zero]
  refine take_at (i := 12) (d := 266) (oi := ?o13) (v := ?v13) ?hi13 ?hd13 (by kernel_rfl) (by kernel_rfl) (by kernel_rfl) ?hw13 ?hy13 ?hq13 (by assumption) ?r13
  case hi13 => (simp only [List.getElem?_toArray, List.getElem?_cons_succ, List.getElem?_cons_zero]; rfl)
  case hd13 => rfl
  case hw13 => rfl
  case hy13 => ((intro w hSw; (try dsimp only at hSw); obtain ⟨⟨s0, s1, s2, s3, s4, s5, s6, s7⟩, ⟨o0, o1, o2, o3, o4, o5, o6, o7⟩⟩ := HZ.out w hSw; go_simp) <;> (with_reducible rfl))
  case hq13 => exact fun _ _ _ h => h
  simp only [List.set_cons_succ, List.set_cons_zero]
  refine call_at (i := 13) (d := 267) (oi := ?o14) (f := ?f14) (args := ?a14) ?hi14 ?hd14 (by kernel_rfl) ?hw14 ?he14 ?hc14
  case hi14 => (simp only [List.getElem?_toArray, List.getElem?_cons_succ, List.getElem?_cons_zero]; rfl)
  case hd14 => rfl
  case hw14 => rfl
  case he14 => (go_simp; constructor <;> with_reducible rfl)
  refine Calls.mono (show Calls Try.prog 31 #[] x4a (OutV firstT x4a) from D.first x4a) ?_
  rintro e x5a ⟨⟨A0, n0, c0, rfl, hc0, own0⟩, bA⟩
  unfold tupV firstT firstP
  have k5a := below_on k4a bA
  refine ⟨_, rfl, k5a, fun hHeld => ?_⟩
  simp only [List.set_cons_succ, List.set_cons_zero]
  clear bA
  refine call_at (i := 14) (d := 268) (oi := ?o15) (f := ?f15) (args := ?a15) ?hi15 ?hd15 (by kernel_rfl) ?hw15 ?he15 ?hc15
  case hi15 => (simp only [List.getElem?_toArray, List.getElem?_cons_succ, List.getElem?_cons_zero]; rfl)
  case hd15 => rfl
  case hw15 => rfl
  case he15 => (go_simp; constructor <;> with_reducible rfl)
  refine Calls.mono (show Calls Try.prog 32 #[] x5a (fun e w' => e = .returned (.agg #[.int .i64 0, .int .i64 0, .int .i64 0, .int .i64 1, .bool false, .slice none 0 0, .int .i64 0, .int .i64 0]) ∧ Below x5a.heap.size x5a w') from rfirstT_any x5a) ?_
  rintro e x6a ⟨rfl, bA⟩
  have k6a := below_on k5a bA
  refine ⟨_, rfl, k6a, fun hHeld => ?_⟩
  simp only [List.set_cons_succ, List.set_cons_zero]
  clear bA
  refine call_at (i := 15) (d := 269) (oi := ?o16) (f := ?f16) (args := ?a16) ?hi16 ?hd16 (by kernel_rfl) ?hw16 ?he16 ?hc16
  case hi16 => (simp only [List.getElem?_toArray, List.getElem?_cons_succ, List.getElem?_cons_zero]; rfl)
  case hd16 => rfl
  case hw16 => rfl
  case he16 => (go_simp; constructor <;> with_reducible rfl)
  refine Calls.mono (show Calls Try.prog 14 #[.agg #[.int .i64 0, .int .i64 0, .int .i64 0, .int .i64 1, .bool false, .slice A0 n0 c0, .int .i64 0, .int .i64 0], .agg #[.int .i64 0, .int .i64 0, .int .i64 0, .int .i64 1, .bool false, .slice none 0 0, .int .i64 0, .int .i64 0]] x6a (fun e w' => (∃ r, SameT firstT firstT r ∧ e = .returned (.bool r)) ∧ Below x6a.heap.size x6a w') from rsameT_any firstT firstT A0 none n0 0 c0 0 x6a (show Es x6a x6a.heap.size A0 n0 firstT.lg from by have h : n0 = 0 := (lenF own0).symm; subst h; exact Row.nil) Row.nil (by have h : n0 = 0 := (lenF own0).symm; omega) (by omega)) ?_
  rintro e x7a ⟨⟨r0, hr0, rfl⟩, bA⟩
  obtain rfl := hr0.same (sameT_yes rfl)
  have k7a := below_on k6a bA
  refine ⟨_, rfl, k7a, fun hHeld => ?_⟩
  simp only [List.set_cons_succ, List.set_cons_zero]
  clear bA
  refine take_at (i := 16) (d := 270) (oi := ?o17) (v := ?v17) ?hi17 ?hd17 (by kernel_rfl) (by kernel_rfl) (by kernel_rfl) ?hw17 ?hy17 ?hq17 (by assumption) ?r17
  case hi17 => (simp only [List.getElem?_toArray, List.getElem?_cons_succ, List.getElem?_cons_zero]; rfl)
  case hd17 => rfl
  case hw17 => rfl
  case hy17 => ((intro w hSw; (try dsimp only at hSw); obtain ⟨⟨s0, s1, s2, s3, s4, s5, s6, s7⟩, ⟨o0, o1, o2, o3, o4, o5, o6, o7⟩⟩ := HZ.out w hSw; go_simp) <;> (with_reducible rfl))
  case hq17 => exact fun _ _ _ h => h
  simp only [List.set_cons_succ, List.set_cons_zero]
  refine take_at (i := 17) (d := 271) (oi := ?o18) (v := ?v18) ?hi18 ?hd18 (by kernel_rfl) (by kernel_rfl) (by kernel_rfl) ?hw18 ?hy18 ?hq18 (by assumption) ?r18
  case hi18 => (simp only [List.getElem?_toArray, List.getElem?_cons_succ, List.getElem?_cons_zero]; rfl)
  case hd18 => rfl
  case hw18 => rfl
  case hy18 => ((intro w hSw; (try dsimp only at hSw); obtain ⟨⟨s0, s1, s2, s3, s4, s5, s6, s7⟩, ⟨o0, o1, o2, o3, o4, o5, o6, o7⟩⟩ := HZ.out w hSw; go_simp) <;> (with_reducible rfl))
  case hq18 => exact fun _ _ _ h => h
  simp only [List.set_cons_succ, List.set_cons_zero]
  refine take_at (i := 18) (d := 272) (oi := ?o19) (v := ?v19) ?hi19 ?hd19 (by kernel_rfl) (by kernel_rfl) (by kernel_rfl) ?hw19 ?hy19 ?hq19 (by assumption) ?r19
  case hi19 => (simp only [List.getElem?_toArray, List.getElem?_cons_succ, List.getElem?_cons_zero]; rfl)
  case hd19 => rfl
  case hw19 => rfl
  case hy19 => ((intro w hSw; (try dsimp only at hSw); obtain ⟨⟨s0, s1, s2, s3, s4, s5, s6, s7⟩, ⟨o0, o1, o2, o3, o4, o5, o6, o7⟩⟩ := HZ.out w hSw; go_simp) <;> (with_reducible rfl))
  case hq19 => exact fun _ _ _ h => h
  simp only [List.set_cons_succ, List.set_cons_zero]
  refine take_at (i := 19) (d := 273) (oi := ?o20) (v := ?v20) ?hi20 ?hd20 (by kernel_rfl) (by kernel_rfl) (by kernel_rfl) ?hw20 ?hy20 ?hq20 (by assumption) ?r20
  case hi20 => (simp only [List.getElem?_toArray, List.getElem?_cons_succ, List.getElem?_cons_zero]; rfl)
  case hd20 => rfl
  case hw20 => rfl
  case hy20 => ((intro w hSw; (try dsimp only at hSw); obtain ⟨⟨s0, s1, s2, s3, s4, s5, s6, s7⟩, ⟨o0, o1, o2, o3, o4, o5, o6, o7⟩⟩ := HZ.out w hSw; go_simp) <;> (with_reducible rfl))
  case hq20 => exact fun _ _ _ h => h
  simp only [List.set_cons_succ, List.set_cons_zero]
  refine take_at (i := 21) (d := 275) (oi := ?o21) (v := ?v21) ?hi21 ?hd21 (by kernel_rfl) (by kernel_rfl) (by kernel_rfl) ?hw21 ?hy21 ?hq21 (by assumption) ?r21
  case hi21 => (simp only [List.getElem?_toArray, List.getElem?_cons_succ, List.getElem?_cons_zero]; rfl)
  case hd21 => rfl
  case hw21 => rfl
  case hy21 => ((intro w hSw; (try dsimp only at hSw); obtain ⟨⟨s0, s1, s2, s3, s4, s5, s6, s7⟩, ⟨o0, o1, o2, o3, o4, o5, o6, o7⟩⟩ := HZ.out w hSw; go_simp) <;> (with_reducible rfl))
  case hq21 => exact fun _ _ _ h => h
  simp only [List.set_cons_succ, List.set_cons_zero]
  refine take_at (i := 22) (d := 276) (oi := ?o22) (v := ?v22) ?hi22 ?hd22 (by kernel_rfl) (by kernel_rfl) (by kernel_rfl) ?hw22 ?hy22 ?hq22 (by assumption) ?r22
  case hi22 => (simp only [List.getElem?_toArray, List.getElem?_cons_succ, List.getElem?_cons_zero]; rfl)
  case hd22 => rfl
  case hw22 => rfl
  case hy22 => ((intro w hSw; (try dsimp only at hSw); obtain ⟨⟨s0, s1, s2, s3, s4, s5, s6, s7⟩, ⟨o0, o1, o2, o3, o4, o5, o6, o7⟩⟩ := HZ.out w hSw; go_simp) <;> (with_reducible rfl))
  case hq22 => exact fun _ _ _ h => h
  simp only [List.set_cons_succ, List.set_cons_zero]
  refine call_at (i := 20) (d := 274) (oi := ?o23) (f := ?f23) (args := ?a23) ?hi23 ?hd23 (by kernel_rfl) ?hw23 ?he23 ?hc23
  case hi23 => (simp only [List.getElem?_toArray, List.getElem?_cons_succ, List.getElem?_cons_zero]; rfl)
  case hd23 => rfl
  case hw23 => rfl
  case he23 => (go_simp; constructor <;> with_reducible rfl)
  refine Calls.mono (show Calls Try.prog 33 #[.agg #[.int .i64 t.sn.ix, .int .i64 t.sn.tm, .int .i64 t.sn.sm, .int .i64 t.sn.lv, .bool t.sn.fn, .slice A n c, .int .i64 t.tm, .int .i64 t.vt], .agg #[.int .i64 o.sn.ix, .int .i64 o.sn.tm, .int .i64 o.sn.sm, .int .i64 o.sn.lv, .bool o.sn.fn, .slice A' n' c', .int .i64 o.tm, .int .i64 o.vt]] x7a (fun e w' => (∃ r, SameT t o r ∧ e = .returned (.bool r)) ∧ Below x7a.heap.size x7a w') from D.same t o A A' n n' c c' x7a (hS.on k7a k7a.size) (hO.on k7a k7a.size) (by omega) (by omega)) ?_
  rintro e x8a ⟨⟨r1, hr1, rfl⟩, bA⟩
  obtain rfl := hr1.same HH.out.2.1
  have k8a := below_on k7a bA
  refine ⟨_, rfl, k8a, fun hHeld => ?_⟩
  simp only [List.set_cons_succ, List.set_cons_zero]
  clear bA
  refine call_at (i := 23) (d := 277) (oi := ?o24) (f := ?f24) (args := ?a24) ?hi24 ?hd24 (by kernel_rfl) ?hw24 ?he24 ?hc24
  case hi24 => (simp only [List.getElem?_toArray, List.getElem?_cons_succ, List.getElem?_cons_zero]; rfl)
  case hd24 => rfl
  case hw24 => rfl
  case he24 => (go_simp; constructor <;> with_reducible rfl)
  refine Calls.mono (show Calls Try.prog 14 #[.agg #[.int .i64 t.sn.ix, .int .i64 t.sn.tm, .int .i64 t.sn.sm, .int .i64 t.sn.lv, .bool t.sn.fn, .slice A n c, .int .i64 t.tm, .int .i64 t.vt], .agg #[.int .i64 o.sn.ix, .int .i64 o.sn.tm, .int .i64 o.sn.sm, .int .i64 o.sn.lv, .bool o.sn.fn, .slice A' n' c', .int .i64 o.tm, .int .i64 o.vt]] x8a (fun e w' => (∃ r, SameT t o r ∧ e = .returned (.bool r)) ∧ Below x8a.heap.size x8a w') from rsameT_any t o A A' n n' c c' x8a (hS.on k8a k8a.size) (hO.on k8a k8a.size) (by omega) (by omega)) ?_
  rintro e x9a ⟨⟨r2, hr2, rfl⟩, bA⟩
  obtain rfl := hr2.same hr1
  have k9a := below_on k8a bA
  refine ⟨_, rfl, k9a, fun hHeld => ?_⟩
  simp only [List.set_cons_succ, List.set_cons_zero]
  clear bA
  refine take_at (i := 24) (d := 278) (oi := ?o25) (v := ?v25) ?hi25 ?hd25 (by kernel_rfl) (by kernel_rfl) (by kernel_rfl) ?hw25 ?hy25 ?hq25 (by assumption) ?r25
  case hi25 => (simp only [List.getElem?_toArray, List.getElem?_cons_succ, List.getElem?_cons_zero]; rfl)
  case hd25 => rfl
  case hw25 => rfl
  case hy25 => ((intro w hSw; (try dsimp only at hSw); obtain ⟨⟨s0, s1, s2, s3, s4, s5, s6, s7⟩, ⟨o0, o1, o2, o3, o4, o5, o6, o7⟩⟩ := HZ.out w hSw; go_simp) <;> (with_reducible rfl))
  case hq25 => exact fun _ _ _ h => h
  simp only [List.set_cons_succ, List.set_cons_zero]
  refine take_at (i := 25) (d := 279) (oi := ?o26) (v := ?v26) ?hi26 ?hd26 (by kernel_rfl) (by kernel_rfl) (by kernel_rfl) ?hw26 ?hy26 ?hq26 (by assumption) ?r26
  case hi26 => (simp only [List.getElem?_toArray, List.getElem?_cons_succ, List.getElem?_cons_zero]; rfl)
  case hd26 => rfl
  case hw26 => rfl
  case hy26 => ((intro w hSw; (try dsimp only at hSw); obtain ⟨⟨s0, s1, s2, s3, s4, s5, s6, s7⟩, ⟨o0, o1, o2, o3, o4, o5, o6, o7⟩⟩ := HZ.out w hSw; go_simp) <;> (with_reducible rfl))
  case hq26 => exact fun _ _ _ h => h
  simp only [List.set_cons_succ, List.set_cons_zero]
  refine take_at (i := 26) (d := 280) (oi := ?o27) (v := ?v27) ?hi27 ?hd27 (by kernel_rfl) (by kernel_rfl) (by kernel_rfl) ?hw27 ?hy27 ?hq27 (by assumption) ?r27
  case hi27 => (simp only [List.getElem?_toArray, List.getElem?_cons_succ, List.getElem?_cons_zero]; rfl)
  case hd27 => rfl
  case hw27 => rfl
  case hy27 => ((intro w hSw; (try dsimp only at hSw); obtain ⟨⟨s0, s1, s2, s3, s4, s5, s6, s7⟩, ⟨o0, o1, o2, o3, o4, o5, o6, o7⟩⟩ := HZ.out w hSw; go_simp) <;> (with_reducible rfl))
  case hq27 => exact fun _ _ _ h => h
  simp only [List.set_cons_succ, List.set_cons_zero]
  refine take_at (i := 27) (d := 281) (oi := ?o28) (v := ?v28) ?hi28 ?hd28 (by kernel_rfl) (by kernel_rfl) (by kernel_rfl) ?hw28 ?hy28 ?hq28 (by assumption) ?r28
  case hi28 => (simp only [List.getElem?_toArray, List.getElem?_cons_succ, List.getElem?_cons_zero]; rfl)
  case hd28 => rfl
  case hw28 => rfl
  case hy28 => ((intro w hSw; (try dsimp only at hSw); obtain ⟨⟨s0, s1, s2, s3, s4, s5, s6, s7⟩, ⟨o0, o1, o2, o3, o4, o5, o6, o7⟩⟩ := HZ.out w hSw; go_simp) <;> (with_reducible rfl))
  case hq28 => exact fun _ _ _ h => h
  simp only [List.set_cons_succ, List.set_cons_zero]
  refine take_at (i := 29) (d := 283) (oi := ?o29) (v := ?v29) ?hi29 ?hd29 (by kernel_rfl) (by kernel_rfl) (by kernel_rfl) ?hw29 ?hy29 ?hq29 (by assumption) ?r29
  case hi29 => (simp only [List.getElem?_toArray, List.getElem?_cons_succ, List.getElem?_cons_zero]; rfl)
  case hd29 => rfl
  case hw29 => rfl
  case hy29 => ((intro w hSw; (try dsimp only at hSw); obtain ⟨⟨s0, s1, s2, s3, s4, s5, s6, s7⟩, ⟨o0, o1, o2, o3, o4, o5, o6, o7⟩⟩ := HZ.out w hSw; go_simp) <;> (with_reducible rfl))
  case hq29 => exact fun _ _ _ h => h
  simp only [List.set_cons_succ, List.set_cons_zero]
  refine call_at (i := 28) (d := 282) (oi := ?o30) (f := ?f30) (args := ?a30) ?hi30 ?hd30 (by kernel_rfl) ?hw30 ?he30 ?hc30
  case hi30 => (simp only [List.getElem?_toArray, List.getElem?_cons_succ, List.getElem?_cons_zero]; rfl)
  case hd30 => rfl
  case hw30 => rfl
  case he30 => (go_simp; constructor <;> with_reducible rfl)
  refine Calls.mono (show Calls Try.prog 34 #[.agg #[.int .i64 t.sn.ix, .int .i64 t.sn.tm, .int .i64 t.sn.sm, .int .i64 t.sn.lv, .bool t.sn.fn, .slice A n c, .int .i64 t.tm, .int .i64 t.vt]] x9a (OutV t x9a) from D.own t A n c x9a (hS.on k9a k9a.size) (by omega)) ?_
  rintro e x10a ⟨⟨A9, n9, c9, rfl, hc9, own9⟩, bA⟩
  unfold tupV
  have k10a := below_on k9a bA
  refine ⟨_, rfl, k10a, fun hHeld => ?_⟩
  simp only [List.set_cons_succ, List.set_cons_zero]
  clear bA
  refine call_at (i := 30) (d := 284) (oi := ?o31) (f := ?f31) (args := ?a31) ?hi31 ?hd31 (by kernel_rfl) ?hw31 ?he31 ?hc31
  case hi31 => (simp only [List.getElem?_toArray, List.getElem?_cons_succ, List.getElem?_cons_zero]; rfl)
  case hd31 => rfl
  case hw31 => rfl
  case he31 => (go_simp; constructor <;> with_reducible rfl)
  refine Calls.mono (show Calls Try.prog 14 #[.agg #[.int .i64 t.sn.ix, .int .i64 t.sn.tm, .int .i64 t.sn.sm, .int .i64 t.sn.lv, .bool t.sn.fn, .slice A9 n9 c9, .int .i64 t.tm, .int .i64 t.vt], .agg #[.int .i64 t.sn.ix, .int .i64 t.sn.tm, .int .i64 t.sn.sm, .int .i64 t.sn.lv, .bool t.sn.fn, .slice A n c, .int .i64 t.tm, .int .i64 t.vt]] x10a (fun e w' => (∃ r, SameT t t r ∧ e = .returned (.bool r)) ∧ Below x10a.heap.size x10a w') from rsameT_any t t A9 A n9 n c9 c x10a (OwnF.es own9) (hS.on k10a k10a.size) (by have h := lenF own9; have h2 := hS.len; omega) (by omega)) ?_
  rintro e x11a ⟨⟨r3, hr3, rfl⟩, bA⟩
  obtain rfl := hr3.same (sameT_yes rfl)
  have k11a := below_on k10a bA
  refine ⟨_, rfl, k11a, fun hHeld => ?_⟩
  simp only [List.set_cons_succ, List.set_cons_zero]
  clear bA
  refine take_at (i := 31) (d := 285) (oi := ?o32) (v := ?v32) ?hi32 ?hd32 (by kernel_rfl) (by kernel_rfl) (by kernel_rfl) ?hw32 ?hy32 ?hq32 (by assumption) ?r32
  case hi32 => (simp only [List.getElem?_toArray, List.getElem?_cons_succ, List.getElem?_cons_zero]; rfl)
  case hd32 => rfl
  case hw32 => rfl
  case hy32 => ((intro w hSw; (try dsimp only at hSw); obtain ⟨⟨s0, s1, s2, s3, s4, s5, s6, s7⟩, ⟨o0, o1, o2, o3, o4, o5, o6, o7⟩⟩ := HZ.out w hSw; go_simp) <;> (with_reducible rfl))
  case hq32 => exact fun _ _ _ h => h
  simp only [List.set_cons_succ, List.set_cons_zero]
  refine take_at (i := 32) (d := 286) (oi := ?o33) (v := ?v33) ?hi33 ?hd33 (by kernel_rfl) (by kernel_rfl) (by kernel_rfl) ?hw33 ?hy33 ?hq33 (by assumption) ?r33
  case hi33 => (simp only [List.getElem?_toArray, List.getElem?_cons_succ, List.getElem?_cons_zero]; rfl)
  case hd33 => rfl
  case hw33 => rfl
  case hy33 => ((intro w hSw; (try dsimp only at hSw); obtain ⟨⟨s0, s1, s2, s3, s4, s5, s6, s7⟩, ⟨o0, o1, o2, o3, o4, o5, o6, o7⟩⟩ := HZ.out w hSw; go_simp) <;> (with_reducible rfl))
  case hq33 => exact fun _ _ _ h => h
  simp only [List.set_cons_succ, List.set_cons_zero]
  refine call_at (i := 33) (d := 287) (oi := ?o34) (f := ?f34) (args := ?a34) ?hi34 ?hd34 (by kernel_rfl) ?hw34 ?he34 ?hc34
  case hi34 => (simp only [List.getElem?_toArray, List.getElem?_cons_succ, List.getElem?_cons_zero]; rfl)
  case hd34 => rfl
  case hw34 => rfl
  case he34 => (go_simp; constructor <;> with_reducible rfl)
  refine Calls.mono (show Calls Try.prog 9 #[] x11a (fun e w' => e = .returned (.bool true) ∧ Below x11a.heap.size x11a w') from wakes12 D x11a) ?_
  rintro e x12a ⟨rfl, bA⟩
  have k12a := below_on k11a bA
  refine ⟨_, rfl, k12a, fun hHeld => ?_⟩
  simp only [List.set_cons_succ, List.set_cons_zero]
  clear bA
  refine take_at (i := 34) (d := 288) (oi := ?o35) (v := ?v35) ?hi35 ?hd35 (by kernel_rfl) (by kernel_rfl) (by kernel_rfl) ?hw35 ?hy35 ?hq35 (by assumption) ?r35
  case hi35 => (simp only [List.getElem?_toArray, List.getElem?_cons_succ, List.getElem?_cons_zero]; rfl)
  case hd35 => rfl
  case hw35 => rfl
  case hy35 => ((intro w hSw; (try dsimp only at hSw); obtain ⟨⟨s0, s1, s2, s3, s4, s5, s6, s7⟩, ⟨o0, o1, o2, o3, o4, o5, o6, o7⟩⟩ := HZ.out w hSw; go_simp) <;> (with_reducible rfl))
  case hq35 => exact fun _ _ _ h => h
  simp only [List.set_cons_succ, List.set_cons_zero]
  refine take_at (i := 35) (d := 14) (oi := ?o36) (v := ?v36) ?hi36 ?hd36 (by kernel_rfl) (by kernel_rfl) (by kernel_rfl) ?hw36 ?hy36 ?hq36 (by assumption) ?r36
  case hi36 => (simp only [List.getElem?_toArray, List.getElem?_cons_succ, List.getElem?_cons_zero]; rfl)
  case hd36 => rfl
  case hw36 => rfl
  case hy36 => ((intro w hSw; (try dsimp only at hSw); obtain ⟨⟨s0, s1, s2, s3, s4, s5, s6, s7⟩, ⟨o0, o1, o2, o3, o4, o5, o6, o7⟩⟩ := HZ.out w hSw; go_simp) <;> (with_reducible rfl))
  case hq36 => exact fun _ _ _ h => h
  simp only [List.set_cons_succ, List.set_cons_zero]
  refine wpAnyH_done (by kernel_rfl) ?_ _
  clear hHeld
  go_wp2_with fail
  go_ret
  exact ⟨rfl, B40.trans (k12a.mono B40.size)⟩
theorem tells_all (D : Dev12) (t o : TupP) (l : List EnP) (s : StP) (i a b : Int) (A A' Al : Option Addr) (n c n' c' m cl : Nat) (w : World) (hS : Es w w.heap.size A n t.lg) (hnc : n ≤ c) (hO : Es w w.heap.size A' n' o.lg) (hL : Es w w.heap.size Al m l) (hml : m ≤ cl) :
    Calls Try.prog 3 #[tupV t (.slice A n c), tupV o (.slice A' n' c'), .slice Al m cl, s.v, .int .i64 i, .int .i64 a, .int .i64 b] w fun e w' => e = .returned (.bool true) ∧ Below w.heap.size w w' := by
  cases h0 : decide (250 < n) with
  | true => exact tells_0 D t o l s i a b A A' Al n c n' c' m cl w hS hnc hO hL hml h0
  | false =>
  cases h1 : decide (250 < n') with
  | true => exact tells_1 D t o l s i a b A A' Al n c n' c' m cl w hS hnc hO hL hml h0 h1
  | false =>
  cases h2 : decide ((100 : Int) < (m : Int)) with
  | true => exact tells_2 D t o l s i a b A A' Al n c n' c' m cl w hS hnc hO hL hml h0 h1 h2
  | false =>
  cases h3 : decide ((1099511627776 : Int) < t.sn.ix) with
  | true => exact tells_3 D t o l s i a b A A' Al n c n' c' m cl w hS hnc hO hL hml h0 h1 h2 h3
  | false =>
  cases h4 : decide (t.sn.ix < (-1099511627776 : Int)) with
  | true => exact tells_4 D t o l s i a b A A' Al n c n' c' m cl w hS hnc hO hL hml h0 h1 h2 h3 h4
  | false =>
  cases h5 : decide ((1099511627776 : Int) < i) with
  | true => exact tells_5 D t o l s i a b A A' Al n c n' c' m cl w hS hnc hO hL hml h0 h1 h2 h3 h4 h5
  | false =>
  cases h6 : decide (i < (-1099511627776 : Int)) with
  | true => exact tells_6 D t o l s i a b A A' Al n c n' c' m cl w hS hnc hO hL hml h0 h1 h2 h3 h4 h5 h6
  | false =>
  cases h7 : decide ((1099511627776 : Int) < s.ix) with
  | true => exact tells_7 D t o l s i a b A A' Al n c n' c' m cl w hS hnc hO hL hml h0 h1 h2 h3 h4 h5 h6 h7
  | false =>
  cases h8 : decide (s.ix < (-1099511627776 : Int)) with
  | true => exact tells_8 D t o l s i a b A A' Al n c n' c' m cl w hS hnc hO hL hml h0 h1 h2 h3 h4 h5 h6 h7 h8
  | false =>
  exact tells_main D t o l s i a b A A' Al n c n' c' m cl w hS hnc hO hL hml h0 h1 h2 h3 h4 h5 h6 h7 h8
end Go.Proofs.Ytbhnlmlaebngmaa
