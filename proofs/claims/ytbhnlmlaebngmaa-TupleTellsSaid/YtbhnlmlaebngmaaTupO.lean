/-
  The document's Hard, Append, Cut (of tuples): their contracts.
-/
import Derived.Test.YtbhnlmlaebngmaaTupT
import Derived.Deep.DeepCutAuto
namespace Go.Proofs.Ytbhnlmlaebngmaa
open Go.RowKit
set_option linter.unusedVariables false
set_option linter.unusedSimpArgs false
theorem put6U {W : World} {z : Nat} {t : TupP} {v : Value} (h : BoxU W z t v) (a : Int) : BoxU (W.setCell ⟨z, 6, none⟩ (.int .i64 a)) z { t with tm := a } v := by
  have h8 := heap_set (i := 6) (show W.heap[z]? = _ from h) (.int .i64 a)
  simp only [List.setIfInBounds_toArray, List.set_cons_zero, List.set_cons_succ] at h8
  exact h8
theorem put7U {W : World} {z : Nat} {t : TupP} {v : Value} (h : BoxU W z t v) (a : Int) : BoxU (W.setCell ⟨z, 7, none⟩ (.int .i64 a)) z { t with vt := a } v := by
  have h8 := heap_set (i := 7) (show W.heap[z]? = _ from h) (.int .i64 a)
  simp only [List.setIfInBounds_toArray, List.set_cons_zero, List.set_cons_succ] at h8
  exact h8
theorem put5U {W : World} {z : Nat} {t : TupP} {v : Value} (h : BoxU W z t v) (l : List EnP) (x : Value) : BoxU (W.setCell ⟨z, 5, none⟩ x) z { t with lg := l } x := by
  have h8 := heap_set (i := 5) (show W.heap[z]? = _ from h) x
  simp only [List.setIfInBounds_toArray, List.set_cons_zero, List.set_cons_succ] at h8
  exact h8
set_option maxRecDepth 100000 in
set_option maxHeartbeats 8000000 in
theorem rhard_0 (t : TupP) (A : Option Addr) (n c : Nat) (a b : Int) (w : World) (hS : Es w w.heap.size A n t.lg) (hn : n ≤ 1000000) (c1 : t.tm < a) :
    Calls Try.prog 20 #[tupV t (.slice A n c), .int .i64 a, .int .i64 b] w (OutT (HardIs t a b) w.heap.size w) := by
  have q0 : decide (t.tm < a) = true := decide_eq_true c1
  have HC := Lib.hid (show (true = true) ↔ (t.tm < a ∨ (a = t.tm ∧ (t.vt = 0 ∨ t.vt = b))) by simp; omega)
  clear c1
  have HS0 := Lib.hid hS
  have Hl := Lib.hid hS.len
  obtain ⟨z1, hz1⟩ : ∃ z, z = w.heap.size := ⟨_, rfl⟩
  obtain ⟨w1, hw1⟩ : ∃ x, x = w.alloc (.cells #[.int .i64 t.sn.ix, .int .i64 t.sn.tm, .int .i64 t.sn.sm, .int .i64 t.sn.lv, .bool t.sn.fn, .slice A n c, .int .i64 t.tm, .int .i64 t.vt] 26) := ⟨_, rfl⟩
  have bb : Below w.heap.size w w1 := by rw [hw1]; exact below_al (below_d0 _) _
  have bz : BoxU w1 z1 t (.slice A n c) := by rw [hw1, hz1]; exact BoxU.new w t _
  replace hS := hS.on bb bb.size
  have B1 := bb
  clear bb
  obtain ⟨z2, hz2⟩ : ∃ z, z = w1.heap.size := ⟨_, rfl⟩
  obtain ⟨w2, hw2⟩ : ∃ x, x = w1.alloc (.cells #[.int .i64 0, .int .i64 0, .int .i64 0, .int .i64 0, .bool false, .slice none 0 0, .int .i64 0, .int .i64 0] 26) := ⟨_, rfl⟩
  have bb : Below w1.heap.size w1 w2 := by rw [hw2]; exact below_al (below_d0 _) _
  have br : BoxU w2 z2 noneT (.slice none 0 0) := by rw [hw2, hz2]; exact BoxU.new w1 noneT _
  replace bz := bz.below bb
  replace hS := hS.on bb bb.size
  have B2 := B1.trans (bb.mono B1.size)
  clear bb B1
  have hp2 : z1 + 1 = z2 := by rw [hz2, hw1, hz1]; simp
  have lz2 : w.heap.size ≤ z2 := by omega
  have ne12 : z1 ≠ z2 := by omega
  have HE := Lib.hid (⟨hw1, hw2, hz1, hp2⟩ : _ ∧ _ ∧ _ ∧ _)
  have HLZ := Lib.hid lz2
  clear hw1 hz1 hw2 hz2 hp2 lz2
  unfold tupV
  go_enter Try.func20, Try.ntmps20
  obtain ⟨k0, k1, k2, k3, k4, k5, k6, k7⟩ := bz.cells
  go_wp2_with fail
  clear k0 k1 k2 k3 k4 k5 k6 k7
  rw [← HE.out.1, ← HE.out.2.1, ← HE.out.2.2.1]
  (try rw [HE.out.2.2.2])
  clear HE
  have B2x := B2
  refine Calls.mono (show Calls Try.prog 41 #[.agg #[.int .i64 t.sn.ix, .int .i64 t.sn.tm, .int .i64 t.sn.sm, .int .i64 t.sn.lv, .bool t.sn.fn, .slice A n c, .int .i64 t.tm, .int .i64 t.vt]] w2 (fun e w' => (∃ A' c', e = .returned (tupV t (.slice A' n c')) ∧ n ≤ c' ∧ OwnE w' w2.heap.size (.slice A' n c') n t.lg) ∧ Below w2.heap.size w2 w') from rownT_any t A n c w2 hS (by omega)) ?_
  intro e w3 hh
  obtain ⟨⟨A5, c5, rfl, hc5, own⟩, bb⟩ := hh
  (try clear hh)
  replace bz := bz.below bb
  replace br := br.below bb
  replace hS := hS.on bb bb.size
  have B3 := B2.trans (bb.mono B2.size)
  clear bb B2
  skip
  have B3x := B3
  replace own := own_low own B2x.size
  clear B2x
  have lbz := bz.lt
  have lbr := br.lt
  obtain ⟨z4, hz4⟩ : ∃ z, z = w3.heap.size := ⟨_, rfl⟩
  obtain ⟨w4, hw4⟩ : ∃ x, x = w3.alloc (.cells #[.int .i64 t.sn.ix, .int .i64 t.sn.tm, .int .i64 t.sn.sm, .int .i64 t.sn.lv, .bool t.sn.fn, .slice A5 n c5, .int .i64 t.tm, .int .i64 t.vt] 26) := ⟨_, rfl⟩
  have bb : Below w3.heap.size w3 w4 := by rw [hw4]; exact below_al (below_d0 _) _
  have bo : BoxU w4 z4 t (.slice A5 n c5) := by rw [hw4, hz4]; exact BoxU.new w3 t _
  replace own := own_keep own bb
  replace bz := bz.below bb
  replace br := br.below bb
  replace hS := hS.on bb bb.size
  have B4 := B3.trans (bb.mono B3.size)
  clear bb B3
  have hzo : w.heap.size ≤ z4 := by rw [hz4]; exact B3x.size
  have nbz : z1 ≠ z4 := by omega
  have nbr : z2 ≠ z4 := by omega
  have HE2 := Lib.hid (⟨hw4, hz4⟩ : _ ∧ _)
  clear hw4 hz4 lbz lbr
  unfold tupV
  go_upto_region 2 with fail
  rw [← HE2.out.1, ← HE2.out.2]
  clear HE2
  skip
  obtain ⟨j0, j1, j2, j3, j4, j5, j6, j7⟩ := bo.cells
  have f6 := bo.frozen 6
  have f7 := bo.frozen 7
  obtain ⟨k0, k1, k2, k3, k4, k5, k6, k7⟩ := bz.cells
  go_upto_region 3 with fail
  clear j0 j1 j2 j3 j4 j5 j6 j7
  clear k0 k1 k2 k3 k4 k5 k6 k7
  clear f6 f7
  obtain ⟨w5, hw5⟩ : ∃ x, x = (w4.setCell ⟨z4, 6, none⟩ (.int .i64 a)).setCell ⟨z4, 7, none⟩ (.int .i64 b) := ⟨_, rfl⟩
  replace own : OwnE w5 w.heap.size (.slice A5 n c5) n t.lg := by rw [hw5]; exact set_ownU (put6U bo a) (set_ownU bo own)
  replace bz : BoxU w5 z1 t (.slice A n c) := by rw [hw5]; exact set_boxU (set_boxU bz nbz) nbz
  replace br : BoxU w5 z2 noneT (.slice none 0 0) := by rw [hw5]; exact set_boxU (set_boxU br nbr) nbr
  replace bo : BoxU w5 z4 (hardT t a b) (.slice A5 n c5) := by rw [hw5]; exact put7U (put6U bo a) b
  have B5 : Below w.heap.size w w5 := by rw [hw5]; exact ((B4.setCell (p := ⟨z4, 6, none⟩) hzo _).setCell (p := ⟨z4, 7, none⟩) hzo _)
  clear hS
  have hS : Es w5 w5.heap.size A n t.lg := Row.on HS0.out B5 B5.size
  rw [← hw5]
  clear hw5 B4
  obtain ⟨k0, k1, k2, k3, k4, k5, k6, k7⟩ := bz.cells
  obtain ⟨j0, j1, j2, j3, j4, j5, j6, j7⟩ := bo.cells
  go_wp2_with fail
  clear k0 k1 k2 k3 k4 k5 k6 k7
  clear j0 j1 j2 j3 j4 j5 j6 j7
  refine Calls.mono (show Calls Try.prog 42 #[.agg #[.int .i64 t.sn.ix, .int .i64 t.sn.tm, .int .i64 t.sn.sm, .int .i64 t.sn.lv, .bool t.sn.fn, .slice A n c, .int .i64 t.tm, .int .i64 t.vt], .agg #[.int .i64 t.sn.ix, .int .i64 t.sn.tm, .int .i64 t.sn.sm, .int .i64 t.sn.lv, .bool t.sn.fn, .slice A5 n c5, .int .i64 a, .int .i64 b], .bool true] w5 (OutT (ToldIs t (hardT t a b) (true = true)) w.heap.size w5) from rtoldT_any t (hardT t a b) A A5 n c n c5 w.heap.size true w5 hS own (by omega) (by omega) hc5 B5.size) ?_
  intro e w6 hh
  obtain ⟨⟨o, er, A9, n9, c9, rfl, hR, hnc9, own9⟩, bb⟩ := hh
  (try clear hh)
  replace bz := bz.below bb
  replace br := br.below bb
  replace bo := bo.below bb
  replace hS := hS.on bb bb.size
  have B6 := B5.trans (bb.mono B5.size)
  clear bb B5
  unfold tupV
  have HR := Lib.hid hR
  clear hR
  obtain ⟨g0, g1, g2, g3, g4, g5, g6, g7⟩ := br.cells
  have f0 := br.frozen 0
  have f1 := br.frozen 1
  have f2 := br.frozen 2
  have f3 := br.frozen 3
  have f4 := br.frozen 4
  have f5 := br.frozen 5
  have f6 := br.frozen 6
  have f7 := br.frozen 7
  go_wp2_with fail
  obtain ⟨W', hW'⟩ : ∃ W', W' = putU w6 z2 o (.slice A9 n9 c9) := ⟨_, rfl⟩
  have b9 := putU_box br o (.slice A9 n9 c9)
  have B9 := putU_below HLZ.out o (.slice A9 n9 c9) B6
  rw [← hW'] at b9 B9
  have e9 : W' = ((((((((w6.setCell ⟨z2, 0, none⟩ (.int .i64 o.sn.ix)).setCell ⟨z2, 1, none⟩ (.int .i64 o.sn.tm)).setCell ⟨z2, 2, none⟩ (.int .i64 o.sn.sm)).setCell ⟨z2, 3, none⟩ (.int .i64 o.sn.lv)).setCell ⟨z2, 4, none⟩ (.bool o.sn.fn)).setCell ⟨z2, 5, none⟩ (.slice A9 n9 c9)).setCell ⟨z2, 6, none⟩ (.int .i64 o.tm)).setCell ⟨z2, 7, none⟩ (.int .i64 o.vt)) := hW'
  have own10 : OwnE W' w.heap.size (.slice A9 n9 c9) n9 o.lg := by rw [hW']; exact putU_own br own9
  rw [← e9]
  clear e9 hW' g0 g1 g2 g3 g4 g5 g6 g7 f0 f1 f2 f3 f4 f5 f6 f7
  obtain ⟨g0, g1, g2, g3, g4, g5, g6, g7⟩ := b9.cells
  exact bodyPost_ret (v := .tuple #[tupV o (.slice A9 n9 c9), .int .i64 er]) (by unfold tupV; simp [results, Try.results20, go_sem, g0, g1, g2, g3, g4, g5, g6, g7]) rfl ⟨⟨o, er, A9, n9, c9, rfl, ToldIs.iff HR.out HC.out, hnc9, own10⟩, B9⟩
set_option maxRecDepth 100000 in
set_option maxHeartbeats 8000000 in
theorem rhard_1 (t : TupP) (A : Option Addr) (n c : Nat) (a b : Int) (w : World) (hS : Es w w.heap.size A n t.lg) (hn : n ≤ 1000000) (c1 : ¬ t.tm < a) (c2 : ¬ a = t.tm) :
    Calls Try.prog 20 #[tupV t (.slice A n c), .int .i64 a, .int .i64 b] w (OutT (HardIs t a b) w.heap.size w) := by
  have q0 : decide (t.tm < a) = false := decide_eq_false c1
  have q1 : (a == t.tm) = false := by simpa using c2
  have HC := Lib.hid (show (false = true) ↔ (t.tm < a ∨ (a = t.tm ∧ (t.vt = 0 ∨ t.vt = b))) by simp; omega)
  clear c1 c2
  have HS0 := Lib.hid hS
  have Hl := Lib.hid hS.len
  obtain ⟨z1, hz1⟩ : ∃ z, z = w.heap.size := ⟨_, rfl⟩
  obtain ⟨w1, hw1⟩ : ∃ x, x = w.alloc (.cells #[.int .i64 t.sn.ix, .int .i64 t.sn.tm, .int .i64 t.sn.sm, .int .i64 t.sn.lv, .bool t.sn.fn, .slice A n c, .int .i64 t.tm, .int .i64 t.vt] 26) := ⟨_, rfl⟩
  have bb : Below w.heap.size w w1 := by rw [hw1]; exact below_al (below_d0 _) _
  have bz : BoxU w1 z1 t (.slice A n c) := by rw [hw1, hz1]; exact BoxU.new w t _
  replace hS := hS.on bb bb.size
  have B1 := bb
  clear bb
  obtain ⟨z2, hz2⟩ : ∃ z, z = w1.heap.size := ⟨_, rfl⟩
  obtain ⟨w2, hw2⟩ : ∃ x, x = w1.alloc (.cells #[.int .i64 0, .int .i64 0, .int .i64 0, .int .i64 0, .bool false, .slice none 0 0, .int .i64 0, .int .i64 0] 26) := ⟨_, rfl⟩
  have bb : Below w1.heap.size w1 w2 := by rw [hw2]; exact below_al (below_d0 _) _
  have br : BoxU w2 z2 noneT (.slice none 0 0) := by rw [hw2, hz2]; exact BoxU.new w1 noneT _
  replace bz := bz.below bb
  replace hS := hS.on bb bb.size
  have B2 := B1.trans (bb.mono B1.size)
  clear bb B1
  have hp2 : z1 + 1 = z2 := by rw [hz2, hw1, hz1]; simp
  have lz2 : w.heap.size ≤ z2 := by omega
  have ne12 : z1 ≠ z2 := by omega
  have HE := Lib.hid (⟨hw1, hw2, hz1, hp2⟩ : _ ∧ _ ∧ _ ∧ _)
  have HLZ := Lib.hid lz2
  clear hw1 hz1 hw2 hz2 hp2 lz2
  unfold tupV
  go_enter Try.func20, Try.ntmps20
  obtain ⟨k0, k1, k2, k3, k4, k5, k6, k7⟩ := bz.cells
  go_wp2_with fail
  clear k0 k1 k2 k3 k4 k5 k6 k7
  rw [← HE.out.1, ← HE.out.2.1, ← HE.out.2.2.1]
  (try rw [HE.out.2.2.2])
  clear HE
  have B2x := B2
  refine Calls.mono (show Calls Try.prog 41 #[.agg #[.int .i64 t.sn.ix, .int .i64 t.sn.tm, .int .i64 t.sn.sm, .int .i64 t.sn.lv, .bool t.sn.fn, .slice A n c, .int .i64 t.tm, .int .i64 t.vt]] w2 (fun e w' => (∃ A' c', e = .returned (tupV t (.slice A' n c')) ∧ n ≤ c' ∧ OwnE w' w2.heap.size (.slice A' n c') n t.lg) ∧ Below w2.heap.size w2 w') from rownT_any t A n c w2 hS (by omega)) ?_
  intro e w3 hh
  obtain ⟨⟨A5, c5, rfl, hc5, own⟩, bb⟩ := hh
  (try clear hh)
  replace bz := bz.below bb
  replace br := br.below bb
  replace hS := hS.on bb bb.size
  have B3 := B2.trans (bb.mono B2.size)
  clear bb B2
  skip
  have B3x := B3
  replace own := own_low own B2x.size
  clear B2x
  have lbz := bz.lt
  have lbr := br.lt
  obtain ⟨z4, hz4⟩ : ∃ z, z = w3.heap.size := ⟨_, rfl⟩
  obtain ⟨w4, hw4⟩ : ∃ x, x = w3.alloc (.cells #[.int .i64 t.sn.ix, .int .i64 t.sn.tm, .int .i64 t.sn.sm, .int .i64 t.sn.lv, .bool t.sn.fn, .slice A5 n c5, .int .i64 t.tm, .int .i64 t.vt] 26) := ⟨_, rfl⟩
  have bb : Below w3.heap.size w3 w4 := by rw [hw4]; exact below_al (below_d0 _) _
  have bo : BoxU w4 z4 t (.slice A5 n c5) := by rw [hw4, hz4]; exact BoxU.new w3 t _
  replace own := own_keep own bb
  replace bz := bz.below bb
  replace br := br.below bb
  replace hS := hS.on bb bb.size
  have B4 := B3.trans (bb.mono B3.size)
  clear bb B3
  have hzo : w.heap.size ≤ z4 := by rw [hz4]; exact B3x.size
  have nbz : z1 ≠ z4 := by omega
  have nbr : z2 ≠ z4 := by omega
  have HE2 := Lib.hid (⟨hw4, hz4⟩ : _ ∧ _)
  clear hw4 hz4 lbz lbr
  unfold tupV
  go_upto_region 2 with fail
  rw [← HE2.out.1, ← HE2.out.2]
  clear HE2
  skip
  obtain ⟨j0, j1, j2, j3, j4, j5, j6, j7⟩ := bo.cells
  have f6 := bo.frozen 6
  have f7 := bo.frozen 7
  obtain ⟨k0, k1, k2, k3, k4, k5, k6, k7⟩ := bz.cells
  go_upto_region 3 with fail
  clear j0 j1 j2 j3 j4 j5 j6 j7
  clear k0 k1 k2 k3 k4 k5 k6 k7
  clear f6 f7
  obtain ⟨w5, hw5⟩ : ∃ x, x = (w4.setCell ⟨z4, 6, none⟩ (.int .i64 a)).setCell ⟨z4, 7, none⟩ (.int .i64 b) := ⟨_, rfl⟩
  replace own : OwnE w5 w.heap.size (.slice A5 n c5) n t.lg := by rw [hw5]; exact set_ownU (put6U bo a) (set_ownU bo own)
  replace bz : BoxU w5 z1 t (.slice A n c) := by rw [hw5]; exact set_boxU (set_boxU bz nbz) nbz
  replace br : BoxU w5 z2 noneT (.slice none 0 0) := by rw [hw5]; exact set_boxU (set_boxU br nbr) nbr
  replace bo : BoxU w5 z4 (hardT t a b) (.slice A5 n c5) := by rw [hw5]; exact put7U (put6U bo a) b
  have B5 : Below w.heap.size w w5 := by rw [hw5]; exact ((B4.setCell (p := ⟨z4, 6, none⟩) hzo _).setCell (p := ⟨z4, 7, none⟩) hzo _)
  clear hS
  have hS : Es w5 w5.heap.size A n t.lg := Row.on HS0.out B5 B5.size
  rw [← hw5]
  clear hw5 B4
  obtain ⟨k0, k1, k2, k3, k4, k5, k6, k7⟩ := bz.cells
  obtain ⟨j0, j1, j2, j3, j4, j5, j6, j7⟩ := bo.cells
  go_wp2_with fail
  clear k0 k1 k2 k3 k4 k5 k6 k7
  clear j0 j1 j2 j3 j4 j5 j6 j7
  refine Calls.mono (show Calls Try.prog 42 #[.agg #[.int .i64 t.sn.ix, .int .i64 t.sn.tm, .int .i64 t.sn.sm, .int .i64 t.sn.lv, .bool t.sn.fn, .slice A n c, .int .i64 t.tm, .int .i64 t.vt], .agg #[.int .i64 t.sn.ix, .int .i64 t.sn.tm, .int .i64 t.sn.sm, .int .i64 t.sn.lv, .bool t.sn.fn, .slice A5 n c5, .int .i64 a, .int .i64 b], .bool false] w5 (OutT (ToldIs t (hardT t a b) (false = true)) w.heap.size w5) from rtoldT_any t (hardT t a b) A A5 n c n c5 w.heap.size false w5 hS own (by omega) (by omega) hc5 B5.size) ?_
  intro e w6 hh
  obtain ⟨⟨o, er, A9, n9, c9, rfl, hR, hnc9, own9⟩, bb⟩ := hh
  (try clear hh)
  replace bz := bz.below bb
  replace br := br.below bb
  replace bo := bo.below bb
  replace hS := hS.on bb bb.size
  have B6 := B5.trans (bb.mono B5.size)
  clear bb B5
  unfold tupV
  have HR := Lib.hid hR
  clear hR
  obtain ⟨g0, g1, g2, g3, g4, g5, g6, g7⟩ := br.cells
  have f0 := br.frozen 0
  have f1 := br.frozen 1
  have f2 := br.frozen 2
  have f3 := br.frozen 3
  have f4 := br.frozen 4
  have f5 := br.frozen 5
  have f6 := br.frozen 6
  have f7 := br.frozen 7
  go_wp2_with fail
  obtain ⟨W', hW'⟩ : ∃ W', W' = putU w6 z2 o (.slice A9 n9 c9) := ⟨_, rfl⟩
  have b9 := putU_box br o (.slice A9 n9 c9)
  have B9 := putU_below HLZ.out o (.slice A9 n9 c9) B6
  rw [← hW'] at b9 B9
  have e9 : W' = ((((((((w6.setCell ⟨z2, 0, none⟩ (.int .i64 o.sn.ix)).setCell ⟨z2, 1, none⟩ (.int .i64 o.sn.tm)).setCell ⟨z2, 2, none⟩ (.int .i64 o.sn.sm)).setCell ⟨z2, 3, none⟩ (.int .i64 o.sn.lv)).setCell ⟨z2, 4, none⟩ (.bool o.sn.fn)).setCell ⟨z2, 5, none⟩ (.slice A9 n9 c9)).setCell ⟨z2, 6, none⟩ (.int .i64 o.tm)).setCell ⟨z2, 7, none⟩ (.int .i64 o.vt)) := hW'
  have own10 : OwnE W' w.heap.size (.slice A9 n9 c9) n9 o.lg := by rw [hW']; exact putU_own br own9
  rw [← e9]
  clear e9 hW' g0 g1 g2 g3 g4 g5 g6 g7 f0 f1 f2 f3 f4 f5 f6 f7
  obtain ⟨g0, g1, g2, g3, g4, g5, g6, g7⟩ := b9.cells
  exact bodyPost_ret (v := .tuple #[tupV o (.slice A9 n9 c9), .int .i64 er]) (by unfold tupV; simp [results, Try.results20, go_sem, g0, g1, g2, g3, g4, g5, g6, g7]) rfl ⟨⟨o, er, A9, n9, c9, rfl, ToldIs.iff HR.out HC.out, hnc9, own10⟩, B9⟩
set_option maxRecDepth 100000 in
set_option maxHeartbeats 8000000 in
theorem rhard_2 (t : TupP) (A : Option Addr) (n c : Nat) (a b : Int) (w : World) (hS : Es w w.heap.size A n t.lg) (hn : n ≤ 1000000) (c1 : ¬ t.tm < a) (c2 : a = t.tm) (c3 : t.vt = 0) :
    Calls Try.prog 20 #[tupV t (.slice A n c), .int .i64 a, .int .i64 b] w (OutT (HardIs t a b) w.heap.size w) := by
  have q0 : decide (t.tm < a) = false := decide_eq_false c1
  have q1 : (a == t.tm) = true := by simpa using c2
  have q2 : (t.vt == 0) = true := by simpa using c3
  have HC := Lib.hid (show (true = true) ↔ (t.tm < a ∨ (a = t.tm ∧ (t.vt = 0 ∨ t.vt = b))) by simp; omega)
  clear c1 c2 c3
  have HS0 := Lib.hid hS
  have Hl := Lib.hid hS.len
  obtain ⟨z1, hz1⟩ : ∃ z, z = w.heap.size := ⟨_, rfl⟩
  obtain ⟨w1, hw1⟩ : ∃ x, x = w.alloc (.cells #[.int .i64 t.sn.ix, .int .i64 t.sn.tm, .int .i64 t.sn.sm, .int .i64 t.sn.lv, .bool t.sn.fn, .slice A n c, .int .i64 t.tm, .int .i64 t.vt] 26) := ⟨_, rfl⟩
  have bb : Below w.heap.size w w1 := by rw [hw1]; exact below_al (below_d0 _) _
  have bz : BoxU w1 z1 t (.slice A n c) := by rw [hw1, hz1]; exact BoxU.new w t _
  replace hS := hS.on bb bb.size
  have B1 := bb
  clear bb
  obtain ⟨z2, hz2⟩ : ∃ z, z = w1.heap.size := ⟨_, rfl⟩
  obtain ⟨w2, hw2⟩ : ∃ x, x = w1.alloc (.cells #[.int .i64 0, .int .i64 0, .int .i64 0, .int .i64 0, .bool false, .slice none 0 0, .int .i64 0, .int .i64 0] 26) := ⟨_, rfl⟩
  have bb : Below w1.heap.size w1 w2 := by rw [hw2]; exact below_al (below_d0 _) _
  have br : BoxU w2 z2 noneT (.slice none 0 0) := by rw [hw2, hz2]; exact BoxU.new w1 noneT _
  replace bz := bz.below bb
  replace hS := hS.on bb bb.size
  have B2 := B1.trans (bb.mono B1.size)
  clear bb B1
  have hp2 : z1 + 1 = z2 := by rw [hz2, hw1, hz1]; simp
  have lz2 : w.heap.size ≤ z2 := by omega
  have ne12 : z1 ≠ z2 := by omega
  have HE := Lib.hid (⟨hw1, hw2, hz1, hp2⟩ : _ ∧ _ ∧ _ ∧ _)
  have HLZ := Lib.hid lz2
  clear hw1 hz1 hw2 hz2 hp2 lz2
  unfold tupV
  go_enter Try.func20, Try.ntmps20
  obtain ⟨k0, k1, k2, k3, k4, k5, k6, k7⟩ := bz.cells
  go_wp2_with fail
  clear k0 k1 k2 k3 k4 k5 k6 k7
  rw [← HE.out.1, ← HE.out.2.1, ← HE.out.2.2.1]
  (try rw [HE.out.2.2.2])
  clear HE
  have B2x := B2
  refine Calls.mono (show Calls Try.prog 41 #[.agg #[.int .i64 t.sn.ix, .int .i64 t.sn.tm, .int .i64 t.sn.sm, .int .i64 t.sn.lv, .bool t.sn.fn, .slice A n c, .int .i64 t.tm, .int .i64 t.vt]] w2 (fun e w' => (∃ A' c', e = .returned (tupV t (.slice A' n c')) ∧ n ≤ c' ∧ OwnE w' w2.heap.size (.slice A' n c') n t.lg) ∧ Below w2.heap.size w2 w') from rownT_any t A n c w2 hS (by omega)) ?_
  intro e w3 hh
  obtain ⟨⟨A5, c5, rfl, hc5, own⟩, bb⟩ := hh
  (try clear hh)
  replace bz := bz.below bb
  replace br := br.below bb
  replace hS := hS.on bb bb.size
  have B3 := B2.trans (bb.mono B2.size)
  clear bb B2
  skip
  have B3x := B3
  replace own := own_low own B2x.size
  clear B2x
  have lbz := bz.lt
  have lbr := br.lt
  obtain ⟨z4, hz4⟩ : ∃ z, z = w3.heap.size := ⟨_, rfl⟩
  obtain ⟨w4, hw4⟩ : ∃ x, x = w3.alloc (.cells #[.int .i64 t.sn.ix, .int .i64 t.sn.tm, .int .i64 t.sn.sm, .int .i64 t.sn.lv, .bool t.sn.fn, .slice A5 n c5, .int .i64 t.tm, .int .i64 t.vt] 26) := ⟨_, rfl⟩
  have bb : Below w3.heap.size w3 w4 := by rw [hw4]; exact below_al (below_d0 _) _
  have bo : BoxU w4 z4 t (.slice A5 n c5) := by rw [hw4, hz4]; exact BoxU.new w3 t _
  replace own := own_keep own bb
  replace bz := bz.below bb
  replace br := br.below bb
  replace hS := hS.on bb bb.size
  have B4 := B3.trans (bb.mono B3.size)
  clear bb B3
  have hzo : w.heap.size ≤ z4 := by rw [hz4]; exact B3x.size
  have nbz : z1 ≠ z4 := by omega
  have nbr : z2 ≠ z4 := by omega
  have HE2 := Lib.hid (⟨hw4, hz4⟩ : _ ∧ _)
  clear hw4 hz4 lbz lbr
  unfold tupV
  go_upto_region 2 with fail
  rw [← HE2.out.1, ← HE2.out.2]
  clear HE2
  skip
  obtain ⟨j0, j1, j2, j3, j4, j5, j6, j7⟩ := bo.cells
  have f6 := bo.frozen 6
  have f7 := bo.frozen 7
  obtain ⟨k0, k1, k2, k3, k4, k5, k6, k7⟩ := bz.cells
  go_upto_region 3 with fail
  clear j0 j1 j2 j3 j4 j5 j6 j7
  clear k0 k1 k2 k3 k4 k5 k6 k7
  clear f6 f7
  obtain ⟨w5, hw5⟩ : ∃ x, x = (w4.setCell ⟨z4, 6, none⟩ (.int .i64 a)).setCell ⟨z4, 7, none⟩ (.int .i64 b) := ⟨_, rfl⟩
  replace own : OwnE w5 w.heap.size (.slice A5 n c5) n t.lg := by rw [hw5]; exact set_ownU (put6U bo a) (set_ownU bo own)
  replace bz : BoxU w5 z1 t (.slice A n c) := by rw [hw5]; exact set_boxU (set_boxU bz nbz) nbz
  replace br : BoxU w5 z2 noneT (.slice none 0 0) := by rw [hw5]; exact set_boxU (set_boxU br nbr) nbr
  replace bo : BoxU w5 z4 (hardT t a b) (.slice A5 n c5) := by rw [hw5]; exact put7U (put6U bo a) b
  have B5 : Below w.heap.size w w5 := by rw [hw5]; exact ((B4.setCell (p := ⟨z4, 6, none⟩) hzo _).setCell (p := ⟨z4, 7, none⟩) hzo _)
  clear hS
  have hS : Es w5 w5.heap.size A n t.lg := Row.on HS0.out B5 B5.size
  rw [← hw5]
  clear hw5 B4
  obtain ⟨k0, k1, k2, k3, k4, k5, k6, k7⟩ := bz.cells
  obtain ⟨j0, j1, j2, j3, j4, j5, j6, j7⟩ := bo.cells
  go_wp2_with fail
  clear k0 k1 k2 k3 k4 k5 k6 k7
  clear j0 j1 j2 j3 j4 j5 j6 j7
  refine Calls.mono (show Calls Try.prog 42 #[.agg #[.int .i64 t.sn.ix, .int .i64 t.sn.tm, .int .i64 t.sn.sm, .int .i64 t.sn.lv, .bool t.sn.fn, .slice A n c, .int .i64 t.tm, .int .i64 t.vt], .agg #[.int .i64 t.sn.ix, .int .i64 t.sn.tm, .int .i64 t.sn.sm, .int .i64 t.sn.lv, .bool t.sn.fn, .slice A5 n c5, .int .i64 a, .int .i64 b], .bool true] w5 (OutT (ToldIs t (hardT t a b) (true = true)) w.heap.size w5) from rtoldT_any t (hardT t a b) A A5 n c n c5 w.heap.size true w5 hS own (by omega) (by omega) hc5 B5.size) ?_
  intro e w6 hh
  obtain ⟨⟨o, er, A9, n9, c9, rfl, hR, hnc9, own9⟩, bb⟩ := hh
  (try clear hh)
  replace bz := bz.below bb
  replace br := br.below bb
  replace bo := bo.below bb
  replace hS := hS.on bb bb.size
  have B6 := B5.trans (bb.mono B5.size)
  clear bb B5
  unfold tupV
  have HR := Lib.hid hR
  clear hR
  obtain ⟨g0, g1, g2, g3, g4, g5, g6, g7⟩ := br.cells
  have f0 := br.frozen 0
  have f1 := br.frozen 1
  have f2 := br.frozen 2
  have f3 := br.frozen 3
  have f4 := br.frozen 4
  have f5 := br.frozen 5
  have f6 := br.frozen 6
  have f7 := br.frozen 7
  go_wp2_with fail
  obtain ⟨W', hW'⟩ : ∃ W', W' = putU w6 z2 o (.slice A9 n9 c9) := ⟨_, rfl⟩
  have b9 := putU_box br o (.slice A9 n9 c9)
  have B9 := putU_below HLZ.out o (.slice A9 n9 c9) B6
  rw [← hW'] at b9 B9
  have e9 : W' = ((((((((w6.setCell ⟨z2, 0, none⟩ (.int .i64 o.sn.ix)).setCell ⟨z2, 1, none⟩ (.int .i64 o.sn.tm)).setCell ⟨z2, 2, none⟩ (.int .i64 o.sn.sm)).setCell ⟨z2, 3, none⟩ (.int .i64 o.sn.lv)).setCell ⟨z2, 4, none⟩ (.bool o.sn.fn)).setCell ⟨z2, 5, none⟩ (.slice A9 n9 c9)).setCell ⟨z2, 6, none⟩ (.int .i64 o.tm)).setCell ⟨z2, 7, none⟩ (.int .i64 o.vt)) := hW'
  have own10 : OwnE W' w.heap.size (.slice A9 n9 c9) n9 o.lg := by rw [hW']; exact putU_own br own9
  rw [← e9]
  clear e9 hW' g0 g1 g2 g3 g4 g5 g6 g7 f0 f1 f2 f3 f4 f5 f6 f7
  obtain ⟨g0, g1, g2, g3, g4, g5, g6, g7⟩ := b9.cells
  exact bodyPost_ret (v := .tuple #[tupV o (.slice A9 n9 c9), .int .i64 er]) (by unfold tupV; simp [results, Try.results20, go_sem, g0, g1, g2, g3, g4, g5, g6, g7]) rfl ⟨⟨o, er, A9, n9, c9, rfl, ToldIs.iff HR.out HC.out, hnc9, own10⟩, B9⟩
set_option maxRecDepth 100000 in
set_option maxHeartbeats 8000000 in
theorem rhard_3 (t : TupP) (A : Option Addr) (n c : Nat) (a b : Int) (w : World) (hS : Es w w.heap.size A n t.lg) (hn : n ≤ 1000000) (c1 : ¬ t.tm < a) (c2 : a = t.tm) (c3 : ¬ t.vt = 0) (c4 : t.vt = b) :
    Calls Try.prog 20 #[tupV t (.slice A n c), .int .i64 a, .int .i64 b] w (OutT (HardIs t a b) w.heap.size w) := by
  have q0 : decide (t.tm < a) = false := decide_eq_false c1
  have q1 : (a == t.tm) = true := by simpa using c2
  have q2 : (t.vt == 0) = false := by simpa using c3
  have q3 : (t.vt == b) = true := by simpa using c4
  have HC := Lib.hid (show (true = true) ↔ (t.tm < a ∨ (a = t.tm ∧ (t.vt = 0 ∨ t.vt = b))) by simp; omega)
  clear c1 c2 c3 c4
  have HS0 := Lib.hid hS
  have Hl := Lib.hid hS.len
  obtain ⟨z1, hz1⟩ : ∃ z, z = w.heap.size := ⟨_, rfl⟩
  obtain ⟨w1, hw1⟩ : ∃ x, x = w.alloc (.cells #[.int .i64 t.sn.ix, .int .i64 t.sn.tm, .int .i64 t.sn.sm, .int .i64 t.sn.lv, .bool t.sn.fn, .slice A n c, .int .i64 t.tm, .int .i64 t.vt] 26) := ⟨_, rfl⟩
  have bb : Below w.heap.size w w1 := by rw [hw1]; exact below_al (below_d0 _) _
  have bz : BoxU w1 z1 t (.slice A n c) := by rw [hw1, hz1]; exact BoxU.new w t _
  replace hS := hS.on bb bb.size
  have B1 := bb
  clear bb
  obtain ⟨z2, hz2⟩ : ∃ z, z = w1.heap.size := ⟨_, rfl⟩
  obtain ⟨w2, hw2⟩ : ∃ x, x = w1.alloc (.cells #[.int .i64 0, .int .i64 0, .int .i64 0, .int .i64 0, .bool false, .slice none 0 0, .int .i64 0, .int .i64 0] 26) := ⟨_, rfl⟩
  have bb : Below w1.heap.size w1 w2 := by rw [hw2]; exact below_al (below_d0 _) _
  have br : BoxU w2 z2 noneT (.slice none 0 0) := by rw [hw2, hz2]; exact BoxU.new w1 noneT _
  replace bz := bz.below bb
  replace hS := hS.on bb bb.size
  have B2 := B1.trans (bb.mono B1.size)
  clear bb B1
  have hp2 : z1 + 1 = z2 := by rw [hz2, hw1, hz1]; simp
  have lz2 : w.heap.size ≤ z2 := by omega
  have ne12 : z1 ≠ z2 := by omega
  have HE := Lib.hid (⟨hw1, hw2, hz1, hp2⟩ : _ ∧ _ ∧ _ ∧ _)
  have HLZ := Lib.hid lz2
  clear hw1 hz1 hw2 hz2 hp2 lz2
  unfold tupV
  go_enter Try.func20, Try.ntmps20
  obtain ⟨k0, k1, k2, k3, k4, k5, k6, k7⟩ := bz.cells
  go_wp2_with fail
  clear k0 k1 k2 k3 k4 k5 k6 k7
  rw [← HE.out.1, ← HE.out.2.1, ← HE.out.2.2.1]
  (try rw [HE.out.2.2.2])
  clear HE
  have B2x := B2
  refine Calls.mono (show Calls Try.prog 41 #[.agg #[.int .i64 t.sn.ix, .int .i64 t.sn.tm, .int .i64 t.sn.sm, .int .i64 t.sn.lv, .bool t.sn.fn, .slice A n c, .int .i64 t.tm, .int .i64 t.vt]] w2 (fun e w' => (∃ A' c', e = .returned (tupV t (.slice A' n c')) ∧ n ≤ c' ∧ OwnE w' w2.heap.size (.slice A' n c') n t.lg) ∧ Below w2.heap.size w2 w') from rownT_any t A n c w2 hS (by omega)) ?_
  intro e w3 hh
  obtain ⟨⟨A5, c5, rfl, hc5, own⟩, bb⟩ := hh
  (try clear hh)
  replace bz := bz.below bb
  replace br := br.below bb
  replace hS := hS.on bb bb.size
  have B3 := B2.trans (bb.mono B2.size)
  clear bb B2
  skip
  have B3x := B3
  replace own := own_low own B2x.size
  clear B2x
  have lbz := bz.lt
  have lbr := br.lt
  obtain ⟨z4, hz4⟩ : ∃ z, z = w3.heap.size := ⟨_, rfl⟩
  obtain ⟨w4, hw4⟩ : ∃ x, x = w3.alloc (.cells #[.int .i64 t.sn.ix, .int .i64 t.sn.tm, .int .i64 t.sn.sm, .int .i64 t.sn.lv, .bool t.sn.fn, .slice A5 n c5, .int .i64 t.tm, .int .i64 t.vt] 26) := ⟨_, rfl⟩
  have bb : Below w3.heap.size w3 w4 := by rw [hw4]; exact below_al (below_d0 _) _
  have bo : BoxU w4 z4 t (.slice A5 n c5) := by rw [hw4, hz4]; exact BoxU.new w3 t _
  replace own := own_keep own bb
  replace bz := bz.below bb
  replace br := br.below bb
  replace hS := hS.on bb bb.size
  have B4 := B3.trans (bb.mono B3.size)
  clear bb B3
  have hzo : w.heap.size ≤ z4 := by rw [hz4]; exact B3x.size
  have nbz : z1 ≠ z4 := by omega
  have nbr : z2 ≠ z4 := by omega
  have HE2 := Lib.hid (⟨hw4, hz4⟩ : _ ∧ _)
  clear hw4 hz4 lbz lbr
  unfold tupV
  go_upto_region 2 with fail
  rw [← HE2.out.1, ← HE2.out.2]
  clear HE2
  skip
  obtain ⟨j0, j1, j2, j3, j4, j5, j6, j7⟩ := bo.cells
  have f6 := bo.frozen 6
  have f7 := bo.frozen 7
  obtain ⟨k0, k1, k2, k3, k4, k5, k6, k7⟩ := bz.cells
  go_upto_region 3 with fail
  clear j0 j1 j2 j3 j4 j5 j6 j7
  clear k0 k1 k2 k3 k4 k5 k6 k7
  clear f6 f7
  obtain ⟨w5, hw5⟩ : ∃ x, x = (w4.setCell ⟨z4, 6, none⟩ (.int .i64 a)).setCell ⟨z4, 7, none⟩ (.int .i64 b) := ⟨_, rfl⟩
  replace own : OwnE w5 w.heap.size (.slice A5 n c5) n t.lg := by rw [hw5]; exact set_ownU (put6U bo a) (set_ownU bo own)
  replace bz : BoxU w5 z1 t (.slice A n c) := by rw [hw5]; exact set_boxU (set_boxU bz nbz) nbz
  replace br : BoxU w5 z2 noneT (.slice none 0 0) := by rw [hw5]; exact set_boxU (set_boxU br nbr) nbr
  replace bo : BoxU w5 z4 (hardT t a b) (.slice A5 n c5) := by rw [hw5]; exact put7U (put6U bo a) b
  have B5 : Below w.heap.size w w5 := by rw [hw5]; exact ((B4.setCell (p := ⟨z4, 6, none⟩) hzo _).setCell (p := ⟨z4, 7, none⟩) hzo _)
  clear hS
  have hS : Es w5 w5.heap.size A n t.lg := Row.on HS0.out B5 B5.size
  rw [← hw5]
  clear hw5 B4
  obtain ⟨k0, k1, k2, k3, k4, k5, k6, k7⟩ := bz.cells
  obtain ⟨j0, j1, j2, j3, j4, j5, j6, j7⟩ := bo.cells
  go_wp2_with fail
  clear k0 k1 k2 k3 k4 k5 k6 k7
  clear j0 j1 j2 j3 j4 j5 j6 j7
  refine Calls.mono (show Calls Try.prog 42 #[.agg #[.int .i64 t.sn.ix, .int .i64 t.sn.tm, .int .i64 t.sn.sm, .int .i64 t.sn.lv, .bool t.sn.fn, .slice A n c, .int .i64 t.tm, .int .i64 t.vt], .agg #[.int .i64 t.sn.ix, .int .i64 t.sn.tm, .int .i64 t.sn.sm, .int .i64 t.sn.lv, .bool t.sn.fn, .slice A5 n c5, .int .i64 a, .int .i64 b], .bool true] w5 (OutT (ToldIs t (hardT t a b) (true = true)) w.heap.size w5) from rtoldT_any t (hardT t a b) A A5 n c n c5 w.heap.size true w5 hS own (by omega) (by omega) hc5 B5.size) ?_
  intro e w6 hh
  obtain ⟨⟨o, er, A9, n9, c9, rfl, hR, hnc9, own9⟩, bb⟩ := hh
  (try clear hh)
  replace bz := bz.below bb
  replace br := br.below bb
  replace bo := bo.below bb
  replace hS := hS.on bb bb.size
  have B6 := B5.trans (bb.mono B5.size)
  clear bb B5
  unfold tupV
  have HR := Lib.hid hR
  clear hR
  obtain ⟨g0, g1, g2, g3, g4, g5, g6, g7⟩ := br.cells
  have f0 := br.frozen 0
  have f1 := br.frozen 1
  have f2 := br.frozen 2
  have f3 := br.frozen 3
  have f4 := br.frozen 4
  have f5 := br.frozen 5
  have f6 := br.frozen 6
  have f7 := br.frozen 7
  go_wp2_with fail
  obtain ⟨W', hW'⟩ : ∃ W', W' = putU w6 z2 o (.slice A9 n9 c9) := ⟨_, rfl⟩
  have b9 := putU_box br o (.slice A9 n9 c9)
  have B9 := putU_below HLZ.out o (.slice A9 n9 c9) B6
  rw [← hW'] at b9 B9
  have e9 : W' = ((((((((w6.setCell ⟨z2, 0, none⟩ (.int .i64 o.sn.ix)).setCell ⟨z2, 1, none⟩ (.int .i64 o.sn.tm)).setCell ⟨z2, 2, none⟩ (.int .i64 o.sn.sm)).setCell ⟨z2, 3, none⟩ (.int .i64 o.sn.lv)).setCell ⟨z2, 4, none⟩ (.bool o.sn.fn)).setCell ⟨z2, 5, none⟩ (.slice A9 n9 c9)).setCell ⟨z2, 6, none⟩ (.int .i64 o.tm)).setCell ⟨z2, 7, none⟩ (.int .i64 o.vt)) := hW'
  have own10 : OwnE W' w.heap.size (.slice A9 n9 c9) n9 o.lg := by rw [hW']; exact putU_own br own9
  rw [← e9]
  clear e9 hW' g0 g1 g2 g3 g4 g5 g6 g7 f0 f1 f2 f3 f4 f5 f6 f7
  obtain ⟨g0, g1, g2, g3, g4, g5, g6, g7⟩ := b9.cells
  exact bodyPost_ret (v := .tuple #[tupV o (.slice A9 n9 c9), .int .i64 er]) (by unfold tupV; simp [results, Try.results20, go_sem, g0, g1, g2, g3, g4, g5, g6, g7]) rfl ⟨⟨o, er, A9, n9, c9, rfl, ToldIs.iff HR.out HC.out, hnc9, own10⟩, B9⟩
set_option maxRecDepth 100000 in
set_option maxHeartbeats 8000000 in
theorem rhard_4 (t : TupP) (A : Option Addr) (n c : Nat) (a b : Int) (w : World) (hS : Es w w.heap.size A n t.lg) (hn : n ≤ 1000000) (c1 : ¬ t.tm < a) (c2 : a = t.tm) (c3 : ¬ t.vt = 0) (c4 : ¬ t.vt = b) :
    Calls Try.prog 20 #[tupV t (.slice A n c), .int .i64 a, .int .i64 b] w (OutT (HardIs t a b) w.heap.size w) := by
  have q0 : decide (t.tm < a) = false := decide_eq_false c1
  have q1 : (a == t.tm) = true := by simpa using c2
  have q2 : (t.vt == 0) = false := by simpa using c3
  have q3 : (t.vt == b) = false := by simpa using c4
  have HC := Lib.hid (show (false = true) ↔ (t.tm < a ∨ (a = t.tm ∧ (t.vt = 0 ∨ t.vt = b))) by simp; omega)
  clear c1 c2 c3 c4
  have HS0 := Lib.hid hS
  have Hl := Lib.hid hS.len
  obtain ⟨z1, hz1⟩ : ∃ z, z = w.heap.size := ⟨_, rfl⟩
  obtain ⟨w1, hw1⟩ : ∃ x, x = w.alloc (.cells #[.int .i64 t.sn.ix, .int .i64 t.sn.tm, .int .i64 t.sn.sm, .int .i64 t.sn.lv, .bool t.sn.fn, .slice A n c, .int .i64 t.tm, .int .i64 t.vt] 26) := ⟨_, rfl⟩
  have bb : Below w.heap.size w w1 := by rw [hw1]; exact below_al (below_d0 _) _
  have bz : BoxU w1 z1 t (.slice A n c) := by rw [hw1, hz1]; exact BoxU.new w t _
  replace hS := hS.on bb bb.size
  have B1 := bb
  clear bb
  obtain ⟨z2, hz2⟩ : ∃ z, z = w1.heap.size := ⟨_, rfl⟩
  obtain ⟨w2, hw2⟩ : ∃ x, x = w1.alloc (.cells #[.int .i64 0, .int .i64 0, .int .i64 0, .int .i64 0, .bool false, .slice none 0 0, .int .i64 0, .int .i64 0] 26) := ⟨_, rfl⟩
  have bb : Below w1.heap.size w1 w2 := by rw [hw2]; exact below_al (below_d0 _) _
  have br : BoxU w2 z2 noneT (.slice none 0 0) := by rw [hw2, hz2]; exact BoxU.new w1 noneT _
  replace bz := bz.below bb
  replace hS := hS.on bb bb.size
  have B2 := B1.trans (bb.mono B1.size)
  clear bb B1
  have hp2 : z1 + 1 = z2 := by rw [hz2, hw1, hz1]; simp
  have lz2 : w.heap.size ≤ z2 := by omega
  have ne12 : z1 ≠ z2 := by omega
  have HE := Lib.hid (⟨hw1, hw2, hz1, hp2⟩ : _ ∧ _ ∧ _ ∧ _)
  have HLZ := Lib.hid lz2
  clear hw1 hz1 hw2 hz2 hp2 lz2
  unfold tupV
  go_enter Try.func20, Try.ntmps20
  obtain ⟨k0, k1, k2, k3, k4, k5, k6, k7⟩ := bz.cells
  go_wp2_with fail
  clear k0 k1 k2 k3 k4 k5 k6 k7
  rw [← HE.out.1, ← HE.out.2.1, ← HE.out.2.2.1]
  (try rw [HE.out.2.2.2])
  clear HE
  have B2x := B2
  refine Calls.mono (show Calls Try.prog 41 #[.agg #[.int .i64 t.sn.ix, .int .i64 t.sn.tm, .int .i64 t.sn.sm, .int .i64 t.sn.lv, .bool t.sn.fn, .slice A n c, .int .i64 t.tm, .int .i64 t.vt]] w2 (fun e w' => (∃ A' c', e = .returned (tupV t (.slice A' n c')) ∧ n ≤ c' ∧ OwnE w' w2.heap.size (.slice A' n c') n t.lg) ∧ Below w2.heap.size w2 w') from rownT_any t A n c w2 hS (by omega)) ?_
  intro e w3 hh
  obtain ⟨⟨A5, c5, rfl, hc5, own⟩, bb⟩ := hh
  (try clear hh)
  replace bz := bz.below bb
  replace br := br.below bb
  replace hS := hS.on bb bb.size
  have B3 := B2.trans (bb.mono B2.size)
  clear bb B2
  skip
  have B3x := B3
  replace own := own_low own B2x.size
  clear B2x
  have lbz := bz.lt
  have lbr := br.lt
  obtain ⟨z4, hz4⟩ : ∃ z, z = w3.heap.size := ⟨_, rfl⟩
  obtain ⟨w4, hw4⟩ : ∃ x, x = w3.alloc (.cells #[.int .i64 t.sn.ix, .int .i64 t.sn.tm, .int .i64 t.sn.sm, .int .i64 t.sn.lv, .bool t.sn.fn, .slice A5 n c5, .int .i64 t.tm, .int .i64 t.vt] 26) := ⟨_, rfl⟩
  have bb : Below w3.heap.size w3 w4 := by rw [hw4]; exact below_al (below_d0 _) _
  have bo : BoxU w4 z4 t (.slice A5 n c5) := by rw [hw4, hz4]; exact BoxU.new w3 t _
  replace own := own_keep own bb
  replace bz := bz.below bb
  replace br := br.below bb
  replace hS := hS.on bb bb.size
  have B4 := B3.trans (bb.mono B3.size)
  clear bb B3
  have hzo : w.heap.size ≤ z4 := by rw [hz4]; exact B3x.size
  have nbz : z1 ≠ z4 := by omega
  have nbr : z2 ≠ z4 := by omega
  have HE2 := Lib.hid (⟨hw4, hz4⟩ : _ ∧ _)
  clear hw4 hz4 lbz lbr
  unfold tupV
  go_upto_region 2 with fail
  rw [← HE2.out.1, ← HE2.out.2]
  clear HE2
  skip
  obtain ⟨j0, j1, j2, j3, j4, j5, j6, j7⟩ := bo.cells
  have f6 := bo.frozen 6
  have f7 := bo.frozen 7
  obtain ⟨k0, k1, k2, k3, k4, k5, k6, k7⟩ := bz.cells
  go_upto_region 3 with fail
  clear j0 j1 j2 j3 j4 j5 j6 j7
  clear k0 k1 k2 k3 k4 k5 k6 k7
  clear f6 f7
  obtain ⟨w5, hw5⟩ : ∃ x, x = (w4.setCell ⟨z4, 6, none⟩ (.int .i64 a)).setCell ⟨z4, 7, none⟩ (.int .i64 b) := ⟨_, rfl⟩
  replace own : OwnE w5 w.heap.size (.slice A5 n c5) n t.lg := by rw [hw5]; exact set_ownU (put6U bo a) (set_ownU bo own)
  replace bz : BoxU w5 z1 t (.slice A n c) := by rw [hw5]; exact set_boxU (set_boxU bz nbz) nbz
  replace br : BoxU w5 z2 noneT (.slice none 0 0) := by rw [hw5]; exact set_boxU (set_boxU br nbr) nbr
  replace bo : BoxU w5 z4 (hardT t a b) (.slice A5 n c5) := by rw [hw5]; exact put7U (put6U bo a) b
  have B5 : Below w.heap.size w w5 := by rw [hw5]; exact ((B4.setCell (p := ⟨z4, 6, none⟩) hzo _).setCell (p := ⟨z4, 7, none⟩) hzo _)
  clear hS
  have hS : Es w5 w5.heap.size A n t.lg := Row.on HS0.out B5 B5.size
  rw [← hw5]
  clear hw5 B4
  obtain ⟨k0, k1, k2, k3, k4, k5, k6, k7⟩ := bz.cells
  obtain ⟨j0, j1, j2, j3, j4, j5, j6, j7⟩ := bo.cells
  go_wp2_with fail
  clear k0 k1 k2 k3 k4 k5 k6 k7
  clear j0 j1 j2 j3 j4 j5 j6 j7
  refine Calls.mono (show Calls Try.prog 42 #[.agg #[.int .i64 t.sn.ix, .int .i64 t.sn.tm, .int .i64 t.sn.sm, .int .i64 t.sn.lv, .bool t.sn.fn, .slice A n c, .int .i64 t.tm, .int .i64 t.vt], .agg #[.int .i64 t.sn.ix, .int .i64 t.sn.tm, .int .i64 t.sn.sm, .int .i64 t.sn.lv, .bool t.sn.fn, .slice A5 n c5, .int .i64 a, .int .i64 b], .bool false] w5 (OutT (ToldIs t (hardT t a b) (false = true)) w.heap.size w5) from rtoldT_any t (hardT t a b) A A5 n c n c5 w.heap.size false w5 hS own (by omega) (by omega) hc5 B5.size) ?_
  intro e w6 hh
  obtain ⟨⟨o, er, A9, n9, c9, rfl, hR, hnc9, own9⟩, bb⟩ := hh
  (try clear hh)
  replace bz := bz.below bb
  replace br := br.below bb
  replace bo := bo.below bb
  replace hS := hS.on bb bb.size
  have B6 := B5.trans (bb.mono B5.size)
  clear bb B5
  unfold tupV
  have HR := Lib.hid hR
  clear hR
  obtain ⟨g0, g1, g2, g3, g4, g5, g6, g7⟩ := br.cells
  have f0 := br.frozen 0
  have f1 := br.frozen 1
  have f2 := br.frozen 2
  have f3 := br.frozen 3
  have f4 := br.frozen 4
  have f5 := br.frozen 5
  have f6 := br.frozen 6
  have f7 := br.frozen 7
  go_wp2_with fail
  obtain ⟨W', hW'⟩ : ∃ W', W' = putU w6 z2 o (.slice A9 n9 c9) := ⟨_, rfl⟩
  have b9 := putU_box br o (.slice A9 n9 c9)
  have B9 := putU_below HLZ.out o (.slice A9 n9 c9) B6
  rw [← hW'] at b9 B9
  have e9 : W' = ((((((((w6.setCell ⟨z2, 0, none⟩ (.int .i64 o.sn.ix)).setCell ⟨z2, 1, none⟩ (.int .i64 o.sn.tm)).setCell ⟨z2, 2, none⟩ (.int .i64 o.sn.sm)).setCell ⟨z2, 3, none⟩ (.int .i64 o.sn.lv)).setCell ⟨z2, 4, none⟩ (.bool o.sn.fn)).setCell ⟨z2, 5, none⟩ (.slice A9 n9 c9)).setCell ⟨z2, 6, none⟩ (.int .i64 o.tm)).setCell ⟨z2, 7, none⟩ (.int .i64 o.vt)) := hW'
  have own10 : OwnE W' w.heap.size (.slice A9 n9 c9) n9 o.lg := by rw [hW']; exact putU_own br own9
  rw [← e9]
  clear e9 hW' g0 g1 g2 g3 g4 g5 g6 g7 f0 f1 f2 f3 f4 f5 f6 f7
  obtain ⟨g0, g1, g2, g3, g4, g5, g6, g7⟩ := b9.cells
  exact bodyPost_ret (v := .tuple #[tupV o (.slice A9 n9 c9), .int .i64 er]) (by unfold tupV; simp [results, Try.results20, go_sem, g0, g1, g2, g3, g4, g5, g6, g7]) rfl ⟨⟨o, er, A9, n9, c9, rfl, ToldIs.iff HR.out HC.out, hnc9, own10⟩, B9⟩
theorem rhardT_any (t : TupP) (A : Option Addr) (n c : Nat) (a b : Int) (w : World) (hS : Es w w.heap.size A n t.lg) (hn : n ≤ 1000000) :
    Calls Try.prog 20 #[tupV t (.slice A n c), .int .i64 a, .int .i64 b] w (OutT (HardIs t a b) w.heap.size w) := by
  by_cases c1 : t.tm < a
  · exact rhard_0 t A n c a b w hS hn c1
  by_cases c2 : a = t.tm
  case neg => exact rhard_1 t A n c a b w hS hn c1 c2
  by_cases c3 : t.vt = 0
  · exact rhard_2 t A n c a b w hS hn c1 c2 c3
  by_cases c4 : t.vt = b
  · exact rhard_3 t A n c a b w hS hn c1 c2 c3 c4
  exact rhard_4 t A n c a b w hS hn c1 c2 c3 c4
end Go.Proofs.Ytbhnlmlaebngmaa
