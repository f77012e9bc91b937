/-
  The document's Install, State, Same, First (of tuples), moultref06.Same: their contracts.
-/
import Derived.Test.YtbhnlmlaebngmaaTupS
import Derived.ChangeKeysEq
import Derived.RegionTactic
import Derived.BigRegion
import Derived.BigQuiet
namespace Go.Proofs.Ytbhnlmlaebngmaa
open Go.RowKit
set_option linter.unusedVariables false
set_option linter.unusedSimpArgs false
set_option maxRecDepth 100000 in
set_option maxHeartbeats 8000000 in
theorem rinst_no0 (t : TupP) (A : Option Addr) (n c : Nat) (s : StP) (w : World) (hS : Es w w.heap.size A n t.lg) (hn : n ≤ 100000) (hnc : n ≤ c) (hx : -1099511627776 ≤ t.sn.ix ∧ t.sn.ix ≤ 1099511627776) (hi : -1099511627776 ≤ s.ix ∧ s.ix ≤ 1099511627776) (c1 : s.ix ≤ t.sn.ix) :
    Calls Try.prog 18 #[tupV t (.slice A n c), s.v] w (OutT (InstallIs t s) w.heap.size w) := by
  have q0 : decide (s.ix ≤ t.sn.ix) = true := decide_eq_true c1
  have HC := Lib.hid (show InstallIs t s t 2 from install_no (by omega))
  clear c1
  have HB := Lib.hid (⟨hx, hi⟩ : _ ∧ _)
  clear hx hi
  have HS0 := Lib.hid hS
  have Hl := Lib.hid hS.len
  obtain ⟨z1, hz1⟩ : ∃ z, z = w.heap.size := ⟨_, rfl⟩
  obtain ⟨w1, hw1⟩ : ∃ x, x = w.alloc (.cells #[.int .i64 t.sn.ix, .int .i64 t.sn.tm, .int .i64 t.sn.sm, .int .i64 t.sn.lv, .bool t.sn.fn, .slice A n c, .int .i64 t.tm, .int .i64 t.vt] 26) := ⟨_, rfl⟩
  have bb : Below w.heap.size w w1 := by rw [hw1]; exact below_al (below_d0 _) _
  have bz : BoxU w1 z1 t (.slice A n c) := by rw [hw1, hz1]; exact BoxU.new w t _
  replace hS := hS.on bb bb.size
  have B1 := bb
  clear bb
  obtain ⟨z2, hz2⟩ : ∃ z, z = w1.heap.size := ⟨_, rfl⟩
  obtain ⟨w2, hw2⟩ : ∃ x, x = w1.alloc (.cells #[.int .i64 s.ix, .int .i64 s.tm, .int .i64 s.sm, .int .i64 s.lv, .bool s.fn] 23) := ⟨_, rfl⟩
  have bb : Below w1.heap.size w1 w2 := by rw [hw2]; exact below_al (below_d0 _) _
  have bs : BoxS w2 z2 s := by rw [hw2, hz2]; exact BoxS.new w1 s
  replace bz := bz.below bb
  replace hS := hS.on bb bb.size
  have B2 := B1.trans (bb.mono B1.size)
  clear bb B1
  obtain ⟨z3, hz3⟩ : ∃ z, z = w2.heap.size := ⟨_, rfl⟩
  obtain ⟨w3, hw3⟩ : ∃ x, x = w2.alloc (.cells #[.int .i64 0, .int .i64 0, .int .i64 0, .int .i64 0, .bool false, .slice none 0 0, .int .i64 0, .int .i64 0] 26) := ⟨_, rfl⟩
  have bb : Below w2.heap.size w2 w3 := by rw [hw3]; exact below_al (below_d0 _) _
  have br : BoxU w3 z3 noneT (.slice none 0 0) := by rw [hw3, hz3]; exact BoxU.new w2 noneT _
  replace bz := bz.below bb
  replace bs := bs.below bb
  replace hS := hS.on bb bb.size
  have B3 := B2.trans (bb.mono B2.size)
  clear bb B2
  have hp2 : z1 + 1 = z2 := by rw [hz2, hw1, hz1]; simp
  have hp3 : z2 + 1 = z3 := by rw [hz3, hw2, hz2]; simp
  have lz2 : w.heap.size ≤ z2 := by omega
  have lz3 : w.heap.size ≤ z3 := by omega
  have ne12 : z1 ≠ z2 := by omega
  have ne13 : z1 ≠ z3 := by omega
  have ne23 : z2 ≠ z3 := by omega
  have HE := Lib.hid (⟨hw1, hw2, hw3, hz1, hp2, hp3⟩ : _ ∧ _ ∧ _ ∧ _ ∧ _ ∧ _)
  have HLZ := Lib.hid (⟨lz2, lz3⟩ : _ ∧ _)
  clear hw1 hz1 hw2 hz2 hw3 hz3 hp2 hp3 lz2 lz3
  unfold StP.v
  unfold tupV
  go_enter Try.func18, Try.ntmps18
  obtain ⟨k0, k1, k2, k3, k4, k5, k6, k7⟩ := bz.cells
  obtain ⟨i0, i1, i2, i3, i4⟩ := bs.cells
  go_wp2_with fail
  clear k0 k1 k2 k3 k4 k5 k6 k7
  clear i0 i1 i2 i3 i4
  rw [← HE.out.1, ← HE.out.2.1, ← HE.out.2.2.1, ← HE.out.2.2.2.1]
  (try rw [HE.out.2.2.2.2.1])
  (try rw [HE.out.2.2.2.2.2])
  clear HE
  refine Calls.mono (show Calls Try.prog 42 #[.agg #[.int .i64 t.sn.ix, .int .i64 t.sn.tm, .int .i64 t.sn.sm, .int .i64 t.sn.lv, .bool t.sn.fn, .slice A n c, .int .i64 t.tm, .int .i64 t.vt], .agg #[.int .i64 t.sn.ix, .int .i64 t.sn.tm, .int .i64 t.sn.sm, .int .i64 t.sn.lv, .bool t.sn.fn, .slice A n c, .int .i64 t.tm, .int .i64 t.vt], .bool false] w3 (OutT (ToldIs t t (false = true)) w.heap.size w3) from told_no0 t t A A n c n c w.heap.size false w3 hS (by omega) (by omega) hnc B3.size rfl) ?_
  intro e w4 hh
  obtain ⟨⟨o, er, A9, n9, c9, rfl, hR, hnc9, own9⟩, bb⟩ := hh
  (try clear hh)
  replace bz := bz.below bb
  replace bs := bs.below bb
  replace br := br.below bb
  replace hS := hS.on bb bb.size
  have B4 := B3.trans (bb.mono B3.size)
  clear bb B3
  obtain ⟨rfl, rfl⟩ := hR.no (by simp)
  have hR : InstallIs o s o 2 := HC.out
  unfold tupV
  have HR := Lib.hid hR
  clear hR
  obtain ⟨g0, g1, g2, g3, g4, g5, g6, g7⟩ := br.cells
  have f0 := br.frozen 0
  have f1 := br.frozen 1
  have f2 := br.frozen 2
  have f3 := br.frozen 3
  have f4 := br.frozen 4
  have f5 := br.frozen 5
  have f6 := br.frozen 6
  have f7 := br.frozen 7
  go_wp2_with fail
  obtain ⟨W', hW'⟩ : ∃ W', W' = putU w4 z3 o (.slice A9 n9 c9) := ⟨_, rfl⟩
  have b9 := putU_box br o (.slice A9 n9 c9)
  have B9 := putU_below HLZ.out.2 o (.slice A9 n9 c9) B4
  rw [← hW'] at b9 B9
  have e9 : W' = ((((((((w4.setCell ⟨z3, 0, none⟩ (.int .i64 o.sn.ix)).setCell ⟨z3, 1, none⟩ (.int .i64 o.sn.tm)).setCell ⟨z3, 2, none⟩ (.int .i64 o.sn.sm)).setCell ⟨z3, 3, none⟩ (.int .i64 o.sn.lv)).setCell ⟨z3, 4, none⟩ (.bool o.sn.fn)).setCell ⟨z3, 5, none⟩ (.slice A9 n9 c9)).setCell ⟨z3, 6, none⟩ (.int .i64 o.tm)).setCell ⟨z3, 7, none⟩ (.int .i64 o.vt)) := hW'
  have own10 : OwnE W' w.heap.size (.slice A9 n9 c9) n9 o.lg := by rw [hW']; exact putU_own br own9
  rw [← e9]
  clear e9 hW' g0 g1 g2 g3 g4 g5 g6 g7 f0 f1 f2 f3 f4 f5 f6 f7
  obtain ⟨g0, g1, g2, g3, g4, g5, g6, g7⟩ := b9.cells
  exact bodyPost_ret (v := .tuple #[tupV o (.slice A9 n9 c9), .int .i64 2]) (by unfold tupV; simp [results, Try.results18, go_sem, g0, g1, g2, g3, g4, g5, g6, g7]) rfl ⟨⟨o, 2, A9, n9, c9, rfl, HR.out, hnc9, own10⟩, B9⟩
set_option maxRecDepth 100000 in
set_option maxHeartbeats 8000000 in
theorem rinst_no1 (t : TupP) (A : Option Addr) (n c : Nat) (s : StP) (w : World) (hS : Es w w.heap.size A n t.lg) (hn : n ≤ 100000) (hnc : n ≤ c) (hx : -1099511627776 ≤ t.sn.ix ∧ t.sn.ix ≤ 1099511627776) (hi : -1099511627776 ≤ s.ix ∧ s.ix ≤ 1099511627776) (c1 : ¬ s.ix ≤ t.sn.ix) (c2 : t.tm < s.tm) :
    Calls Try.prog 18 #[tupV t (.slice A n c), s.v] w (OutT (InstallIs t s) w.heap.size w) := by
  have q0 : decide (s.ix ≤ t.sn.ix) = false := decide_eq_false c1
  have q1 : decide (t.tm < s.tm) = true := decide_eq_true c2
  have HC := Lib.hid (show InstallIs t s t 2 from install_no (by omega))
  clear c1 c2
  have HB := Lib.hid (⟨hx, hi⟩ : _ ∧ _)
  clear hx hi
  have HS0 := Lib.hid hS
  have Hl := Lib.hid hS.len
  obtain ⟨z1, hz1⟩ : ∃ z, z = w.heap.size := ⟨_, rfl⟩
  obtain ⟨w1, hw1⟩ : ∃ x, x = w.alloc (.cells #[.int .i64 t.sn.ix, .int .i64 t.sn.tm, .int .i64 t.sn.sm, .int .i64 t.sn.lv, .bool t.sn.fn, .slice A n c, .int .i64 t.tm, .int .i64 t.vt] 26) := ⟨_, rfl⟩
  have bb : Below w.heap.size w w1 := by rw [hw1]; exact below_al (below_d0 _) _
  have bz : BoxU w1 z1 t (.slice A n c) := by rw [hw1, hz1]; exact BoxU.new w t _
  replace hS := hS.on bb bb.size
  have B1 := bb
  clear bb
  obtain ⟨z2, hz2⟩ : ∃ z, z = w1.heap.size := ⟨_, rfl⟩
  obtain ⟨w2, hw2⟩ : ∃ x, x = w1.alloc (.cells #[.int .i64 s.ix, .int .i64 s.tm, .int .i64 s.sm, .int .i64 s.lv, .bool s.fn] 23) := ⟨_, rfl⟩
  have bb : Below w1.heap.size w1 w2 := by rw [hw2]; exact below_al (below_d0 _) _
  have bs : BoxS w2 z2 s := by rw [hw2, hz2]; exact BoxS.new w1 s
  replace bz := bz.below bb
  replace hS := hS.on bb bb.size
  have B2 := B1.trans (bb.mono B1.size)
  clear bb B1
  obtain ⟨z3, hz3⟩ : ∃ z, z = w2.heap.size := ⟨_, rfl⟩
  obtain ⟨w3, hw3⟩ : ∃ x, x = w2.alloc (.cells #[.int .i64 0, .int .i64 0, .int .i64 0, .int .i64 0, .bool false, .slice none 0 0, .int .i64 0, .int .i64 0] 26) := ⟨_, rfl⟩
  have bb : Below w2.heap.size w2 w3 := by rw [hw3]; exact below_al (below_d0 _) _
  have br : BoxU w3 z3 noneT (.slice none 0 0) := by rw [hw3, hz3]; exact BoxU.new w2 noneT _
  replace bz := bz.below bb
  replace bs := bs.below bb
  replace hS := hS.on bb bb.size
  have B3 := B2.trans (bb.mono B2.size)
  clear bb B2
  have hp2 : z1 + 1 = z2 := by rw [hz2, hw1, hz1]; simp
  have hp3 : z2 + 1 = z3 := by rw [hz3, hw2, hz2]; simp
  have lz2 : w.heap.size ≤ z2 := by omega
  have lz3 : w.heap.size ≤ z3 := by omega
  have ne12 : z1 ≠ z2 := by omega
  have ne13 : z1 ≠ z3 := by omega
  have ne23 : z2 ≠ z3 := by omega
  have HE := Lib.hid (⟨hw1, hw2, hw3, hz1, hp2, hp3⟩ : _ ∧ _ ∧ _ ∧ _ ∧ _ ∧ _)
  have HLZ := Lib.hid (⟨lz2, lz3⟩ : _ ∧ _)
  clear hw1 hz1 hw2 hz2 hw3 hz3 hp2 hp3 lz2 lz3
  unfold StP.v
  unfold tupV
  go_enter Try.func18, Try.ntmps18
  obtain ⟨k0, k1, k2, k3, k4, k5, k6, k7⟩ := bz.cells
  obtain ⟨i0, i1, i2, i3, i4⟩ := bs.cells
  go_wp2_with fail
  clear k0 k1 k2 k3 k4 k5 k6 k7
  clear i0 i1 i2 i3 i4
  rw [← HE.out.1, ← HE.out.2.1, ← HE.out.2.2.1, ← HE.out.2.2.2.1]
  (try rw [HE.out.2.2.2.2.1])
  (try rw [HE.out.2.2.2.2.2])
  clear HE
  refine Calls.mono (show Calls Try.prog 42 #[.agg #[.int .i64 t.sn.ix, .int .i64 t.sn.tm, .int .i64 t.sn.sm, .int .i64 t.sn.lv, .bool t.sn.fn, .slice A n c, .int .i64 t.tm, .int .i64 t.vt], .agg #[.int .i64 t.sn.ix, .int .i64 t.sn.tm, .int .i64 t.sn.sm, .int .i64 t.sn.lv, .bool t.sn.fn, .slice A n c, .int .i64 t.tm, .int .i64 t.vt], .bool false] w3 (OutT (ToldIs t t (false = true)) w.heap.size w3) from told_no0 t t A A n c n c w.heap.size false w3 hS (by omega) (by omega) hnc B3.size rfl) ?_
  intro e w4 hh
  obtain ⟨⟨o, er, A9, n9, c9, rfl, hR, hnc9, own9⟩, bb⟩ := hh
  (try clear hh)
  replace bz := bz.below bb
  replace bs := bs.below bb
  replace br := br.below bb
  replace hS := hS.on bb bb.size
  have B4 := B3.trans (bb.mono B3.size)
  clear bb B3
  obtain ⟨rfl, rfl⟩ := hR.no (by simp)
  have hR : InstallIs o s o 2 := HC.out
  unfold tupV
  have HR := Lib.hid hR
  clear hR
  obtain ⟨g0, g1, g2, g3, g4, g5, g6, g7⟩ := br.cells
  have f0 := br.frozen 0
  have f1 := br.frozen 1
  have f2 := br.frozen 2
  have f3 := br.frozen 3
  have f4 := br.frozen 4
  have f5 := br.frozen 5
  have f6 := br.frozen 6
  have f7 := br.frozen 7
  go_wp2_with fail
  obtain ⟨W', hW'⟩ : ∃ W', W' = putU w4 z3 o (.slice A9 n9 c9) := ⟨_, rfl⟩
  have b9 := putU_box br o (.slice A9 n9 c9)
  have B9 := putU_below HLZ.out.2 o (.slice A9 n9 c9) B4
  rw [← hW'] at b9 B9
  have e9 : W' = ((((((((w4.setCell ⟨z3, 0, none⟩ (.int .i64 o.sn.ix)).setCell ⟨z3, 1, none⟩ (.int .i64 o.sn.tm)).setCell ⟨z3, 2, none⟩ (.int .i64 o.sn.sm)).setCell ⟨z3, 3, none⟩ (.int .i64 o.sn.lv)).setCell ⟨z3, 4, none⟩ (.bool o.sn.fn)).setCell ⟨z3, 5, none⟩ (.slice A9 n9 c9)).setCell ⟨z3, 6, none⟩ (.int .i64 o.tm)).setCell ⟨z3, 7, none⟩ (.int .i64 o.vt)) := hW'
  have own10 : OwnE W' w.heap.size (.slice A9 n9 c9) n9 o.lg := by rw [hW']; exact putU_own br own9
  rw [← e9]
  clear e9 hW' g0 g1 g2 g3 g4 g5 g6 g7 f0 f1 f2 f3 f4 f5 f6 f7
  obtain ⟨g0, g1, g2, g3, g4, g5, g6, g7⟩ := b9.cells
  exact bodyPost_ret (v := .tuple #[tupV o (.slice A9 n9 c9), .int .i64 2]) (by unfold tupV; simp [results, Try.results18, go_sem, g0, g1, g2, g3, g4, g5, g6, g7]) rfl ⟨⟨o, 2, A9, n9, c9, rfl, HR.out, hnc9, own10⟩, B9⟩
set_option maxRecDepth 100000 in
set_option maxHeartbeats 8000000 in
theorem rinst_g0 (t : TupP) (A : Option Addr) (n c : Nat) (s : StP) (w : World) (hS : Es w w.heap.size A n t.lg) (hn : n ≤ 100000) (hnc : n ≤ c) (hx : -1099511627776 ≤ t.sn.ix ∧ t.sn.ix ≤ 1099511627776) (hi : -1099511627776 ≤ s.ix ∧ s.ix ≤ 1099511627776) (c1 : ¬ s.ix ≤ t.sn.ix) (c2 : ¬ t.tm < s.tm) (h : termAtP t s.ix = none) :
    Calls Try.prog 18 #[tupV t (.slice A n c), s.v] w (OutT (InstallIs t s) w.heap.size w) := by
  have q0 : decide (s.ix ≤ t.sn.ix) = false := decide_eq_false c1
  have q1 : decide (t.tm < s.tm) = false := decide_eq_false c2
  have HV := Lib.hid (term_no h)
  have HC := Lib.hid (show termAtP t s.ix ≠ some s.tm ∧ ((true = true) ↔ (t.sn.ix < s.ix ∧ s.tm ≤ t.tm)) from ⟨by rw [h]; simp, by simp; omega⟩)
  clear c1 c2 h
  have HB := Lib.hid (⟨hx, hi⟩ : _ ∧ _)
  clear hx hi
  have HS0 := Lib.hid hS
  have Hl := Lib.hid hS.len
  obtain ⟨z1, hz1⟩ : ∃ z, z = w.heap.size := ⟨_, rfl⟩
  obtain ⟨w1, hw1⟩ : ∃ x, x = w.alloc (.cells #[.int .i64 t.sn.ix, .int .i64 t.sn.tm, .int .i64 t.sn.sm, .int .i64 t.sn.lv, .bool t.sn.fn, .slice A n c, .int .i64 t.tm, .int .i64 t.vt] 26) := ⟨_, rfl⟩
  have bb : Below w.heap.size w w1 := by rw [hw1]; exact below_al (below_d0 _) _
  have bz : BoxU w1 z1 t (.slice A n c) := by rw [hw1, hz1]; exact BoxU.new w t _
  replace hS := hS.on bb bb.size
  have B1 := bb
  clear bb
  obtain ⟨z2, hz2⟩ : ∃ z, z = w1.heap.size := ⟨_, rfl⟩
  obtain ⟨w2, hw2⟩ : ∃ x, x = w1.alloc (.cells #[.int .i64 s.ix, .int .i64 s.tm, .int .i64 s.sm, .int .i64 s.lv, .bool s.fn] 23) := ⟨_, rfl⟩
  have bb : Below w1.heap.size w1 w2 := by rw [hw2]; exact below_al (below_d0 _) _
  have bs : BoxS w2 z2 s := by rw [hw2, hz2]; exact BoxS.new w1 s
  replace bz := bz.below bb
  replace hS := hS.on bb bb.size
  have B2 := B1.trans (bb.mono B1.size)
  clear bb B1
  obtain ⟨z3, hz3⟩ : ∃ z, z = w2.heap.size := ⟨_, rfl⟩
  obtain ⟨w3, hw3⟩ : ∃ x, x = w2.alloc (.cells #[.int .i64 0, .int .i64 0, .int .i64 0, .int .i64 0, .bool false, .slice none 0 0, .int .i64 0, .int .i64 0] 26) := ⟨_, rfl⟩
  have bb : Below w2.heap.size w2 w3 := by rw [hw3]; exact below_al (below_d0 _) _
  have br : BoxU w3 z3 noneT (.slice none 0 0) := by rw [hw3, hz3]; exact BoxU.new w2 noneT _
  replace bz := bz.below bb
  replace bs := bs.below bb
  replace hS := hS.on bb bb.size
  have B3 := B2.trans (bb.mono B2.size)
  clear bb B2
  have hp2 : z1 + 1 = z2 := by rw [hz2, hw1, hz1]; simp
  have hp3 : z2 + 1 = z3 := by rw [hz3, hw2, hz2]; simp
  have lz2 : w.heap.size ≤ z2 := by omega
  have lz3 : w.heap.size ≤ z3 := by omega
  have ne12 : z1 ≠ z2 := by omega
  have ne13 : z1 ≠ z3 := by omega
  have ne23 : z2 ≠ z3 := by omega
  have HE := Lib.hid (⟨hw1, hw2, hw3, hz1, hp2, hp3⟩ : _ ∧ _ ∧ _ ∧ _ ∧ _ ∧ _)
  have HLZ := Lib.hid (⟨lz2, lz3⟩ : _ ∧ _)
  clear hw1 hz1 hw2 hz2 hw3 hz3 hp2 hp3 lz2 lz3
  unfold StP.v
  unfold tupV
  go_enter Try.func18, Try.ntmps18
  obtain ⟨k0, k1, k2, k3, k4, k5, k6, k7⟩ := bz.cells
  obtain ⟨i0, i1, i2, i3, i4⟩ := bs.cells
  go_wp2_with fail
  clear k0 k1 k2 k3 k4 k5 k6 k7
  clear i0 i1 i2 i3 i4
  rw [← HE.out.1, ← HE.out.2.1, ← HE.out.2.2.1, ← HE.out.2.2.2.1]
  (try rw [HE.out.2.2.2.2.1])
  (try rw [HE.out.2.2.2.2.2])
  clear HE
  refine Calls.mono (show Calls Try.prog 22 #[.agg #[.int .i64 t.sn.ix, .int .i64 t.sn.tm, .int .i64 t.sn.sm, .int .i64 t.sn.lv, .bool t.sn.fn, .slice A n c, .int .i64 t.tm, .int .i64 t.vt], .int .i64 s.ix] w3 (fun e w' => e = .returned (.tuple #[.int .i64 0, .bool false]) ∧ Below w3.heap.size w3 w') from by rw [← HV.out]; exact rtermAtT_any t A n c s.ix w3 hS (by omega) HB.out.1 HB.out.2) ?_
  intro e w4 hh
  obtain ⟨rfl, bb⟩ := hh
  (try clear hh)
  replace bz := bz.below bb
  replace bs := bs.below bb
  replace br := br.below bb
  replace hS := hS.on bb bb.size
  have B4 := B3.trans (bb.mono B3.size)
  clear bb B3
  obtain ⟨k0, k1, k2, k3, k4, k5, k6, k7⟩ := bz.cells
  obtain ⟨i0, i1, i2, i3, i4⟩ := bs.cells
  go_wp2_with fail
  clear k0 k1 k2 k3 k4 k5 k6 k7
  clear i0 i1 i2 i3 i4
  have own : OwnE w4 w.heap.size (.slice none 0 0) 0 (goneT t s).lg := World.ownsRow_nil _ _ _ _
  refine Calls.mono (show Calls Try.prog 42 #[.agg #[.int .i64 t.sn.ix, .int .i64 t.sn.tm, .int .i64 t.sn.sm, .int .i64 t.sn.lv, .bool t.sn.fn, .slice A n c, .int .i64 t.tm, .int .i64 t.vt], .agg #[.int .i64 s.ix, .int .i64 s.tm, .int .i64 s.sm, .int .i64 s.lv, .bool s.fn, .slice none 0 0, .int .i64 t.tm, .int .i64 t.vt], .bool true] w4 (OutT (ToldIs t (goneT t s) (true = true)) w.heap.size w4) from rtoldT_any t (goneT t s) A none n c 0 0 w.heap.size true w4 hS own (by omega) (by omega) (by omega) B4.size) ?_
  intro e w5 hh
  obtain ⟨⟨o, er, A9, n9, c9, rfl, hR, hnc9, own9⟩, bb⟩ := hh
  (try clear hh)
  replace bz := bz.below bb
  replace bs := bs.below bb
  replace br := br.below bb
  replace hS := hS.on bb bb.size
  have B5 := B4.trans (bb.mono B4.size)
  clear bb B4
  unfold tupV
  have HR := Lib.hid hR
  clear hR
  obtain ⟨g0, g1, g2, g3, g4, g5, g6, g7⟩ := br.cells
  have f0 := br.frozen 0
  have f1 := br.frozen 1
  have f2 := br.frozen 2
  have f3 := br.frozen 3
  have f4 := br.frozen 4
  have f5 := br.frozen 5
  have f6 := br.frozen 6
  have f7 := br.frozen 7
  go_wp2_with fail
  obtain ⟨W', hW'⟩ : ∃ W', W' = putU w5 z3 o (.slice A9 n9 c9) := ⟨_, rfl⟩
  have b9 := putU_box br o (.slice A9 n9 c9)
  have B9 := putU_below HLZ.out.2 o (.slice A9 n9 c9) B5
  rw [← hW'] at b9 B9
  have e9 : W' = ((((((((w5.setCell ⟨z3, 0, none⟩ (.int .i64 o.sn.ix)).setCell ⟨z3, 1, none⟩ (.int .i64 o.sn.tm)).setCell ⟨z3, 2, none⟩ (.int .i64 o.sn.sm)).setCell ⟨z3, 3, none⟩ (.int .i64 o.sn.lv)).setCell ⟨z3, 4, none⟩ (.bool o.sn.fn)).setCell ⟨z3, 5, none⟩ (.slice A9 n9 c9)).setCell ⟨z3, 6, none⟩ (.int .i64 o.tm)).setCell ⟨z3, 7, none⟩ (.int .i64 o.vt)) := hW'
  have own10 : OwnE W' w.heap.size (.slice A9 n9 c9) n9 o.lg := by rw [hW']; exact putU_own br own9
  rw [← e9]
  clear e9 hW' g0 g1 g2 g3 g4 g5 g6 g7 f0 f1 f2 f3 f4 f5 f6 f7
  obtain ⟨g0, g1, g2, g3, g4, g5, g6, g7⟩ := b9.cells
  exact bodyPost_ret (v := .tuple #[tupV o (.slice A9 n9 c9), .int .i64 er]) (by unfold tupV; simp [results, Try.results18, go_sem, g0, g1, g2, g3, g4, g5, g6, g7]) rfl ⟨⟨o, er, A9, n9, c9, rfl, .inr ⟨HC.out.1, ToldIs.iff HR.out HC.out.2⟩, hnc9, own10⟩, B9⟩
set_option maxRecDepth 100000 in
set_option maxHeartbeats 8000000 in
theorem rinst_g1 (t : TupP) (A : Option Addr) (n c : Nat) (s : StP) (w : World) (hS : Es w w.heap.size A n t.lg) (hn : n ≤ 100000) (hnc : n ≤ c) (hx : -1099511627776 ≤ t.sn.ix ∧ t.sn.ix ≤ 1099511627776) (hi : -1099511627776 ≤ s.ix ∧ s.ix ≤ 1099511627776) (c1 : ¬ s.ix ≤ t.sn.ix) (c2 : ¬ t.tm < s.tm) (x : Int) (h : termAtP t s.ix = some x) (h1 : ¬ x = s.tm) :
    Calls Try.prog 18 #[tupV t (.slice A n c), s.v] w (OutT (InstallIs t s) w.heap.size w) := by
  have q0 : decide (s.ix ≤ t.sn.ix) = false := decide_eq_false c1
  have q1 : decide (t.tm < s.tm) = false := decide_eq_false c2
  have HV := Lib.hid (term_yes h)
  have HC := Lib.hid (show termAtP t s.ix ≠ some s.tm ∧ ((true = true) ↔ (t.sn.ix < s.ix ∧ s.tm ≤ t.tm)) from ⟨by rw [h]; simp; exact h1, by simp; omega⟩)
  have q2 : (x == s.tm) = false := by simpa using h1
  clear c1 c2 h h1
  have HB := Lib.hid (⟨hx, hi⟩ : _ ∧ _)
  clear hx hi
  have HS0 := Lib.hid hS
  have Hl := Lib.hid hS.len
  obtain ⟨z1, hz1⟩ : ∃ z, z = w.heap.size := ⟨_, rfl⟩
  obtain ⟨w1, hw1⟩ : ∃ x, x = w.alloc (.cells #[.int .i64 t.sn.ix, .int .i64 t.sn.tm, .int .i64 t.sn.sm, .int .i64 t.sn.lv, .bool t.sn.fn, .slice A n c, .int .i64 t.tm, .int .i64 t.vt] 26) := ⟨_, rfl⟩
  have bb : Below w.heap.size w w1 := by rw [hw1]; exact below_al (below_d0 _) _
  have bz : BoxU w1 z1 t (.slice A n c) := by rw [hw1, hz1]; exact BoxU.new w t _
  replace hS := hS.on bb bb.size
  have B1 := bb
  clear bb
  obtain ⟨z2, hz2⟩ : ∃ z, z = w1.heap.size := ⟨_, rfl⟩
  obtain ⟨w2, hw2⟩ : ∃ x, x = w1.alloc (.cells #[.int .i64 s.ix, .int .i64 s.tm, .int .i64 s.sm, .int .i64 s.lv, .bool s.fn] 23) := ⟨_, rfl⟩
  have bb : Below w1.heap.size w1 w2 := by rw [hw2]; exact below_al (below_d0 _) _
  have bs : BoxS w2 z2 s := by rw [hw2, hz2]; exact BoxS.new w1 s
  replace bz := bz.below bb
  replace hS := hS.on bb bb.size
  have B2 := B1.trans (bb.mono B1.size)
  clear bb B1
  obtain ⟨z3, hz3⟩ : ∃ z, z = w2.heap.size := ⟨_, rfl⟩
  obtain ⟨w3, hw3⟩ : ∃ x, x = w2.alloc (.cells #[.int .i64 0, .int .i64 0, .int .i64 0, .int .i64 0, .bool false, .slice none 0 0, .int .i64 0, .int .i64 0] 26) := ⟨_, rfl⟩
  have bb : Below w2.heap.size w2 w3 := by rw [hw3]; exact below_al (below_d0 _) _
  have br : BoxU w3 z3 noneT (.slice none 0 0) := by rw [hw3, hz3]; exact BoxU.new w2 noneT _
  replace bz := bz.below bb
  replace bs := bs.below bb
  replace hS := hS.on bb bb.size
  have B3 := B2.trans (bb.mono B2.size)
  clear bb B2
  have hp2 : z1 + 1 = z2 := by rw [hz2, hw1, hz1]; simp
  have hp3 : z2 + 1 = z3 := by rw [hz3, hw2, hz2]; simp
  have lz2 : w.heap.size ≤ z2 := by omega
  have lz3 : w.heap.size ≤ z3 := by omega
  have ne12 : z1 ≠ z2 := by omega
  have ne13 : z1 ≠ z3 := by omega
  have ne23 : z2 ≠ z3 := by omega
  have HE := Lib.hid (⟨hw1, hw2, hw3, hz1, hp2, hp3⟩ : _ ∧ _ ∧ _ ∧ _ ∧ _ ∧ _)
  have HLZ := Lib.hid (⟨lz2, lz3⟩ : _ ∧ _)
  clear hw1 hz1 hw2 hz2 hw3 hz3 hp2 hp3 lz2 lz3
  unfold StP.v
  unfold tupV
  go_enter Try.func18, Try.ntmps18
  obtain ⟨k0, k1, k2, k3, k4, k5, k6, k7⟩ := bz.cells
  obtain ⟨i0, i1, i2, i3, i4⟩ := bs.cells
  go_wp2_with fail
  clear k0 k1 k2 k3 k4 k5 k6 k7
  clear i0 i1 i2 i3 i4
  rw [← HE.out.1, ← HE.out.2.1, ← HE.out.2.2.1, ← HE.out.2.2.2.1]
  (try rw [HE.out.2.2.2.2.1])
  (try rw [HE.out.2.2.2.2.2])
  clear HE
  refine Calls.mono (show Calls Try.prog 22 #[.agg #[.int .i64 t.sn.ix, .int .i64 t.sn.tm, .int .i64 t.sn.sm, .int .i64 t.sn.lv, .bool t.sn.fn, .slice A n c, .int .i64 t.tm, .int .i64 t.vt], .int .i64 s.ix] w3 (fun e w' => e = .returned (.tuple #[.int .i64 x, .bool true]) ∧ Below w3.heap.size w3 w') from by rw [← HV.out]; exact rtermAtT_any t A n c s.ix w3 hS (by omega) HB.out.1 HB.out.2) ?_
  intro e w4 hh
  obtain ⟨rfl, bb⟩ := hh
  (try clear hh)
  replace bz := bz.below bb
  replace bs := bs.below bb
  replace br := br.below bb
  replace hS := hS.on bb bb.size
  have B4 := B3.trans (bb.mono B3.size)
  clear bb B3
  obtain ⟨k0, k1, k2, k3, k4, k5, k6, k7⟩ := bz.cells
  obtain ⟨i0, i1, i2, i3, i4⟩ := bs.cells
  go_wp2_with fail
  clear k0 k1 k2 k3 k4 k5 k6 k7
  clear i0 i1 i2 i3 i4
  have own : OwnE w4 w.heap.size (.slice none 0 0) 0 (goneT t s).lg := World.ownsRow_nil _ _ _ _
  refine Calls.mono (show Calls Try.prog 42 #[.agg #[.int .i64 t.sn.ix, .int .i64 t.sn.tm, .int .i64 t.sn.sm, .int .i64 t.sn.lv, .bool t.sn.fn, .slice A n c, .int .i64 t.tm, .int .i64 t.vt], .agg #[.int .i64 s.ix, .int .i64 s.tm, .int .i64 s.sm, .int .i64 s.lv, .bool s.fn, .slice none 0 0, .int .i64 t.tm, .int .i64 t.vt], .bool true] w4 (OutT (ToldIs t (goneT t s) (true = true)) w.heap.size w4) from rtoldT_any t (goneT t s) A none n c 0 0 w.heap.size true w4 hS own (by omega) (by omega) (by omega) B4.size) ?_
  intro e w5 hh
  obtain ⟨⟨o, er, A9, n9, c9, rfl, hR, hnc9, own9⟩, bb⟩ := hh
  (try clear hh)
  replace bz := bz.below bb
  replace bs := bs.below bb
  replace br := br.below bb
  replace hS := hS.on bb bb.size
  have B5 := B4.trans (bb.mono B4.size)
  clear bb B4
  unfold tupV
  have HR := Lib.hid hR
  clear hR
  obtain ⟨g0, g1, g2, g3, g4, g5, g6, g7⟩ := br.cells
  have f0 := br.frozen 0
  have f1 := br.frozen 1
  have f2 := br.frozen 2
  have f3 := br.frozen 3
  have f4 := br.frozen 4
  have f5 := br.frozen 5
  have f6 := br.frozen 6
  have f7 := br.frozen 7
  go_wp2_with fail
  obtain ⟨W', hW'⟩ : ∃ W', W' = putU w5 z3 o (.slice A9 n9 c9) := ⟨_, rfl⟩
  have b9 := putU_box br o (.slice A9 n9 c9)
  have B9 := putU_below HLZ.out.2 o (.slice A9 n9 c9) B5
  rw [← hW'] at b9 B9
  have e9 : W' = ((((((((w5.setCell ⟨z3, 0, none⟩ (.int .i64 o.sn.ix)).setCell ⟨z3, 1, none⟩ (.int .i64 o.sn.tm)).setCell ⟨z3, 2, none⟩ (.int .i64 o.sn.sm)).setCell ⟨z3, 3, none⟩ (.int .i64 o.sn.lv)).setCell ⟨z3, 4, none⟩ (.bool o.sn.fn)).setCell ⟨z3, 5, none⟩ (.slice A9 n9 c9)).setCell ⟨z3, 6, none⟩ (.int .i64 o.tm)).setCell ⟨z3, 7, none⟩ (.int .i64 o.vt)) := hW'
  have own10 : OwnE W' w.heap.size (.slice A9 n9 c9) n9 o.lg := by rw [hW']; exact putU_own br own9
  rw [← e9]
  clear e9 hW' g0 g1 g2 g3 g4 g5 g6 g7 f0 f1 f2 f3 f4 f5 f6 f7
  obtain ⟨g0, g1, g2, g3, g4, g5, g6, g7⟩ := b9.cells
  exact bodyPost_ret (v := .tuple #[tupV o (.slice A9 n9 c9), .int .i64 er]) (by unfold tupV; simp [results, Try.results18, go_sem, g0, g1, g2, g3, g4, g5, g6, g7]) rfl ⟨⟨o, er, A9, n9, c9, rfl, .inr ⟨HC.out.1, ToldIs.iff HR.out HC.out.2⟩, hnc9, own10⟩, B9⟩
set_option maxRecDepth 100000 in
set_option maxHeartbeats 8000000 in
theorem rinst_s (t : TupP) (A : Option Addr) (n c : Nat) (s : StP) (w : World) (hS : Es w w.heap.size A n t.lg) (hn : n ≤ 100000) (hnc : n ≤ c) (hx : -1099511627776 ≤ t.sn.ix ∧ t.sn.ix ≤ 1099511627776) (hi : -1099511627776 ≤ s.ix ∧ s.ix ≤ 1099511627776) (c1 : ¬ s.ix ≤ t.sn.ix) (c2 : ¬ t.tm < s.tm) (h : termAtP t s.ix = some s.tm) :
    Calls Try.prog 18 #[tupV t (.slice A n c), s.v] w (OutT (InstallIs t s) w.heap.size w) := by
  have q0 : decide (s.ix ≤ t.sn.ix) = false := decide_eq_false c1
  have q1 : decide (t.tm < s.tm) = false := decide_eq_false c2
  have HV := Lib.hid (term_yes h)
  have HC := Lib.hid (⟨h, (show (termAtP t s.ix = some s.tm ∧ FineP s) ↔ ((t.sn.ix < s.ix ∧ s.tm ≤ t.tm) ∧ FineP s) from ⟨fun k => ⟨by omega, k.2⟩, fun k => ⟨h, k.2⟩⟩)⟩ : _ ∧ _)
  have q2 : (s.tm == s.tm) = true := by simp
  clear c1 c2 h
  have HB := Lib.hid (⟨hx, hi⟩ : _ ∧ _)
  clear hx hi
  have HS0 := Lib.hid hS
  have Hl := Lib.hid hS.len
  obtain ⟨z1, hz1⟩ : ∃ z, z = w.heap.size := ⟨_, rfl⟩
  obtain ⟨w1, hw1⟩ : ∃ x, x = w.alloc (.cells #[.int .i64 t.sn.ix, .int .i64 t.sn.tm, .int .i64 t.sn.sm, .int .i64 t.sn.lv, .bool t.sn.fn, .slice A n c, .int .i64 t.tm, .int .i64 t.vt] 26) := ⟨_, rfl⟩
  have bb : Below w.heap.size w w1 := by rw [hw1]; exact below_al (below_d0 _) _
  have bz : BoxU w1 z1 t (.slice A n c) := by rw [hw1, hz1]; exact BoxU.new w t _
  replace hS := hS.on bb bb.size
  have B1 := bb
  clear bb
  obtain ⟨z2, hz2⟩ : ∃ z, z = w1.heap.size := ⟨_, rfl⟩
  obtain ⟨w2, hw2⟩ : ∃ x, x = w1.alloc (.cells #[.int .i64 s.ix, .int .i64 s.tm, .int .i64 s.sm, .int .i64 s.lv, .bool s.fn] 23) := ⟨_, rfl⟩
  have bb : Below w1.heap.size w1 w2 := by rw [hw2]; exact below_al (below_d0 _) _
  have bs : BoxS w2 z2 s := by rw [hw2, hz2]; exact BoxS.new w1 s
  replace bz := bz.below bb
  replace hS := hS.on bb bb.size
  have B2 := B1.trans (bb.mono B1.size)
  clear bb B1
  obtain ⟨z3, hz3⟩ : ∃ z, z = w2.heap.size := ⟨_, rfl⟩
  obtain ⟨w3, hw3⟩ : ∃ x, x = w2.alloc (.cells #[.int .i64 0, .int .i64 0, .int .i64 0, .int .i64 0, .bool false, .slice none 0 0, .int .i64 0, .int .i64 0] 26) := ⟨_, rfl⟩
  have bb : Below w2.heap.size w2 w3 := by rw [hw3]; exact below_al (below_d0 _) _
  have br : BoxU w3 z3 noneT (.slice none 0 0) := by rw [hw3, hz3]; exact BoxU.new w2 noneT _
  replace bz := bz.below bb
  replace bs := bs.below bb
  replace hS := hS.on bb bb.size
  have B3 := B2.trans (bb.mono B2.size)
  clear bb B2
  have hp2 : z1 + 1 = z2 := by rw [hz2, hw1, hz1]; simp
  have hp3 : z2 + 1 = z3 := by rw [hz3, hw2, hz2]; simp
  have lz2 : w.heap.size ≤ z2 := by omega
  have lz3 : w.heap.size ≤ z3 := by omega
  have ne12 : z1 ≠ z2 := by omega
  have ne13 : z1 ≠ z3 := by omega
  have ne23 : z2 ≠ z3 := by omega
  have HE := Lib.hid (⟨hw1, hw2, hw3, hz1, hp2, hp3⟩ : _ ∧ _ ∧ _ ∧ _ ∧ _ ∧ _)
  have HLZ := Lib.hid (⟨lz2, lz3⟩ : _ ∧ _)
  clear hw1 hz1 hw2 hz2 hw3 hz3 hp2 hp3 lz2 lz3
  unfold StP.v
  unfold tupV
  go_enter Try.func18, Try.ntmps18
  obtain ⟨k0, k1, k2, k3, k4, k5, k6, k7⟩ := bz.cells
  obtain ⟨i0, i1, i2, i3, i4⟩ := bs.cells
  go_wp2_with fail
  clear k0 k1 k2 k3 k4 k5 k6 k7
  clear i0 i1 i2 i3 i4
  rw [← HE.out.1, ← HE.out.2.1, ← HE.out.2.2.1, ← HE.out.2.2.2.1]
  (try rw [HE.out.2.2.2.2.1])
  (try rw [HE.out.2.2.2.2.2])
  clear HE
  refine Calls.mono (show Calls Try.prog 22 #[.agg #[.int .i64 t.sn.ix, .int .i64 t.sn.tm, .int .i64 t.sn.sm, .int .i64 t.sn.lv, .bool t.sn.fn, .slice A n c, .int .i64 t.tm, .int .i64 t.vt], .int .i64 s.ix] w3 (fun e w' => e = .returned (.tuple #[.int .i64 s.tm, .bool true]) ∧ Below w3.heap.size w3 w') from by rw [← HV.out]; exact rtermAtT_any t A n c s.ix w3 hS (by omega) HB.out.1 HB.out.2) ?_
  intro e w4 hh
  obtain ⟨rfl, bb⟩ := hh
  (try clear hh)
  replace bz := bz.below bb
  replace bs := bs.below bb
  replace br := br.below bb
  replace hS := hS.on bb bb.size
  have B4 := B3.trans (bb.mono B3.size)
  clear bb B3
  obtain ⟨k0, k1, k2, k3, k4, k5, k6, k7⟩ := bz.cells
  obtain ⟨i0, i1, i2, i3, i4⟩ := bs.cells
  go_wp2_with fail
  clear k0 k1 k2 k3 k4 k5 k6 k7
  clear i0 i1 i2 i3 i4
  have hb5 := B4.size
  refine Calls.mono (show Calls Try.prog 16 #[.agg #[.int .i64 t.sn.ix, .int .i64 t.sn.tm, .int .i64 t.sn.sm, .int .i64 t.sn.lv, .bool t.sn.fn, .slice A n c, .int .i64 t.tm, .int .i64 t.vt], .agg #[.int .i64 s.ix, .int .i64 s.tm, .int .i64 s.sm, .int .i64 s.lv, .bool s.fn]] w4 (OutT (SaveIs t s) w4.heap.size w4) from rsaveT_any t A n c s w4 hS hn hnc HB.out.1 HB.out.2) ?_
  intro e w5 hh
  obtain ⟨⟨o, er, A9, n9, c9, rfl, hR, hnc9, own9⟩, bb⟩ := hh
  (try clear hh)
  replace bz := bz.below bb
  replace bs := bs.below bb
  replace br := br.below bb
  replace hS := hS.on bb bb.size
  have B5 := B4.trans (bb.mono B4.size)
  clear bb B4
  replace own9 := own_low own9 hb5
  clear hb5
  unfold tupV
  have HR := Lib.hid hR
  clear hR
  obtain ⟨g0, g1, g2, g3, g4, g5, g6, g7⟩ := br.cells
  have f0 := br.frozen 0
  have f1 := br.frozen 1
  have f2 := br.frozen 2
  have f3 := br.frozen 3
  have f4 := br.frozen 4
  have f5 := br.frozen 5
  have f6 := br.frozen 6
  have f7 := br.frozen 7
  go_wp2_with fail
  obtain ⟨W', hW'⟩ : ∃ W', W' = putU w5 z3 o (.slice A9 n9 c9) := ⟨_, rfl⟩
  have b9 := putU_box br o (.slice A9 n9 c9)
  have B9 := putU_below HLZ.out.2 o (.slice A9 n9 c9) B5
  rw [← hW'] at b9 B9
  have e9 : W' = ((((((((w5.setCell ⟨z3, 0, none⟩ (.int .i64 o.sn.ix)).setCell ⟨z3, 1, none⟩ (.int .i64 o.sn.tm)).setCell ⟨z3, 2, none⟩ (.int .i64 o.sn.sm)).setCell ⟨z3, 3, none⟩ (.int .i64 o.sn.lv)).setCell ⟨z3, 4, none⟩ (.bool o.sn.fn)).setCell ⟨z3, 5, none⟩ (.slice A9 n9 c9)).setCell ⟨z3, 6, none⟩ (.int .i64 o.tm)).setCell ⟨z3, 7, none⟩ (.int .i64 o.vt)) := hW'
  have own10 : OwnE W' w.heap.size (.slice A9 n9 c9) n9 o.lg := by rw [hW']; exact putU_own br own9
  rw [← e9]
  clear e9 hW' g0 g1 g2 g3 g4 g5 g6 g7 f0 f1 f2 f3 f4 f5 f6 f7
  obtain ⟨g0, g1, g2, g3, g4, g5, g6, g7⟩ := b9.cells
  exact bodyPost_ret (v := .tuple #[tupV o (.slice A9 n9 c9), .int .i64 er]) (by unfold tupV; simp [results, Try.results18, go_sem, g0, g1, g2, g3, g4, g5, g6, g7]) rfl ⟨⟨o, er, A9, n9, c9, rfl, .inl ⟨HC.out.1, ToldIs.iff HR.out HC.out.2⟩, hnc9, own10⟩, B9⟩
theorem rinstallT_any (t : TupP) (A : Option Addr) (n c : Nat) (s : StP) (w : World) (hS : Es w w.heap.size A n t.lg) (hn : n ≤ 100000) (hnc : n ≤ c) (hx : -1099511627776 ≤ t.sn.ix ∧ t.sn.ix ≤ 1099511627776) (hi : -1099511627776 ≤ s.ix ∧ s.ix ≤ 1099511627776) :
    Calls Try.prog 18 #[tupV t (.slice A n c), s.v] w (OutT (InstallIs t s) w.heap.size w) := by
  by_cases c1 : s.ix ≤ t.sn.ix
  · exact rinst_no0 t A n c s w hS hn hnc hx hi c1
  by_cases c2 : t.tm < s.tm
  · exact rinst_no1 t A n c s w hS hn hnc hx hi c1 c2
  cases h : termAtP t s.ix with
  | none => exact rinst_g0 t A n c s w hS hn hnc hx hi c1 c2 h
  | some x =>
    by_cases h1 : x = s.tm
    · subst h1
      exact rinst_s t A n c s w hS hn hnc hx hi c1 c2 h
    · exact rinst_g1 t A n c s w hS hn hnc hx hi c1 c2 x h h1
/-- What State answers. -/
def StateV (t : TupP) (i : Int) : Value := .tuple #[((stateP t i).getD noneS).v, .bool (stateP t i).isSome]
theorem state_no {t : TupP} {i : Int} (h : i < t.sn.ix ∨ lastT t < i) : stateP t i = none := if_pos h
theorem state_yes {t : TupP} {i : Int} {u : Nat} (h : ¬ (i < t.sn.ix ∨ lastT t < i)) (hu : (u : Int) = i - t.sn.ix) : stateP t i = some (allP t.sn (t.lg.take u)) := by
  unfold stateP
  rw [if_neg h, show (i - t.sn.ix).toNat = u by omega]
set_option maxRecDepth 100000 in
set_option maxHeartbeats 8000000 in
theorem rstate_low (t : TupP) (A : Option Addr) (n c : Nat) (i : Int) (w : World) (hS : Es w w.heap.size A n t.lg) (hn : n ≤ 100000) (hnc : n ≤ c) (hx : -1099511627776 ≤ t.sn.ix ∧ t.sn.ix ≤ 1099511627776) (hi : -1099511627776 ≤ i ∧ i ≤ 1099511627776) (c1 : i < t.sn.ix) :
    Calls Try.prog 26 #[tupV t (.slice A n c), .int .i64 i] w fun e w' => e = .returned (StateV t i) ∧ Below w.heap.size w w' := by
  have q0 : decide (i < t.sn.ix) = true := decide_eq_true c1
  have HV := Lib.hid (show StateV t i = .tuple #[.agg #[.int .i64 0, .int .i64 0, .int .i64 0, .int .i64 0, .bool false], .bool false] by unfold StateV; rw [state_no (.inl c1)]; rfl)
  have HB := Lib.hid (⟨hx, hi⟩ : _ ∧ _)
  clear hx hi c1
  have HS0 := Lib.hid hS
  have Hl := Lib.hid hS.len
  obtain ⟨z1, hz1⟩ : ∃ z, z = w.heap.size := ⟨_, rfl⟩
  obtain ⟨w1, hw1⟩ : ∃ x, x = w.alloc (.cells #[.int .i64 t.sn.ix, .int .i64 t.sn.tm, .int .i64 t.sn.sm, .int .i64 t.sn.lv, .bool t.sn.fn, .slice A n c, .int .i64 t.tm, .int .i64 t.vt] 26) := ⟨_, rfl⟩
  have bb : Below w.heap.size w w1 := by rw [hw1]; exact below_al (below_d0 _) _
  have bz : BoxU w1 z1 t (.slice A n c) := by rw [hw1, hz1]; exact BoxU.new w t _
  replace hS := hS.on bb bb.size
  have B1 := bb
  clear bb
  obtain ⟨z2, hz2⟩ : ∃ z, z = w1.heap.size := ⟨_, rfl⟩
  obtain ⟨w2, hw2⟩ : ∃ x, x = w1.alloc (.cells #[.int .i64 0, .int .i64 0, .int .i64 0, .int .i64 0, .bool false] 23) := ⟨_, rfl⟩
  have bb : Below w1.heap.size w1 w2 := by rw [hw2]; exact below_al (below_d0 _) _
  have br : BoxS w2 z2 noneS := by rw [hw2, hz2]; exact BoxS.new w1 noneS
  replace bz := bz.below bb
  replace hS := hS.on bb bb.size
  have B2 := B1.trans (bb.mono B1.size)
  clear bb B1
  have hp2 : z1 + 1 = z2 := by rw [hz2, hw1, hz1]; simp
  have lz2 : w.heap.size ≤ z2 := by omega
  have ne12 : z1 ≠ z2 := by omega
  have HE := Lib.hid (⟨hw1, hw2, hz1, hp2⟩ : _ ∧ _ ∧ _ ∧ _)
  have HLZ := Lib.hid lz2
  clear hw1 hz1 hw2 hz2 hp2 lz2
  unfold tupV
  go_enter Try.func26, Try.ntmps26
  obtain ⟨g0, g1, g2, g3, g4⟩ := br.cells
  rw [show z2 = w.heap.size + 1 by rw [← HE.out.2.2.2, HE.out.2.2.1]] at g0 g1 g2 g3 g4
  go_wp2_with fail
  rw [← HE.out.1, ← HE.out.2.1]
  exact bodyPost_ret (v := StateV t i) (by rw [show StateV t i = _ from HV.out]; simp [results, Try.results26, go_sem, g0, g1, g2, g3, g4, noneS]) rfl ⟨rfl, B2⟩
set_option maxRecDepth 100000 in
set_option maxHeartbeats 8000000 in
theorem rstate_high (t : TupP) (A : Option Addr) (n c : Nat) (i : Int) (w : World) (hS : Es w w.heap.size A n t.lg) (hn : n ≤ 100000) (hnc : n ≤ c) (hx : -1099511627776 ≤ t.sn.ix ∧ t.sn.ix ≤ 1099511627776) (hi : -1099511627776 ≤ i ∧ i ≤ 1099511627776) (c1 : ¬ i < t.sn.ix) (c2 : lastT t < i) :
    Calls Try.prog 26 #[tupV t (.slice A n c), .int .i64 i] w fun e w' => e = .returned (StateV t i) ∧ Below w.heap.size w w' := by
  have q0 : decide (i < t.sn.ix) = false := decide_eq_false c1
  have q1 : decide (lastT t < i) = true := decide_eq_true c2
  have HV := Lib.hid (show StateV t i = .tuple #[.agg #[.int .i64 0, .int .i64 0, .int .i64 0, .int .i64 0, .bool false], .bool false] by unfold StateV; rw [state_no (.inr c2)]; rfl)
  have HB := Lib.hid (⟨hx, hi⟩ : _ ∧ _)
  clear hx hi c1 c2
  have HS0 := Lib.hid hS
  have Hl := Lib.hid hS.len
  obtain ⟨z1, hz1⟩ : ∃ z, z = w.heap.size := ⟨_, rfl⟩
  obtain ⟨w1, hw1⟩ : ∃ x, x = w.alloc (.cells #[.int .i64 t.sn.ix, .int .i64 t.sn.tm, .int .i64 t.sn.sm, .int .i64 t.sn.lv, .bool t.sn.fn, .slice A n c, .int .i64 t.tm, .int .i64 t.vt] 26) := ⟨_, rfl⟩
  have bb : Below w.heap.size w w1 := by rw [hw1]; exact below_al (below_d0 _) _
  have bz : BoxU w1 z1 t (.slice A n c) := by rw [hw1, hz1]; exact BoxU.new w t _
  replace hS := hS.on bb bb.size
  have B1 := bb
  clear bb
  obtain ⟨z2, hz2⟩ : ∃ z, z = w1.heap.size := ⟨_, rfl⟩
  obtain ⟨w2, hw2⟩ : ∃ x, x = w1.alloc (.cells #[.int .i64 0, .int .i64 0, .int .i64 0, .int .i64 0, .bool false] 23) := ⟨_, rfl⟩
  have bb : Below w1.heap.size w1 w2 := by rw [hw2]; exact below_al (below_d0 _) _
  have br : BoxS w2 z2 noneS := by rw [hw2, hz2]; exact BoxS.new w1 noneS
  replace bz := bz.below bb
  replace hS := hS.on bb bb.size
  have B2 := B1.trans (bb.mono B1.size)
  clear bb B1
  have hp2 : z1 + 1 = z2 := by rw [hz2, hw1, hz1]; simp
  have lz2 : w.heap.size ≤ z2 := by omega
  have ne12 : z1 ≠ z2 := by omega
  have HE := Lib.hid (⟨hw1, hw2, hz1, hp2⟩ : _ ∧ _ ∧ _ ∧ _)
  have HLZ := Lib.hid lz2
  clear hw1 hz1 hw2 hz2 hp2 lz2
  unfold tupV
  go_enter Try.func26, Try.ntmps26
  obtain ⟨k0, k1, k2, k3, k4, k5, k6, k7⟩ := bz.cells
  go_wp2_with fail
  clear k0 k1 k2 k3 k4 k5 k6 k7
  rw [← HE.out.1, ← HE.out.2.1, ← HE.out.2.2.1]
  (try rw [HE.out.2.2.2])
  clear HE
  refine Calls.mono (show Calls Try.prog 30 #[.agg #[.int .i64 t.sn.ix, .int .i64 t.sn.tm, .int .i64 t.sn.sm, .int .i64 t.sn.lv, .bool t.sn.fn, .slice A n c, .int .i64 t.tm, .int .i64 t.vt]] w2 (fun e w' => e = .returned (.int .i64 (lastT t)) ∧ Below w2.heap.size w2 w') from rlastT_any t A n c w2 hS (by omega) HB.out.1) ?_
  intro e w3 hh
  obtain ⟨rfl, bb⟩ := hh
  (try clear hh)
  replace bz := bz.below bb
  replace br := br.below bb
  replace hS := hS.on bb bb.size
  have B3 := B2.trans (bb.mono B2.size)
  clear bb B2
  obtain ⟨g0, g1, g2, g3, g4⟩ := br.cells
  obtain ⟨f0, f1, f2, f3, f4⟩ := br.frozen
  go_wp2_with fail
  obtain ⟨W', hW'⟩ : ∃ W', W' = putS w3 z2 noneS := ⟨_, rfl⟩
  have b9 := putS_box br noneS
  have B9 := putS_below B3 HLZ.out noneS
  rw [← hW'] at b9 B9
  have e9 : W' = (((((w3.setCell ⟨z2, 0, none⟩ (.int .i64 0)).setCell ⟨z2, 1, none⟩ (.int .i64 0)).setCell ⟨z2, 2, none⟩ (.int .i64 0)).setCell ⟨z2, 3, none⟩ (.int .i64 0)).setCell ⟨z2, 4, none⟩ (.bool false)) := hW'
  rw [← e9]
  clear e9 hW' g0 g1 g2 g3 g4 f0 f1 f2 f3 f4
  obtain ⟨g0, g1, g2, g3, g4⟩ := b9.cells
  exact bodyPost_ret (v := StateV t i) (by rw [show StateV t i = _ from HV.out]; simp [results, Try.results26, go_sem, g0, g1, g2, g3, g4, noneS]) rfl ⟨rfl, B9⟩
set_option maxRecDepth 100000 in
set_option maxHeartbeats 8000000 in
theorem rstate_in (t : TupP) (A : Option Addr) (n c : Nat) (i : Int) (w : World) (hS : Es w w.heap.size A n t.lg) (hn : n ≤ 100000) (hnc : n ≤ c) (hx : -1099511627776 ≤ t.sn.ix ∧ t.sn.ix ≤ 1099511627776) (hi : -1099511627776 ≤ i ∧ i ≤ 1099511627776) (c1 : ¬ i < t.sn.ix) (c2 : ¬ lastT t < i) :
    Calls Try.prog 26 #[tupV t (.slice A n c), .int .i64 i] w fun e w' => e = .returned (StateV t i) ∧ Below w.heap.size w w' := by
  have q0 : decide (i < t.sn.ix) = false := decide_eq_false c1
  have q1 : decide (lastT t < i) = false := decide_eq_false c2
  obtain ⟨u, hu⟩ : ∃ u : Nat, (u : Int) = i - t.sn.ix := ⟨(i - t.sn.ix).toNat, by omega⟩
  have hun : u ≤ n := by have := hS.len; unfold lastT at c2; omega
  obtain ⟨a, ha⟩ : ∃ a, a = allP t.sn (t.lg.take u) := ⟨_, rfl⟩
  have HV := Lib.hid (show StateV t i = .tuple #[.agg #[.int .i64 a.ix, .int .i64 a.tm, .int .i64 a.sm, .int .i64 a.lv, .bool a.fn], .bool true] by unfold StateV; rw [state_yes (by omega) hu, ← ha]; rfl)
  have r2 : IntKind.i64.wrap (i - t.sn.ix) = (u : Int) := by rw [IntKind.wrap_i64]; omega
  have HB := Lib.hid (⟨hx, hi⟩ : _ ∧ _)
  have HA := Lib.hid ha
  clear hx hi c1 c2 hu ha
  obtain ⟨i0, hi0, hz0, hz1, hz2⟩ := info_partsV info_entry
  have hsl : ∀ W : World, (Instr.slice 24 (.slice A n c) none (some (.int .i64 (u : Int))) none).run Try.prog W = .ok (.slice A u c) W := fun W => cut_firstE Try.underlying24 hi0 A n c u (by omega) W
  have HS0 := Lib.hid hS
  have Hl := Lib.hid hS.len
  obtain ⟨z1, hz1⟩ : ∃ z, z = w.heap.size := ⟨_, rfl⟩
  obtain ⟨w1, hw1⟩ : ∃ x, x = w.alloc (.cells #[.int .i64 t.sn.ix, .int .i64 t.sn.tm, .int .i64 t.sn.sm, .int .i64 t.sn.lv, .bool t.sn.fn, .slice A n c, .int .i64 t.tm, .int .i64 t.vt] 26) := ⟨_, rfl⟩
  have bb : Below w.heap.size w w1 := by rw [hw1]; exact below_al (below_d0 _) _
  have bz : BoxU w1 z1 t (.slice A n c) := by rw [hw1, hz1]; exact BoxU.new w t _
  replace hS := hS.on bb bb.size
  have B1 := bb
  clear bb
  obtain ⟨z2, hz2⟩ : ∃ z, z = w1.heap.size := ⟨_, rfl⟩
  obtain ⟨w2, hw2⟩ : ∃ x, x = w1.alloc (.cells #[.int .i64 0, .int .i64 0, .int .i64 0, .int .i64 0, .bool false] 23) := ⟨_, rfl⟩
  have bb : Below w1.heap.size w1 w2 := by rw [hw2]; exact below_al (below_d0 _) _
  have br : BoxS w2 z2 noneS := by rw [hw2, hz2]; exact BoxS.new w1 noneS
  replace bz := bz.below bb
  replace hS := hS.on bb bb.size
  have B2 := B1.trans (bb.mono B1.size)
  clear bb B1
  have hp2 : z1 + 1 = z2 := by rw [hz2, hw1, hz1]; simp
  have lz2 : w.heap.size ≤ z2 := by omega
  have ne12 : z1 ≠ z2 := by omega
  have HE := Lib.hid (⟨hw1, hw2, hz1, hp2⟩ : _ ∧ _ ∧ _ ∧ _)
  have HLZ := Lib.hid lz2
  clear hw1 hz1 hw2 hz2 hp2 lz2
  unfold tupV
  go_enter Try.func26, Try.ntmps26
  obtain ⟨k0, k1, k2, k3, k4, k5, k6, k7⟩ := bz.cells
  go_wp2_with fail
  clear k0 k1 k2 k3 k4 k5 k6 k7
  rw [← HE.out.1, ← HE.out.2.1, ← HE.out.2.2.1]
  (try rw [HE.out.2.2.2])
  clear HE
  refine Calls.mono (show Calls Try.prog 30 #[.agg #[.int .i64 t.sn.ix, .int .i64 t.sn.tm, .int .i64 t.sn.sm, .int .i64 t.sn.lv, .bool t.sn.fn, .slice A n c, .int .i64 t.tm, .int .i64 t.vt]] w2 (fun e w' => e = .returned (.int .i64 (lastT t)) ∧ Below w2.heap.size w2 w') from rlastT_any t A n c w2 hS (by omega) HB.out.1) ?_
  intro e w3 hh
  obtain ⟨rfl, bb⟩ := hh
  (try clear hh)
  replace bz := bz.below bb
  replace br := br.below bb
  replace hS := hS.on bb bb.size
  have B3 := B2.trans (bb.mono B2.size)
  clear bb B2
  obtain ⟨k0, k1, k2, k3, k4, k5, k6, k7⟩ := bz.cells
  go_wp2_with fail
  clear k0 k1 k2 k3 k4 k5 k6 k7
  have hE : Es w3.drew w3.drew.heap.size A u (t.lg.take u) := Row.first hS hun
  refine wp_region_held_drew (S := (fun X => BoxU X z1 t (.slice A n c))) (by kernel_rfl) bz (fun hHeld => ?_)
  refine take_at (i := 0) (d := 18) (oi := ?o1) (v := ?v1) ?hi1 ?hd1 (by kernel_rfl) (by kernel_rfl) (by kernel_rfl) ?hw1 ?hy1 ?hq1 (by assumption) ?r1
  case hi1 => (simp only [List.getElem?_toArray, List.getElem?_cons_zero]; rfl)
  case hd1 => rfl
  case hw1 => rfl
  case hy1 => ((intro w hSw; (try dsimp only at hSw); obtain ⟨s0, s1, s2, s3, s4, s5, s6, s7⟩ := BoxU.cells hSw; go_simp) <;> (with_reducible rfl))
  case hq1 => exact fun _ _ _ h => h
  simp only [List.set_cons_succ, List.set_cons_zero]
  refine take_at (i := 1) (d := 19) (oi := ?o2) (v := ?v2) ?hi2 ?hd2 (by kernel_rfl) (by kernel_rfl) (by kernel_rfl) ?hw2 ?hy2 ?hq2 (by assumption) ?r2
  case hi2 => (simp only [List.getElem?_toArray, List.getElem?_cons_succ, List.getElem?_cons_zero]; rfl)
  case hd2 => rfl
  case hw2 => rfl
  case hy2 => ((intro w hSw; (try dsimp only at hSw); obtain ⟨s0, s1, s2, s3, s4, s5, s6, s7⟩ := BoxU.cells hSw; go_simp) <;> (with_reducible rfl))
  case hq2 => exact fun _ _ _ h => h
  simp only [List.set_cons_succ, List.set_cons_zero]
  refine take_at (i := 2) (d := 20) (oi := ?o3) (v := ?v3) ?hi3 ?hd3 (by kernel_rfl) (by kernel_rfl) (by kernel_rfl) ?hw3 ?hy3 ?hq3 (by assumption) ?r3
  case hi3 => (simp only [List.getElem?_toArray, List.getElem?_cons_succ, List.getElem?_cons_zero]; rfl)
  case hd3 => rfl
  case hw3 => rfl
  case hy3 => ((intro w hSw; (try dsimp only at hSw); obtain ⟨s0, s1, s2, s3, s4, s5, s6, s7⟩ := BoxU.cells hSw; go_simp) <;> (with_reducible rfl))
  case hq3 => exact fun _ _ _ h => h
  simp only [List.set_cons_succ, List.set_cons_zero]
  refine take_at (i := 3) (d := 21) (oi := ?o4) (v := ?v4) ?hi4 ?hd4 (by kernel_rfl) (by kernel_rfl) (by kernel_rfl) ?hw4 ?hy4 ?hq4 (by assumption) ?r4
  case hi4 => (simp only [List.getElem?_toArray, List.getElem?_cons_succ, List.getElem?_cons_zero]; rfl)
  case hd4 => rfl
  case hw4 => rfl
  case hy4 => ((intro w hSw; (try dsimp only at hSw); obtain ⟨s0, s1, s2, s3, s4, s5, s6, s7⟩ := BoxU.cells hSw; go_simp) <;> (with_reducible rfl))
  case hq4 => exact fun _ _ _ h => h
  simp only [List.set_cons_succ, List.set_cons_zero]
  refine take_at (i := 4) (d := 22) (oi := ?o5) (v := ?v5) ?hi5 ?hd5 (by kernel_rfl) (by kernel_rfl) (by kernel_rfl) ?hw5 ?hy5 ?hq5 (by assumption) ?r5
  case hi5 => (simp only [List.getElem?_toArray, List.getElem?_cons_succ, List.getElem?_cons_zero]; rfl)
  case hd5 => rfl
  case hw5 => rfl
  case hy5 => ((intro w hSw; (try dsimp only at hSw); obtain ⟨s0, s1, s2, s3, s4, s5, s6, s7⟩ := BoxU.cells hSw; go_simp) <;> (with_reducible rfl))
  case hq5 => exact fun _ _ _ h => h
  simp only [List.set_cons_succ, List.set_cons_zero]
  refine take_at (i := 5) (d := 23) (oi := ?o6) (v := ?v6) ?hi6 ?hd6 (by kernel_rfl) (by kernel_rfl) (by kernel_rfl) ?hw6 ?hy6 ?hq6 (by assumption) ?r6
  case hi6 => (simp only [List.getElem?_toArray, List.getElem?_cons_succ, List.getElem?_cons_zero]; rfl)
  case hd6 => rfl
  case hw6 => rfl
  case hy6 => ((intro w hSw; (try dsimp only at hSw); obtain ⟨s0, s1, s2, s3, s4, s5, s6, s7⟩ := BoxU.cells hSw; go_simp) <;> (with_reducible rfl))
  case hq6 => exact fun _ _ _ h => h
  simp only [List.set_cons_succ, List.set_cons_zero]
  refine take_at (i := 6) (d := 24) (oi := ?o7) (v := ?v7) ?hi7 ?hd7 (by kernel_rfl) (by kernel_rfl) (by kernel_rfl) ?hw7 ?hy7 ?hq7 (by assumption) ?r7
  case hi7 => (simp only [List.getElem?_toArray, List.getElem?_cons_succ, List.getElem?_cons_zero]; rfl)
  case hd7 => rfl
  case hw7 => rfl
  case hy7 => ((intro w hSw; (try dsimp only at hSw); obtain ⟨s0, s1, s2, s3, s4, s5, s6, s7⟩ := BoxU.cells hSw; go_simp) <;> (with_reducible rfl))
  case hq7 => exact fun _ _ _ h => h
  simp only [List.set_cons_succ, List.set_cons_zero]
  refine take_at (i := 7) (d := 25) (oi := ?o8) (v := ?v8) ?hi8 ?hd8 (by kernel_rfl) (by kernel_rfl) (by kernel_rfl) ?hw8 ?hy8 ?hq8 (by assumption) ?r8
  case hi8 => (simp only [List.getElem?_toArray, List.getElem?_cons_succ, List.getElem?_cons_zero]; rfl)
  case hd8 => rfl
  case hw8 => rfl
  case hy8 => ((intro w hSw; (try dsimp only at hSw); obtain ⟨s0, s1, s2, s3, s4, s5, s6, s7⟩ := BoxU.cells hSw; go_simp) <;> (with_reducible rfl))
  case hq8 => exact fun _ _ _ h => h
  simp only [List.set_cons_succ, List.set_cons_zero]
  refine take_at (i := 8) (d := 26) (oi := ?o9) (v := ?v9) ?hi9 ?hd9 (by kernel_rfl) (by kernel_rfl) (by kernel_rfl) ?hw9 ?hy9 ?hq9 (by assumption) ?r9
  case hi9 => (simp only [List.getElem?_toArray, List.getElem?_cons_succ, List.getElem?_cons_zero]; rfl)
  case hd9 => rfl
  case hw9 => rfl
  case hy9 => ((intro w hSw; (try dsimp only at hSw); obtain ⟨s0, s1, s2, s3, s4, s5, s6, s7⟩ := BoxU.cells hSw; go_simp) <;> (with_reducible rfl))
  case hq9 => exact fun _ _ _ h => h
  simp only [List.set_cons_succ, List.set_cons_zero]
  refine take_at (i := 9) (d := 27) (oi := ?o10) (v := ?v10) ?hi10 ?hd10 (by kernel_rfl) (by kernel_rfl) (by kernel_rfl) ?hw10 ?hy10 ?hq10 (by assumption) ?r10
  case hi10 => (simp only [List.getElem?_toArray, List.getElem?_cons_succ, List.getElem?_cons_zero]; rfl)
  case hd10 => rfl
  case hw10 => rfl
  case hy10 => ((intro w hSw; (try dsimp only at hSw); obtain ⟨s0, s1, s2, s3, s4, s5, s6, s7⟩ := BoxU.cells hSw; go_simp) <;> (with_reducible rfl))
  case hq10 => exact fun _ _ _ h => h
  simp only [List.set_cons_succ, List.set_cons_zero]
  refine call_at (i := 10) (d := 28) (oi := ?o11) (f := ?f11) (args := ?a11) ?hi11 ?hd11 (by kernel_rfl) ?hw11 ?he11 ?hc11
  case hi11 => (simp only [List.getElem?_toArray, List.getElem?_cons_succ, List.getElem?_cons_zero]; rfl)
  case hd11 => rfl
  case hw11 => rfl
  case he11 => (go_simp; constructor <;> with_reducible rfl)
  refine Calls.mono (show Calls Try.prog 52 #[.agg #[.int .i64 t.sn.ix, .int .i64 t.sn.tm, .int .i64 t.sn.sm, .int .i64 t.sn.lv, .bool t.sn.fn], .slice A u c] w3.drew (fun e w' => e = .returned (allP t.sn (t.lg.take u)).v ∧ Below w3.drew.heap.size w3.drew w') from rall_any t.sn A u c (t.lg.take u) w3.drew hE (by omega)) ?_
  rintro e wq ⟨rfl, bb⟩
  rw [← HA.out]
  unfold StP.v
  refine ⟨_, rfl, (bz.below ((Below.refl _ _).drew.trans bb)), fun hHeld => ?_⟩
  simp only [List.set_cons_succ, List.set_cons_zero]
  have bq : Below w3.heap.size w3 wq := (Below.refl _ _).drew.trans bb
  replace br := br.below bq
  have bz2 := bz.below bq
  have Bq := B3.trans (bq.mono B3.size)
  obtain ⟨g0, g1, g2, g3, g4⟩ := br.cells
  obtain ⟨f0, f1, f2, f3, f4⟩ := br.frozen
  obtain ⟨W', hW'⟩ : ∃ W', W' = putS wq z2 a := ⟨_, rfl⟩
  have b9 := putS_box br a
  have B9 := putS_below Bq HLZ.out a
  have bz9 : BoxU W' z1 t (.slice A n c) := by rw [hW']; exact (putS_same ne12 a).trans bz2
  rw [← hW'] at b9 B9
  have e9 : W' = (((((wq.setCell ⟨z2, 0, none⟩ (.int .i64 a.ix)).setCell ⟨z2, 1, none⟩ (.int .i64 a.tm)).setCell ⟨z2, 2, none⟩ (.int .i64 a.sm)).setCell ⟨z2, 3, none⟩ (.int .i64 a.lv)).setCell ⟨z2, 4, none⟩ (.bool a.fn)) := hW'
  clear hW'
  refine wpAnyH_ready (rs := [11]) (by kernel_rfl) (by simp) ?_
  refine br_store (i := 11) (oi := ?o12) (w' := W') ?hi12 ?hd12 ?hw12 ?he12 bz9 ?hc12
  case hi12 => (simp only [List.getElem?_toArray, List.getElem?_cons_succ, List.getElem?_cons_zero]; rfl)
  case hd12 => rfl
  case hw12 => rfl
  case he12 => (rw [e9]; go_simp <;> with_reducible rfl)
  intro hHeld
  clear e9 g0 g1 g2 g3 g4 f0 f1 f2 f3 f4
  refine take_at (i := 12) (d := 5) (oi := ?o13) (v := ?v13) ?hi13 ?hd13 (by kernel_rfl) (by kernel_rfl) (by kernel_rfl) ?hw13 ?hy13 ?hq13 (by assumption) ?r13
  case hi13 => (simp only [List.getElem?_toArray, List.getElem?_cons_succ, List.getElem?_cons_zero]; rfl)
  case hd13 => rfl
  case hw13 => rfl
  case hy13 => ((intro w hSw; (try dsimp only at hSw); obtain ⟨s0, s1, s2, s3, s4, s5, s6, s7⟩ := BoxU.cells hSw; go_simp) <;> (with_reducible rfl))
  case hq13 => exact fun _ _ _ h => h
  simp only [List.set_cons_succ, List.set_cons_zero]
  refine wpAnyH_done (by kernel_rfl) ?_ _
  clear hHeld hsl r2 hi0
  go_wp2_with fail
  obtain ⟨g0, g1, g2, g3, g4⟩ := b9.cells
  exact bodyPost_ret (v := StateV t i) (by rw [show StateV t i = _ from HV.out]; simp [results, Try.results26, go_sem, g0, g1, g2, g3, g4]) rfl ⟨rfl, B9⟩
theorem rstateT_any (t : TupP) (A : Option Addr) (n c : Nat) (i : Int) (w : World) (hS : Es w w.heap.size A n t.lg) (hn : n ≤ 100000) (hnc : n ≤ c) (hx : -1099511627776 ≤ t.sn.ix ∧ t.sn.ix ≤ 1099511627776) (hi : -1099511627776 ≤ i ∧ i ≤ 1099511627776) :
    Calls Try.prog 26 #[tupV t (.slice A n c), .int .i64 i] w fun e w' => e = .returned (StateV t i) ∧ Below w.heap.size w w' := by
  by_cases c1 : i < t.sn.ix
  · exact rstate_low t A n c i w hS hn hnc hx hi c1
  by_cases c2 : lastT t < i
  · exact rstate_high t A n c i w hS hn hnc hx hi c1 c2
  exact rstate_in t A n c i w hS hn hnc hx hi c1 c2
end Go.Proofs.Ytbhnlmlaebngmaa
