/-
  The document's Save, Install (of tuples): their contracts.
-/
import Derived.Test.YtbhnlmlaebngmaaTupC
namespace Go.Proofs.Ytbhnlmlaebngmaa
open Go.RowKit
set_option linter.unusedVariables false
set_option linter.unusedSimpArgs false

theorem termAt_range {t : TupP} {i x : Int} (h : termAtP t i = some x) : t.sn.ix ≤ i ∧ i ≤ lastT t := by
  unfold termAtP at h
  unfold lastT
  split at h
  · omega
  · obtain ⟨e, he, _⟩ := Option.map_eq_some_iff.1 h
    unfold atP at he
    split at he
    · cases he
    · have := (List.getElem?_eq_some_iff.1 he).1
      omega
theorem term_no {t : TupP} {i : Int} (h : termAtP t i = none) : TermV t i = .tuple #[.int .i64 0, .bool false] := by unfold TermV; rw [h]; rfl
theorem term_yes {t : TupP} {i x : Int} (h : termAtP t i = some x) : TermV t i = .tuple #[.int .i64 x, .bool true] := by unfold TermV; rw [h]; rfl
theorem put04U {W : World} {z : Nat} {t : TupP} {v : Value} (h : BoxU W z t v) (s : StP) : BoxU ((((((W.setCell ⟨z, 0, none⟩ (.int .i64 s.ix)).setCell ⟨z, 1, none⟩ (.int .i64 s.tm)).setCell ⟨z, 2, none⟩ (.int .i64 s.sm)).setCell ⟨z, 3, none⟩ (.int .i64 s.lv)).setCell ⟨z, 4, none⟩ (.bool s.fn))) z { t with sn := s } v := by
  have h8 := heap_set (i := 4) (heap_set (i := 3) (heap_set (i := 2) (heap_set (i := 1) (heap_set (i := 0) (show W.heap[z]? = _ from h) (.int .i64 s.ix)) (.int .i64 s.tm)) (.int .i64 s.sm)) (.int .i64 s.lv)) (.bool s.fn)
  simp only [List.setIfInBounds_toArray, List.set_cons_zero, List.set_cons_succ] at h8
  exact h8
set_option maxRecDepth 100000 in
set_option maxHeartbeats 8000000 in
theorem rsave_no0 (t : TupP) (A : Option Addr) (n c : Nat) (s : StP) (w : World) (hS : Es w w.heap.size A n t.lg) (hn : n ≤ 100000) (hnc : n ≤ c) (hx : -1099511627776 ≤ t.sn.ix ∧ t.sn.ix ≤ 1099511627776) (hi : -1099511627776 ≤ s.ix ∧ s.ix ≤ 1099511627776) (h : termAtP t s.ix = none) :
    Calls Try.prog 16 #[tupV t (.slice A n c), s.v] w (OutT (SaveIs t s) w.heap.size w) := by
  have HV := Lib.hid (term_no h)
  have HC := Lib.hid (show ¬ ((termAtP t s.ix = some s.tm ∧ FineP s) ∧ MayT t ∧ MayT (saveT t s)) from fun k => absurd k.1 (by simp [h]))
  clear h
  have HB := Lib.hid (⟨hx, hi⟩ : _ ∧ _)
  clear hx hi
  have HS0 := Lib.hid hS
  have Hl := Lib.hid hS.len
  obtain ⟨z1, hz1⟩ : ∃ z, z = w.heap.size := ⟨_, rfl⟩
  obtain ⟨w1, hw1⟩ : ∃ x, x = w.alloc (.cells #[.int .i64 t.sn.ix, .int .i64 t.sn.tm, .int .i64 t.sn.sm, .int .i64 t.sn.lv, .bool t.sn.fn, .slice A n c, .int .i64 t.tm, .int .i64 t.vt] 26) := ⟨_, rfl⟩
  have bb : Below w.heap.size w w1 := by rw [hw1]; exact below_al (below_d0 _) _
  have bz : BoxU w1 z1 t (.slice A n c) := by rw [hw1, hz1]; exact BoxU.new w t _
  replace hS := hS.on bb bb.size
  have B1 := bb
  clear bb
  obtain ⟨z2, hz2⟩ : ∃ z, z = w1.heap.size := ⟨_, rfl⟩
  obtain ⟨w2, hw2⟩ : ∃ x, x = w1.alloc (.cells #[.int .i64 s.ix, .int .i64 s.tm, .int .i64 s.sm, .int .i64 s.lv, .bool s.fn] 23) := ⟨_, rfl⟩
  have bb : Below w1.heap.size w1 w2 := by rw [hw2]; exact below_al (below_d0 _) _
  have bs : BoxS w2 z2 s := by rw [hw2, hz2]; exact BoxS.new w1 s
  replace bz := bz.below bb
  replace hS := hS.on bb bb.size
  have B2 := B1.trans (bb.mono B1.size)
  clear bb B1
  obtain ⟨z3, hz3⟩ : ∃ z, z = w2.heap.size := ⟨_, rfl⟩
  obtain ⟨w3, hw3⟩ : ∃ x, x = w2.alloc (.cells #[.int .i64 0, .int .i64 0, .int .i64 0, .int .i64 0, .bool false, .slice none 0 0, .int .i64 0, .int .i64 0] 26) := ⟨_, rfl⟩
  have bb : Below w2.heap.size w2 w3 := by rw [hw3]; exact below_al (below_d0 _) _
  have br : BoxU w3 z3 noneT (.slice none 0 0) := by rw [hw3, hz3]; exact BoxU.new w2 noneT _
  replace bz := bz.below bb
  replace bs := bs.below bb
  replace hS := hS.on bb bb.size
  have B3 := B2.trans (bb.mono B2.size)
  clear bb B2
  have hp2 : z1 + 1 = z2 := by rw [hz2, hw1, hz1]; simp
  have hp3 : z2 + 1 = z3 := by rw [hz3, hw2, hz2]; simp
  have lz2 : w.heap.size ≤ z2 := by omega
  have lz3 : w.heap.size ≤ z3 := by omega
  have ne12 : z1 ≠ z2 := by omega
  have ne13 : z1 ≠ z3 := by omega
  have ne23 : z2 ≠ z3 := by omega
  have HE := Lib.hid (⟨hw1, hw2, hw3, hz1, hp2, hp3⟩ : _ ∧ _ ∧ _ ∧ _ ∧ _ ∧ _)
  have HLZ := Lib.hid (⟨lz2, lz3⟩ : _ ∧ _)
  clear hw1 hz1 hw2 hz2 hw3 hz3 hp2 hp3 lz2 lz3
  unfold StP.v
  unfold tupV
  go_enter Try.func16, Try.ntmps16
  obtain ⟨k0, k1, k2, k3, k4, k5, k6, k7⟩ := bz.cells
  obtain ⟨i0, i1, i2, i3, i4⟩ := bs.cells
  go_wp2_with fail
  clear k0 k1 k2 k3 k4 k5 k6 k7
  clear i0 i1 i2 i3 i4
  rw [← HE.out.1, ← HE.out.2.1, ← HE.out.2.2.1, ← HE.out.2.2.2.1]
  (try rw [HE.out.2.2.2.2.1])
  (try rw [HE.out.2.2.2.2.2])
  clear HE
  refine Calls.mono (show Calls Try.prog 22 #[.agg #[.int .i64 t.sn.ix, .int .i64 t.sn.tm, .int .i64 t.sn.sm, .int .i64 t.sn.lv, .bool t.sn.fn, .slice A n c, .int .i64 t.tm, .int .i64 t.vt], .int .i64 s.ix] w3 (fun e w' => e = .returned (.tuple #[.int .i64 0, .bool false]) ∧ Below w3.heap.size w3 w') from by rw [← HV.out]; exact rtermAtT_any t A n c s.ix w3 hS (by omega) HB.out.1 HB.out.2) ?_
  intro e w4 hh
  obtain ⟨rfl, bb⟩ := hh
  (try clear hh)
  replace bz := bz.below bb
  replace bs := bs.below bb
  replace br := br.below bb
  replace hS := hS.on bb bb.size
  have B4 := B3.trans (bb.mono B3.size)
  clear bb B3
  obtain ⟨k0, k1, k2, k3, k4, k5, k6, k7⟩ := bz.cells
  obtain ⟨i0, i1, i2, i3, i4⟩ := bs.cells
  go_wp2_with fail
  clear k0 k1 k2 k3 k4 k5 k6 k7
  clear i0 i1 i2 i3 i4
  refine Calls.mono (show Calls Try.prog 42 #[.agg #[.int .i64 t.sn.ix, .int .i64 t.sn.tm, .int .i64 t.sn.sm, .int .i64 t.sn.lv, .bool t.sn.fn, .slice A n c, .int .i64 t.tm, .int .i64 t.vt], .agg #[.int .i64 t.sn.ix, .int .i64 t.sn.tm, .int .i64 t.sn.sm, .int .i64 t.sn.lv, .bool t.sn.fn, .slice A n c, .int .i64 t.tm, .int .i64 t.vt], .bool false] w4 (OutT (ToldIs t t (false = true)) w.heap.size w4) from told_no0 t t A A n c n c w.heap.size false w4 hS (by omega) (by omega) hnc B4.size rfl) ?_
  intro e w5 hh
  obtain ⟨⟨o, er, A9, n9, c9, rfl, hR, hnc9, own9⟩, bb⟩ := hh
  (try clear hh)
  replace bz := bz.below bb
  replace bs := bs.below bb
  replace br := br.below bb
  replace hS := hS.on bb bb.size
  have B5 := B4.trans (bb.mono B4.size)
  clear bb B4
  unfold tupV
  have HR := Lib.hid hR
  clear hR
  obtain ⟨g0, g1, g2, g3, g4, g5, g6, g7⟩ := br.cells
  have f0 := br.frozen 0
  have f1 := br.frozen 1
  have f2 := br.frozen 2
  have f3 := br.frozen 3
  have f4 := br.frozen 4
  have f5 := br.frozen 5
  have f6 := br.frozen 6
  have f7 := br.frozen 7
  go_wp2_with fail
  obtain ⟨W', hW'⟩ : ∃ W', W' = putU w5 z3 o (.slice A9 n9 c9) := ⟨_, rfl⟩
  have b9 := putU_box br o (.slice A9 n9 c9)
  have B9 := putU_below HLZ.out.2 o (.slice A9 n9 c9) B5
  rw [← hW'] at b9 B9
  have e9 : W' = ((((((((w5.setCell ⟨z3, 0, none⟩ (.int .i64 o.sn.ix)).setCell ⟨z3, 1, none⟩ (.int .i64 o.sn.tm)).setCell ⟨z3, 2, none⟩ (.int .i64 o.sn.sm)).setCell ⟨z3, 3, none⟩ (.int .i64 o.sn.lv)).setCell ⟨z3, 4, none⟩ (.bool o.sn.fn)).setCell ⟨z3, 5, none⟩ (.slice A9 n9 c9)).setCell ⟨z3, 6, none⟩ (.int .i64 o.tm)).setCell ⟨z3, 7, none⟩ (.int .i64 o.vt)) := hW'
  have own10 : OwnE W' w.heap.size (.slice A9 n9 c9) n9 o.lg := by rw [hW']; exact putU_own br own9
  rw [← e9]
  clear e9 hW' g0 g1 g2 g3 g4 g5 g6 g7 f0 f1 f2 f3 f4 f5 f6 f7
  obtain ⟨g0, g1, g2, g3, g4, g5, g6, g7⟩ := b9.cells
  exact bodyPost_ret (v := .tuple #[tupV o (.slice A9 n9 c9), .int .i64 er]) (by unfold tupV; simp [results, Try.results16, go_sem, g0, g1, g2, g3, g4, g5, g6, g7]) rfl ⟨⟨o, er, A9, n9, c9, rfl, .inr ⟨HC.out, (HR.out.no (by simp)).1, (HR.out.no (by simp)).2⟩, hnc9, own10⟩, B9⟩
set_option maxRecDepth 100000 in
set_option maxHeartbeats 8000000 in
theorem rsave_no1 (t : TupP) (A : Option Addr) (n c : Nat) (s : StP) (w : World) (hS : Es w w.heap.size A n t.lg) (hn : n ≤ 100000) (hnc : n ≤ c) (hx : -1099511627776 ≤ t.sn.ix ∧ t.sn.ix ≤ 1099511627776) (hi : -1099511627776 ≤ s.ix ∧ s.ix ≤ 1099511627776) (x : Int) (h : termAtP t s.ix = some x) (h1 : ¬ x = s.tm) :
    Calls Try.prog 16 #[tupV t (.slice A n c), s.v] w (OutT (SaveIs t s) w.heap.size w) := by
  have HV := Lib.hid (term_yes h)
  have HC := Lib.hid (show ¬ ((termAtP t s.ix = some s.tm ∧ FineP s) ∧ MayT t ∧ MayT (saveT t s)) from fun k => absurd k.1 (by simp [h, h1]))
  have q1 : (x != s.tm) = true := by simpa using h1
  clear h h1
  have HB := Lib.hid (⟨hx, hi⟩ : _ ∧ _)
  clear hx hi
  have HS0 := Lib.hid hS
  have Hl := Lib.hid hS.len
  obtain ⟨z1, hz1⟩ : ∃ z, z = w.heap.size := ⟨_, rfl⟩
  obtain ⟨w1, hw1⟩ : ∃ x, x = w.alloc (.cells #[.int .i64 t.sn.ix, .int .i64 t.sn.tm, .int .i64 t.sn.sm, .int .i64 t.sn.lv, .bool t.sn.fn, .slice A n c, .int .i64 t.tm, .int .i64 t.vt] 26) := ⟨_, rfl⟩
  have bb : Below w.heap.size w w1 := by rw [hw1]; exact below_al (below_d0 _) _
  have bz : BoxU w1 z1 t (.slice A n c) := by rw [hw1, hz1]; exact BoxU.new w t _
  replace hS := hS.on bb bb.size
  have B1 := bb
  clear bb
  obtain ⟨z2, hz2⟩ : ∃ z, z = w1.heap.size := ⟨_, rfl⟩
  obtain ⟨w2, hw2⟩ : ∃ x, x = w1.alloc (.cells #[.int .i64 s.ix, .int .i64 s.tm, .int .i64 s.sm, .int .i64 s.lv, .bool s.fn] 23) := ⟨_, rfl⟩
  have bb : Below w1.heap.size w1 w2 := by rw [hw2]; exact below_al (below_d0 _) _
  have bs : BoxS w2 z2 s := by rw [hw2, hz2]; exact BoxS.new w1 s
  replace bz := bz.below bb
  replace hS := hS.on bb bb.size
  have B2 := B1.trans (bb.mono B1.size)
  clear bb B1
  obtain ⟨z3, hz3⟩ : ∃ z, z = w2.heap.size := ⟨_, rfl⟩
  obtain ⟨w3, hw3⟩ : ∃ x, x = w2.alloc (.cells #[.int .i64 0, .int .i64 0, .int .i64 0, .int .i64 0, .bool false, .slice none 0 0, .int .i64 0, .int .i64 0] 26) := ⟨_, rfl⟩
  have bb : Below w2.heap.size w2 w3 := by rw [hw3]; exact below_al (below_d0 _) _
  have br : BoxU w3 z3 noneT (.slice none 0 0) := by rw [hw3, hz3]; exact BoxU.new w2 noneT _
  replace bz := bz.below bb
  replace bs := bs.below bb
  replace hS := hS.on bb bb.size
  have B3 := B2.trans (bb.mono B2.size)
  clear bb B2
  have hp2 : z1 + 1 = z2 := by rw [hz2, hw1, hz1]; simp
  have hp3 : z2 + 1 = z3 := by rw [hz3, hw2, hz2]; simp
  have lz2 : w.heap.size ≤ z2 := by omega
  have lz3 : w.heap.size ≤ z3 := by omega
  have ne12 : z1 ≠ z2 := by omega
  have ne13 : z1 ≠ z3 := by omega
  have ne23 : z2 ≠ z3 := by omega
  have HE := Lib.hid (⟨hw1, hw2, hw3, hz1, hp2, hp3⟩ : _ ∧ _ ∧ _ ∧ _ ∧ _ ∧ _)
  have HLZ := Lib.hid (⟨lz2, lz3⟩ : _ ∧ _)
  clear hw1 hz1 hw2 hz2 hw3 hz3 hp2 hp3 lz2 lz3
  unfold StP.v
  unfold tupV
  go_enter Try.func16, Try.ntmps16
  obtain ⟨k0, k1, k2, k3, k4, k5, k6, k7⟩ := bz.cells
  obtain ⟨i0, i1, i2, i3, i4⟩ := bs.cells
  go_wp2_with fail
  clear k0 k1 k2 k3 k4 k5 k6 k7
  clear i0 i1 i2 i3 i4
  rw [← HE.out.1, ← HE.out.2.1, ← HE.out.2.2.1, ← HE.out.2.2.2.1]
  (try rw [HE.out.2.2.2.2.1])
  (try rw [HE.out.2.2.2.2.2])
  clear HE
  refine Calls.mono (show Calls Try.prog 22 #[.agg #[.int .i64 t.sn.ix, .int .i64 t.sn.tm, .int .i64 t.sn.sm, .int .i64 t.sn.lv, .bool t.sn.fn, .slice A n c, .int .i64 t.tm, .int .i64 t.vt], .int .i64 s.ix] w3 (fun e w' => e = .returned (.tuple #[.int .i64 x, .bool true]) ∧ Below w3.heap.size w3 w') from by rw [← HV.out]; exact rtermAtT_any t A n c s.ix w3 hS (by omega) HB.out.1 HB.out.2) ?_
  intro e w4 hh
  obtain ⟨rfl, bb⟩ := hh
  (try clear hh)
  replace bz := bz.below bb
  replace bs := bs.below bb
  replace br := br.below bb
  replace hS := hS.on bb bb.size
  have B4 := B3.trans (bb.mono B3.size)
  clear bb B3
  obtain ⟨k0, k1, k2, k3, k4, k5, k6, k7⟩ := bz.cells
  obtain ⟨i0, i1, i2, i3, i4⟩ := bs.cells
  go_wp2_with fail
  clear k0 k1 k2 k3 k4 k5 k6 k7
  clear i0 i1 i2 i3 i4
  refine Calls.mono (show Calls Try.prog 42 #[.agg #[.int .i64 t.sn.ix, .int .i64 t.sn.tm, .int .i64 t.sn.sm, .int .i64 t.sn.lv, .bool t.sn.fn, .slice A n c, .int .i64 t.tm, .int .i64 t.vt], .agg #[.int .i64 t.sn.ix, .int .i64 t.sn.tm, .int .i64 t.sn.sm, .int .i64 t.sn.lv, .bool t.sn.fn, .slice A n c, .int .i64 t.tm, .int .i64 t.vt], .bool false] w4 (OutT (ToldIs t t (false = true)) w.heap.size w4) from told_no0 t t A A n c n c w.heap.size false w4 hS (by omega) (by omega) hnc B4.size rfl) ?_
  intro e w5 hh
  obtain ⟨⟨o, er, A9, n9, c9, rfl, hR, hnc9, own9⟩, bb⟩ := hh
  (try clear hh)
  replace bz := bz.below bb
  replace bs := bs.below bb
  replace br := br.below bb
  replace hS := hS.on bb bb.size
  have B5 := B4.trans (bb.mono B4.size)
  clear bb B4
  unfold tupV
  have HR := Lib.hid hR
  clear hR
  obtain ⟨g0, g1, g2, g3, g4, g5, g6, g7⟩ := br.cells
  have f0 := br.frozen 0
  have f1 := br.frozen 1
  have f2 := br.frozen 2
  have f3 := br.frozen 3
  have f4 := br.frozen 4
  have f5 := br.frozen 5
  have f6 := br.frozen 6
  have f7 := br.frozen 7
  go_wp2_with fail
  obtain ⟨W', hW'⟩ : ∃ W', W' = putU w5 z3 o (.slice A9 n9 c9) := ⟨_, rfl⟩
  have b9 := putU_box br o (.slice A9 n9 c9)
  have B9 := putU_below HLZ.out.2 o (.slice A9 n9 c9) B5
  rw [← hW'] at b9 B9
  have e9 : W' = ((((((((w5.setCell ⟨z3, 0, none⟩ (.int .i64 o.sn.ix)).setCell ⟨z3, 1, none⟩ (.int .i64 o.sn.tm)).setCell ⟨z3, 2, none⟩ (.int .i64 o.sn.sm)).setCell ⟨z3, 3, none⟩ (.int .i64 o.sn.lv)).setCell ⟨z3, 4, none⟩ (.bool o.sn.fn)).setCell ⟨z3, 5, none⟩ (.slice A9 n9 c9)).setCell ⟨z3, 6, none⟩ (.int .i64 o.tm)).setCell ⟨z3, 7, none⟩ (.int .i64 o.vt)) := hW'
  have own10 : OwnE W' w.heap.size (.slice A9 n9 c9) n9 o.lg := by rw [hW']; exact putU_own br own9
  rw [← e9]
  clear e9 hW' g0 g1 g2 g3 g4 g5 g6 g7 f0 f1 f2 f3 f4 f5 f6 f7
  obtain ⟨g0, g1, g2, g3, g4, g5, g6, g7⟩ := b9.cells
  exact bodyPost_ret (v := .tuple #[tupV o (.slice A9 n9 c9), .int .i64 er]) (by unfold tupV; simp [results, Try.results16, go_sem, g0, g1, g2, g3, g4, g5, g6, g7]) rfl ⟨⟨o, er, A9, n9, c9, rfl, .inr ⟨HC.out, (HR.out.no (by simp)).1, (HR.out.no (by simp)).2⟩, hnc9, own10⟩, B9⟩
set_option maxRecDepth 100000 in
set_option maxHeartbeats 8000000 in
theorem rsave_no2 (t : TupP) (A : Option Addr) (n c : Nat) (s : StP) (w : World) (hS : Es w w.heap.size A n t.lg) (hn : n ≤ 100000) (hnc : n ≤ c) (hx : -1099511627776 ≤ t.sn.ix ∧ t.sn.ix ≤ 1099511627776) (hi : -1099511627776 ≤ s.ix ∧ s.ix ≤ 1099511627776) (h : termAtP t s.ix = some s.tm) (h2 : ¬ FineP s) :
    Calls Try.prog 16 #[tupV t (.slice A n c), s.v] w (OutT (SaveIs t s) w.heap.size w) := by
  have HV := Lib.hid (term_yes h)
  have HC := Lib.hid (show ¬ ((termAtP t s.ix = some s.tm ∧ FineP s) ∧ MayT t ∧ MayT (saveT t s)) from fun k => absurd k.1 (by simp [h2]))
  have q1 : (s.tm != s.tm) = false := by simp
  have HF := Lib.hid (fineB_not.2 h2)
  clear h h2
  have HB := Lib.hid (⟨hx, hi⟩ : _ ∧ _)
  clear hx hi
  have HS0 := Lib.hid hS
  have Hl := Lib.hid hS.len
  obtain ⟨z1, hz1⟩ : ∃ z, z = w.heap.size := ⟨_, rfl⟩
  obtain ⟨w1, hw1⟩ : ∃ x, x = w.alloc (.cells #[.int .i64 t.sn.ix, .int .i64 t.sn.tm, .int .i64 t.sn.sm, .int .i64 t.sn.lv, .bool t.sn.fn, .slice A n c, .int .i64 t.tm, .int .i64 t.vt] 26) := ⟨_, rfl⟩
  have bb : Below w.heap.size w w1 := by rw [hw1]; exact below_al (below_d0 _) _
  have bz : BoxU w1 z1 t (.slice A n c) := by rw [hw1, hz1]; exact BoxU.new w t _
  replace hS := hS.on bb bb.size
  have B1 := bb
  clear bb
  obtain ⟨z2, hz2⟩ : ∃ z, z = w1.heap.size := ⟨_, rfl⟩
  obtain ⟨w2, hw2⟩ : ∃ x, x = w1.alloc (.cells #[.int .i64 s.ix, .int .i64 s.tm, .int .i64 s.sm, .int .i64 s.lv, .bool s.fn] 23) := ⟨_, rfl⟩
  have bb : Below w1.heap.size w1 w2 := by rw [hw2]; exact below_al (below_d0 _) _
  have bs : BoxS w2 z2 s := by rw [hw2, hz2]; exact BoxS.new w1 s
  replace bz := bz.below bb
  replace hS := hS.on bb bb.size
  have B2 := B1.trans (bb.mono B1.size)
  clear bb B1
  obtain ⟨z3, hz3⟩ : ∃ z, z = w2.heap.size := ⟨_, rfl⟩
  obtain ⟨w3, hw3⟩ : ∃ x, x = w2.alloc (.cells #[.int .i64 0, .int .i64 0, .int .i64 0, .int .i64 0, .bool false, .slice none 0 0, .int .i64 0, .int .i64 0] 26) := ⟨_, rfl⟩
  have bb : Below w2.heap.size w2 w3 := by rw [hw3]; exact below_al (below_d0 _) _
  have br : BoxU w3 z3 noneT (.slice none 0 0) := by rw [hw3, hz3]; exact BoxU.new w2 noneT _
  replace bz := bz.below bb
  replace bs := bs.below bb
  replace hS := hS.on bb bb.size
  have B3 := B2.trans (bb.mono B2.size)
  clear bb B2
  have hp2 : z1 + 1 = z2 := by rw [hz2, hw1, hz1]; simp
  have hp3 : z2 + 1 = z3 := by rw [hz3, hw2, hz2]; simp
  have lz2 : w.heap.size ≤ z2 := by omega
  have lz3 : w.heap.size ≤ z3 := by omega
  have ne12 : z1 ≠ z2 := by omega
  have ne13 : z1 ≠ z3 := by omega
  have ne23 : z2 ≠ z3 := by omega
  have HE := Lib.hid (⟨hw1, hw2, hw3, hz1, hp2, hp3⟩ : _ ∧ _ ∧ _ ∧ _ ∧ _ ∧ _)
  have HLZ := Lib.hid (⟨lz2, lz3⟩ : _ ∧ _)
  clear hw1 hz1 hw2 hz2 hw3 hz3 hp2 hp3 lz2 lz3
  unfold StP.v
  unfold tupV
  go_enter Try.func16, Try.ntmps16
  obtain ⟨k0, k1, k2, k3, k4, k5, k6, k7⟩ := bz.cells
  obtain ⟨i0, i1, i2, i3, i4⟩ := bs.cells
  go_wp2_with fail
  clear k0 k1 k2 k3 k4 k5 k6 k7
  clear i0 i1 i2 i3 i4
  rw [← HE.out.1, ← HE.out.2.1, ← HE.out.2.2.1, ← HE.out.2.2.2.1]
  (try rw [HE.out.2.2.2.2.1])
  (try rw [HE.out.2.2.2.2.2])
  clear HE
  refine Calls.mono (show Calls Try.prog 22 #[.agg #[.int .i64 t.sn.ix, .int .i64 t.sn.tm, .int .i64 t.sn.sm, .int .i64 t.sn.lv, .bool t.sn.fn, .slice A n c, .int .i64 t.tm, .int .i64 t.vt], .int .i64 s.ix] w3 (fun e w' => e = .returned (.tuple #[.int .i64 s.tm, .bool true]) ∧ Below w3.heap.size w3 w') from by rw [← HV.out]; exact rtermAtT_any t A n c s.ix w3 hS (by omega) HB.out.1 HB.out.2) ?_
  intro e w4 hh
  obtain ⟨rfl, bb⟩ := hh
  (try clear hh)
  replace bz := bz.below bb
  replace bs := bs.below bb
  replace br := br.below bb
  replace hS := hS.on bb bb.size
  have B4 := B3.trans (bb.mono B3.size)
  clear bb B3
  obtain ⟨k0, k1, k2, k3, k4, k5, k6, k7⟩ := bz.cells
  obtain ⟨i0, i1, i2, i3, i4⟩ := bs.cells
  go_wp2_with fail
  clear k0 k1 k2 k3 k4 k5 k6 k7
  clear i0 i1 i2 i3 i4
  refine Calls.mono (show Calls Try.prog 37 #[.agg #[.int .i64 s.ix, .int .i64 s.tm, .int .i64 s.sm, .int .i64 s.lv, .bool s.fn]] w4 (fun r w' => r = .returned (.bool (fineB s)) ∧ Below w4.heap.size w4 w') from rfine_any s w4) ?_
  intro e w5 hh
  obtain ⟨rfl, bb⟩ := hh
  (try clear hh)
  replace bz := bz.below bb
  replace bs := bs.below bb
  replace br := br.below bb
  replace hS := hS.on bb bb.size
  have B5 := B4.trans (bb.mono B4.size)
  clear bb B4
  rw [HF.out]
  obtain ⟨k0, k1, k2, k3, k4, k5, k6, k7⟩ := bz.cells
  obtain ⟨i0, i1, i2, i3, i4⟩ := bs.cells
  go_wp2_with fail
  clear k0 k1 k2 k3 k4 k5 k6 k7
  clear i0 i1 i2 i3 i4
  refine Calls.mono (show Calls Try.prog 42 #[.agg #[.int .i64 t.sn.ix, .int .i64 t.sn.tm, .int .i64 t.sn.sm, .int .i64 t.sn.lv, .bool t.sn.fn, .slice A n c, .int .i64 t.tm, .int .i64 t.vt], .agg #[.int .i64 t.sn.ix, .int .i64 t.sn.tm, .int .i64 t.sn.sm, .int .i64 t.sn.lv, .bool t.sn.fn, .slice A n c, .int .i64 t.tm, .int .i64 t.vt], .bool false] w5 (OutT (ToldIs t t (false = true)) w.heap.size w5) from told_no0 t t A A n c n c w.heap.size false w5 hS (by omega) (by omega) hnc B5.size rfl) ?_
  intro e w6 hh
  obtain ⟨⟨o, er, A9, n9, c9, rfl, hR, hnc9, own9⟩, bb⟩ := hh
  (try clear hh)
  replace bz := bz.below bb
  replace bs := bs.below bb
  replace br := br.below bb
  replace hS := hS.on bb bb.size
  have B6 := B5.trans (bb.mono B5.size)
  clear bb B5
  unfold tupV
  have HR := Lib.hid hR
  clear hR
  obtain ⟨g0, g1, g2, g3, g4, g5, g6, g7⟩ := br.cells
  have f0 := br.frozen 0
  have f1 := br.frozen 1
  have f2 := br.frozen 2
  have f3 := br.frozen 3
  have f4 := br.frozen 4
  have f5 := br.frozen 5
  have f6 := br.frozen 6
  have f7 := br.frozen 7
  go_wp2_with fail
  obtain ⟨W', hW'⟩ : ∃ W', W' = putU w6 z3 o (.slice A9 n9 c9) := ⟨_, rfl⟩
  have b9 := putU_box br o (.slice A9 n9 c9)
  have B9 := putU_below HLZ.out.2 o (.slice A9 n9 c9) B6
  rw [← hW'] at b9 B9
  have e9 : W' = ((((((((w6.setCell ⟨z3, 0, none⟩ (.int .i64 o.sn.ix)).setCell ⟨z3, 1, none⟩ (.int .i64 o.sn.tm)).setCell ⟨z3, 2, none⟩ (.int .i64 o.sn.sm)).setCell ⟨z3, 3, none⟩ (.int .i64 o.sn.lv)).setCell ⟨z3, 4, none⟩ (.bool o.sn.fn)).setCell ⟨z3, 5, none⟩ (.slice A9 n9 c9)).setCell ⟨z3, 6, none⟩ (.int .i64 o.tm)).setCell ⟨z3, 7, none⟩ (.int .i64 o.vt)) := hW'
  have own10 : OwnE W' w.heap.size (.slice A9 n9 c9) n9 o.lg := by rw [hW']; exact putU_own br own9
  rw [← e9]
  clear e9 hW' g0 g1 g2 g3 g4 g5 g6 g7 f0 f1 f2 f3 f4 f5 f6 f7
  obtain ⟨g0, g1, g2, g3, g4, g5, g6, g7⟩ := b9.cells
  exact bodyPost_ret (v := .tuple #[tupV o (.slice A9 n9 c9), .int .i64 er]) (by unfold tupV; simp [results, Try.results16, go_sem, g0, g1, g2, g3, g4, g5, g6, g7]) rfl ⟨⟨o, er, A9, n9, c9, rfl, .inr ⟨HC.out, (HR.out.no (by simp)).1, (HR.out.no (by simp)).2⟩, hnc9, own10⟩, B9⟩
set_option maxRecDepth 100000 in
set_option maxHeartbeats 8000000 in
theorem rsave_yes (t : TupP) (A : Option Addr) (n c : Nat) (s : StP) (w : World) (hS : Es w w.heap.size A n t.lg) (hn : n ≤ 100000) (hnc : n ≤ c) (hx : -1099511627776 ≤ t.sn.ix ∧ t.sn.ix ≤ 1099511627776) (hi : -1099511627776 ≤ s.ix ∧ s.ix ≤ 1099511627776) (h : termAtP t s.ix = some s.tm) (h2 : FineP s) :
    Calls Try.prog 16 #[tupV t (.slice A n c), s.v] w (OutT (SaveIs t s) w.heap.size w) := by
  have HV := Lib.hid (term_yes h)
  have HC := Lib.hid (show (true = true) ↔ (termAtP t s.ix = some s.tm ∧ FineP s) by simp [h, h2])
  have q1 : (s.tm != s.tm) = false := by simp
  have HF := Lib.hid (fineB_iff.2 h2)
  obtain ⟨hr1, hr2⟩ := termAt_range h
  obtain ⟨u, hu⟩ : ∃ u : Nat, (u : Int) = s.ix - t.sn.ix := ⟨(s.ix - t.sn.ix).toNat, by omega⟩
  have hun : u ≤ n := by have := hS.len; unfold lastT at hr2; omega
  have HU := Lib.hid (show saveT t s = { t with sn := s, lg := t.lg.drop u } by unfold saveT; rw [show (s.ix - t.sn.ix).toNat = u by omega])
  have r2 : wrap64 (s.ix - t.sn.ix) = (u : Int) := by unfold wrap64; omega
  have r3 : IntKind.i64.wrap (s.ix - t.sn.ix) = (u : Int) := by rw [IntKind.wrap_i64]; omega
  clear hu hr1 hr2 h h2
  obtain ⟨i0, hi0, hz0, hz1, hz2⟩ := info_partsV info_entry
  have HB := Lib.hid (⟨hx, hi⟩ : _ ∧ _)
  clear hx hi
  have HS0 := Lib.hid hS
  have Hl := Lib.hid hS.len
  obtain ⟨z1, hz1⟩ : ∃ z, z = w.heap.size := ⟨_, rfl⟩
  obtain ⟨w1, hw1⟩ : ∃ x, x = w.alloc (.cells #[.int .i64 t.sn.ix, .int .i64 t.sn.tm, .int .i64 t.sn.sm, .int .i64 t.sn.lv, .bool t.sn.fn, .slice A n c, .int .i64 t.tm, .int .i64 t.vt] 26) := ⟨_, rfl⟩
  have bb : Below w.heap.size w w1 := by rw [hw1]; exact below_al (below_d0 _) _
  have bz : BoxU w1 z1 t (.slice A n c) := by rw [hw1, hz1]; exact BoxU.new w t _
  replace hS := hS.on bb bb.size
  have B1 := bb
  clear bb
  obtain ⟨z2, hz2⟩ : ∃ z, z = w1.heap.size := ⟨_, rfl⟩
  obtain ⟨w2, hw2⟩ : ∃ x, x = w1.alloc (.cells #[.int .i64 s.ix, .int .i64 s.tm, .int .i64 s.sm, .int .i64 s.lv, .bool s.fn] 23) := ⟨_, rfl⟩
  have bb : Below w1.heap.size w1 w2 := by rw [hw2]; exact below_al (below_d0 _) _
  have bs : BoxS w2 z2 s := by rw [hw2, hz2]; exact BoxS.new w1 s
  replace bz := bz.below bb
  replace hS := hS.on bb bb.size
  have B2 := B1.trans (bb.mono B1.size)
  clear bb B1
  obtain ⟨z3, hz3⟩ : ∃ z, z = w2.heap.size := ⟨_, rfl⟩
  obtain ⟨w3, hw3⟩ : ∃ x, x = w2.alloc (.cells #[.int .i64 0, .int .i64 0, .int .i64 0, .int .i64 0, .bool false, .slice none 0 0, .int .i64 0, .int .i64 0] 26) := ⟨_, rfl⟩
  have bb : Below w2.heap.size w2 w3 := by rw [hw3]; exact below_al (below_d0 _) _
  have br : BoxU w3 z3 noneT (.slice none 0 0) := by rw [hw3, hz3]; exact BoxU.new w2 noneT _
  replace bz := bz.below bb
  replace bs := bs.below bb
  replace hS := hS.on bb bb.size
  have B3 := B2.trans (bb.mono B2.size)
  clear bb B2
  have hp2 : z1 + 1 = z2 := by rw [hz2, hw1, hz1]; simp
  have hp3 : z2 + 1 = z3 := by rw [hz3, hw2, hz2]; simp
  have lz2 : w.heap.size ≤ z2 := by omega
  have lz3 : w.heap.size ≤ z3 := by omega
  have ne12 : z1 ≠ z2 := by omega
  have ne13 : z1 ≠ z3 := by omega
  have ne23 : z2 ≠ z3 := by omega
  have HE := Lib.hid (⟨hw1, hw2, hw3, hz1, hp2, hp3⟩ : _ ∧ _ ∧ _ ∧ _ ∧ _ ∧ _)
  have HLZ := Lib.hid (⟨lz2, lz3⟩ : _ ∧ _)
  clear hw1 hz1 hw2 hz2 hw3 hz3 hp2 hp3 lz2 lz3
  unfold StP.v
  unfold tupV
  go_enter Try.func16, Try.ntmps16
  obtain ⟨k0, k1, k2, k3, k4, k5, k6, k7⟩ := bz.cells
  obtain ⟨i0, i1, i2, i3, i4⟩ := bs.cells
  go_wp2_with fail
  clear k0 k1 k2 k3 k4 k5 k6 k7
  clear i0 i1 i2 i3 i4
  rw [← HE.out.1, ← HE.out.2.1, ← HE.out.2.2.1, ← HE.out.2.2.2.1]
  (try rw [HE.out.2.2.2.2.1])
  (try rw [HE.out.2.2.2.2.2])
  clear HE
  refine Calls.mono (show Calls Try.prog 22 #[.agg #[.int .i64 t.sn.ix, .int .i64 t.sn.tm, .int .i64 t.sn.sm, .int .i64 t.sn.lv, .bool t.sn.fn, .slice A n c, .int .i64 t.tm, .int .i64 t.vt], .int .i64 s.ix] w3 (fun e w' => e = .returned (.tuple #[.int .i64 s.tm, .bool true]) ∧ Below w3.heap.size w3 w') from by rw [← HV.out]; exact rtermAtT_any t A n c s.ix w3 hS (by omega) HB.out.1 HB.out.2) ?_
  intro e w4 hh
  obtain ⟨rfl, bb⟩ := hh
  (try clear hh)
  replace bz := bz.below bb
  replace bs := bs.below bb
  replace br := br.below bb
  replace hS := hS.on bb bb.size
  have B4 := B3.trans (bb.mono B3.size)
  clear bb B3
  obtain ⟨k0, k1, k2, k3, k4, k5, k6, k7⟩ := bz.cells
  obtain ⟨i0, i1, i2, i3, i4⟩ := bs.cells
  go_wp2_with fail
  clear k0 k1 k2 k3 k4 k5 k6 k7
  clear i0 i1 i2 i3 i4
  refine Calls.mono (show Calls Try.prog 37 #[.agg #[.int .i64 s.ix, .int .i64 s.tm, .int .i64 s.sm, .int .i64 s.lv, .bool s.fn]] w4 (fun r w' => r = .returned (.bool (fineB s)) ∧ Below w4.heap.size w4 w') from rfine_any s w4) ?_
  intro e w5 hh
  obtain ⟨rfl, bb⟩ := hh
  (try clear hh)
  replace bz := bz.below bb
  replace bs := bs.below bb
  replace br := br.below bb
  replace hS := hS.on bb bb.size
  have B5 := B4.trans (bb.mono B4.size)
  clear bb B4
  rw [HF.out]
  obtain ⟨k0, k1, k2, k3, k4, k5, k6, k7⟩ := bz.cells
  obtain ⟨i0, i1, i2, i3, i4⟩ := bs.cells
  go_wp2_with fail
  clear k0 k1 k2 k3 k4 k5 k6 k7
  clear i0 i1 i2 i3 i4
  have hb2 := B5.size
  refine Calls.mono (show Calls Try.prog 41 #[.agg #[.int .i64 t.sn.ix, .int .i64 t.sn.tm, .int .i64 t.sn.sm, .int .i64 t.sn.lv, .bool t.sn.fn, .slice A n c, .int .i64 t.tm, .int .i64 t.vt]] w5 (fun e w' => (∃ A' c', e = .returned (tupV t (.slice A' n c')) ∧ n ≤ c' ∧ OwnE w' w5.heap.size (.slice A' n c') n t.lg) ∧ Below w5.heap.size w5 w') from rownT_any t A n c w5 hS (by omega)) ?_
  intro e w6 hh
  obtain ⟨⟨A5, c5, rfl, hc5, own⟩, bb⟩ := hh
  (try clear hh)
  replace bz := bz.below bb
  replace bs := bs.below bb
  replace br := br.below bb
  replace hS := hS.on bb bb.size
  have B6 := B5.trans (bb.mono B5.size)
  clear bb B5
  skip
  replace own := own_low own hb2
  have B6x := B6
  clear hb2
  have lbz := bz.lt
  have lbs := bs.lt
  have lbr := br.lt
  obtain ⟨z7, hz7⟩ : ∃ z, z = w6.heap.size := ⟨_, rfl⟩
  obtain ⟨w7, hw7⟩ : ∃ x, x = w6.alloc (.cells #[.int .i64 t.sn.ix, .int .i64 t.sn.tm, .int .i64 t.sn.sm, .int .i64 t.sn.lv, .bool t.sn.fn, .slice A5 n c5, .int .i64 t.tm, .int .i64 t.vt] 26) := ⟨_, rfl⟩
  have bb : Below w6.heap.size w6 w7 := by rw [hw7]; exact below_al (below_d0 _) _
  have bo : BoxU w7 z7 t (.slice A5 n c5) := by rw [hw7, hz7]; exact BoxU.new w6 t _
  replace own := own_keep own bb
  replace bz := bz.below bb
  replace bs := bs.below bb
  replace br := br.below bb
  replace hS := hS.on bb bb.size
  have B7 := B6.trans (bb.mono B6.size)
  clear bb B6
  have hzo : w.heap.size ≤ z7 := by rw [hz7]; exact B6x.size
  have nbz : z1 ≠ z7 := by omega
  have nbs : z2 ≠ z7 := by omega
  have nbr : z3 ≠ z7 := by omega
  have HE2 := Lib.hid (⟨hw7, hz7⟩ : _ ∧ _)
  clear hw7 hz7 lbz lbs lbr
  unfold tupV
  go_upto_region 5 with fail
  rw [← HE2.out.1, ← HE2.out.2]
  clear HE2
  clear B6x
  obtain ⟨A7, hsl, hes⟩ := cut_restE Try.underlying24 hi0 hz1 A5 n c5 u hun hc5
  obtain ⟨g, hg⟩ : ∃ g, g = w7.heap.size := ⟨_, rfl⟩
  obtain ⟨w8, hw8⟩ : ∃ x, x = w7.alloc (.cells #[] 39) := ⟨_, rfl⟩
  have bb : Below w7.heap.size w7 w8 := by rw [hw8]; exact below_al (below_d0 _) _
  have own3 : w8.ownsRow w.heap.size 39 3 (.slice (some ⟨g, 0, none⟩) 0 0) 0 [] := by rw [hw8]; exact own_emptyG hg B7.size
  have own0 := own_keep own bb
  have src := Row.source (by omega) EnP.len EnP.one (hes (OwnE.es own0))
  have bz1 := bz.below bb
  have bs1 := bs.below bb
  have lbs' := bs.lt
  have br1 := br.below bb
  have bo1 := bo.below bb
  have B8 := B7.trans (bb.mono B7.size)
  obtain ⟨u1, hu1⟩ : ∃ u1, u1 = n - u := ⟨_, rfl⟩
  obtain ⟨c1, hc1⟩ : ∃ c1, c1 = c5 - u := ⟨_, rfl⟩
  rw [← hu1, ← hc1] at hsl
  rw [← hu1] at src
  have hsl2 : ∀ W : World, (Instr.slice 24 (.slice A5 n c5) (some (.int .i64 (u : Int))) none none).run Try.prog W = .ok (.slice A7 u1 c1) W := hsl
  have HG := Lib.hid (⟨hw8, hg⟩ : _ ∧ _)
  have HUU := Lib.hid (⟨hu1, hc1⟩ : _ ∧ _)
  clear hw8 hg bb own hes hsl hu1 hc1
  obtain ⟨k0, k1, k2, k3, k4, k5, k6, k7⟩ := bz1.cells
  rw [HG.out.1] at k0 k1 k2 k3 k4 k5 k6 k7
  obtain ⟨j0, j1, j2, j3, j4, j5, j6, j7⟩ := bo1.cells
  rw [HG.out.1] at j0 j1 j2 j3 j4 j5 j6 j7
  obtain ⟨m0, m1, m2, m3, m4⟩ := bs1.cells
  rw [HG.out.1] at m0 m1 m2 m3 m4
  go_wp2_with (at_builtin; refine hold ?_)
  rw [← HG.out.1, ← HG.out.2]
  refine unhold (wpList_append (.tmp 36) (.tmp 45) 24 Try.underlying24 hi0 hz0 hz1 hz2 entry_cells (by omega) own3 src (by have := HUU.out.1; unfold maxLen; omega) (by have := HUU.out.1; omega) B8.size rfl rfl rfl rfl ?_)
  clear k0 k1 k2 k3 k4 k5 k6 k7 j0 j1 j2 j3 j4 j5 j6 j7 m0 m1 m2 m3 m4 bz bs br bo
  intro v1 w9 L
  have own1 : OwnE w9 w.heap.size v1 u1 (t.lg.drop u) := by have h := L.1; rwa [Nat.zero_add, List.nil_append] at h
  have hgn : ∀ z q x, BoxU w8 z q x → z ≠ g := fun z q x hb e => own_boxU hb (l := []) own3 g rfl e.symm
  have bz : BoxU w9 z1 t (.slice A n c) := (L.2.1.block z1 bz1.lt (fun e => hgn _ _ _ bz1 (Option.some.inj e))).trans bz1
  have br : BoxU w9 z3 noneT (.slice none 0 0) := (L.2.1.block z3 br1.lt (fun e => hgn _ _ _ br1 (Option.some.inj e))).trans br1
  have bo : BoxU w9 z7 t (.slice A5 n c5) := (L.2.1.block z7 bo1.lt (fun e => hgn _ _ _ bo1 (Option.some.inj e))).trans bo1
  have bs : BoxS w9 z2 s := (L.2.1.block z2 bs1.lt (fun e => by have h1 : z2 = g := Option.some.inj e; have h2 := HG.out.2; have h3 := lbs'; omega)).trans bs1
  have B9 : Below w.heap.size w w9 := L.below B8 B8.size (fun q hq => (own3.lt q hq).1)
  obtain ⟨A6, c6, rfl, hnc6⟩ := own_slice own1
  clear own3 own0 L src hgn bz1 br1 bo1 bs1 hS B7 B8 hc5 hi0 hz0 hz1 hz2 hsl2 HG r2 r3
  have lz7x := hzo
  obtain ⟨j0, j1, j2, j3, j4, j5, j6, j7⟩ := bo.cells
  have f5 := bo.frozen 5
  go_upto_region 6 with fail
  clear j0 j1 j2 j3 j4 j5 j6 j7 f5
  obtain ⟨w10, hw10⟩ : ∃ x, x = w9.setCell ⟨z7, 5, none⟩ (.slice A6 u1 c6) := ⟨_, rfl⟩
  have own2 : OwnE w10 w.heap.size (.slice A6 u1 c6) u1 (t.lg.drop u) := by rw [hw10]; exact set_ownU bo own1
  replace bz : BoxU w10 z1 t (.slice A n c) := by rw [hw10]; exact set_boxU bz nbz
  replace br : BoxU w10 z3 noneT (.slice none 0 0) := by rw [hw10]; exact set_boxU br nbr
  replace bs : BoxS w10 z2 s := by rw [hw10]; exact bs.other nbs _
  replace bo : BoxU w10 z7 { t with lg := t.lg.drop u } (.slice A6 u1 c6) := by rw [hw10]; exact put5U bo (t.lg.drop u) _
  have B10 : Below w.heap.size w w10 := by rw [hw10]; exact B9.setCell (p := ⟨z7, 5, none⟩) hzo _
  rw [← hw10]
  clear hw10 B9 own1
  obtain ⟨j0, j1, j2, j3, j4, j5, j6, j7⟩ := bo.cells
  have f0 := bo.frozen 0
  have f1 := bo.frozen 1
  have f2 := bo.frozen 2
  have f3 := bo.frozen 3
  have f4 := bo.frozen 4
  obtain ⟨m0, m1, m2, m3, m4⟩ := bs.cells
  go_upto_region 7 with fail
  clear j0 j1 j2 j3 j4 j5 j6 j7 f0 f1 f2 f3 f4 m0 m1 m2 m3 m4
  obtain ⟨w11, hw11⟩ : ∃ x, x = (((((w10.setCell ⟨z7, 0, none⟩ (.int .i64 s.ix)).setCell ⟨z7, 1, none⟩ (.int .i64 s.tm)).setCell ⟨z7, 2, none⟩ (.int .i64 s.sm)).setCell ⟨z7, 3, none⟩ (.int .i64 s.lv)).setCell ⟨z7, 4, none⟩ (.bool s.fn)) := ⟨_, rfl⟩
  have own : OwnE w11 w.heap.size (.slice A6 u1 c6) u1 (t.lg.drop u) := own_at own2 fun g hg => by
    have hne := own_boxU bo own2 g hg
    rw [hw11, Below.heap_setCell _ _ _ g (by simpa using hne), Below.heap_setCell _ _ _ g (by simpa using hne), Below.heap_setCell _ _ _ g (by simpa using hne), Below.heap_setCell _ _ _ g (by simpa using hne), Below.heap_setCell _ _ _ g (by simpa using hne)]
  replace bz : BoxU w11 z1 t (.slice A n c) := by rw [hw11]; exact set_boxU (set_boxU (set_boxU (set_boxU (set_boxU bz nbz) nbz) nbz) nbz) nbz
  replace br : BoxU w11 z3 noneT (.slice none 0 0) := by rw [hw11]; exact set_boxU (set_boxU (set_boxU (set_boxU (set_boxU br nbr) nbr) nbr) nbr) nbr
  replace bo : BoxU w11 z7 { t with sn := s, lg := t.lg.drop u } (.slice A6 u1 c6) := by rw [hw11]; exact put04U bo s
  have B11 : Below w.heap.size w w11 := by rw [hw11]; exact (((((B10.setCell (p := ⟨z7, 0, none⟩) hzo _).setCell (p := ⟨z7, 1, none⟩) hzo _).setCell (p := ⟨z7, 2, none⟩) hzo _).setCell (p := ⟨z7, 3, none⟩) hzo _).setCell (p := ⟨z7, 4, none⟩) hzo _)
  have hS : Es w11 w11.heap.size A n t.lg := Row.on HS0.out B11 B11.size
  rw [← hw11]
  clear hw11 B10 bs own2
  obtain ⟨k0, k1, k2, k3, k4, k5, k6, k7⟩ := bz.cells
  obtain ⟨j0, j1, j2, j3, j4, j5, j6, j7⟩ := bo.cells
  go_wp2_with fail
  clear k0 k1 k2 k3 k4 k5 k6 k7
  clear j0 j1 j2 j3 j4 j5 j6 j7
  refine Calls.mono (show Calls Try.prog 42 #[.agg #[.int .i64 t.sn.ix, .int .i64 t.sn.tm, .int .i64 t.sn.sm, .int .i64 t.sn.lv, .bool t.sn.fn, .slice A n c, .int .i64 t.tm, .int .i64 t.vt], .agg #[.int .i64 s.ix, .int .i64 s.tm, .int .i64 s.sm, .int .i64 s.lv, .bool s.fn, .slice A6 u1 c6, .int .i64 t.tm, .int .i64 t.vt], .bool true] w11 (OutT (ToldIs t { t with sn := s, lg := t.lg.drop u } (true = true)) w.heap.size w11) from rtoldT_any t { t with sn := s, lg := t.lg.drop u } A A6 n c u1 c6 w.heap.size true w11 hS own (by omega) (by have := HUU.out.1; omega) hnc6 B11.size) ?_
  intro e w12 hh
  obtain ⟨⟨o, er, A9, n9, c9, rfl, hR, hnc9, own9⟩, bb⟩ := hh
  (try clear hh)
  replace bz := bz.below bb
  replace br := br.below bb
  replace bo := bo.below bb
  replace hS := hS.on bb bb.size
  have B12 := B11.trans (bb.mono B11.size)
  clear bb B11
  rw [← HU.out] at hR
  unfold tupV
  have HR := Lib.hid hR
  clear hR
  obtain ⟨g0, g1, g2, g3, g4, g5, g6, g7⟩ := br.cells
  have f0 := br.frozen 0
  have f1 := br.frozen 1
  have f2 := br.frozen 2
  have f3 := br.frozen 3
  have f4 := br.frozen 4
  have f5 := br.frozen 5
  have f6 := br.frozen 6
  have f7 := br.frozen 7
  go_wp2_with fail
  obtain ⟨W', hW'⟩ : ∃ W', W' = putU w12 z3 o (.slice A9 n9 c9) := ⟨_, rfl⟩
  have b9 := putU_box br o (.slice A9 n9 c9)
  have B9 := putU_below HLZ.out.2 o (.slice A9 n9 c9) B12
  rw [← hW'] at b9 B9
  have e9 : W' = ((((((((w12.setCell ⟨z3, 0, none⟩ (.int .i64 o.sn.ix)).setCell ⟨z3, 1, none⟩ (.int .i64 o.sn.tm)).setCell ⟨z3, 2, none⟩ (.int .i64 o.sn.sm)).setCell ⟨z3, 3, none⟩ (.int .i64 o.sn.lv)).setCell ⟨z3, 4, none⟩ (.bool o.sn.fn)).setCell ⟨z3, 5, none⟩ (.slice A9 n9 c9)).setCell ⟨z3, 6, none⟩ (.int .i64 o.tm)).setCell ⟨z3, 7, none⟩ (.int .i64 o.vt)) := hW'
  have own10 : OwnE W' w.heap.size (.slice A9 n9 c9) n9 o.lg := by rw [hW']; exact putU_own br own9
  rw [← e9]
  clear e9 hW' g0 g1 g2 g3 g4 g5 g6 g7 f0 f1 f2 f3 f4 f5 f6 f7
  obtain ⟨g0, g1, g2, g3, g4, g5, g6, g7⟩ := b9.cells
  exact bodyPost_ret (v := .tuple #[tupV o (.slice A9 n9 c9), .int .i64 er]) (by unfold tupV; simp [results, Try.results16, go_sem, g0, g1, g2, g3, g4, g5, g6, g7]) rfl ⟨⟨o, er, A9, n9, c9, rfl, ToldIs.iff HR.out HC.out, hnc9, own10⟩, B9⟩
theorem rsaveT_any (t : TupP) (A : Option Addr) (n c : Nat) (s : StP) (w : World) (hS : Es w w.heap.size A n t.lg) (hn : n ≤ 100000) (hnc : n ≤ c) (hx : -1099511627776 ≤ t.sn.ix ∧ t.sn.ix ≤ 1099511627776) (hi : -1099511627776 ≤ s.ix ∧ s.ix ≤ 1099511627776) :
    Calls Try.prog 16 #[tupV t (.slice A n c), s.v] w (OutT (SaveIs t s) w.heap.size w) := by
  cases h : termAtP t s.ix with
  | none => exact rsave_no0 t A n c s w hS hn hnc hx hi h
  | some x =>
    by_cases h1 : x = s.tm
    · subst h1
      by_cases h2 : FineP s
      · exact rsave_yes t A n c s w hS hn hnc hx hi h h2
      · exact rsave_no2 t A n c s w hS hn hnc hx hi h h2
    · exact rsave_no1 t A n c s w hS hn hnc hx hi x h h1
end Go.Proofs.Ytbhnlmlaebngmaa
