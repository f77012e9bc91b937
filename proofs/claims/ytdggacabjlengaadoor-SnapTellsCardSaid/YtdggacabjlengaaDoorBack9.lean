/-
  SnapBack: it returns true.
-/
import Derived.Test.YtdggacabjlengaaDoorOnly9
namespace Go.Proofs.YtdggacabjlengaaDoor
open Go.RowKit
set_option linter.unusedVariables false
set_option linter.unusedSimpArgs false

theorem neq_same (s : StP) (w : World) : (binOp .neq 23 (.agg #[.int .i64 s.ix, .int .i64 s.tm, .int .i64 s.sm, .int .i64 s.lv, .bool s.fn]) (.agg #[.int .i64 s.ix, .int .i64 s.tm, .int .i64 s.sm, .int .i64 s.lv, .bool s.fn])).run Tryd.prog w = .ok (.bool false) w := by
  obtain ⟨a, b, c, d, e⟩ := s
  rw [run_neq_struct, run_equalIn_agg w 9999 _ _ _ (by kernel_rfl) (by kernel_rfl), fields_st]
  simp [Op.eqFields, part, go_sem]

set_option maxRecDepth 100000 in
set_option maxHeartbeats 4000000 in
theorem back_unfit (s : StP) (f t : Int) (w : World) (hT : Cr.Tab w) (hs : fineB s = false) :
    Calls Tryd.prog 4 #[s.v, .int .i64 f, .int .i64 t] w fun e w' => e = .returned (.bool true) ∧ Below w.heap.size w w' := by
  have HT := Lib.hid hT
  clear hT
  have hp : putP s f = ([], 2) := putP_no (fun h => by rw [hs] at h; cases h.1)
  have HP := Lib.hid (⟨hp, hs⟩ : _ ∧ _)
  clear hp hs
  obtain ⟨z, hz⟩ : ∃ z, z = w.heap.size := ⟨_, rfl⟩
  obtain ⟨w1, hw1⟩ : ∃ x, x = w.alloc (.cells #[.int .i64 s.ix, .int .i64 s.tm, .int .i64 s.sm, .int .i64 s.lv, .bool s.fn] 23) := ⟨_, rfl⟩
  have bz : BoxS w1 z s := by rw [hw1, hz]; exact BoxS.new w s
  have bb : Below w.heap.size w w1 := by rw [hw1]; exact (Below.refl _ _).alloc (Nat.le_refl _) _
  have B1 := bb
  clear bb
  obtain ⟨k0, k1, k2, k3, k4⟩ := bz.cells
  rw [hw1, hz] at k0 k1 k2 k3 k4
  unfold StP.v
  go_enter Tryd.func4, Tryd.ntmps4
  go_wp2_with fail
  rw [← hw1, ← hz]
  clear k0 k1 k2 k3 k4
  clear hw1 hz
  refine Calls.mono (show Calls Tryd.prog 9 #[.agg #[.int .i64 s.ix, .int .i64 s.tm, .int .i64 s.sm, .int .i64 s.lv, .bool s.fn], .int .i64 f] w1 (Told w1 (putP s f)) from Put_any s f w1 (HT.out.on B1)) ?_
  intro e w2 hh
  obtain ⟨A1, c1, rfl, bb⟩ := hh.no HP.out.1
  (try clear hh)
  replace bz := bz.below bb
  have B2 := B1.trans (bb.mono B1.size)
  clear bb B1
  obtain ⟨k0, k1, k2, k3, k4⟩ := bz.cells
  go_wp2_with fail
  clear k0 k1 k2 k3 k4
  refine Calls.mono (show Calls Tryd.prog 20 #[.agg #[.int .i64 s.ix, .int .i64 s.tm, .int .i64 s.sm, .int .i64 s.lv, .bool s.fn]] w2 (fun r w' => r = .returned (.bool (fineB s)) ∧ Below w2.heap.size w2 w') from rfine_any s w2) ?_
  intro e w3 hh
  obtain ⟨rfl, bb⟩ := hh
  (try clear hh)
  replace bz := bz.below bb
  have B3 := B2.trans (bb.mono B2.size)
  clear bb B2
  rw [HP.out.2]
  go_wp2_with fail
  refine Calls.mono (wakes_true w3 (HT.out.on B3)) ?_
  rintro e w4 ⟨rfl, bb⟩
  replace bz := bz.below bb
  have B4 := B3.trans (bb.mono B3.size)
  clear bb B3
  go_wp2_with fail
  go_ret
  exact ⟨rfl, B4⟩
set_option maxRecDepth 100000 in
set_option maxHeartbeats 4000000 in
theorem back_nofmt (s : StP) (f t : Int) (w : World) (hT : Cr.Tab w) (hs : fineB s = true) (hf : ¬ FmtP f) :
    Calls Tryd.prog 4 #[s.v, .int .i64 f, .int .i64 t] w fun e w' => e = .returned (.bool true) ∧ Below w.heap.size w w' := by
  have HT := Lib.hid hT
  clear hT
  have hp : putP s f = ([], 2) := putP_no (fun h => hf h.2)
  have f1 : (f != 1) = true := by simp; exact fun h => hf (.inl h)
  have f2 : (f != 2) = true := by simp; exact fun h => hf (.inr h)
  have HP := Lib.hid (⟨hp, hs⟩ : _ ∧ _)
  clear hp hs hf
  obtain ⟨z, hz⟩ : ∃ z, z = w.heap.size := ⟨_, rfl⟩
  obtain ⟨w1, hw1⟩ : ∃ x, x = w.alloc (.cells #[.int .i64 s.ix, .int .i64 s.tm, .int .i64 s.sm, .int .i64 s.lv, .bool s.fn] 23) := ⟨_, rfl⟩
  have bz : BoxS w1 z s := by rw [hw1, hz]; exact BoxS.new w s
  have bb : Below w.heap.size w w1 := by rw [hw1]; exact (Below.refl _ _).alloc (Nat.le_refl _) _
  have B1 := bb
  clear bb
  obtain ⟨k0, k1, k2, k3, k4⟩ := bz.cells
  rw [hw1, hz] at k0 k1 k2 k3 k4
  unfold StP.v
  go_enter Tryd.func4, Tryd.ntmps4
  go_wp2_with fail
  rw [← hw1, ← hz]
  clear k0 k1 k2 k3 k4
  clear hw1 hz
  refine Calls.mono (show Calls Tryd.prog 9 #[.agg #[.int .i64 s.ix, .int .i64 s.tm, .int .i64 s.sm, .int .i64 s.lv, .bool s.fn], .int .i64 f] w1 (Told w1 (putP s f)) from Put_any s f w1 (HT.out.on B1)) ?_
  intro e w2 hh
  obtain ⟨A1, c1, rfl, bb⟩ := hh.no HP.out.1
  (try clear hh)
  replace bz := bz.below bb
  have B2 := B1.trans (bb.mono B1.size)
  clear bb B1
  obtain ⟨k0, k1, k2, k3, k4⟩ := bz.cells
  go_wp2_with fail
  clear k0 k1 k2 k3 k4
  refine Calls.mono (show Calls Tryd.prog 20 #[.agg #[.int .i64 s.ix, .int .i64 s.tm, .int .i64 s.sm, .int .i64 s.lv, .bool s.fn]] w2 (fun r w' => r = .returned (.bool (fineB s)) ∧ Below w2.heap.size w2 w') from rfine_any s w2) ?_
  intro e w3 hh
  obtain ⟨rfl, bb⟩ := hh
  (try clear hh)
  replace bz := bz.below bb
  have B3 := B2.trans (bb.mono B2.size)
  clear bb B2
  rw [HP.out.2]
  go_wp2_with fail
  refine Calls.mono (wakes_true w3 (HT.out.on B3)) ?_
  rintro e w4 ⟨rfl, bb⟩
  replace bz := bz.below bb
  have B4 := B3.trans (bb.mono B3.size)
  clear bb B3
  go_wp2_with fail
  go_ret
  exact ⟨rfl, B4⟩
set_option maxRecDepth 100000 in
set_option maxHeartbeats 4000000 in
theorem back_1t (s : StP) (t : Int) (w : World) (hT : Cr.Tab w) (hs : fineB s = true) (ht : ¬ FmtP t) :
    Calls Tryd.prog 4 #[s.v, .int .i64 1, .int .i64 t] w fun e w' => e = .returned (.bool true) ∧ Below w.heap.size w w' := by
  have HT := Lib.hid hT
  clear hT
  obtain ⟨b, hb⟩ : ∃ b, b = snapL s 1 := ⟨_, rfl⟩
  obtain ⟨q, hq⟩ : ∃ q, b.length = q := ⟨_, rfl⟩
  have hp : putP s 1 = (b, 0) := by rw [hb]; exact putP_yes hs (.inl rfl)
  have hS : IsSnap s 1 b := ⟨hs, (.inl rfl), hb⟩
  have hl := snap_len hs 1
  rw [← hb, hq] at hl
  have hpt : putP s t = ([], 2) := putP_no (fun h => ht h.2)
  have t1 : (t != 1) = true := by simp; exact fun h => ht (.inl h)
  have t2 : (t != 2) = true := by simp; exact fun h => ht (.inr h)
  have HP := Lib.hid (⟨hp, hS, hpt, hs, hq⟩ : _ ∧ _ ∧ _ ∧ _ ∧ _)
  clear hp hS hpt hs hb ht
  have n1 := neq_same s
  have n2 := eql_same s
  have hq1 : q ≤ 1000000 := by omega
  clear hl
  clear hq
  obtain ⟨z, hz⟩ : ∃ z, z = w.heap.size := ⟨_, rfl⟩
  obtain ⟨w1, hw1⟩ : ∃ x, x = w.alloc (.cells #[.int .i64 s.ix, .int .i64 s.tm, .int .i64 s.sm, .int .i64 s.lv, .bool s.fn] 23) := ⟨_, rfl⟩
  have bz : BoxS w1 z s := by rw [hw1, hz]; exact BoxS.new w s
  have bb : Below w.heap.size w w1 := by rw [hw1]; exact (Below.refl _ _).alloc (Nat.le_refl _) _
  have B1 := bb
  clear bb
  obtain ⟨k0, k1, k2, k3, k4⟩ := bz.cells
  rw [hw1, hz] at k0 k1 k2 k3 k4
  unfold StP.v
  go_enter Tryd.func4, Tryd.ntmps4
  go_wp2_with fail
  rw [← hw1, ← hz]
  clear k0 k1 k2 k3 k4
  clear hw1 hz
  refine Calls.mono (show Calls Tryd.prog 9 #[.agg #[.int .i64 s.ix, .int .i64 s.tm, .int .i64 s.sm, .int .i64 s.lv, .bool s.fn], .int .i64 1] w1 (Told w1 (putP s 1)) from Put_any s 1 w1 (HT.out.on B1)) ?_
  intro e w2 hh
  obtain ⟨A1, c1, rfl, hc1, r1, bb⟩ := hh.yes HP.out.1 HP.out.2.2.2.2
  (try clear hh)
  replace bz := bz.below bb
  have B2 := B1.trans (bb.mono B1.size)
  clear bb B1
  obtain ⟨k0, k1, k2, k3, k4⟩ := bz.cells
  go_wp2_with fail
  clear k0 k1 k2 k3 k4
  refine Calls.mono (show Calls Tryd.prog 20 #[.agg #[.int .i64 s.ix, .int .i64 s.tm, .int .i64 s.sm, .int .i64 s.lv, .bool s.fn]] w2 (fun r w' => r = .returned (.bool (fineB s)) ∧ Below w2.heap.size w2 w') from rfine_any s w2) ?_
  intro e w3 hh
  obtain ⟨rfl, bb⟩ := hh
  (try clear hh)
  replace bz := bz.below bb
  replace r1 := r1.on bb bb.size
  have B3 := B2.trans (bb.mono B2.size)
  clear bb B2
  rw [HP.out.2.2.2.1]
  go_wp2_with fail
  refine Calls.mono (Take_any A1 q c1 b 1 w3 (HT.out.on B3) r1 HP.out.2.1.byt hc1 hq1) ?_
  intro e w4 hh
  obtain ⟨rfl, bb⟩ := hh.yes HP.out.2.1
  (try clear hh)
  replace bz := bz.below bb
  replace r1 := r1.on bb bb.size
  have B4 := B3.trans (bb.mono B3.size)
  clear bb B3
  rw [show s.v = .agg #[.int .i64 s.ix, .int .i64 s.tm, .int .i64 s.sm, .int .i64 s.lv, .bool s.fn] from rfl]
  obtain ⟨z2, hz2⟩ : ∃ z, z = w4.heap.size := ⟨_, rfl⟩
  obtain ⟨w5, hw5⟩ : ∃ x, x = w4.alloc (.cells #[.int .i64 s.ix, .int .i64 s.tm, .int .i64 s.sm, .int .i64 s.lv, .bool s.fn] 23) := ⟨_, rfl⟩
  have bz2 : BoxS w5 z2 s := by rw [hw5, hz2]; exact BoxS.new w4 s
  have bb : Below w4.heap.size w4 w5 := by rw [hw5]; exact (Below.refl _ _).alloc (Nat.le_refl _) _
  replace bz := bz.below bb
  replace r1 := r1.on bb bb.size
  have B5 := B4.trans (bb.mono B4.size)
  clear bb B4
  obtain ⟨g0, g1, g2, g3, g4⟩ := bz2.cells
  rw [hw5, hz2] at g0 g1 g2 g3 g4
  obtain ⟨k0, k1, k2, k3, k4⟩ := bz.cells
  rw [hw5] at k0 k1 k2 k3 k4
  go_wp2_with fail
  rw [← hw5, ← hz2]
  clear k0 k1 k2 k3 k4
  clear g0 g1 g2 g3 g4
  clear hw5 hz2
  refine Calls.mono (Again_any A1 q c1 b 1 t w5 (HT.out.on B5) r1 HP.out.2.1.byt hc1 hq1) ?_
  intro e w6 hh
  obtain ⟨R, hR, hh⟩ := hh
  obtain rfl := hR.yes HP.out.2.1
  obtain ⟨A2, c2, rfl, bb⟩ := hh.no HP.out.2.2.1
  clear hh hR
  replace bz := bz.below bb
  replace bz2 := bz2.below bb
  replace r1 := r1.on bb bb.size
  have B6 := B5.trans (bb.mono B5.size)
  clear bb B5
  go_wp2_with fail
  refine Calls.mono (wakes_true w6 (HT.out.on B6)) ?_
  rintro e w7 ⟨rfl, bb⟩
  replace bz := bz.below bb
  replace bz2 := bz2.below bb
  replace r1 := r1.on bb bb.size
  have B7 := B6.trans (bb.mono B6.size)
  clear bb B6
  go_wp2_with fail
  go_ret
  exact ⟨rfl, B7⟩
set_option maxRecDepth 100000 in
set_option maxHeartbeats 4000000 in
theorem back_11 (s : StP) (w : World) (hT : Cr.Tab w) (hs : fineB s = true) :
    Calls Tryd.prog 4 #[s.v, .int .i64 1, .int .i64 1] w fun e w' => e = .returned (.bool true) ∧ Below w.heap.size w w' := by
  have HT := Lib.hid hT
  clear hT
  obtain ⟨b, hb⟩ : ∃ b, b = snapL s 1 := ⟨_, rfl⟩
  obtain ⟨q, hq⟩ : ∃ q, b.length = q := ⟨_, rfl⟩
  have hp : putP s 1 = (b, 0) := by rw [hb]; exact putP_yes hs (.inl rfl)
  have hS : IsSnap s 1 b := ⟨hs, (.inl rfl), hb⟩
  have hl := snap_len hs 1
  rw [← hb, hq] at hl
  obtain ⟨g, hg⟩ : ∃ g, g = snapL s 1 := ⟨_, rfl⟩
  obtain ⟨r, hr⟩ : ∃ r, g.length = r := ⟨_, rfl⟩
  have hpt : putP s 1 = (g, 0) := by rw [hg]; exact putP_yes hs (.inl rfl)
  have hG : IsSnap s 1 g := ⟨hs, (.inl rfl), hg⟩
  have hgl := snap_len hs 1
  rw [← hg, hr] at hgl
  have HP := Lib.hid (⟨hp, hS, hpt, hs, hq, hG, hr⟩ : _ ∧ _ ∧ _ ∧ _ ∧ _ ∧ _ ∧ _)
  clear hp hS hpt hs hb hg hG
  have n1 := neq_same s
  have n2 := eql_same s
  have hq1 : q ≤ 1000000 := by omega
  have hr1 : r ≤ 1000000 := by omega
  clear hl hgl
  clear hq hr
  obtain ⟨z, hz⟩ : ∃ z, z = w.heap.size := ⟨_, rfl⟩
  obtain ⟨w1, hw1⟩ : ∃ x, x = w.alloc (.cells #[.int .i64 s.ix, .int .i64 s.tm, .int .i64 s.sm, .int .i64 s.lv, .bool s.fn] 23) := ⟨_, rfl⟩
  have bz : BoxS w1 z s := by rw [hw1, hz]; exact BoxS.new w s
  have bb : Below w.heap.size w w1 := by rw [hw1]; exact (Below.refl _ _).alloc (Nat.le_refl _) _
  have B1 := bb
  clear bb
  obtain ⟨k0, k1, k2, k3, k4⟩ := bz.cells
  rw [hw1, hz] at k0 k1 k2 k3 k4
  unfold StP.v
  go_enter Tryd.func4, Tryd.ntmps4
  go_wp2_with fail
  rw [← hw1, ← hz]
  clear k0 k1 k2 k3 k4
  clear hw1 hz
  refine Calls.mono (show Calls Tryd.prog 9 #[.agg #[.int .i64 s.ix, .int .i64 s.tm, .int .i64 s.sm, .int .i64 s.lv, .bool s.fn], .int .i64 1] w1 (Told w1 (putP s 1)) from Put_any s 1 w1 (HT.out.on B1)) ?_
  intro e w2 hh
  obtain ⟨A1, c1, rfl, hc1, r1, bb⟩ := hh.yes HP.out.1 HP.out.2.2.2.2.1
  (try clear hh)
  replace bz := bz.below bb
  have B2 := B1.trans (bb.mono B1.size)
  clear bb B1
  obtain ⟨k0, k1, k2, k3, k4⟩ := bz.cells
  go_wp2_with fail
  clear k0 k1 k2 k3 k4
  refine Calls.mono (show Calls Tryd.prog 20 #[.agg #[.int .i64 s.ix, .int .i64 s.tm, .int .i64 s.sm, .int .i64 s.lv, .bool s.fn]] w2 (fun r w' => r = .returned (.bool (fineB s)) ∧ Below w2.heap.size w2 w') from rfine_any s w2) ?_
  intro e w3 hh
  obtain ⟨rfl, bb⟩ := hh
  (try clear hh)
  replace bz := bz.below bb
  replace r1 := r1.on bb bb.size
  have B3 := B2.trans (bb.mono B2.size)
  clear bb B2
  rw [HP.out.2.2.2.1]
  go_wp2_with fail
  refine Calls.mono (Take_any A1 q c1 b 1 w3 (HT.out.on B3) r1 HP.out.2.1.byt hc1 hq1) ?_
  intro e w4 hh
  obtain ⟨rfl, bb⟩ := hh.yes HP.out.2.1
  (try clear hh)
  replace bz := bz.below bb
  replace r1 := r1.on bb bb.size
  have B4 := B3.trans (bb.mono B3.size)
  clear bb B3
  rw [show s.v = .agg #[.int .i64 s.ix, .int .i64 s.tm, .int .i64 s.sm, .int .i64 s.lv, .bool s.fn] from rfl]
  obtain ⟨z2, hz2⟩ : ∃ z, z = w4.heap.size := ⟨_, rfl⟩
  obtain ⟨w5, hw5⟩ : ∃ x, x = w4.alloc (.cells #[.int .i64 s.ix, .int .i64 s.tm, .int .i64 s.sm, .int .i64 s.lv, .bool s.fn] 23) := ⟨_, rfl⟩
  have bz2 : BoxS w5 z2 s := by rw [hw5, hz2]; exact BoxS.new w4 s
  have bb : Below w4.heap.size w4 w5 := by rw [hw5]; exact (Below.refl _ _).alloc (Nat.le_refl _) _
  replace bz := bz.below bb
  replace r1 := r1.on bb bb.size
  have B5 := B4.trans (bb.mono B4.size)
  clear bb B4
  obtain ⟨g0, g1, g2, g3, g4⟩ := bz2.cells
  rw [hw5, hz2] at g0 g1 g2 g3 g4
  obtain ⟨k0, k1, k2, k3, k4⟩ := bz.cells
  rw [hw5] at k0 k1 k2 k3 k4
  go_wp2_with fail
  rw [← hw5, ← hz2]
  clear k0 k1 k2 k3 k4
  clear g0 g1 g2 g3 g4
  clear hw5 hz2
  refine Calls.mono (Again_any A1 q c1 b 1 1 w5 (HT.out.on B5) r1 HP.out.2.1.byt hc1 hq1) ?_
  intro e w6 hh
  obtain ⟨R, hR, hh⟩ := hh
  obtain rfl := hR.yes HP.out.2.1
  obtain ⟨A2, c2, rfl, hc2, r2, bb⟩ := hh.yes HP.out.2.2.1 HP.out.2.2.2.2.2.2
  clear hh hR
  replace bz := bz.below bb
  replace bz2 := bz2.below bb
  replace r1 := r1.on bb bb.size
  have B6 := B5.trans (bb.mono B5.size)
  clear bb B5
  go_wp2_with fail
  refine Calls.mono (Take_any A2 r c2 g 1 w6 (HT.out.on B6) r2 HP.out.2.2.2.2.2.1.byt hc2 hr1) ?_
  intro e w7 hh
  obtain ⟨rfl, bb⟩ := hh.yes HP.out.2.2.2.2.2.1
  (try clear hh)
  replace bz := bz.below bb
  replace bz2 := bz2.below bb
  replace r1 := r1.on bb bb.size
  replace r2 := r2.on bb bb.size
  have B7 := B6.trans (bb.mono B6.size)
  clear bb B6
  rw [show s.v = .agg #[.int .i64 s.ix, .int .i64 s.tm, .int .i64 s.sm, .int .i64 s.lv, .bool s.fn] from rfl]
  obtain ⟨z3, hz3⟩ : ∃ z, z = w7.heap.size := ⟨_, rfl⟩
  obtain ⟨w8, hw8⟩ : ∃ x, x = w7.alloc (.cells #[.int .i64 s.ix, .int .i64 s.tm, .int .i64 s.sm, .int .i64 s.lv, .bool s.fn] 23) := ⟨_, rfl⟩
  have bz3 : BoxS w8 z3 s := by rw [hw8, hz3]; exact BoxS.new w7 s
  have bb : Below w7.heap.size w7 w8 := by rw [hw8]; exact (Below.refl _ _).alloc (Nat.le_refl _) _
  replace bz := bz.below bb
  replace bz2 := bz2.below bb
  replace r1 := r1.on bb bb.size
  replace r2 := r2.on bb bb.size
  have B8 := B7.trans (bb.mono B7.size)
  clear bb B7
  obtain ⟨g0, g1, g2, g3, g4⟩ := bz3.cells
  rw [hw8, hz3] at g0 g1 g2 g3 g4
  go_wp2_with fail
  rw [← hw8, ← hz3]
  clear g0 g1 g2 g3 g4
  clear hw8 hz3
  refine Calls.mono (Again_any A2 r c2 g 1 1 w8 (HT.out.on B8) r2 HP.out.2.2.2.2.2.1.byt hc2 hr1) ?_
  intro e w9 hh
  obtain ⟨R, hR, hh⟩ := hh
  obtain rfl := hR.yes HP.out.2.2.2.2.2.1
  obtain ⟨A3, c3, rfl, hc3, r3, bb⟩ := hh.yes HP.out.1 HP.out.2.2.2.2.1
  clear hh hR
  replace bz := bz.below bb
  replace bz2 := bz2.below bb
  replace bz3 := bz3.below bb
  replace r1 := r1.on bb bb.size
  replace r2 := r2.on bb bb.size
  have B9 := B8.trans (bb.mono B8.size)
  clear bb B8
  obtain ⟨g0, g1, g2, g3, g4⟩ := bz3.cells
  obtain ⟨k0, k1, k2, k3, k4⟩ := bz.cells
  go_wp2_with fail
  clear g0 g1 g2 g3 g4
  clear k0 k1 k2 k3 k4
  have sm := same_any A3 A1 q q c3 c1 b b w9 r3 r1 HP.out.2.1.byt HP.out.2.1.byt
  rw [show eqB b b = true from eqB_true rfl] at sm
  refine Calls.mono (sm) ?_
  rintro e wv ⟨rfl, rfl⟩
  clear sm
  go_wp2_with fail
  refine Calls.mono (wakes_true w9 (HT.out.on B9)) ?_
  rintro e w10 ⟨rfl, bb⟩
  replace bz := bz.below bb
  replace bz2 := bz2.below bb
  replace bz3 := bz3.below bb
  replace r1 := r1.on bb bb.size
  replace r2 := r2.on bb bb.size
  replace r3 := r3.on bb bb.size
  have B10 := B9.trans (bb.mono B9.size)
  clear bb B9
  go_wp2_with fail
  go_ret
  exact ⟨rfl, B10⟩
set_option maxRecDepth 100000 in
set_option maxHeartbeats 4000000 in
theorem back_12 (s : StP) (w : World) (hT : Cr.Tab w) (hs : fineB s = true) :
    Calls Tryd.prog 4 #[s.v, .int .i64 1, .int .i64 2] w fun e w' => e = .returned (.bool true) ∧ Below w.heap.size w w' := by
  have HT := Lib.hid hT
  clear hT
  obtain ⟨b, hb⟩ : ∃ b, b = snapL s 1 := ⟨_, rfl⟩
  obtain ⟨q, hq⟩ : ∃ q, b.length = q := ⟨_, rfl⟩
  have hp : putP s 1 = (b, 0) := by rw [hb]; exact putP_yes hs (.inl rfl)
  have hS : IsSnap s 1 b := ⟨hs, (.inl rfl), hb⟩
  have hl := snap_len hs 1
  rw [← hb, hq] at hl
  obtain ⟨g, hg⟩ : ∃ g, g = snapL s 2 := ⟨_, rfl⟩
  obtain ⟨r, hr⟩ : ∃ r, g.length = r := ⟨_, rfl⟩
  have hpt : putP s 2 = (g, 0) := by rw [hg]; exact putP_yes hs (.inr rfl)
  have hG : IsSnap s 2 g := ⟨hs, (.inr rfl), hg⟩
  have hgl := snap_len hs 2
  rw [← hg, hr] at hgl
  have HP := Lib.hid (⟨hp, hS, hpt, hs, hq, hG, hr⟩ : _ ∧ _ ∧ _ ∧ _ ∧ _ ∧ _ ∧ _)
  clear hp hS hpt hs hb hg hG
  have n1 := neq_same s
  have n2 := eql_same s
  have hq1 : q ≤ 1000000 := by omega
  have hr1 : r ≤ 1000000 := by omega
  clear hl hgl
  clear hq hr
  obtain ⟨z, hz⟩ : ∃ z, z = w.heap.size := ⟨_, rfl⟩
  obtain ⟨w1, hw1⟩ : ∃ x, x = w.alloc (.cells #[.int .i64 s.ix, .int .i64 s.tm, .int .i64 s.sm, .int .i64 s.lv, .bool s.fn] 23) := ⟨_, rfl⟩
  have bz : BoxS w1 z s := by rw [hw1, hz]; exact BoxS.new w s
  have bb : Below w.heap.size w w1 := by rw [hw1]; exact (Below.refl _ _).alloc (Nat.le_refl _) _
  have B1 := bb
  clear bb
  obtain ⟨k0, k1, k2, k3, k4⟩ := bz.cells
  rw [hw1, hz] at k0 k1 k2 k3 k4
  unfold StP.v
  go_enter Tryd.func4, Tryd.ntmps4
  go_wp2_with fail
  rw [← hw1, ← hz]
  clear k0 k1 k2 k3 k4
  clear hw1 hz
  refine Calls.mono (show Calls Tryd.prog 9 #[.agg #[.int .i64 s.ix, .int .i64 s.tm, .int .i64 s.sm, .int .i64 s.lv, .bool s.fn], .int .i64 1] w1 (Told w1 (putP s 1)) from Put_any s 1 w1 (HT.out.on B1)) ?_
  intro e w2 hh
  obtain ⟨A1, c1, rfl, hc1, r1, bb⟩ := hh.yes HP.out.1 HP.out.2.2.2.2.1
  (try clear hh)
  replace bz := bz.below bb
  have B2 := B1.trans (bb.mono B1.size)
  clear bb B1
  obtain ⟨k0, k1, k2, k3, k4⟩ := bz.cells
  go_wp2_with fail
  clear k0 k1 k2 k3 k4
  refine Calls.mono (show Calls Tryd.prog 20 #[.agg #[.int .i64 s.ix, .int .i64 s.tm, .int .i64 s.sm, .int .i64 s.lv, .bool s.fn]] w2 (fun r w' => r = .returned (.bool (fineB s)) ∧ Below w2.heap.size w2 w') from rfine_any s w2) ?_
  intro e w3 hh
  obtain ⟨rfl, bb⟩ := hh
  (try clear hh)
  replace bz := bz.below bb
  replace r1 := r1.on bb bb.size
  have B3 := B2.trans (bb.mono B2.size)
  clear bb B2
  rw [HP.out.2.2.2.1]
  go_wp2_with fail
  refine Calls.mono (Take_any A1 q c1 b 1 w3 (HT.out.on B3) r1 HP.out.2.1.byt hc1 hq1) ?_
  intro e w4 hh
  obtain ⟨rfl, bb⟩ := hh.yes HP.out.2.1
  (try clear hh)
  replace bz := bz.below bb
  replace r1 := r1.on bb bb.size
  have B4 := B3.trans (bb.mono B3.size)
  clear bb B3
  rw [show s.v = .agg #[.int .i64 s.ix, .int .i64 s.tm, .int .i64 s.sm, .int .i64 s.lv, .bool s.fn] from rfl]
  obtain ⟨z2, hz2⟩ : ∃ z, z = w4.heap.size := ⟨_, rfl⟩
  obtain ⟨w5, hw5⟩ : ∃ x, x = w4.alloc (.cells #[.int .i64 s.ix, .int .i64 s.tm, .int .i64 s.sm, .int .i64 s.lv, .bool s.fn] 23) := ⟨_, rfl⟩
  have bz2 : BoxS w5 z2 s := by rw [hw5, hz2]; exact BoxS.new w4 s
  have bb : Below w4.heap.size w4 w5 := by rw [hw5]; exact (Below.refl _ _).alloc (Nat.le_refl _) _
  replace bz := bz.below bb
  replace r1 := r1.on bb bb.size
  have B5 := B4.trans (bb.mono B4.size)
  clear bb B4
  obtain ⟨g0, g1, g2, g3, g4⟩ := bz2.cells
  rw [hw5, hz2] at g0 g1 g2 g3 g4
  obtain ⟨k0, k1, k2, k3, k4⟩ := bz.cells
  rw [hw5] at k0 k1 k2 k3 k4
  go_wp2_with fail
  rw [← hw5, ← hz2]
  clear k0 k1 k2 k3 k4
  clear g0 g1 g2 g3 g4
  clear hw5 hz2
  refine Calls.mono (Again_any A1 q c1 b 1 2 w5 (HT.out.on B5) r1 HP.out.2.1.byt hc1 hq1) ?_
  intro e w6 hh
  obtain ⟨R, hR, hh⟩ := hh
  obtain rfl := hR.yes HP.out.2.1
  obtain ⟨A2, c2, rfl, hc2, r2, bb⟩ := hh.yes HP.out.2.2.1 HP.out.2.2.2.2.2.2
  clear hh hR
  replace bz := bz.below bb
  replace bz2 := bz2.below bb
  replace r1 := r1.on bb bb.size
  have B6 := B5.trans (bb.mono B5.size)
  clear bb B5
  go_wp2_with fail
  refine Calls.mono (Take_any A2 r c2 g 2 w6 (HT.out.on B6) r2 HP.out.2.2.2.2.2.1.byt hc2 hr1) ?_
  intro e w7 hh
  obtain ⟨rfl, bb⟩ := hh.yes HP.out.2.2.2.2.2.1
  (try clear hh)
  replace bz := bz.below bb
  replace bz2 := bz2.below bb
  replace r1 := r1.on bb bb.size
  replace r2 := r2.on bb bb.size
  have B7 := B6.trans (bb.mono B6.size)
  clear bb B6
  rw [show s.v = .agg #[.int .i64 s.ix, .int .i64 s.tm, .int .i64 s.sm, .int .i64 s.lv, .bool s.fn] from rfl]
  obtain ⟨z3, hz3⟩ : ∃ z, z = w7.heap.size := ⟨_, rfl⟩
  obtain ⟨w8, hw8⟩ : ∃ x, x = w7.alloc (.cells #[.int .i64 s.ix, .int .i64 s.tm, .int .i64 s.sm, .int .i64 s.lv, .bool s.fn] 23) := ⟨_, rfl⟩
  have bz3 : BoxS w8 z3 s := by rw [hw8, hz3]; exact BoxS.new w7 s
  have bb : Below w7.heap.size w7 w8 := by rw [hw8]; exact (Below.refl _ _).alloc (Nat.le_refl _) _
  replace bz := bz.below bb
  replace bz2 := bz2.below bb
  replace r1 := r1.on bb bb.size
  replace r2 := r2.on bb bb.size
  have B8 := B7.trans (bb.mono B7.size)
  clear bb B7
  obtain ⟨g0, g1, g2, g3, g4⟩ := bz3.cells
  rw [hw8, hz3] at g0 g1 g2 g3 g4
  go_wp2_with fail
  rw [← hw8, ← hz3]
  clear g0 g1 g2 g3 g4
  clear hw8 hz3
  refine Calls.mono (Again_any A2 r c2 g 2 1 w8 (HT.out.on B8) r2 HP.out.2.2.2.2.2.1.byt hc2 hr1) ?_
  intro e w9 hh
  obtain ⟨R, hR, hh⟩ := hh
  obtain rfl := hR.yes HP.out.2.2.2.2.2.1
  obtain ⟨A3, c3, rfl, hc3, r3, bb⟩ := hh.yes HP.out.1 HP.out.2.2.2.2.1
  clear hh hR
  replace bz := bz.below bb
  replace bz2 := bz2.below bb
  replace bz3 := bz3.below bb
  replace r1 := r1.on bb bb.size
  replace r2 := r2.on bb bb.size
  have B9 := B8.trans (bb.mono B8.size)
  clear bb B8
  obtain ⟨g0, g1, g2, g3, g4⟩ := bz3.cells
  obtain ⟨k0, k1, k2, k3, k4⟩ := bz.cells
  go_wp2_with fail
  clear g0 g1 g2 g3 g4
  clear k0 k1 k2 k3 k4
  have sm := same_any A3 A1 q q c3 c1 b b w9 r3 r1 HP.out.2.1.byt HP.out.2.1.byt
  rw [show eqB b b = true from eqB_true rfl] at sm
  refine Calls.mono (sm) ?_
  rintro e wv ⟨rfl, rfl⟩
  clear sm
  go_wp2_with fail
  refine Calls.mono (wakes_true w9 (HT.out.on B9)) ?_
  rintro e w10 ⟨rfl, bb⟩
  replace bz := bz.below bb
  replace bz2 := bz2.below bb
  replace bz3 := bz3.below bb
  replace r1 := r1.on bb bb.size
  replace r2 := r2.on bb bb.size
  replace r3 := r3.on bb bb.size
  have B10 := B9.trans (bb.mono B9.size)
  clear bb B9
  go_wp2_with fail
  go_ret
  exact ⟨rfl, B10⟩
set_option maxRecDepth 100000 in
set_option maxHeartbeats 4000000 in
theorem back_2t (s : StP) (t : Int) (w : World) (hT : Cr.Tab w) (hs : fineB s = true) (ht : ¬ FmtP t) :
    Calls Tryd.prog 4 #[s.v, .int .i64 2, .int .i64 t] w fun e w' => e = .returned (.bool true) ∧ Below w.heap.size w w' := by
  have HT := Lib.hid hT
  clear hT
  obtain ⟨b, hb⟩ : ∃ b, b = snapL s 2 := ⟨_, rfl⟩
  obtain ⟨q, hq⟩ : ∃ q, b.length = q := ⟨_, rfl⟩
  have hp : putP s 2 = (b, 0) := by rw [hb]; exact putP_yes hs (.inr rfl)
  have hS : IsSnap s 2 b := ⟨hs, (.inr rfl), hb⟩
  have hl := snap_len hs 2
  rw [← hb, hq] at hl
  have hpt : putP s t = ([], 2) := putP_no (fun h => ht h.2)
  have t1 : (t != 1) = true := by simp; exact fun h => ht (.inl h)
  have t2 : (t != 2) = true := by simp; exact fun h => ht (.inr h)
  have HP := Lib.hid (⟨hp, hS, hpt, hs, hq⟩ : _ ∧ _ ∧ _ ∧ _ ∧ _)
  clear hp hS hpt hs hb ht
  have n1 := neq_same s
  have n2 := eql_same s
  have hq1 : q ≤ 1000000 := by omega
  clear hl
  clear hq
  obtain ⟨z, hz⟩ : ∃ z, z = w.heap.size := ⟨_, rfl⟩
  obtain ⟨w1, hw1⟩ : ∃ x, x = w.alloc (.cells #[.int .i64 s.ix, .int .i64 s.tm, .int .i64 s.sm, .int .i64 s.lv, .bool s.fn] 23) := ⟨_, rfl⟩
  have bz : BoxS w1 z s := by rw [hw1, hz]; exact BoxS.new w s
  have bb : Below w.heap.size w w1 := by rw [hw1]; exact (Below.refl _ _).alloc (Nat.le_refl _) _
  have B1 := bb
  clear bb
  obtain ⟨k0, k1, k2, k3, k4⟩ := bz.cells
  rw [hw1, hz] at k0 k1 k2 k3 k4
  unfold StP.v
  go_enter Tryd.func4, Tryd.ntmps4
  go_wp2_with fail
  rw [← hw1, ← hz]
  clear k0 k1 k2 k3 k4
  clear hw1 hz
  refine Calls.mono (show Calls Tryd.prog 9 #[.agg #[.int .i64 s.ix, .int .i64 s.tm, .int .i64 s.sm, .int .i64 s.lv, .bool s.fn], .int .i64 2] w1 (Told w1 (putP s 2)) from Put_any s 2 w1 (HT.out.on B1)) ?_
  intro e w2 hh
  obtain ⟨A1, c1, rfl, hc1, r1, bb⟩ := hh.yes HP.out.1 HP.out.2.2.2.2
  (try clear hh)
  replace bz := bz.below bb
  have B2 := B1.trans (bb.mono B1.size)
  clear bb B1
  obtain ⟨k0, k1, k2, k3, k4⟩ := bz.cells
  go_wp2_with fail
  clear k0 k1 k2 k3 k4
  refine Calls.mono (show Calls Tryd.prog 20 #[.agg #[.int .i64 s.ix, .int .i64 s.tm, .int .i64 s.sm, .int .i64 s.lv, .bool s.fn]] w2 (fun r w' => r = .returned (.bool (fineB s)) ∧ Below w2.heap.size w2 w') from rfine_any s w2) ?_
  intro e w3 hh
  obtain ⟨rfl, bb⟩ := hh
  (try clear hh)
  replace bz := bz.below bb
  replace r1 := r1.on bb bb.size
  have B3 := B2.trans (bb.mono B2.size)
  clear bb B2
  rw [HP.out.2.2.2.1]
  go_wp2_with fail
  refine Calls.mono (Take_any A1 q c1 b 2 w3 (HT.out.on B3) r1 HP.out.2.1.byt hc1 hq1) ?_
  intro e w4 hh
  obtain ⟨rfl, bb⟩ := hh.yes HP.out.2.1
  (try clear hh)
  replace bz := bz.below bb
  replace r1 := r1.on bb bb.size
  have B4 := B3.trans (bb.mono B3.size)
  clear bb B3
  rw [show s.v = .agg #[.int .i64 s.ix, .int .i64 s.tm, .int .i64 s.sm, .int .i64 s.lv, .bool s.fn] from rfl]
  obtain ⟨z2, hz2⟩ : ∃ z, z = w4.heap.size := ⟨_, rfl⟩
  obtain ⟨w5, hw5⟩ : ∃ x, x = w4.alloc (.cells #[.int .i64 s.ix, .int .i64 s.tm, .int .i64 s.sm, .int .i64 s.lv, .bool s.fn] 23) := ⟨_, rfl⟩
  have bz2 : BoxS w5 z2 s := by rw [hw5, hz2]; exact BoxS.new w4 s
  have bb : Below w4.heap.size w4 w5 := by rw [hw5]; exact (Below.refl _ _).alloc (Nat.le_refl _) _
  replace bz := bz.below bb
  replace r1 := r1.on bb bb.size
  have B5 := B4.trans (bb.mono B4.size)
  clear bb B4
  obtain ⟨g0, g1, g2, g3, g4⟩ := bz2.cells
  rw [hw5, hz2] at g0 g1 g2 g3 g4
  obtain ⟨k0, k1, k2, k3, k4⟩ := bz.cells
  rw [hw5] at k0 k1 k2 k3 k4
  go_wp2_with fail
  rw [← hw5, ← hz2]
  clear k0 k1 k2 k3 k4
  clear g0 g1 g2 g3 g4
  clear hw5 hz2
  refine Calls.mono (Again_any A1 q c1 b 2 t w5 (HT.out.on B5) r1 HP.out.2.1.byt hc1 hq1) ?_
  intro e w6 hh
  obtain ⟨R, hR, hh⟩ := hh
  obtain rfl := hR.yes HP.out.2.1
  obtain ⟨A2, c2, rfl, bb⟩ := hh.no HP.out.2.2.1
  clear hh hR
  replace bz := bz.below bb
  replace bz2 := bz2.below bb
  replace r1 := r1.on bb bb.size
  have B6 := B5.trans (bb.mono B5.size)
  clear bb B5
  go_wp2_with fail
  refine Calls.mono (wakes_true w6 (HT.out.on B6)) ?_
  rintro e w7 ⟨rfl, bb⟩
  replace bz := bz.below bb
  replace bz2 := bz2.below bb
  replace r1 := r1.on bb bb.size
  have B7 := B6.trans (bb.mono B6.size)
  clear bb B6
  go_wp2_with fail
  go_ret
  exact ⟨rfl, B7⟩
set_option maxRecDepth 100000 in
set_option maxHeartbeats 4000000 in
theorem back_21 (s : StP) (w : World) (hT : Cr.Tab w) (hs : fineB s = true) :
    Calls Tryd.prog 4 #[s.v, .int .i64 2, .int .i64 1] w fun e w' => e = .returned (.bool true) ∧ Below w.heap.size w w' := by
  have HT := Lib.hid hT
  clear hT
  obtain ⟨b, hb⟩ : ∃ b, b = snapL s 2 := ⟨_, rfl⟩
  obtain ⟨q, hq⟩ : ∃ q, b.length = q := ⟨_, rfl⟩
  have hp : putP s 2 = (b, 0) := by rw [hb]; exact putP_yes hs (.inr rfl)
  have hS : IsSnap s 2 b := ⟨hs, (.inr rfl), hb⟩
  have hl := snap_len hs 2
  rw [← hb, hq] at hl
  obtain ⟨g, hg⟩ : ∃ g, g = snapL s 1 := ⟨_, rfl⟩
  obtain ⟨r, hr⟩ : ∃ r, g.length = r := ⟨_, rfl⟩
  have hpt : putP s 1 = (g, 0) := by rw [hg]; exact putP_yes hs (.inl rfl)
  have hG : IsSnap s 1 g := ⟨hs, (.inl rfl), hg⟩
  have hgl := snap_len hs 1
  rw [← hg, hr] at hgl
  have HP := Lib.hid (⟨hp, hS, hpt, hs, hq, hG, hr⟩ : _ ∧ _ ∧ _ ∧ _ ∧ _ ∧ _ ∧ _)
  clear hp hS hpt hs hb hg hG
  have n1 := neq_same s
  have n2 := eql_same s
  have hq1 : q ≤ 1000000 := by omega
  have hr1 : r ≤ 1000000 := by omega
  clear hl hgl
  clear hq hr
  obtain ⟨z, hz⟩ : ∃ z, z = w.heap.size := ⟨_, rfl⟩
  obtain ⟨w1, hw1⟩ : ∃ x, x = w.alloc (.cells #[.int .i64 s.ix, .int .i64 s.tm, .int .i64 s.sm, .int .i64 s.lv, .bool s.fn] 23) := ⟨_, rfl⟩
  have bz : BoxS w1 z s := by rw [hw1, hz]; exact BoxS.new w s
  have bb : Below w.heap.size w w1 := by rw [hw1]; exact (Below.refl _ _).alloc (Nat.le_refl _) _
  have B1 := bb
  clear bb
  obtain ⟨k0, k1, k2, k3, k4⟩ := bz.cells
  rw [hw1, hz] at k0 k1 k2 k3 k4
  unfold StP.v
  go_enter Tryd.func4, Tryd.ntmps4
  go_wp2_with fail
  rw [← hw1, ← hz]
  clear k0 k1 k2 k3 k4
  clear hw1 hz
  refine Calls.mono (show Calls Tryd.prog 9 #[.agg #[.int .i64 s.ix, .int .i64 s.tm, .int .i64 s.sm, .int .i64 s.lv, .bool s.fn], .int .i64 2] w1 (Told w1 (putP s 2)) from Put_any s 2 w1 (HT.out.on B1)) ?_
  intro e w2 hh
  obtain ⟨A1, c1, rfl, hc1, r1, bb⟩ := hh.yes HP.out.1 HP.out.2.2.2.2.1
  (try clear hh)
  replace bz := bz.below bb
  have B2 := B1.trans (bb.mono B1.size)
  clear bb B1
  obtain ⟨k0, k1, k2, k3, k4⟩ := bz.cells
  go_wp2_with fail
  clear k0 k1 k2 k3 k4
  refine Calls.mono (show Calls Tryd.prog 20 #[.agg #[.int .i64 s.ix, .int .i64 s.tm, .int .i64 s.sm, .int .i64 s.lv, .bool s.fn]] w2 (fun r w' => r = .returned (.bool (fineB s)) ∧ Below w2.heap.size w2 w') from rfine_any s w2) ?_
  intro e w3 hh
  obtain ⟨rfl, bb⟩ := hh
  (try clear hh)
  replace bz := bz.below bb
  replace r1 := r1.on bb bb.size
  have B3 := B2.trans (bb.mono B2.size)
  clear bb B2
  rw [HP.out.2.2.2.1]
  go_wp2_with fail
  refine Calls.mono (Take_any A1 q c1 b 2 w3 (HT.out.on B3) r1 HP.out.2.1.byt hc1 hq1) ?_
  intro e w4 hh
  obtain ⟨rfl, bb⟩ := hh.yes HP.out.2.1
  (try clear hh)
  replace bz := bz.below bb
  replace r1 := r1.on bb bb.size
  have B4 := B3.trans (bb.mono B3.size)
  clear bb B3
  rw [show s.v = .agg #[.int .i64 s.ix, .int .i64 s.tm, .int .i64 s.sm, .int .i64 s.lv, .bool s.fn] from rfl]
  obtain ⟨z2, hz2⟩ : ∃ z, z = w4.heap.size := ⟨_, rfl⟩
  obtain ⟨w5, hw5⟩ : ∃ x, x = w4.alloc (.cells #[.int .i64 s.ix, .int .i64 s.tm, .int .i64 s.sm, .int .i64 s.lv, .bool s.fn] 23) := ⟨_, rfl⟩
  have bz2 : BoxS w5 z2 s := by rw [hw5, hz2]; exact BoxS.new w4 s
  have bb : Below w4.heap.size w4 w5 := by rw [hw5]; exact (Below.refl _ _).alloc (Nat.le_refl _) _
  replace bz := bz.below bb
  replace r1 := r1.on bb bb.size
  have B5 := B4.trans (bb.mono B4.size)
  clear bb B4
  obtain ⟨g0, g1, g2, g3, g4⟩ := bz2.cells
  rw [hw5, hz2] at g0 g1 g2 g3 g4
  obtain ⟨k0, k1, k2, k3, k4⟩ := bz.cells
  rw [hw5] at k0 k1 k2 k3 k4
  go_wp2_with fail
  rw [← hw5, ← hz2]
  clear k0 k1 k2 k3 k4
  clear g0 g1 g2 g3 g4
  clear hw5 hz2
  refine Calls.mono (Again_any A1 q c1 b 2 1 w5 (HT.out.on B5) r1 HP.out.2.1.byt hc1 hq1) ?_
  intro e w6 hh
  obtain ⟨R, hR, hh⟩ := hh
  obtain rfl := hR.yes HP.out.2.1
  obtain ⟨A2, c2, rfl, hc2, r2, bb⟩ := hh.yes HP.out.2.2.1 HP.out.2.2.2.2.2.2
  clear hh hR
  replace bz := bz.below bb
  replace bz2 := bz2.below bb
  replace r1 := r1.on bb bb.size
  have B6 := B5.trans (bb.mono B5.size)
  clear bb B5
  go_wp2_with fail
  refine Calls.mono (Take_any A2 r c2 g 1 w6 (HT.out.on B6) r2 HP.out.2.2.2.2.2.1.byt hc2 hr1) ?_
  intro e w7 hh
  obtain ⟨rfl, bb⟩ := hh.yes HP.out.2.2.2.2.2.1
  (try clear hh)
  replace bz := bz.below bb
  replace bz2 := bz2.below bb
  replace r1 := r1.on bb bb.size
  replace r2 := r2.on bb bb.size
  have B7 := B6.trans (bb.mono B6.size)
  clear bb B6
  rw [show s.v = .agg #[.int .i64 s.ix, .int .i64 s.tm, .int .i64 s.sm, .int .i64 s.lv, .bool s.fn] from rfl]
  obtain ⟨z3, hz3⟩ : ∃ z, z = w7.heap.size := ⟨_, rfl⟩
  obtain ⟨w8, hw8⟩ : ∃ x, x = w7.alloc (.cells #[.int .i64 s.ix, .int .i64 s.tm, .int .i64 s.sm, .int .i64 s.lv, .bool s.fn] 23) := ⟨_, rfl⟩
  have bz3 : BoxS w8 z3 s := by rw [hw8, hz3]; exact BoxS.new w7 s
  have bb : Below w7.heap.size w7 w8 := by rw [hw8]; exact (Below.refl _ _).alloc (Nat.le_refl _) _
  replace bz := bz.below bb
  replace bz2 := bz2.below bb
  replace r1 := r1.on bb bb.size
  replace r2 := r2.on bb bb.size
  have B8 := B7.trans (bb.mono B7.size)
  clear bb B7
  obtain ⟨g0, g1, g2, g3, g4⟩ := bz3.cells
  rw [hw8, hz3] at g0 g1 g2 g3 g4
  go_wp2_with fail
  rw [← hw8, ← hz3]
  clear g0 g1 g2 g3 g4
  clear hw8 hz3
  refine Calls.mono (Again_any A2 r c2 g 1 2 w8 (HT.out.on B8) r2 HP.out.2.2.2.2.2.1.byt hc2 hr1) ?_
  intro e w9 hh
  obtain ⟨R, hR, hh⟩ := hh
  obtain rfl := hR.yes HP.out.2.2.2.2.2.1
  obtain ⟨A3, c3, rfl, hc3, r3, bb⟩ := hh.yes HP.out.1 HP.out.2.2.2.2.1
  clear hh hR
  replace bz := bz.below bb
  replace bz2 := bz2.below bb
  replace bz3 := bz3.below bb
  replace r1 := r1.on bb bb.size
  replace r2 := r2.on bb bb.size
  have B9 := B8.trans (bb.mono B8.size)
  clear bb B8
  obtain ⟨g0, g1, g2, g3, g4⟩ := bz3.cells
  obtain ⟨k0, k1, k2, k3, k4⟩ := bz.cells
  go_wp2_with fail
  clear g0 g1 g2 g3 g4
  clear k0 k1 k2 k3 k4
  have sm := same_any A3 A1 q q c3 c1 b b w9 r3 r1 HP.out.2.1.byt HP.out.2.1.byt
  rw [show eqB b b = true from eqB_true rfl] at sm
  refine Calls.mono (sm) ?_
  rintro e wv ⟨rfl, rfl⟩
  clear sm
  go_wp2_with fail
  refine Calls.mono (wakes_true w9 (HT.out.on B9)) ?_
  rintro e w10 ⟨rfl, bb⟩
  replace bz := bz.below bb
  replace bz2 := bz2.below bb
  replace bz3 := bz3.below bb
  replace r1 := r1.on bb bb.size
  replace r2 := r2.on bb bb.size
  replace r3 := r3.on bb bb.size
  have B10 := B9.trans (bb.mono B9.size)
  clear bb B9
  go_wp2_with fail
  go_ret
  exact ⟨rfl, B10⟩
set_option maxRecDepth 100000 in
set_option maxHeartbeats 4000000 in
theorem back_22 (s : StP) (w : World) (hT : Cr.Tab w) (hs : fineB s = true) :
    Calls Tryd.prog 4 #[s.v, .int .i64 2, .int .i64 2] w fun e w' => e = .returned (.bool true) ∧ Below w.heap.size w w' := by
  have HT := Lib.hid hT
  clear hT
  obtain ⟨b, hb⟩ : ∃ b, b = snapL s 2 := ⟨_, rfl⟩
  obtain ⟨q, hq⟩ : ∃ q, b.length = q := ⟨_, rfl⟩
  have hp : putP s 2 = (b, 0) := by rw [hb]; exact putP_yes hs (.inr rfl)
  have hS : IsSnap s 2 b := ⟨hs, (.inr rfl), hb⟩
  have hl := snap_len hs 2
  rw [← hb, hq] at hl
  obtain ⟨g, hg⟩ : ∃ g, g = snapL s 2 := ⟨_, rfl⟩
  obtain ⟨r, hr⟩ : ∃ r, g.length = r := ⟨_, rfl⟩
  have hpt : putP s 2 = (g, 0) := by rw [hg]; exact putP_yes hs (.inr rfl)
  have hG : IsSnap s 2 g := ⟨hs, (.inr rfl), hg⟩
  have hgl := snap_len hs 2
  rw [← hg, hr] at hgl
  have HP := Lib.hid (⟨hp, hS, hpt, hs, hq, hG, hr⟩ : _ ∧ _ ∧ _ ∧ _ ∧ _ ∧ _ ∧ _)
  clear hp hS hpt hs hb hg hG
  have n1 := neq_same s
  have n2 := eql_same s
  have hq1 : q ≤ 1000000 := by omega
  have hr1 : r ≤ 1000000 := by omega
  clear hl hgl
  clear hq hr
  obtain ⟨z, hz⟩ : ∃ z, z = w.heap.size := ⟨_, rfl⟩
  obtain ⟨w1, hw1⟩ : ∃ x, x = w.alloc (.cells #[.int .i64 s.ix, .int .i64 s.tm, .int .i64 s.sm, .int .i64 s.lv, .bool s.fn] 23) := ⟨_, rfl⟩
  have bz : BoxS w1 z s := by rw [hw1, hz]; exact BoxS.new w s
  have bb : Below w.heap.size w w1 := by rw [hw1]; exact (Below.refl _ _).alloc (Nat.le_refl _) _
  have B1 := bb
  clear bb
  obtain ⟨k0, k1, k2, k3, k4⟩ := bz.cells
  rw [hw1, hz] at k0 k1 k2 k3 k4
  unfold StP.v
  go_enter Tryd.func4, Tryd.ntmps4
  go_wp2_with fail
  rw [← hw1, ← hz]
  clear k0 k1 k2 k3 k4
  clear hw1 hz
  refine Calls.mono (show Calls Tryd.prog 9 #[.agg #[.int .i64 s.ix, .int .i64 s.tm, .int .i64 s.sm, .int .i64 s.lv, .bool s.fn], .int .i64 2] w1 (Told w1 (putP s 2)) from Put_any s 2 w1 (HT.out.on B1)) ?_
  intro e w2 hh
  obtain ⟨A1, c1, rfl, hc1, r1, bb⟩ := hh.yes HP.out.1 HP.out.2.2.2.2.1
  (try clear hh)
  replace bz := bz.below bb
  have B2 := B1.trans (bb.mono B1.size)
  clear bb B1
  obtain ⟨k0, k1, k2, k3, k4⟩ := bz.cells
  go_wp2_with fail
  clear k0 k1 k2 k3 k4
  refine Calls.mono (show Calls Tryd.prog 20 #[.agg #[.int .i64 s.ix, .int .i64 s.tm, .int .i64 s.sm, .int .i64 s.lv, .bool s.fn]] w2 (fun r w' => r = .returned (.bool (fineB s)) ∧ Below w2.heap.size w2 w') from rfine_any s w2) ?_
  intro e w3 hh
  obtain ⟨rfl, bb⟩ := hh
  (try clear hh)
  replace bz := bz.below bb
  replace r1 := r1.on bb bb.size
  have B3 := B2.trans (bb.mono B2.size)
  clear bb B2
  rw [HP.out.2.2.2.1]
  go_wp2_with fail
  refine Calls.mono (Take_any A1 q c1 b 2 w3 (HT.out.on B3) r1 HP.out.2.1.byt hc1 hq1) ?_
  intro e w4 hh
  obtain ⟨rfl, bb⟩ := hh.yes HP.out.2.1
  (try clear hh)
  replace bz := bz.below bb
  replace r1 := r1.on bb bb.size
  have B4 := B3.trans (bb.mono B3.size)
  clear bb B3
  rw [show s.v = .agg #[.int .i64 s.ix, .int .i64 s.tm, .int .i64 s.sm, .int .i64 s.lv, .bool s.fn] from rfl]
  obtain ⟨z2, hz2⟩ : ∃ z, z = w4.heap.size := ⟨_, rfl⟩
  obtain ⟨w5, hw5⟩ : ∃ x, x = w4.alloc (.cells #[.int .i64 s.ix, .int .i64 s.tm, .int .i64 s.sm, .int .i64 s.lv, .bool s.fn] 23) := ⟨_, rfl⟩
  have bz2 : BoxS w5 z2 s := by rw [hw5, hz2]; exact BoxS.new w4 s
  have bb : Below w4.heap.size w4 w5 := by rw [hw5]; exact (Below.refl _ _).alloc (Nat.le_refl _) _
  replace bz := bz.below bb
  replace r1 := r1.on bb bb.size
  have B5 := B4.trans (bb.mono B4.size)
  clear bb B4
  obtain ⟨g0, g1, g2, g3, g4⟩ := bz2.cells
  rw [hw5, hz2] at g0 g1 g2 g3 g4
  obtain ⟨k0, k1, k2, k3, k4⟩ := bz.cells
  rw [hw5] at k0 k1 k2 k3 k4
  go_wp2_with fail
  rw [← hw5, ← hz2]
  clear k0 k1 k2 k3 k4
  clear g0 g1 g2 g3 g4
  clear hw5 hz2
  refine Calls.mono (Again_any A1 q c1 b 2 2 w5 (HT.out.on B5) r1 HP.out.2.1.byt hc1 hq1) ?_
  intro e w6 hh
  obtain ⟨R, hR, hh⟩ := hh
  obtain rfl := hR.yes HP.out.2.1
  obtain ⟨A2, c2, rfl, hc2, r2, bb⟩ := hh.yes HP.out.2.2.1 HP.out.2.2.2.2.2.2
  clear hh hR
  replace bz := bz.below bb
  replace bz2 := bz2.below bb
  replace r1 := r1.on bb bb.size
  have B6 := B5.trans (bb.mono B5.size)
  clear bb B5
  go_wp2_with fail
  refine Calls.mono (Take_any A2 r c2 g 2 w6 (HT.out.on B6) r2 HP.out.2.2.2.2.2.1.byt hc2 hr1) ?_
  intro e w7 hh
  obtain ⟨rfl, bb⟩ := hh.yes HP.out.2.2.2.2.2.1
  (try clear hh)
  replace bz := bz.below bb
  replace bz2 := bz2.below bb
  replace r1 := r1.on bb bb.size
  replace r2 := r2.on bb bb.size
  have B7 := B6.trans (bb.mono B6.size)
  clear bb B6
  rw [show s.v = .agg #[.int .i64 s.ix, .int .i64 s.tm, .int .i64 s.sm, .int .i64 s.lv, .bool s.fn] from rfl]
  obtain ⟨z3, hz3⟩ : ∃ z, z = w7.heap.size := ⟨_, rfl⟩
  obtain ⟨w8, hw8⟩ : ∃ x, x = w7.alloc (.cells #[.int .i64 s.ix, .int .i64 s.tm, .int .i64 s.sm, .int .i64 s.lv, .bool s.fn] 23) := ⟨_, rfl⟩
  have bz3 : BoxS w8 z3 s := by rw [hw8, hz3]; exact BoxS.new w7 s
  have bb : Below w7.heap.size w7 w8 := by rw [hw8]; exact (Below.refl _ _).alloc (Nat.le_refl _) _
  replace bz := bz.below bb
  replace bz2 := bz2.below bb
  replace r1 := r1.on bb bb.size
  replace r2 := r2.on bb bb.size
  have B8 := B7.trans (bb.mono B7.size)
  clear bb B7
  obtain ⟨g0, g1, g2, g3, g4⟩ := bz3.cells
  rw [hw8, hz3] at g0 g1 g2 g3 g4
  go_wp2_with fail
  rw [← hw8, ← hz3]
  clear g0 g1 g2 g3 g4
  clear hw8 hz3
  refine Calls.mono (Again_any A2 r c2 g 2 2 w8 (HT.out.on B8) r2 HP.out.2.2.2.2.2.1.byt hc2 hr1) ?_
  intro e w9 hh
  obtain ⟨R, hR, hh⟩ := hh
  obtain rfl := hR.yes HP.out.2.2.2.2.2.1
  obtain ⟨A3, c3, rfl, hc3, r3, bb⟩ := hh.yes HP.out.1 HP.out.2.2.2.2.1
  clear hh hR
  replace bz := bz.below bb
  replace bz2 := bz2.below bb
  replace bz3 := bz3.below bb
  replace r1 := r1.on bb bb.size
  replace r2 := r2.on bb bb.size
  have B9 := B8.trans (bb.mono B8.size)
  clear bb B8
  obtain ⟨g0, g1, g2, g3, g4⟩ := bz3.cells
  obtain ⟨k0, k1, k2, k3, k4⟩ := bz.cells
  go_wp2_with fail
  clear g0 g1 g2 g3 g4
  clear k0 k1 k2 k3 k4
  have sm := same_any A3 A1 q q c3 c1 b b w9 r3 r1 HP.out.2.1.byt HP.out.2.1.byt
  rw [show eqB b b = true from eqB_true rfl] at sm
  refine Calls.mono (sm) ?_
  rintro e wv ⟨rfl, rfl⟩
  clear sm
  go_wp2_with fail
  refine Calls.mono (wakes_true w9 (HT.out.on B9)) ?_
  rintro e w10 ⟨rfl, bb⟩
  replace bz := bz.below bb
  replace bz2 := bz2.below bb
  replace bz3 := bz3.below bb
  replace r1 := r1.on bb bb.size
  replace r2 := r2.on bb bb.size
  replace r3 := r3.on bb bb.size
  have B10 := B9.trans (bb.mono B9.size)
  clear bb B9
  go_wp2_with fail
  go_ret
  exact ⟨rfl, B10⟩
theorem back_all (s : StP) (f t : Int) (w : World) (hT : Cr.Tab w) :
    Calls Tryd.prog 4 #[s.v, .int .i64 f, .int .i64 t] w fun e w' => e = .returned (.bool true) ∧ Below w.heap.size w w' := by
  by_cases hs : fineB s = true
  · by_cases hf : FmtP f
    · by_cases ht : FmtP t
      · rcases hf with rfl | rfl <;> rcases ht with rfl | rfl
        · exact back_11 s w hT hs
        · exact back_12 s w hT hs
        · exact back_21 s w hT hs
        · exact back_22 s w hT hs
      · rcases hf with rfl | rfl
        · exact back_1t s t w hT hs ht
        · exact back_2t s t w hT hs ht
    · exact back_nofmt s f t w hT hs hf
  · exact back_unfit s f t w hT (Bool.eq_false_iff.2 hs)

end Go.Proofs.YtdggacabjlengaaDoor
