/-
  TupleInstalls: it returns true, whatever package tuple's contracts are proved by.
-/
import Derived.Test.YtbhnlmlaebngmaaInstP
import Derived.Deep.DeepCutAuto
namespace Go.Proofs.Ytbhnlmlaebngmaa
open Go.RowKit
set_option linter.unusedVariables false
set_option linter.unusedSimpArgs false
set_option maxRecDepth 100000 in
set_option maxHeartbeats 16000000 in
theorem inst_no (D : Dev12) (t : TupP) (s : StP) (A : Option Addr) (n c : Nat) (w : World) (hS : Es w w.heap.size A n t.lg) (hnc : n ≤ c) (hM : ¬ MayT t) :
    Calls Try.prog 7 #[tupV t (.slice A n c), s.v] w fun e w' => e = .returned (.bool true) ∧ Below w.heap.size w w' := by
  have HM := Lib.hid hM
  clear hM
  obtain ⟨z1, hz1⟩ : ∃ z, z = w.heap.size := ⟨_, rfl⟩
  obtain ⟨w1, hw1⟩ : ∃ x, x = w.alloc (.cells #[.int .i64 t.sn.ix, .int .i64 t.sn.tm, .int .i64 t.sn.sm, .int .i64 t.sn.lv, .bool t.sn.fn, .slice A n c, .int .i64 t.tm, .int .i64 t.vt] 26) := ⟨_, rfl⟩
  have bb : Below w.heap.size w w1 := by rw [hw1]; exact below_al (below_d0 _) _
  have bz : BoxU w1 z1 t (.slice A n c) := by rw [hw1, hz1]; exact BoxU.new w t _
  replace hS := hS.on bb bb.size
  have B1 := bb
  clear bb
  obtain ⟨z2, hz2⟩ : ∃ z, z = w1.heap.size := ⟨_, rfl⟩
  obtain ⟨w2, hw2⟩ : ∃ x, x = w1.alloc (.cells #[.int .i64 s.ix, .int .i64 s.tm, .int .i64 s.sm, .int .i64 s.lv, .bool s.fn] 23) := ⟨_, rfl⟩
  have bb : Below w1.heap.size w1 w2 := by rw [hw2]; exact below_al (below_d0 _) _
  have bs : BoxS w2 z2 s := by rw [hw2, hz2]; exact BoxS.new w1 s
  replace bz := bz.below bb
  replace hS := hS.on bb bb.size
  have B2 := B1.trans (bb.mono B1.size)
  clear bb B1
  have hzz : z1 + 1 = z2 := by rw [hz2, hw1, hz1]; simp
  have HE := Lib.hid (⟨hw1, hw2, hz1, hzz⟩ : _ ∧ _ ∧ _ ∧ _)
  clear hw1 hz1 hw2 hz2 hzz
  unfold tupV StP.v
  go_enter Try.func7, Try.ntmps7
  go_wp2_with fail
  rw [← HE.out.1, ← HE.out.2.1, ← HE.out.2.2.1]
  (try rw [HE.out.2.2.2])
  clear HE
  refine Calls.mono (show Calls Try.prog 28 #[.agg #[.int .i64 t.sn.ix, .int .i64 t.sn.tm, .int .i64 t.sn.sm, .int .i64 t.sn.lv, .bool t.sn.fn, .slice A n c, .int .i64 t.tm, .int .i64 t.vt]] w2 (fun e w' => (∃ b, MayIs t b ∧ e = .returned (.bool b)) ∧ Below w2.heap.size w2 w') from rrightT_any t A n c w2 hS) ?_
  intro e w3 hh
  obtain ⟨⟨b, hb, rfl⟩, bb⟩ := hh
  (try clear hh)
  replace bz := bz.below bb
  replace bs := bs.below bb
  replace hS := hS.on bb bb.size
  have B3 := B2.trans (bb.mono B2.size)
  clear bb B2
  obtain rfl := hb.same (mayNo HM.out)
  clear hb
  obtain ⟨k0, k1, k2, k3, k4, k5, k6, k7⟩ := bz.cells
  obtain ⟨i0, i1, i2, i3, i4⟩ := bs.cells
  go_wp2_with fail
  clear k0 k1 k2 k3 k4 k5 k6 k7
  clear i0 i1 i2 i3 i4
  refine Calls.mono (wakes12 D w3) ?_
  rintro e w4 ⟨rfl, bb⟩
  replace bz := bz.below bb
  replace bs := bs.below bb
  replace hS := hS.on bb bb.size
  have B4 := B3.trans (bb.mono B3.size)
  clear bb B3
  go_wp2_with fail
  go_ret
  exact ⟨rfl, B4⟩
set_option maxRecDepth 100000 in
set_option maxHeartbeats 16000000 in
theorem inst_nofine (D : Dev12) (t : TupP) (s : StP) (A : Option Addr) (n c : Nat) (w : World) (hS : Es w w.heap.size A n t.lg) (hnc : n ≤ c) (hM : MayT t) (hF : ¬ FineP s) :
    Calls Try.prog 7 #[tupV t (.slice A n c), s.v] w fun e w' => e = .returned (.bool true) ∧ Below w.heap.size w w' := by
  have HM := Lib.hid hM
  have HF := Lib.hid (fineB_not.2 hF)
  clear hM hF
  obtain ⟨z1, hz1⟩ : ∃ z, z = w.heap.size := ⟨_, rfl⟩
  obtain ⟨w1, hw1⟩ : ∃ x, x = w.alloc (.cells #[.int .i64 t.sn.ix, .int .i64 t.sn.tm, .int .i64 t.sn.sm, .int .i64 t.sn.lv, .bool t.sn.fn, .slice A n c, .int .i64 t.tm, .int .i64 t.vt] 26) := ⟨_, rfl⟩
  have bb : Below w.heap.size w w1 := by rw [hw1]; exact below_al (below_d0 _) _
  have bz : BoxU w1 z1 t (.slice A n c) := by rw [hw1, hz1]; exact BoxU.new w t _
  replace hS := hS.on bb bb.size
  have B1 := bb
  clear bb
  obtain ⟨z2, hz2⟩ : ∃ z, z = w1.heap.size := ⟨_, rfl⟩
  obtain ⟨w2, hw2⟩ : ∃ x, x = w1.alloc (.cells #[.int .i64 s.ix, .int .i64 s.tm, .int .i64 s.sm, .int .i64 s.lv, .bool s.fn] 23) := ⟨_, rfl⟩
  have bb : Below w1.heap.size w1 w2 := by rw [hw2]; exact below_al (below_d0 _) _
  have bs : BoxS w2 z2 s := by rw [hw2, hz2]; exact BoxS.new w1 s
  replace bz := bz.below bb
  replace hS := hS.on bb bb.size
  have B2 := B1.trans (bb.mono B1.size)
  clear bb B1
  have hzz : z1 + 1 = z2 := by rw [hz2, hw1, hz1]; simp
  have HE := Lib.hid (⟨hw1, hw2, hz1, hzz⟩ : _ ∧ _ ∧ _ ∧ _)
  clear hw1 hz1 hw2 hz2 hzz
  unfold tupV StP.v
  go_enter Try.func7, Try.ntmps7
  go_wp2_with fail
  rw [← HE.out.1, ← HE.out.2.1, ← HE.out.2.2.1]
  (try rw [HE.out.2.2.2])
  clear HE
  refine Calls.mono (show Calls Try.prog 28 #[.agg #[.int .i64 t.sn.ix, .int .i64 t.sn.tm, .int .i64 t.sn.sm, .int .i64 t.sn.lv, .bool t.sn.fn, .slice A n c, .int .i64 t.tm, .int .i64 t.vt]] w2 (fun e w' => (∃ b, MayIs t b ∧ e = .returned (.bool b)) ∧ Below w2.heap.size w2 w') from rrightT_any t A n c w2 hS) ?_
  intro e w3 hh
  obtain ⟨⟨b, hb, rfl⟩, bb⟩ := hh
  (try clear hh)
  replace bz := bz.below bb
  replace bs := bs.below bb
  replace hS := hS.on bb bb.size
  have B3 := B2.trans (bb.mono B2.size)
  clear bb B2
  obtain rfl := hb.same (mayYes HM.out)
  clear hb
  obtain ⟨k0, k1, k2, k3, k4, k5, k6, k7⟩ := bz.cells
  obtain ⟨i0, i1, i2, i3, i4⟩ := bs.cells
  go_wp2_with fail
  clear k0 k1 k2 k3 k4 k5 k6 k7
  clear i0 i1 i2 i3 i4
  refine Calls.mono (show Calls Try.prog 37 #[.agg #[.int .i64 s.ix, .int .i64 s.tm, .int .i64 s.sm, .int .i64 s.lv, .bool s.fn]] w3 (fun r w' => r = .returned (.bool (fineB s)) ∧ Below w3.heap.size w3 w') from rfine_any s w3) ?_
  intro e w4 hh
  obtain ⟨rfl, bb⟩ := hh
  (try clear hh)
  replace bz := bz.below bb
  replace bs := bs.below bb
  replace hS := hS.on bb bb.size
  have B4 := B3.trans (bb.mono B3.size)
  clear bb B3
  rw [HF.out]
  obtain ⟨k0, k1, k2, k3, k4, k5, k6, k7⟩ := bz.cells
  obtain ⟨i0, i1, i2, i3, i4⟩ := bs.cells
  go_wp2_with fail
  clear k0 k1 k2 k3 k4 k5 k6 k7
  clear i0 i1 i2 i3 i4
  refine Calls.mono (wakes12 D w4) ?_
  rintro e w5 ⟨rfl, bb⟩
  replace bz := bz.below bb
  replace bs := bs.below bb
  replace hS := hS.on bb bb.size
  have B5 := B4.trans (bb.mono B4.size)
  clear bb B4
  go_wp2_with fail
  go_ret
  exact ⟨rfl, B5⟩
set_option maxRecDepth 100000 in
set_option maxHeartbeats 16000000 in
theorem inst_r0 (D : Dev12) (t : TupP) (s : StP) (A : Option Addr) (n c : Nat) (w : World) (hS : Es w w.heap.size A n t.lg) (hnc : n ≤ c) (hM : MayT t) (hF : FineP s) (c1 : s.ix ≤ t.sn.ix) :
    Calls Try.prog 7 #[tupV t (.slice A n c), s.v] w fun e w' => e = .returned (.bool true) ∧ Below w.heap.size w w' := by
  have hl := hS.len
  have hfew := hM.few
  have hn2 : n ≤ 200 := by omega
  have hix : 0 ≤ t.sn.ix ∧ t.sn.ix ≤ 1073740824 := ⟨hM.fine.1.1, hM.ix⟩
  have hsx : 0 ≤ s.ix ∧ s.ix ≤ 1073741824 := hF.1
  have hmt : Mid t.sn.ix := mid_of (by omega)
  have hms : Mid s.ix := mid_of (by omega)
  have q0 : decide (s.ix ≤ t.sn.ix) = true := decide_eq_true c1
  have HI := Lib.hid (show InstallIs t s t 2 from inst_refuse (by omega))
  have HD := Lib.hid (⟨hmt, hms⟩ : _ ∧ _)
  have HM := Lib.hid hM
  have HF := Lib.hid (fineB_iff.2 hF)
  have HL := Lib.hid hl
  clear hmt hms hM hF hl hix hsx hfew c1
  skip
  obtain ⟨z1, hz1⟩ : ∃ z, z = w.heap.size := ⟨_, rfl⟩
  obtain ⟨w1, hw1⟩ : ∃ x, x = w.alloc (.cells #[.int .i64 t.sn.ix, .int .i64 t.sn.tm, .int .i64 t.sn.sm, .int .i64 t.sn.lv, .bool t.sn.fn, .slice A n c, .int .i64 t.tm, .int .i64 t.vt] 26) := ⟨_, rfl⟩
  have bb : Below w.heap.size w w1 := by rw [hw1]; exact below_al (below_d0 _) _
  have bz : BoxU w1 z1 t (.slice A n c) := by rw [hw1, hz1]; exact BoxU.new w t _
  replace hS := hS.on bb bb.size
  have B1 := bb
  clear bb
  obtain ⟨z2, hz2⟩ : ∃ z, z = w1.heap.size := ⟨_, rfl⟩
  obtain ⟨w2, hw2⟩ : ∃ x, x = w1.alloc (.cells #[.int .i64 s.ix, .int .i64 s.tm, .int .i64 s.sm, .int .i64 s.lv, .bool s.fn] 23) := ⟨_, rfl⟩
  have bb : Below w1.heap.size w1 w2 := by rw [hw2]; exact below_al (below_d0 _) _
  have bs : BoxS w2 z2 s := by rw [hw2, hz2]; exact BoxS.new w1 s
  replace bz := bz.below bb
  replace hS := hS.on bb bb.size
  have B2 := B1.trans (bb.mono B1.size)
  clear bb B1
  have hzz : z1 + 1 = z2 := by rw [hz2, hw1, hz1]; simp
  have HE := Lib.hid (⟨hw1, hw2, hz1, hzz⟩ : _ ∧ _ ∧ _ ∧ _)
  clear hw1 hz1 hw2 hz2 hzz
  unfold tupV StP.v
  go_enter Try.func7, Try.ntmps7
  go_wp2_with fail
  rw [← HE.out.1, ← HE.out.2.1, ← HE.out.2.2.1]
  (try rw [HE.out.2.2.2])
  clear HE
  refine Calls.mono (show Calls Try.prog 28 #[.agg #[.int .i64 t.sn.ix, .int .i64 t.sn.tm, .int .i64 t.sn.sm, .int .i64 t.sn.lv, .bool t.sn.fn, .slice A n c, .int .i64 t.tm, .int .i64 t.vt]] w2 (fun e w' => (∃ b, MayIs t b ∧ e = .returned (.bool b)) ∧ Below w2.heap.size w2 w') from rrightT_any t A n c w2 hS) ?_
  intro e w3 hh
  obtain ⟨⟨b, hb, rfl⟩, bb⟩ := hh
  (try clear hh)
  replace bz := bz.below bb
  replace bs := bs.below bb
  replace hS := hS.on bb bb.size
  have B3 := B2.trans (bb.mono B2.size)
  clear bb B2
  obtain rfl := hb.same (mayYes HM.out)
  clear hb
  obtain ⟨k0, k1, k2, k3, k4, k5, k6, k7⟩ := bz.cells
  obtain ⟨i0, i1, i2, i3, i4⟩ := bs.cells
  go_wp2_with fail
  clear k0 k1 k2 k3 k4 k5 k6 k7
  clear i0 i1 i2 i3 i4
  refine Calls.mono (show Calls Try.prog 37 #[.agg #[.int .i64 s.ix, .int .i64 s.tm, .int .i64 s.sm, .int .i64 s.lv, .bool s.fn]] w3 (fun r w' => r = .returned (.bool (fineB s)) ∧ Below w3.heap.size w3 w') from rfine_any s w3) ?_
  intro e w4 hh
  obtain ⟨rfl, bb⟩ := hh
  (try clear hh)
  replace bz := bz.below bb
  replace bs := bs.below bb
  replace hS := hS.on bb bb.size
  have B4 := B3.trans (bb.mono B3.size)
  clear bb B3
  rw [HF.out]
  obtain ⟨k0, k1, k2, k3, k4, k5, k6, k7⟩ := bz.cells
  obtain ⟨i0, i1, i2, i3, i4⟩ := bs.cells
  go_wp2_with fail
  clear k0 k1 k2 k3 k4 k5 k6 k7
  clear i0 i1 i2 i3 i4
  refine Calls.mono (show Calls Try.prog 17 #[.agg #[.int .i64 t.sn.ix, .int .i64 t.sn.tm, .int .i64 t.sn.sm, .int .i64 t.sn.lv, .bool t.sn.fn, .slice A n c, .int .i64 t.tm, .int .i64 t.vt], .agg #[.int .i64 s.ix, .int .i64 s.tm, .int .i64 s.sm, .int .i64 s.lv, .bool s.fn]] w4 (OutF (InstallIs t s) w4.heap.size w4) from D.install t A n c s w4 hS (by omega) hnc HD.out.1 (Mid.i64 HD.out.2)) ?_
  intro e w5 hh
  obtain ⟨A3, c3, rfl, hc3, own3, bb⟩ := OutF.is (x := 2) (n := n) hh (fun h => InstallIs.same h HI.out) HL.out
  (try clear hh)
  replace bz := bz.below bb
  replace bs := bs.below bb
  replace hS := hS.on bb bb.size
  have B5 := B4.trans (bb.mono B4.size)
  clear bb B4
  unfold tupV
  obtain ⟨z6, hz6⟩ : ∃ z, z = w5.heap.size := ⟨_, rfl⟩
  obtain ⟨w6, hw6⟩ : ∃ x, x = w5.alloc (.cells #[.int .i64 t.sn.ix, .int .i64 t.sn.tm, .int .i64 t.sn.sm, .int .i64 t.sn.lv, .bool t.sn.fn, .slice A3 n c3, .int .i64 t.tm, .int .i64 t.vt] 26) := ⟨_, rfl⟩
  have bb : Below w5.heap.size w5 w6 := by rw [hw6]; exact below_al (below_d0 _) _
  have bo : BoxU w6 z6 t (.slice A3 n c3) := by rw [hw6, hz6]; exact BoxU.new w5 t _
  replace own3 := keepF own3 bb
  replace bz := bz.below bb
  replace bs := bs.below bb
  replace hS := hS.on bb bb.size
  have B6 := B5.trans (bb.mono B5.size)
  clear bb B5
  have HE6 := Lib.hid (⟨hw6, hz6⟩ : _ ∧ _)
  clear hw6 hz6
  go_upto_region 4 with fail
  rw [← HE6.out.1, ← HE6.out.2]
  clear HE6
  obtain ⟨k0, k1, k2, k3, k4, k5, k6, k7⟩ := bz.cells
  obtain ⟨i0, i1, i2, i3, i4⟩ := bs.cells
  obtain ⟨m0, m1, m2, m3, m4, m5, m6, m7⟩ := bo.cells
  go_wp2_with fail
  clear k0 k1 k2 k3 k4 k5 k6 k7
  clear i0 i1 i2 i3 i4
  clear m0 m1 m2 m3 m4 m5 m6 m7
  refine Calls.mono (show Calls Try.prog 14 #[.agg #[.int .i64 t.sn.ix, .int .i64 t.sn.tm, .int .i64 t.sn.sm, .int .i64 t.sn.lv, .bool t.sn.fn, .slice A3 n c3, .int .i64 t.tm, .int .i64 t.vt], .agg #[.int .i64 t.sn.ix, .int .i64 t.sn.tm, .int .i64 t.sn.sm, .int .i64 t.sn.lv, .bool t.sn.fn, .slice A n c, .int .i64 t.tm, .int .i64 t.vt]] w6 (fun e w' => (∃ r, SameT t t r ∧ e = .returned (.bool r)) ∧ Below w6.heap.size w6 w') from rsameT_any t t A3 A n n c3 c w6 (OwnF.es own3) hS (by omega) (by omega)) ?_
  intro e w7 hh
  obtain ⟨⟨r, hr, rfl⟩, bb⟩ := hh
  (try clear hh)
  replace own3 := keepF own3 bb
  replace bz := bz.below bb
  replace bs := bs.below bb
  replace bo := bo.below bb
  replace hS := hS.on bb bb.size
  have B7 := B6.trans (bb.mono B6.size)
  clear bb B6
  obtain rfl := hr.same (sameT_yes rfl)
  clear hr
  go_wp2_with fail
  refine Calls.mono (wakes12 D w7) ?_
  rintro e w8 ⟨rfl, bb⟩
  replace own3 := keepF own3 bb
  replace bz := bz.below bb
  replace bs := bs.below bb
  replace bo := bo.below bb
  replace hS := hS.on bb bb.size
  have B8 := B7.trans (bb.mono B7.size)
  clear bb B7
  go_wp2_with fail
  go_ret
  exact ⟨rfl, B8⟩
set_option maxRecDepth 100000 in
set_option maxHeartbeats 16000000 in
theorem inst_r1 (D : Dev12) (t : TupP) (s : StP) (A : Option Addr) (n c : Nat) (w : World) (hS : Es w w.heap.size A n t.lg) (hnc : n ≤ c) (hM : MayT t) (hF : FineP s) (c1 : ¬ s.ix ≤ t.sn.ix) (c2 : 1073740824 < s.ix) :
    Calls Try.prog 7 #[tupV t (.slice A n c), s.v] w fun e w' => e = .returned (.bool true) ∧ Below w.heap.size w w' := by
  have hl := hS.len
  have hfew := hM.few
  have hn2 : n ≤ 200 := by omega
  have hix : 0 ≤ t.sn.ix ∧ t.sn.ix ≤ 1073740824 := ⟨hM.fine.1.1, hM.ix⟩
  have hsx : 0 ≤ s.ix ∧ s.ix ≤ 1073741824 := hF.1
  have hmt : Mid t.sn.ix := mid_of (by omega)
  have hms : Mid s.ix := mid_of (by omega)
  have q0 : decide (s.ix ≤ t.sn.ix) = false := decide_eq_false c1
  have q1 : decide ((1073740824 : Int) < s.ix) = true := decide_eq_true c2
  have HI := Lib.hid (show InstallIs t s t 2 from inst_refuse (by omega))
  have HD := Lib.hid (⟨hmt, hms⟩ : _ ∧ _)
  have HM := Lib.hid hM
  have HF := Lib.hid (fineB_iff.2 hF)
  have HL := Lib.hid hl
  clear hmt hms hM hF hl hix hsx hfew c1 c2
  skip
  obtain ⟨z1, hz1⟩ : ∃ z, z = w.heap.size := ⟨_, rfl⟩
  obtain ⟨w1, hw1⟩ : ∃ x, x = w.alloc (.cells #[.int .i64 t.sn.ix, .int .i64 t.sn.tm, .int .i64 t.sn.sm, .int .i64 t.sn.lv, .bool t.sn.fn, .slice A n c, .int .i64 t.tm, .int .i64 t.vt] 26) := ⟨_, rfl⟩
  have bb : Below w.heap.size w w1 := by rw [hw1]; exact below_al (below_d0 _) _
  have bz : BoxU w1 z1 t (.slice A n c) := by rw [hw1, hz1]; exact BoxU.new w t _
  replace hS := hS.on bb bb.size
  have B1 := bb
  clear bb
  obtain ⟨z2, hz2⟩ : ∃ z, z = w1.heap.size := ⟨_, rfl⟩
  obtain ⟨w2, hw2⟩ : ∃ x, x = w1.alloc (.cells #[.int .i64 s.ix, .int .i64 s.tm, .int .i64 s.sm, .int .i64 s.lv, .bool s.fn] 23) := ⟨_, rfl⟩
  have bb : Below w1.heap.size w1 w2 := by rw [hw2]; exact below_al (below_d0 _) _
  have bs : BoxS w2 z2 s := by rw [hw2, hz2]; exact BoxS.new w1 s
  replace bz := bz.below bb
  replace hS := hS.on bb bb.size
  have B2 := B1.trans (bb.mono B1.size)
  clear bb B1
  have hzz : z1 + 1 = z2 := by rw [hz2, hw1, hz1]; simp
  have HE := Lib.hid (⟨hw1, hw2, hz1, hzz⟩ : _ ∧ _ ∧ _ ∧ _)
  clear hw1 hz1 hw2 hz2 hzz
  unfold tupV StP.v
  go_enter Try.func7, Try.ntmps7
  go_wp2_with fail
  rw [← HE.out.1, ← HE.out.2.1, ← HE.out.2.2.1]
  (try rw [HE.out.2.2.2])
  clear HE
  refine Calls.mono (show Calls Try.prog 28 #[.agg #[.int .i64 t.sn.ix, .int .i64 t.sn.tm, .int .i64 t.sn.sm, .int .i64 t.sn.lv, .bool t.sn.fn, .slice A n c, .int .i64 t.tm, .int .i64 t.vt]] w2 (fun e w' => (∃ b, MayIs t b ∧ e = .returned (.bool b)) ∧ Below w2.heap.size w2 w') from rrightT_any t A n c w2 hS) ?_
  intro e w3 hh
  obtain ⟨⟨b, hb, rfl⟩, bb⟩ := hh
  (try clear hh)
  replace bz := bz.below bb
  replace bs := bs.below bb
  replace hS := hS.on bb bb.size
  have B3 := B2.trans (bb.mono B2.size)
  clear bb B2
  obtain rfl := hb.same (mayYes HM.out)
  clear hb
  obtain ⟨k0, k1, k2, k3, k4, k5, k6, k7⟩ := bz.cells
  obtain ⟨i0, i1, i2, i3, i4⟩ := bs.cells
  go_wp2_with fail
  clear k0 k1 k2 k3 k4 k5 k6 k7
  clear i0 i1 i2 i3 i4
  refine Calls.mono (show Calls Try.prog 37 #[.agg #[.int .i64 s.ix, .int .i64 s.tm, .int .i64 s.sm, .int .i64 s.lv, .bool s.fn]] w3 (fun r w' => r = .returned (.bool (fineB s)) ∧ Below w3.heap.size w3 w') from rfine_any s w3) ?_
  intro e w4 hh
  obtain ⟨rfl, bb⟩ := hh
  (try clear hh)
  replace bz := bz.below bb
  replace bs := bs.below bb
  replace hS := hS.on bb bb.size
  have B4 := B3.trans (bb.mono B3.size)
  clear bb B3
  rw [HF.out]
  obtain ⟨k0, k1, k2, k3, k4, k5, k6, k7⟩ := bz.cells
  obtain ⟨i0, i1, i2, i3, i4⟩ := bs.cells
  go_wp2_with fail
  clear k0 k1 k2 k3 k4 k5 k6 k7
  clear i0 i1 i2 i3 i4
  refine Calls.mono (show Calls Try.prog 17 #[.agg #[.int .i64 t.sn.ix, .int .i64 t.sn.tm, .int .i64 t.sn.sm, .int .i64 t.sn.lv, .bool t.sn.fn, .slice A n c, .int .i64 t.tm, .int .i64 t.vt], .agg #[.int .i64 s.ix, .int .i64 s.tm, .int .i64 s.sm, .int .i64 s.lv, .bool s.fn]] w4 (OutF (InstallIs t s) w4.heap.size w4) from D.install t A n c s w4 hS (by omega) hnc HD.out.1 (Mid.i64 HD.out.2)) ?_
  intro e w5 hh
  obtain ⟨A3, c3, rfl, hc3, own3, bb⟩ := OutF.is (x := 2) (n := n) hh (fun h => InstallIs.same h HI.out) HL.out
  (try clear hh)
  replace bz := bz.below bb
  replace bs := bs.below bb
  replace hS := hS.on bb bb.size
  have B5 := B4.trans (bb.mono B4.size)
  clear bb B4
  unfold tupV
  obtain ⟨z6, hz6⟩ : ∃ z, z = w5.heap.size := ⟨_, rfl⟩
  obtain ⟨w6, hw6⟩ : ∃ x, x = w5.alloc (.cells #[.int .i64 t.sn.ix, .int .i64 t.sn.tm, .int .i64 t.sn.sm, .int .i64 t.sn.lv, .bool t.sn.fn, .slice A3 n c3, .int .i64 t.tm, .int .i64 t.vt] 26) := ⟨_, rfl⟩
  have bb : Below w5.heap.size w5 w6 := by rw [hw6]; exact below_al (below_d0 _) _
  have bo : BoxU w6 z6 t (.slice A3 n c3) := by rw [hw6, hz6]; exact BoxU.new w5 t _
  replace own3 := keepF own3 bb
  replace bz := bz.below bb
  replace bs := bs.below bb
  replace hS := hS.on bb bb.size
  have B6 := B5.trans (bb.mono B5.size)
  clear bb B5
  have HE6 := Lib.hid (⟨hw6, hz6⟩ : _ ∧ _)
  clear hw6 hz6
  go_upto_region 4 with fail
  rw [← HE6.out.1, ← HE6.out.2]
  clear HE6
  obtain ⟨k0, k1, k2, k3, k4, k5, k6, k7⟩ := bz.cells
  obtain ⟨i0, i1, i2, i3, i4⟩ := bs.cells
  obtain ⟨m0, m1, m2, m3, m4, m5, m6, m7⟩ := bo.cells
  go_wp2_with fail
  clear k0 k1 k2 k3 k4 k5 k6 k7
  clear i0 i1 i2 i3 i4
  clear m0 m1 m2 m3 m4 m5 m6 m7
  refine Calls.mono (show Calls Try.prog 14 #[.agg #[.int .i64 t.sn.ix, .int .i64 t.sn.tm, .int .i64 t.sn.sm, .int .i64 t.sn.lv, .bool t.sn.fn, .slice A3 n c3, .int .i64 t.tm, .int .i64 t.vt], .agg #[.int .i64 t.sn.ix, .int .i64 t.sn.tm, .int .i64 t.sn.sm, .int .i64 t.sn.lv, .bool t.sn.fn, .slice A n c, .int .i64 t.tm, .int .i64 t.vt]] w6 (fun e w' => (∃ r, SameT t t r ∧ e = .returned (.bool r)) ∧ Below w6.heap.size w6 w') from rsameT_any t t A3 A n n c3 c w6 (OwnF.es own3) hS (by omega) (by omega)) ?_
  intro e w7 hh
  obtain ⟨⟨r, hr, rfl⟩, bb⟩ := hh
  (try clear hh)
  replace own3 := keepF own3 bb
  replace bz := bz.below bb
  replace bs := bs.below bb
  replace bo := bo.below bb
  replace hS := hS.on bb bb.size
  have B7 := B6.trans (bb.mono B6.size)
  clear bb B6
  obtain rfl := hr.same (sameT_yes rfl)
  clear hr
  go_wp2_with fail
  refine Calls.mono (wakes12 D w7) ?_
  rintro e w8 ⟨rfl, bb⟩
  replace own3 := keepF own3 bb
  replace bz := bz.below bb
  replace bs := bs.below bb
  replace bo := bo.below bb
  replace hS := hS.on bb bb.size
  have B8 := B7.trans (bb.mono B7.size)
  clear bb B7
  go_wp2_with fail
  go_ret
  exact ⟨rfl, B8⟩
set_option maxRecDepth 100000 in
set_option maxHeartbeats 16000000 in
theorem inst_r2 (D : Dev12) (t : TupP) (s : StP) (A : Option Addr) (n c : Nat) (w : World) (hS : Es w w.heap.size A n t.lg) (hnc : n ≤ c) (hM : MayT t) (hF : FineP s) (c1 : ¬ s.ix ≤ t.sn.ix) (c2 : ¬ 1073740824 < s.ix) (c3 : t.tm < s.tm) :
    Calls Try.prog 7 #[tupV t (.slice A n c), s.v] w fun e w' => e = .returned (.bool true) ∧ Below w.heap.size w w' := by
  have hl := hS.len
  have hfew := hM.few
  have hn2 : n ≤ 200 := by omega
  have hix : 0 ≤ t.sn.ix ∧ t.sn.ix ≤ 1073740824 := ⟨hM.fine.1.1, hM.ix⟩
  have hsx : 0 ≤ s.ix ∧ s.ix ≤ 1073741824 := hF.1
  have hmt : Mid t.sn.ix := mid_of (by omega)
  have hms : Mid s.ix := mid_of (by omega)
  have q0 : decide (s.ix ≤ t.sn.ix) = false := decide_eq_false c1
  have q1 : decide ((1073740824 : Int) < s.ix) = false := decide_eq_false c2
  have q2 : decide (t.tm < s.tm) = true := decide_eq_true c3
  have HI := Lib.hid (show InstallIs t s t 2 from inst_refuse (by omega))
  have HD := Lib.hid (⟨hmt, hms⟩ : _ ∧ _)
  have HM := Lib.hid hM
  have HF := Lib.hid (fineB_iff.2 hF)
  have HL := Lib.hid hl
  clear hmt hms hM hF hl hix hsx hfew c1 c2 c3
  skip
  obtain ⟨z1, hz1⟩ : ∃ z, z = w.heap.size := ⟨_, rfl⟩
  obtain ⟨w1, hw1⟩ : ∃ x, x = w.alloc (.cells #[.int .i64 t.sn.ix, .int .i64 t.sn.tm, .int .i64 t.sn.sm, .int .i64 t.sn.lv, .bool t.sn.fn, .slice A n c, .int .i64 t.tm, .int .i64 t.vt] 26) := ⟨_, rfl⟩
  have bb : Below w.heap.size w w1 := by rw [hw1]; exact below_al (below_d0 _) _
  have bz : BoxU w1 z1 t (.slice A n c) := by rw [hw1, hz1]; exact BoxU.new w t _
  replace hS := hS.on bb bb.size
  have B1 := bb
  clear bb
  obtain ⟨z2, hz2⟩ : ∃ z, z = w1.heap.size := ⟨_, rfl⟩
  obtain ⟨w2, hw2⟩ : ∃ x, x = w1.alloc (.cells #[.int .i64 s.ix, .int .i64 s.tm, .int .i64 s.sm, .int .i64 s.lv, .bool s.fn] 23) := ⟨_, rfl⟩
  have bb : Below w1.heap.size w1 w2 := by rw [hw2]; exact below_al (below_d0 _) _
  have bs : BoxS w2 z2 s := by rw [hw2, hz2]; exact BoxS.new w1 s
  replace bz := bz.below bb
  replace hS := hS.on bb bb.size
  have B2 := B1.trans (bb.mono B1.size)
  clear bb B1
  have hzz : z1 + 1 = z2 := by rw [hz2, hw1, hz1]; simp
  have HE := Lib.hid (⟨hw1, hw2, hz1, hzz⟩ : _ ∧ _ ∧ _ ∧ _)
  clear hw1 hz1 hw2 hz2 hzz
  unfold tupV StP.v
  go_enter Try.func7, Try.ntmps7
  go_wp2_with fail
  rw [← HE.out.1, ← HE.out.2.1, ← HE.out.2.2.1]
  (try rw [HE.out.2.2.2])
  clear HE
  refine Calls.mono (show Calls Try.prog 28 #[.agg #[.int .i64 t.sn.ix, .int .i64 t.sn.tm, .int .i64 t.sn.sm, .int .i64 t.sn.lv, .bool t.sn.fn, .slice A n c, .int .i64 t.tm, .int .i64 t.vt]] w2 (fun e w' => (∃ b, MayIs t b ∧ e = .returned (.bool b)) ∧ Below w2.heap.size w2 w') from rrightT_any t A n c w2 hS) ?_
  intro e w3 hh
  obtain ⟨⟨b, hb, rfl⟩, bb⟩ := hh
  (try clear hh)
  replace bz := bz.below bb
  replace bs := bs.below bb
  replace hS := hS.on bb bb.size
  have B3 := B2.trans (bb.mono B2.size)
  clear bb B2
  obtain rfl := hb.same (mayYes HM.out)
  clear hb
  obtain ⟨k0, k1, k2, k3, k4, k5, k6, k7⟩ := bz.cells
  obtain ⟨i0, i1, i2, i3, i4⟩ := bs.cells
  go_wp2_with fail
  clear k0 k1 k2 k3 k4 k5 k6 k7
  clear i0 i1 i2 i3 i4
  refine Calls.mono (show Calls Try.prog 37 #[.agg #[.int .i64 s.ix, .int .i64 s.tm, .int .i64 s.sm, .int .i64 s.lv, .bool s.fn]] w3 (fun r w' => r = .returned (.bool (fineB s)) ∧ Below w3.heap.size w3 w') from rfine_any s w3) ?_
  intro e w4 hh
  obtain ⟨rfl, bb⟩ := hh
  (try clear hh)
  replace bz := bz.below bb
  replace bs := bs.below bb
  replace hS := hS.on bb bb.size
  have B4 := B3.trans (bb.mono B3.size)
  clear bb B3
  rw [HF.out]
  obtain ⟨k0, k1, k2, k3, k4, k5, k6, k7⟩ := bz.cells
  obtain ⟨i0, i1, i2, i3, i4⟩ := bs.cells
  go_wp2_with fail
  clear k0 k1 k2 k3 k4 k5 k6 k7
  clear i0 i1 i2 i3 i4
  refine Calls.mono (show Calls Try.prog 17 #[.agg #[.int .i64 t.sn.ix, .int .i64 t.sn.tm, .int .i64 t.sn.sm, .int .i64 t.sn.lv, .bool t.sn.fn, .slice A n c, .int .i64 t.tm, .int .i64 t.vt], .agg #[.int .i64 s.ix, .int .i64 s.tm, .int .i64 s.sm, .int .i64 s.lv, .bool s.fn]] w4 (OutF (InstallIs t s) w4.heap.size w4) from D.install t A n c s w4 hS (by omega) hnc HD.out.1 (Mid.i64 HD.out.2)) ?_
  intro e w5 hh
  obtain ⟨A3, c3, rfl, hc3, own3, bb⟩ := OutF.is (x := 2) (n := n) hh (fun h => InstallIs.same h HI.out) HL.out
  (try clear hh)
  replace bz := bz.below bb
  replace bs := bs.below bb
  replace hS := hS.on bb bb.size
  have B5 := B4.trans (bb.mono B4.size)
  clear bb B4
  unfold tupV
  obtain ⟨z6, hz6⟩ : ∃ z, z = w5.heap.size := ⟨_, rfl⟩
  obtain ⟨w6, hw6⟩ : ∃ x, x = w5.alloc (.cells #[.int .i64 t.sn.ix, .int .i64 t.sn.tm, .int .i64 t.sn.sm, .int .i64 t.sn.lv, .bool t.sn.fn, .slice A3 n c3, .int .i64 t.tm, .int .i64 t.vt] 26) := ⟨_, rfl⟩
  have bb : Below w5.heap.size w5 w6 := by rw [hw6]; exact below_al (below_d0 _) _
  have bo : BoxU w6 z6 t (.slice A3 n c3) := by rw [hw6, hz6]; exact BoxU.new w5 t _
  replace own3 := keepF own3 bb
  replace bz := bz.below bb
  replace bs := bs.below bb
  replace hS := hS.on bb bb.size
  have B6 := B5.trans (bb.mono B5.size)
  clear bb B5
  have HE6 := Lib.hid (⟨hw6, hz6⟩ : _ ∧ _)
  clear hw6 hz6
  go_upto_region 4 with fail
  rw [← HE6.out.1, ← HE6.out.2]
  clear HE6
  obtain ⟨k0, k1, k2, k3, k4, k5, k6, k7⟩ := bz.cells
  obtain ⟨i0, i1, i2, i3, i4⟩ := bs.cells
  obtain ⟨m0, m1, m2, m3, m4, m5, m6, m7⟩ := bo.cells
  go_wp2_with fail
  clear k0 k1 k2 k3 k4 k5 k6 k7
  clear i0 i1 i2 i3 i4
  clear m0 m1 m2 m3 m4 m5 m6 m7
  refine Calls.mono (show Calls Try.prog 14 #[.agg #[.int .i64 t.sn.ix, .int .i64 t.sn.tm, .int .i64 t.sn.sm, .int .i64 t.sn.lv, .bool t.sn.fn, .slice A3 n c3, .int .i64 t.tm, .int .i64 t.vt], .agg #[.int .i64 t.sn.ix, .int .i64 t.sn.tm, .int .i64 t.sn.sm, .int .i64 t.sn.lv, .bool t.sn.fn, .slice A n c, .int .i64 t.tm, .int .i64 t.vt]] w6 (fun e w' => (∃ r, SameT t t r ∧ e = .returned (.bool r)) ∧ Below w6.heap.size w6 w') from rsameT_any t t A3 A n n c3 c w6 (OwnF.es own3) hS (by omega) (by omega)) ?_
  intro e w7 hh
  obtain ⟨⟨r, hr, rfl⟩, bb⟩ := hh
  (try clear hh)
  replace own3 := keepF own3 bb
  replace bz := bz.below bb
  replace bs := bs.below bb
  replace bo := bo.below bb
  replace hS := hS.on bb bb.size
  have B7 := B6.trans (bb.mono B6.size)
  clear bb B6
  obtain rfl := hr.same (sameT_yes rfl)
  clear hr
  go_wp2_with fail
  refine Calls.mono (wakes12 D w7) ?_
  rintro e w8 ⟨rfl, bb⟩
  replace own3 := keepF own3 bb
  replace bz := bz.below bb
  replace bs := bs.below bb
  replace bo := bo.below bb
  replace hS := hS.on bb bb.size
  have B8 := B7.trans (bb.mono B7.size)
  clear bb B7
  go_wp2_with fail
  go_ret
  exact ⟨rfl, B8⟩
set_option maxRecDepth 100000 in
set_option maxHeartbeats 16000000 in
theorem instd_save (D : Dev12) (t : TupP) (s : StP) (A : Option Addr) (n c : Nat) (w : World) (hS : Es w w.heap.size A n t.lg) (hnc : n ≤ c) (hM : MayT t) (hF : FineP s) (c1 : ¬ s.ix ≤ t.sn.ix) (c2 : ¬ 1073740824 < s.ix) (c3 : ¬ t.tm < s.tm) {k : Nat} (hk : (k : Int) = s.ix - t.sn.ix) (hkl : k ≤ n) {e : EnP} (he : t.lg[k - 1]? = some e) (htm : e.tm = s.tm) :
    Calls Try.prog 7 #[tupV t (.slice A n c), s.v] w fun e w' => e = .returned (.bool true) ∧ Below w.heap.size w w' := by
  have hl := hS.len
  have hfew := hM.few
  have hn2 : n ≤ 200 := by omega
  have hix : 0 ≤ t.sn.ix ∧ t.sn.ix ≤ 1073740824 := ⟨hM.fine.1.1, hM.ix⟩
  have hsx : 0 ≤ s.ix ∧ s.ix ≤ 1073741824 := hF.1
  have hmt : Mid t.sn.ix := mid_of (by omega)
  have hms : Mid s.ix := mid_of (by omega)
  have q0 : decide (s.ix ≤ t.sn.ix) = false := decide_eq_false c1
  have q1 : decide ((1073740824 : Int) < s.ix) = false := decide_eq_false c2
  have q2 : decide (t.tm < s.tm) = false := decide_eq_false c3
  have hk1 : 1 ≤ k := by omega
  have r1 : IntKind.i64.wrap (s.ix - t.sn.ix) = (k : Int) := by rw [IntKind.wrap_i64]; omega
  have r2 : wrap64 (s.ix - t.sn.ix) = (k : Int) := by unfold wrap64; omega
  have r3 : IntKind.i64.wrap ((k : Int) - 1) = ((k - 1 : Nat) : Int) := by rw [IntKind.wrap_i64]; omega
  obtain ⟨k', hk'⟩ : ∃ k', k' = k - 1 := ⟨_, rfl⟩
  rw [← hk'] at r3
  obtain ⟨oo, hoo⟩ : ∃ o : TupP, o = { t with sn := s, lg := t.lg.drop k } := ⟨_, rfl⟩
  have hin : InstallIs t s oo 0 := by rw [hoo]; exact inst_save hM hF hk hk1 (by omega) he htm (by omega) (by omega)
  obtain ⟨u, hu⟩ : ∃ u, u = n - k := ⟨_, rfl⟩
  have hol : oo.lg.length = u := by rw [hoo, hu]; simp only [List.length_drop]; omega
  have hu2 : u ≤ 200 := by omega
  have hog : oo.lg = t.lg.drop k := by rw [hoo]
  have q6 : decide ((k : Int) ≤ (n : Int)) = true := decide_eq_true (by omega)
  have q7 : (e.tm == s.tm) = true := by simpa using htm
  have hkn : k' < n := by omega
  obtain ⟨i0, hi0, hz0, hz1', hz2'⟩ := info_partsV info_entry
  obtain ⟨A7, hsl, hes⟩ := cut_restE Try.underlying24 hi0 hz1' A n c k (by omega) hnc
  rw [← hu] at hsl hes
  obtain ⟨c7, hc7⟩ : ∃ c7, c7 = c - k := ⟨_, rfl⟩
  rw [← hc7] at hsl
  have hsl2 : ∀ W : World, (Instr.slice 24 (.slice A n c) (some (.int .i64 (k : Int))) none none).run Try.prog W = .ok (.slice A7 u c7) W := hsl
  have HES := Lib.hid (fun (W : World) (B : Nat) (h : Es W B A n t.lg) => hes h)
  have he' : t.lg[k']? = some e := by rw [hk']; exact he
  clear hsl hes hi0 hz0 hz1' hz2' hc7
  have e1 : (oo.tm == t.tm) = true := by rw [hoo]; simp
  have e2 : (oo.vt == t.vt) = true := by rw [hoo]; simp
  have hos : oo.sn = s := by rw [hoo]
  have HOS := Lib.hid hos
  have HI := Lib.hid hin
  have HD := Lib.hid (⟨hmt, hms⟩ : _ ∧ _)
  have HM := Lib.hid hM
  have HF := Lib.hid (fineB_iff.2 hF)
  have HL := Lib.hid (⟨hl, hol, hu, hk'⟩ : _ ∧ _ ∧ _ ∧ _)
  have HG := Lib.hid (⟨hog, he'⟩ : _ ∧ _)
  clear hog he'
  clear hmt hms hM hF hl hix hsx hfew c1 c2 c3 hos hin hol hu hoo hk' hk hk1 he htm
  skip
  obtain ⟨z1, hz1⟩ : ∃ z, z = w.heap.size := ⟨_, rfl⟩
  obtain ⟨w1, hw1⟩ : ∃ x, x = w.alloc (.cells #[.int .i64 t.sn.ix, .int .i64 t.sn.tm, .int .i64 t.sn.sm, .int .i64 t.sn.lv, .bool t.sn.fn, .slice A n c, .int .i64 t.tm, .int .i64 t.vt] 26) := ⟨_, rfl⟩
  have bb : Below w.heap.size w w1 := by rw [hw1]; exact below_al (below_d0 _) _
  have bz : BoxU w1 z1 t (.slice A n c) := by rw [hw1, hz1]; exact BoxU.new w t _
  replace hS := hS.on bb bb.size
  have B1 := bb
  clear bb
  obtain ⟨z2, hz2⟩ : ∃ z, z = w1.heap.size := ⟨_, rfl⟩
  obtain ⟨w2, hw2⟩ : ∃ x, x = w1.alloc (.cells #[.int .i64 s.ix, .int .i64 s.tm, .int .i64 s.sm, .int .i64 s.lv, .bool s.fn] 23) := ⟨_, rfl⟩
  have bb : Below w1.heap.size w1 w2 := by rw [hw2]; exact below_al (below_d0 _) _
  have bs : BoxS w2 z2 s := by rw [hw2, hz2]; exact BoxS.new w1 s
  replace bz := bz.below bb
  replace hS := hS.on bb bb.size
  have B2 := B1.trans (bb.mono B1.size)
  clear bb B1
  have hzz : z1 + 1 = z2 := by rw [hz2, hw1, hz1]; simp
  have HE := Lib.hid (⟨hw1, hw2, hz1, hzz⟩ : _ ∧ _ ∧ _ ∧ _)
  clear hw1 hz1 hw2 hz2 hzz
  unfold tupV StP.v
  go_enter Try.func7, Try.ntmps7
  go_wp2_with fail
  rw [← HE.out.1, ← HE.out.2.1, ← HE.out.2.2.1]
  (try rw [HE.out.2.2.2])
  clear HE
  refine Calls.mono (show Calls Try.prog 28 #[.agg #[.int .i64 t.sn.ix, .int .i64 t.sn.tm, .int .i64 t.sn.sm, .int .i64 t.sn.lv, .bool t.sn.fn, .slice A n c, .int .i64 t.tm, .int .i64 t.vt]] w2 (fun e w' => (∃ b, MayIs t b ∧ e = .returned (.bool b)) ∧ Below w2.heap.size w2 w') from rrightT_any t A n c w2 hS) ?_
  intro e w3 hh
  obtain ⟨⟨b, hb, rfl⟩, bb⟩ := hh
  (try clear hh)
  replace bz := bz.below bb
  replace bs := bs.below bb
  replace hS := hS.on bb bb.size
  have B3 := B2.trans (bb.mono B2.size)
  clear bb B2
  obtain rfl := hb.same (mayYes HM.out)
  clear hb
  obtain ⟨k0, k1, k2, k3, k4, k5, k6, k7⟩ := bz.cells
  obtain ⟨i0, i1, i2, i3, i4⟩ := bs.cells
  go_wp2_with fail
  clear k0 k1 k2 k3 k4 k5 k6 k7
  clear i0 i1 i2 i3 i4
  refine Calls.mono (show Calls Try.prog 37 #[.agg #[.int .i64 s.ix, .int .i64 s.tm, .int .i64 s.sm, .int .i64 s.lv, .bool s.fn]] w3 (fun r w' => r = .returned (.bool (fineB s)) ∧ Below w3.heap.size w3 w') from rfine_any s w3) ?_
  intro e w4 hh
  obtain ⟨rfl, bb⟩ := hh
  (try clear hh)
  replace bz := bz.below bb
  replace bs := bs.below bb
  replace hS := hS.on bb bb.size
  have B4 := B3.trans (bb.mono B3.size)
  clear bb B3
  rw [HF.out]
  obtain ⟨k0, k1, k2, k3, k4, k5, k6, k7⟩ := bz.cells
  obtain ⟨i0, i1, i2, i3, i4⟩ := bs.cells
  go_wp2_with fail
  clear k0 k1 k2 k3 k4 k5 k6 k7
  clear i0 i1 i2 i3 i4
  refine Calls.mono (show Calls Try.prog 17 #[.agg #[.int .i64 t.sn.ix, .int .i64 t.sn.tm, .int .i64 t.sn.sm, .int .i64 t.sn.lv, .bool t.sn.fn, .slice A n c, .int .i64 t.tm, .int .i64 t.vt], .agg #[.int .i64 s.ix, .int .i64 s.tm, .int .i64 s.sm, .int .i64 s.lv, .bool s.fn]] w4 (OutF (InstallIs t s) w4.heap.size w4) from D.install t A n c s w4 hS (by omega) hnc HD.out.1 (Mid.i64 HD.out.2)) ?_
  intro e w5 hh
  obtain ⟨A3, c3, rfl, hc3, own3, bb⟩ := OutF.is (x := 0) (n := u) hh (fun h => InstallIs.same h HI.out) HL.out.2.1
  (try clear hh)
  replace bz := bz.below bb
  replace bs := bs.below bb
  replace hS := hS.on bb bb.size
  have B5 := B4.trans (bb.mono B4.size)
  clear bb B4
  unfold tupV
  rw [HOS.out]
  obtain ⟨z6, hz6⟩ : ∃ z, z = w5.heap.size := ⟨_, rfl⟩
  obtain ⟨w6, hw6⟩ : ∃ x, x = w5.alloc (.cells #[.int .i64 s.ix, .int .i64 s.tm, .int .i64 s.sm, .int .i64 s.lv, .bool s.fn, .slice A3 u c3, .int .i64 oo.tm, .int .i64 oo.vt] 26) := ⟨_, rfl⟩
  have bb : Below w5.heap.size w5 w6 := by rw [hw6]; exact below_al (below_d0 _) _
  have bo : BoxU w6 z6 oo (.slice A3 u c3) := by rw [hw6, hz6]; have h := BoxU.new w5 oo (.slice A3 u c3); rw [HOS.out] at h; exact h
  replace own3 := keepF own3 bb
  replace bz := bz.below bb
  replace bs := bs.below bb
  replace hS := hS.on bb bb.size
  have B6 := B5.trans (bb.mono B5.size)
  clear bb B5
  have HE6 := Lib.hid (⟨hw6, hz6⟩ : _ ∧ _)
  clear hw6 hz6
  go_upto_region 4 with fail
  rw [← HE6.out.1, ← HE6.out.2]
  clear HE6
  obtain ⟨k0, k1, k2, k3, k4, k5, k6, k7⟩ := bz.cells
  obtain ⟨i0, i1, i2, i3, i4⟩ := bs.cells
  go_upto_region 7 with fail
  clear k0 k1 k2 k3 k4 k5 k6 k7
  clear i0 i1 i2 i3 i4
  clear q0 q1 q2 r1 r2
  obtain ⟨b, off, d, hA, hb, hd, d0, d1, d2⟩ := hS.at_ hkn
  obtain rfl : e = d := Option.some.inj (HG.out.2.symm.trans hd)
  have hki : (0 : Int) ≤ (k' : Int) ∧ (k' : Int) < (n : Int) := by omega
  clear d1 d2 hd
  have HZ := Lib.hid (fun (Y : World) (hY : Below w6.heap.size w6 Y) => (⟨(bz.below hY).cells, (bs.below hY).cells, (bo.below hY).cells⟩ : _ ∧ _ ∧ _))
  have HD0 := Lib.hid (fun (Y : World) (hY : Below w6.heap.size w6 Y) => (hY.cell (p := ⟨b, off + k' * 3, none⟩) hb).trans d0)
  clear d0 hb
  subst hA
  refine wp_region_held_drew (S := (fun Y => Below w6.heap.size w6 Y)) (by kernel_rfl) ((Below.refl _ _).drew) (fun hHeld => ?_)
  refine take_at (i := 0) (d := 57) (oi := ?o1) (v := ?v1) ?hi1 ?hd1 (by kernel_rfl) (by kernel_rfl) (by kernel_rfl) ?hw1 ?hy1 ?hq1 (by assumption) ?r1
  case hi1 => (simp only [List.getElem?_toArray, List.getElem?_cons_zero]; rfl)
  case hd1 => rfl
  case hw1 => rfl
  case hy1 => ((intro w hSw; (try dsimp only at hSw); obtain ⟨⟨s0, s1, s2, s3, s4, s5, s6, s7⟩, ⟨x0, x1, x2, x3, x4⟩, ⟨o0, o1, o2, o3, o4, o5, o6, o7⟩⟩ := HZ.out w hSw; rw [HOS.out] at o0 o1 o2 o3 o4; have d0 := HD0.out w hSw; go_simp) <;> (with_reducible rfl))
  case hq1 => exact fun _ _ _ h => h
  simp only [List.set_cons_succ, List.set_cons_zero]
  refine take_at (i := 1) (d := 58) (oi := ?o2) (v := ?v2) ?hi2 ?hd2 (by kernel_rfl) (by kernel_rfl) (by kernel_rfl) ?hw2 ?hy2 ?hq2 (by assumption) ?r2
  case hi2 => (simp only [List.getElem?_toArray, List.getElem?_cons_succ, List.getElem?_cons_zero]; rfl)
  case hd2 => rfl
  case hw2 => rfl
  case hy2 => ((intro w hSw; (try dsimp only at hSw); obtain ⟨⟨s0, s1, s2, s3, s4, s5, s6, s7⟩, ⟨x0, x1, x2, x3, x4⟩, ⟨o0, o1, o2, o3, o4, o5, o6, o7⟩⟩ := HZ.out w hSw; rw [HOS.out] at o0 o1 o2 o3 o4; have d0 := HD0.out w hSw; go_simp) <;> (with_reducible rfl))
  case hq2 => exact fun _ _ _ h => h
  simp only [List.set_cons_succ, List.set_cons_zero]
  refine take_at (i := 2) (d := 59) (oi := ?o3) (v := ?v3) ?hi3 ?hd3 (by kernel_rfl) (by kernel_rfl) (by kernel_rfl) ?hw3 ?hy3 ?hq3 (by assumption) ?r3
  case hi3 => (simp only [List.getElem?_toArray, List.getElem?_cons_succ, List.getElem?_cons_zero]; rfl)
  case hd3 => rfl
  case hw3 => rfl
  case hy3 => ((intro w hSw; (try dsimp only at hSw); obtain ⟨⟨s0, s1, s2, s3, s4, s5, s6, s7⟩, ⟨x0, x1, x2, x3, x4⟩, ⟨o0, o1, o2, o3, o4, o5, o6, o7⟩⟩ := HZ.out w hSw; rw [HOS.out] at o0 o1 o2 o3 o4; have d0 := HD0.out w hSw; go_simp) <;> (with_reducible rfl))
  case hq3 => exact fun _ _ _ h => h
  simp only [List.set_cons_succ, List.set_cons_zero]
  refine take_at (i := 3) (d := 60) (oi := ?o4) (v := ?v4) ?hi4 ?hd4 (by kernel_rfl) (by kernel_rfl) (by kernel_rfl) ?hw4 ?hy4 ?hq4 (by assumption) ?r4
  case hi4 => (simp only [List.getElem?_toArray, List.getElem?_cons_succ, List.getElem?_cons_zero]; rfl)
  case hd4 => rfl
  case hw4 => rfl
  case hy4 => ((intro w hSw; (try dsimp only at hSw); obtain ⟨⟨s0, s1, s2, s3, s4, s5, s6, s7⟩, ⟨x0, x1, x2, x3, x4⟩, ⟨o0, o1, o2, o3, o4, o5, o6, o7⟩⟩ := HZ.out w hSw; rw [HOS.out] at o0 o1 o2 o3 o4; have d0 := HD0.out w hSw; go_simp) <;> (with_reducible rfl))
  case hq4 => exact fun _ _ _ h => h
  simp only [List.set_cons_succ, List.set_cons_zero]
  refine take_at (i := 4) (d := 61) (oi := ?o5) (v := ?v5) ?hi5 ?hd5 (by kernel_rfl) (by kernel_rfl) (by kernel_rfl) ?hw5 ?hy5 ?hq5 (by assumption) ?r5
  case hi5 => (simp only [List.getElem?_toArray, List.getElem?_cons_succ, List.getElem?_cons_zero]; rfl)
  case hd5 => rfl
  case hw5 => rfl
  case hy5 => ((intro w hSw; (try dsimp only at hSw); obtain ⟨⟨s0, s1, s2, s3, s4, s5, s6, s7⟩, ⟨x0, x1, x2, x3, x4⟩, ⟨o0, o1, o2, o3, o4, o5, o6, o7⟩⟩ := HZ.out w hSw; rw [HOS.out] at o0 o1 o2 o3 o4; have d0 := HD0.out w hSw; go_simp) <;> (with_reducible rfl))
  case hq5 => exact fun _ _ _ h => h
  simp only [List.set_cons_succ, List.set_cons_zero]
  refine take_at (i := 5) (d := 62) (oi := ?o6) (v := ?v6) ?hi6 ?hd6 (by kernel_rfl) (by kernel_rfl) (by kernel_rfl) ?hw6 ?hy6 ?hq6 (by assumption) ?r6
  case hi6 => (simp only [List.getElem?_toArray, List.getElem?_cons_succ, List.getElem?_cons_zero]; rfl)
  case hd6 => rfl
  case hw6 => rfl
  case hy6 => ((intro w hSw; (try dsimp only at hSw); obtain ⟨⟨s0, s1, s2, s3, s4, s5, s6, s7⟩, ⟨x0, x1, x2, x3, x4⟩, ⟨o0, o1, o2, o3, o4, o5, o6, o7⟩⟩ := HZ.out w hSw; rw [HOS.out] at o0 o1 o2 o3 o4; have d0 := HD0.out w hSw; go_simp) <;> (with_reducible rfl))
  case hq6 => exact fun _ _ _ h => h
  simp only [List.set_cons_succ, List.set_cons_zero]
  refine take_at (i := 6) (d := 63) (oi := ?o7) (v := ?v7) ?hi7 ?hd7 (by kernel_rfl) (by kernel_rfl) (by kernel_rfl) ?hw7 ?hy7 ?hq7 (by assumption) ?r7
  case hi7 => (simp only [List.getElem?_toArray, List.getElem?_cons_succ, List.getElem?_cons_zero]; rfl)
  case hd7 => rfl
  case hw7 => rfl
  case hy7 => ((intro w hSw; (try dsimp only at hSw); obtain ⟨⟨s0, s1, s2, s3, s4, s5, s6, s7⟩, ⟨x0, x1, x2, x3, x4⟩, ⟨o0, o1, o2, o3, o4, o5, o6, o7⟩⟩ := HZ.out w hSw; rw [HOS.out] at o0 o1 o2 o3 o4; have d0 := HD0.out w hSw; go_simp) <;> (with_reducible rfl))
  case hq7 => exact fun _ _ _ h => h
  simp only [List.set_cons_succ, List.set_cons_zero]
  refine take_at (i := 7) (d := 64) (oi := ?o8) (v := ?v8) ?hi8 ?hd8 (by kernel_rfl) (by kernel_rfl) (by kernel_rfl) ?hw8 ?hy8 ?hq8 (by assumption) ?r8
  case hi8 => (simp only [List.getElem?_toArray, List.getElem?_cons_succ, List.getElem?_cons_zero]; rfl)
  case hd8 => rfl
  case hw8 => rfl
  case hy8 => ((intro w hSw; (try dsimp only at hSw); obtain ⟨⟨s0, s1, s2, s3, s4, s5, s6, s7⟩, ⟨x0, x1, x2, x3, x4⟩, ⟨o0, o1, o2, o3, o4, o5, o6, o7⟩⟩ := HZ.out w hSw; rw [HOS.out] at o0 o1 o2 o3 o4; have d0 := HD0.out w hSw; go_simp) <;> (with_reducible rfl))
  case hq8 => exact fun _ _ _ h => h
  simp only [List.set_cons_succ, List.set_cons_zero]
  refine take_at (i := 8) (d := 65) (oi := ?o9) (v := ?v9) ?hi9 ?hd9 (by kernel_rfl) (by kernel_rfl) (by kernel_rfl) ?hw9 ?hy9 ?hq9 (by assumption) ?r9
  case hi9 => (simp only [List.getElem?_toArray, List.getElem?_cons_succ, List.getElem?_cons_zero]; rfl)
  case hd9 => rfl
  case hw9 => rfl
  case hy9 => ((intro w hSw; (try dsimp only at hSw); obtain ⟨⟨s0, s1, s2, s3, s4, s5, s6, s7⟩, ⟨x0, x1, x2, x3, x4⟩, ⟨o0, o1, o2, o3, o4, o5, o6, o7⟩⟩ := HZ.out w hSw; rw [HOS.out] at o0 o1 o2 o3 o4; have d0 := HD0.out w hSw; go_simp) <;> (with_reducible rfl))
  case hq9 => exact fun _ _ _ h => h
  simp only [List.set_cons_succ, List.set_cons_zero]
  refine take_at (i := 9) (d := 66) (oi := ?o10) (v := ?v10) ?hi10 ?hd10 (by kernel_rfl) (by kernel_rfl) (by kernel_rfl) ?hw10 ?hy10 ?hq10 (by assumption) ?r10
  case hi10 => (simp only [List.getElem?_toArray, List.getElem?_cons_succ, List.getElem?_cons_zero]; rfl)
  case hd10 => rfl
  case hw10 => rfl
  case hy10 => ((intro w hSw; (try dsimp only at hSw); obtain ⟨⟨s0, s1, s2, s3, s4, s5, s6, s7⟩, ⟨x0, x1, x2, x3, x4⟩, ⟨o0, o1, o2, o3, o4, o5, o6, o7⟩⟩ := HZ.out w hSw; rw [HOS.out] at o0 o1 o2 o3 o4; have d0 := HD0.out w hSw; go_simp) <;> (with_reducible rfl))
  case hq10 => exact fun _ _ _ h => h
  simp only [List.set_cons_succ, List.set_cons_zero]
  refine take_at (i := 10) (d := 67) (oi := ?o11) (v := ?v11) ?hi11 ?hd11 (by kernel_rfl) (by kernel_rfl) (by kernel_rfl) ?hw11 ?hy11 ?hq11 (by assumption) ?r11
  case hi11 => (simp only [List.getElem?_toArray, List.getElem?_cons_succ, List.getElem?_cons_zero]; rfl)
  case hd11 => rfl
  case hw11 => rfl
  case hy11 => ((intro w hSw; (try dsimp only at hSw); obtain ⟨⟨s0, s1, s2, s3, s4, s5, s6, s7⟩, ⟨x0, x1, x2, x3, x4⟩, ⟨o0, o1, o2, o3, o4, o5, o6, o7⟩⟩ := HZ.out w hSw; rw [HOS.out] at o0 o1 o2 o3 o4; have d0 := HD0.out w hSw; go_simp) <;> (with_reducible rfl))
  case hq11 => exact fun _ _ _ h => h
  simp only [List.set_cons_succ, List.set_cons_zero]
  refine take_at (i := 11) (d := 68) (oi := ?o12) (v := ?v12) ?hi12 ?hd12 (by kernel_rfl) (by kernel_rfl) (by kernel_rfl) ?hw12 ?hy12 ?hq12 (by assumption) ?r12
  case hi12 => (simp only [List.getElem?_toArray, List.getElem?_cons_succ, List.getElem?_cons_zero]; rfl)
  case hd12 => rfl
  case hw12 => rfl
  case hy12 => ((intro w hSw; (try dsimp only at hSw); obtain ⟨⟨s0, s1, s2, s3, s4, s5, s6, s7⟩, ⟨x0, x1, x2, x3, x4⟩, ⟨o0, o1, o2, o3, o4, o5, o6, o7⟩⟩ := HZ.out w hSw; rw [HOS.out] at o0 o1 o2 o3 o4; have d0 := HD0.out w hSw; go_simp) <;> (with_reducible rfl))
  case hq12 => exact fun _ _ _ h => h
  simp only [List.set_cons_succ, List.set_cons_zero]
  refine take_at (i := 12) (d := 69) (oi := ?o13) (v := ?v13) ?hi13 ?hd13 (by kernel_rfl) (by kernel_rfl) (by kernel_rfl) ?hw13 ?hy13 ?hq13 (by assumption) ?r13
  case hi13 => (simp only [List.getElem?_toArray, List.getElem?_cons_succ, List.getElem?_cons_zero]; rfl)
  case hd13 => rfl
  case hw13 => rfl
  case hy13 => ((intro w hSw; (try dsimp only at hSw); obtain ⟨⟨s0, s1, s2, s3, s4, s5, s6, s7⟩, ⟨x0, x1, x2, x3, x4⟩, ⟨o0, o1, o2, o3, o4, o5, o6, o7⟩⟩ := HZ.out w hSw; rw [HOS.out] at o0 o1 o2 o3 o4; have d0 := HD0.out w hSw; go_simp) <;> (with_reducible rfl))
  case hq13 => exact fun _ _ _ h => h
  simp only [List.set_cons_succ, List.set_cons_zero]
  refine take_at (i := 13) (d := 70) (oi := ?o14) (v := ?v14) ?hi14 ?hd14 (by kernel_rfl) (by kernel_rfl) (by kernel_rfl) ?hw14 ?hy14 ?hq14 (by assumption) ?r14
  case hi14 => (simp only [List.getElem?_toArray, List.getElem?_cons_succ, List.getElem?_cons_zero]; rfl)
  case hd14 => rfl
  case hw14 => rfl
  case hy14 => ((intro w hSw; (try dsimp only at hSw); obtain ⟨⟨s0, s1, s2, s3, s4, s5, s6, s7⟩, ⟨x0, x1, x2, x3, x4⟩, ⟨o0, o1, o2, o3, o4, o5, o6, o7⟩⟩ := HZ.out w hSw; rw [HOS.out] at o0 o1 o2 o3 o4; have d0 := HD0.out w hSw; go_simp) <;> (with_reducible rfl))
  case hq14 => exact fun _ _ _ h => h
  simp only [List.set_cons_succ, List.set_cons_zero]
  refine take_at (i := 14) (d := 71) (oi := ?o15) (v := ?v15) ?hi15 ?hd15 (by kernel_rfl) (by kernel_rfl) (by kernel_rfl) ?hw15 ?hy15 ?hq15 (by assumption) ?r15
  case hi15 => (simp only [List.getElem?_toArray, List.getElem?_cons_succ, List.getElem?_cons_zero]; rfl)
  case hd15 => rfl
  case hw15 => rfl
  case hy15 => ((intro w hSw; (try dsimp only at hSw); obtain ⟨⟨s0, s1, s2, s3, s4, s5, s6, s7⟩, ⟨x0, x1, x2, x3, x4⟩, ⟨o0, o1, o2, o3, o4, o5, o6, o7⟩⟩ := HZ.out w hSw; rw [HOS.out] at o0 o1 o2 o3 o4; have d0 := HD0.out w hSw; go_simp) <;> (with_reducible rfl))
  case hq15 => exact fun _ _ _ h => h
  simp only [List.set_cons_succ, List.set_cons_zero]
  refine take_at (i := 15) (d := 72) (oi := ?o16) (v := ?v16) ?hi16 ?hd16 (by kernel_rfl) (by kernel_rfl) (by kernel_rfl) ?hw16 ?hy16 ?hq16 (by assumption) ?r16
  case hi16 => (simp only [List.getElem?_toArray, List.getElem?_cons_succ, List.getElem?_cons_zero]; rfl)
  case hd16 => rfl
  case hw16 => rfl
  case hy16 => ((intro w hSw; (try dsimp only at hSw); obtain ⟨⟨s0, s1, s2, s3, s4, s5, s6, s7⟩, ⟨x0, x1, x2, x3, x4⟩, ⟨o0, o1, o2, o3, o4, o5, o6, o7⟩⟩ := HZ.out w hSw; rw [HOS.out] at o0 o1 o2 o3 o4; have d0 := HD0.out w hSw; go_simp) <;> (with_reducible rfl))
  case hq16 => exact fun _ _ _ h => h
  simp only [List.set_cons_succ, List.set_cons_zero]
  refine take_at (i := 16) (d := 73) (oi := ?o17) (v := ?v17) ?hi17 ?hd17 (by kernel_rfl) (by kernel_rfl) (by kernel_rfl) ?hw17 ?hy17 ?hq17 (by assumption) ?r17
  case hi17 => (simp only [List.getElem?_toArray, List.getElem?_cons_succ, List.getElem?_cons_zero]; rfl)
  case hd17 => rfl
  case hw17 => rfl
  case hy17 => ((intro w hSw; (try dsimp only at hSw); obtain ⟨⟨s0, s1, s2, s3, s4, s5, s6, s7⟩, ⟨x0, x1, x2, x3, x4⟩, ⟨o0, o1, o2, o3, o4, o5, o6, o7⟩⟩ := HZ.out w hSw; rw [HOS.out] at o0 o1 o2 o3 o4; have d0 := HD0.out w hSw; go_simp) <;> (with_reducible rfl))
  case hq17 => exact fun _ _ _ h => h
  simp only [List.set_cons_succ, List.set_cons_zero]
  refine wpAnyH_done (by kernel_rfl) ?_ _
  clear hHeld HZ
  obtain ⟨w7, hw7⟩ : ∃ x, x = w6.drew := ⟨_, rfl⟩
  have bb : Below w6.heap.size w6 w7 := by rw [hw7]; exact (Below.refl _ _).drew
  rw [← hw7]
  clear hw7 HD0 hki
  replace own3 := keepF own3 bb
  replace bz := bz.below bb
  replace bs := bs.below bb
  replace bo := bo.below bb
  replace hS := hS.on bb bb.size
  have B7 := B6.trans (bb.mono B6.size)
  clear bb B6
  go_wp2_with fail
  have qst : ∀ W : World, (binOp .eql 23 (.agg #[.int .i64 s.ix, .int .i64 s.tm, .int .i64 s.sm, .int .i64 s.lv, .bool s.fn]) (.agg #[.int .i64 s.ix, .int .i64 s.tm, .int .i64 s.sm, .int .i64 s.lv, .bool s.fn])).run Try.prog W = .ok (.bool true) W := fun W => by have h := eql_st s s W; rw [decide_eq_true rfl] at h; exact h
  have HZ := Lib.hid (fun (Y : World) (hY : Below w7.heap.size w7 Y) => (⟨(bz.below hY).cells, (bs.below hY).cells, (bo.below hY).cells⟩ : _ ∧ _ ∧ _))
  have own3d := keepF own3 (Below.refl w7.heap.size w7).drew
  have hSd := hS.on (Below.refl w7.heap.size w7).drew (Below.refl w7.heap.size w7).drew.size
  refine wp_region_held_drew (S := (fun Y => Below w7.heap.size w7 Y)) (by kernel_rfl) ((Below.refl _ _).drew) (fun hHeld => ?_)
  refine take_at (i := 0) (d := 74) (oi := ?o18) (v := ?v18) ?hi18 ?hd18 (by kernel_rfl) (by kernel_rfl) (by kernel_rfl) ?hw18 ?hy18 ?hq18 (by assumption) ?r18
  case hi18 => (simp only [List.getElem?_toArray, List.getElem?_cons_zero]; rfl)
  case hd18 => rfl
  case hw18 => rfl
  case hy18 => ((intro w hSw; (try dsimp only at hSw); obtain ⟨⟨s0, s1, s2, s3, s4, s5, s6, s7⟩, ⟨x0, x1, x2, x3, x4⟩, ⟨o0, o1, o2, o3, o4, o5, o6, o7⟩⟩ := HZ.out w hSw; rw [HOS.out] at o0 o1 o2 o3 o4; go_simp) <;> (with_reducible rfl))
  case hq18 => exact fun _ _ _ h => h
  simp only [List.set_cons_succ, List.set_cons_zero]
  refine take_at (i := 1) (d := 75) (oi := ?o19) (v := ?v19) ?hi19 ?hd19 (by kernel_rfl) (by kernel_rfl) (by kernel_rfl) ?hw19 ?hy19 ?hq19 (by assumption) ?r19
  case hi19 => (simp only [List.getElem?_toArray, List.getElem?_cons_succ, List.getElem?_cons_zero]; rfl)
  case hd19 => rfl
  case hw19 => rfl
  case hy19 => ((intro w hSw; (try dsimp only at hSw); obtain ⟨⟨s0, s1, s2, s3, s4, s5, s6, s7⟩, ⟨x0, x1, x2, x3, x4⟩, ⟨o0, o1, o2, o3, o4, o5, o6, o7⟩⟩ := HZ.out w hSw; rw [HOS.out] at o0 o1 o2 o3 o4; go_simp) <;> (with_reducible rfl))
  case hq19 => exact fun _ _ _ h => h
  simp only [List.set_cons_succ, List.set_cons_zero]
  refine take_at (i := 2) (d := 76) (oi := ?o20) (v := ?v20) ?hi20 ?hd20 (by kernel_rfl) (by kernel_rfl) (by kernel_rfl) ?hw20 ?hy20 ?hq20 (by assumption) ?r20
  case hi20 => (simp only [List.getElem?_toArray, List.getElem?_cons_succ, List.getElem?_cons_zero]; rfl)
  case hd20 => rfl
  case hw20 => rfl
  case hy20 => ((intro w hSw; (try dsimp only at hSw); obtain ⟨⟨s0, s1, s2, s3, s4, s5, s6, s7⟩, ⟨x0, x1, x2, x3, x4⟩, ⟨o0, o1, o2, o3, o4, o5, o6, o7⟩⟩ := HZ.out w hSw; rw [HOS.out] at o0 o1 o2 o3 o4; go_simp) <;> (with_reducible rfl))
  case hq20 => exact fun _ _ _ h => h
  simp only [List.set_cons_succ, List.set_cons_zero]
  refine take_at (i := 3) (d := 77) (oi := ?o21) (v := ?v21) ?hi21 ?hd21 (by kernel_rfl) (by kernel_rfl) (by kernel_rfl) ?hw21 ?hy21 ?hq21 (by assumption) ?r21
  case hi21 => (simp only [List.getElem?_toArray, List.getElem?_cons_succ, List.getElem?_cons_zero]; rfl)
  case hd21 => rfl
  case hw21 => rfl
  case hy21 => ((intro w hSw; (try dsimp only at hSw); obtain ⟨⟨s0, s1, s2, s3, s4, s5, s6, s7⟩, ⟨x0, x1, x2, x3, x4⟩, ⟨o0, o1, o2, o3, o4, o5, o6, o7⟩⟩ := HZ.out w hSw; rw [HOS.out] at o0 o1 o2 o3 o4; go_simp) <;> (with_reducible rfl))
  case hq21 => exact fun _ _ _ h => h
  simp only [List.set_cons_succ, List.set_cons_zero]
  refine take_at (i := 4) (d := 78) (oi := ?o22) (v := ?v22) ?hi22 ?hd22 (by kernel_rfl) (by kernel_rfl) (by kernel_rfl) ?hw22 ?hy22 ?hq22 (by assumption) ?r22
  case hi22 => (simp only [List.getElem?_toArray, List.getElem?_cons_succ, List.getElem?_cons_zero]; rfl)
  case hd22 => rfl
  case hw22 => rfl
  case hy22 => ((intro w hSw; (try dsimp only at hSw); obtain ⟨⟨s0, s1, s2, s3, s4, s5, s6, s7⟩, ⟨x0, x1, x2, x3, x4⟩, ⟨o0, o1, o2, o3, o4, o5, o6, o7⟩⟩ := HZ.out w hSw; rw [HOS.out] at o0 o1 o2 o3 o4; go_simp) <;> (with_reducible rfl))
  case hq22 => exact fun _ _ _ h => h
  simp only [List.set_cons_succ, List.set_cons_zero]
  refine take_at (i := 5) (d := 79) (oi := ?o23) (v := ?v23) ?hi23 ?hd23 (by kernel_rfl) (by kernel_rfl) (by kernel_rfl) ?hw23 ?hy23 ?hq23 (by assumption) ?r23
  case hi23 => (simp only [List.getElem?_toArray, List.getElem?_cons_succ, List.getElem?_cons_zero]; rfl)
  case hd23 => rfl
  case hw23 => rfl
  case hy23 => ((intro w hSw; (try dsimp only at hSw); obtain ⟨⟨s0, s1, s2, s3, s4, s5, s6, s7⟩, ⟨x0, x1, x2, x3, x4⟩, ⟨o0, o1, o2, o3, o4, o5, o6, o7⟩⟩ := HZ.out w hSw; rw [HOS.out] at o0 o1 o2 o3 o4; go_simp) <;> (with_reducible rfl))
  case hq23 => exact fun _ _ _ h => h
  simp only [List.set_cons_succ, List.set_cons_zero]
  refine take_at (i := 6) (d := 80) (oi := ?o24) (v := ?v24) ?hi24 ?hd24 (by kernel_rfl) (by kernel_rfl) (by kernel_rfl) ?hw24 ?hy24 ?hq24 (by assumption) ?r24
  case hi24 => (simp only [List.getElem?_toArray, List.getElem?_cons_succ, List.getElem?_cons_zero]; rfl)
  case hd24 => rfl
  case hw24 => rfl
  case hy24 => ((intro w hSw; (try dsimp only at hSw); obtain ⟨⟨s0, s1, s2, s3, s4, s5, s6, s7⟩, ⟨x0, x1, x2, x3, x4⟩, ⟨o0, o1, o2, o3, o4, o5, o6, o7⟩⟩ := HZ.out w hSw; rw [HOS.out] at o0 o1 o2 o3 o4; go_simp) <;> (with_reducible rfl))
  case hq24 => exact fun _ _ _ h => h
  simp only [List.set_cons_succ, List.set_cons_zero]
  refine take_at (i := 7) (d := 81) (oi := ?o25) (v := ?v25) ?hi25 ?hd25 (by kernel_rfl) (by kernel_rfl) (by kernel_rfl) ?hw25 ?hy25 ?hq25 (by assumption) ?r25
  case hi25 => (simp only [List.getElem?_toArray, List.getElem?_cons_succ, List.getElem?_cons_zero]; rfl)
  case hd25 => rfl
  case hw25 => rfl
  case hy25 => ((intro w hSw; (try dsimp only at hSw); obtain ⟨⟨s0, s1, s2, s3, s4, s5, s6, s7⟩, ⟨x0, x1, x2, x3, x4⟩, ⟨o0, o1, o2, o3, o4, o5, o6, o7⟩⟩ := HZ.out w hSw; rw [HOS.out] at o0 o1 o2 o3 o4; go_simp) <;> (with_reducible rfl))
  case hq25 => exact fun _ _ _ h => h
  simp only [List.set_cons_succ, List.set_cons_zero]
  refine take_at (i := 8) (d := 82) (oi := ?o26) (v := ?v26) ?hi26 ?hd26 (by kernel_rfl) (by kernel_rfl) (by kernel_rfl) ?hw26 ?hy26 ?hq26 (by assumption) ?r26
  case hi26 => (simp only [List.getElem?_toArray, List.getElem?_cons_succ, List.getElem?_cons_zero]; rfl)
  case hd26 => rfl
  case hw26 => rfl
  case hy26 => ((intro w hSw; (try dsimp only at hSw); obtain ⟨⟨s0, s1, s2, s3, s4, s5, s6, s7⟩, ⟨x0, x1, x2, x3, x4⟩, ⟨o0, o1, o2, o3, o4, o5, o6, o7⟩⟩ := HZ.out w hSw; rw [HOS.out] at o0 o1 o2 o3 o4; go_simp) <;> (with_reducible rfl))
  case hq26 => exact fun _ _ _ h => h
  simp only [List.set_cons_succ, List.set_cons_zero]
  refine take_at (i := 9) (d := 83) (oi := ?o27) (v := ?v27) ?hi27 ?hd27 (by kernel_rfl) (by kernel_rfl) (by kernel_rfl) ?hw27 ?hy27 ?hq27 (by assumption) ?r27
  case hi27 => (simp only [List.getElem?_toArray, List.getElem?_cons_succ, List.getElem?_cons_zero]; rfl)
  case hd27 => rfl
  case hw27 => rfl
  case hy27 => ((intro w hSw; (try dsimp only at hSw); obtain ⟨⟨s0, s1, s2, s3, s4, s5, s6, s7⟩, ⟨x0, x1, x2, x3, x4⟩, ⟨o0, o1, o2, o3, o4, o5, o6, o7⟩⟩ := HZ.out w hSw; rw [HOS.out] at o0 o1 o2 o3 o4; go_simp) <;> (with_reducible rfl))
  case hq27 => exact fun _ _ _ h => h
  simp only [List.set_cons_succ, List.set_cons_zero]
  refine take_at (i := 10) (d := 84) (oi := ?o28) (v := ?v28) ?hi28 ?hd28 (by kernel_rfl) (by kernel_rfl) (by kernel_rfl) ?hw28 ?hy28 ?hq28 (by assumption) ?r28
  case hi28 => (simp only [List.getElem?_toArray, List.getElem?_cons_succ, List.getElem?_cons_zero]; rfl)
  case hd28 => rfl
  case hw28 => rfl
  case hy28 => ((intro w hSw; (try dsimp only at hSw); obtain ⟨⟨s0, s1, s2, s3, s4, s5, s6, s7⟩, ⟨x0, x1, x2, x3, x4⟩, ⟨o0, o1, o2, o3, o4, o5, o6, o7⟩⟩ := HZ.out w hSw; rw [HOS.out] at o0 o1 o2 o3 o4; go_simp) <;> (with_reducible rfl))
  case hq28 => exact fun _ _ _ h => h
  simp only [List.set_cons_succ, List.set_cons_zero]
  refine take_at (i := 11) (d := 85) (oi := ?o29) (v := ?v29) ?hi29 ?hd29 (by kernel_rfl) (by kernel_rfl) (by kernel_rfl) ?hw29 ?hy29 ?hq29 (by assumption) ?r29
  case hi29 => (simp only [List.getElem?_toArray, List.getElem?_cons_succ, List.getElem?_cons_zero]; rfl)
  case hd29 => rfl
  case hw29 => rfl
  case hy29 => ((intro w hSw; (try dsimp only at hSw); obtain ⟨⟨s0, s1, s2, s3, s4, s5, s6, s7⟩, ⟨x0, x1, x2, x3, x4⟩, ⟨o0, o1, o2, o3, o4, o5, o6, o7⟩⟩ := HZ.out w hSw; rw [HOS.out] at o0 o1 o2 o3 o4; go_simp) <;> (with_reducible rfl))
  case hq29 => exact fun _ _ _ h => h
  simp only [List.set_cons_succ, List.set_cons_zero]
  refine take_at (i := 12) (d := 86) (oi := ?o30) (v := ?v30) ?hi30 ?hd30 (by kernel_rfl) (by kernel_rfl) (by kernel_rfl) ?hw30 ?hy30 ?hq30 (by assumption) ?r30
  case hi30 => (simp only [List.getElem?_toArray, List.getElem?_cons_succ, List.getElem?_cons_zero]; rfl)
  case hd30 => rfl
  case hw30 => rfl
  case hy30 => ((intro w hSw; (try dsimp only at hSw); obtain ⟨⟨s0, s1, s2, s3, s4, s5, s6, s7⟩, ⟨x0, x1, x2, x3, x4⟩, ⟨o0, o1, o2, o3, o4, o5, o6, o7⟩⟩ := HZ.out w hSw; rw [HOS.out] at o0 o1 o2 o3 o4; go_simp) <;> (with_reducible rfl))
  case hq30 => exact fun _ _ _ h => h
  simp only [List.set_cons_succ, List.set_cons_zero]
  refine take_at (i := 13) (d := 87) (oi := ?o31) (v := ?v31) ?hi31 ?hd31 (by kernel_rfl) (by kernel_rfl) (by kernel_rfl) ?hw31 ?hy31 ?hq31 (by assumption) ?r31
  case hi31 => (simp only [List.getElem?_toArray, List.getElem?_cons_succ, List.getElem?_cons_zero]; rfl)
  case hd31 => rfl
  case hw31 => rfl
  case hy31 => ((intro w hSw; (try dsimp only at hSw); obtain ⟨⟨s0, s1, s2, s3, s4, s5, s6, s7⟩, ⟨x0, x1, x2, x3, x4⟩, ⟨o0, o1, o2, o3, o4, o5, o6, o7⟩⟩ := HZ.out w hSw; rw [HOS.out] at o0 o1 o2 o3 o4; go_simp) <;> (with_reducible rfl))
  case hq31 => exact fun _ _ _ h => h
  simp only [List.set_cons_succ, List.set_cons_zero]
  refine take_at (i := 14) (d := 88) (oi := ?o32) (v := ?v32) ?hi32 ?hd32 (by kernel_rfl) (by kernel_rfl) (by kernel_rfl) ?hw32 ?hy32 ?hq32 (by assumption) ?r32
  case hi32 => (simp only [List.getElem?_toArray, List.getElem?_cons_succ, List.getElem?_cons_zero]; rfl)
  case hd32 => rfl
  case hw32 => rfl
  case hy32 => ((intro w hSw; (try dsimp only at hSw); obtain ⟨⟨s0, s1, s2, s3, s4, s5, s6, s7⟩, ⟨x0, x1, x2, x3, x4⟩, ⟨o0, o1, o2, o3, o4, o5, o6, o7⟩⟩ := HZ.out w hSw; rw [HOS.out] at o0 o1 o2 o3 o4; go_simp) <;> (with_reducible rfl))
  case hq32 => exact fun _ _ _ h => h
  simp only [List.set_cons_succ, List.set_cons_zero]
  refine call_at (i := 15) (d := 89) (oi := ?o33) (f := ?f33) (args := ?a33) ?hi33 ?hd33 (by kernel_rfl) ?hw33 ?he33 ?hc33
  case hi33 => (simp only [List.getElem?_toArray, List.getElem?_cons_succ, List.getElem?_cons_zero]; rfl)
  case hd33 => rfl
  case hw33 => rfl
  case he33 => (go_simp; constructor <;> with_reducible rfl)
  refine Calls.mono (show Calls Try.prog 36 #[.slice A3 u c3, .slice A7 u c7] w7.drew (fun e w' => e = .returned (.bool true) ∧ Below w7.drew.heap.size w7.drew w') from by have h := rents_any A3 A7 u u c3 c7 oo.lg (t.lg.drop k) w7.drew (OwnF.es own3d) (HES.out _ _ hSd) (by omega) (by omega); rw [eqE_true HG.out.1] at h; exact h) ?_
  rintro e xa ⟨rfl, bA⟩
  have kA : Below w7.heap.size w7 xa := (Below.refl _ _).drew.trans bA
  refine ⟨_, rfl, kA, fun hHeld => ?_⟩
  simp only [List.set_cons_succ, List.set_cons_zero]
  refine take_at (i := 16) (d := 90) (oi := ?o34) (v := ?v34) ?hi34 ?hd34 (by kernel_rfl) (by kernel_rfl) (by kernel_rfl) ?hw34 ?hy34 ?hq34 (by assumption) ?r34
  case hi34 => (simp only [List.getElem?_toArray, List.getElem?_cons_succ, List.getElem?_cons_zero]; rfl)
  case hd34 => rfl
  case hw34 => rfl
  case hy34 => ((intro w hSw; (try dsimp only at hSw); obtain ⟨⟨s0, s1, s2, s3, s4, s5, s6, s7⟩, ⟨x0, x1, x2, x3, x4⟩, ⟨o0, o1, o2, o3, o4, o5, o6, o7⟩⟩ := HZ.out w hSw; rw [HOS.out] at o0 o1 o2 o3 o4; go_simp) <;> (with_reducible rfl))
  case hq34 => exact fun _ _ _ h => h
  simp only [List.set_cons_succ, List.set_cons_zero]
  refine take_at (i := 17) (d := 91) (oi := ?o35) (v := ?v35) ?hi35 ?hd35 (by kernel_rfl) (by kernel_rfl) (by kernel_rfl) ?hw35 ?hy35 ?hq35 (by assumption) ?r35
  case hi35 => (simp only [List.getElem?_toArray, List.getElem?_cons_succ, List.getElem?_cons_zero]; rfl)
  case hd35 => rfl
  case hw35 => rfl
  case hy35 => ((intro w hSw; (try dsimp only at hSw); obtain ⟨⟨s0, s1, s2, s3, s4, s5, s6, s7⟩, ⟨x0, x1, x2, x3, x4⟩, ⟨o0, o1, o2, o3, o4, o5, o6, o7⟩⟩ := HZ.out w hSw; rw [HOS.out] at o0 o1 o2 o3 o4; go_simp) <;> (with_reducible rfl))
  case hq35 => exact fun _ _ _ h => h
  simp only [List.set_cons_succ, List.set_cons_zero]
  refine take_at (i := 18) (d := 92) (oi := ?o36) (v := ?v36) ?hi36 ?hd36 (by kernel_rfl) (by kernel_rfl) (by kernel_rfl) ?hw36 ?hy36 ?hq36 (by assumption) ?r36
  case hi36 => (simp only [List.getElem?_toArray, List.getElem?_cons_succ, List.getElem?_cons_zero]; rfl)
  case hd36 => rfl
  case hw36 => rfl
  case hy36 => ((intro w hSw; (try dsimp only at hSw); obtain ⟨⟨s0, s1, s2, s3, s4, s5, s6, s7⟩, ⟨x0, x1, x2, x3, x4⟩, ⟨o0, o1, o2, o3, o4, o5, o6, o7⟩⟩ := HZ.out w hSw; rw [HOS.out] at o0 o1 o2 o3 o4; go_simp) <;> (with_reducible rfl))
  case hq36 => exact fun _ _ _ h => h
  simp only [List.set_cons_succ, List.set_cons_zero]
  refine take_at (i := 19) (d := 93) (oi := ?o37) (v := ?v37) ?hi37 ?hd37 (by kernel_rfl) (by kernel_rfl) (by kernel_rfl) ?hw37 ?hy37 ?hq37 (by assumption) ?r37
  case hi37 => (simp only [List.getElem?_toArray, List.getElem?_cons_succ, List.getElem?_cons_zero]; rfl)
  case hd37 => rfl
  case hw37 => rfl
  case hy37 => ((intro w hSw; (try dsimp only at hSw); obtain ⟨⟨s0, s1, s2, s3, s4, s5, s6, s7⟩, ⟨x0, x1, x2, x3, x4⟩, ⟨o0, o1, o2, o3, o4, o5, o6, o7⟩⟩ := HZ.out w hSw; rw [HOS.out] at o0 o1 o2 o3 o4; go_simp) <;> (with_reducible rfl))
  case hq37 => exact fun _ _ _ h => h
  simp only [List.set_cons_succ, List.set_cons_zero]
  refine take_at (i := 20) (d := 94) (oi := ?o38) (v := ?v38) ?hi38 ?hd38 (by kernel_rfl) (by kernel_rfl) (by kernel_rfl) ?hw38 ?hy38 ?hq38 (by assumption) ?r38
  case hi38 => (simp only [List.getElem?_toArray, List.getElem?_cons_succ, List.getElem?_cons_zero]; rfl)
  case hd38 => rfl
  case hw38 => rfl
  case hy38 => ((intro w hSw; (try dsimp only at hSw); obtain ⟨⟨s0, s1, s2, s3, s4, s5, s6, s7⟩, ⟨x0, x1, x2, x3, x4⟩, ⟨o0, o1, o2, o3, o4, o5, o6, o7⟩⟩ := HZ.out w hSw; rw [HOS.out] at o0 o1 o2 o3 o4; go_simp) <;> (with_reducible rfl))
  case hq38 => exact fun _ _ _ h => h
  simp only [List.set_cons_succ, List.set_cons_zero]
  refine take_at (i := 21) (d := 95) (oi := ?o39) (v := ?v39) ?hi39 ?hd39 (by kernel_rfl) (by kernel_rfl) (by kernel_rfl) ?hw39 ?hy39 ?hq39 (by assumption) ?r39
  case hi39 => (simp only [List.getElem?_toArray, List.getElem?_cons_succ, List.getElem?_cons_zero]; rfl)
  case hd39 => rfl
  case hw39 => rfl
  case hy39 => ((intro w hSw; (try dsimp only at hSw); obtain ⟨⟨s0, s1, s2, s3, s4, s5, s6, s7⟩, ⟨x0, x1, x2, x3, x4⟩, ⟨o0, o1, o2, o3, o4, o5, o6, o7⟩⟩ := HZ.out w hSw; rw [HOS.out] at o0 o1 o2 o3 o4; go_simp) <;> (with_reducible rfl))
  case hq39 => exact fun _ _ _ h => h
  simp only [List.set_cons_succ, List.set_cons_zero]
  refine take_at (i := 22) (d := 96) (oi := ?o40) (v := ?v40) ?hi40 ?hd40 (by kernel_rfl) (by kernel_rfl) (by kernel_rfl) ?hw40 ?hy40 ?hq40 (by assumption) ?r40
  case hi40 => (simp only [List.getElem?_toArray, List.getElem?_cons_succ, List.getElem?_cons_zero]; rfl)
  case hd40 => rfl
  case hw40 => rfl
  case hy40 => ((intro w hSw; (try dsimp only at hSw); obtain ⟨⟨s0, s1, s2, s3, s4, s5, s6, s7⟩, ⟨x0, x1, x2, x3, x4⟩, ⟨o0, o1, o2, o3, o4, o5, o6, o7⟩⟩ := HZ.out w hSw; rw [HOS.out] at o0 o1 o2 o3 o4; go_simp) <;> (with_reducible rfl))
  case hq40 => exact fun _ _ _ h => h
  simp only [List.set_cons_succ, List.set_cons_zero]
  refine take_at (i := 23) (d := 97) (oi := ?o41) (v := ?v41) ?hi41 ?hd41 (by kernel_rfl) (by kernel_rfl) (by kernel_rfl) ?hw41 ?hy41 ?hq41 (by assumption) ?r41
  case hi41 => (simp only [List.getElem?_toArray, List.getElem?_cons_succ, List.getElem?_cons_zero]; rfl)
  case hd41 => rfl
  case hw41 => rfl
  case hy41 => ((intro w hSw; (try dsimp only at hSw); obtain ⟨⟨s0, s1, s2, s3, s4, s5, s6, s7⟩, ⟨x0, x1, x2, x3, x4⟩, ⟨o0, o1, o2, o3, o4, o5, o6, o7⟩⟩ := HZ.out w hSw; rw [HOS.out] at o0 o1 o2 o3 o4; go_simp) <;> (with_reducible rfl))
  case hq41 => exact fun _ _ _ h => h
  simp only [List.set_cons_succ, List.set_cons_zero]
  refine take_at (i := 24) (d := 98) (oi := ?o42) (v := ?v42) ?hi42 ?hd42 (by kernel_rfl) (by kernel_rfl) (by kernel_rfl) ?hw42 ?hy42 ?hq42 (by assumption) ?r42
  case hi42 => (simp only [List.getElem?_toArray, List.getElem?_cons_succ, List.getElem?_cons_zero]; rfl)
  case hd42 => rfl
  case hw42 => rfl
  case hy42 => ((intro w hSw; (try dsimp only at hSw); obtain ⟨⟨s0, s1, s2, s3, s4, s5, s6, s7⟩, ⟨x0, x1, x2, x3, x4⟩, ⟨o0, o1, o2, o3, o4, o5, o6, o7⟩⟩ := HZ.out w hSw; rw [HOS.out] at o0 o1 o2 o3 o4; go_simp) <;> (with_reducible rfl))
  case hq42 => exact fun _ _ _ h => h
  simp only [List.set_cons_succ, List.set_cons_zero]
  refine take_at (i := 25) (d := 99) (oi := ?o43) (v := ?v43) ?hi43 ?hd43 (by kernel_rfl) (by kernel_rfl) (by kernel_rfl) ?hw43 ?hy43 ?hq43 (by assumption) ?r43
  case hi43 => (simp only [List.getElem?_toArray, List.getElem?_cons_succ, List.getElem?_cons_zero]; rfl)
  case hd43 => rfl
  case hw43 => rfl
  case hy43 => ((intro w hSw; (try dsimp only at hSw); obtain ⟨⟨s0, s1, s2, s3, s4, s5, s6, s7⟩, ⟨x0, x1, x2, x3, x4⟩, ⟨o0, o1, o2, o3, o4, o5, o6, o7⟩⟩ := HZ.out w hSw; rw [HOS.out] at o0 o1 o2 o3 o4; go_simp) <;> (with_reducible rfl))
  case hq43 => exact fun _ _ _ h => h
  simp only [List.set_cons_succ, List.set_cons_zero]
  refine take_at (i := 26) (d := 100) (oi := ?o44) (v := ?v44) ?hi44 ?hd44 (by kernel_rfl) (by kernel_rfl) (by kernel_rfl) ?hw44 ?hy44 ?hq44 (by assumption) ?r44
  case hi44 => (simp only [List.getElem?_toArray, List.getElem?_cons_succ, List.getElem?_cons_zero]; rfl)
  case hd44 => rfl
  case hw44 => rfl
  case hy44 => ((intro w hSw; (try dsimp only at hSw); obtain ⟨⟨s0, s1, s2, s3, s4, s5, s6, s7⟩, ⟨x0, x1, x2, x3, x4⟩, ⟨o0, o1, o2, o3, o4, o5, o6, o7⟩⟩ := HZ.out w hSw; rw [HOS.out] at o0 o1 o2 o3 o4; go_simp) <;> (with_reducible rfl))
  case hq44 => exact fun _ _ _ h => h
  simp only [List.set_cons_succ, List.set_cons_zero]
  refine take_at (i := 27) (d := 101) (oi := ?o45) (v := ?v45) ?hi45 ?hd45 (by kernel_rfl) (by kernel_rfl) (by kernel_rfl) ?hw45 ?hy45 ?hq45 (by assumption) ?r45
  case hi45 => (simp only [List.getElem?_toArray, List.getElem?_cons_succ, List.getElem?_cons_zero]; rfl)
  case hd45 => rfl
  case hw45 => rfl
  case hy45 => ((intro w hSw; (try dsimp only at hSw); obtain ⟨⟨s0, s1, s2, s3, s4, s5, s6, s7⟩, ⟨x0, x1, x2, x3, x4⟩, ⟨o0, o1, o2, o3, o4, o5, o6, o7⟩⟩ := HZ.out w hSw; rw [HOS.out] at o0 o1 o2 o3 o4; go_simp) <;> (with_reducible rfl))
  case hq45 => exact fun _ _ _ h => h
  simp only [List.set_cons_succ, List.set_cons_zero]
  refine take_at (i := 28) (d := 102) (oi := ?o46) (v := ?v46) ?hi46 ?hd46 (by kernel_rfl) (by kernel_rfl) (by kernel_rfl) ?hw46 ?hy46 ?hq46 (by assumption) ?r46
  case hi46 => (simp only [List.getElem?_toArray, List.getElem?_cons_succ, List.getElem?_cons_zero]; rfl)
  case hd46 => rfl
  case hw46 => rfl
  case hy46 => ((intro w hSw; (try dsimp only at hSw); obtain ⟨⟨s0, s1, s2, s3, s4, s5, s6, s7⟩, ⟨x0, x1, x2, x3, x4⟩, ⟨o0, o1, o2, o3, o4, o5, o6, o7⟩⟩ := HZ.out w hSw; rw [HOS.out] at o0 o1 o2 o3 o4; go_simp) <;> (with_reducible rfl))
  case hq46 => exact fun _ _ _ h => h
  simp only [List.set_cons_succ, List.set_cons_zero]
  refine take_at (i := 29) (d := 103) (oi := ?o47) (v := ?v47) ?hi47 ?hd47 (by kernel_rfl) (by kernel_rfl) (by kernel_rfl) ?hw47 ?hy47 ?hq47 (by assumption) ?r47
  case hi47 => (simp only [List.getElem?_toArray, List.getElem?_cons_succ, List.getElem?_cons_zero]; rfl)
  case hd47 => rfl
  case hw47 => rfl
  case hy47 => ((intro w hSw; (try dsimp only at hSw); obtain ⟨⟨s0, s1, s2, s3, s4, s5, s6, s7⟩, ⟨x0, x1, x2, x3, x4⟩, ⟨o0, o1, o2, o3, o4, o5, o6, o7⟩⟩ := HZ.out w hSw; rw [HOS.out] at o0 o1 o2 o3 o4; go_simp) <;> (with_reducible rfl))
  case hq47 => exact fun _ _ _ h => h
  simp only [List.set_cons_succ, List.set_cons_zero]
  refine take_at (i := 30) (d := 104) (oi := ?o48) (v := ?v48) ?hi48 ?hd48 (by kernel_rfl) (by kernel_rfl) (by kernel_rfl) ?hw48 ?hy48 ?hq48 (by assumption) ?r48
  case hi48 => (simp only [List.getElem?_toArray, List.getElem?_cons_succ, List.getElem?_cons_zero]; rfl)
  case hd48 => rfl
  case hw48 => rfl
  case hy48 => ((intro w hSw; (try dsimp only at hSw); obtain ⟨⟨s0, s1, s2, s3, s4, s5, s6, s7⟩, ⟨x0, x1, x2, x3, x4⟩, ⟨o0, o1, o2, o3, o4, o5, o6, o7⟩⟩ := HZ.out w hSw; rw [HOS.out] at o0 o1 o2 o3 o4; go_simp) <;> (with_reducible rfl))
  case hq48 => exact fun _ _ _ h => h
  simp only [List.set_cons_succ, List.set_cons_zero]
  refine take_at (i := 31) (d := 105) (oi := ?o49) (v := ?v49) ?hi49 ?hd49 (by kernel_rfl) (by kernel_rfl) (by kernel_rfl) ?hw49 ?hy49 ?hq49 (by assumption) ?r49
  case hi49 => (simp only [List.getElem?_toArray, List.getElem?_cons_succ, List.getElem?_cons_zero]; rfl)
  case hd49 => rfl
  case hw49 => rfl
  case hy49 => ((intro w hSw; (try dsimp only at hSw); obtain ⟨⟨s0, s1, s2, s3, s4, s5, s6, s7⟩, ⟨x0, x1, x2, x3, x4⟩, ⟨o0, o1, o2, o3, o4, o5, o6, o7⟩⟩ := HZ.out w hSw; rw [HOS.out] at o0 o1 o2 o3 o4; go_simp) <;> (with_reducible rfl))
  case hq49 => exact fun _ _ _ h => h
  simp only [List.set_cons_succ, List.set_cons_zero]
  refine call_at (i := 32) (d := 106) (oi := ?o50) (f := ?f50) (args := ?a50) ?hi50 ?hd50 (by kernel_rfl) ?hw50 ?he50 ?hc50
  case hi50 => (simp only [List.getElem?_toArray, List.getElem?_cons_succ, List.getElem?_cons_zero]; rfl)
  case hd50 => rfl
  case hw50 => rfl
  case he50 => (go_simp; constructor <;> with_reducible rfl)
  refine Calls.mono (wakes12 D xa) ?_
  rintro e xb ⟨rfl, bB⟩
  have kB := below_on kA bB
  refine ⟨_, rfl, kB, fun hHeld => ?_⟩
  simp only [List.set_cons_succ, List.set_cons_zero]
  refine take_at (i := 33) (d := 107) (oi := ?o51) (v := ?v51) ?hi51 ?hd51 (by kernel_rfl) (by kernel_rfl) (by kernel_rfl) ?hw51 ?hy51 ?hq51 (by assumption) ?r51
  case hi51 => (simp only [List.getElem?_toArray, List.getElem?_cons_succ, List.getElem?_cons_zero]; rfl)
  case hd51 => rfl
  case hw51 => rfl
  case hy51 => ((intro w hSw; (try dsimp only at hSw); obtain ⟨⟨s0, s1, s2, s3, s4, s5, s6, s7⟩, ⟨x0, x1, x2, x3, x4⟩, ⟨o0, o1, o2, o3, o4, o5, o6, o7⟩⟩ := HZ.out w hSw; rw [HOS.out] at o0 o1 o2 o3 o4; go_simp) <;> (with_reducible rfl))
  case hq51 => exact fun _ _ _ h => h
  simp only [List.set_cons_succ, List.set_cons_zero]
  refine take_at (i := 34) (d := 4) (oi := ?o52) (v := ?v52) ?hi52 ?hd52 (by kernel_rfl) (by kernel_rfl) (by kernel_rfl) ?hw52 ?hy52 ?hq52 (by assumption) ?r52
  case hi52 => (simp only [List.getElem?_toArray, List.getElem?_cons_succ, List.getElem?_cons_zero]; rfl)
  case hd52 => rfl
  case hw52 => rfl
  case hy52 => ((intro w hSw; (try dsimp only at hSw); obtain ⟨⟨s0, s1, s2, s3, s4, s5, s6, s7⟩, ⟨x0, x1, x2, x3, x4⟩, ⟨o0, o1, o2, o3, o4, o5, o6, o7⟩⟩ := HZ.out w hSw; rw [HOS.out] at o0 o1 o2 o3 o4; go_simp) <;> (with_reducible rfl))
  case hq52 => exact fun _ _ _ h => h
  simp only [List.set_cons_succ, List.set_cons_zero]
  refine wpAnyH_done (by kernel_rfl) ?_ _
  clear hHeld
  go_wp2_with fail
  go_ret
  exact ⟨rfl, B7.trans (kB.mono B7.size)⟩
set_option maxRecDepth 100000 in
set_option maxHeartbeats 16000000 in
theorem instd_else (D : Dev12) (t : TupP) (s : StP) (A : Option Addr) (n c : Nat) (w : World) (hS : Es w w.heap.size A n t.lg) (hnc : n ≤ c) (hM : MayT t) (hF : FineP s) (c1 : ¬ s.ix ≤ t.sn.ix) (c2 : ¬ 1073740824 < s.ix) (c3 : ¬ t.tm < s.tm) {k : Nat} (hk : (k : Int) = s.ix - t.sn.ix) (hkl : k ≤ n) {e : EnP} (he : t.lg[k - 1]? = some e) (htm : ¬ e.tm = s.tm) :
    Calls Try.prog 7 #[tupV t (.slice A n c), s.v] w fun e w' => e = .returned (.bool true) ∧ Below w.heap.size w w' := by
  have hl := hS.len
  have hfew := hM.few
  have hn2 : n ≤ 200 := by omega
  have hix : 0 ≤ t.sn.ix ∧ t.sn.ix ≤ 1073740824 := ⟨hM.fine.1.1, hM.ix⟩
  have hsx : 0 ≤ s.ix ∧ s.ix ≤ 1073741824 := hF.1
  have hmt : Mid t.sn.ix := mid_of (by omega)
  have hms : Mid s.ix := mid_of (by omega)
  have q0 : decide (s.ix ≤ t.sn.ix) = false := decide_eq_false c1
  have q1 : decide ((1073740824 : Int) < s.ix) = false := decide_eq_false c2
  have q2 : decide (t.tm < s.tm) = false := decide_eq_false c3
  have hk1 : 1 ≤ k := by omega
  have r1 : IntKind.i64.wrap (s.ix - t.sn.ix) = (k : Int) := by rw [IntKind.wrap_i64]; omega
  have r2 : wrap64 (s.ix - t.sn.ix) = (k : Int) := by unfold wrap64; omega
  have r3 : IntKind.i64.wrap ((k : Int) - 1) = ((k - 1 : Nat) : Int) := by rw [IntKind.wrap_i64]; omega
  obtain ⟨k', hk'⟩ : ∃ k', k' = k - 1 := ⟨_, rfl⟩
  rw [← hk'] at r3
  obtain ⟨oo, hoo⟩ : ∃ o : TupP, o = { t with sn := s, lg := [] } := ⟨_, rfl⟩
  have hno := term_else hk hk1 (.inr ⟨e, he, htm⟩)
  have hin : InstallIs t s oo 0 := by rw [hoo]; exact inst_gone hM hF (by omega) hno (by omega) (by omega)
  have hu : (0 : Nat) = 0 := rfl
  have hol : oo.lg.length = 0 := by rw [hoo]; rfl
  have hla : lastT oo = s.ix := by unfold lastT; rw [hol, hoo]; simp
  clear hno
  have q6 : decide ((k : Int) ≤ (n : Int)) = true := decide_eq_true (by omega)
  have q7 : (e.tm == s.tm) = false := by simpa using htm
  have hkn : k' < n := by omega
  have he' : t.lg[k']? = some e := by rw [hk']; exact he
  have e1 : (oo.tm == t.tm) = true := by rw [hoo]; simp
  have e2 : (oo.vt == t.vt) = true := by rw [hoo]; simp
  have hos : oo.sn = s := by rw [hoo]
  have HOS := Lib.hid hos
  have HI := Lib.hid hin
  have HD := Lib.hid (⟨hmt, hms⟩ : _ ∧ _)
  have HM := Lib.hid hM
  have HF := Lib.hid (fineB_iff.2 hF)
  have HL := Lib.hid (⟨hl, hol, hu, hk'⟩ : _ ∧ _ ∧ _ ∧ _)
  have HLA := Lib.hid hla
  clear hla
  have HG := Lib.hid (⟨rfl, he'⟩ : (0 = 0) ∧ _)
  clear he'
  clear hmt hms hM hF hl hix hsx hfew c1 c2 c3 hos hin hol hu hoo hk' hk hk1 he htm
  skip
  obtain ⟨z1, hz1⟩ : ∃ z, z = w.heap.size := ⟨_, rfl⟩
  obtain ⟨w1, hw1⟩ : ∃ x, x = w.alloc (.cells #[.int .i64 t.sn.ix, .int .i64 t.sn.tm, .int .i64 t.sn.sm, .int .i64 t.sn.lv, .bool t.sn.fn, .slice A n c, .int .i64 t.tm, .int .i64 t.vt] 26) := ⟨_, rfl⟩
  have bb : Below w.heap.size w w1 := by rw [hw1]; exact below_al (below_d0 _) _
  have bz : BoxU w1 z1 t (.slice A n c) := by rw [hw1, hz1]; exact BoxU.new w t _
  replace hS := hS.on bb bb.size
  have B1 := bb
  clear bb
  obtain ⟨z2, hz2⟩ : ∃ z, z = w1.heap.size := ⟨_, rfl⟩
  obtain ⟨w2, hw2⟩ : ∃ x, x = w1.alloc (.cells #[.int .i64 s.ix, .int .i64 s.tm, .int .i64 s.sm, .int .i64 s.lv, .bool s.fn] 23) := ⟨_, rfl⟩
  have bb : Below w1.heap.size w1 w2 := by rw [hw2]; exact below_al (below_d0 _) _
  have bs : BoxS w2 z2 s := by rw [hw2, hz2]; exact BoxS.new w1 s
  replace bz := bz.below bb
  replace hS := hS.on bb bb.size
  have B2 := B1.trans (bb.mono B1.size)
  clear bb B1
  have hzz : z1 + 1 = z2 := by rw [hz2, hw1, hz1]; simp
  have HE := Lib.hid (⟨hw1, hw2, hz1, hzz⟩ : _ ∧ _ ∧ _ ∧ _)
  clear hw1 hz1 hw2 hz2 hzz
  unfold tupV StP.v
  go_enter Try.func7, Try.ntmps7
  go_wp2_with fail
  rw [← HE.out.1, ← HE.out.2.1, ← HE.out.2.2.1]
  (try rw [HE.out.2.2.2])
  clear HE
  refine Calls.mono (show Calls Try.prog 28 #[.agg #[.int .i64 t.sn.ix, .int .i64 t.sn.tm, .int .i64 t.sn.sm, .int .i64 t.sn.lv, .bool t.sn.fn, .slice A n c, .int .i64 t.tm, .int .i64 t.vt]] w2 (fun e w' => (∃ b, MayIs t b ∧ e = .returned (.bool b)) ∧ Below w2.heap.size w2 w') from rrightT_any t A n c w2 hS) ?_
  intro e w3 hh
  obtain ⟨⟨b, hb, rfl⟩, bb⟩ := hh
  (try clear hh)
  replace bz := bz.below bb
  replace bs := bs.below bb
  replace hS := hS.on bb bb.size
  have B3 := B2.trans (bb.mono B2.size)
  clear bb B2
  obtain rfl := hb.same (mayYes HM.out)
  clear hb
  obtain ⟨k0, k1, k2, k3, k4, k5, k6, k7⟩ := bz.cells
  obtain ⟨i0, i1, i2, i3, i4⟩ := bs.cells
  go_wp2_with fail
  clear k0 k1 k2 k3 k4 k5 k6 k7
  clear i0 i1 i2 i3 i4
  refine Calls.mono (show Calls Try.prog 37 #[.agg #[.int .i64 s.ix, .int .i64 s.tm, .int .i64 s.sm, .int .i64 s.lv, .bool s.fn]] w3 (fun r w' => r = .returned (.bool (fineB s)) ∧ Below w3.heap.size w3 w') from rfine_any s w3) ?_
  intro e w4 hh
  obtain ⟨rfl, bb⟩ := hh
  (try clear hh)
  replace bz := bz.below bb
  replace bs := bs.below bb
  replace hS := hS.on bb bb.size
  have B4 := B3.trans (bb.mono B3.size)
  clear bb B3
  rw [HF.out]
  obtain ⟨k0, k1, k2, k3, k4, k5, k6, k7⟩ := bz.cells
  obtain ⟨i0, i1, i2, i3, i4⟩ := bs.cells
  go_wp2_with fail
  clear k0 k1 k2 k3 k4 k5 k6 k7
  clear i0 i1 i2 i3 i4
  refine Calls.mono (show Calls Try.prog 17 #[.agg #[.int .i64 t.sn.ix, .int .i64 t.sn.tm, .int .i64 t.sn.sm, .int .i64 t.sn.lv, .bool t.sn.fn, .slice A n c, .int .i64 t.tm, .int .i64 t.vt], .agg #[.int .i64 s.ix, .int .i64 s.tm, .int .i64 s.sm, .int .i64 s.lv, .bool s.fn]] w4 (OutF (InstallIs t s) w4.heap.size w4) from D.install t A n c s w4 hS (by omega) hnc HD.out.1 (Mid.i64 HD.out.2)) ?_
  intro e w5 hh
  obtain ⟨A3, c3, rfl, hc3, own3, bb⟩ := OutF.is (x := 0) (n := 0) hh (fun h => InstallIs.same h HI.out) HL.out.2.1
  (try clear hh)
  replace bz := bz.below bb
  replace bs := bs.below bb
  replace hS := hS.on bb bb.size
  have B5 := B4.trans (bb.mono B4.size)
  clear bb B4
  unfold tupV
  rw [HOS.out]
  obtain ⟨z6, hz6⟩ : ∃ z, z = w5.heap.size := ⟨_, rfl⟩
  obtain ⟨w6, hw6⟩ : ∃ x, x = w5.alloc (.cells #[.int .i64 s.ix, .int .i64 s.tm, .int .i64 s.sm, .int .i64 s.lv, .bool s.fn, .slice A3 0 c3, .int .i64 oo.tm, .int .i64 oo.vt] 26) := ⟨_, rfl⟩
  have bb : Below w5.heap.size w5 w6 := by rw [hw6]; exact below_al (below_d0 _) _
  have bo : BoxU w6 z6 oo (.slice A3 0 c3) := by rw [hw6, hz6]; have h := BoxU.new w5 oo (.slice A3 0 c3); rw [HOS.out] at h; exact h
  replace own3 := keepF own3 bb
  replace bz := bz.below bb
  replace bs := bs.below bb
  replace hS := hS.on bb bb.size
  have B6 := B5.trans (bb.mono B5.size)
  clear bb B5
  have HE6 := Lib.hid (⟨hw6, hz6⟩ : _ ∧ _)
  clear hw6 hz6
  go_upto_region 4 with fail
  rw [← HE6.out.1, ← HE6.out.2]
  clear HE6
  obtain ⟨k0, k1, k2, k3, k4, k5, k6, k7⟩ := bz.cells
  obtain ⟨i0, i1, i2, i3, i4⟩ := bs.cells
  go_upto_region 7 with fail
  clear k0 k1 k2 k3 k4 k5 k6 k7
  clear i0 i1 i2 i3 i4
  clear q0 q1 q2 r1 r2
  obtain ⟨b, off, d, hA, hb, hd, d0, d1, d2⟩ := hS.at_ hkn
  obtain rfl : e = d := Option.some.inj (HG.out.2.symm.trans hd)
  have hki : (0 : Int) ≤ (k' : Int) ∧ (k' : Int) < (n : Int) := by omega
  clear d1 d2 hd
  have HZ := Lib.hid (fun (Y : World) (hY : Below w6.heap.size w6 Y) => (⟨(bz.below hY).cells, (bs.below hY).cells, (bo.below hY).cells⟩ : _ ∧ _ ∧ _))
  have HD0 := Lib.hid (fun (Y : World) (hY : Below w6.heap.size w6 Y) => (hY.cell (p := ⟨b, off + k' * 3, none⟩) hb).trans d0)
  clear d0 hb
  subst hA
  refine wp_region_held_drew (S := (fun Y => Below w6.heap.size w6 Y)) (by kernel_rfl) ((Below.refl _ _).drew) (fun hHeld => ?_)
  refine take_at (i := 0) (d := 57) (oi := ?o53) (v := ?v53) ?hi53 ?hd53 (by kernel_rfl) (by kernel_rfl) (by kernel_rfl) ?hw53 ?hy53 ?hq53 (by assumption) ?r53
  case hi53 => (simp only [List.getElem?_toArray, List.getElem?_cons_zero]; rfl)
  case hd53 => rfl
  case hw53 => rfl
  case hy53 => ((intro w hSw; (try dsimp only at hSw); obtain ⟨⟨s0, s1, s2, s3, s4, s5, s6, s7⟩, ⟨x0, x1, x2, x3, x4⟩, ⟨o0, o1, o2, o3, o4, o5, o6, o7⟩⟩ := HZ.out w hSw; rw [HOS.out] at o0 o1 o2 o3 o4; have d0 := HD0.out w hSw; go_simp) <;> (with_reducible rfl))
  case hq53 => exact fun _ _ _ h => h
  simp only [List.set_cons_succ, List.set_cons_zero]
  refine take_at (i := 1) (d := 58) (oi := ?o54) (v := ?v54) ?hi54 ?hd54 (by kernel_rfl) (by kernel_rfl) (by kernel_rfl) ?hw54 ?hy54 ?hq54 (by assumption) ?r54
  case hi54 => (simp only [List.getElem?_toArray, List.getElem?_cons_succ, List.getElem?_cons_zero]; rfl)
  case hd54 => rfl
  case hw54 => rfl
  case hy54 => ((intro w hSw; (try dsimp only at hSw); obtain ⟨⟨s0, s1, s2, s3, s4, s5, s6, s7⟩, ⟨x0, x1, x2, x3, x4⟩, ⟨o0, o1, o2, o3, o4, o5, o6, o7⟩⟩ := HZ.out w hSw; rw [HOS.out] at o0 o1 o2 o3 o4; have d0 := HD0.out w hSw; go_simp) <;> (with_reducible rfl))
  case hq54 => exact fun _ _ _ h => h
  simp only [List.set_cons_succ, List.set_cons_zero]
  refine take_at (i := 2) (d := 59) (oi := ?o55) (v := ?v55) ?hi55 ?hd55 (by kernel_rfl) (by kernel_rfl) (by kernel_rfl) ?hw55 ?hy55 ?hq55 (by assumption) ?r55
  case hi55 => (simp only [List.getElem?_toArray, List.getElem?_cons_succ, List.getElem?_cons_zero]; rfl)
  case hd55 => rfl
  case hw55 => rfl
  case hy55 => ((intro w hSw; (try dsimp only at hSw); obtain ⟨⟨s0, s1, s2, s3, s4, s5, s6, s7⟩, ⟨x0, x1, x2, x3, x4⟩, ⟨o0, o1, o2, o3, o4, o5, o6, o7⟩⟩ := HZ.out w hSw; rw [HOS.out] at o0 o1 o2 o3 o4; have d0 := HD0.out w hSw; go_simp) <;> (with_reducible rfl))
  case hq55 => exact fun _ _ _ h => h
  simp only [List.set_cons_succ, List.set_cons_zero]
  refine take_at (i := 3) (d := 60) (oi := ?o56) (v := ?v56) ?hi56 ?hd56 (by kernel_rfl) (by kernel_rfl) (by kernel_rfl) ?hw56 ?hy56 ?hq56 (by assumption) ?r56
  case hi56 => (simp only [List.getElem?_toArray, List.getElem?_cons_succ, List.getElem?_cons_zero]; rfl)
  case hd56 => rfl
  case hw56 => rfl
  case hy56 => ((intro w hSw; (try dsimp only at hSw); obtain ⟨⟨s0, s1, s2, s3, s4, s5, s6, s7⟩, ⟨x0, x1, x2, x3, x4⟩, ⟨o0, o1, o2, o3, o4, o5, o6, o7⟩⟩ := HZ.out w hSw; rw [HOS.out] at o0 o1 o2 o3 o4; have d0 := HD0.out w hSw; go_simp) <;> (with_reducible rfl))
  case hq56 => exact fun _ _ _ h => h
  simp only [List.set_cons_succ, List.set_cons_zero]
  refine take_at (i := 4) (d := 61) (oi := ?o57) (v := ?v57) ?hi57 ?hd57 (by kernel_rfl) (by kernel_rfl) (by kernel_rfl) ?hw57 ?hy57 ?hq57 (by assumption) ?r57
  case hi57 => (simp only [List.getElem?_toArray, List.getElem?_cons_succ, List.getElem?_cons_zero]; rfl)
  case hd57 => rfl
  case hw57 => rfl
  case hy57 => ((intro w hSw; (try dsimp only at hSw); obtain ⟨⟨s0, s1, s2, s3, s4, s5, s6, s7⟩, ⟨x0, x1, x2, x3, x4⟩, ⟨o0, o1, o2, o3, o4, o5, o6, o7⟩⟩ := HZ.out w hSw; rw [HOS.out] at o0 o1 o2 o3 o4; have d0 := HD0.out w hSw; go_simp) <;> (with_reducible rfl))
  case hq57 => exact fun _ _ _ h => h
  simp only [List.set_cons_succ, List.set_cons_zero]
  refine take_at (i := 5) (d := 62) (oi := ?o58) (v := ?v58) ?hi58 ?hd58 (by kernel_rfl) (by kernel_rfl) (by kernel_rfl) ?hw58 ?hy58 ?hq58 (by assumption) ?r58
  case hi58 => (simp only [List.getElem?_toArray, List.getElem?_cons_succ, List.getElem?_cons_zero]; rfl)
  case hd58 => rfl
  case hw58 => rfl
  case hy58 => ((intro w hSw; (try dsimp only at hSw); obtain ⟨⟨s0, s1, s2, s3, s4, s5, s6, s7⟩, ⟨x0, x1, x2, x3, x4⟩, ⟨o0, o1, o2, o3, o4, o5, o6, o7⟩⟩ := HZ.out w hSw; rw [HOS.out] at o0 o1 o2 o3 o4; have d0 := HD0.out w hSw; go_simp) <;> (with_reducible rfl))
  case hq58 => exact fun _ _ _ h => h
  simp only [List.set_cons_succ, List.set_cons_zero]
  refine take_at (i := 6) (d := 63) (oi := ?o59) (v := ?v59) ?hi59 ?hd59 (by kernel_rfl) (by kernel_rfl) (by kernel_rfl) ?hw59 ?hy59 ?hq59 (by assumption) ?r59
  case hi59 => (simp only [List.getElem?_toArray, List.getElem?_cons_succ, List.getElem?_cons_zero]; rfl)
  case hd59 => rfl
  case hw59 => rfl
  case hy59 => ((intro w hSw; (try dsimp only at hSw); obtain ⟨⟨s0, s1, s2, s3, s4, s5, s6, s7⟩, ⟨x0, x1, x2, x3, x4⟩, ⟨o0, o1, o2, o3, o4, o5, o6, o7⟩⟩ := HZ.out w hSw; rw [HOS.out] at o0 o1 o2 o3 o4; have d0 := HD0.out w hSw; go_simp) <;> (with_reducible rfl))
  case hq59 => exact fun _ _ _ h => h
  simp only [List.set_cons_succ, List.set_cons_zero]
  refine take_at (i := 7) (d := 64) (oi := ?o60) (v := ?v60) ?hi60 ?hd60 (by kernel_rfl) (by kernel_rfl) (by kernel_rfl) ?hw60 ?hy60 ?hq60 (by assumption) ?r60
  case hi60 => (simp only [List.getElem?_toArray, List.getElem?_cons_succ, List.getElem?_cons_zero]; rfl)
  case hd60 => rfl
  case hw60 => rfl
  case hy60 => ((intro w hSw; (try dsimp only at hSw); obtain ⟨⟨s0, s1, s2, s3, s4, s5, s6, s7⟩, ⟨x0, x1, x2, x3, x4⟩, ⟨o0, o1, o2, o3, o4, o5, o6, o7⟩⟩ := HZ.out w hSw; rw [HOS.out] at o0 o1 o2 o3 o4; have d0 := HD0.out w hSw; go_simp) <;> (with_reducible rfl))
  case hq60 => exact fun _ _ _ h => h
  simp only [List.set_cons_succ, List.set_cons_zero]
  refine take_at (i := 8) (d := 65) (oi := ?o61) (v := ?v61) ?hi61 ?hd61 (by kernel_rfl) (by kernel_rfl) (by kernel_rfl) ?hw61 ?hy61 ?hq61 (by assumption) ?r61
  case hi61 => (simp only [List.getElem?_toArray, List.getElem?_cons_succ, List.getElem?_cons_zero]; rfl)
  case hd61 => rfl
  case hw61 => rfl
  case hy61 => ((intro w hSw; (try dsimp only at hSw); obtain ⟨⟨s0, s1, s2, s3, s4, s5, s6, s7⟩, ⟨x0, x1, x2, x3, x4⟩, ⟨o0, o1, o2, o3, o4, o5, o6, o7⟩⟩ := HZ.out w hSw; rw [HOS.out] at o0 o1 o2 o3 o4; have d0 := HD0.out w hSw; go_simp) <;> (with_reducible rfl))
  case hq61 => exact fun _ _ _ h => h
  simp only [List.set_cons_succ, List.set_cons_zero]
  refine take_at (i := 9) (d := 66) (oi := ?o62) (v := ?v62) ?hi62 ?hd62 (by kernel_rfl) (by kernel_rfl) (by kernel_rfl) ?hw62 ?hy62 ?hq62 (by assumption) ?r62
  case hi62 => (simp only [List.getElem?_toArray, List.getElem?_cons_succ, List.getElem?_cons_zero]; rfl)
  case hd62 => rfl
  case hw62 => rfl
  case hy62 => ((intro w hSw; (try dsimp only at hSw); obtain ⟨⟨s0, s1, s2, s3, s4, s5, s6, s7⟩, ⟨x0, x1, x2, x3, x4⟩, ⟨o0, o1, o2, o3, o4, o5, o6, o7⟩⟩ := HZ.out w hSw; rw [HOS.out] at o0 o1 o2 o3 o4; have d0 := HD0.out w hSw; go_simp) <;> (with_reducible rfl))
  case hq62 => exact fun _ _ _ h => h
  simp only [List.set_cons_succ, List.set_cons_zero]
  refine take_at (i := 10) (d := 67) (oi := ?o63) (v := ?v63) ?hi63 ?hd63 (by kernel_rfl) (by kernel_rfl) (by kernel_rfl) ?hw63 ?hy63 ?hq63 (by assumption) ?r63
  case hi63 => (simp only [List.getElem?_toArray, List.getElem?_cons_succ, List.getElem?_cons_zero]; rfl)
  case hd63 => rfl
  case hw63 => rfl
  case hy63 => ((intro w hSw; (try dsimp only at hSw); obtain ⟨⟨s0, s1, s2, s3, s4, s5, s6, s7⟩, ⟨x0, x1, x2, x3, x4⟩, ⟨o0, o1, o2, o3, o4, o5, o6, o7⟩⟩ := HZ.out w hSw; rw [HOS.out] at o0 o1 o2 o3 o4; have d0 := HD0.out w hSw; go_simp) <;> (with_reducible rfl))
  case hq63 => exact fun _ _ _ h => h
  simp only [List.set_cons_succ, List.set_cons_zero]
  refine take_at (i := 11) (d := 68) (oi := ?o64) (v := ?v64) ?hi64 ?hd64 (by kernel_rfl) (by kernel_rfl) (by kernel_rfl) ?hw64 ?hy64 ?hq64 (by assumption) ?r64
  case hi64 => (simp only [List.getElem?_toArray, List.getElem?_cons_succ, List.getElem?_cons_zero]; rfl)
  case hd64 => rfl
  case hw64 => rfl
  case hy64 => ((intro w hSw; (try dsimp only at hSw); obtain ⟨⟨s0, s1, s2, s3, s4, s5, s6, s7⟩, ⟨x0, x1, x2, x3, x4⟩, ⟨o0, o1, o2, o3, o4, o5, o6, o7⟩⟩ := HZ.out w hSw; rw [HOS.out] at o0 o1 o2 o3 o4; have d0 := HD0.out w hSw; go_simp) <;> (with_reducible rfl))
  case hq64 => exact fun _ _ _ h => h
  simp only [List.set_cons_succ, List.set_cons_zero]
  refine take_at (i := 12) (d := 69) (oi := ?o65) (v := ?v65) ?hi65 ?hd65 (by kernel_rfl) (by kernel_rfl) (by kernel_rfl) ?hw65 ?hy65 ?hq65 (by assumption) ?r65
  case hi65 => (simp only [List.getElem?_toArray, List.getElem?_cons_succ, List.getElem?_cons_zero]; rfl)
  case hd65 => rfl
  case hw65 => rfl
  case hy65 => ((intro w hSw; (try dsimp only at hSw); obtain ⟨⟨s0, s1, s2, s3, s4, s5, s6, s7⟩, ⟨x0, x1, x2, x3, x4⟩, ⟨o0, o1, o2, o3, o4, o5, o6, o7⟩⟩ := HZ.out w hSw; rw [HOS.out] at o0 o1 o2 o3 o4; have d0 := HD0.out w hSw; go_simp) <;> (with_reducible rfl))
  case hq65 => exact fun _ _ _ h => h
  simp only [List.set_cons_succ, List.set_cons_zero]
  refine take_at (i := 13) (d := 70) (oi := ?o66) (v := ?v66) ?hi66 ?hd66 (by kernel_rfl) (by kernel_rfl) (by kernel_rfl) ?hw66 ?hy66 ?hq66 (by assumption) ?r66
  case hi66 => (simp only [List.getElem?_toArray, List.getElem?_cons_succ, List.getElem?_cons_zero]; rfl)
  case hd66 => rfl
  case hw66 => rfl
  case hy66 => ((intro w hSw; (try dsimp only at hSw); obtain ⟨⟨s0, s1, s2, s3, s4, s5, s6, s7⟩, ⟨x0, x1, x2, x3, x4⟩, ⟨o0, o1, o2, o3, o4, o5, o6, o7⟩⟩ := HZ.out w hSw; rw [HOS.out] at o0 o1 o2 o3 o4; have d0 := HD0.out w hSw; go_simp) <;> (with_reducible rfl))
  case hq66 => exact fun _ _ _ h => h
  simp only [List.set_cons_succ, List.set_cons_zero]
  refine take_at (i := 14) (d := 71) (oi := ?o67) (v := ?v67) ?hi67 ?hd67 (by kernel_rfl) (by kernel_rfl) (by kernel_rfl) ?hw67 ?hy67 ?hq67 (by assumption) ?r67
  case hi67 => (simp only [List.getElem?_toArray, List.getElem?_cons_succ, List.getElem?_cons_zero]; rfl)
  case hd67 => rfl
  case hw67 => rfl
  case hy67 => ((intro w hSw; (try dsimp only at hSw); obtain ⟨⟨s0, s1, s2, s3, s4, s5, s6, s7⟩, ⟨x0, x1, x2, x3, x4⟩, ⟨o0, o1, o2, o3, o4, o5, o6, o7⟩⟩ := HZ.out w hSw; rw [HOS.out] at o0 o1 o2 o3 o4; have d0 := HD0.out w hSw; go_simp) <;> (with_reducible rfl))
  case hq67 => exact fun _ _ _ h => h
  simp only [List.set_cons_succ, List.set_cons_zero]
  refine take_at (i := 15) (d := 72) (oi := ?o68) (v := ?v68) ?hi68 ?hd68 (by kernel_rfl) (by kernel_rfl) (by kernel_rfl) ?hw68 ?hy68 ?hq68 (by assumption) ?r68
  case hi68 => (simp only [List.getElem?_toArray, List.getElem?_cons_succ, List.getElem?_cons_zero]; rfl)
  case hd68 => rfl
  case hw68 => rfl
  case hy68 => ((intro w hSw; (try dsimp only at hSw); obtain ⟨⟨s0, s1, s2, s3, s4, s5, s6, s7⟩, ⟨x0, x1, x2, x3, x4⟩, ⟨o0, o1, o2, o3, o4, o5, o6, o7⟩⟩ := HZ.out w hSw; rw [HOS.out] at o0 o1 o2 o3 o4; have d0 := HD0.out w hSw; go_simp) <;> (with_reducible rfl))
  case hq68 => exact fun _ _ _ h => h
  simp only [List.set_cons_succ, List.set_cons_zero]
  refine take_at (i := 16) (d := 73) (oi := ?o69) (v := ?v69) ?hi69 ?hd69 (by kernel_rfl) (by kernel_rfl) (by kernel_rfl) ?hw69 ?hy69 ?hq69 (by assumption) ?r69
  case hi69 => (simp only [List.getElem?_toArray, List.getElem?_cons_succ, List.getElem?_cons_zero]; rfl)
  case hd69 => rfl
  case hw69 => rfl
  case hy69 => ((intro w hSw; (try dsimp only at hSw); obtain ⟨⟨s0, s1, s2, s3, s4, s5, s6, s7⟩, ⟨x0, x1, x2, x3, x4⟩, ⟨o0, o1, o2, o3, o4, o5, o6, o7⟩⟩ := HZ.out w hSw; rw [HOS.out] at o0 o1 o2 o3 o4; have d0 := HD0.out w hSw; go_simp) <;> (with_reducible rfl))
  case hq69 => exact fun _ _ _ h => h
  simp only [List.set_cons_succ, List.set_cons_zero]
  refine wpAnyH_done (by kernel_rfl) ?_ _
  clear hHeld HZ
  obtain ⟨w7, hw7⟩ : ∃ x, x = w6.drew := ⟨_, rfl⟩
  have bb : Below w6.heap.size w6 w7 := by rw [hw7]; exact (Below.refl _ _).drew
  rw [← hw7]
  clear hw7 HD0 hki
  replace own3 := keepF own3 bb
  replace bz := bz.below bb
  replace bs := bs.below bb
  replace bo := bo.below bb
  replace hS := hS.on bb bb.size
  have B7 := B6.trans (bb.mono B6.size)
  clear bb B6
  go_wp2_with fail
  have qst : ∀ W : World, (binOp .eql 23 (.agg #[.int .i64 s.ix, .int .i64 s.tm, .int .i64 s.sm, .int .i64 s.lv, .bool s.fn]) (.agg #[.int .i64 s.ix, .int .i64 s.tm, .int .i64 s.sm, .int .i64 s.lv, .bool s.fn])).run Try.prog W = .ok (.bool true) W := fun W => by have h := eql_st s s W; rw [decide_eq_true rfl] at h; exact h
  have HZ := Lib.hid (fun (Y : World) (hY : Below w7.heap.size w7 Y) => (⟨(bz.below hY).cells, (bs.below hY).cells, (bo.below hY).cells⟩ : _ ∧ _ ∧ _))
  have own3d := keepF own3 (Below.refl w7.heap.size w7).drew
  have hSd := hS.on (Below.refl w7.heap.size w7).drew (Below.refl w7.heap.size w7).drew.size
  refine wp_region_held_drew (S := (fun Y => Below w7.heap.size w7 Y)) (by kernel_rfl) ((Below.refl _ _).drew) (fun hHeld => ?_)
  refine take_at (i := 0) (d := 108) (oi := ?o70) (v := ?v70) ?hi70 ?hd70 (by kernel_rfl) (by kernel_rfl) (by kernel_rfl) ?hw70 ?hy70 ?hq70 (by assumption) ?r70
  case hi70 => (simp only [List.getElem?_toArray, List.getElem?_cons_zero]; rfl)
  case hd70 => rfl
  case hw70 => rfl
  case hy70 => ((intro w hSw; (try dsimp only at hSw); obtain ⟨⟨s0, s1, s2, s3, s4, s5, s6, s7⟩, ⟨x0, x1, x2, x3, x4⟩, ⟨o0, o1, o2, o3, o4, o5, o6, o7⟩⟩ := HZ.out w hSw; rw [HOS.out] at o0 o1 o2 o3 o4; go_simp) <;> (with_reducible rfl))
  case hq70 => exact fun _ _ _ h => h
  simp only [List.set_cons_succ, List.set_cons_zero]
  refine take_at (i := 1) (d := 109) (oi := ?o71) (v := ?v71) ?hi71 ?hd71 (by kernel_rfl) (by kernel_rfl) (by kernel_rfl) ?hw71 ?hy71 ?hq71 (by assumption) ?r71
  case hi71 => (simp only [List.getElem?_toArray, List.getElem?_cons_succ, List.getElem?_cons_zero]; rfl)
  case hd71 => rfl
  case hw71 => rfl
  case hy71 => ((intro w hSw; (try dsimp only at hSw); obtain ⟨⟨s0, s1, s2, s3, s4, s5, s6, s7⟩, ⟨x0, x1, x2, x3, x4⟩, ⟨o0, o1, o2, o3, o4, o5, o6, o7⟩⟩ := HZ.out w hSw; rw [HOS.out] at o0 o1 o2 o3 o4; go_simp) <;> (with_reducible rfl))
  case hq71 => exact fun _ _ _ h => h
  simp only [List.set_cons_succ, List.set_cons_zero]
  refine take_at (i := 2) (d := 110) (oi := ?o72) (v := ?v72) ?hi72 ?hd72 (by kernel_rfl) (by kernel_rfl) (by kernel_rfl) ?hw72 ?hy72 ?hq72 (by assumption) ?r72
  case hi72 => (simp only [List.getElem?_toArray, List.getElem?_cons_succ, List.getElem?_cons_zero]; rfl)
  case hd72 => rfl
  case hw72 => rfl
  case hy72 => ((intro w hSw; (try dsimp only at hSw); obtain ⟨⟨s0, s1, s2, s3, s4, s5, s6, s7⟩, ⟨x0, x1, x2, x3, x4⟩, ⟨o0, o1, o2, o3, o4, o5, o6, o7⟩⟩ := HZ.out w hSw; rw [HOS.out] at o0 o1 o2 o3 o4; go_simp) <;> (with_reducible rfl))
  case hq72 => exact fun _ _ _ h => h
  simp only [List.set_cons_succ, List.set_cons_zero]
  refine take_at (i := 3) (d := 111) (oi := ?o73) (v := ?v73) ?hi73 ?hd73 (by kernel_rfl) (by kernel_rfl) (by kernel_rfl) ?hw73 ?hy73 ?hq73 (by assumption) ?r73
  case hi73 => (simp only [List.getElem?_toArray, List.getElem?_cons_succ, List.getElem?_cons_zero]; rfl)
  case hd73 => rfl
  case hw73 => rfl
  case hy73 => ((intro w hSw; (try dsimp only at hSw); obtain ⟨⟨s0, s1, s2, s3, s4, s5, s6, s7⟩, ⟨x0, x1, x2, x3, x4⟩, ⟨o0, o1, o2, o3, o4, o5, o6, o7⟩⟩ := HZ.out w hSw; rw [HOS.out] at o0 o1 o2 o3 o4; go_simp) <;> (with_reducible rfl))
  case hq73 => exact fun _ _ _ h => h
  simp only [List.set_cons_succ, List.set_cons_zero]
  refine take_at (i := 4) (d := 112) (oi := ?o74) (v := ?v74) ?hi74 ?hd74 (by kernel_rfl) (by kernel_rfl) (by kernel_rfl) ?hw74 ?hy74 ?hq74 (by assumption) ?r74
  case hi74 => (simp only [List.getElem?_toArray, List.getElem?_cons_succ, List.getElem?_cons_zero]; rfl)
  case hd74 => rfl
  case hw74 => rfl
  case hy74 => ((intro w hSw; (try dsimp only at hSw); obtain ⟨⟨s0, s1, s2, s3, s4, s5, s6, s7⟩, ⟨x0, x1, x2, x3, x4⟩, ⟨o0, o1, o2, o3, o4, o5, o6, o7⟩⟩ := HZ.out w hSw; rw [HOS.out] at o0 o1 o2 o3 o4; go_simp) <;> (with_reducible rfl))
  case hq74 => exact fun _ _ _ h => h
  simp only [List.set_cons_succ, List.set_cons_zero]
  refine take_at (i := 5) (d := 113) (oi := ?o75) (v := ?v75) ?hi75 ?hd75 (by kernel_rfl) (by kernel_rfl) (by kernel_rfl) ?hw75 ?hy75 ?hq75 (by assumption) ?r75
  case hi75 => (simp only [List.getElem?_toArray, List.getElem?_cons_succ, List.getElem?_cons_zero]; rfl)
  case hd75 => rfl
  case hw75 => rfl
  case hy75 => ((intro w hSw; (try dsimp only at hSw); obtain ⟨⟨s0, s1, s2, s3, s4, s5, s6, s7⟩, ⟨x0, x1, x2, x3, x4⟩, ⟨o0, o1, o2, o3, o4, o5, o6, o7⟩⟩ := HZ.out w hSw; rw [HOS.out] at o0 o1 o2 o3 o4; go_simp) <;> (with_reducible rfl))
  case hq75 => exact fun _ _ _ h => h
  simp only [List.set_cons_succ, List.set_cons_zero]
  refine take_at (i := 6) (d := 114) (oi := ?o76) (v := ?v76) ?hi76 ?hd76 (by kernel_rfl) (by kernel_rfl) (by kernel_rfl) ?hw76 ?hy76 ?hq76 (by assumption) ?r76
  case hi76 => (simp only [List.getElem?_toArray, List.getElem?_cons_succ, List.getElem?_cons_zero]; rfl)
  case hd76 => rfl
  case hw76 => rfl
  case hy76 => ((intro w hSw; (try dsimp only at hSw); obtain ⟨⟨s0, s1, s2, s3, s4, s5, s6, s7⟩, ⟨x0, x1, x2, x3, x4⟩, ⟨o0, o1, o2, o3, o4, o5, o6, o7⟩⟩ := HZ.out w hSw; rw [HOS.out] at o0 o1 o2 o3 o4; go_simp) <;> (with_reducible rfl))
  case hq76 => exact fun _ _ _ h => h
  simp only [List.set_cons_succ, List.set_cons_zero]
  refine take_at (i := 7) (d := 115) (oi := ?o77) (v := ?v77) ?hi77 ?hd77 (by kernel_rfl) (by kernel_rfl) (by kernel_rfl) ?hw77 ?hy77 ?hq77 (by assumption) ?r77
  case hi77 => (simp only [List.getElem?_toArray, List.getElem?_cons_succ, List.getElem?_cons_zero]; rfl)
  case hd77 => rfl
  case hw77 => rfl
  case hy77 => ((intro w hSw; (try dsimp only at hSw); obtain ⟨⟨s0, s1, s2, s3, s4, s5, s6, s7⟩, ⟨x0, x1, x2, x3, x4⟩, ⟨o0, o1, o2, o3, o4, o5, o6, o7⟩⟩ := HZ.out w hSw; rw [HOS.out] at o0 o1 o2 o3 o4; go_simp) <;> (with_reducible rfl))
  case hq77 => exact fun _ _ _ h => h
  simp only [List.set_cons_succ, List.set_cons_zero]
  refine take_at (i := 8) (d := 116) (oi := ?o78) (v := ?v78) ?hi78 ?hd78 (by kernel_rfl) (by kernel_rfl) (by kernel_rfl) ?hw78 ?hy78 ?hq78 (by assumption) ?r78
  case hi78 => (simp only [List.getElem?_toArray, List.getElem?_cons_succ, List.getElem?_cons_zero]; rfl)
  case hd78 => rfl
  case hw78 => rfl
  case hy78 => ((intro w hSw; (try dsimp only at hSw); obtain ⟨⟨s0, s1, s2, s3, s4, s5, s6, s7⟩, ⟨x0, x1, x2, x3, x4⟩, ⟨o0, o1, o2, o3, o4, o5, o6, o7⟩⟩ := HZ.out w hSw; rw [HOS.out] at o0 o1 o2 o3 o4; go_simp) <;> (with_reducible rfl))
  case hq78 => exact fun _ _ _ h => h
  simp only [List.set_cons_succ, List.set_cons_zero]
  refine take_at (i := 9) (d := 117) (oi := ?o79) (v := ?v79) ?hi79 ?hd79 (by kernel_rfl) (by kernel_rfl) (by kernel_rfl) ?hw79 ?hy79 ?hq79 (by assumption) ?r79
  case hi79 => (simp only [List.getElem?_toArray, List.getElem?_cons_succ, List.getElem?_cons_zero]; rfl)
  case hd79 => rfl
  case hw79 => rfl
  case hy79 => ((intro w hSw; (try dsimp only at hSw); obtain ⟨⟨s0, s1, s2, s3, s4, s5, s6, s7⟩, ⟨x0, x1, x2, x3, x4⟩, ⟨o0, o1, o2, o3, o4, o5, o6, o7⟩⟩ := HZ.out w hSw; rw [HOS.out] at o0 o1 o2 o3 o4; go_simp) <;> (with_reducible rfl))
  case hq79 => exact fun _ _ _ h => h
  simp only [List.set_cons_succ, List.set_cons_zero]
  refine take_at (i := 10) (d := 118) (oi := ?o80) (v := ?v80) ?hi80 ?hd80 (by kernel_rfl) (by kernel_rfl) (by kernel_rfl) ?hw80 ?hy80 ?hq80 (by assumption) ?r80
  case hi80 => (simp only [List.getElem?_toArray, List.getElem?_cons_succ, List.getElem?_cons_zero]; rfl)
  case hd80 => rfl
  case hw80 => rfl
  case hy80 => ((intro w hSw; (try dsimp only at hSw); obtain ⟨⟨s0, s1, s2, s3, s4, s5, s6, s7⟩, ⟨x0, x1, x2, x3, x4⟩, ⟨o0, o1, o2, o3, o4, o5, o6, o7⟩⟩ := HZ.out w hSw; rw [HOS.out] at o0 o1 o2 o3 o4; go_simp) <;> (with_reducible rfl))
  case hq80 => exact fun _ _ _ h => h
  simp only [List.set_cons_succ, List.set_cons_zero]
  refine take_at (i := 11) (d := 119) (oi := ?o81) (v := ?v81) ?hi81 ?hd81 (by kernel_rfl) (by kernel_rfl) (by kernel_rfl) ?hw81 ?hy81 ?hq81 (by assumption) ?r81
  case hi81 => (simp only [List.getElem?_toArray, List.getElem?_cons_succ, List.getElem?_cons_zero]; rfl)
  case hd81 => rfl
  case hw81 => rfl
  case hy81 => ((intro w hSw; (try dsimp only at hSw); obtain ⟨⟨s0, s1, s2, s3, s4, s5, s6, s7⟩, ⟨x0, x1, x2, x3, x4⟩, ⟨o0, o1, o2, o3, o4, o5, o6, o7⟩⟩ := HZ.out w hSw; rw [HOS.out] at o0 o1 o2 o3 o4; go_simp) <;> (with_reducible rfl))
  case hq81 => exact fun _ _ _ h => h
  simp only [List.set_cons_succ, List.set_cons_zero]
  refine take_at (i := 12) (d := 120) (oi := ?o82) (v := ?v82) ?hi82 ?hd82 (by kernel_rfl) (by kernel_rfl) (by kernel_rfl) ?hw82 ?hy82 ?hq82 (by assumption) ?r82
  case hi82 => (simp only [List.getElem?_toArray, List.getElem?_cons_succ, List.getElem?_cons_zero]; rfl)
  case hd82 => rfl
  case hw82 => rfl
  case hy82 => ((intro w hSw; (try dsimp only at hSw); obtain ⟨⟨s0, s1, s2, s3, s4, s5, s6, s7⟩, ⟨x0, x1, x2, x3, x4⟩, ⟨o0, o1, o2, o3, o4, o5, o6, o7⟩⟩ := HZ.out w hSw; rw [HOS.out] at o0 o1 o2 o3 o4; go_simp) <;> (with_reducible rfl))
  case hq82 => exact fun _ _ _ h => h
  simp only [List.set_cons_succ, List.set_cons_zero]
  refine take_at (i := 13) (d := 121) (oi := ?o83) (v := ?v83) ?hi83 ?hd83 (by kernel_rfl) (by kernel_rfl) (by kernel_rfl) ?hw83 ?hy83 ?hq83 (by assumption) ?r83
  case hi83 => (simp only [List.getElem?_toArray, List.getElem?_cons_succ, List.getElem?_cons_zero]; rfl)
  case hd83 => rfl
  case hw83 => rfl
  case hy83 => ((intro w hSw; (try dsimp only at hSw); obtain ⟨⟨s0, s1, s2, s3, s4, s5, s6, s7⟩, ⟨x0, x1, x2, x3, x4⟩, ⟨o0, o1, o2, o3, o4, o5, o6, o7⟩⟩ := HZ.out w hSw; rw [HOS.out] at o0 o1 o2 o3 o4; go_simp) <;> (with_reducible rfl))
  case hq83 => exact fun _ _ _ h => h
  simp only [List.set_cons_succ, List.set_cons_zero]
  refine take_at (i := 14) (d := 122) (oi := ?o84) (v := ?v84) ?hi84 ?hd84 (by kernel_rfl) (by kernel_rfl) (by kernel_rfl) ?hw84 ?hy84 ?hq84 (by assumption) ?r84
  case hi84 => (simp only [List.getElem?_toArray, List.getElem?_cons_succ, List.getElem?_cons_zero]; rfl)
  case hd84 => rfl
  case hw84 => rfl
  case hy84 => ((intro w hSw; (try dsimp only at hSw); obtain ⟨⟨s0, s1, s2, s3, s4, s5, s6, s7⟩, ⟨x0, x1, x2, x3, x4⟩, ⟨o0, o1, o2, o3, o4, o5, o6, o7⟩⟩ := HZ.out w hSw; rw [HOS.out] at o0 o1 o2 o3 o4; go_simp) <;> (with_reducible rfl))
  case hq84 => exact fun _ _ _ h => h
  simp only [List.set_cons_succ, List.set_cons_zero]
  refine take_at (i := 15) (d := 123) (oi := ?o85) (v := ?v85) ?hi85 ?hd85 (by kernel_rfl) (by kernel_rfl) (by kernel_rfl) ?hw85 ?hy85 ?hq85 (by assumption) ?r85
  case hi85 => (simp only [List.getElem?_toArray, List.getElem?_cons_succ, List.getElem?_cons_zero]; rfl)
  case hd85 => rfl
  case hw85 => rfl
  case hy85 => ((intro w hSw; (try dsimp only at hSw); obtain ⟨⟨s0, s1, s2, s3, s4, s5, s6, s7⟩, ⟨x0, x1, x2, x3, x4⟩, ⟨o0, o1, o2, o3, o4, o5, o6, o7⟩⟩ := HZ.out w hSw; rw [HOS.out] at o0 o1 o2 o3 o4; go_simp) <;> (with_reducible rfl))
  case hq85 => exact fun _ _ _ h => h
  simp only [List.set_cons_succ, List.set_cons_zero]
  refine take_at (i := 16) (d := 124) (oi := ?o86) (v := ?v86) ?hi86 ?hd86 (by kernel_rfl) (by kernel_rfl) (by kernel_rfl) ?hw86 ?hy86 ?hq86 (by assumption) ?r86
  case hi86 => (simp only [List.getElem?_toArray, List.getElem?_cons_succ, List.getElem?_cons_zero]; rfl)
  case hd86 => rfl
  case hw86 => rfl
  case hy86 => ((intro w hSw; (try dsimp only at hSw); obtain ⟨⟨s0, s1, s2, s3, s4, s5, s6, s7⟩, ⟨x0, x1, x2, x3, x4⟩, ⟨o0, o1, o2, o3, o4, o5, o6, o7⟩⟩ := HZ.out w hSw; rw [HOS.out] at o0 o1 o2 o3 o4; go_simp) <;> (with_reducible rfl))
  case hq86 => exact fun _ _ _ h => h
  simp only [List.set_cons_succ, List.set_cons_zero]
  refine take_at (i := 17) (d := 125) (oi := ?o87) (v := ?v87) ?hi87 ?hd87 (by kernel_rfl) (by kernel_rfl) (by kernel_rfl) ?hw87 ?hy87 ?hq87 (by assumption) ?r87
  case hi87 => (simp only [List.getElem?_toArray, List.getElem?_cons_succ, List.getElem?_cons_zero]; rfl)
  case hd87 => rfl
  case hw87 => rfl
  case hy87 => ((intro w hSw; (try dsimp only at hSw); obtain ⟨⟨s0, s1, s2, s3, s4, s5, s6, s7⟩, ⟨x0, x1, x2, x3, x4⟩, ⟨o0, o1, o2, o3, o4, o5, o6, o7⟩⟩ := HZ.out w hSw; rw [HOS.out] at o0 o1 o2 o3 o4; go_simp) <;> (with_reducible rfl))
  case hq87 => exact fun _ _ _ h => h
  simp only [List.set_cons_succ, List.set_cons_zero]
  refine take_at (i := 18) (d := 126) (oi := ?o88) (v := ?v88) ?hi88 ?hd88 (by kernel_rfl) (by kernel_rfl) (by kernel_rfl) ?hw88 ?hy88 ?hq88 (by assumption) ?r88
  case hi88 => (simp only [List.getElem?_toArray, List.getElem?_cons_succ, List.getElem?_cons_zero]; rfl)
  case hd88 => rfl
  case hw88 => rfl
  case hy88 => ((intro w hSw; (try dsimp only at hSw); obtain ⟨⟨s0, s1, s2, s3, s4, s5, s6, s7⟩, ⟨x0, x1, x2, x3, x4⟩, ⟨o0, o1, o2, o3, o4, o5, o6, o7⟩⟩ := HZ.out w hSw; rw [HOS.out] at o0 o1 o2 o3 o4; go_simp) <;> (with_reducible rfl))
  case hq88 => exact fun _ _ _ h => h
  simp only [List.set_cons_succ, List.set_cons_zero]
  refine take_at (i := 19) (d := 127) (oi := ?o89) (v := ?v89) ?hi89 ?hd89 (by kernel_rfl) (by kernel_rfl) (by kernel_rfl) ?hw89 ?hy89 ?hq89 (by assumption) ?r89
  case hi89 => (simp only [List.getElem?_toArray, List.getElem?_cons_succ, List.getElem?_cons_zero]; rfl)
  case hd89 => rfl
  case hw89 => rfl
  case hy89 => ((intro w hSw; (try dsimp only at hSw); obtain ⟨⟨s0, s1, s2, s3, s4, s5, s6, s7⟩, ⟨x0, x1, x2, x3, x4⟩, ⟨o0, o1, o2, o3, o4, o5, o6, o7⟩⟩ := HZ.out w hSw; rw [HOS.out] at o0 o1 o2 o3 o4; go_simp) <;> (with_reducible rfl))
  case hq89 => exact fun _ _ _ h => h
  simp only [List.set_cons_succ, List.set_cons_zero]
  refine take_at (i := 20) (d := 128) (oi := ?o90) (v := ?v90) ?hi90 ?hd90 (by kernel_rfl) (by kernel_rfl) (by kernel_rfl) ?hw90 ?hy90 ?hq90 (by assumption) ?r90
  case hi90 => (simp only [List.getElem?_toArray, List.getElem?_cons_succ, List.getElem?_cons_zero]; rfl)
  case hd90 => rfl
  case hw90 => rfl
  case hy90 => ((intro w hSw; (try dsimp only at hSw); obtain ⟨⟨s0, s1, s2, s3, s4, s5, s6, s7⟩, ⟨x0, x1, x2, x3, x4⟩, ⟨o0, o1, o2, o3, o4, o5, o6, o7⟩⟩ := HZ.out w hSw; rw [HOS.out] at o0 o1 o2 o3 o4; go_simp) <;> (with_reducible rfl))
  case hq90 => exact fun _ _ _ h => h
  simp only [List.set_cons_succ, List.set_cons_zero]
  refine take_at (i := 21) (d := 129) (oi := ?o91) (v := ?v91) ?hi91 ?hd91 (by kernel_rfl) (by kernel_rfl) (by kernel_rfl) ?hw91 ?hy91 ?hq91 (by assumption) ?r91
  case hi91 => (simp only [List.getElem?_toArray, List.getElem?_cons_succ, List.getElem?_cons_zero]; rfl)
  case hd91 => rfl
  case hw91 => rfl
  case hy91 => ((intro w hSw; (try dsimp only at hSw); obtain ⟨⟨s0, s1, s2, s3, s4, s5, s6, s7⟩, ⟨x0, x1, x2, x3, x4⟩, ⟨o0, o1, o2, o3, o4, o5, o6, o7⟩⟩ := HZ.out w hSw; rw [HOS.out] at o0 o1 o2 o3 o4; go_simp) <;> (with_reducible rfl))
  case hq91 => exact fun _ _ _ h => h
  simp only [List.set_cons_succ, List.set_cons_zero]
  refine take_at (i := 22) (d := 130) (oi := ?o92) (v := ?v92) ?hi92 ?hd92 (by kernel_rfl) (by kernel_rfl) (by kernel_rfl) ?hw92 ?hy92 ?hq92 (by assumption) ?r92
  case hi92 => (simp only [List.getElem?_toArray, List.getElem?_cons_succ, List.getElem?_cons_zero]; rfl)
  case hd92 => rfl
  case hw92 => rfl
  case hy92 => ((intro w hSw; (try dsimp only at hSw); obtain ⟨⟨s0, s1, s2, s3, s4, s5, s6, s7⟩, ⟨x0, x1, x2, x3, x4⟩, ⟨o0, o1, o2, o3, o4, o5, o6, o7⟩⟩ := HZ.out w hSw; rw [HOS.out] at o0 o1 o2 o3 o4; go_simp) <;> (with_reducible rfl))
  case hq92 => exact fun _ _ _ h => h
  simp only [List.set_cons_succ, List.set_cons_zero]
  refine take_at (i := 23) (d := 131) (oi := ?o93) (v := ?v93) ?hi93 ?hd93 (by kernel_rfl) (by kernel_rfl) (by kernel_rfl) ?hw93 ?hy93 ?hq93 (by assumption) ?r93
  case hi93 => (simp only [List.getElem?_toArray, List.getElem?_cons_succ, List.getElem?_cons_zero]; rfl)
  case hd93 => rfl
  case hw93 => rfl
  case hy93 => ((intro w hSw; (try dsimp only at hSw); obtain ⟨⟨s0, s1, s2, s3, s4, s5, s6, s7⟩, ⟨x0, x1, x2, x3, x4⟩, ⟨o0, o1, o2, o3, o4, o5, o6, o7⟩⟩ := HZ.out w hSw; rw [HOS.out] at o0 o1 o2 o3 o4; go_simp) <;> (with_reducible rfl))
  case hq93 => exact fun _ _ _ h => h
  simp only [List.set_cons_succ, List.set_cons_zero]
  refine take_at (i := 24) (d := 132) (oi := ?o94) (v := ?v94) ?hi94 ?hd94 (by kernel_rfl) (by kernel_rfl) (by kernel_rfl) ?hw94 ?hy94 ?hq94 (by assumption) ?r94
  case hi94 => (simp only [List.getElem?_toArray, List.getElem?_cons_succ, List.getElem?_cons_zero]; rfl)
  case hd94 => rfl
  case hw94 => rfl
  case hy94 => ((intro w hSw; (try dsimp only at hSw); obtain ⟨⟨s0, s1, s2, s3, s4, s5, s6, s7⟩, ⟨x0, x1, x2, x3, x4⟩, ⟨o0, o1, o2, o3, o4, o5, o6, o7⟩⟩ := HZ.out w hSw; rw [HOS.out] at o0 o1 o2 o3 o4; go_simp) <;> (with_reducible rfl))
  case hq94 => exact fun _ _ _ h => h
  simp only [List.set_cons_succ, List.set_cons_zero]
  refine take_at (i := 25) (d := 133) (oi := ?o95) (v := ?v95) ?hi95 ?hd95 (by kernel_rfl) (by kernel_rfl) (by kernel_rfl) ?hw95 ?hy95 ?hq95 (by assumption) ?r95
  case hi95 => (simp only [List.getElem?_toArray, List.getElem?_cons_succ, List.getElem?_cons_zero]; rfl)
  case hd95 => rfl
  case hw95 => rfl
  case hy95 => ((intro w hSw; (try dsimp only at hSw); obtain ⟨⟨s0, s1, s2, s3, s4, s5, s6, s7⟩, ⟨x0, x1, x2, x3, x4⟩, ⟨o0, o1, o2, o3, o4, o5, o6, o7⟩⟩ := HZ.out w hSw; rw [HOS.out] at o0 o1 o2 o3 o4; go_simp) <;> (with_reducible rfl))
  case hq95 => exact fun _ _ _ h => h
  simp only [List.set_cons_succ, List.set_cons_zero]
  refine take_at (i := 26) (d := 134) (oi := ?o96) (v := ?v96) ?hi96 ?hd96 (by kernel_rfl) (by kernel_rfl) (by kernel_rfl) ?hw96 ?hy96 ?hq96 (by assumption) ?r96
  case hi96 => (simp only [List.getElem?_toArray, List.getElem?_cons_succ, List.getElem?_cons_zero]; rfl)
  case hd96 => rfl
  case hw96 => rfl
  case hy96 => ((intro w hSw; (try dsimp only at hSw); obtain ⟨⟨s0, s1, s2, s3, s4, s5, s6, s7⟩, ⟨x0, x1, x2, x3, x4⟩, ⟨o0, o1, o2, o3, o4, o5, o6, o7⟩⟩ := HZ.out w hSw; rw [HOS.out] at o0 o1 o2 o3 o4; go_simp) <;> (with_reducible rfl))
  case hq96 => exact fun _ _ _ h => h
  simp only [List.set_cons_succ, List.set_cons_zero]
  refine take_at (i := 27) (d := 135) (oi := ?o97) (v := ?v97) ?hi97 ?hd97 (by kernel_rfl) (by kernel_rfl) (by kernel_rfl) ?hw97 ?hy97 ?hq97 (by assumption) ?r97
  case hi97 => (simp only [List.getElem?_toArray, List.getElem?_cons_succ, List.getElem?_cons_zero]; rfl)
  case hd97 => rfl
  case hw97 => rfl
  case hy97 => ((intro w hSw; (try dsimp only at hSw); obtain ⟨⟨s0, s1, s2, s3, s4, s5, s6, s7⟩, ⟨x0, x1, x2, x3, x4⟩, ⟨o0, o1, o2, o3, o4, o5, o6, o7⟩⟩ := HZ.out w hSw; rw [HOS.out] at o0 o1 o2 o3 o4; go_simp) <;> (with_reducible rfl))
  case hq97 => exact fun _ _ _ h => h
  simp only [List.set_cons_succ, List.set_cons_zero]
  refine take_at (i := 28) (d := 136) (oi := ?o98) (v := ?v98) ?hi98 ?hd98 (by kernel_rfl) (by kernel_rfl) (by kernel_rfl) ?hw98 ?hy98 ?hq98 (by assumption) ?r98
  case hi98 => (simp only [List.getElem?_toArray, List.getElem?_cons_succ, List.getElem?_cons_zero]; rfl)
  case hd98 => rfl
  case hw98 => rfl
  case hy98 => ((intro w hSw; (try dsimp only at hSw); obtain ⟨⟨s0, s1, s2, s3, s4, s5, s6, s7⟩, ⟨x0, x1, x2, x3, x4⟩, ⟨o0, o1, o2, o3, o4, o5, o6, o7⟩⟩ := HZ.out w hSw; rw [HOS.out] at o0 o1 o2 o3 o4; go_simp) <;> (with_reducible rfl))
  case hq98 => exact fun _ _ _ h => h
  simp only [List.set_cons_succ, List.set_cons_zero]
  refine take_at (i := 29) (d := 137) (oi := ?o99) (v := ?v99) ?hi99 ?hd99 (by kernel_rfl) (by kernel_rfl) (by kernel_rfl) ?hw99 ?hy99 ?hq99 (by assumption) ?r99
  case hi99 => (simp only [List.getElem?_toArray, List.getElem?_cons_succ, List.getElem?_cons_zero]; rfl)
  case hd99 => rfl
  case hw99 => rfl
  case hy99 => ((intro w hSw; (try dsimp only at hSw); obtain ⟨⟨s0, s1, s2, s3, s4, s5, s6, s7⟩, ⟨x0, x1, x2, x3, x4⟩, ⟨o0, o1, o2, o3, o4, o5, o6, o7⟩⟩ := HZ.out w hSw; rw [HOS.out] at o0 o1 o2 o3 o4; go_simp) <;> (with_reducible rfl))
  case hq99 => exact fun _ _ _ h => h
  simp only [List.set_cons_succ, List.set_cons_zero]
  refine take_at (i := 31) (d := 139) (oi := ?o100) (v := ?v100) ?hi100 ?hd100 (by kernel_rfl) (by kernel_rfl) (by kernel_rfl) ?hw100 ?hy100 ?hq100 (by assumption) ?r100
  case hi100 => (simp only [List.getElem?_toArray, List.getElem?_cons_succ, List.getElem?_cons_zero]; rfl)
  case hd100 => rfl
  case hw100 => rfl
  case hy100 => ((intro w hSw; (try dsimp only at hSw); obtain ⟨⟨s0, s1, s2, s3, s4, s5, s6, s7⟩, ⟨x0, x1, x2, x3, x4⟩, ⟨o0, o1, o2, o3, o4, o5, o6, o7⟩⟩ := HZ.out w hSw; rw [HOS.out] at o0 o1 o2 o3 o4; go_simp) <;> (with_reducible rfl))
  case hq100 => exact fun _ _ _ h => h
  simp only [List.set_cons_succ, List.set_cons_zero]
  refine take_at (i := 32) (d := 140) (oi := ?o101) (v := ?v101) ?hi101 ?hd101 (by kernel_rfl) (by kernel_rfl) (by kernel_rfl) ?hw101 ?hy101 ?hq101 (by assumption) ?r101
  case hi101 => (simp only [List.getElem?_toArray, List.getElem?_cons_succ, List.getElem?_cons_zero]; rfl)
  case hd101 => rfl
  case hw101 => rfl
  case hy101 => ((intro w hSw; (try dsimp only at hSw); obtain ⟨⟨s0, s1, s2, s3, s4, s5, s6, s7⟩, ⟨x0, x1, x2, x3, x4⟩, ⟨o0, o1, o2, o3, o4, o5, o6, o7⟩⟩ := HZ.out w hSw; rw [HOS.out] at o0 o1 o2 o3 o4; go_simp) <;> (with_reducible rfl))
  case hq101 => exact fun _ _ _ h => h
  simp only [List.set_cons_succ, List.set_cons_zero]
  refine call_at (i := 30) (d := 138) (oi := ?o102) (f := ?f102) (args := ?a102) ?hi102 ?hd102 (by kernel_rfl) ?hw102 ?he102 ?hc102
  case hi102 => (simp only [List.getElem?_toArray, List.getElem?_cons_succ, List.getElem?_cons_zero]; rfl)
  case hd102 => rfl
  case hw102 => rfl
  case he102 => (go_simp; constructor <;> with_reducible rfl)
  refine Calls.mono (show Calls Try.prog 29 #[.agg #[.int .i64 s.ix, .int .i64 s.tm, .int .i64 s.sm, .int .i64 s.lv, .bool s.fn, .slice A3 0 c3, .int .i64 oo.tm, .int .i64 oo.vt]] w7.drew (fun e w' => e = .returned (.int .i64 s.ix) ∧ Below w7.drew.heap.size w7.drew w') from by have h := D.last oo A3 0 c3 w7.drew (OwnF.es own3d) (by omega) (by rw [HOS.out]; exact HD.out.2); unfold tupV at h; rw [HLA.out, HOS.out] at h; exact h) ?_
  rintro e xa ⟨rfl, bA⟩
  have kA : Below w7.heap.size w7 xa := (Below.refl _ _).drew.trans bA
  refine ⟨_, rfl, kA, fun hHeld => ?_⟩
  simp only [List.set_cons_succ, List.set_cons_zero]
  refine take_at (i := 33) (d := 141) (oi := ?o103) (v := ?v103) ?hi103 ?hd103 (by kernel_rfl) (by kernel_rfl) (by kernel_rfl) ?hw103 ?hy103 ?hq103 (by assumption) ?r103
  case hi103 => (simp only [List.getElem?_toArray, List.getElem?_cons_succ, List.getElem?_cons_zero]; rfl)
  case hd103 => rfl
  case hw103 => rfl
  case hy103 => ((intro w hSw; (try dsimp only at hSw); obtain ⟨⟨s0, s1, s2, s3, s4, s5, s6, s7⟩, ⟨x0, x1, x2, x3, x4⟩, ⟨o0, o1, o2, o3, o4, o5, o6, o7⟩⟩ := HZ.out w hSw; rw [HOS.out] at o0 o1 o2 o3 o4; go_simp) <;> (with_reducible rfl))
  case hq103 => exact fun _ _ _ h => h
  simp only [List.set_cons_succ, List.set_cons_zero]
  refine take_at (i := 34) (d := 142) (oi := ?o104) (v := ?v104) ?hi104 ?hd104 (by kernel_rfl) (by kernel_rfl) (by kernel_rfl) ?hw104 ?hy104 ?hq104 (by assumption) ?r104
  case hi104 => (simp only [List.getElem?_toArray, List.getElem?_cons_succ, List.getElem?_cons_zero]; rfl)
  case hd104 => rfl
  case hw104 => rfl
  case hy104 => ((intro w hSw; (try dsimp only at hSw); obtain ⟨⟨s0, s1, s2, s3, s4, s5, s6, s7⟩, ⟨x0, x1, x2, x3, x4⟩, ⟨o0, o1, o2, o3, o4, o5, o6, o7⟩⟩ := HZ.out w hSw; rw [HOS.out] at o0 o1 o2 o3 o4; go_simp) <;> (with_reducible rfl))
  case hq104 => exact fun _ _ _ h => h
  simp only [List.set_cons_succ, List.set_cons_zero]
  refine take_at (i := 35) (d := 143) (oi := ?o105) (v := ?v105) ?hi105 ?hd105 (by kernel_rfl) (by kernel_rfl) (by kernel_rfl) ?hw105 ?hy105 ?hq105 (by assumption) ?r105
  case hi105 => (simp only [List.getElem?_toArray, List.getElem?_cons_succ, List.getElem?_cons_zero]; rfl)
  case hd105 => rfl
  case hw105 => rfl
  case hy105 => ((intro w hSw; (try dsimp only at hSw); obtain ⟨⟨s0, s1, s2, s3, s4, s5, s6, s7⟩, ⟨x0, x1, x2, x3, x4⟩, ⟨o0, o1, o2, o3, o4, o5, o6, o7⟩⟩ := HZ.out w hSw; rw [HOS.out] at o0 o1 o2 o3 o4; go_simp) <;> (with_reducible rfl))
  case hq105 => exact fun _ _ _ h => h
  simp only [List.set_cons_succ, List.set_cons_zero]
  refine call_at (i := 36) (d := 144) (oi := ?o106) (f := ?f106) (args := ?a106) ?hi106 ?hd106 (by kernel_rfl) ?hw106 ?he106 ?hc106
  case hi106 => (simp only [List.getElem?_toArray, List.getElem?_cons_succ, List.getElem?_cons_zero]; rfl)
  case hd106 => rfl
  case hw106 => rfl
  case he106 => (go_simp; constructor <;> with_reducible rfl)
  refine Calls.mono (wakes12 D xa) ?_
  rintro e xb ⟨rfl, bB⟩
  have kB := below_on kA bB
  refine ⟨_, rfl, kB, fun hHeld => ?_⟩
  simp only [List.set_cons_succ, List.set_cons_zero]
  refine take_at (i := 37) (d := 145) (oi := ?o107) (v := ?v107) ?hi107 ?hd107 (by kernel_rfl) (by kernel_rfl) (by kernel_rfl) ?hw107 ?hy107 ?hq107 (by assumption) ?r107
  case hi107 => (simp only [List.getElem?_toArray, List.getElem?_cons_succ, List.getElem?_cons_zero]; rfl)
  case hd107 => rfl
  case hw107 => rfl
  case hy107 => ((intro w hSw; (try dsimp only at hSw); obtain ⟨⟨s0, s1, s2, s3, s4, s5, s6, s7⟩, ⟨x0, x1, x2, x3, x4⟩, ⟨o0, o1, o2, o3, o4, o5, o6, o7⟩⟩ := HZ.out w hSw; rw [HOS.out] at o0 o1 o2 o3 o4; go_simp) <;> (with_reducible rfl))
  case hq107 => exact fun _ _ _ h => h
  simp only [List.set_cons_succ, List.set_cons_zero]
  refine take_at (i := 38) (d := 4) (oi := ?o108) (v := ?v108) ?hi108 ?hd108 (by kernel_rfl) (by kernel_rfl) (by kernel_rfl) ?hw108 ?hy108 ?hq108 (by assumption) ?r108
  case hi108 => (simp only [List.getElem?_toArray, List.getElem?_cons_succ, List.getElem?_cons_zero]; rfl)
  case hd108 => rfl
  case hw108 => rfl
  case hy108 => ((intro w hSw; (try dsimp only at hSw); obtain ⟨⟨s0, s1, s2, s3, s4, s5, s6, s7⟩, ⟨x0, x1, x2, x3, x4⟩, ⟨o0, o1, o2, o3, o4, o5, o6, o7⟩⟩ := HZ.out w hSw; rw [HOS.out] at o0 o1 o2 o3 o4; go_simp) <;> (with_reducible rfl))
  case hq108 => exact fun _ _ _ h => h
  simp only [List.set_cons_succ, List.set_cons_zero]
  refine wpAnyH_done (by kernel_rfl) ?_ _
  clear hHeld
  go_wp2_with fail
  go_ret
  exact ⟨rfl, B7.trans (kB.mono B7.size)⟩
set_option maxRecDepth 100000 in
set_option maxHeartbeats 16000000 in
theorem instd_far (D : Dev12) (t : TupP) (s : StP) (A : Option Addr) (n c : Nat) (w : World) (hS : Es w w.heap.size A n t.lg) (hnc : n ≤ c) (hM : MayT t) (hF : FineP s) (c1 : ¬ s.ix ≤ t.sn.ix) (c2 : ¬ 1073740824 < s.ix) (c3 : ¬ t.tm < s.tm) {k : Nat} (hk : (k : Int) = s.ix - t.sn.ix) (hkl : n < k) :
    Calls Try.prog 7 #[tupV t (.slice A n c), s.v] w fun e w' => e = .returned (.bool true) ∧ Below w.heap.size w w' := by
  have hl := hS.len
  have hfew := hM.few
  have hn2 : n ≤ 200 := by omega
  have hix : 0 ≤ t.sn.ix ∧ t.sn.ix ≤ 1073740824 := ⟨hM.fine.1.1, hM.ix⟩
  have hsx : 0 ≤ s.ix ∧ s.ix ≤ 1073741824 := hF.1
  have hmt : Mid t.sn.ix := mid_of (by omega)
  have hms : Mid s.ix := mid_of (by omega)
  have q0 : decide (s.ix ≤ t.sn.ix) = false := decide_eq_false c1
  have q1 : decide ((1073740824 : Int) < s.ix) = false := decide_eq_false c2
  have q2 : decide (t.tm < s.tm) = false := decide_eq_false c3
  have hk1 : 1 ≤ k := by omega
  have r1 : IntKind.i64.wrap (s.ix - t.sn.ix) = (k : Int) := by rw [IntKind.wrap_i64]; omega
  have r2 : wrap64 (s.ix - t.sn.ix) = (k : Int) := by unfold wrap64; omega
  have r3 : IntKind.i64.wrap ((k : Int) - 1) = ((k - 1 : Nat) : Int) := by rw [IntKind.wrap_i64]; omega
  obtain ⟨k', hk'⟩ : ∃ k', k' = k - 1 := ⟨_, rfl⟩
  rw [← hk'] at r3
  obtain ⟨oo, hoo⟩ : ∃ o : TupP, o = { t with sn := s, lg := [] } := ⟨_, rfl⟩
  have hno := term_else hk hk1 (.inl (by omega))
  have hin : InstallIs t s oo 0 := by rw [hoo]; exact inst_gone hM hF (by omega) hno (by omega) (by omega)
  have hu : (0 : Nat) = 0 := rfl
  have hol : oo.lg.length = 0 := by rw [hoo]; rfl
  have hla : lastT oo = s.ix := by unfold lastT; rw [hol, hoo]; simp
  clear hno
  have q6 : decide ((k : Int) ≤ (n : Int)) = false := decide_eq_false (by omega)
  have q6b : decide (k ≤ n) = false := decide_eq_false (by omega)
  have e1 : (oo.tm == t.tm) = true := by rw [hoo]; simp
  have e2 : (oo.vt == t.vt) = true := by rw [hoo]; simp
  have hos : oo.sn = s := by rw [hoo]
  have HOS := Lib.hid hos
  have HI := Lib.hid hin
  have HD := Lib.hid (⟨hmt, hms⟩ : _ ∧ _)
  have HM := Lib.hid hM
  have HF := Lib.hid (fineB_iff.2 hF)
  have HL := Lib.hid (⟨hl, hol, hu, hk'⟩ : _ ∧ _ ∧ _ ∧ _)
  have HLA := Lib.hid hla
  clear hla
  clear hmt hms hM hF hl hix hsx hfew c1 c2 c3 hos hin hol hu hoo hk' hk hk1
  skip
  obtain ⟨z1, hz1⟩ : ∃ z, z = w.heap.size := ⟨_, rfl⟩
  obtain ⟨w1, hw1⟩ : ∃ x, x = w.alloc (.cells #[.int .i64 t.sn.ix, .int .i64 t.sn.tm, .int .i64 t.sn.sm, .int .i64 t.sn.lv, .bool t.sn.fn, .slice A n c, .int .i64 t.tm, .int .i64 t.vt] 26) := ⟨_, rfl⟩
  have bb : Below w.heap.size w w1 := by rw [hw1]; exact below_al (below_d0 _) _
  have bz : BoxU w1 z1 t (.slice A n c) := by rw [hw1, hz1]; exact BoxU.new w t _
  replace hS := hS.on bb bb.size
  have B1 := bb
  clear bb
  obtain ⟨z2, hz2⟩ : ∃ z, z = w1.heap.size := ⟨_, rfl⟩
  obtain ⟨w2, hw2⟩ : ∃ x, x = w1.alloc (.cells #[.int .i64 s.ix, .int .i64 s.tm, .int .i64 s.sm, .int .i64 s.lv, .bool s.fn] 23) := ⟨_, rfl⟩
  have bb : Below w1.heap.size w1 w2 := by rw [hw2]; exact below_al (below_d0 _) _
  have bs : BoxS w2 z2 s := by rw [hw2, hz2]; exact BoxS.new w1 s
  replace bz := bz.below bb
  replace hS := hS.on bb bb.size
  have B2 := B1.trans (bb.mono B1.size)
  clear bb B1
  have hzz : z1 + 1 = z2 := by rw [hz2, hw1, hz1]; simp
  have HE := Lib.hid (⟨hw1, hw2, hz1, hzz⟩ : _ ∧ _ ∧ _ ∧ _)
  clear hw1 hz1 hw2 hz2 hzz
  unfold tupV StP.v
  go_enter Try.func7, Try.ntmps7
  go_wp2_with fail
  rw [← HE.out.1, ← HE.out.2.1, ← HE.out.2.2.1]
  (try rw [HE.out.2.2.2])
  clear HE
  refine Calls.mono (show Calls Try.prog 28 #[.agg #[.int .i64 t.sn.ix, .int .i64 t.sn.tm, .int .i64 t.sn.sm, .int .i64 t.sn.lv, .bool t.sn.fn, .slice A n c, .int .i64 t.tm, .int .i64 t.vt]] w2 (fun e w' => (∃ b, MayIs t b ∧ e = .returned (.bool b)) ∧ Below w2.heap.size w2 w') from rrightT_any t A n c w2 hS) ?_
  intro e w3 hh
  obtain ⟨⟨b, hb, rfl⟩, bb⟩ := hh
  (try clear hh)
  replace bz := bz.below bb
  replace bs := bs.below bb
  replace hS := hS.on bb bb.size
  have B3 := B2.trans (bb.mono B2.size)
  clear bb B2
  obtain rfl := hb.same (mayYes HM.out)
  clear hb
  obtain ⟨k0, k1, k2, k3, k4, k5, k6, k7⟩ := bz.cells
  obtain ⟨i0, i1, i2, i3, i4⟩ := bs.cells
  go_wp2_with fail
  clear k0 k1 k2 k3 k4 k5 k6 k7
  clear i0 i1 i2 i3 i4
  refine Calls.mono (show Calls Try.prog 37 #[.agg #[.int .i64 s.ix, .int .i64 s.tm, .int .i64 s.sm, .int .i64 s.lv, .bool s.fn]] w3 (fun r w' => r = .returned (.bool (fineB s)) ∧ Below w3.heap.size w3 w') from rfine_any s w3) ?_
  intro e w4 hh
  obtain ⟨rfl, bb⟩ := hh
  (try clear hh)
  replace bz := bz.below bb
  replace bs := bs.below bb
  replace hS := hS.on bb bb.size
  have B4 := B3.trans (bb.mono B3.size)
  clear bb B3
  rw [HF.out]
  obtain ⟨k0, k1, k2, k3, k4, k5, k6, k7⟩ := bz.cells
  obtain ⟨i0, i1, i2, i3, i4⟩ := bs.cells
  go_wp2_with fail
  clear k0 k1 k2 k3 k4 k5 k6 k7
  clear i0 i1 i2 i3 i4
  refine Calls.mono (show Calls Try.prog 17 #[.agg #[.int .i64 t.sn.ix, .int .i64 t.sn.tm, .int .i64 t.sn.sm, .int .i64 t.sn.lv, .bool t.sn.fn, .slice A n c, .int .i64 t.tm, .int .i64 t.vt], .agg #[.int .i64 s.ix, .int .i64 s.tm, .int .i64 s.sm, .int .i64 s.lv, .bool s.fn]] w4 (OutF (InstallIs t s) w4.heap.size w4) from D.install t A n c s w4 hS (by omega) hnc HD.out.1 (Mid.i64 HD.out.2)) ?_
  intro e w5 hh
  obtain ⟨A3, c3, rfl, hc3, own3, bb⟩ := OutF.is (x := 0) (n := 0) hh (fun h => InstallIs.same h HI.out) HL.out.2.1
  (try clear hh)
  replace bz := bz.below bb
  replace bs := bs.below bb
  replace hS := hS.on bb bb.size
  have B5 := B4.trans (bb.mono B4.size)
  clear bb B4
  unfold tupV
  rw [HOS.out]
  obtain ⟨z6, hz6⟩ : ∃ z, z = w5.heap.size := ⟨_, rfl⟩
  obtain ⟨w6, hw6⟩ : ∃ x, x = w5.alloc (.cells #[.int .i64 s.ix, .int .i64 s.tm, .int .i64 s.sm, .int .i64 s.lv, .bool s.fn, .slice A3 0 c3, .int .i64 oo.tm, .int .i64 oo.vt] 26) := ⟨_, rfl⟩
  have bb : Below w5.heap.size w5 w6 := by rw [hw6]; exact below_al (below_d0 _) _
  have bo : BoxU w6 z6 oo (.slice A3 0 c3) := by rw [hw6, hz6]; have h := BoxU.new w5 oo (.slice A3 0 c3); rw [HOS.out] at h; exact h
  replace own3 := keepF own3 bb
  replace bz := bz.below bb
  replace bs := bs.below bb
  replace hS := hS.on bb bb.size
  have B6 := B5.trans (bb.mono B5.size)
  clear bb B5
  have HE6 := Lib.hid (⟨hw6, hz6⟩ : _ ∧ _)
  clear hw6 hz6
  go_upto_region 4 with fail
  rw [← HE6.out.1, ← HE6.out.2]
  clear HE6
  obtain ⟨k0, k1, k2, k3, k4, k5, k6, k7⟩ := bz.cells
  obtain ⟨i0, i1, i2, i3, i4⟩ := bs.cells
  go_upto_region 7 with fail
  clear k0 k1 k2 k3 k4 k5 k6 k7
  clear i0 i1 i2 i3 i4
  clear q0 q1 q2 r1 r2
  have HZ := Lib.hid (fun (Y : World) (hY : Below w6.heap.size w6 Y) => (⟨(bz.below hY).cells, (bs.below hY).cells, (bo.below hY).cells⟩ : _ ∧ _ ∧ _))
  refine wp_region_held_drew (S := (fun Y => Below w6.heap.size w6 Y)) (by kernel_rfl) ((Below.refl _ _).drew) (fun hHeld => ?_)
  refine take_at (i := 0) (d := 57) (oi := ?o109) (v := ?v109) ?hi109 ?hd109 (by kernel_rfl) (by kernel_rfl) (by kernel_rfl) ?hw109 ?hy109 ?hq109 (by assumption) ?r109
  case hi109 => (simp only [List.getElem?_toArray, List.getElem?_cons_zero]; rfl)
  case hd109 => rfl
  case hw109 => rfl
  case hy109 => ((intro w hSw; (try dsimp only at hSw); obtain ⟨⟨s0, s1, s2, s3, s4, s5, s6, s7⟩, ⟨x0, x1, x2, x3, x4⟩, ⟨o0, o1, o2, o3, o4, o5, o6, o7⟩⟩ := HZ.out w hSw; rw [HOS.out] at o0 o1 o2 o3 o4; go_simp) <;> (with_reducible rfl))
  case hq109 => exact fun _ _ _ h => h
  simp only [List.set_cons_succ, List.set_cons_zero]
  refine take_at (i := 1) (d := 58) (oi := ?o110) (v := ?v110) ?hi110 ?hd110 (by kernel_rfl) (by kernel_rfl) (by kernel_rfl) ?hw110 ?hy110 ?hq110 (by assumption) ?r110
  case hi110 => (simp only [List.getElem?_toArray, List.getElem?_cons_succ, List.getElem?_cons_zero]; rfl)
  case hd110 => rfl
  case hw110 => rfl
  case hy110 => ((intro w hSw; (try dsimp only at hSw); obtain ⟨⟨s0, s1, s2, s3, s4, s5, s6, s7⟩, ⟨x0, x1, x2, x3, x4⟩, ⟨o0, o1, o2, o3, o4, o5, o6, o7⟩⟩ := HZ.out w hSw; rw [HOS.out] at o0 o1 o2 o3 o4; go_simp) <;> (with_reducible rfl))
  case hq110 => exact fun _ _ _ h => h
  simp only [List.set_cons_succ, List.set_cons_zero]
  refine take_at (i := 2) (d := 59) (oi := ?o111) (v := ?v111) ?hi111 ?hd111 (by kernel_rfl) (by kernel_rfl) (by kernel_rfl) ?hw111 ?hy111 ?hq111 (by assumption) ?r111
  case hi111 => (simp only [List.getElem?_toArray, List.getElem?_cons_succ, List.getElem?_cons_zero]; rfl)
  case hd111 => rfl
  case hw111 => rfl
  case hy111 => ((intro w hSw; (try dsimp only at hSw); obtain ⟨⟨s0, s1, s2, s3, s4, s5, s6, s7⟩, ⟨x0, x1, x2, x3, x4⟩, ⟨o0, o1, o2, o3, o4, o5, o6, o7⟩⟩ := HZ.out w hSw; rw [HOS.out] at o0 o1 o2 o3 o4; go_simp) <;> (with_reducible rfl))
  case hq111 => exact fun _ _ _ h => h
  simp only [List.set_cons_succ, List.set_cons_zero]
  refine take_at (i := 3) (d := 60) (oi := ?o112) (v := ?v112) ?hi112 ?hd112 (by kernel_rfl) (by kernel_rfl) (by kernel_rfl) ?hw112 ?hy112 ?hq112 (by assumption) ?r112
  case hi112 => (simp only [List.getElem?_toArray, List.getElem?_cons_succ, List.getElem?_cons_zero]; rfl)
  case hd112 => rfl
  case hw112 => rfl
  case hy112 => ((intro w hSw; (try dsimp only at hSw); obtain ⟨⟨s0, s1, s2, s3, s4, s5, s6, s7⟩, ⟨x0, x1, x2, x3, x4⟩, ⟨o0, o1, o2, o3, o4, o5, o6, o7⟩⟩ := HZ.out w hSw; rw [HOS.out] at o0 o1 o2 o3 o4; go_simp) <;> (with_reducible rfl))
  case hq112 => exact fun _ _ _ h => h
  simp only [List.set_cons_succ, List.set_cons_zero]
  refine take_at (i := 4) (d := 61) (oi := ?o113) (v := ?v113) ?hi113 ?hd113 (by kernel_rfl) (by kernel_rfl) (by kernel_rfl) ?hw113 ?hy113 ?hq113 (by assumption) ?r113
  case hi113 => (simp only [List.getElem?_toArray, List.getElem?_cons_succ, List.getElem?_cons_zero]; rfl)
  case hd113 => rfl
  case hw113 => rfl
  case hy113 => ((intro w hSw; (try dsimp only at hSw); obtain ⟨⟨s0, s1, s2, s3, s4, s5, s6, s7⟩, ⟨x0, x1, x2, x3, x4⟩, ⟨o0, o1, o2, o3, o4, o5, o6, o7⟩⟩ := HZ.out w hSw; rw [HOS.out] at o0 o1 o2 o3 o4; go_simp) <;> (with_reducible rfl))
  case hq113 => exact fun _ _ _ h => h
  simp only [List.set_cons_succ, List.set_cons_zero]
  refine take_at (i := 5) (d := 62) (oi := ?o114) (v := ?v114) ?hi114 ?hd114 (by kernel_rfl) (by kernel_rfl) (by kernel_rfl) ?hw114 ?hy114 ?hq114 (by assumption) ?r114
  case hi114 => (simp only [List.getElem?_toArray, List.getElem?_cons_succ, List.getElem?_cons_zero]; rfl)
  case hd114 => rfl
  case hw114 => rfl
  case hy114 => ((intro w hSw; (try dsimp only at hSw); obtain ⟨⟨s0, s1, s2, s3, s4, s5, s6, s7⟩, ⟨x0, x1, x2, x3, x4⟩, ⟨o0, o1, o2, o3, o4, o5, o6, o7⟩⟩ := HZ.out w hSw; rw [HOS.out] at o0 o1 o2 o3 o4; go_simp) <;> (with_reducible rfl))
  case hq114 => exact fun _ _ _ h => h
  simp only [List.set_cons_succ, List.set_cons_zero]
  refine skip_at (i := 6) (d := 63) (oi := ?o115) ?hi115 ?hd115 (by kernel_rfl) (by kernel_rfl) (by kernel_rfl) ?hw115 ?hq115 (by assumption) ?r115
  case hi115 => (simp only [List.getElem?_toArray, List.getElem?_cons_succ, List.getElem?_cons_zero]; rfl)
  case hd115 => rfl
  case hw115 => rfl
  case hq115 => exact fun _ _ _ h => h
  simp only [List.set_cons_succ, List.set_cons_zero]
  refine skip_at (i := 7) (d := 64) (oi := ?o116) ?hi116 ?hd116 (by kernel_rfl) (by kernel_rfl) (by kernel_rfl) ?hw116 ?hq116 (by assumption) ?r116
  case hi116 => (simp only [List.getElem?_toArray, List.getElem?_cons_succ, List.getElem?_cons_zero]; rfl)
  case hd116 => rfl
  case hw116 => rfl
  case hq116 => exact fun _ _ _ h => h
  simp only [List.set_cons_succ, List.set_cons_zero]
  refine skip_at (i := 8) (d := 65) (oi := ?o117) ?hi117 ?hd117 (by kernel_rfl) (by kernel_rfl) (by kernel_rfl) ?hw117 ?hq117 (by assumption) ?r117
  case hi117 => (simp only [List.getElem?_toArray, List.getElem?_cons_succ, List.getElem?_cons_zero]; rfl)
  case hd117 => rfl
  case hw117 => rfl
  case hq117 => exact fun _ _ _ h => h
  simp only [List.set_cons_succ, List.set_cons_zero]
  refine skip_at (i := 9) (d := 66) (oi := ?o118) ?hi118 ?hd118 (by kernel_rfl) (by kernel_rfl) (by kernel_rfl) ?hw118 ?hq118 (by assumption) ?r118
  case hi118 => (simp only [List.getElem?_toArray, List.getElem?_cons_succ, List.getElem?_cons_zero]; rfl)
  case hd118 => rfl
  case hw118 => rfl
  case hq118 => exact fun _ _ _ h => h
  simp only [List.set_cons_succ, List.set_cons_zero]
  refine skip_at (i := 10) (d := 67) (oi := ?o119) ?hi119 ?hd119 (by kernel_rfl) (by kernel_rfl) (by kernel_rfl) ?hw119 ?hq119 (by assumption) ?r119
  case hi119 => (simp only [List.getElem?_toArray, List.getElem?_cons_succ, List.getElem?_cons_zero]; rfl)
  case hd119 => rfl
  case hw119 => rfl
  case hq119 => exact fun _ _ _ h => h
  simp only [List.set_cons_succ, List.set_cons_zero]
  refine skip_at (i := 11) (d := 68) (oi := ?o120) ?hi120 ?hd120 (by kernel_rfl) (by kernel_rfl) (by kernel_rfl) ?hw120 ?hq120 (by assumption) ?r120
  case hi120 => (simp only [List.getElem?_toArray, List.getElem?_cons_succ, List.getElem?_cons_zero]; rfl)
  case hd120 => rfl
  case hw120 => rfl
  case hq120 => exact fun _ _ _ h => h
  simp only [List.set_cons_succ, List.set_cons_zero]
  refine skip_at (i := 12) (d := 69) (oi := ?o121) ?hi121 ?hd121 (by kernel_rfl) (by kernel_rfl) (by kernel_rfl) ?hw121 ?hq121 (by assumption) ?r121
  case hi121 => (simp only [List.getElem?_toArray, List.getElem?_cons_succ, List.getElem?_cons_zero]; rfl)
  case hd121 => rfl
  case hw121 => rfl
  case hq121 => exact fun _ _ _ h => h
  simp only [List.set_cons_succ, List.set_cons_zero]
  refine skip_at (i := 13) (d := 70) (oi := ?o122) ?hi122 ?hd122 (by kernel_rfl) (by kernel_rfl) (by kernel_rfl) ?hw122 ?hq122 (by assumption) ?r122
  case hi122 => (simp only [List.getElem?_toArray, List.getElem?_cons_succ, List.getElem?_cons_zero]; rfl)
  case hd122 => rfl
  case hw122 => rfl
  case hq122 => exact fun _ _ _ h => h
  simp only [List.set_cons_succ, List.set_cons_zero]
  refine skip_at (i := 14) (d := 71) (oi := ?o123) ?hi123 ?hd123 (by kernel_rfl) (by kernel_rfl) (by kernel_rfl) ?hw123 ?hq123 (by assumption) ?r123
  case hi123 => (simp only [List.getElem?_toArray, List.getElem?_cons_succ, List.getElem?_cons_zero]; rfl)
  case hd123 => rfl
  case hw123 => rfl
  case hq123 => exact fun _ _ _ h => h
  simp only [List.set_cons_succ, List.set_cons_zero]
  refine skip_at (i := 15) (d := 72) (oi := ?o124) ?hi124 ?hd124 (by kernel_rfl) (by kernel_rfl) (by kernel_rfl) ?hw124 ?hq124 (by assumption) ?r124
  case hi124 => (simp only [List.getElem?_toArray, List.getElem?_cons_succ, List.getElem?_cons_zero]; rfl)
  case hd124 => rfl
  case hw124 => rfl
  case hq124 => exact fun _ _ _ h => h
  simp only [List.set_cons_succ, List.set_cons_zero]
  refine take_at (i := 16) (d := 73) (oi := ?o125) (v := ?v125) ?hi125 ?hd125 (by kernel_rfl) (by kernel_rfl) (by kernel_rfl) ?hw125 ?hy125 ?hq125 (by assumption) ?r125
  case hi125 => (simp only [List.getElem?_toArray, List.getElem?_cons_succ, List.getElem?_cons_zero]; rfl)
  case hd125 => rfl
  case hw125 => rfl
  case hy125 => ((intro w hSw; (try dsimp only at hSw); obtain ⟨⟨s0, s1, s2, s3, s4, s5, s6, s7⟩, ⟨x0, x1, x2, x3, x4⟩, ⟨o0, o1, o2, o3, o4, o5, o6, o7⟩⟩ := HZ.out w hSw; rw [HOS.out] at o0 o1 o2 o3 o4; go_simp) <;> (with_reducible rfl))
  case hq125 => exact fun _ _ _ h => h
  simp only [List.set_cons_succ, List.set_cons_zero]
  refine wpAnyH_done (by kernel_rfl) ?_ _
  clear hHeld HZ
  obtain ⟨w7, hw7⟩ : ∃ x, x = w6.drew := ⟨_, rfl⟩
  have bb : Below w6.heap.size w6 w7 := by rw [hw7]; exact (Below.refl _ _).drew
  rw [← hw7]
  clear hw7
  replace own3 := keepF own3 bb
  replace bz := bz.below bb
  replace bs := bs.below bb
  replace bo := bo.below bb
  replace hS := hS.on bb bb.size
  have B7 := B6.trans (bb.mono B6.size)
  clear bb B6
  go_wp2_with fail
  have qst : ∀ W : World, (binOp .eql 23 (.agg #[.int .i64 s.ix, .int .i64 s.tm, .int .i64 s.sm, .int .i64 s.lv, .bool s.fn]) (.agg #[.int .i64 s.ix, .int .i64 s.tm, .int .i64 s.sm, .int .i64 s.lv, .bool s.fn])).run Try.prog W = .ok (.bool true) W := fun W => by have h := eql_st s s W; rw [decide_eq_true rfl] at h; exact h
  have HZ := Lib.hid (fun (Y : World) (hY : Below w7.heap.size w7 Y) => (⟨(bz.below hY).cells, (bs.below hY).cells, (bo.below hY).cells⟩ : _ ∧ _ ∧ _))
  have own3d := keepF own3 (Below.refl w7.heap.size w7).drew
  have hSd := hS.on (Below.refl w7.heap.size w7).drew (Below.refl w7.heap.size w7).drew.size
  refine wp_region_held_drew (S := (fun Y => Below w7.heap.size w7 Y)) (by kernel_rfl) ((Below.refl _ _).drew) (fun hHeld => ?_)
  refine take_at (i := 0) (d := 108) (oi := ?o126) (v := ?v126) ?hi126 ?hd126 (by kernel_rfl) (by kernel_rfl) (by kernel_rfl) ?hw126 ?hy126 ?hq126 (by assumption) ?r126
  case hi126 => (simp only [List.getElem?_toArray, List.getElem?_cons_zero]; rfl)
  case hd126 => rfl
  case hw126 => rfl
  case hy126 => ((intro w hSw; (try dsimp only at hSw); obtain ⟨⟨s0, s1, s2, s3, s4, s5, s6, s7⟩, ⟨x0, x1, x2, x3, x4⟩, ⟨o0, o1, o2, o3, o4, o5, o6, o7⟩⟩ := HZ.out w hSw; rw [HOS.out] at o0 o1 o2 o3 o4; go_simp) <;> (with_reducible rfl))
  case hq126 => exact fun _ _ _ h => h
  simp only [List.set_cons_succ, List.set_cons_zero]
  refine take_at (i := 1) (d := 109) (oi := ?o127) (v := ?v127) ?hi127 ?hd127 (by kernel_rfl) (by kernel_rfl) (by kernel_rfl) ?hw127 ?hy127 ?hq127 (by assumption) ?r127
  case hi127 => (simp only [List.getElem?_toArray, List.getElem?_cons_succ, List.getElem?_cons_zero]; rfl)
  case hd127 => rfl
  case hw127 => rfl
  case hy127 => ((intro w hSw; (try dsimp only at hSw); obtain ⟨⟨s0, s1, s2, s3, s4, s5, s6, s7⟩, ⟨x0, x1, x2, x3, x4⟩, ⟨o0, o1, o2, o3, o4, o5, o6, o7⟩⟩ := HZ.out w hSw; rw [HOS.out] at o0 o1 o2 o3 o4; go_simp) <;> (with_reducible rfl))
  case hq127 => exact fun _ _ _ h => h
  simp only [List.set_cons_succ, List.set_cons_zero]
  refine take_at (i := 2) (d := 110) (oi := ?o128) (v := ?v128) ?hi128 ?hd128 (by kernel_rfl) (by kernel_rfl) (by kernel_rfl) ?hw128 ?hy128 ?hq128 (by assumption) ?r128
  case hi128 => (simp only [List.getElem?_toArray, List.getElem?_cons_succ, List.getElem?_cons_zero]; rfl)
  case hd128 => rfl
  case hw128 => rfl
  case hy128 => ((intro w hSw; (try dsimp only at hSw); obtain ⟨⟨s0, s1, s2, s3, s4, s5, s6, s7⟩, ⟨x0, x1, x2, x3, x4⟩, ⟨o0, o1, o2, o3, o4, o5, o6, o7⟩⟩ := HZ.out w hSw; rw [HOS.out] at o0 o1 o2 o3 o4; go_simp) <;> (with_reducible rfl))
  case hq128 => exact fun _ _ _ h => h
  simp only [List.set_cons_succ, List.set_cons_zero]
  refine take_at (i := 3) (d := 111) (oi := ?o129) (v := ?v129) ?hi129 ?hd129 (by kernel_rfl) (by kernel_rfl) (by kernel_rfl) ?hw129 ?hy129 ?hq129 (by assumption) ?r129
  case hi129 => (simp only [List.getElem?_toArray, List.getElem?_cons_succ, List.getElem?_cons_zero]; rfl)
  case hd129 => rfl
  case hw129 => rfl
  case hy129 => ((intro w hSw; (try dsimp only at hSw); obtain ⟨⟨s0, s1, s2, s3, s4, s5, s6, s7⟩, ⟨x0, x1, x2, x3, x4⟩, ⟨o0, o1, o2, o3, o4, o5, o6, o7⟩⟩ := HZ.out w hSw; rw [HOS.out] at o0 o1 o2 o3 o4; go_simp) <;> (with_reducible rfl))
  case hq129 => exact fun _ _ _ h => h
  simp only [List.set_cons_succ, List.set_cons_zero]
  refine take_at (i := 4) (d := 112) (oi := ?o130) (v := ?v130) ?hi130 ?hd130 (by kernel_rfl) (by kernel_rfl) (by kernel_rfl) ?hw130 ?hy130 ?hq130 (by assumption) ?r130
  case hi130 => (simp only [List.getElem?_toArray, List.getElem?_cons_succ, List.getElem?_cons_zero]; rfl)
  case hd130 => rfl
  case hw130 => rfl
  case hy130 => ((intro w hSw; (try dsimp only at hSw); obtain ⟨⟨s0, s1, s2, s3, s4, s5, s6, s7⟩, ⟨x0, x1, x2, x3, x4⟩, ⟨o0, o1, o2, o3, o4, o5, o6, o7⟩⟩ := HZ.out w hSw; rw [HOS.out] at o0 o1 o2 o3 o4; go_simp) <;> (with_reducible rfl))
  case hq130 => exact fun _ _ _ h => h
  simp only [List.set_cons_succ, List.set_cons_zero]
  refine take_at (i := 5) (d := 113) (oi := ?o131) (v := ?v131) ?hi131 ?hd131 (by kernel_rfl) (by kernel_rfl) (by kernel_rfl) ?hw131 ?hy131 ?hq131 (by assumption) ?r131
  case hi131 => (simp only [List.getElem?_toArray, List.getElem?_cons_succ, List.getElem?_cons_zero]; rfl)
  case hd131 => rfl
  case hw131 => rfl
  case hy131 => ((intro w hSw; (try dsimp only at hSw); obtain ⟨⟨s0, s1, s2, s3, s4, s5, s6, s7⟩, ⟨x0, x1, x2, x3, x4⟩, ⟨o0, o1, o2, o3, o4, o5, o6, o7⟩⟩ := HZ.out w hSw; rw [HOS.out] at o0 o1 o2 o3 o4; go_simp) <;> (with_reducible rfl))
  case hq131 => exact fun _ _ _ h => h
  simp only [List.set_cons_succ, List.set_cons_zero]
  refine take_at (i := 6) (d := 114) (oi := ?o132) (v := ?v132) ?hi132 ?hd132 (by kernel_rfl) (by kernel_rfl) (by kernel_rfl) ?hw132 ?hy132 ?hq132 (by assumption) ?r132
  case hi132 => (simp only [List.getElem?_toArray, List.getElem?_cons_succ, List.getElem?_cons_zero]; rfl)
  case hd132 => rfl
  case hw132 => rfl
  case hy132 => ((intro w hSw; (try dsimp only at hSw); obtain ⟨⟨s0, s1, s2, s3, s4, s5, s6, s7⟩, ⟨x0, x1, x2, x3, x4⟩, ⟨o0, o1, o2, o3, o4, o5, o6, o7⟩⟩ := HZ.out w hSw; rw [HOS.out] at o0 o1 o2 o3 o4; go_simp) <;> (with_reducible rfl))
  case hq132 => exact fun _ _ _ h => h
  simp only [List.set_cons_succ, List.set_cons_zero]
  refine take_at (i := 7) (d := 115) (oi := ?o133) (v := ?v133) ?hi133 ?hd133 (by kernel_rfl) (by kernel_rfl) (by kernel_rfl) ?hw133 ?hy133 ?hq133 (by assumption) ?r133
  case hi133 => (simp only [List.getElem?_toArray, List.getElem?_cons_succ, List.getElem?_cons_zero]; rfl)
  case hd133 => rfl
  case hw133 => rfl
  case hy133 => ((intro w hSw; (try dsimp only at hSw); obtain ⟨⟨s0, s1, s2, s3, s4, s5, s6, s7⟩, ⟨x0, x1, x2, x3, x4⟩, ⟨o0, o1, o2, o3, o4, o5, o6, o7⟩⟩ := HZ.out w hSw; rw [HOS.out] at o0 o1 o2 o3 o4; go_simp) <;> (with_reducible rfl))
  case hq133 => exact fun _ _ _ h => h
  simp only [List.set_cons_succ, List.set_cons_zero]
  refine take_at (i := 8) (d := 116) (oi := ?o134) (v := ?v134) ?hi134 ?hd134 (by kernel_rfl) (by kernel_rfl) (by kernel_rfl) ?hw134 ?hy134 ?hq134 (by assumption) ?r134
  case hi134 => (simp only [List.getElem?_toArray, List.getElem?_cons_succ, List.getElem?_cons_zero]; rfl)
  case hd134 => rfl
  case hw134 => rfl
  case hy134 => ((intro w hSw; (try dsimp only at hSw); obtain ⟨⟨s0, s1, s2, s3, s4, s5, s6, s7⟩, ⟨x0, x1, x2, x3, x4⟩, ⟨o0, o1, o2, o3, o4, o5, o6, o7⟩⟩ := HZ.out w hSw; rw [HOS.out] at o0 o1 o2 o3 o4; go_simp) <;> (with_reducible rfl))
  case hq134 => exact fun _ _ _ h => h
  simp only [List.set_cons_succ, List.set_cons_zero]
  refine take_at (i := 9) (d := 117) (oi := ?o135) (v := ?v135) ?hi135 ?hd135 (by kernel_rfl) (by kernel_rfl) (by kernel_rfl) ?hw135 ?hy135 ?hq135 (by assumption) ?r135
  case hi135 => (simp only [List.getElem?_toArray, List.getElem?_cons_succ, List.getElem?_cons_zero]; rfl)
  case hd135 => rfl
  case hw135 => rfl
  case hy135 => ((intro w hSw; (try dsimp only at hSw); obtain ⟨⟨s0, s1, s2, s3, s4, s5, s6, s7⟩, ⟨x0, x1, x2, x3, x4⟩, ⟨o0, o1, o2, o3, o4, o5, o6, o7⟩⟩ := HZ.out w hSw; rw [HOS.out] at o0 o1 o2 o3 o4; go_simp) <;> (with_reducible rfl))
  case hq135 => exact fun _ _ _ h => h
  simp only [List.set_cons_succ, List.set_cons_zero]
  refine take_at (i := 10) (d := 118) (oi := ?o136) (v := ?v136) ?hi136 ?hd136 (by kernel_rfl) (by kernel_rfl) (by kernel_rfl) ?hw136 ?hy136 ?hq136 (by assumption) ?r136
  case hi136 => (simp only [List.getElem?_toArray, List.getElem?_cons_succ, List.getElem?_cons_zero]; rfl)
  case hd136 => rfl
  case hw136 => rfl
  case hy136 => ((intro w hSw; (try dsimp only at hSw); obtain ⟨⟨s0, s1, s2, s3, s4, s5, s6, s7⟩, ⟨x0, x1, x2, x3, x4⟩, ⟨o0, o1, o2, o3, o4, o5, o6, o7⟩⟩ := HZ.out w hSw; rw [HOS.out] at o0 o1 o2 o3 o4; go_simp) <;> (with_reducible rfl))
  case hq136 => exact fun _ _ _ h => h
  simp only [List.set_cons_succ, List.set_cons_zero]
  refine take_at (i := 11) (d := 119) (oi := ?o137) (v := ?v137) ?hi137 ?hd137 (by kernel_rfl) (by kernel_rfl) (by kernel_rfl) ?hw137 ?hy137 ?hq137 (by assumption) ?r137
  case hi137 => (simp only [List.getElem?_toArray, List.getElem?_cons_succ, List.getElem?_cons_zero]; rfl)
  case hd137 => rfl
  case hw137 => rfl
  case hy137 => ((intro w hSw; (try dsimp only at hSw); obtain ⟨⟨s0, s1, s2, s3, s4, s5, s6, s7⟩, ⟨x0, x1, x2, x3, x4⟩, ⟨o0, o1, o2, o3, o4, o5, o6, o7⟩⟩ := HZ.out w hSw; rw [HOS.out] at o0 o1 o2 o3 o4; go_simp) <;> (with_reducible rfl))
  case hq137 => exact fun _ _ _ h => h
  simp only [List.set_cons_succ, List.set_cons_zero]
  refine take_at (i := 12) (d := 120) (oi := ?o138) (v := ?v138) ?hi138 ?hd138 (by kernel_rfl) (by kernel_rfl) (by kernel_rfl) ?hw138 ?hy138 ?hq138 (by assumption) ?r138
  case hi138 => (simp only [List.getElem?_toArray, List.getElem?_cons_succ, List.getElem?_cons_zero]; rfl)
  case hd138 => rfl
  case hw138 => rfl
  case hy138 => ((intro w hSw; (try dsimp only at hSw); obtain ⟨⟨s0, s1, s2, s3, s4, s5, s6, s7⟩, ⟨x0, x1, x2, x3, x4⟩, ⟨o0, o1, o2, o3, o4, o5, o6, o7⟩⟩ := HZ.out w hSw; rw [HOS.out] at o0 o1 o2 o3 o4; go_simp) <;> (with_reducible rfl))
  case hq138 => exact fun _ _ _ h => h
  simp only [List.set_cons_succ, List.set_cons_zero]
  refine take_at (i := 13) (d := 121) (oi := ?o139) (v := ?v139) ?hi139 ?hd139 (by kernel_rfl) (by kernel_rfl) (by kernel_rfl) ?hw139 ?hy139 ?hq139 (by assumption) ?r139
  case hi139 => (simp only [List.getElem?_toArray, List.getElem?_cons_succ, List.getElem?_cons_zero]; rfl)
  case hd139 => rfl
  case hw139 => rfl
  case hy139 => ((intro w hSw; (try dsimp only at hSw); obtain ⟨⟨s0, s1, s2, s3, s4, s5, s6, s7⟩, ⟨x0, x1, x2, x3, x4⟩, ⟨o0, o1, o2, o3, o4, o5, o6, o7⟩⟩ := HZ.out w hSw; rw [HOS.out] at o0 o1 o2 o3 o4; go_simp) <;> (with_reducible rfl))
  case hq139 => exact fun _ _ _ h => h
  simp only [List.set_cons_succ, List.set_cons_zero]
  refine take_at (i := 14) (d := 122) (oi := ?o140) (v := ?v140) ?hi140 ?hd140 (by kernel_rfl) (by kernel_rfl) (by kernel_rfl) ?hw140 ?hy140 ?hq140 (by assumption) ?r140
  case hi140 => (simp only [List.getElem?_toArray, List.getElem?_cons_succ, List.getElem?_cons_zero]; rfl)
  case hd140 => rfl
  case hw140 => rfl
  case hy140 => ((intro w hSw; (try dsimp only at hSw); obtain ⟨⟨s0, s1, s2, s3, s4, s5, s6, s7⟩, ⟨x0, x1, x2, x3, x4⟩, ⟨o0, o1, o2, o3, o4, o5, o6, o7⟩⟩ := HZ.out w hSw; rw [HOS.out] at o0 o1 o2 o3 o4; go_simp) <;> (with_reducible rfl))
  case hq140 => exact fun _ _ _ h => h
  simp only [List.set_cons_succ, List.set_cons_zero]
  refine take_at (i := 15) (d := 123) (oi := ?o141) (v := ?v141) ?hi141 ?hd141 (by kernel_rfl) (by kernel_rfl) (by kernel_rfl) ?hw141 ?hy141 ?hq141 (by assumption) ?r141
  case hi141 => (simp only [List.getElem?_toArray, List.getElem?_cons_succ, List.getElem?_cons_zero]; rfl)
  case hd141 => rfl
  case hw141 => rfl
  case hy141 => ((intro w hSw; (try dsimp only at hSw); obtain ⟨⟨s0, s1, s2, s3, s4, s5, s6, s7⟩, ⟨x0, x1, x2, x3, x4⟩, ⟨o0, o1, o2, o3, o4, o5, o6, o7⟩⟩ := HZ.out w hSw; rw [HOS.out] at o0 o1 o2 o3 o4; go_simp) <;> (with_reducible rfl))
  case hq141 => exact fun _ _ _ h => h
  simp only [List.set_cons_succ, List.set_cons_zero]
  refine take_at (i := 16) (d := 124) (oi := ?o142) (v := ?v142) ?hi142 ?hd142 (by kernel_rfl) (by kernel_rfl) (by kernel_rfl) ?hw142 ?hy142 ?hq142 (by assumption) ?r142
  case hi142 => (simp only [List.getElem?_toArray, List.getElem?_cons_succ, List.getElem?_cons_zero]; rfl)
  case hd142 => rfl
  case hw142 => rfl
  case hy142 => ((intro w hSw; (try dsimp only at hSw); obtain ⟨⟨s0, s1, s2, s3, s4, s5, s6, s7⟩, ⟨x0, x1, x2, x3, x4⟩, ⟨o0, o1, o2, o3, o4, o5, o6, o7⟩⟩ := HZ.out w hSw; rw [HOS.out] at o0 o1 o2 o3 o4; go_simp) <;> (with_reducible rfl))
  case hq142 => exact fun _ _ _ h => h
  simp only [List.set_cons_succ, List.set_cons_zero]
  refine take_at (i := 17) (d := 125) (oi := ?o143) (v := ?v143) ?hi143 ?hd143 (by kernel_rfl) (by kernel_rfl) (by kernel_rfl) ?hw143 ?hy143 ?hq143 (by assumption) ?r143
  case hi143 => (simp only [List.getElem?_toArray, List.getElem?_cons_succ, List.getElem?_cons_zero]; rfl)
  case hd143 => rfl
  case hw143 => rfl
  case hy143 => ((intro w hSw; (try dsimp only at hSw); obtain ⟨⟨s0, s1, s2, s3, s4, s5, s6, s7⟩, ⟨x0, x1, x2, x3, x4⟩, ⟨o0, o1, o2, o3, o4, o5, o6, o7⟩⟩ := HZ.out w hSw; rw [HOS.out] at o0 o1 o2 o3 o4; go_simp) <;> (with_reducible rfl))
  case hq143 => exact fun _ _ _ h => h
  simp only [List.set_cons_succ, List.set_cons_zero]
  refine take_at (i := 18) (d := 126) (oi := ?o144) (v := ?v144) ?hi144 ?hd144 (by kernel_rfl) (by kernel_rfl) (by kernel_rfl) ?hw144 ?hy144 ?hq144 (by assumption) ?r144
  case hi144 => (simp only [List.getElem?_toArray, List.getElem?_cons_succ, List.getElem?_cons_zero]; rfl)
  case hd144 => rfl
  case hw144 => rfl
  case hy144 => ((intro w hSw; (try dsimp only at hSw); obtain ⟨⟨s0, s1, s2, s3, s4, s5, s6, s7⟩, ⟨x0, x1, x2, x3, x4⟩, ⟨o0, o1, o2, o3, o4, o5, o6, o7⟩⟩ := HZ.out w hSw; rw [HOS.out] at o0 o1 o2 o3 o4; go_simp) <;> (with_reducible rfl))
  case hq144 => exact fun _ _ _ h => h
  simp only [List.set_cons_succ, List.set_cons_zero]
  refine take_at (i := 19) (d := 127) (oi := ?o145) (v := ?v145) ?hi145 ?hd145 (by kernel_rfl) (by kernel_rfl) (by kernel_rfl) ?hw145 ?hy145 ?hq145 (by assumption) ?r145
  case hi145 => (simp only [List.getElem?_toArray, List.getElem?_cons_succ, List.getElem?_cons_zero]; rfl)
  case hd145 => rfl
  case hw145 => rfl
  case hy145 => ((intro w hSw; (try dsimp only at hSw); obtain ⟨⟨s0, s1, s2, s3, s4, s5, s6, s7⟩, ⟨x0, x1, x2, x3, x4⟩, ⟨o0, o1, o2, o3, o4, o5, o6, o7⟩⟩ := HZ.out w hSw; rw [HOS.out] at o0 o1 o2 o3 o4; go_simp) <;> (with_reducible rfl))
  case hq145 => exact fun _ _ _ h => h
  simp only [List.set_cons_succ, List.set_cons_zero]
  refine take_at (i := 20) (d := 128) (oi := ?o146) (v := ?v146) ?hi146 ?hd146 (by kernel_rfl) (by kernel_rfl) (by kernel_rfl) ?hw146 ?hy146 ?hq146 (by assumption) ?r146
  case hi146 => (simp only [List.getElem?_toArray, List.getElem?_cons_succ, List.getElem?_cons_zero]; rfl)
  case hd146 => rfl
  case hw146 => rfl
  case hy146 => ((intro w hSw; (try dsimp only at hSw); obtain ⟨⟨s0, s1, s2, s3, s4, s5, s6, s7⟩, ⟨x0, x1, x2, x3, x4⟩, ⟨o0, o1, o2, o3, o4, o5, o6, o7⟩⟩ := HZ.out w hSw; rw [HOS.out] at o0 o1 o2 o3 o4; go_simp) <;> (with_reducible rfl))
  case hq146 => exact fun _ _ _ h => h
  simp only [List.set_cons_succ, List.set_cons_zero]
  refine take_at (i := 21) (d := 129) (oi := ?o147) (v := ?v147) ?hi147 ?hd147 (by kernel_rfl) (by kernel_rfl) (by kernel_rfl) ?hw147 ?hy147 ?hq147 (by assumption) ?r147
  case hi147 => (simp only [List.getElem?_toArray, List.getElem?_cons_succ, List.getElem?_cons_zero]; rfl)
  case hd147 => rfl
  case hw147 => rfl
  case hy147 => ((intro w hSw; (try dsimp only at hSw); obtain ⟨⟨s0, s1, s2, s3, s4, s5, s6, s7⟩, ⟨x0, x1, x2, x3, x4⟩, ⟨o0, o1, o2, o3, o4, o5, o6, o7⟩⟩ := HZ.out w hSw; rw [HOS.out] at o0 o1 o2 o3 o4; go_simp) <;> (with_reducible rfl))
  case hq147 => exact fun _ _ _ h => h
  simp only [List.set_cons_succ, List.set_cons_zero]
  refine take_at (i := 22) (d := 130) (oi := ?o148) (v := ?v148) ?hi148 ?hd148 (by kernel_rfl) (by kernel_rfl) (by kernel_rfl) ?hw148 ?hy148 ?hq148 (by assumption) ?r148
  case hi148 => (simp only [List.getElem?_toArray, List.getElem?_cons_succ, List.getElem?_cons_zero]; rfl)
  case hd148 => rfl
  case hw148 => rfl
  case hy148 => ((intro w hSw; (try dsimp only at hSw); obtain ⟨⟨s0, s1, s2, s3, s4, s5, s6, s7⟩, ⟨x0, x1, x2, x3, x4⟩, ⟨o0, o1, o2, o3, o4, o5, o6, o7⟩⟩ := HZ.out w hSw; rw [HOS.out] at o0 o1 o2 o3 o4; go_simp) <;> (with_reducible rfl))
  case hq148 => exact fun _ _ _ h => h
  simp only [List.set_cons_succ, List.set_cons_zero]
  refine take_at (i := 23) (d := 131) (oi := ?o149) (v := ?v149) ?hi149 ?hd149 (by kernel_rfl) (by kernel_rfl) (by kernel_rfl) ?hw149 ?hy149 ?hq149 (by assumption) ?r149
  case hi149 => (simp only [List.getElem?_toArray, List.getElem?_cons_succ, List.getElem?_cons_zero]; rfl)
  case hd149 => rfl
  case hw149 => rfl
  case hy149 => ((intro w hSw; (try dsimp only at hSw); obtain ⟨⟨s0, s1, s2, s3, s4, s5, s6, s7⟩, ⟨x0, x1, x2, x3, x4⟩, ⟨o0, o1, o2, o3, o4, o5, o6, o7⟩⟩ := HZ.out w hSw; rw [HOS.out] at o0 o1 o2 o3 o4; go_simp) <;> (with_reducible rfl))
  case hq149 => exact fun _ _ _ h => h
  simp only [List.set_cons_succ, List.set_cons_zero]
  refine take_at (i := 24) (d := 132) (oi := ?o150) (v := ?v150) ?hi150 ?hd150 (by kernel_rfl) (by kernel_rfl) (by kernel_rfl) ?hw150 ?hy150 ?hq150 (by assumption) ?r150
  case hi150 => (simp only [List.getElem?_toArray, List.getElem?_cons_succ, List.getElem?_cons_zero]; rfl)
  case hd150 => rfl
  case hw150 => rfl
  case hy150 => ((intro w hSw; (try dsimp only at hSw); obtain ⟨⟨s0, s1, s2, s3, s4, s5, s6, s7⟩, ⟨x0, x1, x2, x3, x4⟩, ⟨o0, o1, o2, o3, o4, o5, o6, o7⟩⟩ := HZ.out w hSw; rw [HOS.out] at o0 o1 o2 o3 o4; go_simp) <;> (with_reducible rfl))
  case hq150 => exact fun _ _ _ h => h
  simp only [List.set_cons_succ, List.set_cons_zero]
  refine take_at (i := 25) (d := 133) (oi := ?o151) (v := ?v151) ?hi151 ?hd151 (by kernel_rfl) (by kernel_rfl) (by kernel_rfl) ?hw151 ?hy151 ?hq151 (by assumption) ?r151
  case hi151 => (simp only [List.getElem?_toArray, List.getElem?_cons_succ, List.getElem?_cons_zero]; rfl)
  case hd151 => rfl
  case hw151 => rfl
  case hy151 => ((intro w hSw; (try dsimp only at hSw); obtain ⟨⟨s0, s1, s2, s3, s4, s5, s6, s7⟩, ⟨x0, x1, x2, x3, x4⟩, ⟨o0, o1, o2, o3, o4, o5, o6, o7⟩⟩ := HZ.out w hSw; rw [HOS.out] at o0 o1 o2 o3 o4; go_simp) <;> (with_reducible rfl))
  case hq151 => exact fun _ _ _ h => h
  simp only [List.set_cons_succ, List.set_cons_zero]
  refine take_at (i := 26) (d := 134) (oi := ?o152) (v := ?v152) ?hi152 ?hd152 (by kernel_rfl) (by kernel_rfl) (by kernel_rfl) ?hw152 ?hy152 ?hq152 (by assumption) ?r152
  case hi152 => (simp only [List.getElem?_toArray, List.getElem?_cons_succ, List.getElem?_cons_zero]; rfl)
  case hd152 => rfl
  case hw152 => rfl
  case hy152 => ((intro w hSw; (try dsimp only at hSw); obtain ⟨⟨s0, s1, s2, s3, s4, s5, s6, s7⟩, ⟨x0, x1, x2, x3, x4⟩, ⟨o0, o1, o2, o3, o4, o5, o6, o7⟩⟩ := HZ.out w hSw; rw [HOS.out] at o0 o1 o2 o3 o4; go_simp) <;> (with_reducible rfl))
  case hq152 => exact fun _ _ _ h => h
  simp only [List.set_cons_succ, List.set_cons_zero]
  refine take_at (i := 27) (d := 135) (oi := ?o153) (v := ?v153) ?hi153 ?hd153 (by kernel_rfl) (by kernel_rfl) (by kernel_rfl) ?hw153 ?hy153 ?hq153 (by assumption) ?r153
  case hi153 => (simp only [List.getElem?_toArray, List.getElem?_cons_succ, List.getElem?_cons_zero]; rfl)
  case hd153 => rfl
  case hw153 => rfl
  case hy153 => ((intro w hSw; (try dsimp only at hSw); obtain ⟨⟨s0, s1, s2, s3, s4, s5, s6, s7⟩, ⟨x0, x1, x2, x3, x4⟩, ⟨o0, o1, o2, o3, o4, o5, o6, o7⟩⟩ := HZ.out w hSw; rw [HOS.out] at o0 o1 o2 o3 o4; go_simp) <;> (with_reducible rfl))
  case hq153 => exact fun _ _ _ h => h
  simp only [List.set_cons_succ, List.set_cons_zero]
  refine take_at (i := 28) (d := 136) (oi := ?o154) (v := ?v154) ?hi154 ?hd154 (by kernel_rfl) (by kernel_rfl) (by kernel_rfl) ?hw154 ?hy154 ?hq154 (by assumption) ?r154
  case hi154 => (simp only [List.getElem?_toArray, List.getElem?_cons_succ, List.getElem?_cons_zero]; rfl)
  case hd154 => rfl
  case hw154 => rfl
  case hy154 => ((intro w hSw; (try dsimp only at hSw); obtain ⟨⟨s0, s1, s2, s3, s4, s5, s6, s7⟩, ⟨x0, x1, x2, x3, x4⟩, ⟨o0, o1, o2, o3, o4, o5, o6, o7⟩⟩ := HZ.out w hSw; rw [HOS.out] at o0 o1 o2 o3 o4; go_simp) <;> (with_reducible rfl))
  case hq154 => exact fun _ _ _ h => h
  simp only [List.set_cons_succ, List.set_cons_zero]
  refine take_at (i := 29) (d := 137) (oi := ?o155) (v := ?v155) ?hi155 ?hd155 (by kernel_rfl) (by kernel_rfl) (by kernel_rfl) ?hw155 ?hy155 ?hq155 (by assumption) ?r155
  case hi155 => (simp only [List.getElem?_toArray, List.getElem?_cons_succ, List.getElem?_cons_zero]; rfl)
  case hd155 => rfl
  case hw155 => rfl
  case hy155 => ((intro w hSw; (try dsimp only at hSw); obtain ⟨⟨s0, s1, s2, s3, s4, s5, s6, s7⟩, ⟨x0, x1, x2, x3, x4⟩, ⟨o0, o1, o2, o3, o4, o5, o6, o7⟩⟩ := HZ.out w hSw; rw [HOS.out] at o0 o1 o2 o3 o4; go_simp) <;> (with_reducible rfl))
  case hq155 => exact fun _ _ _ h => h
  simp only [List.set_cons_succ, List.set_cons_zero]
  refine take_at (i := 31) (d := 139) (oi := ?o156) (v := ?v156) ?hi156 ?hd156 (by kernel_rfl) (by kernel_rfl) (by kernel_rfl) ?hw156 ?hy156 ?hq156 (by assumption) ?r156
  case hi156 => (simp only [List.getElem?_toArray, List.getElem?_cons_succ, List.getElem?_cons_zero]; rfl)
  case hd156 => rfl
  case hw156 => rfl
  case hy156 => ((intro w hSw; (try dsimp only at hSw); obtain ⟨⟨s0, s1, s2, s3, s4, s5, s6, s7⟩, ⟨x0, x1, x2, x3, x4⟩, ⟨o0, o1, o2, o3, o4, o5, o6, o7⟩⟩ := HZ.out w hSw; rw [HOS.out] at o0 o1 o2 o3 o4; go_simp) <;> (with_reducible rfl))
  case hq156 => exact fun _ _ _ h => h
  simp only [List.set_cons_succ, List.set_cons_zero]
  refine take_at (i := 32) (d := 140) (oi := ?o157) (v := ?v157) ?hi157 ?hd157 (by kernel_rfl) (by kernel_rfl) (by kernel_rfl) ?hw157 ?hy157 ?hq157 (by assumption) ?r157
  case hi157 => (simp only [List.getElem?_toArray, List.getElem?_cons_succ, List.getElem?_cons_zero]; rfl)
  case hd157 => rfl
  case hw157 => rfl
  case hy157 => ((intro w hSw; (try dsimp only at hSw); obtain ⟨⟨s0, s1, s2, s3, s4, s5, s6, s7⟩, ⟨x0, x1, x2, x3, x4⟩, ⟨o0, o1, o2, o3, o4, o5, o6, o7⟩⟩ := HZ.out w hSw; rw [HOS.out] at o0 o1 o2 o3 o4; go_simp) <;> (with_reducible rfl))
  case hq157 => exact fun _ _ _ h => h
  simp only [List.set_cons_succ, List.set_cons_zero]
  refine call_at (i := 30) (d := 138) (oi := ?o158) (f := ?f158) (args := ?a158) ?hi158 ?hd158 (by kernel_rfl) ?hw158 ?he158 ?hc158
  case hi158 => (simp only [List.getElem?_toArray, List.getElem?_cons_succ, List.getElem?_cons_zero]; rfl)
  case hd158 => rfl
  case hw158 => rfl
  case he158 => (go_simp; constructor <;> with_reducible rfl)
  refine Calls.mono (show Calls Try.prog 29 #[.agg #[.int .i64 s.ix, .int .i64 s.tm, .int .i64 s.sm, .int .i64 s.lv, .bool s.fn, .slice A3 0 c3, .int .i64 oo.tm, .int .i64 oo.vt]] w7.drew (fun e w' => e = .returned (.int .i64 s.ix) ∧ Below w7.drew.heap.size w7.drew w') from by have h := D.last oo A3 0 c3 w7.drew (OwnF.es own3d) (by omega) (by rw [HOS.out]; exact HD.out.2); unfold tupV at h; rw [HLA.out, HOS.out] at h; exact h) ?_
  rintro e xa ⟨rfl, bA⟩
  have kA : Below w7.heap.size w7 xa := (Below.refl _ _).drew.trans bA
  refine ⟨_, rfl, kA, fun hHeld => ?_⟩
  simp only [List.set_cons_succ, List.set_cons_zero]
  refine take_at (i := 33) (d := 141) (oi := ?o159) (v := ?v159) ?hi159 ?hd159 (by kernel_rfl) (by kernel_rfl) (by kernel_rfl) ?hw159 ?hy159 ?hq159 (by assumption) ?r159
  case hi159 => (simp only [List.getElem?_toArray, List.getElem?_cons_succ, List.getElem?_cons_zero]; rfl)
  case hd159 => rfl
  case hw159 => rfl
  case hy159 => ((intro w hSw; (try dsimp only at hSw); obtain ⟨⟨s0, s1, s2, s3, s4, s5, s6, s7⟩, ⟨x0, x1, x2, x3, x4⟩, ⟨o0, o1, o2, o3, o4, o5, o6, o7⟩⟩ := HZ.out w hSw; rw [HOS.out] at o0 o1 o2 o3 o4; go_simp) <;> (with_reducible rfl))
  case hq159 => exact fun _ _ _ h => h
  simp only [List.set_cons_succ, List.set_cons_zero]
  refine take_at (i := 34) (d := 142) (oi := ?o160) (v := ?v160) ?hi160 ?hd160 (by kernel_rfl) (by kernel_rfl) (by kernel_rfl) ?hw160 ?hy160 ?hq160 (by assumption) ?r160
  case hi160 => (simp only [List.getElem?_toArray, List.getElem?_cons_succ, List.getElem?_cons_zero]; rfl)
  case hd160 => rfl
  case hw160 => rfl
  case hy160 => ((intro w hSw; (try dsimp only at hSw); obtain ⟨⟨s0, s1, s2, s3, s4, s5, s6, s7⟩, ⟨x0, x1, x2, x3, x4⟩, ⟨o0, o1, o2, o3, o4, o5, o6, o7⟩⟩ := HZ.out w hSw; rw [HOS.out] at o0 o1 o2 o3 o4; go_simp) <;> (with_reducible rfl))
  case hq160 => exact fun _ _ _ h => h
  simp only [List.set_cons_succ, List.set_cons_zero]
  refine take_at (i := 35) (d := 143) (oi := ?o161) (v := ?v161) ?hi161 ?hd161 (by kernel_rfl) (by kernel_rfl) (by kernel_rfl) ?hw161 ?hy161 ?hq161 (by assumption) ?r161
  case hi161 => (simp only [List.getElem?_toArray, List.getElem?_cons_succ, List.getElem?_cons_zero]; rfl)
  case hd161 => rfl
  case hw161 => rfl
  case hy161 => ((intro w hSw; (try dsimp only at hSw); obtain ⟨⟨s0, s1, s2, s3, s4, s5, s6, s7⟩, ⟨x0, x1, x2, x3, x4⟩, ⟨o0, o1, o2, o3, o4, o5, o6, o7⟩⟩ := HZ.out w hSw; rw [HOS.out] at o0 o1 o2 o3 o4; go_simp) <;> (with_reducible rfl))
  case hq161 => exact fun _ _ _ h => h
  simp only [List.set_cons_succ, List.set_cons_zero]
  refine call_at (i := 36) (d := 144) (oi := ?o162) (f := ?f162) (args := ?a162) ?hi162 ?hd162 (by kernel_rfl) ?hw162 ?he162 ?hc162
  case hi162 => (simp only [List.getElem?_toArray, List.getElem?_cons_succ, List.getElem?_cons_zero]; rfl)
  case hd162 => rfl
  case hw162 => rfl
  case he162 => (go_simp; constructor <;> with_reducible rfl)
  refine Calls.mono (wakes12 D xa) ?_
  rintro e xb ⟨rfl, bB⟩
  have kB := below_on kA bB
  refine ⟨_, rfl, kB, fun hHeld => ?_⟩
  simp only [List.set_cons_succ, List.set_cons_zero]
  refine take_at (i := 37) (d := 145) (oi := ?o163) (v := ?v163) ?hi163 ?hd163 (by kernel_rfl) (by kernel_rfl) (by kernel_rfl) ?hw163 ?hy163 ?hq163 (by assumption) ?r163
  case hi163 => (simp only [List.getElem?_toArray, List.getElem?_cons_succ, List.getElem?_cons_zero]; rfl)
  case hd163 => rfl
  case hw163 => rfl
  case hy163 => ((intro w hSw; (try dsimp only at hSw); obtain ⟨⟨s0, s1, s2, s3, s4, s5, s6, s7⟩, ⟨x0, x1, x2, x3, x4⟩, ⟨o0, o1, o2, o3, o4, o5, o6, o7⟩⟩ := HZ.out w hSw; rw [HOS.out] at o0 o1 o2 o3 o4; go_simp) <;> (with_reducible rfl))
  case hq163 => exact fun _ _ _ h => h
  simp only [List.set_cons_succ, List.set_cons_zero]
  refine take_at (i := 38) (d := 4) (oi := ?o164) (v := ?v164) ?hi164 ?hd164 (by kernel_rfl) (by kernel_rfl) (by kernel_rfl) ?hw164 ?hy164 ?hq164 (by assumption) ?r164
  case hi164 => (simp only [List.getElem?_toArray, List.getElem?_cons_succ, List.getElem?_cons_zero]; rfl)
  case hd164 => rfl
  case hw164 => rfl
  case hy164 => ((intro w hSw; (try dsimp only at hSw); obtain ⟨⟨s0, s1, s2, s3, s4, s5, s6, s7⟩, ⟨x0, x1, x2, x3, x4⟩, ⟨o0, o1, o2, o3, o4, o5, o6, o7⟩⟩ := HZ.out w hSw; rw [HOS.out] at o0 o1 o2 o3 o4; go_simp) <;> (with_reducible rfl))
  case hq164 => exact fun _ _ _ h => h
  simp only [List.set_cons_succ, List.set_cons_zero]
  refine wpAnyH_done (by kernel_rfl) ?_ _
  clear hHeld
  go_wp2_with fail
  go_ret
  exact ⟨rfl, B7.trans (kB.mono B7.size)⟩
theorem installs_all (D : Dev12) (t : TupP) (s : StP) (A : Option Addr) (n c : Nat) (w : World) (hS : Es w w.heap.size A n t.lg) (hnc : n ≤ c) :
    Calls Try.prog 7 #[tupV t (.slice A n c), s.v] w fun e w' => e = .returned (.bool true) ∧ Below w.heap.size w w' := by
  by_cases hM : MayT t
  case neg => exact inst_no D t s A n c w hS hnc hM
  by_cases hF : FineP s
  case neg => exact inst_nofine D t s A n c w hS hnc hM hF
  by_cases c1 : s.ix ≤ t.sn.ix
  · exact inst_r0 D t s A n c w hS hnc hM hF c1
  by_cases c2 : 1073740824 < s.ix
  · exact inst_r1 D t s A n c w hS hnc hM hF c1 c2
  by_cases c3 : t.tm < s.tm
  · exact inst_r2 D t s A n c w hS hnc hM hF c1 c2 c3
  obtain ⟨k, hk⟩ : ∃ k : Nat, (k : Int) = s.ix - t.sn.ix := ⟨(s.ix - t.sn.ix).toNat, by omega⟩
  by_cases hkl : k ≤ n
  · have hl := hS.len
    have he := List.getElem?_eq_getElem (show k - 1 < t.lg.length by omega)
    by_cases htm : (t.lg[k - 1]'(by omega)).tm = s.tm
    · exact instd_save D t s A n c w hS hnc hM hF c1 c2 c3 hk hkl he htm
    · exact instd_else D t s A n c w hS hnc hM hF c1 c2 c3 hk hkl he htm
  · exact instd_far D t s A n c w hS hnc hM hF c1 c2 c3 hk (by omega)
end Go.Proofs.Ytbhnlmlaebngmaa
