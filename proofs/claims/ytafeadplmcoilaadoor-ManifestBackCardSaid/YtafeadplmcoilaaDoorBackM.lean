/-
  ManifestBack: it returns true.
-/
import Derived.Test.YtafeadplmcoilaaDoorWakesM
import Derived.Test.YtafeadplmcoilaaDoorManK
import Derived.Test.YtafeadplmcoilaaDoorAppM
namespace Go.Proofs.YtafeadplmcoilaaDoor
open Go.RowKit
set_option linter.unusedVariables false
set_option linter.unusedSimpArgs false

set_option maxRecDepth 100000 in
set_option maxHeartbeats 8000000 in
theorem back_great (m : ManP) (A : Option Addr) (n c : Nat) (a y : Int) (w : World) (hT : Cr.Tab w) (hS : Sg w w.heap.size A n m.sg) (hk : MOk m) (hnc : n ≤ c) (hy : 0 ≤ y ∧ y ≤ 255) (hg : decide (70 < n) = true) :
    Calls Tryd.prog 4 #[manV m (.slice A n c), .int .i64 a, .int .u8 y] w fun e w' => e = .returned (.bool true) ∧ Below w.heap.size w w' := by
  have HT := Lib.hid hT
  have HK := Lib.hid (⟨hk, hnc⟩ : _ ∧ _)
  clear hT hk hnc
  obtain ⟨z1, hz1⟩ : ∃ z, z = w.heap.size := ⟨_, rfl⟩
  obtain ⟨w1, hw1⟩ : ∃ x, x = w.alloc (.cells #[.int .i64 m.nx, .int .i64 m.tm, .int .i64 m.vt, .int .i64 m.ss, .int .i64 m.sf, .slice A n c] 26) := ⟨_, rfl⟩
  have bb : Below w.heap.size w w1 := by rw [hw1]; exact below_al (below_d0 _) _
  have bz : BoxM w1 z1 m (.slice A n c) := by rw [hw1, hz1]; exact BoxM.new w m _
  replace hS := hS.on bb bb.size
  have B1 := bb
  clear bb
  have HE := Lib.hid (⟨hw1, hz1⟩ : _ ∧ _)
  clear hw1 hz1
  unfold manV
  go_enter Tryd.func4, Tryd.ntmps4
  go_wp2_with fail
  rw [← HE.out.1, ← HE.out.2]
  clear HE
  refine Calls.mono (show Calls Tryd.prog 8 #[.agg #[.int .i64 m.nx, .int .i64 m.tm, .int .i64 m.vt, .int .i64 m.ss, .int .i64 m.sf, .slice A n c]] w1 (fun e w' => e = .returned (.bool (decide (70 < n))) ∧ Below w1.heap.size w1 w') from great_any m A n c w1) ?_
  intro e w2 hh
  obtain ⟨rfl, bb⟩ := hh
  (try clear hh)
  replace bz := bz.below bb
  replace hS := hS.on bb bb.size
  have B2 := B1.trans (bb.mono B1.size)
  clear bb B1
  rw [hg]
  clear hg
  go_wp2_with fail
  refine Calls.mono (wakes_true w2 (HT.out.on B2)) ?_
  rintro e w3 ⟨rfl, bb⟩
  replace bz := bz.below bb
  replace hS := hS.on bb bb.size
  have B3 := B2.trans (bb.mono B2.size)
  clear bb B2
  go_wp2_with fail
  go_ret
  exact ⟨rfl, B3⟩
set_option maxRecDepth 100000 in
set_option maxHeartbeats 8000000 in
theorem back_no (m : ManP) (A : Option Addr) (n c : Nat) (a y : Int) (w : World) (hT : Cr.Tab w) (hS : Sg w w.heap.size A n m.sg) (hk : MOk m) (hnc : n ≤ c) (hy : 0 ≤ y ∧ y ≤ 255) (hg : decide (70 < n) = false) (hn : n ≤ 70) (hM : ¬ May m) :
    Calls Tryd.prog 4 #[manV m (.slice A n c), .int .i64 a, .int .u8 y] w fun e w' => e = .returned (.bool true) ∧ Below w.heap.size w w' := by
  have HT := Lib.hid hT
  have HK := Lib.hid (⟨hk, hnc⟩ : _ ∧ _)
  clear hT hk hnc
  have HM := Lib.hid hM
  clear hM
  obtain ⟨z1, hz1⟩ : ∃ z, z = w.heap.size := ⟨_, rfl⟩
  obtain ⟨w1, hw1⟩ : ∃ x, x = w.alloc (.cells #[.int .i64 m.nx, .int .i64 m.tm, .int .i64 m.vt, .int .i64 m.ss, .int .i64 m.sf, .slice A n c] 26) := ⟨_, rfl⟩
  have bb : Below w.heap.size w w1 := by rw [hw1]; exact below_al (below_d0 _) _
  have bz : BoxM w1 z1 m (.slice A n c) := by rw [hw1, hz1]; exact BoxM.new w m _
  replace hS := hS.on bb bb.size
  have B1 := bb
  clear bb
  have HE := Lib.hid (⟨hw1, hz1⟩ : _ ∧ _)
  clear hw1 hz1
  unfold manV
  go_enter Tryd.func4, Tryd.ntmps4
  go_wp2_with fail
  rw [← HE.out.1, ← HE.out.2]
  clear HE
  refine Calls.mono (show Calls Tryd.prog 8 #[.agg #[.int .i64 m.nx, .int .i64 m.tm, .int .i64 m.vt, .int .i64 m.ss, .int .i64 m.sf, .slice A n c]] w1 (fun e w' => e = .returned (.bool (decide (70 < n))) ∧ Below w1.heap.size w1 w') from great_any m A n c w1) ?_
  intro e w2 hh
  obtain ⟨rfl, bb⟩ := hh
  (try clear hh)
  replace bz := bz.below bb
  replace hS := hS.on bb bb.size
  have B2 := B1.trans (bb.mono B1.size)
  clear bb B1
  rw [hg]
  clear hg
  obtain ⟨k0, k1, k2, k3, k4, k5⟩ := bz.cells
  go_wp2_with fail
  clear k0 k1 k2 k3 k4 k5
  refine Calls.mono (show Calls Tryd.prog 10 #[.agg #[.int .i64 m.nx, .int .i64 m.tm, .int .i64 m.vt, .int .i64 m.ss, .int .i64 m.sf, .slice A n c]] w2 (PutT m w2) from put_any m A n c w2 (HT.out.on B2) hS (by omega) HK.out.1) ?_
  intro e w3 hh
  obtain ⟨A1, c1, rfl, bb⟩ := hh.no HM.out
  (try clear hh)
  replace bz := bz.below bb
  replace hS := hS.on bb bb.size
  have B3 := B2.trans (bb.mono B2.size)
  clear bb B2
  obtain ⟨k0, k1, k2, k3, k4, k5⟩ := bz.cells
  go_wp2_with fail
  clear k0 k1 k2 k3 k4 k5
  refine Calls.mono (show Calls Tryd.prog 19 #[.agg #[.int .i64 m.nx, .int .i64 m.tm, .int .i64 m.vt, .int .i64 m.ss, .int .i64 m.sf, .slice A n c]] w3 (fun e w' => (∃ r, CheckIs m r ∧ e = .returned (.int .i64 r)) ∧ Below w3.heap.size w3 w') from rcheck_any m A n c w3 hS (by omega)) ?_
  intro e w4 hh
  obtain ⟨⟨r, hr, rfl⟩, bb⟩ := hh
  (try clear hh)
  replace bz := bz.below bb
  replace hS := hS.on bb bb.size
  have B4 := B3.trans (bb.mono B3.size)
  clear bb B3
  obtain rfl := hr.same (.inr ⟨HM.out, rfl⟩)
  clear hr
  obtain ⟨k0, k1, k2, k3, k4, k5⟩ := bz.cells
  go_wp2_with fail
  clear k0 k1 k2 k3 k4 k5
  refine Calls.mono (show Calls Tryd.prog 18 #[.agg #[.int .i64 m.nx, .int .i64 m.tm, .int .i64 m.vt, .int .i64 m.ss, .int .i64 m.sf, .slice A n c]] w4 (fun e w' => (∃ r, CheckIs m r ∧ e = .returned (.int .i64 r)) ∧ Below w4.heap.size w4 w') from check_any m A n c w4 hS (by omega) HK.out.1) ?_
  intro e w5 hh
  obtain ⟨⟨r, hr, rfl⟩, bb⟩ := hh
  (try clear hh)
  replace bz := bz.below bb
  replace hS := hS.on bb bb.size
  have B5 := B4.trans (bb.mono B4.size)
  clear bb B4
  obtain rfl := hr.same (.inr ⟨HM.out, rfl⟩)
  clear hr
  go_wp2_with fail
  refine Calls.mono (wakes_true w5 (HT.out.on B5)) ?_
  rintro e w6 ⟨rfl, bb⟩
  replace bz := bz.below bb
  replace hS := hS.on bb bb.size
  have B6 := B5.trans (bb.mono B5.size)
  clear bb B5
  go_wp2_with fail
  go_ret
  exact ⟨rfl, B6⟩
set_option maxRecDepth 100000 in
set_option maxHeartbeats 8000000 in
theorem back_zero (m : ManP) (A : Option Addr) (n c : Nat) (a y : Int) (w : World) (hT : Cr.Tab w) (hS : Sg w w.heap.size A n m.sg) (hk : MOk m) (hnc : n ≤ c) (hy : 0 ≤ y ∧ y ≤ 255) (hg : decide (70 < n) = false) (hn : n ≤ 70) (hM : May m) (h0 : y = 0) :
    Calls Tryd.prog 4 #[manV m (.slice A n c), .int .i64 a, .int .u8 y] w fun e w' => e = .returned (.bool true) ∧ Below w.heap.size w w' := by
  have HT := Lib.hid hT
  have HK := Lib.hid (⟨hk, hnc⟩ : _ ∧ _)
  clear hT hk hnc
  obtain ⟨i0, hi, hz0, hz1, hz2⟩ := info_parts Nu.info_byte
  have hn60 : n ≤ 60 := by have := hM.few; rw [hS.len] at this; exact this
  obtain ⟨b, hb⟩ : ∃ b, b = manL m := ⟨_, rfl⟩
  obtain ⟨q, hq⟩ : ∃ q, b.length = q := ⟨_, rfl⟩
  have hI : IsMan m b := ⟨hM, hb⟩
  have hl := hI.len
  rw [hq] at hl
  have hq0 : ((q : Int) == 0) = false := by simp; omega
  obtain ⟨q1, hq1⟩ : ∃ q1, q1 = q - 1 := ⟨_, rfl⟩
  have hsub : (q : Int) - 1 = (q1 : Int) := by omega
  have hle : q1 ≤ q := by omega
  have hql : q ≤ 1235 := hl.2
  have hqp : 6 ≤ q := hl.1
  obtain ⟨t, p, pl0, pl1, pl2, pl3, hpq⟩ := place_two (n := q) (by omega) (by omega) a
  have v0 : (y == 0) = true := by simp; exact h0
  have HP := Lib.hid (⟨hI, hq, hM, hy, h0, hq1, hb, hS.len⟩ : _ ∧ _ ∧ _ ∧ _ ∧ _ ∧ _ ∧ _ ∧ _)
  clear hI hq hM hb hl hy h0 hq1
  obtain ⟨z1, hz1⟩ : ∃ z, z = w.heap.size := ⟨_, rfl⟩
  obtain ⟨w1, hw1⟩ : ∃ x, x = w.alloc (.cells #[.int .i64 m.nx, .int .i64 m.tm, .int .i64 m.vt, .int .i64 m.ss, .int .i64 m.sf, .slice A n c] 26) := ⟨_, rfl⟩
  have bb : Below w.heap.size w w1 := by rw [hw1]; exact below_al (below_d0 _) _
  have bz : BoxM w1 z1 m (.slice A n c) := by rw [hw1, hz1]; exact BoxM.new w m _
  replace hS := hS.on bb bb.size
  have B1 := bb
  clear bb
  have HE := Lib.hid (⟨hw1, hz1⟩ : _ ∧ _)
  clear hw1 hz1
  unfold manV
  go_enter Tryd.func4, Tryd.ntmps4
  go_wp2_with fail
  rw [← HE.out.1, ← HE.out.2]
  clear HE
  refine Calls.mono (show Calls Tryd.prog 8 #[.agg #[.int .i64 m.nx, .int .i64 m.tm, .int .i64 m.vt, .int .i64 m.ss, .int .i64 m.sf, .slice A n c]] w1 (fun e w' => e = .returned (.bool (decide (70 < n))) ∧ Below w1.heap.size w1 w') from great_any m A n c w1) ?_
  intro e w2 hh
  obtain ⟨rfl, bb⟩ := hh
  (try clear hh)
  replace bz := bz.below bb
  replace hS := hS.on bb bb.size
  have B2 := B1.trans (bb.mono B1.size)
  clear bb B1
  rw [hg]
  clear hg
  obtain ⟨k0, k1, k2, k3, k4, k5⟩ := bz.cells
  go_wp2_with fail
  clear k0 k1 k2 k3 k4 k5
  refine Calls.mono (show Calls Tryd.prog 10 #[.agg #[.int .i64 m.nx, .int .i64 m.tm, .int .i64 m.vt, .int .i64 m.ss, .int .i64 m.sf, .slice A n c]] w2 (PutT m w2) from put_any m A n c w2 (HT.out.on B2) hS (by omega) HK.out.1) ?_
  intro e w3 hh
  obtain ⟨A1, c1, rfl, hc1, r1, bb⟩ := hh.yes HP.out.2.2.1 (n := q) (by rw [← HP.out.2.2.2.2.2.2.1]; exact HP.out.2.1)
  (try clear hh)
  replace bz := bz.below bb
  replace hS := hS.on bb bb.size
  have B3 := B2.trans (bb.mono B2.size)
  clear bb B2
  rw [← HP.out.2.2.2.2.2.2.1] at r1
  obtain ⟨k0, k1, k2, k3, k4, k5⟩ := bz.cells
  go_wp2_with fail
  clear k0 k1 k2 k3 k4 k5
  refine Calls.mono (show Calls Tryd.prog 19 #[.agg #[.int .i64 m.nx, .int .i64 m.tm, .int .i64 m.vt, .int .i64 m.ss, .int .i64 m.sf, .slice A n c]] w3 (fun e w' => (∃ r, CheckIs m r ∧ e = .returned (.int .i64 r)) ∧ Below w3.heap.size w3 w') from rcheck_any m A n c w3 hS (by omega)) ?_
  intro e w4 hh
  obtain ⟨⟨r, hr, rfl⟩, bb⟩ := hh
  (try clear hh)
  replace bz := bz.below bb
  replace hS := hS.on bb bb.size
  replace r1 := r1.on bb bb.size
  have B4 := B3.trans (bb.mono B3.size)
  clear bb B3
  obtain rfl := hr.same (.inl ⟨HP.out.2.2.1, rfl⟩)
  clear hr
  go_wp2_with fail
  have hTk := take_any A1 q c1 (b) w4 (HT.out.on B4) r1 (HP.out.1.byt) hc1 (by omega)
  refine Calls.mono (hTk) ?_
  intro e w5 hh
  obtain ⟨A2, c2, rfl, hc2, hS2, bb⟩ := hh.yes HP.out.1 HP.out.2.2.2.2.2.2.2
  (try clear hh)
  replace bz := bz.below bb
  replace hS := hS.on bb bb.size
  replace r1 := r1.on bb bb.size
  have B5 := B4.trans (bb.mono B4.size)
  clear bb B4
  clear hTk
  have S2 := hS2.sg
  clear hS2
  unfold manV
  obtain ⟨z6, hz6⟩ : ∃ z, z = w5.heap.size := ⟨_, rfl⟩
  obtain ⟨w6, hw6⟩ : ∃ x, x = w5.alloc (.cells #[.int .i64 m.nx, .int .i64 m.tm, .int .i64 m.vt, .int .i64 m.ss, .int .i64 m.sf, .slice A2 n c2] 26) := ⟨_, rfl⟩
  have bb : Below w5.heap.size w5 w6 := by rw [hw6]; exact below_al (below_d0 _) _
  have bn : BoxM w6 z6 m (.slice A2 n c2) := by rw [hw6, hz6]; exact BoxM.new w5 m _
  replace bz := bz.below bb
  replace hS := hS.on bb bb.size
  replace r1 := r1.on bb bb.size
  replace S2 := S2.on bb bb.size
  have B6 := B5.trans (bb.mono B5.size)
  clear bb B5
  obtain ⟨k0, k1, k2, k3, k4, k5⟩ := bz.cells
  rw [hw6] at k0 k1 k2 k3 k4 k5
  obtain ⟨g0, g1, g2, g3, g4, g5⟩ := bn.cells
  rw [hw6, hz6] at g0 g1 g2 g3 g4 g5
  go_wp2_with fail
  clear k0 k1 k2 k3 k4 k5
  clear g0 g1 g2 g3 g4 g5
  rw [← hw6, ← hz6]
  clear hw6 hz6
  refine Calls.mono (show Calls Tryd.prog 17 #[.agg #[.int .i64 m.nx, .int .i64 m.tm, .int .i64 m.vt, .int .i64 m.ss, .int .i64 m.sf, .slice A2 n c2], .agg #[.int .i64 m.nx, .int .i64 m.tm, .int .i64 m.vt, .int .i64 m.ss, .int .i64 m.sf, .slice A n c]] w6 (fun e w' => (∃ b, SameM m m b ∧ e = .returned (.bool b)) ∧ Below w6.heap.size w6 w') from rsameM_any m m A2 A n n c2 c w6 S2 hS (by omega) (by omega)) ?_
  intro e w7 hh
  obtain ⟨⟨r, hr, rfl⟩, bb⟩ := hh
  (try clear hh)
  replace bz := bz.below bb
  replace bn := bn.below bb
  replace hS := hS.on bb bb.size
  replace r1 := r1.on bb bb.size
  replace S2 := S2.on bb bb.size
  have B7 := B6.trans (bb.mono B6.size)
  clear bb B6
  obtain rfl := hr.same (SameM.yes rfl)
  clear hr S2 bn
  go_wp2_with (at_builtin; refine hold ?_)
  refine unhold (wpList_append (.tmp 76) (.tmp 77) 27 Tryd.underlying27 hi hz0 hz1 hz2 Nu.byte_cells (by decide) (own_empty w7 w7.heap.size 5 1 (Nat.le_refl _)) ((Source.rd r1).alloc _) (by unfold maxLen; omega) (by omega) (by simp) rfl rfl rfl rfl ?_)
  intro va wa La
  obtain ⟨Aa, ca, rfl, hca, owna, ba, na⟩ := La.made
  clear La
  obtain ⟨g, capa, hea⟩ := own_some owna (Nat.lt_of_le_of_lt (Nat.zero_le _) hpq)
  cases hea
  have hg := na g rfl
  obtain ⟨x, hx⟩ : ∃ x, b[p]?.getD 0 = x := ⟨_, rfl⟩
  have hFl := HP.out.2.1
  have hcd : wa.cell? ⟨g, p, none⟩ = some (.int .u8 x) := by
    rw [owna.cellAt p (by rw [Nat.mul_one]; exact hpq), List.getElem?_map, ← hx, List.getElem?_eq_getElem (by rw [hFl]; exact hpq)]
    rfl
  obtain ⟨ownb, hgb⟩ := owna.stored p (.int .u8 (bits .xor .u8 x y))
  rw [← List.map_set] at ownb
  have hfj := owna.frozenAt p
  obtain ⟨F9, hF9⟩ : ∃ F9, F9 = b.set p (bits .xor .u8 x y) := ⟨_, rfl⟩
  have hF : F9 = b := by
    rw [hF9, HP.out.2.2.2.2.1, xor_zero (by rw [← hx]; exact byt_getD HP.out.1.byt p)]
    exact set_self (by rw [hFl]; exact hpq) hx
  have hSn : IsMan m F9 := by rw [hF]; exact HP.out.1
  have hb9 : Byt F9 := hSn.byt
  have bb : Below w7.heap.size w7 (wa.setCell ⟨g, p, none⟩ (.int .u8 (bits .xor .u8 x y))) := ba.setCell hg _
  obtain ⟨w8, hw8⟩ : ∃ wx, wx = wa.setCell ⟨g, p, none⟩ (.int .u8 (bits .xor .u8 x y)) := ⟨_, rfl⟩
  rw [← hw8] at bb ownb
  rw [← hF9] at ownb
  have rF := Rd.of_own ownb
  replace bz := bz.below bb
  replace hS := hS.on bb bb.size
  replace r1 := r1.on bb bb.size
  have B8 := B7.trans (bb.mono B7.size)
  clear bb B7
  have HA := Lib.hid (⟨hSn, hb9, rF⟩ : _ ∧ _ ∧ _)
  clear hSn hb9 hF9 owna ownb hgb hg na ba hx hFl hF
  go_wp2_with fail
  rw [← hw8]
  clear hw8 hcd hfj pl0 pl1 pl2 pl3
  have hTk := take_any (some ⟨g, 0, none⟩) q ca (F9) w8 (HT.out.on B8) rF (HA.out.2.1) hca (by omega)
  refine Calls.mono (hTk) ?_
  intro e w9 hh
  obtain ⟨A3, c3, rfl, hc3, hS3, bb⟩ := hh.yes HA.out.1 HP.out.2.2.2.2.2.2.2
  (try clear hh)
  replace bz := bz.below bb
  replace hS := hS.on bb bb.size
  replace r1 := r1.on bb bb.size
  replace rF := rF.on bb bb.size
  have B9 := B8.trans (bb.mono B8.size)
  clear bb B8
  clear hTk
  have S3 := hS3.sg
  clear hS3
  unfold manV
  obtain ⟨z10, hz10⟩ : ∃ z, z = w9.heap.size := ⟨_, rfl⟩
  obtain ⟨w10, hw10⟩ : ∃ x, x = w9.alloc (.cells #[.int .i64 m.nx, .int .i64 m.tm, .int .i64 m.vt, .int .i64 m.ss, .int .i64 m.sf, .slice A3 n c3] 26) := ⟨_, rfl⟩
  have bb : Below w9.heap.size w9 w10 := by rw [hw10]; exact below_al (below_d0 _) _
  have b3 : BoxM w10 z10 m (.slice A3 n c3) := by rw [hw10, hz10]; exact BoxM.new w9 m _
  replace bz := bz.below bb
  replace hS := hS.on bb bb.size
  replace r1 := r1.on bb bb.size
  replace rF := rF.on bb bb.size
  replace S3 := S3.on bb bb.size
  have B10 := B9.trans (bb.mono B9.size)
  clear bb B9
  clear rF HA S3
  go_wp2_with (at_builtin; refine hold ?_)
  have hsz : z10 + 1 = w10.heap.size := by rw [hw10, hz10]; simp
  rw [← hw10, ← hz10, hsz]
  clear hsz hw10 hz10 b3
  refine unhold (wpList_append (.tmp 94) (.tmp 95) 27 Tryd.underlying27 hi hz0 hz1 hz2 Nu.byte_cells (by decide) (own_empty w10 w10.heap.size 5 1 (Nat.le_refl _)) ((Source.rd r1).alloc _) (by unfold maxLen; omega) (by omega) (by simp) rfl rfl rfl rfl ?_)
  intro vb wb Lb
  obtain ⟨Ab, cb, rfl, hcb, ownB, bB, nB⟩ := Lb.made
  clear Lb
  obtain ⟨wl, hwl⟩ : ∃ x, x = wb.alloc (.cells #[.int .u8 y] 5) := ⟨_, rfl⟩
  have bl : Below wb.heap.size wb wl := by rw [hwl]; exact (Below.refl _ _).alloc (Nat.le_refl _) _
  have bL : Below w10.heap.size w10 wl := bB.trans (bl.mono bB.size)
  have ownL := own_keep ownB bl
  obtain ⟨zl, hzl⟩ : ∃ z, z = wb.heap.size := ⟨_, rfl⟩
  have rl : Rd wl wl.heap.size .u8 (some ⟨zl, 0, none⟩) 1 [y] := by rw [hwl, hzl]; exact Nu.Rd.made wb .u8 5 [y] rfl
  have HL := Lib.hid (⟨ownL, bL, nB, rl⟩ : _ ∧ _ ∧ _ ∧ _)
  clear ownL bL nB rl ownB bB bl
  go_wp2_with (at_builtin; refine hold ?_)
  rw [← hwl, ← hzl]
  clear hwl hzl
  refine unhold (wpList_append (.tmp 96) (.tmp 98) 27 Tryd.underlying27 hi hz0 hz1 hz2 Nu.byte_cells (by decide) HL.out.1 (Source.rd HL.out.2.2.2) (by unfold maxLen; omega) (by omega) (by have := HL.out.2.1.size; omega) rfl rfl rfl rfl ?_)
  intro vc wc Lc
  obtain ⟨Ac, cc, rfl, hcc, ownC, bb, nC⟩ := Longer.more (B := w10.heap.size) HL.out.2.1 HL.out.2.1.size HL.out.2.2.1 Lc
  have rC := own_bytes (m := 0) ownC
  clear Lc ownC nC HL
  obtain ⟨w11, hw11⟩ : ∃ x, x = wc := ⟨_, rfl⟩
  subst hw11
  replace bz := bz.below bb
  replace hS := hS.on bb bb.size
  replace r1 := r1.on bb bb.size
  have B11 := B10.trans (bb.mono B10.size)
  clear bb B10
  have HC := Lib.hid (⟨rC, hcc⟩ : _ ∧ _)
  clear rC
  go_wp2_with fail
  have hTk := take_any Ac (q + 1) cc (b ++ [y]) w11 (HT.out.on B11) HC.out.1 (HP.out.1.byt.append (byt_one HP.out.2.2.2.1)) HC.out.2 (by omega)
  refine Calls.mono (hTk) ?_
  intro e w12 hh
  obtain ⟨A4, c4, rfl, bb⟩ := hh.no (fun t => man_more HP.out.1 y)
  (try clear hh)
  replace bz := bz.below bb
  replace hS := hS.on bb bb.size
  replace r1 := r1.on bb bb.size
  have B12 := B11.trans (bb.mono B11.size)
  clear bb B11
  clear hTk
  rw [show manV noneM (.slice A4 0 c4) = .agg #[.int .i64 0, .int .i64 0, .int .i64 0, .int .i64 0, .int .i64 0, .slice A4 0 c4] from rfl]
  obtain ⟨z13, hz13⟩ : ∃ z, z = w12.heap.size := ⟨_, rfl⟩
  obtain ⟨w13, hw13⟩ : ∃ x, x = w12.alloc (.cells #[.int .i64 0, .int .i64 0, .int .i64 0, .int .i64 0, .int .i64 0, .slice A4 0 c4] 26) := ⟨_, rfl⟩
  have bb : Below w12.heap.size w12 w13 := by rw [hw13]; exact below_al (below_d0 _) _
  have b4 : BoxM w13 z13 noneM (.slice A4 0 c4) := by rw [hw13, hz13]; exact BoxM.new w12 noneM _
  replace bz := bz.below bb
  replace hS := hS.on bb bb.size
  replace r1 := r1.on bb bb.size
  have B13 := B12.trans (bb.mono B12.size)
  clear bb B12
  clear HC hcc
  have hcut := Cr.cut_first Tryd.underlying27 hi hz1 A1 q c1 q1 (by omega)
  go_wp2_with fail
  rw [← hw13, ← hz13]
  clear hw13 hz13 hcut b4
  have hless : ∀ t, ¬ IsMan t (b.take q1) := fun t => by
    have h := man_less (t := t) HP.out.1
    rw [HP.out.2.1, ← HP.out.2.2.2.2.2.1] at h
    exact h
  have hTk := take_any A1 q1 c1 (b.take q1) w13 (HT.out.on B13) (r1.first hle) (HP.out.1.byt.take q1) (by omega) (by omega)
  refine Calls.mono (hTk) ?_
  intro e w14 hh
  obtain ⟨A5, c5, rfl, bb⟩ := hh.no hless
  (try clear hh)
  replace bz := bz.below bb
  replace hS := hS.on bb bb.size
  replace r1 := r1.on bb bb.size
  have B14 := B13.trans (bb.mono B13.size)
  clear bb B13
  clear hTk
  rw [show manV noneM (.slice A5 0 c5) = .agg #[.int .i64 0, .int .i64 0, .int .i64 0, .int .i64 0, .int .i64 0, .slice A5 0 c5] from rfl]
  obtain ⟨z15, hz15⟩ : ∃ z, z = w14.heap.size := ⟨_, rfl⟩
  obtain ⟨w15, hw15⟩ : ∃ x, x = w14.alloc (.cells #[.int .i64 0, .int .i64 0, .int .i64 0, .int .i64 0, .int .i64 0, .slice A5 0 c5] 26) := ⟨_, rfl⟩
  have bb : Below w14.heap.size w14 w15 := by rw [hw15]; exact below_al (below_d0 _) _
  have b5 : BoxM w15 z15 noneM (.slice A5 0 c5) := by rw [hw15, hz15]; exact BoxM.new w14 noneM _
  replace bz := bz.below bb
  replace hS := hS.on bb bb.size
  replace r1 := r1.on bb bb.size
  have B15 := B14.trans (bb.mono B14.size)
  clear bb B14
  clear hless
  go_wp2_with fail
  rw [← hw15]
  refine Calls.mono (wakes_true w15 (HT.out.on B15)) ?_
  rintro e w16 ⟨rfl, bb⟩
  replace bz := bz.below bb
  replace b5 := b5.below bb
  replace hS := hS.on bb bb.size
  replace r1 := r1.on bb bb.size
  have B16 := B15.trans (bb.mono B15.size)
  clear bb B15
  go_wp2_with fail
  go_ret
  exact ⟨rfl, B16⟩
set_option maxRecDepth 100000 in
set_option maxHeartbeats 8000000 in
theorem back_turn (m : ManP) (A : Option Addr) (n c : Nat) (a y : Int) (w : World) (hT : Cr.Tab w) (hS : Sg w w.heap.size A n m.sg) (hk : MOk m) (hnc : n ≤ c) (hy : 0 ≤ y ∧ y ≤ 255) (hg : decide (70 < n) = false) (hn : n ≤ 70) (hM : May m) (h0 : ¬ y = 0) :
    Calls Tryd.prog 4 #[manV m (.slice A n c), .int .i64 a, .int .u8 y] w fun e w' => e = .returned (.bool true) ∧ Below w.heap.size w w' := by
  have HT := Lib.hid hT
  have HK := Lib.hid (⟨hk, hnc⟩ : _ ∧ _)
  clear hT hk hnc
  obtain ⟨i0, hi, hz0, hz1, hz2⟩ := info_parts Nu.info_byte
  have hn60 : n ≤ 60 := by have := hM.few; rw [hS.len] at this; exact this
  obtain ⟨b, hb⟩ : ∃ b, b = manL m := ⟨_, rfl⟩
  obtain ⟨q, hq⟩ : ∃ q, b.length = q := ⟨_, rfl⟩
  have hI : IsMan m b := ⟨hM, hb⟩
  have hl := hI.len
  rw [hq] at hl
  have hq0 : ((q : Int) == 0) = false := by simp; omega
  obtain ⟨q1, hq1⟩ : ∃ q1, q1 = q - 1 := ⟨_, rfl⟩
  have hsub : (q : Int) - 1 = (q1 : Int) := by omega
  have hle : q1 ≤ q := by omega
  have hql : q ≤ 1235 := hl.2
  have hqp : 6 ≤ q := hl.1
  obtain ⟨t, p, pl0, pl1, pl2, pl3, hpq⟩ := place_two (n := q) (by omega) (by omega) a
  have v0 : (y == 0) = false := by simp; exact h0
  have HP := Lib.hid (⟨hI, hq, hM, hy, h0, hq1, hb, hS.len⟩ : _ ∧ _ ∧ _ ∧ _ ∧ _ ∧ _ ∧ _ ∧ _)
  clear hI hq hM hb hl hy h0 hq1
  obtain ⟨z1, hz1⟩ : ∃ z, z = w.heap.size := ⟨_, rfl⟩
  obtain ⟨w1, hw1⟩ : ∃ x, x = w.alloc (.cells #[.int .i64 m.nx, .int .i64 m.tm, .int .i64 m.vt, .int .i64 m.ss, .int .i64 m.sf, .slice A n c] 26) := ⟨_, rfl⟩
  have bb : Below w.heap.size w w1 := by rw [hw1]; exact below_al (below_d0 _) _
  have bz : BoxM w1 z1 m (.slice A n c) := by rw [hw1, hz1]; exact BoxM.new w m _
  replace hS := hS.on bb bb.size
  have B1 := bb
  clear bb
  have HE := Lib.hid (⟨hw1, hz1⟩ : _ ∧ _)
  clear hw1 hz1
  unfold manV
  go_enter Tryd.func4, Tryd.ntmps4
  go_wp2_with fail
  rw [← HE.out.1, ← HE.out.2]
  clear HE
  refine Calls.mono (show Calls Tryd.prog 8 #[.agg #[.int .i64 m.nx, .int .i64 m.tm, .int .i64 m.vt, .int .i64 m.ss, .int .i64 m.sf, .slice A n c]] w1 (fun e w' => e = .returned (.bool (decide (70 < n))) ∧ Below w1.heap.size w1 w') from great_any m A n c w1) ?_
  intro e w2 hh
  obtain ⟨rfl, bb⟩ := hh
  (try clear hh)
  replace bz := bz.below bb
  replace hS := hS.on bb bb.size
  have B2 := B1.trans (bb.mono B1.size)
  clear bb B1
  rw [hg]
  clear hg
  obtain ⟨k0, k1, k2, k3, k4, k5⟩ := bz.cells
  go_wp2_with fail
  clear k0 k1 k2 k3 k4 k5
  refine Calls.mono (show Calls Tryd.prog 10 #[.agg #[.int .i64 m.nx, .int .i64 m.tm, .int .i64 m.vt, .int .i64 m.ss, .int .i64 m.sf, .slice A n c]] w2 (PutT m w2) from put_any m A n c w2 (HT.out.on B2) hS (by omega) HK.out.1) ?_
  intro e w3 hh
  obtain ⟨A1, c1, rfl, hc1, r1, bb⟩ := hh.yes HP.out.2.2.1 (n := q) (by rw [← HP.out.2.2.2.2.2.2.1]; exact HP.out.2.1)
  (try clear hh)
  replace bz := bz.below bb
  replace hS := hS.on bb bb.size
  have B3 := B2.trans (bb.mono B2.size)
  clear bb B2
  rw [← HP.out.2.2.2.2.2.2.1] at r1
  obtain ⟨k0, k1, k2, k3, k4, k5⟩ := bz.cells
  go_wp2_with fail
  clear k0 k1 k2 k3 k4 k5
  refine Calls.mono (show Calls Tryd.prog 19 #[.agg #[.int .i64 m.nx, .int .i64 m.tm, .int .i64 m.vt, .int .i64 m.ss, .int .i64 m.sf, .slice A n c]] w3 (fun e w' => (∃ r, CheckIs m r ∧ e = .returned (.int .i64 r)) ∧ Below w3.heap.size w3 w') from rcheck_any m A n c w3 hS (by omega)) ?_
  intro e w4 hh
  obtain ⟨⟨r, hr, rfl⟩, bb⟩ := hh
  (try clear hh)
  replace bz := bz.below bb
  replace hS := hS.on bb bb.size
  replace r1 := r1.on bb bb.size
  have B4 := B3.trans (bb.mono B3.size)
  clear bb B3
  obtain rfl := hr.same (.inl ⟨HP.out.2.2.1, rfl⟩)
  clear hr
  go_wp2_with fail
  have hTk := take_any A1 q c1 (b) w4 (HT.out.on B4) r1 (HP.out.1.byt) hc1 (by omega)
  refine Calls.mono (hTk) ?_
  intro e w5 hh
  obtain ⟨A2, c2, rfl, hc2, hS2, bb⟩ := hh.yes HP.out.1 HP.out.2.2.2.2.2.2.2
  (try clear hh)
  replace bz := bz.below bb
  replace hS := hS.on bb bb.size
  replace r1 := r1.on bb bb.size
  have B5 := B4.trans (bb.mono B4.size)
  clear bb B4
  clear hTk
  have S2 := hS2.sg
  clear hS2
  unfold manV
  obtain ⟨z6, hz6⟩ : ∃ z, z = w5.heap.size := ⟨_, rfl⟩
  obtain ⟨w6, hw6⟩ : ∃ x, x = w5.alloc (.cells #[.int .i64 m.nx, .int .i64 m.tm, .int .i64 m.vt, .int .i64 m.ss, .int .i64 m.sf, .slice A2 n c2] 26) := ⟨_, rfl⟩
  have bb : Below w5.heap.size w5 w6 := by rw [hw6]; exact below_al (below_d0 _) _
  have bn : BoxM w6 z6 m (.slice A2 n c2) := by rw [hw6, hz6]; exact BoxM.new w5 m _
  replace bz := bz.below bb
  replace hS := hS.on bb bb.size
  replace r1 := r1.on bb bb.size
  replace S2 := S2.on bb bb.size
  have B6 := B5.trans (bb.mono B5.size)
  clear bb B5
  obtain ⟨k0, k1, k2, k3, k4, k5⟩ := bz.cells
  rw [hw6] at k0 k1 k2 k3 k4 k5
  obtain ⟨g0, g1, g2, g3, g4, g5⟩ := bn.cells
  rw [hw6, hz6] at g0 g1 g2 g3 g4 g5
  go_wp2_with fail
  clear k0 k1 k2 k3 k4 k5
  clear g0 g1 g2 g3 g4 g5
  rw [← hw6, ← hz6]
  clear hw6 hz6
  refine Calls.mono (show Calls Tryd.prog 17 #[.agg #[.int .i64 m.nx, .int .i64 m.tm, .int .i64 m.vt, .int .i64 m.ss, .int .i64 m.sf, .slice A2 n c2], .agg #[.int .i64 m.nx, .int .i64 m.tm, .int .i64 m.vt, .int .i64 m.ss, .int .i64 m.sf, .slice A n c]] w6 (fun e w' => (∃ b, SameM m m b ∧ e = .returned (.bool b)) ∧ Below w6.heap.size w6 w') from rsameM_any m m A2 A n n c2 c w6 S2 hS (by omega) (by omega)) ?_
  intro e w7 hh
  obtain ⟨⟨r, hr, rfl⟩, bb⟩ := hh
  (try clear hh)
  replace bz := bz.below bb
  replace bn := bn.below bb
  replace hS := hS.on bb bb.size
  replace r1 := r1.on bb bb.size
  replace S2 := S2.on bb bb.size
  have B7 := B6.trans (bb.mono B6.size)
  clear bb B6
  obtain rfl := hr.same (SameM.yes rfl)
  clear hr S2 bn
  go_wp2_with (at_builtin; refine hold ?_)
  refine unhold (wpList_append (.tmp 76) (.tmp 77) 27 Tryd.underlying27 hi hz0 hz1 hz2 Nu.byte_cells (by decide) (own_empty w7 w7.heap.size 5 1 (Nat.le_refl _)) ((Source.rd r1).alloc _) (by unfold maxLen; omega) (by omega) (by simp) rfl rfl rfl rfl ?_)
  intro va wa La
  obtain ⟨Aa, ca, rfl, hca, owna, ba, na⟩ := La.made
  clear La
  obtain ⟨g, capa, hea⟩ := own_some owna (Nat.lt_of_le_of_lt (Nat.zero_le _) hpq)
  cases hea
  have hg := na g rfl
  obtain ⟨x, hx⟩ : ∃ x, b[p]?.getD 0 = x := ⟨_, rfl⟩
  have hFl := HP.out.2.1
  have hcd : wa.cell? ⟨g, p, none⟩ = some (.int .u8 x) := by
    rw [owna.cellAt p (by rw [Nat.mul_one]; exact hpq), List.getElem?_map, ← hx, List.getElem?_eq_getElem (by rw [hFl]; exact hpq)]
    rfl
  obtain ⟨ownb, hgb⟩ := owna.stored p (.int .u8 (bits .xor .u8 x y))
  rw [← List.map_set] at ownb
  have hfj := owna.frozenAt p
  obtain ⟨F9, hF9⟩ : ∃ F9, F9 = b.set p (bits .xor .u8 x y) := ⟨_, rfl⟩
  have hSn : ∀ t, ¬ IsMan t F9 := fun t => by
    have h := man_harm (t := t) HP.out.1 (k := p) (by rw [hFl]; exact hpq) HP.out.2.2.2.1 HP.out.2.2.2.2.1
    rw [hx] at h
    rw [hF9]
    exact h
  have hb9 : Byt F9 := by rw [hF9]; exact byt_set HP.out.1.byt p (xor_byte (by rw [← hx]; exact byt_getD HP.out.1.byt p) HP.out.2.2.2.1)
  have bb : Below w7.heap.size w7 (wa.setCell ⟨g, p, none⟩ (.int .u8 (bits .xor .u8 x y))) := ba.setCell hg _
  obtain ⟨w8, hw8⟩ : ∃ wx, wx = wa.setCell ⟨g, p, none⟩ (.int .u8 (bits .xor .u8 x y)) := ⟨_, rfl⟩
  rw [← hw8] at bb ownb
  rw [← hF9] at ownb
  have rF := Rd.of_own ownb
  replace bz := bz.below bb
  replace hS := hS.on bb bb.size
  replace r1 := r1.on bb bb.size
  have B8 := B7.trans (bb.mono B7.size)
  clear bb B7
  have HA := Lib.hid (⟨hSn, hb9, rF⟩ : _ ∧ _ ∧ _)
  clear hSn hb9 hF9 owna ownb hgb hg na ba hx hFl
  go_wp2_with fail
  rw [← hw8]
  clear hw8 hcd hfj pl0 pl1 pl2 pl3
  have hTk := take_any (some ⟨g, 0, none⟩) q ca (F9) w8 (HT.out.on B8) rF (HA.out.2.1) hca (by omega)
  refine Calls.mono (hTk) ?_
  intro e w9 hh
  obtain ⟨A3, c3, rfl, bb⟩ := hh.no HA.out.1
  (try clear hh)
  replace bz := bz.below bb
  replace hS := hS.on bb bb.size
  replace r1 := r1.on bb bb.size
  replace rF := rF.on bb bb.size
  have B9 := B8.trans (bb.mono B8.size)
  clear bb B8
  clear hTk
  rw [show manV noneM (.slice A3 0 c3) = .agg #[.int .i64 0, .int .i64 0, .int .i64 0, .int .i64 0, .int .i64 0, .slice A3 0 c3] from rfl]
  obtain ⟨z10, hz10⟩ : ∃ z, z = w9.heap.size := ⟨_, rfl⟩
  obtain ⟨w10, hw10⟩ : ∃ x, x = w9.alloc (.cells #[.int .i64 0, .int .i64 0, .int .i64 0, .int .i64 0, .int .i64 0, .slice A3 0 c3] 26) := ⟨_, rfl⟩
  have bb : Below w9.heap.size w9 w10 := by rw [hw10]; exact below_al (below_d0 _) _
  have b3 : BoxM w10 z10 noneM (.slice A3 0 c3) := by rw [hw10, hz10]; exact BoxM.new w9 noneM _
  replace bz := bz.below bb
  replace hS := hS.on bb bb.size
  replace r1 := r1.on bb bb.size
  replace rF := rF.on bb bb.size
  have B10 := B9.trans (bb.mono B9.size)
  clear bb B9
  clear rF HA
  go_wp2_with (at_builtin; refine hold ?_)
  have hsz : z10 + 1 = w10.heap.size := by rw [hw10, hz10]; simp
  rw [← hw10, ← hz10, hsz]
  clear hsz hw10 hz10 b3
  refine unhold (wpList_append (.tmp 94) (.tmp 95) 27 Tryd.underlying27 hi hz0 hz1 hz2 Nu.byte_cells (by decide) (own_empty w10 w10.heap.size 5 1 (Nat.le_refl _)) ((Source.rd r1).alloc _) (by unfold maxLen; omega) (by omega) (by simp) rfl rfl rfl rfl ?_)
  intro vb wb Lb
  obtain ⟨Ab, cb, rfl, hcb, ownB, bB, nB⟩ := Lb.made
  clear Lb
  obtain ⟨wl, hwl⟩ : ∃ x, x = wb.alloc (.cells #[.int .u8 y] 5) := ⟨_, rfl⟩
  have bl : Below wb.heap.size wb wl := by rw [hwl]; exact (Below.refl _ _).alloc (Nat.le_refl _) _
  have bL : Below w10.heap.size w10 wl := bB.trans (bl.mono bB.size)
  have ownL := own_keep ownB bl
  obtain ⟨zl, hzl⟩ : ∃ z, z = wb.heap.size := ⟨_, rfl⟩
  have rl : Rd wl wl.heap.size .u8 (some ⟨zl, 0, none⟩) 1 [y] := by rw [hwl, hzl]; exact Nu.Rd.made wb .u8 5 [y] rfl
  have HL := Lib.hid (⟨ownL, bL, nB, rl⟩ : _ ∧ _ ∧ _ ∧ _)
  clear ownL bL nB rl ownB bB bl
  go_wp2_with (at_builtin; refine hold ?_)
  rw [← hwl, ← hzl]
  clear hwl hzl
  refine unhold (wpList_append (.tmp 96) (.tmp 98) 27 Tryd.underlying27 hi hz0 hz1 hz2 Nu.byte_cells (by decide) HL.out.1 (Source.rd HL.out.2.2.2) (by unfold maxLen; omega) (by omega) (by have := HL.out.2.1.size; omega) rfl rfl rfl rfl ?_)
  intro vc wc Lc
  obtain ⟨Ac, cc, rfl, hcc, ownC, bb, nC⟩ := Longer.more (B := w10.heap.size) HL.out.2.1 HL.out.2.1.size HL.out.2.2.1 Lc
  have rC := own_bytes (m := 0) ownC
  clear Lc ownC nC HL
  obtain ⟨w11, hw11⟩ : ∃ x, x = wc := ⟨_, rfl⟩
  subst hw11
  replace bz := bz.below bb
  replace hS := hS.on bb bb.size
  replace r1 := r1.on bb bb.size
  have B11 := B10.trans (bb.mono B10.size)
  clear bb B10
  have HC := Lib.hid (⟨rC, hcc⟩ : _ ∧ _)
  clear rC
  go_wp2_with fail
  have hTk := take_any Ac (q + 1) cc (b ++ [y]) w11 (HT.out.on B11) HC.out.1 (HP.out.1.byt.append (byt_one HP.out.2.2.2.1)) HC.out.2 (by omega)
  refine Calls.mono (hTk) ?_
  intro e w12 hh
  obtain ⟨A4, c4, rfl, bb⟩ := hh.no (fun t => man_more HP.out.1 y)
  (try clear hh)
  replace bz := bz.below bb
  replace hS := hS.on bb bb.size
  replace r1 := r1.on bb bb.size
  have B12 := B11.trans (bb.mono B11.size)
  clear bb B11
  clear hTk
  rw [show manV noneM (.slice A4 0 c4) = .agg #[.int .i64 0, .int .i64 0, .int .i64 0, .int .i64 0, .int .i64 0, .slice A4 0 c4] from rfl]
  obtain ⟨z13, hz13⟩ : ∃ z, z = w12.heap.size := ⟨_, rfl⟩
  obtain ⟨w13, hw13⟩ : ∃ x, x = w12.alloc (.cells #[.int .i64 0, .int .i64 0, .int .i64 0, .int .i64 0, .int .i64 0, .slice A4 0 c4] 26) := ⟨_, rfl⟩
  have bb : Below w12.heap.size w12 w13 := by rw [hw13]; exact below_al (below_d0 _) _
  have b4 : BoxM w13 z13 noneM (.slice A4 0 c4) := by rw [hw13, hz13]; exact BoxM.new w12 noneM _
  replace bz := bz.below bb
  replace hS := hS.on bb bb.size
  replace r1 := r1.on bb bb.size
  have B13 := B12.trans (bb.mono B12.size)
  clear bb B12
  clear HC hcc
  have hcut := Cr.cut_first Tryd.underlying27 hi hz1 A1 q c1 q1 (by omega)
  go_wp2_with fail
  rw [← hw13, ← hz13]
  clear hw13 hz13 hcut b4
  have hless : ∀ t, ¬ IsMan t (b.take q1) := fun t => by
    have h := man_less (t := t) HP.out.1
    rw [HP.out.2.1, ← HP.out.2.2.2.2.2.1] at h
    exact h
  have hTk := take_any A1 q1 c1 (b.take q1) w13 (HT.out.on B13) (r1.first hle) (HP.out.1.byt.take q1) (by omega) (by omega)
  refine Calls.mono (hTk) ?_
  intro e w14 hh
  obtain ⟨A5, c5, rfl, bb⟩ := hh.no hless
  (try clear hh)
  replace bz := bz.below bb
  replace hS := hS.on bb bb.size
  replace r1 := r1.on bb bb.size
  have B14 := B13.trans (bb.mono B13.size)
  clear bb B13
  clear hTk
  rw [show manV noneM (.slice A5 0 c5) = .agg #[.int .i64 0, .int .i64 0, .int .i64 0, .int .i64 0, .int .i64 0, .slice A5 0 c5] from rfl]
  obtain ⟨z15, hz15⟩ : ∃ z, z = w14.heap.size := ⟨_, rfl⟩
  obtain ⟨w15, hw15⟩ : ∃ x, x = w14.alloc (.cells #[.int .i64 0, .int .i64 0, .int .i64 0, .int .i64 0, .int .i64 0, .slice A5 0 c5] 26) := ⟨_, rfl⟩
  have bb : Below w14.heap.size w14 w15 := by rw [hw15]; exact below_al (below_d0 _) _
  have b5 : BoxM w15 z15 noneM (.slice A5 0 c5) := by rw [hw15, hz15]; exact BoxM.new w14 noneM _
  replace bz := bz.below bb
  replace hS := hS.on bb bb.size
  replace r1 := r1.on bb bb.size
  have B15 := B14.trans (bb.mono B14.size)
  clear bb B14
  clear hless
  go_wp2_with fail
  rw [← hw15]
  refine Calls.mono (wakes_true w15 (HT.out.on B15)) ?_
  rintro e w16 ⟨rfl, bb⟩
  replace bz := bz.below bb
  replace b5 := b5.below bb
  replace hS := hS.on bb bb.size
  replace r1 := r1.on bb bb.size
  have B16 := B15.trans (bb.mono B15.size)
  clear bb B15
  go_wp2_with fail
  go_ret
  exact ⟨rfl, B16⟩
theorem back_all (m : ManP) (A : Option Addr) (n c : Nat) (a y : Int) (w : World) (hT : Cr.Tab w) (hS : Sg w w.heap.size A n m.sg) (hk : MOk m) (hnc : n ≤ c) (hy : 0 ≤ y ∧ y ≤ 255) :
    Calls Tryd.prog 4 #[manV m (.slice A n c), .int .i64 a, .int .u8 y] w fun e w' => e = .returned (.bool true) ∧ Below w.heap.size w w' := by
  by_cases hg : 70 < n
  · exact back_great m A n c a y w hT hS hk hnc hy (decide_eq_true hg)
  by_cases hM : May m
  · by_cases h0 : y = 0
    · exact back_zero m A n c a y w hT hS hk hnc hy (decide_eq_false hg) (by omega) hM h0
    · exact back_turn m A n c a y w hT hS hk hnc hy (decide_eq_false hg) (by omega) hM h0
  · exact back_no m A n c a y w hT hS hk hnc hy (decide_eq_false hg) (by omega) hM

end Go.Proofs.YtafeadplmcoilaaDoor
