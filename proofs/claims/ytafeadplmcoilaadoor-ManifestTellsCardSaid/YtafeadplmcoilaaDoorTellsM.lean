/-
  ManifestTells: it returns true.
-/
import Derived.Test.YtafeadplmcoilaaDoorWakesM
import Derived.Test.YtafeadplmcoilaaDoorManK
import Derived.Test.YtafeadplmcoilaaDoorRefM
namespace Go.Proofs.YtafeadplmcoilaaDoor
open Go.RowKit
set_option linter.unusedVariables false
set_option linter.unusedSimpArgs false

theorem PutIs.byt {m : ManP} {L : List Int} {e : Int} (h : PutIs m L e) : Byt L := by
  rcases h with ⟨hM, rfl, -⟩ | ⟨-, rfl, -⟩
  · exact manL_byt hM
  · exact fun x hx => by cases hx

set_option maxRecDepth 100000 in
set_option maxHeartbeats 16000000 in
theorem tells_great (m o : ManP) (A A' Ab : Option Addr) (n c n' c' nb cb : Nat) (b : List Int) (w : World) (hT : Cr.Tab w) (hS : Sg w w.heap.size A n m.sg) (hk : MOk m) (hnc : n ≤ c) (hS2 : Sg w w.heap.size A' n' o.sg) (hl : Rd w w.heap.size .u8 Ab nb b) (hb : Byt b) (hncb : nb ≤ cb) (hg : decide (70 < n) = true) :
    Calls Tryd.prog 3 #[manV m (.slice A n c), manV o (.slice A' n' c'), .slice Ab nb cb] w fun e w' => e = .returned (.bool true) ∧ Below w.heap.size w w' := by
  have HT := Lib.hid hT
  have HK := Lib.hid (⟨hk, hnc, hb, hncb⟩ : _ ∧ _ ∧ _ ∧ _)
  clear hT hk hnc hb hncb
  obtain ⟨z1, hz1⟩ : ∃ z, z = w.heap.size := ⟨_, rfl⟩
  obtain ⟨w1, hw1⟩ : ∃ x, x = w.alloc (.cells #[.int .i64 m.nx, .int .i64 m.tm, .int .i64 m.vt, .int .i64 m.ss, .int .i64 m.sf, .slice A n c] 26) := ⟨_, rfl⟩
  have bb : Below w.heap.size w w1 := by rw [hw1]; exact below_al (below_d0 _) _
  have bz : BoxM w1 z1 m (.slice A n c) := by rw [hw1, hz1]; exact BoxM.new w m _
  replace hS := hS.on bb bb.size
  replace hS2 := hS2.on bb bb.size
  replace hl := hl.on bb bb.size
  have B1 := bb
  clear bb
  obtain ⟨z2, hz2⟩ : ∃ z, z = w1.heap.size := ⟨_, rfl⟩
  obtain ⟨w2, hw2⟩ : ∃ x, x = w1.alloc (.cells #[.int .i64 o.nx, .int .i64 o.tm, .int .i64 o.vt, .int .i64 o.ss, .int .i64 o.sf, .slice A' n' c'] 26) := ⟨_, rfl⟩
  have bb : Below w1.heap.size w1 w2 := by rw [hw2]; exact below_al (below_d0 _) _
  have bo : BoxM w2 z2 o (.slice A' n' c') := by rw [hw2, hz2]; exact BoxM.new w1 o _
  replace bz := bz.below bb
  replace hS := hS.on bb bb.size
  replace hS2 := hS2.on bb bb.size
  replace hl := hl.on bb bb.size
  have B2 := B1.trans (bb.mono B1.size)
  clear bb B1
  have hzz : z1 + 1 = z2 := by rw [hz2, hw1, hz1]; simp
  have HE := Lib.hid (⟨hw1, hz1, hw2, hzz⟩ : _ ∧ _ ∧ _ ∧ _)
  clear hw1 hz1 hw2 hz2 hzz
  unfold manV
  go_enter Tryd.func3, Tryd.ntmps3
  obtain ⟨k0, k1, k2, k3, k4, k5⟩ := bz.cells
  rw [HE.out.2.2.1, HE.out.1, HE.out.2.1] at k0 k1 k2 k3 k4 k5
  go_wp2_with fail
  rw [← HE.out.1, ← HE.out.2.1, ← HE.out.2.2.1, HE.out.2.2.2]
  clear HE k0 k1 k2 k3 k4 k5
  refine Calls.mono (show Calls Tryd.prog 8 #[.agg #[.int .i64 m.nx, .int .i64 m.tm, .int .i64 m.vt, .int .i64 m.ss, .int .i64 m.sf, .slice A n c]] w2 (fun e w' => e = .returned (.bool (decide (70 < n))) ∧ Below w2.heap.size w2 w') from great_any m A n c w2) ?_
  intro e w3 hh
  obtain ⟨rfl, bb⟩ := hh
  (try clear hh)
  replace bz := bz.below bb
  replace bo := bo.below bb
  replace hS := hS.on bb bb.size
  replace hS2 := hS2.on bb bb.size
  replace hl := hl.on bb bb.size
  have B3 := B2.trans (bb.mono B2.size)
  clear bb B2
  rw [hg]
  clear hg
  go_wp2_with fail
  refine Calls.mono (wakes_true w3 (HT.out.on B3)) ?_
  rintro e w4 ⟨rfl, bb⟩
  replace bz := bz.below bb
  replace bo := bo.below bb
  replace hS := hS.on bb bb.size
  replace hS2 := hS2.on bb bb.size
  replace hl := hl.on bb bb.size
  have B4 := B3.trans (bb.mono B3.size)
  clear bb B3
  go_wp2_with fail
  go_ret
  exact ⟨rfl, B4⟩
set_option maxRecDepth 100000 in
set_option maxHeartbeats 16000000 in
theorem tells_great2 (m o : ManP) (A A' Ab : Option Addr) (n c n' c' nb cb : Nat) (b : List Int) (w : World) (hT : Cr.Tab w) (hS : Sg w w.heap.size A n m.sg) (hk : MOk m) (hnc : n ≤ c) (hS2 : Sg w w.heap.size A' n' o.sg) (hl : Rd w w.heap.size .u8 Ab nb b) (hb : Byt b) (hncb : nb ≤ cb) (hg : decide (70 < n) = false) (hg2 : decide (70 < n') = true) :
    Calls Tryd.prog 3 #[manV m (.slice A n c), manV o (.slice A' n' c'), .slice Ab nb cb] w fun e w' => e = .returned (.bool true) ∧ Below w.heap.size w w' := by
  have HT := Lib.hid hT
  have HK := Lib.hid (⟨hk, hnc, hb, hncb⟩ : _ ∧ _ ∧ _ ∧ _)
  clear hT hk hnc hb hncb
  obtain ⟨z1, hz1⟩ : ∃ z, z = w.heap.size := ⟨_, rfl⟩
  obtain ⟨w1, hw1⟩ : ∃ x, x = w.alloc (.cells #[.int .i64 m.nx, .int .i64 m.tm, .int .i64 m.vt, .int .i64 m.ss, .int .i64 m.sf, .slice A n c] 26) := ⟨_, rfl⟩
  have bb : Below w.heap.size w w1 := by rw [hw1]; exact below_al (below_d0 _) _
  have bz : BoxM w1 z1 m (.slice A n c) := by rw [hw1, hz1]; exact BoxM.new w m _
  replace hS := hS.on bb bb.size
  replace hS2 := hS2.on bb bb.size
  replace hl := hl.on bb bb.size
  have B1 := bb
  clear bb
  obtain ⟨z2, hz2⟩ : ∃ z, z = w1.heap.size := ⟨_, rfl⟩
  obtain ⟨w2, hw2⟩ : ∃ x, x = w1.alloc (.cells #[.int .i64 o.nx, .int .i64 o.tm, .int .i64 o.vt, .int .i64 o.ss, .int .i64 o.sf, .slice A' n' c'] 26) := ⟨_, rfl⟩
  have bb : Below w1.heap.size w1 w2 := by rw [hw2]; exact below_al (below_d0 _) _
  have bo : BoxM w2 z2 o (.slice A' n' c') := by rw [hw2, hz2]; exact BoxM.new w1 o _
  replace bz := bz.below bb
  replace hS := hS.on bb bb.size
  replace hS2 := hS2.on bb bb.size
  replace hl := hl.on bb bb.size
  have B2 := B1.trans (bb.mono B1.size)
  clear bb B1
  have hzz : z1 + 1 = z2 := by rw [hz2, hw1, hz1]; simp
  have HE := Lib.hid (⟨hw1, hz1, hw2, hzz⟩ : _ ∧ _ ∧ _ ∧ _)
  clear hw1 hz1 hw2 hz2 hzz
  unfold manV
  go_enter Tryd.func3, Tryd.ntmps3
  obtain ⟨k0, k1, k2, k3, k4, k5⟩ := bz.cells
  rw [HE.out.2.2.1, HE.out.1, HE.out.2.1] at k0 k1 k2 k3 k4 k5
  go_wp2_with fail
  rw [← HE.out.1, ← HE.out.2.1, ← HE.out.2.2.1, HE.out.2.2.2]
  clear HE k0 k1 k2 k3 k4 k5
  refine Calls.mono (show Calls Tryd.prog 8 #[.agg #[.int .i64 m.nx, .int .i64 m.tm, .int .i64 m.vt, .int .i64 m.ss, .int .i64 m.sf, .slice A n c]] w2 (fun e w' => e = .returned (.bool (decide (70 < n))) ∧ Below w2.heap.size w2 w') from great_any m A n c w2) ?_
  intro e w3 hh
  obtain ⟨rfl, bb⟩ := hh
  (try clear hh)
  replace bz := bz.below bb
  replace bo := bo.below bb
  replace hS := hS.on bb bb.size
  replace hS2 := hS2.on bb bb.size
  replace hl := hl.on bb bb.size
  have B3 := B2.trans (bb.mono B2.size)
  clear bb B2
  rw [hg]
  clear hg
  obtain ⟨k0, k1, k2, k3, k4, k5⟩ := bo.cells
  go_wp2_with fail
  clear k0 k1 k2 k3 k4 k5
  refine Calls.mono (show Calls Tryd.prog 8 #[.agg #[.int .i64 o.nx, .int .i64 o.tm, .int .i64 o.vt, .int .i64 o.ss, .int .i64 o.sf, .slice A' n' c']] w3 (fun e w' => e = .returned (.bool (decide (70 < n'))) ∧ Below w3.heap.size w3 w') from great_any o A' n' c' w3) ?_
  intro e w4 hh
  obtain ⟨rfl, bb⟩ := hh
  (try clear hh)
  replace bz := bz.below bb
  replace bo := bo.below bb
  replace hS := hS.on bb bb.size
  replace hS2 := hS2.on bb bb.size
  replace hl := hl.on bb bb.size
  have B4 := B3.trans (bb.mono B3.size)
  clear bb B3
  rw [hg2]
  clear hg2
  go_wp2_with fail
  refine Calls.mono (wakes_true w4 (HT.out.on B4)) ?_
  rintro e w5 ⟨rfl, bb⟩
  replace bz := bz.below bb
  replace bo := bo.below bb
  replace hS := hS.on bb bb.size
  replace hS2 := hS2.on bb bb.size
  replace hl := hl.on bb bb.size
  have B5 := B4.trans (bb.mono B4.size)
  clear bb B4
  go_wp2_with fail
  go_ret
  exact ⟨rfl, B5⟩
set_option maxRecDepth 100000 in
set_option maxHeartbeats 16000000 in
theorem tells_long (m o : ManP) (A A' Ab : Option Addr) (n c n' c' nb cb : Nat) (b : List Int) (w : World) (hT : Cr.Tab w) (hS : Sg w w.heap.size A n m.sg) (hk : MOk m) (hnc : n ≤ c) (hS2 : Sg w w.heap.size A' n' o.sg) (hl : Rd w w.heap.size .u8 Ab nb b) (hb : Byt b) (hncb : nb ≤ cb) (hg : decide (70 < n) = false) (hg2 : decide (70 < n') = false) (hnb : 900 < nb) :
    Calls Tryd.prog 3 #[manV m (.slice A n c), manV o (.slice A' n' c'), .slice Ab nb cb] w fun e w' => e = .returned (.bool true) ∧ Below w.heap.size w w' := by
  have HT := Lib.hid hT
  have HK := Lib.hid (⟨hk, hnc, hb, hncb⟩ : _ ∧ _ ∧ _ ∧ _)
  clear hT hk hnc hb hncb
  obtain ⟨z1, hz1⟩ : ∃ z, z = w.heap.size := ⟨_, rfl⟩
  obtain ⟨w1, hw1⟩ : ∃ x, x = w.alloc (.cells #[.int .i64 m.nx, .int .i64 m.tm, .int .i64 m.vt, .int .i64 m.ss, .int .i64 m.sf, .slice A n c] 26) := ⟨_, rfl⟩
  have bb : Below w.heap.size w w1 := by rw [hw1]; exact below_al (below_d0 _) _
  have bz : BoxM w1 z1 m (.slice A n c) := by rw [hw1, hz1]; exact BoxM.new w m _
  replace hS := hS.on bb bb.size
  replace hS2 := hS2.on bb bb.size
  replace hl := hl.on bb bb.size
  have B1 := bb
  clear bb
  obtain ⟨z2, hz2⟩ : ∃ z, z = w1.heap.size := ⟨_, rfl⟩
  obtain ⟨w2, hw2⟩ : ∃ x, x = w1.alloc (.cells #[.int .i64 o.nx, .int .i64 o.tm, .int .i64 o.vt, .int .i64 o.ss, .int .i64 o.sf, .slice A' n' c'] 26) := ⟨_, rfl⟩
  have bb : Below w1.heap.size w1 w2 := by rw [hw2]; exact below_al (below_d0 _) _
  have bo : BoxM w2 z2 o (.slice A' n' c') := by rw [hw2, hz2]; exact BoxM.new w1 o _
  replace bz := bz.below bb
  replace hS := hS.on bb bb.size
  replace hS2 := hS2.on bb bb.size
  replace hl := hl.on bb bb.size
  have B2 := B1.trans (bb.mono B1.size)
  clear bb B1
  have hzz : z1 + 1 = z2 := by rw [hz2, hw1, hz1]; simp
  have HE := Lib.hid (⟨hw1, hz1, hw2, hzz⟩ : _ ∧ _ ∧ _ ∧ _)
  clear hw1 hz1 hw2 hz2 hzz
  unfold manV
  go_enter Tryd.func3, Tryd.ntmps3
  obtain ⟨k0, k1, k2, k3, k4, k5⟩ := bz.cells
  rw [HE.out.2.2.1, HE.out.1, HE.out.2.1] at k0 k1 k2 k3 k4 k5
  go_wp2_with fail
  rw [← HE.out.1, ← HE.out.2.1, ← HE.out.2.2.1, HE.out.2.2.2]
  clear HE k0 k1 k2 k3 k4 k5
  refine Calls.mono (show Calls Tryd.prog 8 #[.agg #[.int .i64 m.nx, .int .i64 m.tm, .int .i64 m.vt, .int .i64 m.ss, .int .i64 m.sf, .slice A n c]] w2 (fun e w' => e = .returned (.bool (decide (70 < n))) ∧ Below w2.heap.size w2 w') from great_any m A n c w2) ?_
  intro e w3 hh
  obtain ⟨rfl, bb⟩ := hh
  (try clear hh)
  replace bz := bz.below bb
  replace bo := bo.below bb
  replace hS := hS.on bb bb.size
  replace hS2 := hS2.on bb bb.size
  replace hl := hl.on bb bb.size
  have B3 := B2.trans (bb.mono B2.size)
  clear bb B2
  rw [hg]
  clear hg
  obtain ⟨k0, k1, k2, k3, k4, k5⟩ := bo.cells
  go_wp2_with fail
  clear k0 k1 k2 k3 k4 k5
  refine Calls.mono (show Calls Tryd.prog 8 #[.agg #[.int .i64 o.nx, .int .i64 o.tm, .int .i64 o.vt, .int .i64 o.ss, .int .i64 o.sf, .slice A' n' c']] w3 (fun e w' => e = .returned (.bool (decide (70 < n'))) ∧ Below w3.heap.size w3 w') from great_any o A' n' c' w3) ?_
  intro e w4 hh
  obtain ⟨rfl, bb⟩ := hh
  (try clear hh)
  replace bz := bz.below bb
  replace bo := bo.below bb
  replace hS := hS.on bb bb.size
  replace hS2 := hS2.on bb bb.size
  replace hl := hl.on bb bb.size
  have B4 := B3.trans (bb.mono B3.size)
  clear bb B3
  rw [hg2]
  clear hg2
  have t0 : decide ((900 : Int) < (nb : Int)) = true := by simp; omega
  go_wp2_with fail
  refine Calls.mono (wakes_true w4 (HT.out.on B4)) ?_
  rintro e w5 ⟨rfl, bb⟩
  replace bz := bz.below bb
  replace bo := bo.below bb
  replace hS := hS.on bb bb.size
  replace hS2 := hS2.on bb bb.size
  replace hl := hl.on bb bb.size
  have B5 := B4.trans (bb.mono B4.size)
  clear bb B4
  go_wp2_with fail
  go_ret
  exact ⟨rfl, B5⟩
set_option maxRecDepth 100000 in
set_option maxHeartbeats 16000000 in
theorem tells_main (m o : ManP) (A A' Ab : Option Addr) (n c n' c' nb cb : Nat) (b : List Int) (w : World) (hT : Cr.Tab w) (hS : Sg w w.heap.size A n m.sg) (hk : MOk m) (hnc : n ≤ c) (hS2 : Sg w w.heap.size A' n' o.sg) (hl : Rd w w.heap.size .u8 Ab nb b) (hb : Byt b) (hncb : nb ≤ cb) (hg : decide (70 < n) = false) (hg2 : decide (70 < n') = false) (hn : n ≤ 70) (hn2 : n' ≤ 70) (hnb : nb ≤ 900) :
    Calls Tryd.prog 3 #[manV m (.slice A n c), manV o (.slice A' n' c'), .slice Ab nb cb] w fun e w' => e = .returned (.bool true) ∧ Below w.heap.size w w' := by
  have HT := Lib.hid hT
  have HK := Lib.hid (⟨hk, hnc, hb, hncb⟩ : _ ∧ _ ∧ _ ∧ _)
  clear hT hk hnc hb hncb
  obtain ⟨z1, hz1⟩ : ∃ z, z = w.heap.size := ⟨_, rfl⟩
  obtain ⟨w1, hw1⟩ : ∃ x, x = w.alloc (.cells #[.int .i64 m.nx, .int .i64 m.tm, .int .i64 m.vt, .int .i64 m.ss, .int .i64 m.sf, .slice A n c] 26) := ⟨_, rfl⟩
  have bb : Below w.heap.size w w1 := by rw [hw1]; exact below_al (below_d0 _) _
  have bz : BoxM w1 z1 m (.slice A n c) := by rw [hw1, hz1]; exact BoxM.new w m _
  replace hS := hS.on bb bb.size
  replace hS2 := hS2.on bb bb.size
  replace hl := hl.on bb bb.size
  have B1 := bb
  clear bb
  obtain ⟨z2, hz2⟩ : ∃ z, z = w1.heap.size := ⟨_, rfl⟩
  obtain ⟨w2, hw2⟩ : ∃ x, x = w1.alloc (.cells #[.int .i64 o.nx, .int .i64 o.tm, .int .i64 o.vt, .int .i64 o.ss, .int .i64 o.sf, .slice A' n' c'] 26) := ⟨_, rfl⟩
  have bb : Below w1.heap.size w1 w2 := by rw [hw2]; exact below_al (below_d0 _) _
  have bo : BoxM w2 z2 o (.slice A' n' c') := by rw [hw2, hz2]; exact BoxM.new w1 o _
  replace bz := bz.below bb
  replace hS := hS.on bb bb.size
  replace hS2 := hS2.on bb bb.size
  replace hl := hl.on bb bb.size
  have B2 := B1.trans (bb.mono B1.size)
  clear bb B1
  have hzz : z1 + 1 = z2 := by rw [hz2, hw1, hz1]; simp
  have HE := Lib.hid (⟨hw1, hz1, hw2, hzz⟩ : _ ∧ _ ∧ _ ∧ _)
  clear hw1 hz1 hw2 hz2 hzz
  unfold manV
  go_enter Tryd.func3, Tryd.ntmps3
  obtain ⟨k0, k1, k2, k3, k4, k5⟩ := bz.cells
  rw [HE.out.2.2.1, HE.out.1, HE.out.2.1] at k0 k1 k2 k3 k4 k5
  go_wp2_with fail
  rw [← HE.out.1, ← HE.out.2.1, ← HE.out.2.2.1, HE.out.2.2.2]
  clear HE k0 k1 k2 k3 k4 k5
  refine Calls.mono (show Calls Tryd.prog 8 #[.agg #[.int .i64 m.nx, .int .i64 m.tm, .int .i64 m.vt, .int .i64 m.ss, .int .i64 m.sf, .slice A n c]] w2 (fun e w' => e = .returned (.bool (decide (70 < n))) ∧ Below w2.heap.size w2 w') from great_any m A n c w2) ?_
  intro e w3 hh
  obtain ⟨rfl, bb⟩ := hh
  (try clear hh)
  replace bz := bz.below bb
  replace bo := bo.below bb
  replace hS := hS.on bb bb.size
  replace hS2 := hS2.on bb bb.size
  replace hl := hl.on bb bb.size
  have B3 := B2.trans (bb.mono B2.size)
  clear bb B2
  rw [hg]
  clear hg
  obtain ⟨k0, k1, k2, k3, k4, k5⟩ := bo.cells
  go_wp2_with fail
  clear k0 k1 k2 k3 k4 k5
  refine Calls.mono (show Calls Tryd.prog 8 #[.agg #[.int .i64 o.nx, .int .i64 o.tm, .int .i64 o.vt, .int .i64 o.ss, .int .i64 o.sf, .slice A' n' c']] w3 (fun e w' => e = .returned (.bool (decide (70 < n'))) ∧ Below w3.heap.size w3 w') from great_any o A' n' c' w3) ?_
  intro e w4 hh
  obtain ⟨rfl, bb⟩ := hh
  (try clear hh)
  replace bz := bz.below bb
  replace bo := bo.below bb
  replace hS := hS.on bb bb.size
  replace hS2 := hS2.on bb bb.size
  replace hl := hl.on bb bb.size
  have B4 := B3.trans (bb.mono B3.size)
  clear bb B3
  rw [hg2]
  clear hg2
  have t0 : decide ((900 : Int) < (nb : Int)) = false := by simp; omega
  obtain ⟨k0, k1, k2, k3, k4, k5⟩ := bz.cells
  go_wp2_with fail
  clear k0 k1 k2 k3 k4 k5
  clear t0
  refine Calls.mono (show Calls Tryd.prog 10 #[.agg #[.int .i64 m.nx, .int .i64 m.tm, .int .i64 m.vt, .int .i64 m.ss, .int .i64 m.sf, .slice A n c]] w4 (PutT m w4) from put_any m A n c w4 (HT.out.on B4) hS (by omega) HK.out.1) ?_
  intro e w5 hh
  obtain ⟨⟨A1, q1, c1, L, e1, rfl, hP1, hL1, hc1, r1⟩, bb⟩ := hh
  (try clear hh)
  replace bz := bz.below bb
  replace bo := bo.below bb
  replace hS := hS.on bb bb.size
  replace hS2 := hS2.on bb bb.size
  replace hl := hl.on bb bb.size
  have B5 := B4.trans (bb.mono B4.size)
  clear bb B4
  have HP1 := Lib.hid hP1
  clear hP1 hL1
  replace r1 := r1
  obtain ⟨k0, k1, k2, k3, k4, k5⟩ := bz.cells
  go_wp2_with fail
  clear k0 k1 k2 k3 k4 k5
  refine Calls.mono (show Calls Tryd.prog 11 #[.agg #[.int .i64 m.nx, .int .i64 m.tm, .int .i64 m.vt, .int .i64 m.ss, .int .i64 m.sf, .slice A n c]] w5 (PutT m w5) from rputM_any m A n c w5 hS (by omega)) ?_
  intro e w6 hh
  obtain ⟨⟨A2, q2, c2, L2, e2, rfl, hP2, hL2, hc2, r2⟩, bb⟩ := hh
  (try clear hh)
  replace bz := bz.below bb
  replace bo := bo.below bb
  replace hS := hS.on bb bb.size
  replace hS2 := hS2.on bb bb.size
  replace hl := hl.on bb bb.size
  replace r1 := r1.on bb bb.size
  have B6 := B5.trans (bb.mono B5.size)
  clear bb B5
  obtain ⟨hLL, hee⟩ := HP1.out.same hP2
  subst hLL hee
  clear hP2 hL2
  go_wp2_with fail
  refine Calls.mono (take_any Ab nb cb b w6 (HT.out.on B6) hl HK.out.2.2.1 HK.out.2.2.2 (by omega)) ?_
  intro e w7 hh
  obtain ⟨⟨m1, A3, n3, c3, e3, rfl, hT1, hn3, own3⟩, bb⟩ := hh
  (try clear hh)
  replace bz := bz.below bb
  replace bo := bo.below bb
  replace hS := hS.on bb bb.size
  replace hS2 := hS2.on bb bb.size
  replace hl := hl.on bb bb.size
  replace r1 := r1.on bb bb.size
  replace r2 := r2.on bb bb.size
  have B7 := B6.trans (bb.mono B6.size)
  clear bb B6
  have S3 := own3.sg
  have HT1 := Lib.hid hT1
  clear own3 hT1
  unfold manV
  obtain ⟨z8, hz8⟩ : ∃ z, z = w7.heap.size := ⟨_, rfl⟩
  obtain ⟨w8, hw8⟩ : ∃ x, x = w7.alloc (.cells #[.int .i64 m1.nx, .int .i64 m1.tm, .int .i64 m1.vt, .int .i64 m1.ss, .int .i64 m1.sf, .slice A3 n3 c3] 26) := ⟨_, rfl⟩
  have bb : Below w7.heap.size w7 w8 := by rw [hw8]; exact below_al (below_d0 _) _
  have b1 : BoxM w8 z8 m1 (.slice A3 n3 c3) := by rw [hw8, hz8]; exact BoxM.new w7 m1 _
  replace bz := bz.below bb
  replace bo := bo.below bb
  replace hS := hS.on bb bb.size
  replace hS2 := hS2.on bb bb.size
  replace hl := hl.on bb bb.size
  replace r1 := r1.on bb bb.size
  replace r2 := r2.on bb bb.size
  replace S3 := S3.on bb bb.size
  have B8 := B7.trans (bb.mono B7.size)
  clear bb B7
  go_wp2_with fail
  rw [← hw8, ← hz8]
  clear hw8 hz8
  refine Calls.mono (rtakeM_any Ab nb cb b w8 hl HK.out.2.2.1 HK.out.2.2.2 (by omega)) ?_
  intro e w9 hh
  obtain ⟨⟨m2, A4, n4, c4, e4, rfl, hT2, hn4, own4⟩, bb⟩ := hh
  (try clear hh)
  replace bz := bz.below bb
  replace bo := bo.below bb
  replace b1 := b1.below bb
  replace hS := hS.on bb bb.size
  replace hS2 := hS2.on bb bb.size
  replace hl := hl.on bb bb.size
  replace r1 := r1.on bb bb.size
  replace r2 := r2.on bb bb.size
  replace S3 := S3.on bb bb.size
  have B9 := B8.trans (bb.mono B8.size)
  clear bb B8
  obtain ⟨hmm, hee⟩ := HT1.out.same hT2
  subst hmm hee
  clear hT2
  have S4 := own4.sg
  clear own4
  unfold manV
  obtain ⟨z10, hz10⟩ : ∃ z, z = w9.heap.size := ⟨_, rfl⟩
  obtain ⟨w10, hw10⟩ : ∃ x, x = w9.alloc (.cells #[.int .i64 m1.nx, .int .i64 m1.tm, .int .i64 m1.vt, .int .i64 m1.ss, .int .i64 m1.sf, .slice A4 n4 c4] 26) := ⟨_, rfl⟩
  have bb : Below w9.heap.size w9 w10 := by rw [hw10]; exact below_al (below_d0 _) _
  have b2 : BoxM w10 z10 m1 (.slice A4 n4 c4) := by rw [hw10, hz10]; exact BoxM.new w9 m1 _
  replace bz := bz.below bb
  replace bo := bo.below bb
  replace b1 := b1.below bb
  replace hS := hS.on bb bb.size
  replace hS2 := hS2.on bb bb.size
  replace hl := hl.on bb bb.size
  replace r1 := r1.on bb bb.size
  replace r2 := r2.on bb bb.size
  replace S3 := S3.on bb bb.size
  replace S4 := S4.on bb bb.size
  have B10 := B9.trans (bb.mono B9.size)
  clear bb B9
  obtain ⟨k0, k1, k2, k3, k4, k5⟩ := bz.cells
  rw [hw10] at k0 k1 k2 k3 k4 k5
  go_wp2_with fail
  clear k0 k1 k2 k3 k4 k5
  rw [← hw10, ← hz10]
  clear hw10 hz10
  refine Calls.mono (show Calls Tryd.prog 14 #[.agg #[.int .i64 m.nx, .int .i64 m.tm, .int .i64 m.vt, .int .i64 m.ss, .int .i64 m.sf, .slice A n c]] w10 (fun e w' => (∃ i ok, OpenIs m i ok ∧ e = .returned (.tuple #[.int .i64 i, .bool ok])) ∧ Below w10.heap.size w10 w') from open_any m A n c w10 hS (by omega)) ?_
  intro e w11 hh
  obtain ⟨⟨i, ok, hop, rfl⟩, bb⟩ := hh
  (try clear hh)
  replace bz := bz.below bb
  replace bo := bo.below bb
  replace b1 := b1.below bb
  replace b2 := b2.below bb
  replace hS := hS.on bb bb.size
  replace hS2 := hS2.on bb bb.size
  replace hl := hl.on bb bb.size
  replace r1 := r1.on bb bb.size
  replace r2 := r2.on bb bb.size
  replace S3 := S3.on bb bb.size
  replace S4 := S4.on bb bb.size
  have B11 := B10.trans (bb.mono B10.size)
  clear bb B10
  have HO := Lib.hid hop
  clear hop
  obtain ⟨k0, k1, k2, k3, k4, k5⟩ := bz.cells
  go_wp2_with fail
  clear k0 k1 k2 k3 k4 k5
  refine Calls.mono (show Calls Tryd.prog 15 #[.agg #[.int .i64 m.nx, .int .i64 m.tm, .int .i64 m.vt, .int .i64 m.ss, .int .i64 m.sf, .slice A n c]] w11 (fun e w' => (∃ i ok, OpenIs m i ok ∧ e = .returned (.tuple #[.int .i64 i, .bool ok])) ∧ Below w11.heap.size w11 w') from ropen_any m A n c w11 hS (by omega)) ?_
  intro e w12 hh
  obtain ⟨⟨i2, ok2, hop, rfl⟩, bb⟩ := hh
  (try clear hh)
  replace bz := bz.below bb
  replace bo := bo.below bb
  replace b1 := b1.below bb
  replace b2 := b2.below bb
  replace hS := hS.on bb bb.size
  replace hS2 := hS2.on bb bb.size
  replace hl := hl.on bb bb.size
  replace r1 := r1.on bb bb.size
  replace r2 := r2.on bb bb.size
  replace S3 := S3.on bb bb.size
  replace S4 := S4.on bb bb.size
  have B12 := B11.trans (bb.mono B11.size)
  clear bb B11
  obtain ⟨hii, hoo⟩ := HO.out.same hop
  subst hii hoo
  clear hop
  go_wp2_with fail
  have HB := Lib.hid (⟨bz, b1, b2, bo⟩ : _ ∧ _ ∧ _ ∧ _)
  have HS := Lib.hid (⟨hS, S3, S4, r1, r2, hS2⟩ : _ ∧ _ ∧ _ ∧ _ ∧ _ ∧ _)
  have HTW := Lib.hid ((HT.out.on B12))
  have ne1 : (e1 != e1) = false := by simp
  have ne3 : (e3 != e3) = false := by simp
  have nei : (i != i) = false := by simp
  have neo : (ok != ok) = false := by simp
  have C1 := Lib.hid (fun (W : World) (hW : Below w12.heap.size w12 W) => (show Calls Tryd.prog 16 #[.slice A1 q1 c1, .slice A2 q2 c2] W fun e w' => e = .returned (.bool true) ∧ Below W.heap.size W w' from by
    refine (same_any A1 A2 q1 q2 c1 c2 L L W (HS.out.2.2.2.1.on hW hW.size) (HS.out.2.2.2.2.1.on hW hW.size) HP1.out.byt HP1.out.byt).mono ?_
    rintro e w' ⟨rfl, rfl⟩
    exact ⟨by rw [Cr.eqB_iff.2 rfl], Below.refl _ _⟩))
  have C2 := Lib.hid (fun (W : World) (hW : Below w12.heap.size w12 W) => (show Calls Tryd.prog 17 #[manV m1 (.slice A3 n3 c3), manV m1 (.slice A4 n4 c4)] W fun e w' => e = .returned (.bool true) ∧ Below W.heap.size W w' from by
    refine (rsameM_any m1 m1 A3 A4 n3 n4 c3 c4 W (HS.out.2.1.on hW hW.size) (HS.out.2.2.1.on hW hW.size) (by omega) (by omega)).mono ?_
    rintro e w' ⟨⟨r, hr, rfl⟩, hb⟩
    obtain rfl := hr.same (SameM.yes rfl)
    exact ⟨rfl, hb⟩))
  obtain ⟨rc, hrc⟩ : ∃ rc, CheckIs m rc := by
    by_cases hM : May m
    · exact ⟨0, .inl ⟨hM, rfl⟩⟩
    · exact ⟨2, .inr ⟨hM, rfl⟩⟩
  have nec : (rc != rc) = false := by simp
  have HRC := Lib.hid hrc
  clear hrc
  have C3 := Lib.hid (fun (W : World) (hW : Below w12.heap.size w12 W) => (show Calls Tryd.prog 18 #[manV m (.slice A n c)] W fun e w' => e = .returned (.int .i64 rc) ∧ Below W.heap.size W w' from by
    refine (check_any m A n c W (HS.out.1.on hW hW.size) (by omega) HK.out.1).mono ?_
    rintro e w' ⟨⟨r, hr, rfl⟩, hb⟩
    obtain rfl := hr.same HRC.out
    exact ⟨rfl, hb⟩))
  have C4 := Lib.hid (fun (W : World) (hW : Below w12.heap.size w12 W) => (show Calls Tryd.prog 19 #[manV m (.slice A n c)] W fun e w' => e = .returned (.int .i64 rc) ∧ Below W.heap.size W w' from by
    refine (rcheck_any m A n c W (HS.out.1.on hW hW.size) (by omega)).mono ?_
    rintro e w' ⟨⟨r, hr, rfl⟩, hb⟩
    obtain rfl := hr.same HRC.out
    exact ⟨rfl, hb⟩))
  have hq9 : (keepP m).length ≤ 1000 := by rw [keep_len HS.out.1.len]; split <;> omega
  have C5 := Lib.hid (fun (W : World) (hW : Below w12.heap.size w12 W) => keep_any m A n c W (HS.out.1.on hW hW.size) (by omega))
  have C6 := Lib.hid (fun (W : World) (hW : Below w12.heap.size w12 W) => rkeep_any m A n c W (HS.out.1.on hW hW.size) (by omega))
  obtain ⟨tb, htb⟩ : ∃ tb, TwoIs m tb := by
    by_cases h : TwoM m
    · exact ⟨true, fun _ => h, fun _ => rfl⟩
    · exact ⟨false, fun h => (by cases h), fun k => absurd k h⟩
  have HTB := Lib.hid htb
  clear htb
  obtain ⟨sb, hsb⟩ : ∃ sb, SameM m o sb := by
    by_cases h : m = o
    · exact ⟨true, SameM.yes h⟩
    · exact ⟨false, SameM.no h⟩
  have HSB := Lib.hid hsb
  clear hsb
  have eqt : (tb == tb) = true := by simp
  have eqs : (sb == sb) = true := by simp
  have C7 := Lib.hid (fun (W : World) (hW : Below w12.heap.size w12 W) => (show Calls Tryd.prog 23 #[manV m (.slice A n c)] W fun e w' => e = .returned (.bool tb) ∧ Below W.heap.size W w' from by
    refine (two_any m A n c W (HS.out.1.on hW hW.size) (by omega)).mono ?_
    rintro e w' ⟨⟨r, hr, rfl⟩, hb⟩
    obtain rfl := hr.same HTB.out
    exact ⟨rfl, hb⟩))
  have C8 := Lib.hid (fun (W : World) (hW : Below w12.heap.size w12 W) => (show Calls Tryd.prog 24 #[manV m (.slice A n c)] W fun e w' => e = .returned (.bool tb) ∧ Below W.heap.size W w' from by
    refine (rtwo_any m A n c W (HS.out.1.on hW hW.size) (by omega)).mono ?_
    rintro e w' ⟨⟨r, hr, rfl⟩, hb⟩
    obtain rfl := hr.same HTB.out
    exact ⟨rfl, hb⟩))
  have C9 := Lib.hid (fun (W : World) (hW : Below w12.heap.size w12 W) => (show Calls Tryd.prog 25 #[manV m (.slice A n c), manV o (.slice A' n' c')] W fun e w' => e = .returned (.bool sb) ∧ Below W.heap.size W w' from by
    refine (sameM_any m o A A' n n' c c' W (HS.out.1.on hW hW.size) (HS.out.2.2.2.2.2.on hW hW.size) (by omega) (by omega)).mono ?_
    rintro e w' ⟨⟨r, hr, rfl⟩, hb⟩
    obtain rfl := hr.same HSB.out
    exact ⟨rfl, hb⟩))
  have C10 := Lib.hid (fun (W : World) (hW : Below w12.heap.size w12 W) => (show Calls Tryd.prog 17 #[manV m (.slice A n c), manV o (.slice A' n' c')] W fun e w' => e = .returned (.bool sb) ∧ Below W.heap.size W w' from by
    refine (rsameM_any m o A A' n n' c c' W (HS.out.1.on hW hW.size) (HS.out.2.2.2.2.2.on hW hW.size) (by omega) (by omega)).mono ?_
    rintro e w' ⟨⟨r, hr, rfl⟩, hb⟩
    obtain rfl := hr.same HSB.out
    exact ⟨rfl, hb⟩))
  have C11 := Lib.hid (fun (W : World) (hW : Below w12.heap.size w12 W) => own_any m A n c W (HS.out.1.on hW hW.size) (by omega))
  have C12 := Lib.hid (fun (W : World) (hW : Below w12.heap.size w12 W) => wakes_true W (HTW.out.on hW))
  have HQ9 := Lib.hid hq9
  clear HP1 HT1 HO hc1 hc2 hq9 eqt eqs
  refine wp_region_held_drew (S := (fun X => Below w12.heap.size w12 X)) (by kernel_rfl) ((Below.refl _ _).drew) (fun hHeld => ?_)
  refine take_at (i := 0) (d := 61) (oi := ?o1) (v := ?v1) ?hi1 ?hd1 (by kernel_rfl) (by kernel_rfl) (by kernel_rfl) ?hw1 ?hy1 ?hq1 (by assumption) ?r1
  case hi1 => (simp only [List.getElem?_toArray, List.getElem?_cons_zero]; rfl)
  case hd1 => rfl
  case hw1 => rfl
  case hy1 => ((intro w hSw; (try dsimp only at hSw); go_simp) <;> (with_reducible rfl))
  case hq1 => exact fun _ _ _ h => h
  simp only [List.set_cons_succ, List.set_cons_zero]
  refine take_at (i := 1) (d := 62) (oi := ?o2) (v := ?v2) ?hi2 ?hd2 (by kernel_rfl) (by kernel_rfl) (by kernel_rfl) ?hw2 ?hy2 ?hq2 (by assumption) ?r2
  case hi2 => (simp only [List.getElem?_toArray, List.getElem?_cons_succ, List.getElem?_cons_zero]; rfl)
  case hd2 => rfl
  case hw2 => rfl
  case hy2 => ((intro w hSw; (try dsimp only at hSw); go_simp) <;> (with_reducible rfl))
  case hq2 => exact fun _ _ _ h => h
  simp only [List.set_cons_succ, List.set_cons_zero]
  refine call_at (i := 2) (d := 63) (oi := ?o3) (f := ?f3) (args := ?a3) ?hi3 ?hd3 (by kernel_rfl) ?hw3 ?he3 ?hc3
  case hi3 => (simp only [List.getElem?_toArray, List.getElem?_cons_succ, List.getElem?_cons_zero]; rfl)
  case hd3 => rfl
  case hw3 => rfl
  case he3 => (go_simp; constructor <;> with_reducible rfl)
  refine Calls.mono (C1.out _ hHeld) ?_
  rintro e v1 ⟨rfl, bb⟩
  have hX := hHeld.trans (bb.mono hHeld.size)
  clear bb
  refine ⟨_, rfl, hX, fun hHeld => ?_⟩
  simp only [List.set_cons_succ, List.set_cons_zero]
  refine take_at (i := 3) (d := 64) (oi := ?o4) (v := ?v4) ?hi4 ?hd4 (by kernel_rfl) (by kernel_rfl) (by kernel_rfl) ?hw4 ?hy4 ?hq4 (by assumption) ?r4
  case hi4 => (simp only [List.getElem?_toArray, List.getElem?_cons_succ, List.getElem?_cons_zero]; rfl)
  case hd4 => rfl
  case hw4 => rfl
  case hy4 => ((intro w hSw; (try dsimp only at hSw); go_simp) <;> (with_reducible rfl))
  case hq4 => exact fun _ _ _ h => h
  simp only [List.set_cons_succ, List.set_cons_zero]
  refine take_at (i := 4) (d := 65) (oi := ?o5) (v := ?v5) ?hi5 ?hd5 (by kernel_rfl) (by kernel_rfl) (by kernel_rfl) ?hw5 ?hy5 ?hq5 (by assumption) ?r5
  case hi5 => (simp only [List.getElem?_toArray, List.getElem?_cons_succ, List.getElem?_cons_zero]; rfl)
  case hd5 => rfl
  case hw5 => rfl
  case hy5 => ((intro w hSw; (try dsimp only at hSw); go_simp) <;> (with_reducible rfl))
  case hq5 => exact fun _ _ _ h => h
  simp only [List.set_cons_succ, List.set_cons_zero]
  refine take_at (i := 5) (d := 66) (oi := ?o6) (v := ?v6) ?hi6 ?hd6 (by kernel_rfl) (by kernel_rfl) (by kernel_rfl) ?hw6 ?hy6 ?hq6 (by assumption) ?r6
  case hi6 => (simp only [List.getElem?_toArray, List.getElem?_cons_succ, List.getElem?_cons_zero]; rfl)
  case hd6 => rfl
  case hw6 => rfl
  case hy6 => ((intro w hSw; (try dsimp only at hSw); go_simp) <;> (with_reducible rfl))
  case hq6 => exact fun _ _ _ h => h
  simp only [List.set_cons_succ, List.set_cons_zero]
  refine take_at (i := 6) (d := 67) (oi := ?o7) (v := ?v7) ?hi7 ?hd7 (by kernel_rfl) (by kernel_rfl) (by kernel_rfl) ?hw7 ?hy7 ?hq7 (by assumption) ?r7
  case hi7 => (simp only [List.getElem?_toArray, List.getElem?_cons_succ, List.getElem?_cons_zero]; rfl)
  case hd7 => rfl
  case hw7 => rfl
  case hy7 => ((intro w hSw; (try dsimp only at hSw); go_simp) <;> (with_reducible rfl))
  case hq7 => exact fun _ _ _ h => h
  simp only [List.set_cons_succ, List.set_cons_zero]
  refine take_at (i := 7) (d := 68) (oi := ?o8) (v := ?v8) ?hi8 ?hd8 (by kernel_rfl) (by kernel_rfl) (by kernel_rfl) ?hw8 ?hy8 ?hq8 (by assumption) ?r8
  case hi8 => (simp only [List.getElem?_toArray, List.getElem?_cons_succ, List.getElem?_cons_zero]; rfl)
  case hd8 => rfl
  case hw8 => rfl
  case hy8 => ((intro w hSw; (try dsimp only at hSw); go_simp) <;> (with_reducible rfl))
  case hq8 => exact fun _ _ _ h => h
  simp only [List.set_cons_succ, List.set_cons_zero]
  refine take_at (i := 8) (d := 69) (oi := ?o9) (v := ?v9) ?hi9 ?hd9 (by kernel_rfl) (by kernel_rfl) (by kernel_rfl) ?hw9 ?hy9 ?hq9 (by assumption) ?r9
  case hi9 => (simp only [List.getElem?_toArray, List.getElem?_cons_succ, List.getElem?_cons_zero]; rfl)
  case hd9 => rfl
  case hw9 => rfl
  case hy9 => ((intro w hSw; (try dsimp only at hSw); go_simp) <;> (with_reducible rfl))
  case hq9 => exact fun _ _ _ h => h
  simp only [List.set_cons_succ, List.set_cons_zero]
  refine take_at (i := 9) (d := 70) (oi := ?o10) (v := ?v10) ?hi10 ?hd10 (by kernel_rfl) (by kernel_rfl) (by kernel_rfl) ?hw10 ?hy10 ?hq10 (by assumption) ?r10
  case hi10 => (simp only [List.getElem?_toArray, List.getElem?_cons_succ, List.getElem?_cons_zero]; rfl)
  case hd10 => rfl
  case hw10 => rfl
  case hy10 => ((intro w hSw; (try dsimp only at hSw); go_simp) <;> (with_reducible rfl))
  case hq10 => exact fun _ _ _ h => h
  simp only [List.set_cons_succ, List.set_cons_zero]
  refine take_at (i := 10) (d := 71) (oi := ?o11) (v := ?v11) ?hi11 ?hd11 (by kernel_rfl) (by kernel_rfl) (by kernel_rfl) ?hw11 ?hy11 ?hq11 (by assumption) ?r11
  case hi11 => (simp only [List.getElem?_toArray, List.getElem?_cons_succ, List.getElem?_cons_zero]; rfl)
  case hd11 => rfl
  case hw11 => rfl
  case hy11 => ((intro w hSw; (try dsimp only at hSw); obtain ⟨k0, k1, k2, k3, k4, k5⟩ := (HB.out.2.1.below hSw).cells; go_simp) <;> (with_reducible rfl))
  case hq11 => exact fun _ _ _ h => h
  simp only [List.set_cons_succ, List.set_cons_zero]
  refine take_at (i := 11) (d := 72) (oi := ?o12) (v := ?v12) ?hi12 ?hd12 (by kernel_rfl) (by kernel_rfl) (by kernel_rfl) ?hw12 ?hy12 ?hq12 (by assumption) ?r12
  case hi12 => (simp only [List.getElem?_toArray, List.getElem?_cons_succ, List.getElem?_cons_zero]; rfl)
  case hd12 => rfl
  case hw12 => rfl
  case hy12 => ((intro w hSw; (try dsimp only at hSw); obtain ⟨k0, k1, k2, k3, k4, k5⟩ := (HB.out.2.2.1.below hSw).cells; go_simp) <;> (with_reducible rfl))
  case hq12 => exact fun _ _ _ h => h
  simp only [List.set_cons_succ, List.set_cons_zero]
  refine call_at (i := 12) (d := 73) (oi := ?o13) (f := ?f13) (args := ?a13) ?hi13 ?hd13 (by kernel_rfl) ?hw13 ?he13 ?hc13
  case hi13 => (simp only [List.getElem?_toArray, List.getElem?_cons_succ, List.getElem?_cons_zero]; rfl)
  case hd13 => rfl
  case hw13 => rfl
  case he13 => (go_simp; constructor <;> with_reducible rfl)
  refine Calls.mono (C2.out _ hHeld) ?_
  rintro e v2 ⟨rfl, bb⟩
  have hX := hHeld.trans (bb.mono hHeld.size)
  clear bb
  refine ⟨_, rfl, hX, fun hHeld => ?_⟩
  simp only [List.set_cons_succ, List.set_cons_zero]
  refine take_at (i := 13) (d := 74) (oi := ?o14) (v := ?v14) ?hi14 ?hd14 (by kernel_rfl) (by kernel_rfl) (by kernel_rfl) ?hw14 ?hy14 ?hq14 (by assumption) ?r14
  case hi14 => (simp only [List.getElem?_toArray, List.getElem?_cons_succ, List.getElem?_cons_zero]; rfl)
  case hd14 => rfl
  case hw14 => rfl
  case hy14 => ((intro w hSw; (try dsimp only at hSw); go_simp) <;> (with_reducible rfl))
  case hq14 => exact fun _ _ _ h => h
  simp only [List.set_cons_succ, List.set_cons_zero]
  refine take_at (i := 14) (d := 75) (oi := ?o15) (v := ?v15) ?hi15 ?hd15 (by kernel_rfl) (by kernel_rfl) (by kernel_rfl) ?hw15 ?hy15 ?hq15 (by assumption) ?r15
  case hi15 => (simp only [List.getElem?_toArray, List.getElem?_cons_succ, List.getElem?_cons_zero]; rfl)
  case hd15 => rfl
  case hw15 => rfl
  case hy15 => ((intro w hSw; (try dsimp only at hSw); go_simp) <;> (with_reducible rfl))
  case hq15 => exact fun _ _ _ h => h
  simp only [List.set_cons_succ, List.set_cons_zero]
  refine take_at (i := 15) (d := 76) (oi := ?o16) (v := ?v16) ?hi16 ?hd16 (by kernel_rfl) (by kernel_rfl) (by kernel_rfl) ?hw16 ?hy16 ?hq16 (by assumption) ?r16
  case hi16 => (simp only [List.getElem?_toArray, List.getElem?_cons_succ, List.getElem?_cons_zero]; rfl)
  case hd16 => rfl
  case hw16 => rfl
  case hy16 => ((intro w hSw; (try dsimp only at hSw); go_simp) <;> (with_reducible rfl))
  case hq16 => exact fun _ _ _ h => h
  simp only [List.set_cons_succ, List.set_cons_zero]
  refine take_at (i := 16) (d := 77) (oi := ?o17) (v := ?v17) ?hi17 ?hd17 (by kernel_rfl) (by kernel_rfl) (by kernel_rfl) ?hw17 ?hy17 ?hq17 (by assumption) ?r17
  case hi17 => (simp only [List.getElem?_toArray, List.getElem?_cons_succ, List.getElem?_cons_zero]; rfl)
  case hd17 => rfl
  case hw17 => rfl
  case hy17 => ((intro w hSw; (try dsimp only at hSw); go_simp) <;> (with_reducible rfl))
  case hq17 => exact fun _ _ _ h => h
  simp only [List.set_cons_succ, List.set_cons_zero]
  refine take_at (i := 17) (d := 78) (oi := ?o18) (v := ?v18) ?hi18 ?hd18 (by kernel_rfl) (by kernel_rfl) (by kernel_rfl) ?hw18 ?hy18 ?hq18 (by assumption) ?r18
  case hi18 => (simp only [List.getElem?_toArray, List.getElem?_cons_succ, List.getElem?_cons_zero]; rfl)
  case hd18 => rfl
  case hw18 => rfl
  case hy18 => ((intro w hSw; (try dsimp only at hSw); go_simp) <;> (with_reducible rfl))
  case hq18 => exact fun _ _ _ h => h
  simp only [List.set_cons_succ, List.set_cons_zero]
  refine take_at (i := 18) (d := 79) (oi := ?o19) (v := ?v19) ?hi19 ?hd19 (by kernel_rfl) (by kernel_rfl) (by kernel_rfl) ?hw19 ?hy19 ?hq19 (by assumption) ?r19
  case hi19 => (simp only [List.getElem?_toArray, List.getElem?_cons_succ, List.getElem?_cons_zero]; rfl)
  case hd19 => rfl
  case hw19 => rfl
  case hy19 => ((intro w hSw; (try dsimp only at hSw); go_simp) <;> (with_reducible rfl))
  case hq19 => exact fun _ _ _ h => h
  simp only [List.set_cons_succ, List.set_cons_zero]
  refine take_at (i := 19) (d := 80) (oi := ?o20) (v := ?v20) ?hi20 ?hd20 (by kernel_rfl) (by kernel_rfl) (by kernel_rfl) ?hw20 ?hy20 ?hq20 (by assumption) ?r20
  case hi20 => (simp only [List.getElem?_toArray, List.getElem?_cons_succ, List.getElem?_cons_zero]; rfl)
  case hd20 => rfl
  case hw20 => rfl
  case hy20 => ((intro w hSw; (try dsimp only at hSw); go_simp) <;> (with_reducible rfl))
  case hq20 => exact fun _ _ _ h => h
  simp only [List.set_cons_succ, List.set_cons_zero]
  refine take_at (i := 20) (d := 81) (oi := ?o21) (v := ?v21) ?hi21 ?hd21 (by kernel_rfl) (by kernel_rfl) (by kernel_rfl) ?hw21 ?hy21 ?hq21 (by assumption) ?r21
  case hi21 => (simp only [List.getElem?_toArray, List.getElem?_cons_succ, List.getElem?_cons_zero]; rfl)
  case hd21 => rfl
  case hw21 => rfl
  case hy21 => ((intro w hSw; (try dsimp only at hSw); go_simp) <;> (with_reducible rfl))
  case hq21 => exact fun _ _ _ h => h
  simp only [List.set_cons_succ, List.set_cons_zero]
  refine take_at (i := 21) (d := 82) (oi := ?o22) (v := ?v22) ?hi22 ?hd22 (by kernel_rfl) (by kernel_rfl) (by kernel_rfl) ?hw22 ?hy22 ?hq22 (by assumption) ?r22
  case hi22 => (simp only [List.getElem?_toArray, List.getElem?_cons_succ, List.getElem?_cons_zero]; rfl)
  case hd22 => rfl
  case hw22 => rfl
  case hy22 => ((intro w hSw; (try dsimp only at hSw); go_simp) <;> (with_reducible rfl))
  case hq22 => exact fun _ _ _ h => h
  simp only [List.set_cons_succ, List.set_cons_zero]
  refine take_at (i := 22) (d := 83) (oi := ?o23) (v := ?v23) ?hi23 ?hd23 (by kernel_rfl) (by kernel_rfl) (by kernel_rfl) ?hw23 ?hy23 ?hq23 (by assumption) ?r23
  case hi23 => (simp only [List.getElem?_toArray, List.getElem?_cons_succ, List.getElem?_cons_zero]; rfl)
  case hd23 => rfl
  case hw23 => rfl
  case hy23 => ((intro w hSw; (try dsimp only at hSw); go_simp) <;> (with_reducible rfl))
  case hq23 => exact fun _ _ _ h => h
  simp only [List.set_cons_succ, List.set_cons_zero]
  refine take_at (i := 23) (d := 84) (oi := ?o24) (v := ?v24) ?hi24 ?hd24 (by kernel_rfl) (by kernel_rfl) (by kernel_rfl) ?hw24 ?hy24 ?hq24 (by assumption) ?r24
  case hi24 => (simp only [List.getElem?_toArray, List.getElem?_cons_succ, List.getElem?_cons_zero]; rfl)
  case hd24 => rfl
  case hw24 => rfl
  case hy24 => ((intro w hSw; (try dsimp only at hSw); go_simp) <;> (with_reducible rfl))
  case hq24 => exact fun _ _ _ h => h
  simp only [List.set_cons_succ, List.set_cons_zero]
  refine take_at (i := 24) (d := 85) (oi := ?o25) (v := ?v25) ?hi25 ?hd25 (by kernel_rfl) (by kernel_rfl) (by kernel_rfl) ?hw25 ?hy25 ?hq25 (by assumption) ?r25
  case hi25 => (simp only [List.getElem?_toArray, List.getElem?_cons_succ, List.getElem?_cons_zero]; rfl)
  case hd25 => rfl
  case hw25 => rfl
  case hy25 => ((intro w hSw; (try dsimp only at hSw); go_simp) <;> (with_reducible rfl))
  case hq25 => exact fun _ _ _ h => h
  simp only [List.set_cons_succ, List.set_cons_zero]
  refine take_at (i := 25) (d := 86) (oi := ?o26) (v := ?v26) ?hi26 ?hd26 (by kernel_rfl) (by kernel_rfl) (by kernel_rfl) ?hw26 ?hy26 ?hq26 (by assumption) ?r26
  case hi26 => (simp only [List.getElem?_toArray, List.getElem?_cons_succ, List.getElem?_cons_zero]; rfl)
  case hd26 => rfl
  case hw26 => rfl
  case hy26 => ((intro w hSw; (try dsimp only at hSw); go_simp) <;> (with_reducible rfl))
  case hq26 => exact fun _ _ _ h => h
  simp only [List.set_cons_succ, List.set_cons_zero]
  refine take_at (i := 26) (d := 87) (oi := ?o27) (v := ?v27) ?hi27 ?hd27 (by kernel_rfl) (by kernel_rfl) (by kernel_rfl) ?hw27 ?hy27 ?hq27 (by assumption) ?r27
  case hi27 => (simp only [List.getElem?_toArray, List.getElem?_cons_succ, List.getElem?_cons_zero]; rfl)
  case hd27 => rfl
  case hw27 => rfl
  case hy27 => ((intro w hSw; (try dsimp only at hSw); go_simp) <;> (with_reducible rfl))
  case hq27 => exact fun _ _ _ h => h
  simp only [List.set_cons_succ, List.set_cons_zero]
  refine take_at (i := 27) (d := 88) (oi := ?o28) (v := ?v28) ?hi28 ?hd28 (by kernel_rfl) (by kernel_rfl) (by kernel_rfl) ?hw28 ?hy28 ?hq28 (by assumption) ?r28
  case hi28 => (simp only [List.getElem?_toArray, List.getElem?_cons_succ, List.getElem?_cons_zero]; rfl)
  case hd28 => rfl
  case hw28 => rfl
  case hy28 => ((intro w hSw; (try dsimp only at hSw); go_simp) <;> (with_reducible rfl))
  case hq28 => exact fun _ _ _ h => h
  simp only [List.set_cons_succ, List.set_cons_zero]
  refine take_at (i := 28) (d := 89) (oi := ?o29) (v := ?v29) ?hi29 ?hd29 (by kernel_rfl) (by kernel_rfl) (by kernel_rfl) ?hw29 ?hy29 ?hq29 (by assumption) ?r29
  case hi29 => (simp only [List.getElem?_toArray, List.getElem?_cons_succ, List.getElem?_cons_zero]; rfl)
  case hd29 => rfl
  case hw29 => rfl
  case hy29 => ((intro w hSw; (try dsimp only at hSw); go_simp) <;> (with_reducible rfl))
  case hq29 => exact fun _ _ _ h => h
  simp only [List.set_cons_succ, List.set_cons_zero]
  refine take_at (i := 29) (d := 90) (oi := ?o30) (v := ?v30) ?hi30 ?hd30 (by kernel_rfl) (by kernel_rfl) (by kernel_rfl) ?hw30 ?hy30 ?hq30 (by assumption) ?r30
  case hi30 => (simp only [List.getElem?_toArray, List.getElem?_cons_succ, List.getElem?_cons_zero]; rfl)
  case hd30 => rfl
  case hw30 => rfl
  case hy30 => ((intro w hSw; (try dsimp only at hSw); go_simp) <;> (with_reducible rfl))
  case hq30 => exact fun _ _ _ h => h
  simp only [List.set_cons_succ, List.set_cons_zero]
  refine take_at (i := 30) (d := 91) (oi := ?o31) (v := ?v31) ?hi31 ?hd31 (by kernel_rfl) (by kernel_rfl) (by kernel_rfl) ?hw31 ?hy31 ?hq31 (by assumption) ?r31
  case hi31 => (simp only [List.getElem?_toArray, List.getElem?_cons_succ, List.getElem?_cons_zero]; rfl)
  case hd31 => rfl
  case hw31 => rfl
  case hy31 => ((intro w hSw; (try dsimp only at hSw); go_simp) <;> (with_reducible rfl))
  case hq31 => exact fun _ _ _ h => h
  simp only [List.set_cons_succ, List.set_cons_zero]
  refine take_at (i := 31) (d := 92) (oi := ?o32) (v := ?v32) ?hi32 ?hd32 (by kernel_rfl) (by kernel_rfl) (by kernel_rfl) ?hw32 ?hy32 ?hq32 (by assumption) ?r32
  case hi32 => (simp only [List.getElem?_toArray, List.getElem?_cons_succ, List.getElem?_cons_zero]; rfl)
  case hd32 => rfl
  case hw32 => rfl
  case hy32 => ((intro w hSw; (try dsimp only at hSw); obtain ⟨k0, k1, k2, k3, k4, k5⟩ := (HB.out.1.below hSw).cells; go_simp) <;> (with_reducible rfl))
  case hq32 => exact fun _ _ _ h => h
  simp only [List.set_cons_succ, List.set_cons_zero]
  refine take_at (i := 33) (d := 94) (oi := ?o33) (v := ?v33) ?hi33 ?hd33 (by kernel_rfl) (by kernel_rfl) (by kernel_rfl) ?hw33 ?hy33 ?hq33 (by assumption) ?r33
  case hi33 => (simp only [List.getElem?_toArray, List.getElem?_cons_succ, List.getElem?_cons_zero]; rfl)
  case hd33 => rfl
  case hw33 => rfl
  case hy33 => ((intro w hSw; (try dsimp only at hSw); obtain ⟨k0, k1, k2, k3, k4, k5⟩ := (HB.out.1.below hSw).cells; go_simp) <;> (with_reducible rfl))
  case hq33 => exact fun _ _ _ h => h
  simp only [List.set_cons_succ, List.set_cons_zero]
  refine call_at (i := 32) (d := 93) (oi := ?o34) (f := ?f34) (args := ?a34) ?hi34 ?hd34 (by kernel_rfl) ?hw34 ?he34 ?hc34
  case hi34 => (simp only [List.getElem?_toArray, List.getElem?_cons_succ, List.getElem?_cons_zero]; rfl)
  case hd34 => rfl
  case hw34 => rfl
  case he34 => (go_simp; constructor <;> with_reducible rfl)
  refine Calls.mono (C3.out _ hHeld) ?_
  rintro e v3 ⟨rfl, bb⟩
  have hX := hHeld.trans (bb.mono hHeld.size)
  clear bb
  refine ⟨_, rfl, hX, fun hHeld => ?_⟩
  simp only [List.set_cons_succ, List.set_cons_zero]
  refine call_at (i := 34) (d := 95) (oi := ?o35) (f := ?f35) (args := ?a35) ?hi35 ?hd35 (by kernel_rfl) ?hw35 ?he35 ?hc35
  case hi35 => (simp only [List.getElem?_toArray, List.getElem?_cons_succ, List.getElem?_cons_zero]; rfl)
  case hd35 => rfl
  case hw35 => rfl
  case he35 => (go_simp; constructor <;> with_reducible rfl)
  refine Calls.mono (C4.out _ hHeld) ?_
  rintro e v4 ⟨rfl, bb⟩
  have hX := hHeld.trans (bb.mono hHeld.size)
  clear bb
  refine ⟨_, rfl, hX, fun hHeld => ?_⟩
  simp only [List.set_cons_succ, List.set_cons_zero]
  refine take_at (i := 35) (d := 96) (oi := ?o36) (v := ?v36) ?hi36 ?hd36 (by kernel_rfl) (by kernel_rfl) (by kernel_rfl) ?hw36 ?hy36 ?hq36 (by assumption) ?r36
  case hi36 => (simp only [List.getElem?_toArray, List.getElem?_cons_succ, List.getElem?_cons_zero]; rfl)
  case hd36 => rfl
  case hw36 => rfl
  case hy36 => ((intro w hSw; (try dsimp only at hSw); go_simp) <;> (with_reducible rfl))
  case hq36 => exact fun _ _ _ h => h
  simp only [List.set_cons_succ, List.set_cons_zero]
  refine take_at (i := 36) (d := 97) (oi := ?o37) (v := ?v37) ?hi37 ?hd37 (by kernel_rfl) (by kernel_rfl) (by kernel_rfl) ?hw37 ?hy37 ?hq37 (by assumption) ?r37
  case hi37 => (simp only [List.getElem?_toArray, List.getElem?_cons_succ, List.getElem?_cons_zero]; rfl)
  case hd37 => rfl
  case hw37 => rfl
  case hy37 => ((intro w hSw; (try dsimp only at hSw); go_simp) <;> (with_reducible rfl))
  case hq37 => exact fun _ _ _ h => h
  simp only [List.set_cons_succ, List.set_cons_zero]
  refine take_at (i := 37) (d := 98) (oi := ?o38) (v := ?v38) ?hi38 ?hd38 (by kernel_rfl) (by kernel_rfl) (by kernel_rfl) ?hw38 ?hy38 ?hq38 (by assumption) ?r38
  case hi38 => (simp only [List.getElem?_toArray, List.getElem?_cons_succ, List.getElem?_cons_zero]; rfl)
  case hd38 => rfl
  case hw38 => rfl
  case hy38 => ((intro w hSw; (try dsimp only at hSw); go_simp) <;> (with_reducible rfl))
  case hq38 => exact fun _ _ _ h => h
  simp only [List.set_cons_succ, List.set_cons_zero]
  refine take_at (i := 38) (d := 99) (oi := ?o39) (v := ?v39) ?hi39 ?hd39 (by kernel_rfl) (by kernel_rfl) (by kernel_rfl) ?hw39 ?hy39 ?hq39 (by assumption) ?r39
  case hi39 => (simp only [List.getElem?_toArray, List.getElem?_cons_succ, List.getElem?_cons_zero]; rfl)
  case hd39 => rfl
  case hw39 => rfl
  case hy39 => ((intro w hSw; (try dsimp only at hSw); obtain ⟨k0, k1, k2, k3, k4, k5⟩ := (HB.out.1.below hSw).cells; go_simp) <;> (with_reducible rfl))
  case hq39 => exact fun _ _ _ h => h
  simp only [List.set_cons_succ, List.set_cons_zero]
  refine take_at (i := 40) (d := 101) (oi := ?o40) (v := ?v40) ?hi40 ?hd40 (by kernel_rfl) (by kernel_rfl) (by kernel_rfl) ?hw40 ?hy40 ?hq40 (by assumption) ?r40
  case hi40 => (simp only [List.getElem?_toArray, List.getElem?_cons_succ, List.getElem?_cons_zero]; rfl)
  case hd40 => rfl
  case hw40 => rfl
  case hy40 => ((intro w hSw; (try dsimp only at hSw); obtain ⟨k0, k1, k2, k3, k4, k5⟩ := (HB.out.1.below hSw).cells; go_simp) <;> (with_reducible rfl))
  case hq40 => exact fun _ _ _ h => h
  simp only [List.set_cons_succ, List.set_cons_zero]
  refine call_at (i := 39) (d := 100) (oi := ?o41) (f := ?f41) (args := ?a41) ?hi41 ?hd41 (by kernel_rfl) ?hw41 ?he41 ?hc41
  case hi41 => (simp only [List.getElem?_toArray, List.getElem?_cons_succ, List.getElem?_cons_zero]; rfl)
  case hd41 => rfl
  case hw41 => rfl
  case he41 => (go_simp; constructor <;> with_reducible rfl)
  refine Calls.mono (C5.out _ hHeld) ?_
  rintro e v5 ⟨⟨A5, q5, c5, rfl, hc5, hq5, hI5⟩, bb⟩
  have hX := hHeld.trans (bb.mono hHeld.size)
  have I5 := hI5.ids; clear hI5
  clear bb
  refine ⟨_, rfl, hX, fun hHeld => ?_⟩
  simp only [List.set_cons_succ, List.set_cons_zero]
  refine call_at (i := 41) (d := 102) (oi := ?o42) (f := ?f42) (args := ?a42) ?hi42 ?hd42 (by kernel_rfl) ?hw42 ?he42 ?hc42
  case hi42 => (simp only [List.getElem?_toArray, List.getElem?_cons_succ, List.getElem?_cons_zero]; rfl)
  case hd42 => rfl
  case hw42 => rfl
  case he42 => (go_simp; constructor <;> with_reducible rfl)
  refine Calls.mono (C6.out _ hHeld) ?_
  rintro e v6 ⟨⟨A6, q6, c6, rfl, hc6, hq6, I6⟩, bb⟩
  have hX := hHeld.trans (bb.mono hHeld.size)
  have I5b := I5.on bb bb.size; clear I5; obtain rfl : q6 = q5 := hq6.trans hq5.symm; have HI := Lib.hid (⟨I5b, I6, hq5⟩ : _ ∧ _ ∧ _); clear hq6 I5b I6 hq5 hc5 hc6
  clear bb
  refine ⟨_, rfl, hX, fun hHeld => ?_⟩
  simp only [List.set_cons_succ, List.set_cons_zero]
  refine call_at (i := 42) (d := 103) (oi := ?o43) (f := ?f43) (args := ?a43) ?hi43 ?hd43 (by kernel_rfl) ?hw43 ?he43 ?hc43
  case hi43 => (simp only [List.getElem?_toArray, List.getElem?_cons_succ, List.getElem?_cons_zero]; rfl)
  case hd43 => rfl
  case hw43 => rfl
  case he43 => (go_simp; constructor <;> with_reducible rfl)
  refine Calls.mono (idents_true A5 q6 c5 (keepP m) A6 c6 _ HI.out.1 HI.out.2.1 (by rw [HI.out.2.2]; exact HQ9.out)) ?_
  rintro e v7 ⟨rfl, bb⟩
  have hX := hHeld.trans (bb.mono hHeld.size)
  clear bb
  refine ⟨_, rfl, hX, fun hHeld => ?_⟩
  simp only [List.set_cons_succ, List.set_cons_zero]
  refine take_at (i := 43) (d := 104) (oi := ?o44) (v := ?v44) ?hi44 ?hd44 (by kernel_rfl) (by kernel_rfl) (by kernel_rfl) ?hw44 ?hy44 ?hq44 (by assumption) ?r44
  case hi44 => (simp only [List.getElem?_toArray, List.getElem?_cons_succ, List.getElem?_cons_zero]; rfl)
  case hd44 => rfl
  case hw44 => rfl
  case hy44 => ((intro w hSw; (try dsimp only at hSw); go_simp) <;> (with_reducible rfl))
  case hq44 => exact fun _ _ _ h => h
  simp only [List.set_cons_succ, List.set_cons_zero]
  refine take_at (i := 44) (d := 105) (oi := ?o45) (v := ?v45) ?hi45 ?hd45 (by kernel_rfl) (by kernel_rfl) (by kernel_rfl) ?hw45 ?hy45 ?hq45 (by assumption) ?r45
  case hi45 => (simp only [List.getElem?_toArray, List.getElem?_cons_succ, List.getElem?_cons_zero]; rfl)
  case hd45 => rfl
  case hw45 => rfl
  case hy45 => ((intro w hSw; (try dsimp only at hSw); go_simp) <;> (with_reducible rfl))
  case hq45 => exact fun _ _ _ h => h
  simp only [List.set_cons_succ, List.set_cons_zero]
  refine wpAnyH_done (by kernel_rfl) ?_ _
  clear HI ne1 ne3 nei neo nec
  go_wp2_with fail
  have eqt : (tb == tb) = true := by simp
  have eqs : (sb == sb) = true := by simp
  refine wp_region_held_drew (S := (fun X => Below w12.heap.size w12 X)) (by kernel_rfl) hHeld.drew (fun hHeld => ?_)
  refine take_at (i := 0) (d := 106) (oi := ?o46) (v := ?v46) ?hi46 ?hd46 (by kernel_rfl) (by kernel_rfl) (by kernel_rfl) ?hw46 ?hy46 ?hq46 (by assumption) ?r46
  case hi46 => (simp only [List.getElem?_toArray, List.getElem?_cons_zero]; rfl)
  case hd46 => rfl
  case hw46 => rfl
  case hy46 => ((intro w hSw; (try dsimp only at hSw); obtain ⟨k0, k1, k2, k3, k4, k5⟩ := (HB.out.1.below hSw).cells; go_simp) <;> (with_reducible rfl))
  case hq46 => exact fun _ _ _ h => h
  simp only [List.set_cons_succ, List.set_cons_zero]
  refine take_at (i := 2) (d := 108) (oi := ?o47) (v := ?v47) ?hi47 ?hd47 (by kernel_rfl) (by kernel_rfl) (by kernel_rfl) ?hw47 ?hy47 ?hq47 (by assumption) ?r47
  case hi47 => (simp only [List.getElem?_toArray, List.getElem?_cons_succ, List.getElem?_cons_zero]; rfl)
  case hd47 => rfl
  case hw47 => rfl
  case hy47 => ((intro w hSw; (try dsimp only at hSw); obtain ⟨k0, k1, k2, k3, k4, k5⟩ := (HB.out.1.below hSw).cells; go_simp) <;> (with_reducible rfl))
  case hq47 => exact fun _ _ _ h => h
  simp only [List.set_cons_succ, List.set_cons_zero]
  refine call_at (i := 1) (d := 107) (oi := ?o48) (f := ?f48) (args := ?a48) ?hi48 ?hd48 (by kernel_rfl) ?hw48 ?he48 ?hc48
  case hi48 => (simp only [List.getElem?_toArray, List.getElem?_cons_succ, List.getElem?_cons_zero]; rfl)
  case hd48 => rfl
  case hw48 => rfl
  case he48 => (go_simp; constructor <;> with_reducible rfl)
  refine Calls.mono (C7.out _ hHeld) ?_
  rintro e v8 ⟨rfl, bb⟩
  have hX := hHeld.trans (bb.mono hHeld.size)
  clear bb
  refine ⟨_, rfl, hX, fun hHeld => ?_⟩
  simp only [List.set_cons_succ, List.set_cons_zero]
  refine call_at (i := 3) (d := 109) (oi := ?o49) (f := ?f49) (args := ?a49) ?hi49 ?hd49 (by kernel_rfl) ?hw49 ?he49 ?hc49
  case hi49 => (simp only [List.getElem?_toArray, List.getElem?_cons_succ, List.getElem?_cons_zero]; rfl)
  case hd49 => rfl
  case hw49 => rfl
  case he49 => (go_simp; constructor <;> with_reducible rfl)
  refine Calls.mono (C8.out _ hHeld) ?_
  rintro e v9 ⟨rfl, bb⟩
  have hX := hHeld.trans (bb.mono hHeld.size)
  clear bb
  refine ⟨_, rfl, hX, fun hHeld => ?_⟩
  simp only [List.set_cons_succ, List.set_cons_zero]
  refine take_at (i := 4) (d := 110) (oi := ?o50) (v := ?v50) ?hi50 ?hd50 (by kernel_rfl) (by kernel_rfl) (by kernel_rfl) ?hw50 ?hy50 ?hq50 (by assumption) ?r50
  case hi50 => (simp only [List.getElem?_toArray, List.getElem?_cons_succ, List.getElem?_cons_zero]; rfl)
  case hd50 => rfl
  case hw50 => rfl
  case hy50 => ((intro w hSw; (try dsimp only at hSw); go_simp) <;> (with_reducible rfl))
  case hq50 => exact fun _ _ _ h => h
  simp only [List.set_cons_succ, List.set_cons_zero]
  refine take_at (i := 5) (d := 111) (oi := ?o51) (v := ?v51) ?hi51 ?hd51 (by kernel_rfl) (by kernel_rfl) (by kernel_rfl) ?hw51 ?hy51 ?hq51 (by assumption) ?r51
  case hi51 => (simp only [List.getElem?_toArray, List.getElem?_cons_succ, List.getElem?_cons_zero]; rfl)
  case hd51 => rfl
  case hw51 => rfl
  case hy51 => ((intro w hSw; (try dsimp only at hSw); go_simp) <;> (with_reducible rfl))
  case hq51 => exact fun _ _ _ h => h
  simp only [List.set_cons_succ, List.set_cons_zero]
  refine take_at (i := 6) (d := 112) (oi := ?o52) (v := ?v52) ?hi52 ?hd52 (by kernel_rfl) (by kernel_rfl) (by kernel_rfl) ?hw52 ?hy52 ?hq52 (by assumption) ?r52
  case hi52 => (simp only [List.getElem?_toArray, List.getElem?_cons_succ, List.getElem?_cons_zero]; rfl)
  case hd52 => rfl
  case hw52 => rfl
  case hy52 => ((intro w hSw; (try dsimp only at hSw); obtain ⟨k0, k1, k2, k3, k4, k5⟩ := (HB.out.1.below hSw).cells; go_simp) <;> (with_reducible rfl))
  case hq52 => exact fun _ _ _ h => h
  simp only [List.set_cons_succ, List.set_cons_zero]
  refine take_at (i := 7) (d := 113) (oi := ?o53) (v := ?v53) ?hi53 ?hd53 (by kernel_rfl) (by kernel_rfl) (by kernel_rfl) ?hw53 ?hy53 ?hq53 (by assumption) ?r53
  case hi53 => (simp only [List.getElem?_toArray, List.getElem?_cons_succ, List.getElem?_cons_zero]; rfl)
  case hd53 => rfl
  case hw53 => rfl
  case hy53 => ((intro w hSw; (try dsimp only at hSw); obtain ⟨k0, k1, k2, k3, k4, k5⟩ := (HB.out.2.2.2.below hSw).cells; go_simp) <;> (with_reducible rfl))
  case hq53 => exact fun _ _ _ h => h
  simp only [List.set_cons_succ, List.set_cons_zero]
  refine take_at (i := 9) (d := 115) (oi := ?o54) (v := ?v54) ?hi54 ?hd54 (by kernel_rfl) (by kernel_rfl) (by kernel_rfl) ?hw54 ?hy54 ?hq54 (by assumption) ?r54
  case hi54 => (simp only [List.getElem?_toArray, List.getElem?_cons_succ, List.getElem?_cons_zero]; rfl)
  case hd54 => rfl
  case hw54 => rfl
  case hy54 => ((intro w hSw; (try dsimp only at hSw); obtain ⟨k0, k1, k2, k3, k4, k5⟩ := (HB.out.1.below hSw).cells; go_simp) <;> (with_reducible rfl))
  case hq54 => exact fun _ _ _ h => h
  simp only [List.set_cons_succ, List.set_cons_zero]
  refine take_at (i := 10) (d := 116) (oi := ?o55) (v := ?v55) ?hi55 ?hd55 (by kernel_rfl) (by kernel_rfl) (by kernel_rfl) ?hw55 ?hy55 ?hq55 (by assumption) ?r55
  case hi55 => (simp only [List.getElem?_toArray, List.getElem?_cons_succ, List.getElem?_cons_zero]; rfl)
  case hd55 => rfl
  case hw55 => rfl
  case hy55 => ((intro w hSw; (try dsimp only at hSw); obtain ⟨k0, k1, k2, k3, k4, k5⟩ := (HB.out.2.2.2.below hSw).cells; go_simp) <;> (with_reducible rfl))
  case hq55 => exact fun _ _ _ h => h
  simp only [List.set_cons_succ, List.set_cons_zero]
  refine call_at (i := 8) (d := 114) (oi := ?o56) (f := ?f56) (args := ?a56) ?hi56 ?hd56 (by kernel_rfl) ?hw56 ?he56 ?hc56
  case hi56 => (simp only [List.getElem?_toArray, List.getElem?_cons_succ, List.getElem?_cons_zero]; rfl)
  case hd56 => rfl
  case hw56 => rfl
  case he56 => (go_simp; constructor <;> with_reducible rfl)
  refine Calls.mono (C9.out _ hHeld) ?_
  rintro e v10 ⟨rfl, bb⟩
  have hX := hHeld.trans (bb.mono hHeld.size)
  clear bb
  refine ⟨_, rfl, hX, fun hHeld => ?_⟩
  simp only [List.set_cons_succ, List.set_cons_zero]
  refine call_at (i := 11) (d := 117) (oi := ?o57) (f := ?f57) (args := ?a57) ?hi57 ?hd57 (by kernel_rfl) ?hw57 ?he57 ?hc57
  case hi57 => (simp only [List.getElem?_toArray, List.getElem?_cons_succ, List.getElem?_cons_zero]; rfl)
  case hd57 => rfl
  case hw57 => rfl
  case he57 => (go_simp; constructor <;> with_reducible rfl)
  refine Calls.mono (C10.out _ hHeld) ?_
  rintro e v11 ⟨rfl, bb⟩
  have hX := hHeld.trans (bb.mono hHeld.size)
  clear bb
  refine ⟨_, rfl, hX, fun hHeld => ?_⟩
  simp only [List.set_cons_succ, List.set_cons_zero]
  refine take_at (i := 12) (d := 118) (oi := ?o58) (v := ?v58) ?hi58 ?hd58 (by kernel_rfl) (by kernel_rfl) (by kernel_rfl) ?hw58 ?hy58 ?hq58 (by assumption) ?r58
  case hi58 => (simp only [List.getElem?_toArray, List.getElem?_cons_succ, List.getElem?_cons_zero]; rfl)
  case hd58 => rfl
  case hw58 => rfl
  case hy58 => ((intro w hSw; (try dsimp only at hSw); go_simp) <;> (with_reducible rfl))
  case hq58 => exact fun _ _ _ h => h
  simp only [List.set_cons_succ, List.set_cons_zero]
  refine take_at (i := 13) (d := 119) (oi := ?o59) (v := ?v59) ?hi59 ?hd59 (by kernel_rfl) (by kernel_rfl) (by kernel_rfl) ?hw59 ?hy59 ?hq59 (by assumption) ?r59
  case hi59 => (simp only [List.getElem?_toArray, List.getElem?_cons_succ, List.getElem?_cons_zero]; rfl)
  case hd59 => rfl
  case hw59 => rfl
  case hy59 => ((intro w hSw; (try dsimp only at hSw); go_simp) <;> (with_reducible rfl))
  case hq59 => exact fun _ _ _ h => h
  simp only [List.set_cons_succ, List.set_cons_zero]
  refine take_at (i := 14) (d := 120) (oi := ?o60) (v := ?v60) ?hi60 ?hd60 (by kernel_rfl) (by kernel_rfl) (by kernel_rfl) ?hw60 ?hy60 ?hq60 (by assumption) ?r60
  case hi60 => (simp only [List.getElem?_toArray, List.getElem?_cons_succ, List.getElem?_cons_zero]; rfl)
  case hd60 => rfl
  case hw60 => rfl
  case hy60 => ((intro w hSw; (try dsimp only at hSw); go_simp) <;> (with_reducible rfl))
  case hq60 => exact fun _ _ _ h => h
  simp only [List.set_cons_succ, List.set_cons_zero]
  refine take_at (i := 15) (d := 121) (oi := ?o61) (v := ?v61) ?hi61 ?hd61 (by kernel_rfl) (by kernel_rfl) (by kernel_rfl) ?hw61 ?hy61 ?hq61 (by assumption) ?r61
  case hi61 => (simp only [List.getElem?_toArray, List.getElem?_cons_succ, List.getElem?_cons_zero]; rfl)
  case hd61 => rfl
  case hw61 => rfl
  case hy61 => ((intro w hSw; (try dsimp only at hSw); obtain ⟨k0, k1, k2, k3, k4, k5⟩ := (HB.out.1.below hSw).cells; go_simp) <;> (with_reducible rfl))
  case hq61 => exact fun _ _ _ h => h
  simp only [List.set_cons_succ, List.set_cons_zero]
  refine take_at (i := 17) (d := 123) (oi := ?o62) (v := ?v62) ?hi62 ?hd62 (by kernel_rfl) (by kernel_rfl) (by kernel_rfl) ?hw62 ?hy62 ?hq62 (by assumption) ?r62
  case hi62 => (simp only [List.getElem?_toArray, List.getElem?_cons_succ, List.getElem?_cons_zero]; rfl)
  case hd62 => rfl
  case hw62 => rfl
  case hy62 => ((intro w hSw; (try dsimp only at hSw); obtain ⟨k0, k1, k2, k3, k4, k5⟩ := (HB.out.1.below hSw).cells; go_simp) <;> (with_reducible rfl))
  case hq62 => exact fun _ _ _ h => h
  simp only [List.set_cons_succ, List.set_cons_zero]
  refine call_at (i := 16) (d := 122) (oi := ?o63) (f := ?f63) (args := ?a63) ?hi63 ?hd63 (by kernel_rfl) ?hw63 ?he63 ?hc63
  case hi63 => (simp only [List.getElem?_toArray, List.getElem?_cons_succ, List.getElem?_cons_zero]; rfl)
  case hd63 => rfl
  case hw63 => rfl
  case he63 => (go_simp; constructor <;> with_reducible rfl)
  refine Calls.mono (C11.out _ hHeld) ?_
  rintro e v12 ⟨⟨A7, c7, rfl, hc7, own7⟩, bb⟩
  have hX := hHeld.trans (bb.mono hHeld.size)
  have S7 := own7.sg; clear own7
  clear bb
  refine ⟨_, rfl, hX, fun hHeld => ?_⟩
  simp only [List.set_cons_succ, List.set_cons_zero]
  refine call_at (i := 18) (d := 124) (oi := ?o64) (f := ?f64) (args := ?a64) ?hi64 ?hd64 (by kernel_rfl) ?hw64 ?he64 ?hc64
  case hi64 => (simp only [List.getElem?_toArray, List.getElem?_cons_succ, List.getElem?_cons_zero]; rfl)
  case hd64 => rfl
  case hw64 => rfl
  case he64 => (go_simp; constructor <;> with_reducible rfl)
  refine Calls.mono (rsameM_any m m A7 A n n c7 c _ S7 (HS.out.1.on hHeld hHeld.size) (by omega) (by omega)) ?_
  rintro e v13 ⟨⟨r7, hr7, rfl⟩, bb⟩
  have hX := hHeld.trans (bb.mono hHeld.size)
  obtain rfl := hr7.same (SameM.yes rfl); clear hr7
  clear bb
  refine ⟨_, rfl, hX, fun hHeld => ?_⟩
  simp only [List.set_cons_succ, List.set_cons_zero]
  refine take_at (i := 19) (d := 125) (oi := ?o65) (v := ?v65) ?hi65 ?hd65 (by kernel_rfl) (by kernel_rfl) (by kernel_rfl) ?hw65 ?hy65 ?hq65 (by assumption) ?r65
  case hi65 => (simp only [List.getElem?_toArray, List.getElem?_cons_succ, List.getElem?_cons_zero]; rfl)
  case hd65 => rfl
  case hw65 => rfl
  case hy65 => ((intro w hSw; (try dsimp only at hSw); go_simp) <;> (with_reducible rfl))
  case hq65 => exact fun _ _ _ h => h
  simp only [List.set_cons_succ, List.set_cons_zero]
  refine take_at (i := 20) (d := 126) (oi := ?o66) (v := ?v66) ?hi66 ?hd66 (by kernel_rfl) (by kernel_rfl) (by kernel_rfl) ?hw66 ?hy66 ?hq66 (by assumption) ?r66
  case hi66 => (simp only [List.getElem?_toArray, List.getElem?_cons_succ, List.getElem?_cons_zero]; rfl)
  case hd66 => rfl
  case hw66 => rfl
  case hy66 => ((intro w hSw; (try dsimp only at hSw); go_simp) <;> (with_reducible rfl))
  case hq66 => exact fun _ _ _ h => h
  simp only [List.set_cons_succ, List.set_cons_zero]
  refine call_at (i := 21) (d := 127) (oi := ?o67) (f := ?f67) (args := ?a67) ?hi67 ?hd67 (by kernel_rfl) ?hw67 ?he67 ?hc67
  case hi67 => (simp only [List.getElem?_toArray, List.getElem?_cons_succ, List.getElem?_cons_zero]; rfl)
  case hd67 => rfl
  case hw67 => rfl
  case he67 => (go_simp; constructor <;> with_reducible rfl)
  refine Calls.mono (C12.out _ hHeld) ?_
  rintro e v14 ⟨rfl, bb⟩
  have hX := hHeld.trans (bb.mono hHeld.size)
  clear bb
  refine ⟨_, rfl, hX, fun hHeld => ?_⟩
  simp only [List.set_cons_succ, List.set_cons_zero]
  refine take_at (i := 22) (d := 128) (oi := ?o68) (v := ?v68) ?hi68 ?hd68 (by kernel_rfl) (by kernel_rfl) (by kernel_rfl) ?hw68 ?hy68 ?hq68 (by assumption) ?r68
  case hi68 => (simp only [List.getElem?_toArray, List.getElem?_cons_succ, List.getElem?_cons_zero]; rfl)
  case hd68 => rfl
  case hw68 => rfl
  case hy68 => ((intro w hSw; (try dsimp only at hSw); go_simp) <;> (with_reducible rfl))
  case hq68 => exact fun _ _ _ h => h
  simp only [List.set_cons_succ, List.set_cons_zero]
  refine take_at (i := 23) (d := 6) (oi := ?o69) (v := ?v69) ?hi69 ?hd69 (by kernel_rfl) (by kernel_rfl) (by kernel_rfl) ?hw69 ?hy69 ?hq69 (by assumption) ?r69
  case hi69 => (simp only [List.getElem?_toArray, List.getElem?_cons_succ, List.getElem?_cons_zero]; rfl)
  case hd69 => rfl
  case hw69 => rfl
  case hy69 => ((intro w hSw; (try dsimp only at hSw); go_simp) <;> (with_reducible rfl))
  case hq69 => exact fun _ _ _ h => h
  simp only [List.set_cons_succ, List.set_cons_zero]
  refine wpAnyH_done (by kernel_rfl) ?_ _
  go_wp2_with fail
  go_ret
  exact ⟨rfl, B12.trans (hHeld.mono B12.size)⟩
theorem tells_all (m o : ManP) (A A' Ab : Option Addr) (n c n' c' nb cb : Nat) (b : List Int) (w : World) (hT : Cr.Tab w) (hS : Sg w w.heap.size A n m.sg) (hk : MOk m) (hnc : n ≤ c) (hS2 : Sg w w.heap.size A' n' o.sg) (hl : Rd w w.heap.size .u8 Ab nb b) (hb : Byt b) (hncb : nb ≤ cb) :
    Calls Tryd.prog 3 #[manV m (.slice A n c), manV o (.slice A' n' c'), .slice Ab nb cb] w fun e w' => e = .returned (.bool true) ∧ Below w.heap.size w w' := by
  by_cases hg : 70 < n
  · exact tells_great m o A A' Ab n c n' c' nb cb b w hT hS hk hnc hS2 hl hb hncb (decide_eq_true hg)
  by_cases hg2 : 70 < n'
  · exact tells_great2 m o A A' Ab n c n' c' nb cb b w hT hS hk hnc hS2 hl hb hncb (decide_eq_false hg) (decide_eq_true hg2)
  by_cases hnb : 900 < nb
  · exact tells_long m o A A' Ab n c n' c' nb cb b w hT hS hk hnc hS2 hl hb hncb (decide_eq_false hg) (decide_eq_false hg2) hnb
  · exact tells_main m o A A' Ab n c n' c' nb cb b w hT hS hk hnc hS2 hl hb hncb (decide_eq_false hg) (decide_eq_false hg2) (by omega) (by omega) (by omega)

end Go.Proofs.YtafeadplmcoilaaDoor
