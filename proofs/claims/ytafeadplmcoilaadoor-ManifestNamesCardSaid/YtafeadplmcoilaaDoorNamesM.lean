/-
  ManifestNames: it returns true.
-/
import Derived.Test.YtafeadplmcoilaaDoorWakesM
import Derived.Test.YtafeadplmcoilaaDoorManK
import Derived.Test.YtafeadplmcoilaaDoorNamR
namespace Go.Proofs.YtafeadplmcoilaaDoor
open Go.RowKit
set_option linter.unusedVariables false
set_option linter.unusedSimpArgs false

set_option maxRecDepth 100000 in
set_option maxHeartbeats 8000000 in
theorem names_great (m : ManP) (A : Option Addr) (n c : Nat) (w : World) (hT : Cr.Tab w) (hS : Sg w w.heap.size A n m.sg) (hk : MOk m) (hnc : n ≤ c) (hg : decide (70 < n) = true) :
    Calls Tryd.prog 6 #[manV m (.slice A n c)] w fun e w' => e = .returned (.bool true) ∧ Below w.heap.size w w' := by
  have HT := Lib.hid hT
  have HK := Lib.hid (⟨hk, hnc⟩ : _ ∧ _)
  clear hT hk hnc
  obtain ⟨z1, hz1⟩ : ∃ z, z = w.heap.size := ⟨_, rfl⟩
  obtain ⟨w1, hw1⟩ : ∃ x, x = w.alloc (.cells #[.int .i64 m.nx, .int .i64 m.tm, .int .i64 m.vt, .int .i64 m.ss, .int .i64 m.sf, .slice A n c] 26) := ⟨_, rfl⟩
  have bb : Below w.heap.size w w1 := by rw [hw1]; exact below_al (below_d0 _) _
  have bz : BoxM w1 z1 m (.slice A n c) := by rw [hw1, hz1]; exact BoxM.new w m _
  replace hS := hS.on bb bb.size
  have B1 := bb
  clear bb
  have HE := Lib.hid (⟨hw1, hz1⟩ : _ ∧ _)
  clear hw1 hz1
  unfold manV
  go_enter Tryd.func6, Tryd.ntmps6
  go_wp2_with fail
  rw [← HE.out.1, ← HE.out.2]
  clear HE
  refine Calls.mono (show Calls Tryd.prog 8 #[.agg #[.int .i64 m.nx, .int .i64 m.tm, .int .i64 m.vt, .int .i64 m.ss, .int .i64 m.sf, .slice A n c]] w1 (fun e w' => e = .returned (.bool (decide (70 < n))) ∧ Below w1.heap.size w1 w') from great_any m A n c w1) ?_
  intro e w2 hh
  obtain ⟨rfl, bb⟩ := hh
  (try clear hh)
  replace bz := bz.below bb
  replace hS := hS.on bb bb.size
  have B2 := B1.trans (bb.mono B1.size)
  clear bb B1
  rw [hg]
  clear hg
  go_wp2_with fail
  refine Calls.mono (wakes_true w2 (HT.out.on B2)) ?_
  rintro e w3 ⟨rfl, bb⟩
  replace bz := bz.below bb
  replace hS := hS.on bb bb.size
  have B3 := B2.trans (bb.mono B2.size)
  clear bb B2
  go_wp2_with fail
  go_ret
  exact ⟨rfl, B3⟩
set_option maxRecDepth 100000 in
set_option maxHeartbeats 8000000 in
theorem names_no (m : ManP) (A : Option Addr) (n c : Nat) (w : World) (hT : Cr.Tab w) (hS : Sg w w.heap.size A n m.sg) (hk : MOk m) (hnc : n ≤ c) (hg : decide (70 < n) = false) (hn : n ≤ 70) (hM : ¬ May m) :
    Calls Tryd.prog 6 #[manV m (.slice A n c)] w fun e w' => e = .returned (.bool true) ∧ Below w.heap.size w w' := by
  have HT := Lib.hid hT
  have HK := Lib.hid (⟨hk, hnc⟩ : _ ∧ _)
  clear hT hk hnc
  have HM := Lib.hid hM
  clear hM
  obtain ⟨z1, hz1⟩ : ∃ z, z = w.heap.size := ⟨_, rfl⟩
  obtain ⟨w1, hw1⟩ : ∃ x, x = w.alloc (.cells #[.int .i64 m.nx, .int .i64 m.tm, .int .i64 m.vt, .int .i64 m.ss, .int .i64 m.sf, .slice A n c] 26) := ⟨_, rfl⟩
  have bb : Below w.heap.size w w1 := by rw [hw1]; exact below_al (below_d0 _) _
  have bz : BoxM w1 z1 m (.slice A n c) := by rw [hw1, hz1]; exact BoxM.new w m _
  replace hS := hS.on bb bb.size
  have B1 := bb
  clear bb
  have HE := Lib.hid (⟨hw1, hz1⟩ : _ ∧ _)
  clear hw1 hz1
  unfold manV
  go_enter Tryd.func6, Tryd.ntmps6
  go_wp2_with fail
  rw [← HE.out.1, ← HE.out.2]
  clear HE
  refine Calls.mono (show Calls Tryd.prog 8 #[.agg #[.int .i64 m.nx, .int .i64 m.tm, .int .i64 m.vt, .int .i64 m.ss, .int .i64 m.sf, .slice A n c]] w1 (fun e w' => e = .returned (.bool (decide (70 < n))) ∧ Below w1.heap.size w1 w') from great_any m A n c w1) ?_
  intro e w2 hh
  obtain ⟨rfl, bb⟩ := hh
  (try clear hh)
  replace bz := bz.below bb
  replace hS := hS.on bb bb.size
  have B2 := B1.trans (bb.mono B1.size)
  clear bb B1
  rw [hg]
  clear hg
  obtain ⟨k0, k1, k2, k3, k4, k5⟩ := bz.cells
  go_wp2_with fail
  clear k0 k1 k2 k3 k4 k5
  refine Calls.mono (show Calls Tryd.prog 19 #[.agg #[.int .i64 m.nx, .int .i64 m.tm, .int .i64 m.vt, .int .i64 m.ss, .int .i64 m.sf, .slice A n c]] w2 (fun e w' => (∃ r, CheckIs m r ∧ e = .returned (.int .i64 r)) ∧ Below w2.heap.size w2 w') from rcheck_any m A n c w2 hS (by omega)) ?_
  intro e w3 hh
  obtain ⟨⟨r, hr, rfl⟩, bb⟩ := hh
  (try clear hh)
  replace bz := bz.below bb
  replace hS := hS.on bb bb.size
  have B3 := B2.trans (bb.mono B2.size)
  clear bb B2
  obtain rfl := hr.same (.inr ⟨HM.out, rfl⟩)
  clear hr
  go_wp2_with fail
  refine Calls.mono (wakes_true w3 (HT.out.on B3)) ?_
  rintro e w4 ⟨rfl, bb⟩
  replace bz := bz.below bb
  replace hS := hS.on bb bb.size
  have B4 := B3.trans (bb.mono B3.size)
  clear bb B3
  go_wp2_with fail
  go_ret
  exact ⟨rfl, B4⟩
set_option maxRecDepth 100000 in
set_option maxHeartbeats 8000000 in
theorem names_none (m : ManP) (A : Option Addr) (n c : Nat) (w : World) (hT : Cr.Tab w) (hS : Sg w w.heap.size A n m.sg) (hk : MOk m) (hnc : n ≤ c) (hg : decide (70 < n) = false) (hn : n ≤ 70) (hM : May m) (h0 : m.ss = 0) :
    Calls Tryd.prog 6 #[manV m (.slice A n c)] w fun e w' => e = .returned (.bool true) ∧ Below w.heap.size w w' := by
  have HT := Lib.hid hT
  have HK := Lib.hid (⟨hk, hnc⟩ : _ ∧ _)
  clear hT hk hnc
  have v0 : (m.ss == 0) = true := by simpa using h0
  have hkl : (keepP m).length = 1 + n := (keep_len hS.len).trans (by rw [if_pos h0]; rfl)
  have HM := Lib.hid (⟨hM, hS.len, hkl⟩ : _ ∧ _ ∧ _)
  clear hM hkl h0
  obtain ⟨z1, hz1⟩ : ∃ z, z = w.heap.size := ⟨_, rfl⟩
  obtain ⟨w1, hw1⟩ : ∃ x, x = w.alloc (.cells #[.int .i64 m.nx, .int .i64 m.tm, .int .i64 m.vt, .int .i64 m.ss, .int .i64 m.sf, .slice A n c] 26) := ⟨_, rfl⟩
  have bb : Below w.heap.size w w1 := by rw [hw1]; exact below_al (below_d0 _) _
  have bz : BoxM w1 z1 m (.slice A n c) := by rw [hw1, hz1]; exact BoxM.new w m _
  replace hS := hS.on bb bb.size
  have B1 := bb
  clear bb
  have HE := Lib.hid (⟨hw1, hz1⟩ : _ ∧ _)
  clear hw1 hz1
  unfold manV
  go_enter Tryd.func6, Tryd.ntmps6
  go_wp2_with fail
  rw [← HE.out.1, ← HE.out.2]
  clear HE
  refine Calls.mono (show Calls Tryd.prog 8 #[.agg #[.int .i64 m.nx, .int .i64 m.tm, .int .i64 m.vt, .int .i64 m.ss, .int .i64 m.sf, .slice A n c]] w1 (fun e w' => e = .returned (.bool (decide (70 < n))) ∧ Below w1.heap.size w1 w') from great_any m A n c w1) ?_
  intro e w2 hh
  obtain ⟨rfl, bb⟩ := hh
  (try clear hh)
  replace bz := bz.below bb
  replace hS := hS.on bb bb.size
  have B2 := B1.trans (bb.mono B1.size)
  clear bb B1
  rw [hg]
  clear hg
  obtain ⟨k0, k1, k2, k3, k4, k5⟩ := bz.cells
  go_wp2_with fail
  clear k0 k1 k2 k3 k4 k5
  refine Calls.mono (show Calls Tryd.prog 19 #[.agg #[.int .i64 m.nx, .int .i64 m.tm, .int .i64 m.vt, .int .i64 m.ss, .int .i64 m.sf, .slice A n c]] w2 (fun e w' => (∃ r, CheckIs m r ∧ e = .returned (.int .i64 r)) ∧ Below w2.heap.size w2 w') from rcheck_any m A n c w2 hS (by omega)) ?_
  intro e w3 hh
  obtain ⟨⟨r, hr, rfl⟩, bb⟩ := hh
  (try clear hh)
  replace bz := bz.below bb
  replace hS := hS.on bb bb.size
  have B3 := B2.trans (bb.mono B2.size)
  clear bb B2
  obtain rfl := hr.same (.inl ⟨HM.out.1, rfl⟩)
  clear hr
  obtain ⟨k0, k1, k2, k3, k4, k5⟩ := bz.cells
  go_wp2_with fail
  clear k0 k1 k2 k3 k4 k5
  refine Calls.mono (show Calls Tryd.prog 21 #[.agg #[.int .i64 m.nx, .int .i64 m.tm, .int .i64 m.vt, .int .i64 m.ss, .int .i64 m.sf, .slice A n c]] w3 (fun e w' => (∃ A' q c', e = .returned (.slice A' q c') ∧ q ≤ c' ∧ q = (keepP m).length ∧ OwnI w' w3.heap.size (.slice A' q c') q (keepP m)) ∧ Below w3.heap.size w3 w') from keep_any m A n c w3 hS (by omega)) ?_
  intro e w4 hh
  obtain ⟨⟨A9, q9, c9, rfl, hc9, hq9, hI9⟩, bb⟩ := hh
  (try clear hh)
  replace bz := bz.below bb
  replace hS := hS.on bb bb.size
  have B4 := B3.trans (bb.mono B3.size)
  clear bb B3
  have I9 := hI9.ids
  clear hI9
  rw [HM.out.2.2] at hq9
  subst hq9
  obtain ⟨k0, k1, k2, k3, k4, k5⟩ := bz.cells
  go_wp2_with fail
  clear k0 k1 k2 k3 k4 k5
  clear v0
  refine Calls.mono (rnames_true A9 (1 + n) c9 (keepP m) w4 I9 (by omega) (keep_mayP HM.out.1) (keep_apart HM.out.1)) ?_
  intro e w5 hh
  obtain ⟨rfl, bb⟩ := hh
  (try clear hh)
  replace bz := bz.below bb
  replace hS := hS.on bb bb.size
  replace I9 := I9.on bb bb.size
  have B5 := B4.trans (bb.mono B4.size)
  clear bb B4
  obtain ⟨gi, oi, x, hA9, -, hx, m0, m1, m2⟩ := Ids.get I9 (show 0 < 1 + n by omega)
  obtain rfl : x = ⟨1, 0, 0⟩ := (Option.some.inj hx).symm
  subst hA9
  dsimp only at m0 m1 m2
  have heq := fun w => id_neq_same ⟨1, 0, 0⟩ w
  dsimp only at heq
  clear hx
  simp only [Nat.zero_mul, Nat.add_zero] at m0 m1 m2
  obtain ⟨k0, k1, k2, k3, k4, k5⟩ := bz.cells
  go_wp2_with fail
  clear k0 k1 k2 k3 k4 k5
  clear heq m0 m1 m2
  refine Calls.mono (show Calls Tryd.prog 14 #[.agg #[.int .i64 m.nx, .int .i64 m.tm, .int .i64 m.vt, .int .i64 m.ss, .int .i64 m.sf, .slice A n c]] w5 (fun e w' => (∃ i ok, OpenIs m i ok ∧ e = .returned (.tuple #[.int .i64 i, .bool ok])) ∧ Below w5.heap.size w5 w') from open_any m A n c w5 hS (by omega)) ?_
  intro e w6 hh
  obtain ⟨⟨i, ok, hop, rfl⟩, bb⟩ := hh
  (try clear hh)
  replace bz := bz.below bb
  replace hS := hS.on bb bb.size
  replace I9 := I9.on bb bb.size
  have B6 := B5.trans (bb.mono B5.size)
  clear bb B5
  have HO := Lib.hid hop
  clear hop
  go_wp2_with fail
  go_loopw [7] (fun v wr => ∃ k : Nat, k ≤ n ∧ v = .int .i64 k ∧ w6 = wr) (fun v _ => n - (intOf v).toNat)
  case atStart => exact ⟨0, Nat.zero_le _, rfl, rfl⟩
  obtain ⟨k, hk, rfl, rfl⟩ := hrel
  by_cases hlt : k < n
  · obtain ⟨k0, k1, k2, k3, k4, k5⟩ := bz.cells
    obtain ⟨b, off, s, rfl, hb, hs, d0, d1, d2, d3⟩ := hS.at_ hlt
    have Hs := Lib.hid hs
    clear hs hb d0 d1 d2
    rcases open_place HM.out.1 HO.out Hs.out with ⟨rfl, e1, e2⟩ | ⟨rfl, e1, e2⟩ | ⟨rfl, e2⟩
    · go_wp2_with fail
      go_roundw
      case rel => exact ⟨k + 1, by omega, by go_num, trivial⟩
      case measure => simp [intOf]; omega
    · go_wp2_with fail
      go_roundw
      case rel => exact ⟨k + 1, by omega, by go_num, trivial⟩
      case measure => simp [intOf]; omega
    · go_wp2_with fail
      go_roundw
      case rel => exact ⟨k + 1, by omega, by go_num, trivial⟩
      case measure => simp [intOf]; omega
  · obtain rfl : k = n := by omega
    obtain ⟨k0, k1, k2, k3, k4, k5⟩ := bz.cells
    go_wp2_with fail
    clear k0 k1 k2 k3 k4 k5
    go_loopw [8, 9] (fun x v wr => ∃ j : Nat, 1 ≤ j ∧ j ≤ 1 + k ∧ x = .bool (((filesP m).take (j - 1)).any fun x => x.fmt == 2) ∧ v = .int .i64 j ∧ w6 = wr) (fun _ v _ => 1 + k - (intOf v).toNat)
    case atStart => exact ⟨1, by omega, by omega, rfl, rfl, rfl⟩
    obtain ⟨j, h1, hj, rfl, rfl, rfl⟩ := hrel
    by_cases hlj : j < 1 + k
    · obtain ⟨gi2, oi2, y, hA9, -, hx, m0, m1, m2⟩ := Ids.get I9 hlj
      obtain ⟨rfl, rfl⟩ : gi = gi2 ∧ oi = oi2 := by injection hA9 with e; injection e with a a'; exact ⟨a, a'⟩
      clear hA9 m0 m1
      rw [keep_next h1] at hx
      have hnx := any_next (p := fun x => x.fmt == 2) hx
      rw [show j - 1 + 1 = j + 1 - 1 by omega] at hnx
      (try dsimp only at hnx)
      obtain ⟨b0, hb0⟩ : ∃ b, ((filesP m).take (j - 1)).any (fun x => x.fmt == 2) = b := ⟨_, rfl⟩
      obtain ⟨b1, hb1⟩ : ∃ b, (y.fmt == 2) = b := ⟨_, rfl⟩
      rw [hb0, hb1] at hnx
      rw [hb0]
      have HX := Lib.hid hnx
      clear hnx hx hb0
      cases b0 <;> cases b1
      · go_wp2_with fail
        go_roundw
        case rel => exact ⟨j + 1, by omega, by omega, by rw [HX.out]; rfl, by go_num, trivial⟩
        case measure => simp [intOf]; omega
      · go_wp2_with fail
        go_roundw
        case rel => exact ⟨j + 1, by omega, by omega, by rw [HX.out]; rfl, by go_num, trivial⟩
        case measure => simp [intOf]; omega
      · go_wp2_with fail
        go_roundw
        case rel => exact ⟨j + 1, by omega, by omega, by rw [HX.out]; rfl, by go_num, trivial⟩
        case measure => simp [intOf]; omega
      · go_wp2_with fail
        go_roundw
        case rel => exact ⟨j + 1, by omega, by omega, by rw [HX.out]; rfl, by go_num, trivial⟩
        case measure => simp [intOf]; omega
    · obtain rfl : j = 1 + k := by omega
      have htk : (filesP m).take (1 + k - 1) = filesP m := List.take_of_length_le (by have h := HM.out.2.2; simp only [keepP, List.length_cons] at h; omega)
      have ht2 := two_files HM.out.1
      obtain ⟨b2, hb2⟩ : ∃ b, (filesP m).any (fun x => x.fmt == 2) = b := ⟨_, rfl⟩
      rw [hb2] at ht2
      rw [htk, hb2]
      have H2 := Lib.hid ht2
      clear htk hb2 ht2
      obtain ⟨k0, k1, k2, k3, k4, k5⟩ := bz.cells
      go_wp2_with fail
      clear k0 k1 k2 k3 k4 k5
      refine Calls.mono (show Calls Tryd.prog 23 #[.agg #[.int .i64 m.nx, .int .i64 m.tm, .int .i64 m.vt, .int .i64 m.ss, .int .i64 m.sf, .slice A k c]] w6 (fun e w' => (∃ b, TwoIs m b ∧ e = .returned (.bool b)) ∧ Below w6.heap.size w6 w') from two_any m A k c w6 hS (by omega)) ?_
      intro e w7 hh
      obtain ⟨⟨b, htb, rfl⟩, bb⟩ := hh
      (try clear hh)
      replace bz := bz.below bb
      replace hS := hS.on bb bb.size
      replace I9 := I9.on bb bb.size
      have B7 := B6.trans (bb.mono B6.size)
      clear bb B6
      obtain rfl := htb.same H2.out
      clear htb
      have hbb : (b == b) = true := by simp
      have hok : ok = true ∨ (ok = false ∧ i = -1) := by
        obtain ⟨n, -, a⟩ := HO.out
        rcases a with a | a
        · exact .inl a.2.2
        · exact .inr ⟨a.2.2, a.2.1⟩
      rcases hok with rfl | ⟨rfl, rfl⟩
      · obtain ⟨k0, k1, k2, k3, k4, k5⟩ := bz.cells
        go_wp2_with fail
        clear k0 k1 k2 k3 k4 k5
        refine Calls.mono (show Calls Tryd.prog 18 #[.agg #[.int .i64 m.nx, .int .i64 m.tm, .int .i64 m.vt, .int .i64 m.ss, .int .i64 m.sf, .slice A k c]] w7 (fun e w' => (∃ r, CheckIs m r ∧ e = .returned (.int .i64 r)) ∧ Below w7.heap.size w7 w') from check_any m A k c w7 hS (by omega) HK.out.1) ?_
        intro e w8 hh
        obtain ⟨⟨r, hr, rfl⟩, bb⟩ := hh
        (try clear hh)
        replace bz := bz.below bb
        replace hS := hS.on bb bb.size
        replace I9 := I9.on bb bb.size
        have B8 := B7.trans (bb.mono B7.size)
        clear bb B7
        obtain rfl := hr.same (.inl ⟨HM.out.1, rfl⟩)
        clear hr
        go_wp2_with fail
        refine Calls.mono (wakes_true w8 (HT.out.on B8)) ?_
        rintro e w9 ⟨rfl, bb⟩
        replace bz := bz.below bb
        replace hS := hS.on bb bb.size
        replace I9 := I9.on bb bb.size
        have B9 := B8.trans (bb.mono B8.size)
        clear bb B8
        go_wp2_with fail
        go_ret
        exact ⟨rfl, B9⟩
      · obtain ⟨k0, k1, k2, k3, k4, k5⟩ := bz.cells
        go_wp2_with fail
        clear k0 k1 k2 k3 k4 k5
        refine Calls.mono (show Calls Tryd.prog 18 #[.agg #[.int .i64 m.nx, .int .i64 m.tm, .int .i64 m.vt, .int .i64 m.ss, .int .i64 m.sf, .slice A k c]] w7 (fun e w' => (∃ r, CheckIs m r ∧ e = .returned (.int .i64 r)) ∧ Below w7.heap.size w7 w') from check_any m A k c w7 hS (by omega) HK.out.1) ?_
        intro e w8 hh
        obtain ⟨⟨r, hr, rfl⟩, bb⟩ := hh
        (try clear hh)
        replace bz := bz.below bb
        replace hS := hS.on bb bb.size
        replace I9 := I9.on bb bb.size
        have B8 := B7.trans (bb.mono B7.size)
        clear bb B7
        obtain rfl := hr.same (.inl ⟨HM.out.1, rfl⟩)
        clear hr
        go_wp2_with fail
        refine Calls.mono (wakes_true w8 (HT.out.on B8)) ?_
        rintro e w9 ⟨rfl, bb⟩
        replace bz := bz.below bb
        replace hS := hS.on bb bb.size
        replace I9 := I9.on bb bb.size
        have B9 := B8.trans (bb.mono B8.size)
        clear bb B8
        go_wp2_with fail
        go_ret
        exact ⟨rfl, B9⟩
set_option maxRecDepth 100000 in
set_option maxHeartbeats 8000000 in
theorem names_snap (m : ManP) (A : Option Addr) (n c : Nat) (w : World) (hT : Cr.Tab w) (hS : Sg w w.heap.size A n m.sg) (hk : MOk m) (hnc : n ≤ c) (hg : decide (70 < n) = false) (hn : n ≤ 70) (hM : May m) (h0 : ¬ m.ss = 0) :
    Calls Tryd.prog 6 #[manV m (.slice A n c)] w fun e w' => e = .returned (.bool true) ∧ Below w.heap.size w w' := by
  have HT := Lib.hid hT
  have HK := Lib.hid (⟨hk, hnc⟩ : _ ∧ _)
  clear hT hk hnc
  have v0 : (m.ss == 0) = false := by simpa using h0
  have hkl : (keepP m).length = 1 + n + 1 := (keep_len hS.len).trans (by rw [if_neg h0])
  have HM := Lib.hid (⟨hM, hS.len, hkl⟩ : _ ∧ _ ∧ _)
  clear hM hkl h0
  obtain ⟨z1, hz1⟩ : ∃ z, z = w.heap.size := ⟨_, rfl⟩
  obtain ⟨w1, hw1⟩ : ∃ x, x = w.alloc (.cells #[.int .i64 m.nx, .int .i64 m.tm, .int .i64 m.vt, .int .i64 m.ss, .int .i64 m.sf, .slice A n c] 26) := ⟨_, rfl⟩
  have bb : Below w.heap.size w w1 := by rw [hw1]; exact below_al (below_d0 _) _
  have bz : BoxM w1 z1 m (.slice A n c) := by rw [hw1, hz1]; exact BoxM.new w m _
  replace hS := hS.on bb bb.size
  have B1 := bb
  clear bb
  have HE := Lib.hid (⟨hw1, hz1⟩ : _ ∧ _)
  clear hw1 hz1
  unfold manV
  go_enter Tryd.func6, Tryd.ntmps6
  go_wp2_with fail
  rw [← HE.out.1, ← HE.out.2]
  clear HE
  refine Calls.mono (show Calls Tryd.prog 8 #[.agg #[.int .i64 m.nx, .int .i64 m.tm, .int .i64 m.vt, .int .i64 m.ss, .int .i64 m.sf, .slice A n c]] w1 (fun e w' => e = .returned (.bool (decide (70 < n))) ∧ Below w1.heap.size w1 w') from great_any m A n c w1) ?_
  intro e w2 hh
  obtain ⟨rfl, bb⟩ := hh
  (try clear hh)
  replace bz := bz.below bb
  replace hS := hS.on bb bb.size
  have B2 := B1.trans (bb.mono B1.size)
  clear bb B1
  rw [hg]
  clear hg
  obtain ⟨k0, k1, k2, k3, k4, k5⟩ := bz.cells
  go_wp2_with fail
  clear k0 k1 k2 k3 k4 k5
  refine Calls.mono (show Calls Tryd.prog 19 #[.agg #[.int .i64 m.nx, .int .i64 m.tm, .int .i64 m.vt, .int .i64 m.ss, .int .i64 m.sf, .slice A n c]] w2 (fun e w' => (∃ r, CheckIs m r ∧ e = .returned (.int .i64 r)) ∧ Below w2.heap.size w2 w') from rcheck_any m A n c w2 hS (by omega)) ?_
  intro e w3 hh
  obtain ⟨⟨r, hr, rfl⟩, bb⟩ := hh
  (try clear hh)
  replace bz := bz.below bb
  replace hS := hS.on bb bb.size
  have B3 := B2.trans (bb.mono B2.size)
  clear bb B2
  obtain rfl := hr.same (.inl ⟨HM.out.1, rfl⟩)
  clear hr
  obtain ⟨k0, k1, k2, k3, k4, k5⟩ := bz.cells
  go_wp2_with fail
  clear k0 k1 k2 k3 k4 k5
  refine Calls.mono (show Calls Tryd.prog 21 #[.agg #[.int .i64 m.nx, .int .i64 m.tm, .int .i64 m.vt, .int .i64 m.ss, .int .i64 m.sf, .slice A n c]] w3 (fun e w' => (∃ A' q c', e = .returned (.slice A' q c') ∧ q ≤ c' ∧ q = (keepP m).length ∧ OwnI w' w3.heap.size (.slice A' q c') q (keepP m)) ∧ Below w3.heap.size w3 w') from keep_any m A n c w3 hS (by omega)) ?_
  intro e w4 hh
  obtain ⟨⟨A9, q9, c9, rfl, hc9, hq9, hI9⟩, bb⟩ := hh
  (try clear hh)
  replace bz := bz.below bb
  replace hS := hS.on bb bb.size
  have B4 := B3.trans (bb.mono B3.size)
  clear bb B3
  have I9 := hI9.ids
  clear hI9
  rw [HM.out.2.2] at hq9
  subst hq9
  obtain ⟨k0, k1, k2, k3, k4, k5⟩ := bz.cells
  go_wp2_with fail
  clear k0 k1 k2 k3 k4 k5
  clear v0
  refine Calls.mono (rnames_true A9 (1 + n + 1) c9 (keepP m) w4 I9 (by omega) (keep_mayP HM.out.1) (keep_apart HM.out.1)) ?_
  intro e w5 hh
  obtain ⟨rfl, bb⟩ := hh
  (try clear hh)
  replace bz := bz.below bb
  replace hS := hS.on bb bb.size
  replace I9 := I9.on bb bb.size
  have B5 := B4.trans (bb.mono B4.size)
  clear bb B4
  obtain ⟨gi, oi, x, hA9, -, hx, m0, m1, m2⟩ := Ids.get I9 (show 0 < 1 + n + 1 by omega)
  obtain rfl : x = ⟨1, 0, 0⟩ := (Option.some.inj hx).symm
  subst hA9
  dsimp only at m0 m1 m2
  have heq := fun w => id_neq_same ⟨1, 0, 0⟩ w
  dsimp only at heq
  clear hx
  simp only [Nat.zero_mul, Nat.add_zero] at m0 m1 m2
  obtain ⟨k0, k1, k2, k3, k4, k5⟩ := bz.cells
  go_wp2_with fail
  clear k0 k1 k2 k3 k4 k5
  clear heq m0 m1 m2
  refine Calls.mono (show Calls Tryd.prog 14 #[.agg #[.int .i64 m.nx, .int .i64 m.tm, .int .i64 m.vt, .int .i64 m.ss, .int .i64 m.sf, .slice A n c]] w5 (fun e w' => (∃ i ok, OpenIs m i ok ∧ e = .returned (.tuple #[.int .i64 i, .bool ok])) ∧ Below w5.heap.size w5 w') from open_any m A n c w5 hS (by omega)) ?_
  intro e w6 hh
  obtain ⟨⟨i, ok, hop, rfl⟩, bb⟩ := hh
  (try clear hh)
  replace bz := bz.below bb
  replace hS := hS.on bb bb.size
  replace I9 := I9.on bb bb.size
  have B6 := B5.trans (bb.mono B5.size)
  clear bb B5
  have HO := Lib.hid hop
  clear hop
  go_wp2_with fail
  go_loopw [7] (fun v wr => ∃ k : Nat, k ≤ n ∧ v = .int .i64 k ∧ w6 = wr) (fun v _ => n - (intOf v).toNat)
  case atStart => exact ⟨0, Nat.zero_le _, rfl, rfl⟩
  obtain ⟨k, hk, rfl, rfl⟩ := hrel
  by_cases hlt : k < n
  · obtain ⟨k0, k1, k2, k3, k4, k5⟩ := bz.cells
    obtain ⟨b, off, s, rfl, hb, hs, d0, d1, d2, d3⟩ := hS.at_ hlt
    have Hs := Lib.hid hs
    clear hs hb d0 d1 d2
    rcases open_place HM.out.1 HO.out Hs.out with ⟨rfl, e1, e2⟩ | ⟨rfl, e1, e2⟩ | ⟨rfl, e2⟩
    · go_wp2_with fail
      go_roundw
      case rel => exact ⟨k + 1, by omega, by go_num, trivial⟩
      case measure => simp [intOf]; omega
    · go_wp2_with fail
      go_roundw
      case rel => exact ⟨k + 1, by omega, by go_num, trivial⟩
      case measure => simp [intOf]; omega
    · go_wp2_with fail
      go_roundw
      case rel => exact ⟨k + 1, by omega, by go_num, trivial⟩
      case measure => simp [intOf]; omega
  · obtain rfl : k = n := by omega
    obtain ⟨k0, k1, k2, k3, k4, k5⟩ := bz.cells
    go_wp2_with fail
    clear k0 k1 k2 k3 k4 k5
    go_loopw [8, 9] (fun x v wr => ∃ j : Nat, 1 ≤ j ∧ j ≤ 1 + k + 1 ∧ x = .bool (((filesP m).take (j - 1)).any fun x => x.fmt == 2) ∧ v = .int .i64 j ∧ w6 = wr) (fun _ v _ => 1 + k + 1 - (intOf v).toNat)
    case atStart => exact ⟨1, by omega, by omega, rfl, rfl, rfl⟩
    obtain ⟨j, h1, hj, rfl, rfl, rfl⟩ := hrel
    by_cases hlj : j < 1 + k + 1
    · obtain ⟨gi2, oi2, y, hA9, -, hx, m0, m1, m2⟩ := Ids.get I9 hlj
      obtain ⟨rfl, rfl⟩ : gi = gi2 ∧ oi = oi2 := by injection hA9 with e; injection e with a a'; exact ⟨a, a'⟩
      clear hA9 m0 m1
      rw [keep_next h1] at hx
      have hnx := any_next (p := fun x => x.fmt == 2) hx
      rw [show j - 1 + 1 = j + 1 - 1 by omega] at hnx
      (try dsimp only at hnx)
      obtain ⟨b0, hb0⟩ : ∃ b, ((filesP m).take (j - 1)).any (fun x => x.fmt == 2) = b := ⟨_, rfl⟩
      obtain ⟨b1, hb1⟩ : ∃ b, (y.fmt == 2) = b := ⟨_, rfl⟩
      rw [hb0, hb1] at hnx
      rw [hb0]
      have HX := Lib.hid hnx
      clear hnx hx hb0
      cases b0 <;> cases b1
      · go_wp2_with fail
        go_roundw
        case rel => exact ⟨j + 1, by omega, by omega, by rw [HX.out]; rfl, by go_num, trivial⟩
        case measure => simp [intOf]; omega
      · go_wp2_with fail
        go_roundw
        case rel => exact ⟨j + 1, by omega, by omega, by rw [HX.out]; rfl, by go_num, trivial⟩
        case measure => simp [intOf]; omega
      · go_wp2_with fail
        go_roundw
        case rel => exact ⟨j + 1, by omega, by omega, by rw [HX.out]; rfl, by go_num, trivial⟩
        case measure => simp [intOf]; omega
      · go_wp2_with fail
        go_roundw
        case rel => exact ⟨j + 1, by omega, by omega, by rw [HX.out]; rfl, by go_num, trivial⟩
        case measure => simp [intOf]; omega
    · obtain rfl : j = 1 + k + 1 := by omega
      have htk : (filesP m).take (1 + k + 1 - 1) = filesP m := List.take_of_length_le (by have h := HM.out.2.2; simp only [keepP, List.length_cons] at h; omega)
      have ht2 := two_files HM.out.1
      obtain ⟨b2, hb2⟩ : ∃ b, (filesP m).any (fun x => x.fmt == 2) = b := ⟨_, rfl⟩
      rw [hb2] at ht2
      rw [htk, hb2]
      have H2 := Lib.hid ht2
      clear htk hb2 ht2
      obtain ⟨k0, k1, k2, k3, k4, k5⟩ := bz.cells
      go_wp2_with fail
      clear k0 k1 k2 k3 k4 k5
      refine Calls.mono (show Calls Tryd.prog 23 #[.agg #[.int .i64 m.nx, .int .i64 m.tm, .int .i64 m.vt, .int .i64 m.ss, .int .i64 m.sf, .slice A k c]] w6 (fun e w' => (∃ b, TwoIs m b ∧ e = .returned (.bool b)) ∧ Below w6.heap.size w6 w') from two_any m A k c w6 hS (by omega)) ?_
      intro e w7 hh
      obtain ⟨⟨b, htb, rfl⟩, bb⟩ := hh
      (try clear hh)
      replace bz := bz.below bb
      replace hS := hS.on bb bb.size
      replace I9 := I9.on bb bb.size
      have B7 := B6.trans (bb.mono B6.size)
      clear bb B6
      obtain rfl := htb.same H2.out
      clear htb
      have hbb : (b == b) = true := by simp
      have hok : ok = true ∨ (ok = false ∧ i = -1) := by
        obtain ⟨n, -, a⟩ := HO.out
        rcases a with a | a
        · exact .inl a.2.2
        · exact .inr ⟨a.2.2, a.2.1⟩
      rcases hok with rfl | ⟨rfl, rfl⟩
      · obtain ⟨k0, k1, k2, k3, k4, k5⟩ := bz.cells
        go_wp2_with fail
        clear k0 k1 k2 k3 k4 k5
        refine Calls.mono (show Calls Tryd.prog 18 #[.agg #[.int .i64 m.nx, .int .i64 m.tm, .int .i64 m.vt, .int .i64 m.ss, .int .i64 m.sf, .slice A k c]] w7 (fun e w' => (∃ r, CheckIs m r ∧ e = .returned (.int .i64 r)) ∧ Below w7.heap.size w7 w') from check_any m A k c w7 hS (by omega) HK.out.1) ?_
        intro e w8 hh
        obtain ⟨⟨r, hr, rfl⟩, bb⟩ := hh
        (try clear hh)
        replace bz := bz.below bb
        replace hS := hS.on bb bb.size
        replace I9 := I9.on bb bb.size
        have B8 := B7.trans (bb.mono B7.size)
        clear bb B7
        obtain rfl := hr.same (.inl ⟨HM.out.1, rfl⟩)
        clear hr
        go_wp2_with fail
        refine Calls.mono (wakes_true w8 (HT.out.on B8)) ?_
        rintro e w9 ⟨rfl, bb⟩
        replace bz := bz.below bb
        replace hS := hS.on bb bb.size
        replace I9 := I9.on bb bb.size
        have B9 := B8.trans (bb.mono B8.size)
        clear bb B8
        go_wp2_with fail
        go_ret
        exact ⟨rfl, B9⟩
      · obtain ⟨k0, k1, k2, k3, k4, k5⟩ := bz.cells
        go_wp2_with fail
        clear k0 k1 k2 k3 k4 k5
        refine Calls.mono (show Calls Tryd.prog 18 #[.agg #[.int .i64 m.nx, .int .i64 m.tm, .int .i64 m.vt, .int .i64 m.ss, .int .i64 m.sf, .slice A k c]] w7 (fun e w' => (∃ r, CheckIs m r ∧ e = .returned (.int .i64 r)) ∧ Below w7.heap.size w7 w') from check_any m A k c w7 hS (by omega) HK.out.1) ?_
        intro e w8 hh
        obtain ⟨⟨r, hr, rfl⟩, bb⟩ := hh
        (try clear hh)
        replace bz := bz.below bb
        replace hS := hS.on bb bb.size
        replace I9 := I9.on bb bb.size
        have B8 := B7.trans (bb.mono B7.size)
        clear bb B7
        obtain rfl := hr.same (.inl ⟨HM.out.1, rfl⟩)
        clear hr
        go_wp2_with fail
        refine Calls.mono (wakes_true w8 (HT.out.on B8)) ?_
        rintro e w9 ⟨rfl, bb⟩
        replace bz := bz.below bb
        replace hS := hS.on bb bb.size
        replace I9 := I9.on bb bb.size
        have B9 := B8.trans (bb.mono B8.size)
        clear bb B8
        go_wp2_with fail
        go_ret
        exact ⟨rfl, B9⟩
theorem names_all (m : ManP) (A : Option Addr) (n c : Nat) (w : World) (hT : Cr.Tab w) (hS : Sg w w.heap.size A n m.sg) (hk : MOk m) (hnc : n ≤ c) :
    Calls Tryd.prog 6 #[manV m (.slice A n c)] w fun e w' => e = .returned (.bool true) ∧ Below w.heap.size w w' := by
  by_cases hg : 70 < n
  · exact names_great m A n c w hT hS hk hnc (decide_eq_true hg)
  by_cases hM : May m
  · by_cases h0 : m.ss = 0
    · exact names_none m A n c w hT hS hk hnc (decide_eq_false hg) (by omega) hM h0
    · exact names_snap m A n c w hT hS hk hnc (decide_eq_false hg) (by omega) hM h0
  · exact names_no m A n c w hT hS hk hnc (decide_eq_false hg) (by omega) hM

end Go.Proofs.YtafeadplmcoilaaDoor
