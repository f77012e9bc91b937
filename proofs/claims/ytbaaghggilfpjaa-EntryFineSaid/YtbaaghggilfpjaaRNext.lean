/-
  moultref06.Next: its contract.
-/
import Derived.Test.YtbaaghggilfpjaaNextB
namespace Go.Proofs.Ytbaaghggilfpjaa
open Go.RowKit Go.Maps

set_option maxRecDepth 100000 in
set_option maxHeartbeats 2000000 in
theorem rnext_any (s : StP) (e : EnP) (w : World) : Calls Try.prog 16 #[s.v, e.v] w (Does w (nextP s e)) := by
  have hn := next_no (s := s) (e := e)
  unfold StP.v EnP.v
  go_enter Try.func16, Try.ntmps16
  go_wp2_with fail
  have h3 := three_new w s e
  generalize (((w.alloc _).alloc _).alloc _) = w0 at h3 ⊢
  obtain ⟨z, hz0⟩ : ∃ z, z = w.heap.size := ⟨_, rfl⟩
  rw [← hz0] at h3 ⊢
  clear hz0
  obtain ⟨bs, be, br, hB, hz, hsz⟩ := h3
  have Hs := Lib.hid hsz
  clear hsz
  refine (rright_any e _).mono ?_
  rintro r w1 ⟨rfl, hb1⟩
  have bs1 := bs.below hb1
  have be1 := be.below hb1
  have br1 := br.below hb1
  replace hB : Below w.heap.size w w1 := hB.trans (hb1.mono hB.size)
  clear bs be br hb1
  obtain ⟨k0, k1, k2, k3, k4⟩ := bs1.cells
  cases hr : rightB e with
  | false =>
    have hg : ¬ GoesP s e := fun h => by rw [rightB_iff.2 h.2.1] at hr; cases hr
    have Hn := Lib.hid (hn hg)
    obtain ⟨r0, r1, r2, r3, r4⟩ := br1.cells
    obtain ⟨g0, g1, g2, g3, g4⟩ := br1.frozen
    clear hn hg
    go_wp2_with fail
    rw [Hn.out]
    refine bodyPost_ret (v := s.v) (by simp [results, Try.results16, go_sem, *]; try rfl) rfl (does_res hB (by omega))
  | true =>
    have HB := Lib.hid (⟨bs1, be1, br1, hB⟩ : _ ∧ _ ∧ _ ∧ _)
    clear bs1 be1 br1 hB
    go_wp2_with fail
    refine (rfine_any s _).mono ?_
    rintro r w2 ⟨rfl, hb2⟩
    obtain ⟨bs1, be1, br1, hB⟩ := HB.out
    have bs2 := bs1.below hb2
    have be2 := be1.below hb2
    have br2 := br1.below hb2
    replace hB : Below w.heap.size w w2 := hB.trans (hb2.mono hB.size)
    clear bs1 be1 br1 hb2 k0 k1 k2 k3 k4 HB
    obtain ⟨k0, k1, k2, k3, k4⟩ := bs2.cells
    obtain ⟨f0, f1, f2, f3, f4⟩ := bs2.frozen
    obtain ⟨c0, c1, c2⟩ := be2.cells
    obtain ⟨r0, r1, r2, r3, r4⟩ := br2.cells
    obtain ⟨g0, g1, g2, g3, g4⟩ := br2.frozen
    cases hf : fineB s with
    | false =>
      have hg : ¬ GoesP s e := fun h => by rw [fineB_iff.2 h.1] at hf; cases hf
      have Hn := Lib.hid (hn hg)
      clear hn hg
      go_wp2_with fail
      rw [Hn.out]
      refine bodyPost_ret (v := s.v) (by simp [results, Try.results16, go_sem, *]; try rfl) rfl (does_res hB (by omega))
    | true =>
      have hF := fineB_iff.1 hf
      have hR := rightB_iff.1 hr
      by_cases hi : s.ix = 1073741824
      · have hg : ¬ GoesP s e := fun h => h.2.2 hi
        have Hn := Lib.hid (hn hg)
        have b0 : decide ((1073741824 : Int) ≤ s.ix) = true := by simp; omega
        have Hi := Lib.hid hi
        clear hn hg hi hF
        go_wp2_with fail
        rw [Hn.out]
        refine bodyPost_ret (v := s.v) (by simp [results, Try.results16, go_sem, *]; try rfl) rfl (does_res hB (by omega))
      · have Hn := Lib.hid (next_yes ⟨hF, hR, hi⟩)
        have b0 : decide ((1073741824 : Int) ≤ s.ix) = false := by have := hF.1; simp; omega
        have hsm : 0 ≤ s.sm ∧ s.sm ≤ 1073741824 := hF.2.2.1
        have hvl : 0 ≤ e.vl ∧ e.vl ≤ 1073741824 := hR.2.2.1
        have hkd : 0 ≤ e.kd ∧ e.kd ≤ 4 := hR.2.1
        have q1 : IntKind.i64.wrap (s.ix + 1) = s.ix + 1 := by have := hF.1; rw [IntKind.wrap_i64]; omega
        clear hn hi hF hR hf hr
        go_upto_region 5 with fail
        obtain ⟨w3, hw3⟩ : ∃ w3, w3 = (w2.setCell ⟨z, 0, none⟩ (.int .i64 (s.ix + 1))).setCell ⟨z, 1, none⟩ (.int .i64 e.tm) := ⟨_, rfl⟩
        have bs3 : BoxS w3 z ⟨s.ix + 1, e.tm, s.sm, s.lv, s.fn⟩ := by rw [hw3]; exact (bs2.s0 _).s1 _
        have be3 : BoxE w3 (z + 1) e := by rw [hw3]; exact (be2.other (by omega) _).other (by omega) _
        have br3 : BoxS w3 (z + 2) ⟨0, 0, 0, 0, false⟩ := by rw [hw3]; exact (br2.other (by omega) _).other (by omega) _
        have hB3 : Below w.heap.size w w3 := by rw [hw3]; exact (hB.setCell (p := ⟨z, 0, none⟩) (by show w.heap.size ≤ z; omega) _).setCell (p := ⟨z, 1, none⟩) (by show w.heap.size ≤ z; omega) _
        rw [← hw3]
        clear hw3 bs2 be2 br2 hB k0 k1 k2 k3 k4 f0 f1 f2 f3 f4 c0 c1 c2 r0 r1 r2 r3 r4 g0 g1 g2 g3 g4 b0 q1
        obtain ⟨s3, hs3⟩ : ∃ s3 : StP, s3 = ⟨s.ix + 1, e.tm, s.sm, s.lv, s.fn⟩ := ⟨_, rfl⟩
        rw [← hs3] at bs3
        have Hn3 := Lib.hid (show nextP s e = doesP s3 e.kd e.vl by rw [hs3]; exact Hn.out)
        clear Hn
        have hsm3 : 0 ≤ s3.sm ∧ s3.sm ≤ 1073741824 := by rw [hs3]; exact hsm
        clear hs3 hsm
        obtain ⟨k0, k1, k2, k3, k4⟩ := bs3.cells
        obtain ⟨f0, f1, f2, f3, f4⟩ := bs3.frozen
        obtain ⟨c0, c1, c2⟩ := be3.cells
        obtain ⟨r0, r1, r2, r3, r4⟩ := br3.cells
        obtain ⟨g0, g1, g2, g3, g4⟩ := br3.frozen
        obtain ⟨k, hk⟩ : ∃ k, k = e.kd := ⟨_, rfl⟩
        rw [← hk] at hkd c1 Hn3 ⊢
        clear hk
        obtain rfl | rfl | rfl | rfl | rfl : k = 0 ∨ k = 1 ∨ k = 2 ∨ k = 3 ∨ k = 4 := by omega
        · rw [does_0] at Hn3
          go_wp2_with fail
          rw [Hn3.out]
          refine bodyPost_ret (v := s3.v) (by simp [results, Try.results16, go_sem, *]; try rfl) rfl (does_res hB3 (by omega))
        · obtain ⟨m1, hm1⟩ : ∃ m, m = 31 * s3.sm := ⟨_, rfl⟩
          have q1 : IntKind.i64.wrap (31 * s3.sm) = m1 := by rw [IntKind.wrap_i64]; omega
          have q2 : IntKind.i64.wrap (m1 + e.vl) = m1 + e.vl := by rw [IntKind.wrap_i64]; omega
          have q3 : IntKind.i64.wrap (m1 + e.vl + 1) = m1 + e.vl + 1 := by rw [IntKind.wrap_i64]; omega
          have q4 : (m1 + e.vl + 1).tmod 1073741824 = (s3.sm * 31 + e.vl + 1) % 1073741824 := by rw [hm1, Int.tmod_eq_emod_of_nonneg (by omega)]; congr 1; omega
          obtain ⟨m2, hm2⟩ : ∃ m, m = (s3.sm * 31 + e.vl + 1) % 1073741824 := ⟨_, rfl⟩
          have q5 : IntKind.i64.wrap m2 = m2 := by rw [IntKind.wrap_i64]; omega
          rw [← hm2] at q4
          have Hn4 := Lib.hid (show nextP s e = { s3 with sm := m2 } by rw [Hn3.out, hm2]; rfl)
          have Hb5 := Lib.hid (bs3.s2 m2)
          clear Hn3 hm1 hm2
          go_wp2_with fail
          rw [Hn4.out]
          refine bodyPost_ret (v := ({ s3 with sm := m2 } : StP).v) (by simp [results, Try.results16, go_sem, *]; try rfl) rfl (does_res (s' := { s3 with sm := m2 }) (hB3.setCell (p := ⟨z, 2, none⟩) (by show w.heap.size ≤ z; omega) _) (by omega))
        · have Hn4 := Lib.hid (show nextP s e = { s3 with lv := 2 } by rw [Hn3.out]; rfl)
          clear Hn3
          go_wp2_with fail
          rw [Hn4.out]
          refine bodyPost_ret (v := ({ s3 with lv := 2 } : StP).v) (by simp [results, Try.results16, go_sem, *]; try rfl) rfl (does_res (s' := { s3 with lv := 2 }) (hB3.setCell (p := ⟨z, 3, none⟩) (by show w.heap.size ≤ z; omega) _) (by omega))
        · cases hfn : s3.fn with
          | true =>
            have Hn4 := Lib.hid (show nextP s e = s3 by rw [Hn3.out]; show (if s3.fn = true then s3 else _) = s3; rw [if_pos hfn])
            rw [hfn] at k4
            have Hf := Lib.hid hfn
            clear Hn3 hfn
            go_wp2_with fail
            rw [Hn4.out]
            refine bodyPost_ret (v := s3.v) (by simp [results, Try.results16, go_sem, *]; unfold StP.v; rw [Hf.out]) rfl (by have h := does_res (s' := s3) hB3 (show w.heap.size ≤ z + 2 by omega); unfold putS at h; rw [Hf.out] at h; exact h)
          | false =>
            have Hn4 := Lib.hid (show nextP s e = { s3 with lv := 1 } by rw [Hn3.out]; show (if s3.fn = true then s3 else _) = _; rw [if_neg (by rw [hfn]; decide)])
            rw [hfn] at k4
            have Hf := Lib.hid hfn
            clear Hn3 hfn
            go_wp2_with fail
            rw [Hn4.out]
            refine bodyPost_ret (v := ({ s3 with lv := 1 } : StP).v) (by simp [results, Try.results16, go_sem, *]; unfold StP.v; dsimp only; rw [Hf.out]) rfl (by have h := does_res (s' := { s3 with lv := 1 }) (hB3.setCell (p := ⟨z, 3, none⟩) (by show w.heap.size ≤ z; omega) (.int .i64 1)) (show w.heap.size ≤ z + 2 by omega); unfold putS at h; simp only [Hf.out] at h ⊢; exact h)
        · obtain ⟨y, hy⟩ : ∃ y, y = decide (s3.lv = 2) := ⟨_, rfl⟩
          have q1 : (s3.lv == 2) = y := by rw [hy]; exact beq_eq_decide _ _
          have Hn4 := Lib.hid (show nextP s e = { s3 with fn := y } by rw [Hn3.out, hy]; rfl)
          clear Hn3 hy
          go_wp2_with fail
          rw [Hn4.out]
          refine bodyPost_ret (v := ({ s3 with fn := y } : StP).v) (by simp [results, Try.results16, go_sem, *]; try rfl) rfl (does_res (s' := { s3 with fn := y }) (hB3.setCell (p := ⟨z, 4, none⟩) (by show w.heap.size ≤ z; omega) _) (by omega))

end Go.Proofs.Ytbaaghggilfpjaa
