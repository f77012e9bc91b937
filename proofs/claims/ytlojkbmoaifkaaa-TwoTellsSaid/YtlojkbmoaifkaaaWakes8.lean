/-
  moultlaw08.wakes: it returns true.
-/
import Derived.Test.YtlojkbmoaifkaaaPl8
namespace Go.Proofs.Ytlojkbmoaifkaaa
open Go.RowKit
set_option linter.unusedVariables false

set_option maxRecDepth 100000 in
set_option maxHeartbeats 4000000 in
theorem wakes_true (w : World) : Calls Try.prog 8 #[] w fun e w' => e = .returned (.bool true) ∧ Below w.heap.size w w' := by
  obtain ⟨i0, hi, hz0, hz1, hz2⟩ := info_parts Ga.info_u8
  obtain ⟨j0, hj, hy0, hy1, hy2⟩ := info_partsV info_entry
  obtain ⟨B, L, q, m, hP, hBq, hLm, hq, hm, hB, hL, ⟨z, hz, hLz⟩, ⟨cs1, hf1, hs1, hu1⟩, ⟨cs2, hf2, hs2, hu2⟩⟩ := wake_bytes
  have HP := Lib.hid (⟨hP, hBq, hLm, hB, hL, hz, hLz, hf1, hs1, hu1, hf2, hs2, hu2⟩ : _ ∧ _ ∧ _ ∧ _ ∧ _ ∧ _ ∧ _ ∧ _ ∧ _ ∧ _ ∧ _ ∧ _ ∧ _)
  clear hP hBq hLm hB hL hz hLz hf1 hs1 hu1 hf2 hs2 hu2
  have B0 := Below.refl w.heap.size w
  go_enter Try.func8, Try.ntmps8
  go_wp2_with fail
  refine (head_any 1 w).mono ?_
  intro e w1 hh
  obtain ⟨A1, c1, rfl, hc1, r1, -, bb⟩ := hh.out (headP_yes num_1) (q := 2) (by rw [head_one]; rfl)
  clear hh
  have B1 := B0.trans (bb.mono B0.size)
  clear bb B0
  go_wp2_with fail
  obtain ⟨w2, hw2⟩ : ∃ x, x = w1.alloc (.cells #[.int .i64 1, .int .i64 0, .int .i64 0, .int .i64 2, .int .i64 1, .int .i64 7] 45) := ⟨_, rfl⟩
  obtain ⟨g2, hg2⟩ : ∃ x, x = w1.heap.size := ⟨_, rfl⟩
  have bb : Below w1.heap.size w1 w2 := by rw [hw2]; exact (Below.refl _ _).alloc (Nat.le_refl _) _
  have e2 : Es w2 w2.heap.size (some ⟨g2, 0, none⟩) 2 [wk1, wk2] := by rw [hw2, hg2]; exact Es.made _ [wk1, wk2] rfl 45
  rw [← hw2, ← hg2]
  clear hw2 hg2
  replace r1 := r1.on bb bb.size
  have B2 := B1.trans (bb.mono B1.size)
  clear bb B1
  refine (file_any 300 _ 2 2 [wk1, wk2] w2 e2 (by omega) (by omega)).mono ?_
  intro e w3 hh
  obtain ⟨A3, c3, rfl, hc3, r3, -, bb⟩ := hh.out HP.out.1 HP.out.2.1
  clear hh
  replace r1 := r1.on bb bb.size
  replace e2 := e2.on bb bb.size
  have B3 := B2.trans (bb.mono B2.size)
  clear bb B2
  clear e2
  go_wp2_with (at_builtin; refine hold ?_)
  refine unhold (wpList_append (.tmp 30) (.tmp 31) 24 Try.underlying24 hi hz0 hz1 hz2 Nu.byte_cells (by decide) (own_empty w3 w3.heap.size 5 1 (Nat.le_refl _)) ((Source.rd r3).alloc _) (by unfold maxLen; omega) (by omega) (by simp) rfl rfl rfl rfl ?_)
  intro va wa La
  obtain ⟨Aa, ca, rfl, hca, owna, ba, na⟩ := La.made
  clear La
  go_wp2_with (at_builtin; refine hold ?_)
  refine unhold (wpList_append (.tmp 32) (.tmp 33) 24 Try.underlying24 hi hz0 hz1 hz2 Nu.byte_cells (by decide) (owna.alloc _) (Source.rd (Rd.made wa .u8 5 [9] rfl)) (by simp only [List.length_cons, List.length_nil]; unfold maxLen; omega) (by simp only [List.length_cons, List.length_nil]; omega) (by have := ba.size; simp; omega) rfl rfl rfl rfl ?_)
  intro vb wb Lb
  obtain ⟨A5, c5, rfl, hc5, own5, bb, nb⟩ := Longer.more (ba.alloc ba.size _) (ba.alloc ba.size _).size na Lb
  clear Lb owna ba na hca nb
  obtain ⟨w4, hwn⟩ : ∃ W, W = wb := ⟨_, rfl⟩
  subst hwn
  replace r1 := r1.on bb bb.size
  replace r3 := r3.on bb bb.size
  have B4 := B3.trans (bb.mono B3.size)
  clear bb B3
  have r5 := own_bytes (m := 0) (k := [9]) own5
  clear own5
  go_wp2_with fail
  refine (Scan_any A5 (q + 1) c5 (B ++ [9]) w4 r5 (HP.out.2.2.2.1.append (byt_lit (by decide))) hc5 (by omega)).mono ?_
  intro e w5 hh
  obtain ⟨A6, c6, rfl, hc6, s6, bb⟩ := hh.yes HP.out.2.2.2.2.2.2.2.2.1 (q := 2) (by rw [HP.out.2.2.2.2.2.2.2.1]; rfl) HP.out.2.2.2.2.2.2.2.2.2.1
  clear hh
  replace r1 := r1.on bb bb.size
  replace r3 := r3.on bb bb.size
  replace r5 := r5.on bb bb.size
  have B5 := B4.trans (bb.mono B4.size)
  clear bb B4
  clear r5
  obtain ⟨w6, hw6⟩ : ∃ x, x = w5.alloc (.cells #[.int .i64 300, .slice A6 2 c6, .int .i64 (q : Int)] 36) := ⟨_, rfl⟩
  obtain ⟨z6, hz6⟩ : ∃ x, x = w5.heap.size := ⟨_, rfl⟩
  have bb : Below w5.heap.size w5 w6 := by rw [hw6]; exact (Below.refl _ _).alloc (Nat.le_refl _) _
  have z6b : BoxC w6 z6 300 (.slice A6 2 c6) (q : Int) := by rw [hw6, hz6]; exact BoxC.new _ _ _ _
  have sz6 : z6 + 1 = w6.heap.size := by rw [hw6, hz6]; simp
  go_wp2_with fail
  rw [← hw6, ← hz6]
  clear hw6 hz6
  replace r1 := r1.on bb bb.size
  replace r3 := r3.on bb bb.size
  replace s6 := s6.on bb bb.size
  have B6 := B5.trans (bb.mono B5.size)
  clear bb B5
  obtain ⟨w7, hw7⟩ : ∃ x, x = w6.alloc (.cells #[.int .i64 3, .int .i64 0, .int .i64 0] 45) := ⟨_, rfl⟩
  have bb : Below w6.heap.size w6 w7 := by rw [hw7]; exact (Below.refl _ _).alloc (Nat.le_refl _) _
  have e3 : Es w7 w7.heap.size (some ⟨z6 + 1, 0, none⟩) 1 [wk3] := by rw [hw7]; exact Es.made _ [wk3] sz6 45
  rw [← hw7]
  clear hw7
  replace r1 := r1.on bb bb.size
  replace r3 := r3.on bb bb.size
  replace s6 := s6.on bb bb.size
  replace z6b := z6b.below bb
  have B7 := B6.trans (bb.mono B6.size)
  clear bb B6
  refine (more_any A3 q c3 B _ 1 1 [wk3] w7 r3 HP.out.2.2.2.1 hc3 (by omega) e3 (by omega) (by omega)).mono ?_
  rintro e w8 ⟨L7, er7, hM7, h7⟩
  obtain ⟨rfl, rfl⟩ := hM7.yes HP.out.2.2.2.2.2.1 wk_right.2
  rw [← HP.out.2.2.2.2.2.2.1] at h7
  obtain ⟨A7, c7, rfl, r7, bb⟩ := h7.out HP.out.2.2.1
  clear h7 hM7 sz6
  replace r1 := r1.on bb bb.size
  replace r3 := r3.on bb bb.size
  replace s6 := s6.on bb bb.size
  replace z6b := z6b.below bb
  replace e3 := e3.on bb bb.size
  have B8 := B7.trans (bb.mono B7.size)
  clear bb B7
  clear e3
  go_wp2_with (at_builtin; refine hold ?_)
  refine unhold (wpList_append (.tmp 46) (.tmp 47) 24 Try.underlying24 hi hz0 hz1 hz2 Nu.byte_cells (by decide) (own_empty w8 w8.heap.size 5 1 (Nat.le_refl _)) ((Source.rd r3).alloc _) (by unfold maxLen; omega) (by omega) (by simp) rfl rfl rfl rfl ?_)
  intro va wa La
  obtain ⟨Aa, ca, rfl, hca, owna, ba, na⟩ := La.made
  clear La
  go_wp2_with (at_builtin; refine hold ?_)
  refine unhold (wpList_append (.tmp 48) (.tmp 49) 24 Try.underlying24 hi hz0 hz1 hz2 Nu.byte_cells (by decide) owna ((Source.rd r7).on ba) (by unfold maxLen; omega) (by omega) ba.size rfl rfl rfl rfl ?_)
  intro vb wb Lb
  obtain ⟨A8, c8, rfl, hc8, own8, bb, nb⟩ := Longer.more ba ba.size na Lb
  clear Lb owna ba na hca nb
  obtain ⟨w9, hwn⟩ : ∃ W, W = wb := ⟨_, rfl⟩
  subst hwn
  replace r1 := r1.on bb bb.size
  replace r3 := r3.on bb bb.size
  replace s6 := s6.on bb bb.size
  replace z6b := z6b.below bb
  replace r7 := r7.on bb bb.size
  have B9 := B8.trans (bb.mono B8.size)
  clear bb B8
  have r8 := own_bytes (m := 0) (k := L) own8
  clear own8
  clear r7
  go_wp2_with fail
  obtain ⟨qm, hqm⟩ : ∃ x, x = q + m := ⟨_, rfl⟩
  have Hqm := Lib.hid hqm
  clear hqm
  refine (Scan_any A8 (q + m) c8 (B ++ L) w9 r8 (HP.out.2.2.2.1.append HP.out.2.2.2.2.1) hc8 (by omega)).mono ?_
  intro e w10 hh
  obtain ⟨A9, c9, rfl, hc9, s9, bb⟩ := hh.yes HP.out.2.2.2.2.2.2.2.2.2.2.2.1 (q := 3) (by rw [HP.out.2.2.2.2.2.2.2.2.2.2.1]; rfl) (u := qm) (by rw [Hqm.out]; exact HP.out.2.2.2.2.2.2.2.2.2.2.2.2)
  clear hh
  replace r1 := r1.on bb bb.size
  replace r3 := r3.on bb bb.size
  replace s6 := s6.on bb bb.size
  replace z6b := z6b.below bb
  replace r8 := r8.on bb bb.size
  have B10 := B9.trans (bb.mono B9.size)
  clear bb B9
  clear r8
  obtain ⟨w11, hw11⟩ : ∃ x, x = w10.alloc (.cells #[.int .i64 300, .slice A9 3 c9, .int .i64 (qm : Int)] 36) := ⟨_, rfl⟩
  obtain ⟨z9, hz9⟩ : ∃ x, x = w10.heap.size := ⟨_, rfl⟩
  have bb : Below w10.heap.size w10 w11 := by rw [hw11]; exact (Below.refl _ _).alloc (Nat.le_refl _) _
  have z9b : BoxC w11 z9 300 (.slice A9 3 c9) (qm : Int) := by rw [hw11, hz9]; exact BoxC.new _ _ _ _
  have sz9 : z9 + 1 = w11.heap.size := by rw [hw11, hz9]; simp
  go_wp2_with (at_builtin; refine hold ?_)
  rw [← hw11, ← hz9]
  clear hw11 hz9
  replace r1 := r1.on bb bb.size
  replace r3 := r3.on bb bb.size
  replace s6 := s6.on bb bb.size
  replace z6b := z6b.below bb
  replace s9 := s9.on bb bb.size
  have B11 := B10.trans (bb.mono B10.size)
  clear bb B10
  refine unhold (wpList_append (.tmp 55) (.tmp 56) 24 Try.underlying24 hi hz0 hz1 hz2 Nu.byte_cells (by decide) (own_emptyG (g := (z9 + 1)) sz9 (Nat.le_refl _)) ((Source.rd r3).alloc _) (by unfold maxLen; omega) (by omega) (by simp) rfl rfl rfl rfl ?_)
  intro va wa La
  obtain ⟨Aa, ca, rfl, hca, owna, ba, na⟩ := La.madeG sz9
  clear La
  go_wp2_with (at_builtin; refine hold ?_)
  refine unhold (wpList_append (.tmp 57) (.tmp 58) 24 Try.underlying24 hi hz0 hz1 hz2 Nu.byte_cells (by decide) (owna.alloc _) (Source.rd (Rd.made wa .u8 5 [9] rfl)) (by simp only [List.length_cons, List.length_nil]; unfold maxLen; omega) (by simp only [List.length_cons, List.length_nil]; omega) (by have := ba.size; simp; omega) rfl rfl rfl rfl ?_)
  intro vb wb Lb
  obtain ⟨Ab, cb, rfl, hcb, ownb, bb, nb⟩ := Longer.more (ba.alloc ba.size _) (ba.alloc ba.size _).size na Lb
  clear Lb owna ba na hca nb
  obtain ⟨w12, hwn⟩ : ∃ W, W = wb := ⟨_, rfl⟩
  subst hwn
  replace r1 := r1.on bb bb.size
  replace r3 := r3.on bb bb.size
  replace s6 := s6.on bb bb.size
  replace z6b := z6b.below bb
  replace s9 := s9.on bb bb.size
  replace z9b := z9b.below bb
  have B12 := B11.trans (bb.mono B11.size)
  clear bb B11
  have rb := own_bytes (m := 0) (k := [9]) ownb
  clear ownb
  go_wp2_with fail
  obtain ⟨w13, hw13⟩ : ∃ x, x = w12.alloc (.cells #[.int .i64 3, .int .i64 0, .int .i64 0] 45) := ⟨_, rfl⟩
  obtain ⟨gc, hgc⟩ : ∃ x, x = w12.heap.size := ⟨_, rfl⟩
  have bb : Below w12.heap.size w12 w13 := by rw [hw13]; exact (Below.refl _ _).alloc (Nat.le_refl _) _
  have ec : Es w13 w13.heap.size (some ⟨gc, 0, none⟩) 1 [wk3] := by rw [hw13, hgc]; exact Es.made _ [wk3] rfl 45
  rw [← hw13, ← hgc]
  clear hw13 hgc
  replace r1 := r1.on bb bb.size
  replace r3 := r3.on bb bb.size
  replace s6 := s6.on bb bb.size
  replace z6b := z6b.below bb
  replace s9 := s9.on bb bb.size
  replace z9b := z9b.below bb
  replace rb := rb.on bb bb.size
  have B13 := B12.trans (bb.mono B12.size)
  clear bb B12
  refine (more_any Ab (q + 1) cb (B ++ [9]) _ 1 1 [wk3] w13 rb (HP.out.2.2.2.1.append (byt_lit (by decide))) hcb (by omega) ec (by omega) (by omega)).mono ?_
  rintro e w14 ⟨L7, er7, hM7, h7⟩
  obtain ⟨rfl, rfl⟩ := hM7.no (not_end HP.out.2.2.2.2.2.2.2.2.1 (by simp))
  obtain ⟨A7b, c7b, rfl, -, bb⟩ := h7.out (q := 0) rfl
  clear h7 hM7
  replace r1 := r1.on bb bb.size
  replace r3 := r3.on bb bb.size
  replace s6 := s6.on bb bb.size
  replace z6b := z6b.below bb
  replace s9 := s9.on bb bb.size
  replace z9b := z9b.below bb
  replace rb := rb.on bb bb.size
  replace ec := ec.on bb bb.size
  have B14 := B13.trans (bb.mono B13.size)
  clear bb B13
  clear ec rb
  go_wp2_with fail
  refine (block_any none 0 0 [] w14 headE_pt_from ⟨rfl, fun h => absurd h (by omega)⟩ (by omega)).mono ?_
  rintro e w15 ⟨hbk, bb⟩
  obtain ⟨-, rfl⟩ := hbk.resolve_left (fun h => by have := h.1.1; simp at this)
  clear hbk
  replace r1 := r1.on bb bb.size
  replace r3 := r3.on bb bb.size
  replace s6 := s6.on bb bb.size
  replace z6b := z6b.below bb
  replace s9 := s9.on bb bb.size
  replace z9b := z9b.below bb
  have B15 := B14.trans (bb.mono B14.size)
  clear bb B14
  go_wp2_with fail
  obtain ⟨w16, hw16⟩ : ∃ x, x = w15.alloc (.cells #[.int .u8 1, .int .u8 1] 5) := ⟨_, rfl⟩
  obtain ⟨gd, hgd⟩ : ∃ x, x = w15.heap.size := ⟨_, rfl⟩
  have bb : Below w15.heap.size w15 w16 := by rw [hw16]; exact (Below.refl _ _).alloc (Nat.le_refl _) _
  have rd : Rd w16 w16.heap.size .u8 (some ⟨gd, 0, none⟩) 2 [1, 1] := by rw [hw16, hgd]; exact Rd.made _ .u8 5 [1, 1] rfl
  rw [← hw16, ← hgd]
  clear hw16 hgd
  replace r1 := r1.on bb bb.size
  replace r3 := r3.on bb bb.size
  replace s6 := s6.on bb bb.size
  replace z6b := z6b.below bb
  replace s9 := s9.on bb bb.size
  replace z9b := z9b.below bb
  have B16 := B15.trans (bb.mono B15.size)
  clear bb B15
  refine (Scan_any _ 2 2 [1, 1] w16 rd (byt_lit (by decide)) (by omega) (by omega)).mono ?_
  intro e w17 hh
  obtain ⟨rfl, bb⟩ := hh.no wake_none
  clear hh
  replace r1 := r1.on bb bb.size
  replace r3 := r3.on bb bb.size
  replace s6 := s6.on bb bb.size
  replace z6b := z6b.below bb
  replace s9 := s9.on bb bb.size
  replace z9b := z9b.below bb
  replace rd := rd.on bb bb.size
  have B17 := B16.trans (bb.mono B16.size)
  clear bb B16
  clear rd
  obtain ⟨w18, hw18⟩ : ∃ x, x = w17.alloc (.cells #[.int .i64 0, .slice none 0 0, .int .i64 0] 36) := ⟨_, rfl⟩
  have bb : Below w17.heap.size w17 w18 := by rw [hw18]; exact (Below.refl _ _).alloc (Nat.le_refl _) _
  replace r1 := r1.on bb bb.size
  replace r3 := r3.on bb bb.size
  replace s6 := s6.on bb bb.size
  replace z6b := z6b.below bb
  replace s9 := s9.on bb bb.size
  replace z9b := z9b.below bb
  have B18 := B17.trans (bb.mono B17.size)
  clear bb B17
  rw [HP.out.2.2.2.2.2.2.2.1] at s6
  obtain ⟨-, d1, -⟩ := z6b.cells
  rw [hw18] at d1
  have hs18 : w17.heap.size + 1 = w18.heap.size := by rw [hw18]; simp
  obtain ⟨wl, hwl⟩ : ∃ x, x = w18.alloc (.cells #[.int .u8 2, .int .u8 1] 5) := ⟨_, rfl⟩
  have bb : Below w18.heap.size w18 wl := by rw [hwl]; exact (Below.refl _ _).alloc (Nat.le_refl _) _
  have rl : Rd wl wl.heap.size .u8 (some ⟨w18.heap.size, 0, none⟩) 2 [2, 1] := by rw [hwl]; exact Rd.made _ .u8 5 [2, 1] rfl
  replace r1 := r1.on bb bb.size
  replace r3 := r3.on bb bb.size
  replace s6 := s6.on bb bb.size
  replace z6b := z6b.below bb
  replace s9 := s9.on bb bb.size
  replace z9b := z9b.below bb
  have B19 := B18.trans (bb.mono B18.size)
  clear bb B18
  have hsm := same_any A1 (some ⟨w18.heap.size, 0, none⟩) 2 2 c1 2 (headL 1) [2, 1] wl r1 rl (head_byt num_1) (byt_lit (by decide))
  rw [show eqB (headL 1) [2, 1] = true from by rw [head_one]; rfl] at hsm
  have HX := Lib.hid (⟨z6b, z9b, s6⟩ : _ ∧ _ ∧ _)
  have HY := Lib.hid (⟨hw18, hs18, hwl⟩ : _ ∧ _ ∧ _)
  clear z6b z9b s6 hw18 hs18 hwl
  go_wp2_with fail
  rw [← HY.out.1, HY.out.2.1, ← HY.out.2.2]
  clear d1
  refine hsm.mono ?_
  rintro e wf ⟨rfl, rfl⟩
  obtain ⟨z6b, z9b, s6⟩ := HX.out
  obtain ⟨d0, d1, d2⟩ := z6b.cells
  obtain ⟨k0, k1, k2⟩ := z9b.cells
  obtain ⟨b6, o6, e6, hA6, -, he6, m0, m1, m2⟩ := s6.at_ (k := 1) (by omega)
  obtain rfl : wk2 = e6 := by simpa using he6
  subst hA6
  have m2' : wl.cell? ⟨b6, o6 + 1 * 3 + 2, none⟩ = some (.int .i64 7) := by simpa [wk2] using m2
  have m2'' : wl.cell? ⟨b6, o6 + 5, none⟩ = some (.int .i64 7) := m2'
  clear m0 m1 m2 he6 hsm z6b z9b s6
  go_wp2_with fail
  go_ret
  exact ⟨rfl, B19⟩

end Go.Proofs.Ytlojkbmoaifkaaa
