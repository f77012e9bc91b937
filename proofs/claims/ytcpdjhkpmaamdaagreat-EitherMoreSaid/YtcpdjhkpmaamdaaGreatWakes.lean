/-
  moultlaw10.wakes: it returns true.
-/
import Derived.Test.YtcpdjhkpmaamdaaGreatLawP
namespace Go.Proofs.YtcpdjhkpmaamdaaGreat
open Go.RowKit
set_option linter.unusedVariables false

theorem seg_one_one [Inhabited Cr.Rows16] : SegIs 1 [1, 0, 0, 0, 0, 1] 1 [] := by
  obtain ⟨B, h1, h2⟩ := file_seg (t := 1) (f := 1) (l := []) (.inl rfl) (by omega) AllR.nil
  rw [file_one_one] at h1
  obtain rfl := (Prod.mk.inj h1).1
  exact h2
set_option maxRecDepth 100000 in
set_option maxHeartbeats 4000000 in
theorem wakes_true [Inhabited Cr.Rows16] (w : World) (hT : Cr.Tab w) : Calls Tryz.prog 7 #[] w fun e w' => e = .returned (.bool true) ∧ Below w.heap.size w w' := by
  obtain ⟨i0, hi, hz0, hz1, hz2⟩ := info_parts Ga.info_u8
  obtain ⟨j0, hj, hy0, hy1, hy2⟩ := info_partsV info_entry
  obtain ⟨B, D, q, d, hq, hd, hB, hSB, hBq, hD, hSD, hDd⟩ := wake10
  have HP := Lib.hid (⟨hB, hSB, hBq, hD, hSD, hDd, hT⟩ : _ ∧ _ ∧ _ ∧ _ ∧ _ ∧ _ ∧ _)
  clear hB hSB hBq hD hSD hDd hT
  have B0 := Below.refl w.heap.size w
  go_enter Tryz.func7, Tryz.ntmps7
  go_wp2_with fail
  obtain ⟨w1, hw1⟩ : ∃ x, x = w.alloc (.cells #[.int .u8 2, .int .u8 1] 5) := ⟨_, rfl⟩
  obtain ⟨ga, hga⟩ : ∃ x, x = w.heap.size := ⟨_, rfl⟩
  have bb : Below w.heap.size w w1 := by rw [hw1]; exact (Below.refl _ _).alloc (Nat.le_refl _) _
  have ra : Rd w1 w1.heap.size .u8 (some ⟨ga, 0, none⟩) 2 [2, 1] := by rw [hw1, hga]; exact Rd.made _ .u8 5 [2, 1] rfl
  rw [← hw1, ← hga]
  clear hw1 hga
  have B1 := B0.trans (bb.mono B0.size)
  clear bb B0
  refine Calls.mono (ETurn_any 2 1 (some ⟨ga, 0, none⟩) 2 2 [2, 1] w1 (HP.out.2.2.2.2.2.2.on B1) ra (byt_lit (by decide)) (by omega) (by omega) (by decide) (by decide)) ?_
  intro e w2 hh
  obtain ⟨R, hR, hh⟩ := hh
  obtain ⟨A1, c1, rfl, hc1, r1, bb⟩ := hh.out ((turn_file (t := 2) (by omega) AllR.nil (.inr rfl) (.inl rfl) seg_two_one hR).trans file_one_one) (show ([1, 0, 0, 0, 0, 1] : List Int).length = 6 from rfl)
  clear hh hR
  replace ra := ra.on bb bb.size
  have B2 := B1.trans (bb.mono B1.size)
  clear bb B1
  clear ra
  go_wp2_with fail
  obtain ⟨w3, hw3⟩ : ∃ x, x = w2.alloc (.cells #[.int .i64 3, .int .i64 0, .int .i64 0] 41) := ⟨_, rfl⟩
  obtain ⟨gb, hgb⟩ : ∃ x, x = w2.heap.size := ⟨_, rfl⟩
  have bb : Below w2.heap.size w2 w3 := by rw [hw3]; exact (Below.refl _ _).alloc (Nat.le_refl _) _
  have ea : Es w3 w3.heap.size (some ⟨gb, 0, none⟩) 1 [eThree] := by rw [hw3, hgb]; exact Es.made _ [eThree] rfl 41
  rw [← hw3, ← hgb]
  clear hw3 hgb
  replace r1 := r1.on bb bb.size
  have B3 := B2.trans (bb.mono B2.size)
  clear bb B2
  refine (File_any 2 9 (some ⟨gb, 0, none⟩) 1 1 [eThree] w3 (HP.out.2.2.2.2.2.2.on B3) ea (by decide) (by omega) (by omega)).mono ?_
  intro e w4 hh
  obtain ⟨A2, c2, rfl, hc2, r2, bb⟩ := hh.out HP.out.1 HP.out.2.2.1
  clear hh
  replace r1 := r1.on bb bb.size
  replace ea := ea.on bb bb.size
  have B4 := B3.trans (bb.mono B3.size)
  clear bb B3
  clear ea
  go_wp2_with fail
  obtain ⟨w5, hw5⟩ : ∃ x, x = w4.alloc (.cells #[.int .i64 4, .int .i64 0, .int .i64 0] 41) := ⟨_, rfl⟩
  obtain ⟨gc, hgc⟩ : ∃ x, x = w4.heap.size := ⟨_, rfl⟩
  have bb : Below w4.heap.size w4 w5 := by rw [hw5]; exact (Below.refl _ _).alloc (Nat.le_refl _) _
  have eb : Es w5 w5.heap.size (some ⟨gc, 0, none⟩) 1 [eFour] := by rw [hw5, hgc]; exact Es.made _ [eFour] rfl 41
  rw [← hw5, ← hgc]
  clear hw5 hgc
  replace r1 := r1.on bb bb.size
  replace r2 := r2.on bb bb.size
  have B5 := B4.trans (bb.mono B4.size)
  clear bb B4
  refine Calls.mono (EMore_any 2 A2 q c2 B (some ⟨gc, 0, none⟩) 1 1 [eFour] w5 (HP.out.2.2.2.2.2.2.on B5) r2 HP.out.2.1.byt hc2 (by omega) eb (by omega) (by omega) (by decide)) ?_
  intro e w6 hh
  obtain ⟨⟨L, er⟩, hM, hh⟩ := hh
  obtain ⟨he0, hSM⟩ := hM.seg HP.out.2.1 e34_right.2
  have he0 : er = 0 := he0
  subst he0
  obtain ⟨m, hm⟩ : ∃ m, L.length = m := ⟨_, rfl⟩
  have hmq : m ≤ 1000 := by
    have h1 := hSM.len
    rw [List.length_append] at h1
    simp only [List.length_append, List.length_cons, List.length_nil] at h1
    omega
  obtain ⟨A3, c3, rfl, r3, bb⟩ := hh.out hm
  have HM := Lib.hid (⟨hSM, hm⟩ : _ ∧ _)
  clear hh hM hSM hm
  replace r1 := r1.on bb bb.size
  replace r2 := r2.on bb bb.size
  replace eb := eb.on bb bb.size
  have B6 := B5.trans (bb.mono B5.size)
  clear bb B5
  clear eb
  go_wp2_with (at_builtin; refine hold ?_)
  refine unhold (wpList_append (.tmp 34) (.tmp 35) 23 Tryz.underlying23 hi hz0 hz1 hz2 Nu.byte_cells (by decide) (own_empty w6 w6.heap.size 5 1 (Nat.le_refl _)) ((Source.rd r2).alloc _) (by unfold maxLen; omega) (by omega) (by simp) rfl rfl rfl rfl ?_)
  intro va wa La
  obtain ⟨Aa, ca, rfl, hca, owna, ba, na⟩ := La.made
  clear La
  go_wp2_with (at_builtin; refine hold ?_)
  refine unhold (wpList_append (.tmp 36) (.tmp 37) 23 Tryz.underlying23 hi hz0 hz1 hz2 Nu.byte_cells (by decide) owna ((Source.rd r3).on ba) (by unfold maxLen; omega) (by omega) ba.size rfl rfl rfl rfl ?_)
  intro vb wb Lb
  obtain ⟨A4, c4, rfl, hc4, own4, bb, nb⟩ := Longer.more ba ba.size na Lb
  clear Lb owna ba na hca nb
  obtain ⟨w7, hwn⟩ : ∃ W, W = wb := ⟨_, rfl⟩
  subst hwn
  replace r1 := r1.on bb bb.size
  replace r2 := r2.on bb bb.size
  replace r3 := r3.on bb bb.size
  have B7 := B6.trans (bb.mono B6.size)
  clear bb B6
  have r4 := own_bytes (m := 0) (k := L) own4
  clear own4
  clear r3
  go_wp2_with fail
  obtain ⟨qm, hqm⟩ : ∃ x, x = q + m := ⟨_, rfl⟩
  have Hqm := Lib.hid hqm
  clear hqm
  refine (EScan_any 2 A4 (q + m) c4 (B ++ L) w7 (HP.out.2.2.2.2.2.2.on B7) r4 HM.out.1.byt hc4 (by omega) (by decide)).mono ?_
  intro e w8 hh
  obtain ⟨A5, c5, rfl, hc5, s5, bb⟩ := hh.yes (f := 9) (l := [eThree] ++ [eFour]) (u := qm) (n := 2) (by have h := HM.out.1.scn; rw [List.length_append, HM.out.2, HP.out.2.2.1] at h; rw [Hqm.out]; exact h) rfl
  clear hh
  replace r1 := r1.on bb bb.size
  replace r2 := r2.on bb bb.size
  replace r4 := r4.on bb bb.size
  have B8 := B7.trans (bb.mono B7.size)
  clear bb B7
  clear r4
  clear s5
  obtain ⟨w9, hw9⟩ : ∃ x, x = w8.alloc (.cells #[.int .i64 9, .slice A5 2 c5, .int .i64 (qm : Int)] 29) := ⟨_, rfl⟩
  obtain ⟨z5, hz5⟩ : ∃ x, x = w8.heap.size := ⟨_, rfl⟩
  have bb : Below w8.heap.size w8 w9 := by rw [hw9]; exact (Below.refl _ _).alloc (Nat.le_refl _) _
  have z5b : BoxC w9 z5 9 (.slice A5 2 c5) (qm : Int) := by rw [hw9, hz5]; exact BoxC.new _ _ _ _
  have sz5 : z5 + 1 = w9.heap.size := by rw [hw9, hz5]; simp
  go_wp2_with fail
  rw [← hw9, ← hz5]
  clear hw9 hz5
  replace r1 := r1.on bb bb.size
  replace r2 := r2.on bb bb.size
  have B9 := B8.trans (bb.mono B8.size)
  clear bb B8
  refine Calls.mono (ETurn_any 2 1 A2 q c2 B w9 (HP.out.2.2.2.2.2.2.on B9) r2 HP.out.2.1.byt hc2 (by omega) (by decide) (by decide)) ?_
  intro e w10 hh
  obtain ⟨R, hR, hh⟩ := hh
  obtain ⟨A6, c6, rfl, hc6, r6, bb⟩ := hh.out ((turn_file (t := 2) (by omega) e34_right.1 (.inr rfl) (.inl rfl) HP.out.2.1 hR).trans HP.out.2.2.2.1) HP.out.2.2.2.2.2.1
  clear hh hR
  replace r1 := r1.on bb bb.size
  replace r2 := r2.on bb bb.size
  replace z5b := z5b.below bb
  have B10 := B9.trans (bb.mono B9.size)
  clear bb B9
  go_wp2_with (at_builtin; refine hold ?_)
  refine unhold (wpList_append (.tmp 48) (.tmp 49) 23 Tryz.underlying23 hi hz0 hz1 hz2 Nu.byte_cells (by decide) (own_empty w10 w10.heap.size 5 1 (Nat.le_refl _)) ((Source.rd r2).alloc _) (by unfold maxLen; omega) (by omega) (by simp) rfl rfl rfl rfl ?_)
  intro va wa La
  obtain ⟨Aa, ca, rfl, hca, owna, ba, na⟩ := La.made
  clear La
  go_wp2_with (at_builtin; refine hold ?_)
  refine unhold (wpList_append (.tmp 50) (.tmp 51) 23 Tryz.underlying23 hi hz0 hz1 hz2 Nu.byte_cells (by decide) (owna.alloc _) (Source.rd (Rd.made wa .u8 5 [7] rfl)) (by simp only [List.length_cons, List.length_nil]; unfold maxLen; omega) (by simp only [List.length_cons, List.length_nil]; omega) (by have := ba.size; simp; omega) rfl rfl rfl rfl ?_)
  intro vb wb Lb
  obtain ⟨A7, c7, rfl, hc7, own7, bb, nb⟩ := Longer.more (ba.alloc ba.size _) (ba.alloc ba.size _).size na Lb
  clear Lb owna ba na hca nb
  obtain ⟨w11, hwn⟩ : ∃ W, W = wb := ⟨_, rfl⟩
  subst hwn
  replace r1 := r1.on bb bb.size
  replace r2 := r2.on bb bb.size
  replace z5b := z5b.below bb
  replace r6 := r6.on bb bb.size
  have B11 := B10.trans (bb.mono B10.size)
  clear bb B10
  have r7 := own_bytes (m := 0) (k := [7]) own7
  clear own7
  go_wp2_with fail
  refine Calls.mono (ETurn_any 2 1 A7 (q + 1) c7 (B ++ [7]) w11 (HP.out.2.2.2.2.2.2.on B11) r7 (HP.out.2.1.byt.append (byt_lit (by decide))) hc7 (by omega) (by decide) (by decide)) ?_
  intro e w12 hh
  obtain ⟨R, hR, hh⟩ := hh
  obtain ⟨A8, c8, rfl, hc8, -, bb⟩ := hh.out (hR.same (.inr (.inl ⟨⟨.inr rfl, .inl rfl⟩, seg_byte HP.out.2.1, rfl⟩))) (show ([] : List Int).length = 0 from rfl)
  clear hh hR
  replace r1 := r1.on bb bb.size
  replace r2 := r2.on bb bb.size
  replace z5b := z5b.below bb
  replace r6 := r6.on bb bb.size
  replace r7 := r7.on bb bb.size
  have B12 := B11.trans (bb.mono B11.size)
  clear bb B11
  clear r7
  go_wp2_with fail
  refine (File_any 3 1 none 0 0 [] w12 (HP.out.2.2.2.2.2.2.on B12) Row.nil (by decide) (by omega) (by omega)).mono ?_
  intro e w13 hh
  obtain ⟨A9, c9, rfl, hc9, -, bb⟩ := hh.out (file_no (by omega)) (show ([] : List Int).length = 0 from rfl)
  clear hh
  replace r1 := r1.on bb bb.size
  replace r2 := r2.on bb bb.size
  replace z5b := z5b.below bb
  replace r6 := r6.on bb bb.size
  have B13 := B12.trans (bb.mono B12.size)
  clear bb B12
  go_wp2_with fail
  obtain ⟨w14, hw14⟩ : ∃ x, x = w13.alloc (.cells #[.int .u8 1, .int .u8 0, .int .u8 0, .int .u8 0, .int .u8 0, .int .u8 1] 5) := ⟨_, rfl⟩
  obtain ⟨gd, hgd⟩ : ∃ x, x = w13.heap.size := ⟨_, rfl⟩
  have bb : Below w13.heap.size w13 w14 := by rw [hw14]; exact (Below.refl _ _).alloc (Nat.le_refl _) _
  have rb : Rd w14 w14.heap.size .u8 (some ⟨gd, 0, none⟩) 6 [1, 0, 0, 0, 0, 1] := by rw [hw14, hgd]; exact Rd.made _ .u8 5 [1, 0, 0, 0, 0, 1] rfl
  rw [← hw14, ← hgd]
  clear hw14 hgd
  replace r1 := r1.on bb bb.size
  replace r2 := r2.on bb bb.size
  replace z5b := z5b.below bb
  replace r6 := r6.on bb bb.size
  have B14 := B13.trans (bb.mono B13.size)
  clear bb B13
  refine Calls.mono (same_self A1 (some ⟨gd, 0, none⟩) 6 c1 6 [1, 0, 0, 0, 0, 1] w14 r1 rb (byt_lit (by decide))) ?_
  rintro e wv ⟨rfl, rfl⟩
  clear rb
  obtain ⟨k0, k1, k2⟩ := z5b.cells
  go_wp2_with fail
  clear k0 k1 k2
  refine Calls.mono (Alike_any 2 1 A2 A6 q c2 d c6 B D w14 (HP.out.2.2.2.2.2.2.on B14) r2 HP.out.2.1.byt hc2 (by omega) r6 HP.out.2.2.2.2.1.byt hc6 (by omega) (by decide) (by decide)) ?_
  intro e w15 hh
  obtain ⟨⟨k, rfl, hk⟩, bb⟩ := hh
  obtain rfl : k = true := hk.same (alike_yes HP.out.2.1 HP.out.2.2.2.2.1)
  clear hk
  replace r1 := r1.on bb bb.size
  replace r2 := r2.on bb bb.size
  replace z5b := z5b.below bb
  replace r6 := r6.on bb bb.size
  have B15 := B14.trans (bb.mono B14.size)
  clear bb B14
  go_wp2_with fail
  refine Calls.mono (Alike_any 1 1 A1 A6 6 c1 d c6 [1, 0, 0, 0, 0, 1] D w15 (HP.out.2.2.2.2.2.2.on B15) r1 (byt_lit (by decide)) hc1 (by omega) r6 HP.out.2.2.2.2.1.byt hc6 (by omega) (by decide) (by decide)) ?_
  intro e w16 hh
  obtain ⟨⟨k, rfl, hk⟩, bb⟩ := hh
  obtain rfl : k = false := hk.same (alike_dif seg_one_one HP.out.2.2.2.2.1 (fun h => by have := h.1; omega))
  clear hk
  replace r1 := r1.on bb bb.size
  replace r2 := r2.on bb bb.size
  replace z5b := z5b.below bb
  replace r6 := r6.on bb bb.size
  have B16 := B15.trans (bb.mono B15.size)
  clear bb B15
  go_wp2_with fail
  refine Calls.mono (Which_any A6 d c6 D w16 (HP.out.2.2.2.2.2.2.on B16) r6 HP.out.2.2.2.2.1.byt hc6 (by omega)) ?_
  intro e w17 hh
  obtain ⟨⟨k, rfl, hk⟩, bb⟩ := hh
  obtain rfl : k = 1 := hk.same (HP.out.2.2.2.2.1.scn.which)
  clear hk
  replace r1 := r1.on bb bb.size
  replace r2 := r2.on bb bb.size
  replace z5b := z5b.below bb
  replace r6 := r6.on bb bb.size
  have B17 := B16.trans (bb.mono B16.size)
  clear bb B16
  go_wp2_with fail
  refine Calls.mono (Which_any A2 q c2 B w17 (HP.out.2.2.2.2.2.2.on B17) r2 HP.out.2.1.byt hc2 (by omega)) ?_
  intro e w18 hh
  obtain ⟨⟨k, rfl, hk⟩, bb⟩ := hh
  obtain rfl : k = 2 := hk.same (HP.out.2.1.scn.which)
  clear hk
  replace r1 := r1.on bb bb.size
  replace r2 := r2.on bb bb.size
  replace z5b := z5b.below bb
  replace r6 := r6.on bb bb.size
  have B18 := B17.trans (bb.mono B17.size)
  clear bb B17
  go_wp2_with fail
  refine Calls.mono (Which_any none 0 0 [] w18 (HP.out.2.2.2.2.2.2.on B18) ⟨rfl, fun h => absurd h (by omega)⟩ (fun _ h => nomatch h) (by omega) (by omega)) ?_
  intro e w19 hh
  obtain ⟨⟨k, rfl, hk⟩, bb⟩ := hh
  obtain rfl : k = 0 := hk.same (.inr (.inr ⟨rfl, no_nil.1, no_nil.2⟩))
  clear hk
  replace r1 := r1.on bb bb.size
  replace r2 := r2.on bb bb.size
  replace z5b := z5b.below bb
  replace r6 := r6.on bb bb.size
  have B19 := B18.trans (bb.mono B18.size)
  clear bb B18
  go_wp2_with fail
  go_ret
  exact ⟨rfl, B19⟩

end Go.Proofs.YtcpdjhkpmaamdaaGreat
