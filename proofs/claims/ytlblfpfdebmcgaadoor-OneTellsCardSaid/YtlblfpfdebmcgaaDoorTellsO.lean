/-
  OneTells: it returns true.
-/
import Derived.Test.YtlblfpfdebmcgaaDoorWakesO
namespace Go.Proofs.YtlblfpfdebmcgaaDoor
open Go.RowKit
set_option linter.unusedVariables false

set_option maxRecDepth 100000 in
set_option maxHeartbeats 4000000 in
theorem tells_law (first : Int) (A : Option Addr) (n c : Nat) (l : List EnP) (A2 : Option Addr) (n2 c2 : Nat) (b : List Int) (w : World) (hT : Cr.Tab w) (hl : Es w w.heap.size A n l) (hr : Rd w w.heap.size .u8 A2 n2 b) (hb : Byt b) (hnc : n2 ≤ c2) :
    Calls Tryd.prog 3 #[.int .i64 first, .slice A n c, .slice A2 n2 c2] w fun e w' => e = .returned (.bool true) ∧ Below w.heap.size w w' := by
  have HL := Lib.hid (⟨hT, hl, hr, hb⟩ : _ ∧ _ ∧ _ ∧ _)
  clear hT hl hr hb
  by_cases hbig : 40 < n ∨ 900 < n2
  · by_cases h1 : 40 < n
    · have t0 : decide ((40 : Int) < (n : Int)) = true := by simp; omega
      go_enter Tryd.func3, Tryd.ntmps3
      go_wp2_with fail
      refine (wakes_true w HL.out.1).mono ?_
      rintro e w1 ⟨rfl, hb1⟩
      go_wp2_with fail
      go_ret
      exact ⟨rfl, hb1⟩
    · have t0 : decide ((40 : Int) < (n : Int)) = false := by simp; omega
      have t1 : decide ((900 : Int) < (n2 : Int)) = true := by simp; omega
      go_enter Tryd.func3, Tryd.ntmps3
      go_wp2_with fail
      refine (wakes_true w HL.out.1).mono ?_
      rintro e w1 ⟨rfl, hb1⟩
      go_wp2_with fail
      go_ret
      exact ⟨rfl, hb1⟩
  have t0 : decide ((40 : Int) < (n : Int)) = false := by simp; omega
  have t1 : decide ((900 : Int) < (n2 : Int)) = false := by simp; omega
  have hn1 : n ≤ 1000000 := by omega
  have hn2 : n2 ≤ 1000000 := by omega
  obtain ⟨L1, e1, hP1⟩ : ∃ L e, headP first = (L, e) := ⟨_, _, rfl⟩
  obtain ⟨L2, e2, hP2⟩ : ∃ L e, putP l = (L, e) := ⟨_, _, rfl⟩
  obtain ⟨L3, e3, hP3⟩ : ∃ L e, fileP first l = (L, e) := ⟨_, _, rfl⟩
  obtain ⟨f4, L4, u4, e4, hP4⟩ : ∃ f L u e, scanP b = (f, L, u, e) := ⟨_, _, _, _, rfl⟩
  have hL1 : Byt L1 := by have h := headP_byt first; rw [hP1] at h; exact h
  have hL2 : Byt L2 := by have h := putP_byt l; rw [hP2] at h; exact h
  have hL3 : Byt L3 := by have h := fileP_byt first l; rw [hP3] at h; exact h
  have hL4 : L4.length ≤ 1000000 := by
    by_cases h0 : headO b = none
    · rw [scanP_none h0] at hP4
      have : L4 = [] := by injection hP4 with _ h; injection h with h _; exact h.symm
      rw [this]; simp
    · obtain ⟨ff, hf⟩ := Option.ne_none_iff_exists'.1 h0
      rw [scanP_some hf] at hP4
      have : L4 = scanL (b.drop 6) := by injection hP4 with _ h; injection h with h _; exact h.symm
      have h2 := scanL_length (b.drop 6)
      rw [List.length_drop, HL.out.2.2.1.1] at h2
      rw [this]; omega
  obtain ⟨q1, hq1⟩ : ∃ q, L1.length = q := ⟨_, rfl⟩
  obtain ⟨q2, hq2⟩ : ∃ q, L2.length = q := ⟨_, rfl⟩
  obtain ⟨q3, hq3⟩ : ∃ q, L3.length = q := ⟨_, rfl⟩
  obtain ⟨q4, hq4⟩ : ∃ q, L4.length = q := ⟨_, rfl⟩
  have HP := Lib.hid (⟨hP1, hP2, hP3, hP4, hL1, hL2, hL3, hL4, hq1, hq2, hq3, hq4⟩ : _ ∧ _ ∧ _ ∧ _ ∧ _ ∧ _ ∧ _ ∧ _ ∧ _ ∧ _ ∧ _ ∧ _)
  clear hP1 hP2 hP3 hP4 hL1 hL2 hL3 hL4 hq1 hq2 hq3 hq4 hbig
  go_enter Tryd.func3, Tryd.ntmps3
  go_wp2_with fail
  refine (head_any first w).mono ?_
  intro e w1 h1
  obtain ⟨A1, c1, rfl, hc1, r1, -, B1⟩ := h1.out HP.out.1 HP.out.2.2.2.2.2.2.2.2.1
  clear h1
  go_wp2_with fail
  refine (rhead_any first w1).mono ?_
  intro e w2 h2
  obtain ⟨A2', c2', rfl, -, r2, -, b2⟩ := h2.out HP.out.1 HP.out.2.2.2.2.2.2.2.2.1
  have B2 := B1.trans (b2.mono B1.size)
  have r1 := r1.on b2 b2.size
  clear h2 b2
  go_wp2_with fail
  refine (put_any A n c l w2 (HL.out.1.on B2) (HL.out.2.1.on B2 B2.size) hn1).mono ?_
  intro e w3 h3
  obtain ⟨A3, c3, rfl, -, r3, -, b3⟩ := h3.out HP.out.2.1 HP.out.2.2.2.2.2.2.2.2.2.1
  have B3 := B2.trans (b3.mono B2.size)
  have r1 := r1.on b3 b3.size
  have r2 := r2.on b3 b3.size
  clear h3 b3
  go_wp2_with fail
  refine (rput_any A n c l w3 (HL.out.2.1.on B3 B3.size) hn1).mono ?_
  intro e w4 h4
  obtain ⟨A4, c4, rfl, -, r4, -, b4⟩ := h4.out HP.out.2.1 HP.out.2.2.2.2.2.2.2.2.2.1
  have B4 := B3.trans (b4.mono B3.size)
  have r1 := r1.on b4 b4.size
  have r2 := r2.on b4 b4.size
  have r3 := r3.on b4 b4.size
  clear h4 b4
  go_wp2_with fail
  have s1 := same_any A1 A2' q1 q1 c1 c2' L1 L1 w4 r1 r2 HP.out.2.2.2.2.1 HP.out.2.2.2.2.1
  rw [Cr.eqB_true rfl] at s1
  refine s1.mono ?_
  rintro e w5 ⟨rfl, rfl⟩
  clear s1 r1 r2
  go_wp2_with fail
  have s2 := same_any A3 A4 q2 q2 c3 c4 L2 L2 w4 r3 r4 HP.out.2.2.2.2.2.1 HP.out.2.2.2.2.2.1
  rw [Cr.eqB_true rfl] at s2
  refine s2.mono ?_
  rintro e w5 ⟨rfl, rfl⟩
  clear s2 r3 r4
  obtain ⟨sz, hsz⟩ : ∃ sz, sz = sizeP first := ⟨_, rfl⟩
  have z1 := size_any first w4
  have z2 := rsize_any first w4
  rw [← hsz] at z1 z2
  clear hsz
  go_wp2_with fail
  refine z1.mono ?_
  rintro e w5 ⟨rfl, rfl⟩
  go_wp2_with fail
  refine z2.mono ?_
  rintro e w5 ⟨rfl, rfl⟩
  clear z1 z2
  go_wp2_with fail
  refine (file_any first A n c l w5 (HL.out.1.on B4) (HL.out.2.1.on B4 B4.size) hn1).mono ?_
  intro e w6 h6
  obtain ⟨A6, c6, rfl, -, r6, -, b6⟩ := h6.out HP.out.2.2.1 HP.out.2.2.2.2.2.2.2.2.2.2.1
  have B6 := B4.trans (b6.mono B4.size)
  clear h6 b6
  go_wp2_with fail
  refine (rfile_any first A n c l w6 (HL.out.2.1.on B6 B6.size) hn1).mono ?_
  intro e w7 h7
  obtain ⟨A7, c7, rfl, -, r7, -, b7⟩ := h7.out HP.out.2.2.1 HP.out.2.2.2.2.2.2.2.2.2.2.1
  have B7 := B6.trans (b7.mono B6.size)
  have r6 := r6.on b7 b7.size
  clear h7 b7
  go_wp2_with fail
  refine (scan_any A2 n2 c2 b w7 (HL.out.1.on B7) (HL.out.2.2.1.on B7 B7.size) HL.out.2.2.2 hnc (by omega)).mono ?_
  intro e w8 h8
  obtain ⟨A8, c8, rfl, -, s8, b8⟩ := h8.out HP.out.2.2.2.1 HP.out.2.2.2.2.2.2.2.2.2.2.2
  have B8 := B7.trans (b8.mono B7.size)
  have r6 := r6.on b8 b8.size
  have r7 := r7.on b8 b8.size
  clear h8 b8
  go_wp2_with fail
  obtain ⟨w9, hw9⟩ : ∃ w9, w9 = w8.alloc (.cells #[.int .i64 f4, .slice A8 q4 c8, .int .i64 u4] 33) := ⟨_, rfl⟩
  obtain ⟨z, hz⟩ : ∃ z, z = w8.heap.size := ⟨_, rfl⟩
  have b9 : Below w8.heap.size w8 w9 := by rw [hw9]; exact (Below.refl _ _).alloc (Nat.le_refl _) _
  have bz9 : BoxC w9 z f4 (.slice A8 q4 c8) u4 := by rw [hw9, hz]; exact BoxC.new _ _ _ _
  have B9 := B8.trans (b9.mono B8.size)
  have r6 := r6.on b9 b9.size
  have r7 := r7.on b9 b9.size
  have s8 := s8.on b9 b9.size
  rw [← hw9, ← hz]
  clear hw9 hz b9
  refine (rscan_any A2 n2 c2 b w9 (HL.out.2.2.1.on B9 B9.size) HL.out.2.2.2 hnc hn2).mono ?_
  intro e wa ha
  obtain ⟨Aa, ca, rfl, -, sa, ba⟩ := ha.out HP.out.2.2.2.1 HP.out.2.2.2.2.2.2.2.2.2.2.2
  have Ba := B9.trans (ba.mono B9.size)
  have r6 := r6.on ba ba.size
  have r7 := r7.on ba ba.size
  have s8 := s8.on ba ba.size
  have bza := bz9.below ba
  clear ha ba bz9
  obtain ⟨wb, hwb⟩ : ∃ wb, wb = wa.alloc (.cells #[.int .i64 f4, .slice Aa q4 ca, .int .i64 u4] 33) := ⟨_, rfl⟩
  obtain ⟨y, hy⟩ : ∃ y, y = wa.heap.size := ⟨_, rfl⟩
  have bb : Below wa.heap.size wa wb := by rw [hwb]; exact (Below.refl _ _).alloc (Nat.le_refl _) _
  have byb : BoxC wb y f4 (.slice Aa q4 ca) u4 := by rw [hwb, hy]; exact BoxC.new _ _ _ _
  have Bb := Ba.trans (bb.mono Ba.size)
  have r6 := r6.on bb bb.size
  have r7 := r7.on bb bb.size
  have s8 := s8.on bb bb.size
  have sa := sa.on bb bb.size
  have bzb := bza.below bb
  have Hw := Lib.hid (⟨hwb, hy⟩ : _ ∧ _)
  clear hwb hy bb bza
  go_wp2_with fail
  rw [← Hw.out.1, ← Hw.out.2]
  have s3 := same_any A6 A7 q3 q3 c6 c7 L3 L3 wb r6 r7 HP.out.2.2.2.2.2.2.1 HP.out.2.2.2.2.2.2.1
  rw [Cr.eqB_true rfl] at s3
  refine s3.mono ?_
  rintro e w5' ⟨rfl, rfl⟩
  obtain ⟨d0, d1, d2⟩ := bzb.cells
  obtain ⟨k0, k1, k2⟩ := byb.cells
  clear s3 r6 r7
  go_wp2_with fail
  refine (same7_any A8 Aa q4 c8 ca L4 f4 u4 wb s8 sa (by have := HP.out.2.2.2.2.2.2.2.1; have := HP.out.2.2.2.2.2.2.2.2.2.2.2; omega)).mono ?_
  rintro e wc ⟨rfl, bc⟩
  have Bc := Bb.trans (bc.mono Bb.size)
  clear d0 d1 d2 k0 k1 k2 bc
  go_wp2_with fail
  refine (wakes_true wc (HL.out.1.on Bc)).mono ?_
  rintro e wd ⟨rfl, bd⟩
  go_wp2_with fail
  go_ret
  exact ⟨rfl, Bc.trans (bd.mono Bc.size)⟩

end Go.Proofs.YtlblfpfdebmcgaaDoor
