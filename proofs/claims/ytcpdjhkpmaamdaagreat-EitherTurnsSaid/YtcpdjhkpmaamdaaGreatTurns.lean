/-
  EitherTurns: it returns true.
-/
import Derived.Test.YtcpdjhkpmaamdaaGreatWakes
namespace Go.Proofs.YtcpdjhkpmaamdaaGreat
open Go.RowKit
set_option linter.unusedVariables false

set_option maxRecDepth 100000 in
set_option maxHeartbeats 8000000 in
theorem turns_law [Inhabited Cr.Rows16] (first : Int) (A : Option Addr) (n c : Nat) (l : List EnP) (t t' : Int) (w : World) (hT : Cr.Tab w) (hl : Es w w.heap.size A n l) (hnc : n ≤ c) (ht : (Lit.int .i64 t).wf = true) (ht' : (Lit.int .i64 t').wf = true) :
    Calls Tryz.prog 4 #[.int .i64 first, .slice A n c, .int .i64 t, .int .i64 t'] w fun e w' => e = .returned (.bool true) ∧ Below w.heap.size w w' := by
  have B0 := Below.refl w.heap.size w
  have HT := Lib.hid hT
  have HL := Lib.hid (⟨hl.len, ht, ht'⟩ : _ ∧ _ ∧ _)
  clear hT ht ht'
  by_cases hc0 : first < (1 : Int)
  · have t0 : decide (first < (1 : Int)) = true := by simp; omega
    go_enter Tryz.func4, Tryz.ntmps4
    go_wp2_with fail
    refine (wakes_true w HT.out).mono ?_
    rintro e w1 ⟨rfl, hb1⟩
    go_wp2_with fail
    go_ret
    exact ⟨rfl, hb1⟩
  have t0 : decide (first < (1 : Int)) = false := by simp; omega
  have t0n : (1 : Int) ≤ first := by omega
  clear hc0
  by_cases hc0 : (1073741824 : Int) < first
  · have t1 : decide ((1073741824 : Int) < first) = true := by simp; omega
    go_enter Tryz.func4, Tryz.ntmps4
    go_wp2_with fail
    refine (wakes_true w HT.out).mono ?_
    rintro e w1 ⟨rfl, hb1⟩
    go_wp2_with fail
    go_ret
    exact ⟨rfl, hb1⟩
  have t1 : decide ((1073741824 : Int) < first) = false := by simp; omega
  have t1n : first ≤ (1073741824 : Int) := by omega
  clear hc0
  by_cases hc0 : 30 < n
  · have t2 : decide ((30 : Int) < (n : Int)) = true := by simp; omega
    go_enter Tryz.func4, Tryz.ntmps4
    go_wp2_with fail
    refine (wakes_true w HT.out).mono ?_
    rintro e w1 ⟨rfl, hb1⟩
    go_wp2_with fail
    go_ret
    exact ⟨rfl, hb1⟩
  have t2 : decide ((30 : Int) < (n : Int)) = false := by simp; omega
  have t2n : n ≤ 30 := by omega
  clear hc0
  by_cases hc0 : t < (1 : Int)
  · have t3 : decide (t < (1 : Int)) = true := by simp; omega
    go_enter Tryz.func4, Tryz.ntmps4
    go_wp2_with fail
    refine (wakes_true w HT.out).mono ?_
    rintro e w1 ⟨rfl, hb1⟩
    go_wp2_with fail
    go_ret
    exact ⟨rfl, hb1⟩
  have t3 : decide (t < (1 : Int)) = false := by simp; omega
  have t3n : (1 : Int) ≤ t := by omega
  clear hc0
  by_cases hc0 : (2 : Int) < t
  · have t4 : decide ((2 : Int) < t) = true := by simp; omega
    go_enter Tryz.func4, Tryz.ntmps4
    go_wp2_with fail
    refine (wakes_true w HT.out).mono ?_
    rintro e w1 ⟨rfl, hb1⟩
    go_wp2_with fail
    go_ret
    exact ⟨rfl, hb1⟩
  have t4 : decide ((2 : Int) < t) = false := by simp; omega
  have t4n : t ≤ (2 : Int) := by omega
  clear hc0
  by_cases hc0 : t' < (1 : Int)
  · have t5 : decide (t' < (1 : Int)) = true := by simp; omega
    go_enter Tryz.func4, Tryz.ntmps4
    go_wp2_with fail
    refine (wakes_true w HT.out).mono ?_
    rintro e w1 ⟨rfl, hb1⟩
    go_wp2_with fail
    go_ret
    exact ⟨rfl, hb1⟩
  have t5 : decide (t' < (1 : Int)) = false := by simp; omega
  have t5n : (1 : Int) ≤ t' := by omega
  clear hc0
  by_cases hc0 : (2 : Int) < t'
  · have t6 : decide ((2 : Int) < t') = true := by simp; omega
    go_enter Tryz.func4, Tryz.ntmps4
    go_wp2_with fail
    refine (wakes_true w HT.out).mono ?_
    rintro e w1 ⟨rfl, hb1⟩
    go_wp2_with fail
    go_ret
    exact ⟨rfl, hb1⟩
  have t6 : decide ((2 : Int) < t') = false := by simp; omega
  have t6n : t' ≤ (2 : Int) := by omega
  clear hc0
  have Hf := Lib.hid (show (1 ≤ first ∧ first ≤ 1073741824) ∧ FmtE t ∧ FmtE t' from ⟨⟨t0n, t1n⟩, by unfold FmtE; omega, by unfold FmtE; omega⟩)
  go_enter Tryz.func4, Tryz.ntmps4
  have Hes := Lib.hid (⟨hl, hl.len⟩ : _ ∧ _)
  clear hl
  go_wp2_with fail
  go_loopw [9] (fun i wr => ∃ k : Nat, k ≤ n ∧ i = .int .i64 k ∧ allR ((l).take k) = true ∧ Below w.heap.size w wr) (fun i _ => (n) - (intOf i).toNat)
  case atStart => exact ⟨0, Nat.zero_le _, rfl, rfl, Below.refl _ _⟩
  obtain ⟨k, hk, rfl, hak, hB⟩ := hrel
  have HB := Lib.hid (⟨hB, hak⟩ : _ ∧ _)
  by_cases hlt : k < n
  · obtain ⟨b, off, e, hAe, hbl, he, c0, c1, c2⟩ := (Hes.out.1.on hB hB.size).at_ hlt
    subst hAe
    have HE := Lib.hid he
    clear hB hak he
    cases hre : rightB e
    · go_wp2_with fail
      refine (rright_any e _).mono ?_
      rintro r w1 ⟨rfl, hb1⟩
      rw [hre]
      have H1 := Lib.hid (B0.trans ((HB.out.1.trans (hb1.mono HB.out.1.size)).mono B0.size))
      clear hb1 c0 c1 c2 hre
      go_wp2_with fail
      refine (wakes_true w1 (HT.out.on H1.out)).mono ?_
      rintro e w2 ⟨rfl, hb2⟩
      go_wp2_with fail
      go_ret
      exact ⟨rfl, H1.out.trans (hb2.mono H1.out.size)⟩
    · have Hr := Lib.hid hre
      go_wp2_with fail
      refine (rright_any e _).mono ?_
      rintro r w1 ⟨rfl, hb1⟩
      rw [hre]
      have H1 := Lib.hid (HB.out.1.trans (hb1.mono HB.out.1.size))
      clear hb1 c0 c1 c2 hre
      go_wp2_with fail
      go_roundw
      case rel => exact ⟨k + 1, by omega, by go_num, by rw [take_succ HE.out, allR_append, HB.out.2]; simp [allR, Hr.out], H1.out⟩
      case measure => simp [intOf]; omega
  obtain rfl : n = k := by omega
  have ha : allR (l) = true := by have h := HB.out.2; rwa [List.take_of_length_le (by rw [Hes.out.2]; exact Nat.le_refl _)] at h
  replace Hes := Hes.out.1
  have bb := HB.out.1
  clear hlt hk hak hB HB
  replace Hes := Hes.on bb bb.size
  have B1 := B0.trans (bb.mono B0.size)
  clear bb B0
  clear t0 t1 t2 t3 t4 t5 t6
  obtain ⟨B, C, q, r, hq, hr, hB, hC, hSB, hSC, hBq, hCr, hno, hsc, hsame⟩ := turns10 Hf.out.2.1 Hf.out.2.2 Hf.out.1 (allR_iff.1 ha) HL.out.1 t2n
  have HP := Lib.hid (⟨hB, hC, hSB, hSC, hBq, hCr, hno, hsc, hsame⟩ : _ ∧ _ ∧ _ ∧ _ ∧ _ ∧ _ ∧ _ ∧ _ ∧ _)
  have HA := Lib.hid (allR_iff.1 ha)
  have hw3 : IntKind.i64.wrap (3 - t) = 3 - t := by rw [IntKind.wrap_i64]; omega
  have h3t : (Lit.int .i64 (3 - t)).wf = true := by simp only [Lit.wf, Bool.and_eq_true, decide_eq_true_eq]; constructor <;> (simp [IntKind.min, IntKind.max, IntKind.bits, IntKind.signed]; omega)
  clear hB hC hSB hSC hBq hCr hno hsc hsame ha
  go_wp2_with fail
  refine (File_any t first A n c l wr (HT.out.on B1) Hes HL.out.2.1 hnc (by omega)).mono ?_
  intro e w2 hh
  obtain ⟨A1, c1, rfl, hc1, r1, bb⟩ := hh.out HP.out.1 HP.out.2.2.2.2.1
  (try clear hh)
  replace Hes := Hes.on bb bb.size
  have B2 := B1.trans (bb.mono B1.size)
  clear bb B1
  go_wp2_with fail
  refine Calls.mono (ETurn_any t t' A1 q c1 B w2 (HT.out.on B2) r1 HP.out.2.2.1.byt hc1 (by omega) HL.out.2.1 HL.out.2.2) ?_
  intro e w3 hh
  obtain ⟨R, hR, hh⟩ := hh
  obtain ⟨A2, c2, rfl, hc2, r2, bb⟩ := hh.out ((turn_file Hf.out.1 HA.out Hf.out.2.1 Hf.out.2.2 HP.out.2.2.1 hR).trans HP.out.2.1) HP.out.2.2.2.2.2.1
  clear hh hR
  replace Hes := Hes.on bb bb.size
  replace r1 := r1.on bb bb.size
  have B3 := B2.trans (bb.mono B2.size)
  clear bb B2
  go_wp2_with fail
  refine Calls.mono (ETurn_any t' t A2 r c2 C w3 (HT.out.on B3) r2 HP.out.2.2.2.1.byt hc2 (by omega) HL.out.2.2 HL.out.2.1) ?_
  intro e w4 hh
  obtain ⟨R, hR, hh⟩ := hh
  obtain ⟨A3, c3, rfl, hc3, r3, bb⟩ := hh.out ((turn_file Hf.out.1 HA.out Hf.out.2.2 Hf.out.2.1 HP.out.2.2.2.1 hR).trans HP.out.1) HP.out.2.2.2.2.1
  clear hh hR
  replace Hes := Hes.on bb bb.size
  replace r1 := r1.on bb bb.size
  replace r2 := r2.on bb bb.size
  have B4 := B3.trans (bb.mono B3.size)
  clear bb B3
  go_wp2_with fail
  refine (EScan_any t' A2 r c2 C w4 (HT.out.on B4) r2 HP.out.2.2.2.1.byt hc2 (by omega) HL.out.2.2).mono ?_
  intro e w5 hh
  obtain ⟨A4, c4, rfl, hc4, e4, bb⟩ := hh.yes HP.out.2.2.2.2.2.2.2.1 HL.out.1
  (try clear hh)
  replace Hes := Hes.on bb bb.size
  replace r1 := r1.on bb bb.size
  replace r2 := r2.on bb bb.size
  replace r3 := r3.on bb bb.size
  have B5 := B4.trans (bb.mono B4.size)
  clear bb B4
  obtain ⟨w6, hw6⟩ : ∃ x, x = w5.alloc (.cells #[.int .i64 first, .slice A4 n c4, .int .i64 (r : Int)] 29) := ⟨_, rfl⟩
  obtain ⟨z, hz⟩ : ∃ x, x = w5.heap.size := ⟨_, rfl⟩
  have bb : Below w5.heap.size w5 w6 := by rw [hw6]; exact (Below.refl _ _).alloc (Nat.le_refl _) _
  have zb : BoxC w6 z first (.slice A4 n c4) (r : Int) := by rw [hw6, hz]; exact BoxC.new _ _ _ _
  have sz : z + 1 = w6.heap.size := by rw [hw6, hz]; simp
  go_wp2_with fail
  rw [← hw6, ← hz]
  clear hw6 hz
  replace Hes := Hes.on bb bb.size
  replace r1 := r1.on bb bb.size
  replace r2 := r2.on bb bb.size
  replace r3 := r3.on bb bb.size
  replace e4 := e4.on bb bb.size
  have B6 := B5.trans (bb.mono B5.size)
  clear bb B5
  refine (EScan_any (3 - t) A1 q c1 B w6 (HT.out.on B6) r1 HP.out.2.2.1.byt hc1 (by omega) h3t).mono ?_
  intro e w7 hh
  obtain ⟨A5, c5, rfl, bb⟩ := hh.no HP.out.2.2.2.2.2.2.1
  (try clear hh)
  replace Hes := Hes.on bb bb.size
  replace r1 := r1.on bb bb.size
  replace r2 := r2.on bb bb.size
  replace r3 := r3.on bb bb.size
  replace e4 := e4.on bb bb.size
  replace zb := zb.below bb
  have B7 := B6.trans (bb.mono B6.size)
  clear bb B6
  obtain ⟨k0, k1, k2⟩ := zb.cells
  go_wp2_with fail
  clear k0 k1 k2
  obtain ⟨w8, hw8⟩ : ∃ x, x = w7.alloc (.cells #[.int .i64 0, .slice A5 0 c5, .int .i64 0] 29) := ⟨_, rfl⟩
  obtain ⟨z5, hz5⟩ : ∃ x, x = w7.heap.size := ⟨_, rfl⟩
  have bb : Below w7.heap.size w7 w8 := by rw [hw8]; exact (Below.refl _ _).alloc (Nat.le_refl _) _
  rw [← hw8, ← hz5]
  clear hw8 hz5
  replace Hes := Hes.on bb bb.size
  replace r1 := r1.on bb bb.size
  replace r2 := r2.on bb bb.size
  replace r3 := r3.on bb bb.size
  replace e4 := e4.on bb bb.size
  replace zb := zb.below bb
  have B8 := B7.trans (bb.mono B7.size)
  clear bb B7
  refine Calls.mono (same_self A1 A3 q c1 c3 B w8 r1 r3 HP.out.2.2.1.byt) ?_
  rintro e wv ⟨rfl, rfl⟩
  obtain ⟨k0, k1, k2⟩ := zb.cells
  go_wp2_with fail
  clear k0 k1 k2
  refine (ents_self A4 A n c4 c l w8 e4 Hes (by omega)).mono ?_
  intro e w9 hh
  obtain ⟨rfl, bb⟩ := hh
  (try clear hh)
  replace Hes := Hes.on bb bb.size
  replace r1 := r1.on bb bb.size
  replace r2 := r2.on bb bb.size
  replace r3 := r3.on bb bb.size
  replace e4 := e4.on bb bb.size
  replace zb := zb.below bb
  have B9 := B8.trans (bb.mono B8.size)
  clear bb B8
  go_wp2_with fail
  refine Calls.mono (Which_any A2 r c2 C w9 (HT.out.on B9) r2 HP.out.2.2.2.1.byt hc2 (by omega)) ?_
  intro e w10 hh
  obtain ⟨⟨k, hke, hk⟩, bb⟩ := hh
  rw [show k = t' from hk.same (HP.out.2.2.2.1.scn.which)] at hke
  subst hke
  clear hk
  replace Hes := Hes.on bb bb.size
  replace r1 := r1.on bb bb.size
  replace r2 := r2.on bb bb.size
  replace r3 := r3.on bb bb.size
  replace e4 := e4.on bb bb.size
  replace zb := zb.below bb
  have B10 := B9.trans (bb.mono B9.size)
  clear bb B9
  go_wp2_with fail
  refine Calls.mono (Alike_any t t' A1 A2 q c1 r c2 B C w10 (HT.out.on B10) r1 HP.out.2.2.1.byt hc1 (by omega) r2 HP.out.2.2.2.1.byt hc2 (by omega) HL.out.2.1 HL.out.2.2) ?_
  intro e w11 hh
  obtain ⟨⟨k, hke, hk⟩, bb⟩ := hh
  rw [show k = true from hk.same (alike_yes HP.out.2.2.1 HP.out.2.2.2.1)] at hke
  subst hke
  clear hk
  replace Hes := Hes.on bb bb.size
  replace r1 := r1.on bb bb.size
  replace r2 := r2.on bb bb.size
  replace r3 := r3.on bb bb.size
  replace e4 := e4.on bb bb.size
  replace zb := zb.below bb
  have B11 := B10.trans (bb.mono B10.size)
  clear bb B10
  by_cases htt : t = t'
  · have q0 : (t != t') = false := by simp [htt]
    have Hq := Lib.hid htt
    clear htt
    go_wp2_with fail
    refine Calls.mono (same_any A1 A2 q r c1 c2 B C w11 r1 r2 HP.out.2.2.1.byt HP.out.2.2.2.1.byt) ?_
    rintro e wv ⟨rfl, rfl⟩
    rw [Cr.eqB_true (HP.out.2.2.2.2.2.2.2.2 Hq.out).1]
    go_wp2_with fail
    refine (wakes_true w11 (HT.out.on B11)).mono ?_
    intro e w12 hh
    obtain ⟨rfl, bb⟩ := hh
    (try clear hh)
    replace Hes := Hes.on bb bb.size
    replace r1 := r1.on bb bb.size
    replace r2 := r2.on bb bb.size
    replace r3 := r3.on bb bb.size
    replace e4 := e4.on bb bb.size
    replace zb := zb.below bb
    have B12 := B11.trans (bb.mono B11.size)
    clear bb B11
    go_wp2_with fail
    go_ret
    exact ⟨rfl, B12⟩
  · have q0 : (t != t') = true := by simpa using htt
    clear htt
    go_wp2_with fail
    refine (wakes_true w11 (HT.out.on B11)).mono ?_
    intro e w12 hh
    obtain ⟨rfl, bb⟩ := hh
    (try clear hh)
    replace Hes := Hes.on bb bb.size
    replace r1 := r1.on bb bb.size
    replace r2 := r2.on bb bb.size
    replace r3 := r3.on bb bb.size
    replace e4 := e4.on bb bb.size
    replace zb := zb.below bb
    have B12 := B11.trans (bb.mono B11.size)
    clear bb B11
    go_wp2_with fail
    go_ret
    exact ⟨rfl, B12⟩

end Go.Proofs.YtcpdjhkpmaamdaaGreat
