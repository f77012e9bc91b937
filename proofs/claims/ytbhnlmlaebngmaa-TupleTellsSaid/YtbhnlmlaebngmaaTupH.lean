/-
  Package tuple: the steps of Cut, Save, Install: their contracts.
-/
import Derived.Test.YtbhnlmlaebngmaaTupG
namespace Go.Proofs.Ytbhnlmlaebngmaa
open Go.RowKit Go.Shelf
set_option linter.unusedVariables false
set_option linter.unusedSimpArgs false
theorem may_ix {t : TupP} (h : MayT t) : 0 ≤ t.sn.ix ∧ t.sn.ix ≤ 1073740824 := by
  have h1 := h.fine
  unfold FineP at h1
  exact ⟨h1.1.1, h.ix⟩
theorem may_mid {t : TupP} (h : MayT t) : Mid t.sn.ix := by have := may_ix h; unfold Mid; omega
set_option maxRecDepth 100000 in
set_option maxHeartbeats 8000000 in
theorem step_cut0 (t : TupP) (i : Int) (zi : Nat) (w0 : World) (bi : BoxV w0 zi 3 (.int .i64 i)) (c1 : i ≤ t.sn.ix) :
    StepIs 43 #[.pointer (some ⟨zi, 0, none⟩)] t (cutT t i) (t.sn.ix < i ∧ i ≤ lastT t + 1) w0 := by
  intro hM B1 w A n c hB hBw hw own hnc
  have hn : n ≤ 200 := by have := hM.few; have := own_len own; omega
  have hl := own_len own
  have hx := may_ix hM
  have hm := may_mid hM
  replace bi := bi.below hw
  have hzl : zi < w.heap.size := bi.lt
  have HI := Lib.hid hzl
  have HB := Lib.hid (⟨hBw, hnc, hn, hx, hm, hl⟩ : _ ∧ _ ∧ _ ∧ _ ∧ _ ∧ _)
  clear hw hB hM hBw hn hl hx hm hnc hzl
  have HC := Lib.hid (show ¬ (t.sn.ix < i ∧ i ≤ lastT t + 1) by omega)
  have q0 : decide (t.sn.ix < i) = false := decide_eq_false (by omega)
  clear c1
  obtain ⟨z1, hz1⟩ : ∃ z, z = w.heap.size := ⟨_, rfl⟩
  obtain ⟨w1, hw1⟩ : ∃ x, x = w.alloc (.cells #[.int .i64 t.sn.ix, .int .i64 t.sn.tm, .int .i64 t.sn.sm, .int .i64 t.sn.lv, .bool t.sn.fn, .slice A n c, .int .i64 t.tm, .int .i64 t.vt] 26) := ⟨_, rfl⟩
  have bb : Below w.heap.size w w1 := by rw [hw1]; exact below_al (below_d0 _) _
  have bz : BoxU w1 z1 t (.slice A n c) := by rw [hw1, hz1]; exact BoxU.new w t _
  replace own := own_keep own bb
  replace bi := bi.below bb
  have B1 := bb
  clear bb
  obtain ⟨z2, hz2⟩ : ∃ z, z = w1.heap.size := ⟨_, rfl⟩
  obtain ⟨w2, hw2⟩ : ∃ x, x = w1.alloc (.cells #[.int .i64 0, .int .i64 0, .int .i64 0, .int .i64 0, .bool false, .slice none 0 0, .int .i64 0, .int .i64 0] 26) := ⟨_, rfl⟩
  have bb : Below w1.heap.size w1 w2 := by rw [hw2]; exact below_al (below_d0 _) _
  have br : BoxU w2 z2 noneT (.slice none 0 0) := by rw [hw2, hz2]; exact BoxU.new w1 noneT _
  replace own := own_keep own bb
  replace bi := bi.below bb
  replace bz := bz.below bb
  have B2 := B1.trans (bb.mono B1.size)
  clear bb B1
  have hp2 : z1 + 1 = z2 := by rw [hz2, hw1, hz1]; simp
  have lz2 : w.heap.size ≤ z2 := by omega
  have ne12 : z1 ≠ z2 := by omega
  have HZZ1 := Lib.hid (show w.heap.size ≤ z1 by omega)
  have HE := Lib.hid (⟨hw1, hw2, hz1, hp2⟩ : _ ∧ _ ∧ _ ∧ _)
  have HLZ := Lib.hid lz2
  clear hw1 hz1 hw2 hz2 hp2 lz2
  unfold tupV
  show Calls Try.prog 43 #[.agg #[.int .i64 t.sn.ix, .int .i64 t.sn.tm, .int .i64 t.sn.sm, .int .i64 t.sn.lv, .bool t.sn.fn, .slice A n c, .int .i64 t.tm, .int .i64 t.vt], .pointer (some ⟨zi, 0, none⟩)] w _
  go_enter Try.func43, Try.ntmps43
  go_upto_region 1 with fail
  rw [← HE.out.1, ← HE.out.2.1, ← HE.out.2.2.1]
  (try rw [HE.out.2.2.2])
  clear HE
  have HZ1 := Lib.hid (show B1 ≤ z1 ∧ B1 ≤ z2 by have := HZZ1.out; have := HLZ.out; have := HB.out.1; omega)
  have HN := Lib.hid (show zi ≠ z1 by have := HZZ1.out; have := HI.out; omega)
  have BB : Below B1 w w2 := B2.mono HB.out.1
  clear B2
  have hDb : BoxU w2.drew z1 t (.slice A n c) ∧ BoxV w2.drew zi 3 (.int .i64 i) := ⟨bz, bi⟩
  have kbn : Below w2.heap.size w2 w2.drew := (Below.refl _ _).drew
  refine wp_region_held_drew (S := (fun X => BoxU X z1 t (.slice A n c) ∧ BoxV X zi 3 (.int .i64 i))) (by kernel_rfl) hDb (fun hHeld => ?_)
  refine take_at (i := 0) (d := 4) (oi := ?o1) (v := ?v1) ?hi1 ?hd1 (by kernel_rfl) (by kernel_rfl) (by kernel_rfl) ?hw1 ?hy1 ?hq1 (by assumption) ?r1
  case hi1 => (simp only [List.getElem?_toArray, List.getElem?_cons_zero]; rfl)
  case hd1 => rfl
  case hw1 => rfl
  case hy1 => ((intro w hSw; (try dsimp only at hSw); obtain ⟨⟨s0, s1, s2, s3, s4, s5, s6, s7⟩, s8⟩ : _ ∧ _ := ⟨BoxU.cells hSw.1, BoxV.cell hSw.2⟩; go_simp) <;> (with_reducible rfl))
  case hq1 => exact fun _ _ _ h => h
  simp only [List.set_cons_succ, List.set_cons_zero]
  refine take_at (i := 1) (d := 5) (oi := ?o2) (v := ?v2) ?hi2 ?hd2 (by kernel_rfl) (by kernel_rfl) (by kernel_rfl) ?hw2 ?hy2 ?hq2 (by assumption) ?r2
  case hi2 => (simp only [List.getElem?_toArray, List.getElem?_cons_succ, List.getElem?_cons_zero]; rfl)
  case hd2 => rfl
  case hw2 => rfl
  case hy2 => ((intro w hSw; (try dsimp only at hSw); obtain ⟨⟨s0, s1, s2, s3, s4, s5, s6, s7⟩, s8⟩ : _ ∧ _ := ⟨BoxU.cells hSw.1, BoxV.cell hSw.2⟩; go_simp) <;> (with_reducible rfl))
  case hq2 => exact fun _ _ _ h => h
  simp only [List.set_cons_succ, List.set_cons_zero]
  refine take_at (i := 2) (d := 6) (oi := ?o3) (v := ?v3) ?hi3 ?hd3 (by kernel_rfl) (by kernel_rfl) (by kernel_rfl) ?hw3 ?hy3 ?hq3 (by assumption) ?r3
  case hi3 => (simp only [List.getElem?_toArray, List.getElem?_cons_succ, List.getElem?_cons_zero]; rfl)
  case hd3 => rfl
  case hw3 => rfl
  case hy3 => ((intro w hSw; (try dsimp only at hSw); obtain ⟨⟨s0, s1, s2, s3, s4, s5, s6, s7⟩, s8⟩ : _ ∧ _ := ⟨BoxU.cells hSw.1, BoxV.cell hSw.2⟩; go_simp) <;> (with_reducible rfl))
  case hq3 => exact fun _ _ _ h => h
  simp only [List.set_cons_succ, List.set_cons_zero]
  refine take_at (i := 3) (d := 7) (oi := ?o4) (v := ?v4) ?hi4 ?hd4 (by kernel_rfl) (by kernel_rfl) (by kernel_rfl) ?hw4 ?hy4 ?hq4 (by assumption) ?r4
  case hi4 => (simp only [List.getElem?_toArray, List.getElem?_cons_succ, List.getElem?_cons_zero]; rfl)
  case hd4 => rfl
  case hw4 => rfl
  case hy4 => ((intro w hSw; (try dsimp only at hSw); obtain ⟨⟨s0, s1, s2, s3, s4, s5, s6, s7⟩, s8⟩ : _ ∧ _ := ⟨BoxU.cells hSw.1, BoxV.cell hSw.2⟩; go_simp) <;> (with_reducible rfl))
  case hq4 => exact fun _ _ _ h => h
  simp only [List.set_cons_succ, List.set_cons_zero]
  refine take_at (i := 4) (d := 8) (oi := ?o5) (v := ?v5) ?hi5 ?hd5 (by kernel_rfl) (by kernel_rfl) (by kernel_rfl) ?hw5 ?hy5 ?hq5 (by assumption) ?r5
  case hi5 => (simp only [List.getElem?_toArray, List.getElem?_cons_succ, List.getElem?_cons_zero]; rfl)
  case hd5 => rfl
  case hw5 => rfl
  case hy5 => ((intro w hSw; (try dsimp only at hSw); obtain ⟨⟨s0, s1, s2, s3, s4, s5, s6, s7⟩, s8⟩ : _ ∧ _ := ⟨BoxU.cells hSw.1, BoxV.cell hSw.2⟩; go_simp) <;> (with_reducible rfl))
  case hq5 => exact fun _ _ _ h => h
  simp only [List.set_cons_succ, List.set_cons_zero]
  refine take_at (i := 5) (d := 9) (oi := ?o6) (v := ?v6) ?hi6 ?hd6 (by kernel_rfl) (by kernel_rfl) (by kernel_rfl) ?hw6 ?hy6 ?hq6 (by assumption) ?r6
  case hi6 => (simp only [List.getElem?_toArray, List.getElem?_cons_succ, List.getElem?_cons_zero]; rfl)
  case hd6 => rfl
  case hw6 => rfl
  case hy6 => ((intro w hSw; (try dsimp only at hSw); obtain ⟨⟨s0, s1, s2, s3, s4, s5, s6, s7⟩, s8⟩ : _ ∧ _ := ⟨BoxU.cells hSw.1, BoxV.cell hSw.2⟩; go_simp) <;> (with_reducible rfl))
  case hq6 => exact fun _ _ _ h => h
  simp only [List.set_cons_succ, List.set_cons_zero]
  refine skip_at (i := 6) (d := 10) (oi := ?o7) ?hi7 ?hd7 (by kernel_rfl) (by kernel_rfl) (by kernel_rfl) ?hw7 ?hq7 (by assumption) ?r7
  case hi7 => (simp only [List.getElem?_toArray, List.getElem?_cons_succ, List.getElem?_cons_zero]; rfl)
  case hd7 => rfl
  case hw7 => rfl
  case hq7 => exact fun _ _ _ h => h
  simp only [List.set_cons_succ, List.set_cons_zero]
  refine skip_at (i := 7) (d := 11) (oi := ?o8) ?hi8 ?hd8 (by kernel_rfl) (by kernel_rfl) (by kernel_rfl) ?hw8 ?hq8 (by assumption) ?r8
  case hi8 => (simp only [List.getElem?_toArray, List.getElem?_cons_succ, List.getElem?_cons_zero]; rfl)
  case hd8 => rfl
  case hw8 => rfl
  case hq8 => exact fun _ _ _ h => h
  simp only [List.set_cons_succ, List.set_cons_zero]
  refine skip_at (i := 8) (d := 12) (oi := ?o9) ?hi9 ?hd9 (by kernel_rfl) (by kernel_rfl) (by kernel_rfl) ?hw9 ?hq9 (by assumption) ?r9
  case hi9 => (simp only [List.getElem?_toArray, List.getElem?_cons_succ, List.getElem?_cons_zero]; rfl)
  case hd9 => rfl
  case hw9 => rfl
  case hq9 => exact fun _ _ _ h => h
  simp only [List.set_cons_succ, List.set_cons_zero]
  refine skip_at (i := 9) (d := 13) (oi := ?o10) ?hi10 ?hd10 (by kernel_rfl) (by kernel_rfl) (by kernel_rfl) ?hw10 ?hq10 (by assumption) ?r10
  case hi10 => (simp only [List.getElem?_toArray, List.getElem?_cons_succ, List.getElem?_cons_zero]; rfl)
  case hd10 => rfl
  case hw10 => rfl
  case hq10 => exact fun _ _ _ h => h
  simp only [List.set_cons_succ, List.set_cons_zero]
  refine skip_at (i := 10) (d := 14) (oi := ?o11) ?hi11 ?hd11 (by kernel_rfl) (by kernel_rfl) (by kernel_rfl) ?hw11 ?hq11 (by assumption) ?r11
  case hi11 => (simp only [List.getElem?_toArray, List.getElem?_cons_succ, List.getElem?_cons_zero]; rfl)
  case hd11 => rfl
  case hw11 => rfl
  case hq11 => exact fun _ _ _ h => h
  simp only [List.set_cons_succ, List.set_cons_zero]
  refine take_at (i := 11) (d := 15) (oi := ?o12) (v := ?v12) ?hi12 ?hd12 (by kernel_rfl) (by kernel_rfl) (by kernel_rfl) ?hw12 ?hy12 ?hq12 (by assumption) ?r12
  case hi12 => (simp only [List.getElem?_toArray, List.getElem?_cons_succ, List.getElem?_cons_zero]; rfl)
  case hd12 => rfl
  case hw12 => rfl
  case hy12 => ((intro w hSw; (try dsimp only at hSw); obtain ⟨⟨s0, s1, s2, s3, s4, s5, s6, s7⟩, s8⟩ : _ ∧ _ := ⟨BoxU.cells hSw.1, BoxV.cell hSw.2⟩; go_simp) <;> (with_reducible rfl))
  case hq12 => exact fun _ _ _ h => h
  simp only [List.set_cons_succ, List.set_cons_zero]
  refine call_atX (i := 12) (d := 16) (oi := ?o13) (f := ?f13) (args := ?a13) ?hi13 ?hd13 (by kernel_rfl) ?hw13 ?he13 ?hc13
  case hi13 => (simp only [List.getElem?_toArray, List.getElem?_cons_succ, List.getElem?_cons_zero]; rfl)
  case hd13 => rfl
  case hw13 => rfl
  case he13 => (go_simp; constructor <;> with_reducible rfl)
  refine Calls.mono (must_no w2.drew) ?_
  rintro e wv ⟨rfl, hwv⟩
  replace hwv := hwv.symm
  subst hwv
  exact .inr ⟨_, rfl, rfl, .inr ⟨HC.out, rfl⟩, BB.drew⟩
set_option maxRecDepth 100000 in
set_option maxHeartbeats 8000000 in
theorem step_cut1 (t : TupP) (i : Int) (zi : Nat) (w0 : World) (bi : BoxV w0 zi 3 (.int .i64 i)) (c1 : ¬ i ≤ t.sn.ix) (c2 : lastT t + 1 < i) :
    StepIs 43 #[.pointer (some ⟨zi, 0, none⟩)] t (cutT t i) (t.sn.ix < i ∧ i ≤ lastT t + 1) w0 := by
  intro hM B1 w A n c hB hBw hw own hnc
  have hn : n ≤ 200 := by have := hM.few; have := own_len own; omega
  have hl := own_len own
  have hx := may_ix hM
  have hm := may_mid hM
  replace bi := bi.below hw
  have hzl : zi < w.heap.size := bi.lt
  have HI := Lib.hid hzl
  have HB := Lib.hid (⟨hBw, hnc, hn, hx, hm, hl⟩ : _ ∧ _ ∧ _ ∧ _ ∧ _ ∧ _)
  clear hw hB hM hBw hn hl hx hm hnc hzl
  have HC := Lib.hid (show ¬ (t.sn.ix < i ∧ i ≤ lastT t + 1) by omega)
  have q0 : decide (t.sn.ix < i) = true := decide_eq_true (by omega)
  obtain ⟨L1, hL1⟩ : ∃ x, x = lastT t + 1 := ⟨_, rfl⟩
  have q1 : IntKind.i64.wrap (lastT t + 1) = L1 := by have := HB.out; unfold lastT at hL1 ⊢; rw [IntKind.wrap_i64]; omega
  have q2 : decide (i ≤ L1) = false := decide_eq_false (by omega)
  clear hL1 c1 c2
  obtain ⟨z1, hz1⟩ : ∃ z, z = w.heap.size := ⟨_, rfl⟩
  obtain ⟨w1, hw1⟩ : ∃ x, x = w.alloc (.cells #[.int .i64 t.sn.ix, .int .i64 t.sn.tm, .int .i64 t.sn.sm, .int .i64 t.sn.lv, .bool t.sn.fn, .slice A n c, .int .i64 t.tm, .int .i64 t.vt] 26) := ⟨_, rfl⟩
  have bb : Below w.heap.size w w1 := by rw [hw1]; exact below_al (below_d0 _) _
  have bz : BoxU w1 z1 t (.slice A n c) := by rw [hw1, hz1]; exact BoxU.new w t _
  replace own := own_keep own bb
  replace bi := bi.below bb
  have B1 := bb
  clear bb
  obtain ⟨z2, hz2⟩ : ∃ z, z = w1.heap.size := ⟨_, rfl⟩
  obtain ⟨w2, hw2⟩ : ∃ x, x = w1.alloc (.cells #[.int .i64 0, .int .i64 0, .int .i64 0, .int .i64 0, .bool false, .slice none 0 0, .int .i64 0, .int .i64 0] 26) := ⟨_, rfl⟩
  have bb : Below w1.heap.size w1 w2 := by rw [hw2]; exact below_al (below_d0 _) _
  have br : BoxU w2 z2 noneT (.slice none 0 0) := by rw [hw2, hz2]; exact BoxU.new w1 noneT _
  replace own := own_keep own bb
  replace bi := bi.below bb
  replace bz := bz.below bb
  have B2 := B1.trans (bb.mono B1.size)
  clear bb B1
  have hp2 : z1 + 1 = z2 := by rw [hz2, hw1, hz1]; simp
  have lz2 : w.heap.size ≤ z2 := by omega
  have ne12 : z1 ≠ z2 := by omega
  have HZZ1 := Lib.hid (show w.heap.size ≤ z1 by omega)
  have HE := Lib.hid (⟨hw1, hw2, hz1, hp2⟩ : _ ∧ _ ∧ _ ∧ _)
  have HLZ := Lib.hid lz2
  clear hw1 hz1 hw2 hz2 hp2 lz2
  unfold tupV
  show Calls Try.prog 43 #[.agg #[.int .i64 t.sn.ix, .int .i64 t.sn.tm, .int .i64 t.sn.sm, .int .i64 t.sn.lv, .bool t.sn.fn, .slice A n c, .int .i64 t.tm, .int .i64 t.vt], .pointer (some ⟨zi, 0, none⟩)] w _
  go_enter Try.func43, Try.ntmps43
  go_upto_region 1 with fail
  rw [← HE.out.1, ← HE.out.2.1, ← HE.out.2.2.1]
  (try rw [HE.out.2.2.2])
  clear HE
  have HZ1 := Lib.hid (show B1 ≤ z1 ∧ B1 ≤ z2 by have := HZZ1.out; have := HLZ.out; have := HB.out.1; omega)
  have HN := Lib.hid (show zi ≠ z1 by have := HZZ1.out; have := HI.out; omega)
  have BB : Below B1 w w2 := B2.mono HB.out.1
  clear B2
  have hDb : BoxU w2.drew z1 t (.slice A n c) ∧ BoxV w2.drew zi 3 (.int .i64 i) := ⟨bz, bi⟩
  have kbn : Below w2.heap.size w2 w2.drew := (Below.refl _ _).drew
  refine wp_region_held_drew (S := (fun X => BoxU X z1 t (.slice A n c) ∧ BoxV X zi 3 (.int .i64 i))) (by kernel_rfl) hDb (fun hHeld => ?_)
  refine take_at (i := 0) (d := 4) (oi := ?o14) (v := ?v14) ?hi14 ?hd14 (by kernel_rfl) (by kernel_rfl) (by kernel_rfl) ?hw14 ?hy14 ?hq14 (by assumption) ?r14
  case hi14 => (simp only [List.getElem?_toArray, List.getElem?_cons_zero]; rfl)
  case hd14 => rfl
  case hw14 => rfl
  case hy14 => ((intro w hSw; (try dsimp only at hSw); obtain ⟨⟨s0, s1, s2, s3, s4, s5, s6, s7⟩, s8⟩ : _ ∧ _ := ⟨BoxU.cells hSw.1, BoxV.cell hSw.2⟩; go_simp) <;> (with_reducible rfl))
  case hq14 => exact fun _ _ _ h => h
  simp only [List.set_cons_succ, List.set_cons_zero]
  refine take_at (i := 1) (d := 5) (oi := ?o15) (v := ?v15) ?hi15 ?hd15 (by kernel_rfl) (by kernel_rfl) (by kernel_rfl) ?hw15 ?hy15 ?hq15 (by assumption) ?r15
  case hi15 => (simp only [List.getElem?_toArray, List.getElem?_cons_succ, List.getElem?_cons_zero]; rfl)
  case hd15 => rfl
  case hw15 => rfl
  case hy15 => ((intro w hSw; (try dsimp only at hSw); obtain ⟨⟨s0, s1, s2, s3, s4, s5, s6, s7⟩, s8⟩ : _ ∧ _ := ⟨BoxU.cells hSw.1, BoxV.cell hSw.2⟩; go_simp) <;> (with_reducible rfl))
  case hq15 => exact fun _ _ _ h => h
  simp only [List.set_cons_succ, List.set_cons_zero]
  refine take_at (i := 2) (d := 6) (oi := ?o16) (v := ?v16) ?hi16 ?hd16 (by kernel_rfl) (by kernel_rfl) (by kernel_rfl) ?hw16 ?hy16 ?hq16 (by assumption) ?r16
  case hi16 => (simp only [List.getElem?_toArray, List.getElem?_cons_succ, List.getElem?_cons_zero]; rfl)
  case hd16 => rfl
  case hw16 => rfl
  case hy16 => ((intro w hSw; (try dsimp only at hSw); obtain ⟨⟨s0, s1, s2, s3, s4, s5, s6, s7⟩, s8⟩ : _ ∧ _ := ⟨BoxU.cells hSw.1, BoxV.cell hSw.2⟩; go_simp) <;> (with_reducible rfl))
  case hq16 => exact fun _ _ _ h => h
  simp only [List.set_cons_succ, List.set_cons_zero]
  refine take_at (i := 3) (d := 7) (oi := ?o17) (v := ?v17) ?hi17 ?hd17 (by kernel_rfl) (by kernel_rfl) (by kernel_rfl) ?hw17 ?hy17 ?hq17 (by assumption) ?r17
  case hi17 => (simp only [List.getElem?_toArray, List.getElem?_cons_succ, List.getElem?_cons_zero]; rfl)
  case hd17 => rfl
  case hw17 => rfl
  case hy17 => ((intro w hSw; (try dsimp only at hSw); obtain ⟨⟨s0, s1, s2, s3, s4, s5, s6, s7⟩, s8⟩ : _ ∧ _ := ⟨BoxU.cells hSw.1, BoxV.cell hSw.2⟩; go_simp) <;> (with_reducible rfl))
  case hq17 => exact fun _ _ _ h => h
  simp only [List.set_cons_succ, List.set_cons_zero]
  refine take_at (i := 4) (d := 8) (oi := ?o18) (v := ?v18) ?hi18 ?hd18 (by kernel_rfl) (by kernel_rfl) (by kernel_rfl) ?hw18 ?hy18 ?hq18 (by assumption) ?r18
  case hi18 => (simp only [List.getElem?_toArray, List.getElem?_cons_succ, List.getElem?_cons_zero]; rfl)
  case hd18 => rfl
  case hw18 => rfl
  case hy18 => ((intro w hSw; (try dsimp only at hSw); obtain ⟨⟨s0, s1, s2, s3, s4, s5, s6, s7⟩, s8⟩ : _ ∧ _ := ⟨BoxU.cells hSw.1, BoxV.cell hSw.2⟩; go_simp) <;> (with_reducible rfl))
  case hq18 => exact fun _ _ _ h => h
  simp only [List.set_cons_succ, List.set_cons_zero]
  refine take_at (i := 5) (d := 9) (oi := ?o19) (v := ?v19) ?hi19 ?hd19 (by kernel_rfl) (by kernel_rfl) (by kernel_rfl) ?hw19 ?hy19 ?hq19 (by assumption) ?r19
  case hi19 => (simp only [List.getElem?_toArray, List.getElem?_cons_succ, List.getElem?_cons_zero]; rfl)
  case hd19 => rfl
  case hw19 => rfl
  case hy19 => ((intro w hSw; (try dsimp only at hSw); obtain ⟨⟨s0, s1, s2, s3, s4, s5, s6, s7⟩, s8⟩ : _ ∧ _ := ⟨BoxU.cells hSw.1, BoxV.cell hSw.2⟩; go_simp) <;> (with_reducible rfl))
  case hq19 => exact fun _ _ _ h => h
  simp only [List.set_cons_succ, List.set_cons_zero]
  refine take_at (i := 6) (d := 10) (oi := ?o20) (v := ?v20) ?hi20 ?hd20 (by kernel_rfl) (by kernel_rfl) (by kernel_rfl) ?hw20 ?hy20 ?hq20 (by assumption) ?r20
  case hi20 => (simp only [List.getElem?_toArray, List.getElem?_cons_succ, List.getElem?_cons_zero]; rfl)
  case hd20 => rfl
  case hw20 => rfl
  case hy20 => ((intro w hSw; (try dsimp only at hSw); obtain ⟨⟨s0, s1, s2, s3, s4, s5, s6, s7⟩, s8⟩ : _ ∧ _ := ⟨BoxU.cells hSw.1, BoxV.cell hSw.2⟩; go_simp) <;> (with_reducible rfl))
  case hq20 => exact fun _ _ _ h => h
  simp only [List.set_cons_succ, List.set_cons_zero]
  refine take_at (i := 7) (d := 11) (oi := ?o21) (v := ?v21) ?hi21 ?hd21 (by kernel_rfl) (by kernel_rfl) (by kernel_rfl) ?hw21 ?hy21 ?hq21 (by assumption) ?r21
  case hi21 => (simp only [List.getElem?_toArray, List.getElem?_cons_succ, List.getElem?_cons_zero]; rfl)
  case hd21 => rfl
  case hw21 => rfl
  case hy21 => ((intro w hSw; (try dsimp only at hSw); obtain ⟨⟨s0, s1, s2, s3, s4, s5, s6, s7⟩, s8⟩ : _ ∧ _ := ⟨BoxU.cells hSw.1, BoxV.cell hSw.2⟩; go_simp) <;> (with_reducible rfl))
  case hq21 => exact fun _ _ _ h => h
  simp only [List.set_cons_succ, List.set_cons_zero]
  refine call_at (i := 8) (d := 12) (oi := ?o22) (f := ?f22) (args := ?a22) ?hi22 ?hd22 (by kernel_rfl) ?hw22 ?he22 ?hc22
  case hi22 => (simp only [List.getElem?_toArray, List.getElem?_cons_succ, List.getElem?_cons_zero]; rfl)
  case hd22 => rfl
  case hw22 => rfl
  case he22 => (go_simp; constructor <;> with_reducible rfl)
  refine Calls.mono (show Calls Try.prog 29 #[.agg #[.int .i64 t.sn.ix, .int .i64 t.sn.tm, .int .i64 t.sn.sm, .int .i64 t.sn.lv, .bool t.sn.fn, .slice A n c, .int .i64 t.tm, .int .i64 t.vt]] w2.drew (fun e w' => e = .returned (.int .i64 (lastT t)) ∧ Below w2.drew.heap.size w2.drew w') from last_any t A n c w2.drew (OwnE.es (own_keep own kbn)) (by have := HB.out.2.2.1; omega) HB.out.2.2.2.2.1) ?_
  rintro e w3 ⟨rfl, b3⟩
  have hD3 : BoxU w3 z1 t (.slice A n c) ∧ BoxV w3 zi 3 (.int .i64 i) := ⟨hDb.1.below b3, hDb.2.below b3⟩
  refine ⟨_, rfl, hD3, fun hHeld => ?_⟩
  simp only [List.set_cons_succ, List.set_cons_zero]
  have b23 := kbn.trans b3
  have B3 : Below B1 w w3 := BB.trans (b23.mono (by have := BB.size; have := HB.out.1; omega))
  refine take_at (i := 9) (d := 13) (oi := ?o23) (v := ?v23) ?hi23 ?hd23 (by kernel_rfl) (by kernel_rfl) (by kernel_rfl) ?hw23 ?hy23 ?hq23 (by assumption) ?r23
  case hi23 => (simp only [List.getElem?_toArray, List.getElem?_cons_succ, List.getElem?_cons_zero]; rfl)
  case hd23 => rfl
  case hw23 => rfl
  case hy23 => ((intro w hSw; (try dsimp only at hSw); obtain ⟨⟨s0, s1, s2, s3, s4, s5, s6, s7⟩, s8⟩ : _ ∧ _ := ⟨BoxU.cells hSw.1, BoxV.cell hSw.2⟩; go_simp) <;> (with_reducible rfl))
  case hq23 => exact fun _ _ _ h => h
  simp only [List.set_cons_succ, List.set_cons_zero]
  refine take_at (i := 10) (d := 14) (oi := ?o24) (v := ?v24) ?hi24 ?hd24 (by kernel_rfl) (by kernel_rfl) (by kernel_rfl) ?hw24 ?hy24 ?hq24 (by assumption) ?r24
  case hi24 => (simp only [List.getElem?_toArray, List.getElem?_cons_succ, List.getElem?_cons_zero]; rfl)
  case hd24 => rfl
  case hw24 => rfl
  case hy24 => ((intro w hSw; (try dsimp only at hSw); obtain ⟨⟨s0, s1, s2, s3, s4, s5, s6, s7⟩, s8⟩ : _ ∧ _ := ⟨BoxU.cells hSw.1, BoxV.cell hSw.2⟩; go_simp) <;> (with_reducible rfl))
  case hq24 => exact fun _ _ _ h => h
  simp only [List.set_cons_succ, List.set_cons_zero]
  refine take_at (i := 11) (d := 15) (oi := ?o25) (v := ?v25) ?hi25 ?hd25 (by kernel_rfl) (by kernel_rfl) (by kernel_rfl) ?hw25 ?hy25 ?hq25 (by assumption) ?r25
  case hi25 => (simp only [List.getElem?_toArray, List.getElem?_cons_succ, List.getElem?_cons_zero]; rfl)
  case hd25 => rfl
  case hw25 => rfl
  case hy25 => ((intro w hSw; (try dsimp only at hSw); obtain ⟨⟨s0, s1, s2, s3, s4, s5, s6, s7⟩, s8⟩ : _ ∧ _ := ⟨BoxU.cells hSw.1, BoxV.cell hSw.2⟩; go_simp) <;> (with_reducible rfl))
  case hq25 => exact fun _ _ _ h => h
  simp only [List.set_cons_succ, List.set_cons_zero]
  refine call_atX (i := 12) (d := 16) (oi := ?o26) (f := ?f26) (args := ?a26) ?hi26 ?hd26 (by kernel_rfl) ?hw26 ?he26 ?hc26
  case hi26 => (simp only [List.getElem?_toArray, List.getElem?_cons_succ, List.getElem?_cons_zero]; rfl)
  case hd26 => rfl
  case hw26 => rfl
  case he26 => (go_simp; constructor <;> with_reducible rfl)
  refine Calls.mono (must_no w3) ?_
  rintro e wv ⟨rfl, hwv⟩
  replace hwv := hwv.symm
  subst hwv
  exact .inr ⟨_, rfl, rfl, .inr ⟨HC.out, rfl⟩, B3⟩
set_option maxRecDepth 100000 in
set_option maxHeartbeats 8000000 in
theorem step_cut2 (t : TupP) (i : Int) (zi : Nat) (w0 : World) (bi : BoxV w0 zi 3 (.int .i64 i)) (c1 : ¬ i ≤ t.sn.ix) (c2 : ¬ lastT t + 1 < i) :
    StepIs 43 #[.pointer (some ⟨zi, 0, none⟩)] t (cutT t i) (t.sn.ix < i ∧ i ≤ lastT t + 1) w0 := by
  intro hM B1 w A n c hB hBw hw own hnc
  have hn : n ≤ 200 := by have := hM.few; have := own_len own; omega
  have hl := own_len own
  have hx := may_ix hM
  have hm := may_mid hM
  replace bi := bi.below hw
  have hzl : zi < w.heap.size := bi.lt
  have HI := Lib.hid hzl
  have HB := Lib.hid (⟨hBw, hnc, hn, hx, hm, hl⟩ : _ ∧ _ ∧ _ ∧ _ ∧ _ ∧ _)
  clear hw hB hM hBw hn hl hx hm hnc hzl
  have HC := Lib.hid (show t.sn.ix < i ∧ i ≤ lastT t + 1 by omega)
  obtain ⟨u, hu⟩ : ∃ u : Nat, (u : Int) = i - t.sn.ix - 1 := ⟨(i - t.sn.ix - 1).toNat, by omega⟩
  have hun : u ≤ n := by have := HB.out.2.2.2.2.2; unfold lastT at c2; omega
  have HU := Lib.hid (show cutT t i = { t with lg := t.lg.take u } by unfold cutT; rw [show (i - t.sn.ix - 1).toNat = u by omega])
  obtain ⟨dd, hdd⟩ : ∃ d : Int, d = i - t.sn.ix := ⟨_, rfl⟩
  have r3 : IntKind.i64.wrap (i - t.sn.ix) = dd := by have h1 := HB.out.2.2.2.1; have h2 := HB.out.2.2.1; have h3 := HB.out.2.2.2.2.2; have h4 := c2; unfold lastT at h4; rw [IntKind.wrap_i64]; omega
  have r5 : IntKind.i64.wrap (dd - 1) = (u : Int) := by have := HB.out.2.2.1; rw [IntKind.wrap_i64]; omega
  clear hu hdd
  obtain ⟨i0, hi0, hz0, hz1, hz2⟩ := info_partsV info_entry
  have hsl : ∀ W : World, (Instr.slice 24 (.slice A n c) none (some (.int .i64 (u : Int))) none).run Try.prog W = .ok (.slice A u c) W := fun W => cut_firstE Try.underlying24 hi0 A n c u (by have := HB.out.2.1; omega) W
  clear hi0 hz0 hz1 hz2
  have q0 : decide (t.sn.ix < i) = true := decide_eq_true (by omega)
  obtain ⟨L1, hL1⟩ : ∃ x, x = lastT t + 1 := ⟨_, rfl⟩
  have q1 : IntKind.i64.wrap (lastT t + 1) = L1 := by have := HB.out; unfold lastT at hL1 ⊢; rw [IntKind.wrap_i64]; omega
  have q2 : decide (i ≤ L1) = true := decide_eq_true (by omega)
  clear hL1 c1 c2
  obtain ⟨z1, hz1⟩ : ∃ z, z = w.heap.size := ⟨_, rfl⟩
  obtain ⟨w1, hw1⟩ : ∃ x, x = w.alloc (.cells #[.int .i64 t.sn.ix, .int .i64 t.sn.tm, .int .i64 t.sn.sm, .int .i64 t.sn.lv, .bool t.sn.fn, .slice A n c, .int .i64 t.tm, .int .i64 t.vt] 26) := ⟨_, rfl⟩
  have bb : Below w.heap.size w w1 := by rw [hw1]; exact below_al (below_d0 _) _
  have bz : BoxU w1 z1 t (.slice A n c) := by rw [hw1, hz1]; exact BoxU.new w t _
  replace own := own_keep own bb
  replace bi := bi.below bb
  have B1 := bb
  clear bb
  obtain ⟨z2, hz2⟩ : ∃ z, z = w1.heap.size := ⟨_, rfl⟩
  obtain ⟨w2, hw2⟩ : ∃ x, x = w1.alloc (.cells #[.int .i64 0, .int .i64 0, .int .i64 0, .int .i64 0, .bool false, .slice none 0 0, .int .i64 0, .int .i64 0] 26) := ⟨_, rfl⟩
  have bb : Below w1.heap.size w1 w2 := by rw [hw2]; exact below_al (below_d0 _) _
  have br : BoxU w2 z2 noneT (.slice none 0 0) := by rw [hw2, hz2]; exact BoxU.new w1 noneT _
  replace own := own_keep own bb
  replace bi := bi.below bb
  replace bz := bz.below bb
  have B2 := B1.trans (bb.mono B1.size)
  clear bb B1
  have hp2 : z1 + 1 = z2 := by rw [hz2, hw1, hz1]; simp
  have lz2 : w.heap.size ≤ z2 := by omega
  have ne12 : z1 ≠ z2 := by omega
  have HZZ1 := Lib.hid (show w.heap.size ≤ z1 by omega)
  have HE := Lib.hid (⟨hw1, hw2, hz1, hp2⟩ : _ ∧ _ ∧ _ ∧ _)
  have HLZ := Lib.hid lz2
  clear hw1 hz1 hw2 hz2 hp2 lz2
  unfold tupV
  show Calls Try.prog 43 #[.agg #[.int .i64 t.sn.ix, .int .i64 t.sn.tm, .int .i64 t.sn.sm, .int .i64 t.sn.lv, .bool t.sn.fn, .slice A n c, .int .i64 t.tm, .int .i64 t.vt], .pointer (some ⟨zi, 0, none⟩)] w _
  go_enter Try.func43, Try.ntmps43
  go_upto_region 1 with fail
  rw [← HE.out.1, ← HE.out.2.1, ← HE.out.2.2.1]
  (try rw [HE.out.2.2.2])
  clear HE
  have HZ1 := Lib.hid (show B1 ≤ z1 ∧ B1 ≤ z2 by have := HZZ1.out; have := HLZ.out; have := HB.out.1; omega)
  have HN := Lib.hid (show zi ≠ z1 by have := HZZ1.out; have := HI.out; omega)
  have BB : Below B1 w w2 := B2.mono HB.out.1
  clear B2
  have hDb : BoxU w2.drew z1 t (.slice A n c) ∧ BoxV w2.drew zi 3 (.int .i64 i) := ⟨bz, bi⟩
  have kbn : Below w2.heap.size w2 w2.drew := (Below.refl _ _).drew
  refine wp_region_held_drew (S := (fun X => BoxU X z1 t (.slice A n c) ∧ BoxV X zi 3 (.int .i64 i))) (by kernel_rfl) hDb (fun hHeld => ?_)
  refine take_at (i := 0) (d := 4) (oi := ?o27) (v := ?v27) ?hi27 ?hd27 (by kernel_rfl) (by kernel_rfl) (by kernel_rfl) ?hw27 ?hy27 ?hq27 (by assumption) ?r27
  case hi27 => (simp only [List.getElem?_toArray, List.getElem?_cons_zero]; rfl)
  case hd27 => rfl
  case hw27 => rfl
  case hy27 => ((intro w hSw; (try dsimp only at hSw); obtain ⟨⟨s0, s1, s2, s3, s4, s5, s6, s7⟩, s8⟩ : _ ∧ _ := ⟨BoxU.cells hSw.1, BoxV.cell hSw.2⟩; go_simp) <;> (with_reducible rfl))
  case hq27 => exact fun _ _ _ h => h
  simp only [List.set_cons_succ, List.set_cons_zero]
  refine take_at (i := 1) (d := 5) (oi := ?o28) (v := ?v28) ?hi28 ?hd28 (by kernel_rfl) (by kernel_rfl) (by kernel_rfl) ?hw28 ?hy28 ?hq28 (by assumption) ?r28
  case hi28 => (simp only [List.getElem?_toArray, List.getElem?_cons_succ, List.getElem?_cons_zero]; rfl)
  case hd28 => rfl
  case hw28 => rfl
  case hy28 => ((intro w hSw; (try dsimp only at hSw); obtain ⟨⟨s0, s1, s2, s3, s4, s5, s6, s7⟩, s8⟩ : _ ∧ _ := ⟨BoxU.cells hSw.1, BoxV.cell hSw.2⟩; go_simp) <;> (with_reducible rfl))
  case hq28 => exact fun _ _ _ h => h
  simp only [List.set_cons_succ, List.set_cons_zero]
  refine take_at (i := 2) (d := 6) (oi := ?o29) (v := ?v29) ?hi29 ?hd29 (by kernel_rfl) (by kernel_rfl) (by kernel_rfl) ?hw29 ?hy29 ?hq29 (by assumption) ?r29
  case hi29 => (simp only [List.getElem?_toArray, List.getElem?_cons_succ, List.getElem?_cons_zero]; rfl)
  case hd29 => rfl
  case hw29 => rfl
  case hy29 => ((intro w hSw; (try dsimp only at hSw); obtain ⟨⟨s0, s1, s2, s3, s4, s5, s6, s7⟩, s8⟩ : _ ∧ _ := ⟨BoxU.cells hSw.1, BoxV.cell hSw.2⟩; go_simp) <;> (with_reducible rfl))
  case hq29 => exact fun _ _ _ h => h
  simp only [List.set_cons_succ, List.set_cons_zero]
  refine take_at (i := 3) (d := 7) (oi := ?o30) (v := ?v30) ?hi30 ?hd30 (by kernel_rfl) (by kernel_rfl) (by kernel_rfl) ?hw30 ?hy30 ?hq30 (by assumption) ?r30
  case hi30 => (simp only [List.getElem?_toArray, List.getElem?_cons_succ, List.getElem?_cons_zero]; rfl)
  case hd30 => rfl
  case hw30 => rfl
  case hy30 => ((intro w hSw; (try dsimp only at hSw); obtain ⟨⟨s0, s1, s2, s3, s4, s5, s6, s7⟩, s8⟩ : _ ∧ _ := ⟨BoxU.cells hSw.1, BoxV.cell hSw.2⟩; go_simp) <;> (with_reducible rfl))
  case hq30 => exact fun _ _ _ h => h
  simp only [List.set_cons_succ, List.set_cons_zero]
  refine take_at (i := 4) (d := 8) (oi := ?o31) (v := ?v31) ?hi31 ?hd31 (by kernel_rfl) (by kernel_rfl) (by kernel_rfl) ?hw31 ?hy31 ?hq31 (by assumption) ?r31
  case hi31 => (simp only [List.getElem?_toArray, List.getElem?_cons_succ, List.getElem?_cons_zero]; rfl)
  case hd31 => rfl
  case hw31 => rfl
  case hy31 => ((intro w hSw; (try dsimp only at hSw); obtain ⟨⟨s0, s1, s2, s3, s4, s5, s6, s7⟩, s8⟩ : _ ∧ _ := ⟨BoxU.cells hSw.1, BoxV.cell hSw.2⟩; go_simp) <;> (with_reducible rfl))
  case hq31 => exact fun _ _ _ h => h
  simp only [List.set_cons_succ, List.set_cons_zero]
  refine take_at (i := 5) (d := 9) (oi := ?o32) (v := ?v32) ?hi32 ?hd32 (by kernel_rfl) (by kernel_rfl) (by kernel_rfl) ?hw32 ?hy32 ?hq32 (by assumption) ?r32
  case hi32 => (simp only [List.getElem?_toArray, List.getElem?_cons_succ, List.getElem?_cons_zero]; rfl)
  case hd32 => rfl
  case hw32 => rfl
  case hy32 => ((intro w hSw; (try dsimp only at hSw); obtain ⟨⟨s0, s1, s2, s3, s4, s5, s6, s7⟩, s8⟩ : _ ∧ _ := ⟨BoxU.cells hSw.1, BoxV.cell hSw.2⟩; go_simp) <;> (with_reducible rfl))
  case hq32 => exact fun _ _ _ h => h
  simp only [List.set_cons_succ, List.set_cons_zero]
  refine take_at (i := 6) (d := 10) (oi := ?o33) (v := ?v33) ?hi33 ?hd33 (by kernel_rfl) (by kernel_rfl) (by kernel_rfl) ?hw33 ?hy33 ?hq33 (by assumption) ?r33
  case hi33 => (simp only [List.getElem?_toArray, List.getElem?_cons_succ, List.getElem?_cons_zero]; rfl)
  case hd33 => rfl
  case hw33 => rfl
  case hy33 => ((intro w hSw; (try dsimp only at hSw); obtain ⟨⟨s0, s1, s2, s3, s4, s5, s6, s7⟩, s8⟩ : _ ∧ _ := ⟨BoxU.cells hSw.1, BoxV.cell hSw.2⟩; go_simp) <;> (with_reducible rfl))
  case hq33 => exact fun _ _ _ h => h
  simp only [List.set_cons_succ, List.set_cons_zero]
  refine take_at (i := 7) (d := 11) (oi := ?o34) (v := ?v34) ?hi34 ?hd34 (by kernel_rfl) (by kernel_rfl) (by kernel_rfl) ?hw34 ?hy34 ?hq34 (by assumption) ?r34
  case hi34 => (simp only [List.getElem?_toArray, List.getElem?_cons_succ, List.getElem?_cons_zero]; rfl)
  case hd34 => rfl
  case hw34 => rfl
  case hy34 => ((intro w hSw; (try dsimp only at hSw); obtain ⟨⟨s0, s1, s2, s3, s4, s5, s6, s7⟩, s8⟩ : _ ∧ _ := ⟨BoxU.cells hSw.1, BoxV.cell hSw.2⟩; go_simp) <;> (with_reducible rfl))
  case hq34 => exact fun _ _ _ h => h
  simp only [List.set_cons_succ, List.set_cons_zero]
  refine call_at (i := 8) (d := 12) (oi := ?o35) (f := ?f35) (args := ?a35) ?hi35 ?hd35 (by kernel_rfl) ?hw35 ?he35 ?hc35
  case hi35 => (simp only [List.getElem?_toArray, List.getElem?_cons_succ, List.getElem?_cons_zero]; rfl)
  case hd35 => rfl
  case hw35 => rfl
  case he35 => (go_simp; constructor <;> with_reducible rfl)
  refine Calls.mono (show Calls Try.prog 29 #[.agg #[.int .i64 t.sn.ix, .int .i64 t.sn.tm, .int .i64 t.sn.sm, .int .i64 t.sn.lv, .bool t.sn.fn, .slice A n c, .int .i64 t.tm, .int .i64 t.vt]] w2.drew (fun e w' => e = .returned (.int .i64 (lastT t)) ∧ Below w2.drew.heap.size w2.drew w') from last_any t A n c w2.drew (OwnE.es (own_keep own kbn)) (by have := HB.out.2.2.1; omega) HB.out.2.2.2.2.1) ?_
  rintro e w3 ⟨rfl, b3⟩
  have hD3 : BoxU w3 z1 t (.slice A n c) ∧ BoxV w3 zi 3 (.int .i64 i) := ⟨hDb.1.below b3, hDb.2.below b3⟩
  refine ⟨_, rfl, hD3, fun hHeld => ?_⟩
  simp only [List.set_cons_succ, List.set_cons_zero]
  have b23 := kbn.trans b3
  have B3 : Below B1 w w3 := BB.trans (b23.mono (by have := BB.size; have := HB.out.1; omega))
  refine take_at (i := 9) (d := 13) (oi := ?o36) (v := ?v36) ?hi36 ?hd36 (by kernel_rfl) (by kernel_rfl) (by kernel_rfl) ?hw36 ?hy36 ?hq36 (by assumption) ?r36
  case hi36 => (simp only [List.getElem?_toArray, List.getElem?_cons_succ, List.getElem?_cons_zero]; rfl)
  case hd36 => rfl
  case hw36 => rfl
  case hy36 => ((intro w hSw; (try dsimp only at hSw); obtain ⟨⟨s0, s1, s2, s3, s4, s5, s6, s7⟩, s8⟩ : _ ∧ _ := ⟨BoxU.cells hSw.1, BoxV.cell hSw.2⟩; go_simp) <;> (with_reducible rfl))
  case hq36 => exact fun _ _ _ h => h
  simp only [List.set_cons_succ, List.set_cons_zero]
  refine take_at (i := 10) (d := 14) (oi := ?o37) (v := ?v37) ?hi37 ?hd37 (by kernel_rfl) (by kernel_rfl) (by kernel_rfl) ?hw37 ?hy37 ?hq37 (by assumption) ?r37
  case hi37 => (simp only [List.getElem?_toArray, List.getElem?_cons_succ, List.getElem?_cons_zero]; rfl)
  case hd37 => rfl
  case hw37 => rfl
  case hy37 => ((intro w hSw; (try dsimp only at hSw); obtain ⟨⟨s0, s1, s2, s3, s4, s5, s6, s7⟩, s8⟩ : _ ∧ _ := ⟨BoxU.cells hSw.1, BoxV.cell hSw.2⟩; go_simp) <;> (with_reducible rfl))
  case hq37 => exact fun _ _ _ h => h
  simp only [List.set_cons_succ, List.set_cons_zero]
  refine take_at (i := 11) (d := 15) (oi := ?o38) (v := ?v38) ?hi38 ?hd38 (by kernel_rfl) (by kernel_rfl) (by kernel_rfl) ?hw38 ?hy38 ?hq38 (by assumption) ?r38
  case hi38 => (simp only [List.getElem?_toArray, List.getElem?_cons_succ, List.getElem?_cons_zero]; rfl)
  case hd38 => rfl
  case hw38 => rfl
  case hy38 => ((intro w hSw; (try dsimp only at hSw); obtain ⟨⟨s0, s1, s2, s3, s4, s5, s6, s7⟩, s8⟩ : _ ∧ _ := ⟨BoxU.cells hSw.1, BoxV.cell hSw.2⟩; go_simp) <;> (with_reducible rfl))
  case hq38 => exact fun _ _ _ h => h
  simp only [List.set_cons_succ, List.set_cons_zero]
  refine call_atX (i := 12) (d := 16) (oi := ?o39) (f := ?f39) (args := ?a39) ?hi39 ?hd39 (by kernel_rfl) ?hw39 ?he39 ?hc39
  case hi39 => (simp only [List.getElem?_toArray, List.getElem?_cons_succ, List.getElem?_cons_zero]; rfl)
  case hd39 => rfl
  case hw39 => rfl
  case he39 => (go_simp; constructor <;> with_reducible rfl)
  refine Calls.mono (must_yes w3) ?_
  rintro e wv ⟨rfl, hwv⟩
  replace hwv := hwv.symm
  subst hwv
  refine .inl ⟨_, rfl, hD3, fun hHeld => ?_⟩
  simp only [List.set_cons_succ, List.set_cons_zero]
  refine wpAnyH_done (by kernel_rfl) ?_ _
  have br3 := br.below b23
  have own3 := keepF (OwnF.of own) b23
  obtain ⟨bz3, bi3⟩ := hD3
  clear hHeld hDb kbn b3 b23 BB br bz bi own q0 q1 q2
  have la := bi3.cell
  obtain ⟨k0, k1, k2, k3, k4, k5, k6, k7⟩ := bz3.cells
  have f5 := bz3.frozen 5
  go_upto_region 3 with fail
  clear k0 k1 k2 k3 k4 k5 k6 k7
  clear f5 la hsl r3 r5
  obtain ⟨w4, hw4⟩ : ∃ x, x = w3.setCell ⟨z1, 5, none⟩ (.slice A u c) := ⟨_, rfl⟩
  have own4 : OwnF w4 B1 (.slice A u c) u (t.lg.take u) := by rw [hw4]; exact set_ownF bz3 (own_firstF own3 hun)
  have br4 : BoxU w4 z2 noneT (.slice none 0 0) := by rw [hw4]; exact set_boxU br3 (fun h => ne12 h.symm)
  have bz4 : BoxU w4 z1 { t with lg := t.lg.take u } (.slice A u c) := by rw [hw4]; exact put5U bz3 (t.lg.take u) _
  have B4 : Below B1 w w4 := by rw [hw4]; exact B3.setCell (p := ⟨z1, 5, none⟩) HZ1.out.1 _
  rw [← hw4]
  clear hw4 B3 own3 br3 bz3 bi3
  obtain ⟨k0, k1, k2, k3, k4, k5, k6, k7⟩ := bz4.cells
  (try dsimp only at k0)
  (try dsimp only at k1)
  (try dsimp only at k2)
  (try dsimp only at k3)
  (try dsimp only at k4)
  (try dsimp only at k5)
  (try dsimp only at k6)
  (try dsimp only at k7)
  obtain ⟨g0, g1, g2, g3, g4, g5, g6, g7⟩ := br4.cells
  have f0 := br4.frozen 0
  have f1 := br4.frozen 1
  have f2 := br4.frozen 2
  have f3 := br4.frozen 3
  have f4 := br4.frozen 4
  have f5 := br4.frozen 5
  have f6 := br4.frozen 6
  have f7 := br4.frozen 7
  go_wp2_with fail
  clear k0 k1 k2 k3 k4 k5 k6 k7
  obtain ⟨W', hW'⟩ : ∃ W', W' = putU w4 z2 { t with lg := t.lg.take u } (.slice A u c) := ⟨_, rfl⟩
  have b9 := putU_box br4 { t with lg := t.lg.take u } (.slice A u c)
  have B9 := putU_below HZ1.out.2 { t with lg := t.lg.take u } (.slice A u c) B4
  have own9 : OwnF W' B1 (.slice A u c) u (t.lg.take u) := by rw [hW']; exact putU_ownF br4 own4
  rw [← hW'] at b9 B9
  have e9 : W' = ((((((((w4.setCell ⟨z2, 0, none⟩ (.int .i64 t.sn.ix)).setCell ⟨z2, 1, none⟩ (.int .i64 t.sn.tm)).setCell ⟨z2, 2, none⟩ (.int .i64 t.sn.sm)).setCell ⟨z2, 3, none⟩ (.int .i64 t.sn.lv)).setCell ⟨z2, 4, none⟩ (.bool t.sn.fn)).setCell ⟨z2, 5, none⟩ (.slice A u c)).setCell ⟨z2, 6, none⟩ (.int .i64 t.tm)).setCell ⟨z2, 7, none⟩ (.int .i64 t.vt)) := hW'
  rw [← e9]
  clear e9 hW' g0 g1 g2 g3 g4 g5 g6 g7 f0 f1 f2 f3 f4 f5 f6 f7
  obtain ⟨g0, g1, g2, g3, g4, g5, g6, g7⟩ := b9.cells
  exact bodyPost_ret (v := tupV { t with lg := t.lg.take u } (.slice A u c)) (by unfold tupV; simp [results, Try.results43, go_sem, g0, g1, g2, g3, g4, g5, g6, g7]) rfl ⟨.inl ⟨HC.out, A, u, c, (by rw [HU.out] <;> rfl), by have := HB.out.2.1; omega, by have := HB.out.2.2.1; omega, by rw [HU.out]; exact own9⟩, B9⟩
theorem step_cut (t : TupP) (i : Int) (zi : Nat) (w0 : World) (bi : BoxV w0 zi 3 (.int .i64 i)) :
    StepIs 43 #[.pointer (some ⟨zi, 0, none⟩)] t (cutT t i) (t.sn.ix < i ∧ i ≤ lastT t + 1) w0 := by
  by_cases c1 : i ≤ t.sn.ix
  · exact step_cut0 t i zi w0 bi c1
  by_cases c2 : lastT t + 1 < i
  · exact step_cut1 t i zi w0 bi c1 c2
  exact step_cut2 t i zi w0 bi c1 c2
set_option maxRecDepth 100000 in
set_option maxHeartbeats 8000000 in
theorem step_save_y (t : TupP) (s : StP) (zs : Nat) (w0 : World) (bs : BoxS w0 zs s) (hi : I64 s.ix) (hh0 : hasB t s = true) :
    StepIs 45 #[.pointer (some ⟨zs, 0, none⟩)] t (saveT t s) (termAtP t s.ix = some s.tm) w0 := by
  intro hM B1 w A n c hB hBw hw own hnc
  have hn : n ≤ 200 := by have := hM.few; have := own_len own; omega
  have hl := own_len own
  have hx := may_ix hM
  have hm := may_mid hM
  replace bs := bs.below hw
  have hzl : zs < w.heap.size := bs.lt
  have HI := Lib.hid hzl
  have HS := Lib.hid hi
  have HB := Lib.hid (⟨hBw, hnc, hn, hx, hm, hl⟩ : _ ∧ _ ∧ _ ∧ _ ∧ _ ∧ _)
  clear hw hB hM hBw hn hl hx hm hnc hzl hi
  have HH := Lib.hid hh0
  clear hh0
  obtain ⟨z1, hz1⟩ : ∃ z, z = w.heap.size := ⟨_, rfl⟩
  obtain ⟨w1, hw1⟩ : ∃ x, x = w.alloc (.cells #[.int .i64 t.sn.ix, .int .i64 t.sn.tm, .int .i64 t.sn.sm, .int .i64 t.sn.lv, .bool t.sn.fn, .slice A n c, .int .i64 t.tm, .int .i64 t.vt] 26) := ⟨_, rfl⟩
  have bb : Below w.heap.size w w1 := by rw [hw1]; exact below_al (below_d0 _) _
  have bz : BoxU w1 z1 t (.slice A n c) := by rw [hw1, hz1]; exact BoxU.new w t _
  replace own := own_keep own bb
  replace bs := bs.below bb
  have B1 := bb
  clear bb
  obtain ⟨z2, hz2⟩ : ∃ z, z = w1.heap.size := ⟨_, rfl⟩
  obtain ⟨w2, hw2⟩ : ∃ x, x = w1.alloc (.cells #[.int .i64 0, .int .i64 0, .int .i64 0, .int .i64 0, .bool false, .slice none 0 0, .int .i64 0, .int .i64 0] 26) := ⟨_, rfl⟩
  have bb : Below w1.heap.size w1 w2 := by rw [hw2]; exact below_al (below_d0 _) _
  have br : BoxU w2 z2 noneT (.slice none 0 0) := by rw [hw2, hz2]; exact BoxU.new w1 noneT _
  replace own := own_keep own bb
  replace bs := bs.below bb
  replace bz := bz.below bb
  have B2 := B1.trans (bb.mono B1.size)
  clear bb B1
  have hp2 : z1 + 1 = z2 := by rw [hz2, hw1, hz1]; simp
  have lz2 : w.heap.size ≤ z2 := by omega
  have ne12 : z1 ≠ z2 := by omega
  have HZZ1 := Lib.hid (show w.heap.size ≤ z1 by omega)
  have HE := Lib.hid (⟨hw1, hw2, hz1, hp2⟩ : _ ∧ _ ∧ _ ∧ _)
  have HLZ := Lib.hid lz2
  clear hw1 hz1 hw2 hz2 hp2 lz2
  unfold tupV
  show Calls Try.prog 45 #[.agg #[.int .i64 t.sn.ix, .int .i64 t.sn.tm, .int .i64 t.sn.sm, .int .i64 t.sn.lv, .bool t.sn.fn, .slice A n c, .int .i64 t.tm, .int .i64 t.vt], .pointer (some ⟨zs, 0, none⟩)] w _
  go_enter Try.func45, Try.ntmps45
  go_upto_region 1 with fail
  rw [← HE.out.1, ← HE.out.2.1, ← HE.out.2.2.1]
  (try rw [HE.out.2.2.2])
  clear HE
  have HZ1 := Lib.hid (show B1 ≤ z1 ∧ B1 ≤ z2 by have := HZZ1.out; have := HLZ.out; have := HB.out.1; omega)
  have HN := Lib.hid (show zs ≠ z1 ∧ zs ≠ z2 by have := HZZ1.out; have := HLZ.out; have := HI.out; omega)
  obtain ⟨k0, k1, k2, k3, k4, k5, k6, k7⟩ := bz.cells
  obtain ⟨j0, j1, j2, j3, j4⟩ := bs.cells
  go_wp2_with fail
  clear k0 k1 k2 k3 k4 k5 k6 k7
  clear j0 j1 j2 j3 j4
  refine Calls.mono (show Calls Try.prog 46 #[.agg #[.int .i64 t.sn.ix, .int .i64 t.sn.tm, .int .i64 t.sn.sm, .int .i64 t.sn.lv, .bool t.sn.fn, .slice A n c, .int .i64 t.tm, .int .i64 t.vt], .agg #[.int .i64 s.ix, .int .i64 s.tm, .int .i64 s.sm, .int .i64 s.lv, .bool s.fn]] w2 (fun e w' => e = .returned (.bool true) ∧ Below w2.heap.size w2 w') from by have h := has_any t A n c s w2 (OwnE.es own) (by have := HB.out.2.2.1; omega) HB.out.2.2.2.2.1 HS.out; rw [HH.out] at h; exact h) ?_
  intro e w3 hh
  obtain ⟨rfl, bb⟩ := hh
  (try clear hh)
  replace own := own_keep own bb
  replace bs := bs.below bb
  replace bz := bz.below bb
  replace br := br.below bb
  have B3 := B2.trans (bb.mono B2.size)
  clear bb B2
  go_wp2_with fail
  refine Calls.mono (must_yes w3) ?_
  intro e wv hh
  obtain ⟨rfl, hwv⟩ := hh
  replace hwv := hwv.symm
  subst hwv
  obtain ⟨k0, k1, k2, k3, k4, k5, k6, k7⟩ := bz.cells
  obtain ⟨j0, j1, j2, j3, j4⟩ := bs.cells
  go_wp2_with fail
  clear k0 k1 k2 k3 k4 k5 k6 k7
  clear j0 j1 j2 j3 j4
  refine Calls.mono (show Calls Try.prog 47 #[.agg #[.int .i64 t.sn.ix, .int .i64 t.sn.tm, .int .i64 t.sn.sm, .int .i64 t.sn.lv, .bool t.sn.fn, .slice A n c, .int .i64 t.tm, .int .i64 t.vt], .agg #[.int .i64 s.ix, .int .i64 s.tm, .int .i64 s.sm, .int .i64 s.lv, .bool s.fn]] w3 (fun e w' => (∃ (A' : Option Addr) (n' c' : Nat), e = .returned (tupV (saveT t s) (.slice A' n' c')) ∧ n' ≤ c' ∧ n' ≤ 1000000 ∧ OwnF w' B1 (.slice A' n' c') n' (saveT t s).lg) ∧ Below w3.heap.size w3 w') from saved_any t A n c s B1 w3 (OwnF.of own) (by have := B3.size; have := HB.out.1; omega) (by have := HB.out.2.2.1; omega) HB.out.2.1 HB.out.2.2.2.2.1 (termAt_range (of_decide_eq_true HH.out))) ?_
  intro e w4 hh
  obtain ⟨⟨A3, n3, c3, rfl, hc3, hn3, own3⟩, bb⟩ := hh
  (try clear hh)
  replace own := own_keep own bb
  replace bs := bs.below bb
  replace bz := bz.below bb
  replace br := br.below bb
  have B4 := B3.trans (bb.mono B3.size)
  clear bb B3
  unfold tupV
  have HO := Lib.hid (⟨hc3, hn3, own3⟩ : _ ∧ _ ∧ _)
  clear hc3 hn3 own3
  obtain ⟨g0, g1, g2, g3, g4, g5, g6, g7⟩ := br.cells
  have f0 := br.frozen 0
  have f1 := br.frozen 1
  have f2 := br.frozen 2
  have f3 := br.frozen 3
  have f4 := br.frozen 4
  have f5 := br.frozen 5
  have f6 := br.frozen 6
  have f7 := br.frozen 7
  go_wp2_with fail
  obtain ⟨W', hW'⟩ : ∃ W', W' = putU w4 z2 (saveT t s) (.slice A3 n3 c3) := ⟨_, rfl⟩
  have b9 := putU_box br (saveT t s) (.slice A3 n3 c3)
  have B9 := putU_below HZ1.out.2 (saveT t s) (.slice A3 n3 c3) (B4.mono HB.out.1)
  have own9 : OwnF W' B1 (.slice A3 n3 c3) n3 (saveT t s).lg := by rw [hW']; exact putU_ownF br HO.out.2.2
  rw [← hW'] at b9 B9
  have e9 : W' = ((((((((w4.setCell ⟨z2, 0, none⟩ (.int .i64 (saveT t s).sn.ix)).setCell ⟨z2, 1, none⟩ (.int .i64 (saveT t s).sn.tm)).setCell ⟨z2, 2, none⟩ (.int .i64 (saveT t s).sn.sm)).setCell ⟨z2, 3, none⟩ (.int .i64 (saveT t s).sn.lv)).setCell ⟨z2, 4, none⟩ (.bool (saveT t s).sn.fn)).setCell ⟨z2, 5, none⟩ (.slice A3 n3 c3)).setCell ⟨z2, 6, none⟩ (.int .i64 (saveT t s).tm)).setCell ⟨z2, 7, none⟩ (.int .i64 (saveT t s).vt)) := hW'
  rw [← e9]
  clear e9 hW' g0 g1 g2 g3 g4 g5 g6 g7 f0 f1 f2 f3 f4 f5 f6 f7
  obtain ⟨g0, g1, g2, g3, g4, g5, g6, g7⟩ := b9.cells
  exact bodyPost_ret (v := tupV (saveT t s) (.slice A3 n3 c3)) (by unfold tupV; simp [results, Try.results45, go_sem, g0, g1, g2, g3, g4, g5, g6, g7]) rfl ⟨.inl ⟨of_decide_eq_true HH.out, A3, n3, c3, rfl, HO.out.1, HO.out.2.1, own9⟩, B9⟩
set_option maxRecDepth 100000 in
set_option maxHeartbeats 8000000 in
theorem step_save_n (t : TupP) (s : StP) (zs : Nat) (w0 : World) (bs : BoxS w0 zs s) (hi : I64 s.ix) (hh0 : hasB t s = false) :
    StepIs 45 #[.pointer (some ⟨zs, 0, none⟩)] t (saveT t s) (termAtP t s.ix = some s.tm) w0 := by
  intro hM B1 w A n c hB hBw hw own hnc
  have hn : n ≤ 200 := by have := hM.few; have := own_len own; omega
  have hl := own_len own
  have hx := may_ix hM
  have hm := may_mid hM
  replace bs := bs.below hw
  have hzl : zs < w.heap.size := bs.lt
  have HI := Lib.hid hzl
  have HS := Lib.hid hi
  have HB := Lib.hid (⟨hBw, hnc, hn, hx, hm, hl⟩ : _ ∧ _ ∧ _ ∧ _ ∧ _ ∧ _)
  clear hw hB hM hBw hn hl hx hm hnc hzl hi
  have HH := Lib.hid hh0
  clear hh0
  obtain ⟨z1, hz1⟩ : ∃ z, z = w.heap.size := ⟨_, rfl⟩
  obtain ⟨w1, hw1⟩ : ∃ x, x = w.alloc (.cells #[.int .i64 t.sn.ix, .int .i64 t.sn.tm, .int .i64 t.sn.sm, .int .i64 t.sn.lv, .bool t.sn.fn, .slice A n c, .int .i64 t.tm, .int .i64 t.vt] 26) := ⟨_, rfl⟩
  have bb : Below w.heap.size w w1 := by rw [hw1]; exact below_al (below_d0 _) _
  have bz : BoxU w1 z1 t (.slice A n c) := by rw [hw1, hz1]; exact BoxU.new w t _
  replace own := own_keep own bb
  replace bs := bs.below bb
  have B1 := bb
  clear bb
  obtain ⟨z2, hz2⟩ : ∃ z, z = w1.heap.size := ⟨_, rfl⟩
  obtain ⟨w2, hw2⟩ : ∃ x, x = w1.alloc (.cells #[.int .i64 0, .int .i64 0, .int .i64 0, .int .i64 0, .bool false, .slice none 0 0, .int .i64 0, .int .i64 0] 26) := ⟨_, rfl⟩
  have bb : Below w1.heap.size w1 w2 := by rw [hw2]; exact below_al (below_d0 _) _
  have br : BoxU w2 z2 noneT (.slice none 0 0) := by rw [hw2, hz2]; exact BoxU.new w1 noneT _
  replace own := own_keep own bb
  replace bs := bs.below bb
  replace bz := bz.below bb
  have B2 := B1.trans (bb.mono B1.size)
  clear bb B1
  have hp2 : z1 + 1 = z2 := by rw [hz2, hw1, hz1]; simp
  have lz2 : w.heap.size ≤ z2 := by omega
  have ne12 : z1 ≠ z2 := by omega
  have HZZ1 := Lib.hid (show w.heap.size ≤ z1 by omega)
  have HE := Lib.hid (⟨hw1, hw2, hz1, hp2⟩ : _ ∧ _ ∧ _ ∧ _)
  have HLZ := Lib.hid lz2
  clear hw1 hz1 hw2 hz2 hp2 lz2
  unfold tupV
  show Calls Try.prog 45 #[.agg #[.int .i64 t.sn.ix, .int .i64 t.sn.tm, .int .i64 t.sn.sm, .int .i64 t.sn.lv, .bool t.sn.fn, .slice A n c, .int .i64 t.tm, .int .i64 t.vt], .pointer (some ⟨zs, 0, none⟩)] w _
  go_enter Try.func45, Try.ntmps45
  go_upto_region 1 with fail
  rw [← HE.out.1, ← HE.out.2.1, ← HE.out.2.2.1]
  (try rw [HE.out.2.2.2])
  clear HE
  have HZ1 := Lib.hid (show B1 ≤ z1 ∧ B1 ≤ z2 by have := HZZ1.out; have := HLZ.out; have := HB.out.1; omega)
  have HN := Lib.hid (show zs ≠ z1 ∧ zs ≠ z2 by have := HZZ1.out; have := HLZ.out; have := HI.out; omega)
  obtain ⟨k0, k1, k2, k3, k4, k5, k6, k7⟩ := bz.cells
  obtain ⟨j0, j1, j2, j3, j4⟩ := bs.cells
  go_wp2_with fail
  clear k0 k1 k2 k3 k4 k5 k6 k7
  clear j0 j1 j2 j3 j4
  refine Calls.mono (show Calls Try.prog 46 #[.agg #[.int .i64 t.sn.ix, .int .i64 t.sn.tm, .int .i64 t.sn.sm, .int .i64 t.sn.lv, .bool t.sn.fn, .slice A n c, .int .i64 t.tm, .int .i64 t.vt], .agg #[.int .i64 s.ix, .int .i64 s.tm, .int .i64 s.sm, .int .i64 s.lv, .bool s.fn]] w2 (fun e w' => e = .returned (.bool false) ∧ Below w2.heap.size w2 w') from by have h := has_any t A n c s w2 (OwnE.es own) (by have := HB.out.2.2.1; omega) HB.out.2.2.2.2.1 HS.out; rw [HH.out] at h; exact h) ?_
  intro e w3 hh
  obtain ⟨rfl, bb⟩ := hh
  (try clear hh)
  replace own := own_keep own bb
  replace bs := bs.below bb
  replace bz := bz.below bb
  replace br := br.below bb
  have B3 := B2.trans (bb.mono B2.size)
  clear bb B2
  go_wp2_with fail
  refine Calls.mono (must_no w3) ?_
  intro e wv hh
  obtain ⟨rfl, hwv⟩ := hh
  replace hwv := hwv.symm
  subst hwv
  exact ⟨rfl, .inr ⟨of_decide_eq_false HH.out, rfl⟩, B3.mono HB.out.1⟩
theorem step_save (t : TupP) (s : StP) (zs : Nat) (w0 : World) (bs : BoxS w0 zs s) (hi : I64 s.ix) :
    StepIs 45 #[.pointer (some ⟨zs, 0, none⟩)] t (saveT t s) (termAtP t s.ix = some s.tm) w0 := by
  cases h : hasB t s
  · exact step_save_n t s zs w0 bs hi h
  · exact step_save_y t s zs w0 bs hi h
set_option maxRecDepth 100000 in
set_option maxHeartbeats 8000000 in
theorem step_inst_n (t : TupP) (o : TupP) (s : StP) (zs : Nat) (w0 : World) (bs : BoxS w0 zs s) (hi : I64 s.ix) (c1 : ¬ t.sn.ix < s.ix) :
    StepIs 48 #[.pointer (some ⟨zs, 0, none⟩)] t o (t.sn.ix < s.ix) w0 := by
  intro hM B1 w A n c hB hBw hw own hnc
  have hn : n ≤ 200 := by have := hM.few; have := own_len own; omega
  have hl := own_len own
  have hx := may_ix hM
  have hm := may_mid hM
  replace bs := bs.below hw
  have hzl : zs < w.heap.size := bs.lt
  have HI := Lib.hid hzl
  have HS := Lib.hid hi
  have HB := Lib.hid (⟨hBw, hnc, hn, hx, hm, hl⟩ : _ ∧ _ ∧ _ ∧ _ ∧ _ ∧ _)
  clear hw hB hM hBw hn hl hx hm hnc hzl hi
  have q0 : decide (t.sn.ix < s.ix) = false := decide_eq_false c1
  have HC := Lib.hid c1
  clear c1
  obtain ⟨z1, hz1⟩ : ∃ z, z = w.heap.size := ⟨_, rfl⟩
  obtain ⟨w1, hw1⟩ : ∃ x, x = w.alloc (.cells #[.int .i64 t.sn.ix, .int .i64 t.sn.tm, .int .i64 t.sn.sm, .int .i64 t.sn.lv, .bool t.sn.fn, .slice A n c, .int .i64 t.tm, .int .i64 t.vt] 26) := ⟨_, rfl⟩
  have bb : Below w.heap.size w w1 := by rw [hw1]; exact below_al (below_d0 _) _
  have bz : BoxU w1 z1 t (.slice A n c) := by rw [hw1, hz1]; exact BoxU.new w t _
  replace own := own_keep own bb
  replace bs := bs.below bb
  have B1 := bb
  clear bb
  obtain ⟨z2, hz2⟩ : ∃ z, z = w1.heap.size := ⟨_, rfl⟩
  obtain ⟨w2, hw2⟩ : ∃ x, x = w1.alloc (.cells #[.int .i64 0, .int .i64 0, .int .i64 0, .int .i64 0, .bool false, .slice none 0 0, .int .i64 0, .int .i64 0] 26) := ⟨_, rfl⟩
  have bb : Below w1.heap.size w1 w2 := by rw [hw2]; exact below_al (below_d0 _) _
  have br : BoxU w2 z2 noneT (.slice none 0 0) := by rw [hw2, hz2]; exact BoxU.new w1 noneT _
  replace own := own_keep own bb
  replace bs := bs.below bb
  replace bz := bz.below bb
  have B2 := B1.trans (bb.mono B1.size)
  clear bb B1
  have hp2 : z1 + 1 = z2 := by rw [hz2, hw1, hz1]; simp
  have lz2 : w.heap.size ≤ z2 := by omega
  have ne12 : z1 ≠ z2 := by omega
  have HZZ1 := Lib.hid (show w.heap.size ≤ z1 by omega)
  have HE := Lib.hid (⟨hw1, hw2, hz1, hp2⟩ : _ ∧ _ ∧ _ ∧ _)
  have HLZ := Lib.hid lz2
  clear hw1 hz1 hw2 hz2 hp2 lz2
  unfold tupV
  show Calls Try.prog 48 #[.agg #[.int .i64 t.sn.ix, .int .i64 t.sn.tm, .int .i64 t.sn.sm, .int .i64 t.sn.lv, .bool t.sn.fn, .slice A n c, .int .i64 t.tm, .int .i64 t.vt], .pointer (some ⟨zs, 0, none⟩)] w _
  go_enter Try.func48, Try.ntmps48
  go_upto_region 1 with fail
  rw [← HE.out.1, ← HE.out.2.1, ← HE.out.2.2.1]
  (try rw [HE.out.2.2.2])
  clear HE
  have HZ1 := Lib.hid (show B1 ≤ z1 ∧ B1 ≤ z2 by have := HZZ1.out; have := HLZ.out; have := HB.out.1; omega)
  have HN := Lib.hid (show zs ≠ z1 ∧ zs ≠ z2 by have := HZZ1.out; have := HLZ.out; have := HI.out; omega)
  obtain ⟨k0, k1, k2, k3, k4, k5, k6, k7⟩ := bz.cells
  obtain ⟨j0, j1, j2, j3, j4⟩ := bs.cells
  go_wp2_with fail
  clear k0 k1 k2 k3 k4 k5 k6 k7
  clear j0 j1 j2 j3 j4
  clear q0
  refine Calls.mono (must_no w2) ?_
  intro e wv hh
  obtain ⟨rfl, hwv⟩ := hh
  replace hwv := hwv.symm
  subst hwv
  exact ⟨rfl, .inr ⟨Int.not_lt.2 HC.out, rfl⟩, B2.mono HB.out.1⟩
set_option maxRecDepth 100000 in
set_option maxHeartbeats 8000000 in
theorem step_inst_y (t : TupP) (s : StP) (zs : Nat) (w0 : World) (bs : BoxS w0 zs s) (hi : I64 s.ix) (c1 : t.sn.ix < s.ix) (hh0 : hasB t s = true) :
    StepIs 48 #[.pointer (some ⟨zs, 0, none⟩)] t (saveT t s) (t.sn.ix < s.ix) w0 := by
  intro hM B1 w A n c hB hBw hw own hnc
  have hn : n ≤ 200 := by have := hM.few; have := own_len own; omega
  have hl := own_len own
  have hx := may_ix hM
  have hm := may_mid hM
  replace bs := bs.below hw
  have hzl : zs < w.heap.size := bs.lt
  have HI := Lib.hid hzl
  have HS := Lib.hid hi
  have HB := Lib.hid (⟨hBw, hnc, hn, hx, hm, hl⟩ : _ ∧ _ ∧ _ ∧ _ ∧ _ ∧ _)
  clear hw hB hM hBw hn hl hx hm hnc hzl hi
  have q0 : decide (t.sn.ix < s.ix) = true := decide_eq_true c1
  have HC := Lib.hid c1
  clear c1
  have HH := Lib.hid hh0
  clear hh0
  obtain ⟨z1, hz1⟩ : ∃ z, z = w.heap.size := ⟨_, rfl⟩
  obtain ⟨w1, hw1⟩ : ∃ x, x = w.alloc (.cells #[.int .i64 t.sn.ix, .int .i64 t.sn.tm, .int .i64 t.sn.sm, .int .i64 t.sn.lv, .bool t.sn.fn, .slice A n c, .int .i64 t.tm, .int .i64 t.vt] 26) := ⟨_, rfl⟩
  have bb : Below w.heap.size w w1 := by rw [hw1]; exact below_al (below_d0 _) _
  have bz : BoxU w1 z1 t (.slice A n c) := by rw [hw1, hz1]; exact BoxU.new w t _
  replace own := own_keep own bb
  replace bs := bs.below bb
  have B1 := bb
  clear bb
  obtain ⟨z2, hz2⟩ : ∃ z, z = w1.heap.size := ⟨_, rfl⟩
  obtain ⟨w2, hw2⟩ : ∃ x, x = w1.alloc (.cells #[.int .i64 0, .int .i64 0, .int .i64 0, .int .i64 0, .bool false, .slice none 0 0, .int .i64 0, .int .i64 0] 26) := ⟨_, rfl⟩
  have bb : Below w1.heap.size w1 w2 := by rw [hw2]; exact below_al (below_d0 _) _
  have br : BoxU w2 z2 noneT (.slice none 0 0) := by rw [hw2, hz2]; exact BoxU.new w1 noneT _
  replace own := own_keep own bb
  replace bs := bs.below bb
  replace bz := bz.below bb
  have B2 := B1.trans (bb.mono B1.size)
  clear bb B1
  have hp2 : z1 + 1 = z2 := by rw [hz2, hw1, hz1]; simp
  have lz2 : w.heap.size ≤ z2 := by omega
  have ne12 : z1 ≠ z2 := by omega
  have HZZ1 := Lib.hid (show w.heap.size ≤ z1 by omega)
  have HE := Lib.hid (⟨hw1, hw2, hz1, hp2⟩ : _ ∧ _ ∧ _ ∧ _)
  have HLZ := Lib.hid lz2
  clear hw1 hz1 hw2 hz2 hp2 lz2
  unfold tupV
  show Calls Try.prog 48 #[.agg #[.int .i64 t.sn.ix, .int .i64 t.sn.tm, .int .i64 t.sn.sm, .int .i64 t.sn.lv, .bool t.sn.fn, .slice A n c, .int .i64 t.tm, .int .i64 t.vt], .pointer (some ⟨zs, 0, none⟩)] w _
  go_enter Try.func48, Try.ntmps48
  go_upto_region 1 with fail
  rw [← HE.out.1, ← HE.out.2.1, ← HE.out.2.2.1]
  (try rw [HE.out.2.2.2])
  clear HE
  have HZ1 := Lib.hid (show B1 ≤ z1 ∧ B1 ≤ z2 by have := HZZ1.out; have := HLZ.out; have := HB.out.1; omega)
  have HN := Lib.hid (show zs ≠ z1 ∧ zs ≠ z2 by have := HZZ1.out; have := HLZ.out; have := HI.out; omega)
  obtain ⟨k0, k1, k2, k3, k4, k5, k6, k7⟩ := bz.cells
  obtain ⟨j0, j1, j2, j3, j4⟩ := bs.cells
  go_wp2_with fail
  clear k0 k1 k2 k3 k4 k5 k6 k7
  clear j0 j1 j2 j3 j4
  clear q0
  refine Calls.mono (must_yes w2) ?_
  intro e wv hh
  obtain ⟨rfl, hwv⟩ := hh
  replace hwv := hwv.symm
  subst hwv
  obtain ⟨k0, k1, k2, k3, k4, k5, k6, k7⟩ := bz.cells
  obtain ⟨j0, j1, j2, j3, j4⟩ := bs.cells
  go_wp2_with fail
  clear k0 k1 k2 k3 k4 k5 k6 k7
  clear j0 j1 j2 j3 j4
  refine Calls.mono (show Calls Try.prog 46 #[.agg #[.int .i64 t.sn.ix, .int .i64 t.sn.tm, .int .i64 t.sn.sm, .int .i64 t.sn.lv, .bool t.sn.fn, .slice A n c, .int .i64 t.tm, .int .i64 t.vt], .agg #[.int .i64 s.ix, .int .i64 s.tm, .int .i64 s.sm, .int .i64 s.lv, .bool s.fn]] w2 (fun e w' => e = .returned (.bool true) ∧ Below w2.heap.size w2 w') from by have h := has_any t A n c s w2 (OwnE.es own) (by have := HB.out.2.2.1; omega) HB.out.2.2.2.2.1 HS.out; rw [HH.out] at h; exact h) ?_
  intro e w3 hh
  obtain ⟨rfl, bb⟩ := hh
  (try clear hh)
  replace own := own_keep own bb
  replace bs := bs.below bb
  replace bz := bz.below bb
  replace br := br.below bb
  have B3 := B2.trans (bb.mono B2.size)
  clear bb B2
  obtain ⟨k0, k1, k2, k3, k4, k5, k6, k7⟩ := bz.cells
  obtain ⟨j0, j1, j2, j3, j4⟩ := bs.cells
  go_wp2_with fail
  clear k0 k1 k2 k3 k4 k5 k6 k7
  clear j0 j1 j2 j3 j4
  refine Calls.mono (show Calls Try.prog 47 #[.agg #[.int .i64 t.sn.ix, .int .i64 t.sn.tm, .int .i64 t.sn.sm, .int .i64 t.sn.lv, .bool t.sn.fn, .slice A n c, .int .i64 t.tm, .int .i64 t.vt], .agg #[.int .i64 s.ix, .int .i64 s.tm, .int .i64 s.sm, .int .i64 s.lv, .bool s.fn]] w3 (fun e w' => (∃ (A' : Option Addr) (n' c' : Nat), e = .returned (tupV (saveT t s) (.slice A' n' c')) ∧ n' ≤ c' ∧ n' ≤ 1000000 ∧ OwnF w' B1 (.slice A' n' c') n' (saveT t s).lg) ∧ Below w3.heap.size w3 w') from saved_any t A n c s B1 w3 (OwnF.of own) (by have := B3.size; have := HB.out.1; omega) (by have := HB.out.2.2.1; omega) HB.out.2.1 HB.out.2.2.2.2.1 (termAt_range (of_decide_eq_true HH.out))) ?_
  intro e w4 hh
  obtain ⟨⟨A3, n3, c3, rfl, hc3, hn3, own3⟩, bb⟩ := hh
  (try clear hh)
  replace own := own_keep own bb
  replace bs := bs.below bb
  replace bz := bz.below bb
  replace br := br.below bb
  have B4 := B3.trans (bb.mono B3.size)
  clear bb B3
  unfold tupV
  have HO := Lib.hid (⟨hc3, hn3, own3⟩ : _ ∧ _ ∧ _)
  clear hc3 hn3 own3
  obtain ⟨g0, g1, g2, g3, g4, g5, g6, g7⟩ := br.cells
  have f0 := br.frozen 0
  have f1 := br.frozen 1
  have f2 := br.frozen 2
  have f3 := br.frozen 3
  have f4 := br.frozen 4
  have f5 := br.frozen 5
  have f6 := br.frozen 6
  have f7 := br.frozen 7
  go_wp2_with fail
  obtain ⟨W', hW'⟩ : ∃ W', W' = putU w4 z2 (saveT t s) (.slice A3 n3 c3) := ⟨_, rfl⟩
  have b9 := putU_box br (saveT t s) (.slice A3 n3 c3)
  have B9 := putU_below HZ1.out.2 (saveT t s) (.slice A3 n3 c3) (B4.mono HB.out.1)
  have own9 : OwnF W' B1 (.slice A3 n3 c3) n3 (saveT t s).lg := by rw [hW']; exact putU_ownF br HO.out.2.2
  rw [← hW'] at b9 B9
  have e9 : W' = ((((((((w4.setCell ⟨z2, 0, none⟩ (.int .i64 (saveT t s).sn.ix)).setCell ⟨z2, 1, none⟩ (.int .i64 (saveT t s).sn.tm)).setCell ⟨z2, 2, none⟩ (.int .i64 (saveT t s).sn.sm)).setCell ⟨z2, 3, none⟩ (.int .i64 (saveT t s).sn.lv)).setCell ⟨z2, 4, none⟩ (.bool (saveT t s).sn.fn)).setCell ⟨z2, 5, none⟩ (.slice A3 n3 c3)).setCell ⟨z2, 6, none⟩ (.int .i64 (saveT t s).tm)).setCell ⟨z2, 7, none⟩ (.int .i64 (saveT t s).vt)) := hW'
  rw [← e9]
  clear e9 hW' g0 g1 g2 g3 g4 g5 g6 g7 f0 f1 f2 f3 f4 f5 f6 f7
  obtain ⟨g0, g1, g2, g3, g4, g5, g6, g7⟩ := b9.cells
  exact bodyPost_ret (v := tupV (saveT t s) (.slice A3 n3 c3)) (by unfold tupV; simp [results, Try.results48, go_sem, g0, g1, g2, g3, g4, g5, g6, g7]) rfl ⟨.inl ⟨HC.out, A3, n3, c3, rfl, HO.out.1, HO.out.2.1, own9⟩, B9⟩
set_option maxRecDepth 100000 in
set_option maxHeartbeats 8000000 in
theorem step_inst_g (t : TupP) (s : StP) (zs : Nat) (w0 : World) (bs : BoxS w0 zs s) (hi : I64 s.ix) (c1 : t.sn.ix < s.ix) (hh0 : hasB t s = false) :
    StepIs 48 #[.pointer (some ⟨zs, 0, none⟩)] t (goneT t s) (t.sn.ix < s.ix) w0 := by
  intro hM B1 w A n c hB hBw hw own hnc
  have hn : n ≤ 200 := by have := hM.few; have := own_len own; omega
  have hl := own_len own
  have hx := may_ix hM
  have hm := may_mid hM
  replace bs := bs.below hw
  have hzl : zs < w.heap.size := bs.lt
  have HI := Lib.hid hzl
  have HS := Lib.hid hi
  have HB := Lib.hid (⟨hBw, hnc, hn, hx, hm, hl⟩ : _ ∧ _ ∧ _ ∧ _ ∧ _ ∧ _)
  clear hw hB hM hBw hn hl hx hm hnc hzl hi
  have q0 : decide (t.sn.ix < s.ix) = true := decide_eq_true c1
  have HC := Lib.hid c1
  clear c1
  have HH := Lib.hid hh0
  clear hh0
  obtain ⟨z1, hz1⟩ : ∃ z, z = w.heap.size := ⟨_, rfl⟩
  obtain ⟨w1, hw1⟩ : ∃ x, x = w.alloc (.cells #[.int .i64 t.sn.ix, .int .i64 t.sn.tm, .int .i64 t.sn.sm, .int .i64 t.sn.lv, .bool t.sn.fn, .slice A n c, .int .i64 t.tm, .int .i64 t.vt] 26) := ⟨_, rfl⟩
  have bb : Below w.heap.size w w1 := by rw [hw1]; exact below_al (below_d0 _) _
  have bz : BoxU w1 z1 t (.slice A n c) := by rw [hw1, hz1]; exact BoxU.new w t _
  replace own := own_keep own bb
  replace bs := bs.below bb
  have B1 := bb
  clear bb
  obtain ⟨z2, hz2⟩ : ∃ z, z = w1.heap.size := ⟨_, rfl⟩
  obtain ⟨w2, hw2⟩ : ∃ x, x = w1.alloc (.cells #[.int .i64 0, .int .i64 0, .int .i64 0, .int .i64 0, .bool false, .slice none 0 0, .int .i64 0, .int .i64 0] 26) := ⟨_, rfl⟩
  have bb : Below w1.heap.size w1 w2 := by rw [hw2]; exact below_al (below_d0 _) _
  have br : BoxU w2 z2 noneT (.slice none 0 0) := by rw [hw2, hz2]; exact BoxU.new w1 noneT _
  replace own := own_keep own bb
  replace bs := bs.below bb
  replace bz := bz.below bb
  have B2 := B1.trans (bb.mono B1.size)
  clear bb B1
  have hp2 : z1 + 1 = z2 := by rw [hz2, hw1, hz1]; simp
  have lz2 : w.heap.size ≤ z2 := by omega
  have ne12 : z1 ≠ z2 := by omega
  have HZZ1 := Lib.hid (show w.heap.size ≤ z1 by omega)
  have HE := Lib.hid (⟨hw1, hw2, hz1, hp2⟩ : _ ∧ _ ∧ _ ∧ _)
  have HLZ := Lib.hid lz2
  clear hw1 hz1 hw2 hz2 hp2 lz2
  unfold tupV
  show Calls Try.prog 48 #[.agg #[.int .i64 t.sn.ix, .int .i64 t.sn.tm, .int .i64 t.sn.sm, .int .i64 t.sn.lv, .bool t.sn.fn, .slice A n c, .int .i64 t.tm, .int .i64 t.vt], .pointer (some ⟨zs, 0, none⟩)] w _
  go_enter Try.func48, Try.ntmps48
  go_upto_region 1 with fail
  rw [← HE.out.1, ← HE.out.2.1, ← HE.out.2.2.1]
  (try rw [HE.out.2.2.2])
  clear HE
  have HZ1 := Lib.hid (show B1 ≤ z1 ∧ B1 ≤ z2 by have := HZZ1.out; have := HLZ.out; have := HB.out.1; omega)
  have HN := Lib.hid (show zs ≠ z1 ∧ zs ≠ z2 by have := HZZ1.out; have := HLZ.out; have := HI.out; omega)
  obtain ⟨k0, k1, k2, k3, k4, k5, k6, k7⟩ := bz.cells
  obtain ⟨j0, j1, j2, j3, j4⟩ := bs.cells
  go_wp2_with fail
  clear k0 k1 k2 k3 k4 k5 k6 k7
  clear j0 j1 j2 j3 j4
  clear q0
  refine Calls.mono (must_yes w2) ?_
  intro e wv hh
  obtain ⟨rfl, hwv⟩ := hh
  replace hwv := hwv.symm
  subst hwv
  obtain ⟨k0, k1, k2, k3, k4, k5, k6, k7⟩ := bz.cells
  obtain ⟨j0, j1, j2, j3, j4⟩ := bs.cells
  go_wp2_with fail
  clear k0 k1 k2 k3 k4 k5 k6 k7
  clear j0 j1 j2 j3 j4
  refine Calls.mono (show Calls Try.prog 46 #[.agg #[.int .i64 t.sn.ix, .int .i64 t.sn.tm, .int .i64 t.sn.sm, .int .i64 t.sn.lv, .bool t.sn.fn, .slice A n c, .int .i64 t.tm, .int .i64 t.vt], .agg #[.int .i64 s.ix, .int .i64 s.tm, .int .i64 s.sm, .int .i64 s.lv, .bool s.fn]] w2 (fun e w' => e = .returned (.bool false) ∧ Below w2.heap.size w2 w') from by have h := has_any t A n c s w2 (OwnE.es own) (by have := HB.out.2.2.1; omega) HB.out.2.2.2.2.1 HS.out; rw [HH.out] at h; exact h) ?_
  intro e w3 hh
  obtain ⟨rfl, bb⟩ := hh
  (try clear hh)
  replace own := own_keep own bb
  replace bs := bs.below bb
  replace bz := bz.below bb
  replace br := br.below bb
  have B3 := B2.trans (bb.mono B2.size)
  clear bb B2
  obtain ⟨k0, k1, k2, k3, k4, k5, k6, k7⟩ := bz.cells
  obtain ⟨j0, j1, j2, j3, j4⟩ := bs.cells
  have f0 := bz.frozen 0
  have f1 := bz.frozen 1
  have f2 := bz.frozen 2
  have f3 := bz.frozen 3
  have f4 := bz.frozen 4
  have f5 := bz.frozen 5
  go_upto_region 5 with fail
  clear k0 k1 k2 k3 k4 k5 k6 k7
  clear j0 j1 j2 j3 j4
  clear f0 f1 f2 f3 f4 f5
  obtain ⟨w7, hw7⟩ : ∃ x, x = ((((((w3.setCell ⟨z1, 0, none⟩ (.int .i64 s.ix)).setCell ⟨z1, 1, none⟩ (.int .i64 s.tm)).setCell ⟨z1, 2, none⟩ (.int .i64 s.sm)).setCell ⟨z1, 3, none⟩ (.int .i64 s.lv)).setCell ⟨z1, 4, none⟩ (.bool s.fn)).setCell ⟨z1, 5, none⟩ (.slice none 0 0)) := ⟨_, rfl⟩
  have br7 : BoxU w7 z2 noneT (.slice none 0 0) := by rw [hw7]; have h := (fun h => ne12 h.symm : z2 ≠ z1); exact set_boxU (set_boxU (set_boxU (set_boxU (set_boxU (set_boxU br h) h) h) h) h) h
  have bz7 : BoxU w7 z1 (goneT t s) (.slice none 0 0) := by rw [hw7]; exact put5U (put04U bz s) [] _
  have B7 : Below w.heap.size w w7 := by rw [hw7]; exact (((((B3.setCell (p := ⟨z1, 0, none⟩) HZZ1.out _).setCell (p := ⟨z1, 1, none⟩) HZZ1.out _).setCell (p := ⟨z1, 2, none⟩) HZZ1.out _).setCell (p := ⟨z1, 3, none⟩) HZZ1.out _).setCell (p := ⟨z1, 4, none⟩) HZZ1.out _).setCell (p := ⟨z1, 5, none⟩) HZZ1.out _
  rw [← hw7]
  clear hw7 B3 br bz bs own
  obtain ⟨k0, k1, k2, k3, k4, k5, k6, k7⟩ := bz7.cells
  (try dsimp only [goneT] at k0)
  (try dsimp only [goneT] at k1)
  (try dsimp only [goneT] at k2)
  (try dsimp only [goneT] at k3)
  (try dsimp only [goneT] at k4)
  (try dsimp only [goneT] at k5)
  (try dsimp only [goneT] at k6)
  (try dsimp only [goneT] at k7)
  obtain ⟨g0, g1, g2, g3, g4, g5, g6, g7⟩ := br7.cells
  have f0 := br7.frozen 0
  have f1 := br7.frozen 1
  have f2 := br7.frozen 2
  have f3 := br7.frozen 3
  have f4 := br7.frozen 4
  have f5 := br7.frozen 5
  have f6 := br7.frozen 6
  have f7 := br7.frozen 7
  go_wp2_with fail
  clear k0 k1 k2 k3 k4 k5 k6 k7
  obtain ⟨W', hW'⟩ : ∃ W', W' = putU w7 z2 (goneT t s) (.slice none 0 0) := ⟨_, rfl⟩
  have b9 := putU_box br7 (goneT t s) (.slice none 0 0)
  have B9 := putU_below HZ1.out.2 (goneT t s) (.slice none 0 0) (B7.mono HB.out.1)
  have own9 : OwnF W' B1 (.slice none 0 0) 0 [] := by rw [hW']; exact putU_ownF br7 (OwnF.of (World.ownsRow_nil _ _ _ _))
  rw [← hW'] at b9 B9
  have e9 : W' = ((((((((w7.setCell ⟨z2, 0, none⟩ (.int .i64 s.ix)).setCell ⟨z2, 1, none⟩ (.int .i64 s.tm)).setCell ⟨z2, 2, none⟩ (.int .i64 s.sm)).setCell ⟨z2, 3, none⟩ (.int .i64 s.lv)).setCell ⟨z2, 4, none⟩ (.bool s.fn)).setCell ⟨z2, 5, none⟩ (.slice none 0 0)).setCell ⟨z2, 6, none⟩ (.int .i64 t.tm)).setCell ⟨z2, 7, none⟩ (.int .i64 t.vt)) := hW'
  rw [← e9]
  clear e9 hW' g0 g1 g2 g3 g4 g5 g6 g7 f0 f1 f2 f3 f4 f5 f6 f7
  obtain ⟨g0, g1, g2, g3, g4, g5, g6, g7⟩ := b9.cells
  exact bodyPost_ret (v := tupV (goneT t s) (.slice none 0 0)) (by unfold tupV; simp [results, Try.results48, go_sem, g0, g1, g2, g3, g4, g5, g6, g7]) rfl ⟨.inl ⟨HC.out, none, 0, 0, rfl, by omega, by omega, own9⟩, B9⟩
end Go.Proofs.Ytbhnlmlaebngmaa
