/-
  EntryTells: it returns true.
-/
import Derived.Test.YtbaaghggilfpjaaWakes
import Derived.Test.YtbaaghggilfpjaaRLev
import Derived.Test.YtbaaghggilfpjaaInts
namespace Go.Proofs.Ytbaaghggilfpjaa
open Go.RowKit Go.Maps

theorem eql_same (s : StP) (w : World) : (binOp .eql 23 (.agg #[.int .i64 s.ix, .int .i64 s.tm, .int .i64 s.sm, .int .i64 s.lv, .bool s.fn]) (.agg #[.int .i64 s.ix, .int .i64 s.tm, .int .i64 s.sm, .int .i64 s.lv, .bool s.fn])).run Try.prog w = .ok (.bool true) w := (eql_st s s w).trans (by rw [decide_eq_true rfl])

set_option maxRecDepth 100000 in
set_option maxHeartbeats 4000000 in
theorem tells_law (s : StP) (e : EnP) (A : Option Addr) (n c : Nat) (l : List EnP) (k : Int) (w : World) (hl : Es w w.heap.size A n l) :
    Calls Try.prog 3 #[s.v, e.v, .slice A n c, .int .i64 k] w fun e w' => e = .returned (.bool true) ∧ Below w.heap.size w w' := by
  have Hl := Lib.hid hl
  have Hll := Lib.hid hl.len
  clear hl
  unfold StP.v EnP.v
  go_enter Try.func3, Try.ntmps3
  by_cases hn : 100 < n
  · have t0 : decide ((100 : Int) < (n : Int)) = true := by simp; omega
    go_wp2_with fail
    refine (wakes_true _).mono ?_
    rintro e w1 ⟨rfl, hb1⟩
    go_wp2_with fail
    go_ret
    exact ⟨rfl, below_on (below_al (below_al (below_d0 w) _) _) hb1⟩
  have t0 : decide ((100 : Int) < (n : Int)) = false := by simp; omega
  have hn1 : n ≤ 140737488355328 := by omega
  have hn2 : n ≤ 1000 := by omega
  go_upto_region 3 with fail
  obtain ⟨z, hz⟩ : ∃ z, z = w.heap.size := ⟨_, rfl⟩
  obtain ⟨wa, hwa⟩ : ∃ x, x = w.alloc (.cells #[.int .i64 s.ix, .int .i64 s.tm, .int .i64 s.sm, .int .i64 s.lv, .bool s.fn] 23) := ⟨_, rfl⟩
  obtain ⟨w0, hw0⟩ : ∃ x, x = wa.alloc (.cells #[.int .i64 e.tm, .int .i64 e.kd, .int .i64 e.vl] 25) := ⟨_, rfl⟩
  have hsa : wa.heap.size = z + 1 := by rw [hwa, hz]; simp
  have hBa : Below w.heap.size w wa := by rw [hwa]; exact below_al (below_d0 w) _
  have hB0 : Below w.heap.size w w0 := by rw [hw0]; exact below_al hBa _
  have bs0 : BoxS w0 z s := BoxS.below (W := wa) (by rw [hwa, hz]; exact BoxS.new w s) (by rw [hw0]; exact below_al (below_d0 wa) _)
  have be0 : BoxE w0 (z + 1) e := by rw [hw0, ← hsa]; exact BoxE.new wa e
  have he : w0 = (w.alloc (.cells #[.int .i64 s.ix, .int .i64 s.tm, .int .i64 s.sm, .int .i64 s.lv, .bool s.fn] 23)).alloc (.cells #[.int .i64 e.tm, .int .i64 e.kd, .int .i64 e.vl] 25) := by rw [hw0, hwa]
  rw [← he, ← hz]
  have hl0 := Hl.out.on hB0 hB0.size
  have X0 := Lib.hid (show ∀ W, Below w0.heap.size w0 W → BoxS W z s ∧ BoxE W (z + 1) e from fun W hW => ⟨bs0.below hW, be0.below hW⟩)
  have HL := Lib.hid (show ∀ W, Below w0.heap.size w0 W → Es W W.heap.size A n l from fun W hW => hl0.on hW hW.size)
  have HB := Lib.hid hB0
  clear he hw0 hwa hz hsa hBa hB0 bs0 be0 hl0 hn
  obtain ⟨rb, hrb⟩ : ∃ x, x = rightB e := ⟨_, rfl⟩
  obtain ⟨fb, hfb⟩ : ∃ x, x = fineB s := ⟨_, rfl⟩
  obtain ⟨X, hX⟩ : ∃ x, x = nextP s e := ⟨_, rfl⟩
  obtain ⟨Y, hY⟩ : ∃ x, x = allP s l := ⟨_, rfl⟩
  obtain ⟨nm, hnm⟩ : ∃ x, x = nameB k := ⟨_, rfl⟩
  have r1 := fun w => right_any e w
  have r2 := fun w => rright_any e w
  have f1 := fun w => fine_any s w
  have f2 := fun w => rfine_any s w
  have x1 := fun w => next_any s e w
  have x2 := fun w => rnext_any s e w
  have y1 := fun w hl => all_any s A n c l w hl hn1
  have y2 := fun w hl => rall_any s A n c l w hl hn1
  have m1 := fun w => name_any k w
  have m2 := fun w => rname_any k w
  rw [← hrb] at r1 r2
  rw [← hfb] at f1 f2
  rw [← hX] at x1 x2
  rw [← hY] at y1 y2
  rw [← hnm] at m1 m2
  have HC := Lib.hid (⟨r1, r2, f1, f2, x1, x2, y1, y2, m1, m2⟩ : _ ∧ _ ∧ _ ∧ _ ∧ _ ∧ _ ∧ _ ∧ _ ∧ _ ∧ _)
  clear hrb hfb hX hY hnm r1 r2 f1 f2 x1 x2 y1 y2 m1 m2
  have q1 := eql_same X
  have q2 := eql_same Y
  have q3 := eql_same firstP
  unfold firstP at q3
  have u1 : (rb == rb) = true := by simp
  have u2 : (fb == fb) = true := by simp
  have u3 : (nm.toList == nm.toList) = true := by simp
  refine wp_region_held_drew (S := (fun W => Below w0.heap.size w0 W)) (by kernel_rfl) (below_dr (below_d0 _)) (fun hHeld => ?_)
  refine take_at (i := 0) (d := 13) (oi := ?o1) (v := ?v1) ?hi1 ?hd1 (by kernel_rfl) (by kernel_rfl) (by kernel_rfl) ?hw1 ?hy1 ?hq1 (by assumption) ?r1
  case hi1 => (simp only [List.getElem?_toArray, List.getElem?_cons_zero]; rfl)
  case hd1 => rfl
  case hw1 => rfl
  case hy1 => ((intro w hSw; (try dsimp only at hSw); obtain ⟨bs, be⟩ := X0.out _ hSw; obtain ⟨k0, k1, k2, k3, k4⟩ := bs.cells; obtain ⟨c0, c1, c2⟩ := be.cells; go_simp) <;> (with_reducible rfl))
  case hq1 => exact fun _ _ _ h => h
  simp only [List.set_cons_succ, List.set_cons_zero]
  refine take_at (i := 2) (d := 15) (oi := ?o2) (v := ?v2) ?hi2 ?hd2 (by kernel_rfl) (by kernel_rfl) (by kernel_rfl) ?hw2 ?hy2 ?hq2 (by assumption) ?r2
  case hi2 => (simp only [List.getElem?_toArray, List.getElem?_cons_succ, List.getElem?_cons_zero]; rfl)
  case hd2 => rfl
  case hw2 => rfl
  case hy2 => ((intro w hSw; (try dsimp only at hSw); obtain ⟨bs, be⟩ := X0.out _ hSw; obtain ⟨k0, k1, k2, k3, k4⟩ := bs.cells; obtain ⟨c0, c1, c2⟩ := be.cells; go_simp) <;> (with_reducible rfl))
  case hq2 => exact fun _ _ _ h => h
  simp only [List.set_cons_succ, List.set_cons_zero]
  refine call_at (i := 1) (d := 14) (oi := ?o3) (f := ?f3) (args := ?a3) ?hi3 ?hd3 (by kernel_rfl) ?hw3 ?he3 ?hc3
  case hi3 => (simp only [List.getElem?_toArray, List.getElem?_cons_succ, List.getElem?_cons_zero]; rfl)
  case hd3 => rfl
  case hw3 => rfl
  case he3 => (go_simp; constructor <;> with_reducible rfl)
  refine Calls.mono (HC.out.1 _) ?_
  rintro r w1 ⟨rfl, hb1⟩
  have kb : Below w0.heap.size w0 w1 := hHeld.trans (hb1.mono hHeld.size)
  refine ⟨_, rfl, kb, fun hHeld => ?_⟩
  simp only [List.set_cons_succ, List.set_cons_zero]
  refine call_at (i := 3) (d := 16) (oi := ?o4) (f := ?f4) (args := ?a4) ?hi4 ?hd4 (by kernel_rfl) ?hw4 ?he4 ?hc4
  case hi4 => (simp only [List.getElem?_toArray, List.getElem?_cons_succ, List.getElem?_cons_zero]; rfl)
  case hd4 => rfl
  case hw4 => rfl
  case he4 => (go_simp; constructor <;> with_reducible rfl)
  refine Calls.mono (HC.out.2.1 _) ?_
  rintro r w1 ⟨rfl, hb1⟩
  have kb : Below w0.heap.size w0 w1 := hHeld.trans (hb1.mono hHeld.size)
  refine ⟨_, rfl, kb, fun hHeld => ?_⟩
  simp only [List.set_cons_succ, List.set_cons_zero]
  refine take_at (i := 4) (d := 17) (oi := ?o5) (v := ?v5) ?hi5 ?hd5 (by kernel_rfl) (by kernel_rfl) (by kernel_rfl) ?hw5 ?hy5 ?hq5 (by assumption) ?r5
  case hi5 => (simp only [List.getElem?_toArray, List.getElem?_cons_succ, List.getElem?_cons_zero]; rfl)
  case hd5 => rfl
  case hw5 => rfl
  case hy5 => ((intro w hSw; (try dsimp only at hSw); go_simp) <;> (with_reducible rfl))
  case hq5 => exact fun _ _ _ h => h
  simp only [List.set_cons_succ, List.set_cons_zero]
  refine take_at (i := 5) (d := 18) (oi := ?o6) (v := ?v6) ?hi6 ?hd6 (by kernel_rfl) (by kernel_rfl) (by kernel_rfl) ?hw6 ?hy6 ?hq6 (by assumption) ?r6
  case hi6 => (simp only [List.getElem?_toArray, List.getElem?_cons_succ, List.getElem?_cons_zero]; rfl)
  case hd6 => rfl
  case hw6 => rfl
  case hy6 => ((intro w hSw; (try dsimp only at hSw); go_simp) <;> (with_reducible rfl))
  case hq6 => exact fun _ _ _ h => h
  simp only [List.set_cons_succ, List.set_cons_zero]
  refine take_at (i := 6) (d := 19) (oi := ?o7) (v := ?v7) ?hi7 ?hd7 (by kernel_rfl) (by kernel_rfl) (by kernel_rfl) ?hw7 ?hy7 ?hq7 (by assumption) ?r7
  case hi7 => (simp only [List.getElem?_toArray, List.getElem?_cons_succ, List.getElem?_cons_zero]; rfl)
  case hd7 => rfl
  case hw7 => rfl
  case hy7 => ((intro w hSw; (try dsimp only at hSw); obtain ⟨bs, be⟩ := X0.out _ hSw; obtain ⟨k0, k1, k2, k3, k4⟩ := bs.cells; obtain ⟨c0, c1, c2⟩ := be.cells; go_simp) <;> (with_reducible rfl))
  case hq7 => exact fun _ _ _ h => h
  simp only [List.set_cons_succ, List.set_cons_zero]
  refine take_at (i := 8) (d := 21) (oi := ?o8) (v := ?v8) ?hi8 ?hd8 (by kernel_rfl) (by kernel_rfl) (by kernel_rfl) ?hw8 ?hy8 ?hq8 (by assumption) ?r8
  case hi8 => (simp only [List.getElem?_toArray, List.getElem?_cons_succ, List.getElem?_cons_zero]; rfl)
  case hd8 => rfl
  case hw8 => rfl
  case hy8 => ((intro w hSw; (try dsimp only at hSw); obtain ⟨bs, be⟩ := X0.out _ hSw; obtain ⟨k0, k1, k2, k3, k4⟩ := bs.cells; obtain ⟨c0, c1, c2⟩ := be.cells; go_simp) <;> (with_reducible rfl))
  case hq8 => exact fun _ _ _ h => h
  simp only [List.set_cons_succ, List.set_cons_zero]
  refine call_at (i := 7) (d := 20) (oi := ?o9) (f := ?f9) (args := ?a9) ?hi9 ?hd9 (by kernel_rfl) ?hw9 ?he9 ?hc9
  case hi9 => (simp only [List.getElem?_toArray, List.getElem?_cons_succ, List.getElem?_cons_zero]; rfl)
  case hd9 => rfl
  case hw9 => rfl
  case he9 => (go_simp; constructor <;> with_reducible rfl)
  refine Calls.mono (HC.out.2.2.1 _) ?_
  rintro r w1 ⟨rfl, hb1⟩
  have kb : Below w0.heap.size w0 w1 := hHeld.trans (hb1.mono hHeld.size)
  refine ⟨_, rfl, kb, fun hHeld => ?_⟩
  simp only [List.set_cons_succ, List.set_cons_zero]
  refine call_at (i := 9) (d := 22) (oi := ?o10) (f := ?f10) (args := ?a10) ?hi10 ?hd10 (by kernel_rfl) ?hw10 ?he10 ?hc10
  case hi10 => (simp only [List.getElem?_toArray, List.getElem?_cons_succ, List.getElem?_cons_zero]; rfl)
  case hd10 => rfl
  case hw10 => rfl
  case he10 => (go_simp; constructor <;> with_reducible rfl)
  refine Calls.mono (HC.out.2.2.2.1 _) ?_
  rintro r w1 ⟨rfl, hb1⟩
  have kb : Below w0.heap.size w0 w1 := hHeld.trans (hb1.mono hHeld.size)
  refine ⟨_, rfl, kb, fun hHeld => ?_⟩
  simp only [List.set_cons_succ, List.set_cons_zero]
  refine take_at (i := 10) (d := 23) (oi := ?o11) (v := ?v11) ?hi11 ?hd11 (by kernel_rfl) (by kernel_rfl) (by kernel_rfl) ?hw11 ?hy11 ?hq11 (by assumption) ?r11
  case hi11 => (simp only [List.getElem?_toArray, List.getElem?_cons_succ, List.getElem?_cons_zero]; rfl)
  case hd11 => rfl
  case hw11 => rfl
  case hy11 => ((intro w hSw; (try dsimp only at hSw); go_simp) <;> (with_reducible rfl))
  case hq11 => exact fun _ _ _ h => h
  simp only [List.set_cons_succ, List.set_cons_zero]
  refine take_at (i := 11) (d := 24) (oi := ?o12) (v := ?v12) ?hi12 ?hd12 (by kernel_rfl) (by kernel_rfl) (by kernel_rfl) ?hw12 ?hy12 ?hq12 (by assumption) ?r12
  case hi12 => (simp only [List.getElem?_toArray, List.getElem?_cons_succ, List.getElem?_cons_zero]; rfl)
  case hd12 => rfl
  case hw12 => rfl
  case hy12 => ((intro w hSw; (try dsimp only at hSw); go_simp) <;> (with_reducible rfl))
  case hq12 => exact fun _ _ _ h => h
  simp only [List.set_cons_succ, List.set_cons_zero]
  refine take_at (i := 12) (d := 25) (oi := ?o13) (v := ?v13) ?hi13 ?hd13 (by kernel_rfl) (by kernel_rfl) (by kernel_rfl) ?hw13 ?hy13 ?hq13 (by assumption) ?r13
  case hi13 => (simp only [List.getElem?_toArray, List.getElem?_cons_succ, List.getElem?_cons_zero]; rfl)
  case hd13 => rfl
  case hw13 => rfl
  case hy13 => ((intro w hSw; (try dsimp only at hSw); go_simp) <;> (with_reducible rfl))
  case hq13 => exact fun _ _ _ h => h
  simp only [List.set_cons_succ, List.set_cons_zero]
  refine call_at (i := 13) (d := 26) (oi := ?o14) (f := ?f14) (args := ?a14) ?hi14 ?hd14 (by kernel_rfl) ?hw14 ?he14 ?hc14
  case hi14 => (simp only [List.getElem?_toArray, List.getElem?_cons_succ, List.getElem?_cons_zero]; rfl)
  case hd14 => rfl
  case hw14 => rfl
  case he14 => (go_simp; constructor <;> with_reducible rfl)
  refine Calls.mono (first_any _) ?_
  rintro r w1 ⟨rfl, hb1⟩
  have kb : Below w0.heap.size w0 w1 := hHeld.trans (hb1.mono hHeld.size)
  unfold StP.v firstP
  refine ⟨_, rfl, kb, fun hHeld => ?_⟩
  simp only [List.set_cons_succ, List.set_cons_zero]
  refine call_at (i := 14) (d := 27) (oi := ?o15) (f := ?f15) (args := ?a15) ?hi15 ?hd15 (by kernel_rfl) ?hw15 ?he15 ?hc15
  case hi15 => (simp only [List.getElem?_toArray, List.getElem?_cons_succ, List.getElem?_cons_zero]; rfl)
  case hd15 => rfl
  case hw15 => rfl
  case he15 => (go_simp; constructor <;> with_reducible rfl)
  refine Calls.mono (rfirst_any _) ?_
  rintro r w1 ⟨rfl, hb1⟩
  have kb : Below w0.heap.size w0 w1 := hHeld.trans (hb1.mono hHeld.size)
  unfold StP.v firstP
  refine ⟨_, rfl, kb, fun hHeld => ?_⟩
  simp only [List.set_cons_succ, List.set_cons_zero]
  refine take_at (i := 15) (d := 28) (oi := ?o16) (v := ?v16) ?hi16 ?hd16 (by kernel_rfl) (by kernel_rfl) (by kernel_rfl) ?hw16 ?hy16 ?hq16 (by assumption) ?r16
  case hi16 => (simp only [List.getElem?_toArray, List.getElem?_cons_succ, List.getElem?_cons_zero]; rfl)
  case hd16 => rfl
  case hw16 => rfl
  case hy16 => ((intro w hSw; (try dsimp only at hSw); go_simp) <;> (with_reducible rfl))
  case hq16 => exact fun _ _ _ h => h
  simp only [List.set_cons_succ, List.set_cons_zero]
  refine take_at (i := 16) (d := 29) (oi := ?o17) (v := ?v17) ?hi17 ?hd17 (by kernel_rfl) (by kernel_rfl) (by kernel_rfl) ?hw17 ?hy17 ?hq17 (by assumption) ?r17
  case hi17 => (simp only [List.getElem?_toArray, List.getElem?_cons_succ, List.getElem?_cons_zero]; rfl)
  case hd17 => rfl
  case hw17 => rfl
  case hy17 => ((intro w hSw; (try dsimp only at hSw); go_simp) <;> (with_reducible rfl))
  case hq17 => exact fun _ _ _ h => h
  simp only [List.set_cons_succ, List.set_cons_zero]
  refine take_at (i := 17) (d := 30) (oi := ?o18) (v := ?v18) ?hi18 ?hd18 (by kernel_rfl) (by kernel_rfl) (by kernel_rfl) ?hw18 ?hy18 ?hq18 (by assumption) ?r18
  case hi18 => (simp only [List.getElem?_toArray, List.getElem?_cons_succ, List.getElem?_cons_zero]; rfl)
  case hd18 => rfl
  case hw18 => rfl
  case hy18 => ((intro w hSw; (try dsimp only at hSw); go_simp) <;> (with_reducible rfl))
  case hq18 => exact fun _ _ _ h => h
  simp only [List.set_cons_succ, List.set_cons_zero]
  refine take_at (i := 18) (d := 31) (oi := ?o19) (v := ?v19) ?hi19 ?hd19 (by kernel_rfl) (by kernel_rfl) (by kernel_rfl) ?hw19 ?hy19 ?hq19 (by assumption) ?r19
  case hi19 => (simp only [List.getElem?_toArray, List.getElem?_cons_succ, List.getElem?_cons_zero]; rfl)
  case hd19 => rfl
  case hw19 => rfl
  case hy19 => ((intro w hSw; (try dsimp only at hSw); obtain ⟨bs, be⟩ := X0.out _ hSw; obtain ⟨k0, k1, k2, k3, k4⟩ := bs.cells; obtain ⟨c0, c1, c2⟩ := be.cells; go_simp) <;> (with_reducible rfl))
  case hq19 => exact fun _ _ _ h => h
  simp only [List.set_cons_succ, List.set_cons_zero]
  refine take_at (i := 19) (d := 32) (oi := ?o20) (v := ?v20) ?hi20 ?hd20 (by kernel_rfl) (by kernel_rfl) (by kernel_rfl) ?hw20 ?hy20 ?hq20 (by assumption) ?r20
  case hi20 => (simp only [List.getElem?_toArray, List.getElem?_cons_succ, List.getElem?_cons_zero]; rfl)
  case hd20 => rfl
  case hw20 => rfl
  case hy20 => ((intro w hSw; (try dsimp only at hSw); obtain ⟨bs, be⟩ := X0.out _ hSw; obtain ⟨k0, k1, k2, k3, k4⟩ := bs.cells; obtain ⟨c0, c1, c2⟩ := be.cells; go_simp) <;> (with_reducible rfl))
  case hq20 => exact fun _ _ _ h => h
  simp only [List.set_cons_succ, List.set_cons_zero]
  refine take_at (i := 21) (d := 34) (oi := ?o21) (v := ?v21) ?hi21 ?hd21 (by kernel_rfl) (by kernel_rfl) (by kernel_rfl) ?hw21 ?hy21 ?hq21 (by assumption) ?r21
  case hi21 => (simp only [List.getElem?_toArray, List.getElem?_cons_succ, List.getElem?_cons_zero]; rfl)
  case hd21 => rfl
  case hw21 => rfl
  case hy21 => ((intro w hSw; (try dsimp only at hSw); obtain ⟨bs, be⟩ := X0.out _ hSw; obtain ⟨k0, k1, k2, k3, k4⟩ := bs.cells; obtain ⟨c0, c1, c2⟩ := be.cells; go_simp) <;> (with_reducible rfl))
  case hq21 => exact fun _ _ _ h => h
  simp only [List.set_cons_succ, List.set_cons_zero]
  refine take_at (i := 22) (d := 35) (oi := ?o22) (v := ?v22) ?hi22 ?hd22 (by kernel_rfl) (by kernel_rfl) (by kernel_rfl) ?hw22 ?hy22 ?hq22 (by assumption) ?r22
  case hi22 => (simp only [List.getElem?_toArray, List.getElem?_cons_succ, List.getElem?_cons_zero]; rfl)
  case hd22 => rfl
  case hw22 => rfl
  case hy22 => ((intro w hSw; (try dsimp only at hSw); obtain ⟨bs, be⟩ := X0.out _ hSw; obtain ⟨k0, k1, k2, k3, k4⟩ := bs.cells; obtain ⟨c0, c1, c2⟩ := be.cells; go_simp) <;> (with_reducible rfl))
  case hq22 => exact fun _ _ _ h => h
  simp only [List.set_cons_succ, List.set_cons_zero]
  refine call_at (i := 20) (d := 33) (oi := ?o23) (f := ?f23) (args := ?a23) ?hi23 ?hd23 (by kernel_rfl) ?hw23 ?he23 ?hc23
  case hi23 => (simp only [List.getElem?_toArray, List.getElem?_cons_succ, List.getElem?_cons_zero]; rfl)
  case hd23 => rfl
  case hw23 => rfl
  case he23 => (go_simp; constructor <;> with_reducible rfl)
  refine Calls.mono (HC.out.2.2.2.2.1 _) ?_
  rintro r w1 ⟨rfl, hb1⟩
  have kb : Below w0.heap.size w0 w1 := hHeld.trans (hb1.mono hHeld.size)
  unfold StP.v
  refine ⟨_, rfl, kb, fun hHeld => ?_⟩
  simp only [List.set_cons_succ, List.set_cons_zero]
  refine call_at (i := 23) (d := 36) (oi := ?o24) (f := ?f24) (args := ?a24) ?hi24 ?hd24 (by kernel_rfl) ?hw24 ?he24 ?hc24
  case hi24 => (simp only [List.getElem?_toArray, List.getElem?_cons_succ, List.getElem?_cons_zero]; rfl)
  case hd24 => rfl
  case hw24 => rfl
  case he24 => (go_simp; constructor <;> with_reducible rfl)
  refine Calls.mono (HC.out.2.2.2.2.2.1 _) ?_
  rintro r w1 ⟨rfl, hb1⟩
  have kb : Below w0.heap.size w0 w1 := hHeld.trans (hb1.mono hHeld.size)
  unfold StP.v
  refine ⟨_, rfl, kb, fun hHeld => ?_⟩
  simp only [List.set_cons_succ, List.set_cons_zero]
  refine take_at (i := 24) (d := 37) (oi := ?o25) (v := ?v25) ?hi25 ?hd25 (by kernel_rfl) (by kernel_rfl) (by kernel_rfl) ?hw25 ?hy25 ?hq25 (by assumption) ?r25
  case hi25 => (simp only [List.getElem?_toArray, List.getElem?_cons_succ, List.getElem?_cons_zero]; rfl)
  case hd25 => rfl
  case hw25 => rfl
  case hy25 => ((intro w hSw; (try dsimp only at hSw); go_simp) <;> (with_reducible rfl))
  case hq25 => exact fun _ _ _ h => h
  simp only [List.set_cons_succ, List.set_cons_zero]
  refine take_at (i := 25) (d := 38) (oi := ?o26) (v := ?v26) ?hi26 ?hd26 (by kernel_rfl) (by kernel_rfl) (by kernel_rfl) ?hw26 ?hy26 ?hq26 (by assumption) ?r26
  case hi26 => (simp only [List.getElem?_toArray, List.getElem?_cons_succ, List.getElem?_cons_zero]; rfl)
  case hd26 => rfl
  case hw26 => rfl
  case hy26 => ((intro w hSw; (try dsimp only at hSw); go_simp) <;> (with_reducible rfl))
  case hq26 => exact fun _ _ _ h => h
  simp only [List.set_cons_succ, List.set_cons_zero]
  refine take_at (i := 26) (d := 39) (oi := ?o27) (v := ?v27) ?hi27 ?hd27 (by kernel_rfl) (by kernel_rfl) (by kernel_rfl) ?hw27 ?hy27 ?hq27 (by assumption) ?r27
  case hi27 => (simp only [List.getElem?_toArray, List.getElem?_cons_succ, List.getElem?_cons_zero]; rfl)
  case hd27 => rfl
  case hw27 => rfl
  case hy27 => ((intro w hSw; (try dsimp only at hSw); go_simp) <;> (with_reducible rfl))
  case hq27 => exact fun _ _ _ h => h
  simp only [List.set_cons_succ, List.set_cons_zero]
  refine take_at (i := 27) (d := 40) (oi := ?o28) (v := ?v28) ?hi28 ?hd28 (by kernel_rfl) (by kernel_rfl) (by kernel_rfl) ?hw28 ?hy28 ?hq28 (by assumption) ?r28
  case hi28 => (simp only [List.getElem?_toArray, List.getElem?_cons_succ, List.getElem?_cons_zero]; rfl)
  case hd28 => rfl
  case hw28 => rfl
  case hy28 => ((intro w hSw; (try dsimp only at hSw); obtain ⟨bs, be⟩ := X0.out _ hSw; obtain ⟨k0, k1, k2, k3, k4⟩ := bs.cells; obtain ⟨c0, c1, c2⟩ := be.cells; go_simp) <;> (with_reducible rfl))
  case hq28 => exact fun _ _ _ h => h
  simp only [List.set_cons_succ, List.set_cons_zero]
  refine take_at (i := 28) (d := 41) (oi := ?o29) (v := ?v29) ?hi29 ?hd29 (by kernel_rfl) (by kernel_rfl) (by kernel_rfl) ?hw29 ?hy29 ?hq29 (by assumption) ?r29
  case hi29 => (simp only [List.getElem?_toArray, List.getElem?_cons_succ, List.getElem?_cons_zero]; rfl)
  case hd29 => rfl
  case hw29 => rfl
  case hy29 => ((intro w hSw; (try dsimp only at hSw); go_simp) <;> (with_reducible rfl))
  case hq29 => exact fun _ _ _ h => h
  simp only [List.set_cons_succ, List.set_cons_zero]
  refine take_at (i := 30) (d := 43) (oi := ?o30) (v := ?v30) ?hi30 ?hd30 (by kernel_rfl) (by kernel_rfl) (by kernel_rfl) ?hw30 ?hy30 ?hq30 (by assumption) ?r30
  case hi30 => (simp only [List.getElem?_toArray, List.getElem?_cons_succ, List.getElem?_cons_zero]; rfl)
  case hd30 => rfl
  case hw30 => rfl
  case hy30 => ((intro w hSw; (try dsimp only at hSw); obtain ⟨bs, be⟩ := X0.out _ hSw; obtain ⟨k0, k1, k2, k3, k4⟩ := bs.cells; obtain ⟨c0, c1, c2⟩ := be.cells; go_simp) <;> (with_reducible rfl))
  case hq30 => exact fun _ _ _ h => h
  simp only [List.set_cons_succ, List.set_cons_zero]
  refine take_at (i := 31) (d := 44) (oi := ?o31) (v := ?v31) ?hi31 ?hd31 (by kernel_rfl) (by kernel_rfl) (by kernel_rfl) ?hw31 ?hy31 ?hq31 (by assumption) ?r31
  case hi31 => (simp only [List.getElem?_toArray, List.getElem?_cons_succ, List.getElem?_cons_zero]; rfl)
  case hd31 => rfl
  case hw31 => rfl
  case hy31 => ((intro w hSw; (try dsimp only at hSw); go_simp) <;> (with_reducible rfl))
  case hq31 => exact fun _ _ _ h => h
  simp only [List.set_cons_succ, List.set_cons_zero]
  refine call_at (i := 29) (d := 42) (oi := ?o32) (f := ?f32) (args := ?a32) ?hi32 ?hd32 (by kernel_rfl) ?hw32 ?he32 ?hc32
  case hi32 => (simp only [List.getElem?_toArray, List.getElem?_cons_succ, List.getElem?_cons_zero]; rfl)
  case hd32 => rfl
  case hw32 => rfl
  case he32 => (go_simp; constructor <;> with_reducible rfl)
  refine Calls.mono (HC.out.2.2.2.2.2.2.1 _ (HL.out _ hHeld)) ?_
  rintro r w1 ⟨rfl, hb1⟩
  have kb : Below w0.heap.size w0 w1 := hHeld.trans (hb1.mono hHeld.size)
  unfold StP.v
  refine ⟨_, rfl, kb, fun hHeld => ?_⟩
  simp only [List.set_cons_succ, List.set_cons_zero]
  refine call_at (i := 32) (d := 45) (oi := ?o33) (f := ?f33) (args := ?a33) ?hi33 ?hd33 (by kernel_rfl) ?hw33 ?he33 ?hc33
  case hi33 => (simp only [List.getElem?_toArray, List.getElem?_cons_succ, List.getElem?_cons_zero]; rfl)
  case hd33 => rfl
  case hw33 => rfl
  case he33 => (go_simp; constructor <;> with_reducible rfl)
  refine Calls.mono (HC.out.2.2.2.2.2.2.2.1 _ (HL.out _ hHeld)) ?_
  rintro r w1 ⟨rfl, hb1⟩
  have kb : Below w0.heap.size w0 w1 := hHeld.trans (hb1.mono hHeld.size)
  unfold StP.v
  refine ⟨_, rfl, kb, fun hHeld => ?_⟩
  simp only [List.set_cons_succ, List.set_cons_zero]
  refine take_at (i := 33) (d := 46) (oi := ?o34) (v := ?v34) ?hi34 ?hd34 (by kernel_rfl) (by kernel_rfl) (by kernel_rfl) ?hw34 ?hy34 ?hq34 (by assumption) ?r34
  case hi34 => (simp only [List.getElem?_toArray, List.getElem?_cons_succ, List.getElem?_cons_zero]; rfl)
  case hd34 => rfl
  case hw34 => rfl
  case hy34 => ((intro w hSw; (try dsimp only at hSw); go_simp) <;> (with_reducible rfl))
  case hq34 => exact fun _ _ _ h => h
  simp only [List.set_cons_succ, List.set_cons_zero]
  refine take_at (i := 34) (d := 47) (oi := ?o35) (v := ?v35) ?hi35 ?hd35 (by kernel_rfl) (by kernel_rfl) (by kernel_rfl) ?hw35 ?hy35 ?hq35 (by assumption) ?r35
  case hi35 => (simp only [List.getElem?_toArray, List.getElem?_cons_succ, List.getElem?_cons_zero]; rfl)
  case hd35 => rfl
  case hw35 => rfl
  case hy35 => ((intro w hSw; (try dsimp only at hSw); go_simp) <;> (with_reducible rfl))
  case hq35 => exact fun _ _ _ h => h
  simp only [List.set_cons_succ, List.set_cons_zero]
  refine take_at (i := 35) (d := 48) (oi := ?o36) (v := ?v36) ?hi36 ?hd36 (by kernel_rfl) (by kernel_rfl) (by kernel_rfl) ?hw36 ?hy36 ?hq36 (by assumption) ?r36
  case hi36 => (simp only [List.getElem?_toArray, List.getElem?_cons_succ, List.getElem?_cons_zero]; rfl)
  case hd36 => rfl
  case hw36 => rfl
  case hy36 => ((intro w hSw; (try dsimp only at hSw); go_simp) <;> (with_reducible rfl))
  case hq36 => exact fun _ _ _ h => h
  simp only [List.set_cons_succ, List.set_cons_zero]
  refine take_at (i := 36) (d := 49) (oi := ?o37) (v := ?v37) ?hi37 ?hd37 (by kernel_rfl) (by kernel_rfl) (by kernel_rfl) ?hw37 ?hy37 ?hq37 (by assumption) ?r37
  case hi37 => (simp only [List.getElem?_toArray, List.getElem?_cons_succ, List.getElem?_cons_zero]; rfl)
  case hd37 => rfl
  case hw37 => rfl
  case hy37 => ((intro w hSw; (try dsimp only at hSw); go_simp) <;> (with_reducible rfl))
  case hq37 => exact fun _ _ _ h => h
  simp only [List.set_cons_succ, List.set_cons_zero]
  refine take_at (i := 38) (d := 51) (oi := ?o38) (v := ?v38) ?hi38 ?hd38 (by kernel_rfl) (by kernel_rfl) (by kernel_rfl) ?hw38 ?hy38 ?hq38 (by assumption) ?r38
  case hi38 => (simp only [List.getElem?_toArray, List.getElem?_cons_succ, List.getElem?_cons_zero]; rfl)
  case hd38 => rfl
  case hw38 => rfl
  case hy38 => ((intro w hSw; (try dsimp only at hSw); go_simp) <;> (with_reducible rfl))
  case hq38 => exact fun _ _ _ h => h
  simp only [List.set_cons_succ, List.set_cons_zero]
  refine call_at (i := 37) (d := 50) (oi := ?o39) (f := ?f39) (args := ?a39) ?hi39 ?hd39 (by kernel_rfl) ?hw39 ?he39 ?hc39
  case hi39 => (simp only [List.getElem?_toArray, List.getElem?_cons_succ, List.getElem?_cons_zero]; rfl)
  case hd39 => rfl
  case hw39 => rfl
  case he39 => (go_simp; constructor <;> with_reducible rfl)
  refine Calls.mono (HC.out.2.2.2.2.2.2.2.2.1 _) ?_
  rintro r w1 ⟨rfl, hb1⟩
  have kb : Below w0.heap.size w0 w1 := hHeld.trans (hb1.mono hHeld.size)
  refine ⟨_, rfl, kb, fun hHeld => ?_⟩
  simp only [List.set_cons_succ, List.set_cons_zero]
  refine call_at (i := 39) (d := 52) (oi := ?o40) (f := ?f40) (args := ?a40) ?hi40 ?hd40 (by kernel_rfl) ?hw40 ?he40 ?hc40
  case hi40 => (simp only [List.getElem?_toArray, List.getElem?_cons_succ, List.getElem?_cons_zero]; rfl)
  case hd40 => rfl
  case hw40 => rfl
  case he40 => (go_simp; constructor <;> with_reducible rfl)
  refine Calls.mono (HC.out.2.2.2.2.2.2.2.2.2 _) ?_
  rintro r w1 ⟨rfl, hb1⟩
  have kb : Below w0.heap.size w0 w1 := hHeld.trans (hb1.mono hHeld.size)
  refine ⟨_, rfl, kb, fun hHeld => ?_⟩
  simp only [List.set_cons_succ, List.set_cons_zero]
  refine take_at (i := 40) (d := 53) (oi := ?o41) (v := ?v41) ?hi41 ?hd41 (by kernel_rfl) (by kernel_rfl) (by kernel_rfl) ?hw41 ?hy41 ?hq41 (by assumption) ?r41
  case hi41 => (simp only [List.getElem?_toArray, List.getElem?_cons_succ, List.getElem?_cons_zero]; rfl)
  case hd41 => rfl
  case hw41 => rfl
  case hy41 => ((intro w hSw; (try dsimp only at hSw); go_simp) <;> (with_reducible rfl))
  case hq41 => exact fun _ _ _ h => h
  simp only [List.set_cons_succ, List.set_cons_zero]
  refine take_at (i := 41) (d := 54) (oi := ?o42) (v := ?v42) ?hi42 ?hd42 (by kernel_rfl) (by kernel_rfl) (by kernel_rfl) ?hw42 ?hy42 ?hq42 (by assumption) ?r42
  case hi42 => (simp only [List.getElem?_toArray, List.getElem?_cons_succ, List.getElem?_cons_zero]; rfl)
  case hd42 => rfl
  case hw42 => rfl
  case hy42 => ((intro w hSw; (try dsimp only at hSw); go_simp) <;> (with_reducible rfl))
  case hq42 => exact fun _ _ _ h => h
  simp only [List.set_cons_succ, List.set_cons_zero]
  refine take_at (i := 42) (d := 55) (oi := ?o43) (v := ?v43) ?hi43 ?hd43 (by kernel_rfl) (by kernel_rfl) (by kernel_rfl) ?hw43 ?hy43 ?hq43 (by assumption) ?r43
  case hi43 => (simp only [List.getElem?_toArray, List.getElem?_cons_succ, List.getElem?_cons_zero]; rfl)
  case hd43 => rfl
  case hw43 => rfl
  case hy43 => ((intro w hSw; (try dsimp only at hSw); go_simp) <;> (with_reducible rfl))
  case hq43 => exact fun _ _ _ h => h
  simp only [List.set_cons_succ, List.set_cons_zero]
  refine take_at (i := 43) (d := 56) (oi := ?o44) (v := ?v44) ?hi44 ?hd44 (by kernel_rfl) (by kernel_rfl) (by kernel_rfl) ?hw44 ?hy44 ?hq44 (by assumption) ?r44
  case hi44 => (simp only [List.getElem?_toArray, List.getElem?_cons_succ, List.getElem?_cons_zero]; rfl)
  case hd44 => rfl
  case hw44 => rfl
  case hy44 => ((intro w hSw; (try dsimp only at hSw); obtain ⟨bs, be⟩ := X0.out _ hSw; obtain ⟨k0, k1, k2, k3, k4⟩ := bs.cells; obtain ⟨c0, c1, c2⟩ := be.cells; go_simp) <;> (with_reducible rfl))
  case hq44 => exact fun _ _ _ h => h
  simp only [List.set_cons_succ, List.set_cons_zero]
  refine take_at (i := 44) (d := 57) (oi := ?o45) (v := ?v45) ?hi45 ?hd45 (by kernel_rfl) (by kernel_rfl) (by kernel_rfl) ?hw45 ?hy45 ?hq45 (by assumption) ?r45
  case hi45 => (simp only [List.getElem?_toArray, List.getElem?_cons_succ, List.getElem?_cons_zero]; rfl)
  case hd45 => rfl
  case hw45 => rfl
  case hy45 => ((intro w hSw; (try dsimp only at hSw); go_simp) <;> (with_reducible rfl))
  case hq45 => exact fun _ _ _ h => h
  simp only [List.set_cons_succ, List.set_cons_zero]
  refine take_at (i := 46) (d := 59) (oi := ?o46) (v := ?v46) ?hi46 ?hd46 (by kernel_rfl) (by kernel_rfl) (by kernel_rfl) ?hw46 ?hy46 ?hq46 (by assumption) ?r46
  case hi46 => (simp only [List.getElem?_toArray, List.getElem?_cons_succ, List.getElem?_cons_zero]; rfl)
  case hd46 => rfl
  case hw46 => rfl
  case hy46 => ((intro w hSw; (try dsimp only at hSw); obtain ⟨bs, be⟩ := X0.out _ hSw; obtain ⟨k0, k1, k2, k3, k4⟩ := bs.cells; obtain ⟨c0, c1, c2⟩ := be.cells; go_simp) <;> (with_reducible rfl))
  case hq46 => exact fun _ _ _ h => h
  simp only [List.set_cons_succ, List.set_cons_zero]
  refine take_at (i := 47) (d := 60) (oi := ?o47) (v := ?v47) ?hi47 ?hd47 (by kernel_rfl) (by kernel_rfl) (by kernel_rfl) ?hw47 ?hy47 ?hq47 (by assumption) ?r47
  case hi47 => (simp only [List.getElem?_toArray, List.getElem?_cons_succ, List.getElem?_cons_zero]; rfl)
  case hd47 => rfl
  case hw47 => rfl
  case hy47 => ((intro w hSw; (try dsimp only at hSw); go_simp) <;> (with_reducible rfl))
  case hq47 => exact fun _ _ _ h => h
  simp only [List.set_cons_succ, List.set_cons_zero]
  refine call_at (i := 45) (d := 58) (oi := ?o48) (f := ?f48) (args := ?a48) ?hi48 ?hd48 (by kernel_rfl) ?hw48 ?he48 ?hc48
  case hi48 => (simp only [List.getElem?_toArray, List.getElem?_cons_succ, List.getElem?_cons_zero]; rfl)
  case hd48 => rfl
  case hw48 => rfl
  case he48 => (go_simp; constructor <;> with_reducible rfl)
  refine Calls.mono (levels_any s A n c l _ (HL.out _ hHeld) hn2) ?_
  rintro r wv ⟨⟨A6, n6, c6, rfl, hc6, hn6, hrd6⟩, hb1⟩
  have kb : Below w0.heap.size w0 wv := hHeld.trans (hb1.mono hHeld.size)
  rw [levels_len, Hll.out] at hn6
  have H6 := Lib.hid (⟨hrd6, hn6⟩ : _ ∧ _)
  clear hrd6 hn6
  refine ⟨_, rfl, kb, fun hHeld => ?_⟩
  simp only [List.set_cons_succ, List.set_cons_zero]
  refine call_at (i := 48) (d := 61) (oi := ?o49) (f := ?f49) (args := ?a49) ?hi49 ?hd49 (by kernel_rfl) ?hw49 ?he49 ?hc49
  case hi49 => (simp only [List.getElem?_toArray, List.getElem?_cons_succ, List.getElem?_cons_zero]; rfl)
  case hd49 => rfl
  case hw49 => rfl
  case he49 => (go_simp; constructor <;> with_reducible rfl)
  refine Calls.mono (rlevels_any s A n c l _ (HL.out _ hHeld) hn2) ?_
  rintro r wv2 ⟨⟨A7, n7, c7, rfl, hc7, hn7, hrd7⟩, hb1⟩
  have kb : Below w0.heap.size w0 wv2 := hHeld.trans (hb1.mono hHeld.size)
  rw [levels_len, Hll.out] at hn7
  have H7 := Lib.hid (⟨hrd7, hn7, H6.out.1.on hb1 hb1.size, H6.out.2⟩ : _ ∧ _ ∧ _ ∧ _)
  clear hrd7 hn7 H6
  refine ⟨_, rfl, kb, fun hHeld => ?_⟩
  simp only [List.set_cons_succ, List.set_cons_zero]
  refine call_at (i := 49) (d := 62) (oi := ?o50) (f := ?f50) (args := ?a50) ?hi50 ?hd50 (by kernel_rfl) ?hw50 ?he50 ?hc50
  case hi50 => (simp only [List.getElem?_toArray, List.getElem?_cons_succ, List.getElem?_cons_zero]; rfl)
  case hd50 => rfl
  case hw50 => rfl
  case he50 => (go_simp; constructor <;> with_reducible rfl)
  refine Calls.mono (ints_any A6 A7 n6 n7 c6 c7 _ _ _ H7.out.2.2.1 H7.out.1 (by have := H7.out.2.2.2; omega) (by have := H7.out.2.1; omega)) ?_
  rintro r w1 ⟨rfl, hb1⟩
  rw [eqB_true rfl]
  have kb : Below w0.heap.size w0 w1 := hHeld.trans (hb1.mono hHeld.size)
  refine ⟨_, rfl, kb, fun hHeld => ?_⟩
  simp only [List.set_cons_succ, List.set_cons_zero]
  refine take_at (i := 50) (d := 63) (oi := ?o51) (v := ?v51) ?hi51 ?hd51 (by kernel_rfl) (by kernel_rfl) (by kernel_rfl) ?hw51 ?hy51 ?hq51 (by assumption) ?r51
  case hi51 => (simp only [List.getElem?_toArray, List.getElem?_cons_succ, List.getElem?_cons_zero]; rfl)
  case hd51 => rfl
  case hw51 => rfl
  case hy51 => ((intro w hSw; (try dsimp only at hSw); go_simp) <;> (with_reducible rfl))
  case hq51 => exact fun _ _ _ h => h
  simp only [List.set_cons_succ, List.set_cons_zero]
  refine take_at (i := 51) (d := 64) (oi := ?o52) (v := ?v52) ?hi52 ?hd52 (by kernel_rfl) (by kernel_rfl) (by kernel_rfl) ?hw52 ?hy52 ?hq52 (by assumption) ?r52
  case hi52 => (simp only [List.getElem?_toArray, List.getElem?_cons_succ, List.getElem?_cons_zero]; rfl)
  case hd52 => rfl
  case hw52 => rfl
  case hy52 => ((intro w hSw; (try dsimp only at hSw); go_simp) <;> (with_reducible rfl))
  case hq52 => exact fun _ _ _ h => h
  simp only [List.set_cons_succ, List.set_cons_zero]
  refine call_at (i := 52) (d := 65) (oi := ?o53) (f := ?f53) (args := ?a53) ?hi53 ?hd53 (by kernel_rfl) ?hw53 ?he53 ?hc53
  case hi53 => (simp only [List.getElem?_toArray, List.getElem?_cons_succ, List.getElem?_cons_zero]; rfl)
  case hd53 => rfl
  case hw53 => rfl
  case he53 => (go_simp; constructor <;> with_reducible rfl)
  refine Calls.mono (wakes_true _) ?_
  rintro r w1 ⟨rfl, hb1⟩
  have kb : Below w0.heap.size w0 w1 := hHeld.trans (hb1.mono hHeld.size)
  refine ⟨_, rfl, kb, fun hHeld => ?_⟩
  simp only [List.set_cons_succ, List.set_cons_zero]
  refine take_at (i := 53) (d := 66) (oi := ?o54) (v := ?v54) ?hi54 ?hd54 (by kernel_rfl) (by kernel_rfl) (by kernel_rfl) ?hw54 ?hy54 ?hq54 (by assumption) ?r54
  case hi54 => (simp only [List.getElem?_toArray, List.getElem?_cons_succ, List.getElem?_cons_zero]; rfl)
  case hd54 => rfl
  case hw54 => rfl
  case hy54 => ((intro w hSw; (try dsimp only at hSw); go_simp) <;> (with_reducible rfl))
  case hq54 => exact fun _ _ _ h => h
  simp only [List.set_cons_succ, List.set_cons_zero]
  refine take_at (i := 54) (d := 8) (oi := ?o55) (v := ?v55) ?hi55 ?hd55 (by kernel_rfl) (by kernel_rfl) (by kernel_rfl) ?hw55 ?hy55 ?hq55 (by assumption) ?r55
  case hi55 => (simp only [List.getElem?_toArray, List.getElem?_cons_succ, List.getElem?_cons_zero]; rfl)
  case hd55 => rfl
  case hw55 => rfl
  case hy55 => ((intro w hSw; (try dsimp only at hSw); go_simp) <;> (with_reducible rfl))
  case hq55 => exact fun _ _ _ h => h
  simp only [List.set_cons_succ, List.set_cons_zero]
  refine wpAnyH_done (by kernel_rfl) ?_ _
  go_wp2_with fail
  go_ret
  exact ⟨rfl, below_on HB.out hHeld⟩
end Go.Proofs.Ytbaaghggilfpjaa
