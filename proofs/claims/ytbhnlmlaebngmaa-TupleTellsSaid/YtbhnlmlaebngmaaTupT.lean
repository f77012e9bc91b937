/-
  The document's told (of tuples): its contract.
-/
import Derived.Test.YtbhnlmlaebngmaaTupA
namespace Go.Proofs.Ytbhnlmlaebngmaa
open Go.RowKit
set_option linter.unusedVariables false
set_option linter.unusedSimpArgs false

/-- A tuple and an error are answered, that are so; the row is the call's own, from B on. -/
def OutT (R : TupP → Int → Prop) (B : Nat) (w : World) (e : Ending) (w' : World) : Prop :=
  (∃ (o : TupP) (er : Int) (A : Option Addr) (n c : Nat), e = .returned (.tuple #[tupV o (.slice A n c), .int .i64 er]) ∧ R o er ∧ n ≤ c ∧ OwnE w' B (.slice A n c) n o.lg) ∧ Below w.heap.size w w'
theorem OutT.imp {R R' : TupP → Int → Prop} {B : Nat} {w : World} {e : Ending} {w' : World} (h : OutT R B w e w') (hi : ∀ o er, R o er → R' o er) : OutT R' B w e w' := by
  obtain ⟨⟨o, er, A, n, c, h1, h2, h3⟩, hb⟩ := h
  exact ⟨⟨o, er, A, n, c, h1, hi o er h2, h3⟩, hb⟩
theorem own_len {w : World} {B n : Nat} {v : Value} {l : List EnP} (h : OwnE w B v n l) : l.length = n := by
  obtain ⟨A, c, rfl, _⟩ := own_slice h
  exact h.es.len
set_option maxRecDepth 100000 in
set_option maxHeartbeats 8000000 in
theorem told_no0 (was t : TupP) (A A' : Option Addr) (n c n' c' B : Nat) (q : Bool) (w : World) (hS : Es w w.heap.size A n was.lg) (hn : n ≤ 1000000) (hn' : n' ≤ 1000000) (hc' : n' ≤ c') (hB : B ≤ w.heap.size) (hq : q = false) :
    Calls Try.prog 42 #[tupV was (.slice A n c), tupV t (.slice A' n' c'), .bool q] w (OutT (ToldIs was t (q = true)) B w) := by
  have HB := Lib.hid hB
  clear hB
  obtain ⟨z1, hz1⟩ : ∃ z, z = w.heap.size := ⟨_, rfl⟩
  obtain ⟨w1, hw1⟩ : ∃ x, x = w.alloc (.cells #[.int .i64 was.sn.ix, .int .i64 was.sn.tm, .int .i64 was.sn.sm, .int .i64 was.sn.lv, .bool was.sn.fn, .slice A n c, .int .i64 was.tm, .int .i64 was.vt] 26) := ⟨_, rfl⟩
  have bb : Below w.heap.size w w1 := by rw [hw1]; exact below_al (below_d0 _) _
  have bz : BoxU w1 z1 was (.slice A n c) := by rw [hw1, hz1]; exact BoxU.new w was _
  replace hS := hS.on bb bb.size
  have B1 := bb
  clear bb
  obtain ⟨z2, hz2⟩ : ∃ z, z = w1.heap.size := ⟨_, rfl⟩
  obtain ⟨w2, hw2⟩ : ∃ x, x = w1.alloc (.cells #[.int .i64 t.sn.ix, .int .i64 t.sn.tm, .int .i64 t.sn.sm, .int .i64 t.sn.lv, .bool t.sn.fn, .slice A' n' c', .int .i64 t.tm, .int .i64 t.vt] 26) := ⟨_, rfl⟩
  have bb : Below w1.heap.size w1 w2 := by rw [hw2]; exact below_al (below_d0 _) _
  have bt : BoxU w2 z2 t (.slice A' n' c') := by rw [hw2, hz2]; exact BoxU.new w1 t _
  replace bz := bz.below bb
  replace hS := hS.on bb bb.size
  have B2 := B1.trans (bb.mono B1.size)
  clear bb B1
  obtain ⟨z3, hz3⟩ : ∃ z, z = w2.heap.size := ⟨_, rfl⟩
  obtain ⟨w3, hw3⟩ : ∃ x, x = w2.alloc (.cells #[.int .i64 0, .int .i64 0, .int .i64 0, .int .i64 0, .bool false, .slice none 0 0, .int .i64 0, .int .i64 0] 26) := ⟨_, rfl⟩
  have bb : Below w2.heap.size w2 w3 := by rw [hw3]; exact below_al (below_d0 _) _
  have br : BoxU w3 z3 noneT (.slice none 0 0) := by rw [hw3, hz3]; exact BoxU.new w2 noneT _
  replace bz := bz.below bb
  replace bt := bt.below bb
  replace hS := hS.on bb bb.size
  have B3 := B2.trans (bb.mono B2.size)
  clear bb B2
  have hp2 : z1 + 1 = z2 := by rw [hz2, hw1, hz1]; simp
  have hp3 : z2 + 1 = z3 := by rw [hz3, hw2, hz2]; simp
  have lz2 : w.heap.size ≤ z2 := by omega
  have lz3 : w.heap.size ≤ z3 := by omega
  have ne12 : z1 ≠ z2 := by omega
  have ne13 : z1 ≠ z3 := by omega
  have ne23 : z2 ≠ z3 := by omega
  have HE := Lib.hid (⟨hw1, hw2, hw3, hz1, hp2, hp3⟩ : _ ∧ _ ∧ _ ∧ _ ∧ _ ∧ _)
  have HLZ := Lib.hid (⟨lz2, lz3⟩ : _ ∧ _)
  clear hw1 hz1 hw2 hz2 hw3 hz3 hp2 hp3 lz2 lz3
  have HN := Lib.hid (show ¬ (q = true ∧ MayT was ∧ MayT t) by rw [hq]; simp)
  subst hq
  unfold tupV
  go_enter Try.func42, Try.ntmps42
  obtain ⟨k0, k1, k2, k3, k4, k5, k6, k7⟩ := bz.cells
  obtain ⟨j0, j1, j2, j3, j4, j5, j6, j7⟩ := bt.cells
  go_wp2_with fail
  clear k0 k1 k2 k3 k4 k5 k6 k7
  clear j0 j1 j2 j3 j4 j5 j6 j7
  rw [← HE.out.1, ← HE.out.2.1, ← HE.out.2.2.1, ← HE.out.2.2.2.1]
  (try rw [HE.out.2.2.2.2.1])
  (try rw [HE.out.2.2.2.2.2])
  clear HE
  have hbs := (B3).size
  refine Calls.mono (show Calls Try.prog 41 #[.agg #[.int .i64 was.sn.ix, .int .i64 was.sn.tm, .int .i64 was.sn.sm, .int .i64 was.sn.lv, .bool was.sn.fn, .slice A n c, .int .i64 was.tm, .int .i64 was.vt]] w3 (fun e w' => (∃ A' c', e = .returned (tupV was (.slice A' n c')) ∧ n ≤ c' ∧ OwnE w' w3.heap.size (.slice A' n c') n was.lg) ∧ Below w3.heap.size w3 w') from rownT_any was A n c w3 hS hn) ?_
  intro e w4 hh
  obtain ⟨⟨A5, c5, rfl, hc5, own⟩, bb⟩ := hh
  (try clear hh)
  replace bz := bz.below bb
  replace bt := bt.below bb
  replace br := br.below bb
  replace hS := hS.on bb bb.size
  have B4 := B3.trans (bb.mono B3.size)
  clear bb B3
  unfold tupV
  obtain ⟨g0, g1, g2, g3, g4, g5, g6, g7⟩ := br.cells
  have f0 := br.frozen 0
  have f1 := br.frozen 1
  have f2 := br.frozen 2
  have f3 := br.frozen 3
  have f4 := br.frozen 4
  have f5 := br.frozen 5
  have f6 := br.frozen 6
  have f7 := br.frozen 7
  go_wp2_with fail
  obtain ⟨W', hW'⟩ : ∃ W', W' = putU w4 z3 was (.slice A5 n c5) := ⟨_, rfl⟩
  have b9 := putU_box br was (.slice A5 n c5)
  have B9 := putU_below HLZ.out.2 was (.slice A5 n c5) B4
  rw [← hW'] at b9 B9
  have e9 : W' = ((((((((w4.setCell ⟨z3, 0, none⟩ (.int .i64 was.sn.ix)).setCell ⟨z3, 1, none⟩ (.int .i64 was.sn.tm)).setCell ⟨z3, 2, none⟩ (.int .i64 was.sn.sm)).setCell ⟨z3, 3, none⟩ (.int .i64 was.sn.lv)).setCell ⟨z3, 4, none⟩ (.bool was.sn.fn)).setCell ⟨z3, 5, none⟩ (.slice A5 n c5)).setCell ⟨z3, 6, none⟩ (.int .i64 was.tm)).setCell ⟨z3, 7, none⟩ (.int .i64 was.vt)) := hW'
  have own9 : OwnE W' w3.heap.size (.slice A5 n c5) n was.lg := by rw [hW']; exact putU_own br own
  rw [← e9]
  clear e9 hW' g0 g1 g2 g3 g4 g5 g6 g7 f0 f1 f2 f3 f4 f5 f6 f7
  obtain ⟨g0, g1, g2, g3, g4, g5, g6, g7⟩ := b9.cells
  exact bodyPost_ret (v := .tuple #[tupV was (.slice A5 n c5), .int .i64 2]) (by unfold tupV; simp [results, Try.results42, go_sem, g0, g1, g2, g3, g4, g5, g6, g7]) rfl ⟨⟨was, 2, A5, n, c5, rfl, .inr ⟨HN.out, rfl, rfl⟩, hc5, own_low own9 (Nat.le_trans HB.out hbs)⟩, B9⟩
set_option maxRecDepth 100000 in
set_option maxHeartbeats 8000000 in
theorem told_no1 (was t : TupP) (A A' : Option Addr) (n c n' c' B : Nat) (q : Bool) (w : World) (hS : Es w w.heap.size A n was.lg) (hO : OwnE w B (.slice A' n' c') n' t.lg) (hn : n ≤ 1000000) (hn' : n' ≤ 1000000) (hc' : n' ≤ c') (hB : B ≤ w.heap.size) (hq : q = true) (h1 : ¬ MayT was) (hno : ¬ (q = true ∧ MayT was ∧ MayT t)) :
    Calls Try.prog 42 #[tupV was (.slice A n c), tupV t (.slice A' n' c'), .bool q] w (OutT (ToldIs was t (q = true)) B w) := by
  have HB := Lib.hid hB
  clear hB
  obtain ⟨z1, hz1⟩ : ∃ z, z = w.heap.size := ⟨_, rfl⟩
  obtain ⟨w1, hw1⟩ : ∃ x, x = w.alloc (.cells #[.int .i64 was.sn.ix, .int .i64 was.sn.tm, .int .i64 was.sn.sm, .int .i64 was.sn.lv, .bool was.sn.fn, .slice A n c, .int .i64 was.tm, .int .i64 was.vt] 26) := ⟨_, rfl⟩
  have bb : Below w.heap.size w w1 := by rw [hw1]; exact below_al (below_d0 _) _
  have bz : BoxU w1 z1 was (.slice A n c) := by rw [hw1, hz1]; exact BoxU.new w was _
  replace hO := own_keep hO bb
  replace hS := hS.on bb bb.size
  have B1 := bb
  clear bb
  obtain ⟨z2, hz2⟩ : ∃ z, z = w1.heap.size := ⟨_, rfl⟩
  obtain ⟨w2, hw2⟩ : ∃ x, x = w1.alloc (.cells #[.int .i64 t.sn.ix, .int .i64 t.sn.tm, .int .i64 t.sn.sm, .int .i64 t.sn.lv, .bool t.sn.fn, .slice A' n' c', .int .i64 t.tm, .int .i64 t.vt] 26) := ⟨_, rfl⟩
  have bb : Below w1.heap.size w1 w2 := by rw [hw2]; exact below_al (below_d0 _) _
  have bt : BoxU w2 z2 t (.slice A' n' c') := by rw [hw2, hz2]; exact BoxU.new w1 t _
  replace hO := own_keep hO bb
  replace bz := bz.below bb
  replace hS := hS.on bb bb.size
  have B2 := B1.trans (bb.mono B1.size)
  clear bb B1
  obtain ⟨z3, hz3⟩ : ∃ z, z = w2.heap.size := ⟨_, rfl⟩
  obtain ⟨w3, hw3⟩ : ∃ x, x = w2.alloc (.cells #[.int .i64 0, .int .i64 0, .int .i64 0, .int .i64 0, .bool false, .slice none 0 0, .int .i64 0, .int .i64 0] 26) := ⟨_, rfl⟩
  have bb : Below w2.heap.size w2 w3 := by rw [hw3]; exact below_al (below_d0 _) _
  have br : BoxU w3 z3 noneT (.slice none 0 0) := by rw [hw3, hz3]; exact BoxU.new w2 noneT _
  replace hO := own_keep hO bb
  replace bz := bz.below bb
  replace bt := bt.below bb
  replace hS := hS.on bb bb.size
  have B3 := B2.trans (bb.mono B2.size)
  clear bb B2
  have hp2 : z1 + 1 = z2 := by rw [hz2, hw1, hz1]; simp
  have hp3 : z2 + 1 = z3 := by rw [hz3, hw2, hz2]; simp
  have lz2 : w.heap.size ≤ z2 := by omega
  have lz3 : w.heap.size ≤ z3 := by omega
  have ne12 : z1 ≠ z2 := by omega
  have ne13 : z1 ≠ z3 := by omega
  have ne23 : z2 ≠ z3 := by omega
  have HE := Lib.hid (⟨hw1, hw2, hw3, hz1, hp2, hp3⟩ : _ ∧ _ ∧ _ ∧ _ ∧ _ ∧ _)
  have HLZ := Lib.hid (⟨lz2, lz3⟩ : _ ∧ _)
  clear hw1 hz1 hw2 hz2 hw3 hz3 hp2 hp3 lz2 lz3
  have HN := Lib.hid hno
  subst hq
  clear hno
  unfold tupV
  go_enter Try.func42, Try.ntmps42
  obtain ⟨k0, k1, k2, k3, k4, k5, k6, k7⟩ := bz.cells
  obtain ⟨j0, j1, j2, j3, j4, j5, j6, j7⟩ := bt.cells
  go_wp2_with fail
  clear k0 k1 k2 k3 k4 k5 k6 k7
  clear j0 j1 j2 j3 j4 j5 j6 j7
  rw [← HE.out.1, ← HE.out.2.1, ← HE.out.2.2.1, ← HE.out.2.2.2.1]
  (try rw [HE.out.2.2.2.2.1])
  (try rw [HE.out.2.2.2.2.2])
  clear HE
  refine Calls.mono (show Calls Try.prog 28 #[.agg #[.int .i64 was.sn.ix, .int .i64 was.sn.tm, .int .i64 was.sn.sm, .int .i64 was.sn.lv, .bool was.sn.fn, .slice A n c, .int .i64 was.tm, .int .i64 was.vt]] w3 (fun e w' => (∃ b, MayIs was b ∧ e = .returned (.bool b)) ∧ Below w3.heap.size w3 w') from rrightT_any was A n c w3 hS) ?_
  intro e w4 hh
  obtain ⟨⟨b, hb, rfl⟩, bb⟩ := hh
  (try clear hh)
  replace hO := own_keep hO bb
  replace bz := bz.below bb
  replace bt := bt.below bb
  replace br := br.below bb
  replace hS := hS.on bb bb.size
  have B4 := B3.trans (bb.mono B3.size)
  clear bb B3
  obtain rfl := hb.same (mayNo h1)
  clear hb
  obtain ⟨k0, k1, k2, k3, k4, k5, k6, k7⟩ := bz.cells
  obtain ⟨j0, j1, j2, j3, j4, j5, j6, j7⟩ := bt.cells
  go_wp2_with fail
  clear k0 k1 k2 k3 k4 k5 k6 k7
  clear j0 j1 j2 j3 j4 j5 j6 j7
  have hbs := (B4).size
  refine Calls.mono (show Calls Try.prog 41 #[.agg #[.int .i64 was.sn.ix, .int .i64 was.sn.tm, .int .i64 was.sn.sm, .int .i64 was.sn.lv, .bool was.sn.fn, .slice A n c, .int .i64 was.tm, .int .i64 was.vt]] w4 (fun e w' => (∃ A' c', e = .returned (tupV was (.slice A' n c')) ∧ n ≤ c' ∧ OwnE w' w4.heap.size (.slice A' n c') n was.lg) ∧ Below w4.heap.size w4 w') from rownT_any was A n c w4 hS hn) ?_
  intro e w5 hh
  obtain ⟨⟨A5, c5, rfl, hc5, own⟩, bb⟩ := hh
  (try clear hh)
  replace hO := own_keep hO bb
  replace bz := bz.below bb
  replace bt := bt.below bb
  replace br := br.below bb
  replace hS := hS.on bb bb.size
  have B5 := B4.trans (bb.mono B4.size)
  clear bb B4
  unfold tupV
  obtain ⟨g0, g1, g2, g3, g4, g5, g6, g7⟩ := br.cells
  have f0 := br.frozen 0
  have f1 := br.frozen 1
  have f2 := br.frozen 2
  have f3 := br.frozen 3
  have f4 := br.frozen 4
  have f5 := br.frozen 5
  have f6 := br.frozen 6
  have f7 := br.frozen 7
  go_wp2_with fail
  obtain ⟨W', hW'⟩ : ∃ W', W' = putU w5 z3 was (.slice A5 n c5) := ⟨_, rfl⟩
  have b9 := putU_box br was (.slice A5 n c5)
  have B9 := putU_below HLZ.out.2 was (.slice A5 n c5) B5
  rw [← hW'] at b9 B9
  have e9 : W' = ((((((((w5.setCell ⟨z3, 0, none⟩ (.int .i64 was.sn.ix)).setCell ⟨z3, 1, none⟩ (.int .i64 was.sn.tm)).setCell ⟨z3, 2, none⟩ (.int .i64 was.sn.sm)).setCell ⟨z3, 3, none⟩ (.int .i64 was.sn.lv)).setCell ⟨z3, 4, none⟩ (.bool was.sn.fn)).setCell ⟨z3, 5, none⟩ (.slice A5 n c5)).setCell ⟨z3, 6, none⟩ (.int .i64 was.tm)).setCell ⟨z3, 7, none⟩ (.int .i64 was.vt)) := hW'
  have own9 : OwnE W' w4.heap.size (.slice A5 n c5) n was.lg := by rw [hW']; exact putU_own br own
  rw [← e9]
  clear e9 hW' g0 g1 g2 g3 g4 g5 g6 g7 f0 f1 f2 f3 f4 f5 f6 f7
  obtain ⟨g0, g1, g2, g3, g4, g5, g6, g7⟩ := b9.cells
  exact bodyPost_ret (v := .tuple #[tupV was (.slice A5 n c5), .int .i64 2]) (by unfold tupV; simp [results, Try.results42, go_sem, g0, g1, g2, g3, g4, g5, g6, g7]) rfl ⟨⟨was, 2, A5, n, c5, rfl, .inr ⟨HN.out, rfl, rfl⟩, hc5, own_low own9 (Nat.le_trans HB.out hbs)⟩, B9⟩
set_option maxRecDepth 100000 in
set_option maxHeartbeats 8000000 in
theorem told_no2 (was t : TupP) (A A' : Option Addr) (n c n' c' B : Nat) (q : Bool) (w : World) (hS : Es w w.heap.size A n was.lg) (hO : OwnE w B (.slice A' n' c') n' t.lg) (hn : n ≤ 1000000) (hn' : n' ≤ 1000000) (hc' : n' ≤ c') (hB : B ≤ w.heap.size) (hq : q = true) (h1 : MayT was) (h2 : ¬ MayT t) (hno : ¬ (q = true ∧ MayT was ∧ MayT t)) :
    Calls Try.prog 42 #[tupV was (.slice A n c), tupV t (.slice A' n' c'), .bool q] w (OutT (ToldIs was t (q = true)) B w) := by
  have HB := Lib.hid hB
  clear hB
  obtain ⟨z1, hz1⟩ : ∃ z, z = w.heap.size := ⟨_, rfl⟩
  obtain ⟨w1, hw1⟩ : ∃ x, x = w.alloc (.cells #[.int .i64 was.sn.ix, .int .i64 was.sn.tm, .int .i64 was.sn.sm, .int .i64 was.sn.lv, .bool was.sn.fn, .slice A n c, .int .i64 was.tm, .int .i64 was.vt] 26) := ⟨_, rfl⟩
  have bb : Below w.heap.size w w1 := by rw [hw1]; exact below_al (below_d0 _) _
  have bz : BoxU w1 z1 was (.slice A n c) := by rw [hw1, hz1]; exact BoxU.new w was _
  replace hO := own_keep hO bb
  replace hS := hS.on bb bb.size
  have B1 := bb
  clear bb
  obtain ⟨z2, hz2⟩ : ∃ z, z = w1.heap.size := ⟨_, rfl⟩
  obtain ⟨w2, hw2⟩ : ∃ x, x = w1.alloc (.cells #[.int .i64 t.sn.ix, .int .i64 t.sn.tm, .int .i64 t.sn.sm, .int .i64 t.sn.lv, .bool t.sn.fn, .slice A' n' c', .int .i64 t.tm, .int .i64 t.vt] 26) := ⟨_, rfl⟩
  have bb : Below w1.heap.size w1 w2 := by rw [hw2]; exact below_al (below_d0 _) _
  have bt : BoxU w2 z2 t (.slice A' n' c') := by rw [hw2, hz2]; exact BoxU.new w1 t _
  replace hO := own_keep hO bb
  replace bz := bz.below bb
  replace hS := hS.on bb bb.size
  have B2 := B1.trans (bb.mono B1.size)
  clear bb B1
  obtain ⟨z3, hz3⟩ : ∃ z, z = w2.heap.size := ⟨_, rfl⟩
  obtain ⟨w3, hw3⟩ : ∃ x, x = w2.alloc (.cells #[.int .i64 0, .int .i64 0, .int .i64 0, .int .i64 0, .bool false, .slice none 0 0, .int .i64 0, .int .i64 0] 26) := ⟨_, rfl⟩
  have bb : Below w2.heap.size w2 w3 := by rw [hw3]; exact below_al (below_d0 _) _
  have br : BoxU w3 z3 noneT (.slice none 0 0) := by rw [hw3, hz3]; exact BoxU.new w2 noneT _
  replace hO := own_keep hO bb
  replace bz := bz.below bb
  replace bt := bt.below bb
  replace hS := hS.on bb bb.size
  have B3 := B2.trans (bb.mono B2.size)
  clear bb B2
  have hp2 : z1 + 1 = z2 := by rw [hz2, hw1, hz1]; simp
  have hp3 : z2 + 1 = z3 := by rw [hz3, hw2, hz2]; simp
  have lz2 : w.heap.size ≤ z2 := by omega
  have lz3 : w.heap.size ≤ z3 := by omega
  have ne12 : z1 ≠ z2 := by omega
  have ne13 : z1 ≠ z3 := by omega
  have ne23 : z2 ≠ z3 := by omega
  have HE := Lib.hid (⟨hw1, hw2, hw3, hz1, hp2, hp3⟩ : _ ∧ _ ∧ _ ∧ _ ∧ _ ∧ _)
  have HLZ := Lib.hid (⟨lz2, lz3⟩ : _ ∧ _)
  clear hw1 hz1 hw2 hz2 hw3 hz3 hp2 hp3 lz2 lz3
  have HN := Lib.hid hno
  subst hq
  clear hno
  unfold tupV
  go_enter Try.func42, Try.ntmps42
  obtain ⟨k0, k1, k2, k3, k4, k5, k6, k7⟩ := bz.cells
  obtain ⟨j0, j1, j2, j3, j4, j5, j6, j7⟩ := bt.cells
  go_wp2_with fail
  clear k0 k1 k2 k3 k4 k5 k6 k7
  clear j0 j1 j2 j3 j4 j5 j6 j7
  rw [← HE.out.1, ← HE.out.2.1, ← HE.out.2.2.1, ← HE.out.2.2.2.1]
  (try rw [HE.out.2.2.2.2.1])
  (try rw [HE.out.2.2.2.2.2])
  clear HE
  refine Calls.mono (show Calls Try.prog 28 #[.agg #[.int .i64 was.sn.ix, .int .i64 was.sn.tm, .int .i64 was.sn.sm, .int .i64 was.sn.lv, .bool was.sn.fn, .slice A n c, .int .i64 was.tm, .int .i64 was.vt]] w3 (fun e w' => (∃ b, MayIs was b ∧ e = .returned (.bool b)) ∧ Below w3.heap.size w3 w') from rrightT_any was A n c w3 hS) ?_
  intro e w4 hh
  obtain ⟨⟨b, hb, rfl⟩, bb⟩ := hh
  (try clear hh)
  replace hO := own_keep hO bb
  replace bz := bz.below bb
  replace bt := bt.below bb
  replace br := br.below bb
  replace hS := hS.on bb bb.size
  have B4 := B3.trans (bb.mono B3.size)
  clear bb B3
  obtain rfl := hb.same (mayYes h1)
  clear hb
  obtain ⟨k0, k1, k2, k3, k4, k5, k6, k7⟩ := bz.cells
  obtain ⟨j0, j1, j2, j3, j4, j5, j6, j7⟩ := bt.cells
  go_wp2_with fail
  clear k0 k1 k2 k3 k4 k5 k6 k7
  clear j0 j1 j2 j3 j4 j5 j6 j7
  refine Calls.mono (show Calls Try.prog 28 #[.agg #[.int .i64 t.sn.ix, .int .i64 t.sn.tm, .int .i64 t.sn.sm, .int .i64 t.sn.lv, .bool t.sn.fn, .slice A' n' c', .int .i64 t.tm, .int .i64 t.vt]] w4 (fun e w' => (∃ b, MayIs t b ∧ e = .returned (.bool b)) ∧ Below w4.heap.size w4 w') from rrightT_any t A' n' c' w4 (OwnE.es hO)) ?_
  intro e w5 hh
  obtain ⟨⟨b, hb, rfl⟩, bb⟩ := hh
  (try clear hh)
  replace hO := own_keep hO bb
  replace bz := bz.below bb
  replace bt := bt.below bb
  replace br := br.below bb
  replace hS := hS.on bb bb.size
  have B5 := B4.trans (bb.mono B4.size)
  clear bb B4
  obtain rfl := hb.same (mayNo h2)
  clear hb
  obtain ⟨k0, k1, k2, k3, k4, k5, k6, k7⟩ := bz.cells
  obtain ⟨j0, j1, j2, j3, j4, j5, j6, j7⟩ := bt.cells
  go_wp2_with fail
  clear k0 k1 k2 k3 k4 k5 k6 k7
  clear j0 j1 j2 j3 j4 j5 j6 j7
  have hbs := (B5).size
  refine Calls.mono (show Calls Try.prog 41 #[.agg #[.int .i64 was.sn.ix, .int .i64 was.sn.tm, .int .i64 was.sn.sm, .int .i64 was.sn.lv, .bool was.sn.fn, .slice A n c, .int .i64 was.tm, .int .i64 was.vt]] w5 (fun e w' => (∃ A' c', e = .returned (tupV was (.slice A' n c')) ∧ n ≤ c' ∧ OwnE w' w5.heap.size (.slice A' n c') n was.lg) ∧ Below w5.heap.size w5 w') from rownT_any was A n c w5 hS hn) ?_
  intro e w6 hh
  obtain ⟨⟨A5, c5, rfl, hc5, own⟩, bb⟩ := hh
  (try clear hh)
  replace hO := own_keep hO bb
  replace bz := bz.below bb
  replace bt := bt.below bb
  replace br := br.below bb
  replace hS := hS.on bb bb.size
  have B6 := B5.trans (bb.mono B5.size)
  clear bb B5
  unfold tupV
  obtain ⟨g0, g1, g2, g3, g4, g5, g6, g7⟩ := br.cells
  have f0 := br.frozen 0
  have f1 := br.frozen 1
  have f2 := br.frozen 2
  have f3 := br.frozen 3
  have f4 := br.frozen 4
  have f5 := br.frozen 5
  have f6 := br.frozen 6
  have f7 := br.frozen 7
  go_wp2_with fail
  obtain ⟨W', hW'⟩ : ∃ W', W' = putU w6 z3 was (.slice A5 n c5) := ⟨_, rfl⟩
  have b9 := putU_box br was (.slice A5 n c5)
  have B9 := putU_below HLZ.out.2 was (.slice A5 n c5) B6
  rw [← hW'] at b9 B9
  have e9 : W' = ((((((((w6.setCell ⟨z3, 0, none⟩ (.int .i64 was.sn.ix)).setCell ⟨z3, 1, none⟩ (.int .i64 was.sn.tm)).setCell ⟨z3, 2, none⟩ (.int .i64 was.sn.sm)).setCell ⟨z3, 3, none⟩ (.int .i64 was.sn.lv)).setCell ⟨z3, 4, none⟩ (.bool was.sn.fn)).setCell ⟨z3, 5, none⟩ (.slice A5 n c5)).setCell ⟨z3, 6, none⟩ (.int .i64 was.tm)).setCell ⟨z3, 7, none⟩ (.int .i64 was.vt)) := hW'
  have own9 : OwnE W' w5.heap.size (.slice A5 n c5) n was.lg := by rw [hW']; exact putU_own br own
  rw [← e9]
  clear e9 hW' g0 g1 g2 g3 g4 g5 g6 g7 f0 f1 f2 f3 f4 f5 f6 f7
  obtain ⟨g0, g1, g2, g3, g4, g5, g6, g7⟩ := b9.cells
  exact bodyPost_ret (v := .tuple #[tupV was (.slice A5 n c5), .int .i64 2]) (by unfold tupV; simp [results, Try.results42, go_sem, g0, g1, g2, g3, g4, g5, g6, g7]) rfl ⟨⟨was, 2, A5, n, c5, rfl, .inr ⟨HN.out, rfl, rfl⟩, hc5, own_low own9 (Nat.le_trans HB.out hbs)⟩, B9⟩
set_option maxRecDepth 100000 in
set_option maxHeartbeats 8000000 in
theorem told_yes (was t : TupP) (A A' : Option Addr) (n c n' c' B : Nat) (q : Bool) (w : World) (hS : Es w w.heap.size A n was.lg) (hO : OwnE w B (.slice A' n' c') n' t.lg) (hn : n ≤ 1000000) (hn' : n' ≤ 1000000) (hc' : n' ≤ c') (hB : B ≤ w.heap.size) (hq : q = true) (h1 : MayT was) (h2 : MayT t) :
    Calls Try.prog 42 #[tupV was (.slice A n c), tupV t (.slice A' n' c'), .bool q] w (OutT (ToldIs was t (q = true)) B w) := by
  have HB := Lib.hid hB
  clear hB
  obtain ⟨z1, hz1⟩ : ∃ z, z = w.heap.size := ⟨_, rfl⟩
  obtain ⟨w1, hw1⟩ : ∃ x, x = w.alloc (.cells #[.int .i64 was.sn.ix, .int .i64 was.sn.tm, .int .i64 was.sn.sm, .int .i64 was.sn.lv, .bool was.sn.fn, .slice A n c, .int .i64 was.tm, .int .i64 was.vt] 26) := ⟨_, rfl⟩
  have bb : Below w.heap.size w w1 := by rw [hw1]; exact below_al (below_d0 _) _
  have bz : BoxU w1 z1 was (.slice A n c) := by rw [hw1, hz1]; exact BoxU.new w was _
  replace hO := own_keep hO bb
  replace hS := hS.on bb bb.size
  have B1 := bb
  clear bb
  obtain ⟨z2, hz2⟩ : ∃ z, z = w1.heap.size := ⟨_, rfl⟩
  obtain ⟨w2, hw2⟩ : ∃ x, x = w1.alloc (.cells #[.int .i64 t.sn.ix, .int .i64 t.sn.tm, .int .i64 t.sn.sm, .int .i64 t.sn.lv, .bool t.sn.fn, .slice A' n' c', .int .i64 t.tm, .int .i64 t.vt] 26) := ⟨_, rfl⟩
  have bb : Below w1.heap.size w1 w2 := by rw [hw2]; exact below_al (below_d0 _) _
  have bt : BoxU w2 z2 t (.slice A' n' c') := by rw [hw2, hz2]; exact BoxU.new w1 t _
  replace hO := own_keep hO bb
  replace bz := bz.below bb
  replace hS := hS.on bb bb.size
  have B2 := B1.trans (bb.mono B1.size)
  clear bb B1
  obtain ⟨z3, hz3⟩ : ∃ z, z = w2.heap.size := ⟨_, rfl⟩
  obtain ⟨w3, hw3⟩ : ∃ x, x = w2.alloc (.cells #[.int .i64 0, .int .i64 0, .int .i64 0, .int .i64 0, .bool false, .slice none 0 0, .int .i64 0, .int .i64 0] 26) := ⟨_, rfl⟩
  have bb : Below w2.heap.size w2 w3 := by rw [hw3]; exact below_al (below_d0 _) _
  have br : BoxU w3 z3 noneT (.slice none 0 0) := by rw [hw3, hz3]; exact BoxU.new w2 noneT _
  replace hO := own_keep hO bb
  replace bz := bz.below bb
  replace bt := bt.below bb
  replace hS := hS.on bb bb.size
  have B3 := B2.trans (bb.mono B2.size)
  clear bb B2
  have hp2 : z1 + 1 = z2 := by rw [hz2, hw1, hz1]; simp
  have hp3 : z2 + 1 = z3 := by rw [hz3, hw2, hz2]; simp
  have lz2 : w.heap.size ≤ z2 := by omega
  have lz3 : w.heap.size ≤ z3 := by omega
  have ne12 : z1 ≠ z2 := by omega
  have ne13 : z1 ≠ z3 := by omega
  have ne23 : z2 ≠ z3 := by omega
  have HE := Lib.hid (⟨hw1, hw2, hw3, hz1, hp2, hp3⟩ : _ ∧ _ ∧ _ ∧ _ ∧ _ ∧ _)
  have HLZ := Lib.hid (⟨lz2, lz3⟩ : _ ∧ _)
  clear hw1 hz1 hw2 hz2 hw3 hz3 hp2 hp3 lz2 lz3
  subst hq
  unfold tupV
  go_enter Try.func42, Try.ntmps42
  obtain ⟨k0, k1, k2, k3, k4, k5, k6, k7⟩ := bz.cells
  obtain ⟨j0, j1, j2, j3, j4, j5, j6, j7⟩ := bt.cells
  go_wp2_with fail
  clear k0 k1 k2 k3 k4 k5 k6 k7
  clear j0 j1 j2 j3 j4 j5 j6 j7
  rw [← HE.out.1, ← HE.out.2.1, ← HE.out.2.2.1, ← HE.out.2.2.2.1]
  (try rw [HE.out.2.2.2.2.1])
  (try rw [HE.out.2.2.2.2.2])
  clear HE
  refine Calls.mono (show Calls Try.prog 28 #[.agg #[.int .i64 was.sn.ix, .int .i64 was.sn.tm, .int .i64 was.sn.sm, .int .i64 was.sn.lv, .bool was.sn.fn, .slice A n c, .int .i64 was.tm, .int .i64 was.vt]] w3 (fun e w' => (∃ b, MayIs was b ∧ e = .returned (.bool b)) ∧ Below w3.heap.size w3 w') from rrightT_any was A n c w3 hS) ?_
  intro e w4 hh
  obtain ⟨⟨b, hb, rfl⟩, bb⟩ := hh
  (try clear hh)
  replace hO := own_keep hO bb
  replace bz := bz.below bb
  replace bt := bt.below bb
  replace br := br.below bb
  replace hS := hS.on bb bb.size
  have B4 := B3.trans (bb.mono B3.size)
  clear bb B3
  obtain rfl := hb.same (mayYes h1)
  clear hb
  obtain ⟨k0, k1, k2, k3, k4, k5, k6, k7⟩ := bz.cells
  obtain ⟨j0, j1, j2, j3, j4, j5, j6, j7⟩ := bt.cells
  go_wp2_with fail
  clear k0 k1 k2 k3 k4 k5 k6 k7
  clear j0 j1 j2 j3 j4 j5 j6 j7
  refine Calls.mono (show Calls Try.prog 28 #[.agg #[.int .i64 t.sn.ix, .int .i64 t.sn.tm, .int .i64 t.sn.sm, .int .i64 t.sn.lv, .bool t.sn.fn, .slice A' n' c', .int .i64 t.tm, .int .i64 t.vt]] w4 (fun e w' => (∃ b, MayIs t b ∧ e = .returned (.bool b)) ∧ Below w4.heap.size w4 w') from rrightT_any t A' n' c' w4 (OwnE.es hO)) ?_
  intro e w5 hh
  obtain ⟨⟨b, hb, rfl⟩, bb⟩ := hh
  (try clear hh)
  replace hO := own_keep hO bb
  replace bz := bz.below bb
  replace bt := bt.below bb
  replace br := br.below bb
  replace hS := hS.on bb bb.size
  have B5 := B4.trans (bb.mono B4.size)
  clear bb B4
  obtain rfl := hb.same (mayYes h2)
  clear hb
  obtain ⟨k0, k1, k2, k3, k4, k5, k6, k7⟩ := bz.cells
  obtain ⟨j0, j1, j2, j3, j4, j5, j6, j7⟩ := bt.cells
  obtain ⟨g0, g1, g2, g3, g4, g5, g6, g7⟩ := br.cells
  have f0 := br.frozen 0
  have f1 := br.frozen 1
  have f2 := br.frozen 2
  have f3 := br.frozen 3
  have f4 := br.frozen 4
  have f5 := br.frozen 5
  have f6 := br.frozen 6
  have f7 := br.frozen 7
  go_wp2_with fail
  clear k0 k1 k2 k3 k4 k5 k6 k7
  clear j0 j1 j2 j3 j4 j5 j6 j7
  obtain ⟨W', hW'⟩ : ∃ W', W' = putU w5 z3 t (.slice A' n' c') := ⟨_, rfl⟩
  have b9 := putU_box br t (.slice A' n' c')
  have B9 := putU_below HLZ.out.2 t (.slice A' n' c') B5
  rw [← hW'] at b9 B9
  have e9 : W' = ((((((((w5.setCell ⟨z3, 0, none⟩ (.int .i64 t.sn.ix)).setCell ⟨z3, 1, none⟩ (.int .i64 t.sn.tm)).setCell ⟨z3, 2, none⟩ (.int .i64 t.sn.sm)).setCell ⟨z3, 3, none⟩ (.int .i64 t.sn.lv)).setCell ⟨z3, 4, none⟩ (.bool t.sn.fn)).setCell ⟨z3, 5, none⟩ (.slice A' n' c')).setCell ⟨z3, 6, none⟩ (.int .i64 t.tm)).setCell ⟨z3, 7, none⟩ (.int .i64 t.vt)) := hW'
  have own9 : OwnE W' B (.slice A' n' c') n' t.lg := by rw [hW']; exact putU_own br hO
  rw [← e9]
  clear e9 hW' g0 g1 g2 g3 g4 g5 g6 g7 f0 f1 f2 f3 f4 f5 f6 f7
  obtain ⟨g0, g1, g2, g3, g4, g5, g6, g7⟩ := b9.cells
  exact bodyPost_ret (v := .tuple #[tupV t (.slice A' n' c'), .int .i64 0]) (by unfold tupV; simp [results, Try.results42, go_sem, g0, g1, g2, g3, g4, g5, g6, g7]) rfl ⟨⟨t, 0, A', n', c', rfl, .inl ⟨by simp, h1, h2, rfl, rfl⟩, hc', own9⟩, B9⟩
theorem rtoldT_any (was t : TupP) (A A' : Option Addr) (n c n' c' B : Nat) (q : Bool) (w : World) (hS : Es w w.heap.size A n was.lg) (hO : OwnE w B (.slice A' n' c') n' t.lg) (hn : n ≤ 1000000) (hn' : n' ≤ 1000000) (hc' : n' ≤ c') (hB : B ≤ w.heap.size) :
    Calls Try.prog 42 #[tupV was (.slice A n c), tupV t (.slice A' n' c'), .bool q] w (OutT (ToldIs was t (q = true)) B w) := by
  by_cases hq : q = true
  · by_cases h1 : MayT was
    · by_cases h2 : MayT t
      · exact told_yes was t A A' n c n' c' B q w hS hO hn hn' hc' hB hq h1 h2
      · exact told_no2 was t A A' n c n' c' B q w hS hO hn hn' hc' hB hq h1 h2 (fun h => h2 h.2.2)
    · exact told_no1 was t A A' n c n' c' B q w hS hO hn hn' hc' hB hq h1 (fun h => h1 h.2.1)
  · exact told_no0 was t A A' n c n' c' B q w hS hn hn' hc' hB (by simpa using hq)
end Go.Proofs.Ytbhnlmlaebngmaa
