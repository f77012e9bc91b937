/-
  SnapOnly: it returns true.
-/
import Derived.Test.YtdggacabjlengaaDoorWakes9
namespace Go.Proofs.YtdggacabjlengaaDoor
open Go.RowKit
set_option linter.unusedVariables false
set_option linter.unusedSimpArgs false

theorem eql_same (s : StP) (w : World) : (binOp .eql 23 (.agg #[.int .i64 s.ix, .int .i64 s.tm, .int .i64 s.sm, .int .i64 s.lv, .bool s.fn]) (.agg #[.int .i64 s.ix, .int .i64 s.tm, .int .i64 s.sm, .int .i64 s.lv, .bool s.fn])).run Tryd.prog w = .ok (.bool true) w := by
  have h := eql_st s s w
  rw [decide_eq_true rfl] at h
  exact h
theorem eql_none (w : World) : (binOp .eql 23 (.agg #[.int .i64 0, .int .i64 0, .int .i64 0, .int .i64 0, .bool false]) (.agg #[.int .i64 0, .int .i64 0, .int .i64 0, .int .i64 0, .bool false])).run Tryd.prog w = .ok (.bool true) w := eql_same noneP w

set_option maxRecDepth 100000 in
set_option maxHeartbeats 4000000 in
theorem only_all (A : Option Addr) (n c : Nat) (b : List Int) (f : Int) (w : World) (hT : Cr.Tab w) (hl : Rd w w.heap.size .u8 A n b) (hb : Byt b) (hnc : n ≤ c) :
    Calls Tryd.prog 6 #[.slice A n c, .int .i64 f] w fun e w' => e = .returned (.bool true) ∧ Below w.heap.size w w' := by
  have HT := Lib.hid hT
  have HB := Lib.hid hb
  clear hT hb
  by_cases hbig : 200 < n
  · have t0 : decide ((200 : Int) < (n : Int)) = true := by simp; omega
    go_enter Tryd.func6, Tryd.ntmps6
    go_wp2_with fail
    refine Calls.mono (wakes_true w HT.out) ?_
    rintro e w1 ⟨rfl, hb1⟩
    go_wp2_with fail
    go_ret
    exact ⟨rfl, hb1⟩
  have t0 : decide ((200 : Int) < (n : Int)) = false := by simp; omega
  have hn : n ≤ 1000000 := by omega
  clear hbig
  by_cases hs : ∃ s, IsSnap s f b
  · obtain ⟨s, hs⟩ := hs
    have HS := Lib.hid hs
    have q1 := eql_same s
    clear hs
    go_enter Tryd.func6, Tryd.ntmps6
    go_wp2_with fail
    refine Calls.mono (Take_any A n c b f w HT.out hl HB.out hnc hn) ?_
    intro e w1 hh
    obtain ⟨rfl, bb⟩ := hh.yes HS.out
    (try clear hh)
    replace hl := hl.on bb bb.size
    have B1 := bb
    clear bb
    rw [show s.v = .agg #[.int .i64 s.ix, .int .i64 s.tm, .int .i64 s.sm, .int .i64 s.lv, .bool s.fn] from rfl]
    obtain ⟨z, hz⟩ : ∃ z, z = w1.heap.size := ⟨_, rfl⟩
    obtain ⟨w2, hw2⟩ : ∃ x, x = w1.alloc (.cells #[.int .i64 s.ix, .int .i64 s.tm, .int .i64 s.sm, .int .i64 s.lv, .bool s.fn] 23) := ⟨_, rfl⟩
    have bz : BoxS w2 z s := by rw [hw2, hz]; exact BoxS.new w1 s
    have bb : Below w1.heap.size w1 w2 := by rw [hw2]; exact (Below.refl _ _).alloc (Nat.le_refl _) _
    replace hl := hl.on bb bb.size
    have B2 := B1.trans (bb.mono B1.size)
    clear bb B1
    obtain ⟨k0, k1, k2, k3, k4⟩ := bz.cells
    rw [hw2, hz] at k0 k1 k2 k3 k4
    go_wp2_with fail
    rw [← hw2, ← hz]
    clear k0 k1 k2 k3 k4
    clear hw2 hz
    have hp : putP s f = (b, 0) := by rw [putP_yes HS.out.fine HS.out.fmt, ← HS.out.eq]
    refine Calls.mono (show Calls Tryd.prog 9 #[.agg #[.int .i64 s.ix, .int .i64 s.tm, .int .i64 s.sm, .int .i64 s.lv, .bool s.fn], .int .i64 f] w2 (Told w2 (putP s f)) from Put_any s f w2 (HT.out.on B2)) ?_
    intro e w3 hh
    obtain ⟨A1, c1, rfl, hc1, r1, bb⟩ := hh.yes hp hl.1
    (try clear hh)
    replace bz := bz.below bb
    replace hl := hl.on bb bb.size
    have B3 := B2.trans (bb.mono B2.size)
    clear bb B2
    obtain ⟨k0, k1, k2, k3, k4⟩ := bz.cells
    go_wp2_with fail
    clear k0 k1 k2 k3 k4
    have sm := same_any A1 A n n c1 c b b w3 r1 hl HB.out HB.out
    rw [show eqB b b = true from eqB_true rfl] at sm
    refine Calls.mono (sm) ?_
    rintro e wv ⟨rfl, rfl⟩
    clear sm
    obtain ⟨k0, k1, k2, k3, k4⟩ := bz.cells
    go_wp2_with fail
    clear k0 k1 k2 k3 k4
    refine Calls.mono (show Calls Tryd.prog 20 #[.agg #[.int .i64 s.ix, .int .i64 s.tm, .int .i64 s.sm, .int .i64 s.lv, .bool s.fn]] w3 (fun r w' => r = .returned (.bool (fineB s)) ∧ Below w3.heap.size w3 w') from rfine_any s w3) ?_
    intro e w4 hh
    obtain ⟨rfl, bb⟩ := hh
    (try clear hh)
    replace bz := bz.below bb
    replace hl := hl.on bb bb.size
    replace r1 := r1.on bb bb.size
    have B4 := B3.trans (bb.mono B3.size)
    clear bb B3
    rw [HS.out.fine]
    go_wp2_with fail
    refine Calls.mono (wakes_true w4 (HT.out.on B4)) ?_
    rintro e w5 ⟨rfl, bb⟩
    replace bz := bz.below bb
    replace hl := hl.on bb bb.size
    replace r1 := r1.on bb bb.size
    have B5 := B4.trans (bb.mono B4.size)
    clear bb B4
    go_wp2_with fail
    go_ret
    exact ⟨rfl, B5⟩
  · have HS := Lib.hid (fun s h => hs ⟨s, h⟩ : ∀ s, ¬ IsSnap s f b)
    have q1 := eql_none
    clear hs
    go_enter Tryd.func6, Tryd.ntmps6
    go_wp2_with fail
    refine Calls.mono (Take_any A n c b f w HT.out hl HB.out hnc hn) ?_
    intro e w1 hh
    obtain ⟨rfl, bb⟩ := hh.no HS.out
    (try clear hh)
    replace hl := hl.on bb bb.size
    have B1 := bb
    clear bb
    rw [show noneP.v = .agg #[.int .i64 0, .int .i64 0, .int .i64 0, .int .i64 0, .bool false] from rfl]
    obtain ⟨z, hz⟩ : ∃ z, z = w1.heap.size := ⟨_, rfl⟩
    obtain ⟨w2, hw2⟩ : ∃ x, x = w1.alloc (.cells #[.int .i64 0, .int .i64 0, .int .i64 0, .int .i64 0, .bool false] 23) := ⟨_, rfl⟩
    have bz : BoxS w2 z noneP := by rw [hw2, hz]; exact BoxS.new w1 noneP
    have bb : Below w1.heap.size w1 w2 := by rw [hw2]; exact (Below.refl _ _).alloc (Nat.le_refl _) _
    replace hl := hl.on bb bb.size
    have B2 := B1.trans (bb.mono B1.size)
    clear bb B1
    obtain ⟨k0, k1, k2, k3, k4⟩ := bz.cells
    dsimp only [noneP] at k0 k1 k2 k3 k4
    rw [hw2, hz] at k0 k1 k2 k3 k4
    go_wp2_with fail
    rw [← hw2]
    clear k0 k1 k2 k3 k4
    refine Calls.mono (wakes_true w2 (HT.out.on B2)) ?_
    rintro e w3 ⟨rfl, bb⟩
    replace hl := hl.on bb bb.size
    have B3 := B2.trans (bb.mono B2.size)
    clear bb B2
    go_wp2_with fail
    go_ret
    exact ⟨rfl, B3⟩

end Go.Proofs.YtdggacabjlengaaDoor
