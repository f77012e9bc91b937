/-
  ManifestOnly: it returns true.
-/
import Derived.Test.YtafeadplmcoilaaDoorWakesM
import Derived.Test.YtafeadplmcoilaaDoorManK
namespace Go.Proofs.YtafeadplmcoilaaDoor
open Go.RowKit
set_option linter.unusedVariables false
set_option linter.unusedSimpArgs false

set_option maxRecDepth 100000 in
set_option maxHeartbeats 4000000 in
theorem only_all (A : Option Addr) (n c : Nat) (b : List Int) (w : World) (hT : Cr.Tab w) (hl : Rd w w.heap.size .u8 A n b) (hb : Byt b) (hnc : n ≤ c) :
    Calls Tryd.prog 5 #[.slice A n c] w fun e w' => e = .returned (.bool true) ∧ Below w.heap.size w w' := by
  have HT := Lib.hid hT
  have HB := Lib.hid hb
  clear hT hb
  by_cases hbig : 900 < n
  · have t0 : decide ((900 : Int) < (n : Int)) = true := by simp; omega
    go_enter Tryd.func5, Tryd.ntmps5
    go_wp2_with fail
    refine Calls.mono (wakes_true w HT.out) ?_
    rintro e w1 ⟨rfl, hb1⟩
    go_wp2_with fail
    go_ret
    exact ⟨rfl, hb1⟩
  have t0 : decide ((900 : Int) < (n : Int)) = false := by simp; omega
  have hn : n ≤ 1000000 := by omega
  clear hbig
  by_cases hs : ∃ m, IsMan m b
  · obtain ⟨m, hs⟩ := hs
    have HS := Lib.hid hs
    obtain ⟨k, hk⟩ : ∃ k, m.sg.length = k := ⟨_, rfl⟩
    have HK := Lib.hid (show m.sg.length = k ∧ k ≤ 60 from ⟨hk, by have := hs.1.few; omega⟩)
    clear hs hk
    go_enter Tryd.func5, Tryd.ntmps5
    go_wp2_with fail
    refine Calls.mono (take_any A n c b w HT.out hl HB.out hnc hn) ?_
    intro e w1 hh
    obtain ⟨A1, c1, rfl, hc1, hS1, bb⟩ := hh.yes HS.out HK.out.1
    (try clear hh)
    replace hl := hl.on bb bb.size
    have B1 := bb
    clear bb
    have S1 := hS1.sg
    clear hS1
    unfold manV
    obtain ⟨z2, hz2⟩ : ∃ z, z = w1.heap.size := ⟨_, rfl⟩
    obtain ⟨w2, hw2⟩ : ∃ x, x = w1.alloc (.cells #[.int .i64 m.nx, .int .i64 m.tm, .int .i64 m.vt, .int .i64 m.ss, .int .i64 m.sf, .slice A1 k c1] 26) := ⟨_, rfl⟩
    have bb : Below w1.heap.size w1 w2 := by rw [hw2]; exact below_al (below_d0 _) _
    have bz : BoxM w2 z2 m (.slice A1 k c1) := by rw [hw2, hz2]; exact BoxM.new w1 m _
    replace hl := hl.on bb bb.size
    replace S1 := S1.on bb bb.size
    have B2 := B1.trans (bb.mono B1.size)
    clear bb B1
    obtain ⟨k0, k1, k2, k3, k4, k5⟩ := bz.cells
    rw [hw2, hz2] at k0 k1 k2 k3 k4 k5
    go_wp2_with fail
    clear k0 k1 k2 k3 k4 k5
    rw [← hw2, ← hz2]
    clear hw2 hz2
    refine Calls.mono (show Calls Tryd.prog 10 #[.agg #[.int .i64 m.nx, .int .i64 m.tm, .int .i64 m.vt, .int .i64 m.ss, .int .i64 m.sf, .slice A1 k c1]] w2 (PutT m w2) from put_any m A1 k c1 w2 (HT.out.on B2) S1 (by have := HK.out.2; omega) (mok_may HS.out.1)) ?_
    intro e w3 hh
    obtain ⟨A2, c2, rfl, hc2, r2, bb⟩ := hh.yes HS.out.1 (n := n) (by rw [← HS.out.2]; exact hl.1)
    (try clear hh)
    replace bz := bz.below bb
    replace hl := hl.on bb bb.size
    replace S1 := S1.on bb bb.size
    have B3 := B2.trans (bb.mono B2.size)
    clear bb B2
    rw [← HS.out.2] at r2
    go_wp2_with fail
    have sm := same_any A2 A n n c2 c b b w3 r2 hl HB.out HB.out
    rw [show Cr.eqB b b = true from Cr.eqB_iff.2 rfl] at sm
    refine Calls.mono (sm) ?_
    rintro e wv ⟨rfl, rfl⟩
    obtain ⟨k0, k1, k2, k3, k4, k5⟩ := bz.cells
    clear sm
    go_wp2_with fail
    clear k0 k1 k2 k3 k4 k5
    refine Calls.mono (show Calls Tryd.prog 19 #[.agg #[.int .i64 m.nx, .int .i64 m.tm, .int .i64 m.vt, .int .i64 m.ss, .int .i64 m.sf, .slice A1 k c1]] w3 (fun e w' => (∃ r, CheckIs m r ∧ e = .returned (.int .i64 r)) ∧ Below w3.heap.size w3 w') from rcheck_any m A1 k c1 w3 S1 (by have := HK.out.2; omega)) ?_
    intro e w4 hh
    obtain ⟨⟨r, hr, rfl⟩, bb⟩ := hh
    (try clear hh)
    replace bz := bz.below bb
    replace hl := hl.on bb bb.size
    replace S1 := S1.on bb bb.size
    replace r2 := r2.on bb bb.size
    have B4 := B3.trans (bb.mono B3.size)
    clear bb B3
    obtain rfl := hr.same (.inl ⟨HS.out.1, rfl⟩)
    clear hr
    go_wp2_with fail
    refine Calls.mono (wakes_true w4 (HT.out.on B4)) ?_
    rintro e w5 ⟨rfl, bb⟩
    replace bz := bz.below bb
    replace hl := hl.on bb bb.size
    replace S1 := S1.on bb bb.size
    replace r2 := r2.on bb bb.size
    have B5 := B4.trans (bb.mono B4.size)
    clear bb B4
    go_wp2_with fail
    go_ret
    exact ⟨rfl, B5⟩
  · have HS := Lib.hid (fun m h => hs ⟨m, h⟩ : ∀ m, ¬ IsMan m b)
    clear hs
    go_enter Tryd.func5, Tryd.ntmps5
    go_wp2_with fail
    refine Calls.mono (take_any A n c b w HT.out hl HB.out hnc hn) ?_
    intro e w1 hh
    obtain ⟨A1, c1, rfl, bb⟩ := hh.no HS.out
    (try clear hh)
    replace hl := hl.on bb bb.size
    have B1 := bb
    clear bb
    rw [show manV noneM (.slice A1 0 c1) = .agg #[.int .i64 0, .int .i64 0, .int .i64 0, .int .i64 0, .int .i64 0, .slice A1 0 c1] from rfl]
    obtain ⟨z2, hz2⟩ : ∃ z, z = w1.heap.size := ⟨_, rfl⟩
    obtain ⟨w2, hw2⟩ : ∃ x, x = w1.alloc (.cells #[.int .i64 0, .int .i64 0, .int .i64 0, .int .i64 0, .int .i64 0, .slice A1 0 c1] 26) := ⟨_, rfl⟩
    have bb : Below w1.heap.size w1 w2 := by rw [hw2]; exact below_al (below_d0 _) _
    have bz : BoxM w2 z2 noneM (.slice A1 0 c1) := by rw [hw2, hz2]; exact BoxM.new w1 noneM _
    replace hl := hl.on bb bb.size
    have B2 := B1.trans (bb.mono B1.size)
    clear bb B1
    go_wp2_with fail
    rw [← hw2]
    clear hw2 hz2
    refine Calls.mono (show Calls Tryd.prog 17 #[.agg #[.int .i64 0, .int .i64 0, .int .i64 0, .int .i64 0, .int .i64 0, .slice A1 0 c1], .agg #[.int .i64 0, .int .i64 0, .int .i64 0, .int .i64 0, .int .i64 0, .slice none 0 0]] w2 (fun e w' => (∃ b, SameM noneM noneM b ∧ e = .returned (.bool b)) ∧ Below w2.heap.size w2 w') from rsameM_any noneM noneM A1 none 0 0 c1 0 w2 Row.nil Row.nil (by omega) (by omega)) ?_
    intro e w3 hh
    obtain ⟨⟨r, hr, rfl⟩, bb⟩ := hh
    (try clear hh)
    replace bz := bz.below bb
    replace hl := hl.on bb bb.size
    have B3 := B2.trans (bb.mono B2.size)
    clear bb B2
    obtain rfl := hr.same (SameM.yes rfl)
    clear hr
    go_wp2_with fail
    refine Calls.mono (wakes_true w3 (HT.out.on B3)) ?_
    rintro e w4 ⟨rfl, bb⟩
    replace bz := bz.below bb
    replace hl := hl.on bb bb.size
    have B4 := B3.trans (bb.mono B3.size)
    clear bb B3
    go_wp2_with fail
    go_ret
    exact ⟨rfl, B4⟩

end Go.Proofs.YtafeadplmcoilaaDoor
