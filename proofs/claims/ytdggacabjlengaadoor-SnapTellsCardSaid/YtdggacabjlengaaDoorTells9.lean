/-
  SnapTells: it returns true.
-/
import Derived.Test.YtdggacabjlengaaDoorBack9
import Derived.Test.YtdggacabjlengaaDoorRagain
namespace Go.Proofs.YtdggacabjlengaaDoor
open Go.RowKit
set_option linter.unusedVariables false
set_option linter.unusedSimpArgs false

theorem Told.gen {w w' : World} {R : List Int × Int} {e : Ending} {L : List Int} {er : Int} {n : Nat} (h : Told w R e w') (hR : R = (L, er)) (hn : L.length = n) : ∃ A c, e = .returned (.tuple #[.slice A n c, .int .i64 er]) ∧ n ≤ c ∧ Rd w' w'.heap.size .u8 A n L ∧ Below w.heap.size w w' := by
  subst hR hn
  obtain ⟨⟨A, c, h1, h2, h3⟩, hb⟩ := h
  exact ⟨A, c, h1, h2, h3, hb⟩
theorem PiecesOut.rd {w w' : World} {l : List Int} {e : Ending} {n : Nat} (h : PiecesOut w l e w') (hn : (piecesL l).length = n) : ∃ A c, e = .returned (.slice A n c) ∧ Rd w' w'.heap.size .u8 A n (piecesL l) ∧ Below w.heap.size w w' := by
  subst hn
  obtain ⟨A, c, n, h1, rfl, h2, hb⟩ := h
  exact ⟨A, c, h1, Rd.of_own h2, hb⟩
theorem same_self (A A' : Option Addr) (n c c' : Nat) (l : List Int) (w : World) (hr : Rd w w.heap.size .u8 A n l) (hr' : Rd w w.heap.size .u8 A' n l) (hl : Byt l) :
    Calls Tryd.prog 13 #[.slice A n c, .slice A' n c'] w fun e w' => e = .returned (.bool true) ∧ w = w' := by
  have sm := same_any A A' n n c c' l l w hr hr' hl hl
  rw [show eqB l l = true from eqB_true rfl] at sm
  exact sm
theorem textP_byt (s : StP) : Byt (textP s).1 := by
  cases h : fineB s with
  | false => rw [textP_no h]; exact Byt.nil
  | true => rw [textP_yes h]; exact text_byt h

set_option maxRecDepth 100000 in
set_option maxHeartbeats 4000000 in
theorem tells_all (s : StP) (f t : Int) (A : Option Addr) (n c : Nat) (b : List Int) (w : World) (hT : Cr.Tab w) (hl : Rd w w.heap.size .u8 A n b) (hb : Byt b) (hnc : n ≤ c) :
    Calls Tryd.prog 3 #[s.v, .int .i64 f, .int .i64 t, .slice A n c] w fun e w' => e = .returned (.bool true) ∧ Below w.heap.size w w' := by
  have HT := Lib.hid hT
  clear hT
  obtain ⟨L, er, hR⟩ : ∃ L er, putP s f = (L, er) := ⟨_, _, rfl⟩
  obtain ⟨q, hq⟩ : ∃ q, L.length = q := ⟨_, rfl⟩
  have hLb : Byt L := by have h := putP_byt s f; rw [hR] at h; exact h
  obtain ⟨X, ex, hX⟩ : ∃ X ex, textP s = (X, ex) := ⟨_, _, rfl⟩
  obtain ⟨m, hm⟩ : ∃ m, X.length = m := ⟨_, rfl⟩
  have hXb : Byt X := by have h := textP_byt s; rw [hX] at h; exact h
  obtain ⟨pn, hpn⟩ : ∃ pn, (piecesL b).length = pn := ⟨_, rfl⟩
  have HP := Lib.hid (⟨hb, hR, hq, hLb, hX, hm, hXb, hpn, piece_byt zeroIn hb⟩ : _ ∧ _ ∧ _ ∧ _ ∧ _ ∧ _ ∧ _ ∧ _ ∧ Byt (piecesL b))
  clear hb hR hq hLb hX hm hXb hpn
  by_cases hbig : 200 < n
  · have t0 : decide ((200 : Int) < (n : Int)) = true := by simp; omega
    obtain ⟨z, hz⟩ : ∃ z, z = w.heap.size := ⟨_, rfl⟩
    obtain ⟨w1, hw1⟩ : ∃ x, x = w.alloc (.cells #[.int .i64 s.ix, .int .i64 s.tm, .int .i64 s.sm, .int .i64 s.lv, .bool s.fn] 23) := ⟨_, rfl⟩
    have bz : BoxS w1 z s := by rw [hw1, hz]; exact BoxS.new w s
    have bb : Below w.heap.size w w1 := by rw [hw1]; exact (Below.refl _ _).alloc (Nat.le_refl _) _
    replace hl := hl.on bb bb.size
    have B1 := bb
    clear bb
    obtain ⟨k0, k1, k2, k3, k4⟩ := bz.cells
    rw [hw1, hz] at k0 k1 k2 k3 k4
    unfold StP.v
    go_enter Tryd.func3, Tryd.ntmps3
    go_wp2_with fail
    rw [← hw1, ← hz]
    clear k0 k1 k2 k3 k4
    clear hw1 hz
    refine Calls.mono (wakes_true w1 (HT.out.on B1)) ?_
    rintro e w2 ⟨rfl, bb⟩
    replace bz := bz.below bb
    replace hl := hl.on bb bb.size
    have B2 := B1.trans (bb.mono B1.size)
    clear bb B1
    go_wp2_with fail
    go_ret
    exact ⟨rfl, B2⟩
  have t0 : decide ((200 : Int) < (n : Int)) = false := by simp; omega
  have hn : n ≤ 1000000 := by omega
  clear hbig
  obtain ⟨z, hz⟩ : ∃ z, z = w.heap.size := ⟨_, rfl⟩
  obtain ⟨w1, hw1⟩ : ∃ x, x = w.alloc (.cells #[.int .i64 s.ix, .int .i64 s.tm, .int .i64 s.sm, .int .i64 s.lv, .bool s.fn] 23) := ⟨_, rfl⟩
  have bz : BoxS w1 z s := by rw [hw1, hz]; exact BoxS.new w s
  have bb : Below w.heap.size w w1 := by rw [hw1]; exact (Below.refl _ _).alloc (Nat.le_refl _) _
  replace hl := hl.on bb bb.size
  have B1 := bb
  clear bb
  obtain ⟨k0, k1, k2, k3, k4⟩ := bz.cells
  rw [hw1, hz] at k0 k1 k2 k3 k4
  unfold StP.v
  go_enter Tryd.func3, Tryd.ntmps3
  go_wp2_with fail
  rw [← hw1, ← hz]
  clear k0 k1 k2 k3 k4
  clear hw1 hz
  clear t0
  refine Calls.mono (show Calls Tryd.prog 9 #[.agg #[.int .i64 s.ix, .int .i64 s.tm, .int .i64 s.sm, .int .i64 s.lv, .bool s.fn], .int .i64 f] w1 (Told w1 (putP s f)) from Put_any s f w1 (HT.out.on B1)) ?_
  intro e w2 hh
  obtain ⟨A1, c1, rfl, hc1, r1, bb⟩ := hh.gen HP.out.2.1 HP.out.2.2.1
  (try clear hh)
  replace bz := bz.below bb
  replace hl := hl.on bb bb.size
  have B2 := B1.trans (bb.mono B1.size)
  clear bb B1
  obtain ⟨k0, k1, k2, k3, k4⟩ := bz.cells
  go_wp2_with fail
  clear k0 k1 k2 k3 k4
  refine Calls.mono (show Calls Tryd.prog 10 #[.agg #[.int .i64 s.ix, .int .i64 s.tm, .int .i64 s.sm, .int .i64 s.lv, .bool s.fn], .int .i64 f] w2 (Told w2 (putP s f)) from rPut_any s f w2) ?_
  intro e w3 hh
  obtain ⟨A2, c2, rfl, hc2, r2, bb⟩ := hh.gen HP.out.2.1 HP.out.2.2.1
  (try clear hh)
  replace bz := bz.below bb
  replace hl := hl.on bb bb.size
  replace r1 := r1.on bb bb.size
  have B3 := B2.trans (bb.mono B2.size)
  clear bb B2
  go_wp2_with fail
  refine Calls.mono (Take_any A n c b f w3 (HT.out.on B3) hl HP.out.1 hnc hn) ?_
  intro e w4 hh
  obtain ⟨⟨t1, g1, ht1, rfl⟩, bb⟩ := hh
  replace bz := bz.below bb
  replace hl := hl.on bb bb.size
  replace r1 := r1.on bb bb.size
  replace r2 := r2.on bb bb.size
  have B4 := B3.trans (bb.mono B3.size)
  clear bb B3
  rw [show t1.v = .agg #[.int .i64 t1.ix, .int .i64 t1.tm, .int .i64 t1.sm, .int .i64 t1.lv, .bool t1.fn] from rfl]
  obtain ⟨z2, hz2⟩ : ∃ z, z = w4.heap.size := ⟨_, rfl⟩
  obtain ⟨w5, hw5⟩ : ∃ x, x = w4.alloc (.cells #[.int .i64 t1.ix, .int .i64 t1.tm, .int .i64 t1.sm, .int .i64 t1.lv, .bool t1.fn] 23) := ⟨_, rfl⟩
  have bz2 : BoxS w5 z2 t1 := by rw [hw5, hz2]; exact BoxS.new w4 t1
  have bb : Below w4.heap.size w4 w5 := by rw [hw5]; exact (Below.refl _ _).alloc (Nat.le_refl _) _
  replace bz := bz.below bb
  replace hl := hl.on bb bb.size
  replace r1 := r1.on bb bb.size
  replace r2 := r2.on bb bb.size
  have B5 := B4.trans (bb.mono B4.size)
  clear bb B4
  go_wp2_with fail
  rw [← hw5, ← hz2]
  clear hw5 hz2
  refine Calls.mono (rTake_any A n c b f w5 hl HP.out.1 hnc hn) ?_
  intro e w6 hh
  obtain ⟨⟨t2, g2, ht2, rfl⟩, bb⟩ := hh
  obtain ⟨rfl, rfl⟩ := ht1.same ht2
  replace bz := bz.below bb
  replace bz2 := bz2.below bb
  replace hl := hl.on bb bb.size
  replace r1 := r1.on bb bb.size
  replace r2 := r2.on bb bb.size
  have B6 := B5.trans (bb.mono B5.size)
  clear bb B5
  clear ht1 ht2
  rw [show t1.v = .agg #[.int .i64 t1.ix, .int .i64 t1.tm, .int .i64 t1.sm, .int .i64 t1.lv, .bool t1.fn] from rfl]
  have n1 := neq_same t1
  obtain ⟨z3, hz3⟩ : ∃ z, z = w6.heap.size := ⟨_, rfl⟩
  obtain ⟨w7, hw7⟩ : ∃ x, x = w6.alloc (.cells #[.int .i64 t1.ix, .int .i64 t1.tm, .int .i64 t1.sm, .int .i64 t1.lv, .bool t1.fn] 23) := ⟨_, rfl⟩
  have bz3 : BoxS w7 z3 t1 := by rw [hw7, hz3]; exact BoxS.new w6 t1
  have bb : Below w6.heap.size w6 w7 := by rw [hw7]; exact (Below.refl _ _).alloc (Nat.le_refl _) _
  replace bz := bz.below bb
  replace bz2 := bz2.below bb
  replace hl := hl.on bb bb.size
  replace r1 := r1.on bb bb.size
  replace r2 := r2.on bb bb.size
  have B7 := B6.trans (bb.mono B6.size)
  clear bb B6
  go_wp2_with fail
  rw [← hw7, ← hz3]
  clear hw7 hz3
  refine Calls.mono (same_self A1 A2 q c1 c2 L w7 r1 r2 HP.out.2.2.2.1) ?_
  rintro e wv ⟨rfl, rfl⟩
  obtain ⟨g0, g1, g2, g3, g4⟩ := bz2.cells
  obtain ⟨k0, k1, k2, k3, k4⟩ := bz3.cells
  go_wp2_with fail
  clear g0 g1 g2 g3 g4
  clear k0 k1 k2 k3 k4
  clear r1 r2 n1 bz2 bz3
  refine Calls.mono (Pieces_any A n c b w7 hl HP.out.1 hnc hn) ?_
  intro e w8 hh
  obtain ⟨A3, c3, rfl, r3, bb⟩ := hh.rd HP.out.2.2.2.2.2.2.2.1
  (try clear hh)
  replace bz := bz.below bb
  replace hl := hl.on bb bb.size
  have B8 := B7.trans (bb.mono B7.size)
  clear bb B7
  go_wp2_with fail
  refine Calls.mono (rPieces_any A n c b w8 hl HP.out.1 hnc hn) ?_
  intro e w9 hh
  obtain ⟨A4, c4, rfl, r4, bb⟩ := hh.rd HP.out.2.2.2.2.2.2.2.1
  (try clear hh)
  replace bz := bz.below bb
  replace hl := hl.on bb bb.size
  replace r3 := r3.on bb bb.size
  have B9 := B8.trans (bb.mono B8.size)
  clear bb B8
  go_wp2_with fail
  refine Calls.mono (same_self A3 A4 pn c3 c4 (piecesL b) w9 r3 r4 HP.out.2.2.2.2.2.2.2.2) ?_
  rintro e wv ⟨rfl, rfl⟩
  obtain ⟨k0, k1, k2, k3, k4⟩ := bz.cells
  go_wp2_with fail
  clear k0 k1 k2 k3 k4
  clear r3 r4
  refine Calls.mono (show Calls Tryd.prog 16 #[.agg #[.int .i64 s.ix, .int .i64 s.tm, .int .i64 s.sm, .int .i64 s.lv, .bool s.fn]] w9 (Told w9 (textP s)) from Text_any s w9) ?_
  intro e w10 hh
  obtain ⟨A5, c5, rfl, hc5, r5, bb⟩ := hh.gen HP.out.2.2.2.2.1 HP.out.2.2.2.2.2.1
  (try clear hh)
  replace bz := bz.below bb
  replace hl := hl.on bb bb.size
  have B10 := B9.trans (bb.mono B9.size)
  clear bb B9
  obtain ⟨k0, k1, k2, k3, k4⟩ := bz.cells
  go_wp2_with fail
  clear k0 k1 k2 k3 k4
  refine Calls.mono (show Calls Tryd.prog 17 #[.agg #[.int .i64 s.ix, .int .i64 s.tm, .int .i64 s.sm, .int .i64 s.lv, .bool s.fn]] w10 (Told w10 (textP s)) from rText_any s w10) ?_
  intro e w11 hh
  obtain ⟨A6, c6, rfl, hc6, r6, bb⟩ := hh.gen HP.out.2.2.2.2.1 HP.out.2.2.2.2.2.1
  (try clear hh)
  replace bz := bz.below bb
  replace hl := hl.on bb bb.size
  replace r5 := r5.on bb bb.size
  have B11 := B10.trans (bb.mono B10.size)
  clear bb B10
  go_wp2_with fail
  refine Calls.mono (Again_any A n c b f t w11 (HT.out.on B11) hl HP.out.1 hnc hn) ?_
  intro e w12 hh
  obtain ⟨⟨Q, eq⟩, hQ, hh⟩ := hh
  obtain ⟨qn, hqn⟩ : ∃ qn, Q.length = qn := ⟨_, rfl⟩
  obtain ⟨A7, c7, rfl, hc7, r7, bb⟩ := hh.gen rfl hqn
  (try clear hh)
  replace bz := bz.below bb
  replace hl := hl.on bb bb.size
  replace r5 := r5.on bb bb.size
  replace r6 := r6.on bb bb.size
  have B12 := B11.trans (bb.mono B11.size)
  clear bb B11
  have HQ := Lib.hid (⟨hQ, hQ.byt.1, hqn⟩ : _ ∧ Byt Q ∧ _)
  clear hQ hqn
  go_wp2_with fail
  refine Calls.mono (rAgain_any A n c b f t w12 hl HP.out.1 hnc hn) ?_
  intro e w13 hh
  obtain ⟨R, hQ, hh⟩ := hh
  obtain rfl := HQ.out.1.same hQ
  obtain ⟨A8, c8, rfl, hc8, r8, bb⟩ := hh.gen rfl HQ.out.2.2
  (try clear hh)
  clear hQ
  replace bz := bz.below bb
  replace hl := hl.on bb bb.size
  replace r5 := r5.on bb bb.size
  replace r6 := r6.on bb bb.size
  replace r7 := r7.on bb bb.size
  have B13 := B12.trans (bb.mono B12.size)
  clear bb B12
  go_wp2_with fail
  refine Calls.mono (same_self A5 A6 m c5 c6 X w13 r5 r6 HP.out.2.2.2.2.2.2.1) ?_
  rintro e wv ⟨rfl, rfl⟩
  go_wp2_with fail
  refine Calls.mono (same_self A7 A8 qn c7 c8 Q w13 r7 r8 HQ.out.2.1) ?_
  rintro e wv ⟨rfl, rfl⟩
  go_wp2_with fail
  refine Calls.mono (wakes_true w13 (HT.out.on B13)) ?_
  rintro e w14 ⟨rfl, bb⟩
  replace bz := bz.below bb
  replace hl := hl.on bb bb.size
  replace r5 := r5.on bb bb.size
  replace r6 := r6.on bb bb.size
  replace r7 := r7.on bb bb.size
  replace r8 := r8.on bb bb.size
  have B14 := B13.trans (bb.mono B13.size)
  clear bb B13
  go_wp2_with fail
  go_ret
  exact ⟨rfl, B14⟩

end Go.Proofs.YtdggacabjlengaaDoor
