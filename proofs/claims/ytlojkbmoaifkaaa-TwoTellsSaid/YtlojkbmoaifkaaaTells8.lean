/-
  TwoTells: it returns true.
-/
import Derived.Test.YtlojkbmoaifkaaaWakes8
import Derived.Test.YtlojkbmoaifkaaaRfe
namespace Go.Proofs.Ytlojkbmoaifkaaa
open Go.RowKit
set_option linter.unusedVariables false
set_option linter.unusedSimpArgs false

theorem from_any (x y : Nat) : ∃ p, Ga.From x y p := by
  cases h : Ga.ptB x y
  · exact ⟨(0, 0), .inr ⟨h, rfl⟩⟩
  · obtain ⟨p, hp⟩ := Ga.Pt.of h
    exact ⟨p, .inl hp⟩
/-- A block told. -/
def BlkIs (p : Int × Int) (l : List EnP) (L : List Int) (er : Int) (z : Int × Int) : Prop := (GoodC l ∧ L = blockL p l ∧ er = 0 ∧ z = endP p l) ∨ (¬ GoodC l ∧ L = [] ∧ er = 2 ∧ z = (0, 0))
theorem BlkIs.same {p : Int × Int} {l : List EnP} {L M : List Int} {er fr : Int} {z y : Int × Int} (h : BlkIs p l L er z) (k : BlkIs p l M fr y) : L = M ∧ er = fr ∧ z = y := by
  rcases h with ⟨h, rfl, rfl, rfl⟩ | ⟨h, rfl, rfl, rfl⟩ <;> rcases k with ⟨k, rfl, rfl, rfl⟩ | ⟨k, rfl, rfl, rfl⟩
  · exact ⟨rfl, rfl, rfl⟩
  · exact absurd h k
  · exact absurd k h
  · exact ⟨rfl, rfl, rfl⟩
theorem BlkT.out {w w' : World} {p : Int × Int} {l : List EnP} {e : Ending} (h : BlkT w p l e w') :
    ∃ L er z A c x y, BlkIs p l L er z ∧ e = .returned (.tuple #[.slice A L.length c, .complex .f64 x y, .int .i64 er]) ∧ Rd w' w'.heap.size .u8 A L.length L ∧ Ga.Pt x y z ∧ Below w.heap.size w w' := by
  obtain ⟨⟨hg, A, c, n, x, y, rfl, rfl, hr, hp, -⟩ | ⟨hg, rfl⟩, hb⟩ := h
  · exact ⟨_, 0, _, A, c, x, y, .inl ⟨hg, rfl, rfl, rfl⟩, rfl, hr, hp, hb⟩
  · exact ⟨[], 2, (0, 0), none, 0, 0, 0, .inr ⟨hg, rfl, rfl, rfl⟩, rfl, Rd.nil, Ga.Pt.zero, hb⟩
theorem blkis_byt {p : Int × Int} {l : List EnP} {L : List Int} {er : Int} {z : Int × Int} (h : BlkIs p l L er z) : Byt L := by
  rcases h with ⟨hg, rfl, -, -⟩ | ⟨-, rfl, -, -⟩
  · intro x hx
    rw [blockL, List.mem_append] at hx
    rcases hx with hx | hx
    · exact body_byt hg x hx
    · exact bytesP_byt (by rw [endP, bodyL, Ga.chainP_cons]; exact Ga.chainP_in (Ga.nextP_in _ _) _) x hx
  · exact Byt.nil
theorem PutIs.same {p : Int × Int} {l : List EnP} {L M : List Int} {er fr : Int} (h : PutIs p l L er) (k : PutIs p l M fr) : L = M ∧ er = fr := by
  rcases h with ⟨h, rfl, rfl⟩ | ⟨h, rfl, rfl⟩ <;> rcases k with ⟨k, rfl, rfl⟩ | ⟨k, rfl, rfl⟩
  · exact ⟨rfl, rfl⟩
  · rw [h] at k; cases k
  · rw [h] at k; cases k
  · exact ⟨rfl, rfl⟩
theorem MoreIs.same {b : List Int} {l : List EnP} {L M : List Int} {er fr : Int} (h : MoreIs b l L er) (k : MoreIs b l M fr) : L = M ∧ er = fr := by
  rcases h with ⟨z, h1, h2⟩ | ⟨h1, rfl, rfl⟩ <;> rcases k with ⟨y, k1, k2⟩ | ⟨k1, rfl, rfl⟩
  · obtain rfl := h1.same k1
    exact h2.same k2
  · exact absurd h1 (k1 z)
  · exact absurd k1 (h1 y)
  · exact ⟨rfl, rfl⟩
theorem MoreIs.byt {b : List Int} {l : List EnP} {L : List Int} {er : Int} (h : MoreIs b l L er) : Byt L := by
  rcases h with ⟨z, h1, ⟨ha, rfl, -⟩ | ⟨-, rfl, -⟩⟩ | ⟨-, rfl, -⟩
  · exact blks_byt h1.in_ (chunks_good ha)
  · exact Byt.nil
  · exact Byt.nil
/-- An end told. -/
def EndR (b : List Int) (z : Int × Int) (er : Int) : Prop := (EndIs b z ∧ er = 0) ∨ ((∀ z, ¬ EndIs b z) ∧ z = (0, 0) ∧ er = 11)
theorem EndR.same {b : List Int} {z y : Int × Int} {er fr : Int} (h : EndR b z er) (k : EndR b y fr) : z = y ∧ er = fr := by
  rcases h with ⟨h, rfl⟩ | ⟨h, rfl, rfl⟩ <;> rcases k with ⟨k, rfl⟩ | ⟨k, rfl, rfl⟩
  · exact ⟨h.same k, rfl⟩
  · exact absurd h (k z)
  · exact absurd k (h y)
  · exact ⟨rfl, rfl⟩
theorem EndT.out {w w' : World} {b : List Int} {e : Ending} (h : EndT w b e w') : ∃ z er x y, EndR b z er ∧ e = .returned (.tuple #[.complex .f64 x y, .int .i64 er]) ∧ Ga.Pt x y z ∧ Below w.heap.size w w' := by
  obtain ⟨⟨z, x, y, h1, rfl, h2⟩ | ⟨h1, rfl⟩, hb⟩ := h
  · exact ⟨z, 0, x, y, .inl ⟨h1, rfl⟩, rfl, h2, hb⟩
  · exact ⟨(0, 0), 11, 0, 0, .inr ⟨h1, rfl, rfl⟩, rfl, Ga.Pt.zero, hb⟩
/-- A scan told. -/
def ScanR (b : List Int) (f : Int) (L : List EnP) (u : Nat) (er : Int) : Prop := (∃ cs r, ScanIs b f cs r ∧ L = cs.flatten ∧ u = (headL f ++ blksL (headE f) cs).length ∧ er = 0) ∨ ((∀ f, ¬ HeadAt b f) ∧ f = 0 ∧ L = [] ∧ u = 0 ∧ er = 11)
theorem ScanR.same {b : List Int} {f g : Int} {L M : List EnP} {u v : Nat} {er fr : Int} (h : ScanR b f L u er) (k : ScanR b g M v fr) : f = g ∧ L = M ∧ u = v ∧ er = fr := by
  rcases h with ⟨cs, r, h, rfl, rfl, rfl⟩ | ⟨h, rfl, rfl, rfl, rfl⟩ <;> rcases k with ⟨ds, s, k, rfl, rfl, rfl⟩ | ⟨k, rfl, rfl, rfl, rfl⟩
  · obtain ⟨rfl, rfl, rfl⟩ := scan_same h k
    exact ⟨rfl, rfl, rfl, rfl⟩
  · exact absurd h.head (k f)
  · exact absurd k.head (h g)
  · exact ⟨rfl, rfl, rfl, rfl⟩
theorem ScanR.len {b : List Int} {f : Int} {L : List EnP} {u : Nat} {er : Int} (h : ScanR b f L u er) : L.length ≤ 4 * b.length := by
  rcases h with ⟨cs, r, h, rfl, rfl, rfl⟩ | ⟨h, rfl, rfl, rfl, rfl⟩
  · have h1 := flat_le h.good
    have h2 := blks_ge (p := headE f) h.good
    have h3 := congrArg List.length h.bytes
    rw [List.length_append, List.length_append] at h3
    omega
  · simp
theorem ScnT.out {w w' : World} {b : List Int} {e : Ending} (h : ScnT w b e w') : ∃ f L u er A c, ScanR b f L u er ∧ e = .returned (.tuple #[.agg #[.int .i64 f, .slice A L.length c, .int .i64 (u : Nat)], .int .i64 er]) ∧ Es w' w'.heap.size A L.length L ∧ Below w.heap.size w w' := by
  obtain ⟨f, A, n, c, u, x, y, er, rfl, hA, hb⟩ := h
  rcases hA with ⟨rfl, cs, r, h1, rfl, rfl, h4, h5, h6⟩ | ⟨rfl, h1, rfl, rfl, rfl, rfl, rfl, _⟩
  · exact ⟨f, cs.flatten, _, 0, A, c, .inl ⟨cs, r, h1, rfl, rfl, rfl⟩, rfl, h5, hb⟩
  · exact ⟨0, [], 0, 11, none, 0, .inr ⟨h1, rfl, rfl, rfl, rfl⟩, rfl, Row.nil, hb⟩
theorem headP_byt (f : Int) : Byt (headP f).1 := by
  by_cases h : Num f
  · rw [headP_yes h]; exact head_byt h
  · rw [headP_no h]; exact Byt.nil
theorem fileP_byt (f : Int) (l : List EnP) : Byt (fileP f l).1 := by
  unfold fileP
  split
  · rename_i h; exact file_byt h.1 (chunks_good h.2)
  · exact Byt.nil

set_option maxRecDepth 100000 in
set_option maxHeartbeats 8000000 in
theorem tells_law (first : Int) (x y : Nat) (A : Option Addr) (n c : Nat) (l : List EnP) (A2 : Option Addr) (n2 c2 : Nat) (b : List Int) (w : World) (hl : Es w w.heap.size A n l) (hnc : n ≤ c) (hr : Rd w w.heap.size .u8 A2 n2 b) (hb : Byt b) (hnc2 : n2 ≤ c2) :
    Calls Try.prog 3 #[.int .i64 first, .float .f64 x, .float .f64 y, .slice A n c, .slice A2 n2 c2] w fun e w' => e = .returned (.bool true) ∧ Below w.heap.size w w' := by
  have B0 := Below.refl w.heap.size w
  have Hb := Lib.hid (⟨hb, hr.1⟩ : _ ∧ _)
  clear hb
  by_cases hc0 : 40 < n
  · have t0 : decide ((40 : Int) < (n : Int)) = true := by simp; omega
    go_enter Try.func3, Try.ntmps3
    go_wp2_with fail
    refine (wakes_true w).mono ?_
    rintro e w1 ⟨rfl, hb1⟩
    go_wp2_with fail
    go_ret
    exact ⟨rfl, hb1⟩
  have t0 : decide ((40 : Int) < (n : Int)) = false := by simp; omega
  have t0n : n ≤ 40 := by omega
  clear hc0
  by_cases hc0 : 800 < n2
  · have t1 : decide ((800 : Int) < (n2 : Int)) = true := by simp; omega
    go_enter Try.func3, Try.ntmps3
    go_wp2_with fail
    refine (wakes_true w).mono ?_
    rintro e w1 ⟨rfl, hb1⟩
    go_wp2_with fail
    go_ret
    exact ⟨rfl, hb1⟩
  have t1 : decide ((800 : Int) < (n2 : Int)) = false := by simp; omega
  have t1n : n2 ≤ 800 := by omega
  clear hc0
  obtain ⟨p, hp⟩ := from_any x y
  have Hp := Lib.hid hp
  obtain ⟨L1, e1, hP1⟩ : ∃ L e, headP first = (L, e) := ⟨_, _, rfl⟩
  obtain ⟨L3, e3, hP3⟩ : ∃ L e, fileP first l = (L, e) := ⟨_, _, rfl⟩
  have hL1 : Byt L1 := by have h := headP_byt first; rw [hP1] at h; exact h
  have hL3 : Byt L3 := by have h := fileP_byt first l; rw [hP3] at h; exact h
  have HP := Lib.hid (⟨hP1, hP3, hL1, hL3⟩ : _ ∧ _ ∧ _ ∧ _)
  clear hp hP1 hP3 hL1 hL3
  go_enter Try.func3, Try.ntmps3
  go_wp2_with fail
  refine (head_any first w).mono ?_
  intro e w1 hh
  obtain ⟨A3, c3, rfl, -, r3, -, bb⟩ := hh.out HP.out.1 rfl
  clear hh
  replace hl := hl.on bb bb.size
  replace hr := hr.on bb bb.size
  have B1 := B0.trans (bb.mono B0.size)
  clear bb B0
  go_wp2_with fail
  refine (rhead_any first w1).mono ?_
  intro e w2 hh
  obtain ⟨A4, c4, rfl, -, r4, -, bb⟩ := hh.out HP.out.1 rfl
  clear hh
  replace hl := hl.on bb bb.size
  replace hr := hr.on bb bb.size
  replace r3 := r3.on bb bb.size
  have B2 := B1.trans (bb.mono B1.size)
  clear bb B1
  go_wp2_with fail
  have sm := same_any A3 A4 L1.length L1.length c3 c4 L1 L1 w2 r3 r4 HP.out.2.2.1 HP.out.2.2.1
  rw [show eqB L1 L1 = true from decide_eq_true rfl] at sm
  refine sm.mono ?_
  rintro e wf ⟨rfl, rfl⟩
  clear sm
  clear r3 r4
  go_wp2_with fail
  refine (block_any A n c l w2 Hp.out hl (by omega)).mono ?_
  intro e w3 hh
  obtain ⟨L5, e5, z5, A5, c5, x5, y5, hI5, rfl, r5, hp5, bb⟩ := hh.out
  clear hh
  replace hl := hl.on bb bb.size
  replace hr := hr.on bb bb.size
  have B3 := B2.trans (bb.mono B2.size)
  clear bb B2
  have H5 := Lib.hid (⟨hI5, hp5⟩ : _ ∧ _)
  clear hI5 hp5
  go_wp2_with fail
  refine (rblock_any A n c l w3 Hp.out hl (by omega)).mono ?_
  intro e w4 hh
  obtain ⟨L6, e6, z6, A6, c6, x6, y6, hI6, rfl, r6, hp6, bb⟩ := hh.out
  clear hh
  replace hl := hl.on bb bb.size
  replace hr := hr.on bb bb.size
  replace r5 := r5.on bb bb.size
  have B4 := B3.trans (bb.mono B3.size)
  clear bb B3
  obtain ⟨rfl, rfl, rfl⟩ := H5.out.1.same hI6
  have hord := H5.out.2.same hp6
  rw [decide_eq_true rfl] at hord
  obtain ⟨ho1, ho2⟩ := H5.out.2.order hp6 rfl
  clear hI6 hp6
  go_wp2_with fail
  have sm := same_any A5 A6 L5.length L5.length c5 c6 L5 L5 w4 r5 r6 (blkis_byt H5.out.1) (blkis_byt H5.out.1)
  rw [show eqB L5 L5 = true from decide_eq_true rfl] at sm
  refine sm.mono ?_
  rintro e wf ⟨rfl, rfl⟩
  clear sm
  clear r5 r6
  go_wp2_with fail
  clear hord ho1 ho2
  refine (file_any first A n c l w4 hl hnc (by omega)).mono ?_
  intro e w5 hh
  obtain ⟨A7, c7, rfl, -, r7, -, bb⟩ := hh.out HP.out.2.1 rfl
  clear hh
  replace hl := hl.on bb bb.size
  replace hr := hr.on bb bb.size
  have B5 := B4.trans (bb.mono B4.size)
  clear bb B4
  go_wp2_with fail
  refine (rfile_any first A n c l w5 hl hnc (by omega)).mono ?_
  intro e w6 hh
  obtain ⟨A8, c8, rfl, -, r8, -, bb⟩ := hh.out HP.out.2.1 rfl
  clear hh
  replace hl := hl.on bb bb.size
  replace hr := hr.on bb bb.size
  replace r7 := r7.on bb bb.size
  have B6 := B5.trans (bb.mono B5.size)
  clear bb B5
  go_wp2_with fail
  refine (more_any A2 n2 c2 b A n c l w6 hr Hb.out.1 hnc2 (by omega) hl hnc (by omega)).mono ?_
  rintro e w7 ⟨M9, f9, hM9, hT9⟩
  obtain ⟨A9, c9, rfl, r9, bb⟩ := hT9.out rfl
  clear hT9
  replace hl := hl.on bb bb.size
  replace hr := hr.on bb bb.size
  replace r7 := r7.on bb bb.size
  replace r8 := r8.on bb bb.size
  have B7 := B6.trans (bb.mono B6.size)
  clear bb B6
  have H9 := Lib.hid hM9
  clear hM9
  go_wp2_with fail
  refine (rmore_any A2 n2 c2 b A n c l w7 hr Hb.out.1 hnc2 (by omega) hl hnc (by omega)).mono ?_
  rintro e w8 ⟨M10, f10, hM10, hT10⟩
  obtain ⟨A10, c10, rfl, r10, bb⟩ := hT10.out rfl
  clear hT10
  replace hl := hl.on bb bb.size
  replace hr := hr.on bb bb.size
  replace r7 := r7.on bb bb.size
  replace r8 := r8.on bb bb.size
  replace r9 := r9.on bb bb.size
  have B8 := B7.trans (bb.mono B7.size)
  clear bb B7
  obtain ⟨rfl, rfl⟩ := H9.out.same hM10
  clear hM10
  go_wp2_with fail
  have sm := same_any A7 A8 L3.length L3.length c7 c8 L3 L3 w8 r7 r8 HP.out.2.2.2 HP.out.2.2.2
  rw [show eqB L3 L3 = true from decide_eq_true rfl] at sm
  refine sm.mono ?_
  rintro e wf ⟨rfl, rfl⟩
  clear sm
  clear r7 r8
  go_wp2_with fail
  have sm := same_any A9 A10 M9.length M9.length c9 c10 M9 M9 w8 r9 r10 H9.out.byt H9.out.byt
  rw [show eqB M9 M9 = true from decide_eq_true rfl] at sm
  refine sm.mono ?_
  rintro e wf ⟨rfl, rfl⟩
  clear sm
  clear r9 r10
  go_wp2_with fail
  refine (Scan_any A2 n2 c2 b w8 hr Hb.out.1 hnc2 (by omega)).mono ?_
  intro e w9 hh
  obtain ⟨f11, L11, u11, e11, A11, c11, hI11, rfl, s11, bb⟩ := hh.out
  clear hh
  replace hl := hl.on bb bb.size
  replace hr := hr.on bb bb.size
  have B9 := B8.trans (bb.mono B8.size)
  clear bb B8
  have H11 := Lib.hid hI11
  clear hI11
  obtain ⟨w10, hw10⟩ : ∃ x, x = w9.alloc (.cells #[.int .i64 f11, .slice A11 L11.length c11, .int .i64 (u11 : Int)] 36) := ⟨_, rfl⟩
  obtain ⟨z11, hz11⟩ : ∃ x, x = w9.heap.size := ⟨_, rfl⟩
  have bb : Below w9.heap.size w9 w10 := by rw [hw10]; exact (Below.refl _ _).alloc (Nat.le_refl _) _
  have z11b : BoxC w10 z11 f11 (.slice A11 L11.length c11) (u11 : Int) := by rw [hw10, hz11]; exact BoxC.new _ _ _ _
  have sz11 : z11 + 1 = w10.heap.size := by rw [hw10, hz11]; simp
  go_wp2_with fail
  rw [← hw10, ← hz11]
  clear hw10 hz11
  replace hl := hl.on bb bb.size
  replace hr := hr.on bb bb.size
  replace s11 := s11.on bb bb.size
  have B10 := B9.trans (bb.mono B9.size)
  clear bb B9
  refine (rScan_any A2 n2 c2 b w10 hr Hb.out.1 hnc2 (by omega)).mono ?_
  intro e w11 hh
  obtain ⟨f12, L12, u12, e12, A12, c12, hI12, rfl, s12, bb⟩ := hh.out
  clear hh
  replace hl := hl.on bb bb.size
  replace hr := hr.on bb bb.size
  replace s11 := s11.on bb bb.size
  replace z11b := z11b.below bb
  have B11 := B10.trans (bb.mono B10.size)
  clear bb B10
  obtain ⟨rfl, rfl, rfl, rfl⟩ := H11.out.same hI12
  clear hI12
  obtain ⟨w12, hw12⟩ : ∃ x, x = w11.alloc (.cells #[.int .i64 f11, .slice A12 L11.length c12, .int .i64 (u11 : Int)] 36) := ⟨_, rfl⟩
  obtain ⟨z12, hz12⟩ : ∃ x, x = w11.heap.size := ⟨_, rfl⟩
  have bb : Below w11.heap.size w11 w12 := by rw [hw12]; exact (Below.refl _ _).alloc (Nat.le_refl _) _
  have z12b : BoxC w12 z12 f11 (.slice A12 L11.length c12) (u11 : Int) := by rw [hw12, hz12]; exact BoxC.new _ _ _ _
  have sz12 : z12 + 1 = w12.heap.size := by rw [hw12, hz12]; simp
  go_wp2_with fail
  rw [← hw12, ← hz12]
  clear hw12 hz12
  replace hl := hl.on bb bb.size
  replace hr := hr.on bb bb.size
  replace s11 := s11.on bb bb.size
  replace z11b := z11b.below bb
  replace s12 := s12.on bb bb.size
  have B12 := B11.trans (bb.mono B11.size)
  clear bb B11
  refine (end_any A2 n2 c2 b w12 hr Hb.out.1 hnc2 (by omega)).mono ?_
  intro e w13 hh
  obtain ⟨z13, e13, x13, y13, hI13, rfl, hp13, bb⟩ := hh.out
  clear hh
  replace hl := hl.on bb bb.size
  replace hr := hr.on bb bb.size
  replace s11 := s11.on bb bb.size
  replace z11b := z11b.below bb
  replace s12 := s12.on bb bb.size
  replace z12b := z12b.below bb
  have B13 := B12.trans (bb.mono B12.size)
  clear bb B12
  have H13 := Lib.hid (⟨hI13, hp13⟩ : _ ∧ _)
  clear hI13 hp13
  go_wp2_with fail
  refine (rend_any A2 n2 c2 b w13 hr Hb.out.1 hnc2 (by omega)).mono ?_
  intro e w14 hh
  obtain ⟨z14, e14, x14, y14, hI14, rfl, hp14, bb⟩ := hh.out
  clear hh
  replace hl := hl.on bb bb.size
  replace hr := hr.on bb bb.size
  replace s11 := s11.on bb bb.size
  replace z11b := z11b.below bb
  replace s12 := s12.on bb bb.size
  replace z12b := z12b.below bb
  have B14 := B13.trans (bb.mono B13.size)
  clear bb B13
  obtain ⟨rfl, rfl⟩ := H13.out.1.same hI14
  have hord := H13.out.2.same hp14
  rw [decide_eq_true rfl] at hord
  obtain ⟨ho1, ho2⟩ := H13.out.2.order hp14 rfl
  clear hI14 hp14
  obtain ⟨d0, d1, d2⟩ := z11b.cells
  obtain ⟨k0, k1, k2⟩ := z12b.cells
  have hlen := H11.out.len
  rw [Hb.out.2] at hlen
  go_wp2_with fail
  have em := ents_any A11 A12 L11.length L11.length c11 c12 L11 L11 w14 s11 s12 (by omega) (by omega)
  rw [eqE_true rfl] at em
  refine em.mono ?_
  rintro e w15 ⟨rfl, bb⟩
  clear em d0 d1 d2 k0 k1 k2
  replace hl := hl.on bb bb.size
  replace hr := hr.on bb bb.size
  replace s11 := s11.on bb bb.size
  replace z11b := z11b.below bb
  replace s12 := s12.on bb bb.size
  replace z12b := z12b.below bb
  have B15 := B14.trans (bb.mono B14.size)
  clear bb B14
  obtain ⟨d0, d1, d2⟩ := z11b.cells
  obtain ⟨k0, k1, k2⟩ := z12b.cells
  go_wp2_with fail
  refine (wakes_true w15).mono ?_
  rintro e wg ⟨rfl, bg⟩
  go_wp2_with fail
  go_ret
  exact ⟨rfl, B15.trans (bg.mono B15.size)⟩

end Go.Proofs.Ytlojkbmoaifkaaa
