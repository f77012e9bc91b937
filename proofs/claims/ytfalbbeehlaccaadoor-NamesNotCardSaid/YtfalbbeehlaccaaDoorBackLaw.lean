/-
  moultlaw05.NamesBack: it returns true.
-/
import Derived.Test.YtfalbbeehlaccaaDoorWakes
namespace Go.Proofs.YtfalbbeehlaccaaDoor
open Go.RowKit Go.Maps

/-- What is called so is told again. -/
theorem parse_name {x : IdP} (h : MayP x) : parseP (nameP x) = (x, true) := by
  have e : (nameP x).data.toList = txtP x := by rw [(name_yes h).1]
  have h2 : apartF (nameP x).data.toList = x := by rw [e, apart_txt h]
  rw [parse_yes (by rw [h2]; exact ⟨h, rfl⟩), h2]
theorem name_inj {x y : IdP} (hx : MayP x) (hy : MayP y) (h : nameP x = nameP y) : x = y := by
  refine txt_inj hx hy ?_
  rw [(name_yes hx).1, (name_yes hy).1] at h
  injection h with h
  exact Array.toList_inj.2 h |> fun h => by simpa using h
theorem parse_cases (nm : ByteArray) : (∃ z, parseP nm = (z, true) ∧ MayP z ∧ nameP z = nm) ∨ parseP nm = (⟨0, 0, 0⟩, false) := by
  by_cases h : MayP (apartF nm.data.toList) ∧ nameP (apartF nm.data.toList) = nm
  · exact .inl ⟨_, parse_yes h, h⟩
  · exact .inr (parse_no h)
theorem neq_no {k s f k' s' f' : Int} (h : k = k' ∧ s = s' ∧ f = f') (w : World) : (binOp .neq 23 (.agg #[.int .u8 k, .int .i64 s, .int .i64 f]) (.agg #[.int .u8 k', .int .i64 s', .int .i64 f'])).run Tryd.prog w = .ok (.bool false) w := by
  rw [run_neq_struct, run_equalIn_agg w 9999 _ _ _ (by kernel_rfl) (by kernel_rfl), fields_id]
  obtain ⟨rfl, rfl, rfl⟩ := h
  simp [Op.eqFields, part, go_sem]
theorem ok_of_may {x : IdP} (h : MayP x) : x.Ok := by
  obtain ⟨k, s, f⟩ := x
  unfold MayP at h
  simp only at h
  constructor <;> simp only <;> omega

set_option maxRecDepth 100000 in
set_option maxHeartbeats 4000000 in
theorem back_all (x y : IdP) (nm : ByteArray) (w : World) (hP : Pow w) (hx : x.Ok) (hy : y.Ok) : Calls Tryd.prog 4 #[x.v, y.v, .string nm] w fun e w' => e = .returned (.bool true) ∧ Below w.heap.size w w' := by
  have HP := Lib.hid (⟨hP, hx, hy⟩ : _ ∧ _ ∧ _)
  clear hP hx hy
  go_enter Tryd.func4, Tryd.ntmps4
  unfold IdP.v
  by_cases h60 : 60 < nm.size
  · have t0 : decide ((60 : Int) < (nm.size : Int)) = true := by simp; omega
    go_wp2_with fail
    refine (wakes_true _ (HP.out.1.on (below_al (below_al (below_d0 w) _) _))).mono ?_
    rintro e w1 ⟨rfl, hb1⟩
    go_wp2_with fail
    go_ret
    exact ⟨rfl, below_on (below_al (below_al (below_d0 w) _) _) hb1⟩
  · have t0 : decide ((60 : Int) < (nm.size : Int)) = false := by simp; omega
    go_wp2_with fail
    obtain ⟨z, hz⟩ : ∃ z, z = w.heap.size := ⟨_, rfl⟩
    obtain ⟨wa, hwa⟩ : ∃ wa, wa = w.alloc (.cells #[.int .u8 x.kind, .int .i64 x.seq, .int .i64 x.fmt] 23) := ⟨_, rfl⟩
    obtain ⟨w0, hw0⟩ : ∃ w0, w0 = wa.alloc (.cells #[.int .u8 y.kind, .int .i64 y.seq, .int .i64 y.fmt] 23) := ⟨_, rfl⟩
    have hsa : wa.heap.size = z + 1 := by rw [hwa, hz]; simp
    have hBa : Below w.heap.size w wa := by rw [hwa]; exact below_al (below_d0 w) _
    have hB0 : Below w.heap.size w w0 := by rw [hw0]; exact below_al hBa _
    have bx0 : BoxI w0 z x := by rw [hw0]; exact BoxI.below (by rw [hwa, hz]; exact BoxI.new w x) (below_al (below_d0 wa) _)
    have by0 : BoxI w0 (z + 1) y := by rw [hw0, ← hsa]; exact BoxI.new wa y
    rw [← hwa, ← hw0, ← hz]
    try rw [hsa]
    clear hw0 hwa hz hsa hBa
    refine (name_any x w0 (HP.out.1.on hB0) HP.out.2.1).mono ?_
    rintro e w1 ⟨rfl, hb1⟩
    have bx1 := bx0.below hb1
    have by1 := by0.below hb1
    have hB1 := below_on hB0 hb1
    clear bx0 by0 hB0 hb1
    obtain ⟨N, hN⟩ : ∃ N, N = nameP x := ⟨_, rfl⟩
    obtain ⟨E, hE⟩ : ∃ E, E = errP x := ⟨_, rfl⟩
    rw [← hN, ← hE]
    obtain ⟨c0, c1, c2⟩ := by1.cells
    have HN := Lib.hid (⟨hN, hE⟩ : _ ∧ _)
    clear hN hE
    go_wp2_with fail
    clear c0 c1 c2
    refine (name_any y w1 (HP.out.1.on hB1) HP.out.2.2).mono ?_
    rintro e w2 ⟨rfl, hb2⟩
    have bx2 := bx1.below hb2
    have by2 := by1.below hb2
    have hB2 := below_on hB1 hb2
    clear bx1 by1 hB1 hb2
    obtain ⟨M, hM⟩ : ∃ M, M = nameP y := ⟨_, rfl⟩
    obtain ⟨F, hF⟩ : ∃ F, F = errP y := ⟨_, rfl⟩
    rw [← hM, ← hF]
    have HM := Lib.hid (⟨hM, hF⟩ : _ ∧ _)
    clear hM hF
    by_cases hMx : MayP x
    · obtain rfl : E = 0 := by rw [HN.out.2]; exact if_pos hMx
      have HX := Lib.hid hMx
      clear hMx
      go_wp2_with fail
      refine (parse_any N (by rw [HN.out.1]; have := name_size x; omega) w2 (HP.out.1.on hB2)).mono ?_
      rintro e w3 ⟨rfl, hb3⟩
      rw [show parseP N = (x, true) by rw [HN.out.1]; exact parse_name HX.out]
      have bx3 := bx2.below hb3
      have by3 := by2.below hb3
      have hB3 := below_on hB2 hb3
      clear bx2 by2 hB2 hb3
      unfold IdP.v
      go_upto_region 7 with fail
      obtain ⟨q, hq⟩ : ∃ q, q = w3.heap.size := ⟨_, rfl⟩
      obtain ⟨w4, hw4⟩ : ∃ w4, w4 = w3.alloc (.cells #[.int .u8 x.kind, .int .i64 x.seq, .int .i64 x.fmt] 23) := ⟨_, rfl⟩
      have bq : BoxI w4 q x := by rw [hw4, hq]; exact BoxI.new w3 x
      have bx4 : BoxI w4 z x := by rw [hw4]; exact bx3.below (below_al (below_d0 _) _)
      have by4 : BoxI w4 (z + 1) y := by rw [hw4]; exact by3.below (below_al (below_d0 _) _)
      have hB4 : Below w.heap.size w w4 := by rw [hw4]; exact below_al hB3 _
      rw [← hw4, ← hq]
      clear hw4 hq bx3 by3 hB3
      have q1 := neq_no (k := x.kind) (s := x.seq) (f := x.fmt) (k' := x.kind) (s' := x.seq) (f' := x.fmt) ⟨rfl, rfl, rfl⟩
      obtain ⟨c0, c1, c2⟩ := bx4.cells
      obtain ⟨d0, d1, d2⟩ := bq.cells
      go_upto_region 11 with fail
      clear d0 d1 d2 bq q1
      obtain ⟨a0, a1, a2⟩ := by4.cells
      by_cases hMy : MayP y
      · obtain rfl : F = 0 := by rw [HM.out.2]; exact if_pos hMy
        by_cases hxy : x = y
        · have t1 := names_eq (show N = M by rw [HN.out.1, HM.out.1, hxy])
          have q2 := eql_yes (k := x.kind) (s := x.seq) (f := x.fmt) (k' := y.kind) (s' := y.seq) (f' := y.fmt) (by rw [hxy]; exact ⟨rfl, rfl, rfl⟩)
          clear hxy hMy
          go_upto_region 13 with fail
          go_wp2_with fail
          refine (parse_any nm (by omega) w4 (HP.out.1.on hB4)).mono ?_
          rintro e wp ⟨rfl, hbp⟩
          have hBp := below_on hB4 hbp
          rcases parse_cases nm with ⟨u, hu, hMu, hNu⟩ | hu
          · rw [hu]
            have HU := Lib.hid (⟨hMu, hNu⟩ : _ ∧ _)
            clear hu hMu hNu hbp t1 q2 c0 c1 c2 a0 a1 a2 bx4 by4
            unfold IdP.v
            go_upto_region 14 with fail
            obtain ⟨g, hg⟩ : ∃ g, g = wp.heap.size := ⟨_, rfl⟩
            obtain ⟨wq, hwq⟩ : ∃ wq, wq = wp.alloc (.cells #[.int .u8 u.kind, .int .i64 u.seq, .int .i64 u.fmt] 23) := ⟨_, rfl⟩
            have bg : BoxI wq g u := by rw [hwq, hg]; exact BoxI.new wp u
            have hBq : Below w.heap.size w wq := by rw [hwq]; exact below_al hBp _
            rw [← hwq, ← hg]
            clear hwq hg hBp
            obtain ⟨c0, c1, c2⟩ := bg.cells
            go_wp2_with fail
            refine (name_any u wq (HP.out.1.on hBq) (ok_of_may HU.out.1)).mono ?_
            rintro e wr ⟨rfl, hbr⟩
            rw [show errP u = 0 from if_pos HU.out.1, HU.out.2]
            have hBr := below_on hBq hbr
            obtain ⟨d0, d1, d2⟩ := (bg.below hbr).cells
            clear c0 c1 c2 hbr bg hBq
            have tt : (nm.toList == nm.toList) = true := names_eq rfl
            go_wp2_with fail
            refine (wakes_true wr (HP.out.1.on hBr)).mono ?_
            rintro e ws ⟨rfl, hbs⟩
            go_wp2_with fail
            go_ret
            exact ⟨rfl, below_on hBr hbs⟩
          · rw [hu]
            clear hu hbp t1 q2 c0 c1 c2 a0 a1 a2 bx4 by4
            unfold IdP.v
            go_upto_region 14 with fail
            obtain ⟨g, hg⟩ : ∃ g, g = wp.heap.size := ⟨_, rfl⟩
            obtain ⟨wq, hwq⟩ : ∃ wq, wq = wp.alloc (.cells #[.int .u8 0, .int .i64 0, .int .i64 0] 23) := ⟨_, rfl⟩
            have bg : BoxI wq g ⟨0, 0, 0⟩ := by rw [hwq, hg]; exact BoxI.new wp ⟨0, 0, 0⟩
            have hBq : Below w.heap.size w wq := by rw [hwq]; exact below_al hBp _
            rw [← hwq, ← hg]
            clear hwq hg hBp
            obtain ⟨c0, c1, c2⟩ := bg.cells
            go_wp2_with fail
            refine (name_any ⟨0, 0, 0⟩ wq (HP.out.1.on hBq) (by constructor <;> decide)).mono ?_
            rintro e wr ⟨rfl, hbr⟩
            rw [name_0.1, name_0.2]
            have hBr := below_on hBq hbr
            obtain ⟨d0, d1, d2⟩ := (bg.below hbr).cells
            clear c0 c1 c2 hbr bg hBq
            have q0 := eql_yes (k := 0) (s := 0) (f := 0) (k' := 0) (s' := 0) (f' := 0) ⟨rfl, rfl, rfl⟩
            go_wp2_with fail
            refine (wakes_true wr (HP.out.1.on hBr)).mono ?_
            rintro e ws ⟨rfl, hbs⟩
            go_wp2_with fail
            go_ret
            exact ⟨rfl, below_on hBr hbs⟩
        · have t1 := names_ne (show ¬ N = M from fun h => hxy (name_inj HX.out hMy (by rw [← HN.out.1, ← HM.out.1, h])))
          have q2 := eql_no (k := x.kind) (s := x.seq) (f := x.fmt) (k' := y.kind) (s' := y.seq) (f' := y.fmt) (fun h => hxy (IdP.ext_ h.1 h.2.1 h.2.2))
          clear hxy hMy
          go_upto_region 13 with fail
          go_wp2_with fail
          refine (parse_any nm (by omega) w4 (HP.out.1.on hB4)).mono ?_
          rintro e wp ⟨rfl, hbp⟩
          have hBp := below_on hB4 hbp
          rcases parse_cases nm with ⟨u, hu, hMu, hNu⟩ | hu
          · rw [hu]
            have HU := Lib.hid (⟨hMu, hNu⟩ : _ ∧ _)
            clear hu hMu hNu hbp t1 q2 c0 c1 c2 a0 a1 a2 bx4 by4
            unfold IdP.v
            go_upto_region 14 with fail
            obtain ⟨g, hg⟩ : ∃ g, g = wp.heap.size := ⟨_, rfl⟩
            obtain ⟨wq, hwq⟩ : ∃ wq, wq = wp.alloc (.cells #[.int .u8 u.kind, .int .i64 u.seq, .int .i64 u.fmt] 23) := ⟨_, rfl⟩
            have bg : BoxI wq g u := by rw [hwq, hg]; exact BoxI.new wp u
            have hBq : Below w.heap.size w wq := by rw [hwq]; exact below_al hBp _
            rw [← hwq, ← hg]
            clear hwq hg hBp
            obtain ⟨c0, c1, c2⟩ := bg.cells
            go_wp2_with fail
            refine (name_any u wq (HP.out.1.on hBq) (ok_of_may HU.out.1)).mono ?_
            rintro e wr ⟨rfl, hbr⟩
            rw [show errP u = 0 from if_pos HU.out.1, HU.out.2]
            have hBr := below_on hBq hbr
            obtain ⟨d0, d1, d2⟩ := (bg.below hbr).cells
            clear c0 c1 c2 hbr bg hBq
            have tt : (nm.toList == nm.toList) = true := names_eq rfl
            go_wp2_with fail
            refine (wakes_true wr (HP.out.1.on hBr)).mono ?_
            rintro e ws ⟨rfl, hbs⟩
            go_wp2_with fail
            go_ret
            exact ⟨rfl, below_on hBr hbs⟩
          · rw [hu]
            clear hu hbp t1 q2 c0 c1 c2 a0 a1 a2 bx4 by4
            unfold IdP.v
            go_upto_region 14 with fail
            obtain ⟨g, hg⟩ : ∃ g, g = wp.heap.size := ⟨_, rfl⟩
            obtain ⟨wq, hwq⟩ : ∃ wq, wq = wp.alloc (.cells #[.int .u8 0, .int .i64 0, .int .i64 0] 23) := ⟨_, rfl⟩
            have bg : BoxI wq g ⟨0, 0, 0⟩ := by rw [hwq, hg]; exact BoxI.new wp ⟨0, 0, 0⟩
            have hBq : Below w.heap.size w wq := by rw [hwq]; exact below_al hBp _
            rw [← hwq, ← hg]
            clear hwq hg hBp
            obtain ⟨c0, c1, c2⟩ := bg.cells
            go_wp2_with fail
            refine (name_any ⟨0, 0, 0⟩ wq (HP.out.1.on hBq) (by constructor <;> decide)).mono ?_
            rintro e wr ⟨rfl, hbr⟩
            rw [name_0.1, name_0.2]
            have hBr := below_on hBq hbr
            obtain ⟨d0, d1, d2⟩ := (bg.below hbr).cells
            clear c0 c1 c2 hbr bg hBq
            have q0 := eql_yes (k := 0) (s := 0) (f := 0) (k' := 0) (s' := 0) (f' := 0) ⟨rfl, rfl, rfl⟩
            go_wp2_with fail
            refine (wakes_true wr (HP.out.1.on hBr)).mono ?_
            rintro e ws ⟨rfl, hbs⟩
            go_wp2_with fail
            go_ret
            exact ⟨rfl, below_on hBr hbs⟩
      · obtain rfl : F = 2 := by rw [HM.out.2]; exact if_neg hMy
        clear hMy
        go_upto_region 13 with fail
        go_wp2_with fail
        refine (parse_any nm (by omega) w4 (HP.out.1.on hB4)).mono ?_
        rintro e wp ⟨rfl, hbp⟩
        have hBp := below_on hB4 hbp
        rcases parse_cases nm with ⟨u, hu, hMu, hNu⟩ | hu
        · rw [hu]
          have HU := Lib.hid (⟨hMu, hNu⟩ : _ ∧ _)
          clear hu hMu hNu hbp c0 c1 c2 a0 a1 a2 bx4 by4
          unfold IdP.v
          go_upto_region 14 with fail
          obtain ⟨g, hg⟩ : ∃ g, g = wp.heap.size := ⟨_, rfl⟩
          obtain ⟨wq, hwq⟩ : ∃ wq, wq = wp.alloc (.cells #[.int .u8 u.kind, .int .i64 u.seq, .int .i64 u.fmt] 23) := ⟨_, rfl⟩
          have bg : BoxI wq g u := by rw [hwq, hg]; exact BoxI.new wp u
          have hBq : Below w.heap.size w wq := by rw [hwq]; exact below_al hBp _
          rw [← hwq, ← hg]
          clear hwq hg hBp
          obtain ⟨c0, c1, c2⟩ := bg.cells
          go_wp2_with fail
          refine (name_any u wq (HP.out.1.on hBq) (ok_of_may HU.out.1)).mono ?_
          rintro e wr ⟨rfl, hbr⟩
          rw [show errP u = 0 from if_pos HU.out.1, HU.out.2]
          have hBr := below_on hBq hbr
          obtain ⟨d0, d1, d2⟩ := (bg.below hbr).cells
          clear c0 c1 c2 hbr bg hBq
          have tt : (nm.toList == nm.toList) = true := names_eq rfl
          go_wp2_with fail
          refine (wakes_true wr (HP.out.1.on hBr)).mono ?_
          rintro e ws ⟨rfl, hbs⟩
          go_wp2_with fail
          go_ret
          exact ⟨rfl, below_on hBr hbs⟩
        · rw [hu]
          clear hu hbp c0 c1 c2 a0 a1 a2 bx4 by4
          unfold IdP.v
          go_upto_region 14 with fail
          obtain ⟨g, hg⟩ : ∃ g, g = wp.heap.size := ⟨_, rfl⟩
          obtain ⟨wq, hwq⟩ : ∃ wq, wq = wp.alloc (.cells #[.int .u8 0, .int .i64 0, .int .i64 0] 23) := ⟨_, rfl⟩
          have bg : BoxI wq g ⟨0, 0, 0⟩ := by rw [hwq, hg]; exact BoxI.new wp ⟨0, 0, 0⟩
          have hBq : Below w.heap.size w wq := by rw [hwq]; exact below_al hBp _
          rw [← hwq, ← hg]
          clear hwq hg hBp
          obtain ⟨c0, c1, c2⟩ := bg.cells
          go_wp2_with fail
          refine (name_any ⟨0, 0, 0⟩ wq (HP.out.1.on hBq) (by constructor <;> decide)).mono ?_
          rintro e wr ⟨rfl, hbr⟩
          rw [name_0.1, name_0.2]
          have hBr := below_on hBq hbr
          obtain ⟨d0, d1, d2⟩ := (bg.below hbr).cells
          clear c0 c1 c2 hbr bg hBq
          have q0 := eql_yes (k := 0) (s := 0) (f := 0) (k' := 0) (s' := 0) (f' := 0) ⟨rfl, rfl, rfl⟩
          go_wp2_with fail
          refine (wakes_true wr (HP.out.1.on hBr)).mono ?_
          rintro e ws ⟨rfl, hbs⟩
          go_wp2_with fail
          go_ret
          exact ⟨rfl, below_on hBr hbs⟩
    · obtain rfl : E = 2 := by rw [HN.out.2]; exact if_neg hMx
      obtain rfl : N = ⟨#[]⟩ := by rw [HN.out.1]; exact (name_no hMx).1
      obtain ⟨c0, c1, c2⟩ := bx2.cells
      go_wp2_with fail
      refine (may_any x w2).mono ?_
      rintro e w3 ⟨rfl, hb3⟩
      rw [decide_eq_false hMx]
      have hB3 := below_on hB2 hb3
      clear hB2 hb3 bx2 by2 c0 c1 c2
      go_upto_region 13 with fail
      go_wp2_with fail
      refine (parse_any nm (by omega) w3 (HP.out.1.on hB3)).mono ?_
      rintro e wp ⟨rfl, hbp⟩
      have hBp := below_on hB3 hbp
      rcases parse_cases nm with ⟨u, hu, hMu, hNu⟩ | hu
      · rw [hu]
        have HU := Lib.hid (⟨hMu, hNu⟩ : _ ∧ _)
        clear hu hMu hNu hbp 
        unfold IdP.v
        go_upto_region 14 with fail
        obtain ⟨g, hg⟩ : ∃ g, g = wp.heap.size := ⟨_, rfl⟩
        obtain ⟨wq, hwq⟩ : ∃ wq, wq = wp.alloc (.cells #[.int .u8 u.kind, .int .i64 u.seq, .int .i64 u.fmt] 23) := ⟨_, rfl⟩
        have bg : BoxI wq g u := by rw [hwq, hg]; exact BoxI.new wp u
        have hBq : Below w.heap.size w wq := by rw [hwq]; exact below_al hBp _
        rw [← hwq, ← hg]
        clear hwq hg hBp
        obtain ⟨c0, c1, c2⟩ := bg.cells
        go_wp2_with fail
        refine (name_any u wq (HP.out.1.on hBq) (ok_of_may HU.out.1)).mono ?_
        rintro e wr ⟨rfl, hbr⟩
        rw [show errP u = 0 from if_pos HU.out.1, HU.out.2]
        have hBr := below_on hBq hbr
        obtain ⟨d0, d1, d2⟩ := (bg.below hbr).cells
        clear c0 c1 c2 hbr bg hBq
        have tt : (nm.toList == nm.toList) = true := names_eq rfl
        go_wp2_with fail
        refine (wakes_true wr (HP.out.1.on hBr)).mono ?_
        rintro e ws ⟨rfl, hbs⟩
        go_wp2_with fail
        go_ret
        exact ⟨rfl, below_on hBr hbs⟩
      · rw [hu]
        clear hu hbp 
        unfold IdP.v
        go_upto_region 14 with fail
        obtain ⟨g, hg⟩ : ∃ g, g = wp.heap.size := ⟨_, rfl⟩
        obtain ⟨wq, hwq⟩ : ∃ wq, wq = wp.alloc (.cells #[.int .u8 0, .int .i64 0, .int .i64 0] 23) := ⟨_, rfl⟩
        have bg : BoxI wq g ⟨0, 0, 0⟩ := by rw [hwq, hg]; exact BoxI.new wp ⟨0, 0, 0⟩
        have hBq : Below w.heap.size w wq := by rw [hwq]; exact below_al hBp _
        rw [← hwq, ← hg]
        clear hwq hg hBp
        obtain ⟨c0, c1, c2⟩ := bg.cells
        go_wp2_with fail
        refine (name_any ⟨0, 0, 0⟩ wq (HP.out.1.on hBq) (by constructor <;> decide)).mono ?_
        rintro e wr ⟨rfl, hbr⟩
        rw [name_0.1, name_0.2]
        have hBr := below_on hBq hbr
        obtain ⟨d0, d1, d2⟩ := (bg.below hbr).cells
        clear c0 c1 c2 hbr bg hBq
        have q0 := eql_yes (k := 0) (s := 0) (f := 0) (k' := 0) (s' := 0) (f' := 0) ⟨rfl, rfl, rfl⟩
        go_wp2_with fail
        refine (wakes_true wr (HP.out.1.on hBr)).mono ?_
        rintro e ws ⟨rfl, hbs⟩
        go_wp2_with fail
        go_ret
        exact ⟨rfl, below_on hBr hbs⟩

end Go.Proofs.YtfalbbeehlaccaaDoor
