/-
  The document's Take: its contract.
-/
import Derived.Test.YtdggacabjlengaaDoorRchain
import Derived.Test.YtdggacabjlengaaDoorRput
namespace Go.Proofs.YtdggacabjlengaaDoor
open Go.RowKit
set_option linter.unusedVariables false
set_option linter.unusedSimpArgs false

theorem StateOut.form {g f : Int} {b : List Int} {w w' : World} {e : Ending} (h : StateOut g b w e w') (hf : FmtP f → f = g) : (∃ (t : StP) (ok : Bool), e = .returned (.tuple #[t.v, .bool ok]) ∧ (ok = true → ∀ s, IsSnap s f b → t = s) ∧ (ok = false → ∀ s, ¬ IsSnap s f b)) ∧ Below w.heap.size w w' := by
  have tr : ∀ {s : StP}, IsSnap s f b → IsSnap s g b := fun {s} hs => by rw [← hf hs.fmt]; exact hs
  rcases h with ⟨⟨t, rfl, h⟩ | ⟨rfl, h⟩, hb⟩
  · exact ⟨⟨t, true, rfl, fun _ s hs => h s (tr hs), fun h0 => (by cases h0)⟩, hb⟩
  · exact ⟨⟨noneP, false, rfl, fun h0 => (by cases h0), fun _ s hs => h s (tr hs)⟩, hb⟩

set_option maxRecDepth 100000 in
set_option maxHeartbeats 4000000 in
theorem rTake_any (A : Option Addr) (n c : Nat) (b : List Int) (f : Int) (w : World) (hl : Rd w w.heap.size .u8 A n b) (hb : Byt b) (hnc : n ≤ c) (hn : n ≤ 1000000) :
    Calls Tryd.prog 12 #[.slice A n c, .int .i64 f] w (TakeT b f w) := by
  have Hl := Lib.hid (⟨hl, hb⟩ : _ ∧ _)
  clear hl hb
  obtain ⟨z, hz⟩ : ∃ z, z = w.heap.size := ⟨_, rfl⟩
  obtain ⟨w0, hw0⟩ : ∃ w0, w0 = w.alloc (.cells #[.int .i64 0, .int .i64 0, .int .i64 0, .int .i64 0, .bool false] 23) := ⟨_, rfl⟩
  have hB0 : Below w.heap.size w w0 := by rw [hw0]; exact below_al (below_d0 w) _
  have b0 : BoxS w0 z noneP := by rw [hw0, hz]; exact BoxS.new w noneP
  have Hz := Lib.hid (show w.heap.size ≤ z ∧ z = w.heap.size by omega)
  have hs0 : w0.heap.size = z + 1 := by rw [hw0, hz]; simp
  have H0 := Lib.hid (⟨hw0, hz, hB0, b0, hs0, Hl.out.1.on hB0 hB0.size⟩ : _ ∧ _ ∧ _ ∧ _ ∧ _ ∧ _)
  clear hw0 hz hB0 b0 hs0
  by_cases hf2 : f = 2
  · subst hf2
    go_enter Tryd.func12, Tryd.ntmps12
    go_wp2_with fail
    rw [← H0.out.1, ← H0.out.2.1]
    refine Calls.mono (plain_any A n c b w0 H0.out.2.2.2.2.2 Hl.out.2 hnc) ?_
    rintro e w1 hS1
    obtain ⟨⟨t0, ok0, rfl, hok1, hok0⟩, hb1⟩ := hS1.form (f := 1) (fun _ => rfl)
    clear hS1
    unfold StP.v
    obtain ⟨y, hy⟩ : ∃ y, y = w1.heap.size := ⟨_, rfl⟩
    obtain ⟨w2, hw2⟩ : ∃ x, x = w1.alloc (.cells #[.int .i64 t0.ix, .int .i64 t0.tm, .int .i64 t0.sm, .int .i64 t0.lv, .bool t0.fn] 23) := ⟨_, rfl⟩
    have hb2 : Below w0.heap.size w0 w2 := by rw [hw2]; exact hb1.alloc hb1.size _
    have by2 : BoxS w2 y t0 := by rw [hw2, hy]; exact BoxS.new w1 t0
    have bz2 := H0.out.2.2.2.1.below hb2
    have hB2 := H0.out.2.2.1.trans (hb2.mono H0.out.2.2.1.size)
    have hr2 := H0.out.2.2.2.2.2.on hb2 hb2.size
    have hyz : z < y := by rw [hy]; have := hb1.size; have := H0.out.2.2.2.2.1; omega
    have H2 := Lib.hid (⟨hw2, hy, by2, bz2, hB2, hr2, hyz⟩ : _ ∧ _ ∧ _ ∧ _ ∧ _ ∧ _ ∧ _)
    clear hok1 hok0 hb1 hw2 hy by2 bz2 hB2 hr2 hyz hb2
    go_wp2_with fail
    rw [← H2.out.1, ← H2.out.2.1]
    refine Calls.mono (chained_any A n c b w2 H2.out.2.2.2.2.2.1 Hl.out.2 hnc hn) ?_
    rintro e w3 hS3
    obtain ⟨⟨t, ok, rfl, hok1, hok0⟩, hb3⟩ := hS3.form (f := 2) (fun _ => rfl)
    clear hS3
    unfold StP.v
    have by3 := H2.out.2.2.1.below hb3
    have bz3 := H2.out.2.2.2.1.below hb3
    have hB3 := H2.out.2.2.2.2.1.trans (hb3.mono H2.out.2.2.2.2.1.size)
    obtain ⟨w4, hw4⟩ : ∃ x, x = putS w3 y t := ⟨_, rfl⟩
    have by4 : BoxS w4 y t := by rw [hw4]; exact putS_box by3 t
    have bz4 : BoxS w4 z noneP := by rw [hw4]; exact (putS_other t (by have := H2.out.2.2.2.2.2.2; omega)).trans bz3
    have hB4 : Below w.heap.size w w4 := by rw [hw4]; exact putS_below (by have := H2.out.2.2.2.2.2.2; have := Hz.out.1; omega) t hB3
    have e4 : w4 = ((((w3.setCell ⟨y, 0, none⟩ (.int .i64 t.ix)).setCell ⟨y, 1, none⟩ (.int .i64 t.tm)).setCell ⟨y, 2, none⟩ (.int .i64 t.sm)).setCell ⟨y, 3, none⟩ (.int .i64 t.lv)).setCell ⟨y, 4, none⟩ (.bool t.fn) := hw4
    obtain ⟨m0, m1, m2, m3, m4⟩ := by3.cells
    have g0 := by3.frozen 0
    have g1 := by3.frozen 1
    have g2 := by3.frozen 2
    have g3 := by3.frozen 3
    have g4 := by3.frozen 4
    have hne1 : ¬ z = y := by have := H2.out.2.2.2.2.2.2; omega
    have hne2 : ¬ y = z := by have := H2.out.2.2.2.2.2.2; omega
    have HT := Lib.hid (⟨by4, bz4, hB4, Hl.out.1.on hB4 hB4.size, hok1, hok0⟩ : _ ∧ _ ∧ _ ∧ _ ∧ _ ∧ _)
    have HE4 := Lib.hid e4
    have Hz3 := Lib.hid bz3
    clear by3 bz3 hB3 by4 bz4 hB4 hw4 e4 hok1 hok0 hb3
    cases ok with
    | false =>
      obtain ⟨c0, c1, c2, c3, c4⟩ := Hz3.out.cells
      have f0 := Hz3.out.frozen 0
      have f1 := Hz3.out.frozen 1
      have f2 := Hz3.out.frozen 2
      have f3 := Hz3.out.frozen 3
      have f4 := Hz3.out.frozen 4
      have HN := Lib.hid (HT.out.2.2.2.2.2 rfl)
      go_wp2_with fail
      rw [← HE4.out]
      clear c0 c1 c2 c3 c4 f0 f1 f2 f3 f4 m0 m1 m2 m3 m4 g0 g1 g2 g3 g4 hne1 hne2
      obtain ⟨W', hW'⟩ : ∃ x, x = putS w4 z noneP := ⟨_, rfl⟩
      have b9 := putS_box HT.out.2.1 noneP
      have hB9 := putS_below Hz.out.1 noneP HT.out.2.2.1
      rw [← hW'] at b9 hB9
      obtain ⟨d0, d1, d2, d3, d4⟩ := b9.cells
      have e9 : W' = ((((w4.setCell ⟨z, 0, none⟩ (.int .i64 0)).setCell ⟨z, 1, none⟩ (.int .i64 0)).setCell ⟨z, 2, none⟩ (.int .i64 0)).setCell ⟨z, 3, none⟩ (.int .i64 0)).setCell ⟨z, 4, none⟩ (.bool false) := hW'
      rw [← e9]
      have HX := Lib.hid (show ∃ t9 er, TakeIs b 2 t9 er ∧ Ending.returned (.tuple #[.agg #[.int .i64 0, .int .i64 0, .int .i64 0, .int .i64 0, .bool false], .int .i64 11]) = .returned (.tuple #[t9.v, .int .i64 er]) from ⟨noneP, 11, .inr ⟨rfl, rfl, HN.out⟩, rfl⟩)
      clear e9 hW' b9
      exact bodyPost_ret (v := .tuple #[.agg #[.int .i64 0, .int .i64 0, .int .i64 0, .int .i64 0, .bool false], .int .i64 11]) (by simp [results, Tryd.results12, go_sem, d0, d1, d2, d3, d4, noneP]) rfl ⟨HX.out, hB9⟩
    | true =>
      skip
      have hPut : Calls Tryd.prog 10 #[.agg #[.int .i64 t.ix, .int .i64 t.tm, .int .i64 t.sm, .int .i64 t.lv, .bool t.fn], .int .i64 2] w4 (Told w4 (putP t 2)) := rPut_any t 2 w4
      have HP := Lib.hid hPut
      clear hPut
      go_wp2_with fail
      rw [← HE4.out]
      refine Calls.mono HP.out ?_
      clear m0 m1 m2 m3 m4 g0 g1 g2 g3 g4 hne1 hne2
      rintro e w5 ⟨⟨A5, c5, rfl, hc5, hr5⟩, hb5⟩
      obtain ⟨by5, bz5, hB5, hr5b, hok, -⟩ := HT.out
      replace hok := hok (by first | rfl | trivial)
      replace by5 := by5.below hb5
      replace bz5 := bz5.below hb5
      replace hr5b := hr5b.on hb5 hb5.size
      replace hB5 := hB5.trans (hb5.mono hB5.size)
      obtain ⟨k0, k1, k2, k3, k4⟩ := by5.cells
      obtain ⟨c0, c1, c2, c3, c4⟩ := bz5.cells
      have f0 := bz5.frozen 0
      have f1 := bz5.frozen 1
      have f2 := bz5.frozen 2
      have f3 := bz5.frozen 3
      have f4 := bz5.frozen 4
      by_cases hF : fineB t = true ∧ FmtP 2
      · rw [putP_yes hF.1 hF.2] at hc5 hr5 ⊢
        dsimp only at hc5 hr5 ⊢
        obtain ⟨q, hq⟩ : ∃ q, (snapL t 2).length = q := ⟨_, rfl⟩
        rw [hq] at hc5 hr5 ⊢
        have q1 := run_txt (P := Tryd.prog) (c := c5) 24 9 5 Tryd.underlying24 Tryd.underlying5 Tryd.underlying9 hr5
        have q2 := run_txt (P := Tryd.prog) (c := c) 24 9 5 Tryd.underlying24 Tryd.underlying5 Tryd.underlying9 hr5b
        have hbe := txt_beq (snap_byt hF.1 2) Hl.out.2
        obtain ⟨u, hu⟩ : ∃ u, u = txt (snapL t 2) := ⟨_, rfl⟩
        obtain ⟨u', hu'⟩ : ∃ u, u = txt b := ⟨_, rfl⟩
        rw [← hu] at q1 hbe
        rw [← hu'] at q2 hbe
        clear hu hu'
        by_cases hE : snapL t 2 = b
        · have hs : (u.toList == u'.toList) = true := by rw [hbe]; exact decide_eq_true hE
          have hs' : (u.toList != u'.toList) = false := by rw [bne, hs]; rfl
          have H5 := Lib.hid (⟨bz5, hB5, (⟨hF.1, hF.2, hE.symm⟩ : IsSnap t 2 b)⟩ : _ ∧ _ ∧ _)
          clear by5 bz5 hB5 hr5 hr5b hok hb5 hc5 hq hbe hE hF
          go_wp2_with fail
          obtain ⟨W', hW'⟩ : ∃ x, x = putS w5 z t := ⟨_, rfl⟩
          have b9 := putS_box H5.out.1 t
          have hB9 := putS_below Hz.out.1 t H5.out.2.1
          rw [← hW'] at b9 hB9
          obtain ⟨d0, d1, d2, d3, d4⟩ := b9.cells
          have e9 : W' = ((((w5.setCell ⟨z, 0, none⟩ (.int .i64 t.ix)).setCell ⟨z, 1, none⟩ (.int .i64 t.tm)).setCell ⟨z, 2, none⟩ (.int .i64 t.sm)).setCell ⟨z, 3, none⟩ (.int .i64 t.lv)).setCell ⟨z, 4, none⟩ (.bool t.fn) := hW'
          rw [← e9]
          have HX := Lib.hid (show ∃ t9 er, TakeIs b 2 t9 er ∧ Ending.returned (.tuple #[.agg #[.int .i64 t.ix, .int .i64 t.tm, .int .i64 t.sm, .int .i64 t.lv, .bool t.fn], .int .i64 0]) = .returned (.tuple #[t9.v, .int .i64 er]) from ⟨t, 0, .inl ⟨rfl, H5.out.2.2⟩, rfl⟩)
          clear e9 hW' b9 c0 c1 c2 c3 c4 f0 f1 f2 f3 f4
          exact bodyPost_ret (v := .tuple #[.agg #[.int .i64 t.ix, .int .i64 t.tm, .int .i64 t.sm, .int .i64 t.lv, .bool t.fn], .int .i64 0]) (by simp [results, Tryd.results12, go_sem, d0, d1, d2, d3, d4, noneP]) rfl ⟨HX.out, hB9⟩
        · have hs : (u.toList == u'.toList) = false := by
            rw [hbe]
            exact decide_eq_false hE
          have hs' : (u.toList != u'.toList) = true := by rw [bne, hs]; rfl
          have hno : ∀ s, ¬ IsSnap s 2 b := fun s h => hE (by rw [hok s h]; exact h.eq.symm)
          have H5 := Lib.hid (⟨bz5, hB5, hno⟩ : _ ∧ _ ∧ _)
          clear by5 bz5 hB5 hr5 hr5b hok hb5 hc5 hq hbe hE hF hno
          go_wp2_with fail
          obtain ⟨W', hW'⟩ : ∃ x, x = putS w5 z noneP := ⟨_, rfl⟩
          have b9 := putS_box H5.out.1 noneP
          have hB9 := putS_below Hz.out.1 noneP H5.out.2.1
          rw [← hW'] at b9 hB9
          obtain ⟨d0, d1, d2, d3, d4⟩ := b9.cells
          have e9 : W' = ((((w5.setCell ⟨z, 0, none⟩ (.int .i64 0)).setCell ⟨z, 1, none⟩ (.int .i64 0)).setCell ⟨z, 2, none⟩ (.int .i64 0)).setCell ⟨z, 3, none⟩ (.int .i64 0)).setCell ⟨z, 4, none⟩ (.bool false) := hW'
          rw [← e9]
          have HX := Lib.hid (show ∃ t9 er, TakeIs b 2 t9 er ∧ Ending.returned (.tuple #[.agg #[.int .i64 0, .int .i64 0, .int .i64 0, .int .i64 0, .bool false], .int .i64 11]) = .returned (.tuple #[t9.v, .int .i64 er]) from ⟨noneP, 11, .inr ⟨rfl, rfl, H5.out.2.2⟩, rfl⟩)
          clear e9 hW' b9 c0 c1 c2 c3 c4 f0 f1 f2 f3 f4
          exact bodyPost_ret (v := .tuple #[.agg #[.int .i64 0, .int .i64 0, .int .i64 0, .int .i64 0, .bool false], .int .i64 11]) (by simp [results, Tryd.results12, go_sem, d0, d1, d2, d3, d4, noneP]) rfl ⟨HX.out, hB9⟩
      · have hno : ∀ s, ¬ IsSnap s 2 b := fun s h => hF ⟨(hok s h).symm ▸ h.fine, h.fmt⟩
        rw [putP_no hF]
        have H5 := Lib.hid (⟨bz5, hB5, hno⟩ : _ ∧ _ ∧ _)
        clear by5 bz5 hB5 hr5 hr5b hok hb5 hc5 hF hno
        go_wp2_with fail
        obtain ⟨W', hW'⟩ : ∃ x, x = putS w5 z noneP := ⟨_, rfl⟩
        have b9 := putS_box H5.out.1 noneP
        have hB9 := putS_below Hz.out.1 noneP H5.out.2.1
        rw [← hW'] at b9 hB9
        obtain ⟨d0, d1, d2, d3, d4⟩ := b9.cells
        have e9 : W' = ((((w5.setCell ⟨z, 0, none⟩ (.int .i64 0)).setCell ⟨z, 1, none⟩ (.int .i64 0)).setCell ⟨z, 2, none⟩ (.int .i64 0)).setCell ⟨z, 3, none⟩ (.int .i64 0)).setCell ⟨z, 4, none⟩ (.bool false) := hW'
        rw [← e9]
        have HX := Lib.hid (show ∃ t9 er, TakeIs b 2 t9 er ∧ Ending.returned (.tuple #[.agg #[.int .i64 0, .int .i64 0, .int .i64 0, .int .i64 0, .bool false], .int .i64 11]) = .returned (.tuple #[t9.v, .int .i64 er]) from ⟨noneP, 11, .inr ⟨rfl, rfl, H5.out.2.2⟩, rfl⟩)
        clear e9 hW' b9 c0 c1 c2 c3 c4 f0 f1 f2 f3 f4
        exact bodyPost_ret (v := .tuple #[.agg #[.int .i64 0, .int .i64 0, .int .i64 0, .int .i64 0, .bool false], .int .i64 11]) (by simp [results, Tryd.results12, go_sem, d0, d1, d2, d3, d4, noneP]) rfl ⟨HX.out, hB9⟩
  · have hbf : (f == 2) = false := by simpa using hf2
    go_enter Tryd.func12, Tryd.ntmps12
    go_wp2_with fail
    rw [← H0.out.1, ← H0.out.2.1]
    refine Calls.mono (plain_any A n c b w0 H0.out.2.2.2.2.2 Hl.out.2 hnc) ?_
    rintro e w1 hS1
    obtain ⟨⟨t, ok, rfl, hok1, hok0⟩, hb1⟩ := hS1.form (f := f) (fun h => h.elim id fun h => absurd h hf2)
    clear hS1
    unfold StP.v
    obtain ⟨y, hy⟩ : ∃ y, y = w1.heap.size := ⟨_, rfl⟩
    obtain ⟨w2, hw2⟩ : ∃ x, x = w1.alloc (.cells #[.int .i64 t.ix, .int .i64 t.tm, .int .i64 t.sm, .int .i64 t.lv, .bool t.fn] 23) := ⟨_, rfl⟩
    have hb2 : Below w0.heap.size w0 w2 := by rw [hw2]; exact hb1.alloc hb1.size _
    have by2 : BoxS w2 y t := by rw [hw2, hy]; exact BoxS.new w1 t
    have bz2 := H0.out.2.2.2.1.below hb2
    have hB2 := H0.out.2.2.1.trans (hb2.mono H0.out.2.2.1.size)
    have hr2 := H0.out.2.2.2.2.2.on hb2 hb2.size
    have hyz : z < y := by rw [hy]; have := hb1.size; have := H0.out.2.2.2.2.1; omega
    have HT := Lib.hid (⟨by2, bz2, hB2, hr2, hok1, hok0⟩ : _ ∧ _ ∧ _ ∧ _ ∧ _ ∧ _)
    have HE := Lib.hid (⟨hw2, hy⟩ : _ ∧ _)
    clear hok1 hok0 hb1 hw2 hy by2 bz2 hB2 hr2 hyz hb2
    cases ok with
    | false =>
      obtain ⟨c0, c1, c2, c3, c4⟩ := HT.out.2.1.cells
      have f0 := HT.out.2.1.frozen 0
      have f1 := HT.out.2.1.frozen 1
      have f2 := HT.out.2.1.frozen 2
      have f3 := HT.out.2.1.frozen 3
      have f4 := HT.out.2.1.frozen 4
      rw [HE.out.1] at c0 c1 c2 c3 c4 f0 f1 f2 f3 f4
      have HN := Lib.hid (HT.out.2.2.2.2.2 rfl)
      go_wp2_with fail
      rw [← HE.out.1, ← HE.out.2]
      clear c0 c1 c2 c3 c4 f0 f1 f2 f3 f4
      obtain ⟨W', hW'⟩ : ∃ x, x = putS w2 z noneP := ⟨_, rfl⟩
      have b9 := putS_box HT.out.2.1 noneP
      have hB9 := putS_below Hz.out.1 noneP HT.out.2.2.1
      rw [← hW'] at b9 hB9
      obtain ⟨d0, d1, d2, d3, d4⟩ := b9.cells
      have e9 : W' = ((((w2.setCell ⟨z, 0, none⟩ (.int .i64 0)).setCell ⟨z, 1, none⟩ (.int .i64 0)).setCell ⟨z, 2, none⟩ (.int .i64 0)).setCell ⟨z, 3, none⟩ (.int .i64 0)).setCell ⟨z, 4, none⟩ (.bool false) := hW'
      rw [← e9]
      have HX := Lib.hid (show ∃ t9 er, TakeIs b f t9 er ∧ Ending.returned (.tuple #[.agg #[.int .i64 0, .int .i64 0, .int .i64 0, .int .i64 0, .bool false], .int .i64 11]) = .returned (.tuple #[t9.v, .int .i64 er]) from ⟨noneP, 11, .inr ⟨rfl, rfl, HN.out⟩, rfl⟩)
      clear e9 hW' b9
      exact bodyPost_ret (v := .tuple #[.agg #[.int .i64 0, .int .i64 0, .int .i64 0, .int .i64 0, .bool false], .int .i64 11]) (by simp [results, Tryd.results12, go_sem, d0, d1, d2, d3, d4, noneP]) rfl ⟨HX.out, hB9⟩
    | true =>
      obtain ⟨k0, k1, k2, k3, k4⟩ := HT.out.1.cells
      rw [HE.out.1, HE.out.2] at k0 k1 k2 k3 k4
      have hPut : Calls Tryd.prog 10 #[.agg #[.int .i64 t.ix, .int .i64 t.tm, .int .i64 t.sm, .int .i64 t.lv, .bool t.fn], .int .i64 f] w2 (Told w2 (putP t f)) := rPut_any t f w2
      have HP := Lib.hid hPut
      clear hPut
      go_wp2_with fail
      rw [← HE.out.1, ← HE.out.2]
      refine Calls.mono HP.out ?_
      clear k0 k1 k2 k3 k4
      rintro e w5 ⟨⟨A5, c5, rfl, hc5, hr5⟩, hb5⟩
      obtain ⟨by5, bz5, hB5, hr5b, hok, -⟩ := HT.out
      replace hok := hok (by first | rfl | trivial)
      replace by5 := by5.below hb5
      replace bz5 := bz5.below hb5
      replace hr5b := hr5b.on hb5 hb5.size
      replace hB5 := hB5.trans (hb5.mono hB5.size)
      obtain ⟨k0, k1, k2, k3, k4⟩ := by5.cells
      obtain ⟨c0, c1, c2, c3, c4⟩ := bz5.cells
      have f0 := bz5.frozen 0
      have f1 := bz5.frozen 1
      have f2 := bz5.frozen 2
      have f3 := bz5.frozen 3
      have f4 := bz5.frozen 4
      by_cases hF : fineB t = true ∧ FmtP f
      · rw [putP_yes hF.1 hF.2] at hc5 hr5 ⊢
        dsimp only at hc5 hr5 ⊢
        obtain ⟨q, hq⟩ : ∃ q, (snapL t f).length = q := ⟨_, rfl⟩
        rw [hq] at hc5 hr5 ⊢
        have q1 := run_txt (P := Tryd.prog) (c := c5) 24 9 5 Tryd.underlying24 Tryd.underlying5 Tryd.underlying9 hr5
        have q2 := run_txt (P := Tryd.prog) (c := c) 24 9 5 Tryd.underlying24 Tryd.underlying5 Tryd.underlying9 hr5b
        have hbe := txt_beq (snap_byt hF.1 f) Hl.out.2
        obtain ⟨u, hu⟩ : ∃ u, u = txt (snapL t f) := ⟨_, rfl⟩
        obtain ⟨u', hu'⟩ : ∃ u, u = txt b := ⟨_, rfl⟩
        rw [← hu] at q1 hbe
        rw [← hu'] at q2 hbe
        clear hu hu'
        by_cases hE : snapL t f = b
        · have hs : (u.toList == u'.toList) = true := by rw [hbe]; exact decide_eq_true hE
          have hs' : (u.toList != u'.toList) = false := by rw [bne, hs]; rfl
          have H5 := Lib.hid (⟨bz5, hB5, (⟨hF.1, hF.2, hE.symm⟩ : IsSnap t f b)⟩ : _ ∧ _ ∧ _)
          clear by5 bz5 hB5 hr5 hr5b hok hb5 hc5 hq hbe hE hF
          go_wp2_with fail
          obtain ⟨W', hW'⟩ : ∃ x, x = putS w5 z t := ⟨_, rfl⟩
          have b9 := putS_box H5.out.1 t
          have hB9 := putS_below Hz.out.1 t H5.out.2.1
          rw [← hW'] at b9 hB9
          obtain ⟨d0, d1, d2, d3, d4⟩ := b9.cells
          have e9 : W' = ((((w5.setCell ⟨z, 0, none⟩ (.int .i64 t.ix)).setCell ⟨z, 1, none⟩ (.int .i64 t.tm)).setCell ⟨z, 2, none⟩ (.int .i64 t.sm)).setCell ⟨z, 3, none⟩ (.int .i64 t.lv)).setCell ⟨z, 4, none⟩ (.bool t.fn) := hW'
          rw [← e9]
          have HX := Lib.hid (show ∃ t9 er, TakeIs b f t9 er ∧ Ending.returned (.tuple #[.agg #[.int .i64 t.ix, .int .i64 t.tm, .int .i64 t.sm, .int .i64 t.lv, .bool t.fn], .int .i64 0]) = .returned (.tuple #[t9.v, .int .i64 er]) from ⟨t, 0, .inl ⟨rfl, H5.out.2.2⟩, rfl⟩)
          clear e9 hW' b9 c0 c1 c2 c3 c4 f0 f1 f2 f3 f4
          exact bodyPost_ret (v := .tuple #[.agg #[.int .i64 t.ix, .int .i64 t.tm, .int .i64 t.sm, .int .i64 t.lv, .bool t.fn], .int .i64 0]) (by simp [results, Tryd.results12, go_sem, d0, d1, d2, d3, d4, noneP]) rfl ⟨HX.out, hB9⟩
        · have hs : (u.toList == u'.toList) = false := by
            rw [hbe]
            exact decide_eq_false hE
          have hs' : (u.toList != u'.toList) = true := by rw [bne, hs]; rfl
          have hno : ∀ s, ¬ IsSnap s f b := fun s h => hE (by rw [hok s h]; exact h.eq.symm)
          have H5 := Lib.hid (⟨bz5, hB5, hno⟩ : _ ∧ _ ∧ _)
          clear by5 bz5 hB5 hr5 hr5b hok hb5 hc5 hq hbe hE hF hno
          go_wp2_with fail
          obtain ⟨W', hW'⟩ : ∃ x, x = putS w5 z noneP := ⟨_, rfl⟩
          have b9 := putS_box H5.out.1 noneP
          have hB9 := putS_below Hz.out.1 noneP H5.out.2.1
          rw [← hW'] at b9 hB9
          obtain ⟨d0, d1, d2, d3, d4⟩ := b9.cells
          have e9 : W' = ((((w5.setCell ⟨z, 0, none⟩ (.int .i64 0)).setCell ⟨z, 1, none⟩ (.int .i64 0)).setCell ⟨z, 2, none⟩ (.int .i64 0)).setCell ⟨z, 3, none⟩ (.int .i64 0)).setCell ⟨z, 4, none⟩ (.bool false) := hW'
          rw [← e9]
          have HX := Lib.hid (show ∃ t9 er, TakeIs b f t9 er ∧ Ending.returned (.tuple #[.agg #[.int .i64 0, .int .i64 0, .int .i64 0, .int .i64 0, .bool false], .int .i64 11]) = .returned (.tuple #[t9.v, .int .i64 er]) from ⟨noneP, 11, .inr ⟨rfl, rfl, H5.out.2.2⟩, rfl⟩)
          clear e9 hW' b9 c0 c1 c2 c3 c4 f0 f1 f2 f3 f4
          exact bodyPost_ret (v := .tuple #[.agg #[.int .i64 0, .int .i64 0, .int .i64 0, .int .i64 0, .bool false], .int .i64 11]) (by simp [results, Tryd.results12, go_sem, d0, d1, d2, d3, d4, noneP]) rfl ⟨HX.out, hB9⟩
      · have hno : ∀ s, ¬ IsSnap s f b := fun s h => hF ⟨(hok s h).symm ▸ h.fine, h.fmt⟩
        rw [putP_no hF]
        have H5 := Lib.hid (⟨bz5, hB5, hno⟩ : _ ∧ _ ∧ _)
        clear by5 bz5 hB5 hr5 hr5b hok hb5 hc5 hF hno
        go_wp2_with fail
        obtain ⟨W', hW'⟩ : ∃ x, x = putS w5 z noneP := ⟨_, rfl⟩
        have b9 := putS_box H5.out.1 noneP
        have hB9 := putS_below Hz.out.1 noneP H5.out.2.1
        rw [← hW'] at b9 hB9
        obtain ⟨d0, d1, d2, d3, d4⟩ := b9.cells
        have e9 : W' = ((((w5.setCell ⟨z, 0, none⟩ (.int .i64 0)).setCell ⟨z, 1, none⟩ (.int .i64 0)).setCell ⟨z, 2, none⟩ (.int .i64 0)).setCell ⟨z, 3, none⟩ (.int .i64 0)).setCell ⟨z, 4, none⟩ (.bool false) := hW'
        rw [← e9]
        have HX := Lib.hid (show ∃ t9 er, TakeIs b f t9 er ∧ Ending.returned (.tuple #[.agg #[.int .i64 0, .int .i64 0, .int .i64 0, .int .i64 0, .bool false], .int .i64 11]) = .returned (.tuple #[t9.v, .int .i64 er]) from ⟨noneP, 11, .inr ⟨rfl, rfl, H5.out.2.2⟩, rfl⟩)
        clear e9 hW' b9 c0 c1 c2 c3 c4 f0 f1 f2 f3 f4
        exact bodyPost_ret (v := .tuple #[.agg #[.int .i64 0, .int .i64 0, .int .i64 0, .int .i64 0, .bool false], .int .i64 11]) (by simp [results, Tryd.results12, go_sem, d0, d1, d2, d3, d4, noneP]) rfl ⟨HX.out, hB9⟩

end Go.Proofs.YtdggacabjlengaaDoor
