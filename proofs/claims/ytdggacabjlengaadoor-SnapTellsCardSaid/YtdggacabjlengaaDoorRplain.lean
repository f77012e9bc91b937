/-
  The document's plain: its contract.
-/
import Derived.Test.YtdggacabjlengaaDoorTake9
namespace Go.Proofs.YtdggacabjlengaaDoor
open Go.RowKit
set_option linter.unusedVariables false
set_option linter.unusedSimpArgs false

theorem long_rest {l : List Int} (h : (Nu.longP l).2.2 = 0) : (Nu.longP l).2.1 = l.drop 5 := by
  unfold Nu.longP at h ⊢
  split at h
  · cases h
  · rename_i h1
    split at h
    · cases h
    · rename_i h2
      rw [if_neg h1, if_neg h2]
theorem one_longs {s : StP} {b : List Int} (h : IsSnap s 1 b) : Nu.longP (b.drop 1) = (s.ix, b.drop 6, 0) ∧ Nu.longP (b.drop 6) = (s.tm, b.drop 11, 0) ∧ Nu.longP (b.drop 11) = (s.sm, b.drop 16, 0) := by
  obtain ⟨a1, a2, a3, _⟩ := fineB_iff.1 h.fine
  obtain ⟨X, hX⟩ : ∃ X, X = [s.lv, bitI s.fn] ++ Cr.fourI (Cr.sumI (oneL s)) := ⟨_, rfl⟩
  have e : b = 1 :: (Nu.longOf s.ix ++ (Nu.longOf s.tm ++ (Nu.longOf s.sm ++ X))) := by
    rw [h.eq, snapL_one, hX]
    simp [snap1, sealL, oneL, Nu.longsOf]
  have l1 := Nu.longOf_length s.ix
  have l2 := Nu.longOf_length s.tm
  have l3 := Nu.longOf_length s.sm
  have e1 : b.drop 1 = Nu.longOf s.ix ++ (Nu.longOf s.tm ++ (Nu.longOf s.sm ++ X)) := by rw [e]; rfl
  have e6 : b.drop 6 = Nu.longOf s.tm ++ (Nu.longOf s.sm ++ X) := by
    rw [show b.drop 6 = (b.drop 1).drop 5 by rw [List.drop_drop], e1]
    exact List.drop_left' l1
  have e11 : b.drop 11 = Nu.longOf s.sm ++ X := by
    rw [show b.drop 11 = (b.drop 6).drop 5 by rw [List.drop_drop], e6]
    exact List.drop_left' l2
  have e16 : b.drop 16 = X := by
    rw [show b.drop 16 = (b.drop 11).drop 5 by rw [List.drop_drop], e11]
    exact List.drop_left' l3
  rw [e16, e11, e6, e1]
  exact ⟨Nu.longP_long a1.1 a1.2 _, Nu.longP_long a2.1 a2.2 _, Nu.longP_long a3.1 a3.2 _⟩

set_option maxRecDepth 100000 in
set_option maxHeartbeats 4000000 in
theorem plain_any (A : Option Addr) (n c : Nat) (b : List Int) (w : World) (hl : Rd w w.heap.size .u8 A n b) (hb : Byt b) (hnc : n ≤ c) :
    Calls Tryd.prog 28 #[.slice A n c] w (StateOut 1 b w) := by
  obtain ⟨i0, hi, hz0, hz1, hz2⟩ := info_parts Nu.info_byte
  have Hl := Lib.hid (⟨hl, hb, hl.1⟩ : _ ∧ _ ∧ _)
  clear hl hb
  obtain ⟨z, hz⟩ : ∃ z, z = w.heap.size := ⟨_, rfl⟩
  obtain ⟨w0, hw0⟩ : ∃ w0, w0 = w.alloc (.cells #[.int .i64 0, .int .i64 0, .int .i64 0, .int .i64 0, .bool false] 23) := ⟨_, rfl⟩
  have hB0 : Below w.heap.size w w0 := by rw [hw0]; exact below_al (below_d0 w) _
  have b0 : BoxS w0 z noneP := by rw [hw0, hz]; exact BoxS.new w noneP
  have Hz := Lib.hid (show w.heap.size ≤ z by omega)
  have H0 := Lib.hid (⟨hw0, hz, hB0, b0⟩ : _ ∧ _ ∧ _ ∧ _)
  by_cases hn : n = 22
  · subst hn
    obtain ⟨bl, off, rfl, hbl, hcell⟩ := Hl.out.1.at_ (by omega)
    clear hcell
    have hrd1 : Rd w w.heap.size .u8 (some ⟨bl, off + 1, none⟩) 21 (b.drop 1) := Nu.Rd.cut_at Hl.out.1 (m := 1) (by omega)
    have H1 := Lib.hid (hrd1.on H0.out.2.2.1 H0.out.2.2.1.size)
    have hc1 : 21 ≤ c - 1 := by omega
    clear hrd1 hw0 hz hB0 b0
    go_enter Tryd.func28, Tryd.ntmps28
    go_wp2_with fail
    rw [← H0.out.1, ← H0.out.2.1]
    refine (Nu.rlong_any (some ⟨bl, off + 1, none⟩) 21 (c - 1) (b.drop 1) w0 H1.out (Hl.out.2.1.drop 1) hc1 (by decide)).mono ?_
    rintro e w1 ⟨⟨v1, rfl, hg1⟩, hb1⟩
    obtain ⟨x1, hx1⟩ : ∃ x, x = (Nu.longP (b.drop 1)).1 := ⟨_, rfl⟩
    obtain ⟨er1, her1⟩ : ∃ er, er = (Nu.longP (b.drop 1)).2.2 := ⟨_, rfl⟩
    rw [← hx1, ← her1]
    have bx1 := (H0.out.2.2.2).below hb1
    have hB1 := (H0.out.2.2.1).trans (hb1.mono (H0.out.2.2.1).size)
    by_cases h0 : er1 = 0
    rotate_left
    · have hno : ∀ s, ¬ IsSnap s 1 b := fun s hs => by have := (one_longs hs).1; rw [this] at her1; exact h0 her1
      have e0 : (er1 != 0) = true := by simpa using h0
      obtain ⟨c0, c1, c2, c3, c4⟩ := bx1.cells
      have f0 := bx1.frozen 0
      have f1 := bx1.frozen 1
      have f2 := bx1.frozen 2
      have f3 := bx1.frozen 3
      have f4 := bx1.frozen 4
      have HF := Lib.hid (⟨bx1, hB1, hno⟩ : _ ∧ _ ∧ _)
      clear bx1 hB1 hno hb1 hg1 hx1 her1 h0
      go_wp2_with fail
      obtain ⟨W', hW'⟩ : ∃ x, x = putS w1 z noneP := ⟨_, rfl⟩
      have b9 := putS_box HF.out.1 noneP
      have hB9 := putS_below Hz.out noneP HF.out.2.1
      rw [← hW'] at b9 hB9
      obtain ⟨d0, d1, d2, d3, d4⟩ := b9.cells
      have e9 : W' = ((((w1.setCell ⟨z, 0, none⟩ (.int .i64 0)).setCell ⟨z, 1, none⟩ (.int .i64 0)).setCell ⟨z, 2, none⟩ (.int .i64 0)).setCell ⟨z, 3, none⟩ (.int .i64 0)).setCell ⟨z, 4, none⟩ (.bool false) := hW'
      rw [← e9]
      clear e9 hW' c0 c1 c2 c3 c4 f0 f1 f2 f3 f4
      exact bodyPost_ret (v := .tuple #[.agg #[.int .i64 0, .int .i64 0, .int .i64 0, .int .i64 0, .bool false], .bool false]) (by simp [results, Tryd.results28, go_sem, d0, d1, d2, d3, d4, noneP]) rfl ⟨.inr ⟨rfl, HF.out.2.2⟩, hB9⟩
    subst h0
    rw [long_rest her1.symm, List.drop_drop] at hg1
    obtain ⟨A1, c1', rfl, hc1', hr1⟩ := hg1
    have hlen1 : (b.drop (1 + 5)).length = 16 := by rw [List.length_drop, Hl.out.2.2]
    rw [hlen1] at hc1' hr1 ⊢
    have H1b := Lib.hid (⟨bx1, hB1, hr1, hx1⟩ : _ ∧ _ ∧ _ ∧ _)
    clear bx1 hB1 hr1 hx1 her1 hb1 hlen1
    go_wp2_with fail
    refine (Nu.rlong_any A1 16 c1' (b.drop 6) w1 H1b.out.2.2.1 (Hl.out.2.1.drop 6) hc1' (by decide)).mono ?_
    rintro e w2 ⟨⟨v2, rfl, hg2⟩, hb2⟩
    obtain ⟨x2, hx2⟩ : ∃ x, x = (Nu.longP (b.drop 6)).1 := ⟨_, rfl⟩
    obtain ⟨er2, her2⟩ : ∃ er, er = (Nu.longP (b.drop 6)).2.2 := ⟨_, rfl⟩
    rw [← hx2, ← her2]
    have bx2 := (H1b.out.1).below hb2
    have hB2 := (H1b.out.2.1).trans (hb2.mono (H1b.out.2.1).size)
    by_cases h0 : er2 = 0
    rotate_left
    · have hno : ∀ s, ¬ IsSnap s 1 b := fun s hs => by have := (one_longs hs).2.1; rw [this] at her2; exact h0 her2
      have e0 : (er2 != 0) = true := by simpa using h0
      obtain ⟨c0, c1, c2, c3, c4⟩ := bx2.cells
      have f0 := bx2.frozen 0
      have f1 := bx2.frozen 1
      have f2 := bx2.frozen 2
      have f3 := bx2.frozen 3
      have f4 := bx2.frozen 4
      have HF := Lib.hid (⟨bx2, hB2, hno⟩ : _ ∧ _ ∧ _)
      clear bx2 hB2 hno hb2 hg2 hx2 her2 h0
      go_wp2_with fail
      obtain ⟨W', hW'⟩ : ∃ x, x = putS w2 z noneP := ⟨_, rfl⟩
      have b9 := putS_box HF.out.1 noneP
      have hB9 := putS_below Hz.out noneP HF.out.2.1
      rw [← hW'] at b9 hB9
      obtain ⟨d0, d1, d2, d3, d4⟩ := b9.cells
      have e9 : W' = ((((w2.setCell ⟨z, 0, none⟩ (.int .i64 0)).setCell ⟨z, 1, none⟩ (.int .i64 0)).setCell ⟨z, 2, none⟩ (.int .i64 0)).setCell ⟨z, 3, none⟩ (.int .i64 0)).setCell ⟨z, 4, none⟩ (.bool false) := hW'
      rw [← e9]
      clear e9 hW' c0 c1 c2 c3 c4 f0 f1 f2 f3 f4
      exact bodyPost_ret (v := .tuple #[.agg #[.int .i64 0, .int .i64 0, .int .i64 0, .int .i64 0, .bool false], .bool false]) (by simp [results, Tryd.results28, go_sem, d0, d1, d2, d3, d4, noneP]) rfl ⟨.inr ⟨rfl, HF.out.2.2⟩, hB9⟩
    subst h0
    rw [long_rest her2.symm, List.drop_drop] at hg2
    obtain ⟨A2, c2', rfl, hc2', hr2⟩ := hg2
    have hlen2 : (b.drop (6 + 5)).length = 11 := by rw [List.length_drop, Hl.out.2.2]
    rw [hlen2] at hc2' hr2 ⊢
    have H2b := Lib.hid (⟨bx2, hB2, hr2, hx2⟩ : _ ∧ _ ∧ _ ∧ _)
    clear bx2 hB2 hr2 hx2 her2 hb2 hlen2
    go_wp2_with fail
    refine (Nu.rlong_any A2 11 c2' (b.drop 11) w2 H2b.out.2.2.1 (Hl.out.2.1.drop 11) hc2' (by decide)).mono ?_
    rintro e w3 ⟨⟨v3, rfl, hg3⟩, hb3⟩
    obtain ⟨x3, hx3⟩ : ∃ x, x = (Nu.longP (b.drop 11)).1 := ⟨_, rfl⟩
    obtain ⟨er3, her3⟩ : ∃ er, er = (Nu.longP (b.drop 11)).2.2 := ⟨_, rfl⟩
    rw [← hx3, ← her3]
    have bx3 := (H2b.out.1).below hb3
    have hB3 := (H2b.out.2.1).trans (hb3.mono (H2b.out.2.1).size)
    by_cases h0 : er3 = 0
    rotate_left
    · have hno : ∀ s, ¬ IsSnap s 1 b := fun s hs => by have := (one_longs hs).2.2; rw [this] at her3; exact h0 her3
      have e0 : (er3 != 0) = true := by simpa using h0
      obtain ⟨c0, c1, c2, c3, c4⟩ := bx3.cells
      have f0 := bx3.frozen 0
      have f1 := bx3.frozen 1
      have f2 := bx3.frozen 2
      have f3 := bx3.frozen 3
      have f4 := bx3.frozen 4
      have HF := Lib.hid (⟨bx3, hB3, hno⟩ : _ ∧ _ ∧ _)
      clear bx3 hB3 hno hb3 hg3 hx3 her3 h0
      go_wp2_with fail
      obtain ⟨W', hW'⟩ : ∃ x, x = putS w3 z noneP := ⟨_, rfl⟩
      have b9 := putS_box HF.out.1 noneP
      have hB9 := putS_below Hz.out noneP HF.out.2.1
      rw [← hW'] at b9 hB9
      obtain ⟨d0, d1, d2, d3, d4⟩ := b9.cells
      have e9 : W' = ((((w3.setCell ⟨z, 0, none⟩ (.int .i64 0)).setCell ⟨z, 1, none⟩ (.int .i64 0)).setCell ⟨z, 2, none⟩ (.int .i64 0)).setCell ⟨z, 3, none⟩ (.int .i64 0)).setCell ⟨z, 4, none⟩ (.bool false) := hW'
      rw [← e9]
      clear e9 hW' c0 c1 c2 c3 c4 f0 f1 f2 f3 f4
      exact bodyPost_ret (v := .tuple #[.agg #[.int .i64 0, .int .i64 0, .int .i64 0, .int .i64 0, .bool false], .bool false]) (by simp [results, Tryd.results28, go_sem, d0, d1, d2, d3, d4, noneP]) rfl ⟨.inr ⟨rfl, HF.out.2.2⟩, hB9⟩
    subst h0
    rw [long_rest her3.symm, List.drop_drop] at hg3
    obtain ⟨A3, c3', rfl, hc3', hr3⟩ := hg3
    have hlen3 : (b.drop (11 + 5)).length = 6 := by rw [List.length_drop, Hl.out.2.2]
    rw [hlen3] at hc3' hr3 ⊢
    have H3b := Lib.hid (⟨bx3, hB3, hr3, hx3⟩ : _ ∧ _ ∧ _ ∧ _)
    clear bx3 hB3 hr3 hx3 her3 hb3 hlen3
    obtain ⟨b3, o3, rfl, hb3l, hcell3⟩ := H3b.out.2.2.1.at_ (by omega)
    have l0 := hcell3 0 (by omega)
    have l1 := hcell3 1 (by omega)
    rw [Nat.add_zero] at l0
    obtain ⟨y0, hy0⟩ : ∃ y, y = (b.drop (11 + 5))[0]?.getD 0 := ⟨_, rfl⟩
    obtain ⟨y1, hy1⟩ : ∃ y, y = (b.drop (11 + 5))[1]?.getD 0 := ⟨_, rfl⟩
    rw [← hy0] at l0
    rw [← hy1] at l1
    have hby0 : 0 ≤ y0 ∧ y0 ≤ 255 := by rw [hy0]; exact (Hl.out.2.1.drop _).at_ 0
    have hw0 : IntKind.i64.wrap y0 = y0 := by rw [IntKind.wrap_i64] <;> omega
    have hne : b3 ≠ z := by
      rintro rfl
      have h := l0
      have h1 := hcell3 1 (by omega)
      have h2 := hcell3 2 (by omega)
      have h3 := hcell3 3 (by omega)
      have h4 := hcell3 4 (by omega)
      rw [cell_of_row _ _ _ _ _ _ H3b.out.1] at h h1 h2 h3 h4
      match o3, h, h1, h2, h3, h4 with
      | 0, h, h1, h2, h3, h4 => simp at h
      | 1, h, h1, h2, h3, h4 => simp at h
      | 2, h, h1, h2, h3, h4 => simp at h
      | 3, h, h1, h2, h3, h4 => simp at h
      | 4, h, h1, h2, h3, h4 => simp at h
      | o + 5, h, h1, h2, h3, h4 => simp at h
    obtain ⟨c0, c1, c2, c3, c4⟩ := H3b.out.1.cells
    have f0 := H3b.out.1.frozen 0
    have f1 := H3b.out.1.frozen 1
    have f2 := H3b.out.1.frozen 2
    have f3 := H3b.out.1.frozen 3
    have f4 := H3b.out.1.frozen 4
    obtain ⟨t, ht⟩ : ∃ t : StP, t = ⟨x1, x2, x3, y0, y1 == 1⟩ := ⟨_, rfl⟩
    have hts : ∀ s, IsSnap s 1 b → t = s := fun s hs => by
      obtain ⟨q1, q2, q3⟩ := one_longs hs
      obtain ⟨_, _, q4, q5⟩ := one_of hs
      have g0 : y0 = s.lv := by rw [hy0, List.getElem?_drop]; exact q4
      have g1 : y1 = bitI s.fn := by rw [hy1, List.getElem?_drop]; exact q5
      rw [ht, H1b.out.2.2.2, H2b.out.2.2.2, H3b.out.2.2.2, q1, q2, q3, g0, g1]
      obtain ⟨a, b', c', d, e⟩ := s
      cases e <;> rfl
    have HT := Lib.hid (⟨hts, ht⟩ : _ ∧ _)
    clear hcell3 hb3l hy0 hy1 hby0 hts ht
    go_wp2_with fail
    go_still_tail 12, (by kernel_rfl)
    change wpList _ _ _ _ _ w3.drew
    go_wp2_with fail
    obtain ⟨W', hW'⟩ : ∃ x, x = (putS w3 z t).drew := ⟨_, rfl⟩
    have b9 : BoxS W' z t := by rw [hW']; exact putS_box H3b.out.1 t
    have hB9 : Below w.heap.size w W' := by rw [hW']; exact (putS_below Hz.out t H3b.out.2.1).drew
    obtain ⟨d0, d1, d2, d3, d4⟩ := b9.cells
    have e9 : W' = (((((w3.setCell ⟨z, 0, none⟩ (.int .i64 x1)).setCell ⟨z, 1, none⟩ (.int .i64 x2)).setCell ⟨z, 2, none⟩ (.int .i64 x3)).setCell ⟨z, 3, none⟩ (.int .i64 y0)).setCell ⟨z, 4, none⟩ (.bool (y1 == 1))).drew := by rw [hW', HT.out.2]; rfl
    rw [← e9]
    clear e9 hW' c0 c1 c2 c3 c4 f0 f1 f2 f3 f4 l0 l1
    exact bodyPost_ret (v := .tuple #[.agg #[.int .i64 t.ix, .int .i64 t.tm, .int .i64 t.sm, .int .i64 t.lv, .bool t.fn], .bool true]) (by simp [results, Tryd.results28, go_sem, d0, d1, d2, d3, d4]) rfl ⟨.inl ⟨t, rfl, HT.out.1⟩, hB9⟩
  · have hno : ∀ s, ¬ IsSnap s 1 b := fun s => one_len (by rw [Hl.out.2.2]; exact hn)
    have e0 : ((n : Int) != 22) = true := bne_iff_ne.2 (by omega)
    obtain ⟨c0, c1, c2, c3, c4⟩ := b0.cells
    have f0 := b0.frozen 0
    have f1 := b0.frozen 1
    have f2 := b0.frozen 2
    have f3 := b0.frozen 3
    have f4 := b0.frozen 4
    rw [hw0, hz] at c0 c1 c2 c3 c4 f0 f1 f2 f3 f4
    have HF := Lib.hid hno
    clear hno hw0 hz hB0 b0
    go_enter Tryd.func28, Tryd.ntmps28
    go_wp2_with fail
    rw [← H0.out.1, ← H0.out.2.1]
    obtain ⟨d0, d1, d2, d3, d4⟩ := H0.out.2.2.2.cells
    clear c0 c1 c2 c3 c4 f0 f1 f2 f3 f4
    exact bodyPost_ret (v := .tuple #[.agg #[.int .i64 0, .int .i64 0, .int .i64 0, .int .i64 0, .bool false], .bool false]) (by simp [results, Tryd.results28, go_sem, d0, d1, d2, d3, d4, noneP]) rfl ⟨.inr ⟨rfl, HF.out⟩, H0.out.2.2.1⟩

end Go.Proofs.YtdggacabjlengaaDoor
