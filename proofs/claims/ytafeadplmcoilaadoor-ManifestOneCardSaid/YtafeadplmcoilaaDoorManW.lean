/-
  manifest.Same, Own, the document's Own: their contracts; a manifest's box written whole.
-/
import Derived.Test.YtafeadplmcoilaaDoorManO
import Derived.Test.YtafeadplmcoilaaDoorIdM
import Derived.Lib.SliceRun
namespace Go.Proofs.YtafeadplmcoilaaDoor
open Go.RowKit Go.Maps
set_option linter.unusedVariables false
set_option linter.unusedSimpArgs false

theorem BoxM.frozen {W : World} {z : Nat} {m : ManP} {v : Value} (h : BoxM W z m v) (i : Nat) : W.frozen? ⟨z, i, none⟩ = false := by
  simp [World.frozen?, show W.heap[z]? = _ from h]
theorem heap_setM {W : World} {z i : Nat} {t : TypeId} {cs : Array Value} {fz : Nat × Nat} (h : W.heap[z]? = some (.cells cs t fz)) (v : Value) : (W.setCell ⟨z, i, none⟩ v).heap[z]? = some (.cells (cs.setIfInBounds i v) t fz) := by
  obtain ⟨hlt, hk⟩ := Array.getElem?_eq_some_iff.1 h
  show (W.heap.modify z _)[z]? = _
  rw [Array.getElem?_eq_getElem (by rw [Array.size_modify]; exact hlt), Array.getElem_modify_self, hk]
  rfl
/-- A whole manifest written into a box. -/
def putM (W : World) (z : Nat) (m : ManP) (v : Value) : World := (((((W.setCell ⟨z, 0, none⟩ (.int .i64 m.nx)).setCell ⟨z, 1, none⟩ (.int .i64 m.tm)).setCell ⟨z, 2, none⟩ (.int .i64 m.vt)).setCell ⟨z, 3, none⟩ (.int .i64 m.ss)).setCell ⟨z, 4, none⟩ (.int .i64 m.sf)).setCell ⟨z, 5, none⟩ v
theorem putM_box {W : World} {z : Nat} {t : ManP} {u : Value} (h : BoxM W z t u) (m : ManP) (v : Value) : BoxM (putM W z m v) z m v := heap_setM (heap_setM (heap_setM (heap_setM (heap_setM (heap_setM h _) _) _) _) _) _
theorem putM_below {w W : World} {z B : Nat} (hz : B ≤ z) (m : ManP) (v : Value) (h : Below B w W) : Below B w (putM W z m v) :=
  (((((h.setCell (p := ⟨z, 0, none⟩) hz _).setCell (p := ⟨z, 1, none⟩) hz _).setCell (p := ⟨z, 2, none⟩) hz _).setCell (p := ⟨z, 3, none⟩) hz _).setCell (p := ⟨z, 4, none⟩) hz _).setCell (p := ⟨z, 5, none⟩) hz _
theorem putM_other {W : World} {z y : Nat} (m : ManP) (v : Value) (hne : y ≠ z) : (putM W z m v).heap[y]? = W.heap[y]? := by
  unfold putM
  rw [Below.heap_setCell _ _ _ y (by simpa using hne), Below.heap_setCell _ _ _ y (by simpa using hne), Below.heap_setCell _ _ _ y (by simpa using hne), Below.heap_setCell _ _ _ y (by simpa using hne), Below.heap_setCell _ _ _ y (by simpa using hne), Below.heap_setCell _ _ _ y (by simpa using hne)]
theorem putM_size (W : World) (z : Nat) (m : ManP) (v : Value) : (putM W z m v).heap.size = W.heap.size := by simp [putM]
/-- The field of segments alone. -/
theorem put5_box {W : World} {z : Nat} {m : ManP} {u : Value} (h : BoxM W z m u) (v : Value) : BoxM (W.setCell ⟨z, 5, none⟩ v) z m v := heap_setM h _

theorem info_seg : (Tryd.prog.info? 51).map (fun i => (i.zero, i.size, i.bytes)) = some (some (.agg #[.int .i64 0, .int .i64 0, .int .i64 0, .int .i64 0]), 4, 32) := by kernel_rfl
theorem seg_cells : (Value.agg #[.int .i64 0, .int .i64 0, .int .i64 0, .int .i64 0]).cells.size = 4 := rfl

set_option maxRecDepth 100000 in
set_option maxHeartbeats 2000000 in
theorem equalS_any (l l' : List SegP) (A A' : Option Addr) (n n' c c' : Nat) (w : World) (hS : Sg w w.heap.size A n l) (hS' : Sg w w.heap.size A' n' l') (hn : n ≤ 1000000) (hn' : n' ≤ 1000000) :
    Calls Tryd.prog 47 #[.slice A n c, .slice A' n' c'] w fun e w' => e = .returned (.bool (decide (l = l'))) ∧ Below w.heap.size w w' := by
  have HX := Lib.hid (⟨hS, hS', hS.len, hS'.len⟩ : _ ∧ _ ∧ _ ∧ _)
  clear hS hS'
  by_cases h5 : n = n'
  case neg =>
    have q5 : ((n : Int) != (n' : Int)) = true := by simp; omega
    have Hn := Lib.hid (show decide (l = l') = false from decide_eq_false fun h => h5 (by rw [← HX.out.2.2.1, ← HX.out.2.2.2, h]))
    rw [Hn.out]
    clear h5 Hn
    go_enter Tryd.func47, Tryd.ntmps47
    go_wp2_with fail
    go_ret
    exact ⟨rfl, below_d0 w⟩
  have q5 : ((n : Int) != (n' : Int)) = false := by simp; omega
  have H5 := Lib.hid h5
  clear h5
  go_enter Tryd.func47, Tryd.ntmps47
  go_wp2_with fail
  clear q5
  go_loopw [13] (fun i wr => ∃ k : Nat, k ≤ n ∧ i = .int .i64 k ∧ l.take k = l'.take k ∧ Below w.heap.size w wr) (fun i _ => n - (intOf i).toNat)
  case atStart => exact ⟨0, Nat.zero_le _, rfl, rfl, Below.refl _ _⟩
  obtain ⟨k, hk, rfl, heq, hB⟩ := hrel
  have Heq := Lib.hid heq
  have HB := Lib.hid hB
  clear heq
  by_cases hlt : k < n
  · obtain ⟨b, off, s, rfl, hb, hs, d0, d1, d2, d3⟩ := (HX.out.1.on hB hB.size).at_ hlt
    have hlt' : k < n' := H5.out ▸ hlt
    obtain ⟨b', off', s', rfl, hb', hs', d0', d1', d2', d3'⟩ := (HX.out.2.1.on hB hB.size).at_ hlt'
    by_cases hee : s = s'
    · have Hn := Lib.hid (show l.take (k + 1) = l'.take (k + 1) by rw [List.take_add_one, List.take_add_one, Heq.out, hs, hs', hee])
      have hq : ∀ w, (Op.equalIn 10000 51 (.agg #[.int .i64 s.sq, .int .i64 s.fm, .int .i64 s.fi, .int .i64 s.ct]) (.agg #[.int .i64 s'.sq, .int .i64 s'.fm, .int .i64 s'.fi, .int .i64 s'.ct])).run Tryd.prog w = .ok true w := fun w => by rw [equal_sg, decide_eq_true hee]
      clear hee hs hs' hB
      go_wp2
      go_region
      all_goals
        go_wp2
        go_roundw
        case rel => exact ⟨k + 1, by omega, by go_num, Hn.out, HB.out.drew⟩
        case measure => simp [intOf]; omega
    · have Hn := Lib.hid (show decide (l = l') = false from decide_eq_false fun h => hee (by rw [h, hs'] at hs; exact (Option.some.inj hs).symm))
      have hq : ∀ w, (Op.equalIn 10000 51 (.agg #[.int .i64 s.sq, .int .i64 s.fm, .int .i64 s.fi, .int .i64 s.ct]) (.agg #[.int .i64 s'.sq, .int .i64 s'.fm, .int .i64 s'.fi, .int .i64 s'.ct])).run Tryd.prog w = .ok false w := fun w => by rw [equal_sg, decide_eq_false hee]
      clear hee hs hs' hB
      go_wp2
      go_region
      all_goals
        go_wp2
        go_ret
        exact ⟨by rw [Hn.out]; rfl, HB.out.drew⟩
  · have Hy := Lib.hid (show decide (l = l') = true from decide_eq_true (by
      have h := Heq.out
      have hk' : k = n := by omega
      rwa [hk', List.take_of_length_le (by rw [HX.out.2.2.1]; omega), List.take_of_length_le (by rw [HX.out.2.2.2, ← H5.out]; omega)] at h))
    go_wp2
    go_ret
    exact ⟨by rw [Hy.out]; rfl, HB.out⟩
set_option maxRecDepth 100000 in
set_option maxHeartbeats 4000000 in
theorem sameM_any (m m' : ManP) (A A' : Option Addr) (n n' c c' : Nat) (w : World) (hS : Sg w w.heap.size A n m.sg) (hS' : Sg w w.heap.size A' n' m'.sg) (hn : n ≤ 1000000) (hn' : n' ≤ 1000000) :
    Calls Tryd.prog 25 #[manV m (.slice A n c), manV m' (.slice A' n' c')] w fun e w' => (∃ b, SameM m m' b ∧ e = .returned (.bool b)) ∧ Below w.heap.size w w' := by
  obtain ⟨w1, w2, z, z', hw1, hw2, hz, hz', b2, x1, x2⟩ := box_new2 (w := w) m m' (.slice A n c) (.slice A' n' c')
  have hE := equalS_any m.sg m'.sg A A' n n' c c' w2 (hS.on b2 b2.size) (hS'.on b2 b2.size) hn hn'
  have HW := Lib.hid (⟨hw1, hw2, hz, hz', b2, hE⟩ : _ ∧ _ ∧ _ ∧ _ ∧ _ ∧ _)
  clear x1 x2 b2 hS hS' hw1 hw2 hz hz' hE
  unfold manV
  have hb := Lib.hid (show Below w.heap.size w ((w.alloc (.cells #[.int .i64 m.nx, .int .i64 m.tm, .int .i64 m.vt, .int .i64 m.ss, .int .i64 m.sf, .slice A n c] 26)).alloc (.cells #[.int .i64 m'.nx, .int .i64 m'.tm, .int .i64 m'.vt, .int .i64 m'.ss, .int .i64 m'.sf, .slice A' n' c'] 26)) from by rw [← HW.out.1, ← HW.out.2.1]; exact HW.out.2.2.2.2.1)
  have he : ∀ w, (Op.equalIn 10000 23 (.agg #[.int .i64 m.ss, .int .i64 m.sf]) (.agg #[.int .i64 m'.ss, .int .i64 m'.sf])).run Tryd.prog w = .ok (decide (m.ss = m'.ss ∧ m.sf = m'.sf)) w := fun w => equal_rf _ _ _ _ w
  by_cases h1 : m.nx = m'.nx
  case neg =>
    have q1 : (m.nx == m'.nx) = false := by simpa using h1
    have Hn := Lib.hid (SameM.no (m := m) (m' := m') fun h => h1 (by rw [h]))
    clear h1 he
    go_enter Tryd.func25, Tryd.ntmps25
    go_wp2_with fail
    go_ret
    exact ⟨⟨_, Hn.out, rfl⟩, hb.out⟩
  have q1 : (m.nx == m'.nx) = true := by simp [h1]
  by_cases h2 : m.tm = m'.tm
  case neg =>
    have q2 : (m.tm == m'.tm) = false := by simpa using h2
    have Hn := Lib.hid (SameM.no (m := m) (m' := m') fun h => h2 (by rw [h]))
    clear h1 h2 he
    go_enter Tryd.func25, Tryd.ntmps25
    go_wp2_with fail
    go_ret
    exact ⟨⟨_, Hn.out, rfl⟩, hb.out⟩
  have q2 : (m.tm == m'.tm) = true := by simp [h2]
  by_cases h3 : m.vt = m'.vt
  case neg =>
    have q3 : (m.vt == m'.vt) = false := by simpa using h3
    have Hn := Lib.hid (SameM.no (m := m) (m' := m') fun h => h3 (by rw [h]))
    clear h1 h2 h3 he
    go_enter Tryd.func25, Tryd.ntmps25
    go_wp2_with fail
    go_ret
    exact ⟨⟨_, Hn.out, rfl⟩, hb.out⟩
  have q3 : (m.vt == m'.vt) = true := by simp [h3]
  by_cases h4 : m.ss = m'.ss ∧ m.sf = m'.sf
  case neg =>
    replace he : ∀ w, (Op.equalIn 10000 23 (.agg #[.int .i64 m.ss, .int .i64 m.sf]) (.agg #[.int .i64 m'.ss, .int .i64 m'.sf])).run Tryd.prog w = .ok false w := fun w => by rw [he, decide_eq_false h4]
    have Hn := Lib.hid (SameM.no (m := m) (m' := m') fun h => h4 (by rw [h]; exact ⟨rfl, rfl⟩))
    clear h1 h2 h3 h4
    go_enter Tryd.func25, Tryd.ntmps25
    go_wp2_with fail
    go_ret
    exact ⟨⟨_, Hn.out, rfl⟩, hb.out⟩
  replace he : ∀ w, (Op.equalIn 10000 23 (.agg #[.int .i64 m.ss, .int .i64 m.sf]) (.agg #[.int .i64 m'.ss, .int .i64 m'.sf])).run Tryd.prog w = .ok true w := fun w => by rw [he, decide_eq_true h4]
  have Ha := Lib.hid (show m.sg = m'.sg ↔ m = m' from ⟨man_ext h1 h2 h3 h4, fun h => by rw [h]⟩)
  clear h1 h2 h3 h4
  go_enter Tryd.func25, Tryd.ntmps25
  go_wp2_with fail
  rw [← HW.out.1, ← HW.out.2.1]
  refine Calls.mono HW.out.2.2.2.2.2 ?_
  rintro e w3 ⟨rfl, b3⟩
  obtain ⟨b, hbv⟩ : ∃ b, decide (m.sg = m'.sg) = b := ⟨_, rfl⟩
  rw [hbv]
  have Hy := Lib.hid (show SameM m m' b ∧ Below w.heap.size w w3 from ⟨by rw [← hbv]; unfold SameM; rw [decide_eq_true_iff]; exact Ha.out, HW.out.2.2.2.2.1.trans (b3.mono HW.out.2.2.2.2.1.size)⟩)
  clear hbv b3 q1 q2 q3 he
  go_wp2_with fail
  go_ret
  exact ⟨⟨_, Hy.out.1, rfl⟩, Hy.out.2⟩

/-! ### Own -/
theorem own_at {w w' : World} {base : Nat} {e : TypeId} {size : Nat} {v : Value} {n : Nat} {xs : List Value} (h : w.ownsRow base e size v n xs) (hs : ∀ g, v.ownBlock = some g → w'.heap[g]? = w.heap[g]?) : w'.ownsRow base e size v n xs := by
  refine ⟨h.1, ?_⟩
  rcases h.2 with a | ⟨g, cap, cur, e1, hbg, hh, r⟩
  · exact .inl a
  · exact .inr ⟨g, cap, cur, e1, hbg, (hs g (by rw [e1]; rfl)).trans hh, r⟩
/-- A row of segments of the call's own. -/
abbrev OwnS (w : World) (base : Nat) (v : Value) (n : Nat) (l : List SegP) : Prop := w.ownsRow base 51 4 v n (l.flatMap SegP.cs)
theorem OwnS.sg {w : World} {base n c : Nat} {A : Option Addr} {l : List SegP} (h : OwnS w base (.slice A n c) n l) : Sg w w.heap.size A n l := Row.of_own (by omega) SegP.len h
set_option maxRecDepth 100000 in
set_option maxHeartbeats 4000000 in
theorem rown_any (m : ManP) (A : Option Addr) (n c : Nat) (w : World) (hS : Sg w w.heap.size A n m.sg) (hn : n ≤ 1000000) :
    Calls Tryd.prog 28 #[manV m (.slice A n c)] w fun e w' => (∃ A' c', e = .returned (manV m (.slice A' n c')) ∧ n ≤ c' ∧ OwnS w' w.heap.size (.slice A' n c') n m.sg) ∧ Below w.heap.size w w' := by
  obtain ⟨i0, hi, hz0, hz1, hz2⟩ := info_partsV info_seg
  have hsrc := hS.source (by omega) SegP.len SegP.one
  have Hl := Lib.hid hS.len
  obtain ⟨w1, z, hw1, hz, b1, x1⟩ := box_new (w := w) m (.slice A n c)
  obtain ⟨z', hz'⟩ : ∃ z', z' = w1.heap.size := ⟨_, rfl⟩
  obtain ⟨w2, hw2⟩ : ∃ w2, w2 = w1.alloc (.cells #[.int .i64 0, .int .i64 0, .int .i64 0, .int .i64 0, .int .i64 0, .slice none 0 0] 26) := ⟨_, rfl⟩
  have b2 : Below w1.heap.size w1 w2 := by rw [hw2]; exact below_al (below_d0 w1) _
  have x2 : BoxM w2 z' noneM (.slice none 0 0) := by rw [hw2, hz']; exact BoxM.new w1 noneM _
  have hzz : z + 1 = z' := by rw [hz', hw1, hz]; simp
  obtain ⟨w3, hw3⟩ : ∃ w3, w3 = w2.alloc (.cells #[] 51) := ⟨_, rfl⟩
  have b3 : Below w2.heap.size w2 w3 := by rw [hw3]; exact below_al (below_d0 w2) _
  have hB2 : Below w.heap.size w w2 := b1.trans (b2.mono b1.size)
  have hB3 : Below w.heap.size w w3 := hB2.trans (b3.mono hB2.size)
  have hz2' : z' + 1 = w2.heap.size := by rw [hz', hw2]; simp
  have own3 : w3.ownsRow w.heap.size 51 4 (.slice (some ⟨z' + 1, 0, none⟩) 0 0) 0 [] := by rw [hw3]; exact own_emptyG hz2' hB2.size
  have x3 := (x1.below b2).below b3
  have y3 := x2.below b3
  obtain ⟨c0, c1, c2, c3, c4, c5⟩ := x3.cells
  have HW := Lib.hid (⟨hw1, hw2, hw3, hz, hz', hzz, hz2', hB3, x3, y3, hsrc.on hB3⟩ : _ ∧ _ ∧ _ ∧ _ ∧ _ ∧ _ ∧ _ ∧ _ ∧ _ ∧ _ ∧ _)
  clear b1 x1 b2 x2 b3 hB2 hB3 x3 y3 hsrc hS hw1 hw2 hz' hzz hz2' hw3 hz c0 c1 c2 c3 c4 c5
  unfold manV
  go_enter Tryd.func28, Tryd.ntmps28
  go_wp2_with (at_builtin; refine hold ?_)
  rw [← HW.out.1, ← HW.out.2.1, ← HW.out.2.2.1, ← HW.out.2.2.2.1, HW.out.2.2.2.2.2.1]
  refine unhold (wpList_append (.tmp 3) (.tmp 5) 24 Tryd.underlying24 hi hz0 hz1 hz2 seg_cells (by omega) own3 HW.out.2.2.2.2.2.2.2.2.2.2 (by unfold maxLen; omega) (by omega) HW.out.2.2.2.2.2.2.2.1.size rfl rfl rfl rfl ?_)
  intro v1 w5 L3
  obtain ⟨-, -, -, hz, hz', hzz, hz2', hB3, x3, y3, -⟩ := HW.out
  have hg := L3.2.1
  simp only [Value.ownBlock] at hg
  have x5 : BoxM w5 z m (.slice A n c) := (hg.block z x3.lt (by simp; omega)).trans x3
  have y5 : BoxM w5 z' noneM (.slice none 0 0) := (hg.block z' y3.lt (by simp)).trans y3
  have hB5 : Below w.heap.size w w5 := L3.below hB3 hB3.size (fun g hg => by simp [Value.ownBlock] at hg; omega)
  obtain ⟨own5, hblk⟩ : OwnS w5 w.heap.size v1 n m.sg ∧ (∀ g, v1.ownBlock = some g → g ≠ z ∧ g ≠ z') := by
    refine ⟨by have h := L3.1; rwa [Nat.zero_add, List.nil_append] at h, fun g hgv => ?_⟩
    rcases L3.2.2 with e | e
    · rw [hgv] at e
      simp [Value.ownBlock] at e
      omega
    · rw [hgv] at e
      have := Option.some.inj e
      have h1 := x3.lt
      have h2 := y3.lt
      omega
  obtain ⟨A1, e1, rfl, hne1⟩ := own_slice own5
  obtain ⟨c0, c1, c2, c3, c4, c5⟩ := x5.cells
  obtain ⟨d0, d1, d2, d3, d4, d5⟩ := y5.cells
  have f5 := x5.frozen 5
  have g0 := y5.frozen 0
  have g1 := y5.frozen 1
  have g2 := y5.frozen 2
  have g3 := y5.frozen 3
  have g4 := y5.frozen 4
  have g5 := y5.frozen 5
  have hne : ¬ z' = z := by omega
  have hne' : ¬ z = z' := by omega
  have HY := Lib.hid (⟨x5, y5, hB5, own5, hblk, (show w.heap.size ≤ z ∧ w.heap.size ≤ z' by omega), hne1⟩ : _ ∧ _ ∧ _ ∧ _ ∧ _ ∧ _ ∧ _)
  clear L3 hg hne1 own3 x5 y5 hB5 own5 hblk hz hz' hzz hz2' hB3 x3 y3
  go_wp2_with fail
  obtain ⟨x5, y5, hB5, own5, hblk, hzs, hnc⟩ := HY.out
  have y6 : BoxM (w5.setCell ⟨z, 5, none⟩ (.slice A1 n e1)) z' noneM (.slice none 0 0) := (Below.heap_setCell _ _ _ z' (by simpa using hne)).trans y5
  obtain ⟨W', hW'⟩ : ∃ W', W' = putM (w5.setCell ⟨z, 5, none⟩ (.slice A1 n e1)) z' m (.slice A1 n e1) := ⟨_, rfl⟩
  have b9 := putM_box y6 m (.slice A1 n e1)
  have hB9 := putM_below hzs.2 m (.slice A1 n e1) (hB5.setCell (p := ⟨z, 5, none⟩) hzs.1 (.slice A1 n e1))
  have own9 : OwnS W' w.heap.size (.slice A1 n e1) n m.sg := own_at own5 fun g hg => by
    rw [hW', putM_other _ _ (hblk g hg).2, Below.heap_setCell _ _ _ g (by simpa using (hblk g hg).1)]
  rw [← hW'] at b9 hB9
  have e9 : W' = ((((((w5.setCell ⟨z, 5, none⟩ (.slice A1 n e1)).setCell ⟨z', 0, none⟩ (.int .i64 m.nx)).setCell ⟨z', 1, none⟩ (.int .i64 m.tm)).setCell ⟨z', 2, none⟩ (.int .i64 m.vt)).setCell ⟨z', 3, none⟩ (.int .i64 m.ss)).setCell ⟨z', 4, none⟩ (.int .i64 m.sf)).setCell ⟨z', 5, none⟩ (.slice A1 n e1) := hW'
  rw [← e9]
  clear e9 hW' c0 c1 c2 c3 c4 c5 d0 d1 d2 d3 d4 d5 f5 g0 g1 g2 g3 g4 g5
  obtain ⟨d0, d1, d2, d3, d4, d5⟩ := b9.cells
  exact bodyPost_ret (v := .agg #[.int .i64 m.nx, .int .i64 m.tm, .int .i64 m.vt, .int .i64 m.ss, .int .i64 m.sf, .slice A1 n e1]) (by simp [results, Tryd.results28, go_sem, d0, d1, d2, d3, d4, d5]) rfl ⟨⟨A1, e1, rfl, hnc, own9⟩, hB9⟩

set_option maxRecDepth 100000 in
set_option maxHeartbeats 2000000 in
theorem cloneS_any (l : List SegP) (A : Option Addr) (n c : Nat) (w : World) (hS : Sg w w.heap.size A n l) (hn : n ≤ 1000000) :
    Calls Tryd.prog 48 #[.slice A n c] w fun e w' => (∃ A' c', e = .returned (.slice A' n c') ∧ n ≤ c' ∧ OwnS w' w.heap.size (.slice A' n c') n l) ∧ Below w.heap.size w w' := by
  obtain ⟨i0, hi, hz0, hz1, hz2⟩ := info_partsV info_seg
  rcases A with _ | a
  · obtain ⟨rfl, rfl⟩ := Row.none_ hS
    have hq : (binOp .eql 24 (.slice none 0 c) (.slice none 0 0)).run Tryd.prog w = .ok (.bool true) w := by
      simp only [binOp]
      simp [Op.equal, Op.maxDepth, Lib.run_equalIn_slice_nil w 9999 24 51 none 0 c 0 0 Tryd.underlying24]
    clear hS
    go_enter Tryd.func48, Tryd.ntmps48
    go_wp2_with fail
    go_ret
    exact ⟨⟨none, 0, rfl, Nat.le_refl _, World.ownsRow_nil _ _ _ _⟩, below_d0 w⟩
  have hq : (binOp .eql 24 (.slice (some a) n c) (.slice none 0 0)).run Tryd.prog w = .ok (.bool false) w := by
    simp only [binOp]
    simp [Op.equal, Op.maxDepth, Lib.run_equalIn_slice_nil w 9999 24 51 (some a) n c 0 0 Tryd.underlying24]
  have hsrc := hS.source (by omega) SegP.len SegP.one
  clear hS
  go_enter Tryd.func48, Tryd.ntmps48
  go_wp2_with (at_builtin; refine hold ?_)
  refine unhold (wpList_append (.tmp 5) (.tmp 6) 24 Tryd.underlying24 hi hz0 hz1 hz2 seg_cells (by omega) (own_empty w w.heap.size 51 4 (Nat.le_refl _)) (hsrc.alloc _) (by unfold maxLen; omega) (by omega) (by simp) rfl rfl rfl rfl ?_)
  intro v1 w5 L3
  have hb5 : Below w.heap.size w w5 := L3.below ((Below.refl _ w).alloc (Nat.le_refl _) _) (by simp) (fun g hg => by simp [Value.ownBlock] at hg; omega)
  have own5 : OwnS w5 w.heap.size v1 n l := by have h := L3.1; rwa [Nat.zero_add, List.nil_append] at h
  obtain ⟨A1, c1, rfl, hc1⟩ := own_slice own5
  have HO := Lib.hid (⟨hc1, own5, hb5⟩ : _ ∧ _ ∧ _)
  clear L3 own5 hb5 hc1
  go_wp2_with fail
  go_ret
  exact ⟨⟨A1, c1, rfl, HO.out.1, HO.out.2.1⟩, HO.out.2.2⟩
set_option maxRecDepth 100000 in
set_option maxHeartbeats 4000000 in
theorem own_any (m : ManP) (A : Option Addr) (n c : Nat) (w : World) (hS : Sg w w.heap.size A n m.sg) (hn : n ≤ 1000000) :
    Calls Tryd.prog 26 #[manV m (.slice A n c)] w fun e w' => (∃ A' c', e = .returned (manV m (.slice A' n c')) ∧ n ≤ c' ∧ OwnS w' w.heap.size (.slice A' n c') n m.sg) ∧ Below w.heap.size w w' := by
  obtain ⟨w1, z, hw1, hz, b1, x1⟩ := box_new (w := w) m (.slice A n c)
  obtain ⟨z', hz'⟩ : ∃ z', z' = w1.heap.size := ⟨_, rfl⟩
  obtain ⟨w2, hw2⟩ : ∃ w2, w2 = w1.alloc (.cells #[.int .i64 0, .int .i64 0, .int .i64 0, .int .i64 0, .int .i64 0, .slice none 0 0] 26) := ⟨_, rfl⟩
  have b2 : Below w1.heap.size w1 w2 := by rw [hw2]; exact below_al (below_d0 w1) _
  have x2 : BoxM w2 z' noneM (.slice none 0 0) := by rw [hw2, hz']; exact BoxM.new w1 noneM _
  have hzz : z + 1 = z' := by rw [hz', hw1, hz]; simp
  have hB2 : Below w.heap.size w w2 := b1.trans (b2.mono b1.size)
  have hs2 : z' < w2.heap.size := x2.lt
  have HW := Lib.hid (⟨hw1, hw2, hz, hzz, hB2, x1.below b2, x2, hs2, cloneS_any m.sg A n c w2 (hS.on hB2 hB2.size) hn⟩ : _ ∧ _ ∧ _ ∧ _ ∧ _ ∧ _ ∧ _ ∧ _ ∧ _)
  clear b1 x1 b2 x2 hB2 hS hw1 hw2 hz' hzz hz hs2
  unfold manV
  go_enter Tryd.func26, Tryd.ntmps26
  go_wp2_with fail
  rw [← HW.out.1, ← HW.out.2.1, ← HW.out.2.2.1, HW.out.2.2.2.1]
  refine Calls.mono HW.out.2.2.2.2.2.2.2.2 ?_
  rintro e w5 ⟨⟨A1, e1, rfl, hnc, own5⟩, b5⟩
  obtain ⟨-, -, hz, hzz, hB2, x2, y2, hs2, -⟩ := HW.out
  have x5 := x2.below b5
  have y5 := y2.below b5
  have hB5 := hB2.trans (b5.mono hB2.size)
  obtain ⟨c0, c1, c2, c3, c4, c5⟩ := x5.cells
  obtain ⟨d0, d1, d2, d3, d4, d5⟩ := y5.cells
  have f5 := x5.frozen 5
  have g0 := y5.frozen 0
  have g1 := y5.frozen 1
  have g2 := y5.frozen 2
  have g3 := y5.frozen 3
  have g4 := y5.frozen 4
  have g5 := y5.frozen 5
  have hne : ¬ z' = z := by omega
  have hne' : ¬ z = z' := by omega
  have HY := Lib.hid (⟨y5, hB5, own5, (show w.heap.size ≤ z ∧ w.heap.size ≤ z' ∧ z < z' by omega), hnc, hs2, hB2.size⟩ : _ ∧ _ ∧ _ ∧ _ ∧ _ ∧ _ ∧ _)
  clear x5 y5 hB5 own5 hz hzz hB2 x2 y2 b5 hnc hs2
  go_wp2_with fail
  obtain ⟨y5, hB5, own5, hzs, hnc, hs2, hsz⟩ := HY.out
  have y6 : BoxM (w5.setCell ⟨z, 5, none⟩ (.slice A1 n e1)) z' noneM (.slice none 0 0) := (Below.heap_setCell _ _ _ z' (by simpa using hne)).trans y5
  obtain ⟨W', hW'⟩ : ∃ W', W' = putM (w5.setCell ⟨z, 5, none⟩ (.slice A1 n e1)) z' m (.slice A1 n e1) := ⟨_, rfl⟩
  have b9 := putM_box y6 m (.slice A1 n e1)
  have hB9 := putM_below hzs.2.1 m (.slice A1 n e1) (hB5.setCell (p := ⟨z, 5, none⟩) hzs.1 (.slice A1 n e1))
  have own9 : OwnS W' w.heap.size (.slice A1 n e1) n m.sg := by
    refine ⟨own5.1, ?_⟩
    rcases own5.2 with a | ⟨g, cap, cur, e2, hbg, hh, r⟩
    · exact .inl a
    · refine .inr ⟨g, cap, cur, e2, by omega, ?_, r⟩
      rw [hW', putM_other _ _ (by omega), Below.heap_setCell _ _ _ g (by simp; omega)]
      exact hh
  rw [← hW'] at b9 hB9
  have e9 : W' = ((((((w5.setCell ⟨z, 5, none⟩ (.slice A1 n e1)).setCell ⟨z', 0, none⟩ (.int .i64 m.nx)).setCell ⟨z', 1, none⟩ (.int .i64 m.tm)).setCell ⟨z', 2, none⟩ (.int .i64 m.vt)).setCell ⟨z', 3, none⟩ (.int .i64 m.ss)).setCell ⟨z', 4, none⟩ (.int .i64 m.sf)).setCell ⟨z', 5, none⟩ (.slice A1 n e1) := hW'
  rw [← e9]
  clear e9 hW' c0 c1 c2 c3 c4 c5 d0 d1 d2 d3 d4 d5 f5 g0 g1 g2 g3 g4 g5
  obtain ⟨d0, d1, d2, d3, d4, d5⟩ := b9.cells
  exact bodyPost_ret (v := .agg #[.int .i64 m.nx, .int .i64 m.tm, .int .i64 m.vt, .int .i64 m.ss, .int .i64 m.sf, .slice A1 n e1]) (by simp [results, Tryd.results26, go_sem, d0, d1, d2, d3, d4, d5]) rfl ⟨⟨A1, e1, rfl, hnc, own9⟩, hB9⟩
end Go.Proofs.YtafeadplmcoilaaDoor
