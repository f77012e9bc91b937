/-
  Tuples' boxes; the document's Own (of tuples): its contract.
-/
import Derived.Test.YtbhnlmlaebngmaaTupD
namespace Go.Proofs.Ytbhnlmlaebngmaa
open Go.RowKit
set_option linter.unusedVariables false
set_option linter.unusedSimpArgs false
/-- A tuple whose entries' slice is v. -/
def tupV (t : TupP) (v : Value) : Value := .agg #[.int .i64 t.sn.ix, .int .i64 t.sn.tm, .int .i64 t.sn.sm, .int .i64 t.sn.lv, .bool t.sn.fn, v, .int .i64 t.tm, .int .i64 t.vt]
def BoxU (W : World) (z : Nat) (t : TupP) (v : Value) : Prop := W.heap[z]? = some (.cells #[.int .i64 t.sn.ix, .int .i64 t.sn.tm, .int .i64 t.sn.sm, .int .i64 t.sn.lv, .bool t.sn.fn, v, .int .i64 t.tm, .int .i64 t.vt] 26 (0, 0))
section
variable {W W' : World} {z : Nat} {t : TupP} {v : Value}
theorem BoxU.cells (h : BoxU W z t v) : W.cell? ⟨z, 0, none⟩ = some (.int .i64 t.sn.ix) ∧ W.cell? ⟨z, 1, none⟩ = some (.int .i64 t.sn.tm) ∧ W.cell? ⟨z, 2, none⟩ = some (.int .i64 t.sn.sm) ∧ W.cell? ⟨z, 3, none⟩ = some (.int .i64 t.sn.lv) ∧ W.cell? ⟨z, 4, none⟩ = some (.bool t.sn.fn) ∧ W.cell? ⟨z, 5, none⟩ = some (v) ∧ W.cell? ⟨z, 6, none⟩ = some (.int .i64 t.tm) ∧ W.cell? ⟨z, 7, none⟩ = some (.int .i64 t.vt) := by
  refine ⟨?_, ?_, ?_, ?_, ?_, ?_, ?_, ?_⟩ <;> simp [World.cell?, show W.heap[z]? = _ from h]
theorem BoxU.frozen (h : BoxU W z t v) (i : Nat) : W.frozen? ⟨z, i, none⟩ = false := by
  simp [World.frozen?, show W.heap[z]? = _ from h]
theorem BoxU.lt (h : BoxU W z t v) : z < W.heap.size := (Array.getElem?_eq_some_iff.1 h).1
theorem BoxU.below (h : BoxU W z t v) (hb : Below W.heap.size W W') : BoxU W' z t v := (hb.block z h.lt).trans h
theorem BoxU.new (w : World) (t : TupP) (v : Value) : BoxU (w.alloc (.cells #[.int .i64 t.sn.ix, .int .i64 t.sn.tm, .int .i64 t.sn.sm, .int .i64 t.sn.lv, .bool t.sn.fn, v, .int .i64 t.tm, .int .i64 t.vt] 26)) w.heap.size t v := World.alloc_heap_new w _
end
/-- A whole tuple written into a box. -/
def putU (W : World) (z : Nat) (t : TupP) (v : Value) : World := ((((((((W.setCell ⟨z, 0, none⟩ (.int .i64 t.sn.ix)).setCell ⟨z, 1, none⟩ (.int .i64 t.sn.tm)).setCell ⟨z, 2, none⟩ (.int .i64 t.sn.sm)).setCell ⟨z, 3, none⟩ (.int .i64 t.sn.lv)).setCell ⟨z, 4, none⟩ (.bool t.sn.fn)).setCell ⟨z, 5, none⟩ (v)).setCell ⟨z, 6, none⟩ (.int .i64 t.tm)).setCell ⟨z, 7, none⟩ (.int .i64 t.vt))
theorem putU_box {W : World} {z : Nat} {s : TupP} {u : Value} (h : BoxU W z s u) (t : TupP) (v : Value) : BoxU (putU W z t v) z t v := by
  have h8 := heap_set (i := 7) (heap_set (i := 6) (heap_set (i := 5) (heap_set (i := 4) (heap_set (i := 3) (heap_set (i := 2) (heap_set (i := 1) (heap_set (i := 0) ((show W.heap[z]? = _ from h)) (.int .i64 t.sn.ix)) (.int .i64 t.sn.tm)) (.int .i64 t.sn.sm)) (.int .i64 t.sn.lv)) (.bool t.sn.fn)) (v)) (.int .i64 t.tm)) (.int .i64 t.vt)
  simp only [List.setIfInBounds_toArray, List.set_cons_zero, List.set_cons_succ] at h8
  exact h8
theorem putU_below {w W : World} {z B : Nat} (hz : B ≤ z) (t : TupP) (v : Value) (h : Below B w W) : Below B w (putU W z t v) := ((((((((h.setCell (p := ⟨z, 0, none⟩) hz _).setCell (p := ⟨z, 1, none⟩) hz _).setCell (p := ⟨z, 2, none⟩) hz _).setCell (p := ⟨z, 3, none⟩) hz _).setCell (p := ⟨z, 4, none⟩) hz _).setCell (p := ⟨z, 5, none⟩) hz _).setCell (p := ⟨z, 6, none⟩) hz _).setCell (p := ⟨z, 7, none⟩) hz _)
theorem putU_other {W : World} {z y : Nat} (t : TupP) (v : Value) (hne : y ≠ z) : (putU W z t v).heap[y]? = W.heap[y]? := by
  unfold putU
  rw [Below.heap_setCell _ _ _ y (by simpa using hne), Below.heap_setCell _ _ _ y (by simpa using hne), Below.heap_setCell _ _ _ y (by simpa using hne), Below.heap_setCell _ _ _ y (by simpa using hne), Below.heap_setCell _ _ _ y (by simpa using hne), Below.heap_setCell _ _ _ y (by simpa using hne), Below.heap_setCell _ _ _ y (by simpa using hne), Below.heap_setCell _ _ _ y (by simpa using hne)]
theorem putU_size (W : World) (z : Nat) (t : TupP) (v : Value) : (putU W z t v).heap.size = W.heap.size := by simp [putU]
theorem put5_boxU {W : World} {z : Nat} {t : TupP} {u : Value} (h : BoxU W z t u) (v : Value) : BoxU (W.setCell ⟨z, 5, none⟩ v) z t v := heap_set h _
theorem set_boxU {W : World} {z y i : Nat} {t : TupP} {u x : Value} (h : BoxU W y t u) (hne : y ≠ z) : BoxU (W.setCell ⟨z, i, none⟩ x) y t u := (Below.heap_setCell _ _ _ y (by simpa using hne)).trans h
theorem putU_boxes {W : World} {z y : Nat} {m t : TupP} {u x : Value} (h : BoxU W y t u) (hne : y ≠ z) : BoxU (putU W z m x) y t u := (putU_other m x hne).trans h
theorem own_at {w w' : World} {base : Nat} {e : TypeId} {size : Nat} {v : Value} {n : Nat} {xs : List Value} (h : w.ownsRow base e size v n xs) (hs : ∀ g, v.ownBlock = some g → w'.heap[g]? = w.heap[g]?) : w'.ownsRow base e size v n xs := by
  refine ⟨h.1, ?_⟩
  rcases h.2 with a | ⟨g, cap, cur, e1, hbg, hh, r⟩
  · exact .inl a
  · exact .inr ⟨g, cap, cur, e1, hbg, (hs g (by rw [e1]; rfl)).trans hh, r⟩
theorem own_keep {base size n : Nat} {e : TypeId} {v : Value} {xs : List Value} {w w' : World} (h : w.ownsRow base e size v n xs) (hb : Below w.heap.size w w') : w'.ownsRow base e size v n xs := own_at h fun g hg => hb.block g (h.lt g hg).2
theorem own_low {w : World} {base base' size n : Nat} {e : TypeId} {v : Value} {xs : List Value} (h : w.ownsRow base e size v n xs) (hb : base' ≤ base) : w.ownsRow base' e size v n xs := by
  refine ⟨h.1, ?_⟩
  rcases h.2 with a | ⟨g, cap, cur, e1, hbg, r⟩
  · exact .inl a
  · exact .inr ⟨g, cap, cur, e1, Nat.le_trans hb hbg, r⟩
/-- A row of entries of the call's own. -/
abbrev OwnE (w : World) (base : Nat) (v : Value) (n : Nat) (l : List EnP) : Prop := w.ownsRow base 39 3 v n (l.flatMap EnP.cs)
theorem OwnE.es {w : World} {base n c : Nat} {A : Option Addr} {l : List EnP} (h : OwnE w base (.slice A n c) n l) : Es w w.heap.size A n l := Row.of_own (by omega) EnP.len h
theorem own_boxU {W : World} {z base n : Nat} {t : TupP} {u v : Value} {l : List EnP} (hz : BoxU W z t u) (h : OwnE W base v n l) : ∀ g, v.ownBlock = some g → g ≠ z := fun g hg e => by
  subst e
  rcases h.2 with ⟨rfl, _⟩ | ⟨g', cap, cur, rfl, _, hh, _⟩
  · cases hg
  · obtain rfl : g' = g := Option.some.inj hg
    have h1 := hh.symm.trans (show W.heap[g']? = _ from hz)
    simp at h1
theorem putU_own {W : World} {z base n : Nat} {m t : TupP} {u v x : Value} {l : List EnP} (hz : BoxU W z t u) (h : OwnE W base v n l) : OwnE (putU W z m x) base v n l := own_at h fun g hg => putU_other m x (own_boxU hz h g hg)
theorem set_ownU {W : World} {z i base n : Nat} {t : TupP} {u v x : Value} {l : List EnP} (hz : BoxU W z t u) (h : OwnE W base v n l) : OwnE (W.setCell ⟨z, i, none⟩ x) base v n l := own_at h fun g hg => Below.heap_setCell _ _ _ g (by simpa using own_boxU hz h g hg)
theorem info_entry : (Try.prog.info? 39).map (fun i => (i.zero, i.size, i.bytes)) = some (some (.agg #[.int .i64 0, .int .i64 0, .int .i64 0]), 3, 24) := by kernel_rfl
theorem entry_cells : (Value.agg #[.int .i64 0, .int .i64 0, .int .i64 0]).cells.size = 3 := rfl
theorem box_newU {w : World} (t : TupP) (v : Value) : ∃ w1 z, w1 = w.alloc (.cells #[.int .i64 t.sn.ix, .int .i64 t.sn.tm, .int .i64 t.sn.sm, .int .i64 t.sn.lv, .bool t.sn.fn, v, .int .i64 t.tm, .int .i64 t.vt] 26) ∧ z = w.heap.size ∧ Below w.heap.size w w1 ∧ BoxU w1 z t v := ⟨_, _, rfl, rfl, (Below.refl _ _).alloc (Nat.le_refl _) _, BoxU.new _ _ _⟩
set_option maxRecDepth 100000 in
set_option maxHeartbeats 4000000 in
theorem rownT_any (t : TupP) (A : Option Addr) (n c : Nat) (w : World) (hS : Es w w.heap.size A n t.lg) (hn : n ≤ 1000000) :
    Calls Try.prog 41 #[tupV t (.slice A n c)] w fun e w' => (∃ A' c', e = .returned (tupV t (.slice A' n c')) ∧ n ≤ c' ∧ OwnE w' w.heap.size (.slice A' n c') n t.lg) ∧ Below w.heap.size w w' := by
  obtain ⟨i0, hi, hz0, hz1, hz2⟩ := info_partsV info_entry
  have hsrc := Row.source (by omega) EnP.len EnP.one hS
  have Hl := Lib.hid hS.len
  obtain ⟨w1, z, hw1, hz, b1, x1⟩ := box_newU (w := w) t (.slice A n c)
  obtain ⟨z', hz'⟩ : ∃ z', z' = w1.heap.size := ⟨_, rfl⟩
  obtain ⟨w2, hw2⟩ : ∃ w2, w2 = w1.alloc (.cells #[.int .i64 0, .int .i64 0, .int .i64 0, .int .i64 0, .bool false, .slice none 0 0, .int .i64 0, .int .i64 0] 26) := ⟨_, rfl⟩
  have b2 : Below w1.heap.size w1 w2 := by rw [hw2]; exact below_al (below_d0 w1) _
  have x2 : BoxU w2 z' noneT (.slice none 0 0) := by rw [hw2, hz']; exact BoxU.new w1 noneT _
  have hzz : z + 1 = z' := by rw [hz', hw1, hz]; simp
  obtain ⟨w3, hw3⟩ : ∃ w3, w3 = w2.alloc (.cells #[] 39) := ⟨_, rfl⟩
  have b3 : Below w2.heap.size w2 w3 := by rw [hw3]; exact below_al (below_d0 w2) _
  have hB2 : Below w.heap.size w w2 := b1.trans (b2.mono b1.size)
  have hB3 : Below w.heap.size w w3 := hB2.trans (b3.mono hB2.size)
  have hz2' : z' + 1 = w2.heap.size := by rw [hz', hw2]; simp
  have own3 : w3.ownsRow w.heap.size 39 3 (.slice (some ⟨z' + 1, 0, none⟩) 0 0) 0 [] := by rw [hw3]; exact own_emptyG hz2' hB2.size
  have x3 := (x1.below b2).below b3
  have y3 := x2.below b3
  obtain ⟨c0, c1, c2, c3, c4, c5, c6, c7⟩ := x3.cells
  have HW := Lib.hid (⟨hw1, hw2, hw3, hz, hz', hzz, hz2', hB3, x3, y3, hsrc.on hB3⟩ : _ ∧ _ ∧ _ ∧ _ ∧ _ ∧ _ ∧ _ ∧ _ ∧ _ ∧ _ ∧ _)
  clear b1 x1 b2 x2 b3 hB2 hB3 x3 y3 hsrc hS hw1 hw2 hz' hzz hz2' hw3 hz c0 c1 c2 c3 c4 c5 c6 c7
  unfold tupV
  go_enter Try.func41, Try.ntmps41
  go_wp2_with (at_builtin; refine hold ?_)
  rw [← HW.out.1, ← HW.out.2.1, ← HW.out.2.2.1, ← HW.out.2.2.2.1, HW.out.2.2.2.2.2.1]
  refine unhold (wpList_append (.tmp 3) (.tmp 5) 24 Try.underlying24 hi hz0 hz1 hz2 entry_cells (by omega) own3 HW.out.2.2.2.2.2.2.2.2.2.2 (by unfold maxLen; omega) (by omega) HW.out.2.2.2.2.2.2.2.1.size rfl rfl rfl rfl ?_)
  intro v1 w5 L3
  obtain ⟨-, -, -, hz, hz', hzz, hz2', hB3, x3, y3, -⟩ := HW.out
  have hg := L3.2.1
  simp only [Value.ownBlock] at hg
  have x5 : BoxU w5 z t (.slice A n c) := (hg.block z x3.lt (by simp; omega)).trans x3
  have y5 : BoxU w5 z' noneT (.slice none 0 0) := (hg.block z' y3.lt (by simp)).trans y3
  have hB5 : Below w.heap.size w w5 := L3.below hB3 hB3.size (fun g hg => by simp [Value.ownBlock] at hg; omega)
  have own5 : OwnE w5 w.heap.size v1 n t.lg := by have h := L3.1; rwa [Nat.zero_add, List.nil_append] at h
  obtain ⟨A1, e1, rfl, hne1⟩ := own_slice own5
  obtain ⟨c0, c1, c2, c3, c4, c5, c6, c7⟩ := x5.cells
  obtain ⟨d0, d1, d2, d3, d4, d5, d6, d7⟩ := y5.cells
  have f5 := x5.frozen 5
  have g0 := y5.frozen 0
  have g1 := y5.frozen 1
  have g2 := y5.frozen 2
  have g3 := y5.frozen 3
  have g4 := y5.frozen 4
  have g5 := y5.frozen 5
  have g6 := y5.frozen 6
  have g7 := y5.frozen 7
  have hne : ¬ z' = z := by omega
  have hne' : ¬ z = z' := by omega
  have HY := Lib.hid (⟨x5, y5, hB5, own5, (show w.heap.size ≤ z ∧ w.heap.size ≤ z' by omega), hne1⟩ : _ ∧ _ ∧ _ ∧ _ ∧ _ ∧ _)
  clear L3 hg hne1 own3 x5 y5 hB5 own5 hz hz' hzz hz2' hB3 x3 y3
  go_wp2_with fail
  obtain ⟨x5, y5, hB5, own5, hzs, hnc⟩ := HY.out
  have y6 : BoxU (w5.setCell ⟨z, 5, none⟩ (.slice A1 n e1)) z' noneT (.slice none 0 0) := set_boxU y5 hne
  have own6 := set_ownU (i := 5) (x := .slice A1 n e1) x5 own5
  obtain ⟨W', hW'⟩ : ∃ W', W' = putU (w5.setCell ⟨z, 5, none⟩ (.slice A1 n e1)) z' t (.slice A1 n e1) := ⟨_, rfl⟩
  have b9 := putU_box y6 t (.slice A1 n e1)
  have hB9 := putU_below hzs.2 t (.slice A1 n e1) (hB5.setCell (p := ⟨z, 5, none⟩) hzs.1 (.slice A1 n e1))
  have own9 : OwnE W' w.heap.size (.slice A1 n e1) n t.lg := by rw [hW']; exact putU_own y6 own6
  rw [← hW'] at b9 hB9
  have e9 : W' = (((((((((w5.setCell ⟨z, 5, none⟩ (.slice A1 n e1)).setCell ⟨z', 0, none⟩ (.int .i64 t.sn.ix)).setCell ⟨z', 1, none⟩ (.int .i64 t.sn.tm)).setCell ⟨z', 2, none⟩ (.int .i64 t.sn.sm)).setCell ⟨z', 3, none⟩ (.int .i64 t.sn.lv)).setCell ⟨z', 4, none⟩ (.bool t.sn.fn)).setCell ⟨z', 5, none⟩ (.slice A1 n e1)).setCell ⟨z', 6, none⟩ (.int .i64 t.tm)).setCell ⟨z', 7, none⟩ (.int .i64 t.vt)) := hW'
  rw [← e9]
  clear e9 hW' c0 c1 c2 c3 c4 c5 c6 c7 d0 d1 d2 d3 d4 d5 d6 d7 f5 g0 g1 g2 g3 g4 g5 g6 g7
  obtain ⟨d0, d1, d2, d3, d4, d5, d6, d7⟩ := b9.cells
  exact bodyPost_ret (v := .agg #[.int .i64 t.sn.ix, .int .i64 t.sn.tm, .int .i64 t.sn.sm, .int .i64 t.sn.lv, .bool t.sn.fn, .slice A1 n e1, .int .i64 t.tm, .int .i64 t.vt]) (by simp [results, Try.results41, go_sem, d0, d1, d2, d3, d4, d5, d6, d7]) rfl ⟨⟨A1, e1, rfl, hnc, own9⟩, hB9⟩
end Go.Proofs.Ytbhnlmlaebngmaa
