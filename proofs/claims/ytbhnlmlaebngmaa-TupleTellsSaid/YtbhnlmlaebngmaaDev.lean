/-
  Package tuple: Append, Cut, Save, Install, Hard; all of the contracts that the laws want.
-/
import Derived.Test.YtbhnlmlaebngmaaTupH
namespace Go.Proofs.Ytbhnlmlaebngmaa
open Go.RowKit Go.Shelf
set_option linter.unusedVariables false
set_option linter.unusedSimpArgs false
set_option maxRecDepth 100000 in
set_option maxHeartbeats 8000000 in
theorem append12 (t : TupP) (A : Option Addr) (n c : Nat) (A' : Option Addr) (m c' : Nat) (l : List EnP) (w : World) (hS : Es w w.heap.size A n t.lg) (hn : n ≤ 100000) (hL : Es w w.heap.size A' m l) (hm : m ≤ 100000) :
    Calls Try.prog 10 #[tupV t (.slice A n c), .slice A' m c'] w (OutF (AppendIs t l) w.heap.size w) := by
  have hmf : ∀ (fn : Fn) (first cap : Array Value) (w : World), (Instr.makeFunc fn first cap).run Try.prog w = .ok (.func fn first cap) w := fun _ _ _ _ => rfl
  obtain ⟨z1, hz1⟩ : ∃ z, z = w.heap.size := ⟨_, rfl⟩
  obtain ⟨w1, hw1⟩ : ∃ x, x = w.alloc (.cells #[.int .i64 t.sn.ix, .int .i64 t.sn.tm, .int .i64 t.sn.sm, .int .i64 t.sn.lv, .bool t.sn.fn, .slice A n c, .int .i64 t.tm, .int .i64 t.vt] 26) := ⟨_, rfl⟩
  have bb : Below w.heap.size w w1 := by rw [hw1]; exact below_al (below_d0 _) _
  have bz : BoxU w1 z1 t (.slice A n c) := by rw [hw1, hz1]; exact BoxU.new w t _
  replace hS := hS.on bb bb.size
  replace hL := hL.on bb bb.size
  have B1 := bb
  clear bb
  obtain ⟨z2, hz2⟩ : ∃ z, z = w1.heap.size := ⟨_, rfl⟩
  obtain ⟨w2, hw2⟩ : ∃ x, x = w1.alloc (.cells #[.slice A' m c'] 24) := ⟨_, rfl⟩
  have bb : Below w1.heap.size w1 w2 := by rw [hw2]; exact below_al (below_d0 _) _
  have bl : BoxV w2 z2 24 (.slice A' m c') := by rw [hw2, hz2]; exact BoxV.new w1 _ _
  replace bz := bz.below bb
  replace hS := hS.on bb bb.size
  replace hL := hL.on bb bb.size
  have B2 := B1.trans (bb.mono B1.size)
  clear bb B1
  obtain ⟨z3, hz3⟩ : ∃ z, z = w2.heap.size := ⟨_, rfl⟩
  obtain ⟨w3, hw3⟩ : ∃ x, x = w2.alloc (.cells #[.int .i64 0, .int .i64 0, .int .i64 0, .int .i64 0, .bool false, .slice none 0 0, .int .i64 0, .int .i64 0] 26) := ⟨_, rfl⟩
  have bb : Below w2.heap.size w2 w3 := by rw [hw3]; exact below_al (below_d0 _) _
  have br : BoxU w3 z3 noneT (.slice none 0 0) := by rw [hw3, hz3]; exact BoxU.new w2 noneT _
  replace bz := bz.below bb
  replace bl := bl.below bb
  replace hS := hS.on bb bb.size
  replace hL := hL.on bb bb.size
  have B3 := B2.trans (bb.mono B2.size)
  clear bb B2
  have hp2 : z1 + 1 = z2 := by rw [hz2, hw1, hz1]; simp
  have hp3 : z2 + 1 = z3 := by rw [hz3, hw2, hz2]; simp
  have lz2 : w.heap.size ≤ z2 := by omega
  have lz3 : w.heap.size ≤ z3 := by omega
  have ne12 : z1 ≠ z2 := by omega
  have ne13 : z1 ≠ z3 := by omega
  have ne23 : z2 ≠ z3 := by omega
  have HE := Lib.hid (⟨hw1, hw2, hw3, hz1, hp2, hp3⟩ : _ ∧ _ ∧ _ ∧ _ ∧ _ ∧ _)
  have HLZ := Lib.hid (⟨lz2, lz3⟩ : _ ∧ _)
  clear hw1 hz1 hw2 hz2 hw3 hz3 hp2 hp3 lz2 lz3
  unfold tupV
  go_enter Try.func10, Try.ntmps10
  go_wp2_with fail
  rw [← HE.out.1, ← HE.out.2.1, ← HE.out.2.2.1, ← HE.out.2.2.2.1]
  (try rw [HE.out.2.2.2.2.1])
  (try rw [HE.out.2.2.2.2.2])
  clear HE
  have HW := Lib.hid B3.size
  refine Calls.mono (show Calls Try.prog 39 #[.agg #[.int .i64 t.sn.ix, .int .i64 t.sn.tm, .int .i64 t.sn.sm, .int .i64 t.sn.lv, .bool t.sn.fn, .slice A n c, .int .i64 t.tm, .int .i64 t.vt], .func (.func 40) #[] #[.pointer (some ⟨z2, 0, none⟩)]] w3 (OutF (ToldIs t (appendT t l) (True)) w3.heap.size w3) from done_any t (appendT t l) (True) 40 _ (enters_of Try.func40 (by kernel_rfl) rfl) A n c w3 hS hn (step_app t l A' m c' z2 _ bl hL hm)) ?_
  intro e w4 hh
  obtain ⟨⟨o, er, A9, n9, c9, rfl, hR, hnc9, own9⟩, bb⟩ := hh
  (try clear hh)
  replace bz := bz.below bb
  replace bl := bl.below bb
  replace br := br.below bb
  replace hS := hS.on bb bb.size
  replace hL := hL.on bb bb.size
  have B4 := B3.trans (bb.mono B3.size)
  clear bb B3
  unfold tupV
  have HR := Lib.hid hR
  clear hR
  obtain ⟨g0, g1, g2, g3, g4, g5, g6, g7⟩ := br.cells
  have f0 := br.frozen 0
  have f1 := br.frozen 1
  have f2 := br.frozen 2
  have f3 := br.frozen 3
  have f4 := br.frozen 4
  have f5 := br.frozen 5
  have f6 := br.frozen 6
  have f7 := br.frozen 7
  go_wp2_with fail
  obtain ⟨W', hW'⟩ : ∃ W', W' = putU w4 z3 o (.slice A9 n9 c9) := ⟨_, rfl⟩
  have b9 := putU_box br o (.slice A9 n9 c9)
  have B9 := putU_below HLZ.out.2 o (.slice A9 n9 c9) B4
  rw [← hW'] at b9 B9
  have e9 : W' = ((((((((w4.setCell ⟨z3, 0, none⟩ (.int .i64 o.sn.ix)).setCell ⟨z3, 1, none⟩ (.int .i64 o.sn.tm)).setCell ⟨z3, 2, none⟩ (.int .i64 o.sn.sm)).setCell ⟨z3, 3, none⟩ (.int .i64 o.sn.lv)).setCell ⟨z3, 4, none⟩ (.bool o.sn.fn)).setCell ⟨z3, 5, none⟩ (.slice A9 n9 c9)).setCell ⟨z3, 6, none⟩ (.int .i64 o.tm)).setCell ⟨z3, 7, none⟩ (.int .i64 o.vt)) := hW'
  have own10 : OwnF W' w.heap.size (.slice A9 n9 c9) n9 o.lg := by rw [hW']; exact putU_ownF br (lowF own9 HW.out)
  rw [← e9]
  clear e9 hW' g0 g1 g2 g3 g4 g5 g6 g7 f0 f1 f2 f3 f4 f5 f6 f7
  obtain ⟨g0, g1, g2, g3, g4, g5, g6, g7⟩ := b9.cells
  exact bodyPost_ret (v := .tuple #[tupV o (.slice A9 n9 c9), .int .i64 er]) (by unfold tupV; simp [results, Try.results10, go_sem, g0, g1, g2, g3, g4, g5, g6, g7]) rfl ⟨⟨o, er, A9, n9, c9, rfl, HR.out, hnc9, own10⟩, B9⟩
set_option maxRecDepth 100000 in
set_option maxHeartbeats 8000000 in
theorem cut12 (t : TupP) (A : Option Addr) (n c : Nat) (i : Int) (w : World) (hS : Es w w.heap.size A n t.lg) (hn : n ≤ 100000)  :
    Calls Try.prog 12 #[tupV t (.slice A n c), .int .i64 i] w (OutF (CutIs t i) w.heap.size w) := by
  have hmf : ∀ (fn : Fn) (first cap : Array Value) (w : World), (Instr.makeFunc fn first cap).run Try.prog w = .ok (.func fn first cap) w := fun _ _ _ _ => rfl
  obtain ⟨z1, hz1⟩ : ∃ z, z = w.heap.size := ⟨_, rfl⟩
  obtain ⟨w1, hw1⟩ : ∃ x, x = w.alloc (.cells #[.int .i64 t.sn.ix, .int .i64 t.sn.tm, .int .i64 t.sn.sm, .int .i64 t.sn.lv, .bool t.sn.fn, .slice A n c, .int .i64 t.tm, .int .i64 t.vt] 26) := ⟨_, rfl⟩
  have bb : Below w.heap.size w w1 := by rw [hw1]; exact below_al (below_d0 _) _
  have bz : BoxU w1 z1 t (.slice A n c) := by rw [hw1, hz1]; exact BoxU.new w t _
  replace hS := hS.on bb bb.size
  have B1 := bb
  clear bb
  obtain ⟨z2, hz2⟩ : ∃ z, z = w1.heap.size := ⟨_, rfl⟩
  obtain ⟨w2, hw2⟩ : ∃ x, x = w1.alloc (.cells #[.int .i64 i] 3) := ⟨_, rfl⟩
  have bb : Below w1.heap.size w1 w2 := by rw [hw2]; exact below_al (below_d0 _) _
  have bl : BoxV w2 z2 3 (.int .i64 i) := by rw [hw2, hz2]; exact BoxV.new w1 _ _
  replace bz := bz.below bb
  replace hS := hS.on bb bb.size
  have B2 := B1.trans (bb.mono B1.size)
  clear bb B1
  obtain ⟨z3, hz3⟩ : ∃ z, z = w2.heap.size := ⟨_, rfl⟩
  obtain ⟨w3, hw3⟩ : ∃ x, x = w2.alloc (.cells #[.int .i64 0, .int .i64 0, .int .i64 0, .int .i64 0, .bool false, .slice none 0 0, .int .i64 0, .int .i64 0] 26) := ⟨_, rfl⟩
  have bb : Below w2.heap.size w2 w3 := by rw [hw3]; exact below_al (below_d0 _) _
  have br : BoxU w3 z3 noneT (.slice none 0 0) := by rw [hw3, hz3]; exact BoxU.new w2 noneT _
  replace bz := bz.below bb
  replace bl := bl.below bb
  replace hS := hS.on bb bb.size
  have B3 := B2.trans (bb.mono B2.size)
  clear bb B2
  have hp2 : z1 + 1 = z2 := by rw [hz2, hw1, hz1]; simp
  have hp3 : z2 + 1 = z3 := by rw [hz3, hw2, hz2]; simp
  have lz2 : w.heap.size ≤ z2 := by omega
  have lz3 : w.heap.size ≤ z3 := by omega
  have ne12 : z1 ≠ z2 := by omega
  have ne13 : z1 ≠ z3 := by omega
  have ne23 : z2 ≠ z3 := by omega
  have HE := Lib.hid (⟨hw1, hw2, hw3, hz1, hp2, hp3⟩ : _ ∧ _ ∧ _ ∧ _ ∧ _ ∧ _)
  have HLZ := Lib.hid (⟨lz2, lz3⟩ : _ ∧ _)
  clear hw1 hz1 hw2 hz2 hw3 hz3 hp2 hp3 lz2 lz3
  unfold tupV
  go_enter Try.func12, Try.ntmps12
  go_wp2_with fail
  rw [← HE.out.1, ← HE.out.2.1, ← HE.out.2.2.1, ← HE.out.2.2.2.1]
  (try rw [HE.out.2.2.2.2.1])
  (try rw [HE.out.2.2.2.2.2])
  clear HE
  have HW := Lib.hid B3.size
  refine Calls.mono (show Calls Try.prog 39 #[.agg #[.int .i64 t.sn.ix, .int .i64 t.sn.tm, .int .i64 t.sn.sm, .int .i64 t.sn.lv, .bool t.sn.fn, .slice A n c, .int .i64 t.tm, .int .i64 t.vt], .func (.func 43) #[] #[.pointer (some ⟨z2, 0, none⟩)]] w3 (OutF (ToldIs t (cutT t i) (t.sn.ix < i ∧ i ≤ lastT t + 1)) w3.heap.size w3) from done_any t (cutT t i) (t.sn.ix < i ∧ i ≤ lastT t + 1) 43 _ (enters_of Try.func43 (by kernel_rfl) rfl) A n c w3 hS hn (step_cut t i z2 _ bl)) ?_
  intro e w4 hh
  obtain ⟨⟨o, er, A9, n9, c9, rfl, hR, hnc9, own9⟩, bb⟩ := hh
  (try clear hh)
  replace bz := bz.below bb
  replace bl := bl.below bb
  replace br := br.below bb
  replace hS := hS.on bb bb.size
  have B4 := B3.trans (bb.mono B3.size)
  clear bb B3
  unfold tupV
  have HR := Lib.hid hR
  clear hR
  obtain ⟨g0, g1, g2, g3, g4, g5, g6, g7⟩ := br.cells
  have f0 := br.frozen 0
  have f1 := br.frozen 1
  have f2 := br.frozen 2
  have f3 := br.frozen 3
  have f4 := br.frozen 4
  have f5 := br.frozen 5
  have f6 := br.frozen 6
  have f7 := br.frozen 7
  go_wp2_with fail
  obtain ⟨W', hW'⟩ : ∃ W', W' = putU w4 z3 o (.slice A9 n9 c9) := ⟨_, rfl⟩
  have b9 := putU_box br o (.slice A9 n9 c9)
  have B9 := putU_below HLZ.out.2 o (.slice A9 n9 c9) B4
  rw [← hW'] at b9 B9
  have e9 : W' = ((((((((w4.setCell ⟨z3, 0, none⟩ (.int .i64 o.sn.ix)).setCell ⟨z3, 1, none⟩ (.int .i64 o.sn.tm)).setCell ⟨z3, 2, none⟩ (.int .i64 o.sn.sm)).setCell ⟨z3, 3, none⟩ (.int .i64 o.sn.lv)).setCell ⟨z3, 4, none⟩ (.bool o.sn.fn)).setCell ⟨z3, 5, none⟩ (.slice A9 n9 c9)).setCell ⟨z3, 6, none⟩ (.int .i64 o.tm)).setCell ⟨z3, 7, none⟩ (.int .i64 o.vt)) := hW'
  have own10 : OwnF W' w.heap.size (.slice A9 n9 c9) n9 o.lg := by rw [hW']; exact putU_ownF br (lowF own9 HW.out)
  rw [← e9]
  clear e9 hW' g0 g1 g2 g3 g4 g5 g6 g7 f0 f1 f2 f3 f4 f5 f6 f7
  obtain ⟨g0, g1, g2, g3, g4, g5, g6, g7⟩ := b9.cells
  exact bodyPost_ret (v := .tuple #[tupV o (.slice A9 n9 c9), .int .i64 er]) (by unfold tupV; simp [results, Try.results12, go_sem, g0, g1, g2, g3, g4, g5, g6, g7]) rfl ⟨⟨o, er, A9, n9, c9, rfl, HR.out, hnc9, own10⟩, B9⟩
theorem told_fine {t o : TupP} {s : StP} {q : Prop} {er : Int} (h : ToldIs t (saveT t s) q o er) : ToldIs t (saveT t s) (q ∧ FineP s) o er := by
  rcases h with ⟨h1, h2, h3, h4⟩ | ⟨h1, h2⟩
  · exact .inl ⟨⟨h1, h3.fine⟩, h2, h3, h4⟩
  · exact .inr ⟨fun k => h1 ⟨k.1.1, k.2⟩, h2⟩
/-- What a snapshot taken in may be has no greater term. -/
theorem inst_savedD {t o : TupP} {s : StP} {er : Int} (hh : hasB t s = true) (h : ToldIs t (saveT t s) (t.sn.ix < s.ix) o er) : InstallIs t s o er := by
  refine .inl ⟨of_decide_eq_true hh, ?_⟩
  have ht : MayT (saveT t s) → s.tm ≤ t.tm := fun hm => Int.le_trans (rise_last hm.rise) hm.tm.1
  rcases h with ⟨h1, h2, h3, h4⟩ | ⟨h1, h2⟩
  · exact .inl ⟨⟨⟨h1, ht h3⟩, h3.fine⟩, h2, h3, h4⟩
  · exact .inr ⟨fun k => h1 ⟨k.1.1.1, k.2⟩, h2⟩
theorem inst_goneD {t o : TupP} {s : StP} {er : Int} (hh : hasB t s = false) (h : ToldIs t (goneT t s) (t.sn.ix < s.ix) o er) : InstallIs t s o er := by
  refine .inr ⟨of_decide_eq_false hh, ?_⟩
  rcases h with ⟨h1, h2, h3, h4⟩ | ⟨h1, h2⟩
  · exact .inl ⟨⟨h1, h3.tm.1⟩, h2, h3, h4⟩
  · exact .inr ⟨fun k => h1 ⟨k.1.1, k.2⟩, h2⟩
theorem step_inst (t : TupP) (s : StP) (zs : Nat) (w0 : World) (bs : BoxS w0 zs s) (hi : I64 s.ix) :
    StepIs 48 #[.pointer (some ⟨zs, 0, none⟩)] t (if hasB t s = true then saveT t s else goneT t s) (t.sn.ix < s.ix) w0 := by
  by_cases c1 : t.sn.ix < s.ix
  case neg => exact step_inst_n t _ s zs w0 bs hi c1
  cases h : hasB t s
  · exact step_inst_g t s zs w0 bs hi c1 h
  · exact step_inst_y t s zs w0 bs hi c1 h
theorem inst_isD {t o : TupP} {s : StP} {er : Int} (h : ToldIs t (if hasB t s = true then saveT t s else goneT t s) (t.sn.ix < s.ix) o er) : InstallIs t s o er := by
  cases hh : hasB t s
  · rw [hh] at h
    exact inst_goneD hh h
  · rw [hh] at h
    exact inst_savedD hh h
set_option maxRecDepth 100000 in
set_option maxHeartbeats 8000000 in
theorem save12 (t : TupP) (A : Option Addr) (n c : Nat) (s : StP) (w : World) (hS : Es w w.heap.size A n t.lg) (hn : n ≤ 100000) (hi : I64 s.ix) :
    Calls Try.prog 15 #[tupV t (.slice A n c), s.v] w (OutF (SaveIs t s) w.heap.size w) := by
  have hmf : ∀ (fn : Fn) (first cap : Array Value) (w : World), (Instr.makeFunc fn first cap).run Try.prog w = .ok (.func fn first cap) w := fun _ _ _ _ => rfl
  unfold StP.v
  obtain ⟨z1, hz1⟩ : ∃ z, z = w.heap.size := ⟨_, rfl⟩
  obtain ⟨w1, hw1⟩ : ∃ x, x = w.alloc (.cells #[.int .i64 t.sn.ix, .int .i64 t.sn.tm, .int .i64 t.sn.sm, .int .i64 t.sn.lv, .bool t.sn.fn, .slice A n c, .int .i64 t.tm, .int .i64 t.vt] 26) := ⟨_, rfl⟩
  have bb : Below w.heap.size w w1 := by rw [hw1]; exact below_al (below_d0 _) _
  have bz : BoxU w1 z1 t (.slice A n c) := by rw [hw1, hz1]; exact BoxU.new w t _
  replace hS := hS.on bb bb.size
  have B1 := bb
  clear bb
  obtain ⟨z2, hz2⟩ : ∃ z, z = w1.heap.size := ⟨_, rfl⟩
  obtain ⟨w2, hw2⟩ : ∃ x, x = w1.alloc (.cells #[.int .i64 s.ix, .int .i64 s.tm, .int .i64 s.sm, .int .i64 s.lv, .bool s.fn] 23) := ⟨_, rfl⟩
  have bb : Below w1.heap.size w1 w2 := by rw [hw2]; exact below_al (below_d0 _) _
  have bs : BoxS w2 z2 s := by rw [hw2, hz2]; exact BoxS.new w1 s
  replace bz := bz.below bb
  replace hS := hS.on bb bb.size
  have B2 := B1.trans (bb.mono B1.size)
  clear bb B1
  obtain ⟨z3, hz3⟩ : ∃ z, z = w2.heap.size := ⟨_, rfl⟩
  obtain ⟨w3, hw3⟩ : ∃ x, x = w2.alloc (.cells #[.int .i64 0, .int .i64 0, .int .i64 0, .int .i64 0, .bool false, .slice none 0 0, .int .i64 0, .int .i64 0] 26) := ⟨_, rfl⟩
  have bb : Below w2.heap.size w2 w3 := by rw [hw3]; exact below_al (below_d0 _) _
  have br : BoxU w3 z3 noneT (.slice none 0 0) := by rw [hw3, hz3]; exact BoxU.new w2 noneT _
  replace bz := bz.below bb
  replace bs := bs.below bb
  replace hS := hS.on bb bb.size
  have B3 := B2.trans (bb.mono B2.size)
  clear bb B2
  have hp2 : z1 + 1 = z2 := by rw [hz2, hw1, hz1]; simp
  have hp3 : z2 + 1 = z3 := by rw [hz3, hw2, hz2]; simp
  have lz2 : w.heap.size ≤ z2 := by omega
  have lz3 : w.heap.size ≤ z3 := by omega
  have ne12 : z1 ≠ z2 := by omega
  have ne13 : z1 ≠ z3 := by omega
  have ne23 : z2 ≠ z3 := by omega
  have HE := Lib.hid (⟨hw1, hw2, hw3, hz1, hp2, hp3⟩ : _ ∧ _ ∧ _ ∧ _ ∧ _ ∧ _)
  have HLZ := Lib.hid (⟨lz2, lz3⟩ : _ ∧ _)
  clear hw1 hz1 hw2 hz2 hw3 hz3 hp2 hp3 lz2 lz3
  unfold tupV
  go_enter Try.func15, Try.ntmps15
  go_wp2_with fail
  rw [← HE.out.1, ← HE.out.2.1, ← HE.out.2.2.1, ← HE.out.2.2.2.1]
  (try rw [HE.out.2.2.2.2.1])
  (try rw [HE.out.2.2.2.2.2])
  clear HE
  have HW := Lib.hid B3.size
  refine Calls.mono (show Calls Try.prog 39 #[.agg #[.int .i64 t.sn.ix, .int .i64 t.sn.tm, .int .i64 t.sn.sm, .int .i64 t.sn.lv, .bool t.sn.fn, .slice A n c, .int .i64 t.tm, .int .i64 t.vt], .func (.func 45) #[] #[.pointer (some ⟨z2, 0, none⟩)]] w3 (OutF (ToldIs t (saveT t s) (termAtP t s.ix = some s.tm)) w3.heap.size w3) from done_any t (saveT t s) (termAtP t s.ix = some s.tm) 45 _ (enters_of Try.func45 (by kernel_rfl) rfl) A n c w3 hS hn (step_save t s z2 _ bs hi)) ?_
  intro e w4 hh
  obtain ⟨⟨o, er, A9, n9, c9, rfl, hR, hnc9, own9⟩, bb⟩ := hh
  (try clear hh)
  replace bz := bz.below bb
  replace bs := bs.below bb
  replace br := br.below bb
  replace hS := hS.on bb bb.size
  have B4 := B3.trans (bb.mono B3.size)
  clear bb B3
  unfold tupV
  have HR := Lib.hid hR
  clear hR
  obtain ⟨g0, g1, g2, g3, g4, g5, g6, g7⟩ := br.cells
  have f0 := br.frozen 0
  have f1 := br.frozen 1
  have f2 := br.frozen 2
  have f3 := br.frozen 3
  have f4 := br.frozen 4
  have f5 := br.frozen 5
  have f6 := br.frozen 6
  have f7 := br.frozen 7
  go_wp2_with fail
  obtain ⟨W', hW'⟩ : ∃ W', W' = putU w4 z3 o (.slice A9 n9 c9) := ⟨_, rfl⟩
  have b9 := putU_box br o (.slice A9 n9 c9)
  have B9 := putU_below HLZ.out.2 o (.slice A9 n9 c9) B4
  rw [← hW'] at b9 B9
  have e9 : W' = ((((((((w4.setCell ⟨z3, 0, none⟩ (.int .i64 o.sn.ix)).setCell ⟨z3, 1, none⟩ (.int .i64 o.sn.tm)).setCell ⟨z3, 2, none⟩ (.int .i64 o.sn.sm)).setCell ⟨z3, 3, none⟩ (.int .i64 o.sn.lv)).setCell ⟨z3, 4, none⟩ (.bool o.sn.fn)).setCell ⟨z3, 5, none⟩ (.slice A9 n9 c9)).setCell ⟨z3, 6, none⟩ (.int .i64 o.tm)).setCell ⟨z3, 7, none⟩ (.int .i64 o.vt)) := hW'
  have own10 : OwnF W' w.heap.size (.slice A9 n9 c9) n9 o.lg := by rw [hW']; exact putU_ownF br (lowF own9 HW.out)
  rw [← e9]
  clear e9 hW' g0 g1 g2 g3 g4 g5 g6 g7 f0 f1 f2 f3 f4 f5 f6 f7
  obtain ⟨g0, g1, g2, g3, g4, g5, g6, g7⟩ := b9.cells
  exact bodyPost_ret (v := .tuple #[tupV o (.slice A9 n9 c9), .int .i64 er]) (by unfold tupV; simp [results, Try.results15, go_sem, g0, g1, g2, g3, g4, g5, g6, g7]) rfl ⟨⟨o, er, A9, n9, c9, rfl, told_fine HR.out, hnc9, own10⟩, B9⟩
set_option maxRecDepth 100000 in
set_option maxHeartbeats 8000000 in
theorem install12 (t : TupP) (A : Option Addr) (n c : Nat) (s : StP) (w : World) (hS : Es w w.heap.size A n t.lg) (hn : n ≤ 100000) (hi : I64 s.ix) :
    Calls Try.prog 17 #[tupV t (.slice A n c), s.v] w (OutF (InstallIs t s) w.heap.size w) := by
  have hmf : ∀ (fn : Fn) (first cap : Array Value) (w : World), (Instr.makeFunc fn first cap).run Try.prog w = .ok (.func fn first cap) w := fun _ _ _ _ => rfl
  unfold StP.v
  obtain ⟨z1, hz1⟩ : ∃ z, z = w.heap.size := ⟨_, rfl⟩
  obtain ⟨w1, hw1⟩ : ∃ x, x = w.alloc (.cells #[.int .i64 t.sn.ix, .int .i64 t.sn.tm, .int .i64 t.sn.sm, .int .i64 t.sn.lv, .bool t.sn.fn, .slice A n c, .int .i64 t.tm, .int .i64 t.vt] 26) := ⟨_, rfl⟩
  have bb : Below w.heap.size w w1 := by rw [hw1]; exact below_al (below_d0 _) _
  have bz : BoxU w1 z1 t (.slice A n c) := by rw [hw1, hz1]; exact BoxU.new w t _
  replace hS := hS.on bb bb.size
  have B1 := bb
  clear bb
  obtain ⟨z2, hz2⟩ : ∃ z, z = w1.heap.size := ⟨_, rfl⟩
  obtain ⟨w2, hw2⟩ : ∃ x, x = w1.alloc (.cells #[.int .i64 s.ix, .int .i64 s.tm, .int .i64 s.sm, .int .i64 s.lv, .bool s.fn] 23) := ⟨_, rfl⟩
  have bb : Below w1.heap.size w1 w2 := by rw [hw2]; exact below_al (below_d0 _) _
  have bs : BoxS w2 z2 s := by rw [hw2, hz2]; exact BoxS.new w1 s
  replace bz := bz.below bb
  replace hS := hS.on bb bb.size
  have B2 := B1.trans (bb.mono B1.size)
  clear bb B1
  obtain ⟨z3, hz3⟩ : ∃ z, z = w2.heap.size := ⟨_, rfl⟩
  obtain ⟨w3, hw3⟩ : ∃ x, x = w2.alloc (.cells #[.int .i64 0, .int .i64 0, .int .i64 0, .int .i64 0, .bool false, .slice none 0 0, .int .i64 0, .int .i64 0] 26) := ⟨_, rfl⟩
  have bb : Below w2.heap.size w2 w3 := by rw [hw3]; exact below_al (below_d0 _) _
  have br : BoxU w3 z3 noneT (.slice none 0 0) := by rw [hw3, hz3]; exact BoxU.new w2 noneT _
  replace bz := bz.below bb
  replace bs := bs.below bb
  replace hS := hS.on bb bb.size
  have B3 := B2.trans (bb.mono B2.size)
  clear bb B2
  have hp2 : z1 + 1 = z2 := by rw [hz2, hw1, hz1]; simp
  have hp3 : z2 + 1 = z3 := by rw [hz3, hw2, hz2]; simp
  have lz2 : w.heap.size ≤ z2 := by omega
  have lz3 : w.heap.size ≤ z3 := by omega
  have ne12 : z1 ≠ z2 := by omega
  have ne13 : z1 ≠ z3 := by omega
  have ne23 : z2 ≠ z3 := by omega
  have HE := Lib.hid (⟨hw1, hw2, hw3, hz1, hp2, hp3⟩ : _ ∧ _ ∧ _ ∧ _ ∧ _ ∧ _)
  have HLZ := Lib.hid (⟨lz2, lz3⟩ : _ ∧ _)
  clear hw1 hz1 hw2 hz2 hw3 hz3 hp2 hp3 lz2 lz3
  unfold tupV
  go_enter Try.func17, Try.ntmps17
  go_wp2_with fail
  rw [← HE.out.1, ← HE.out.2.1, ← HE.out.2.2.1, ← HE.out.2.2.2.1]
  (try rw [HE.out.2.2.2.2.1])
  (try rw [HE.out.2.2.2.2.2])
  clear HE
  have HW := Lib.hid B3.size
  refine Calls.mono (show Calls Try.prog 39 #[.agg #[.int .i64 t.sn.ix, .int .i64 t.sn.tm, .int .i64 t.sn.sm, .int .i64 t.sn.lv, .bool t.sn.fn, .slice A n c, .int .i64 t.tm, .int .i64 t.vt], .func (.func 48) #[] #[.pointer (some ⟨z2, 0, none⟩)]] w3 (OutF (ToldIs t (if hasB t s = true then saveT t s else goneT t s) (t.sn.ix < s.ix)) w3.heap.size w3) from done_any t (if hasB t s = true then saveT t s else goneT t s) (t.sn.ix < s.ix) 48 _ (enters_of Try.func48 (by kernel_rfl) rfl) A n c w3 hS hn (step_inst t s z2 _ bs hi)) ?_
  intro e w4 hh
  obtain ⟨⟨o, er, A9, n9, c9, rfl, hR, hnc9, own9⟩, bb⟩ := hh
  (try clear hh)
  replace bz := bz.below bb
  replace bs := bs.below bb
  replace br := br.below bb
  replace hS := hS.on bb bb.size
  have B4 := B3.trans (bb.mono B3.size)
  clear bb B3
  unfold tupV
  have HR := Lib.hid hR
  clear hR
  obtain ⟨g0, g1, g2, g3, g4, g5, g6, g7⟩ := br.cells
  have f0 := br.frozen 0
  have f1 := br.frozen 1
  have f2 := br.frozen 2
  have f3 := br.frozen 3
  have f4 := br.frozen 4
  have f5 := br.frozen 5
  have f6 := br.frozen 6
  have f7 := br.frozen 7
  go_wp2_with fail
  obtain ⟨W', hW'⟩ : ∃ W', W' = putU w4 z3 o (.slice A9 n9 c9) := ⟨_, rfl⟩
  have b9 := putU_box br o (.slice A9 n9 c9)
  have B9 := putU_below HLZ.out.2 o (.slice A9 n9 c9) B4
  rw [← hW'] at b9 B9
  have e9 : W' = ((((((((w4.setCell ⟨z3, 0, none⟩ (.int .i64 o.sn.ix)).setCell ⟨z3, 1, none⟩ (.int .i64 o.sn.tm)).setCell ⟨z3, 2, none⟩ (.int .i64 o.sn.sm)).setCell ⟨z3, 3, none⟩ (.int .i64 o.sn.lv)).setCell ⟨z3, 4, none⟩ (.bool o.sn.fn)).setCell ⟨z3, 5, none⟩ (.slice A9 n9 c9)).setCell ⟨z3, 6, none⟩ (.int .i64 o.tm)).setCell ⟨z3, 7, none⟩ (.int .i64 o.vt)) := hW'
  have own10 : OwnF W' w.heap.size (.slice A9 n9 c9) n9 o.lg := by rw [hW']; exact putU_ownF br (lowF own9 HW.out)
  rw [← e9]
  clear e9 hW' g0 g1 g2 g3 g4 g5 g6 g7 f0 f1 f2 f3 f4 f5 f6 f7
  obtain ⟨g0, g1, g2, g3, g4, g5, g6, g7⟩ := b9.cells
  exact bodyPost_ret (v := .tuple #[tupV o (.slice A9 n9 c9), .int .i64 er]) (by unfold tupV; simp [results, Try.results17, go_sem, g0, g1, g2, g3, g4, g5, g6, g7]) rfl ⟨⟨o, er, A9, n9, c9, rfl, inst_isD HR.out, hnc9, own10⟩, B9⟩
set_option maxRecDepth 100000 in
set_option maxHeartbeats 8000000 in
theorem hard12 (t : TupP) (A : Option Addr) (n c : Nat) (a b : Int) (w : World) (hS : Es w w.heap.size A n t.lg) (hn : n ≤ 100000)  :
    Calls Try.prog 19 #[tupV t (.slice A n c), .int .i64 a, .int .i64 b] w (OutF (HardIs t a b) w.heap.size w) := by
  have hmf : ∀ (fn : Fn) (first cap : Array Value) (w : World), (Instr.makeFunc fn first cap).run Try.prog w = .ok (.func fn first cap) w := fun _ _ _ _ => rfl
  obtain ⟨z1, hz1⟩ : ∃ z, z = w.heap.size := ⟨_, rfl⟩
  obtain ⟨w1, hw1⟩ : ∃ x, x = w.alloc (.cells #[.int .i64 t.sn.ix, .int .i64 t.sn.tm, .int .i64 t.sn.sm, .int .i64 t.sn.lv, .bool t.sn.fn, .slice A n c, .int .i64 t.tm, .int .i64 t.vt] 26) := ⟨_, rfl⟩
  have bb : Below w.heap.size w w1 := by rw [hw1]; exact below_al (below_d0 _) _
  have bz : BoxU w1 z1 t (.slice A n c) := by rw [hw1, hz1]; exact BoxU.new w t _
  replace hS := hS.on bb bb.size
  have B1 := bb
  clear bb
  obtain ⟨z2, hz2⟩ : ∃ z, z = w1.heap.size := ⟨_, rfl⟩
  obtain ⟨w2, hw2⟩ : ∃ x, x = w1.alloc (.cells #[.int .i64 a] 3) := ⟨_, rfl⟩
  have bb : Below w1.heap.size w1 w2 := by rw [hw2]; exact below_al (below_d0 _) _
  have ba : BoxV w2 z2 3 (.int .i64 a) := by rw [hw2, hz2]; exact BoxV.new w1 _ _
  replace bz := bz.below bb
  replace hS := hS.on bb bb.size
  have B2 := B1.trans (bb.mono B1.size)
  clear bb B1
  obtain ⟨z3, hz3⟩ : ∃ z, z = w2.heap.size := ⟨_, rfl⟩
  obtain ⟨w3, hw3⟩ : ∃ x, x = w2.alloc (.cells #[.int .i64 b] 3) := ⟨_, rfl⟩
  have bb : Below w2.heap.size w2 w3 := by rw [hw3]; exact below_al (below_d0 _) _
  have bb' : BoxV w3 z3 3 (.int .i64 b) := by rw [hw3, hz3]; exact BoxV.new w2 _ _
  replace bz := bz.below bb
  replace ba := ba.below bb
  replace hS := hS.on bb bb.size
  have B3 := B2.trans (bb.mono B2.size)
  clear bb B2
  obtain ⟨z4, hz4⟩ : ∃ z, z = w3.heap.size := ⟨_, rfl⟩
  obtain ⟨w4, hw4⟩ : ∃ x, x = w3.alloc (.cells #[.int .i64 0, .int .i64 0, .int .i64 0, .int .i64 0, .bool false, .slice none 0 0, .int .i64 0, .int .i64 0] 26) := ⟨_, rfl⟩
  have bb : Below w3.heap.size w3 w4 := by rw [hw4]; exact below_al (below_d0 _) _
  have br : BoxU w4 z4 noneT (.slice none 0 0) := by rw [hw4, hz4]; exact BoxU.new w3 noneT _
  replace bz := bz.below bb
  replace ba := ba.below bb
  replace bb' := bb'.below bb
  replace hS := hS.on bb bb.size
  have B4 := B3.trans (bb.mono B3.size)
  clear bb B3
  have hp2 : z1 + 1 = z2 := by rw [hz2, hw1, hz1]; simp
  have hp3 : z2 + 1 = z3 := by rw [hz3, hw2, hz2]; simp
  have hp4 : z3 + 1 = z4 := by rw [hz4, hw3, hz3]; simp
  have lz2 : w.heap.size ≤ z2 := by omega
  have lz3 : w.heap.size ≤ z3 := by omega
  have lz4 : w.heap.size ≤ z4 := by omega
  have ne12 : z1 ≠ z2 := by omega
  have ne13 : z1 ≠ z3 := by omega
  have ne14 : z1 ≠ z4 := by omega
  have ne23 : z2 ≠ z3 := by omega
  have ne24 : z2 ≠ z4 := by omega
  have ne34 : z3 ≠ z4 := by omega
  have HE := Lib.hid (⟨hw1, hw2, hw3, hw4, hz1, hp2, hp3, hp4⟩ : _ ∧ _ ∧ _ ∧ _ ∧ _ ∧ _ ∧ _ ∧ _)
  have HLZ := Lib.hid (⟨lz2, lz3, lz4⟩ : _ ∧ _ ∧ _)
  clear hw1 hz1 hw2 hz2 hw3 hz3 hw4 hz4 hp2 hp3 hp4 lz2 lz3 lz4
  unfold tupV
  go_enter Try.func19, Try.ntmps19
  go_wp2_with fail
  rw [← HE.out.1, ← HE.out.2.1, ← HE.out.2.2.1, ← HE.out.2.2.2.1, ← HE.out.2.2.2.2.1]
  (try rw [HE.out.2.2.2.2.2.1])
  (try rw [HE.out.2.2.2.2.2.2.1])
  (try rw [HE.out.2.2.2.2.2.2.2])
  clear HE
  have HW := Lib.hid B4.size
  refine Calls.mono (show Calls Try.prog 39 #[.agg #[.int .i64 t.sn.ix, .int .i64 t.sn.tm, .int .i64 t.sn.sm, .int .i64 t.sn.lv, .bool t.sn.fn, .slice A n c, .int .i64 t.tm, .int .i64 t.vt], .func (.func 49) #[] #[.pointer (some ⟨z2, 0, none⟩), .pointer (some ⟨z3, 0, none⟩)]] w4 (OutF (ToldIs t (hardT t a b) (t.tm < a ∨ (a = t.tm ∧ (t.vt = 0 ∨ t.vt = b)))) w4.heap.size w4) from done_any t (hardT t a b) (t.tm < a ∨ (a = t.tm ∧ (t.vt = 0 ∨ t.vt = b))) 49 _ (enters_of Try.func49 (by kernel_rfl) rfl) A n c w4 hS hn (step_hard t a b z2 z3 _ ba bb')) ?_
  intro e w5 hh
  obtain ⟨⟨o, er, A9, n9, c9, rfl, hR, hnc9, own9⟩, bb⟩ := hh
  (try clear hh)
  replace bz := bz.below bb
  replace ba := ba.below bb
  replace bb' := bb'.below bb
  replace br := br.below bb
  replace hS := hS.on bb bb.size
  have B5 := B4.trans (bb.mono B4.size)
  clear bb B4
  unfold tupV
  have HR := Lib.hid hR
  clear hR
  obtain ⟨g0, g1, g2, g3, g4, g5, g6, g7⟩ := br.cells
  have f0 := br.frozen 0
  have f1 := br.frozen 1
  have f2 := br.frozen 2
  have f3 := br.frozen 3
  have f4 := br.frozen 4
  have f5 := br.frozen 5
  have f6 := br.frozen 6
  have f7 := br.frozen 7
  go_wp2_with fail
  obtain ⟨W', hW'⟩ : ∃ W', W' = putU w5 z4 o (.slice A9 n9 c9) := ⟨_, rfl⟩
  have b9 := putU_box br o (.slice A9 n9 c9)
  have B9 := putU_below HLZ.out.2.2 o (.slice A9 n9 c9) B5
  rw [← hW'] at b9 B9
  have e9 : W' = ((((((((w5.setCell ⟨z4, 0, none⟩ (.int .i64 o.sn.ix)).setCell ⟨z4, 1, none⟩ (.int .i64 o.sn.tm)).setCell ⟨z4, 2, none⟩ (.int .i64 o.sn.sm)).setCell ⟨z4, 3, none⟩ (.int .i64 o.sn.lv)).setCell ⟨z4, 4, none⟩ (.bool o.sn.fn)).setCell ⟨z4, 5, none⟩ (.slice A9 n9 c9)).setCell ⟨z4, 6, none⟩ (.int .i64 o.tm)).setCell ⟨z4, 7, none⟩ (.int .i64 o.vt)) := hW'
  have own10 : OwnF W' w.heap.size (.slice A9 n9 c9) n9 o.lg := by rw [hW']; exact putU_ownF br (lowF own9 HW.out)
  rw [← e9]
  clear e9 hW' g0 g1 g2 g3 g4 g5 g6 g7 f0 f1 f2 f3 f4 f5 f6 f7
  obtain ⟨g0, g1, g2, g3, g4, g5, g6, g7⟩ := b9.cells
  exact bodyPost_ret (v := .tuple #[tupV o (.slice A9 n9 c9), .int .i64 er]) (by unfold tupV; simp [results, Try.results19, go_sem, g0, g1, g2, g3, g4, g5, g6, g7]) rfl ⟨⟨o, er, A9, n9, c9, rfl, HR.out, hnc9, own10⟩, B9⟩
/-- Package tuple does what the laws want of it. -/
theorem dev12 : Dev12 where
  right := fun t A n c w hS hn _ => right12 t A n c w hS hn
  first := first12
  last := fun t A n c w hS hn hx => last_any t A n c w hS hn hx
  termAt := fun t A n c i w hS hn hx hi => termAt_any t A n c i w hS hn hx hi
  at_ := fun t A n c i w hS hn hx hi => at_any t A n c i w hS hn hx hi
  append := fun t A n c A' m c' l w hS hn _ _ hL hm _ => append12 t A n c A' m c' l w hS hn hL hm
  cut := fun t A n c i w hS hn _ _ _ => cut12 t A n c i w hS hn
  save := fun t A n c s w hS hn _ _ hi => save12 t A n c s w hS hn hi
  install := fun t A n c s w hS hn _ _ hi => install12 t A n c s w hS hn hi
  hard := fun t A n c a b w hS hn _ _ => hard12 t A n c a b w hS hn
  state := fun t A n c i w hS hn hnc hx hi => stateT_any t A n c i w hS hn hx hnc hi
  own := fun t A n c w hS hn => own12 t A n c w hS hn
  same := fun a b A A' n n' c c' w hS hS' hn hn' => same12 a b A A' n n' c c' w hS hS' hn hn'
end Go.Proofs.Ytbhnlmlaebngmaa
