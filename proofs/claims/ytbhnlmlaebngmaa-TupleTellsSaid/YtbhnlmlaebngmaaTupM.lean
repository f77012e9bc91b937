/-
  Package tuple: First, Same, Own, Right (slices.Equal, slices.Clone of entries): their contracts.
-/
import Derived.Test.YtbhnlmlaebngmaaTupB
import Derived.Test.YtbhnlmlaebngmaaTupE
import Derived.Lib.SliceRun
namespace Go.Proofs.Ytbhnlmlaebngmaa
open Go.RowKit Go.Shelf
set_option linter.unusedVariables false
set_option linter.unusedSimpArgs false
set_option maxRecDepth 100000 in
set_option maxHeartbeats 1000000 in
theorem equal_any (A A' : Option Addr) (n n' c c' : Nat) (l m : List EnP) (w : World) (hr : Es w w.heap.size A n l) (hr' : Es w w.heap.size A' n' m) (hn : n ≤ 1000000000) (hn' : n' ≤ 1000000000) :
    Calls Try.prog 59 #[.slice A n c, .slice A' n' c'] w fun e w' => e = .returned (.bool (eqE l m)) ∧ Below w.heap.size w w' := by
  have Hl := Lib.hid hr.len
  have Hm := Lib.hid hr'.len
  by_cases hnn : n = n'
  · subst hnn
    go_enter Try.func59, Try.ntmps59
    go_wp2
    go_loopw [13] (fun i wr => ∃ k : Nat, k ≤ n ∧ i = .int .i64 k ∧ l.take k = m.take k ∧ Below w.heap.size w wr) (fun i _ => n - (intOf i).toNat)
    case atStart => exact ⟨0, Nat.zero_le _, rfl, rfl, Below.refl _ _⟩
    case round =>
      obtain ⟨k, hk, rfl, heq, hB⟩ := hrel
      have Heq := Lib.hid heq
      clear heq
      by_cases hlt : k < n
      · obtain ⟨b, off, e, rfl, hb, he, c0, c1, c2⟩ := Es.at_ (hr.on hB hB.size) hlt
        obtain ⟨b', off', e', rfl, hb', he', c0', c1', c2'⟩ := Es.at_ (hr'.on hB hB.size) hlt
        have HB := Lib.hid hB
        by_cases hee : e = e'
        · have Hn := Lib.hid (show l.take (k + 1) = m.take (k + 1) by rw [take_succ he, take_succ he', Heq.out, hee])
          have hq : ∀ w, (Op.equalIn 10000 39 (.agg #[.int .i64 e.tm, .int .i64 e.kd, .int .i64 e.vl]) (.agg #[.int .i64 e'.tm, .int .i64 e'.kd, .int .i64 e'.vl])).run Try.prog w = .ok true w := fun w => by rw [equal_en, decide_eq_true hee]
          clear hee he he' hB
          go_wp2
          go_region
          all_goals
            go_wp2
            go_roundw
            case rel => exact ⟨k + 1, by omega, by go_num, Hn.out, HB.out.drew⟩
            case measure => simp [intOf]; omega
        · have Hf := Lib.hid (eqE_false (l := l) (m := m) (fun h => hee (by rw [h, he'] at he; exact (Option.some.inj he).symm)))
          have hq : ∀ w, (Op.equalIn 10000 39 (.agg #[.int .i64 e.tm, .int .i64 e.kd, .int .i64 e.vl]) (.agg #[.int .i64 e'.tm, .int .i64 e'.kd, .int .i64 e'.vl])).run Try.prog w = .ok false w := fun w => by rw [equal_en, decide_eq_false hee]
          clear hee he he' hB
          go_wp2
          go_region
          all_goals
            go_wp2
            go_ret
            exact ⟨ret_bool (by rw [Hf.out]), HB.out.drew⟩
      · have hkn : k = n := by omega
        have hf : eqE l m = true := eqE_true (by
          have h1 := Heq.out
          rwa [List.take_of_length_le (by rw [Hl.out]; omega), List.take_of_length_le (by rw [Hm.out]; omega)] at h1)
        have Hf := Lib.hid hf
        clear hf hkn
        go_wp2
        go_ret
        exact ⟨ret_bool (by rw [Hf.out]), hB⟩
  · have Hf := Lib.hid (eqE_false (l := l) (m := m) (fun h => hnn (by rw [← Hl.out, ← Hm.out, h])))
    go_enter Try.func59, Try.ntmps59
    go_wp2
    go_ret
    exact ⟨ret_bool (by rw [Hf.out]), Below.refl _ _⟩
theorem clone_nil (n c : Nat) (w : World) (hn : n = 0) : Calls Try.prog 60 #[.slice none n c] w fun e w' => e = .returned (.slice none 0 0) ∧ w' = w := by
  subst hn
  have hq : ∀ w : World, (binOp .eql 24 (.slice none 0 c) (.slice none 0 0)).run Try.prog w = .ok (.bool true) w := fun w => by
    simp only [binOp]
    simp [Op.equal, Op.maxDepth, Lib.run_equalIn_slice_nil w 9999 24 39 none 0 c 0 0 Try.underlying24]
  go_enter Try.func60, Try.ntmps60
  go_wp2_with fail
  go_ret
  exact ⟨rfl, rfl⟩
set_option maxRecDepth 100000 in
set_option maxHeartbeats 2000000 in
theorem clone_some (a : Addr) (n c : Nat) (l : List EnP) (w : World) (hr : Es w w.heap.size (some a) n l) (hn : n ≤ 100000) :
    Calls Try.prog 60 #[.slice (some a) n c] w fun e w' => (∃ A' c', e = .returned (.slice A' n c') ∧ n ≤ c' ∧ OwnE w' w.heap.size (.slice A' n c') n l) ∧ Below w.heap.size w w' := by
  obtain ⟨i0, hi, hz0, hz1, hz2⟩ := info_partsV info_entry
  have hq : ∀ w : World, (binOp .eql 24 (.slice (some a) n c) (.slice none 0 0)).run Try.prog w = .ok (.bool false) w := fun w => by
    simp only [binOp]
    simp [Op.equal, Op.maxDepth, Lib.run_equalIn_slice_nil w 9999 24 39 (some a) n c 0 0 Try.underlying24]
  have hsrc := Row.source (by omega) EnP.len EnP.one hr
  clear hr
  go_enter Try.func60, Try.ntmps60
  go_wp2_with (at_builtin; refine hold ?_)
  refine unhold (wpList_append (.tmp 5) (.tmp 6) 24 Try.underlying24 hi hz0 hz1 hz2 entry_cells (by omega) (own_empty w w.heap.size 39 3 (Nat.le_refl _)) (hsrc.alloc _) (by unfold maxLen; omega) (by omega) (by simp) rfl rfl rfl rfl ?_)
  intro v1 w5 L3
  have hb5 : Below w.heap.size w w5 := L3.below ((Below.refl _ w).alloc (Nat.le_refl _) _) (by simp) (fun g hg => by simp [Value.ownBlock] at hg; omega)
  have own := L3.1
  rw [Nat.zero_add, List.nil_append] at own
  obtain ⟨A', c', rfl, hc'⟩ := own_slice own
  have HO := Lib.hid (⟨hc', own, hb5⟩ : _ ∧ _ ∧ _)
  clear L3 own hb5 hc'
  go_wp2_with fail
  go_ret
  exact ⟨⟨A', c', rfl, HO.out.1, HO.out.2.1⟩, HO.out.2.2⟩
theorem clone_any (A : Option Addr) (n c : Nat) (l : List EnP) (w : World) (hr : Es w w.heap.size A n l) (hn : n ≤ 100000) :
    Calls Try.prog 60 #[.slice A n c] w fun e w' => (∃ A' c', e = .returned (.slice A' n c') ∧ n ≤ c' ∧ OwnE w' w.heap.size (.slice A' n c') n l) ∧ Below w.heap.size w w' := by
  cases A with
  | none =>
    obtain ⟨rfl, rfl⟩ := hr.none_
    exact (clone_nil 0 c w rfl).mono (by rintro e w' ⟨rfl, rfl⟩; exact ⟨⟨none, 0, rfl, Nat.le_refl _, World.ownsRow_nil _ _ _ _⟩, Below.refl _ _⟩)
  | some a => exact clone_some a n c l w hr hn
set_option maxRecDepth 100000 in
set_option maxHeartbeats 8000000 in
theorem first12 (w : World) : Calls Try.prog 31 #[] w (OutV firstT w) := by
  obtain ⟨z1, hz1⟩ : ∃ z, z = w.heap.size := ⟨_, rfl⟩
  obtain ⟨w1, hw1⟩ : ∃ x, x = w.alloc (.cells #[.int .i64 0, .int .i64 0, .int .i64 0, .int .i64 0, .bool false, .slice none 0 0, .int .i64 0, .int .i64 0] 26) := ⟨_, rfl⟩
  have bb : Below w.heap.size w w1 := by rw [hw1]; exact below_al (below_d0 _) _
  have br : BoxU w1 z1 noneT (.slice none 0 0) := by rw [hw1, hz1]; exact BoxU.new w noneT _
  have B1 := bb
  clear bb
  have HE := Lib.hid (⟨hw1, hz1⟩ : _ ∧ _)
  have HLZ := Lib.hid (show w.heap.size ≤ z1 by omega)
  clear hw1 hz1
  go_enter Try.func31, Try.ntmps31
  go_wp2_with fail
  rw [← HE.out.1, ← HE.out.2]
  refine Calls.mono (show Calls Try.prog 57 #[] w1 (fun r w' => r = .returned firstP.v ∧ Below w1.heap.size w1 w') from first_any w1) ?_
  intro e w2 hh
  obtain ⟨rfl, bb⟩ := hh
  (try clear hh)
  replace br := br.below bb
  have B2 := B1.trans (bb.mono B1.size)
  clear bb B1
  unfold StP.v firstP
  obtain ⟨g0, g1, g2, g3, g4, g5, g6, g7⟩ := br.cells
  have f0 := br.frozen 0
  have f1 := br.frozen 1
  have f2 := br.frozen 2
  have f3 := br.frozen 3
  have f4 := br.frozen 4
  have f5 := br.frozen 5
  have f6 := br.frozen 6
  have f7 := br.frozen 7
  go_wp2_with fail
  obtain ⟨W', hW'⟩ : ∃ W', W' = putU w2 z1 firstT (.slice none 0 0) := ⟨_, rfl⟩
  have b9 := putU_box br firstT (.slice none 0 0)
  have B9 := putU_below HLZ.out firstT (.slice none 0 0) B2
  rw [← hW'] at b9 B9
  have e9 : W' = ((((((((w2.setCell ⟨z1, 0, none⟩ (.int .i64 0)).setCell ⟨z1, 1, none⟩ (.int .i64 0)).setCell ⟨z1, 2, none⟩ (.int .i64 0)).setCell ⟨z1, 3, none⟩ (.int .i64 1)).setCell ⟨z1, 4, none⟩ (.bool false)).setCell ⟨z1, 5, none⟩ (.slice none 0 0)).setCell ⟨z1, 6, none⟩ (.int .i64 0)).setCell ⟨z1, 7, none⟩ (.int .i64 0)) := hW'
  rw [← e9]
  clear e9 hW' g0 g1 g2 g3 g4 g5 g6 g7 f0 f1 f2 f3 f4 f5 f6 f7
  obtain ⟨g0, g1, g2, g3, g4, g5, g6, g7⟩ := b9.cells
  exact bodyPost_ret (v := tupV firstT (.slice none 0 0)) (by unfold tupV; simp [results, Try.results31, go_sem, g0, g1, g2, g3, g4, g5, g6, g7]) rfl ⟨⟨none, 0, 0, rfl, Nat.le_refl _, OwnF.of (World.ownsRow_nil _ _ _ _)⟩, B9⟩
set_option maxRecDepth 100000 in
set_option maxHeartbeats 8000000 in
theorem ownE_any (t : TupP) (A : Option Addr) (n c : Nat) (w : World) (hS : Es w w.heap.size A n t.lg) (hn : n ≤ 100000) :
    Calls Try.prog 34 #[tupV t (.slice A n c)] w fun e w' => (∃ A' c', e = .returned (tupV t (.slice A' n c')) ∧ n ≤ c' ∧ OwnE w' w.heap.size (.slice A' n c') n t.lg) ∧ Below w.heap.size w w' := by
  obtain ⟨z1, hz1⟩ : ∃ z, z = w.heap.size := ⟨_, rfl⟩
  obtain ⟨w1, hw1⟩ : ∃ x, x = w.alloc (.cells #[.int .i64 t.sn.ix, .int .i64 t.sn.tm, .int .i64 t.sn.sm, .int .i64 t.sn.lv, .bool t.sn.fn, .slice A n c, .int .i64 t.tm, .int .i64 t.vt] 26) := ⟨_, rfl⟩
  have bb : Below w.heap.size w w1 := by rw [hw1]; exact below_al (below_d0 _) _
  have bz : BoxU w1 z1 t (.slice A n c) := by rw [hw1, hz1]; exact BoxU.new w t _
  replace hS := hS.on bb bb.size
  have B1 := bb
  clear bb
  obtain ⟨z2, hz2⟩ : ∃ z, z = w1.heap.size := ⟨_, rfl⟩
  obtain ⟨w2, hw2⟩ : ∃ x, x = w1.alloc (.cells #[.int .i64 0, .int .i64 0, .int .i64 0, .int .i64 0, .bool false, .slice none 0 0, .int .i64 0, .int .i64 0] 26) := ⟨_, rfl⟩
  have bb : Below w1.heap.size w1 w2 := by rw [hw2]; exact below_al (below_d0 _) _
  have br : BoxU w2 z2 noneT (.slice none 0 0) := by rw [hw2, hz2]; exact BoxU.new w1 noneT _
  replace bz := bz.below bb
  replace hS := hS.on bb bb.size
  have B2 := B1.trans (bb.mono B1.size)
  clear bb B1
  have hp2 : z1 + 1 = z2 := by rw [hz2, hw1, hz1]; simp
  have lz2 : w.heap.size ≤ z2 := by omega
  have ne12 : z1 ≠ z2 := by omega
  have HZZ1 := Lib.hid (show w.heap.size ≤ z1 by omega)
  have HE := Lib.hid (⟨hw1, hw2, hz1, hp2⟩ : _ ∧ _ ∧ _ ∧ _)
  have HLZ := Lib.hid lz2
  clear hw1 hz1 hw2 hz2 hp2 lz2
  unfold tupV
  go_enter Try.func34, Try.ntmps34
  skip
  obtain ⟨k0, k1, k2, k3, k4, k5, k6, k7⟩ := bz.cells
  go_wp2_with fail
  clear k0 k1 k2 k3 k4 k5 k6 k7
  rw [← HE.out.1, ← HE.out.2.1, ← HE.out.2.2.1]
  (try rw [HE.out.2.2.2])
  clear HE
  have B2x := B2
  refine Calls.mono (show Calls Try.prog 60 #[.slice A n c] w2 (fun e w' => (∃ A' c', e = .returned (.slice A' n c') ∧ n ≤ c' ∧ OwnE w' w2.heap.size (.slice A' n c') n t.lg) ∧ Below w2.heap.size w2 w') from clone_any A n c t.lg w2 hS hn) ?_
  intro e w3 hh
  obtain ⟨⟨A5, c5, rfl, hc5, own⟩, bb⟩ := hh
  (try clear hh)
  replace bz := bz.below bb
  replace br := br.below bb
  replace hS := hS.on bb bb.size
  have B3 := B2.trans (bb.mono B2.size)
  clear bb B2
  replace own := own_low own B2x.size
  clear B2x
  obtain ⟨k0, k1, k2, k3, k4, k5, k6, k7⟩ := bz.cells
  obtain ⟨g0, g1, g2, g3, g4, g5, g6, g7⟩ := br.cells
  have f0 := br.frozen 0
  have f1 := br.frozen 1
  have f2 := br.frozen 2
  have f3 := br.frozen 3
  have f4 := br.frozen 4
  have f5 := br.frozen 5
  have f6 := br.frozen 6
  have f7 := br.frozen 7
  have f50 := bz.frozen 5
  have hzz : ¬ z2 = z1 := fun h => ne12 h.symm
  have hzz2 : ¬ z1 = z2 := ne12
  go_wp2_with fail
  clear k0 k1 k2 k3 k4 k5 k6 k7
  clear f50 hzz hzz2
  have HZ1 := Lib.hid HZZ1.out
  have bz5 : BoxU (w3.setCell ⟨z1, 5, none⟩ (.slice A5 n c5)) z1 t (.slice A5 n c5) := put5_boxU bz _
  have br5 : BoxU (w3.setCell ⟨z1, 5, none⟩ (.slice A5 n c5)) z2 noneT (.slice none 0 0) := set_boxU br (fun h => ne12 h.symm)
  have own5 := set_ownU (i := 5) (x := .slice A5 n c5) bz own
  obtain ⟨W', hW'⟩ : ∃ W', W' = putU (w3.setCell ⟨z1, 5, none⟩ (.slice A5 n c5)) z2 t (.slice A5 n c5) := ⟨_, rfl⟩
  have b9 := putU_box br5 t (.slice A5 n c5)
  have B9 := putU_below HLZ.out t (.slice A5 n c5) (B3.setCell (p := ⟨z1, 5, none⟩) HZ1.out (.slice A5 n c5))
  have own9 : OwnE W' w.heap.size (.slice A5 n c5) n t.lg := by rw [hW']; exact putU_own br5 own5
  rw [← hW'] at b9 B9
  have e9 : W' = (((((((((w3.setCell ⟨z1, 5, none⟩ (.slice A5 n c5)).setCell ⟨z2, 0, none⟩ (.int .i64 t.sn.ix)).setCell ⟨z2, 1, none⟩ (.int .i64 t.sn.tm)).setCell ⟨z2, 2, none⟩ (.int .i64 t.sn.sm)).setCell ⟨z2, 3, none⟩ (.int .i64 t.sn.lv)).setCell ⟨z2, 4, none⟩ (.bool t.sn.fn)).setCell ⟨z2, 5, none⟩ (.slice A5 n c5)).setCell ⟨z2, 6, none⟩ (.int .i64 t.tm)).setCell ⟨z2, 7, none⟩ (.int .i64 t.vt)) := hW'
  rw [← e9]
  clear e9 hW' g0 g1 g2 g3 g4 g5 g6 g7 f0 f1 f2 f3 f4 f5 f6 f7
  obtain ⟨g0, g1, g2, g3, g4, g5, g6, g7⟩ := b9.cells
  exact bodyPost_ret (v := tupV t (.slice A5 n c5)) (by unfold tupV; simp [results, Try.results34, go_sem, g0, g1, g2, g3, g4, g5, g6, g7]) rfl ⟨⟨A5, c5, rfl, hc5, own9⟩, B9⟩
theorem own12 (t : TupP) (A : Option Addr) (n c : Nat) (w : World) (hS : Es w w.heap.size A n t.lg) (hn : n ≤ 100000) :
    Calls Try.prog 34 #[tupV t (.slice A n c)] w (OutV t w) :=
  (ownE_any t A n c w hS hn).mono (by rintro e w' ⟨⟨A', c', h1, h2, h3⟩, hb⟩; exact ⟨⟨A', n, c', h1, h2, OwnF.of h3⟩, hb⟩)
set_option maxRecDepth 100000 in
set_option maxHeartbeats 8000000 in
theorem same12_0 (a b : TupP) (A A' : Option Addr) (n n' c c' : Nat) (w : World) (hS : Es w w.heap.size A n a.lg) (hS' : Es w w.heap.size A' n' b.lg) (hn : n ≤ 100000) (hn' : n' ≤ 100000) (c0 : ¬ a.sn = b.sn) :
    Calls Try.prog 33 #[tupV a (.slice A n c), tupV b (.slice A' n' c')] w fun e w' => (∃ r, SameT a b r ∧ e = .returned (.bool r)) ∧ Below w.heap.size w w' := by
  have q0 : ∀ W : World, (binOp .eql 23 (.agg #[.int .i64 a.sn.ix, .int .i64 a.sn.tm, .int .i64 a.sn.sm, .int .i64 a.sn.lv, .bool a.sn.fn]) (.agg #[.int .i64 b.sn.ix, .int .i64 b.sn.tm, .int .i64 b.sn.sm, .int .i64 b.sn.lv, .bool b.sn.fn])).run Try.prog W = .ok (.bool false) W := fun W => by rw [eql_st]; simp [c0]
  have HN := Lib.hid (show a ≠ b from fun h => c0 (by rw [h]))
  clear c0
  obtain ⟨z1, hz1⟩ : ∃ z, z = w.heap.size := ⟨_, rfl⟩
  obtain ⟨w1, hw1⟩ : ∃ x, x = w.alloc (.cells #[.int .i64 a.sn.ix, .int .i64 a.sn.tm, .int .i64 a.sn.sm, .int .i64 a.sn.lv, .bool a.sn.fn, .slice A n c, .int .i64 a.tm, .int .i64 a.vt] 26) := ⟨_, rfl⟩
  have bb : Below w.heap.size w w1 := by rw [hw1]; exact below_al (below_d0 _) _
  have bz : BoxU w1 z1 a (.slice A n c) := by rw [hw1, hz1]; exact BoxU.new w a _
  replace hS := hS.on bb bb.size
  replace hS' := hS'.on bb bb.size
  have B1 := bb
  clear bb
  obtain ⟨z2, hz2⟩ : ∃ z, z = w1.heap.size := ⟨_, rfl⟩
  obtain ⟨w2, hw2⟩ : ∃ x, x = w1.alloc (.cells #[.int .i64 b.sn.ix, .int .i64 b.sn.tm, .int .i64 b.sn.sm, .int .i64 b.sn.lv, .bool b.sn.fn, .slice A' n' c', .int .i64 b.tm, .int .i64 b.vt] 26) := ⟨_, rfl⟩
  have bb : Below w1.heap.size w1 w2 := by rw [hw2]; exact below_al (below_d0 _) _
  have bt : BoxU w2 z2 b (.slice A' n' c') := by rw [hw2, hz2]; exact BoxU.new w1 b _
  replace bz := bz.below bb
  replace hS := hS.on bb bb.size
  replace hS' := hS'.on bb bb.size
  have B2 := B1.trans (bb.mono B1.size)
  clear bb B1
  have hp2 : z1 + 1 = z2 := by rw [hz2, hw1, hz1]; simp
  have lz2 : w.heap.size ≤ z2 := by omega
  have ne12 : z1 ≠ z2 := by omega
  have HE := Lib.hid (⟨hw1, hw2, hz1, hp2⟩ : _ ∧ _ ∧ _ ∧ _)
  have HLZ := Lib.hid lz2
  clear hw1 hz1 hw2 hz2 hp2 lz2
  unfold tupV
  go_enter Try.func33, Try.ntmps33
  obtain ⟨k0, k1, k2, k3, k4, k5, k6, k7⟩ := bz.cells
  obtain ⟨j0, j1, j2, j3, j4, j5, j6, j7⟩ := bt.cells
  go_wp2_with fail
  clear k0 k1 k2 k3 k4 k5 k6 k7
  clear j0 j1 j2 j3 j4 j5 j6 j7
  go_ret
  rw [← HE.out.1, ← HE.out.2.1]
  first | exact ⟨⟨false, sameT_no HN.out, rfl⟩, B2⟩ | exact ⟨.inl ⟨sameT_no HN.out, rfl⟩, B2⟩
set_option maxRecDepth 100000 in
set_option maxHeartbeats 8000000 in
theorem same12_1 (a b : TupP) (A A' : Option Addr) (n n' c c' : Nat) (w : World) (hS : Es w w.heap.size A n a.lg) (hS' : Es w w.heap.size A' n' b.lg) (hn : n ≤ 100000) (hn' : n' ≤ 100000) (c0 : a.sn = b.sn) (c1 : ¬ a.tm = b.tm) :
    Calls Try.prog 33 #[tupV a (.slice A n c), tupV b (.slice A' n' c')] w fun e w' => (∃ r, SameT a b r ∧ e = .returned (.bool r)) ∧ Below w.heap.size w w' := by
  have q0 : ∀ W : World, (binOp .eql 23 (.agg #[.int .i64 a.sn.ix, .int .i64 a.sn.tm, .int .i64 a.sn.sm, .int .i64 a.sn.lv, .bool a.sn.fn]) (.agg #[.int .i64 b.sn.ix, .int .i64 b.sn.tm, .int .i64 b.sn.sm, .int .i64 b.sn.lv, .bool b.sn.fn])).run Try.prog W = .ok (.bool true) W := fun W => by rw [eql_st]; simp [c0]
  have q1 : (a.tm == b.tm) = false := by simpa using c1
  have HN := Lib.hid (show a ≠ b from fun h => c1 (by rw [h]))
  clear c0 c1
  obtain ⟨z1, hz1⟩ : ∃ z, z = w.heap.size := ⟨_, rfl⟩
  obtain ⟨w1, hw1⟩ : ∃ x, x = w.alloc (.cells #[.int .i64 a.sn.ix, .int .i64 a.sn.tm, .int .i64 a.sn.sm, .int .i64 a.sn.lv, .bool a.sn.fn, .slice A n c, .int .i64 a.tm, .int .i64 a.vt] 26) := ⟨_, rfl⟩
  have bb : Below w.heap.size w w1 := by rw [hw1]; exact below_al (below_d0 _) _
  have bz : BoxU w1 z1 a (.slice A n c) := by rw [hw1, hz1]; exact BoxU.new w a _
  replace hS := hS.on bb bb.size
  replace hS' := hS'.on bb bb.size
  have B1 := bb
  clear bb
  obtain ⟨z2, hz2⟩ : ∃ z, z = w1.heap.size := ⟨_, rfl⟩
  obtain ⟨w2, hw2⟩ : ∃ x, x = w1.alloc (.cells #[.int .i64 b.sn.ix, .int .i64 b.sn.tm, .int .i64 b.sn.sm, .int .i64 b.sn.lv, .bool b.sn.fn, .slice A' n' c', .int .i64 b.tm, .int .i64 b.vt] 26) := ⟨_, rfl⟩
  have bb : Below w1.heap.size w1 w2 := by rw [hw2]; exact below_al (below_d0 _) _
  have bt : BoxU w2 z2 b (.slice A' n' c') := by rw [hw2, hz2]; exact BoxU.new w1 b _
  replace bz := bz.below bb
  replace hS := hS.on bb bb.size
  replace hS' := hS'.on bb bb.size
  have B2 := B1.trans (bb.mono B1.size)
  clear bb B1
  have hp2 : z1 + 1 = z2 := by rw [hz2, hw1, hz1]; simp
  have lz2 : w.heap.size ≤ z2 := by omega
  have ne12 : z1 ≠ z2 := by omega
  have HE := Lib.hid (⟨hw1, hw2, hz1, hp2⟩ : _ ∧ _ ∧ _ ∧ _)
  have HLZ := Lib.hid lz2
  clear hw1 hz1 hw2 hz2 hp2 lz2
  unfold tupV
  go_enter Try.func33, Try.ntmps33
  obtain ⟨k0, k1, k2, k3, k4, k5, k6, k7⟩ := bz.cells
  obtain ⟨j0, j1, j2, j3, j4, j5, j6, j7⟩ := bt.cells
  go_wp2_with fail
  clear k0 k1 k2 k3 k4 k5 k6 k7
  clear j0 j1 j2 j3 j4 j5 j6 j7
  go_ret
  rw [← HE.out.1, ← HE.out.2.1]
  first | exact ⟨⟨false, sameT_no HN.out, rfl⟩, B2⟩ | exact ⟨.inl ⟨sameT_no HN.out, rfl⟩, B2⟩
set_option maxRecDepth 100000 in
set_option maxHeartbeats 8000000 in
theorem same12_2 (a b : TupP) (A A' : Option Addr) (n n' c c' : Nat) (w : World) (hS : Es w w.heap.size A n a.lg) (hS' : Es w w.heap.size A' n' b.lg) (hn : n ≤ 100000) (hn' : n' ≤ 100000) (c0 : a.sn = b.sn) (c1 : a.tm = b.tm) (c2 : ¬ a.vt = b.vt) :
    Calls Try.prog 33 #[tupV a (.slice A n c), tupV b (.slice A' n' c')] w fun e w' => (∃ r, SameT a b r ∧ e = .returned (.bool r)) ∧ Below w.heap.size w w' := by
  have q0 : ∀ W : World, (binOp .eql 23 (.agg #[.int .i64 a.sn.ix, .int .i64 a.sn.tm, .int .i64 a.sn.sm, .int .i64 a.sn.lv, .bool a.sn.fn]) (.agg #[.int .i64 b.sn.ix, .int .i64 b.sn.tm, .int .i64 b.sn.sm, .int .i64 b.sn.lv, .bool b.sn.fn])).run Try.prog W = .ok (.bool true) W := fun W => by rw [eql_st]; simp [c0]
  have q1 : (a.tm == b.tm) = true := by simpa using c1
  have q2 : (a.vt == b.vt) = false := by simpa using c2
  have HN := Lib.hid (show a ≠ b from fun h => c2 (by rw [h]))
  clear c0 c1 c2
  obtain ⟨z1, hz1⟩ : ∃ z, z = w.heap.size := ⟨_, rfl⟩
  obtain ⟨w1, hw1⟩ : ∃ x, x = w.alloc (.cells #[.int .i64 a.sn.ix, .int .i64 a.sn.tm, .int .i64 a.sn.sm, .int .i64 a.sn.lv, .bool a.sn.fn, .slice A n c, .int .i64 a.tm, .int .i64 a.vt] 26) := ⟨_, rfl⟩
  have bb : Below w.heap.size w w1 := by rw [hw1]; exact below_al (below_d0 _) _
  have bz : BoxU w1 z1 a (.slice A n c) := by rw [hw1, hz1]; exact BoxU.new w a _
  replace hS := hS.on bb bb.size
  replace hS' := hS'.on bb bb.size
  have B1 := bb
  clear bb
  obtain ⟨z2, hz2⟩ : ∃ z, z = w1.heap.size := ⟨_, rfl⟩
  obtain ⟨w2, hw2⟩ : ∃ x, x = w1.alloc (.cells #[.int .i64 b.sn.ix, .int .i64 b.sn.tm, .int .i64 b.sn.sm, .int .i64 b.sn.lv, .bool b.sn.fn, .slice A' n' c', .int .i64 b.tm, .int .i64 b.vt] 26) := ⟨_, rfl⟩
  have bb : Below w1.heap.size w1 w2 := by rw [hw2]; exact below_al (below_d0 _) _
  have bt : BoxU w2 z2 b (.slice A' n' c') := by rw [hw2, hz2]; exact BoxU.new w1 b _
  replace bz := bz.below bb
  replace hS := hS.on bb bb.size
  replace hS' := hS'.on bb bb.size
  have B2 := B1.trans (bb.mono B1.size)
  clear bb B1
  have hp2 : z1 + 1 = z2 := by rw [hz2, hw1, hz1]; simp
  have lz2 : w.heap.size ≤ z2 := by omega
  have ne12 : z1 ≠ z2 := by omega
  have HE := Lib.hid (⟨hw1, hw2, hz1, hp2⟩ : _ ∧ _ ∧ _ ∧ _)
  have HLZ := Lib.hid lz2
  clear hw1 hz1 hw2 hz2 hp2 lz2
  unfold tupV
  go_enter Try.func33, Try.ntmps33
  obtain ⟨k0, k1, k2, k3, k4, k5, k6, k7⟩ := bz.cells
  obtain ⟨j0, j1, j2, j3, j4, j5, j6, j7⟩ := bt.cells
  go_wp2_with fail
  clear k0 k1 k2 k3 k4 k5 k6 k7
  clear j0 j1 j2 j3 j4 j5 j6 j7
  go_ret
  rw [← HE.out.1, ← HE.out.2.1]
  first | exact ⟨⟨false, sameT_no HN.out, rfl⟩, B2⟩ | exact ⟨.inl ⟨sameT_no HN.out, rfl⟩, B2⟩
set_option maxRecDepth 100000 in
set_option maxHeartbeats 8000000 in
theorem same12_3 (a b : TupP) (A A' : Option Addr) (n n' c c' : Nat) (w : World) (hS : Es w w.heap.size A n a.lg) (hS' : Es w w.heap.size A' n' b.lg) (hn : n ≤ 100000) (hn' : n' ≤ 100000) (c0 : a.sn = b.sn) (c1 : a.tm = b.tm) (c2 : a.vt = b.vt) :
    Calls Try.prog 33 #[tupV a (.slice A n c), tupV b (.slice A' n' c')] w fun e w' => (∃ r, SameT a b r ∧ e = .returned (.bool r)) ∧ Below w.heap.size w w' := by
  have q0 : ∀ W : World, (binOp .eql 23 (.agg #[.int .i64 a.sn.ix, .int .i64 a.sn.tm, .int .i64 a.sn.sm, .int .i64 a.sn.lv, .bool a.sn.fn]) (.agg #[.int .i64 b.sn.ix, .int .i64 b.sn.tm, .int .i64 b.sn.sm, .int .i64 b.sn.lv, .bool b.sn.fn])).run Try.prog W = .ok (.bool true) W := fun W => by rw [eql_st]; simp [c0]
  have q1 : (a.tm == b.tm) = true := by simpa using c1
  have q2 : (a.vt == b.vt) = true := by simpa using c2
  have HN := Lib.hid (show SameT a b (eqE a.lg b.lg) from ⟨fun h => tup_ext c0 c1 c2 (eqE_iff.1 h), fun h => eqE_true (by rw [h])⟩)
  clear c0 c1 c2
  obtain ⟨z1, hz1⟩ : ∃ z, z = w.heap.size := ⟨_, rfl⟩
  obtain ⟨w1, hw1⟩ : ∃ x, x = w.alloc (.cells #[.int .i64 a.sn.ix, .int .i64 a.sn.tm, .int .i64 a.sn.sm, .int .i64 a.sn.lv, .bool a.sn.fn, .slice A n c, .int .i64 a.tm, .int .i64 a.vt] 26) := ⟨_, rfl⟩
  have bb : Below w.heap.size w w1 := by rw [hw1]; exact below_al (below_d0 _) _
  have bz : BoxU w1 z1 a (.slice A n c) := by rw [hw1, hz1]; exact BoxU.new w a _
  replace hS := hS.on bb bb.size
  replace hS' := hS'.on bb bb.size
  have B1 := bb
  clear bb
  obtain ⟨z2, hz2⟩ : ∃ z, z = w1.heap.size := ⟨_, rfl⟩
  obtain ⟨w2, hw2⟩ : ∃ x, x = w1.alloc (.cells #[.int .i64 b.sn.ix, .int .i64 b.sn.tm, .int .i64 b.sn.sm, .int .i64 b.sn.lv, .bool b.sn.fn, .slice A' n' c', .int .i64 b.tm, .int .i64 b.vt] 26) := ⟨_, rfl⟩
  have bb : Below w1.heap.size w1 w2 := by rw [hw2]; exact below_al (below_d0 _) _
  have bt : BoxU w2 z2 b (.slice A' n' c') := by rw [hw2, hz2]; exact BoxU.new w1 b _
  replace bz := bz.below bb
  replace hS := hS.on bb bb.size
  replace hS' := hS'.on bb bb.size
  have B2 := B1.trans (bb.mono B1.size)
  clear bb B1
  have hp2 : z1 + 1 = z2 := by rw [hz2, hw1, hz1]; simp
  have lz2 : w.heap.size ≤ z2 := by omega
  have ne12 : z1 ≠ z2 := by omega
  have HE := Lib.hid (⟨hw1, hw2, hz1, hp2⟩ : _ ∧ _ ∧ _ ∧ _)
  have HLZ := Lib.hid lz2
  clear hw1 hz1 hw2 hz2 hp2 lz2
  unfold tupV
  go_enter Try.func33, Try.ntmps33
  obtain ⟨k0, k1, k2, k3, k4, k5, k6, k7⟩ := bz.cells
  obtain ⟨j0, j1, j2, j3, j4, j5, j6, j7⟩ := bt.cells
  go_wp2_with fail
  clear k0 k1 k2 k3 k4 k5 k6 k7
  clear j0 j1 j2 j3 j4 j5 j6 j7
  rw [← HE.out.1, ← HE.out.2.1, ← HE.out.2.2.1]
  (try rw [HE.out.2.2.2])
  clear HE
  refine Calls.mono (show Calls Try.prog 59 #[.slice A n c, .slice A' n' c'] w2 (fun e w' => e = .returned (.bool (eqE a.lg b.lg)) ∧ Below w2.heap.size w2 w') from equal_any A A' n n' c c' a.lg b.lg w2 hS hS' (by omega) (by omega)) ?_
  intro e w3 hh
  obtain ⟨rfl, bb⟩ := hh
  (try clear hh)
  replace bz := bz.below bb
  replace bt := bt.below bb
  replace hS := hS.on bb bb.size
  replace hS' := hS'.on bb bb.size
  have B3 := B2.trans (bb.mono B2.size)
  clear bb B2
  obtain ⟨r, hr⟩ : ∃ r, r = eqE a.lg b.lg := ⟨_, rfl⟩
  rw [← hr]
  have HR := Lib.hid (show SameT a b r by rw [hr]; exact HN.out)
  clear hr HN
  go_wp2_with fail
  go_ret
  refine ⟨?_, B3⟩
  first | exact ⟨r, HR.out, rfl⟩ | (cases r; exact .inl ⟨HR.out, rfl⟩; exact .inr ⟨HR.out, rfl⟩)
theorem same12 (a b : TupP) (A A' : Option Addr) (n n' c c' : Nat) (w : World) (hS : Es w w.heap.size A n a.lg) (hS' : Es w w.heap.size A' n' b.lg) (hn : n ≤ 100000) (hn' : n' ≤ 100000) :
    Calls Try.prog 33 #[tupV a (.slice A n c), tupV b (.slice A' n' c')] w fun e w' => (∃ r, SameT a b r ∧ e = .returned (.bool r)) ∧ Below w.heap.size w w' := by
  by_cases c0 : a.sn = b.sn
  case neg => exact same12_0 a b A A' n n' c c' w hS hS' hn hn' c0
  by_cases c1 : a.tm = b.tm
  case neg => exact same12_1 a b A A' n n' c c' w hS hS' hn hn' c0 c1
  by_cases c2 : a.vt = b.vt
  case neg => exact same12_2 a b A A' n n' c c' w hS hS' hn hn' c0 c1 c2
  exact same12_3 a b A A' n n' c c' w hS hS' hn hn' c0 c1 c2
end Go.Proofs.Ytbhnlmlaebngmaa
