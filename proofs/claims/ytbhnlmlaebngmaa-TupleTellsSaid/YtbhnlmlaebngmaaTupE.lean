/-
  moultref06.Same (rows of entries), the document's Same, First (of tuples): their contracts.
-/
import Derived.Test.YtbhnlmlaebngmaaTupI
namespace Go.Proofs.Ytbhnlmlaebngmaa
open Go.RowKit
set_option linter.unusedVariables false
set_option linter.unusedSimpArgs false

theorem fields_en : (Try.prog.fieldsOf 39).toList = [⟨"Term", 3, 0, false, "", "", 0⟩, ⟨"Kind", 3, 1, false, "", "", 8⟩, ⟨"Value", 3, 2, false, "", "", 16⟩] := by kernel_rfl
/-- '==' of entries. -/
theorem equal_en (s t : EnP) (w : World) : (Op.equalIn 10000 39 (.agg #[.int .i64 s.tm, .int .i64 s.kd, .int .i64 s.vl]) (.agg #[.int .i64 t.tm, .int .i64 t.kd, .int .i64 t.vl])).run Try.prog w = .ok (decide (s = t)) w := by
  obtain ⟨a, b, c⟩ := s
  obtain ⟨a', b', c'⟩ := t
  rw [run_equalIn_agg w 9999 _ _ _ (by kernel_rfl) (by kernel_rfl), fields_en]
  by_cases h1 : a = a' <;> by_cases h2 : b = b' <;> by_cases h3 : c = c' <;> simp [Op.eqFields, part, go_sem, h1, h2, h3]
def eqE (l m : List EnP) : Bool := decide (l = m)
theorem eqE_true {l m : List EnP} (h : l = m) : eqE l m = true := decide_eq_true h
theorem eqE_false {l m : List EnP} (h : l ≠ m) : eqE l m = false := decide_eq_false h
theorem eqE_iff {l m : List EnP} : eqE l m = true ↔ l = m := by simp [eqE]

set_option maxRecDepth 100000 in
set_option maxHeartbeats 1000000 in
theorem rents_any (A A' : Option Addr) (n n' c c' : Nat) (l m : List EnP) (w : World) (hr : Es w w.heap.size A n l) (hr' : Es w w.heap.size A' n' m) (hn : n ≤ 1000000000) (hn' : n' ≤ 1000000000) :
    Calls Try.prog 36 #[.slice A n c, .slice A' n' c'] w fun e w' => e = .returned (.bool (eqE l m)) ∧ Below w.heap.size w w' := by
  have Hl := Lib.hid hr.len
  have Hm := Lib.hid hr'.len
  by_cases hnn : n = n'
  · subst hnn
    go_enter Try.func36, Try.ntmps36
    go_wp2
    go_loopw [5] (fun i wr => ∃ k : Nat, k ≤ n ∧ i = .int .i64 k ∧ l.take k = m.take k ∧ Below w.heap.size w wr) (fun i _ => n - (intOf i).toNat)
    case atStart => exact ⟨0, Nat.zero_le _, rfl, rfl, Below.refl _ _⟩
    case round =>
      obtain ⟨k, hk, rfl, heq, hB⟩ := hrel
      have Heq := Lib.hid heq
      clear heq
      by_cases hlt : k < n
      · obtain ⟨b, off, e, rfl, hb, he, c0, c1, c2⟩ := Es.at_ (hr.on hB hB.size) hlt
        obtain ⟨b', off', e', rfl, hb', he', c0', c1', c2'⟩ := Es.at_ (hr'.on hB hB.size) hlt
        have HB := Lib.hid hB
        by_cases hee : e = e'
        · have Hn := Lib.hid (show l.take (k + 1) = m.take (k + 1) by rw [take_succ he, take_succ he', Heq.out, hee])
          have hq : ∀ w, (Op.equalIn 10000 39 (.agg #[.int .i64 e.tm, .int .i64 e.kd, .int .i64 e.vl]) (.agg #[.int .i64 e'.tm, .int .i64 e'.kd, .int .i64 e'.vl])).run Try.prog w = .ok true w := fun w => by rw [equal_en, decide_eq_true hee]
          clear hee he he' hB
          go_wp2
          go_region
          all_goals
            go_wp2
            go_roundw
            case rel => exact ⟨k + 1, by omega, by go_num, Hn.out, HB.out.drew⟩
            case measure => simp [intOf]; omega
        · have Hf := Lib.hid (eqE_false (l := l) (m := m) (fun h => hee (by rw [h, he'] at he; exact (Option.some.inj he).symm)))
          have hq : ∀ w, (Op.equalIn 10000 39 (.agg #[.int .i64 e.tm, .int .i64 e.kd, .int .i64 e.vl]) (.agg #[.int .i64 e'.tm, .int .i64 e'.kd, .int .i64 e'.vl])).run Try.prog w = .ok false w := fun w => by rw [equal_en, decide_eq_false hee]
          clear hee he he' hB
          go_wp2
          go_region
          all_goals
            go_wp2
            go_ret
            exact ⟨ret_bool (by rw [Hf.out]), HB.out.drew⟩
      · have hkn : k = n := by omega
        have hf : eqE l m = true := eqE_true (by
          have h1 := Heq.out
          rwa [List.take_of_length_le (by rw [Hl.out]; omega), List.take_of_length_le (by rw [Hm.out]; omega)] at h1)
        have Hf := Lib.hid hf
        clear hf hkn
        go_wp2
        go_ret
        exact ⟨ret_bool (by rw [Hf.out]), hB⟩
  · have Hf := Lib.hid (eqE_false (l := l) (m := m) (fun h => hnn (by rw [← Hl.out, ← Hm.out, h])))
    go_enter Try.func36, Try.ntmps36
    go_wp2
    go_ret
    exact ⟨ret_bool (by rw [Hf.out]), Below.refl _ _⟩


def SameT (a b : TupP) (r : Bool) : Prop := r = true ↔ a = b
theorem SameT.same {a b : TupP} {r q : Bool} (h : SameT a b r) (h' : SameT a b q) : r = q := Bool.eq_iff_iff.2 (h.trans h'.symm)
theorem sameT_no {a b : TupP} (h : a ≠ b) : SameT a b false := ⟨(fun k => by cases k), fun k => absurd k h⟩
theorem sameT_yes {a b : TupP} (h : a = b) : SameT a b true := ⟨fun _ => h, fun _ => rfl⟩
theorem tup_ext {a b : TupP} (h1 : a.sn = b.sn) (h2 : a.tm = b.tm) (h3 : a.vt = b.vt) (h4 : a.lg = b.lg) : a = b := by
  cases a; cases b
  simp only at h1 h2 h3 h4
  subst h1 h2 h3 h4
  rfl
set_option maxRecDepth 100000 in
set_option maxHeartbeats 8000000 in
theorem rsameT_0 (a b : TupP) (A A' : Option Addr) (n n' c c' : Nat) (w : World) (hS : Es w w.heap.size A n a.lg) (hS' : Es w w.heap.size A' n' b.lg) (hn : n ≤ 1000000) (hn' : n' ≤ 1000000) (c0 : ¬ a.sn = b.sn) :
    Calls Try.prog 14 #[tupV a (.slice A n c), tupV b (.slice A' n' c')] w fun e w' => (∃ r, SameT a b r ∧ e = .returned (.bool r)) ∧ Below w.heap.size w w' := by
  have q0 : ∀ W : World, (binOp .eql 23 (.agg #[.int .i64 a.sn.ix, .int .i64 a.sn.tm, .int .i64 a.sn.sm, .int .i64 a.sn.lv, .bool a.sn.fn]) (.agg #[.int .i64 b.sn.ix, .int .i64 b.sn.tm, .int .i64 b.sn.sm, .int .i64 b.sn.lv, .bool b.sn.fn])).run Try.prog W = .ok (.bool false) W := fun W => by rw [eql_st]; simp [c0]
  have HN := Lib.hid (show a ≠ b from fun h => c0 (by rw [h]))
  clear c0
  obtain ⟨z1, hz1⟩ : ∃ z, z = w.heap.size := ⟨_, rfl⟩
  obtain ⟨w1, hw1⟩ : ∃ x, x = w.alloc (.cells #[.int .i64 a.sn.ix, .int .i64 a.sn.tm, .int .i64 a.sn.sm, .int .i64 a.sn.lv, .bool a.sn.fn, .slice A n c, .int .i64 a.tm, .int .i64 a.vt] 26) := ⟨_, rfl⟩
  have bb : Below w.heap.size w w1 := by rw [hw1]; exact below_al (below_d0 _) _
  have bz : BoxU w1 z1 a (.slice A n c) := by rw [hw1, hz1]; exact BoxU.new w a _
  replace hS := hS.on bb bb.size
  replace hS' := hS'.on bb bb.size
  have B1 := bb
  clear bb
  obtain ⟨z2, hz2⟩ : ∃ z, z = w1.heap.size := ⟨_, rfl⟩
  obtain ⟨w2, hw2⟩ : ∃ x, x = w1.alloc (.cells #[.int .i64 b.sn.ix, .int .i64 b.sn.tm, .int .i64 b.sn.sm, .int .i64 b.sn.lv, .bool b.sn.fn, .slice A' n' c', .int .i64 b.tm, .int .i64 b.vt] 26) := ⟨_, rfl⟩
  have bb : Below w1.heap.size w1 w2 := by rw [hw2]; exact below_al (below_d0 _) _
  have bt : BoxU w2 z2 b (.slice A' n' c') := by rw [hw2, hz2]; exact BoxU.new w1 b _
  replace bz := bz.below bb
  replace hS := hS.on bb bb.size
  replace hS' := hS'.on bb bb.size
  have B2 := B1.trans (bb.mono B1.size)
  clear bb B1
  have hp2 : z1 + 1 = z2 := by rw [hz2, hw1, hz1]; simp
  have lz2 : w.heap.size ≤ z2 := by omega
  have ne12 : z1 ≠ z2 := by omega
  have HE := Lib.hid (⟨hw1, hw2, hz1, hp2⟩ : _ ∧ _ ∧ _ ∧ _)
  have HLZ := Lib.hid lz2
  clear hw1 hz1 hw2 hz2 hp2 lz2
  unfold tupV
  go_enter Try.func14, Try.ntmps14
  obtain ⟨k0, k1, k2, k3, k4, k5, k6, k7⟩ := bz.cells
  obtain ⟨j0, j1, j2, j3, j4, j5, j6, j7⟩ := bt.cells
  go_wp2_with fail
  clear k0 k1 k2 k3 k4 k5 k6 k7
  clear j0 j1 j2 j3 j4 j5 j6 j7
  go_ret
  rw [← HE.out.1, ← HE.out.2.1]
  first | exact ⟨⟨false, sameT_no HN.out, rfl⟩, B2⟩ | exact ⟨.inl ⟨sameT_no HN.out, rfl⟩, B2⟩
set_option maxRecDepth 100000 in
set_option maxHeartbeats 8000000 in
theorem rsameT_1 (a b : TupP) (A A' : Option Addr) (n n' c c' : Nat) (w : World) (hS : Es w w.heap.size A n a.lg) (hS' : Es w w.heap.size A' n' b.lg) (hn : n ≤ 1000000) (hn' : n' ≤ 1000000) (c0 : a.sn = b.sn) (c1 : ¬ a.tm = b.tm) :
    Calls Try.prog 14 #[tupV a (.slice A n c), tupV b (.slice A' n' c')] w fun e w' => (∃ r, SameT a b r ∧ e = .returned (.bool r)) ∧ Below w.heap.size w w' := by
  have q0 : ∀ W : World, (binOp .eql 23 (.agg #[.int .i64 a.sn.ix, .int .i64 a.sn.tm, .int .i64 a.sn.sm, .int .i64 a.sn.lv, .bool a.sn.fn]) (.agg #[.int .i64 b.sn.ix, .int .i64 b.sn.tm, .int .i64 b.sn.sm, .int .i64 b.sn.lv, .bool b.sn.fn])).run Try.prog W = .ok (.bool true) W := fun W => by rw [eql_st]; simp [c0]
  have q1 : (a.tm == b.tm) = false := by simpa using c1
  have HN := Lib.hid (show a ≠ b from fun h => c1 (by rw [h]))
  clear c0 c1
  obtain ⟨z1, hz1⟩ : ∃ z, z = w.heap.size := ⟨_, rfl⟩
  obtain ⟨w1, hw1⟩ : ∃ x, x = w.alloc (.cells #[.int .i64 a.sn.ix, .int .i64 a.sn.tm, .int .i64 a.sn.sm, .int .i64 a.sn.lv, .bool a.sn.fn, .slice A n c, .int .i64 a.tm, .int .i64 a.vt] 26) := ⟨_, rfl⟩
  have bb : Below w.heap.size w w1 := by rw [hw1]; exact below_al (below_d0 _) _
  have bz : BoxU w1 z1 a (.slice A n c) := by rw [hw1, hz1]; exact BoxU.new w a _
  replace hS := hS.on bb bb.size
  replace hS' := hS'.on bb bb.size
  have B1 := bb
  clear bb
  obtain ⟨z2, hz2⟩ : ∃ z, z = w1.heap.size := ⟨_, rfl⟩
  obtain ⟨w2, hw2⟩ : ∃ x, x = w1.alloc (.cells #[.int .i64 b.sn.ix, .int .i64 b.sn.tm, .int .i64 b.sn.sm, .int .i64 b.sn.lv, .bool b.sn.fn, .slice A' n' c', .int .i64 b.tm, .int .i64 b.vt] 26) := ⟨_, rfl⟩
  have bb : Below w1.heap.size w1 w2 := by rw [hw2]; exact below_al (below_d0 _) _
  have bt : BoxU w2 z2 b (.slice A' n' c') := by rw [hw2, hz2]; exact BoxU.new w1 b _
  replace bz := bz.below bb
  replace hS := hS.on bb bb.size
  replace hS' := hS'.on bb bb.size
  have B2 := B1.trans (bb.mono B1.size)
  clear bb B1
  have hp2 : z1 + 1 = z2 := by rw [hz2, hw1, hz1]; simp
  have lz2 : w.heap.size ≤ z2 := by omega
  have ne12 : z1 ≠ z2 := by omega
  have HE := Lib.hid (⟨hw1, hw2, hz1, hp2⟩ : _ ∧ _ ∧ _ ∧ _)
  have HLZ := Lib.hid lz2
  clear hw1 hz1 hw2 hz2 hp2 lz2
  unfold tupV
  go_enter Try.func14, Try.ntmps14
  obtain ⟨k0, k1, k2, k3, k4, k5, k6, k7⟩ := bz.cells
  obtain ⟨j0, j1, j2, j3, j4, j5, j6, j7⟩ := bt.cells
  go_wp2_with fail
  clear k0 k1 k2 k3 k4 k5 k6 k7
  clear j0 j1 j2 j3 j4 j5 j6 j7
  go_ret
  rw [← HE.out.1, ← HE.out.2.1]
  first | exact ⟨⟨false, sameT_no HN.out, rfl⟩, B2⟩ | exact ⟨.inl ⟨sameT_no HN.out, rfl⟩, B2⟩
set_option maxRecDepth 100000 in
set_option maxHeartbeats 8000000 in
theorem rsameT_2 (a b : TupP) (A A' : Option Addr) (n n' c c' : Nat) (w : World) (hS : Es w w.heap.size A n a.lg) (hS' : Es w w.heap.size A' n' b.lg) (hn : n ≤ 1000000) (hn' : n' ≤ 1000000) (c0 : a.sn = b.sn) (c1 : a.tm = b.tm) (c2 : ¬ a.vt = b.vt) :
    Calls Try.prog 14 #[tupV a (.slice A n c), tupV b (.slice A' n' c')] w fun e w' => (∃ r, SameT a b r ∧ e = .returned (.bool r)) ∧ Below w.heap.size w w' := by
  have q0 : ∀ W : World, (binOp .eql 23 (.agg #[.int .i64 a.sn.ix, .int .i64 a.sn.tm, .int .i64 a.sn.sm, .int .i64 a.sn.lv, .bool a.sn.fn]) (.agg #[.int .i64 b.sn.ix, .int .i64 b.sn.tm, .int .i64 b.sn.sm, .int .i64 b.sn.lv, .bool b.sn.fn])).run Try.prog W = .ok (.bool true) W := fun W => by rw [eql_st]; simp [c0]
  have q1 : (a.tm == b.tm) = true := by simpa using c1
  have q2 : (a.vt == b.vt) = false := by simpa using c2
  have HN := Lib.hid (show a ≠ b from fun h => c2 (by rw [h]))
  clear c0 c1 c2
  obtain ⟨z1, hz1⟩ : ∃ z, z = w.heap.size := ⟨_, rfl⟩
  obtain ⟨w1, hw1⟩ : ∃ x, x = w.alloc (.cells #[.int .i64 a.sn.ix, .int .i64 a.sn.tm, .int .i64 a.sn.sm, .int .i64 a.sn.lv, .bool a.sn.fn, .slice A n c, .int .i64 a.tm, .int .i64 a.vt] 26) := ⟨_, rfl⟩
  have bb : Below w.heap.size w w1 := by rw [hw1]; exact below_al (below_d0 _) _
  have bz : BoxU w1 z1 a (.slice A n c) := by rw [hw1, hz1]; exact BoxU.new w a _
  replace hS := hS.on bb bb.size
  replace hS' := hS'.on bb bb.size
  have B1 := bb
  clear bb
  obtain ⟨z2, hz2⟩ : ∃ z, z = w1.heap.size := ⟨_, rfl⟩
  obtain ⟨w2, hw2⟩ : ∃ x, x = w1.alloc (.cells #[.int .i64 b.sn.ix, .int .i64 b.sn.tm, .int .i64 b.sn.sm, .int .i64 b.sn.lv, .bool b.sn.fn, .slice A' n' c', .int .i64 b.tm, .int .i64 b.vt] 26) := ⟨_, rfl⟩
  have bb : Below w1.heap.size w1 w2 := by rw [hw2]; exact below_al (below_d0 _) _
  have bt : BoxU w2 z2 b (.slice A' n' c') := by rw [hw2, hz2]; exact BoxU.new w1 b _
  replace bz := bz.below bb
  replace hS := hS.on bb bb.size
  replace hS' := hS'.on bb bb.size
  have B2 := B1.trans (bb.mono B1.size)
  clear bb B1
  have hp2 : z1 + 1 = z2 := by rw [hz2, hw1, hz1]; simp
  have lz2 : w.heap.size ≤ z2 := by omega
  have ne12 : z1 ≠ z2 := by omega
  have HE := Lib.hid (⟨hw1, hw2, hz1, hp2⟩ : _ ∧ _ ∧ _ ∧ _)
  have HLZ := Lib.hid lz2
  clear hw1 hz1 hw2 hz2 hp2 lz2
  unfold tupV
  go_enter Try.func14, Try.ntmps14
  obtain ⟨k0, k1, k2, k3, k4, k5, k6, k7⟩ := bz.cells
  obtain ⟨j0, j1, j2, j3, j4, j5, j6, j7⟩ := bt.cells
  go_wp2_with fail
  clear k0 k1 k2 k3 k4 k5 k6 k7
  clear j0 j1 j2 j3 j4 j5 j6 j7
  go_ret
  rw [← HE.out.1, ← HE.out.2.1]
  first | exact ⟨⟨false, sameT_no HN.out, rfl⟩, B2⟩ | exact ⟨.inl ⟨sameT_no HN.out, rfl⟩, B2⟩
set_option maxRecDepth 100000 in
set_option maxHeartbeats 8000000 in
theorem rsameT_3 (a b : TupP) (A A' : Option Addr) (n n' c c' : Nat) (w : World) (hS : Es w w.heap.size A n a.lg) (hS' : Es w w.heap.size A' n' b.lg) (hn : n ≤ 1000000) (hn' : n' ≤ 1000000) (c0 : a.sn = b.sn) (c1 : a.tm = b.tm) (c2 : a.vt = b.vt) :
    Calls Try.prog 14 #[tupV a (.slice A n c), tupV b (.slice A' n' c')] w fun e w' => (∃ r, SameT a b r ∧ e = .returned (.bool r)) ∧ Below w.heap.size w w' := by
  have q0 : ∀ W : World, (binOp .eql 23 (.agg #[.int .i64 a.sn.ix, .int .i64 a.sn.tm, .int .i64 a.sn.sm, .int .i64 a.sn.lv, .bool a.sn.fn]) (.agg #[.int .i64 b.sn.ix, .int .i64 b.sn.tm, .int .i64 b.sn.sm, .int .i64 b.sn.lv, .bool b.sn.fn])).run Try.prog W = .ok (.bool true) W := fun W => by rw [eql_st]; simp [c0]
  have q1 : (a.tm == b.tm) = true := by simpa using c1
  have q2 : (a.vt == b.vt) = true := by simpa using c2
  have HN := Lib.hid (show SameT a b (eqE a.lg b.lg) from ⟨fun h => tup_ext c0 c1 c2 (eqE_iff.1 h), fun h => eqE_true (by rw [h])⟩)
  clear c0 c1 c2
  obtain ⟨z1, hz1⟩ : ∃ z, z = w.heap.size := ⟨_, rfl⟩
  obtain ⟨w1, hw1⟩ : ∃ x, x = w.alloc (.cells #[.int .i64 a.sn.ix, .int .i64 a.sn.tm, .int .i64 a.sn.sm, .int .i64 a.sn.lv, .bool a.sn.fn, .slice A n c, .int .i64 a.tm, .int .i64 a.vt] 26) := ⟨_, rfl⟩
  have bb : Below w.heap.size w w1 := by rw [hw1]; exact below_al (below_d0 _) _
  have bz : BoxU w1 z1 a (.slice A n c) := by rw [hw1, hz1]; exact BoxU.new w a _
  replace hS := hS.on bb bb.size
  replace hS' := hS'.on bb bb.size
  have B1 := bb
  clear bb
  obtain ⟨z2, hz2⟩ : ∃ z, z = w1.heap.size := ⟨_, rfl⟩
  obtain ⟨w2, hw2⟩ : ∃ x, x = w1.alloc (.cells #[.int .i64 b.sn.ix, .int .i64 b.sn.tm, .int .i64 b.sn.sm, .int .i64 b.sn.lv, .bool b.sn.fn, .slice A' n' c', .int .i64 b.tm, .int .i64 b.vt] 26) := ⟨_, rfl⟩
  have bb : Below w1.heap.size w1 w2 := by rw [hw2]; exact below_al (below_d0 _) _
  have bt : BoxU w2 z2 b (.slice A' n' c') := by rw [hw2, hz2]; exact BoxU.new w1 b _
  replace bz := bz.below bb
  replace hS := hS.on bb bb.size
  replace hS' := hS'.on bb bb.size
  have B2 := B1.trans (bb.mono B1.size)
  clear bb B1
  have hp2 : z1 + 1 = z2 := by rw [hz2, hw1, hz1]; simp
  have lz2 : w.heap.size ≤ z2 := by omega
  have ne12 : z1 ≠ z2 := by omega
  have HE := Lib.hid (⟨hw1, hw2, hz1, hp2⟩ : _ ∧ _ ∧ _ ∧ _)
  have HLZ := Lib.hid lz2
  clear hw1 hz1 hw2 hz2 hp2 lz2
  unfold tupV
  go_enter Try.func14, Try.ntmps14
  obtain ⟨k0, k1, k2, k3, k4, k5, k6, k7⟩ := bz.cells
  obtain ⟨j0, j1, j2, j3, j4, j5, j6, j7⟩ := bt.cells
  go_wp2_with fail
  clear k0 k1 k2 k3 k4 k5 k6 k7
  clear j0 j1 j2 j3 j4 j5 j6 j7
  rw [← HE.out.1, ← HE.out.2.1, ← HE.out.2.2.1]
  (try rw [HE.out.2.2.2])
  clear HE
  refine Calls.mono (show Calls Try.prog 36 #[.slice A n c, .slice A' n' c'] w2 (fun e w' => e = .returned (.bool (eqE a.lg b.lg)) ∧ Below w2.heap.size w2 w') from rents_any A A' n n' c c' a.lg b.lg w2 hS hS' (by omega) (by omega)) ?_
  intro e w3 hh
  obtain ⟨rfl, bb⟩ := hh
  (try clear hh)
  replace bz := bz.below bb
  replace bt := bt.below bb
  replace hS := hS.on bb bb.size
  replace hS' := hS'.on bb bb.size
  have B3 := B2.trans (bb.mono B2.size)
  clear bb B2
  obtain ⟨r, hr⟩ : ∃ r, r = eqE a.lg b.lg := ⟨_, rfl⟩
  rw [← hr]
  have HR := Lib.hid (show SameT a b r by rw [hr]; exact HN.out)
  clear hr HN
  go_wp2_with fail
  go_ret
  refine ⟨?_, B3⟩
  first | exact ⟨r, HR.out, rfl⟩ | (cases r; exact .inl ⟨HR.out, rfl⟩; exact .inr ⟨HR.out, rfl⟩)
theorem rsameT_any (a b : TupP) (A A' : Option Addr) (n n' c c' : Nat) (w : World) (hS : Es w w.heap.size A n a.lg) (hS' : Es w w.heap.size A' n' b.lg) (hn : n ≤ 1000000) (hn' : n' ≤ 1000000) :
    Calls Try.prog 14 #[tupV a (.slice A n c), tupV b (.slice A' n' c')] w fun e w' => (∃ r, SameT a b r ∧ e = .returned (.bool r)) ∧ Below w.heap.size w w' := by
  by_cases c0 : a.sn = b.sn
  case neg => exact rsameT_0 a b A A' n n' c c' w hS hS' hn hn' c0
  by_cases c1 : a.tm = b.tm
  case neg => exact rsameT_1 a b A A' n n' c c' w hS hS' hn hn' c0 c1
  by_cases c2 : a.vt = b.vt
  case neg => exact rsameT_2 a b A A' n n' c c' w hS hS' hn hn' c0 c1 c2
  exact rsameT_3 a b A A' n n' c c' w hS hS' hn hn' c0 c1 c2
def firstT : TupP := ⟨firstP, [], 0, 0⟩
set_option maxRecDepth 100000 in
set_option maxHeartbeats 8000000 in
theorem rfirstT_any (w : World) : Calls Try.prog 32 #[] w fun e w' => e = .returned (tupV firstT (.slice none 0 0)) ∧ Below w.heap.size w w' := by
  obtain ⟨z1, hz1⟩ : ∃ z, z = w.heap.size := ⟨_, rfl⟩
  obtain ⟨w1, hw1⟩ : ∃ x, x = w.alloc (.cells #[.int .i64 0, .int .i64 0, .int .i64 0, .int .i64 0, .bool false, .slice none 0 0, .int .i64 0, .int .i64 0] 26) := ⟨_, rfl⟩
  have bb : Below w.heap.size w w1 := by rw [hw1]; exact below_al (below_d0 _) _
  have br : BoxU w1 z1 noneT (.slice none 0 0) := by rw [hw1, hz1]; exact BoxU.new w noneT _
  have B1 := bb
  clear bb
  have HE := Lib.hid (⟨hw1, hz1⟩ : _ ∧ _)
  have HLZ := Lib.hid (show w.heap.size ≤ z1 by omega)
  clear hw1 hz1
  go_enter Try.func32, Try.ntmps32
  go_wp2_with fail
  rw [← HE.out.1, ← HE.out.2]
  refine Calls.mono (show Calls Try.prog 58 #[] w1 (fun r w' => r = .returned firstP.v ∧ Below w1.heap.size w1 w') from rfirst_any w1) ?_
  intro e w2 hh
  obtain ⟨rfl, bb⟩ := hh
  (try clear hh)
  replace br := br.below bb
  have B2 := B1.trans (bb.mono B1.size)
  clear bb B1
  unfold StP.v firstP
  obtain ⟨g0, g1, g2, g3, g4, g5, g6, g7⟩ := br.cells
  have f0 := br.frozen 0
  have f1 := br.frozen 1
  have f2 := br.frozen 2
  have f3 := br.frozen 3
  have f4 := br.frozen 4
  have f5 := br.frozen 5
  have f6 := br.frozen 6
  have f7 := br.frozen 7
  go_wp2_with fail
  obtain ⟨W', hW'⟩ : ∃ W', W' = putU w2 z1 firstT (.slice none 0 0) := ⟨_, rfl⟩
  have b9 := putU_box br firstT (.slice none 0 0)
  have B9 := putU_below HLZ.out firstT (.slice none 0 0) B2
  rw [← hW'] at b9 B9
  have e9 : W' = ((((((((w2.setCell ⟨z1, 0, none⟩ (.int .i64 0)).setCell ⟨z1, 1, none⟩ (.int .i64 0)).setCell ⟨z1, 2, none⟩ (.int .i64 0)).setCell ⟨z1, 3, none⟩ (.int .i64 1)).setCell ⟨z1, 4, none⟩ (.bool false)).setCell ⟨z1, 5, none⟩ (.slice none 0 0)).setCell ⟨z1, 6, none⟩ (.int .i64 0)).setCell ⟨z1, 7, none⟩ (.int .i64 0)) := hW'
  rw [← e9]
  clear e9 hW' g0 g1 g2 g3 g4 g5 g6 g7 f0 f1 f2 f3 f4 f5 f6 f7
  obtain ⟨g0, g1, g2, g3, g4, g5, g6, g7⟩ := b9.cells
  exact bodyPost_ret (v := tupV firstT (.slice none 0 0)) (by unfold tupV firstT firstP; simp [results, Try.results32, go_sem, g0, g1, g2, g3, g4, g5, g6, g7, firstT, firstP]) rfl ⟨rfl, B9⟩
end Go.Proofs.Ytbhnlmlaebngmaa
