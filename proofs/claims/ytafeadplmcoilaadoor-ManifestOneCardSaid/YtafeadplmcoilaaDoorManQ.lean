/-
  The document's Same (of manifests): its contract.
-/
import Derived.Test.YtafeadplmcoilaaDoorManR
import Derived.ChangeKeysEq
import Derived.RegionTactic
import Derived.BigRegion
namespace Go.Proofs.YtafeadplmcoilaaDoor
open Go.RowKit Go.Maps
set_option linter.unusedVariables false
set_option linter.unusedSimpArgs false

theorem fields_sg : (Tryd.prog.fieldsOf 51).toList = [⟨"Seq", 3, 0, false, "", "", 0⟩, ⟨"Fmt", 3, 1, false, "", "", 8⟩, ⟨"First", 3, 2, false, "", "", 16⟩, ⟨"Count", 3, 3, false, "", "", 24⟩] := by kernel_rfl
theorem fields_rf : (Tryd.prog.fieldsOf 23).toList = [⟨"Seq", 3, 0, false, "", "", 0⟩, ⟨"Fmt", 3, 1, false, "", "", 8⟩] := by kernel_rfl
/-- '==' of segments. -/
theorem equal_sg (s t : SegP) (w : World) : (Op.equalIn 10000 51 (.agg #[.int .i64 s.sq, .int .i64 s.fm, .int .i64 s.fi, .int .i64 s.ct]) (.agg #[.int .i64 t.sq, .int .i64 t.fm, .int .i64 t.fi, .int .i64 t.ct])).run Tryd.prog w = .ok (decide (s = t)) w := by
  obtain ⟨a, b, c, d⟩ := s
  obtain ⟨a', b', c', d'⟩ := t
  rw [run_equalIn_agg w 9999 _ _ _ (by kernel_rfl) (by kernel_rfl), fields_sg]
  by_cases h1 : a = a' <;> by_cases h2 : b = b' <;> by_cases h3 : c = c' <;> by_cases h4 : d = d' <;> simp [Op.eqFields, part, go_sem, h1, h2, h3, h4]
/-- '==' of a snapshot's files. -/
theorem equal_rf (a b a' b' : Int) (w : World) : (Op.equalIn 10000 23 (.agg #[.int .i64 a, .int .i64 b]) (.agg #[.int .i64 a', .int .i64 b'])).run Tryd.prog w = .ok (decide (a = a' ∧ b = b')) w := by
  rw [run_equalIn_agg w 9999 _ _ _ (by kernel_rfl) (by kernel_rfl), fields_rf]
  by_cases h1 : a = a' <;> by_cases h2 : b = b' <;> simp [Op.eqFields, part, go_sem, h1, h2]
theorem box_new2 {w : World} (m m' : ManP) (v v' : Value) : ∃ w1 w2 z z', w1 = w.alloc (.cells #[.int .i64 m.nx, .int .i64 m.tm, .int .i64 m.vt, .int .i64 m.ss, .int .i64 m.sf, v] 26) ∧ w2 = w1.alloc (.cells #[.int .i64 m'.nx, .int .i64 m'.tm, .int .i64 m'.vt, .int .i64 m'.ss, .int .i64 m'.sf, v'] 26) ∧ z = w.heap.size ∧ z + 1 = z' ∧ Below w.heap.size w w2 ∧ BoxM w2 z m v ∧ BoxM w2 z' m' v' := by
  obtain ⟨w1, z, hw1, hz, b1, x1⟩ := box_new (w := w) m v
  obtain ⟨w2, z', hw2, hz', b2, x2⟩ := box_new (w := w1) m' v'
  refine ⟨w1, w2, z, z', hw1, hw2, hz, ?_, b1.trans (b2.mono b1.size), x1.below b2, x2⟩
  rw [hz', hw1, hz]
  simp
theorem man_ext {m m' : ManP} (h1 : m.nx = m'.nx) (h2 : m.tm = m'.tm) (h3 : m.vt = m'.vt) (h4 : m.ss = m'.ss ∧ m.sf = m'.sf) (h5 : m.sg = m'.sg) : m = m' := by
  obtain ⟨a1, a2, a3, a4, a5, a6⟩ := m
  obtain ⟨b1, b2, b3, b4, b5, b6⟩ := m'
  simp only at h1 h2 h3 h4 h5
  obtain ⟨h4, h6⟩ := h4
  subst h1 h2 h3 h4 h5 h6
  rfl
def SameM (m m' : ManP) (b : Bool) : Prop := b = true ↔ m = m'
theorem SameM.no {m m' : ManP} (h : m ≠ m') : SameM m m' false := ⟨(fun h => by cases h), fun k => absurd k h⟩
theorem SameM.yes {m m' : ManP} (h : m = m') : SameM m m' true := ⟨(fun _ => h), fun _ => rfl⟩
theorem SameM.same {m m' : ManP} {a b : Bool} (h : SameM m m' a) (h' : SameM m m' b) : a = b := Bool.eq_iff_iff.2 (h.trans h'.symm)

set_option maxRecDepth 100000 in
set_option maxHeartbeats 4000000 in
theorem rsameM_any (m m' : ManP) (A A' : Option Addr) (n n' c c' : Nat) (w : World) (hS : Sg w w.heap.size A n m.sg) (hS' : Sg w w.heap.size A' n' m'.sg) (hn : n ≤ 1000000) (hn' : n' ≤ 1000000) :
    Calls Tryd.prog 17 #[manV m (.slice A n c), manV m' (.slice A' n' c')] w fun e w' => (∃ b, SameM m m' b ∧ e = .returned (.bool b)) ∧ Below w.heap.size w w' := by
  have Hl := Lib.hid (⟨hS.len, hS'.len⟩ : _ ∧ _)
  obtain ⟨w1, w2, z, z', hw1, hw2, hz, hz', b2, x1, x2⟩ := box_new2 (w := w) m m' (.slice A n c) (.slice A' n' c')
  have HX := Lib.hid (⟨x1, x2, b2, hS.on b2 b2.size, hS'.on b2 b2.size⟩ : _ ∧ _ ∧ _ ∧ _ ∧ _)
  have HW := Lib.hid (⟨hw1, hw2, hz, hz'⟩ : _ ∧ _ ∧ _ ∧ _)
  clear x1 x2 b2 hS hS' hw1 hw2 hz hz'
  unfold manV
  have hb := Lib.hid (show Below w.heap.size w ((w.alloc (.cells #[.int .i64 m.nx, .int .i64 m.tm, .int .i64 m.vt, .int .i64 m.ss, .int .i64 m.sf, .slice A n c] 26)).alloc (.cells #[.int .i64 m'.nx, .int .i64 m'.tm, .int .i64 m'.vt, .int .i64 m'.ss, .int .i64 m'.sf, .slice A' n' c'] 26)) from by rw [← HW.out.1, ← HW.out.2.1]; exact HX.out.2.2.1)
  have he : ∀ w, (Op.equalIn 10000 23 (.agg #[.int .i64 m.ss, .int .i64 m.sf]) (.agg #[.int .i64 m'.ss, .int .i64 m'.sf])).run Tryd.prog w = .ok (decide (m.ss = m'.ss ∧ m.sf = m'.sf)) w := fun w => equal_rf _ _ _ _ w
  by_cases h1 : m.nx = m'.nx
  case neg =>
    have q1 : (m.nx != m'.nx) = true := by simpa using h1
    have Hn := Lib.hid (SameM.no (m := m) (m' := m') fun h => h1 (by rw [h]))
    clear h1 he
    go_enter Tryd.func17, Tryd.ntmps17
    go_wp2_with fail
    go_ret
    exact ⟨⟨_, Hn.out, rfl⟩, hb.out⟩
  have q1 : (m.nx != m'.nx) = false := by simp [h1]
  by_cases h2 : m.tm = m'.tm
  case neg =>
    have q2 : (m.tm != m'.tm) = true := by simpa using h2
    have Hn := Lib.hid (SameM.no (m := m) (m' := m') fun h => h2 (by rw [h]))
    clear h1 h2 he
    go_enter Tryd.func17, Tryd.ntmps17
    go_wp2_with fail
    go_ret
    exact ⟨⟨_, Hn.out, rfl⟩, hb.out⟩
  have q2 : (m.tm != m'.tm) = false := by simp [h2]
  by_cases h3 : m.vt = m'.vt
  case neg =>
    have q3 : (m.vt != m'.vt) = true := by simpa using h3
    have Hn := Lib.hid (SameM.no (m := m) (m' := m') fun h => h3 (by rw [h]))
    clear h1 h2 h3 he
    go_enter Tryd.func17, Tryd.ntmps17
    go_wp2_with fail
    go_ret
    exact ⟨⟨_, Hn.out, rfl⟩, hb.out⟩
  have q3 : (m.vt != m'.vt) = false := by simp [h3]
  by_cases h4 : m.ss = m'.ss ∧ m.sf = m'.sf
  case neg =>
    replace he : ∀ w, (Op.equalIn 10000 23 (.agg #[.int .i64 m.ss, .int .i64 m.sf]) (.agg #[.int .i64 m'.ss, .int .i64 m'.sf])).run Tryd.prog w = .ok false w := fun w => by rw [he, decide_eq_false h4]
    have Hn := Lib.hid (SameM.no (m := m) (m' := m') fun h => h4 (by rw [h]; exact ⟨rfl, rfl⟩))
    clear h1 h2 h3 h4
    go_enter Tryd.func17, Tryd.ntmps17
    go_wp2_with fail
    go_ret
    exact ⟨⟨_, Hn.out, rfl⟩, hb.out⟩
  replace he : ∀ w, (Op.equalIn 10000 23 (.agg #[.int .i64 m.ss, .int .i64 m.sf]) (.agg #[.int .i64 m'.ss, .int .i64 m'.sf])).run Tryd.prog w = .ok true w := fun w => by rw [he, decide_eq_true h4]
  by_cases h5 : n = n'
  case neg =>
    have q5 : ((n : Int) != (n' : Int)) = true := by simp; omega
    have Hn := Lib.hid (SameM.no (m := m) (m' := m') fun h => h5 (by rw [← Hl.out.1, ← Hl.out.2, h]))
    clear h1 h2 h3 h4 h5
    go_enter Tryd.func17, Tryd.ntmps17
    go_wp2_with fail
    go_ret
    exact ⟨⟨_, Hn.out, rfl⟩, hb.out⟩
  have q5 : ((n : Int) != (n' : Int)) = false := by simp; omega
  have Ha := Lib.hid (show m.sg = m'.sg → m = m' from man_ext h1 h2 h3 h4)
  have H5 := Lib.hid h5
  clear h1 h2 h3 h4 h5
  go_enter Tryd.func17, Tryd.ntmps17
  go_wp2_with fail
  rw [← HW.out.1, ← HW.out.2.1, ← HW.out.2.2.1]
  rw [HW.out.2.2.2]
  clear q1 q2 q3 q5 he hb
  go_loopw [5] (fun i wr => ∃ k : Nat, k ≤ n ∧ i = .int .i64 k ∧ m.sg.take k = m'.sg.take k ∧ Below w2.heap.size w2 wr) (fun i _ => n - (intOf i).toNat)
  case atStart => exact ⟨0, Nat.zero_le _, rfl, rfl, Below.refl _ _⟩
  obtain ⟨k, hk, rfl, heq, hB⟩ := hrel
  have Heq := Lib.hid heq
  have HB := Lib.hid (HX.out.2.2.1.trans (hB.mono HX.out.2.2.1.size))
  have HB2 := Lib.hid hB
  obtain ⟨-, -, -, -, -, x5⟩ := (HX.out.1.below hB).cells
  obtain ⟨-, -, -, -, -, y5⟩ := (HX.out.2.1.below hB).cells
  clear heq
  by_cases hlt : k < n
  · obtain ⟨b, off, s, rfl, hb, hs, d0, d1, d2, d3⟩ := (HX.out.2.2.2.1.on hB hB.size).at_ hlt
    have hlt' : k < n' := H5.out ▸ hlt
    obtain ⟨b', off', s', rfl, hb', hs', d0', d1', d2', d3'⟩ := (HX.out.2.2.2.2.on hB hB.size).at_ hlt'
    by_cases hee : s = s'
    · have Hn := Lib.hid (show m.sg.take (k + 1) = m'.sg.take (k + 1) by rw [List.take_add_one, List.take_add_one, Heq.out, hs, hs', hee])
      have hq : ∀ w, (Op.equalIn 10000 51 (.agg #[.int .i64 s.sq, .int .i64 s.fm, .int .i64 s.fi, .int .i64 s.ct]) (.agg #[.int .i64 s'.sq, .int .i64 s'.fm, .int .i64 s'.fi, .int .i64 s'.ct])).run Tryd.prog w = .ok true w := fun w => by rw [equal_sg, decide_eq_true hee]
      clear hee hs hs' hB
      go_wp2
      go_region
      all_goals
        go_wp2
        go_roundw
        case rel => exact ⟨k + 1, by omega, by go_num, Hn.out, HB2.out.drew⟩
        case measure => simp [intOf]; omega
    · have Hn := Lib.hid (SameM.no (m := m) (m' := m') fun h => hee (by rw [h, hs'] at hs; exact (Option.some.inj hs).symm))
      have hq : ∀ w, (Op.equalIn 10000 51 (.agg #[.int .i64 s.sq, .int .i64 s.fm, .int .i64 s.fi, .int .i64 s.ct]) (.agg #[.int .i64 s'.sq, .int .i64 s'.fm, .int .i64 s'.fi, .int .i64 s'.ct])).run Tryd.prog w = .ok false w := fun w => by rw [equal_sg, decide_eq_false hee]
      clear hee hs hs' hB
      go_wp2
      go_region
      all_goals
        go_wp2
        go_ret
        exact ⟨⟨_, Hn.out, rfl⟩, HB.out.drew⟩
  · have Hy := Lib.hid (SameM.yes (Ha.out (by
      have h := Heq.out
      have hk' : k = n := by omega
      rwa [hk', List.take_of_length_le (by rw [Hl.out.1]; omega), List.take_of_length_le (by rw [Hl.out.2, ← H5.out]; omega)] at h)))
    go_wp2
    go_ret
    exact ⟨⟨_, Hy.out, rfl⟩, HB.out⟩
end Go.Proofs.YtafeadplmcoilaaDoor
