/-
  manifest.Open, Two, Own, Same: their contracts.
-/
import Derived.Test.YtafeadplmcoilaaDoorManQ
import Derived.Lib.SliceRun
namespace Go.Proofs.YtafeadplmcoilaaDoor
open Go.RowKit Go.Maps
set_option linter.unusedVariables false
set_option linter.unusedSimpArgs false

set_option maxRecDepth 100000 in
set_option maxHeartbeats 1000000 in
theorem open_any (m : ManP) (A : Option Addr) (n c : Nat) (w : World) (hS : Sg w w.heap.size A n m.sg) (hn : n ≤ 1000000) :
    Calls Tryd.prog 14 #[manV m (.slice A n c)] w fun e w' => (∃ i ok, OpenIs m i ok ∧ e = .returned (.tuple #[.int .i64 i, .bool ok])) ∧ Below w.heap.size w w' := by
  have Hl := Lib.hid hS.len
  unfold manV
  by_cases h0 : n = 0
  · have Hno := Lib.hid (show OpenIs m (-1) false from ⟨n, Hl.out, .inr ⟨fun ⟨_, _, h, _⟩ => by omega, rfl, rfl⟩⟩)
    clear hS
    subst h0
    go_enter Tryd.func14, Tryd.ntmps14
    go_wp2_with fail
    go_ret2
    exact ⟨⟨_, _, Hno.out, rfl⟩, below_al (below_d0 w) _⟩
  · obtain ⟨p, rfl⟩ : ∃ p, n = p + 1 := ⟨n - 1, by omega⟩
    obtain ⟨b, off, s, rfl, hb, hs, d0, d1, d2, d3⟩ := hS.at_ (show p < p + 1 by omega)
    have Hs := Lib.hid hs
    clear hs hS d0 d1 d2 h0
    have a1 : wrap64 (((p + 1 : Nat) : Int) - 1) = (p : Int) := by unfold wrap64; omega
    have a2 : IntKind.i64.wrap (((p + 1 : Nat) : Int) - 1) = (p : Int) := by rw [IntKind.wrap_i64]; omega
    by_cases h1 : s.ct = -1
    · have b1 : (s.ct != -1) = false := by simp [h1]
      have Hy := Lib.hid (show OpenIs m (p : Int) true from ⟨p + 1, Hl.out, .inl ⟨⟨s, Hs.out, by omega, h1⟩, by omega, rfl⟩⟩)
      clear h1
      go_enter Tryd.func14, Tryd.ntmps14
      go_wp2_with fail
      go_ret2
      exact ⟨⟨_, _, Hy.out, rfl⟩, below_al (below_d0 w) _⟩
    · have b1 : (s.ct != -1) = true := by simpa using h1
      have Hy := Lib.hid (show OpenIs m (-1) false from ⟨p + 1, Hl.out, .inr ⟨fun ⟨t, ht, _, h⟩ => h1 (by rw [show p + 1 - 1 = p by omega, Hs.out] at ht; rw [Option.some.inj ht]; exact h), rfl, rfl⟩⟩)
      go_enter Tryd.func14, Tryd.ntmps14
      go_wp2_with fail
      go_ret2
      exact ⟨⟨_, _, Hy.out, rfl⟩, below_al (below_d0 w) _⟩

theorem two1_any (s : SegP) (w : World) : Calls Tryd.prog 46 #[s.v] w fun e w' => e = .returned (.bool (decide (s.fm = 2))) ∧ Below w.heap.size w w' := by
  unfold SegP.v
  by_cases h : s.fm = 2
  · have q : (s.fm == 2) = true := by simpa using h
    rw [decide_eq_true h]
    clear h
    go_enter Tryd.func46, Tryd.ntmps46
    go_wp2_with fail
    go_ret
    exact ⟨by first | rfl | simp_all, below_al (below_d0 w) _⟩
  · have q : (s.fm == 2) = false := by simpa using h
    rw [decide_eq_false h]
    clear h
    go_enter Tryd.func46, Tryd.ntmps46
    go_wp2_with fail
    go_ret
    exact ⟨by first | rfl | simp_all, below_al (below_d0 w) _⟩
/-- Where the first of the second format stands. -/
def IdxIs (l : List SegP) (i : Int) : Prop := (∃ (k : Nat) (s : SegP), i = (k : Int) ∧ l[k]? = some s ∧ s.fm = 2) ∨ (i = -1 ∧ ∀ (k : Nat) (s : SegP), l[k]? = some s → s.fm ≠ 2)
set_option maxRecDepth 100000 in
set_option maxHeartbeats 1000000 in
theorem index2_any (l : List SegP) (A : Option Addr) (n c : Nat) (w : World) (hS : Sg w w.heap.size A n l) (hn : n ≤ 1000000) :
    Calls Tryd.prog 63 #[.slice A n c, .func (.func 46) #[] #[]] w fun e w' => (∃ i, IdxIs l i ∧ e = .returned (.int .i64 i)) ∧ Below w.heap.size w w' := by
  have HX := Lib.hid (⟨hS, hS.len⟩ : _ ∧ _)
  clear hS
  go_enter Tryd.func63, Tryd.ntmps63
  go_wp2_with fail
  go_loopw [8] (fun i wr => ∃ k : Nat, k ≤ n ∧ i = .int .i64 k ∧ (∀ j s, j < k → l[j]? = some s → s.fm ≠ 2) ∧ Below w.heap.size w wr) (fun i _ => n - (intOf i).toNat)
  case atStart => exact ⟨0, Nat.zero_le _, rfl, fun j s h => absurd h (by omega), below_d0 w⟩
  obtain ⟨k, hk, rfl, hno, hB⟩ := hrel
  have HN := Lib.hid (⟨hno, hB⟩ : _ ∧ _)
  by_cases hlt : k < n
  · obtain ⟨b, off, s, rfl, hb, hs, d0, d1, d2, d3⟩ := (HX.out.1.on hB hB.size).at_ hlt
    have Hs := Lib.hid hs
    have hc := two1_any s wr
    unfold SegP.v at hc
    clear hno hB hs hb
    go_wp2_with fail
    refine hc.mono ?_
    rintro e w1 ⟨rfl, hb1⟩
    have H1 := Lib.hid (HN.out.2.trans (hb1.mono HN.out.2.size))
    clear hb1 hc d0 d1 d2 d3
    by_cases h1 : s.fm = 2
    · rw [decide_eq_true h1]
      have Hy := Lib.hid (show IdxIs l (k : Int) from .inl ⟨k, s, rfl, Hs.out, h1⟩)
      clear h1
      go_wp2_with fail
      go_ret
      exact ⟨⟨_, Hy.out, rfl⟩, H1.out⟩
    · rw [decide_eq_false h1]
      have Hn := Lib.hid h1
      clear h1
      go_wp2_with fail
      go_roundw
      case rel =>
        refine ⟨k + 1, by omega, by go_num, fun j t hj ht => ?_, H1.out⟩
        by_cases hjk : j = k
        · subst hjk
          rw [Hs.out] at ht
          rw [← Option.some.inj ht]
          exact Hn.out
        · exact HN.out.1 j t (by omega) ht
      case measure => simp [intOf]; omega
  · have Hy := Lib.hid (show IdxIs l (-1) from .inr ⟨rfl, fun i s hi => HN.out.1 i s (by have h1 := (List.getElem?_eq_some_iff.1 hi).1; have h2 := HX.out.2; omega) hi⟩)
    clear hno hB
    go_wp2_with fail
    go_ret
    exact ⟨⟨_, Hy.out, rfl⟩, HN.out.2⟩
theorem contains2_any (l : List SegP) (A : Option Addr) (n c : Nat) (w : World) (hS : Sg w w.heap.size A n l) (hn : n ≤ 1000000) :
    Calls Tryd.prog 45 #[.slice A n c, .func (.func 46) #[] #[]] w fun e w' => (∃ b : Bool, (b = true ↔ ∃ (i : Nat) (s : SegP), l[i]? = some s ∧ s.fm = 2) ∧ e = .returned (.bool b)) ∧ Below w.heap.size w w' := by
  have hc := index2_any l A n c w hS hn
  clear hS
  go_enter Tryd.func45, Tryd.ntmps45
  go_wp2_with fail
  refine hc.mono ?_
  rintro e w1 ⟨⟨i, hi, rfl⟩, hb1⟩
  have H1 := Lib.hid hb1
  clear hb1 hc
  rcases hi with ⟨k, s, rfl, hs, h2⟩ | ⟨rfl, hno⟩
  · have Hy := Lib.hid (⟨k, s, hs, h2⟩ : ∃ (i : Nat) (s : SegP), l[i]? = some s ∧ s.fm = 2)
    clear hs h2
    go_wp2_with fail
    go_ret
    exact ⟨⟨true, ⟨fun _ => Hy.out, fun _ => rfl⟩, by simp⟩, H1.out⟩
  · have Hy := Lib.hid hno
    clear hno
    go_wp2_with fail
    go_ret
    exact ⟨⟨false, ⟨(fun h => by cases h), fun ⟨i, s, hi, h2⟩ => absurd h2 (Hy.out i s hi)⟩, by simp⟩, H1.out⟩
set_option maxRecDepth 100000 in
set_option maxHeartbeats 1000000 in
theorem two_any (m : ManP) (A : Option Addr) (n c : Nat) (w : World) (hS : Sg w w.heap.size A n m.sg) (hn : n ≤ 1000000) :
    Calls Tryd.prog 23 #[manV m (.slice A n c)] w fun e w' => (∃ b, TwoIs m b ∧ e = .returned (.bool b)) ∧ Below w.heap.size w w' := by
  unfold manV
  obtain ⟨w1, z, hw1, hz, b1, bx⟩ := box_new (w := w) m (.slice A n c)
  by_cases h0 : m.sf = 2
  · have q0 : (m.sf == 2) = true := by simpa using h0
    have Hy := Lib.hid (show TwoIs m true from ⟨fun _ => .inl h0, fun _ => rfl⟩)
    clear hS bx h0 b1 hw1
    go_enter Tryd.func23, Tryd.ntmps23
    go_wp2_with fail
    go_ret
    exact ⟨⟨_, Hy.out, rfl⟩, below_al (below_d0 w) _⟩
  · have q0 : (m.sf == 2) = false := by simpa using h0
    have hc := contains2_any m.sg A n c w1 (hS.on b1 b1.size) hn
    have HW := Lib.hid (⟨hw1, hz, b1, h0⟩ : _ ∧ _ ∧ _ ∧ _)
    clear bx b1 hS h0 hw1 hz
    go_enter Tryd.func23, Tryd.ntmps23
    go_wp2_with fail
    rw [← HW.out.1]
    refine hc.mono ?_
    rintro e w2 ⟨⟨b, hb, rfl⟩, hb2⟩
    have Hy := Lib.hid (show TwoIs m b ∧ Below w.heap.size w w2 from ⟨⟨fun h => .inr (hb.1 h), fun h => hb.2 (h.resolve_left HW.out.2.2.2)⟩, HW.out.2.2.1.trans (hb2.mono HW.out.2.2.1.size)⟩)
    clear hb hb2 hc
    go_wp2_with fail
    go_ret
    exact ⟨⟨b, Hy.out.1, rfl⟩, Hy.out.2⟩
end Go.Proofs.YtafeadplmcoilaaDoor
