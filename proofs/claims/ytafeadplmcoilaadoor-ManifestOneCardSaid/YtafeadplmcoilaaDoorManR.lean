/-
  The document's Open, Two: their contracts.
-/
import Derived.Test.YtafeadplmcoilaaDoorManS
namespace Go.Proofs.YtafeadplmcoilaaDoor
open Go.RowKit Go.Maps
set_option linter.unusedVariables false

theorem box_new {w : World} (m : ManP) (v : Value) : ∃ w1 z, w1 = w.alloc (.cells #[.int .i64 m.nx, .int .i64 m.tm, .int .i64 m.vt, .int .i64 m.ss, .int .i64 m.sf, v] 26) ∧ z = w.heap.size ∧ Below w.heap.size w w1 ∧ BoxM w1 z m v :=
  ⟨_, _, rfl, rfl, (Below.refl _ _).alloc (Nat.le_refl _) _, BoxM.new _ _ _⟩
def openAt (m : ManP) (n : Nat) : Prop := ∃ s, m.sg[n - 1]? = some s ∧ 0 < n ∧ s.ct = -1
/-- What Open answers: the place of the open one. -/
def OpenIs (m : ManP) (i : Int) (ok : Bool) : Prop := ∃ n, m.sg.length = n ∧ ((openAt m n ∧ i = (n : Int) - 1 ∧ ok = true) ∨ (¬ openAt m n ∧ i = -1 ∧ ok = false))
theorem OpenIs.same {m : ManP} {i j : Int} {a b : Bool} (h : OpenIs m i a) (h' : OpenIs m j b) : i = j ∧ a = b := by
  obtain ⟨n, hn, h⟩ := h
  obtain ⟨n', hn', h'⟩ := h'
  obtain rfl : n = n' := hn.symm.trans hn'
  rcases h with ⟨h, rfl, rfl⟩ | ⟨h, rfl, rfl⟩ <;> rcases h' with ⟨h', rfl, rfl⟩ | ⟨h', rfl, rfl⟩
  · exact ⟨rfl, rfl⟩
  · exact absurd h h'
  · exact absurd h' h
  · exact ⟨rfl, rfl⟩
set_option maxRecDepth 100000 in
set_option maxHeartbeats 1000000 in
theorem ropen_any (m : ManP) (A : Option Addr) (n c : Nat) (w : World) (hS : Sg w w.heap.size A n m.sg) (hn : n ≤ 1000000) :
    Calls Tryd.prog 15 #[manV m (.slice A n c)] w fun e w' => (∃ i ok, OpenIs m i ok ∧ e = .returned (.tuple #[.int .i64 i, .bool ok])) ∧ Below w.heap.size w w' := by
  have Hl := Lib.hid hS.len
  unfold manV
  by_cases h0 : n = 0
  · have Hno := Lib.hid (show OpenIs m (-1) false from ⟨n, Hl.out, .inr ⟨fun ⟨_, _, h, _⟩ => by omega, rfl, rfl⟩⟩)
    clear hS
    subst h0
    go_enter Tryd.func15, Tryd.ntmps15
    go_wp2_with fail
    go_ret2
    exact ⟨⟨_, _, Hno.out, rfl⟩, below_al (below_d0 w) _⟩
  · obtain ⟨p, rfl⟩ : ∃ p, n = p + 1 := ⟨n - 1, by omega⟩
    obtain ⟨b, off, s, rfl, hb, hs, d0, d1, d2, d3⟩ := hS.at_ (show p < p + 1 by omega)
    have Hs := Lib.hid hs
    clear hs hS d0 d1 d2 h0
    have a1 : wrap64 (((p + 1 : Nat) : Int) - 1) = (p : Int) := by unfold wrap64; omega
    have a2 : IntKind.i64.wrap (((p + 1 : Nat) : Int) - 1) = (p : Int) := by rw [IntKind.wrap_i64]; omega
    by_cases h1 : s.ct = -1
    · have b1 : (s.ct != -1) = false := by simp [h1]
      have Hy := Lib.hid (show OpenIs m (p : Int) true from ⟨p + 1, Hl.out, .inl ⟨⟨s, Hs.out, by omega, h1⟩, by omega, rfl⟩⟩)
      clear h1
      go_enter Tryd.func15, Tryd.ntmps15
      go_wp2_with fail
      go_ret2
      exact ⟨⟨_, _, Hy.out, rfl⟩, below_al (below_d0 w) _⟩
    · have b1 : (s.ct != -1) = true := by simpa using h1
      have Hy := Lib.hid (show OpenIs m (-1) false from ⟨p + 1, Hl.out, .inr ⟨fun ⟨t, ht, _, h⟩ => h1 (by rw [show p + 1 - 1 = p by omega, Hs.out] at ht; rw [Option.some.inj ht]; exact h), rfl, rfl⟩⟩)
      go_enter Tryd.func15, Tryd.ntmps15
      go_wp2_with fail
      go_ret2
      exact ⟨⟨_, _, Hy.out, rfl⟩, below_al (below_d0 w) _⟩
/-- Is a format the second one? -/
def TwoM (m : ManP) : Prop := m.sf = 2 ∨ ∃ (i : Nat) (s : SegP), m.sg[i]? = some s ∧ s.fm = 2
def TwoIs (m : ManP) (b : Bool) : Prop := b = true ↔ TwoM m
theorem TwoIs.same {m : ManP} {a b : Bool} (h : TwoIs m a) (h' : TwoIs m b) : a = b := Bool.eq_iff_iff.2 (h.trans h'.symm)
theorem two_no {m : ManP} (h0 : ¬ m.sf = 2) (h : ∀ (i : Nat) (s : SegP), m.sg[i]? = some s → s.fm ≠ 2) : TwoIs m false := by
  refine ⟨(fun h => by cases h), fun k => ?_⟩
  rcases k with k | ⟨i, s, hi, k⟩
  · exact absurd k h0
  · exact absurd k (h i s hi)
set_option maxRecDepth 100000 in
set_option maxHeartbeats 1000000 in
theorem rtwo_any (m : ManP) (A : Option Addr) (n c : Nat) (w : World) (hS : Sg w w.heap.size A n m.sg) (hn : n ≤ 1000000) :
    Calls Tryd.prog 24 #[manV m (.slice A n c)] w fun e w' => (∃ b, TwoIs m b ∧ e = .returned (.bool b)) ∧ Below w.heap.size w w' := by
  have Hl := Lib.hid hS.len
  unfold manV
  obtain ⟨w1, z, hw1, hz, b1, bx⟩ := box_new (w := w) m (.slice A n c)
  by_cases h0 : m.sf = 2
  · have q0 : (m.sf == 2) = true := by simpa using h0
    have Hy := Lib.hid (show TwoIs m true from ⟨fun _ => .inl h0, fun _ => rfl⟩)
    clear hS bx h0 b1 hw1
    go_enter Tryd.func24, Tryd.ntmps24
    go_wp2_with fail
    go_ret
    exact ⟨⟨_, Hy.out, rfl⟩, below_al (below_d0 w) _⟩
  · have q0 : (m.sf == 2) = false := by simpa using h0
    have HX := Lib.hid (⟨bx, b1, hS.on b1 b1.size, h0⟩ : _ ∧ _ ∧ _ ∧ _)
    have HW := Lib.hid (⟨hw1, hz⟩ : _ ∧ _)
    clear bx b1 hS h0 hw1 hz
    go_enter Tryd.func24, Tryd.ntmps24
    go_wp2_with fail
    rw [← HW.out.1, ← HW.out.2]
    clear q0
    go_loopw [3] (fun i wr => ∃ k : Nat, k ≤ n ∧ i = .int .i64 k ∧ (∀ j s, j < k → m.sg[j]? = some s → s.fm ≠ 2) ∧ wr = w1) (fun i _ => n - (intOf i).toNat)
    case atStart => exact ⟨0, Nat.zero_le _, rfl, fun j s h => absurd h (by omega), rfl⟩
    obtain ⟨k, hk, rfl, hno, rfl⟩ := hrel
    obtain ⟨x0, x1, x2, x3, x4, x5⟩ := HX.out.1.cells
    have HN := Lib.hid hno
    clear hno x0 x1 x2 x3 x4
    by_cases hlt : k < n
    · obtain ⟨b, off, s, rfl, hb, hs, d0, d1, d2, d3⟩ := HX.out.2.2.1.at_ hlt
      have Hs := Lib.hid hs
      clear hs hb d0 d2 d3
      by_cases h1 : s.fm = 2
      · have q1 : (s.fm == 2) = true := by simpa using h1
        have Hy := Lib.hid (show TwoIs m true from ⟨fun _ => .inr ⟨k, s, Hs.out, h1⟩, fun _ => rfl⟩)
        clear h1
        go_wp2_with fail
        go_ret
        exact ⟨⟨_, Hy.out, rfl⟩, HX.out.2.1⟩
      · have q1 : (s.fm == 2) = false := by simpa using h1
        have H1 := Lib.hid h1
        clear h1
        go_wp2_with fail
        go_roundw
        case rel =>
          refine ⟨k + 1, by omega, by go_num, fun j t hj ht => ?_, trivial⟩
          by_cases hjk : j = k
          · subst hjk
            rw [Hs.out] at ht
            rw [← Option.some.inj ht]
            exact H1.out
          · exact HN.out j t (by omega) ht
        case measure => simp [intOf]; omega
    · have Hy := Lib.hid (two_no HX.out.2.2.2 fun i s hi => HN.out i s (by have h1 := (List.getElem?_eq_some_iff.1 hi).1; have h2 := Hl.out; omega) hi)
      go_wp2_with fail
      go_ret
      exact ⟨⟨_, Hy.out, rfl⟩, HX.out.2.1⟩
end Go.Proofs.YtafeadplmcoilaaDoor
