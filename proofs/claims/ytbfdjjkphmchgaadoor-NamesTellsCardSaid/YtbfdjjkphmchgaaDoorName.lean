/-
  names.Name, moultref05.May: their contracts.
-/
import Derived.Test.YtbfdjjkphmchgaaDoorLetters
import Derived.Test.YtbfdjjkphmchgaaDoorShelf
namespace Go.Proofs.YtbfdjjkphmchgaaDoor
open Go.RowKit Go.Maps

/-- The library's table of powers lies there. -/
abbrev Pow (w : World) : Prop := Lib.TabIs Tryd.prog w "internal/strconv.uint64pow10" .u64 Lib.pow10Tab
theorem may_yes {k s f : Int} (h : ((k = 1 ∨ k = 2) ∧ s = 0 ∧ f = 0) ∨ ((k = 3 ∨ k = 4) ∧ 1 ≤ s ∧ s ≤ 1073741824 ∧ (f = 1 ∨ f = 2))) : decide (MayP ⟨k, s, f⟩) = true := decide_eq_true h
theorem may_no {k s f : Int} (h : ¬ (((k = 1 ∨ k = 2) ∧ s = 0 ∧ f = 0) ∨ ((k = 3 ∨ k = 4) ∧ 1 ≤ s ∧ s ≤ 1073741824 ∧ (f = 1 ∨ f = 2)))) : decide (MayP ⟨k, s, f⟩) = false := decide_eq_false h

theorem name_yes {x : IdP} (h : MayP x) : nameP x = ⟨(txtP x).toArray⟩ ∧ errP x = 0 := by
  unfold nameP errP
  rw [if_pos h, if_pos h]
  exact ⟨rfl, rfl⟩
theorem name_no {x : IdP} (h : ¬ MayP x) : nameP x = ⟨#[]⟩ ∧ errP x = 2 := by
  unfold nameP errP
  rw [if_neg h, if_neg h]
  exact ⟨rfl, rfl⟩

set_option maxRecDepth 100000 in
set_option maxHeartbeats 4000000 in
theorem may_any (x : IdP) (w : World) : Calls Tryd.prog 24 #[x.v] w fun e w' => e = .returned (.bool (decide (MayP x))) ∧ Below w.heap.size w w' := by
  obtain ⟨k, s, f⟩ := x
  go_enter Tryd.func24, Tryd.ntmps24
  unfold IdP.v
  by_cases h1 : k = 1
  · subst h1
    by_cases hs : s = 0
    · subst hs
      by_cases hf : f = 0
      · subst hf
        have Hv := Lib.hid (may_yes (k := 1) (s := 0) (f := 0) (by omega))
        rw [Hv.out]
        clear Hv
        go_wp2_with fail
        go_ret
        exact ⟨by first | rfl | simp_all, below_al (below_d0 w) _⟩
      · skip
        have Hv := Lib.hid (may_no (k := 1) (s := 0) (f := f) (by omega))
        rw [Hv.out]
        clear Hv
        go_wp2_with fail
        go_ret
        exact ⟨by first | rfl | simp_all, below_al (below_d0 w) _⟩
    · skip
      have Hv := Lib.hid (may_no (k := 1) (s := s) (f := f) (by omega))
      rw [Hv.out]
      clear Hv
      go_wp2_with fail
      go_ret
      exact ⟨by first | rfl | simp_all, below_al (below_d0 w) _⟩
  · skip
    by_cases h2 : k = 2
    · subst h2
      by_cases hs : s = 0
      · subst hs
        by_cases hf : f = 0
        · subst hf
          have Hv := Lib.hid (may_yes (k := 2) (s := 0) (f := 0) (by omega))
          rw [Hv.out]
          clear Hv
          go_wp2_with fail
          go_ret
          exact ⟨by first | rfl | simp_all, below_al (below_d0 w) _⟩
        · skip
          have Hv := Lib.hid (may_no (k := 2) (s := 0) (f := f) (by omega))
          rw [Hv.out]
          clear Hv
          go_wp2_with fail
          go_ret
          exact ⟨by first | rfl | simp_all, below_al (below_d0 w) _⟩
      · skip
        have Hv := Lib.hid (may_no (k := 2) (s := s) (f := f) (by omega))
        rw [Hv.out]
        clear Hv
        go_wp2_with fail
        go_ret
        exact ⟨by first | rfl | simp_all, below_al (below_d0 w) _⟩
    · skip
      by_cases h3 : k = 3
      · subst h3
        by_cases ha : (1 : Int) ≤ s
        · have tha : decide ((1 : Int) ≤ s) = true := by simpa using ha
          by_cases hb : s ≤ (1073741824 : Int)
          · have thb : decide (s ≤ (1073741824 : Int)) = true := by simpa using hb
            by_cases hf : f = 1
            · subst hf
              have Hv := Lib.hid (may_yes (k := 3) (s := s) (f := 1) (by omega))
              rw [Hv.out]
              clear Hv
              go_wp2_with fail
              go_ret
              exact ⟨by first | rfl | simp_all, below_al (below_d0 w) _⟩
            · skip
              by_cases hg : f = 2
              · subst hg
                have Hv := Lib.hid (may_yes (k := 3) (s := s) (f := 2) (by omega))
                rw [Hv.out]
                clear Hv
                go_wp2_with fail
                go_ret
                exact ⟨by first | rfl | simp_all, below_al (below_d0 w) _⟩
              · skip
                have Hv := Lib.hid (may_no (k := 3) (s := s) (f := f) (by omega))
                rw [Hv.out]
                clear Hv
                go_wp2_with fail
                go_ret
                exact ⟨by first | rfl | simp_all, below_al (below_d0 w) _⟩
          · have thb : decide (s ≤ (1073741824 : Int)) = false := by simpa using hb
            have Hv := Lib.hid (may_no (k := 3) (s := s) (f := f) (by omega))
            rw [Hv.out]
            clear Hv
            go_wp2_with fail
            go_ret
            exact ⟨by first | rfl | simp_all, below_al (below_d0 w) _⟩
        · have tha : decide ((1 : Int) ≤ s) = false := by simpa using ha
          have Hv := Lib.hid (may_no (k := 3) (s := s) (f := f) (by omega))
          rw [Hv.out]
          clear Hv
          go_wp2_with fail
          go_ret
          exact ⟨by first | rfl | simp_all, below_al (below_d0 w) _⟩
      · skip
        by_cases h4 : k = 4
        · subst h4
          by_cases ha : (1 : Int) ≤ s
          · have tha : decide ((1 : Int) ≤ s) = true := by simpa using ha
            by_cases hb : s ≤ (1073741824 : Int)
            · have thb : decide (s ≤ (1073741824 : Int)) = true := by simpa using hb
              by_cases hf : f = 1
              · subst hf
                have Hv := Lib.hid (may_yes (k := 4) (s := s) (f := 1) (by omega))
                rw [Hv.out]
                clear Hv
                go_wp2_with fail
                go_ret
                exact ⟨by first | rfl | simp_all, below_al (below_d0 w) _⟩
              · skip
                by_cases hg : f = 2
                · subst hg
                  have Hv := Lib.hid (may_yes (k := 4) (s := s) (f := 2) (by omega))
                  rw [Hv.out]
                  clear Hv
                  go_wp2_with fail
                  go_ret
                  exact ⟨by first | rfl | simp_all, below_al (below_d0 w) _⟩
                · skip
                  have Hv := Lib.hid (may_no (k := 4) (s := s) (f := f) (by omega))
                  rw [Hv.out]
                  clear Hv
                  go_wp2_with fail
                  go_ret
                  exact ⟨by first | rfl | simp_all, below_al (below_d0 w) _⟩
            · have thb : decide (s ≤ (1073741824 : Int)) = false := by simpa using hb
              have Hv := Lib.hid (may_no (k := 4) (s := s) (f := f) (by omega))
              rw [Hv.out]
              clear Hv
              go_wp2_with fail
              go_ret
              exact ⟨by first | rfl | simp_all, below_al (below_d0 w) _⟩
          · have tha : decide ((1 : Int) ≤ s) = false := by simpa using ha
            have Hv := Lib.hid (may_no (k := 4) (s := s) (f := f) (by omega))
            rw [Hv.out]
            clear Hv
            go_wp2_with fail
            go_ret
            exact ⟨by first | rfl | simp_all, below_al (below_d0 w) _⟩
        · skip
          have b1 : (k == 1) = false := by simpa using h1
          have b2 : (k == 2) = false := by simpa using h2
          have b3 : (k == 3) = false := by simpa using h3
          have b4 : (k == 4) = false := by simpa using h4
          have Hv := Lib.hid (may_no (k := k) (s := s) (f := f) (by omega))
          rw [Hv.out]
          clear Hv
          go_wp2_with fail
          go_ret
          exact ⟨by first | rfl | simp_all, below_al (below_d0 w) _⟩

end Go.Proofs.YtbfdjjkphmchgaaDoor
