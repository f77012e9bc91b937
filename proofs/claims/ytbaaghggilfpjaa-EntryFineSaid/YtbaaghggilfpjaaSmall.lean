/-
  The small functions of entry: within, number, Right, First, Fine: their contracts.
-/
import Derived.Test.YtbaaghggilfpjaaStP
import Derived.Test.YtbaaghggilfpjaaBel
import Derived.Test.YtbaaghggilfpjaaDraw
import Derived.Deep.QuietTactic
import Derived.BigQuiet
import Derived.Laws.StructEq
import Derived.Outline
namespace Go.Proofs.Ytbaaghggilfpjaa
open Go.RowKit

theorem beq_eq_decide (a b : Int) : (a == b) = decide (a = b) := by rw [Bool.eq_iff_iff]; simp
theorem within_any (n a b : Int) (w : World) : Calls Try.prog 24 #[.int .i64 n, .int .i64 a, .int .i64 b] w fun e w' => e = .returned (.bool (inB n a b)) ∧ w' = w := by
  by_cases h : a ≤ n
  · by_cases h2 : n ≤ b
    · have e1 := Lib.hid (inB_yes ⟨h, h2⟩)
      go_enter Try.func24, Try.ntmps24
      go_wp2_with fail
      go_ret
      exact ⟨by rw [e1.out]; first | rfl | simp [h, h2], rfl⟩
    · have e1 := Lib.hid (inB_no (n := n) (a := a) (b := b) (by omega))
      go_enter Try.func24, Try.ntmps24
      go_wp2_with fail
      go_ret
      exact ⟨by rw [e1.out]; first | rfl | simp [h, h2], rfl⟩
  · have e1 := Lib.hid (inB_no (n := n) (a := a) (b := b) (by omega))
    go_enter Try.func24, Try.ntmps24
    go_wp2_with fail
    go_ret
    exact ⟨by rw [e1.out]; first | rfl | simp [h], rfl⟩
theorem number_any (n : Int) (w : World) : Calls Try.prog 25 #[.int .i64 n] w fun e w' => e = .returned (.bool (inB n 0 1073741824)) ∧ w' = w := by
  by_cases h : 0 ≤ n
  · by_cases h2 : n ≤ 1073741824
    · have e1 := Lib.hid (inB_yes (a := 0) (b := 1073741824) ⟨h, h2⟩)
      go_enter Try.func25, Try.ntmps25
      go_wp2_with fail
      go_ret
      exact ⟨by rw [e1.out]; first | rfl | simp [h, h2], rfl⟩
    · have e1 := Lib.hid (inB_no (n := n) (a := 0) (b := 1073741824) (by omega))
      go_enter Try.func25, Try.ntmps25
      go_wp2_with fail
      go_ret
      exact ⟨by rw [e1.out]; first | rfl | simp [h, h2], rfl⟩
  · have e1 := Lib.hid (inB_no (n := n) (a := 0) (b := 1073741824) (by omega))
    go_enter Try.func25, Try.ntmps25
    go_wp2_with fail
    go_ret
    exact ⟨by rw [e1.out]; first | rfl | simp [h], rfl⟩

theorem right_any (e : EnP) (w : World) : Calls Try.prog 9 #[e.v] w fun r w' => r = .returned (.bool (rightB e)) ∧ Below w.heap.size w w' := by
  obtain ⟨t, k, v⟩ := e
  unfold EnP.v
  have key : rightB ⟨t, k, v⟩ = (inB t 1 1073741824 && inB k 0 4 && (if k = 1 then inB v 0 1073741824 else decide (v = 0))) := by
    rw [Bool.eq_iff_iff, rightB_iff]
    unfold RightP
    by_cases h : k = 1
    · simp [inB, h]
    · simp [inB, h]; omega
  have Hk := Lib.hid key
  clear key
  by_cases h1 : inB t 1 1073741824 = true
  · by_cases h2 : inB k 0 4 = true
    · by_cases h3 : k = 1
      · subst h3
        go_enter Try.func9, Try.ntmps9
        go_wp2_with (go_at_call 24; refine (within_any _ _ _ _).mono ?_; rintro e w' ⟨rfl, rfl⟩)
        go_ret
        exact ⟨by rw [Hk.out]; simp [h1, h2], below_al (below_d0 w) _⟩
      · have b3 : (k == 1) = false := by simpa using h3
        go_enter Try.func9, Try.ntmps9
        go_wp2_with (go_at_call 24; refine (within_any _ _ _ _).mono ?_; rintro e w' ⟨rfl, rfl⟩)
        all_goals
          go_ret
          exact ⟨ret_bool (by rw [Hk.out, h1, h2, if_neg h3, beq_eq_decide]; rfl), below_al (below_d0 w) _⟩
    · replace h2 := Bool.eq_false_iff.2 h2
      go_enter Try.func9, Try.ntmps9
      go_wp2_with (go_at_call 24; refine (within_any _ _ _ _).mono ?_; rintro e w' ⟨rfl, rfl⟩)
      go_ret
      exact ⟨by rw [Hk.out]; simp [h1, h2], below_al (below_d0 w) _⟩
  · replace h1 := Bool.eq_false_iff.2 h1
    go_enter Try.func9, Try.ntmps9
    go_wp2_with (go_at_call 24; refine (within_any _ _ _ _).mono ?_; rintro e w' ⟨rfl, rfl⟩)
    go_ret
    exact ⟨by rw [Hk.out]; simp [h1], below_al (below_d0 w) _⟩

theorem first_any (w : World) : Calls Try.prog 13 #[] w fun r w' => r = .returned firstP.v ∧ Below w.heap.size w w' := by
  go_enter Try.func13, Try.ntmps13
  go_wp2_with fail
  exact bodyPost_ret (v := .agg #[.int .i64 0, .int .i64 0, .int .i64 0, .int .i64 1, .bool false]) (by simp [results, Try.results13, go_sem]) rfl ⟨rfl, below_al (below_d0 w) _⟩
theorem rfirst_any (w : World) : Calls Try.prog 14 #[] w fun r w' => r = .returned firstP.v ∧ Below w.heap.size w w' := by
  go_enter Try.func14, Try.ntmps14
  go_wp2_with fail
  exact bodyPost_ret (v := .agg #[.int .i64 0, .int .i64 0, .int .i64 0, .int .i64 1, .bool false]) (by simp [results, Try.results14, go_sem]) rfl ⟨rfl, below_al (below_d0 w) _⟩

end Go.Proofs.Ytbaaghggilfpjaa
