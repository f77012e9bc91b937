/-
  entry.Name, moultref06.Name: their contracts.
-/
import Derived.Test.YtbaaghggilfpjaaStP
import Derived.Test.YtbaaghggilfpjaaBel
import Derived.WalkKit
import Derived.Lib.Hide
namespace Go.Proofs.Ytbaaghggilfpjaa
open Go.RowKit

def nameB (k : Int) : ByteArray := ⟨(nameK k).toArray⟩
theorem name_other {k : Int} (h : ¬ (0 ≤ k ∧ k ≤ 4)) : nameB k = ⟨#[]⟩ := by
  unfold nameB nameK
  rw [if_neg (by omega), if_neg (by omega), if_neg (by omega), if_neg (by omega), if_neg (by omega)]

set_option maxRecDepth 100000 in
set_option maxHeartbeats 400000 in
theorem name_any (k : Int) (w : World) : Calls Try.prog 19 #[.int .i64 k] w fun e w' => e = .returned (.string (nameB k)) ∧ Below w.heap.size w w' := by
  by_cases h : 0 ≤ k ∧ k ≤ 4
  · obtain rfl | rfl | rfl | rfl | rfl : k = 0 ∨ k = 1 ∨ k = 2 ∨ k = 3 ∨ k = 4 := by omega
    all_goals
      go_enter Try.func19, Try.ntmps19
      go_wp2_with fail
      go_ret
      exact ⟨rfl, below_d0 w⟩
  · have e := Lib.hid (name_other h)
    have b0 : (k == 0) = false := by simp; omega
    have b1 : (k == 1) = false := by simp; omega
    have b2 : (k == 2) = false := by simp; omega
    have b3 : (k == 3) = false := by simp; omega
    have b4 : (k == 4) = false := by simp; omega
    go_enter Try.func19, Try.ntmps19
    go_wp2_with fail
    go_ret
    exact ⟨by rw [e.out]; rfl, below_d0 w⟩

set_option maxRecDepth 100000 in
set_option maxHeartbeats 400000 in
theorem rname_any (k : Int) (w : World) : Calls Try.prog 20 #[.int .i64 k] w fun e w' => e = .returned (.string (nameB k)) ∧ Below w.heap.size w w' := by
  by_cases h : 0 ≤ k ∧ k ≤ 4
  · obtain rfl | rfl | rfl | rfl | rfl : k = 0 ∨ k = 1 ∨ k = 2 ∨ k = 3 ∨ k = 4 := by omega
    all_goals
      go_enter Try.func20, Try.ntmps20
      go_wp2_with fail
      go_ret
      exact ⟨rfl, below_al (below_d0 w) _⟩
  · have e := Lib.hid (name_other h)
    by_cases h0 : k < 0
    · go_enter Try.func20, Try.ntmps20
      have t0 : decide (k < 0) = true := by simpa using h0
      go_wp2_with fail
      go_ret
      exact ⟨by rw [e.out]; rfl, below_al (below_d0 w) _⟩
    · go_enter Try.func20, Try.ntmps20
      have t0 : decide (k < 0) = false := by simpa using h0
      have t1 : decide (5 ≤ k) = true := by simp; omega
      go_wp2_with fail
      go_ret
      exact ⟨by rw [e.out]; rfl, below_al (below_d0 w) _⟩

end Go.Proofs.Ytbaaghggilfpjaa
